/- QMix: BMem, BFloat, CFloat, DFloat, EMix, EInv, GFlags, GPad, GTwo, merged. -/
import Derived.Test.YtcjeckjmoponkaaGreatDoorProg
import Derived.WalkKit
import Derived.WalkSpells
import Derived.WalkLawsBesides
import Derived.OneCell
import Derived.Sort.Grow
import Derived.Lib.Hide
import Derived.ArgAppend
import Derived.OwnWalk
import Derived.Lib.SliceRun
import Derived.WideShapes
import Derived.Shelf.SlSortCmp.QuietGrown
import Derived.Laws.CopyOwn
import Derived.StillTail
import Derived.OrdersHeld
import Derived.Deep.RegionHeld
import Derived.BigRegion
/- What is of no program: which blocks may change, rows that a call owns, worlds that have only grown. -/
namespace Go.Proofs.YtcjeckjmoponkaaGreatDoor
open Go.RowKit Go.Sort
set_option linter.unusedVariables false
set_option linter.unusedSimpArgs false

/-- At most the blocks of F have changed; there may be new ones. -/
structure Fr (F : List Nat) (w w' : World) : Prop where
  os : w'.os = w.os
  tape : w'.tape = w.tape
  output : w'.output = w.output
  size : w.heap.size ≤ w'.heap.size
  block : ∀ k, k < w.heap.size → k ∉ F → w'.heap[k]? = w.heap[k]?

theorem Fr.refl (F : List Nat) (w : World) : Fr F w w := ⟨rfl, rfl, rfl, Nat.le_refl _, fun _ _ _ => rfl⟩
theorem Fr.trans {F G : List Nat} {a b c : World} (h : Fr F a b) (k : Fr G b c) (hs : ∀ x, x ∈ G → x ∈ F ∨ a.heap.size ≤ x) : Fr F a c :=
  ⟨k.os.trans h.os, k.tape.trans h.tape, k.output.trans h.output, Nat.le_trans h.size k.size, fun i hi hn =>
    (k.block i (Nat.lt_of_lt_of_le hi h.size) (fun hg => by rcases hs i hg with h' | h'; exact hn h'; omega)).trans (h.block i hi hn)⟩
theorem Fr.trans' {F : List Nat} {a b c : World} (h : Fr F a b) (k : Fr F b c) : Fr F a c := h.trans k fun _ hx => .inl hx
theorem Fr.mono {F G : List Nat} {w w' : World} (h : Fr F w w') (hs : ∀ x, x ∈ F → x ∈ G ∨ w.heap.size ≤ x) : Fr G w w' :=
  ⟨h.os, h.tape, h.output, h.size, fun i hi hn => h.block i hi (fun hg => by rcases hs i hg with h' | h'; exact hn h'; omega)⟩
theorem Fr.of_below {w w' : World} (h : Below w.heap.size w w') (F : List Nat) : Fr F w w' := ⟨h.os, h.tape, h.output, h.size, fun k hk _ => h.block k hk⟩
theorem Fr.below {B : Nat} {F : List Nat} {w w' : World} (h : Fr F w w') (hF : ∀ x, x ∈ F → B ≤ x) (hB : B ≤ w.heap.size) : Below B w w' :=
  ⟨h.os, h.tape, h.output, h.size, fun k hk => h.block k (by omega) (fun hx => by have := hF k hx; omega)⟩
theorem Fr.same {F : List Nat} {w w' : World} (h : Fr F w w') {k : Nat} {o : Obj} (hk : w.heap[k]? = some o) (hn : k ∉ F) : w'.heap[k]? = some o :=
  (h.block k (lt_of_block hk) hn).trans hk
theorem Fr.cell {F : List Nat} {w w' : World} (h : Fr F w w') {p : Addr} {v : Value} (hk : w.cell? p = some v) (hn : p.block ∉ F) : w'.cell? p = some v := by
  rw [World.cell?_of_block (h.block p.block (World.block_lt_of_cell? w _ hk) hn)]; exact hk
theorem Fr.frozen {F : List Nat} {w w' : World} (h : Fr F w w') {p : Addr} (hk : p.block < w.heap.size) (hn : p.block ∉ F) : w'.frozen? p = w.frozen? p :=
  World.frozen?_of_block (h.block p.block hk hn)
theorem fr_setCell (w : World) (a : Addr) (v : Value) : Fr [a.block] w (w.setCell a v) :=
  ⟨rfl, rfl, rfl, by simp [World.setCell], fun k _ hn => Below.heap_setCell _ _ _ _ (by simpa using hn)⟩
theorem fr_grow (w : World) (n : Nat) (os : Array Obj) (F : List Nat) : Fr F w (grow (w.drewN n) os) :=
  ⟨rfl, rfl, rfl, by simp [grow], fun k hk _ => by
    show (w.heap ++ os)[k]? = _
    rw [Array.getElem?_append_left hk]⟩
theorem fr_drewN (w : World) (n : Nat) (F : List Nat) : Fr F w (w.drewN n) := by have := fr_grow w n #[] F; rwa [grow_empty] at this
theorem fr_alloc (w : World) (o : Obj) (F : List Nat) : Fr F w (w.alloc o) := by
  rw [alloc_eq_grow]; exact fr_grow w 0 _ F
theorem fr_grown {w w' : World} {row : Option Nat} (h : w.grownBy w' row) : Fr row.toList w w' :=
  ⟨h.os, h.tape, h.output, h.size, fun k hk hn => h.block k hk (fun e => hn (by rw [← e]; simp))⟩

/-- A row that a call owns is kept where its block is not among those that may change. -/
theorem Fr.row {F : List Nat} {w w' : World} (h : Fr F w w') {base e size n : Nat} {v : Value} {xs : List Value} (ho : w.ownsRow base e size v n xs) (hn : ∀ g, v.ownBlock = some g → g ∉ F) : w'.ownsRow base e size v n xs := by
  refine ⟨ho.1, ?_⟩
  rcases ho.2 with h' | ⟨g, cap, cur, rfl, hb, hh, r⟩
  · exact .inl h'
  · exact .inr ⟨g, cap, cur, rfl, hb, h.same hh (hn g rfl), r⟩

theorem cells_cell {w : World} {b : Nat} {cur : Array Value} {t : TypeId} {o : Nat} {v : Value} (h : w.heap[b]? = some (.cells cur t (0, 0))) (hv : cur[o]? = some v) : w.cell? ⟨b, o, none⟩ = some v := by simp [World.cell?, h, hv]
theorem cells_free {w : World} {b : Nat} {cur : Array Value} {t : TypeId} (h : w.heap[b]? = some (.cells cur t (0, 0))) (o : Nat) : w.frozen? ⟨b, o, none⟩ = false := by simp [World.frozen?, h]
theorem cells_set {w : World} {b : Nat} {cur : Array Value} {t : TypeId} (h : w.heap[b]? = some (.cells cur t (0, 0))) (o : Nat) (v : Value) : (w.setCell ⟨b, o, none⟩ v).heap[b]? = some (.cells (cur.setIfInBounds o v) t (0, 0)) :=
  heap_setCell_same w b o cur t v h
theorem block_new (w : World) (o : Obj) (b : Nat) (hb : b = w.heap.size) : (w.alloc o).heap[b]? = some o := by subst hb; exact heap_alloc_new w o
theorem cell_new (w : World) (cs : Array Value) (t : TypeId) (b o : Nat) (v : Value) (hb : b = w.heap.size) (hv : cs[o]? = some v) : (w.alloc (.cells cs t)).cell? ⟨b, o, none⟩ = some v := cells_cell (block_new w _ b hb) hv

theorem ne_types {w : World} {b c : Nat} {x y : Array Value} {t u : TypeId} (hb : w.heap[b]? = some (.cells x t (0, 0))) (hc : w.heap[c]? = some (.cells y u (0, 0))) (hn : t ≠ u) : b ≠ c := by
  rintro rfl
  rw [hb] at hc
  simp only [Option.some.injEq, Obj.cells.injEq] at hc
  exact hn hc.2.1
theorem row_ne {w : World} {base e size n : Nat} {v : Value} {xs : List Value} (ho : w.ownsRow base e size v n xs) {c : Nat} {y : Array Value} {u : TypeId} (hc : w.heap[c]? = some (.cells y u (0, 0))) (hn : e ≠ u) : ∀ g, v.ownBlock = some g → g ≠ c := by
  intro g hg
  rcases ho.2 with ⟨rfl, _⟩ | ⟨g', cap, cur, rfl, _, hh, _⟩
  · simp [Value.ownBlock] at hg
  · simp [Value.ownBlock] at hg
    subst hg
    exact ne_types hh hc hn
theorem row_row_ne {w : World} {base e size n base' e' size' n' : Nat} {v v' : Value} {xs xs' : List Value} (ho : w.ownsRow base e size v n xs) (ho' : w.ownsRow base' e' size' v' n' xs') (hn : e ≠ e') : ∀ g g', v.ownBlock = some g → v'.ownBlock = some g' → g ≠ g' := by
  intro g g' hg hg'
  rcases ho'.2 with ⟨rfl, _⟩ | ⟨g2, cap, cur, rfl, _, hh, _⟩
  · simp [Value.ownBlock] at hg'
  · simp [Value.ownBlock] at hg'
    subst hg'
    exact row_ne ho hh hn g hg
theorem ownsRow_mono {w : World} {base base' e size n : Nat} {v : Value} {xs : List Value} (h : w.ownsRow base e size v n xs) (hb : base' ≤ base) : w.ownsRow base' e size v n xs := by
  refine ⟨h.1, ?_⟩
  rcases h.2 with h' | ⟨g, cap, cur, hv, hg, r⟩
  · exact .inl h'
  · exact .inr ⟨g, cap, cur, hv, Nat.le_trans hb hg, r⟩

/-- Where a row lies behind an append. -/
def Near (w : World) (v v' : Value) : Prop := ∀ g, v'.ownBlock = some g → v.ownBlock = some g ∨ w.heap.size ≤ g

theorem wpList_append_row {P : Program} (w : World) {ops : Array Oper} {rest : List Oper} {o : Oper} {a : Act} {Q : Exit → Act → World → Prop}
    (hg : o.guard = none) (s x : Operand) (t : TypeId) (hop : o.op = Op.call { callee := Callee.builtin Builtin.append, args := #[s, x], argTypes := #[t, t] })
    (e : TypeId) (i : TypeInfo) (z : Value) (size bytes : Nat) (h1 : P.underlying t = some (.slice e)) (h2 : P.info? e = some i) (h3 : i.zero = some z) (h4 : i.size = size) (h5 : i.bytes = bytes) (h6 : z.cells.size = size) (h7 : 0 < size)
    (base : Nat) (v : Value) (n : Nat) (xs : List Value) (hs : a.eval s = v) (hown : w.ownsRow base e size v n xs) (hbase : base ≤ w.heap.size)
    (ad : Addr) (m c : Nat) (news : List Value) (hx : a.eval x = .slice (some ad) m c) (hn : news.length = m * size) (hc : ∀ j u, news[j]? = some u → w.cell? (ad.add j) = some u) (h1c : ∀ u ∈ news, u.oneCell' = true)
    (hm : 0 < m) (b1 : n + m ≤ maxLen) (b2 : (n + m) * bytes ≤ 140737488355328)
    (h : ∀ v' w', w'.ownsRow base e size v' (n + m) (xs ++ news) → Fr v.ownBlock.toList w w' → Near w v v' → wpList P ops Q rest (a.put o.dst v') w') :
    wpList P ops Q (o :: rest) a w := by
  rcases hown.2 with ⟨rfl, rfl⟩ | ⟨g, cap, cur, rfl, hbg, hgg, hnc, hcm, hcs, htake⟩
  · have hxs : xs = [] := List.eq_nil_of_length_eq_zero (by simpa using hown.1)
    subst hxs
    refine wpList_append_grows w hg s x t hop e i z size bytes h1 h2 h3 h4 h5 h6 h7 none 0 0 [] hs (fun _ => ⟨rfl, rfl⟩) (by simp) (fun b hb => by cases hb) ad m c news hx hn hc h1c (by omega) b1 b2 ?_
    intro v' w' ho hgr
    exact h v' w' (ownsRow_mono ho hbase) (fr_grown hgr) (fun g hg' => .inr (ho.lt g hg').1)
  · by_cases hroom : n + m ≤ cap
    · refine wpList_append_fits w hg s x t hop base e i size h1 h2 h4 g n cap xs hs hown ad m c news hx hn hc h1c hroom ?_
      intro w' ho hgr
      exact h _ w' ho (fr_grown hgr) (fun g' hg' => .inl hg')
    · have holds := hown.cells (g := g) rfl
      refine wpList_append_grows w hg s x t hop e i z size bytes h1 h2 h3 h4 h5 h6 h7 (some ⟨g, 0, none⟩) n cap xs hs (fun hb => by cases hb) hown.1 (fun b hb => by cases hb; exact holds) ad m c news hx hn hc h1c (by omega) b1 b2 ?_
      intro v' w' ho hgr
      exact h v' w' (ownsRow_mono ho hbase) ((fr_grown hgr).mono (fun _ hx => by simp at hx)) (fun g' hg' => .inr (ho.lt g' hg').1)
theorem one_new_cell (w : World) (v : Value) (t : TypeId) : ∀ (j : Nat) (u : Value), [v][j]? = some u → (w.alloc (.cells #[v] t)).cell? ((⟨w.heap.size, 0, none⟩ : Addr).add j) = some u := by
  intro j u hu
  match j with
  | 0 => simp at hu; subst hu; rw [Go.WideShapes.add_plain]; exact cell_new _ _ _ _ _ _ rfl rfl
  | j + 1 => simp at hu
theorem row_some {w : World} {base e size n : Nat} {v : Value} {xs : List Value} (h : w.ownsRow base e size v n xs) (hn : 0 < n) : ∃ g cap, v = .slice (some ⟨g, 0, none⟩) n cap ∧ n ≤ cap ∧ cap ≤ maxLen := by
  rcases h.2 with ⟨_, h'⟩ | ⟨g, cap, cur, hv, _, _, hnc, hcm, _⟩
  · omega
  · exact ⟨g, cap, hv, hnc, hcm⟩

theorem row_cells {w : World} {base e size n cap g : Nat} {xs : List Value} (h : w.ownsRow base e size (.slice (some ⟨g, 0, none⟩) n cap) n xs) : ∀ (j : Nat) (u : Value), xs[j]? = some u → w.cell? ((⟨g, 0, none⟩ : Addr).add j) = some u := h.cells rfl
/-- The world has only grown. -/
def Grn (w w' : World) : Prop := ∃ q os, w' = grow (w.drewN q) os
theorem Grn.below {w w' : World} (h : Grn w w') : Below w.heap.size w w' := by
  obtain ⟨q, os, rfl⟩ := h
  exact (fr_grow w q os []).below (fun _ hx => by simp at hx) (Nat.le_refl _)
theorem Grn.of {w w' : World} (hb : Below w.heap.size w w') (hd : w.drawn ≤ w'.drawn) : Grn w w' := by
  refine ⟨w'.drawn - w.drawn, w'.heap.extract w.heap.size w'.heap.size, ?_⟩
  obtain ⟨h, t, d, o, out⟩ := w
  obtain ⟨h', t', d', o', out'⟩ := w'
  obtain ⟨h1, h2, h3, h4, h5⟩ := hb
  simp only at h1 h2 h3 h4 h5 hd
  subst h1 h2 h3
  simp only [grow, World.drewN, World.mk.injEq, true_and, and_true]
  refine ⟨?_, by omega⟩
  refine Array.ext_getElem? (fun i => ?_)
  by_cases hi : i < h.size
  · rw [Array.getElem?_append_left hi]; exact h5 i hi
  · rw [Array.getElem?_append_right (by omega), Array.getElem?_extract]
    by_cases hj : i < h'.size
    · rw [if_pos (by omega)]; congr 1; omega
    · rw [if_neg (by omega), Array.getElem?_eq_none (by omega)]
theorem Grn.refl (w : World) : Grn w w := Grn.of (Below.refl _ _) (Nat.le_refl _)
theorem Grn.drawn {w w' : World} (h : Grn w w') : w.drawn ≤ w'.drawn := by
  obtain ⟨q, os, rfl⟩ := h
  show w.drawn ≤ w.drawn + q
  omega
theorem Grn.trans {a b c : World} (h : Grn a b) (k : Grn b c) : Grn a c := Grn.of (h.below.trans (k.below.mono h.below.size)) (Nat.le_trans h.drawn k.drawn)
theorem Grn.alloc {w w' : World} (h : Grn w w') (o : Obj) : Grn w (w'.alloc o) := h.trans (Grn.of ((Below.refl _ _).alloc (Nat.le_refl _) _) (Nat.le_refl _))
theorem Grn.drew {w w' : World} (h : Grn w w') (n : Nat) : Grn w (w'.drewN n) := h.trans (Grn.of ((fr_drewN w' n []).below (fun _ hx => by simp at hx) (Nat.le_refl _)) (Nat.le_add_right _ _))
/-- A new block is written. -/
theorem Grn.set {w w' : World} (h : Grn w w') (a : Addr) (v : Value) (ha : w.heap.size ≤ a.block) : Grn w (w'.setCell a v) :=
  Grn.of (h.below.trans ((fr_setCell w' a v).below (fun x hx => by simp at hx; subst hx; exact ha) h.below.size)) h.drawn

/-- What a call leaves alone. -/
def Keep (G : Nat → Prop) (w w' : World) : Prop := ∀ k, G k → w'.heap[k]? = w.heap[k]?
theorem Keep.refl (G : Nat → Prop) (w : World) : Keep G w w := fun _ _ => rfl
theorem Keep.trans {G : Nat → Prop} {a b c : World} (h : Keep G a b) (k : Keep G b c) : Keep G a c := fun x hx => (k x hx).trans (h x hx)

def pt (a : Nat) : Value := .pointer (some ⟨a, 0, none⟩)

theorem row_form {w : World} {base e size n : Nat} {v : Value} {xs : List Value} (h : w.ownsRow base e size v n xs) : ∃ a n c, v = .slice a n c := by
  rcases h.2 with ⟨hv, _⟩ | ⟨g, cap, cu, hv, _⟩
  · exact ⟨none, 0, 0, hv⟩
  · exact ⟨_, _, _, hv⟩

theorem grn_grow (w : World) (m : Nat) (os : Array Obj) : Grn w (grow (w.drewN m) os) := ⟨m, os, rfl⟩
end Go.Proofs.YtcjeckjmoponkaaGreatDoor
/- A region that draws its order, cut into: operations that yield their values in every world of a class (taken first), a few that come up one at a time and stay in the class, and a tail in the order of the text. -/
namespace Go.Proofs.YtcjeckjmoponkaaGreatDoor
set_option linter.unusedVariables false

section
variable {P : Program} {md : Region.Mode} {ops : Array Oper} {Q : Exit → Act → World → Prop} {S : World → Prop} {n : Nat} {L : Array Bool → Act → World → Prop}

/-- Whatever comes up, all of it before place n, till as many have come up as are asked for. -/
def headW (P : Program) (md : Region.Mode) (ops : Array Oper) (Q : Exit → Act → World → Prop) (S : World → Prop) (n : Nat) (L : Array Bool → Act → World → Prop) : Nat → Array Bool → Act → World → Prop
  | 0, listed, a, w => L listed a w
  | f + 1, listed, a, w => Region.ready md ops listed ≠ [] ∧ ∀ i ∈ Region.ready md ops listed, i < n ∧ wpOp P ops Q i (fun a' w' => S w' ∧ headW P md ops Q S n L f (listed.setIfInBounds i true) a' w') a w

theorem headW.any {g : Nat} (hL : ∀ listed a w, L listed a w → wpAny P md ops Q g listed a w) : ∀ (f : Nat) (listed : Array Bool) (a : Act) (w : World), headW P md ops Q S n L f listed a w → wpAny P md ops Q (f + g) listed a w
  | 0, listed, a, w, h => by rw [Nat.zero_add]; exact hL _ _ _ h
  | f + 1, listed, a, w, h => by
    rw [show f + 1 + g = (f + g) + 1 by omega]
    exact ⟨fun h0 => absurd h0 h.1, fun i hi => wpOp_mono (fun a' w' h' => headW.any hL f _ a' w' h'.2) (h.2 i hi).2⟩

theorem headW.first {i : Nat} {oi : Oper} {v : Value} (hi : ops[i]? = some oi) (hsel : ∀ (j : Nat) (o : Oper) cs b, ops[j]? = some o → o.op ≠ .select cs b)
    (hQ : ∀ c a w, Q (.panic c) (a.put oi.dst v) w → Q (.panic c) a w) (hs : Region.sinkB md ops n = true) (hc : Region.chainB md ops n = true) (hn : n < ops.size) (hin : i < n)
    (hdone : ∀ listed a w, L listed a w → ∀ j ∈ Region.ready md ops listed, n ≤ j) :
    ∀ (f : Nat) (listed : Array Bool) (a : Act) (w : World), HeadInv md ops n listed →
      (∀ j oj, ops[j]? = some oj → j ≠ i → listed.getD j true = false → (∀ e ∈ oj.after, Region.binds md e = true → e.on ≠ i) → oi.apart ops oj = true) →
      i ∈ Region.ready md ops listed → YieldsIf P ops S oi v a → S w → headW P md ops Q S n L f (listed.setIfInBounds i true) (a.put oi.dst v) w → headW P md ops Q S n L (f + 1) listed a w := by
  intro f
  induction f with
  | zero =>
    intro listed a w inv _ hr hy hS H
    have hun := (mem_ready.1 hr).1
    refine ⟨fun h => (by rw [h] at hr; cases hr), fun j hj => ?_⟩
    have hjn : j < n := Nat.lt_of_not_le fun h => tail_waits hs hc hn inv _ i rfl hin hun j h hj
    refine ⟨hjn, ?_⟩
    by_cases hji : j = i
    · subst hji
      exact hy.wpOp hi hS ⟨hS, H⟩
    · have := hdone _ _ _ H j (ready_mono hj hji)
      omega
  | succ f ih =>
    intro listed a w inv hfree hr hy hS H
    have hun := (mem_ready.1 hr).1
    refine ⟨fun h => (by rw [h] at hr; cases hr), fun j hj => ?_⟩
    have hjn : j < n := Nat.lt_of_not_le fun h => tail_waits hs hc hn inv _ i rfl hin hun j h hj
    refine ⟨hjn, ?_⟩
    by_cases hji : j = i
    · subst hji
      exact hy.wpOp hi hS ⟨hS, H⟩
    · have h1 := (H.2 j (ready_mono hj hji)).2
      obtain ⟨hjun, oj, hoj, hall⟩ := mem_ready.1 hj
      have hnot : ∀ e ∈ oj.after, Region.binds md e = true → e.on ≠ i := fun e he hb heq => by
        have h3 := hall e he hb
        rw [heq, getD_both hun] at h3
        cases h3
      have h2 := wpOp_putIf hoj (hfree j oj hoj hji hjun hnot) (fun cs b => hsel i oi cs b hi) (fun cs b => hsel j oj cs b hoj) hQ hy h1
      refine wpOp_mono (fun a' w' h3 => ⟨h3.2.1, ih (listed.setIfInBounds j true) a' w' (inv.set hj hjn) (fun k ok hk hki hunk hno => hfree k ok hk hki ?_ hno) (ready_mono hr (Ne.symm hji)) h3.1 h3.2.1 ?_⟩) h2
      · by_cases hjk : j = k
        · subst hjk; exact hjun
        · rw [getD_set_ne true hjk] at hunk; exact hunk
      · rw [Array.setIfInBounds_comm _ _ hji]
        exact h3.2.2

/-- The operations fs are taken first, one after the other. -/
def takesB (md : Region.Mode) (ops : Array Oper) : List Nat → Array Bool → Bool
  | [], _ => true
  | i :: l, listed => (Region.ready md ops listed).contains i && Region.free md ops listed i && takesB md ops l (listed.setIfInBounds i true)
def setAll : List Nat → Array Bool → Array Bool
  | [], b => b
  | i :: l, b => setAll l (b.setIfInBounds i true)
/-- The operations ms come up one at a time. -/
def midsB (md : Region.Mode) (ops : Array Oper) : List Nat → Array Bool → Bool
  | [], _ => true
  | i :: l, listed => decide (Region.ready md ops listed = [i]) && midsB md ops l (listed.setIfInBounds i true)

/-- What the operations fs yield. -/
def wpTakes (P : Program) (ops : Array Oper) (S : World → Prop) (K : Act → Prop) : List Oper → Act → Prop
  | [], a => K a
  | o :: l, a => ∃ v, YieldsIf P ops S o v a ∧ wpTakes P ops S K l (a.put o.dst v)
/-- The operations ms, one after the other. -/
def wpMids (P : Program) (ops : Array Oper) (Q : Exit → Act → World → Prop) (S : World → Prop) (K : Act → World → Prop) : List Oper → Act → World → Prop
  | [], a, w => K a w
  | o :: l, a, w => if Region.wanted o (yielded ops a.tmps) = true then Oper.wp P o a w (fun a' w' => S w' ∧ wpMids P ops Q S K l a' w') Q else S w ∧ wpMids P ops Q S K l (a.put o.dst undef) w

theorem wpTakes_mono {K K' : Act → Prop} (hK : ∀ a, K a → K' a) : ∀ (l : List Oper) (a : Act), wpTakes P ops S K l a → wpTakes P ops S K' l a
  | [], a, h => hK a h
  | _ :: l, a, ⟨v, hy, h⟩ => ⟨v, hy, wpTakes_mono hK l _ h⟩

theorem wpMids_mono {K K' : Act → World → Prop} (hK : ∀ a w, K a w → K' a w) : ∀ (l : List Oper) (a : Act) (w : World), wpMids P ops Q S K l a w → wpMids P ops Q S K' l a w
  | [], a, w, h => hK a w h
  | o :: l, a, w, h => by
    unfold wpMids at h ⊢
    split
    · rename_i hw
      rw [if_pos hw] at h
      exact Oper.wp_mono (fun a' w' h' => ⟨h'.1, wpMids_mono hK l _ _ h'.2⟩) h
    · rename_i hw
      rw [if_neg hw] at h
      exact ⟨h.1, wpMids_mono hK l _ _ h.2⟩

theorem takes_head (hsel : Region.noSelect ops = true) (hQ : ∀ c a w d v, Q (.panic c) (a.put d v) w → Q (.panic c) a w) (hs : Region.sinkB md ops n = true) (hc : Region.chainB md ops n = true) (hn : n < ops.size)
    (hdone : ∀ listed a w, L listed a w → ∀ j ∈ Region.ready md ops listed, n ≤ j) {w : World} (hS : S w) (f : Nat) :
    ∀ (fs : List Nat) (os : List Oper) (listed : Array Bool) (a : Act), fs.map (fun i => ops[i]?) = os.map some → HeadInv md ops n listed → fs.all (fun i => decide (i < n)) = true → takesB md ops fs listed = true →
      wpTakes P ops S (fun a' => headW P md ops Q S n L f (setAll fs listed) a' w) os a → headW P md ops Q S n L (fs.length + f) listed a w
  | [], [], listed, a, _, _, _, _, h => by simpa [setAll, wpTakes] using h
  | [], _ :: _, _, _, h, _, _, _, _ => by simp at h
  | _ :: _, [], _, _, h, _, _, _, _ => by simp at h
  | i :: fs, o :: os, listed, a, hm, inv, hl, hB, h => by
    simp only [List.map_cons, List.cons.injEq] at hm
    simp only [takesB, Bool.and_eq_true] at hB
    simp only [List.all_cons, Bool.and_eq_true, decide_eq_true_eq] at hl
    obtain ⟨v, hy, h⟩ := h
    have hr : i ∈ Region.ready md ops listed := by simpa using hB.1.1
    have := takes_head hsel hQ hs hc hn hdone hS f fs os (listed.setIfInBounds i true) (a.put o.dst v) hm.2 (inv.set hr hl.1) hl.2 hB.2 h
    rw [List.length_cons, show fs.length + 1 + f = (fs.length + f) + 1 by omega]
    exact headW.first hm.1 (Region.noSelect_spec hsel) (fun c a w => hQ c a w _ _) hs hc hn hl.1 hdone _ _ _ _ inv (Region.free_spec hm.1 hB.1.2) hr hy hS this

end

section
variable {P : Program} {ops : Array Oper} {Q : Exit → Act → World → Prop} {S : World → Prop} {K : Act → Prop} {o : Oper} {l : List Oper} {a : Act}
theorem takes_by (v : Value) (hw : Region.wanted o (yielded ops a.tmps) = true) (hy : ∀ w, S w → (execOp a.eval o).run P w = .ok (.value v) w) (h : wpTakes P ops S K l (a.put o.dst v)) : wpTakes P ops S K (o :: l) a := ⟨v, .inl ⟨hw, hy⟩, h⟩
theorem takes_move (x : Operand) (v : Value) (ho : o.op = .move x) (hw : Region.wanted o (yielded ops a.tmps) = true) (hv : a.eval x = v) (h : wpTakes P ops S K l (a.put o.dst v)) : wpTakes P ops S K (o :: l) a :=
  takes_by v hw (fun w _ => by rw [BigFrame.run_move x ho, hv]) h
/-- One operation, what follows behind a variable. -/
theorem mids_step {K : Act → World → Prop} {w : World} (hw : Region.wanted o (yielded ops a.tmps) = true) (h : ∀ K' : Act → World → Prop, (∀ a w, S w → wpMids P ops Q S K l a w → K' a w) → Oper.wp P o a w K' Q) : wpMids P ops Q S K (o :: l) a w := by
  unfold wpMids
  rw [if_pos hw]
  exact h _ (fun a w h1 h2 => ⟨h1, h2⟩)
end
end Go.Proofs.YtcjeckjmoponkaaGreatDoor
/- A region that draws its order: operations taken first, a few one at a time, operations taken behind them, a tail. -/
namespace Go.Proofs.YtcjeckjmoponkaaGreatDoor
set_option linter.unusedVariables false

section
variable {P : Program} {md : Region.Mode} {ops : Array Oper} {Q : Exit → Act → World → Prop} {S : World → Prop} {n : Nat} {L : Array Bool → Act → World → Prop}

theorem mids_head2 (f : Nat) : ∀ (ms : List Nat) (os : List Oper) (listed : Array Bool) (a : Act) (w : World), ms.map (fun i => ops[i]?) = os.map some → ms.all (fun i => decide (i < n)) = true → midsB md ops ms listed = true →
      wpMids P ops Q S (fun a' w' => headW P md ops Q S n L f (setAll ms listed) a' w') os a w → headW P md ops Q S n L (ms.length + f) listed a w
  | [], [], listed, a, w, _, _, _, h => by simpa [setAll, wpMids] using h
  | [], _ :: _, _, _, _, h, _, _, _ => by simp at h
  | _ :: _, [], _, _, _, h, _, _, _ => by simp at h
  | i :: ms, o :: os, listed, a, w, hm, hl, hB, h => by
    simp only [List.map_cons, List.cons.injEq] at hm
    simp only [midsB, Bool.and_eq_true, decide_eq_true_eq] at hB
    simp only [List.all_cons, Bool.and_eq_true, decide_eq_true_eq] at hl
    rw [List.length_cons, show ms.length + 1 + f = (ms.length + f) + 1 by omega]
    refine ⟨by rw [hB.1]; simp, fun j hj => ?_⟩
    rw [hB.1] at hj
    have hji : j = i := by simpa using hj
    subst hji
    refine ⟨hl.1, ?_⟩
    have step : ∀ a' w', (S w' ∧ wpMids P ops Q S (fun a' w' => headW P md ops Q S n L f (setAll ms (listed.setIfInBounds j true)) a' w') os a' w') → (S w' ∧ headW P md ops Q S n L (ms.length + f) (listed.setIfInBounds j true) a' w') := fun a' w' h' => ⟨h'.1, mids_head2 f ms os _ a' w' hm.2 hl.2 hB.2 h'.2⟩
    unfold wpOp
    simp only [hm.1]
    unfold wpMids at h
    split
    · rename_i hw
      rw [if_pos hw] at h
      exact .inl (Oper.wp_mono step h)
    · rename_i hw
      rw [if_neg (by simpa using hw)] at h
      exact step _ _ h

theorem HeadInv.takes : ∀ (fs : List Nat) (listed : Array Bool), HeadInv md ops n listed → fs.all (fun i => decide (i < n)) = true → takesB md ops fs listed = true → HeadInv md ops n (setAll fs listed)
  | [], _, h, _, _ => h
  | i :: fs, listed, h, hl, hB => by
    simp only [takesB, Bool.and_eq_true] at hB
    simp only [List.all_cons, Bool.and_eq_true, decide_eq_true_eq] at hl
    exact HeadInv.takes fs _ (h.set (by simpa using hB.1.1) hl.1) hl.2 hB.2
theorem HeadInv.mids : ∀ (ms : List Nat) (listed : Array Bool), HeadInv md ops n listed → ms.all (fun i => decide (i < n)) = true → midsB md ops ms listed = true → HeadInv md ops n (setAll ms listed)
  | [], _, h, _, _ => h
  | i :: ms, listed, h, hl, hB => by
    simp only [midsB, Bool.and_eq_true, decide_eq_true_eq] at hB
    simp only [List.all_cons, Bool.and_eq_true, decide_eq_true_eq] at hl
    exact HeadInv.mids ms _ (h.set (by rw [hB.1]; simp) hl.1) hl.2 hB.2
end

section
variable {P : Program} {md : Region.Mode} {ops : Array Oper} {Q : Exit → Act → World → Prop} {n : Nat} {L : Array Bool → Act → World → Prop}
end

end Go.Proofs.YtcjeckjmoponkaaGreatDoor
/- A region that draws its order: operations taken first, two that come up in either order, a few one at a time, operations taken behind them, a tail. -/
namespace Go.Proofs.YtcjeckjmoponkaaGreatDoor
set_option linter.unusedVariables false

section
variable {P : Program} {md : Region.Mode} {ops : Array Oper} {Q : Exit → Act → World → Prop} {S : World → Prop} {n : Nat} {L : Array Bool → Act → World → Prop}

theorem mids_op {K : Act → World → Prop} {i : Nat} {o : Oper} {l : List Oper} {a : Act} {w : World} (hi : ops[i]? = some o) (h : wpMids P ops Q S K (o :: l) a w) : wpOp P ops Q i (fun a' w' => S w' ∧ wpMids P ops Q S K l a' w') a w := by
  unfold wpOp
  simp only [hi]
  unfold wpMids at h
  split
  · rename_i hw
    rw [if_pos hw] at h
    exact .inl h
  · rename_i hw
    rw [if_neg (by simpa using hw)] at h
    exact h

theorem duo_head {i j : Nat} {oi oj : Oper} {listed : Array Bool} {a : Act} {w : World} (f : Nat) (hi : ops[i]? = some oi) (hj : ops[j]? = some oj) (hin : i < n) (hjn : j < n) (hij : i ≠ j)
    (hr : Region.ready md ops listed = [i, j]) (hr1 : Region.ready md ops (listed.setIfInBounds i true) = [j]) (hr2 : Region.ready md ops (listed.setIfInBounds j true) = [i])
    (h1 : wpMids P ops Q S (fun a' w' => headW P md ops Q S n L f ((listed.setIfInBounds i true).setIfInBounds j true) a' w') [oi, oj] a w)
    (h2 : wpMids P ops Q S (fun a' w' => headW P md ops Q S n L f ((listed.setIfInBounds i true).setIfInBounds j true) a' w') [oj, oi] a w) : headW P md ops Q S n L (f + 2) listed a w := by
  refine ⟨by rw [hr]; simp, fun k hk => ?_⟩
  rw [hr] at hk
  rcases (by simpa using hk : k = i ∨ k = j) with rfl | rfl
  · refine ⟨hin, wpOp_mono (fun a' w' h' => ⟨h'.1, by rw [hr1]; simp, fun k2 hk2 => ?_⟩) (mids_op hi h1)⟩
    rw [hr1] at hk2
    obtain rfl : k2 = j := by simpa using hk2
    exact ⟨hjn, wpOp_mono (fun a'' w'' h'' => h'') (mids_op hj h'.2)⟩
  · refine ⟨hjn, wpOp_mono (fun a' w' h' => ⟨h'.1, by rw [hr2]; simp, fun k2 hk2 => ?_⟩) (mids_op hj h2)⟩
    rw [hr2] at hk2
    obtain rfl : k2 = i := by simpa using hk2
    refine ⟨hin, wpOp_mono (fun a'' w'' h'' => ?_) (mids_op hi h'.2)⟩
    have := h''.2
    rw [Array.setIfInBounds_comm _ _ hij] at this
    exact ⟨h''.1, this⟩
end

/-- What is asked of the region's edges. -/
def floatB3 (ops : Array Oper) (n : Nat) (fs : List Nat) (i j : Nat) (ms gs : List Nat) : Bool :=
  Region.noSelect ops && decide (n < ops.size) && Region.sinkB .any ops n && Region.chainB .any ops n && fs.all (fun i => decide (i < n)) && ms.all (fun i => decide (i < n)) && gs.all (fun i => decide (i < n)) && [i, j].all (fun i => decide (i < n)) && decide (i ≠ j) && takesB .any ops fs (Array.replicate ops.size false) &&
    decide (Region.ready .any ops (setAll fs (Array.replicate ops.size false)) = [i, j]) && decide (Region.ready .any ops ((setAll fs (Array.replicate ops.size false)).setIfInBounds i true) = [j]) && decide (Region.ready .any ops ((setAll fs (Array.replicate ops.size false)).setIfInBounds j true) = [i]) &&
    midsB .any ops ms (setAll [i, j] (setAll fs (Array.replicate ops.size false))) && takesB .any ops gs (setAll ms (setAll [i, j] (setAll fs (Array.replicate ops.size false)))) && Region.seqB .any ops (ops.size - n) n (setAll gs (setAll ms (setAll [i, j] (setAll fs (Array.replicate ops.size false))))) && decide (fs.length + (2 + (ms.length + gs.length)) = n)

theorem HeadInv.all {md : Region.Mode} {ops : Array Oper} {n : Nat} {i j : Nat} {listed : Array Bool} (h : HeadInv md ops n listed) (hi : i ∈ Region.ready md ops listed) (hj : j ∈ Region.ready md ops (listed.setIfInBounds i true)) (hin : i < n) (hjn : j < n) : HeadInv md ops n (setAll [i, j] listed) :=
  (h.set hi hin).set hj hjn

theorem wp_region_float3 {P : Program} {id : Nat} {Q : Exit → Act → World → Prop} {a : Act} {w : World} {l : List Oper} (S : World → Prop) (n : Nat) (fs : List Nat) (i j : Nat) (ms gs : List Nat) (hm : P.follows .mixedOrders = true)
    (hB : floatB3 l.toArray n fs i j ms gs = true) (hQ : ∀ c a w d v, Q (.panic c) (a.put d v) w → Q (.panic c) a w) (hS : S w.drew) (K : Act → World → Prop)
    (hK : ∀ a' w', K a' w' → wpMids P l.toArray Q S (fun a'' w'' => S w'' ∧ wpTakes P l.toArray S (fun a3 => wpList P l.toArray Q (l.drop n) a3 w'') (gs.map fun i => l.getD i default) a'') (ms.map fun i => l.getD i default) a' w')
    (h : wpTakes P l.toArray S (fun a' => wpMids P l.toArray Q S K [l.getD i default, l.getD j default] a' w.drew ∧ wpMids P l.toArray Q S K [l.getD j default, l.getD i default] a' w.drew) (fs.map fun i => l.getD i default) a) : (Code.region id l.toArray true).wp P Q a w := by
  simp only [floatB3, Bool.and_eq_true, decide_eq_true_eq] at hB
  obtain ⟨⟨⟨⟨⟨⟨⟨⟨⟨⟨⟨⟨⟨⟨⟨⟨hsel, hn⟩, hs⟩, hc⟩, hfl⟩, hml⟩, hgl⟩, hijl⟩, hij⟩, htk⟩, hr⟩, hr1⟩, hr2⟩, hmd⟩, htg⟩, hsq⟩, hlen⟩ := hB
  have hsz : l.toArray.size = l.length := by simp
  have hnl : n < l.length := by simpa using hn
  have hget : ∀ (x : List Nat), x.all (fun i => decide (i < n)) = true → x.map (fun i => l.toArray[i]?) = (x.map fun i => l.getD i default).map some := fun x hx => by
    rw [List.map_map]
    refine List.map_congr_left (fun i hi => ?_)
    have := List.all_eq_true.1 hx i hi
    have hil : i < l.length := by simp at this; omega
    simp [List.getD, hil]
  have hf := hget fs hfl
  have hmo := hget ms hml
  have hgo := hget gs hgl
  have hijo := hget [i, j] hijl
  simp only [List.map_cons, List.map_nil, List.cons.injEq, and_true] at hijo
  have hin : i < n ∧ j < n := by simpa using hijl
  have inv0 : HeadInv .any l.toArray n (Array.replicate l.toArray.size false) :=
    ⟨by simp, fun j oj _ hl => (by rw [getD_replicate_false] at hl; cases hl), fun t _ ht => getD_in (by simpa using ht) (getD_replicate_false _ _)⟩
  have inv1 := HeadInv.takes fs _ inv0 hfl htk
  have inv1' := HeadInv.all inv1 (i := i) (j := j) (by rw [hr]; simp) (by rw [hr1]; simp) hin.1 hin.2
  have inv2 := HeadInv.mids ms _ inv1' hml hmd
  refine wp_region_any hm ?_
  have hdl : (l.drop n).length = l.toArray.size - n := by simp
  have hdone : ∀ (listed : Array Bool) (a : Act) (w : World), (Region.seqB .any l.toArray (l.toArray.size - n) n listed = true ∧ wpList P l.toArray Q (l.drop n) a w) → ∀ j ∈ Region.ready .any l.toArray listed, n ≤ j := fun listed a w hL => seqB_ready hL.1
  have back : ∀ a' w', K a' w' → headW P .any l.toArray Q S n (fun listed a w => Region.seqB .any l.toArray (l.toArray.size - n) n listed = true ∧ wpList P l.toArray Q (l.drop n) a w) (ms.length + gs.length) (setAll [i, j] (setAll fs (Array.replicate l.toArray.size false))) a' w' := fun a' w' hk =>
    mids_head2 gs.length ms _ _ a' _ hmo hml hmd (by
      refine wpMids_mono (fun a'' w'' h'' => ?_) _ a' _ (hK a' w' hk)
      have := takes_head (P := P) (S := S) (L := fun listed a w => Region.seqB .any l.toArray (l.toArray.size - n) n listed = true ∧ wpList P l.toArray Q (l.drop n) a w) hsel hQ hs hc hn hdone h''.1 0 gs _ _ a'' hgo inv2 hgl htg
        (wpTakes_mono (fun a3 h3 => ⟨hsq, h3⟩) _ a'' h''.2)
      rwa [Nat.add_zero] at this)
  have H := takes_head (P := P) (S := S) (L := fun listed a w => Region.seqB .any l.toArray (l.toArray.size - n) n listed = true ∧ wpList P l.toArray Q (l.drop n) a w) hsel hQ hs hc hn hdone hS ((ms.length + gs.length) + 2) fs _ _ a hf inv0 hfl htk
    (wpTakes_mono (fun a' h' => duo_head (ms.length + gs.length) hijo.1 hijo.2 hin.1 hin.2 hij hr hr1 hr2 (wpMids_mono back _ _ _ h'.1) (wpMids_mono back _ _ _ h'.2)) _ a h)
  have := headW.any (g := l.toArray.size - n) (fun listed a' w' hL => by
    have := wpAny_of_seq (md := .any) (Q' := Q) (l.drop n) n listed a' w' (fun j => by simp [List.getElem?_drop]) (by rw [hdl]; exact hL.1) hL.2
    rwa [hdl] at this) _ _ _ _ H
  rw [show fs.length + (ms.length + gs.length + 2) = n by omega, show n + (l.toArray.size - n) = l.toArray.size by omega] at this
  exact this
end Go.Proofs.YtcjeckjmoponkaaGreatDoor
/- A region that draws its order: operations that yield their values in every world of a class are taken whenever they may come up, the others come up alone; a tail in the order of the text. -/
namespace Go.Proofs.YtcjeckjmoponkaaGreatDoor
set_option linter.unusedVariables false
set_option linter.unusedSimpArgs false

section
variable {P : Program} {md : Region.Mode} {ops : Array Oper} {Q : Exit → Act → World → Prop} {S : World → Prop} {n : Nat} {L : Array Bool → Act → World → Prop}

/-- The operations, each taken (true) or alone (false). -/
def mixB (md : Region.Mode) (ops : Array Oper) : List (Bool × Nat) → Array Bool → Bool
  | [], _ => true
  | (true, i) :: l, listed => (Region.ready md ops listed).contains i && Region.free md ops listed i && mixB md ops l (listed.setIfInBounds i true)
  | (false, i) :: l, listed => decide (Region.ready md ops listed = [i]) && mixB md ops l (listed.setIfInBounds i true)
def setMix : List (Bool × Nat) → Array Bool → Array Bool
  | [], b => b
  | (_, i) :: l, b => setMix l (b.setIfInBounds i true)
def wpMix (P : Program) (ops : Array Oper) (Q : Exit → Act → World → Prop) (S : World → Prop) (K : Act → World → Prop) : List (Bool × Oper) → Act → World → Prop
  | [], a, w => K a w
  | (true, o) :: l, a, w => S w ∧ ∃ v, YieldsIf P ops S o v a ∧ wpMix P ops Q S K l (a.put o.dst v) w
  | (false, o) :: l, a, w => if Region.wanted o (yielded ops a.tmps) = true then Oper.wp P o a w (fun a' w' => S w' ∧ wpMix P ops Q S K l a' w') Q else S w ∧ wpMix P ops Q S K l (a.put o.dst undef) w

theorem mix_head (hsel : Region.noSelect ops = true) (hQ : ∀ c a w d v, Q (.panic c) (a.put d v) w → Q (.panic c) a w) (hs : Region.sinkB md ops n = true) (hc : Region.chainB md ops n = true) (hn : n < ops.size)
    (hdone : ∀ listed a w, L listed a w → ∀ j ∈ Region.ready md ops listed, n ≤ j) :
    ∀ (fs : List (Bool × Nat)) (os : List (Bool × Oper)) (listed : Array Bool) (a : Act) (w : World), fs.map (fun i => (i.1, ops[i.2]?)) = os.map (fun o => (o.1, some o.2)) → HeadInv md ops n listed → fs.all (fun i => decide (i.2 < n)) = true → mixB md ops fs listed = true →
      wpMix P ops Q S (fun a' w' => L (setMix fs listed) a' w') os a w → headW P md ops Q S n L fs.length listed a w
  | [], [], listed, a, w, _, _, _, _, h => by simpa [setMix, wpMix, headW] using h
  | [], _ :: _, _, _, _, h, _, _, _, _ => by simp at h
  | _ :: _, [], _, _, _, h, _, _, _, _ => by simp at h
  | (true, i) :: fs, (b, o) :: os, listed, a, w, hm, inv, hl, hB, h => by
    simp only [List.map_cons, List.cons.injEq, Prod.mk.injEq] at hm
    obtain ⟨⟨rfl, hm1⟩, hm2⟩ := hm
    simp only [mixB, Bool.and_eq_true] at hB
    simp only [List.all_cons, Bool.and_eq_true, decide_eq_true_eq] at hl
    obtain ⟨hS, v, hy, h⟩ := h
    have hr : i ∈ Region.ready md ops listed := by simpa using hB.1.1
    have := mix_head hsel hQ hs hc hn hdone fs os (listed.setIfInBounds i true) (a.put o.dst v) w hm2 (inv.set hr hl.1) hl.2 hB.2 h
    rw [List.length_cons]
    exact headW.first hm1 (Region.noSelect_spec hsel) (fun c a w => hQ c a w _ _) hs hc hn hl.1 hdone _ _ _ _ inv (Region.free_spec hm1 hB.1.2) hr hy hS this
  | (false, i) :: fs, (b, o) :: os, listed, a, w, hm, inv, hl, hB, h => by
    simp only [List.map_cons, List.cons.injEq, Prod.mk.injEq] at hm
    obtain ⟨⟨rfl, hm1⟩, hm2⟩ := hm
    simp only [mixB, Bool.and_eq_true, decide_eq_true_eq] at hB
    simp only [List.all_cons, Bool.and_eq_true, decide_eq_true_eq] at hl
    refine ⟨by rw [hB.1]; simp, fun j hj => ?_⟩
    have hr : j ∈ Region.ready md ops listed := hj
    rw [hB.1] at hj
    have hji : j = i := by simpa using hj
    subst hji
    refine ⟨hl.1, ?_⟩
    have step : ∀ a' w', (S w' ∧ wpMix P ops Q S (fun a' w' => L (setMix fs (listed.setIfInBounds j true)) a' w') os a' w') → (S w' ∧ headW P md ops Q S n L fs.length (listed.setIfInBounds j true) a' w') := fun a' w' h' =>
      ⟨h'.1, mix_head hsel hQ hs hc hn hdone fs os _ a' w' hm2 (inv.set hr hl.1) hl.2 hB.2 h'.2⟩
    unfold wpOp
    simp only [hm1]
    unfold wpMix at h
    split
    · rename_i hw
      rw [if_pos hw] at h
      exact .inl (Oper.wp_mono step h)
    · rename_i hw
      rw [if_neg (by simpa using hw)] at h
      exact step _ _ h
theorem wpMix_mono {K K' : Act → World → Prop} (hK : ∀ a w, K a w → K' a w) : ∀ (l : List (Bool × Oper)) (a : Act) (w : World), wpMix P ops Q S K l a w → wpMix P ops Q S K' l a w
  | [], a, w, h => hK a w h
  | (true, o) :: l, a, w, ⟨hS, v, hy, h⟩ => ⟨hS, v, hy, wpMix_mono hK l _ _ h⟩
  | (false, o) :: l, a, w, h => by
    unfold wpMix at h ⊢
    split
    · rename_i hw
      rw [if_pos hw] at h
      exact Oper.wp_mono (fun a' w' h' => ⟨h'.1, wpMix_mono hK l _ _ h'.2⟩) h
    · rename_i hw
      rw [if_neg hw] at h
      exact ⟨h.1, wpMix_mono hK l _ _ h.2⟩
end

def mixedB (ops : Array Oper) (n : Nat) (fs : List (Bool × Nat)) : Bool :=
  Region.noSelect ops && decide (n < ops.size) && Region.sinkB .any ops n && Region.chainB .any ops n && fs.all (fun i => decide (i.2 < n)) && mixB .any ops fs (Array.replicate ops.size false) &&
    Region.seqB .any ops (ops.size - n) n (setMix fs (Array.replicate ops.size false)) && decide (fs.length = n)

theorem wp_region_mix {P : Program} {id : Nat} {Q : Exit → Act → World → Prop} {a : Act} {w : World} {l : List Oper} (S : World → Prop) (n : Nat) (fs : List (Bool × Nat)) (hm : P.follows .mixedOrders = true)
    (hB : mixedB l.toArray n fs = true) (hQ : ∀ c a w d v, Q (.panic c) (a.put d v) w → Q (.panic c) a w)
    (h : wpMix P l.toArray Q S (fun a'' w'' => wpList P l.toArray Q (l.drop n) a'' w'') (fs.map fun i => (i.1, l.getD i.2 default)) a w.drew) : (Code.region id l.toArray true).wp P Q a w := by
  simp only [mixedB, Bool.and_eq_true, decide_eq_true_eq] at hB
  obtain ⟨⟨⟨⟨⟨⟨⟨hsel, hn⟩, hs⟩, hc⟩, hfl⟩, htk⟩, hsq⟩, hlen⟩ := hB
  have hsz : l.toArray.size = l.length := by simp
  have hnl : n < l.length := by simpa using hn
  have hf : fs.map (fun i => (i.1, l.toArray[i.2]?)) = (fs.map fun i => (i.1, l.getD i.2 default)).map (fun o => (o.1, some o.2)) := by
    rw [List.map_map]
    refine List.map_congr_left (fun i hi => ?_)
    have := List.all_eq_true.1 hfl i hi
    have hil : i.2 < l.length := by simp at this; omega
    simp [List.getD, hil]
  have inv0 : HeadInv .any l.toArray n (Array.replicate l.toArray.size false) :=
    ⟨by simp, fun j oj _ hl => (by rw [getD_replicate_false] at hl; cases hl), fun t _ ht => getD_in (by simpa using ht) (getD_replicate_false _ _)⟩
  refine wp_region_any hm ?_
  have hdl : (l.drop n).length = l.toArray.size - n := by simp
  have H := mix_head (P := P) (S := S) (L := fun listed a w => Region.seqB .any l.toArray (l.toArray.size - n) n listed = true ∧ wpList P l.toArray Q (l.drop n) a w) hsel hQ hs hc hn (fun listed a w hL => seqB_ready hL.1) fs _ _ a w.drew hf inv0 hfl htk
    (wpMix_mono (fun a'' w'' h'' => ⟨hsq, h''⟩) _ a _ h)
  have := headW.any (g := l.toArray.size - n) (fun listed a' w' hL => by
    have := wpAny_of_seq (md := .any) (Q' := Q) (l.drop n) n listed a' w' (fun j => by simp [List.getElem?_drop]) (by rw [hdl]; exact hL.1) hL.2
    rwa [hdl] at this) _ _ _ _ H
  rw [hlen, show n + (l.toArray.size - n) = l.toArray.size by omega] at this
  exact this

section
variable {P : Program} {ops : Array Oper} {Q : Exit → Act → World → Prop} {S : World → Prop} {K : Act → World → Prop} {o : Oper} {l : List (Bool × Oper)} {a : Act} {w : World}
theorem mix_take (v : Value) (hS : S w) (hw : Region.wanted o (yielded ops a.tmps) = true) (hy : ∀ w, S w → (execOp a.eval o).run P w = .ok (.value v) w) (h : wpMix P ops Q S K l (a.put o.dst v) w) : wpMix P ops Q S K ((true, o) :: l) a w := ⟨hS, v, .inl ⟨hw, hy⟩, h⟩
theorem mix_move (x : Operand) (v : Value) (ho : o.op = .move x) (hS : S w) (hw : Region.wanted o (yielded ops a.tmps) = true) (hv : a.eval x = v) (h : wpMix P ops Q S K l (a.put o.dst v) w) : wpMix P ops Q S K ((true, o) :: l) a w :=
  mix_take v hS hw (fun w _ => by rw [BigFrame.run_move x ho, hv]) h
/-- One that comes up alone, what follows behind a variable. -/
theorem mix_step (hw : Region.wanted o (yielded ops a.tmps) = true) (h : ∀ K' : Act → World → Prop, (∀ a w, S w → wpMix P ops Q S K l a w → K' a w) → Oper.wp P o a w K' Q) : wpMix P ops Q S K ((false, o) :: l) a w := by
  unfold wpMix
  rw [if_pos hw]
  exact h _ (fun a w h1 h2 => ⟨h1, h2⟩)
theorem mix_by (v : Value) (hw : Region.wanted o (yielded ops a.tmps) = true) (hy : (execOp a.eval o).run P w = .ok (.value v) w) (hS : S w) (h : wpMix P ops Q S K l (a.put o.dst v) w) : wpMix P ops Q S K ((false, o) :: l) a w := by
  unfold wpMix
  rw [if_pos hw]
  unfold Oper.wp
  rw [hy]
  simp [Oper.upon]
  exact ⟨hS, h⟩
theorem mix_skip (hw : Region.wanted o (yielded ops a.tmps) = false) (hS : S w) (h : wpMix P ops Q S K l (a.put o.dst undef) w) : wpMix P ops Q S K ((false, o) :: l) a w := by
  unfold wpMix
  rw [if_neg (by rw [hw]; exact Bool.false_ne_true)]
  exact ⟨hS, h⟩
theorem mix_nil (h : K a w) : wpMix P ops Q S K [] a w := h
end
end Go.Proofs.YtcjeckjmoponkaaGreatDoor
/- A region that draws its order: operations taken first, then some in whatever order they come up, then a tail. -/
namespace Go.Proofs.YtcjeckjmoponkaaGreatDoor
set_option linter.unusedVariables false
set_option linter.unusedSimpArgs false

section
variable {P : Program} {md : Region.Mode} {ops : Array Oper} {Q : Exit → Act → World → Prop} {S : World → Prop} {n : Nat} {L : Array Bool → Act → World → Prop}
theorem mix_headF (f : Nat) (hsel : Region.noSelect ops = true) (hQ : ∀ c a w d v, Q (.panic c) (a.put d v) w → Q (.panic c) a w) (hs : Region.sinkB md ops n = true) (hc : Region.chainB md ops n = true) (hn : n < ops.size)
    (hdone : ∀ listed a w, L listed a w → ∀ j ∈ Region.ready md ops listed, n ≤ j) :
    ∀ (fs : List (Bool × Nat)) (os : List (Bool × Oper)) (listed : Array Bool) (a : Act) (w : World), fs.map (fun i => (i.1, ops[i.2]?)) = os.map (fun o => (o.1, some o.2)) → HeadInv md ops n listed → fs.all (fun i => decide (i.2 < n)) = true → mixB md ops fs listed = true →
      wpMix P ops Q S (fun a' w' => headW P md ops Q S n L f (setMix fs listed) a' w') os a w → headW P md ops Q S n L (fs.length + f) listed a w
  | [], [], listed, a, w, _, _, _, _, h => by
    have h' : headW P md ops Q S n L f listed a w := by simpa [setMix, wpMix] using h
    simpa using h'
  | [], _ :: _, _, _, _, h, _, _, _, _ => by simp at h
  | _ :: _, [], _, _, _, h, _, _, _, _ => by simp at h
  | (true, i) :: fs, (b, o) :: os, listed, a, w, hm, inv, hl, hB, h => by
    simp only [List.map_cons, List.cons.injEq, Prod.mk.injEq] at hm
    obtain ⟨⟨rfl, hm1⟩, hm2⟩ := hm
    simp only [mixB, Bool.and_eq_true] at hB
    simp only [List.all_cons, Bool.and_eq_true, decide_eq_true_eq] at hl
    obtain ⟨hS, v, hy, h⟩ := h
    have hr : i ∈ Region.ready md ops listed := by simpa using hB.1.1
    have := mix_headF f hsel hQ hs hc hn hdone fs os (listed.setIfInBounds i true) (a.put o.dst v) w hm2 (inv.set hr hl.1) hl.2 hB.2 h
    rw [List.length_cons, show fs.length + 1 + f = (fs.length + f) + 1 by omega]
    exact headW.first hm1 (Region.noSelect_spec hsel) (fun c a w => hQ c a w _ _) hs hc hn hl.1 hdone _ _ _ _ inv (Region.free_spec hm1 hB.1.2) hr hy hS this
  | (false, i) :: fs, (b, o) :: os, listed, a, w, hm, inv, hl, hB, h => by
    simp only [List.map_cons, List.cons.injEq, Prod.mk.injEq] at hm
    obtain ⟨⟨rfl, hm1⟩, hm2⟩ := hm
    simp only [mixB, Bool.and_eq_true, decide_eq_true_eq] at hB
    simp only [List.all_cons, Bool.and_eq_true, decide_eq_true_eq] at hl
    rw [List.length_cons, show fs.length + 1 + f = (fs.length + f) + 1 by omega]
    refine ⟨by rw [hB.1]; simp, fun j hj => ?_⟩
    have hr : j ∈ Region.ready md ops listed := hj
    rw [hB.1] at hj
    have hji : j = i := by simpa using hj
    subst hji
    refine ⟨hl.1, ?_⟩
    have step : ∀ a' w', (S w' ∧ wpMix P ops Q S (fun a' w' => headW P md ops Q S n L f (setMix fs (listed.setIfInBounds j true)) a' w') os a' w') → (S w' ∧ headW P md ops Q S n L (fs.length + f) (listed.setIfInBounds j true) a' w') := fun a' w' h' =>
      ⟨h'.1, mix_headF f hsel hQ hs hc hn hdone fs os _ a' w' hm2 (inv.set hr hl.1) hl.2 hB.2 h'.2⟩
    unfold wpOp
    simp only [hm1]
    unfold wpMix at h
    split
    · rename_i hw
      rw [if_pos hw] at h
      exact .inl (Oper.wp_mono step h)
    · rename_i hw
      rw [if_neg (by simpa using hw)] at h
      exact step _ _ h
end

def invB (ops : Array Oper) (n : Nat) (fs : List (Bool × Nat)) (m : Nat) : Bool :=
  Region.noSelect ops && decide (n < ops.size) && Region.sinkB .any ops n && Region.chainB .any ops n && fs.all (fun i => decide (i.2 < n)) && mixB .any ops fs (Array.replicate ops.size false) && decide (fs.length + m = n)

theorem wp_region_inv {P : Program} {id : Nat} {Q : Exit → Act → World → Prop} {a : Act} {w : World} {l : List Oper} (S : World → Prop) (n : Nat) (fs : List (Bool × Nat)) (m : Nat) (hm : P.follows .mixedOrders = true)
    (hB : invB l.toArray n fs m = true) (hQ : ∀ c a w d v, Q (.panic c) (a.put d v) w → Q (.panic c) a w)
    (h : wpMix P l.toArray Q S (fun a' w' => headW P .any l.toArray Q S n (fun listed a w => Region.seqB .any l.toArray (l.toArray.size - n) n listed = true ∧ wpList P l.toArray Q (l.drop n) a w) m (setMix fs (Array.replicate l.toArray.size false)) a' w') (fs.map fun i => (i.1, l.getD i.2 default)) a w.drew) : (Code.region id l.toArray true).wp P Q a w := by
  simp only [invB, Bool.and_eq_true, decide_eq_true_eq] at hB
  obtain ⟨⟨⟨⟨⟨⟨hsel, hn⟩, hs⟩, hc⟩, hfl⟩, htk⟩, hlen⟩ := hB
  have hf : fs.map (fun i => (i.1, l.toArray[i.2]?)) = (fs.map fun i => (i.1, l.getD i.2 default)).map (fun o => (o.1, some o.2)) := by
    rw [List.map_map]
    refine List.map_congr_left (fun i hi => ?_)
    have := List.all_eq_true.1 hfl i hi
    have hnl : n < l.length := by simpa using hn
    have hil : i.2 < l.length := by simp at this; omega
    simp [List.getD, hil]
  have inv0 : HeadInv .any l.toArray n (Array.replicate l.toArray.size false) :=
    ⟨by simp, fun j oj _ hl => (by rw [getD_replicate_false] at hl; cases hl), fun t _ ht => getD_in (by simpa using ht) (getD_replicate_false _ _)⟩
  refine wp_region_any hm ?_
  have hdl : (l.drop n).length = l.toArray.size - n := by simp
  have H := mix_headF (P := P) (S := S) m hsel hQ hs hc hn (fun listed a w (hL : Region.seqB .any l.toArray (l.toArray.size - n) n listed = true ∧ wpList P l.toArray Q (l.drop n) a w) => seqB_ready hL.1) fs _ _ a w.drew hf inv0 hfl htk h
  have := headW.any (g := l.toArray.size - n) (fun listed a' w' hL => by
    have := wpAny_of_seq (md := .any) (Q' := Q) (l.drop n) n listed a' w' (fun j => by simp [List.getElem?_drop]) (by rw [hdl]; exact hL.1) hL.2
    rwa [hdl] at this) _ _ _ _ H
  rw [hlen, show n + (l.toArray.size - n) = l.toArray.size by simp at hn ⊢; omega] at this
  exact this

section
variable {P : Program} {md : Region.Mode} {ops : Array Oper} {Q : Exit → Act → World → Prop} {S : World → Prop} {n : Nat} {L : Array Bool → Act → World → Prop}
theorem op_now {i : Nat} {o : Oper} {K : Act → World → Prop} {a : Act} {w : World} (hi : ops[i]? = some o) (hg : o.guard = none) (h : Oper.wp P o a w K Q) : wpOp P ops Q i K a w := by
  unfold wpOp
  simp only [hi]
  have hw : Region.wanted o (yielded ops a.tmps) = true := by unfold Region.wanted; rw [hg]
  rw [if_pos hw]
  exact .inl h
end

/-- A frame that parts from another one in some slots alone. -/
structure Like (a0 a : Act) (D : List Nat) : Prop where
  defers : a.defers = a0.defers
  size : a.tmps.size = a0.tmps.size
  at_ : ∀ i, i ∉ D → a.tmps[i]? = a0.tmps[i]?
theorem Like.refl (a : Act) (D : List Nat) : Like a a D := ⟨rfl, rfl, fun _ _ => rfl⟩
theorem Like.put {a0 a : Act} {D : List Nat} (h : Like a0 a D) {d : Nat} (hd : d ∈ D) (v : Value) : Like a0 (a.put (some d) v) D :=
  ⟨h.defers, by simpa [Act.put] using h.size, fun i hi => by
    have : d ≠ i := fun e => hi (e ▸ hd)
    simp only [Act.put]
    rw [Array.getElem?_setIfInBounds_ne this]
    exact h.at_ i hi⟩
theorem Like.eval {a0 a : Act} {D : List Nat} (h : Like a0 a D) {d : Nat} (hd : d ∉ D) : a.eval (.tmp d) = a0.eval (.tmp d) := by
  simp only [Act.eval, Array.getD_eq_getD_getElem?]
  rw [h.at_ d hd]
end Go.Proofs.YtcjeckjmoponkaaGreatDoor
/- A region that draws its order: operations taken first, then some that come up in whatever order their edges leave open, each behind a state that says which of them are done; then a tail in the order of the text. Of no program. -/
namespace Go.Proofs.YtcjeckjmoponkaaGreatDoor
set_option linter.unusedVariables false
set_option linter.unusedSimpArgs false

def allB : Nat → List (List Bool)
  | 0 => [[]]
  | k + 1 => (allB k).flatMap fun l => [false :: l, true :: l]
theorem mem_allB : ∀ {k : Nat} {l : List Bool}, l.length = k → l ∈ allB k
  | 0, [], _ => by simp [allB]
  | k + 1, b :: l, h => by
    have h1 : l ∈ allB k := mem_allB (by simpa using h)
    simp only [allB, List.mem_flatMap]
    refine ⟨l, h1, ?_⟩
    cases b <;> simp
/-- What has come up: the flags bs of the operations fl. -/
def markB (L0 : Array Bool) : List Nat → List Bool → Array Bool
  | i :: fl, b :: bs => markB (if b then L0.setIfInBounds i true else L0) fl bs
  | _, _ => L0
/-- What must be done first, is. -/
def closedB (pre : List (List Nat)) (bs : List Bool) : Bool := (List.range bs.length).all fun j => !(bs.getD j false) || (pre.getD j []).all fun i => bs.getD i false
def flagsB (md : Region.Mode) (ops : Array Oper) (n : Nat) (L0 : Array Bool) (fl : List Nat) (pre : List (List Nat)) : Bool :=
  (allB fl.length).all fun bs => !closedB pre bs || bs.all id ||
    (!(Region.ready md ops (markB L0 fl bs)).isEmpty && (Region.ready md ops (markB L0 fl bs)).all fun i =>
      (List.range fl.length).any fun j => decide (fl.getD j 0 = i) && decide (i < n) && !(bs.getD j true) && (pre.getD j []).all (fun x => bs.getD x false) && decide ((markB L0 fl bs).setIfInBounds i true = markB L0 fl (bs.set j true)))

theorem count_false_set {bs : List Bool} {j m : Nat} (hj : bs[j]? = some false) (hc : bs.count false = m + 1) : (bs.set j true).count false = m := by
  obtain ⟨hl, he⟩ := List.getElem?_eq_some_iff.1 hj
  have := List.countP_set (p := fun b => b == false) (a := true) hl
  rw [List.count] at hc ⊢
  rw [this, he, hc]
  simp
theorem all_true {bs : List Bool} (h : bs.count false = 0) : bs = List.replicate bs.length true := by
  refine List.eq_replicate_iff.2 ⟨rfl, fun b hb => ?_⟩
  cases b with
  | true => rfl
  | false => exact absurd hb (List.count_eq_zero.1 h)
theorem getD_some {bs : List Bool} {j : Nat} (h : bs.getD j true = false) : bs[j]? = some false := by
  rw [List.getD_eq_getElem?_getD] at h
  cases hb : bs[j]? with
  | none => rw [hb] at h; simp at h
  | some b => rw [hb] at h; simp at h; rw [h]
theorem closed_set {pre : List (List Nat)} {bs : List Bool} {j : Nat} (hc : closedB pre bs = true) (hp : (pre.getD j []).all (fun x => bs.getD x false) = true) : closedB pre (bs.set j true) = true := by
  unfold closedB at hc ⊢
  rw [List.all_eq_true] at hc ⊢
  have mono : ∀ x, bs.getD x false = true → (bs.set j true).getD x false = true := fun x hx => by
    rw [List.getD_eq_getElem?_getD] at hx ⊢
    rw [List.getElem?_set]
    split
    · split
      · rfl
      · rename_i e h; subst e; rw [List.getElem?_eq_none (by omega)] at hx; simp at hx
    · exact hx
  intro i hi
  have hi' : i ∈ List.range bs.length := by simpa using hi
  rw [Bool.or_eq_true]
  by_cases hij : i = j
  · subst hij
    right
    rw [List.all_eq_true] at hp ⊢
    exact fun x hx => mono x (hp x hx)
  · have := hc i hi'
    rw [Bool.or_eq_true] at this
    rcases this with h | h
    · left
      rw [List.getD_eq_getElem?_getD] at h ⊢
      rw [List.getElem?_set_ne (fun e => hij e.symm)]
      exact h
    · right
      rw [List.all_eq_true] at h ⊢
      exact fun x hx => mono x (h x hx)

section
variable {P : Program} {md : Region.Mode} {ops : Array Oper} {Q : Exit → Act → World → Prop} {S : World → Prop} {n : Nat} {L : Array Bool → Act → World → Prop}
theorem head_flags {L0 : Array Bool} {fl : List Nat} {pre : List (List Nat)} (J : List Bool → Act → World → Prop) (hchk : flagsB md ops n L0 fl pre = true)
    (hstep : ∀ (bs : List Bool) (j : Nat) (a : Act) (w : World), bs.length = fl.length → closedB pre bs = true → bs[j]? = some false → (pre.getD j []).all (fun x => bs.getD x false) = true → J bs a w → wpOp P ops Q (fl.getD j 0) (fun a' w' => S w' ∧ J (bs.set j true) a' w') a w)
    (hL : ∀ a w, J (List.replicate fl.length true) a w → L (markB L0 fl (List.replicate fl.length true)) a w) :
    ∀ (m : Nat) (bs : List Bool) (a : Act) (w : World), bs.length = fl.length → bs.count false = m → closedB pre bs = true → J bs a w → headW P md ops Q S n L m (markB L0 fl bs) a w
  | 0, bs, a, w, hl, hc, _, h => by
    have e := all_true hc
    rw [hl] at e
    rw [e] at h ⊢
    exact hL a w h
  | m + 1, bs, a, w, hl, hc, hcl, h => by
    have hb := List.all_eq_true.1 hchk bs (mem_allB hl)
    rw [hcl] at hb
    have hna : bs.all id = false := by
      cases hq : bs.all id with
      | false => rfl
      | true =>
        exfalso
        have : bs.count false = 0 := List.count_eq_zero.2 fun hm => by
          have := List.all_eq_true.1 hq false hm
          simp at this
        omega
    rw [hna] at hb
    simp only [Bool.not_true, Bool.false_or, Bool.and_eq_true, Bool.not_eq_true', List.isEmpty_eq_false_iff] at hb
    obtain ⟨hne, hall⟩ := hb
    refine ⟨hne, fun i hi => ?_⟩
    have h1 := List.all_eq_true.1 hall i hi
    obtain ⟨j, hjm, h2⟩ := List.any_eq_true.1 h1
    simp only [Bool.and_eq_true, decide_eq_true_eq, Bool.not_eq_true'] at h2
    obtain ⟨⟨⟨⟨hji, hin⟩, hjf⟩, hpre⟩, hmark⟩ := h2
    refine ⟨hin, ?_⟩
    have hjs := getD_some hjf
    have := hstep bs j a w hl hcl hjs hpre h
    rw [hji] at this
    refine wpOp_mono (fun a' w' h' => ⟨h'.1, ?_⟩) this
    rw [hmark]
    exact head_flags J hchk hstep hL m (bs.set j true) a' w' (by simpa using hl) (count_false_set hjs hc) (closed_set hcl hpre) h'.2
end

theorem op_step {P : Program} {ops : Array Oper} {Q : Exit → Act → World → Prop} {i : Nat} {o : Oper} {K : Act → World → Prop} {a : Act} {w : World} (hi : ops[i]? = some o) (hg : o.guard = none) (h : ∀ K' : Act → World → Prop, (∀ a w, K a w → K' a w) → Oper.wp P o a w K' Q) : wpOp P ops Q i K a w :=
  op_now hi hg (h K fun _ _ h => h)
theorem wp_region_flags {P : Program} {id : Nat} {Q : Exit → Act → World → Prop} {a : Act} {w : World} {l : List Oper} (S : World → Prop) (n : Nat) (fs : List (Bool × Nat)) (fl : List Nat) (pre : List (List Nat)) (J : List Bool → Act → World → Prop) (hm : P.follows .mixedOrders = true)
    (hB : invB l.toArray n fs fl.length = true) (hF : flagsB .any l.toArray n (setMix fs (Array.replicate l.toArray.size false)) fl pre = true)
    (hseq : Region.seqB .any l.toArray (l.toArray.size - n) n (markB (setMix fs (Array.replicate l.toArray.size false)) fl (List.replicate fl.length true)) = true)
    (h0 : closedB pre (List.replicate fl.length false) = true && decide (markB (setMix fs (Array.replicate l.toArray.size false)) fl (List.replicate fl.length false) = setMix fs (Array.replicate l.toArray.size false)) = true)
    (hQ : ∀ c a w d v, Q (.panic c) (a.put d v) w → Q (.panic c) a w)
    (hstep : ∀ (bs : List Bool) (j : Nat) (a : Act) (w : World), bs.length = fl.length → closedB pre bs = true → bs[j]? = some false → (pre.getD j []).all (fun x => bs.getD x false) = true → J bs a w → wpOp P l.toArray Q (fl.getD j 0) (fun a' w' => S w' ∧ J (bs.set j true) a' w') a w)
    (hend : ∀ a w, J (List.replicate fl.length true) a w → wpList P l.toArray Q (l.drop n) a w)
    (h : wpMix P l.toArray Q S (fun a' w' => J (List.replicate fl.length false) a' w') (fs.map fun i => (i.1, l.getD i.2 default)) a w.drew) : (Code.region id l.toArray true).wp P Q a w := by
  simp only [Bool.and_eq_true, decide_eq_true_eq] at h0
  refine wp_region_inv S n fs fl.length hm hB hQ (wpMix_mono (fun a' w' h' => ?_) _ a _ h)
  have := head_flags (P := P) (md := .any) (ops := l.toArray) (Q := Q) (S := S) (n := n) (L := fun listed a w => Region.seqB .any l.toArray (l.toArray.size - n) n listed = true ∧ wpList P l.toArray Q (l.drop n) a w) (L0 := setMix fs (Array.replicate l.toArray.size false)) (fl := fl) (pre := pre) J hF hstep (fun a w h => ⟨hseq, hend a w h⟩) fl.length (List.replicate fl.length false) a' w' (by simp) (by simp) (by simpa using h0.1) h'
  rwa [h0.2] at this
end Go.Proofs.YtcjeckjmoponkaaGreatDoor
/- A region that draws its order and has no operation that waits for all others: as a region with one more operation that waits for all. Of no program. -/
namespace Go.Proofs.YtcjeckjmoponkaaGreatDoor
set_option linter.unusedVariables false
set_option linter.unusedSimpArgs false

/-- An operation that does nothing and waits for all. -/
def padOp (n : Nat) : Oper := { dst := none, op := .move (.const (.bool true)), type := 0, pos := "", after := ((List.range n).map fun i => ({ on := i, ground := .data } : Edge)).toArray, guard := none }
def padB (ops : Array Oper) (fs : List (Bool × Nat)) : Bool :=
  Region.noSelect (ops.push (padOp ops.size)) && Region.sinkB .any (ops.push (padOp ops.size)) ops.size && Region.chainB .any (ops.push (padOp ops.size)) ops.size && fs.all (fun i => decide (i.2 < ops.size)) && mixB .any (ops.push (padOp ops.size)) fs (Array.replicate (ops.size + 1) false) &&
    decide (setMix fs (Array.replicate (ops.size + 1) false) = (Array.replicate ops.size true).push false) && (Region.ready .any ops (Array.replicate ops.size true)).isEmpty && decide (fs.length = ops.size)

section
variable {P : Program} {md : Region.Mode} {ops : Array Oper} {Q : Exit → Act → World → Prop} {S : World → Prop}
theorem getD_push (x : Array Bool) (b : Bool) (j : Nat) (hj : j < x.size) : (x.push b).getD j true = x.getD j true ∧ (x.push b).getD j false = x.getD j false := by
  simp [Array.getElem?_push, Nat.ne_of_lt hj]
theorem getD_pushF (x : Array Bool) (j : Nat) : (x.push false).getD j false = x.getD j false := by
  by_cases h : j < x.size
  · exact (getD_push x false j h).2
  · by_cases e : j = x.size
    · subst e; simp
    · have h1 : ¬ j < (x.push false).size := by simp; omega
      simp only [Array.getD_eq_getD_getElem?]
      rw [Array.getElem?_eq_none (by omega), Array.getElem?_eq_none (by omega)]
theorem ready_pad {d : Oper} {x : Array Bool} (hx : x.size = ops.size) {i : Nat} (hi : i < ops.size) : i ∈ Region.ready md (ops.push d) (x.push false) ↔ i ∈ Region.ready md ops x := by
  unfold Region.ready
  have h1 : (ops.push d)[i]? = ops[i]? := by rw [Array.getElem?_push]; simp [Nat.ne_of_lt hi]
  simp only [List.mem_filter, List.mem_range, Array.size_push, h1, (getD_push x false i (by omega)).1, getD_pushF]
  constructor
  · rintro ⟨_, h⟩; exact ⟨hi, h⟩
  · rintro ⟨_, h⟩; exact ⟨by omega, h⟩
theorem yielded_pad {d : Oper} (hd : d.dst = none) (tmps : Array Value) : yielded (ops.push d) tmps = yielded ops tmps := by
  funext j
  unfold yielded
  by_cases h : j < ops.size
  · rw [Array.getElem?_push]; simp [Nat.ne_of_lt h]
  · by_cases e : j = ops.size
    · subst e; simp [hd]
    · rw [Array.getElem?_eq_none (by simp; omega), Array.getElem?_eq_none (by omega)]
theorem wpOp_pad {d : Oper} (hd : d.dst = none) {i : Nat} (hi : i < ops.size) {K : Act → World → Prop} {a : Act} {w : World} (h : wpOp P (ops.push d) Q i K a w) : wpOp P ops Q i K a w := by
  unfold wpOp at h ⊢
  rw [yielded_pad hd] at h
  have h1 : (ops.push d)[i]? = ops[i]? := by rw [Array.getElem?_push]; simp [Nat.ne_of_lt hi]
  rw [h1] at h
  exact h
theorem headW_pad {d : Oper} (hd : d.dst = none) : ∀ (f : Nat) (x : Array Bool) (a : Act) (w : World), x.size = ops.size →
    headW P .any (ops.push d) Q S ops.size (fun listed a w => ∃ y, y.size = ops.size ∧ listed = y.push false ∧ Region.ready .any ops y = [] ∧ Q .normal a w) f (x.push false) a w → wpAny P .any ops Q f x a w
  | 0, x, a, w, hx, h => by
    obtain ⟨y, _, e, h1, h2⟩ := h
    have : y = x := (Array.push_inj_left.1 e).symm
    subst this
    exact ⟨h1, h2⟩
  | f + 1, x, a, w, hx, h => by
    obtain ⟨h0, h1⟩ := h
    refine ⟨fun he => ?_, fun i hi => ?_⟩
    · exfalso
      obtain ⟨i, hi⟩ := List.exists_mem_of_ne_nil _ h0
      have := (ready_pad (md := .any) hx (h1 i hi).1).1 hi
      rw [he] at this
      cases this
    · have hin : i < ops.size := by
        unfold Region.ready at hi
        simpa using (List.mem_filter.1 hi).1
      have := (h1 i ((ready_pad hx hin).2 hi)).2
      refine wpOp_mono (fun a' w' h' => ?_) (wpOp_pad hd hin this)
      refine headW_pad hd f (x.setIfInBounds i true) a' w' (by simpa using hx) ?_
      have e : (x.push false).setIfInBounds i true = (x.setIfInBounds i true).push false := by
        refine Array.ext_getElem? fun j => ?_
        have hix : i < x.size := by omega
        by_cases h1 : j = i
        · subst h1
          rw [Array.getElem?_setIfInBounds_self_of_lt (by simp; omega), Array.getElem?_push, if_neg (by simp; omega), Array.getElem?_setIfInBounds_self_of_lt hix]
        · rw [Array.getElem?_setIfInBounds_ne (fun e => h1 e.symm), Array.getElem?_push, Array.getElem?_push, Array.size_setIfInBounds, Array.getElem?_setIfInBounds_ne (fun e => h1 e.symm)]
      rw [e] at h'
      exact h'.2
end
theorem wp_region_pad {P : Program} {id : Nat} {Q : Exit → Act → World → Prop} {a : Act} {w : World} {l : List Oper} (S : World → Prop) (fs : List (Bool × Nat)) (hm : P.follows .mixedOrders = true)
    (hB : padB l.toArray fs = true) (hQ : ∀ c a w d v, Q (.panic c) (a.put d v) w → Q (.panic c) a w)
    (h : wpMix P (l.toArray.push (padOp l.toArray.size)) Q S (fun a'' w'' => wpList P l.toArray Q [] a'' w'') (fs.map fun i => (i.1, l.getD i.2 default)) a w.drew) : (Code.region id l.toArray true).wp P Q a w := by
  simp only [padB, Bool.and_eq_true, decide_eq_true_eq] at hB
  obtain ⟨⟨⟨⟨⟨⟨⟨hsel, hs⟩, hc⟩, hfl⟩, htk⟩, hset⟩, hrd⟩, hlen⟩ := hB
  have hsz : l.toArray.size = l.length := by simp
  have hf : fs.map (fun i => (i.1, (l.toArray.push (padOp l.toArray.size))[i.2]?)) = (fs.map fun i => (i.1, l.getD i.2 default)).map (fun o => (o.1, some o.2)) := by
    rw [List.map_map]
    refine List.map_congr_left (fun i hi => ?_)
    have := List.all_eq_true.1 hfl i hi
    have hil : i.2 < l.length := by simp at this; omega
    rw [Array.getElem?_push]
    simp [List.getD, hil, Nat.ne_of_lt hil]
  have inv0 : HeadInv .any (l.toArray.push (padOp l.toArray.size)) l.toArray.size (Array.replicate (l.toArray.size + 1) false) :=
    ⟨by simp, fun j oj _ hl => (by rw [getD_replicate_false] at hl; cases hl), fun t _ ht => getD_in (by simpa using ht) (getD_replicate_false _ _)⟩
  refine wp_region_any hm ?_
  have hrd' : Region.ready .any l.toArray (Array.replicate l.toArray.size true) = [] := by simpa using hrd
  have H := mix_head (P := P) (md := .any) (ops := l.toArray.push (padOp l.toArray.size)) (Q := Q) (S := S) (n := l.toArray.size) (L := fun listed a w => ∃ y, y.size = l.toArray.size ∧ listed = y.push false ∧ Region.ready .any l.toArray y = [] ∧ Q .normal a w) hsel hQ hs hc (by simp)
    (fun listed a w hL j hj => by
      obtain ⟨y, hy, rfl, h1, _⟩ := hL
      rcases Nat.lt_or_ge j l.toArray.size with hlt | hge
      · exfalso
        have := (ready_pad (md := .any) hy hlt).1 hj
        rw [h1] at this
        cases this
      · exact hge) fs _ _ a w.drew hf inv0 hfl htk
    (wpMix_mono (fun a'' w'' h'' => by rw [hset]; exact ⟨_, by simp, rfl, hrd', h''⟩) _ a _ h)
  rw [hlen] at H
  have hr : Array.replicate (l.toArray.size + 1) false = (Array.replicate l.toArray.size false).push false := by rw [Array.replicate_succ]
  rw [hr] at H
  exact headW_pad (d := padOp l.toArray.size) rfl _ _ _ _ (by simp) H
end Go.Proofs.YtcjeckjmoponkaaGreatDoor
/- A region that draws its order, in two parts: what comes up ahead of place n, and the rest, each with a class of worlds of its own. Of no program. -/
namespace Go.Proofs.YtcjeckjmoponkaaGreatDoor
set_option linter.unusedVariables false
set_option linter.unusedSimpArgs false

section
variable {P : Program} {md : Region.Mode} {ops : Array Oper} {Q : Exit → Act → World → Prop} {S : World → Prop} {n : Nat} {L : Array Bool → Act → World → Prop}
end

end Go.Proofs.YtcjeckjmoponkaaGreatDoor
