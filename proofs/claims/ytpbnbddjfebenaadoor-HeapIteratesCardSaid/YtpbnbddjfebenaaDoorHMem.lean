/- What a heap looks like in memory, and what may change when it is called. -/
import Derived.Test.YtpbnbddjfebenaaDoorHQuad
import Derived.Test.YtpbnbddjfebenaaDoorProg
import Derived.WalkKit
import Derived.WalkSpells
import Derived.WalkLawsBesides
import Derived.OneCell
import Derived.Sort.Grow
namespace Go.Proofs.YtpbnbddjfebenaaDoor
open Go.RowKit Go.Sort
set_option linter.unusedVariables false
set_option linter.unusedSimpArgs false

/-- At most the blocks of F have changed; there may be new ones. -/
structure Fr (F : List Nat) (w w' : World) : Prop where
  os : w'.os = w.os
  tape : w'.tape = w.tape
  output : w'.output = w.output
  size : w.heap.size ≤ w'.heap.size
  block : ∀ k, k < w.heap.size → k ∉ F → w'.heap[k]? = w.heap[k]?

theorem Fr.refl (F : List Nat) (w : World) : Fr F w w := ⟨rfl, rfl, rfl, Nat.le_refl _, fun _ _ _ => rfl⟩
theorem Fr.trans {F G : List Nat} {a b c : World} (h : Fr F a b) (k : Fr G b c) (hs : ∀ x, x ∈ G → x ∈ F ∨ a.heap.size ≤ x) : Fr F a c :=
  ⟨k.os.trans h.os, k.tape.trans h.tape, k.output.trans h.output, Nat.le_trans h.size k.size, fun i hi hn =>
    (k.block i (Nat.lt_of_lt_of_le hi h.size) (fun hg => by rcases hs i hg with h' | h'; exact hn h'; omega)).trans (h.block i hi hn)⟩
theorem Fr.trans' {F : List Nat} {a b c : World} (h : Fr F a b) (k : Fr F b c) : Fr F a c := h.trans k fun _ hx => .inl hx
theorem Fr.mono {F G : List Nat} {w w' : World} (h : Fr F w w') (hs : ∀ x, x ∈ F → x ∈ G ∨ w.heap.size ≤ x) : Fr G w w' :=
  ⟨h.os, h.tape, h.output, h.size, fun i hi hn => h.block i hi (fun hg => by rcases hs i hg with h' | h'; exact hn h'; omega)⟩
theorem Fr.of_below {w w' : World} (h : Below w.heap.size w w') (F : List Nat) : Fr F w w' := ⟨h.os, h.tape, h.output, h.size, fun k hk _ => h.block k hk⟩
theorem Fr.below {B : Nat} {F : List Nat} {w w' : World} (h : Fr F w w') (hF : ∀ x, x ∈ F → B ≤ x) (hB : B ≤ w.heap.size) : Below B w w' :=
  ⟨h.os, h.tape, h.output, h.size, fun k hk => h.block k (by omega) (fun hx => by have := hF k hx; omega)⟩
theorem Fr.same {F : List Nat} {w w' : World} (h : Fr F w w') {k : Nat} {o : Obj} (hk : w.heap[k]? = some o) (hn : k ∉ F) : w'.heap[k]? = some o :=
  (h.block k (lt_of_block hk) hn).trans hk
theorem Fr.cell {F : List Nat} {w w' : World} (h : Fr F w w') {p : Addr} {v : Value} (hk : w.cell? p = some v) (hn : p.block ∉ F) : w'.cell? p = some v := by
  rw [World.cell?_of_block (h.block p.block (World.block_lt_of_cell? w _ hk) hn)]; exact hk
theorem Fr.frozen {F : List Nat} {w w' : World} (h : Fr F w w') {p : Addr} (hk : p.block < w.heap.size) (hn : p.block ∉ F) : w'.frozen? p = w.frozen? p :=
  World.frozen?_of_block (h.block p.block hk hn)
theorem fr_setCell (w : World) (a : Addr) (v : Value) : Fr [a.block] w (w.setCell a v) :=
  ⟨rfl, rfl, rfl, by simp [World.setCell], fun k _ hn => Below.heap_setCell _ _ _ _ (by simpa using hn)⟩
theorem fr_grow (w : World) (n : Nat) (os : Array Obj) (F : List Nat) : Fr F w (grow (w.drewN n) os) :=
  ⟨rfl, rfl, rfl, by simp [grow], fun k hk _ => by
    show (w.heap ++ os)[k]? = _
    rw [Array.getElem?_append_left hk]⟩
theorem fr_drewN (w : World) (n : Nat) (F : List Nat) : Fr F w (w.drewN n) := by have := fr_grow w n #[] F; rwa [grow_empty] at this
theorem fr_alloc (w : World) (o : Obj) (F : List Nat) : Fr F w (w.alloc o) := by
  rw [alloc_eq_grow]; exact fr_grow w 0 _ F
theorem fr_grown {w w' : World} {row : Option Nat} (h : w.grownBy w' row) : Fr row.toList w w' :=
  ⟨h.os, h.tape, h.output, h.size, fun k hk hn => h.block k hk (fun e => hn (by rw [← e]; simp))⟩

/-- A row that a call owns is kept where its block is not among those that may change. -/
theorem Fr.row {F : List Nat} {w w' : World} (h : Fr F w w') {base e size n : Nat} {v : Value} {xs : List Value} (ho : w.ownsRow base e size v n xs) (hn : ∀ g, v.ownBlock = some g → g ∉ F) : w'.ownsRow base e size v n xs := by
  refine ⟨ho.1, ?_⟩
  rcases ho.2 with h' | ⟨g, cap, cur, rfl, hb, hh, r⟩
  · exact .inl h'
  · exact .inr ⟨g, cap, cur, rfl, hb, h.same hh (hn g rfl), r⟩

/-- The heap's blocks: the struct's, the body's, the captured variable's; the slices of the elements and of the layout. -/
structure Hp where
  a : Nat
  bb : Nat
  cb : Nat
  ve : Value
  vi : Value

def Hp.foot (h : Hp) : List Nat := [h.a, h.bb, h.cb] ++ h.ve.ownBlock.toList ++ h.vi.ownBlock.toList
/-- What the calls of a layout's functions may change. -/
def Hp.rows (h : Hp) : List Nat := h.ve.ownBlock.toList ++ h.vi.ownBlock.toList

def cmpV (cb : Nat) : Value := .func (.func 36) #[] #[.pointer (some ⟨cb, 0, none⟩)]
def plV (cb : Nat) : Value := .func (.func 38) #[] #[.pointer (some ⟨cb, 0, none⟩)]

/-- What the body holds, without the blocks. -/
structure Bd where
  n : Nat
  K : Nat → Kvn
  X : Nat → Int
  its : List Nat
  W : Nat → Nat
  pushed : Int

/-- The body's own block. -/
structure BlockAt (w : World) (bb cb : Nat) (ve vi : Value) (W : Nat → Nat) (p : Int) : Prop where
  ex : ∃ cur : Array Value, w.heap[bb]? = some (.cells cur 74 (0, 0)) ∧ cur.size = 21 ∧ cur[0]? = some ve ∧ (∀ i, i < 16 → cur[1 + i]? = some (.int .u64 (W i))) ∧
    cur[17]? = some vi ∧ cur[18]? = some (cmpV cb) ∧ cur[19]? = some (plV cb) ∧ cur[20]? = some (.int .u64 p)

/-- The row of the elements. -/
structure ElAt (w : World) (ve : Value) (n : Nat) (K : Nat → Kvn) (X : Nat → Int) : Prop where
  ex : ∃ xs, w.ownsRow 0 80 4 ve n xs ∧ ∀ h, h < n → xs[h * 4]? = some (.int .u64 (K h).key) ∧ xs[h * 4 + 1]? = some (.int .i64 (K h).val) ∧ xs[h * 4 + 2]? = some (.int .u64 (K h).num) ∧ xs[h * 4 + 3]? = some (.int .i64 (X h))

def encN (x : Nat) : Value := .int .i64 (x : Int)

/-- A body in memory. -/
structure BodAt (w : World) (h : Hp) (s : Bd) : Prop where
  ha : w.heap[h.a]? = some (.cells #[.pointer (some ⟨h.bb, 0, none⟩)] 54 (0, 0))
  hc : w.heap[h.cb]? = some (.cells #[.pointer (some ⟨h.bb, 0, none⟩)] 51 (0, 0))
  hb : BlockAt w h.bb h.cb h.ve h.vi s.W s.pushed
  he : ElAt w h.ve s.n s.K s.X
  hi : w.ownsRow 0 3 1 h.vi s.its.length (s.its.map encN)

theorem cells_cell {w : World} {b : Nat} {cur : Array Value} {t : TypeId} {o : Nat} {v : Value} (h : w.heap[b]? = some (.cells cur t (0, 0))) (hv : cur[o]? = some v) : w.cell? ⟨b, o, none⟩ = some v := by simp [World.cell?, h, hv]
theorem cells_free {w : World} {b : Nat} {cur : Array Value} {t : TypeId} (h : w.heap[b]? = some (.cells cur t (0, 0))) (o : Nat) : w.frozen? ⟨b, o, none⟩ = false := by simp [World.frozen?, h]
theorem cells_set {w : World} {b : Nat} {cur : Array Value} {t : TypeId} (h : w.heap[b]? = some (.cells cur t (0, 0))) (o : Nat) (v : Value) : (w.setCell ⟨b, o, none⟩ v).heap[b]? = some (.cells (cur.setIfInBounds o v) t (0, 0)) :=
  heap_setCell_same w b o cur t v h
theorem cells_set_other {w : World} {b k : Nat} {o : Obj} (h : w.heap[k]? = some o) (hne : k ≠ b) (j : Nat) (v : Value) : (w.setCell ⟨b, j, none⟩ v).heap[k]? = some o :=
  (Below.heap_setCell w _ v k hne).trans h

theorem block_new (w : World) (o : Obj) (b : Nat) (hb : b = w.heap.size) : (w.alloc o).heap[b]? = some o := by subst hb; exact heap_alloc_new w o
theorem cell_new (w : World) (cs : Array Value) (t : TypeId) (b o : Nat) (v : Value) (hb : b = w.heap.size) (hv : cs[o]? = some v) : (w.alloc (.cells cs t)).cell? ⟨b, o, none⟩ = some v := cells_cell (block_new w _ b hb) hv

namespace BodAt
variable {w : World} {h : Hp} {s : Bd}
theorem ne_types {w : World} {b c : Nat} {x y : Array Value} {t u : TypeId} (hb : w.heap[b]? = some (.cells x t (0, 0))) (hc : w.heap[c]? = some (.cells y u (0, 0))) (hn : t ≠ u) : b ≠ c := by
  rintro rfl
  rw [hb] at hc
  simp only [Option.some.injEq, Obj.cells.injEq] at hc
  exact hn hc.2.1
theorem row_ne {w : World} {base e size n : Nat} {v : Value} {xs : List Value} (ho : w.ownsRow base e size v n xs) {c : Nat} {y : Array Value} {u : TypeId} (hc : w.heap[c]? = some (.cells y u (0, 0))) (hn : e ≠ u) : ∀ g, v.ownBlock = some g → g ≠ c := by
  intro g hg
  rcases ho.2 with ⟨rfl, _⟩ | ⟨g', cap, cur, rfl, _, hh, _⟩
  · simp [Value.ownBlock] at hg
  · simp [Value.ownBlock] at hg
    subst hg
    exact ne_types hh hc hn
theorem row_row_ne {w : World} {base e size n base' e' size' n' : Nat} {v v' : Value} {xs xs' : List Value} (ho : w.ownsRow base e size v n xs) (ho' : w.ownsRow base' e' size' v' n' xs') (hn : e ≠ e') : ∀ g g', v.ownBlock = some g → v'.ownBlock = some g' → g ≠ g' := by
  intro g g' hg hg'
  rcases ho'.2 with ⟨rfl, _⟩ | ⟨g2, cap, cur, rfl, _, hh, _⟩
  · simp [Value.ownBlock] at hg'
  · simp [Value.ownBlock] at hg'
    subst hg'
    exact row_ne ho hh hn g hg
theorem lt_foot (b : BodAt w h s) : ∀ k, k ∈ h.foot → k < w.heap.size := by
  intro k hk
  simp only [Hp.foot, List.mem_append, List.mem_cons, List.not_mem_nil, or_false, Option.mem_toList, Option.mem_def] at hk
  obtain ⟨xs, ho, _⟩ := b.he.ex
  obtain ⟨cur, hcur, _⟩ := b.hb.ex
  rcases hk with ((rfl | rfl | rfl) | hk) | hk
  · exact lt_of_block b.ha
  · exact lt_of_block hcur
  · exact lt_of_block b.hc
  · exact (ho.lt k hk).2
  · exact (b.hi.lt k hk).2
/-- A change of other blocks. -/
theorem frame (b : BodAt w h s) {F : List Nat} {w' : World} (hf : Fr F w w') (hn : ∀ k, k ∈ h.foot → k ∉ F) : BodAt w' h s := by
  obtain ⟨xs, ho, hx⟩ := b.he.ex
  obtain ⟨cur, hcur, hr⟩ := b.hb.ex
  refine ⟨hf.same b.ha (hn _ (by simp [Hp.foot])), hf.same b.hc (hn _ (by simp [Hp.foot])), ⟨cur, hf.same hcur (hn _ (by simp [Hp.foot])), hr⟩, ⟨xs, hf.row ho (fun g hg => hn _ (by simp [Hp.foot, hg])), hx⟩, hf.row b.hi (fun g hg => hn _ (by simp [Hp.foot, hg]))⟩
end BodAt
end Go.Proofs.YtpbnbddjfebenaaDoor
