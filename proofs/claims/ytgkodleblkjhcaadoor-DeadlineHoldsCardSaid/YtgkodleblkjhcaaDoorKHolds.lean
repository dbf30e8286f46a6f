/- KHolds: JDuo, JHoldP, JHoldQ, JHolds, merged. -/
import Derived.Test.YtgkodleblkjhcaaDoorKLaw
import Derived.Maps.AppendAt
import Derived.Laws.OwnMore
import Derived.Test.YtgkodleblkjhcaaDoorKAgain
import Derived.Test.YtgkodleblkjhcaaDoorKEnd
/- Two deadlines side by side. -/
namespace Go.Proofs.YtgkodleblkjhcaaDoor
open Go.RowKit Go.Sort
set_option linter.unusedVariables false
set_option linter.unusedSimpArgs false

/-- The deadlines' own blocks are F, and what these hold is all that counts. -/
structure TrJ (w0 W : World) (a : Nat) (S : Int) (gs : Nat → Int) (P : Nat) (F : Nat → Prop) : Prop where
  lo : ∀ k, F k → w0.heap.size ≤ k ∧ k < W.heap.size
  tr : ∀ (w0' : World) (G' : Nat → Prop) (w' : World), w'.os = W.os → w'.tape = W.tape → w'.output = W.output → W.heap.size ≤ w'.heap.size → (∀ k, F k → w'.heap[k]? = W.heap[k]?) → Below w0'.heap.size w0' w' →
      (∀ k, F k → w0'.heap.size ≤ k ∧ ¬ G' k) → (∀ k, G' k → k < w'.heap.size) → JAt w0' G' w' a S gs P
theorem JAt.tr {w0 W : World} {G : Nat → Prop} {a : Nat} {S : Int} {gs : Nat → Int} {P : Nat} (T : JAt w0 G W a S gs P) : ∃ F : Nat → Prop, TrJ w0 W a S gs P F ∧ ∀ k, F k → ¬ G k := by
  obtain ⟨F, h1, h2⟩ := T.foot
  exact ⟨F, ⟨fun k hk => ⟨(h1 k hk).1, (h1 k hk).2.1⟩, h2⟩, fun k hk => (h1 k hk).2.2⟩
theorem TrJ.keep {w0 W w' : World} {a : Nat} {S : Int} {gs : Nat → Int} {P : Nat} {F : Nat → Prop} (t : TrJ w0 W a S gs P F) (ho : w'.os = W.os) (ht : w'.tape = W.tape) (hp : w'.output = W.output) (hs : W.heap.size ≤ w'.heap.size) (hk : ∀ k, F k → w'.heap[k]? = W.heap[k]?) : TrJ w0 w' a S gs P F :=
  ⟨fun k h => ⟨(t.lo k h).1, Nat.lt_of_lt_of_le (t.lo k h).2 hs⟩, fun w0' G' w'' h1 h2 h3 h4 h5 => t.tr w0' G' w'' (h1.trans ho) (h2.trans ht) (h3.trans hp) (Nat.le_trans hs h4) (fun k h => (h5 k h).trans (hk k h))⟩

structure DuoJ (w0 W : World) (R : Nat → Prop) (a : Nat) (S1 : Int) (g1 : Nat → Int) (c : Nat) (S2 : Int) (g2 : Nat → Int) (P : Nat) : Prop where
  ex : ∃ F1 F2 : Nat → Prop, TrJ w0 W a S1 g1 P F1 ∧ TrJ w0 W c S2 g2 P F2 ∧ (∀ k, F1 k → ¬ F2 k) ∧ (∀ k, F1 k → ¬ R k) ∧ (∀ k, F2 k → ¬ R k)
  lt : ∀ k, R k → k < W.heap.size
  below : Below w0.heap.size w0 W

namespace DuoJ
variable {w0 W : World} {R : Nat → Prop} {a c : Nat} {S1 S2 : Int} {g1 g2 : Nat → Int} {P : Nat}
theorem swap (D : DuoJ w0 W R a S1 g1 c S2 g2 P) : DuoJ w0 W R c S2 g2 a S1 g1 P := by
  obtain ⟨F1, F2, t1, t2, h1, h2, h3⟩ := D.ex
  exact ⟨⟨F2, F1, t2, t1, fun k hk hf => h1 k hf hk, h3, h2⟩, D.lt, D.below⟩
theorem left (D : DuoJ w0 W R a S1 g1 c S2 g2 P) : JAt w0 R W a S1 g1 P := by
  obtain ⟨F1, F2, t1, t2, h1, h2, h3⟩ := D.ex
  exact t1.tr w0 R W rfl rfl rfl (Nat.le_refl _) (fun _ _ => rfl) D.below (fun k hk => ⟨(t1.lo k hk).1, h2 k hk⟩) D.lt
theorem grown {w' : World} (D : DuoJ w0 W R a S1 g1 c S2 g2 P) (hb : Below W.heap.size W w') : DuoJ w0 w' R a S1 g1 c S2 g2 P := by
  obtain ⟨F1, F2, t1, t2, h1, h2, h3⟩ := D.ex
  exact ⟨⟨F1, F2, t1.keep hb.os hb.tape hb.output hb.size (fun k hk => hb.block k (t1.lo k hk).2), t2.keep hb.os hb.tape hb.output hb.size (fun k hk => hb.block k (t2.lo k hk).2), h1, h2, h3⟩, fun k hk => Nat.lt_of_lt_of_le (D.lt k hk) hb.size, D.below.trans (hb.mono D.below.size)⟩
/-- A call of the first one. -/
theorem callL (D : DuoJ w0 W R a S1 g1 c S2 g2 P) : ∃ G : Nat → Prop, JAt w0 G W a S1 g1 P ∧ (∀ k, R k → G k) ∧ ∀ (w' : World) (v : Value) (S1' : Int) (g1' : Nat → Int), JAt w0 (GV G v) w' a S1' g1' P → Keep G W w' → W.heap.size ≤ w'.heap.size → (∀ k, v.ownBlock = some k → W.heap.size ≤ k) → DuoJ w0 w' (GV R v) a S1' g1' c S2 g2 P := by
  obtain ⟨F1, F2, t1, t2, h1, h2, h3⟩ := D.ex
  have T : JAt w0 (fun k => R k ∨ F2 k) W a S1 g1 P := t1.tr w0 _ W rfl rfl rfl (Nat.le_refl _) (fun _ _ => rfl) D.below (fun k hk => ⟨(t1.lo k hk).1, fun h => by
    rcases h with h | h
    · exact h2 k hk h
    · exact h1 k hk h⟩) (fun k hk => by
    rcases hk with h | h
    · exact D.lt k h
    · exact (t2.lo k h).2)
  refine ⟨_, T, fun k hk => .inl hk, fun w' v S1' g1' T' K hs hv => ?_⟩
  obtain ⟨F1', t1', h1'⟩ := T'.tr
  have ho : w'.os = W.os := T'.below.os.trans T.below.os.symm
  have ht : w'.tape = W.tape := T'.below.tape.trans T.below.tape.symm
  have hp : w'.output = W.output := T'.below.output.trans T.below.output.symm
  refine ⟨⟨F1', F2, t1', t2.keep ho ht hp hs (fun k hk => K k (.inr hk)), fun k hk hf => h1' k hk (.inl (.inr hf)), fun k hk hr => h1' k hk ?_, fun k hk hr => ?_⟩, fun k hk => ?_, T'.below⟩
  · rcases hr with h | h
    · exact .inl (.inl h)
    · exact .inr h
  · rcases hr with h | h
    · exact h3 k hk h
    · have := hv k h; have := (t2.lo k hk).2; omega
  · rcases hk with h | h
    · exact Nat.lt_of_lt_of_le (D.lt k h) hs
    · exact T'.glt k (.inr h)
end DuoJ

theorem duoj_of_copy {w0 w w' : World} {a c : Nat} {S : Int} {gs : Nat → Int} {P : Nat} {G : Nat → Prop} (T : JAt w0 G w a S gs P) (hb : Below w.heap.size w w') (C : JAt w0 (fun k => k < w.heap.size) w' c S gs P) : DuoJ w0 w' G a S gs c S gs P := by
  obtain ⟨F1, t1, h1⟩ := T.tr
  obtain ⟨F2, t2, h2⟩ := C.tr
  refine ⟨⟨F1, F2, t1.keep hb.os hb.tape hb.output hb.size (fun k hk => hb.block k (t1.lo k hk).2), t2, fun k hk hf => h2 k hf (t1.lo k hk).2, h1, fun k hk hg => h2 k hk (T.glt k hg)⟩, fun k hk => Nat.lt_of_lt_of_le (T.glt k hk) hb.size, C.below⟩

theorem jAdv_duo {w0 W : World} {R : Nat → Prop} {a c : Nat} {S1 S2 : Int} {g1 g2 : Nat → Int} {P : Nat} (D : DuoJ w0 W R a S1 g1 c S2 g2 P) {tt : Int} (htt : tt < never) (hl : S1 ≤ tt) (hP : P ≤ 9223372036854775807) :
    Calls Tryd.prog 9 #[pt a, .int .u64 tt] W fun e w' => ∃ v L, e = .returned (.tuple #[v, .int .i64 0]) ∧ IsLap S1 tt g1 L ∧ RowL w' W.heap.size v L ∧ DuoJ w0 w' (GV R v) a tt g1 c S2 g2 P ∧ Keep R W w' ∧ W.heap.size ≤ w'.heap.size := by
  obtain ⟨G, T, hRG, hcont⟩ := D.callL
  refine (jAdv_yes T htt hl hP).mono ?_
  rintro e w' ⟨v, L, rfl, hL, hrow, T', K, hsz⟩
  exact ⟨v, L, rfl, hL, hrow, hcont w' v _ _ T' K hsz (fun k hk => (hrow.lt k hk).1), fun k hk => K k (hRG k hk), hsz⟩
end Go.Proofs.YtgkodleblkjhcaaDoor
/- What DeadlineHolds keeps: the deadlines that are in force. -/
namespace Go.Proofs.YtgkodleblkjhcaaDoor
open Go.RowKit Go.Sort
set_option linter.unusedVariables false
set_option linter.unusedSimpArgs false

/-- The deadlines that are in force and have not passed. -/
structure FOK (nw : Int) (f : Nat → Int) (F : List (Int × Nat)) : Prop where
  nd : (F.map Prod.snd).Nodup
  mem : ∀ x : Int × Nat, x ∈ F ↔ (x.2 < 256 ∧ x.1 = f x.2 ∧ nw < f x.2 ∧ f x.2 < never)
namespace FOK
variable {nw : Int} {f : Nat → Int} {F : List (Int × Nat)}
theorem init (nw : Int) : FOK nw (fun _ => never) [] := ⟨List.nodup_nil, fun x => by simp⟩
theorem len (h : FOK nw f F) : F.length ≤ 256 := by
  have := List.Nodup.length_le_of_subset h.nd (l₂ := List.range 256) (fun j hj => by
    obtain ⟨x, hx, rfl⟩ := List.mem_map.1 hj
    simpa using ((h.mem x).1 hx).1)
  simpa using this
theorem nodup (h : FOK nw f F) : F.Nodup := (List.pairwise_map.1 h.nd).imp (fun hne e => hne (by rw [e]))
theorem sub (h : FOK nw f F) (p : Int × Nat → Bool) : ((F.filter p).map Prod.snd).Nodup := h.nd.sublist (List.filter_sublist.map _)
end FOK

/-- Does a deadline stay in force? -/
def keepE (b : Bool) (x y : Int) (e : Int × Nat) : Bool := !((((e.2 / 2 : Nat) : Int) == x) && (((e.2 % 2 : Nat) : Int) == y)) && (b || !(((e.2 / 2 : Nat) : Int) == x))
theorem keep_set {q r : Nat} (hr : r < 2) (e : Int × Nat) : keepE true (q : Int) (r : Int) e = decide (e.2 ≠ q * 2 + r) := by
  unfold keepE
  by_cases h : e.2 = q * 2 + r
  · have h1 : e.2 / 2 = q := by omega
    have h2 : e.2 % 2 = r := by omega
    simp [h, h1, h2]
    omega
  · by_cases h1 : e.2 / 2 = q
    · have h2 : e.2 % 2 ≠ r := by omega
      have h3 : ¬ (((e.2 % 2 : Nat) : Int) = (r : Int)) := by omega
      simp only [h1, ne_eq, h, not_false_eq_true, decide_true, Bool.true_or, Bool.and_true, beq_self_eq_true, Bool.true_and]
      simp only [Bool.not_eq_eq_eq_not, Bool.not_true, beq_eq_false_iff_ne, ne_eq]
      exact h3
    · have h3 : ¬ (((e.2 / 2 : Nat) : Int) = (q : Int)) := by omega
      have h4 : (((e.2 / 2 : Nat) : Int) == (q : Int)) = false := by simpa using h3
      rw [h4]
      simp only [Bool.false_and, Bool.not_false, Bool.true_or, Bool.and_true]
      simpa using h
theorem keep_clear (x y : Int) (e : Int × Nat) : keepE false x y e = decide (((e.2 / 2 : Nat) : Int) ≠ x) := by
  unfold keepE
  by_cases h : ((e.2 / 2 : Nat) : Int) = x
  · simp [h]
  · have h4 : (((e.2 / 2 : Nat) : Int) == x) = false := by simpa using h
    rw [h4]
    simp only [Bool.false_and, Bool.not_false, Bool.false_or, Bool.and_true]
    simpa using h

theorem FOK.set {nw : Int} {f : Nat → Int} {F : List (Int × Nat)} (h : FOK nw f F) {q r : Nat} (hq : q < 128) (hr : r < 2) (d : Int) :
    FOK nw (upd f (q * 2 + r) d) (F.filter (keepE true (q : Int) (r : Int)) ++ if nw < d ∧ d < never then [(d, q * 2 + r)] else []) := by
  have hf : ∀ x, x ∈ F.filter (keepE true (q : Int) (r : Int)) ↔ (x ∈ F ∧ x.2 ≠ q * 2 + r) := fun x => by rw [List.mem_filter, keep_set hr]; simp
  constructor
  · rw [List.map_append]
    refine List.nodup_append.2 ⟨h.sub _, by split <;> simp, fun a ha b hb => ?_⟩
    obtain ⟨x, hx, rfl⟩ := List.mem_map.1 ha
    have h1 := ((hf x).1 hx).2
    split at hb
    · simp at hb; omega
    · simp at hb
  · intro x
    rw [List.mem_append, hf, h.mem]
    unfold upd
    by_cases hx : x.2 = q * 2 + r
    · rw [if_pos hx]
      obtain ⟨x1, x2⟩ := x
      simp only at hx ⊢
      subst hx
      constructor
      · rintro (⟨_, h1⟩ | h1)
        · exact absurd rfl h1
        · split at h1
          · rename_i hd
            simp only [List.mem_singleton, Prod.mk.injEq, and_true] at h1
            subst h1
            exact ⟨by omega, rfl, hd.1, hd.2⟩
          · simp at h1
      · rintro ⟨_, h1, h2, h3⟩
        subst h1
        rw [if_pos ⟨h2, h3⟩]
        exact .inr (List.mem_singleton_self _)
    · rw [if_neg hx]
      constructor
      · rintro (⟨h1, _⟩ | h1)
        · exact h1
        · split at h1
          · simp only [List.mem_singleton] at h1
            subst h1
            exact absurd rfl hx
          · simp at h1
      · intro h1; exact .inl ⟨h1, hx⟩
theorem FOK.clear {nw : Int} {f : Nat → Int} {F : List (Int × Nat)} (h : FOK nw f F) {q : Nat} (hq : q < 128) (y : Int) : FOK nw (clear f q) (F.filter (keepE false (q : Int) y)) := by
  refine ⟨h.sub _, fun x => ?_⟩
  rw [List.mem_filter, keep_clear, h.mem]
  unfold Go.Proofs.YtgkodleblkjhcaaDoor.clear upd
  obtain ⟨x1, x2⟩ := x
  simp only [ne_eq, decide_not, Bool.not_eq_eq_eq_not, Bool.not_true, decide_eq_false_iff_not]
  by_cases h1 : x2 = q * 2 + 1
  · rw [if_pos h1]; omega
  · rw [if_neg h1]
    by_cases h2 : x2 = q * 2 + 0
    · rw [if_pos h2]; omega
    · rw [if_neg h2]; omega
theorem FOK.clear_no {nw : Int} {f : Nat → Int} {F : List (Int × Nat)} (h : FOK nw f F) {x : Int} (y : Int) (hx : x < 0 ∨ 128 ≤ x) : F.filter (keepE false x y) = F := by
  rw [List.filter_eq_self]
  intro e he
  have := ((h.mem e).1 he).1
  rw [keep_clear]
  simp only [ne_eq, decide_not, Bool.not_eq_eq_eq_not, Bool.not_true, decide_eq_false_iff_not]
  omega
theorem FOK.got {nw tt : Int} {f : Nat → Int} {F L : List (Int × Nat)} (h : FOK nw f F) (hL : IsLap nw tt f L) (ht : tt < never) : ∀ x ∈ L, x ∈ F ∧ x.1 ≤ tt := fun x hx => by
  obtain ⟨a, b, c, d⟩ := (hL.mem x).1 hx
  exact ⟨(h.mem x).2 ⟨a, b, c, by omega⟩, by omega⟩
theorem FOK.adv {nw tt : Int} {f : Nat → Int} {F : List (Int × Nat)} (h : FOK nw f F) (hl : nw ≤ tt) : FOK tt f (F.filter fun x => decide (tt < x.1)) := by
  refine ⟨h.sub _, fun x => ?_⟩
  rw [List.mem_filter, h.mem]
  simp only [decide_eq_true_eq]
  omega
theorem FOK.count {nw tt : Int} {f : Nat → Int} {F L : List (Int × Nat)} (h : FOK nw f F) (hL : IsLap nw tt f L) (ht : tt < never) : (F.filter fun x => decide (tt < x.1)).length + L.length = F.length := by
  have hLn : L.Nodup := hL.ord.imp (fun {a b} hab e => by subst e; exact ltL_irrefl _ hab)
  have hp : (F.filter fun x => !decide (tt < x.1)).Perm L := by
    refine (List.perm_ext_iff_of_nodup (h.nodup.filter _) hLn).2 (fun x => ?_)
    rw [List.mem_filter, h.mem, hL.mem]
    simp only [Bool.not_eq_eq_eq_not, Bool.not_true, decide_eq_false_iff_not]
    omega
  rw [← hp.length_eq]
  clear hp hLn hL h
  induction F with
  | nil => rfl
  | cons x F ih =>
    by_cases hx : tt < x.1
    · rw [List.filter_cons_of_pos (by simpa using hx), List.filter_cons_of_neg (by simpa using hx)]
      simp only [List.length_cons]
      omega
    · rw [List.filter_cons_of_neg (by simpa using hx), List.filter_cons_of_pos (by simpa using hx)]
      simp only [List.length_cons]
      omega
theorem next_gt {nw : Int} {f : Nat → Int} {v : Int} (h : IsNext nw f v) (hn : nw < never) : decide (v ≤ nw) = false := by
  simp only [decide_eq_false_iff_not]
  rcases h with ⟨rfl, _⟩ | ⟨_, _, _, h, _⟩ <;> omega
theorem filter_snoc {α : Type} {L : List α} {k : Nat} {x : α} (p : α → Bool) (h : L[k]? = some x) : (L.take (k + 1)).filter p = (L.take k).filter p ++ if p x then [x] else [] := by
  rw [take_snoc h, List.filter_append]
  cases hp : p x <;> simp [hp]
end Go.Proofs.YtgkodleblkjhcaaDoor
/- The end of DeadlineHolds: two rows put one behind the other; the smaller and the larger of two times. -/
namespace Go.Proofs.YtgkodleblkjhcaaDoor
open Go.RowKit Go.Sort
set_option linter.unusedVariables false
set_option linter.unusedSimpArgs false

theorem run_append_ll (w : World) {base b2 : Nat} {v vx : Value} {X M : List (Int × Nat)} (hown : RowL w base v X) (hbase : base ≤ w.heap.size) (hx : RowL w b2 vx M) (h63 : X.length + M.length ≤ 1000000) (ty : TypeId) :
    ∃ v' w', (Builtin.append_ #[38, 38] ty #[v, vx]).run Tryd.prog w = .ok v' w' ∧ RowL w' base v' (X ++ M) ∧ Fr v.ownBlock.toList w w' ∧ Near w v v' := by
  obtain ⟨i0, hi0, hz0, hz1, hz2⟩ := info_parts infoLapse
  rcases hx.2 with ⟨rfl, hm⟩ | ⟨g, cx, cur, rfl, _, hg, hn, hc, hcs, htake⟩
  · have hM : M = [] := List.eq_nil_of_length_eq_zero hm
    subst hM
    exact ⟨v, w, run_append_owned_none w base 38 ty 53 i0 3 Tryd.underlying38 hi0 v _ _ hown, by simpa using hown, Fr.refl _ _, fun g hg => .inl hg⟩
  · have hb : (X.length + M.length) * 24 ≤ 140737488355328 := by omega
    obtain ⟨v', w', hrun, ho, hg', _, hat⟩ := run_append_own_at (P := Tryd.prog) w base 38 ty 53 i0 _ 3 24 Tryd.underlying38 hi0 hz0 hz1 hz2 rfl (by decide) v _ _ hown ⟨g, 0, none⟩ M.length cx (M.flatMap encL) hx.1
      (fun j u hu => by
        rw [Go.WideShapes.add_plain]
        refine cells_cell hg ?_
        simp only [Nat.zero_add]
        rw [← htake] at hu
        rw [List.getElem?_take] at hu
        split at hu
        · simpa using hu
        · simp at hu) (fun u hu => by
          obtain ⟨x, _, hx⟩ := List.mem_flatMap.1 hu
          simp only [encL, List.mem_cons, List.not_mem_nil, or_false] at hx
          rcases hx with rfl | rfl | rfl <;> rfl) (by unfold maxLen; omega) hb hbase
    refine ⟨v', w', hrun, ?_, fr_grown hg', fun x hx => ?_⟩
    · unfold RowL
      rw [List.length_append, List.flatMap_append]
      exact ho
    · rcases hat with h | h
      · left; rw [← h]; exact hx
      · right; rw [h] at hx; simp at hx; omega
theorem wpList_append_ll {w : World} {ops : Array Oper} {rest : List Oper} {o : Oper} {a : Act} {Q : Exit → Act → World → Prop} (hgd : o.guard = none) (s x : Operand)
    (ho : o.op = .call { callee := .builtin .append, args := #[s, x], argTypes := #[38, 38] }) {base b2 : Nat} {v vx : Value} {X M : List (Int × Nat)} (hs : a.eval s = v) (hx : a.eval x = vx)
    (hown : RowL w base v X) (hbase : base ≤ w.heap.size) (hrow : RowL w b2 vx M) (h63 : X.length + M.length ≤ 1000000)
    (h : ∀ v' w', RowL w' base v' (X ++ M) → Fr v.ownBlock.toList w w' → Near w v v' → wpList Tryd.prog ops Q rest (a.put o.dst v') w') : wpList Tryd.prog ops Q (o :: rest) a w := by
  obtain ⟨v', w', hrun, h1, h2, h3⟩ := run_append_ll w hown hbase hrow h63 o.type
  refine wpList_plain hgd fun K hK => ?_
  unfold Oper.wp
  simp [execOp, ho, resolve, invoke, builtin, hs, hx, hrun, Result.andThen]
  exact hK _ _ (h v' w' h1 h2 h3)

theorem run_max2u {P : Program} (w : World) (ts : Array TypeId) (ty : TypeId) (X Y Z : Int) (hz : max X Y = Z) : (Builtin.max_ ts ty #[.int .u64 X, .int .u64 Y]).run P w = .ok (.int .u64 Z) w := by
  have e : (if X < Y then Y else X) = Z := by split <;> omega
  simp [Builtin.max_, Builtin.max2, e]
theorem wpList_maxu {P : Program} {w : World} {ops : Array Oper} {rest : List Oper} {o : Oper} {a : Act} {Q : Exit → Act → World → Prop} (hgd : o.guard = none) (x y : Operand) (ts : Array TypeId)
    (ho : o.op = .call { callee := .builtin .max, args := #[x, y], argTypes := ts }) (X Y Z : Int) (hx : a.eval x = .int .u64 X) (hy : a.eval y = .int .u64 Y) (hz : max X Y = Z)
    (h : wpList P ops Q rest (a.put o.dst (.int .u64 Z)) w) : wpList P ops Q (o :: rest) a w := by
  refine wpList_plain hgd fun K hK => ?_
  have hrun := run_max2u (P := P) w ts o.type X Y Z hz
  unfold Oper.wp
  simp [execOp, ho, resolve, invoke, builtin, hx, hy, hrun, Result.andThen]
  exact hK _ _ h
theorem run_min2u {P : Program} (w : World) (ts : Array TypeId) (ty : TypeId) (X Y Z : Int) (hz : min X Y = Z) : (Builtin.min_ ts ty #[.int .u64 X, .int .u64 Y]).run P w = .ok (.int .u64 Z) w := by
  have e : (if Y < X then Y else X) = Z := by split <;> omega
  simp [Builtin.min_, Builtin.min2, e]
theorem wpList_minu {P : Program} {w : World} {ops : Array Oper} {rest : List Oper} {o : Oper} {a : Act} {Q : Exit → Act → World → Prop} (hgd : o.guard = none) (x y : Operand) (ts : Array TypeId)
    (ho : o.op = .call { callee := .builtin .min, args := #[x, y], argTypes := ts }) (X Y Z : Int) (hx : a.eval x = .int .u64 X) (hy : a.eval y = .int .u64 Y) (hz : min X Y = Z)
    (h : wpList P ops Q rest (a.put o.dst (.int .u64 Z)) w) : wpList P ops Q (o :: rest) a w := by
  refine wpList_plain hgd fun K hK => ?_
  have hrun := run_min2u (P := P) w ts o.type X Y Z hz
  unfold Oper.wp
  simp [execOp, ho, resolve, invoke, builtin, hx, hy, hrun, Result.andThen]
  exact hK _ _ h
theorem wpList_unguard {P : Program} {ops : Array Oper} {Q : Exit → Act → World → Prop} {a : Act} {w : World} {rest : List Oper} {o : Oper} (hw : Region.wanted o (yielded ops a.tmps) = true) (h : wpList P ops Q ({ o with guard := none } :: rest) a w) : wpList P ops Q (o :: rest) a w := by
  unfold wpList at h ⊢
  rw [if_pos hw]
  have hn : Region.wanted { o with guard := none } (yielded ops a.tmps) = true := by simp [Region.wanted]
  rw [if_pos hn] at h
  exact h
/-- What is written to blocks of the law's own. -/
theorem DuoJ.write {w0 W w' : World} {R : Nat → Prop} {a c : Nat} {S1 S2 : Int} {g1 g2 : Nat → Int} {P : Nat} {F : List Nat} (D : DuoJ w0 W R a S1 g1 c S2 g2 P) (hf : Fr F W w') (hF : ∀ k, k ∈ F → R k ∧ w0.heap.size ≤ k) : DuoJ w0 w' R a S1 g1 c S2 g2 P := by
  obtain ⟨F1, F2, t1, t2, h1, h2, h3⟩ := D.ex
  exact ⟨⟨F1, F2, t1.keep hf.os hf.tape hf.output hf.size (fun k hk => hf.block k (t1.lo k hk).2 (fun hm => h2 k hk (hF k hm).1)), t2.keep hf.os hf.tape hf.output hf.size (fun k hk => hf.block k (t2.lo k hk).2 (fun hm => h3 k hk (hF k hm).1)), h1, h2, h3⟩, fun k hk => Nat.lt_of_lt_of_le (D.lt k hk) hf.size, D.below.trans (hf.below (fun k hk => (hF k hk).2) D.below.size)⟩
theorem RowL.keepW {F : List Nat} {w w' : World} {base : Nat} {s : Value} {L : List (Int × Nat)} (h : RowL w base s L) (hf : Fr F w w') (hn : ∀ g, s.ownBlock = some g → g ∉ F) : RowL w' base s L := h.fr hf hn
end Go.Proofs.YtgkodleblkjhcaaDoor
/- The walk of DeadlineHolds. -/
namespace Go.Proofs.YtgkodleblkjhcaaDoor
open Go.RowKit Go.Sort
set_option linter.unusedVariables false
set_option linter.unusedSimpArgs false

/-- The law's own blocks: that of a slice. -/
def GO (v : Value) : Nat → Prop := fun j => v.ownBlock = some j
/-- Between two calls. -/
structure HSt (w wr : World) (a : Nat) (v : Value) (nw : Int) (f : Nat → Int) (F : List (Int × Nat)) (k : Nat) : Prop where
  J : JAt w (GO v) wr a nw f (2 * k)
  row : RowL wr w.heap.size v F
  ok : FOK nw f F

theorem JAt.grab {w0 w w' : World} {G G' : Nat → Prop} {a : Nat} {now : Int} {f : Nat → Int} {P : Nat} {F : List Nat} (J : JAt w0 G w a now f P) (hf : Fr F w w') (hF : ∀ k, k ∈ F → G k ∧ w0.heap.size ≤ k) (hG : ∀ k, G' k → G k ∨ (w.heap.size ≤ k ∧ k < w'.heap.size)) : JAt w0 G' w' a now f P := by
  obtain ⟨F0, h1, h2⟩ := J.foot
  refine h2 w0 G' w' hf.os hf.tape hf.output hf.size (fun k hk => hf.block k (h1 k hk).2.1 (fun hm => (h1 k hk).2.2 (hF k hm).1)) (J.below.trans (hf.below (fun k hk => (hF k hk).2) J.below.size)) (fun k hk => ⟨(h1 k hk).1, fun hg => ?_⟩) (fun k hk => ?_)
  · rcases hG k hg with h | h
    · exact (h1 k hk).2.2 h
    · have := (h1 k hk).2.1; omega
  · rcases hG k hk with h | h
    · have := J.glt k h; have := hf.size; omega
    · exact h.2
theorem RowL.keepB {w w' : World} {base : Nat} {s : Value} {L : List (Int × Nat)} (h : RowL w base s L) (hk : ∀ g, s.ownBlock = some g → w'.heap[g]? = w.heap[g]?) : RowL w' base s L := by
  refine ⟨h.1, ?_⟩
  rcases h.2 with h' | ⟨g, cap, cur, rfl, hb, hg, r⟩
  · exact .inl h'
  · exact .inr ⟨g, cap, cur, rfl, hb, (hk g rfl).trans hg, r⟩

set_option maxRecDepth 1000000 in
set_option maxHeartbeats 1600000 in
theorem holds_known {now one two : Int} {sa : Option Addr} {len cap : Nat} {w : World} (hT : Tab w) (h : 80 < len ∨ now = never) :
    Calls Tryd.prog 5 #[.int .u64 now, .slice sa len cap, .int .u64 one, .int .u64 two] w fun e w' => e = .returned (.bool true) ∧ Below w.heap.size w w' := by
  have hk := Lib.hid (jknown_any w hT)
  by_cases hl : 80 < len
  · have hli : (80 : Int) < (len : Int) := by omega
    clear h
    go_enter Tryd.func5, Tryd.ntmps5
    go_wp2_with (go_at_call 14; refine hk.out.mono ?_; rintro e w1 ⟨rfl, hb⟩)
    go_ret
    exact ⟨rfl, hb⟩
  · have hli : decide ((80 : Int) < (len : Int)) = false := by simp; omega
    have hn : now = never := by rcases h with h | h; exact absurd h hl; exact h
    have q : (now == 18446744073709551615) = true := by simp [hn, never]
    clear hn h
    go_enter Tryd.func5, Tryd.ntmps5
    go_wp2_with (go_at_call 14; refine hk.out.mono ?_; rintro e w1 ⟨rfl, hb⟩)
    go_ret
    exact ⟨rfl, hb⟩

set_option maxRecDepth 1000000 in
set_option maxHeartbeats 40000000 in
theorem holds_main {now one two : Int} {sa : Option Addr} {len cap : Nat} {w : World} (hlen : len ≤ 80) (h0 : 0 ≤ now) (hn : now < never) (hrow : IsActs10 w sa len cap) (hone : 0 ≤ one ∧ one ≤ never) (htwo : 0 ≤ two ∧ two ≤ never) (hT : Tab w) :
    Calls Tryd.prog 5 #[.int .u64 now, .slice sa len cap, .int .u64 one, .int .u64 two] w fun e w' => e = .returned (.bool true) ∧ Below w.heap.size w w' := by
  have HN := Lib.hid hn
  have HONE := Lib.hid hone
  have HTWO := Lib.hid htwo
  have hnew := Lib.hid (jNew_yes w w (fun _ => False) (fun _ h => h.elim) (Below.refl _ _) now hn)
  have hli : decide ((80 : Int) < (len : Int)) = false := by simp; omega
  have hl80 : (len : Int) ≤ 80 := by omega
  have q1 : (now == 18446744073709551615) = false := by have : now ≠ never := by omega
                                                        simpa [never] using this
  obtain ⟨im, him0, him1, him2, him3⟩ := info_parts infoLapse
  have mixed : Tryd.prog.follows .mixedOrders = true := by kernel_rfl
  clear hn hone htwo
  go_enter Tryd.func5, Tryd.ntmps5
  go_wp2_with (go_at_call 16; fail)
  refine hnew.out.mono ?_
  rintro e w1 ⟨a, rfl, J1, b1⟩
  have HST : Hid (HSt w w1 a (.slice none 0 0) now (fun _ => never) [] 0) := Lib.hid ⟨J1.less (fun k h => by simp [GO, Value.ownBlock] at h), World.ownsRow_nil _ _ _ _, FOK.init now⟩
  clear J1 b1 hnew
  unfold pt
  go_wp2_with fail
  go_loopw [11, 57] (fun v i wr => ∃ (k : Nat) (nw : Int) (f : Nat → Int) (F : List (Int × Nat)), k ≤ len ∧ i = .int .i64 k ∧ HSt w wr a v nw f F k) (fun _ i _ => len - (intOf i).toNat)
  case atStart => exact ⟨0, now, _, [], Nat.zero_le _, rfl, HST.out⟩
  case round =>
    obtain ⟨k, nw, f, F, hk, rfl, hst⟩ := hrel
    obtain ⟨va, vc, rfl⟩ := slice_form hst.row
    have HS := Lib.hid hst
    clear HST
    by_cases hlt : k < len
    · rcases hrow with h | ⟨b, off, rfl, _, hbl, hcs⟩
      · omega
      obtain ⟨what, x, y, t, d0, d1, d2, d3, _, _, _, wt⟩ := hcs k hlt
      have hbe := hst.J.below
      have c0 := (hbe.cell (p := ⟨b, off + k * 4, none⟩) hbl).trans d0
      have c1 := (hbe.cell (p := ⟨b, off + k * 4 + 1, none⟩) hbl).trans d1
      have c2 := (hbe.cell (p := ⟨b, off + k * 4 + 2, none⟩) hbl).trans d2
      have c3 := (hbe.cell (p := ⟨b, off + k * 4 + 3, none⟩) hbl).trans d3
      have HT := Lib.hid (bounds_u64 wt)
      have hki : (k : Int) < (len : Int) := by omega
      have HL := Lib.hid hlt
      obtain ⟨w4, hW4⟩ : ∃ w4, wr.alloc (.cells #[.int .i64 what, .int .i64 x, .int .i64 y, .int .u64 t] 57) = w4 := ⟨_, rfl⟩
      have hb4 : Below wr.heap.size wr w4 := by rw [← hW4]; exact (Below.refl _ _).alloc (Nat.le_refl _) _
      have HA4 : Hid (w4.heap[wr.heap.size]? = some (.cells #[.int .i64 what, .int .i64 x, .int .i64 y, .int .u64 t] 57 (0, 0))) := by rw [← hW4]; exact Lib.hid (block_new _ _ _ rfl)
      have HS4 : Hid (HSt w w4 a (.slice va F.length vc) nw f F k) := Lib.hid ⟨hst.J.grown hb4, hst.row.below hb4, hst.ok⟩
      have HJA : Hid (JAt w (fun g => GO (.slice va F.length vc) g ∨ g = wr.heap.size) w4 a nw f (2 * k)) := Lib.hid (hst.J.more hb4 (fun g hg => by
        rcases hg with hg | hg
        · exact .inl hg
        · subst hg; exact .inr ⟨Nat.le_refl _, by rw [← hW4]; simp⟩))
      have HFl := Lib.hid hst.ok.len
      have HB4 := Lib.hid hb4.size
      have HW4 := Lib.hid hW4
      clear hst hcs d0 d1 d2 d3 wt hbe hb4 hW4 hlt hbl HS
      go_upto_region 11 with (fail)
      rw [HW4.out]
      obtain ⟨A, hA⟩ : ∃ A, wr.heap.size = A := ⟨_, rfl⟩
      rw [hA]
      rw [hA] at HA4 HB4 HJA
      clear hA HW4 c0 c1 c2 c3
      have z0 : w4.cell? ⟨A, 0, none⟩ = some (.int .i64 what) := cells_cell HA4.out rfl
      have z1 : w4.cell? ⟨A, 1, none⟩ = some (.int .i64 x) := cells_cell HA4.out rfl
      have z2 : w4.cell? ⟨A, 2, none⟩ = some (.int .i64 y) := cells_cell HA4.out rfl
      have z3 : w4.cell? ⟨A, 3, none⟩ = some (.int .u64 t) := cells_cell HA4.out rfl
      by_cases hw0 : what = 0
      · subst hw0
        as_aux_lemma =>
          go_upto_region 14 with (fail)
          have hlA := lt_of_block HA4.out
          have hld : ∀ W', Below w4.heap.size w4 W' → W'.cell? ⟨A, 1, none⟩ = some (.int .i64 x) ∧ W'.cell? ⟨A, 2, none⟩ = some (.int .i64 y) ∧ W'.cell? ⟨A, 3, none⟩ = some (.int .u64 t) := fun W' hb => by
            have h := (hb.block _ (lt_of_block HA4.out)).trans HA4.out
            exact ⟨cells_cell h rfl, cells_cell h rfl, cells_cell h rfl⟩
          have hHS : Hid (Below w4.heap.size w4 w4.drew) := Lib.hid (Below.refl _ _).drew
          clear hlA
          refine wp_region_mix (fun W' => Below w4.heap.size w4 W') 6 [(true, 0), (true, 1), (true, 2), (true, 3), (false, 4), (false, 5)] mixed (by kernel_rfl) (fun _ _ _ d _ h => by cases d <;> exact h) ?_
          simp only [List.map_cons, List.map_nil, List.getD_cons_zero, List.getD_cons_succ, List.drop_succ_cons, List.drop_zero]
          refine mix_take (.pointer (some ⟨A, 1, none⟩)) hHS.out rfl (fun W' hS => by go_simp) ?_
          simp only [Act.put, List.setIfInBounds_toArray, List.set_cons_zero, List.set_cons_succ]
          refine mix_take (.agg #[.int .i64 x, .int .i64 y]) hHS.out rfl (fun W' hS => by obtain ⟨l0, l1, l2⟩ := hld W' hS; go_simp) ?_
          simp only [Act.put, List.setIfInBounds_toArray, List.set_cons_zero, List.set_cons_succ]
          refine mix_take (.pointer (some ⟨A, 3, none⟩)) hHS.out rfl (fun W' hS => by go_simp) ?_
          simp only [Act.put, List.setIfInBounds_toArray, List.set_cons_zero, List.set_cons_succ]
          refine mix_take (.int .u64 t) hHS.out rfl (fun W' hS => by obtain ⟨l0, l1, l2⟩ := hld W' hS; go_simp) ?_
          simp only [Act.put, List.setIfInBounds_toArray, List.set_cons_zero, List.set_cons_succ]
          clear hld z0 z1 z2 z3
          obtain ⟨wd, hwd⟩ : ∃ wd, w4.drew = wd := ⟨_, rfl⟩
          rw [hwd] at hHS ⊢
          clear hwd
          refine mix_step rfl (fun K hK => ?_)
          go_simp
          obtain ⟨B, hB⟩ : ∃ B, wd.heap.size = B := ⟨_, rfl⟩
          obtain ⟨w5, hW5⟩ : ∃ w5, wd.alloc (.cells #[.int .i64 0, .int .i64 0] 24) = w5 := ⟨_, rfl⟩
          have hb5 : Below wd.heap.size wd w5 := by rw [← hW5]; exact (Below.refl _ _).alloc (Nat.le_refl _) _
          have HS5 := Lib.hid (hHS.out.trans (hb5.mono hHS.out.size))
          have hr5 : w5.heap[B]? = some (.cells #[.int .i64 0, .int .i64 0] 24 (0, 0)) := by rw [← hW5, ← hB]; exact block_new _ _ _ rfl
          have hBA : w4.heap.size ≤ B := by rw [← hB]; exact hHS.out.size
          have HBA := Lib.hid hBA
          rw [hB, hW5]
          clear hB hW5 hb5
          refine hK _ _ HS5.out ?_
          clear hK K
          have f0 := cells_free hr5 0
          have f1 := cells_free hr5 1
          have c0 : w5.cell? ⟨B, 0, none⟩ = some (.int .i64 0) := cells_cell hr5 rfl
          have c1 : w5.cell? ⟨B, 1, none⟩ = some (.int .i64 0) := cells_cell hr5 rfl
          have hlB := lt_of_block hr5
          have HR6 := Lib.hid (set2 hr5 (.int .i64 x) (.int .i64 y))
          have hf6 : Fr [B] w5 ((w5.setCell ⟨B, 0, none⟩ (.int .i64 x)).setCell ⟨B, 1, none⟩ (.int .i64 y)) := (fr_setCell w5 ⟨B, 0, none⟩ _).trans' (fr_setCell _ ⟨B, 1, none⟩ _)
          have HS6 := Lib.hid (HS5.out.trans (hf6.below (fun g hg => by simp at hg; omega) HS5.out.size))
          clear hr5 hf6 hBA
          refine mix_step rfl (fun K hK => ?_)
          go_simp
          refine hK _ _ HS6.out ?_
          clear hK K f0 f1 c0 c1 hlB
          refine mix_nil ?_
          generalize ((w5.setCell ⟨B, 0, none⟩ (.int .i64 x)).setCell ⟨B, 1, none⟩ (.int .i64 y)) = w6 at *
          have HA6 := Lib.hid ((HS6.out.block _ (lt_of_block HA4.out)).trans HA4.out)
          have HST6 : Hid (HSt w w6 a (.slice va F.length vc) nw f F k) := Lib.hid ⟨HS4.out.J.grown HS6.out, HS4.out.row.below HS6.out, HS4.out.ok⟩
          clear HS5 hHS HA4
          have hFi : (F.length : Int) ≤ 256 := by have := HFl.out; omega
          go_wp2_with fail
          go_loopw [14, 72] (fun v14 i wr => ∃ j : Nat, j ≤ F.length ∧ i = .int .i64 j ∧ RowL wr w6.heap.size v14 ((F.take j).filter (keepE true x y)) ∧ Below w6.heap.size w6 wr) (fun _ i _ => F.length - (intOf i).toNat)
          case atStart => exact ⟨0, by omega, rfl, World.ownsRow_nil _ _ _ _, Below.refl _ _⟩
          case round =>
            obtain ⟨j, hj, rfl, hrw, hb⟩ := hrel
            by_cases hlj : j < F.length
            · obtain ⟨z, hz⟩ : ∃ z, F[j]? = some z := ⟨_, List.getElem?_eq_getElem hlj⟩
              have hsn := filter_snoc (keepE true x y) hz
              have hrf := HST6.out.row.below hb
              obtain ⟨ga, gc, hga, _, _⟩ := row_some hrf (by omega)
              simp only [Value.slice.injEq, true_and] at hga
              obtain ⟨rfl, rfl⟩ := hga
              obtain ⟨d0, d1, d2⟩ := hrf.cells j z hz
              obtain ⟨pq, hpq⟩ : ∃ pq, ((z.2 / 2 : Nat) : Int) = pq := ⟨_, rfl⟩
              obtain ⟨pr, hpr⟩ : ∃ pr, ((z.2 % 2 : Nat) : Int) = pr := ⟨_, rfl⟩
              obtain ⟨zk, hzk⟩ : ∃ zk, z.1 = zk := ⟨_, rfl⟩
              have henc : encL z = [.int .i64 pq, .int .i64 pr, .int .u64 zk] := by unfold encL; rw [hpq, hpr, hzk]
              have hkeep : keepE true x y z = (!(pq == x && pr == y) && (true || !(pq == x))) := by unfold keepE; rw [hpq, hpr]
              rw [hpq] at d0
              rw [hpr] at d1
              rw [hzk] at d2
              obtain ⟨w7, hW7⟩ : ∃ w7, wr.alloc (.cells #[.int .i64 pq, .int .i64 pr, .int .u64 zk] 53) = w7 := ⟨_, rfl⟩
              obtain ⟨X, hX⟩ : ∃ X, wr.heap.size = X := ⟨_, rfl⟩
              have hb7 : Below wr.heap.size wr w7 := by rw [← hW7]; exact (Below.refl _ _).alloc (Nat.le_refl _) _
              have hx7 : w7.heap[X]? = some (.cells #[.int .i64 pq, .int .i64 pr, .int .u64 zk] 53 (0, 0)) := by rw [← hW7, ← hX]; exact block_new _ _ _ rfl
              have e0 : w7.cell? ⟨X, 0, none⟩ = some (.int .i64 pq) := cells_cell hx7 rfl
              have e1 : w7.cell? ⟨X, 1, none⟩ = some (.int .i64 pr) := cells_cell hx7 rfl
              have e2 : w7.cell? ⟨X, 2, none⟩ = some (.int .u64 zk) := cells_cell hx7 rfl
              have hbb := hb.trans (hb7.mono hb.size)
              have ha7 := (hbb.block _ (lt_of_block HA6.out)).trans HA6.out
              have hr7 := (hbb.block _ (lt_of_block HR6.out)).trans HR6.out
              have z0 : w7.cell? ⟨A, 0, none⟩ = some (.int .i64 0) := cells_cell ha7 rfl
              have s0 : w7.cell? ⟨B, 0, none⟩ = some (.int .i64 x) := cells_cell hr7 rfl
              have s1 : w7.cell? ⟨B, 1, none⟩ = some (.int .i64 y) := cells_cell hr7 rfl
              have HBB := Lib.hid hbb
              have HRW := Lib.hid (hrw.below hb7)
              have HSN := Lib.hid hsn
              have HENC := Lib.hid henc
              have HKP := Lib.hid hkeep
              have HLJ := Lib.hid hlj
              have HW7 := Lib.hid hW7
              have HX := Lib.hid hX
              have hji : (j : Int) < (F.length : Int) := by omega
              have hlen2 : ((F.take j).filter (keepE true x y)).length ≤ 256 := by have h1 := List.length_filter_le (keepE true x y) (F.take j); have h2 := List.length_take_le j F; omega
              have HLEN2 := Lib.hid hlen2
              clear hrf hpq hpr hzk hW7 hX hb7 hx7 hbb ha7 hr7 hsn henc hkeep hz hrw hb hlj hlen2
              go_upto_region 18 with (fail)
              rw [HW7.out, HX.out]
              clear HW7 HX d0 d1 d2
              by_cases g1 : pq = x
              · by_cases g2 : pr = y
                · have k1 : keepE true x y z = false := by rw [HKP.out]; simp [g1, g2]
                  have q1' : (pq == x) = true := by simpa using g1
                  have q2' : (pr == y) = true := by simpa using g2
                  clear g1 g2 HKP
                  have hrow2 : Hid (RowL w7 w6.heap.size u14 ((F.take (j + 1)).filter (keepE true x y))) := by rw [HSN.out, k1]; simpa using HRW
                  go_wp2_with fail
                  go_roundw
                  case rel => exact ⟨j + 1, by have := HLJ.out; omega, by go_num, hrow2.out, HBB.out⟩
                  case measure => simp [intOf]; have := HLJ.out; omega
                · have k1 : keepE true x y z = true := by rw [HKP.out]; simp [g1, g2]
                  have q1' : (pq == x) = true := by simpa using g1
                  have q2' : (pr == y) = false := by simpa using g2
                  clear g1 g2 HKP
                  obtain ⟨ra, rc, rfl⟩ := slice_form HRW.out
                  obtain ⟨n, hn⟩ : ∃ n, ((F.take j).filter (keepE true x y)).length = n := ⟨_, rfl⟩
                  have hrw2 : w7.ownsRow w6.heap.size 53 3 (.slice ra n rc) n (((F.take j).filter (keepE true x y)).flatMap encL) := by
                    have := HRW.out
                    unfold RowL at this
                    rw [hn] at this
                    exact this
                  rw [hn]
                  have HN2 := Lib.hid hn
                  have HRW2 := Lib.hid hrw2
                  clear hn hrw2 HRW
                  have hb8 : Below w7.heap.size w7 (w7.alloc (.cells #[.int .i64 pq, .int .i64 pr, .int .u64 zk] 53)) := (Below.refl _ _).alloc (Nat.le_refl _) _
                  have HB8 := Lib.hid hb8
                  have HRW3 := Lib.hid ((Fr.of_below hb8 []).row HRW2.out (fun _ _ => by simp))
                  clear hb8
                  go_wp2_with (at_builtin; refine wpList_append_row _ rfl _ _ 38 rfl 53 im (.agg #[.int .i64 0, .int .i64 0, .int .u64 0]) 3 24 Tryd.underlying38 him0 him1 him2 him3 rfl (by decide) w6.heap.size (.slice ra n rc) n (((F.take j).filter (keepE true x y)).flatMap encL) rfl HRW3.out ?c0 ⟨w7.heap.size, 0, none⟩ 1 1 [.int .i64 pq, .int .i64 pr, .int .u64 zk] rfl rfl ?c1 ?c2 (by decide) ?c3 ?c4 ?_)
                  case c0 => have h1 := HBB.out.size; have h2 := HB8.out.size; omega
                  case c1 => exact new_cells3 w7 _ _ _ _
                  case c2 => simp [Value.oneCell']
                  case c3 => have := HLEN2.out; have := HN2.out; unfold maxLen; omega
                  case c4 => have := HLEN2.out; have := HN2.out; omega
                  intro v' w9 hown hf hnear
                  have hrel : RowL w9 w6.heap.size v' ((F.take (j + 1)).filter (keepE true x y)) ∧ Below w6.heap.size w6 w9 := by
                    refine ⟨?_, (HBB.out.trans (HB8.out.mono HBB.out.size)).trans (hf.below (fun g hg => (HRW3.out.lt g (by simpa using hg)).1) (by have h1 := HBB.out.size; have h2 := HB8.out.size; omega))⟩
                    unfold RowL
                    rw [HSN.out, k1]
                    simp only [if_true, List.length_append, HN2.out, List.length_cons, List.length_nil, List.flatMap_append, List.flatMap_cons, List.flatMap_nil, List.append_nil, HENC.out]
                    exact hown
                  have HREL := Lib.hid hrel
                  clear hrel hown hf hnear HRW3 HRW2
                  go_wp2_with fail
                  go_roundw
                  case rel => exact ⟨j + 1, by have := HLJ.out; omega, by go_num, HREL.out.1, HREL.out.2⟩
                  case measure => simp [intOf]; have := HLJ.out; omega
              · have k1 : keepE true x y z = true := by
                  have : (pq == x) = false := by simpa using g1
                  rw [HKP.out, this]; simp
                have q1' : (pq == x) = false := by simpa using g1
                clear g1 HKP
                obtain ⟨ra, rc, rfl⟩ := slice_form HRW.out
                obtain ⟨n, hn⟩ : ∃ n, ((F.take j).filter (keepE true x y)).length = n := ⟨_, rfl⟩
                have hrw2 : w7.ownsRow w6.heap.size 53 3 (.slice ra n rc) n (((F.take j).filter (keepE true x y)).flatMap encL) := by
                  have := HRW.out
                  unfold RowL at this
                  rw [hn] at this
                  exact this
                rw [hn]
                have HN2 := Lib.hid hn
                have HRW2 := Lib.hid hrw2
                clear hn hrw2 HRW
                have hb8 : Below w7.heap.size w7 (w7.alloc (.cells #[.int .i64 pq, .int .i64 pr, .int .u64 zk] 53)) := (Below.refl _ _).alloc (Nat.le_refl _) _
                have HB8 := Lib.hid hb8
                have HRW3 := Lib.hid ((Fr.of_below hb8 []).row HRW2.out (fun _ _ => by simp))
                clear hb8
                go_wp2_with (at_builtin; refine wpList_append_row _ rfl _ _ 38 rfl 53 im (.agg #[.int .i64 0, .int .i64 0, .int .u64 0]) 3 24 Tryd.underlying38 him0 him1 him2 him3 rfl (by decide) w6.heap.size (.slice ra n rc) n (((F.take j).filter (keepE true x y)).flatMap encL) rfl HRW3.out ?c0 ⟨w7.heap.size, 0, none⟩ 1 1 [.int .i64 pq, .int .i64 pr, .int .u64 zk] rfl rfl ?c1 ?c2 (by decide) ?c3 ?c4 ?_)
                case c0 => have h1 := HBB.out.size; have h2 := HB8.out.size; omega
                case c1 => exact new_cells3 w7 _ _ _ _
                case c2 => simp [Value.oneCell']
                case c3 => have := HLEN2.out; have := HN2.out; unfold maxLen; omega
                case c4 => have := HLEN2.out; have := HN2.out; omega
                intro v' w9 hown hf hnear
                have hrel : RowL w9 w6.heap.size v' ((F.take (j + 1)).filter (keepE true x y)) ∧ Below w6.heap.size w6 w9 := by
                  refine ⟨?_, (HBB.out.trans (HB8.out.mono HBB.out.size)).trans (hf.below (fun g hg => (HRW3.out.lt g (by simpa using hg)).1) (by have h1 := HBB.out.size; have h2 := HB8.out.size; omega))⟩
                  unfold RowL
                  rw [HSN.out, k1]
                  simp only [if_true, List.length_append, HN2.out, List.length_cons, List.length_nil, List.flatMap_append, List.flatMap_cons, List.flatMap_nil, List.append_nil, HENC.out]
                  exact hown
                have HREL := Lib.hid hrel
                clear hrel hown hf hnear HRW3 HRW2
                go_wp2_with fail
                go_roundw
                case rel => exact ⟨j + 1, by have := HLJ.out; omega, by go_num, HREL.out.1, HREL.out.2⟩
                case measure => simp [intOf]; have := HLJ.out; omega
            · obtain rfl : j = F.length := by omega
              rw [List.take_length] at hrw
              have HRR := Lib.hid hrw
              have HBR := Lib.hid hb
              clear hrw hb
              cases hok : okS x y with
              | true =>
                obtain ⟨q, r, hq, hr, rfl, rfl⟩ := okS_yes hok
                have hp256 : q * 2 + r < 256 := by omega
                have hbw := HS6.out.trans (HBR.out.mono HS6.out.size)
                have hJ : JAt w (fun g => u14.ownBlock = some g ∨ g = B) wr a nw f (2 * k) := HS4.out.J.more hbw (fun g hg => by
                  have h1 := HS6.out.size
                  have h2 := HBR.out.size
                  have h3 := lt_of_block HR6.out
                  have h4 := HBA.out
                  rcases hg with hg | hg
                  · have := HRR.out.lt g hg; exact .inr ⟨by omega, by omega⟩
                  · subst hg; exact .inr ⟨h4, by omega⟩)
                have hset := Lib.hid (jSet_yes hJ hq hr t (by have := HT.out; unfold never; omega) hT (by have := HL.out; omega))
                have hRB := Lib.hid ((HBR.out.block _ (lt_of_block HR6.out)).trans HR6.out)
                have s0 : wr.cell? ⟨B, 0, none⟩ = some (.int .i64 q) := cells_cell hRB.out rfl
                have s1 : wr.cell? ⟨B, 1, none⟩ = some (.int .i64 r) := cells_cell hRB.out rfl
                have z0 : wr.cell? ⟨A, 0, none⟩ = some (.int .i64 0) := cells_cell ((HBR.out.block _ (lt_of_block HA6.out)).trans HA6.out) rfl
                have HOK : Hid (FOK nw f F) := Lib.hid HST6.out.ok
                have HWS : Hid (w.heap.size ≤ w6.heap.size) := Lib.hid HST6.out.J.below.size
                have HPQ := Lib.hid (And.intro hq hr)
                clear hJ hbw hok HA6 HST6 HS6 HS4 HBA
                unfold pt plc at hset
                go_wp2_with (go_at_call 6; fail)
                refine hset.out.mono ?_
                rintro e w8 ⟨rfl, J8, K8⟩
                have HRR8 := Lib.hid (HRR.out.keepB (w' := w8) (fun g hg => K8 g (.inl hg)))
                have HRB8 := Lib.hid ((K8 B (.inr rfl)).trans hRB.out)
                have HJ8 := Lib.hid J8
                have s0' : w8.cell? ⟨B, 0, none⟩ = some (.int .i64 q) := cells_cell HRB8.out rfl
                have s1' : w8.cell? ⟨B, 1, none⟩ = some (.int .i64 r) := cells_cell HRB8.out rfl
                have hrs := rspot_any (q : Int) (r : Int) w8
                rw [show okS (q : Int) (r : Int) = true by simp [okS]; omega] at hrs
                have Hrs := Lib.hid hrs
                clear J8 K8 s0 s1 z0 hrs HRR hRB hset HBR
                go_wp2_with (go_at_call 15; fail)
                refine Hrs.out.mono ?_
                rintro e w9 ⟨rfl, hg9⟩
                have HRR9 := Lib.hid (HRR8.out.below hg9.below)
                have HRB9 := Lib.hid ((hg9.below.block _ (lt_of_block HRB8.out)).trans HRB8.out)
                have HJ9 := Lib.hid (HJ8.out.grown hg9.below)
                have hnow := Lib.hid (jNow_yes HJ9.out)
                clear hg9 s0' s1' HRR8 HRB8 HJ8 Hrs hq hr
                unfold pt at hnow
                obtain ⟨R, hR⟩ : ∃ R, F.filter (keepE true (q : Int) (r : Int)) = R := ⟨_, rfl⟩
                rw [hR] at HRR9
                have HR := Lib.hid hR
                clear hR
                by_cases htn : t = never
                · have qn : (t != 18446744073709551615) = false := by simp [htn, never]
                  have qd : decide (t ≤ nw) = false := by simp; have := HJ9.out.nn; omega
                  have hfin : Hid (FOK nw (upd f (q * 2 + r) t) R) := Lib.hid (by
                    have := HOK.out.set HPQ.out.1 HPQ.out.2 t
                    rw [HR.out, if_neg (by omega), List.append_nil] at this
                    exact this)
                  rw [qd]
                  clear htn qd
                  go_wp2_with (first | (go_at_call 12; refine hnow.out.mono ?_; rintro e wz ⟨rfl, rfl⟩) | (go_at_call 11; fail))
                  have hnx := Lib.hid (jNext_yes HJ9.out)
                  unfold pt at hnx
                  go_wp2_with (go_at_call 11; fail)
                  refine hnx.out.mono ?_
                  rintro e wy ⟨vn, rfl, hin, hgy⟩
                  have HJy := Lib.hid (HJ9.out.grown hgy.below)
                  have HGy := Lib.hid hgy
                  have hle := next_gt hin HJy.out.nn
                  have hnw := Lib.hid (jNow_yes HJy.out)
                  clear hgy hin hnx
                  unfold pt at hnw
                  go_wp2_with (go_at_call 12; refine hnw.out.mono ?_; rintro e wz ⟨rfl, rfl⟩)
                  clear hle
                  go_roundw
                  case rel => exact ⟨k + 1, nw, _, R, by have := HL.out; omega, by go_num, ⟨(HJy.out.less (G' := GO _) (fun g h => .inl h)).mono (by omega), ownsRow_mono (HRR9.out.below HGy.out.below) HWS.out, hfin.out⟩⟩
                  case measure => simp [intOf]; have := HL.out; omega

                · have qn : (t != 18446744073709551615) = true := by simpa [never] using htn
                  by_cases hle : t ≤ nw
                  · have qd : decide (t ≤ nw) = true := by simpa using hle
                    have hfin : Hid (FOK nw (upd f (q * 2 + r) t) R) := Lib.hid (by
                      have := HOK.out.set HPQ.out.1 HPQ.out.2 t
                      rw [HR.out, if_neg (by omega), List.append_nil] at this
                      exact this)
                    rw [qd]
                    clear htn qd
                    go_wp2_with (first | (go_at_call 12; refine hnow.out.mono ?_; rintro e wz ⟨rfl, rfl⟩) | (go_at_call 11; fail))
                    have hnx := Lib.hid (jNext_yes HJ9.out)
                    unfold pt at hnx
                    go_wp2_with (go_at_call 11; fail)
                    refine hnx.out.mono ?_
                    rintro e wy ⟨vn, rfl, hin, hgy⟩
                    have HJy := Lib.hid (HJ9.out.grown hgy.below)
                    have HGy := Lib.hid hgy
                    have hle := next_gt hin HJy.out.nn
                    have hnw := Lib.hid (jNow_yes HJy.out)
                    clear hgy hin hnx
                    unfold pt at hnw
                    go_wp2_with (go_at_call 12; refine hnw.out.mono ?_; rintro e wz ⟨rfl, rfl⟩)
                    clear hle
                    go_roundw
                    case rel => exact ⟨k + 1, nw, _, R, by have := HL.out; omega, by go_num, ⟨(HJy.out.less (G' := GO _) (fun g h => .inl h)).mono (by omega), ownsRow_mono (HRR9.out.below HGy.out.below) HWS.out, hfin.out⟩⟩
                    case measure => simp [intOf]; have := HL.out; omega

                  · have qd : decide (t ≤ nw) = false := by simpa using hle
                    have hfin : Hid (FOK nw (upd f (q * 2 + r) t) (R ++ [(t, q * 2 + r)])) := Lib.hid (by
                      have := HOK.out.set HPQ.out.1 HPQ.out.2 t
                      rw [HR.out, if_pos (by have := HT.out; unfold never at *; omega)] at this
                      exact this)
                    rw [qd]
                    clear htn
                    obtain ⟨ra, rc, rfl⟩ := slice_form HRR9.out
                    have s0 : w9.cell? ⟨B, 0, none⟩ = some (.int .i64 q) := cells_cell HRB9.out rfl
                    have s1 : w9.cell? ⟨B, 1, none⟩ = some (.int .i64 r) := cells_cell HRB9.out rfl
                    have hb8 : Below w9.heap.size w9 (w9.alloc (.cells #[.int .i64 q, .int .i64 r, .int .u64 t] 53)) := (Below.refl _ _).alloc (Nat.le_refl _) _
                    have HB8 := Lib.hid hb8
                    have HRW3 := Lib.hid ((Fr.of_below hb8 []).row (ownsRow_mono HRR9.out HWS.out) (fun _ _ => by simp))
                    have hRl : Hid (R.length ≤ 256) := Lib.hid (by have h1 := List.length_filter_le (keepE true (q : Int) (r : Int)) F; have h2 := HFl.out; rw [HR.out] at h1; omega)
                    clear hb8
                    go_wp2_with (first | (go_at_call 12; refine hnow.out.mono ?_; rintro e wz ⟨rfl, rfl⟩) | (at_builtin; refine wpList_append_row _ rfl _ _ 38 rfl 53 im (.agg #[.int .i64 0, .int .i64 0, .int .u64 0]) 3 24 Tryd.underlying38 him0 him1 him2 him3 rfl (by decide) w.heap.size (.slice ra R.length rc) R.length (R.flatMap encL) rfl HRW3.out ?c0 ⟨w9.heap.size, 0, none⟩ 1 1 [.int .i64 q, .int .i64 r, .int .u64 t] rfl rfl ?c1 ?c2 (by decide) ?c3 ?c4 ?_))
                    case c0 => have h2 := HB8.out.size; have h3 := HJ9.out.below.size; omega
                    case c1 => exact new_cells3 w9 _ _ _ _
                    case c2 => simp [Value.oneCell']
                    case c3 => have := hRl.out; unfold maxLen; omega
                    case c4 => have := hRl.out; omega
                    intro v' w10 hown hf hnear
                    have HRR10 : Hid (RowL w10 w.heap.size v' (R ++ [(t, q * 2 + r)])) := Lib.hid (by
                      unfold RowL
                      have he : encL (t, q * 2 + r) = [.int .i64 q, .int .i64 r, .int .u64 t] := by
                        unfold encL
                        have h1 := HPQ.out.2
                        rw [show (t, q * 2 + r).2 / 2 = q by simp only; omega, show (t, q * 2 + r).2 % 2 = r by simp only; omega]
                      simp only [List.length_append, List.length_cons, List.length_nil, List.flatMap_append, List.flatMap_cons, List.flatMap_nil, List.append_nil, he]
                      exact hown)
                    have HJ10 : Hid (JAt w (GO v') w10 a nw (upd f (q * 2 + r) t) (2 * k + 1)) := Lib.hid ((HJ9.out.grown HB8.out).grab hf (fun g hg => ⟨.inl (by simpa using hg), by have := (HRR9.out.lt g (by simpa using hg)).1; have := HWS.out; omega⟩) (fun g hg => by
                      rcases hnear g hg with h | h
                      · exact .inl (.inl h)
                      · exact .inr ⟨h, (hown.lt g hg).2⟩))
                    clear hown hf hnear HRW3 HB8 HJ9 HRR9 s0 s1
                    go_wp2_with (go_at_call 11; fail)
                    have hnx := Lib.hid (jNext_yes HJ10.out)
                    unfold pt at hnx
                    go_wp2_with (go_at_call 11; fail)
                    refine hnx.out.mono ?_
                    rintro e wy ⟨vn, rfl, hin, hgy⟩
                    have HJy := Lib.hid (HJ10.out.grown hgy.below)
                    have HGy := Lib.hid hgy
                    have hle := next_gt hin HJy.out.nn
                    have hnw := Lib.hid (jNow_yes HJy.out)
                    clear hgy hin hnx
                    unfold pt at hnw
                    go_wp2_with (go_at_call 12; refine hnw.out.mono ?_; rintro e wz ⟨rfl, rfl⟩)
                    clear hle
                    go_roundw
                    case rel => exact ⟨k + 1, nw, _, _, by have := HL.out; omega, by go_num, ⟨HJy.out.mono (by omega), HRR10.out.below HGy.out.below, hfin.out⟩⟩
                    case measure => simp [intOf]; have := HL.out; omega
              | false =>
                have hJ := HST6.out.J.grown HBR.out
                have hset := Lib.hid (jSet_no hJ hok t)
                have hRB := Lib.hid ((HBR.out.block _ (lt_of_block HR6.out)).trans HR6.out)
                have s0 : wr.cell? ⟨B, 0, none⟩ = some (.int .i64 x) := cells_cell hRB.out rfl
                have s1 : wr.cell? ⟨B, 1, none⟩ = some (.int .i64 y) := cells_cell hRB.out rfl
                have z0 : wr.cell? ⟨A, 0, none⟩ = some (.int .i64 0) := cells_cell ((HBR.out.block _ (lt_of_block HA6.out)).trans HA6.out) rfl
                have HSTb : Hid (HSt w wr a (.slice va F.length vc) nw f F k) := Lib.hid ⟨hJ, HST6.out.row.below HBR.out, HST6.out.ok⟩
                have HOK := Lib.hid hok
                clear hJ hok HA6 HST6 HS6 HS4 HBA
                unfold pt at hset
                go_wp2_with (go_at_call 6; fail)
                refine hset.out.mono ?_
                rintro e w8 ⟨rfl, hg8⟩
                have HRB8 := Lib.hid ((hg8.below.block _ (lt_of_block hRB.out)).trans hRB.out)
                have HSTc : Hid (HSt w w8 a (.slice va F.length vc) nw f F k) := Lib.hid ⟨HSTb.out.J.grown hg8.below, HSTb.out.row.below hg8.below, HSTb.out.ok⟩
                have s0' : w8.cell? ⟨B, 0, none⟩ = some (.int .i64 x) := cells_cell HRB8.out rfl
                have s1' : w8.cell? ⟨B, 1, none⟩ = some (.int .i64 y) := cells_cell HRB8.out rfl
                have hrs := rspot_any x y w8
                rw [HOK.out] at hrs
                have Hrs := Lib.hid hrs
                clear hg8 s0 s1 z0 hrs hRB hset HSTb
                go_wp2_with (go_at_call 15; fail)
                refine Hrs.out.mono ?_
                rintro e w9 ⟨rfl, hg9⟩
                have HSTd : Hid (HSt w w9 a (.slice va F.length vc) nw f F (k + 1)) := Lib.hid ⟨(HSTc.out.J.grown hg9.below).mono (by omega), HSTc.out.row.below hg9.below, HSTc.out.ok⟩
                clear hg9 s0' s1' HSTc
                go_wp2_with fail
                go_roundw
                case rel => exact ⟨k + 1, nw, f, F, by have := HL.out; omega, by go_num, HSTd.out⟩
                case measure => simp [intOf]; have := HL.out; omega
      · have hq0 : (what == 0) = false := by simpa using hw0
        by_cases hw2 : what = 2
        · subst hw2
          clear hw0
          as_aux_lemma =>
            go_upto_region 14 with (fail)
            have hlA := lt_of_block HA4.out
            have hld : ∀ W', Below w4.heap.size w4 W' → W'.cell? ⟨A, 1, none⟩ = some (.int .i64 x) ∧ W'.cell? ⟨A, 2, none⟩ = some (.int .i64 y) ∧ W'.cell? ⟨A, 3, none⟩ = some (.int .u64 t) := fun W' hb => by
              have h := (hb.block _ (lt_of_block HA4.out)).trans HA4.out
              exact ⟨cells_cell h rfl, cells_cell h rfl, cells_cell h rfl⟩
            have hHS : Hid (Below w4.heap.size w4 w4.drew) := Lib.hid (Below.refl _ _).drew
            clear hlA
            refine wp_region_mix (fun W' => Below w4.heap.size w4 W') 6 [(true, 0), (true, 1), (true, 2), (true, 3), (false, 4), (false, 5)] mixed (by kernel_rfl) (fun _ _ _ d _ h => by cases d <;> exact h) ?_
            simp only [List.map_cons, List.map_nil, List.getD_cons_zero, List.getD_cons_succ, List.drop_succ_cons, List.drop_zero]
            refine mix_take (.pointer (some ⟨A, 1, none⟩)) hHS.out rfl (fun W' hS => by go_simp) ?_
            simp only [Act.put, List.setIfInBounds_toArray, List.set_cons_zero, List.set_cons_succ]
            refine mix_take (.agg #[.int .i64 x, .int .i64 y]) hHS.out rfl (fun W' hS => by obtain ⟨l0, l1, l2⟩ := hld W' hS; go_simp) ?_
            simp only [Act.put, List.setIfInBounds_toArray, List.set_cons_zero, List.set_cons_succ]
            refine mix_take (.pointer (some ⟨A, 3, none⟩)) hHS.out rfl (fun W' hS => by go_simp) ?_
            simp only [Act.put, List.setIfInBounds_toArray, List.set_cons_zero, List.set_cons_succ]
            refine mix_take (.int .u64 t) hHS.out rfl (fun W' hS => by obtain ⟨l0, l1, l2⟩ := hld W' hS; go_simp) ?_
            simp only [Act.put, List.setIfInBounds_toArray, List.set_cons_zero, List.set_cons_succ]
            clear hld z0 z1 z2 z3
            obtain ⟨wd, hwd⟩ : ∃ wd, w4.drew = wd := ⟨_, rfl⟩
            rw [hwd] at hHS ⊢
            clear hwd
            refine mix_step rfl (fun K hK => ?_)
            go_simp
            obtain ⟨B, hB⟩ : ∃ B, wd.heap.size = B := ⟨_, rfl⟩
            obtain ⟨w5, hW5⟩ : ∃ w5, wd.alloc (.cells #[.int .i64 0, .int .i64 0] 24) = w5 := ⟨_, rfl⟩
            have hb5 : Below wd.heap.size wd w5 := by rw [← hW5]; exact (Below.refl _ _).alloc (Nat.le_refl _) _
            have HS5 := Lib.hid (hHS.out.trans (hb5.mono hHS.out.size))
            have hr5 : w5.heap[B]? = some (.cells #[.int .i64 0, .int .i64 0] 24 (0, 0)) := by rw [← hW5, ← hB]; exact block_new _ _ _ rfl
            have hBA : w4.heap.size ≤ B := by rw [← hB]; exact hHS.out.size
            have HBA := Lib.hid hBA
            rw [hB, hW5]
            clear hB hW5 hb5
            refine hK _ _ HS5.out ?_
            clear hK K
            have f0 := cells_free hr5 0
            have f1 := cells_free hr5 1
            have c0 : w5.cell? ⟨B, 0, none⟩ = some (.int .i64 0) := cells_cell hr5 rfl
            have c1 : w5.cell? ⟨B, 1, none⟩ = some (.int .i64 0) := cells_cell hr5 rfl
            have hlB := lt_of_block hr5
            have HR6 := Lib.hid (set2 hr5 (.int .i64 x) (.int .i64 y))
            have hf6 : Fr [B] w5 ((w5.setCell ⟨B, 0, none⟩ (.int .i64 x)).setCell ⟨B, 1, none⟩ (.int .i64 y)) := (fr_setCell w5 ⟨B, 0, none⟩ _).trans' (fr_setCell _ ⟨B, 1, none⟩ _)
            have HS6 := Lib.hid (HS5.out.trans (hf6.below (fun g hg => by simp at hg; omega) HS5.out.size))
            clear hr5 hf6 hBA
            refine mix_step rfl (fun K hK => ?_)
            go_simp
            refine hK _ _ HS6.out ?_
            clear hK K f0 f1 c0 c1 hlB
            refine mix_nil ?_
            generalize ((w5.setCell ⟨B, 0, none⟩ (.int .i64 x)).setCell ⟨B, 1, none⟩ (.int .i64 y)) = w6 at *
            have HA6 := Lib.hid ((HS6.out.block _ (lt_of_block HA4.out)).trans HA4.out)
            have HST6 : Hid (HSt w w6 a (.slice va F.length vc) nw f F k) := Lib.hid ⟨HS4.out.J.grown HS6.out, HS4.out.row.below HS6.out, HS4.out.ok⟩
            clear HS5 hHS HA4
            have hFi : (F.length : Int) ≤ 256 := by have := HFl.out; omega
            go_wp2_with fail
            go_loopw [14, 72] (fun v14 i wr => ∃ j : Nat, j ≤ F.length ∧ i = .int .i64 j ∧ RowL wr w6.heap.size v14 ((F.take j).filter (keepE false x y)) ∧ Below w6.heap.size w6 wr) (fun _ i _ => F.length - (intOf i).toNat)
            case atStart => exact ⟨0, by omega, rfl, World.ownsRow_nil _ _ _ _, Below.refl _ _⟩
            case round =>
              obtain ⟨j, hj, rfl, hrw, hb⟩ := hrel
              by_cases hlj : j < F.length
              · obtain ⟨z, hz⟩ : ∃ z, F[j]? = some z := ⟨_, List.getElem?_eq_getElem hlj⟩
                have hsn := filter_snoc (keepE false x y) hz
                have hrf := HST6.out.row.below hb
                obtain ⟨ga, gc, hga, _, _⟩ := row_some hrf (by omega)
                simp only [Value.slice.injEq, true_and] at hga
                obtain ⟨rfl, rfl⟩ := hga
                obtain ⟨d0, d1, d2⟩ := hrf.cells j z hz
                obtain ⟨pq, hpq⟩ : ∃ pq, ((z.2 / 2 : Nat) : Int) = pq := ⟨_, rfl⟩
                obtain ⟨pr, hpr⟩ : ∃ pr, ((z.2 % 2 : Nat) : Int) = pr := ⟨_, rfl⟩
                obtain ⟨zk, hzk⟩ : ∃ zk, z.1 = zk := ⟨_, rfl⟩
                have henc : encL z = [.int .i64 pq, .int .i64 pr, .int .u64 zk] := by unfold encL; rw [hpq, hpr, hzk]
                have hkeep : keepE false x y z = (!(pq == x && pr == y) && (false || !(pq == x))) := by unfold keepE; rw [hpq, hpr]
                rw [hpq] at d0
                rw [hpr] at d1
                rw [hzk] at d2
                obtain ⟨w7, hW7⟩ : ∃ w7, wr.alloc (.cells #[.int .i64 pq, .int .i64 pr, .int .u64 zk] 53) = w7 := ⟨_, rfl⟩
                obtain ⟨X, hX⟩ : ∃ X, wr.heap.size = X := ⟨_, rfl⟩
                have hb7 : Below wr.heap.size wr w7 := by rw [← hW7]; exact (Below.refl _ _).alloc (Nat.le_refl _) _
                have hx7 : w7.heap[X]? = some (.cells #[.int .i64 pq, .int .i64 pr, .int .u64 zk] 53 (0, 0)) := by rw [← hW7, ← hX]; exact block_new _ _ _ rfl
                have e0 : w7.cell? ⟨X, 0, none⟩ = some (.int .i64 pq) := cells_cell hx7 rfl
                have e1 : w7.cell? ⟨X, 1, none⟩ = some (.int .i64 pr) := cells_cell hx7 rfl
                have e2 : w7.cell? ⟨X, 2, none⟩ = some (.int .u64 zk) := cells_cell hx7 rfl
                have hbb := hb.trans (hb7.mono hb.size)
                have ha7 := (hbb.block _ (lt_of_block HA6.out)).trans HA6.out
                have hr7 := (hbb.block _ (lt_of_block HR6.out)).trans HR6.out
                have z0 : w7.cell? ⟨A, 0, none⟩ = some (.int .i64 2) := cells_cell ha7 rfl
                have s0 : w7.cell? ⟨B, 0, none⟩ = some (.int .i64 x) := cells_cell hr7 rfl
                have s1 : w7.cell? ⟨B, 1, none⟩ = some (.int .i64 y) := cells_cell hr7 rfl
                have HBB := Lib.hid hbb
                have HRW := Lib.hid (hrw.below hb7)
                have HSN := Lib.hid hsn
                have HENC := Lib.hid henc
                have HKP := Lib.hid hkeep
                have HLJ := Lib.hid hlj
                have HW7 := Lib.hid hW7
                have HX := Lib.hid hX
                have hji : (j : Int) < (F.length : Int) := by omega
                have hlen2 : ((F.take j).filter (keepE false x y)).length ≤ 256 := by have h1 := List.length_filter_le (keepE false x y) (F.take j); have h2 := List.length_take_le j F; omega
                have HLEN2 := Lib.hid hlen2
                clear hrf hpq hpr hzk hW7 hX hb7 hx7 hbb ha7 hr7 hsn henc hkeep hz hrw hb hlj hlen2
                go_upto_region 18 with (fail)
                rw [HW7.out, HX.out]
                clear HW7 HX d0 d1 d2
                by_cases g1 : pq = x
                · by_cases g2 : pr = y
                  · have k1 : keepE false x y z = false := by rw [HKP.out]; simp [g1, g2]
                    have q1' : (pq == x) = true := by simpa using g1
                    have q2' : (pr == y) = true := by simpa using g2
                    clear g1 g2 HKP
                    have hrow2 : Hid (RowL w7 w6.heap.size u14 ((F.take (j + 1)).filter (keepE false x y))) := by rw [HSN.out, k1]; simpa using HRW
                    go_wp2_with fail
                    go_roundw
                    case rel => exact ⟨j + 1, by have := HLJ.out; omega, by go_num, hrow2.out, HBB.out⟩
                    case measure => simp [intOf]; have := HLJ.out; omega
                  · have k1 : keepE false x y z = false := by rw [HKP.out]; simp [g1, g2]
                    have q1' : (pq == x) = true := by simpa using g1
                    have q2' : (pr == y) = false := by simpa using g2
                    clear g1 g2 HKP
                    have hrow2 : Hid (RowL w7 w6.heap.size u14 ((F.take (j + 1)).filter (keepE false x y))) := by rw [HSN.out, k1]; simpa using HRW
                    go_wp2_with fail
                    go_roundw
                    case rel => exact ⟨j + 1, by have := HLJ.out; omega, by go_num, hrow2.out, HBB.out⟩
                    case measure => simp [intOf]; have := HLJ.out; omega
                · have k1 : keepE false x y z = true := by
                    have : (pq == x) = false := by simpa using g1
                    rw [HKP.out, this]; simp
                  have q1' : (pq == x) = false := by simpa using g1
                  clear g1 HKP
                  obtain ⟨ra, rc, rfl⟩ := slice_form HRW.out
                  obtain ⟨n, hn⟩ : ∃ n, ((F.take j).filter (keepE false x y)).length = n := ⟨_, rfl⟩
                  have hrw2 : w7.ownsRow w6.heap.size 53 3 (.slice ra n rc) n (((F.take j).filter (keepE false x y)).flatMap encL) := by
                    have := HRW.out
                    unfold RowL at this
                    rw [hn] at this
                    exact this
                  rw [hn]
                  have HN2 := Lib.hid hn
                  have HRW2 := Lib.hid hrw2
                  clear hn hrw2 HRW
                  have hb8 : Below w7.heap.size w7 (w7.alloc (.cells #[.int .i64 pq, .int .i64 pr, .int .u64 zk] 53)) := (Below.refl _ _).alloc (Nat.le_refl _) _
                  have HB8 := Lib.hid hb8
                  have HRW3 := Lib.hid ((Fr.of_below hb8 []).row HRW2.out (fun _ _ => by simp))
                  clear hb8
                  go_wp2_with (at_builtin; refine wpList_append_row _ rfl _ _ 38 rfl 53 im (.agg #[.int .i64 0, .int .i64 0, .int .u64 0]) 3 24 Tryd.underlying38 him0 him1 him2 him3 rfl (by decide) w6.heap.size (.slice ra n rc) n (((F.take j).filter (keepE false x y)).flatMap encL) rfl HRW3.out ?c0 ⟨w7.heap.size, 0, none⟩ 1 1 [.int .i64 pq, .int .i64 pr, .int .u64 zk] rfl rfl ?c1 ?c2 (by decide) ?c3 ?c4 ?_)
                  case c0 => have h1 := HBB.out.size; have h2 := HB8.out.size; omega
                  case c1 => exact new_cells3 w7 _ _ _ _
                  case c2 => simp [Value.oneCell']
                  case c3 => have := HLEN2.out; have := HN2.out; unfold maxLen; omega
                  case c4 => have := HLEN2.out; have := HN2.out; omega
                  intro v' w9 hown hf hnear
                  have hrel : RowL w9 w6.heap.size v' ((F.take (j + 1)).filter (keepE false x y)) ∧ Below w6.heap.size w6 w9 := by
                    refine ⟨?_, (HBB.out.trans (HB8.out.mono HBB.out.size)).trans (hf.below (fun g hg => (HRW3.out.lt g (by simpa using hg)).1) (by have h1 := HBB.out.size; have h2 := HB8.out.size; omega))⟩
                    unfold RowL
                    rw [HSN.out, k1]
                    simp only [if_true, List.length_append, HN2.out, List.length_cons, List.length_nil, List.flatMap_append, List.flatMap_cons, List.flatMap_nil, List.append_nil, HENC.out]
                    exact hown
                  have HREL := Lib.hid hrel
                  clear hrel hown hf hnear HRW3 HRW2
                  go_wp2_with fail
                  go_roundw
                  case rel => exact ⟨j + 1, by have := HLJ.out; omega, by go_num, HREL.out.1, HREL.out.2⟩
                  case measure => simp [intOf]; have := HLJ.out; omega
              · obtain rfl : j = F.length := by omega
                rw [List.take_length] at hrw
                have HRR := Lib.hid hrw
                have HBR := Lib.hid hb
                clear hrw hb
                by_cases hneg : x < 0
                · clear hj hlj
                  have g1 : decide (0 ≤ x) = false := by simp; omega
                  have hbw := HS6.out.trans (HBR.out.mono HS6.out.size)
                  have hJ : JAt w (fun g => u14.ownBlock = some g ∨ g = B) wr a nw f (2 * k) := HS4.out.J.more hbw (fun g hg => by
                    have h1 := HS6.out.size
                    have h2 := HBR.out.size
                    have h3 := lt_of_block HR6.out
                    have h4 := HBA.out
                    rcases hg with hg | hg
                    · have := HRR.out.lt g hg; exact .inr ⟨by omega, by omega⟩
                    · subst hg; exact .inr ⟨h4, by omega⟩)
                  have hRB := Lib.hid ((HBR.out.block _ (lt_of_block HR6.out)).trans HR6.out)
                  have z0 : wr.cell? ⟨A, 0, none⟩ = some (.int .i64 2) := cells_cell ((HBR.out.block _ (lt_of_block HA6.out)).trans HA6.out) rfl
                  have HOK : Hid (FOK nw f F) := Lib.hid HST6.out.ok
                  have HWS : Hid (w.heap.size ≤ w6.heap.size) := Lib.hid HST6.out.J.below.size
                  have HJ := Lib.hid hJ
                  clear hJ hbw HA6 HST6 HS6 HS4 HBA
                  go_upto_region 22 with (fail)
                  obtain ⟨wd, hwd⟩ : ∃ wd, wr.drew = wd := ⟨_, rfl⟩
                  have hbd : Below wr.heap.size wr wd := by rw [← hwd]; exact (Below.refl _ _).drew
                  have HJd := Lib.hid (HJ.out.grown hbd)
                  have HRRd := Lib.hid (HRR.out.below hbd)
                  have HRBd := Lib.hid ((hbd.block _ (lt_of_block hRB.out)).trans hRB.out)
                  have hHS : Hid (wd.cell? ⟨B, 0, none⟩ = some (.int .i64 x)) := Lib.hid (cells_cell HRBd.out rfl)
                  have HWD := Lib.hid hwd
                  clear hbd HJ HRR hRB HBR hwd z0
                  refine wp_region_mix (fun W' => W'.cell? ⟨B, 0, none⟩ = some (.int .i64 x)) 13 [(true, 0), (true, 1), (true, 2), (true, 5), (true, 6), (true, 7), (false, 3), (true, 4), (false, 8), (false, 9), (false, 10), (false, 11), (false, 12)] mixed (by kernel_rfl) (fun _ _ _ d _ h => by cases d <;> exact h) ?_
                  rw [HWD.out]
                  simp only [List.map_cons, List.map_nil, List.getD_cons_zero, List.getD_cons_succ, List.drop_succ_cons, List.drop_zero]
                  refine mix_move (.tmp 9) (.pointer (some ⟨a, 0, none⟩)) rfl hHS.out rfl rfl ?_
                  simp only [Act.put, List.setIfInBounds_toArray, List.set_cons_zero, List.set_cons_succ]
                  refine mix_take (.pointer (some ⟨B, 0, none⟩)) hHS.out rfl (fun W' hS => by go_simp) ?_
                  simp only [Act.put, List.setIfInBounds_toArray, List.set_cons_zero, List.set_cons_succ]
                  refine mix_take (.int .i64 x) hHS.out rfl (fun W' hS => by go_simp) ?_
                  simp only [Act.put, List.setIfInBounds_toArray, List.set_cons_zero, List.set_cons_succ]
                  refine mix_take (.pointer (some ⟨B, 0, none⟩)) hHS.out rfl (fun W' hS => by go_simp) ?_
                  simp only [Act.put, List.setIfInBounds_toArray, List.set_cons_zero, List.set_cons_succ]
                  refine mix_take (.int .i64 x) hHS.out rfl (fun W' hS => by go_simp) ?_
                  simp only [Act.put, List.setIfInBounds_toArray, List.set_cons_zero, List.set_cons_succ]
                  refine mix_take (.bool false) hHS.out rfl (fun W' hS => by go_simp) ?_
                  simp only [Act.put, List.setIfInBounds_toArray, List.set_cons_zero, List.set_cons_succ]
                  refine mix_step rfl (fun K hK => ?_)
                  go_simp
                  have hcl := Lib.hid (jClear_no HJd.out (x := x) (by simp [okS]; omega))
                  unfold pt at hcl
                  go_wp2_with (go_at_call 10; fail)
                  refine hcl.out.mono ?_
                  rintro e w8 ⟨rfl, hg8⟩
                  have HRB8 := Lib.hid ((hg8.below.block _ (lt_of_block HRBd.out)).trans HRBd.out)
                  have HRR8 := Lib.hid (HRRd.out.below hg8.below)
                  have HJ8 := Lib.hid (HJd.out.grown hg8.below)
                  clear hg8 HRBd HRRd HJd
                  have HS8 : Hid (w8.cell? ⟨B, 0, none⟩ = some (.int .i64 x)) := Lib.hid (cells_cell HRB8.out rfl)
                  refine hK _ _ HS8.out ?_
                  clear hK K hcl hHS
                  refine mix_take (.bool false) HS8.out rfl (fun W' hS => by go_simp) ?_
                  simp only [Act.put, List.setIfInBounds_toArray, List.set_cons_zero, List.set_cons_succ]
                  refine mix_by (.bool false) rfl (by go_simp) HS8.out ?_
                  simp only [Act.put, List.setIfInBounds_toArray, List.set_cons_zero, List.set_cons_succ]
                  refine mix_skip rfl HS8.out ?_
                  simp only [Act.put, List.setIfInBounds_toArray, List.set_cons_zero, List.set_cons_succ]
                  refine mix_skip rfl HS8.out ?_
                  simp only [Act.put, List.setIfInBounds_toArray, List.set_cons_zero, List.set_cons_succ]
                  refine mix_skip rfl HS8.out ?_
                  simp only [Act.put, List.setIfInBounds_toArray, List.set_cons_zero, List.set_cons_succ]
                  refine mix_by (.bool false) rfl (by go_simp) HS8.out ?_
                  simp only [Act.put, List.setIfInBounds_toArray, List.set_cons_zero, List.set_cons_succ]
                  refine mix_nil ?_
                  go_wp2_with fail
                  go_roundw
                  case rel => exact ⟨k + 1, nw, _, _, by have := HL.out; omega, by go_num, ⟨(HJ8.out.less (G' := GO _) (fun g h => .inl h)).mono (by omega), ownsRow_mono HRR8.out HWS.out, by rw [HOK.out.clear_no y (by omega)]; exact HOK.out⟩⟩
                  case measure => simp [intOf]; have := HL.out; omega
                · by_cases hbig : 128 ≤ x
                  · clear hj hlj
                    have g1 : decide (0 ≤ x) = true := by simp; omega
                    have g2 : decide (x < 128) = false := by simp; omega
                    have g0 : (0 : Int) ≤ x := by omega
                    have hbw := HS6.out.trans (HBR.out.mono HS6.out.size)
                    have hJ : JAt w (fun g => u14.ownBlock = some g ∨ g = B) wr a nw f (2 * k) := HS4.out.J.more hbw (fun g hg => by
                      have h1 := HS6.out.size
                      have h2 := HBR.out.size
                      have h3 := lt_of_block HR6.out
                      have h4 := HBA.out
                      rcases hg with hg | hg
                      · have := HRR.out.lt g hg; exact .inr ⟨by omega, by omega⟩
                      · subst hg; exact .inr ⟨h4, by omega⟩)
                    have hRB := Lib.hid ((HBR.out.block _ (lt_of_block HR6.out)).trans HR6.out)
                    have z0 : wr.cell? ⟨A, 0, none⟩ = some (.int .i64 2) := cells_cell ((HBR.out.block _ (lt_of_block HA6.out)).trans HA6.out) rfl
                    have HOK : Hid (FOK nw f F) := Lib.hid HST6.out.ok
                    have HWS : Hid (w.heap.size ≤ w6.heap.size) := Lib.hid HST6.out.J.below.size
                    have HJ := Lib.hid hJ
                    clear hJ hbw HA6 HST6 HS6 HS4 HBA
                    go_upto_region 22 with (fail)
                    obtain ⟨wd, hwd⟩ : ∃ wd, wr.drew = wd := ⟨_, rfl⟩
                    have hbd : Below wr.heap.size wr wd := by rw [← hwd]; exact (Below.refl _ _).drew
                    have HJd := Lib.hid (HJ.out.grown hbd)
                    have HRRd := Lib.hid (HRR.out.below hbd)
                    have HRBd := Lib.hid ((hbd.block _ (lt_of_block hRB.out)).trans hRB.out)
                    have hHS : Hid (wd.cell? ⟨B, 0, none⟩ = some (.int .i64 x)) := Lib.hid (cells_cell HRBd.out rfl)
                    have HWD := Lib.hid hwd
                    clear hbd HJ HRR hRB HBR hwd z0
                    refine wp_region_mix (fun W' => W'.cell? ⟨B, 0, none⟩ = some (.int .i64 x)) 13 [(true, 0), (true, 1), (true, 2), (true, 5), (true, 6), (true, 7), (false, 3), (true, 4), (false, 8), (false, 9), (false, 10), (false, 11), (false, 12)] mixed (by kernel_rfl) (fun _ _ _ d _ h => by cases d <;> exact h) ?_
                    rw [HWD.out]
                    simp only [List.map_cons, List.map_nil, List.getD_cons_zero, List.getD_cons_succ, List.drop_succ_cons, List.drop_zero]
                    refine mix_move (.tmp 9) (.pointer (some ⟨a, 0, none⟩)) rfl hHS.out rfl rfl ?_
                    simp only [Act.put, List.setIfInBounds_toArray, List.set_cons_zero, List.set_cons_succ]
                    refine mix_take (.pointer (some ⟨B, 0, none⟩)) hHS.out rfl (fun W' hS => by go_simp) ?_
                    simp only [Act.put, List.setIfInBounds_toArray, List.set_cons_zero, List.set_cons_succ]
                    refine mix_take (.int .i64 x) hHS.out rfl (fun W' hS => by go_simp) ?_
                    simp only [Act.put, List.setIfInBounds_toArray, List.set_cons_zero, List.set_cons_succ]
                    refine mix_take (.pointer (some ⟨B, 0, none⟩)) hHS.out rfl (fun W' hS => by go_simp) ?_
                    simp only [Act.put, List.setIfInBounds_toArray, List.set_cons_zero, List.set_cons_succ]
                    refine mix_take (.int .i64 x) hHS.out rfl (fun W' hS => by go_simp) ?_
                    simp only [Act.put, List.setIfInBounds_toArray, List.set_cons_zero, List.set_cons_succ]
                    refine mix_take (.bool true) hHS.out rfl (fun W' hS => by go_simp) ?_
                    simp only [Act.put, List.setIfInBounds_toArray, List.set_cons_zero, List.set_cons_succ]
                    refine mix_step rfl (fun K hK => ?_)
                    go_simp
                    have hcl := Lib.hid (jClear_no HJd.out (x := x) (by simp [okS]; omega))
                    unfold pt at hcl
                    go_wp2_with (go_at_call 10; fail)
                    refine hcl.out.mono ?_
                    rintro e w8 ⟨rfl, hg8⟩
                    have HRB8 := Lib.hid ((hg8.below.block _ (lt_of_block HRBd.out)).trans HRBd.out)
                    have HRR8 := Lib.hid (HRRd.out.below hg8.below)
                    have HJ8 := Lib.hid (HJd.out.grown hg8.below)
                    clear hg8 HRBd HRRd HJd
                    have HS8 : Hid (w8.cell? ⟨B, 0, none⟩ = some (.int .i64 x)) := Lib.hid (cells_cell HRB8.out rfl)
                    refine hK _ _ HS8.out ?_
                    clear hK K hcl hHS
                    refine mix_take (.bool false) HS8.out rfl (fun W' hS => by go_simp) ?_
                    simp only [Act.put, List.setIfInBounds_toArray, List.set_cons_zero, List.set_cons_succ]
                    refine mix_by (.bool true) rfl (by go_simp) HS8.out ?_
                    simp only [Act.put, List.setIfInBounds_toArray, List.set_cons_zero, List.set_cons_succ]
                    have x8 := HS8.out
                    refine mix_by (.pointer (some ⟨B, 0, none⟩)) rfl (by go_simp) HS8.out ?_
                    simp only [Act.put, List.setIfInBounds_toArray, List.set_cons_zero, List.set_cons_succ]
                    refine mix_by (.int .i64 x) rfl (by go_simp) HS8.out ?_
                    simp only [Act.put, List.setIfInBounds_toArray, List.set_cons_zero, List.set_cons_succ]
                    refine mix_by (.bool false) rfl (by go_simp) HS8.out ?_
                    simp only [Act.put, List.setIfInBounds_toArray, List.set_cons_zero, List.set_cons_succ]
                    clear x8
                    refine mix_by (.bool false) rfl (by go_simp) HS8.out ?_
                    simp only [Act.put, List.setIfInBounds_toArray, List.set_cons_zero, List.set_cons_succ]
                    refine mix_nil ?_
                    go_wp2_with fail
                    go_roundw
                    case rel => exact ⟨k + 1, nw, _, _, by have := HL.out; omega, by go_num, ⟨(HJ8.out.less (G' := GO _) (fun g h => .inl h)).mono (by omega), ownsRow_mono HRR8.out HWS.out, by rw [HOK.out.clear_no y (by omega)]; exact HOK.out⟩⟩
                    case measure => simp [intOf]; have := HL.out; omega
                  · have hok : okS x 0 = true := by simp [okS]; omega
                    clear hj hlj hneg hbig
                    obtain ⟨q, r0, hq, -, rfl, -⟩ := okS_yes hok
                    have g1 : decide (0 ≤ (q : Int)) = true := by simp
                    have g2 : decide ((q : Int) < 128) = true := by simp; omega
                    have g0 : (0 : Int) ≤ (q : Int) := by omega
                    have hbw := HS6.out.trans (HBR.out.mono HS6.out.size)
                    have hJ : JAt w (fun g => u14.ownBlock = some g ∨ g = B) wr a nw f (2 * k) := HS4.out.J.more hbw (fun g hg => by
                      have h1 := HS6.out.size
                      have h2 := HBR.out.size
                      have h3 := lt_of_block HR6.out
                      have h4 := HBA.out
                      rcases hg with hg | hg
                      · have := HRR.out.lt g hg; exact .inr ⟨by omega, by omega⟩
                      · subst hg; exact .inr ⟨h4, by omega⟩)
                    have hRB := Lib.hid ((HBR.out.block _ (lt_of_block HR6.out)).trans HR6.out)
                    have z0 : wr.cell? ⟨A, 0, none⟩ = some (.int .i64 2) := cells_cell ((HBR.out.block _ (lt_of_block HA6.out)).trans HA6.out) rfl
                    have HOK : Hid (FOK nw f F) := Lib.hid HST6.out.ok
                    have HWS : Hid (w.heap.size ≤ w6.heap.size) := Lib.hid HST6.out.J.below.size
                    have HJ := Lib.hid hJ
                    clear hJ hbw HA6 HST6 HS6 HS4 HBA
                    go_upto_region 22 with (fail)
                    obtain ⟨wd, hwd⟩ : ∃ wd, wr.drew = wd := ⟨_, rfl⟩
                    have hbd : Below wr.heap.size wr wd := by rw [← hwd]; exact (Below.refl _ _).drew
                    have HJd := Lib.hid (HJ.out.grown hbd)
                    have HRRd := Lib.hid (HRR.out.below hbd)
                    have HRBd := Lib.hid ((hbd.block _ (lt_of_block hRB.out)).trans hRB.out)
                    have hHS : Hid (wd.cell? ⟨B, 0, none⟩ = some (.int .i64 (q : Int))) := Lib.hid (cells_cell HRBd.out rfl)
                    have HWD := Lib.hid hwd
                    clear hbd HJ HRR hRB HBR hwd z0
                    refine wp_region_mix (fun W' => W'.cell? ⟨B, 0, none⟩ = some (.int .i64 (q : Int))) 13 [(true, 0), (true, 1), (true, 2), (true, 5), (true, 6), (true, 7), (false, 3), (true, 4), (false, 8), (false, 9), (false, 10), (false, 11), (false, 12)] mixed (by kernel_rfl) (fun _ _ _ d _ h => by cases d <;> exact h) ?_
                    rw [HWD.out]
                    simp only [List.map_cons, List.map_nil, List.getD_cons_zero, List.getD_cons_succ, List.drop_succ_cons, List.drop_zero]
                    refine mix_move (.tmp 9) (.pointer (some ⟨a, 0, none⟩)) rfl hHS.out rfl rfl ?_
                    simp only [Act.put, List.setIfInBounds_toArray, List.set_cons_zero, List.set_cons_succ]
                    refine mix_take (.pointer (some ⟨B, 0, none⟩)) hHS.out rfl (fun W' hS => by go_simp) ?_
                    simp only [Act.put, List.setIfInBounds_toArray, List.set_cons_zero, List.set_cons_succ]
                    refine mix_take (.int .i64 (q : Int)) hHS.out rfl (fun W' hS => by go_simp) ?_
                    simp only [Act.put, List.setIfInBounds_toArray, List.set_cons_zero, List.set_cons_succ]
                    refine mix_take (.pointer (some ⟨B, 0, none⟩)) hHS.out rfl (fun W' hS => by go_simp) ?_
                    simp only [Act.put, List.setIfInBounds_toArray, List.set_cons_zero, List.set_cons_succ]
                    refine mix_take (.int .i64 (q : Int)) hHS.out rfl (fun W' hS => by go_simp) ?_
                    simp only [Act.put, List.setIfInBounds_toArray, List.set_cons_zero, List.set_cons_succ]
                    refine mix_take (.bool true) hHS.out rfl (fun W' hS => by go_simp) ?_
                    simp only [Act.put, List.setIfInBounds_toArray, List.set_cons_zero, List.set_cons_succ]
                    refine mix_step rfl (fun K hK => ?_)
                    go_simp
                    have hcl := Lib.hid (jClear_yes HJd.out hq hT (by have := HL.out; omega))
                    unfold pt at hcl
                    go_wp2_with (go_at_call 10; fail)
                    refine hcl.out.mono ?_
                    rintro e w8 ⟨rfl, J8, K8⟩
                    have HRB8 := Lib.hid ((K8 B (.inr rfl)).trans HRBd.out)
                    have HRR8 := Lib.hid (HRRd.out.keepB (w' := w8) (fun g hg => K8 g (.inl hg)))
                    have HJ8 := Lib.hid J8
                    clear J8 K8 HRBd HRRd HJd
                    have HS8 : Hid (w8.cell? ⟨B, 0, none⟩ = some (.int .i64 (q : Int))) := Lib.hid (cells_cell HRB8.out rfl)
                    refine hK _ _ HS8.out ?_
                    clear hK K hcl hHS
                    refine mix_take (.bool true) HS8.out rfl (fun W' hS => by go_simp) ?_
                    simp only [Act.put, List.setIfInBounds_toArray, List.set_cons_zero, List.set_cons_succ]
                    refine mix_by (.bool true) rfl (by go_simp) HS8.out ?_
                    simp only [Act.put, List.setIfInBounds_toArray, List.set_cons_zero, List.set_cons_succ]
                    have x8 := HS8.out
                    refine mix_by (.pointer (some ⟨B, 0, none⟩)) rfl (by go_simp) HS8.out ?_
                    simp only [Act.put, List.setIfInBounds_toArray, List.set_cons_zero, List.set_cons_succ]
                    refine mix_by (.int .i64 (q : Int)) rfl (by go_simp) HS8.out ?_
                    simp only [Act.put, List.setIfInBounds_toArray, List.set_cons_zero, List.set_cons_succ]
                    refine mix_by (.bool true) rfl (by go_simp) HS8.out ?_
                    simp only [Act.put, List.setIfInBounds_toArray, List.set_cons_zero, List.set_cons_succ]
                    clear x8
                    refine mix_by (.bool true) rfl (by go_simp) HS8.out ?_
                    simp only [Act.put, List.setIfInBounds_toArray, List.set_cons_zero, List.set_cons_succ]
                    refine mix_nil ?_
                    go_wp2_with fail
                    go_roundw
                    case rel => exact ⟨k + 1, nw, _, _, by have := HL.out; omega, by go_num, ⟨(HJ8.out.less (G' := GO _) (fun g h => .inl h)).mono (by omega), ownsRow_mono HRR8.out HWS.out, HOK.out.clear hq y⟩⟩
                    case measure => simp [intOf]; have := HL.out; omega
        · have hq2 : (what == 2) = false := by simpa using hw2
          by_cases hw1 : what = 1
          · subst hw1
            clear hw0 hw2
            as_aux_lemma =>
              by_cases hnev : t = never
              · have HDN := Lib.hid hnev
                have hadv0 := jAdv_never HS4.out.J
                rw [← hnev] at hadv0
                clear hnev
                clear HJA
                have hadv := Lib.hid (hadv0)
                unfold pt at hadv
                go_wp2_with (go_at_call 9; fail)
                refine hadv.out.mono ?_
                rintro e w5 ⟨rfl, rfl⟩
                go_wp2_with fail
                go_roundw
                case rel => exact ⟨k + 1, nw, f, F, by have := HL.out; omega, by go_num, ⟨HS4.out.J.mono (by omega), HS4.out.row, HS4.out.ok⟩⟩
                case measure => simp [intOf]; have := HL.out; omega
              · by_cases hearly : t < nw
                · have hadv0 := jAdv_early HS4.out.J hnev hearly
                  clear hnev hearly
                  clear HJA
                  have hadv := Lib.hid (hadv0)
                  unfold pt at hadv
                  go_wp2_with (go_at_call 9; fail)
                  refine hadv.out.mono ?_
                  rintro e w5 ⟨rfl, rfl⟩
                  go_wp2_with fail
                  go_roundw
                  case rel => exact ⟨k + 1, nw, f, F, by have := HL.out; omega, by go_num, ⟨HS4.out.J.mono (by omega), HS4.out.row, HS4.out.ok⟩⟩
                  case measure => simp [intOf]; have := HL.out; omega
                · have HTN := Lib.hid hnev
                  have HLE := Lib.hid hearly
                  have htt : t < never := by have := HT.out; unfold never at *; omega
                  have hadv := Lib.hid (jAdv_yes HJA.out htt (by omega) (by have := HL.out; omega))
                  have HTT := Lib.hid htt
                  clear HJA htt hnev hearly
                  unfold pt at hadv
                  go_wp2_with (go_at_call 9; fail)
                  refine hadv.out.mono ?_
                  rintro e w5 ⟨gv, L, rfl, hlap, hgot, J5, K5, hsz5⟩
                  have HLAP := Lib.hid hlap
                  have HGOT := Lib.hid hgot
                  have HJ5 := Lib.hid J5
                  have HF5 := Lib.hid (HS4.out.row.keepB (w' := w5) (fun g hg => K5 g (.inl hg)))
                  have HA5 := Lib.hid ((K5 A (.inr rfl)).trans HA4.out)
                  have HOK := Lib.hid HS4.out.ok
                  have HCNT := Lib.hid (HS4.out.ok.count hlap HTT.out)
                  have HIN := Lib.hid (HS4.out.ok.got hlap HTT.out)
                  have HWS : Hid (w.heap.size ≤ w5.heap.size) := Lib.hid J5.below.size
                  obtain ⟨ga0, gc0, rfl⟩ := slice_form hgot
                  have hLi : (L.length : Int) ≤ 256 := by have := hlap.len; omega
                  have hFi : (F.length : Int) ≤ 256 := by have := HFl.out; omega
                  clear hlap hgot J5 K5 hsz5 HS4 HA4 z0 z1 z2 z3 hadv
                  go_wp2_with fail
                  go_loopw [166] (fun i wr => ∃ j : Nat, j ≤ L.length ∧ i = .int .i64 j ∧ Below w5.heap.size w5 wr) (fun i _ => L.length - (intOf i).toNat)
                  case atStart => exact ⟨0, by omega, rfl, Below.refl _ _⟩
                  case round =>
                    obtain ⟨j, hj, rfl, hb⟩ := hrel
                    by_cases hlj : j < L.length
                    · obtain ⟨g, hg⟩ : ∃ g, L[j]? = some g := ⟨_, List.getElem?_eq_getElem hlj⟩
                      obtain ⟨hgF, hgt⟩ := HIN.out g (List.mem_of_getElem? hg)
                      have hrg := HGOT.out.below hb
                      obtain ⟨g0, g1, hg0, _, _⟩ := row_some hrg (by omega)
                      simp only [Value.slice.injEq, true_and] at hg0
                      obtain ⟨rfl, rfl⟩ := hg0
                      obtain ⟨d0, d1, d2⟩ := hrg.cells j g hg
                      obtain ⟨pq, hpq⟩ : ∃ pq, ((g.2 / 2 : Nat) : Int) = pq := ⟨_, rfl⟩
                      obtain ⟨pr, hpr⟩ : ∃ pr, ((g.2 % 2 : Nat) : Int) = pr := ⟨_, rfl⟩
                      obtain ⟨zk, hzk⟩ : ∃ zk, g.1 = zk := ⟨_, rfl⟩
                      rw [hpq] at d0
                      rw [hpr] at d1
                      rw [hzk] at d2
                      have HPQ := Lib.hid (And.intro hpq (And.intro hpr hzk))
                      obtain ⟨w7, hW7⟩ : ∃ w7, wr.alloc (.cells #[.int .i64 pq, .int .i64 pr, .int .u64 zk] 53) = w7 := ⟨_, rfl⟩
                      obtain ⟨X, hX⟩ : ∃ X, wr.heap.size = X := ⟨_, rfl⟩
                      have hb7 : Below wr.heap.size wr w7 := by rw [← hW7]; exact (Below.refl _ _).alloc (Nat.le_refl _) _
                      have HX7 : Hid (w7.heap[X]? = some (.cells #[.int .i64 pq, .int .i64 pr, .int .u64 zk] 53 (0, 0))) := by rw [← hW7, ← hX]; exact Lib.hid (block_new _ _ _ rfl)
                      have HB7 := Lib.hid (hb.trans (hb7.mono hb.size))
                      have HLJ := Lib.hid hlj
                      have HGF := Lib.hid (And.intro hgF hgt)
                      have HW7 := Lib.hid hW7
                      have HX := Lib.hid hX
                      have hji : (j : Int) < (L.length : Int) := by omega
                      clear hrg hpq hpr hzk hW7 hX hb7 hb hlj hg hgF hgt
                      go_upto_region 40 with (fail)
                      rw [HW7.out, HX.out]
                      clear HW7 HX d0 d1 d2
                      go_wp2_with fail
                      go_loopw [25, 172] (fun c i wr => ∃ (m : Nat) (cb : Bool), m ≤ F.length ∧ c = .bool cb ∧ i = .int .i64 m ∧ (cb = true ↔ g ∈ F.take m) ∧ Below w7.heap.size w7 wr) (fun _ i _ => F.length - (intOf i).toNat)
                      case atStart => exact ⟨0, false, by omega, rfl, rfl, by simp, Below.refl _ _⟩
                      case round =>
                        obtain ⟨m, cb, hm, rfl, rfl, hcb, hb8⟩ := hrel
                        by_cases hlm : m < F.length
                        · obtain ⟨z, hz⟩ : ∃ z, F[m]? = some z := ⟨_, List.getElem?_eq_getElem hlm⟩
                          have hsn : F.take (m + 1) = F.take m ++ [z] := take_snoc hz
                          have hrf := (HF5.out.below HB7.out).below hb8
                          obtain ⟨f0, f1, hf0, _, _⟩ := row_some hrf (by omega)
                          simp only [Value.slice.injEq, true_and] at hf0
                          obtain ⟨rfl, rfl⟩ := hf0
                          obtain ⟨d0, d1, d2⟩ := hrf.cells m z hz
                          obtain ⟨pq', hpq'⟩ : ∃ pq, ((z.2 / 2 : Nat) : Int) = pq := ⟨_, rfl⟩
                          obtain ⟨pr', hpr'⟩ : ∃ pr, ((z.2 % 2 : Nat) : Int) = pr := ⟨_, rfl⟩
                          obtain ⟨zk', hzk'⟩ : ∃ zk, z.1 = zk := ⟨_, rfl⟩
                          rw [hpq'] at d0
                          rw [hpr'] at d1
                          rw [hzk'] at d2
                          have hzg : z = g ↔ pq' = pq ∧ pr' = pr ∧ zk' = zk := by
                            obtain ⟨e1, e2, e3⟩ := HPQ.out
                            obtain ⟨z1, z2⟩ := z
                            obtain ⟨g1, g2⟩ := g
                            simp only at *
                            constructor
                            · intro h
                              simp only [Prod.mk.injEq] at h
                              obtain ⟨rfl, rfl⟩ := h
                              exact ⟨by omega, by omega, by omega⟩
                            · rintro ⟨h1, h2, h3⟩
                              simp only [Prod.mk.injEq]
                              exact ⟨by omega, by omega⟩
                          have HZG := Lib.hid hzg
                          have HSN := Lib.hid hsn
                          have HCB := Lib.hid hcb
                          have HLM := Lib.hid hlm
                          obtain ⟨w8, hW8⟩ : ∃ w8, wr.alloc (.cells #[.int .i64 pq', .int .i64 pr', .int .u64 zk'] 53) = w8 := ⟨_, rfl⟩
                          obtain ⟨Y, hY⟩ : ∃ Y, wr.heap.size = Y := ⟨_, rfl⟩
                          have hb9 : Below wr.heap.size wr w8 := by rw [← hW8]; exact (Below.refl _ _).alloc (Nat.le_refl _) _
                          have hy8 : w8.heap[Y]? = some (.cells #[.int .i64 pq', .int .i64 pr', .int .u64 zk'] 53 (0, 0)) := by rw [← hW8, ← hY]; exact block_new _ _ _ rfl
                          have hbb := hb8.trans (hb9.mono hb8.size)
                          have hx8 := (hbb.block _ (lt_of_block HX7.out)).trans HX7.out
                          have HBB := Lib.hid hbb
                          have e0 : w8.cell? ⟨Y, 0, none⟩ = some (.int .i64 pq') := cells_cell hy8 rfl
                          have e1 : w8.cell? ⟨Y, 1, none⟩ = some (.int .i64 pr') := cells_cell hy8 rfl
                          have e2 : w8.cell? ⟨Y, 2, none⟩ = some (.int .u64 zk') := cells_cell hy8 rfl
                          have x0 : w8.cell? ⟨X, 0, none⟩ = some (.int .i64 pq) := cells_cell hx8 rfl
                          have x1 : w8.cell? ⟨X, 1, none⟩ = some (.int .i64 pr) := cells_cell hx8 rfl
                          have x2 : w8.cell? ⟨X, 2, none⟩ = some (.int .u64 zk) := cells_cell hx8 rfl
                          have HW8 := Lib.hid hW8
                          have HY := Lib.hid hY
                          have hmi : (m : Int) < (F.length : Int) := by omega
                          clear hrf hpq' hpr' hzk' hW8 hY hb9 hy8 hx8 hbb hb8 hsn hz hzg hcb hlm
                          go_upto_region 44 with (fail)
                          rw [HW8.out, HY.out]
                          clear HW8 HY d0 d1 d2
                          cases cb with
                          | true =>
                            go_wp2_with fail
                            go_roundw
                            case rel => exact ⟨m + 1, true, by have := HLM.out; omega, rfl, by go_num, ⟨fun _ => by rw [HSN.out]; exact List.mem_append_left _ (HCB.out.1 rfl), fun _ => rfl⟩, HBB.out⟩
                            case measure => simp [intOf]; have := HLM.out; omega
                          | false =>
                            by_cases a1 : pq = pq'
                            · by_cases a2 : pr = pr'
                              · by_cases a3 : zk = zk'
                                · have qa1 : (pq == pq') = true := by simpa using a1
                                  have qa2 : (pr == pr') = true := by simpa using a2
                                  have qa3 : (zk == zk') = true := by simpa using a3
                                  have HEQ := Lib.hid (HZG.out.2 ⟨a1.symm, a2.symm, a3.symm⟩)
                                  clear a1 a2 a3
                                  go_wp2_with fail
                                  go_roundw
                                  case rel => exact ⟨m + 1, true, by have := HLM.out; omega, rfl, by go_num, ⟨fun _ => by rw [HSN.out, HEQ.out]; simp, fun _ => rfl⟩, HBB.out⟩
                                  case measure => simp [intOf]; have := HLM.out; omega
                                · have qa1 : (pq == pq') = true := by simpa using a1
                                  have qa2 : (pr == pr') = true := by simpa using a2
                                  have qa3 : (zk == zk') = false := by simpa using a3
                                  have HNE := Lib.hid (fun h => a3 (HZG.out.1 h).2.2.symm)
                                  clear a1 a2 a3
                                  go_wp2_with fail
                                  go_roundw
                                  case rel => exact ⟨m + 1, false, by have := HLM.out; omega, rfl, by go_num, ⟨fun h => by simp at h, fun h => by
                                    rw [HSN.out] at h
                                    rcases List.mem_append.1 h with h | h
                                    · exact HCB.out.2 h
                                    · exact absurd (List.mem_singleton.1 h).symm HNE.out⟩, HBB.out⟩
                                  case measure => simp [intOf]; have := HLM.out; omega
                              · have qa1 : (pq == pq') = true := by simpa using a1
                                have qa2 : (pr == pr') = false := by simpa using a2
                                have HNE := Lib.hid (fun h => a2 (HZG.out.1 h).2.1.symm)
                                clear a1 a2
                                go_wp2_with fail
                                go_roundw
                                case rel => exact ⟨m + 1, false, by have := HLM.out; omega, rfl, by go_num, ⟨fun h => by simp at h, fun h => by
                                  rw [HSN.out] at h
                                  rcases List.mem_append.1 h with h | h
                                  · exact HCB.out.2 h
                                  · exact absurd (List.mem_singleton.1 h).symm HNE.out⟩, HBB.out⟩
                                case measure => simp [intOf]; have := HLM.out; omega
                            · have qa1 : (pq == pq') = false := by simpa using a1
                              have HNE := Lib.hid (fun h => a1 (HZG.out.1 h).1.symm)
                              clear a1
                              go_wp2_with fail
                              go_roundw
                              case rel => exact ⟨m + 1, false, by have := HLM.out; omega, rfl, by go_num, ⟨fun h => by simp at h, fun h => by
                                rw [HSN.out] at h
                                rcases List.mem_append.1 h with h | h
                                · exact HCB.out.2 h
                                · exact absurd (List.mem_singleton.1 h).symm HNE.out⟩, HBB.out⟩
                              case measure => simp [intOf]; have := HLM.out; omega
                        · obtain rfl : m = F.length := by omega
                          rw [List.take_length] at hcb
                          obtain rfl : cb = true := hcb.2 HGF.out.1
                          have HB8 := Lib.hid hb8
                          have hx8 := (hb8.block _ (lt_of_block HX7.out)).trans HX7.out
                          have x2 : wr.cell? ⟨X, 2, none⟩ = some (.int .u64 zk) := cells_cell hx8 rfl
                          have ha8 := ((HB7.out.trans (hb8.mono HB7.out.size)).block _ (lt_of_block HA5.out)).trans HA5.out
                          have z3 : wr.cell? ⟨A, 3, none⟩ = some (.int .u64 t) := cells_cell ha8 rfl
                          have qgt : decide (t < zk) = false := by have h1 := HGF.out.2; have h2 := HPQ.out.2.2; simp; omega
                          have HBB := Lib.hid (HB7.out.trans (hb8.mono HB7.out.size))
                          clear hcb hb8 hx8 ha8
                          go_wp2_with fail
                          go_roundw
                          case rel => exact ⟨j + 1, by have := HLJ.out; omega, by go_num, HBB.out⟩
                          case measure => simp [intOf]; have := HLJ.out; omega
                    · obtain rfl : j = L.length := by omega
                      have HB6 := Lib.hid hb
                      clear hb hj hlj
                      obtain ⟨w6, hw6⟩ : ∃ w6, w6 = wr := ⟨_, rfl⟩
                      subst hw6
                      have HF6 := Lib.hid (HF5.out.below HB6.out)
                      have HA6 := Lib.hid ((HB6.out.block _ (lt_of_block HA5.out)).trans HA5.out)
                      go_wp2_with fail
                      go_loopw [14, 195] (fun v14 i wr => ∃ j : Nat, j ≤ F.length ∧ i = .int .i64 j ∧ RowL wr w6.heap.size v14 ((F.take j).filter (fun e => decide (t < e.1))) ∧ Below w6.heap.size w6 wr) (fun _ i _ => F.length - (intOf i).toNat)
                      case atStart => exact ⟨0, by omega, rfl, World.ownsRow_nil _ _ _ _, Below.refl _ _⟩
                      case round =>
                        obtain ⟨j, hj, rfl, hrw, hb⟩ := hrel
                        by_cases hlj : j < F.length
                        · obtain ⟨z, hz⟩ : ∃ z, F[j]? = some z := ⟨_, List.getElem?_eq_getElem hlj⟩
                          have hsn := filter_snoc (fun e => decide (t < e.1)) hz
                          have hrf := HF6.out.below hb
                          obtain ⟨ga, gc, hga, _, _⟩ := row_some hrf (by omega)
                          simp only [Value.slice.injEq, true_and] at hga
                          obtain ⟨rfl, rfl⟩ := hga
                          obtain ⟨d0, d1, d2⟩ := hrf.cells j z hz
                          obtain ⟨pq, hpq⟩ : ∃ pq, ((z.2 / 2 : Nat) : Int) = pq := ⟨_, rfl⟩
                          obtain ⟨pr, hpr⟩ : ∃ pr, ((z.2 % 2 : Nat) : Int) = pr := ⟨_, rfl⟩
                          obtain ⟨zk, hzk⟩ : ∃ zk, z.1 = zk := ⟨_, rfl⟩
                          have henc : encL z = [.int .i64 pq, .int .i64 pr, .int .u64 zk] := by unfold encL; rw [hpq, hpr, hzk]
                          have hkeep : decide (t < z.1) = decide (t < zk) := by simp only [hzk]
                          rw [hpq] at d0
                          rw [hpr] at d1
                          rw [hzk] at d2
                          obtain ⟨w7, hW7⟩ : ∃ w7, wr.alloc (.cells #[.int .i64 pq, .int .i64 pr, .int .u64 zk] 53) = w7 := ⟨_, rfl⟩
                          obtain ⟨X, hX⟩ : ∃ X, wr.heap.size = X := ⟨_, rfl⟩
                          have hb7 : Below wr.heap.size wr w7 := by rw [← hW7]; exact (Below.refl _ _).alloc (Nat.le_refl _) _
                          have hx7 : w7.heap[X]? = some (.cells #[.int .i64 pq, .int .i64 pr, .int .u64 zk] 53 (0, 0)) := by rw [← hW7, ← hX]; exact block_new _ _ _ rfl
                          have e0 : w7.cell? ⟨X, 0, none⟩ = some (.int .i64 pq) := cells_cell hx7 rfl
                          have e1 : w7.cell? ⟨X, 1, none⟩ = some (.int .i64 pr) := cells_cell hx7 rfl
                          have e2 : w7.cell? ⟨X, 2, none⟩ = some (.int .u64 zk) := cells_cell hx7 rfl
                          have hbb := hb.trans (hb7.mono hb.size)
                          have ha7 := (hbb.block _ (lt_of_block HA6.out)).trans HA6.out
                          have z3 : w7.cell? ⟨A, 3, none⟩ = some (.int .u64 t) := cells_cell ha7 rfl
                          have HBB := Lib.hid hbb
                          have HRW := Lib.hid (hrw.below hb7)
                          have HSN := Lib.hid hsn
                          have HENC := Lib.hid henc
                          have HKP := Lib.hid hkeep
                          have HLJ := Lib.hid hlj
                          have HW7 := Lib.hid hW7
                          have HX := Lib.hid hX
                          have hji : (j : Int) < (F.length : Int) := by omega
                          have hlen2 : ((F.take j).filter (fun e => decide (t < e.1))).length ≤ 256 := by have h1 := List.length_filter_le (fun e => decide (t < e.1)) (F.take j); have h2 := List.length_take_le j F; omega
                          have HLEN2 := Lib.hid hlen2
                          clear hrf hpq hpr hzk hW7 hX hb7 hx7 hbb ha7 hsn henc hkeep hz hrw hb hlj hlen2
                          go_upto_region 52 with (fail)
                          rw [HW7.out, HX.out]
                          clear HW7 HX d0 d1 d2
                          by_cases g1 : t < zk
                          · have k1 : decide (t < z.1) = true := by rw [HKP.out]; simpa using g1
                            have q1' : decide (t < zk) = true := by simpa using g1
                            clear g1 HKP
                            obtain ⟨ra, rc, rfl⟩ := slice_form HRW.out
                            obtain ⟨n, hn⟩ : ∃ n, ((F.take j).filter (fun e => decide (t < e.1))).length = n := ⟨_, rfl⟩
                            have hrw2 : w7.ownsRow w6.heap.size 53 3 (.slice ra n rc) n (((F.take j).filter (fun e => decide (t < e.1))).flatMap encL) := by
                              have := HRW.out
                              unfold RowL at this
                              rw [hn] at this
                              exact this
                            rw [hn]
                            have HN2 := Lib.hid hn
                            have HRW2 := Lib.hid hrw2
                            clear hn hrw2 HRW
                            have hb8 : Below w7.heap.size w7 (w7.alloc (.cells #[.int .i64 pq, .int .i64 pr, .int .u64 zk] 53)) := (Below.refl _ _).alloc (Nat.le_refl _) _
                            have HB8 := Lib.hid hb8
                            have HRW3 := Lib.hid ((Fr.of_below hb8 []).row HRW2.out (fun _ _ => by simp))
                            clear hb8
                            go_wp2_with (at_builtin; refine wpList_append_row _ rfl _ _ 38 rfl 53 im (.agg #[.int .i64 0, .int .i64 0, .int .u64 0]) 3 24 Tryd.underlying38 him0 him1 him2 him3 rfl (by decide) w6.heap.size (.slice ra n rc) n (((F.take j).filter (fun e => decide (t < e.1))).flatMap encL) rfl HRW3.out ?c0 ⟨w7.heap.size, 0, none⟩ 1 1 [.int .i64 pq, .int .i64 pr, .int .u64 zk] rfl rfl ?c1 ?c2 (by decide) ?c3 ?c4 ?_)
                            case c0 => have h1 := HBB.out.size; have h2 := HB8.out.size; omega
                            case c1 => exact new_cells3 w7 _ _ _ _
                            case c2 => simp [Value.oneCell']
                            case c3 => have := HLEN2.out; have := HN2.out; unfold maxLen; omega
                            case c4 => have := HLEN2.out; have := HN2.out; omega
                            intro v' w9 hown hf hnear
                            have hrel : RowL w9 w6.heap.size v' ((F.take (j + 1)).filter (fun e => decide (t < e.1))) ∧ Below w6.heap.size w6 w9 := by
                              refine ⟨?_, (HBB.out.trans (HB8.out.mono HBB.out.size)).trans (hf.below (fun g hg => (HRW3.out.lt g (by simpa using hg)).1) (by have h1 := HBB.out.size; have h2 := HB8.out.size; omega))⟩
                              unfold RowL
                              rw [HSN.out, k1]
                              simp only [if_true, List.length_append, HN2.out, List.length_cons, List.length_nil, List.flatMap_append, List.flatMap_cons, List.flatMap_nil, List.append_nil, HENC.out]
                              exact hown
                            have HREL := Lib.hid hrel
                            clear hrel hown hf hnear HRW3 HRW2
                            go_wp2_with fail
                            go_roundw
                            case rel => exact ⟨j + 1, by have := HLJ.out; omega, by go_num, HREL.out.1, HREL.out.2⟩
                            case measure => simp [intOf]; have := HLJ.out; omega
                          · have k1 : decide (t < z.1) = false := by rw [HKP.out]; simpa using g1
                            have q1' : decide (t < zk) = false := by simpa using g1
                            clear g1 HKP
                            have hrow2 : Hid (RowL w7 w6.heap.size u14 ((F.take (j + 1)).filter (fun e => decide (t < e.1)))) := by rw [HSN.out, k1]; simpa using HRW
                            go_wp2_with fail
                            go_roundw
                            case rel => exact ⟨j + 1, by have := HLJ.out; omega, by go_num, hrow2.out, HBB.out⟩
                            case measure => simp [intOf]; have := HLJ.out; omega
                        · obtain rfl : j = F.length := by omega
                          rw [List.take_length] at hrw
                          obtain ⟨R, hR⟩ : ∃ R, F.filter (fun e => decide (t < e.1)) = R := ⟨_, rfl⟩
                          have hc := HCNT.out
                          rw [hR] at hrw hc
                          have hfin := Lib.hid (HOK.out.adv HLE.out)
                          rw [hR] at hfin
                          obtain ⟨ra, rc, rfl⟩ := slice_form hrw
                          have HRR := Lib.hid hrw
                          have HBR := Lib.hid hb
                          have HJ9 : Hid (JAt w (GO (.slice ra R.length rc)) wr a t f (2 * k)) := Lib.hid (HJ5.out.more (HB6.out.trans (hb.mono HB6.out.size)) (fun g hg => .inr ⟨Nat.le_trans HB6.out.size (hrw.lt g hg).1, (hrw.lt g hg).2⟩))
                          have HRR9 : Hid (RowL wr w.heap.size (.slice ra R.length rc) R) := Lib.hid (ownsRow_mono hrw (Nat.le_trans HWS.out HB6.out.size))
                          have hRi : (R.length : Int) ≤ 256 := by omega
                          have hci : (R.length : Int) + (L.length : Int) = (F.length : Int) := by omega
                          have hne : (((R.length : Int) + (L.length : Int)) != (F.length : Int)) = false := by simp [hci]
                          clear hrw hb hR hc
                          unfold pt at *
                          go_wp2_with (go_at_call 11; fail)
                          have hnx := Lib.hid (jNext_yes HJ9.out)
                          unfold pt at hnx
                          go_wp2_with (go_at_call 11; fail)
                          refine hnx.out.mono ?_
                          rintro e wy ⟨vn, rfl, hin, hgy⟩
                          have HJy := Lib.hid (HJ9.out.grown hgy.below)
                          have HGy := Lib.hid hgy
                          have hle := next_gt hin HJy.out.nn
                          have hnw := Lib.hid (jNow_yes HJy.out)
                          clear hgy hin hnx
                          unfold pt at hnw
                          go_wp2_with (go_at_call 12; refine hnw.out.mono ?_; rintro e wz ⟨rfl, rfl⟩)
                          clear hle
                          go_roundw
                          case rel => exact ⟨k + 1, t, f, R, by have := HL.out; omega, by go_num, ⟨HJy.out.mono (by omega), HRR9.out.below HGy.out.below, hfin.out⟩⟩
                          case measure => simp [intOf]; have := HL.out; omega
          · have hq1 : (what == 1) = false := by simpa using hw1
            clear hw0 hw1 hw2
            as_aux_lemma =>
              have HJ9 := Lib.hid HS4.out.J
              clear HJA
              go_wp2_with (go_at_call 11; fail)
              have hnx := Lib.hid (jNext_yes HJ9.out)
              unfold pt at hnx
              go_wp2_with (go_at_call 11; fail)
              refine hnx.out.mono ?_
              rintro e wy ⟨vn, rfl, hin, hgy⟩
              have HJy := Lib.hid (HJ9.out.grown hgy.below)
              have HGy := Lib.hid hgy
              have hle := next_gt hin HJy.out.nn
              have hnw := Lib.hid (jNow_yes HJy.out)
              clear hgy hin hnx
              unfold pt at hnw
              go_wp2_with (go_at_call 12; refine hnw.out.mono ?_; rintro e wz ⟨rfl, rfl⟩)
              clear hle
              go_roundw
              case rel => exact ⟨k + 1, nw, f, F, by have := HL.out; omega, by go_num, ⟨HJy.out.mono (by omega), HS4.out.row.below HGy.out.below, HS4.out.ok⟩⟩
              case measure => simp [intOf]; have := HL.out; omega
    · obtain rfl : k = len := by omega
      clear hst
      as_aux_lemma =>
        have HC0 := Lib.hid (jCopy_yes HS.out.J)
        have HJ0 := Lib.hid HS.out.J
        have HPn : Hid (2 * k ≤ 9223372036854775807) := Lib.hid (by omega)
        clear HS hrow
        unfold pt at HC0
        go_wp2_with (go_at_call 13; fail)
        refine HC0.out.mono ?_
        rintro e w2 ⟨c, rfl, C, hb2⟩
        have HD := Lib.hid (duoj_of_copy HJ0.out hb2 C)
        clear hb2 C HC0 HJ0
        obtain ⟨lo, hlo⟩ : ∃ lo, min one two = lo := ⟨_, rfl⟩
        obtain ⟨hi, hhi⟩ : ∃ hi, max one two = hi := ⟨_, rfl⟩
        have hor : lo ≤ hi ∧ 0 ≤ lo ∧ hi ≤ never := by have h1 := HONE.out; have h2 := HTWO.out; omega
        have HLO := Lib.hid hlo
        have HHI := Lib.hid hhi
        have HOR := Lib.hid hor
        clear hlo hhi hor
        have hn1 := Lib.hid (jNow_yes HD.out.left)
        unfold pt at hn1
        by_cases c1 : lo < nw
        · have d1 : decide (lo < nw) = true := by simpa using c1
          have hkn := Lib.hid (jknown_any w2 (hT.below HD.out.below hT.lt))
          clear c1
          go_wp2_with (first | (with_reducible refine wpList_minu rfl (.tmp 226) (.tmp 227) _ rfl _ _ _ rfl rfl HLO.out ?_) | (with_reducible refine wpList_maxu rfl (.tmp 229) (.tmp 230) _ rfl _ _ _ rfl rfl HHI.out ?_) | (go_at_call 12; refine hn1.out.mono ?_; rintro e wz ⟨rfl, rfl⟩) | (go_at_call 14; fail))
          refine hkn.out.mono ?_
          rintro e w99 ⟨rfl, hb9⟩
          have hfin := Lib.hid (HD.out.below.trans (hb9.mono HD.out.below.size))
          clear hb9
          go_wp2_with fail
          go_ret
          exact ⟨rfl, hfin.out⟩
        · have d1 : decide (lo < nw) = false := by simpa using c1
          by_cases c2 : hi = never
          · have d2 : (hi == 18446744073709551615) = true := by simpa [never] using c2
            have hkn := Lib.hid (jknown_any w2 (hT.below HD.out.below hT.lt))
            clear c1 c2
            go_wp2_with (first | (with_reducible refine wpList_minu rfl (.tmp 226) (.tmp 227) _ rfl _ _ _ rfl rfl HLO.out ?_) | (with_reducible refine wpList_maxu rfl (.tmp 229) (.tmp 230) _ rfl _ _ _ rfl rfl HHI.out ?_) | (go_at_call 12; refine hn1.out.mono ?_; rintro e wz ⟨rfl, rfl⟩) | (go_at_call 14; fail))
            refine hkn.out.mono ?_
            rintro e w99 ⟨rfl, hb9⟩
            have hfin := Lib.hid (HD.out.below.trans (hb9.mono HD.out.below.size))
            clear hb9
            go_wp2_with fail
            go_ret
            exact ⟨rfl, hfin.out⟩
          · have d2 : (hi == 18446744073709551615) = false := by simpa [never] using c2
            have c3 : hi < never := by have := HOR.out; omega
            have c4 : lo < never := by have := HOR.out; omega
            have c5 : nw ≤ lo := by omega
            have C3 := Lib.hid c3
            have C5 := Lib.hid c5
            have hd1 := Lib.hid (jAdv_duo HD.out c4 c5 HPn.out)
            clear c1 c2 c3 c4 c5
            unfold pt at hd1
            go_wp2_with (first | (with_reducible refine wpList_minu rfl (.tmp 226) (.tmp 227) _ rfl _ _ _ rfl rfl HLO.out ?_) | (with_reducible refine wpList_maxu rfl (.tmp 229) (.tmp 230) _ rfl _ _ _ rfl rfl HHI.out ?_) | (go_at_call 12; refine hn1.out.mono ?_; rintro e wz ⟨rfl, rfl⟩) | (go_at_call 9; fail))
            refine hd1.out.mono ?_
            rintro e w3 ⟨v1, L1, rfl, hL1, hr1, D1, K1, s1⟩
            have HL1 := Lib.hid hL1
            have HR1 := Lib.hid hr1
            have HD1 := Lib.hid D1
            have S1 := Lib.hid s1
            clear hL1 hr1 D1 K1 s1 hd1 hn1
            have hd2 := Lib.hid (jAdv_duo HD1.out C3.out HOR.out.1 HPn.out)
            unfold pt at hd2
            go_wp2_with (go_at_call 9; fail)
            refine hd2.out.mono ?_
            rintro e w4 ⟨v2, L2, rfl, hL2, hr2, D2, K2, s2⟩
            have HL2 := Lib.hid hL2
            have HR2 := Lib.hid hr2
            have HD2 := Lib.hid D2
            have S2 := Lib.hid s2
            have HR14 := Lib.hid (HR1.out.keepB (w' := w4) (fun g hg => K2 g (.inr hg)))
            clear hL2 hr2 D2 K2 s2 hd2
            have hd3 := Lib.hid (jAdv_duo HD2.out.swap C3.out (Int.le_trans C5.out HOR.out.1) HPn.out)
            unfold pt at hd3
            go_wp2_with (go_at_call 9; fail)
            refine hd3.out.mono ?_
            rintro e w5 ⟨v3, L3, rfl, hL3, hr3, D3, K3, s3⟩
            have hL3e : L3 = L1 ++ L2 := hL3.unique (HL1.out.append HL2.out C5.out HOR.out.1)
            subst hL3e
            have HR3 := Lib.hid hr3
            have HR15 := Lib.hid (HR14.out.keepB (w' := w5) (fun g hg => K3 g (.inl (.inr hg))))
            have HR25 := Lib.hid (HR2.out.keepB (w' := w5) (fun g hg => K3 g (.inr hg)))
            have HD3 := Lib.hid D3
            have S3 := Lib.hid s3
            have hlen1 : L1.length + L2.length ≤ 256 := by have := hL3.len; simpa using this
            have HN1 := Lib.hid hlen1
            clear hL3 hr3 D3 K3 s3 hd3 hlen1 HL1 HL2
            go_wp2_with (first | (at_builtin; refine wpList_unguard rfl ?_; refine wpList_append_ll rfl (.tmp 272) (.tmp 273) rfl rfl rfl HR15.out ?_ HR25.out ?_ ?_) | (go_at_call 19; fail))
            · have h1 := S1.out; have h2 := S2.out; have h3 := S3.out; omega
            · have := HN1.out; omega
            intro v' w6 hrow6 hf6 hnear6
            have hb1 : ∀ g, g ∈ v1.ownBlock.toList → v1.ownBlock = some g ∧ w2.heap.size ≤ g ∧ g < w3.heap.size := fun g hg => by
              have h : v1.ownBlock = some g := by simpa using hg
              exact ⟨h, HR1.out.lt g h⟩
            have HD6 := Lib.hid (HD3.out.write hf6 (fun g hg => ⟨.inl (.inl (.inr (hb1 g hg).1)), Nat.le_trans HD.out.below.size (hb1 g hg).2.1⟩))
            have HR36 := Lib.hid (HR3.out.fr hf6 (fun g hg hm => by have h1 := (HR3.out.lt g hg).1; have h2 := (hb1 g hm).2.2; have h3 := S2.out; omega))
            have hsm := Lib.hid (jsame_any hrow6 HR36.out (by have := HN1.out; simp only [List.length_append]; omega))
            clear hrow6 hf6 hnear6 hb1 HR15 HR25 HD3 HR14
            go_wp2_with (go_at_call 19; fail)
            refine hsm.out.mono ?_
            rintro e w7 ⟨rfl, n, rfl⟩
            obtain ⟨w8, hw8⟩ : ∃ w8, w6.drewN n = w8 := ⟨_, rfl⟩
            have HD8 : Hid (DuoJ w w8 _ c hi f a hi f (2 * k)) := Lib.hid (by rw [← hw8]; exact HD6.out.grown ((fr_drewN w6 n []).below (fun _ hx => by simp at hx) (Nat.le_refl _)))
            rw [hw8]
            clear hw8 hsm HD6 HR36
            have hq1 := Lib.hid (jNow_yes HD8.out.swap.left)
            have hq2 := Lib.hid (jNow_yes HD8.out.left)
            have hx1 := Lib.hid (jNext_yes HD8.out.swap.left)
            unfold pt at hq1 hq2 hx1
            go_wp2_with (go_at_call 12; fail)
            refine hq1.out.mono ?_
            rintro e wz ⟨rfl, rfl⟩
            go_wp2_with (go_at_call 12; fail)
            refine hq2.out.mono ?_
            rintro e wz ⟨rfl, rfl⟩
            go_wp2_with (go_at_call 11; fail)
            refine hx1.out.mono ?_
            rintro e w9 ⟨n1, rfl, hin1, hg9⟩
            have HD9 := Lib.hid (HD8.out.grown hg9.below)
            have HI1 := Lib.hid hin1
            clear hin1 hg9 hx1 hq1 hq2
            have hx2 := Lib.hid (jNext_yes HD9.out.left)
            unfold pt at hx2
            go_wp2_with (go_at_call 11; fail)
            refine hx2.out.mono ?_
            rintro e w10 ⟨n2, rfl, hin2, hg10⟩
            obtain rfl : n1 = n2 := HI1.out.unique hin2
            have HD10 := Lib.hid (HD9.out.grown hg10.below)
            clear hin2 hg10 hx2
            have hkn := Lib.hid (jknown_any w10 (hT.below HD10.out.below hT.lt))
            go_wp2_with (go_at_call 14; fail)
            refine hkn.out.mono ?_
            rintro e w99 ⟨rfl, hb9⟩
            have hfin := Lib.hid (HD10.out.below.trans (hb9.mono HD10.out.below.size))
            clear hb9
            go_wp2_with fail
            go_ret
            exact ⟨rfl, hfin.out⟩

theorem deadlineHolds_walk (now : Int) (sa : Option Addr) (len cap : Nat) (one two : Int) (w : World) (hn : (Lit.int .u64 now).wf = true) (hr : IsActs10 w sa len cap) (h1 : (Lit.int .u64 one).wf = true) (h2 : (Lit.int .u64 two).wf = true) (hT : Tab w) :
    Calls Tryd.prog 5 #[.int .u64 now, .slice sa len cap, .int .u64 one, .int .u64 two] w fun e w' => e = .returned (.bool true) ∧ Below w.heap.size w w' := by
  obtain ⟨hn0, hn1⟩ := bounds_u64 hn
  obtain ⟨ho0, ho1⟩ := bounds_u64 h1
  obtain ⟨ht0, ht1⟩ := bounds_u64 h2
  by_cases h : 80 < len ∨ now = never
  · exact holds_known hT h
  · have h3 : len ≤ 80 := by omega
    have h4 : now ≠ never := fun e => h (.inr e)
    exact holds_main h3 hn0 (by unfold never at *; omega) hr ⟨ho0, by unfold never at *; omega⟩ ⟨ht0, by unfold never at *; omega⟩ hT
end Go.Proofs.YtgkodleblkjhcaaDoor
