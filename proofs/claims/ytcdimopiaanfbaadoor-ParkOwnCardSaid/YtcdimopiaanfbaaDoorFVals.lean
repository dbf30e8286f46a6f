/- Rows of integers beside a table of tasks; tasks that are parked, counted. -/
import Derived.Test.YtcdimopiaanfbaaDoorFMem
import Derived.Test.YtcdimopiaanfbaaDoorGRange
namespace Go.Proofs.YtcdimopiaanfbaaDoor
open Go.RowKit Go.Sort
set_option linter.unusedVariables false
set_option linter.unusedSimpArgs false

theorem KAt.row_out {B b : Nat} {w : World} {l : Tl} {P : Ks} {Q : Qu} {g : Nat} {v : Value} {X : List Int} (h : KAt B w l P Q g) (hr : Row TI w b v X) : ∀ y, v.ownBlock = some y → y ∉ l.F ∧ y ≠ l.t ∧ y ≠ l.c ∧ y ≠ l.q ∧ y ≠ l.b ∧ y ≠ l.m := by
  rcases hr.2 with ⟨rfl, _⟩ | ⟨y, cap, cu, rfl, _, hh, _⟩
  · intro y hy; cases hy
  · intro y' hy
    cases hy
    have h1 := h.out hh (by decide) (by decide)
    have h2 := h1
    simp [Tl.F] at h2
    exact ⟨h1, ne_types hh h.t (by decide), h2.1, ne_types hh h.qa.q (by decide), h2.2.1, h2.2.2⟩
/-- A row outlives a call. -/
theorem KAt.row_keep {B b : Nat} {w w' : World} {l : Tl} {P : Ks} {Q : Qu} {g : Nat} {v : Value} {X : List Int} (h : KAt B w l P Q g) (hr : Row TI w b v X) (hf : Fr l.F w w') : Row TI w' b v X :=
  hr.fr hf (fun y hy => (h.row_out hr y hy).1)
/-- How many tasks are parked. -/
def cnt2 (P : Ks) : Nat := P.countP fun p => decide (p.s = 2)
section
variable {P : Ks} {Q : Qu} {n g : Nat} {p : Ck} {tg : Int}
theorem cnt2_step (hp : P[n]? = some p) (tg : Int) (g : Nat) : cnt2 (stepP P n tg g) = (cnt2 P - if p.s = 2 then 1 else 0) + if tg = 2 then 1 else 0 := by
  obtain ⟨hl, he⟩ := List.getElem?_eq_some_iff.1 hp
  unfold cnt2 stepP
  rw [List.countP_set hl, he]
  simp
theorem cnt2_pos (hp : P[n]? = some p) (hs : p.s = 2) : 0 < cnt2 P := by
  unfold cnt2
  exact List.countP_pos_iff.2 ⟨p, List.mem_of_getElem? hp, by simpa using hs⟩
theorem cnt2_new (n : Nat) : cnt2 (List.replicate n ⟨0, 0⟩) = 0 := by
  unfold cnt2
  rw [List.countP_eq_zero]
  intro p hp
  rw [(List.mem_replicate.1 hp).2]
  decide
theorem stepP_len (tg : Int) (g : Nat) : (stepP P n tg g).length = P.length := by simp [stepP]
/-- A task comes in at the end. -/
theorem stepQ_in (hR : Rk P Q) (hp : P[n]? = some p) (hs : p.s ≠ 1) : stepQ Q n 1 g = Q ++ [(g + 1, ((n : Nat) : Int))] := by
  unfold stepQ
  rw [hR.none hp hs]
  rfl
/-- The first task leaves. -/
theorem stepQ_first {t : Nat} {v : Int} (hR : Rk P ((t, v) :: Q)) (hi : Inc 0 ((t, v) :: Q)) : ∃ n, v = ((n : Nat) : Int) ∧ P[n]? = some ⟨1, t⟩ ∧ wo n ((t, v) :: Q) = Q := by
  obtain ⟨n, h1, h2⟩ := hR.qu (t, v) List.mem_cons_self
  simp only at h1 h2
  refine ⟨n, h1, h2, ?_⟩
  subst h1
  have : wo n ((t, ((n : Nat) : Int)) :: Q) = wo n Q := by unfold wo; rw [List.filter_cons]; simp
  rw [this]
  exact wo_same fun x hx e => by
    have h3 := hR.fun (List.mem_cons_of_mem _ hx) e h2
    have h4 : t = x.1 := (Ck.mk.inj h3).2
    have := (hi.2.mem hx).1
    omega
end
/-- A slice of integers that is written out. -/
theorem src_lit (w : World) (X : List Int) (cs : Array Value) (hc : cs.toList = X.map fun x => .int .i64 x) (hl : X.length ≤ 1000) : Src TI (w.alloc (.cells cs 3)) (.slice (some ⟨w.heap.size, 0, none⟩) X.length X.length) X := by
  refine .inr ⟨w.heap.size, 0, X.length, rfl, Nat.le_refl _, by unfold maxLen; omega, by simp, fun j x hx i u hu => ?_⟩
  have hi : i = 0 ∧ u = .int .i64 x := by
    match i with
    | 0 => simp [TI] at hu; exact ⟨rfl, hu.symm⟩
    | i + 1 => simp [TI] at hu
  obtain ⟨rfl, rfl⟩ := hi
  refine cell_new _ _ _ _ _ _ rfl ?_
  rw [← Array.getElem?_toList, hc]
  simp [TI, hx]

end Go.Proofs.YtcdimopiaanfbaaDoor
