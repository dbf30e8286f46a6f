/- What the calls of a lot answer, and what they make of it. -/
import Derived.Test.YtcdimopiaanfbaaDoorPPure
namespace Go.Proofs.YtcdimopiaanfbaaDoor
open Go.RowKit Go.Sort Go.MapKept
set_option linter.unusedVariables false
set_option linter.unusedSimpArgs false

instance (s : Sp) : Decidable (SpOk s) := inferInstanceAs (Decidable (0 ≤ s.1 ∧ s.1 ≤ 127 ∧ (s.2 = 0 ∨ s.2 = 1)))
/-- The number of a task, if there is one. -/
def numI (z : Zt) (N : Int) : Option Nat := if 0 ≤ N ∧ N < ((z.S.length : Nat) : Int) then some N.toNat else none
def seatOf (L : Seats) (i : Nat) : Option Sp := (L.find? fun x => decide (x.1 = i)).map Prod.snd
def stC (z : Zt) (N : Int) : Int × Int := match numI z N with
  | none => (0, 2)
  | some i => (z.S.getD i 0, 0)
def whC (z : Zt) (N : Int) : Sp × Int := match numI z N with
  | none => ((0, 0), 2)
  | some i => match seatOf z.L i with
    | none => ((0, 0), 8)
    | some s => (s, 0)
def stepC (c : Nat) (z : Zt) (N : Int) : Int × Zt := match numI z N with
  | none => (2, z)
  | some i => if z.S.getD i 0 = frOf c then (0, z.step i (tgOf c)) else (8, z)
def pkC (z : Zt) (N : Int) (s : Sp) : Int × Zt := match numI z N with
  | none => (2, z)
  | some i => if SpOk s then (if z.S.getD i 0 = 1 then (0, z.park i s) else (8, z)) else (2, z)
def lvC (z : Zt) (N : Int) : Sp × Int × Zt := if (whC z N).2 = 0 then ((whC z N).1, 0, z.leave N.toNat) else ((0, 0), (whC z N).2, z)
def waC (z : Zt) (s : Sp) : List Int × Int := if SpOk s then (cat (wt s z.L), 0) else ([], 2)
def wkC (z : Zt) (s : Sp) : Int × Int × Zt := if SpOk s then (match wt s z.L with
  | [] => (0, 9, z)
  | i :: _ => (((i : Nat) : Int), 0, z.leave i)) else (0, 2, z)
def wkaC (z : Zt) (s : Sp) : List Int × Int × Zt := if SpOk s then (cat (wt s z.L), 0, z.leaves (wt s z.L)) else ([], 2, z)

theorem numI_or (z : Zt) (N : Int) : (numI z N = none ∧ (N < 0 ∨ ((z.S.length : Nat) : Int) ≤ N)) ∨ ∃ i : Nat, N = ((i : Nat) : Int) ∧ i < z.S.length ∧ numI z N = some i := by
  unfold numI
  by_cases h : 0 ≤ N ∧ N < ((z.S.length : Nat) : Int)
  · exact .inr ⟨N.toNat, by omega, by omega, by rw [if_pos h]⟩
  · exact .inl ⟨by rw [if_neg h], by omega⟩
theorem numI_at {z : Zt} {i : Nat} (h : i < z.S.length) : numI z ((i : Nat) : Int) = some i := by
  unfold numI
  rw [if_pos (by omega)]
  simp
theorem seatOf_some {L : Seats} (h : (L.map Prod.fst).Nodup) {i : Nat} {s : Sp} : seatOf L i = some s ↔ (i, s) ∈ L := by
  induction L with
  | nil => simp [seatOf]
  | cons x r ih =>
    simp only [List.map_cons, List.nodup_cons] at h
    obtain ⟨j, t⟩ := x
    unfold seatOf
    rw [List.find?_cons]
    by_cases e : j = i
    · subst e
      simp only [decide_true, Option.map_some, Option.some.injEq, List.mem_cons, Prod.mk.injEq, true_and]
      constructor
      · rintro rfl; exact .inl rfl
      · rintro (h2 | h2)
        · exact h2.symm
        · exact absurd (show j ∈ r.map Prod.fst from List.mem_map.2 ⟨(j, s), h2, rfl⟩) h.1
    · have e2 : ¬ i = j := fun h => e h.symm
      simp only [e, decide_false, List.mem_cons, Prod.mk.injEq, e2, false_and, false_or]
      exact ih h.2
theorem seatOf_none {L : Seats} {i : Nat} : seatOf L i = none ↔ i ∉ L.map Prod.fst := by
  induction L with
  | nil => simp [seatOf]
  | cons x r ih =>
    obtain ⟨j, t⟩ := x
    unfold seatOf at ih ⊢
    rw [List.find?_cons]
    by_cases e : j = i
    · subst e; simp
    · have e2 : ¬ i = j := fun h => e h.symm
      simp only [e, decide_false, ih, List.map_cons, List.mem_cons, e2, false_or]
theorem seatOf_mem {L : Seats} {i : Nat} (h : i ∈ L.map Prod.fst) : ∃ s, seatOf L i = some s := by
  cases hs : seatOf L i with
  | some s => exact ⟨s, rfl⟩
  | none => exact absurd h (seatOf_none.1 hs)
theorem leaves_L (l : List Nat) : ∀ z : Zt, ∀ x, x ∈ (z.leaves l).L ↔ x ∈ z.L ∧ x.1 ∉ l := by
  induction l with
  | nil => intro z x; simp [Zt.leaves]
  | cons i r ih =>
    intro z x
    show x ∈ ((z.leave i).leaves r).L ↔ _
    rw [ih]
    show (x ∈ woL i z.L ∧ _) ↔ _
    rw [mem_woL]
    simp [and_assoc]
theorem leaves_append (z : Zt) (a b : List Nat) : z.leaves (a ++ b) = (z.leaves a).leaves b := by simp [Zt.leaves, List.foldl_append]
theorem leaves_len (l : List Nat) : ∀ z : Zt, (z.leaves l).S.length = z.S.length := by
  induction l with
  | nil => intro z; rfl
  | cons i r ih => intro z; show ((z.leave i).leaves r).S.length = _; rw [ih]; simp [Zt.leave]
end Go.Proofs.YtcdimopiaanfbaaDoor
