/- PollerWakes, without any memory: all wait, all are woken. -/
import Derived.Test.YtcjeckjmoponkaaGreatDoorUQp
namespace Go.Proofs.YtcjeckjmoponkaaGreatDoor
open Go.RowKit Go.Sort
set_option linter.unusedVariables false
set_option linter.unusedSimpArgs false

theorem leaves_S (l : List Nat) : ∀ (z : Zt) (i : Nat), i < z.S.length → (z.leaves l).S[i]? = if i ∈ l then some 1 else z.S[i]? := by
  induction l with
  | nil => intro z i hi; simp [Zt.leaves]
  | cons j r ih =>
    intro z i hi
    have h1 : (z.leave j).S = z.S.set j 1 := rfl
    show ((z.leave j).leaves r).S[i]? = _
    rw [ih (z.leave j) i (by rw [h1]; simpa using hi), h1]
    by_cases hr : i ∈ r
    · simp [hr]
    · by_cases e : j = i
      · subst e; simp [hr, hi]
      · rw [List.getElem?_set_ne e]
        simp [hr, Ne.symm e]
theorem setR_at (l : List Int) (y : Int) : ∀ (R : List Int) (i : Nat), i < R.length → (setR R l y).getD i 0 = if (∃ j ∈ l, j.toNat = i) then y else R.getD i 0 := by
  induction l with
  | nil => intro R i hi; simp [setR]
  | cons j r ih =>
    intro R i hi
    show (setR (R.set j.toNat y) r y).getD i 0 = _
    rw [ih _ i (by simpa using hi)]
    by_cases hr : ∃ k ∈ r, k.toNat = i
    · rw [if_pos hr, if_pos (by obtain ⟨k, h1, h2⟩ := hr; exact ⟨k, List.mem_cons_of_mem _ h1, h2⟩)]
    · rw [if_neg hr]
      by_cases e : j.toNat = i
      · rw [if_pos ⟨j, List.mem_cons_self, e⟩]
        subst e
        simp [List.getD_eq_getElem?_getD, hi]
      · rw [if_neg (by rintro ⟨k, h1, h2⟩; rcases List.mem_cons.1 h1 with h3 | h3; exact e (h3 ▸ h2); exact hr ⟨k, h3, h2⟩)]
        simp [List.getD_eq_getElem?_getD, List.getElem?_set_ne e]
end Go.Proofs.YtcjeckjmoponkaaGreatDoor
