/- What RopeHolds says, of lists. -/
import Derived.Test.YtkdbkamjaaehfaaCSmall
import Derived.Test.YtkdbkamjaaehfaaCCut
namespace Go.Proofs.Ytkdbkamjaaehfaa
open Go.RowKit Go.Sort
set_option linter.unusedVariables false
set_option linter.unusedSimpArgs false

theorem cut_count (t T : Nat) : ∀ (s : Nat) (A : Parts), (∀ p ∈ A, p ≠ []) → s + A.flatten.length ≤ T →
    A.length ≤ (cutP 0 t s A).length + (cutP t T s A).length ∧ (cutP 0 t s A).length + (cutP t T s A).length ≤ A.length + 1 ∧ (t ≤ s → (cutP 0 t s A).length + (cutP t T s A).length = A.length)
  | _, [], _, _ => by simp [cutP]
  | s, p :: r, hne, hT => by
    have hp : 0 < p.length := List.length_pos_iff.2 (hne p (by simp))
    rw [List.flatten_cons, List.length_append] at hT
    obtain ⟨h1, h2, h3⟩ := cut_count t T (s + p.length) r (fun q hq => hne q (by simp [hq])) (by omega)
    simp only [cutP, List.length_append, List.length_cons]
    by_cases c1 : t ≤ s
    · have := h3 (by omega)
      rw [if_neg (by omega), if_pos (by omega)]
      simp
      omega
    · by_cases c2 : s + p.length ≤ t
      · rw [if_pos (by omega), if_neg (by omega)]
        simp
        omega
      · have := h3 (by omega)
        rw [if_pos (by omega), if_pos (by omega)]
        simp
        omega
theorem newP_le (Ps : Parts) : (newP Ps).length ≤ Ps.length := by
  unfold newP
  split
  · exact full_len Ps
  · simp
theorem newP_of (Ps : Parts) (hne : ∀ p ∈ Ps, p ≠ []) (h1 : Ps.length ≤ 1024) (h2 : Ps.flatten.length ≤ 65536) : newP Ps = Ps ∧ errC (full Ps).length Ps.flatten.length = 0 := by
  have he : errC (full Ps).length Ps.flatten.length = 0 := by
    rw [full_of Ps hne]
    unfold errC
    rw [if_neg (by omega), if_neg (by omega)]
  refine ⟨?_, he⟩
  unfold newP
  rw [if_pos he, full_of Ps hne]
/-- All that the law says. -/
theorem holds_pure (C : Parts) (n1 n2 : Int) (hne : ∀ p ∈ C, p ≠ []) (hl : C.length ≤ 60) (hs : C.flatten.length ≤ 65536) (h1 : 0 ≤ n1) (h2 : 0 ≤ n2) :
    ∃ A1 A2 C1 C2 X1 X2, firstP n1.toNat C = A1 ∧ restP n1.toNat C = A2 ∧ firstP n2.toNat A2 = C1 ∧ restP n2.toNat A2 = C2 ∧ firstP (n1 + n2).toNat C = X1 ∧ restP (n1 + n2).toNat C = X2 ∧
      (newP (A1 ++ A2) = A1 ++ A2 ∧ errC (full (A1 ++ A2)).length (A1 ++ A2).flatten.length = 0) ∧ (newP (A1 ++ C1) = A1 ++ C1 ∧ errC (full (A1 ++ C1)).length (A1 ++ C1).flatten.length = 0) ∧
      (A1 ++ A2).flatten = C.flatten ∧ (A1 ++ C1).flatten = X1.flatten ∧ C2.flatten = X2.flatten ∧ A1.flatten.length = min n1.toNat C.flatten.length ∧
      ((A1 ++ A2).length = C.length ∨ (A1 ++ A2).length = C.length + 1) := by
  have e12 : (n1 + n2).toNat = n1.toNat + n2.toNat := by omega
  refine ⟨_, _, _, _, _, _, rfl, rfl, rfl, rfl, rfl, rfl, ?_⟩
  rw [e12]
  generalize n1.toNat = a
  generalize n2.toNat = b
  have f1 : (firstP a C ++ restP a C).flatten = C.flatten := by rw [List.flatten_append, firstP_flat, restP_flat, List.take_append_drop]
  have f2 : (firstP a C ++ firstP b (restP a C)).flatten = (firstP (a + b) C).flatten := by
    rw [List.flatten_append, firstP_flat, firstP_flat, firstP_flat, restP_flat, List.take_add]
  have hc := cut_count a C.flatten.length 0 C hne (by omega)
  have l1 : (firstP a C).length ≤ C.length := cutP_len _ _ _ _
  have l2 : (restP a C).length ≤ C.length := cutP_len _ _ _ _
  have l3 : (firstP b (restP a C)).length ≤ (restP a C).length := cutP_len _ _ _ _
  have s2 : (firstP a C ++ firstP b (restP a C)).flatten.length ≤ 65536 := by
    rw [f2, firstP_flat, List.length_take]; omega
  refine ⟨newP_of _ (fun p hp => ?_) (by rw [List.length_append]; omega) (by rw [f1]; exact hs), newP_of _ (fun p hp => ?_) (by rw [List.length_append]; omega) s2, f1, f2, ?_, ?_, ?_⟩
  · rcases List.mem_append.1 hp with h | h
    · exact cutP_ne _ _ _ _ p h
    · exact cutP_ne _ _ _ _ p h
  · rcases List.mem_append.1 hp with h | h
    · exact cutP_ne _ _ _ _ p h
    · exact cutP_ne _ _ _ _ p h
  · rw [restP_flat, restP_flat, restP_flat, List.drop_drop]
  · rw [firstP_flat, List.length_take]
  · rw [List.length_append]
    unfold firstP restP
    omega
end Go.Proofs.Ytkdbkamjaaehfaa
