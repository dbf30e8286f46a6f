/- Bounds of what New gives. -/
import Derived.Test.YtkdbkamjaaehfaaCNew
namespace Go.Proofs.Ytkdbkamjaaehfaa
open Go.RowKit Go.Sort
set_option linter.unusedVariables false
set_option linter.unusedSimpArgs false

theorem newP_len (Ps : Parts) : (newP Ps).length ≤ 1024 := by
  unfold newP
  rcases errC_or (full Ps).length Ps.flatten.length with h | h | ⟨h, h1, h2⟩
  · rw [if_neg (by rw [h]; decide)]; simp
  · rw [if_neg (by rw [h]; decide)]; simp
  · rw [if_pos h]; exact h1
theorem newP_size (Ps : Parts) : (newP Ps).flatten.length ≤ 65536 := by
  unfold newP
  rcases errC_or (full Ps).length Ps.flatten.length with h | h | ⟨h, h1, h2⟩
  · rw [if_neg (by rw [h]; decide)]; simp
  · rw [if_neg (by rw [h]; decide)]; simp
  · rw [if_pos h, full_flat]; exact h2
theorem newP_ne (Ps : Parts) : ∀ p ∈ newP Ps, p ≠ [] := by
  unfold newP
  split
  · exact full_ne Ps
  · simp
theorem errC_small (Ps : Parts) : -9223372036854775808 ≤ errC (full Ps).length Ps.flatten.length ∧ errC (full Ps).length Ps.flatten.length ≤ 9223372036854775807 := by
  rcases errC_or (full Ps).length Ps.flatten.length with h | h | ⟨h, _⟩ <;> rw [h] <;> decide

end Go.Proofs.Ytkdbkamjaaehfaa
