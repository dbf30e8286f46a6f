/- The lowest free handle; handles are different. -/
import Derived.Test.YtpbnbddjfebenaaDoorLIn
namespace Go.Proofs.YtpbnbddjfebenaaDoor
open Go.RowKit Go.Sort
set_option linter.unusedVariables false
set_option linter.unusedSimpArgs false

theorem low_ex (hs : List Nat) : ∃ l, l ∉ hs ∧ (∀ j, j < l → j ∈ hs) ∧ l ≤ hs.length := by
  have h1 : ∃ l, l ∉ hs ∧ l ≤ hs.length := by
    refine Classical.byContradiction fun hn => ?_
    have := List.Nodup.length_le_of_subset (List.nodup_range (n := hs.length + 1)) (l₂ := hs) (fun j hj => Classical.byContradiction fun hm => hn ⟨j, hm, by have := List.mem_range.1 hj; omega⟩)
    rw [List.length_range] at this
    omega
  obtain ⟨l, ⟨hl, hle⟩, hmin⟩ := exists_least h1
  exact ⟨l, hl, fun j hj => Classical.byContradiction fun hm => by have := hmin j ⟨hm, by omega⟩; omega, hle⟩
theorem low_not (hs : List Nat) : lowOf hs ∉ hs := by obtain ⟨l, h1, h2, _⟩ := low_ex hs; rw [lowOf_eq h1 h2]; exact h1
theorem low_le (hs : List Nat) : lowOf hs ≤ hs.length := by obtain ⟨l, h1, h2, h3⟩ := low_ex hs; rw [lowOf_eq h1 h2]; exact h3

theorem HeapIn.nodup {w0 w : World} {G : Nat → Prop} {a : Nat} {S : List El} {P : Nat} (H : HeapIn w0 G w a S P) : (hsOf S).Nodup := by
  obtain ⟨h, _, HA, _⟩ := H.ex
  obtain ⟨s, b, i⟩ := HA.ex
  exact i.keeps.nodup

end Go.Proofs.YtpbnbddjfebenaaDoor
