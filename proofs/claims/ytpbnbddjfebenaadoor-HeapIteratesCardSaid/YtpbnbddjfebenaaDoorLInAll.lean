/- All, inside a law. -/
import Derived.Test.YtpbnbddjfebenaaDoorLAll
import Derived.Test.YtpbnbddjfebenaaDoorLIn
namespace Go.Proofs.YtpbnbddjfebenaaDoor
open Go.RowKit Go.Sort
set_option linter.unusedVariables false
set_option linter.unusedSimpArgs false

variable {w0 w : World} {G : Nat → Prop} {a : Nat} {S : List El} {P : Nat}

theorem all_in (H : HeapIn w0 G w a S P) : Calls Tryd.prog 8 #[pt a] w fun e w' => ∃ B Bs, e = .returned (seqV B) ∧ SeqIn Bs B (order S) w' ∧ (∀ k, k ∈ Bs → w.heap.size ≤ k ∧ k < w'.heap.size) ∧ Below w.heap.size w w' := by
  obtain ⟨h, ha, HA, h1, h2⟩ := H.ex
  have hp := all_any HA
  rwa [ptr_of ha] at hp
theorem allOf_in (H : HeapIn w0 G w a S P) (v : Value) (hv : w.ownsRow 0 3 1 v (order S).length ((order S).map encN)) :
    Calls Tryd.prog 14 #[pt a, v] w fun e W' => e = .returned (.bool true) ∧ Below w.heap.size w W' := by
  obtain ⟨h, ha, HA, h1, h2⟩ := H.ex
  have hp := allOf HA v hv
  rwa [ptr_of ha] at hp
end Go.Proofs.YtpbnbddjfebenaaDoor
