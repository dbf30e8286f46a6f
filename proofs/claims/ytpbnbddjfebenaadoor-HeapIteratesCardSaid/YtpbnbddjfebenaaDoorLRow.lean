/- Rows of numbers: their cells, their slices' form. -/
import Derived.Test.YtpbnbddjfebenaaDoorHClone
import Derived.WideShapes
namespace Go.Proofs.YtpbnbddjfebenaaDoor
open Go.RowKit Go.Sort
set_option linter.unusedVariables false
set_option linter.unusedSimpArgs false

theorem row_at {w : World} {base n cap g : Nat} {L : List Nat} (h : w.ownsRow base 3 1 (.slice (some ⟨g, 0, none⟩) n cap) n (L.map encN)) (j : Nat) (hj : j < L.length) : w.cell? ⟨g, j, none⟩ = some (encN (L.getD j 0)) := by
  have h1 : (L.map encN)[j]? = some (encN (L.getD j 0)) := by simp [List.getElem?_map, hj]
  have := row_cells h j _ h1
  rwa [Go.WideShapes.add_plain, Nat.zero_add] at this

theorem row_form {w : World} {base e size n : Nat} {v : Value} {xs : List Value} (h : w.ownsRow base e size v n xs) : ∃ a n c, v = .slice a n c := by
  rcases h.2 with ⟨hv, _⟩ | ⟨g, cap, cu, hv, _⟩
  · exact ⟨none, 0, 0, hv⟩
  · exact ⟨_, _, _, hv⟩

end Go.Proofs.YtpbnbddjfebenaaDoor
