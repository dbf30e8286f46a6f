/- Len. -/
import Derived.Test.YteimjkmjofaieaaCLook
namespace Go.Proofs.Yteimjkmjofaieaa
open Go.RowKit Go.Sort
set_option linter.unusedVariables false
set_option linter.unusedSimpArgs false
set_option maxRecDepth 100000

set_option maxHeartbeats 400000 in
theorem len_any {w : World} {b : Nat} {v : Value} {Ps : Parts} (R : RopeAt w b v Ps) : Calls Try.prog 32 #[v] w fun e w' => e = .returned (.int .i64 (Ps.flatten.length : Nat)) ∧ Below w.heap.size w w' := by
  obtain ⟨vd, ve, rfl, hd, he⟩ := R.ex
  obtain ⟨da, dc, rfl, hd1, hd2⟩ := hd.form
  obtain ⟨fl, hfl⟩ : ∃ fl, fl = Ps.flatten.length := ⟨_, rfl⟩
  rw [← hfl] at hd1 ⊢
  clear hd he R hfl
  go_enter Try.func32, Try.ntmps32
  go_wp2_with fail
  go_ret
  exact ⟨rfl, below_alloc _ _⟩
end Go.Proofs.Yteimjkmjofaieaa
