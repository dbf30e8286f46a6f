/- PollerHolds: the walk, whole. -/
import Derived.Test.YtcjeckjmoponkaaGreatDoorUHo
import Derived.Test.YtcjeckjmoponkaaGreatDoorUHk
import Derived.Test.YtcjeckjmoponkaaGreatDoorUHe
namespace Go.Proofs.YtcjeckjmoponkaaGreatDoor
open Go.RowKit Go.Sort
set_option linter.unusedVariables false
theorem pollerHolds_walk (c nw : Int) (sa : Option Addr) (len cap : Nat) (w : World) (h1 : (Lit.int .i64 c).wf = true) (h2 : (Lit.int .u64 nw).wf = true) (hr : IsActs11 w sa len cap) (hL : MvAt w ∧ Dl.Tab w) :
    Calls Tryz.prog 7 #[.int .i64 c, .int .u64 nw, .slice sa len cap] w fun e w' => e = .returned (.bool true) ∧ Below w.heap.size w w' := by
  by_cases h : 70 < len ∨ c < 1 ∨ 64 < c ∨ nw = Dl.never
  · exact holds_known c nw sa len cap w hL h
  · obtain ⟨n, rfl⟩ : ∃ n : Nat, c = ((n : Nat) : Int) := ⟨c.toNat, by omega⟩
    have := (u64_of h2).2
    exact holds_main n len cap nw sa w hL (by omega) (by omega) (by omega) hr (by omega)
end Go.Proofs.YtcjeckjmoponkaaGreatDoor
