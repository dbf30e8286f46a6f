/- PollerHolds: what is out of its bounds. -/
import Derived.Test.YtcjeckjmoponkaaGreatDoorUKnown
namespace Go.Proofs.YtcjeckjmoponkaaGreatDoor
open Go.RowKit Go.Sort
set_option linter.unusedVariables false
set_option linter.unusedSimpArgs false
set_option maxRecDepth 100000 in
set_option maxHeartbeats 6400000 in
theorem holds_known (c nw : Int) (la : Option Addr) (N cap : Nat) (w : World) (hL : MvAt w ∧ Dl.Tab w) (h : 70 < N ∨ c < 1 ∨ 64 < c ∨ nw = Dl.never) :
    Calls Tryz.prog 7 #[.int .i64 c, .int .u64 nw, .slice la N cap] w fun e w' => e = .returned (.bool true) ∧ Below w.heap.size w w' := by
  have HK := Lib.hid (known_yes w hL.1 hL.2)
  clear hL
  by_cases c0 : 70 < N
  · have d0 : decide (70 < ((N : Nat) : Int)) = true := by simp; omega
    clear h
    go_enter Tryz.func7, Tryz.ntmps7
    go_wp2_with (go_at_call 8; fail)
    refine HK.out.mono ?_
    rintro e w1 ⟨rfl, hb⟩
    have HB := Lib.hid hb
    clear hb
    go_wp2_with fail
    go_ret
    exact ⟨rfl, HB.out⟩
  · have d0 : decide (70 < ((N : Nat) : Int)) = false := by simp; omega
    by_cases c1 : c < 1
    · have d1 : decide (c < 1) = true := by simpa using c1
      clear h
      go_enter Tryz.func7, Tryz.ntmps7
      go_wp2_with (go_at_call 8; fail)
      refine HK.out.mono ?_
      rintro e w1 ⟨rfl, hb⟩
      have HB := Lib.hid hb
      clear hb
      go_wp2_with fail
      go_ret
      exact ⟨rfl, HB.out⟩
    · have d1 : decide (c < 1) = false := by simpa using c1
      by_cases c2 : 64 < c
      · have d2 : decide (64 < c) = true := by simpa using c2
        clear h
        go_enter Tryz.func7, Tryz.ntmps7
        go_wp2_with (go_at_call 8; fail)
        refine HK.out.mono ?_
        rintro e w1 ⟨rfl, hb⟩
        have HB := Lib.hid hb
        clear hb
        go_wp2_with fail
        go_ret
        exact ⟨rfl, HB.out⟩
      · have d2 : decide (64 < c) = false := by simpa using c2
        have hn : nw = Dl.never := by omega
        unfold Dl.never at hn
        subst hn
        clear h
        go_enter Tryz.func7, Tryz.ntmps7
        go_wp2_with (go_at_call 8; fail)
        refine HK.out.mono ?_
        rintro e w1 ⟨rfl, hb⟩
        have HB := Lib.hid hb
        clear hb
        go_wp2_with fail
        go_ret
        exact ⟨rfl, HB.out⟩
end Go.Proofs.YtcjeckjmoponkaaGreatDoor
