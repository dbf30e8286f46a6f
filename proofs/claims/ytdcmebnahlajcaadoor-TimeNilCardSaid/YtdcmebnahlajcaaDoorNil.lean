/- The walk of TimeNil. -/
import Derived.Test.YtdcmebnahlajcaaDoorKnown
import Derived.OpenShut
namespace Go.Proofs.YtdcmebnahlajcaaDoor
open Go.RowKit

set_option maxHeartbeats 1600000 in
theorem timeNil_walk (a k : Int) (w : World) (ha0 : 0 ≤ a) (ha : a ≤ 18446744073709551615) (hk0 : 0 ≤ k) (hk : k ≤ 18446744073709551615) (hv : Vars w) :
    Calls Tryd.prog 6 #[.int .u64 a, .int .u64 k] w fun e w' => e = .returned (.bool true) ∧ Below w.heap.size w w' := by
  go_enter Tryd.func6, Tryd.ntmps6
  go_wp2_with fail
  have hb : Below w.heap.size w ((w.alloc (Obj.cells #[.int .u64 0, .bool false] 56)).alloc (Obj.cells #[.pointer none, .pointer (some ⟨w.heap.size, 0, none⟩)] 40)) := ((Below.refl _ _).alloc (Nat.le_refl _) _).alloc (by simp) _
  have hv2 := hv.below hb
  go_loop [13] (fun i => ∃ k : Nat, k ≤ 2 ∧ i = .int .i64 k) (fun i => 2 - (intOf i).toNat)
  case atStart => exact ⟨0, by omega, rfl⟩
  case round =>
    obtain ⟨j, hj, rfl⟩ := hrel
    rcases (by omega : j = 0 ∨ j = 1 ∨ j = 2) with rfl | rfl | rfl
    · go_wp2_with go_in
      go_round
      case rel => exact ⟨1, by omega, by go_num⟩
      case measure => simp [intOf]
    · go_wp2_with go_in
      go_round
      case rel => exact ⟨2, by omega, by go_num⟩
      case measure => simp [intOf]
    · go_wp2_with (go_at_call 8; refine (known_any _ hv2).mono ?_; rintro e w3 ⟨rfl, hb3⟩)
      go_ret
      exact ⟨rfl, hb.trans (hb3.mono hb.size)⟩

theorem nil_walk (a k : Int) (w : World) (ha : (Lit.int .u64 a).wf = true) (hk : (Lit.int .u64 k).wf = true) (hv : Vars w) :
    Calls Tryd.prog 6 #[.int .u64 a, .int .u64 k] w fun e w' => e = .returned (.bool true) ∧ Below w.heap.size w w' :=
  timeNil_walk a k w (bounds_u64 ha).1 (bounds_u64 ha).2 (bounds_u64 hk).1 (bounds_u64 hk).2 hv
end Go.Proofs.YtdcmebnahlajcaaDoor
