/- The walk of TimeSums. -/
import Derived.Test.YtdcmebnahlajcaaDoorSums
import Derived.Test.YtdcmebnahlajcaaDoorLaid
import Derived.OpenShut
namespace Go.Proofs.YtdcmebnahlajcaaDoor
open Go.RowKit
set_option linter.unusedVariables false

set_option maxHeartbeats 800000 in
theorem min_empty (a : Option Addr) (cap : Nat) (w : World) :
    (Calls Tryd.prog 13 #[.slice a 0 cap] w fun e w' => e = .returned (.int .u64 18446744073709551615) ∧ w = w') ∧
    (Calls Tryd.prog 14 #[.slice a 0 cap] w fun e w' => e = .returned (.int .u64 18446744073709551615) ∧ w = w') := by
  constructor
  · go_enter Tryd.func13, Tryd.ntmps13
    go_wp2_with fail
    go_loop [3, 8] (fun f i => i = .int .i64 0 ∧ f = .int .u64 18446744073709551615) (fun _ _ => 0)
    case atStart => exact ⟨rfl, rfl⟩
    case round =>
      obtain ⟨rfl, rfl⟩ := hrel
      go_wp2_with fail
      go_ret
      exact ⟨rfl, rfl⟩
  · go_enter Tryd.func14, Tryd.ntmps14
    go_wp2_with fail
    go_loop [3, 4] (fun f i => i = .int .i64 0 ∧ f = .int .u64 18446744073709551615) (fun _ _ => 0)
    case atStart => exact ⟨rfl, rfl⟩
    case round =>
      obtain ⟨rfl, rfl⟩ := hrel
      go_wp2_with fail
      go_ret
      exact ⟨rfl, rfl⟩

/-- Both earliest times of a row that came in are one number. -/
theorem min_both (a : Option Addr) (len cap : Nat) (zs : List Int) (w : World) (h : IsRow .u64 w a len cap zs) :
    ∃ m : Int, (Calls Tryd.prog 13 #[.slice a len cap] w fun e w' => e = .returned (.int .u64 m) ∧ w = w') ∧
      (Calls Tryd.prog 14 #[.slice a len cap] w fun e w' => e = .returned (.int .u64 m) ∧ w = w') := by
  by_cases h0 : len = 0
  · subst h0
    exact ⟨_, (min_empty a cap w).1, (min_empty a cap w).2⟩
  · rcases h with ⟨rfl, rfl, rfl, rfl⟩ | ⟨x, rfl, hl, hm, hz, hcell, hwz⟩
    · exact absurd rfl h0
    · unfold maxLen at hm
      obtain ⟨b, off, spot⟩ := x
      have hc := hcell 0 (by omega)
      have hspot : spot = none := by simpa [Addr.add] using World.cell?_spot hc
      subst hspot
      have hcs : ∀ i, i < len → w.cell? ⟨b, off + i, none⟩ = some (.int .u64 ((zs.take len).getD i 0)) := by
        intro i hi
        have := hcell i (by omega)
        rw [Lib.add_plain] at this
        rw [show (zs.take len).getD i 0 = zs.getD i 0 by simp [hi]]
        exact this
      exact ⟨_, min_row b off len cap (zs.take len) w (by simp; omega) (by omega) hcs, rmin_row b off len cap (zs.take len) w (by simp; omega) (by omega) hcs⟩

set_option maxHeartbeats 1600000 in
set_option maxRecDepth 100000 in
theorem sums_walk (a b k : Int) (sa : Option Addr) (len cap : Nat) (zs : List Int) (w : World) (ha : (Lit.int .u64 a).wf = true) (hb : (Lit.int .u64 b).wf = true) (hk : (Lit.int .u64 k).wf = true) (hr : IsRow .u64 w sa len cap zs) (hv : Vars w) :
    Calls Tryd.prog 3 #[.int .u64 a, .int .u64 b, .int .u64 k, .slice sa len cap] w fun e w' => e = .returned (.bool true) ∧ Below w.heap.size w w' := by
  obtain ⟨a0, a1⟩ := bounds_u64 ha
  obtain ⟨b0, b1⟩ := bounds_u64 hb
  obtain ⟨k0, k1⟩ := bounds_u64 hk
  obtain ⟨m, m1, m2⟩ := min_both sa len cap zs w hr
  have M1 := Lib.hid m1
  have M2 := Lib.hid m2
  clear ha hb hk hr m1 m2
  by_cases hl : 40 < len
  · go_enter Tryd.func3, Tryd.ntmps3
    go_wp2_with (first | (go_at_call 8; refine (known_any _ hv).mono ?_; rintro e w3 ⟨rfl, hb3⟩))
    go_ret
    exact ⟨rfl, hb3⟩
  · have q1 : (addT a k == addT a k) = true := beq_self_eq_true _
    have q2 : (subT a b == subT a b) = true := beq_self_eq_true _
    go_enter Tryd.func3, Tryd.ntmps3
    go_wp2_with (first
      | (go_at_call 8; refine (known_any _ hv).mono ?_; rintro e w3 ⟨rfl, hb3⟩)
      | (go_at_call 9; refine (add_any _ _ _ a0 a1 k0 k1).mono ?_; rintro e w' ⟨rfl, rfl⟩)
      | (go_at_call 10; refine (radd_any _ _ _ a0 a1 k0 k1).mono ?_; rintro e w' ⟨rfl, rfl⟩)
      | (go_at_call 11; refine (sub_any _ _ _ a0 a1 b0 b1).1.mono ?_; rintro e w' ⟨rfl, rfl⟩)
      | (go_at_call 12; refine (sub_any _ _ _ a0 a1 b0 b1).2.mono ?_; rintro e w' ⟨rfl, rfl⟩)
      | (go_at_call 13; refine M1.out.mono ?_; rintro e w' ⟨rfl, rfl⟩)
      | (go_at_call 14; refine M2.out.mono ?_; rintro e w' ⟨rfl, rfl⟩)
      | (go_at_call 15; refine (pass_any _ _ _ a1 b1).1.mono ?_; rintro e w' ⟨rfl, rfl⟩)
      | (go_at_call 16; refine (pass_any _ _ _ a1 b1).2.mono ?_; rintro e w' ⟨rfl, rfl⟩))
    go_ret
    exact ⟨rfl, hb3⟩
end Go.Proofs.YtdcmebnahlajcaaDoor
