/- The contracts of Min and of the reference's earliest time, over a row of times in memory. -/
import Derived.Test.YtdcmebnahlajcaaDoorParse
namespace Go.Proofs.YtdcmebnahlajcaaDoor
open Go.RowKit

theorem take_snoc (zs : List Int) (k : Nat) (h : k < zs.length) : zs.take (k + 1) = zs.take k ++ [zs[k]] := by
  rw [List.take_succ_eq_append_getElem h]

theorem minT_next (zs : List Int) (k : Nat) (h : k < zs.length) : minT (zs.take (k + 1)) = min (minT (zs.take k)) zs[k] := by
  rw [take_snoc zs k h, minT_snoc]

theorem minT_all (zs : List Int) (k : Nat) (h : k = zs.length) : minT (zs.take k) = minT zs := by
  rw [h, List.take_length]

set_option maxHeartbeats 800000 in
theorem min_row (b off len cap : Nat) (zs : List Int) (w : World) (hl : zs.length = len) (hm : len ≤ 9223372036854775807)
    (hc : ∀ i, i < len → w.cell? ⟨b, off + i, none⟩ = some (.int .u64 (zs.getD i 0))) :
    Calls Tryd.prog 13 #[.slice (some ⟨b, off, none⟩) len cap] w fun e w' => e = .returned (.int .u64 (minT zs)) ∧ w = w' := by
  have HC := Lib.hid hc
  have HL := Lib.hid hl
  clear hc hl
  go_enter Tryd.func13, Tryd.ntmps13
  go_wp2_with fail
  go_loop [3, 8] (fun f i => ∃ k : Nat, k ≤ len ∧ i = .int .i64 k ∧ f = .int .u64 (minT (zs.take k))) (fun _ i => len - (intOf i).toNat)
  case atStart => exact ⟨0, Nat.zero_le _, rfl, rfl⟩
  case round =>
    obtain ⟨k, hk, rfl, rfl⟩ := hrel
    by_cases hlt : k < len
    · have hcell := HC.out k hlt
      have hkz : k < zs.length := by rw [HL.out]; exact hlt
      have hn := Lib.hid (minT_next zs k hkz)
      go_wp2_with fail
      go_round
      case rel => exact ⟨k + 1, by omega, by go_num, by rw [hn.out]⟩
      case measure => simp [intOf]; omega
    · have hke := Lib.hid (minT_all zs k (by rw [HL.out]; omega))
      go_wp2_with fail
      go_ret
      exact ⟨by rw [← hke.out]; rfl, rfl⟩

set_option maxHeartbeats 800000 in
theorem min_nil (w : World) :
    Calls Tryd.prog 13 #[.slice none 0 0] w fun e w' => e = .returned (.int .u64 18446744073709551615) ∧ w = w' := by
  go_enter Tryd.func13, Tryd.ntmps13
  go_wp2_with fail
  go_loop [3, 8] (fun f i => i = .int .i64 0 ∧ f = .int .u64 18446744073709551615) (fun _ _ => 0)
  case atStart => exact ⟨rfl, rfl⟩
  case round =>
    obtain ⟨rfl, rfl⟩ := hrel
    go_wp2_with fail
    go_ret
    exact ⟨rfl, rfl⟩

set_option maxHeartbeats 800000 in
theorem rmin_row (b off len cap : Nat) (zs : List Int) (w : World) (hl : zs.length = len) (hm : len ≤ 9223372036854775807)
    (hc : ∀ i, i < len → w.cell? ⟨b, off + i, none⟩ = some (.int .u64 (zs.getD i 0))) :
    Calls Tryd.prog 14 #[.slice (some ⟨b, off, none⟩) len cap] w fun e w' => e = .returned (.int .u64 (minT zs)) ∧ w = w' := by
  have HC := Lib.hid hc
  have HL := Lib.hid hl
  clear hc hl
  go_enter Tryd.func14, Tryd.ntmps14
  go_wp2_with fail
  go_loop [3, 4] (fun f i => ∃ k : Nat, k ≤ len ∧ i = .int .i64 k ∧ f = .int .u64 (minT (zs.take k))) (fun _ i => len - (intOf i).toNat)
  case atStart => exact ⟨0, Nat.zero_le _, rfl, rfl⟩
  case round =>
    obtain ⟨k, hk, rfl, rfl⟩ := hrel
    by_cases hlt : k < len
    · have hcell := HC.out k hlt
      have hkz : k < zs.length := by rw [HL.out]; exact hlt
      have hn := Lib.hid (minT_next zs k hkz)
      by_cases hless : zs[k] < minT (zs.take k)
      · have hv : Hid (minT (zs.take (k + 1)) = zs[k]) := Lib.hid (by rw [hn.out]; omega)
        go_wp2_with fail
        go_round
        case rel => exact ⟨k + 1, by omega, by go_num, by rw [hv.out]⟩
        case measure => simp [intOf]; omega
      · have hv : Hid (minT (zs.take (k + 1)) = minT (zs.take k)) := Lib.hid (by rw [hn.out]; omega)
        go_wp2_with fail
        go_round
        case rel => exact ⟨k + 1, by omega, by go_num, by rw [hv.out]⟩
        case measure => simp [intOf]; omega
    · have hke := Lib.hid (minT_all zs k (by rw [HL.out]; omega))
      go_wp2_with fail
      go_ret
      exact ⟨by rw [← hke.out]; rfl, rfl⟩

set_option maxHeartbeats 800000 in
theorem rmin_nil (w : World) :
    Calls Tryd.prog 14 #[.slice none 0 0] w fun e w' => e = .returned (.int .u64 18446744073709551615) ∧ w = w' := by
  go_enter Tryd.func14, Tryd.ntmps14
  go_wp2_with fail
  go_loop [3, 4] (fun f i => i = .int .i64 0 ∧ f = .int .u64 18446744073709551615) (fun _ _ => 0)
  case atStart => exact ⟨rfl, rfl⟩
  case round =>
    obtain ⟨rfl, rfl⟩ := hrel
    go_wp2_with fail
    go_ret
    exact ⟨rfl, rfl⟩
end Go.Proofs.YtdcmebnahlajcaaDoor
