/- The walk of FlowNil. -/
import Derived.Test.YtaallpbcgabdnaaXKn
namespace Go.Proofs.Ytaallpbcgabdnaa
open Go.RowKit Go.Sort
set_option linter.unusedVariables false
set_option linter.unusedSimpArgs false

set_option maxRecDepth 100000 in
set_option maxHeartbeats 6400000 in
theorem flowNil_walk (w : World) (n e : Int) (hn : I64 n) (he : I64 e) : Calls Try.prog 6 #[.int .i64 n, .int .i64 e] w fun r w' => r = .returned (.bool true) ∧ Below w.heap.size w w' := by
  clear hn he
  go_enter Try.func6, Try.ntmps6
  go_wp2_with fail
  generalize hW : World.alloc _ _ = W
  have HB : Hid (Below w.heap.size w W) := Lib.hid (by rw [← hW]; exact (below_alloc w _).trans ((below_alloc _ _).mono (by simp)))
  have HN : Hid (W.heap[w.heap.size]? = some (.cells #[.pointer none] 56 (0, 0))) := Lib.hid (by rw [← hW]; exact ((below_alloc _ _).block w.heap.size (by simp)).trans (heap_alloc_new w _))
  have HL : Hid (W.heap[w.heap.size + 1]? = some (.cells #[.pointer none, .pointer (some ⟨w.heap.size, 0, none⟩)] 25 (0, 0))) := Lib.hid (by rw [← hW]; exact block_new _ _ _ (by simp))
  clear hW
  go_loopw [19] (fun i wr => ∃ k : Nat, k ≤ 2 ∧ i = .int .i64 (k : Nat) ∧ Hid (Below W.heap.size W wr)) (fun i _ => 2 - (intOf i).toNat)
  case atStart => exact ⟨0, by omega, rfl, Lib.hid (Below.refl _ _)⟩
  case round =>
    obtain ⟨k, hk, rfl, HR⟩ := hrel
    by_cases hlt : k < 2
    · have hlk := (HR.out.block _ (lt_of_block HL.out)).trans HL.out
      have hv : ∃ v, wr.cell? ⟨w.heap.size + 1, k, none⟩ = some v ∧ NoF wr v := by
        rcases (by omega : k = 0 ∨ k = 1) with rfl | rfl
        · exact ⟨_, cells_cell hlk rfl, .inl rfl⟩
        · exact ⟨_, cells_cell hlk rfl, .inr ⟨_, rfl, (HR.out.block _ (lt_of_block HN.out)).trans HN.out⟩⟩
      obtain ⟨v, hv1, hv2⟩ := hv
      obtain ⟨pa, rfl⟩ : ∃ a, v = .pointer a := by rcases hv2 with h | ⟨q, h, _⟩ <;> exact ⟨_, h⟩
      have HV := Lib.hid hv2
      have hlt2 : (k : Int) < 2 := by omega
      clear hlk hv2
      go_wp2_with (first
        | (go_at_call 22; refine (flRead_no HV.out n).mono ?_; rintro r w1 ⟨rfl, rfl⟩)
        | (go_at_call 19; fail))
      have hbs := below_alloc wr (.cells #[.string ⟨#[97]⟩] 9)
      refine (of_any (Ps := [[97]]) (strs_made _ [[97]] (by simp) _ rfl 1 rfl) (by simp) (by simp)).mono ?_
      rintro r W3 ⟨u, rfl, hR, hb⟩
      have hb3 := hbs.trans (hb.mono hbs.size)
      have HV3 := Lib.hid (HV.out.grown hb3)
      have HR3 : Hid (Below W.heap.size W W3) := Lib.hid (HR.out.trans (hb3.mono HR.out.size))
      obtain ⟨x1, x2, x3, x4, x5, x6, rfl⟩ := hR.shape
      have HO := Lib.hid hR
      clear hb hb3 hbs HV HR hR hv1
      go_wp2_with (go_at_call 18; fail)
      refine (flWrite_no HV3.out HO.out).mono ?_
      rintro r W4 ⟨rfl, hb⟩
      have HV4 := Lib.hid (HV3.out.grown hb)
      have HR4 : Hid (Below W.heap.size W W4) := Lib.hid (HR3.out.trans (hb.mono HR3.out.size))
      clear hb HV3 HR3 HO
      go_wp2_with (first
        | (go_at_call 13; refine (flClosed_no HV4.out).mono ?_; rintro r w1 ⟨rfl, rfl⟩)
        | (go_at_call 21; refine (flCloseWrite_no HV4.out e).mono ?_; rintro r w1 ⟨rfl, rfl⟩)
        | (go_at_call 23; refine (flCloseRead_no HV4.out e).mono ?_; rintro r w1 ⟨rfl, rfl⟩)
        | (go_at_call 14; refine (flLen_no HV4.out).mono ?_; rintro r w1 ⟨rfl, rfl⟩)
        | (go_at_call 15; refine (flFree_no HV4.out).mono ?_; rintro r w1 ⟨rfl, rfl⟩)
        | (go_at_call 16; refine (flCap_no HV4.out).mono ?_; rintro r w1 ⟨rfl, rfl⟩)
        | (go_at_call 24; refine (flCopy_no HV4.out).mono ?_; rintro r w1 ⟨rfl, rfl⟩))
      go_roundw
      case rel => exact ⟨k + 1, by omega, by go_num, HR4⟩
      case measure => simp [intOf]; omega
    · obtain rfl : k = 2 := by omega
      go_wp2_with (go_at_call 9; fail)
      refine (known_any _).mono ?_
      rintro r w1 ⟨rfl, hb⟩
      go_wp2_with fail
      go_ret
      exact ⟨rfl, HB.out.trans ((HR.out.trans (hb.mono HR.out.size)).mono HB.out.size)⟩
end Go.Proofs.Ytaallpbcgabdnaa
