/- The walk of StreamNone. -/
import Derived.Test.YteimjkmjofaieaaYKn
import Derived.Test.YteimjkmjofaieaaYSame
import Derived.Lib.SlBytesConst
namespace Go.Proofs.Yteimjkmjofaieaa
open Go.RowKit Go.Sort
set_option linter.unusedVariables false
set_option linter.unusedSimpArgs false

set_option maxRecDepth 100000 in
set_option maxHeartbeats 6400000 in
theorem streamNone_walk (w : World) (n : Int) : Calls Try.prog 5 #[.int .i64 n] w fun r w' => r = .returned (.bool true) ∧ Below w.heap.size w w' := by
  go_enter Try.func5, Try.ntmps5
  go_wp2_with fail
  generalize hW : World.alloc _ _ = W
  have HB : Hid (Below w.heap.size w W) := Lib.hid (by rw [← hW]; exact (below_alloc w _).trans ((below_alloc _ _).mono (by simp)))
  have HN : Hid (W.heap[w.heap.size]? = some (.cells #[.pointer none] 48 (0, 0))) := Lib.hid (by rw [← hW]; exact ((below_alloc _ _).block w.heap.size (by simp)).trans (heap_alloc_new w _))
  have HL : Hid (W.heap[w.heap.size + 1]? = some (.cells #[.pointer none, .pointer (some ⟨w.heap.size, 0, none⟩)] 25 (0, 0))) := Lib.hid (by rw [← hW]; exact block_new _ _ _ (by simp))
  clear hW
  go_loopw [19] (fun i wr => ∃ k : Nat, k ≤ 2 ∧ i = .int .i64 (k : Nat) ∧ Hid (Below W.heap.size W wr)) (fun i _ => 2 - (intOf i).toNat)
  case atStart => exact ⟨0, by omega, rfl, Lib.hid (Below.refl _ _)⟩
  case round =>
    obtain ⟨k, hk, rfl, HR⟩ := hrel
    by_cases hlt : k < 2
    · have hlk := (HR.out.block _ (lt_of_block HL.out)).trans HL.out
      have hv : ∃ v, wr.cell? ⟨w.heap.size + 1, k, none⟩ = some v ∧ NoS wr v := by
        rcases (by omega : k = 0 ∨ k = 1) with rfl | rfl
        · exact ⟨_, cells_cell hlk rfl, .inl rfl⟩
        · exact ⟨_, cells_cell hlk rfl, .inr ⟨_, rfl, (HR.out.block _ (lt_of_block HN.out)).trans HN.out⟩⟩
      obtain ⟨v, hv1, hv2⟩ := hv
      obtain ⟨pa, rfl⟩ : ∃ a, v = .pointer a := by rcases hv2 with h | ⟨q, h, _⟩ <;> exact ⟨_, h⟩
      have HV := Lib.hid hv2
      have hlt2 : (k : Int) < 2 := by omega
      clear hlk hv2
      have kc := Lib.run_convert_bytes_const (P := Try.prog) wr 29 5 #[.int .u8 97] 1 1 Try.underlying29 Try.underlying5
      have hb1 := below_alloc wr (.cells #[.int .u8 97] 5 (1, 2))
      have hb2 := below_alloc (wr.alloc (.cells #[.int .u8 97] 5 (1, 2))) (.cells #[.slice (some ⟨wr.heap.size, 0, none⟩) 1 1] 29)
      have hbs : Below wr.heap.size wr ((wr.alloc (.cells #[.int .u8 97] 5 (1, 2))).alloc (.cells #[.slice (some ⟨wr.heap.size, 0, none⟩) 1 1] 29)) := hb1.trans (hb2.mono (by simp))
      have hc0 : (wr.alloc (.cells #[.int .u8 97] 5 (1, 2))).cell? ⟨wr.heap.size, 0, none⟩ = some (.int .u8 97) := World.cell?_alloc_mark wr #[.int .u8 97] 5 (1, 2) 0
      have hsv : SrcV (wr.alloc (.cells #[.int .u8 97] 5 (1, 2))) (.slice (some ⟨wr.heap.size, 0, none⟩) 1 1) (([97] : List UInt8).map encB) := .inr ⟨_, 1, rfl, by simp, by unfold maxLen; omega, fun j u hu => by
        have hj : j = 0 := by have := (List.getElem?_eq_some_iff.1 hu).1; simp at this; omega
        subst hj
        simp at hu
        subst hu
        rw [Go.WideShapes.add_plain]
        exact hc0, fun _ => rfl⟩
      have hsv2 := hsv.grown hb2
      have hrows : RowsB ((wr.alloc (.cells #[.int .u8 97] 5 (1, 2))).alloc (.cells #[.slice (some ⟨wr.heap.size, 0, none⟩) 1 1] 29)) [.slice (some ⟨wr.heap.size, 0, none⟩) 1 1] [[97]] := ⟨by simp, fun i v p h1 h2 => by
        have hi : i = 0 := by have := (List.getElem?_eq_some_iff.1 h1).1; simp at this; omega
        subst hi
        simp at h1 h2
        subst h1 h2
        exact hsv2⟩
      have hs1 := src_one (wr.alloc (.cells #[.int .u8 97] 5 (1, 2))) 29 (.slice (some ⟨wr.heap.size, 0, none⟩) 1 1)
      have es1 : (wr.alloc (.cells #[.int .u8 97] 5 (1, 2))).heap.size = wr.heap.size + 1 := by simp
      rw [es1] at hs1
      have hnew := new_any hs1 hrows (by simp) (by simp)
      have hce : errC (full [[97]]).length ([[97]] : Parts).flatten.length = 0 := rfl
      rw [hce] at hnew
      have HNEW := Lib.hid hnew
      have HBS := Lib.hid hbs
      clear hb1 hb2 hbs hc0 hsv hsv2 hrows hnew hce hs1 es1
      go_wp2_with (go_at_call 19; fail)
      refine HNEW.out.mono ?_
      rintro r W3 ⟨u, rfl, hR, hb⟩
      obtain ⟨x1, x2, x3, x4, x5, x6, rfl⟩ := hR.shape
      have hb3 := HBS.out.trans (hb.mono HBS.out.size)
      have hb4 := below_alloc W3 (.cells #[.slice x1 x2 x3, .slice x4 x5 x6] 52)
      have hb5 := hb3.trans (hb4.mono hb3.size)
      have HV3 := Lib.hid (HV.out.grown hb5)
      have HR3 : Hid (Below W.heap.size W (W3.alloc (.cells #[.slice x1 x2 x3, .slice x4 x5 x6] 52))) := Lib.hid (HR.out.trans (hb5.mono HR.out.size))
      have HO := Lib.hid (hR.grown hb4)
      obtain ⟨W4, hW4⟩ : ∃ W4, W4 = W3.alloc (.cells #[.slice x1 x2 x3, .slice x4 x5 x6] 52) := ⟨_, rfl⟩
      have c0 : W4.cell? ⟨W3.heap.size, 0, none⟩ = some (.slice x1 x2 x3) := by rw [hW4]; exact cell_new _ _ _ _ _ _ rfl rfl
      have c1 : W4.cell? ⟨W3.heap.size, 1, none⟩ = some (.slice x4 x5 x6) := by rw [hW4]; exact cell_new _ _ _ _ _ _ rfl rfl
      rw [← hW4] at HV3 HR3 HO
      have HW4 := Lib.hid hW4.symm
      clear hb hb3 hb4 hb5 HV HR hR hv1 kc hW4
      go_upto_region 5 with fail
      rw [HW4.out]
      go_wp2_with (first
        | (go_at_call 20; refine (stProgress_no HV3.out).mono ?_; rintro r w1 ⟨rfl, rfl⟩)
        | (go_at_call 21; refine (stEnd_no HV3.out).mono ?_; rintro r w1 ⟨rfl, rfl⟩)
        | (go_at_call 22; refine (stCancel_no HV3.out).mono ?_; rintro r w1 ⟨rfl, rfl⟩)
        | (go_at_call 23; refine (stRead_no HV3.out n).mono ?_; rintro r w1 ⟨rfl, rfl⟩)
        | (go_at_call 24; fail))
      refine (stBegin_no HV3.out HO.out).mono ?_
      rintro r W5 ⟨rfl, hb⟩
      have HV5 := Lib.hid (HV3.out.grown hb)
      have HR5 : Hid (Below W.heap.size W W5) := Lib.hid (HR3.out.trans (hb.mono HR3.out.size))
      clear hb HV3 HR3 HO c0 c1
      go_wp2_with (first
        | (go_at_call 25; refine (stCloseW_no HV5.out n).mono ?_; rintro r w1 ⟨rfl, rfl⟩)
        | (go_at_call 26; refine (stCloseR_no HV5.out n).mono ?_; rintro r w1 ⟨rfl, rfl⟩)
        | (go_at_call 27; fail))
      refine (stState_no HV5.out).mono ?_
      rintro r W6 ⟨rfl, hb⟩
      have HV6 := Lib.hid (HV5.out.grown hb)
      have HR6 : Hid (Below W.heap.size W W6) := Lib.hid (HR5.out.trans (hb.mono HR5.out.size))
      clear hb HV5 HR5
      have hsm := sfSame_yes (w := W6) (r := Rw.mk 0 [] false [] 0 0 0) (SrcV.nil W6) (SrcV.nil W6) (SrcV.nil W6) (SrcV.nil W6)
      have HSM := Lib.hid hsm
      clear hsm
      unfold Rw.val at HSM ⊢
      go_wp2_with (go_at_call 18; fail)
      refine HSM.out.mono ?_
      rintro r W7 ⟨rfl, hb⟩
      have HV7 := Lib.hid (HV6.out.grown hb)
      have HR7 : Hid (Below W.heap.size W W7) := Lib.hid (HR6.out.trans (hb.mono HR6.out.size))
      clear hb HV6 HR6
      go_wp2_with (go_at_call 28; refine (stCopy_no HV7.out).mono ?_; rintro r w1 ⟨rfl, rfl⟩)
      go_roundw
      case rel => exact ⟨k + 1, by omega, by go_num, HR7⟩
      case measure => simp [intOf]; omega
    · obtain rfl : k = 2 := by omega
      go_wp2_with (go_at_call 9; fail)
      refine (known_any _).mono ?_
      rintro r w1 ⟨rfl, hb⟩
      go_wp2_with fail
      go_ret
      exact ⟨rfl, HB.out.trans ((HR.out.trans (hb.mono HR.out.size)).mono HB.out.size)⟩
end Go.Proofs.Yteimjkmjofaieaa
