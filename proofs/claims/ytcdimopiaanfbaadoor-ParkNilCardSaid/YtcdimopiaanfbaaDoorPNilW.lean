/- The walk of ParkNil. -/
import Derived.Test.YtcdimopiaanfbaaDoorPKnown
namespace Go.Proofs.YtcdimopiaanfbaaDoor
open Go.RowKit Go.Sort
set_option linter.unusedVariables false
set_option linter.unusedSimpArgs false

set_option maxRecDepth 100000 in
set_option maxHeartbeats 12800000 in
theorem parkNil_walk (n : Int) (fd dir : Int) (w : World) (h1 : (Lit.int .i64 n).wf = true) (h2 : (Lit.int .i64 fd).wf = true) (h3 : (Lit.int .i64 dir).wf = true) (hmv : MvAt w) :
    Calls Tryd.prog 5 #[.int .i64 n, .agg #[.int .i64 fd, .int .i64 dir]] w fun e w' => e = .returned (.bool true) ∧ Below w.heap.size w w' := by
  clear h1 h2 h3
  obtain ⟨W, hW⟩ : ∃ W, ((w.alloc (.cells #[.int .i64 fd, .int .i64 dir] 38)).alloc (.cells #[.pointer none, .map none, .map none] 53)).alloc (.cells #[.pointer none, .pointer (some ⟨w.heap.size + 1, 0, none⟩)] 24) = W := ⟨_, rfl⟩
  have HWB : Hid (Below w.heap.size w W) := Lib.hid (by rw [← hW]; exact ((((Grn.refl w).alloc _).alloc _).alloc _).below)
  have HWS : Hid (W.heap.size = w.heap.size + 3) := Lib.hid (by rw [← hW]; simp)
  have HWX : Hid (W.heap[w.heap.size]? = some (.cells #[.int .i64 fd, .int .i64 dir] 38 (0, 0))) := Lib.hid (by rw [← hW]; exact ((below_alloc _ _).block _ (by simp; omega)).trans (((below_alloc _ _).block _ (by simp)).trans (block_new _ _ _ rfl)))
  have HW0 : Hid (W.heap[w.heap.size + 1]? = some (.cells #[.pointer none, .map none, .map none] 53 (0, 0))) := Lib.hid (by rw [← hW]; exact ((below_alloc _ _).block _ (by simp)).trans (block_new _ _ _ (by simp)))
  have HW1 : Hid (W.heap[w.heap.size + 2]? = some (.cells #[.pointer none, .pointer (some ⟨w.heap.size + 1, 0, none⟩)] 24 (0, 0))) := Lib.hid (by rw [← hW]; exact block_new _ _ _ (by simp))
  have HW := Lib.hid hW
  have HM := Lib.hid hmv
  clear hW hmv
  go_enter Tryd.func5, Tryd.ntmps5
  go_wp2_with fail
  rw [HW.out]
  generalize hz : w.heap.size = z at *
  have HZ := Lib.hid hz
  have hnq := neq_spot_same
  go_loopw [25] (fun i wr => ∃ k : Nat, k ≤ 2 ∧ i = .int .i64 (k : Nat) ∧ Hid (Below W.heap.size W wr)) (fun i _ => 2 - (intOf i).toNat)
  case atStart => exact ⟨0, by omega, rfl, Lib.hid (Below.refl _ _)⟩
  case round =>
    obtain ⟨k, hk, rfl, hb⟩ := hrel
    have hl1 : z + 2 < wr.heap.size := by have := hb.out.size; have := HWS.out; omega
    by_cases hlt : k < 2
    · have e1 := (hb.out.block (z + 2) (by have := HWS.out; omega)).trans HW1.out
      have e0 := (hb.out.block (z + 1) (by have := HWS.out; omega)).trans HW0.out
      have ex := (hb.out.block z (by have := HWS.out; omega)).trans HWX.out
      obtain ⟨p, hp, hn⟩ : ∃ p, wr.cell? ⟨z + 2, k, none⟩ = some (.pointer p) ∧ NoL wr (.pointer p) := by
        match k, hlt with
        | 0, _ => exact ⟨none, cells_cell e1 rfl, .inl rfl⟩
        | 1, _ => exact ⟨_, cells_cell e1 rfl, .inr ⟨z + 1, rfl, e0⟩⟩
      have hkI : ((k : Nat) : Int) < 2 := by omega
      have HNL : Hid (∀ W', Below wr.heap.size wr W' → NoL W' (.pointer p)) := Lib.hid (fun W' h => hn.grown h)
      have HX := Lib.hid ex
      have HB0 := Lib.hid (Below.refl wr.heap.size wr)
      clear e0 e1 ex hn
      have x0 := cells_cell (o := 0) HX.out rfl
      have x1 := cells_cell (o := 1) HX.out rfl
      have xl := lt_of_block HX.out
      go_wp2_with (go_at_call 16; fail)
      clear x0 x1 xl
      refine (pkWake_nil (HNL.out _ HB0.out) (fd, dir)).mono ?_
      rintro e v1 ⟨rfl, hg⟩
      have HX := Lib.hid (box_below hg.below HX.out)
      have HB1 := Lib.hid (HB0.out.trans (hg.below.mono HB0.out.size))
      clear hg HB0
      have x0 := cells_cell (o := 0) HX.out rfl
      have x1 := cells_cell (o := 1) HX.out rfl
      have xl := lt_of_block HX.out
      go_wp2_with (go_at_call 17; fail)
      clear x0 x1 xl
      refine (pkWakeAll_nil (HNL.out _ HB1.out) (fd, dir)).mono ?_
      rintro e v2 ⟨rfl, hg⟩
      have HX := Lib.hid (box_below hg.below HX.out)
      have HB2 := Lib.hid (HB1.out.trans (hg.below.mono HB1.out.size))
      clear hg HB1
      have x0 := cells_cell (o := 0) HX.out rfl
      have x1 := cells_cell (o := 1) HX.out rfl
      have xl := lt_of_block HX.out
      go_wp2_with (go_at_call 18; fail)
      clear x0 x1 xl
      refine (pkLeave_nil (HNL.out _ HB2.out) n).mono ?_
      rintro e v3 ⟨rfl, hg⟩
      have HX := Lib.hid (box_below hg.below HX.out)
      have HB3 := Lib.hid (HB2.out.trans (hg.below.mono HB2.out.size))
      clear hg HB2
      have x0 := cells_cell (o := 0) HX.out rfl
      have x1 := cells_cell (o := 1) HX.out rfl
      have xl := lt_of_block HX.out
      go_wp2_with (go_at_call 19; fail)
      clear x0 x1 xl
      have hba := below_alloc v3 (.cells #[.int .i64 0, .int .i64 0] 38)
      have HX := Lib.hid (box_below hba HX.out)
      have C := Lib.hid (block_new v3 (.cells #[.int .i64 0, .int .i64 0] 38) _ rfl)
      have HB4 := Lib.hid (HB3.out.trans (hba.mono HB3.out.size))
      clear hba HB3
      generalize v3.alloc (.cells #[.int .i64 0, .int .i64 0] 38) = u4 at *
      generalize v3.heap.size = y4 at *
      refine (pkWhere_nil (HNL.out _ HB4.out) n).mono ?_
      rintro e v5 ⟨rfl, hg⟩
      have HX := Lib.hid (box_below hg.below HX.out)
      have C := Lib.hid (box_below hg.below C.out)
      have HB5 := Lib.hid (HB4.out.trans (hg.below.mono HB4.out.size))
      clear hg HB4
      have x0 := cells_cell (o := 0) HX.out rfl
      have x1 := cells_cell (o := 1) HX.out rfl
      have xl := lt_of_block HX.out
      have C0 := cells_cell (o := 0) C.out rfl
      have C1 := cells_cell (o := 1) C.out rfl
      have Cl := lt_of_block C.out
      go_wp2_with (go_at_call 14; fail)
      clear x0 x1 xl C0 C1 Cl
      have hba := below_alloc v5 (.cells #[.int .i64 0, .int .i64 0] 38)
      have HX := Lib.hid (box_below hba HX.out)
      have C := Lib.hid (box_below hba C.out)
      have D := Lib.hid (block_new v5 (.cells #[.int .i64 0, .int .i64 0] 38) _ rfl)
      have HB6 := Lib.hid (HB5.out.trans (hba.mono HB5.out.size))
      clear hba HB5
      generalize v5.alloc (.cells #[.int .i64 0, .int .i64 0] 38) = u6 at *
      generalize v5.heap.size = y6 at *
      refine (pkWaiting_nil (HNL.out _ HB6.out) (fd, dir)).mono ?_
      rintro e v7 ⟨rfl, hg⟩
      have HX := Lib.hid (box_below hg.below HX.out)
      have C := Lib.hid (box_below hg.below C.out)
      have D := Lib.hid (box_below hg.below D.out)
      have HB7 := Lib.hid (HB6.out.trans (hg.below.mono HB6.out.size))
      clear hg HB6
      have x0 := cells_cell (o := 0) HX.out rfl
      have x1 := cells_cell (o := 1) HX.out rfl
      have xl := lt_of_block HX.out
      have C0 := cells_cell (o := 0) C.out rfl
      have C1 := cells_cell (o := 1) C.out rfl
      have Cl := lt_of_block C.out
      have D0 := cells_cell (o := 0) D.out rfl
      have D1 := cells_cell (o := 1) D.out rfl
      have Dl := lt_of_block D.out
      go_wp2_with (go_at_call 20; fail)
      clear x0 x1 xl C0 C1 Cl D0 D1 Dl
      refine (pkState_nil (HNL.out _ HB7.out) n).mono ?_
      rintro e v8 ⟨rfl, he⟩
      have he := he.symm
      subst he
      have x0 := cells_cell (o := 0) HX.out rfl
      have x1 := cells_cell (o := 1) HX.out rfl
      have xl := lt_of_block HX.out
      have C0 := cells_cell (o := 0) C.out rfl
      have C1 := cells_cell (o := 1) C.out rfl
      have Cl := lt_of_block C.out
      have D0 := cells_cell (o := 0) D.out rfl
      have D1 := cells_cell (o := 1) D.out rfl
      have Dl := lt_of_block D.out
      go_wp2_with (go_at_call 21; fail)
      clear x0 x1 xl C0 C1 Cl D0 D1 Dl
      refine (pkStart_nil (HNL.out _ HB7.out) n).mono ?_
      rintro e v8 ⟨rfl, he⟩
      have he := he.symm
      subst he
      have x0 := cells_cell (o := 0) HX.out rfl
      have x1 := cells_cell (o := 1) HX.out rfl
      have xl := lt_of_block HX.out
      have C0 := cells_cell (o := 0) C.out rfl
      have C1 := cells_cell (o := 1) C.out rfl
      have Cl := lt_of_block C.out
      have D0 := cells_cell (o := 0) D.out rfl
      have D1 := cells_cell (o := 1) D.out rfl
      have Dl := lt_of_block D.out
      go_wp2_with (go_at_call 22; fail)
      clear x0 x1 xl C0 C1 Cl D0 D1 Dl
      refine (pkFinish_nil (HNL.out _ HB7.out) n).mono ?_
      rintro e v8 ⟨rfl, he⟩
      have he := he.symm
      subst he
      have x0 := cells_cell (o := 0) HX.out rfl
      have x1 := cells_cell (o := 1) HX.out rfl
      have xl := lt_of_block HX.out
      have C0 := cells_cell (o := 0) C.out rfl
      have C1 := cells_cell (o := 1) C.out rfl
      have Cl := lt_of_block C.out
      have D0 := cells_cell (o := 0) D.out rfl
      have D1 := cells_cell (o := 1) D.out rfl
      have Dl := lt_of_block D.out
      go_wp2_with (go_at_call 23; fail)
      clear x0 x1 xl C0 C1 Cl D0 D1 Dl
      refine (pkTurn_nil (HNL.out _ HB7.out) n).mono ?_
      rintro e v8 ⟨rfl, he⟩
      have he := he.symm
      subst he
      have x0 := cells_cell (o := 0) HX.out rfl
      have x1 := cells_cell (o := 1) HX.out rfl
      have xl := lt_of_block HX.out
      have C0 := cells_cell (o := 0) C.out rfl
      have C1 := cells_cell (o := 1) C.out rfl
      have Cl := lt_of_block C.out
      have D0 := cells_cell (o := 0) D.out rfl
      have D1 := cells_cell (o := 1) D.out rfl
      have Dl := lt_of_block D.out
      go_wp2_with (go_at_call 24; fail)
      clear x0 x1 xl C0 C1 Cl D0 D1 Dl
      refine (pkPark_nil (HNL.out _ HB7.out) n (fd, dir)).mono ?_
      rintro e v8 ⟨rfl, hg⟩
      have HX := Lib.hid (box_below hg.below HX.out)
      have C := Lib.hid (box_below hg.below C.out)
      have D := Lib.hid (box_below hg.below D.out)
      have HB8 := Lib.hid (HB7.out.trans (hg.below.mono HB7.out.size))
      clear hg HB7
      have x0 := cells_cell (o := 0) HX.out rfl
      have x1 := cells_cell (o := 1) HX.out rfl
      have xl := lt_of_block HX.out
      have C0 := cells_cell (o := 0) C.out rfl
      have C1 := cells_cell (o := 1) C.out rfl
      have Cl := lt_of_block C.out
      have D0 := cells_cell (o := 0) D.out rfl
      have D1 := cells_cell (o := 1) D.out rfl
      have Dl := lt_of_block D.out
      go_wp2_with (go_at_call 13; fail)
      clear x0 x1 xl C0 C1 Cl D0 D1 Dl
      refine (pkReady_nil (HNL.out _ HB8.out) ).mono ?_
      rintro e v9 ⟨rfl, he⟩
      have he := he.symm
      subst he
      have x0 := cells_cell (o := 0) HX.out rfl
      have x1 := cells_cell (o := 1) HX.out rfl
      have xl := lt_of_block HX.out
      have C0 := cells_cell (o := 0) C.out rfl
      have C1 := cells_cell (o := 1) C.out rfl
      have Cl := lt_of_block C.out
      have D0 := cells_cell (o := 0) D.out rfl
      have D1 := cells_cell (o := 1) D.out rfl
      have Dl := lt_of_block D.out
      go_wp2_with (go_at_call 25; fail)
      clear x0 x1 xl C0 C1 Cl D0 D1 Dl
      refine (pkLen_nil (HNL.out _ HB8.out) ).mono ?_
      rintro e v9 ⟨rfl, he⟩
      have he := he.symm
      subst he
      have x0 := cells_cell (o := 0) HX.out rfl
      have x1 := cells_cell (o := 1) HX.out rfl
      have xl := lt_of_block HX.out
      have C0 := cells_cell (o := 0) C.out rfl
      have C1 := cells_cell (o := 1) C.out rfl
      have Cl := lt_of_block C.out
      have D0 := cells_cell (o := 0) D.out rfl
      have D1 := cells_cell (o := 1) D.out rfl
      have Dl := lt_of_block D.out
      go_wp2_with (go_at_call 26; fail)
      clear x0 x1 xl C0 C1 Cl D0 D1 Dl
      refine (pkCopy_nil (HNL.out _ HB8.out) ).mono ?_
      rintro e v9 ⟨rfl, he⟩
      have he := he.symm
      subst he
      go_wp2_with fail
      go_roundw
      case rel => exact ⟨k + 1, by omega, by go_num, Lib.hid (hb.out.trans (HB8.out.mono hb.out.size))⟩
      case measure => simp [intOf]; omega
    · obtain rfl : k = 2 := by omega
      have hwb : Below w.heap.size w W := by have h := HWB.out; first | exact h | (rw [HZ.out]; exact h)
      have hsz : w.heap.size ≤ W.heap.size := hwb.size
      have h0 := hwb.trans (hb.out.mono hsz)
      have hm : MvAt wr := HM.out.below h0 HM.out.lt
      have hkn := Lib.hid (known_any wr hm)
      have H0 := Lib.hid h0
      clear h0 hm hwb hsz hl1
      go_wp2_with (go_at_call 8; fail)
      refine hkn.out.mono ?_
      rintro e w2 ⟨rfl, hb2⟩
      go_wp2_with fail
      go_ret
      have h2 := H0.out.trans (hb2.mono H0.out.size)
      exact ⟨rfl, by first | exact h2 | (rw [← HZ.out]; exact h2)⟩
end Go.Proofs.YtcdimopiaanfbaaDoor
