/- The walk of PollerNil. -/
import Derived.Test.YtdbkbaealfcmoaaGreatDoorUKnown
namespace Go.Proofs.YtdbkbaealfcmoaaGreatDoor
open Go.RowKit Go.Sort
set_option linter.unusedVariables false
set_option linter.unusedSimpArgs false
set_option maxRecDepth 100000 in
set_option maxHeartbeats 25600000 in
theorem pollerNil_walk (n N K D tt : Int) (w : World) (h1 : (Lit.int .i64 n).wf = true) (h2 : (Lit.int .i64 N).wf = true) (h3 : (Lit.int .i64 K).wf = true) (h4 : (Lit.int .i64 D).wf = true) (h5 : (Lit.int .u64 tt).wf = true) (hL : MvAt w ∧ Dl.Tab w) :
    Calls Tryz.prog 5 #[.int .i64 n, .agg #[.int .i64 N, .int .i64 K], .int .i64 D, .int .u64 tt] w fun e w' => e = .returned (.bool true) ∧ Below w.heap.size w w' := by
  clear h1 h2 h3 h4 h5
  have al : ∀ (w : World) o, Below w.heap.size w (w.alloc o) := fun w o => below_alloc w o
  obtain ⟨W, hW⟩ : ∃ W, ((w.alloc (.cells #[.int .i64 N, .int .i64 K] 47)).alloc (.cells #[.pointer none, .pointer none, .pointer none, .slice none 0 0] 68)).alloc (.cells #[.pointer none, .pointer (some ⟨w.heap.size + 1, 0, none⟩)] 26) = W := ⟨_, rfl⟩
  have HWB : Hid (Below w.heap.size w W) := Lib.hid (by rw [← hW]; exact ((((Grn.refl w).alloc _).alloc _).alloc _).below)
  have HWS : Hid (W.heap.size = w.heap.size + 3) := Lib.hid (by rw [← hW]; simp)
  have HWX : Hid (W.heap[w.heap.size]? = some (.cells #[.int .i64 N, .int .i64 K] 47 (0, 0))) := Lib.hid (by rw [← hW]; exact ((al _ _).block _ (by simp; omega)).trans (((al _ _).block _ (by simp)).trans (block_new _ _ _ rfl)))
  have HW0 : Hid (W.heap[w.heap.size + 1]? = some (.cells #[.pointer none, .pointer none, .pointer none, .slice none 0 0] 68 (0, 0))) := Lib.hid (by rw [← hW]; exact ((al _ _).block _ (by simp)).trans (block_new _ _ _ (by simp)))
  have HW1 : Hid (W.heap[w.heap.size + 2]? = some (.cells #[.pointer none, .pointer (some ⟨w.heap.size + 1, 0, none⟩)] 26 (0, 0))) := Lib.hid (by rw [← hW]; exact block_new _ _ _ (by simp))
  have HW := Lib.hid hW
  have HM := Lib.hid hL
  clear hW hL al
  go_enter Tryz.func5, Tryz.ntmps5
  go_wp2_with fail
  rw [HW.out]
  obtain ⟨z, hz⟩ : ∃ z, z = w.heap.size := ⟨_, rfl⟩
  rw [← hz] at HWX HW0 HW1 HWS ⊢
  have HZ := Lib.hid hz
  clear hz HW
  go_loopw [32] (fun i wr => ∃ k : Nat, k ≤ 2 ∧ i = .int .i64 (k : Nat) ∧ Hid (Below W.heap.size W wr)) (fun i _ => 2 - (intOf i).toNat)
  case atStart => exact ⟨0, by omega, rfl, Lib.hid (Below.refl _ _)⟩
  case round =>
    obtain ⟨k, hk, rfl, hb⟩ := hrel
    have hl1 : z + 2 < wr.heap.size := by have := hb.out.size; have := HWS.out; omega
    by_cases hlt : k < 2
    · have e1 := (hb.out.block (z + 2) (by have := HWS.out; omega)).trans HW1.out
      have e0 := (hb.out.block (z + 1) (by have := HWS.out; omega)).trans HW0.out
      have ex := (hb.out.block z (by have := HWS.out; omega)).trans HWX.out
      obtain ⟨q, hq, hn⟩ : ∃ q, wr.cell? ⟨z + 2, k, none⟩ = some (.pointer q) ∧ NoU wr (.pointer q) := by
        match k, hlt with
        | 0, _ => exact ⟨none, cells_cell e1 rfl, .inl rfl⟩
        | 1, _ => exact ⟨_, cells_cell e1 rfl, .inr ⟨z + 1, rfl, e0⟩⟩
      have hkI : ((k : Nat) : Int) < 2 := by omega
      have HNL : Hid (∀ W', Below wr.heap.size wr W' → NoU W' (.pointer q)) := Lib.hid (fun W' h => hn.grown h)
      have HX := Lib.hid ex
      have HB := Lib.hid (Below.refl wr.heap.size wr)
      clear e0 e1 ex hn
      obtain ⟨x0, x1⟩ := two HX.out
      have HC := Lib.hid (poOpen_nil (HNL.out _ HB.out) n)
      go_wp2_with (go_at_call 13; fail)
      refine HC.out.mono ?_
      rintro e v1 ⟨rfl, hb2⟩
      have HB2 := Lib.hid (HB.out.trans (hb2.mono HB.out.size))
      have HX2 := Lib.hid ((hb2.block _ (lt_of_block HX.out)).trans HX.out)
      clear hb2 HC HB HX x0 x1
      have HB := HB2
      have HX := HX2
      clear HB2 HX2
      obtain ⟨v2, hW2, hg2, _, hb2⟩ := alloc1 v1 (.cells #[.int .i64 0, .int .i64 0] 47)
      have HW2 := Lib.hid hW2
      have HB2 := Lib.hid (HB.out.trans (hg2.below.mono HB.out.size))
      have HX2 := Lib.hid (grn_at hg2 HX.out)
      have HA := Lib.hid hb2
      clear hW2 hg2 hb2 HB HX
      have HB := HB2
      have HX := HX2
      clear HB2 HX2
      go_upto_region 6 with (fail)
      rw [HW2.out]
      obtain ⟨ba, hbl⟩ : ∃ b, b = v1.heap.size := ⟨_, rfl⟩
      rw [← hbl]
      rw [← hbl] at HA
      clear hbl HW2
      obtain ⟨x0, x1⟩ := two HX.out
      have HC := Lib.hid (poClose_nil (HNL.out _ HB.out) N K)
      go_wp2_with (go_at_call 15; fail)
      refine HC.out.mono ?_
      rintro e v3 ⟨rfl, hb2⟩
      have HB2 := Lib.hid (HB.out.trans (hb2.mono HB.out.size))
      have HX2 := Lib.hid ((hb2.block _ (lt_of_block HX.out)).trans HX.out)
      have HA2 := Lib.hid ((hb2.block _ (lt_of_block HA.out)).trans HA.out)
      clear hb2 HC HB HX x0 x1 HA
      have HB := HB2
      have HX := HX2
      clear HB2 HX2
      have HA := HA2
      clear HA2
      obtain ⟨x0, x1⟩ := two HX.out
      have HC := Lib.hid (poValue_nil (HNL.out _ HB.out) N K)
      go_wp2_with (go_at_call 18; fail)
      refine HC.out.mono ?_
      rintro e v4 ⟨rfl, hb2⟩
      have HB2 := Lib.hid (HB.out.trans (hb2.mono HB.out.size))
      have HX2 := Lib.hid ((hb2.block _ (lt_of_block HX.out)).trans HX.out)
      have HA2 := Lib.hid ((hb2.block _ (lt_of_block HA.out)).trans HA.out)
      clear hb2 HC HB HX x0 x1 HA
      have HB := HB2
      have HX := HX2
      clear HB2 HX2
      have HA := HA2
      clear HA2
      obtain ⟨x0, x1⟩ := two HX.out
      have HC := Lib.hid (poDeadline_nil (HNL.out _ HB.out) N K D tt)
      go_wp2_with (go_at_call 19; fail)
      refine HC.out.mono ?_
      rintro e v5 ⟨rfl, hb2⟩
      have HB2 := Lib.hid (HB.out.trans (hb2.mono HB.out.size))
      have HX2 := Lib.hid ((hb2.block _ (lt_of_block HX.out)).trans HX.out)
      have HA2 := Lib.hid ((hb2.block _ (lt_of_block HA.out)).trans HA.out)
      clear hb2 HC HB HX x0 x1 HA
      have HB := HB2
      have HX := HX2
      clear HB2 HX2
      have HA := HA2
      clear HA2
      obtain ⟨x0, x1⟩ := two HX.out
      clear x0 x1
      go_upto_region 9 with (fail)
      refine wp_region_mix (fun W' => W'.heap[ba]? = some (.cells #[.int .i64 0, .int .i64 0] 47 (0, 0))) 32 [(true, 0), (false, 1), (true, 2), (true, 3), (true, 4), (true, 5), (true, 6), (true, 7), (true, 8), (true, 9), (true, 10), (true, 11), (true, 12), (true, 13), (true, 14), (true, 15), (true, 16), (true, 17), (true, 18), (true, 19), (true, 20), (true, 21), (true, 22), (true, 23), (true, 24), (true, 25), (true, 26), (true, 27), (true, 28), (true, 29), (true, 30), (true, 31)] (by kernel_rfl) (by kernel_rfl) (fun _ _ _ d _ h => by cases d <;> exact h) ?_
      have HD : Hid (Below v5.heap.size v5 v5.drew) := Lib.hid ((Grn.refl v5).drew 1).below
      have HS : Hid (v5.drew.heap[ba]? = some (.cells #[.int .i64 0, .int .i64 0] 47 (0, 0))) := Lib.hid ((HD.out.block _ (lt_of_block HA.out)).trans HA.out)
      simp only [List.map_cons, List.map_nil, List.getD_cons_zero, List.getD_cons_succ, List.drop_succ_cons, List.drop_zero]
      generalize v5.drew = V at *
      have HB2 := Lib.hid (HB.out.trans (HD.out.mono HB.out.size))
      have HX2 := Lib.hid ((HD.out.block _ (lt_of_block HX.out)).trans HX.out)
      have HA2 := Lib.hid ((HD.out.block _ (lt_of_block HA.out)).trans HA.out)
      clear HB HX HA HD
      have HB := HB2
      have HX := HX2
      clear HB2 HX2
      have HA := HA2
      clear HA2
      refine mix_take (.agg #[(.int .i64 0), (.int .i64 0)]) HS.out rfl (fun W' hS => by
        have e1 := hS
        obtain ⟨l0, l1⟩ := two e1
        go_simp) ?_
      simp only [Act.put, List.setIfInBounds_toArray, List.set_cons_zero, List.set_cons_succ]
      refine mix_step rfl (fun K1 hK => ?_)
      go_simp
      go_wp2_with (go_at_call 14; fail)
      refine (fd_any V 0 0).mono ?_
      rintro e q1 ⟨rfl, hb2⟩
      have HB2 := Lib.hid (HB.out.trans (hb2.mono HB.out.size))
      have HX2 := Lib.hid ((hb2.block _ (lt_of_block HX.out)).trans HX.out)
      have HA2 := Lib.hid ((hb2.block _ (lt_of_block HA.out)).trans HA.out)
      clear hb2 HB HX HA
      have HB := HB2
      have HX := HX2
      clear HB2 HX2
      have HA := HA2
      clear HA2
      have HS1 := Lib.hid (HA.out)
      refine hK _ _ HS1.out ?_
      clear hK K1
      refine mix_take (.bool false) HS1.out rfl (fun W' hS => by
        have hq := Sl.neq_fd_same W' 0 0
        go_simp) ?_
      simp only [Act.put, List.setIfInBounds_toArray, List.set_cons_zero, List.set_cons_succ]
      refine mix_move (.tmp 64) (.bool false) rfl HS1.out rfl rfl ?_
      simp only [Act.put, List.setIfInBounds_toArray, List.set_cons_zero, List.set_cons_succ]
      refine mix_move (.tmp 13) (.int .i64 1) rfl HS1.out rfl rfl ?_
      simp only [Act.put, List.setIfInBounds_toArray, List.set_cons_zero, List.set_cons_succ]
      refine mix_take (.bool false) HS1.out rfl (fun W' hS => by
        go_simp) ?_
      simp only [Act.put, List.setIfInBounds_toArray, List.set_cons_zero, List.set_cons_succ]
      refine mix_take (.bool false) HS1.out rfl (fun W' hS => by go_simp) ?_
      simp only [Act.put, List.setIfInBounds_toArray, List.set_cons_zero, List.set_cons_succ]
      refine mix_move (.tmp 68) (.bool false) rfl HS1.out rfl rfl ?_
      simp only [Act.put, List.setIfInBounds_toArray, List.set_cons_zero, List.set_cons_succ]
      refine mix_move (.tmp 14) (.slice none 0 0) rfl HS1.out rfl rfl ?_
      simp only [Act.put, List.setIfInBounds_toArray, List.set_cons_zero, List.set_cons_succ]
      refine mix_take (.int .i64 0) HS1.out rfl (fun W' hS => by go_simp) ?_
      simp only [Act.put, List.setIfInBounds_toArray, List.set_cons_zero, List.set_cons_succ]
      refine mix_take (.bool false) HS1.out rfl (fun W' hS => by
        go_simp) ?_
      simp only [Act.put, List.setIfInBounds_toArray, List.set_cons_zero, List.set_cons_succ]
      refine mix_take (.bool false) HS1.out rfl (fun W' hS => by go_simp) ?_
      simp only [Act.put, List.setIfInBounds_toArray, List.set_cons_zero, List.set_cons_succ]
      refine mix_move (.tmp 73) (.bool false) rfl HS1.out rfl rfl ?_
      simp only [Act.put, List.setIfInBounds_toArray, List.set_cons_zero, List.set_cons_succ]
      refine mix_move (.tmp 15) (.int .i64 1) rfl HS1.out rfl rfl ?_
      simp only [Act.put, List.setIfInBounds_toArray, List.set_cons_zero, List.set_cons_succ]
      refine mix_take (.bool false) HS1.out rfl (fun W' hS => by
        go_simp) ?_
      simp only [Act.put, List.setIfInBounds_toArray, List.set_cons_zero, List.set_cons_succ]
      refine mix_take (.bool false) HS1.out rfl (fun W' hS => by go_simp) ?_
      simp only [Act.put, List.setIfInBounds_toArray, List.set_cons_zero, List.set_cons_succ]
      refine mix_move (.tmp 77) (.bool false) rfl HS1.out rfl rfl ?_
      simp only [Act.put, List.setIfInBounds_toArray, List.set_cons_zero, List.set_cons_succ]
      refine mix_move (.tmp 16) (.int .i64 0) rfl HS1.out rfl rfl ?_
      simp only [Act.put, List.setIfInBounds_toArray, List.set_cons_zero, List.set_cons_succ]
      refine mix_take (.bool false) HS1.out rfl (fun W' hS => by
        go_simp) ?_
      simp only [Act.put, List.setIfInBounds_toArray, List.set_cons_zero, List.set_cons_succ]
      refine mix_take (.bool false) HS1.out rfl (fun W' hS => by go_simp) ?_
      simp only [Act.put, List.setIfInBounds_toArray, List.set_cons_zero, List.set_cons_succ]
      refine mix_move (.tmp 81) (.bool false) rfl HS1.out rfl rfl ?_
      simp only [Act.put, List.setIfInBounds_toArray, List.set_cons_zero, List.set_cons_succ]
      refine mix_move (.tmp 17) (.int .i64 1) rfl HS1.out rfl rfl ?_
      simp only [Act.put, List.setIfInBounds_toArray, List.set_cons_zero, List.set_cons_succ]
      refine mix_take (.bool false) HS1.out rfl (fun W' hS => by
        go_simp) ?_
      simp only [Act.put, List.setIfInBounds_toArray, List.set_cons_zero, List.set_cons_succ]
      refine mix_take (.bool false) HS1.out rfl (fun W' hS => by go_simp) ?_
      simp only [Act.put, List.setIfInBounds_toArray, List.set_cons_zero, List.set_cons_succ]
      refine mix_move (.tmp 85) (.bool false) rfl HS1.out rfl rfl ?_
      simp only [Act.put, List.setIfInBounds_toArray, List.set_cons_zero, List.set_cons_succ]
      refine mix_move (.tmp 18) (.slice none 0 0) rfl HS1.out rfl rfl ?_
      simp only [Act.put, List.setIfInBounds_toArray, List.set_cons_zero, List.set_cons_succ]
      refine mix_take (.int .i64 0) HS1.out rfl (fun W' hS => by go_simp) ?_
      simp only [Act.put, List.setIfInBounds_toArray, List.set_cons_zero, List.set_cons_succ]
      refine mix_take (.bool false) HS1.out rfl (fun W' hS => by
        go_simp) ?_
      simp only [Act.put, List.setIfInBounds_toArray, List.set_cons_zero, List.set_cons_succ]
      refine mix_take (.bool false) HS1.out rfl (fun W' hS => by go_simp) ?_
      simp only [Act.put, List.setIfInBounds_toArray, List.set_cons_zero, List.set_cons_succ]
      refine mix_move (.tmp 90) (.bool false) rfl HS1.out rfl rfl ?_
      simp only [Act.put, List.setIfInBounds_toArray, List.set_cons_zero, List.set_cons_succ]
      refine mix_move (.tmp 19) (.int .i64 1) rfl HS1.out rfl rfl ?_
      simp only [Act.put, List.setIfInBounds_toArray, List.set_cons_zero, List.set_cons_succ]
      refine mix_take (.bool false) HS1.out rfl (fun W' hS => by
        go_simp) ?_
      simp only [Act.put, List.setIfInBounds_toArray, List.set_cons_zero, List.set_cons_succ]
      refine mix_nil ?_
      clear HA HS HS1
      obtain ⟨x0, x1⟩ := two HX.out
      have HC := Lib.hid (poSignal_nil (HNL.out _ HB.out) N K D)
      go_wp2_with (go_at_call 20; fail)
      refine HC.out.mono ?_
      rintro e v6 ⟨rfl, hb2⟩
      have HB2 := Lib.hid (HB.out.trans (hb2.mono HB.out.size))
      have HX2 := Lib.hid ((hb2.block _ (lt_of_block HX.out)).trans HX.out)
      clear hb2 HC HB HX x0 x1
      have HB := HB2
      have HX := HX2
      clear HB2 HX2
      obtain ⟨x0, x1⟩ := two HX.out
      have HC := Lib.hid (poSignalAll_nil (HNL.out _ HB.out) N K D)
      go_wp2_with (go_at_call 21; fail)
      refine HC.out.mono ?_
      rintro e v7 ⟨rfl, hb2⟩
      have HB2 := Lib.hid (HB.out.trans (hb2.mono HB.out.size))
      have HX2 := Lib.hid ((hb2.block _ (lt_of_block HX.out)).trans HX.out)
      clear hb2 HC HB HX x0 x1
      have HB := HB2
      have HX := HX2
      clear HB2 HX2
      obtain ⟨x0, x1⟩ := two HX.out
      have HC := Lib.hid (poAdvance_nil (HNL.out _ HB.out) tt)
      go_wp2_with (go_at_call 22; fail)
      refine HC.out.mono ?_
      rintro e v8 ⟨rfl, hb2⟩
      have HB2 := Lib.hid (HB.out.trans (hb2.mono HB.out.size))
      have HX2 := Lib.hid ((hb2.block _ (lt_of_block HX.out)).trans HX.out)
      clear hb2 HC HB HX x0 x1
      have HB := HB2
      have HX := HX2
      clear HB2 HX2
      obtain ⟨x0, x1⟩ := two HX.out
      have HC := Lib.hid (poReason_nil (HNL.out _ HB.out) n)
      go_wp2_with (go_at_call 23; fail)
      refine HC.out.mono ?_
      rintro e v9 ⟨rfl, hb2⟩
      have HB2 := Lib.hid (HB.out.trans (hb2.mono HB.out.size))
      have HX2 := Lib.hid ((hb2.block _ (lt_of_block HX.out)).trans HX.out)
      clear hb2 HC HB HX x0 x1
      have HB := HB2
      have HX := HX2
      clear HB2 HX2
      obtain ⟨x0, x1⟩ := two HX.out
      have HC := Lib.hid (poState_nil (HNL.out _ HB.out) n)
      go_wp2_with (go_at_call 24; fail)
      refine HC.out.mono ?_
      rintro e v10 ⟨rfl, hb2⟩
      have HB2 := Lib.hid (HB.out.trans (hb2.mono HB.out.size))
      have HX2 := Lib.hid ((hb2.block _ (lt_of_block HX.out)).trans HX.out)
      clear hb2 HC HB HX x0 x1
      have HB := HB2
      have HX := HX2
      clear HB2 HX2
      obtain ⟨x0, x1⟩ := two HX.out
      have HC := Lib.hid (poWhere_nil (HNL.out _ HB.out) n)
      go_wp2_with (go_at_call 25; fail)
      refine HC.out.mono ?_
      rintro e v11 ⟨rfl, hb2⟩
      have HB2 := Lib.hid (HB.out.trans (hb2.mono HB.out.size))
      have HX2 := Lib.hid ((hb2.block _ (lt_of_block HX.out)).trans HX.out)
      clear hb2 HC HB HX x0 x1
      have HB := HB2
      have HX := HX2
      clear HB2 HX2
      obtain ⟨v12, hW2, hg2, _, hb2⟩ := alloc1 v11 (.cells #[.int .i64 0, .int .i64 0] 47)
      have HW2 := Lib.hid hW2
      have HB2 := Lib.hid (HB.out.trans (hg2.below.mono HB.out.size))
      have HX2 := Lib.hid (grn_at hg2 HX.out)
      have HA := Lib.hid hb2
      clear hW2 hg2 hb2 HB HX
      have HB := HB2
      have HX := HX2
      clear HB2 HX2
      go_upto_region 19 with (fail)
      rw [HW2.out]
      obtain ⟨by_, hbl⟩ : ∃ b, b = v11.heap.size := ⟨_, rfl⟩
      rw [← hbl]
      rw [← hbl] at HA
      clear hbl HW2
      refine wp_region_mix (fun W' => W'.heap[by_]? = some (.cells #[.int .i64 0, .int .i64 0] 47 (0, 0)) ∧ W'.heap[z]? = some (.cells #[.int .i64 N, .int .i64 K] 47 (0, 0))) 51 [(true, 0), (true, 1), (true, 2), (true, 3), (true, 4), (true, 5), (true, 6), (true, 7), (false, 8), (true, 9), (true, 10), (true, 11), (true, 12), (true, 13), (true, 14), (true, 15), (true, 16), (true, 17), (true, 18), (true, 19), (true, 20), (true, 21), (true, 22), (false, 23), (true, 24), (true, 25), (true, 26), (true, 27), (true, 28), (true, 29), (true, 30), (false, 31), (true, 32), (true, 33), (true, 34), (true, 35), (true, 36), (false, 37), (true, 38), (true, 39), (true, 40), (true, 41), (true, 42), (false, 43), (true, 44), (true, 45), (true, 46), (true, 47), (true, 48), (false, 49), (true, 50)] (by kernel_rfl) (by kernel_rfl) (fun _ _ _ d _ h => by cases d <;> exact h) ?_
      have HD : Hid (Below v12.heap.size v12 v12.drew) := Lib.hid ((Grn.refl v12).drew 1).below
      have HS : Hid (v12.drew.heap[by_]? = some (.cells #[.int .i64 0, .int .i64 0] 47 (0, 0)) ∧ v12.drew.heap[z]? = some (.cells #[.int .i64 N, .int .i64 K] 47 (0, 0))) := Lib.hid ⟨(HD.out.block _ (lt_of_block HA.out)).trans HA.out, (HD.out.block _ (lt_of_block HX.out)).trans HX.out⟩
      simp only [List.map_cons, List.map_nil, List.getD_cons_zero, List.getD_cons_succ, List.drop_succ_cons, List.drop_zero]
      generalize v12.drew = V at *
      have HB2 := Lib.hid (HB.out.trans (HD.out.mono HB.out.size))
      have HX2 := Lib.hid ((HD.out.block _ (lt_of_block HX.out)).trans HX.out)
      have HA2 := Lib.hid ((HD.out.block _ (lt_of_block HA.out)).trans HA.out)
      clear HB HX HA HD
      have HB := HB2
      have HX := HX2
      clear HB2 HX2
      have HA := HA2
      clear HA2
      refine mix_move (.tmp 24) (.int .i64 0) rfl HS.out rfl rfl ?_
      simp only [Act.put, List.setIfInBounds_toArray, List.set_cons_zero, List.set_cons_succ]
      refine mix_take (.bool false) HS.out rfl (fun W' hS => by
        go_simp) ?_
      simp only [Act.put, List.setIfInBounds_toArray, List.set_cons_zero, List.set_cons_succ]
      refine mix_move (.tmp 167) (.bool false) rfl HS.out rfl rfl ?_
      simp only [Act.put, List.setIfInBounds_toArray, List.set_cons_zero, List.set_cons_succ]
      refine mix_move (.tmp 13) (.int .i64 1) rfl HS.out rfl rfl ?_
      simp only [Act.put, List.setIfInBounds_toArray, List.set_cons_zero, List.set_cons_succ]
      refine mix_take (.bool false) HS.out rfl (fun W' hS => by
        go_simp) ?_
      simp only [Act.put, List.setIfInBounds_toArray, List.set_cons_zero, List.set_cons_succ]
      refine mix_take (.bool false) HS.out rfl (fun W' hS => by go_simp) ?_
      simp only [Act.put, List.setIfInBounds_toArray, List.set_cons_zero, List.set_cons_succ]
      refine mix_move (.tmp 171) (.bool false) rfl HS.out rfl rfl ?_
      simp only [Act.put, List.setIfInBounds_toArray, List.set_cons_zero, List.set_cons_succ]
      refine mix_take (.agg #[(.int .i64 0), (.int .i64 0)]) HS.out rfl (fun W' hS => by
        have e1 := hS.1
        obtain ⟨l0, l1⟩ := two e1
        go_simp) ?_
      simp only [Act.put, List.setIfInBounds_toArray, List.set_cons_zero, List.set_cons_succ]
      refine mix_step rfl (fun K8 hK => ?_)
      go_simp
      go_wp2_with (go_at_call 14; fail)
      refine (fd_any V 0 0).mono ?_
      rintro e r1 ⟨rfl, hb2⟩
      have HB2 := Lib.hid (HB.out.trans (hb2.mono HB.out.size))
      have HX2 := Lib.hid ((hb2.block _ (lt_of_block HX.out)).trans HX.out)
      have HA2 := Lib.hid ((hb2.block _ (lt_of_block HA.out)).trans HA.out)
      clear hb2 HB HX HA
      have HB := HB2
      have HX := HX2
      clear HB2 HX2
      have HA := HA2
      clear HA2
      have HS1 := Lib.hid (And.intro HA.out HX.out)
      refine hK _ _ HS1.out ?_
      clear hK K8
      refine mix_take (.bool false) HS1.out rfl (fun W' hS => by
        have hq := Sl.neq_fd_same W' 0 0
        go_simp) ?_
      simp only [Act.put, List.setIfInBounds_toArray, List.set_cons_zero, List.set_cons_succ]
      refine mix_take (.bool false) HS1.out rfl (fun W' hS => by go_simp) ?_
      simp only [Act.put, List.setIfInBounds_toArray, List.set_cons_zero, List.set_cons_succ]
      refine mix_move (.tmp 176) (.bool false) rfl HS1.out rfl rfl ?_
      simp only [Act.put, List.setIfInBounds_toArray, List.set_cons_zero, List.set_cons_succ]
      refine mix_move (.tmp 26) (.int .i64 0) rfl HS1.out rfl rfl ?_
      simp only [Act.put, List.setIfInBounds_toArray, List.set_cons_zero, List.set_cons_succ]
      refine mix_take (.bool false) HS1.out rfl (fun W' hS => by
        go_simp) ?_
      simp only [Act.put, List.setIfInBounds_toArray, List.set_cons_zero, List.set_cons_succ]
      refine mix_take (.bool false) HS1.out rfl (fun W' hS => by go_simp) ?_
      simp only [Act.put, List.setIfInBounds_toArray, List.set_cons_zero, List.set_cons_succ]
      refine mix_move (.tmp 180) (.bool false) rfl HS1.out rfl rfl ?_
      simp only [Act.put, List.setIfInBounds_toArray, List.set_cons_zero, List.set_cons_succ]
      refine mix_move (.tmp 15) (.int .i64 1) rfl HS1.out rfl rfl ?_
      simp only [Act.put, List.setIfInBounds_toArray, List.set_cons_zero, List.set_cons_succ]
      refine mix_take (.bool false) HS1.out rfl (fun W' hS => by
        go_simp) ?_
      simp only [Act.put, List.setIfInBounds_toArray, List.set_cons_zero, List.set_cons_succ]
      refine mix_take (.bool false) HS1.out rfl (fun W' hS => by go_simp) ?_
      simp only [Act.put, List.setIfInBounds_toArray, List.set_cons_zero, List.set_cons_succ]
      refine mix_move (.tmp 184) (.bool false) rfl HS1.out rfl rfl ?_
      simp only [Act.put, List.setIfInBounds_toArray, List.set_cons_zero, List.set_cons_succ]
      refine mix_move (.tmp 11) (.pointer q) rfl HS1.out rfl rfl ?_
      simp only [Act.put, List.setIfInBounds_toArray, List.set_cons_zero, List.set_cons_succ]
      refine mix_take (.agg #[(.int .i64 N), (.int .i64 K)]) HS1.out rfl (fun W' hS => by
        have e1 := hS.2
        obtain ⟨l0, l1⟩ := two e1
        go_simp) ?_
      simp only [Act.put, List.setIfInBounds_toArray, List.set_cons_zero, List.set_cons_succ]
      refine mix_move (.tmp 2) (.int .i64 D) rfl HS1.out rfl rfl ?_
      simp only [Act.put, List.setIfInBounds_toArray, List.set_cons_zero, List.set_cons_succ]
      refine mix_step rfl (fun K23 hK => ?_)
      go_simp
      go_wp2_with (go_at_call 26; fail)
      refine (poCheck_nil (HNL.out _ HB.out) N K D).mono ?_
      rintro e r2 ⟨rfl, hb2⟩
      have HB2 := Lib.hid (HB.out.trans (hb2.mono HB.out.size))
      have HX2 := Lib.hid ((hb2.block _ (lt_of_block HX.out)).trans HX.out)
      have HA2 := Lib.hid ((hb2.block _ (lt_of_block HA.out)).trans HA.out)
      clear hb2 HB HX HA
      have HB := HB2
      have HX := HX2
      clear HB2 HX2
      have HA := HA2
      clear HA2
      have HS2 := Lib.hid (And.intro HA.out HX.out)
      refine hK _ _ HS2.out ?_
      clear hK K23
      refine mix_take (.bool false) HS2.out rfl (fun W' hS => by
        go_simp) ?_
      simp only [Act.put, List.setIfInBounds_toArray, List.set_cons_zero, List.set_cons_succ]
      refine mix_take (.bool false) HS2.out rfl (fun W' hS => by go_simp) ?_
      simp only [Act.put, List.setIfInBounds_toArray, List.set_cons_zero, List.set_cons_succ]
      refine mix_move (.tmp 191) (.bool false) rfl HS2.out rfl rfl ?_
      simp only [Act.put, List.setIfInBounds_toArray, List.set_cons_zero, List.set_cons_succ]
      refine mix_move (.tmp 11) (.pointer q) rfl HS2.out rfl rfl ?_
      simp only [Act.put, List.setIfInBounds_toArray, List.set_cons_zero, List.set_cons_succ]
      refine mix_move (.tmp 0) (.int .i64 n) rfl HS2.out rfl rfl ?_
      simp only [Act.put, List.setIfInBounds_toArray, List.set_cons_zero, List.set_cons_succ]
      refine mix_take (.agg #[(.int .i64 N), (.int .i64 K)]) HS2.out rfl (fun W' hS => by
        have e1 := hS.2
        obtain ⟨l0, l1⟩ := two e1
        go_simp) ?_
      simp only [Act.put, List.setIfInBounds_toArray, List.set_cons_zero, List.set_cons_succ]
      refine mix_move (.tmp 2) (.int .i64 D) rfl HS2.out rfl rfl ?_
      simp only [Act.put, List.setIfInBounds_toArray, List.set_cons_zero, List.set_cons_succ]
      refine mix_step rfl (fun K31 hK => ?_)
      go_simp
      go_wp2_with (go_at_call 27; fail)
      refine (poWait_nil (HNL.out _ HB.out) n N K D).mono ?_
      rintro e r3 ⟨rfl, hb2⟩
      have HB2 := Lib.hid (HB.out.trans (hb2.mono HB.out.size))
      have HX2 := Lib.hid ((hb2.block _ (lt_of_block HX.out)).trans HX.out)
      have HA2 := Lib.hid ((hb2.block _ (lt_of_block HA.out)).trans HA.out)
      clear hb2 HB HX HA
      have HB := HB2
      have HX := HX2
      clear HB2 HX2
      have HA := HA2
      clear HA2
      have HS3 := Lib.hid (And.intro HA.out HX.out)
      refine hK _ _ HS3.out ?_
      clear hK K31
      refine mix_take (.bool false) HS3.out rfl (fun W' hS => by
        go_simp) ?_
      simp only [Act.put, List.setIfInBounds_toArray, List.set_cons_zero, List.set_cons_succ]
      refine mix_take (.bool false) HS3.out rfl (fun W' hS => by go_simp) ?_
      simp only [Act.put, List.setIfInBounds_toArray, List.set_cons_zero, List.set_cons_succ]
      refine mix_move (.tmp 199) (.bool false) rfl HS3.out rfl rfl ?_
      simp only [Act.put, List.setIfInBounds_toArray, List.set_cons_zero, List.set_cons_succ]
      refine mix_move (.tmp 11) (.pointer q) rfl HS3.out rfl rfl ?_
      simp only [Act.put, List.setIfInBounds_toArray, List.set_cons_zero, List.set_cons_succ]
      refine mix_move (.tmp 0) (.int .i64 n) rfl HS3.out rfl rfl ?_
      simp only [Act.put, List.setIfInBounds_toArray, List.set_cons_zero, List.set_cons_succ]
      refine mix_step rfl (fun K37 hK => ?_)
      go_simp
      go_wp2_with (go_at_call 28; fail)
      refine (poStart_nil (HNL.out _ HB.out) n).mono ?_
      rintro e r4 ⟨rfl, hb2⟩
      have HB2 := Lib.hid (HB.out.trans (hb2.mono HB.out.size))
      have HX2 := Lib.hid ((hb2.block _ (lt_of_block HX.out)).trans HX.out)
      have HA2 := Lib.hid ((hb2.block _ (lt_of_block HA.out)).trans HA.out)
      clear hb2 HB HX HA
      have HB := HB2
      have HX := HX2
      clear HB2 HX2
      have HA := HA2
      clear HA2
      have HS4 := Lib.hid (And.intro HA.out HX.out)
      refine hK _ _ HS4.out ?_
      clear hK K37
      refine mix_take (.bool false) HS4.out rfl (fun W' hS => by
        go_simp) ?_
      simp only [Act.put, List.setIfInBounds_toArray, List.set_cons_zero, List.set_cons_succ]
      refine mix_take (.bool false) HS4.out rfl (fun W' hS => by go_simp) ?_
      simp only [Act.put, List.setIfInBounds_toArray, List.set_cons_zero, List.set_cons_succ]
      refine mix_move (.tmp 205) (.bool false) rfl HS4.out rfl rfl ?_
      simp only [Act.put, List.setIfInBounds_toArray, List.set_cons_zero, List.set_cons_succ]
      refine mix_move (.tmp 11) (.pointer q) rfl HS4.out rfl rfl ?_
      simp only [Act.put, List.setIfInBounds_toArray, List.set_cons_zero, List.set_cons_succ]
      refine mix_move (.tmp 0) (.int .i64 n) rfl HS4.out rfl rfl ?_
      simp only [Act.put, List.setIfInBounds_toArray, List.set_cons_zero, List.set_cons_succ]
      refine mix_step rfl (fun K43 hK => ?_)
      go_simp
      go_wp2_with (go_at_call 29; fail)
      refine (poFinish_nil (HNL.out _ HB.out) n).mono ?_
      rintro e r5 ⟨rfl, hb2⟩
      have HB2 := Lib.hid (HB.out.trans (hb2.mono HB.out.size))
      have HX2 := Lib.hid ((hb2.block _ (lt_of_block HX.out)).trans HX.out)
      have HA2 := Lib.hid ((hb2.block _ (lt_of_block HA.out)).trans HA.out)
      clear hb2 HB HX HA
      have HB := HB2
      have HX := HX2
      clear HB2 HX2
      have HA := HA2
      clear HA2
      have HS5 := Lib.hid (And.intro HA.out HX.out)
      refine hK _ _ HS5.out ?_
      clear hK K43
      refine mix_take (.bool false) HS5.out rfl (fun W' hS => by
        go_simp) ?_
      simp only [Act.put, List.setIfInBounds_toArray, List.set_cons_zero, List.set_cons_succ]
      refine mix_take (.bool false) HS5.out rfl (fun W' hS => by go_simp) ?_
      simp only [Act.put, List.setIfInBounds_toArray, List.set_cons_zero, List.set_cons_succ]
      refine mix_move (.tmp 211) (.bool false) rfl HS5.out rfl rfl ?_
      simp only [Act.put, List.setIfInBounds_toArray, List.set_cons_zero, List.set_cons_succ]
      refine mix_move (.tmp 11) (.pointer q) rfl HS5.out rfl rfl ?_
      simp only [Act.put, List.setIfInBounds_toArray, List.set_cons_zero, List.set_cons_succ]
      refine mix_move (.tmp 0) (.int .i64 n) rfl HS5.out rfl rfl ?_
      simp only [Act.put, List.setIfInBounds_toArray, List.set_cons_zero, List.set_cons_succ]
      refine mix_step rfl (fun K49 hK => ?_)
      go_simp
      go_wp2_with (go_at_call 30; fail)
      refine (poTurn_nil (HNL.out _ HB.out) n).mono ?_
      rintro e r6 ⟨rfl, hb2⟩
      have HB2 := Lib.hid (HB.out.trans (hb2.mono HB.out.size))
      have HX2 := Lib.hid ((hb2.block _ (lt_of_block HX.out)).trans HX.out)
      have HA2 := Lib.hid ((hb2.block _ (lt_of_block HA.out)).trans HA.out)
      clear hb2 HB HX HA
      have HB := HB2
      have HX := HX2
      clear HB2 HX2
      have HA := HA2
      clear HA2
      have HS6 := Lib.hid (And.intro HA.out HX.out)
      refine hK _ _ HS6.out ?_
      clear hK K49
      refine mix_take (.bool false) HS6.out rfl (fun W' hS => by
        go_simp) ?_
      simp only [Act.put, List.setIfInBounds_toArray, List.set_cons_zero, List.set_cons_succ]
      refine mix_nil ?_
      clear HA HS HS1 HS2 HS3 HS4 HS5 HS6
      obtain ⟨x0, x1⟩ := two HX.out
      have HC := Lib.hid (poReady_nil (HNL.out _ HB.out))
      go_wp2_with (go_at_call 31; fail)
      refine HC.out.mono ?_
      rintro e v13 ⟨rfl, hb2⟩
      have HB2 := Lib.hid (HB.out.trans (hb2.mono HB.out.size))
      have HX2 := Lib.hid ((hb2.block _ (lt_of_block HX.out)).trans HX.out)
      clear hb2 HC HB HX x0 x1
      have HB := HB2
      have HX := HX2
      clear HB2 HX2
      obtain ⟨x0, x1⟩ := two HX.out
      have HC := Lib.hid (poNow_nil (HNL.out _ HB.out))
      go_wp2_with (go_at_call 32; fail)
      refine HC.out.mono ?_
      rintro e v14 ⟨rfl, hb2⟩
      have HB2 := Lib.hid (HB.out.trans (hb2.mono HB.out.size))
      have HX2 := Lib.hid ((hb2.block _ (lt_of_block HX.out)).trans HX.out)
      clear hb2 HC HB HX x0 x1
      have HB := HB2
      have HX := HX2
      clear HB2 HX2
      obtain ⟨x0, x1⟩ := two HX.out
      have HC := Lib.hid (poNext_nil (HNL.out _ HB.out))
      go_wp2_with (go_at_call 33; fail)
      refine HC.out.mono ?_
      rintro e v15 ⟨rfl, hb2⟩
      have HB2 := Lib.hid (HB.out.trans (hb2.mono HB.out.size))
      have HX2 := Lib.hid ((hb2.block _ (lt_of_block HX.out)).trans HX.out)
      clear hb2 HC HB HX x0 x1
      have HB := HB2
      have HX := HX2
      clear HB2 HX2
      obtain ⟨x0, x1⟩ := two HX.out
      have HC := Lib.hid (poCopy_nil (HNL.out _ HB.out))
      go_wp2_with (go_at_call 34; fail)
      refine HC.out.mono ?_
      rintro e v16 ⟨rfl, hb2⟩
      have HB2 := Lib.hid (HB.out.trans (hb2.mono HB.out.size))
      have HX2 := Lib.hid ((hb2.block _ (lt_of_block HX.out)).trans HX.out)
      clear hb2 HC HB HX x0 x1
      have HB := HB2
      have HX := HX2
      clear HB2 HX2
      obtain ⟨x0, x1⟩ := two HX.out
      go_wp2_with fail
      go_roundw
      case rel => exact ⟨k + 1, by omega, by go_num, Lib.hid (hb.out.trans (HB.out.mono hb.out.size))⟩
      case measure => simp [intOf]; omega
    · obtain rfl : k = 2 := by omega
      have h0 : Below w.heap.size w wr := HWB.out.trans (hb.out.mono HWB.out.size)
      have hm : MvAt wr := HM.out.1.below h0 HM.out.1.lt
      have hkn := Lib.hid (known_yes wr hm (HM.out.2.below h0 HM.out.2.lt))
      have H0 := Lib.hid h0
      clear h0 hm hl1
      go_wp2_with (go_at_call 8; fail)
      refine hkn.out.mono ?_
      rintro e w2 ⟨rfl, hb2⟩
      have H2 := Lib.hid (H0.out.trans (hb2.mono H0.out.size))
      clear hb2
      go_wp2_with fail
      go_ret
      exact ⟨rfl, H2.out⟩
end Go.Proofs.YtdbkbaealfcmoaaGreatDoor
