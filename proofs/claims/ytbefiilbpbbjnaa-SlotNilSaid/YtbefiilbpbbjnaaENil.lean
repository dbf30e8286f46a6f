/- The walk of SlotNil. -/
import Derived.Test.YtbefiilbpbbjnaaEKnown2
import Derived.Lib.QuietBelow
namespace Go.Proofs.Ytbefiilbpbbjnaa
open Go.RowKit Go.Sort
set_option linter.unusedVariables false
set_option linter.unusedSimpArgs false

set_option maxRecDepth 100000 in
set_option maxHeartbeats 6400000 in
theorem slotNil_walk (xn xg n : Int) (w : World) (h1 : (Lit.int .i64 xn).wf = true) (h2 : (Lit.int .i64 xg).wf = true) (h3 : (Lit.int .i64 n).wf = true) :
    Calls Try.prog 5 #[.agg #[.int .i64 xn, .int .i64 xg], .int .i64 n] w fun e w' => e = .returned (.bool true) ∧ Below w.heap.size w w' := by
  clear h1 h2 h3
  obtain ⟨W, hW⟩ : ∃ W, ((w.alloc (.cells #[.int .i64 xn, .int .i64 xg] 34)).alloc (.cells #[.slice none 0 0] 54)).alloc (.cells #[.pointer none, .pointer (some ⟨w.heap.size + 1, 0, none⟩)] 24) = W := ⟨_, rfl⟩
  have HWB : Hid (Below w.heap.size w W) := Lib.hid (by rw [← hW]; exact (((Grn.refl w).alloc _).alloc _ |>.alloc _).below)
  have HWS : Hid (W.heap.size = w.heap.size + 3) := Lib.hid (by rw [← hW]; simp)
  have HWX : Hid (W.heap[w.heap.size]? = some (.cells #[.int .i64 xn, .int .i64 xg] 34 (0, 0))) := Lib.hid (by rw [← hW]; exact (((Grn.refl _).alloc _).alloc _).below.block _ (by simp) |>.trans (block_new _ _ _ rfl))
  have HW0 : Hid (W.heap[w.heap.size + 1]? = some (.cells #[.slice none 0 0] 54 (0, 0))) := Lib.hid (by rw [← hW]; exact ((below_alloc _ _).block _ (by simp)).trans (block_new _ _ _ (by simp)))
  have HW1 : Hid (W.heap[w.heap.size + 2]? = some (.cells #[.pointer none, .pointer (some ⟨w.heap.size + 1, 0, none⟩)] 24 (0, 0))) := Lib.hid (by rw [← hW]; exact block_new _ _ _ (by simp))
  have HW := Lib.hid hW
  clear hW
  go_enter Try.func5, Try.ntmps5
  go_wp2_with fail
  rw [HW.out]
  generalize hz : w.heap.size = z at *
  have HZ := Lib.hid hz
  go_loopw [21] (fun i wr => ∃ k : Nat, k ≤ 2 ∧ i = .int .i64 (k : Nat) ∧ Hid (Below W.heap.size W wr)) (fun i _ => 2 - (intOf i).toNat)
  case atStart => exact ⟨0, by omega, rfl, Lib.hid (Below.refl _ _)⟩
  case round =>
    obtain ⟨k, hk, rfl, hb⟩ := hrel
    have hl1 : z + 2 < wr.heap.size := by have := hb.out.size; have := HWS.out; omega
    by_cases hlt : k < 2
    · have e1 := (hb.out.block (z + 2) (by have := HWS.out; omega)).trans HW1.out
      have e0 := (hb.out.block (z + 1) (by have := HWS.out; omega)).trans HW0.out
      have ex := (hb.out.block z (by have := HWS.out; omega)).trans HWX.out
      obtain ⟨p, hp, hn⟩ : ∃ p, wr.cell? ⟨z + 2, k, none⟩ = some (.pointer p) ∧ NoT wr (.pointer p) := by
        match k, hlt with
        | 0, _ => exact ⟨none, cells_cell e1 rfl, .inl rfl⟩
        | 1, _ => exact ⟨_, cells_cell e1 rfl, .inr ⟨z + 1, rfl, e0⟩⟩
      have HN := Lib.hid hn
      have HEX := Lib.hid ex
      have hkI : ((k : Nat) : Int) < 2 := by omega
      clear e0 e1 hn ex
      go_wp2_with (go_at_call 16; fail)
      refine (slOpen_nil HN.out n).mono ?_
      rintro e w2 ⟨rfl, hg⟩
      have hB2 := hg.alloc (.cells #[.int .i64 0, .int .i64 0] 34)
      have HA2 : Hid ((w2.alloc (.cells #[.int .i64 0, .int .i64 0] 34)).heap[w2.heap.size]? = some (.cells #[.int .i64 0, .int .i64 0] 34 (0, 0))) := Lib.hid (block_new _ _ _ rfl)
      have HG2 := Lib.hid hB2
      have hx2 := (hB2.below.block z (lt_of_block HEX.out)).trans HEX.out
      have x0 := cells_cell (o := 0) hx2 rfl
      have x1 : (w2.alloc (.cells #[.int .i64 0, .int .i64 0] 34)).cell? ⟨z, 1, none⟩ = some (.int .i64 xg) := cells_cell hx2 rfl
      have hzl := lt_of_block hx2
      have HX2 := Lib.hid hx2
      clear hg hB2 hx2
      go_wp2_with (go_at_call 19; fail)
      refine (slClose_bad (finds_nil (HN.out.grown HG2.out.below) xn xg) (by decide)).mono ?_
      rintro e w3 ⟨rfl, hg⟩
      have hx3 := (hg.below.block z (lt_of_block HX2.out)).trans HX2.out
      have HA3 := Lib.hid ((hg.below.block _ (lt_of_block HA2.out)).trans HA2.out)
      have HG3 := Lib.hid (HG2.out.trans hg)
      have x0 := cells_cell (o := 0) hx3 rfl
      have x1 : w3.cell? ⟨z, 1, none⟩ = some (.int .i64 xg) := cells_cell hx3 rfl
      have hzl := lt_of_block hx3
      have HX3 := Lib.hid hx3
      clear hg hx3 HX2 HA2 HG2
      go_wp2_with (go_at_call 20; fail)
      refine (slGet_bad (finds_nil (HN.out.grown HG3.out.below) xn xg) (by decide)).mono ?_
      rintro e w4 ⟨rfl, hg⟩
      have hx4 := (hg.below.block z (lt_of_block HX3.out)).trans HX3.out
      have HA4 := Lib.hid ((hg.below.block _ (lt_of_block HA3.out)).trans HA3.out)
      have HG4 := Lib.hid (HG3.out.trans hg)
      have HX4 := Lib.hid hx4
      clear hg hx4 HX3 HA3 HG3
      go_wp2_with (go_at_call 17; fail)
      refine (slAt_nil (HN.out.grown HG4.out.below) n).mono ?_
      rintro e w5 ⟨rfl, hg⟩
      obtain ⟨V, hV⟩ : ∃ V, w5.alloc (.cells #[.int .i64 0, .int .i64 0] 34) = V := ⟨_, rfl⟩
      have hg5 : Grn w4 V := by rw [← hV]; exact hg.alloc _
      have HB5 : Hid (V.heap[w5.heap.size]? = some (.cells #[.int .i64 0, .int .i64 0] 34 (0, 0))) := Lib.hid (by rw [← hV]; exact block_new _ _ _ rfl)
      have HX5 := Lib.hid ((hg5.below.block z (lt_of_block HX4.out)).trans HX4.out)
      have HA5 := Lib.hid ((hg5.below.block _ (lt_of_block HA4.out)).trans HA4.out)
      have HG5 := Lib.hid (HG4.out.trans hg5)
      have HN5 := Lib.hid (HN.out.grown HG5.out.below)
      have HV := Lib.hid hV
      clear hg hg5 HX4 HA4 HG4 hV x0 x1 hp
      go_wp2_with fail
      rw [HV.out]
      generalize w5.heap.size = b5 at *
      generalize w2.heap.size = b2 at *
      have X0 := cell_regrown (cells_cell (o := 0) (v := .int .i64 xn) HX5.out rfl)
      have X1 := cell_regrown (cells_cell (o := 1) (v := .int .i64 xg) HX5.out rfl)
      have A0 := cell_regrown (cells_cell (o := 0) (v := .int .i64 0) HA5.out rfl)
      have A1 := cell_regrown (cells_cell (o := 1) (v := .int .i64 0) HA5.out rfl)
      have B0 := cell_regrown (cells_cell (o := 0) (v := .int .i64 0) HB5.out rfl)
      have B1 := cell_regrown (cells_cell (o := 1) (v := .int .i64 0) HB5.out rfl)
      have hnt : ∀ d os, NoT (grow (redrawn V d) os) (.pointer p) := fun d os => HN5.out.grown (below_regrown V d os)
      have hfd : ∀ d os, Calls Try.prog 21 #[.int .i64 0, .int .i64 0] (grow (redrawn V d) os) fun e w' => e = .returned (.agg #[.int .i64 0, .int .i64 0]) ∧ Below (grow (redrawn V d) os).heap.size (grow (redrawn V d) os) w' := fun d os => (fd_any _ 0 0).mono fun e w' h => ⟨h.1, h.2.below⟩
      have hst : ∀ d os, Calls Try.prog 18 #[.pointer p, .agg #[.int .i64 xn, .int .i64 xg], .int .i64 n] (grow (redrawn V d) os) fun e w' => e = .returned (.int .i64 1) ∧ Below (grow (redrawn V d) os).heap.size (grow (redrawn V d) os) w' := fun d os => (slSet_bad (finds_nil (hnt d os) xn xg) (by decide) n).mono fun e w' h => ⟨h.1, h.2.below⟩
      have hln : ∀ d os, Calls Try.prog 12 #[.pointer p] (grow (redrawn V d) os) fun e w' => e = .returned (.int .i64 0) ∧ Below (grow (redrawn V d) os).heap.size (grow (redrawn V d) os) w' := fun d os => slLen_any (hnt d os).alls
      have hcp : ∀ d os, Calls Try.prog 22 #[.pointer p] (grow (redrawn V d) os) fun e w' => e = .returned (.pointer none) ∧ Below (grow (redrawn V d) os).heap.size (grow (redrawn V d) os) w' := fun d os => (slCopy_nil (hnt d os)).mono fun e w' h => ⟨h.1, by rw [h.2]; exact Below.refl _ _⟩
      have hal : ∀ d os, Calls Try.prog 14 #[.pointer p, .slice none 0 0] (grow (redrawn V d) os) fun e w' => e = .returned (.bool true) ∧ Below (grow (redrawn V d) os).heap.size (grow (redrawn V d) os) w' := fun d os => lawAll_any (hnt d os).alls (.inl ⟨rfl, rfl⟩)
      have HFD := Lib.hid hfd
      have HST := Lib.hid hst
      have HLN := Lib.hid hln
      have HCP := Lib.hid hcp
      have HAL := Lib.hid hal
      have hq := fun W => neq_fd_same W 0 0
      clear hnt hfd hst hln hcp hal hzl
      refine wp_region_quiet_below (by kernel_rfl) (by kernel_rfl) ?_
      repeat (go_big_quiet_step (first
        | (go_at_call 21; refine Calls.regrown_of (HFD.out _ _))
        | (go_at_call 18; refine Calls.regrown_of (HST.out _ _))
        | (go_at_call 12; refine Calls.regrown_of (HLN.out _ _))
        | (go_at_call 22; refine Calls.regrown_of (HCP.out _ _))
        | (go_at_call 14; refine Calls.regrown_of (HAL.out _ _))))
      refine wpQuiet_nil ?_
      intro _ hw'
      obtain ⟨⟨d, os⟩, hw''⟩ := hw'
      subst hw''
      simp only [Exit.then]
      go_at_K
      have HB6 := Lib.hid (hb.out.trans ((HG5.out.below.trans ((below_regrown V d os).mono HG5.out.below.size)).mono hb.out.size))
      clear hb X0 X1 A0 A1 B0 B1
      go_wp2_with fail
      go_roundw
      case rel => exact ⟨k + 1, by omega, by go_num, HB6⟩
      case measure => simp [intOf]; omega
    · obtain rfl : k = 2 := by omega
      go_wp2_with (go_at_call 8; refine (known_any wr).mono ?_; rintro e w2 ⟨rfl, hb2⟩)
      go_ret
      have h0 := hb.out.trans (hb2.mono hb.out.size)
      have hsz : w.heap.size ≤ W.heap.size := by have := HWS.out; have := HZ.out; omega
      have hwb : Below w.heap.size w W := by have h := HWB.out; first | exact h | (rw [HZ.out]; exact h)
      exact ⟨rfl, hwb.trans (h0.mono hsz)⟩
end Go.Proofs.Ytbefiilbpbbjnaa
