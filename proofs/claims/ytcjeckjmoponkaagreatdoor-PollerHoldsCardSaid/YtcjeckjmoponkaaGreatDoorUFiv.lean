/- Wait, Deadline, Close. -/
import Derived.Test.YtcjeckjmoponkaaGreatDoorUFou
import Derived.Test.YtcjeckjmoponkaaGreatDoorQCat
namespace Go.Proofs.YtcjeckjmoponkaaGreatDoor
open Go.RowKit Go.Sort
set_option linter.unusedVariables false
set_option linter.unusedSimpArgs false
section
variable {w0 w w' : World} {O : Nat → Prop} {p t g c d r rc : Nat} {l : Ll} {OL OD : Nat → Prop} {x : Px} {G P : Nat}
set_option maxRecDepth 100000 in
set_option maxHeartbeats 1600000 in
theorem poWait_task (h : UB w0 w O p t g c d r rc l OL OD x G P) {i N K D : Int} (hs : (stC x.z i).2 ≠ 0) : Calls Tryz.prog 27 #[.pointer (some ⟨p, 0, none⟩), .int .i64 i, .agg #[.int .i64 N, .int .i64 K], .int .i64 D] w fun e w' => e = .returned (.int .i64 (stC x.z i).2) ∧ Below w.heap.size w w' := by
  have HS0 : Hid (∀ V, UB w0 V O p t g c d r rc l OL OD x G P → Calls Tryz.prog 24 #[.pointer (some ⟨p, 0, none⟩), .int .i64 i] V fun e w' => e = .returned (.tuple #[.int .i64 (stC x.z i).1, .int .i64 (stC x.z i).2]) ∧ Below V.heap.size V w') := Lib.hid (fun V hV => poState_any hV i)
  have q7 : ((stC x.z i).2 != 0) = true := by simpa using hs
  clear hs
  obtain ⟨W, hW, hg, hs, hb0⟩ := alloc1 w (.cells #[.int .i64 N, .int .i64 K] 47)
  have HOL : Hid (∀ k, OL k → k < w.heap.size) := Lib.hid (fun k hk => (h.ol k hk).2.1)
  have H0 := Lib.hid h
  have HU := Lib.hid (h.grn hg)
  have HW := Lib.hid hW
  have HG := Lib.hid hg.below
  have HB := Lib.hid hb0
  clear h hg hs hb0 hW
  go_enter Tryz.func27, Tryz.ntmps27
  go_upto_region 1 with (fail)
  rw [HW.out]
  obtain ⟨b, hb⟩ : ∃ b, b = w.heap.size := ⟨_, rfl⟩
  rw [← hb]
  rw [← hb] at HB
  have Hb := Lib.hid hb
  clear hb HW
  have HS2 := Lib.hid (HS0.out W HU.out)
  go_wp2_with (go_at_call 24; fail)
  refine HS2.out.mono ?_
  rintro e V1 ⟨rfl, hb1⟩
  have HG1 := Lib.hid (HG.out.trans (hb1.mono HG.out.size))
  clear hb1
  go_wp2_with fail
  go_ret
  exact ⟨rfl, HG1.out⟩
set_option maxRecDepth 100000 in
set_option maxHeartbeats 1600000 in
theorem poWait_code (h : UB w0 w O p t g c d r rc l OL OD x G P) {i N K D : Int} (hs : (stC x.z i).2 = 0) (hc : x.code N K D ≠ 0) : Calls Tryz.prog 27 #[.pointer (some ⟨p, 0, none⟩), .int .i64 i, .agg #[.int .i64 N, .int .i64 K], .int .i64 D] w fun e w' => e = .returned (.int .i64 (x.code N K D)) ∧ Below w.heap.size w w' := by
  have HS0 : Hid (∀ V, UB w0 V O p t g c d r rc l OL OD x G P → Calls Tryz.prog 24 #[.pointer (some ⟨p, 0, none⟩), .int .i64 i] V fun e w' => e = .returned (.tuple #[.int .i64 (stC x.z i).1, .int .i64 (stC x.z i).2]) ∧ Below V.heap.size V w') := Lib.hid (fun V hV => poState_any hV i)
  rw [hs] at HS0
  have Hc := Lib.hid hc
  clear hs hc
  obtain ⟨W, hW, hg, hs, hb0⟩ := alloc1 w (.cells #[.int .i64 N, .int .i64 K] 47)
  have HOL : Hid (∀ k, OL k → k < w.heap.size) := Lib.hid (fun k hk => (h.ol k hk).2.1)
  have H0 := Lib.hid h
  have HU := Lib.hid (h.grn hg)
  have HW := Lib.hid hW
  have HG := Lib.hid hg.below
  have HB := Lib.hid hb0
  clear h hg hs hb0 hW
  go_enter Tryz.func27, Tryz.ntmps27
  go_upto_region 1 with (fail)
  rw [HW.out]
  obtain ⟨b, hb⟩ : ∃ b, b = w.heap.size := ⟨_, rfl⟩
  rw [← hb]
  rw [← hb] at HB
  have Hb := Lib.hid hb
  clear hb HW
  have HS2 := Lib.hid (HS0.out W HU.out)
  go_wp2_with (go_at_call 24; fail)
  refine HS2.out.mono ?_
  rintro e V1 ⟨rfl, hb1⟩
  have HG1 := Lib.hid (HG.out.trans (hb1.mono HG.out.size))
  have HU1 := Lib.hid (HU.out.grown hb1)
  have HB1 := Lib.hid ((hb1.block _ (lt_of_block HB.out)).trans HB.out)
  clear hb1 HU HB HG HS0 HS2
  have HF := Lib.hid (poFind_any HU1.out N K D)
  obtain ⟨f0, f1⟩ := two HB1.out
  have HWW : Hid (w.heap.size ≤ V1.heap.size) := Lib.hid HG1.out.size
  obtain ⟨sp1, hsp1⟩ : ∃ y, y = (fdS x N K D).1 := ⟨_, rfl⟩
  obtain ⟨sp2, hsp2⟩ : ∃ y, y = (fdS x N K D).2 := ⟨_, rfl⟩
  obtain ⟨code, hcode⟩ : ∃ y, y = x.code N K D := ⟨_, rfl⟩
  rw [← hsp1, ← hsp2, ← hcode] at HF
  rw [← hcode] at Hc
  have q0 : (code != 0) = true := by simpa using Hc.out
  have HCO := Lib.hid hcode
  clear hsp1 hsp2 hcode
  go_wp2_with (go_at_call 66; fail)
  refine HF.out.mono ?_
  rintro e w1 ⟨rfl, hg1⟩
  obtain ⟨W2, hW2, hg2, _, hb2⟩ := alloc1 w1 (.cells #[.int .i64 sp1, .int .i64 sp2] 132)
  have HW2 := Lib.hid hW2
  have HG2 : Hid (Below w.heap.size w W2) := Lib.hid (HG1.out.trans ((hg1.trans hg2).below.mono HG1.out.size))
  have HU2 := Lib.hid ((HU1.out.grn hg1).grn hg2)
  have HB2 := Lib.hid hb2
  have HBF := Lib.hid (grn_at (hg1.trans hg2) HB1.out)
  have HB2Q : Hid (V1.heap.size ≤ w1.heap.size) := Lib.hid hg1.below.size
  clear hW2 hg1 hg2 hb2 HF f0 f1 HU1 HB1 HG1
  go_upto_region 5 with (fail)
  rw [HW2.out]
  obtain ⟨b2, hb2⟩ : ∃ b, b = w1.heap.size := ⟨_, rfl⟩
  rw [← hb2]
  rw [← hb2] at HB2
  have HB2Z : Hid (w.heap.size ≤ b2) := Lib.hid (by rw [hb2]; exact Nat.le_trans HWW.out HB2Q.out)
  clear hb2 HW2
  go_wp2_with fail
  go_ret
  exact ⟨by rw [HCO.out]; rfl, HG2.out⟩
set_option maxRecDepth 100000 in
set_option maxHeartbeats 1600000 in
theorem poWait_state (h : UB w0 w O p t g c d r rc l OL OD x G P) {i N K D : Int} (hs : (stC x.z i).2 = 0) (hc : x.code N K D = 0) (hr : (stC x.z i).1 ≠ 1) : Calls Tryz.prog 27 #[.pointer (some ⟨p, 0, none⟩), .int .i64 i, .agg #[.int .i64 N, .int .i64 K], .int .i64 D] w fun e w' => e = .returned (.int .i64 8) ∧ Below w.heap.size w w' := by
  have HS0 : Hid (∀ V, UB w0 V O p t g c d r rc l OL OD x G P → Calls Tryz.prog 24 #[.pointer (some ⟨p, 0, none⟩), .int .i64 i] V fun e w' => e = .returned (.tuple #[.int .i64 (stC x.z i).1, .int .i64 (stC x.z i).2]) ∧ Below V.heap.size V w') := Lib.hid (fun V hV => poState_any hV i)
  rw [hs] at HS0
  have q8 : ((stC x.z i).1 != 1) = true := by simpa using hr
  have Hc := Lib.hid hc
  clear hs hc hr
  obtain ⟨W, hW, hg, hs, hb0⟩ := alloc1 w (.cells #[.int .i64 N, .int .i64 K] 47)
  have HOL : Hid (∀ k, OL k → k < w.heap.size) := Lib.hid (fun k hk => (h.ol k hk).2.1)
  have H0 := Lib.hid h
  have HU := Lib.hid (h.grn hg)
  have HW := Lib.hid hW
  have HG := Lib.hid hg.below
  have HB := Lib.hid hb0
  clear h hg hs hb0 hW
  go_enter Tryz.func27, Tryz.ntmps27
  go_upto_region 1 with (fail)
  rw [HW.out]
  obtain ⟨b, hb⟩ : ∃ b, b = w.heap.size := ⟨_, rfl⟩
  rw [← hb]
  rw [← hb] at HB
  have Hb := Lib.hid hb
  clear hb HW
  have HS2 := Lib.hid (HS0.out W HU.out)
  go_wp2_with (go_at_call 24; fail)
  refine HS2.out.mono ?_
  rintro e V1 ⟨rfl, hb1⟩
  have HG1 := Lib.hid (HG.out.trans (hb1.mono HG.out.size))
  have HU1 := Lib.hid (HU.out.grown hb1)
  have HB1 := Lib.hid ((hb1.block _ (lt_of_block HB.out)).trans HB.out)
  clear hb1 HU HB HG HS0 HS2
  have HF := Lib.hid (poFind_any HU1.out N K D)
  obtain ⟨f0, f1⟩ := two HB1.out
  have HWW : Hid (w.heap.size ≤ V1.heap.size) := Lib.hid HG1.out.size
  rw [show fdS x N K D = (N, D) by unfold fdS; rw [if_pos Hc.out], Hc.out] at HF
  go_wp2_with (go_at_call 66; fail)
  refine HF.out.mono ?_
  rintro e w1 ⟨rfl, hg1⟩
  obtain ⟨W2, hW2, hg2, _, hb2⟩ := alloc1 w1 (.cells #[.int .i64 N, .int .i64 D] 132)
  have HW2 := Lib.hid hW2
  have HG2 : Hid (Below w.heap.size w W2) := Lib.hid (HG1.out.trans ((hg1.trans hg2).below.mono HG1.out.size))
  have HU2 := Lib.hid ((HU1.out.grn hg1).grn hg2)
  have HB2 := Lib.hid hb2
  have HBF := Lib.hid (grn_at (hg1.trans hg2) HB1.out)
  have HB2Q : Hid (V1.heap.size ≤ w1.heap.size) := Lib.hid hg1.below.size
  clear hW2 hg1 hg2 hb2 HF f0 f1 HU1 HB1 HG1
  go_upto_region 5 with (fail)
  rw [HW2.out]
  obtain ⟨b2, hb2⟩ : ∃ b, b = w1.heap.size := ⟨_, rfl⟩
  rw [← hb2]
  rw [← hb2] at HB2
  have HB2Z : Hid (w.heap.size ≤ b2) := Lib.hid (by rw [hb2]; exact Nat.le_trans HWW.out HB2Q.out)
  clear hb2 HW2
  go_wp2_with fail
  go_ret
  exact ⟨rfl, HG2.out⟩
set_option maxRecDepth 100000 in
set_option maxHeartbeats 1600000 in
theorem poWait_late (h : UB w0 w O p t g c d r rc l OL OD x G P) {i N K D : Int} (hs : (stC x.z i).2 = 0) (hc : x.code N K D = 0) (hr : (stC x.z i).1 = 1) (ht : x.f (plI N D) ≤ x.now) : Calls Tryz.prog 27 #[.pointer (some ⟨p, 0, none⟩), .int .i64 i, .agg #[.int .i64 N, .int .i64 K], .int .i64 D] w fun e w' => e = .returned (.int .i64 12) ∧ Below w.heap.size w w' := by
  have HS0 : Hid (∀ V, UB w0 V O p t g c d r rc l OL OD x G P → Calls Tryz.prog 24 #[.pointer (some ⟨p, 0, none⟩), .int .i64 i] V fun e w' => e = .returned (.tuple #[.int .i64 (stC x.z i).1, .int .i64 (stC x.z i).2]) ∧ Below V.heap.size V w') := Lib.hid (fun V hV => poState_any hV i)
  rw [hs] at HS0
  rw [hr] at HS0
  obtain ⟨n, q, hN, hK, hq, ho, hD⟩ := Px.code_ok hc
  have Hc := Lib.hid hc
  have HA : Hid (∀ V, UB w0 V O p t g c d r rc l OL OD x G P → Calls Tryz.prog 73 #[.pointer (some ⟨p, 0, none⟩), .agg #[.int .i64 N, .int .i64 D]] V fun e w' => e = .returned (.int .i64 (if x.f (plI N D) ≤ x.now then 12 else 0)) ∧ Below V.heap.size V w') := Lib.hid (fun V hV => by
    have hn : n < 128 := by rw [← h.tl]; exact (List.getElem?_eq_some_iff.1 hq).1
    have := poAllowed_any hV hn hD
    rw [← hN] at this
    have e : plI N D = n * 2 + D.toNat := by unfold plI; rw [hN]; rfl
    rw [e]
    exact this)
  clear hN hK hq ho hD
  rw [if_pos ht] at HA
  clear hs hc hr ht
  obtain ⟨W, hW, hg, hs, hb0⟩ := alloc1 w (.cells #[.int .i64 N, .int .i64 K] 47)
  have HOL : Hid (∀ k, OL k → k < w.heap.size) := Lib.hid (fun k hk => (h.ol k hk).2.1)
  have H0 := Lib.hid h
  have HU := Lib.hid (h.grn hg)
  have HW := Lib.hid hW
  have HG := Lib.hid hg.below
  have HB := Lib.hid hb0
  clear h hg hs hb0 hW
  go_enter Tryz.func27, Tryz.ntmps27
  go_upto_region 1 with (fail)
  rw [HW.out]
  obtain ⟨b, hb⟩ : ∃ b, b = w.heap.size := ⟨_, rfl⟩
  rw [← hb]
  rw [← hb] at HB
  have Hb := Lib.hid hb
  clear hb HW
  have HS2 := Lib.hid (HS0.out W HU.out)
  go_wp2_with (go_at_call 24; fail)
  refine HS2.out.mono ?_
  rintro e V1 ⟨rfl, hb1⟩
  have HG1 := Lib.hid (HG.out.trans (hb1.mono HG.out.size))
  have HU1 := Lib.hid (HU.out.grown hb1)
  have HB1 := Lib.hid ((hb1.block _ (lt_of_block HB.out)).trans HB.out)
  clear hb1 HU HB HG HS0 HS2
  have HF := Lib.hid (poFind_any HU1.out N K D)
  obtain ⟨f0, f1⟩ := two HB1.out
  have HWW : Hid (w.heap.size ≤ V1.heap.size) := Lib.hid HG1.out.size
  rw [show fdS x N K D = (N, D) by unfold fdS; rw [if_pos Hc.out], Hc.out] at HF
  go_wp2_with (go_at_call 66; fail)
  refine HF.out.mono ?_
  rintro e w1 ⟨rfl, hg1⟩
  obtain ⟨W2, hW2, hg2, _, hb2⟩ := alloc1 w1 (.cells #[.int .i64 N, .int .i64 D] 132)
  have HW2 := Lib.hid hW2
  have HG2 : Hid (Below w.heap.size w W2) := Lib.hid (HG1.out.trans ((hg1.trans hg2).below.mono HG1.out.size))
  have HU2 := Lib.hid ((HU1.out.grn hg1).grn hg2)
  have HB2 := Lib.hid hb2
  have HBF := Lib.hid (grn_at (hg1.trans hg2) HB1.out)
  have HB2Q : Hid (V1.heap.size ≤ w1.heap.size) := Lib.hid hg1.below.size
  clear hW2 hg1 hg2 hb2 HF f0 f1 HU1 HB1 HG1
  go_upto_region 5 with (fail)
  rw [HW2.out]
  obtain ⟨b2, hb2⟩ : ∃ b, b = w1.heap.size := ⟨_, rfl⟩
  rw [← hb2]
  rw [← hb2] at HB2
  have HB2Z : Hid (w.heap.size ≤ b2) := Lib.hid (by rw [hb2]; exact Nat.le_trans HWW.out HB2Q.out)
  clear hb2 HW2
  have HA2 := Lib.hid (HA.out W2 HU2.out)
  obtain ⟨c0, c1⟩ := two HB2.out
  go_wp2_with (go_at_call 73; fail)
  refine HA2.out.mono ?_
  rintro e w3 ⟨rfl, hb3⟩
  have HG3 := Lib.hid (HG2.out.trans (hb3.mono HG2.out.size))
  clear hb3 c0 c1
  go_wp2_with fail
  go_ret
  exact ⟨rfl, HG3.out⟩
set_option maxRecDepth 100000 in
set_option maxHeartbeats 1600000 in
theorem poWait_park (h : UB w0 w O p t g c d r rc l OL OD x G P) {i N K D : Int} (hG : G ≤ 900000) (hs : (stC x.z i).2 = 0) (hc : x.code N K D = 0) (hr : (stC x.z i).1 = 1) (ht : ¬ x.f (plI N D) ≤ x.now) : Calls Tryz.prog 27 #[.pointer (some ⟨p, 0, none⟩), .int .i64 i, .agg #[.int .i64 N, .int .i64 K], .int .i64 D] w fun e w' => e = .returned (.int .i64 (pkC x.z i (N, D)).1) ∧ StepU w0 w O p { x with z := (pkC x.z i (N, D)).2 } (G + 1) P w' := by
  have HS0 : Hid (∀ V, UB w0 V O p t g c d r rc l OL OD x G P → Calls Tryz.prog 24 #[.pointer (some ⟨p, 0, none⟩), .int .i64 i] V fun e w' => e = .returned (.tuple #[.int .i64 (stC x.z i).1, .int .i64 (stC x.z i).2]) ∧ Below V.heap.size V w') := Lib.hid (fun V hV => poState_any hV i)
  rw [hs] at HS0
  rw [hr] at HS0
  obtain ⟨n, q, hN, hK, hq, ho, hD⟩ := Px.code_ok hc
  have Hc := Lib.hid hc
  have HA : Hid (∀ V, UB w0 V O p t g c d r rc l OL OD x G P → Calls Tryz.prog 73 #[.pointer (some ⟨p, 0, none⟩), .agg #[.int .i64 N, .int .i64 D]] V fun e w' => e = .returned (.int .i64 (if x.f (plI N D) ≤ x.now then 12 else 0)) ∧ Below V.heap.size V w') := Lib.hid (fun V hV => by
    have hn : n < 128 := by rw [← h.tl]; exact (List.getElem?_eq_some_iff.1 hq).1
    have := poAllowed_any hV hn hD
    rw [← hN] at this
    have e : plI N D = n * 2 + D.toNat := by unfold plI; rw [hN]; rfl
    rw [e]
    exact this)
  clear hN hK hq ho hD
  rw [if_neg ht] at HA
  clear hs hc hr ht
  have HGG := Lib.hid hG
  have HPK : Hid (∀ V, UB w0 V O p t g c d r rc l OL OD x G P → Calls Tryz.prog 74 #[.pointer (some ⟨l.a, 0, none⟩), .int .i64 i, .agg #[.int .i64 N, .int .i64 D]] V fun e w' => e = .returned (.int .i64 (pkC x.z i (N, D)).1) ∧ LS w0.heap.size (fun k => OL k ∨ V.heap.size ≤ k) w' l (pkC x.z i (N, D)).2 (G + 1) ∧ FrL (fun k => OL k ∨ V.heap.size ≤ k) V w') := Lib.hid (fun V hV => pkPark_any hV.hl (by have := HGG.out; omega) i (N, D))
  have HL := Lib.hid (pkC_len x.z i (N, D))
  generalize (pkC x.z i (N, D)).1 = pc at *
  generalize (pkC x.z i (N, D)).2 = z' at *
  clear hG
  obtain ⟨W, hW, hg, hs, hb0⟩ := alloc1 w (.cells #[.int .i64 N, .int .i64 K] 47)
  have HOL : Hid (∀ k, OL k → k < w.heap.size) := Lib.hid (fun k hk => (h.ol k hk).2.1)
  have H0 := Lib.hid h
  have HU := Lib.hid (h.grn hg)
  have HW := Lib.hid hW
  have HG := Lib.hid hg.below
  have HB := Lib.hid hb0
  clear h hg hs hb0 hW
  go_enter Tryz.func27, Tryz.ntmps27
  go_upto_region 1 with (fail)
  rw [HW.out]
  obtain ⟨b, hb⟩ : ∃ b, b = w.heap.size := ⟨_, rfl⟩
  rw [← hb]
  rw [← hb] at HB
  have Hb := Lib.hid hb
  clear hb HW
  have HS2 := Lib.hid (HS0.out W HU.out)
  go_wp2_with (go_at_call 24; fail)
  refine HS2.out.mono ?_
  rintro e V1 ⟨rfl, hb1⟩
  have HG1 := Lib.hid (HG.out.trans (hb1.mono HG.out.size))
  have HU1 := Lib.hid (HU.out.grown hb1)
  have HB1 := Lib.hid ((hb1.block _ (lt_of_block HB.out)).trans HB.out)
  clear hb1 HU HB HG HS0 HS2
  have HF := Lib.hid (poFind_any HU1.out N K D)
  obtain ⟨f0, f1⟩ := two HB1.out
  have HWW : Hid (w.heap.size ≤ V1.heap.size) := Lib.hid HG1.out.size
  rw [show fdS x N K D = (N, D) by unfold fdS; rw [if_pos Hc.out], Hc.out] at HF
  go_wp2_with (go_at_call 66; fail)
  refine HF.out.mono ?_
  rintro e w1 ⟨rfl, hg1⟩
  obtain ⟨W2, hW2, hg2, _, hb2⟩ := alloc1 w1 (.cells #[.int .i64 N, .int .i64 D] 132)
  have HW2 := Lib.hid hW2
  have HG2 : Hid (Below w.heap.size w W2) := Lib.hid (HG1.out.trans ((hg1.trans hg2).below.mono HG1.out.size))
  have HU2 := Lib.hid ((HU1.out.grn hg1).grn hg2)
  have HB2 := Lib.hid hb2
  have HBF := Lib.hid (grn_at (hg1.trans hg2) HB1.out)
  have HB2Q : Hid (V1.heap.size ≤ w1.heap.size) := Lib.hid hg1.below.size
  clear hW2 hg1 hg2 hb2 HF f0 f1 HU1 HB1 HG1
  go_upto_region 5 with (fail)
  rw [HW2.out]
  obtain ⟨b2, hb2⟩ : ∃ b, b = w1.heap.size := ⟨_, rfl⟩
  rw [← hb2]
  rw [← hb2] at HB2
  have HB2Z : Hid (w.heap.size ≤ b2) := Lib.hid (by rw [hb2]; exact Nat.le_trans HWW.out HB2Q.out)
  clear hb2 HW2
  have HA2 := Lib.hid (HA.out W2 HU2.out)
  obtain ⟨c0, c1⟩ := two HB2.out
  go_wp2_with (go_at_call 73; fail)
  refine HA2.out.mono ?_
  rintro e w3 ⟨rfl, hb3⟩
  have HG3 := Lib.hid (HG2.out.trans (hb3.mono HG2.out.size))
  have HU3 := Lib.hid (HU2.out.grown hb3)
  have HB3 := Lib.hid ((hb3.block _ (lt_of_block HB2.out)).trans HB2.out)
  have HP := Lib.hid HU3.out.hp
  clear hb3 c0 c1 HU2 HB2
  go_upto_region 12 with (fail)
  refine wp_region_mix (fun W' => W'.heap[p]? = some (.cells #[.pointer (some ⟨t, 0, none⟩), .pointer (some ⟨l.a, 0, none⟩), .pointer (some ⟨d, 0, none⟩), .slice (some ⟨r, 0, none⟩) x.R.length rc] 68 (0, 0)) ∧ W'.heap[b2]? = some (.cells #[.int .i64 N, .int .i64 D] 132 (0, 0))) 6 [(true, 0), (true, 1), (true, 2), (true, 3), (true, 4), (true, 5)] (by kernel_rfl) (by kernel_rfl) (fun _ _ _ d _ h => by cases d <;> exact h) ?_
  have HD : Hid (Below w3.heap.size w3 w3.drew) := Lib.hid ((Grn.refl w3).drew 1).below
  have HS : Hid (w3.drew.heap[p]? = some (.cells #[.pointer (some ⟨t, 0, none⟩), .pointer (some ⟨l.a, 0, none⟩), .pointer (some ⟨d, 0, none⟩), .slice (some ⟨r, 0, none⟩) x.R.length rc] 68 (0, 0)) ∧ w3.drew.heap[b2]? = some (.cells #[.int .i64 N, .int .i64 D] 132 (0, 0))) := Lib.hid ⟨(HD.out.block _ (lt_of_block HP.out)).trans HP.out, (HD.out.block _ (lt_of_block HB3.out)).trans HB3.out⟩
  simp only [List.map_cons, List.map_nil, List.getD_cons_zero, List.getD_cons_succ, List.drop_succ_cons, List.drop_zero]
  generalize w3.drew = V at *
  refine mix_move (.tmp 0) (.pointer (some ⟨p, 0, none⟩)) rfl HS.out rfl rfl ?_
  simp only [Act.put, List.setIfInBounds_toArray, List.set_cons_zero, List.set_cons_succ]
  refine mix_take (.pointer (some ⟨p, 0, none⟩)) HS.out rfl (fun W' hS => by go_simp) ?_
  simp only [Act.put, List.setIfInBounds_toArray, List.set_cons_zero, List.set_cons_succ]
  refine mix_take (.pointer (some ⟨p, 1, none⟩)) HS.out rfl (fun W' hS => by go_simp) ?_
  simp only [Act.put, List.setIfInBounds_toArray, List.set_cons_zero, List.set_cons_succ]
  refine mix_take (.pointer (some ⟨l.a, 0, none⟩)) HS.out rfl (fun W' hS => by
    have e1 := hS.1
    obtain ⟨l0, l1, l2, l3⟩ := four e1
    go_simp) ?_
  simp only [Act.put, List.setIfInBounds_toArray, List.set_cons_zero, List.set_cons_succ]
  refine mix_move (.tmp 1) (.int .i64 i) rfl HS.out rfl rfl ?_
  simp only [Act.put, List.setIfInBounds_toArray, List.set_cons_zero, List.set_cons_succ]
  refine mix_take (.agg #[(.int .i64 N), (.int .i64 D)]) HS.out rfl (fun W' hS => by
    have e1 := hS.2
    obtain ⟨l0, l1⟩ := two e1
    go_simp) ?_
  simp only [Act.put, List.setIfInBounds_toArray, List.set_cons_zero, List.set_cons_succ]
  refine mix_nil ?_
  have HU4 := Lib.hid (HU3.out.grown HD.out)
  have HC2 := Lib.hid (HPK.out V HU4.out)
  have HG4 := Lib.hid (HG3.out.trans (HD.out.mono HG3.out.size))
  go_wp2_with (go_at_call 74; fail)
  refine HC2.out.mono ?_
  rintro e w5 ⟨rfl, hl, hf⟩
  obtain ⟨hu, hfo, hsub, hnl⟩ := HU4.out.lot rfl hl hf HL.out
  have HR := Lib.hid (⟨_, hu.at, (FrO.of_below HG4.out).trans (HU4.out.frl hfo) (fun k hk => .inl hk), fun k hk => (hsub k hk).elim .inl (fun h => .inr (Nat.le_trans HG4.out.size h)), Nat.le_trans HG4.out.size hf.size⟩ : StepU w0 w O p { x with z := z' } (G + 1) P w5)
  clear hu hfo hsub hnl hl hf
  go_wp2_with fail
  go_ret
  exact ⟨rfl, HR.out⟩
theorem poWait_any (h : UB w0 w O p t g c d r rc l OL OD x G P) (hG : G ≤ 900000) (i N K D : Int) : Calls Tryz.prog 27 #[.pointer (some ⟨p, 0, none⟩), .int .i64 i, .agg #[.int .i64 N, .int .i64 K], .int .i64 D] w fun e w' => e = .returned (.int .i64 (waiC x i N K D).1) ∧ StepU w0 w O p (waiC x i N K D).2 (G + 1) P w' := by
  unfold waiC
  have hm := h.mono (Nat.le_succ G) (Nat.le_refl P)
  by_cases h1 : (stC x.z i).2 = 0
  · rw [if_neg (by simpa using h1)]
    by_cases h2 : x.code N K D = 0
    · rw [if_neg (by simpa using h2)]
      by_cases h3 : (stC x.z i).1 = 1
      · rw [if_neg (by simpa using h3)]
        by_cases h4 : x.f (plI N D) ≤ x.now
        · rw [if_pos h4]
          exact (poWait_late h h1 h2 h3 h4).mono (fun e w' q => ⟨q.1, StepU.grn hm q.2⟩)
        · rw [if_neg h4]
          exact poWait_park h hG h1 h2 h3 h4
      · rw [if_pos h3]
        exact (poWait_state h h1 h2 h3).mono (fun e w' q => ⟨q.1, StepU.grn hm q.2⟩)
    · rw [if_pos h2]
      exact (poWait_code h h1 h2).mono (fun e w' q => ⟨q.1, StepU.grn hm q.2⟩)
  · rw [if_pos h1]
    exact (poWait_task h h1).mono (fun e w' q => ⟨q.1, StepU.grn hm q.2⟩)
set_option maxRecDepth 100000 in
set_option maxHeartbeats 1600000 in
theorem poDeadline_bad (h : UB w0 w O p t g c d r rc l OL OD x G P) {N K D tt : Int} (hc : x.code N K D ≠ 0) : Calls Tryz.prog 19 #[.pointer (some ⟨p, 0, none⟩), .agg #[.int .i64 N, .int .i64 K], .int .i64 D, .int .u64 tt] w fun e w' => e = .returned (.tuple #[.slice none 0 0, .int .i64 (x.code N K D)]) ∧ Below w.heap.size w w' := by
  have Hc := Lib.hid hc
  clear hc
  obtain ⟨W, hW, hg, hs, hb0⟩ := alloc1 w (.cells #[.int .i64 N, .int .i64 K] 47)
  have HOL : Hid (∀ k, OL k → k < w.heap.size) := Lib.hid (fun k hk => (h.ol k hk).2.1)
  have H0 := Lib.hid h
  have HU := Lib.hid (h.grn hg)
  have HW := Lib.hid hW
  have HG := Lib.hid hg.below
  have HB := Lib.hid hb0
  clear h hg hs hb0 hW
  go_enter Tryz.func19, Tryz.ntmps19
  go_upto_region 1 with (fail)
  rw [HW.out]
  obtain ⟨b, hb⟩ : ∃ b, b = w.heap.size := ⟨_, rfl⟩
  rw [← hb]
  rw [← hb] at HB
  have Hb := Lib.hid hb
  clear hb HW
  have HF := Lib.hid (poFind_any HU.out N K D)
  obtain ⟨f0, f1⟩ := two HB.out
  have HWW : Hid (w.heap.size ≤ W.heap.size) := Lib.hid HG.out.size
  obtain ⟨sp1, hsp1⟩ : ∃ y, y = (fdS x N K D).1 := ⟨_, rfl⟩
  obtain ⟨sp2, hsp2⟩ : ∃ y, y = (fdS x N K D).2 := ⟨_, rfl⟩
  obtain ⟨code, hcode⟩ : ∃ y, y = x.code N K D := ⟨_, rfl⟩
  rw [← hsp1, ← hsp2, ← hcode] at HF
  rw [← hcode] at Hc
  have q0 : (code != 0) = true := by simpa using Hc.out
  have HCO := Lib.hid hcode
  clear hsp1 hsp2 hcode
  go_wp2_with (go_at_call 66; fail)
  refine HF.out.mono ?_
  rintro e w1 ⟨rfl, hg1⟩
  obtain ⟨W2, hW2, hg2, _, hb2⟩ := alloc1 w1 (.cells #[.int .i64 sp1, .int .i64 sp2] 132)
  have HW2 := Lib.hid hW2
  have HG2 : Hid (Below w.heap.size w W2) := Lib.hid (HG.out.trans ((hg1.trans hg2).below.mono HG.out.size))
  have HU2 := Lib.hid ((HU.out.grn hg1).grn hg2)
  have HB2 := Lib.hid hb2
  have HBF := Lib.hid (grn_at (hg1.trans hg2) HB.out)
  have HB2Q : Hid (W.heap.size ≤ w1.heap.size) := Lib.hid hg1.below.size
  clear hW2 hg1 hg2 hb2 HF f0 f1 HU HB HG
  go_upto_region 2 with (fail)
  rw [HW2.out]
  obtain ⟨b2, hb2⟩ : ∃ b, b = w1.heap.size := ⟨_, rfl⟩
  rw [← hb2]
  rw [← hb2] at HB2
  have HB2Z : Hid (w.heap.size ≤ b2) := Lib.hid (by rw [hb2]; exact Nat.le_trans HWW.out HB2Q.out)
  clear hb2 HW2
  go_wp2_with fail
  go_ret2
  exact ⟨by rw [HCO.out]; rfl, HG2.out⟩
set_option maxRecDepth 100000 in
set_option maxHeartbeats 1600000 in
theorem poDeadline_set (h : UB w0 w O p t g c d r rc l OL OD x G P) (hT : Dl.Tab w0) (hP : P < 9223372036854775807) {N K D tt : Int} (htt : tt ≤ Dl.never) (hc : x.code N K D = 0) (hps : decide (tt ≤ x.now) = false) : Calls Tryz.prog 19 #[.pointer (some ⟨p, 0, none⟩), .agg #[.int .i64 N, .int .i64 K], .int .i64 D, .int .u64 tt] w fun e w' => e = .returned (.tuple #[.slice none 0 0, .int .i64 0]) ∧ StepU w0 w O p { x with f := Dl.upd x.f (plI N D) tt } G (P + 1) w' := by
  have Hc := Lib.hid hc
  have HST : Hid (∀ V, UB w0 V O p t g c d r rc l OL OD x G P → Calls Tryz.prog 67 #[.pointer (some ⟨d, 0, none⟩), .agg #[.int .i64 N, .int .i64 D], .int .u64 tt] V fun e w' => e = .returned (.tuple #[.bool false, .int .i64 0]) ∧ Dl.JAt w0 (fun k => (k < V.heap.size ∧ ¬ OD k) ∨ False) w' d x.now (Dl.upd x.f (plI N D) tt) (P + 1) ∧ Dl.Keep (fun k => k < V.heap.size ∧ ¬ OD k) V w') := Lib.hid (fun V hV => by
    obtain ⟨n, q, hN, hK, hq, ho, hD⟩ := Px.code_ok hc
    have hn : n < 128 := by rw [← h.tl]; exact (List.getElem?_eq_some_iff.1 hq).1
    have e0 : plI N D = n * 2 + D.toNat := by unfold plI; rw [hN]; rfl
    rw [e0]
    have fin : ∀ {r' : Nat}, r' < 2 → D = ((r' : Nat) : Int) → D.toNat = r' → Calls Tryz.prog 67 #[.pointer (some ⟨d, 0, none⟩), .agg #[.int .i64 N, .int .i64 D], .int .u64 tt] V fun e w' => e = .returned (.tuple #[.bool false, .int .i64 0]) ∧ Dl.JAt w0 (fun k => (k < V.heap.size ∧ ¬ OD k) ∨ False) w' d x.now (Dl.upd x.f (n * 2 + D.toNat) tt) (P + 1) ∧ Dl.Keep (fun k => k < V.heap.size ∧ ¬ OD k) V w' := fun {r'} hr hD1 hD2 => by
      rw [hN, hD2, hD1]
      refine (Dl.jSet_yes hV.hd hn hr tt htt hT hP).mono ?_
      rintro e w' ⟨q1, q2, q3⟩
      exact ⟨by rw [q1, hps], q2.less (fun k hk => hk.elim id False.elim), q3⟩
    rcases hD with hD0 | hD1
    · exact fin (r' := 0) (by decide) hD0 (by rw [hD0]; rfl)
    · exact fin (r' := 1) (by decide) hD1 (by rw [hD1]; rfl))
  clear hc hps htt hT hP
  obtain ⟨W, hW, hg, hs, hb0⟩ := alloc1 w (.cells #[.int .i64 N, .int .i64 K] 47)
  have HOL : Hid (∀ k, OL k → k < w.heap.size) := Lib.hid (fun k hk => (h.ol k hk).2.1)
  have H0 := Lib.hid h
  have HU := Lib.hid (h.grn hg)
  have HW := Lib.hid hW
  have HG := Lib.hid hg.below
  have HB := Lib.hid hb0
  clear h hg hs hb0 hW
  go_enter Tryz.func19, Tryz.ntmps19
  go_upto_region 1 with (fail)
  rw [HW.out]
  obtain ⟨b, hb⟩ : ∃ b, b = w.heap.size := ⟨_, rfl⟩
  rw [← hb]
  rw [← hb] at HB
  have Hb := Lib.hid hb
  clear hb HW
  have HF := Lib.hid (poFind_any HU.out N K D)
  obtain ⟨f0, f1⟩ := two HB.out
  have HWW : Hid (w.heap.size ≤ W.heap.size) := Lib.hid HG.out.size
  rw [show fdS x N K D = (N, D) by unfold fdS; rw [if_pos Hc.out], Hc.out] at HF
  go_wp2_with (go_at_call 66; fail)
  refine HF.out.mono ?_
  rintro e w1 ⟨rfl, hg1⟩
  obtain ⟨W2, hW2, hg2, _, hb2⟩ := alloc1 w1 (.cells #[.int .i64 N, .int .i64 D] 132)
  have HW2 := Lib.hid hW2
  have HG2 : Hid (Below w.heap.size w W2) := Lib.hid (HG.out.trans ((hg1.trans hg2).below.mono HG.out.size))
  have HU2 := Lib.hid ((HU.out.grn hg1).grn hg2)
  have HB2 := Lib.hid hb2
  have HBF := Lib.hid (grn_at (hg1.trans hg2) HB.out)
  have HB2Q : Hid (W.heap.size ≤ w1.heap.size) := Lib.hid hg1.below.size
  clear hW2 hg1 hg2 hb2 HF f0 f1 HU HB HG
  go_upto_region 4 with (fail)
  rw [HW2.out]
  obtain ⟨b2, hb2⟩ : ∃ b, b = w1.heap.size := ⟨_, rfl⟩
  rw [← hb2]
  rw [← hb2] at HB2
  have HB2Z : Hid (w.heap.size ≤ b2) := Lib.hid (by rw [hb2]; exact Nat.le_trans HWW.out HB2Q.out)
  clear hb2 HW2
  have HP := Lib.hid HU2.out.hp
  refine wp_region_mix (fun W' => W'.heap[p]? = some (.cells #[.pointer (some ⟨t, 0, none⟩), .pointer (some ⟨l.a, 0, none⟩), .pointer (some ⟨d, 0, none⟩), .slice (some ⟨r, 0, none⟩) x.R.length rc] 68 (0, 0)) ∧ W'.heap[b2]? = some (.cells #[.int .i64 N, .int .i64 D] 132 (0, 0))) 11 [(true, 0), (true, 1), (true, 2), (true, 3), (true, 4), (true, 5), (false, 6), (true, 7), (true, 8), (true, 9), (true, 10)] (by kernel_rfl) (by kernel_rfl) (fun _ _ _ d _ h => by cases d <;> exact h) ?_
  have HD : Hid (Below W2.heap.size W2 W2.drew) := Lib.hid ((Grn.refl W2).drew 1).below
  have HS : Hid (W2.drew.heap[p]? = some (.cells #[.pointer (some ⟨t, 0, none⟩), .pointer (some ⟨l.a, 0, none⟩), .pointer (some ⟨d, 0, none⟩), .slice (some ⟨r, 0, none⟩) x.R.length rc] 68 (0, 0)) ∧ W2.drew.heap[b2]? = some (.cells #[.int .i64 N, .int .i64 D] 132 (0, 0))) := Lib.hid ⟨(HD.out.block _ (lt_of_block HP.out)).trans HP.out, (HD.out.block _ (lt_of_block HB2.out)).trans HB2.out⟩
  simp only [List.map_cons, List.map_nil, List.getD_cons_zero, List.getD_cons_succ, List.drop_succ_cons, List.drop_zero]
  generalize W2.drew = V at *
  refine mix_move (.tmp 0) (.pointer (some ⟨p, 0, none⟩)) rfl HS.out rfl rfl ?_
  simp only [Act.put, List.setIfInBounds_toArray, List.set_cons_zero, List.set_cons_succ]
  refine mix_take (.pointer (some ⟨p, 0, none⟩)) HS.out rfl (fun W' hS => by go_simp) ?_
  simp only [Act.put, List.setIfInBounds_toArray, List.set_cons_zero, List.set_cons_succ]
  refine mix_take (.pointer (some ⟨p, 2, none⟩)) HS.out rfl (fun W' hS => by go_simp) ?_
  simp only [Act.put, List.setIfInBounds_toArray, List.set_cons_zero, List.set_cons_succ]
  refine mix_take (.pointer (some ⟨d, 0, none⟩)) HS.out rfl (fun W' hS => by
    have e1 := hS.1
    obtain ⟨l0, l1, l2, l3⟩ := four e1
    go_simp) ?_
  simp only [Act.put, List.setIfInBounds_toArray, List.set_cons_zero, List.set_cons_succ]
  refine mix_take (.agg #[(.int .i64 N), (.int .i64 D)]) HS.out rfl (fun W' hS => by
    have e1 := hS.2
    obtain ⟨l0, l1⟩ := two e1
    go_simp) ?_
  simp only [Act.put, List.setIfInBounds_toArray, List.set_cons_zero, List.set_cons_succ]
  refine mix_move (.tmp 3) (.int .u64 tt) rfl HS.out rfl rfl ?_
  simp only [Act.put, List.setIfInBounds_toArray, List.set_cons_zero, List.set_cons_succ]
  have HC2 := Lib.hid (HST.out V (HU2.out.grown HD.out))
  refine mix_step rfl (fun K6 hK => ?_)
  go_simp
  go_wp2_with (go_at_call 67; fail)
  refine HC2.out.mono ?_
  rintro e w3 ⟨rfl, hd3, hk3⟩
  have HGV : Hid (Below w.heap.size w V) := Lib.hid (HG2.out.trans (HD.out.mono HG2.out.size))
  obtain ⟨OD1, O1, hu, hfo, hsub, hz, _, hfd⟩ := H0.out.stepD HGV.out hd3 hk3 (b := b2) ⟨HB2Z.out, lt_of_block HS.out.2⟩
  have HB4 : Hid (w3.heap[b2]? = some (.cells #[.int .i64 N, .int .i64 D] 132 (0, 0))) := Lib.hid (hfd.block HS.out.2 (fun hc => by have := (H0.out.od b2 hc).2.1; have := HB2Z.out; omega))
  have HS3 := Lib.hid (And.intro hu.hp HB4.out)
  refine hK _ _ HS3.out ?_
  clear hK K6
  refine mix_move (.tmp 31) (.tuple #[(.bool false), (.int .i64 0)]) rfl HS3.out rfl rfl ?_
  simp only [Act.put, List.setIfInBounds_toArray, List.set_cons_zero, List.set_cons_succ]
  refine mix_take (.bool false) HS3.out rfl (fun W' hS => by go_simp) ?_
  simp only [Act.put, List.setIfInBounds_toArray, List.set_cons_zero, List.set_cons_succ]
  refine mix_take (.int .i64 0) HS3.out rfl (fun W' hS => by go_simp) ?_
  simp only [Act.put, List.setIfInBounds_toArray, List.set_cons_zero, List.set_cons_succ]
  refine mix_take (.bool false) HS3.out rfl (fun W' hS => by go_simp) ?_
  simp only [Act.put, List.setIfInBounds_toArray, List.set_cons_zero, List.set_cons_succ]
  refine mix_nil ?_
  have HR := Lib.hid (⟨O1, hu.at, hfo, hsub, hz⟩ : StepU w0 w O p { x with f := Dl.upd x.f (plI N D) tt } G (P + 1) w3)
  clear hu hfo hsub hz hfd hd3 hk3
  go_wp2_with fail
  go_ret2
  exact ⟨rfl, HR.out⟩
set_option maxRecDepth 100000 in
set_option maxHeartbeats 1600000 in
theorem poDeadline_late (h : UB w0 w O p t g c d r rc l OL OD x G P) (hG : G ≤ 900000) (hT : Dl.Tab w0) (hP : P < 9223372036854775807) {N K D tt : Int} (htt : tt ≤ Dl.never) (hc : x.code N K D = 0) (hps : decide (tt ≤ x.now) = true) : Calls Tryz.prog 19 #[.pointer (some ⟨p, 0, none⟩), .agg #[.int .i64 N, .int .i64 K], .int .i64 D, .int .u64 tt] w fun e w' => ∃ v, e = .returned (.tuple #[v, .int .i64 0]) ∧ WokeU w0 w O p (({ x with f := Dl.upd x.f (plI N D) tt } : Px).wake (N, D) 2).1 (({ x with f := Dl.upd x.f (plI N D) tt } : Px).wake (N, D) 2).2 (G + (({ x with f := Dl.upd x.f (plI N D) tt } : Px).wake (N, D) 2).1.length) (P + 1) w' v := by
  have Hc := Lib.hid hc
  have HST : Hid (∀ V, UB w0 V O p t g c d r rc l OL OD x G P → Calls Tryz.prog 67 #[.pointer (some ⟨d, 0, none⟩), .agg #[.int .i64 N, .int .i64 D], .int .u64 tt] V fun e w' => e = .returned (.tuple #[.bool true, .int .i64 0]) ∧ Dl.JAt w0 (fun k => (k < V.heap.size ∧ ¬ OD k) ∨ False) w' d x.now (Dl.upd x.f (plI N D) tt) (P + 1) ∧ Dl.Keep (fun k => k < V.heap.size ∧ ¬ OD k) V w') := Lib.hid (fun V hV => by
    obtain ⟨n, q, hN, hK, hq, ho, hD⟩ := Px.code_ok hc
    have hn : n < 128 := by rw [← h.tl]; exact (List.getElem?_eq_some_iff.1 hq).1
    have e0 : plI N D = n * 2 + D.toNat := by unfold plI; rw [hN]; rfl
    rw [e0]
    have fin : ∀ {r' : Nat}, r' < 2 → D = ((r' : Nat) : Int) → D.toNat = r' → Calls Tryz.prog 67 #[.pointer (some ⟨d, 0, none⟩), .agg #[.int .i64 N, .int .i64 D], .int .u64 tt] V fun e w' => e = .returned (.tuple #[.bool true, .int .i64 0]) ∧ Dl.JAt w0 (fun k => (k < V.heap.size ∧ ¬ OD k) ∨ False) w' d x.now (Dl.upd x.f (n * 2 + D.toNat) tt) (P + 1) ∧ Dl.Keep (fun k => k < V.heap.size ∧ ¬ OD k) V w' := fun {r'} hr hD1 hD2 => by
      rw [hN, hD2, hD1]
      refine (Dl.jSet_yes hV.hd hn hr tt htt hT hP).mono ?_
      rintro e w' ⟨q1, q2, q3⟩
      exact ⟨by rw [q1, hps], q2.less (fun k hk => hk.elim id False.elim), q3⟩
    rcases hD with hD0 | hD1
    · exact fin (r' := 0) (by decide) hD0 (by rw [hD0]; rfl)
    · exact fin (r' := 1) (by decide) hD1 (by rw [hD1]; rfl))
  have HGG := Lib.hid hG
  clear hG
  clear hc hps htt hT hP
  obtain ⟨W, hW, hg, hs, hb0⟩ := alloc1 w (.cells #[.int .i64 N, .int .i64 K] 47)
  have HOL : Hid (∀ k, OL k → k < w.heap.size) := Lib.hid (fun k hk => (h.ol k hk).2.1)
  have H0 := Lib.hid h
  have HU := Lib.hid (h.grn hg)
  have HW := Lib.hid hW
  have HG := Lib.hid hg.below
  have HB := Lib.hid hb0
  clear h hg hs hb0 hW
  go_enter Tryz.func19, Tryz.ntmps19
  go_upto_region 1 with (fail)
  rw [HW.out]
  obtain ⟨b, hb⟩ : ∃ b, b = w.heap.size := ⟨_, rfl⟩
  rw [← hb]
  rw [← hb] at HB
  have Hb := Lib.hid hb
  clear hb HW
  have HF := Lib.hid (poFind_any HU.out N K D)
  obtain ⟨f0, f1⟩ := two HB.out
  have HWW : Hid (w.heap.size ≤ W.heap.size) := Lib.hid HG.out.size
  rw [show fdS x N K D = (N, D) by unfold fdS; rw [if_pos Hc.out], Hc.out] at HF
  go_wp2_with (go_at_call 66; fail)
  refine HF.out.mono ?_
  rintro e w1 ⟨rfl, hg1⟩
  obtain ⟨W2, hW2, hg2, _, hb2⟩ := alloc1 w1 (.cells #[.int .i64 N, .int .i64 D] 132)
  have HW2 := Lib.hid hW2
  have HG2 : Hid (Below w.heap.size w W2) := Lib.hid (HG.out.trans ((hg1.trans hg2).below.mono HG.out.size))
  have HU2 := Lib.hid ((HU.out.grn hg1).grn hg2)
  have HB2 := Lib.hid hb2
  have HBF := Lib.hid (grn_at (hg1.trans hg2) HB.out)
  have HB2Q : Hid (W.heap.size ≤ w1.heap.size) := Lib.hid hg1.below.size
  clear hW2 hg1 hg2 hb2 HF f0 f1 HU HB HG
  go_upto_region 4 with (fail)
  rw [HW2.out]
  obtain ⟨b2, hb2⟩ : ∃ b, b = w1.heap.size := ⟨_, rfl⟩
  rw [← hb2]
  rw [← hb2] at HB2
  have HB2Z : Hid (w.heap.size ≤ b2) := Lib.hid (by rw [hb2]; exact Nat.le_trans HWW.out HB2Q.out)
  clear hb2 HW2
  have HP := Lib.hid HU2.out.hp
  refine wp_region_mix (fun W' => W'.heap[p]? = some (.cells #[.pointer (some ⟨t, 0, none⟩), .pointer (some ⟨l.a, 0, none⟩), .pointer (some ⟨d, 0, none⟩), .slice (some ⟨r, 0, none⟩) x.R.length rc] 68 (0, 0)) ∧ W'.heap[b2]? = some (.cells #[.int .i64 N, .int .i64 D] 132 (0, 0))) 11 [(true, 0), (true, 1), (true, 2), (true, 3), (true, 4), (true, 5), (false, 6), (true, 7), (true, 8), (true, 9), (true, 10)] (by kernel_rfl) (by kernel_rfl) (fun _ _ _ d _ h => by cases d <;> exact h) ?_
  have HD : Hid (Below W2.heap.size W2 W2.drew) := Lib.hid ((Grn.refl W2).drew 1).below
  have HS : Hid (W2.drew.heap[p]? = some (.cells #[.pointer (some ⟨t, 0, none⟩), .pointer (some ⟨l.a, 0, none⟩), .pointer (some ⟨d, 0, none⟩), .slice (some ⟨r, 0, none⟩) x.R.length rc] 68 (0, 0)) ∧ W2.drew.heap[b2]? = some (.cells #[.int .i64 N, .int .i64 D] 132 (0, 0))) := Lib.hid ⟨(HD.out.block _ (lt_of_block HP.out)).trans HP.out, (HD.out.block _ (lt_of_block HB2.out)).trans HB2.out⟩
  simp only [List.map_cons, List.map_nil, List.getD_cons_zero, List.getD_cons_succ, List.drop_succ_cons, List.drop_zero]
  generalize W2.drew = V at *
  refine mix_move (.tmp 0) (.pointer (some ⟨p, 0, none⟩)) rfl HS.out rfl rfl ?_
  simp only [Act.put, List.setIfInBounds_toArray, List.set_cons_zero, List.set_cons_succ]
  refine mix_take (.pointer (some ⟨p, 0, none⟩)) HS.out rfl (fun W' hS => by go_simp) ?_
  simp only [Act.put, List.setIfInBounds_toArray, List.set_cons_zero, List.set_cons_succ]
  refine mix_take (.pointer (some ⟨p, 2, none⟩)) HS.out rfl (fun W' hS => by go_simp) ?_
  simp only [Act.put, List.setIfInBounds_toArray, List.set_cons_zero, List.set_cons_succ]
  refine mix_take (.pointer (some ⟨d, 0, none⟩)) HS.out rfl (fun W' hS => by
    have e1 := hS.1
    obtain ⟨l0, l1, l2, l3⟩ := four e1
    go_simp) ?_
  simp only [Act.put, List.setIfInBounds_toArray, List.set_cons_zero, List.set_cons_succ]
  refine mix_take (.agg #[(.int .i64 N), (.int .i64 D)]) HS.out rfl (fun W' hS => by
    have e1 := hS.2
    obtain ⟨l0, l1⟩ := two e1
    go_simp) ?_
  simp only [Act.put, List.setIfInBounds_toArray, List.set_cons_zero, List.set_cons_succ]
  refine mix_move (.tmp 3) (.int .u64 tt) rfl HS.out rfl rfl ?_
  simp only [Act.put, List.setIfInBounds_toArray, List.set_cons_zero, List.set_cons_succ]
  have HC2 := Lib.hid (HST.out V (HU2.out.grown HD.out))
  refine mix_step rfl (fun K6 hK => ?_)
  go_simp
  go_wp2_with (go_at_call 67; fail)
  refine HC2.out.mono ?_
  rintro e w3 ⟨rfl, hd3, hk3⟩
  have HGV : Hid (Below w.heap.size w V) := Lib.hid (HG2.out.trans (HD.out.mono HG2.out.size))
  obtain ⟨OD1, O1, hu, hfo, hsub, hz, _, hfd⟩ := H0.out.stepD HGV.out hd3 hk3 (b := b2) ⟨HB2Z.out, lt_of_block HS.out.2⟩
  have HB4 : Hid (w3.heap[b2]? = some (.cells #[.int .i64 N, .int .i64 D] 132 (0, 0))) := Lib.hid (hfd.block HS.out.2 (fun hc => by have := (H0.out.od b2 hc).2.1; have := HB2Z.out; omega))
  have HS3 := Lib.hid (And.intro hu.hp HB4.out)
  refine hK _ _ HS3.out ?_
  clear hK K6
  refine mix_move (.tmp 31) (.tuple #[(.bool true), (.int .i64 0)]) rfl HS3.out rfl rfl ?_
  simp only [Act.put, List.setIfInBounds_toArray, List.set_cons_zero, List.set_cons_succ]
  refine mix_take (.bool true) HS3.out rfl (fun W' hS => by go_simp) ?_
  simp only [Act.put, List.setIfInBounds_toArray, List.set_cons_zero, List.set_cons_succ]
  refine mix_take (.int .i64 0) HS3.out rfl (fun W' hS => by go_simp) ?_
  simp only [Act.put, List.setIfInBounds_toArray, List.set_cons_zero, List.set_cons_succ]
  refine mix_take (.bool true) HS3.out rfl (fun W' hS => by go_simp) ?_
  simp only [Act.put, List.setIfInBounds_toArray, List.set_cons_zero, List.set_cons_succ]
  refine mix_nil ?_
  have HA2 := Lib.hid (poWake_woke hu HGG.out N D 2)
  have HM := Lib.hid (And.intro hfo (And.intro hsub hz))
  obtain ⟨c0, c1⟩ := two HB4.out
  clear hu hfo hsub hz hfd hd3 hk3
  go_wp2_with (go_at_call 63; fail)
  refine HA2.out.mono ?_
  rintro e w4 ⟨v, rfl, hw⟩
  have HR := Lib.hid (hw.more HM.out.1 HM.out.2.1 HM.out.2.2)
  clear hw c0 c1
  go_wp2_with fail
  go_ret2
  exact ⟨_, rfl, HR.out⟩
theorem poDeadline_any (h : UB w0 w O p t g c d r rc l OL OD x G P) (hG : G ≤ 900000) (hT : Dl.Tab w0) (hP : P < 9223372036854775807) (N K D : Int) {tt : Int} (htt : tt ≤ Dl.never) : Calls Tryz.prog 19 #[.pointer (some ⟨p, 0, none⟩), .agg #[.int .i64 N, .int .i64 K], .int .i64 D, .int .u64 tt] w fun e w' => ∃ v, e = .returned (.tuple #[v, .int .i64 (dlnC x N K D tt).2.1]) ∧ WokeU w0 w O p (dlnC x N K D tt).1 (dlnC x N K D tt).2.2 (G + (dlnC x N K D tt).1.length) (P + 1) w' v := by
  unfold dlnC
  by_cases hc : x.code N K D = 0
  · rw [if_neg (by simpa using hc)]
    by_cases hp : tt ≤ x.now
    · rw [if_pos hp]
      exact poDeadline_late h hG hT hP htt hc (by simpa using hp)
    · rw [if_neg hp]
      exact (poDeadline_set h hT hP htt hc (by simpa using hp)).mono (fun e w' q => ⟨_, q.1, WokeU.nil q.2⟩)
  · rw [if_pos hc]
    exact (poDeadline_bad h hc).mono (fun e w' q => ⟨_, q.1, WokeU.nil (StepU.grn (h.mono (Nat.le_refl _) (Nat.le_succ _)) q.2)⟩)
end
end Go.Proofs.YtcjeckjmoponkaaGreatDoor
