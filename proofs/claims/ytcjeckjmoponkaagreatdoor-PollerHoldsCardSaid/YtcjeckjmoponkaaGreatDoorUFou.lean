/- Wait, Signal, SignalAll, Deadline. -/
import Derived.Test.YtcjeckjmoponkaaGreatDoorUThr
namespace Go.Proofs.YtcjeckjmoponkaaGreatDoor
open Go.RowKit Go.Sort
set_option linter.unusedVariables false
set_option linter.unusedSimpArgs false
section
variable {w0 w w' : World} {O : Nat → Prop} {p t g c d r rc : Nat} {l : Ll} {OL OD : Nat → Prop} {x : Px} {G P : Nat}
/-- What a call that wakes leaves: the list, too. -/
def WokeU (w0 w : World) (O : Nat → Prop) (p : Nat) (X : List Int) (x' : Px) (G P : Nat) (w' : World) (v : Value) : Prop :=
  Row TI w' w.heap.size v X ∧ ∃ O', UAt w0 w' O' p x' G P ∧ FrO O w w' ∧ (∀ k, O' k → O k ∨ w.heap.size ≤ k) ∧ w.heap.size ≤ w'.heap.size ∧ ∀ g, v.ownBlock = some g → ¬ O' g
theorem WokeU.nil {x' : Px} {w' : World} (h : StepU w0 w O p x' G P w') : WokeU w0 w O p [] x' G P w' (.slice none 0 0) := by
  obtain ⟨O', h1, h2, h3, h4⟩ := h
  exact ⟨Row.nil w' _, O', h1, h2, h3, h4, fun g hg => by simp [Value.ownBlock] at hg⟩
theorem WokeU.more {O1 : Nat → Prop} {X : List Int} {x' : Px} {G1 P1 : Nat} {w1 w2 : World} {v : Value} (h : WokeU w0 w1 O1 p X x' G1 P1 w2 v) (hf : FrO O w w1) (hs : ∀ k, O1 k → O k ∨ w.heap.size ≤ k) (hz : w.heap.size ≤ w1.heap.size) : WokeU w0 w O p X x' G1 P1 w2 v := by
  obtain ⟨hr, O', h1, h2, h3, h4, h5⟩ := h
  exact ⟨hr.lower hz, O', h1, hf.trans h2 hs, fun k hk => (h3 k hk).elim (hs k) (fun h => .inr (Nat.le_trans hz h)), Nat.le_trans hz h4, h5⟩
theorem StepU.more {O1 : Nat → Prop} {x' : Px} {G1 P1 : Nat} {w1 w2 : World} (h : StepU w0 w1 O1 p x' G1 P1 w2) (hf : FrO O w w1) (hs : ∀ k, O1 k → O k ∨ w.heap.size ≤ k) (hz : w.heap.size ≤ w1.heap.size) : StepU w0 w O p x' G1 P1 w2 := by
  obtain ⟨O', h1, h2, h3, h4⟩ := h
  exact ⟨O', h1, hf.trans h2 hs, fun k hk => (h3 k hk).elim (hs k) (fun h => .inr (Nat.le_trans hz h)), Nat.le_trans hz h4⟩
theorem poWake_woke (h : UB w0 w O p t g c d r rc l OL OD x G P) (hG : G ≤ 900000) (N D y : Int) :
    Calls Tryz.prog 63 #[.pointer (some ⟨p, 0, none⟩), .agg #[.int .i64 N, .int .i64 D], .int .i64 y] w fun e w' => ∃ v, e = .returned v ∧ WokeU w0 w O p (x.wake (N, D) y).1 (x.wake (N, D) y).2 (G + (x.wake (N, D) y).1.length) P w' v :=
  (poWake_any h hG N D y).mono (fun e w' ⟨v, O', h1, h2, h3, h4, h5, h6, h7⟩ => ⟨v, h1, h2, O', h3, h4, h5, h7, h6⟩)
/-- A call of the deadlines, a block of another's alive. -/
theorem UB.stepD {V : Nat → Prop} {now' : Int} {f' : Nat → Int} {P' b : Nat} {w2 w3 : World} (h : UB w0 w O p t g c d r rc l OL OD x G P) (hg : Below w.heap.size w w2) (hd : Dl.JAt w0 (fun k => (k < w2.heap.size ∧ ¬ OD k) ∨ V k) w3 d now' f' P') (hk : Dl.Keep (fun k => k < w2.heap.size ∧ ¬ OD k) w2 w3) (hb : w.heap.size ≤ b ∧ b < w2.heap.size) :
    ∃ OD1 O1, UB w0 w3 O1 p t g c d r rc l OL OD1 { x with now := now', f := f' } G P' ∧ FrO O w w3 ∧ (∀ k, O1 k → O k ∨ w.heap.size ≤ k) ∧ w.heap.size ≤ w3.heap.size ∧ (∀ k, w2.heap.size ≤ k → V k → ¬ OD1 k) ∧ FrO OD w2 w3 := by
  have h2 := h.grown hg
  obtain ⟨OD1, hu, hfo, hsub, hv⟩ := h2.dls hd (fun k h1 h2 => hk k ⟨h1, h2⟩)
  have hz := hg.size
  have hnb : ¬ OD b := fun hc => by have := (h.od b hc).2.1; omega
  have hb3 := hfo.lt hb.2 hnb
  exact ⟨OD1, _, hu, (FrO.of_below hg).trans (h2.frd hfo) (fun k hk => .inl hk), fun k hk => (hsub k hk).elim .inl (fun h => .inr (Nat.le_trans hz h)), by omega, hv, hfo⟩
set_option maxRecDepth 100000 in
set_option maxHeartbeats 1600000 in
theorem poSignalAll_bad (h : UB w0 w O p t g c d r rc l OL OD x G P) {N K D : Int} (hc : x.code N K D ≠ 0) : Calls Tryz.prog 21 #[.pointer (some ⟨p, 0, none⟩), .agg #[.int .i64 N, .int .i64 K], .int .i64 D] w fun e w' => e = .returned (.tuple #[.slice none 0 0, .int .i64 (x.code N K D)]) ∧ Below w.heap.size w w' := by
  have Hc := Lib.hid hc
  clear hc
  obtain ⟨W, hW, hg, hs, hb0⟩ := alloc1 w (.cells #[.int .i64 N, .int .i64 K] 47)
  have HOL : Hid (∀ k, OL k → k < w.heap.size) := Lib.hid (fun k hk => (h.ol k hk).2.1)
  have HU := Lib.hid (h.grn hg)
  have HW := Lib.hid hW
  have HG := Lib.hid hg.below
  have HB := Lib.hid hb0
  clear h hg hs hb0 hW
  go_enter Tryz.func21, Tryz.ntmps21
  go_upto_region 1 with (fail)
  rw [HW.out]
  obtain ⟨b, hb⟩ : ∃ b, b = w.heap.size := ⟨_, rfl⟩
  rw [← hb]
  rw [← hb] at HB
  have Hb := Lib.hid hb
  clear hb HW
  have HF := Lib.hid (poFind_any HU.out N K D)
  obtain ⟨f0, f1⟩ := two HB.out
  have HWW : Hid (w.heap.size ≤ W.heap.size) := Lib.hid HG.out.size
  obtain ⟨sp1, hsp1⟩ : ∃ y, y = (fdS x N K D).1 := ⟨_, rfl⟩
  obtain ⟨sp2, hsp2⟩ : ∃ y, y = (fdS x N K D).2 := ⟨_, rfl⟩
  obtain ⟨code, hcode⟩ : ∃ y, y = x.code N K D := ⟨_, rfl⟩
  rw [← hsp1, ← hsp2, ← hcode] at HF
  rw [← hcode] at Hc
  have q0 : (code != 0) = true := by simpa using Hc.out
  have HCO := Lib.hid hcode
  clear hsp1 hsp2 hcode
  go_wp2_with (go_at_call 66; fail)
  refine HF.out.mono ?_
  rintro e w1 ⟨rfl, hg1⟩
  obtain ⟨W2, hW2, hg2, _, hb2⟩ := alloc1 w1 (.cells #[.int .i64 sp1, .int .i64 sp2] 132)
  have HW2 := Lib.hid hW2
  have HG2 : Hid (Below w.heap.size w W2) := Lib.hid (HG.out.trans ((hg1.trans hg2).below.mono HG.out.size))
  have HU2 := Lib.hid ((HU.out.grn hg1).grn hg2)
  have HB2 := Lib.hid hb2
  have HBF := Lib.hid (grn_at (hg1.trans hg2) HB.out)
  have HB2Q : Hid (W.heap.size ≤ w1.heap.size) := Lib.hid hg1.below.size
  clear hW2 hg1 hg2 hb2 HF f0 f1 HU HB HG
  go_upto_region 2 with (fail)
  rw [HW2.out]
  obtain ⟨b2, hb2⟩ : ∃ b, b = w1.heap.size := ⟨_, rfl⟩
  rw [← hb2]
  rw [← hb2] at HB2
  have HB2Z : Hid (w.heap.size ≤ b2) := Lib.hid (by rw [hb2]; exact Nat.le_trans HWW.out HB2Q.out)
  clear hb2 HW2
  go_wp2_with fail
  go_ret2
  exact ⟨by rw [HCO.out]; rfl, HG2.out⟩
set_option maxRecDepth 100000 in
set_option maxHeartbeats 1600000 in
theorem poSignalAll_ok (h : UB w0 w O p t g c d r rc l OL OD x G P) (hG : G ≤ 900000) {N K D : Int} (hc : x.code N K D = 0) : Calls Tryz.prog 21 #[.pointer (some ⟨p, 0, none⟩), .agg #[.int .i64 N, .int .i64 K], .int .i64 D] w fun e w' => ∃ v, e = .returned (.tuple #[v, .int .i64 0]) ∧ WokeU w0 w O p (x.wake (N, D) 1).1 (x.wake (N, D) 1).2 (G + (x.wake (N, D) 1).1.length) P w' v := by
  have Hc := Lib.hid hc
  have HGG := Lib.hid hG
  clear hc hG
  obtain ⟨W, hW, hg, hs, hb0⟩ := alloc1 w (.cells #[.int .i64 N, .int .i64 K] 47)
  have HOL : Hid (∀ k, OL k → k < w.heap.size) := Lib.hid (fun k hk => (h.ol k hk).2.1)
  have HU := Lib.hid (h.grn hg)
  have HW := Lib.hid hW
  have HG := Lib.hid hg.below
  have HB := Lib.hid hb0
  clear h hg hs hb0 hW
  go_enter Tryz.func21, Tryz.ntmps21
  go_upto_region 1 with (fail)
  rw [HW.out]
  obtain ⟨b, hb⟩ : ∃ b, b = w.heap.size := ⟨_, rfl⟩
  rw [← hb]
  rw [← hb] at HB
  have Hb := Lib.hid hb
  clear hb HW
  have HF := Lib.hid (poFind_any HU.out N K D)
  obtain ⟨f0, f1⟩ := two HB.out
  have HWW : Hid (w.heap.size ≤ W.heap.size) := Lib.hid HG.out.size
  rw [show fdS x N K D = (N, D) by unfold fdS; rw [if_pos Hc.out], Hc.out] at HF
  go_wp2_with (go_at_call 66; fail)
  refine HF.out.mono ?_
  rintro e w1 ⟨rfl, hg1⟩
  obtain ⟨W2, hW2, hg2, _, hb2⟩ := alloc1 w1 (.cells #[.int .i64 N, .int .i64 D] 132)
  have HW2 := Lib.hid hW2
  have HG2 : Hid (Below w.heap.size w W2) := Lib.hid (HG.out.trans ((hg1.trans hg2).below.mono HG.out.size))
  have HU2 := Lib.hid ((HU.out.grn hg1).grn hg2)
  have HB2 := Lib.hid hb2
  have HBF := Lib.hid (grn_at (hg1.trans hg2) HB.out)
  have HB2Q : Hid (W.heap.size ≤ w1.heap.size) := Lib.hid hg1.below.size
  clear hW2 hg1 hg2 hb2 HF f0 f1 HU HB HG
  go_upto_region 2 with (fail)
  rw [HW2.out]
  obtain ⟨b2, hb2⟩ : ∃ b, b = w1.heap.size := ⟨_, rfl⟩
  rw [← hb2]
  rw [← hb2] at HB2
  have HB2Z : Hid (w.heap.size ≤ b2) := Lib.hid (by rw [hb2]; exact Nat.le_trans HWW.out HB2Q.out)
  clear hb2 HW2
  have HA2 := Lib.hid (poWake_woke HU2.out HGG.out N D 1)
  obtain ⟨c0, c1⟩ := two HB2.out
  go_wp2_with (go_at_call 63; fail)
  refine HA2.out.mono ?_
  rintro e w3 ⟨v, rfl, hw⟩
  have HR := Lib.hid (hw.more (FrO.of_below HG2.out) (fun k hk => .inl hk) HG2.out.size)
  clear hw c0 c1
  go_wp2_with fail
  go_ret2
  exact ⟨_, rfl, HR.out⟩
theorem poSignalAll_any (h : UB w0 w O p t g c d r rc l OL OD x G P) (hG : G ≤ 900000) (N K D : Int) : Calls Tryz.prog 21 #[.pointer (some ⟨p, 0, none⟩), .agg #[.int .i64 N, .int .i64 K], .int .i64 D] w fun e w' => ∃ v, e = .returned (.tuple #[v, .int .i64 (sgaC x N K D).2.1]) ∧ WokeU w0 w O p (sgaC x N K D).1 (sgaC x N K D).2.2 (G + (sgaC x N K D).1.length) P w' v := by
  unfold sgaC
  by_cases hc : x.code N K D = 0
  · rw [if_neg (by simpa using hc)]
    exact poSignalAll_ok h hG hc
  · rw [if_pos hc]
    exact (poSignalAll_bad h hc).mono (fun e w' q => ⟨_, q.1, WokeU.nil (StepU.grn h q.2)⟩)
set_option maxRecDepth 100000 in
set_option maxHeartbeats 1600000 in
theorem poSignal_bad (h : UB w0 w O p t g c d r rc l OL OD x G P) {N K D : Int} (hc : x.code N K D ≠ 0) : Calls Tryz.prog 20 #[.pointer (some ⟨p, 0, none⟩), .agg #[.int .i64 N, .int .i64 K], .int .i64 D] w fun e w' => e = .returned (.tuple #[.int .i64 0, .int .i64 (x.code N K D)]) ∧ Below w.heap.size w w' := by
  have Hc := Lib.hid hc
  clear hc
  obtain ⟨W, hW, hg, hs, hb0⟩ := alloc1 w (.cells #[.int .i64 N, .int .i64 K] 47)
  have HOL : Hid (∀ k, OL k → k < w.heap.size) := Lib.hid (fun k hk => (h.ol k hk).2.1)
  have HU := Lib.hid (h.grn hg)
  have HW := Lib.hid hW
  have HG := Lib.hid hg.below
  have HB := Lib.hid hb0
  clear h hg hs hb0 hW
  go_enter Tryz.func20, Tryz.ntmps20
  go_upto_region 1 with (fail)
  rw [HW.out]
  obtain ⟨b, hb⟩ : ∃ b, b = w.heap.size := ⟨_, rfl⟩
  rw [← hb]
  rw [← hb] at HB
  have Hb := Lib.hid hb
  clear hb HW
  have HF := Lib.hid (poFind_any HU.out N K D)
  obtain ⟨f0, f1⟩ := two HB.out
  have HWW : Hid (w.heap.size ≤ W.heap.size) := Lib.hid HG.out.size
  obtain ⟨sp1, hsp1⟩ : ∃ y, y = (fdS x N K D).1 := ⟨_, rfl⟩
  obtain ⟨sp2, hsp2⟩ : ∃ y, y = (fdS x N K D).2 := ⟨_, rfl⟩
  obtain ⟨code, hcode⟩ : ∃ y, y = x.code N K D := ⟨_, rfl⟩
  rw [← hsp1, ← hsp2, ← hcode] at HF
  rw [← hcode] at Hc
  have q0 : (code != 0) = true := by simpa using Hc.out
  have HCO := Lib.hid hcode
  clear hsp1 hsp2 hcode
  go_wp2_with (go_at_call 66; fail)
  refine HF.out.mono ?_
  rintro e w1 ⟨rfl, hg1⟩
  obtain ⟨W2, hW2, hg2, _, hb2⟩ := alloc1 w1 (.cells #[.int .i64 sp1, .int .i64 sp2] 132)
  have HW2 := Lib.hid hW2
  have HG2 : Hid (Below w.heap.size w W2) := Lib.hid (HG.out.trans ((hg1.trans hg2).below.mono HG.out.size))
  have HU2 := Lib.hid ((HU.out.grn hg1).grn hg2)
  have HB2 := Lib.hid hb2
  have HBF := Lib.hid (grn_at (hg1.trans hg2) HB.out)
  have HB2Q : Hid (W.heap.size ≤ w1.heap.size) := Lib.hid hg1.below.size
  clear hW2 hg1 hg2 hb2 HF f0 f1 HU HB HG
  go_upto_region 2 with (fail)
  rw [HW2.out]
  obtain ⟨b2, hb2⟩ : ∃ b, b = w1.heap.size := ⟨_, rfl⟩
  rw [← hb2]
  rw [← hb2] at HB2
  have HB2Z : Hid (w.heap.size ≤ b2) := Lib.hid (by rw [hb2]; exact Nat.le_trans HWW.out HB2Q.out)
  clear hb2 HW2
  go_wp2_with fail
  go_ret2
  exact ⟨by rw [HCO.out]; rfl, HG2.out⟩
theorem wkC_in {z : Zt} (hz : ZK z) {s : Sp} (h : (wkC z s).2.1 = 0) : ∃ i : Nat, (wkC z s).1 = ((i : Nat) : Int) ∧ i < z.S.length := by
  unfold wkC at h ⊢
  split at h
  · rename_i hs
    rw [if_pos hs]
    cases hw : wt s z.L with
    | nil => rw [hw] at h; simp at h
    | cons i r => exact ⟨i, rfl, hz.inS i ((wt_sub s z.L).subset (by rw [hw]; exact List.mem_cons_self))⟩
  · simp at h
set_option maxRecDepth 100000 in
set_option maxHeartbeats 1600000 in
theorem poSignal_none (h : UB w0 w O p t g c d r rc l OL OD x G P) (hG : G ≤ 900000) {N K D : Int} (hc : x.code N K D = 0) (hw : (wkC x.z (N, D)).2.1 ≠ 0) : Calls Tryz.prog 20 #[.pointer (some ⟨p, 0, none⟩), .agg #[.int .i64 N, .int .i64 K], .int .i64 D] w fun e w' => e = .returned (.tuple #[.int .i64 0, .int .i64 (wkC x.z (N, D)).2.1]) ∧ StepU w0 w O p { x with z := (wkC x.z (N, D)).2.2 } (G + 1) P w' := by
  have Hc := Lib.hid hc
  have HGG := Lib.hid hG
  have HWK : Hid (∀ V, UB w0 V O p t g c d r rc l OL OD x G P → Calls Tryz.prog 68 #[.pointer (some ⟨l.a, 0, none⟩), .agg #[.int .i64 N, .int .i64 D]] V fun e w' => e = .returned (.tuple #[.int .i64 (wkC x.z (N, D)).1, .int .i64 (wkC x.z (N, D)).2.1]) ∧ LS w0.heap.size (fun k => OL k ∨ V.heap.size ≤ k) w' l (wkC x.z (N, D)).2.2 (G + 1) ∧ FrL (fun k => OL k ∨ V.heap.size ≤ k) V w') := Lib.hid (fun V hV => pkWake_any hV.hl (by have := HGG.out; omega) (N, D))
  have HL := Lib.hid (wkC_len x.z (N, D))
  generalize (wkC x.z (N, D)).1 = tk at *
  generalize (wkC x.z (N, D)).2.1 = code at *
  generalize (wkC x.z (N, D)).2.2 = z' at *
  have q1 : (code != 0) = true := by simpa using hw
  clear hw
  clear hc hG
  obtain ⟨W, hW, hg, hs, hb0⟩ := alloc1 w (.cells #[.int .i64 N, .int .i64 K] 47)
  have HOL : Hid (∀ k, OL k → k < w.heap.size) := Lib.hid (fun k hk => (h.ol k hk).2.1)
  have HU := Lib.hid (h.grn hg)
  have HW := Lib.hid hW
  have HG := Lib.hid hg.below
  have HB := Lib.hid hb0
  clear h hg hs hb0 hW
  go_enter Tryz.func20, Tryz.ntmps20
  go_upto_region 1 with (fail)
  rw [HW.out]
  obtain ⟨b, hb⟩ : ∃ b, b = w.heap.size := ⟨_, rfl⟩
  rw [← hb]
  rw [← hb] at HB
  have Hb := Lib.hid hb
  clear hb HW
  have HF := Lib.hid (poFind_any HU.out N K D)
  obtain ⟨f0, f1⟩ := two HB.out
  have HWW : Hid (w.heap.size ≤ W.heap.size) := Lib.hid HG.out.size
  rw [show fdS x N K D = (N, D) by unfold fdS; rw [if_pos Hc.out], Hc.out] at HF
  go_wp2_with (go_at_call 66; fail)
  refine HF.out.mono ?_
  rintro e w1 ⟨rfl, hg1⟩
  obtain ⟨W2, hW2, hg2, _, hb2⟩ := alloc1 w1 (.cells #[.int .i64 N, .int .i64 D] 132)
  have HW2 := Lib.hid hW2
  have HG2 : Hid (Below w.heap.size w W2) := Lib.hid (HG.out.trans ((hg1.trans hg2).below.mono HG.out.size))
  have HU2 := Lib.hid ((HU.out.grn hg1).grn hg2)
  have HB2 := Lib.hid hb2
  have HBF := Lib.hid (grn_at (hg1.trans hg2) HB.out)
  have HB2Q : Hid (W.heap.size ≤ w1.heap.size) := Lib.hid hg1.below.size
  clear hW2 hg1 hg2 hb2 HF f0 f1 HU HB HG
  go_upto_region 4 with (fail)
  rw [HW2.out]
  obtain ⟨b2, hb2⟩ : ∃ b, b = w1.heap.size := ⟨_, rfl⟩
  rw [← hb2]
  rw [← hb2] at HB2
  have HB2Z : Hid (w.heap.size ≤ b2) := Lib.hid (by rw [hb2]; exact Nat.le_trans HWW.out HB2Q.out)
  clear hb2 HW2
  have HP := Lib.hid HU2.out.hp
  have HB2L : Hid (w.heap.size ≤ b2) := Lib.hid HB2Z.out
  refine wp_region_mix (fun W' => W'.heap[p]? = some (.cells #[.pointer (some ⟨t, 0, none⟩), .pointer (some ⟨l.a, 0, none⟩), .pointer (some ⟨d, 0, none⟩), .slice (some ⟨r, 0, none⟩) x.R.length rc] 68 (0, 0)) ∧ W'.heap[b2]? = some (.cells #[.int .i64 N, .int .i64 D] 132 (0, 0))) 10 [(true, 0), (true, 1), (true, 2), (true, 3), (true, 4), (false, 5), (true, 6), (true, 7), (true, 8), (true, 9)] (by kernel_rfl) (by kernel_rfl) (fun _ _ _ d _ h => by cases d <;> exact h) ?_
  have HD : Hid (Below W2.heap.size W2 W2.drew) := Lib.hid ((Grn.refl W2).drew 1).below
  have HS : Hid (W2.drew.heap[p]? = some (.cells #[.pointer (some ⟨t, 0, none⟩), .pointer (some ⟨l.a, 0, none⟩), .pointer (some ⟨d, 0, none⟩), .slice (some ⟨r, 0, none⟩) x.R.length rc] 68 (0, 0)) ∧ W2.drew.heap[b2]? = some (.cells #[.int .i64 N, .int .i64 D] 132 (0, 0))) := Lib.hid ⟨(HD.out.block _ (lt_of_block HP.out)).trans HP.out, (HD.out.block _ (lt_of_block HB2.out)).trans HB2.out⟩
  simp only [List.map_cons, List.map_nil, List.getD_cons_zero, List.getD_cons_succ, List.drop_succ_cons, List.drop_zero]
  generalize W2.drew = V at *
  refine mix_move (.tmp 0) (.pointer (some ⟨p, 0, none⟩)) rfl HS.out rfl rfl ?_
  simp only [Act.put, List.setIfInBounds_toArray, List.set_cons_zero, List.set_cons_succ]
  refine mix_take (.pointer (some ⟨p, 0, none⟩)) HS.out rfl (fun W' hS => by go_simp) ?_
  simp only [Act.put, List.setIfInBounds_toArray, List.set_cons_zero, List.set_cons_succ]
  refine mix_take (.pointer (some ⟨p, 1, none⟩)) HS.out rfl (fun W' hS => by go_simp) ?_
  simp only [Act.put, List.setIfInBounds_toArray, List.set_cons_zero, List.set_cons_succ]
  refine mix_take (.pointer (some ⟨l.a, 0, none⟩)) HS.out rfl (fun W' hS => by
    have e1 := hS.1
    obtain ⟨l0, l1, l2, l3⟩ := four e1
    go_simp) ?_
  simp only [Act.put, List.setIfInBounds_toArray, List.set_cons_zero, List.set_cons_succ]
  refine mix_take (.agg #[(.int .i64 N), (.int .i64 D)]) HS.out rfl (fun W' hS => by
    have e1 := hS.2
    obtain ⟨l0, l1⟩ := two e1
    go_simp) ?_
  simp only [Act.put, List.setIfInBounds_toArray, List.set_cons_zero, List.set_cons_succ]
  have HU3 := Lib.hid (HU2.out.grown HD.out)
  have HC2 := Lib.hid (HWK.out V HU3.out)
  have HNB : Hid (∀ k, b2 ≤ k → ¬ OL k) := Lib.hid (fun k hk hc => by have := (HOL.out k hc); have := HB2L.out; omega)
  refine mix_step rfl (fun K5 hK => ?_)
  go_simp
  go_wp2_with (go_at_call 68; fail)
  refine HC2.out.mono ?_
  rintro e w3 ⟨rfl, hl, hf⟩
  have HGV : Hid (Below w.heap.size w V) := Lib.hid (HG2.out.trans (HD.out.mono HG2.out.size))
  have hh2 := HU3.out
  obtain ⟨hu, hfo, hsub, hnl⟩ := hh2.lot rfl hl hf HL.out
  have HB4 : Hid (w3.heap[b2]? = some (.cells #[.int .i64 N, .int .i64 D] 132 (0, 0))) := Lib.hid (hfo.block HS.out.2 (HNB.out b2 (Nat.le_refl _)))
  have HS3 := Lib.hid (And.intro hu.hp HB4.out)
  refine hK _ _ HS3.out ?_
  clear hK K5
  refine mix_move (.tmp 27) (.tuple #[(.int .i64 tk), (.int .i64 code)]) rfl HS3.out rfl rfl ?_
  simp only [Act.put, List.setIfInBounds_toArray, List.set_cons_zero, List.set_cons_succ]
  refine mix_take (.int .i64 tk) HS3.out rfl (fun W' hS => by go_simp) ?_
  simp only [Act.put, List.setIfInBounds_toArray, List.set_cons_zero, List.set_cons_succ]
  refine mix_take (.int .i64 code) HS3.out rfl (fun W' hS => by go_simp) ?_
  simp only [Act.put, List.setIfInBounds_toArray, List.set_cons_zero, List.set_cons_succ]
  refine mix_take (.int .i64 tk) HS3.out rfl (fun W' hS => by go_simp) ?_
  simp only [Act.put, List.setIfInBounds_toArray, List.set_cons_zero, List.set_cons_succ]
  refine mix_nil ?_
  have HZ : Hid (w.heap.size ≤ w3.heap.size) := Lib.hid (Nat.le_trans HGV.out.size hf.size)
  have HFO : Hid (FrO O w w3) := Lib.hid ((FrO.of_below HGV.out).trans (hh2.frl hfo) (fun k hk => .inl hk))
  have HSUB := Lib.hid (fun k hk => (hsub k hk).elim .inl (fun h => .inr (Nat.le_trans HGV.out.size h)) : ∀ k, OP p t g r (OMore OL V w3) OD k → O k ∨ w.heap.size ≤ k)
  have HR := Lib.hid (⟨_, hu.at, HFO.out, HSUB.out, HZ.out⟩ : StepU w0 w O p { x with z := z' } (G + 1) P w3)
  clear hu hfo hsub hnl hl hf hh2 HFO HSUB HZ HU3 HC2 HWK HS HS3
  go_wp2_with fail
  go_ret2
  exact ⟨rfl, HR.out⟩
set_option maxRecDepth 100000 in
set_option maxHeartbeats 1600000 in
theorem poSignal_ok (h : UB w0 w O p t g c d r rc l OL OD x G P) (hG : G ≤ 900000) {N K D : Int} (hc : x.code N K D = 0) (hw : (wkC x.z (N, D)).2.1 = 0) : Calls Tryz.prog 20 #[.pointer (some ⟨p, 0, none⟩), .agg #[.int .i64 N, .int .i64 K], .int .i64 D] w fun e w' => e = .returned (.tuple #[.int .i64 (wkC x.z (N, D)).1, .int .i64 0]) ∧ StepU w0 w O p { x with z := (wkC x.z (N, D)).2.2, R := x.R.set (wkC x.z (N, D)).1.toNat 1 } (G + 1) P w' := by
  have Hc := Lib.hid hc
  have HGG := Lib.hid hG
  have HWK : Hid (∀ V, UB w0 V O p t g c d r rc l OL OD x G P → Calls Tryz.prog 68 #[.pointer (some ⟨l.a, 0, none⟩), .agg #[.int .i64 N, .int .i64 D]] V fun e w' => e = .returned (.tuple #[.int .i64 (wkC x.z (N, D)).1, .int .i64 (wkC x.z (N, D)).2.1]) ∧ LS w0.heap.size (fun k => OL k ∨ V.heap.size ≤ k) w' l (wkC x.z (N, D)).2.2 (G + 1) ∧ FrL (fun k => OL k ∨ V.heap.size ≤ k) V w') := Lib.hid (fun V hV => pkWake_any hV.hl (by have := HGG.out; omega) (N, D))
  have HL := Lib.hid (wkC_len x.z (N, D))
  obtain ⟨i, hi, hil⟩ := wkC_in h.zk hw
  rw [hw] at HWK
  rw [hi] at HWK ⊢
  rw [← h.rl] at hil
  have HI := Lib.hid hil
  have hiI : ((i : Nat) : Int) < ((x.R.length : Nat) : Int) := by omega
  have hne : Int.toNat ((i : Nat) : Int) = i := rfl
  rw [hne]
  clear hw hi hil hne
  generalize (wkC x.z (N, D)).2.2 = z' at *
  clear hc hG
  obtain ⟨W, hW, hg, hs, hb0⟩ := alloc1 w (.cells #[.int .i64 N, .int .i64 K] 47)
  have HOL : Hid (∀ k, OL k → k < w.heap.size) := Lib.hid (fun k hk => (h.ol k hk).2.1)
  have HU := Lib.hid (h.grn hg)
  have HW := Lib.hid hW
  have HG := Lib.hid hg.below
  have HB := Lib.hid hb0
  clear h hg hs hb0 hW
  go_enter Tryz.func20, Tryz.ntmps20
  go_upto_region 1 with (fail)
  rw [HW.out]
  obtain ⟨b, hb⟩ : ∃ b, b = w.heap.size := ⟨_, rfl⟩
  rw [← hb]
  rw [← hb] at HB
  have Hb := Lib.hid hb
  clear hb HW
  have HF := Lib.hid (poFind_any HU.out N K D)
  obtain ⟨f0, f1⟩ := two HB.out
  have HWW : Hid (w.heap.size ≤ W.heap.size) := Lib.hid HG.out.size
  rw [show fdS x N K D = (N, D) by unfold fdS; rw [if_pos Hc.out], Hc.out] at HF
  go_wp2_with (go_at_call 66; fail)
  refine HF.out.mono ?_
  rintro e w1 ⟨rfl, hg1⟩
  obtain ⟨W2, hW2, hg2, _, hb2⟩ := alloc1 w1 (.cells #[.int .i64 N, .int .i64 D] 132)
  have HW2 := Lib.hid hW2
  have HG2 : Hid (Below w.heap.size w W2) := Lib.hid (HG.out.trans ((hg1.trans hg2).below.mono HG.out.size))
  have HU2 := Lib.hid ((HU.out.grn hg1).grn hg2)
  have HB2 := Lib.hid hb2
  have HBF := Lib.hid (grn_at (hg1.trans hg2) HB.out)
  have HB2Q : Hid (W.heap.size ≤ w1.heap.size) := Lib.hid hg1.below.size
  clear hW2 hg1 hg2 hb2 HF f0 f1 HU HB HG
  go_upto_region 4 with (fail)
  rw [HW2.out]
  obtain ⟨b2, hb2⟩ : ∃ b, b = w1.heap.size := ⟨_, rfl⟩
  rw [← hb2]
  rw [← hb2] at HB2
  have HB2Z : Hid (w.heap.size ≤ b2) := Lib.hid (by rw [hb2]; exact Nat.le_trans HWW.out HB2Q.out)
  clear hb2 HW2
  have HP := Lib.hid HU2.out.hp
  have HB2L : Hid (w.heap.size ≤ b2) := Lib.hid HB2Z.out
  refine wp_region_mix (fun W' => W'.heap[p]? = some (.cells #[.pointer (some ⟨t, 0, none⟩), .pointer (some ⟨l.a, 0, none⟩), .pointer (some ⟨d, 0, none⟩), .slice (some ⟨r, 0, none⟩) x.R.length rc] 68 (0, 0)) ∧ W'.heap[b2]? = some (.cells #[.int .i64 N, .int .i64 D] 132 (0, 0))) 10 [(true, 0), (true, 1), (true, 2), (true, 3), (true, 4), (false, 5), (true, 6), (true, 7), (true, 8), (true, 9)] (by kernel_rfl) (by kernel_rfl) (fun _ _ _ d _ h => by cases d <;> exact h) ?_
  have HD : Hid (Below W2.heap.size W2 W2.drew) := Lib.hid ((Grn.refl W2).drew 1).below
  have HS : Hid (W2.drew.heap[p]? = some (.cells #[.pointer (some ⟨t, 0, none⟩), .pointer (some ⟨l.a, 0, none⟩), .pointer (some ⟨d, 0, none⟩), .slice (some ⟨r, 0, none⟩) x.R.length rc] 68 (0, 0)) ∧ W2.drew.heap[b2]? = some (.cells #[.int .i64 N, .int .i64 D] 132 (0, 0))) := Lib.hid ⟨(HD.out.block _ (lt_of_block HP.out)).trans HP.out, (HD.out.block _ (lt_of_block HB2.out)).trans HB2.out⟩
  simp only [List.map_cons, List.map_nil, List.getD_cons_zero, List.getD_cons_succ, List.drop_succ_cons, List.drop_zero]
  generalize W2.drew = V at *
  refine mix_move (.tmp 0) (.pointer (some ⟨p, 0, none⟩)) rfl HS.out rfl rfl ?_
  simp only [Act.put, List.setIfInBounds_toArray, List.set_cons_zero, List.set_cons_succ]
  refine mix_take (.pointer (some ⟨p, 0, none⟩)) HS.out rfl (fun W' hS => by go_simp) ?_
  simp only [Act.put, List.setIfInBounds_toArray, List.set_cons_zero, List.set_cons_succ]
  refine mix_take (.pointer (some ⟨p, 1, none⟩)) HS.out rfl (fun W' hS => by go_simp) ?_
  simp only [Act.put, List.setIfInBounds_toArray, List.set_cons_zero, List.set_cons_succ]
  refine mix_take (.pointer (some ⟨l.a, 0, none⟩)) HS.out rfl (fun W' hS => by
    have e1 := hS.1
    obtain ⟨l0, l1, l2, l3⟩ := four e1
    go_simp) ?_
  simp only [Act.put, List.setIfInBounds_toArray, List.set_cons_zero, List.set_cons_succ]
  refine mix_take (.agg #[(.int .i64 N), (.int .i64 D)]) HS.out rfl (fun W' hS => by
    have e1 := hS.2
    obtain ⟨l0, l1⟩ := two e1
    go_simp) ?_
  simp only [Act.put, List.setIfInBounds_toArray, List.set_cons_zero, List.set_cons_succ]
  have HU3 := Lib.hid (HU2.out.grown HD.out)
  have HC2 := Lib.hid (HWK.out V HU3.out)
  have HNB : Hid (∀ k, b2 ≤ k → ¬ OL k) := Lib.hid (fun k hk hc => by have := (HOL.out k hc); have := HB2L.out; omega)
  refine mix_step rfl (fun K5 hK => ?_)
  go_simp
  go_wp2_with (go_at_call 68; fail)
  refine HC2.out.mono ?_
  rintro e w3 ⟨rfl, hl, hf⟩
  have HGV : Hid (Below w.heap.size w V) := Lib.hid (HG2.out.trans (HD.out.mono HG2.out.size))
  have hh2 := HU3.out
  obtain ⟨hu, hfo, hsub, hnl⟩ := hh2.lot rfl hl hf HL.out
  have HB4 : Hid (w3.heap[b2]? = some (.cells #[.int .i64 N, .int .i64 D] 132 (0, 0))) := Lib.hid (hfo.block HS.out.2 (HNB.out b2 (Nat.le_refl _)))
  have HS3 := Lib.hid (And.intro hu.hp HB4.out)
  refine hK _ _ HS3.out ?_
  clear hK K5
  refine mix_move (.tmp 27) (.tuple #[(.int .i64 ((i : Nat) : Int)), (.int .i64 0)]) rfl HS3.out rfl rfl ?_
  simp only [Act.put, List.setIfInBounds_toArray, List.set_cons_zero, List.set_cons_succ]
  refine mix_take (.int .i64 ((i : Nat) : Int)) HS3.out rfl (fun W' hS => by go_simp) ?_
  simp only [Act.put, List.setIfInBounds_toArray, List.set_cons_zero, List.set_cons_succ]
  refine mix_take (.int .i64 0) HS3.out rfl (fun W' hS => by go_simp) ?_
  simp only [Act.put, List.setIfInBounds_toArray, List.set_cons_zero, List.set_cons_succ]
  refine mix_take (.int .i64 ((i : Nat) : Int)) HS3.out rfl (fun W' hS => by go_simp) ?_
  simp only [Act.put, List.setIfInBounds_toArray, List.set_cons_zero, List.set_cons_succ]
  refine mix_nil ?_
  have HZ : Hid (w.heap.size ≤ w3.heap.size) := Lib.hid (Nat.le_trans HGV.out.size hf.size)
  have HFO : Hid (FrO O w w3) := Lib.hid ((FrO.of_below HGV.out).trans (hh2.frl hfo) (fun k hk => .inl hk))
  have HSUB := Lib.hid (fun k hk => (hsub k hk).elim .inl (fun h => .inr (Nat.le_trans HGV.out.size h)) : ∀ k, OP p t g r (OMore OL V w3) OD k → O k ∨ w.heap.size ≤ k)
  have k3 := hu.p3
  obtain ⟨r0, r1, r2⟩ := hu.rsn HI.out
  have hput := hu.put HI.out 1
  have hfr := fr_setCell w3 ⟨r, i, none⟩ (.int .i64 1)
  have HR := Lib.hid (⟨_, hput.at, HFO.out.trans (hu.frr hfr) HSUB.out, HSUB.out, Nat.le_trans HZ.out hfr.size⟩ : StepU w0 w O p { x with z := z', R := x.R.set i 1 } (G + 1) P (w3.setCell ⟨r, i, none⟩ (.int .i64 1)))
  clear hput hfr hu hfo hsub hnl hl hf hh2 HFO HSUB HZ HU3 HC2 HWK HS HS3
  go_wp2_with fail
  go_ret2
  exact ⟨rfl, HR.out⟩
theorem poSignal_any (h : UB w0 w O p t g c d r rc l OL OD x G P) (hG : G ≤ 900000) (N K D : Int) : Calls Tryz.prog 20 #[.pointer (some ⟨p, 0, none⟩), .agg #[.int .i64 N, .int .i64 K], .int .i64 D] w fun e w' => e = .returned (.tuple #[.int .i64 (sigC x N K D).1, .int .i64 (sigC x N K D).2.1]) ∧ StepU w0 w O p (sigC x N K D).2.2 (G + 1) P w' := by
  unfold sigC
  by_cases hc : x.code N K D = 0
  · rw [if_neg (by simpa using hc)]
    by_cases hw : (wkC x.z (N, D)).2.1 = 0
    · rw [if_neg (by simpa using hw)]
      exact poSignal_ok h hG hc hw
    · rw [if_pos hw]
      exact poSignal_none h hG hc hw
  · rw [if_pos hc]
    exact (poSignal_bad h hc).mono (fun e w' q => ⟨q.1, StepU.grn (h.mono (Nat.le_succ _) (Nat.le_refl _)) q.2⟩)
end
end Go.Proofs.YtcjeckjmoponkaaGreatDoor
