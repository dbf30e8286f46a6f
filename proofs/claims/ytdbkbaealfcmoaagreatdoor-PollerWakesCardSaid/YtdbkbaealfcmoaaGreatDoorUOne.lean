/- The calls of a poller that ask one part. -/
import Derived.Test.YtdbkbaealfcmoaaGreatDoorUWake
namespace Go.Proofs.YtdbkbaealfcmoaaGreatDoor
open Go.RowKit Go.Sort
set_option linter.unusedVariables false
set_option linter.unusedSimpArgs false
/-- What a call that changes a poller leaves. -/
def StepU (w0 w : World) (O : Nat → Prop) (p : Nat) (x' : Px) (G P : Nat) (w' : World) : Prop := ∃ O', UAt w0 w' O' p x' G P ∧ FrO O w w' ∧ (∀ k, O' k → O k ∨ w.heap.size ≤ k) ∧ w.heap.size ≤ w'.heap.size
theorem stepC_len (c : Nat) (z : Zt) (N : Int) : (stepC c z N).2.S.length = z.S.length := by
  unfold stepC
  split
  · rfl
  · split
    · simp [Zt.step]
    · rfl
theorem pkC_len (z : Zt) (N : Int) (s : Sp) : (pkC z N s).2.S.length = z.S.length := by
  unfold pkC
  split
  · rfl
  · split
    · split
      · simp [Zt.park]
      · rfl
    · rfl
theorem wkC_len (z : Zt) (s : Sp) : (wkC z s).2.2.S.length = z.S.length := by
  unfold wkC
  split
  · split
    · rfl
    · simp [Zt.leave]
  · rfl
theorem NoU.parts0 {w : World} : NoL w (.pointer none) := .inl rfl
section
variable {w0 w w' : World} {O : Nat → Prop} {p t g c d r rc : Nat} {l : Ll} {OL OD : Nat → Prop} {x : Px} {G P : Nat}
theorem UB.stepL {z' : Zt} {G' : Nat} (h : UB w0 w O p t g c d r rc l OL OD x G P) {w2 w3 : World} (hg : Below w.heap.size w w2) (hl : LS w0.heap.size (fun k => OL k ∨ w2.heap.size ≤ k) w3 l z' G') (hf : FrL (fun k => OL k ∨ w2.heap.size ≤ k) w2 w3) (hS : z'.S.length = x.z.S.length) :
    ∃ OL1 O1, UB w0 w3 O1 p t g c d r rc l OL1 OD { x with z := z' } G' P ∧ FrO O w w3 ∧ (∀ k, O1 k → O k ∨ w.heap.size ≤ k) ∧ w.heap.size ≤ w3.heap.size := by
  have h2 := h.grown hg
  obtain ⟨hu, hfo, hsub, hnl⟩ := h2.lot rfl hl hf hS
  have hz := hg.size
  exact ⟨_, _, hu, (FrO.of_below hg).trans (h2.frl hfo) (fun k hk => .inl hk), fun k hk => (hsub k hk).elim .inl (fun h => .inr (Nat.le_trans hz h)), Nat.le_trans hz hf.size⟩
set_option maxRecDepth 100000 in
set_option maxHeartbeats 1600000 in
theorem poState_any (h : UB w0 w O p t g c d r rc l OL OD x G P) (N : Int) : Calls Tryz.prog 24 #[.pointer (some ⟨p, 0, none⟩), .int .i64 N] w fun e w' => e = .returned (.tuple #[.int .i64 (stC x.z N).1, .int .i64 (stC x.z N).2]) ∧ Below w.heap.size w w' := by
  have HU := Lib.hid h
  have HP := Lib.hid h.parts
  clear h
  go_enter Tryz.func24, Tryz.ntmps24
  go_wp2_with (go_at_call 59; fail)
  refine HP.out.mono ?_
  rintro e w2 ⟨rfl, hg2⟩
  have HG := Lib.hid hg2.below
  have HU2 := Lib.hid (HU.out.grown hg2.below)
  have hf1 := field_po1 w2
  have HC := Lib.hid (pkState_any HU2.out.hl N)
  clear hg2
  go_wp2_with (go_at_call 70; fail)
  refine HC.out.mono ?_
  rintro e w3 ⟨rfl, rfl⟩
  go_wp2_with fail
  go_ret2
  exact ⟨rfl, HG.out⟩
set_option maxRecDepth 100000 in
set_option maxHeartbeats 1600000 in
theorem poState_nil {v : Value} (h : NoU w v) (N : Int) : Calls Tryz.prog 24 #[v, .int .i64 N] w fun e w' => e = .returned (.tuple #[.int .i64 0, .int .i64 1]) ∧ Below w.heap.size w w' := by
  have HP := Lib.hid (poParts_no h)
  obtain ⟨a, rfl⟩ := h.form
  clear h
  go_enter Tryz.func24, Tryz.ntmps24
  go_wp2_with (go_at_call 59; fail)
  refine HP.out.mono ?_
  rintro e w2 ⟨rfl, hg2⟩
  have HG := Lib.hid hg2.below
  have hf1 := field_po1 w2
  have HC := Lib.hid (pkState_nil (w := w2) (v := .pointer none) NoU.parts0 N)
  clear hg2
  go_wp2_with (go_at_call 70; fail)
  refine HC.out.mono ?_
  rintro e w3 ⟨rfl, rfl⟩
  go_wp2_with fail
  go_ret2
  exact ⟨rfl, HG.out⟩
set_option maxRecDepth 100000 in
set_option maxHeartbeats 1600000 in
theorem poFinish_any (h : UB w0 w O p t g c d r rc l OL OD x G P) (hG : G ≤ 800000000) (N : Int) : Calls Tryz.prog 29 #[.pointer (some ⟨p, 0, none⟩), .int .i64 N] w fun e w' => e = .returned (.int .i64 (finC x N).1) ∧ StepU w0 w O p (finC x N).2 (G + 1) P w' := by
  have HU := Lib.hid h
  have HP := Lib.hid h.parts
  have HGG := Lib.hid hG
  clear h
  go_enter Tryz.func29, Tryz.ntmps29
  go_wp2_with (go_at_call 59; fail)
  refine HP.out.mono ?_
  rintro e w2 ⟨rfl, hg2⟩
  have HG := Lib.hid hg2.below
  have HU2 := Lib.hid (HU.out.grown hg2.below)
  have hf1 := field_po1 w2
  have HC := Lib.hid (pkFinish_any HU2.out.hl HGG.out N)
  clear hg2
  go_wp2_with (go_at_call 76; fail)
  refine HC.out.mono ?_
  rintro e w3 ⟨rfl, hl, hf⟩
  obtain ⟨OL1, O1, h1, h2, h3, h4⟩ := HU.out.stepL HG.out hl hf (stepC_len 3 x.z N)
  have HR := Lib.hid (⟨O1, h1.at, h2, h3, h4⟩ : StepU w0 w O p (finC x N).2 (G + 1) P w3)
  clear h1 h2 h3 h4 hl hf
  go_wp2_with fail
  go_ret
  exact ⟨rfl, HR.out⟩
set_option maxRecDepth 100000 in
set_option maxHeartbeats 1600000 in
theorem poFinish_nil {v : Value} (h : NoU w v) (N : Int) : Calls Tryz.prog 29 #[v, .int .i64 N] w fun e w' => e = .returned (.int .i64 1) ∧ Below w.heap.size w w' := by
  have HP := Lib.hid (poParts_no h)
  obtain ⟨a, rfl⟩ := h.form
  clear h
  go_enter Tryz.func29, Tryz.ntmps29
  go_wp2_with (go_at_call 59; fail)
  refine HP.out.mono ?_
  rintro e w2 ⟨rfl, hg2⟩
  have HG := Lib.hid hg2.below
  have hf1 := field_po1 w2
  have HC := Lib.hid (pkFinish_nil (w := w2) (v := .pointer none) NoU.parts0 N)
  clear hg2
  go_wp2_with (go_at_call 76; fail)
  refine HC.out.mono ?_
  rintro e w3 ⟨rfl, rfl⟩
  go_wp2_with fail
  go_ret
  exact ⟨rfl, HG.out⟩
set_option maxRecDepth 100000 in
set_option maxHeartbeats 1600000 in
theorem poTurn_any (h : UB w0 w O p t g c d r rc l OL OD x G P) (hG : G ≤ 800000000) (N : Int) : Calls Tryz.prog 30 #[.pointer (some ⟨p, 0, none⟩), .int .i64 N] w fun e w' => e = .returned (.int .i64 (turC x N).1) ∧ StepU w0 w O p (turC x N).2 (G + 1) P w' := by
  have HU := Lib.hid h
  have HP := Lib.hid h.parts
  have HGG := Lib.hid hG
  clear h
  go_enter Tryz.func30, Tryz.ntmps30
  go_wp2_with (go_at_call 59; fail)
  refine HP.out.mono ?_
  rintro e w2 ⟨rfl, hg2⟩
  have HG := Lib.hid hg2.below
  have HU2 := Lib.hid (HU.out.grown hg2.below)
  have hf1 := field_po1 w2
  have HC := Lib.hid (pkTurn_any HU2.out.hl HGG.out N)
  clear hg2
  go_wp2_with (go_at_call 77; fail)
  refine HC.out.mono ?_
  rintro e w3 ⟨rfl, hl, hf⟩
  obtain ⟨OL1, O1, h1, h2, h3, h4⟩ := HU.out.stepL HG.out hl hf (stepC_len 4 x.z N)
  have HR := Lib.hid (⟨O1, h1.at, h2, h3, h4⟩ : StepU w0 w O p (turC x N).2 (G + 1) P w3)
  clear h1 h2 h3 h4 hl hf
  go_wp2_with fail
  go_ret
  exact ⟨rfl, HR.out⟩
set_option maxRecDepth 100000 in
set_option maxHeartbeats 1600000 in
theorem poTurn_nil {v : Value} (h : NoU w v) (N : Int) : Calls Tryz.prog 30 #[v, .int .i64 N] w fun e w' => e = .returned (.int .i64 1) ∧ Below w.heap.size w w' := by
  have HP := Lib.hid (poParts_no h)
  obtain ⟨a, rfl⟩ := h.form
  clear h
  go_enter Tryz.func30, Tryz.ntmps30
  go_wp2_with (go_at_call 59; fail)
  refine HP.out.mono ?_
  rintro e w2 ⟨rfl, hg2⟩
  have HG := Lib.hid hg2.below
  have hf1 := field_po1 w2
  have HC := Lib.hid (pkTurn_nil (w := w2) (v := .pointer none) NoU.parts0 N)
  clear hg2
  go_wp2_with (go_at_call 77; fail)
  refine HC.out.mono ?_
  rintro e w3 ⟨rfl, rfl⟩
  go_wp2_with fail
  go_ret
  exact ⟨rfl, HG.out⟩
set_option maxRecDepth 100000 in
set_option maxHeartbeats 1600000 in
theorem poReady_any (h : UB w0 w O p t g c d r rc l OL OD x G P) (hG : G ≤ 1000000) : Calls Tryz.prog 31 #[.pointer (some ⟨p, 0, none⟩)] w fun e w' => ∃ v, e = .returned v ∧ Row TI w' w.heap.size v x.z.R ∧ Below w.heap.size w w' := by
  have HU := Lib.hid h
  have HP := Lib.hid h.parts
  have HGG := Lib.hid hG
  clear h
  go_enter Tryz.func31, Tryz.ntmps31
  go_wp2_with (go_at_call 59; fail)
  refine HP.out.mono ?_
  rintro e w2 ⟨rfl, hg2⟩
  have HG := Lib.hid hg2.below
  have HU2 := Lib.hid (HU.out.grown hg2.below)
  have hf1 := field_po1 w2
  have HC := Lib.hid (pkReady_any HU2.out.hl HGG.out)
  clear hg2
  go_wp2_with (go_at_call 78; fail)
  refine HC.out.mono ?_
  rintro e w3 ⟨v, rfl, hr, hb⟩
  have HR := Lib.hid (hr.lower HG.out.size)
  have HB := Lib.hid (HG.out.trans (hb.mono HG.out.size))
  clear hr hb
  go_wp2_with fail
  go_ret
  exact ⟨_, rfl, HR.out, HB.out⟩
set_option maxRecDepth 100000 in
set_option maxHeartbeats 1600000 in
theorem poReady_nil {v : Value} (h : NoU w v) : Calls Tryz.prog 31 #[v] w fun e w' => e = .returned (.slice none 0 0) ∧ Below w.heap.size w w' := by
  have HP := Lib.hid (poParts_no h)
  obtain ⟨a, rfl⟩ := h.form
  clear h
  go_enter Tryz.func31, Tryz.ntmps31
  go_wp2_with (go_at_call 59; fail)
  refine HP.out.mono ?_
  rintro e w2 ⟨rfl, hg2⟩
  have HG := Lib.hid hg2.below
  have hf1 := field_po1 w2
  have HC := Lib.hid (pkReady_nil (w := w2) (v := .pointer none) NoU.parts0)
  clear hg2
  go_wp2_with (go_at_call 78; fail)
  refine HC.out.mono ?_
  rintro e w3 ⟨rfl, rfl⟩
  go_wp2_with fail
  go_ret
  exact ⟨rfl, HG.out⟩
set_option maxRecDepth 100000 in
set_option maxHeartbeats 1600000 in
theorem poNow_any (h : UB w0 w O p t g c d r rc l OL OD x G P) : Calls Tryz.prog 32 #[.pointer (some ⟨p, 0, none⟩)] w fun e w' => e = .returned (.int .u64 x.now) ∧ Below w.heap.size w w' := by
  have HU := Lib.hid h
  have HP := Lib.hid h.parts
  clear h
  go_enter Tryz.func32, Tryz.ntmps32
  go_wp2_with (go_at_call 59; fail)
  refine HP.out.mono ?_
  rintro e w2 ⟨rfl, hg2⟩
  have HG := Lib.hid hg2.below
  have HU2 := Lib.hid (HU.out.grown hg2.below)
  have hf2 := field_po2 w2
  have HC := Lib.hid (Dl.jNow_yes HU2.out.hd)
  clear hg2
  go_wp2_with (go_at_call 79; fail)
  refine HC.out.mono ?_
  rintro e w3 ⟨rfl, rfl⟩
  go_wp2_with fail
  go_ret
  exact ⟨rfl, HG.out⟩
set_option maxRecDepth 100000 in
set_option maxHeartbeats 1600000 in
theorem poNow_nil {v : Value} (h : NoU w v) : Calls Tryz.prog 32 #[v] w fun e w' => e = .returned (.int .u64 0) ∧ Below w.heap.size w w' := by
  have HP := Lib.hid (poParts_no h)
  obtain ⟨a, rfl⟩ := h.form
  clear h
  go_enter Tryz.func32, Tryz.ntmps32
  go_wp2_with (go_at_call 59; fail)
  refine HP.out.mono ?_
  rintro e w2 ⟨rfl, hg2⟩
  have HG := Lib.hid hg2.below
  have hf2 := field_po2 w2
  have HC := Lib.hid (Dl.jNow_dead (w := w2) (Dl.deadj_nil w2))
  clear hg2
  go_wp2_with (go_at_call 79; fail)
  refine HC.out.mono ?_
  rintro e w3 ⟨rfl, hg3⟩
  have HB := Lib.hid (HG.out.trans (hg3.below.mono HG.out.size))
  clear hg3
  go_wp2_with fail
  go_ret
  exact ⟨rfl, HB.out⟩
set_option maxRecDepth 100000 in
set_option maxHeartbeats 1600000 in
theorem poNext_any (h : UB w0 w O p t g c d r rc l OL OD x G P) : Calls Tryz.prog 33 #[.pointer (some ⟨p, 0, none⟩)] w fun e w' => ∃ v, e = .returned (.int .u64 v) ∧ Dl.IsNext x.now x.f v ∧ Below w.heap.size w w' := by
  have HU := Lib.hid h
  have HP := Lib.hid h.parts
  clear h
  go_enter Tryz.func33, Tryz.ntmps33
  go_wp2_with (go_at_call 59; fail)
  refine HP.out.mono ?_
  rintro e w2 ⟨rfl, hg2⟩
  have HG := Lib.hid hg2.below
  have HU2 := Lib.hid (HU.out.grown hg2.below)
  have hf2 := field_po2 w2
  have HC := Lib.hid (Dl.jNext_yes HU2.out.hd)
  clear hg2
  go_wp2_with (go_at_call 80; fail)
  refine HC.out.mono ?_
  rintro e w3 ⟨v, rfl, hn, hg⟩
  have HN := Lib.hid hn
  have HB := Lib.hid (HG.out.trans (hg.below.mono HG.out.size))
  clear hn hg
  go_wp2_with fail
  go_ret
  exact ⟨_, rfl, HN.out, HB.out⟩
set_option maxRecDepth 100000 in
set_option maxHeartbeats 1600000 in
theorem poNext_nil {v : Value} (h : NoU w v) : Calls Tryz.prog 33 #[v] w fun e w' => e = .returned (.int .u64 18446744073709551615) ∧ Below w.heap.size w w' := by
  have HP := Lib.hid (poParts_no h)
  obtain ⟨a, rfl⟩ := h.form
  clear h
  go_enter Tryz.func33, Tryz.ntmps33
  go_wp2_with (go_at_call 59; fail)
  refine HP.out.mono ?_
  rintro e w2 ⟨rfl, hg2⟩
  have HG := Lib.hid hg2.below
  have hf2 := field_po2 w2
  have HC := Lib.hid (Dl.jNext_dead (w := w2) (Dl.deadj_nil w2))
  clear hg2
  go_wp2_with (go_at_call 80; fail)
  refine HC.out.mono ?_
  rintro e w3 ⟨rfl, hg3⟩
  have HB := Lib.hid (HG.out.trans (hg3.below.mono HG.out.size))
  clear hg3
  go_wp2_with fail
  go_ret
  exact ⟨rfl, HB.out⟩
end
end Go.Proofs.YtdbkbaealfcmoaaGreatDoor
