/- The calls of a poller that ask one part. -/
import Derived.Test.YtcjeckjmoponkaaGreatDoorUWake
namespace Go.Proofs.YtcjeckjmoponkaaGreatDoor
open Go.RowKit Go.Sort
set_option linter.unusedVariables false
set_option linter.unusedSimpArgs false
/-- What a call that changes a poller leaves. -/
def StepU (w0 w : World) (O : Nat → Prop) (p : Nat) (x' : Px) (G P : Nat) (w' : World) : Prop := ∃ O', UAt w0 w' O' p x' G P ∧ FrO O w w' ∧ (∀ k, O' k → O k ∨ w.heap.size ≤ k) ∧ w.heap.size ≤ w'.heap.size
theorem stepC_len (c : Nat) (z : Zt) (N : Int) : (stepC c z N).2.S.length = z.S.length := by
  unfold stepC
  split
  · rfl
  · split
    · simp [Zt.step]
    · rfl
theorem pkC_len (z : Zt) (N : Int) (s : Sp) : (pkC z N s).2.S.length = z.S.length := by
  unfold pkC
  split
  · rfl
  · split
    · split
      · simp [Zt.park]
      · rfl
    · rfl
theorem wkC_len (z : Zt) (s : Sp) : (wkC z s).2.2.S.length = z.S.length := by
  unfold wkC
  split
  · split
    · rfl
    · simp [Zt.leave]
  · rfl
section
variable {w0 w w' : World} {O : Nat → Prop} {p t g c d r rc : Nat} {l : Ll} {OL OD : Nat → Prop} {x : Px} {G P : Nat}
theorem UB.stepL {z' : Zt} {G' : Nat} (h : UB w0 w O p t g c d r rc l OL OD x G P) {w2 w3 : World} (hg : Below w.heap.size w w2) (hl : LS w0.heap.size (fun k => OL k ∨ w2.heap.size ≤ k) w3 l z' G') (hf : FrL (fun k => OL k ∨ w2.heap.size ≤ k) w2 w3) (hS : z'.S.length = x.z.S.length) :
    ∃ OL1 O1, UB w0 w3 O1 p t g c d r rc l OL1 OD { x with z := z' } G' P ∧ FrO O w w3 ∧ (∀ k, O1 k → O k ∨ w.heap.size ≤ k) ∧ w.heap.size ≤ w3.heap.size := by
  have h2 := h.grown hg
  obtain ⟨hu, hfo, hsub, hnl⟩ := h2.lot rfl hl hf hS
  have hz := hg.size
  exact ⟨_, _, hu, (FrO.of_below hg).trans (h2.frl hfo) (fun k hk => .inl hk), fun k hk => (hsub k hk).elim .inl (fun h => .inr (Nat.le_trans hz h)), Nat.le_trans hz hf.size⟩
set_option maxRecDepth 100000 in
set_option maxHeartbeats 1600000 in
theorem poState_any (h : UB w0 w O p t g c d r rc l OL OD x G P) (N : Int) : Calls Tryz.prog 24 #[.pointer (some ⟨p, 0, none⟩), .int .i64 N] w fun e w' => e = .returned (.tuple #[.int .i64 (stC x.z N).1, .int .i64 (stC x.z N).2]) ∧ Below w.heap.size w w' := by
  have HU := Lib.hid h
  have HP := Lib.hid h.parts
  clear h
  go_enter Tryz.func24, Tryz.ntmps24
  go_wp2_with (go_at_call 59; fail)
  refine HP.out.mono ?_
  rintro e w2 ⟨rfl, hg2⟩
  have HG := Lib.hid hg2.below
  have HU2 := Lib.hid (HU.out.grown hg2.below)
  have hf1 := field_po1 w2
  have HC := Lib.hid (pkState_any HU2.out.hl N)
  clear hg2
  go_wp2_with (go_at_call 70; fail)
  refine HC.out.mono ?_
  rintro e w3 ⟨rfl, rfl⟩
  go_wp2_with fail
  go_ret2
  exact ⟨rfl, HG.out⟩
set_option maxRecDepth 100000 in
set_option maxHeartbeats 1600000 in
theorem poFinish_any (h : UB w0 w O p t g c d r rc l OL OD x G P) (hG : G ≤ 800000000) (N : Int) : Calls Tryz.prog 29 #[.pointer (some ⟨p, 0, none⟩), .int .i64 N] w fun e w' => e = .returned (.int .i64 (finC x N).1) ∧ StepU w0 w O p (finC x N).2 (G + 1) P w' := by
  have HU := Lib.hid h
  have HP := Lib.hid h.parts
  have HGG := Lib.hid hG
  clear h
  go_enter Tryz.func29, Tryz.ntmps29
  go_wp2_with (go_at_call 59; fail)
  refine HP.out.mono ?_
  rintro e w2 ⟨rfl, hg2⟩
  have HG := Lib.hid hg2.below
  have HU2 := Lib.hid (HU.out.grown hg2.below)
  have hf1 := field_po1 w2
  have HC := Lib.hid (pkFinish_any HU2.out.hl HGG.out N)
  clear hg2
  go_wp2_with (go_at_call 76; fail)
  refine HC.out.mono ?_
  rintro e w3 ⟨rfl, hl, hf⟩
  obtain ⟨OL1, O1, h1, h2, h3, h4⟩ := HU.out.stepL HG.out hl hf (stepC_len 3 x.z N)
  have HR := Lib.hid (⟨O1, h1.at, h2, h3, h4⟩ : StepU w0 w O p (finC x N).2 (G + 1) P w3)
  clear h1 h2 h3 h4 hl hf
  go_wp2_with fail
  go_ret
  exact ⟨rfl, HR.out⟩
set_option maxRecDepth 100000 in
set_option maxHeartbeats 1600000 in
theorem poTurn_any (h : UB w0 w O p t g c d r rc l OL OD x G P) (hG : G ≤ 800000000) (N : Int) : Calls Tryz.prog 30 #[.pointer (some ⟨p, 0, none⟩), .int .i64 N] w fun e w' => e = .returned (.int .i64 (turC x N).1) ∧ StepU w0 w O p (turC x N).2 (G + 1) P w' := by
  have HU := Lib.hid h
  have HP := Lib.hid h.parts
  have HGG := Lib.hid hG
  clear h
  go_enter Tryz.func30, Tryz.ntmps30
  go_wp2_with (go_at_call 59; fail)
  refine HP.out.mono ?_
  rintro e w2 ⟨rfl, hg2⟩
  have HG := Lib.hid hg2.below
  have HU2 := Lib.hid (HU.out.grown hg2.below)
  have hf1 := field_po1 w2
  have HC := Lib.hid (pkTurn_any HU2.out.hl HGG.out N)
  clear hg2
  go_wp2_with (go_at_call 77; fail)
  refine HC.out.mono ?_
  rintro e w3 ⟨rfl, hl, hf⟩
  obtain ⟨OL1, O1, h1, h2, h3, h4⟩ := HU.out.stepL HG.out hl hf (stepC_len 4 x.z N)
  have HR := Lib.hid (⟨O1, h1.at, h2, h3, h4⟩ : StepU w0 w O p (turC x N).2 (G + 1) P w3)
  clear h1 h2 h3 h4 hl hf
  go_wp2_with fail
  go_ret
  exact ⟨rfl, HR.out⟩
end
end Go.Proofs.YtcjeckjmoponkaaGreatDoor
