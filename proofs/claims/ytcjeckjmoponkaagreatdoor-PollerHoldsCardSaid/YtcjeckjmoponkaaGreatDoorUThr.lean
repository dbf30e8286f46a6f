/- Value, Open, Start, Reason, Where refused. -/
import Derived.Test.YtcjeckjmoponkaaGreatDoorUTwo
namespace Go.Proofs.YtcjeckjmoponkaaGreatDoor
open Go.RowKit Go.Sort
set_option linter.unusedVariables false
set_option linter.unusedSimpArgs false
section
variable {w0 w w' : World} {O : Nat → Prop} {p t g c d r rc : Nat} {l : Ll} {OL OD : Nat → Prop} {x : Px} {G P : Nat}
theorem StepU.fin {O1 : Nat → Prop} {x' : Px} {w3 w4 : World} {F : List Nat} (h : UAt w0 w3 O1 p x' G P) (hf : FrO O w w3) (hs : ∀ k, O1 k → O k ∨ w.heap.size ≤ k) (hz : w.heap.size ≤ w3.heap.size) (hF : Fr F w3 w4) (hn : ∀ k ∈ F, w.heap.size ≤ k ∧ ¬ O1 k) (hw : w0.heap.size ≤ w.heap.size) : StepU w0 w O p x' G P w4 :=
  ⟨O1, h.fr hF (fun k hk => ⟨Nat.le_trans hw (hn k hk).1, (hn k hk).2⟩), hf.trans (FrO.of_fr (O := fun k => k ∈ F) hF (fun k hk => .inl hk)) (fun k hk => .inr (hn k hk).1), hs, Nat.le_trans hz hF.size⟩
theorem StepU.grn {x' : Px} {w3 : World} (h : UB w0 w O p t g c d r rc l OL OD x' G P) (hb : Below w.heap.size w w3) : StepU w0 w O p x' G P w3 := ⟨O, (h.grown hb).at, FrO.of_below hb, fun k hk => .inl hk, hb.size⟩
set_option maxRecDepth 100000 in
set_option maxHeartbeats 1600000 in
theorem poOpen_full (h : UB w0 w O p t g c d r rc l OL OD x G P) (hn : Sl.free x.T = x.T.length) (y : Int) : Calls Tryz.prog 13 #[.pointer (some ⟨p, 0, none⟩), .int .i64 y] w fun e w' => e = .returned (.tuple #[.agg #[.int .i64 0, .int .i64 0], .int .i64 7]) ∧ Below w.heap.size w w' := by
  have HN := Lib.hid hn
  clear hn
  obtain ⟨W, hW, hg, hs, hb0⟩ := alloc1 w (.cells #[.int .i64 0, .int .i64 0] 47)
  have HU := Lib.hid (h.grn hg)
  have HW := Lib.hid hW
  have HG := Lib.hid hg.below
  have HB := Lib.hid hb0
  clear h hg hs hb0 hW
  go_enter Tryz.func13, Tryz.ntmps13
  go_upto_region 1 with (fail)
  rw [HW.out]
  obtain ⟨b, hb⟩ : ∃ b, b = w.heap.size := ⟨_, rfl⟩
  rw [← hb]
  rw [← hb] at HB
  have Hb := Lib.hid hb
  clear hb HW
  have HP := Lib.hid (HU.out.parts)
  go_wp2_with (go_at_call 59; fail)
  refine HP.out.mono ?_
  rintro e w1 ⟨rfl, hg1⟩
  have HG1 := Lib.hid (HG.out.trans (hg1.below.mono HG.out.size))
  have HB1 := Lib.hid (grn_at hg1 HB.out)
  have HU1 := Lib.hid (HU.out.grn hg1)
  have hf0 := field_po0 w1
  have HC := Lib.hid (Sl.slOpen_full HU1.out.ht HN.out y)
  clear hg1
  go_wp2_with (go_at_call 60; fail)
  refine HC.out.mono ?_
  rintro e w2 ⟨rfl, hg2⟩
  have hB2 := grn_at hg2 HB1.out
  have HG2 := Lib.hid (HG1.out.trans (hg2.below.mono HG1.out.size))
  clear hg2 hf0
  obtain ⟨b0, b1⟩ := two hB2
  have z0 := cells_free hB2 0
  have z1 := cells_free hB2 1
  have bl := lt_of_block hB2
  obtain ⟨p0, p1⟩ := two (set_two (A' := .int .i64 0) (B' := .int .i64 0) hB2)
  have HF3 : Hid (Fr [b] w2 ((w2.setCell ⟨b, 0, none⟩ (.int .i64 0)).setCell ⟨b, 1, none⟩ (.int .i64 0))) := Lib.hid ((fr_setCell w2 ⟨b, 0, none⟩ _).trans' (fr_setCell _ ⟨b, 1, none⟩ _))
  clear hB2
  go_wp2_with fail
  refine bodyPost_ret (v := .tuple #[.agg #[.int .i64 0, .int .i64 0], .int .i64 7]) (by simp [results, Tryz.results13, go_sem, p0, p1]) rfl ⟨rfl, ?_⟩
  exact HG2.out.trans (HF3.out.below (fun k hk => by simp only [List.mem_singleton] at hk; rw [hk, Hb.out]; exact Nat.le_refl _) HG2.out.size)
set_option maxRecDepth 100000 in
set_option maxHeartbeats 1600000 in
theorem poOpen_yes (h : UB w0 w O p t g c d r rc l OL OD x G P) {n : Nat} {q : Sl.Pl} (hn : Sl.free x.T = n) (hq : x.T[n]? = some q) (y : Int) : Calls Tryz.prog 13 #[.pointer (some ⟨p, 0, none⟩), .int .i64 y] w fun e w' => e = .returned (.tuple #[.agg #[.int .i64 ((n : Nat) : Int), .int .i64 ((q.g : Nat) : Int)], .int .i64 0]) ∧ StepU w0 w O p { x with T := x.T.set n ⟨true, q.g, y⟩ } G P w' := by
  have HN := Lib.hid hn
  clear hn
  have HQ := Lib.hid hq
  have HGL : Hid (g < w.heap.size ∧ w0.heap.size ≤ w.heap.size ∧ ∀ k, O k → k < w.heap.size) := Lib.hid ⟨h.ht.lg, h.below.size, fun k hk => (h.lt hk).2⟩
  clear hq
  obtain ⟨W, hW, hg, hs, hb0⟩ := alloc1 w (.cells #[.int .i64 0, .int .i64 0] 47)
  have HU := Lib.hid (h.grn hg)
  have HW := Lib.hid hW
  have HG := Lib.hid hg.below
  have HB := Lib.hid hb0
  clear h hg hs hb0 hW
  go_enter Tryz.func13, Tryz.ntmps13
  go_upto_region 1 with (fail)
  rw [HW.out]
  obtain ⟨b, hb⟩ : ∃ b, b = w.heap.size := ⟨_, rfl⟩
  rw [← hb]
  rw [← hb] at HB
  have Hb := Lib.hid hb
  clear hb HW
  have HP := Lib.hid (HU.out.parts)
  go_wp2_with (go_at_call 59; fail)
  refine HP.out.mono ?_
  rintro e w1 ⟨rfl, hg1⟩
  have HG1 := Lib.hid (HG.out.trans (hg1.below.mono HG.out.size))
  have HB1 := Lib.hid (grn_at hg1 HB.out)
  have HU1 := Lib.hid (HU.out.grn hg1)
  have hf0 := field_po0 w1
  have HC := Lib.hid (Sl.slOpen_yes HU1.out.ht HN.out HQ.out y)
  clear hg1
  go_wp2_with (go_at_call 60; fail)
  refine HC.out.mono ?_
  rintro e w2 ⟨rfl, ht2, hf2⟩
  have hB2 := hf2.same HB1.out (by have := HGL.out.1; have := Hb.out; simp; omega)
  have HU2 := Lib.hid (HU1.out.tab ht2 hf2 (by simp))
  have HF2 := Lib.hid ((FrO.of_below HG1.out).trans (HU1.out.frg hf2) (fun k hk => .inl hk))
  have HZ2 : Hid (w.heap.size ≤ w2.heap.size) := Lib.hid (Nat.le_trans HG1.out.size hf2.size)
  clear ht2 hf2 hf0
  obtain ⟨b0, b1⟩ := two hB2
  have z0 := cells_free hB2 0
  have z1 := cells_free hB2 1
  have bl := lt_of_block hB2
  obtain ⟨p0, p1⟩ := two (set_two (A' := .int .i64 ((n : Nat) : Int)) (B' := .int .i64 ((q.g : Nat) : Int)) hB2)
  have HF3 : Hid (Fr [b] w2 ((w2.setCell ⟨b, 0, none⟩ (.int .i64 ((n : Nat) : Int))).setCell ⟨b, 1, none⟩ (.int .i64 ((q.g : Nat) : Int)))) := Lib.hid ((fr_setCell w2 ⟨b, 0, none⟩ _).trans' (fr_setCell _ ⟨b, 1, none⟩ _))
  clear hB2
  go_wp2_with fail
  refine bodyPost_ret (v := .tuple #[.agg #[.int .i64 ((n : Nat) : Int), .int .i64 ((q.g : Nat) : Int)], .int .i64 0]) (by simp [results, Tryz.results13, go_sem, p0, p1]) rfl ⟨rfl, ?_⟩
  exact StepU.fin HU2.out.at HF2.out (fun k hk => .inl hk) HZ2.out HF3.out (fun k hk => by
    simp only [List.mem_singleton] at hk
    subst hk
    exact ⟨by rw [Hb.out]; exact Nat.le_refl _, fun ho => by have := HGL.out.2.2 _ ho; have := Hb.out; omega⟩) HGL.out.2.1
theorem poOpen_any (h : UB w0 w O p t g c d r rc l OL OD x G P) (y : Int) : Calls Tryz.prog 13 #[.pointer (some ⟨p, 0, none⟩), .int .i64 y] w fun e w' => e = .returned (.tuple #[.agg #[.int .i64 (opnC x y).1.1, .int .i64 (opnC x y).1.2], .int .i64 (opnC x y).2.1]) ∧ StepU w0 w O p (opnC x y).2.2 G P w' := by
  unfold opnC
  cases hf : x.T[Sl.free x.T]? with
  | none =>
    have hl : Sl.free x.T = x.T.length := Nat.le_antisymm (Sl.free_le _) (List.getElem?_eq_none_iff.1 hf)
    exact (poOpen_full h hl y).mono (fun e w' q => ⟨q.1, StepU.grn h q.2⟩)
  | some q => exact poOpen_yes h rfl hf y
theorem UB.rsn (h : UB w0 w O p t g c d r rc l OL OD x G P) {i : Nat} (hi : i < x.R.length) : w.cell? ⟨r, i, none⟩ = some (.int .i64 x.R[i]) ∧ w.frozen? ⟨r, i, none⟩ = false ∧ r < w.heap.size := by
  obtain ⟨g2, c2, hg2, _, lg2, fz, kk⟩ := Row.at TRs_ok h.hr (List.getElem?_eq_getElem hi)
  simp only [Value.slice.injEq, Option.some.injEq, Addr.mk.injEq] at hg2
  obtain ⟨⟨rfl, -, -⟩, -, rfl⟩ := hg2
  have kr := kk 0 _ rfl
  have hoff : i * TRs.s + 0 = i := by show i * 1 + 0 = i; omega
  rw [hoff] at kr
  exact ⟨kr, fz i, lg2⟩
theorem stC_ok {z : Zt} {N : Int} (h : (stC z N).2 = 0) : ∃ i : Nat, N = ((i : Nat) : Int) ∧ i < z.S.length := by
  rcases numI_or z N with ⟨e, _⟩ | ⟨i, rfl, hi, e⟩
  · unfold stC at h; rw [e] at h; simp at h
  · exact ⟨i, rfl, hi⟩
theorem stepC_ok {c : Nat} {z : Zt} {N : Int} (h : (stepC c z N).1 = 0) : ∃ i : Nat, N = ((i : Nat) : Int) ∧ i < z.S.length := by
  rcases numI_or z N with ⟨e, _⟩ | ⟨i, rfl, hi, e⟩
  · unfold stepC at h; rw [e] at h; simp at h
  · exact ⟨i, rfl, hi⟩
set_option maxRecDepth 100000 in
set_option maxHeartbeats 1600000 in
theorem poReason_err (h : UB w0 w O p t g c d r rc l OL OD x G P) {N : Int} (hc : (stC x.z N).2 ≠ 0) : Calls Tryz.prog 23 #[.pointer (some ⟨p, 0, none⟩), .int .i64 N] w fun e w' => e = .returned (.tuple #[.int .i64 0, .int .i64 (stC x.z N).2]) ∧ Below w.heap.size w w' := by
  have HC := Lib.hid (poState_any h N)
  have HU := Lib.hid h
  generalize (stC x.z N).1 = st at *
  generalize (stC x.z N).2 = code at *
  have q0 : (code != 0) = true := by simpa using hc
  clear hc h
  go_enter Tryz.func23, Tryz.ntmps23
  go_wp2_with (go_at_call 24; fail)
  refine HC.out.mono ?_
  rintro e w1 ⟨rfl, hb1⟩
  have HB := Lib.hid hb1
  clear hb1
  go_wp2_with fail
  go_ret2
  exact ⟨rfl, HB.out⟩
set_option maxRecDepth 100000 in
set_option maxHeartbeats 1600000 in
theorem poReason_state (h : UB w0 w O p t g c d r rc l OL OD x G P) {N : Int} (hc : (stC x.z N).2 = 0) (hs : (stC x.z N).1 ≠ 1) : Calls Tryz.prog 23 #[.pointer (some ⟨p, 0, none⟩), .int .i64 N] w fun e w' => e = .returned (.tuple #[.int .i64 0, .int .i64 8]) ∧ Below w.heap.size w w' := by
  have HC := Lib.hid (poState_any h N)
  have HU := Lib.hid h
  rw [hc] at HC
  generalize (stC x.z N).1 = st at *
  have q1 : (st != 1) = true := by simpa using hs
  clear hc hs h
  go_enter Tryz.func23, Tryz.ntmps23
  go_wp2_with (go_at_call 24; fail)
  refine HC.out.mono ?_
  rintro e w1 ⟨rfl, hb1⟩
  have HB := Lib.hid hb1
  clear hb1
  go_wp2_with fail
  go_ret2
  exact ⟨rfl, HB.out⟩
set_option maxRecDepth 100000 in
set_option maxHeartbeats 1600000 in
theorem poReason_ok (h : UB w0 w O p t g c d r rc l OL OD x G P) {N : Int} (hc : (stC x.z N).2 = 0) (hs : (stC x.z N).1 = 1) : Calls Tryz.prog 23 #[.pointer (some ⟨p, 0, none⟩), .int .i64 N] w fun e w' => e = .returned (.tuple #[.int .i64 (x.R.getD N.toNat 0), .int .i64 0]) ∧ Below w.heap.size w w' := by
  have HC := Lib.hid (poState_any h N)
  have HU := Lib.hid h
  obtain ⟨i, rfl, hi⟩ := stC_ok hc
  rw [← h.rl] at hi
  have HI := Lib.hid hi
  have hiI : ((i : Nat) : Int) < ((x.R.length : Nat) : Int) := by omega
  rw [hc, hs] at HC
  clear hi hc hs h
  go_enter Tryz.func23, Tryz.ntmps23
  go_wp2_with (go_at_call 24; fail)
  refine HC.out.mono ?_
  rintro e w1 ⟨rfl, hb1⟩
  have HB := Lib.hid hb1
  have hu := HU.out.grown hb1
  have k3 := hu.p3
  obtain ⟨r0, _, _⟩ := hu.rsn HI.out
  have HV : Hid (x.R.getD (((i : Nat) : Int)).toNat 0 = x.R[i]'(HI.out)) := Lib.hid (by simp [HI.out])
  clear hu
  generalize x.R[i]'(HI.out) = rv at *
  clear hb1
  go_wp2_with fail
  go_ret2
  exact ⟨by rw [HV.out]; rfl, HB.out⟩
theorem poReason_any (h : UB w0 w O p t g c d r rc l OL OD x G P) (N : Int) : Calls Tryz.prog 23 #[.pointer (some ⟨p, 0, none⟩), .int .i64 N] w fun e w' => e = .returned (.tuple #[.int .i64 (rsnC x N).1, .int .i64 (rsnC x N).2]) ∧ Below w.heap.size w w' := by
  unfold rsnC
  by_cases h1 : (stC x.z N).2 = 0
  · rw [if_neg (by simpa using h1)]
    by_cases h2 : (stC x.z N).1 = 1
    · rw [if_neg (by simpa using h2)]
      exact poReason_ok h h1 h2
    · rw [if_pos h2]
      exact poReason_state h h1 h2
  · rw [if_pos h1]
    exact poReason_err h h1
set_option maxRecDepth 100000 in
set_option maxHeartbeats 1600000 in
theorem poStart_err (h : UB w0 w O p t g c d r rc l OL OD x G P) (hG : G ≤ 800000000) {N : Int} (hc : (stepC 0 x.z N).1 ≠ 0) : Calls Tryz.prog 28 #[.pointer (some ⟨p, 0, none⟩), .int .i64 N] w fun e w' => e = .returned (.int .i64 (stepC 0 x.z N).1) ∧ StepU w0 w O p { x with z := (stepC 0 x.z N).2 } (G + 1) P w' := by
  have HP := Lib.hid h.parts
  have HU := Lib.hid h
  have HGG := Lib.hid hG
  have HCC := Lib.hid hc
  have q0 : ((stepC 0 x.z N).1 == 0) = false := by simpa using hc
  clear hc h hG
  go_enter Tryz.func28, Tryz.ntmps28
  go_wp2_with (go_at_call 59; fail)
  refine HP.out.mono ?_
  rintro e w1 ⟨rfl, hg1⟩
  have HG := Lib.hid hg1.below
  have hf1 := field_po1 w1
  have HC := Lib.hid (pkStart_any (HU.out.grn hg1).hl HGG.out N)
  clear hg1
  go_wp2_with (go_at_call 75; fail)
  refine HC.out.mono ?_
  rintro e w2 ⟨rfl, hl, hf⟩
  obtain ⟨OL1, O1, h1, h2, h3, h4⟩ := HU.out.stepL HG.out hl hf (stepC_len 0 x.z N)
  have HR := Lib.hid (⟨O1, h1.at, h2, h3, h4⟩ : StepU w0 w O p { x with z := (stepC 0 x.z N).2 } (G + 1) P w2)
  clear h1 h2 h3 h4 hl hf hf1
  go_wp2_with fail
  go_ret
  exact ⟨rfl, HR.out⟩
set_option maxRecDepth 100000 in
set_option maxHeartbeats 1600000 in
theorem poStart_ok (h : UB w0 w O p t g c d r rc l OL OD x G P) (hG : G ≤ 800000000) {N : Int} (hc : (stepC 0 x.z N).1 = 0) : Calls Tryz.prog 28 #[.pointer (some ⟨p, 0, none⟩), .int .i64 N] w fun e w' => e = .returned (.int .i64 0) ∧ StepU w0 w O p { x with z := (stepC 0 x.z N).2, R := x.R.set N.toNat 0 } (G + 1) P w' := by
  have HP := Lib.hid h.parts
  have HU := Lib.hid h
  have HGG := Lib.hid hG
  obtain ⟨i, rfl, hi⟩ := stepC_ok hc
  rw [← h.rl] at hi
  have HI := Lib.hid hi
  have hiI : ((i : Nat) : Int) < ((x.R.length : Nat) : Int) := by omega
  have HCC := Lib.hid hc
  clear hi hc h hG
  go_enter Tryz.func28, Tryz.ntmps28
  go_wp2_with (go_at_call 59; fail)
  refine HP.out.mono ?_
  rintro e w1 ⟨rfl, hg1⟩
  have HG := Lib.hid hg1.below
  have hf1 := field_po1 w1
  have HC := Lib.hid (pkStart_any (HU.out.grn hg1).hl HGG.out ((i : Nat) : Int))
  rw [HCC.out] at HC
  clear hg1
  go_wp2_with (go_at_call 75; fail)
  refine HC.out.mono ?_
  rintro e w2 ⟨rfl, hl, hf⟩
  obtain ⟨OL1, O1, h1, h2, h3, h4⟩ := HU.out.stepL HG.out hl hf (stepC_len 0 x.z ((i : Nat) : Int))
  have k3 := h1.p3
  obtain ⟨r0, r1, r2⟩ := h1.rsn HI.out
  have hput := h1.put HI.out 0
  have hfr := fr_setCell w2 ⟨r, i, none⟩ (.int .i64 0)
  have HR := Lib.hid (⟨O1, hput.at, h2.trans (h1.frr hfr) h3, h3, Nat.le_trans h4 hfr.size⟩ : StepU w0 w O p { x with z := (stepC 0 x.z ((i : Nat) : Int)).2, R := x.R.set i 0 } (G + 1) P (w2.setCell ⟨r, i, none⟩ (.int .i64 0)))
  clear h1 h2 h3 h4 hl hf hf1 hput hfr
  go_wp2_with fail
  go_ret
  exact ⟨rfl, HR.out⟩
theorem poStart_any (h : UB w0 w O p t g c d r rc l OL OD x G P) (hG : G ≤ 800000000) (N : Int) : Calls Tryz.prog 28 #[.pointer (some ⟨p, 0, none⟩), .int .i64 N] w fun e w' => e = .returned (.int .i64 (staC x N).1) ∧ StepU w0 w O p (staC x N).2 (G + 1) P w' := by
  unfold staC
  by_cases hc : (stepC 0 x.z N).1 = 0
  · simp only [hc, if_true]
    exact poStart_ok h hG hc
  · simp only [hc, if_false]
    exact poStart_err h hG hc
end
end Go.Proofs.YtcjeckjmoponkaaGreatDoor
