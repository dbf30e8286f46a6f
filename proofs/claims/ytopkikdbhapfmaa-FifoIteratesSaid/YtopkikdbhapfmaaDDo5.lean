/- The law's do: Copy. -/
import Derived.Test.YtopkikdbhapfmaaDSt
namespace Go.Proofs.Ytopkikdbhapfmaa
open Go.RowKit Go.Sort Go.MapKept
set_option linter.unusedVariables false
set_option linter.unusedSimpArgs false

theorem row_keep {w0 w w' : World} {q b m g base : Nat} {v : Value} {L L2 : Qu} (hK : KQ w0 w q b m L2 g) (hR : RowR w base v L) (hf : Fr [b, m] w w') : RowR w' base v L :=
  hR.fr hf (fun g' hg' => by
    have h1 := hR.ne hK.Q.b (by decide) g' hg'
    have h2 := hR.nmap hK.Q.m g' hg'
    simp [h1, h2])

set_option maxRecDepth 100000 in
set_option maxHeartbeats 6400000 in
theorem do_copy {w0 w : World} {q b m g : Nat} {v : Value} {L : Qu} (h : DSt w0 w q b m v (L) g) (hg : g ≤ 900) (x0 x1 : Int) (X : Nat) (e0 : (x0 == 0) = false) (e1 : (x0 == 1) = false) (e2 : (x0 == 2) = false) (e3 : (x0 == 3) = false) :
    Calls Try.prog 10 #[.pointer (some ⟨q, 0, none⟩), rq v g, .agg #[.int .i64 x0, .int .i64 x1, .int .u64 ((X : Nat) : Int)]] w (DoPost w0 w b m g) := by
  obtain ⟨va, vc, rfl, hv1, hv2⟩ := h.R.form
  have hlg := h.len
  obtain ⟨N, hN⟩ : ∃ N, N = (L).length := ⟨_, rfl⟩
  rw [← hN] at h hv1 hlg ⊢
  obtain ⟨W, hW, hb, hs, h0, h1, h2⟩ := do_blocks w (.cells #[.slice va N vc, .int .u64 ((g : Nat) : Int)] 29) (.cells #[.int .i64 x0, .int .i64 x1, .int .u64 ((X : Nat) : Int)] 31) (.cells #[.slice none 0 0, .int .u64 0] 29)
  have HD := Lib.hid (h.grown hb)
  have HB := Lib.hid hb
  have HS := Lib.hid hs
  have H0 := Lib.hid h0
  have H1 := Lib.hid h1
  have H2 := Lib.hid h2
  have HN := Lib.hid hN
  have HLG := Lib.hid hlg
  have HG := Lib.hid hg
  have HW0 := Lib.hid h.K.below.size
  have k10 := cells_cell (o := 0) h1 rfl
  have k12 := cells_cell (o := 2) h1 rfl
  have s1 : w.heap.size + 1 < W.heap.size := by omega
  clear h hb hs h0 h1 h2 hN hlg hg
  unfold rq
  go_enter Try.func10, Try.ntmps10
  go_wp2_with (go_at_call 22; fail)
  clear hW
  refine (fiCopy_yes HD.out.K.Q).mono ?_
  rintro e w1 ⟨q', b', m', rfl, hq1, hg1, p1, p2, p3⟩
  have hb1 := hg1.below
  have HC1 : Hid (KQ w0 w1 q' b' m' L g) := Lib.hid (by
    have hz := HD.out.K.below.size
    exact ⟨hq1, HD.out.K.below.trans (hb1.mono hz), by omega, by omega, by omega⟩)
  have HBM : Hid (b < W.heap.size ∧ m < W.heap.size ∧ W.heap.size ≤ q' ∧ W.heap.size ≤ b' ∧ W.heap.size ≤ m') := Lib.hid ⟨HD.out.K.Q.lb, HD.out.K.Q.lm, p1, p2, p3⟩
  clear hg1 hq1 p1 p2 p3
  have H01 := Lib.hid ((hb1.block _ (lt_of_block H0.out)).trans H0.out)
  have H11 := Lib.hid ((hb1.block _ (lt_of_block H1.out)).trans H1.out)
  have H21 := Lib.hid ((hb1.block _ (lt_of_block H2.out)).trans H2.out)
  have HK1 := Lib.hid (HD.out.K.grown hb1)
  have HFr1 := Lib.hid ((Fr.of_below HB.out [b, m]).trans' (Fr.of_below hb1 _))
  have HR1 := Lib.hid (HD.out.R.below hb1)
  clear hb1 HD k10 k12 H0 H1 H2 s1
  go_wp2_with (go_at_call 16; fail)
  obtain ⟨r, L2, hcall, hlen⟩ : ∃ (r : Value) (L2 : Qu), Calls Try.prog 16 #[.pointer (some ⟨q, 0, none⟩)] w1 (fun e w' => e = .returned r ∧ QAt w' q b m L2 g ∧ Fr [b, m] w1 w') ∧ L2.length ≤ L.length := by
    rcases L with _ | ⟨⟨t, x⟩, R⟩
    · refine ⟨.tuple #[.int .i64 0, .int .u64 0, .int .i64 9], [], (fiPop_empty HK1.out.Q).mono ?_, Nat.le_refl _⟩
      rintro e w' ⟨rfl, rfl⟩
      exact ⟨rfl, HK1.out.Q, Fr.refl _ _⟩
    · exact ⟨_, R, (fiPop_yes HK1.out.Q), by simp⟩
  refine hcall.mono ?_
  rintro e w2 ⟨rfl, hq2, hf2⟩
  have hrow2 := DSt.row ⟨HK1.out, HR1.out⟩ hf2
  have hoff := DSt.off ⟨HK1.out, HR1.out⟩
  have hc2 : KQ w0 w2 q' b' m' L g := ⟨HC1.out.Q.fr hf2 (by have := HBM.out; simp; omega) (by have := HBM.out; simp; omega) (by have := HBM.out; simp; omega), (HK1.out.step hq2 hf2).below, HC1.out.lq, HC1.out.lb, HC1.out.lm⟩
  have hk2 := HK1.out.step hq2 hf2
  have hnf : ∀ {k : Nat} {y : Array Value} {u : TypeId}, w1.heap[k]? = some (.cells y u (0, 0)) → u ≠ 65 → w2.heap[k]? = some (.cells y u (0, 0)) := fun hc hu => hf2.same hc (HK1.out.Q.out hc hu)
  have HFr2 := Lib.hid (HFr1.out.trans' hf2)
  have H02 := Lib.hid (hnf H01.out (by decide))
  have H22 := Lib.hid (hnf H21.out (by decide))
  have HK2 := Lib.hid hk2
  have HR2 := Lib.hid hrow2
  have HC2 := Lib.hid hc2
  clear hcall hq2 hf2 hrow2 hoff hc2 hk2 hnf HK1 HR1 HC1 H01 H21
  go_wp2_with (go_at_call 17; fail)
  refine (fiPush_yes HK2.out.Q (by have := HN.out; have := HLG.out; have := HG.out; omega) (by have := HG.out; omega) 1).mono ?_
  rintro e w3 ⟨rfl, hq3, hf3⟩
  have hnf : ∀ {k : Nat} {y : Array Value} {u : TypeId}, w2.heap[k]? = some (.cells y u (0, 0)) → u ≠ 65 → w3.heap[k]? = some (.cells y u (0, 0)) := fun hc hu => hf3.same hc (HK2.out.Q.out hc hu)
  have HFr3 := Lib.hid (HFr2.out.trans' hf3)
  have H33 := Lib.hid (hnf H02.out (by decide))
  have H23 := Lib.hid (hnf H22.out (by decide))
  have hc3 : KQ w0 w3 q' b' m' L g := ⟨HC2.out.Q.fr hf3 (by have := HBM.out; simp; omega) (by have := HBM.out; simp; omega) (by have := HBM.out; simp; omega), (HK2.out.step hq3 hf3).below, HC2.out.lq, HC2.out.lb, HC2.out.lm⟩
  have HD3 : Hid (DSt w0 w3 q' b' m' _ L g) := Lib.hid ⟨hc3, row_keep HK2.out HR2.out hf3⟩
  clear hnf hq3 hf3 HK2 HR2 HC2 H02 H22 hc3
  go_wp2_with fail
  obtain ⟨bx, hbx⟩ : ∃ bx, bx = w.heap.size := ⟨_, rfl⟩
  have hne : Hid (bx ≠ w.heap.size + 1 + 1) := Lib.hid (by omega)
  rw [← hbx] at H33
  have HBX := Lib.hid hbx
  refine wp_region_float (fun X => X.cell? ⟨bx, 0, none⟩ = some (.slice va N vc) ∧ X.cell? ⟨bx, 1, none⟩ = some (.int .u64 ((g : Nat) : Int))) 4 [0, 1] [2, 3] (by kernel_rfl) (by kernel_rfl) (fun _ _ _ d _ h => by cases d <;> exact h) ⟨cells_cell (w := w3.drew) H33.out rfl, cells_cell (w := w3.drew) H33.out rfl⟩ ?_
  simp only [List.map_cons, List.map_nil, List.getD_cons_zero, List.getD_cons_succ, List.drop_succ_cons, List.drop_zero]
  refine takes_move (.tmp 30) (.pointer (some ⟨q', 0, none⟩)) rfl rfl rfl ?_
  simp only [Act.put, List.setIfInBounds_toArray, List.set_cons_zero, List.set_cons_succ]
  refine takes_by (.agg #[.slice va N vc, .int .u64 ((g : Nat) : Int)]) rfl (fun W' hS => by have h0 := hS.1; have h1 := hS.2; rw [HBX.out] at h0 h1; go_simp) ?_
  simp only [Act.put, List.setIfInBounds_toArray, List.set_cons_zero, List.set_cons_succ]
  unfold wpTakes
  have hS0 : w3.drew.cell? ⟨bx, 0, none⟩ = some (.slice va N vc) ∧ w3.drew.cell? ⟨bx, 1, none⟩ = some (.int .u64 ((g : Nat) : Int)) := ⟨cells_cell (w := w3.drew) H33.out rfl, cells_cell (w := w3.drew) H33.out rfl⟩
  refine mids_by (.pointer (some ⟨q', 0, none⟩)) rfl (by go_simp) hS0 ?_
  simp only [Act.put, List.setIfInBounds_toArray, List.set_cons_zero, List.set_cons_succ]
  have hc2 : w3.drew.heap[w.heap.size + 1 + 1]? = some (.cells #[.slice none 0 0, .int .u64 0] 29 (0, 0)) := H23.out
  have hD : Below w3.heap.size w3 w3.drew := (Below.refl _ _).drew
  have hDD := HD3.out.grown hD
  have hFr4 := HFr3.out.trans' (Fr.of_below hD _)
  obtain ⟨W4, hW4⟩ : ∃ X, w3.drew = X := ⟨_, rfl⟩
  rw [hW4] at hS0 hc2 hDD hFr4 ⊢
  have HDD := Lib.hid hDD
  clear hW4 hDD hD
  have gc0 := cells_cell (o := 0) hc2 rfl
  have gc1 := cells_cell (o := 1) hc2 rfl
  have gz0 := cells_free hc2 0
  have gz1 := cells_free hc2 1
  have hl4 : w.heap.size + 1 + 1 < W4.heap.size := lt_of_block hc2
  have hput := cells_put2 hc2 (.slice va N vc) (.int .u64 ((g : Nat) : Int))
  have hfr := fr_put2 W4 (w.heap.size + 1 + 1) (.slice va N vc) (.int .u64 ((g : Nat) : Int))
  have hnn : bx ∉ [w.heap.size + 1 + 1] := by have := hne.out; simpa using this
  have hS1 := And.intro (hfr.cell hS0.1 hnn) (hfr.cell hS0.2 hnn)
  have HF := Lib.hid (HDD.out.put hc2 (by decide) (by decide) (by decide) (by have := HW0.out; omega) hfr)
  have HFr := Lib.hid (hFr4.trans hfr (fun x hx => .inr (by simp at hx; omega)))
  refine mids_step rfl (fun K hK => ?_)
  go_simp
  refine hK _ _ hS1 ?_
  clear hK gc0 gc1 gz0 gz1 hS0 hS1 hfr hc2 hnn hFr4
  generalize (W4.setCell ⟨w.heap.size + 1 + 1, 0, none⟩ (.slice va N vc)).setCell ⟨w.heap.size + 1 + 1, 1, none⟩ (.int .u64 ((g : Nat) : Int)) = W6 at *
  have kp0 := cells_cell (o := 0) hput rfl
  have kp1 := cells_cell (o := 1) hput rfl
  unfold wpMids
  clear hput
  go_wp2_with fail
  exact bodyPost_ret (v := .tuple #[.pointer (some ⟨q', 0, none⟩), .agg #[.slice va N vc, .int .u64 ((g : Nat) : Int)], .bool true]) (by simp [results, Try.results10, go_sem, kp0, kp1]) rfl ⟨HFr.out, _, _, _, _, _, g, rfl, HF.out, Nat.le_succ _⟩
end Go.Proofs.Ytopkikdbhapfmaa
