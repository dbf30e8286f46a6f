/- The law's do: Place. -/
import Derived.Test.YtopkikdbhapfmaaDSt
namespace Go.Proofs.Ytopkikdbhapfmaa
open Go.RowKit Go.Sort Go.MapKept
set_option linter.unusedVariables false
set_option linter.unusedSimpArgs false

set_option maxRecDepth 100000 in
set_option maxHeartbeats 6400000 in
theorem do_place_no {w0 w : World} {q b m g : Nat} {v : Value} {L : Qu} (h : DSt w0 w q b m v (L) g) (hg : g ≤ 900) (x1 : Int) (X : Nat) (hX : X ∉ L.map Prod.fst) :
    Calls Try.prog 10 #[.pointer (some ⟨q, 0, none⟩), rq v g, .agg #[.int .i64 3, .int .i64 x1, .int .u64 ((X : Nat) : Int)]] w (DoPost w0 w b m g) := by
  obtain ⟨va, vc, rfl, hv1, hv2⟩ := h.R.form
  have hlg := h.len
  obtain ⟨N, hN⟩ : ∃ N, N = (L).length := ⟨_, rfl⟩
  rw [← hN] at h hv1 hlg ⊢
  obtain ⟨W, hW, hb, hs, h0, h1, h2⟩ := do_blocks w (.cells #[.slice va N vc, .int .u64 ((g : Nat) : Int)] 29) (.cells #[.int .i64 3, .int .i64 x1, .int .u64 ((X : Nat) : Int)] 31) (.cells #[.slice none 0 0, .int .u64 0] 29)
  have HD := Lib.hid (h.grown hb)
  have HB := Lib.hid hb
  have HS := Lib.hid hs
  have H0 := Lib.hid h0
  have H1 := Lib.hid h1
  have H2 := Lib.hid h2
  have HN := Lib.hid hN
  have HLG := Lib.hid hlg
  have HG := Lib.hid hg
  have HW0 := Lib.hid h.K.below.size
  have k10 := cells_cell (o := 0) h1 rfl
  have k12 := cells_cell (o := 2) h1 rfl
  have s1 : w.heap.size + 1 < W.heap.size := by omega
  clear h hb hs h0 h1 h2 hN hlg hg
  unfold rq
  go_enter Try.func10, Try.ntmps10
  go_wp2_with (go_at_call 21; fail)
  clear hW
  refine (fiPlace_no HD.out.K.Q X (lks_none hX)).mono ?_
  rintro e w1 ⟨rfl, hg1⟩
  have hb1 := hg1.below
  clear hg1
  have H01 := Lib.hid ((hb1.block _ (lt_of_block H0.out)).trans H0.out)
  have H11 := Lib.hid ((hb1.block _ (lt_of_block H1.out)).trans H1.out)
  have H21 := Lib.hid ((hb1.block _ (lt_of_block H2.out)).trans H2.out)
  have HK1 := Lib.hid (HD.out.K.grown hb1)
  have HFr1 := Lib.hid ((Fr.of_below HB.out [b, m]).trans' (Fr.of_below hb1 _))
  have HR1 := Lib.hid (HD.out.R.below hb1)
  clear hb1 HD k10 k12 H0 H1 H2 s1
  have k00 := cells_cell (o := 0) H01.out rfl
  have k01 := cells_cell (o := 1) H01.out rfl
  have k12 := cells_cell (o := 2) H11.out rfl
  have s0 : w.heap.size < w1.heap.size := lt_of_block H01.out
  have s1 : w.heap.size + 1 < w1.heap.size := lt_of_block H11.out
  go_wp2_with (go_at_call 27; fail)
  refine (refPlace_no (v := .slice va N vc) (g := g) HR1.out.src (by have := HN.out; have := HLG.out; have := HG.out; omega) hX).mono ?_
  rintro e w2 ⟨rfl, hg2⟩
  have hb2 := hg2.below
  clear hg2
  have H33 := Lib.hid ((hb2.block _ (lt_of_block H01.out)).trans H01.out)
  have H23 := Lib.hid ((hb2.block _ (lt_of_block H21.out)).trans H21.out)
  have HFr3 := Lib.hid (HFr1.out.trans' (Fr.of_below hb2 _))
  have HD3 : Hid (DSt w0 w2 q b m _ _ g) := Lib.hid ⟨HK1.out.grown hb2, HR1.out.below hb2⟩
  clear hb2 HR1 HK1 k00 k01 k12
  go_wp2_with fail
  obtain ⟨bx, hbx⟩ : ∃ bx, bx = w.heap.size := ⟨_, rfl⟩
  have hne : Hid (bx ≠ w.heap.size + 1 + 1) := Lib.hid (by omega)
  rw [← hbx] at H33
  have HBX := Lib.hid hbx
  refine wp_region_float (fun X => X.cell? ⟨bx, 0, none⟩ = some (.slice va N vc) ∧ X.cell? ⟨bx, 1, none⟩ = some (.int .u64 ((g : Nat) : Int))) 12 [0, 1, 2, 3, 4, 5, 6, 7, 8, 9] [10, 11] (by kernel_rfl) (by kernel_rfl) (fun _ _ _ d _ h => by cases d <;> exact h) ⟨cells_cell (w := w2.drew) H33.out rfl, cells_cell (w := w2.drew) H33.out rfl⟩ ?_
  simp only [List.map_cons, List.map_nil, List.getD_cons_zero, List.getD_cons_succ, List.drop_succ_cons, List.drop_zero]
  refine takes_move (.tmp 0) (.pointer (some ⟨q, 0, none⟩)) rfl rfl rfl ?_
  simp only [Act.put, List.setIfInBounds_toArray, List.set_cons_zero, List.set_cons_succ]
  refine takes_by (.agg #[.slice va N vc, .int .u64 ((g : Nat) : Int)]) rfl (fun W' hS => by have h0 := hS.1; have h1 := hS.2; rw [HBX.out] at h0 h1; go_simp) ?_
  simp only [Act.put, List.setIfInBounds_toArray, List.set_cons_zero, List.set_cons_succ]
  refine takes_move (.tmp 26) (.int .i64 0) rfl rfl rfl ?_
  simp only [Act.put, List.setIfInBounds_toArray, List.set_cons_zero, List.set_cons_succ]
  refine takes_move (.tmp 28) (.int .i64 0) rfl rfl rfl ?_
  simp only [Act.put, List.setIfInBounds_toArray, List.set_cons_zero, List.set_cons_succ]
  refine takes_by (.bool true) rfl (fun W' _ => by go_simp) ?_
  simp only [Act.put, List.setIfInBounds_toArray, List.set_cons_zero, List.set_cons_succ]
  refine takes_move (.tmp 137) (.bool true) rfl rfl rfl ?_
  simp only [Act.put, List.setIfInBounds_toArray, List.set_cons_zero, List.set_cons_succ]
  refine takes_move (.tmp 27) (.int .i64 9) rfl rfl rfl ?_
  simp only [Act.put, List.setIfInBounds_toArray, List.set_cons_zero, List.set_cons_succ]
  refine takes_move (.tmp 29) (.int .i64 9) rfl rfl rfl ?_
  simp only [Act.put, List.setIfInBounds_toArray, List.set_cons_zero, List.set_cons_succ]
  refine takes_by (.bool true) rfl (fun W' _ => by go_simp) ?_
  simp only [Act.put, List.setIfInBounds_toArray, List.set_cons_zero, List.set_cons_succ]
  refine takes_by (.bool true) rfl (fun W' _ => by go_simp) ?_
  simp only [Act.put, List.setIfInBounds_toArray, List.set_cons_zero, List.set_cons_succ]
  unfold wpTakes
  have hS0 : w2.drew.cell? ⟨bx, 0, none⟩ = some (.slice va N vc) ∧ w2.drew.cell? ⟨bx, 1, none⟩ = some (.int .u64 ((g : Nat) : Int)) := ⟨cells_cell (w := w2.drew) H33.out rfl, cells_cell (w := w2.drew) H33.out rfl⟩
  refine mids_by (.pointer (some ⟨q, 0, none⟩)) rfl (by go_simp) hS0 ?_
  simp only [Act.put, List.setIfInBounds_toArray, List.set_cons_zero, List.set_cons_succ]
  have hc2 : w2.drew.heap[w.heap.size + 1 + 1]? = some (.cells #[.slice none 0 0, .int .u64 0] 29 (0, 0)) := H23.out
  have hD : Below w2.heap.size w2 w2.drew := (Below.refl _ _).drew
  have hDD := HD3.out.grown hD
  have hFr4 := HFr3.out.trans' (Fr.of_below hD _)
  obtain ⟨W4, hW4⟩ : ∃ X, w2.drew = X := ⟨_, rfl⟩
  rw [hW4] at hS0 hc2 hDD hFr4 ⊢
  have HDD := Lib.hid hDD
  clear hW4 hDD hD
  have gc0 := cells_cell (o := 0) hc2 rfl
  have gc1 := cells_cell (o := 1) hc2 rfl
  have gz0 := cells_free hc2 0
  have gz1 := cells_free hc2 1
  have hl4 : w.heap.size + 1 + 1 < W4.heap.size := lt_of_block hc2
  have hput := cells_put2 hc2 (.slice va N vc) (.int .u64 ((g : Nat) : Int))
  have hfr := fr_put2 W4 (w.heap.size + 1 + 1) (.slice va N vc) (.int .u64 ((g : Nat) : Int))
  have hnn : bx ∉ [w.heap.size + 1 + 1] := by have := hne.out; simpa using this
  have hS1 := And.intro (hfr.cell hS0.1 hnn) (hfr.cell hS0.2 hnn)
  have HF := Lib.hid (HDD.out.put hc2 (by decide) (by decide) (by decide) (by have := HW0.out; omega) hfr)
  have HFr := Lib.hid (hFr4.trans hfr (fun x hx => .inr (by simp at hx; omega)))
  refine mids_step rfl (fun K hK => ?_)
  go_simp
  refine hK _ _ hS1 ?_
  clear hK gc0 gc1 gz0 gz1 hS0 hS1 hfr hc2 hnn hFr4
  generalize (W4.setCell ⟨w.heap.size + 1 + 1, 0, none⟩ (.slice va N vc)).setCell ⟨w.heap.size + 1 + 1, 1, none⟩ (.int .u64 ((g : Nat) : Int)) = W6 at *
  have kp0 := cells_cell (o := 0) hput rfl
  have kp1 := cells_cell (o := 1) hput rfl
  unfold wpMids
  clear hput
  go_wp2_with fail
  exact bodyPost_ret (v := .tuple #[.pointer (some ⟨q, 0, none⟩), .agg #[.slice va N vc, .int .u64 ((g : Nat) : Int)], .bool true]) (by simp [results, Try.results10, go_sem, kp0, kp1]) rfl ⟨HFr.out, _, _, _, _, _, g, rfl, HF.out, Nat.le_succ _⟩

set_option maxRecDepth 100000 in
set_option maxHeartbeats 6400000 in
theorem do_place_yes {w0 w : World} {q b m g : Nat} {v : Value} {L : Qu} {X n : Nat} (h : DSt w0 w q b m v (L) g) (hg : g ≤ 900) (x1 : Int) (hn : n < L.length) (hX : tkt L n = X) :
    Calls Try.prog 10 #[.pointer (some ⟨q, 0, none⟩), rq v g, .agg #[.int .i64 3, .int .i64 x1, .int .u64 ((X : Nat) : Int)]] w (DoPost w0 w b m g) := by
  obtain ⟨va, vc, rfl, hv1, hv2⟩ := h.R.form
  have hlg := h.len
  obtain ⟨N, hN⟩ : ∃ N, N = (L).length := ⟨_, rfl⟩
  rw [← hN] at h hv1 hlg ⊢
  obtain ⟨W, hW, hb, hs, h0, h1, h2⟩ := do_blocks w (.cells #[.slice va N vc, .int .u64 ((g : Nat) : Int)] 29) (.cells #[.int .i64 3, .int .i64 x1, .int .u64 ((X : Nat) : Int)] 31) (.cells #[.slice none 0 0, .int .u64 0] 29)
  have HD := Lib.hid (h.grown hb)
  have HB := Lib.hid hb
  have HS := Lib.hid hs
  have H0 := Lib.hid h0
  have H1 := Lib.hid h1
  have H2 := Lib.hid h2
  have HN := Lib.hid hN
  have HLG := Lib.hid hlg
  have HG := Lib.hid hg
  have HW0 := Lib.hid h.K.below.size
  have k10 := cells_cell (o := 0) h1 rfl
  have k12 := cells_cell (o := 2) h1 rfl
  have s1 : w.heap.size + 1 < W.heap.size := by omega
  clear h hb hs h0 h1 h2 hN hlg hg
  unfold rq
  go_enter Try.func10, Try.ntmps10
  go_wp2_with (go_at_call 21; fail)
  clear hW
  have hpl := fiPlace_yes HD.out.K.Q (by have := HG.out; omega) hn
  rw [show (L.getD n (0, 0)).1 = X from hX] at hpl
  refine hpl.mono ?_
  rintro e w1 ⟨rfl, hg1⟩
  have HI := Lib.hid HD.out.K.Q.inc
  have hb1 := hg1.below
  clear hg1 hpl
  have H01 := Lib.hid ((hb1.block _ (lt_of_block H0.out)).trans H0.out)
  have H11 := Lib.hid ((hb1.block _ (lt_of_block H1.out)).trans H1.out)
  have H21 := Lib.hid ((hb1.block _ (lt_of_block H2.out)).trans H2.out)
  have HK1 := Lib.hid (HD.out.K.grown hb1)
  have HFr1 := Lib.hid ((Fr.of_below HB.out [b, m]).trans' (Fr.of_below hb1 _))
  have HR1 := Lib.hid (HD.out.R.below hb1)
  clear hb1 HD k10 k12 H0 H1 H2 s1
  have k00 := cells_cell (o := 0) H01.out rfl
  have k01 := cells_cell (o := 1) H01.out rfl
  have k12 := cells_cell (o := 2) H11.out rfl
  have s0 : w.heap.size < w1.heap.size := lt_of_block H01.out
  have s1 : w.heap.size + 1 < w1.heap.size := lt_of_block H11.out
  go_wp2_with (go_at_call 27; fail)
  have hrp := refPlace_yes (v := .slice va N vc) (g := g) HR1.out.src (by have := HN.out; have := HLG.out; have := HG.out; omega) HI.out hn
  rw [hX] at hrp
  refine hrp.mono ?_
  rintro e w2 ⟨rfl, hg2⟩
  have hb2 := hg2.below
  clear hg2 hrp
  have H33 := Lib.hid ((hb2.block _ (lt_of_block H01.out)).trans H01.out)
  have H23 := Lib.hid ((hb2.block _ (lt_of_block H21.out)).trans H21.out)
  have HFr3 := Lib.hid (HFr1.out.trans' (Fr.of_below hb2 _))
  have HD3 : Hid (DSt w0 w2 q b m _ _ g) := Lib.hid ⟨HK1.out.grown hb2, HR1.out.below hb2⟩
  clear hb2 HR1 HK1 k00 k01 k12
  go_wp2_with fail
  obtain ⟨bx, hbx⟩ : ∃ bx, bx = w.heap.size := ⟨_, rfl⟩
  have hne : Hid (bx ≠ w.heap.size + 1 + 1) := Lib.hid (by omega)
  rw [← hbx] at H33
  have HBX := Lib.hid hbx
  refine wp_region_float (fun X => X.cell? ⟨bx, 0, none⟩ = some (.slice va N vc) ∧ X.cell? ⟨bx, 1, none⟩ = some (.int .u64 ((g : Nat) : Int))) 12 [0, 1, 2, 3, 4, 5, 6, 7, 8, 9] [10, 11] (by kernel_rfl) (by kernel_rfl) (fun _ _ _ d _ h => by cases d <;> exact h) ⟨cells_cell (w := w2.drew) H33.out rfl, cells_cell (w := w2.drew) H33.out rfl⟩ ?_
  simp only [List.map_cons, List.map_nil, List.getD_cons_zero, List.getD_cons_succ, List.drop_succ_cons, List.drop_zero]
  refine takes_move (.tmp 0) (.pointer (some ⟨q, 0, none⟩)) rfl rfl rfl ?_
  simp only [Act.put, List.setIfInBounds_toArray, List.set_cons_zero, List.set_cons_succ]
  refine takes_by (.agg #[.slice va N vc, .int .u64 ((g : Nat) : Int)]) rfl (fun W' hS => by have h0 := hS.1; have h1 := hS.2; rw [HBX.out] at h0 h1; go_simp) ?_
  simp only [Act.put, List.setIfInBounds_toArray, List.set_cons_zero, List.set_cons_succ]
  refine takes_move (.tmp 26) (.int .i64 ((n : Nat) : Int)) rfl rfl rfl ?_
  simp only [Act.put, List.setIfInBounds_toArray, List.set_cons_zero, List.set_cons_succ]
  refine takes_move (.tmp 28) (.int .i64 ((n : Nat) : Int)) rfl rfl rfl ?_
  simp only [Act.put, List.setIfInBounds_toArray, List.set_cons_zero, List.set_cons_succ]
  refine takes_by (.bool true) rfl (fun W' _ => by go_simp) ?_
  simp only [Act.put, List.setIfInBounds_toArray, List.set_cons_zero, List.set_cons_succ]
  refine takes_move (.tmp 137) (.bool true) rfl rfl rfl ?_
  simp only [Act.put, List.setIfInBounds_toArray, List.set_cons_zero, List.set_cons_succ]
  refine takes_move (.tmp 27) (.int .i64 0) rfl rfl rfl ?_
  simp only [Act.put, List.setIfInBounds_toArray, List.set_cons_zero, List.set_cons_succ]
  refine takes_move (.tmp 29) (.int .i64 0) rfl rfl rfl ?_
  simp only [Act.put, List.setIfInBounds_toArray, List.set_cons_zero, List.set_cons_succ]
  refine takes_by (.bool true) rfl (fun W' _ => by go_simp) ?_
  simp only [Act.put, List.setIfInBounds_toArray, List.set_cons_zero, List.set_cons_succ]
  refine takes_by (.bool true) rfl (fun W' _ => by go_simp) ?_
  simp only [Act.put, List.setIfInBounds_toArray, List.set_cons_zero, List.set_cons_succ]
  unfold wpTakes
  have hS0 : w2.drew.cell? ⟨bx, 0, none⟩ = some (.slice va N vc) ∧ w2.drew.cell? ⟨bx, 1, none⟩ = some (.int .u64 ((g : Nat) : Int)) := ⟨cells_cell (w := w2.drew) H33.out rfl, cells_cell (w := w2.drew) H33.out rfl⟩
  refine mids_by (.pointer (some ⟨q, 0, none⟩)) rfl (by go_simp) hS0 ?_
  simp only [Act.put, List.setIfInBounds_toArray, List.set_cons_zero, List.set_cons_succ]
  have hc2 : w2.drew.heap[w.heap.size + 1 + 1]? = some (.cells #[.slice none 0 0, .int .u64 0] 29 (0, 0)) := H23.out
  have hD : Below w2.heap.size w2 w2.drew := (Below.refl _ _).drew
  have hDD := HD3.out.grown hD
  have hFr4 := HFr3.out.trans' (Fr.of_below hD _)
  obtain ⟨W4, hW4⟩ : ∃ X, w2.drew = X := ⟨_, rfl⟩
  rw [hW4] at hS0 hc2 hDD hFr4 ⊢
  have HDD := Lib.hid hDD
  clear hW4 hDD hD
  have gc0 := cells_cell (o := 0) hc2 rfl
  have gc1 := cells_cell (o := 1) hc2 rfl
  have gz0 := cells_free hc2 0
  have gz1 := cells_free hc2 1
  have hl4 : w.heap.size + 1 + 1 < W4.heap.size := lt_of_block hc2
  have hput := cells_put2 hc2 (.slice va N vc) (.int .u64 ((g : Nat) : Int))
  have hfr := fr_put2 W4 (w.heap.size + 1 + 1) (.slice va N vc) (.int .u64 ((g : Nat) : Int))
  have hnn : bx ∉ [w.heap.size + 1 + 1] := by have := hne.out; simpa using this
  have hS1 := And.intro (hfr.cell hS0.1 hnn) (hfr.cell hS0.2 hnn)
  have HF := Lib.hid (HDD.out.put hc2 (by decide) (by decide) (by decide) (by have := HW0.out; omega) hfr)
  have HFr := Lib.hid (hFr4.trans hfr (fun x hx => .inr (by simp at hx; omega)))
  refine mids_step rfl (fun K hK => ?_)
  go_simp
  refine hK _ _ hS1 ?_
  clear hK gc0 gc1 gz0 gz1 hS0 hS1 hfr hc2 hnn hFr4
  generalize (W4.setCell ⟨w.heap.size + 1 + 1, 0, none⟩ (.slice va N vc)).setCell ⟨w.heap.size + 1 + 1, 1, none⟩ (.int .u64 ((g : Nat) : Int)) = W6 at *
  have kp0 := cells_cell (o := 0) hput rfl
  have kp1 := cells_cell (o := 1) hput rfl
  unfold wpMids
  clear hput
  go_wp2_with fail
  exact bodyPost_ret (v := .tuple #[.pointer (some ⟨q, 0, none⟩), .agg #[.slice va N vc, .int .u64 ((g : Nat) : Int)], .bool true]) (by simp [results, Try.results10, go_sem, kp0, kp1]) rfl ⟨HFr.out, _, _, _, _, _, g, rfl, HF.out, Nat.le_succ _⟩
end Go.Proofs.Ytopkikdbhapfmaa
