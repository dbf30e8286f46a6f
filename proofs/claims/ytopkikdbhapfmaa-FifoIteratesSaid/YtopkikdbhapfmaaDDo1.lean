/- The law's do: Push. -/
import Derived.Test.YtopkikdbhapfmaaDSt
namespace Go.Proofs.Ytopkikdbhapfmaa
open Go.RowKit Go.Sort Go.MapKept
set_option linter.unusedVariables false
set_option linter.unusedSimpArgs false

set_option maxRecDepth 100000 in
set_option maxHeartbeats 6400000 in
theorem do_push {w0 w : World} {q b m g : Nat} {v : Value} {L : Qu} (h : DSt w0 w q b m v L g) (hg : g ≤ 900) (x1 : Int) (X : Nat) :
    Calls Try.prog 10 #[.pointer (some ⟨q, 0, none⟩), rq v g, .agg #[.int .i64 0, .int .i64 x1, .int .u64 ((X : Nat) : Int)]] w (DoPost w0 w b m g) := by
  obtain ⟨va, vc, rfl, hv1, hv2⟩ := h.R.form
  have hlg := h.len
  obtain ⟨N, hN⟩ : ∃ N, N = L.length := ⟨_, rfl⟩
  rw [← hN] at h hv1 hlg ⊢
  obtain ⟨W, hW, hb, hs, h0, h1, h2⟩ := do_blocks w (.cells #[.slice va N vc, .int .u64 ((g : Nat) : Int)] 29) (.cells #[.int .i64 0, .int .i64 x1, .int .u64 ((X : Nat) : Int)] 31) (.cells #[.slice none 0 0, .int .u64 0] 29)
  have HD := Lib.hid (h.grown hb)
  have HB := Lib.hid hb
  have HS := Lib.hid hs
  have H0 := Lib.hid h0
  have H1 := Lib.hid h1
  have H2 := Lib.hid h2
  have HN := Lib.hid hN
  have HLG := Lib.hid hlg
  have HG := Lib.hid hg
  have HW0 := Lib.hid h.K.below.size
  have k10 := cells_cell (o := 0) h1 rfl
  have k11 := cells_cell (o := 1) h1 rfl
  have s1 : w.heap.size + 1 < W.heap.size := by omega
  clear h hb hs h0 h1 h2 hN hlg hg
  unfold rq
  go_enter Try.func10, Try.ntmps10
  go_wp2_with (go_at_call 17; fail)
  clear hW
  refine (fiPush_yes HD.out.K.Q (by have := HN.out; have := HLG.out; have := HG.out; omega) (by have := HG.out; omega) x1).mono ?_
  rintro e w1 ⟨rfl, hq1, hf1⟩
  have hnf : ∀ {k : Nat} {y : Array Value} {u : TypeId}, W.heap[k]? = some (.cells y u (0, 0)) → u ≠ 65 → w1.heap[k]? = some (.cells y u (0, 0)) := fun hc hu => hf1.same hc (HD.out.K.Q.out hc hu)
  have H01 := Lib.hid (hnf H0.out (by decide))
  have H11 := Lib.hid (hnf H1.out (by decide))
  have H21 := Lib.hid (hnf H2.out (by decide))
  have HK1 := Lib.hid (HD.out.K.step hq1 hf1)
  have HFr1 := Lib.hid ((Fr.of_below HB.out [b, m]).trans' hf1)
  have HR1 := Lib.hid (HD.out.row hf1)
  clear hnf hq1 hf1 HD k10 k11 H0 H1 H2 s1
  have k00 := cells_cell (o := 0) H01.out rfl
  have k01 := cells_cell (o := 1) H01.out rfl
  have k11 := cells_cell (o := 1) H11.out rfl
  have s0 : w.heap.size < w1.heap.size := lt_of_block H01.out
  have s1 : w.heap.size + 1 < w1.heap.size := lt_of_block H11.out
  obtain ⟨G, hG⟩ : ∃ G, G = g + 1 := ⟨_, rfl⟩
  have HGE := Lib.hid hG
  rw [← hG] at HK1 ⊢
  clear hG
  go_wp2_with (go_at_call 24; fail)
  refine (refPush_yes (v := .slice va N vc) (g := g) HR1.out.src (by have := HN.out; have := HLG.out; have := HG.out; omega) (by have := HG.out; omega) x1).mono ?_
  rintro e w2 ⟨v', rfl, hr2, hb2⟩
  rw [← HGE.out] at hr2 ⊢
  obtain ⟨ua, uc, rfl, _, _⟩ := hr2.form
  have hs12 := hb2.size
  have H22 := Lib.hid ((hb2.block _ (lt_of_block H21.out)).trans H21.out)
  have HFr2 := Lib.hid (HFr1.out.trans' (Fr.of_below hb2 _))
  have HD2 : Hid (DSt w0 w2 q b m _ _ G) := Lib.hid ⟨HK1.out.grown hb2, hr2.lower HK1.out.below.size⟩
  clear hr2 hb2 HR1 HK1 k00 k01 k11
  unfold rq
  generalize (L ++ [(G, x1)]).length = n2 at *
  obtain ⟨W3, hW3⟩ : ∃ W3, w2.alloc (.cells #[.slice ua n2 uc, .int .u64 ((G : Nat) : Int)] 29) = W3 := ⟨_, rfl⟩
  have hA3 : Below w2.heap.size w2 W3 := by rw [← hW3]; exact below_alloc _ _
  have h33 : W3.heap[w2.heap.size]? = some (.cells #[.slice ua n2 uc, .int .u64 ((G : Nat) : Int)] 29 (0, 0)) := by rw [← hW3]; exact heap_alloc_new w2 _
  have H23 := Lib.hid ((hA3.block _ (lt_of_block H22.out)).trans H22.out)
  have H33 := Lib.hid h33
  have HD3 := Lib.hid (HD2.out.grown hA3)
  have HFr3 := Lib.hid (HFr2.out.trans' (Fr.of_below hA3 _))
  have hne : Hid (w.heap.size + 1 + 1 < w2.heap.size) := Lib.hid (lt_of_block H22.out)
  clear hA3 h33 HD2 H22
  go_wp2_with fail
  clear hW3
  refine wp_region_float (fun X => X.cell? ⟨w2.heap.size, 0, none⟩ = some (.slice ua n2 uc) ∧ X.cell? ⟨w2.heap.size, 1, none⟩ = some (.int .u64 ((G : Nat) : Int))) 12 [0, 1, 2, 3, 4, 5, 6, 7, 8, 9] [10, 11] (by kernel_rfl) (by kernel_rfl) (fun _ _ _ d _ h => by cases d <;> exact h) ⟨cells_cell (w := W3.drew) H33.out rfl, cells_cell (w := W3.drew) H33.out rfl⟩ ?_
  simp only [List.map_cons, List.map_nil, List.getD_cons_zero, List.getD_cons_succ, List.drop_succ_cons, List.drop_zero]
  refine takes_move (.tmp 0) (.pointer (some ⟨q, 0, none⟩)) rfl rfl rfl ?_
  simp only [Act.put, List.setIfInBounds_toArray, List.set_cons_zero, List.set_cons_succ]
  refine takes_by (.agg #[.slice ua n2 uc, .int .u64 ((G : Nat) : Int)]) rfl (fun W' hS => by have h0 := hS.1; have h1 := hS.2; go_simp) ?_
  simp only [Act.put, List.setIfInBounds_toArray, List.set_cons_zero, List.set_cons_succ]
  refine takes_move (.tmp 9) (.int .u64 ((G : Nat) : Int)) rfl rfl rfl ?_
  simp only [Act.put, List.setIfInBounds_toArray, List.set_cons_zero, List.set_cons_succ]
  refine takes_move (.tmp 12) (.int .u64 ((G : Nat) : Int)) rfl rfl rfl ?_
  simp only [Act.put, List.setIfInBounds_toArray, List.set_cons_zero, List.set_cons_succ]
  refine takes_by (.bool true) rfl (fun W' _ => by go_simp) ?_
  simp only [Act.put, List.setIfInBounds_toArray, List.set_cons_zero, List.set_cons_succ]
  refine takes_move (.tmp 54) (.bool true) rfl rfl rfl ?_
  simp only [Act.put, List.setIfInBounds_toArray, List.set_cons_zero, List.set_cons_succ]
  refine takes_move (.tmp 10) (.int .i64 0) rfl rfl rfl ?_
  simp only [Act.put, List.setIfInBounds_toArray, List.set_cons_zero, List.set_cons_succ]
  refine takes_move (.tmp 13) (.int .i64 0) rfl rfl rfl ?_
  simp only [Act.put, List.setIfInBounds_toArray, List.set_cons_zero, List.set_cons_succ]
  refine takes_by (.bool true) rfl (fun W' _ => by go_simp) ?_
  simp only [Act.put, List.setIfInBounds_toArray, List.set_cons_zero, List.set_cons_succ]
  refine takes_by (.bool true) rfl (fun W' _ => by go_simp) ?_
  simp only [Act.put, List.setIfInBounds_toArray, List.set_cons_zero, List.set_cons_succ]
  unfold wpTakes
  have hS0 : W3.drew.cell? ⟨w2.heap.size, 0, none⟩ = some (.slice ua n2 uc) ∧ W3.drew.cell? ⟨w2.heap.size, 1, none⟩ = some (.int .u64 ((G : Nat) : Int)) := ⟨cells_cell (w := W3.drew) H33.out rfl, cells_cell (w := W3.drew) H33.out rfl⟩
  refine mids_by (.pointer (some ⟨q, 0, none⟩)) rfl (by go_simp) hS0 ?_
  simp only [Act.put, List.setIfInBounds_toArray, List.set_cons_zero, List.set_cons_succ]
  have hc2 : W3.drew.heap[w.heap.size + 1 + 1]? = some (.cells #[.slice none 0 0, .int .u64 0] 29 (0, 0)) := H23.out
  have hD : Below W3.heap.size W3 W3.drew := (Below.refl _ _).drew
  have hDD := HD3.out.grown hD
  have hFr4 := HFr3.out.trans' (Fr.of_below hD _)
  obtain ⟨W4, hW4⟩ : ∃ X, W3.drew = X := ⟨_, rfl⟩
  rw [hW4] at hS0 hc2 hDD hFr4 ⊢
  have HDD := Lib.hid hDD
  clear hW4 hDD hD
  have gc0 := cells_cell (o := 0) hc2 rfl
  have gc1 := cells_cell (o := 1) hc2 rfl
  have gz0 := cells_free hc2 0
  have gz1 := cells_free hc2 1
  have hl4 : w.heap.size + 1 + 1 < W4.heap.size := lt_of_block hc2
  have hput := cells_put2 hc2 (.slice ua n2 uc) (.int .u64 ((G : Nat) : Int))
  have hfr := fr_put2 W4 (w.heap.size + 1 + 1) (.slice ua n2 uc) (.int .u64 ((G : Nat) : Int))
  have hnn : w2.heap.size ∉ [w.heap.size + 1 + 1] := by have := hne.out; simp; omega
  have hS1 := And.intro (hfr.cell hS0.1 hnn) (hfr.cell hS0.2 hnn)
  have HF := Lib.hid (HDD.out.put hc2 (by decide) (by decide) (by decide) (by have := HW0.out; omega) hfr)
  have HFr := Lib.hid (hFr4.trans hfr (fun x hx => .inr (by simp at hx; omega)))
  refine mids_step rfl (fun K hK => ?_)
  go_simp
  refine hK _ _ hS1 ?_
  clear hK gc0 gc1 gz0 gz1 hS0 hS1 hfr hc2 hnn hFr4
  generalize (W4.setCell ⟨w.heap.size + 1 + 1, 0, none⟩ (.slice ua n2 uc)).setCell ⟨w.heap.size + 1 + 1, 1, none⟩ (.int .u64 ((G : Nat) : Int)) = W6 at *
  have kp0 := cells_cell (o := 0) hput rfl
  have kp1 := cells_cell (o := 1) hput rfl
  unfold wpMids
  clear hput
  go_wp2_with fail
  exact bodyPost_ret (v := .tuple #[.pointer (some ⟨q, 0, none⟩), .agg #[.slice ua n2 uc, .int .u64 ((G : Nat) : Int)], .bool true]) (by simp [results, Try.results10, go_sem, kp0, kp1]) rfl ⟨HFr.out, _, _, _, _, _, G, rfl, HF.out, by have := HGE.out; omega⟩
end Go.Proofs.Ytopkikdbhapfmaa
