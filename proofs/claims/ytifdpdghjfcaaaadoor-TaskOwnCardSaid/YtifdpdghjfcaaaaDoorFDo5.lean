/- The law's do: Turn. -/
import Derived.Test.YtifdpdghjfcaaaaDoorFDo0
import Derived.Deep.CutBlock
import Derived.Deep.RegionWith
namespace Go.Proofs.YtifdpdghjfcaaaaDoor
open Go.RowKit Go.Sort
set_option linter.unusedVariables false
set_option linter.unusedSimpArgs false

set_option maxRecDepth 100000 in
set_option maxHeartbeats 12800000 in
theorem do_Turn {w0 w : World} {l : Tl} {P : Ks} {Q : Qu} {g n k : Nat} {s r : Value} (h : ESt w0 w l P Q g s r n k) (hk : k < 700) (x1 : Int) :
    Calls Tryd.prog 11 #[.pointer (some ⟨l.t, 0, none⟩), rk s r, .agg #[.int .i64 4, .int .i64 x1]] w (DoPost w0 w l n k) := by
  obtain ⟨sa, sn, sc, rfl⟩ := row_form h.rs
  obtain ⟨ra, rn, rc, rfl⟩ := row_form h.rr
  obtain ⟨code, P', Q', g', hT, hRf, hR', hg', hl'⟩ := bothTurn h.K.R h.n2 (by have := h.g; omega) h.K.K.ql x1
  have HR := Lib.hid (And.intro hR' (And.intro hg' hl'))
  clear hR' hg' hl'
  obtain ⟨W, hW, hb, hs, h0, h1, h2⟩ := do_blocks w (.cells #[.slice sa sn sc, .slice ra rn rc] 30) (.cells #[.int .i64 4, .int .i64 x1] 34) (.cells #[.slice none 0 0, .slice none 0 0] 30)
  have HD := Lib.hid (h.grown hb)
  have HB := Lib.hid hb
  have H0 := Lib.hid h0
  have H1 := Lib.hid h1
  have H2 := Lib.hid h2
  have HW0 := Lib.hid h.K.below.size
  have HW := Lib.hid hW
  have HSW := Lib.hid hs
  clear h hb h0 h1 h2 hW hs
  unfold rk
  go_enter Tryd.func11, Tryd.ntmps11
  go_wp2_with fail
  rw [HW.out]
  clear HW
  have hld : ∀ W', Below W.heap.size W W' → W'.cell? ⟨w.heap.size, 0, none⟩ = some (.slice sa sn sc) ∧ W'.cell? ⟨w.heap.size, 1, none⟩ = some (.slice ra rn rc) ∧ w.heap.size < W'.heap.size := fun W' hb => by
    have e0 := (hb.block _ (lt_of_block H0.out)).trans H0.out
    exact ⟨cells_cell e0 rfl, cells_cell e0 rfl, lt_of_block e0⟩
  have HS : Hid (Below W.heap.size W W.drew) := Lib.hid (Below.refl _ _).drew
  refine wp_region_mix (fun W' => Below W.heap.size W W') 3 [(true, 0), (false, 1), (false, 2)] (by kernel_rfl) (by kernel_rfl) (fun _ _ _ d _ h => by cases d <;> exact h) ?_
  simp only [List.map_cons, List.map_nil, List.getD_cons_zero, List.getD_cons_succ, List.drop_succ_cons, List.drop_zero]
  refine mix_take (.agg #[.slice sa sn sc, .slice ra rn rc]) HS.out rfl (fun W' hS => by obtain ⟨l0, l1, l2⟩ := hld W' hS; go_simp) ?_
  simp only [Act.put, List.setIfInBounds_toArray, List.set_cons_zero, List.set_cons_succ]
  refine mix_step rfl (fun K hK => ?_)
  go_simp
  have hba := below_alloc W.drew (.cells #[.slice none 0 0, .slice none 0 0] 30)
  have HS1 := Lib.hid (HS.out.trans (hba.mono HS.out.size))
  refine hK _ _ HS1.out ?_
  clear hK hba
  refine mix_by (.int .i64 0) rfl (by go_simp) HS1.out ?_
  simp only [Act.put, List.setIfInBounds_toArray, List.set_cons_zero, List.set_cons_succ]
  refine mix_nil ?_
  clear HS1 HS hld
  go_upto_region 2 with (fail)
  obtain ⟨X, hX, hXB, hX3⟩ : ∃ X, (W.alloc (.cells #[.slice sa sn sc, .slice ra rn rc] 30)).drew = X ∧ Below W.heap.size W X ∧ X.heap[W.heap.size]? = some (.cells #[.slice sa sn sc, .slice ra rn rc] 30 (0, 0)) :=
    ⟨_, rfl, (((Grn.refl W).alloc _).drew 1).below, heap_alloc_new W _⟩
  rw [hX]
  rw [hX] at *
  have HD := Lib.hid (HD.out.grown hXB)
  have HF := Lib.hid ((Fr.of_below HB.out l.F).trans' (Fr.of_below hXB l.F))
  have H0 := Lib.hid ((hXB.block _ (lt_of_block H0.out)).trans H0.out)
  have H1 := Lib.hid ((hXB.block _ (lt_of_block H1.out)).trans H1.out)
  have H2 := Lib.hid ((hXB.block _ (lt_of_block H2.out)).trans H2.out)
  have H3 := Lib.hid hX3
  have k10 := cells_cell (o := 0) H1.out rfl
  have k11 : X.cell? ⟨w.heap.size + 1, 1, none⟩ = some (.int .i64 x1) := cells_cell H1.out rfl
  have s1 := lt_of_block H1.out
  clear hX hXB hX3 HB
  go_wp2_with (go_at_call 20; fail)
  refine (hT _ _ _ HD.out.K.K).mono ?_
  rintro e w1 ⟨rfl, hK, hf⟩
  have n0 := HD.out.K.K.out H0.out (by decide) (by decide)
  have n1 := HD.out.K.K.out H1.out (by decide) (by decide)
  have n2 := HD.out.K.K.out H2.out (by decide) (by decide)
  have n3 := HD.out.K.K.out H3.out (by decide) (by decide)
  have HKS : Hid (KS w0 w1 l P' Q' g') := Lib.hid ⟨hK, HR.out.1, HD.out.K.below.trans (hf.below HD.out.K.le HD.out.K.below.size)⟩
  have hrs := HD.out.K.K.row_keep HD.out.rs hf
  have hrr := HD.out.K.K.row_keep HD.out.rr hf
  have H0 := Lib.hid (hf.same H0.out n0)
  have H1 := Lib.hid (hf.same H1.out n1)
  have H2 := Lib.hid (hf.same H2.out n2)
  have H3 := Lib.hid (hf.same H3.out n3)
  have HF := Lib.hid (HF.out.trans' hf)
  have HRS := Lib.hid (And.intro hrs hrr)
  have HLG := Lib.hid (And.intro HD.out.len HD.out.g)
  clear hK hf n0 n1 n2 n3 hrs hrr HD k10 k11 s1 hT
  have k00 := cells_cell (o := 0) H0.out rfl
  have k01 : w1.cell? ⟨w.heap.size, 1, none⟩ = some (.slice ra rn rc) := cells_cell H0.out rfl
  have k11 : w1.cell? ⟨w.heap.size + 1, 1, none⟩ = some (.int .i64 x1) := cells_cell H1.out rfl
  have s0 := lt_of_block H0.out
  have s1 := lt_of_block H1.out
  go_wp2_with (go_at_call 29; fail)
  have hrc := hRf w1 w0.heap.size _ _ HKS.out.below.size HRS.out.1 HRS.out.2
  unfold rk at hrc
  refine hrc.mono ?_
  rintro e w2 ⟨s', r', rfl, h1, h2, h3⟩
  obtain ⟨ua, un, uc, rfl⟩ := row_form h1
  obtain ⟨va, vn, vc, rfl⟩ := row_form h2
  have H2 := Lib.hid ((h3.block _ (lt_of_block H2.out)).trans H2.out)
  have H3 := Lib.hid ((h3.block _ (lt_of_block H3.out)).trans H3.out)
  have HF := Lib.hid (HF.out.trans' (Fr.of_below h3 _))
  have hE : ESt w0 w2 l P' Q' g' (.slice ua un uc) (.slice va vn vc) n (k + 1) := ⟨HKS.out.grown h3, h1, h2, by rw [HR.out.2.2]; exact HLG.out.1, by have := HR.out.2.1; have := HLG.out.2; omega⟩
  have y0 := cells_cell (o := 0) H3.out rfl
  have y1 : w2.cell? ⟨W.heap.size, 1, none⟩ = some (.slice ra rn rc) := cells_cell H3.out rfl
  have z0 := cells_free H3.out 0
  have z1 := cells_free H3.out 1
  have yl := lt_of_block H3.out
  have hf3 := (fr_setCell w2 ⟨W.heap.size, 0, none⟩ (.slice ua un uc)).trans' (fr_setCell _ ⟨W.heap.size, 1, none⟩ (.slice va vn vc))
  have hc3 := cells_set (cells_set H3.out 0 (.slice ua un uc)) 1 (.slice va vn vc)
  have hzW : w0.heap.size ≤ W.heap.size := by have := HW0.out; have := HSW.out; omega
  have HDN := Lib.hid (hE.put H3.out (by decide) (by decide) (by decide) (by decide) (by decide) hzW hf3)
  have H2 := Lib.hid (hf3.same H2.out (by have := HSW.out; simp; omega))
  have HF := Lib.hid (HF.out.trans hf3 (fun x hx => .inr (by have := HSW.out; simp at hx; omega)))
  have H3 : Hid (((w2.setCell ⟨W.heap.size, 0, none⟩ (.slice ua un uc)).setCell ⟨W.heap.size, 1, none⟩ (.slice va vn vc)).heap[W.heap.size]? = some (.cells #[.slice ua un uc, .slice va vn vc] 30 (0, 0))) := Lib.hid (by simpa using hc3)
  clear hf3 hc3 hE h1 h2 h3 hrc hRf k00 k01 k11 s0 s1 HKS HRS HLG H0 H1 hzW
  unfold rk
  go_upto_region 31 with (fail)
  generalize (w2.setCell ⟨W.heap.size, 0, none⟩ (.slice ua un uc)).setCell ⟨W.heap.size, 1, none⟩ (.slice va vn vc) = X3 at *
  clear y0 y1 z0 z1 yl
  have HD3 : Hid (ESt w0 X3 l P' Q' g' (.slice ua un uc) (.slice va vn vc) n (k + 1)) := HDN
  refine wp_region_mix (fun W' => Fr [w.heap.size + 1 + 1] X3 W') 7 [(true, 0), (true, 1), (true, 2), (true, 3), (true, 4), (false, 5), (false, 6)] (by kernel_rfl) (by kernel_rfl) (fun _ _ _ d _ h => by cases d <;> exact h) ?_
  have hld : ∀ W', Fr [w.heap.size + 1 + 1] X3 W' → W'.cell? ⟨W.heap.size, 0, none⟩ = some (.slice ua un uc) ∧ W'.cell? ⟨W.heap.size, 1, none⟩ = some (.slice va vn vc) ∧ W.heap.size < W'.heap.size := fun W' hb => by
    have e0 := hb.same H3.out (by have := HSW.out; simp; omega)
    exact ⟨cells_cell e0 rfl, cells_cell e0 rfl, lt_of_block e0⟩
  have HS1 : Hid (Fr [w.heap.size + 1 + 1] X3 X3.drew) := Lib.hid (fr_drewN X3 1 _)
  simp only [List.map_cons, List.map_nil, List.getD_cons_zero, List.getD_cons_succ, List.drop_succ_cons, List.drop_zero]
  refine mix_move (.tmp 0) (.pointer (some ⟨l.t, 0, none⟩)) rfl HS1.out rfl rfl ?_
  simp only [Act.put, List.setIfInBounds_toArray, List.set_cons_zero, List.set_cons_succ]
  refine mix_take (.agg #[.slice ua un uc, .slice va vn vc]) HS1.out rfl (fun W' hS => by obtain ⟨l0, l1, l2⟩ := hld W' hS; go_simp) ?_
  simp only [Act.put, List.setIfInBounds_toArray, List.set_cons_zero, List.set_cons_succ]
  refine mix_move (.tmp 9) (.int .i64 code) rfl HS1.out rfl rfl ?_
  simp only [Act.put, List.setIfInBounds_toArray, List.set_cons_zero, List.set_cons_succ]
  refine mix_move (.tmp 11) (.int .i64 code) rfl HS1.out rfl rfl ?_
  simp only [Act.put, List.setIfInBounds_toArray, List.set_cons_zero, List.set_cons_succ]
  refine mix_take (.bool true) HS1.out rfl (fun W' hS => by go_simp) ?_
  simp only [Act.put, List.setIfInBounds_toArray, List.set_cons_zero, List.set_cons_succ]
  refine mix_by (.pointer (some ⟨l.t, 0, none⟩)) rfl (by go_simp) HS1.out ?_
  simp only [Act.put, List.setIfInBounds_toArray, List.set_cons_zero, List.set_cons_succ]
  have D : Below X3.heap.size X3 X3.drew := ((Grn.refl X3).drew 1).below
  have c2 := (D.block _ (lt_of_block H2.out)).trans H2.out
  have HD4 := Lib.hid (HD3.out.grown D)
  have HF4 := Lib.hid (HF.out.trans' (Fr.of_below D _))
  clear D hld
  generalize X3.drew = V6 at *
  have y0 := cells_cell (o := 0) c2 rfl
  have y1 : V6.cell? ⟨w.heap.size + 1 + 1, 1, none⟩ = some (.slice none 0 0) := cells_cell c2 rfl
  have z0 := cells_free c2 0
  have z1 := cells_free c2 1
  have hxl := lt_of_block c2
  have hf := (fr_setCell V6 ⟨w.heap.size + 1 + 1, 0, none⟩ (.slice ua un uc)).trans' (fr_setCell _ ⟨w.heap.size + 1 + 1, 1, none⟩ (.slice va vn vc))
  have hc := cells_set (cells_set c2 0 (.slice ua un uc)) 1 (.slice va vn vc)
  have HE2 := Lib.hid (HD4.out.put c2 (by decide) (by decide) (by decide) (by decide) (by decide) (by have := HW0.out; omega) hf)
  have HE1 := Lib.hid (HF4.out.trans hf (fun x hx => .inr (by simp at hx; omega)))
  have HS2 := Lib.hid (HS1.out.trans' hf)
  have HC := Lib.hid hc
  clear hf hc c2 HS1 HD4 HF4
  refine mix_step rfl (fun K hK => ?_)
  go_simp
  refine hK _ _ HS2.out ?_
  clear hK
  refine mix_nil ?_
  go_wp2_with fail
  have hc := HC.out
  simp at hc
  exact bodyPost_ret (v := .tuple #[.pointer (some ⟨l.t, 0, none⟩), .agg #[.slice ua un uc, .slice va vn vc], .bool true]) (by simp [results, Tryd.results11, go_sem, cells_cell (o := 0) hc rfl, cells_cell (o := 1) hc rfl]) rfl ⟨HE1.out, l, _, _, _, _, _, rfl, HE2.out⟩
end Go.Proofs.YtifdpdghjfcaaaaDoor
