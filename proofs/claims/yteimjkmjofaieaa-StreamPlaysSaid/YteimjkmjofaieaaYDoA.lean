/- The law's step. -/
import Derived.Test.YteimjkmjofaieaaYParts
import Derived.Test.YteimjkmjofaieaaYLaw
namespace Go.Proofs.Yteimjkmjofaieaa
open Go.RowKit Go.Sort
set_option linter.unusedVariables false
set_option linter.unusedSimpArgs false
set_option maxRecDepth 100000

/-- What a step leaves. -/
def StepR (w0 w : World) (k : Sb) (w' : World) (e : Ending) : Prop := ∃ m' k' y sv', e = .returned (.tuple #[pt m', sv', .bool true]) ∧ KS w0 w' m' k' y ∧ SvP (fun g => g ∉ k'.F) w' sv' y.rw ∧ Fr k.F w w'
theorem seven_cells {w : World} {b : Nat} {a0 a1 a2 a3 a4 a5 a6 : Value} {t : TypeId} (h : w.heap[b]? = some (.cells #[a0, a1, a2, a3, a4, a5, a6] t (0, 0))) (p0 p1 p2 p3 p4 p5 p6 : Value) :
    (((((((w.setCell ⟨b, 0, none⟩ p0).setCell ⟨b, 1, none⟩ p1).setCell ⟨b, 2, none⟩ p2).setCell ⟨b, 3, none⟩ p3).setCell ⟨b, 4, none⟩ p4).setCell ⟨b, 5, none⟩ p5).setCell ⟨b, 6, none⟩ p6).heap[b]? = some (.cells #[p0, p1, p2, p3, p4, p5, p6] t (0, 0)) := by
  simpa using cells_set (cells_set (cells_set (cells_set (cells_set (cells_set (cells_set h 0 p0) 1 p1) 2 p2) 3 p3) 4 p4) 5 p5) 6 p6
theorem seven_fr (w : World) (b : Nat) (p0 p1 p2 p3 p4 p5 p6 : Value) : Fr [b] w (((((((w.setCell ⟨b, 0, none⟩ p0).setCell ⟨b, 1, none⟩ p1).setCell ⟨b, 2, none⟩ p2).setCell ⟨b, 3, none⟩ p3).setCell ⟨b, 4, none⟩ p4).setCell ⟨b, 5, none⟩ p5).setCell ⟨b, 6, none⟩ p6) :=
  ((((((fr_setCell w ⟨b, 0, none⟩ p0).trans' (fr_setCell _ ⟨b, 1, none⟩ p1)).trans' (fr_setCell _ ⟨b, 2, none⟩ p2)).trans' (fr_setCell _ ⟨b, 3, none⟩ p3)).trans' (fr_setCell _ ⟨b, 4, none⟩ p4)).trans' (fr_setCell _ ⟨b, 5, none⟩ p5)).trans' (fr_setCell _ ⟨b, 6, none⟩ p6)
theorem KS.box {w W W' : World} {m : Nat} {k : Sb} {x : St} {i : Nat} {cs : Array Value} (h : KS w W m k x) (hi : W.heap[i]? = some (.cells cs 31 (0, 0))) (hf : Fr [i] W W') (hn : w.heap.size ≤ i) : KS w W' m k x :=
  ⟨h.at'.box hi hf (by decide) (by decide) (by decide) (by decide) (by decide), h.new, h.be.trans (hf.below (fun q hq => by simp at hq; omega) h.be.size)⟩
set_option maxHeartbeats 6400000 in
theorem do_end {w0 w : World} {m : Nat} {k : Sb} {x : St} {sv pv : Value} {Ps : Parts} (h : KS w0 w m k x) (hs : SvP (fun g => g ∉ k.F) w sv x.rw) (hp : PtsV w0 pv Ps) (n : Int) :
    Calls Try.prog 12 #[pt m, sv, .agg #[.int .i64 1, pv, .int .i64 n]] w fun e w' => StepR w0 w k w' e := by
  obtain ⟨z0, a1, a2, a3, zb, b1, b2, b3, z4, z5, z6, rfl⟩ : ∃ z0 a1 a2 a3 zb b1 b2 b3 z4 z5 z6, sv = .agg #[.int .i64 z0, .slice a1 a2 a3, .bool zb, .slice b1 b2 b3, .int .i64 z4, .int .i64 z5, .int .i64 z6] := by
    obtain ⟨s1, n, s3, r1, rn, r3, e⟩ := hs.shape
    exact ⟨_, _, _, _, _, _, _, _, _, _, _, e⟩
  obtain ⟨pa, pc, rfl, hpc1, hpc2⟩ := hp.form
  obtain ⟨pj, hpj⟩ : ∃ j, j = Ps.length := ⟨_, rfl⟩
  rw [← hpj] at hp hpc1 ⊢
  obtain ⟨W, hW⟩ : ∃ W, W = ((w.alloc (.cells #[.int .i64 z0, .slice a1 a2 a3, .bool zb, .slice b1 b2 b3, .int .i64 z4, .int .i64 z5, .int .i64 z6] 31)).alloc (.cells #[.int .i64 1, .slice pa pj pc, .int .i64 n] 38)).alloc (.cells #[.int .i64 0, .slice none 0 0, .bool false, .slice none 0 0, .int .i64 0, .int .i64 0, .int .i64 0] 31) := ⟨_, rfl⟩
  have bw1 := below_alloc w (.cells #[.int .i64 z0, .slice a1 a2 a3, .bool zb, .slice b1 b2 b3, .int .i64 z4, .int .i64 z5, .int .i64 z6] 31)
  have bw2 := below_alloc (w.alloc (.cells #[.int .i64 z0, .slice a1 a2 a3, .bool zb, .slice b1 b2 b3, .int .i64 z4, .int .i64 z5, .int .i64 z6] 31)) (.cells #[.int .i64 1, .slice pa pj pc, .int .i64 n] 38)
  have bw3 := below_alloc ((w.alloc (.cells #[.int .i64 z0, .slice a1 a2 a3, .bool zb, .slice b1 b2 b3, .int .i64 z4, .int .i64 z5, .int .i64 z6] 31)).alloc (.cells #[.int .i64 1, .slice pa pj pc, .int .i64 n] 38)) (.cells #[.int .i64 0, .slice none 0 0, .bool false, .slice none 0 0, .int .i64 0, .int .i64 0, .int .i64 0] 31)
  have hb : Below w.heap.size w W := by rw [hW]; exact bw1.trans ((bw2.trans (bw3.mono (by simp))).mono (by simp))
  have e0 : W.heap[w.heap.size]? = some (.cells #[.int .i64 z0, .slice a1 a2 a3, .bool zb, .slice b1 b2 b3, .int .i64 z4, .int .i64 z5, .int .i64 z6] 31 (0, 0)) := by rw [hW]; exact (bw3.block _ (by simp; omega)).trans ((bw2.block _ (by simp)).trans (heap_alloc_new w _))
  have e1 : W.heap[w.heap.size + 1]? = some (.cells #[.int .i64 1, .slice pa pj pc, .int .i64 n] 38 (0, 0)) := by rw [hW]; exact (bw3.block _ (by simp)).trans (block_new _ _ _ (by simp))
  have e2 : W.heap[w.heap.size + 1 + 1]? = some (.cells #[.int .i64 0, .slice none 0 0, .bool false, .slice none 0 0, .int .i64 0, .int .i64 0, .int .i64 0] 31 (0, 0)) := by rw [hW]; exact block_new _ _ _ (by simp)
  have HW := Lib.hid hW.symm
  have HX : Hid (W.heap[w.heap.size]? = some (.cells #[.int .i64 z0, .slice a1 a2 a3, .bool zb, .slice b1 b2 b3, .int .i64 z4, .int .i64 z5, .int .i64 z6] 31 (0, 0))) := Lib.hid e0
  have HA : Hid (W.heap[w.heap.size + 1]? = some (.cells #[.int .i64 1, .slice pa pj pc, .int .i64 n] 38 (0, 0))) := Lib.hid e1
  have HR : Hid (W.heap[w.heap.size + 1 + 1]? = some (.cells #[.int .i64 0, .slice none 0 0, .bool false, .slice none 0 0, .int .i64 0, .int .i64 0, .int .i64 0] 31 (0, 0))) := Lib.hid e2
  have HK := Lib.hid (h.grow hb)
  have HS : Hid (SvP (fun g => g ∉ k.F ∧ g ≠ w.heap.size + 1 + 1) W (.agg #[.int .i64 z0, .slice a1 a2 a3, .bool zb, .slice b1 b2 b3, .int .i64 z4, .int .i64 z5, .int .i64 z6]) x.rw) := Lib.hid ((hs.bound.grown hb).weak (fun g hg => ⟨hg.1, by have := hg.2; omega⟩))
  have HOK := Lib.hid h.at'.ok
  have HFL : Hid (∀ i ∈ k.F, i < w.heap.size) := Lib.hid h.at'.F_lt
  have HW0 : Hid (w0.heap.size ≤ w.heap.size) := Lib.hid h.be.size
  have HFR : Hid (Fr k.F w W) := Lib.hid (Fr.of_below hb k.F)
  have HP := Lib.hid hp
  have HPJ := Lib.hid hpj
  have x0 := cells_cell (o := 0) e0 rfl
  have x1 := cells_cell (o := 1) e0 rfl
  have x2 := cells_cell (o := 2) e0 rfl
  have x3 := cells_cell (o := 3) e0 rfl
  have x4 := cells_cell (o := 4) e0 rfl
  have x5 := cells_cell (o := 5) e0 rfl
  have x6 := cells_cell (o := 6) e0 rfl
  have y0 := cells_cell (o := 0) e1 rfl
  have y1 := cells_cell (o := 1) e1 rfl
  have y2 := cells_cell (o := 2) e1 rfl
  have hlX := lt_of_block e0
  have hlA := lt_of_block e1
  clear hW bw1 bw2 bw3 hb e0 e1 e2 h hs hpj hp
  unfold pt StepR
  clear hpc1 hpc2
  have hrf := sfEnd_any (w := W) HS.out HOK.out
  obtain ⟨yn, ye, y, hy⟩ : ∃ yn ye y, sEn x = (yn, ye, y) := ⟨_, _, _, rfl⟩
  have HYE := Lib.hid hy
  rw [hy] at hrf
  clear hy
  have HRF := Lib.hid hrf
  clear hrf
  go_enter Try.func12, Try.ntmps12
  go_upto_region 1 with fail
  rw [HW.out]
  go_wp2_with (go_at_call 44; fail)
  refine (HRF.out).mono ?_
  rintro e w1 ⟨v1, rfl, hs1, hb1⟩
  obtain ⟨q0, c1, c2, c3, qb, d1, d2, d3, q4, q5, q6, rfl⟩ : ∃ q0 c1 c2 c3 qb d1 d2 d3 q4 q5 q6, v1 = .agg #[.int .i64 q0, .slice c1 c2 c3, .bool qb, .slice d1 d2 d3, .int .i64 q4, .int .i64 q5, .int .i64 q6] := by
    obtain ⟨s1, n, s3, r1, rn, r3, e⟩ := hs1.shape
    exact ⟨_, _, _, _, _, _, _, _, _, _, _, e⟩
  have HX1 := Lib.hid ((hb1.block _ (lt_of_block HX.out)).trans HX.out)
  have HA1 := Lib.hid ((hb1.block _ (lt_of_block HA.out)).trans HA.out)
  have HR1 := Lib.hid ((hb1.block _ (lt_of_block HR.out)).trans HR.out)
  have HK1 := Lib.hid (HK.out.grow hb1)
  have HS1 := Lib.hid hs1
  have HFR1 : Hid (Fr k.F w w1) := Lib.hid (HFR.out.trans' (Fr.of_below hb1 k.F))
  clear hb1 hs1 HX HA HR HK HS HFR
  clear x0 x1 x2 x3 x4 x5 x6 y0 y1 y2 hlX hlA
  go_wp2_with (go_at_call 21; fail)
  generalize hV0 : World.alloc _ _ = V0
  have hb2 : Below w1.heap.size w1 V0 := by rw [← hV0]; exact below_alloc _ _
  have hy0 : V0.heap[w1.heap.size]? = some (.cells #[.int .i64 q0, .slice c1 c2 c3, .bool qb, .slice d1 d2 d3, .int .i64 q4, .int .i64 q5, .int .i64 q6] 31 (0, 0)) := by rw [← hV0]; exact heap_alloc_new _ _
  have HX2 := Lib.hid ((hb2.block _ (lt_of_block HX1.out)).trans HX1.out)
  have HA2 := Lib.hid ((hb2.block _ (lt_of_block HA1.out)).trans HA1.out)
  have HR2 := Lib.hid ((hb2.block _ (lt_of_block HR1.out)).trans HR1.out)
  have HK2 := Lib.hid (HK1.out.grow hb2)
  have HS2 := Lib.hid (HS1.out.grown hb2)
  have HFR2 : Hid (Fr k.F w V0) := Lib.hid (HFR1.out.trans' (Fr.of_below hb2 k.F))
  have HY2 := Lib.hid hy0
  have HWW : Hid (w.heap.size + 1 + 1 < w1.heap.size) := Lib.hid (lt_of_block HR1.out)
  clear hV0 hb2 hy0 HX1 HA1 HR1 HK1 HS1 HFR1
  have hst := ks_end HK2.out yn ye HYE.out
  unfold pt at hst
  refine hst.mono ?_
  rintro e V1 ⟨rfl, hk, hf⟩
  clear hst
  have HX3 := Lib.hid (hf.same HX2.out (fun hi => by have := HFL.out _ hi; omega))
  have HA3 := Lib.hid (hf.same HA2.out (fun hi => by have := HFL.out _ hi; omega))
  have HR3 := Lib.hid (hf.same HR2.out (fun hi => by have := HFL.out _ hi; omega))
  have HY3 := Lib.hid (hf.same HY2.out (fun hi => by have := HFL.out _ hi; have := HWW.out; omega))
  have HS3 := Lib.hid (HS2.out.fr hf (fun g hg => hg.1))
  have HK3 := Lib.hid hk
  have HFR3 : Hid (Fr k.F w V1) := Lib.hid (HFR2.out.trans' hf)
  clear hk hf HX2 HA2 HR2 HY2 HS2 HK2 HFR2
  go_wp2_with fail
  refine wp_region_mix (fun W' => W'.heap[w1.heap.size]? = some (.cells #[.int .i64 q0, .slice c1 c2 c3, .bool qb, .slice d1 d2 d3, .int .i64 q4, .int .i64 q5, .int .i64 q6] 31 (0, 0))) 12 [(true, 0), (true, 1), (true, 2), (true, 3), (true, 4), (true, 5), (true, 6), (true, 7), (true, 8), (true, 9), (true, 10), (false, 11)] (by kernel_rfl) (by kernel_rfl) (fun _ _ _ d _ h => by cases d <;> exact h) ?_
  have HD : Hid (Below V1.heap.size V1 V1.drew) := Lib.hid ((Grn.refl V1).drew 1).below
  have HQ : Hid (V1.drew.heap[w1.heap.size]? = some (.cells #[.int .i64 q0, .slice c1 c2 c3, .bool qb, .slice d1 d2 d3, .int .i64 q4, .int .i64 q5, .int .i64 q6] 31 (0, 0))) := Lib.hid ((HD.out.block _ (lt_of_block HY3.out)).trans HY3.out)
  have HT := Lib.hid ((HD.out.block _ (lt_of_block HR3.out)).trans HR3.out)
  have HAT := Lib.hid ((HD.out.block _ (lt_of_block HA3.out)).trans HA3.out)
  have HKK := Lib.hid (HK3.out.grow HD.out)
  have HSS := Lib.hid (HS3.out.grown HD.out)
  have HFF : Hid (Fr k.F w V1.drew) := Lib.hid (HFR3.out.trans' (Fr.of_below HD.out k.F))
  clear HX3 HA3 HR3 HY3 HS3 HK3 HFR3
  simp only [List.map_cons, List.map_nil, List.getD_cons_zero, List.getD_cons_succ, List.drop_succ_cons, List.drop_zero]
  generalize V1.drew = V at *
  refine mix_move (.tmp 0) (.pointer (some ⟨m, 0, none⟩)) rfl HQ.out rfl rfl ?_
  simp only [Act.put, List.setIfInBounds_toArray, List.set_cons_zero, List.set_cons_succ]
  refine mix_take (.agg #[.int .i64 q0, .slice c1 c2 c3, .bool qb, .slice d1 d2 d3, .int .i64 q4, .int .i64 q5, .int .i64 q6]) HQ.out rfl (fun W' hS => by 
    have l0 := cells_cell (o := 0) hS rfl
    have l1 := cells_cell (o := 1) hS rfl
    have l2 := cells_cell (o := 2) hS rfl
    have l3 := cells_cell (o := 3) hS rfl
    have l4 := cells_cell (o := 4) hS rfl
    have l5 := cells_cell (o := 5) hS rfl
    have l6 := cells_cell (o := 6) hS rfl
    go_simp) ?_
  simp only [Act.put, List.setIfInBounds_toArray, List.set_cons_zero, List.set_cons_succ]
  refine mix_move (.tmp 17) (.int .i64 (yn : Nat)) rfl HQ.out rfl rfl ?_
  simp only [Act.put, List.setIfInBounds_toArray, List.set_cons_zero, List.set_cons_succ]
  refine mix_move (.tmp 15) (.int .i64 (yn : Nat)) rfl HQ.out rfl rfl ?_
  simp only [Act.put, List.setIfInBounds_toArray, List.set_cons_zero, List.set_cons_succ]
  refine mix_take (.bool true) HQ.out rfl (fun W' hS => by go_simp) ?_
  simp only [Act.put, List.setIfInBounds_toArray, List.set_cons_zero, List.set_cons_succ]
  refine mix_move (.tmp 84) (.bool true) rfl HQ.out rfl rfl ?_
  simp only [Act.put, List.setIfInBounds_toArray, List.set_cons_zero, List.set_cons_succ]
  refine mix_move (.tmp 18) (.int .i64 ye) rfl HQ.out rfl rfl ?_
  simp only [Act.put, List.setIfInBounds_toArray, List.set_cons_zero, List.set_cons_succ]
  refine mix_move (.tmp 16) (.int .i64 ye) rfl HQ.out rfl rfl ?_
  simp only [Act.put, List.setIfInBounds_toArray, List.set_cons_zero, List.set_cons_succ]
  refine mix_take (.bool true) HQ.out rfl (fun W' hS => by go_simp) ?_
  simp only [Act.put, List.setIfInBounds_toArray, List.set_cons_zero, List.set_cons_succ]
  refine mix_take (.bool true) HQ.out rfl (fun W' hS => by go_simp) ?_
  simp only [Act.put, List.setIfInBounds_toArray, List.set_cons_zero, List.set_cons_succ]
  refine mix_take (.pointer (some ⟨m, 0, none⟩)) HQ.out rfl (fun W' hS => by go_simp) ?_
  simp only [Act.put, List.setIfInBounds_toArray, List.set_cons_zero, List.set_cons_succ]
  refine mix_step rfl (fun K1 hK => ?_)
  have dd0 := cells_cell (o := 0) HT.out rfl
  have dd1 := cells_cell (o := 1) HT.out rfl
  have dd2 := cells_cell (o := 2) HT.out rfl
  have dd3 := cells_cell (o := 3) HT.out rfl
  have dd4 := cells_cell (o := 4) HT.out rfl
  have dd5 := cells_cell (o := 5) HT.out rfl
  have dd6 := cells_cell (o := 6) HT.out rfl
  have ff0 := cells_free HT.out 0
  have ff1 := cells_free HT.out 1
  have ff2 := cells_free HT.out 2
  have ff3 := cells_free HT.out 3
  have ff4 := cells_free HT.out 4
  have ff5 := cells_free HT.out 5
  have ff6 := cells_free HT.out 6
  have hlt := lt_of_block HT.out
  go_simp
  generalize hWF : World.setCell _ _ _ = WF
  have hff : Fr [w.heap.size + 1 + 1] V WF := by rw [← hWF]; exact seven_fr V _ _ _ _ _ _ _ _
  have ht : WF.heap[w.heap.size + 1 + 1]? = some (.cells #[.int .i64 q0, .slice c1 c2 c3, .bool qb, .slice d1 d2 d3, .int .i64 q4, .int .i64 q5, .int .i64 q6] 31 (0, 0)) := by rw [← hWF]; exact seven_cells HT.out _ _ _ _ _ _ _
  have HS8 : Hid (WF.heap[w1.heap.size]? = some (.cells #[.int .i64 q0, .slice c1 c2 c3, .bool qb, .slice d1 d2 d3, .int .i64 q4, .int .i64 q5, .int .i64 q6] 31 (0, 0))) := Lib.hid (hff.same HQ.out (by have := HWW.out; simp; omega))
  have HKF := Lib.hid (HKK.out.box HT.out hff (by have := HW0.out; omega))
  have HSF := Lib.hid ((HSS.out.fr hff (fun g hg => by have := hg.2; simp only [List.mem_singleton]; omega)).weak (fun g hg => hg.1))
  have HFE : Hid (Fr k.F w WF) := Lib.hid (HFF.out.trans hff (fun q hq => .inr (by simp at hq; omega)))
  clear hWF HT HKK HSS HFF hlt dd0 ff0 dd1 ff1 dd2 ff2 dd3 ff3 dd4 ff4 dd5 ff5 dd6 ff6
  refine hK _ _ HS8.out ?_
  clear hK HQ
  refine mix_nil ?_
  go_wp2_with fail
  have t0 := cells_cell (o := 0) ht rfl
  have t1 := cells_cell (o := 1) ht rfl
  have t2 := cells_cell (o := 2) ht rfl
  have t3 := cells_cell (o := 3) ht rfl
  have t4 := cells_cell (o := 4) ht rfl
  have t5 := cells_cell (o := 5) ht rfl
  have t6 := cells_cell (o := 6) ht rfl
  refine bodyPost_ret (v := .tuple #[.pointer (some ⟨m, 0, none⟩), (.agg #[.int .i64 q0, .slice c1 c2 c3, .bool qb, .slice d1 d2 d3, .int .i64 q4, .int .i64 q5, .int .i64 q6]), .bool true]) (by simp [results, Try.results12, go_sem, t0, t1, t2, t3, t4, t5, t6]) rfl ?_
  exact ⟨m, k, y, _, rfl, HKF.out, HSF.out, HFE.out⟩
set_option maxHeartbeats 6400000 in
theorem do_cancel {w0 w : World} {m : Nat} {k : Sb} {x : St} {sv pv : Value} {Ps : Parts} (h : KS w0 w m k x) (hs : SvP (fun g => g ∉ k.F) w sv x.rw) (hp : PtsV w0 pv Ps) (n : Int) :
    Calls Try.prog 12 #[pt m, sv, .agg #[.int .i64 2, pv, .int .i64 n]] w fun e w' => StepR w0 w k w' e := by
  obtain ⟨z0, a1, a2, a3, zb, b1, b2, b3, z4, z5, z6, rfl⟩ : ∃ z0 a1 a2 a3 zb b1 b2 b3 z4 z5 z6, sv = .agg #[.int .i64 z0, .slice a1 a2 a3, .bool zb, .slice b1 b2 b3, .int .i64 z4, .int .i64 z5, .int .i64 z6] := by
    obtain ⟨s1, n, s3, r1, rn, r3, e⟩ := hs.shape
    exact ⟨_, _, _, _, _, _, _, _, _, _, _, e⟩
  obtain ⟨pa, pc, rfl, hpc1, hpc2⟩ := hp.form
  obtain ⟨pj, hpj⟩ : ∃ j, j = Ps.length := ⟨_, rfl⟩
  rw [← hpj] at hp hpc1 ⊢
  obtain ⟨W, hW⟩ : ∃ W, W = ((w.alloc (.cells #[.int .i64 z0, .slice a1 a2 a3, .bool zb, .slice b1 b2 b3, .int .i64 z4, .int .i64 z5, .int .i64 z6] 31)).alloc (.cells #[.int .i64 2, .slice pa pj pc, .int .i64 n] 38)).alloc (.cells #[.int .i64 0, .slice none 0 0, .bool false, .slice none 0 0, .int .i64 0, .int .i64 0, .int .i64 0] 31) := ⟨_, rfl⟩
  have bw1 := below_alloc w (.cells #[.int .i64 z0, .slice a1 a2 a3, .bool zb, .slice b1 b2 b3, .int .i64 z4, .int .i64 z5, .int .i64 z6] 31)
  have bw2 := below_alloc (w.alloc (.cells #[.int .i64 z0, .slice a1 a2 a3, .bool zb, .slice b1 b2 b3, .int .i64 z4, .int .i64 z5, .int .i64 z6] 31)) (.cells #[.int .i64 2, .slice pa pj pc, .int .i64 n] 38)
  have bw3 := below_alloc ((w.alloc (.cells #[.int .i64 z0, .slice a1 a2 a3, .bool zb, .slice b1 b2 b3, .int .i64 z4, .int .i64 z5, .int .i64 z6] 31)).alloc (.cells #[.int .i64 2, .slice pa pj pc, .int .i64 n] 38)) (.cells #[.int .i64 0, .slice none 0 0, .bool false, .slice none 0 0, .int .i64 0, .int .i64 0, .int .i64 0] 31)
  have hb : Below w.heap.size w W := by rw [hW]; exact bw1.trans ((bw2.trans (bw3.mono (by simp))).mono (by simp))
  have e0 : W.heap[w.heap.size]? = some (.cells #[.int .i64 z0, .slice a1 a2 a3, .bool zb, .slice b1 b2 b3, .int .i64 z4, .int .i64 z5, .int .i64 z6] 31 (0, 0)) := by rw [hW]; exact (bw3.block _ (by simp; omega)).trans ((bw2.block _ (by simp)).trans (heap_alloc_new w _))
  have e1 : W.heap[w.heap.size + 1]? = some (.cells #[.int .i64 2, .slice pa pj pc, .int .i64 n] 38 (0, 0)) := by rw [hW]; exact (bw3.block _ (by simp)).trans (block_new _ _ _ (by simp))
  have e2 : W.heap[w.heap.size + 1 + 1]? = some (.cells #[.int .i64 0, .slice none 0 0, .bool false, .slice none 0 0, .int .i64 0, .int .i64 0, .int .i64 0] 31 (0, 0)) := by rw [hW]; exact block_new _ _ _ (by simp)
  have HW := Lib.hid hW.symm
  have HX : Hid (W.heap[w.heap.size]? = some (.cells #[.int .i64 z0, .slice a1 a2 a3, .bool zb, .slice b1 b2 b3, .int .i64 z4, .int .i64 z5, .int .i64 z6] 31 (0, 0))) := Lib.hid e0
  have HA : Hid (W.heap[w.heap.size + 1]? = some (.cells #[.int .i64 2, .slice pa pj pc, .int .i64 n] 38 (0, 0))) := Lib.hid e1
  have HR : Hid (W.heap[w.heap.size + 1 + 1]? = some (.cells #[.int .i64 0, .slice none 0 0, .bool false, .slice none 0 0, .int .i64 0, .int .i64 0, .int .i64 0] 31 (0, 0))) := Lib.hid e2
  have HK := Lib.hid (h.grow hb)
  have HS : Hid (SvP (fun g => g ∉ k.F ∧ g ≠ w.heap.size + 1 + 1) W (.agg #[.int .i64 z0, .slice a1 a2 a3, .bool zb, .slice b1 b2 b3, .int .i64 z4, .int .i64 z5, .int .i64 z6]) x.rw) := Lib.hid ((hs.bound.grown hb).weak (fun g hg => ⟨hg.1, by have := hg.2; omega⟩))
  have HOK := Lib.hid h.at'.ok
  have HFL : Hid (∀ i ∈ k.F, i < w.heap.size) := Lib.hid h.at'.F_lt
  have HW0 : Hid (w0.heap.size ≤ w.heap.size) := Lib.hid h.be.size
  have HFR : Hid (Fr k.F w W) := Lib.hid (Fr.of_below hb k.F)
  have HP := Lib.hid hp
  have HPJ := Lib.hid hpj
  have x0 := cells_cell (o := 0) e0 rfl
  have x1 := cells_cell (o := 1) e0 rfl
  have x2 := cells_cell (o := 2) e0 rfl
  have x3 := cells_cell (o := 3) e0 rfl
  have x4 := cells_cell (o := 4) e0 rfl
  have x5 := cells_cell (o := 5) e0 rfl
  have x6 := cells_cell (o := 6) e0 rfl
  have y0 := cells_cell (o := 0) e1 rfl
  have y1 := cells_cell (o := 1) e1 rfl
  have y2 := cells_cell (o := 2) e1 rfl
  have hlX := lt_of_block e0
  have hlA := lt_of_block e1
  clear hW bw1 bw2 bw3 hb e0 e1 e2 h hs hpj hp
  unfold pt StepR
  clear hpc1 hpc2
  have hrf := sfCancel_any (w := W) HS.out HOK.out
  obtain ⟨yn, ye, y, hy⟩ : ∃ yn ye y, sCa x = (yn, ye, y) := ⟨_, _, _, rfl⟩
  have HYE := Lib.hid hy
  rw [hy] at hrf
  clear hy
  have HRF := Lib.hid hrf
  clear hrf
  go_enter Try.func12, Try.ntmps12
  go_upto_region 1 with fail
  rw [HW.out]
  go_wp2_with (go_at_call 45; fail)
  refine (HRF.out).mono ?_
  rintro e w1 ⟨v1, rfl, hs1, hb1⟩
  obtain ⟨q0, c1, c2, c3, qb, d1, d2, d3, q4, q5, q6, rfl⟩ : ∃ q0 c1 c2 c3 qb d1 d2 d3 q4 q5 q6, v1 = .agg #[.int .i64 q0, .slice c1 c2 c3, .bool qb, .slice d1 d2 d3, .int .i64 q4, .int .i64 q5, .int .i64 q6] := by
    obtain ⟨s1, n, s3, r1, rn, r3, e⟩ := hs1.shape
    exact ⟨_, _, _, _, _, _, _, _, _, _, _, e⟩
  have HX1 := Lib.hid ((hb1.block _ (lt_of_block HX.out)).trans HX.out)
  have HA1 := Lib.hid ((hb1.block _ (lt_of_block HA.out)).trans HA.out)
  have HR1 := Lib.hid ((hb1.block _ (lt_of_block HR.out)).trans HR.out)
  have HK1 := Lib.hid (HK.out.grow hb1)
  have HS1 := Lib.hid hs1
  have HFR1 : Hid (Fr k.F w w1) := Lib.hid (HFR.out.trans' (Fr.of_below hb1 k.F))
  clear hb1 hs1 HX HA HR HK HS HFR
  clear x0 x1 x2 x3 x4 x5 x6 y0 y1 y2 hlX hlA
  go_wp2_with (go_at_call 22; fail)
  generalize hV0 : World.alloc _ _ = V0
  have hb2 : Below w1.heap.size w1 V0 := by rw [← hV0]; exact below_alloc _ _
  have hy0 : V0.heap[w1.heap.size]? = some (.cells #[.int .i64 q0, .slice c1 c2 c3, .bool qb, .slice d1 d2 d3, .int .i64 q4, .int .i64 q5, .int .i64 q6] 31 (0, 0)) := by rw [← hV0]; exact heap_alloc_new _ _
  have HX2 := Lib.hid ((hb2.block _ (lt_of_block HX1.out)).trans HX1.out)
  have HA2 := Lib.hid ((hb2.block _ (lt_of_block HA1.out)).trans HA1.out)
  have HR2 := Lib.hid ((hb2.block _ (lt_of_block HR1.out)).trans HR1.out)
  have HK2 := Lib.hid (HK1.out.grow hb2)
  have HS2 := Lib.hid (HS1.out.grown hb2)
  have HFR2 : Hid (Fr k.F w V0) := Lib.hid (HFR1.out.trans' (Fr.of_below hb2 k.F))
  have HY2 := Lib.hid hy0
  have HWW : Hid (w.heap.size + 1 + 1 < w1.heap.size) := Lib.hid (lt_of_block HR1.out)
  clear hV0 hb2 hy0 HX1 HA1 HR1 HK1 HS1 HFR1
  have hst := ks_cancel HK2.out yn ye HYE.out
  unfold pt at hst
  refine hst.mono ?_
  rintro e V1 ⟨rfl, hk, hf⟩
  clear hst
  have HX3 := Lib.hid (hf.same HX2.out (fun hi => by have := HFL.out _ hi; omega))
  have HA3 := Lib.hid (hf.same HA2.out (fun hi => by have := HFL.out _ hi; omega))
  have HR3 := Lib.hid (hf.same HR2.out (fun hi => by have := HFL.out _ hi; omega))
  have HY3 := Lib.hid (hf.same HY2.out (fun hi => by have := HFL.out _ hi; have := HWW.out; omega))
  have HS3 := Lib.hid (HS2.out.fr hf (fun g hg => hg.1))
  have HK3 := Lib.hid hk
  have HFR3 : Hid (Fr k.F w V1) := Lib.hid (HFR2.out.trans' hf)
  clear hk hf HX2 HA2 HR2 HY2 HS2 HK2 HFR2
  go_wp2_with fail
  refine wp_region_mix (fun W' => W'.heap[w1.heap.size]? = some (.cells #[.int .i64 q0, .slice c1 c2 c3, .bool qb, .slice d1 d2 d3, .int .i64 q4, .int .i64 q5, .int .i64 q6] 31 (0, 0))) 12 [(true, 0), (true, 1), (true, 2), (true, 3), (true, 4), (true, 5), (true, 6), (true, 7), (true, 8), (true, 9), (true, 10), (false, 11)] (by kernel_rfl) (by kernel_rfl) (fun _ _ _ d _ h => by cases d <;> exact h) ?_
  have HD : Hid (Below V1.heap.size V1 V1.drew) := Lib.hid ((Grn.refl V1).drew 1).below
  have HQ : Hid (V1.drew.heap[w1.heap.size]? = some (.cells #[.int .i64 q0, .slice c1 c2 c3, .bool qb, .slice d1 d2 d3, .int .i64 q4, .int .i64 q5, .int .i64 q6] 31 (0, 0))) := Lib.hid ((HD.out.block _ (lt_of_block HY3.out)).trans HY3.out)
  have HT := Lib.hid ((HD.out.block _ (lt_of_block HR3.out)).trans HR3.out)
  have HAT := Lib.hid ((HD.out.block _ (lt_of_block HA3.out)).trans HA3.out)
  have HKK := Lib.hid (HK3.out.grow HD.out)
  have HSS := Lib.hid (HS3.out.grown HD.out)
  have HFF : Hid (Fr k.F w V1.drew) := Lib.hid (HFR3.out.trans' (Fr.of_below HD.out k.F))
  clear HX3 HA3 HR3 HY3 HS3 HK3 HFR3
  simp only [List.map_cons, List.map_nil, List.getD_cons_zero, List.getD_cons_succ, List.drop_succ_cons, List.drop_zero]
  generalize V1.drew = V at *
  refine mix_move (.tmp 0) (.pointer (some ⟨m, 0, none⟩)) rfl HQ.out rfl rfl ?_
  simp only [Act.put, List.setIfInBounds_toArray, List.set_cons_zero, List.set_cons_succ]
  refine mix_take (.agg #[.int .i64 q0, .slice c1 c2 c3, .bool qb, .slice d1 d2 d3, .int .i64 q4, .int .i64 q5, .int .i64 q6]) HQ.out rfl (fun W' hS => by 
    have l0 := cells_cell (o := 0) hS rfl
    have l1 := cells_cell (o := 1) hS rfl
    have l2 := cells_cell (o := 2) hS rfl
    have l3 := cells_cell (o := 3) hS rfl
    have l4 := cells_cell (o := 4) hS rfl
    have l5 := cells_cell (o := 5) hS rfl
    have l6 := cells_cell (o := 6) hS rfl
    go_simp) ?_
  simp only [Act.put, List.setIfInBounds_toArray, List.set_cons_zero, List.set_cons_succ]
  refine mix_move (.tmp 22) (.int .i64 (yn : Nat)) rfl HQ.out rfl rfl ?_
  simp only [Act.put, List.setIfInBounds_toArray, List.set_cons_zero, List.set_cons_succ]
  refine mix_move (.tmp 20) (.int .i64 (yn : Nat)) rfl HQ.out rfl rfl ?_
  simp only [Act.put, List.setIfInBounds_toArray, List.set_cons_zero, List.set_cons_succ]
  refine mix_take (.bool true) HQ.out rfl (fun W' hS => by go_simp) ?_
  simp only [Act.put, List.setIfInBounds_toArray, List.set_cons_zero, List.set_cons_succ]
  refine mix_move (.tmp 107) (.bool true) rfl HQ.out rfl rfl ?_
  simp only [Act.put, List.setIfInBounds_toArray, List.set_cons_zero, List.set_cons_succ]
  refine mix_move (.tmp 23) (.int .i64 ye) rfl HQ.out rfl rfl ?_
  simp only [Act.put, List.setIfInBounds_toArray, List.set_cons_zero, List.set_cons_succ]
  refine mix_move (.tmp 21) (.int .i64 ye) rfl HQ.out rfl rfl ?_
  simp only [Act.put, List.setIfInBounds_toArray, List.set_cons_zero, List.set_cons_succ]
  refine mix_take (.bool true) HQ.out rfl (fun W' hS => by go_simp) ?_
  simp only [Act.put, List.setIfInBounds_toArray, List.set_cons_zero, List.set_cons_succ]
  refine mix_take (.bool true) HQ.out rfl (fun W' hS => by go_simp) ?_
  simp only [Act.put, List.setIfInBounds_toArray, List.set_cons_zero, List.set_cons_succ]
  refine mix_take (.pointer (some ⟨m, 0, none⟩)) HQ.out rfl (fun W' hS => by go_simp) ?_
  simp only [Act.put, List.setIfInBounds_toArray, List.set_cons_zero, List.set_cons_succ]
  refine mix_step rfl (fun K1 hK => ?_)
  have dd0 := cells_cell (o := 0) HT.out rfl
  have dd1 := cells_cell (o := 1) HT.out rfl
  have dd2 := cells_cell (o := 2) HT.out rfl
  have dd3 := cells_cell (o := 3) HT.out rfl
  have dd4 := cells_cell (o := 4) HT.out rfl
  have dd5 := cells_cell (o := 5) HT.out rfl
  have dd6 := cells_cell (o := 6) HT.out rfl
  have ff0 := cells_free HT.out 0
  have ff1 := cells_free HT.out 1
  have ff2 := cells_free HT.out 2
  have ff3 := cells_free HT.out 3
  have ff4 := cells_free HT.out 4
  have ff5 := cells_free HT.out 5
  have ff6 := cells_free HT.out 6
  have hlt := lt_of_block HT.out
  go_simp
  generalize hWF : World.setCell _ _ _ = WF
  have hff : Fr [w.heap.size + 1 + 1] V WF := by rw [← hWF]; exact seven_fr V _ _ _ _ _ _ _ _
  have ht : WF.heap[w.heap.size + 1 + 1]? = some (.cells #[.int .i64 q0, .slice c1 c2 c3, .bool qb, .slice d1 d2 d3, .int .i64 q4, .int .i64 q5, .int .i64 q6] 31 (0, 0)) := by rw [← hWF]; exact seven_cells HT.out _ _ _ _ _ _ _
  have HS8 : Hid (WF.heap[w1.heap.size]? = some (.cells #[.int .i64 q0, .slice c1 c2 c3, .bool qb, .slice d1 d2 d3, .int .i64 q4, .int .i64 q5, .int .i64 q6] 31 (0, 0))) := Lib.hid (hff.same HQ.out (by have := HWW.out; simp; omega))
  have HKF := Lib.hid (HKK.out.box HT.out hff (by have := HW0.out; omega))
  have HSF := Lib.hid ((HSS.out.fr hff (fun g hg => by have := hg.2; simp only [List.mem_singleton]; omega)).weak (fun g hg => hg.1))
  have HFE : Hid (Fr k.F w WF) := Lib.hid (HFF.out.trans hff (fun q hq => .inr (by simp at hq; omega)))
  clear hWF HT HKK HSS HFF hlt dd0 ff0 dd1 ff1 dd2 ff2 dd3 ff3 dd4 ff4 dd5 ff5 dd6 ff6
  refine hK _ _ HS8.out ?_
  clear hK HQ
  refine mix_nil ?_
  go_wp2_with fail
  have t0 := cells_cell (o := 0) ht rfl
  have t1 := cells_cell (o := 1) ht rfl
  have t2 := cells_cell (o := 2) ht rfl
  have t3 := cells_cell (o := 3) ht rfl
  have t4 := cells_cell (o := 4) ht rfl
  have t5 := cells_cell (o := 5) ht rfl
  have t6 := cells_cell (o := 6) ht rfl
  refine bodyPost_ret (v := .tuple #[.pointer (some ⟨m, 0, none⟩), (.agg #[.int .i64 q0, .slice c1 c2 c3, .bool qb, .slice d1 d2 d3, .int .i64 q4, .int .i64 q5, .int .i64 q6]), .bool true]) (by simp [results, Try.results12, go_sem, t0, t1, t2, t3, t4, t5, t6]) rfl ?_
  exact ⟨m, k, y, _, rfl, HKF.out, HSF.out, HFE.out⟩
set_option maxHeartbeats 6400000 in
theorem do_cw {w0 w : World} {m : Nat} {k : Sb} {x : St} {sv pv : Value} {Ps : Parts} (h : KS w0 w m k x) (hs : SvP (fun g => g ∉ k.F) w sv x.rw) (hp : PtsV w0 pv Ps) (n : Int) :
    Calls Try.prog 12 #[pt m, sv, .agg #[.int .i64 4, pv, .int .i64 n]] w fun e w' => StepR w0 w k w' e := by
  obtain ⟨z0, a1, a2, a3, zb, b1, b2, b3, z4, z5, z6, rfl⟩ : ∃ z0 a1 a2 a3 zb b1 b2 b3 z4 z5 z6, sv = .agg #[.int .i64 z0, .slice a1 a2 a3, .bool zb, .slice b1 b2 b3, .int .i64 z4, .int .i64 z5, .int .i64 z6] := by
    obtain ⟨s1, n, s3, r1, rn, r3, e⟩ := hs.shape
    exact ⟨_, _, _, _, _, _, _, _, _, _, _, e⟩
  obtain ⟨pa, pc, rfl, hpc1, hpc2⟩ := hp.form
  obtain ⟨pj, hpj⟩ : ∃ j, j = Ps.length := ⟨_, rfl⟩
  rw [← hpj] at hp hpc1 ⊢
  obtain ⟨W, hW⟩ : ∃ W, W = ((w.alloc (.cells #[.int .i64 z0, .slice a1 a2 a3, .bool zb, .slice b1 b2 b3, .int .i64 z4, .int .i64 z5, .int .i64 z6] 31)).alloc (.cells #[.int .i64 4, .slice pa pj pc, .int .i64 n] 38)).alloc (.cells #[.int .i64 0, .slice none 0 0, .bool false, .slice none 0 0, .int .i64 0, .int .i64 0, .int .i64 0] 31) := ⟨_, rfl⟩
  have bw1 := below_alloc w (.cells #[.int .i64 z0, .slice a1 a2 a3, .bool zb, .slice b1 b2 b3, .int .i64 z4, .int .i64 z5, .int .i64 z6] 31)
  have bw2 := below_alloc (w.alloc (.cells #[.int .i64 z0, .slice a1 a2 a3, .bool zb, .slice b1 b2 b3, .int .i64 z4, .int .i64 z5, .int .i64 z6] 31)) (.cells #[.int .i64 4, .slice pa pj pc, .int .i64 n] 38)
  have bw3 := below_alloc ((w.alloc (.cells #[.int .i64 z0, .slice a1 a2 a3, .bool zb, .slice b1 b2 b3, .int .i64 z4, .int .i64 z5, .int .i64 z6] 31)).alloc (.cells #[.int .i64 4, .slice pa pj pc, .int .i64 n] 38)) (.cells #[.int .i64 0, .slice none 0 0, .bool false, .slice none 0 0, .int .i64 0, .int .i64 0, .int .i64 0] 31)
  have hb : Below w.heap.size w W := by rw [hW]; exact bw1.trans ((bw2.trans (bw3.mono (by simp))).mono (by simp))
  have e0 : W.heap[w.heap.size]? = some (.cells #[.int .i64 z0, .slice a1 a2 a3, .bool zb, .slice b1 b2 b3, .int .i64 z4, .int .i64 z5, .int .i64 z6] 31 (0, 0)) := by rw [hW]; exact (bw3.block _ (by simp; omega)).trans ((bw2.block _ (by simp)).trans (heap_alloc_new w _))
  have e1 : W.heap[w.heap.size + 1]? = some (.cells #[.int .i64 4, .slice pa pj pc, .int .i64 n] 38 (0, 0)) := by rw [hW]; exact (bw3.block _ (by simp)).trans (block_new _ _ _ (by simp))
  have e2 : W.heap[w.heap.size + 1 + 1]? = some (.cells #[.int .i64 0, .slice none 0 0, .bool false, .slice none 0 0, .int .i64 0, .int .i64 0, .int .i64 0] 31 (0, 0)) := by rw [hW]; exact block_new _ _ _ (by simp)
  have HW := Lib.hid hW.symm
  have HX : Hid (W.heap[w.heap.size]? = some (.cells #[.int .i64 z0, .slice a1 a2 a3, .bool zb, .slice b1 b2 b3, .int .i64 z4, .int .i64 z5, .int .i64 z6] 31 (0, 0))) := Lib.hid e0
  have HA : Hid (W.heap[w.heap.size + 1]? = some (.cells #[.int .i64 4, .slice pa pj pc, .int .i64 n] 38 (0, 0))) := Lib.hid e1
  have HR : Hid (W.heap[w.heap.size + 1 + 1]? = some (.cells #[.int .i64 0, .slice none 0 0, .bool false, .slice none 0 0, .int .i64 0, .int .i64 0, .int .i64 0] 31 (0, 0))) := Lib.hid e2
  have HK := Lib.hid (h.grow hb)
  have HS : Hid (SvP (fun g => g ∉ k.F ∧ g ≠ w.heap.size + 1 + 1) W (.agg #[.int .i64 z0, .slice a1 a2 a3, .bool zb, .slice b1 b2 b3, .int .i64 z4, .int .i64 z5, .int .i64 z6]) x.rw) := Lib.hid ((hs.bound.grown hb).weak (fun g hg => ⟨hg.1, by have := hg.2; omega⟩))
  have HOK := Lib.hid h.at'.ok
  have HFL : Hid (∀ i ∈ k.F, i < w.heap.size) := Lib.hid h.at'.F_lt
  have HW0 : Hid (w0.heap.size ≤ w.heap.size) := Lib.hid h.be.size
  have HFR : Hid (Fr k.F w W) := Lib.hid (Fr.of_below hb k.F)
  have HP := Lib.hid hp
  have HPJ := Lib.hid hpj
  have x0 := cells_cell (o := 0) e0 rfl
  have x1 := cells_cell (o := 1) e0 rfl
  have x2 := cells_cell (o := 2) e0 rfl
  have x3 := cells_cell (o := 3) e0 rfl
  have x4 := cells_cell (o := 4) e0 rfl
  have x5 := cells_cell (o := 5) e0 rfl
  have x6 := cells_cell (o := 6) e0 rfl
  have y0 := cells_cell (o := 0) e1 rfl
  have y1 := cells_cell (o := 1) e1 rfl
  have y2 := cells_cell (o := 2) e1 rfl
  have hlX := lt_of_block e0
  have hlA := lt_of_block e1
  clear hW bw1 bw2 bw3 hb e0 e1 e2 h hs hpj hp
  unfold pt StepR
  clear hpc1 hpc2
  have hrf := sfCloseW_any (w := W) HS.out HOK.out n
  obtain ⟨ye, y, hy⟩ : ∃ ye y, sCw x n = (ye, y) := ⟨_, _, rfl⟩
  have HYE := Lib.hid hy
  rw [hy] at hrf
  clear hy
  have HRF := Lib.hid hrf
  clear hrf
  go_enter Try.func12, Try.ntmps12
  go_upto_region 1 with fail
  rw [HW.out]
  go_wp2_with (go_at_call 47; fail)
  refine (HRF.out).mono ?_
  rintro e w1 ⟨v1, rfl, hs1, hb1⟩
  obtain ⟨q0, c1, c2, c3, qb, d1, d2, d3, q4, q5, q6, rfl⟩ : ∃ q0 c1 c2 c3 qb d1 d2 d3 q4 q5 q6, v1 = .agg #[.int .i64 q0, .slice c1 c2 c3, .bool qb, .slice d1 d2 d3, .int .i64 q4, .int .i64 q5, .int .i64 q6] := by
    obtain ⟨s1, n, s3, r1, rn, r3, e⟩ := hs1.shape
    exact ⟨_, _, _, _, _, _, _, _, _, _, _, e⟩
  have HX1 := Lib.hid ((hb1.block _ (lt_of_block HX.out)).trans HX.out)
  have HA1 := Lib.hid ((hb1.block _ (lt_of_block HA.out)).trans HA.out)
  have HR1 := Lib.hid ((hb1.block _ (lt_of_block HR.out)).trans HR.out)
  have HK1 := Lib.hid (HK.out.grow hb1)
  have HS1 := Lib.hid hs1
  have HFR1 : Hid (Fr k.F w w1) := Lib.hid (HFR.out.trans' (Fr.of_below hb1 k.F))
  clear hb1 hs1 HX HA HR HK HS HFR
  clear x0 x1 x2 x3 x4 x5 x6 y0 y1 y2 hlX hlA
  go_wp2_with fail
  generalize hV1 : World.alloc _ _ = V1
  have hb2 : Below w1.heap.size w1 V1 := by rw [← hV1]; exact below_alloc _ _
  have hy0 : V1.heap[w1.heap.size]? = some (.cells #[.int .i64 q0, .slice c1 c2 c3, .bool qb, .slice d1 d2 d3, .int .i64 q4, .int .i64 q5, .int .i64 q6] 31 (0, 0)) := by rw [← hV1]; exact heap_alloc_new _ _
  have HX2 := Lib.hid ((hb2.block _ (lt_of_block HX1.out)).trans HX1.out)
  have HA2 := Lib.hid ((hb2.block _ (lt_of_block HA1.out)).trans HA1.out)
  have HR2 := Lib.hid ((hb2.block _ (lt_of_block HR1.out)).trans HR1.out)
  have HK2 := Lib.hid (HK1.out.grow hb2)
  have HS2 := Lib.hid (HS1.out.grown hb2)
  have HFR2 : Hid (Fr k.F w V1) := Lib.hid (HFR1.out.trans' (Fr.of_below hb2 k.F))
  have HY2 := Lib.hid hy0
  have HWW : Hid (w.heap.size + 1 + 1 < w1.heap.size) := Lib.hid (lt_of_block HR1.out)
  clear hV1 hb2 hy0 HX1 HA1 HR1 HK1 HS1 HFR1
  refine wp_region_mix (fun W' => W'.heap[w1.heap.size]? = some (.cells #[.int .i64 q0, .slice c1 c2 c3, .bool qb, .slice d1 d2 d3, .int .i64 q4, .int .i64 q5, .int .i64 q6] 31 (0, 0)) ∧ W'.heap[w.heap.size + 1]? = some (.cells #[.int .i64 4, .slice pa pj pc, .int .i64 n] 38 (0, 0))) 10 [(true, 0), (true, 1), (true, 2), (true, 3), (true, 4), (true, 6), (false, 5), (true, 7), (true, 8), (false, 9)] (by kernel_rfl) (by kernel_rfl) (fun _ _ _ d _ h => by cases d <;> exact h) ?_
  have HD : Hid (Below V1.heap.size V1 V1.drew) := Lib.hid ((Grn.refl V1).drew 1).below
  have HQ : Hid (V1.drew.heap[w1.heap.size]? = some (.cells #[.int .i64 q0, .slice c1 c2 c3, .bool qb, .slice d1 d2 d3, .int .i64 q4, .int .i64 q5, .int .i64 q6] 31 (0, 0))) := Lib.hid ((HD.out.block _ (lt_of_block HY2.out)).trans HY2.out)
  have HT := Lib.hid ((HD.out.block _ (lt_of_block HR2.out)).trans HR2.out)
  have HAT := Lib.hid ((HD.out.block _ (lt_of_block HA2.out)).trans HA2.out)
  have HKK := Lib.hid (HK2.out.grow HD.out)
  have HSS := Lib.hid (HS2.out.grown HD.out)
  have HFF : Hid (Fr k.F w V1.drew) := Lib.hid (HFR2.out.trans' (Fr.of_below HD.out k.F))
  have HQ2 := Lib.hid (And.intro HQ.out HAT.out)
  clear HQ HAT
  clear HX2 HA2 HR2 HY2 HS2 HK2 HFR2
  simp only [List.map_cons, List.map_nil, List.getD_cons_zero, List.getD_cons_succ, List.drop_succ_cons, List.drop_zero]
  generalize V1.drew = V at *
  refine mix_move (.tmp 0) (.pointer (some ⟨m, 0, none⟩)) rfl HQ2.out rfl rfl ?_
  simp only [Act.put, List.setIfInBounds_toArray, List.set_cons_zero, List.set_cons_succ]
  refine mix_take (.agg #[.int .i64 q0, .slice c1 c2 c3, .bool qb, .slice d1 d2 d3, .int .i64 q4, .int .i64 q5, .int .i64 q6]) HQ2.out rfl (fun W' hS => by 
    have l0 := cells_cell (o := 0) hS.1 rfl
    have l1 := cells_cell (o := 1) hS.1 rfl
    have l2 := cells_cell (o := 2) hS.1 rfl
    have l3 := cells_cell (o := 3) hS.1 rfl
    have l4 := cells_cell (o := 4) hS.1 rfl
    have l5 := cells_cell (o := 5) hS.1 rfl
    have l6 := cells_cell (o := 6) hS.1 rfl
    go_simp) ?_
  simp only [Act.put, List.setIfInBounds_toArray, List.set_cons_zero, List.set_cons_succ]
  refine mix_move (.tmp 0) (.pointer (some ⟨m, 0, none⟩)) rfl HQ2.out rfl rfl ?_
  simp only [Act.put, List.setIfInBounds_toArray, List.set_cons_zero, List.set_cons_succ]
  refine mix_take (.pointer (some ⟨w.heap.size + 1, 2, none⟩)) HQ2.out rfl (fun W' hS => by go_simp) ?_
  simp only [Act.put, List.setIfInBounds_toArray, List.set_cons_zero, List.set_cons_succ]
  refine mix_take (.int .i64 n) HQ2.out rfl (fun W' hS => by 
    have l0 := cells_cell (o := 2) hS.2 rfl
    go_simp) ?_
  simp only [Act.put, List.setIfInBounds_toArray, List.set_cons_zero, List.set_cons_succ]
  refine mix_move (.tmp 32) (.int .i64 ye) rfl HQ2.out rfl rfl ?_
  simp only [Act.put, List.setIfInBounds_toArray, List.set_cons_zero, List.set_cons_succ]
  refine mix_step rfl (fun K2 hK => ?_)
  go_simp
  go_wp2_with (go_at_call 25; fail)
  have hst := ks_cw HKK.out n ye HYE.out
  unfold pt at hst
  refine hst.mono ?_
  rintro e V2 ⟨rfl, hk, hf⟩
  clear hst
  have HQ := Lib.hid (And.intro (hf.same HQ2.out.1 (fun hi => by have := HFL.out _ hi; have := HWW.out; omega)) (hf.same HQ2.out.2 (fun hi => by have := HFL.out _ hi; omega)))
  have HT2 := Lib.hid (hf.same HT.out (fun hi => by have := HFL.out _ hi; omega))
  have HSS2 := Lib.hid (HSS.out.fr hf (fun g hg => hg.1))
  have HFF2 : Hid (Fr k.F w V2) := Lib.hid (HFF.out.trans' hf)
  have HKK2 := Lib.hid hk
  clear hk hf HT HSS HFF HQ2 HKK
  refine hK _ _ HQ.out ?_
  clear hK
  try simp only [Act.put, List.setIfInBounds_toArray, List.set_cons_zero, List.set_cons_succ]
  refine mix_take (.bool true) HQ.out rfl (fun W' hS => by go_simp) ?_
  simp only [Act.put, List.setIfInBounds_toArray, List.set_cons_zero, List.set_cons_succ]
  refine mix_take (.pointer (some ⟨m, 0, none⟩)) HQ.out rfl (fun W' hS => by go_simp) ?_
  simp only [Act.put, List.setIfInBounds_toArray, List.set_cons_zero, List.set_cons_succ]
  refine mix_step rfl (fun K1 hK => ?_)
  have dd0 := cells_cell (o := 0) HT2.out rfl
  have dd1 := cells_cell (o := 1) HT2.out rfl
  have dd2 := cells_cell (o := 2) HT2.out rfl
  have dd3 := cells_cell (o := 3) HT2.out rfl
  have dd4 := cells_cell (o := 4) HT2.out rfl
  have dd5 := cells_cell (o := 5) HT2.out rfl
  have dd6 := cells_cell (o := 6) HT2.out rfl
  have ff0 := cells_free HT2.out 0
  have ff1 := cells_free HT2.out 1
  have ff2 := cells_free HT2.out 2
  have ff3 := cells_free HT2.out 3
  have ff4 := cells_free HT2.out 4
  have ff5 := cells_free HT2.out 5
  have ff6 := cells_free HT2.out 6
  have hlt := lt_of_block HT2.out
  go_simp
  generalize hWF : World.setCell _ _ _ = WF
  have hff : Fr [w.heap.size + 1 + 1] V2 WF := by rw [← hWF]; exact seven_fr V2 _ _ _ _ _ _ _ _
  have ht : WF.heap[w.heap.size + 1 + 1]? = some (.cells #[.int .i64 q0, .slice c1 c2 c3, .bool qb, .slice d1 d2 d3, .int .i64 q4, .int .i64 q5, .int .i64 q6] 31 (0, 0)) := by rw [← hWF]; exact seven_cells HT2.out _ _ _ _ _ _ _
  have HS8 : Hid (WF.heap[w1.heap.size]? = some (.cells #[.int .i64 q0, .slice c1 c2 c3, .bool qb, .slice d1 d2 d3, .int .i64 q4, .int .i64 q5, .int .i64 q6] 31 (0, 0)) ∧ WF.heap[w.heap.size + 1]? = some (.cells #[.int .i64 4, .slice pa pj pc, .int .i64 n] 38 (0, 0))) := Lib.hid (And.intro (hff.same HQ.out.1 (by have := HWW.out; simp; omega)) (hff.same HQ.out.2 (by have := HWW.out; simp)))
  have HKF := Lib.hid (HKK2.out.box HT2.out hff (by have := HW0.out; omega))
  have HSF := Lib.hid ((HSS2.out.fr hff (fun g hg => by have := hg.2; simp only [List.mem_singleton]; omega)).weak (fun g hg => hg.1))
  have HFE : Hid (Fr k.F w WF) := Lib.hid (HFF2.out.trans hff (fun q hq => .inr (by simp at hq; omega)))
  clear hWF HT2 HKK2 HSS2 HFF2 hlt dd0 ff0 dd1 ff1 dd2 ff2 dd3 ff3 dd4 ff4 dd5 ff5 dd6 ff6
  refine hK _ _ HS8.out ?_
  clear hK HQ
  refine mix_nil ?_
  go_wp2_with fail
  have t0 := cells_cell (o := 0) ht rfl
  have t1 := cells_cell (o := 1) ht rfl
  have t2 := cells_cell (o := 2) ht rfl
  have t3 := cells_cell (o := 3) ht rfl
  have t4 := cells_cell (o := 4) ht rfl
  have t5 := cells_cell (o := 5) ht rfl
  have t6 := cells_cell (o := 6) ht rfl
  refine bodyPost_ret (v := .tuple #[.pointer (some ⟨m, 0, none⟩), (.agg #[.int .i64 q0, .slice c1 c2 c3, .bool qb, .slice d1 d2 d3, .int .i64 q4, .int .i64 q5, .int .i64 q6]), .bool true]) (by simp [results, Try.results12, go_sem, t0, t1, t2, t3, t4, t5, t6]) rfl ?_
  exact ⟨m, k, y, _, rfl, HKF.out, HSF.out, HFE.out⟩
set_option maxHeartbeats 6400000 in
theorem do_cr {w0 w : World} {m : Nat} {k : Sb} {x : St} {sv pv : Value} {Ps : Parts} (h : KS w0 w m k x) (hs : SvP (fun g => g ∉ k.F) w sv x.rw) (hp : PtsV w0 pv Ps) (n : Int) :
    Calls Try.prog 12 #[pt m, sv, .agg #[.int .i64 5, pv, .int .i64 n]] w fun e w' => StepR w0 w k w' e := by
  obtain ⟨z0, a1, a2, a3, zb, b1, b2, b3, z4, z5, z6, rfl⟩ : ∃ z0 a1 a2 a3 zb b1 b2 b3 z4 z5 z6, sv = .agg #[.int .i64 z0, .slice a1 a2 a3, .bool zb, .slice b1 b2 b3, .int .i64 z4, .int .i64 z5, .int .i64 z6] := by
    obtain ⟨s1, n, s3, r1, rn, r3, e⟩ := hs.shape
    exact ⟨_, _, _, _, _, _, _, _, _, _, _, e⟩
  obtain ⟨pa, pc, rfl, hpc1, hpc2⟩ := hp.form
  obtain ⟨pj, hpj⟩ : ∃ j, j = Ps.length := ⟨_, rfl⟩
  rw [← hpj] at hp hpc1 ⊢
  obtain ⟨W, hW⟩ : ∃ W, W = ((w.alloc (.cells #[.int .i64 z0, .slice a1 a2 a3, .bool zb, .slice b1 b2 b3, .int .i64 z4, .int .i64 z5, .int .i64 z6] 31)).alloc (.cells #[.int .i64 5, .slice pa pj pc, .int .i64 n] 38)).alloc (.cells #[.int .i64 0, .slice none 0 0, .bool false, .slice none 0 0, .int .i64 0, .int .i64 0, .int .i64 0] 31) := ⟨_, rfl⟩
  have bw1 := below_alloc w (.cells #[.int .i64 z0, .slice a1 a2 a3, .bool zb, .slice b1 b2 b3, .int .i64 z4, .int .i64 z5, .int .i64 z6] 31)
  have bw2 := below_alloc (w.alloc (.cells #[.int .i64 z0, .slice a1 a2 a3, .bool zb, .slice b1 b2 b3, .int .i64 z4, .int .i64 z5, .int .i64 z6] 31)) (.cells #[.int .i64 5, .slice pa pj pc, .int .i64 n] 38)
  have bw3 := below_alloc ((w.alloc (.cells #[.int .i64 z0, .slice a1 a2 a3, .bool zb, .slice b1 b2 b3, .int .i64 z4, .int .i64 z5, .int .i64 z6] 31)).alloc (.cells #[.int .i64 5, .slice pa pj pc, .int .i64 n] 38)) (.cells #[.int .i64 0, .slice none 0 0, .bool false, .slice none 0 0, .int .i64 0, .int .i64 0, .int .i64 0] 31)
  have hb : Below w.heap.size w W := by rw [hW]; exact bw1.trans ((bw2.trans (bw3.mono (by simp))).mono (by simp))
  have e0 : W.heap[w.heap.size]? = some (.cells #[.int .i64 z0, .slice a1 a2 a3, .bool zb, .slice b1 b2 b3, .int .i64 z4, .int .i64 z5, .int .i64 z6] 31 (0, 0)) := by rw [hW]; exact (bw3.block _ (by simp; omega)).trans ((bw2.block _ (by simp)).trans (heap_alloc_new w _))
  have e1 : W.heap[w.heap.size + 1]? = some (.cells #[.int .i64 5, .slice pa pj pc, .int .i64 n] 38 (0, 0)) := by rw [hW]; exact (bw3.block _ (by simp)).trans (block_new _ _ _ (by simp))
  have e2 : W.heap[w.heap.size + 1 + 1]? = some (.cells #[.int .i64 0, .slice none 0 0, .bool false, .slice none 0 0, .int .i64 0, .int .i64 0, .int .i64 0] 31 (0, 0)) := by rw [hW]; exact block_new _ _ _ (by simp)
  have HW := Lib.hid hW.symm
  have HX : Hid (W.heap[w.heap.size]? = some (.cells #[.int .i64 z0, .slice a1 a2 a3, .bool zb, .slice b1 b2 b3, .int .i64 z4, .int .i64 z5, .int .i64 z6] 31 (0, 0))) := Lib.hid e0
  have HA : Hid (W.heap[w.heap.size + 1]? = some (.cells #[.int .i64 5, .slice pa pj pc, .int .i64 n] 38 (0, 0))) := Lib.hid e1
  have HR : Hid (W.heap[w.heap.size + 1 + 1]? = some (.cells #[.int .i64 0, .slice none 0 0, .bool false, .slice none 0 0, .int .i64 0, .int .i64 0, .int .i64 0] 31 (0, 0))) := Lib.hid e2
  have HK := Lib.hid (h.grow hb)
  have HS : Hid (SvP (fun g => g ∉ k.F ∧ g ≠ w.heap.size + 1 + 1) W (.agg #[.int .i64 z0, .slice a1 a2 a3, .bool zb, .slice b1 b2 b3, .int .i64 z4, .int .i64 z5, .int .i64 z6]) x.rw) := Lib.hid ((hs.bound.grown hb).weak (fun g hg => ⟨hg.1, by have := hg.2; omega⟩))
  have HOK := Lib.hid h.at'.ok
  have HFL : Hid (∀ i ∈ k.F, i < w.heap.size) := Lib.hid h.at'.F_lt
  have HW0 : Hid (w0.heap.size ≤ w.heap.size) := Lib.hid h.be.size
  have HFR : Hid (Fr k.F w W) := Lib.hid (Fr.of_below hb k.F)
  have HP := Lib.hid hp
  have HPJ := Lib.hid hpj
  have x0 := cells_cell (o := 0) e0 rfl
  have x1 := cells_cell (o := 1) e0 rfl
  have x2 := cells_cell (o := 2) e0 rfl
  have x3 := cells_cell (o := 3) e0 rfl
  have x4 := cells_cell (o := 4) e0 rfl
  have x5 := cells_cell (o := 5) e0 rfl
  have x6 := cells_cell (o := 6) e0 rfl
  have y0 := cells_cell (o := 0) e1 rfl
  have y1 := cells_cell (o := 1) e1 rfl
  have y2 := cells_cell (o := 2) e1 rfl
  have hlX := lt_of_block e0
  have hlA := lt_of_block e1
  clear hW bw1 bw2 bw3 hb e0 e1 e2 h hs hpj hp
  unfold pt StepR
  clear hpc1 hpc2
  have hrf := sfCloseR_any (w := W) HS.out HOK.out n
  obtain ⟨ye, y, hy⟩ : ∃ ye y, sCr x n = (ye, y) := ⟨_, _, rfl⟩
  have HYE := Lib.hid hy
  rw [hy] at hrf
  clear hy
  have HRF := Lib.hid hrf
  clear hrf
  go_enter Try.func12, Try.ntmps12
  go_upto_region 1 with fail
  rw [HW.out]
  go_wp2_with (go_at_call 48; fail)
  refine (HRF.out).mono ?_
  rintro e w1 ⟨v1, rfl, hs1, hb1⟩
  obtain ⟨q0, c1, c2, c3, qb, d1, d2, d3, q4, q5, q6, rfl⟩ : ∃ q0 c1 c2 c3 qb d1 d2 d3 q4 q5 q6, v1 = .agg #[.int .i64 q0, .slice c1 c2 c3, .bool qb, .slice d1 d2 d3, .int .i64 q4, .int .i64 q5, .int .i64 q6] := by
    obtain ⟨s1, n, s3, r1, rn, r3, e⟩ := hs1.shape
    exact ⟨_, _, _, _, _, _, _, _, _, _, _, e⟩
  have HX1 := Lib.hid ((hb1.block _ (lt_of_block HX.out)).trans HX.out)
  have HA1 := Lib.hid ((hb1.block _ (lt_of_block HA.out)).trans HA.out)
  have HR1 := Lib.hid ((hb1.block _ (lt_of_block HR.out)).trans HR.out)
  have HK1 := Lib.hid (HK.out.grow hb1)
  have HS1 := Lib.hid hs1
  have HFR1 : Hid (Fr k.F w w1) := Lib.hid (HFR.out.trans' (Fr.of_below hb1 k.F))
  clear hb1 hs1 HX HA HR HK HS HFR
  clear x0 x1 x2 x3 x4 x5 x6 y0 y1 y2 hlX hlA
  go_wp2_with fail
  generalize hV1 : World.alloc _ _ = V1
  have hb2 : Below w1.heap.size w1 V1 := by rw [← hV1]; exact below_alloc _ _
  have hy0 : V1.heap[w1.heap.size]? = some (.cells #[.int .i64 q0, .slice c1 c2 c3, .bool qb, .slice d1 d2 d3, .int .i64 q4, .int .i64 q5, .int .i64 q6] 31 (0, 0)) := by rw [← hV1]; exact heap_alloc_new _ _
  have HX2 := Lib.hid ((hb2.block _ (lt_of_block HX1.out)).trans HX1.out)
  have HA2 := Lib.hid ((hb2.block _ (lt_of_block HA1.out)).trans HA1.out)
  have HR2 := Lib.hid ((hb2.block _ (lt_of_block HR1.out)).trans HR1.out)
  have HK2 := Lib.hid (HK1.out.grow hb2)
  have HS2 := Lib.hid (HS1.out.grown hb2)
  have HFR2 : Hid (Fr k.F w V1) := Lib.hid (HFR1.out.trans' (Fr.of_below hb2 k.F))
  have HY2 := Lib.hid hy0
  have HWW : Hid (w.heap.size + 1 + 1 < w1.heap.size) := Lib.hid (lt_of_block HR1.out)
  clear hV1 hb2 hy0 HX1 HA1 HR1 HK1 HS1 HFR1
  refine wp_region_mix (fun W' => W'.heap[w1.heap.size]? = some (.cells #[.int .i64 q0, .slice c1 c2 c3, .bool qb, .slice d1 d2 d3, .int .i64 q4, .int .i64 q5, .int .i64 q6] 31 (0, 0)) ∧ W'.heap[w.heap.size + 1]? = some (.cells #[.int .i64 5, .slice pa pj pc, .int .i64 n] 38 (0, 0))) 10 [(true, 0), (true, 1), (true, 2), (true, 3), (true, 4), (true, 6), (false, 5), (true, 7), (true, 8), (false, 9)] (by kernel_rfl) (by kernel_rfl) (fun _ _ _ d _ h => by cases d <;> exact h) ?_
  have HD : Hid (Below V1.heap.size V1 V1.drew) := Lib.hid ((Grn.refl V1).drew 1).below
  have HQ : Hid (V1.drew.heap[w1.heap.size]? = some (.cells #[.int .i64 q0, .slice c1 c2 c3, .bool qb, .slice d1 d2 d3, .int .i64 q4, .int .i64 q5, .int .i64 q6] 31 (0, 0))) := Lib.hid ((HD.out.block _ (lt_of_block HY2.out)).trans HY2.out)
  have HT := Lib.hid ((HD.out.block _ (lt_of_block HR2.out)).trans HR2.out)
  have HAT := Lib.hid ((HD.out.block _ (lt_of_block HA2.out)).trans HA2.out)
  have HKK := Lib.hid (HK2.out.grow HD.out)
  have HSS := Lib.hid (HS2.out.grown HD.out)
  have HFF : Hid (Fr k.F w V1.drew) := Lib.hid (HFR2.out.trans' (Fr.of_below HD.out k.F))
  have HQ2 := Lib.hid (And.intro HQ.out HAT.out)
  clear HQ HAT
  clear HX2 HA2 HR2 HY2 HS2 HK2 HFR2
  simp only [List.map_cons, List.map_nil, List.getD_cons_zero, List.getD_cons_succ, List.drop_succ_cons, List.drop_zero]
  generalize V1.drew = V at *
  refine mix_move (.tmp 0) (.pointer (some ⟨m, 0, none⟩)) rfl HQ2.out rfl rfl ?_
  simp only [Act.put, List.setIfInBounds_toArray, List.set_cons_zero, List.set_cons_succ]
  refine mix_take (.agg #[.int .i64 q0, .slice c1 c2 c3, .bool qb, .slice d1 d2 d3, .int .i64 q4, .int .i64 q5, .int .i64 q6]) HQ2.out rfl (fun W' hS => by 
    have l0 := cells_cell (o := 0) hS.1 rfl
    have l1 := cells_cell (o := 1) hS.1 rfl
    have l2 := cells_cell (o := 2) hS.1 rfl
    have l3 := cells_cell (o := 3) hS.1 rfl
    have l4 := cells_cell (o := 4) hS.1 rfl
    have l5 := cells_cell (o := 5) hS.1 rfl
    have l6 := cells_cell (o := 6) hS.1 rfl
    go_simp) ?_
  simp only [Act.put, List.setIfInBounds_toArray, List.set_cons_zero, List.set_cons_succ]
  refine mix_move (.tmp 0) (.pointer (some ⟨m, 0, none⟩)) rfl HQ2.out rfl rfl ?_
  simp only [Act.put, List.setIfInBounds_toArray, List.set_cons_zero, List.set_cons_succ]
  refine mix_take (.pointer (some ⟨w.heap.size + 1, 2, none⟩)) HQ2.out rfl (fun W' hS => by go_simp) ?_
  simp only [Act.put, List.setIfInBounds_toArray, List.set_cons_zero, List.set_cons_succ]
  refine mix_take (.int .i64 n) HQ2.out rfl (fun W' hS => by 
    have l0 := cells_cell (o := 2) hS.2 rfl
    go_simp) ?_
  simp only [Act.put, List.setIfInBounds_toArray, List.set_cons_zero, List.set_cons_succ]
  refine mix_move (.tmp 34) (.int .i64 ye) rfl HQ2.out rfl rfl ?_
  simp only [Act.put, List.setIfInBounds_toArray, List.set_cons_zero, List.set_cons_succ]
  refine mix_step rfl (fun K2 hK => ?_)
  go_simp
  go_wp2_with (go_at_call 26; fail)
  have hst := ks_cr HKK.out n ye HYE.out
  unfold pt at hst
  refine hst.mono ?_
  rintro e V2 ⟨rfl, hk, hf⟩
  clear hst
  have HQ := Lib.hid (And.intro (hf.same HQ2.out.1 (fun hi => by have := HFL.out _ hi; have := HWW.out; omega)) (hf.same HQ2.out.2 (fun hi => by have := HFL.out _ hi; omega)))
  have HT2 := Lib.hid (hf.same HT.out (fun hi => by have := HFL.out _ hi; omega))
  have HSS2 := Lib.hid (HSS.out.fr hf (fun g hg => hg.1))
  have HFF2 : Hid (Fr k.F w V2) := Lib.hid (HFF.out.trans' hf)
  have HKK2 := Lib.hid hk
  clear hk hf HT HSS HFF HQ2 HKK
  refine hK _ _ HQ.out ?_
  clear hK
  try simp only [Act.put, List.setIfInBounds_toArray, List.set_cons_zero, List.set_cons_succ]
  refine mix_take (.bool true) HQ.out rfl (fun W' hS => by go_simp) ?_
  simp only [Act.put, List.setIfInBounds_toArray, List.set_cons_zero, List.set_cons_succ]
  refine mix_take (.pointer (some ⟨m, 0, none⟩)) HQ.out rfl (fun W' hS => by go_simp) ?_
  simp only [Act.put, List.setIfInBounds_toArray, List.set_cons_zero, List.set_cons_succ]
  refine mix_step rfl (fun K1 hK => ?_)
  have dd0 := cells_cell (o := 0) HT2.out rfl
  have dd1 := cells_cell (o := 1) HT2.out rfl
  have dd2 := cells_cell (o := 2) HT2.out rfl
  have dd3 := cells_cell (o := 3) HT2.out rfl
  have dd4 := cells_cell (o := 4) HT2.out rfl
  have dd5 := cells_cell (o := 5) HT2.out rfl
  have dd6 := cells_cell (o := 6) HT2.out rfl
  have ff0 := cells_free HT2.out 0
  have ff1 := cells_free HT2.out 1
  have ff2 := cells_free HT2.out 2
  have ff3 := cells_free HT2.out 3
  have ff4 := cells_free HT2.out 4
  have ff5 := cells_free HT2.out 5
  have ff6 := cells_free HT2.out 6
  have hlt := lt_of_block HT2.out
  go_simp
  generalize hWF : World.setCell _ _ _ = WF
  have hff : Fr [w.heap.size + 1 + 1] V2 WF := by rw [← hWF]; exact seven_fr V2 _ _ _ _ _ _ _ _
  have ht : WF.heap[w.heap.size + 1 + 1]? = some (.cells #[.int .i64 q0, .slice c1 c2 c3, .bool qb, .slice d1 d2 d3, .int .i64 q4, .int .i64 q5, .int .i64 q6] 31 (0, 0)) := by rw [← hWF]; exact seven_cells HT2.out _ _ _ _ _ _ _
  have HS8 : Hid (WF.heap[w1.heap.size]? = some (.cells #[.int .i64 q0, .slice c1 c2 c3, .bool qb, .slice d1 d2 d3, .int .i64 q4, .int .i64 q5, .int .i64 q6] 31 (0, 0)) ∧ WF.heap[w.heap.size + 1]? = some (.cells #[.int .i64 5, .slice pa pj pc, .int .i64 n] 38 (0, 0))) := Lib.hid (And.intro (hff.same HQ.out.1 (by have := HWW.out; simp; omega)) (hff.same HQ.out.2 (by have := HWW.out; simp)))
  have HKF := Lib.hid (HKK2.out.box HT2.out hff (by have := HW0.out; omega))
  have HSF := Lib.hid ((HSS2.out.fr hff (fun g hg => by have := hg.2; simp only [List.mem_singleton]; omega)).weak (fun g hg => hg.1))
  have HFE : Hid (Fr k.F w WF) := Lib.hid (HFF2.out.trans hff (fun q hq => .inr (by simp at hq; omega)))
  clear hWF HT2 HKK2 HSS2 HFF2 hlt dd0 ff0 dd1 ff1 dd2 ff2 dd3 ff3 dd4 ff4 dd5 ff5 dd6 ff6
  refine hK _ _ HS8.out ?_
  clear hK HQ
  refine mix_nil ?_
  go_wp2_with fail
  have t0 := cells_cell (o := 0) ht rfl
  have t1 := cells_cell (o := 1) ht rfl
  have t2 := cells_cell (o := 2) ht rfl
  have t3 := cells_cell (o := 3) ht rfl
  have t4 := cells_cell (o := 4) ht rfl
  have t5 := cells_cell (o := 5) ht rfl
  have t6 := cells_cell (o := 6) ht rfl
  refine bodyPost_ret (v := .tuple #[.pointer (some ⟨m, 0, none⟩), (.agg #[.int .i64 q0, .slice c1 c2 c3, .bool qb, .slice d1 d2 d3, .int .i64 q4, .int .i64 q5, .int .i64 q6]), .bool true]) (by simp [results, Try.results12, go_sem, t0, t1, t2, t3, t4, t5, t6]) rfl ?_
  exact ⟨m, k, y, _, rfl, HKF.out, HSF.out, HFE.out⟩
set_option maxHeartbeats 6400000 in
theorem do_copy {w0 w : World} {m : Nat} {k : Sb} {x : St} {sv pv : Value} {Ps : Parts} (h : KS w0 w m k x) (hs : SvP (fun g => g ∉ k.F) w sv x.rw) (hp : PtsV w0 pv Ps) (n what : Int) (hq : what ≠ 0 ∧ what ≠ 1 ∧ what ≠ 2 ∧ what ≠ 3 ∧ what ≠ 4 ∧ what ≠ 5) :
    Calls Try.prog 12 #[pt m, sv, .agg #[.int .i64 what, pv, .int .i64 n]] w fun e w' => StepR w0 w k w' e := by
  have wa : (what == 0) = false := by simp; omega
  have wb : (what == 1) = false := by simp; omega
  have wc : (what == 2) = false := by simp; omega
  have wd : (what == 3) = false := by simp; omega
  have we : (what == 4) = false := by simp; omega
  have wf : (what == 5) = false := by simp; omega
  clear hq
  obtain ⟨z0, a1, a2, a3, zb, b1, b2, b3, z4, z5, z6, rfl⟩ : ∃ z0 a1 a2 a3 zb b1 b2 b3 z4 z5 z6, sv = .agg #[.int .i64 z0, .slice a1 a2 a3, .bool zb, .slice b1 b2 b3, .int .i64 z4, .int .i64 z5, .int .i64 z6] := by
    obtain ⟨s1, n, s3, r1, rn, r3, e⟩ := hs.shape
    exact ⟨_, _, _, _, _, _, _, _, _, _, _, e⟩
  obtain ⟨pa, pc, rfl, hpc1, hpc2⟩ := hp.form
  obtain ⟨pj, hpj⟩ : ∃ j, j = Ps.length := ⟨_, rfl⟩
  rw [← hpj] at hp hpc1 ⊢
  obtain ⟨W, hW⟩ : ∃ W, W = ((w.alloc (.cells #[.int .i64 z0, .slice a1 a2 a3, .bool zb, .slice b1 b2 b3, .int .i64 z4, .int .i64 z5, .int .i64 z6] 31)).alloc (.cells #[.int .i64 what, .slice pa pj pc, .int .i64 n] 38)).alloc (.cells #[.int .i64 0, .slice none 0 0, .bool false, .slice none 0 0, .int .i64 0, .int .i64 0, .int .i64 0] 31) := ⟨_, rfl⟩
  have bw1 := below_alloc w (.cells #[.int .i64 z0, .slice a1 a2 a3, .bool zb, .slice b1 b2 b3, .int .i64 z4, .int .i64 z5, .int .i64 z6] 31)
  have bw2 := below_alloc (w.alloc (.cells #[.int .i64 z0, .slice a1 a2 a3, .bool zb, .slice b1 b2 b3, .int .i64 z4, .int .i64 z5, .int .i64 z6] 31)) (.cells #[.int .i64 what, .slice pa pj pc, .int .i64 n] 38)
  have bw3 := below_alloc ((w.alloc (.cells #[.int .i64 z0, .slice a1 a2 a3, .bool zb, .slice b1 b2 b3, .int .i64 z4, .int .i64 z5, .int .i64 z6] 31)).alloc (.cells #[.int .i64 what, .slice pa pj pc, .int .i64 n] 38)) (.cells #[.int .i64 0, .slice none 0 0, .bool false, .slice none 0 0, .int .i64 0, .int .i64 0, .int .i64 0] 31)
  have hb : Below w.heap.size w W := by rw [hW]; exact bw1.trans ((bw2.trans (bw3.mono (by simp))).mono (by simp))
  have e0 : W.heap[w.heap.size]? = some (.cells #[.int .i64 z0, .slice a1 a2 a3, .bool zb, .slice b1 b2 b3, .int .i64 z4, .int .i64 z5, .int .i64 z6] 31 (0, 0)) := by rw [hW]; exact (bw3.block _ (by simp; omega)).trans ((bw2.block _ (by simp)).trans (heap_alloc_new w _))
  have e1 : W.heap[w.heap.size + 1]? = some (.cells #[.int .i64 what, .slice pa pj pc, .int .i64 n] 38 (0, 0)) := by rw [hW]; exact (bw3.block _ (by simp)).trans (block_new _ _ _ (by simp))
  have e2 : W.heap[w.heap.size + 1 + 1]? = some (.cells #[.int .i64 0, .slice none 0 0, .bool false, .slice none 0 0, .int .i64 0, .int .i64 0, .int .i64 0] 31 (0, 0)) := by rw [hW]; exact block_new _ _ _ (by simp)
  have HW := Lib.hid hW.symm
  have HX : Hid (W.heap[w.heap.size]? = some (.cells #[.int .i64 z0, .slice a1 a2 a3, .bool zb, .slice b1 b2 b3, .int .i64 z4, .int .i64 z5, .int .i64 z6] 31 (0, 0))) := Lib.hid e0
  have HA : Hid (W.heap[w.heap.size + 1]? = some (.cells #[.int .i64 what, .slice pa pj pc, .int .i64 n] 38 (0, 0))) := Lib.hid e1
  have HR : Hid (W.heap[w.heap.size + 1 + 1]? = some (.cells #[.int .i64 0, .slice none 0 0, .bool false, .slice none 0 0, .int .i64 0, .int .i64 0, .int .i64 0] 31 (0, 0))) := Lib.hid e2
  have HK := Lib.hid (h.grow hb)
  have HS : Hid (SvP (fun g => g ∉ k.F ∧ g < w.heap.size) W (.agg #[.int .i64 z0, .slice a1 a2 a3, .bool zb, .slice b1 b2 b3, .int .i64 z4, .int .i64 z5, .int .i64 z6]) x.rw) := Lib.hid ((hs.bound.grown hb).weak (fun g hg => ⟨hg.1, by have := hg.2; omega⟩))
  have HOK := Lib.hid h.at'.ok
  have HFL : Hid (∀ i ∈ k.F, i < w.heap.size) := Lib.hid h.at'.F_lt
  have HW0 : Hid (w0.heap.size ≤ w.heap.size) := Lib.hid h.be.size
  have HFR : Hid (Fr k.F w W) := Lib.hid (Fr.of_below hb k.F)
  have HP := Lib.hid hp
  have HPJ := Lib.hid hpj
  have x0 := cells_cell (o := 0) e0 rfl
  have x1 := cells_cell (o := 1) e0 rfl
  have x2 := cells_cell (o := 2) e0 rfl
  have x3 := cells_cell (o := 3) e0 rfl
  have x4 := cells_cell (o := 4) e0 rfl
  have x5 := cells_cell (o := 5) e0 rfl
  have x6 := cells_cell (o := 6) e0 rfl
  have y0 := cells_cell (o := 0) e1 rfl
  have y1 := cells_cell (o := 1) e1 rfl
  have y2 := cells_cell (o := 2) e1 rfl
  have hlX := lt_of_block e0
  have hlA := lt_of_block e1
  clear hW bw1 bw2 bw3 hb e0 e1 e2 h hs hpj hp
  unfold pt StepR
  clear hpc1 hpc2
  obtain ⟨n2, e2, u2, h2⟩ : ∃ n e y, sCa x = (n, e, y) := ⟨_, _, _, rfl⟩
  obtain ⟨L3, e3, u3, h3⟩ : ∃ L e y, sRd u2 1 = (L, e, y) := ⟨_, _, _, rfl⟩
  obtain ⟨e4, u4, h4⟩ : ∃ e y, sCw u3 13 = (e, y) := ⟨_, _, rfl⟩
  have HE2 := Lib.hid h2
  have HE3 := Lib.hid h3
  have HE4 := Lib.hid h4
  clear h2 h3 h4
  go_enter Try.func12, Try.ntmps12
  go_upto_region 1 with fail
  rw [HW.out]
  go_wp2_with (go_at_call 28; fail)
  refine (stCopy_any HK.out.at').mono ?_
  rintro e w1 ⟨m2, k2, rfl, hc, hnew, hb1⟩
  unfold pt
  have HX1 := Lib.hid ((hb1.block _ (lt_of_block HX.out)).trans HX.out)
  have HA1 := Lib.hid ((hb1.block _ (lt_of_block HA.out)).trans HA.out)
  have HR1 := Lib.hid ((hb1.block _ (lt_of_block HR.out)).trans HR.out)
  have HDJ : Hid (Dj k k2) := Lib.hid (HK.out.dj (fun i hi => hnew i (List.mem_cons_of_mem _ hi)))
  have HNW : Hid (∀ i ∈ k2.F, w.heap.size ≤ i) := Lib.hid (fun i hi => by have := hnew i (List.mem_cons_of_mem _ (k2.F_A i hi)); have := lt_of_block HR.out; omega)
  have HC1 : Hid (KS w0 w1 m2 k2 x) := Lib.hid ⟨hc, fun i hi => by have := hnew i hi; have := HK.out.be.size; omega, HK.out.be.trans (hb1.mono HK.out.be.size)⟩
  have HK1 := Lib.hid (HK.out.grow hb1)
  have HS1 := Lib.hid (HS.out.grown hb1)
  have HFR1 : Hid (Fr k.F w w1) := Lib.hid (HFR.out.trans' (Fr.of_below hb1 k.F))
  clear hb1 hc hnew HX HA HR HK HS HFR
  clear wa wb wc wd we wf x0 x1 x2 x3 x4 x5 x6 y0 y1 y2 hlX hlA
  go_wp2_with (go_at_call 22; fail)
  have hst := ks_cancel HK1.out n2 e2 HE2.out
  unfold pt at hst
  refine hst.mono ?_
  rintro e V2 ⟨rfl, hk, hf⟩
  clear hst
  have HC2 := Lib.hid (HK1.out.other HC1.out HDJ.out hf)
  have HX2 := Lib.hid (hf.same HX1.out (fun hi => by have := HFL.out _ hi; omega))
  have HA2 := Lib.hid (hf.same HA1.out (fun hi => by have := HFL.out _ hi; omega))
  have HR2 := Lib.hid (hf.same HR1.out (fun hi => by have := HFL.out _ hi; omega))
  have HS2 := Lib.hid (HS1.out.fr hf (fun g hg => hg.1))
  have HK2 := Lib.hid hk
  have HFR2 : Hid (Fr k.F w V2) := Lib.hid (HFR1.out.trans' hf)
  clear hk hf HX1 HA1 HR1 HC1 HS1 HK1 HFR1
  go_wp2_with (go_at_call 23; fail)
  have hst := ks_read HK2.out 1 L3 e3 HE3.out
  unfold pt at hst
  refine hst.mono ?_
  rintro e V3 ⟨ra3, rj3, rc3, rfl, hrow, hk, hf⟩
  clear hst
  have HC3 := Lib.hid (HK2.out.other HC2.out HDJ.out hf)
  clear hrow
  have HX3 := Lib.hid (hf.same HX2.out (fun hi => by have := HFL.out _ hi; omega))
  have HA3 := Lib.hid (hf.same HA2.out (fun hi => by have := HFL.out _ hi; omega))
  have HR3 := Lib.hid (hf.same HR2.out (fun hi => by have := HFL.out _ hi; omega))
  have HS3 := Lib.hid (HS2.out.fr hf (fun g hg => hg.1))
  have HK3 := Lib.hid hk
  have HFR3 : Hid (Fr k.F w V3) := Lib.hid (HFR2.out.trans' hf)
  clear hk hf HX2 HA2 HR2 HC2 HS2 HK2 HFR2
  go_wp2_with (go_at_call 25; fail)
  have hst := ks_cw HK3.out 13 e4 HE4.out
  unfold pt at hst
  refine hst.mono ?_
  rintro e V4 ⟨rfl, hk, hf⟩
  clear hst
  have HC4 := Lib.hid (HK3.out.other HC3.out HDJ.out hf)
  have HX4 := Lib.hid (hf.same HX3.out (fun hi => by have := HFL.out _ hi; omega))
  have HA4 := Lib.hid (hf.same HA3.out (fun hi => by have := HFL.out _ hi; omega))
  have HR4 := Lib.hid (hf.same HR3.out (fun hi => by have := HFL.out _ hi; omega))
  have HS4 := Lib.hid (HS3.out.fr hf (fun g hg => hg.1))
  have HK4 := Lib.hid hk
  have HFR4 : Hid (Fr k.F w V4) := Lib.hid (HFR3.out.trans' hf)
  clear hk hf HX3 HA3 HR3 HC3 HS3 HK3 HFR3
  go_wp2_with fail
  have HY4 := Lib.hid HX4.out
  have HWW : Hid (w.heap.size + 1 + 1 < V4.heap.size) := Lib.hid (lt_of_block HR4.out)
  clear HK4
  have HK4 := HC4
  clear HC4
  refine wp_region_mix (fun W' => W'.heap[w.heap.size]? = some (.cells #[.int .i64 z0, .slice a1 a2 a3, .bool zb, .slice b1 b2 b3, .int .i64 z4, .int .i64 z5, .int .i64 z6] 31 (0, 0))) 6 [(true, 0), (true, 1), (true, 2), (true, 3), (true, 4), (false, 5)] (by kernel_rfl) (by kernel_rfl) (fun _ _ _ d _ h => by cases d <;> exact h) ?_
  have HD : Hid (Below V4.heap.size V4 V4.drew) := Lib.hid ((Grn.refl V4).drew 1).below
  have HQ : Hid (V4.drew.heap[w.heap.size]? = some (.cells #[.int .i64 z0, .slice a1 a2 a3, .bool zb, .slice b1 b2 b3, .int .i64 z4, .int .i64 z5, .int .i64 z6] 31 (0, 0))) := Lib.hid ((HD.out.block _ (lt_of_block HY4.out)).trans HY4.out)
  have HT := Lib.hid ((HD.out.block _ (lt_of_block HR4.out)).trans HR4.out)
  have HAT := Lib.hid ((HD.out.block _ (lt_of_block HA4.out)).trans HA4.out)
  have HKK := Lib.hid (HK4.out.grow HD.out)
  have HSS := Lib.hid (HS4.out.grown HD.out)
  have HFF : Hid (Fr k.F w V4.drew) := Lib.hid (HFR4.out.trans' (Fr.of_below HD.out k.F))
  clear HX4 HA4 HR4 HY4 HS4 HK4 HFR4
  simp only [List.map_cons, List.map_nil, List.getD_cons_zero, List.getD_cons_succ, List.drop_succ_cons, List.drop_zero]
  generalize V4.drew = V at *
  refine mix_move (.tmp 35) (.pointer (some ⟨m2, 0, none⟩)) rfl HQ.out rfl rfl ?_
  simp only [Act.put, List.setIfInBounds_toArray, List.set_cons_zero, List.set_cons_succ]
  refine mix_take (.agg #[.int .i64 z0, .slice a1 a2 a3, .bool zb, .slice b1 b2 b3, .int .i64 z4, .int .i64 z5, .int .i64 z6]) HQ.out rfl (fun W' hS => by 
    have l0 := cells_cell (o := 0) hS rfl
    have l1 := cells_cell (o := 1) hS rfl
    have l2 := cells_cell (o := 2) hS rfl
    have l3 := cells_cell (o := 3) hS rfl
    have l4 := cells_cell (o := 4) hS rfl
    have l5 := cells_cell (o := 5) hS rfl
    have l6 := cells_cell (o := 6) hS rfl
    go_simp) ?_
  simp only [Act.put, List.setIfInBounds_toArray, List.set_cons_zero, List.set_cons_succ]
  refine mix_move (.tmp 35) (.pointer (some ⟨m2, 0, none⟩)) rfl HQ.out rfl rfl ?_
  simp only [Act.put, List.setIfInBounds_toArray, List.set_cons_zero, List.set_cons_succ]
  refine mix_take (.bool true) HQ.out rfl (fun W' hS => by go_simp) ?_
  simp only [Act.put, List.setIfInBounds_toArray, List.set_cons_zero, List.set_cons_succ]
  refine mix_take (.pointer (some ⟨m2, 0, none⟩)) HQ.out rfl (fun W' hS => by go_simp) ?_
  simp only [Act.put, List.setIfInBounds_toArray, List.set_cons_zero, List.set_cons_succ]
  refine mix_step rfl (fun K1 hK => ?_)
  have dd0 := cells_cell (o := 0) HT.out rfl
  have dd1 := cells_cell (o := 1) HT.out rfl
  have dd2 := cells_cell (o := 2) HT.out rfl
  have dd3 := cells_cell (o := 3) HT.out rfl
  have dd4 := cells_cell (o := 4) HT.out rfl
  have dd5 := cells_cell (o := 5) HT.out rfl
  have dd6 := cells_cell (o := 6) HT.out rfl
  have ff0 := cells_free HT.out 0
  have ff1 := cells_free HT.out 1
  have ff2 := cells_free HT.out 2
  have ff3 := cells_free HT.out 3
  have ff4 := cells_free HT.out 4
  have ff5 := cells_free HT.out 5
  have ff6 := cells_free HT.out 6
  have hlt := lt_of_block HT.out
  go_simp
  generalize hWF : World.setCell _ _ _ = WF
  have hff : Fr [w.heap.size + 1 + 1] V WF := by rw [← hWF]; exact seven_fr V _ _ _ _ _ _ _ _
  have ht : WF.heap[w.heap.size + 1 + 1]? = some (.cells #[.int .i64 z0, .slice a1 a2 a3, .bool zb, .slice b1 b2 b3, .int .i64 z4, .int .i64 z5, .int .i64 z6] 31 (0, 0)) := by rw [← hWF]; exact seven_cells HT.out _ _ _ _ _ _ _
  have HS8 : Hid (WF.heap[w.heap.size]? = some (.cells #[.int .i64 z0, .slice a1 a2 a3, .bool zb, .slice b1 b2 b3, .int .i64 z4, .int .i64 z5, .int .i64 z6] 31 (0, 0))) := Lib.hid (hff.same HQ.out (by have := HWW.out; simp; omega))
  have HKF := Lib.hid (HKK.out.box HT.out hff (by have := HW0.out; omega))
  have HSF := Lib.hid ((HSS.out.fr hff (fun g hg => by have := hg.2; simp only [List.mem_singleton]; omega)).weak (Q := fun g => ¬ g ∈ k2.F) (fun g hg hi => by have := HNW.out g hi; have := hg.2; omega))
  have HFE : Hid (Fr k.F w WF) := Lib.hid (HFF.out.trans hff (fun q hq => .inr (by simp at hq; omega)))
  clear hWF HT HKK HSS HFF hlt dd0 ff0 dd1 ff1 dd2 ff2 dd3 ff3 dd4 ff4 dd5 ff5 dd6 ff6
  refine hK _ _ HS8.out ?_
  clear hK HQ
  refine mix_nil ?_
  go_wp2_with fail
  have t0 := cells_cell (o := 0) ht rfl
  have t1 := cells_cell (o := 1) ht rfl
  have t2 := cells_cell (o := 2) ht rfl
  have t3 := cells_cell (o := 3) ht rfl
  have t4 := cells_cell (o := 4) ht rfl
  have t5 := cells_cell (o := 5) ht rfl
  have t6 := cells_cell (o := 6) ht rfl
  refine bodyPost_ret (v := .tuple #[.pointer (some ⟨m2, 0, none⟩), (.agg #[.int .i64 z0, .slice a1 a2 a3, .bool zb, .slice b1 b2 b3, .int .i64 z4, .int .i64 z5, .int .i64 z6]), .bool true]) (by simp [results, Try.results12, go_sem, t0, t1, t2, t3, t4, t5, t6]) rfl ?_
  exact ⟨m2, k2, x, _, rfl, HKF.out, HSF.out, HFE.out⟩
end Go.Proofs.Yteimjkmjofaieaa
