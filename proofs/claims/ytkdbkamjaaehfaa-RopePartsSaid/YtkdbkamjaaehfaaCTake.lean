/- Take. -/
import Derived.Test.YtkdbkamjaaehfaaCBetw
import Derived.Test.YtkdbkamjaaehfaaBFloat
namespace Go.Proofs.Ytkdbkamjaaehfaa
open Go.RowKit Go.Sort
set_option linter.unusedVariables false
set_option linter.unusedSimpArgs false

/-- A call of a function that comes up by itself. -/
theorem mids_call {P : Program} {ops : Array Oper} {Q : Exit → Act → World → Prop} {S : World → Prop} {K : Act → World → Prop} {o : Oper} {l : List Oper} {a : Act} {w : World} {R : Ending → World → Prop} (f : FuncId) (vals : Array Value)
    (hw : Region.wanted o (yielded ops a.tmps) = true) (hx : (execOp a.eval o).run P w = .ok (.enter f vals) w) (hc : Calls P f vals w R)
    (h : ∀ e w', R e w' → ∃ v, e = .returned v ∧ S w' ∧ wpMids P ops Q S K l (a.put o.dst v) w') : wpMids P ops Q S K (o :: l) a w := by
  unfold wpMids
  rw [if_pos hw]
  unfold Oper.wp
  rw [hx, Oper.upon_enter]
  refine hc.mono ?_
  intro e w' hR
  obtain ⟨v, rfl, h1, h2⟩ := h e w' hR
  exact ⟨h1, h2⟩

theorem RopeAt.fr {w w' : World} {F : List Nat} {b : Nat} {v : Value} {Ps : Parts} (R : RopeAt w b v Ps) (h : Fr F w w') (hF : ∀ x, x ∈ F → x < b) : RopeAt w' b v Ps := by
  obtain ⟨vd, ve, h1, h2, h3⟩ := R.ex
  exact ⟨⟨vd, ve, h1, h.row h2 (fun g hg hm => by have := (h2.lt g hg).1; have := hF g hm; omega), h.row h3 (fun g hg hm => by have := (h3.lt g hg).1; have := hF g hm; omega)⟩, R.ne, R.len, R.size⟩
theorem below3 (w : World) (x y z : Obj) : Below w.heap.size w (((w.alloc x).alloc y).alloc z) := (below_alloc _ _).trans (((below_alloc _ _).trans ((below_alloc _ _).mono (by simp))).mono (by simp))
theorem RopeAt.shape {w : World} {b : Nat} {v : Value} {Ps : Parts} (R : RopeAt w b v Ps) : ∃ a n c a' n' c', v = .agg #[.slice a n c, .slice a' n' c'] := by
  obtain ⟨vd, ve, rfl, hd, he⟩ := R.ex
  obtain ⟨da, dc, hf, _, _⟩ := hd.form
  obtain ⟨ea, ec, hf2, _, _⟩ := he.form
  exact ⟨_, _, _, _, _, _, by rw [hf, hf2]⟩

set_option maxHeartbeats 400000 in
theorem take_bad {w : World} {b : Nat} {v : Value} {Ps : Parts} (R : RopeAt w b v Ps) (n : Int) (hn : n < 0) :
    Calls Try.prog 16 #[v, .int .i64 n] w fun e w' => e = .returned (.tuple #[zeroRope, zeroRope, .int .i64 2]) ∧ Below w.heap.size w w' := by
  obtain ⟨vd, ve, rfl, hd, he⟩ := R.ex
  obtain ⟨da, dc, hf, hd1, hd2⟩ := hd.form
  obtain ⟨ea, ec, hf2, he1, he2⟩ := he.form
  generalize Ps.flatten.length = fl at *
  generalize (ends 0 Ps).length = el at *
  subst hf hf2
  clear hd he R hd1 he1
  go_enter Try.func16, Try.ntmps16
  go_wp2_with fail
  refine bodyPost_ret (v := .tuple #[zeroRope, zeroRope, .int .i64 2]) (by simp [results, Try.results16, go_sem, zeroRope]) rfl ⟨rfl, ?_⟩
  exact below3 _ _ _ _

set_option maxRecDepth 100000 in
set_option maxHeartbeats 1600000 in
theorem take_ok {w : World} {b : Nat} {v : Value} {Ps : Parts} (R : RopeAt w b v Ps) (n : Nat) :
    Calls Try.prog 16 #[v, .int .i64 n] w fun e w' => ∃ v1 v2, e = .returned (.tuple #[v1, v2, .int .i64 0]) ∧ RopeAt w' w.heap.size v1 (firstP n Ps) ∧ RopeAt w' w.heap.size v2 (restP n Ps) ∧ Below w.heap.size w w' := by
  obtain ⟨vd, ve, rfl, hd, he⟩ := R.ex
  obtain ⟨da, dc, hf, hd1, hd2⟩ := hd.form
  obtain ⟨ea, ec, hf2, he1, he2⟩ := he.form
  obtain ⟨fl, hfl⟩ : ∃ fl, fl = Ps.flatten.length := ⟨_, rfl⟩
  obtain ⟨el, hel⟩ : ∃ el, el = (ends 0 Ps).length := ⟨_, rfl⟩
  rw [← hfl] at hf
  rw [← hel] at hf2
  subst hf hf2
  obtain ⟨m, hm⟩ : ∃ m, m = min n fl := ⟨_, rfl⟩
  have hmin : Hid (min (n : Int) (fl : Int) = (m : Int)) := Lib.hid (by omega)
  have HM := Lib.hid hm
  have HFL := Lib.hid hfl
  have HR := Lib.hid R
  have hn0 : decide ((n : Int) < 0) = false := by simp
  clear hd he R hfl hel hm hd1 he1
  go_enter Try.func16, Try.ntmps16
  go_wp2_with (go_at_call 23; fail)
  obtain ⟨W, hW⟩ : ∃ W, W = ((w.alloc (.cells #[.slice da fl dc, .slice ea el ec] 29)).alloc (.cells #[.slice none 0 0, .slice none 0 0] 29)).alloc (.cells #[.slice none 0 0, .slice none 0 0] 29) := ⟨_, rfl⟩
  have HWS : Hid (W.heap.size = w.heap.size + 3) := Lib.hid (by rw [hW]; simp)
  have HWB : Hid (Below w.heap.size w W) := Lib.hid (by rw [hW]; exact below3 _ _ _ _)
  have HW0 : Hid (W.heap[w.heap.size]? = some (.cells #[.slice da fl dc, .slice ea el ec] 29 (0, 0))) := Lib.hid (by
    rw [hW]; exact ((below_alloc _ _).block _ (by simp; omega)).trans (((below_alloc _ _).block _ (by simp)).trans (heap_alloc_new w _)))
  have HW1 : Hid (W.heap[w.heap.size + 1]? = some (.cells #[.slice none 0 0, .slice none 0 0] 29 (0, 0))) := Lib.hid (by
    rw [hW]; refine ((below_alloc _ _).block _ (by simp)).trans ?_; have := heap_alloc_new (w.alloc (.cells #[.slice da fl dc, .slice ea el ec] 29)) (.cells #[.slice none 0 0, .slice none 0 0] 29); simpa using this)
  have HW2 : Hid (W.heap[w.heap.size + 1 + 1]? = some (.cells #[.slice none 0 0, .slice none 0 0] 29 (0, 0))) := Lib.hid (by
    rw [hW]; have := heap_alloc_new ((w.alloc (.cells #[.slice da fl dc, .slice ea el ec] 29)).alloc (.cells #[.slice none 0 0, .slice none 0 0] 29)) (.cells #[.slice none 0 0, .slice none 0 0] 29); simpa using this)
  rw [← hW]
  clear hW
  have HRW := Lib.hid (HR.out.grown HWB.out)
  refine (len_any HRW.out).mono ?_
  rw [← HFL.out]
  rintro e w1 ⟨rfl, hb1⟩
  have HB1 := Lib.hid hb1
  clear hb1
  go_wp2_with (with_reducible refine wpList_min rfl (.tmp 12) (.tmp 14) _ rfl _ _ _ rfl rfl hmin.out ?_)
  have hld : ∀ W', Below W.heap.size W W' → W'.cell? ⟨w.heap.size, 0, none⟩ = some (.slice da fl dc) ∧ W'.cell? ⟨w.heap.size, 1, none⟩ = some (.slice ea el ec) := fun W' hb =>
    ⟨cells_cell ((hb.block _ (by have := HWS.out; omega)).trans HW0.out) rfl, cells_cell ((hb.block _ (by have := HWS.out; omega)).trans HW0.out) rfl⟩
  refine wp_region_float (fun W' => Below W.heap.size W W') 8 [0, 1, 3, 4, 5] [2, 6, 7] (by kernel_rfl) (by kernel_rfl) (fun _ _ _ d _ h => by cases d <;> exact h) HB1.out.drew ?_
  simp only [List.map_cons, List.map_nil, List.getD_cons_zero, List.getD_cons_succ, List.drop_succ_cons, List.drop_zero]
  refine takes_by (.agg #[.slice da fl dc, .slice ea el ec]) rfl (fun W' hS => by obtain ⟨h0, h1⟩ := hld W' hS; go_simp) ?_
  simp only [Act.put, List.setIfInBounds_toArray, List.set_cons_zero, List.set_cons_succ]
  refine takes_move (.tmp 7) (.int .i64 m) rfl rfl rfl ?_
  simp only [Act.put, List.setIfInBounds_toArray, List.set_cons_zero, List.set_cons_succ]
  refine takes_by (.agg #[.slice da fl dc, .slice ea el ec]) rfl (fun W' hS => by obtain ⟨h0, h1⟩ := hld W' hS; go_simp) ?_
  simp only [Act.put, List.setIfInBounds_toArray, List.set_cons_zero, List.set_cons_succ]
  refine takes_move (.tmp 7) (.int .i64 m) rfl rfl rfl ?_
  simp only [Act.put, List.setIfInBounds_toArray, List.set_cons_zero, List.set_cons_succ]
  refine takes_by (.agg #[.slice da fl dc, .slice ea el ec]) rfl (fun W' hS => by obtain ⟨h0, h1⟩ := hld W' hS; go_simp) ?_
  simp only [Act.put, List.setIfInBounds_toArray, List.set_cons_zero, List.set_cons_succ]
  unfold wpTakes
  have HR1 := Lib.hid (HRW.out.grown (w' := w1.drew) HB1.out.drew)
  refine mids_call 30 #[.agg #[.slice da fl dc, .slice ea el ec], .int .i64 ((0 : Nat) : Int), .int .i64 m] rfl (by go_simp) (between_any HR1.out 0 m (Nat.zero_le _) (by rw [HM.out, ← HFL.out]; omega)) ?_
  rintro e w2 ⟨v1, rfl, R2, hb2⟩
  have HS2 := Lib.hid (HB1.out.drew.trans (hb2.mono (by have := HB1.out.size; simpa using this)))
  have HR2 := Lib.hid R2
  refine ⟨v1, rfl, HS2.out, ?_⟩
  clear R2 hb2
  simp only [Act.put, List.setIfInBounds_toArray, List.set_cons_zero, List.set_cons_succ]
  refine mids_call 23 #[.agg #[.slice da fl dc, .slice ea el ec]] rfl (by go_simp) (len_any (HRW.out.grown HS2.out)) ?_
  rw [← HFL.out]
  rintro e w3 ⟨rfl, hb3⟩
  have HB3 := Lib.hid hb3
  have HS3 := Lib.hid (HS2.out.trans (hb3.mono HS2.out.size))
  refine ⟨_, rfl, HS3.out, ?_⟩
  clear hb3
  simp only [Act.put, List.setIfInBounds_toArray, List.set_cons_zero, List.set_cons_succ]
  refine mids_call 30 #[.agg #[.slice da fl dc, .slice ea el ec], .int .i64 m, .int .i64 fl] rfl (by go_simp) (between_any (HRW.out.grown HS3.out) m fl (by rw [HM.out]; omega) (by rw [HFL.out]; exact Nat.le_refl _)) ?_
  rintro e w4 ⟨v2, rfl, R4, hb4⟩
  have HB4 := Lib.hid hb4
  have HS4 := Lib.hid (HS3.out.trans (hb4.mono HS3.out.size))
  have HR4 := Lib.hid R4
  have HR24 := Lib.hid ((HR2.out.grown HB3.out).grown HB4.out)
  refine ⟨v2, rfl, HS4.out, ?_⟩
  clear hb4 R4 hld
  simp only [Act.put, List.setIfInBounds_toArray, List.set_cons_zero, List.set_cons_succ]
  unfold wpMids
  obtain ⟨x1, x2, x3, x4, x5, x6, hv1⟩ := HR24.out.shape
  obtain ⟨y1, y2, y3, y4, y5, y6, hv2⟩ := HR4.out.shape
  subst hv1 hv2
  have hc1 := Lib.hid ((HS4.out.block _ (by have := HWS.out; omega)).trans HW1.out)
  have hc2 := Lib.hid ((HS4.out.block _ (by have := HWS.out; omega)).trans HW2.out)
  have gc0 : w4.cell? ⟨w.heap.size + 1, 0, none⟩ = some (.slice none 0 0) := cells_cell hc1.out rfl
  have gc1 : w4.cell? ⟨w.heap.size + 1, 1, none⟩ = some (.slice none 0 0) := cells_cell hc1.out rfl
  have gz0 : w4.frozen? ⟨w.heap.size + 1, 0, none⟩ = false := cells_free hc1.out _
  have gz1 : w4.frozen? ⟨w.heap.size + 1, 1, none⟩ = false := cells_free hc1.out _
  have gd0 : w4.cell? ⟨w.heap.size + 1 + 1, 0, none⟩ = some (.slice none 0 0) := cells_cell hc2.out rfl
  have gd1 : w4.cell? ⟨w.heap.size + 1 + 1, 1, none⟩ = some (.slice none 0 0) := cells_cell hc2.out rfl
  have gy0 : w4.frozen? ⟨w.heap.size + 1 + 1, 0, none⟩ = false := cells_free hc2.out _
  have gy1 : w4.frozen? ⟨w.heap.size + 1 + 1, 1, none⟩ = false := cells_free hc2.out _
  go_wp2_with fail
  generalize hWF : World.setCell _ _ _ = WF
  have hfr : Fr [w.heap.size + 1, w.heap.size + 1 + 1] w4 WF := by
    rw [← hWF]
    exact ((two_fr w4 (w.heap.size + 1) (.slice x1 x2 x3) (.slice x4 x5 x6)).mono (fun x hx => .inl (by simp at hx; simp [hx]))).trans' ((two_fr _ (w.heap.size + 1 + 1) (.slice y1 y2 y3) (.slice y4 y5 y6)).mono (fun x hx => .inl (by simp at hx; simp [hx])))
  have ht1 : WF.heap[w.heap.size + 1]? = some (.cells #[.slice x1 x2 x3, .slice x4 x5 x6] 29 (0, 0)) := by
    rw [← hWF]; exact (two_fr _ (w.heap.size + 1 + 1) _ _).same (two_cells hc1.out) (by simp)
  have ht2 : WF.heap[w.heap.size + 1 + 1]? = some (.cells #[.slice y1 y2 y3, .slice y4 y5 y6] 29 (0, 0)) := by
    rw [← hWF]; exact two_cells ((two_fr _ (w.heap.size + 1) _ _).same hc2.out (by simp))
  have hbF : Below w.heap.size w4 WF := hfr.below (fun x hx => by simp at hx; omega) (by have := HS4.out.size; have := HWS.out; omega)
  clear hWF
  have hws := HWS.out
  have hs1 := HB1.out.size
  have hs3 := HS3.out.size
  refine bodyPost_ret (v := .tuple #[.agg #[.slice x1 x2 x3, .slice x4 x5 x6], .agg #[.slice y1 y2 y3, .slice y4 y5 y6], .int .i64 0]) (by simp [results, Try.results16, go_sem, cells_cell ht1 (o := 0) rfl, cells_cell ht1 (o := 1) rfl, cells_cell ht2 (o := 0) rfl, cells_cell ht2 (o := 1) rfl]) rfl ⟨_, _, rfl, ?_, ?_, ?_⟩
  · unfold firstP
    rw [← first_min, ← HFL.out, ← HM.out]
    exact (HR24.out.fr hfr (fun x hx => by simp at hx; simp; omega)).lower (by simp; omega)
  · unfold restP
    rw [← rest_min, ← HFL.out, ← HM.out]
    exact (HR4.out.fr hfr (fun x hx => by simp at hx; omega)).lower (by omega)
  · exact HWB.out.trans ((HS4.out.mono HWB.out.size).trans hbF)
end Go.Proofs.Ytkdbkamjaaehfaa
