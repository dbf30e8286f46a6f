/- TimerPlays: do, Reset and Stop. -/
import Derived.Test.YthlbnlbkgiclpaaDoorPDo2
namespace Go.Proofs.YthlbnlbkgiclpaaDoor
open Go.RowKit Go.Sort
set_option linter.unusedVariables false
set_option linter.unusedSimpArgs false

set_option maxRecDepth 100000 in
set_option maxHeartbeats 3200000 in
theorem do_reset_no {w0 w : World} {G : Nat → Prop} {a : Nat} {s : Value} {S : List El} {gs : List Nat} {P : Nat} {L : List Tm} (R : PlR w0 G w a s S gs P L) (hl : L.length ≤ 80000) (x1 x2 x3 x4 E : Int) (ht : ∀ W G' a, TmIn w0 G' W a S gs P → Calls Tryd.prog 45 #[pt a, .agg #[.int .i64 x3, .int .i64 x4], .int .u64 x2] W fun e w' => e = .returned (.int .i64 E) ∧ Grn W w') (hm : ∀ W s, RowM W 0 s L → Calls Tryd.prog 50 #[.agg #[s], .agg #[.int .i64 x3, .int .i64 x4], .int .u64 x2] W fun e w' => e = .returned (.tuple #[.agg #[s], .int .i64 E]) ∧ Below W.heap.size W w') :
    Calls Tryd.prog 15 #[pt a, .agg #[s], .agg #[.int .i64 1, .int .i64 x1, .int .u64 x2, .int .i64 x3, .int .i64 x4]] w (DoR w0 w G P L.length) := by
  have D0 := R.start 1 x1 x2 x3 x4
  obtain ⟨W, hW⟩ : ∃ W, (((w.alloc (.cells #[s] 51)).alloc (.cells #[.int .i64 1, .int .i64 x1, .int .u64 x2, .int .i64 x3, .int .i64 x4] 55)).alloc (.cells #[.slice none 0 0] 51)) = W := ⟨_, rfl⟩
  rw [hW] at D0
  have HW := Lib.hid hW
  have HD := Lib.hid D0
  have HREL := Lib.hid R.rel
  have HT := Lib.hid (ht W _ a D0.T)
  have HM := Lib.hid hm
  have m0 := cells_cell D0.q5 (o := 0) rfl
  have m1 := cells_cell D0.q5 (o := 1) rfl
  have m2 := cells_cell D0.q5 (o := 2) rfl
  have m3 := cells_cell D0.q5 (o := 3) rfl
  have m4 := cells_cell D0.q5 (o := 4) rfl
  have ml := lt_of_block D0.q5
  obtain ⟨sa, sn, sc, rfl⟩ := row_form R.row
  clear D0 R hW ht hm
  unfold pt at *
  go_enter Tryd.func15, Tryd.ntmps15
  go_wp2_with fail
  rw [HW.out]
  go_wp2_with (go_at_call 45; fail)
  refine HT.out.mono ?_
  rintro e w2 ⟨rfl, g2⟩
  have D2 := HD.out.grown g2.below
  have m1 := cells_cell D2.q5 (o := 1) rfl
  have m2 := cells_cell D2.q5 (o := 2) rfl
  have m3 := cells_cell D2.q5 (o := 3) rfl
  have m4 := cells_cell D2.q5 (o := 4) rfl
  have ml := lt_of_block D2.q5
  have k4 := cells_cell D2.q4 (o := 0) rfl
  have k4l := lt_of_block D2.q4
  have HD2 := Lib.hid D2
  have hms := Lib.hid (HM.out w2 _ (D2.row.mono (Nat.zero_le _)))
  clear HT HD D2 g2 HM
  go_wp2_with (go_at_call 50; fail)
  refine hms.out.mono ?_
  rintro e w3 ⟨rfl, hb3⟩
  obtain ⟨W4, hW4⟩ : ∃ W4, (w3.alloc (.cells #[.slice sa sn sc] 51)) = W4 := ⟨_, rfl⟩
  have hb4 : Below w2.heap.size w2 W4 := by rw [← hW4]; exact hb3.alloc hb3.size _
  have r11 : W4.heap[w3.heap.size]? = some (.cells #[.slice sa sn sc] 51 (0, 0)) := by rw [← hW4]; exact block_new _ _ _ rfl
  have D4 := HD2.out.grown hb4
  have HFIN := Lib.hid ((HD2.out.grown hb4.drew).fin' HREL.out)
  have e11 := cells_cell r11 (o := 0) rfl
  have e7 : W4.cell? ⟨w.heap.size + 1 + 1, 0, none⟩ = some (.slice none 0 0) := cells_cell D4.q7 (o := 0) rfl
  have f7 : W4.frozen? ⟨w.heap.size + 1 + 1, 0, none⟩ = false := cells_free D4.q7 0
  have l7 : w.heap.size + 1 + 1 < W4.heap.size := lt_of_block D4.q7
  have l11 := lt_of_block r11
  have n3 : ¬ w3.heap.size = w.heap.size + 1 + 1 := by have := HD2.out.ws; have := hb3.size; omega
  have HW4 := Lib.hid hW4
  have hee : (E == E) = true := by simp
  clear D4 hb3 hb4 r11 hW4 hms HD2 m1 m2 m3 m4 ml k4 k4l
  go_wp2_with fail
  rw [HW4.out]
  refine wp_region_float (fun X => X.cell? ⟨w3.heap.size, 0, none⟩ = some (.slice sa sn sc)) 7 [0, 1, 2, 3, 4] [5, 6] (by kernel_rfl) (by kernel_rfl) (fun _ _ _ d _ h => by cases d <;> exact h) e11 ?_
  simp only [List.map_cons, List.map_nil, List.getD_cons_zero, List.getD_cons_succ, List.drop_succ_cons, List.drop_zero]
  refine takes_move (.tmp 0) (.pointer (some ⟨a, 0, none⟩)) rfl rfl rfl ?_
  simp only [Act.put, List.setIfInBounds_toArray, List.set_cons_zero, List.set_cons_succ]
  refine takes_by (.agg #[(.slice sa sn sc)]) rfl (fun X hS => by have s1 : X.cell? _ = _ := hS; go_simp) ?_
  simp only [Act.put, List.setIfInBounds_toArray, List.set_cons_zero, List.set_cons_succ]
  refine takes_move (.tmp 14) (.int .i64 E) rfl rfl rfl ?_
  simp only [Act.put, List.setIfInBounds_toArray, List.set_cons_zero, List.set_cons_succ]
  refine takes_move (.tmp 16) (.int .i64 E) rfl rfl rfl ?_
  simp only [Act.put, List.setIfInBounds_toArray, List.set_cons_zero, List.set_cons_succ]
  refine takes_by (.bool true) rfl (fun X hS => by go_simp) ?_
  simp only [Act.put, List.setIfInBounds_toArray, List.set_cons_zero, List.set_cons_succ]
  unfold wpTakes
  refine mids_by (.pointer (some ⟨a, 0, none⟩)) rfl (by go_simp) e11 ?_
  simp only [Act.put, List.setIfInBounds_toArray, List.set_cons_zero, List.set_cons_succ]
  refine mids_step rfl (fun K hK => ?_)
  go_simp
  refine hK _ _ ?_ ?_
  · go_simp
  unfold wpMids
  clear hK e11
  have hq := World.cell?_setCell_same W4 _ (.slice sa sn sc) e7
  go_wp2_with fail
  exact bodyPost_ret (v := .tuple #[.pointer (some ⟨a, 0, none⟩), .agg #[.slice sa sn sc], .bool true]) (by simp [results, Tryd.results15, go_sem, hq]) rfl ⟨a, _, _, _, _, _, rfl, HFIN.out.1, HFIN.out.2, Nat.le_succ _, Nat.le_succ _⟩

set_option maxRecDepth 100000 in
set_option maxHeartbeats 3200000 in
theorem do_stop_no {w0 w : World} {G : Nat → Prop} {a : Nat} {s : Value} {S : List El} {gs : List Nat} {P : Nat} {L : List Tm} (R : PlR w0 G w a s S gs P L) (hl : L.length ≤ 80000) (x1 x2 x3 x4 E : Int) (ht : ∀ W G' a, TmIn w0 G' W a S gs P → Calls Tryd.prog 48 #[pt a, .agg #[.int .i64 x3, .int .i64 x4]] W fun e w' => e = .returned (.int .i64 E) ∧ Grn W w') (hm : ∀ W s, RowM W 0 s L → Calls Tryd.prog 51 #[.agg #[s], .agg #[.int .i64 x3, .int .i64 x4]] W fun e w' => e = .returned (.tuple #[.agg #[s], .int .i64 E]) ∧ Below W.heap.size W w') :
    Calls Tryd.prog 15 #[pt a, .agg #[s], .agg #[.int .i64 2, .int .i64 x1, .int .u64 x2, .int .i64 x3, .int .i64 x4]] w (DoR w0 w G P L.length) := by
  have D0 := R.start 2 x1 x2 x3 x4
  obtain ⟨W, hW⟩ : ∃ W, (((w.alloc (.cells #[s] 51)).alloc (.cells #[.int .i64 2, .int .i64 x1, .int .u64 x2, .int .i64 x3, .int .i64 x4] 55)).alloc (.cells #[.slice none 0 0] 51)) = W := ⟨_, rfl⟩
  rw [hW] at D0
  have HW := Lib.hid hW
  have HD := Lib.hid D0
  have HREL := Lib.hid R.rel
  have HT := Lib.hid (ht W _ a D0.T)
  have HM := Lib.hid hm
  have m0 := cells_cell D0.q5 (o := 0) rfl
  have m1 := cells_cell D0.q5 (o := 1) rfl
  have m2 := cells_cell D0.q5 (o := 2) rfl
  have m3 := cells_cell D0.q5 (o := 3) rfl
  have m4 := cells_cell D0.q5 (o := 4) rfl
  have ml := lt_of_block D0.q5
  obtain ⟨sa, sn, sc, rfl⟩ := row_form R.row
  clear D0 R hW ht hm
  unfold pt at *
  go_enter Tryd.func15, Tryd.ntmps15
  go_wp2_with fail
  rw [HW.out]
  go_wp2_with (go_at_call 48; fail)
  refine HT.out.mono ?_
  rintro e w2 ⟨rfl, g2⟩
  have D2 := HD.out.grown g2.below
  have m1 := cells_cell D2.q5 (o := 1) rfl
  have m2 := cells_cell D2.q5 (o := 2) rfl
  have m3 := cells_cell D2.q5 (o := 3) rfl
  have m4 := cells_cell D2.q5 (o := 4) rfl
  have ml := lt_of_block D2.q5
  have k4 := cells_cell D2.q4 (o := 0) rfl
  have k4l := lt_of_block D2.q4
  have HD2 := Lib.hid D2
  have hms := Lib.hid (HM.out w2 _ (D2.row.mono (Nat.zero_le _)))
  clear HT HD D2 g2 HM
  go_wp2_with (go_at_call 51; fail)
  refine hms.out.mono ?_
  rintro e w3 ⟨rfl, hb3⟩
  obtain ⟨W4, hW4⟩ : ∃ W4, (w3.alloc (.cells #[.slice sa sn sc] 51)) = W4 := ⟨_, rfl⟩
  have hb4 : Below w2.heap.size w2 W4 := by rw [← hW4]; exact hb3.alloc hb3.size _
  have r11 : W4.heap[w3.heap.size]? = some (.cells #[.slice sa sn sc] 51 (0, 0)) := by rw [← hW4]; exact block_new _ _ _ rfl
  have D4 := HD2.out.grown hb4
  have HFIN := Lib.hid ((HD2.out.grown hb4.drew).fin' HREL.out)
  have e11 := cells_cell r11 (o := 0) rfl
  have e7 : W4.cell? ⟨w.heap.size + 1 + 1, 0, none⟩ = some (.slice none 0 0) := cells_cell D4.q7 (o := 0) rfl
  have f7 : W4.frozen? ⟨w.heap.size + 1 + 1, 0, none⟩ = false := cells_free D4.q7 0
  have l7 : w.heap.size + 1 + 1 < W4.heap.size := lt_of_block D4.q7
  have l11 := lt_of_block r11
  have n3 : ¬ w3.heap.size = w.heap.size + 1 + 1 := by have := HD2.out.ws; have := hb3.size; omega
  have HW4 := Lib.hid hW4
  have hee : (E == E) = true := by simp
  clear D4 hb3 hb4 r11 hW4 hms HD2 m1 m2 m3 m4 ml k4 k4l
  go_wp2_with fail
  rw [HW4.out]
  refine wp_region_float (fun X => X.cell? ⟨w3.heap.size, 0, none⟩ = some (.slice sa sn sc)) 7 [0, 1, 2, 3, 4] [5, 6] (by kernel_rfl) (by kernel_rfl) (fun _ _ _ d _ h => by cases d <;> exact h) e11 ?_
  simp only [List.map_cons, List.map_nil, List.getD_cons_zero, List.getD_cons_succ, List.drop_succ_cons, List.drop_zero]
  refine takes_move (.tmp 0) (.pointer (some ⟨a, 0, none⟩)) rfl rfl rfl ?_
  simp only [Act.put, List.setIfInBounds_toArray, List.set_cons_zero, List.set_cons_succ]
  refine takes_by (.agg #[(.slice sa sn sc)]) rfl (fun X hS => by have s1 : X.cell? _ = _ := hS; go_simp) ?_
  simp only [Act.put, List.setIfInBounds_toArray, List.set_cons_zero, List.set_cons_succ]
  refine takes_move (.tmp 17) (.int .i64 E) rfl rfl rfl ?_
  simp only [Act.put, List.setIfInBounds_toArray, List.set_cons_zero, List.set_cons_succ]
  refine takes_move (.tmp 19) (.int .i64 E) rfl rfl rfl ?_
  simp only [Act.put, List.setIfInBounds_toArray, List.set_cons_zero, List.set_cons_succ]
  refine takes_by (.bool true) rfl (fun X hS => by go_simp) ?_
  simp only [Act.put, List.setIfInBounds_toArray, List.set_cons_zero, List.set_cons_succ]
  unfold wpTakes
  refine mids_by (.pointer (some ⟨a, 0, none⟩)) rfl (by go_simp) e11 ?_
  simp only [Act.put, List.setIfInBounds_toArray, List.set_cons_zero, List.set_cons_succ]
  refine mids_step rfl (fun K hK => ?_)
  go_simp
  refine hK _ _ ?_ ?_
  · go_simp
  unfold wpMids
  clear hK e11
  have hq := World.cell?_setCell_same W4 _ (.slice sa sn sc) e7
  go_wp2_with fail
  exact bodyPost_ret (v := .tuple #[.pointer (some ⟨a, 0, none⟩), .agg #[.slice sa sn sc], .bool true]) (by simp [results, Tryd.results15, go_sem, hq]) rfl ⟨a, _, _, _, _, _, rfl, HFIN.out.1, HFIN.out.2, Nat.le_succ _, Nat.le_succ _⟩

set_option maxRecDepth 100000 in
set_option maxHeartbeats 3200000 in
theorem do_reset_ok {w0 w : World} {G : Nat → Prop} {a : Nat} {s : Value} {S : List El} {gs : List Nat} {P : Nat} {L : List Tm} (R : PlR w0 G w a s S gs P L) (hl : L.length ≤ 80000) (x1 x2 x3 x4 : Int) (hP : P ≤ 80000) (hk : x2 ≠ never) (e : El) (he : e ∈ S) (h3 : x3 = e.h) (h4 : x4 = (gs.getD e.h 0 : Nat)) :
    Calls Tryd.prog 15 #[pt a, .agg #[s], .agg #[.int .i64 1, .int .i64 x1, .int .u64 x2, .int .i64 x3, .int .i64 x4]] w (DoR w0 w G P L.length) := by
  have D0 := R.start 1 x1 x2 x3 x4
  obtain ⟨W, hW⟩ : ∃ W, (((w.alloc (.cells #[s] 51)).alloc (.cells #[.int .i64 1, .int .i64 x1, .int .u64 x2, .int .i64 x3, .int .i64 x4] 55)).alloc (.cells #[.slice none 0 0] 51)) = W := ⟨_, rfl⟩
  rw [hW] at D0
  have HW := Lib.hid hW
  have HD := Lib.hid D0
  have HREL := Lib.hid R.rel
  have ht := treset_yes D0.T e he x2 hk
  rw [← h3, ← h4] at ht
  have HT := Lib.hid ht
  have HEX : Hid (∃ f ∈ L, (f.n : Int) = x3 ∧ (f.g : Int) = x4 ∧ f.gone = false) := Lib.hid (rel_isT R.rel ⟨e.h, h3, List.mem_map_of_mem he, h4⟩)
  have HND := Lib.hid D0.T.nodup
  have HLT := Lib.hid (D0.T.p.lt e.h (List.mem_map_of_mem he))
  have H3 := Lib.hid h3
  have HK := Lib.hid hk
  have m0 := cells_cell D0.q5 (o := 0) rfl
  have m1 := cells_cell D0.q5 (o := 1) rfl
  have m2 := cells_cell D0.q5 (o := 2) rfl
  have m3 := cells_cell D0.q5 (o := 3) rfl
  have m4 := cells_cell D0.q5 (o := 4) rfl
  have ml := lt_of_block D0.q5
  obtain ⟨sa, sn, sc, rfl⟩ := row_form R.row
  clear D0 R hW ht h3 h4 he hk
  unfold pt at *
  go_enter Tryd.func15, Tryd.ntmps15
  go_wp2_with fail
  rw [HW.out]
  go_wp2_with (go_at_call 45; fail)
  refine HT.out.mono ?_
  rintro e w2 ⟨rfl, T2, K2⟩
  have D2 := HD.out.after T2 K2
  have m1 := cells_cell D2.q5 (o := 1) rfl
  have m2 := cells_cell D2.q5 (o := 2) rfl
  have m3 := cells_cell D2.q5 (o := 3) rfl
  have m4 := cells_cell D2.q5 (o := 4) rfl
  have ml := lt_of_block D2.q5
  have k4 := cells_cell D2.q4 (o := 0) rfl
  have k4l := lt_of_block D2.q4
  have HD2 := Lib.hid D2
  have hms := Lib.hid (mreset_yes (D2.row.mono (Nat.zero_le _)) (by omega) x3 x4 x2 HK.out HEX.out)
  clear HT HD D2 T2 K2
  go_wp2_with (go_at_call 50; fail)
  refine hms.out.mono ?_
  rintro e1 w3 ⟨s', i, e0, rfl, hi, ⟨hq1, hq2, hq3⟩, hr3, hb3⟩
  have hen : e0.n = e.h := by have := H3.out; omega
  have hrel := rel_reset HREL.out HND.out hi hq3 x2
  rw [hen] at hrel
  obtain ⟨va, vn, vc, rfl⟩ := row_form hr3
  obtain ⟨W4, hW4⟩ : ∃ W4, (w3.alloc (.cells #[.slice va vn vc] 51)) = W4 := ⟨_, rfl⟩
  have hbA : Below w3.heap.size w3 W4 := by rw [← hW4]; exact (Below.refl _ _).alloc (Nat.le_refl _) _
  have hb4 : Below w2.heap.size w2 W4 := hb3.trans (hbA.mono hb3.size)
  have r11 : W4.heap[w3.heap.size]? = some (.cells #[.slice va vn vc] 51 (0, 0)) := by rw [← hW4]; exact block_new _ _ _ rfl
  have D4 := HD2.out.grown hb4
  have hr4 : RowM W4.drew w2.heap.size (.slice va vn vc) _ := RowM.below hr3 hbA.drew
  have HFIN := Lib.hid (HD2.out.fin (w3 := W4.drew) hb4.drew hr4 (by rw [← hen] at hrel ⊢; exact hrel))
  have HLEN := Lib.hid (show (L.set i ⟨e0.n, e0.g, e0.o, x2, e0.gone⟩).length ≤ L.length + 1 by rw [List.length_set]; omega)
  have e11 := cells_cell r11 (o := 0) rfl
  have e7 : W4.cell? ⟨w.heap.size + 1 + 1, 0, none⟩ = some (.slice none 0 0) := cells_cell D4.q7 (o := 0) rfl
  have f7 : W4.frozen? ⟨w.heap.size + 1 + 1, 0, none⟩ = false := cells_free D4.q7 0
  have l7 : w.heap.size + 1 + 1 < W4.heap.size := lt_of_block D4.q7
  have l11 := lt_of_block r11
  have n3 : ¬ w3.heap.size = w.heap.size + 1 + 1 := by have := HD2.out.ws; have := hb3.size; omega
  have HW4 := Lib.hid hW4
  clear D4 hb3 hb4 hbA r11 hW4 hms HD2 hr3 hr4 hrel hen hi hq1 hq2 hq3 m1 m2 m3 m4 ml k4 k4l
  go_wp2_with fail
  rw [HW4.out]
  refine wp_region_float (fun X => X.cell? ⟨w3.heap.size, 0, none⟩ = some (.slice va vn vc)) 7 [0, 1, 2, 3, 4] [5, 6] (by kernel_rfl) (by kernel_rfl) (fun _ _ _ d _ h => by cases d <;> exact h) e11 ?_
  simp only [List.map_cons, List.map_nil, List.getD_cons_zero, List.getD_cons_succ, List.drop_succ_cons, List.drop_zero]
  refine takes_move (.tmp 0) (.pointer (some ⟨a, 0, none⟩)) rfl rfl rfl ?_
  simp only [Act.put, List.setIfInBounds_toArray, List.set_cons_zero, List.set_cons_succ]
  refine takes_by (.agg #[(.slice va vn vc)]) rfl (fun X hS => by have s1 : X.cell? _ = _ := hS; go_simp) ?_
  simp only [Act.put, List.setIfInBounds_toArray, List.set_cons_zero, List.set_cons_succ]
  refine takes_move (.tmp 14) (.int .i64 0) rfl rfl rfl ?_
  simp only [Act.put, List.setIfInBounds_toArray, List.set_cons_zero, List.set_cons_succ]
  refine takes_move (.tmp 16) (.int .i64 0) rfl rfl rfl ?_
  simp only [Act.put, List.setIfInBounds_toArray, List.set_cons_zero, List.set_cons_succ]
  refine takes_by (.bool true) rfl (fun X hS => by go_simp) ?_
  simp only [Act.put, List.setIfInBounds_toArray, List.set_cons_zero, List.set_cons_succ]
  unfold wpTakes
  refine mids_by (.pointer (some ⟨a, 0, none⟩)) rfl (by go_simp) e11 ?_
  simp only [Act.put, List.setIfInBounds_toArray, List.set_cons_zero, List.set_cons_succ]
  refine mids_step rfl (fun K hK => ?_)
  go_simp
  refine hK _ _ ?_ ?_
  · go_simp
  unfold wpMids
  clear hK e11
  have hq := World.cell?_setCell_same W4 _ (.slice va vn vc) e7
  go_wp2_with fail
  exact bodyPost_ret (v := .tuple #[.pointer (some ⟨a, 0, none⟩), .agg #[.slice va vn vc], .bool true]) (by simp [results, Tryd.results15, go_sem, hq]) rfl ⟨a, _, _, _, _, _, rfl, HFIN.out.1, HFIN.out.2, Nat.le_succ _, HLEN.out⟩

set_option maxRecDepth 100000 in
set_option maxHeartbeats 3200000 in
theorem do_stop_ok {w0 w : World} {G : Nat → Prop} {a : Nat} {s : Value} {S : List El} {gs : List Nat} {P : Nat} {L : List Tm} (R : PlR w0 G w a s S gs P L) (hl : L.length ≤ 80000) (x1 x2 x3 x4 : Int) (hP : P ≤ 80000) (e : El) (he : e ∈ S) (h3 : x3 = e.h) (h4 : x4 = (gs.getD e.h 0 : Nat)) :
    Calls Tryd.prog 15 #[pt a, .agg #[s], .agg #[.int .i64 2, .int .i64 x1, .int .u64 x2, .int .i64 x3, .int .i64 x4]] w (DoR w0 w G P L.length) := by
  have D0 := R.start 2 x1 x2 x3 x4
  obtain ⟨W, hW⟩ : ∃ W, (((w.alloc (.cells #[s] 51)).alloc (.cells #[.int .i64 2, .int .i64 x1, .int .u64 x2, .int .i64 x3, .int .i64 x4] 55)).alloc (.cells #[.slice none 0 0] 51)) = W := ⟨_, rfl⟩
  rw [hW] at D0
  have HW := Lib.hid hW
  have HD := Lib.hid D0
  have HREL := Lib.hid R.rel
  have ht := tstop_yes D0.T e he (by omega)
  rw [← h3, ← h4] at ht
  have HT := Lib.hid ht
  have HEX : Hid (∃ f ∈ L, (f.n : Int) = x3 ∧ (f.g : Int) = x4 ∧ f.gone = false) := Lib.hid (rel_isT R.rel ⟨e.h, h3, List.mem_map_of_mem he, h4⟩)
  have HND := Lib.hid D0.T.nodup
  have HLT := Lib.hid (D0.T.p.lt e.h (List.mem_map_of_mem he))
  have H3 := Lib.hid h3
  have m0 := cells_cell D0.q5 (o := 0) rfl
  have m1 := cells_cell D0.q5 (o := 1) rfl
  have m2 := cells_cell D0.q5 (o := 2) rfl
  have m3 := cells_cell D0.q5 (o := 3) rfl
  have m4 := cells_cell D0.q5 (o := 4) rfl
  have ml := lt_of_block D0.q5
  obtain ⟨sa, sn, sc, rfl⟩ := row_form R.row
  clear D0 R hW ht h3 h4 he
  unfold pt at *
  go_enter Tryd.func15, Tryd.ntmps15
  go_wp2_with fail
  rw [HW.out]
  go_wp2_with (go_at_call 48; fail)
  refine HT.out.mono ?_
  rintro e w2 ⟨rfl, T2, K2⟩
  have D2 := HD.out.after T2 K2
  have m1 := cells_cell D2.q5 (o := 1) rfl
  have m2 := cells_cell D2.q5 (o := 2) rfl
  have m3 := cells_cell D2.q5 (o := 3) rfl
  have m4 := cells_cell D2.q5 (o := 4) rfl
  have ml := lt_of_block D2.q5
  have k4 := cells_cell D2.q4 (o := 0) rfl
  have k4l := lt_of_block D2.q4
  have HD2 := Lib.hid D2
  have hms := Lib.hid (mstop_yes (D2.row.mono (Nat.zero_le _)) (by omega) x3 x4 HEX.out)
  clear HT HD D2 T2 K2
  go_wp2_with (go_at_call 51; fail)
  refine hms.out.mono ?_
  rintro e1 w3 ⟨s', i, e0, rfl, hi, ⟨hq1, hq2, hq3⟩, hr3, hb3⟩
  have hen : e0.n = e.h := by have := H3.out; omega
  have hrel := rel_stop HREL.out HND.out hi hq3 (by rw [hen]; exact HLT.out)
  rw [hen] at hrel
  obtain ⟨va, vn, vc, rfl⟩ := row_form hr3
  obtain ⟨W4, hW4⟩ : ∃ W4, (w3.alloc (.cells #[.slice va vn vc] 51)) = W4 := ⟨_, rfl⟩
  have hbA : Below w3.heap.size w3 W4 := by rw [← hW4]; exact (Below.refl _ _).alloc (Nat.le_refl _) _
  have hb4 : Below w2.heap.size w2 W4 := hb3.trans (hbA.mono hb3.size)
  have r11 : W4.heap[w3.heap.size]? = some (.cells #[.slice va vn vc] 51 (0, 0)) := by rw [← hW4]; exact block_new _ _ _ rfl
  have D4 := HD2.out.grown hb4
  have hr4 : RowM W4.drew w2.heap.size (.slice va vn vc) _ := RowM.below hr3 hbA.drew
  have HFIN := Lib.hid (HD2.out.fin (w3 := W4.drew) hb4.drew hr4 (by rw [← hen] at hrel ⊢; exact hrel))
  have HLEN := Lib.hid (show (L.set i ⟨e0.n, e0.g, e0.o, e0.k, true⟩).length ≤ L.length + 1 by rw [List.length_set]; omega)
  have e11 := cells_cell r11 (o := 0) rfl
  have e7 : W4.cell? ⟨w.heap.size + 1 + 1, 0, none⟩ = some (.slice none 0 0) := cells_cell D4.q7 (o := 0) rfl
  have f7 : W4.frozen? ⟨w.heap.size + 1 + 1, 0, none⟩ = false := cells_free D4.q7 0
  have l7 : w.heap.size + 1 + 1 < W4.heap.size := lt_of_block D4.q7
  have l11 := lt_of_block r11
  have n3 : ¬ w3.heap.size = w.heap.size + 1 + 1 := by have := HD2.out.ws; have := hb3.size; omega
  have HW4 := Lib.hid hW4
  clear D4 hb3 hb4 hbA r11 hW4 hms HD2 hr3 hr4 hrel hen hi hq1 hq2 hq3 m1 m2 m3 m4 ml k4 k4l
  go_wp2_with fail
  rw [HW4.out]
  refine wp_region_float (fun X => X.cell? ⟨w3.heap.size, 0, none⟩ = some (.slice va vn vc)) 7 [0, 1, 2, 3, 4] [5, 6] (by kernel_rfl) (by kernel_rfl) (fun _ _ _ d _ h => by cases d <;> exact h) e11 ?_
  simp only [List.map_cons, List.map_nil, List.getD_cons_zero, List.getD_cons_succ, List.drop_succ_cons, List.drop_zero]
  refine takes_move (.tmp 0) (.pointer (some ⟨a, 0, none⟩)) rfl rfl rfl ?_
  simp only [Act.put, List.setIfInBounds_toArray, List.set_cons_zero, List.set_cons_succ]
  refine takes_by (.agg #[(.slice va vn vc)]) rfl (fun X hS => by have s1 : X.cell? _ = _ := hS; go_simp) ?_
  simp only [Act.put, List.setIfInBounds_toArray, List.set_cons_zero, List.set_cons_succ]
  refine takes_move (.tmp 17) (.int .i64 0) rfl rfl rfl ?_
  simp only [Act.put, List.setIfInBounds_toArray, List.set_cons_zero, List.set_cons_succ]
  refine takes_move (.tmp 19) (.int .i64 0) rfl rfl rfl ?_
  simp only [Act.put, List.setIfInBounds_toArray, List.set_cons_zero, List.set_cons_succ]
  refine takes_by (.bool true) rfl (fun X hS => by go_simp) ?_
  simp only [Act.put, List.setIfInBounds_toArray, List.set_cons_zero, List.set_cons_succ]
  unfold wpTakes
  refine mids_by (.pointer (some ⟨a, 0, none⟩)) rfl (by go_simp) e11 ?_
  simp only [Act.put, List.setIfInBounds_toArray, List.set_cons_zero, List.set_cons_succ]
  refine mids_step rfl (fun K hK => ?_)
  go_simp
  refine hK _ _ ?_ ?_
  · go_simp
  unfold wpMids
  clear hK e11
  have hq := World.cell?_setCell_same W4 _ (.slice va vn vc) e7
  go_wp2_with fail
  exact bodyPost_ret (v := .tuple #[.pointer (some ⟨a, 0, none⟩), .agg #[.slice va vn vc], .bool true]) (by simp [results, Tryd.results15, go_sem, hq]) rfl ⟨a, _, _, _, _, _, rfl, HFIN.out.1, HFIN.out.2, Nat.le_succ _, HLEN.out⟩

end Go.Proofs.YthlbnlbkgiclpaaDoor
