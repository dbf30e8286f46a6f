/- TimerPlays: do, Set refused and Expire. -/
import Derived.Test.YthlbnlbkgiclpaaDoorPDo2
namespace Go.Proofs.YthlbnlbkgiclpaaDoor
open Go.RowKit Go.Sort
set_option linter.unusedVariables false
set_option linter.unusedSimpArgs false

set_option maxRecDepth 100000 in
set_option maxHeartbeats 3200000 in
theorem do_set_no {w0 w : World} {G : Nat → Prop} {a : Nat} {s : Value} {S : List El} {gs : List Nat} {P : Nat} {L : List Tm} (R : PlR w0 G w a s S gs P L) (hl : L.length ≤ 80000) (x1 x2 x3 x4 E : Int) (ht : ∀ W G' a, TmIn w0 G' W a S gs P → Calls Tryd.prog 44 #[pt a, .int .u64 x2, .int .i64 x1] W fun e w' => e = .returned (.tuple #[.agg #[.int .i64 0, .int .i64 0], .int .i64 E]) ∧ Grn W w') (hm : ∀ W s, RowM W 0 s L → Calls Tryd.prog 49 #[.agg #[s], .int .u64 x2, .int .i64 x1] W fun e w' => e = .returned (.tuple #[.agg #[s], .agg #[.int .i64 0, .int .i64 0], .int .i64 E]) ∧ Below W.heap.size W w') :
    Calls Tryd.prog 15 #[pt a, .agg #[s], .agg #[.int .i64 0, .int .i64 x1, .int .u64 x2, .int .i64 x3, .int .i64 x4]] w (DoR w0 w G P L.length) := by
  have D0 := R.start 0 x1 x2 x3 x4
  obtain ⟨W, hW⟩ : ∃ W, (((w.alloc (.cells #[s] 51)).alloc (.cells #[.int .i64 0, .int .i64 x1, .int .u64 x2, .int .i64 x3, .int .i64 x4] 55)).alloc (.cells #[.slice none 0 0] 51)) = W := ⟨_, rfl⟩
  rw [hW] at D0
  have HW := Lib.hid hW
  have HD := Lib.hid D0
  have HREL := Lib.hid R.rel
  have HT := Lib.hid (ht W _ a D0.T)
  have HM := Lib.hid hm
  have m0 := cells_cell D0.q5 (o := 0) rfl
  have m1 := cells_cell D0.q5 (o := 1) rfl
  have m2 := cells_cell D0.q5 (o := 2) rfl
  have m3 := cells_cell D0.q5 (o := 3) rfl
  have m4 := cells_cell D0.q5 (o := 4) rfl
  have ml := lt_of_block D0.q5
  obtain ⟨sa, sn, sc, rfl⟩ := row_form R.row
  clear D0 R hW ht hm
  unfold pt at *
  go_enter Tryd.func15, Tryd.ntmps15
  go_wp2_with fail
  rw [HW.out]
  go_wp2_with (go_at_call 44; fail)
  refine HT.out.mono ?_
  rintro e w2 ⟨rfl, g2⟩
  have D2 := HD.out.grown g2.below
  have m1 := cells_cell D2.q5 (o := 1) rfl
  have m2 := cells_cell D2.q5 (o := 2) rfl
  have m3 := cells_cell D2.q5 (o := 3) rfl
  have m4 := cells_cell D2.q5 (o := 4) rfl
  have ml := lt_of_block D2.q5
  have k4 := cells_cell D2.q4 (o := 0) rfl
  have k4l := lt_of_block D2.q4
  have HD2 := Lib.hid D2
  have hms := Lib.hid (HM.out (w2.alloc (.cells #[.int .i64 0, .int .i64 0] 53)) _ ((D2.row.below ((Below.refl _ _).alloc (Nat.le_refl _) _)).mono (Nat.zero_le _)))
  clear HT HD D2 g2 HM
  go_wp2_with (go_at_call 49; fail)
  refine hms.out.mono ?_
  rintro e w3 ⟨rfl, hb3⟩
  have hA9 : Below w2.heap.size w2 (w2.alloc (.cells #[.int .i64 0, .int .i64 0] 53)) := (Below.refl _ _).alloc (Nat.le_refl _) _
  have hb3' : Below w2.heap.size w2 w3 := hA9.trans (hb3.mono hA9.size)
  have r9 : w3.heap[w2.heap.size]? = some (.cells #[.int .i64 0, .int .i64 0] 53 (0, 0)) := (hb3.block _ (by simp)).trans (block_new _ _ _ rfl)
  obtain ⟨W4, hW4⟩ : ∃ W4, (w3.alloc (.cells #[.slice sa sn sc] 51)).alloc (.cells #[.int .i64 0, .int .i64 0] 53) = W4 := ⟨_, rfl⟩
  have hb4 : Below w3.heap.size w3 W4 := by rw [← hW4]; exact ((Below.refl _ _).alloc (Nat.le_refl _) _).alloc (by simp) _
  have r11 : W4.heap[w3.heap.size]? = some (.cells #[.slice sa sn sc] 51 (0, 0)) := by rw [← hW4]; exact (fr_alloc _ _ []).same (block_new _ _ _ rfl) (by simp)
  have r12 : W4.heap[w3.heap.size + 1]? = some (.cells #[.int .i64 0, .int .i64 0] 53 (0, 0)) := by rw [← hW4]; exact block_new _ _ _ (by simp)
  have r9' := (hb4.block _ (lt_of_block r9)).trans r9
  have hb5 : Below w2.heap.size w2 W4 := hb3'.trans (hb4.mono hb3'.size)
  have D4 := HD2.out.grown hb5
  have HFIN := Lib.hid ((HD2.out.grown hb5.drew).fin' HREL.out)
  have e11 := cells_cell r11 (o := 0) rfl
  have e9 := cells_cell r9' (o := 0) rfl
  have e9' := cells_cell r9' (o := 1) rfl
  have e12 := cells_cell r12 (o := 0) rfl
  have e12' := cells_cell r12 (o := 1) rfl
  have e7 : W4.cell? ⟨w.heap.size + 1 + 1, 0, none⟩ = some (.slice none 0 0) := cells_cell D4.q7 (o := 0) rfl
  have f7 : W4.frozen? ⟨w.heap.size + 1 + 1, 0, none⟩ = false := cells_free D4.q7 0
  have l7 : w.heap.size + 1 + 1 < W4.heap.size := lt_of_block D4.q7
  have n2 : ¬ w2.heap.size = w.heap.size + 1 + 1 := by have := HD2.out.ws; omega
  have n3 : ¬ w3.heap.size = w.heap.size + 1 + 1 := by have := HD2.out.ws; have := hb3'.size; omega
  have n4 : ¬ w3.heap.size = w.heap.size + 1 := by have := HD2.out.ws; have := hb3'.size; omega
  have l11 := lt_of_block r11
  have l9 := lt_of_block r9'
  have l12 := lt_of_block r12
  have HW4 := Lib.hid hW4
  have hee : (E == E) = true := by simp
  clear D4 hb3 hb3' hb4 hb5 hA9 r9 r11 r12 r9' hW4 hms HD2 m1 m2 m3 m4 ml k4 k4l
  go_wp2_with fail
  rw [HW4.out]
  refine wp_region_float (fun X => X.cell? ⟨w3.heap.size, 0, none⟩ = some (.slice sa sn sc) ∧ X.cell? ⟨w2.heap.size, 0, none⟩ = some (.int .i64 0) ∧ X.cell? ⟨w2.heap.size, 1, none⟩ = some (.int .i64 0) ∧ X.cell? ⟨w3.heap.size + 1, 0, none⟩ = some (.int .i64 0) ∧ X.cell? ⟨w3.heap.size + 1, 1, none⟩ = some (.int .i64 0)) 12 [0, 1, 2, 3, 4, 5, 6, 7, 8, 9] [10, 11] (by kernel_rfl) (by kernel_rfl) (fun _ _ _ d _ h => by cases d <;> exact h) ⟨e11, e9, e9', e12, e12'⟩ ?_
  simp only [List.map_cons, List.map_nil, List.getD_cons_zero, List.getD_cons_succ, List.drop_succ_cons, List.drop_zero]
  refine takes_move (.tmp 0) (.pointer (some ⟨a, 0, none⟩)) rfl rfl rfl ?_
  simp only [Act.put, List.setIfInBounds_toArray, List.set_cons_zero, List.set_cons_succ]
  refine takes_by (.agg #[.slice sa sn sc]) rfl (fun X hS => by obtain ⟨s1, s2, s3, s4, s5⟩ := hS; go_simp) ?_
  simp only [Act.put, List.setIfInBounds_toArray, List.set_cons_zero, List.set_cons_succ]
  refine takes_by (.agg #[.int .i64 0, .int .i64 0]) rfl (fun X hS => by obtain ⟨s1, s2, s3, s4, s5⟩ := hS; go_simp) ?_
  simp only [Act.put, List.setIfInBounds_toArray, List.set_cons_zero, List.set_cons_succ]
  refine takes_by (.agg #[.int .i64 0, .int .i64 0]) rfl (fun X hS => by obtain ⟨s1, s2, s3, s4, s5⟩ := hS; go_simp) ?_
  simp only [Act.put, List.setIfInBounds_toArray, List.set_cons_zero, List.set_cons_succ]
  refine takes_by (.bool true) rfl (fun X hS => by go_simp) ?_
  simp only [Act.put, List.setIfInBounds_toArray, List.set_cons_zero, List.set_cons_succ]
  refine takes_move (.tmp 51) (.bool true) rfl rfl rfl ?_
  simp only [Act.put, List.setIfInBounds_toArray, List.set_cons_zero, List.set_cons_succ]
  refine takes_move (.tmp 10) (.int .i64 E) rfl rfl rfl ?_
  simp only [Act.put, List.setIfInBounds_toArray, List.set_cons_zero, List.set_cons_succ]
  refine takes_move (.tmp 13) (.int .i64 E) rfl rfl rfl ?_
  simp only [Act.put, List.setIfInBounds_toArray, List.set_cons_zero, List.set_cons_succ]
  refine takes_by (.bool true) rfl (fun X hS => by go_simp) ?_
  simp only [Act.put, List.setIfInBounds_toArray, List.set_cons_zero, List.set_cons_succ]
  refine takes_by (.bool true) rfl (fun X hS => by go_simp) ?_
  simp only [Act.put, List.setIfInBounds_toArray, List.set_cons_zero, List.set_cons_succ]
  unfold wpTakes
  refine mids_by (.pointer (some ⟨a, 0, none⟩)) rfl (by go_simp) ⟨e11, e9, e9', e12, e12'⟩ ?_
  simp only [Act.put, List.setIfInBounds_toArray, List.set_cons_zero, List.set_cons_succ]
  refine mids_step rfl (fun K hK => ?_)
  go_simp
  refine hK _ _ ?_ ?_
  · refine ⟨?_, ?_, ?_, ?_, ?_⟩ <;> go_simp
  unfold wpMids
  clear hK e11 e9 e9' e12 e12'
  have hq := World.cell?_setCell_same W4 _ (.slice sa sn sc) e7
  go_wp2_with fail
  exact bodyPost_ret (v := .tuple #[.pointer (some ⟨a, 0, none⟩), .agg #[.slice sa sn sc], .bool true]) (by simp [results, Tryd.results15, go_sem, hq]) rfl ⟨a, _, _, _, _, _, rfl, HFIN.out.1, HFIN.out.2, Nat.le_succ _, Nat.le_succ _⟩

set_option maxRecDepth 100000 in
set_option maxHeartbeats 3200000 in
theorem do_exp_never {w0 w : World} {G : Nat → Prop} {a : Nat} {s : Value} {S : List El} {gs : List Nat} {P : Nat} {L : List Tm} (R : PlR w0 G w a s S gs P L) (hl : L.length ≤ 80000) (x1 x2 x3 x4 : Int) (hk : x2 = never) :
    Calls Tryd.prog 15 #[pt a, .agg #[s], .agg #[.int .i64 3, .int .i64 x1, .int .u64 x2, .int .i64 x3, .int .i64 x4]] w (DoR w0 w G P L.length) := by
  subst hk
  have D0 := R.start 3 x1 never x3 x4
  obtain ⟨W, hW⟩ : ∃ W, (((w.alloc (.cells #[s] 51)).alloc (.cells #[.int .i64 3, .int .i64 x1, .int .u64 never, .int .i64 x3, .int .i64 x4] 55)).alloc (.cells #[.slice none 0 0] 51)) = W := ⟨_, rfl⟩
  rw [hW] at D0
  have HW := Lib.hid hW
  have HD := Lib.hid D0
  have HREL := Lib.hid R.rel
  have HT := Lib.hid (texpire_never D0.T)
  have m0 := cells_cell D0.q5 (o := 0) rfl
  have m1 := cells_cell D0.q5 (o := 1) rfl
  have m2 := cells_cell D0.q5 (o := 2) rfl
  have m3 := cells_cell D0.q5 (o := 3) rfl
  have m4 := cells_cell D0.q5 (o := 4) rfl
  have ml := lt_of_block D0.q5
  obtain ⟨sa, sn, sc, rfl⟩ := row_form R.row
  clear D0 R hW
  unfold pt never at *
  go_enter Tryd.func15, Tryd.ntmps15
  go_wp2_with fail
  rw [HW.out]
  go_wp2_with (go_at_call 46; fail)
  refine HT.out.mono ?_
  rintro e w2 ⟨rfl, g2⟩
  have D2 := HD.out.grown g2.below
  have m1 := cells_cell D2.q5 (o := 1) rfl
  have m2 := cells_cell D2.q5 (o := 2) rfl
  have m3 := cells_cell D2.q5 (o := 3) rfl
  have m4 := cells_cell D2.q5 (o := 4) rfl
  have ml := lt_of_block D2.q5
  have k4 := cells_cell D2.q4 (o := 0) rfl
  have k4l := lt_of_block D2.q4
  have HD2 := Lib.hid D2
  have hms := Lib.hid (mexpire_never (D2.row.mono (Nat.zero_le _)) (by omega))
  clear HT HD D2 g2
  go_wp2_with (go_at_call 52; fail)
  refine hms.out.mono ?_
  rintro e1 w3 ⟨s', rfl, hr3, hb3⟩
  obtain ⟨va, vn, vc, rfl⟩ := row_form hr3
  obtain ⟨W4, hW4⟩ : ∃ W4, (w3.alloc (.cells #[.slice va vn vc] 51)) = W4 := ⟨_, rfl⟩
  have hbA : Below w3.heap.size w3 W4 := by rw [← hW4]; exact (Below.refl _ _).alloc (Nat.le_refl _) _
  have hb4 : Below w2.heap.size w2 W4 := hb3.trans (hbA.mono hb3.size)
  have r11 : W4.heap[w3.heap.size]? = some (.cells #[.slice va vn vc] 51 (0, 0)) := by rw [← hW4]; exact block_new _ _ _ rfl
  have D4 := HD2.out.grown hb4
  have hr4 : RowM W4 w2.heap.size (.slice va vn vc) _ := RowM.below hr3 hbA
  have HFIN := Lib.hid (fun X (hX : Below W4.heap.size W4 X) => HD2.out.fin (w3 := X) (hb4.trans (hX.mono hb4.size)) (hr4.below hX) HREL.out)
  have e11 := cells_cell r11 (o := 0) rfl
  have e7 : W4.cell? ⟨w.heap.size + 1 + 1, 0, none⟩ = some (.slice none 0 0) := cells_cell D4.q7 (o := 0) rfl
  have f7 : W4.frozen? ⟨w.heap.size + 1 + 1, 0, none⟩ = false := cells_free D4.q7 0
  have l7 : w.heap.size + 1 + 1 < W4.heap.size := lt_of_block D4.q7
  have l11 := lt_of_block r11
  have n3 : ¬ w3.heap.size = w.heap.size + 1 + 1 := by have := HD2.out.ws; have := hb3.size; omega
  have HW4 := Lib.hid hW4
  have HVA : Hid (RowD W4.drew 0 (.slice none 0 0) []) := Lib.hid ⟨rfl, .inl ⟨rfl, rfl⟩⟩
  have HVB : Hid (RowD W4.drew 0 (.slice none 0 0) []) := Lib.hid ⟨rfl, .inl ⟨rfl, rfl⟩⟩
  clear D4 hb3 hb4 hbA r11 hW4 hms HD2 hr3 hr4 m1 m2 m3 m4 ml k4 k4l
  go_wp2_with fail
  rw [HW4.out]
  refine wp_region_float (fun X => X.cell? ⟨w3.heap.size, 0, none⟩ = some (.slice va vn vc)) 7 [0, 1, 2, 3] [4, 5, 6] (by kernel_rfl) (by kernel_rfl) (fun _ _ _ d _ h => by cases d <;> exact h) e11 ?_
  simp only [List.map_cons, List.map_nil, List.getD_cons_zero, List.getD_cons_succ, List.drop_succ_cons, List.drop_zero]
  refine takes_move (.tmp 0) (.pointer (some ⟨a, 0, none⟩)) rfl rfl rfl ?_
  simp only [Act.put, List.setIfInBounds_toArray, List.set_cons_zero, List.set_cons_succ]
  refine takes_by (.agg #[.slice va vn vc]) rfl (fun X hS => by have s1 : X.cell? _ = _ := hS; go_simp) ?_
  simp only [Act.put, List.setIfInBounds_toArray, List.set_cons_zero, List.set_cons_succ]
  refine takes_move (.tmp 20) (.slice none 0 0) rfl rfl rfl ?_
  simp only [Act.put, List.setIfInBounds_toArray, List.set_cons_zero, List.set_cons_succ]
  refine takes_move (.tmp 22) (.slice none 0 0) rfl rfl rfl ?_
  simp only [Act.put, List.setIfInBounds_toArray, List.set_cons_zero, List.set_cons_succ]
  unfold wpTakes
  refine mids_step rfl (fun K hK => ?_)
  go_simp
  go_at_call 47
  refine (tsame_any HVA.out HVB.out (by simp)).mono ?_
  rintro e5 w5 ⟨rfl, n5, rfl⟩
  refine hK _ _ ?_ ?_
  · show World.cell? (World.drewN _ n5) _ = _
    simpa using e11
  refine mids_by (.pointer (some ⟨a, 0, none⟩)) rfl (by go_simp) e11 ?_
  simp only [Act.put, List.setIfInBounds_toArray, List.set_cons_zero, List.set_cons_succ]
  refine mids_step rfl (fun K hK => ?_)
  go_simp
  refine hK _ _ ?_ ?_
  · go_simp
  unfold wpMids
  clear hK e11
  have hX : Below W4.heap.size W4 (W4.drewN (1 + n5)) := ((fr_drewN W4 (1 + n5) []).below (fun _ hx => by simp at hx) (Nat.le_refl _))
  have e7x : (W4.drewN (1 + n5)).cell? ⟨w.heap.size + 1 + 1, 0, none⟩ = some (.slice none 0 0) := by simpa using e7
  have hq := World.cell?_setCell_same (W4.drewN (1 + n5)) _ (.slice va vn vc) e7x
  have HFINX := HFIN.out _ hX
  go_wp2_with fail
  exact bodyPost_ret (v := .tuple #[.pointer (some ⟨a, 0, none⟩), .agg #[.slice va vn vc], .bool true]) (by simp [results, Tryd.results15, go_sem, hq]) rfl ⟨a, _, _, _, _, _, rfl, HFINX.1, HFINX.2, Nat.le_succ _, by omega⟩

set_option maxRecDepth 100000 in
set_option maxHeartbeats 3200000 in
theorem do_exp_any {w0 w : World} {G : Nat → Prop} {a : Nat} {s : Value} {S : List El} {gs : List Nat} {P : Nat} {L : List Tm} (R : PlR w0 G w a s S gs P L) (hl : L.length ≤ 80000) (hP : P ≤ 80000) (x1 x2 x3 x4 : Int) (hk : x2 ≠ never) (hk2 : x2 < never) :
    Calls Tryd.prog 15 #[pt a, .agg #[s], .agg #[.int .i64 3, .int .i64 x1, .int .u64 x2, .int .i64 x3, .int .i64 x4]] w (DoR w0 w G P L.length) := by
  have D0 := R.start 3 x1 x2 x3 x4
  obtain ⟨W, hW⟩ : ∃ W, (((w.alloc (.cells #[s] 51)).alloc (.cells #[.int .i64 3, .int .i64 x1, .int .u64 x2, .int .i64 x3, .int .i64 x4] 55)).alloc (.cells #[.slice none 0 0] 51)) = W := ⟨_, rfl⟩
  rw [hW] at D0
  have HW := Lib.hid hW
  have HD := Lib.hid D0
  have HREL := Lib.hid R.rel
  have HT := Lib.hid (texpire_any D0.T x2 hk (by omega))
  have HND := Lib.hid D0.T.nodup
  have HLT := Lib.hid D0.T.p.lt
  have HK := Lib.hid hk2
  have HSL := Lib.hid D0.T.len_le
  have m0 := cells_cell D0.q5 (o := 0) rfl
  have m1 := cells_cell D0.q5 (o := 1) rfl
  have m2 := cells_cell D0.q5 (o := 2) rfl
  have m3 := cells_cell D0.q5 (o := 3) rfl
  have m4 := cells_cell D0.q5 (o := 4) rfl
  have ml := lt_of_block D0.q5
  obtain ⟨sa, sn, sc, rfl⟩ := row_form R.row
  clear D0 R hW hk hk2
  unfold pt at *
  go_enter Tryd.func15, Tryd.ntmps15
  go_wp2_with fail
  rw [HW.out]
  go_wp2_with (go_at_call 46; fail)
  refine HT.out.mono ?_
  rintro e w2 ⟨v, rfl, hv, T2, K2, _, hs2⟩
  have D2 := HD.out.after (T2.less (fun k hk => .inl hk)) K2
  have m1 := cells_cell D2.q5 (o := 1) rfl
  have m2 := cells_cell D2.q5 (o := 2) rfl
  have m3 := cells_cell D2.q5 (o := 3) rfl
  have m4 := cells_cell D2.q5 (o := 4) rfl
  have ml := lt_of_block D2.q5
  have k4 := cells_cell D2.q4 (o := 0) rfl
  have k4l := lt_of_block D2.q4
  have HD2 := Lib.hid D2
  have hms := Lib.hid (mexpire_any (D2.row.mono (Nat.zero_le _)) (by omega) HREL.out HND.out HLT.out x2 HK.out)
  have HV := Lib.hid hv
  clear HT HD D2 T2 K2 hv
  go_wp2_with (go_at_call 52; fail)
  refine hms.out.mono ?_
  rintro e1 w3 ⟨s', v3, L', rfl, hr3, hv3, hrel3, hlen3, hb3⟩
  have HV3 := Lib.hid hv3
  have HREL3 := Lib.hid hrel3
  obtain ⟨va, vn, vc, rfl⟩ := row_form hr3
  obtain ⟨W4, hW4⟩ : ∃ W4, (w3.alloc (.cells #[.slice va vn vc] 51)) = W4 := ⟨_, rfl⟩
  have hbA : Below w3.heap.size w3 W4 := by rw [← hW4]; exact (Below.refl _ _).alloc (Nat.le_refl _) _
  have hb4 : Below w2.heap.size w2 W4 := hb3.trans (hbA.mono hb3.size)
  have r11 : W4.heap[w3.heap.size]? = some (.cells #[.slice va vn vc] 51 (0, 0)) := by rw [← hW4]; exact block_new _ _ _ rfl
  have D4 := HD2.out.grown hb4
  have hr4 : RowM W4 w2.heap.size (.slice va vn vc) _ := RowM.below hr3 hbA
  have HFIN := Lib.hid (fun X (hX : Below W4.heap.size W4 X) => HD2.out.fin (w3 := X) (hb4.trans (hX.mono hb4.size)) (hr4.below hX) HREL3.out)
  have e11 := cells_cell r11 (o := 0) rfl
  have e7 : W4.cell? ⟨w.heap.size + 1 + 1, 0, none⟩ = some (.slice none 0 0) := cells_cell D4.q7 (o := 0) rfl
  have f7 : W4.frozen? ⟨w.heap.size + 1 + 1, 0, none⟩ = false := cells_free D4.q7 0
  have l7 : w.heap.size + 1 + 1 < W4.heap.size := lt_of_block D4.q7
  have l11 := lt_of_block r11
  have n3 : ¬ w3.heap.size = w.heap.size + 1 + 1 := by have := HD2.out.ws; have := hb3.size; omega
  have HW4 := Lib.hid hW4
  have HVA : Hid (RowD W4.drew 0 v (expS x2 S gs).1) := Lib.hid ((HV.out.mono (Nat.zero_le _)).below hb4.drew)
  have HVB : Hid (RowD W4.drew 0 v3 (expS x2 S gs).1) := Lib.hid ((HV3.out.mono (Nat.zero_le _)).below hbA.drew)
  clear D4 hb3 hb4 hbA r11 hW4 hms HD2 hr3 hr4 hrel3 hv3 m1 m2 m3 m4 ml k4 k4l
  go_wp2_with fail
  rw [HW4.out]
  refine wp_region_float (fun X => X.cell? ⟨w3.heap.size, 0, none⟩ = some (.slice va vn vc)) 7 [0, 1, 2, 3] [4, 5, 6] (by kernel_rfl) (by kernel_rfl) (fun _ _ _ d _ h => by cases d <;> exact h) e11 ?_
  simp only [List.map_cons, List.map_nil, List.getD_cons_zero, List.getD_cons_succ, List.drop_succ_cons, List.drop_zero]
  refine takes_move (.tmp 0) (.pointer (some ⟨a, 0, none⟩)) rfl rfl rfl ?_
  simp only [Act.put, List.setIfInBounds_toArray, List.set_cons_zero, List.set_cons_succ]
  refine takes_by (.agg #[.slice va vn vc]) rfl (fun X hS => by have s1 : X.cell? _ = _ := hS; go_simp) ?_
  simp only [Act.put, List.setIfInBounds_toArray, List.set_cons_zero, List.set_cons_succ]
  refine takes_move (.tmp 20) v rfl rfl rfl ?_
  simp only [Act.put, List.setIfInBounds_toArray, List.set_cons_zero, List.set_cons_succ]
  refine takes_move (.tmp 22) v3 rfl rfl rfl ?_
  simp only [Act.put, List.setIfInBounds_toArray, List.set_cons_zero, List.set_cons_succ]
  unfold wpTakes
  refine mids_step rfl (fun K hK => ?_)
  go_simp
  go_at_call 47
  refine (tsame_any HVA.out HVB.out (by have := (expS_len S.length x2 S gs rfl).1; have := HSL.out; omega)).mono ?_
  rintro e5 w5 ⟨rfl, n5, rfl⟩
  refine hK _ _ ?_ ?_
  · show World.cell? (World.drewN _ n5) _ = _
    simpa using e11
  refine mids_by (.pointer (some ⟨a, 0, none⟩)) rfl (by go_simp) e11 ?_
  simp only [Act.put, List.setIfInBounds_toArray, List.set_cons_zero, List.set_cons_succ]
  refine mids_step rfl (fun K hK => ?_)
  go_simp
  refine hK _ _ ?_ ?_
  · go_simp
  unfold wpMids
  clear hK e11
  have hX : Below W4.heap.size W4 (W4.drewN (1 + n5)) := ((fr_drewN W4 (1 + n5) []).below (fun _ hx => by simp at hx) (Nat.le_refl _))
  have e7x : (W4.drewN (1 + n5)).cell? ⟨w.heap.size + 1 + 1, 0, none⟩ = some (.slice none 0 0) := by simpa using e7
  have hq := World.cell?_setCell_same (W4.drewN (1 + n5)) _ (.slice va vn vc) e7x
  have HFINX := HFIN.out _ hX
  go_wp2_with fail
  exact bodyPost_ret (v := .tuple #[.pointer (some ⟨a, 0, none⟩), .agg #[.slice va vn vc], .bool true]) (by simp [results, Tryd.results15, go_sem, hq]) rfl ⟨a, _, _, _, _, _, rfl, HFINX.1, HFINX.2, Nat.le_succ _, by omega⟩

end Go.Proofs.YthlbnlbkgiclpaaDoor
