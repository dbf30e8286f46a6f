/- TimerPlays: do, Set. -/
import Derived.Test.YthlbnlbkgiclpaaDoorPGets
namespace Go.Proofs.YthlbnlbkgiclpaaDoor
open Go.RowKit Go.Sort
set_option linter.unusedVariables false
set_option linter.unusedSimpArgs false

/-- What do returns. -/
def DoR (w0 w : World) (G : Nat → Prop) (P n : Nat) (e : Ending) (w' : World) : Prop := ∃ a' s' S' gs' P' L', e = .returned (.tuple #[pt a', .agg #[s'], .bool true]) ∧ PlR w0 G w' a' s' S' gs' P' L' ∧ Keep G w w' ∧ P' ≤ P + 1 ∧ L'.length ≤ n + 1

set_option maxRecDepth 100000 in
set_option maxHeartbeats 3200000 in
theorem do_set_ok {w0 w : World} {G : Nat → Prop} {a : Nat} {s : Value} {S : List El} {gs : List Nat} {P : Nat} {L : List Tm} (R : PlR w0 G w a s S gs P L) (hl : L.length ≤ 80000) (hP : P ≤ 80000) (hT : Tab w0) (x1 x2 x3 x4 : Int) (hk : x2 ≠ never) (hS : S.length < 1024) :
    Calls Tryd.prog 15 #[pt a, .agg #[s], .agg #[.int .i64 0, .int .i64 x1, .int .u64 x2, .int .i64 x3, .int .i64 x4]] w (DoR w0 w G P L.length) := by
  have D0 := R.start 0 x1 x2 x3 x4
  obtain ⟨W, hW⟩ : ∃ W, (((w.alloc (.cells #[s] 51)).alloc (.cells #[.int .i64 0, .int .i64 x1, .int .u64 x2, .int .i64 x3, .int .i64 x4] 55)).alloc (.cells #[.slice none 0 0] 51)) = W := ⟨_, rfl⟩
  rw [hW] at D0
  have HW := Lib.hid hW
  have HD := Lib.hid D0
  have HREL := Lib.hid R.rel
  have hset := tset_any D0.T x2 x1 hk hS hT (by omega)
  obtain ⟨l, hll⟩ : ∃ l, l = lowOf (hsOf S) := ⟨_, rfl⟩
  obtain ⟨z, hz⟩ : ∃ z, z = gs.getD l 0 := ⟨_, rfl⟩
  rw [← hll, ← hz] at hset
  have HSet := Lib.hid hset
  have hnum : Hid (lowOf (numsM L) = l ∧ (ofN L (l : Nat)).length = z) := Lib.hid (by
    refine ⟨by rw [R.rel.nums, hll], ?_⟩
    have h1 := R.rel.cnt l
    have hlow : l ∉ hsOf S := by
      obtain ⟨l', h1, h2, _⟩ := low_ex (hsOf S)
      rw [hll, lowOf_eq h1 h2]; exact h1
    rw [if_neg hlow] at h1
    rw [hz]; omega)
  have HAl : Hid ((alive L).length < 1024) := Lib.hid (by rw [R.rel.len]; exact hS)
  have i5 := D0.q5
  have m0 := cells_cell i5 (o := 0) rfl
  have m1 := cells_cell i5 (o := 1) rfl
  have m2 := cells_cell i5 (o := 2) rfl
  have ml := lt_of_block i5
  have hls := row_form R.row
  obtain ⟨sa, sn, sc, rfl⟩ := hls
  have HK := Lib.hid hk
  have HLL := Lib.hid hll
  clear D0 R hset hll hz hW i5 hk
  unfold pt at *
  go_enter Tryd.func15, Tryd.ntmps15
  go_wp2_with fail
  rw [HW.out]
  go_wp2_with (go_at_call 44; fail)
  refine HSet.out.mono ?_
  rintro e w2 ⟨rfl, T2, K2⟩
  have D2 := HD.out.after T2 K2
  have m1 := cells_cell D2.q5 (o := 1) rfl
  have m2 := cells_cell D2.q5 (o := 2) rfl
  have ml := lt_of_block D2.q5
  have m4 := cells_cell D2.q4 (o := 0) rfl
  have m4l := lt_of_block D2.q4
  have hms := Lib.hid (mset_any (w := w2.alloc (.cells #[.int .i64 l, .int .i64 z] 53)) ((D2.row.below ((Below.refl _ _).alloc (Nat.le_refl _) _)).mono (Nat.zero_le _)) (by omega) HAl.out x2 x1 HK.out)
  have HD2 := Lib.hid D2
  clear HSet HD D2 T2 K2
  go_wp2_with (go_at_call 49; fail)
  refine hms.out.mono ?_
  rintro e w3 ⟨s', rfl, hr3, hb3⟩
  rw [hnum.out.1, hnum.out.2]
  have hA9 : Below w2.heap.size w2 (w2.alloc (.cells #[.int .i64 l, .int .i64 z] 53)) := (Below.refl _ _).alloc (Nat.le_refl _) _
  have hb3' : Below w2.heap.size w2 w3 := hA9.trans (hb3.mono hA9.size)
  have r9 : w3.heap[w2.heap.size]? = some (.cells #[.int .i64 l, .int .i64 z] 53 (0, 0)) := (hb3.block _ (by simp)).trans (block_new _ _ _ rfl)
  have D3 := HD2.out.grown hb3'
  obtain ⟨va, vn, vc, rfl⟩ := row_form hr3
  obtain ⟨W4, hW4⟩ : ∃ W4, (w3.alloc (.cells #[.slice va vn vc] 51)).alloc (.cells #[.int .i64 l, .int .i64 z] 53) = W4 := ⟨_, rfl⟩
  have hb4 : Below w3.heap.size w3 W4 := by rw [← hW4]; exact ((Below.refl _ _).alloc (Nat.le_refl _) _).alloc (by simp) _
  have r11 : W4.heap[w3.heap.size]? = some (.cells #[.slice va vn vc] 51 (0, 0)) := by rw [← hW4]; exact (fr_alloc _ _ []).same (block_new _ _ _ rfl) (by simp)
  have r12 : W4.heap[w3.heap.size + 1]? = some (.cells #[.int .i64 l, .int .i64 z] 53 (0, 0)) := by rw [← hW4]; exact block_new _ _ _ (by simp)
  have r9' := (hb4.block _ (lt_of_block r9)).trans r9
  have D4 := D3.grown hb4
  have HFIN := Lib.hid (HD2.out.fin (w3 := W4.drew) ((hb3'.trans (hb4.mono hb3'.size)).drew) ((RowM.below hr3 hb4.drew).mono (by simp)) (by
    have h1 := rel_set HREL.out x2 x1
    rw [← HLL.out] at h1
    exact h1))
  have e11 := cells_cell r11 (o := 0) rfl
  have e9 := cells_cell r9' (o := 0) rfl
  have e9' := cells_cell r9' (o := 1) rfl
  have e12 := cells_cell r12 (o := 0) rfl
  have e12' := cells_cell r12 (o := 1) rfl
  have e7 : W4.cell? ⟨w.heap.size + 1 + 1, 0, none⟩ = some (.slice none 0 0) := cells_cell D4.q7 (o := 0) rfl
  have f7 : W4.frozen? ⟨w.heap.size + 1 + 1, 0, none⟩ = false := cells_free D4.q7 0
  have l7 : w.heap.size + 1 + 1 < W4.heap.size := lt_of_block D4.q7
  have n2 : ¬ w2.heap.size = w.heap.size + 1 + 1 := by have := HD2.out.ws; omega
  have n3 : ¬ w3.heap.size = w.heap.size + 1 + 1 := by have := HD2.out.ws; have := hb3'.size; omega
  have n4 : ¬ w3.heap.size = w.heap.size + 1 := by have := HD2.out.ws; have := hb3'.size; omega
  have l11 := lt_of_block r11
  have l9 := lt_of_block r9'
  have l12 := lt_of_block r12
  have HW4 := Lib.hid hW4
  have hlz : ((l : Int) == (l : Int)) = true := by simp
  have hzz : ((z : Int) == (z : Int)) = true := by simp
  have hlen : Hid ((setM L x2 x1).length ≤ L.length + 1) := Lib.hid (by simp [setM])
  clear D3 D4 hb3 hb3' hb4 hr3 hA9 r9 r11 r12 r9' hW4 hms HD2 m1 m2 ml m4 m4l
  go_wp2_with fail
  rw [HW4.out]
  refine wp_region_float (fun X => X.cell? ⟨w3.heap.size, 0, none⟩ = some (.slice va vn vc) ∧ X.cell? ⟨w2.heap.size, 0, none⟩ = some (.int .i64 l) ∧ X.cell? ⟨w2.heap.size, 1, none⟩ = some (.int .i64 z) ∧ X.cell? ⟨w3.heap.size + 1, 0, none⟩ = some (.int .i64 l) ∧ X.cell? ⟨w3.heap.size + 1, 1, none⟩ = some (.int .i64 z)) 12 [0, 1, 2, 3, 4, 5, 6, 7, 8, 9] [10, 11] (by kernel_rfl) (by kernel_rfl) (fun _ _ _ d _ h => by cases d <;> exact h) ⟨e11, e9, e9', e12, e12'⟩ ?_
  simp only [List.map_cons, List.map_nil, List.getD_cons_zero, List.getD_cons_succ, List.drop_succ_cons, List.drop_zero]
  refine takes_move (.tmp 0) (.pointer (some ⟨a, 0, none⟩)) rfl rfl rfl ?_
  simp only [Act.put, List.setIfInBounds_toArray, List.set_cons_zero, List.set_cons_succ]
  refine takes_by (.agg #[.slice va vn vc]) rfl (fun X hS => by obtain ⟨s1, s2, s3, s4, s5⟩ := hS; go_simp) ?_
  simp only [Act.put, List.setIfInBounds_toArray, List.set_cons_zero, List.set_cons_succ]
  refine takes_by (.agg #[.int .i64 l, .int .i64 z]) rfl (fun X hS => by obtain ⟨s1, s2, s3, s4, s5⟩ := hS; go_simp) ?_
  simp only [Act.put, List.setIfInBounds_toArray, List.set_cons_zero, List.set_cons_succ]
  refine takes_by (.agg #[.int .i64 l, .int .i64 z]) rfl (fun X hS => by obtain ⟨s1, s2, s3, s4, s5⟩ := hS; go_simp) ?_
  simp only [Act.put, List.setIfInBounds_toArray, List.set_cons_zero, List.set_cons_succ]
  refine takes_by (.bool true) rfl (fun X hS => by go_simp) ?_
  simp only [Act.put, List.setIfInBounds_toArray, List.set_cons_zero, List.set_cons_succ]
  refine takes_move (.tmp 51) (.bool true) rfl rfl rfl ?_
  simp only [Act.put, List.setIfInBounds_toArray, List.set_cons_zero, List.set_cons_succ]
  refine takes_move (.tmp 10) (.int .i64 0) rfl rfl rfl ?_
  simp only [Act.put, List.setIfInBounds_toArray, List.set_cons_zero, List.set_cons_succ]
  refine takes_move (.tmp 13) (.int .i64 0) rfl rfl rfl ?_
  simp only [Act.put, List.setIfInBounds_toArray, List.set_cons_zero, List.set_cons_succ]
  refine takes_by (.bool true) rfl (fun X hS => by go_simp) ?_
  simp only [Act.put, List.setIfInBounds_toArray, List.set_cons_zero, List.set_cons_succ]
  refine takes_by (.bool true) rfl (fun X hS => by go_simp) ?_
  simp only [Act.put, List.setIfInBounds_toArray, List.set_cons_zero, List.set_cons_succ]
  unfold wpTakes
  refine mids_by (.pointer (some ⟨a, 0, none⟩)) rfl (by go_simp) ⟨e11, e9, e9', e12, e12'⟩ ?_
  simp only [Act.put, List.setIfInBounds_toArray, List.set_cons_zero, List.set_cons_succ]
  refine mids_step rfl (fun K hK => ?_)
  go_simp
  refine hK _ _ ?_ ?_
  · refine ⟨?_, ?_, ?_, ?_, ?_⟩ <;> go_simp
  unfold wpMids
  clear hK e11 e9 e9' e12 e12'
  have hq := World.cell?_setCell_same W4 _ (.slice va vn vc) e7
  go_wp2_with fail
  exact bodyPost_ret (v := .tuple #[.pointer (some ⟨a, 0, none⟩), .agg #[.slice va vn vc], .bool true]) (by simp [results, Tryd.results15, go_sem, hq]) rfl ⟨a, _, _, _, _, _, rfl, HFIN.out.1, HFIN.out.2, Nat.le_refl _, hlen.out⟩
end Go.Proofs.YthlbnlbkgiclpaaDoor
