/- Calls of a lot that is nil or zero. -/
import Derived.Test.YtcdimopiaanfbaaDoorPCopy
namespace Go.Proofs.YtcdimopiaanfbaaDoor
open Go.RowKit Go.Sort Go.MapKept
set_option linter.unusedVariables false
set_option linter.unusedSimpArgs false

section
variable {w : World} {v : Value}
theorem pkLen_nil (h : NoL w v) : Calls Tryd.prog 25 #[v] w fun e w' => e = .returned (.int .i64 0) ∧ w' = w := by
  have ht := Lib.hid (pkTable_no h)
  have hu := Lib.hid (tkLen_nil (noK_nil w))
  obtain ⟨a, rfl⟩ := h.form
  clear h
  go_enter Tryd.func25, Tryd.ntmps25
  go_wp2_with (first | (go_at_call 42; refine ht.out.mono ?_; rintro e w2 ⟨rfl, rfl⟩) | (go_at_call 57; refine hu.out.mono ?_; rintro e w2 ⟨rfl, rfl⟩))
  go_ret
  exact ⟨rfl, rfl⟩
theorem pkReady_nil (h : NoL w v) : Calls Tryd.prog 13 #[v] w fun e w' => e = .returned (.slice none 0 0) ∧ w' = w := by
  have ht := Lib.hid (pkTable_no h)
  have hu := Lib.hid (tkReady_nil (noK_nil w))
  obtain ⟨a, rfl⟩ := h.form
  clear h
  go_enter Tryd.func13, Tryd.ntmps13
  go_wp2_with (first | (go_at_call 42; refine ht.out.mono ?_; rintro e w2 ⟨rfl, rfl⟩) | (go_at_call 43; refine hu.out.mono ?_; rintro e w2 ⟨rfl, rfl⟩))
  go_ret
  exact ⟨rfl, rfl⟩
theorem pkCopy_nil (h : NoL w v) : Calls Tryd.prog 26 #[v] w fun e w' => e = .returned (.pointer none) ∧ w' = w := by
  have ht := Lib.hid (pkTable_no h)
  obtain ⟨a, rfl⟩ := h.form
  clear h
  go_enter Tryd.func26, Tryd.ntmps26
  go_wp2_with (go_at_call 42; refine ht.out.mono ?_; rintro e w2 ⟨rfl, rfl⟩)
  go_ret
  exact ⟨rfl, rfl⟩
theorem pkState_nil (h : NoL w v) (N : Int) : Calls Tryd.prog 20 #[v, .int .i64 N] w fun e w' => e = .returned (.tuple #[.int .i64 0, .int .i64 1]) ∧ w' = w := by
  have ht := Lib.hid (pkTable_no h)
  have hu := Lib.hid (tkState_nil (noK_nil w) N)
  obtain ⟨a, rfl⟩ := h.form
  clear h
  go_enter Tryd.func20, Tryd.ntmps20
  go_wp2_with (first | (go_at_call 42; refine ht.out.mono ?_; rintro e w2 ⟨rfl, rfl⟩) | (go_at_call 50; refine hu.out.mono ?_; rintro e w2 ⟨rfl, rfl⟩))
  go_ret2
  exact ⟨rfl, rfl⟩
theorem pkWhere_nil (h : NoL w v) (N : Int) : Calls Tryd.prog 19 #[v, .int .i64 N] w fun e w' => e = .returned (.tuple #[.agg #[.int .i64 0, .int .i64 0], .int .i64 1]) ∧ Grn w w' := by
  have hu := Lib.hid (pkState_nil (h.grown (below_alloc w (.cells #[.int .i64 0, .int .i64 0] 38))) N)
  obtain ⟨a, rfl⟩ := h.form
  clear h
  go_enter Tryd.func19, Tryd.ntmps19
  go_wp2_with (go_at_call 20; refine hu.out.mono ?_; rintro e w2 ⟨rfl, rfl⟩)
  refine bodyPost_ret (v := .tuple #[.agg #[.int .i64 0, .int .i64 0], .int .i64 1]) (by simp [results, Tryd.results19, go_sem]) rfl ?_
  exact ⟨rfl, (Grn.refl w).alloc _⟩
theorem pkLeave_nil (h : NoL w v) (N : Int) : Calls Tryd.prog 18 #[v, .int .i64 N] w fun e w' => e = .returned (.tuple #[.agg #[.int .i64 0, .int .i64 0], .int .i64 1]) ∧ Grn w w' := by
  have hw := Lib.hid (pkWhere_nil (h.grown (below_alloc w (.cells #[.int .i64 0, .int .i64 0] 38))) N)
  have HX0 := Lib.hid (block_new w (.cells #[.int .i64 0, .int .i64 0] 38) _ rfl)
  obtain ⟨a, rfl⟩ := h.form
  clear h
  go_enter Tryd.func18, Tryd.ntmps18
  go_wp2_with (go_at_call 19; fail)
  refine hw.out.mono ?_
  rintro e w1 ⟨rfl, hg1⟩
  have hx1 := (hg1.below.block _ (lt_of_block HX0.out)).trans HX0.out
  have x0 := cells_cell (o := 0) hx1 rfl
  have x1 := cells_cell (o := 1) hx1 rfl
  have f0 := cells_free hx1 0
  have f1 := cells_free hx1 1
  have xl := lt_of_block hx1
  have hx3 := cells_set (cells_set hx1 0 (.int .i64 0)) 1 (.int .i64 0)
  have hx2 := ((below_alloc _ (.cells #[.int .i64 0, .int .i64 0] 38)).block _ (lt_of_block hx3)).trans hx3
  have HX2 := Lib.hid hx2
  have HG := Lib.hid ((((((Grn.refl w).alloc (.cells #[.int .i64 0, .int .i64 0] 38)).trans hg1).set ⟨w.heap.size, 0, none⟩ (.int .i64 0) (Nat.le_refl _)).set ⟨w.heap.size, 1, none⟩ (.int .i64 0) (Nat.le_refl _)).alloc (.cells #[.int .i64 0, .int .i64 0] 38))
  clear hx1 hx2 hx3 hg1 hw HX0
  generalize hzz : w.heap.size = zz at *
  clear hzz
  go_wp2_with fail
  have hx2 := HX2.out
  simp at hx2
  refine bodyPost_ret (v := .tuple #[.agg #[.int .i64 0, .int .i64 0], .int .i64 1]) (by simp [results, Tryd.results18, go_sem, cells_cell (o := 0) hx2 rfl, cells_cell (o := 1) hx2 rfl]) rfl ?_
  exact ⟨rfl, HG.out⟩
theorem pkStart_nil (h : NoL w v) (N : Int) : Calls Tryd.prog 21 #[v, .int .i64 N] w fun e w' => e = .returned (.int .i64 1) ∧ w' = w := by
  have ht := Lib.hid (pkTable_no h)
  have hu := Lib.hid (tkStart_nil (noK_nil w) N)
  obtain ⟨a, rfl⟩ := h.form
  clear h
  go_enter Tryd.func21, Tryd.ntmps21
  go_wp2_with (first | (go_at_call 42; refine ht.out.mono ?_; rintro e w2 ⟨rfl, rfl⟩) | (go_at_call 51; refine hu.out.mono ?_; rintro e w2 ⟨rfl, rfl⟩))
  go_ret
  exact ⟨rfl, rfl⟩
theorem pkFinish_nil (h : NoL w v) (N : Int) : Calls Tryd.prog 22 #[v, .int .i64 N] w fun e w' => e = .returned (.int .i64 1) ∧ w' = w := by
  have ht := Lib.hid (pkTable_no h)
  have hu := Lib.hid (tkFinish_nil (noK_nil w) N)
  obtain ⟨a, rfl⟩ := h.form
  clear h
  go_enter Tryd.func22, Tryd.ntmps22
  go_wp2_with (first | (go_at_call 42; refine ht.out.mono ?_; rintro e w2 ⟨rfl, rfl⟩) | (go_at_call 52; refine hu.out.mono ?_; rintro e w2 ⟨rfl, rfl⟩))
  go_ret
  exact ⟨rfl, rfl⟩
theorem pkTurn_nil (h : NoL w v) (N : Int) : Calls Tryd.prog 23 #[v, .int .i64 N] w fun e w' => e = .returned (.int .i64 1) ∧ w' = w := by
  have ht := Lib.hid (pkTable_no h)
  have hu := Lib.hid (tkTurn_nil (noK_nil w) N)
  obtain ⟨a, rfl⟩ := h.form
  clear h
  go_enter Tryd.func23, Tryd.ntmps23
  go_wp2_with (first | (go_at_call 42; refine ht.out.mono ?_; rintro e w2 ⟨rfl, rfl⟩) | (go_at_call 53; refine hu.out.mono ?_; rintro e w2 ⟨rfl, rfl⟩))
  go_ret
  exact ⟨rfl, rfl⟩
theorem pkPark_nil (h : NoL w v) (N : Int) (s : Sp) : Calls Tryd.prog 24 #[v, .int .i64 N, .agg #[.int .i64 s.1, .int .i64 s.2]] w fun e w' => e = .returned (.int .i64 1) ∧ Grn w w' := by
  have hq := Lib.hid (pkQueue_nil (h.grown (below_alloc w (.cells #[.int .i64 s.1, .int .i64 s.2] 38))) s)
  obtain ⟨a, rfl⟩ := h.form
  clear h
  generalize s.1 = sa at *
  generalize s.2 = sb at *
  go_enter Tryd.func24, Tryd.ntmps24
  go_wp2_with (go_at_call 44; refine hq.out.mono ?_; rintro e w2 ⟨rfl, hg⟩)
  go_ret
  exact ⟨rfl, ((Grn.refl w).alloc _).trans hg⟩
theorem pkWake_nil (h : NoL w v) (s : Sp) : Calls Tryd.prog 16 #[v, .agg #[.int .i64 s.1, .int .i64 s.2]] w fun e w' => e = .returned (.tuple #[.int .i64 0, .int .i64 1]) ∧ Grn w w' := by
  have hq := Lib.hid (pkQueue_nil (h.grown (below_alloc w (.cells #[.int .i64 s.1, .int .i64 s.2] 38))) s)
  obtain ⟨a, rfl⟩ := h.form
  clear h
  generalize s.1 = sa at *
  generalize s.2 = sb at *
  go_enter Tryd.func16, Tryd.ntmps16
  go_wp2_with (go_at_call 44; refine hq.out.mono ?_; rintro e w2 ⟨rfl, hg⟩)
  go_ret2
  exact ⟨rfl, ((Grn.refl w).alloc _).trans hg⟩
theorem pkWaiting_nil (h : NoL w v) (s : Sp) : Calls Tryd.prog 14 #[v, .agg #[.int .i64 s.1, .int .i64 s.2]] w fun e w' => e = .returned (.tuple #[.slice none 0 0, .int .i64 1]) ∧ Grn w w' := by
  have hq := Lib.hid (pkQueue_nil (h.grown (below_alloc w (.cells #[.int .i64 s.1, .int .i64 s.2] 38))) s)
  obtain ⟨a, rfl⟩ := h.form
  clear h
  generalize s.1 = sa at *
  generalize s.2 = sb at *
  go_enter Tryd.func14, Tryd.ntmps14
  go_wp2_with (go_at_call 44; refine hq.out.mono ?_; rintro e w2 ⟨rfl, hg⟩)
  go_ret2
  exact ⟨rfl, ((Grn.refl w).alloc _).trans hg⟩
theorem pkWakeAll_nil (h : NoL w v) (s : Sp) : Calls Tryd.prog 17 #[v, .agg #[.int .i64 s.1, .int .i64 s.2]] w fun e w' => e = .returned (.tuple #[.slice none 0 0, .int .i64 1]) ∧ Grn w w' := by
  have hq := Lib.hid (pkWaiting_nil (h.grown (below_alloc w (.cells #[.int .i64 s.1, .int .i64 s.2] 38))) s)
  obtain ⟨a, rfl⟩ := h.form
  clear h
  generalize s.1 = sa at *
  generalize s.2 = sb at *
  go_enter Tryd.func17, Tryd.ntmps17
  go_wp2_with (go_at_call 14; refine hq.out.mono ?_; rintro e w2 ⟨rfl, hg⟩)
  have HG := Lib.hid (((Grn.refl w).alloc (.cells #[.int .i64 sa, .int .i64 sb] 38)).trans hg)
  clear hg
  go_loopw [18] (fun i wr => i = .int .i64 0 ∧ wr = w2) (fun _ _ => 0)
  case atStart => exact ⟨rfl, rfl⟩
  case round =>
    obtain ⟨rfl, rfl⟩ := hrel
    go_wp2_with fail
    go_ret2
    exact ⟨rfl, HG.out⟩
end
end Go.Proofs.YtcdimopiaanfbaaDoor
