/- The walk of ParkQueues. -/
import Derived.Test.YtcdimopiaanfbaaDoorPQPure
import Derived.LoopTactic
import Derived.Deep.LoopGhost
namespace Go.Proofs.YtcdimopiaanfbaaDoor
open Go.RowKit Go.Sort
set_option linter.unusedVariables false
set_option linter.unusedSimpArgs false

theorem eql_spot_no (w : World) {s t : Sp} (h : s ≠ t) : (binOp .eql 38 (.agg #[.int .i64 s.1, .int .i64 s.2]) (.agg #[.int .i64 t.1, .int .i64 t.2])).run Tryd.prog w = .ok (.bool false) w := by
  have h1 : Tryd.prog.underlying 38 = some _ := Tryd.underlying38
  obtain ⟨a, b⟩ := s
  obtain ⟨c, d⟩ := t
  by_cases e1 : a = c
  · have e2 : b ≠ d := fun e => h (by rw [e1, e])
    simp [go_sem, h1, e1, e2]
  · simp [go_sem, h1, e1]
theorem eql_spot_yes (w : World) (a b : Int) : (binOp .eql 38 (.agg #[.int .i64 a, .int .i64 b]) (.agg #[.int .i64 a, .int .i64 b])).run Tryd.prog w = .ok (.bool true) w := by
  have h1 : Tryd.prog.underlying 38 = some _ := Tryd.underlying38
  simp [go_sem, h1]
theorem bit_or (x : Int) : bits BinOp.and IntKind.u64 x 1 = 0 ∨ bits BinOp.and IntKind.u64 x 1 = 1 := by
  unfold bits
  simp only [IntKind.bits]
  generalize BitVec.ofInt 64 x = b
  have h1 : (b &&& BitVec.ofInt 64 1).toNat = b.toNat % 2 := by
    rw [BitVec.toNat_and, show (BitVec.ofInt 64 1).toNat = 1 from rfl, Nat.and_one_is_mod]
  have h2 : ∀ n : Nat, n = b.toNat % 2 → IntKind.u64.wrap ((n : Nat) : Int) = 0 ∨ IntKind.u64.wrap ((n : Nat) : Int) = 1 := fun n hn => by
    rcases Nat.mod_two_eq_zero_or_one b.toNat with h | h
    · rw [hn, h]; exact .inl rfl
    · rw [hn, h]; exact .inr rfl
  exact h2 _ h1
set_option maxRecDepth 100000 in
set_option maxHeartbeats 3200000 in
theorem pq_1 (c wh : Int) (oa ob ta tb : Int) (w : World) (hmv : MvAt w) (h : c < 1) : Calls Tryd.prog 6 #[.int .i64 c, .int .u64 wh, .agg #[.int .i64 oa, .int .i64 ob], .agg #[.int .i64 ta, .int .i64 tb]] w fun e w' => e = .returned (.bool true) ∧ Below w.heap.size w w' := by
  have HM := Lib.hid hmv
  clear hmv
  have HB0 : Hid (Below w.heap.size w ((w.alloc (.cells #[.int .i64 oa, .int .i64 ob] 38)).alloc (.cells #[.int .i64 ta, .int .i64 tb] 38))) := Lib.hid (((Grn.refl w).alloc _).alloc _).below
  have HX : Hid (((w.alloc (.cells #[.int .i64 oa, .int .i64 ob] 38)).alloc (.cells #[.int .i64 ta, .int .i64 tb] 38)).heap[w.heap.size]? = some (.cells #[.int .i64 oa, .int .i64 ob] 38 (0, 0))) := Lib.hid (((below_alloc _ _).block _ (by simp)).trans (block_new _ _ _ rfl))
  have HY : Hid (((w.alloc (.cells #[.int .i64 oa, .int .i64 ob] 38)).alloc (.cells #[.int .i64 ta, .int .i64 tb] 38)).heap[w.heap.size + 1]? = some (.cells #[.int .i64 ta, .int .i64 tb] 38 (0, 0))) := Lib.hid (block_new _ _ _ (by simp))
  have c1d : decide (c < 1) = true := decide_eq_true h
  go_enter Tryd.func6, Tryd.ntmps6
  go_wp2_with (go_at_call 8; fail)
  refine (known_any _ (HM.out.below HB0.out HM.out.lt)).mono ?_
  rintro e w9 ⟨rfl, hb9⟩
  have h9 := (HB0.out).trans (hb9.mono (HB0.out).size)
  go_wp2_with fail
  go_ret
  exact ⟨rfl, h9⟩
set_option maxRecDepth 100000 in
set_option maxHeartbeats 3200000 in
theorem pq_2 (c wh : Int) (oa ob ta tb : Int) (w : World) (hmv : MvAt w) (h : 64 < c) : Calls Tryd.prog 6 #[.int .i64 c, .int .u64 wh, .agg #[.int .i64 oa, .int .i64 ob], .agg #[.int .i64 ta, .int .i64 tb]] w fun e w' => e = .returned (.bool true) ∧ Below w.heap.size w w' := by
  have HM := Lib.hid hmv
  clear hmv
  have HB0 : Hid (Below w.heap.size w ((w.alloc (.cells #[.int .i64 oa, .int .i64 ob] 38)).alloc (.cells #[.int .i64 ta, .int .i64 tb] 38))) := Lib.hid (((Grn.refl w).alloc _).alloc _).below
  have HX : Hid (((w.alloc (.cells #[.int .i64 oa, .int .i64 ob] 38)).alloc (.cells #[.int .i64 ta, .int .i64 tb] 38)).heap[w.heap.size]? = some (.cells #[.int .i64 oa, .int .i64 ob] 38 (0, 0))) := Lib.hid (((below_alloc _ _).block _ (by simp)).trans (block_new _ _ _ rfl))
  have HY : Hid (((w.alloc (.cells #[.int .i64 oa, .int .i64 ob] 38)).alloc (.cells #[.int .i64 ta, .int .i64 tb] 38)).heap[w.heap.size + 1]? = some (.cells #[.int .i64 ta, .int .i64 tb] 38 (0, 0))) := Lib.hid (block_new _ _ _ (by simp))
  have c1d : decide (c < 1) = false := decide_eq_false (by omega)
  go_enter Tryd.func6, Tryd.ntmps6
  go_wp2_with (go_at_call 8; fail)
  refine (known_any _ (HM.out.below HB0.out HM.out.lt)).mono ?_
  rintro e w9 ⟨rfl, hb9⟩
  have h9 := (HB0.out).trans (hb9.mono (HB0.out).size)
  go_wp2_with fail
  go_ret
  exact ⟨rfl, h9⟩
set_option maxRecDepth 100000 in
set_option maxHeartbeats 3200000 in
theorem pq_3 (c wh : Int) (oa ob ta tb : Int) (w : World) (hmv : MvAt w) (h1 : 1 ≤ c) (h2 : c ≤ 64) (s1 : ¬ SpOk (oa, ob)) : Calls Tryd.prog 6 #[.int .i64 c, .int .u64 wh, .agg #[.int .i64 oa, .int .i64 ob], .agg #[.int .i64 ta, .int .i64 tb]] w fun e w' => e = .returned (.bool true) ∧ Below w.heap.size w w' := by
  have HM := Lib.hid hmv
  clear hmv
  have HB0 : Hid (Below w.heap.size w ((w.alloc (.cells #[.int .i64 oa, .int .i64 ob] 38)).alloc (.cells #[.int .i64 ta, .int .i64 tb] 38))) := Lib.hid (((Grn.refl w).alloc _).alloc _).below
  have HX : Hid (((w.alloc (.cells #[.int .i64 oa, .int .i64 ob] 38)).alloc (.cells #[.int .i64 ta, .int .i64 tb] 38)).heap[w.heap.size]? = some (.cells #[.int .i64 oa, .int .i64 ob] 38 (0, 0))) := Lib.hid (((below_alloc _ _).block _ (by simp)).trans (block_new _ _ _ rfl))
  have HY : Hid (((w.alloc (.cells #[.int .i64 oa, .int .i64 ob] 38)).alloc (.cells #[.int .i64 ta, .int .i64 tb] 38)).heap[w.heap.size + 1]? = some (.cells #[.int .i64 ta, .int .i64 tb] 38 (0, 0))) := Lib.hid (block_new _ _ _ (by simp))
  have c1d : decide (c < 1) = false := decide_eq_false (by omega)
  have c2d : decide (64 < c) = false := decide_eq_false (by omega)
  have S1 := Lib.hid s1
  clear s1
  go_enter Tryd.func6, Tryd.ntmps6
  go_wp2_with (go_at_call 27; fail)
  refine (g9Spot_no _ S1.out).mono ?_
  rintro e w2 ⟨rfl, hg1⟩
  have HB1 := Lib.hid (HB0.out.trans (hg1.below.mono HB0.out.size))
  have HX := Lib.hid (box_below hg1.below HX.out)
  have HY := Lib.hid (box_below hg1.below HY.out)
  clear hg1
  have x0 := cells_cell (o := 0) HX.out rfl
  have x1 := cells_cell (o := 1) HX.out rfl
  have xl := lt_of_block HX.out
  have y0 := cells_cell (o := 0) HY.out rfl
  have y1 := cells_cell (o := 1) HY.out rfl
  have yl := lt_of_block HY.out
  go_wp2_with (go_at_call 8; fail)
  refine (known_any _ (HM.out.below HB1.out HM.out.lt)).mono ?_
  rintro e w9 ⟨rfl, hb9⟩
  have h9 := (HB1.out).trans (hb9.mono (HB1.out).size)
  go_wp2_with fail
  go_ret
  exact ⟨rfl, h9⟩
set_option maxRecDepth 100000 in
set_option maxHeartbeats 3200000 in
theorem pq_4 (c wh : Int) (oa ob ta tb : Int) (w : World) (hmv : MvAt w) (h1 : 1 ≤ c) (h2 : c ≤ 64) (s1 : SpOk (oa, ob)) (s2 : ¬ SpOk (ta, tb)) : Calls Tryd.prog 6 #[.int .i64 c, .int .u64 wh, .agg #[.int .i64 oa, .int .i64 ob], .agg #[.int .i64 ta, .int .i64 tb]] w fun e w' => e = .returned (.bool true) ∧ Below w.heap.size w w' := by
  have HM := Lib.hid hmv
  clear hmv
  have HB0 : Hid (Below w.heap.size w ((w.alloc (.cells #[.int .i64 oa, .int .i64 ob] 38)).alloc (.cells #[.int .i64 ta, .int .i64 tb] 38))) := Lib.hid (((Grn.refl w).alloc _).alloc _).below
  have HX : Hid (((w.alloc (.cells #[.int .i64 oa, .int .i64 ob] 38)).alloc (.cells #[.int .i64 ta, .int .i64 tb] 38)).heap[w.heap.size]? = some (.cells #[.int .i64 oa, .int .i64 ob] 38 (0, 0))) := Lib.hid (((below_alloc _ _).block _ (by simp)).trans (block_new _ _ _ rfl))
  have HY : Hid (((w.alloc (.cells #[.int .i64 oa, .int .i64 ob] 38)).alloc (.cells #[.int .i64 ta, .int .i64 tb] 38)).heap[w.heap.size + 1]? = some (.cells #[.int .i64 ta, .int .i64 tb] 38 (0, 0))) := Lib.hid (block_new _ _ _ (by simp))
  have c1d : decide (c < 1) = false := decide_eq_false (by omega)
  have c2d : decide (64 < c) = false := decide_eq_false (by omega)
  have S1 := Lib.hid s1
  have S2 := Lib.hid s2
  clear s1 s2
  go_enter Tryd.func6, Tryd.ntmps6
  go_wp2_with (go_at_call 27; fail)
  refine (g9Spot_yes _ S1.out).mono ?_
  rintro e w2 ⟨rfl, hg1⟩
  have HB1 := Lib.hid (HB0.out.trans (hg1.below.mono HB0.out.size))
  have HX := Lib.hid (box_below hg1.below HX.out)
  have HY := Lib.hid (box_below hg1.below HY.out)
  clear hg1
  have x0 := cells_cell (o := 0) HX.out rfl
  have x1 := cells_cell (o := 1) HX.out rfl
  have xl := lt_of_block HX.out
  have y0 := cells_cell (o := 0) HY.out rfl
  have y1 := cells_cell (o := 1) HY.out rfl
  have yl := lt_of_block HY.out
  go_wp2_with (go_at_call 27; fail)
  refine (g9Spot_no _ S2.out).mono ?_
  rintro e w3 ⟨rfl, hg2⟩
  have HB2 := Lib.hid (HB1.out.trans (hg2.below.mono HB1.out.size))
  have HX := Lib.hid (box_below hg2.below HX.out)
  have HY := Lib.hid (box_below hg2.below HY.out)
  clear hg2
  have x0 := cells_cell (o := 0) HX.out rfl
  have x1 := cells_cell (o := 1) HX.out rfl
  have xl := lt_of_block HX.out
  have y0 := cells_cell (o := 0) HY.out rfl
  have y1 := cells_cell (o := 1) HY.out rfl
  have yl := lt_of_block HY.out
  go_wp2_with (go_at_call 8; fail)
  refine (known_any _ (HM.out.below HB2.out HM.out.lt)).mono ?_
  rintro e w9 ⟨rfl, hb9⟩
  have h9 := (HB2.out).trans (hb9.mono (HB2.out).size)
  go_wp2_with fail
  go_ret
  exact ⟨rfl, h9⟩
set_option maxRecDepth 100000 in
set_option maxHeartbeats 3200000 in
theorem pq_5 (c wh : Int) (oa ob ta tb : Int) (w : World) (hmv : MvAt w) (h1 : 1 ≤ c) (h2 : c ≤ 64) (s1 : SpOk (oa, ob)) (s2 : SpOk (ta, tb)) (ea : oa = ta) (eb : ob = tb) : Calls Tryd.prog 6 #[.int .i64 c, .int .u64 wh, .agg #[.int .i64 oa, .int .i64 ob], .agg #[.int .i64 ta, .int .i64 tb]] w fun e w' => e = .returned (.bool true) ∧ Below w.heap.size w w' := by
  have HM := Lib.hid hmv
  clear hmv
  have HB0 : Hid (Below w.heap.size w ((w.alloc (.cells #[.int .i64 oa, .int .i64 ob] 38)).alloc (.cells #[.int .i64 ta, .int .i64 tb] 38))) := Lib.hid (((Grn.refl w).alloc _).alloc _).below
  have HX : Hid (((w.alloc (.cells #[.int .i64 oa, .int .i64 ob] 38)).alloc (.cells #[.int .i64 ta, .int .i64 tb] 38)).heap[w.heap.size]? = some (.cells #[.int .i64 oa, .int .i64 ob] 38 (0, 0))) := Lib.hid (((below_alloc _ _).block _ (by simp)).trans (block_new _ _ _ rfl))
  have HY : Hid (((w.alloc (.cells #[.int .i64 oa, .int .i64 ob] 38)).alloc (.cells #[.int .i64 ta, .int .i64 tb] 38)).heap[w.heap.size + 1]? = some (.cells #[.int .i64 ta, .int .i64 tb] 38 (0, 0))) := Lib.hid (block_new _ _ _ (by simp))
  have c1d : decide (c < 1) = false := decide_eq_false (by omega)
  have c2d : decide (64 < c) = false := decide_eq_false (by omega)
  have S1 := Lib.hid s1
  have S2 := Lib.hid s2
  clear s1 s2
  have hq := eql_spot_yes
  subst ea eb
  go_enter Tryd.func6, Tryd.ntmps6
  go_wp2_with (go_at_call 27; fail)
  refine (g9Spot_yes _ S1.out).mono ?_
  rintro e w2 ⟨rfl, hg1⟩
  have HB1 := Lib.hid (HB0.out.trans (hg1.below.mono HB0.out.size))
  have HX := Lib.hid (box_below hg1.below HX.out)
  have HY := Lib.hid (box_below hg1.below HY.out)
  clear hg1
  have x0 := cells_cell (o := 0) HX.out rfl
  have x1 := cells_cell (o := 1) HX.out rfl
  have xl := lt_of_block HX.out
  have y0 := cells_cell (o := 0) HY.out rfl
  have y1 := cells_cell (o := 1) HY.out rfl
  have yl := lt_of_block HY.out
  go_wp2_with (go_at_call 27; fail)
  refine (g9Spot_yes _ S2.out).mono ?_
  rintro e w3 ⟨rfl, hg2⟩
  have HB2 := Lib.hid (HB1.out.trans (hg2.below.mono HB1.out.size))
  have HX := Lib.hid (box_below hg2.below HX.out)
  have HY := Lib.hid (box_below hg2.below HY.out)
  clear hg2
  have x0 := cells_cell (o := 0) HX.out rfl
  have x1 := cells_cell (o := 1) HX.out rfl
  have xl := lt_of_block HX.out
  have y0 := cells_cell (o := 0) HY.out rfl
  have y1 := cells_cell (o := 1) HY.out rfl
  have yl := lt_of_block HY.out
  go_wp2_with (go_at_call 8; fail)
  refine (known_any _ (HM.out.below HB2.out HM.out.lt)).mono ?_
  rintro e w9 ⟨rfl, hb9⟩
  have h9 := (HB2.out).trans (hb9.mono (HB2.out).size)
  go_wp2_with fail
  go_ret
  exact ⟨rfl, h9⟩
end Go.Proofs.YtcdimopiaanfbaaDoor
