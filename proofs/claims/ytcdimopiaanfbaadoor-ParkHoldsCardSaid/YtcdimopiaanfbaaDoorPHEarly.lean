/- The walk of ParkHolds. -/
import Derived.Test.YtcdimopiaanfbaaDoorPHoldP
import Derived.Test.YtcdimopiaanfbaaDoorPEnd
import Derived.LoopTactic
import Derived.Deep.LoopGhost
import Derived.Deep.CutBlock
namespace Go.Proofs.YtcdimopiaanfbaaDoor
open Go.RowKit Go.Sort
set_option linter.unusedVariables false
set_option linter.unusedSimpArgs false

set_option maxRecDepth 100000 in
set_option maxHeartbeats 6400000 in
theorem ph_0 (c : Int) (a : Option Addr) (len cap : Nat) (oa ob ta tb : Int) (w : World) (hmv : MvAt w) (h : 80 < len) : Calls Tryd.prog 7 #[.int .i64 c, .slice a len cap, .agg #[.int .i64 oa, .int .i64 ob], .agg #[.int .i64 ta, .int .i64 tb]] w fun e w' => e = .returned (.bool true) ∧ Below w.heap.size w w' := by
  have HM := Lib.hid hmv
  clear hmv
  have HB0 : Hid (Below w.heap.size w ((w.alloc (.cells #[.int .i64 oa, .int .i64 ob] 38)).alloc (.cells #[.int .i64 ta, .int .i64 tb] 38))) := Lib.hid (((Grn.refl w).alloc _).alloc _).below
  have HX : Hid (((w.alloc (.cells #[.int .i64 oa, .int .i64 ob] 38)).alloc (.cells #[.int .i64 ta, .int .i64 tb] 38)).heap[w.heap.size]? = some (.cells #[.int .i64 oa, .int .i64 ob] 38 (0, 0))) := Lib.hid (((below_alloc _ _).block _ (by simp)).trans (block_new _ _ _ rfl))
  have HY : Hid (((w.alloc (.cells #[.int .i64 oa, .int .i64 ob] 38)).alloc (.cells #[.int .i64 ta, .int .i64 tb] 38)).heap[w.heap.size + 1]? = some (.cells #[.int .i64 ta, .int .i64 tb] 38 (0, 0))) := Lib.hid (block_new _ _ _ (by simp))
  have l1 : (80 : Int) < (len : Int) := by omega
  go_enter Tryd.func7, Tryd.ntmps7
  go_wp2_with (go_at_call 8; fail)
  refine (known_any _ (HM.out.below HB0.out HM.out.lt)).mono ?_
  rintro e w9 ⟨rfl, hb9⟩
  have h9 := (HB0.out).trans (hb9.mono (HB0.out).size)
  go_wp2_with fail
  go_ret
  exact ⟨rfl, h9⟩
set_option maxRecDepth 100000 in
set_option maxHeartbeats 6400000 in
theorem ph_1 (c : Int) (a : Option Addr) (len cap : Nat) (oa ob ta tb : Int) (w : World) (hmv : MvAt w) (hl : len ≤ 80) (h : c < 1) : Calls Tryd.prog 7 #[.int .i64 c, .slice a len cap, .agg #[.int .i64 oa, .int .i64 ob], .agg #[.int .i64 ta, .int .i64 tb]] w fun e w' => e = .returned (.bool true) ∧ Below w.heap.size w w' := by
  have HM := Lib.hid hmv
  clear hmv
  have HB0 : Hid (Below w.heap.size w ((w.alloc (.cells #[.int .i64 oa, .int .i64 ob] 38)).alloc (.cells #[.int .i64 ta, .int .i64 tb] 38))) := Lib.hid (((Grn.refl w).alloc _).alloc _).below
  have HX : Hid (((w.alloc (.cells #[.int .i64 oa, .int .i64 ob] 38)).alloc (.cells #[.int .i64 ta, .int .i64 tb] 38)).heap[w.heap.size]? = some (.cells #[.int .i64 oa, .int .i64 ob] 38 (0, 0))) := Lib.hid (((below_alloc _ _).block _ (by simp)).trans (block_new _ _ _ rfl))
  have HY : Hid (((w.alloc (.cells #[.int .i64 oa, .int .i64 ob] 38)).alloc (.cells #[.int .i64 ta, .int .i64 tb] 38)).heap[w.heap.size + 1]? = some (.cells #[.int .i64 ta, .int .i64 tb] 38 (0, 0))) := Lib.hid (block_new _ _ _ (by simp))
  have l1 : (len : Int) ≤ 80 := by omega
  have l2 : decide (80 < (len : Int)) = false := decide_eq_false (by omega)
  have l3 : decide (80 < len) = false := decide_eq_false (by omega)
  have c1d : decide (c < 1) = true := decide_eq_true h
  go_enter Tryd.func7, Tryd.ntmps7
  go_wp2_with (go_at_call 8; fail)
  refine (known_any _ (HM.out.below HB0.out HM.out.lt)).mono ?_
  rintro e w9 ⟨rfl, hb9⟩
  have h9 := (HB0.out).trans (hb9.mono (HB0.out).size)
  go_wp2_with fail
  go_ret
  exact ⟨rfl, h9⟩
set_option maxRecDepth 100000 in
set_option maxHeartbeats 6400000 in
theorem ph_2 (c : Int) (a : Option Addr) (len cap : Nat) (oa ob ta tb : Int) (w : World) (hmv : MvAt w) (hl : len ≤ 80) (h : 64 < c) : Calls Tryd.prog 7 #[.int .i64 c, .slice a len cap, .agg #[.int .i64 oa, .int .i64 ob], .agg #[.int .i64 ta, .int .i64 tb]] w fun e w' => e = .returned (.bool true) ∧ Below w.heap.size w w' := by
  have HM := Lib.hid hmv
  clear hmv
  have HB0 : Hid (Below w.heap.size w ((w.alloc (.cells #[.int .i64 oa, .int .i64 ob] 38)).alloc (.cells #[.int .i64 ta, .int .i64 tb] 38))) := Lib.hid (((Grn.refl w).alloc _).alloc _).below
  have HX : Hid (((w.alloc (.cells #[.int .i64 oa, .int .i64 ob] 38)).alloc (.cells #[.int .i64 ta, .int .i64 tb] 38)).heap[w.heap.size]? = some (.cells #[.int .i64 oa, .int .i64 ob] 38 (0, 0))) := Lib.hid (((below_alloc _ _).block _ (by simp)).trans (block_new _ _ _ rfl))
  have HY : Hid (((w.alloc (.cells #[.int .i64 oa, .int .i64 ob] 38)).alloc (.cells #[.int .i64 ta, .int .i64 tb] 38)).heap[w.heap.size + 1]? = some (.cells #[.int .i64 ta, .int .i64 tb] 38 (0, 0))) := Lib.hid (block_new _ _ _ (by simp))
  have l1 : (len : Int) ≤ 80 := by omega
  have l2 : decide (80 < (len : Int)) = false := decide_eq_false (by omega)
  have l3 : decide (80 < len) = false := decide_eq_false (by omega)
  have c1d : decide (c < 1) = false := decide_eq_false (by omega)
  go_enter Tryd.func7, Tryd.ntmps7
  go_wp2_with (go_at_call 8; fail)
  refine (known_any _ (HM.out.below HB0.out HM.out.lt)).mono ?_
  rintro e w9 ⟨rfl, hb9⟩
  have h9 := (HB0.out).trans (hb9.mono (HB0.out).size)
  go_wp2_with fail
  go_ret
  exact ⟨rfl, h9⟩
set_option maxRecDepth 100000 in
set_option maxHeartbeats 6400000 in
theorem ph_3 (c : Int) (a : Option Addr) (len cap : Nat) (oa ob ta tb : Int) (w : World) (hmv : MvAt w) (hl : len ≤ 80) (h1 : 1 ≤ c) (h2 : c ≤ 64) (s1 : ¬ SpOk (oa, ob)) : Calls Tryd.prog 7 #[.int .i64 c, .slice a len cap, .agg #[.int .i64 oa, .int .i64 ob], .agg #[.int .i64 ta, .int .i64 tb]] w fun e w' => e = .returned (.bool true) ∧ Below w.heap.size w w' := by
  have HM := Lib.hid hmv
  clear hmv
  have HB0 : Hid (Below w.heap.size w ((w.alloc (.cells #[.int .i64 oa, .int .i64 ob] 38)).alloc (.cells #[.int .i64 ta, .int .i64 tb] 38))) := Lib.hid (((Grn.refl w).alloc _).alloc _).below
  have HX : Hid (((w.alloc (.cells #[.int .i64 oa, .int .i64 ob] 38)).alloc (.cells #[.int .i64 ta, .int .i64 tb] 38)).heap[w.heap.size]? = some (.cells #[.int .i64 oa, .int .i64 ob] 38 (0, 0))) := Lib.hid (((below_alloc _ _).block _ (by simp)).trans (block_new _ _ _ rfl))
  have HY : Hid (((w.alloc (.cells #[.int .i64 oa, .int .i64 ob] 38)).alloc (.cells #[.int .i64 ta, .int .i64 tb] 38)).heap[w.heap.size + 1]? = some (.cells #[.int .i64 ta, .int .i64 tb] 38 (0, 0))) := Lib.hid (block_new _ _ _ (by simp))
  have l1 : (len : Int) ≤ 80 := by omega
  have l2 : decide (80 < (len : Int)) = false := decide_eq_false (by omega)
  have l3 : decide (80 < len) = false := decide_eq_false (by omega)
  have c1d : decide (c < 1) = false := decide_eq_false (by omega)
  have c2d : decide (64 < c) = false := decide_eq_false (by omega)
  have S1 := Lib.hid s1
  clear s1
  go_enter Tryd.func7, Tryd.ntmps7
  go_wp2_with (go_at_call 27; fail)
  refine (g9Spot_no _ S1.out).mono ?_
  rintro e w2 ⟨rfl, hg1⟩
  have HB1 := Lib.hid (HB0.out.trans (hg1.below.mono HB0.out.size))
  have HX := Lib.hid (box_below hg1.below HX.out)
  have HY := Lib.hid (box_below hg1.below HY.out)
  clear hg1
  have x0 := cells_cell (o := 0) HX.out rfl
  have x1 := cells_cell (o := 1) HX.out rfl
  have xl := lt_of_block HX.out
  have y0 := cells_cell (o := 0) HY.out rfl
  have y1 := cells_cell (o := 1) HY.out rfl
  have yl := lt_of_block HY.out
  go_wp2_with (go_at_call 8; fail)
  refine (known_any _ (HM.out.below HB1.out HM.out.lt)).mono ?_
  rintro e w9 ⟨rfl, hb9⟩
  have h9 := (HB1.out).trans (hb9.mono (HB1.out).size)
  go_wp2_with fail
  go_ret
  exact ⟨rfl, h9⟩
set_option maxRecDepth 100000 in
set_option maxHeartbeats 6400000 in
theorem ph_4 (c : Int) (a : Option Addr) (len cap : Nat) (oa ob ta tb : Int) (w : World) (hmv : MvAt w) (hl : len ≤ 80) (h1 : 1 ≤ c) (h2 : c ≤ 64) (s1 : SpOk (oa, ob)) (s2 : ¬ SpOk (ta, tb)) : Calls Tryd.prog 7 #[.int .i64 c, .slice a len cap, .agg #[.int .i64 oa, .int .i64 ob], .agg #[.int .i64 ta, .int .i64 tb]] w fun e w' => e = .returned (.bool true) ∧ Below w.heap.size w w' := by
  have HM := Lib.hid hmv
  clear hmv
  have HB0 : Hid (Below w.heap.size w ((w.alloc (.cells #[.int .i64 oa, .int .i64 ob] 38)).alloc (.cells #[.int .i64 ta, .int .i64 tb] 38))) := Lib.hid (((Grn.refl w).alloc _).alloc _).below
  have HX : Hid (((w.alloc (.cells #[.int .i64 oa, .int .i64 ob] 38)).alloc (.cells #[.int .i64 ta, .int .i64 tb] 38)).heap[w.heap.size]? = some (.cells #[.int .i64 oa, .int .i64 ob] 38 (0, 0))) := Lib.hid (((below_alloc _ _).block _ (by simp)).trans (block_new _ _ _ rfl))
  have HY : Hid (((w.alloc (.cells #[.int .i64 oa, .int .i64 ob] 38)).alloc (.cells #[.int .i64 ta, .int .i64 tb] 38)).heap[w.heap.size + 1]? = some (.cells #[.int .i64 ta, .int .i64 tb] 38 (0, 0))) := Lib.hid (block_new _ _ _ (by simp))
  have l1 : (len : Int) ≤ 80 := by omega
  have l2 : decide (80 < (len : Int)) = false := decide_eq_false (by omega)
  have l3 : decide (80 < len) = false := decide_eq_false (by omega)
  have c1d : decide (c < 1) = false := decide_eq_false (by omega)
  have c2d : decide (64 < c) = false := decide_eq_false (by omega)
  have S1 := Lib.hid s1
  have S2 := Lib.hid s2
  clear s1 s2
  go_enter Tryd.func7, Tryd.ntmps7
  go_wp2_with (go_at_call 27; fail)
  refine (g9Spot_yes _ S1.out).mono ?_
  rintro e w2 ⟨rfl, hg1⟩
  have HB1 := Lib.hid (HB0.out.trans (hg1.below.mono HB0.out.size))
  have HX := Lib.hid (box_below hg1.below HX.out)
  have HY := Lib.hid (box_below hg1.below HY.out)
  clear hg1
  have x0 := cells_cell (o := 0) HX.out rfl
  have x1 := cells_cell (o := 1) HX.out rfl
  have xl := lt_of_block HX.out
  have y0 := cells_cell (o := 0) HY.out rfl
  have y1 := cells_cell (o := 1) HY.out rfl
  have yl := lt_of_block HY.out
  go_wp2_with (go_at_call 27; fail)
  refine (g9Spot_no _ S2.out).mono ?_
  rintro e w3 ⟨rfl, hg2⟩
  have HB2 := Lib.hid (HB1.out.trans (hg2.below.mono HB1.out.size))
  have HX := Lib.hid (box_below hg2.below HX.out)
  have HY := Lib.hid (box_below hg2.below HY.out)
  clear hg2
  have x0 := cells_cell (o := 0) HX.out rfl
  have x1 := cells_cell (o := 1) HX.out rfl
  have xl := lt_of_block HX.out
  have y0 := cells_cell (o := 0) HY.out rfl
  have y1 := cells_cell (o := 1) HY.out rfl
  have yl := lt_of_block HY.out
  go_wp2_with (go_at_call 8; fail)
  refine (known_any _ (HM.out.below HB2.out HM.out.lt)).mono ?_
  rintro e w9 ⟨rfl, hb9⟩
  have h9 := (HB2.out).trans (hb9.mono (HB2.out).size)
  go_wp2_with fail
  go_ret
  exact ⟨rfl, h9⟩
end Go.Proofs.YtcdimopiaanfbaaDoor
