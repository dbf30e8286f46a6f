/- KNil: JNil, merged. -/
import Derived.Test.YtgkodleblkjhcaaDoorKLaw
/- Nil and zero deadlines: the walk of DeadlineNil. -/
namespace Go.Proofs.YtgkodleblkjhcaaDoor
open Go.RowKit Go.Sort
set_option linter.unusedVariables false
set_option linter.unusedSimpArgs false

/-- Deadlines that cannot be used, whatever the world has grown to. -/
def DeadJ (p : Option Addr) (w : World) : Prop := ∀ W, Grn w W → Calls Tryd.prog 24 #[.pointer p] W fun e w' => e = .returned (.bool false) ∧ W = w'
theorem DeadJ.grn {p : Option Addr} {w w' : World} (h : DeadJ p w) (g : Grn w w') : DeadJ p w' := fun W hW => h W (g.trans hW)
theorem deadj_nil (w : World) : DeadJ none w := fun W _ => jusable_nil W
theorem deadj_zero (a : Nat) (w : World) (hc : w.cell? ⟨a, 0, none⟩ = some (.pointer none)) : DeadJ (some ⟨a, 0, none⟩) w := fun W hW => jusable_zero a W ((hW.below.cell (p := ⟨a, 0, none⟩) (World.block_lt_of_cell? w _ hc)).trans hc)

set_option maxHeartbeats 1600000 in
theorem jfind_dead {p : Option Addr} {w : World} (h : DeadJ p w) (x y : Int) : Calls Tryd.prog 20 #[.pointer p, .agg #[.int .i64 x, .int .i64 y]] w fun e w' => e = .returned (.tuple #[.agg #[.int .i64 0, .int .i64 0], .int .i64 1]) ∧ Grn w w' := by
  obtain ⟨W, hW⟩ : ∃ W, (w.alloc (.cells #[.int .i64 x, .int .i64 y] 24)).alloc (.cells #[.int .i64 0, .int .i64 0] 61) = W := ⟨_, rfl⟩
  have hG : Grn w W := by rw [← hW]; exact ((Grn.refl w).alloc _).alloc _
  have r0 : W.heap[w.heap.size + 1]? = some (.cells #[.int .i64 0, .int .i64 0] 61 (0, 0)) := by rw [← hW]; exact block_new _ _ _ (by simp)
  have hu := Lib.hid (h W hG)
  have f0 := cells_free r0 0
  have f1 := cells_free r0 1
  have c0 := cells_cell (o := 0) r0 rfl
  have c1 := cells_cell (o := 1) r0 rfl
  have Hr2 := Lib.hid (set2 r0 (.int .i64 0) (.int .i64 0))
  have HG := Lib.hid hG
  have HW := Lib.hid hW
  clear h hG hW r0
  go_enter Tryd.func20, Tryd.ntmps20
  go_wp2_with fail
  rw [HW.out]
  go_wp2_with (go_at_call 24; refine hu.out.mono ?_; rintro e w' ⟨rfl, rfl⟩)
  have s0 := cells_cell (o := 0) Hr2.out rfl
  have s1 := cells_cell (o := 1) Hr2.out rfl
  have hfin : Grn w ((W.setCell ⟨w.heap.size + 1, 0, none⟩ (.int .i64 0)).setCell ⟨w.heap.size + 1, 1, none⟩ (.int .i64 0)) := (HG.out.set ⟨w.heap.size + 1, 0, none⟩ _ (by simp)).set ⟨w.heap.size + 1, 1, none⟩ _ (by simp)
  generalize ((W.setCell ⟨w.heap.size + 1, 0, none⟩ (.int .i64 0)).setCell ⟨w.heap.size + 1, 1, none⟩ (.int .i64 0)) = w3 at *
  exact bodyPost_ret (v := .tuple #[.agg #[.int .i64 0, .int .i64 0], .int .i64 1]) (by simp [results, Tryd.results20, go_sem, s0, s1]) rfl ⟨rfl, hfin⟩

set_option maxHeartbeats 1600000 in
theorem jSet_dead {p : Option Addr} {w : World} (h : DeadJ p w) (x y : Int) (d : Int) : Calls Tryd.prog 6 #[.pointer p, .agg #[.int .i64 x, .int .i64 y], .int .u64 d] w fun e w' => e = .returned (.tuple #[.bool false, .int .i64 1]) ∧ Grn w w' := by
  obtain ⟨W, hW⟩ : ∃ W, w.alloc (.cells #[.int .i64 x, .int .i64 y] 24) = W := ⟨_, rfl⟩
  have hG : Grn w W := by rw [← hW]; exact (Grn.refl w).alloc _
  have x0 : W.cell? ⟨w.heap.size, 0, none⟩ = some (.int .i64 x) := by rw [← hW]; exact cell_new _ _ _ _ _ _ rfl rfl
  have x1 : W.cell? ⟨w.heap.size, 1, none⟩ = some (.int .i64 y) := by rw [← hW]; exact cell_new _ _ _ _ _ _ rfl rfl
  have hfind := Lib.hid (jfind_dead (h.grn hG) x y)
  have HG := Lib.hid hG
  have HW := Lib.hid hW
  clear h hG hW
  go_enter Tryd.func6, Tryd.ntmps6
  go_wp2_with fail
  rw [HW.out]
  go_wp2_with (go_at_call 20; fail)
  refine hfind.out.mono ?_
  rintro e w2 ⟨rfl, hg2⟩
  have HG2 := Lib.hid (HG.out.trans hg2)
  clear hg2 x0 x1
  go_wp2_with fail
  go_ret2
  exact ⟨rfl, HG2.out.alloc _⟩

set_option maxHeartbeats 1600000 in
theorem jGet_dead {p : Option Addr} {w : World} (h : DeadJ p w) (x y : Int) : Calls Tryd.prog 7 #[.pointer p, .agg #[.int .i64 x, .int .i64 y]] w fun e w' => e = .returned (.tuple #[.int .u64 0, .int .i64 1]) ∧ Grn w w' := by
  obtain ⟨W, hW⟩ : ∃ W, w.alloc (.cells #[.int .i64 x, .int .i64 y] 24) = W := ⟨_, rfl⟩
  have hG : Grn w W := by rw [← hW]; exact (Grn.refl w).alloc _
  have x0 : W.cell? ⟨w.heap.size, 0, none⟩ = some (.int .i64 x) := by rw [← hW]; exact cell_new _ _ _ _ _ _ rfl rfl
  have x1 : W.cell? ⟨w.heap.size, 1, none⟩ = some (.int .i64 y) := by rw [← hW]; exact cell_new _ _ _ _ _ _ rfl rfl
  have hfind := Lib.hid (jfind_dead (h.grn hG) x y)
  have HG := Lib.hid hG
  have HW := Lib.hid hW
  clear h hG hW
  go_enter Tryd.func7, Tryd.ntmps7
  go_wp2_with fail
  rw [HW.out]
  go_wp2_with (go_at_call 20; fail)
  refine hfind.out.mono ?_
  rintro e w2 ⟨rfl, hg2⟩
  have HG2 := Lib.hid (HG.out.trans hg2)
  clear hg2 x0 x1
  go_wp2_with fail
  go_ret2
  exact ⟨rfl, HG2.out.alloc _⟩

set_option maxHeartbeats 1600000 in
theorem jPassed_dead {p : Option Addr} {w : World} (h : DeadJ p w) (x y : Int) : Calls Tryd.prog 8 #[.pointer p, .agg #[.int .i64 x, .int .i64 y]] w fun e w' => e = .returned (.tuple #[.bool false, .int .i64 1]) ∧ Grn w w' := by
  obtain ⟨W, hW⟩ : ∃ W, w.alloc (.cells #[.int .i64 x, .int .i64 y] 24) = W := ⟨_, rfl⟩
  have hG : Grn w W := by rw [← hW]; exact (Grn.refl w).alloc _
  have x0 : W.cell? ⟨w.heap.size, 0, none⟩ = some (.int .i64 x) := by rw [← hW]; exact cell_new _ _ _ _ _ _ rfl rfl
  have x1 : W.cell? ⟨w.heap.size, 1, none⟩ = some (.int .i64 y) := by rw [← hW]; exact cell_new _ _ _ _ _ _ rfl rfl
  have hfind := Lib.hid (jfind_dead (h.grn hG) x y)
  have HG := Lib.hid hG
  have HW := Lib.hid hW
  clear h hG hW
  go_enter Tryd.func8, Tryd.ntmps8
  go_wp2_with fail
  rw [HW.out]
  go_wp2_with (go_at_call 20; fail)
  refine hfind.out.mono ?_
  rintro e w2 ⟨rfl, hg2⟩
  have HG2 := Lib.hid (HG.out.trans hg2)
  clear hg2 x0 x1
  go_wp2_with fail
  go_ret2
  exact ⟨rfl, HG2.out.alloc _⟩

set_option maxHeartbeats 1600000 in
theorem jClear_dead {p : Option Addr} {w : World} (h : DeadJ p w) (x : Int) : Calls Tryd.prog 10 #[.pointer p, .int .i64 x] w fun e w' => e = .returned (.int .i64 1) ∧ Grn w w' := by
  have hfind := Lib.hid (jfind_dead h x 0)
  clear h
  go_enter Tryd.func10, Tryd.ntmps10
  go_wp2_with (go_at_call 20; fail)
  refine hfind.out.mono ?_
  rintro e w2 ⟨rfl, hg2⟩
  have HG2 := Lib.hid hg2
  clear hg2
  go_wp2_with fail
  go_ret
  exact ⟨rfl, HG2.out.alloc _⟩

set_option maxHeartbeats 800000 in
theorem jAdvance_dead {p : Option Addr} {w : World} (h : DeadJ p w) (t : Int) : Calls Tryd.prog 9 #[.pointer p, .int .u64 t] w fun e w' => e = .returned (.tuple #[.slice none 0 0, .int .i64 1]) ∧ Grn w w' := by
  have hu := Lib.hid (h w (Grn.refl w))
  clear h
  go_enter Tryd.func9, Tryd.ntmps9
  go_wp2_with (go_at_call 24; refine hu.out.mono ?_; rintro e w' ⟨rfl, rfl⟩)
  go_ret2
  exact ⟨rfl, Grn.refl w⟩

set_option maxHeartbeats 800000 in
theorem jNext_dead {p : Option Addr} {w : World} (h : DeadJ p w) : Calls Tryd.prog 11 #[.pointer p] w fun e w' => e = .returned (.int .u64 18446744073709551615) ∧ Grn w w' := by
  have hu := Lib.hid (h w (Grn.refl w))
  clear h
  go_enter Tryd.func11, Tryd.ntmps11
  go_wp2_with (go_at_call 24; refine hu.out.mono ?_; rintro e w' ⟨rfl, rfl⟩)
  go_ret
  exact ⟨rfl, Grn.refl w⟩

set_option maxHeartbeats 800000 in
theorem jNow_dead {p : Option Addr} {w : World} (h : DeadJ p w) : Calls Tryd.prog 12 #[.pointer p] w fun e w' => e = .returned (.int .u64 0) ∧ Grn w w' := by
  have hu := Lib.hid (h w (Grn.refl w))
  clear h
  go_enter Tryd.func12, Tryd.ntmps12
  go_wp2_with (go_at_call 24; refine hu.out.mono ?_; rintro e w' ⟨rfl, rfl⟩)
  go_ret
  exact ⟨rfl, Grn.refl w⟩

set_option maxHeartbeats 800000 in
theorem jCopy_dead {p : Option Addr} {w : World} (h : DeadJ p w) : Calls Tryd.prog 13 #[.pointer p] w fun e w' => e = .returned (.pointer none) ∧ Grn w w' := by
  have hu := Lib.hid (h w (Grn.refl w))
  clear h
  go_enter Tryd.func13, Tryd.ntmps13
  go_wp2_with (go_at_call 24; refine hu.out.mono ?_; rintro e w' ⟨rfl, rfl⟩)
  go_ret
  exact ⟨rfl, Grn.refl w⟩

set_option maxRecDepth 100000 in
set_option maxHeartbeats 6400000 in
theorem deadlineNil_walk (x y t : Int) (w : World) (hx : (Lit.int .i64 x).wf = true) (hy : (Lit.int .i64 y).wf = true) (ht : (Lit.int .u64 t).wf = true) (hT : Tab w) :
    Calls Tryd.prog 3 #[.agg #[.int .i64 x, .int .i64 y], .int .u64 t] w fun e w' => e = .returned (.bool true) ∧ Below w.heap.size w w' := by
  go_enter Tryd.func3, Tryd.ntmps3
  go_wp2_with fail
  obtain ⟨W, hW⟩ : ∃ W, ((w.alloc (Obj.cells #[.int .i64 x, .int .i64 y] 24)).alloc (Obj.cells #[.pointer none] 30)).alloc (Obj.cells #[.pointer none, .pointer (some ⟨w.heap.size + 1, 0, none⟩)] 27) = W := ⟨_, rfl⟩
  have hG : Grn w W := by rw [← hW]; exact (((Grn.refl w).alloc _).alloc _).alloc _
  have hsz : W.heap.size = w.heap.size + 3 := by rw [← hW]; simp
  have hS : W.heap[w.heap.size]? = some (.cells #[.int .i64 x, .int .i64 y] 24 (0, 0)) := by
    rw [← hW]
    exact (fr_alloc _ _ []).same ((fr_alloc _ _ []).same (block_new w _ _ rfl) (by simp)) (by simp)
  have cn : W.cell? ⟨w.heap.size + 1, 0, none⟩ = some (.pointer none) := by
    rw [← hW]
    exact (fr_alloc _ _ []).cell (cell_new _ #[.pointer none] 30 _ 0 _ (by simp) rfl) (by simp)
  have c0 : W.cell? ⟨w.heap.size + 2, 0, none⟩ = some (.pointer none) := by rw [← hW]; exact cell_new _ _ _ _ _ _ (by simp) rfl
  have c1 : W.cell? ⟨w.heap.size + 2, 1, none⟩ = some (.pointer (some ⟨w.heap.size + 1, 0, none⟩)) := by rw [← hW]; exact cell_new _ _ _ _ _ _ (by simp) rfl
  have HG := Lib.hid hG
  have HS := Lib.hid hS
  rw [hW]
  clear hW hG hS
  go_loopw [21] (fun i wr => ∃ k : Nat, k ≤ 2 ∧ i = .int .i64 k ∧ Grn W wr) (fun i _ => 2 - (intOf i).toNat)
  case atStart => exact ⟨0, by omega, rfl, Grn.refl _⟩
  case round =>
    obtain ⟨j, hj, rfl, hw⟩ := hrel
    have hws := hw.below.size
    by_cases hlt : j < 2
    · obtain ⟨p, hc, hd⟩ : ∃ p, wr.cell? ⟨w.heap.size + 2, j, none⟩ = some (.pointer p) ∧ DeadJ p wr := by
        rcases (by omega : j = 0 ∨ j = 1) with rfl | rfl
        · exact ⟨none, (hw.below.cell (p := ⟨w.heap.size + 2, 0, none⟩) (by simp; omega)).trans c0, deadj_nil _⟩
        · exact ⟨_, (hw.below.cell (p := ⟨w.heap.size + 2, 1, none⟩) (by simp; omega)).trans c1, deadj_zero _ _ ((hw.below.cell (p := ⟨w.heap.size + 1, 0, none⟩) (by simp; omega)).trans cn)⟩
      have hji : (j : Int) < 2 := by omega
      have HL := Lib.hid hlt
      have HD0 := Lib.hid hd
      have HW0 := Lib.hid hw
      have HS0 := Lib.hid ((hw.below.block _ (lt_of_block HS.out)).trans HS.out)
      clear hd hw c0 c1 cn hlt hws hsz
      generalize w.heap.size = s at *
      have y0 := cells_cell (o := 0) HS0.out rfl
      have y1 := cells_cell (o := 1) HS0.out rfl
      go_wp2_with (go_at_call 6; fail)
      refine (jSet_dead HD0.out x y t).mono ?_
      rintro e w1 ⟨rfl, hg⟩
      have HD1 := Lib.hid (HD0.out.grn hg)
      have HW1 := Lib.hid (HW0.out.trans hg)
      have HS1 := Lib.hid ((hg.below.block _ (lt_of_block HS0.out)).trans HS0.out)
      clear hg HD0 HW0 HS0 y0 y1
      have y0 := cells_cell (o := 0) HS1.out rfl
      have y1 := cells_cell (o := 1) HS1.out rfl
      go_wp2_with (go_at_call 7; fail)
      refine (jGet_dead HD1.out x y).mono ?_
      rintro e w2 ⟨rfl, hg⟩
      have HD2 := Lib.hid (HD1.out.grn hg)
      have HW2 := Lib.hid (HW1.out.trans hg)
      have HS2 := Lib.hid ((hg.below.block _ (lt_of_block HS1.out)).trans HS1.out)
      clear hg HD1 HW1 HS1 y0 y1
      have y0 := cells_cell (o := 0) HS2.out rfl
      have y1 := cells_cell (o := 1) HS2.out rfl
      go_wp2_with (go_at_call 8; fail)
      refine (jPassed_dead HD2.out x y).mono ?_
      rintro e w3 ⟨rfl, hg⟩
      have HD3 := Lib.hid (HD2.out.grn hg)
      have HW3 := Lib.hid (HW2.out.trans hg)
      have HS3 := Lib.hid ((hg.below.block _ (lt_of_block HS2.out)).trans HS2.out)
      clear hg HD2 HW2 HS2 y0 y1
      go_wp2_with (go_at_call 9; fail)
      refine (jAdvance_dead HD3.out t).mono ?_
      rintro e w4 ⟨rfl, hg⟩
      have HD4 := Lib.hid (HD3.out.grn hg)
      have HW4 := Lib.hid (HW3.out.trans hg)
      have HS4 := Lib.hid ((hg.below.block _ (lt_of_block HS3.out)).trans HS3.out)
      clear hg HD3 HW3 HS3
      have y0 := cells_cell (o := 0) HS4.out rfl
      have y1 := cells_cell (o := 1) HS4.out rfl
      go_wp2_with (go_at_call 10; fail)
      refine (jClear_dead HD4.out x).mono ?_
      rintro e w5 ⟨rfl, hg⟩
      have HD5 := Lib.hid (HD4.out.grn hg)
      have HW5 := Lib.hid (HW4.out.trans hg)
      have HS5 := Lib.hid ((hg.below.block _ (lt_of_block HS4.out)).trans HS4.out)
      clear hg HD4 HW4 HS4 y0 y1
      go_wp2_with (go_at_call 11; fail)
      refine (jNext_dead HD5.out).mono ?_
      rintro e w6 ⟨rfl, hg⟩
      have HD6 := Lib.hid (HD5.out.grn hg)
      have HW6 := Lib.hid (HW5.out.trans hg)
      have HS6 := Lib.hid ((hg.below.block _ (lt_of_block HS5.out)).trans HS5.out)
      clear hg HD5 HW5 HS5
      go_wp2_with (go_at_call 12; fail)
      refine (jNow_dead HD6.out).mono ?_
      rintro e w7 ⟨rfl, hg⟩
      have HD7 := Lib.hid (HD6.out.grn hg)
      have HW7 := Lib.hid (HW6.out.trans hg)
      have HS7 := Lib.hid ((hg.below.block _ (lt_of_block HS6.out)).trans HS6.out)
      clear hg HD6 HW6 HS6
      go_wp2_with (go_at_call 13; fail)
      refine (jCopy_dead HD7.out).mono ?_
      rintro e w8 ⟨rfl, hg⟩
      have HD8 := Lib.hid (HD7.out.grn hg)
      have HW8 := Lib.hid (HW7.out.trans hg)
      have HS8 := Lib.hid ((hg.below.block _ (lt_of_block HS7.out)).trans HS7.out)
      clear hg HD7 HW7 HS7
      go_wp2_with fail
      go_roundw
      case rel => exact ⟨j + 1, by have := HL.out; omega, by go_num, HW8.out⟩
      case measure => simp [intOf]; have := HL.out; omega
    · obtain rfl : j = 2 := by omega
      have Hw := Lib.hid hw
      have hbG := HG.out.below
      have hkn := Lib.hid (jknown_any wr ((hT.below hbG hT.lt).below hw.below (by have := hT.lt; omega)))
      clear hw
      go_wp2_with (go_at_call 14; refine hkn.out.mono ?_; rintro e w3 ⟨rfl, h3⟩)
      go_ret
      exact ⟨rfl, (HG.out.trans Hw.out).below.trans (h3.mono (HG.out.trans Hw.out).below.size)⟩
end Go.Proofs.YtgkodleblkjhcaaDoor
