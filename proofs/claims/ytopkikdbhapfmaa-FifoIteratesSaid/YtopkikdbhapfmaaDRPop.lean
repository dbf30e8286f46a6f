/- The reference: Pop. -/
import Derived.Test.YtopkikdbhapfmaaDRRem
namespace Go.Proofs.Ytopkikdbhapfmaa
open Go.RowKit Go.Sort Go.MapKept
set_option linter.unusedVariables false
set_option linter.unusedSimpArgs false

set_option maxRecDepth 100000 in
set_option maxHeartbeats 1600000 in
theorem refPop_empty {w : World} {v : Value} {g : Nat} (h : SrcR w v []) :
    Calls Try.prog 25 #[rq v g] w fun e w' => e = .returned (.tuple #[rq v g, .int .i64 0, .int .u64 0, .int .i64 9]) ∧ Below w.heap.size w w' := by
  obtain ⟨a, c, rfl, hc1, hc2⟩ := h.form
  obtain ⟨N, hN⟩ : ∃ N, N = ([] : Qu).length := ⟨_, rfl⟩
  rw [← hN] at h hc1 ⊢
  obtain ⟨W, hW⟩ : ∃ W, (w.alloc (.cells #[.slice a N c, .int .u64 ((g : Nat) : Int)] 29)).alloc (.cells #[.slice none 0 0, .int .u64 0] 29) = W := ⟨_, rfl⟩
  have hb : Below w.heap.size w W := by rw [← hW]; exact (below_alloc _ _).trans ((below_alloc _ _).mono (by simp))
  have HP := Lib.hid (refFront_empty (g := g) (h.grown hb))
  have HB := Lib.hid hb
  have HS : Hid (W.heap.size = w.heap.size + 2) := Lib.hid (by rw [← hW]; simp)
  have H0 : Hid (W.heap[w.heap.size]? = some (.cells #[.slice a N c, .int .u64 ((g : Nat) : Int)] 29 (0, 0))) := Lib.hid (by
    rw [← hW]; exact ((below_alloc _ _).block _ (by simp)).trans (heap_alloc_new w _))
  have H1 : Hid (W.heap[w.heap.size + 1]? = some (.cells #[.slice none 0 0, .int .u64 0] 29 (0, 0))) := Lib.hid (by
    rw [← hW]; exact block_new _ _ _ (by simp))
  have k0 := cells_cell (o := 0) H0.out rfl
  have k1 := cells_cell (o := 1) H0.out rfl
  have s0 : w.heap.size < W.heap.size := by have := HS.out; omega
  unfold rq at *
  have HW := Lib.hid hW
  clear h hb hW hN
  go_enter Try.func25, Try.ntmps25
  go_wp2_with (at_builtin; fail)
  rw [HW.out]
  clear HW
  go_wp2_with (go_at_call 12; fail)
  refine HP.out.mono ?_
  rintro e w1 ⟨rfl, hg⟩
  have hb1 := hg.below
  have H01 := Lib.hid ((hb1.block w.heap.size (by have := HS.out; omega)).trans H0.out)
  have H11 := Lib.hid ((hb1.block (w.heap.size + 1) (by have := HS.out; omega)).trans H1.out)
  have k0 := cells_cell (o := 0) H01.out rfl
  have k1 := cells_cell (o := 1) H01.out rfl
  have r0 := cells_cell (o := 0) H11.out rfl
  have r1 := cells_cell (o := 1) H11.out rfl
  have z0 := cells_free H11.out 0
  have z1 := cells_free H11.out 1
  have l1 : w.heap.size + 1 < w1.heap.size := lt_of_block H11.out
  have HB1 := Lib.hid (HB.out.trans (hb1.mono HB.out.size))
  clear hb1 hg
  have hput := cells_put2 H11.out (.slice a N c) (.int .u64 ((g : Nat) : Int))
  have HFR := Lib.hid (fr_put2 w1 (w.heap.size + 1) (.slice a N c) (.int .u64 ((g : Nat) : Int)))
  go_wp2_with fail
  refine bodyPost_ret (v := .tuple #[.agg #[.slice a N c, .int .u64 ((g : Nat) : Int)], .int .i64 0, .int .u64 0, .int .i64 9]) (by simp [results, Try.results25, go_sem, cells_cell hput (o := 0) rfl, cells_cell hput (o := 1) rfl]) rfl ⟨rfl, ?_⟩
  exact HB1.out.trans (HFR.out.below (fun y hy => by simp at hy; omega) HB1.out.size)

set_option maxRecDepth 100000 in
set_option maxHeartbeats 3200000 in
theorem refPop_yes {w : World} {v : Value} {g t : Nat} {x : Int} {R : Qu} (h : SrcR w v ((t, x) :: R)) (hl : ((t, x) :: R).length ≤ 1000) (hi : Inc 0 ((t, x) :: R)) :
    Calls Try.prog 25 #[rq v g] w fun e w' => ∃ v', e = .returned (.tuple #[rq v' g, .int .i64 x, .int .u64 ((t : Nat) : Int), .int .i64 0]) ∧ RowR w' w.heap.size v' R ∧ Below w.heap.size w w' := by
  obtain ⟨a, c, rfl, hc1, hc2⟩ := h.form
  have hR : R.length ≤ 1000000 := by rw [List.length_cons] at hl; omega
  obtain ⟨N, hN⟩ : ∃ N, N = ((t, x) :: R).length := ⟨_, rfl⟩
  have HL : Hid (((t, x) :: R).length ≤ 1000) := Lib.hid hl
  rw [← hN] at h hc1 ⊢
  obtain ⟨W, hW⟩ : ∃ W, (w.alloc (.cells #[.slice a N c, .int .u64 ((g : Nat) : Int)] 29)).alloc (.cells #[.slice none 0 0, .int .u64 0] 29) = W := ⟨_, rfl⟩
  have hb : Below w.heap.size w W := by rw [← hW]; exact (below_alloc _ _).trans ((below_alloc _ _).mono (by simp))
  have HP := Lib.hid (refFront_yes (g := g) (h.grown hb) hR)
  have HH := Lib.hid h
  have HI := Lib.hid hi
  have HB := Lib.hid hb
  have HS : Hid (W.heap.size = w.heap.size + 2) := Lib.hid (by rw [← hW]; simp)
  have H0 : Hid (W.heap[w.heap.size]? = some (.cells #[.slice a N c, .int .u64 ((g : Nat) : Int)] 29 (0, 0))) := Lib.hid (by
    rw [← hW]; exact ((below_alloc _ _).block _ (by simp)).trans (heap_alloc_new w _))
  have H1 : Hid (W.heap[w.heap.size + 1]? = some (.cells #[.slice none 0 0, .int .u64 0] 29 (0, 0))) := Lib.hid (by
    rw [← hW]; exact block_new _ _ _ (by simp))
  have k0 := cells_cell (o := 0) H0.out rfl
  have k1 := cells_cell (o := 1) H0.out rfl
  have s0 : w.heap.size < W.heap.size := by have := HS.out; omega
  unfold rq at *
  have HW := Lib.hid hW
  clear h hb hW hN hl hR hi
  go_enter Try.func25, Try.ntmps25
  go_wp2_with (at_builtin; fail)
  rw [HW.out]
  clear HW
  go_wp2_with (go_at_call 12; fail)
  refine HP.out.mono ?_
  rintro e w1 ⟨rfl, hg⟩
  have hb1 := hg.below
  have H01 := Lib.hid ((hb1.block w.heap.size (by have := HS.out; omega)).trans H0.out)
  have H11 := Lib.hid ((hb1.block (w.heap.size + 1) (by have := HS.out; omega)).trans H1.out)
  have HB1 := Lib.hid (HB.out.trans (hb1.mono HB.out.size))
  have k0 := cells_cell (o := 0) H01.out rfl
  have k1 := cells_cell (o := 1) H01.out rfl
  have l0 : w.heap.size < w1.heap.size := lt_of_block H01.out
  clear hb1 hg s0 HP H0 H1 HB HS
  have HR := refRemove_yes (g := g) (A := []) (HH.out.grown HB1.out) HL.out HI.out
  unfold rq at HR
  rw [List.nil_append] at HR
  have HR := Lib.hid HR
  go_wp2_with (go_at_call 26; fail)
  refine HR.out.mono ?_
  rintro e w2 ⟨v', rfl, hrow, hb2⟩
  have H12 := Lib.hid ((hb2.block (w.heap.size + 1) (lt_of_block H11.out)).trans H11.out)
  have HB2 := Lib.hid (HB1.out.trans (hb2.mono HB1.out.size))
  obtain ⟨va, vc, rfl, _, _⟩ := hrow.form
  have HRW := Lib.hid hrow
  have hs21 : Hid (w1.heap.size ≤ w2.heap.size) := Lib.hid hb2.size
  clear hb2 hrow HR k0 k1
  generalize R.length = n2 at *
  obtain ⟨W3, hW3⟩ : ∃ W3, w2.alloc (.cells #[.slice va n2 vc, .int .u64 ((g : Nat) : Int)] 29) = W3 := ⟨_, rfl⟩
  have HA3 : Hid (Below w2.heap.size w2 W3) := Lib.hid (by rw [← hW3]; exact below_alloc _ _)
  have H23 : Hid (W3.heap[w2.heap.size]? = some (.cells #[.slice va n2 vc, .int .u64 ((g : Nat) : Int)] 29 (0, 0))) := Lib.hid (by rw [← hW3]; exact heap_alloc_new w2 _)
  have H13 := Lib.hid ((HA3.out.block (w.heap.size + 1) (lt_of_block H12.out)).trans H12.out)
  have r0 := cells_cell (o := 0) H13.out rfl
  have r1 := cells_cell (o := 1) H13.out rfl
  have z0 := cells_free H13.out 0
  have z1 := cells_free H13.out 1
  have l1 : w.heap.size + 1 < W3.heap.size := lt_of_block H13.out
  have k0 := cells_cell (o := 0) H23.out rfl
  have k1 := cells_cell (o := 1) H23.out rfl
  have l2 : w2.heap.size < W3.heap.size := lt_of_block H23.out
  have hput := cells_put2 H13.out (.slice va n2 vc) (.int .u64 ((g : Nat) : Int))
  have HFR := Lib.hid (fr_put2 W3 (w.heap.size + 1) (.slice va n2 vc) (.int .u64 ((g : Nat) : Int)))
  go_wp2_with fail
  refine bodyPost_ret (v := .tuple #[.agg #[.slice va n2 vc, .int .u64 ((g : Nat) : Int)], .int .i64 x, .int .u64 ((t : Nat) : Int), .int .i64 0]) (by simp [results, Try.results25, go_sem, cells_cell hput (o := 0) rfl, cells_cell hput (o := 1) rfl]) rfl ⟨_, rfl, ?_, ?_⟩
  · refine RowR.lower (RowR.fr (HRW.out.below HA3.out) HFR.out (fun g' hg' hm => ?_)) (show w.heap.size ≤ w1.heap.size by omega)
    have := (World.ownsRow.lt HRW.out g' hg').1
    have := lt_of_block H11.out
    simp at hm
    omega
  · exact (HB2.out.trans (HA3.out.mono HB2.out.size)).trans (HFR.out.below (fun y hy => by simp at hy; omega) (by have := HA3.out.size; have := HB2.out.size; omega))
end Go.Proofs.Ytopkikdbhapfmaa
