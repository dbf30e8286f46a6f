/- The reference's Same. -/
import Derived.Test.YteimjkmjofaieaaYState
namespace Go.Proofs.Yteimjkmjofaieaa
open Go.RowKit Go.Sort
set_option linter.unusedVariables false
set_option linter.unusedSimpArgs false
set_option maxRecDepth 100000
set_option maxHeartbeats 3200000 in
theorem sfSame_yes {w : World} {r : Rw} {vS vR uS uR : Value} (h1 : SrcV w vS (r.S.map encB)) (h2 : SrcV w vR (r.R.map encB)) (h3 : SrcV w uS (r.S.map encB)) (h4 : SrcV w uR (r.R.map encB)) :
    Calls Try.prog 18 #[r.val vS vR, r.val uS uR] w fun e w' => e = .returned (.bool true) ∧ Below w.heap.size w w' := by
  obtain ⟨a1, c1, rfl, -, -⟩ := h1.form
  obtain ⟨a2, c2, rfl, -, -⟩ := h2.form
  obtain ⟨a3, c3, rfl, -, -⟩ := h3.form
  obtain ⟨a4, c4, rfl, -, -⟩ := h4.form
  simp only [List.length_map] at *
  unfold Rw.val
  obtain ⟨W, hW⟩ : ∃ W, W = (w.alloc (.cells #[.int .i64 r.c, .slice a1 r.S.length c1, .bool r.busy, .slice a2 r.R.length c2, .int .i64 r.a, .int .i64 r.wr, .int .i64 r.rd] 31)).alloc (.cells #[.int .i64 r.c, .slice a3 r.S.length c3, .bool r.busy, .slice a4 r.R.length c4, .int .i64 r.a, .int .i64 r.wr, .int .i64 r.rd] 31) := ⟨_, rfl⟩
  have hb : Below w.heap.size w W := by rw [hW]; exact (below_alloc _ _).trans ((below_alloc _ _).mono (by simp))
  have hA : W.heap[w.heap.size]? = some (.cells #[.int .i64 r.c, .slice a1 r.S.length c1, .bool r.busy, .slice a2 r.R.length c2, .int .i64 r.a, .int .i64 r.wr, .int .i64 r.rd] 31 (0, 0)) := by rw [hW]; exact ((below_alloc _ _).block w.heap.size (by simp)).trans (heap_alloc_new w _)
  have hB : W.heap[w.heap.size + 1]? = some (.cells #[.int .i64 r.c, .slice a3 r.S.length c3, .bool r.busy, .slice a4 r.R.length c4, .int .i64 r.a, .int .i64 r.wr, .int .i64 r.rd] 31 (0, 0)) := by rw [hW]; exact block_new _ _ _ (by simp)
  have cv1 := src_str (h1.grown hb)
  have cv2 := src_str (h2.grown hb)
  have cv3 := src_str (h3.grown hb)
  have cv4 := src_str (h4.grown hb)
  have k0 := cells_cell (o := 0) hA rfl
  have k1 := cells_cell (o := 1) hA rfl
  have k2 := cells_cell (o := 2) hA rfl
  have k3 := cells_cell (o := 3) hA rfl
  have k4 := cells_cell (o := 4) hA rfl
  have k5 := cells_cell (o := 5) hA rfl
  have k6 := cells_cell (o := 6) hA rfl
  have j0 := cells_cell (o := 0) hB rfl
  have j1 := cells_cell (o := 1) hB rfl
  have j2 := cells_cell (o := 2) hB rfl
  have j3 := cells_cell (o := 3) hB rfl
  have j4 := cells_cell (o := 4) hB rfl
  have j5 := cells_cell (o := 5) hB rfl
  have j6 := cells_cell (o := 6) hB rfl
  have HB := Lib.hid hb
  have HW := Lib.hid hW.symm
  have hq1 : (strB r.S).toList == (strB r.S).toList := by simp
  have hq2 : (strB r.R).toList == (strB r.R).toList := by simp
  generalize strB r.S = sS at *
  generalize strB r.R = sR at *
  generalize r.S.length = n at *
  generalize r.R.length = rn at *
  clear h1 h2 h3 h4 hb hA hB hW
  go_enter Try.func18, Try.ntmps18
  go_upto_region 1 with fail
  rw [HW.out]
  go_wp2_with fail
  go_ret
  exact ⟨by simp, HB.out⟩
end Go.Proofs.Yteimjkmjofaieaa
