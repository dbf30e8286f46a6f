/- The reference: Result, Take. -/
import Derived.Test.YtophkjnniodegaaVRef
namespace Go.Proofs.Ytophkjnniodegaa
open Go.RowKit Go.Sort
set_option linter.unusedVariables false
set_option linter.unusedSimpArgs false
theorem strB_none (L : List UInt8) : (strB L).toList.isEmpty = decide (L.length = 0) := by
  rw [strB_toList]
  cases L <;> simp
section
variable {w : World} {x : Mt}
theorem refResult_any (h : x.Ok) (w : World) : Calls Try.prog 28 #[encM x] w fun e w' => e = .returned (.tuple #[encM (resC x).2.2, .int .i64 (resC x).1, .int .i64 (resC x).2.1]) ∧ Below w.heap.size w w' := by
  have hl := Lib.hid (fun W => refLeft_any h W)
  have hwd := Lib.hid (fun W => refWithdraw_any h W)
  have hne := strB_none x.rest
  generalize hY : witC x = Y at *
  have hres : resC x = if x.is = true ∧ x.wr = 0 ∧ x.rd = 0 ∧ x.rest.length ≠ 0 then (0, 16, x) else Y := by unfold resC; rw [hY]
  rw [hres]
  clear hY hres h
  obtain ⟨yn, ye, y⟩ := Y
  obtain ⟨yi, yS, yk, yw, yr⟩ := y
  generalize x.rest = R at *
  obtain ⟨is, S, k, wr, rd⟩ := x
  simp only at *
  unfold encM cellsM at *
  simp only at *
  by_cases hi : is = true
  case neg =>
    rw [if_neg (fun hc => hi hc.1)]
    obtain rfl : is = false := by simpa using hi
    clear hi
    go_enter Try.func28, Try.ntmps28
    go_wp2_with (go_at_call 29; fail)
    generalize hV0 : World.alloc _ _ = V0
    have hx0 : V0.heap[w.heap.size]? = some (.cells #[.bool false, .string (strB S), .int .i64 k, .int .i64 wr, .int .i64 rd] 28 (0, 0)) := by rw [← hV0]; exact ((below_alloc _ _).block w.heap.size (by simp)).trans (heap_alloc_new w _)
    have hy0 : V0.heap[w.heap.size + 1]? = some (.cells #[.bool false, .string ⟨#[]⟩, .int .i64 0, .int .i64 0, .int .i64 0] 28 (0, 0)) := by rw [← hV0]; exact block_new _ _ _ (by simp)
    have hb0 : Below w.heap.size w V0 := by rw [← hV0]; exact below_two _ _ _
    clear hV0
    refine (hwd.out _).mono ?_
    rintro e V1 ⟨rfl, hb⟩
    have hx1 := (hb.block _ (lt_of_block hx0)).trans hx0
    have hy1 := (hb.block _ (lt_of_block hy0)).trans hy0
    have hb1 : Below w.heap.size w V1 := hb0.trans (hb.mono hb0.size)
    clear hb
    clear hx0 hy0 hb0
    have x0 := cells_cell (o := 0) hx1 rfl
    have d0 := cells_cell (o := 0) hy1 rfl
    have e0 := cells_free hy1 0
    have x1 := cells_cell (o := 1) hx1 rfl
    have d1 := cells_cell (o := 1) hy1 rfl
    have e1 := cells_free hy1 1
    have x2 := cells_cell (o := 2) hx1 rfl
    have d2 := cells_cell (o := 2) hy1 rfl
    have e2 := cells_free hy1 2
    have x3 := cells_cell (o := 3) hx1 rfl
    have d3 := cells_cell (o := 3) hy1 rfl
    have e3 := cells_free hy1 3
    have x4 := cells_cell (o := 4) hx1 rfl
    have d4 := cells_cell (o := 4) hy1 rfl
    have e4 := cells_free hy1 4
    have hlt := lt_of_block hy1
    have HY := Lib.hid hy1
    have HB := Lib.hid hb1
    clear hx1 hy1 hb1
    go_wp2_with fail
    generalize hWF : World.setCell _ _ _ = WF
    have ht : WF.heap[w.heap.size + 1]? = some (.cells (cellsM ⟨yi, yS, yk, yw, yr⟩) 28 (0, 0)) := by rw [← hWF]; exact five_cells HY.out _ _ _ _ _
    have hbw : Below w.heap.size w WF := HB.out.trans (by rw [← hWF]; exact (five_fr _ _ _ _ _ _ _).below (fun x hx => by simp at hx; omega) (by omega))
    clear hWF
    unfold cellsM at ht
    refine bodyPost_ret (v := .tuple #[encM ⟨yi, yS, yk, yw, yr⟩, .int .i64 yn, .int .i64 ye]) (by simp [results, Try.results28, go_sem, encM, cellsM, cells_cell ht (o := 0) rfl, cells_cell ht (o := 1) rfl, cells_cell ht (o := 2) rfl, cells_cell ht (o := 3) rfl, cells_cell ht (o := 4) rfl]) rfl ⟨rfl, hbw⟩
  subst hi
  by_cases hw0 : wr = 0
  case neg =>
    rw [if_neg (fun hc => hw0 hc.2.1)]
    have q0 : (wr == 0) = false := by simp [hw0]
    clear hw0
    go_enter Try.func28, Try.ntmps28
    go_wp2_with (go_at_call 29; fail)
    generalize hV0 : World.alloc _ _ = V0
    have hx0 : V0.heap[w.heap.size]? = some (.cells #[.bool true, .string (strB S), .int .i64 k, .int .i64 wr, .int .i64 rd] 28 (0, 0)) := by rw [← hV0]; exact ((below_alloc _ _).block w.heap.size (by simp)).trans (heap_alloc_new w _)
    have hy0 : V0.heap[w.heap.size + 1]? = some (.cells #[.bool false, .string ⟨#[]⟩, .int .i64 0, .int .i64 0, .int .i64 0] 28 (0, 0)) := by rw [← hV0]; exact block_new _ _ _ (by simp)
    have hb0 : Below w.heap.size w V0 := by rw [← hV0]; exact below_two _ _ _
    clear hV0
    refine (hwd.out _).mono ?_
    rintro e V1 ⟨rfl, hb⟩
    have hx1 := (hb.block _ (lt_of_block hx0)).trans hx0
    have hy1 := (hb.block _ (lt_of_block hy0)).trans hy0
    have hb1 : Below w.heap.size w V1 := hb0.trans (hb.mono hb0.size)
    clear hb
    clear hx0 hy0 hb0
    have x0 := cells_cell (o := 0) hx1 rfl
    have d0 := cells_cell (o := 0) hy1 rfl
    have e0 := cells_free hy1 0
    have x1 := cells_cell (o := 1) hx1 rfl
    have d1 := cells_cell (o := 1) hy1 rfl
    have e1 := cells_free hy1 1
    have x2 := cells_cell (o := 2) hx1 rfl
    have d2 := cells_cell (o := 2) hy1 rfl
    have e2 := cells_free hy1 2
    have x3 := cells_cell (o := 3) hx1 rfl
    have d3 := cells_cell (o := 3) hy1 rfl
    have e3 := cells_free hy1 3
    have x4 := cells_cell (o := 4) hx1 rfl
    have d4 := cells_cell (o := 4) hy1 rfl
    have e4 := cells_free hy1 4
    have hlt := lt_of_block hy1
    have HY := Lib.hid hy1
    have HB := Lib.hid hb1
    clear hx1 hy1 hb1
    go_wp2_with fail
    generalize hWF : World.setCell _ _ _ = WF
    have ht : WF.heap[w.heap.size + 1]? = some (.cells (cellsM ⟨yi, yS, yk, yw, yr⟩) 28 (0, 0)) := by rw [← hWF]; exact five_cells HY.out _ _ _ _ _
    have hbw : Below w.heap.size w WF := HB.out.trans (by rw [← hWF]; exact (five_fr _ _ _ _ _ _ _).below (fun x hx => by simp at hx; omega) (by omega))
    clear hWF
    unfold cellsM at ht
    refine bodyPost_ret (v := .tuple #[encM ⟨yi, yS, yk, yw, yr⟩, .int .i64 yn, .int .i64 ye]) (by simp [results, Try.results28, go_sem, encM, cellsM, cells_cell ht (o := 0) rfl, cells_cell ht (o := 1) rfl, cells_cell ht (o := 2) rfl, cells_cell ht (o := 3) rfl, cells_cell ht (o := 4) rfl]) rfl ⟨rfl, hbw⟩
  subst hw0
  by_cases hr0 : rd = 0
  case neg =>
    rw [if_neg (fun hc => hr0 hc.2.2.1)]
    have q0 : (rd == 0) = false := by simp [hr0]
    clear hr0
    go_enter Try.func28, Try.ntmps28
    go_wp2_with (go_at_call 29; fail)
    generalize hV0 : World.alloc _ _ = V0
    have hx0 : V0.heap[w.heap.size]? = some (.cells #[.bool true, .string (strB S), .int .i64 k, .int .i64 0, .int .i64 rd] 28 (0, 0)) := by rw [← hV0]; exact ((below_alloc _ _).block w.heap.size (by simp)).trans (heap_alloc_new w _)
    have hy0 : V0.heap[w.heap.size + 1]? = some (.cells #[.bool false, .string ⟨#[]⟩, .int .i64 0, .int .i64 0, .int .i64 0] 28 (0, 0)) := by rw [← hV0]; exact block_new _ _ _ (by simp)
    have hb0 : Below w.heap.size w V0 := by rw [← hV0]; exact below_two _ _ _
    clear hV0
    refine (hwd.out _).mono ?_
    rintro e V1 ⟨rfl, hb⟩
    have hx1 := (hb.block _ (lt_of_block hx0)).trans hx0
    have hy1 := (hb.block _ (lt_of_block hy0)).trans hy0
    have hb1 : Below w.heap.size w V1 := hb0.trans (hb.mono hb0.size)
    clear hb
    clear hx0 hy0 hb0
    have x0 := cells_cell (o := 0) hx1 rfl
    have d0 := cells_cell (o := 0) hy1 rfl
    have e0 := cells_free hy1 0
    have x1 := cells_cell (o := 1) hx1 rfl
    have d1 := cells_cell (o := 1) hy1 rfl
    have e1 := cells_free hy1 1
    have x2 := cells_cell (o := 2) hx1 rfl
    have d2 := cells_cell (o := 2) hy1 rfl
    have e2 := cells_free hy1 2
    have x3 := cells_cell (o := 3) hx1 rfl
    have d3 := cells_cell (o := 3) hy1 rfl
    have e3 := cells_free hy1 3
    have x4 := cells_cell (o := 4) hx1 rfl
    have d4 := cells_cell (o := 4) hy1 rfl
    have e4 := cells_free hy1 4
    have hlt := lt_of_block hy1
    have HY := Lib.hid hy1
    have HB := Lib.hid hb1
    clear hx1 hy1 hb1
    go_wp2_with fail
    generalize hWF : World.setCell _ _ _ = WF
    have ht : WF.heap[w.heap.size + 1]? = some (.cells (cellsM ⟨yi, yS, yk, yw, yr⟩) 28 (0, 0)) := by rw [← hWF]; exact five_cells HY.out _ _ _ _ _
    have hbw : Below w.heap.size w WF := HB.out.trans (by rw [← hWF]; exact (five_fr _ _ _ _ _ _ _).below (fun x hx => by simp at hx; omega) (by omega))
    clear hWF
    unfold cellsM at ht
    refine bodyPost_ret (v := .tuple #[encM ⟨yi, yS, yk, yw, yr⟩, .int .i64 yn, .int .i64 ye]) (by simp [results, Try.results28, go_sem, encM, cellsM, cells_cell ht (o := 0) rfl, cells_cell ht (o := 1) rfl, cells_cell ht (o := 2) rfl, cells_cell ht (o := 3) rfl, cells_cell ht (o := 4) rfl]) rfl ⟨rfl, hbw⟩
  subst hr0
  by_cases h0 : R.length = 0
  case pos =>
    rw [if_neg (fun hc => hc.2.2.2 h0)]
    have hq : (strB R).toList.isEmpty = true := by rw [hne]; simp [h0]
    clear hne h0
    generalize strB R = rs at *
    go_enter Try.func28, Try.ntmps28
    go_wp2_with (go_at_call 14; fail)
    generalize hV0 : World.alloc _ _ = V0
    have hx0 : V0.heap[w.heap.size]? = some (.cells #[.bool true, .string (strB S), .int .i64 k, .int .i64 0, .int .i64 0] 28 (0, 0)) := by rw [← hV0]; exact ((below_alloc _ _).block w.heap.size (by simp)).trans (heap_alloc_new w _)
    have hy0 : V0.heap[w.heap.size + 1]? = some (.cells #[.bool false, .string ⟨#[]⟩, .int .i64 0, .int .i64 0, .int .i64 0] 28 (0, 0)) := by rw [← hV0]; exact block_new _ _ _ (by simp)
    have hb0 : Below w.heap.size w V0 := by rw [← hV0]; exact below_two _ _ _
    clear hV0
    refine (hl.out _).mono ?_
    rintro e V1 ⟨rfl, hb⟩
    have hx1 := (hb.block _ (lt_of_block hx0)).trans hx0
    have hy1 := (hb.block _ (lt_of_block hy0)).trans hy0
    have hb1 : Below w.heap.size w V1 := hb0.trans (hb.mono hb0.size)
    clear hb
    clear hx0 hy0 hb0
    have x0 := cells_cell (o := 0) hx1 rfl
    have x1 := cells_cell (o := 1) hx1 rfl
    have x2 := cells_cell (o := 2) hx1 rfl
    have x3 := cells_cell (o := 3) hx1 rfl
    have x4 := cells_cell (o := 4) hx1 rfl
    go_wp2_with (go_at_call 29; fail)
    clear x0 x1 x2 x3 x4
    refine (hwd.out _).mono ?_
    rintro e V2 ⟨rfl, hb⟩
    have hx2 := (hb.block _ (lt_of_block hx1)).trans hx1
    have hy2 := (hb.block _ (lt_of_block hy1)).trans hy1
    have hb2 : Below w.heap.size w V2 := hb1.trans (hb.mono hb1.size)
    clear hb
    clear hx1 hy1 hb1
    have x0 := cells_cell (o := 0) hx2 rfl
    have d0 := cells_cell (o := 0) hy2 rfl
    have e0 := cells_free hy2 0
    have x1 := cells_cell (o := 1) hx2 rfl
    have d1 := cells_cell (o := 1) hy2 rfl
    have e1 := cells_free hy2 1
    have x2 := cells_cell (o := 2) hx2 rfl
    have d2 := cells_cell (o := 2) hy2 rfl
    have e2 := cells_free hy2 2
    have x3 := cells_cell (o := 3) hx2 rfl
    have d3 := cells_cell (o := 3) hy2 rfl
    have e3 := cells_free hy2 3
    have x4 := cells_cell (o := 4) hx2 rfl
    have d4 := cells_cell (o := 4) hy2 rfl
    have e4 := cells_free hy2 4
    have hlt := lt_of_block hy2
    have HY := Lib.hid hy2
    have HB := Lib.hid hb2
    clear hx2 hy2 hb2
    go_wp2_with fail
    generalize hWF : World.setCell _ _ _ = WF
    have ht : WF.heap[w.heap.size + 1]? = some (.cells (cellsM ⟨yi, yS, yk, yw, yr⟩) 28 (0, 0)) := by rw [← hWF]; exact five_cells HY.out _ _ _ _ _
    have hbw : Below w.heap.size w WF := HB.out.trans (by rw [← hWF]; exact (five_fr _ _ _ _ _ _ _).below (fun x hx => by simp at hx; omega) (by omega))
    clear hWF
    unfold cellsM at ht
    refine bodyPost_ret (v := .tuple #[encM ⟨yi, yS, yk, yw, yr⟩, .int .i64 yn, .int .i64 ye]) (by simp [results, Try.results28, go_sem, encM, cellsM, cells_cell ht (o := 0) rfl, cells_cell ht (o := 1) rfl, cells_cell ht (o := 2) rfl, cells_cell ht (o := 3) rfl, cells_cell ht (o := 4) rfl]) rfl ⟨rfl, hbw⟩
  rw [if_pos ⟨rfl, rfl, rfl, h0⟩]
  have hq : (strB R).toList.isEmpty = false := by rw [hne]; simp [h0]
  clear hne h0
  generalize strB R = rs at *
  go_enter Try.func28, Try.ntmps28
  go_wp2_with (go_at_call 14; fail)
  generalize hV0 : World.alloc _ _ = V0
  have hx0 : V0.heap[w.heap.size]? = some (.cells #[.bool true, .string (strB S), .int .i64 k, .int .i64 0, .int .i64 0] 28 (0, 0)) := by rw [← hV0]; exact ((below_alloc _ _).block w.heap.size (by simp)).trans (heap_alloc_new w _)
  have hy0 : V0.heap[w.heap.size + 1]? = some (.cells #[.bool false, .string ⟨#[]⟩, .int .i64 0, .int .i64 0, .int .i64 0] 28 (0, 0)) := by rw [← hV0]; exact block_new _ _ _ (by simp)
  have hb0 : Below w.heap.size w V0 := by rw [← hV0]; exact below_two _ _ _
  clear hV0
  refine (hl.out _).mono ?_
  rintro e V1 ⟨rfl, hb⟩
  have hx1 := (hb.block _ (lt_of_block hx0)).trans hx0
  have hy1 := (hb.block _ (lt_of_block hy0)).trans hy0
  have hb1 : Below w.heap.size w V1 := hb0.trans (hb.mono hb0.size)
  clear hb
  clear hx0 hy0 hb0
  have x0 := cells_cell (o := 0) hx1 rfl
  have d0 := cells_cell (o := 0) hy1 rfl
  have e0 := cells_free hy1 0
  have x1 := cells_cell (o := 1) hx1 rfl
  have d1 := cells_cell (o := 1) hy1 rfl
  have e1 := cells_free hy1 1
  have x2 := cells_cell (o := 2) hx1 rfl
  have d2 := cells_cell (o := 2) hy1 rfl
  have e2 := cells_free hy1 2
  have x3 := cells_cell (o := 3) hx1 rfl
  have d3 := cells_cell (o := 3) hy1 rfl
  have e3 := cells_free hy1 3
  have x4 := cells_cell (o := 4) hx1 rfl
  have d4 := cells_cell (o := 4) hy1 rfl
  have e4 := cells_free hy1 4
  have hlt := lt_of_block hy1
  have HY := Lib.hid hy1
  have HB := Lib.hid hb1
  clear hx1 hy1 hb1
  go_wp2_with fail
  generalize hWF : World.setCell _ _ _ = WF
  have ht : WF.heap[w.heap.size + 1]? = some (.cells (cellsM ⟨true, S, k, 0, 0⟩) 28 (0, 0)) := by rw [← hWF]; exact five_cells HY.out _ _ _ _ _
  have hbw : Below w.heap.size w WF := HB.out.trans (by rw [← hWF]; exact (five_fr _ _ _ _ _ _ _).below (fun x hx => by simp at hx; omega) (by omega))
  clear hWF
  unfold cellsM at ht
  refine bodyPost_ret (v := .tuple #[encM ⟨true, S, k, 0, 0⟩, .int .i64 0, .int .i64 16]) (by simp [results, Try.results28, go_sem, encM, cellsM, cells_cell ht (o := 0) rfl, cells_cell ht (o := 1) rfl, cells_cell ht (o := 2) rfl, cells_cell ht (o := 3) rfl, cells_cell ht (o := 4) rfl]) rfl ⟨rfl, hbw⟩
theorem refTake_any (h : x.Ok) (w : World) (n : Int) : Calls Try.prog 27 #[encM x, .int .i64 n] w fun e w' => e = .returned (.tuple #[encM (takC x n).2.2, .string (strB (takC x n).1), .int .i64 (takC x n).2.1]) ∧ Below w.heap.size w w' := by
  have hl := Lib.hid (fun W => refLeft_any h W)
  have hne := strB_none x.rest
  have hsz := strB_size x.rest
  have hex := fun m : Nat => strB_extract x.rest 0 m
  have hrl := h.rest
  have hle := h.le
  have hsm := h.small
  have htk : takC x n = if n < 0 then ([], 2, x) else if n = 0 then ([], 0, x) else if x.rd ≠ 0 then ([], x.rd, x) else if x.wr ≠ 0 then ([], x.wr, x)
  else if x.rest.length = 0 then ([], 16, x) else (x.rest.take n.toNat, 0, { x with k := x.k + (x.rest.take n.toNat).length }) := rfl
  rw [htk]
  clear htk h
  generalize x.rest = R at *
  obtain ⟨is, S, k, wr, rd⟩ := x
  simp only at *
  unfold encM cellsM at *
  simp only at *
  by_cases hn : n < 0
  case pos =>
    rw [if_pos hn]
    go_enter Try.func27, Try.ntmps27
    go_wp2_with fail
    generalize hWF : World.alloc _ _ = WF
    have ht : WF.heap[w.heap.size + 1]? = some (.cells (cellsM ⟨is, S, k, wr, rd⟩) 28 (0, 0)) := by rw [← hWF]; exact block_new _ _ _ (by simp)
    have hbw : Below w.heap.size w WF := by rw [← hWF]; exact below_two _ _ _
    clear hWF
    unfold cellsM at ht
    refine bodyPost_ret (v := .tuple #[encM ⟨is, S, k, wr, rd⟩, .string ⟨#[]⟩, .int .i64 2]) (by simp [results, Try.results27, go_sem, encM, cellsM, cells_cell ht (o := 0) rfl, cells_cell ht (o := 1) rfl, cells_cell ht (o := 2) rfl, cells_cell ht (o := 3) rfl, cells_cell ht (o := 4) rfl]) rfl ⟨rfl, hbw⟩
  rw [if_neg hn]
  by_cases hn0 : n = 0
  case pos =>
    subst hn0
    rw [if_pos rfl]
    go_enter Try.func27, Try.ntmps27
    go_wp2_with fail
    generalize hWF : World.alloc _ _ = WF
    have ht : WF.heap[w.heap.size + 1]? = some (.cells (cellsM ⟨is, S, k, wr, rd⟩) 28 (0, 0)) := by rw [← hWF]; exact block_new _ _ _ (by simp)
    have hbw : Below w.heap.size w WF := by rw [← hWF]; exact below_two _ _ _
    clear hWF
    unfold cellsM at ht
    refine bodyPost_ret (v := .tuple #[encM ⟨is, S, k, wr, rd⟩, .string ⟨#[]⟩, .int .i64 0]) (by simp [results, Try.results27, go_sem, encM, cellsM, cells_cell ht (o := 0) rfl, cells_cell ht (o := 1) rfl, cells_cell ht (o := 2) rfl, cells_cell ht (o := 3) rfl, cells_cell ht (o := 4) rfl]) rfl ⟨rfl, hbw⟩
  rw [if_neg hn0]
  have q1 : decide (n < 0) = false := by simp; omega
  have q2 : (n == 0) = false := by simp [hn0]
  have hnp : 0 < n := by omega
  clear hn hn0
  by_cases hr : rd = 0
  case neg =>
    rw [if_pos hr]
    have q : (rd != 0) = true := by simp [hr]
    clear hr
    go_enter Try.func27, Try.ntmps27
    go_wp2_with fail
    generalize hV0 : World.alloc _ _ = V0
    have hx0 : V0.heap[w.heap.size]? = some (.cells #[.bool is, .string (strB S), .int .i64 k, .int .i64 wr, .int .i64 rd] 28 (0, 0)) := by rw [← hV0]; exact ((below_alloc _ _).block w.heap.size (by simp)).trans (heap_alloc_new w _)
    have hy0 : V0.heap[w.heap.size + 1]? = some (.cells cells0 28 (0, 0)) := by rw [← hV0]; exact block_new _ _ _ (by simp)
    have hb0 : Below w.heap.size w V0 := by rw [← hV0]; exact below_two _ _ _
    clear hV0
    unfold cells0 at hy0
    refine wp_region_mix (fun W' => W'.heap[w.heap.size]? = some (.cells #[.bool is, .string (strB S), .int .i64 k, .int .i64 wr, .int .i64 rd] 28 (0, 0))) 5 [(true, 0), (true, 1), (true, 2), (false, 3), (true, 4)] (by kernel_rfl) (by kernel_rfl) (fun _ _ _ d _ h => by cases d <;> exact h) ?_
    have HD : Hid (Below V0.heap.size V0 V0.drew) := Lib.hid ((Grn.refl V0).drew 1).below
    have HS : Hid (V0.drew.heap[w.heap.size]? = some (.cells #[.bool is, .string (strB S), .int .i64 k, .int .i64 wr, .int .i64 rd] 28 (0, 0))) := Lib.hid ((HD.out.block _ (lt_of_block hx0)).trans hx0)
    have HT : Hid (V0.drew.heap[w.heap.size + 1]? = some (.cells #[.bool false, .string ⟨#[]⟩, .int .i64 0, .int .i64 0, .int .i64 0] 28 (0, 0))) := Lib.hid ((HD.out.block _ (lt_of_block hy0)).trans hy0)
    simp only [List.map_cons, List.map_nil, List.getD_cons_zero, List.getD_cons_succ, List.drop_succ_cons, List.drop_zero]
    generalize V0.drew = V at *
    refine mix_take (.agg #[.bool is, .string (strB S), .int .i64 k, .int .i64 wr, .int .i64 rd]) HS.out rfl (fun W' hS => by
      have l0 := cells_cell (o := 0) hS rfl
      have l1 := cells_cell (o := 1) hS rfl
      have l2 := cells_cell (o := 2) hS rfl
      have l3 := cells_cell (o := 3) hS rfl
      have l4 := cells_cell (o := 4) hS rfl
      go_simp) ?_
    simp only [Act.put, List.setIfInBounds_toArray, List.set_cons_zero, List.set_cons_succ]
    refine mix_take (.pointer (some ⟨w.heap.size, 4, none⟩)) HS.out rfl (fun W' hS => by go_simp) ?_
    simp only [Act.put, List.setIfInBounds_toArray, List.set_cons_zero, List.set_cons_succ]
    refine mix_take (.int .i64 rd) HS.out rfl (fun W' hS => by
      have l := cells_cell (o := 4) hS rfl
      go_simp) ?_
    simp only [Act.put, List.setIfInBounds_toArray, List.set_cons_zero, List.set_cons_succ]
    refine mix_step rfl (fun K1 hK => ?_)
    have d0 := cells_cell (o := 0) HT.out rfl
    have e0 := cells_free HT.out 0
    have d1 := cells_cell (o := 1) HT.out rfl
    have e1 := cells_free HT.out 1
    have d2 := cells_cell (o := 2) HT.out rfl
    have e2 := cells_free HT.out 2
    have d3 := cells_cell (o := 3) HT.out rfl
    have e3 := cells_free HT.out 3
    have d4 := cells_cell (o := 4) HT.out rfl
    have e4 := cells_free HT.out 4
    have hlt := lt_of_block HT.out
    go_simp
    generalize hWF : World.setCell _ _ _ = WF
    have ht : WF.heap[w.heap.size + 1]? = some (.cells (cellsM ⟨is, S, k, wr, rd⟩) 28 (0, 0)) := by rw [← hWF]; exact five_cells HT.out _ _ _ _ _
    have HS2 : Hid (WF.heap[w.heap.size]? = some (.cells #[.bool is, .string (strB S), .int .i64 k, .int .i64 wr, .int .i64 rd] 28 (0, 0))) := Lib.hid (by rw [← hWF]; exact (five_fr V _ _ _ _ _ _).same HS.out (by simp))
    have hbw : Below w.heap.size w WF := hb0.trans ((HD.out.mono hb0.size).trans (by rw [← hWF]; exact (five_fr V _ _ _ _ _ _).below (fun x hx => by simp at hx; omega) (Nat.le_of_lt (lt_of_block HS.out))))
    clear hWF d0 d1 d2 d3 d4 e0 e1 e2 e3 e4 hlt HT
    refine hK _ _ HS2.out ?_
    clear hK HS
    refine mix_take (.string ⟨#[]⟩) HS2.out rfl (fun W' hS => by go_simp) ?_
    simp only [Act.put, List.setIfInBounds_toArray, List.set_cons_zero, List.set_cons_succ]
    refine mix_nil ?_
    clear hx0 hy0
    go_wp2_with fail
    unfold cellsM at ht
    refine bodyPost_ret (v := .tuple #[encM ⟨is, S, k, wr, rd⟩, .string ⟨#[]⟩, .int .i64 rd]) (by simp [results, Try.results27, go_sem, encM, cellsM, cells_cell ht (o := 0) rfl, cells_cell ht (o := 1) rfl, cells_cell ht (o := 2) rfl, cells_cell ht (o := 3) rfl, cells_cell ht (o := 4) rfl]) rfl ⟨rfl, hbw⟩
  subst hr
  rw [if_neg (by simp)]
  by_cases hw : wr = 0
  case neg =>
    rw [if_pos hw]
    have q : (wr != 0) = true := by simp [hw]
    clear hw
    go_enter Try.func27, Try.ntmps27
    go_wp2_with fail
    generalize hV0 : World.alloc _ _ = V0
    have hx0 : V0.heap[w.heap.size]? = some (.cells #[.bool is, .string (strB S), .int .i64 k, .int .i64 wr, .int .i64 0] 28 (0, 0)) := by rw [← hV0]; exact ((below_alloc _ _).block w.heap.size (by simp)).trans (heap_alloc_new w _)
    have hy0 : V0.heap[w.heap.size + 1]? = some (.cells cells0 28 (0, 0)) := by rw [← hV0]; exact block_new _ _ _ (by simp)
    have hb0 : Below w.heap.size w V0 := by rw [← hV0]; exact below_two _ _ _
    clear hV0
    unfold cells0 at hy0
    refine wp_region_mix (fun W' => W'.heap[w.heap.size]? = some (.cells #[.bool is, .string (strB S), .int .i64 k, .int .i64 wr, .int .i64 0] 28 (0, 0))) 5 [(true, 0), (true, 1), (true, 2), (false, 3), (true, 4)] (by kernel_rfl) (by kernel_rfl) (fun _ _ _ d _ h => by cases d <;> exact h) ?_
    have HD : Hid (Below V0.heap.size V0 V0.drew) := Lib.hid ((Grn.refl V0).drew 1).below
    have HS : Hid (V0.drew.heap[w.heap.size]? = some (.cells #[.bool is, .string (strB S), .int .i64 k, .int .i64 wr, .int .i64 0] 28 (0, 0))) := Lib.hid ((HD.out.block _ (lt_of_block hx0)).trans hx0)
    have HT : Hid (V0.drew.heap[w.heap.size + 1]? = some (.cells #[.bool false, .string ⟨#[]⟩, .int .i64 0, .int .i64 0, .int .i64 0] 28 (0, 0))) := Lib.hid ((HD.out.block _ (lt_of_block hy0)).trans hy0)
    simp only [List.map_cons, List.map_nil, List.getD_cons_zero, List.getD_cons_succ, List.drop_succ_cons, List.drop_zero]
    generalize V0.drew = V at *
    refine mix_take (.agg #[.bool is, .string (strB S), .int .i64 k, .int .i64 wr, .int .i64 0]) HS.out rfl (fun W' hS => by
      have l0 := cells_cell (o := 0) hS rfl
      have l1 := cells_cell (o := 1) hS rfl
      have l2 := cells_cell (o := 2) hS rfl
      have l3 := cells_cell (o := 3) hS rfl
      have l4 := cells_cell (o := 4) hS rfl
      go_simp) ?_
    simp only [Act.put, List.setIfInBounds_toArray, List.set_cons_zero, List.set_cons_succ]
    refine mix_take (.pointer (some ⟨w.heap.size, 3, none⟩)) HS.out rfl (fun W' hS => by go_simp) ?_
    simp only [Act.put, List.setIfInBounds_toArray, List.set_cons_zero, List.set_cons_succ]
    refine mix_take (.int .i64 wr) HS.out rfl (fun W' hS => by
      have l := cells_cell (o := 3) hS rfl
      go_simp) ?_
    simp only [Act.put, List.setIfInBounds_toArray, List.set_cons_zero, List.set_cons_succ]
    refine mix_step rfl (fun K1 hK => ?_)
    have d0 := cells_cell (o := 0) HT.out rfl
    have e0 := cells_free HT.out 0
    have d1 := cells_cell (o := 1) HT.out rfl
    have e1 := cells_free HT.out 1
    have d2 := cells_cell (o := 2) HT.out rfl
    have e2 := cells_free HT.out 2
    have d3 := cells_cell (o := 3) HT.out rfl
    have e3 := cells_free HT.out 3
    have d4 := cells_cell (o := 4) HT.out rfl
    have e4 := cells_free HT.out 4
    have hlt := lt_of_block HT.out
    go_simp
    generalize hWF : World.setCell _ _ _ = WF
    have ht : WF.heap[w.heap.size + 1]? = some (.cells (cellsM ⟨is, S, k, wr, 0⟩) 28 (0, 0)) := by rw [← hWF]; exact five_cells HT.out _ _ _ _ _
    have HS2 : Hid (WF.heap[w.heap.size]? = some (.cells #[.bool is, .string (strB S), .int .i64 k, .int .i64 wr, .int .i64 0] 28 (0, 0))) := Lib.hid (by rw [← hWF]; exact (five_fr V _ _ _ _ _ _).same HS.out (by simp))
    have hbw : Below w.heap.size w WF := hb0.trans ((HD.out.mono hb0.size).trans (by rw [← hWF]; exact (five_fr V _ _ _ _ _ _).below (fun x hx => by simp at hx; omega) (Nat.le_of_lt (lt_of_block HS.out))))
    clear hWF d0 d1 d2 d3 d4 e0 e1 e2 e3 e4 hlt HT
    refine hK _ _ HS2.out ?_
    clear hK HS
    refine mix_take (.string ⟨#[]⟩) HS2.out rfl (fun W' hS => by go_simp) ?_
    simp only [Act.put, List.setIfInBounds_toArray, List.set_cons_zero, List.set_cons_succ]
    refine mix_nil ?_
    clear hx0 hy0
    go_wp2_with fail
    unfold cellsM at ht
    refine bodyPost_ret (v := .tuple #[encM ⟨is, S, k, wr, 0⟩, .string ⟨#[]⟩, .int .i64 wr]) (by simp [results, Try.results27, go_sem, encM, cellsM, cells_cell ht (o := 0) rfl, cells_cell ht (o := 1) rfl, cells_cell ht (o := 2) rfl, cells_cell ht (o := 3) rfl, cells_cell ht (o := 4) rfl]) rfl ⟨rfl, hbw⟩
  subst hw
  rw [if_neg (by simp)]
  by_cases h0 : R.length = 0
  case pos =>
    rw [if_pos h0]
    have hq : (strB R).toList.isEmpty = true := by rw [hne]; simp [h0]
    clear hne h0
    generalize strB R = rs at *
    go_enter Try.func27, Try.ntmps27
    go_wp2_with (go_at_call 14; fail)
    generalize hV0 : World.alloc _ _ = V0
    have hx0 : V0.heap[w.heap.size]? = some (.cells #[.bool is, .string (strB S), .int .i64 k, .int .i64 0, .int .i64 0] 28 (0, 0)) := by rw [← hV0]; exact ((below_alloc _ _).block w.heap.size (by simp)).trans (heap_alloc_new w _)
    have hy0 : V0.heap[w.heap.size + 1]? = some (.cells #[.bool false, .string ⟨#[]⟩, .int .i64 0, .int .i64 0, .int .i64 0] 28 (0, 0)) := by rw [← hV0]; exact block_new _ _ _ (by simp)
    have hb0 : Below w.heap.size w V0 := by rw [← hV0]; exact below_two _ _ _
    clear hV0
    refine (hl.out _).mono ?_
    rintro e V1 ⟨rfl, hb⟩
    have hx1 := (hb.block _ (lt_of_block hx0)).trans hx0
    have hy1 := (hb.block _ (lt_of_block hy0)).trans hy0
    have hb1 : Below w.heap.size w V1 := hb0.trans (hb.mono hb0.size)
    clear hb
    clear hx0 hy0 hb0
    have x0 := cells_cell (o := 0) hx1 rfl
    have d0 := cells_cell (o := 0) hy1 rfl
    have e0 := cells_free hy1 0
    have x1 := cells_cell (o := 1) hx1 rfl
    have d1 := cells_cell (o := 1) hy1 rfl
    have e1 := cells_free hy1 1
    have x2 := cells_cell (o := 2) hx1 rfl
    have d2 := cells_cell (o := 2) hy1 rfl
    have e2 := cells_free hy1 2
    have x3 := cells_cell (o := 3) hx1 rfl
    have d3 := cells_cell (o := 3) hy1 rfl
    have e3 := cells_free hy1 3
    have x4 := cells_cell (o := 4) hx1 rfl
    have d4 := cells_cell (o := 4) hy1 rfl
    have e4 := cells_free hy1 4
    have hlt := lt_of_block hy1
    have HY := Lib.hid hy1
    have HB := Lib.hid hb1
    clear hx1 hy1 hb1
    go_wp2_with fail
    generalize hWF : World.setCell _ _ _ = WF
    have ht : WF.heap[w.heap.size + 1]? = some (.cells (cellsM ⟨is, S, k, 0, 0⟩) 28 (0, 0)) := by rw [← hWF]; exact five_cells HY.out _ _ _ _ _
    have hbw : Below w.heap.size w WF := HB.out.trans (by rw [← hWF]; exact (five_fr _ _ _ _ _ _ _).below (fun x hx => by simp at hx; omega) (by omega))
    clear hWF
    unfold cellsM at ht
    refine bodyPost_ret (v := .tuple #[encM ⟨is, S, k, 0, 0⟩, .string ⟨#[]⟩, .int .i64 16]) (by simp [results, Try.results27, go_sem, encM, cellsM, cells_cell ht (o := 0) rfl, cells_cell ht (o := 1) rfl, cells_cell ht (o := 2) rfl, cells_cell ht (o := 3) rfl, cells_cell ht (o := 4) rfl]) rfl ⟨rfl, hbw⟩
  rw [if_neg h0]
  have hq : (strB R).toList.isEmpty = false := by rw [hne]; simp [h0]
  have hex2 : ∃ N : Nat, N = (R.take n.toNat).length := ⟨_, rfl⟩
  obtain ⟨N, hN⟩ := hex2
  have hNl : N ≤ R.length := by rw [hN, List.length_take]; omega
  have hNm : (N : Int) = min n (R.length : Int) := by rw [hN, List.length_take]; omega
  have hext : Hid ((strB R).extract 0 N = strB (R.take n.toNat)) := Lib.hid (by
    rw [strB_extract, hN, List.length_take]
    congr 1
    simp only [List.drop_zero, Nat.sub_zero]
    by_cases q : n.toNat ≤ R.length
    · rw [Nat.min_eq_left q]
    · rw [Nat.min_eq_right (by omega), List.take_length, List.take_of_length_le (by omega)])
  rw [← hN]
  clear hne h0 hN hex
  generalize strB (R.take n.toNat) = T at *
  generalize strB R = rs at *
  rw [← hsz] at hNl hNm hrl
  clear hsz
  have hkN : (k : Int) + (N : Int) ≤ 65536 := by omega
  have hks : (k : Int) ≤ 65536 := by omega
  have hsl : (rs.size : Int) ≤ 65536 := by omega
  have hK := Lib.hid (show ((k + N : Nat) : Int) = (k : Int) + (N : Int) by omega)
  have hNI : (N : Int) ≤ (rs.size : Int) := by omega
  clear hle hsm hrl hNl
  by_cases hbig : (rs.size : Int) < n
  case pos =>
    obtain rfl : N = rs.size := by omega
    clear hNm hnp q1 q2 hNI
    obtain rfl : rs = T := by have := hext.out; simpa using this
    go_enter Try.func27, Try.ntmps27
    go_wp2_with (go_at_call 14; fail)
    generalize hV0 : World.alloc _ _ = V0
    have hx0 : V0.heap[w.heap.size]? = some (.cells #[.bool is, .string (strB S), .int .i64 k, .int .i64 0, .int .i64 0] 28 (0, 0)) := by rw [← hV0]; exact ((below_alloc _ _).block w.heap.size (by simp)).trans (heap_alloc_new w _)
    have hy0 : V0.heap[w.heap.size + 1]? = some (.cells #[.bool false, .string ⟨#[]⟩, .int .i64 0, .int .i64 0, .int .i64 0] 28 (0, 0)) := by rw [← hV0]; exact block_new _ _ _ (by simp)
    have hb0 : Below w.heap.size w V0 := by rw [← hV0]; exact below_two _ _ _
    clear hV0
    refine (hl.out _).mono ?_
    rintro e V1 ⟨rfl, hb⟩
    have hx1 := (hb.block _ (lt_of_block hx0)).trans hx0
    have hy1 := (hb.block _ (lt_of_block hy0)).trans hy0
    have hb1 : Below w.heap.size w V1 := hb0.trans (hb.mono hb0.size)
    clear hb
    clear hx0 hy0 hb0
    have x0 := cells_cell (o := 0) hx1 rfl
    have x1 := cells_cell (o := 1) hx1 rfl
    have x2 := cells_cell (o := 2) hx1 rfl
    have x3 := cells_cell (o := 3) hx1 rfl
    have x4 := cells_cell (o := 4) hx1 rfl
    have z2 := cells_free hx1 2
    have hlx := lt_of_block hx1
    go_wp2_with fail
    generalize hV0 : World.setCell _ _ _ = V0
    have hx0 : V0.heap[w.heap.size]? = some (.cells #[.bool is, .string (strB S), .int .i64 ((k + rs.size : Nat) : Int), .int .i64 0, .int .i64 0] 28 (0, 0)) := by rw [← hV0, hK.out]; simpa using cells_set hx1 2 (.int .i64 ((k : Int) + (rs.size : Int)))
    have hy0 : V0.heap[w.heap.size + 1]? = some (.cells cells0 28 (0, 0)) := by rw [← hV0]; exact cells_set_other hy1 (by omega) _ _
    have hb0 : Below w.heap.size w V0 := by rw [← hV0]; exact hb1.trans ((fr_setCell V1 ⟨w.heap.size, 2, none⟩ _).below (fun x hx => by simp at hx; omega) (by omega))
    clear hV0 hx1 hy1 hb1 x0 x1 x2 x3 x4 z2
    unfold cells0 at hy0
    refine wp_region_mix (fun W' => W'.heap[w.heap.size]? = some (.cells #[.bool is, .string (strB S), .int .i64 ((k + rs.size : Nat) : Int), .int .i64 0, .int .i64 0] 28 (0, 0))) 5 [(true, 0), (true, 1), (true, 2), (true, 3), (false, 4)] (by kernel_rfl) (by kernel_rfl) (fun _ _ _ d _ h => by cases d <;> exact h) ?_
    have HD : Hid (Below V0.heap.size V0 V0.drew) := Lib.hid ((Grn.refl V0).drew 1).below
    have HS : Hid (V0.drew.heap[w.heap.size]? = some (.cells #[.bool is, .string (strB S), .int .i64 ((k + rs.size : Nat) : Int), .int .i64 0, .int .i64 0] 28 (0, 0))) := Lib.hid ((HD.out.block _ (lt_of_block hx0)).trans hx0)
    have HT : Hid (V0.drew.heap[w.heap.size + 1]? = some (.cells #[.bool false, .string ⟨#[]⟩, .int .i64 0, .int .i64 0, .int .i64 0] 28 (0, 0))) := Lib.hid ((HD.out.block _ (lt_of_block hy0)).trans hy0)
    simp only [List.map_cons, List.map_nil, List.getD_cons_zero, List.getD_cons_succ, List.drop_succ_cons, List.drop_zero]
    generalize V0.drew = V at *
    refine mix_take (.agg #[.bool is, .string (strB S), .int .i64 ((k + rs.size : Nat) : Int), .int .i64 0, .int .i64 0]) HS.out rfl (fun W' hS => by
      have l0 := cells_cell (o := 0) hS rfl
      have l1 := cells_cell (o := 1) hS rfl
      have l2 := cells_cell (o := 2) hS rfl
      have l3 := cells_cell (o := 3) hS rfl
      have l4 := cells_cell (o := 4) hS rfl
      go_simp) ?_
    simp only [Act.put, List.setIfInBounds_toArray, List.set_cons_zero, List.set_cons_succ]
    refine mix_move (.tmp 7) (.string rs) rfl HS.out rfl rfl ?_
    simp only [Act.put, List.setIfInBounds_toArray, List.set_cons_zero, List.set_cons_succ]
    refine mix_move (.tmp 1) (.int .i64 ((rs.size : Nat) : Int)) rfl HS.out rfl rfl ?_
    simp only [Act.put, List.setIfInBounds_toArray, List.set_cons_zero, List.set_cons_succ]
    refine mix_take (.string rs) HS.out rfl (fun W' hS => by go_simp) ?_
    simp only [Act.put, List.setIfInBounds_toArray, List.set_cons_zero, List.set_cons_succ]
    refine mix_step rfl (fun K1 hK => ?_)
    have d0 := cells_cell (o := 0) HT.out rfl
    have e0 := cells_free HT.out 0
    have d1 := cells_cell (o := 1) HT.out rfl
    have e1 := cells_free HT.out 1
    have d2 := cells_cell (o := 2) HT.out rfl
    have e2 := cells_free HT.out 2
    have d3 := cells_cell (o := 3) HT.out rfl
    have e3 := cells_free HT.out 3
    have d4 := cells_cell (o := 4) HT.out rfl
    have e4 := cells_free HT.out 4
    have hlt := lt_of_block HT.out
    go_simp
    generalize hWF : World.setCell _ _ _ = WF
    have ht : WF.heap[w.heap.size + 1]? = some (.cells (cellsM ⟨is, S, k + rs.size, 0, 0⟩) 28 (0, 0)) := by rw [← hWF]; exact five_cells HT.out _ _ _ _ _
    have HS2 : Hid (WF.heap[w.heap.size]? = some (.cells #[.bool is, .string (strB S), .int .i64 ((k + rs.size : Nat) : Int), .int .i64 0, .int .i64 0] 28 (0, 0))) := Lib.hid (by rw [← hWF]; exact (five_fr V _ _ _ _ _ _).same HS.out (by simp))
    have hbw : Below w.heap.size w WF := hb0.trans ((HD.out.mono hb0.size).trans (by rw [← hWF]; exact (five_fr V _ _ _ _ _ _).below (fun x hx => by simp at hx; omega) (Nat.le_of_lt (lt_of_block HS.out))))
    clear hWF d0 d1 d2 d3 d4 e0 e1 e2 e3 e4 hlt HT
    refine hK _ _ HS2.out ?_
    clear hK HS
    refine mix_nil ?_
    clear hx0 hy0
    go_wp2_with fail
    unfold cellsM at ht
    refine bodyPost_ret (v := .tuple #[encM ⟨is, S, k + rs.size, 0, 0⟩, .string rs, .int .i64 0]) (by simp [results, Try.results27, go_sem, encM, cellsM, cells_cell ht (o := 0) rfl, cells_cell ht (o := 1) rfl, cells_cell ht (o := 2) rfl, cells_cell ht (o := 3) rfl, cells_cell ht (o := 4) rfl]) rfl ⟨rfl, hbw⟩
  case neg =>
    obtain rfl : n = (N : Int) := by omega
    have hbg : decide ((rs.size : Int) < (N : Int)) = false := by simp; omega
    clear hNm hbig
    go_enter Try.func27, Try.ntmps27
    go_wp2_with (go_at_call 14; fail)
    generalize hV0 : World.alloc _ _ = V0
    have hx0 : V0.heap[w.heap.size]? = some (.cells #[.bool is, .string (strB S), .int .i64 k, .int .i64 0, .int .i64 0] 28 (0, 0)) := by rw [← hV0]; exact ((below_alloc _ _).block w.heap.size (by simp)).trans (heap_alloc_new w _)
    have hy0 : V0.heap[w.heap.size + 1]? = some (.cells #[.bool false, .string ⟨#[]⟩, .int .i64 0, .int .i64 0, .int .i64 0] 28 (0, 0)) := by rw [← hV0]; exact block_new _ _ _ (by simp)
    have hb0 : Below w.heap.size w V0 := by rw [← hV0]; exact below_two _ _ _
    clear hV0
    refine (hl.out _).mono ?_
    rintro e V1 ⟨rfl, hb⟩
    have hx1 := (hb.block _ (lt_of_block hx0)).trans hx0
    have hy1 := (hb.block _ (lt_of_block hy0)).trans hy0
    have hb1 : Below w.heap.size w V1 := hb0.trans (hb.mono hb0.size)
    clear hb
    clear hx0 hy0 hb0
    have x0 := cells_cell (o := 0) hx1 rfl
    have x1 := cells_cell (o := 1) hx1 rfl
    have x2 := cells_cell (o := 2) hx1 rfl
    have x3 := cells_cell (o := 3) hx1 rfl
    have x4 := cells_cell (o := 4) hx1 rfl
    have z2 := cells_free hx1 2
    have hlx := lt_of_block hx1
    go_wp2_with fail
    generalize hV0 : World.setCell _ _ _ = V0
    have hx0 : V0.heap[w.heap.size]? = some (.cells #[.bool is, .string (strB S), .int .i64 ((k + N : Nat) : Int), .int .i64 0, .int .i64 0] 28 (0, 0)) := by rw [← hV0, hK.out]; simpa using cells_set hx1 2 (.int .i64 ((k : Int) + (N : Int)))
    have hy0 : V0.heap[w.heap.size + 1]? = some (.cells cells0 28 (0, 0)) := by rw [← hV0]; exact cells_set_other hy1 (by omega) _ _
    have hb0 : Below w.heap.size w V0 := by rw [← hV0]; exact hb1.trans ((fr_setCell V1 ⟨w.heap.size, 2, none⟩ _).below (fun x hx => by simp at hx; omega) (by omega))
    clear hV0 hx1 hy1 hb1 x0 x1 x2 x3 x4 z2
    unfold cells0 at hy0
    refine wp_region_mix (fun W' => W'.heap[w.heap.size]? = some (.cells #[.bool is, .string (strB S), .int .i64 ((k + N : Nat) : Int), .int .i64 0, .int .i64 0] 28 (0, 0))) 5 [(true, 0), (true, 1), (true, 2), (true, 3), (false, 4)] (by kernel_rfl) (by kernel_rfl) (fun _ _ _ d _ h => by cases d <;> exact h) ?_
    have HD : Hid (Below V0.heap.size V0 V0.drew) := Lib.hid ((Grn.refl V0).drew 1).below
    have HS : Hid (V0.drew.heap[w.heap.size]? = some (.cells #[.bool is, .string (strB S), .int .i64 ((k + N : Nat) : Int), .int .i64 0, .int .i64 0] 28 (0, 0))) := Lib.hid ((HD.out.block _ (lt_of_block hx0)).trans hx0)
    have HT : Hid (V0.drew.heap[w.heap.size + 1]? = some (.cells #[.bool false, .string ⟨#[]⟩, .int .i64 0, .int .i64 0, .int .i64 0] 28 (0, 0))) := Lib.hid ((HD.out.block _ (lt_of_block hy0)).trans hy0)
    simp only [List.map_cons, List.map_nil, List.getD_cons_zero, List.getD_cons_succ, List.drop_succ_cons, List.drop_zero]
    generalize V0.drew = V at *
    refine mix_take (.agg #[.bool is, .string (strB S), .int .i64 ((k + N : Nat) : Int), .int .i64 0, .int .i64 0]) HS.out rfl (fun W' hS => by
      have l0 := cells_cell (o := 0) hS rfl
      have l1 := cells_cell (o := 1) hS rfl
      have l2 := cells_cell (o := 2) hS rfl
      have l3 := cells_cell (o := 3) hS rfl
      have l4 := cells_cell (o := 4) hS rfl
      go_simp) ?_
    simp only [Act.put, List.setIfInBounds_toArray, List.set_cons_zero, List.set_cons_succ]
    refine mix_move (.tmp 7) (.string rs) rfl HS.out rfl rfl ?_
    simp only [Act.put, List.setIfInBounds_toArray, List.set_cons_zero, List.set_cons_succ]
    refine mix_move (.tmp 1) (.int .i64 ((N : Nat) : Int)) rfl HS.out rfl rfl ?_
    simp only [Act.put, List.setIfInBounds_toArray, List.set_cons_zero, List.set_cons_succ]
    refine mix_take (.string (rs.extract 0 N)) HS.out rfl (fun W' hS => by go_simp) ?_
    simp only [Act.put, List.setIfInBounds_toArray, List.set_cons_zero, List.set_cons_succ]
    refine mix_step rfl (fun K1 hK => ?_)
    have d0 := cells_cell (o := 0) HT.out rfl
    have e0 := cells_free HT.out 0
    have d1 := cells_cell (o := 1) HT.out rfl
    have e1 := cells_free HT.out 1
    have d2 := cells_cell (o := 2) HT.out rfl
    have e2 := cells_free HT.out 2
    have d3 := cells_cell (o := 3) HT.out rfl
    have e3 := cells_free HT.out 3
    have d4 := cells_cell (o := 4) HT.out rfl
    have e4 := cells_free HT.out 4
    have hlt := lt_of_block HT.out
    go_simp
    generalize hWF : World.setCell _ _ _ = WF
    have ht : WF.heap[w.heap.size + 1]? = some (.cells (cellsM ⟨is, S, k + N, 0, 0⟩) 28 (0, 0)) := by rw [← hWF]; exact five_cells HT.out _ _ _ _ _
    have HS2 : Hid (WF.heap[w.heap.size]? = some (.cells #[.bool is, .string (strB S), .int .i64 ((k + N : Nat) : Int), .int .i64 0, .int .i64 0] 28 (0, 0))) := Lib.hid (by rw [← hWF]; exact (five_fr V _ _ _ _ _ _).same HS.out (by simp))
    have hbw : Below w.heap.size w WF := hb0.trans ((HD.out.mono hb0.size).trans (by rw [← hWF]; exact (five_fr V _ _ _ _ _ _).below (fun x hx => by simp at hx; omega) (Nat.le_of_lt (lt_of_block HS.out))))
    clear hWF d0 d1 d2 d3 d4 e0 e1 e2 e3 e4 hlt HT
    refine hK _ _ HS2.out ?_
    clear hK HS
    refine mix_nil ?_
    clear hx0 hy0
    rw [hext.out]
    go_wp2_with fail
    unfold cellsM at ht
    refine bodyPost_ret (v := .tuple #[encM ⟨is, S, k + N, 0, 0⟩, .string T, .int .i64 0]) (by simp [results, Try.results27, go_sem, encM, cellsM, cells_cell ht (o := 0) rfl, cells_cell ht (o := 1) rfl, cells_cell ht (o := 2) rfl, cells_cell ht (o := 3) rfl, cells_cell ht (o := 4) rfl]) rfl ⟨rfl, hbw⟩
end
end Go.Proofs.Ytophkjnniodegaa
