/- The reference. -/
import Derived.Test.YtophkjnniodegaaVPure
namespace Go.Proofs.Ytophkjnniodegaa
open Go.RowKit Go.Sort
set_option linter.unusedVariables false
set_option linter.unusedSimpArgs false
def cellsM (x : Mt) : Array Value := #[.bool x.is, .string (strB x.S), .int .i64 ((x.k : Nat) : Int), .int .i64 x.wr, .int .i64 x.rd]
def encM (x : Mt) : Value := .agg (cellsM x)
def cells0 : Array Value := #[.bool false, .string ⟨#[]⟩, .int .i64 0, .int .i64 0, .int .i64 0]
theorem below_two (w : World) (o1 o2 : Obj) : Below w.heap.size w ((w.alloc o1).alloc o2) := (below_alloc w o1).trans ((below_alloc _ o2).mono (by simp))
theorem five_cells {w : World} {b : Nat} {a0 a1 a2 a3 a4 : Value} {t : TypeId} (h : w.heap[b]? = some (.cells #[a0, a1, a2, a3, a4] t (0, 0))) (p0 p1 p2 p3 p4 : Value) :
    (((((w.setCell ⟨b, 0, none⟩ p0).setCell ⟨b, 1, none⟩ p1).setCell ⟨b, 2, none⟩ p2).setCell ⟨b, 3, none⟩ p3).setCell ⟨b, 4, none⟩ p4).heap[b]? = some (.cells #[p0, p1, p2, p3, p4] t (0, 0)) := by
  simpa using cells_set (cells_set (cells_set (cells_set (cells_set h 0 p0) 1 p1) 2 p2) 3 p3) 4 p4
theorem five_fr (w : World) (b : Nat) (p0 p1 p2 p3 p4 : Value) : Fr [b] w (((((w.setCell ⟨b, 0, none⟩ p0).setCell ⟨b, 1, none⟩ p1).setCell ⟨b, 2, none⟩ p2).setCell ⟨b, 3, none⟩ p3).setCell ⟨b, 4, none⟩ p4) :=
  ((((fr_setCell w ⟨b, 0, none⟩ p0).trans' (fr_setCell _ ⟨b, 1, none⟩ p1)).trans' (fr_setCell _ ⟨b, 2, none⟩ p2)).trans' (fr_setCell _ ⟨b, 3, none⟩ p3)).trans' (fr_setCell _ ⟨b, 4, none⟩ p4)
section
variable {w : World} {x : Mt}

theorem refLeft_any (h : x.Ok) (w : World) : Calls Try.prog 14 #[encM x] w fun e w' => e = .returned (.string (strB x.rest)) ∧ Below w.heap.size w w' := by
  unfold encM cellsM Mt.rest
  have h1 : (x.k : Int) ≤ ((strB x.S).size : Int) := by rw [strB_size]; have := h.le; omega
  have h2 : (strB x.S).extract x.k (strB x.S).size = strB (x.S.drop x.k) := by
    rw [strB_extract, strB_size]
    congr 1
    exact List.take_of_length_le (by simp)
  have H2 := Lib.hid h2
  have hb := Lib.hid (below_alloc w (.cells (cellsM x) 28))
  unfold cellsM at hb
  generalize strB (x.S.drop x.k) = R at *
  generalize strB x.S = s at *
  clear h h2
  go_enter Try.func14, Try.ntmps14
  go_wp2
  go_ret
  exact ⟨by rw [← H2.out]; rfl, hb.out⟩
theorem refOffer_any (h : x.Ok) (w : World) (L : List UInt8) : Calls Try.prog 26 #[encM x, .string (strB L)] w fun e w' => e = .returned (.tuple #[encM (offC x L).2, .int .i64 (offC x L).1]) ∧ Below w.heap.size w w' := by
  obtain ⟨is, S, k, wr, rd⟩ := x
  unfold offC
  simp only
  clear h
  cases is with
  | true =>
    rw [if_pos rfl]
    unfold encM cellsM
    simp only
    go_enter Try.func26, Try.ntmps26
    go_wp2_with fail
    generalize hWF : World.alloc _ _ = WF
    have ht : WF.heap[w.heap.size + 1]? = some (.cells (cellsM ⟨true, S, k, wr, rd⟩) 28 (0, 0)) := by rw [← hWF]; exact block_new _ _ _ (by simp)
    have hbw : Below w.heap.size w WF := by rw [← hWF]; exact below_two _ _ _
    clear hWF
    unfold cellsM at ht
    refine bodyPost_ret (v := .tuple #[encM ⟨true, S, k, wr, rd⟩, .int .i64 11]) (by simp [results, Try.results26, go_sem, encM, cellsM, cells_cell ht (o := 0) rfl, cells_cell ht (o := 1) rfl, cells_cell ht (o := 2) rfl, cells_cell ht (o := 3) rfl, cells_cell ht (o := 4) rfl]) rfl ⟨rfl, hbw⟩
  | false =>
    rw [if_neg (by simp)]
    by_cases hr : rd = 0
    · rw [if_neg (by simp [hr])]
      subst hr
      by_cases hw : wr = 0
      · rw [if_neg (by simp [hw])]
        subst hw
        unfold encM cellsM
        simp only
        go_enter Try.func26, Try.ntmps26
        go_wp2_with fail
        generalize hWF : World.alloc _ _ = WF
        have ht : WF.heap[w.heap.size + 1]? = some (.cells (cellsM ⟨true, L, 0, 0, 0⟩) 28 (0, 0)) := by rw [← hWF]; exact block_new _ _ _ (by simp)
        have hbw : Below w.heap.size w WF := by rw [← hWF]; exact below_two _ _ _
        clear hWF
        unfold cellsM at ht
        refine bodyPost_ret (v := .tuple #[encM ⟨true, L, 0, 0, 0⟩, .int .i64 0]) (by simp [results, Try.results26, go_sem, encM, cellsM, cells_cell ht (o := 0) rfl, cells_cell ht (o := 1) rfl, cells_cell ht (o := 2) rfl, cells_cell ht (o := 3) rfl, cells_cell ht (o := 4) rfl]) rfl ⟨rfl, hbw⟩
      · rw [if_pos hw]
        have q : (wr != 0) = true := by simp [hw]
        clear hw
        unfold encM cellsM
        simp only
        go_enter Try.func26, Try.ntmps26
        go_wp2_with fail
        generalize hWF : World.alloc _ _ = WF
        have ht : WF.heap[w.heap.size + 1]? = some (.cells (cellsM ⟨false, S, k, wr, 0⟩) 28 (0, 0)) := by rw [← hWF]; exact block_new _ _ _ (by simp)
        have hbw : Below w.heap.size w WF := by rw [← hWF]; exact below_two _ _ _
        clear hWF
        unfold cellsM at ht
        refine bodyPost_ret (v := .tuple #[encM ⟨false, S, k, wr, 0⟩, .int .i64 14]) (by simp [results, Try.results26, go_sem, encM, cellsM, cells_cell ht (o := 0) rfl, cells_cell ht (o := 1) rfl, cells_cell ht (o := 2) rfl, cells_cell ht (o := 3) rfl, cells_cell ht (o := 4) rfl]) rfl ⟨rfl, hbw⟩
    · rw [if_pos hr]
      have q : (rd != 0) = true := by simp [hr]
      clear hr
      unfold encM cellsM
      simp only
      go_enter Try.func26, Try.ntmps26
      go_wp2_with fail
      generalize hV0 : World.alloc _ _ = V0
      have hx0 : V0.heap[w.heap.size]? = some (.cells #[.bool false, .string (strB S), .int .i64 k, .int .i64 wr, .int .i64 rd] 28 (0, 0)) := by rw [← hV0]; exact ((below_alloc _ _).block w.heap.size (by simp)).trans (heap_alloc_new w _)
      have hy0 : V0.heap[w.heap.size + 1]? = some (.cells cells0 28 (0, 0)) := by rw [← hV0]; exact block_new _ _ _ (by simp)
      have hb0 : Below w.heap.size w V0 := by rw [← hV0]; exact below_two _ _ _
      clear hV0
      unfold cells0 at hy0
      refine wp_region_mix (fun W' => W'.heap[w.heap.size]? = some (.cells #[.bool false, .string (strB S), .int .i64 k, .int .i64 wr, .int .i64 rd] 28 (0, 0))) 4 [(true, 0), (true, 1), (true, 2), (false, 3)] (by kernel_rfl) (by kernel_rfl) (fun _ _ _ d _ h => by cases d <;> exact h) ?_
      have HD : Hid (Below V0.heap.size V0 V0.drew) := Lib.hid ((Grn.refl V0).drew 1).below
      have HS : Hid (V0.drew.heap[w.heap.size]? = some (.cells #[.bool false, .string (strB S), .int .i64 k, .int .i64 wr, .int .i64 rd] 28 (0, 0))) := Lib.hid ((HD.out.block _ (lt_of_block hx0)).trans hx0)
      have HT : Hid (V0.drew.heap[w.heap.size + 1]? = some (.cells #[.bool false, .string ⟨#[]⟩, .int .i64 0, .int .i64 0, .int .i64 0] 28 (0, 0))) := Lib.hid ((HD.out.block _ (lt_of_block hy0)).trans hy0)
      simp only [List.map_cons, List.map_nil, List.getD_cons_zero, List.getD_cons_succ, List.drop_succ_cons, List.drop_zero]
      generalize V0.drew = V at *
      refine mix_take (.agg #[.bool false, .string (strB S), .int .i64 k, .int .i64 wr, .int .i64 rd]) HS.out rfl (fun W' hS => by
        have l0 := cells_cell (o := 0) hS rfl
        have l1 := cells_cell (o := 1) hS rfl
        have l2 := cells_cell (o := 2) hS rfl
        have l3 := cells_cell (o := 3) hS rfl
        have l4 := cells_cell (o := 4) hS rfl
        go_simp) ?_
      simp only [Act.put, List.setIfInBounds_toArray, List.set_cons_zero, List.set_cons_succ]
      refine mix_take (.pointer (some ⟨w.heap.size, 4, none⟩)) HS.out rfl (fun W' hS => by go_simp) ?_
      simp only [Act.put, List.setIfInBounds_toArray, List.set_cons_zero, List.set_cons_succ]
      refine mix_take (.int .i64 rd) HS.out rfl (fun W' hS => by
        have l := cells_cell (o := 4) hS rfl
        go_simp) ?_
      simp only [Act.put, List.setIfInBounds_toArray, List.set_cons_zero, List.set_cons_succ]
      refine mix_step rfl (fun K1 hK => ?_)
      have d0 := cells_cell (o := 0) HT.out rfl
      have e0 := cells_free HT.out 0
      have d1 := cells_cell (o := 1) HT.out rfl
      have e1 := cells_free HT.out 1
      have d2 := cells_cell (o := 2) HT.out rfl
      have e2 := cells_free HT.out 2
      have d3 := cells_cell (o := 3) HT.out rfl
      have e3 := cells_free HT.out 3
      have d4 := cells_cell (o := 4) HT.out rfl
      have e4 := cells_free HT.out 4
      have hlt := lt_of_block HT.out
      go_simp
      generalize hWF : World.setCell _ _ _ = WF
      have ht : WF.heap[w.heap.size + 1]? = some (.cells (cellsM ⟨false, S, k, wr, rd⟩) 28 (0, 0)) := by rw [← hWF]; exact five_cells HT.out _ _ _ _ _
      have HS2 : Hid (WF.heap[w.heap.size]? = some (.cells #[.bool false, .string (strB S), .int .i64 k, .int .i64 wr, .int .i64 rd] 28 (0, 0))) := Lib.hid (by rw [← hWF]; exact (five_fr V _ _ _ _ _ _).same HS.out (by simp))
      have hbw : Below w.heap.size w WF := hb0.trans ((HD.out.mono hb0.size).trans (by rw [← hWF]; exact (five_fr V _ _ _ _ _ _).below (fun x hx => by simp at hx; omega) (Nat.le_of_lt (lt_of_block HS.out))))
      clear hWF d0 d1 d2 d3 d4 e0 e1 e2 e3 e4 hlt HT
      refine hK _ _ HS2.out ?_
      clear hK HS
      refine mix_nil ?_
      clear hx0 hy0
      go_wp2_with fail
      unfold cellsM at ht
      refine bodyPost_ret (v := .tuple #[encM ⟨false, S, k, wr, rd⟩, .int .i64 rd]) (by simp [results, Try.results26, go_sem, encM, cellsM, cells_cell ht (o := 0) rfl, cells_cell ht (o := 1) rfl, cells_cell ht (o := 2) rfl, cells_cell ht (o := 3) rfl, cells_cell ht (o := 4) rfl]) rfl ⟨rfl, hbw⟩
theorem refCloseWrite_any (h : x.Ok) (w : World) (e : Int) : Calls Try.prog 30 #[encM x, .int .i64 e] w fun e' w' => e' = .returned (.tuple #[encM (cwrC x e).2, .int .i64 (cwrC x e).1]) ∧ Below w.heap.size w w' := by
  obtain ⟨is, S, k, wr, rd⟩ := x
  unfold cwrC
  simp only
  clear h
  by_cases h0 : e = 0
  · subst h0
    rw [if_pos rfl]
    unfold encM cellsM
    simp only
    go_enter Try.func30, Try.ntmps30
    go_wp2_with fail
    generalize hWF : World.alloc _ _ = WF
    have ht : WF.heap[w.heap.size + 1]? = some (.cells (cellsM ⟨is, S, k, wr, rd⟩) 28 (0, 0)) := by rw [← hWF]; exact block_new _ _ _ (by simp)
    have hbw : Below w.heap.size w WF := by rw [← hWF]; exact below_two _ _ _
    clear hWF
    unfold cellsM at ht
    refine bodyPost_ret (v := .tuple #[encM ⟨is, S, k, wr, rd⟩, .int .i64 2]) (by simp [results, Try.results30, go_sem, encM, cellsM, cells_cell ht (o := 0) rfl, cells_cell ht (o := 1) rfl, cells_cell ht (o := 2) rfl, cells_cell ht (o := 3) rfl, cells_cell ht (o := 4) rfl]) rfl ⟨rfl, hbw⟩
  · rw [if_neg h0]
    have q0 : (e == 0) = false := by simp [h0]
    clear h0
    by_cases hf : wr = 0
    · rw [if_neg (by simp [hf])]
      subst hf
      unfold encM cellsM
      simp only
      go_enter Try.func30, Try.ntmps30
      go_wp2_with fail
      generalize hWF : World.alloc _ _ = WF
      have ht : WF.heap[w.heap.size + 1]? = some (.cells (cellsM ⟨is, S, k, e, rd⟩) 28 (0, 0)) := by rw [← hWF]; exact block_new _ _ _ (by simp)
      have hbw : Below w.heap.size w WF := by rw [← hWF]; exact below_two _ _ _
      clear hWF
      unfold cellsM at ht
      refine bodyPost_ret (v := .tuple #[encM ⟨is, S, k, e, rd⟩, .int .i64 0]) (by simp [results, Try.results30, go_sem, encM, cellsM, cells_cell ht (o := 0) rfl, cells_cell ht (o := 1) rfl, cells_cell ht (o := 2) rfl, cells_cell ht (o := 3) rfl, cells_cell ht (o := 4) rfl]) rfl ⟨rfl, hbw⟩
    · rw [if_pos hf]
      have q : (wr != 0) = true := by simp [hf]
      clear hf
      unfold encM cellsM
      simp only
      go_enter Try.func30, Try.ntmps30
      go_wp2_with fail
      generalize hWF : World.alloc _ _ = WF
      have ht : WF.heap[w.heap.size + 1]? = some (.cells (cellsM ⟨is, S, k, wr, rd⟩) 28 (0, 0)) := by rw [← hWF]; exact block_new _ _ _ (by simp)
      have hbw : Below w.heap.size w WF := by rw [← hWF]; exact below_two _ _ _
      clear hWF
      unfold cellsM at ht
      refine bodyPost_ret (v := .tuple #[encM ⟨is, S, k, wr, rd⟩, .int .i64 8]) (by simp [results, Try.results30, go_sem, encM, cellsM, cells_cell ht (o := 0) rfl, cells_cell ht (o := 1) rfl, cells_cell ht (o := 2) rfl, cells_cell ht (o := 3) rfl, cells_cell ht (o := 4) rfl]) rfl ⟨rfl, hbw⟩
theorem refCloseRead_any (h : x.Ok) (w : World) (e : Int) : Calls Try.prog 31 #[encM x, .int .i64 e] w fun e' w' => e' = .returned (.tuple #[encM (crdC x e).2, .int .i64 (crdC x e).1]) ∧ Below w.heap.size w w' := by
  obtain ⟨is, S, k, wr, rd⟩ := x
  unfold crdC
  simp only
  clear h
  by_cases h0 : e = 0
  · subst h0
    rw [if_pos rfl]
    unfold encM cellsM
    simp only
    go_enter Try.func31, Try.ntmps31
    go_wp2_with fail
    generalize hWF : World.alloc _ _ = WF
    have ht : WF.heap[w.heap.size + 1]? = some (.cells (cellsM ⟨is, S, k, wr, rd⟩) 28 (0, 0)) := by rw [← hWF]; exact block_new _ _ _ (by simp)
    have hbw : Below w.heap.size w WF := by rw [← hWF]; exact below_two _ _ _
    clear hWF
    unfold cellsM at ht
    refine bodyPost_ret (v := .tuple #[encM ⟨is, S, k, wr, rd⟩, .int .i64 2]) (by simp [results, Try.results31, go_sem, encM, cellsM, cells_cell ht (o := 0) rfl, cells_cell ht (o := 1) rfl, cells_cell ht (o := 2) rfl, cells_cell ht (o := 3) rfl, cells_cell ht (o := 4) rfl]) rfl ⟨rfl, hbw⟩
  · rw [if_neg h0]
    have q0 : (e == 0) = false := by simp [h0]
    clear h0
    by_cases hf : rd = 0
    · rw [if_neg (by simp [hf])]
      subst hf
      unfold encM cellsM
      simp only
      go_enter Try.func31, Try.ntmps31
      go_wp2_with fail
      generalize hWF : World.alloc _ _ = WF
      have ht : WF.heap[w.heap.size + 1]? = some (.cells (cellsM ⟨is, S, k, wr, e⟩) 28 (0, 0)) := by rw [← hWF]; exact block_new _ _ _ (by simp)
      have hbw : Below w.heap.size w WF := by rw [← hWF]; exact below_two _ _ _
      clear hWF
      unfold cellsM at ht
      refine bodyPost_ret (v := .tuple #[encM ⟨is, S, k, wr, e⟩, .int .i64 0]) (by simp [results, Try.results31, go_sem, encM, cellsM, cells_cell ht (o := 0) rfl, cells_cell ht (o := 1) rfl, cells_cell ht (o := 2) rfl, cells_cell ht (o := 3) rfl, cells_cell ht (o := 4) rfl]) rfl ⟨rfl, hbw⟩
    · rw [if_pos hf]
      have q : (rd != 0) = true := by simp [hf]
      clear hf
      unfold encM cellsM
      simp only
      go_enter Try.func31, Try.ntmps31
      go_wp2_with fail
      generalize hWF : World.alloc _ _ = WF
      have ht : WF.heap[w.heap.size + 1]? = some (.cells (cellsM ⟨is, S, k, wr, rd⟩) 28 (0, 0)) := by rw [← hWF]; exact block_new _ _ _ (by simp)
      have hbw : Below w.heap.size w WF := by rw [← hWF]; exact below_two _ _ _
      clear hWF
      unfold cellsM at ht
      refine bodyPost_ret (v := .tuple #[encM ⟨is, S, k, wr, rd⟩, .int .i64 8]) (by simp [results, Try.results31, go_sem, encM, cellsM, cells_cell ht (o := 0) rfl, cells_cell ht (o := 1) rfl, cells_cell ht (o := 2) rfl, cells_cell ht (o := 3) rfl, cells_cell ht (o := 4) rfl]) rfl ⟨rfl, hbw⟩
theorem refWithdraw_any (h : x.Ok) (w : World) : Calls Try.prog 29 #[encM x] w fun e w' => e = .returned (.tuple #[encM (witC x).2.2, .int .i64 (witC x).1, .int .i64 (witC x).2.1]) ∧ Below w.heap.size w w' := by
  obtain ⟨is, S, k, wr, rd⟩ := x
  unfold witC
  simp only
  clear h
  cases is with
  | false =>
    rw [if_pos rfl]
    unfold encM cellsM
    simp only
    go_enter Try.func29, Try.ntmps29
    go_wp2_with fail
    generalize hWF : World.alloc _ _ = WF
    have ht : WF.heap[w.heap.size + 1]? = some (.cells (cellsM ⟨false, S, k, wr, rd⟩) 28 (0, 0)) := by rw [← hWF]; exact block_new _ _ _ (by simp)
    have hbw : Below w.heap.size w WF := by rw [← hWF]; exact below_two _ _ _
    clear hWF
    unfold cellsM at ht
    refine bodyPost_ret (v := .tuple #[encM ⟨false, S, k, wr, rd⟩, .int .i64 0, .int .i64 9]) (by simp [results, Try.results29, go_sem, encM, cellsM, cells_cell ht (o := 0) rfl, cells_cell ht (o := 1) rfl, cells_cell ht (o := 2) rfl, cells_cell ht (o := 3) rfl, cells_cell ht (o := 4) rfl]) rfl ⟨rfl, hbw⟩
  | true =>
    rw [if_neg (by simp)]
    unfold encM cellsM
    simp only
    go_enter Try.func29, Try.ntmps29
    go_wp2_with fail
    generalize hWF : World.alloc _ _ = WF
    have ht : WF.heap[w.heap.size + 1]? = some (.cells (cellsM ⟨false, [], 0, wr, rd⟩) 28 (0, 0)) := by rw [← hWF]; exact block_new _ _ _ (by simp)
    have hbw : Below w.heap.size w WF := by rw [← hWF]; exact below_two _ _ _
    clear hWF
    unfold cellsM at ht
    refine bodyPost_ret (v := .tuple #[encM ⟨false, [], 0, wr, rd⟩, .int .i64 k, .int .i64 0]) (by simp [results, Try.results29, go_sem, encM, cellsM, cells_cell ht (o := 0) rfl, cells_cell ht (o := 1) rfl, cells_cell ht (o := 2) rfl, cells_cell ht (o := 3) rfl, cells_cell ht (o := 4) rfl]) rfl ⟨rfl, hbw⟩
end
end Go.Proofs.Ytophkjnniodegaa
