/- The reference. -/
import Derived.Test.YtaallpbcgabdnaaXPure
import Derived.Test.YtaallpbcgabdnaaGFlags
namespace Go.Proofs.Ytaallpbcgabdnaa
open Go.RowKit Go.Sort
set_option linter.unusedVariables false
set_option linter.unusedSimpArgs false
def cellsR (x : Ft) : Array Value := #[.int .i64 (x.c : Nat), .string (strB x.S), .int .i64 x.wr, .int .i64 x.rd]
def encR (x : Ft) : Value := .agg (cellsR x)
def cells0 : Array Value := #[.int .i64 0, .string ⟨#[]⟩, .int .i64 0, .int .i64 0]
theorem below_two (w : World) (o1 o2 : Obj) : Below w.heap.size w ((w.alloc o1).alloc o2) := (below_alloc w o1).trans ((below_alloc _ o2).mono (by simp))
theorem four_cells {w : World} {b : Nat} {a0 a1 a2 a3 : Value} {t : TypeId} (h : w.heap[b]? = some (.cells #[a0, a1, a2, a3] t (0, 0))) (p0 p1 p2 p3 : Value) :
    ((((w.setCell ⟨b, 0, none⟩ p0).setCell ⟨b, 1, none⟩ p1).setCell ⟨b, 2, none⟩ p2).setCell ⟨b, 3, none⟩ p3).heap[b]? = some (.cells #[p0, p1, p2, p3] t (0, 0)) := by
  simpa using cells_set (cells_set (cells_set (cells_set h 0 p0) 1 p1) 2 p2) 3 p3
theorem four_fr (w : World) (b : Nat) (p0 p1 p2 p3 : Value) : Fr [b] w ((((w.setCell ⟨b, 0, none⟩ p0).setCell ⟨b, 1, none⟩ p1).setCell ⟨b, 2, none⟩ p2).setCell ⟨b, 3, none⟩ p3) :=
  (((fr_setCell w ⟨b, 0, none⟩ p0).trans' (fr_setCell _ ⟨b, 1, none⟩ p1)).trans' (fr_setCell _ ⟨b, 2, none⟩ p2)).trans' (fr_setCell _ ⟨b, 3, none⟩ p3)
theorem strB_none (L : List UInt8) : (strB L).toList.isEmpty = decide (L.length = 0) := by
  rw [strB_toList]
  cases L <;> simp
section
variable {w : World} {x : Ft}
set_option maxHeartbeats 1600000 in
theorem refNew_bad (w : World) (n : Int) (h : n < 1 ∨ 4096 < n) : Calls Try.prog 11 #[.int .i64 n] w fun e w' => e = .returned (.tuple #[.agg cells0, .int .i64 2]) ∧ Below w.heap.size w w' := by
  unfold cells0
  rcases h with h | h
  · go_enter Try.func11, Try.ntmps11
    go_wp2_with fail
    generalize hWF : World.alloc _ _ = WF
    have ht : WF.heap[w.heap.size]? = some (.cells #[.int .i64 0, .string ⟨#[]⟩, .int .i64 0, .int .i64 0] 30 (0, 0)) := by rw [← hWF]; exact block_new _ _ _ (by simp)
    have hbw : Below w.heap.size w WF := by rw [← hWF]; exact below_alloc _ _
    clear hWF
    refine bodyPost_ret (v := .tuple #[.agg #[.int .i64 0, .string ⟨#[]⟩, .int .i64 0, .int .i64 0], .int .i64 2]) (by simp [results, Try.results11, go_sem, encR, cellsR, cells_cell ht (o := 0) rfl, cells_cell ht (o := 1) rfl, cells_cell ht (o := 2) rfl, cells_cell ht (o := 3) rfl]) rfl ⟨rfl, hbw⟩
  · go_enter Try.func11, Try.ntmps11
    go_wp2_with fail
    generalize hWF : World.alloc _ _ = WF
    have ht : WF.heap[w.heap.size]? = some (.cells #[.int .i64 0, .string ⟨#[]⟩, .int .i64 0, .int .i64 0] 30 (0, 0)) := by rw [← hWF]; exact block_new _ _ _ (by simp)
    have hbw : Below w.heap.size w WF := by rw [← hWF]; exact below_alloc _ _
    clear hWF
    refine bodyPost_ret (v := .tuple #[.agg #[.int .i64 0, .string ⟨#[]⟩, .int .i64 0, .int .i64 0], .int .i64 2]) (by simp [results, Try.results11, go_sem, encR, cellsR, cells_cell ht (o := 0) rfl, cells_cell ht (o := 1) rfl, cells_cell ht (o := 2) rfl, cells_cell ht (o := 3) rfl]) rfl ⟨rfl, hbw⟩
set_option maxHeartbeats 1600000 in
theorem refNew_ok (w : World) {c : Nat} (h1 : 1 ≤ c) (h2 : c ≤ 4096) : Calls Try.prog 11 #[.int .i64 (c : Nat)] w fun e w' => e = .returned (.tuple #[encR (Ft.new c), .int .i64 0]) ∧ Below w.heap.size w w' := by
  have q1 : decide ((c : Int) < 1) = false := by simp; omega
  have q2 : decide ((4096 : Int) < (c : Int)) = false := by simp; omega
  clear h1 h2
  unfold encR cellsR Ft.new
  simp only
  go_enter Try.func11, Try.ntmps11
  go_wp2_with fail
  generalize hWF : World.alloc _ _ = WF
  have ht : WF.heap[w.heap.size]? = some (.cells #[.int .i64 (c : Nat), .string ⟨#[]⟩, .int .i64 0, .int .i64 0] 30 (0, 0)) := by rw [← hWF]; exact block_new _ _ _ (by simp)
  have hbw : Below w.heap.size w WF := by rw [← hWF]; exact below_alloc _ _
  clear hWF
  refine bodyPost_ret (v := .tuple #[.agg #[.int .i64 (c : Nat), .string ⟨#[]⟩, .int .i64 0, .int .i64 0], .int .i64 0]) (by simp [results, Try.results11, go_sem, encR, cellsR, cells_cell ht (o := 0) rfl, cells_cell ht (o := 1) rfl, cells_cell ht (o := 2) rfl, cells_cell ht (o := 3) rfl]) rfl ⟨rfl, hbw⟩
set_option maxHeartbeats 1600000 in
theorem refCloseWrite_any (w : World) (x : Ft) (e : Int) : Calls Try.prog 29 #[encR x, .int .i64 e] w fun e' w' => e' = .returned (.tuple #[encR (cwC x e).2, .int .i64 (cwC x e).1]) ∧ Below w.heap.size w w' := by
  obtain ⟨c, S, wr, rd⟩ := x
  unfold cwC
  simp only
  by_cases h0 : e = 0
  · subst h0
    rw [if_pos rfl]
    unfold encR cellsR
    simp only
    go_enter Try.func29, Try.ntmps29
    go_wp2_with fail
    generalize hWF : World.alloc _ _ = WF
    have ht : WF.heap[w.heap.size + 1]? = some (.cells #[.int .i64 (c : Nat), .string (strB S), .int .i64 wr, .int .i64 rd] 30 (0, 0)) := by rw [← hWF]; exact block_new _ _ _ (by simp)
    have hbw : Below w.heap.size w WF := by rw [← hWF]; exact below_two _ _ _
    clear hWF
    refine bodyPost_ret (v := .tuple #[.agg #[.int .i64 (c : Nat), .string (strB S), .int .i64 wr, .int .i64 rd], .int .i64 2]) (by simp [results, Try.results29, go_sem, encR, cellsR, cells_cell ht (o := 0) rfl, cells_cell ht (o := 1) rfl, cells_cell ht (o := 2) rfl, cells_cell ht (o := 3) rfl]) rfl ⟨rfl, hbw⟩
  · rw [if_neg h0]
    have q0 : (e == 0) = false := by simp [h0]
    by_cases h1 : wr = 0
    · rw [if_neg (by simp [h1])]
      subst h1
      clear h0
      unfold encR cellsR
      simp only
      go_enter Try.func29, Try.ntmps29
      go_wp2_with fail
      generalize hWF : World.alloc _ _ = WF
      have ht : WF.heap[w.heap.size + 1]? = some (.cells #[.int .i64 (c : Nat), .string (strB S), .int .i64 e, .int .i64 rd] 30 (0, 0)) := by rw [← hWF]; exact block_new _ _ _ (by simp)
      have hbw : Below w.heap.size w WF := by rw [← hWF]; exact below_two _ _ _
      clear hWF
      refine bodyPost_ret (v := .tuple #[.agg #[.int .i64 (c : Nat), .string (strB S), .int .i64 e, .int .i64 rd], .int .i64 0]) (by simp [results, Try.results29, go_sem, encR, cellsR, cells_cell ht (o := 0) rfl, cells_cell ht (o := 1) rfl, cells_cell ht (o := 2) rfl, cells_cell ht (o := 3) rfl]) rfl ⟨rfl, hbw⟩
    · rw [if_pos h1]
      have q1 : (wr != 0) = true := by simp [h1]
      clear h0 h1
      unfold encR cellsR
      simp only
      go_enter Try.func29, Try.ntmps29
      go_wp2_with fail
      generalize hWF : World.alloc _ _ = WF
      have ht : WF.heap[w.heap.size + 1]? = some (.cells #[.int .i64 (c : Nat), .string (strB S), .int .i64 wr, .int .i64 rd] 30 (0, 0)) := by rw [← hWF]; exact block_new _ _ _ (by simp)
      have hbw : Below w.heap.size w WF := by rw [← hWF]; exact below_two _ _ _
      clear hWF
      refine bodyPost_ret (v := .tuple #[.agg #[.int .i64 (c : Nat), .string (strB S), .int .i64 wr, .int .i64 rd], .int .i64 8]) (by simp [results, Try.results29, go_sem, encR, cellsR, cells_cell ht (o := 0) rfl, cells_cell ht (o := 1) rfl, cells_cell ht (o := 2) rfl, cells_cell ht (o := 3) rfl]) rfl ⟨rfl, hbw⟩
set_option maxHeartbeats 1600000 in
theorem refCloseRead_any (w : World) (x : Ft) (e : Int) : Calls Try.prog 30 #[encR x, .int .i64 e] w fun e' w' => e' = .returned (.tuple #[encR (crC x e).2, .int .i64 (crC x e).1]) ∧ Below w.heap.size w w' := by
  obtain ⟨c, S, wr, rd⟩ := x
  unfold crC
  simp only
  by_cases h0 : e = 0
  · subst h0
    rw [if_pos rfl]
    unfold encR cellsR
    simp only
    go_enter Try.func30, Try.ntmps30
    go_wp2_with fail
    generalize hWF : World.alloc _ _ = WF
    have ht : WF.heap[w.heap.size + 1]? = some (.cells #[.int .i64 (c : Nat), .string (strB S), .int .i64 wr, .int .i64 rd] 30 (0, 0)) := by rw [← hWF]; exact block_new _ _ _ (by simp)
    have hbw : Below w.heap.size w WF := by rw [← hWF]; exact below_two _ _ _
    clear hWF
    refine bodyPost_ret (v := .tuple #[.agg #[.int .i64 (c : Nat), .string (strB S), .int .i64 wr, .int .i64 rd], .int .i64 2]) (by simp [results, Try.results30, go_sem, encR, cellsR, cells_cell ht (o := 0) rfl, cells_cell ht (o := 1) rfl, cells_cell ht (o := 2) rfl, cells_cell ht (o := 3) rfl]) rfl ⟨rfl, hbw⟩
  · rw [if_neg h0]
    have q0 : (e == 0) = false := by simp [h0]
    by_cases h1 : rd = 0
    · rw [if_neg (by simp [h1])]
      subst h1
      clear h0
      unfold encR cellsR
      simp only
      go_enter Try.func30, Try.ntmps30
      go_wp2_with fail
      generalize hWF : World.alloc _ _ = WF
      have ht : WF.heap[w.heap.size + 1]? = some (.cells #[.int .i64 (c : Nat), .string ⟨#[]⟩, .int .i64 wr, .int .i64 e] 30 (0, 0)) := by rw [← hWF]; exact block_new _ _ _ (by simp)
      have hbw : Below w.heap.size w WF := by rw [← hWF]; exact below_two _ _ _
      clear hWF
      refine bodyPost_ret (v := .tuple #[.agg #[.int .i64 (c : Nat), .string ⟨#[]⟩, .int .i64 wr, .int .i64 e], .int .i64 0]) (by simp [results, Try.results30, go_sem, encR, cellsR, cells_cell ht (o := 0) rfl, cells_cell ht (o := 1) rfl, cells_cell ht (o := 2) rfl, cells_cell ht (o := 3) rfl]) rfl ⟨rfl, hbw⟩
    · rw [if_pos h1]
      have q1 : (rd != 0) = true := by simp [h1]
      clear h0 h1
      unfold encR cellsR
      simp only
      go_enter Try.func30, Try.ntmps30
      go_wp2_with fail
      generalize hWF : World.alloc _ _ = WF
      have ht : WF.heap[w.heap.size + 1]? = some (.cells #[.int .i64 (c : Nat), .string (strB S), .int .i64 wr, .int .i64 rd] 30 (0, 0)) := by rw [← hWF]; exact block_new _ _ _ (by simp)
      have hbw : Below w.heap.size w WF := by rw [← hWF]; exact below_two _ _ _
      clear hWF
      refine bodyPost_ret (v := .tuple #[.agg #[.int .i64 (c : Nat), .string (strB S), .int .i64 wr, .int .i64 rd], .int .i64 8]) (by simp [results, Try.results30, go_sem, encR, cellsR, cells_cell ht (o := 0) rfl, cells_cell ht (o := 1) rfl, cells_cell ht (o := 2) rfl, cells_cell ht (o := 3) rfl]) rfl ⟨rfl, hbw⟩
set_option maxHeartbeats 1600000 in
theorem refWrite_any (h : x.Ok) (w : World) {L : List UInt8} (hL : L.length ≤ 1000000) : Calls Try.prog 27 #[encR x, .string (strB L)] w fun e w' => e = .returned (.tuple #[encR (wrC x L).2.2, .int .i64 ((wrC x L).1 : Nat), .int .i64 (wrC x L).2.1]) ∧ Below w.heap.size w w' := by
  have hle := h.le
  have htop := h.top
  obtain ⟨c, S, wr, rd⟩ := x
  have hsz := strB_size S
  have hlz := strB_size L
  have hne := strB_none L
  unfold wrC Ft.n
  simp only at *
  clear h
  by_cases hr : rd = 0
  case neg =>
    rw [if_pos hr]
    have q : (rd != 0) = true := by simp [hr]
    clear hr hle htop hsz hlz hne hL
    unfold encR cellsR
    simp only
    go_enter Try.func27, Try.ntmps27
    go_wp2_with fail
    generalize hV0 : World.alloc _ _ = V0
    have hx0 : V0.heap[w.heap.size]? = some (.cells #[.int .i64 (c : Nat), .string (strB S), .int .i64 wr, .int .i64 rd] 30 (0, 0)) := by rw [← hV0]; exact ((below_alloc _ _).block w.heap.size (by simp)).trans (heap_alloc_new w _)
    have hy0 : V0.heap[w.heap.size + 1]? = some (.cells #[.int .i64 0, .string ⟨#[]⟩, .int .i64 0, .int .i64 0] 30 (0, 0)) := by rw [← hV0]; exact block_new _ _ _ (by simp)
    have hb0 : Below w.heap.size w V0 := by rw [← hV0]; exact below_two _ _ _
    clear hV0
    refine wp_region_mix (fun W' => W'.heap[w.heap.size]? = some (.cells #[.int .i64 (c : Nat), .string (strB S), .int .i64 wr, .int .i64 rd] 30 (0, 0))) 5 [(true, 0), (true, 1), (true, 2), (false, 3), (true, 4)] (by kernel_rfl) (by kernel_rfl) (fun _ _ _ d _ h => by cases d <;> exact h) ?_
    have HD : Hid (Below V0.heap.size V0 V0.drew) := Lib.hid ((Grn.refl V0).drew 1).below
    have HS : Hid (V0.drew.heap[w.heap.size]? = some (.cells #[.int .i64 (c : Nat), .string (strB S), .int .i64 wr, .int .i64 rd] 30 (0, 0))) := Lib.hid ((HD.out.block _ (lt_of_block hx0)).trans hx0)
    have HT : Hid (V0.drew.heap[w.heap.size + 1]? = some (.cells #[.int .i64 0, .string ⟨#[]⟩, .int .i64 0, .int .i64 0] 30 (0, 0))) := Lib.hid ((HD.out.block _ (lt_of_block hy0)).trans hy0)
    simp only [List.map_cons, List.map_nil, List.getD_cons_zero, List.getD_cons_succ, List.drop_succ_cons, List.drop_zero]
    generalize V0.drew = V at *
    refine mix_take (.agg #[.int .i64 (c : Nat), .string (strB S), .int .i64 wr, .int .i64 rd]) HS.out rfl (fun W' hS => by
      have l0 := cells_cell (o := 0) hS rfl
      have l1 := cells_cell (o := 1) hS rfl
      have l2 := cells_cell (o := 2) hS rfl
      have l3 := cells_cell (o := 3) hS rfl
      go_simp) ?_
    simp only [Act.put, List.setIfInBounds_toArray, List.set_cons_zero, List.set_cons_succ]
    refine mix_take (.pointer (some ⟨w.heap.size, 3, none⟩)) HS.out rfl (fun W' hS => by go_simp) ?_
    simp only [Act.put, List.setIfInBounds_toArray, List.set_cons_zero, List.set_cons_succ]
    refine mix_take (.int .i64 rd) HS.out rfl (fun W' hS => by
      have l := cells_cell (o := 3) hS rfl
      go_simp) ?_
    simp only [Act.put, List.setIfInBounds_toArray, List.set_cons_zero, List.set_cons_succ]
    refine mix_step rfl (fun K1 hK => ?_)
    have d0 := cells_cell (o := 0) HT.out rfl
    have e0 := cells_free HT.out 0
    have d1 := cells_cell (o := 1) HT.out rfl
    have e1 := cells_free HT.out 1
    have d2 := cells_cell (o := 2) HT.out rfl
    have e2 := cells_free HT.out 2
    have d3 := cells_cell (o := 3) HT.out rfl
    have e3 := cells_free HT.out 3
    have hlt := lt_of_block HT.out
    go_simp
    generalize hWF : World.setCell _ _ _ = WF
    have ht : WF.heap[w.heap.size + 1]? = some (.cells #[.int .i64 (c : Nat), .string (strB S), .int .i64 wr, .int .i64 rd] 30 (0, 0)) := by rw [← hWF]; exact four_cells HT.out _ _ _ _
    have HS2 : Hid (WF.heap[w.heap.size]? = some (.cells #[.int .i64 (c : Nat), .string (strB S), .int .i64 wr, .int .i64 rd] 30 (0, 0))) := Lib.hid (by rw [← hWF]; exact (four_fr V _ _ _ _ _).same HS.out (by simp))
    have hbw : Below w.heap.size w WF := hb0.trans ((HD.out.mono hb0.size).trans (by rw [← hWF]; exact (four_fr V _ _ _ _ _).below (fun x hx => by simp at hx; omega) (Nat.le_of_lt (lt_of_block HS.out))))
    clear hWF d0 d1 d2 d3 e0 e1 e2 e3 hlt HT
    refine hK _ _ HS2.out ?_
    clear hK HS
    refine mix_take (.int .i64 0) HS2.out rfl (fun W' hS => by go_simp) ?_
    simp only [Act.put, List.setIfInBounds_toArray, List.set_cons_zero, List.set_cons_succ]
    refine mix_nil ?_
    clear hx0 hy0
    go_wp2_with fail
    refine bodyPost_ret (v := .tuple #[.agg #[.int .i64 (c : Nat), .string (strB S), .int .i64 wr, .int .i64 rd], .int .i64 0, .int .i64 rd]) (by simp [results, Try.results27, go_sem, encR, cellsR, cells_cell ht (o := 0) rfl, cells_cell ht (o := 1) rfl, cells_cell ht (o := 2) rfl, cells_cell ht (o := 3) rfl]) rfl ⟨rfl, hbw⟩
  rw [if_neg (by simp [hr])]
  subst hr
  by_cases hw : wr = 0
  case neg =>
    rw [if_pos hw]
    have q : (wr != 0) = true := by simp [hw]
    clear hw hle htop hsz hlz hne hL
    unfold encR cellsR
    simp only
    go_enter Try.func27, Try.ntmps27
    go_wp2_with fail
    generalize hWF : World.alloc _ _ = WF
    have ht : WF.heap[w.heap.size + 1]? = some (.cells #[.int .i64 (c : Nat), .string (strB S), .int .i64 wr, .int .i64 0] 30 (0, 0)) := by rw [← hWF]; exact block_new _ _ _ (by simp)
    have hbw : Below w.heap.size w WF := by rw [← hWF]; exact below_two _ _ _
    clear hWF
    refine bodyPost_ret (v := .tuple #[.agg #[.int .i64 (c : Nat), .string (strB S), .int .i64 wr, .int .i64 0], .int .i64 0, .int .i64 14]) (by simp [results, Try.results27, go_sem, encR, cellsR, cells_cell ht (o := 0) rfl, cells_cell ht (o := 1) rfl, cells_cell ht (o := 2) rfl, cells_cell ht (o := 3) rfl]) rfl ⟨rfl, hbw⟩
  rw [if_neg (by simp [hw])]
  subst hw
  by_cases h0 : L.length = 0
  case pos =>
    rw [if_pos h0]
    simp only [h0, decide_true] at hne
    generalize strB L = sl at *
    clear hle htop hsz hlz h0 hL
    unfold encR cellsR
    simp only
    go_enter Try.func27, Try.ntmps27
    go_wp2_with fail
    generalize hWF : World.alloc _ _ = WF
    have ht : WF.heap[w.heap.size + 1]? = some (.cells #[.int .i64 (c : Nat), .string (strB S), .int .i64 0, .int .i64 0] 30 (0, 0)) := by rw [← hWF]; exact block_new _ _ _ (by simp)
    have hbw : Below w.heap.size w WF := by rw [← hWF]; exact below_two _ _ _
    clear hWF
    refine bodyPost_ret (v := .tuple #[.agg #[.int .i64 (c : Nat), .string (strB S), .int .i64 0, .int .i64 0], .int .i64 0, .int .i64 0]) (by simp [results, Try.results27, go_sem, encR, cellsR, cells_cell ht (o := 0) rfl, cells_cell ht (o := 1) rfl, cells_cell ht (o := 2) rfl, cells_cell ht (o := 3) rfl]) rfl ⟨rfl, hbw⟩
  rw [if_neg h0]
  simp only [h0, decide_false] at hne
  by_cases hd : c - S.length = 0
  case pos =>
    rw [if_pos hd]
    have q2 : ((c : Int) - ((strB S).size : Int) == 0) = true := by rw [hsz]; simp; omega
    have hi : ((strB S).size : Int) ≤ (c : Int) ∧ (c : Int) ≤ 4096 := by rw [hsz]; omega
    obtain ⟨hi1, hi2⟩ := hi
    generalize strB L = sl at *
    clear hle htop hsz hlz h0 hL hd
    unfold encR cellsR
    simp only
    generalize strB S = s at *
    go_enter Try.func27, Try.ntmps27
    go_wp2_with fail
    generalize hWF : World.alloc _ _ = WF
    have ht : WF.heap[w.heap.size + 1]? = some (.cells #[.int .i64 (c : Nat), .string s, .int .i64 0, .int .i64 0] 30 (0, 0)) := by rw [← hWF]; exact block_new _ _ _ (by simp)
    have hbw : Below w.heap.size w WF := by rw [← hWF]; exact below_two _ _ _
    clear hWF
    refine bodyPost_ret (v := .tuple #[.agg #[.int .i64 (c : Nat), .string s, .int .i64 0, .int .i64 0], .int .i64 0, .int .i64 16]) (by simp [results, Try.results27, go_sem, encR, cellsR, cells_cell ht (o := 0) rfl, cells_cell ht (o := 1) rfl, cells_cell ht (o := 2) rfl, cells_cell ht (o := 3) rfl]) rfl ⟨rfl, hbw⟩
  rw [if_neg hd]
  have q2 : ((c : Int) - ((strB S).size : Int) == 0) = false := by rw [hsz]; simp; omega
  have hi1 : ((strB S).size : Int) < (c : Int) := by rw [hsz]; omega
  have hi2 : (c : Int) ≤ 4096 := by omega
  have hi3 : ((strB L).size : Int) ≤ 1000000 := by rw [hlz]; omega
  have hi5 : (strB S).size + (strB L).size ≤ 2000000 := by omega
  by_cases hg : L.length < c - S.length
  case pos =>
    have q3 : decide (((strB L).size : Int) < (c : Int) - ((strB S).size : Int)) = true := by rw [hsz, hlz]; simp; omega
    have HS0 : Hid (strB (S ++ L.take (min L.length (c - S.length))) = strB S ++ strB L) := Lib.hid (by
      rw [strB_append, List.take_of_length_le (by omega)])
    have HN0 : Hid (((min L.length (c - S.length) : Nat) : Int) = ((strB L).size : Int)) := Lib.hid (by omega)
    rw [show encR ⟨c, S ++ L.take (min L.length (c - S.length)), 0, 0⟩ = .agg #[.int .i64 (c : Nat), .string (strB (S ++ L.take (min L.length (c - S.length)))), .int .i64 0, .int .i64 0] from rfl, HS0.out, HN0.out]
    clear HS0 HN0
    unfold encR cellsR
    simp only
    generalize strB L = sl at *
    generalize strB S = s at *
    clear hle htop hsz hlz h0 hL hd hg
    go_enter Try.func27, Try.ntmps27
    go_wp2_with fail
    generalize hV0 : World.alloc _ _ = V0
    have hx0 : V0.heap[w.heap.size]? = some (.cells #[.int .i64 (c : Nat), .string s, .int .i64 0, .int .i64 0] 30 (0, 0)) := by rw [← hV0]; exact ((below_alloc _ _).block w.heap.size (by simp)).trans (heap_alloc_new w _)
    have hy0 : V0.heap[w.heap.size + 1]? = some (.cells #[.int .i64 0, .string ⟨#[]⟩, .int .i64 0, .int .i64 0] 30 (0, 0)) := by rw [← hV0]; exact block_new _ _ _ (by simp)
    have hb0 : Below w.heap.size w V0 := by rw [← hV0]; exact below_two _ _ _
    clear hV0
    refine wp_region_mix (fun W' => W'.heap[w.heap.size]? = some (.cells #[.int .i64 (c : Nat), .string s, .int .i64 0, .int .i64 0] 30 (0, 0))) 6 [(true, 0), (true, 1), (true, 2), (true, 3), (true, 4), (true, 5)] (by kernel_rfl) (by kernel_rfl) (fun _ _ _ d _ h => by cases d <;> exact h) ?_
    have HD : Hid (Below V0.heap.size V0 V0.drew) := Lib.hid ((Grn.refl V0).drew 1).below
    have HS : Hid (V0.drew.heap[w.heap.size]? = some (.cells #[.int .i64 (c : Nat), .string s, .int .i64 0, .int .i64 0] 30 (0, 0))) := Lib.hid ((HD.out.block _ (lt_of_block hx0)).trans hx0)
    have HT : Hid (V0.drew.heap[w.heap.size + 1]? = some (.cells #[.int .i64 0, .string ⟨#[]⟩, .int .i64 0, .int .i64 0] 30 (0, 0))) := Lib.hid ((HD.out.block _ (lt_of_block hy0)).trans hy0)
    simp only [List.map_cons, List.map_nil, List.getD_cons_zero, List.getD_cons_succ, List.drop_succ_cons, List.drop_zero]
    generalize V0.drew = V at *
    refine mix_take (.pointer (some ⟨w.heap.size, 1, none⟩)) HS.out rfl (fun W' hS => by
      go_simp) ?_
    simp only [Act.put, List.setIfInBounds_toArray, List.set_cons_zero, List.set_cons_succ]
    refine mix_take (.string s) HS.out rfl (fun W' hS => by
      have l := cells_cell (o := 1) hS rfl
      go_simp) ?_
    simp only [Act.put, List.setIfInBounds_toArray, List.set_cons_zero, List.set_cons_succ]
    refine mix_take (.string sl) HS.out rfl (fun W' hS => by
      go_simp) ?_
    simp only [Act.put, List.setIfInBounds_toArray, List.set_cons_zero, List.set_cons_succ]
    refine mix_take (.int .i64 (sl.size : Int)) HS.out rfl (fun W' hS => by
      go_simp) ?_
    simp only [Act.put, List.setIfInBounds_toArray, List.set_cons_zero, List.set_cons_succ]
    refine mix_take (.string sl) HS.out rfl (fun W' hS => by
      go_simp; try (intro hq; omega)) ?_
    simp only [Act.put, List.setIfInBounds_toArray, List.set_cons_zero, List.set_cons_succ]
    refine mix_take (.string (s ++ sl)) HS.out rfl (fun W' hS => by
      go_simp; try omega) ?_
    simp only [Act.put, List.setIfInBounds_toArray, List.set_cons_zero, List.set_cons_succ]
    refine mix_nil ?_
    have x0 := cells_cell (o := 0) HS.out rfl
    have y0 := cells_free HS.out 0
    have d0 := cells_cell (o := 0) HT.out rfl
    have e0 := cells_free HT.out 0
    have x1 := cells_cell (o := 1) HS.out rfl
    have y1 := cells_free HS.out 1
    have d1 := cells_cell (o := 1) HT.out rfl
    have e1 := cells_free HT.out 1
    have x2 := cells_cell (o := 2) HS.out rfl
    have y2 := cells_free HS.out 2
    have d2 := cells_cell (o := 2) HT.out rfl
    have e2 := cells_free HT.out 2
    have x3 := cells_cell (o := 3) HS.out rfl
    have y3 := cells_free HS.out 3
    have d3 := cells_cell (o := 3) HT.out rfl
    have e3 := cells_free HT.out 3
    have hlt := lt_of_block HT.out
    have hlt2 := lt_of_block HS.out
    go_wp2_with fail
    generalize hWF : World.setCell _ _ _ = WF
    have hf1 : Fr [w.heap.size] V (V.setCell ⟨w.heap.size, 1, none⟩ (.string (s ++ sl))) := fr_setCell V ⟨w.heap.size, 1, none⟩ _
    have HT2 := hf1.same HT.out (by simp)
    have ht : WF.heap[w.heap.size + 1]? = some (.cells #[.int .i64 (c : Nat), .string (s ++ sl), .int .i64 0, .int .i64 0] 30 (0, 0)) := by rw [← hWF]; exact four_cells HT2 _ _ _ _
    have hbw : Below w.heap.size w WF := hb0.trans ((HD.out.mono hb0.size).trans (by rw [← hWF]; exact ((hf1.below (fun x hx => by simp at hx; omega) (by omega)).trans ((four_fr _ _ _ _ _ _).below (fun x hx => by simp at hx; omega) (by simp [World.setCell]; omega)))))
    clear hWF
    refine bodyPost_ret (v := .tuple #[.agg #[.int .i64 (c : Nat), .string (s ++ sl), .int .i64 0, .int .i64 0], .int .i64 (sl.size : Int), .int .i64 0]) (by simp [results, Try.results27, go_sem, encR, cellsR, cells_cell ht (o := 0) rfl, cells_cell ht (o := 1) rfl, cells_cell ht (o := 2) rfl, cells_cell ht (o := 3) rfl]) rfl ⟨rfl, hbw⟩
  case neg =>
    have q3 : decide (((strB L).size : Int) < (c : Int) - ((strB S).size : Int)) = false := by rw [hsz, hlz]; simp; omega
    have hi4 : (c : Int) - ((strB S).size : Int) ≤ ((strB L).size : Int) := by rw [hsz, hlz]; omega
    have HS0 : Hid (strB (S ++ L.take (min L.length (c - S.length))) = strB S ++ (strB L).extract 0 (c - (strB S).size)) := Lib.hid (by
      rw [strB_extract, strB_append]
      congr 2
      simp only [Nat.sub_zero, List.drop_zero]
      congr 1
      omega)
    have HN0 : Hid (((min L.length (c - S.length) : Nat) : Int) = ((c : Int) - ((strB S).size : Int))) := Lib.hid (by omega)
    rw [show encR ⟨c, S ++ L.take (min L.length (c - S.length)), 0, 0⟩ = .agg #[.int .i64 (c : Nat), .string (strB (S ++ L.take (min L.length (c - S.length)))), .int .i64 0, .int .i64 0] from rfl, HS0.out, HN0.out]
    clear HS0 HN0
    unfold encR cellsR
    simp only
    generalize strB L = sl at *
    generalize strB S = s at *
    clear hle htop hsz hlz h0 hL hd hg
    go_enter Try.func27, Try.ntmps27
    go_wp2_with fail
    generalize hV0 : World.alloc _ _ = V0
    have hx0 : V0.heap[w.heap.size]? = some (.cells #[.int .i64 (c : Nat), .string s, .int .i64 0, .int .i64 0] 30 (0, 0)) := by rw [← hV0]; exact ((below_alloc _ _).block w.heap.size (by simp)).trans (heap_alloc_new w _)
    have hy0 : V0.heap[w.heap.size + 1]? = some (.cells #[.int .i64 0, .string ⟨#[]⟩, .int .i64 0, .int .i64 0] 30 (0, 0)) := by rw [← hV0]; exact block_new _ _ _ (by simp)
    have hb0 : Below w.heap.size w V0 := by rw [← hV0]; exact below_two _ _ _
    clear hV0
    refine wp_region_mix (fun W' => W'.heap[w.heap.size]? = some (.cells #[.int .i64 (c : Nat), .string s, .int .i64 0, .int .i64 0] 30 (0, 0))) 6 [(true, 0), (true, 1), (true, 2), (true, 3), (true, 4), (true, 5)] (by kernel_rfl) (by kernel_rfl) (fun _ _ _ d _ h => by cases d <;> exact h) ?_
    have HD : Hid (Below V0.heap.size V0 V0.drew) := Lib.hid ((Grn.refl V0).drew 1).below
    have HS : Hid (V0.drew.heap[w.heap.size]? = some (.cells #[.int .i64 (c : Nat), .string s, .int .i64 0, .int .i64 0] 30 (0, 0))) := Lib.hid ((HD.out.block _ (lt_of_block hx0)).trans hx0)
    have HT : Hid (V0.drew.heap[w.heap.size + 1]? = some (.cells #[.int .i64 0, .string ⟨#[]⟩, .int .i64 0, .int .i64 0] 30 (0, 0))) := Lib.hid ((HD.out.block _ (lt_of_block hy0)).trans hy0)
    simp only [List.map_cons, List.map_nil, List.getD_cons_zero, List.getD_cons_succ, List.drop_succ_cons, List.drop_zero]
    generalize V0.drew = V at *
    refine mix_take (.pointer (some ⟨w.heap.size, 1, none⟩)) HS.out rfl (fun W' hS => by
      go_simp) ?_
    simp only [Act.put, List.setIfInBounds_toArray, List.set_cons_zero, List.set_cons_succ]
    refine mix_take (.string s) HS.out rfl (fun W' hS => by
      have l := cells_cell (o := 1) hS rfl
      go_simp) ?_
    simp only [Act.put, List.setIfInBounds_toArray, List.set_cons_zero, List.set_cons_succ]
    refine mix_take (.string sl) HS.out rfl (fun W' hS => by
      go_simp) ?_
    simp only [Act.put, List.setIfInBounds_toArray, List.set_cons_zero, List.set_cons_succ]
    refine mix_take (.int .i64 ((c : Int) - (s.size : Int))) HS.out rfl (fun W' hS => by
      go_simp) ?_
    simp only [Act.put, List.setIfInBounds_toArray, List.set_cons_zero, List.set_cons_succ]
    refine mix_take (.string (sl.extract 0 (c - s.size))) HS.out rfl (fun W' hS => by
      go_simp; try (intro hq; omega)) ?_
    simp only [Act.put, List.setIfInBounds_toArray, List.set_cons_zero, List.set_cons_succ]
    refine mix_take (.string (s ++ sl.extract 0 (c - s.size))) HS.out rfl (fun W' hS => by
      go_simp; try omega) ?_
    simp only [Act.put, List.setIfInBounds_toArray, List.set_cons_zero, List.set_cons_succ]
    refine mix_nil ?_
    have x0 := cells_cell (o := 0) HS.out rfl
    have y0 := cells_free HS.out 0
    have d0 := cells_cell (o := 0) HT.out rfl
    have e0 := cells_free HT.out 0
    have x1 := cells_cell (o := 1) HS.out rfl
    have y1 := cells_free HS.out 1
    have d1 := cells_cell (o := 1) HT.out rfl
    have e1 := cells_free HT.out 1
    have x2 := cells_cell (o := 2) HS.out rfl
    have y2 := cells_free HS.out 2
    have d2 := cells_cell (o := 2) HT.out rfl
    have e2 := cells_free HT.out 2
    have x3 := cells_cell (o := 3) HS.out rfl
    have y3 := cells_free HS.out 3
    have d3 := cells_cell (o := 3) HT.out rfl
    have e3 := cells_free HT.out 3
    have hlt := lt_of_block HT.out
    have hlt2 := lt_of_block HS.out
    go_wp2_with fail
    generalize hWF : World.setCell _ _ _ = WF
    have hf1 : Fr [w.heap.size] V (V.setCell ⟨w.heap.size, 1, none⟩ (.string (s ++ sl.extract 0 (c - s.size)))) := fr_setCell V ⟨w.heap.size, 1, none⟩ _
    have HT2 := hf1.same HT.out (by simp)
    have ht : WF.heap[w.heap.size + 1]? = some (.cells #[.int .i64 (c : Nat), .string (s ++ sl.extract 0 (c - s.size)), .int .i64 0, .int .i64 0] 30 (0, 0)) := by rw [← hWF]; exact four_cells HT2 _ _ _ _
    have hbw : Below w.heap.size w WF := hb0.trans ((HD.out.mono hb0.size).trans (by rw [← hWF]; exact ((hf1.below (fun x hx => by simp at hx; omega) (by omega)).trans ((four_fr _ _ _ _ _ _).below (fun x hx => by simp at hx; omega) (by simp [World.setCell]; omega)))))
    clear hWF
    refine bodyPost_ret (v := .tuple #[.agg #[.int .i64 (c : Nat), .string (s ++ sl.extract 0 (c - s.size)), .int .i64 0, .int .i64 0], .int .i64 ((c : Int) - (s.size : Int)), .int .i64 0]) (by simp [results, Try.results27, go_sem, encR, cellsR, cells_cell ht (o := 0) rfl, cells_cell ht (o := 1) rfl, cells_cell ht (o := 2) rfl, cells_cell ht (o := 3) rfl]) rfl ⟨rfl, hbw⟩
set_option maxHeartbeats 1600000 in
theorem refRead_any (h : x.Ok) (w : World) (n : Int) : Calls Try.prog 28 #[encR x, .int .i64 n] w fun e w' => e = .returned (.tuple #[encR (rdC x n).2.2, .string (strB (rdC x n).1), .int .i64 (rdC x n).2.1]) ∧ Below w.heap.size w w' := by
  have hle := h.le
  have htop := h.top
  have hno := h.no
  obtain ⟨c, S, wr, rd⟩ := x
  have hsz := strB_size S
  have hne := strB_none S
  unfold rdC
  simp only at *
  clear h
  by_cases hn : n < 0
  case pos =>
    rw [if_pos hn]
    clear hle htop hno hsz hne
    unfold encR cellsR
    simp only
    go_enter Try.func28, Try.ntmps28
    go_wp2_with fail
    generalize hWF : World.alloc _ _ = WF
    have ht : WF.heap[w.heap.size + 1]? = some (.cells #[.int .i64 (c : Nat), .string (strB S), .int .i64 wr, .int .i64 rd] 30 (0, 0)) := by rw [← hWF]; exact block_new _ _ _ (by simp)
    have hbw : Below w.heap.size w WF := by rw [← hWF]; exact below_two _ _ _
    clear hWF
    refine bodyPost_ret (v := .tuple #[.agg #[.int .i64 (c : Nat), .string (strB S), .int .i64 wr, .int .i64 rd], .string ⟨#[]⟩, .int .i64 2]) (by simp [results, Try.results28, go_sem, encR, cellsR, cells_cell ht (o := 0) rfl, cells_cell ht (o := 1) rfl, cells_cell ht (o := 2) rfl, cells_cell ht (o := 3) rfl]) rfl ⟨rfl, hbw⟩
  rw [if_neg hn]
  by_cases h0 : n = 0
  case pos =>
    subst h0
    rw [if_pos rfl]
    clear hle htop hno hsz hne hn
    unfold encR cellsR
    simp only
    go_enter Try.func28, Try.ntmps28
    go_wp2_with fail
    generalize hWF : World.alloc _ _ = WF
    have ht : WF.heap[w.heap.size + 1]? = some (.cells #[.int .i64 (c : Nat), .string (strB S), .int .i64 wr, .int .i64 rd] 30 (0, 0)) := by rw [← hWF]; exact block_new _ _ _ (by simp)
    have hbw : Below w.heap.size w WF := by rw [← hWF]; exact below_two _ _ _
    clear hWF
    refine bodyPost_ret (v := .tuple #[.agg #[.int .i64 (c : Nat), .string (strB S), .int .i64 wr, .int .i64 rd], .string ⟨#[]⟩, .int .i64 0]) (by simp [results, Try.results28, go_sem, encR, cellsR, cells_cell ht (o := 0) rfl, cells_cell ht (o := 1) rfl, cells_cell ht (o := 2) rfl, cells_cell ht (o := 3) rfl]) rfl ⟨rfl, hbw⟩
  rw [if_neg h0]
  have hn0 : (n == 0) = false := by simp [h0]
  have hn1 : decide (n < 0) = false := by simp; omega
  have hnp : 0 < n := by omega
  clear hn h0
  by_cases hr : rd = 0
  case neg =>
    rw [if_pos (by rw [hno hr]; rfl)]
    rw [show orI rd (orI wr 16) = rd from if_neg hr]
    have q : (rd != 0) = true := by simp [hr]
    clear hr hle htop hsz hne hno
    unfold encR cellsR
    simp only
    go_enter Try.func28, Try.ntmps28
    go_wp2_with fail
    generalize hV0 : World.alloc _ _ = V0
    have hx0 : V0.heap[w.heap.size]? = some (.cells #[.int .i64 (c : Nat), .string (strB S), .int .i64 wr, .int .i64 rd] 30 (0, 0)) := by rw [← hV0]; exact ((below_alloc _ _).block w.heap.size (by simp)).trans (heap_alloc_new w _)
    have hy0 : V0.heap[w.heap.size + 1]? = some (.cells #[.int .i64 0, .string ⟨#[]⟩, .int .i64 0, .int .i64 0] 30 (0, 0)) := by rw [← hV0]; exact block_new _ _ _ (by simp)
    have hb0 : Below w.heap.size w V0 := by rw [← hV0]; exact below_two _ _ _
    clear hV0
    refine wp_region_mix (fun W' => W'.heap[w.heap.size]? = some (.cells #[.int .i64 (c : Nat), .string (strB S), .int .i64 wr, .int .i64 rd] 30 (0, 0))) 5 [(true, 0), (true, 1), (true, 2), (false, 3), (true, 4)] (by kernel_rfl) (by kernel_rfl) (fun _ _ _ d _ h => by cases d <;> exact h) ?_
    have HD : Hid (Below V0.heap.size V0 V0.drew) := Lib.hid ((Grn.refl V0).drew 1).below
    have HS : Hid (V0.drew.heap[w.heap.size]? = some (.cells #[.int .i64 (c : Nat), .string (strB S), .int .i64 wr, .int .i64 rd] 30 (0, 0))) := Lib.hid ((HD.out.block _ (lt_of_block hx0)).trans hx0)
    have HT : Hid (V0.drew.heap[w.heap.size + 1]? = some (.cells #[.int .i64 0, .string ⟨#[]⟩, .int .i64 0, .int .i64 0] 30 (0, 0))) := Lib.hid ((HD.out.block _ (lt_of_block hy0)).trans hy0)
    simp only [List.map_cons, List.map_nil, List.getD_cons_zero, List.getD_cons_succ, List.drop_succ_cons, List.drop_zero]
    generalize V0.drew = V at *
    refine mix_take (.agg #[.int .i64 (c : Nat), .string (strB S), .int .i64 wr, .int .i64 rd]) HS.out rfl (fun W' hS => by
      have l0 := cells_cell (o := 0) hS rfl
      have l1 := cells_cell (o := 1) hS rfl
      have l2 := cells_cell (o := 2) hS rfl
      have l3 := cells_cell (o := 3) hS rfl
      go_simp) ?_
    simp only [Act.put, List.setIfInBounds_toArray, List.set_cons_zero, List.set_cons_succ]
    refine mix_take (.pointer (some ⟨w.heap.size, 3, none⟩)) HS.out rfl (fun W' hS => by go_simp) ?_
    simp only [Act.put, List.setIfInBounds_toArray, List.set_cons_zero, List.set_cons_succ]
    refine mix_take (.int .i64 rd) HS.out rfl (fun W' hS => by
      have l := cells_cell (o := 3) hS rfl
      go_simp) ?_
    simp only [Act.put, List.setIfInBounds_toArray, List.set_cons_zero, List.set_cons_succ]
    refine mix_step rfl (fun K1 hK => ?_)
    have d0 := cells_cell (o := 0) HT.out rfl
    have e0 := cells_free HT.out 0
    have d1 := cells_cell (o := 1) HT.out rfl
    have e1 := cells_free HT.out 1
    have d2 := cells_cell (o := 2) HT.out rfl
    have e2 := cells_free HT.out 2
    have d3 := cells_cell (o := 3) HT.out rfl
    have e3 := cells_free HT.out 3
    have hlt := lt_of_block HT.out
    go_simp
    generalize hWF : World.setCell _ _ _ = WF
    have ht : WF.heap[w.heap.size + 1]? = some (.cells #[.int .i64 (c : Nat), .string (strB S), .int .i64 wr, .int .i64 rd] 30 (0, 0)) := by rw [← hWF]; exact four_cells HT.out _ _ _ _
    have HS2 : Hid (WF.heap[w.heap.size]? = some (.cells #[.int .i64 (c : Nat), .string (strB S), .int .i64 wr, .int .i64 rd] 30 (0, 0))) := Lib.hid (by rw [← hWF]; exact (four_fr V _ _ _ _ _).same HS.out (by simp))
    have hbw : Below w.heap.size w WF := hb0.trans ((HD.out.mono hb0.size).trans (by rw [← hWF]; exact (four_fr V _ _ _ _ _).below (fun x hx => by simp at hx; omega) (Nat.le_of_lt (lt_of_block HS.out))))
    clear hWF d0 d1 d2 d3 e0 e1 e2 e3 hlt HT
    refine hK _ _ HS2.out ?_
    clear hK HS
    refine mix_take (.string ⟨#[]⟩) HS2.out rfl (fun W' hS => by go_simp) ?_
    simp only [Act.put, List.setIfInBounds_toArray, List.set_cons_zero, List.set_cons_succ]
    refine mix_nil ?_
    clear hx0 hy0
    go_wp2_with fail
    refine bodyPost_ret (v := .tuple #[.agg #[.int .i64 (c : Nat), .string (strB S), .int .i64 wr, .int .i64 rd], .string ⟨#[]⟩, .int .i64 rd]) (by simp [results, Try.results28, go_sem, encR, cellsR, cells_cell ht (o := 0) rfl, cells_cell ht (o := 1) rfl, cells_cell ht (o := 2) rfl, cells_cell ht (o := 3) rfl]) rfl ⟨rfl, hbw⟩
  subst hr
  rw [show orI 0 (orI wr 16) = orI wr 16 from if_pos rfl]
  clear hno
  by_cases hS : S.length = 0
  case pos =>
    rw [if_pos hS]
    simp only [hS, decide_true] at hne
    by_cases hw : wr = 0
    case neg =>
      rw [show orI wr 16 = wr from if_neg hw]
      have q : (wr != 0) = true := by simp [hw]
      clear hw hle htop hsz hS
      unfold encR cellsR
      simp only
      generalize strB S = s at *
      go_enter Try.func28, Try.ntmps28
      go_wp2_with fail
      generalize hV0 : World.alloc _ _ = V0
      have hx0 : V0.heap[w.heap.size]? = some (.cells #[.int .i64 (c : Nat), .string s, .int .i64 wr, .int .i64 0] 30 (0, 0)) := by rw [← hV0]; exact ((below_alloc _ _).block w.heap.size (by simp)).trans (heap_alloc_new w _)
      have hy0 : V0.heap[w.heap.size + 1]? = some (.cells #[.int .i64 0, .string ⟨#[]⟩, .int .i64 0, .int .i64 0] 30 (0, 0)) := by rw [← hV0]; exact block_new _ _ _ (by simp)
      have hb0 : Below w.heap.size w V0 := by rw [← hV0]; exact below_two _ _ _
      clear hV0
      refine wp_region_mix (fun W' => W'.heap[w.heap.size]? = some (.cells #[.int .i64 (c : Nat), .string s, .int .i64 wr, .int .i64 0] 30 (0, 0))) 5 [(true, 0), (true, 1), (true, 2), (false, 3), (true, 4)] (by kernel_rfl) (by kernel_rfl) (fun _ _ _ d _ h => by cases d <;> exact h) ?_
      have HD : Hid (Below V0.heap.size V0 V0.drew) := Lib.hid ((Grn.refl V0).drew 1).below
      have HS : Hid (V0.drew.heap[w.heap.size]? = some (.cells #[.int .i64 (c : Nat), .string s, .int .i64 wr, .int .i64 0] 30 (0, 0))) := Lib.hid ((HD.out.block _ (lt_of_block hx0)).trans hx0)
      have HT : Hid (V0.drew.heap[w.heap.size + 1]? = some (.cells #[.int .i64 0, .string ⟨#[]⟩, .int .i64 0, .int .i64 0] 30 (0, 0))) := Lib.hid ((HD.out.block _ (lt_of_block hy0)).trans hy0)
      simp only [List.map_cons, List.map_nil, List.getD_cons_zero, List.getD_cons_succ, List.drop_succ_cons, List.drop_zero]
      generalize V0.drew = V at *
      refine mix_take (.agg #[.int .i64 (c : Nat), .string s, .int .i64 wr, .int .i64 0]) HS.out rfl (fun W' hS => by
        have l0 := cells_cell (o := 0) hS rfl
        have l1 := cells_cell (o := 1) hS rfl
        have l2 := cells_cell (o := 2) hS rfl
        have l3 := cells_cell (o := 3) hS rfl
        go_simp) ?_
      simp only [Act.put, List.setIfInBounds_toArray, List.set_cons_zero, List.set_cons_succ]
      refine mix_take (.pointer (some ⟨w.heap.size, 2, none⟩)) HS.out rfl (fun W' hS => by go_simp) ?_
      simp only [Act.put, List.setIfInBounds_toArray, List.set_cons_zero, List.set_cons_succ]
      refine mix_take (.int .i64 wr) HS.out rfl (fun W' hS => by
        have l := cells_cell (o := 2) hS rfl
        go_simp) ?_
      simp only [Act.put, List.setIfInBounds_toArray, List.set_cons_zero, List.set_cons_succ]
      refine mix_step rfl (fun K1 hK => ?_)
      have d0 := cells_cell (o := 0) HT.out rfl
      have e0 := cells_free HT.out 0
      have d1 := cells_cell (o := 1) HT.out rfl
      have e1 := cells_free HT.out 1
      have d2 := cells_cell (o := 2) HT.out rfl
      have e2 := cells_free HT.out 2
      have d3 := cells_cell (o := 3) HT.out rfl
      have e3 := cells_free HT.out 3
      have hlt := lt_of_block HT.out
      go_simp
      generalize hWF : World.setCell _ _ _ = WF
      have ht : WF.heap[w.heap.size + 1]? = some (.cells #[.int .i64 (c : Nat), .string s, .int .i64 wr, .int .i64 0] 30 (0, 0)) := by rw [← hWF]; exact four_cells HT.out _ _ _ _
      have HS2 : Hid (WF.heap[w.heap.size]? = some (.cells #[.int .i64 (c : Nat), .string s, .int .i64 wr, .int .i64 0] 30 (0, 0))) := Lib.hid (by rw [← hWF]; exact (four_fr V _ _ _ _ _).same HS.out (by simp))
      have hbw : Below w.heap.size w WF := hb0.trans ((HD.out.mono hb0.size).trans (by rw [← hWF]; exact (four_fr V _ _ _ _ _).below (fun x hx => by simp at hx; omega) (Nat.le_of_lt (lt_of_block HS.out))))
      clear hWF d0 d1 d2 d3 e0 e1 e2 e3 hlt HT
      refine hK _ _ HS2.out ?_
      clear hK HS
      refine mix_take (.string ⟨#[]⟩) HS2.out rfl (fun W' hS => by go_simp) ?_
      simp only [Act.put, List.setIfInBounds_toArray, List.set_cons_zero, List.set_cons_succ]
      refine mix_nil ?_
      clear hx0 hy0
      go_wp2_with fail
      refine bodyPost_ret (v := .tuple #[.agg #[.int .i64 (c : Nat), .string s, .int .i64 wr, .int .i64 0], .string ⟨#[]⟩, .int .i64 wr]) (by simp [results, Try.results28, go_sem, encR, cellsR, cells_cell ht (o := 0) rfl, cells_cell ht (o := 1) rfl, cells_cell ht (o := 2) rfl, cells_cell ht (o := 3) rfl]) rfl ⟨rfl, hbw⟩
    subst hw
    rw [show orI 0 16 = 16 from rfl]
    clear hle htop hsz hS
    unfold encR cellsR
    simp only
    generalize strB S = s at *
    go_enter Try.func28, Try.ntmps28
    go_wp2_with fail
    generalize hWF : World.alloc _ _ = WF
    have ht : WF.heap[w.heap.size + 1]? = some (.cells #[.int .i64 (c : Nat), .string s, .int .i64 0, .int .i64 0] 30 (0, 0)) := by rw [← hWF]; exact block_new _ _ _ (by simp)
    have hbw : Below w.heap.size w WF := by rw [← hWF]; exact below_two _ _ _
    clear hWF
    refine bodyPost_ret (v := .tuple #[.agg #[.int .i64 (c : Nat), .string s, .int .i64 0, .int .i64 0], .string ⟨#[]⟩, .int .i64 16]) (by simp [results, Try.results28, go_sem, encR, cellsR, cells_cell ht (o := 0) rfl, cells_cell ht (o := 1) rfl, cells_cell ht (o := 2) rfl, cells_cell ht (o := 3) rfl]) rfl ⟨rfl, hbw⟩
  rw [if_neg hS]
  simp only [hS, decide_false] at hne
  have hi1 : ((strB S).size : Int) ≤ 4096 := by rw [hsz]; omega
  by_cases hg : (S.length : Int) < n
  case pos =>
    have q3 : decide (((strB S).size : Int) < n) = true := by rw [hsz]; simp; omega
    have HA0 : Hid (strB (S.take n.toNat) = strB S) := Lib.hid (by
      rw [List.take_of_length_le (by omega)])
    have HB0 : Hid (strB (S.drop n.toNat) = ByteArray.empty) := Lib.hid (by
      rw [List.drop_of_length_le (by omega)]; rfl)
    rw [show encR ⟨c, S.drop n.toNat, wr, 0⟩ = .agg #[.int .i64 (c : Nat), .string (strB (S.drop n.toNat)), .int .i64 wr, .int .i64 0] from rfl, HA0.out, HB0.out]
    clear HA0 HB0
    unfold encR cellsR
    simp only
    generalize strB S = s at *
    clear hle htop hsz hS hg
    go_enter Try.func28, Try.ntmps28
    go_wp2_with fail
    generalize hWF : World.alloc _ _ = WF
    have ht : WF.heap[w.heap.size + 1]? = some (.cells #[.int .i64 (c : Nat), .string (ByteArray.empty), .int .i64 wr, .int .i64 0] 30 (0, 0)) := by rw [← hWF]; exact block_new _ _ _ (by simp)
    have hbw : Below w.heap.size w WF := by rw [← hWF]; exact below_two _ _ _
    clear hWF
    refine bodyPost_ret (v := .tuple #[.agg #[.int .i64 (c : Nat), .string (ByteArray.empty), .int .i64 wr, .int .i64 0], .string (s), .int .i64 0]) (by simp [results, Try.results28, go_sem, encR, cellsR, cells_cell ht (o := 0) rfl, cells_cell ht (o := 1) rfl, cells_cell ht (o := 2) rfl, cells_cell ht (o := 3) rfl]) rfl ⟨rfl, hbw⟩
  case neg =>
    have q3 : decide (((strB S).size : Int) < n) = false := by rw [hsz]; simp; omega
    have hi4 : n ≤ ((strB S).size : Int) := by rw [hsz]; omega
    have HA0 : Hid (strB (S.take n.toNat) = (strB S).extract 0 (n).toNat) := Lib.hid (by
      rw [strB_extract]
      congr 1)
    have HB0 : Hid (strB (S.drop n.toNat) = (strB S).extract (n).toNat (strB S).size) := Lib.hid (by
      rw [strB_extract, hsz]
      congr 1
      rw [List.take_of_length_le (by rw [List.length_drop]; omega)])
    rw [show encR ⟨c, S.drop n.toNat, wr, 0⟩ = .agg #[.int .i64 (c : Nat), .string (strB (S.drop n.toNat)), .int .i64 wr, .int .i64 0] from rfl, HA0.out, HB0.out]
    clear HA0 HB0
    unfold encR cellsR
    simp only
    generalize strB S = s at *
    clear hle htop hsz hS hg
    go_enter Try.func28, Try.ntmps28
    go_wp2_with fail
    generalize hWF : World.alloc _ _ = WF
    have ht : WF.heap[w.heap.size + 1]? = some (.cells #[.int .i64 (c : Nat), .string (s.extract (n).toNat s.size), .int .i64 wr, .int .i64 0] 30 (0, 0)) := by rw [← hWF]; exact block_new _ _ _ (by simp)
    have hbw : Below w.heap.size w WF := by rw [← hWF]; exact below_two _ _ _
    clear hWF
    refine bodyPost_ret (v := .tuple #[.agg #[.int .i64 (c : Nat), .string (s.extract (n).toNat s.size), .int .i64 wr, .int .i64 0], .string (s.extract 0 (n).toNat), .int .i64 0]) (by simp [results, Try.results28, go_sem, encR, cellsR, cells_cell ht (o := 0) rfl, cells_cell ht (o := 1) rfl, cells_cell ht (o := 2) rfl, cells_cell ht (o := 3) rfl]) rfl ⟨rfl, hbw⟩
end
end Go.Proofs.Ytaallpbcgabdnaa
