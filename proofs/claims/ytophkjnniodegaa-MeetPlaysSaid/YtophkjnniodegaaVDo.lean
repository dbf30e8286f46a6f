/- The law's do. -/
import Derived.Test.YtophkjnniodegaaVSmall
import Derived.Test.YtophkjnniodegaaVSpl
import Derived.Test.YtophkjnniodegaaGFlags
namespace Go.Proofs.Ytophkjnniodegaa
open Go.RowKit Go.Sort
set_option linter.unusedVariables false
set_option linter.unusedSimpArgs false

theorem row_byte {w : World} {base : Nat} {a : Option Addr} {n c : Nat} {L : List UInt8} (h : RowB w base (.slice a n c) L) (k : Nat) (hk : k < L.length) :
    ∃ g, a = some ⟨g, 0, none⟩ ∧ base ≤ g ∧ g < w.heap.size ∧ n = L.length ∧ n ≤ c ∧ c ≤ maxLen ∧ w.cell? ⟨g, k, none⟩ = some (.int .u8 ((L[k].toNat : Nat) : Int)) ∧ w.frozen? ⟨g, k, none⟩ = false ∧
      ∀ z : Int, 0 ≤ z → z < 256 → RowB (w.setCell ⟨g, k, none⟩ (.int .u8 z)) base (.slice a n c) (L.set k (UInt8.ofNat z.toNat)) := by
  have h' : w.ownsRow base 5 1 (.slice a n c) (L.map encB).length (L.map encB) := h
  obtain ⟨h1, h2⟩ := h'
  rw [List.length_map] at h2
  rcases h2 with ⟨hv, h0⟩ | ⟨g, cap, cur, hv, hb, hh, h3, h4, h5, h6⟩
  · omega
  · simp only [Value.slice.injEq] at hv
    obtain ⟨rfl, rfl, rfl⟩ := hv
    rw [Nat.mul_one] at h5 h6
    have hcur : cur[k]? = some (encB L[k]) := by
      have : (cur.toList.take L.length)[k]? = (L.map encB)[k]? := by rw [h6]
      rw [List.getElem?_take, if_pos hk, List.getElem?_map, List.getElem?_eq_getElem hk] at this
      simpa using this
    refine ⟨g, rfl, hb, lt_of_block hh, rfl, h3, h4, cells_cell hh hcur, cells_free hh _, fun z hz0 hz1 => ?_⟩
    have he : Value.int .u8 z = encB (UInt8.ofNat z.toNat) := by
      unfold encB
      congr 1
      simp
      omega
    refine ⟨by simp, .inr ⟨g, c, cur.setIfInBounds k (.int .u8 z), by simp, hb, cells_set hh k _, by simpa using h3, h4, by simpa using h5, ?_⟩⟩
    rw [List.length_map, List.length_set, Nat.mul_one, Array.toList_setIfInBounds, List.take_set, h6, he, List.map_set]
theorem km_box {w0 V V' : World} {m b k : Nat} {x : Mt} {cs : Array Value} (h : KM w0 V m b x) (hb : V.heap[k]? = some (.cells cs 28 (0, 0))) (hf : Fr [k] V V') (hk : w0.heap.size ≤ k) : KM w0 V' m b x := by
  obtain ⟨_, hbb, _⟩ := h.at'.ex
  exact ⟨h.at'.fr hf (by simpa using ne_types h.at'.me hb (by decide)) (by simpa using ne_types hbb hb (by decide)) (fun g cur hg => by simpa using ne_types hg hb (by decide)), h.lm, h.lb, h.be.trans (hf.below (fun q hq => by simp at hq; subst hq; exact hk) h.be.size)⟩
set_option maxRecDepth 100000 in
set_option maxHeartbeats 6400000 in
theorem do_result {w0 w : World} {m b : Nat} {x : Mt} (h : KM w0 w m b x) {a : Option Addr} {n c : Nat} {Ps : Parts} (hp : SrcV w0 (.slice a n c) (Ps.map encS)) (hs : Ps.flatten.length ≤ 12000) (hk : Ps.length ≤ 30) (v1 v3 : Int) :
    Calls Try.prog 11 #[pt m, encM x, .agg #[.int .i64 2, .int .i64 v1, .slice a n c, .int .i64 v3]] w fun e w' => ∃ m' b' y, e = .returned (.tuple #[pt m', encM y, .bool true]) ∧ KM w0 w' m' b' y ∧ Fr [b] w w' := by
  obtain ⟨W, hW⟩ : ∃ W, W = ((w.alloc (.cells (cellsM x) 28)).alloc (.cells #[.int .i64 2, .int .i64 v1, .slice a n c, .int .i64 v3] 32)).alloc (.cells cells0 28) := ⟨_, rfl⟩
  have b1 := below_alloc w (.cells (cellsM x) 28)
  have b2 := below_alloc (w.alloc (.cells (cellsM x) 28)) (.cells #[.int .i64 2, .int .i64 v1, .slice a n c, .int .i64 v3] 32)
  have b3 := below_alloc ((w.alloc (.cells (cellsM x) 28)).alloc (.cells #[.int .i64 2, .int .i64 v1, .slice a n c, .int .i64 v3] 32)) (.cells cells0 28)
  have hb : Below w.heap.size w W := by rw [hW]; exact b1.trans ((b2.trans (b3.mono (by simp))).mono (by simp))
  have e0 : W.heap[w.heap.size]? = some (.cells (cellsM x) 28 (0, 0)) := by rw [hW]; exact (b3.block _ (by simp; omega)).trans ((b2.block _ (by simp)).trans (heap_alloc_new w _))
  have e1 : W.heap[w.heap.size + 1]? = some (.cells #[.int .i64 2, .int .i64 v1, .slice a n c, .int .i64 v3] 32 (0, 0)) := by rw [hW]; exact (b3.block _ (by simp)).trans (block_new _ _ _ (by simp))
  have e2 : W.heap[w.heap.size + 1 + 1]? = some (.cells cells0 28 (0, 0)) := by rw [hW]; exact block_new _ _ _ (by simp)
  have hkm := h.grow hb
  have H0 := Lib.hid hkm
  have HP := Lib.hid hp
  have X0 := Lib.hid e0
  have A0 := Lib.hid e1
  have R0 := Lib.hid e2
  have HS := Lib.hid hs
  have HN := Lib.hid hk
  have HW := Lib.hid hW.symm
  have HWB := Lib.hid hb
  have F0 : Hid (Fr [b] w W) := Lib.hid (Fr.of_below hb [b])
  have HOK := Lib.hid h.at'.ok
  have HWL : Hid (w0.heap.size ≤ w.heap.size) := Lib.hid h.be.size
  clear hW b1 b2 b3 hb e0 e1 e2 hkm h hp hs hk
  unfold cells0 cellsM at HW
  unfold encM cellsM pt
  go_enter Try.func11, Try.ntmps11
  have A := A0.out
  have a0 := cells_cell (o := 0) A rfl
  clear A
  go_wp2_with (go_at_call 16; fail)
  rw [HW.out]
  clear a0
  refine (mtResult_any H0.out.at').mono ?_
  rintro e W1 ⟨rfl, hm, hf⟩
  have hne : ∀ k cs t, W.heap[k]? = some (.cells cs t (0, 0)) → t ≠ 62 → k ≠ b := fun k cs t hk ht => by obtain ⟨_, hb, _⟩ := H0.out.at'.ex; exact ne_types hk hb ht
  have H1 := Lib.hid (H0.out.next hm hf)
  have X1 := Lib.hid (hf.same X0.out (by simpa using hne _ _ _ X0.out (by decide)))
  have A1 := Lib.hid (hf.same A0.out (by simpa using hne _ _ _ A0.out (by decide)))
  have R1 := Lib.hid (hf.same R0.out (by simpa using hne _ _ _ R0.out (by decide)))
  have F1 := Lib.hid (F0.out.trans' hf)
  clear hne hm hf H0 X0 A0 R0 F0
  have x0 := cells_cell (o := 0) X1.out rfl
  have x1 := cells_cell (o := 1) X1.out rfl
  have x2 := cells_cell (o := 2) X1.out rfl
  have x3 := cells_cell (o := 3) X1.out rfl
  have x4 := cells_cell (o := 4) X1.out rfl
  go_wp2_with (go_at_call 28; fail)
  clear x0 x1 x2 x3 x4
  refine (refResult_any HOK.out W1).mono ?_
  rintro e W2 ⟨rfl, hb⟩
  have H2 := Lib.hid (H1.out.grow hb)
  have X2 := Lib.hid ((hb.block _ (lt_of_block X1.out)).trans X1.out)
  have A2 := Lib.hid ((hb.block _ (lt_of_block A1.out)).trans A1.out)
  have R2 := Lib.hid ((hb.block _ (lt_of_block R1.out)).trans R1.out)
  have F2 := Lib.hid (F1.out.trans' (Fr.of_below hb [b]))
  clear hb H1 X1 A1 R1 F1
  generalize hY : resC x = Y at *
  obtain ⟨yn, ye, y⟩ := Y
  clear hY
  simp only at *
  unfold encM cellsM
  go_wp2_with fail
  unfold cells0 at R2
  generalize hV0 : World.alloc _ _ = V0
  have hB0 : Below W2.heap.size W2 V0 := by rw [← hV0]; exact below_alloc _ _
  have hy0 : V0.heap[W2.heap.size]? = some (.cells #[.bool y.is, .string (strB y.S), .int .i64 ((y.k : Nat) : Int), .int .i64 y.wr, .int .i64 y.rd] 28 (0, 0)) := by rw [← hV0]; exact heap_alloc_new _ _
  have hr0 : V0.heap[w.heap.size + 1 + 1]? = some (.cells #[.bool false, .string ⟨#[]⟩, .int .i64 0, .int .i64 0, .int .i64 0] 28 (0, 0)) := (hB0.block _ (lt_of_block R2.out)).trans R2.out
  have hk0 := H2.out.grow hB0
  have hF0 : Fr [b] w V0 := F2.out.trans' (Fr.of_below hB0 [b])
  have hlt0 : w.heap.size + 1 + 1 < W2.heap.size := lt_of_block R2.out
  clear hV0
  refine wp_region_mix (fun W' => W'.heap[W2.heap.size]? = some (.cells #[.bool y.is, .string (strB y.S), .int .i64 ((y.k : Nat) : Int), .int .i64 y.wr, .int .i64 y.rd] 28 (0, 0))) 12 [(true, 0), (true, 1), (true, 2), (true, 3), (true, 4), (true, 5), (true, 6), (true, 7), (true, 8), (true, 9), (true, 10), (false, 11)] (by kernel_rfl) (by kernel_rfl) (fun _ _ _ d _ h => by cases d <;> exact h) ?_
  have HD : Hid (Below V0.heap.size V0 V0.drew) := Lib.hid ((Grn.refl V0).drew 1).below
  have HQ : Hid (V0.drew.heap[W2.heap.size]? = some (.cells #[.bool y.is, .string (strB y.S), .int .i64 ((y.k : Nat) : Int), .int .i64 y.wr, .int .i64 y.rd] 28 (0, 0))) := Lib.hid ((HD.out.block _ (lt_of_block hy0)).trans hy0)
  have HT : Hid (V0.drew.heap[w.heap.size + 1 + 1]? = some (.cells #[.bool false, .string ⟨#[]⟩, .int .i64 0, .int .i64 0, .int .i64 0] 28 (0, 0))) := Lib.hid ((HD.out.block _ (lt_of_block hr0)).trans hr0)
  have HKK := Lib.hid (hk0.grow HD.out)
  have HFK : Hid (Fr [b] w V0.drew) := Lib.hid (hF0.trans' (Fr.of_below HD.out [b]))
  simp only [List.map_cons, List.map_nil, List.getD_cons_zero, List.getD_cons_succ, List.drop_succ_cons, List.drop_zero]
  generalize V0.drew = V at *
  refine mix_move (.tmp 0) (.pointer (some ⟨m, 0, none⟩)) rfl HQ.out rfl rfl ?_
  simp only [Act.put, List.setIfInBounds_toArray, List.set_cons_zero, List.set_cons_succ]
  refine mix_take (.agg #[.bool y.is, .string (strB y.S), .int .i64 ((y.k : Nat) : Int), .int .i64 y.wr, .int .i64 y.rd]) HQ.out rfl (fun W' hS => by
    have l0 := cells_cell (o := 0) hS rfl
    have l1 := cells_cell (o := 1) hS rfl
    have l2 := cells_cell (o := 2) hS rfl
    have l3 := cells_cell (o := 3) hS rfl
    have l4 := cells_cell (o := 4) hS rfl
    go_simp) ?_
  simp only [Act.put, List.setIfInBounds_toArray, List.set_cons_zero, List.set_cons_succ]
  refine mix_move (.tmp 19) (.int .i64 yn) rfl HQ.out rfl rfl ?_
  simp only [Act.put, List.setIfInBounds_toArray, List.set_cons_zero, List.set_cons_succ]
  refine mix_move (.tmp 22) (.int .i64 yn) rfl HQ.out rfl rfl ?_
  simp only [Act.put, List.setIfInBounds_toArray, List.set_cons_zero, List.set_cons_succ]
  refine mix_take (.bool true) HQ.out rfl (fun W' hS => by go_simp) ?_
  simp only [Act.put, List.setIfInBounds_toArray, List.set_cons_zero, List.set_cons_succ]
  refine mix_move (.tmp 115) (.bool true) rfl HQ.out rfl rfl ?_
  simp only [Act.put, List.setIfInBounds_toArray, List.set_cons_zero, List.set_cons_succ]
  refine mix_move (.tmp 20) (.int .i64 ye) rfl HQ.out rfl rfl ?_
  simp only [Act.put, List.setIfInBounds_toArray, List.set_cons_zero, List.set_cons_succ]
  refine mix_move (.tmp 23) (.int .i64 ye) rfl HQ.out rfl rfl ?_
  simp only [Act.put, List.setIfInBounds_toArray, List.set_cons_zero, List.set_cons_succ]
  refine mix_take (.bool true) HQ.out rfl (fun W' hS => by go_simp) ?_
  simp only [Act.put, List.setIfInBounds_toArray, List.set_cons_zero, List.set_cons_succ]
  refine mix_take (.bool true) HQ.out rfl (fun W' hS => by go_simp) ?_
  simp only [Act.put, List.setIfInBounds_toArray, List.set_cons_zero, List.set_cons_succ]
  refine mix_take (.pointer (some ⟨m, 0, none⟩)) HQ.out rfl (fun W' hS => by go_simp) ?_
  simp only [Act.put, List.setIfInBounds_toArray, List.set_cons_zero, List.set_cons_succ]
  refine mix_step rfl (fun K1 hK => ?_)
  have d0 := cells_cell (o := 0) HT.out rfl
  have e0 := cells_free HT.out 0
  have d1 := cells_cell (o := 1) HT.out rfl
  have e1 := cells_free HT.out 1
  have d2 := cells_cell (o := 2) HT.out rfl
  have e2 := cells_free HT.out 2
  have d3 := cells_cell (o := 3) HT.out rfl
  have e3 := cells_free HT.out 3
  have d4 := cells_cell (o := 4) HT.out rfl
  have e4 := cells_free HT.out 4
  have hlt := lt_of_block HT.out
  go_simp
  generalize hWF : World.setCell _ _ _ = WF
  have hff : Fr [w.heap.size + 1 + 1] V WF := by rw [← hWF]; exact five_fr V _ _ _ _ _ _
  have ht : WF.heap[w.heap.size + 1 + 1]? = some (.cells #[.bool y.is, .string (strB y.S), .int .i64 ((y.k : Nat) : Int), .int .i64 y.wr, .int .i64 y.rd] 28 (0, 0)) := by rw [← hWF]; exact five_cells HT.out _ _ _ _ _
  have HS2 : Hid (WF.heap[W2.heap.size]? = some (.cells #[.bool y.is, .string (strB y.S), .int .i64 ((y.k : Nat) : Int), .int .i64 y.wr, .int .i64 y.rd] 28 (0, 0))) := Lib.hid (hff.same HQ.out (by simp; omega))
  have HKF : Hid (KM w0 WF m b y) := Lib.hid (by
    have k0 := HKK.out
    obtain ⟨_, hbb, _⟩ := k0.at'.ex
    refine ⟨k0.at'.fr hff (by simpa using ne_types k0.at'.me HT.out (by decide)) (by simpa using ne_types hbb HT.out (by decide)) (fun g cur hg => by simpa using ne_types hg HT.out (by decide)), k0.lm, k0.lb, k0.be.trans (hff.below (fun q hq => by simp at hq; subst hq; have := HWL.out; omega) k0.be.size)⟩)
  have HFF : Hid (Fr [b] w WF) := Lib.hid (HFK.out.trans hff (fun q hq => .inr (by simp at hq; omega)))
  clear hWF d0 d1 d2 d3 d4 e0 e1 e2 e3 e4 hlt HT HKK HFK
  refine hK _ _ HS2.out ?_
  clear hK HQ
  refine mix_nil ?_
  clear hy0 hr0 hk0 hF0
  go_wp2_with fail
  refine bodyPost_ret (v := .tuple #[pt m, encM y, .bool true]) (by simp [results, Try.results11, go_sem, encM, cellsM, pt, cells_cell ht (o := 0) rfl, cells_cell ht (o := 1) rfl, cells_cell ht (o := 2) rfl, cells_cell ht (o := 3) rfl, cells_cell ht (o := 4) rfl]) rfl ⟨m, b, y, rfl, HKF.out, HFF.out⟩
set_option maxRecDepth 100000 in
set_option maxHeartbeats 6400000 in
theorem do_withdraw {w0 w : World} {m b : Nat} {x : Mt} (h : KM w0 w m b x) {a : Option Addr} {n c : Nat} {Ps : Parts} (hp : SrcV w0 (.slice a n c) (Ps.map encS)) (hs : Ps.flatten.length ≤ 12000) (hk : Ps.length ≤ 30) (v1 v3 : Int) :
    Calls Try.prog 11 #[pt m, encM x, .agg #[.int .i64 3, .int .i64 v1, .slice a n c, .int .i64 v3]] w fun e w' => ∃ m' b' y, e = .returned (.tuple #[pt m', encM y, .bool true]) ∧ KM w0 w' m' b' y ∧ Fr [b] w w' := by
  obtain ⟨W, hW⟩ : ∃ W, W = ((w.alloc (.cells (cellsM x) 28)).alloc (.cells #[.int .i64 3, .int .i64 v1, .slice a n c, .int .i64 v3] 32)).alloc (.cells cells0 28) := ⟨_, rfl⟩
  have b1 := below_alloc w (.cells (cellsM x) 28)
  have b2 := below_alloc (w.alloc (.cells (cellsM x) 28)) (.cells #[.int .i64 3, .int .i64 v1, .slice a n c, .int .i64 v3] 32)
  have b3 := below_alloc ((w.alloc (.cells (cellsM x) 28)).alloc (.cells #[.int .i64 3, .int .i64 v1, .slice a n c, .int .i64 v3] 32)) (.cells cells0 28)
  have hb : Below w.heap.size w W := by rw [hW]; exact b1.trans ((b2.trans (b3.mono (by simp))).mono (by simp))
  have e0 : W.heap[w.heap.size]? = some (.cells (cellsM x) 28 (0, 0)) := by rw [hW]; exact (b3.block _ (by simp; omega)).trans ((b2.block _ (by simp)).trans (heap_alloc_new w _))
  have e1 : W.heap[w.heap.size + 1]? = some (.cells #[.int .i64 3, .int .i64 v1, .slice a n c, .int .i64 v3] 32 (0, 0)) := by rw [hW]; exact (b3.block _ (by simp)).trans (block_new _ _ _ (by simp))
  have e2 : W.heap[w.heap.size + 1 + 1]? = some (.cells cells0 28 (0, 0)) := by rw [hW]; exact block_new _ _ _ (by simp)
  have hkm := h.grow hb
  have H0 := Lib.hid hkm
  have HP := Lib.hid hp
  have X0 := Lib.hid e0
  have A0 := Lib.hid e1
  have R0 := Lib.hid e2
  have HS := Lib.hid hs
  have HN := Lib.hid hk
  have HW := Lib.hid hW.symm
  have HWB := Lib.hid hb
  have F0 : Hid (Fr [b] w W) := Lib.hid (Fr.of_below hb [b])
  have HOK := Lib.hid h.at'.ok
  have HWL : Hid (w0.heap.size ≤ w.heap.size) := Lib.hid h.be.size
  clear hW b1 b2 b3 hb e0 e1 e2 hkm h hp hs hk
  unfold cells0 cellsM at HW
  unfold encM cellsM pt
  go_enter Try.func11, Try.ntmps11
  have A := A0.out
  have a0 := cells_cell (o := 0) A rfl
  clear A
  go_wp2_with (go_at_call 17; fail)
  rw [HW.out]
  clear a0
  refine (mtWithdraw_any H0.out.at').mono ?_
  rintro e W1 ⟨rfl, hm, hf⟩
  have hne : ∀ k cs t, W.heap[k]? = some (.cells cs t (0, 0)) → t ≠ 62 → k ≠ b := fun k cs t hk ht => by obtain ⟨_, hb, _⟩ := H0.out.at'.ex; exact ne_types hk hb ht
  have H1 := Lib.hid (H0.out.next hm hf)
  have X1 := Lib.hid (hf.same X0.out (by simpa using hne _ _ _ X0.out (by decide)))
  have A1 := Lib.hid (hf.same A0.out (by simpa using hne _ _ _ A0.out (by decide)))
  have R1 := Lib.hid (hf.same R0.out (by simpa using hne _ _ _ R0.out (by decide)))
  have F1 := Lib.hid (F0.out.trans' hf)
  clear hne hm hf H0 X0 A0 R0 F0
  have x0 := cells_cell (o := 0) X1.out rfl
  have x1 := cells_cell (o := 1) X1.out rfl
  have x2 := cells_cell (o := 2) X1.out rfl
  have x3 := cells_cell (o := 3) X1.out rfl
  have x4 := cells_cell (o := 4) X1.out rfl
  go_wp2_with (go_at_call 29; fail)
  clear x0 x1 x2 x3 x4
  refine (refWithdraw_any HOK.out W1).mono ?_
  rintro e W2 ⟨rfl, hb⟩
  have H2 := Lib.hid (H1.out.grow hb)
  have X2 := Lib.hid ((hb.block _ (lt_of_block X1.out)).trans X1.out)
  have A2 := Lib.hid ((hb.block _ (lt_of_block A1.out)).trans A1.out)
  have R2 := Lib.hid ((hb.block _ (lt_of_block R1.out)).trans R1.out)
  have F2 := Lib.hid (F1.out.trans' (Fr.of_below hb [b]))
  clear hb H1 X1 A1 R1 F1
  generalize hY : witC x = Y at *
  obtain ⟨yn, ye, y⟩ := Y
  clear hY
  simp only at *
  unfold encM cellsM
  go_wp2_with fail
  unfold cells0 at R2
  generalize hV0 : World.alloc _ _ = V0
  have hB0 : Below W2.heap.size W2 V0 := by rw [← hV0]; exact below_alloc _ _
  have hy0 : V0.heap[W2.heap.size]? = some (.cells #[.bool y.is, .string (strB y.S), .int .i64 ((y.k : Nat) : Int), .int .i64 y.wr, .int .i64 y.rd] 28 (0, 0)) := by rw [← hV0]; exact heap_alloc_new _ _
  have hr0 : V0.heap[w.heap.size + 1 + 1]? = some (.cells #[.bool false, .string ⟨#[]⟩, .int .i64 0, .int .i64 0, .int .i64 0] 28 (0, 0)) := (hB0.block _ (lt_of_block R2.out)).trans R2.out
  have hk0 := H2.out.grow hB0
  have hF0 : Fr [b] w V0 := F2.out.trans' (Fr.of_below hB0 [b])
  have hlt0 : w.heap.size + 1 + 1 < W2.heap.size := lt_of_block R2.out
  clear hV0
  refine wp_region_mix (fun W' => W'.heap[W2.heap.size]? = some (.cells #[.bool y.is, .string (strB y.S), .int .i64 ((y.k : Nat) : Int), .int .i64 y.wr, .int .i64 y.rd] 28 (0, 0))) 12 [(true, 0), (true, 1), (true, 2), (true, 3), (true, 4), (true, 5), (true, 6), (true, 7), (true, 8), (true, 9), (true, 10), (false, 11)] (by kernel_rfl) (by kernel_rfl) (fun _ _ _ d _ h => by cases d <;> exact h) ?_
  have HD : Hid (Below V0.heap.size V0 V0.drew) := Lib.hid ((Grn.refl V0).drew 1).below
  have HQ : Hid (V0.drew.heap[W2.heap.size]? = some (.cells #[.bool y.is, .string (strB y.S), .int .i64 ((y.k : Nat) : Int), .int .i64 y.wr, .int .i64 y.rd] 28 (0, 0))) := Lib.hid ((HD.out.block _ (lt_of_block hy0)).trans hy0)
  have HT : Hid (V0.drew.heap[w.heap.size + 1 + 1]? = some (.cells #[.bool false, .string ⟨#[]⟩, .int .i64 0, .int .i64 0, .int .i64 0] 28 (0, 0))) := Lib.hid ((HD.out.block _ (lt_of_block hr0)).trans hr0)
  have HKK := Lib.hid (hk0.grow HD.out)
  have HFK : Hid (Fr [b] w V0.drew) := Lib.hid (hF0.trans' (Fr.of_below HD.out [b]))
  simp only [List.map_cons, List.map_nil, List.getD_cons_zero, List.getD_cons_succ, List.drop_succ_cons, List.drop_zero]
  generalize V0.drew = V at *
  refine mix_move (.tmp 0) (.pointer (some ⟨m, 0, none⟩)) rfl HQ.out rfl rfl ?_
  simp only [Act.put, List.setIfInBounds_toArray, List.set_cons_zero, List.set_cons_succ]
  refine mix_take (.agg #[.bool y.is, .string (strB y.S), .int .i64 ((y.k : Nat) : Int), .int .i64 y.wr, .int .i64 y.rd]) HQ.out rfl (fun W' hS => by
    have l0 := cells_cell (o := 0) hS rfl
    have l1 := cells_cell (o := 1) hS rfl
    have l2 := cells_cell (o := 2) hS rfl
    have l3 := cells_cell (o := 3) hS rfl
    have l4 := cells_cell (o := 4) hS rfl
    go_simp) ?_
  simp only [Act.put, List.setIfInBounds_toArray, List.set_cons_zero, List.set_cons_succ]
  refine mix_move (.tmp 24) (.int .i64 yn) rfl HQ.out rfl rfl ?_
  simp only [Act.put, List.setIfInBounds_toArray, List.set_cons_zero, List.set_cons_succ]
  refine mix_move (.tmp 27) (.int .i64 yn) rfl HQ.out rfl rfl ?_
  simp only [Act.put, List.setIfInBounds_toArray, List.set_cons_zero, List.set_cons_succ]
  refine mix_take (.bool true) HQ.out rfl (fun W' hS => by go_simp) ?_
  simp only [Act.put, List.setIfInBounds_toArray, List.set_cons_zero, List.set_cons_succ]
  refine mix_move (.tmp 138) (.bool true) rfl HQ.out rfl rfl ?_
  simp only [Act.put, List.setIfInBounds_toArray, List.set_cons_zero, List.set_cons_succ]
  refine mix_move (.tmp 25) (.int .i64 ye) rfl HQ.out rfl rfl ?_
  simp only [Act.put, List.setIfInBounds_toArray, List.set_cons_zero, List.set_cons_succ]
  refine mix_move (.tmp 28) (.int .i64 ye) rfl HQ.out rfl rfl ?_
  simp only [Act.put, List.setIfInBounds_toArray, List.set_cons_zero, List.set_cons_succ]
  refine mix_take (.bool true) HQ.out rfl (fun W' hS => by go_simp) ?_
  simp only [Act.put, List.setIfInBounds_toArray, List.set_cons_zero, List.set_cons_succ]
  refine mix_take (.bool true) HQ.out rfl (fun W' hS => by go_simp) ?_
  simp only [Act.put, List.setIfInBounds_toArray, List.set_cons_zero, List.set_cons_succ]
  refine mix_take (.pointer (some ⟨m, 0, none⟩)) HQ.out rfl (fun W' hS => by go_simp) ?_
  simp only [Act.put, List.setIfInBounds_toArray, List.set_cons_zero, List.set_cons_succ]
  refine mix_step rfl (fun K1 hK => ?_)
  have d0 := cells_cell (o := 0) HT.out rfl
  have e0 := cells_free HT.out 0
  have d1 := cells_cell (o := 1) HT.out rfl
  have e1 := cells_free HT.out 1
  have d2 := cells_cell (o := 2) HT.out rfl
  have e2 := cells_free HT.out 2
  have d3 := cells_cell (o := 3) HT.out rfl
  have e3 := cells_free HT.out 3
  have d4 := cells_cell (o := 4) HT.out rfl
  have e4 := cells_free HT.out 4
  have hlt := lt_of_block HT.out
  go_simp
  generalize hWF : World.setCell _ _ _ = WF
  have hff : Fr [w.heap.size + 1 + 1] V WF := by rw [← hWF]; exact five_fr V _ _ _ _ _ _
  have ht : WF.heap[w.heap.size + 1 + 1]? = some (.cells #[.bool y.is, .string (strB y.S), .int .i64 ((y.k : Nat) : Int), .int .i64 y.wr, .int .i64 y.rd] 28 (0, 0)) := by rw [← hWF]; exact five_cells HT.out _ _ _ _ _
  have HS2 : Hid (WF.heap[W2.heap.size]? = some (.cells #[.bool y.is, .string (strB y.S), .int .i64 ((y.k : Nat) : Int), .int .i64 y.wr, .int .i64 y.rd] 28 (0, 0))) := Lib.hid (hff.same HQ.out (by simp; omega))
  have HKF : Hid (KM w0 WF m b y) := Lib.hid (by
    have k0 := HKK.out
    obtain ⟨_, hbb, _⟩ := k0.at'.ex
    refine ⟨k0.at'.fr hff (by simpa using ne_types k0.at'.me HT.out (by decide)) (by simpa using ne_types hbb HT.out (by decide)) (fun g cur hg => by simpa using ne_types hg HT.out (by decide)), k0.lm, k0.lb, k0.be.trans (hff.below (fun q hq => by simp at hq; subst hq; have := HWL.out; omega) k0.be.size)⟩)
  have HFF : Hid (Fr [b] w WF) := Lib.hid (HFK.out.trans hff (fun q hq => .inr (by simp at hq; omega)))
  clear hWF d0 d1 d2 d3 d4 e0 e1 e2 e3 e4 hlt HT HKK HFK
  refine hK _ _ HS2.out ?_
  clear hK HQ
  refine mix_nil ?_
  clear hy0 hr0 hk0 hF0
  go_wp2_with fail
  refine bodyPost_ret (v := .tuple #[pt m, encM y, .bool true]) (by simp [results, Try.results11, go_sem, encM, cellsM, pt, cells_cell ht (o := 0) rfl, cells_cell ht (o := 1) rfl, cells_cell ht (o := 2) rfl, cells_cell ht (o := 3) rfl, cells_cell ht (o := 4) rfl]) rfl ⟨m, b, y, rfl, HKF.out, HFF.out⟩
set_option maxRecDepth 100000 in
set_option maxHeartbeats 6400000 in
theorem do_cw {w0 w : World} {m b : Nat} {x : Mt} (h : KM w0 w m b x) {a : Option Addr} {n c : Nat} {Ps : Parts} (hp : SrcV w0 (.slice a n c) (Ps.map encS)) (hs : Ps.flatten.length ≤ 12000) (hk : Ps.length ≤ 30) (v1 v3 : Int) (hv : I64 v3) :
    Calls Try.prog 11 #[pt m, encM x, .agg #[.int .i64 4, .int .i64 v1, .slice a n c, .int .i64 v3]] w fun e w' => ∃ m' b' y, e = .returned (.tuple #[pt m', encM y, .bool true]) ∧ KM w0 w' m' b' y ∧ Fr [b] w w' := by
  have HV := Lib.hid hv
  clear hv
  obtain ⟨W, hW⟩ : ∃ W, W = ((w.alloc (.cells (cellsM x) 28)).alloc (.cells #[.int .i64 4, .int .i64 v1, .slice a n c, .int .i64 v3] 32)).alloc (.cells cells0 28) := ⟨_, rfl⟩
  have b1 := below_alloc w (.cells (cellsM x) 28)
  have b2 := below_alloc (w.alloc (.cells (cellsM x) 28)) (.cells #[.int .i64 4, .int .i64 v1, .slice a n c, .int .i64 v3] 32)
  have b3 := below_alloc ((w.alloc (.cells (cellsM x) 28)).alloc (.cells #[.int .i64 4, .int .i64 v1, .slice a n c, .int .i64 v3] 32)) (.cells cells0 28)
  have hb : Below w.heap.size w W := by rw [hW]; exact b1.trans ((b2.trans (b3.mono (by simp))).mono (by simp))
  have e0 : W.heap[w.heap.size]? = some (.cells (cellsM x) 28 (0, 0)) := by rw [hW]; exact (b3.block _ (by simp; omega)).trans ((b2.block _ (by simp)).trans (heap_alloc_new w _))
  have e1 : W.heap[w.heap.size + 1]? = some (.cells #[.int .i64 4, .int .i64 v1, .slice a n c, .int .i64 v3] 32 (0, 0)) := by rw [hW]; exact (b3.block _ (by simp)).trans (block_new _ _ _ (by simp))
  have e2 : W.heap[w.heap.size + 1 + 1]? = some (.cells cells0 28 (0, 0)) := by rw [hW]; exact block_new _ _ _ (by simp)
  have hkm := h.grow hb
  have H0 := Lib.hid hkm
  have HP := Lib.hid hp
  have X0 := Lib.hid e0
  have A0 := Lib.hid e1
  have R0 := Lib.hid e2
  have HS := Lib.hid hs
  have HN := Lib.hid hk
  have HW := Lib.hid hW.symm
  have HWB := Lib.hid hb
  have F0 : Hid (Fr [b] w W) := Lib.hid (Fr.of_below hb [b])
  have HOK := Lib.hid h.at'.ok
  have HWL : Hid (w0.heap.size ≤ w.heap.size) := Lib.hid h.be.size
  clear hW b1 b2 b3 hb e0 e1 e2 hkm h hp hs hk
  unfold cells0 cellsM at HW
  unfold encM cellsM pt
  go_enter Try.func11, Try.ntmps11
  have A := A0.out
  have a0 := cells_cell (o := 0) A rfl
  have a3 := cells_cell (o := 3) A rfl
  clear A
  go_wp2_with (go_at_call 20; fail)
  rw [HW.out]
  clear a0 a3
  refine (mtCloseWrite_any H0.out.at' v3 HV.out).mono ?_
  rintro e W1 ⟨rfl, hm, hf⟩
  have hne : ∀ k cs t, W.heap[k]? = some (.cells cs t (0, 0)) → t ≠ 62 → k ≠ b := fun k cs t hk ht => by obtain ⟨_, hb, _⟩ := H0.out.at'.ex; exact ne_types hk hb ht
  have H1 := Lib.hid (H0.out.next hm hf)
  have X1 := Lib.hid (hf.same X0.out (by simpa using hne _ _ _ X0.out (by decide)))
  have A1 := Lib.hid (hf.same A0.out (by simpa using hne _ _ _ A0.out (by decide)))
  have R1 := Lib.hid (hf.same R0.out (by simpa using hne _ _ _ R0.out (by decide)))
  have F1 := Lib.hid (F0.out.trans' hf)
  clear hne hm hf H0 X0 A0 R0 F0
  have x0 := cells_cell (o := 0) X1.out rfl
  have x1 := cells_cell (o := 1) X1.out rfl
  have x2 := cells_cell (o := 2) X1.out rfl
  have x3 := cells_cell (o := 3) X1.out rfl
  have x4 := cells_cell (o := 4) X1.out rfl
  have a3 := cells_cell (o := 3) A1.out rfl
  go_wp2_with (go_at_call 30; fail)
  clear x0 x1 x2 x3 x4 a3
  refine (refCloseWrite_any HOK.out W1 v3).mono ?_
  rintro e W2 ⟨rfl, hb⟩
  have H2 := Lib.hid (H1.out.grow hb)
  have X2 := Lib.hid ((hb.block _ (lt_of_block X1.out)).trans X1.out)
  have A2 := Lib.hid ((hb.block _ (lt_of_block A1.out)).trans A1.out)
  have R2 := Lib.hid ((hb.block _ (lt_of_block R1.out)).trans R1.out)
  have F2 := Lib.hid (F1.out.trans' (Fr.of_below hb [b]))
  clear hb H1 X1 A1 R1 F1
  generalize hY : cwrC x v3 = Y at *
  obtain ⟨ye, y⟩ := Y
  clear hY
  simp only at *
  unfold encM cellsM
  go_wp2_with fail
  unfold cells0 at R2
  generalize hV0 : World.alloc _ _ = V0
  have hB0 : Below W2.heap.size W2 V0 := by rw [← hV0]; exact below_alloc _ _
  have hy0 : V0.heap[W2.heap.size]? = some (.cells #[.bool y.is, .string (strB y.S), .int .i64 ((y.k : Nat) : Int), .int .i64 y.wr, .int .i64 y.rd] 28 (0, 0)) := by rw [← hV0]; exact heap_alloc_new _ _
  have hr0 : V0.heap[w.heap.size + 1 + 1]? = some (.cells #[.bool false, .string ⟨#[]⟩, .int .i64 0, .int .i64 0, .int .i64 0] 28 (0, 0)) := (hB0.block _ (lt_of_block R2.out)).trans R2.out
  have hk0 := H2.out.grow hB0
  have hF0 : Fr [b] w V0 := F2.out.trans' (Fr.of_below hB0 [b])
  have hlt0 : w.heap.size + 1 + 1 < W2.heap.size := lt_of_block R2.out
  clear hV0
  refine wp_region_mix (fun W' => W'.heap[W2.heap.size]? = some (.cells #[.bool y.is, .string (strB y.S), .int .i64 ((y.k : Nat) : Int), .int .i64 y.wr, .int .i64 y.rd] 28 (0, 0))) 7 [(true, 0), (true, 1), (true, 2), (true, 3), (true, 4), (true, 5), (false, 6)] (by kernel_rfl) (by kernel_rfl) (fun _ _ _ d _ h => by cases d <;> exact h) ?_
  have HD : Hid (Below V0.heap.size V0 V0.drew) := Lib.hid ((Grn.refl V0).drew 1).below
  have HQ : Hid (V0.drew.heap[W2.heap.size]? = some (.cells #[.bool y.is, .string (strB y.S), .int .i64 ((y.k : Nat) : Int), .int .i64 y.wr, .int .i64 y.rd] 28 (0, 0))) := Lib.hid ((HD.out.block _ (lt_of_block hy0)).trans hy0)
  have HT : Hid (V0.drew.heap[w.heap.size + 1 + 1]? = some (.cells #[.bool false, .string ⟨#[]⟩, .int .i64 0, .int .i64 0, .int .i64 0] 28 (0, 0))) := Lib.hid ((HD.out.block _ (lt_of_block hr0)).trans hr0)
  have HKK := Lib.hid (hk0.grow HD.out)
  have HFK : Hid (Fr [b] w V0.drew) := Lib.hid (hF0.trans' (Fr.of_below HD.out [b]))
  simp only [List.map_cons, List.map_nil, List.getD_cons_zero, List.getD_cons_succ, List.drop_succ_cons, List.drop_zero]
  generalize V0.drew = V at *
  refine mix_move (.tmp 0) (.pointer (some ⟨m, 0, none⟩)) rfl HQ.out rfl rfl ?_
  simp only [Act.put, List.setIfInBounds_toArray, List.set_cons_zero, List.set_cons_succ]
  refine mix_take (.agg #[.bool y.is, .string (strB y.S), .int .i64 ((y.k : Nat) : Int), .int .i64 y.wr, .int .i64 y.rd]) HQ.out rfl (fun W' hS => by
    have l0 := cells_cell (o := 0) hS rfl
    have l1 := cells_cell (o := 1) hS rfl
    have l2 := cells_cell (o := 2) hS rfl
    have l3 := cells_cell (o := 3) hS rfl
    have l4 := cells_cell (o := 4) hS rfl
    go_simp) ?_
  simp only [Act.put, List.setIfInBounds_toArray, List.set_cons_zero, List.set_cons_succ]
  refine mix_move (.tmp 29) (.int .i64 ye) rfl HQ.out rfl rfl ?_
  simp only [Act.put, List.setIfInBounds_toArray, List.set_cons_zero, List.set_cons_succ]
  refine mix_move (.tmp 31) (.int .i64 ye) rfl HQ.out rfl rfl ?_
  simp only [Act.put, List.setIfInBounds_toArray, List.set_cons_zero, List.set_cons_succ]
  refine mix_take (.bool true) HQ.out rfl (fun W' hS => by go_simp) ?_
  simp only [Act.put, List.setIfInBounds_toArray, List.set_cons_zero, List.set_cons_succ]
  refine mix_take (.pointer (some ⟨m, 0, none⟩)) HQ.out rfl (fun W' hS => by go_simp) ?_
  simp only [Act.put, List.setIfInBounds_toArray, List.set_cons_zero, List.set_cons_succ]
  refine mix_step rfl (fun K1 hK => ?_)
  have d0 := cells_cell (o := 0) HT.out rfl
  have e0 := cells_free HT.out 0
  have d1 := cells_cell (o := 1) HT.out rfl
  have e1 := cells_free HT.out 1
  have d2 := cells_cell (o := 2) HT.out rfl
  have e2 := cells_free HT.out 2
  have d3 := cells_cell (o := 3) HT.out rfl
  have e3 := cells_free HT.out 3
  have d4 := cells_cell (o := 4) HT.out rfl
  have e4 := cells_free HT.out 4
  have hlt := lt_of_block HT.out
  go_simp
  generalize hWF : World.setCell _ _ _ = WF
  have hff : Fr [w.heap.size + 1 + 1] V WF := by rw [← hWF]; exact five_fr V _ _ _ _ _ _
  have ht : WF.heap[w.heap.size + 1 + 1]? = some (.cells #[.bool y.is, .string (strB y.S), .int .i64 ((y.k : Nat) : Int), .int .i64 y.wr, .int .i64 y.rd] 28 (0, 0)) := by rw [← hWF]; exact five_cells HT.out _ _ _ _ _
  have HS2 : Hid (WF.heap[W2.heap.size]? = some (.cells #[.bool y.is, .string (strB y.S), .int .i64 ((y.k : Nat) : Int), .int .i64 y.wr, .int .i64 y.rd] 28 (0, 0))) := Lib.hid (hff.same HQ.out (by simp; omega))
  have HKF : Hid (KM w0 WF m b y) := Lib.hid (by
    have k0 := HKK.out
    obtain ⟨_, hbb, _⟩ := k0.at'.ex
    refine ⟨k0.at'.fr hff (by simpa using ne_types k0.at'.me HT.out (by decide)) (by simpa using ne_types hbb HT.out (by decide)) (fun g cur hg => by simpa using ne_types hg HT.out (by decide)), k0.lm, k0.lb, k0.be.trans (hff.below (fun q hq => by simp at hq; subst hq; have := HWL.out; omega) k0.be.size)⟩)
  have HFF : Hid (Fr [b] w WF) := Lib.hid (HFK.out.trans hff (fun q hq => .inr (by simp at hq; omega)))
  clear hWF d0 d1 d2 d3 d4 e0 e1 e2 e3 e4 hlt HT HKK HFK
  refine hK _ _ HS2.out ?_
  clear hK HQ
  refine mix_nil ?_
  clear hy0 hr0 hk0 hF0
  go_wp2_with fail
  refine bodyPost_ret (v := .tuple #[pt m, encM y, .bool true]) (by simp [results, Try.results11, go_sem, encM, cellsM, pt, cells_cell ht (o := 0) rfl, cells_cell ht (o := 1) rfl, cells_cell ht (o := 2) rfl, cells_cell ht (o := 3) rfl, cells_cell ht (o := 4) rfl]) rfl ⟨m, b, y, rfl, HKF.out, HFF.out⟩
set_option maxRecDepth 100000 in
set_option maxHeartbeats 6400000 in
theorem do_cr {w0 w : World} {m b : Nat} {x : Mt} (h : KM w0 w m b x) {a : Option Addr} {n c : Nat} {Ps : Parts} (hp : SrcV w0 (.slice a n c) (Ps.map encS)) (hs : Ps.flatten.length ≤ 12000) (hk : Ps.length ≤ 30) (v1 v3 : Int) (hv : I64 v3) :
    Calls Try.prog 11 #[pt m, encM x, .agg #[.int .i64 5, .int .i64 v1, .slice a n c, .int .i64 v3]] w fun e w' => ∃ m' b' y, e = .returned (.tuple #[pt m', encM y, .bool true]) ∧ KM w0 w' m' b' y ∧ Fr [b] w w' := by
  have HV := Lib.hid hv
  clear hv
  obtain ⟨W, hW⟩ : ∃ W, W = ((w.alloc (.cells (cellsM x) 28)).alloc (.cells #[.int .i64 5, .int .i64 v1, .slice a n c, .int .i64 v3] 32)).alloc (.cells cells0 28) := ⟨_, rfl⟩
  have b1 := below_alloc w (.cells (cellsM x) 28)
  have b2 := below_alloc (w.alloc (.cells (cellsM x) 28)) (.cells #[.int .i64 5, .int .i64 v1, .slice a n c, .int .i64 v3] 32)
  have b3 := below_alloc ((w.alloc (.cells (cellsM x) 28)).alloc (.cells #[.int .i64 5, .int .i64 v1, .slice a n c, .int .i64 v3] 32)) (.cells cells0 28)
  have hb : Below w.heap.size w W := by rw [hW]; exact b1.trans ((b2.trans (b3.mono (by simp))).mono (by simp))
  have e0 : W.heap[w.heap.size]? = some (.cells (cellsM x) 28 (0, 0)) := by rw [hW]; exact (b3.block _ (by simp; omega)).trans ((b2.block _ (by simp)).trans (heap_alloc_new w _))
  have e1 : W.heap[w.heap.size + 1]? = some (.cells #[.int .i64 5, .int .i64 v1, .slice a n c, .int .i64 v3] 32 (0, 0)) := by rw [hW]; exact (b3.block _ (by simp)).trans (block_new _ _ _ (by simp))
  have e2 : W.heap[w.heap.size + 1 + 1]? = some (.cells cells0 28 (0, 0)) := by rw [hW]; exact block_new _ _ _ (by simp)
  have hkm := h.grow hb
  have H0 := Lib.hid hkm
  have HP := Lib.hid hp
  have X0 := Lib.hid e0
  have A0 := Lib.hid e1
  have R0 := Lib.hid e2
  have HS := Lib.hid hs
  have HN := Lib.hid hk
  have HW := Lib.hid hW.symm
  have HWB := Lib.hid hb
  have F0 : Hid (Fr [b] w W) := Lib.hid (Fr.of_below hb [b])
  have HOK := Lib.hid h.at'.ok
  have HWL : Hid (w0.heap.size ≤ w.heap.size) := Lib.hid h.be.size
  clear hW b1 b2 b3 hb e0 e1 e2 hkm h hp hs hk
  unfold cells0 cellsM at HW
  unfold encM cellsM pt
  go_enter Try.func11, Try.ntmps11
  have A := A0.out
  have a0 := cells_cell (o := 0) A rfl
  have a3 := cells_cell (o := 3) A rfl
  clear A
  go_wp2_with (go_at_call 21; fail)
  rw [HW.out]
  clear a0 a3
  refine (mtCloseRead_any H0.out.at' v3 HV.out).mono ?_
  rintro e W1 ⟨rfl, hm, hf⟩
  have hne : ∀ k cs t, W.heap[k]? = some (.cells cs t (0, 0)) → t ≠ 62 → k ≠ b := fun k cs t hk ht => by obtain ⟨_, hb, _⟩ := H0.out.at'.ex; exact ne_types hk hb ht
  have H1 := Lib.hid (H0.out.next hm hf)
  have X1 := Lib.hid (hf.same X0.out (by simpa using hne _ _ _ X0.out (by decide)))
  have A1 := Lib.hid (hf.same A0.out (by simpa using hne _ _ _ A0.out (by decide)))
  have R1 := Lib.hid (hf.same R0.out (by simpa using hne _ _ _ R0.out (by decide)))
  have F1 := Lib.hid (F0.out.trans' hf)
  clear hne hm hf H0 X0 A0 R0 F0
  have x0 := cells_cell (o := 0) X1.out rfl
  have x1 := cells_cell (o := 1) X1.out rfl
  have x2 := cells_cell (o := 2) X1.out rfl
  have x3 := cells_cell (o := 3) X1.out rfl
  have x4 := cells_cell (o := 4) X1.out rfl
  have a3 := cells_cell (o := 3) A1.out rfl
  go_wp2_with (go_at_call 31; fail)
  clear x0 x1 x2 x3 x4 a3
  refine (refCloseRead_any HOK.out W1 v3).mono ?_
  rintro e W2 ⟨rfl, hb⟩
  have H2 := Lib.hid (H1.out.grow hb)
  have X2 := Lib.hid ((hb.block _ (lt_of_block X1.out)).trans X1.out)
  have A2 := Lib.hid ((hb.block _ (lt_of_block A1.out)).trans A1.out)
  have R2 := Lib.hid ((hb.block _ (lt_of_block R1.out)).trans R1.out)
  have F2 := Lib.hid (F1.out.trans' (Fr.of_below hb [b]))
  clear hb H1 X1 A1 R1 F1
  generalize hY : crdC x v3 = Y at *
  obtain ⟨ye, y⟩ := Y
  clear hY
  simp only at *
  unfold encM cellsM
  go_wp2_with fail
  unfold cells0 at R2
  generalize hV0 : World.alloc _ _ = V0
  have hB0 : Below W2.heap.size W2 V0 := by rw [← hV0]; exact below_alloc _ _
  have hy0 : V0.heap[W2.heap.size]? = some (.cells #[.bool y.is, .string (strB y.S), .int .i64 ((y.k : Nat) : Int), .int .i64 y.wr, .int .i64 y.rd] 28 (0, 0)) := by rw [← hV0]; exact heap_alloc_new _ _
  have hr0 : V0.heap[w.heap.size + 1 + 1]? = some (.cells #[.bool false, .string ⟨#[]⟩, .int .i64 0, .int .i64 0, .int .i64 0] 28 (0, 0)) := (hB0.block _ (lt_of_block R2.out)).trans R2.out
  have hk0 := H2.out.grow hB0
  have hF0 : Fr [b] w V0 := F2.out.trans' (Fr.of_below hB0 [b])
  have hlt0 : w.heap.size + 1 + 1 < W2.heap.size := lt_of_block R2.out
  clear hV0
  refine wp_region_mix (fun W' => W'.heap[W2.heap.size]? = some (.cells #[.bool y.is, .string (strB y.S), .int .i64 ((y.k : Nat) : Int), .int .i64 y.wr, .int .i64 y.rd] 28 (0, 0))) 7 [(true, 0), (true, 1), (true, 2), (true, 3), (true, 4), (true, 5), (false, 6)] (by kernel_rfl) (by kernel_rfl) (fun _ _ _ d _ h => by cases d <;> exact h) ?_
  have HD : Hid (Below V0.heap.size V0 V0.drew) := Lib.hid ((Grn.refl V0).drew 1).below
  have HQ : Hid (V0.drew.heap[W2.heap.size]? = some (.cells #[.bool y.is, .string (strB y.S), .int .i64 ((y.k : Nat) : Int), .int .i64 y.wr, .int .i64 y.rd] 28 (0, 0))) := Lib.hid ((HD.out.block _ (lt_of_block hy0)).trans hy0)
  have HT : Hid (V0.drew.heap[w.heap.size + 1 + 1]? = some (.cells #[.bool false, .string ⟨#[]⟩, .int .i64 0, .int .i64 0, .int .i64 0] 28 (0, 0))) := Lib.hid ((HD.out.block _ (lt_of_block hr0)).trans hr0)
  have HKK := Lib.hid (hk0.grow HD.out)
  have HFK : Hid (Fr [b] w V0.drew) := Lib.hid (hF0.trans' (Fr.of_below HD.out [b]))
  simp only [List.map_cons, List.map_nil, List.getD_cons_zero, List.getD_cons_succ, List.drop_succ_cons, List.drop_zero]
  generalize V0.drew = V at *
  refine mix_move (.tmp 0) (.pointer (some ⟨m, 0, none⟩)) rfl HQ.out rfl rfl ?_
  simp only [Act.put, List.setIfInBounds_toArray, List.set_cons_zero, List.set_cons_succ]
  refine mix_take (.agg #[.bool y.is, .string (strB y.S), .int .i64 ((y.k : Nat) : Int), .int .i64 y.wr, .int .i64 y.rd]) HQ.out rfl (fun W' hS => by
    have l0 := cells_cell (o := 0) hS rfl
    have l1 := cells_cell (o := 1) hS rfl
    have l2 := cells_cell (o := 2) hS rfl
    have l3 := cells_cell (o := 3) hS rfl
    have l4 := cells_cell (o := 4) hS rfl
    go_simp) ?_
  simp only [Act.put, List.setIfInBounds_toArray, List.set_cons_zero, List.set_cons_succ]
  refine mix_move (.tmp 32) (.int .i64 ye) rfl HQ.out rfl rfl ?_
  simp only [Act.put, List.setIfInBounds_toArray, List.set_cons_zero, List.set_cons_succ]
  refine mix_move (.tmp 34) (.int .i64 ye) rfl HQ.out rfl rfl ?_
  simp only [Act.put, List.setIfInBounds_toArray, List.set_cons_zero, List.set_cons_succ]
  refine mix_take (.bool true) HQ.out rfl (fun W' hS => by go_simp) ?_
  simp only [Act.put, List.setIfInBounds_toArray, List.set_cons_zero, List.set_cons_succ]
  refine mix_take (.pointer (some ⟨m, 0, none⟩)) HQ.out rfl (fun W' hS => by go_simp) ?_
  simp only [Act.put, List.setIfInBounds_toArray, List.set_cons_zero, List.set_cons_succ]
  refine mix_step rfl (fun K1 hK => ?_)
  have d0 := cells_cell (o := 0) HT.out rfl
  have e0 := cells_free HT.out 0
  have d1 := cells_cell (o := 1) HT.out rfl
  have e1 := cells_free HT.out 1
  have d2 := cells_cell (o := 2) HT.out rfl
  have e2 := cells_free HT.out 2
  have d3 := cells_cell (o := 3) HT.out rfl
  have e3 := cells_free HT.out 3
  have d4 := cells_cell (o := 4) HT.out rfl
  have e4 := cells_free HT.out 4
  have hlt := lt_of_block HT.out
  go_simp
  generalize hWF : World.setCell _ _ _ = WF
  have hff : Fr [w.heap.size + 1 + 1] V WF := by rw [← hWF]; exact five_fr V _ _ _ _ _ _
  have ht : WF.heap[w.heap.size + 1 + 1]? = some (.cells #[.bool y.is, .string (strB y.S), .int .i64 ((y.k : Nat) : Int), .int .i64 y.wr, .int .i64 y.rd] 28 (0, 0)) := by rw [← hWF]; exact five_cells HT.out _ _ _ _ _
  have HS2 : Hid (WF.heap[W2.heap.size]? = some (.cells #[.bool y.is, .string (strB y.S), .int .i64 ((y.k : Nat) : Int), .int .i64 y.wr, .int .i64 y.rd] 28 (0, 0))) := Lib.hid (hff.same HQ.out (by simp; omega))
  have HKF : Hid (KM w0 WF m b y) := Lib.hid (by
    have k0 := HKK.out
    obtain ⟨_, hbb, _⟩ := k0.at'.ex
    refine ⟨k0.at'.fr hff (by simpa using ne_types k0.at'.me HT.out (by decide)) (by simpa using ne_types hbb HT.out (by decide)) (fun g cur hg => by simpa using ne_types hg HT.out (by decide)), k0.lm, k0.lb, k0.be.trans (hff.below (fun q hq => by simp at hq; subst hq; have := HWL.out; omega) k0.be.size)⟩)
  have HFF : Hid (Fr [b] w WF) := Lib.hid (HFK.out.trans hff (fun q hq => .inr (by simp at hq; omega)))
  clear hWF d0 d1 d2 d3 d4 e0 e1 e2 e3 e4 hlt HT HKK HFK
  refine hK _ _ HS2.out ?_
  clear hK HQ
  refine mix_nil ?_
  clear hy0 hr0 hk0 hF0
  go_wp2_with fail
  refine bodyPost_ret (v := .tuple #[pt m, encM y, .bool true]) (by simp [results, Try.results11, go_sem, encM, cellsM, pt, cells_cell ht (o := 0) rfl, cells_cell ht (o := 1) rfl, cells_cell ht (o := 2) rfl, cells_cell ht (o := 3) rfl, cells_cell ht (o := 4) rfl]) rfl ⟨m, b, y, rfl, HKF.out, HFF.out⟩
set_option maxRecDepth 100000 in
set_option maxHeartbeats 6400000 in
theorem do_copy {w0 w : World} {m b : Nat} {x : Mt} (h : KM w0 w m b x) {a : Option Addr} {n c : Nat} {Ps : Parts} (hp : SrcV w0 (.slice a n c) (Ps.map encS)) (hs : Ps.flatten.length ≤ 12000) (hk : Ps.length ≤ 30) (what v1 v3 : Int) (hq : what ≠ 0 ∧ what ≠ 1 ∧ what ≠ 2 ∧ what ≠ 3 ∧ what ≠ 4 ∧ what ≠ 5) :
    Calls Try.prog 11 #[pt m, encM x, .agg #[.int .i64 what, .int .i64 v1, .slice a n c, .int .i64 v3]] w fun e w' => ∃ m' b' y, e = .returned (.tuple #[pt m', encM y, .bool true]) ∧ KM w0 w' m' b' y ∧ Fr [b] w w' := by
  have q0 : (what == 0) = false := by simp [hq.1]
  have q1 : (what == 1) = false := by simp [hq.2.1]
  have q2 : (what == 2) = false := by simp [hq.2.2.1]
  have q3 : (what == 3) = false := by simp [hq.2.2.2.1]
  have q4 : (what == 4) = false := by simp [hq.2.2.2.2.1]
  have q5 : (what == 5) = false := by simp [hq.2.2.2.2.2]
  clear hq
  obtain ⟨W, hW⟩ : ∃ W, W = ((w.alloc (.cells (cellsM x) 28)).alloc (.cells #[.int .i64 what, .int .i64 v1, .slice a n c, .int .i64 v3] 32)).alloc (.cells cells0 28) := ⟨_, rfl⟩
  have b1 := below_alloc w (.cells (cellsM x) 28)
  have b2 := below_alloc (w.alloc (.cells (cellsM x) 28)) (.cells #[.int .i64 what, .int .i64 v1, .slice a n c, .int .i64 v3] 32)
  have b3 := below_alloc ((w.alloc (.cells (cellsM x) 28)).alloc (.cells #[.int .i64 what, .int .i64 v1, .slice a n c, .int .i64 v3] 32)) (.cells cells0 28)
  have hb : Below w.heap.size w W := by rw [hW]; exact b1.trans ((b2.trans (b3.mono (by simp))).mono (by simp))
  have e0 : W.heap[w.heap.size]? = some (.cells (cellsM x) 28 (0, 0)) := by rw [hW]; exact (b3.block _ (by simp; omega)).trans ((b2.block _ (by simp)).trans (heap_alloc_new w _))
  have e1 : W.heap[w.heap.size + 1]? = some (.cells #[.int .i64 what, .int .i64 v1, .slice a n c, .int .i64 v3] 32 (0, 0)) := by rw [hW]; exact (b3.block _ (by simp)).trans (block_new _ _ _ (by simp))
  have e2 : W.heap[w.heap.size + 1 + 1]? = some (.cells cells0 28 (0, 0)) := by rw [hW]; exact block_new _ _ _ (by simp)
  have hkm := h.grow hb
  have H0 := Lib.hid hkm
  have HP := Lib.hid hp
  have X0 := Lib.hid e0
  have A0 := Lib.hid e1
  have R0 := Lib.hid e2
  have HS := Lib.hid hs
  have HN := Lib.hid hk
  have HW := Lib.hid hW.symm
  have HWB := Lib.hid hb
  have F0 : Hid (Fr [b] w W) := Lib.hid (Fr.of_below hb [b])
  have HOK := Lib.hid h.at'.ok
  have HWL : Hid (w0.heap.size ≤ w.heap.size) := Lib.hid h.be.size
  clear hW b1 b2 b3 hb e0 e1 e2 hkm h hp hs hk
  unfold cells0 cellsM at HW
  unfold encM cellsM pt
  go_enter Try.func11, Try.ntmps11
  have A := A0.out
  have a0 := cells_cell (o := 0) A rfl
  clear A
  go_wp2_with (go_at_call 22; fail)
  rw [HW.out]
  clear a0 q0 q1 q2 q3 q4 q5
  refine (mtCopy_any H0.out.at').mono ?_
  rintro e W1 ⟨m2, b2, rfl, hc, ho, hl1, hl2, hb⟩
  have C1 : Hid (KM w0 W1 m2 b2 x) := Lib.hid ⟨hc, Nat.le_trans H0.out.be.size hl1, Nat.le_trans H0.out.be.size hl2, H0.out.be.trans (hb.mono H0.out.be.size)⟩
  have H1 := Lib.hid (H0.out.grow hb)
  have HNE : Hid (b2 ≠ b) := Lib.hid (by have := H0.out.at'.lt.2; omega)
  have X1 := Lib.hid ((hb.block _ (lt_of_block X0.out)).trans X0.out)
  have A1 := Lib.hid ((hb.block _ (lt_of_block A0.out)).trans A0.out)
  have R1 := Lib.hid ((hb.block _ (lt_of_block R0.out)).trans R0.out)
  have F1 := Lib.hid (F0.out.trans' (Fr.of_below hb [b]))
  clear hc ho hl1 hl2 hb H0 X0 A0 R0 F0
  unfold pt
  go_wp2_with (go_at_call 15; fail)
  refine (mtTake_any H1.out.at' 1).mono ?_
  rintro e W2 ⟨vp, rfl, hrw, hmm, hf⟩
  have hm := hmm W2 (fun _ _ => rfl)
  obtain ⟨pa, pk, pc, rfl⟩ := row_form hrw
  clear hrw hmm
  have hne : ∀ k cs t, W1.heap[k]? = some (.cells cs t (0, 0)) → t ≠ 62 → k ≠ b := fun k cs t hk ht => by obtain ⟨_, hb, _⟩ := H1.out.at'.ex; exact ne_types hk hb ht
  have H2 := Lib.hid (H1.out.next hm hf)
  have C2 : Hid (KM w0 W2 m2 b2 x) := Lib.hid ⟨H1.out.at'.other C1.out.at' HNE.out hf, C1.out.lm, C1.out.lb, H2.out.be⟩
  have X2 := Lib.hid (hf.same X1.out (by simpa using hne _ _ _ X1.out (by decide)))
  have A2 := Lib.hid (hf.same A1.out (by simpa using hne _ _ _ A1.out (by decide)))
  have R2 := Lib.hid (hf.same R1.out (by simpa using hne _ _ _ R1.out (by decide)))
  have F2 := Lib.hid (F1.out.trans' hf)
  clear hne hm hf H1 X1 A1 R1 C1 F1
  go_wp2_with (go_at_call 17; fail)
  refine (mtWithdraw_any H2.out.at').mono ?_
  rintro e W3 ⟨rfl, hm, hf⟩
  have hne : ∀ k cs t, W2.heap[k]? = some (.cells cs t (0, 0)) → t ≠ 62 → k ≠ b := fun k cs t hk ht => by obtain ⟨_, hb, _⟩ := H2.out.at'.ex; exact ne_types hk hb ht
  have H3 := Lib.hid (H2.out.next hm hf)
  have C3 : Hid (KM w0 W3 m2 b2 x) := Lib.hid ⟨H2.out.at'.other C2.out.at' HNE.out hf, C2.out.lm, C2.out.lb, H3.out.be⟩
  have X3 := Lib.hid (hf.same X2.out (by simpa using hne _ _ _ X2.out (by decide)))
  have A3 := Lib.hid (hf.same A2.out (by simpa using hne _ _ _ A2.out (by decide)))
  have R3 := Lib.hid (hf.same R2.out (by simpa using hne _ _ _ R2.out (by decide)))
  have F3 := Lib.hid (F2.out.trans' hf)
  clear hne hm hf H2 X2 A2 R2 C2 F2
  go_wp2_with (go_at_call 21; fail)
  refine (mtCloseRead_any H3.out.at' 8 (by simp [I64])).mono ?_
  rintro e W4 ⟨rfl, hm, hf⟩
  have hne : ∀ k cs t, W3.heap[k]? = some (.cells cs t (0, 0)) → t ≠ 62 → k ≠ b := fun k cs t hk ht => by obtain ⟨_, hb, _⟩ := H3.out.at'.ex; exact ne_types hk hb ht
  have H4 := Lib.hid (H3.out.next hm hf)
  have C4 : Hid (KM w0 W4 m2 b2 x) := Lib.hid ⟨H3.out.at'.other C3.out.at' HNE.out hf, C3.out.lm, C3.out.lb, H4.out.be⟩
  have X4 := Lib.hid (hf.same X3.out (by simpa using hne _ _ _ X3.out (by decide)))
  have A4 := Lib.hid (hf.same A3.out (by simpa using hne _ _ _ A3.out (by decide)))
  have R4 := Lib.hid (hf.same R3.out (by simpa using hne _ _ _ R3.out (by decide)))
  have F4 := Lib.hid (F3.out.trans' hf)
  clear hne hm hf H3 X3 A3 R3 C3 F3
  go_wp2_with fail
  unfold cells0 at R4
  unfold cellsM at X4
  have hy0 := X4.out
  have hr0 := R4.out
  have hk0 := C4.out
  have hF0 := F4.out
  have hlt0 : w.heap.size + 1 + 1 < W4.heap.size := lt_of_block R4.out
  refine wp_region_mix (fun W' => W'.heap[w.heap.size]? = some (.cells #[.bool x.is, .string (strB x.S), .int .i64 ((x.k : Nat) : Int), .int .i64 x.wr, .int .i64 x.rd] 28 (0, 0))) 4 [(true, 0), (true, 1), (true, 2), (false, 3)] (by kernel_rfl) (by kernel_rfl) (fun _ _ _ d _ h => by cases d <;> exact h) ?_
  have HD : Hid (Below W4.heap.size W4 W4.drew) := Lib.hid ((Grn.refl W4).drew 1).below
  have HQ : Hid (W4.drew.heap[w.heap.size]? = some (.cells #[.bool x.is, .string (strB x.S), .int .i64 ((x.k : Nat) : Int), .int .i64 x.wr, .int .i64 x.rd] 28 (0, 0))) := Lib.hid ((HD.out.block _ (lt_of_block hy0)).trans hy0)
  have HT : Hid (W4.drew.heap[w.heap.size + 1 + 1]? = some (.cells #[.bool false, .string ⟨#[]⟩, .int .i64 0, .int .i64 0, .int .i64 0] 28 (0, 0))) := Lib.hid ((HD.out.block _ (lt_of_block hr0)).trans hr0)
  have HKK := Lib.hid (hk0.grow HD.out)
  have HFK : Hid (Fr [b] w W4.drew) := Lib.hid (hF0.trans' (Fr.of_below HD.out [b]))
  simp only [List.map_cons, List.map_nil, List.getD_cons_zero, List.getD_cons_succ, List.drop_succ_cons, List.drop_zero]
  generalize W4.drew = V at *
  refine mix_move (.tmp 35) (.pointer (some ⟨m2, 0, none⟩)) rfl HQ.out rfl rfl ?_
  simp only [Act.put, List.setIfInBounds_toArray, List.set_cons_zero, List.set_cons_succ]
  refine mix_take (.agg #[.bool x.is, .string (strB x.S), .int .i64 ((x.k : Nat) : Int), .int .i64 x.wr, .int .i64 x.rd]) HQ.out rfl (fun W' hS => by
    have l0 := cells_cell (o := 0) hS rfl
    have l1 := cells_cell (o := 1) hS rfl
    have l2 := cells_cell (o := 2) hS rfl
    have l3 := cells_cell (o := 3) hS rfl
    have l4 := cells_cell (o := 4) hS rfl
    go_simp) ?_
  simp only [Act.put, List.setIfInBounds_toArray, List.set_cons_zero, List.set_cons_succ]
  refine mix_take (.pointer (some ⟨m2, 0, none⟩)) HQ.out rfl (fun W' hS => by go_simp) ?_
  simp only [Act.put, List.setIfInBounds_toArray, List.set_cons_zero, List.set_cons_succ]
  refine mix_step rfl (fun K1 hK => ?_)
  have d0 := cells_cell (o := 0) HT.out rfl
  have e0 := cells_free HT.out 0
  have d1 := cells_cell (o := 1) HT.out rfl
  have e1 := cells_free HT.out 1
  have d2 := cells_cell (o := 2) HT.out rfl
  have e2 := cells_free HT.out 2
  have d3 := cells_cell (o := 3) HT.out rfl
  have e3 := cells_free HT.out 3
  have d4 := cells_cell (o := 4) HT.out rfl
  have e4 := cells_free HT.out 4
  have hlt := lt_of_block HT.out
  go_simp
  generalize hWF : World.setCell _ _ _ = WF
  have hff : Fr [w.heap.size + 1 + 1] V WF := by rw [← hWF]; exact five_fr V _ _ _ _ _ _
  have ht : WF.heap[w.heap.size + 1 + 1]? = some (.cells #[.bool x.is, .string (strB x.S), .int .i64 ((x.k : Nat) : Int), .int .i64 x.wr, .int .i64 x.rd] 28 (0, 0)) := by rw [← hWF]; exact five_cells HT.out _ _ _ _ _
  have HS2 : Hid (WF.heap[w.heap.size]? = some (.cells #[.bool x.is, .string (strB x.S), .int .i64 ((x.k : Nat) : Int), .int .i64 x.wr, .int .i64 x.rd] 28 (0, 0))) := Lib.hid (hff.same HQ.out (by simp; omega))
  have HKF : Hid (KM w0 WF m2 b2 x) := Lib.hid (by
    have k0 := HKK.out
    obtain ⟨_, hbb, _⟩ := k0.at'.ex
    refine ⟨k0.at'.fr hff (by simpa using ne_types k0.at'.me HT.out (by decide)) (by simpa using ne_types hbb HT.out (by decide)) (fun g cur hg => by simpa using ne_types hg HT.out (by decide)), k0.lm, k0.lb, k0.be.trans (hff.below (fun q hq => by simp at hq; subst hq; have := HWL.out; omega) k0.be.size)⟩)
  have HFF : Hid (Fr [b] w WF) := Lib.hid (HFK.out.trans hff (fun q hq => .inr (by simp at hq; omega)))
  clear hWF d0 d1 d2 d3 d4 e0 e1 e2 e3 e4 hlt HT HKK HFK
  refine hK _ _ HS2.out ?_
  clear hK HQ
  refine mix_nil ?_
  clear hy0 hr0 hk0 hF0
  go_wp2_with fail
  refine bodyPost_ret (v := .tuple #[pt m2, encM x, .bool true]) (by simp [results, Try.results11, go_sem, encM, cellsM, pt, cells_cell ht (o := 0) rfl, cells_cell ht (o := 1) rfl, cells_cell ht (o := 2) rfl, cells_cell ht (o := 3) rfl, cells_cell ht (o := 4) rfl]) rfl ⟨m2, b2, x, rfl, HKF.out, HFF.out⟩
set_option maxRecDepth 100000 in
set_option maxHeartbeats 6400000 in
theorem do_take {w0 w : World} {m b : Nat} {x : Mt} (h : KM w0 w m b x) {a : Option Addr} {n c : Nat} {Ps : Parts} (hp : SrcV w0 (.slice a n c) (Ps.map encS)) (hs : Ps.flatten.length ≤ 12000) (hk : Ps.length ≤ 30) (v1 v3 : Int) :
    Calls Try.prog 11 #[pt m, encM x, .agg #[.int .i64 1, .int .i64 v1, .slice a n c, .int .i64 v3]] w fun e w' => ∃ m' b' y, e = .returned (.tuple #[pt m', encM y, .bool true]) ∧ KM w0 w' m' b' y ∧ Fr [b] w w' := by
  obtain ⟨W, hW⟩ : ∃ W, W = ((w.alloc (.cells (cellsM x) 28)).alloc (.cells #[.int .i64 1, .int .i64 v1, .slice a n c, .int .i64 v3] 32)).alloc (.cells cells0 28) := ⟨_, rfl⟩
  have b1 := below_alloc w (.cells (cellsM x) 28)
  have b2 := below_alloc (w.alloc (.cells (cellsM x) 28)) (.cells #[.int .i64 1, .int .i64 v1, .slice a n c, .int .i64 v3] 32)
  have b3 := below_alloc ((w.alloc (.cells (cellsM x) 28)).alloc (.cells #[.int .i64 1, .int .i64 v1, .slice a n c, .int .i64 v3] 32)) (.cells cells0 28)
  have hb : Below w.heap.size w W := by rw [hW]; exact b1.trans ((b2.trans (b3.mono (by simp))).mono (by simp))
  have e0 : W.heap[w.heap.size]? = some (.cells (cellsM x) 28 (0, 0)) := by rw [hW]; exact (b3.block _ (by simp; omega)).trans ((b2.block _ (by simp)).trans (heap_alloc_new w _))
  have e1 : W.heap[w.heap.size + 1]? = some (.cells #[.int .i64 1, .int .i64 v1, .slice a n c, .int .i64 v3] 32 (0, 0)) := by rw [hW]; exact (b3.block _ (by simp)).trans (block_new _ _ _ (by simp))
  have e2 : W.heap[w.heap.size + 1 + 1]? = some (.cells cells0 28 (0, 0)) := by rw [hW]; exact block_new _ _ _ (by simp)
  have hkm := h.grow hb
  have H0 := Lib.hid hkm
  have HP := Lib.hid hp
  have X0 := Lib.hid e0
  have A0 := Lib.hid e1
  have R0 := Lib.hid e2
  have HS := Lib.hid hs
  have HN := Lib.hid hk
  have HW := Lib.hid hW.symm
  have HWB := Lib.hid hb
  have F0 : Hid (Fr [b] w W) := Lib.hid (Fr.of_below hb [b])
  have HOK := Lib.hid h.at'.ok
  have HWL : Hid (w0.heap.size ≤ w.heap.size) := Lib.hid h.be.size
  clear hW b1 b2 b3 hb e0 e1 e2 hkm h hp hs hk
  unfold cells0 cellsM at HW
  unfold encM cellsM pt
  go_enter Try.func11, Try.ntmps11
  have A := A0.out
  have a0 := cells_cell (o := 0) A rfl
  have a1 := cells_cell (o := 1) A rfl
  clear A
  go_wp2_with (go_at_call 15; fail)
  rw [HW.out]
  clear a0 a1
  refine (mtTake_any H0.out.at' v1).mono ?_
  rintro e W1 ⟨vp, rfl, hrow, hmm, hf⟩
  obtain ⟨pa, pn, pc, rfl⟩ := row_form hrow
  have hm := hmm W1 (fun _ _ => rfl)
  have hne : ∀ k cs t, W.heap[k]? = some (.cells cs t (0, 0)) → t ≠ 62 → k ≠ b := fun k cs t hk ht => by obtain ⟨_, hb, _⟩ := H0.out.at'.ex; exact ne_types hk hb ht
  have H1 := Lib.hid (H0.out.next hm hf)
  have X1 := Lib.hid (hf.same X0.out (by simpa using hne _ _ _ X0.out (by decide)))
  have A1 := Lib.hid (hf.same A0.out (by simpa using hne _ _ _ A0.out (by decide)))
  have R1 := Lib.hid (hf.same R0.out (by simpa using hne _ _ _ R0.out (by decide)))
  have Hm := Lib.hid hmm
  have ROW1 := Lib.hid hrow
  have HS1 : Hid (W.heap.size ≤ W1.heap.size) := Lib.hid hf.size
  have HMW : Hid (m < W.heap.size ∧ b < W.heap.size) := Lib.hid H0.out.at'.lt
  have HRW : Hid (w.heap.size + 1 + 1 < W.heap.size) := Lib.hid (lt_of_block R0.out)
  have F1 := Lib.hid (F0.out.trans' hf)
  clear hne hm hf hmm hrow H0 X0 A0 R0 F0
  have x0 := cells_cell (o := 0) X1.out rfl
  have x1 := cells_cell (o := 1) X1.out rfl
  have x2 := cells_cell (o := 2) X1.out rfl
  have x3 := cells_cell (o := 3) X1.out rfl
  have x4 := cells_cell (o := 4) X1.out rfl
  have a1 := cells_cell (o := 1) A1.out rfl
  go_wp2_with (go_at_call 27; fail)
  clear x0 x1 x2 x3 x4 a1
  refine (refTake_any HOK.out W1 v1).mono ?_
  rintro e W2 ⟨rfl, hb⟩
  have H2 := Lib.hid (H1.out.grow hb)
  have X2 := Lib.hid ((hb.block _ (lt_of_block X1.out)).trans X1.out)
  have A2 := Lib.hid ((hb.block _ (lt_of_block A1.out)).trans A1.out)
  have R2 := Lib.hid ((hb.block _ (lt_of_block R1.out)).trans R1.out)
  have ROW2 := Lib.hid (RowV.grown ROW1.out hb)
  have hkeep : ∀ k, k < W.heap.size → W2.heap[k]? = W1.heap[k]? := fun k hk => hb.block k (Nat.lt_of_lt_of_le hk HS1.out)
  have Hm2 : Hid (∀ V : World, (∀ k, k < W.heap.size → V.heap[k]? = W2.heap[k]?) → MAt V m b (takC x v1).2.2) := Lib.hid (fun V hV => Hm.out V (fun k hk => (hV k hk).trans (hkeep k hk)))
  have HS2' : Hid (W.heap.size ≤ W2.heap.size) := Lib.hid (Nat.le_trans HS1.out hb.size)
  have F2 := Lib.hid (F1.out.trans' (Fr.of_below hb [b]))
  clear hb H1 X1 A1 R1 Hm ROW1 hkeep HS1 F1
  generalize hY : takC x v1 = Y at *
  obtain ⟨yL, ye, y⟩ := Y
  clear hY
  simp only at *
  unfold encM cellsM
  have hrf := (RowV.src ROW2.out).form
  have hcv0 := row_str ROW2.out
  have hpn : pn = yL.length := by
    obtain ⟨a', c', e', _⟩ := hrf
    simp only [Value.slice.injEq] at e'
    rw [List.length_map] at e'
    exact e'.2.1
  have hpc2 : pc ≤ maxLen ∧ pn ≤ pc := by
    obtain ⟨a', c', e', h1, h2⟩ := hrf
    simp only [Value.slice.injEq] at e'
    rw [List.length_map] at e' h1
    omega
  have hpnI : (pn : Int) ≤ 9223372036854775807 := by have := hpc2.1; have := hpc2.2; unfold maxLen at *; omega
  have HPN := Lib.hid hpn
  clear hrf hpn hpc2
  -- the box of the reference's answer is laid: the conversion reads below it
  have hcv : ∀ o, (convert 44 9 (.slice pa pn pc)).run Try.prog (W2.alloc o) = .ok (.string (strB yL)) (W2.alloc o) := fun o => row_str (RowV.grown ROW2.out (below_alloc _ _))
  clear hcv0
  have hqq : (strB yL).toList == (strB yL).toList := by simp
  go_wp2_with fail
  generalize hV0 : World.alloc _ _ = V0
  have hB0 : Below W2.heap.size W2 V0 := by rw [← hV0]; exact below_alloc _ _
  have HY0 : Hid (V0.heap[W2.heap.size]? = some (.cells #[.bool y.is, .string (strB y.S), .int .i64 ((y.k : Nat) : Int), .int .i64 y.wr, .int .i64 y.rd] 28 (0, 0))) := Lib.hid (by rw [← hV0]; exact heap_alloc_new _ _)
  have HB0 := Lib.hid hB0
  have ROW0 := Lib.hid (RowV.grown ROW2.out hB0)
  clear hV0 hcv hqq hB0 ROW2
  go_loopw [85] (fun i wr => ∃ (k : Nat) (L' : List UInt8), k ≤ pn ∧ i = .int .i64 (k : Nat) ∧ Hid (L'.length = pn) ∧ Hid (RowB wr W.heap.size (.slice pa pn pc) L') ∧ Hid (Fr (Value.slice pa pn pc).ownBlock.toList V0 wr)) (fun i _ => pn - (intOf i).toNat)
  case atStart => exact ⟨0, yL, Nat.zero_le _, rfl, Lib.hid HPN.out.symm, ROW0, Lib.hid (Fr.refl _ _)⟩
  case round =>
    obtain ⟨k, L', hkl, rfl, HLL, HRO, HFR⟩ := hrel
    by_cases hlt : k < pn
    · have hkL : k < L'.length := by rw [HLL.out]; exact hlt
      obtain ⟨g, rfl, hgb, hgl, -, hnc, hcm, hcell, hfz, hset⟩ := row_byte HRO.out k hkL
      have hnc2 : (pn : Int) ≤ (pc : Int) := by omega
      have hkl2 : (k : Int) < (pn : Int) := by omega
      have hz := (L'[k]).toNat_lt
      have hfrs : ∀ z : Int, Fr (Value.slice (some ⟨g, 0, none⟩) pn pc).ownBlock.toList V0 (wr.setCell ⟨g, k, none⟩ (.int .u8 z)) := fun z => HFR.out.trans' (by
        have := fr_setCell wr ⟨g, k, none⟩ (.int .u8 z)
        simpa [Value.ownBlock] using this)
      have HFS := Lib.hid hfrs
      have HSET := Lib.hid hset
      have hLen : ∀ z, Hid ((L'.set k z).length = pn) := fun z => Lib.hid (by rw [List.length_set]; exact HLL.out)
      generalize (L'[k]).toNat = z at *
      clear hfrs hset hgb
      by_cases h255 : z = 255
      · subst h255
        go_wp2_with fail
        go_roundw
        case rel => exact ⟨k + 1, L'.set k (UInt8.ofNat (0 : Int).toNat), by omega, by go_num, hLen _, Lib.hid (HSET.out 0 (by omega) (by omega)), Lib.hid (HFS.out 0)⟩
        case measure => simp [intOf]; omega
      · have hz2 : (z : Int) ≤ 254 := by omega
        go_wp2_with fail
        go_roundw
        case rel => exact ⟨k + 1, L'.set k (UInt8.ofNat ((z : Int) + 1).toNat), by omega, by go_num, hLen _, Lib.hid (HSET.out ((z : Int) + 1) (by omega) (by omega)), Lib.hid (HFS.out ((z : Int) + 1))⟩
        case measure => simp [intOf]; omega
    · obtain rfl : k = pn := by omega
      -- what is written lies in the answer's own block alone
      have hown : ∀ g, g ∈ (Value.slice pa k pc).ownBlock.toList → W.heap.size ≤ g := fun g hg => (HRO.out.lt g (by simpa using hg)).1
      have hfr := HFR.out
      have hyne : W2.heap.size ∉ (Value.slice pa k pc).ownBlock.toList := fun hg => by
        have := row_ne ROW0.out HY0.out (by decide) W2.heap.size (by simpa using hg)
        exact this rfl
      have HYW := Lib.hid (hfr.same HY0.out hyne)
      have hsm : W.heap.size ≤ V0.heap.size := Nat.le_trans HS2'.out HB0.out.size
      have hold : ∀ q, q < W.heap.size → wr.heap[q]? = W2.heap[q]? := fun q hq => (hfr.block q (by omega) (fun hg => by have := hown q hg; omega)).trans (HB0.out.block q (by have := HS2'.out; omega))
      have hMA := Hm2.out wr hold
      have hRW : wr.heap[w.heap.size + 1 + 1]? = some (.cells #[.bool false, .string ⟨#[]⟩, .int .i64 0, .int .i64 0, .int .i64 0] 28 (0, 0)) := (hold _ HRW.out).trans R2.out
      have hKM : KM w0 wr m b y := ⟨hMA, H2.out.lm, H2.out.lb, (H2.out.be.trans (HB0.out.mono H2.out.be.size)).trans (hfr.below (fun g hg => by have h1 := hown g hg; have h2 := HWL.out; have h3 := HRW.out; omega) (by have := H2.out.be.size; have := HB0.out.size; omega))⟩
      have hF0 : Fr [b] w wr := (F2.out.trans' (Fr.of_below HB0.out [b])).trans hfr (fun g hg => .inr (by have h1 := hown g hg; have h2 := HRW.out; omega))
      have hy0 := HYW.out
      have hr0 := hRW
      have hk0 := hKM
      have hlt0 : w.heap.size + 1 + 1 < W2.heap.size := by have := HRW.out; have := HS2'.out; omega
      clear hown hfr hyne hsm hold hMA hRW hKM
      go_wp2_with fail
      refine wp_region_mix (fun W' => W'.heap[W2.heap.size]? = some (.cells #[.bool y.is, .string (strB y.S), .int .i64 ((y.k : Nat) : Int), .int .i64 y.wr, .int .i64 y.rd] 28 (0, 0))) 5 [(true, 0), (true, 1), (true, 2), (true, 3), (false, 4)] (by kernel_rfl) (by kernel_rfl) (fun _ _ _ d _ h => by cases d <;> exact h) ?_
      have HD : Hid (Below wr.heap.size wr wr.drew) := Lib.hid ((Grn.refl wr).drew 1).below
      have HQ : Hid (wr.drew.heap[W2.heap.size]? = some (.cells #[.bool y.is, .string (strB y.S), .int .i64 ((y.k : Nat) : Int), .int .i64 y.wr, .int .i64 y.rd] 28 (0, 0))) := Lib.hid ((HD.out.block _ (lt_of_block hy0)).trans hy0)
      have HT : Hid (wr.drew.heap[w.heap.size + 1 + 1]? = some (.cells #[.bool false, .string ⟨#[]⟩, .int .i64 0, .int .i64 0, .int .i64 0] 28 (0, 0))) := Lib.hid ((HD.out.block _ (lt_of_block hr0)).trans hr0)
      have HKK := Lib.hid (hk0.grow HD.out)
      have HFK : Hid (Fr [b] w wr.drew) := Lib.hid (hF0.trans' (Fr.of_below HD.out [b]))
      simp only [List.map_cons, List.map_nil, List.getD_cons_zero, List.getD_cons_succ, List.drop_succ_cons, List.drop_zero]
      generalize wr.drew = V at *
      refine mix_move (.tmp 0) (.pointer (some ⟨m, 0, none⟩)) rfl HQ.out rfl rfl ?_
      simp only [Act.put, List.setIfInBounds_toArray, List.set_cons_zero, List.set_cons_succ]
      refine mix_take (.agg #[.bool y.is, .string (strB y.S), .int .i64 ((y.k : Nat) : Int), .int .i64 y.wr, .int .i64 y.rd]) HQ.out rfl (fun W' hS => by
        have l0 := cells_cell (o := 0) hS rfl
        have l1 := cells_cell (o := 1) hS rfl
        have l2 := cells_cell (o := 2) hS rfl
        have l3 := cells_cell (o := 3) hS rfl
        have l4 := cells_cell (o := 4) hS rfl
        go_simp) ?_
      simp only [Act.put, List.setIfInBounds_toArray, List.set_cons_zero, List.set_cons_succ]
      refine mix_move (.tmp 17) (.bool true) rfl HQ.out rfl rfl ?_
      simp only [Act.put, List.setIfInBounds_toArray, List.set_cons_zero, List.set_cons_succ]
      refine mix_take (.pointer (some ⟨m, 0, none⟩)) HQ.out rfl (fun W' hS => by go_simp) ?_
      simp only [Act.put, List.setIfInBounds_toArray, List.set_cons_zero, List.set_cons_succ]
      refine mix_step rfl (fun K1 hK => ?_)
      have d0 := cells_cell (o := 0) HT.out rfl
      have e0 := cells_free HT.out 0
      have d1 := cells_cell (o := 1) HT.out rfl
      have e1 := cells_free HT.out 1
      have d2 := cells_cell (o := 2) HT.out rfl
      have e2 := cells_free HT.out 2
      have d3 := cells_cell (o := 3) HT.out rfl
      have e3 := cells_free HT.out 3
      have d4 := cells_cell (o := 4) HT.out rfl
      have e4 := cells_free HT.out 4
      have hlt := lt_of_block HT.out
      go_simp
      generalize hWF : World.setCell _ _ _ = WF
      have hff : Fr [w.heap.size + 1 + 1] V WF := by rw [← hWF]; exact five_fr V _ _ _ _ _ _
      have ht : WF.heap[w.heap.size + 1 + 1]? = some (.cells #[.bool y.is, .string (strB y.S), .int .i64 ((y.k : Nat) : Int), .int .i64 y.wr, .int .i64 y.rd] 28 (0, 0)) := by rw [← hWF]; exact five_cells HT.out _ _ _ _ _
      have HS2 : Hid (WF.heap[W2.heap.size]? = some (.cells #[.bool y.is, .string (strB y.S), .int .i64 ((y.k : Nat) : Int), .int .i64 y.wr, .int .i64 y.rd] 28 (0, 0))) := Lib.hid (hff.same HQ.out (by simp; omega))
      have HKF : Hid (KM w0 WF m b y) := Lib.hid (by
        have k0 := HKK.out
        obtain ⟨_, hbb, _⟩ := k0.at'.ex
        refine ⟨k0.at'.fr hff (by simpa using ne_types k0.at'.me HT.out (by decide)) (by simpa using ne_types hbb HT.out (by decide)) (fun g cur hg => by simpa using ne_types hg HT.out (by decide)), k0.lm, k0.lb, k0.be.trans (hff.below (fun q hq => by simp at hq; subst hq; have := HWL.out; omega) k0.be.size)⟩)
      have HFF : Hid (Fr [b] w WF) := Lib.hid (HFK.out.trans hff (fun q hq => .inr (by simp at hq; omega)))
      clear hWF d0 d1 d2 d3 d4 e0 e1 e2 e3 e4 hlt HT HKK HFK
      refine hK _ _ HS2.out ?_
      clear hK HQ
      refine mix_nil ?_
      clear hy0 hr0 hk0 hF0
      go_wp2_with fail
      refine bodyPost_ret (v := .tuple #[pt m, encM y, .bool true]) (by simp [results, Try.results11, go_sem, encM, cellsM, pt, cells_cell ht (o := 0) rfl, cells_cell ht (o := 1) rfl, cells_cell ht (o := 2) rfl, cells_cell ht (o := 3) rfl, cells_cell ht (o := 4) rfl]) rfl ⟨m, b, y, rfl, HKF.out, HFF.out⟩
set_option maxRecDepth 100000 in
set_option maxHeartbeats 6400000 in
theorem do_offer {w0 w : World} {m b : Nat} {x : Mt} (h : KM w0 w m b x) {a : Option Addr} {n c : Nat} {Ps : Parts} (hp : SrcV w0 (.slice a n c) (Ps.map encS)) (hs : Ps.flatten.length ≤ 12000) (hk : Ps.length ≤ 30) (v1 v3 : Int) :
    Calls Try.prog 11 #[pt m, encM x, .agg #[.int .i64 0, .int .i64 v1, .slice a n c, .int .i64 v3]] w fun e w' => ∃ m' b' y, e = .returned (.tuple #[pt m', encM y, .bool true]) ∧ KM w0 w' m' b' y ∧ Fr [b] w w' := by
  obtain ⟨W, hW⟩ : ∃ W, W = ((w.alloc (.cells (cellsM x) 28)).alloc (.cells #[.int .i64 0, .int .i64 v1, .slice a n c, .int .i64 v3] 32)).alloc (.cells cells0 28) := ⟨_, rfl⟩
  have b1 := below_alloc w (.cells (cellsM x) 28)
  have b2 := below_alloc (w.alloc (.cells (cellsM x) 28)) (.cells #[.int .i64 0, .int .i64 v1, .slice a n c, .int .i64 v3] 32)
  have b3 := below_alloc ((w.alloc (.cells (cellsM x) 28)).alloc (.cells #[.int .i64 0, .int .i64 v1, .slice a n c, .int .i64 v3] 32)) (.cells cells0 28)
  have hb : Below w.heap.size w W := by rw [hW]; exact b1.trans ((b2.trans (b3.mono (by simp))).mono (by simp))
  have e0 : W.heap[w.heap.size]? = some (.cells (cellsM x) 28 (0, 0)) := by rw [hW]; exact (b3.block _ (by simp; omega)).trans ((b2.block _ (by simp)).trans (heap_alloc_new w _))
  have e1 : W.heap[w.heap.size + 1]? = some (.cells #[.int .i64 0, .int .i64 v1, .slice a n c, .int .i64 v3] 32 (0, 0)) := by rw [hW]; exact (b3.block _ (by simp)).trans (block_new _ _ _ (by simp))
  have e2 : W.heap[w.heap.size + 1 + 1]? = some (.cells cells0 28 (0, 0)) := by rw [hW]; exact block_new _ _ _ (by simp)
  have hkm := h.grow hb
  have H0 := Lib.hid hkm
  have HP := Lib.hid hp
  have X0 := Lib.hid e0
  have A0 := Lib.hid e1
  have R0 := Lib.hid e2
  have HS := Lib.hid hs
  have HN := Lib.hid hk
  have HW := Lib.hid hW.symm
  have HWB := Lib.hid hb
  have F0 : Hid (Fr [b] w W) := Lib.hid (Fr.of_below hb [b])
  have HOK := Lib.hid h.at'.ok
  have HWL : Hid (w0.heap.size ≤ w.heap.size) := Lib.hid h.be.size
  clear hW b1 b2 b3 hb e0 e1 e2 hkm h hp hs hk
  unfold cells0 cellsM at HW
  unfold encM cellsM pt
  go_enter Try.func11, Try.ntmps11
  have A := A0.out
  have a0 := cells_cell (o := 0) A rfl
  have a2 := cells_cell (o := 2) A rfl
  clear A
  go_wp2_with (go_at_call 19; fail)
  rw [HW.out]
  clear a0 a2
  refine (of_any (HP.out.grown H0.out.be) (by have := HS.out; omega) (by have := HN.out; omega)).mono ?_
  rintro e W1 ⟨u, rfl, hR, hb⟩
  obtain ⟨r1, r2, r3, r4, r5, r6, rfl⟩ := hR.shape
  have HRR := Lib.hid hR
  have H1 := Lib.hid (H0.out.grow hb)
  have X1 := Lib.hid ((hb.block _ (lt_of_block X0.out)).trans X0.out)
  have A1 := Lib.hid ((hb.block _ (lt_of_block A0.out)).trans A0.out)
  have R1 := Lib.hid ((hb.block _ (lt_of_block R0.out)).trans R0.out)
  have F1 := Lib.hid (F0.out.trans' (Fr.of_below hb [b]))
  clear hb H0 X0 A0 R0 hR F0
  go_wp2_with (go_at_call 18; fail)
  refine (mtOffer_any H1.out.at' HRR.out).mono ?_
  rintro e W2 ⟨rfl, hm, hf⟩
  have hne : ∀ k cs t, W1.heap[k]? = some (.cells cs t (0, 0)) → t ≠ 62 → k ≠ b := fun k cs t hk ht => by obtain ⟨_, hb, _⟩ := H1.out.at'.ex; exact ne_types hk hb ht
  have H2 := Lib.hid (H1.out.next hm hf)
  have X2 := Lib.hid (hf.same X1.out (by simpa using hne _ _ _ X1.out (by decide)))
  have A2 := Lib.hid (hf.same A1.out (by simpa using hne _ _ _ A1.out (by decide)))
  have R2 := Lib.hid (hf.same R1.out (by simpa using hne _ _ _ R1.out (by decide)))
  have F2 := Lib.hid (F1.out.trans' hf)
  clear hne hm hf H1 X1 A1 R1 F1
  rw [full_flat] at H2 ⊢
  have href := Lib.hid (fun V => refOffer_any HOK.out V Ps.flatten)
  generalize hY : offC x Ps.flatten = Y at *
  obtain ⟨ye, y⟩ := Y
  clear hY
  simp only at *
  unfold encM cellsM at *
  have HP2 : Hid (SrcV W2 (.slice a n c) (Ps.map encS)) := Lib.hid (HP.out.grown H2.out.be)
  go_wp2_with fail
  have HSZ : Hid (Below W2.heap.size W2 W2.drew) := Lib.hid (Below.refl _ _).drew
  have hx2 := X2.out
  have ha2 := A2.out
  refine wp_region_flags (fun W' => Below W2.heap.size W2 W') 9 [(true, 0), (true, 1)] [2, 3, 4, 5, 6, 7, 8] [[], [0], [0, 1], [0, 1, 2], [0, 1, 2], [], [0, 1, 2, 3, 5]]
    (fun bs aa V => ∃ Z48 Z49 Z45 Z50 Z51 Z10 : Value, aa = { tmps := #[.pointer (some ⟨m, 0, none⟩), .agg #[.bool x.is, .string (strB x.S), .int .i64 ((x.k : Nat) : Int), .int .i64 x.wr, .int .i64 x.rd], .agg #[.int .i64 0, .int .i64 v1, .slice a n c, .int .i64 v3], undef, .pointer (some ⟨w.heap.size, 0, none⟩), .pointer (some ⟨w.heap.size + 1, 0, none⟩), .pointer none, .pointer (some ⟨w.heap.size + 1 + 1, 0, none⟩), .bool false, .int .i64 ye, Z10, undef, undef, undef, undef, undef, undef, undef, undef, undef, undef, undef, undef, undef, undef, undef, undef, undef, undef, undef, undef, undef, undef, undef, undef, undef, .pointer (some ⟨w.heap.size + 1, 0, none⟩), .int .i64 0, .bool true, .bool true, .pointer (some ⟨m, 0, none⟩), .pointer (some ⟨w.heap.size + 1, 2, none⟩), .slice a n c, .agg #[.slice r1 r2 r3, .slice r4 r5 r6], .int .i64 ye, Z45, .agg #[.bool x.is, .string (strB x.S), .int .i64 ((x.k : Nat) : Int), .int .i64 x.wr, .int .i64 x.rd], .agg #[.int .i64 0, .int .i64 v1, .slice a n c, .int .i64 v3], Z48, Z49, Z50, Z51, undef, undef, undef, undef, undef, undef, undef, undef, undef, undef, undef, undef, undef, undef, undef, undef, undef, undef, undef, undef, undef, undef, undef, undef, undef, undef, undef, undef, undef, undef, undef, undef, undef, undef, undef, undef, undef, undef, undef, undef, undef, undef, undef, undef, undef, undef, undef, undef, undef, undef, undef, undef, undef, undef, undef, undef, undef, undef, undef, undef, undef, undef, undef, undef, undef, undef, undef, undef, undef, undef, undef, undef, undef, undef, undef, undef, undef, undef, undef, undef, undef, undef, undef, undef, undef, undef, undef, undef, undef, undef, undef, undef, undef, undef, undef, undef, undef, undef, undef, undef, undef, undef, undef, undef, undef, undef, undef, undef, undef, undef, undef, undef, undef, undef, undef, undef, undef, undef, undef, undef, undef, undef, undef, undef, undef, undef, undef, undef, undef, undef, undef, undef, undef, undef, undef, undef, undef, undef, undef, undef, undef, undef], defers := [] } ∧ Below W2.heap.size W2 V ∧
      (bs.getD 0 false = true → Z48 = .string (strB Ps.flatten)) ∧ (bs.getD 1 false = true → Z49 = .tuple #[.agg #[.bool y.is, .string (strB y.S), .int .i64 ((y.k : Nat) : Int), .int .i64 y.wr, .int .i64 y.rd], .int .i64 ye]) ∧ (bs.getD 2 false = true → Z45 = .tuple #[.agg #[.bool y.is, .string (strB y.S), .int .i64 ((y.k : Nat) : Int), .int .i64 y.wr, .int .i64 y.rd], .int .i64 ye]) ∧
      (bs.getD 3 false = true → Z50 = .agg #[.bool y.is, .string (strB y.S), .int .i64 ((y.k : Nat) : Int), .int .i64 y.wr, .int .i64 y.rd]) ∧ (bs.getD 4 false = true → Z51 = .int .i64 ye) ∧
      (bs.getD 5 false = true → ∃ k, Z10 = .pointer (some ⟨k, 0, none⟩) ∧ W2.heap.size ≤ k ∧ V.heap[k]? = some (.cells (if bs.getD 6 false = true then #[.bool y.is, .string (strB y.S), .int .i64 ((y.k : Nat) : Int), .int .i64 y.wr, .int .i64 y.rd] else cells0) 28 (0, 0))))
    (by kernel_rfl) (by kernel_rfl) (by kernel_rfl) (by kernel_rfl) (by kernel_rfl) (fun _ _ _ d _ h => by cases d <;> exact h) ?hstep ?hend ?hbegin
  case hbegin =>
    simp only [List.map_cons, List.map_nil, List.getD_cons_zero, List.getD_cons_succ, List.drop_succ_cons, List.drop_zero]
    refine mix_take (.agg #[.bool x.is, .string (strB x.S), .int .i64 ((x.k : Nat) : Int), .int .i64 x.wr, .int .i64 x.rd]) HSZ.out rfl (fun W' hS => by
      have e1 := (hS.block _ (lt_of_block hx2)).trans hx2
      have l0 := cells_cell (o := 0) e1 rfl
      have l1 := cells_cell (o := 1) e1 rfl
      have l2 := cells_cell (o := 2) e1 rfl
      have l3 := cells_cell (o := 3) e1 rfl
      have l4 := cells_cell (o := 4) e1 rfl
      go_simp) ?_
    simp only [Act.put, List.setIfInBounds_toArray, List.set_cons_zero, List.set_cons_succ]
    refine mix_take (.agg #[.int .i64 0, .int .i64 v1, .slice a n c, .int .i64 v3]) HSZ.out rfl (fun W' hS => by
      have e1 := (hS.block _ (lt_of_block ha2)).trans ha2
      have l0 := cells_cell (o := 0) e1 rfl
      have l1 := cells_cell (o := 1) e1 rfl
      have l2 := cells_cell (o := 2) e1 rfl
      have l3 := cells_cell (o := 3) e1 rfl
      go_simp) ?_
    simp only [Act.put, List.setIfInBounds_toArray, List.set_cons_zero, List.set_cons_succ]
    refine mix_nil ?_
    exact ⟨undef, undef, undef, undef, undef, undef, rfl, HSZ.out, (fun h => by cases h), (fun h => by cases h), (fun h => by cases h), (fun h => by cases h), (fun h => by cases h), (fun h => by cases h)⟩
  case hstep =>
    intro bs j a' V hbs hcl hj hpre hJ
    obtain ⟨Z48, Z49, Z45, Z50, Z51, Z10, rfl, hb, h0, h1, h2, h3, h4, h5⟩ := hJ
    obtain ⟨b0, b1, b2, b3, b4, b5, b6, rfl⟩ : ∃ b0 b1 b2 b3 b4 b5 b6, bs = [b0, b1, b2, b3, b4, b5, b6] := by
      match bs, hbs with
      | [b0, b1, b2, b3, b4, b5, b6], _ => exact ⟨b0, b1, b2, b3, b4, b5, b6, rfl⟩
    simp only [List.getD_cons_zero, List.getD_cons_succ] at h0 h1 h2 h3 h4 h5
    have hcl2 : (b1 = true → b0 = true) ∧ (b2 = true → b0 = true ∧ b1 = true) ∧ (b3 = true → b0 = true ∧ b1 = true ∧ b2 = true) ∧ (b6 = true → b5 = true) := by
      revert hcl; cases b0 <;> cases b1 <;> cases b2 <;> cases b3 <;> cases b4 <;> cases b5 <;> cases b6 <;> decide
    clear hcl hbs
    have keep5 : ∀ V', Below V.heap.size V V' → (b5 = true → ∃ k, Z10 = .pointer (some ⟨k, 0, none⟩) ∧ W2.heap.size ≤ k ∧ V'.heap[k]? = some (.cells (if b6 = true then #[.bool y.is, .string (strB y.S), .int .i64 ((y.k : Nat) : Int), .int .i64 y.wr, .int .i64 y.rd] else cells0) 28 (0, 0))) := fun V' hb' h => by
      obtain ⟨k, e, hk, hk2⟩ := h5 h
      exact ⟨k, e, hk, (hb'.block _ (lt_of_block hk2)).trans hk2⟩
    match j, hj with
    | 0, hj =>
      simp at hj
      subst hj
      refine op_step rfl rfl (fun K hK => ?_)
      go_simp
      go_wp2_with (go_at_call 23; fail)
      refine (text_any (HP2.out.grown hb) (by have := HS.out; omega) (by have := HN.out; omega)).mono ?_
      rintro e w3 ⟨rfl, hb3⟩
      refine hK _ _ ⟨hb.trans (hb3.mono hb.size), _, Z49, Z45, Z50, Z51, Z10, rfl, hb.trans (hb3.mono hb.size), (fun _ => rfl), (fun h => h1 h), (fun h => h2 h), (fun h => h3 h), (fun h => h4 h), (fun h => keep5 w3 hb3 h)⟩
    | 1, hj =>
      simp at hj
      subst hj
      have hb0 : b0 = true := by simpa using hpre
      obtain rfl := h0 hb0
      refine op_step rfl rfl (fun K hK => ?_)
      go_simp
      go_wp2_with (go_at_call 26; fail)
      refine (href.out V).mono ?_
      rintro e w3 ⟨rfl, hb3⟩
      refine hK _ _ ⟨hb.trans (hb3.mono hb.size), _, _, Z45, Z50, Z51, Z10, rfl, hb.trans (hb3.mono hb.size), (fun _ => rfl), (fun _ => rfl), (fun h => h2 h), (fun h => h3 h), (fun h => h4 h), (fun h => keep5 w3 hb3 h)⟩
    | 2, hj =>
      simp at hj
      subst hj
      have hb0 : b0 = true ∧ b1 = true := by simpa using hpre
      obtain rfl := h0 hb0.1
      obtain rfl := h1 hb0.2
      refine op_step rfl rfl (fun K hK => ?_)
      go_simp
      refine hK _ _ ⟨hb, _, _, _, Z50, Z51, Z10, rfl, hb, (fun _ => rfl), (fun _ => rfl), (fun _ => rfl), (fun h => h3 h), (fun h => h4 h), (fun h => h5 h)⟩
    | 3, hj =>
      simp at hj
      subst hj
      have hb0 : b0 = true ∧ b1 = true ∧ b2 = true := by simpa using hpre
      obtain rfl := h0 hb0.1
      obtain rfl := h1 hb0.2.1
      obtain rfl := h2 hb0.2.2
      refine op_step rfl rfl (fun K hK => ?_)
      go_simp
      refine hK _ _ ⟨hb, _, _, _, _, Z51, Z10, rfl, hb, (fun _ => rfl), (fun _ => rfl), (fun _ => rfl), (fun _ => rfl), (fun h => h4 h), (fun h => h5 h)⟩
    | 4, hj =>
      simp at hj
      subst hj
      have hb0 : b0 = true ∧ b1 = true ∧ b2 = true := by simpa using hpre
      obtain rfl := h0 hb0.1
      obtain rfl := h1 hb0.2.1
      obtain rfl := h2 hb0.2.2
      refine op_step rfl rfl (fun K hK => ?_)
      go_simp
      refine hK _ _ ⟨hb, _, _, _, Z50, _, Z10, rfl, hb, (fun _ => rfl), (fun _ => rfl), (fun _ => rfl), (fun h => h3 h), (fun _ => rfl), (fun h => h5 h)⟩
    | 5, hj =>
      simp at hj
      subst hj
      refine op_step rfl rfl (fun K hK => ?_)
      go_simp
      have hb3 := below_alloc V (.cells cells0 28)
      refine hK _ _ ⟨hb.trans (hb3.mono hb.size), Z48, Z49, Z45, Z50, Z51, _, rfl, hb.trans (hb3.mono hb.size), (fun h => h0 h), (fun h => h1 h), (fun h => h2 h), (fun h => h3 h), (fun h => h4 h), (fun _ => ⟨_, rfl, hb.size, by
        have e6 : b6 = false := by
          cases h6 : b6 with
          | false => rfl
          | true => have := hcl2.2.2.2 h6; simp at this
        rw [e6]
        exact heap_alloc_new _ _⟩)⟩
    | 6, hj =>
      simp at hj
      subst hj
      have hb0 : b0 = true ∧ b1 = true ∧ b2 = true ∧ b3 = true ∧ b5 = true := by simpa using hpre
      obtain rfl := h0 hb0.1
      obtain rfl := h1 hb0.2.1
      obtain rfl := h2 hb0.2.2.1
      obtain rfl := h3 hb0.2.2.2.1
      obtain ⟨k, rfl, hk, hk2⟩ := h5 hb0.2.2.2.2
      rw [if_neg (by simp)] at hk2
      unfold cells0 at hk2
      have f0 := cells_cell (o := 0) hk2 rfl
      have f1 := cells_cell (o := 1) hk2 rfl
      have f2 := cells_cell (o := 2) hk2 rfl
      have f3 := cells_cell (o := 3) hk2 rfl
      have f4 := cells_cell (o := 4) hk2 rfl
      have z0 := cells_free hk2 0
      have z1 := cells_free hk2 1
      have z2 := cells_free hk2 2
      have z3 := cells_free hk2 3
      have z4 := cells_free hk2 4
      have hkl := lt_of_block hk2
      refine op_step rfl rfl (fun K hK => ?_)
      go_simp
      generalize hV0 : World.setCell _ _ _ = V0
      have hff : Fr [k] V V0 := by rw [← hV0]; exact five_fr V _ _ _ _ _ _
      have hy0 : V0.heap[k]? = some (.cells #[.bool y.is, .string (strB y.S), .int .i64 ((y.k : Nat) : Int), .int .i64 y.wr, .int .i64 y.rd] 28 (0, 0)) := by rw [← hV0]; exact five_cells hk2 _ _ _ _ _
      have hb3 : Below W2.heap.size V V0 := hff.below (fun q hq => by simp at hq; omega) hb.size
      refine hK _ _ ⟨hb.trans hb3, _, _, _, _, Z51, _, rfl, hb.trans hb3, (fun _ => rfl), (fun _ => rfl), (fun _ => rfl), (fun _ => rfl), (fun h => h4 h), (fun _ => ⟨k, rfl, hk, by simpa using hy0⟩)⟩
    | j + 7, hj => simp at hj
  case hend =>
    intro a' V hJ
    obtain ⟨Z48, Z49, Z45, Z50, Z51, Z10, rfl, hb, h0, h1, h2, h3, h4, h5⟩ := hJ
    obtain rfl := h0 rfl
    obtain rfl := h1 rfl
    obtain rfl := h2 rfl
    obtain rfl := h3 rfl
    obtain rfl := h4 rfl
    obtain ⟨k, rfl, hk, hk2⟩ := h5 rfl
    clear h0 h1 h2 h3 h4 h5 hx2 ha2
    have hy0 : V.heap[k]? = some (.cells #[.bool y.is, .string (strB y.S), .int .i64 ((y.k : Nat) : Int), .int .i64 y.wr, .int .i64 y.rd] 28 (0, 0)) := by simpa using hk2
    have H3 := Lib.hid (H2.out.grow hb)
    have R3 := Lib.hid ((hb.block _ (lt_of_block R2.out)).trans R2.out)
    have HLR : Hid (w.heap.size + 1 + 1 < W2.heap.size) := Lib.hid (lt_of_block R2.out)
    have F3 := Lib.hid (F2.out.trans' (Fr.of_below hb [b]))
    have HKL := Lib.hid hk
    have HYY := Lib.hid hy0
    clear hk2 hb hk hy0
    simp only [List.drop_succ_cons, List.drop_zero]
    go_wp2_with fail
    have hy0 := HYY.out
    unfold cells0 at R3
    have hr0 := R3.out
    have hk0 := H3.out
    have hF0 := F3.out
    have hlt0 : w.heap.size + 1 + 1 < k := by have := HKL.out; have := HLR.out; omega
    refine wp_region_mix (fun W' => W'.heap[k]? = some (.cells #[.bool y.is, .string (strB y.S), .int .i64 ((y.k : Nat) : Int), .int .i64 y.wr, .int .i64 y.rd] 28 (0, 0))) 7 [(true, 0), (true, 1), (true, 2), (true, 3), (true, 4), (true, 5), (false, 6)] (by kernel_rfl) (by kernel_rfl) (fun _ _ _ d _ h => by cases d <;> exact h) ?_
    have HD : Hid (Below V.heap.size V V.drew) := Lib.hid ((Grn.refl V).drew 1).below
    have HQ : Hid (V.drew.heap[k]? = some (.cells #[.bool y.is, .string (strB y.S), .int .i64 ((y.k : Nat) : Int), .int .i64 y.wr, .int .i64 y.rd] 28 (0, 0))) := Lib.hid ((HD.out.block _ (lt_of_block hy0)).trans hy0)
    have HT : Hid (V.drew.heap[w.heap.size + 1 + 1]? = some (.cells #[.bool false, .string ⟨#[]⟩, .int .i64 0, .int .i64 0, .int .i64 0] 28 (0, 0))) := Lib.hid ((HD.out.block _ (lt_of_block hr0)).trans hr0)
    have HKK := Lib.hid (hk0.grow HD.out)
    have HFK : Hid (Fr [b] w V.drew) := Lib.hid (hF0.trans' (Fr.of_below HD.out [b]))
    simp only [List.map_cons, List.map_nil, List.getD_cons_zero, List.getD_cons_succ, List.drop_succ_cons, List.drop_zero]
    generalize V.drew = V8 at *
    refine mix_move (.tmp 0) (.pointer (some ⟨m, 0, none⟩)) rfl HQ.out rfl rfl ?_
    simp only [Act.put, List.setIfInBounds_toArray, List.set_cons_zero, List.set_cons_succ]
    refine mix_take (.agg #[.bool y.is, .string (strB y.S), .int .i64 ((y.k : Nat) : Int), .int .i64 y.wr, .int .i64 y.rd]) HQ.out rfl (fun W' hS => by
      have l0 := cells_cell (o := 0) hS rfl
      have l1 := cells_cell (o := 1) hS rfl
      have l2 := cells_cell (o := 2) hS rfl
      have l3 := cells_cell (o := 3) hS rfl
      have l4 := cells_cell (o := 4) hS rfl
      go_simp) ?_
    simp only [Act.put, List.setIfInBounds_toArray, List.set_cons_zero, List.set_cons_succ]
    refine mix_move (.tmp 9) (.int .i64 ye) rfl HQ.out rfl rfl ?_
    simp only [Act.put, List.setIfInBounds_toArray, List.set_cons_zero, List.set_cons_succ]
    refine mix_move (.tmp 11) (.int .i64 ye) rfl HQ.out rfl rfl ?_
    simp only [Act.put, List.setIfInBounds_toArray, List.set_cons_zero, List.set_cons_succ]
    refine mix_take (.bool true) HQ.out rfl (fun W' hS => by go_simp) ?_
    simp only [Act.put, List.setIfInBounds_toArray, List.set_cons_zero, List.set_cons_succ]
    refine mix_take (.pointer (some ⟨m, 0, none⟩)) HQ.out rfl (fun W' hS => by go_simp) ?_
    simp only [Act.put, List.setIfInBounds_toArray, List.set_cons_zero, List.set_cons_succ]
    refine mix_step rfl (fun K1 hK => ?_)
    have d0 := cells_cell (o := 0) HT.out rfl
    have e0 := cells_free HT.out 0
    have d1 := cells_cell (o := 1) HT.out rfl
    have e1 := cells_free HT.out 1
    have d2 := cells_cell (o := 2) HT.out rfl
    have e2 := cells_free HT.out 2
    have d3 := cells_cell (o := 3) HT.out rfl
    have e3 := cells_free HT.out 3
    have d4 := cells_cell (o := 4) HT.out rfl
    have e4 := cells_free HT.out 4
    have hlt := lt_of_block HT.out
    go_simp
    generalize hWF : World.setCell _ _ _ = WF
    have hff : Fr [w.heap.size + 1 + 1] V8 WF := by rw [← hWF]; exact five_fr V8 _ _ _ _ _ _
    have ht : WF.heap[w.heap.size + 1 + 1]? = some (.cells #[.bool y.is, .string (strB y.S), .int .i64 ((y.k : Nat) : Int), .int .i64 y.wr, .int .i64 y.rd] 28 (0, 0)) := by rw [← hWF]; exact five_cells HT.out _ _ _ _ _
    have HS2 : Hid (WF.heap[k]? = some (.cells #[.bool y.is, .string (strB y.S), .int .i64 ((y.k : Nat) : Int), .int .i64 y.wr, .int .i64 y.rd] 28 (0, 0))) := Lib.hid (hff.same HQ.out (by simp; omega))
    have HKF : Hid (KM w0 WF m b y) := Lib.hid (by
      have k0 := HKK.out
      obtain ⟨_, hbb, _⟩ := k0.at'.ex
      refine ⟨k0.at'.fr hff (by simpa using ne_types k0.at'.me HT.out (by decide)) (by simpa using ne_types hbb HT.out (by decide)) (fun g cur hg => by simpa using ne_types hg HT.out (by decide)), k0.lm, k0.lb, k0.be.trans (hff.below (fun q hq => by simp at hq; subst hq; have := HWL.out; omega) k0.be.size)⟩)
    have HFF : Hid (Fr [b] w WF) := Lib.hid (HFK.out.trans hff (fun q hq => .inr (by simp at hq; omega)))
    clear hWF d0 d1 d2 d3 d4 e0 e1 e2 e3 e4 hlt HT HKK HFK
    refine hK _ _ HS2.out ?_
    clear hK HQ
    refine mix_nil ?_
    clear hy0 hr0 hk0 hF0
    go_wp2_with fail
    refine bodyPost_ret (v := .tuple #[pt m, encM y, .bool true]) (by simp [results, Try.results11, go_sem, encM, cellsM, pt, cells_cell ht (o := 0) rfl, cells_cell ht (o := 1) rfl, cells_cell ht (o := 2) rfl, cells_cell ht (o := 3) rfl, cells_cell ht (o := 4) rfl]) rfl ⟨m, b, y, rfl, HKF.out, HFF.out⟩
end Go.Proofs.Ytophkjnniodegaa
