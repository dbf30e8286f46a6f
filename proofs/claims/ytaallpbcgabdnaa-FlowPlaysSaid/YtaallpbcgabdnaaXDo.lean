/- The law's do. -/
import Derived.Test.YtaallpbcgabdnaaXSmall
import Derived.Test.YtaallpbcgabdnaaXSpl
import Derived.Test.YtaallpbcgabdnaaGFlags
namespace Go.Proofs.Ytaallpbcgabdnaa
open Go.RowKit Go.Sort
set_option linter.unusedVariables false
set_option linter.unusedSimpArgs false

theorem row_byte {w : World} {base : Nat} {a : Option Addr} {n c : Nat} {L : List UInt8} (h : RowB w base (.slice a n c) L) (k : Nat) (hk : k < L.length) :
    ∃ g, a = some ⟨g, 0, none⟩ ∧ base ≤ g ∧ g < w.heap.size ∧ n = L.length ∧ n ≤ c ∧ c ≤ maxLen ∧ w.cell? ⟨g, k, none⟩ = some (.int .u8 ((L[k].toNat : Nat) : Int)) ∧ w.frozen? ⟨g, k, none⟩ = false ∧
      ∀ z : Int, 0 ≤ z → z < 256 → RowB (w.setCell ⟨g, k, none⟩ (.int .u8 z)) base (.slice a n c) (L.set k (UInt8.ofNat z.toNat)) := by
  have h' : w.ownsRow base 5 1 (.slice a n c) (L.map encB).length (L.map encB) := h
  obtain ⟨h1, h2⟩ := h'
  rw [List.length_map] at h2
  rcases h2 with ⟨hv, h0⟩ | ⟨g, cap, cur, hv, hb, hh, h3, h4, h5, h6⟩
  · omega
  · simp only [Value.slice.injEq] at hv
    obtain ⟨rfl, rfl, rfl⟩ := hv
    rw [Nat.mul_one] at h5 h6
    have hcur : cur[k]? = some (encB L[k]) := by
      have : (cur.toList.take L.length)[k]? = (L.map encB)[k]? := by rw [h6]
      rw [List.getElem?_take, if_pos hk, List.getElem?_map, List.getElem?_eq_getElem hk] at this
      simpa using this
    refine ⟨g, rfl, hb, lt_of_block hh, rfl, h3, h4, cells_cell hh hcur, cells_free hh _, fun z hz0 hz1 => ?_⟩
    have he : Value.int .u8 z = encB (UInt8.ofNat z.toNat) := by
      unfold encB
      congr 1
      simp
      omega
    refine ⟨by simp, .inr ⟨g, c, cur.setIfInBounds k (.int .u8 z), by simp, hb, cells_set hh k _, by simpa using h3, h4, by simpa using h5, ?_⟩⟩
    rw [List.length_map, List.length_set, Nat.mul_one, Array.toList_setIfInBounds, List.take_set, h6, he, List.map_set]
set_option maxRecDepth 100000 in
set_option maxHeartbeats 6400000 in
theorem do_cw {w0 w : World} {m : Nat} {b : Fb} {x : Ft} (h : KF w0 w m b x) {a : Option Addr} {n c : Nat} {Ps : Parts} (hp : SrcV w0 (.slice a n c) (Ps.map encS)) (hs : Ps.flatten.length ≤ 12000) (hk : Ps.length ≤ 30) (v1 v3 : Int) (hv : I64 v3) :
    Calls Try.prog 12 #[pt m, encR x, .agg #[.int .i64 2, .int .i64 v1, .slice a n c, .int .i64 v3]] w fun e w' => ∃ m' b' y, e = .returned (.tuple #[pt m', encR y, .bool true]) ∧ KF w0 w' m' b' y ∧ Fr b.F w w' := by
  have HV := Lib.hid hv
  clear hv
  obtain ⟨W, hW⟩ : ∃ W, W = ((w.alloc (.cells (cellsR x) 30)).alloc (.cells #[.int .i64 2, .int .i64 v1, .slice a n c, .int .i64 v3] 35)).alloc (.cells cells0 30) := ⟨_, rfl⟩
  have b1 := below_alloc w (.cells (cellsR x) 30)
  have b2 := below_alloc (w.alloc (.cells (cellsR x) 30)) (.cells #[.int .i64 2, .int .i64 v1, .slice a n c, .int .i64 v3] 35)
  have b3 := below_alloc ((w.alloc (.cells (cellsR x) 30)).alloc (.cells #[.int .i64 2, .int .i64 v1, .slice a n c, .int .i64 v3] 35)) (.cells cells0 30)
  have hb : Below w.heap.size w W := by rw [hW]; exact b1.trans ((b2.trans (b3.mono (by simp))).mono (by simp))
  have e0 : W.heap[w.heap.size]? = some (.cells (cellsR x) 30 (0, 0)) := by rw [hW]; exact (b3.block _ (by simp; omega)).trans ((b2.block _ (by simp)).trans (heap_alloc_new w _))
  have e1 : W.heap[w.heap.size + 1]? = some (.cells #[.int .i64 2, .int .i64 v1, .slice a n c, .int .i64 v3] 35 (0, 0)) := by rw [hW]; exact (b3.block _ (by simp)).trans (block_new _ _ _ (by simp))
  have e2 : W.heap[w.heap.size + 1 + 1]? = some (.cells cells0 30 (0, 0)) := by rw [hW]; exact block_new _ _ _ (by simp)
  have hkm := h.grow hb
  have H0 := Lib.hid hkm
  have HP := Lib.hid hp
  have X0 := Lib.hid e0
  have A0 := Lib.hid e1
  have R0 := Lib.hid e2
  have HS := Lib.hid hs
  have HN := Lib.hid hk
  have HW := Lib.hid hW.symm
  have HWB := Lib.hid hb
  have F0 : Hid (Fr b.F w W) := Lib.hid (Fr.of_below hb b.F)
  have HOK := Lib.hid h.at'.ok
  have HWL : Hid (w0.heap.size ≤ w.heap.size) := Lib.hid h.be.size
  clear hW b1 b2 b3 hb e0 e1 e2 hkm h hp hs hk
  unfold cells0 cellsR at HW
  unfold encR cellsR pt
  go_enter Try.func12, Try.ntmps12
  have A := A0.out
  have a0 := cells_cell (o := 0) A rfl
  have a3 := cells_cell (o := 3) A rfl
  clear A
  go_wp2_with (go_at_call 21; fail)
  rw [HW.out]
  clear a0 a3
  refine (flCloseWrite_any H0.out.at' v3 HV.out).mono ?_
  rintro e W1 ⟨rfl, hm, hf⟩
  have H1 := Lib.hid (H0.out.next hm hf)
  have X1 := Lib.hid (hf.same X0.out (H0.out.at'.not X0.out (by decide) (by decide) (by decide)))
  have A1 := Lib.hid (hf.same A0.out (H0.out.at'.not A0.out (by decide) (by decide) (by decide)))
  have R1 := Lib.hid (hf.same R0.out (H0.out.at'.not R0.out (by decide) (by decide) (by decide)))
  have F1 := Lib.hid (F0.out.trans' hf)
  clear hm hf H0 X0 A0 R0 F0
  have x0 := cells_cell (o := 0) X1.out rfl
  have x1 := cells_cell (o := 1) X1.out rfl
  have x2 := cells_cell (o := 2) X1.out rfl
  have x3 := cells_cell (o := 3) X1.out rfl
  have a3 := cells_cell (o := 3) A1.out rfl
  go_wp2_with (go_at_call 29; fail)
  clear x0 x1 x2 x3 a3
  refine (refCloseWrite_any W1 x v3).mono ?_
  rintro e W2 ⟨rfl, hb⟩
  have H2 := Lib.hid (H1.out.grow hb)
  have X2 := Lib.hid ((hb.block _ (lt_of_block X1.out)).trans X1.out)
  have A2 := Lib.hid ((hb.block _ (lt_of_block A1.out)).trans A1.out)
  have R2 := Lib.hid ((hb.block _ (lt_of_block R1.out)).trans R1.out)
  have F2 := Lib.hid (F1.out.trans' (Fr.of_below hb b.F))
  clear hb H1 X1 A1 R1 F1
  generalize hY : cwC x v3 = Y at *
  obtain ⟨ye, y⟩ := Y
  clear hY
  simp only at *
  unfold encR cellsR
  go_wp2_with fail
  unfold cells0 at R2
  generalize hV0 : World.alloc _ _ = V0
  have hB0 : Below W2.heap.size W2 V0 := by rw [← hV0]; exact below_alloc _ _
  have hy0 : V0.heap[W2.heap.size]? = some (.cells #[.int .i64 (y.c : Nat), .string (strB y.S), .int .i64 y.wr, .int .i64 y.rd] 30 (0, 0)) := by rw [← hV0]; exact heap_alloc_new _ _
  have hr0 : V0.heap[w.heap.size + 1 + 1]? = some (.cells #[.int .i64 0, .string ⟨#[]⟩, .int .i64 0, .int .i64 0] 30 (0, 0)) := (hB0.block _ (lt_of_block R2.out)).trans R2.out
  have hk0 := H2.out.grow hB0
  have hF0 : Fr b.F w V0 := F2.out.trans' (Fr.of_below hB0 b.F)
  have hlt0 : w.heap.size + 1 + 1 < W2.heap.size := lt_of_block R2.out
  clear hV0
  refine wp_region_mix (fun W' => W'.heap[W2.heap.size]? = some (.cells #[.int .i64 (y.c : Nat), .string (strB y.S), .int .i64 y.wr, .int .i64 y.rd] 30 (0, 0))) 7 [(true, 0), (true, 1), (true, 2), (true, 3), (true, 4), (true, 5), (false, 6)] (by kernel_rfl) (by kernel_rfl) (fun _ _ _ d _ h => by cases d <;> exact h) ?_
  have HD : Hid (Below V0.heap.size V0 V0.drew) := Lib.hid ((Grn.refl V0).drew 1).below
  have HQ : Hid (V0.drew.heap[W2.heap.size]? = some (.cells #[.int .i64 (y.c : Nat), .string (strB y.S), .int .i64 y.wr, .int .i64 y.rd] 30 (0, 0))) := Lib.hid ((HD.out.block _ (lt_of_block hy0)).trans hy0)
  have HT : Hid (V0.drew.heap[w.heap.size + 1 + 1]? = some (.cells #[.int .i64 0, .string ⟨#[]⟩, .int .i64 0, .int .i64 0] 30 (0, 0))) := Lib.hid ((HD.out.block _ (lt_of_block hr0)).trans hr0)
  have HKK := Lib.hid (hk0.grow HD.out)
  have HFK : Hid (Fr b.F w V0.drew) := Lib.hid (hF0.trans' (Fr.of_below HD.out b.F))
  simp only [List.map_cons, List.map_nil, List.getD_cons_zero, List.getD_cons_succ, List.drop_succ_cons, List.drop_zero]
  generalize V0.drew = V at *
  refine mix_move (.tmp 0) (.pointer (some ⟨m, 0, none⟩)) rfl HQ.out rfl rfl ?_
  simp only [Act.put, List.setIfInBounds_toArray, List.set_cons_zero, List.set_cons_succ]
  refine mix_take (.agg #[.int .i64 (y.c : Nat), .string (strB y.S), .int .i64 y.wr, .int .i64 y.rd]) HQ.out rfl (fun W' hS => by
    have l0 := cells_cell (o := 0) hS rfl
    have l1 := cells_cell (o := 1) hS rfl
    have l2 := cells_cell (o := 2) hS rfl
    have l3 := cells_cell (o := 3) hS rfl
    go_simp) ?_
  simp only [Act.put, List.setIfInBounds_toArray, List.set_cons_zero, List.set_cons_succ]
  refine mix_move (.tmp 21) (.int .i64 ye) rfl HQ.out rfl rfl ?_
  simp only [Act.put, List.setIfInBounds_toArray, List.set_cons_zero, List.set_cons_succ]
  refine mix_move (.tmp 23) (.int .i64 ye) rfl HQ.out rfl rfl ?_
  simp only [Act.put, List.setIfInBounds_toArray, List.set_cons_zero, List.set_cons_succ]
  refine mix_take (.bool true) HQ.out rfl (fun W' hS => by go_simp) ?_
  simp only [Act.put, List.setIfInBounds_toArray, List.set_cons_zero, List.set_cons_succ]
  refine mix_take (.pointer (some ⟨m, 0, none⟩)) HQ.out rfl (fun W' hS => by go_simp) ?_
  simp only [Act.put, List.setIfInBounds_toArray, List.set_cons_zero, List.set_cons_succ]
  refine mix_step rfl (fun K1 hK => ?_)
  have d0 := cells_cell (o := 0) HT.out rfl
  have e0 := cells_free HT.out 0
  have d1 := cells_cell (o := 1) HT.out rfl
  have e1 := cells_free HT.out 1
  have d2 := cells_cell (o := 2) HT.out rfl
  have e2 := cells_free HT.out 2
  have d3 := cells_cell (o := 3) HT.out rfl
  have e3 := cells_free HT.out 3
  have hlt := lt_of_block HT.out
  go_simp
  generalize hWF : World.setCell _ _ _ = WF
  have hff : Fr [w.heap.size + 1 + 1] V WF := by rw [← hWF]; exact four_fr V _ _ _ _ _
  have ht : WF.heap[w.heap.size + 1 + 1]? = some (.cells #[.int .i64 (y.c : Nat), .string (strB y.S), .int .i64 y.wr, .int .i64 y.rd] 30 (0, 0)) := by rw [← hWF]; exact four_cells HT.out _ _ _ _
  have HS2 : Hid (WF.heap[W2.heap.size]? = some (.cells #[.int .i64 (y.c : Nat), .string (strB y.S), .int .i64 y.wr, .int .i64 y.rd] 30 (0, 0))) := Lib.hid (hff.same HQ.out (by simp; omega))
  have HKF : Hid (KF w0 WF m b y) := Lib.hid (by
    have k0 := HKK.out
    exact ⟨k0.at'.box HT.out hff (by decide) (by decide) (by decide) (by decide) (by decide), k0.new, k0.be.trans (hff.below (fun q hq => by simp at hq; subst hq; have := HWL.out; omega) k0.be.size)⟩)
  have HFF : Hid (Fr b.F w WF) := Lib.hid (HFK.out.trans hff (fun q hq => .inr (by simp at hq; omega)))
  clear hWF d0 d1 d2 d3 e0 e1 e2 e3 hlt HT HKK HFK
  refine hK _ _ HS2.out ?_
  clear hK HQ
  refine mix_nil ?_
  clear hy0 hr0 hk0 hF0
  go_wp2_with fail
  refine bodyPost_ret (v := .tuple #[pt m, encR y, .bool true]) (by simp [results, Try.results12, go_sem, encR, cellsR, pt, cells_cell ht (o := 0) rfl, cells_cell ht (o := 1) rfl, cells_cell ht (o := 2) rfl, cells_cell ht (o := 3) rfl]) rfl ⟨m, b, y, rfl, HKF.out, HFF.out⟩
set_option maxRecDepth 100000 in
set_option maxHeartbeats 6400000 in
theorem do_cr {w0 w : World} {m : Nat} {b : Fb} {x : Ft} (h : KF w0 w m b x) {a : Option Addr} {n c : Nat} {Ps : Parts} (hp : SrcV w0 (.slice a n c) (Ps.map encS)) (hs : Ps.flatten.length ≤ 12000) (hk : Ps.length ≤ 30) (v1 v3 : Int) (hv : I64 v3) :
    Calls Try.prog 12 #[pt m, encR x, .agg #[.int .i64 3, .int .i64 v1, .slice a n c, .int .i64 v3]] w fun e w' => ∃ m' b' y, e = .returned (.tuple #[pt m', encR y, .bool true]) ∧ KF w0 w' m' b' y ∧ Fr b.F w w' := by
  have HV := Lib.hid hv
  clear hv
  obtain ⟨W, hW⟩ : ∃ W, W = ((w.alloc (.cells (cellsR x) 30)).alloc (.cells #[.int .i64 3, .int .i64 v1, .slice a n c, .int .i64 v3] 35)).alloc (.cells cells0 30) := ⟨_, rfl⟩
  have b1 := below_alloc w (.cells (cellsR x) 30)
  have b2 := below_alloc (w.alloc (.cells (cellsR x) 30)) (.cells #[.int .i64 3, .int .i64 v1, .slice a n c, .int .i64 v3] 35)
  have b3 := below_alloc ((w.alloc (.cells (cellsR x) 30)).alloc (.cells #[.int .i64 3, .int .i64 v1, .slice a n c, .int .i64 v3] 35)) (.cells cells0 30)
  have hb : Below w.heap.size w W := by rw [hW]; exact b1.trans ((b2.trans (b3.mono (by simp))).mono (by simp))
  have e0 : W.heap[w.heap.size]? = some (.cells (cellsR x) 30 (0, 0)) := by rw [hW]; exact (b3.block _ (by simp; omega)).trans ((b2.block _ (by simp)).trans (heap_alloc_new w _))
  have e1 : W.heap[w.heap.size + 1]? = some (.cells #[.int .i64 3, .int .i64 v1, .slice a n c, .int .i64 v3] 35 (0, 0)) := by rw [hW]; exact (b3.block _ (by simp)).trans (block_new _ _ _ (by simp))
  have e2 : W.heap[w.heap.size + 1 + 1]? = some (.cells cells0 30 (0, 0)) := by rw [hW]; exact block_new _ _ _ (by simp)
  have hkm := h.grow hb
  have H0 := Lib.hid hkm
  have HP := Lib.hid hp
  have X0 := Lib.hid e0
  have A0 := Lib.hid e1
  have R0 := Lib.hid e2
  have HS := Lib.hid hs
  have HN := Lib.hid hk
  have HW := Lib.hid hW.symm
  have HWB := Lib.hid hb
  have F0 : Hid (Fr b.F w W) := Lib.hid (Fr.of_below hb b.F)
  have HOK := Lib.hid h.at'.ok
  have HWL : Hid (w0.heap.size ≤ w.heap.size) := Lib.hid h.be.size
  clear hW b1 b2 b3 hb e0 e1 e2 hkm h hp hs hk
  unfold cells0 cellsR at HW
  unfold encR cellsR pt
  go_enter Try.func12, Try.ntmps12
  have A := A0.out
  have a0 := cells_cell (o := 0) A rfl
  have a3 := cells_cell (o := 3) A rfl
  clear A
  go_wp2_with (go_at_call 23; fail)
  rw [HW.out]
  clear a0 a3
  refine (flCloseRead_any H0.out.at' v3 HV.out).mono ?_
  rintro e W1 ⟨rfl, hm, hf⟩
  have H1 := Lib.hid (H0.out.next hm hf)
  have X1 := Lib.hid (hf.same X0.out (H0.out.at'.not X0.out (by decide) (by decide) (by decide)))
  have A1 := Lib.hid (hf.same A0.out (H0.out.at'.not A0.out (by decide) (by decide) (by decide)))
  have R1 := Lib.hid (hf.same R0.out (H0.out.at'.not R0.out (by decide) (by decide) (by decide)))
  have F1 := Lib.hid (F0.out.trans' hf)
  clear hm hf H0 X0 A0 R0 F0
  have x0 := cells_cell (o := 0) X1.out rfl
  have x1 := cells_cell (o := 1) X1.out rfl
  have x2 := cells_cell (o := 2) X1.out rfl
  have x3 := cells_cell (o := 3) X1.out rfl
  have a3 := cells_cell (o := 3) A1.out rfl
  go_wp2_with (go_at_call 30; fail)
  clear x0 x1 x2 x3 a3
  refine (refCloseRead_any W1 x v3).mono ?_
  rintro e W2 ⟨rfl, hb⟩
  have H2 := Lib.hid (H1.out.grow hb)
  have X2 := Lib.hid ((hb.block _ (lt_of_block X1.out)).trans X1.out)
  have A2 := Lib.hid ((hb.block _ (lt_of_block A1.out)).trans A1.out)
  have R2 := Lib.hid ((hb.block _ (lt_of_block R1.out)).trans R1.out)
  have F2 := Lib.hid (F1.out.trans' (Fr.of_below hb b.F))
  clear hb H1 X1 A1 R1 F1
  generalize hY : crC x v3 = Y at *
  obtain ⟨ye, y⟩ := Y
  clear hY
  simp only at *
  unfold encR cellsR
  go_wp2_with fail
  unfold cells0 at R2
  generalize hV0 : World.alloc _ _ = V0
  have hB0 : Below W2.heap.size W2 V0 := by rw [← hV0]; exact below_alloc _ _
  have hy0 : V0.heap[W2.heap.size]? = some (.cells #[.int .i64 (y.c : Nat), .string (strB y.S), .int .i64 y.wr, .int .i64 y.rd] 30 (0, 0)) := by rw [← hV0]; exact heap_alloc_new _ _
  have hr0 : V0.heap[w.heap.size + 1 + 1]? = some (.cells #[.int .i64 0, .string ⟨#[]⟩, .int .i64 0, .int .i64 0] 30 (0, 0)) := (hB0.block _ (lt_of_block R2.out)).trans R2.out
  have hk0 := H2.out.grow hB0
  have hF0 : Fr b.F w V0 := F2.out.trans' (Fr.of_below hB0 b.F)
  have hlt0 : w.heap.size + 1 + 1 < W2.heap.size := lt_of_block R2.out
  clear hV0
  refine wp_region_mix (fun W' => W'.heap[W2.heap.size]? = some (.cells #[.int .i64 (y.c : Nat), .string (strB y.S), .int .i64 y.wr, .int .i64 y.rd] 30 (0, 0))) 7 [(true, 0), (true, 1), (true, 2), (true, 3), (true, 4), (true, 5), (false, 6)] (by kernel_rfl) (by kernel_rfl) (fun _ _ _ d _ h => by cases d <;> exact h) ?_
  have HD : Hid (Below V0.heap.size V0 V0.drew) := Lib.hid ((Grn.refl V0).drew 1).below
  have HQ : Hid (V0.drew.heap[W2.heap.size]? = some (.cells #[.int .i64 (y.c : Nat), .string (strB y.S), .int .i64 y.wr, .int .i64 y.rd] 30 (0, 0))) := Lib.hid ((HD.out.block _ (lt_of_block hy0)).trans hy0)
  have HT : Hid (V0.drew.heap[w.heap.size + 1 + 1]? = some (.cells #[.int .i64 0, .string ⟨#[]⟩, .int .i64 0, .int .i64 0] 30 (0, 0))) := Lib.hid ((HD.out.block _ (lt_of_block hr0)).trans hr0)
  have HKK := Lib.hid (hk0.grow HD.out)
  have HFK : Hid (Fr b.F w V0.drew) := Lib.hid (hF0.trans' (Fr.of_below HD.out b.F))
  simp only [List.map_cons, List.map_nil, List.getD_cons_zero, List.getD_cons_succ, List.drop_succ_cons, List.drop_zero]
  generalize V0.drew = V at *
  refine mix_move (.tmp 0) (.pointer (some ⟨m, 0, none⟩)) rfl HQ.out rfl rfl ?_
  simp only [Act.put, List.setIfInBounds_toArray, List.set_cons_zero, List.set_cons_succ]
  refine mix_take (.agg #[.int .i64 (y.c : Nat), .string (strB y.S), .int .i64 y.wr, .int .i64 y.rd]) HQ.out rfl (fun W' hS => by
    have l0 := cells_cell (o := 0) hS rfl
    have l1 := cells_cell (o := 1) hS rfl
    have l2 := cells_cell (o := 2) hS rfl
    have l3 := cells_cell (o := 3) hS rfl
    go_simp) ?_
  simp only [Act.put, List.setIfInBounds_toArray, List.set_cons_zero, List.set_cons_succ]
  refine mix_move (.tmp 24) (.int .i64 ye) rfl HQ.out rfl rfl ?_
  simp only [Act.put, List.setIfInBounds_toArray, List.set_cons_zero, List.set_cons_succ]
  refine mix_move (.tmp 26) (.int .i64 ye) rfl HQ.out rfl rfl ?_
  simp only [Act.put, List.setIfInBounds_toArray, List.set_cons_zero, List.set_cons_succ]
  refine mix_take (.bool true) HQ.out rfl (fun W' hS => by go_simp) ?_
  simp only [Act.put, List.setIfInBounds_toArray, List.set_cons_zero, List.set_cons_succ]
  refine mix_take (.pointer (some ⟨m, 0, none⟩)) HQ.out rfl (fun W' hS => by go_simp) ?_
  simp only [Act.put, List.setIfInBounds_toArray, List.set_cons_zero, List.set_cons_succ]
  refine mix_step rfl (fun K1 hK => ?_)
  have d0 := cells_cell (o := 0) HT.out rfl
  have e0 := cells_free HT.out 0
  have d1 := cells_cell (o := 1) HT.out rfl
  have e1 := cells_free HT.out 1
  have d2 := cells_cell (o := 2) HT.out rfl
  have e2 := cells_free HT.out 2
  have d3 := cells_cell (o := 3) HT.out rfl
  have e3 := cells_free HT.out 3
  have hlt := lt_of_block HT.out
  go_simp
  generalize hWF : World.setCell _ _ _ = WF
  have hff : Fr [w.heap.size + 1 + 1] V WF := by rw [← hWF]; exact four_fr V _ _ _ _ _
  have ht : WF.heap[w.heap.size + 1 + 1]? = some (.cells #[.int .i64 (y.c : Nat), .string (strB y.S), .int .i64 y.wr, .int .i64 y.rd] 30 (0, 0)) := by rw [← hWF]; exact four_cells HT.out _ _ _ _
  have HS2 : Hid (WF.heap[W2.heap.size]? = some (.cells #[.int .i64 (y.c : Nat), .string (strB y.S), .int .i64 y.wr, .int .i64 y.rd] 30 (0, 0))) := Lib.hid (hff.same HQ.out (by simp; omega))
  have HKF : Hid (KF w0 WF m b y) := Lib.hid (by
    have k0 := HKK.out
    exact ⟨k0.at'.box HT.out hff (by decide) (by decide) (by decide) (by decide) (by decide), k0.new, k0.be.trans (hff.below (fun q hq => by simp at hq; subst hq; have := HWL.out; omega) k0.be.size)⟩)
  have HFF : Hid (Fr b.F w WF) := Lib.hid (HFK.out.trans hff (fun q hq => .inr (by simp at hq; omega)))
  clear hWF d0 d1 d2 d3 e0 e1 e2 e3 hlt HT HKK HFK
  refine hK _ _ HS2.out ?_
  clear hK HQ
  refine mix_nil ?_
  clear hy0 hr0 hk0 hF0
  go_wp2_with fail
  refine bodyPost_ret (v := .tuple #[pt m, encR y, .bool true]) (by simp [results, Try.results12, go_sem, encR, cellsR, pt, cells_cell ht (o := 0) rfl, cells_cell ht (o := 1) rfl, cells_cell ht (o := 2) rfl, cells_cell ht (o := 3) rfl]) rfl ⟨m, b, y, rfl, HKF.out, HFF.out⟩
set_option maxRecDepth 100000 in
set_option maxHeartbeats 6400000 in
theorem do_copy {w0 w : World} {m : Nat} {b : Fb} {x : Ft} (h : KF w0 w m b x) {a : Option Addr} {n c : Nat} {Ps : Parts} (hp : SrcV w0 (.slice a n c) (Ps.map encS)) (hs : Ps.flatten.length ≤ 12000) (hk : Ps.length ≤ 30) (what v1 v3 : Int) (hq : what ≠ 0 ∧ what ≠ 1 ∧ what ≠ 2 ∧ what ≠ 3) :
    Calls Try.prog 12 #[pt m, encR x, .agg #[.int .i64 what, .int .i64 v1, .slice a n c, .int .i64 v3]] w fun e w' => ∃ m' b' y, e = .returned (.tuple #[pt m', encR y, .bool true]) ∧ KF w0 w' m' b' y ∧ Fr b.F w w' := by
  have q0 : (what == 0) = false := by simp [hq.1]
  have q1 : (what == 1) = false := by simp [hq.2.1]
  have q2 : (what == 2) = false := by simp [hq.2.2.1]
  have q3 : (what == 3) = false := by simp [hq.2.2.2]
  clear hq
  obtain ⟨W, hW⟩ : ∃ W, W = ((w.alloc (.cells (cellsR x) 30)).alloc (.cells #[.int .i64 what, .int .i64 v1, .slice a n c, .int .i64 v3] 35)).alloc (.cells cells0 30) := ⟨_, rfl⟩
  have b1 := below_alloc w (.cells (cellsR x) 30)
  have b2 := below_alloc (w.alloc (.cells (cellsR x) 30)) (.cells #[.int .i64 what, .int .i64 v1, .slice a n c, .int .i64 v3] 35)
  have b3 := below_alloc ((w.alloc (.cells (cellsR x) 30)).alloc (.cells #[.int .i64 what, .int .i64 v1, .slice a n c, .int .i64 v3] 35)) (.cells cells0 30)
  have hb : Below w.heap.size w W := by rw [hW]; exact b1.trans ((b2.trans (b3.mono (by simp))).mono (by simp))
  have e0 : W.heap[w.heap.size]? = some (.cells (cellsR x) 30 (0, 0)) := by rw [hW]; exact (b3.block _ (by simp; omega)).trans ((b2.block _ (by simp)).trans (heap_alloc_new w _))
  have e1 : W.heap[w.heap.size + 1]? = some (.cells #[.int .i64 what, .int .i64 v1, .slice a n c, .int .i64 v3] 35 (0, 0)) := by rw [hW]; exact (b3.block _ (by simp)).trans (block_new _ _ _ (by simp))
  have e2 : W.heap[w.heap.size + 1 + 1]? = some (.cells cells0 30 (0, 0)) := by rw [hW]; exact block_new _ _ _ (by simp)
  have hkm := h.grow hb
  have H0 := Lib.hid hkm
  have HP := Lib.hid hp
  have X0 := Lib.hid e0
  have A0 := Lib.hid e1
  have R0 := Lib.hid e2
  have HS := Lib.hid hs
  have HN := Lib.hid hk
  have HW := Lib.hid hW.symm
  have HWB := Lib.hid hb
  have F0 : Hid (Fr b.F w W) := Lib.hid (Fr.of_below hb b.F)
  have HOK := Lib.hid h.at'.ok
  have HWL : Hid (w0.heap.size ≤ w.heap.size) := Lib.hid h.be.size
  clear hW b1 b2 b3 hb e0 e1 e2 hkm h hp hs hk
  unfold cells0 cellsR at HW
  unfold encR cellsR pt
  go_enter Try.func12, Try.ntmps12
  have A := A0.out
  have a0 := cells_cell (o := 0) A rfl
  clear A
  go_wp2_with (go_at_call 24; fail)
  rw [HW.out]
  clear a0 q0 q1 q2 q3
  refine (flCopy_any H0.out.at').mono ?_
  rintro e W1 ⟨m2, b2, rfl, hc, ho, hnew, hb⟩
  have C1 : Hid (KF w0 W1 m2 b2 x) := Lib.hid ⟨hc, hnew.le H0.out.be.size, H0.out.be.trans (hb.mono H0.out.be.size)⟩
  have H1 := Lib.hid (H0.out.grow hb)
  have HNE : Hid (b2.b ≠ b.b ∧ b2.bb ≠ b.bb ∧ b2.cc ≠ b.cc) := Lib.hid (by
    have hl := H0.out.at'.lt
    obtain ⟨n1, n2, n3, n4, n5⟩ := hnew
    exact ⟨by omega, by omega, by omega⟩)
  have X1 := Lib.hid ((hb.block _ (lt_of_block X0.out)).trans X0.out)
  have A1 := Lib.hid ((hb.block _ (lt_of_block A0.out)).trans A0.out)
  have R1 := Lib.hid ((hb.block _ (lt_of_block R0.out)).trans R0.out)
  have F1 := Lib.hid (F0.out.trans' (Fr.of_below hb b.F))
  clear hc ho hnew hb H0 X0 A0 R0 F0
  unfold pt
  go_wp2_with (go_at_call 22; fail)
  refine (flRead_any H1.out.at' 1).mono ?_
  rintro e W2 ⟨vp, rfl, hrw, hm, hf⟩
  obtain ⟨pa, pk, pc, rfl⟩ := row_form hrw
  clear hrw
  have H2 := Lib.hid (H1.out.next hm hf)
  have C2 : Hid (KF w0 W2 m2 b2 x) := Lib.hid ⟨H1.out.at'.other C1.out.at' HNE.out.1 HNE.out.2.1 HNE.out.2.2 hf, C1.out.new, H2.out.be⟩
  have X2 := Lib.hid (hf.same X1.out (H1.out.at'.not X1.out (by decide) (by decide) (by decide)))
  have A2 := Lib.hid (hf.same A1.out (H1.out.at'.not A1.out (by decide) (by decide) (by decide)))
  have R2 := Lib.hid (hf.same R1.out (H1.out.at'.not R1.out (by decide) (by decide) (by decide)))
  have F2 := Lib.hid (F1.out.trans' hf)
  clear hm hf H1 X1 A1 R1 C1 F1
  go_wp2_with (go_at_call 19; fail)
  have g0 := below_alloc W2 (.cells #[.string ⟨#[111, 108, 100]⟩] 9)
  refine (of_any (Ps := [[111, 108, 100]]) (strs_made _ [[111, 108, 100]] (by simp) _ rfl 1 rfl) (by simp) (by simp)).mono ?_
  rintro e W3 ⟨u, rfl, hR, hb0⟩
  have hb := g0.trans (hb0.mono g0.size)
  obtain ⟨r1, r2, r3, r4, r5, r6, rfl⟩ := hR.shape
  have HRR := Lib.hid hR
  have H3 := Lib.hid (H2.out.grow hb)
  have C3 := Lib.hid (C2.out.grow hb)
  have X3 := Lib.hid ((hb.block _ (lt_of_block X2.out)).trans X2.out)
  have A3 := Lib.hid ((hb.block _ (lt_of_block A2.out)).trans A2.out)
  have R3 := Lib.hid ((hb.block _ (lt_of_block R2.out)).trans R2.out)
  have F3 := Lib.hid (F2.out.trans' (Fr.of_below hb b.F))
  clear g0 hb0 hb hR H2 X2 A2 R2 C2 F2
  go_wp2_with (go_at_call 18; fail)
  refine (flWrite_any H3.out.at' HRR.out).mono ?_
  rintro e W4 ⟨rfl, hm, hf⟩
  have H4 := Lib.hid (H3.out.next hm hf)
  have C4 : Hid (KF w0 W4 m2 b2 x) := Lib.hid ⟨H3.out.at'.other C3.out.at' HNE.out.1 HNE.out.2.1 HNE.out.2.2 hf, C3.out.new, H4.out.be⟩
  have X4 := Lib.hid (hf.same X3.out (H3.out.at'.not X3.out (by decide) (by decide) (by decide)))
  have A4 := Lib.hid (hf.same A3.out (H3.out.at'.not A3.out (by decide) (by decide) (by decide)))
  have R4 := Lib.hid (hf.same R3.out (H3.out.at'.not R3.out (by decide) (by decide) (by decide)))
  have F4 := Lib.hid (F3.out.trans' hf)
  clear hm hf H3 X3 A3 R3 C3 F3
  go_wp2_with (go_at_call 23; fail)
  refine (flCloseRead_any H4.out.at' 8 (by simp [I64])).mono ?_
  rintro e W5 ⟨rfl, hm, hf⟩
  have H5 := Lib.hid (H4.out.next hm hf)
  have C5 : Hid (KF w0 W5 m2 b2 x) := Lib.hid ⟨H4.out.at'.other C4.out.at' HNE.out.1 HNE.out.2.1 HNE.out.2.2 hf, C4.out.new, H5.out.be⟩
  have X5 := Lib.hid (hf.same X4.out (H4.out.at'.not X4.out (by decide) (by decide) (by decide)))
  have A5 := Lib.hid (hf.same A4.out (H4.out.at'.not A4.out (by decide) (by decide) (by decide)))
  have R5 := Lib.hid (hf.same R4.out (H4.out.at'.not R4.out (by decide) (by decide) (by decide)))
  have F5 := Lib.hid (F4.out.trans' hf)
  clear hm hf H4 X4 A4 R4 C4 F4
  go_wp2_with fail
  unfold cells0 at R5
  unfold cellsR at X5
  have hy0 := X5.out
  have hr0 := R5.out
  have hk0 := C5.out
  have hF0 := F5.out
  have hlt0 : w.heap.size + 1 + 1 < W5.heap.size := lt_of_block R5.out
  refine wp_region_mix (fun W' => W'.heap[w.heap.size]? = some (.cells #[.int .i64 (x.c : Nat), .string (strB x.S), .int .i64 x.wr, .int .i64 x.rd] 30 (0, 0))) 4 [(true, 0), (true, 1), (true, 2), (false, 3)] (by kernel_rfl) (by kernel_rfl) (fun _ _ _ d _ h => by cases d <;> exact h) ?_
  have HD : Hid (Below W5.heap.size W5 W5.drew) := Lib.hid ((Grn.refl W5).drew 1).below
  have HQ : Hid (W5.drew.heap[w.heap.size]? = some (.cells #[.int .i64 (x.c : Nat), .string (strB x.S), .int .i64 x.wr, .int .i64 x.rd] 30 (0, 0))) := Lib.hid ((HD.out.block _ (lt_of_block hy0)).trans hy0)
  have HT : Hid (W5.drew.heap[w.heap.size + 1 + 1]? = some (.cells #[.int .i64 0, .string ⟨#[]⟩, .int .i64 0, .int .i64 0] 30 (0, 0))) := Lib.hid ((HD.out.block _ (lt_of_block hr0)).trans hr0)
  have HKK := Lib.hid (hk0.grow HD.out)
  have HFK : Hid (Fr b.F w W5.drew) := Lib.hid (hF0.trans' (Fr.of_below HD.out b.F))
  simp only [List.map_cons, List.map_nil, List.getD_cons_zero, List.getD_cons_succ, List.drop_succ_cons, List.drop_zero]
  generalize W5.drew = V at *
  refine mix_move (.tmp 27) (.pointer (some ⟨m2, 0, none⟩)) rfl HQ.out rfl rfl ?_
  simp only [Act.put, List.setIfInBounds_toArray, List.set_cons_zero, List.set_cons_succ]
  refine mix_take (.agg #[.int .i64 (x.c : Nat), .string (strB x.S), .int .i64 x.wr, .int .i64 x.rd]) HQ.out rfl (fun W' hS => by
    have l0 := cells_cell (o := 0) hS rfl
    have l1 := cells_cell (o := 1) hS rfl
    have l2 := cells_cell (o := 2) hS rfl
    have l3 := cells_cell (o := 3) hS rfl
    go_simp) ?_
  simp only [Act.put, List.setIfInBounds_toArray, List.set_cons_zero, List.set_cons_succ]
  refine mix_take (.pointer (some ⟨m2, 0, none⟩)) HQ.out rfl (fun W' hS => by go_simp) ?_
  simp only [Act.put, List.setIfInBounds_toArray, List.set_cons_zero, List.set_cons_succ]
  refine mix_step rfl (fun K1 hK => ?_)
  have d0 := cells_cell (o := 0) HT.out rfl
  have e0 := cells_free HT.out 0
  have d1 := cells_cell (o := 1) HT.out rfl
  have e1 := cells_free HT.out 1
  have d2 := cells_cell (o := 2) HT.out rfl
  have e2 := cells_free HT.out 2
  have d3 := cells_cell (o := 3) HT.out rfl
  have e3 := cells_free HT.out 3
  have hlt := lt_of_block HT.out
  go_simp
  generalize hWF : World.setCell _ _ _ = WF
  have hff : Fr [w.heap.size + 1 + 1] V WF := by rw [← hWF]; exact four_fr V _ _ _ _ _
  have ht : WF.heap[w.heap.size + 1 + 1]? = some (.cells #[.int .i64 (x.c : Nat), .string (strB x.S), .int .i64 x.wr, .int .i64 x.rd] 30 (0, 0)) := by rw [← hWF]; exact four_cells HT.out _ _ _ _
  have HS2 : Hid (WF.heap[w.heap.size]? = some (.cells #[.int .i64 (x.c : Nat), .string (strB x.S), .int .i64 x.wr, .int .i64 x.rd] 30 (0, 0))) := Lib.hid (hff.same HQ.out (by simp; omega))
  have HKF : Hid (KF w0 WF m2 b2 x) := Lib.hid (by
    have k0 := HKK.out
    exact ⟨k0.at'.box HT.out hff (by decide) (by decide) (by decide) (by decide) (by decide), k0.new, k0.be.trans (hff.below (fun q hq => by simp at hq; subst hq; have := HWL.out; omega) k0.be.size)⟩)
  have HFF : Hid (Fr b.F w WF) := Lib.hid (HFK.out.trans hff (fun q hq => .inr (by simp at hq; omega)))
  clear hWF d0 d1 d2 d3 e0 e1 e2 e3 hlt HT HKK HFK
  refine hK _ _ HS2.out ?_
  clear hK HQ
  refine mix_nil ?_
  clear hy0 hr0 hk0 hF0
  go_wp2_with fail
  refine bodyPost_ret (v := .tuple #[pt m2, encR x, .bool true]) (by simp [results, Try.results12, go_sem, encR, cellsR, pt, cells_cell ht (o := 0) rfl, cells_cell ht (o := 1) rfl, cells_cell ht (o := 2) rfl, cells_cell ht (o := 3) rfl]) rfl ⟨m2, b2, x, rfl, HKF.out, HFF.out⟩
set_option maxRecDepth 100000 in
set_option maxHeartbeats 6400000 in
theorem do_take {w0 w : World} {m : Nat} {b : Fb} {x : Ft} (h : KF w0 w m b x) {a : Option Addr} {n c : Nat} {Ps : Parts} (hp : SrcV w0 (.slice a n c) (Ps.map encS)) (hs : Ps.flatten.length ≤ 12000) (hk : Ps.length ≤ 30) (v1 v3 : Int) :
    Calls Try.prog 12 #[pt m, encR x, .agg #[.int .i64 1, .int .i64 v1, .slice a n c, .int .i64 v3]] w fun e w' => ∃ m' b' y, e = .returned (.tuple #[pt m', encR y, .bool true]) ∧ KF w0 w' m' b' y ∧ Fr b.F w w' := by
  obtain ⟨W, hW⟩ : ∃ W, W = ((w.alloc (.cells (cellsR x) 30)).alloc (.cells #[.int .i64 1, .int .i64 v1, .slice a n c, .int .i64 v3] 35)).alloc (.cells cells0 30) := ⟨_, rfl⟩
  have b1 := below_alloc w (.cells (cellsR x) 30)
  have b2 := below_alloc (w.alloc (.cells (cellsR x) 30)) (.cells #[.int .i64 1, .int .i64 v1, .slice a n c, .int .i64 v3] 35)
  have b3 := below_alloc ((w.alloc (.cells (cellsR x) 30)).alloc (.cells #[.int .i64 1, .int .i64 v1, .slice a n c, .int .i64 v3] 35)) (.cells cells0 30)
  have hb : Below w.heap.size w W := by rw [hW]; exact b1.trans ((b2.trans (b3.mono (by simp))).mono (by simp))
  have e0 : W.heap[w.heap.size]? = some (.cells (cellsR x) 30 (0, 0)) := by rw [hW]; exact (b3.block _ (by simp; omega)).trans ((b2.block _ (by simp)).trans (heap_alloc_new w _))
  have e1 : W.heap[w.heap.size + 1]? = some (.cells #[.int .i64 1, .int .i64 v1, .slice a n c, .int .i64 v3] 35 (0, 0)) := by rw [hW]; exact (b3.block _ (by simp)).trans (block_new _ _ _ (by simp))
  have e2 : W.heap[w.heap.size + 1 + 1]? = some (.cells cells0 30 (0, 0)) := by rw [hW]; exact block_new _ _ _ (by simp)
  have hkm := h.grow hb
  have H0 := Lib.hid hkm
  have HP := Lib.hid hp
  have X0 := Lib.hid e0
  have A0 := Lib.hid e1
  have R0 := Lib.hid e2
  have HS := Lib.hid hs
  have HN := Lib.hid hk
  have HW := Lib.hid hW.symm
  have HWB := Lib.hid hb
  have F0 : Hid (Fr b.F w W) := Lib.hid (Fr.of_below hb b.F)
  have HOK := Lib.hid h.at'.ok
  have HWL : Hid (w0.heap.size ≤ w.heap.size) := Lib.hid h.be.size
  clear hW b1 b2 b3 hb e0 e1 e2 hkm h hp hs hk
  unfold cells0 cellsR at HW
  unfold encR cellsR pt
  go_enter Try.func12, Try.ntmps12
  have A := A0.out
  have a0 := cells_cell (o := 0) A rfl
  have a1 := cells_cell (o := 1) A rfl
  clear A
  go_wp2_with (go_at_call 22; fail)
  rw [HW.out]
  clear a0 a1
  refine (flRead_any H0.out.at' v1).mono ?_
  rintro e W1 ⟨vp, rfl, hrow, hm, hf⟩
  obtain ⟨pa, pn, pc, rfl⟩ := row_form hrow
  have H1 := Lib.hid (H0.out.next hm hf)
  have X1 := Lib.hid (hf.same X0.out (H0.out.at'.not X0.out (by decide) (by decide) (by decide)))
  have A1 := Lib.hid (hf.same A0.out (H0.out.at'.not A0.out (by decide) (by decide) (by decide)))
  have R1 := Lib.hid (hf.same R0.out (H0.out.at'.not R0.out (by decide) (by decide) (by decide)))
  have Hm := Lib.hid hm
  have HNEW := Lib.hid H0.out.new
  have ROW1 := Lib.hid hrow
  have HS1 : Hid (W.heap.size ≤ W1.heap.size) := Lib.hid hf.size
  have HMW : Hid (m < W.heap.size ∧ b.b < W.heap.size ∧ b.a < W.heap.size ∧ b.bb < W.heap.size ∧ b.cc < W.heap.size) := Lib.hid H0.out.at'.lt
  have HRW : Hid (w.heap.size + 1 + 1 < W.heap.size) := Lib.hid (lt_of_block R0.out)
  have F1 := Lib.hid (F0.out.trans' hf)
  clear hm hf hrow H0 X0 A0 R0 F0
  have x0 := cells_cell (o := 0) X1.out rfl
  have x1 := cells_cell (o := 1) X1.out rfl
  have x2 := cells_cell (o := 2) X1.out rfl
  have x3 := cells_cell (o := 3) X1.out rfl
  have a1 := cells_cell (o := 1) A1.out rfl
  go_wp2_with (go_at_call 28; fail)
  clear x0 x1 x2 x3 a1
  refine (refRead_any HOK.out W1 v1).mono ?_
  rintro e W2 ⟨rfl, hb⟩
  have H2 := Lib.hid (H1.out.grow hb)
  have X2 := Lib.hid ((hb.block _ (lt_of_block X1.out)).trans X1.out)
  have A2 := Lib.hid ((hb.block _ (lt_of_block A1.out)).trans A1.out)
  have R2 := Lib.hid ((hb.block _ (lt_of_block R1.out)).trans R1.out)
  have ROW2 := Lib.hid (RowV.grown ROW1.out hb)
  have Hm2 : Hid (FAt W2 m b (rdC x v1).2.2) := Lib.hid (Hm.out.grown hb)
  have HS2' : Hid (W.heap.size ≤ W2.heap.size) := Lib.hid (Nat.le_trans HS1.out hb.size)
  have F2 := Lib.hid (F1.out.trans' (Fr.of_below hb b.F))
  clear hb H1 X1 A1 R1 Hm ROW1 HS1 F1
  generalize hY : rdC x v1 = Y at *
  obtain ⟨yL, ye, y⟩ := Y
  clear hY
  simp only at *
  unfold encR cellsR
  have hrf := (RowV.src ROW2.out).form
  have hcv0 := row_str ROW2.out
  have hpn : pn = yL.length := by
    obtain ⟨a', c', e', _⟩ := hrf
    simp only [Value.slice.injEq] at e'
    rw [List.length_map] at e'
    exact e'.2.1
  have hpc2 : pc ≤ maxLen ∧ pn ≤ pc := by
    obtain ⟨a', c', e', h1, h2⟩ := hrf
    simp only [Value.slice.injEq] at e'
    rw [List.length_map] at e' h1
    omega
  have hpnI : (pn : Int) ≤ 9223372036854775807 := by have := hpc2.1; have := hpc2.2; unfold maxLen at *; omega
  have HPN := Lib.hid hpn
  clear hrf hpn hpc2
  -- the box of the reference's answer is laid: the conversion reads below it
  have hcv : ∀ o, (convert 45 9 (.slice pa pn pc)).run Try.prog (W2.alloc o) = .ok (.string (strB yL)) (W2.alloc o) := fun o => row_str (RowV.grown ROW2.out (below_alloc _ _))
  clear hcv0
  have hqq : (strB yL).toList == (strB yL).toList := by simp
  go_wp2_with fail
  generalize hV0 : World.alloc _ _ = V0
  have hB0 : Below W2.heap.size W2 V0 := by rw [← hV0]; exact below_alloc _ _
  have HY0 : Hid (V0.heap[W2.heap.size]? = some (.cells #[.int .i64 (y.c : Nat), .string (strB y.S), .int .i64 y.wr, .int .i64 y.rd] 30 (0, 0))) := Lib.hid (by rw [← hV0]; exact heap_alloc_new _ _)
  have HB0 := Lib.hid hB0
  have ROW0 := Lib.hid (RowV.grown ROW2.out hB0)
  clear hV0 hcv hqq hB0 ROW2
  go_loopw [86] (fun i wr => ∃ (k : Nat) (L' : List UInt8), k ≤ pn ∧ i = .int .i64 (k : Nat) ∧ Hid (L'.length = pn) ∧ Hid (RowB wr W.heap.size (.slice pa pn pc) L') ∧ Hid (Fr (Value.slice pa pn pc).ownBlock.toList V0 wr)) (fun i _ => pn - (intOf i).toNat)
  case atStart => exact ⟨0, yL, Nat.zero_le _, rfl, Lib.hid HPN.out.symm, ROW0, Lib.hid (Fr.refl _ _)⟩
  case round =>
    obtain ⟨k, L', hkl, rfl, HLL, HRO, HFR⟩ := hrel
    by_cases hlt : k < pn
    · have hkL : k < L'.length := by rw [HLL.out]; exact hlt
      obtain ⟨g, rfl, hgb, hgl, -, hnc, hcm, hcell, hfz, hset⟩ := row_byte HRO.out k hkL
      have hnc2 : (pn : Int) ≤ (pc : Int) := by omega
      have hkl2 : (k : Int) < (pn : Int) := by omega
      have hz := (L'[k]).toNat_lt
      have hfrs : ∀ z : Int, Fr (Value.slice (some ⟨g, 0, none⟩) pn pc).ownBlock.toList V0 (wr.setCell ⟨g, k, none⟩ (.int .u8 z)) := fun z => HFR.out.trans' (by
        have := fr_setCell wr ⟨g, k, none⟩ (.int .u8 z)
        simpa [Value.ownBlock] using this)
      have HFS := Lib.hid hfrs
      have HSET := Lib.hid hset
      have hLen : ∀ z, Hid ((L'.set k z).length = pn) := fun z => Lib.hid (by rw [List.length_set]; exact HLL.out)
      generalize (L'[k]).toNat = z at *
      clear hfrs hset hgb
      by_cases h255 : z = 255
      · subst h255
        go_wp2_with fail
        go_roundw
        case rel => exact ⟨k + 1, L'.set k (UInt8.ofNat (0 : Int).toNat), by omega, by go_num, hLen _, Lib.hid (HSET.out 0 (by omega) (by omega)), Lib.hid (HFS.out 0)⟩
        case measure => simp [intOf]; omega
      · have hz2 : (z : Int) ≤ 254 := by omega
        go_wp2_with fail
        go_roundw
        case rel => exact ⟨k + 1, L'.set k (UInt8.ofNat ((z : Int) + 1).toNat), by omega, by go_num, hLen _, Lib.hid (HSET.out ((z : Int) + 1) (by omega) (by omega)), Lib.hid (HFS.out ((z : Int) + 1))⟩
        case measure => simp [intOf]; omega
    · obtain rfl : k = pn := by omega
      -- what is written lies in the answer's own block alone
      have hown : ∀ g, g ∈ (Value.slice pa k pc).ownBlock.toList → W.heap.size ≤ g := fun g hg => (HRO.out.lt g (by simpa using hg)).1
      have hfr := HFR.out
      have hyne : W2.heap.size ∉ (Value.slice pa k pc).ownBlock.toList := fun hg => by
        have := row_ne ROW0.out HY0.out (by decide) W2.heap.size (by simpa using hg)
        exact this rfl
      have HYW := Lib.hid (hfr.same HY0.out hyne)
      have hsm : W.heap.size ≤ V0.heap.size := Nat.le_trans HS2'.out HB0.out.size
      have hold : ∀ q, q < W.heap.size → wr.heap[q]? = W2.heap[q]? := fun q hq => (hfr.block q (by omega) (fun hg => by have := hown q hg; omega)).trans (HB0.out.block q (by have := HS2'.out; omega))
      have hFO : FAt wr m b y := (Hm2.out.grown HB0.out).fr hfr (fun hg => by have h1 := hown _ hg; have h2 := HMW.out; omega) (fun hg => by have h1 := hown _ hg; have h2 := HMW.out; omega) (fun hg => by have h1 := hown _ hg; have h2 := HMW.out; omega) (fun hg => by have h1 := hown _ hg; have h2 := HMW.out; omega) (fun hg => by have h1 := hown _ hg; have h2 := HMW.out; omega)
      have hRW : wr.heap[w.heap.size + 1 + 1]? = some (.cells #[.int .i64 0, .string ⟨#[]⟩, .int .i64 0, .int .i64 0] 30 (0, 0)) := (hold _ HRW.out).trans R2.out
      have hKM : KF w0 wr m b y := ⟨hFO, HNEW.out, (H2.out.be.trans (HB0.out.mono H2.out.be.size)).trans (hfr.below (fun g hg => by have h1 := hown g hg; have h2 := HWL.out; have h3 := HRW.out; omega) (by have := H2.out.be.size; have := HB0.out.size; omega))⟩
      have hF0 : Fr b.F w wr := (F2.out.trans' (Fr.of_below HB0.out b.F)).trans hfr (fun g hg => .inr (by have h1 := hown g hg; have h2 := HRW.out; omega))
      have hy0 := HYW.out
      have hr0 := hRW
      have hk0 := hKM
      have hlt0 : w.heap.size + 1 + 1 < W2.heap.size := by have := HRW.out; have := HS2'.out; omega
      clear hown hfr hyne hsm hold hFO hRW hKM
      go_wp2_with fail
      refine wp_region_mix (fun W' => W'.heap[W2.heap.size]? = some (.cells #[.int .i64 (y.c : Nat), .string (strB y.S), .int .i64 y.wr, .int .i64 y.rd] 30 (0, 0))) 5 [(true, 0), (true, 1), (true, 2), (true, 3), (false, 4)] (by kernel_rfl) (by kernel_rfl) (fun _ _ _ d _ h => by cases d <;> exact h) ?_
      have HD : Hid (Below wr.heap.size wr wr.drew) := Lib.hid ((Grn.refl wr).drew 1).below
      have HQ : Hid (wr.drew.heap[W2.heap.size]? = some (.cells #[.int .i64 (y.c : Nat), .string (strB y.S), .int .i64 y.wr, .int .i64 y.rd] 30 (0, 0))) := Lib.hid ((HD.out.block _ (lt_of_block hy0)).trans hy0)
      have HT : Hid (wr.drew.heap[w.heap.size + 1 + 1]? = some (.cells #[.int .i64 0, .string ⟨#[]⟩, .int .i64 0, .int .i64 0] 30 (0, 0))) := Lib.hid ((HD.out.block _ (lt_of_block hr0)).trans hr0)
      have HKK := Lib.hid (hk0.grow HD.out)
      have HFK : Hid (Fr b.F w wr.drew) := Lib.hid (hF0.trans' (Fr.of_below HD.out b.F))
      simp only [List.map_cons, List.map_nil, List.getD_cons_zero, List.getD_cons_succ, List.drop_succ_cons, List.drop_zero]
      generalize wr.drew = V at *
      refine mix_move (.tmp 0) (.pointer (some ⟨m, 0, none⟩)) rfl HQ.out rfl rfl ?_
      simp only [Act.put, List.setIfInBounds_toArray, List.set_cons_zero, List.set_cons_succ]
      refine mix_take (.agg #[.int .i64 (y.c : Nat), .string (strB y.S), .int .i64 y.wr, .int .i64 y.rd]) HQ.out rfl (fun W' hS => by
        have l0 := cells_cell (o := 0) hS rfl
        have l1 := cells_cell (o := 1) hS rfl
        have l2 := cells_cell (o := 2) hS rfl
        have l3 := cells_cell (o := 3) hS rfl
        go_simp) ?_
      simp only [Act.put, List.setIfInBounds_toArray, List.set_cons_zero, List.set_cons_succ]
      refine mix_move (.tmp 19) (.bool true) rfl HQ.out rfl rfl ?_
      simp only [Act.put, List.setIfInBounds_toArray, List.set_cons_zero, List.set_cons_succ]
      refine mix_take (.pointer (some ⟨m, 0, none⟩)) HQ.out rfl (fun W' hS => by go_simp) ?_
      simp only [Act.put, List.setIfInBounds_toArray, List.set_cons_zero, List.set_cons_succ]
      refine mix_step rfl (fun K1 hK => ?_)
      have d0 := cells_cell (o := 0) HT.out rfl
      have e0 := cells_free HT.out 0
      have d1 := cells_cell (o := 1) HT.out rfl
      have e1 := cells_free HT.out 1
      have d2 := cells_cell (o := 2) HT.out rfl
      have e2 := cells_free HT.out 2
      have d3 := cells_cell (o := 3) HT.out rfl
      have e3 := cells_free HT.out 3
      have hlt := lt_of_block HT.out
      go_simp
      generalize hWF : World.setCell _ _ _ = WF
      have hff : Fr [w.heap.size + 1 + 1] V WF := by rw [← hWF]; exact four_fr V _ _ _ _ _
      have ht : WF.heap[w.heap.size + 1 + 1]? = some (.cells #[.int .i64 (y.c : Nat), .string (strB y.S), .int .i64 y.wr, .int .i64 y.rd] 30 (0, 0)) := by rw [← hWF]; exact four_cells HT.out _ _ _ _
      have HS2 : Hid (WF.heap[W2.heap.size]? = some (.cells #[.int .i64 (y.c : Nat), .string (strB y.S), .int .i64 y.wr, .int .i64 y.rd] 30 (0, 0))) := Lib.hid (hff.same HQ.out (by simp; omega))
      have HKF : Hid (KF w0 WF m b y) := Lib.hid (by
        have k0 := HKK.out
        exact ⟨k0.at'.box HT.out hff (by decide) (by decide) (by decide) (by decide) (by decide), k0.new, k0.be.trans (hff.below (fun q hq => by simp at hq; subst hq; have := HWL.out; omega) k0.be.size)⟩)
      have HFF : Hid (Fr b.F w WF) := Lib.hid (HFK.out.trans hff (fun q hq => .inr (by simp at hq; omega)))
      clear hWF d0 d1 d2 d3 e0 e1 e2 e3 hlt HT HKK HFK
      refine hK _ _ HS2.out ?_
      clear hK HQ
      refine mix_nil ?_
      clear hy0 hr0 hk0 hF0
      go_wp2_with fail
      refine bodyPost_ret (v := .tuple #[pt m, encR y, .bool true]) (by simp [results, Try.results12, go_sem, encR, cellsR, pt, cells_cell ht (o := 0) rfl, cells_cell ht (o := 1) rfl, cells_cell ht (o := 2) rfl, cells_cell ht (o := 3) rfl]) rfl ⟨m, b, y, rfl, HKF.out, HFF.out⟩
set_option maxRecDepth 100000 in
set_option maxHeartbeats 6400000 in
theorem do_offer {w0 w : World} {m : Nat} {b : Fb} {x : Ft} (h : KF w0 w m b x) {a : Option Addr} {n c : Nat} {Ps : Parts} (hp : SrcV w0 (.slice a n c) (Ps.map encS)) (hs : Ps.flatten.length ≤ 12000) (hk : Ps.length ≤ 30) (v1 v3 : Int) :
    Calls Try.prog 12 #[pt m, encR x, .agg #[.int .i64 0, .int .i64 v1, .slice a n c, .int .i64 v3]] w fun e w' => ∃ m' b' y, e = .returned (.tuple #[pt m', encR y, .bool true]) ∧ KF w0 w' m' b' y ∧ Fr b.F w w' := by
  obtain ⟨W, hW⟩ : ∃ W, W = ((w.alloc (.cells (cellsR x) 30)).alloc (.cells #[.int .i64 0, .int .i64 v1, .slice a n c, .int .i64 v3] 35)).alloc (.cells cells0 30) := ⟨_, rfl⟩
  have b1 := below_alloc w (.cells (cellsR x) 30)
  have b2 := below_alloc (w.alloc (.cells (cellsR x) 30)) (.cells #[.int .i64 0, .int .i64 v1, .slice a n c, .int .i64 v3] 35)
  have b3 := below_alloc ((w.alloc (.cells (cellsR x) 30)).alloc (.cells #[.int .i64 0, .int .i64 v1, .slice a n c, .int .i64 v3] 35)) (.cells cells0 30)
  have hb : Below w.heap.size w W := by rw [hW]; exact b1.trans ((b2.trans (b3.mono (by simp))).mono (by simp))
  have e0 : W.heap[w.heap.size]? = some (.cells (cellsR x) 30 (0, 0)) := by rw [hW]; exact (b3.block _ (by simp; omega)).trans ((b2.block _ (by simp)).trans (heap_alloc_new w _))
  have e1 : W.heap[w.heap.size + 1]? = some (.cells #[.int .i64 0, .int .i64 v1, .slice a n c, .int .i64 v3] 35 (0, 0)) := by rw [hW]; exact (b3.block _ (by simp)).trans (block_new _ _ _ (by simp))
  have e2 : W.heap[w.heap.size + 1 + 1]? = some (.cells cells0 30 (0, 0)) := by rw [hW]; exact block_new _ _ _ (by simp)
  have hkm := h.grow hb
  have H0 := Lib.hid hkm
  have HP := Lib.hid hp
  have X0 := Lib.hid e0
  have A0 := Lib.hid e1
  have R0 := Lib.hid e2
  have HS := Lib.hid hs
  have HN := Lib.hid hk
  have HW := Lib.hid hW.symm
  have HWB := Lib.hid hb
  have F0 : Hid (Fr b.F w W) := Lib.hid (Fr.of_below hb b.F)
  have HOK := Lib.hid h.at'.ok
  have HWL : Hid (w0.heap.size ≤ w.heap.size) := Lib.hid h.be.size
  clear hW b1 b2 b3 hb e0 e1 e2 hkm h hp hs hk
  unfold cells0 cellsR at HW
  unfold encR cellsR pt
  go_enter Try.func12, Try.ntmps12
  have A := A0.out
  have a0 := cells_cell (o := 0) A rfl
  have a2 := cells_cell (o := 2) A rfl
  clear A
  go_wp2_with (go_at_call 19; fail)
  rw [HW.out]
  clear a0 a2
  refine (of_any (HP.out.grown H0.out.be) (by have := HS.out; omega) (by have := HN.out; omega)).mono ?_
  rintro e W1 ⟨u, rfl, hR, hb⟩
  obtain ⟨r1, r2, r3, r4, r5, r6, rfl⟩ := hR.shape
  have HRR := Lib.hid hR
  have H1 := Lib.hid (H0.out.grow hb)
  have X1 := Lib.hid ((hb.block _ (lt_of_block X0.out)).trans X0.out)
  have A1 := Lib.hid ((hb.block _ (lt_of_block A0.out)).trans A0.out)
  have R1 := Lib.hid ((hb.block _ (lt_of_block R0.out)).trans R0.out)
  have F1 := Lib.hid (F0.out.trans' (Fr.of_below hb b.F))
  clear hb H0 X0 A0 R0 hR F0
  go_wp2_with (go_at_call 18; fail)
  refine (flWrite_any H1.out.at' HRR.out).mono ?_
  rintro e W2 ⟨rfl, hm, hf⟩
  have H2 := Lib.hid (H1.out.next hm hf)
  have X2 := Lib.hid (hf.same X1.out (H1.out.at'.not X1.out (by decide) (by decide) (by decide)))
  have A2 := Lib.hid (hf.same A1.out (H1.out.at'.not A1.out (by decide) (by decide) (by decide)))
  have R2 := Lib.hid (hf.same R1.out (H1.out.at'.not R1.out (by decide) (by decide) (by decide)))
  have F2 := Lib.hid (F1.out.trans' hf)
  clear hm hf H1 X1 A1 R1 F1
  rw [full_flat] at H2 ⊢
  have href := Lib.hid (fun V => refWrite_any HOK.out V (L := Ps.flatten) (by have := HS.out; omega))
  generalize hY : wrC x Ps.flatten = Y at *
  obtain ⟨yn, ye, y⟩ := Y
  clear hY
  simp only at *
  unfold encR cellsR at *
  have HP2 : Hid (SrcV W2 (.slice a n c) (Ps.map encS)) := Lib.hid (HP.out.grown H2.out.be)
  go_wp2_with fail
  have HSZ : Hid (Below W2.heap.size W2 W2.drew) := Lib.hid (Below.refl _ _).drew
  have hx2 := X2.out
  have ha2 := A2.out
  refine wp_region_flags (fun W' => Below W2.heap.size W2 W') 11 [(true, 0), (true, 1)] [2, 3, 4, 5, 6, 7, 8, 9, 10] [[], [0], [0, 1], [0, 1, 2], [0, 1, 2], [0, 1, 2], [], [0, 1, 2, 3, 6], [0, 1, 2, 3, 4, 6, 7]]
    (fun bs aa V => ∃ Z43 Z44 Z40 Z45 Z46 Z47 Z11 Z12 : Value, aa = { tmps := #[.pointer (some ⟨m, 0, none⟩), .agg #[.int .i64 (x.c : Nat), .string (strB x.S), .int .i64 x.wr, .int .i64 x.rd], .agg #[.int .i64 0, .int .i64 v1, .slice a n c, .int .i64 v3], undef, .pointer (some ⟨w.heap.size, 0, none⟩), .pointer (some ⟨w.heap.size + 1, 0, none⟩), .pointer none, .pointer (some ⟨w.heap.size + 1 + 1, 0, none⟩), .bool false, .int .i64 (yn : Nat), .int .i64 ye, Z11, Z12, undef, undef, undef, undef, undef, undef, undef, undef, undef, undef, undef, undef, undef, undef, undef, .pointer (some ⟨w.heap.size + 1, 0, none⟩), .int .i64 0, .bool true, .bool true, .tuple #[.int .i64 (yn : Nat), .int .i64 ye], .pointer (some ⟨m, 0, none⟩), .pointer (some ⟨w.heap.size + 1, 2, none⟩), .slice a n c, .agg #[.slice r1 r2 r3, .slice r4 r5 r6], .tuple #[.int .i64 (yn : Nat), .int .i64 ye], .int .i64 (yn : Nat), .int .i64 ye, Z40, .agg #[.int .i64 (x.c : Nat), .string (strB x.S), .int .i64 x.wr, .int .i64 x.rd], .agg #[.int .i64 0, .int .i64 v1, .slice a n c, .int .i64 v3], Z43, Z44, Z45, Z46, Z47, undef, undef, undef, undef, undef, undef, undef, undef, undef, undef, undef, undef, undef, undef, undef, undef, undef, undef, undef, undef, undef, undef, undef, undef, undef, undef, undef, undef, undef, undef, undef, undef, undef, undef, undef, undef, undef, undef, undef, undef, undef, undef, undef, undef, undef, undef, undef, undef, undef, undef, undef, undef, undef, undef, undef, undef, undef, undef, undef, undef, undef, undef, undef, undef, undef, undef, undef, undef, undef, undef, undef, undef, undef, undef, undef, undef, undef, undef, undef, undef, undef, undef, undef, undef, undef, undef, undef, undef, undef, undef, undef, undef, undef, undef, undef, undef, undef, undef, undef, undef, undef, undef, undef], defers := [] } ∧ Below W2.heap.size W2 V ∧
      (bs.getD 0 false = true → Z43 = .string (strB Ps.flatten)) ∧ (bs.getD 1 false = true → Z44 = .tuple #[.agg #[.int .i64 (y.c : Nat), .string (strB y.S), .int .i64 y.wr, .int .i64 y.rd], .int .i64 (yn : Nat), .int .i64 ye]) ∧ (bs.getD 2 false = true → Z40 = .tuple #[.agg #[.int .i64 (y.c : Nat), .string (strB y.S), .int .i64 y.wr, .int .i64 y.rd], .int .i64 (yn : Nat), .int .i64 ye]) ∧
      (bs.getD 3 false = true → Z45 = .agg #[.int .i64 (y.c : Nat), .string (strB y.S), .int .i64 y.wr, .int .i64 y.rd]) ∧ (bs.getD 4 false = true → Z46 = .int .i64 (yn : Nat)) ∧ (bs.getD 5 false = true → Z47 = .int .i64 ye) ∧
      (bs.getD 6 false = true → ∃ k, Z11 = .pointer (some ⟨k, 0, none⟩) ∧ W2.heap.size ≤ k ∧ V.heap[k]? = some (.cells (if bs.getD 7 false = true then #[.int .i64 (y.c : Nat), .string (strB y.S), .int .i64 y.wr, .int .i64 y.rd] else cells0) 30 (0, 0))) ∧ (bs.getD 8 false = true → Z12 = .int .i64 (yn : Nat)))
    (by kernel_rfl) (by kernel_rfl) (by kernel_rfl) (by kernel_rfl) (by kernel_rfl) (fun _ _ _ d _ h => by cases d <;> exact h) ?hstep ?hend ?hbegin
  case hbegin =>
    simp only [List.map_cons, List.map_nil, List.getD_cons_zero, List.getD_cons_succ, List.drop_succ_cons, List.drop_zero]
    refine mix_take (.agg #[.int .i64 (x.c : Nat), .string (strB x.S), .int .i64 x.wr, .int .i64 x.rd]) HSZ.out rfl (fun W' hS => by
      have e1 := (hS.block _ (lt_of_block hx2)).trans hx2
      have l0 := cells_cell (o := 0) e1 rfl
      have l1 := cells_cell (o := 1) e1 rfl
      have l2 := cells_cell (o := 2) e1 rfl
      have l3 := cells_cell (o := 3) e1 rfl
      go_simp) ?_
    simp only [Act.put, List.setIfInBounds_toArray, List.set_cons_zero, List.set_cons_succ]
    refine mix_take (.agg #[.int .i64 0, .int .i64 v1, .slice a n c, .int .i64 v3]) HSZ.out rfl (fun W' hS => by
      have e1 := (hS.block _ (lt_of_block ha2)).trans ha2
      have l0 := cells_cell (o := 0) e1 rfl
      have l1 := cells_cell (o := 1) e1 rfl
      have l2 := cells_cell (o := 2) e1 rfl
      have l3 := cells_cell (o := 3) e1 rfl
      go_simp) ?_
    simp only [Act.put, List.setIfInBounds_toArray, List.set_cons_zero, List.set_cons_succ]
    refine mix_nil ?_
    exact ⟨undef, undef, undef, undef, undef, undef, undef, undef, rfl, HSZ.out, (fun h => by cases h), (fun h => by cases h), (fun h => by cases h), (fun h => by cases h), (fun h => by cases h), (fun h => by cases h), (fun h => by cases h), (fun h => by cases h)⟩
  case hstep =>
    intro bs j a' V hbs hcl hj hpre hJ
    obtain ⟨Z43, Z44, Z40, Z45, Z46, Z47, Z11, Z12, rfl, hb, h0, h1, h2, h3, h4, h5, h6, h8⟩ := hJ
    obtain ⟨b0, b1, b2, b3, b4, b5, b6, b7, b8, rfl⟩ : ∃ b0 b1 b2 b3 b4 b5 b6 b7 b8, bs = [b0, b1, b2, b3, b4, b5, b6, b7, b8] := by
      match bs, hbs with
      | [b0, b1, b2, b3, b4, b5, b6, b7, b8], _ => exact ⟨b0, b1, b2, b3, b4, b5, b6, b7, b8, rfl⟩
    simp only [List.getD_cons_zero, List.getD_cons_succ] at h0 h1 h2 h3 h4 h5 h6 h8
    have hcl2 : b7 = true → b6 = true := by
      revert hcl; cases b0 <;> cases b1 <;> cases b2 <;> cases b3 <;> cases b4 <;> cases b5 <;> cases b6 <;> cases b7 <;> cases b8 <;> decide
    clear hcl hbs
    have keep6 : ∀ V', Below V.heap.size V V' → (b6 = true → ∃ k, Z11 = .pointer (some ⟨k, 0, none⟩) ∧ W2.heap.size ≤ k ∧ V'.heap[k]? = some (.cells (if b7 = true then #[.int .i64 (y.c : Nat), .string (strB y.S), .int .i64 y.wr, .int .i64 y.rd] else cells0) 30 (0, 0))) := fun V' hb' h => by
      obtain ⟨k, e, hk, hk2⟩ := h6 h
      exact ⟨k, e, hk, (hb'.block _ (lt_of_block hk2)).trans hk2⟩
    match j, hj with
    | 0, hj =>
      simp at hj
      subst hj
      refine op_step rfl rfl (fun K hK => ?_)
      go_simp
      go_wp2_with (go_at_call 17; fail)
      refine (text_any (HP2.out.grown hb) (by have := HS.out; omega) (by have := HN.out; omega)).mono ?_
      rintro e w3 ⟨rfl, hb3⟩
      refine hK _ _ ⟨(hb.trans (hb3.mono hb.size)), _, Z44, Z40, Z45, Z46, Z47, Z11, Z12, rfl, (hb.trans (hb3.mono hb.size)), (fun _ => rfl), (fun h => h1 h), (fun h => h2 h), (fun h => h3 h), (fun h => h4 h), (fun h => h5 h), (fun h => keep6 w3 hb3 h), (fun h => h8 h)⟩
    | 1, hj =>
      simp at hj
      subst hj
      have hb0 : b0 = true := by simpa using hpre
      obtain rfl := h0 hb0
      refine op_step rfl rfl (fun K hK => ?_)
      go_simp
      go_wp2_with (go_at_call 27; fail)
      refine (href.out V).mono ?_
      rintro e w3 ⟨rfl, hb3⟩
      refine hK _ _ ⟨(hb.trans (hb3.mono hb.size)), _, _, Z40, Z45, Z46, Z47, Z11, Z12, rfl, (hb.trans (hb3.mono hb.size)), (fun _ => rfl), (fun _ => rfl), (fun h => h2 h), (fun h => h3 h), (fun h => h4 h), (fun h => h5 h), (fun h => keep6 w3 hb3 h), (fun h => h8 h)⟩
    | 2, hj =>
      simp at hj
      subst hj
      have hb0 : b0 = true ∧ b1 = true := by simpa using hpre
      obtain rfl := h0 hb0.1
      obtain rfl := h1 hb0.2
      refine op_step rfl rfl (fun K hK => ?_)
      go_simp
      refine hK _ _ ⟨hb, _, _, _, Z45, Z46, Z47, Z11, Z12, rfl, hb, (fun _ => rfl), (fun _ => rfl), (fun _ => rfl), (fun h => h3 h), (fun h => h4 h), (fun h => h5 h), (fun h => h6 h), (fun h => h8 h)⟩
    | 3, hj =>
      simp at hj
      subst hj
      have hb0 : b0 = true ∧ b1 = true ∧ b2 = true := by simpa using hpre
      obtain rfl := h0 hb0.1
      obtain rfl := h1 hb0.2.1
      obtain rfl := h2 hb0.2.2
      refine op_step rfl rfl (fun K hK => ?_)
      go_simp
      refine hK _ _ ⟨hb, _, _, _, _, Z46, Z47, Z11, Z12, rfl, hb, (fun _ => rfl), (fun _ => rfl), (fun _ => rfl), (fun _ => rfl), (fun h => h4 h), (fun h => h5 h), (fun h => h6 h), (fun h => h8 h)⟩
    | 4, hj =>
      simp at hj
      subst hj
      have hb0 : b0 = true ∧ b1 = true ∧ b2 = true := by simpa using hpre
      obtain rfl := h0 hb0.1
      obtain rfl := h1 hb0.2.1
      obtain rfl := h2 hb0.2.2
      refine op_step rfl rfl (fun K hK => ?_)
      go_simp
      refine hK _ _ ⟨hb, _, _, _, Z45, _, Z47, Z11, Z12, rfl, hb, (fun _ => rfl), (fun _ => rfl), (fun _ => rfl), (fun h => h3 h), (fun _ => rfl), (fun h => h5 h), (fun h => h6 h), (fun h => h8 h)⟩
    | 5, hj =>
      simp at hj
      subst hj
      have hb0 : b0 = true ∧ b1 = true ∧ b2 = true := by simpa using hpre
      obtain rfl := h0 hb0.1
      obtain rfl := h1 hb0.2.1
      obtain rfl := h2 hb0.2.2
      refine op_step rfl rfl (fun K hK => ?_)
      go_simp
      refine hK _ _ ⟨hb, _, _, _, Z45, Z46, _, Z11, Z12, rfl, hb, (fun _ => rfl), (fun _ => rfl), (fun _ => rfl), (fun h => h3 h), (fun h => h4 h), (fun _ => rfl), (fun h => h6 h), (fun h => h8 h)⟩
    | 6, hj =>
      simp at hj
      subst hj
      refine op_step rfl rfl (fun K hK => ?_)
      go_simp
      have hb3 := below_alloc V (.cells cells0 30)
      refine hK _ _ ⟨hb.trans (hb3.mono hb.size), Z43, Z44, Z40, Z45, Z46, Z47, _, Z12, rfl, hb.trans (hb3.mono hb.size), (fun h => h0 h), (fun h => h1 h), (fun h => h2 h), (fun h => h3 h), (fun h => h4 h), (fun h => h5 h), (fun _ => ⟨_, rfl, hb.size, by
        have e6 : b7 = false := by
          cases h7 : b7 with
          | false => rfl
          | true => have := hcl2 h7; simp at this
        rw [e6]
        exact heap_alloc_new _ _⟩), (fun h => h8 h)⟩
    | 7, hj =>
      simp at hj
      subst hj
      have hb0 : b0 = true ∧ b1 = true ∧ b2 = true ∧ b3 = true ∧ b6 = true := by simpa using hpre
      obtain rfl := h0 hb0.1
      obtain rfl := h1 hb0.2.1
      obtain rfl := h2 hb0.2.2.1
      obtain rfl := h3 hb0.2.2.2.1
      obtain ⟨k, rfl, hk, hk2⟩ := h6 hb0.2.2.2.2
      rw [if_neg (by simp)] at hk2
      unfold cells0 at hk2
      have f0 := cells_cell (o := 0) hk2 rfl
      have z0 := cells_free hk2 0
      have f1 := cells_cell (o := 1) hk2 rfl
      have z1 := cells_free hk2 1
      have f2 := cells_cell (o := 2) hk2 rfl
      have z2 := cells_free hk2 2
      have f3 := cells_cell (o := 3) hk2 rfl
      have z3 := cells_free hk2 3
      have hkl := lt_of_block hk2
      refine op_step rfl rfl (fun K hK => ?_)
      go_simp
      generalize hV0 : World.setCell _ _ _ = V0
      have hff : Fr [k] V V0 := by rw [← hV0]; exact four_fr V _ _ _ _ _
      have hy0 : V0.heap[k]? = some (.cells #[.int .i64 (y.c : Nat), .string (strB y.S), .int .i64 y.wr, .int .i64 y.rd] 30 (0, 0)) := by rw [← hV0]; exact four_cells hk2 _ _ _ _
      have hb3 : Below W2.heap.size V V0 := hff.below (fun q hq => by simp at hq; omega) hb.size
      refine hK _ _ ⟨hb.trans hb3, _, _, _, _, Z46, Z47, _, Z12, rfl, hb.trans hb3, (fun _ => rfl), (fun _ => rfl), (fun _ => rfl), (fun _ => rfl), (fun h => h4 h), (fun h => h5 h), (fun _ => ⟨k, rfl, hk, by simpa using hy0⟩), (fun h => h8 h)⟩
    | 8, hj =>
      simp at hj
      subst hj
      have hb0 : b0 = true ∧ b1 = true ∧ b2 = true ∧ b3 = true ∧ b4 = true ∧ b6 = true ∧ b7 = true := by simpa using hpre
      obtain rfl := h0 hb0.1
      obtain rfl := h1 hb0.2.1
      obtain rfl := h2 hb0.2.2.1
      obtain rfl := h3 hb0.2.2.2.1
      obtain rfl := h4 hb0.2.2.2.2.1
      obtain ⟨k, rfl, hk, hk2⟩ := h6 hb0.2.2.2.2.2.1
      refine op_step rfl rfl (fun K hK => ?_)
      go_simp
      refine hK _ _ ⟨hb, _, _, _, _, _, Z47, _, _, rfl, hb, (fun _ => rfl), (fun _ => rfl), (fun _ => rfl), (fun _ => rfl), (fun _ => rfl), (fun h => h5 h), (fun _ => ⟨k, rfl, hk, by simpa using hk2⟩), (fun _ => rfl)⟩
    | j + 9, hj => simp at hj
  case hend =>
    intro a' V hJ
    obtain ⟨Z43, Z44, Z40, Z45, Z46, Z47, Z11, Z12, rfl, hb, h0, h1, h2, h3, h4, h5, h6, h8⟩ := hJ
    obtain rfl := h0 rfl
    obtain rfl := h1 rfl
    obtain rfl := h2 rfl
    obtain rfl := h3 rfl
    obtain rfl := h4 rfl
    obtain rfl := h5 rfl
    obtain ⟨k, rfl, hk, hk2⟩ := h6 rfl
    obtain rfl := h8 rfl
    clear h0 h1 h2 h3 h4 h5 h6 h8 hx2 ha2
    have hy0 : V.heap[k]? = some (.cells #[.int .i64 (y.c : Nat), .string (strB y.S), .int .i64 y.wr, .int .i64 y.rd] 30 (0, 0)) := by simpa using hk2
    have H3 := Lib.hid (H2.out.grow hb)
    have R3 := Lib.hid ((hb.block _ (lt_of_block R2.out)).trans R2.out)
    have HLR : Hid (w.heap.size + 1 + 1 < W2.heap.size) := Lib.hid (lt_of_block R2.out)
    have F3 := Lib.hid (F2.out.trans' (Fr.of_below hb b.F))
    have HKL := Lib.hid hk
    have HYY := Lib.hid hy0
    clear hk2 hb hk hy0
    simp only [List.drop_succ_cons, List.drop_zero]
    go_wp2_with fail
    have hy0 := HYY.out
    unfold cells0 at R3
    have hr0 := R3.out
    have hk0 := H3.out
    have hF0 := F3.out
    have hlt0 : w.heap.size + 1 + 1 < k := by have := HKL.out; have := HLR.out; omega
    refine wp_region_mix (fun W' => W'.heap[k]? = some (.cells #[.int .i64 (y.c : Nat), .string (strB y.S), .int .i64 y.wr, .int .i64 y.rd] 30 (0, 0))) 12 [(true, 0), (true, 1), (true, 2), (true, 3), (true, 4), (true, 5), (true, 6), (true, 7), (true, 8), (true, 9), (true, 10), (false, 11)] (by kernel_rfl) (by kernel_rfl) (fun _ _ _ d _ h => by cases d <;> exact h) ?_
    have HD : Hid (Below V.heap.size V V.drew) := Lib.hid ((Grn.refl V).drew 1).below
    have HQ : Hid (V.drew.heap[k]? = some (.cells #[.int .i64 (y.c : Nat), .string (strB y.S), .int .i64 y.wr, .int .i64 y.rd] 30 (0, 0))) := Lib.hid ((HD.out.block _ (lt_of_block hy0)).trans hy0)
    have HT : Hid (V.drew.heap[w.heap.size + 1 + 1]? = some (.cells #[.int .i64 0, .string ⟨#[]⟩, .int .i64 0, .int .i64 0] 30 (0, 0))) := Lib.hid ((HD.out.block _ (lt_of_block hr0)).trans hr0)
    have HKK := Lib.hid (hk0.grow HD.out)
    have HFK : Hid (Fr b.F w V.drew) := Lib.hid (hF0.trans' (Fr.of_below HD.out b.F))
    simp only [List.map_cons, List.map_nil, List.getD_cons_zero, List.getD_cons_succ, List.drop_succ_cons, List.drop_zero]
    generalize V.drew = V8 at *
    refine mix_move (.tmp 0) (.pointer (some ⟨m, 0, none⟩)) rfl HQ.out rfl rfl ?_
    simp only [Act.put, List.setIfInBounds_toArray, List.set_cons_zero, List.set_cons_succ]
    refine mix_take (.agg #[.int .i64 (y.c : Nat), .string (strB y.S), .int .i64 y.wr, .int .i64 y.rd]) HQ.out rfl (fun W' hS => by
      have l0 := cells_cell (o := 0) hS rfl
      have l1 := cells_cell (o := 1) hS rfl
      have l2 := cells_cell (o := 2) hS rfl
      have l3 := cells_cell (o := 3) hS rfl
      go_simp) ?_
    simp only [Act.put, List.setIfInBounds_toArray, List.set_cons_zero, List.set_cons_succ]
    refine mix_move (.tmp 9) (.int .i64 (yn : Nat)) rfl HQ.out rfl rfl ?_
    simp only [Act.put, List.setIfInBounds_toArray, List.set_cons_zero, List.set_cons_succ]
    refine mix_move (.tmp 12) (.int .i64 (yn : Nat)) rfl HQ.out rfl rfl ?_
    simp only [Act.put, List.setIfInBounds_toArray, List.set_cons_zero, List.set_cons_succ]
    refine mix_take (.bool true) HQ.out rfl (fun W' hS => by go_simp) ?_
    simp only [Act.put, List.setIfInBounds_toArray, List.set_cons_zero, List.set_cons_succ]
    refine mix_move (.tmp 52) (.bool true) rfl HQ.out rfl rfl ?_
    simp only [Act.put, List.setIfInBounds_toArray, List.set_cons_zero, List.set_cons_succ]
    refine mix_move (.tmp 10) (.int .i64 ye) rfl HQ.out rfl rfl ?_
    simp only [Act.put, List.setIfInBounds_toArray, List.set_cons_zero, List.set_cons_succ]
    refine mix_move (.tmp 13) (.int .i64 ye) rfl HQ.out rfl rfl ?_
    simp only [Act.put, List.setIfInBounds_toArray, List.set_cons_zero, List.set_cons_succ]
    refine mix_take (.bool true) HQ.out rfl (fun W' hS => by go_simp) ?_
    simp only [Act.put, List.setIfInBounds_toArray, List.set_cons_zero, List.set_cons_succ]
    refine mix_take (.bool true) HQ.out rfl (fun W' hS => by go_simp) ?_
    simp only [Act.put, List.setIfInBounds_toArray, List.set_cons_zero, List.set_cons_succ]
    refine mix_take (.pointer (some ⟨m, 0, none⟩)) HQ.out rfl (fun W' hS => by go_simp) ?_
    simp only [Act.put, List.setIfInBounds_toArray, List.set_cons_zero, List.set_cons_succ]
    refine mix_step rfl (fun K1 hK => ?_)
    have d0 := cells_cell (o := 0) HT.out rfl
    have e0 := cells_free HT.out 0
    have d1 := cells_cell (o := 1) HT.out rfl
    have e1 := cells_free HT.out 1
    have d2 := cells_cell (o := 2) HT.out rfl
    have e2 := cells_free HT.out 2
    have d3 := cells_cell (o := 3) HT.out rfl
    have e3 := cells_free HT.out 3
    have hlt := lt_of_block HT.out
    go_simp
    generalize hWF : World.setCell _ _ _ = WF
    have hff : Fr [w.heap.size + 1 + 1] V8 WF := by rw [← hWF]; exact four_fr V8 _ _ _ _ _
    have ht : WF.heap[w.heap.size + 1 + 1]? = some (.cells #[.int .i64 (y.c : Nat), .string (strB y.S), .int .i64 y.wr, .int .i64 y.rd] 30 (0, 0)) := by rw [← hWF]; exact four_cells HT.out _ _ _ _
    have HS2 : Hid (WF.heap[k]? = some (.cells #[.int .i64 (y.c : Nat), .string (strB y.S), .int .i64 y.wr, .int .i64 y.rd] 30 (0, 0))) := Lib.hid (hff.same HQ.out (by simp; omega))
    have HKF : Hid (KF w0 WF m b y) := Lib.hid (by
      have k0 := HKK.out
      exact ⟨k0.at'.box HT.out hff (by decide) (by decide) (by decide) (by decide) (by decide), k0.new, k0.be.trans (hff.below (fun q hq => by simp at hq; subst hq; have := HWL.out; omega) k0.be.size)⟩)
    have HFF : Hid (Fr b.F w WF) := Lib.hid (HFK.out.trans hff (fun q hq => .inr (by simp at hq; omega)))
    clear hWF d0 d1 d2 d3 e0 e1 e2 e3 hlt HT HKK HFK
    refine hK _ _ HS2.out ?_
    clear hK HQ
    refine mix_nil ?_
    clear hy0 hr0 hk0 hF0
    go_wp2_with fail
    refine bodyPost_ret (v := .tuple #[pt m, encR y, .bool true]) (by simp [results, Try.results12, go_sem, encR, cellsR, pt, cells_cell ht (o := 0) rfl, cells_cell ht (o := 1) rfl, cells_cell ht (o := 2) rfl, cells_cell ht (o := 3) rfl]) rfl ⟨m, b, y, rfl, HKF.out, HFF.out⟩
end Go.Proofs.Ytaallpbcgabdnaa
