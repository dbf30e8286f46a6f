/- The reference: Set, Close. -/
import Derived.Test.YtbefiilbpbbjnaaERefB
import Derived.StillTailTactics
import Derived.Deep.DeepCutAuto
namespace Go.Proofs.Ytbefiilbpbbjnaa
open Go.RowKit Go.Sort
set_option linter.unusedVariables false
set_option linter.unusedSimpArgs false

set_option maxRecDepth 100000 in
set_option maxHeartbeats 3200000 in
theorem refSet_no {w : World} {v : Value} {m : Nat} {L : Fds} {N k : Int} (x : Int) (h : Src TF w v L) (hl : L.length ≤ 1000)
    (hh : (∃ A B n G v, N = ((n : Nat) : Int) ∧ k ≠ ((G : Nat) : Int) ∧ L = A ++ ⟨n, G, v, false⟩ :: B ∧ clo n A) ∨ (∀ f ∈ L, ((f.n : Nat) : Int) = N → f.c = true)) :
    Calls Try.prog 29 #[rt m v, .agg #[.int .i64 N, .int .i64 k], .int .i64 x] w fun e w' => e = .returned (.tuple #[rt m v, .int .i64 9]) ∧ Grn w w' := by
  obtain ⟨a, c, rfl, _, _⟩ := h.form
  obtain ⟨W, hW⟩ : ∃ W, ((w.alloc (.cells #[.int .i64 ((m : Nat) : Int), .slice a L.length c] 30)).alloc (.cells #[.int .i64 N, .int .i64 k] 34)).alloc (.cells #[.int .i64 0, .slice none 0 0] 30) = W := ⟨_, rfl⟩
  have hgW : Grn w W := by rw [← hW]; exact (((Grn.refl w).alloc _).alloc _).alloc _
  have HB0 : Hid (W.heap[w.heap.size]? = some (.cells #[.int .i64 ((m : Nat) : Int), .slice a L.length c] 30 (0, 0))) := Lib.hid (by rw [← hW]; exact (((Grn.refl _).alloc _).alloc _).below.block _ (by simp) |>.trans (block_new _ _ _ rfl))
  have HB2 : Hid (W.heap[w.heap.size + 2]? = some (.cells #[.int .i64 0, .slice none 0 0] 30 (0, 0))) := Lib.hid (by rw [← hW]; exact block_new _ _ _ (by simp))
  have HF := Lib.hid (refFind_none (m := m) (P := []) (h.grown hgW.below) hl hh)
  have HG := Lib.hid hgW
  have HW := Lib.hid hW
  clear h hh hW hgW
  generalize L.length = M at *
  unfold rt at *
  go_enter Try.func29, Try.ntmps29
  go_wp2_with (go_at_call 41; fail)
  rw [HW.out]
  clear HW
  refine HF.out.mono ?_
  rintro e w2 ⟨rfl, hg2⟩
  have k0 := (hg2.below.block w.heap.size (lt_of_block HB0.out)).trans HB0.out
  have k2 := (hg2.below.block (w.heap.size + 2) (lt_of_block HB2.out)).trans HB2.out
  have e0 := cells_cell (o := 0) k0 rfl
  have e1 : w2.cell? ⟨w.heap.size, 1, none⟩ = some (.slice a M c) := cells_cell k0 rfl
  have e4 := lt_of_block k0
  have y0 := cells_cell (o := 0) k2 rfl
  have y1 := cells_cell (o := 1) k2 rfl
  have z0 := cells_free k2 0
  have z1 := cells_free k2 1
  have hxl := lt_of_block k2
  have hput := cells_set (cells_set k2 0 (.int .i64 ((m : Nat) : Int))) 1 (.slice a M c)
  have p0 := cells_cell (o := 0) hput rfl
  have p1 := cells_cell (o := 1) hput rfl
  have HG2 := Lib.hid (HG.out.trans hg2)
  clear hg2 HG HF k0 k2 hput
  go_wp2_with fail
  refine bodyPost_ret (v := .tuple #[.agg #[.int .i64 ((m : Nat) : Int), .slice a M c], .int .i64 9]) (by simp [results, Try.results29, go_sem, p0, p1]) rfl ⟨rfl, ?_⟩
  exact (HG2.out.set _ _ (by simp; omega)).set _ _ (by simp; omega)
set_option maxRecDepth 100000 in
set_option maxHeartbeats 3200000 in
theorem refClose_no {w : World} {v : Value} {m : Nat} {L : Fds} {N k : Int} (h : Src TF w v L) (hl : L.length ≤ 1000)
    (hh : (∃ A B n G v, N = ((n : Nat) : Int) ∧ k ≠ ((G : Nat) : Int) ∧ L = A ++ ⟨n, G, v, false⟩ :: B ∧ clo n A) ∨ (∀ f ∈ L, ((f.n : Nat) : Int) = N → f.c = true)) :
    Calls Try.prog 27 #[rt m v, .agg #[.int .i64 N, .int .i64 k]] w fun e w' => e = .returned (.tuple #[rt m v, .int .i64 0, .int .i64 9]) ∧ Grn w w' := by
  obtain ⟨a, c, rfl, _, _⟩ := h.form
  obtain ⟨W, hW⟩ : ∃ W, ((w.alloc (.cells #[.int .i64 ((m : Nat) : Int), .slice a L.length c] 30)).alloc (.cells #[.int .i64 N, .int .i64 k] 34)).alloc (.cells #[.int .i64 0, .slice none 0 0] 30) = W := ⟨_, rfl⟩
  have hgW : Grn w W := by rw [← hW]; exact (((Grn.refl w).alloc _).alloc _).alloc _
  have HB0 : Hid (W.heap[w.heap.size]? = some (.cells #[.int .i64 ((m : Nat) : Int), .slice a L.length c] 30 (0, 0))) := Lib.hid (by rw [← hW]; exact (((Grn.refl _).alloc _).alloc _).below.block _ (by simp) |>.trans (block_new _ _ _ rfl))
  have HB2 : Hid (W.heap[w.heap.size + 2]? = some (.cells #[.int .i64 0, .slice none 0 0] 30 (0, 0))) := Lib.hid (by rw [← hW]; exact block_new _ _ _ (by simp))
  have HF := Lib.hid (refFind_none (m := m) (P := []) (h.grown hgW.below) hl hh)
  have HG := Lib.hid hgW
  have HW := Lib.hid hW
  clear h hh hW hgW
  generalize L.length = M at *
  unfold rt at *
  go_enter Try.func27, Try.ntmps27
  go_wp2_with (go_at_call 41; fail)
  rw [HW.out]
  clear HW
  refine HF.out.mono ?_
  rintro e w2 ⟨rfl, hg2⟩
  have k0 := (hg2.below.block w.heap.size (lt_of_block HB0.out)).trans HB0.out
  have k2 := (hg2.below.block (w.heap.size + 2) (lt_of_block HB2.out)).trans HB2.out
  have e0 := cells_cell (o := 0) k0 rfl
  have e1 : w2.cell? ⟨w.heap.size, 1, none⟩ = some (.slice a M c) := cells_cell k0 rfl
  have e4 := lt_of_block k0
  have y0 := cells_cell (o := 0) k2 rfl
  have y1 := cells_cell (o := 1) k2 rfl
  have z0 := cells_free k2 0
  have z1 := cells_free k2 1
  have hxl := lt_of_block k2
  have hput := cells_set (cells_set k2 0 (.int .i64 ((m : Nat) : Int))) 1 (.slice a M c)
  have p0 := cells_cell (o := 0) hput rfl
  have p1 := cells_cell (o := 1) hput rfl
  have HG2 := Lib.hid (HG.out.trans hg2)
  clear hg2 HG HF k0 k2 hput
  go_wp2_with fail
  refine bodyPost_ret (v := .tuple #[.agg #[.int .i64 ((m : Nat) : Int), .slice a M c], .int .i64 0, .int .i64 9]) (by simp [results, Try.results27, go_sem, p0, p1]) rfl ⟨rfl, ?_⟩
  exact (HG2.out.set _ _ (by simp; omega)).set _ _ (by simp; omega)

set_option maxRecDepth 100000 in
set_option maxHeartbeats 6400000 in
theorem refSet_yes {w : World} {v : Value} {m n G : Nat} {x : Int} {A B : Fds} (y : Int) (h : Src TF w v (A ++ ⟨n, G, x, false⟩ :: B)) (hl : (A ++ (⟨n, G, x, false⟩ : Fd) :: B).length ≤ 1000) (hA : clo n A) :
    Calls Try.prog 29 #[rt m v, .agg #[.int .i64 ((n : Nat) : Int), .int .i64 ((G : Nat) : Int)], .int .i64 y] w fun e w' => ∃ v', e = .returned (.tuple #[rt m v', .int .i64 0]) ∧ Row TF w' w.heap.size v' (A ++ ⟨n, G, y, false⟩ :: B) ∧ Below w.heap.size w w' := by
  obtain ⟨a, c, rfl, _, _⟩ := h.form
  obtain ⟨gs, offs, cs, hvs0, hgs0, _⟩ := h.at (mid_at A B (⟨n, G, x, false⟩ : Fd))
  have HSRC0 : Hid (gs < w.heap.size) := Lib.hid hgs0
  simp only [Value.slice.injEq] at hvs0
  obtain ⟨rfl, -, -⟩ := hvs0
  clear hgs0
  obtain ⟨W, hW⟩ : ∃ W, ((w.alloc (.cells #[.int .i64 ((m : Nat) : Int), .slice (some ⟨gs, offs, none⟩) (A ++ (⟨n, G, x, false⟩ : Fd) :: B).length c] 30)).alloc (.cells #[.int .i64 ((n : Nat) : Int), .int .i64 ((G : Nat) : Int)] 34)).alloc (.cells #[.int .i64 0, .slice none 0 0] 30) = W := ⟨_, rfl⟩
  have hgW : Grn w W := by rw [← hW]; exact (((Grn.refl w).alloc _).alloc _).alloc _
  have HWS : Hid (W.heap.size = w.heap.size + 3) := Lib.hid (by rw [← hW]; simp)
  have HB0 : Hid (W.heap[w.heap.size]? = some (.cells #[.int .i64 ((m : Nat) : Int), .slice (some ⟨gs, offs, none⟩) (A ++ (⟨n, G, x, false⟩ : Fd) :: B).length c] 30 (0, 0))) := Lib.hid (by rw [← hW]; exact (((Grn.refl _).alloc _).alloc _).below.block _ (by simp) |>.trans (block_new _ _ _ rfl))
  have HB2 : Hid (W.heap[w.heap.size + 2]? = some (.cells #[.int .i64 0, .slice none 0 0] 30 (0, 0))) := Lib.hid (by rw [← hW]; exact block_new _ _ _ (by simp))
  have HS := Lib.hid (h.grown hgW.below)
  have HF := Lib.hid (refFind_hit (m := m) (f := ⟨n, G, x, false⟩) HS.out hl hA rfl _ (.inl ⟨rfl, rfl⟩))
  have HG := Lib.hid hgW
  have HW := Lib.hid hW
  obtain ⟨N, hN⟩ : ∃ N, N = (A ++ (⟨n, G, x, false⟩ : Fd) :: B).length := ⟨_, rfl⟩
  obtain ⟨i, hi⟩ : ∃ i, i = A.length := ⟨_, rfl⟩
  have HLN : Hid (i < N) := Lib.hid (by rw [hN, hi]; simp)
  rw [← hN] at hl HB0 HW HS ⊢
  rw [← hN, ← hi] at HF
  have HN := Lib.hid (And.intro hN hi)
  clear h hA hW hgW hN hi
  simp only at HF
  have i1 : (0 : Int) ≤ (i : Int) := by omega
  have i2 : (i : Int) < (N : Int) := by have := HLN.out; omega
  have i3 : (N : Int) ≤ 1000 := by omega
  have i4 : decide ((i : Int) < 0) = false := by simp
  have HCP : Hid (∀ w2, Grn W w2 → Calls Try.prog 40 #[rt m (.slice (some ⟨gs, offs, none⟩) N c)] w2 fun e w' => ∃ v', e = .returned (rt m v') ∧ Row TF w' w2.heap.size v' (A ++ ⟨n, G, x, false⟩ :: B) ∧ Below w2.heap.size w2 w') := Lib.hid (fun w2 hg => refCopy_any (HS.out.grown hg.below) (by rw [← HN.out.1]; exact hl))
  obtain ⟨gs', offs', cs', hvs, hgls, hcs⟩ := HS.out.at (mid_at A B (⟨n, G, x, false⟩ : Fd))
  rw [← HN.out.1] at hvs
  simp only [Value.slice.injEq, Option.some.injEq, Addr.mk.injEq] at hvs
  obtain ⟨⟨rfl, rfl, -⟩, -, -⟩ := hvs
  rw [← HN.out.2] at hcs
  have hs2 : W.cell? ⟨gs, offs + i * 4 + 2, none⟩ = some (.int .i64 x) := hcs 2 _ rfl
  have HSC := Lib.hid (And.intro hs2 hgls)
  clear hcs hs2 hgls
  unfold rt at *
  go_enter Try.func29, Try.ntmps29
  go_wp2_with (go_at_call 41; fail)
  rw [HW.out]
  clear HW
  refine HF.out.mono ?_
  rintro e w2 ⟨rfl, hg2⟩
  have k0 := (hg2.below.block w.heap.size (lt_of_block HB0.out)).trans HB0.out
  have e0 := cells_cell (o := 0) k0 rfl
  have e1 : w2.cell? ⟨w.heap.size, 1, none⟩ = some (.slice (some ⟨gs, offs, none⟩) N c) := cells_cell k0 rfl
  have e4 := lt_of_block k0
  have HG2 := Lib.hid hg2
  clear hg2 k0 HF
  go_wp2_with (go_at_call 40; fail)
  refine (HCP.out w2 HG2.out).mono ?_
  rintro e w3 ⟨v', rfl, hr, hb3⟩
  obtain ⟨va, vc, rfl, _, _⟩ := hr.form
  rw [← HN.out.1] at hr
  rw [← HN.out.1]
  obtain ⟨gv, cv, hvv, hgb, hglv, hfz, hcv⟩ := hr.at TF_ok (mid_at A B (⟨n, G, x, false⟩ : Fd))
  rw [← HN.out.1] at hvv
  simp only [Value.slice.injEq] at hvv
  obtain ⟨rfl, -, -⟩ := hvv
  rw [← HN.out.2] at hcv
  have l2 : w3.cell? ⟨gv, i * 4 + 2, none⟩ = some (.int .i64 x) := hcv 2 _ rfl
  obtain ⟨V, hV⟩ : ∃ V, w3.alloc (.cells #[.int .i64 ((m : Nat) : Int), .slice (some ⟨gv, 0, none⟩) N vc] 30) = V := ⟨_, rfl⟩
  have hgV : Grn w3 V := by rw [← hV]; exact (Grn.refl _).alloc _
  have hB3 : V.heap[w3.heap.size]? = some (.cells #[.int .i64 ((m : Nat) : Int), .slice (some ⟨gv, 0, none⟩) N vc] 30 (0, 0)) := by rw [← hV]; exact block_new _ _ _ rfl
  have HV := Lib.hid hV
  have lV : V.cell? ⟨gv, i * 4 + 2, none⟩ = some (.int .i64 x) := (hgV.below.cell (p := ⟨gv, i * 4 + 2, none⟩) hglv).trans l2
  have hglV : gv < V.heap.size := Nat.lt_of_lt_of_le hglv hgV.below.size
  have hrV := hr.below hgV.below
  have hfzV : V.frozen? ⟨gv, i * 4 + 2, none⟩ = false := by
    rw [World.frozen?_of_block (hgV.below.block gv hglv)]; exact hfz _
  have u1 : V.cell? ⟨w3.heap.size, 1, none⟩ = some (.slice (some ⟨gv, 0, none⟩) N vc) := cells_cell hB3 rfl
  have u3 := lt_of_block hB3
  obtain ⟨V2, hV2⟩ : ∃ V2, V2 = V.setCell ⟨gv, i * 4 + 2, none⟩ (.int .i64 y) := ⟨_, rfl⟩
  have hfr := fr_setCell V ⟨gv, i * 4 + 2, none⟩ (.int .i64 y)
  rw [← hV2] at hfr
  have HR2 : Hid (Row TF V2 w2.heap.size (.slice (some ⟨gv, 0, none⟩) N vc) (A ++ ⟨n, G, y, false⟩ :: B)) := Lib.hid (by
    have h0 := hrV
    rw [HN.out.1] at h0 ⊢
    have h1 := h0.set TF_ok (j := A.length) (i := 2) (y := ⟨n, G, y, false⟩) (u := (.int .i64 y)) (mid_at A B _) (by decide) rfl
    rw [mid_set, ← HN.out.2] at h1
    rw [hV2]
    exact h1)
  have HV2 := Lib.hid hV2
  have hne3 : gv ≠ w3.heap.size := by omega
  have hw2s : w.heap.size + 3 ≤ w2.heap.size := by have := HG2.out.below.size; have := HWS.out; omega
  have HB3 := Lib.hid (hfr.same hB3 (by simpa using fun e => hne3 e.symm))
  have HBR : Hid (V2.heap[w.heap.size + 2]? = some (.cells #[.int .i64 0, .slice none 0 0] 30 (0, 0))) := Lib.hid (hfr.same ((hgV.below.block _ (by have := hb3.size; omega)).trans ((hb3.block _ (by omega)).trans ((HG2.out.below.block _ (lt_of_block HB2.out)).trans HB2.out))) (by simp; omega))
  have HBT : Hid (V2.heap[w.heap.size]? = some (.cells #[.int .i64 ((m : Nat) : Int), .slice (some ⟨gs, offs, none⟩) N c] 30 (0, 0))) := Lib.hid (hfr.same ((hgV.below.block _ (by have := hb3.size; omega)).trans ((hb3.block _ (by omega)).trans ((HG2.out.below.block _ (lt_of_block HB0.out)).trans HB0.out))) (by simp; omega))
  have HSV : Hid (V2.cell? ⟨gs, offs + i * 4 + 2, none⟩ = some (.int .i64 x) ∧ gs < V2.heap.size) := Lib.hid (by
    have g0 := HSC.out.2
    have gw : gs < w2.heap.size := Nat.lt_of_lt_of_le g0 HG2.out.below.size
    have g3 : gs < w3.heap.size := Nat.lt_of_lt_of_le gw hb3.size
    have c2 := (HG2.out.below.cell (p := ⟨gs, offs + i * 4 + 2, none⟩) g0).trans HSC.out.1
    have c3 := (hb3.cell (p := ⟨gs, offs + i * 4 + 2, none⟩) gw).trans c2
    have c4 := (hgV.below.cell (p := ⟨gs, offs + i * 4 + 2, none⟩) g3).trans c3
    exact ⟨hfr.cell (p := ⟨gs, offs + i * 4 + 2, none⟩) c4 (by simp; omega), Nat.lt_of_lt_of_le g3 (Nat.le_trans hgV.below.size hfr.size)⟩)
  have HFIN : Hid (Below w.heap.size w V2) := Lib.hid ((HG.out.trans HG2.out).below.trans ((hb3.mono (by omega)).trans ((hgV.below.mono (by have := hb3.size; omega)).trans (hfr.below (fun q hq => by simp at hq; omega) (by have := hgV.below.size; have := hb3.size; omega)))))
  have HGB : Hid (w.heap.size + 2 < gv) := Lib.hid (by omega)
  have HNE2 : Hid (gs ≠ w.heap.size + 2) := Lib.hid (fun e => by have h1 := HSRC0.out; omega)
  have HNB3 : Hid (w3.heap.size ≠ w.heap.size + 2) := Lib.hid (by have := hb3.size; omega)
  clear hr hb3 hcv l2 hV hgV hB3 hrV hfr hV2 hfz hglv e0 e1 e4
  go_upto_region 5 with (fail)
  rw [HV.out]
  clear HV
  generalize w3.heap.size = b3 at *
  go_upto_region 6 with (fail)
  rw [← HV2.out]
  clear HV2 lV hglV hfzV u1 u3
  have v0 : V2.cell? ⟨b3, 0, none⟩ = some (.int .i64 ((m : Nat) : Int)) := cells_cell HB3.out rfl
  have v1 : V2.cell? ⟨b3, 1, none⟩ = some (.slice (some ⟨gv, 0, none⟩) N vc) := cells_cell HB3.out rfl
  have v2 := lt_of_block HB3.out
  have t1 : V2.cell? ⟨w.heap.size, 1, none⟩ = some (.slice (some ⟨gs, offs, none⟩) N c) := cells_cell HBT.out rfl
  have t2 := lt_of_block HBT.out
  have t3 := HSV.out.1
  have t4 := HSV.out.2
  have y0 := cells_cell (o := 0) HBR.out rfl
  have y1 : V2.cell? ⟨w.heap.size + 2, 1, none⟩ = some (.slice none 0 0) := cells_cell HBR.out rfl
  have z0 := cells_free HBR.out 0
  have z1 := cells_free HBR.out 1
  have hxl := lt_of_block HBR.out
  have hput := cells_set (cells_set HBR.out 0 (.int .i64 ((m : Nat) : Int))) 1 (.slice (some ⟨gv, 0, none⟩) N vc)
  have p0 := cells_cell (o := 0) hput rfl
  have p1 := cells_cell (o := 1) hput rfl
  have HFR := Lib.hid ((fr_setCell V2 ⟨w.heap.size + 2, 0, none⟩ (.int .i64 ((m : Nat) : Int))).trans' (fr_setCell _ ⟨w.heap.size + 2, 1, none⟩ (.slice (some ⟨gv, 0, none⟩) N vc)))
  clear hput
  go_wp2_with fail
  refine bodyPost_ret (v := .tuple #[.agg #[.int .i64 ((m : Nat) : Int), .slice (some ⟨gv, 0, none⟩) N vc], .int .i64 0]) (by simp [results, Try.results29, go_sem, p0, p1]) rfl ⟨_, rfl, ?_, ?_⟩
  · exact (HR2.out.fr HFR.out (fun g' hg' hm => by simp [Value.ownBlock] at hg'; have := HGB.out; simp at hm; omega)).lower (by omega)
  · exact HFIN.out.trans (HFR.out.below (fun q hq => by simp at hq; omega) HFIN.out.size)
set_option maxRecDepth 100000 in
set_option maxHeartbeats 6400000 in
theorem refClose_yes {w : World} {v : Value} {m n G : Nat} {x : Int} {A B : Fds} (h : Src TF w v (A ++ ⟨n, G, x, false⟩ :: B)) (hl : (A ++ (⟨n, G, x, false⟩ : Fd) :: B).length ≤ 1000) (hA : clo n A) :
    Calls Try.prog 27 #[rt m v, .agg #[.int .i64 ((n : Nat) : Int), .int .i64 ((G : Nat) : Int)]] w fun e w' => ∃ v', e = .returned (.tuple #[rt m v', .int .i64 x, .int .i64 0]) ∧ Row TF w' w.heap.size v' (A ++ ⟨n, G, x, true⟩ :: B) ∧ Below w.heap.size w w' := by
  obtain ⟨a, c, rfl, _, _⟩ := h.form
  obtain ⟨gs, offs, cs, hvs0, hgs0, _⟩ := h.at (mid_at A B (⟨n, G, x, false⟩ : Fd))
  have HSRC0 : Hid (gs < w.heap.size) := Lib.hid hgs0
  simp only [Value.slice.injEq] at hvs0
  obtain ⟨rfl, -, -⟩ := hvs0
  clear hgs0
  obtain ⟨W, hW⟩ : ∃ W, ((w.alloc (.cells #[.int .i64 ((m : Nat) : Int), .slice (some ⟨gs, offs, none⟩) (A ++ (⟨n, G, x, false⟩ : Fd) :: B).length c] 30)).alloc (.cells #[.int .i64 ((n : Nat) : Int), .int .i64 ((G : Nat) : Int)] 34)).alloc (.cells #[.int .i64 0, .slice none 0 0] 30) = W := ⟨_, rfl⟩
  have hgW : Grn w W := by rw [← hW]; exact (((Grn.refl w).alloc _).alloc _).alloc _
  have HWS : Hid (W.heap.size = w.heap.size + 3) := Lib.hid (by rw [← hW]; simp)
  have HB0 : Hid (W.heap[w.heap.size]? = some (.cells #[.int .i64 ((m : Nat) : Int), .slice (some ⟨gs, offs, none⟩) (A ++ (⟨n, G, x, false⟩ : Fd) :: B).length c] 30 (0, 0))) := Lib.hid (by rw [← hW]; exact (((Grn.refl _).alloc _).alloc _).below.block _ (by simp) |>.trans (block_new _ _ _ rfl))
  have HB2 : Hid (W.heap[w.heap.size + 2]? = some (.cells #[.int .i64 0, .slice none 0 0] 30 (0, 0))) := Lib.hid (by rw [← hW]; exact block_new _ _ _ (by simp))
  have HS := Lib.hid (h.grown hgW.below)
  have HF := Lib.hid (refFind_hit (m := m) (f := ⟨n, G, x, false⟩) HS.out hl hA rfl _ (.inl ⟨rfl, rfl⟩))
  have HG := Lib.hid hgW
  have HW := Lib.hid hW
  obtain ⟨N, hN⟩ : ∃ N, N = (A ++ (⟨n, G, x, false⟩ : Fd) :: B).length := ⟨_, rfl⟩
  obtain ⟨i, hi⟩ : ∃ i, i = A.length := ⟨_, rfl⟩
  have HLN : Hid (i < N) := Lib.hid (by rw [hN, hi]; simp)
  rw [← hN] at hl HB0 HW HS ⊢
  rw [← hN, ← hi] at HF
  have HN := Lib.hid (And.intro hN hi)
  clear h hA hW hgW hN hi
  simp only at HF
  have i1 : (0 : Int) ≤ (i : Int) := by omega
  have i2 : (i : Int) < (N : Int) := by have := HLN.out; omega
  have i3 : (N : Int) ≤ 1000 := by omega
  have i4 : decide ((i : Int) < 0) = false := by simp
  have HCP : Hid (∀ w2, Grn W w2 → Calls Try.prog 40 #[rt m (.slice (some ⟨gs, offs, none⟩) N c)] w2 fun e w' => ∃ v', e = .returned (rt m v') ∧ Row TF w' w2.heap.size v' (A ++ ⟨n, G, x, false⟩ :: B) ∧ Below w2.heap.size w2 w') := Lib.hid (fun w2 hg => refCopy_any (HS.out.grown hg.below) (by rw [← HN.out.1]; exact hl))
  obtain ⟨gs', offs', cs', hvs, hgls, hcs⟩ := HS.out.at (mid_at A B (⟨n, G, x, false⟩ : Fd))
  rw [← HN.out.1] at hvs
  simp only [Value.slice.injEq, Option.some.injEq, Addr.mk.injEq] at hvs
  obtain ⟨⟨rfl, rfl, -⟩, -, -⟩ := hvs
  rw [← HN.out.2] at hcs
  have hs2 : W.cell? ⟨gs, offs + i * 4 + 2, none⟩ = some (.int .i64 x) := hcs 2 _ rfl
  have HSC := Lib.hid (And.intro hs2 hgls)
  clear hcs hs2 hgls
  unfold rt at *
  go_enter Try.func27, Try.ntmps27
  go_wp2_with (go_at_call 41; fail)
  rw [HW.out]
  clear HW
  refine HF.out.mono ?_
  rintro e w2 ⟨rfl, hg2⟩
  have k0 := (hg2.below.block w.heap.size (lt_of_block HB0.out)).trans HB0.out
  have e0 := cells_cell (o := 0) k0 rfl
  have e1 : w2.cell? ⟨w.heap.size, 1, none⟩ = some (.slice (some ⟨gs, offs, none⟩) N c) := cells_cell k0 rfl
  have e4 := lt_of_block k0
  have HG2 := Lib.hid hg2
  clear hg2 k0 HF
  go_wp2_with (go_at_call 40; fail)
  refine (HCP.out w2 HG2.out).mono ?_
  rintro e w3 ⟨v', rfl, hr, hb3⟩
  obtain ⟨va, vc, rfl, _, _⟩ := hr.form
  rw [← HN.out.1] at hr
  rw [← HN.out.1]
  obtain ⟨gv, cv, hvv, hgb, hglv, hfz, hcv⟩ := hr.at TF_ok (mid_at A B (⟨n, G, x, false⟩ : Fd))
  rw [← HN.out.1] at hvv
  simp only [Value.slice.injEq] at hvv
  obtain ⟨rfl, -, -⟩ := hvv
  rw [← HN.out.2] at hcv
  have l2 : w3.cell? ⟨gv, i * 4 + 3, none⟩ = some (.bool false) := hcv 3 _ rfl
  obtain ⟨V, hV⟩ : ∃ V, w3.alloc (.cells #[.int .i64 ((m : Nat) : Int), .slice (some ⟨gv, 0, none⟩) N vc] 30) = V := ⟨_, rfl⟩
  have hgV : Grn w3 V := by rw [← hV]; exact (Grn.refl _).alloc _
  have hB3 : V.heap[w3.heap.size]? = some (.cells #[.int .i64 ((m : Nat) : Int), .slice (some ⟨gv, 0, none⟩) N vc] 30 (0, 0)) := by rw [← hV]; exact block_new _ _ _ rfl
  have HV := Lib.hid hV
  have lV : V.cell? ⟨gv, i * 4 + 3, none⟩ = some (.bool false) := (hgV.below.cell (p := ⟨gv, i * 4 + 3, none⟩) hglv).trans l2
  have hglV : gv < V.heap.size := Nat.lt_of_lt_of_le hglv hgV.below.size
  have hrV := hr.below hgV.below
  have hfzV : V.frozen? ⟨gv, i * 4 + 3, none⟩ = false := by
    rw [World.frozen?_of_block (hgV.below.block gv hglv)]; exact hfz _
  have u1 : V.cell? ⟨w3.heap.size, 1, none⟩ = some (.slice (some ⟨gv, 0, none⟩) N vc) := cells_cell hB3 rfl
  have u3 := lt_of_block hB3
  obtain ⟨V2, hV2⟩ : ∃ V2, V2 = V.setCell ⟨gv, i * 4 + 3, none⟩ (.bool true) := ⟨_, rfl⟩
  have hfr := fr_setCell V ⟨gv, i * 4 + 3, none⟩ (.bool true)
  rw [← hV2] at hfr
  have HR2 : Hid (Row TF V2 w2.heap.size (.slice (some ⟨gv, 0, none⟩) N vc) (A ++ ⟨n, G, x, true⟩ :: B)) := Lib.hid (by
    have h0 := hrV
    rw [HN.out.1] at h0 ⊢
    have h1 := h0.set TF_ok (j := A.length) (i := 3) (y := ⟨n, G, x, true⟩) (u := (.bool true)) (mid_at A B _) (by decide) rfl
    rw [mid_set, ← HN.out.2] at h1
    rw [hV2]
    exact h1)
  have HV2 := Lib.hid hV2
  have hne3 : gv ≠ w3.heap.size := by omega
  have hw2s : w.heap.size + 3 ≤ w2.heap.size := by have := HG2.out.below.size; have := HWS.out; omega
  have HB3 := Lib.hid (hfr.same hB3 (by simpa using fun e => hne3 e.symm))
  have HBR : Hid (V2.heap[w.heap.size + 2]? = some (.cells #[.int .i64 0, .slice none 0 0] 30 (0, 0))) := Lib.hid (hfr.same ((hgV.below.block _ (by have := hb3.size; omega)).trans ((hb3.block _ (by omega)).trans ((HG2.out.below.block _ (lt_of_block HB2.out)).trans HB2.out))) (by simp; omega))
  have HBT : Hid (V2.heap[w.heap.size]? = some (.cells #[.int .i64 ((m : Nat) : Int), .slice (some ⟨gs, offs, none⟩) N c] 30 (0, 0))) := Lib.hid (hfr.same ((hgV.below.block _ (by have := hb3.size; omega)).trans ((hb3.block _ (by omega)).trans ((HG2.out.below.block _ (lt_of_block HB0.out)).trans HB0.out))) (by simp; omega))
  have HSV : Hid (V2.cell? ⟨gs, offs + i * 4 + 2, none⟩ = some (.int .i64 x) ∧ gs < V2.heap.size) := Lib.hid (by
    have g0 := HSC.out.2
    have gw : gs < w2.heap.size := Nat.lt_of_lt_of_le g0 HG2.out.below.size
    have g3 : gs < w3.heap.size := Nat.lt_of_lt_of_le gw hb3.size
    have c2 := (HG2.out.below.cell (p := ⟨gs, offs + i * 4 + 2, none⟩) g0).trans HSC.out.1
    have c3 := (hb3.cell (p := ⟨gs, offs + i * 4 + 2, none⟩) gw).trans c2
    have c4 := (hgV.below.cell (p := ⟨gs, offs + i * 4 + 2, none⟩) g3).trans c3
    exact ⟨hfr.cell (p := ⟨gs, offs + i * 4 + 2, none⟩) c4 (by simp; omega), Nat.lt_of_lt_of_le g3 (Nat.le_trans hgV.below.size hfr.size)⟩)
  have HFIN : Hid (Below w.heap.size w V2) := Lib.hid ((HG.out.trans HG2.out).below.trans ((hb3.mono (by omega)).trans ((hgV.below.mono (by have := hb3.size; omega)).trans (hfr.below (fun q hq => by simp at hq; omega) (by have := hgV.below.size; have := hb3.size; omega)))))
  have HGB : Hid (w.heap.size + 2 < gv) := Lib.hid (by omega)
  have HNE2 : Hid (gs ≠ w.heap.size + 2) := Lib.hid (fun e => by have h1 := HSRC0.out; omega)
  have HNB3 : Hid (w3.heap.size ≠ w.heap.size + 2) := Lib.hid (by have := hb3.size; omega)
  clear hr hb3 hcv l2 hV hgV hB3 hrV hfr hV2 hfz hglv e0 e1 e4
  go_upto_region 5 with (fail)
  rw [HV.out]
  clear HV
  generalize w3.heap.size = b3 at *
  go_upto_region 6 with (fail)
  rw [← HV2.out]
  clear HV2 lV hglV hfzV u1 u3
  have v0 : V2.cell? ⟨b3, 0, none⟩ = some (.int .i64 ((m : Nat) : Int)) := cells_cell HB3.out rfl
  have v1 : V2.cell? ⟨b3, 1, none⟩ = some (.slice (some ⟨gv, 0, none⟩) N vc) := cells_cell HB3.out rfl
  have v2 := lt_of_block HB3.out
  have t1 : V2.cell? ⟨w.heap.size, 1, none⟩ = some (.slice (some ⟨gs, offs, none⟩) N c) := cells_cell HBT.out rfl
  have t2 := lt_of_block HBT.out
  have t3 := HSV.out.1
  have t4 := HSV.out.2
  have y0 := cells_cell (o := 0) HBR.out rfl
  have y1 : V2.cell? ⟨w.heap.size + 2, 1, none⟩ = some (.slice none 0 0) := cells_cell HBR.out rfl
  have z0 := cells_free HBR.out 0
  have z1 := cells_free HBR.out 1
  have hxl := lt_of_block HBR.out
  have HNB : Hid (b3 ≠ w.heap.size + 2 ∧ gs ≠ w.heap.size + 2) := Lib.hid ⟨HNB3.out, HNE2.out⟩
  have hld : ∀ W', Fr [w.heap.size + 2] V2 W' → W'.cell? ⟨b3, 0, none⟩ = some (.int .i64 ((m : Nat) : Int)) ∧ W'.cell? ⟨b3, 1, none⟩ = some (.slice (some ⟨gv, 0, none⟩) N vc) ∧ b3 < W'.heap.size ∧ W'.cell? ⟨w.heap.size, 1, none⟩ = some (.slice (some ⟨gs, offs, none⟩) N c) ∧ w.heap.size < W'.heap.size ∧ W'.cell? ⟨gs, offs + i * 4 + 2, none⟩ = some (.int .i64 x) ∧ gs < W'.heap.size := fun W' hb => by
    have h1 := hb.same HB3.out (by simpa using HNB.out.1)
    have h2 := hb.same HBT.out (by simp)
    exact ⟨cells_cell h1 rfl, cells_cell h1 rfl, lt_of_block h1, cells_cell h2 rfl, lt_of_block h2, hb.cell (p := ⟨gs, offs + i * 4 + 2, none⟩) HSV.out.1 (by simpa using HNB.out.2), Nat.lt_of_lt_of_le HSV.out.2 hb.size⟩
  have HS1 : Hid (Fr [w.heap.size + 2] V2 V2.drew) := Lib.hid (fr_drewN V2 1 _)
  clear v0 v1 v2 t1 t2 t3 t4
  go_wp2_with fail
  refine wp_region_mix (fun W' => Fr [w.heap.size + 2] V2 W') 8 [(true, 0), (true, 1), (true, 2), (true, 3), (true, 4), (true, 5), (true, 6), (false, 7)] (by kernel_rfl) (by kernel_rfl) (fun _ _ _ d _ h => by cases d <;> exact h) ?_
  simp only [List.map_cons, List.map_nil, List.getD_cons_zero, List.getD_cons_succ, List.drop_succ_cons, List.drop_zero]
  refine mix_take (.agg #[.int .i64 ((m : Nat) : Int), .slice (some ⟨gv, 0, none⟩) N vc]) HS1.out rfl (fun W' hS => by obtain ⟨h0, h1, h2, h3, h4, h5, h6⟩ := hld W' hS; go_simp) ?_
  simp only [Act.put, List.setIfInBounds_toArray, List.set_cons_zero, List.set_cons_succ]
  refine mix_take (.pointer (some ⟨w.heap.size, 1, none⟩)) HS1.out rfl (fun W' hS => by go_simp) ?_
  simp only [Act.put, List.setIfInBounds_toArray, List.set_cons_zero, List.set_cons_succ]
  refine mix_take (.slice (some ⟨gs, offs, none⟩) N c) HS1.out rfl (fun W' hS => by obtain ⟨h0, h1, h2, h3, h4, h5, h6⟩ := hld W' hS; go_simp) ?_
  simp only [Act.put, List.setIfInBounds_toArray, List.set_cons_zero, List.set_cons_succ]
  refine mix_move (.tmp 7) (.int .i64 ((i : Nat) : Int)) rfl HS1.out rfl rfl ?_
  simp only [Act.put, List.setIfInBounds_toArray, List.set_cons_zero, List.set_cons_succ]
  refine mix_take (.pointer (some ⟨gs, offs + i * 4, none⟩)) HS1.out rfl (fun W' hS => by go_simp) ?_
  simp only [Act.put, List.setIfInBounds_toArray, List.set_cons_zero, List.set_cons_succ]
  refine mix_take (.pointer (some ⟨gs, offs + i * 4 + 2, none⟩)) HS1.out rfl (fun W' hS => by go_simp) ?_
  simp only [Act.put, List.setIfInBounds_toArray, List.set_cons_zero, List.set_cons_succ]
  refine mix_take (.int .i64 x) HS1.out rfl (fun W' hS => by obtain ⟨h0, h1, h2, h3, h4, h5, h6⟩ := hld W' hS; go_simp) ?_
  simp only [Act.put, List.setIfInBounds_toArray, List.set_cons_zero, List.set_cons_succ]
  have D : Below V2.heap.size V2 V2.drew := ((Grn.refl V2).drew 1).below
  have hBRd := (D.block _ (lt_of_block HBR.out)).trans HBR.out
  have HFIN := Lib.hid (HFIN.out.trans (D.mono HFIN.out.size))
  have HR2 := Lib.hid (HR2.out.below D)
  have hput := cells_set (cells_set hBRd 0 (.int .i64 ((m : Nat) : Int))) 1 (.slice (some ⟨gv, 0, none⟩) N vc)
  have hfr2 := (fr_setCell V2.drew ⟨w.heap.size + 2, 0, none⟩ (.int .i64 ((m : Nat) : Int))).trans' (fr_setCell _ ⟨w.heap.size + 2, 1, none⟩ (.slice (some ⟨gv, 0, none⟩) N vc))
  have HS2 := Lib.hid (HS1.out.trans' hfr2)
  have y0 := cells_cell (o := 0) hBRd rfl
  have y1 : V2.drew.cell? ⟨w.heap.size + 2, 1, none⟩ = some (.slice none 0 0) := cells_cell hBRd rfl
  have z0 := cells_free hBRd 0
  have z1 := cells_free hBRd 1
  have hxl := lt_of_block hBRd
  clear hld hBRd D HS1
  generalize V2.drew = V3 at *
  refine mix_step rfl (fun K hK => ?_)
  go_simp
  refine hK _ _ HS2.out ?_
  clear hK
  have p0 := cells_cell (o := 0) hput rfl
  have p1 := cells_cell (o := 1) hput rfl
  have HFR := Lib.hid hfr2
  clear hput hfr2
  refine mix_nil ?_
  go_wp2_with fail
  refine bodyPost_ret (v := .tuple #[.agg #[.int .i64 ((m : Nat) : Int), .slice (some ⟨gv, 0, none⟩) N vc], .int .i64 x, .int .i64 0]) (by simp [results, Try.results27, go_sem, p0, p1]) rfl ⟨_, rfl, ?_, ?_⟩
  · exact (HR2.out.fr HFR.out (fun g' hg' hm => by simp [Value.ownBlock] at hg'; have := HGB.out; simp at hm; omega)).lower (by omega)
  · exact HFIN.out.trans (HFR.out.below (fun q hq => by simp at hq; omega) HFIN.out.size)
end Go.Proofs.Ytbefiilbpbbjnaa
