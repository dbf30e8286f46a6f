/- The reference's New, CloseWrite, CloseRead, Cancel, End, Begin, Read. -/
import Derived.Test.YteimjkmjofaieaaYRefB
namespace Go.Proofs.Yteimjkmjofaieaa
open Go.RowKit Go.Sort
set_option linter.unusedVariables false
set_option linter.unusedSimpArgs false
set_option maxRecDepth 100000
section
variable {P : Nat → Prop} {w : World} {v : Value} {x : St}
set_option maxHeartbeats 1600000 in
theorem sfCloseW_any (h : SvP P w v x.rw) (ok : x.Ok) (e : Int) : Calls Try.prog 47 #[v, .int .i64 e] w fun r w' => ∃ v', r = .returned (.tuple #[v', .int .i64 (sCw x e).1]) ∧ SvP P w' v' (sCw x e).2.rw ∧ Below w.heap.size w w' := by
  obtain ⟨vS, vR, rfl, hS', hR'⟩ := h
  have hS : SrcP P w vS x.S := hS'
  have hR : SrcP P w vR x.R := hR'
  clear hS' hR'
  obtain ⟨s1, s3, rfl, -, -⟩ := hS.1.form
  obtain ⟨r1, r3, rfl, hr3, hrm⟩ := hR.1.form
  simp only [List.length_map] at *
  have hsm := ok.small
  obtain ⟨n, hn⟩ : ∃ n, n = x.S.length := ⟨_, rfl⟩
  obtain ⟨rn, hrn⟩ : ∃ n, n = x.R.length := ⟨_, rfl⟩
  rw [← hrn] at hsm hr3
  have hval : x.rw.val (.slice s1 x.S.length s3) (.slice r1 x.R.length r3) = .agg #[.int .i64 (x.c : Nat), .slice s1 n s3, .bool x.busy, .slice r1 rn r3, .int .i64 (x.a : Nat), .int .i64 x.wr, .int .i64 x.rd] := by rw [hn, hrn]; rfl
  rw [hval]
  obtain ⟨W, hW⟩ : ∃ W, W = (w.alloc (.cells #[.int .i64 (x.c : Nat), .slice s1 n s3, .bool x.busy, .slice r1 rn r3, .int .i64 (x.a : Nat), .int .i64 x.wr, .int .i64 x.rd] 31)).alloc (.cells #[.int .i64 0, .slice none 0 0, .bool false, .slice none 0 0, .int .i64 0, .int .i64 0, .int .i64 0] 31) := ⟨_, rfl⟩
  have hb : Below w.heap.size w W := by rw [hW]; exact (below_alloc _ _).trans ((below_alloc _ _).mono (by simp))
  have hX0 : W.heap[w.heap.size]? = some (.cells #[.int .i64 (x.c : Nat), .slice s1 n s3, .bool x.busy, .slice r1 rn r3, .int .i64 (x.a : Nat), .int .i64 x.wr, .int .i64 x.rd] 31 (0, 0)) := by rw [hW]; exact ((below_alloc _ _).block w.heap.size (by simp)).trans (heap_alloc_new w _)
  have hR0 : W.heap[w.heap.size + 1]? = some (.cells #[.int .i64 0, .slice none 0 0, .bool false, .slice none 0 0, .int .i64 0, .int .i64 0, .int .i64 0] 31 (0, 0)) := by rw [hW]; exact block_new _ _ _ (by simp)
  have HR0 := Lib.hid hR0
  have HX0 := Lib.hid hX0
  have HB := Lib.hid hb
  have HW := Lib.hid hW.symm
  have HOK := Lib.hid ok
  have HSP : Hid (SrcP P w (.slice s1 n s3) x.S) := Lib.hid (by rw [hn]; exact hS)
  have HRP : Hid (SrcP P w (.slice r1 rn r3) x.R) := Lib.hid (by rw [hrn]; exact hR)
  have HN := Lib.hid (And.intro hn hrn)
  have k0 := cells_cell (o := 0) hX0 rfl
  have k1 := cells_cell (o := 1) hX0 rfl
  have k2 := cells_cell (o := 2) hX0 rfl
  have k3 := cells_cell (o := 3) hX0 rfl
  have k4 := cells_cell (o := 4) hX0 rfl
  have k5 := cells_cell (o := 5) hX0 rfl
  have k6 := cells_cell (o := 6) hX0 rfl
  have y0 := cells_free hX0 0
  have y1 := cells_free hX0 1
  have y2 := cells_free hX0 2
  have y3 := cells_free hX0 3
  have y4 := cells_free hX0 4
  have y5 := cells_free hX0 5
  have y6 := cells_free hX0 6
  have u0 := cells_free hR0 0
  have u1 := cells_free hR0 1
  have u2 := cells_free hR0 2
  have u3 := cells_free hR0 3
  have u4 := cells_free hR0 4
  have u5 := cells_free hR0 5
  have u6 := cells_free hR0 6
  have o0 := cells_cell (o := 0) hR0 rfl
  have o1 := cells_cell (o := 1) hR0 rfl
  have o2 := cells_cell (o := 2) hR0 rfl
  have o3 := cells_cell (o := 3) hR0 rfl
  have o4 := cells_cell (o := 4) hR0 rfl
  have o5 := cells_cell (o := 5) hR0 rfl
  have o6 := cells_cell (o := 6) hR0 rfl
  have hlB := lt_of_block hX0
  have hlR := lt_of_block hR0
  have hco := sfCode_any W e
  unfold sCw
  clear hW hb hX0 hR0 hS hR hval hn hrn hr3 hrm hsm ok
  by_cases h0 : e < 1 ∨ 1000 < e
  · rw [if_pos h0]
    rw [show decide (1 ≤ e ∧ e ≤ 1000) = false by simp; omega] at hco
    have HCO := Lib.hid hco
    clear h0 hco
    go_enter Try.func47, Try.ntmps47
    go_upto_region 1 with fail
    rw [HW.out]
    go_wp2_with (go_at_call 76; refine HCO.out.mono ?_; rintro e' w' ⟨rfl, hw'⟩; subst hw')
    have eF := (cells_set (cells_set (cells_set (cells_set (cells_set (cells_set (cells_set HR0.out 0 (.int .i64 (x.c : Nat))) 1 (.slice s1 n s3)) 2 (.bool x.busy)) 3 (.slice r1 rn r3)) 4 (.int .i64 (x.a : Nat))) 5 (.int .i64 x.wr)) 6 (.int .i64 x.rd))
    have fF : Fr [w.heap.size, w.heap.size + 1] w' (((((((w'.setCell ⟨w.heap.size + 1, 0, none⟩ (.int .i64 (x.c : Nat))).setCell ⟨w.heap.size + 1, 1, none⟩ (.slice s1 n s3)).setCell ⟨w.heap.size + 1, 2, none⟩ (.bool x.busy)).setCell ⟨w.heap.size + 1, 3, none⟩ (.slice r1 rn r3)).setCell ⟨w.heap.size + 1, 4, none⟩ (.int .i64 (x.a : Nat))).setCell ⟨w.heap.size + 1, 5, none⟩ (.int .i64 x.wr)).setCell ⟨w.heap.size + 1, 6, none⟩ (.int .i64 x.rd)) := ((((((((Fr.refl [w.heap.size, w.heap.size + 1] w').trans' ((fr_setCell _ ⟨w.heap.size + 1, 0, none⟩ (.int .i64 (x.c : Nat))).mono (by simp))).trans' ((fr_setCell _ ⟨w.heap.size + 1, 1, none⟩ (.slice s1 n s3)).mono (by simp))).trans' ((fr_setCell _ ⟨w.heap.size + 1, 2, none⟩ (.bool x.busy)).mono (by simp))).trans' ((fr_setCell _ ⟨w.heap.size + 1, 3, none⟩ (.slice r1 rn r3)).mono (by simp))).trans' ((fr_setCell _ ⟨w.heap.size + 1, 4, none⟩ (.int .i64 (x.a : Nat))).mono (by simp))).trans' ((fr_setCell _ ⟨w.heap.size + 1, 5, none⟩ (.int .i64 x.wr)).mono (by simp))).trans' ((fr_setCell _ ⟨w.heap.size + 1, 6, none⟩ (.int .i64 x.rd)).mono (by simp)))
    obtain ⟨WF, hWF⟩ : ∃ WF, WF = (((((((w'.setCell ⟨w.heap.size + 1, 0, none⟩ (.int .i64 (x.c : Nat))).setCell ⟨w.heap.size + 1, 1, none⟩ (.slice s1 n s3)).setCell ⟨w.heap.size + 1, 2, none⟩ (.bool x.busy)).setCell ⟨w.heap.size + 1, 3, none⟩ (.slice r1 rn r3)).setCell ⟨w.heap.size + 1, 4, none⟩ (.int .i64 (x.a : Nat))).setCell ⟨w.heap.size + 1, 5, none⟩ (.int .i64 x.wr)).setCell ⟨w.heap.size + 1, 6, none⟩ (.int .i64 x.rd)) := ⟨_, rfl⟩
    rw [← hWF] at eF fF ⊢
    clear hWF
    have eG : WF.heap[w.heap.size + 1]? = some (.cells #[.int .i64 (x.c : Nat), .slice s1 n s3, .bool x.busy, .slice r1 rn r3, .int .i64 (x.a : Nat), .int .i64 x.wr, .int .i64 x.rd] 31 (0, 0)) := by simpa using eF
    have zz0 := cells_cell (o := 0) eG rfl
    have zz1 := cells_cell (o := 1) eG rfl
    have zz2 := cells_cell (o := 2) eG rfl
    have zz3 := cells_cell (o := 3) eG rfl
    have zz4 := cells_cell (o := 4) eG rfl
    have zz5 := cells_cell (o := 5) eG rfl
    have zz6 := cells_cell (o := 6) eG rfl
    refine bodyPost_ret (v := .tuple #[.agg #[.int .i64 (x.c : Nat), .slice s1 n s3, .bool x.busy, .slice r1 rn r3, .int .i64 (x.a : Nat), .int .i64 x.wr, .int .i64 x.rd], .int .i64 2]) (by simp [results, Try.results47, go_sem, zz0, zz1, zz2, zz3, zz4, zz5, zz6]) rfl ?_
    have hbF := HB.out.trans (fF.below (B := w.heap.size) (by simp) HB.out.size)
    exact ⟨_, rfl, ⟨_, _, rfl, HSP.out.grown hbF, HRP.out.grown hbF⟩, hbF⟩
  · rw [if_neg h0]
    rw [show decide (1 ≤ e ∧ e ≤ 1000) = true by simp; omega] at hco
    have HCO := Lib.hid hco
    by_cases hz : x.wr = 0
    · rw [if_neg (by simp [hz])]
      have HZ := Lib.hid hz
      have t1 : (x.wr != 0) = false := by simp [hz]
      clear h0 hco hz
      go_enter Try.func47, Try.ntmps47
      go_upto_region 1 with fail
      rw [HW.out]
      go_wp2_with (go_at_call 76; refine HCO.out.mono ?_; rintro e' w' ⟨rfl, hw'⟩; subst hw')
      have eF := (cells_set (cells_set (cells_set (cells_set (cells_set (cells_set (cells_set ((fr_setCell _ ⟨w.heap.size, 5, none⟩ (.int .i64 e)).same HR0.out (by simp)) 0 (.int .i64 (x.c : Nat))) 1 (.slice s1 n s3)) 2 (.bool x.busy)) 3 (.slice r1 rn r3)) 4 (.int .i64 (x.a : Nat))) 5 (.int .i64 e)) 6 (.int .i64 x.rd))
      have fF : Fr [w.heap.size, w.heap.size + 1] w' ((((((((w'.setCell ⟨w.heap.size, 5, none⟩ (.int .i64 e)).setCell ⟨w.heap.size + 1, 0, none⟩ (.int .i64 (x.c : Nat))).setCell ⟨w.heap.size + 1, 1, none⟩ (.slice s1 n s3)).setCell ⟨w.heap.size + 1, 2, none⟩ (.bool x.busy)).setCell ⟨w.heap.size + 1, 3, none⟩ (.slice r1 rn r3)).setCell ⟨w.heap.size + 1, 4, none⟩ (.int .i64 (x.a : Nat))).setCell ⟨w.heap.size + 1, 5, none⟩ (.int .i64 e)).setCell ⟨w.heap.size + 1, 6, none⟩ (.int .i64 x.rd)) := (((((((((Fr.refl [w.heap.size, w.heap.size + 1] w').trans' ((fr_setCell _ ⟨w.heap.size, 5, none⟩ (.int .i64 e)).mono (by simp))).trans' ((fr_setCell _ ⟨w.heap.size + 1, 0, none⟩ (.int .i64 (x.c : Nat))).mono (by simp))).trans' ((fr_setCell _ ⟨w.heap.size + 1, 1, none⟩ (.slice s1 n s3)).mono (by simp))).trans' ((fr_setCell _ ⟨w.heap.size + 1, 2, none⟩ (.bool x.busy)).mono (by simp))).trans' ((fr_setCell _ ⟨w.heap.size + 1, 3, none⟩ (.slice r1 rn r3)).mono (by simp))).trans' ((fr_setCell _ ⟨w.heap.size + 1, 4, none⟩ (.int .i64 (x.a : Nat))).mono (by simp))).trans' ((fr_setCell _ ⟨w.heap.size + 1, 5, none⟩ (.int .i64 e)).mono (by simp))).trans' ((fr_setCell _ ⟨w.heap.size + 1, 6, none⟩ (.int .i64 x.rd)).mono (by simp)))
      obtain ⟨WF, hWF⟩ : ∃ WF, WF = ((((((((w'.setCell ⟨w.heap.size, 5, none⟩ (.int .i64 e)).setCell ⟨w.heap.size + 1, 0, none⟩ (.int .i64 (x.c : Nat))).setCell ⟨w.heap.size + 1, 1, none⟩ (.slice s1 n s3)).setCell ⟨w.heap.size + 1, 2, none⟩ (.bool x.busy)).setCell ⟨w.heap.size + 1, 3, none⟩ (.slice r1 rn r3)).setCell ⟨w.heap.size + 1, 4, none⟩ (.int .i64 (x.a : Nat))).setCell ⟨w.heap.size + 1, 5, none⟩ (.int .i64 e)).setCell ⟨w.heap.size + 1, 6, none⟩ (.int .i64 x.rd)) := ⟨_, rfl⟩
      rw [← hWF] at eF fF ⊢
      clear hWF
      have eG : WF.heap[w.heap.size + 1]? = some (.cells #[.int .i64 (x.c : Nat), .slice s1 n s3, .bool x.busy, .slice r1 rn r3, .int .i64 (x.a : Nat), .int .i64 e, .int .i64 x.rd] 31 (0, 0)) := by simpa using eF
      have zz0 := cells_cell (o := 0) eG rfl
      have zz1 := cells_cell (o := 1) eG rfl
      have zz2 := cells_cell (o := 2) eG rfl
      have zz3 := cells_cell (o := 3) eG rfl
      have zz4 := cells_cell (o := 4) eG rfl
      have zz5 := cells_cell (o := 5) eG rfl
      have zz6 := cells_cell (o := 6) eG rfl
      refine bodyPost_ret (v := .tuple #[.agg #[.int .i64 (x.c : Nat), .slice s1 n s3, .bool x.busy, .slice r1 rn r3, .int .i64 (x.a : Nat), .int .i64 e, .int .i64 x.rd], .int .i64 0]) (by simp [results, Try.results47, go_sem, zz0, zz1, zz2, zz3, zz4, zz5, zz6]) rfl ?_
      have hbF := HB.out.trans (fF.below (B := w.heap.size) (by simp) HB.out.size)
      exact ⟨_, rfl, ⟨_, _, rfl, HSP.out.grown hbF, HRP.out.grown hbF⟩, hbF⟩
    · rw [if_pos hz]
      have t1 : (x.wr != 0) = true := by simp [hz]
      clear h0 hco hz
      go_enter Try.func47, Try.ntmps47
      go_upto_region 1 with fail
      rw [HW.out]
      go_wp2_with (go_at_call 76; refine HCO.out.mono ?_; rintro e' w' ⟨rfl, hw'⟩; subst hw')
      have eF := (cells_set (cells_set (cells_set (cells_set (cells_set (cells_set (cells_set HR0.out 0 (.int .i64 (x.c : Nat))) 1 (.slice s1 n s3)) 2 (.bool x.busy)) 3 (.slice r1 rn r3)) 4 (.int .i64 (x.a : Nat))) 5 (.int .i64 x.wr)) 6 (.int .i64 x.rd))
      have fF : Fr [w.heap.size, w.heap.size + 1] w' (((((((w'.setCell ⟨w.heap.size + 1, 0, none⟩ (.int .i64 (x.c : Nat))).setCell ⟨w.heap.size + 1, 1, none⟩ (.slice s1 n s3)).setCell ⟨w.heap.size + 1, 2, none⟩ (.bool x.busy)).setCell ⟨w.heap.size + 1, 3, none⟩ (.slice r1 rn r3)).setCell ⟨w.heap.size + 1, 4, none⟩ (.int .i64 (x.a : Nat))).setCell ⟨w.heap.size + 1, 5, none⟩ (.int .i64 x.wr)).setCell ⟨w.heap.size + 1, 6, none⟩ (.int .i64 x.rd)) := ((((((((Fr.refl [w.heap.size, w.heap.size + 1] w').trans' ((fr_setCell _ ⟨w.heap.size + 1, 0, none⟩ (.int .i64 (x.c : Nat))).mono (by simp))).trans' ((fr_setCell _ ⟨w.heap.size + 1, 1, none⟩ (.slice s1 n s3)).mono (by simp))).trans' ((fr_setCell _ ⟨w.heap.size + 1, 2, none⟩ (.bool x.busy)).mono (by simp))).trans' ((fr_setCell _ ⟨w.heap.size + 1, 3, none⟩ (.slice r1 rn r3)).mono (by simp))).trans' ((fr_setCell _ ⟨w.heap.size + 1, 4, none⟩ (.int .i64 (x.a : Nat))).mono (by simp))).trans' ((fr_setCell _ ⟨w.heap.size + 1, 5, none⟩ (.int .i64 x.wr)).mono (by simp))).trans' ((fr_setCell _ ⟨w.heap.size + 1, 6, none⟩ (.int .i64 x.rd)).mono (by simp)))
      obtain ⟨WF, hWF⟩ : ∃ WF, WF = (((((((w'.setCell ⟨w.heap.size + 1, 0, none⟩ (.int .i64 (x.c : Nat))).setCell ⟨w.heap.size + 1, 1, none⟩ (.slice s1 n s3)).setCell ⟨w.heap.size + 1, 2, none⟩ (.bool x.busy)).setCell ⟨w.heap.size + 1, 3, none⟩ (.slice r1 rn r3)).setCell ⟨w.heap.size + 1, 4, none⟩ (.int .i64 (x.a : Nat))).setCell ⟨w.heap.size + 1, 5, none⟩ (.int .i64 x.wr)).setCell ⟨w.heap.size + 1, 6, none⟩ (.int .i64 x.rd)) := ⟨_, rfl⟩
      rw [← hWF] at eF fF ⊢
      clear hWF
      have eG : WF.heap[w.heap.size + 1]? = some (.cells #[.int .i64 (x.c : Nat), .slice s1 n s3, .bool x.busy, .slice r1 rn r3, .int .i64 (x.a : Nat), .int .i64 x.wr, .int .i64 x.rd] 31 (0, 0)) := by simpa using eF
      have zz0 := cells_cell (o := 0) eG rfl
      have zz1 := cells_cell (o := 1) eG rfl
      have zz2 := cells_cell (o := 2) eG rfl
      have zz3 := cells_cell (o := 3) eG rfl
      have zz4 := cells_cell (o := 4) eG rfl
      have zz5 := cells_cell (o := 5) eG rfl
      have zz6 := cells_cell (o := 6) eG rfl
      refine bodyPost_ret (v := .tuple #[.agg #[.int .i64 (x.c : Nat), .slice s1 n s3, .bool x.busy, .slice r1 rn r3, .int .i64 (x.a : Nat), .int .i64 x.wr, .int .i64 x.rd], .int .i64 14]) (by simp [results, Try.results47, go_sem, zz0, zz1, zz2, zz3, zz4, zz5, zz6]) rfl ?_
      have hbF := HB.out.trans (fF.below (B := w.heap.size) (by simp) HB.out.size)
      exact ⟨_, rfl, ⟨_, _, rfl, HSP.out.grown hbF, HRP.out.grown hbF⟩, hbF⟩
set_option maxHeartbeats 1600000 in
theorem sfCloseR_any (h : SvP P w v x.rw) (ok : x.Ok) (e : Int) : Calls Try.prog 48 #[v, .int .i64 e] w fun r w' => ∃ v', r = .returned (.tuple #[v', .int .i64 (sCr x e).1]) ∧ SvP P w' v' (sCr x e).2.rw ∧ Below w.heap.size w w' := by
  obtain ⟨vS, vR, rfl, hS', hR'⟩ := h
  have hS : SrcP P w vS x.S := hS'
  have hR : SrcP P w vR x.R := hR'
  clear hS' hR'
  obtain ⟨s1, s3, rfl, -, -⟩ := hS.1.form
  obtain ⟨r1, r3, rfl, hr3, hrm⟩ := hR.1.form
  simp only [List.length_map] at *
  have hsm := ok.small
  obtain ⟨n, hn⟩ : ∃ n, n = x.S.length := ⟨_, rfl⟩
  obtain ⟨rn, hrn⟩ : ∃ n, n = x.R.length := ⟨_, rfl⟩
  rw [← hrn] at hsm hr3
  have hval : x.rw.val (.slice s1 x.S.length s3) (.slice r1 x.R.length r3) = .agg #[.int .i64 (x.c : Nat), .slice s1 n s3, .bool x.busy, .slice r1 rn r3, .int .i64 (x.a : Nat), .int .i64 x.wr, .int .i64 x.rd] := by rw [hn, hrn]; rfl
  rw [hval]
  obtain ⟨W, hW⟩ : ∃ W, W = (w.alloc (.cells #[.int .i64 (x.c : Nat), .slice s1 n s3, .bool x.busy, .slice r1 rn r3, .int .i64 (x.a : Nat), .int .i64 x.wr, .int .i64 x.rd] 31)).alloc (.cells #[.int .i64 0, .slice none 0 0, .bool false, .slice none 0 0, .int .i64 0, .int .i64 0, .int .i64 0] 31) := ⟨_, rfl⟩
  have hb : Below w.heap.size w W := by rw [hW]; exact (below_alloc _ _).trans ((below_alloc _ _).mono (by simp))
  have hX0 : W.heap[w.heap.size]? = some (.cells #[.int .i64 (x.c : Nat), .slice s1 n s3, .bool x.busy, .slice r1 rn r3, .int .i64 (x.a : Nat), .int .i64 x.wr, .int .i64 x.rd] 31 (0, 0)) := by rw [hW]; exact ((below_alloc _ _).block w.heap.size (by simp)).trans (heap_alloc_new w _)
  have hR0 : W.heap[w.heap.size + 1]? = some (.cells #[.int .i64 0, .slice none 0 0, .bool false, .slice none 0 0, .int .i64 0, .int .i64 0, .int .i64 0] 31 (0, 0)) := by rw [hW]; exact block_new _ _ _ (by simp)
  have HR0 := Lib.hid hR0
  have HX0 := Lib.hid hX0
  have HB := Lib.hid hb
  have HW := Lib.hid hW.symm
  have HOK := Lib.hid ok
  have HSP : Hid (SrcP P w (.slice s1 n s3) x.S) := Lib.hid (by rw [hn]; exact hS)
  have HRP : Hid (SrcP P w (.slice r1 rn r3) x.R) := Lib.hid (by rw [hrn]; exact hR)
  have HN := Lib.hid (And.intro hn hrn)
  have k0 := cells_cell (o := 0) hX0 rfl
  have k1 := cells_cell (o := 1) hX0 rfl
  have k2 := cells_cell (o := 2) hX0 rfl
  have k3 := cells_cell (o := 3) hX0 rfl
  have k4 := cells_cell (o := 4) hX0 rfl
  have k5 := cells_cell (o := 5) hX0 rfl
  have k6 := cells_cell (o := 6) hX0 rfl
  have y0 := cells_free hX0 0
  have y1 := cells_free hX0 1
  have y2 := cells_free hX0 2
  have y3 := cells_free hX0 3
  have y4 := cells_free hX0 4
  have y5 := cells_free hX0 5
  have y6 := cells_free hX0 6
  have u0 := cells_free hR0 0
  have u1 := cells_free hR0 1
  have u2 := cells_free hR0 2
  have u3 := cells_free hR0 3
  have u4 := cells_free hR0 4
  have u5 := cells_free hR0 5
  have u6 := cells_free hR0 6
  have o0 := cells_cell (o := 0) hR0 rfl
  have o1 := cells_cell (o := 1) hR0 rfl
  have o2 := cells_cell (o := 2) hR0 rfl
  have o3 := cells_cell (o := 3) hR0 rfl
  have o4 := cells_cell (o := 4) hR0 rfl
  have o5 := cells_cell (o := 5) hR0 rfl
  have o6 := cells_cell (o := 6) hR0 rfl
  have hlB := lt_of_block hX0
  have hlR := lt_of_block hR0
  have hco := sfCode_any W e
  unfold sCr
  clear hW hb hX0 hR0 hS hR hval hn hrn hr3 hrm hsm ok
  by_cases h0 : e < 1 ∨ 1000 < e
  · rw [if_pos h0]
    rw [show decide (1 ≤ e ∧ e ≤ 1000) = false by simp; omega] at hco
    have HCO := Lib.hid hco
    clear h0 hco
    go_enter Try.func48, Try.ntmps48
    go_upto_region 1 with fail
    rw [HW.out]
    go_wp2_with (go_at_call 76; refine HCO.out.mono ?_; rintro e' w' ⟨rfl, hw'⟩; subst hw')
    have eF := (cells_set (cells_set (cells_set (cells_set (cells_set (cells_set (cells_set HR0.out 0 (.int .i64 (x.c : Nat))) 1 (.slice s1 n s3)) 2 (.bool x.busy)) 3 (.slice r1 rn r3)) 4 (.int .i64 (x.a : Nat))) 5 (.int .i64 x.wr)) 6 (.int .i64 x.rd))
    have fF : Fr [w.heap.size, w.heap.size + 1] w' (((((((w'.setCell ⟨w.heap.size + 1, 0, none⟩ (.int .i64 (x.c : Nat))).setCell ⟨w.heap.size + 1, 1, none⟩ (.slice s1 n s3)).setCell ⟨w.heap.size + 1, 2, none⟩ (.bool x.busy)).setCell ⟨w.heap.size + 1, 3, none⟩ (.slice r1 rn r3)).setCell ⟨w.heap.size + 1, 4, none⟩ (.int .i64 (x.a : Nat))).setCell ⟨w.heap.size + 1, 5, none⟩ (.int .i64 x.wr)).setCell ⟨w.heap.size + 1, 6, none⟩ (.int .i64 x.rd)) := ((((((((Fr.refl [w.heap.size, w.heap.size + 1] w').trans' ((fr_setCell _ ⟨w.heap.size + 1, 0, none⟩ (.int .i64 (x.c : Nat))).mono (by simp))).trans' ((fr_setCell _ ⟨w.heap.size + 1, 1, none⟩ (.slice s1 n s3)).mono (by simp))).trans' ((fr_setCell _ ⟨w.heap.size + 1, 2, none⟩ (.bool x.busy)).mono (by simp))).trans' ((fr_setCell _ ⟨w.heap.size + 1, 3, none⟩ (.slice r1 rn r3)).mono (by simp))).trans' ((fr_setCell _ ⟨w.heap.size + 1, 4, none⟩ (.int .i64 (x.a : Nat))).mono (by simp))).trans' ((fr_setCell _ ⟨w.heap.size + 1, 5, none⟩ (.int .i64 x.wr)).mono (by simp))).trans' ((fr_setCell _ ⟨w.heap.size + 1, 6, none⟩ (.int .i64 x.rd)).mono (by simp)))
    obtain ⟨WF, hWF⟩ : ∃ WF, WF = (((((((w'.setCell ⟨w.heap.size + 1, 0, none⟩ (.int .i64 (x.c : Nat))).setCell ⟨w.heap.size + 1, 1, none⟩ (.slice s1 n s3)).setCell ⟨w.heap.size + 1, 2, none⟩ (.bool x.busy)).setCell ⟨w.heap.size + 1, 3, none⟩ (.slice r1 rn r3)).setCell ⟨w.heap.size + 1, 4, none⟩ (.int .i64 (x.a : Nat))).setCell ⟨w.heap.size + 1, 5, none⟩ (.int .i64 x.wr)).setCell ⟨w.heap.size + 1, 6, none⟩ (.int .i64 x.rd)) := ⟨_, rfl⟩
    rw [← hWF] at eF fF ⊢
    clear hWF
    have eG : WF.heap[w.heap.size + 1]? = some (.cells #[.int .i64 (x.c : Nat), .slice s1 n s3, .bool x.busy, .slice r1 rn r3, .int .i64 (x.a : Nat), .int .i64 x.wr, .int .i64 x.rd] 31 (0, 0)) := by simpa using eF
    have zz0 := cells_cell (o := 0) eG rfl
    have zz1 := cells_cell (o := 1) eG rfl
    have zz2 := cells_cell (o := 2) eG rfl
    have zz3 := cells_cell (o := 3) eG rfl
    have zz4 := cells_cell (o := 4) eG rfl
    have zz5 := cells_cell (o := 5) eG rfl
    have zz6 := cells_cell (o := 6) eG rfl
    refine bodyPost_ret (v := .tuple #[.agg #[.int .i64 (x.c : Nat), .slice s1 n s3, .bool x.busy, .slice r1 rn r3, .int .i64 (x.a : Nat), .int .i64 x.wr, .int .i64 x.rd], .int .i64 2]) (by simp [results, Try.results48, go_sem, zz0, zz1, zz2, zz3, zz4, zz5, zz6]) rfl ?_
    have hbF := HB.out.trans (fF.below (B := w.heap.size) (by simp) HB.out.size)
    exact ⟨_, rfl, ⟨_, _, rfl, HSP.out.grown hbF, HRP.out.grown hbF⟩, hbF⟩
  · rw [if_neg h0]
    rw [show decide (1 ≤ e ∧ e ≤ 1000) = true by simp; omega] at hco
    have HCO := Lib.hid hco
    by_cases hz : x.rd = 0
    · rw [if_neg (by simp [hz])]
      have HZ := Lib.hid hz
      have t1 : (x.rd != 0) = false := by simp [hz]
      clear h0 hco hz
      go_enter Try.func48, Try.ntmps48
      go_upto_region 1 with fail
      rw [HW.out]
      go_wp2_with (go_at_call 76; refine HCO.out.mono ?_; rintro e' w' ⟨rfl, hw'⟩; subst hw')
      have eF := (cells_set (cells_set (cells_set (cells_set (cells_set (cells_set (cells_set ((fr_setCell _ ⟨w.heap.size, 1, none⟩ (.slice none 0 0)).same ((fr_setCell _ ⟨w.heap.size, 6, none⟩ (.int .i64 e)).same HR0.out (by simp)) (by simp)) 0 (.int .i64 (x.c : Nat))) 1 (.slice none 0 0)) 2 (.bool x.busy)) 3 (.slice r1 rn r3)) 4 (.int .i64 (x.a : Nat))) 5 (.int .i64 x.wr)) 6 (.int .i64 e))
      have fF : Fr [w.heap.size, w.heap.size + 1] w' (((((((((w'.setCell ⟨w.heap.size, 6, none⟩ (.int .i64 e)).setCell ⟨w.heap.size, 1, none⟩ (.slice none 0 0)).setCell ⟨w.heap.size + 1, 0, none⟩ (.int .i64 (x.c : Nat))).setCell ⟨w.heap.size + 1, 1, none⟩ (.slice none 0 0)).setCell ⟨w.heap.size + 1, 2, none⟩ (.bool x.busy)).setCell ⟨w.heap.size + 1, 3, none⟩ (.slice r1 rn r3)).setCell ⟨w.heap.size + 1, 4, none⟩ (.int .i64 (x.a : Nat))).setCell ⟨w.heap.size + 1, 5, none⟩ (.int .i64 x.wr)).setCell ⟨w.heap.size + 1, 6, none⟩ (.int .i64 e)) := ((((((((((Fr.refl [w.heap.size, w.heap.size + 1] w').trans' ((fr_setCell _ ⟨w.heap.size, 6, none⟩ (.int .i64 e)).mono (by simp))).trans' ((fr_setCell _ ⟨w.heap.size, 1, none⟩ (.slice none 0 0)).mono (by simp))).trans' ((fr_setCell _ ⟨w.heap.size + 1, 0, none⟩ (.int .i64 (x.c : Nat))).mono (by simp))).trans' ((fr_setCell _ ⟨w.heap.size + 1, 1, none⟩ (.slice none 0 0)).mono (by simp))).trans' ((fr_setCell _ ⟨w.heap.size + 1, 2, none⟩ (.bool x.busy)).mono (by simp))).trans' ((fr_setCell _ ⟨w.heap.size + 1, 3, none⟩ (.slice r1 rn r3)).mono (by simp))).trans' ((fr_setCell _ ⟨w.heap.size + 1, 4, none⟩ (.int .i64 (x.a : Nat))).mono (by simp))).trans' ((fr_setCell _ ⟨w.heap.size + 1, 5, none⟩ (.int .i64 x.wr)).mono (by simp))).trans' ((fr_setCell _ ⟨w.heap.size + 1, 6, none⟩ (.int .i64 e)).mono (by simp)))
      obtain ⟨WF, hWF⟩ : ∃ WF, WF = (((((((((w'.setCell ⟨w.heap.size, 6, none⟩ (.int .i64 e)).setCell ⟨w.heap.size, 1, none⟩ (.slice none 0 0)).setCell ⟨w.heap.size + 1, 0, none⟩ (.int .i64 (x.c : Nat))).setCell ⟨w.heap.size + 1, 1, none⟩ (.slice none 0 0)).setCell ⟨w.heap.size + 1, 2, none⟩ (.bool x.busy)).setCell ⟨w.heap.size + 1, 3, none⟩ (.slice r1 rn r3)).setCell ⟨w.heap.size + 1, 4, none⟩ (.int .i64 (x.a : Nat))).setCell ⟨w.heap.size + 1, 5, none⟩ (.int .i64 x.wr)).setCell ⟨w.heap.size + 1, 6, none⟩ (.int .i64 e)) := ⟨_, rfl⟩
      rw [← hWF] at eF fF ⊢
      clear hWF
      have eG : WF.heap[w.heap.size + 1]? = some (.cells #[.int .i64 (x.c : Nat), .slice none 0 0, .bool x.busy, .slice r1 rn r3, .int .i64 (x.a : Nat), .int .i64 x.wr, .int .i64 e] 31 (0, 0)) := by simpa using eF
      have zz0 := cells_cell (o := 0) eG rfl
      have zz1 := cells_cell (o := 1) eG rfl
      have zz2 := cells_cell (o := 2) eG rfl
      have zz3 := cells_cell (o := 3) eG rfl
      have zz4 := cells_cell (o := 4) eG rfl
      have zz5 := cells_cell (o := 5) eG rfl
      have zz6 := cells_cell (o := 6) eG rfl
      refine bodyPost_ret (v := .tuple #[.agg #[.int .i64 (x.c : Nat), .slice none 0 0, .bool x.busy, .slice r1 rn r3, .int .i64 (x.a : Nat), .int .i64 x.wr, .int .i64 e], .int .i64 0]) (by simp [results, Try.results48, go_sem, zz0, zz1, zz2, zz3, zz4, zz5, zz6]) rfl ?_
      have hbF := HB.out.trans (fF.below (B := w.heap.size) (by simp) HB.out.size)
      exact ⟨_, rfl, ⟨_, _, rfl, SrcP.nil _ _, HRP.out.grown hbF⟩, hbF⟩
    · rw [if_pos hz]
      have t1 : (x.rd != 0) = true := by simp [hz]
      clear h0 hco hz
      go_enter Try.func48, Try.ntmps48
      go_upto_region 1 with fail
      rw [HW.out]
      go_wp2_with (go_at_call 76; refine HCO.out.mono ?_; rintro e' w' ⟨rfl, hw'⟩; subst hw')
      have eF := (cells_set (cells_set (cells_set (cells_set (cells_set (cells_set (cells_set HR0.out 0 (.int .i64 (x.c : Nat))) 1 (.slice s1 n s3)) 2 (.bool x.busy)) 3 (.slice r1 rn r3)) 4 (.int .i64 (x.a : Nat))) 5 (.int .i64 x.wr)) 6 (.int .i64 x.rd))
      have fF : Fr [w.heap.size, w.heap.size + 1] w' (((((((w'.setCell ⟨w.heap.size + 1, 0, none⟩ (.int .i64 (x.c : Nat))).setCell ⟨w.heap.size + 1, 1, none⟩ (.slice s1 n s3)).setCell ⟨w.heap.size + 1, 2, none⟩ (.bool x.busy)).setCell ⟨w.heap.size + 1, 3, none⟩ (.slice r1 rn r3)).setCell ⟨w.heap.size + 1, 4, none⟩ (.int .i64 (x.a : Nat))).setCell ⟨w.heap.size + 1, 5, none⟩ (.int .i64 x.wr)).setCell ⟨w.heap.size + 1, 6, none⟩ (.int .i64 x.rd)) := ((((((((Fr.refl [w.heap.size, w.heap.size + 1] w').trans' ((fr_setCell _ ⟨w.heap.size + 1, 0, none⟩ (.int .i64 (x.c : Nat))).mono (by simp))).trans' ((fr_setCell _ ⟨w.heap.size + 1, 1, none⟩ (.slice s1 n s3)).mono (by simp))).trans' ((fr_setCell _ ⟨w.heap.size + 1, 2, none⟩ (.bool x.busy)).mono (by simp))).trans' ((fr_setCell _ ⟨w.heap.size + 1, 3, none⟩ (.slice r1 rn r3)).mono (by simp))).trans' ((fr_setCell _ ⟨w.heap.size + 1, 4, none⟩ (.int .i64 (x.a : Nat))).mono (by simp))).trans' ((fr_setCell _ ⟨w.heap.size + 1, 5, none⟩ (.int .i64 x.wr)).mono (by simp))).trans' ((fr_setCell _ ⟨w.heap.size + 1, 6, none⟩ (.int .i64 x.rd)).mono (by simp)))
      obtain ⟨WF, hWF⟩ : ∃ WF, WF = (((((((w'.setCell ⟨w.heap.size + 1, 0, none⟩ (.int .i64 (x.c : Nat))).setCell ⟨w.heap.size + 1, 1, none⟩ (.slice s1 n s3)).setCell ⟨w.heap.size + 1, 2, none⟩ (.bool x.busy)).setCell ⟨w.heap.size + 1, 3, none⟩ (.slice r1 rn r3)).setCell ⟨w.heap.size + 1, 4, none⟩ (.int .i64 (x.a : Nat))).setCell ⟨w.heap.size + 1, 5, none⟩ (.int .i64 x.wr)).setCell ⟨w.heap.size + 1, 6, none⟩ (.int .i64 x.rd)) := ⟨_, rfl⟩
      rw [← hWF] at eF fF ⊢
      clear hWF
      have eG : WF.heap[w.heap.size + 1]? = some (.cells #[.int .i64 (x.c : Nat), .slice s1 n s3, .bool x.busy, .slice r1 rn r3, .int .i64 (x.a : Nat), .int .i64 x.wr, .int .i64 x.rd] 31 (0, 0)) := by simpa using eF
      have zz0 := cells_cell (o := 0) eG rfl
      have zz1 := cells_cell (o := 1) eG rfl
      have zz2 := cells_cell (o := 2) eG rfl
      have zz3 := cells_cell (o := 3) eG rfl
      have zz4 := cells_cell (o := 4) eG rfl
      have zz5 := cells_cell (o := 5) eG rfl
      have zz6 := cells_cell (o := 6) eG rfl
      refine bodyPost_ret (v := .tuple #[.agg #[.int .i64 (x.c : Nat), .slice s1 n s3, .bool x.busy, .slice r1 rn r3, .int .i64 (x.a : Nat), .int .i64 x.wr, .int .i64 x.rd], .int .i64 14]) (by simp [results, Try.results48, go_sem, zz0, zz1, zz2, zz3, zz4, zz5, zz6]) rfl ?_
      have hbF := HB.out.trans (fF.below (B := w.heap.size) (by simp) HB.out.size)
      exact ⟨_, rfl, ⟨_, _, rfl, HSP.out.grown hbF, HRP.out.grown hbF⟩, hbF⟩
set_option maxHeartbeats 1600000 in
theorem sfCancel_any (h : SvP P w v x.rw) (ok : x.Ok) : Calls Try.prog 45 #[v] w fun r w' => ∃ v', r = .returned (.tuple #[v', .int .i64 (((sCa x).1 : Nat) : Int), .int .i64 (sCa x).2.1]) ∧ SvP P w' v' (sCa x).2.2.rw ∧ Below w.heap.size w w' := by
  obtain ⟨vS, vR, rfl, hS', hR'⟩ := h
  have hS : SrcP P w vS x.S := hS'
  have hR : SrcP P w vR x.R := hR'
  clear hS' hR'
  obtain ⟨s1, s3, rfl, -, -⟩ := hS.1.form
  obtain ⟨r1, r3, rfl, hr3, hrm⟩ := hR.1.form
  simp only [List.length_map] at *
  have hsm := ok.small
  obtain ⟨n, hn⟩ : ∃ n, n = x.S.length := ⟨_, rfl⟩
  obtain ⟨rn, hrn⟩ : ∃ n, n = x.R.length := ⟨_, rfl⟩
  rw [← hrn] at hsm hr3
  have hval : x.rw.val (.slice s1 x.S.length s3) (.slice r1 x.R.length r3) = .agg #[.int .i64 (x.c : Nat), .slice s1 n s3, .bool x.busy, .slice r1 rn r3, .int .i64 (x.a : Nat), .int .i64 x.wr, .int .i64 x.rd] := by rw [hn, hrn]; rfl
  rw [hval]
  obtain ⟨W, hW⟩ : ∃ W, W = (w.alloc (.cells #[.int .i64 (x.c : Nat), .slice s1 n s3, .bool x.busy, .slice r1 rn r3, .int .i64 (x.a : Nat), .int .i64 x.wr, .int .i64 x.rd] 31)).alloc (.cells #[.int .i64 0, .slice none 0 0, .bool false, .slice none 0 0, .int .i64 0, .int .i64 0, .int .i64 0] 31) := ⟨_, rfl⟩
  have hb : Below w.heap.size w W := by rw [hW]; exact (below_alloc _ _).trans ((below_alloc _ _).mono (by simp))
  have hX0 : W.heap[w.heap.size]? = some (.cells #[.int .i64 (x.c : Nat), .slice s1 n s3, .bool x.busy, .slice r1 rn r3, .int .i64 (x.a : Nat), .int .i64 x.wr, .int .i64 x.rd] 31 (0, 0)) := by rw [hW]; exact ((below_alloc _ _).block w.heap.size (by simp)).trans (heap_alloc_new w _)
  have hR0 : W.heap[w.heap.size + 1]? = some (.cells #[.int .i64 0, .slice none 0 0, .bool false, .slice none 0 0, .int .i64 0, .int .i64 0, .int .i64 0] 31 (0, 0)) := by rw [hW]; exact block_new _ _ _ (by simp)
  have HR0 := Lib.hid hR0
  have HX0 := Lib.hid hX0
  have HB := Lib.hid hb
  have HW := Lib.hid hW.symm
  have HOK := Lib.hid ok
  have HSP : Hid (SrcP P w (.slice s1 n s3) x.S) := Lib.hid (by rw [hn]; exact hS)
  have HRP : Hid (SrcP P w (.slice r1 rn r3) x.R) := Lib.hid (by rw [hrn]; exact hR)
  have HN := Lib.hid (And.intro hn hrn)
  have k0 := cells_cell (o := 0) hX0 rfl
  have k1 := cells_cell (o := 1) hX0 rfl
  have k2 := cells_cell (o := 2) hX0 rfl
  have k3 := cells_cell (o := 3) hX0 rfl
  have k4 := cells_cell (o := 4) hX0 rfl
  have k5 := cells_cell (o := 5) hX0 rfl
  have k6 := cells_cell (o := 6) hX0 rfl
  have y0 := cells_free hX0 0
  have y1 := cells_free hX0 1
  have y2 := cells_free hX0 2
  have y3 := cells_free hX0 3
  have y4 := cells_free hX0 4
  have y5 := cells_free hX0 5
  have y6 := cells_free hX0 6
  have u0 := cells_free hR0 0
  have u1 := cells_free hR0 1
  have u2 := cells_free hR0 2
  have u3 := cells_free hR0 3
  have u4 := cells_free hR0 4
  have u5 := cells_free hR0 5
  have u6 := cells_free hR0 6
  have o0 := cells_cell (o := 0) hR0 rfl
  have o1 := cells_cell (o := 1) hR0 rfl
  have o2 := cells_cell (o := 2) hR0 rfl
  have o3 := cells_cell (o := 3) hR0 rfl
  have o4 := cells_cell (o := 4) hR0 rfl
  have o5 := cells_cell (o := 5) hR0 rfl
  have o6 := cells_cell (o := 6) hR0 rfl
  have hlB := lt_of_block hX0
  have hlR := lt_of_block hR0
  unfold sCa
  clear hW hb hX0 hR0 hS hR hval hn hrn hr3 hrm hsm ok
  obtain hbz | hbz : x.busy = false ∨ x.busy = true := by cases x.busy <;> simp
  · rw [if_pos hbz]
    have HBZ := Lib.hid hbz
    rw [hbz] at k2
    clear hbz
    go_enter Try.func45, Try.ntmps45
    go_upto_region 1 with fail
    rw [HW.out]
    go_wp2_with fail
    have eF := (cells_set (cells_set (cells_set (cells_set (cells_set (cells_set (cells_set HR0.out 0 (.int .i64 (x.c : Nat))) 1 (.slice s1 n s3)) 2 (.bool false)) 3 (.slice r1 rn r3)) 4 (.int .i64 (x.a : Nat))) 5 (.int .i64 x.wr)) 6 (.int .i64 x.rd))
    have fF : Fr [w.heap.size, w.heap.size + 1] W (((((((W.setCell ⟨w.heap.size + 1, 0, none⟩ (.int .i64 (x.c : Nat))).setCell ⟨w.heap.size + 1, 1, none⟩ (.slice s1 n s3)).setCell ⟨w.heap.size + 1, 2, none⟩ (.bool false)).setCell ⟨w.heap.size + 1, 3, none⟩ (.slice r1 rn r3)).setCell ⟨w.heap.size + 1, 4, none⟩ (.int .i64 (x.a : Nat))).setCell ⟨w.heap.size + 1, 5, none⟩ (.int .i64 x.wr)).setCell ⟨w.heap.size + 1, 6, none⟩ (.int .i64 x.rd)) := ((((((((Fr.refl [w.heap.size, w.heap.size + 1] W).trans' ((fr_setCell _ ⟨w.heap.size + 1, 0, none⟩ (.int .i64 (x.c : Nat))).mono (by simp))).trans' ((fr_setCell _ ⟨w.heap.size + 1, 1, none⟩ (.slice s1 n s3)).mono (by simp))).trans' ((fr_setCell _ ⟨w.heap.size + 1, 2, none⟩ (.bool false)).mono (by simp))).trans' ((fr_setCell _ ⟨w.heap.size + 1, 3, none⟩ (.slice r1 rn r3)).mono (by simp))).trans' ((fr_setCell _ ⟨w.heap.size + 1, 4, none⟩ (.int .i64 (x.a : Nat))).mono (by simp))).trans' ((fr_setCell _ ⟨w.heap.size + 1, 5, none⟩ (.int .i64 x.wr)).mono (by simp))).trans' ((fr_setCell _ ⟨w.heap.size + 1, 6, none⟩ (.int .i64 x.rd)).mono (by simp)))
    obtain ⟨WF, hWF⟩ : ∃ WF, WF = (((((((W.setCell ⟨w.heap.size + 1, 0, none⟩ (.int .i64 (x.c : Nat))).setCell ⟨w.heap.size + 1, 1, none⟩ (.slice s1 n s3)).setCell ⟨w.heap.size + 1, 2, none⟩ (.bool false)).setCell ⟨w.heap.size + 1, 3, none⟩ (.slice r1 rn r3)).setCell ⟨w.heap.size + 1, 4, none⟩ (.int .i64 (x.a : Nat))).setCell ⟨w.heap.size + 1, 5, none⟩ (.int .i64 x.wr)).setCell ⟨w.heap.size + 1, 6, none⟩ (.int .i64 x.rd)) := ⟨_, rfl⟩
    rw [← hWF] at eF fF ⊢
    clear hWF
    have eG : WF.heap[w.heap.size + 1]? = some (.cells #[.int .i64 (x.c : Nat), .slice s1 n s3, .bool false, .slice r1 rn r3, .int .i64 (x.a : Nat), .int .i64 x.wr, .int .i64 x.rd] 31 (0, 0)) := by simpa using eF
    have zz0 := cells_cell (o := 0) eG rfl
    have zz1 := cells_cell (o := 1) eG rfl
    have zz2 := cells_cell (o := 2) eG rfl
    have zz3 := cells_cell (o := 3) eG rfl
    have zz4 := cells_cell (o := 4) eG rfl
    have zz5 := cells_cell (o := 5) eG rfl
    have zz6 := cells_cell (o := 6) eG rfl
    refine bodyPost_ret (v := .tuple #[.agg #[.int .i64 (x.c : Nat), .slice s1 n s3, .bool false, .slice r1 rn r3, .int .i64 (x.a : Nat), .int .i64 x.wr, .int .i64 x.rd], .int .i64 0, .int .i64 8]) (by simp [results, Try.results45, go_sem, zz0, zz1, zz2, zz3, zz4, zz5, zz6]) rfl ?_
    have hbF := HB.out.trans (fF.below (B := w.heap.size) (by simp) HB.out.size)
    exact ⟨_, rfl, ⟨_, _, (by rw [← HBZ.out]; rfl), HSP.out.grown hbF, HRP.out.grown hbF⟩, hbF⟩
  · rw [if_neg (by simp [hbz])]
    have HBZ := Lib.hid hbz
    rw [hbz] at k2
    clear hbz
    go_enter Try.func45, Try.ntmps45
    go_upto_region 1 with fail
    rw [HW.out]
    go_wp2_with fail
    have eF := (cells_set (cells_set (cells_set (cells_set (cells_set (cells_set (cells_set ((fr_setCell _ ⟨w.heap.size, 4, none⟩ (.int .i64 0)).same ((fr_setCell _ ⟨w.heap.size, 3, none⟩ (.slice none 0 0)).same ((fr_setCell _ ⟨w.heap.size, 2, none⟩ (.bool false)).same HR0.out (by simp)) (by simp)) (by simp)) 0 (.int .i64 (x.c : Nat))) 1 (.slice s1 n s3)) 2 (.bool false)) 3 (.slice none 0 0)) 4 (.int .i64 0)) 5 (.int .i64 x.wr)) 6 (.int .i64 x.rd))
    have fF : Fr [w.heap.size, w.heap.size + 1] W ((((((((((W.setCell ⟨w.heap.size, 2, none⟩ (.bool false)).setCell ⟨w.heap.size, 3, none⟩ (.slice none 0 0)).setCell ⟨w.heap.size, 4, none⟩ (.int .i64 0)).setCell ⟨w.heap.size + 1, 0, none⟩ (.int .i64 (x.c : Nat))).setCell ⟨w.heap.size + 1, 1, none⟩ (.slice s1 n s3)).setCell ⟨w.heap.size + 1, 2, none⟩ (.bool false)).setCell ⟨w.heap.size + 1, 3, none⟩ (.slice none 0 0)).setCell ⟨w.heap.size + 1, 4, none⟩ (.int .i64 0)).setCell ⟨w.heap.size + 1, 5, none⟩ (.int .i64 x.wr)).setCell ⟨w.heap.size + 1, 6, none⟩ (.int .i64 x.rd)) := (((((((((((Fr.refl [w.heap.size, w.heap.size + 1] W).trans' ((fr_setCell _ ⟨w.heap.size, 2, none⟩ (.bool false)).mono (by simp))).trans' ((fr_setCell _ ⟨w.heap.size, 3, none⟩ (.slice none 0 0)).mono (by simp))).trans' ((fr_setCell _ ⟨w.heap.size, 4, none⟩ (.int .i64 0)).mono (by simp))).trans' ((fr_setCell _ ⟨w.heap.size + 1, 0, none⟩ (.int .i64 (x.c : Nat))).mono (by simp))).trans' ((fr_setCell _ ⟨w.heap.size + 1, 1, none⟩ (.slice s1 n s3)).mono (by simp))).trans' ((fr_setCell _ ⟨w.heap.size + 1, 2, none⟩ (.bool false)).mono (by simp))).trans' ((fr_setCell _ ⟨w.heap.size + 1, 3, none⟩ (.slice none 0 0)).mono (by simp))).trans' ((fr_setCell _ ⟨w.heap.size + 1, 4, none⟩ (.int .i64 0)).mono (by simp))).trans' ((fr_setCell _ ⟨w.heap.size + 1, 5, none⟩ (.int .i64 x.wr)).mono (by simp))).trans' ((fr_setCell _ ⟨w.heap.size + 1, 6, none⟩ (.int .i64 x.rd)).mono (by simp)))
    obtain ⟨WF, hWF⟩ : ∃ WF, WF = ((((((((((W.setCell ⟨w.heap.size, 2, none⟩ (.bool false)).setCell ⟨w.heap.size, 3, none⟩ (.slice none 0 0)).setCell ⟨w.heap.size, 4, none⟩ (.int .i64 0)).setCell ⟨w.heap.size + 1, 0, none⟩ (.int .i64 (x.c : Nat))).setCell ⟨w.heap.size + 1, 1, none⟩ (.slice s1 n s3)).setCell ⟨w.heap.size + 1, 2, none⟩ (.bool false)).setCell ⟨w.heap.size + 1, 3, none⟩ (.slice none 0 0)).setCell ⟨w.heap.size + 1, 4, none⟩ (.int .i64 0)).setCell ⟨w.heap.size + 1, 5, none⟩ (.int .i64 x.wr)).setCell ⟨w.heap.size + 1, 6, none⟩ (.int .i64 x.rd)) := ⟨_, rfl⟩
    rw [← hWF] at eF fF ⊢
    clear hWF
    have eG : WF.heap[w.heap.size + 1]? = some (.cells #[.int .i64 (x.c : Nat), .slice s1 n s3, .bool false, .slice none 0 0, .int .i64 0, .int .i64 x.wr, .int .i64 x.rd] 31 (0, 0)) := by simpa using eF
    have zz0 := cells_cell (o := 0) eG rfl
    have zz1 := cells_cell (o := 1) eG rfl
    have zz2 := cells_cell (o := 2) eG rfl
    have zz3 := cells_cell (o := 3) eG rfl
    have zz4 := cells_cell (o := 4) eG rfl
    have zz5 := cells_cell (o := 5) eG rfl
    have zz6 := cells_cell (o := 6) eG rfl
    refine bodyPost_ret (v := .tuple #[.agg #[.int .i64 (x.c : Nat), .slice s1 n s3, .bool false, .slice none 0 0, .int .i64 0, .int .i64 x.wr, .int .i64 x.rd], .int .i64 (x.a : Nat), .int .i64 0]) (by simp [results, Try.results45, go_sem, zz0, zz1, zz2, zz3, zz4, zz5, zz6]) rfl ?_
    have hbF := HB.out.trans (fF.below (B := w.heap.size) (by simp) HB.out.size)
    exact ⟨_, rfl, ⟨_, _, rfl, HSP.out.grown hbF, SrcP.nil _ _⟩, hbF⟩
theorem sfNew_ok (P : Nat → Prop) (w : World) {c : Nat} (h : c ≤ 4096) : Calls Try.prog 11 #[.int .i64 (c : Nat)] w fun r w' => ∃ v', r = .returned (.tuple #[v', .int .i64 0]) ∧ SvP P w' v' (St.new c).rw ∧ Below w.heap.size w w' := by
  obtain ⟨W, hW⟩ : ∃ W, W = w.alloc (.cells #[.int .i64 0, .slice none 0 0, .bool false, .slice none 0 0, .int .i64 0, .int .i64 0, .int .i64 0] 31) := ⟨_, rfl⟩
  have hb : Below w.heap.size w W := by rw [hW]; exact below_alloc _ _
  have hR0 : W.heap[w.heap.size]? = some (.cells #[.int .i64 0, .slice none 0 0, .bool false, .slice none 0 0, .int .i64 0, .int .i64 0, .int .i64 0] 31 (0, 0)) := by rw [hW]; exact heap_alloc_new w _
  have HR0 := Lib.hid hR0
  have HB := Lib.hid hb
  have HW := Lib.hid hW.symm
  have u0 := cells_free hR0 0
  have u1 := cells_free hR0 1
  have u2 := cells_free hR0 2
  have u3 := cells_free hR0 3
  have u4 := cells_free hR0 4
  have u5 := cells_free hR0 5
  have u6 := cells_free hR0 6
  have o0 := cells_cell (o := 0) hR0 rfl
  have o1 := cells_cell (o := 1) hR0 rfl
  have o2 := cells_cell (o := 2) hR0 rfl
  have o3 := cells_cell (o := 3) hR0 rfl
  have o4 := cells_cell (o := 4) hR0 rfl
  have o5 := cells_cell (o := 5) hR0 rfl
  have o6 := cells_cell (o := 6) hR0 rfl
  have hlR := lt_of_block hR0
  clear hW hb hR0
  have hc : (c : Int) ≤ 4096 := by omega
  have t1 : decide (4096 < (c : Int)) = false := by simp; omega
  clear h
  go_enter Try.func11, Try.ntmps11
  go_upto_region 1 with fail
  rw [HW.out]
  go_wp2_with fail
  have eF := (cells_set (cells_set (cells_set (cells_set (cells_set (cells_set (cells_set HR0.out 0 (.int .i64 (c : Nat))) 1 (.slice none 0 0)) 2 (.bool false)) 3 (.slice none 0 0)) 4 (.int .i64 0)) 5 (.int .i64 0)) 6 (.int .i64 0))
  have fF : Fr [w.heap.size] W (((((((W.setCell ⟨w.heap.size, 0, none⟩ (.int .i64 (c : Nat))).setCell ⟨w.heap.size, 1, none⟩ (.slice none 0 0)).setCell ⟨w.heap.size, 2, none⟩ (.bool false)).setCell ⟨w.heap.size, 3, none⟩ (.slice none 0 0)).setCell ⟨w.heap.size, 4, none⟩ (.int .i64 0)).setCell ⟨w.heap.size, 5, none⟩ (.int .i64 0)).setCell ⟨w.heap.size, 6, none⟩ (.int .i64 0)) := ((((((((Fr.refl [w.heap.size] W).trans' ((fr_setCell _ ⟨w.heap.size, 0, none⟩ (.int .i64 (c : Nat))).mono (by simp))).trans' ((fr_setCell _ ⟨w.heap.size, 1, none⟩ (.slice none 0 0)).mono (by simp))).trans' ((fr_setCell _ ⟨w.heap.size, 2, none⟩ (.bool false)).mono (by simp))).trans' ((fr_setCell _ ⟨w.heap.size, 3, none⟩ (.slice none 0 0)).mono (by simp))).trans' ((fr_setCell _ ⟨w.heap.size, 4, none⟩ (.int .i64 0)).mono (by simp))).trans' ((fr_setCell _ ⟨w.heap.size, 5, none⟩ (.int .i64 0)).mono (by simp))).trans' ((fr_setCell _ ⟨w.heap.size, 6, none⟩ (.int .i64 0)).mono (by simp)))
  obtain ⟨WF, hWF⟩ : ∃ WF, WF = (((((((W.setCell ⟨w.heap.size, 0, none⟩ (.int .i64 (c : Nat))).setCell ⟨w.heap.size, 1, none⟩ (.slice none 0 0)).setCell ⟨w.heap.size, 2, none⟩ (.bool false)).setCell ⟨w.heap.size, 3, none⟩ (.slice none 0 0)).setCell ⟨w.heap.size, 4, none⟩ (.int .i64 0)).setCell ⟨w.heap.size, 5, none⟩ (.int .i64 0)).setCell ⟨w.heap.size, 6, none⟩ (.int .i64 0)) := ⟨_, rfl⟩
  rw [← hWF] at eF fF ⊢
  clear hWF
  have eG : WF.heap[w.heap.size]? = some (.cells #[.int .i64 (c : Nat), .slice none 0 0, .bool false, .slice none 0 0, .int .i64 0, .int .i64 0, .int .i64 0] 31 (0, 0)) := by simpa using eF
  have zz0 := cells_cell (o := 0) eG rfl
  have zz1 := cells_cell (o := 1) eG rfl
  have zz2 := cells_cell (o := 2) eG rfl
  have zz3 := cells_cell (o := 3) eG rfl
  have zz4 := cells_cell (o := 4) eG rfl
  have zz5 := cells_cell (o := 5) eG rfl
  have zz6 := cells_cell (o := 6) eG rfl
  refine bodyPost_ret (v := .tuple #[.agg #[.int .i64 (c : Nat), .slice none 0 0, .bool false, .slice none 0 0, .int .i64 0, .int .i64 0, .int .i64 0], .int .i64 0]) (by simp [results, Try.results11, go_sem, zz0, zz1, zz2, zz3, zz4, zz5, zz6]) rfl ?_
  exact ⟨_, rfl, ⟨_, _, rfl, SrcP.nil _ _, SrcP.nil _ _⟩, HB.out.trans (fF.below (by simp) HB.out.size)⟩
theorem sfNew_bad (w : World) (c : Int) (h : c < 0 ∨ 4096 < c) : Calls Try.prog 11 #[.int .i64 c] w fun r w' => ∃ v', r = .returned (.tuple #[v', .int .i64 2]) ∧ (∃ s1 s2 s3 r1 r2 r3 z0 z4 z5 z6 b, v' = .agg #[.int .i64 z0, .slice s1 s2 s3, .bool b, .slice r1 r2 r3, .int .i64 z4, .int .i64 z5, .int .i64 z6]) ∧ Below w.heap.size w w' := by
  obtain ⟨W, hW⟩ : ∃ W, W = w.alloc (.cells #[.int .i64 0, .slice none 0 0, .bool false, .slice none 0 0, .int .i64 0, .int .i64 0, .int .i64 0] 31) := ⟨_, rfl⟩
  have hb : Below w.heap.size w W := by rw [hW]; exact below_alloc _ _
  have hR0 : W.heap[w.heap.size]? = some (.cells #[.int .i64 0, .slice none 0 0, .bool false, .slice none 0 0, .int .i64 0, .int .i64 0, .int .i64 0] 31 (0, 0)) := by rw [hW]; exact heap_alloc_new w _
  have HR0 := Lib.hid hR0
  have HB := Lib.hid hb
  have HW := Lib.hid hW.symm
  have u0 := cells_free hR0 0
  have u1 := cells_free hR0 1
  have u2 := cells_free hR0 2
  have u3 := cells_free hR0 3
  have u4 := cells_free hR0 4
  have u5 := cells_free hR0 5
  have u6 := cells_free hR0 6
  have o0 := cells_cell (o := 0) hR0 rfl
  have o1 := cells_cell (o := 1) hR0 rfl
  have o2 := cells_cell (o := 2) hR0 rfl
  have o3 := cells_cell (o := 3) hR0 rfl
  have o4 := cells_cell (o := 4) hR0 rfl
  have o5 := cells_cell (o := 5) hR0 rfl
  have o6 := cells_cell (o := 6) hR0 rfl
  have hlR := lt_of_block hR0
  clear hW hb hR0
  by_cases h0 : c < 0
  · have t1 : decide (c < 0) = true := by simp [h0]
    clear h h0
    go_enter Try.func11, Try.ntmps11
    go_upto_region 1 with fail
    rw [HW.out]
    go_wp2_with fail
    have eF := (cells_set (cells_set (cells_set (cells_set (cells_set (cells_set (cells_set HR0.out 0 (.int .i64 0)) 1 (.slice none 0 0)) 2 (.bool false)) 3 (.slice none 0 0)) 4 (.int .i64 0)) 5 (.int .i64 0)) 6 (.int .i64 0))
    have fF : Fr [w.heap.size] W (((((((W.setCell ⟨w.heap.size, 0, none⟩ (.int .i64 0)).setCell ⟨w.heap.size, 1, none⟩ (.slice none 0 0)).setCell ⟨w.heap.size, 2, none⟩ (.bool false)).setCell ⟨w.heap.size, 3, none⟩ (.slice none 0 0)).setCell ⟨w.heap.size, 4, none⟩ (.int .i64 0)).setCell ⟨w.heap.size, 5, none⟩ (.int .i64 0)).setCell ⟨w.heap.size, 6, none⟩ (.int .i64 0)) := ((((((((Fr.refl [w.heap.size] W).trans' ((fr_setCell _ ⟨w.heap.size, 0, none⟩ (.int .i64 0)).mono (by simp))).trans' ((fr_setCell _ ⟨w.heap.size, 1, none⟩ (.slice none 0 0)).mono (by simp))).trans' ((fr_setCell _ ⟨w.heap.size, 2, none⟩ (.bool false)).mono (by simp))).trans' ((fr_setCell _ ⟨w.heap.size, 3, none⟩ (.slice none 0 0)).mono (by simp))).trans' ((fr_setCell _ ⟨w.heap.size, 4, none⟩ (.int .i64 0)).mono (by simp))).trans' ((fr_setCell _ ⟨w.heap.size, 5, none⟩ (.int .i64 0)).mono (by simp))).trans' ((fr_setCell _ ⟨w.heap.size, 6, none⟩ (.int .i64 0)).mono (by simp)))
    obtain ⟨WF, hWF⟩ : ∃ WF, WF = (((((((W.setCell ⟨w.heap.size, 0, none⟩ (.int .i64 0)).setCell ⟨w.heap.size, 1, none⟩ (.slice none 0 0)).setCell ⟨w.heap.size, 2, none⟩ (.bool false)).setCell ⟨w.heap.size, 3, none⟩ (.slice none 0 0)).setCell ⟨w.heap.size, 4, none⟩ (.int .i64 0)).setCell ⟨w.heap.size, 5, none⟩ (.int .i64 0)).setCell ⟨w.heap.size, 6, none⟩ (.int .i64 0)) := ⟨_, rfl⟩
    rw [← hWF] at eF fF ⊢
    clear hWF
    have eG : WF.heap[w.heap.size]? = some (.cells #[.int .i64 0, .slice none 0 0, .bool false, .slice none 0 0, .int .i64 0, .int .i64 0, .int .i64 0] 31 (0, 0)) := by simpa using eF
    have zz0 := cells_cell (o := 0) eG rfl
    have zz1 := cells_cell (o := 1) eG rfl
    have zz2 := cells_cell (o := 2) eG rfl
    have zz3 := cells_cell (o := 3) eG rfl
    have zz4 := cells_cell (o := 4) eG rfl
    have zz5 := cells_cell (o := 5) eG rfl
    have zz6 := cells_cell (o := 6) eG rfl
    refine bodyPost_ret (v := .tuple #[.agg #[.int .i64 0, .slice none 0 0, .bool false, .slice none 0 0, .int .i64 0, .int .i64 0, .int .i64 0], .int .i64 2]) (by simp [results, Try.results11, go_sem, zz0, zz1, zz2, zz3, zz4, zz5, zz6]) rfl ?_
    exact ⟨_, rfl, ⟨_, _, _, _, _, _, _, _, _, _, _, rfl⟩, HB.out.trans (fF.below (by simp) HB.out.size)⟩
  · have t1 : decide (c < 0) = false := by simp; omega
    have t2 : decide (4096 < c) = true := by simp; omega
    clear h h0
    go_enter Try.func11, Try.ntmps11
    go_upto_region 1 with fail
    rw [HW.out]
    go_wp2_with fail
    have eF := (cells_set (cells_set (cells_set (cells_set (cells_set (cells_set (cells_set HR0.out 0 (.int .i64 0)) 1 (.slice none 0 0)) 2 (.bool false)) 3 (.slice none 0 0)) 4 (.int .i64 0)) 5 (.int .i64 0)) 6 (.int .i64 0))
    have fF : Fr [w.heap.size] W (((((((W.setCell ⟨w.heap.size, 0, none⟩ (.int .i64 0)).setCell ⟨w.heap.size, 1, none⟩ (.slice none 0 0)).setCell ⟨w.heap.size, 2, none⟩ (.bool false)).setCell ⟨w.heap.size, 3, none⟩ (.slice none 0 0)).setCell ⟨w.heap.size, 4, none⟩ (.int .i64 0)).setCell ⟨w.heap.size, 5, none⟩ (.int .i64 0)).setCell ⟨w.heap.size, 6, none⟩ (.int .i64 0)) := ((((((((Fr.refl [w.heap.size] W).trans' ((fr_setCell _ ⟨w.heap.size, 0, none⟩ (.int .i64 0)).mono (by simp))).trans' ((fr_setCell _ ⟨w.heap.size, 1, none⟩ (.slice none 0 0)).mono (by simp))).trans' ((fr_setCell _ ⟨w.heap.size, 2, none⟩ (.bool false)).mono (by simp))).trans' ((fr_setCell _ ⟨w.heap.size, 3, none⟩ (.slice none 0 0)).mono (by simp))).trans' ((fr_setCell _ ⟨w.heap.size, 4, none⟩ (.int .i64 0)).mono (by simp))).trans' ((fr_setCell _ ⟨w.heap.size, 5, none⟩ (.int .i64 0)).mono (by simp))).trans' ((fr_setCell _ ⟨w.heap.size, 6, none⟩ (.int .i64 0)).mono (by simp)))
    obtain ⟨WF, hWF⟩ : ∃ WF, WF = (((((((W.setCell ⟨w.heap.size, 0, none⟩ (.int .i64 0)).setCell ⟨w.heap.size, 1, none⟩ (.slice none 0 0)).setCell ⟨w.heap.size, 2, none⟩ (.bool false)).setCell ⟨w.heap.size, 3, none⟩ (.slice none 0 0)).setCell ⟨w.heap.size, 4, none⟩ (.int .i64 0)).setCell ⟨w.heap.size, 5, none⟩ (.int .i64 0)).setCell ⟨w.heap.size, 6, none⟩ (.int .i64 0)) := ⟨_, rfl⟩
    rw [← hWF] at eF fF ⊢
    clear hWF
    have eG : WF.heap[w.heap.size]? = some (.cells #[.int .i64 0, .slice none 0 0, .bool false, .slice none 0 0, .int .i64 0, .int .i64 0, .int .i64 0] 31 (0, 0)) := by simpa using eF
    have zz0 := cells_cell (o := 0) eG rfl
    have zz1 := cells_cell (o := 1) eG rfl
    have zz2 := cells_cell (o := 2) eG rfl
    have zz3 := cells_cell (o := 3) eG rfl
    have zz4 := cells_cell (o := 4) eG rfl
    have zz5 := cells_cell (o := 5) eG rfl
    have zz6 := cells_cell (o := 6) eG rfl
    refine bodyPost_ret (v := .tuple #[.agg #[.int .i64 0, .slice none 0 0, .bool false, .slice none 0 0, .int .i64 0, .int .i64 0, .int .i64 0], .int .i64 2]) (by simp [results, Try.results11, go_sem, zz0, zz1, zz2, zz3, zz4, zz5, zz6]) rfl ?_
    exact ⟨_, rfl, ⟨_, _, _, _, _, _, _, _, _, _, _, rfl⟩, HB.out.trans (fF.below (by simp) HB.out.size)⟩
set_option maxHeartbeats 3200000 in
theorem sfEnd_any (h : SvP P w v x.rw) (ok : x.Ok) : Calls Try.prog 44 #[v] w fun r w' => ∃ v', r = .returned (.tuple #[v', .int .i64 (((sEn x).1 : Nat) : Int), .int .i64 (sEn x).2.1]) ∧ SvP P w' v' (sEn x).2.2.rw ∧ Below w.heap.size w w' := by
  obtain ⟨vS, vR, rfl, hS', hR'⟩ := h
  have hS : SrcP P w vS x.S := hS'
  have hR : SrcP P w vR x.R := hR'
  clear hS' hR'
  obtain ⟨s1, s3, rfl, -, -⟩ := hS.1.form
  obtain ⟨r1, r3, rfl, hr3, hrm⟩ := hR.1.form
  simp only [List.length_map] at *
  have hsm := ok.small
  obtain ⟨n, hn⟩ : ∃ n, n = x.S.length := ⟨_, rfl⟩
  obtain ⟨rn, hrn⟩ : ∃ n, n = x.R.length := ⟨_, rfl⟩
  rw [← hrn] at hsm hr3
  have hval : x.rw.val (.slice s1 x.S.length s3) (.slice r1 x.R.length r3) = .agg #[.int .i64 (x.c : Nat), .slice s1 n s3, .bool x.busy, .slice r1 rn r3, .int .i64 (x.a : Nat), .int .i64 x.wr, .int .i64 x.rd] := by rw [hn, hrn]; rfl
  rw [hval]
  obtain ⟨W, hW⟩ : ∃ W, W = (w.alloc (.cells #[.int .i64 (x.c : Nat), .slice s1 n s3, .bool x.busy, .slice r1 rn r3, .int .i64 (x.a : Nat), .int .i64 x.wr, .int .i64 x.rd] 31)).alloc (.cells #[.int .i64 0, .slice none 0 0, .bool false, .slice none 0 0, .int .i64 0, .int .i64 0, .int .i64 0] 31) := ⟨_, rfl⟩
  have hb : Below w.heap.size w W := by rw [hW]; exact (below_alloc _ _).trans ((below_alloc _ _).mono (by simp))
  have hX0 : W.heap[w.heap.size]? = some (.cells #[.int .i64 (x.c : Nat), .slice s1 n s3, .bool x.busy, .slice r1 rn r3, .int .i64 (x.a : Nat), .int .i64 x.wr, .int .i64 x.rd] 31 (0, 0)) := by rw [hW]; exact ((below_alloc _ _).block w.heap.size (by simp)).trans (heap_alloc_new w _)
  have hR0 : W.heap[w.heap.size + 1]? = some (.cells #[.int .i64 0, .slice none 0 0, .bool false, .slice none 0 0, .int .i64 0, .int .i64 0, .int .i64 0] 31 (0, 0)) := by rw [hW]; exact block_new _ _ _ (by simp)
  have HR0 := Lib.hid hR0
  have HX0 := Lib.hid hX0
  have HB := Lib.hid hb
  have HW := Lib.hid hW.symm
  have HOK := Lib.hid ok
  have HSP : Hid (SrcP P w (.slice s1 n s3) x.S) := Lib.hid (by rw [hn]; exact hS)
  have HRP : Hid (SrcP P w (.slice r1 rn r3) x.R) := Lib.hid (by rw [hrn]; exact hR)
  have HN := Lib.hid (And.intro hn hrn)
  have k0 := cells_cell (o := 0) hX0 rfl
  have k1 := cells_cell (o := 1) hX0 rfl
  have k2 := cells_cell (o := 2) hX0 rfl
  have k3 := cells_cell (o := 3) hX0 rfl
  have k4 := cells_cell (o := 4) hX0 rfl
  have k5 := cells_cell (o := 5) hX0 rfl
  have k6 := cells_cell (o := 6) hX0 rfl
  have y0 := cells_free hX0 0
  have y1 := cells_free hX0 1
  have y2 := cells_free hX0 2
  have y3 := cells_free hX0 3
  have y4 := cells_free hX0 4
  have y5 := cells_free hX0 5
  have y6 := cells_free hX0 6
  have u0 := cells_free hR0 0
  have u1 := cells_free hR0 1
  have u2 := cells_free hR0 2
  have u3 := cells_free hR0 3
  have u4 := cells_free hR0 4
  have u5 := cells_free hR0 5
  have u6 := cells_free hR0 6
  have o0 := cells_cell (o := 0) hR0 rfl
  have o1 := cells_cell (o := 1) hR0 rfl
  have o2 := cells_cell (o := 2) hR0 rfl
  have o3 := cells_cell (o := 3) hR0 rfl
  have o4 := cells_cell (o := 4) hR0 rfl
  have o5 := cells_cell (o := 5) hR0 rfl
  have o6 := cells_cell (o := 6) hR0 rfl
  have hlB := lt_of_block hX0
  have hlR := lt_of_block hR0
  have hsv : SvP P W (.agg #[.int .i64 (x.c : Nat), .slice s1 n s3, .bool x.busy, .slice r1 rn r3, .int .i64 (x.a : Nat), .int .i64 x.wr, .int .i64 x.rd]) x.rw := ⟨_, _, rfl, HSP.out.grown hb, HRP.out.grown hb⟩
  have hae := sfAtEnd_any hsv ok
  unfold sEn
  clear hW hb hX0 hR0 hS hR hval hn hrn hr3 hrm hsm ok
  obtain hbz | hbz : x.busy = false ∨ x.busy = true := by cases x.busy <;> simp
  · rw [if_pos hbz]
    have HBZ := Lib.hid hbz
    rw [hbz] at k2
    clear hbz hsv hae
    go_enter Try.func44, Try.ntmps44
    go_upto_region 1 with fail
    rw [HW.out]
    go_wp2_with fail
    have eF := (cells_set (cells_set (cells_set (cells_set (cells_set (cells_set (cells_set HR0.out 0 (.int .i64 (x.c : Nat))) 1 (.slice s1 n s3)) 2 (.bool false)) 3 (.slice r1 rn r3)) 4 (.int .i64 (x.a : Nat))) 5 (.int .i64 x.wr)) 6 (.int .i64 x.rd))
    have fF : Fr [w.heap.size, w.heap.size + 1] W (((((((W.setCell ⟨w.heap.size + 1, 0, none⟩ (.int .i64 (x.c : Nat))).setCell ⟨w.heap.size + 1, 1, none⟩ (.slice s1 n s3)).setCell ⟨w.heap.size + 1, 2, none⟩ (.bool false)).setCell ⟨w.heap.size + 1, 3, none⟩ (.slice r1 rn r3)).setCell ⟨w.heap.size + 1, 4, none⟩ (.int .i64 (x.a : Nat))).setCell ⟨w.heap.size + 1, 5, none⟩ (.int .i64 x.wr)).setCell ⟨w.heap.size + 1, 6, none⟩ (.int .i64 x.rd)) := ((((((((Fr.refl [w.heap.size, w.heap.size + 1] W).trans' ((fr_setCell _ ⟨w.heap.size + 1, 0, none⟩ (.int .i64 (x.c : Nat))).mono (by simp))).trans' ((fr_setCell _ ⟨w.heap.size + 1, 1, none⟩ (.slice s1 n s3)).mono (by simp))).trans' ((fr_setCell _ ⟨w.heap.size + 1, 2, none⟩ (.bool false)).mono (by simp))).trans' ((fr_setCell _ ⟨w.heap.size + 1, 3, none⟩ (.slice r1 rn r3)).mono (by simp))).trans' ((fr_setCell _ ⟨w.heap.size + 1, 4, none⟩ (.int .i64 (x.a : Nat))).mono (by simp))).trans' ((fr_setCell _ ⟨w.heap.size + 1, 5, none⟩ (.int .i64 x.wr)).mono (by simp))).trans' ((fr_setCell _ ⟨w.heap.size + 1, 6, none⟩ (.int .i64 x.rd)).mono (by simp)))
    obtain ⟨WF, hWF⟩ : ∃ WF, WF = (((((((W.setCell ⟨w.heap.size + 1, 0, none⟩ (.int .i64 (x.c : Nat))).setCell ⟨w.heap.size + 1, 1, none⟩ (.slice s1 n s3)).setCell ⟨w.heap.size + 1, 2, none⟩ (.bool false)).setCell ⟨w.heap.size + 1, 3, none⟩ (.slice r1 rn r3)).setCell ⟨w.heap.size + 1, 4, none⟩ (.int .i64 (x.a : Nat))).setCell ⟨w.heap.size + 1, 5, none⟩ (.int .i64 x.wr)).setCell ⟨w.heap.size + 1, 6, none⟩ (.int .i64 x.rd)) := ⟨_, rfl⟩
    rw [← hWF] at eF fF ⊢
    clear hWF
    have eG : WF.heap[w.heap.size + 1]? = some (.cells #[.int .i64 (x.c : Nat), .slice s1 n s3, .bool false, .slice r1 rn r3, .int .i64 (x.a : Nat), .int .i64 x.wr, .int .i64 x.rd] 31 (0, 0)) := by simpa using eF
    have zz0 := cells_cell (o := 0) eG rfl
    have zz1 := cells_cell (o := 1) eG rfl
    have zz2 := cells_cell (o := 2) eG rfl
    have zz3 := cells_cell (o := 3) eG rfl
    have zz4 := cells_cell (o := 4) eG rfl
    have zz5 := cells_cell (o := 5) eG rfl
    have zz6 := cells_cell (o := 6) eG rfl
    refine bodyPost_ret (v := .tuple #[.agg #[.int .i64 (x.c : Nat), .slice s1 n s3, .bool false, .slice r1 rn r3, .int .i64 (x.a : Nat), .int .i64 x.wr, .int .i64 x.rd], .int .i64 0, .int .i64 8]) (by simp [results, Try.results44, go_sem, zz0, zz1, zz2, zz3, zz4, zz5, zz6]) rfl ?_
    have hbF := HB.out.trans (fF.below (B := w.heap.size) (by simp) HB.out.size)
    exact ⟨_, rfl, ⟨_, _, (by rw [← HBZ.out]; rfl), HSP.out.grown hbF, HRP.out.grown hbF⟩, hbF⟩
  · rw [if_neg (by simp [hbz])]
    have HBZ := Lib.hid hbz
    rw [hbz] at k2
    have hpr : (sPr x).2 = x.over := by unfold sPr; rw [if_pos hbz]
    rw [hpr, hbz] at hae
    obtain hov | hov : x.over = false ∨ x.over = true := by cases x.over <;> simp
    · rw [if_pos hov]
      rw [hov] at hae
      have HAE := Lib.hid hae
      clear hbz hsv hae hpr hov
      go_enter Try.func44, Try.ntmps44
      go_upto_region 1 with fail
      rw [HW.out]
      go_wp2_with (go_at_call 49; fail)
      refine HAE.out.mono ?_
      rintro e w3 ⟨rfl, hb3⟩
      have hX3 := (hb3.block _ (lt_of_block HX0.out)).trans HX0.out
      have hR3 := (hb3.block _ (lt_of_block HR0.out)).trans HR0.out
      rw [HBZ.out] at hX3
      have HX3 := Lib.hid hX3
      have HR3 := Lib.hid hR3
      have HB3 := Lib.hid (HB.out.trans (hb3.mono HB.out.size))
      have j0 := cells_cell (o := 0) hX3 rfl
      have j1 := cells_cell (o := 1) hX3 rfl
      have j2 := cells_cell (o := 2) hX3 rfl
      have j3 := cells_cell (o := 3) hX3 rfl
      have j4 := cells_cell (o := 4) hX3 rfl
      have j5 := cells_cell (o := 5) hX3 rfl
      have j6 := cells_cell (o := 6) hX3 rfl
      have yy0 := cells_free hX3 0
      have yy1 := cells_free hX3 1
      have yy2 := cells_free hX3 2
      have yy3 := cells_free hX3 3
      have yy4 := cells_free hX3 4
      have yy5 := cells_free hX3 5
      have yy6 := cells_free hX3 6
      have uu0 := cells_free hR3 0
      have uu1 := cells_free hR3 1
      have uu2 := cells_free hR3 2
      have uu3 := cells_free hR3 3
      have uu4 := cells_free hR3 4
      have uu5 := cells_free hR3 5
      have uu6 := cells_free hR3 6
      have oo0 := cells_cell (o := 0) hR3 rfl
      have oo1 := cells_cell (o := 1) hR3 rfl
      have oo2 := cells_cell (o := 2) hR3 rfl
      have oo3 := cells_cell (o := 3) hR3 rfl
      have oo4 := cells_cell (o := 4) hR3 rfl
      have oo5 := cells_cell (o := 5) hR3 rfl
      have oo6 := cells_cell (o := 6) hR3 rfl
      have hlB3 := lt_of_block hX3
      have hlR3 := lt_of_block hR3
      clear hb3 hX3 hR3
      go_wp2_with fail
      have eF := (cells_set (cells_set (cells_set (cells_set (cells_set (cells_set (cells_set HR3.out 0 (.int .i64 (x.c : Nat))) 1 (.slice s1 n s3)) 2 (.bool true)) 3 (.slice r1 rn r3)) 4 (.int .i64 (x.a : Nat))) 5 (.int .i64 x.wr)) 6 (.int .i64 x.rd))
      have fF : Fr [w.heap.size, w.heap.size + 1] w3 (((((((w3.setCell ⟨w.heap.size + 1, 0, none⟩ (.int .i64 (x.c : Nat))).setCell ⟨w.heap.size + 1, 1, none⟩ (.slice s1 n s3)).setCell ⟨w.heap.size + 1, 2, none⟩ (.bool true)).setCell ⟨w.heap.size + 1, 3, none⟩ (.slice r1 rn r3)).setCell ⟨w.heap.size + 1, 4, none⟩ (.int .i64 (x.a : Nat))).setCell ⟨w.heap.size + 1, 5, none⟩ (.int .i64 x.wr)).setCell ⟨w.heap.size + 1, 6, none⟩ (.int .i64 x.rd)) := ((((((((Fr.refl [w.heap.size, w.heap.size + 1] w3).trans' ((fr_setCell _ ⟨w.heap.size + 1, 0, none⟩ (.int .i64 (x.c : Nat))).mono (by simp))).trans' ((fr_setCell _ ⟨w.heap.size + 1, 1, none⟩ (.slice s1 n s3)).mono (by simp))).trans' ((fr_setCell _ ⟨w.heap.size + 1, 2, none⟩ (.bool true)).mono (by simp))).trans' ((fr_setCell _ ⟨w.heap.size + 1, 3, none⟩ (.slice r1 rn r3)).mono (by simp))).trans' ((fr_setCell _ ⟨w.heap.size + 1, 4, none⟩ (.int .i64 (x.a : Nat))).mono (by simp))).trans' ((fr_setCell _ ⟨w.heap.size + 1, 5, none⟩ (.int .i64 x.wr)).mono (by simp))).trans' ((fr_setCell _ ⟨w.heap.size + 1, 6, none⟩ (.int .i64 x.rd)).mono (by simp)))
      obtain ⟨WF, hWF⟩ : ∃ WF, WF = (((((((w3.setCell ⟨w.heap.size + 1, 0, none⟩ (.int .i64 (x.c : Nat))).setCell ⟨w.heap.size + 1, 1, none⟩ (.slice s1 n s3)).setCell ⟨w.heap.size + 1, 2, none⟩ (.bool true)).setCell ⟨w.heap.size + 1, 3, none⟩ (.slice r1 rn r3)).setCell ⟨w.heap.size + 1, 4, none⟩ (.int .i64 (x.a : Nat))).setCell ⟨w.heap.size + 1, 5, none⟩ (.int .i64 x.wr)).setCell ⟨w.heap.size + 1, 6, none⟩ (.int .i64 x.rd)) := ⟨_, rfl⟩
      rw [← hWF] at eF fF ⊢
      clear hWF
      have eG : WF.heap[w.heap.size + 1]? = some (.cells #[.int .i64 (x.c : Nat), .slice s1 n s3, .bool true, .slice r1 rn r3, .int .i64 (x.a : Nat), .int .i64 x.wr, .int .i64 x.rd] 31 (0, 0)) := by simpa using eF
      have zz0 := cells_cell (o := 0) eG rfl
      have zz1 := cells_cell (o := 1) eG rfl
      have zz2 := cells_cell (o := 2) eG rfl
      have zz3 := cells_cell (o := 3) eG rfl
      have zz4 := cells_cell (o := 4) eG rfl
      have zz5 := cells_cell (o := 5) eG rfl
      have zz6 := cells_cell (o := 6) eG rfl
      refine bodyPost_ret (v := .tuple #[.agg #[.int .i64 (x.c : Nat), .slice s1 n s3, .bool true, .slice r1 rn r3, .int .i64 (x.a : Nat), .int .i64 x.wr, .int .i64 x.rd], .int .i64 0, .int .i64 16]) (by simp [results, Try.results44, go_sem, zz0, zz1, zz2, zz3, zz4, zz5, zz6]) rfl ?_
      have hbF := HB3.out.trans (fF.below (B := w.heap.size) (by simp) HB3.out.size)
      exact ⟨_, rfl, ⟨_, _, (by rw [← HBZ.out]; rfl), HSP.out.grown hbF, HRP.out.grown hbF⟩, hbF⟩
    · rw [if_neg (by simp [hov])]
      rw [hov] at hae
      have HAE := Lib.hid hae
      have HOK2 := HOK
      clear hbz hsv hae hpr hov
      go_enter Try.func44, Try.ntmps44
      go_upto_region 1 with fail
      rw [HW.out]
      go_wp2_with (go_at_call 49; fail)
      refine HAE.out.mono ?_
      rintro e w3 ⟨rfl, hb3⟩
      have hX3 := (hb3.block _ (lt_of_block HX0.out)).trans HX0.out
      have hR3 := (hb3.block _ (lt_of_block HR0.out)).trans HR0.out
      rw [HBZ.out] at hX3
      have HX3 := Lib.hid hX3
      have HR3 := Lib.hid hR3
      have HB3 := Lib.hid (HB.out.trans (hb3.mono HB.out.size))
      have j0 := cells_cell (o := 0) hX3 rfl
      have j1 := cells_cell (o := 1) hX3 rfl
      have j2 := cells_cell (o := 2) hX3 rfl
      have j3 := cells_cell (o := 3) hX3 rfl
      have j4 := cells_cell (o := 4) hX3 rfl
      have j5 := cells_cell (o := 5) hX3 rfl
      have j6 := cells_cell (o := 6) hX3 rfl
      have yy0 := cells_free hX3 0
      have yy1 := cells_free hX3 1
      have yy2 := cells_free hX3 2
      have yy3 := cells_free hX3 3
      have yy4 := cells_free hX3 4
      have yy5 := cells_free hX3 5
      have yy6 := cells_free hX3 6
      have uu0 := cells_free hR3 0
      have uu1 := cells_free hR3 1
      have uu2 := cells_free hR3 2
      have uu3 := cells_free hR3 3
      have uu4 := cells_free hR3 4
      have uu5 := cells_free hR3 5
      have uu6 := cells_free hR3 6
      have oo0 := cells_cell (o := 0) hR3 rfl
      have oo1 := cells_cell (o := 1) hR3 rfl
      have oo2 := cells_cell (o := 2) hR3 rfl
      have oo3 := cells_cell (o := 3) hR3 rfl
      have oo4 := cells_cell (o := 4) hR3 rfl
      have oo5 := cells_cell (o := 5) hR3 rfl
      have oo6 := cells_cell (o := 6) hR3 rfl
      have hlB3 := lt_of_block hX3
      have hlR3 := lt_of_block hR3
      clear hb3 hX3 hR3
      go_wp2_with fail
      refine wp_region_mix (fun W' => W'.heap[w.heap.size]? = some (.cells #[.int .i64 (x.c : Nat), .slice s1 n s3, .bool true, .slice r1 rn r3, .int .i64 (x.a : Nat), .int .i64 x.wr, .int .i64 x.rd] 31 (0, 0))) 5 [(true, 0), (true, 1), (true, 2), (false, 3), (true, 4)] (by kernel_rfl) (by kernel_rfl) (fun _ _ _ d _ h => by cases d <;> exact h) ?_
      have HDW : Hid (Below w3.heap.size w3 w3.drew) := Lib.hid ((Grn.refl w3).drew 1).below
      have HT : Hid (w3.drew.heap[w.heap.size]? = some (.cells #[.int .i64 (x.c : Nat), .slice s1 n s3, .bool true, .slice r1 rn r3, .int .i64 (x.a : Nat), .int .i64 x.wr, .int .i64 x.rd] 31 (0, 0))) := Lib.hid ((HDW.out.block _ (lt_of_block HX3.out)).trans HX3.out)
      simp only [List.map_cons, List.map_nil, List.getD_cons_zero, List.getD_cons_succ, List.drop_succ_cons, List.drop_zero]
      generalize w3.drew = V at *
      refine mix_take (.pointer (some ⟨w.heap.size, 4, none⟩)) HT.out rfl (fun W' hS => by go_simp) ?_
      simp only [Act.put, List.setIfInBounds_toArray, List.set_cons_zero, List.set_cons_succ]
      refine mix_take (.int .i64 (x.a : Nat)) HT.out rfl (fun W' hS => by 
        have l0 := cells_cell (o := 4) hS rfl
        go_simp) ?_
      simp only [Act.put, List.setIfInBounds_toArray, List.set_cons_zero, List.set_cons_succ]
      refine mix_take (.agg #[.int .i64 (x.c : Nat), .slice s1 n s3, .bool true, .slice r1 rn r3, .int .i64 (x.a : Nat), .int .i64 x.wr, .int .i64 x.rd]) HT.out rfl (fun W' hS => by 
        have l0 := cells_cell (o := 0) hS rfl
        have l1 := cells_cell (o := 1) hS rfl
        have l2 := cells_cell (o := 2) hS rfl
        have l3 := cells_cell (o := 3) hS rfl
        have l4 := cells_cell (o := 4) hS rfl
        have l5 := cells_cell (o := 5) hS rfl
        have l6 := cells_cell (o := 6) hS rfl
        go_simp) ?_
      simp only [Act.put, List.setIfInBounds_toArray, List.set_cons_zero, List.set_cons_succ]
      refine mix_step rfl (fun K3 hK => ?_)
      go_simp
      have hbV : Below w.heap.size w V := HB3.out.trans (HDW.out.mono HB3.out.size)
      have hhow := sfHow_any (P := P) (w := V) (v := .agg #[.int .i64 (x.c : Nat), .slice s1 n s3, .bool true, .slice r1 rn r3, .int .i64 (x.a : Nat), .int .i64 x.wr, .int .i64 x.rd]) (x := x) ⟨_, _, by rw [← HBZ.out]; rfl, HSP.out.grown hbV, HRP.out.grown hbV⟩ HOK.out
      have HHOW := Lib.hid hhow
      have HBV := Lib.hid hbV
      clear hhow hbV
      go_wp2_with (go_at_call 75; fail)
      refine HHOW.out.mono ?_
      rintro e w4 ⟨rfl, hb4⟩
      have hX4 := (hb4.block _ (lt_of_block HT.out)).trans HT.out
      have hR4 := (hb4.block _ (by have := lt_of_block HR3.out; have := HDW.out.size; omega)).trans ((HDW.out.block _ (lt_of_block HR3.out)).trans HR3.out)
      have HT4 := Lib.hid hX4
      have HR4 := Lib.hid hR4
      have HB4 := Lib.hid (HBV.out.trans (hb4.mono HBV.out.size))
      have i0 := cells_cell (o := 0) hX4 rfl
      have i1 := cells_cell (o := 1) hX4 rfl
      have i2 := cells_cell (o := 2) hX4 rfl
      have i3 := cells_cell (o := 3) hX4 rfl
      have i4 := cells_cell (o := 4) hX4 rfl
      have i5 := cells_cell (o := 5) hX4 rfl
      have i6 := cells_cell (o := 6) hX4 rfl
      have yz0 := cells_free hX4 0
      have yz1 := cells_free hX4 1
      have yz2 := cells_free hX4 2
      have yz3 := cells_free hX4 3
      have yz4 := cells_free hX4 4
      have yz5 := cells_free hX4 5
      have yz6 := cells_free hX4 6
      have uz0 := cells_free hR4 0
      have uz1 := cells_free hR4 1
      have uz2 := cells_free hR4 2
      have uz3 := cells_free hR4 3
      have uz4 := cells_free hR4 4
      have uz5 := cells_free hR4 5
      have uz6 := cells_free hR4 6
      have oz0 := cells_cell (o := 0) hR4 rfl
      have oz1 := cells_cell (o := 1) hR4 rfl
      have oz2 := cells_cell (o := 2) hR4 rfl
      have oz3 := cells_cell (o := 3) hR4 rfl
      have oz4 := cells_cell (o := 4) hR4 rfl
      have oz5 := cells_cell (o := 5) hR4 rfl
      have oz6 := cells_cell (o := 6) hR4 rfl
      have hlB4 := lt_of_block hX4
      have hlR4 := lt_of_block hR4
      clear hb4 hX4 hR4 j0 j1 j2 j3 j4 j5 j6 yy0 yy1 yy2 yy3 yy4 yy5 yy6 uu0 uu1 uu2 uu3 uu4 uu5 uu6 oo0 oo1 oo2 oo3 oo4 oo5 oo6
      refine hK _ _ HT4.out ?_
      clear hK K3
      refine mix_take (.int .i64 (x.a : Nat)) HT4.out rfl (fun W' hS => by go_simp) ?_
      simp only [Act.put, List.setIfInBounds_toArray, List.set_cons_zero, List.set_cons_succ]
      refine mix_nil ?_
      go_wp2_with fail
      have eF := (cells_set (cells_set (cells_set (cells_set (cells_set (cells_set (cells_set ((fr_setCell _ ⟨w.heap.size, 4, none⟩ (.int .i64 0)).same ((fr_setCell _ ⟨w.heap.size, 3, none⟩ (.slice none 0 0)).same ((fr_setCell _ ⟨w.heap.size, 2, none⟩ (.bool false)).same HR4.out (by simp)) (by simp)) (by simp)) 0 (.int .i64 (x.c : Nat))) 1 (.slice s1 n s3)) 2 (.bool false)) 3 (.slice none 0 0)) 4 (.int .i64 0)) 5 (.int .i64 x.wr)) 6 (.int .i64 x.rd))
      have fF : Fr [w.heap.size, w.heap.size + 1] w4 ((((((((((w4.setCell ⟨w.heap.size, 2, none⟩ (.bool false)).setCell ⟨w.heap.size, 3, none⟩ (.slice none 0 0)).setCell ⟨w.heap.size, 4, none⟩ (.int .i64 0)).setCell ⟨w.heap.size + 1, 0, none⟩ (.int .i64 (x.c : Nat))).setCell ⟨w.heap.size + 1, 1, none⟩ (.slice s1 n s3)).setCell ⟨w.heap.size + 1, 2, none⟩ (.bool false)).setCell ⟨w.heap.size + 1, 3, none⟩ (.slice none 0 0)).setCell ⟨w.heap.size + 1, 4, none⟩ (.int .i64 0)).setCell ⟨w.heap.size + 1, 5, none⟩ (.int .i64 x.wr)).setCell ⟨w.heap.size + 1, 6, none⟩ (.int .i64 x.rd)) := (((((((((((Fr.refl [w.heap.size, w.heap.size + 1] w4).trans' ((fr_setCell _ ⟨w.heap.size, 2, none⟩ (.bool false)).mono (by simp))).trans' ((fr_setCell _ ⟨w.heap.size, 3, none⟩ (.slice none 0 0)).mono (by simp))).trans' ((fr_setCell _ ⟨w.heap.size, 4, none⟩ (.int .i64 0)).mono (by simp))).trans' ((fr_setCell _ ⟨w.heap.size + 1, 0, none⟩ (.int .i64 (x.c : Nat))).mono (by simp))).trans' ((fr_setCell _ ⟨w.heap.size + 1, 1, none⟩ (.slice s1 n s3)).mono (by simp))).trans' ((fr_setCell _ ⟨w.heap.size + 1, 2, none⟩ (.bool false)).mono (by simp))).trans' ((fr_setCell _ ⟨w.heap.size + 1, 3, none⟩ (.slice none 0 0)).mono (by simp))).trans' ((fr_setCell _ ⟨w.heap.size + 1, 4, none⟩ (.int .i64 0)).mono (by simp))).trans' ((fr_setCell _ ⟨w.heap.size + 1, 5, none⟩ (.int .i64 x.wr)).mono (by simp))).trans' ((fr_setCell _ ⟨w.heap.size + 1, 6, none⟩ (.int .i64 x.rd)).mono (by simp)))
      obtain ⟨WF, hWF⟩ : ∃ WF, WF = ((((((((((w4.setCell ⟨w.heap.size, 2, none⟩ (.bool false)).setCell ⟨w.heap.size, 3, none⟩ (.slice none 0 0)).setCell ⟨w.heap.size, 4, none⟩ (.int .i64 0)).setCell ⟨w.heap.size + 1, 0, none⟩ (.int .i64 (x.c : Nat))).setCell ⟨w.heap.size + 1, 1, none⟩ (.slice s1 n s3)).setCell ⟨w.heap.size + 1, 2, none⟩ (.bool false)).setCell ⟨w.heap.size + 1, 3, none⟩ (.slice none 0 0)).setCell ⟨w.heap.size + 1, 4, none⟩ (.int .i64 0)).setCell ⟨w.heap.size + 1, 5, none⟩ (.int .i64 x.wr)).setCell ⟨w.heap.size + 1, 6, none⟩ (.int .i64 x.rd)) := ⟨_, rfl⟩
      rw [← hWF] at eF fF ⊢
      clear hWF
      have eG : WF.heap[w.heap.size + 1]? = some (.cells #[.int .i64 (x.c : Nat), .slice s1 n s3, .bool false, .slice none 0 0, .int .i64 0, .int .i64 x.wr, .int .i64 x.rd] 31 (0, 0)) := by simpa using eF
      have zz0 := cells_cell (o := 0) eG rfl
      have zz1 := cells_cell (o := 1) eG rfl
      have zz2 := cells_cell (o := 2) eG rfl
      have zz3 := cells_cell (o := 3) eG rfl
      have zz4 := cells_cell (o := 4) eG rfl
      have zz5 := cells_cell (o := 5) eG rfl
      have zz6 := cells_cell (o := 6) eG rfl
      refine bodyPost_ret (v := .tuple #[.agg #[.int .i64 (x.c : Nat), .slice s1 n s3, .bool false, .slice none 0 0, .int .i64 0, .int .i64 x.wr, .int .i64 x.rd], .int .i64 (x.a : Nat), .int .i64 x.out]) (by simp [results, Try.results44, go_sem, zz0, zz1, zz2, zz3, zz4, zz5, zz6]) rfl ?_
      have hbF := HB4.out.trans (fF.below (B := w.heap.size) (by simp) HB4.out.size)
      exact ⟨_, rfl, ⟨_, _, rfl, HSP.out.grown hbF, SrcP.nil _ _⟩, hbF⟩
end
end Go.Proofs.Yteimjkmjofaieaa
