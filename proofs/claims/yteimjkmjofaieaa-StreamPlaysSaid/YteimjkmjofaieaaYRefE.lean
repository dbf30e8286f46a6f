/- The reference's Read. -/
import Derived.Test.YteimjkmjofaieaaYRefD
namespace Go.Proofs.Yteimjkmjofaieaa
open Go.RowKit Go.Sort
set_option linter.unusedVariables false
set_option linter.unusedSimpArgs false
set_option maxRecDepth 100000
section
variable {P : Nat → Prop} {w : World} {v : Value} {x : St}
set_option maxHeartbeats 3200000 in
theorem sfRead_plain (h : SvP P w v x.rw) (ok : x.Ok) (hP : ∀ g, w.heap.size ≤ g → P g) (m : Int) (hm : m < 0 ∨ 65536 < m ∨ x.rd ≠ 0 ∨ m = 0) : Calls Try.prog 46 #[v, .int .i64 m] w fun r w' => ∃ v' vb, r = .returned (.tuple #[v', vb, .int .i64 (sRd x m).2.1]) ∧ SvP P w' v' (sRd x m).2.2.rw ∧ SrcP P w' vb (sRd x m).1 ∧ Below w.heap.size w w' := by
  obtain ⟨vS, vR, rfl, hS', hR'⟩ := h
  have hS : SrcP P w vS x.S := hS'
  have hR : SrcP P w vR x.R := hR'
  clear hS' hR'
  obtain ⟨s1, s3, rfl, -, -⟩ := hS.1.form
  obtain ⟨r1, r3, rfl, hr3, hrm⟩ := hR.1.form
  simp only [List.length_map] at *
  have hsm := ok.small
  obtain ⟨n, hn⟩ : ∃ n, n = x.S.length := ⟨_, rfl⟩
  obtain ⟨rn, hrn⟩ : ∃ n, n = x.R.length := ⟨_, rfl⟩
  rw [← hrn] at hsm hr3
  have hval : x.rw.val (.slice s1 x.S.length s3) (.slice r1 x.R.length r3) = .agg #[.int .i64 (x.c : Nat), .slice s1 n s3, .bool x.busy, .slice r1 rn r3, .int .i64 (x.a : Nat), .int .i64 x.wr, .int .i64 x.rd] := by rw [hn, hrn]; rfl
  rw [hval]
  obtain ⟨W, hW⟩ : ∃ W, W = (w.alloc (.cells #[.int .i64 (x.c : Nat), .slice s1 n s3, .bool x.busy, .slice r1 rn r3, .int .i64 (x.a : Nat), .int .i64 x.wr, .int .i64 x.rd] 31)).alloc (.cells #[.int .i64 0, .slice none 0 0, .bool false, .slice none 0 0, .int .i64 0, .int .i64 0, .int .i64 0] 31) := ⟨_, rfl⟩
  have hb : Below w.heap.size w W := by rw [hW]; exact (below_alloc _ _).trans ((below_alloc _ _).mono (by simp))
  have hX0 : W.heap[w.heap.size]? = some (.cells #[.int .i64 (x.c : Nat), .slice s1 n s3, .bool x.busy, .slice r1 rn r3, .int .i64 (x.a : Nat), .int .i64 x.wr, .int .i64 x.rd] 31 (0, 0)) := by rw [hW]; exact ((below_alloc _ _).block w.heap.size (by simp)).trans (heap_alloc_new w _)
  have hR0 : W.heap[w.heap.size + 1]? = some (.cells #[.int .i64 0, .slice none 0 0, .bool false, .slice none 0 0, .int .i64 0, .int .i64 0, .int .i64 0] 31 (0, 0)) := by rw [hW]; exact block_new _ _ _ (by simp)
  have HR0 := Lib.hid hR0
  have HX0 := Lib.hid hX0
  have HB := Lib.hid hb
  have HW := Lib.hid hW.symm
  have HOK := Lib.hid ok
  have HSP : Hid (SrcP P w (.slice s1 n s3) x.S) := Lib.hid (by rw [hn]; exact hS)
  have HRP : Hid (SrcP P w (.slice r1 rn r3) x.R) := Lib.hid (by rw [hrn]; exact hR)
  have HN := Lib.hid (And.intro hn hrn)
  have k0 := cells_cell (o := 0) hX0 rfl
  have k1 := cells_cell (o := 1) hX0 rfl
  have k2 := cells_cell (o := 2) hX0 rfl
  have k3 := cells_cell (o := 3) hX0 rfl
  have k4 := cells_cell (o := 4) hX0 rfl
  have k5 := cells_cell (o := 5) hX0 rfl
  have k6 := cells_cell (o := 6) hX0 rfl
  have y0 := cells_free hX0 0
  have y1 := cells_free hX0 1
  have y2 := cells_free hX0 2
  have y3 := cells_free hX0 3
  have y4 := cells_free hX0 4
  have y5 := cells_free hX0 5
  have y6 := cells_free hX0 6
  have u0 := cells_free hR0 0
  have u1 := cells_free hR0 1
  have u2 := cells_free hR0 2
  have u3 := cells_free hR0 3
  have u4 := cells_free hR0 4
  have u5 := cells_free hR0 5
  have u6 := cells_free hR0 6
  have o0 := cells_cell (o := 0) hR0 rfl
  have o1 := cells_cell (o := 1) hR0 rfl
  have o2 := cells_cell (o := 2) hR0 rfl
  have o3 := cells_cell (o := 3) hR0 rfl
  have o4 := cells_cell (o := 4) hR0 rfl
  have o5 := cells_cell (o := 5) hR0 rfl
  have o6 := cells_cell (o := 6) hR0 rfl
  have hlB := lt_of_block hX0
  have hlR := lt_of_block hR0
  unfold sRd
  clear hW hb hX0 hR0 hS hR hval hn hrn hr3 hrm hsm ok hP
  by_cases m0 : m < 0
  · rw [if_pos (.inl m0)]
    have t1 : decide (m < 0) = true := by simp [m0]
    clear m0 hm
    go_enter Try.func46, Try.ntmps46
    go_upto_region 1 with fail
    rw [HW.out]
    go_wp2_with fail
    have eF := (cells_set (cells_set (cells_set (cells_set (cells_set (cells_set (cells_set HR0.out 0 (.int .i64 (x.c : Nat))) 1 (.slice s1 n s3)) 2 (.bool x.busy)) 3 (.slice r1 rn r3)) 4 (.int .i64 (x.a : Nat))) 5 (.int .i64 x.wr)) 6 (.int .i64 x.rd))
    have fF : Fr [w.heap.size, w.heap.size + 1] W (((((((W.setCell ⟨w.heap.size + 1, 0, none⟩ (.int .i64 (x.c : Nat))).setCell ⟨w.heap.size + 1, 1, none⟩ (.slice s1 n s3)).setCell ⟨w.heap.size + 1, 2, none⟩ (.bool x.busy)).setCell ⟨w.heap.size + 1, 3, none⟩ (.slice r1 rn r3)).setCell ⟨w.heap.size + 1, 4, none⟩ (.int .i64 (x.a : Nat))).setCell ⟨w.heap.size + 1, 5, none⟩ (.int .i64 x.wr)).setCell ⟨w.heap.size + 1, 6, none⟩ (.int .i64 x.rd)) := ((((((((Fr.refl [w.heap.size, w.heap.size + 1] W).trans' ((fr_setCell _ ⟨w.heap.size + 1, 0, none⟩ (.int .i64 (x.c : Nat))).mono (by simp))).trans' ((fr_setCell _ ⟨w.heap.size + 1, 1, none⟩ (.slice s1 n s3)).mono (by simp))).trans' ((fr_setCell _ ⟨w.heap.size + 1, 2, none⟩ (.bool x.busy)).mono (by simp))).trans' ((fr_setCell _ ⟨w.heap.size + 1, 3, none⟩ (.slice r1 rn r3)).mono (by simp))).trans' ((fr_setCell _ ⟨w.heap.size + 1, 4, none⟩ (.int .i64 (x.a : Nat))).mono (by simp))).trans' ((fr_setCell _ ⟨w.heap.size + 1, 5, none⟩ (.int .i64 x.wr)).mono (by simp))).trans' ((fr_setCell _ ⟨w.heap.size + 1, 6, none⟩ (.int .i64 x.rd)).mono (by simp)))
    obtain ⟨WF, hWF⟩ : ∃ WF, WF = (((((((W.setCell ⟨w.heap.size + 1, 0, none⟩ (.int .i64 (x.c : Nat))).setCell ⟨w.heap.size + 1, 1, none⟩ (.slice s1 n s3)).setCell ⟨w.heap.size + 1, 2, none⟩ (.bool x.busy)).setCell ⟨w.heap.size + 1, 3, none⟩ (.slice r1 rn r3)).setCell ⟨w.heap.size + 1, 4, none⟩ (.int .i64 (x.a : Nat))).setCell ⟨w.heap.size + 1, 5, none⟩ (.int .i64 x.wr)).setCell ⟨w.heap.size + 1, 6, none⟩ (.int .i64 x.rd)) := ⟨_, rfl⟩
    rw [← hWF] at eF fF ⊢
    clear hWF
    have eG : WF.heap[w.heap.size + 1]? = some (.cells #[.int .i64 (x.c : Nat), .slice s1 n s3, .bool x.busy, .slice r1 rn r3, .int .i64 (x.a : Nat), .int .i64 x.wr, .int .i64 x.rd] 31 (0, 0)) := by simpa using eF
    have zz0 := cells_cell (o := 0) eG rfl
    have zz1 := cells_cell (o := 1) eG rfl
    have zz2 := cells_cell (o := 2) eG rfl
    have zz3 := cells_cell (o := 3) eG rfl
    have zz4 := cells_cell (o := 4) eG rfl
    have zz5 := cells_cell (o := 5) eG rfl
    have zz6 := cells_cell (o := 6) eG rfl
    refine bodyPost_ret (v := .tuple #[.agg #[.int .i64 (x.c : Nat), .slice s1 n s3, .bool x.busy, .slice r1 rn r3, .int .i64 (x.a : Nat), .int .i64 x.wr, .int .i64 x.rd], .slice none 0 0, .int .i64 2]) (by simp [results, Try.results46, go_sem, zz0, zz1, zz2, zz3, zz4, zz5, zz6]) rfl ?_
    have hbF := HB.out.trans (fF.below (B := w.heap.size) (by simp) HB.out.size)
    exact ⟨_, _, rfl, ⟨_, _, rfl, HSP.out.grown hbF, HRP.out.grown hbF⟩, SrcP.nil _ _, hbF⟩
  · have t1 : decide (m < 0) = false := by simp; omega
    by_cases m1 : 65536 < m
    · rw [if_pos (.inr m1)]
      have t2 : decide (65536 < m) = true := by simp [m1]
      clear m0 hm m1
      go_enter Try.func46, Try.ntmps46
      go_upto_region 1 with fail
      rw [HW.out]
      go_wp2_with fail
      have eF := (cells_set (cells_set (cells_set (cells_set (cells_set (cells_set (cells_set HR0.out 0 (.int .i64 (x.c : Nat))) 1 (.slice s1 n s3)) 2 (.bool x.busy)) 3 (.slice r1 rn r3)) 4 (.int .i64 (x.a : Nat))) 5 (.int .i64 x.wr)) 6 (.int .i64 x.rd))
      have fF : Fr [w.heap.size, w.heap.size + 1] W (((((((W.setCell ⟨w.heap.size + 1, 0, none⟩ (.int .i64 (x.c : Nat))).setCell ⟨w.heap.size + 1, 1, none⟩ (.slice s1 n s3)).setCell ⟨w.heap.size + 1, 2, none⟩ (.bool x.busy)).setCell ⟨w.heap.size + 1, 3, none⟩ (.slice r1 rn r3)).setCell ⟨w.heap.size + 1, 4, none⟩ (.int .i64 (x.a : Nat))).setCell ⟨w.heap.size + 1, 5, none⟩ (.int .i64 x.wr)).setCell ⟨w.heap.size + 1, 6, none⟩ (.int .i64 x.rd)) := ((((((((Fr.refl [w.heap.size, w.heap.size + 1] W).trans' ((fr_setCell _ ⟨w.heap.size + 1, 0, none⟩ (.int .i64 (x.c : Nat))).mono (by simp))).trans' ((fr_setCell _ ⟨w.heap.size + 1, 1, none⟩ (.slice s1 n s3)).mono (by simp))).trans' ((fr_setCell _ ⟨w.heap.size + 1, 2, none⟩ (.bool x.busy)).mono (by simp))).trans' ((fr_setCell _ ⟨w.heap.size + 1, 3, none⟩ (.slice r1 rn r3)).mono (by simp))).trans' ((fr_setCell _ ⟨w.heap.size + 1, 4, none⟩ (.int .i64 (x.a : Nat))).mono (by simp))).trans' ((fr_setCell _ ⟨w.heap.size + 1, 5, none⟩ (.int .i64 x.wr)).mono (by simp))).trans' ((fr_setCell _ ⟨w.heap.size + 1, 6, none⟩ (.int .i64 x.rd)).mono (by simp)))
      obtain ⟨WF, hWF⟩ : ∃ WF, WF = (((((((W.setCell ⟨w.heap.size + 1, 0, none⟩ (.int .i64 (x.c : Nat))).setCell ⟨w.heap.size + 1, 1, none⟩ (.slice s1 n s3)).setCell ⟨w.heap.size + 1, 2, none⟩ (.bool x.busy)).setCell ⟨w.heap.size + 1, 3, none⟩ (.slice r1 rn r3)).setCell ⟨w.heap.size + 1, 4, none⟩ (.int .i64 (x.a : Nat))).setCell ⟨w.heap.size + 1, 5, none⟩ (.int .i64 x.wr)).setCell ⟨w.heap.size + 1, 6, none⟩ (.int .i64 x.rd)) := ⟨_, rfl⟩
      rw [← hWF] at eF fF ⊢
      clear hWF
      have eG : WF.heap[w.heap.size + 1]? = some (.cells #[.int .i64 (x.c : Nat), .slice s1 n s3, .bool x.busy, .slice r1 rn r3, .int .i64 (x.a : Nat), .int .i64 x.wr, .int .i64 x.rd] 31 (0, 0)) := by simpa using eF
      have zz0 := cells_cell (o := 0) eG rfl
      have zz1 := cells_cell (o := 1) eG rfl
      have zz2 := cells_cell (o := 2) eG rfl
      have zz3 := cells_cell (o := 3) eG rfl
      have zz4 := cells_cell (o := 4) eG rfl
      have zz5 := cells_cell (o := 5) eG rfl
      have zz6 := cells_cell (o := 6) eG rfl
      refine bodyPost_ret (v := .tuple #[.agg #[.int .i64 (x.c : Nat), .slice s1 n s3, .bool x.busy, .slice r1 rn r3, .int .i64 (x.a : Nat), .int .i64 x.wr, .int .i64 x.rd], .slice none 0 0, .int .i64 2]) (by simp [results, Try.results46, go_sem, zz0, zz1, zz2, zz3, zz4, zz5, zz6]) rfl ?_
      have hbF := HB.out.trans (fF.below (B := w.heap.size) (by simp) HB.out.size)
      exact ⟨_, _, rfl, ⟨_, _, rfl, HSP.out.grown hbF, HRP.out.grown hbF⟩, SrcP.nil _ _, hbF⟩
    · have t2 : decide (65536 < m) = false := by simp; omega
      rw [if_neg (by omega)]
      by_cases hr : x.rd = 0
      · have m2 : m = 0 := by
          rcases hm with hm | hm | hm | hm
          · exact absurd hm m0
          · exact absurd hm m1
          · exact absurd hr hm
          · exact hm
        subst m2
        rw [if_neg (by simp [hr]), if_pos rfl]
        have t3 : (x.rd != 0) = false := by simp [hr]
        clear m0 m1 hm hr t1 t2
        go_enter Try.func46, Try.ntmps46
        go_upto_region 1 with fail
        rw [HW.out]
        go_wp2_with fail
        have eF := (cells_set (cells_set (cells_set (cells_set (cells_set (cells_set (cells_set HR0.out 0 (.int .i64 (x.c : Nat))) 1 (.slice s1 n s3)) 2 (.bool x.busy)) 3 (.slice r1 rn r3)) 4 (.int .i64 (x.a : Nat))) 5 (.int .i64 x.wr)) 6 (.int .i64 x.rd))
        have fF : Fr [w.heap.size, w.heap.size + 1] W (((((((W.setCell ⟨w.heap.size + 1, 0, none⟩ (.int .i64 (x.c : Nat))).setCell ⟨w.heap.size + 1, 1, none⟩ (.slice s1 n s3)).setCell ⟨w.heap.size + 1, 2, none⟩ (.bool x.busy)).setCell ⟨w.heap.size + 1, 3, none⟩ (.slice r1 rn r3)).setCell ⟨w.heap.size + 1, 4, none⟩ (.int .i64 (x.a : Nat))).setCell ⟨w.heap.size + 1, 5, none⟩ (.int .i64 x.wr)).setCell ⟨w.heap.size + 1, 6, none⟩ (.int .i64 x.rd)) := ((((((((Fr.refl [w.heap.size, w.heap.size + 1] W).trans' ((fr_setCell _ ⟨w.heap.size + 1, 0, none⟩ (.int .i64 (x.c : Nat))).mono (by simp))).trans' ((fr_setCell _ ⟨w.heap.size + 1, 1, none⟩ (.slice s1 n s3)).mono (by simp))).trans' ((fr_setCell _ ⟨w.heap.size + 1, 2, none⟩ (.bool x.busy)).mono (by simp))).trans' ((fr_setCell _ ⟨w.heap.size + 1, 3, none⟩ (.slice r1 rn r3)).mono (by simp))).trans' ((fr_setCell _ ⟨w.heap.size + 1, 4, none⟩ (.int .i64 (x.a : Nat))).mono (by simp))).trans' ((fr_setCell _ ⟨w.heap.size + 1, 5, none⟩ (.int .i64 x.wr)).mono (by simp))).trans' ((fr_setCell _ ⟨w.heap.size + 1, 6, none⟩ (.int .i64 x.rd)).mono (by simp)))
        obtain ⟨WF, hWF⟩ : ∃ WF, WF = (((((((W.setCell ⟨w.heap.size + 1, 0, none⟩ (.int .i64 (x.c : Nat))).setCell ⟨w.heap.size + 1, 1, none⟩ (.slice s1 n s3)).setCell ⟨w.heap.size + 1, 2, none⟩ (.bool x.busy)).setCell ⟨w.heap.size + 1, 3, none⟩ (.slice r1 rn r3)).setCell ⟨w.heap.size + 1, 4, none⟩ (.int .i64 (x.a : Nat))).setCell ⟨w.heap.size + 1, 5, none⟩ (.int .i64 x.wr)).setCell ⟨w.heap.size + 1, 6, none⟩ (.int .i64 x.rd)) := ⟨_, rfl⟩
        rw [← hWF] at eF fF ⊢
        clear hWF
        have eG : WF.heap[w.heap.size + 1]? = some (.cells #[.int .i64 (x.c : Nat), .slice s1 n s3, .bool x.busy, .slice r1 rn r3, .int .i64 (x.a : Nat), .int .i64 x.wr, .int .i64 x.rd] 31 (0, 0)) := by simpa using eF
        have zz0 := cells_cell (o := 0) eG rfl
        have zz1 := cells_cell (o := 1) eG rfl
        have zz2 := cells_cell (o := 2) eG rfl
        have zz3 := cells_cell (o := 3) eG rfl
        have zz4 := cells_cell (o := 4) eG rfl
        have zz5 := cells_cell (o := 5) eG rfl
        have zz6 := cells_cell (o := 6) eG rfl
        refine bodyPost_ret (v := .tuple #[.agg #[.int .i64 (x.c : Nat), .slice s1 n s3, .bool x.busy, .slice r1 rn r3, .int .i64 (x.a : Nat), .int .i64 x.wr, .int .i64 x.rd], .slice none 0 0, .int .i64 0]) (by simp [results, Try.results46, go_sem, zz0, zz1, zz2, zz3, zz4, zz5, zz6]) rfl ?_
        have hbF := HB.out.trans (fF.below (B := w.heap.size) (by simp) HB.out.size)
        exact ⟨_, _, rfl, ⟨_, _, rfl, HSP.out.grown hbF, HRP.out.grown hbF⟩, SrcP.nil _ _, hbF⟩
      · rw [if_pos hr]
        have t3 : (x.rd != 0) = true := by simp [hr]
        clear m0 m1 hm hr
        go_enter Try.func46, Try.ntmps46
        go_upto_region 1 with fail
        rw [HW.out]
        go_wp2_with fail
        have eF := (cells_set (cells_set (cells_set (cells_set (cells_set (cells_set (cells_set HR0.out 0 (.int .i64 (x.c : Nat))) 1 (.slice s1 n s3)) 2 (.bool x.busy)) 3 (.slice r1 rn r3)) 4 (.int .i64 (x.a : Nat))) 5 (.int .i64 x.wr)) 6 (.int .i64 x.rd))
        have fF : Fr [w.heap.size, w.heap.size + 1] W (((((((W.setCell ⟨w.heap.size + 1, 0, none⟩ (.int .i64 (x.c : Nat))).setCell ⟨w.heap.size + 1, 1, none⟩ (.slice s1 n s3)).setCell ⟨w.heap.size + 1, 2, none⟩ (.bool x.busy)).setCell ⟨w.heap.size + 1, 3, none⟩ (.slice r1 rn r3)).setCell ⟨w.heap.size + 1, 4, none⟩ (.int .i64 (x.a : Nat))).setCell ⟨w.heap.size + 1, 5, none⟩ (.int .i64 x.wr)).setCell ⟨w.heap.size + 1, 6, none⟩ (.int .i64 x.rd)) := ((((((((Fr.refl [w.heap.size, w.heap.size + 1] W).trans' ((fr_setCell _ ⟨w.heap.size + 1, 0, none⟩ (.int .i64 (x.c : Nat))).mono (by simp))).trans' ((fr_setCell _ ⟨w.heap.size + 1, 1, none⟩ (.slice s1 n s3)).mono (by simp))).trans' ((fr_setCell _ ⟨w.heap.size + 1, 2, none⟩ (.bool x.busy)).mono (by simp))).trans' ((fr_setCell _ ⟨w.heap.size + 1, 3, none⟩ (.slice r1 rn r3)).mono (by simp))).trans' ((fr_setCell _ ⟨w.heap.size + 1, 4, none⟩ (.int .i64 (x.a : Nat))).mono (by simp))).trans' ((fr_setCell _ ⟨w.heap.size + 1, 5, none⟩ (.int .i64 x.wr)).mono (by simp))).trans' ((fr_setCell _ ⟨w.heap.size + 1, 6, none⟩ (.int .i64 x.rd)).mono (by simp)))
        obtain ⟨WF, hWF⟩ : ∃ WF, WF = (((((((W.setCell ⟨w.heap.size + 1, 0, none⟩ (.int .i64 (x.c : Nat))).setCell ⟨w.heap.size + 1, 1, none⟩ (.slice s1 n s3)).setCell ⟨w.heap.size + 1, 2, none⟩ (.bool x.busy)).setCell ⟨w.heap.size + 1, 3, none⟩ (.slice r1 rn r3)).setCell ⟨w.heap.size + 1, 4, none⟩ (.int .i64 (x.a : Nat))).setCell ⟨w.heap.size + 1, 5, none⟩ (.int .i64 x.wr)).setCell ⟨w.heap.size + 1, 6, none⟩ (.int .i64 x.rd)) := ⟨_, rfl⟩
        rw [← hWF] at eF fF ⊢
        clear hWF
        have eG : WF.heap[w.heap.size + 1]? = some (.cells #[.int .i64 (x.c : Nat), .slice s1 n s3, .bool x.busy, .slice r1 rn r3, .int .i64 (x.a : Nat), .int .i64 x.wr, .int .i64 x.rd] 31 (0, 0)) := by simpa using eF
        have zz0 := cells_cell (o := 0) eG rfl
        have zz1 := cells_cell (o := 1) eG rfl
        have zz2 := cells_cell (o := 2) eG rfl
        have zz3 := cells_cell (o := 3) eG rfl
        have zz4 := cells_cell (o := 4) eG rfl
        have zz5 := cells_cell (o := 5) eG rfl
        have zz6 := cells_cell (o := 6) eG rfl
        refine bodyPost_ret (v := .tuple #[.agg #[.int .i64 (x.c : Nat), .slice s1 n s3, .bool x.busy, .slice r1 rn r3, .int .i64 (x.a : Nat), .int .i64 x.wr, .int .i64 x.rd], .slice none 0 0, .int .i64 14]) (by simp [results, Try.results46, go_sem, zz0, zz1, zz2, zz3, zz4, zz5, zz6]) rfl ?_
        have hbF := HB.out.trans (fF.below (B := w.heap.size) (by simp) HB.out.size)
        exact ⟨_, _, rfl, ⟨_, _, rfl, HSP.out.grown hbF, HRP.out.grown hbF⟩, SrcP.nil _ _, hbF⟩
set_option maxHeartbeats 3200000 in
theorem sfRead_buf (h : SvP P w v x.rw) (ok : x.Ok) (hP : ∀ g, w.heap.size ≤ g → P g) (m : Int) (hm : 0 < m ∧ m ≤ 65536) (hrd : x.rd = 0) (hS0 : x.S ≠ []) : Calls Try.prog 46 #[v, .int .i64 m] w fun r w' => ∃ v' vb, r = .returned (.tuple #[v', vb, .int .i64 (sRd x m).2.1]) ∧ SvP P w' v' (sRd x m).2.2.rw ∧ SrcP P w' vb (sRd x m).1 ∧ Below w.heap.size w w' := by
  obtain ⟨vS, vR, rfl, hS', hR'⟩ := h
  have hS : SrcP P w vS x.S := hS'
  have hR : SrcP P w vR x.R := hR'
  clear hS' hR'
  obtain ⟨s1, s3, rfl, -, -⟩ := hS.1.form
  obtain ⟨r1, r3, rfl, hr3, hrm⟩ := hR.1.form
  simp only [List.length_map] at *
  have hsm := ok.small
  obtain ⟨n, hn⟩ : ∃ n, n = x.S.length := ⟨_, rfl⟩
  obtain ⟨rn, hrn⟩ : ∃ n, n = x.R.length := ⟨_, rfl⟩
  rw [← hrn] at hsm hr3
  have hval : x.rw.val (.slice s1 x.S.length s3) (.slice r1 x.R.length r3) = .agg #[.int .i64 (x.c : Nat), .slice s1 n s3, .bool x.busy, .slice r1 rn r3, .int .i64 (x.a : Nat), .int .i64 x.wr, .int .i64 x.rd] := by rw [hn, hrn]; rfl
  rw [hval]
  obtain ⟨W, hW⟩ : ∃ W, W = (w.alloc (.cells #[.int .i64 (x.c : Nat), .slice s1 n s3, .bool x.busy, .slice r1 rn r3, .int .i64 (x.a : Nat), .int .i64 x.wr, .int .i64 x.rd] 31)).alloc (.cells #[.int .i64 0, .slice none 0 0, .bool false, .slice none 0 0, .int .i64 0, .int .i64 0, .int .i64 0] 31) := ⟨_, rfl⟩
  have hb : Below w.heap.size w W := by rw [hW]; exact (below_alloc _ _).trans ((below_alloc _ _).mono (by simp))
  have hX0 : W.heap[w.heap.size]? = some (.cells #[.int .i64 (x.c : Nat), .slice s1 n s3, .bool x.busy, .slice r1 rn r3, .int .i64 (x.a : Nat), .int .i64 x.wr, .int .i64 x.rd] 31 (0, 0)) := by rw [hW]; exact ((below_alloc _ _).block w.heap.size (by simp)).trans (heap_alloc_new w _)
  have hR0 : W.heap[w.heap.size + 1]? = some (.cells #[.int .i64 0, .slice none 0 0, .bool false, .slice none 0 0, .int .i64 0, .int .i64 0, .int .i64 0] 31 (0, 0)) := by rw [hW]; exact block_new _ _ _ (by simp)
  have HR0 := Lib.hid hR0
  have HX0 := Lib.hid hX0
  have HB := Lib.hid hb
  have HW := Lib.hid hW.symm
  have HOK := Lib.hid ok
  have HSP : Hid (SrcP P w (.slice s1 n s3) x.S) := Lib.hid (by rw [hn]; exact hS)
  have HRP : Hid (SrcP P w (.slice r1 rn r3) x.R) := Lib.hid (by rw [hrn]; exact hR)
  have HN := Lib.hid (And.intro hn hrn)
  have k0 := cells_cell (o := 0) hX0 rfl
  have k1 := cells_cell (o := 1) hX0 rfl
  have k2 := cells_cell (o := 2) hX0 rfl
  have k3 := cells_cell (o := 3) hX0 rfl
  have k4 := cells_cell (o := 4) hX0 rfl
  have k5 := cells_cell (o := 5) hX0 rfl
  have k6 := cells_cell (o := 6) hX0 rfl
  have y0 := cells_free hX0 0
  have y1 := cells_free hX0 1
  have y2 := cells_free hX0 2
  have y3 := cells_free hX0 3
  have y4 := cells_free hX0 4
  have y5 := cells_free hX0 5
  have y6 := cells_free hX0 6
  have u0 := cells_free hR0 0
  have u1 := cells_free hR0 1
  have u2 := cells_free hR0 2
  have u3 := cells_free hR0 3
  have u4 := cells_free hR0 4
  have u5 := cells_free hR0 5
  have u6 := cells_free hR0 6
  have o0 := cells_cell (o := 0) hR0 rfl
  have o1 := cells_cell (o := 1) hR0 rfl
  have o2 := cells_cell (o := 2) hR0 rfl
  have o3 := cells_cell (o := 3) hR0 rfl
  have o4 := cells_cell (o := 4) hR0 rfl
  have o5 := cells_cell (o := 5) hR0 rfl
  have o6 := cells_cell (o := 6) hR0 rfl
  have hlB := lt_of_block hX0
  have hlR := lt_of_block hR0
  have hcp := sfCopy_any (w := W) (r := x.rw) (hS.1.grown hb) (hR.1.grown hb) (by show x.S.length ≤ _; have := ok.le; have := ok.top; omega) (by show x.R.length ≤ _; have := ok.small; omega)
  rw [hval] at hcp
  have HCP := Lib.hid hcp
  have HPP := Lib.hid hP
  have HM := Lib.hid hm
  have t1 : decide (m < 0) = false := by simp; omega
  have t2 : decide (65536 < m) = false := by simp; omega
  have t3 : (m == 0) = false := by simp; omega
  have t4 : (x.rd != 0) = false := by simp [hrd]
  have HRD := Lib.hid hrd
  unfold sRd
  rw [if_neg (by omega), if_neg (by simp [hrd]), if_neg (by omega)]
  have hcc : x.c ≠ 0 := fun q => hS0 (List.eq_nil_of_length_eq_zero (by have := ok.le; omega))
  have htk : x.take m.toNat = x.S.take m.toNat := by unfold St.take; rw [if_neg hcc]
  have hnn : x.S.length ≠ 0 := fun q => hS0 (List.eq_nil_of_length_eq_zero q)
  have hne : x.take m.toNat ≠ [] := by
    rw [htk]
    intro q
    have h := congrArg List.length q
    rw [List.length_take, List.length_nil] at h
    omega
  rw [if_neg hne, htk]
  have hlf : x.left m.toNat = ({ x with S := x.S.drop m.toNat } : St).fill := by unfold St.left; rw [if_neg hcc]
  rw [hlf]
  obtain ⟨N, hNd⟩ : ∃ N, N = min m.toNat x.S.length := ⟨_, rfl⟩
  have hmin : min m (n : Int) = (N : Int) := by rw [hNd, hn]; omega
  have t5 : decide (0 < (n : Int)) = true := by simp; omega
  have t6 : decide (0 < n) = true := by simp; omega
  have t7 : (N : Int) ≤ (n : Int) := by omega
  have HND := Lib.hid (And.intro hNd hmin)
  have HNN := Lib.hid hnn
  clear hW hb hX0 hR0 hS hR hval hn hrn hr3 hrm hsm ok hP hm hrd hcp hcc htk hnn hne hlf hNd hmin hS0
  go_enter Try.func46, Try.ntmps46
  go_upto_region 1 with fail
  rw [HW.out]
  go_wp2_with (go_at_call 14; fail)
  refine HCP.out.mono ?_
  rintro e w2 ⟨uS, uR, mid, rfl, hrS, hdj, hmid, hrR, hb2⟩
  obtain ⟨p1, p3, hpS⟩ : ∃ a c, uS = .slice a n c := by
    obtain ⟨a, c, e, _⟩ := hrS.form
    exact ⟨a, c, by rw [e, HN.out.1]; rfl⟩
  subst hpS
  obtain ⟨q1, q3, hqR⟩ : ∃ a c, uR = .slice a rn c := by
    obtain ⟨a, c, e, _⟩ := hrR.form
    exact ⟨a, c, by rw [e, HN.out.2]; rfl⟩
  subst hqR
  have hX2 := (hb2.block _ (lt_of_block HX0.out)).trans HX0.out
  have hR2 := (hb2.block _ (lt_of_block HR0.out)).trans HR0.out
  have HX2 := Lib.hid hX2
  have HR2 := Lib.hid hR2
  have HB2 := Lib.hid hb2
  have HRS := Lib.hid hrS
  have HRR := Lib.hid hrR
  have HMID := Lib.hid hmid
  have j0 := cells_cell (o := 0) hX2 rfl
  have j1 := cells_cell (o := 1) hX2 rfl
  have j2 := cells_cell (o := 2) hX2 rfl
  have j3 := cells_cell (o := 3) hX2 rfl
  have j4 := cells_cell (o := 4) hX2 rfl
  have j5 := cells_cell (o := 5) hX2 rfl
  have j6 := cells_cell (o := 6) hX2 rfl
  have yy0 := cells_free hX2 0
  have yy1 := cells_free hX2 1
  have yy2 := cells_free hX2 2
  have yy3 := cells_free hX2 3
  have yy4 := cells_free hX2 4
  have yy5 := cells_free hX2 5
  have yy6 := cells_free hX2 6
  have hl2 := lt_of_block hX2
  clear hb2 hX2 hR2 hrS hrR hdj hmid hlB hlR
  clear k0 k1 k2 k3 k4 k5 k6 y0 y1 y2 y3 y4 y5 y6 u0 u1 u2 u3 u4 u5 u6 o0 o1 o2 o3 o4 o5 o6
  unfold Rw.val St.rw
  go_upto_region 8 with fail
  have eX := (cells_set (cells_set (cells_set (cells_set (cells_set (cells_set (cells_set HX2.out 0 (.int .i64 (x.c : Nat))) 1 (.slice p1 n p3)) 2 (.bool x.busy)) 3 (.slice q1 rn q3)) 4 (.int .i64 (x.a : Nat))) 5 (.int .i64 x.wr)) 6 (.int .i64 x.rd))
  have fX : Fr [w.heap.size] w2 (((((((w2.setCell ⟨w.heap.size, 0, none⟩ (.int .i64 (x.c : Nat))).setCell ⟨w.heap.size, 1, none⟩ (.slice p1 n p3)).setCell ⟨w.heap.size, 2, none⟩ (.bool x.busy)).setCell ⟨w.heap.size, 3, none⟩ (.slice q1 rn q3)).setCell ⟨w.heap.size, 4, none⟩ (.int .i64 (x.a : Nat))).setCell ⟨w.heap.size, 5, none⟩ (.int .i64 x.wr)).setCell ⟨w.heap.size, 6, none⟩ (.int .i64 x.rd)) := ((((((((Fr.refl [w.heap.size] w2).trans' ((fr_setCell _ ⟨w.heap.size, 0, none⟩ (.int .i64 (x.c : Nat))).mono (by simp))).trans' ((fr_setCell _ ⟨w.heap.size, 1, none⟩ (.slice p1 n p3)).mono (by simp))).trans' ((fr_setCell _ ⟨w.heap.size, 2, none⟩ (.bool x.busy)).mono (by simp))).trans' ((fr_setCell _ ⟨w.heap.size, 3, none⟩ (.slice q1 rn q3)).mono (by simp))).trans' ((fr_setCell _ ⟨w.heap.size, 4, none⟩ (.int .i64 (x.a : Nat))).mono (by simp))).trans' ((fr_setCell _ ⟨w.heap.size, 5, none⟩ (.int .i64 x.wr)).mono (by simp))).trans' ((fr_setCell _ ⟨w.heap.size, 6, none⟩ (.int .i64 x.rd)).mono (by simp)))
  obtain ⟨W3, hW3⟩ : ∃ W3, W3 = (((((((w2.setCell ⟨w.heap.size, 0, none⟩ (.int .i64 (x.c : Nat))).setCell ⟨w.heap.size, 1, none⟩ (.slice p1 n p3)).setCell ⟨w.heap.size, 2, none⟩ (.bool x.busy)).setCell ⟨w.heap.size, 3, none⟩ (.slice q1 rn q3)).setCell ⟨w.heap.size, 4, none⟩ (.int .i64 (x.a : Nat))).setCell ⟨w.heap.size, 5, none⟩ (.int .i64 x.wr)).setCell ⟨w.heap.size, 6, none⟩ (.int .i64 x.rd)) := ⟨_, rfl⟩
  rw [← hW3] at eX fX ⊢
  clear hW3
  have hX3 : W3.heap[w.heap.size]? = some (.cells #[.int .i64 (x.c : Nat), .slice p1 n p3, .bool x.busy, .slice q1 rn q3, .int .i64 (x.a : Nat), .int .i64 x.wr, .int .i64 x.rd] 31 (0, 0)) := by simpa using eX
  have hR3 := fX.same HR2.out (by simp)
  have hwz : w.heap.size + 1 < W.heap.size := lt_of_block HR0.out
  have HS3 : Hid (RowB W3 W.heap.size (.slice p1 n p3) x.S) := Lib.hid (fX.row HRS.out (fun g hg hm => by have := (HRS.out.lt g hg).1; simp only [List.mem_singleton] at hm; omega))
  have HT3 : Hid (RowB W3 W.heap.size (.slice q1 rn q3) x.R) := Lib.hid (RowV.lower (fX.row HRR.out (fun g hg hm => by have := (HRR.out.lt g hg).1; have := HMID.out; simp only [List.mem_singleton] at hm; omega)) HMID.out)
  have HC3 : Hid (Below w.heap.size w W3) := Lib.hid ((HB.out.trans (HB2.out.mono HB.out.size)).trans (fX.below (by simp) (by have := HB.out.size; have := HB2.out.size; omega)))
  have HWZ : Hid (w.heap.size + 1 < W.heap.size ∧ W.heap.size ≤ W3.heap.size) := Lib.hid ⟨hwz, by have := fX.size; have := HB2.out.size; omega⟩
  have HX3 := Lib.hid hX3
  have HR3 := Lib.hid hR3
  clear j0 j1 j2 j3 j4 j5 j6 yy0 yy1 yy2 yy3 yy4 yy5 yy6
  have k0 := cells_cell (o := 0) hX3 rfl
  have k1 := cells_cell (o := 1) hX3 rfl
  have k2 := cells_cell (o := 2) hX3 rfl
  have k3 := cells_cell (o := 3) hX3 rfl
  have k4 := cells_cell (o := 4) hX3 rfl
  have k5 := cells_cell (o := 5) hX3 rfl
  have k6 := cells_cell (o := 6) hX3 rfl
  have y0 := cells_free hX3 0
  have y1 := cells_free hX3 1
  have y2 := cells_free hX3 2
  have y3 := cells_free hX3 3
  have y4 := cells_free hX3 4
  have y5 := cells_free hX3 5
  have y6 := cells_free hX3 6
  have u0 := cells_free hR3 0
  have u1 := cells_free hR3 1
  have u2 := cells_free hR3 2
  have u3 := cells_free hR3 3
  have u4 := cells_free hR3 4
  have u5 := cells_free hR3 5
  have u6 := cells_free hR3 6
  have o0 := cells_cell (o := 0) hR3 rfl
  have o1 := cells_cell (o := 1) hR3 rfl
  have o2 := cells_cell (o := 2) hR3 rfl
  have o3 := cells_cell (o := 3) hR3 rfl
  have o4 := cells_cell (o := 4) hR3 rfl
  have o5 := cells_cell (o := 5) hR3 rfl
  have o6 := cells_cell (o := 6) hR3 rfl
  have hlBk := lt_of_block hX3
  have hlRk := lt_of_block hR3
  clear eX fX hX3 hR3 hl2 hwz
  have hp3 : PieceG W3 (.slice p1 n p3) x.S 0 ∨ True := .inr trivial
  obtain ⟨g, hpg, hgo⟩ := RowB.pieceG HS3.out W.heap.size
  have hgw : W.heap.size ≤ g := by rcases hgo with hgo | hgo <;> omega
  have hNl : N ≤ x.S.length := by have := HND.out.1; omega
  have hcut := hpg.cut hNl
  rcases (show PieceG W3 (.slice p1 n p3) x.S g from hpg) with ⟨_, hnil⟩ | ⟨off, c', cur, hv, hp1, hp2, hpb, hp4⟩
  · exact absurd (by rw [hnil]; rfl) HNN.out
  simp only [Value.slice.injEq] at hv
  obtain ⟨rfl, -, hc'⟩ := hv
  subst hc'
  have t8 : (n : Int) ≤ (p3 : Int) := by have := HN.out.1; omega
  have t9 : (N : Int) ≤ (p3 : Int) := by omega
  have HCUT := Lib.hid hcut
  have HPG := Lib.hid hpg
  have HGW := Lib.hid hgw
  have HGB := Lib.hid hpb
  have HNL := Lib.hid hNl
  have htkN : x.S.take N = x.S.take m.toNat := by rw [HND.out.1, take_min]
  have hdrN : x.S.drop N = x.S.drop m.toNat := by rw [HND.out.1, drop_min]
  have HTD := Lib.hid (And.intro htkN hdrN)
  have HEND : Hid (∀ e, e = (if N = p3 then off else off + N) → ∀ W5, W5 = (W3.setCell ⟨w.heap.size, 1, none⟩ (.slice (some ⟨g, e, none⟩) (n - N) (p3 - N))) → (W5.heap[w.heap.size + 1]? = some (.cells #[.int .i64 0, .slice none 0 0, .bool false, .slice none 0 0, .int .i64 0, .int .i64 0, .int .i64 0] 31 (0, 0)) ∧ SvP (fun _ => True) W5 (.agg #[.int .i64 (x.c : Nat), .slice (some ⟨g, e, none⟩) (n - N) (p3 - N), .bool x.busy, .slice q1 rn q3, .int .i64 (x.a : Nat), .int .i64 x.wr, .int .i64 x.rd]) ({ x with S := x.S.drop m.toNat } : St).rw ∧ PieceG W5 (.slice (some ⟨g, off, none⟩) N N) (x.S.take m.toNat) g ∧ Below w.heap.size w W5 ∧ W.heap.size ≤ W5.heap.size)) := Lib.hid (fun e he W5 hW5 => by
    have fF : Fr [w.heap.size] W3 ((W3.setCell ⟨w.heap.size, 1, none⟩ (.slice (some ⟨g, e, none⟩) (n - N) (p3 - N)))) := ((Fr.refl [w.heap.size] W3).trans' ((fr_setCell _ ⟨w.heap.size, 1, none⟩ (.slice (some ⟨g, e, none⟩) (n - N) (p3 - N))).mono (by simp)))
    rw [← hW5] at fF
    have hwz := HWZ.out
    have hpr := HPG.out.rest HNL.out e he
    rw [HTD.out.2] at hpr
    have hno : g ∉ [w.heap.size] := by simp only [List.mem_singleton]; have := HGW.out; omega
    refine ⟨fF.same HR3.out (by simp), ⟨_, _, rfl, PieceG.srcP (hpr.fr fF hno) trivial, RowB.srcP (fF.row HT3.out (fun g hg hm => by have := (HT3.out.lt g hg).1; simp only [List.mem_singleton] at hm; omega)) (fun _ _ => trivial)⟩, ?_, HC3.out.trans (fF.below (by simp) HC3.out.size), by have := fF.size; omega⟩
    have := HCUT.out
    rw [HTD.out.1] at this
    exact this.fr fF hno)
  clear hp3 hpg hgo hgw hNl hcut hp1 hp2 hpb hp4 htkN hdrN
  by_cases hc1 : N = p3
  · subst hc1
    have hnN : N = n := by omega
    subst hnN
    have he := HEND.out off (by simp) _ rfl
    simp only [Nat.sub_self] at he
    obtain ⟨hRW, hsv5, hout, hbW, hWW⟩ := he
    have hfl := sfFill_any (P := fun g => W.heap.size ≤ g) hsv5 (fun g hg => Nat.le_trans hWW hg) HOK.out.top (by show (x.S.drop _).length ≤ x.c; have := HOK.out.le; rw [List.length_drop]; omega) (fun q => (HOK.out.idle q).1) HOK.out.small
    have HFL := Lib.hid hfl
    have HRW := Lib.hid hRW
    have HOUT := Lib.hid hout
    have HBW := Lib.hid hbW
    clear hRW hsv5 hout hbW hWW hfl
    go_wp2_with (first
      | (refine wpList_min rfl (.tmp 31) (.tmp 34) _ rfl m N N rfl rfl HND.out.2 ?_)
      | (go_at_call 74; fail))
    refine HFL.out.mono ?_
    rintro e w6 ⟨v6, rfl, hsv6, hb6⟩
    obtain ⟨z0, a1, a2, a3, zb, b1, b2, b3, z4, z5, z6, rfl⟩ : ∃ z0 a1 a2 a3 zb b1 b2 b3 z4 z5 z6, v6 = .agg #[.int .i64 z0, .slice a1 a2 a3, .bool zb, .slice b1 b2 b3, .int .i64 z4, .int .i64 z5, .int .i64 z6] := by
      obtain ⟨s1, n, s3, r1, rn, r3, e⟩ := hsv6.shape
      exact ⟨_, _, _, _, _, _, _, _, _, _, _, e⟩
    have hR6 := (hb6.block _ (lt_of_block HRW.out)).trans HRW.out
    have HR6 := Lib.hid hR6
    have HSV6 := Lib.hid hsv6
    have HO6 := Lib.hid (HOUT.out.grown hb6)
    have HB6 := Lib.hid (HBW.out.trans (hb6.mono HBW.out.size))
    have uu0 := cells_free hR6 0
    have uu1 := cells_free hR6 1
    have uu2 := cells_free hR6 2
    have uu3 := cells_free hR6 3
    have uu4 := cells_free hR6 4
    have uu5 := cells_free hR6 5
    have uu6 := cells_free hR6 6
    have oo0 := cells_cell (o := 0) hR6 rfl
    have oo1 := cells_cell (o := 1) hR6 rfl
    have oo2 := cells_cell (o := 2) hR6 rfl
    have oo3 := cells_cell (o := 3) hR6 rfl
    have oo4 := cells_cell (o := 4) hR6 rfl
    have oo5 := cells_cell (o := 5) hR6 rfl
    have oo6 := cells_cell (o := 6) hR6 rfl
    have hlR6 := lt_of_block hR6
    clear hb6 hR6 hsv6 k0 y0 u0 o0 k1 y1 u1 o1 k2 y2 u2 o2 k3 y3 u3 o3 k4 y4 u4 o4 k5 y5 u5 o5 k6 y6 u6 o6
    go_wp2_with fail
    have eF := (cells_set (cells_set (cells_set (cells_set (cells_set (cells_set (cells_set HR6.out 0 (.int .i64 z0)) 1 (.slice a1 a2 a3)) 2 (.bool zb)) 3 (.slice b1 b2 b3)) 4 (.int .i64 z4)) 5 (.int .i64 z5)) 6 (.int .i64 z6))
    have fF : Fr [w.heap.size + 1] w6 (((((((w6.setCell ⟨w.heap.size + 1, 0, none⟩ (.int .i64 z0)).setCell ⟨w.heap.size + 1, 1, none⟩ (.slice a1 a2 a3)).setCell ⟨w.heap.size + 1, 2, none⟩ (.bool zb)).setCell ⟨w.heap.size + 1, 3, none⟩ (.slice b1 b2 b3)).setCell ⟨w.heap.size + 1, 4, none⟩ (.int .i64 z4)).setCell ⟨w.heap.size + 1, 5, none⟩ (.int .i64 z5)).setCell ⟨w.heap.size + 1, 6, none⟩ (.int .i64 z6)) := ((((((((Fr.refl [w.heap.size + 1] w6).trans' ((fr_setCell _ ⟨w.heap.size + 1, 0, none⟩ (.int .i64 z0)).mono (by simp))).trans' ((fr_setCell _ ⟨w.heap.size + 1, 1, none⟩ (.slice a1 a2 a3)).mono (by simp))).trans' ((fr_setCell _ ⟨w.heap.size + 1, 2, none⟩ (.bool zb)).mono (by simp))).trans' ((fr_setCell _ ⟨w.heap.size + 1, 3, none⟩ (.slice b1 b2 b3)).mono (by simp))).trans' ((fr_setCell _ ⟨w.heap.size + 1, 4, none⟩ (.int .i64 z4)).mono (by simp))).trans' ((fr_setCell _ ⟨w.heap.size + 1, 5, none⟩ (.int .i64 z5)).mono (by simp))).trans' ((fr_setCell _ ⟨w.heap.size + 1, 6, none⟩ (.int .i64 z6)).mono (by simp)))
    obtain ⟨WF, hWF⟩ : ∃ WF, WF = (((((((w6.setCell ⟨w.heap.size + 1, 0, none⟩ (.int .i64 z0)).setCell ⟨w.heap.size + 1, 1, none⟩ (.slice a1 a2 a3)).setCell ⟨w.heap.size + 1, 2, none⟩ (.bool zb)).setCell ⟨w.heap.size + 1, 3, none⟩ (.slice b1 b2 b3)).setCell ⟨w.heap.size + 1, 4, none⟩ (.int .i64 z4)).setCell ⟨w.heap.size + 1, 5, none⟩ (.int .i64 z5)).setCell ⟨w.heap.size + 1, 6, none⟩ (.int .i64 z6)) := ⟨_, rfl⟩
    rw [← hWF] at eF fF ⊢
    clear hWF
    have eG : WF.heap[w.heap.size + 1]? = some (.cells #[.int .i64 z0, .slice a1 a2 a3, .bool zb, .slice b1 b2 b3, .int .i64 z4, .int .i64 z5, .int .i64 z6] 31 (0, 0)) := by simpa using eF
    have zz0 := cells_cell (o := 0) eG rfl
    have zz1 := cells_cell (o := 1) eG rfl
    have zz2 := cells_cell (o := 2) eG rfl
    have zz3 := cells_cell (o := 3) eG rfl
    have zz4 := cells_cell (o := 4) eG rfl
    have zz5 := cells_cell (o := 5) eG rfl
    have zz6 := cells_cell (o := 6) eG rfl
    refine bodyPost_ret (v := .tuple #[.agg #[.int .i64 z0, .slice a1 a2 a3, .bool zb, .slice b1 b2 b3, .int .i64 z4, .int .i64 z5, .int .i64 z6], .slice (some ⟨g, off, none⟩) N N, .int .i64 0]) (by simp [results, Try.results46, go_sem, zz0, zz1, zz2, zz3, zz4, zz5, zz6]) rfl ?_
    have hwz := HWZ.out
    refine ⟨_, _, rfl, (HSV6.out.fr fF (fun g hg hm => by have hg' : W.heap.size ≤ g := hg; simp only [List.mem_singleton] at hm; omega)).weak (fun g hg => HPP.out g (by have hg' : W.heap.size ≤ g := hg; omega)), ?_, HB6.out.trans (fF.below (B := w.heap.size) (by simp) HB6.out.size)⟩
    exact PieceG.srcP (HO6.out.fr fF (by simp only [List.mem_singleton]; have := HGW.out; omega)) (HPP.out g (by have := HGW.out; omega))
  · have hc2 : (N : Int) < (p3 : Int) := by omega
    have he := HEND.out (off + N) (by rw [if_neg hc1]) _ rfl
    obtain ⟨hRW, hsv5, hout, hbW, hWW⟩ := he
    have hfl := sfFill_any (P := fun g => W.heap.size ≤ g) hsv5 (fun g hg => Nat.le_trans hWW hg) HOK.out.top (by show (x.S.drop _).length ≤ x.c; have := HOK.out.le; rw [List.length_drop]; omega) (fun q => (HOK.out.idle q).1) HOK.out.small
    have HFL := Lib.hid hfl
    have HRW := Lib.hid hRW
    have HOUT := Lib.hid hout
    have HBW := Lib.hid hbW
    clear hRW hsv5 hout hbW hWW hfl
    go_wp2_with (first
      | (refine wpList_min rfl (.tmp 31) (.tmp 34) _ rfl m n N rfl rfl HND.out.2 ?_)
      | (go_at_call 74; fail))
    refine HFL.out.mono ?_
    rintro e w6 ⟨v6, rfl, hsv6, hb6⟩
    obtain ⟨z0, a1, a2, a3, zb, b1, b2, b3, z4, z5, z6, rfl⟩ : ∃ z0 a1 a2 a3 zb b1 b2 b3 z4 z5 z6, v6 = .agg #[.int .i64 z0, .slice a1 a2 a3, .bool zb, .slice b1 b2 b3, .int .i64 z4, .int .i64 z5, .int .i64 z6] := by
      obtain ⟨s1, n, s3, r1, rn, r3, e⟩ := hsv6.shape
      exact ⟨_, _, _, _, _, _, _, _, _, _, _, e⟩
    have hR6 := (hb6.block _ (lt_of_block HRW.out)).trans HRW.out
    have HR6 := Lib.hid hR6
    have HSV6 := Lib.hid hsv6
    have HO6 := Lib.hid (HOUT.out.grown hb6)
    have HB6 := Lib.hid (HBW.out.trans (hb6.mono HBW.out.size))
    have uu0 := cells_free hR6 0
    have uu1 := cells_free hR6 1
    have uu2 := cells_free hR6 2
    have uu3 := cells_free hR6 3
    have uu4 := cells_free hR6 4
    have uu5 := cells_free hR6 5
    have uu6 := cells_free hR6 6
    have oo0 := cells_cell (o := 0) hR6 rfl
    have oo1 := cells_cell (o := 1) hR6 rfl
    have oo2 := cells_cell (o := 2) hR6 rfl
    have oo3 := cells_cell (o := 3) hR6 rfl
    have oo4 := cells_cell (o := 4) hR6 rfl
    have oo5 := cells_cell (o := 5) hR6 rfl
    have oo6 := cells_cell (o := 6) hR6 rfl
    have hlR6 := lt_of_block hR6
    clear hb6 hR6 hsv6 k0 y0 u0 o0 k1 y1 u1 o1 k2 y2 u2 o2 k3 y3 u3 o3 k4 y4 u4 o4 k5 y5 u5 o5 k6 y6 u6 o6
    go_wp2_with fail
    have eF := (cells_set (cells_set (cells_set (cells_set (cells_set (cells_set (cells_set HR6.out 0 (.int .i64 z0)) 1 (.slice a1 a2 a3)) 2 (.bool zb)) 3 (.slice b1 b2 b3)) 4 (.int .i64 z4)) 5 (.int .i64 z5)) 6 (.int .i64 z6))
    have fF : Fr [w.heap.size + 1] w6 (((((((w6.setCell ⟨w.heap.size + 1, 0, none⟩ (.int .i64 z0)).setCell ⟨w.heap.size + 1, 1, none⟩ (.slice a1 a2 a3)).setCell ⟨w.heap.size + 1, 2, none⟩ (.bool zb)).setCell ⟨w.heap.size + 1, 3, none⟩ (.slice b1 b2 b3)).setCell ⟨w.heap.size + 1, 4, none⟩ (.int .i64 z4)).setCell ⟨w.heap.size + 1, 5, none⟩ (.int .i64 z5)).setCell ⟨w.heap.size + 1, 6, none⟩ (.int .i64 z6)) := ((((((((Fr.refl [w.heap.size + 1] w6).trans' ((fr_setCell _ ⟨w.heap.size + 1, 0, none⟩ (.int .i64 z0)).mono (by simp))).trans' ((fr_setCell _ ⟨w.heap.size + 1, 1, none⟩ (.slice a1 a2 a3)).mono (by simp))).trans' ((fr_setCell _ ⟨w.heap.size + 1, 2, none⟩ (.bool zb)).mono (by simp))).trans' ((fr_setCell _ ⟨w.heap.size + 1, 3, none⟩ (.slice b1 b2 b3)).mono (by simp))).trans' ((fr_setCell _ ⟨w.heap.size + 1, 4, none⟩ (.int .i64 z4)).mono (by simp))).trans' ((fr_setCell _ ⟨w.heap.size + 1, 5, none⟩ (.int .i64 z5)).mono (by simp))).trans' ((fr_setCell _ ⟨w.heap.size + 1, 6, none⟩ (.int .i64 z6)).mono (by simp)))
    obtain ⟨WF, hWF⟩ : ∃ WF, WF = (((((((w6.setCell ⟨w.heap.size + 1, 0, none⟩ (.int .i64 z0)).setCell ⟨w.heap.size + 1, 1, none⟩ (.slice a1 a2 a3)).setCell ⟨w.heap.size + 1, 2, none⟩ (.bool zb)).setCell ⟨w.heap.size + 1, 3, none⟩ (.slice b1 b2 b3)).setCell ⟨w.heap.size + 1, 4, none⟩ (.int .i64 z4)).setCell ⟨w.heap.size + 1, 5, none⟩ (.int .i64 z5)).setCell ⟨w.heap.size + 1, 6, none⟩ (.int .i64 z6)) := ⟨_, rfl⟩
    rw [← hWF] at eF fF ⊢
    clear hWF
    have eG : WF.heap[w.heap.size + 1]? = some (.cells #[.int .i64 z0, .slice a1 a2 a3, .bool zb, .slice b1 b2 b3, .int .i64 z4, .int .i64 z5, .int .i64 z6] 31 (0, 0)) := by simpa using eF
    have zz0 := cells_cell (o := 0) eG rfl
    have zz1 := cells_cell (o := 1) eG rfl
    have zz2 := cells_cell (o := 2) eG rfl
    have zz3 := cells_cell (o := 3) eG rfl
    have zz4 := cells_cell (o := 4) eG rfl
    have zz5 := cells_cell (o := 5) eG rfl
    have zz6 := cells_cell (o := 6) eG rfl
    refine bodyPost_ret (v := .tuple #[.agg #[.int .i64 z0, .slice a1 a2 a3, .bool zb, .slice b1 b2 b3, .int .i64 z4, .int .i64 z5, .int .i64 z6], .slice (some ⟨g, off, none⟩) N N, .int .i64 0]) (by simp [results, Try.results46, go_sem, zz0, zz1, zz2, zz3, zz4, zz5, zz6]) rfl ?_
    have hwz := HWZ.out
    refine ⟨_, _, rfl, (HSV6.out.fr fF (fun g hg hm => by have hg' : W.heap.size ≤ g := hg; simp only [List.mem_singleton] at hm; omega)).weak (fun g hg => HPP.out g (by have hg' : W.heap.size ≤ g := hg; omega)), ?_, HB6.out.trans (fF.below (B := w.heap.size) (by simp) HB6.out.size)⟩
    exact PieceG.srcP (HO6.out.fr fF (by simp only [List.mem_singleton]; have := HGW.out; omega)) (HPP.out g (by have := HGW.out; omega))
end
end Go.Proofs.Yteimjkmjofaieaa
