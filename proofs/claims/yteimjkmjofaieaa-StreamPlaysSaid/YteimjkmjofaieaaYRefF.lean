/- The reference's Read from an empty buffer. -/
import Derived.Test.YteimjkmjofaieaaYRefE
namespace Go.Proofs.Yteimjkmjofaieaa
open Go.RowKit Go.Sort
set_option linter.unusedVariables false
set_option linter.unusedSimpArgs false
set_option maxRecDepth 100000
section
variable {P : Nat → Prop} {w : World} {v : Value} {x : St}
set_option maxHeartbeats 3200000 in
theorem sfRead_cap (h : SvP P w v x.rw) (ok : x.Ok) (hP : ∀ g, w.heap.size ≤ g → P g) (m : Int) (hm : 0 < m ∧ m ≤ 65536) (hrd : x.rd = 0) (hS0 : x.S = []) (hc : x.c ≠ 0) : Calls Try.prog 46 #[v, .int .i64 m] w fun r w' => ∃ v' vb, r = .returned (.tuple #[v', vb, .int .i64 (sRd x m).2.1]) ∧ SvP P w' v' (sRd x m).2.2.rw ∧ SrcP P w' vb (sRd x m).1 ∧ Below w.heap.size w w' := by
  obtain ⟨vS, vR, rfl, hS', hR'⟩ := h
  have hS : SrcP P w vS x.S := hS'
  have hR : SrcP P w vR x.R := hR'
  clear hS' hR'
  obtain ⟨s1, s3, rfl, -, -⟩ := hS.1.form
  obtain ⟨r1, r3, rfl, hr3, hrm⟩ := hR.1.form
  simp only [List.length_map] at *
  have hsm := ok.small
  obtain ⟨n, hn⟩ : ∃ n, n = x.S.length := ⟨_, rfl⟩
  obtain ⟨rn, hrn⟩ : ∃ n, n = x.R.length := ⟨_, rfl⟩
  rw [← hrn] at hsm hr3
  have hval : x.rw.val (.slice s1 x.S.length s3) (.slice r1 x.R.length r3) = .agg #[.int .i64 (x.c : Nat), .slice s1 n s3, .bool x.busy, .slice r1 rn r3, .int .i64 (x.a : Nat), .int .i64 x.wr, .int .i64 x.rd] := by rw [hn, hrn]; rfl
  rw [hval]
  obtain ⟨W, hW⟩ : ∃ W, W = (w.alloc (.cells #[.int .i64 (x.c : Nat), .slice s1 n s3, .bool x.busy, .slice r1 rn r3, .int .i64 (x.a : Nat), .int .i64 x.wr, .int .i64 x.rd] 31)).alloc (.cells #[.int .i64 0, .slice none 0 0, .bool false, .slice none 0 0, .int .i64 0, .int .i64 0, .int .i64 0] 31) := ⟨_, rfl⟩
  have hb : Below w.heap.size w W := by rw [hW]; exact (below_alloc _ _).trans ((below_alloc _ _).mono (by simp))
  have hX0 : W.heap[w.heap.size]? = some (.cells #[.int .i64 (x.c : Nat), .slice s1 n s3, .bool x.busy, .slice r1 rn r3, .int .i64 (x.a : Nat), .int .i64 x.wr, .int .i64 x.rd] 31 (0, 0)) := by rw [hW]; exact ((below_alloc _ _).block w.heap.size (by simp)).trans (heap_alloc_new w _)
  have hR0 : W.heap[w.heap.size + 1]? = some (.cells #[.int .i64 0, .slice none 0 0, .bool false, .slice none 0 0, .int .i64 0, .int .i64 0, .int .i64 0] 31 (0, 0)) := by rw [hW]; exact block_new _ _ _ (by simp)
  have HR0 := Lib.hid hR0
  have HX0 := Lib.hid hX0
  have HB := Lib.hid hb
  have HW := Lib.hid hW.symm
  have HOK := Lib.hid ok
  have HSP : Hid (SrcP P w (.slice s1 n s3) x.S) := Lib.hid (by rw [hn]; exact hS)
  have HRP : Hid (SrcP P w (.slice r1 rn r3) x.R) := Lib.hid (by rw [hrn]; exact hR)
  have HN := Lib.hid (And.intro hn hrn)
  have k0 := cells_cell (o := 0) hX0 rfl
  have k1 := cells_cell (o := 1) hX0 rfl
  have k2 := cells_cell (o := 2) hX0 rfl
  have k3 := cells_cell (o := 3) hX0 rfl
  have k4 := cells_cell (o := 4) hX0 rfl
  have k5 := cells_cell (o := 5) hX0 rfl
  have k6 := cells_cell (o := 6) hX0 rfl
  have y0 := cells_free hX0 0
  have y1 := cells_free hX0 1
  have y2 := cells_free hX0 2
  have y3 := cells_free hX0 3
  have y4 := cells_free hX0 4
  have y5 := cells_free hX0 5
  have y6 := cells_free hX0 6
  have u0 := cells_free hR0 0
  have u1 := cells_free hR0 1
  have u2 := cells_free hR0 2
  have u3 := cells_free hR0 3
  have u4 := cells_free hR0 4
  have u5 := cells_free hR0 5
  have u6 := cells_free hR0 6
  have o0 := cells_cell (o := 0) hR0 rfl
  have o1 := cells_cell (o := 1) hR0 rfl
  have o2 := cells_cell (o := 2) hR0 rfl
  have o3 := cells_cell (o := 3) hR0 rfl
  have o4 := cells_cell (o := 4) hR0 rfl
  have o5 := cells_cell (o := 5) hR0 rfl
  have o6 := cells_cell (o := 6) hR0 rfl
  have hlB := lt_of_block hX0
  have hlR := lt_of_block hR0
  have hcp := sfCopy_any (w := W) (r := x.rw) (hS.1.grown hb) (hR.1.grown hb) (by show x.S.length ≤ _; have := ok.le; have := ok.top; omega) (by show x.R.length ≤ _; have := ok.small; omega)
  rw [hval] at hcp
  have HCP := Lib.hid hcp
  have HPP := Lib.hid hP
  have HM := Lib.hid hm
  have t1 : decide (m < 0) = false := by simp; omega
  have t2 : decide (65536 < m) = false := by simp; omega
  have t3 : (m == 0) = false := by simp; omega
  have t4 : (x.rd != 0) = false := by simp [hrd]
  have HRD := Lib.hid hrd
  unfold sRd
  rw [if_neg (by omega), if_neg (by simp [hrd]), if_neg (by omega)]
  have hn0 : n = 0 := by rw [hn, hS0]; rfl
  have t5 : decide (0 < (n : Int)) = false := by simp [hn0]
  have t6 : decide (0 < n) = false := by simp [hn0]
  have htk : x.take m.toNat = [] := by unfold St.take; rw [if_neg hc, hS0]; simp
  rw [if_pos htk]
  have t8 : ((x.c : Int) == 0) = false := by simp; omega
  clear hW hb hX0 hR0 hS hR hval hn hrn hr3 hrm hsm ok hP hm hrd hcp hn0 hS0 htk hc
  by_cases hw : x.wr = 0
  · have t7 : (x.wr != 0) = false := by simp [hw]
    rw [if_pos hw]
    clear hw
    go_enter Try.func46, Try.ntmps46
    go_upto_region 1 with fail
    rw [HW.out]
    go_wp2_with (go_at_call 14; fail)
    refine HCP.out.mono ?_
    rintro e w2 ⟨uS, uR, mid, rfl, hrS, hdj, hmid, hrR, hb2⟩
    obtain ⟨p1, p3, hpS⟩ : ∃ a c, uS = .slice a n c := by
      obtain ⟨a, c, e, _⟩ := hrS.form
      exact ⟨a, c, by rw [e, HN.out.1]; rfl⟩
    subst hpS
    obtain ⟨q1, q3, hqR⟩ : ∃ a c, uR = .slice a rn c := by
      obtain ⟨a, c, e, _⟩ := hrR.form
      exact ⟨a, c, by rw [e, HN.out.2]; rfl⟩
    subst hqR
    have hX2 := (hb2.block _ (lt_of_block HX0.out)).trans HX0.out
    have hR2 := (hb2.block _ (lt_of_block HR0.out)).trans HR0.out
    have HX2 := Lib.hid hX2
    have HR2 := Lib.hid hR2
    have HB2 := Lib.hid hb2
    have HRS := Lib.hid hrS
    have HRR := Lib.hid hrR
    have HMID := Lib.hid hmid
    have j0 := cells_cell (o := 0) hX2 rfl
    have j1 := cells_cell (o := 1) hX2 rfl
    have j2 := cells_cell (o := 2) hX2 rfl
    have j3 := cells_cell (o := 3) hX2 rfl
    have j4 := cells_cell (o := 4) hX2 rfl
    have j5 := cells_cell (o := 5) hX2 rfl
    have j6 := cells_cell (o := 6) hX2 rfl
    have yy0 := cells_free hX2 0
    have yy1 := cells_free hX2 1
    have yy2 := cells_free hX2 2
    have yy3 := cells_free hX2 3
    have yy4 := cells_free hX2 4
    have yy5 := cells_free hX2 5
    have yy6 := cells_free hX2 6
    have hl2 := lt_of_block hX2
    clear hb2 hX2 hR2 hrS hrR hdj hmid hlB hlR
    clear k0 k1 k2 k3 k4 k5 k6 y0 y1 y2 y3 y4 y5 y6 u0 u1 u2 u3 u4 u5 u6 o0 o1 o2 o3 o4 o5 o6
    unfold Rw.val St.rw
    go_upto_region 8 with fail
    have eX := (cells_set (cells_set (cells_set (cells_set (cells_set (cells_set (cells_set HX2.out 0 (.int .i64 (x.c : Nat))) 1 (.slice p1 n p3)) 2 (.bool x.busy)) 3 (.slice q1 rn q3)) 4 (.int .i64 (x.a : Nat))) 5 (.int .i64 x.wr)) 6 (.int .i64 x.rd))
    have fX : Fr [w.heap.size] w2 (((((((w2.setCell ⟨w.heap.size, 0, none⟩ (.int .i64 (x.c : Nat))).setCell ⟨w.heap.size, 1, none⟩ (.slice p1 n p3)).setCell ⟨w.heap.size, 2, none⟩ (.bool x.busy)).setCell ⟨w.heap.size, 3, none⟩ (.slice q1 rn q3)).setCell ⟨w.heap.size, 4, none⟩ (.int .i64 (x.a : Nat))).setCell ⟨w.heap.size, 5, none⟩ (.int .i64 x.wr)).setCell ⟨w.heap.size, 6, none⟩ (.int .i64 x.rd)) := ((((((((Fr.refl [w.heap.size] w2).trans' ((fr_setCell _ ⟨w.heap.size, 0, none⟩ (.int .i64 (x.c : Nat))).mono (by simp))).trans' ((fr_setCell _ ⟨w.heap.size, 1, none⟩ (.slice p1 n p3)).mono (by simp))).trans' ((fr_setCell _ ⟨w.heap.size, 2, none⟩ (.bool x.busy)).mono (by simp))).trans' ((fr_setCell _ ⟨w.heap.size, 3, none⟩ (.slice q1 rn q3)).mono (by simp))).trans' ((fr_setCell _ ⟨w.heap.size, 4, none⟩ (.int .i64 (x.a : Nat))).mono (by simp))).trans' ((fr_setCell _ ⟨w.heap.size, 5, none⟩ (.int .i64 x.wr)).mono (by simp))).trans' ((fr_setCell _ ⟨w.heap.size, 6, none⟩ (.int .i64 x.rd)).mono (by simp)))
    obtain ⟨W3, hW3⟩ : ∃ W3, W3 = (((((((w2.setCell ⟨w.heap.size, 0, none⟩ (.int .i64 (x.c : Nat))).setCell ⟨w.heap.size, 1, none⟩ (.slice p1 n p3)).setCell ⟨w.heap.size, 2, none⟩ (.bool x.busy)).setCell ⟨w.heap.size, 3, none⟩ (.slice q1 rn q3)).setCell ⟨w.heap.size, 4, none⟩ (.int .i64 (x.a : Nat))).setCell ⟨w.heap.size, 5, none⟩ (.int .i64 x.wr)).setCell ⟨w.heap.size, 6, none⟩ (.int .i64 x.rd)) := ⟨_, rfl⟩
    rw [← hW3] at eX fX ⊢
    clear hW3
    have hX3 : W3.heap[w.heap.size]? = some (.cells #[.int .i64 (x.c : Nat), .slice p1 n p3, .bool x.busy, .slice q1 rn q3, .int .i64 (x.a : Nat), .int .i64 x.wr, .int .i64 x.rd] 31 (0, 0)) := by simpa using eX
    have hR3 := fX.same HR2.out (by simp)
    have hwz : w.heap.size + 1 < W.heap.size := lt_of_block HR0.out
    have HS3 : Hid (RowB W3 W.heap.size (.slice p1 n p3) x.S) := Lib.hid (fX.row HRS.out (fun g hg hm => by have := (HRS.out.lt g hg).1; simp only [List.mem_singleton] at hm; omega))
    have HT3 : Hid (RowB W3 W.heap.size (.slice q1 rn q3) x.R) := Lib.hid (RowV.lower (fX.row HRR.out (fun g hg hm => by have := (HRR.out.lt g hg).1; have := HMID.out; simp only [List.mem_singleton] at hm; omega)) HMID.out)
    have HC3 : Hid (Below w.heap.size w W3) := Lib.hid ((HB.out.trans (HB2.out.mono HB.out.size)).trans (fX.below (by simp) (by have := HB.out.size; have := HB2.out.size; omega)))
    have HWZ : Hid (w.heap.size + 1 < W.heap.size ∧ W.heap.size ≤ W3.heap.size) := Lib.hid ⟨hwz, by have := fX.size; have := HB2.out.size; omega⟩
    have HX3 := Lib.hid hX3
    have HR3 := Lib.hid hR3
    clear j0 j1 j2 j3 j4 j5 j6 yy0 yy1 yy2 yy3 yy4 yy5 yy6
    have k0 := cells_cell (o := 0) hX3 rfl
    have k1 := cells_cell (o := 1) hX3 rfl
    have k2 := cells_cell (o := 2) hX3 rfl
    have k3 := cells_cell (o := 3) hX3 rfl
    have k4 := cells_cell (o := 4) hX3 rfl
    have k5 := cells_cell (o := 5) hX3 rfl
    have k6 := cells_cell (o := 6) hX3 rfl
    have y0 := cells_free hX3 0
    have y1 := cells_free hX3 1
    have y2 := cells_free hX3 2
    have y3 := cells_free hX3 3
    have y4 := cells_free hX3 4
    have y5 := cells_free hX3 5
    have y6 := cells_free hX3 6
    have u0 := cells_free hR3 0
    have u1 := cells_free hR3 1
    have u2 := cells_free hR3 2
    have u3 := cells_free hR3 3
    have u4 := cells_free hR3 4
    have u5 := cells_free hR3 5
    have u6 := cells_free hR3 6
    have o0 := cells_cell (o := 0) hR3 rfl
    have o1 := cells_cell (o := 1) hR3 rfl
    have o2 := cells_cell (o := 2) hR3 rfl
    have o3 := cells_cell (o := 3) hR3 rfl
    have o4 := cells_cell (o := 4) hR3 rfl
    have o5 := cells_cell (o := 5) hR3 rfl
    have o6 := cells_cell (o := 6) hR3 rfl
    have hlBk := lt_of_block hX3
    have hlRk := lt_of_block hR3
    clear eX fX hX3 hR3 hl2 hwz
    have HXA := HX3
    have HRA := HR3
    have HSA := HS3
    have HTA := HT3
    have HCA := HC3
    clear HX3 HR3 HS3 HT3 HC3
    go_wp2_with fail
    have eF := (cells_set (cells_set (cells_set (cells_set (cells_set (cells_set (cells_set HRA.out 0 (.int .i64 (x.c : Nat))) 1 (.slice p1 n p3)) 2 (.bool x.busy)) 3 (.slice q1 rn q3)) 4 (.int .i64 (x.a : Nat))) 5 (.int .i64 x.wr)) 6 (.int .i64 x.rd))
    have fF : Fr [w.heap.size + 1] W3 (((((((W3.setCell ⟨w.heap.size + 1, 0, none⟩ (.int .i64 (x.c : Nat))).setCell ⟨w.heap.size + 1, 1, none⟩ (.slice p1 n p3)).setCell ⟨w.heap.size + 1, 2, none⟩ (.bool x.busy)).setCell ⟨w.heap.size + 1, 3, none⟩ (.slice q1 rn q3)).setCell ⟨w.heap.size + 1, 4, none⟩ (.int .i64 (x.a : Nat))).setCell ⟨w.heap.size + 1, 5, none⟩ (.int .i64 x.wr)).setCell ⟨w.heap.size + 1, 6, none⟩ (.int .i64 x.rd)) := ((((((((Fr.refl [w.heap.size + 1] W3).trans' ((fr_setCell _ ⟨w.heap.size + 1, 0, none⟩ (.int .i64 (x.c : Nat))).mono (by simp))).trans' ((fr_setCell _ ⟨w.heap.size + 1, 1, none⟩ (.slice p1 n p3)).mono (by simp))).trans' ((fr_setCell _ ⟨w.heap.size + 1, 2, none⟩ (.bool x.busy)).mono (by simp))).trans' ((fr_setCell _ ⟨w.heap.size + 1, 3, none⟩ (.slice q1 rn q3)).mono (by simp))).trans' ((fr_setCell _ ⟨w.heap.size + 1, 4, none⟩ (.int .i64 (x.a : Nat))).mono (by simp))).trans' ((fr_setCell _ ⟨w.heap.size + 1, 5, none⟩ (.int .i64 x.wr)).mono (by simp))).trans' ((fr_setCell _ ⟨w.heap.size + 1, 6, none⟩ (.int .i64 x.rd)).mono (by simp)))
    obtain ⟨WF, hWF⟩ : ∃ WF, WF = (((((((W3.setCell ⟨w.heap.size + 1, 0, none⟩ (.int .i64 (x.c : Nat))).setCell ⟨w.heap.size + 1, 1, none⟩ (.slice p1 n p3)).setCell ⟨w.heap.size + 1, 2, none⟩ (.bool x.busy)).setCell ⟨w.heap.size + 1, 3, none⟩ (.slice q1 rn q3)).setCell ⟨w.heap.size + 1, 4, none⟩ (.int .i64 (x.a : Nat))).setCell ⟨w.heap.size + 1, 5, none⟩ (.int .i64 x.wr)).setCell ⟨w.heap.size + 1, 6, none⟩ (.int .i64 x.rd)) := ⟨_, rfl⟩
    rw [← hWF] at eF fF ⊢
    clear hWF
    have eG : WF.heap[w.heap.size + 1]? = some (.cells #[.int .i64 (x.c : Nat), .slice p1 n p3, .bool x.busy, .slice q1 rn q3, .int .i64 (x.a : Nat), .int .i64 x.wr, .int .i64 x.rd] 31 (0, 0)) := by simpa using eF
    have zz0 := cells_cell (o := 0) eG rfl
    have zz1 := cells_cell (o := 1) eG rfl
    have zz2 := cells_cell (o := 2) eG rfl
    have zz3 := cells_cell (o := 3) eG rfl
    have zz4 := cells_cell (o := 4) eG rfl
    have zz5 := cells_cell (o := 5) eG rfl
    have zz6 := cells_cell (o := 6) eG rfl
    refine bodyPost_ret (v := .tuple #[.agg #[.int .i64 (x.c : Nat), .slice p1 n p3, .bool x.busy, .slice q1 rn q3, .int .i64 (x.a : Nat), .int .i64 x.wr, .int .i64 x.rd], .slice none 0 0, .int .i64 16]) (by simp [results, Try.results46, go_sem, zz0, zz1, zz2, zz3, zz4, zz5, zz6]) rfl ?_
    have hwz := HWZ.out
    have hbF := HCA.out.trans (fF.below (B := w.heap.size) (by simp) HCA.out.size)
    have hrS := fF.row HSA.out (fun g hg hm => by have := (HSA.out.lt g hg).1; simp only [List.mem_cons, List.not_mem_nil, or_false] at hm; omega)
    have hrT := fF.row HTA.out (fun g hg hm => by have := (HTA.out.lt g hg).1; simp only [List.mem_cons, List.not_mem_nil, or_false] at hm; omega)
    exact ⟨_, _, rfl, ⟨_, _, rfl, RowB.srcP hrS (fun g hg => HPP.out g (by omega)), RowB.srcP hrT (fun g hg => HPP.out g (by omega))⟩, SrcP.nil _ _, hbF⟩
  · have t7 : (x.wr != 0) = true := by simp [hw]
    rw [if_neg hw]
    clear hw
    go_enter Try.func46, Try.ntmps46
    go_upto_region 1 with fail
    rw [HW.out]
    go_wp2_with (go_at_call 14; fail)
    refine HCP.out.mono ?_
    rintro e w2 ⟨uS, uR, mid, rfl, hrS, hdj, hmid, hrR, hb2⟩
    obtain ⟨p1, p3, hpS⟩ : ∃ a c, uS = .slice a n c := by
      obtain ⟨a, c, e, _⟩ := hrS.form
      exact ⟨a, c, by rw [e, HN.out.1]; rfl⟩
    subst hpS
    obtain ⟨q1, q3, hqR⟩ : ∃ a c, uR = .slice a rn c := by
      obtain ⟨a, c, e, _⟩ := hrR.form
      exact ⟨a, c, by rw [e, HN.out.2]; rfl⟩
    subst hqR
    have hX2 := (hb2.block _ (lt_of_block HX0.out)).trans HX0.out
    have hR2 := (hb2.block _ (lt_of_block HR0.out)).trans HR0.out
    have HX2 := Lib.hid hX2
    have HR2 := Lib.hid hR2
    have HB2 := Lib.hid hb2
    have HRS := Lib.hid hrS
    have HRR := Lib.hid hrR
    have HMID := Lib.hid hmid
    have j0 := cells_cell (o := 0) hX2 rfl
    have j1 := cells_cell (o := 1) hX2 rfl
    have j2 := cells_cell (o := 2) hX2 rfl
    have j3 := cells_cell (o := 3) hX2 rfl
    have j4 := cells_cell (o := 4) hX2 rfl
    have j5 := cells_cell (o := 5) hX2 rfl
    have j6 := cells_cell (o := 6) hX2 rfl
    have yy0 := cells_free hX2 0
    have yy1 := cells_free hX2 1
    have yy2 := cells_free hX2 2
    have yy3 := cells_free hX2 3
    have yy4 := cells_free hX2 4
    have yy5 := cells_free hX2 5
    have yy6 := cells_free hX2 6
    have hl2 := lt_of_block hX2
    clear hb2 hX2 hR2 hrS hrR hdj hmid hlB hlR
    clear k0 k1 k2 k3 k4 k5 k6 y0 y1 y2 y3 y4 y5 y6 u0 u1 u2 u3 u4 u5 u6 o0 o1 o2 o3 o4 o5 o6
    unfold Rw.val St.rw
    go_upto_region 8 with fail
    have eX := (cells_set (cells_set (cells_set (cells_set (cells_set (cells_set (cells_set HX2.out 0 (.int .i64 (x.c : Nat))) 1 (.slice p1 n p3)) 2 (.bool x.busy)) 3 (.slice q1 rn q3)) 4 (.int .i64 (x.a : Nat))) 5 (.int .i64 x.wr)) 6 (.int .i64 x.rd))
    have fX : Fr [w.heap.size] w2 (((((((w2.setCell ⟨w.heap.size, 0, none⟩ (.int .i64 (x.c : Nat))).setCell ⟨w.heap.size, 1, none⟩ (.slice p1 n p3)).setCell ⟨w.heap.size, 2, none⟩ (.bool x.busy)).setCell ⟨w.heap.size, 3, none⟩ (.slice q1 rn q3)).setCell ⟨w.heap.size, 4, none⟩ (.int .i64 (x.a : Nat))).setCell ⟨w.heap.size, 5, none⟩ (.int .i64 x.wr)).setCell ⟨w.heap.size, 6, none⟩ (.int .i64 x.rd)) := ((((((((Fr.refl [w.heap.size] w2).trans' ((fr_setCell _ ⟨w.heap.size, 0, none⟩ (.int .i64 (x.c : Nat))).mono (by simp))).trans' ((fr_setCell _ ⟨w.heap.size, 1, none⟩ (.slice p1 n p3)).mono (by simp))).trans' ((fr_setCell _ ⟨w.heap.size, 2, none⟩ (.bool x.busy)).mono (by simp))).trans' ((fr_setCell _ ⟨w.heap.size, 3, none⟩ (.slice q1 rn q3)).mono (by simp))).trans' ((fr_setCell _ ⟨w.heap.size, 4, none⟩ (.int .i64 (x.a : Nat))).mono (by simp))).trans' ((fr_setCell _ ⟨w.heap.size, 5, none⟩ (.int .i64 x.wr)).mono (by simp))).trans' ((fr_setCell _ ⟨w.heap.size, 6, none⟩ (.int .i64 x.rd)).mono (by simp)))
    obtain ⟨W3, hW3⟩ : ∃ W3, W3 = (((((((w2.setCell ⟨w.heap.size, 0, none⟩ (.int .i64 (x.c : Nat))).setCell ⟨w.heap.size, 1, none⟩ (.slice p1 n p3)).setCell ⟨w.heap.size, 2, none⟩ (.bool x.busy)).setCell ⟨w.heap.size, 3, none⟩ (.slice q1 rn q3)).setCell ⟨w.heap.size, 4, none⟩ (.int .i64 (x.a : Nat))).setCell ⟨w.heap.size, 5, none⟩ (.int .i64 x.wr)).setCell ⟨w.heap.size, 6, none⟩ (.int .i64 x.rd)) := ⟨_, rfl⟩
    rw [← hW3] at eX fX ⊢
    clear hW3
    have hX3 : W3.heap[w.heap.size]? = some (.cells #[.int .i64 (x.c : Nat), .slice p1 n p3, .bool x.busy, .slice q1 rn q3, .int .i64 (x.a : Nat), .int .i64 x.wr, .int .i64 x.rd] 31 (0, 0)) := by simpa using eX
    have hR3 := fX.same HR2.out (by simp)
    have hwz : w.heap.size + 1 < W.heap.size := lt_of_block HR0.out
    have HS3 : Hid (RowB W3 W.heap.size (.slice p1 n p3) x.S) := Lib.hid (fX.row HRS.out (fun g hg hm => by have := (HRS.out.lt g hg).1; simp only [List.mem_singleton] at hm; omega))
    have HT3 : Hid (RowB W3 W.heap.size (.slice q1 rn q3) x.R) := Lib.hid (RowV.lower (fX.row HRR.out (fun g hg hm => by have := (HRR.out.lt g hg).1; have := HMID.out; simp only [List.mem_singleton] at hm; omega)) HMID.out)
    have HC3 : Hid (Below w.heap.size w W3) := Lib.hid ((HB.out.trans (HB2.out.mono HB.out.size)).trans (fX.below (by simp) (by have := HB.out.size; have := HB2.out.size; omega)))
    have HWZ : Hid (w.heap.size + 1 < W.heap.size ∧ W.heap.size ≤ W3.heap.size) := Lib.hid ⟨hwz, by have := fX.size; have := HB2.out.size; omega⟩
    have HX3 := Lib.hid hX3
    have HR3 := Lib.hid hR3
    clear j0 j1 j2 j3 j4 j5 j6 yy0 yy1 yy2 yy3 yy4 yy5 yy6
    have k0 := cells_cell (o := 0) hX3 rfl
    have k1 := cells_cell (o := 1) hX3 rfl
    have k2 := cells_cell (o := 2) hX3 rfl
    have k3 := cells_cell (o := 3) hX3 rfl
    have k4 := cells_cell (o := 4) hX3 rfl
    have k5 := cells_cell (o := 5) hX3 rfl
    have k6 := cells_cell (o := 6) hX3 rfl
    have y0 := cells_free hX3 0
    have y1 := cells_free hX3 1
    have y2 := cells_free hX3 2
    have y3 := cells_free hX3 3
    have y4 := cells_free hX3 4
    have y5 := cells_free hX3 5
    have y6 := cells_free hX3 6
    have u0 := cells_free hR3 0
    have u1 := cells_free hR3 1
    have u2 := cells_free hR3 2
    have u3 := cells_free hR3 3
    have u4 := cells_free hR3 4
    have u5 := cells_free hR3 5
    have u6 := cells_free hR3 6
    have o0 := cells_cell (o := 0) hR3 rfl
    have o1 := cells_cell (o := 1) hR3 rfl
    have o2 := cells_cell (o := 2) hR3 rfl
    have o3 := cells_cell (o := 3) hR3 rfl
    have o4 := cells_cell (o := 4) hR3 rfl
    have o5 := cells_cell (o := 5) hR3 rfl
    have o6 := cells_cell (o := 6) hR3 rfl
    have hlBk := lt_of_block hX3
    have hlRk := lt_of_block hR3
    clear eX fX hX3 hR3 hl2 hwz
    have HXA := HX3
    have HRA := HR3
    have HSA := HS3
    have HTA := HT3
    have HCA := HC3
    clear HX3 HR3 HS3 HT3 HC3
    go_wp2_with fail
    refine wp_region_mix (fun W' => W'.heap[w.heap.size]? = some (.cells #[.int .i64 (x.c : Nat), .slice p1 n p3, .bool x.busy, .slice q1 rn q3, .int .i64 (x.a : Nat), .int .i64 x.wr, .int .i64 x.rd] 31 (0, 0))) 5 [(true, 0), (true, 1), (true, 2), (false, 3), (true, 4)] (by kernel_rfl) (by kernel_rfl) (fun _ _ _ d _ h => by cases d <;> exact h) ?_
    have HDW : Hid (Below W3.heap.size W3 W3.drew) := Lib.hid ((Grn.refl W3).drew 1).below
    have HT : Hid (W3.drew.heap[w.heap.size]? = some (.cells #[.int .i64 (x.c : Nat), .slice p1 n p3, .bool x.busy, .slice q1 rn q3, .int .i64 (x.a : Nat), .int .i64 x.wr, .int .i64 x.rd] 31 (0, 0))) := Lib.hid ((HDW.out.block _ (lt_of_block HXA.out)).trans HXA.out)
    have hRV : W3.drew.heap[w.heap.size + 1]? = some (.cells #[.int .i64 0, .slice none 0 0, .bool false, .slice none 0 0, .int .i64 0, .int .i64 0, .int .i64 0] 31 (0, 0)) := (HDW.out.block _ (lt_of_block HRA.out)).trans HRA.out
    simp only [List.map_cons, List.map_nil, List.getD_cons_zero, List.getD_cons_succ, List.drop_succ_cons, List.drop_zero]
    generalize W3.drew = V at *
    have HRV := Lib.hid hRV
    have HSV := Lib.hid (HSA.out.grown HDW.out)
    have HTV := Lib.hid (HTA.out.grown HDW.out)
    have HCV := Lib.hid (HCA.out.trans (HDW.out.mono HCA.out.size))
    clear k0 k1 k2 k3 k4 k5 k6 y0 y1 y2 y3 y4 y5 y6 u0 u1 u2 u3 u4 u5 u6 o0 o1 o2 o3 o4 o5 o6
    have uu0 := cells_free hRV 0
    have uu1 := cells_free hRV 1
    have uu2 := cells_free hRV 2
    have uu3 := cells_free hRV 3
    have uu4 := cells_free hRV 4
    have uu5 := cells_free hRV 5
    have uu6 := cells_free hRV 6
    have oo0 := cells_cell (o := 0) hRV rfl
    have oo1 := cells_cell (o := 1) hRV rfl
    have oo2 := cells_cell (o := 2) hRV rfl
    have oo3 := cells_cell (o := 3) hRV rfl
    have oo4 := cells_cell (o := 4) hRV rfl
    have oo5 := cells_cell (o := 5) hRV rfl
    have oo6 := cells_cell (o := 6) hRV rfl
    have hlRV := lt_of_block hRV
    clear hRV
    refine mix_take (.agg #[.int .i64 (x.c : Nat), .slice p1 n p3, .bool x.busy, .slice q1 rn q3, .int .i64 (x.a : Nat), .int .i64 x.wr, .int .i64 x.rd]) HT.out rfl (fun W' hS => by 
      have l0 := cells_cell (o := 0) hS rfl
      have l1 := cells_cell (o := 1) hS rfl
      have l2 := cells_cell (o := 2) hS rfl
      have l3 := cells_cell (o := 3) hS rfl
      have l4 := cells_cell (o := 4) hS rfl
      have l5 := cells_cell (o := 5) hS rfl
      have l6 := cells_cell (o := 6) hS rfl
      go_simp) ?_
    simp only [Act.put, List.setIfInBounds_toArray, List.set_cons_zero, List.set_cons_succ]
    refine mix_take (.pointer (some ⟨w.heap.size, 5, none⟩)) HT.out rfl (fun W' hS => by go_simp) ?_
    simp only [Act.put, List.setIfInBounds_toArray, List.set_cons_zero, List.set_cons_succ]
    refine mix_take (.int .i64 x.wr) HT.out rfl (fun W' hS => by 
      have l0 := cells_cell (o := 5) hS rfl
      go_simp) ?_
    simp only [Act.put, List.setIfInBounds_toArray, List.set_cons_zero, List.set_cons_succ]
    refine mix_step rfl (fun K3 hK => ?_)
    go_simp
    have HT4 : Hid ((((((((V.setCell ⟨w.heap.size + 1, 0, none⟩ (.int .i64 (x.c : Nat))).setCell ⟨w.heap.size + 1, 1, none⟩ (.slice p1 n p3)).setCell ⟨w.heap.size + 1, 2, none⟩ (.bool x.busy)).setCell ⟨w.heap.size + 1, 3, none⟩ (.slice q1 rn q3)).setCell ⟨w.heap.size + 1, 4, none⟩ (.int .i64 (x.a : Nat))).setCell ⟨w.heap.size + 1, 5, none⟩ (.int .i64 x.wr)).setCell ⟨w.heap.size + 1, 6, none⟩ (.int .i64 x.rd)).heap[w.heap.size]? = some (.cells #[.int .i64 (x.c : Nat), .slice p1 n p3, .bool x.busy, .slice q1 rn q3, .int .i64 (x.a : Nat), .int .i64 x.wr, .int .i64 x.rd] 31 (0, 0))) := Lib.hid ((fr_setCell _ ⟨w.heap.size + 1, 6, none⟩ (.int .i64 x.rd)).same ((fr_setCell _ ⟨w.heap.size + 1, 5, none⟩ (.int .i64 x.wr)).same ((fr_setCell _ ⟨w.heap.size + 1, 4, none⟩ (.int .i64 (x.a : Nat))).same ((fr_setCell _ ⟨w.heap.size + 1, 3, none⟩ (.slice q1 rn q3)).same ((fr_setCell _ ⟨w.heap.size + 1, 2, none⟩ (.bool x.busy)).same ((fr_setCell _ ⟨w.heap.size + 1, 1, none⟩ (.slice p1 n p3)).same ((fr_setCell _ ⟨w.heap.size + 1, 0, none⟩ (.int .i64 (x.c : Nat))).same HT.out (by simp)) (by simp)) (by simp)) (by simp)) (by simp)) (by simp)) (by simp))
    refine hK _ _ HT4.out ?_
    clear hK K3
    try simp only [Act.put, List.setIfInBounds_toArray, List.set_cons_zero, List.set_cons_succ]
    refine mix_take (.slice none 0 0) HT4.out rfl (fun W' hS => by go_simp) ?_
    try simp only [Act.put, List.setIfInBounds_toArray, List.set_cons_zero, List.set_cons_succ]
    refine mix_nil ?_
    go_wp2_with fail
    have eF := (cells_set (cells_set (cells_set (cells_set (cells_set (cells_set (cells_set HRV.out 0 (.int .i64 (x.c : Nat))) 1 (.slice p1 n p3)) 2 (.bool x.busy)) 3 (.slice q1 rn q3)) 4 (.int .i64 (x.a : Nat))) 5 (.int .i64 x.wr)) 6 (.int .i64 x.rd))
    have fF : Fr [w.heap.size + 1] V (((((((V.setCell ⟨w.heap.size + 1, 0, none⟩ (.int .i64 (x.c : Nat))).setCell ⟨w.heap.size + 1, 1, none⟩ (.slice p1 n p3)).setCell ⟨w.heap.size + 1, 2, none⟩ (.bool x.busy)).setCell ⟨w.heap.size + 1, 3, none⟩ (.slice q1 rn q3)).setCell ⟨w.heap.size + 1, 4, none⟩ (.int .i64 (x.a : Nat))).setCell ⟨w.heap.size + 1, 5, none⟩ (.int .i64 x.wr)).setCell ⟨w.heap.size + 1, 6, none⟩ (.int .i64 x.rd)) := ((((((((Fr.refl [w.heap.size + 1] V).trans' ((fr_setCell _ ⟨w.heap.size + 1, 0, none⟩ (.int .i64 (x.c : Nat))).mono (by simp))).trans' ((fr_setCell _ ⟨w.heap.size + 1, 1, none⟩ (.slice p1 n p3)).mono (by simp))).trans' ((fr_setCell _ ⟨w.heap.size + 1, 2, none⟩ (.bool x.busy)).mono (by simp))).trans' ((fr_setCell _ ⟨w.heap.size + 1, 3, none⟩ (.slice q1 rn q3)).mono (by simp))).trans' ((fr_setCell _ ⟨w.heap.size + 1, 4, none⟩ (.int .i64 (x.a : Nat))).mono (by simp))).trans' ((fr_setCell _ ⟨w.heap.size + 1, 5, none⟩ (.int .i64 x.wr)).mono (by simp))).trans' ((fr_setCell _ ⟨w.heap.size + 1, 6, none⟩ (.int .i64 x.rd)).mono (by simp)))
    obtain ⟨WF, hWF⟩ : ∃ WF, WF = (((((((V.setCell ⟨w.heap.size + 1, 0, none⟩ (.int .i64 (x.c : Nat))).setCell ⟨w.heap.size + 1, 1, none⟩ (.slice p1 n p3)).setCell ⟨w.heap.size + 1, 2, none⟩ (.bool x.busy)).setCell ⟨w.heap.size + 1, 3, none⟩ (.slice q1 rn q3)).setCell ⟨w.heap.size + 1, 4, none⟩ (.int .i64 (x.a : Nat))).setCell ⟨w.heap.size + 1, 5, none⟩ (.int .i64 x.wr)).setCell ⟨w.heap.size + 1, 6, none⟩ (.int .i64 x.rd)) := ⟨_, rfl⟩
    rw [← hWF] at eF fF ⊢
    clear hWF
    have eG : WF.heap[w.heap.size + 1]? = some (.cells #[.int .i64 (x.c : Nat), .slice p1 n p3, .bool x.busy, .slice q1 rn q3, .int .i64 (x.a : Nat), .int .i64 x.wr, .int .i64 x.rd] 31 (0, 0)) := by simpa using eF
    have zz0 := cells_cell (o := 0) eG rfl
    have zz1 := cells_cell (o := 1) eG rfl
    have zz2 := cells_cell (o := 2) eG rfl
    have zz3 := cells_cell (o := 3) eG rfl
    have zz4 := cells_cell (o := 4) eG rfl
    have zz5 := cells_cell (o := 5) eG rfl
    have zz6 := cells_cell (o := 6) eG rfl
    refine bodyPost_ret (v := .tuple #[.agg #[.int .i64 (x.c : Nat), .slice p1 n p3, .bool x.busy, .slice q1 rn q3, .int .i64 (x.a : Nat), .int .i64 x.wr, .int .i64 x.rd], .slice none 0 0, .int .i64 x.wr]) (by simp [results, Try.results46, go_sem, zz0, zz1, zz2, zz3, zz4, zz5, zz6]) rfl ?_
    have hwz := HWZ.out
    have hbF := HCV.out.trans (fF.below (B := w.heap.size) (by simp) HCV.out.size)
    have hrS := fF.row HSV.out (fun g hg hm => by have := (HSV.out.lt g hg).1; simp only [List.mem_cons, List.not_mem_nil, or_false] at hm; omega)
    have hrT := fF.row HTV.out (fun g hg hm => by have := (HTV.out.lt g hg).1; simp only [List.mem_cons, List.not_mem_nil, or_false] at hm; omega)
    exact ⟨_, _, rfl, ⟨_, _, rfl, RowB.srcP hrS (fun g hg => HPP.out g (by omega)), RowB.srcP hrT (fun g hg => HPP.out g (by omega))⟩, SrcP.nil _ _, hbF⟩
set_option maxHeartbeats 3200000 in
theorem sfRead_idle (h : SvP P w v x.rw) (ok : x.Ok) (hP : ∀ g, w.heap.size ≤ g → P g) (m : Int) (hm : 0 < m ∧ m ≤ 65536) (hrd : x.rd = 0) (hS0 : x.S = []) (hc : x.c = 0) (hbz : x.busy = false) : Calls Try.prog 46 #[v, .int .i64 m] w fun r w' => ∃ v' vb, r = .returned (.tuple #[v', vb, .int .i64 (sRd x m).2.1]) ∧ SvP P w' v' (sRd x m).2.2.rw ∧ SrcP P w' vb (sRd x m).1 ∧ Below w.heap.size w w' := by
  obtain ⟨vS, vR, rfl, hS', hR'⟩ := h
  have hS : SrcP P w vS x.S := hS'
  have hR : SrcP P w vR x.R := hR'
  clear hS' hR'
  obtain ⟨s1, s3, rfl, -, -⟩ := hS.1.form
  obtain ⟨r1, r3, rfl, hr3, hrm⟩ := hR.1.form
  simp only [List.length_map] at *
  have hsm := ok.small
  obtain ⟨n, hn⟩ : ∃ n, n = x.S.length := ⟨_, rfl⟩
  obtain ⟨rn, hrn⟩ : ∃ n, n = x.R.length := ⟨_, rfl⟩
  rw [← hrn] at hsm hr3
  have hval : x.rw.val (.slice s1 x.S.length s3) (.slice r1 x.R.length r3) = .agg #[.int .i64 (x.c : Nat), .slice s1 n s3, .bool x.busy, .slice r1 rn r3, .int .i64 (x.a : Nat), .int .i64 x.wr, .int .i64 x.rd] := by rw [hn, hrn]; rfl
  rw [hval]
  obtain ⟨W, hW⟩ : ∃ W, W = (w.alloc (.cells #[.int .i64 (x.c : Nat), .slice s1 n s3, .bool x.busy, .slice r1 rn r3, .int .i64 (x.a : Nat), .int .i64 x.wr, .int .i64 x.rd] 31)).alloc (.cells #[.int .i64 0, .slice none 0 0, .bool false, .slice none 0 0, .int .i64 0, .int .i64 0, .int .i64 0] 31) := ⟨_, rfl⟩
  have hb : Below w.heap.size w W := by rw [hW]; exact (below_alloc _ _).trans ((below_alloc _ _).mono (by simp))
  have hX0 : W.heap[w.heap.size]? = some (.cells #[.int .i64 (x.c : Nat), .slice s1 n s3, .bool x.busy, .slice r1 rn r3, .int .i64 (x.a : Nat), .int .i64 x.wr, .int .i64 x.rd] 31 (0, 0)) := by rw [hW]; exact ((below_alloc _ _).block w.heap.size (by simp)).trans (heap_alloc_new w _)
  have hR0 : W.heap[w.heap.size + 1]? = some (.cells #[.int .i64 0, .slice none 0 0, .bool false, .slice none 0 0, .int .i64 0, .int .i64 0, .int .i64 0] 31 (0, 0)) := by rw [hW]; exact block_new _ _ _ (by simp)
  have HR0 := Lib.hid hR0
  have HX0 := Lib.hid hX0
  have HB := Lib.hid hb
  have HW := Lib.hid hW.symm
  have HOK := Lib.hid ok
  have HSP : Hid (SrcP P w (.slice s1 n s3) x.S) := Lib.hid (by rw [hn]; exact hS)
  have HRP : Hid (SrcP P w (.slice r1 rn r3) x.R) := Lib.hid (by rw [hrn]; exact hR)
  have HN := Lib.hid (And.intro hn hrn)
  have k0 := cells_cell (o := 0) hX0 rfl
  have k1 := cells_cell (o := 1) hX0 rfl
  have k2 := cells_cell (o := 2) hX0 rfl
  have k3 := cells_cell (o := 3) hX0 rfl
  have k4 := cells_cell (o := 4) hX0 rfl
  have k5 := cells_cell (o := 5) hX0 rfl
  have k6 := cells_cell (o := 6) hX0 rfl
  have y0 := cells_free hX0 0
  have y1 := cells_free hX0 1
  have y2 := cells_free hX0 2
  have y3 := cells_free hX0 3
  have y4 := cells_free hX0 4
  have y5 := cells_free hX0 5
  have y6 := cells_free hX0 6
  have u0 := cells_free hR0 0
  have u1 := cells_free hR0 1
  have u2 := cells_free hR0 2
  have u3 := cells_free hR0 3
  have u4 := cells_free hR0 4
  have u5 := cells_free hR0 5
  have u6 := cells_free hR0 6
  have o0 := cells_cell (o := 0) hR0 rfl
  have o1 := cells_cell (o := 1) hR0 rfl
  have o2 := cells_cell (o := 2) hR0 rfl
  have o3 := cells_cell (o := 3) hR0 rfl
  have o4 := cells_cell (o := 4) hR0 rfl
  have o5 := cells_cell (o := 5) hR0 rfl
  have o6 := cells_cell (o := 6) hR0 rfl
  have hlB := lt_of_block hX0
  have hlR := lt_of_block hR0
  have hcp := sfCopy_any (w := W) (r := x.rw) (hS.1.grown hb) (hR.1.grown hb) (by show x.S.length ≤ _; have := ok.le; have := ok.top; omega) (by show x.R.length ≤ _; have := ok.small; omega)
  rw [hval] at hcp
  have HCP := Lib.hid hcp
  have HPP := Lib.hid hP
  have HM := Lib.hid hm
  have t1 : decide (m < 0) = false := by simp; omega
  have t2 : decide (65536 < m) = false := by simp; omega
  have t3 : (m == 0) = false := by simp; omega
  have t4 : (x.rd != 0) = false := by simp [hrd]
  have HRD := Lib.hid hrd
  unfold sRd
  rw [if_neg (by omega), if_neg (by simp [hrd]), if_neg (by omega)]
  have hn0 : n = 0 := by rw [hn, hS0]; rfl
  have t5 : decide (0 < (n : Int)) = false := by simp [hn0]
  have t6 : decide (0 < n) = false := by simp [hn0]
  have htk : x.take m.toNat = [] := by unfold St.take; rw [if_pos hc, (ok.idle hbz).1]; simp
  rw [if_pos htk]
  have t8 : ((x.c : Int) == 0) = true := by simp [hc]
  have HBZ := Lib.hid hbz
  clear hW hb hX0 hR0 hS hR hval hn hrn hr3 hrm hsm ok hP hm hrd hcp hn0 hS0 htk hc hbz
  by_cases hw : x.wr = 0
  · have t7 : (x.wr != 0) = false := by simp [hw]
    rw [if_pos hw]
    clear hw
    go_enter Try.func46, Try.ntmps46
    go_upto_region 1 with fail
    rw [HW.out]
    go_wp2_with (go_at_call 14; fail)
    refine HCP.out.mono ?_
    rintro e w2 ⟨uS, uR, mid, rfl, hrS, hdj, hmid, hrR, hb2⟩
    obtain ⟨p1, p3, hpS⟩ : ∃ a c, uS = .slice a n c := by
      obtain ⟨a, c, e, _⟩ := hrS.form
      exact ⟨a, c, by rw [e, HN.out.1]; rfl⟩
    subst hpS
    obtain ⟨q1, q3, hqR⟩ : ∃ a c, uR = .slice a rn c := by
      obtain ⟨a, c, e, _⟩ := hrR.form
      exact ⟨a, c, by rw [e, HN.out.2]; rfl⟩
    subst hqR
    have hX2 := (hb2.block _ (lt_of_block HX0.out)).trans HX0.out
    have hR2 := (hb2.block _ (lt_of_block HR0.out)).trans HR0.out
    have HX2 := Lib.hid hX2
    have HR2 := Lib.hid hR2
    have HB2 := Lib.hid hb2
    have HRS := Lib.hid hrS
    have HRR := Lib.hid hrR
    have HMID := Lib.hid hmid
    have j0 := cells_cell (o := 0) hX2 rfl
    have j1 := cells_cell (o := 1) hX2 rfl
    have j2 := cells_cell (o := 2) hX2 rfl
    have j3 := cells_cell (o := 3) hX2 rfl
    have j4 := cells_cell (o := 4) hX2 rfl
    have j5 := cells_cell (o := 5) hX2 rfl
    have j6 := cells_cell (o := 6) hX2 rfl
    have yy0 := cells_free hX2 0
    have yy1 := cells_free hX2 1
    have yy2 := cells_free hX2 2
    have yy3 := cells_free hX2 3
    have yy4 := cells_free hX2 4
    have yy5 := cells_free hX2 5
    have yy6 := cells_free hX2 6
    have hl2 := lt_of_block hX2
    clear hb2 hX2 hR2 hrS hrR hdj hmid hlB hlR
    clear k0 k1 k2 k3 k4 k5 k6 y0 y1 y2 y3 y4 y5 y6 u0 u1 u2 u3 u4 u5 u6 o0 o1 o2 o3 o4 o5 o6
    unfold Rw.val St.rw
    go_upto_region 8 with fail
    have eX := (cells_set (cells_set (cells_set (cells_set (cells_set (cells_set (cells_set HX2.out 0 (.int .i64 (x.c : Nat))) 1 (.slice p1 n p3)) 2 (.bool x.busy)) 3 (.slice q1 rn q3)) 4 (.int .i64 (x.a : Nat))) 5 (.int .i64 x.wr)) 6 (.int .i64 x.rd))
    have fX : Fr [w.heap.size] w2 (((((((w2.setCell ⟨w.heap.size, 0, none⟩ (.int .i64 (x.c : Nat))).setCell ⟨w.heap.size, 1, none⟩ (.slice p1 n p3)).setCell ⟨w.heap.size, 2, none⟩ (.bool x.busy)).setCell ⟨w.heap.size, 3, none⟩ (.slice q1 rn q3)).setCell ⟨w.heap.size, 4, none⟩ (.int .i64 (x.a : Nat))).setCell ⟨w.heap.size, 5, none⟩ (.int .i64 x.wr)).setCell ⟨w.heap.size, 6, none⟩ (.int .i64 x.rd)) := ((((((((Fr.refl [w.heap.size] w2).trans' ((fr_setCell _ ⟨w.heap.size, 0, none⟩ (.int .i64 (x.c : Nat))).mono (by simp))).trans' ((fr_setCell _ ⟨w.heap.size, 1, none⟩ (.slice p1 n p3)).mono (by simp))).trans' ((fr_setCell _ ⟨w.heap.size, 2, none⟩ (.bool x.busy)).mono (by simp))).trans' ((fr_setCell _ ⟨w.heap.size, 3, none⟩ (.slice q1 rn q3)).mono (by simp))).trans' ((fr_setCell _ ⟨w.heap.size, 4, none⟩ (.int .i64 (x.a : Nat))).mono (by simp))).trans' ((fr_setCell _ ⟨w.heap.size, 5, none⟩ (.int .i64 x.wr)).mono (by simp))).trans' ((fr_setCell _ ⟨w.heap.size, 6, none⟩ (.int .i64 x.rd)).mono (by simp)))
    obtain ⟨W3, hW3⟩ : ∃ W3, W3 = (((((((w2.setCell ⟨w.heap.size, 0, none⟩ (.int .i64 (x.c : Nat))).setCell ⟨w.heap.size, 1, none⟩ (.slice p1 n p3)).setCell ⟨w.heap.size, 2, none⟩ (.bool x.busy)).setCell ⟨w.heap.size, 3, none⟩ (.slice q1 rn q3)).setCell ⟨w.heap.size, 4, none⟩ (.int .i64 (x.a : Nat))).setCell ⟨w.heap.size, 5, none⟩ (.int .i64 x.wr)).setCell ⟨w.heap.size, 6, none⟩ (.int .i64 x.rd)) := ⟨_, rfl⟩
    rw [← hW3] at eX fX ⊢
    clear hW3
    have hX3 : W3.heap[w.heap.size]? = some (.cells #[.int .i64 (x.c : Nat), .slice p1 n p3, .bool x.busy, .slice q1 rn q3, .int .i64 (x.a : Nat), .int .i64 x.wr, .int .i64 x.rd] 31 (0, 0)) := by simpa using eX
    have hR3 := fX.same HR2.out (by simp)
    have hwz : w.heap.size + 1 < W.heap.size := lt_of_block HR0.out
    have HS3 : Hid (RowB W3 W.heap.size (.slice p1 n p3) x.S) := Lib.hid (fX.row HRS.out (fun g hg hm => by have := (HRS.out.lt g hg).1; simp only [List.mem_singleton] at hm; omega))
    have HT3 : Hid (RowB W3 W.heap.size (.slice q1 rn q3) x.R) := Lib.hid (RowV.lower (fX.row HRR.out (fun g hg hm => by have := (HRR.out.lt g hg).1; have := HMID.out; simp only [List.mem_singleton] at hm; omega)) HMID.out)
    have HC3 : Hid (Below w.heap.size w W3) := Lib.hid ((HB.out.trans (HB2.out.mono HB.out.size)).trans (fX.below (by simp) (by have := HB.out.size; have := HB2.out.size; omega)))
    have HWZ : Hid (w.heap.size + 1 < W.heap.size ∧ W.heap.size ≤ W3.heap.size) := Lib.hid ⟨hwz, by have := fX.size; have := HB2.out.size; omega⟩
    have HX3 := Lib.hid hX3
    have HR3 := Lib.hid hR3
    clear j0 j1 j2 j3 j4 j5 j6 yy0 yy1 yy2 yy3 yy4 yy5 yy6
    have k0 := cells_cell (o := 0) hX3 rfl
    have k1 := cells_cell (o := 1) hX3 rfl
    have k2 := cells_cell (o := 2) hX3 rfl
    have k3 := cells_cell (o := 3) hX3 rfl
    have k4 := cells_cell (o := 4) hX3 rfl
    have k5 := cells_cell (o := 5) hX3 rfl
    have k6 := cells_cell (o := 6) hX3 rfl
    have y0 := cells_free hX3 0
    have y1 := cells_free hX3 1
    have y2 := cells_free hX3 2
    have y3 := cells_free hX3 3
    have y4 := cells_free hX3 4
    have y5 := cells_free hX3 5
    have y6 := cells_free hX3 6
    have u0 := cells_free hR3 0
    have u1 := cells_free hR3 1
    have u2 := cells_free hR3 2
    have u3 := cells_free hR3 3
    have u4 := cells_free hR3 4
    have u5 := cells_free hR3 5
    have u6 := cells_free hR3 6
    have o0 := cells_cell (o := 0) hR3 rfl
    have o1 := cells_cell (o := 1) hR3 rfl
    have o2 := cells_cell (o := 2) hR3 rfl
    have o3 := cells_cell (o := 3) hR3 rfl
    have o4 := cells_cell (o := 4) hR3 rfl
    have o5 := cells_cell (o := 5) hR3 rfl
    have o6 := cells_cell (o := 6) hR3 rfl
    have hlBk := lt_of_block hX3
    have hlRk := lt_of_block hR3
    clear eX fX hX3 hR3 hl2 hwz
    have hx3 := HX3.out
    rw [HBZ.out] at hx3 k2
    have HX3 := Lib.hid hx3
    clear hx3
    have HXA := HX3
    have HRA := HR3
    have HSA := HS3
    have HTA := HT3
    have HCA := HC3
    clear HX3 HR3 HS3 HT3 HC3
    go_wp2_with fail
    have eF := (cells_set (cells_set (cells_set (cells_set (cells_set (cells_set (cells_set HRA.out 0 (.int .i64 (x.c : Nat))) 1 (.slice p1 n p3)) 2 (.bool false)) 3 (.slice q1 rn q3)) 4 (.int .i64 (x.a : Nat))) 5 (.int .i64 x.wr)) 6 (.int .i64 x.rd))
    have fF : Fr [w.heap.size + 1] W3 (((((((W3.setCell ⟨w.heap.size + 1, 0, none⟩ (.int .i64 (x.c : Nat))).setCell ⟨w.heap.size + 1, 1, none⟩ (.slice p1 n p3)).setCell ⟨w.heap.size + 1, 2, none⟩ (.bool false)).setCell ⟨w.heap.size + 1, 3, none⟩ (.slice q1 rn q3)).setCell ⟨w.heap.size + 1, 4, none⟩ (.int .i64 (x.a : Nat))).setCell ⟨w.heap.size + 1, 5, none⟩ (.int .i64 x.wr)).setCell ⟨w.heap.size + 1, 6, none⟩ (.int .i64 x.rd)) := ((((((((Fr.refl [w.heap.size + 1] W3).trans' ((fr_setCell _ ⟨w.heap.size + 1, 0, none⟩ (.int .i64 (x.c : Nat))).mono (by simp))).trans' ((fr_setCell _ ⟨w.heap.size + 1, 1, none⟩ (.slice p1 n p3)).mono (by simp))).trans' ((fr_setCell _ ⟨w.heap.size + 1, 2, none⟩ (.bool false)).mono (by simp))).trans' ((fr_setCell _ ⟨w.heap.size + 1, 3, none⟩ (.slice q1 rn q3)).mono (by simp))).trans' ((fr_setCell _ ⟨w.heap.size + 1, 4, none⟩ (.int .i64 (x.a : Nat))).mono (by simp))).trans' ((fr_setCell _ ⟨w.heap.size + 1, 5, none⟩ (.int .i64 x.wr)).mono (by simp))).trans' ((fr_setCell _ ⟨w.heap.size + 1, 6, none⟩ (.int .i64 x.rd)).mono (by simp)))
    obtain ⟨WF, hWF⟩ : ∃ WF, WF = (((((((W3.setCell ⟨w.heap.size + 1, 0, none⟩ (.int .i64 (x.c : Nat))).setCell ⟨w.heap.size + 1, 1, none⟩ (.slice p1 n p3)).setCell ⟨w.heap.size + 1, 2, none⟩ (.bool false)).setCell ⟨w.heap.size + 1, 3, none⟩ (.slice q1 rn q3)).setCell ⟨w.heap.size + 1, 4, none⟩ (.int .i64 (x.a : Nat))).setCell ⟨w.heap.size + 1, 5, none⟩ (.int .i64 x.wr)).setCell ⟨w.heap.size + 1, 6, none⟩ (.int .i64 x.rd)) := ⟨_, rfl⟩
    rw [← hWF] at eF fF ⊢
    clear hWF
    have eG : WF.heap[w.heap.size + 1]? = some (.cells #[.int .i64 (x.c : Nat), .slice p1 n p3, .bool false, .slice q1 rn q3, .int .i64 (x.a : Nat), .int .i64 x.wr, .int .i64 x.rd] 31 (0, 0)) := by simpa using eF
    have zz0 := cells_cell (o := 0) eG rfl
    have zz1 := cells_cell (o := 1) eG rfl
    have zz2 := cells_cell (o := 2) eG rfl
    have zz3 := cells_cell (o := 3) eG rfl
    have zz4 := cells_cell (o := 4) eG rfl
    have zz5 := cells_cell (o := 5) eG rfl
    have zz6 := cells_cell (o := 6) eG rfl
    refine bodyPost_ret (v := .tuple #[.agg #[.int .i64 (x.c : Nat), .slice p1 n p3, .bool false, .slice q1 rn q3, .int .i64 (x.a : Nat), .int .i64 x.wr, .int .i64 x.rd], .slice none 0 0, .int .i64 16]) (by simp [results, Try.results46, go_sem, zz0, zz1, zz2, zz3, zz4, zz5, zz6]) rfl ?_
    have hwz := HWZ.out
    have hbF := HCA.out.trans (fF.below (B := w.heap.size) (by simp) HCA.out.size)
    have hrS := fF.row HSA.out (fun g hg hm => by have := (HSA.out.lt g hg).1; simp only [List.mem_cons, List.not_mem_nil, or_false] at hm; omega)
    have hrT := fF.row HTA.out (fun g hg hm => by have := (HTA.out.lt g hg).1; simp only [List.mem_cons, List.not_mem_nil, or_false] at hm; omega)
    exact ⟨_, _, rfl, ⟨_, _, (by rw [← HBZ.out]; rfl), RowB.srcP hrS (fun g hg => HPP.out g (by omega)), RowB.srcP hrT (fun g hg => HPP.out g (by omega))⟩, SrcP.nil _ _, hbF⟩
  · have t7 : (x.wr != 0) = true := by simp [hw]
    rw [if_neg hw]
    clear hw
    go_enter Try.func46, Try.ntmps46
    go_upto_region 1 with fail
    rw [HW.out]
    go_wp2_with (go_at_call 14; fail)
    refine HCP.out.mono ?_
    rintro e w2 ⟨uS, uR, mid, rfl, hrS, hdj, hmid, hrR, hb2⟩
    obtain ⟨p1, p3, hpS⟩ : ∃ a c, uS = .slice a n c := by
      obtain ⟨a, c, e, _⟩ := hrS.form
      exact ⟨a, c, by rw [e, HN.out.1]; rfl⟩
    subst hpS
    obtain ⟨q1, q3, hqR⟩ : ∃ a c, uR = .slice a rn c := by
      obtain ⟨a, c, e, _⟩ := hrR.form
      exact ⟨a, c, by rw [e, HN.out.2]; rfl⟩
    subst hqR
    have hX2 := (hb2.block _ (lt_of_block HX0.out)).trans HX0.out
    have hR2 := (hb2.block _ (lt_of_block HR0.out)).trans HR0.out
    have HX2 := Lib.hid hX2
    have HR2 := Lib.hid hR2
    have HB2 := Lib.hid hb2
    have HRS := Lib.hid hrS
    have HRR := Lib.hid hrR
    have HMID := Lib.hid hmid
    have j0 := cells_cell (o := 0) hX2 rfl
    have j1 := cells_cell (o := 1) hX2 rfl
    have j2 := cells_cell (o := 2) hX2 rfl
    have j3 := cells_cell (o := 3) hX2 rfl
    have j4 := cells_cell (o := 4) hX2 rfl
    have j5 := cells_cell (o := 5) hX2 rfl
    have j6 := cells_cell (o := 6) hX2 rfl
    have yy0 := cells_free hX2 0
    have yy1 := cells_free hX2 1
    have yy2 := cells_free hX2 2
    have yy3 := cells_free hX2 3
    have yy4 := cells_free hX2 4
    have yy5 := cells_free hX2 5
    have yy6 := cells_free hX2 6
    have hl2 := lt_of_block hX2
    clear hb2 hX2 hR2 hrS hrR hdj hmid hlB hlR
    clear k0 k1 k2 k3 k4 k5 k6 y0 y1 y2 y3 y4 y5 y6 u0 u1 u2 u3 u4 u5 u6 o0 o1 o2 o3 o4 o5 o6
    unfold Rw.val St.rw
    go_upto_region 8 with fail
    have eX := (cells_set (cells_set (cells_set (cells_set (cells_set (cells_set (cells_set HX2.out 0 (.int .i64 (x.c : Nat))) 1 (.slice p1 n p3)) 2 (.bool x.busy)) 3 (.slice q1 rn q3)) 4 (.int .i64 (x.a : Nat))) 5 (.int .i64 x.wr)) 6 (.int .i64 x.rd))
    have fX : Fr [w.heap.size] w2 (((((((w2.setCell ⟨w.heap.size, 0, none⟩ (.int .i64 (x.c : Nat))).setCell ⟨w.heap.size, 1, none⟩ (.slice p1 n p3)).setCell ⟨w.heap.size, 2, none⟩ (.bool x.busy)).setCell ⟨w.heap.size, 3, none⟩ (.slice q1 rn q3)).setCell ⟨w.heap.size, 4, none⟩ (.int .i64 (x.a : Nat))).setCell ⟨w.heap.size, 5, none⟩ (.int .i64 x.wr)).setCell ⟨w.heap.size, 6, none⟩ (.int .i64 x.rd)) := ((((((((Fr.refl [w.heap.size] w2).trans' ((fr_setCell _ ⟨w.heap.size, 0, none⟩ (.int .i64 (x.c : Nat))).mono (by simp))).trans' ((fr_setCell _ ⟨w.heap.size, 1, none⟩ (.slice p1 n p3)).mono (by simp))).trans' ((fr_setCell _ ⟨w.heap.size, 2, none⟩ (.bool x.busy)).mono (by simp))).trans' ((fr_setCell _ ⟨w.heap.size, 3, none⟩ (.slice q1 rn q3)).mono (by simp))).trans' ((fr_setCell _ ⟨w.heap.size, 4, none⟩ (.int .i64 (x.a : Nat))).mono (by simp))).trans' ((fr_setCell _ ⟨w.heap.size, 5, none⟩ (.int .i64 x.wr)).mono (by simp))).trans' ((fr_setCell _ ⟨w.heap.size, 6, none⟩ (.int .i64 x.rd)).mono (by simp)))
    obtain ⟨W3, hW3⟩ : ∃ W3, W3 = (((((((w2.setCell ⟨w.heap.size, 0, none⟩ (.int .i64 (x.c : Nat))).setCell ⟨w.heap.size, 1, none⟩ (.slice p1 n p3)).setCell ⟨w.heap.size, 2, none⟩ (.bool x.busy)).setCell ⟨w.heap.size, 3, none⟩ (.slice q1 rn q3)).setCell ⟨w.heap.size, 4, none⟩ (.int .i64 (x.a : Nat))).setCell ⟨w.heap.size, 5, none⟩ (.int .i64 x.wr)).setCell ⟨w.heap.size, 6, none⟩ (.int .i64 x.rd)) := ⟨_, rfl⟩
    rw [← hW3] at eX fX ⊢
    clear hW3
    have hX3 : W3.heap[w.heap.size]? = some (.cells #[.int .i64 (x.c : Nat), .slice p1 n p3, .bool x.busy, .slice q1 rn q3, .int .i64 (x.a : Nat), .int .i64 x.wr, .int .i64 x.rd] 31 (0, 0)) := by simpa using eX
    have hR3 := fX.same HR2.out (by simp)
    have hwz : w.heap.size + 1 < W.heap.size := lt_of_block HR0.out
    have HS3 : Hid (RowB W3 W.heap.size (.slice p1 n p3) x.S) := Lib.hid (fX.row HRS.out (fun g hg hm => by have := (HRS.out.lt g hg).1; simp only [List.mem_singleton] at hm; omega))
    have HT3 : Hid (RowB W3 W.heap.size (.slice q1 rn q3) x.R) := Lib.hid (RowV.lower (fX.row HRR.out (fun g hg hm => by have := (HRR.out.lt g hg).1; have := HMID.out; simp only [List.mem_singleton] at hm; omega)) HMID.out)
    have HC3 : Hid (Below w.heap.size w W3) := Lib.hid ((HB.out.trans (HB2.out.mono HB.out.size)).trans (fX.below (by simp) (by have := HB.out.size; have := HB2.out.size; omega)))
    have HWZ : Hid (w.heap.size + 1 < W.heap.size ∧ W.heap.size ≤ W3.heap.size) := Lib.hid ⟨hwz, by have := fX.size; have := HB2.out.size; omega⟩
    have HX3 := Lib.hid hX3
    have HR3 := Lib.hid hR3
    clear j0 j1 j2 j3 j4 j5 j6 yy0 yy1 yy2 yy3 yy4 yy5 yy6
    have k0 := cells_cell (o := 0) hX3 rfl
    have k1 := cells_cell (o := 1) hX3 rfl
    have k2 := cells_cell (o := 2) hX3 rfl
    have k3 := cells_cell (o := 3) hX3 rfl
    have k4 := cells_cell (o := 4) hX3 rfl
    have k5 := cells_cell (o := 5) hX3 rfl
    have k6 := cells_cell (o := 6) hX3 rfl
    have y0 := cells_free hX3 0
    have y1 := cells_free hX3 1
    have y2 := cells_free hX3 2
    have y3 := cells_free hX3 3
    have y4 := cells_free hX3 4
    have y5 := cells_free hX3 5
    have y6 := cells_free hX3 6
    have u0 := cells_free hR3 0
    have u1 := cells_free hR3 1
    have u2 := cells_free hR3 2
    have u3 := cells_free hR3 3
    have u4 := cells_free hR3 4
    have u5 := cells_free hR3 5
    have u6 := cells_free hR3 6
    have o0 := cells_cell (o := 0) hR3 rfl
    have o1 := cells_cell (o := 1) hR3 rfl
    have o2 := cells_cell (o := 2) hR3 rfl
    have o3 := cells_cell (o := 3) hR3 rfl
    have o4 := cells_cell (o := 4) hR3 rfl
    have o5 := cells_cell (o := 5) hR3 rfl
    have o6 := cells_cell (o := 6) hR3 rfl
    have hlBk := lt_of_block hX3
    have hlRk := lt_of_block hR3
    clear eX fX hX3 hR3 hl2 hwz
    have hx3 := HX3.out
    rw [HBZ.out] at hx3 k2
    have HX3 := Lib.hid hx3
    clear hx3
    have HXA := HX3
    have HRA := HR3
    have HSA := HS3
    have HTA := HT3
    have HCA := HC3
    clear HX3 HR3 HS3 HT3 HC3
    go_wp2_with fail
    refine wp_region_mix (fun W' => W'.heap[w.heap.size]? = some (.cells #[.int .i64 (x.c : Nat), .slice p1 n p3, .bool false, .slice q1 rn q3, .int .i64 (x.a : Nat), .int .i64 x.wr, .int .i64 x.rd] 31 (0, 0))) 5 [(true, 0), (true, 1), (true, 2), (false, 3), (true, 4)] (by kernel_rfl) (by kernel_rfl) (fun _ _ _ d _ h => by cases d <;> exact h) ?_
    have HDW : Hid (Below W3.heap.size W3 W3.drew) := Lib.hid ((Grn.refl W3).drew 1).below
    have HT : Hid (W3.drew.heap[w.heap.size]? = some (.cells #[.int .i64 (x.c : Nat), .slice p1 n p3, .bool false, .slice q1 rn q3, .int .i64 (x.a : Nat), .int .i64 x.wr, .int .i64 x.rd] 31 (0, 0))) := Lib.hid ((HDW.out.block _ (lt_of_block HXA.out)).trans HXA.out)
    have hRV : W3.drew.heap[w.heap.size + 1]? = some (.cells #[.int .i64 0, .slice none 0 0, .bool false, .slice none 0 0, .int .i64 0, .int .i64 0, .int .i64 0] 31 (0, 0)) := (HDW.out.block _ (lt_of_block HRA.out)).trans HRA.out
    simp only [List.map_cons, List.map_nil, List.getD_cons_zero, List.getD_cons_succ, List.drop_succ_cons, List.drop_zero]
    generalize W3.drew = V at *
    have HRV := Lib.hid hRV
    have HSV := Lib.hid (HSA.out.grown HDW.out)
    have HTV := Lib.hid (HTA.out.grown HDW.out)
    have HCV := Lib.hid (HCA.out.trans (HDW.out.mono HCA.out.size))
    clear k0 k1 k2 k3 k4 k5 k6 y0 y1 y2 y3 y4 y5 y6 u0 u1 u2 u3 u4 u5 u6 o0 o1 o2 o3 o4 o5 o6
    have uu0 := cells_free hRV 0
    have uu1 := cells_free hRV 1
    have uu2 := cells_free hRV 2
    have uu3 := cells_free hRV 3
    have uu4 := cells_free hRV 4
    have uu5 := cells_free hRV 5
    have uu6 := cells_free hRV 6
    have oo0 := cells_cell (o := 0) hRV rfl
    have oo1 := cells_cell (o := 1) hRV rfl
    have oo2 := cells_cell (o := 2) hRV rfl
    have oo3 := cells_cell (o := 3) hRV rfl
    have oo4 := cells_cell (o := 4) hRV rfl
    have oo5 := cells_cell (o := 5) hRV rfl
    have oo6 := cells_cell (o := 6) hRV rfl
    have hlRV := lt_of_block hRV
    clear hRV
    refine mix_take (.agg #[.int .i64 (x.c : Nat), .slice p1 n p3, .bool false, .slice q1 rn q3, .int .i64 (x.a : Nat), .int .i64 x.wr, .int .i64 x.rd]) HT.out rfl (fun W' hS => by 
      have l0 := cells_cell (o := 0) hS rfl
      have l1 := cells_cell (o := 1) hS rfl
      have l2 := cells_cell (o := 2) hS rfl
      have l3 := cells_cell (o := 3) hS rfl
      have l4 := cells_cell (o := 4) hS rfl
      have l5 := cells_cell (o := 5) hS rfl
      have l6 := cells_cell (o := 6) hS rfl
      go_simp) ?_
    simp only [Act.put, List.setIfInBounds_toArray, List.set_cons_zero, List.set_cons_succ]
    refine mix_take (.pointer (some ⟨w.heap.size, 5, none⟩)) HT.out rfl (fun W' hS => by go_simp) ?_
    simp only [Act.put, List.setIfInBounds_toArray, List.set_cons_zero, List.set_cons_succ]
    refine mix_take (.int .i64 x.wr) HT.out rfl (fun W' hS => by 
      have l0 := cells_cell (o := 5) hS rfl
      go_simp) ?_
    simp only [Act.put, List.setIfInBounds_toArray, List.set_cons_zero, List.set_cons_succ]
    refine mix_step rfl (fun K3 hK => ?_)
    go_simp
    have HT4 : Hid ((((((((V.setCell ⟨w.heap.size + 1, 0, none⟩ (.int .i64 (x.c : Nat))).setCell ⟨w.heap.size + 1, 1, none⟩ (.slice p1 n p3)).setCell ⟨w.heap.size + 1, 2, none⟩ (.bool false)).setCell ⟨w.heap.size + 1, 3, none⟩ (.slice q1 rn q3)).setCell ⟨w.heap.size + 1, 4, none⟩ (.int .i64 (x.a : Nat))).setCell ⟨w.heap.size + 1, 5, none⟩ (.int .i64 x.wr)).setCell ⟨w.heap.size + 1, 6, none⟩ (.int .i64 x.rd)).heap[w.heap.size]? = some (.cells #[.int .i64 (x.c : Nat), .slice p1 n p3, .bool false, .slice q1 rn q3, .int .i64 (x.a : Nat), .int .i64 x.wr, .int .i64 x.rd] 31 (0, 0))) := Lib.hid ((fr_setCell _ ⟨w.heap.size + 1, 6, none⟩ (.int .i64 x.rd)).same ((fr_setCell _ ⟨w.heap.size + 1, 5, none⟩ (.int .i64 x.wr)).same ((fr_setCell _ ⟨w.heap.size + 1, 4, none⟩ (.int .i64 (x.a : Nat))).same ((fr_setCell _ ⟨w.heap.size + 1, 3, none⟩ (.slice q1 rn q3)).same ((fr_setCell _ ⟨w.heap.size + 1, 2, none⟩ (.bool false)).same ((fr_setCell _ ⟨w.heap.size + 1, 1, none⟩ (.slice p1 n p3)).same ((fr_setCell _ ⟨w.heap.size + 1, 0, none⟩ (.int .i64 (x.c : Nat))).same HT.out (by simp)) (by simp)) (by simp)) (by simp)) (by simp)) (by simp)) (by simp))
    refine hK _ _ HT4.out ?_
    clear hK K3
    try simp only [Act.put, List.setIfInBounds_toArray, List.set_cons_zero, List.set_cons_succ]
    refine mix_take (.slice none 0 0) HT4.out rfl (fun W' hS => by go_simp) ?_
    try simp only [Act.put, List.setIfInBounds_toArray, List.set_cons_zero, List.set_cons_succ]
    refine mix_nil ?_
    go_wp2_with fail
    have eF := (cells_set (cells_set (cells_set (cells_set (cells_set (cells_set (cells_set HRV.out 0 (.int .i64 (x.c : Nat))) 1 (.slice p1 n p3)) 2 (.bool false)) 3 (.slice q1 rn q3)) 4 (.int .i64 (x.a : Nat))) 5 (.int .i64 x.wr)) 6 (.int .i64 x.rd))
    have fF : Fr [w.heap.size + 1] V (((((((V.setCell ⟨w.heap.size + 1, 0, none⟩ (.int .i64 (x.c : Nat))).setCell ⟨w.heap.size + 1, 1, none⟩ (.slice p1 n p3)).setCell ⟨w.heap.size + 1, 2, none⟩ (.bool false)).setCell ⟨w.heap.size + 1, 3, none⟩ (.slice q1 rn q3)).setCell ⟨w.heap.size + 1, 4, none⟩ (.int .i64 (x.a : Nat))).setCell ⟨w.heap.size + 1, 5, none⟩ (.int .i64 x.wr)).setCell ⟨w.heap.size + 1, 6, none⟩ (.int .i64 x.rd)) := ((((((((Fr.refl [w.heap.size + 1] V).trans' ((fr_setCell _ ⟨w.heap.size + 1, 0, none⟩ (.int .i64 (x.c : Nat))).mono (by simp))).trans' ((fr_setCell _ ⟨w.heap.size + 1, 1, none⟩ (.slice p1 n p3)).mono (by simp))).trans' ((fr_setCell _ ⟨w.heap.size + 1, 2, none⟩ (.bool false)).mono (by simp))).trans' ((fr_setCell _ ⟨w.heap.size + 1, 3, none⟩ (.slice q1 rn q3)).mono (by simp))).trans' ((fr_setCell _ ⟨w.heap.size + 1, 4, none⟩ (.int .i64 (x.a : Nat))).mono (by simp))).trans' ((fr_setCell _ ⟨w.heap.size + 1, 5, none⟩ (.int .i64 x.wr)).mono (by simp))).trans' ((fr_setCell _ ⟨w.heap.size + 1, 6, none⟩ (.int .i64 x.rd)).mono (by simp)))
    obtain ⟨WF, hWF⟩ : ∃ WF, WF = (((((((V.setCell ⟨w.heap.size + 1, 0, none⟩ (.int .i64 (x.c : Nat))).setCell ⟨w.heap.size + 1, 1, none⟩ (.slice p1 n p3)).setCell ⟨w.heap.size + 1, 2, none⟩ (.bool false)).setCell ⟨w.heap.size + 1, 3, none⟩ (.slice q1 rn q3)).setCell ⟨w.heap.size + 1, 4, none⟩ (.int .i64 (x.a : Nat))).setCell ⟨w.heap.size + 1, 5, none⟩ (.int .i64 x.wr)).setCell ⟨w.heap.size + 1, 6, none⟩ (.int .i64 x.rd)) := ⟨_, rfl⟩
    rw [← hWF] at eF fF ⊢
    clear hWF
    have eG : WF.heap[w.heap.size + 1]? = some (.cells #[.int .i64 (x.c : Nat), .slice p1 n p3, .bool false, .slice q1 rn q3, .int .i64 (x.a : Nat), .int .i64 x.wr, .int .i64 x.rd] 31 (0, 0)) := by simpa using eF
    have zz0 := cells_cell (o := 0) eG rfl
    have zz1 := cells_cell (o := 1) eG rfl
    have zz2 := cells_cell (o := 2) eG rfl
    have zz3 := cells_cell (o := 3) eG rfl
    have zz4 := cells_cell (o := 4) eG rfl
    have zz5 := cells_cell (o := 5) eG rfl
    have zz6 := cells_cell (o := 6) eG rfl
    refine bodyPost_ret (v := .tuple #[.agg #[.int .i64 (x.c : Nat), .slice p1 n p3, .bool false, .slice q1 rn q3, .int .i64 (x.a : Nat), .int .i64 x.wr, .int .i64 x.rd], .slice none 0 0, .int .i64 x.wr]) (by simp [results, Try.results46, go_sem, zz0, zz1, zz2, zz3, zz4, zz5, zz6]) rfl ?_
    have hwz := HWZ.out
    have hbF := HCV.out.trans (fF.below (B := w.heap.size) (by simp) HCV.out.size)
    have hrS := fF.row HSV.out (fun g hg hm => by have := (HSV.out.lt g hg).1; simp only [List.mem_cons, List.not_mem_nil, or_false] at hm; omega)
    have hrT := fF.row HTV.out (fun g hg hm => by have := (HTV.out.lt g hg).1; simp only [List.mem_cons, List.not_mem_nil, or_false] at hm; omega)
    exact ⟨_, _, rfl, ⟨_, _, (by rw [← HBZ.out]; rfl), RowB.srcP hrS (fun g hg => HPP.out g (by omega)), RowB.srcP hrT (fun g hg => HPP.out g (by omega))⟩, SrcP.nil _ _, hbF⟩
set_option maxHeartbeats 3200000 in
theorem sfRead_shut (h : SvP P w v x.rw) (ok : x.Ok) (hP : ∀ g, w.heap.size ≤ g → P g) (m : Int) (hm : 0 < m ∧ m ≤ 65536) (hrd : x.rd = 0) (hS0 : x.S = []) (hc : x.c = 0) (hbz : x.busy = true) (hw : x.wr ≠ 0) : Calls Try.prog 46 #[v, .int .i64 m] w fun r w' => ∃ v' vb, r = .returned (.tuple #[v', vb, .int .i64 (sRd x m).2.1]) ∧ SvP P w' v' (sRd x m).2.2.rw ∧ SrcP P w' vb (sRd x m).1 ∧ Below w.heap.size w w' := by
  obtain ⟨vS, vR, rfl, hS', hR'⟩ := h
  have hS : SrcP P w vS x.S := hS'
  have hR : SrcP P w vR x.R := hR'
  clear hS' hR'
  obtain ⟨s1, s3, rfl, -, -⟩ := hS.1.form
  obtain ⟨r1, r3, rfl, hr3, hrm⟩ := hR.1.form
  simp only [List.length_map] at *
  have hsm := ok.small
  obtain ⟨n, hn⟩ : ∃ n, n = x.S.length := ⟨_, rfl⟩
  obtain ⟨rn, hrn⟩ : ∃ n, n = x.R.length := ⟨_, rfl⟩
  rw [← hrn] at hsm hr3
  have hval : x.rw.val (.slice s1 x.S.length s3) (.slice r1 x.R.length r3) = .agg #[.int .i64 (x.c : Nat), .slice s1 n s3, .bool x.busy, .slice r1 rn r3, .int .i64 (x.a : Nat), .int .i64 x.wr, .int .i64 x.rd] := by rw [hn, hrn]; rfl
  rw [hval]
  obtain ⟨W, hW⟩ : ∃ W, W = (w.alloc (.cells #[.int .i64 (x.c : Nat), .slice s1 n s3, .bool x.busy, .slice r1 rn r3, .int .i64 (x.a : Nat), .int .i64 x.wr, .int .i64 x.rd] 31)).alloc (.cells #[.int .i64 0, .slice none 0 0, .bool false, .slice none 0 0, .int .i64 0, .int .i64 0, .int .i64 0] 31) := ⟨_, rfl⟩
  have hb : Below w.heap.size w W := by rw [hW]; exact (below_alloc _ _).trans ((below_alloc _ _).mono (by simp))
  have hX0 : W.heap[w.heap.size]? = some (.cells #[.int .i64 (x.c : Nat), .slice s1 n s3, .bool x.busy, .slice r1 rn r3, .int .i64 (x.a : Nat), .int .i64 x.wr, .int .i64 x.rd] 31 (0, 0)) := by rw [hW]; exact ((below_alloc _ _).block w.heap.size (by simp)).trans (heap_alloc_new w _)
  have hR0 : W.heap[w.heap.size + 1]? = some (.cells #[.int .i64 0, .slice none 0 0, .bool false, .slice none 0 0, .int .i64 0, .int .i64 0, .int .i64 0] 31 (0, 0)) := by rw [hW]; exact block_new _ _ _ (by simp)
  have HR0 := Lib.hid hR0
  have HX0 := Lib.hid hX0
  have HB := Lib.hid hb
  have HW := Lib.hid hW.symm
  have HOK := Lib.hid ok
  have HSP : Hid (SrcP P w (.slice s1 n s3) x.S) := Lib.hid (by rw [hn]; exact hS)
  have HRP : Hid (SrcP P w (.slice r1 rn r3) x.R) := Lib.hid (by rw [hrn]; exact hR)
  have HN := Lib.hid (And.intro hn hrn)
  have k0 := cells_cell (o := 0) hX0 rfl
  have k1 := cells_cell (o := 1) hX0 rfl
  have k2 := cells_cell (o := 2) hX0 rfl
  have k3 := cells_cell (o := 3) hX0 rfl
  have k4 := cells_cell (o := 4) hX0 rfl
  have k5 := cells_cell (o := 5) hX0 rfl
  have k6 := cells_cell (o := 6) hX0 rfl
  have y0 := cells_free hX0 0
  have y1 := cells_free hX0 1
  have y2 := cells_free hX0 2
  have y3 := cells_free hX0 3
  have y4 := cells_free hX0 4
  have y5 := cells_free hX0 5
  have y6 := cells_free hX0 6
  have u0 := cells_free hR0 0
  have u1 := cells_free hR0 1
  have u2 := cells_free hR0 2
  have u3 := cells_free hR0 3
  have u4 := cells_free hR0 4
  have u5 := cells_free hR0 5
  have u6 := cells_free hR0 6
  have o0 := cells_cell (o := 0) hR0 rfl
  have o1 := cells_cell (o := 1) hR0 rfl
  have o2 := cells_cell (o := 2) hR0 rfl
  have o3 := cells_cell (o := 3) hR0 rfl
  have o4 := cells_cell (o := 4) hR0 rfl
  have o5 := cells_cell (o := 5) hR0 rfl
  have o6 := cells_cell (o := 6) hR0 rfl
  have hlB := lt_of_block hX0
  have hlR := lt_of_block hR0
  have hcp := sfCopy_any (w := W) (r := x.rw) (hS.1.grown hb) (hR.1.grown hb) (by show x.S.length ≤ _; have := ok.le; have := ok.top; omega) (by show x.R.length ≤ _; have := ok.small; omega)
  rw [hval] at hcp
  have HCP := Lib.hid hcp
  have HPP := Lib.hid hP
  have HM := Lib.hid hm
  have t1 : decide (m < 0) = false := by simp; omega
  have t2 : decide (65536 < m) = false := by simp; omega
  have t3 : (m == 0) = false := by simp; omega
  have t4 : (x.rd != 0) = false := by simp [hrd]
  have HRD := Lib.hid hrd
  unfold sRd
  rw [if_neg (by omega), if_neg (by simp [hrd]), if_neg (by omega)]
  have hn0 : n = 0 := by rw [hn, hS0]; rfl
  have t5 : decide (0 < (n : Int)) = false := by simp [hn0]
  have t6 : decide (0 < n) = false := by simp [hn0]
  have htk : x.take m.toNat = [] := by unfold St.take; rw [if_pos hc, if_neg hw]
  rw [if_pos htk, if_neg hw]
  have t8 : ((x.c : Int) == 0) = true := by simp [hc]
  have t7 : (x.wr != 0) = true := by simp [hw]
  have HBZ := Lib.hid hbz
  have HWN := Lib.hid hw
  clear hW hb hX0 hR0 hS hR hval hn hrn hr3 hrm hsm ok hP hm hrd hcp hn0 hS0 htk hc hbz hw
  go_enter Try.func46, Try.ntmps46
  go_upto_region 1 with fail
  rw [HW.out]
  go_wp2_with (go_at_call 14; fail)
  refine HCP.out.mono ?_
  rintro e w2 ⟨uS, uR, mid, rfl, hrS, hdj, hmid, hrR, hb2⟩
  obtain ⟨p1, p3, hpS⟩ : ∃ a c, uS = .slice a n c := by
    obtain ⟨a, c, e, _⟩ := hrS.form
    exact ⟨a, c, by rw [e, HN.out.1]; rfl⟩
  subst hpS
  obtain ⟨q1, q3, hqR⟩ : ∃ a c, uR = .slice a rn c := by
    obtain ⟨a, c, e, _⟩ := hrR.form
    exact ⟨a, c, by rw [e, HN.out.2]; rfl⟩
  subst hqR
  have hX2 := (hb2.block _ (lt_of_block HX0.out)).trans HX0.out
  have hR2 := (hb2.block _ (lt_of_block HR0.out)).trans HR0.out
  have HX2 := Lib.hid hX2
  have HR2 := Lib.hid hR2
  have HB2 := Lib.hid hb2
  have HRS := Lib.hid hrS
  have HRR := Lib.hid hrR
  have HMID := Lib.hid hmid
  have j0 := cells_cell (o := 0) hX2 rfl
  have j1 := cells_cell (o := 1) hX2 rfl
  have j2 := cells_cell (o := 2) hX2 rfl
  have j3 := cells_cell (o := 3) hX2 rfl
  have j4 := cells_cell (o := 4) hX2 rfl
  have j5 := cells_cell (o := 5) hX2 rfl
  have j6 := cells_cell (o := 6) hX2 rfl
  have yy0 := cells_free hX2 0
  have yy1 := cells_free hX2 1
  have yy2 := cells_free hX2 2
  have yy3 := cells_free hX2 3
  have yy4 := cells_free hX2 4
  have yy5 := cells_free hX2 5
  have yy6 := cells_free hX2 6
  have hl2 := lt_of_block hX2
  clear hb2 hX2 hR2 hrS hrR hdj hmid hlB hlR
  clear k0 k1 k2 k3 k4 k5 k6 y0 y1 y2 y3 y4 y5 y6 u0 u1 u2 u3 u4 u5 u6 o0 o1 o2 o3 o4 o5 o6
  unfold Rw.val St.rw
  go_upto_region 8 with fail
  have eX := (cells_set (cells_set (cells_set (cells_set (cells_set (cells_set (cells_set HX2.out 0 (.int .i64 (x.c : Nat))) 1 (.slice p1 n p3)) 2 (.bool x.busy)) 3 (.slice q1 rn q3)) 4 (.int .i64 (x.a : Nat))) 5 (.int .i64 x.wr)) 6 (.int .i64 x.rd))
  have fX : Fr [w.heap.size] w2 (((((((w2.setCell ⟨w.heap.size, 0, none⟩ (.int .i64 (x.c : Nat))).setCell ⟨w.heap.size, 1, none⟩ (.slice p1 n p3)).setCell ⟨w.heap.size, 2, none⟩ (.bool x.busy)).setCell ⟨w.heap.size, 3, none⟩ (.slice q1 rn q3)).setCell ⟨w.heap.size, 4, none⟩ (.int .i64 (x.a : Nat))).setCell ⟨w.heap.size, 5, none⟩ (.int .i64 x.wr)).setCell ⟨w.heap.size, 6, none⟩ (.int .i64 x.rd)) := ((((((((Fr.refl [w.heap.size] w2).trans' ((fr_setCell _ ⟨w.heap.size, 0, none⟩ (.int .i64 (x.c : Nat))).mono (by simp))).trans' ((fr_setCell _ ⟨w.heap.size, 1, none⟩ (.slice p1 n p3)).mono (by simp))).trans' ((fr_setCell _ ⟨w.heap.size, 2, none⟩ (.bool x.busy)).mono (by simp))).trans' ((fr_setCell _ ⟨w.heap.size, 3, none⟩ (.slice q1 rn q3)).mono (by simp))).trans' ((fr_setCell _ ⟨w.heap.size, 4, none⟩ (.int .i64 (x.a : Nat))).mono (by simp))).trans' ((fr_setCell _ ⟨w.heap.size, 5, none⟩ (.int .i64 x.wr)).mono (by simp))).trans' ((fr_setCell _ ⟨w.heap.size, 6, none⟩ (.int .i64 x.rd)).mono (by simp)))
  obtain ⟨W3, hW3⟩ : ∃ W3, W3 = (((((((w2.setCell ⟨w.heap.size, 0, none⟩ (.int .i64 (x.c : Nat))).setCell ⟨w.heap.size, 1, none⟩ (.slice p1 n p3)).setCell ⟨w.heap.size, 2, none⟩ (.bool x.busy)).setCell ⟨w.heap.size, 3, none⟩ (.slice q1 rn q3)).setCell ⟨w.heap.size, 4, none⟩ (.int .i64 (x.a : Nat))).setCell ⟨w.heap.size, 5, none⟩ (.int .i64 x.wr)).setCell ⟨w.heap.size, 6, none⟩ (.int .i64 x.rd)) := ⟨_, rfl⟩
  rw [← hW3] at eX fX ⊢
  clear hW3
  have hX3 : W3.heap[w.heap.size]? = some (.cells #[.int .i64 (x.c : Nat), .slice p1 n p3, .bool x.busy, .slice q1 rn q3, .int .i64 (x.a : Nat), .int .i64 x.wr, .int .i64 x.rd] 31 (0, 0)) := by simpa using eX
  have hR3 := fX.same HR2.out (by simp)
  have hwz : w.heap.size + 1 < W.heap.size := lt_of_block HR0.out
  have HS3 : Hid (RowB W3 W.heap.size (.slice p1 n p3) x.S) := Lib.hid (fX.row HRS.out (fun g hg hm => by have := (HRS.out.lt g hg).1; simp only [List.mem_singleton] at hm; omega))
  have HT3 : Hid (RowB W3 W.heap.size (.slice q1 rn q3) x.R) := Lib.hid (RowV.lower (fX.row HRR.out (fun g hg hm => by have := (HRR.out.lt g hg).1; have := HMID.out; simp only [List.mem_singleton] at hm; omega)) HMID.out)
  have HC3 : Hid (Below w.heap.size w W3) := Lib.hid ((HB.out.trans (HB2.out.mono HB.out.size)).trans (fX.below (by simp) (by have := HB.out.size; have := HB2.out.size; omega)))
  have HWZ : Hid (w.heap.size + 1 < W.heap.size ∧ W.heap.size ≤ W3.heap.size) := Lib.hid ⟨hwz, by have := fX.size; have := HB2.out.size; omega⟩
  have HX3 := Lib.hid hX3
  have HR3 := Lib.hid hR3
  clear j0 j1 j2 j3 j4 j5 j6 yy0 yy1 yy2 yy3 yy4 yy5 yy6
  have k0 := cells_cell (o := 0) hX3 rfl
  have k1 := cells_cell (o := 1) hX3 rfl
  have k2 := cells_cell (o := 2) hX3 rfl
  have k3 := cells_cell (o := 3) hX3 rfl
  have k4 := cells_cell (o := 4) hX3 rfl
  have k5 := cells_cell (o := 5) hX3 rfl
  have k6 := cells_cell (o := 6) hX3 rfl
  have y0 := cells_free hX3 0
  have y1 := cells_free hX3 1
  have y2 := cells_free hX3 2
  have y3 := cells_free hX3 3
  have y4 := cells_free hX3 4
  have y5 := cells_free hX3 5
  have y6 := cells_free hX3 6
  have u0 := cells_free hR3 0
  have u1 := cells_free hR3 1
  have u2 := cells_free hR3 2
  have u3 := cells_free hR3 3
  have u4 := cells_free hR3 4
  have u5 := cells_free hR3 5
  have u6 := cells_free hR3 6
  have o0 := cells_cell (o := 0) hR3 rfl
  have o1 := cells_cell (o := 1) hR3 rfl
  have o2 := cells_cell (o := 2) hR3 rfl
  have o3 := cells_cell (o := 3) hR3 rfl
  have o4 := cells_cell (o := 4) hR3 rfl
  have o5 := cells_cell (o := 5) hR3 rfl
  have o6 := cells_cell (o := 6) hR3 rfl
  have hlBk := lt_of_block hX3
  have hlRk := lt_of_block hR3
  clear eX fX hX3 hR3 hl2 hwz
  have hx3 := HX3.out
  rw [HBZ.out] at hx3 k2
  have HX3 := Lib.hid hx3
  clear hx3
  have HXA := HX3
  have HRA := HR3
  have HSA := HS3
  have HTA := HT3
  have HCA := HC3
  clear HX3 HR3 HS3 HT3 HC3
  have HO := Lib.hid (fun W => sfOpen_any W (x.c : Nat) p1 n p3 true q1 rn q3 (x.a : Nat) x.wr x.rd)
  rw [show decide (x.wr = 0 ∧ x.rd = 0) = false by simp [HWN.out]] at HO
  go_wp2_with (go_at_call 54; fail)
  refine (HO.out _).mono ?_
  rintro e w5 ⟨rfl, hb5⟩
  have hX5 := (hb5.block _ (lt_of_block HXA.out)).trans HXA.out
  have hR5 := (hb5.block _ (lt_of_block HRA.out)).trans HRA.out
  clear k0 k1 k2 k3 k4 k5 k6 y0 y1 y2 y3 y4 y5 y6 u0 u1 u2 u3 u4 u5 u6 o0 o1 o2 o3 o4 o5 o6
  have k0 := cells_cell (o := 0) hX5 rfl
  have k1 := cells_cell (o := 1) hX5 rfl
  have k2 := cells_cell (o := 2) hX5 rfl
  have k3 := cells_cell (o := 3) hX5 rfl
  have k4 := cells_cell (o := 4) hX5 rfl
  have k5 := cells_cell (o := 5) hX5 rfl
  have k6 := cells_cell (o := 6) hX5 rfl
  have y0 := cells_free hX5 0
  have y1 := cells_free hX5 1
  have y2 := cells_free hX5 2
  have y3 := cells_free hX5 3
  have y4 := cells_free hX5 4
  have y5 := cells_free hX5 5
  have y6 := cells_free hX5 6
  have u0 := cells_free hR5 0
  have u1 := cells_free hR5 1
  have u2 := cells_free hR5 2
  have u3 := cells_free hR5 3
  have u4 := cells_free hR5 4
  have u5 := cells_free hR5 5
  have u6 := cells_free hR5 6
  have o0 := cells_cell (o := 0) hR5 rfl
  have o1 := cells_cell (o := 1) hR5 rfl
  have o2 := cells_cell (o := 2) hR5 rfl
  have o3 := cells_cell (o := 3) hR5 rfl
  have o4 := cells_cell (o := 4) hR5 rfl
  have o5 := cells_cell (o := 5) hR5 rfl
  have o6 := cells_cell (o := 6) hR5 rfl
  have hlBk := lt_of_block hX5
  have hlRk := lt_of_block hR5
  have HX5 := Lib.hid hX5
  have HR5 := Lib.hid hR5
  have HS5 := Lib.hid (HSA.out.grown hb5)
  have HT5 := Lib.hid (HTA.out.grown hb5)
  have HC5 := Lib.hid (HCA.out.trans (hb5.mono HCA.out.size))
  have HWZ5 : Hid (w.heap.size + 1 < W.heap.size ∧ W.heap.size ≤ w5.heap.size) := Lib.hid ⟨HWZ.out.1, by have := HWZ.out.2; have := hb5.size; omega⟩
  clear hX5 hR5 hb5 hlBk hlRk HXA HRA HSA HTA HCA HWZ
  go_wp2_with fail
  refine wp_region_mix (fun W' => W'.heap[w.heap.size]? = some (.cells #[.int .i64 (x.c : Nat), .slice p1 n p3, .bool true, .slice q1 rn q3, .int .i64 (x.a : Nat), .int .i64 x.wr, .int .i64 x.rd] 31 (0, 0))) 5 [(true, 0), (true, 1), (true, 2), (false, 3), (true, 4)] (by kernel_rfl) (by kernel_rfl) (fun _ _ _ d _ h => by cases d <;> exact h) ?_
  have HDW : Hid (Below w5.heap.size w5 w5.drew) := Lib.hid ((Grn.refl w5).drew 1).below
  have HT : Hid (w5.drew.heap[w.heap.size]? = some (.cells #[.int .i64 (x.c : Nat), .slice p1 n p3, .bool true, .slice q1 rn q3, .int .i64 (x.a : Nat), .int .i64 x.wr, .int .i64 x.rd] 31 (0, 0))) := Lib.hid ((HDW.out.block _ (lt_of_block HX5.out)).trans HX5.out)
  have hRV : w5.drew.heap[w.heap.size + 1]? = some (.cells #[.int .i64 0, .slice none 0 0, .bool false, .slice none 0 0, .int .i64 0, .int .i64 0, .int .i64 0] 31 (0, 0)) := (HDW.out.block _ (lt_of_block HR5.out)).trans HR5.out
  simp only [List.map_cons, List.map_nil, List.getD_cons_zero, List.getD_cons_succ, List.drop_succ_cons, List.drop_zero]
  generalize w5.drew = V at *
  have HRV := Lib.hid hRV
  have HSV := Lib.hid (HS5.out.grown HDW.out)
  have HTV := Lib.hid (HT5.out.grown HDW.out)
  have HCV := Lib.hid (HC5.out.trans (HDW.out.mono HC5.out.size))
  clear k0 k1 k2 k3 k4 k5 k6 y0 y1 y2 y3 y4 y5 y6 u0 u1 u2 u3 u4 u5 u6 o0 o1 o2 o3 o4 o5 o6
  have uu0 := cells_free hRV 0
  have uu1 := cells_free hRV 1
  have uu2 := cells_free hRV 2
  have uu3 := cells_free hRV 3
  have uu4 := cells_free hRV 4
  have uu5 := cells_free hRV 5
  have uu6 := cells_free hRV 6
  have oo0 := cells_cell (o := 0) hRV rfl
  have oo1 := cells_cell (o := 1) hRV rfl
  have oo2 := cells_cell (o := 2) hRV rfl
  have oo3 := cells_cell (o := 3) hRV rfl
  have oo4 := cells_cell (o := 4) hRV rfl
  have oo5 := cells_cell (o := 5) hRV rfl
  have oo6 := cells_cell (o := 6) hRV rfl
  have hlRV := lt_of_block hRV
  clear hRV
  refine mix_take (.agg #[.int .i64 (x.c : Nat), .slice p1 n p3, .bool true, .slice q1 rn q3, .int .i64 (x.a : Nat), .int .i64 x.wr, .int .i64 x.rd]) HT.out rfl (fun W' hS => by 
    have l0 := cells_cell (o := 0) hS rfl
    have l1 := cells_cell (o := 1) hS rfl
    have l2 := cells_cell (o := 2) hS rfl
    have l3 := cells_cell (o := 3) hS rfl
    have l4 := cells_cell (o := 4) hS rfl
    have l5 := cells_cell (o := 5) hS rfl
    have l6 := cells_cell (o := 6) hS rfl
    go_simp) ?_
  simp only [Act.put, List.setIfInBounds_toArray, List.set_cons_zero, List.set_cons_succ]
  refine mix_take (.pointer (some ⟨w.heap.size, 5, none⟩)) HT.out rfl (fun W' hS => by go_simp) ?_
  simp only [Act.put, List.setIfInBounds_toArray, List.set_cons_zero, List.set_cons_succ]
  refine mix_take (.int .i64 x.wr) HT.out rfl (fun W' hS => by 
    have l0 := cells_cell (o := 5) hS rfl
    go_simp) ?_
  simp only [Act.put, List.setIfInBounds_toArray, List.set_cons_zero, List.set_cons_succ]
  refine mix_step rfl (fun K3 hK => ?_)
  go_simp
  have HT4 : Hid ((((((((V.setCell ⟨w.heap.size + 1, 0, none⟩ (.int .i64 (x.c : Nat))).setCell ⟨w.heap.size + 1, 1, none⟩ (.slice p1 n p3)).setCell ⟨w.heap.size + 1, 2, none⟩ (.bool true)).setCell ⟨w.heap.size + 1, 3, none⟩ (.slice q1 rn q3)).setCell ⟨w.heap.size + 1, 4, none⟩ (.int .i64 (x.a : Nat))).setCell ⟨w.heap.size + 1, 5, none⟩ (.int .i64 x.wr)).setCell ⟨w.heap.size + 1, 6, none⟩ (.int .i64 x.rd)).heap[w.heap.size]? = some (.cells #[.int .i64 (x.c : Nat), .slice p1 n p3, .bool true, .slice q1 rn q3, .int .i64 (x.a : Nat), .int .i64 x.wr, .int .i64 x.rd] 31 (0, 0))) := Lib.hid ((fr_setCell _ ⟨w.heap.size + 1, 6, none⟩ (.int .i64 x.rd)).same ((fr_setCell _ ⟨w.heap.size + 1, 5, none⟩ (.int .i64 x.wr)).same ((fr_setCell _ ⟨w.heap.size + 1, 4, none⟩ (.int .i64 (x.a : Nat))).same ((fr_setCell _ ⟨w.heap.size + 1, 3, none⟩ (.slice q1 rn q3)).same ((fr_setCell _ ⟨w.heap.size + 1, 2, none⟩ (.bool true)).same ((fr_setCell _ ⟨w.heap.size + 1, 1, none⟩ (.slice p1 n p3)).same ((fr_setCell _ ⟨w.heap.size + 1, 0, none⟩ (.int .i64 (x.c : Nat))).same HT.out (by simp)) (by simp)) (by simp)) (by simp)) (by simp)) (by simp)) (by simp))
  refine hK _ _ HT4.out ?_
  clear hK K3
  try simp only [Act.put, List.setIfInBounds_toArray, List.set_cons_zero, List.set_cons_succ]
  refine mix_take (.slice none 0 0) HT4.out rfl (fun W' hS => by go_simp) ?_
  try simp only [Act.put, List.setIfInBounds_toArray, List.set_cons_zero, List.set_cons_succ]
  refine mix_nil ?_
  go_wp2_with fail
  have eF := (cells_set (cells_set (cells_set (cells_set (cells_set (cells_set (cells_set HRV.out 0 (.int .i64 (x.c : Nat))) 1 (.slice p1 n p3)) 2 (.bool true)) 3 (.slice q1 rn q3)) 4 (.int .i64 (x.a : Nat))) 5 (.int .i64 x.wr)) 6 (.int .i64 x.rd))
  have fF : Fr [w.heap.size + 1] V (((((((V.setCell ⟨w.heap.size + 1, 0, none⟩ (.int .i64 (x.c : Nat))).setCell ⟨w.heap.size + 1, 1, none⟩ (.slice p1 n p3)).setCell ⟨w.heap.size + 1, 2, none⟩ (.bool true)).setCell ⟨w.heap.size + 1, 3, none⟩ (.slice q1 rn q3)).setCell ⟨w.heap.size + 1, 4, none⟩ (.int .i64 (x.a : Nat))).setCell ⟨w.heap.size + 1, 5, none⟩ (.int .i64 x.wr)).setCell ⟨w.heap.size + 1, 6, none⟩ (.int .i64 x.rd)) := ((((((((Fr.refl [w.heap.size + 1] V).trans' ((fr_setCell _ ⟨w.heap.size + 1, 0, none⟩ (.int .i64 (x.c : Nat))).mono (by simp))).trans' ((fr_setCell _ ⟨w.heap.size + 1, 1, none⟩ (.slice p1 n p3)).mono (by simp))).trans' ((fr_setCell _ ⟨w.heap.size + 1, 2, none⟩ (.bool true)).mono (by simp))).trans' ((fr_setCell _ ⟨w.heap.size + 1, 3, none⟩ (.slice q1 rn q3)).mono (by simp))).trans' ((fr_setCell _ ⟨w.heap.size + 1, 4, none⟩ (.int .i64 (x.a : Nat))).mono (by simp))).trans' ((fr_setCell _ ⟨w.heap.size + 1, 5, none⟩ (.int .i64 x.wr)).mono (by simp))).trans' ((fr_setCell _ ⟨w.heap.size + 1, 6, none⟩ (.int .i64 x.rd)).mono (by simp)))
  obtain ⟨WF, hWF⟩ : ∃ WF, WF = (((((((V.setCell ⟨w.heap.size + 1, 0, none⟩ (.int .i64 (x.c : Nat))).setCell ⟨w.heap.size + 1, 1, none⟩ (.slice p1 n p3)).setCell ⟨w.heap.size + 1, 2, none⟩ (.bool true)).setCell ⟨w.heap.size + 1, 3, none⟩ (.slice q1 rn q3)).setCell ⟨w.heap.size + 1, 4, none⟩ (.int .i64 (x.a : Nat))).setCell ⟨w.heap.size + 1, 5, none⟩ (.int .i64 x.wr)).setCell ⟨w.heap.size + 1, 6, none⟩ (.int .i64 x.rd)) := ⟨_, rfl⟩
  rw [← hWF] at eF fF ⊢
  clear hWF
  have eG : WF.heap[w.heap.size + 1]? = some (.cells #[.int .i64 (x.c : Nat), .slice p1 n p3, .bool true, .slice q1 rn q3, .int .i64 (x.a : Nat), .int .i64 x.wr, .int .i64 x.rd] 31 (0, 0)) := by simpa using eF
  have zz0 := cells_cell (o := 0) eG rfl
  have zz1 := cells_cell (o := 1) eG rfl
  have zz2 := cells_cell (o := 2) eG rfl
  have zz3 := cells_cell (o := 3) eG rfl
  have zz4 := cells_cell (o := 4) eG rfl
  have zz5 := cells_cell (o := 5) eG rfl
  have zz6 := cells_cell (o := 6) eG rfl
  refine bodyPost_ret (v := .tuple #[.agg #[.int .i64 (x.c : Nat), .slice p1 n p3, .bool true, .slice q1 rn q3, .int .i64 (x.a : Nat), .int .i64 x.wr, .int .i64 x.rd], .slice none 0 0, .int .i64 x.wr]) (by simp [results, Try.results46, go_sem, zz0, zz1, zz2, zz3, zz4, zz5, zz6]) rfl ?_
  have hwz := HWZ5.out
  have hbF := HCV.out.trans (fF.below (B := w.heap.size) (by simp) HCV.out.size)
  have hrS := fF.row HSV.out (fun g hg hm => by have := (HSV.out.lt g hg).1; simp only [List.mem_cons, List.not_mem_nil, or_false] at hm; omega)
  have hrT := fF.row HTV.out (fun g hg hm => by have := (HTV.out.lt g hg).1; simp only [List.mem_cons, List.not_mem_nil, or_false] at hm; omega)
  exact ⟨_, _, rfl, ⟨_, _, (by rw [← HBZ.out]; rfl), RowB.srcP hrS (fun g hg => HPP.out g (by omega)), RowB.srcP hrT (fun g hg => HPP.out g (by omega))⟩, SrcP.nil _ _, hbF⟩
set_option maxHeartbeats 3200000 in
theorem sfRead_none (h : SvP P w v x.rw) (ok : x.Ok) (hP : ∀ g, w.heap.size ≤ g → P g) (m : Int) (hm : 0 < m ∧ m ≤ 65536) (hrd : x.rd = 0) (hS0 : x.S = []) (hc : x.c = 0) (hbz : x.busy = true) (hw : x.wr = 0) (hRn : x.R = []) : Calls Try.prog 46 #[v, .int .i64 m] w fun r w' => ∃ v' vb, r = .returned (.tuple #[v', vb, .int .i64 (sRd x m).2.1]) ∧ SvP P w' v' (sRd x m).2.2.rw ∧ SrcP P w' vb (sRd x m).1 ∧ Below w.heap.size w w' := by
  obtain ⟨vS, vR, rfl, hS', hR'⟩ := h
  have hS : SrcP P w vS x.S := hS'
  have hR : SrcP P w vR x.R := hR'
  clear hS' hR'
  obtain ⟨s1, s3, rfl, -, -⟩ := hS.1.form
  obtain ⟨r1, r3, rfl, hr3, hrm⟩ := hR.1.form
  simp only [List.length_map] at *
  have hsm := ok.small
  obtain ⟨n, hn⟩ : ∃ n, n = x.S.length := ⟨_, rfl⟩
  obtain ⟨rn, hrn⟩ : ∃ n, n = x.R.length := ⟨_, rfl⟩
  rw [← hrn] at hsm hr3
  have hval : x.rw.val (.slice s1 x.S.length s3) (.slice r1 x.R.length r3) = .agg #[.int .i64 (x.c : Nat), .slice s1 n s3, .bool x.busy, .slice r1 rn r3, .int .i64 (x.a : Nat), .int .i64 x.wr, .int .i64 x.rd] := by rw [hn, hrn]; rfl
  rw [hval]
  obtain ⟨W, hW⟩ : ∃ W, W = (w.alloc (.cells #[.int .i64 (x.c : Nat), .slice s1 n s3, .bool x.busy, .slice r1 rn r3, .int .i64 (x.a : Nat), .int .i64 x.wr, .int .i64 x.rd] 31)).alloc (.cells #[.int .i64 0, .slice none 0 0, .bool false, .slice none 0 0, .int .i64 0, .int .i64 0, .int .i64 0] 31) := ⟨_, rfl⟩
  have hb : Below w.heap.size w W := by rw [hW]; exact (below_alloc _ _).trans ((below_alloc _ _).mono (by simp))
  have hX0 : W.heap[w.heap.size]? = some (.cells #[.int .i64 (x.c : Nat), .slice s1 n s3, .bool x.busy, .slice r1 rn r3, .int .i64 (x.a : Nat), .int .i64 x.wr, .int .i64 x.rd] 31 (0, 0)) := by rw [hW]; exact ((below_alloc _ _).block w.heap.size (by simp)).trans (heap_alloc_new w _)
  have hR0 : W.heap[w.heap.size + 1]? = some (.cells #[.int .i64 0, .slice none 0 0, .bool false, .slice none 0 0, .int .i64 0, .int .i64 0, .int .i64 0] 31 (0, 0)) := by rw [hW]; exact block_new _ _ _ (by simp)
  have HR0 := Lib.hid hR0
  have HX0 := Lib.hid hX0
  have HB := Lib.hid hb
  have HW := Lib.hid hW.symm
  have HOK := Lib.hid ok
  have HSP : Hid (SrcP P w (.slice s1 n s3) x.S) := Lib.hid (by rw [hn]; exact hS)
  have HRP : Hid (SrcP P w (.slice r1 rn r3) x.R) := Lib.hid (by rw [hrn]; exact hR)
  have HN := Lib.hid (And.intro hn hrn)
  have k0 := cells_cell (o := 0) hX0 rfl
  have k1 := cells_cell (o := 1) hX0 rfl
  have k2 := cells_cell (o := 2) hX0 rfl
  have k3 := cells_cell (o := 3) hX0 rfl
  have k4 := cells_cell (o := 4) hX0 rfl
  have k5 := cells_cell (o := 5) hX0 rfl
  have k6 := cells_cell (o := 6) hX0 rfl
  have y0 := cells_free hX0 0
  have y1 := cells_free hX0 1
  have y2 := cells_free hX0 2
  have y3 := cells_free hX0 3
  have y4 := cells_free hX0 4
  have y5 := cells_free hX0 5
  have y6 := cells_free hX0 6
  have u0 := cells_free hR0 0
  have u1 := cells_free hR0 1
  have u2 := cells_free hR0 2
  have u3 := cells_free hR0 3
  have u4 := cells_free hR0 4
  have u5 := cells_free hR0 5
  have u6 := cells_free hR0 6
  have o0 := cells_cell (o := 0) hR0 rfl
  have o1 := cells_cell (o := 1) hR0 rfl
  have o2 := cells_cell (o := 2) hR0 rfl
  have o3 := cells_cell (o := 3) hR0 rfl
  have o4 := cells_cell (o := 4) hR0 rfl
  have o5 := cells_cell (o := 5) hR0 rfl
  have o6 := cells_cell (o := 6) hR0 rfl
  have hlB := lt_of_block hX0
  have hlR := lt_of_block hR0
  have hcp := sfCopy_any (w := W) (r := x.rw) (hS.1.grown hb) (hR.1.grown hb) (by show x.S.length ≤ _; have := ok.le; have := ok.top; omega) (by show x.R.length ≤ _; have := ok.small; omega)
  rw [hval] at hcp
  have HCP := Lib.hid hcp
  have HPP := Lib.hid hP
  have HM := Lib.hid hm
  have t1 : decide (m < 0) = false := by simp; omega
  have t2 : decide (65536 < m) = false := by simp; omega
  have t3 : (m == 0) = false := by simp; omega
  have t4 : (x.rd != 0) = false := by simp [hrd]
  have HRD := Lib.hid hrd
  unfold sRd
  rw [if_neg (by omega), if_neg (by simp [hrd]), if_neg (by omega)]
  have hn0 : n = 0 := by rw [hn, hS0]; rfl
  have t5 : decide (0 < (n : Int)) = false := by simp [hn0]
  have t6 : decide (0 < n) = false := by simp [hn0]
  have htk : x.take m.toNat = [] := by unfold St.take; rw [if_pos hc, if_pos hw, hRn]; simp
  rw [if_pos htk, if_pos hw]
  have t8 : ((x.c : Int) == 0) = true := by simp [hc]
  have t7 : (x.wr != 0) = false := by simp [hw]
  have hrn0 : rn = 0 := by rw [hrn, hRn]; rfl
  have t9 : decide (0 < (rn : Int)) = false := by simp [hrn0]
  have t10 : decide (0 < rn) = false := by simp [hrn0]
  have HBZ := Lib.hid hbz
  have HWN := Lib.hid hw
  clear hW hb hX0 hR0 hS hR hval hn hrn hr3 hrm hsm ok hP hm hrd hcp hn0 hS0 htk hc hbz hw hRn hrn0
  go_enter Try.func46, Try.ntmps46
  go_upto_region 1 with fail
  rw [HW.out]
  go_wp2_with (go_at_call 14; fail)
  refine HCP.out.mono ?_
  rintro e w2 ⟨uS, uR, mid, rfl, hrS, hdj, hmid, hrR, hb2⟩
  obtain ⟨p1, p3, hpS⟩ : ∃ a c, uS = .slice a n c := by
    obtain ⟨a, c, e, _⟩ := hrS.form
    exact ⟨a, c, by rw [e, HN.out.1]; rfl⟩
  subst hpS
  obtain ⟨q1, q3, hqR⟩ : ∃ a c, uR = .slice a rn c := by
    obtain ⟨a, c, e, _⟩ := hrR.form
    exact ⟨a, c, by rw [e, HN.out.2]; rfl⟩
  subst hqR
  have hX2 := (hb2.block _ (lt_of_block HX0.out)).trans HX0.out
  have hR2 := (hb2.block _ (lt_of_block HR0.out)).trans HR0.out
  have HX2 := Lib.hid hX2
  have HR2 := Lib.hid hR2
  have HB2 := Lib.hid hb2
  have HRS := Lib.hid hrS
  have HRR := Lib.hid hrR
  have HMID := Lib.hid hmid
  have j0 := cells_cell (o := 0) hX2 rfl
  have j1 := cells_cell (o := 1) hX2 rfl
  have j2 := cells_cell (o := 2) hX2 rfl
  have j3 := cells_cell (o := 3) hX2 rfl
  have j4 := cells_cell (o := 4) hX2 rfl
  have j5 := cells_cell (o := 5) hX2 rfl
  have j6 := cells_cell (o := 6) hX2 rfl
  have yy0 := cells_free hX2 0
  have yy1 := cells_free hX2 1
  have yy2 := cells_free hX2 2
  have yy3 := cells_free hX2 3
  have yy4 := cells_free hX2 4
  have yy5 := cells_free hX2 5
  have yy6 := cells_free hX2 6
  have hl2 := lt_of_block hX2
  clear hb2 hX2 hR2 hrS hrR hdj hmid hlB hlR
  clear k0 k1 k2 k3 k4 k5 k6 y0 y1 y2 y3 y4 y5 y6 u0 u1 u2 u3 u4 u5 u6 o0 o1 o2 o3 o4 o5 o6
  unfold Rw.val St.rw
  go_upto_region 8 with fail
  have eX := (cells_set (cells_set (cells_set (cells_set (cells_set (cells_set (cells_set HX2.out 0 (.int .i64 (x.c : Nat))) 1 (.slice p1 n p3)) 2 (.bool x.busy)) 3 (.slice q1 rn q3)) 4 (.int .i64 (x.a : Nat))) 5 (.int .i64 x.wr)) 6 (.int .i64 x.rd))
  have fX : Fr [w.heap.size] w2 (((((((w2.setCell ⟨w.heap.size, 0, none⟩ (.int .i64 (x.c : Nat))).setCell ⟨w.heap.size, 1, none⟩ (.slice p1 n p3)).setCell ⟨w.heap.size, 2, none⟩ (.bool x.busy)).setCell ⟨w.heap.size, 3, none⟩ (.slice q1 rn q3)).setCell ⟨w.heap.size, 4, none⟩ (.int .i64 (x.a : Nat))).setCell ⟨w.heap.size, 5, none⟩ (.int .i64 x.wr)).setCell ⟨w.heap.size, 6, none⟩ (.int .i64 x.rd)) := ((((((((Fr.refl [w.heap.size] w2).trans' ((fr_setCell _ ⟨w.heap.size, 0, none⟩ (.int .i64 (x.c : Nat))).mono (by simp))).trans' ((fr_setCell _ ⟨w.heap.size, 1, none⟩ (.slice p1 n p3)).mono (by simp))).trans' ((fr_setCell _ ⟨w.heap.size, 2, none⟩ (.bool x.busy)).mono (by simp))).trans' ((fr_setCell _ ⟨w.heap.size, 3, none⟩ (.slice q1 rn q3)).mono (by simp))).trans' ((fr_setCell _ ⟨w.heap.size, 4, none⟩ (.int .i64 (x.a : Nat))).mono (by simp))).trans' ((fr_setCell _ ⟨w.heap.size, 5, none⟩ (.int .i64 x.wr)).mono (by simp))).trans' ((fr_setCell _ ⟨w.heap.size, 6, none⟩ (.int .i64 x.rd)).mono (by simp)))
  obtain ⟨W3, hW3⟩ : ∃ W3, W3 = (((((((w2.setCell ⟨w.heap.size, 0, none⟩ (.int .i64 (x.c : Nat))).setCell ⟨w.heap.size, 1, none⟩ (.slice p1 n p3)).setCell ⟨w.heap.size, 2, none⟩ (.bool x.busy)).setCell ⟨w.heap.size, 3, none⟩ (.slice q1 rn q3)).setCell ⟨w.heap.size, 4, none⟩ (.int .i64 (x.a : Nat))).setCell ⟨w.heap.size, 5, none⟩ (.int .i64 x.wr)).setCell ⟨w.heap.size, 6, none⟩ (.int .i64 x.rd)) := ⟨_, rfl⟩
  rw [← hW3] at eX fX ⊢
  clear hW3
  have hX3 : W3.heap[w.heap.size]? = some (.cells #[.int .i64 (x.c : Nat), .slice p1 n p3, .bool x.busy, .slice q1 rn q3, .int .i64 (x.a : Nat), .int .i64 x.wr, .int .i64 x.rd] 31 (0, 0)) := by simpa using eX
  have hR3 := fX.same HR2.out (by simp)
  have hwz : w.heap.size + 1 < W.heap.size := lt_of_block HR0.out
  have HS3 : Hid (RowB W3 W.heap.size (.slice p1 n p3) x.S) := Lib.hid (fX.row HRS.out (fun g hg hm => by have := (HRS.out.lt g hg).1; simp only [List.mem_singleton] at hm; omega))
  have HT3 : Hid (RowB W3 W.heap.size (.slice q1 rn q3) x.R) := Lib.hid (RowV.lower (fX.row HRR.out (fun g hg hm => by have := (HRR.out.lt g hg).1; have := HMID.out; simp only [List.mem_singleton] at hm; omega)) HMID.out)
  have HC3 : Hid (Below w.heap.size w W3) := Lib.hid ((HB.out.trans (HB2.out.mono HB.out.size)).trans (fX.below (by simp) (by have := HB.out.size; have := HB2.out.size; omega)))
  have HWZ : Hid (w.heap.size + 1 < W.heap.size ∧ W.heap.size ≤ W3.heap.size) := Lib.hid ⟨hwz, by have := fX.size; have := HB2.out.size; omega⟩
  have HX3 := Lib.hid hX3
  have HR3 := Lib.hid hR3
  clear j0 j1 j2 j3 j4 j5 j6 yy0 yy1 yy2 yy3 yy4 yy5 yy6
  have k0 := cells_cell (o := 0) hX3 rfl
  have k1 := cells_cell (o := 1) hX3 rfl
  have k2 := cells_cell (o := 2) hX3 rfl
  have k3 := cells_cell (o := 3) hX3 rfl
  have k4 := cells_cell (o := 4) hX3 rfl
  have k5 := cells_cell (o := 5) hX3 rfl
  have k6 := cells_cell (o := 6) hX3 rfl
  have y0 := cells_free hX3 0
  have y1 := cells_free hX3 1
  have y2 := cells_free hX3 2
  have y3 := cells_free hX3 3
  have y4 := cells_free hX3 4
  have y5 := cells_free hX3 5
  have y6 := cells_free hX3 6
  have u0 := cells_free hR3 0
  have u1 := cells_free hR3 1
  have u2 := cells_free hR3 2
  have u3 := cells_free hR3 3
  have u4 := cells_free hR3 4
  have u5 := cells_free hR3 5
  have u6 := cells_free hR3 6
  have o0 := cells_cell (o := 0) hR3 rfl
  have o1 := cells_cell (o := 1) hR3 rfl
  have o2 := cells_cell (o := 2) hR3 rfl
  have o3 := cells_cell (o := 3) hR3 rfl
  have o4 := cells_cell (o := 4) hR3 rfl
  have o5 := cells_cell (o := 5) hR3 rfl
  have o6 := cells_cell (o := 6) hR3 rfl
  have hlBk := lt_of_block hX3
  have hlRk := lt_of_block hR3
  clear eX fX hX3 hR3 hl2 hwz
  have hx3 := HX3.out
  rw [HBZ.out] at hx3 k2
  have HX3 := Lib.hid hx3
  clear hx3
  have HXA := HX3
  have HRA := HR3
  have HSA := HS3
  have HTA := HT3
  have HCA := HC3
  clear HX3 HR3 HS3 HT3 HC3
  have HO := Lib.hid (fun W => sfOpen_any W (x.c : Nat) p1 n p3 true q1 rn q3 (x.a : Nat) x.wr x.rd)
  rw [show decide (x.wr = 0 ∧ x.rd = 0) = true by simp [HWN.out, HRD.out]] at HO
  go_wp2_with (go_at_call 54; fail)
  refine (HO.out _).mono ?_
  rintro e w5 ⟨rfl, hb5⟩
  have hX5 := (hb5.block _ (lt_of_block HXA.out)).trans HXA.out
  have hR5 := (hb5.block _ (lt_of_block HRA.out)).trans HRA.out
  clear k0 k1 k2 k3 k4 k5 k6 y0 y1 y2 y3 y4 y5 y6 u0 u1 u2 u3 u4 u5 u6 o0 o1 o2 o3 o4 o5 o6
  have k0 := cells_cell (o := 0) hX5 rfl
  have k1 := cells_cell (o := 1) hX5 rfl
  have k2 := cells_cell (o := 2) hX5 rfl
  have k3 := cells_cell (o := 3) hX5 rfl
  have k4 := cells_cell (o := 4) hX5 rfl
  have k5 := cells_cell (o := 5) hX5 rfl
  have k6 := cells_cell (o := 6) hX5 rfl
  have y0 := cells_free hX5 0
  have y1 := cells_free hX5 1
  have y2 := cells_free hX5 2
  have y3 := cells_free hX5 3
  have y4 := cells_free hX5 4
  have y5 := cells_free hX5 5
  have y6 := cells_free hX5 6
  have u0 := cells_free hR5 0
  have u1 := cells_free hR5 1
  have u2 := cells_free hR5 2
  have u3 := cells_free hR5 3
  have u4 := cells_free hR5 4
  have u5 := cells_free hR5 5
  have u6 := cells_free hR5 6
  have o0 := cells_cell (o := 0) hR5 rfl
  have o1 := cells_cell (o := 1) hR5 rfl
  have o2 := cells_cell (o := 2) hR5 rfl
  have o3 := cells_cell (o := 3) hR5 rfl
  have o4 := cells_cell (o := 4) hR5 rfl
  have o5 := cells_cell (o := 5) hR5 rfl
  have o6 := cells_cell (o := 6) hR5 rfl
  have hlBk := lt_of_block hX5
  have hlRk := lt_of_block hR5
  have HX5 := Lib.hid hX5
  have HR5 := Lib.hid hR5
  have HS5 := Lib.hid (HSA.out.grown hb5)
  have HT5 := Lib.hid (HTA.out.grown hb5)
  have HC5 := Lib.hid (HCA.out.trans (hb5.mono HCA.out.size))
  have HWZ5 : Hid (w.heap.size + 1 < W.heap.size ∧ W.heap.size ≤ w5.heap.size) := Lib.hid ⟨HWZ.out.1, by have := HWZ.out.2; have := hb5.size; omega⟩
  clear hX5 hR5 hb5 hlBk hlRk HXA HRA HSA HTA HCA HWZ
  go_wp2_with fail
  have eF := (cells_set (cells_set (cells_set (cells_set (cells_set (cells_set (cells_set HR5.out 0 (.int .i64 (x.c : Nat))) 1 (.slice p1 n p3)) 2 (.bool true)) 3 (.slice q1 rn q3)) 4 (.int .i64 (x.a : Nat))) 5 (.int .i64 x.wr)) 6 (.int .i64 x.rd))
  have fF : Fr [w.heap.size + 1] w5 (((((((w5.setCell ⟨w.heap.size + 1, 0, none⟩ (.int .i64 (x.c : Nat))).setCell ⟨w.heap.size + 1, 1, none⟩ (.slice p1 n p3)).setCell ⟨w.heap.size + 1, 2, none⟩ (.bool true)).setCell ⟨w.heap.size + 1, 3, none⟩ (.slice q1 rn q3)).setCell ⟨w.heap.size + 1, 4, none⟩ (.int .i64 (x.a : Nat))).setCell ⟨w.heap.size + 1, 5, none⟩ (.int .i64 x.wr)).setCell ⟨w.heap.size + 1, 6, none⟩ (.int .i64 x.rd)) := ((((((((Fr.refl [w.heap.size + 1] w5).trans' ((fr_setCell _ ⟨w.heap.size + 1, 0, none⟩ (.int .i64 (x.c : Nat))).mono (by simp))).trans' ((fr_setCell _ ⟨w.heap.size + 1, 1, none⟩ (.slice p1 n p3)).mono (by simp))).trans' ((fr_setCell _ ⟨w.heap.size + 1, 2, none⟩ (.bool true)).mono (by simp))).trans' ((fr_setCell _ ⟨w.heap.size + 1, 3, none⟩ (.slice q1 rn q3)).mono (by simp))).trans' ((fr_setCell _ ⟨w.heap.size + 1, 4, none⟩ (.int .i64 (x.a : Nat))).mono (by simp))).trans' ((fr_setCell _ ⟨w.heap.size + 1, 5, none⟩ (.int .i64 x.wr)).mono (by simp))).trans' ((fr_setCell _ ⟨w.heap.size + 1, 6, none⟩ (.int .i64 x.rd)).mono (by simp)))
  obtain ⟨WF, hWF⟩ : ∃ WF, WF = (((((((w5.setCell ⟨w.heap.size + 1, 0, none⟩ (.int .i64 (x.c : Nat))).setCell ⟨w.heap.size + 1, 1, none⟩ (.slice p1 n p3)).setCell ⟨w.heap.size + 1, 2, none⟩ (.bool true)).setCell ⟨w.heap.size + 1, 3, none⟩ (.slice q1 rn q3)).setCell ⟨w.heap.size + 1, 4, none⟩ (.int .i64 (x.a : Nat))).setCell ⟨w.heap.size + 1, 5, none⟩ (.int .i64 x.wr)).setCell ⟨w.heap.size + 1, 6, none⟩ (.int .i64 x.rd)) := ⟨_, rfl⟩
  rw [← hWF] at eF fF ⊢
  clear hWF
  have eG : WF.heap[w.heap.size + 1]? = some (.cells #[.int .i64 (x.c : Nat), .slice p1 n p3, .bool true, .slice q1 rn q3, .int .i64 (x.a : Nat), .int .i64 x.wr, .int .i64 x.rd] 31 (0, 0)) := by simpa using eF
  have zz0 := cells_cell (o := 0) eG rfl
  have zz1 := cells_cell (o := 1) eG rfl
  have zz2 := cells_cell (o := 2) eG rfl
  have zz3 := cells_cell (o := 3) eG rfl
  have zz4 := cells_cell (o := 4) eG rfl
  have zz5 := cells_cell (o := 5) eG rfl
  have zz6 := cells_cell (o := 6) eG rfl
  refine bodyPost_ret (v := .tuple #[.agg #[.int .i64 (x.c : Nat), .slice p1 n p3, .bool true, .slice q1 rn q3, .int .i64 (x.a : Nat), .int .i64 x.wr, .int .i64 x.rd], .slice none 0 0, .int .i64 16]) (by simp [results, Try.results46, go_sem, zz0, zz1, zz2, zz3, zz4, zz5, zz6]) rfl ?_
  have hwz := HWZ5.out
  have hbF := HC5.out.trans (fF.below (B := w.heap.size) (by simp) HC5.out.size)
  have hrS := fF.row HS5.out (fun g hg hm => by have := (HS5.out.lt g hg).1; simp only [List.mem_cons, List.not_mem_nil, or_false] at hm; omega)
  have hrT := fF.row HT5.out (fun g hg hm => by have := (HT5.out.lt g hg).1; simp only [List.mem_cons, List.not_mem_nil, or_false] at hm; omega)
  exact ⟨_, _, rfl, ⟨_, _, (by rw [← HBZ.out]; rfl), RowB.srcP hrS (fun g hg => HPP.out g (by omega)), RowB.srcP hrT (fun g hg => HPP.out g (by omega))⟩, SrcP.nil _ _, hbF⟩
set_option maxHeartbeats 3200000 in
theorem sfRead_rest (h : SvP P w v x.rw) (ok : x.Ok) (hP : ∀ g, w.heap.size ≤ g → P g) (m : Int) (hm : 0 < m ∧ m ≤ 65536) (hrd : x.rd = 0) (hS0 : x.S = []) (hc : x.c = 0) (hbz : x.busy = true) (hw : x.wr = 0) (hRn : x.R ≠ []) : Calls Try.prog 46 #[v, .int .i64 m] w fun r w' => ∃ v' vb, r = .returned (.tuple #[v', vb, .int .i64 (sRd x m).2.1]) ∧ SvP P w' v' (sRd x m).2.2.rw ∧ SrcP P w' vb (sRd x m).1 ∧ Below w.heap.size w w' := by
  obtain ⟨vS, vR, rfl, hS', hR'⟩ := h
  have hS : SrcP P w vS x.S := hS'
  have hR : SrcP P w vR x.R := hR'
  clear hS' hR'
  obtain ⟨s1, s3, rfl, -, -⟩ := hS.1.form
  obtain ⟨r1, r3, rfl, hr3, hrm⟩ := hR.1.form
  simp only [List.length_map] at *
  have hsm := ok.small
  obtain ⟨n, hn⟩ : ∃ n, n = x.S.length := ⟨_, rfl⟩
  obtain ⟨rn, hrn⟩ : ∃ n, n = x.R.length := ⟨_, rfl⟩
  rw [← hrn] at hsm hr3
  have hval : x.rw.val (.slice s1 x.S.length s3) (.slice r1 x.R.length r3) = .agg #[.int .i64 (x.c : Nat), .slice s1 n s3, .bool x.busy, .slice r1 rn r3, .int .i64 (x.a : Nat), .int .i64 x.wr, .int .i64 x.rd] := by rw [hn, hrn]; rfl
  rw [hval]
  obtain ⟨W, hW⟩ : ∃ W, W = (w.alloc (.cells #[.int .i64 (x.c : Nat), .slice s1 n s3, .bool x.busy, .slice r1 rn r3, .int .i64 (x.a : Nat), .int .i64 x.wr, .int .i64 x.rd] 31)).alloc (.cells #[.int .i64 0, .slice none 0 0, .bool false, .slice none 0 0, .int .i64 0, .int .i64 0, .int .i64 0] 31) := ⟨_, rfl⟩
  have hb : Below w.heap.size w W := by rw [hW]; exact (below_alloc _ _).trans ((below_alloc _ _).mono (by simp))
  have hX0 : W.heap[w.heap.size]? = some (.cells #[.int .i64 (x.c : Nat), .slice s1 n s3, .bool x.busy, .slice r1 rn r3, .int .i64 (x.a : Nat), .int .i64 x.wr, .int .i64 x.rd] 31 (0, 0)) := by rw [hW]; exact ((below_alloc _ _).block w.heap.size (by simp)).trans (heap_alloc_new w _)
  have hR0 : W.heap[w.heap.size + 1]? = some (.cells #[.int .i64 0, .slice none 0 0, .bool false, .slice none 0 0, .int .i64 0, .int .i64 0, .int .i64 0] 31 (0, 0)) := by rw [hW]; exact block_new _ _ _ (by simp)
  have HR0 := Lib.hid hR0
  have HX0 := Lib.hid hX0
  have HB := Lib.hid hb
  have HW := Lib.hid hW.symm
  have HOK := Lib.hid ok
  have HSP : Hid (SrcP P w (.slice s1 n s3) x.S) := Lib.hid (by rw [hn]; exact hS)
  have HRP : Hid (SrcP P w (.slice r1 rn r3) x.R) := Lib.hid (by rw [hrn]; exact hR)
  have HN := Lib.hid (And.intro hn hrn)
  have k0 := cells_cell (o := 0) hX0 rfl
  have k1 := cells_cell (o := 1) hX0 rfl
  have k2 := cells_cell (o := 2) hX0 rfl
  have k3 := cells_cell (o := 3) hX0 rfl
  have k4 := cells_cell (o := 4) hX0 rfl
  have k5 := cells_cell (o := 5) hX0 rfl
  have k6 := cells_cell (o := 6) hX0 rfl
  have y0 := cells_free hX0 0
  have y1 := cells_free hX0 1
  have y2 := cells_free hX0 2
  have y3 := cells_free hX0 3
  have y4 := cells_free hX0 4
  have y5 := cells_free hX0 5
  have y6 := cells_free hX0 6
  have u0 := cells_free hR0 0
  have u1 := cells_free hR0 1
  have u2 := cells_free hR0 2
  have u3 := cells_free hR0 3
  have u4 := cells_free hR0 4
  have u5 := cells_free hR0 5
  have u6 := cells_free hR0 6
  have o0 := cells_cell (o := 0) hR0 rfl
  have o1 := cells_cell (o := 1) hR0 rfl
  have o2 := cells_cell (o := 2) hR0 rfl
  have o3 := cells_cell (o := 3) hR0 rfl
  have o4 := cells_cell (o := 4) hR0 rfl
  have o5 := cells_cell (o := 5) hR0 rfl
  have o6 := cells_cell (o := 6) hR0 rfl
  have hlB := lt_of_block hX0
  have hlR := lt_of_block hR0
  have hcp := sfCopy_any (w := W) (r := x.rw) (hS.1.grown hb) (hR.1.grown hb) (by show x.S.length ≤ _; have := ok.le; have := ok.top; omega) (by show x.R.length ≤ _; have := ok.small; omega)
  rw [hval] at hcp
  have HCP := Lib.hid hcp
  have HPP := Lib.hid hP
  have HM := Lib.hid hm
  have t1 : decide (m < 0) = false := by simp; omega
  have t2 : decide (65536 < m) = false := by simp; omega
  have t3 : (m == 0) = false := by simp; omega
  have t4 : (x.rd != 0) = false := by simp [hrd]
  have HRD := Lib.hid hrd
  unfold sRd
  rw [if_neg (by omega), if_neg (by simp [hrd]), if_neg (by omega)]
  have hn0 : n = 0 := by rw [hn, hS0]; rfl
  have t5 : decide (0 < (n : Int)) = false := by simp [hn0]
  have t6 : decide (0 < n) = false := by simp [hn0]
  have htk : x.take m.toNat = x.R.take m.toNat := by unfold St.take; rw [if_pos hc, if_pos hw]
  have hnn : x.R.length ≠ 0 := fun q => hRn (List.eq_nil_of_length_eq_zero q)
  have hne : x.take m.toNat ≠ [] := by
    rw [htk]
    intro q
    have h := congrArg List.length q
    rw [List.length_take, List.length_nil] at h
    omega
  rw [if_neg hne, htk]
  have hlf : x.left m.toNat = { x with R := x.R.drop m.toNat, a := x.a + (x.R.take m.toNat).length } := by unfold St.left; rw [if_pos hc]
  rw [hlf]
  obtain ⟨N, hNd⟩ : ∃ N, N = min m.toNat x.R.length := ⟨_, rfl⟩
  have hmin : min m (rn : Int) = (N : Int) := by rw [hNd, hrn]; omega
  have t8 : ((x.c : Int) == 0) = true := by simp [hc]
  have t9 : decide (0 < (rn : Int)) = true := by simp; omega
  have t10 : decide (0 < rn) = true := by simp; omega
  have t11 : (N : Int) ≤ (rn : Int) := by omega
  have t12 : IntKind.i64.wrap ((x.a : Int) + (N : Int)) = (x.a : Int) + (N : Int) := IntWalk.i64_in _ (by omega)
  have HND := Lib.hid (And.intro hNd hmin)
  have HNN := Lib.hid hnn
  have HBZ := Lib.hid hbz
  have HWN := Lib.hid hw
  clear hW hb hX0 hR0 hS hR hval hn hrn hr3 hrm hsm ok hP hm hrd hcp hn0 hS0 htk hc hbz hw hRn hnn hne hlf hNd hmin
  go_enter Try.func46, Try.ntmps46
  go_upto_region 1 with fail
  rw [HW.out]
  go_wp2_with (go_at_call 14; fail)
  refine HCP.out.mono ?_
  rintro e w2 ⟨uS, uR, mid, rfl, hrS, hdj, hmid, hrR, hb2⟩
  obtain ⟨p1, p3, hpS⟩ : ∃ a c, uS = .slice a n c := by
    obtain ⟨a, c, e, _⟩ := hrS.form
    exact ⟨a, c, by rw [e, HN.out.1]; rfl⟩
  subst hpS
  obtain ⟨q1, q3, hqR⟩ : ∃ a c, uR = .slice a rn c := by
    obtain ⟨a, c, e, _⟩ := hrR.form
    exact ⟨a, c, by rw [e, HN.out.2]; rfl⟩
  subst hqR
  have hX2 := (hb2.block _ (lt_of_block HX0.out)).trans HX0.out
  have hR2 := (hb2.block _ (lt_of_block HR0.out)).trans HR0.out
  have HX2 := Lib.hid hX2
  have HR2 := Lib.hid hR2
  have HB2 := Lib.hid hb2
  have HRS := Lib.hid hrS
  have HRR := Lib.hid hrR
  have HMID := Lib.hid hmid
  have j0 := cells_cell (o := 0) hX2 rfl
  have j1 := cells_cell (o := 1) hX2 rfl
  have j2 := cells_cell (o := 2) hX2 rfl
  have j3 := cells_cell (o := 3) hX2 rfl
  have j4 := cells_cell (o := 4) hX2 rfl
  have j5 := cells_cell (o := 5) hX2 rfl
  have j6 := cells_cell (o := 6) hX2 rfl
  have yy0 := cells_free hX2 0
  have yy1 := cells_free hX2 1
  have yy2 := cells_free hX2 2
  have yy3 := cells_free hX2 3
  have yy4 := cells_free hX2 4
  have yy5 := cells_free hX2 5
  have yy6 := cells_free hX2 6
  have hl2 := lt_of_block hX2
  clear hb2 hX2 hR2 hrS hrR hdj hmid hlB hlR
  clear k0 k1 k2 k3 k4 k5 k6 y0 y1 y2 y3 y4 y5 y6 u0 u1 u2 u3 u4 u5 u6 o0 o1 o2 o3 o4 o5 o6
  unfold Rw.val St.rw
  go_upto_region 8 with fail
  have eX := (cells_set (cells_set (cells_set (cells_set (cells_set (cells_set (cells_set HX2.out 0 (.int .i64 (x.c : Nat))) 1 (.slice p1 n p3)) 2 (.bool x.busy)) 3 (.slice q1 rn q3)) 4 (.int .i64 (x.a : Nat))) 5 (.int .i64 x.wr)) 6 (.int .i64 x.rd))
  have fX : Fr [w.heap.size] w2 (((((((w2.setCell ⟨w.heap.size, 0, none⟩ (.int .i64 (x.c : Nat))).setCell ⟨w.heap.size, 1, none⟩ (.slice p1 n p3)).setCell ⟨w.heap.size, 2, none⟩ (.bool x.busy)).setCell ⟨w.heap.size, 3, none⟩ (.slice q1 rn q3)).setCell ⟨w.heap.size, 4, none⟩ (.int .i64 (x.a : Nat))).setCell ⟨w.heap.size, 5, none⟩ (.int .i64 x.wr)).setCell ⟨w.heap.size, 6, none⟩ (.int .i64 x.rd)) := ((((((((Fr.refl [w.heap.size] w2).trans' ((fr_setCell _ ⟨w.heap.size, 0, none⟩ (.int .i64 (x.c : Nat))).mono (by simp))).trans' ((fr_setCell _ ⟨w.heap.size, 1, none⟩ (.slice p1 n p3)).mono (by simp))).trans' ((fr_setCell _ ⟨w.heap.size, 2, none⟩ (.bool x.busy)).mono (by simp))).trans' ((fr_setCell _ ⟨w.heap.size, 3, none⟩ (.slice q1 rn q3)).mono (by simp))).trans' ((fr_setCell _ ⟨w.heap.size, 4, none⟩ (.int .i64 (x.a : Nat))).mono (by simp))).trans' ((fr_setCell _ ⟨w.heap.size, 5, none⟩ (.int .i64 x.wr)).mono (by simp))).trans' ((fr_setCell _ ⟨w.heap.size, 6, none⟩ (.int .i64 x.rd)).mono (by simp)))
  obtain ⟨W3, hW3⟩ : ∃ W3, W3 = (((((((w2.setCell ⟨w.heap.size, 0, none⟩ (.int .i64 (x.c : Nat))).setCell ⟨w.heap.size, 1, none⟩ (.slice p1 n p3)).setCell ⟨w.heap.size, 2, none⟩ (.bool x.busy)).setCell ⟨w.heap.size, 3, none⟩ (.slice q1 rn q3)).setCell ⟨w.heap.size, 4, none⟩ (.int .i64 (x.a : Nat))).setCell ⟨w.heap.size, 5, none⟩ (.int .i64 x.wr)).setCell ⟨w.heap.size, 6, none⟩ (.int .i64 x.rd)) := ⟨_, rfl⟩
  rw [← hW3] at eX fX ⊢
  clear hW3
  have hX3 : W3.heap[w.heap.size]? = some (.cells #[.int .i64 (x.c : Nat), .slice p1 n p3, .bool x.busy, .slice q1 rn q3, .int .i64 (x.a : Nat), .int .i64 x.wr, .int .i64 x.rd] 31 (0, 0)) := by simpa using eX
  have hR3 := fX.same HR2.out (by simp)
  have hwz : w.heap.size + 1 < W.heap.size := lt_of_block HR0.out
  have HS3 : Hid (RowB W3 W.heap.size (.slice p1 n p3) x.S) := Lib.hid (fX.row HRS.out (fun g hg hm => by have := (HRS.out.lt g hg).1; simp only [List.mem_singleton] at hm; omega))
  have HT3 : Hid (RowB W3 W.heap.size (.slice q1 rn q3) x.R) := Lib.hid (RowV.lower (fX.row HRR.out (fun g hg hm => by have := (HRR.out.lt g hg).1; have := HMID.out; simp only [List.mem_singleton] at hm; omega)) HMID.out)
  have HC3 : Hid (Below w.heap.size w W3) := Lib.hid ((HB.out.trans (HB2.out.mono HB.out.size)).trans (fX.below (by simp) (by have := HB.out.size; have := HB2.out.size; omega)))
  have HWZ : Hid (w.heap.size + 1 < W.heap.size ∧ W.heap.size ≤ W3.heap.size) := Lib.hid ⟨hwz, by have := fX.size; have := HB2.out.size; omega⟩
  have HX3 := Lib.hid hX3
  have HR3 := Lib.hid hR3
  clear j0 j1 j2 j3 j4 j5 j6 yy0 yy1 yy2 yy3 yy4 yy5 yy6
  have k0 := cells_cell (o := 0) hX3 rfl
  have k1 := cells_cell (o := 1) hX3 rfl
  have k2 := cells_cell (o := 2) hX3 rfl
  have k3 := cells_cell (o := 3) hX3 rfl
  have k4 := cells_cell (o := 4) hX3 rfl
  have k5 := cells_cell (o := 5) hX3 rfl
  have k6 := cells_cell (o := 6) hX3 rfl
  have y0 := cells_free hX3 0
  have y1 := cells_free hX3 1
  have y2 := cells_free hX3 2
  have y3 := cells_free hX3 3
  have y4 := cells_free hX3 4
  have y5 := cells_free hX3 5
  have y6 := cells_free hX3 6
  have u0 := cells_free hR3 0
  have u1 := cells_free hR3 1
  have u2 := cells_free hR3 2
  have u3 := cells_free hR3 3
  have u4 := cells_free hR3 4
  have u5 := cells_free hR3 5
  have u6 := cells_free hR3 6
  have o0 := cells_cell (o := 0) hR3 rfl
  have o1 := cells_cell (o := 1) hR3 rfl
  have o2 := cells_cell (o := 2) hR3 rfl
  have o3 := cells_cell (o := 3) hR3 rfl
  have o4 := cells_cell (o := 4) hR3 rfl
  have o5 := cells_cell (o := 5) hR3 rfl
  have o6 := cells_cell (o := 6) hR3 rfl
  have hlBk := lt_of_block hX3
  have hlRk := lt_of_block hR3
  clear eX fX hX3 hR3 hl2 hwz
  have hx3 := HX3.out
  rw [HBZ.out] at hx3 k2
  have HX3 := Lib.hid hx3
  clear hx3
  have HXA := HX3
  have HRA := HR3
  have HSA := HS3
  have HTA := HT3
  have HCA := HC3
  clear HX3 HR3 HS3 HT3 HC3
  have HO := Lib.hid (fun W => sfOpen_any W (x.c : Nat) p1 n p3 true q1 rn q3 (x.a : Nat) x.wr x.rd)
  rw [show decide (x.wr = 0 ∧ x.rd = 0) = true by simp [HWN.out, HRD.out]] at HO
  obtain ⟨g, hpg, hgo⟩ := RowB.pieceG HTA.out W.heap.size
  have hgw : W.heap.size ≤ g := by rcases hgo with hgo | hgo <;> omega
  have hNl : N ≤ x.R.length := by have := HND.out.1; omega
  rcases (show PieceG W3 (.slice q1 rn q3) x.R g from hpg) with ⟨_, hnil⟩ | ⟨off, c', cur, hv, hp1, hp2, hpb, hp4⟩
  · exact absurd (by rw [hnil]; rfl) HNN.out
  simp only [Value.slice.injEq] at hv
  obtain ⟨rfl, -, hc'⟩ := hv
  subst hc'
  have t14 : (rn : Int) ≤ (q3 : Int) := by have := HN.out.2; omega
  have t13 : (N : Int) ≤ (q3 : Int) := by omega
  have HPG0 := Lib.hid hpg
  have HGW := Lib.hid hgw
  have HNL := Lib.hid hNl
  have htkN : x.R.take N = x.R.take m.toNat := by rw [HND.out.1, take_min]
  have hdrN : x.R.drop N = x.R.drop m.toNat := by rw [HND.out.1, drop_min]
  have hlen : (x.R.take m.toNat).length = N := by rw [List.length_take]; have := HND.out.1; omega
  have HTD := Lib.hid (And.intro htkN (And.intro hdrN hlen))
  clear hpg hgo hgw hNl hp1 hp2 hpb hp4 htkN hdrN hlen
  go_wp2_with (go_at_call 54; fail)
  refine (HO.out _).mono ?_
  rintro e w5 ⟨rfl, hb5⟩
  have hX5 := (hb5.block _ (lt_of_block HXA.out)).trans HXA.out
  have hR5 := (hb5.block _ (lt_of_block HRA.out)).trans HRA.out
  clear k0 k1 k2 k3 k4 k5 k6 y0 y1 y2 y3 y4 y5 y6 u0 u1 u2 u3 u4 u5 u6 o0 o1 o2 o3 o4 o5 o6
  have k0 := cells_cell (o := 0) hX5 rfl
  have k1 := cells_cell (o := 1) hX5 rfl
  have k2 := cells_cell (o := 2) hX5 rfl
  have k3 := cells_cell (o := 3) hX5 rfl
  have k4 := cells_cell (o := 4) hX5 rfl
  have k5 := cells_cell (o := 5) hX5 rfl
  have k6 := cells_cell (o := 6) hX5 rfl
  have y0 := cells_free hX5 0
  have y1 := cells_free hX5 1
  have y2 := cells_free hX5 2
  have y3 := cells_free hX5 3
  have y4 := cells_free hX5 4
  have y5 := cells_free hX5 5
  have y6 := cells_free hX5 6
  have u0 := cells_free hR5 0
  have u1 := cells_free hR5 1
  have u2 := cells_free hR5 2
  have u3 := cells_free hR5 3
  have u4 := cells_free hR5 4
  have u5 := cells_free hR5 5
  have u6 := cells_free hR5 6
  have o0 := cells_cell (o := 0) hR5 rfl
  have o1 := cells_cell (o := 1) hR5 rfl
  have o2 := cells_cell (o := 2) hR5 rfl
  have o3 := cells_cell (o := 3) hR5 rfl
  have o4 := cells_cell (o := 4) hR5 rfl
  have o5 := cells_cell (o := 5) hR5 rfl
  have o6 := cells_cell (o := 6) hR5 rfl
  have hlBk := lt_of_block hX5
  have hlRk := lt_of_block hR5
  have HX5 := Lib.hid hX5
  have HR5 := Lib.hid hR5
  have HS5 := Lib.hid (HSA.out.grown hb5)
  have HPG := Lib.hid (HPG0.out.grown hb5)
  have HC5 := Lib.hid (HCA.out.trans (hb5.mono HCA.out.size))
  have HWZ5 : Hid (w.heap.size + 1 < W.heap.size ∧ W.heap.size ≤ w5.heap.size) := Lib.hid ⟨HWZ.out.1, by have := HWZ.out.2; have := hb5.size; omega⟩
  clear hX5 hR5 hb5 hlBk hlRk HXA HRA HSA HTA HCA HWZ
  by_cases hc1 : N = q3
  · subst hc1
    have hnN : N = rn := by omega
    subst hnN
    have hpr := HPG.out.rest HNL.out off (by simp)
    simp only [Nat.sub_self] at hpr
    have HPR := Lib.hid hpr
    have HCUT := Lib.hid (HPG.out.cut HNL.out)
    clear hpr
    go_wp2_with (refine wpList_min rfl (.tmp 66) (.tmp 69) _ rfl m N N rfl rfl HND.out.2 ?_)
    have eF := (cells_set (cells_set (cells_set (cells_set (cells_set (cells_set (cells_set ((fr_setCell _ ⟨w.heap.size, 4, none⟩ (.int .i64 ((x.a : Int) + (N : Int)))).same ((fr_setCell _ ⟨w.heap.size, 3, none⟩ (.slice (some ⟨g, off, none⟩) 0 0)).same HR5.out (by simp)) (by simp)) 0 (.int .i64 (x.c : Nat))) 1 (.slice p1 n p3)) 2 (.bool true)) 3 (.slice (some ⟨g, off, none⟩) 0 0)) 4 (.int .i64 ((x.a : Int) + (N : Int)))) 5 (.int .i64 x.wr)) 6 (.int .i64 x.rd))
    have fF : Fr [w.heap.size, w.heap.size + 1] w5 (((((((((w5.setCell ⟨w.heap.size, 3, none⟩ (.slice (some ⟨g, off, none⟩) 0 0)).setCell ⟨w.heap.size, 4, none⟩ (.int .i64 ((x.a : Int) + (N : Int)))).setCell ⟨w.heap.size + 1, 0, none⟩ (.int .i64 (x.c : Nat))).setCell ⟨w.heap.size + 1, 1, none⟩ (.slice p1 n p3)).setCell ⟨w.heap.size + 1, 2, none⟩ (.bool true)).setCell ⟨w.heap.size + 1, 3, none⟩ (.slice (some ⟨g, off, none⟩) 0 0)).setCell ⟨w.heap.size + 1, 4, none⟩ (.int .i64 ((x.a : Int) + (N : Int)))).setCell ⟨w.heap.size + 1, 5, none⟩ (.int .i64 x.wr)).setCell ⟨w.heap.size + 1, 6, none⟩ (.int .i64 x.rd)) := ((((((((((Fr.refl [w.heap.size, w.heap.size + 1] w5).trans' ((fr_setCell _ ⟨w.heap.size, 3, none⟩ (.slice (some ⟨g, off, none⟩) 0 0)).mono (by simp))).trans' ((fr_setCell _ ⟨w.heap.size, 4, none⟩ (.int .i64 ((x.a : Int) + (N : Int)))).mono (by simp))).trans' ((fr_setCell _ ⟨w.heap.size + 1, 0, none⟩ (.int .i64 (x.c : Nat))).mono (by simp))).trans' ((fr_setCell _ ⟨w.heap.size + 1, 1, none⟩ (.slice p1 n p3)).mono (by simp))).trans' ((fr_setCell _ ⟨w.heap.size + 1, 2, none⟩ (.bool true)).mono (by simp))).trans' ((fr_setCell _ ⟨w.heap.size + 1, 3, none⟩ (.slice (some ⟨g, off, none⟩) 0 0)).mono (by simp))).trans' ((fr_setCell _ ⟨w.heap.size + 1, 4, none⟩ (.int .i64 ((x.a : Int) + (N : Int)))).mono (by simp))).trans' ((fr_setCell _ ⟨w.heap.size + 1, 5, none⟩ (.int .i64 x.wr)).mono (by simp))).trans' ((fr_setCell _ ⟨w.heap.size + 1, 6, none⟩ (.int .i64 x.rd)).mono (by simp)))
    obtain ⟨WF, hWF⟩ : ∃ WF, WF = (((((((((w5.setCell ⟨w.heap.size, 3, none⟩ (.slice (some ⟨g, off, none⟩) 0 0)).setCell ⟨w.heap.size, 4, none⟩ (.int .i64 ((x.a : Int) + (N : Int)))).setCell ⟨w.heap.size + 1, 0, none⟩ (.int .i64 (x.c : Nat))).setCell ⟨w.heap.size + 1, 1, none⟩ (.slice p1 n p3)).setCell ⟨w.heap.size + 1, 2, none⟩ (.bool true)).setCell ⟨w.heap.size + 1, 3, none⟩ (.slice (some ⟨g, off, none⟩) 0 0)).setCell ⟨w.heap.size + 1, 4, none⟩ (.int .i64 ((x.a : Int) + (N : Int)))).setCell ⟨w.heap.size + 1, 5, none⟩ (.int .i64 x.wr)).setCell ⟨w.heap.size + 1, 6, none⟩ (.int .i64 x.rd)) := ⟨_, rfl⟩
    rw [← hWF] at eF fF ⊢
    clear hWF
    have eG : WF.heap[w.heap.size + 1]? = some (.cells #[.int .i64 (x.c : Nat), .slice p1 n p3, .bool true, .slice (some ⟨g, off, none⟩) 0 0, .int .i64 ((x.a : Int) + (N : Int)), .int .i64 x.wr, .int .i64 x.rd] 31 (0, 0)) := by simpa using eF
    have zz0 := cells_cell (o := 0) eG rfl
    have zz1 := cells_cell (o := 1) eG rfl
    have zz2 := cells_cell (o := 2) eG rfl
    have zz3 := cells_cell (o := 3) eG rfl
    have zz4 := cells_cell (o := 4) eG rfl
    have zz5 := cells_cell (o := 5) eG rfl
    have zz6 := cells_cell (o := 6) eG rfl
    refine bodyPost_ret (v := .tuple #[.agg #[.int .i64 (x.c : Nat), .slice p1 n p3, .bool true, .slice (some ⟨g, off, none⟩) 0 0, .int .i64 ((x.a : Int) + (N : Int)), .int .i64 x.wr, .int .i64 x.rd], .slice (some ⟨g, off, none⟩) N N, .int .i64 0]) (by simp [results, Try.results46, go_sem, zz0, zz1, zz2, zz3, zz4, zz5, zz6]) rfl ?_
    have hwz := HWZ5.out
    have hbF := HC5.out.trans (fF.below (B := w.heap.size) (by simp) HC5.out.size)
    have hrS := fF.row HS5.out (fun g hg hm => by have := (HS5.out.lt g hg).1; simp only [List.mem_cons, List.not_mem_nil, or_false] at hm; omega)
    have hno : g ∉ [w.heap.size, w.heap.size + 1] := by simp only [List.mem_cons, List.not_mem_nil, or_false]; have := HGW.out; omega
    have hpR := HPR.out.fr fF hno
    have hpC := HCUT.out.fr fF hno
    rw [HTD.out.2.1] at hpR
    rw [HTD.out.1] at hpC
    refine ⟨_, _, rfl, ⟨_, _, ?_, RowB.srcP hrS (fun g hg => HPP.out g (by omega)), PieceG.srcP hpR (HPP.out g (by have := HGW.out; omega))⟩, PieceG.srcP hpC (HPP.out g (by have := HGW.out; omega)), hbF⟩
    have ea : (((x.a + (x.R.take m.toNat).length : Nat) : Int)) = (x.a : Int) + (N : Int) := by rw [HTD.out.2.2]; push_cast; rfl
    unfold St.rw Rw.val
    rw [ea, HBZ.out]
  · have hc2 : (N : Int) < (q3 : Int) := by omega
    have hpr := HPG.out.rest HNL.out (off + N) (by rw [if_neg hc1])
    have HPR := Lib.hid hpr
    have HCUT := Lib.hid (HPG.out.cut HNL.out)
    clear hpr
    go_wp2_with (refine wpList_min rfl (.tmp 66) (.tmp 69) _ rfl m rn N rfl rfl HND.out.2 ?_)
    have eF := (cells_set (cells_set (cells_set (cells_set (cells_set (cells_set (cells_set ((fr_setCell _ ⟨w.heap.size, 4, none⟩ (.int .i64 ((x.a : Int) + (N : Int)))).same ((fr_setCell _ ⟨w.heap.size, 3, none⟩ (.slice (some ⟨g, off + N, none⟩) (rn - N) (q3 - N))).same HR5.out (by simp)) (by simp)) 0 (.int .i64 (x.c : Nat))) 1 (.slice p1 n p3)) 2 (.bool true)) 3 (.slice (some ⟨g, off + N, none⟩) (rn - N) (q3 - N))) 4 (.int .i64 ((x.a : Int) + (N : Int)))) 5 (.int .i64 x.wr)) 6 (.int .i64 x.rd))
    have fF : Fr [w.heap.size, w.heap.size + 1] w5 (((((((((w5.setCell ⟨w.heap.size, 3, none⟩ (.slice (some ⟨g, off + N, none⟩) (rn - N) (q3 - N))).setCell ⟨w.heap.size, 4, none⟩ (.int .i64 ((x.a : Int) + (N : Int)))).setCell ⟨w.heap.size + 1, 0, none⟩ (.int .i64 (x.c : Nat))).setCell ⟨w.heap.size + 1, 1, none⟩ (.slice p1 n p3)).setCell ⟨w.heap.size + 1, 2, none⟩ (.bool true)).setCell ⟨w.heap.size + 1, 3, none⟩ (.slice (some ⟨g, off + N, none⟩) (rn - N) (q3 - N))).setCell ⟨w.heap.size + 1, 4, none⟩ (.int .i64 ((x.a : Int) + (N : Int)))).setCell ⟨w.heap.size + 1, 5, none⟩ (.int .i64 x.wr)).setCell ⟨w.heap.size + 1, 6, none⟩ (.int .i64 x.rd)) := ((((((((((Fr.refl [w.heap.size, w.heap.size + 1] w5).trans' ((fr_setCell _ ⟨w.heap.size, 3, none⟩ (.slice (some ⟨g, off + N, none⟩) (rn - N) (q3 - N))).mono (by simp))).trans' ((fr_setCell _ ⟨w.heap.size, 4, none⟩ (.int .i64 ((x.a : Int) + (N : Int)))).mono (by simp))).trans' ((fr_setCell _ ⟨w.heap.size + 1, 0, none⟩ (.int .i64 (x.c : Nat))).mono (by simp))).trans' ((fr_setCell _ ⟨w.heap.size + 1, 1, none⟩ (.slice p1 n p3)).mono (by simp))).trans' ((fr_setCell _ ⟨w.heap.size + 1, 2, none⟩ (.bool true)).mono (by simp))).trans' ((fr_setCell _ ⟨w.heap.size + 1, 3, none⟩ (.slice (some ⟨g, off + N, none⟩) (rn - N) (q3 - N))).mono (by simp))).trans' ((fr_setCell _ ⟨w.heap.size + 1, 4, none⟩ (.int .i64 ((x.a : Int) + (N : Int)))).mono (by simp))).trans' ((fr_setCell _ ⟨w.heap.size + 1, 5, none⟩ (.int .i64 x.wr)).mono (by simp))).trans' ((fr_setCell _ ⟨w.heap.size + 1, 6, none⟩ (.int .i64 x.rd)).mono (by simp)))
    obtain ⟨WF, hWF⟩ : ∃ WF, WF = (((((((((w5.setCell ⟨w.heap.size, 3, none⟩ (.slice (some ⟨g, off + N, none⟩) (rn - N) (q3 - N))).setCell ⟨w.heap.size, 4, none⟩ (.int .i64 ((x.a : Int) + (N : Int)))).setCell ⟨w.heap.size + 1, 0, none⟩ (.int .i64 (x.c : Nat))).setCell ⟨w.heap.size + 1, 1, none⟩ (.slice p1 n p3)).setCell ⟨w.heap.size + 1, 2, none⟩ (.bool true)).setCell ⟨w.heap.size + 1, 3, none⟩ (.slice (some ⟨g, off + N, none⟩) (rn - N) (q3 - N))).setCell ⟨w.heap.size + 1, 4, none⟩ (.int .i64 ((x.a : Int) + (N : Int)))).setCell ⟨w.heap.size + 1, 5, none⟩ (.int .i64 x.wr)).setCell ⟨w.heap.size + 1, 6, none⟩ (.int .i64 x.rd)) := ⟨_, rfl⟩
    rw [← hWF] at eF fF ⊢
    clear hWF
    have eG : WF.heap[w.heap.size + 1]? = some (.cells #[.int .i64 (x.c : Nat), .slice p1 n p3, .bool true, .slice (some ⟨g, off + N, none⟩) (rn - N) (q3 - N), .int .i64 ((x.a : Int) + (N : Int)), .int .i64 x.wr, .int .i64 x.rd] 31 (0, 0)) := by simpa using eF
    have zz0 := cells_cell (o := 0) eG rfl
    have zz1 := cells_cell (o := 1) eG rfl
    have zz2 := cells_cell (o := 2) eG rfl
    have zz3 := cells_cell (o := 3) eG rfl
    have zz4 := cells_cell (o := 4) eG rfl
    have zz5 := cells_cell (o := 5) eG rfl
    have zz6 := cells_cell (o := 6) eG rfl
    refine bodyPost_ret (v := .tuple #[.agg #[.int .i64 (x.c : Nat), .slice p1 n p3, .bool true, .slice (some ⟨g, off + N, none⟩) (rn - N) (q3 - N), .int .i64 ((x.a : Int) + (N : Int)), .int .i64 x.wr, .int .i64 x.rd], .slice (some ⟨g, off, none⟩) N N, .int .i64 0]) (by simp [results, Try.results46, go_sem, zz0, zz1, zz2, zz3, zz4, zz5, zz6]) rfl ?_
    have hwz := HWZ5.out
    have hbF := HC5.out.trans (fF.below (B := w.heap.size) (by simp) HC5.out.size)
    have hrS := fF.row HS5.out (fun g hg hm => by have := (HS5.out.lt g hg).1; simp only [List.mem_cons, List.not_mem_nil, or_false] at hm; omega)
    have hno : g ∉ [w.heap.size, w.heap.size + 1] := by simp only [List.mem_cons, List.not_mem_nil, or_false]; have := HGW.out; omega
    have hpR := HPR.out.fr fF hno
    have hpC := HCUT.out.fr fF hno
    rw [HTD.out.2.1] at hpR
    rw [HTD.out.1] at hpC
    refine ⟨_, _, rfl, ⟨_, _, ?_, RowB.srcP hrS (fun g hg => HPP.out g (by omega)), PieceG.srcP hpR (HPP.out g (by have := HGW.out; omega))⟩, PieceG.srcP hpC (HPP.out g (by have := HGW.out; omega)), hbF⟩
    have ea : (((x.a + (x.R.take m.toNat).length : Nat) : Int)) = (x.a : Int) + (N : Int) := by rw [HTD.out.2.2]; push_cast; rfl
    unfold St.rw Rw.val
    rw [ea, HBZ.out]
theorem sfRead_any (h : SvP P w v x.rw) (ok : x.Ok) (hP : ∀ g, w.heap.size ≤ g → P g) (m : Int) : Calls Try.prog 46 #[v, .int .i64 m] w fun r w' => ∃ v' vb, r = .returned (.tuple #[v', vb, .int .i64 (sRd x m).2.1]) ∧ SvP P w' v' (sRd x m).2.2.rw ∧ SrcP P w' vb (sRd x m).1 ∧ Below w.heap.size w w' := by
  by_cases hp : m < 0 ∨ 65536 < m ∨ x.rd ≠ 0 ∨ m = 0
  · exact sfRead_plain h ok hP m hp
  · have h1 : 0 < m ∧ m ≤ 65536 := by omega
    have h2 : x.rd = 0 := Classical.byContradiction fun q => hp (.inr (.inr (.inl q)))
    by_cases h3 : x.S = []
    · by_cases h4 : x.c = 0
      · obtain hb | hb : x.busy = false ∨ x.busy = true := by cases x.busy <;> simp
        · exact sfRead_idle h ok hP m h1 h2 h3 h4 hb
        · by_cases h5 : x.wr = 0
          · by_cases h6 : x.R = []
            · exact sfRead_none h ok hP m h1 h2 h3 h4 hb h5 h6
            · exact sfRead_rest h ok hP m h1 h2 h3 h4 hb h5 h6
          · exact sfRead_shut h ok hP m h1 h2 h3 h4 hb h5
      · exact sfRead_cap h ok hP m h1 h2 h3 h4
    · exact sfRead_buf h ok hP m h1 h2 h3
end
end Go.Proofs.Yteimjkmjofaieaa
