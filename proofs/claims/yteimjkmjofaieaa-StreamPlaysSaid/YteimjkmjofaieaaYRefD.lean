/- The reference's Begin. -/
import Derived.Test.YteimjkmjofaieaaYRefC
namespace Go.Proofs.Yteimjkmjofaieaa
open Go.RowKit Go.Sort
set_option linter.unusedVariables false
set_option linter.unusedSimpArgs false
set_option maxRecDepth 100000
section
variable {P : Nat → Prop} {w : World} {v : Value} {x : St}
set_option maxHeartbeats 3200000 in
theorem sfBegin_any (h : SvP P w v x.rw) (ok : x.Ok) (hP : ∀ g, w.heap.size ≤ g → P g) {vb : Value} {L : List UInt8} (hvb : SrcV w vb (L.map encB)) (hL : L.length ≤ 65536) : Calls Try.prog 43 #[v, vb] w fun r w' => ∃ v', r = .returned (.tuple #[v', .int .i64 (sBg x L).1]) ∧ SvP P w' v' (sBg x L).2.rw ∧ Below w.heap.size w w' := by
  obtain ⟨vS, vR, rfl, hS', hR'⟩ := h
  have hS : SrcP P w vS x.S := hS'
  have hR : SrcP P w vR x.R := hR'
  clear hS' hR'
  obtain ⟨s1, s3, rfl, -, -⟩ := hS.1.form
  obtain ⟨r1, r3, rfl, hr3, hrm⟩ := hR.1.form
  simp only [List.length_map] at *
  have hsm := ok.small
  obtain ⟨n, hn⟩ : ∃ n, n = x.S.length := ⟨_, rfl⟩
  obtain ⟨rn, hrn⟩ : ∃ n, n = x.R.length := ⟨_, rfl⟩
  rw [← hrn] at hsm hr3
  have hval : x.rw.val (.slice s1 x.S.length s3) (.slice r1 x.R.length r3) = .agg #[.int .i64 (x.c : Nat), .slice s1 n s3, .bool x.busy, .slice r1 rn r3, .int .i64 (x.a : Nat), .int .i64 x.wr, .int .i64 x.rd] := by rw [hn, hrn]; rfl
  rw [hval]
  obtain ⟨W, hW⟩ : ∃ W, W = (w.alloc (.cells #[.int .i64 (x.c : Nat), .slice s1 n s3, .bool x.busy, .slice r1 rn r3, .int .i64 (x.a : Nat), .int .i64 x.wr, .int .i64 x.rd] 31)).alloc (.cells #[.int .i64 0, .slice none 0 0, .bool false, .slice none 0 0, .int .i64 0, .int .i64 0, .int .i64 0] 31) := ⟨_, rfl⟩
  have hb : Below w.heap.size w W := by rw [hW]; exact (below_alloc _ _).trans ((below_alloc _ _).mono (by simp))
  have hX0 : W.heap[w.heap.size]? = some (.cells #[.int .i64 (x.c : Nat), .slice s1 n s3, .bool x.busy, .slice r1 rn r3, .int .i64 (x.a : Nat), .int .i64 x.wr, .int .i64 x.rd] 31 (0, 0)) := by rw [hW]; exact ((below_alloc _ _).block w.heap.size (by simp)).trans (heap_alloc_new w _)
  have hR0 : W.heap[w.heap.size + 1]? = some (.cells #[.int .i64 0, .slice none 0 0, .bool false, .slice none 0 0, .int .i64 0, .int .i64 0, .int .i64 0] 31 (0, 0)) := by rw [hW]; exact block_new _ _ _ (by simp)
  have HR0 := Lib.hid hR0
  have HX0 := Lib.hid hX0
  have HB := Lib.hid hb
  have HW := Lib.hid hW.symm
  have HOK := Lib.hid ok
  have HSP : Hid (SrcP P w (.slice s1 n s3) x.S) := Lib.hid (by rw [hn]; exact hS)
  have HRP : Hid (SrcP P w (.slice r1 rn r3) x.R) := Lib.hid (by rw [hrn]; exact hR)
  have HN := Lib.hid (And.intro hn hrn)
  have k0 := cells_cell (o := 0) hX0 rfl
  have k1 := cells_cell (o := 1) hX0 rfl
  have k2 := cells_cell (o := 2) hX0 rfl
  have k3 := cells_cell (o := 3) hX0 rfl
  have k4 := cells_cell (o := 4) hX0 rfl
  have k5 := cells_cell (o := 5) hX0 rfl
  have k6 := cells_cell (o := 6) hX0 rfl
  have y0 := cells_free hX0 0
  have y1 := cells_free hX0 1
  have y2 := cells_free hX0 2
  have y3 := cells_free hX0 3
  have y4 := cells_free hX0 4
  have y5 := cells_free hX0 5
  have y6 := cells_free hX0 6
  have u0 := cells_free hR0 0
  have u1 := cells_free hR0 1
  have u2 := cells_free hR0 2
  have u3 := cells_free hR0 3
  have u4 := cells_free hR0 4
  have u5 := cells_free hR0 5
  have u6 := cells_free hR0 6
  have o0 := cells_cell (o := 0) hR0 rfl
  have o1 := cells_cell (o := 1) hR0 rfl
  have o2 := cells_cell (o := 2) hR0 rfl
  have o3 := cells_cell (o := 3) hR0 rfl
  have o4 := cells_cell (o := 4) hR0 rfl
  have o5 := cells_cell (o := 5) hR0 rfl
  have o6 := cells_cell (o := 6) hR0 rfl
  have hlB := lt_of_block hX0
  have hlR := lt_of_block hR0
  obtain ⟨ba, bc, rfl, -, -⟩ := hvb.form
  simp only [List.length_map] at *
  obtain ⟨bn, hbn⟩ : ∃ n, n = L.length := ⟨_, rfl⟩
  rw [← hbn] at hvb hL ⊢
  have HVB := Lib.hid (hvb.grown hb)
  have HLN := Lib.hid (And.intro hbn hL)
  have HPP := Lib.hid hP
  unfold sBg
  clear hW hb hX0 hR0 hS hR hval hn hrn hr3 hrm hsm ok hvb hL hbn hP
  by_cases hwr : x.wr = 0
  · rw [if_neg (by simp [hwr])]
    have t1 : (x.wr != 0) = false := by simp [hwr]
    by_cases hrd : x.rd = 0
    · rw [if_neg (by simp [hrd])]
      have t2 : (x.rd != 0) = false := by simp [hrd]
      obtain hbz | hbz : x.busy = true ∨ x.busy = false := by cases x.busy <;> simp
      · rw [if_pos hbz]
        have HBZ := Lib.hid hbz
        rw [hbz] at k2
        clear hwr hrd hbz
        go_enter Try.func43, Try.ntmps43
        go_upto_region 1 with fail
        rw [HW.out]
        go_wp2_with fail
        have eF := (cells_set (cells_set (cells_set (cells_set (cells_set (cells_set (cells_set HR0.out 0 (.int .i64 (x.c : Nat))) 1 (.slice s1 n s3)) 2 (.bool true)) 3 (.slice r1 rn r3)) 4 (.int .i64 (x.a : Nat))) 5 (.int .i64 x.wr)) 6 (.int .i64 x.rd))
        have fF : Fr [w.heap.size, w.heap.size + 1] W (((((((W.setCell ⟨w.heap.size + 1, 0, none⟩ (.int .i64 (x.c : Nat))).setCell ⟨w.heap.size + 1, 1, none⟩ (.slice s1 n s3)).setCell ⟨w.heap.size + 1, 2, none⟩ (.bool true)).setCell ⟨w.heap.size + 1, 3, none⟩ (.slice r1 rn r3)).setCell ⟨w.heap.size + 1, 4, none⟩ (.int .i64 (x.a : Nat))).setCell ⟨w.heap.size + 1, 5, none⟩ (.int .i64 x.wr)).setCell ⟨w.heap.size + 1, 6, none⟩ (.int .i64 x.rd)) := ((((((((Fr.refl [w.heap.size, w.heap.size + 1] W).trans' ((fr_setCell _ ⟨w.heap.size + 1, 0, none⟩ (.int .i64 (x.c : Nat))).mono (by simp))).trans' ((fr_setCell _ ⟨w.heap.size + 1, 1, none⟩ (.slice s1 n s3)).mono (by simp))).trans' ((fr_setCell _ ⟨w.heap.size + 1, 2, none⟩ (.bool true)).mono (by simp))).trans' ((fr_setCell _ ⟨w.heap.size + 1, 3, none⟩ (.slice r1 rn r3)).mono (by simp))).trans' ((fr_setCell _ ⟨w.heap.size + 1, 4, none⟩ (.int .i64 (x.a : Nat))).mono (by simp))).trans' ((fr_setCell _ ⟨w.heap.size + 1, 5, none⟩ (.int .i64 x.wr)).mono (by simp))).trans' ((fr_setCell _ ⟨w.heap.size + 1, 6, none⟩ (.int .i64 x.rd)).mono (by simp)))
        obtain ⟨WF, hWF⟩ : ∃ WF, WF = (((((((W.setCell ⟨w.heap.size + 1, 0, none⟩ (.int .i64 (x.c : Nat))).setCell ⟨w.heap.size + 1, 1, none⟩ (.slice s1 n s3)).setCell ⟨w.heap.size + 1, 2, none⟩ (.bool true)).setCell ⟨w.heap.size + 1, 3, none⟩ (.slice r1 rn r3)).setCell ⟨w.heap.size + 1, 4, none⟩ (.int .i64 (x.a : Nat))).setCell ⟨w.heap.size + 1, 5, none⟩ (.int .i64 x.wr)).setCell ⟨w.heap.size + 1, 6, none⟩ (.int .i64 x.rd)) := ⟨_, rfl⟩
        rw [← hWF] at eF fF ⊢
        clear hWF
        have eG : WF.heap[w.heap.size + 1]? = some (.cells #[.int .i64 (x.c : Nat), .slice s1 n s3, .bool true, .slice r1 rn r3, .int .i64 (x.a : Nat), .int .i64 x.wr, .int .i64 x.rd] 31 (0, 0)) := by simpa using eF
        have zz0 := cells_cell (o := 0) eG rfl
        have zz1 := cells_cell (o := 1) eG rfl
        have zz2 := cells_cell (o := 2) eG rfl
        have zz3 := cells_cell (o := 3) eG rfl
        have zz4 := cells_cell (o := 4) eG rfl
        have zz5 := cells_cell (o := 5) eG rfl
        have zz6 := cells_cell (o := 6) eG rfl
        refine bodyPost_ret (v := .tuple #[.agg #[.int .i64 (x.c : Nat), .slice s1 n s3, .bool true, .slice r1 rn r3, .int .i64 (x.a : Nat), .int .i64 x.wr, .int .i64 x.rd], .int .i64 11]) (by simp [results, Try.results43, go_sem, zz0, zz1, zz2, zz3, zz4, zz5, zz6]) rfl ?_
        have hbF := HB.out.trans (fF.below (B := w.heap.size) (by simp) HB.out.size)
        exact ⟨_, rfl, ⟨_, _, (by rw [← HBZ.out]; rfl), HSP.out.grown hbF, HRP.out.grown hbF⟩, hbF⟩
      · rw [if_neg (by simp [hbz])]
        have HBZ := Lib.hid hbz
        rw [hbz] at k2
        clear hwr hrd hbz
        go_enter Try.func43, Try.ntmps43
        go_upto_region 1 with fail
        rw [HW.out]
        go_wp2_with (at_builtin; refine wpList_append_v slcB (by decide) rfl (.const (.slice none 0 0)) (.tmp 19) rfl rfl rfl (World.ownsRow_nil W W.heap.size 5 1) (Nat.le_refl _) HVB.out (encB_one L) (by have := HLN.out; simp; omega) ?_; intro v1 w1 ho1 hf1 hn1; refine Hid.out ?_)
        have hf1' : Fr [] W w1 := hf1
        have hb1 : Below W.heap.size W w1 := hf1'.below (by simp) (Nat.le_refl _)
        have hr1 : RowB w1 W.heap.size v1 L := by simpa [RowB] using ho1
        obtain ⟨p1, p3, hpv⟩ : ∃ a c, v1 = .slice a bn c := by
          obtain ⟨a, c, e, _⟩ := hr1.form
          exact ⟨a, c, by rw [e, HLN.out.1]⟩
        subst hpv
        have hX1 := (hb1.block _ (lt_of_block HX0.out)).trans HX0.out
        have hR1 := (hb1.block _ (lt_of_block HR0.out)).trans HR0.out
        have HX1 := Lib.hid hX1
        have HR1 := Lib.hid hR1
        have HB1 := Lib.hid (HB.out.trans (hb1.mono HB.out.size))
        have HWZ : Hid (w.heap.size + 1 < W.heap.size ∧ W.heap.size ≤ w1.heap.size) := Lib.hid ⟨lt_of_block HR0.out, hb1.size⟩
        have HROW := Lib.hid hr1
        have j0 := cells_cell (o := 0) hX1 rfl
        have j1 := cells_cell (o := 1) hX1 rfl
        have j2 := cells_cell (o := 2) hX1 rfl
        have j3 := cells_cell (o := 3) hX1 rfl
        have j4 := cells_cell (o := 4) hX1 rfl
        have j5 := cells_cell (o := 5) hX1 rfl
        have j6 := cells_cell (o := 6) hX1 rfl
        have yy0 := cells_free hX1 0
        have yy1 := cells_free hX1 1
        have yy2 := cells_free hX1 2
        have yy3 := cells_free hX1 3
        have yy4 := cells_free hX1 4
        have yy5 := cells_free hX1 5
        have yy6 := cells_free hX1 6
        rw [HBZ.out] at j2
        have hlB1 := lt_of_block hX1
        clear k0 k1 k2 k3 k4 k5 k6 y0 y1 y2 y3 y4 y5 y6 u0 u1 u2 u3 u4 u5 u6 o0 o1 o2 o3 o4 o5 o6
        have hsv5 : SvP (fun _ => True) (((w1.setCell ⟨w.heap.size, 2, none⟩ (.bool true)).setCell ⟨w.heap.size, 3, none⟩ (.slice p1 bn p3)).setCell ⟨w.heap.size, 4, none⟩ (.int .i64 0)) (.agg #[.int .i64 (x.c : Nat), .slice s1 n s3, .bool true, .slice p1 bn p3, .int .i64 0, .int .i64 x.wr, .int .i64 x.rd]) ({ x with busy := true, R := L, a := 0 } : St).rw := by
          have fX : Fr [w.heap.size] w1 (((w1.setCell ⟨w.heap.size, 2, none⟩ (.bool true)).setCell ⟨w.heap.size, 3, none⟩ (.slice p1 bn p3)).setCell ⟨w.heap.size, 4, none⟩ (.int .i64 0)) := ((((Fr.refl [w.heap.size] w1).trans' ((fr_setCell _ ⟨w.heap.size, 2, none⟩ (.bool true)).mono (by simp))).trans' ((fr_setCell _ ⟨w.heap.size, 3, none⟩ (.slice p1 bn p3)).mono (by simp))).trans' ((fr_setCell _ ⟨w.heap.size, 4, none⟩ (.int .i64 0)).mono (by simp)))
          have hbX := HB1.out.trans (fX.below (B := w.heap.size) (by simp) HB1.out.size)
          refine ⟨_, _, rfl, (HSP.out.grown hbX).weak (fun _ _ => trivial), ?_⟩
          exact RowB.srcP (fX.row hr1 (fun g hg hm => by have := (hr1.lt g hg).1; have := HWZ.out; simp only [List.mem_singleton] at hm; omega)) (fun _ _ => trivial)
        have hfl := sfFill_any (P := fun g => w1.heap.size ≤ g) hsv5 (fun g hg => by simpa using hg) HOK.out.top HOK.out.le (fun q => by cases q) (by show 0 + L.length ≤ _; have := HLN.out; omega)
        have HFL := Lib.hid hfl
        have HRW5 : Hid ((((w1.setCell ⟨w.heap.size, 2, none⟩ (.bool true)).setCell ⟨w.heap.size, 3, none⟩ (.slice p1 bn p3)).setCell ⟨w.heap.size, 4, none⟩ (.int .i64 0)).heap[w.heap.size + 1]? = some (.cells #[.int .i64 0, .slice none 0 0, .bool false, .slice none 0 0, .int .i64 0, .int .i64 0, .int .i64 0] 31 (0, 0))) := Lib.hid ((fr_setCell _ ⟨w.heap.size, 4, none⟩ (.int .i64 0)).same ((fr_setCell _ ⟨w.heap.size, 3, none⟩ (.slice p1 bn p3)).same ((fr_setCell _ ⟨w.heap.size, 2, none⟩ (.bool true)).same HR1.out (by simp)) (by simp)) (by simp))
        have HBW5 : Hid (Below w.heap.size w (((w1.setCell ⟨w.heap.size, 2, none⟩ (.bool true)).setCell ⟨w.heap.size, 3, none⟩ (.slice p1 bn p3)).setCell ⟨w.heap.size, 4, none⟩ (.int .i64 0))) := Lib.hid (HB1.out.trans ((((((Fr.refl [w.heap.size] w1).trans' ((fr_setCell _ ⟨w.heap.size, 2, none⟩ (.bool true)).mono (by simp))).trans' ((fr_setCell _ ⟨w.heap.size, 3, none⟩ (.slice p1 bn p3)).mono (by simp))).trans' ((fr_setCell _ ⟨w.heap.size, 4, none⟩ (.int .i64 0)).mono (by simp))) : Fr [w.heap.size] w1 (((w1.setCell ⟨w.heap.size, 2, none⟩ (.bool true)).setCell ⟨w.heap.size, 3, none⟩ (.slice p1 bn p3)).setCell ⟨w.heap.size, 4, none⟩ (.int .i64 0))).below (B := w.heap.size) (by simp) HB1.out.size))
        clear hf1 hf1' hb1 hr1 ho1 hn1 hX1 hR1 hsv5 hfl
        refine Lib.hid ?_
        go_wp2_with (go_at_call 74; fail)
        refine HFL.out.mono ?_
        rintro e w6 ⟨v6, rfl, hsv6, hb6⟩
        obtain ⟨z0, a1, a2, a3, zb, b1, b2, b3, z4, z5, z6, rfl⟩ : ∃ z0 a1 a2 a3 zb b1 b2 b3 z4 z5 z6, v6 = .agg #[.int .i64 z0, .slice a1 a2 a3, .bool zb, .slice b1 b2 b3, .int .i64 z4, .int .i64 z5, .int .i64 z6] := by
          obtain ⟨s1, n, s3, r1, rn, r3, e⟩ := hsv6.shape
          exact ⟨_, _, _, _, _, _, _, _, _, _, _, e⟩
        have hR6 := (hb6.block _ (lt_of_block HRW5.out)).trans HRW5.out
        have HR6 := Lib.hid hR6
        have HSV6 := Lib.hid hsv6
        have HB6 := Lib.hid (HBW5.out.trans (hb6.mono HBW5.out.size))
        have uu0 := cells_free hR6 0
        have uu1 := cells_free hR6 1
        have uu2 := cells_free hR6 2
        have uu3 := cells_free hR6 3
        have uu4 := cells_free hR6 4
        have uu5 := cells_free hR6 5
        have uu6 := cells_free hR6 6
        have oo0 := cells_cell (o := 0) hR6 rfl
        have oo1 := cells_cell (o := 1) hR6 rfl
        have oo2 := cells_cell (o := 2) hR6 rfl
        have oo3 := cells_cell (o := 3) hR6 rfl
        have oo4 := cells_cell (o := 4) hR6 rfl
        have oo5 := cells_cell (o := 5) hR6 rfl
        have oo6 := cells_cell (o := 6) hR6 rfl
        have hlR6 := lt_of_block hR6
        clear hb6 hR6 hsv6 hlB1 j0 yy0 j1 yy1 j2 yy2 j3 yy3 j4 yy4 j5 yy5 j6 yy6
        go_wp2_with fail
        have eF := (cells_set (cells_set (cells_set (cells_set (cells_set (cells_set (cells_set HR6.out 0 (.int .i64 z0)) 1 (.slice a1 a2 a3)) 2 (.bool zb)) 3 (.slice b1 b2 b3)) 4 (.int .i64 z4)) 5 (.int .i64 z5)) 6 (.int .i64 z6))
        have fF : Fr [w.heap.size + 1] w6 (((((((w6.setCell ⟨w.heap.size + 1, 0, none⟩ (.int .i64 z0)).setCell ⟨w.heap.size + 1, 1, none⟩ (.slice a1 a2 a3)).setCell ⟨w.heap.size + 1, 2, none⟩ (.bool zb)).setCell ⟨w.heap.size + 1, 3, none⟩ (.slice b1 b2 b3)).setCell ⟨w.heap.size + 1, 4, none⟩ (.int .i64 z4)).setCell ⟨w.heap.size + 1, 5, none⟩ (.int .i64 z5)).setCell ⟨w.heap.size + 1, 6, none⟩ (.int .i64 z6)) := ((((((((Fr.refl [w.heap.size + 1] w6).trans' ((fr_setCell _ ⟨w.heap.size + 1, 0, none⟩ (.int .i64 z0)).mono (by simp))).trans' ((fr_setCell _ ⟨w.heap.size + 1, 1, none⟩ (.slice a1 a2 a3)).mono (by simp))).trans' ((fr_setCell _ ⟨w.heap.size + 1, 2, none⟩ (.bool zb)).mono (by simp))).trans' ((fr_setCell _ ⟨w.heap.size + 1, 3, none⟩ (.slice b1 b2 b3)).mono (by simp))).trans' ((fr_setCell _ ⟨w.heap.size + 1, 4, none⟩ (.int .i64 z4)).mono (by simp))).trans' ((fr_setCell _ ⟨w.heap.size + 1, 5, none⟩ (.int .i64 z5)).mono (by simp))).trans' ((fr_setCell _ ⟨w.heap.size + 1, 6, none⟩ (.int .i64 z6)).mono (by simp)))
        obtain ⟨WF, hWF⟩ : ∃ WF, WF = (((((((w6.setCell ⟨w.heap.size + 1, 0, none⟩ (.int .i64 z0)).setCell ⟨w.heap.size + 1, 1, none⟩ (.slice a1 a2 a3)).setCell ⟨w.heap.size + 1, 2, none⟩ (.bool zb)).setCell ⟨w.heap.size + 1, 3, none⟩ (.slice b1 b2 b3)).setCell ⟨w.heap.size + 1, 4, none⟩ (.int .i64 z4)).setCell ⟨w.heap.size + 1, 5, none⟩ (.int .i64 z5)).setCell ⟨w.heap.size + 1, 6, none⟩ (.int .i64 z6)) := ⟨_, rfl⟩
        rw [← hWF] at eF fF ⊢
        clear hWF
        have eG : WF.heap[w.heap.size + 1]? = some (.cells #[.int .i64 z0, .slice a1 a2 a3, .bool zb, .slice b1 b2 b3, .int .i64 z4, .int .i64 z5, .int .i64 z6] 31 (0, 0)) := by simpa using eF
        have zz0 := cells_cell (o := 0) eG rfl
        have zz1 := cells_cell (o := 1) eG rfl
        have zz2 := cells_cell (o := 2) eG rfl
        have zz3 := cells_cell (o := 3) eG rfl
        have zz4 := cells_cell (o := 4) eG rfl
        have zz5 := cells_cell (o := 5) eG rfl
        have zz6 := cells_cell (o := 6) eG rfl
        refine bodyPost_ret (v := .tuple #[.agg #[.int .i64 z0, .slice a1 a2 a3, .bool zb, .slice b1 b2 b3, .int .i64 z4, .int .i64 z5, .int .i64 z6], .int .i64 0]) (by simp [results, Try.results43, go_sem, zz0, zz1, zz2, zz3, zz4, zz5, zz6]) rfl ?_
        exact ⟨_, rfl, (HSV6.out.fr fF (fun g hg hm => by have hg' : w1.heap.size ≤ g := hg; have := HWZ.out; simp only [List.mem_singleton] at hm; omega)).weak (fun g hg => HPP.out g (by have hg' : w1.heap.size ≤ g := hg; have := HWZ.out; omega)), HB6.out.trans (fF.below (B := w.heap.size) (by simp) HB6.out.size)⟩
    · rw [if_pos hrd]
      have t2 : (x.rd != 0) = true := by simp [hrd]
      clear hwr hrd
      go_enter Try.func43, Try.ntmps43
      go_upto_region 1 with fail
      rw [HW.out]
      go_wp2_with fail
      refine wp_region_mix (fun W' => W'.heap[w.heap.size]? = some (.cells #[.int .i64 (x.c : Nat), .slice s1 n s3, .bool x.busy, .slice r1 rn r3, .int .i64 (x.a : Nat), .int .i64 x.wr, .int .i64 x.rd] 31 (0, 0))) 4 [(true, 0), (true, 1), (true, 2), (false, 3)] (by kernel_rfl) (by kernel_rfl) (fun _ _ _ d _ h => by cases d <;> exact h) ?_
      have HDW : Hid (Below W.heap.size W W.drew) := Lib.hid ((Grn.refl W).drew 1).below
      have HT : Hid (W.drew.heap[w.heap.size]? = some (.cells #[.int .i64 (x.c : Nat), .slice s1 n s3, .bool x.busy, .slice r1 rn r3, .int .i64 (x.a : Nat), .int .i64 x.wr, .int .i64 x.rd] 31 (0, 0))) := Lib.hid ((HDW.out.block _ (lt_of_block HX0.out)).trans HX0.out)
      have hRV : W.drew.heap[w.heap.size + 1]? = some (.cells #[.int .i64 0, .slice none 0 0, .bool false, .slice none 0 0, .int .i64 0, .int .i64 0, .int .i64 0] 31 (0, 0)) := (HDW.out.block _ (lt_of_block HR0.out)).trans HR0.out
      simp only [List.map_cons, List.map_nil, List.getD_cons_zero, List.getD_cons_succ, List.drop_succ_cons, List.drop_zero]
      generalize W.drew = V at *
      have HRV := Lib.hid hRV
      have HBV := Lib.hid (HB.out.trans (HDW.out.mono HB.out.size))
      have uu0 := cells_free hRV 0
      have uu1 := cells_free hRV 1
      have uu2 := cells_free hRV 2
      have uu3 := cells_free hRV 3
      have uu4 := cells_free hRV 4
      have uu5 := cells_free hRV 5
      have uu6 := cells_free hRV 6
      have oo0 := cells_cell (o := 0) hRV rfl
      have oo1 := cells_cell (o := 1) hRV rfl
      have oo2 := cells_cell (o := 2) hRV rfl
      have oo3 := cells_cell (o := 3) hRV rfl
      have oo4 := cells_cell (o := 4) hRV rfl
      have oo5 := cells_cell (o := 5) hRV rfl
      have oo6 := cells_cell (o := 6) hRV rfl
      have hlRV := lt_of_block hRV
      clear hRV
      refine mix_take (.agg #[.int .i64 (x.c : Nat), .slice s1 n s3, .bool x.busy, .slice r1 rn r3, .int .i64 (x.a : Nat), .int .i64 x.wr, .int .i64 x.rd]) HT.out rfl (fun W' hS => by 
        have l0 := cells_cell (o := 0) hS rfl
        have l1 := cells_cell (o := 1) hS rfl
        have l2 := cells_cell (o := 2) hS rfl
        have l3 := cells_cell (o := 3) hS rfl
        have l4 := cells_cell (o := 4) hS rfl
        have l5 := cells_cell (o := 5) hS rfl
        have l6 := cells_cell (o := 6) hS rfl
        go_simp) ?_
      simp only [Act.put, List.setIfInBounds_toArray, List.set_cons_zero, List.set_cons_succ]
      refine mix_take (.pointer (some ⟨w.heap.size, 6, none⟩)) HT.out rfl (fun W' hS => by go_simp) ?_
      simp only [Act.put, List.setIfInBounds_toArray, List.set_cons_zero, List.set_cons_succ]
      refine mix_take (.int .i64 x.rd) HT.out rfl (fun W' hS => by 
        have l0 := cells_cell (o := 6) hS rfl
        go_simp) ?_
      simp only [Act.put, List.setIfInBounds_toArray, List.set_cons_zero, List.set_cons_succ]
      refine mix_step rfl (fun K3 hK => ?_)
      go_simp
      have HT4 : Hid ((((((((V.setCell ⟨w.heap.size + 1, 0, none⟩ (.int .i64 (x.c : Nat))).setCell ⟨w.heap.size + 1, 1, none⟩ (.slice s1 n s3)).setCell ⟨w.heap.size + 1, 2, none⟩ (.bool x.busy)).setCell ⟨w.heap.size + 1, 3, none⟩ (.slice r1 rn r3)).setCell ⟨w.heap.size + 1, 4, none⟩ (.int .i64 (x.a : Nat))).setCell ⟨w.heap.size + 1, 5, none⟩ (.int .i64 x.wr)).setCell ⟨w.heap.size + 1, 6, none⟩ (.int .i64 x.rd)).heap[w.heap.size]? = some (.cells #[.int .i64 (x.c : Nat), .slice s1 n s3, .bool x.busy, .slice r1 rn r3, .int .i64 (x.a : Nat), .int .i64 x.wr, .int .i64 x.rd] 31 (0, 0))) := Lib.hid ((fr_setCell _ ⟨w.heap.size + 1, 6, none⟩ (.int .i64 x.rd)).same ((fr_setCell _ ⟨w.heap.size + 1, 5, none⟩ (.int .i64 x.wr)).same ((fr_setCell _ ⟨w.heap.size + 1, 4, none⟩ (.int .i64 (x.a : Nat))).same ((fr_setCell _ ⟨w.heap.size + 1, 3, none⟩ (.slice r1 rn r3)).same ((fr_setCell _ ⟨w.heap.size + 1, 2, none⟩ (.bool x.busy)).same ((fr_setCell _ ⟨w.heap.size + 1, 1, none⟩ (.slice s1 n s3)).same ((fr_setCell _ ⟨w.heap.size + 1, 0, none⟩ (.int .i64 (x.c : Nat))).same HT.out (by simp)) (by simp)) (by simp)) (by simp)) (by simp)) (by simp)) (by simp))
      refine hK _ _ HT4.out ?_
      clear hK K3
      try simp only [Act.put, List.setIfInBounds_toArray, List.set_cons_zero, List.set_cons_succ]
      refine mix_nil ?_
      go_wp2_with fail
      have eF := (cells_set (cells_set (cells_set (cells_set (cells_set (cells_set (cells_set HRV.out 0 (.int .i64 (x.c : Nat))) 1 (.slice s1 n s3)) 2 (.bool x.busy)) 3 (.slice r1 rn r3)) 4 (.int .i64 (x.a : Nat))) 5 (.int .i64 x.wr)) 6 (.int .i64 x.rd))
      have fF : Fr [w.heap.size, w.heap.size + 1] V (((((((V.setCell ⟨w.heap.size + 1, 0, none⟩ (.int .i64 (x.c : Nat))).setCell ⟨w.heap.size + 1, 1, none⟩ (.slice s1 n s3)).setCell ⟨w.heap.size + 1, 2, none⟩ (.bool x.busy)).setCell ⟨w.heap.size + 1, 3, none⟩ (.slice r1 rn r3)).setCell ⟨w.heap.size + 1, 4, none⟩ (.int .i64 (x.a : Nat))).setCell ⟨w.heap.size + 1, 5, none⟩ (.int .i64 x.wr)).setCell ⟨w.heap.size + 1, 6, none⟩ (.int .i64 x.rd)) := ((((((((Fr.refl [w.heap.size, w.heap.size + 1] V).trans' ((fr_setCell _ ⟨w.heap.size + 1, 0, none⟩ (.int .i64 (x.c : Nat))).mono (by simp))).trans' ((fr_setCell _ ⟨w.heap.size + 1, 1, none⟩ (.slice s1 n s3)).mono (by simp))).trans' ((fr_setCell _ ⟨w.heap.size + 1, 2, none⟩ (.bool x.busy)).mono (by simp))).trans' ((fr_setCell _ ⟨w.heap.size + 1, 3, none⟩ (.slice r1 rn r3)).mono (by simp))).trans' ((fr_setCell _ ⟨w.heap.size + 1, 4, none⟩ (.int .i64 (x.a : Nat))).mono (by simp))).trans' ((fr_setCell _ ⟨w.heap.size + 1, 5, none⟩ (.int .i64 x.wr)).mono (by simp))).trans' ((fr_setCell _ ⟨w.heap.size + 1, 6, none⟩ (.int .i64 x.rd)).mono (by simp)))
      obtain ⟨WF, hWF⟩ : ∃ WF, WF = (((((((V.setCell ⟨w.heap.size + 1, 0, none⟩ (.int .i64 (x.c : Nat))).setCell ⟨w.heap.size + 1, 1, none⟩ (.slice s1 n s3)).setCell ⟨w.heap.size + 1, 2, none⟩ (.bool x.busy)).setCell ⟨w.heap.size + 1, 3, none⟩ (.slice r1 rn r3)).setCell ⟨w.heap.size + 1, 4, none⟩ (.int .i64 (x.a : Nat))).setCell ⟨w.heap.size + 1, 5, none⟩ (.int .i64 x.wr)).setCell ⟨w.heap.size + 1, 6, none⟩ (.int .i64 x.rd)) := ⟨_, rfl⟩
      rw [← hWF] at eF fF ⊢
      clear hWF
      have eG : WF.heap[w.heap.size + 1]? = some (.cells #[.int .i64 (x.c : Nat), .slice s1 n s3, .bool x.busy, .slice r1 rn r3, .int .i64 (x.a : Nat), .int .i64 x.wr, .int .i64 x.rd] 31 (0, 0)) := by simpa using eF
      have zz0 := cells_cell (o := 0) eG rfl
      have zz1 := cells_cell (o := 1) eG rfl
      have zz2 := cells_cell (o := 2) eG rfl
      have zz3 := cells_cell (o := 3) eG rfl
      have zz4 := cells_cell (o := 4) eG rfl
      have zz5 := cells_cell (o := 5) eG rfl
      have zz6 := cells_cell (o := 6) eG rfl
      refine bodyPost_ret (v := .tuple #[.agg #[.int .i64 (x.c : Nat), .slice s1 n s3, .bool x.busy, .slice r1 rn r3, .int .i64 (x.a : Nat), .int .i64 x.wr, .int .i64 x.rd], .int .i64 x.rd]) (by simp [results, Try.results43, go_sem, zz0, zz1, zz2, zz3, zz4, zz5, zz6]) rfl ?_
      have hbF := HBV.out.trans (fF.below (B := w.heap.size) (by simp) HBV.out.size)
      exact ⟨_, rfl, ⟨_, _, rfl, HSP.out.grown hbF, HRP.out.grown hbF⟩, hbF⟩
  · rw [if_pos hwr]
    have t1 : (x.wr != 0) = true := by simp [hwr]
    clear hwr
    go_enter Try.func43, Try.ntmps43
    go_upto_region 1 with fail
    rw [HW.out]
    go_wp2_with fail
    have eF := (cells_set (cells_set (cells_set (cells_set (cells_set (cells_set (cells_set HR0.out 0 (.int .i64 (x.c : Nat))) 1 (.slice s1 n s3)) 2 (.bool x.busy)) 3 (.slice r1 rn r3)) 4 (.int .i64 (x.a : Nat))) 5 (.int .i64 x.wr)) 6 (.int .i64 x.rd))
    have fF : Fr [w.heap.size, w.heap.size + 1] W (((((((W.setCell ⟨w.heap.size + 1, 0, none⟩ (.int .i64 (x.c : Nat))).setCell ⟨w.heap.size + 1, 1, none⟩ (.slice s1 n s3)).setCell ⟨w.heap.size + 1, 2, none⟩ (.bool x.busy)).setCell ⟨w.heap.size + 1, 3, none⟩ (.slice r1 rn r3)).setCell ⟨w.heap.size + 1, 4, none⟩ (.int .i64 (x.a : Nat))).setCell ⟨w.heap.size + 1, 5, none⟩ (.int .i64 x.wr)).setCell ⟨w.heap.size + 1, 6, none⟩ (.int .i64 x.rd)) := ((((((((Fr.refl [w.heap.size, w.heap.size + 1] W).trans' ((fr_setCell _ ⟨w.heap.size + 1, 0, none⟩ (.int .i64 (x.c : Nat))).mono (by simp))).trans' ((fr_setCell _ ⟨w.heap.size + 1, 1, none⟩ (.slice s1 n s3)).mono (by simp))).trans' ((fr_setCell _ ⟨w.heap.size + 1, 2, none⟩ (.bool x.busy)).mono (by simp))).trans' ((fr_setCell _ ⟨w.heap.size + 1, 3, none⟩ (.slice r1 rn r3)).mono (by simp))).trans' ((fr_setCell _ ⟨w.heap.size + 1, 4, none⟩ (.int .i64 (x.a : Nat))).mono (by simp))).trans' ((fr_setCell _ ⟨w.heap.size + 1, 5, none⟩ (.int .i64 x.wr)).mono (by simp))).trans' ((fr_setCell _ ⟨w.heap.size + 1, 6, none⟩ (.int .i64 x.rd)).mono (by simp)))
    obtain ⟨WF, hWF⟩ : ∃ WF, WF = (((((((W.setCell ⟨w.heap.size + 1, 0, none⟩ (.int .i64 (x.c : Nat))).setCell ⟨w.heap.size + 1, 1, none⟩ (.slice s1 n s3)).setCell ⟨w.heap.size + 1, 2, none⟩ (.bool x.busy)).setCell ⟨w.heap.size + 1, 3, none⟩ (.slice r1 rn r3)).setCell ⟨w.heap.size + 1, 4, none⟩ (.int .i64 (x.a : Nat))).setCell ⟨w.heap.size + 1, 5, none⟩ (.int .i64 x.wr)).setCell ⟨w.heap.size + 1, 6, none⟩ (.int .i64 x.rd)) := ⟨_, rfl⟩
    rw [← hWF] at eF fF ⊢
    clear hWF
    have eG : WF.heap[w.heap.size + 1]? = some (.cells #[.int .i64 (x.c : Nat), .slice s1 n s3, .bool x.busy, .slice r1 rn r3, .int .i64 (x.a : Nat), .int .i64 x.wr, .int .i64 x.rd] 31 (0, 0)) := by simpa using eF
    have zz0 := cells_cell (o := 0) eG rfl
    have zz1 := cells_cell (o := 1) eG rfl
    have zz2 := cells_cell (o := 2) eG rfl
    have zz3 := cells_cell (o := 3) eG rfl
    have zz4 := cells_cell (o := 4) eG rfl
    have zz5 := cells_cell (o := 5) eG rfl
    have zz6 := cells_cell (o := 6) eG rfl
    refine bodyPost_ret (v := .tuple #[.agg #[.int .i64 (x.c : Nat), .slice s1 n s3, .bool x.busy, .slice r1 rn r3, .int .i64 (x.a : Nat), .int .i64 x.wr, .int .i64 x.rd], .int .i64 14]) (by simp [results, Try.results43, go_sem, zz0, zz1, zz2, zz3, zz4, zz5, zz6]) rfl ?_
    have hbF := HB.out.trans (fF.below (B := w.heap.size) (by simp) HB.out.size)
    exact ⟨_, rfl, ⟨_, _, rfl, HSP.out.grown hbF, HRP.out.grown hbF⟩, hbF⟩
end
end Go.Proofs.Yteimjkmjofaieaa
