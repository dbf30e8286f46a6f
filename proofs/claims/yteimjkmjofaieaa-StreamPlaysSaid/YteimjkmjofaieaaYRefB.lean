/- The reference's fill. -/
import Derived.Test.YteimjkmjofaieaaYRefA
namespace Go.Proofs.Yteimjkmjofaieaa
open Go.RowKit Go.Sort
set_option linter.unusedVariables false
set_option linter.unusedSimpArgs false
set_option maxRecDepth 100000
section
variable {P : Nat → Prop} {w : World} {v : Value} {x : St}
set_option maxHeartbeats 6400000 in
theorem sfFill_any {Q : Nat → Prop} (h : SvP Q w v x.rw) (hP : ∀ g, w.heap.size ≤ g → P g) (h1 : x.c ≤ 4096) (h2 : x.S.length ≤ x.c) (h3 : x.busy = false → x.R = []) (h5 : x.a + x.R.length ≤ 65536) :
    Calls Try.prog 74 #[v] w fun e w' => ∃ v', e = .returned v' ∧ SvP P w' v' x.fill.rw ∧ Below w.heap.size w w' := by
  obtain ⟨vS, vR, rfl, hS', hR'⟩ := h
  have hS : SrcP Q w vS x.S := hS'
  have hR : SrcP Q w vR x.R := hR'
  clear hS' hR'
  obtain ⟨s1, s3, rfl, -, -⟩ := hS.1.form
  obtain ⟨r1, r3, rfl, -, -⟩ := hR.1.form
  simp only [List.length_map] at *
  have hcp := sfCopy_any (w := (w.alloc (.cells #[.int .i64 (x.c : Nat), .slice s1 x.S.length s3, .bool x.busy, .slice r1 x.R.length r3, .int .i64 (x.a : Nat), .int .i64 x.wr, .int .i64 x.rd] 31)).alloc (.cells #[.int .i64 0, .slice none 0 0, .bool false, .slice none 0 0, .int .i64 0, .int .i64 0, .int .i64 0] 31)) (r := x.rw) (hS.1.grown ((below_alloc _ _).trans ((below_alloc _ _).mono (by simp)))) (hR.1.grown ((below_alloc _ _).trans ((below_alloc _ _).mono (by simp)))) (by show x.S.length ≤ _; omega) (by show x.R.length ≤ _; omega)
  obtain ⟨n, hn⟩ : ∃ n, n = x.S.length := ⟨_, rfl⟩
  obtain ⟨rn, hrn⟩ : ∃ n, n = x.R.length := ⟨_, rfl⟩
  rw [← hrn] at h5
  rw [← hn] at h2
  have hval : x.rw.val (.slice s1 x.S.length s3) (.slice r1 x.R.length r3) = .agg #[.int .i64 (x.c : Nat), .slice s1 n s3, .bool x.busy, .slice r1 rn r3, .int .i64 (x.a : Nat), .int .i64 x.wr, .int .i64 x.rd] := by rw [hn, hrn]; rfl
  rw [hval] at hcp ⊢
  simp only [← hn, ← hrn] at hcp
  obtain ⟨W, hW⟩ : ∃ W, W = (w.alloc (.cells #[.int .i64 (x.c : Nat), .slice s1 n s3, .bool x.busy, .slice r1 rn r3, .int .i64 (x.a : Nat), .int .i64 x.wr, .int .i64 x.rd] 31)).alloc (.cells #[.int .i64 0, .slice none 0 0, .bool false, .slice none 0 0, .int .i64 0, .int .i64 0, .int .i64 0] 31) := ⟨_, rfl⟩
  have hb : Below w.heap.size w W := by rw [hW]; exact (below_alloc _ _).trans ((below_alloc _ _).mono (by simp))
  have hX0 : W.heap[w.heap.size]? = some (.cells #[.int .i64 (x.c : Nat), .slice s1 n s3, .bool x.busy, .slice r1 rn r3, .int .i64 (x.a : Nat), .int .i64 x.wr, .int .i64 x.rd] 31 (0, 0)) := by rw [hW]; exact ((below_alloc _ _).block w.heap.size (by simp)).trans (heap_alloc_new w _)
  have hR0 : W.heap[w.heap.size + 1]? = some (.cells #[.int .i64 0, .slice none 0 0, .bool false, .slice none 0 0, .int .i64 0, .int .i64 0, .int .i64 0] 31 (0, 0)) := by rw [hW]; exact block_new _ _ _ (by simp)
  rw [← hW] at hcp
  have HCP := Lib.hid hcp
  have HR0 := Lib.hid hR0
  have HX0 := Lib.hid hX0
  have HB := Lib.hid hb
  have HW := Lib.hid hW.symm
  have HN := Lib.hid (And.intro hn hrn)
  have HH := Lib.hid (And.intro h1 (And.intro h2 h5))
  have HI := Lib.hid h3
  have HP := Lib.hid hP
  have k0 := cells_cell (o := 0) hX0 rfl
  have k1 := cells_cell (o := 1) hX0 rfl
  have k2 := cells_cell (o := 2) hX0 rfl
  have k3 := cells_cell (o := 3) hX0 rfl
  have k4 := cells_cell (o := 4) hX0 rfl
  have k5 := cells_cell (o := 5) hX0 rfl
  have k6 := cells_cell (o := 6) hX0 rfl
  clear hW hb hX0 hR0 hval hn hrn hS hR h1 h2 h3 h5 hcp hP
  go_enter Try.func74, Try.ntmps74
  go_upto_region 1 with fail
  rw [HW.out]
  go_wp2_with (go_at_call 14; fail)
  refine HCP.out.mono ?_
  rintro e w2 ⟨uS, uR, mid, rfl, hrS, hdj, hmid, hrR, hb2⟩
  obtain ⟨p1, p3, hpS, hp3⟩ : ∃ a c, uS = .slice a n c ∧ True := by
    obtain ⟨a, c, e, _⟩ := hrS.form
    exact ⟨a, c, by rw [e, HN.out.1]; rfl, trivial⟩
  subst hpS
  obtain ⟨q1, q3, hqR, hq3⟩ : ∃ a c, uR = .slice a rn c ∧ True := by
    obtain ⟨a, c, e, _⟩ := hrR.form
    exact ⟨a, c, by rw [e, HN.out.2]; rfl, trivial⟩
  subst hqR
  have hX2 := (hb2.block _ (lt_of_block HX0.out)).trans HX0.out
  have hR2 := (hb2.block _ (lt_of_block HR0.out)).trans HR0.out
  have HX2 := Lib.hid hX2
  have HR2 := Lib.hid hR2
  have HB2 := Lib.hid hb2
  have HRS := Lib.hid hrS
  have HRR := Lib.hid hrR
  have HDJ := Lib.hid hdj
  have HMID := Lib.hid hmid
  have j0 := cells_cell (o := 0) hX2 rfl
  have j1 := cells_cell (o := 1) hX2 rfl
  have j2 := cells_cell (o := 2) hX2 rfl
  have j3 := cells_cell (o := 3) hX2 rfl
  have j4 := cells_cell (o := 4) hX2 rfl
  have j5 := cells_cell (o := 5) hX2 rfl
  have j6 := cells_cell (o := 6) hX2 rfl
  have y0 := cells_free hX2 0
  have y1 := cells_free hX2 1
  have y2 := cells_free hX2 2
  have y3 := cells_free hX2 3
  have y4 := cells_free hX2 4
  have y5 := cells_free hX2 5
  have y6 := cells_free hX2 6
  have hl2 := lt_of_block hX2
  clear hb2 hX2 hR2 hrS hrR hdj hmid hp3 hq3 k0 k1 k2 k3 k4 k5 k6
  unfold Rw.val St.rw
  go_wp2_with fail
  have eX := (cells_set (cells_set (cells_set (cells_set (cells_set (cells_set (cells_set HX2.out 0 (.int .i64 (x.c : Nat))) 1 (.slice p1 n p3)) 2 (.bool x.busy)) 3 (.slice q1 rn q3)) 4 (.int .i64 (x.a : Nat))) 5 (.int .i64 x.wr)) 6 (.int .i64 x.rd))
  have fX : Fr [w.heap.size] w2 (((((((w2.setCell ⟨w.heap.size, 0, none⟩ (.int .i64 (x.c : Nat))).setCell ⟨w.heap.size, 1, none⟩ (.slice p1 n p3)).setCell ⟨w.heap.size, 2, none⟩ (.bool x.busy)).setCell ⟨w.heap.size, 3, none⟩ (.slice q1 rn q3)).setCell ⟨w.heap.size, 4, none⟩ (.int .i64 (x.a : Nat))).setCell ⟨w.heap.size, 5, none⟩ (.int .i64 x.wr)).setCell ⟨w.heap.size, 6, none⟩ (.int .i64 x.rd)) := ((((((((Fr.refl [w.heap.size] w2).trans' ((fr_setCell _ ⟨w.heap.size, 0, none⟩ (.int .i64 (x.c : Nat))).mono (by simp))).trans' ((fr_setCell _ ⟨w.heap.size, 1, none⟩ (.slice p1 n p3)).mono (by simp))).trans' ((fr_setCell _ ⟨w.heap.size, 2, none⟩ (.bool x.busy)).mono (by simp))).trans' ((fr_setCell _ ⟨w.heap.size, 3, none⟩ (.slice q1 rn q3)).mono (by simp))).trans' ((fr_setCell _ ⟨w.heap.size, 4, none⟩ (.int .i64 (x.a : Nat))).mono (by simp))).trans' ((fr_setCell _ ⟨w.heap.size, 5, none⟩ (.int .i64 x.wr)).mono (by simp))).trans' ((fr_setCell _ ⟨w.heap.size, 6, none⟩ (.int .i64 x.rd)).mono (by simp)))
  obtain ⟨W3, hW3⟩ : ∃ W3, W3 = (((((((w2.setCell ⟨w.heap.size, 0, none⟩ (.int .i64 (x.c : Nat))).setCell ⟨w.heap.size, 1, none⟩ (.slice p1 n p3)).setCell ⟨w.heap.size, 2, none⟩ (.bool x.busy)).setCell ⟨w.heap.size, 3, none⟩ (.slice q1 rn q3)).setCell ⟨w.heap.size, 4, none⟩ (.int .i64 (x.a : Nat))).setCell ⟨w.heap.size, 5, none⟩ (.int .i64 x.wr)).setCell ⟨w.heap.size, 6, none⟩ (.int .i64 x.rd)) := ⟨_, rfl⟩
  rw [← hW3] at eX fX ⊢
  clear hW3
  have hX3 : W3.heap[w.heap.size]? = some (.cells #[.int .i64 (x.c : Nat), .slice p1 n p3, .bool x.busy, .slice q1 rn q3, .int .i64 (x.a : Nat), .int .i64 x.wr, .int .i64 x.rd] 31 (0, 0)) := by simpa using eX
  have hR3 := fX.same HR2.out (by simp)
  have hS3 : RowB W3 W.heap.size (.slice p1 n p3) x.S := fX.row HRS.out (fun g hg hm => by have := (HRS.out.lt g hg).1; have := lt_of_block HX0.out; simp only [List.mem_singleton] at hm; omega)
  have hT3 : RowB W3 mid (.slice q1 rn q3) x.R := fX.row HRR.out (fun g hg hm => by have := (HRR.out.lt g hg).1; have := lt_of_block HX0.out; have := HMID.out; simp only [List.mem_singleton] at hm; omega)
  obtain ⟨g, hpg, hgo⟩ := RowB.pieceG hT3 w.heap.size
  have hc3 : Below w.heap.size w W3 := (HB.out.trans (HB2.out.mono HB.out.size)).trans (fX.below (by simp) (by have := HB.out.size; have := HB2.out.size; omega))
  have hgd : ∀ g', (Value.slice p1 n p3).ownBlock = some g' → g' ≠ g := fun g' hg' => by
    have h1 := HDJ.out g' hg'
    have h2 := (HRS.out.lt g' hg').1
    have h3 := lt_of_block HX0.out
    rcases hgo with hgo | hgo <;> omega
  have hgw : w.heap.size ≤ g := by
    have h3 := lt_of_block HX0.out
    have := HMID.out
    rcases hgo with hgo | hgo <;> omega
  have HGW := Lib.hid hgw
  have HC3 := Lib.hid hc3
  have HWS : Hid (w.heap.size < W.heap.size ∧ w.heap.size + 1 < W.heap.size) := Lib.hid ⟨lt_of_block HX0.out, lt_of_block HR0.out⟩
  obtain ⟨N, hN⟩ : ∃ N, N = x.n := ⟨_, rfl⟩
  have HNN := Lib.hid hN
  have H0 : Hid (W3.heap[w.heap.size]? = some (.cells #[.int .i64 (x.c : Nat), .slice p1 n p3, .bool x.busy, .slice q1 rn q3, .int .i64 (x.a : Nat), .int .i64 x.wr, .int .i64 x.rd] 31 (0, 0)) ∧ W3.heap[w.heap.size + 1]? = some (.cells #[.int .i64 0, .slice none 0 0, .bool false, .slice none 0 0, .int .i64 0, .int .i64 0, .int .i64 0] 31 (0, 0)) ∧ RowB W3 W.heap.size (.slice p1 n p3) x.S ∧ PieceG W3 (.slice q1 rn q3) x.R g ∧ (∀ g', (Value.slice p1 n p3).ownBlock = some g' → g' ≠ g)) := Lib.hid ⟨hX3, hR3, hS3, hpg, hgd⟩
  have HSZ3 : Hid (W.heap.size ≤ W3.heap.size) := Lib.hid (by have := fX.size; have := HB2.out.size; omega)
  clear eX fX hX3 hR3 hS3 hT3 hpg hgo hc3 hgd hgw hN j0 j1 j2 j3 j4 j5 j6 y0 y1 y2 y3 y4 y5 y6 hl2
  have HWSZ : Hid (W.heap.size ≤ W3.heap.size) := Lib.hid HSZ3.out
  go_loopg [] N (fun m wr => ∃ j p1 p3 q1 q3, m = N - j ∧ j ≤ N ∧ Hid (wr.heap[w.heap.size]? = some (.cells #[.int .i64 (x.c : Nat), .slice p1 (n + j) p3, .bool x.busy, .slice q1 (rn - j) q3, .int .i64 ((x.a + j : Nat) : Int), .int .i64 x.wr, .int .i64 x.rd] 31 (0, 0)) ∧ wr.heap[w.heap.size + 1]? = some (.cells #[.int .i64 0, .slice none 0 0, .bool false, .slice none 0 0, .int .i64 0, .int .i64 0, .int .i64 0] 31 (0, 0)) ∧ RowB wr W.heap.size (.slice p1 (n + j) p3) (x.S ++ x.R.take j) ∧ PieceG wr (.slice q1 (rn - j) q3) (x.R.drop j) g ∧ (∀ g', (Value.slice p1 (n + j) p3).ownBlock = some g' → g' ≠ g)) ∧ Hid (Below w.heap.size w wr) ∧ Hid (W.heap.size ≤ wr.heap.size))
  case atStart => exact ⟨0, p1, p3, q1, q3, by simp, Nat.zero_le _, by simpa using H0, HC3, HWSZ⟩
  case round =>
    obtain ⟨j, p1, p3, q1, q3, hm, hjN, HQ, HC, HWZ⟩ := hrel
    subst hm
    obtain ⟨sj, hsj⟩ : ∃ s, s = n + j := ⟨_, rfl⟩
    obtain ⟨rj, hrj⟩ : ∃ s, s = rn - j := ⟨_, rfl⟩
    obtain ⟨aj, haj⟩ : ∃ s, s = x.a + j := ⟨_, rfl⟩
    have hq := HQ.out
    rw [← hsj, ← hrj, ← haj] at hq
    obtain ⟨hqX, hqR, hqS, hqP, hqD⟩ := hq
    have HJ := Lib.hid (And.intro hsj (And.intro hrj (And.intro haj hjN)))
    have HQX := Lib.hid hqX
    have HQR := Lib.hid hqR
    have HQS := Lib.hid hqS
    have HQP := Lib.hid hqP
    have HQD := Lib.hid hqD
    have k0 := cells_cell (o := 0) hqX rfl
    have k1 := cells_cell (o := 1) hqX rfl
    have k2 := cells_cell (o := 2) hqX rfl
    have k3 := cells_cell (o := 3) hqX rfl
    have k4 := cells_cell (o := 4) hqX rfl
    have k5 := cells_cell (o := 5) hqX rfl
    have k6 := cells_cell (o := 6) hqX rfl
    have HO := Lib.hid (fun W => sfOpen_any W (x.c : Nat) p1 sj p3 x.busy q1 rj q3 (aj : Nat) x.wr x.rd)
    have HRJ : Hid (rn = x.R.length) := Lib.hid HN.out.2
    have HC' := HC
    clear HQ hqS hqP hqD hsj hrj haj hjN
    obtain hbz | hbz : x.busy = false ∨ x.busy = true := by cases x.busy <;> simp
    ·
      rw [hbz] at k2 hqX
      have HBZ := Lib.hid hbz
      have HJN : Hid (j = N) := Lib.hid (by
        have h1 := HI.out hbz
        have h2 := HJ.out
        have h3 : N = 0 := by rw [HNN.out]; unfold St.n; split <;> simp [h1]
        omega)
      clear hbz
      have m0 := cells_cell (o := 0) hqX rfl
      have m1 := cells_cell (o := 1) hqX rfl
      have m2 := cells_cell (o := 2) hqX rfl
      have m3 := cells_cell (o := 3) hqX rfl
      have m4 := cells_cell (o := 4) hqX rfl
      have m5 := cells_cell (o := 5) hqX rfl
      have m6 := cells_cell (o := 6) hqX rfl
      have o0 := cells_cell (o := 0) hqR rfl
      have o1 := cells_cell (o := 1) hqR rfl
      have o2 := cells_cell (o := 2) hqR rfl
      have o3 := cells_cell (o := 3) hqR rfl
      have o4 := cells_cell (o := 4) hqR rfl
      have o5 := cells_cell (o := 5) hqR rfl
      have o6 := cells_cell (o := 6) hqR rfl
      have u0 := cells_free hqR 0
      have u1 := cells_free hqR 1
      have u2 := cells_free hqR 2
      have u3 := cells_free hqR 3
      have u4 := cells_free hqR 4
      have u5 := cells_free hqR 5
      have u6 := cells_free hqR 6
      have hlR := lt_of_block hqR
      have HXX := Lib.hid (And.intro hqX (And.intro hqR (And.intro HQS.out (And.intro HQP.out HC.out))))
      clear hqX hqR
      go_wp2_with fail
      have eF := (cells_set (cells_set (cells_set (cells_set (cells_set (cells_set (cells_set HXX.out.2.1 0 (.int .i64 (x.c : Nat))) 1 (.slice p1 sj p3)) 2 (.bool false)) 3 (.slice q1 rj q3)) 4 (.int .i64 (aj : Nat))) 5 (.int .i64 x.wr)) 6 (.int .i64 x.rd))
      have fF : Fr [w.heap.size + 1] wr (((((((wr.setCell ⟨w.heap.size + 1, 0, none⟩ (.int .i64 (x.c : Nat))).setCell ⟨w.heap.size + 1, 1, none⟩ (.slice p1 sj p3)).setCell ⟨w.heap.size + 1, 2, none⟩ (.bool false)).setCell ⟨w.heap.size + 1, 3, none⟩ (.slice q1 rj q3)).setCell ⟨w.heap.size + 1, 4, none⟩ (.int .i64 (aj : Nat))).setCell ⟨w.heap.size + 1, 5, none⟩ (.int .i64 x.wr)).setCell ⟨w.heap.size + 1, 6, none⟩ (.int .i64 x.rd)) := ((((((((Fr.refl [w.heap.size + 1] wr).trans' ((fr_setCell _ ⟨w.heap.size + 1, 0, none⟩ (.int .i64 (x.c : Nat))).mono (by simp))).trans' ((fr_setCell _ ⟨w.heap.size + 1, 1, none⟩ (.slice p1 sj p3)).mono (by simp))).trans' ((fr_setCell _ ⟨w.heap.size + 1, 2, none⟩ (.bool false)).mono (by simp))).trans' ((fr_setCell _ ⟨w.heap.size + 1, 3, none⟩ (.slice q1 rj q3)).mono (by simp))).trans' ((fr_setCell _ ⟨w.heap.size + 1, 4, none⟩ (.int .i64 (aj : Nat))).mono (by simp))).trans' ((fr_setCell _ ⟨w.heap.size + 1, 5, none⟩ (.int .i64 x.wr)).mono (by simp))).trans' ((fr_setCell _ ⟨w.heap.size + 1, 6, none⟩ (.int .i64 x.rd)).mono (by simp)))
      obtain ⟨WF, hWF⟩ : ∃ WF, WF = (((((((wr.setCell ⟨w.heap.size + 1, 0, none⟩ (.int .i64 (x.c : Nat))).setCell ⟨w.heap.size + 1, 1, none⟩ (.slice p1 sj p3)).setCell ⟨w.heap.size + 1, 2, none⟩ (.bool false)).setCell ⟨w.heap.size + 1, 3, none⟩ (.slice q1 rj q3)).setCell ⟨w.heap.size + 1, 4, none⟩ (.int .i64 (aj : Nat))).setCell ⟨w.heap.size + 1, 5, none⟩ (.int .i64 x.wr)).setCell ⟨w.heap.size + 1, 6, none⟩ (.int .i64 x.rd)) := ⟨_, rfl⟩
      rw [← hWF] at eF fF ⊢
      clear hWF
      have eG : WF.heap[w.heap.size + 1]? = some (.cells #[.int .i64 (x.c : Nat), .slice p1 sj p3, .bool false, .slice q1 rj q3, .int .i64 (aj : Nat), .int .i64 x.wr, .int .i64 x.rd] 31 (0, 0)) := by simpa using eF
      have zz0 := cells_cell (o := 0) eG rfl
      have zz1 := cells_cell (o := 1) eG rfl
      have zz2 := cells_cell (o := 2) eG rfl
      have zz3 := cells_cell (o := 3) eG rfl
      have zz4 := cells_cell (o := 4) eG rfl
      have zz5 := cells_cell (o := 5) eG rfl
      have zz6 := cells_cell (o := 6) eG rfl
      refine bodyPost_ret (v := .agg #[.int .i64 (x.c : Nat), .slice p1 sj p3, .bool false, .slice q1 rj q3, .int .i64 (aj : Nat), .int .i64 x.wr, .int .i64 x.rd]) (by simp [results, Try.results74, go_sem, zz0, zz1, zz2, zz3, zz4, zz5, zz6]) rfl ?_
      have hsz := HWS.out
      have hfill : x.fill = { x with S := x.S ++ x.R.take j, R := x.R.drop j, a := x.a + j } := by unfold St.fill; rw [← HNN.out, ← HJN.out]
      refine ⟨_, rfl, ⟨.slice p1 sj p3, .slice q1 rj q3, ?_, ?_, ?_⟩, HXX.out.2.2.2.2.trans (fF.below (by simp) HXX.out.2.2.2.2.size)⟩
      · rw [hfill, HJ.out.2.2.1, ← HBZ.out]; rfl
      · rw [hfill]
        exact RowB.srcP (fF.row HXX.out.2.2.1 (fun g hg hm => by have := (HXX.out.2.2.1.lt g hg).1; simp only [List.mem_singleton] at hm; omega)) (fun g hg => HP.out g (by omega))
      · rw [hfill]
        refine PieceG.srcP (HXX.out.2.2.2.1.off fF ?_) (HP.out g HGW.out)
        rcases HXX.out.2.2.2.1 with hh | ⟨_, _, _, _, _, _, h3, _⟩
        · exact .inl hh
        · exact .inr (by simpa using ne_types h3 HXX.out.2.1 (by decide))
    ·
      rw [hbz] at k2 HO
      have HBZ := Lib.hid hbz
      clear hbz
      by_cases hop : x.wr = 0 ∧ x.rd = 0
      · have hb' : decide (x.wr = 0 ∧ x.rd = 0) = true := by simp [hop]
        rw [hb'] at HO
        have HOP := Lib.hid hop
        by_cases hlt : j < N
        · have hNmin : N = min x.R.length (x.c - x.S.length) := by rw [HNN.out]; unfold St.n; rw [if_pos hop]
          have hrj0 : 0 < rj := by have := HJ.out; have := HN.out; omega
          have hsc : sj < x.c := by have := HJ.out; have := HN.out; omega
          have t1 : decide (0 < (rj : Int)) = true := by simp; omega
          have t2 : decide (0 < rj) = true := by simp; omega
          have t3 : decide ((sj : Int) < (x.c : Int)) = true := by simp; omega
          have t4 : decide (sj < x.c) = true := by simp; omega
          have t5 : (1 : Int) ≤ (rj : Int) := by omega
          have t6 : (0 : Int) < (rj : Int) := by omega
          have t7 : (aj : Int) ≤ 65536 := by have := HJ.out; have := HN.out; have := HH.out; omega
          have hjr : j < x.R.length := by have := HJ.out; have := HN.out; omega
          have hdr : x.R.drop j = x.R[j] :: x.R.drop (j + 1) := List.drop_eq_getElem_cons hjr
          have htk : x.R.take (j + 1) = x.R.take j ++ [x.R[j]] := List.take_succ_eq_append_getElem hjr
          generalize x.R[j] = b0 at hdr htk
          have hqp := HQP.out
          have hrest : PieceG wr (.slice q1 rj q3) (x.R.drop j) g := hqp
          rcases hqp with ⟨_, hnil⟩ | ⟨off, c', cur, hv, hp1, hp2, hp3, hp4⟩
          · rw [hdr] at hnil; cases hnil
          simp only [Value.slice.injEq] at hv
          obtain ⟨rfl, -, hc'⟩ := hv
          subst hc'
          have hbyte : wr.cell? ⟨g, off, none⟩ = some (.int .u8 ((b0.toNat : Nat) : Int)) := by
            have := cells_cell hp3 (hp4 0 (encB b0) (by rw [hdr]; rfl))
            simpa [encB] using this
          have hgl := lt_of_block hp3
          have hq3 : (rj : Int) ≤ (q3 : Int) := by
            have h1 : (x.R.drop j).length = rj := by rw [List.length_drop]; have := HJ.out; have := HN.out; omega
            omega
          have HDR := Lib.hid (And.intro hdr htk)
          have HRJ0 := Lib.hid hrj0
          have HG3 := Lib.hid hp3
          clear hb' hop hqX hqR hNmin hsc hjr hdr htk hp1 hp2 hp3 hp4 hrj0
          go_wp2_with (go_at_call 54; fail)
          refine (HO.out _).mono ?_
          rintro e w5 ⟨rfl, hb5⟩
          have hX5 := (hb5.block _ (lt_of_block HQX.out)).trans HQX.out
          have hR5 := (hb5.block _ (lt_of_block HQR.out)).trans HQR.out
          rw [HBZ.out] at hX5
          have hy5 := (hb5.cell (p := ⟨g, off, none⟩) hgl).trans hbyte
          have HX5 := Lib.hid hX5
          have HR5 := Lib.hid hR5
          have HY5 := Lib.hid hy5
          have HB5 := Lib.hid hb5
          have HS5 := Lib.hid (HQS.out.grown hb5)
          have HP5 := Lib.hid (hrest.grown hb5)
          have HC5 := Lib.hid (HC.out.trans (hb5.mono HC.out.size))
          have m0 := cells_cell (o := 0) hX5 rfl
          have m1 := cells_cell (o := 1) hX5 rfl
          have m2 := cells_cell (o := 2) hX5 rfl
          have m3 := cells_cell (o := 3) hX5 rfl
          have m4 := cells_cell (o := 4) hX5 rfl
          have m5 := cells_cell (o := 5) hX5 rfl
          have m6 := cells_cell (o := 6) hX5 rfl
          clear hb5 hX5 hR5 hy5 hbyte hrest k0 k1 k2 k3 k4 k5 k6
          go_wp2_with fail
          refine wp_region_mix (fun W' => W'.heap[w.heap.size]? = some (.cells #[.int .i64 (x.c : Nat), .slice p1 sj p3, .bool true, .slice (some ⟨g, off, none⟩) rj q3, .int .i64 (aj : Nat), .int .i64 x.wr, .int .i64 x.rd] 31 (0, 0)) ∧ W'.cell? ⟨g, off, none⟩ = some (.int .u8 ((b0.toNat : Nat) : Int))) 7 [(true, 0), (true, 1), (true, 2), (true, 3), (true, 4), (true, 5), (false, 6)] (by kernel_rfl) (by kernel_rfl) (fun _ _ _ d _ h => by cases d <;> exact h) ?_
          have HDW : Hid (Below w5.heap.size w5 w5.drew) := Lib.hid ((Grn.refl w5).drew 1).below
          have HT : Hid (w5.drew.heap[w.heap.size]? = some (.cells #[.int .i64 (x.c : Nat), .slice p1 sj p3, .bool true, .slice (some ⟨g, off, none⟩) rj q3, .int .i64 (aj : Nat), .int .i64 x.wr, .int .i64 x.rd] 31 (0, 0)) ∧ w5.drew.cell? ⟨g, off, none⟩ = some (.int .u8 ((b0.toNat : Nat) : Int))) := Lib.hid ⟨(HDW.out.block _ (lt_of_block HX5.out)).trans HX5.out, below_cells HDW.out _ _ HY5.out⟩
          simp only [List.map_cons, List.map_nil, List.getD_cons_zero, List.getD_cons_succ, List.drop_succ_cons, List.drop_zero]
          generalize w5.drew = V at *
          refine mix_take (.pointer (some ⟨w.heap.size, 1, none⟩)) HT.out rfl (fun W' hS => by go_simp) ?_
          simp only [Act.put, List.setIfInBounds_toArray, List.set_cons_zero, List.set_cons_succ]
          refine mix_take (.slice p1 sj p3) HT.out rfl (fun W' hS => by 
            have l0 := cells_cell (o := 1) hS.1 rfl
            go_simp) ?_
          simp only [Act.put, List.setIfInBounds_toArray, List.set_cons_zero, List.set_cons_succ]
          refine mix_take (.pointer (some ⟨w.heap.size, 3, none⟩)) HT.out rfl (fun W' hS => by go_simp) ?_
          simp only [Act.put, List.setIfInBounds_toArray, List.set_cons_zero, List.set_cons_succ]
          refine mix_take (.slice (some ⟨g, off, none⟩) rj q3) HT.out rfl (fun W' hS => by 
            have l0 := cells_cell (o := 3) hS.1 rfl
            go_simp) ?_
          simp only [Act.put, List.setIfInBounds_toArray, List.set_cons_zero, List.set_cons_succ]
          have hne : ¬ rj = 0 := Nat.ne_of_gt HRJ0.out
          refine mix_take (.pointer (some ⟨g, off, none⟩)) HT.out rfl (fun W' hS => by go_simp) ?_
          simp only [Act.put, List.setIfInBounds_toArray, List.set_cons_zero, List.set_cons_succ]
          refine mix_take (.int .u8 ((b0.toNat : Nat) : Int)) HT.out rfl (fun W' hS => by 
            have l0 := hS.2
            go_simp) ?_
          simp only [Act.put, List.setIfInBounds_toArray, List.set_cons_zero, List.set_cons_succ]
          refine mix_step rfl (fun K6 hK => ?_)
          go_simp
          have hv6 := below_alloc V (.cells #[.int .u8 ((b0.toNat : Nat) : Int)] 5)
          have HT6 : Hid ((V.alloc (.cells #[.int .u8 ((b0.toNat : Nat) : Int)] 5)).heap[w.heap.size]? = some (.cells #[.int .i64 (x.c : Nat), .slice p1 sj p3, .bool true, .slice (some ⟨g, off, none⟩) rj q3, .int .i64 (aj : Nat), .int .i64 x.wr, .int .i64 x.rd] 31 (0, 0)) ∧ (V.alloc (.cells #[.int .u8 ((b0.toNat : Nat) : Int)] 5)).cell? ⟨g, off, none⟩ = some (.int .u8 ((b0.toNat : Nat) : Int))) := Lib.hid ⟨(hv6.block _ (lt_of_block HT.out.1)).trans HT.out.1, below_cells hv6 _ _ HT.out.2⟩
          have hv5 : Below w5.heap.size w5 (V.alloc (.cells #[.int .u8 ((b0.toNat : Nat) : Int)] 5)) := HDW.out.trans (hv6.mono HDW.out.size)
          have HV5 := Lib.hid hv5
          have HS6 := Lib.hid (HS5.out.grown hv5)
          have HP6 := Lib.hid (HP5.out.grown hv5)
          have HR6 : Hid ((V.alloc (.cells #[.int .u8 ((b0.toNat : Nat) : Int)] 5)).heap[w.heap.size + 1]? = some (.cells #[.int .i64 0, .slice none 0 0, .bool false, .slice none 0 0, .int .i64 0, .int .i64 0, .int .i64 0] 31 (0, 0))) := Lib.hid ((hv5.block _ (lt_of_block HR5.out)).trans HR5.out)
          have HC6 : Hid (Below w.heap.size w (V.alloc (.cells #[.int .u8 ((b0.toNat : Nat) : Int)] 5))) := Lib.hid (HC5.out.trans (hv5.mono HC5.out.size))
          have HSRC : Hid (SrcV (V.alloc (.cells #[.int .u8 ((b0.toNat : Nat) : Int)] 5)) (.slice (some ⟨V.heap.size, 0, none⟩) 1 1) [.int .u8 ((b0.toNat : Nat) : Int)]) := Lib.hid (src_one V 5 (.int .u8 ((b0.toNat : Nat) : Int)))
          have hsz6 : W.heap.size ≤ (V.alloc (.cells #[.int .u8 ((b0.toNat : Nat) : Int)] 5)).heap.size := by
            have h1 := HV5.out.size
            have h2 := HB5.out.size
            have h3 := lt_of_block HQR.out
            have h4 := HWZ.out
            omega
          refine hK _ _ HT6.out ?_
          clear hK K6 hv6 hv5
          refine mix_nil ?_
          obtain ⟨V6, hV6⟩ : ∃ V6, V6 = V.alloc (.cells #[.int .u8 ((b0.toNat : Nat) : Int)] 5) := ⟨_, rfl⟩
          rw [← hV6] at HT6 HV5 HS6 HP6 HR6 HC6 HSRC hsz6 ⊢
          clear hV6
          go_wp2_with (at_builtin; refine wpList_append_v slcB (by decide) rfl (.tmp 26) (.tmp 31) rfl rfl rfl HS6.out hsz6 HSRC.out (by intro u hu; simp at hu; subst hu; rfl) (by have := HH.out; have := HJ.out; have := HN.out; simp; omega) ?_; intro v1 w7 ho7 hf7 hn7; refine Hid.out ?_)
          have hf7' : Fr (Value.slice p1 sj p3).ownBlock.toList V6 w7 := hf7
          have hn7' : Near V6 (.slice p1 sj p3) v1 := hn7
          have hown : ∀ i ∈ (Value.slice p1 sj p3).ownBlock.toList, W.heap.size ≤ i := fun i hi => (HS6.out.lt i (by simpa using hi)).1
          have e7 : (x.S ++ x.R.take (j + 1)).map encB = (x.S ++ x.R.take j).map encB ++ [.int .u8 ((b0.toNat : Nat) : Int)] := by rw [HDR.out.2]; simp [encB]
          have hr7 : RowB w7 W.heap.size v1 (x.S ++ x.R.take (j + 1)) := by
            show RowV w7 5 W.heap.size v1 ((x.S ++ x.R.take (j + 1)).map encB)
            rw [e7]; exact ho7
          have hX7 := hf7'.same HT6.out.1 (fun hi => by have h1 := hown _ hi; have h2 := HWS.out; omega)
          have hR7 := hf7'.same HR6.out (fun hi => by have h1 := hown _ hi; have h2 := HWS.out; omega)
          have hp7 : PieceG w7 (.slice (some ⟨g, off, none⟩) rj q3) (x.R.drop j) g := HP6.out.off hf7' (.inr (fun hi => HQD.out g (by simpa using hi) rfl))
          have hgl6 : g < V6.heap.size := by
            have h1 := lt_of_block HG3.out
            have h2 := HB5.out.size
            have h3 := HV5.out.size
            omega
          have hD7 : ∀ g', v1.ownBlock = some g' → g' ≠ g := fun g' hg' => by
            rcases hn7' g' hg' with hh | hh
            · exact HQD.out g' hh
            · omega
          have hC7 : Below w.heap.size w w7 := HC6.out.trans (hf7'.below (fun i hi => by have h1 := hown _ hi; have h2 := HWS.out; omega) HC6.out.size)
          have hsz7 : W.heap.size ≤ w7.heap.size := by have := hf7'.size; omega
          obtain ⟨a1, c1, hv1, -, -⟩ := hr7.form
          have hl1 : (x.S ++ x.R.take (j + 1)).length = sj + 1 := by have h1 := HJ.out; have h2 := HN.out; have h3 := HRJ0.out; simp only [List.length_append, List.length_take]; omega
          rw [hl1] at hv1
          subst hv1
          have hdd : (x.R.drop j).drop 1 = x.R.drop (j + 1) := by rw [List.drop_drop]
          have hjj : n + (j + 1) = sj + 1 ∧ rn - (j + 1) = rj - 1 ∧ x.a + (j + 1) = aj + 1 := by have h1 := HJ.out; omega
          have hld : (x.R.drop j).length = rj := by rw [List.length_drop]; have := HJ.out; have := HN.out; omega
          have HHX := Lib.hid hX7
          have HHR := Lib.hid hR7
          have HR7 := Lib.hid hr7
          have HP7 := Lib.hid hp7
          have HD7 := Lib.hid hD7
          have HC7 := Lib.hid hC7
          have HZ7 := Lib.hid hsz7
          have HJJ := Lib.hid hjj
          have HDD := Lib.hid (And.intro hdd hld)
          have g1 := cells_cell (o := 1) hX7 rfl
          have g3 := cells_cell (o := 3) hX7 rfl
          have g4 := cells_cell (o := 4) hX7 rfl
          have y1 := cells_free hX7 1
          have y3 := cells_free hX7 3
          have y4 := cells_free hX7 4
          have hl7 := lt_of_block hX7
          have t8 : IntKind.i64.wrap ((aj : Int) + 1) = (aj : Int) + 1 := IntWalk.i64_in _ (by omega)
          clear hf7 hf7' hn7 hn7' hown e7 hr7 hX7 hR7 hp7 hgl6 hD7 hC7 hsz7 hl1 hdd hjj hld ho7 hsz6
          have HEND : Hid (∀ e, e = (if 1 = q3 then off else off + 1) → ∀ WF, WF = (((w7.setCell ⟨w.heap.size, 1, none⟩ (.slice a1 (sj + 1) c1)).setCell ⟨w.heap.size, 3, none⟩ (.slice (some ⟨g, e, none⟩) (rj - 1) (q3 - 1))).setCell ⟨w.heap.size, 4, none⟩ (.int .i64 ((aj : Int) + 1))) → (WF.heap[w.heap.size]? = some (.cells #[.int .i64 (x.c : Nat), .slice a1 (n + (j + 1)) c1, .bool x.busy, .slice (some ⟨g, e, none⟩) (rn - (j + 1)) (q3 - 1), .int .i64 ((x.a + (j + 1) : Nat) : Int), .int .i64 x.wr, .int .i64 x.rd] 31 (0, 0)) ∧ WF.heap[w.heap.size + 1]? = some (.cells #[.int .i64 0, .slice none 0 0, .bool false, .slice none 0 0, .int .i64 0, .int .i64 0, .int .i64 0] 31 (0, 0)) ∧ RowB WF W.heap.size (.slice a1 (n + (j + 1)) c1) (x.S ++ x.R.take (j + 1)) ∧ PieceG WF (.slice (some ⟨g, e, none⟩) (rn - (j + 1)) (q3 - 1)) (x.R.drop (j + 1)) g ∧ (∀ g', (Value.slice a1 (n + (j + 1)) c1).ownBlock = some g' → g' ≠ g)) ∧ Below w.heap.size w WF ∧ W.heap.size ≤ WF.heap.size) := Lib.hid (fun e he WF hWF => by
            have eF := (cells_set (cells_set (cells_set HHX.out 1 (.slice a1 (sj + 1) c1)) 3 (.slice (some ⟨g, e, none⟩) (rj - 1) (q3 - 1))) 4 (.int .i64 ((aj : Int) + 1)))
            have fF : Fr [w.heap.size] w7 ((((w7.setCell ⟨w.heap.size, 1, none⟩ (.slice a1 (sj + 1) c1)).setCell ⟨w.heap.size, 3, none⟩ (.slice (some ⟨g, e, none⟩) (rj - 1) (q3 - 1))).setCell ⟨w.heap.size, 4, none⟩ (.int .i64 ((aj : Int) + 1)))) := ((((Fr.refl [w.heap.size] w7).trans' ((fr_setCell _ ⟨w.heap.size, 1, none⟩ (.slice a1 (sj + 1) c1)).mono (by simp))).trans' ((fr_setCell _ ⟨w.heap.size, 3, none⟩ (.slice (some ⟨g, e, none⟩) (rj - 1) (q3 - 1))).mono (by simp))).trans' ((fr_setCell _ ⟨w.heap.size, 4, none⟩ (.int .i64 ((aj : Int) + 1))).mono (by simp)))
            rw [← hWF] at eF fF
            rw [HJJ.out.1, HJJ.out.2.1, HJJ.out.2.2]
            have hwz := HWS.out
            refine ⟨⟨by rw [HBZ.out]; simpa using eF, fF.same HHR.out (by simp), fF.row HR7.out (fun g hg hm => by have := (HR7.out.lt g hg).1; simp only [List.mem_singleton] at hm; omega), ?_, HD7.out⟩, HC7.out.trans (fF.below (by simp) HC7.out.size), by have := fF.size; have := HZ7.out; omega⟩
            have hpr := HP7.out.rest (N := 1) (by rw [HDD.out.2]; exact HRJ0.out) e he
            rw [HDD.out.1] at hpr
            refine hpr.off fF ?_
            rcases hpr with hh | ⟨_, _, _, _, _, _, h3, _⟩
            · exact .inl hh
            · exact .inr (by simpa using ne_types h3 HHX.out (by decide)))
          refine Lib.hid ?_
          by_cases hc1 : q3 = 1
          · subst hc1
            have hrj1 : rj = 1 := by omega
            subst hrj1
            have he := HEND.out off (by simp) _ rfl
            simp only [Nat.sub_self] at he
            have HE := Lib.hid he
            clear he
            go_wp2_with fail
            go_roundg (N - (j + 1))
            case rel => exact ⟨j + 1, _, _, _, _, rfl, by have := HJ.out; omega, Lib.hid HE.out.1, Lib.hid HE.out.2.1, Lib.hid HE.out.2.2⟩
            case measure => omega
          · have hc2 : (1 : Int) < (q3 : Int) := by omega
            have HE := Lib.hid (HEND.out (off + 1) (by rw [if_neg (by omega)]) _ rfl)
            go_wp2_with fail
            go_roundg (N - (j + 1))
            case rel => exact ⟨j + 1, _, _, _, _, rfl, by have := HJ.out; omega, Lib.hid HE.out.1, Lib.hid HE.out.2.1, Lib.hid HE.out.2.2⟩
            case measure => omega
        · have HJN : Hid (j = N) := Lib.hid (by have := HJ.out; omega)
          have hNmin : N = min x.R.length (x.c - x.S.length) := by rw [HNN.out]; unfold St.n; rw [if_pos hop]
          by_cases hr0 : rj = 0
          · have t1 : decide (0 < (rj : Int)) = false := by simp [hr0]
            have t2 : decide (0 < rj) = false := by simp [hr0]
            clear hb' hop hqX hqR hlt hNmin hr0
            go_wp2_with (go_at_call 54; fail)
            refine (HO.out _).mono ?_
            rintro e w5 ⟨rfl, hb5⟩
            have hX5 := (hb5.block _ (lt_of_block HQX.out)).trans HQX.out
            have hR5 := (hb5.block _ (lt_of_block HQR.out)).trans HQR.out
            have HS5 := Lib.hid (HQS.out.grown hb5)
            have HP5 := Lib.hid (HQP.out.grown hb5)
            have HC5 := Lib.hid (HC.out.trans (hb5.mono HC.out.size))
            rw [HBZ.out] at hX5
            have m0 := cells_cell (o := 0) hX5 rfl
            have m1 := cells_cell (o := 1) hX5 rfl
            have m2 := cells_cell (o := 2) hX5 rfl
            have m3 := cells_cell (o := 3) hX5 rfl
            have m4 := cells_cell (o := 4) hX5 rfl
            have m5 := cells_cell (o := 5) hX5 rfl
            have m6 := cells_cell (o := 6) hX5 rfl
            have o0 := cells_cell (o := 0) hR5 rfl
            have o1 := cells_cell (o := 1) hR5 rfl
            have o2 := cells_cell (o := 2) hR5 rfl
            have o3 := cells_cell (o := 3) hR5 rfl
            have o4 := cells_cell (o := 4) hR5 rfl
            have o5 := cells_cell (o := 5) hR5 rfl
            have o6 := cells_cell (o := 6) hR5 rfl
            have u0 := cells_free hR5 0
            have u1 := cells_free hR5 1
            have u2 := cells_free hR5 2
            have u3 := cells_free hR5 3
            have u4 := cells_free hR5 4
            have u5 := cells_free hR5 5
            have u6 := cells_free hR5 6
            have hlR := lt_of_block hR5
            have HXX := Lib.hid (And.intro hX5 (And.intro hR5 (And.intro HS5.out (And.intro HP5.out HC5.out))))
            clear hX5 hR5 hb5
            go_wp2_with fail
            have eF := (cells_set (cells_set (cells_set (cells_set (cells_set (cells_set (cells_set HXX.out.2.1 0 (.int .i64 (x.c : Nat))) 1 (.slice p1 sj p3)) 2 (.bool true)) 3 (.slice q1 rj q3)) 4 (.int .i64 (aj : Nat))) 5 (.int .i64 x.wr)) 6 (.int .i64 x.rd))
            have fF : Fr [w.heap.size + 1] w5 (((((((w5.setCell ⟨w.heap.size + 1, 0, none⟩ (.int .i64 (x.c : Nat))).setCell ⟨w.heap.size + 1, 1, none⟩ (.slice p1 sj p3)).setCell ⟨w.heap.size + 1, 2, none⟩ (.bool true)).setCell ⟨w.heap.size + 1, 3, none⟩ (.slice q1 rj q3)).setCell ⟨w.heap.size + 1, 4, none⟩ (.int .i64 (aj : Nat))).setCell ⟨w.heap.size + 1, 5, none⟩ (.int .i64 x.wr)).setCell ⟨w.heap.size + 1, 6, none⟩ (.int .i64 x.rd)) := ((((((((Fr.refl [w.heap.size + 1] w5).trans' ((fr_setCell _ ⟨w.heap.size + 1, 0, none⟩ (.int .i64 (x.c : Nat))).mono (by simp))).trans' ((fr_setCell _ ⟨w.heap.size + 1, 1, none⟩ (.slice p1 sj p3)).mono (by simp))).trans' ((fr_setCell _ ⟨w.heap.size + 1, 2, none⟩ (.bool true)).mono (by simp))).trans' ((fr_setCell _ ⟨w.heap.size + 1, 3, none⟩ (.slice q1 rj q3)).mono (by simp))).trans' ((fr_setCell _ ⟨w.heap.size + 1, 4, none⟩ (.int .i64 (aj : Nat))).mono (by simp))).trans' ((fr_setCell _ ⟨w.heap.size + 1, 5, none⟩ (.int .i64 x.wr)).mono (by simp))).trans' ((fr_setCell _ ⟨w.heap.size + 1, 6, none⟩ (.int .i64 x.rd)).mono (by simp)))
            obtain ⟨WF, hWF⟩ : ∃ WF, WF = (((((((w5.setCell ⟨w.heap.size + 1, 0, none⟩ (.int .i64 (x.c : Nat))).setCell ⟨w.heap.size + 1, 1, none⟩ (.slice p1 sj p3)).setCell ⟨w.heap.size + 1, 2, none⟩ (.bool true)).setCell ⟨w.heap.size + 1, 3, none⟩ (.slice q1 rj q3)).setCell ⟨w.heap.size + 1, 4, none⟩ (.int .i64 (aj : Nat))).setCell ⟨w.heap.size + 1, 5, none⟩ (.int .i64 x.wr)).setCell ⟨w.heap.size + 1, 6, none⟩ (.int .i64 x.rd)) := ⟨_, rfl⟩
            rw [← hWF] at eF fF ⊢
            clear hWF
            have eG : WF.heap[w.heap.size + 1]? = some (.cells #[.int .i64 (x.c : Nat), .slice p1 sj p3, .bool true, .slice q1 rj q3, .int .i64 (aj : Nat), .int .i64 x.wr, .int .i64 x.rd] 31 (0, 0)) := by simpa using eF
            have zz0 := cells_cell (o := 0) eG rfl
            have zz1 := cells_cell (o := 1) eG rfl
            have zz2 := cells_cell (o := 2) eG rfl
            have zz3 := cells_cell (o := 3) eG rfl
            have zz4 := cells_cell (o := 4) eG rfl
            have zz5 := cells_cell (o := 5) eG rfl
            have zz6 := cells_cell (o := 6) eG rfl
            refine bodyPost_ret (v := .agg #[.int .i64 (x.c : Nat), .slice p1 sj p3, .bool true, .slice q1 rj q3, .int .i64 (aj : Nat), .int .i64 x.wr, .int .i64 x.rd]) (by simp [results, Try.results74, go_sem, zz0, zz1, zz2, zz3, zz4, zz5, zz6]) rfl ?_
            have hsz := HWS.out
            have hfill : x.fill = { x with S := x.S ++ x.R.take j, R := x.R.drop j, a := x.a + j } := by unfold St.fill; rw [← HNN.out, ← HJN.out]
            refine ⟨_, rfl, ⟨.slice p1 sj p3, .slice q1 rj q3, ?_, ?_, ?_⟩, HXX.out.2.2.2.2.trans (fF.below (by simp) HXX.out.2.2.2.2.size)⟩
            · rw [hfill, HJ.out.2.2.1, ← HBZ.out]; rfl
            · rw [hfill]
              exact RowB.srcP (fF.row HXX.out.2.2.1 (fun g hg hm => by have := (HXX.out.2.2.1.lt g hg).1; simp only [List.mem_singleton] at hm; omega)) (fun g hg => HP.out g (by omega))
            · rw [hfill]
              refine PieceG.srcP (HXX.out.2.2.2.1.off fF ?_) (HP.out g HGW.out)
              rcases HXX.out.2.2.2.1 with hh | ⟨_, _, _, _, _, _, h3, _⟩
              · exact .inl hh
              · exact .inr (by simpa using ne_types h3 HXX.out.2.1 (by decide))
          · have t1 : decide (0 < (rj : Int)) = true := by simp; omega
            have t2 : decide (0 < rj) = true := by simp; omega
            have hsc : sj = x.c := by have := HJ.out; have := HN.out; have := HH.out; have := HJN.out; omega
            have t3 : decide ((sj : Int) < (x.c : Int)) = false := by simp; omega
            have t4 : decide (sj < x.c) = false := by simp; omega
            clear hb' hop hqX hqR hlt hNmin hr0 hsc
            go_wp2_with (go_at_call 54; fail)
            refine (HO.out _).mono ?_
            rintro e w5 ⟨rfl, hb5⟩
            have hX5 := (hb5.block _ (lt_of_block HQX.out)).trans HQX.out
            have hR5 := (hb5.block _ (lt_of_block HQR.out)).trans HQR.out
            have HS5 := Lib.hid (HQS.out.grown hb5)
            have HP5 := Lib.hid (HQP.out.grown hb5)
            have HC5 := Lib.hid (HC.out.trans (hb5.mono HC.out.size))
            rw [HBZ.out] at hX5
            have m0 := cells_cell (o := 0) hX5 rfl
            have m1 := cells_cell (o := 1) hX5 rfl
            have m2 := cells_cell (o := 2) hX5 rfl
            have m3 := cells_cell (o := 3) hX5 rfl
            have m4 := cells_cell (o := 4) hX5 rfl
            have m5 := cells_cell (o := 5) hX5 rfl
            have m6 := cells_cell (o := 6) hX5 rfl
            have o0 := cells_cell (o := 0) hR5 rfl
            have o1 := cells_cell (o := 1) hR5 rfl
            have o2 := cells_cell (o := 2) hR5 rfl
            have o3 := cells_cell (o := 3) hR5 rfl
            have o4 := cells_cell (o := 4) hR5 rfl
            have o5 := cells_cell (o := 5) hR5 rfl
            have o6 := cells_cell (o := 6) hR5 rfl
            have u0 := cells_free hR5 0
            have u1 := cells_free hR5 1
            have u2 := cells_free hR5 2
            have u3 := cells_free hR5 3
            have u4 := cells_free hR5 4
            have u5 := cells_free hR5 5
            have u6 := cells_free hR5 6
            have hlR := lt_of_block hR5
            have HXX := Lib.hid (And.intro hX5 (And.intro hR5 (And.intro HS5.out (And.intro HP5.out HC5.out))))
            clear hX5 hR5 hb5
            go_wp2_with fail
            have eF := (cells_set (cells_set (cells_set (cells_set (cells_set (cells_set (cells_set HXX.out.2.1 0 (.int .i64 (x.c : Nat))) 1 (.slice p1 sj p3)) 2 (.bool true)) 3 (.slice q1 rj q3)) 4 (.int .i64 (aj : Nat))) 5 (.int .i64 x.wr)) 6 (.int .i64 x.rd))
            have fF : Fr [w.heap.size + 1] w5 (((((((w5.setCell ⟨w.heap.size + 1, 0, none⟩ (.int .i64 (x.c : Nat))).setCell ⟨w.heap.size + 1, 1, none⟩ (.slice p1 sj p3)).setCell ⟨w.heap.size + 1, 2, none⟩ (.bool true)).setCell ⟨w.heap.size + 1, 3, none⟩ (.slice q1 rj q3)).setCell ⟨w.heap.size + 1, 4, none⟩ (.int .i64 (aj : Nat))).setCell ⟨w.heap.size + 1, 5, none⟩ (.int .i64 x.wr)).setCell ⟨w.heap.size + 1, 6, none⟩ (.int .i64 x.rd)) := ((((((((Fr.refl [w.heap.size + 1] w5).trans' ((fr_setCell _ ⟨w.heap.size + 1, 0, none⟩ (.int .i64 (x.c : Nat))).mono (by simp))).trans' ((fr_setCell _ ⟨w.heap.size + 1, 1, none⟩ (.slice p1 sj p3)).mono (by simp))).trans' ((fr_setCell _ ⟨w.heap.size + 1, 2, none⟩ (.bool true)).mono (by simp))).trans' ((fr_setCell _ ⟨w.heap.size + 1, 3, none⟩ (.slice q1 rj q3)).mono (by simp))).trans' ((fr_setCell _ ⟨w.heap.size + 1, 4, none⟩ (.int .i64 (aj : Nat))).mono (by simp))).trans' ((fr_setCell _ ⟨w.heap.size + 1, 5, none⟩ (.int .i64 x.wr)).mono (by simp))).trans' ((fr_setCell _ ⟨w.heap.size + 1, 6, none⟩ (.int .i64 x.rd)).mono (by simp)))
            obtain ⟨WF, hWF⟩ : ∃ WF, WF = (((((((w5.setCell ⟨w.heap.size + 1, 0, none⟩ (.int .i64 (x.c : Nat))).setCell ⟨w.heap.size + 1, 1, none⟩ (.slice p1 sj p3)).setCell ⟨w.heap.size + 1, 2, none⟩ (.bool true)).setCell ⟨w.heap.size + 1, 3, none⟩ (.slice q1 rj q3)).setCell ⟨w.heap.size + 1, 4, none⟩ (.int .i64 (aj : Nat))).setCell ⟨w.heap.size + 1, 5, none⟩ (.int .i64 x.wr)).setCell ⟨w.heap.size + 1, 6, none⟩ (.int .i64 x.rd)) := ⟨_, rfl⟩
            rw [← hWF] at eF fF ⊢
            clear hWF
            have eG : WF.heap[w.heap.size + 1]? = some (.cells #[.int .i64 (x.c : Nat), .slice p1 sj p3, .bool true, .slice q1 rj q3, .int .i64 (aj : Nat), .int .i64 x.wr, .int .i64 x.rd] 31 (0, 0)) := by simpa using eF
            have zz0 := cells_cell (o := 0) eG rfl
            have zz1 := cells_cell (o := 1) eG rfl
            have zz2 := cells_cell (o := 2) eG rfl
            have zz3 := cells_cell (o := 3) eG rfl
            have zz4 := cells_cell (o := 4) eG rfl
            have zz5 := cells_cell (o := 5) eG rfl
            have zz6 := cells_cell (o := 6) eG rfl
            refine bodyPost_ret (v := .agg #[.int .i64 (x.c : Nat), .slice p1 sj p3, .bool true, .slice q1 rj q3, .int .i64 (aj : Nat), .int .i64 x.wr, .int .i64 x.rd]) (by simp [results, Try.results74, go_sem, zz0, zz1, zz2, zz3, zz4, zz5, zz6]) rfl ?_
            have hsz := HWS.out
            have hfill : x.fill = { x with S := x.S ++ x.R.take j, R := x.R.drop j, a := x.a + j } := by unfold St.fill; rw [← HNN.out, ← HJN.out]
            refine ⟨_, rfl, ⟨.slice p1 sj p3, .slice q1 rj q3, ?_, ?_, ?_⟩, HXX.out.2.2.2.2.trans (fF.below (by simp) HXX.out.2.2.2.2.size)⟩
            · rw [hfill, HJ.out.2.2.1, ← HBZ.out]; rfl
            · rw [hfill]
              exact RowB.srcP (fF.row HXX.out.2.2.1 (fun g hg hm => by have := (HXX.out.2.2.1.lt g hg).1; simp only [List.mem_singleton] at hm; omega)) (fun g hg => HP.out g (by omega))
            · rw [hfill]
              refine PieceG.srcP (HXX.out.2.2.2.1.off fF ?_) (HP.out g HGW.out)
              rcases HXX.out.2.2.2.1 with hh | ⟨_, _, _, _, _, _, h3, _⟩
              · exact .inl hh
              · exact .inr (by simpa using ne_types h3 HXX.out.2.1 (by decide))
      · have hb' : decide (x.wr = 0 ∧ x.rd = 0) = false := by simp only [decide_eq_false_iff_not]; exact hop
        rw [hb'] at HO
        have HJN : Hid (j = N) := Lib.hid (by
          have h2 := HJ.out
          have h3 : N = 0 := by rw [HNN.out]; unfold St.n; rw [if_neg hop]
          omega)
        clear hb' hop hqX hqR
        go_wp2_with (go_at_call 54; fail)
        refine (HO.out _).mono ?_
        rintro e w5 ⟨rfl, hb5⟩
        have hX5 := (hb5.block _ (lt_of_block HQX.out)).trans HQX.out
        have hR5 := (hb5.block _ (lt_of_block HQR.out)).trans HQR.out
        have HS5 := Lib.hid (HQS.out.grown hb5)
        have HP5 := Lib.hid (HQP.out.grown hb5)
        have HC5 := Lib.hid (HC.out.trans (hb5.mono HC.out.size))
        rw [HBZ.out] at hX5
        have m0 := cells_cell (o := 0) hX5 rfl
        have m1 := cells_cell (o := 1) hX5 rfl
        have m2 := cells_cell (o := 2) hX5 rfl
        have m3 := cells_cell (o := 3) hX5 rfl
        have m4 := cells_cell (o := 4) hX5 rfl
        have m5 := cells_cell (o := 5) hX5 rfl
        have m6 := cells_cell (o := 6) hX5 rfl
        have o0 := cells_cell (o := 0) hR5 rfl
        have o1 := cells_cell (o := 1) hR5 rfl
        have o2 := cells_cell (o := 2) hR5 rfl
        have o3 := cells_cell (o := 3) hR5 rfl
        have o4 := cells_cell (o := 4) hR5 rfl
        have o5 := cells_cell (o := 5) hR5 rfl
        have o6 := cells_cell (o := 6) hR5 rfl
        have u0 := cells_free hR5 0
        have u1 := cells_free hR5 1
        have u2 := cells_free hR5 2
        have u3 := cells_free hR5 3
        have u4 := cells_free hR5 4
        have u5 := cells_free hR5 5
        have u6 := cells_free hR5 6
        have hlR := lt_of_block hR5
        have HXX := Lib.hid (And.intro hX5 (And.intro hR5 (And.intro HS5.out (And.intro HP5.out HC5.out))))
        clear hX5 hR5 hb5
        go_wp2_with fail
        have eF := (cells_set (cells_set (cells_set (cells_set (cells_set (cells_set (cells_set HXX.out.2.1 0 (.int .i64 (x.c : Nat))) 1 (.slice p1 sj p3)) 2 (.bool true)) 3 (.slice q1 rj q3)) 4 (.int .i64 (aj : Nat))) 5 (.int .i64 x.wr)) 6 (.int .i64 x.rd))
        have fF : Fr [w.heap.size + 1] w5 (((((((w5.setCell ⟨w.heap.size + 1, 0, none⟩ (.int .i64 (x.c : Nat))).setCell ⟨w.heap.size + 1, 1, none⟩ (.slice p1 sj p3)).setCell ⟨w.heap.size + 1, 2, none⟩ (.bool true)).setCell ⟨w.heap.size + 1, 3, none⟩ (.slice q1 rj q3)).setCell ⟨w.heap.size + 1, 4, none⟩ (.int .i64 (aj : Nat))).setCell ⟨w.heap.size + 1, 5, none⟩ (.int .i64 x.wr)).setCell ⟨w.heap.size + 1, 6, none⟩ (.int .i64 x.rd)) := ((((((((Fr.refl [w.heap.size + 1] w5).trans' ((fr_setCell _ ⟨w.heap.size + 1, 0, none⟩ (.int .i64 (x.c : Nat))).mono (by simp))).trans' ((fr_setCell _ ⟨w.heap.size + 1, 1, none⟩ (.slice p1 sj p3)).mono (by simp))).trans' ((fr_setCell _ ⟨w.heap.size + 1, 2, none⟩ (.bool true)).mono (by simp))).trans' ((fr_setCell _ ⟨w.heap.size + 1, 3, none⟩ (.slice q1 rj q3)).mono (by simp))).trans' ((fr_setCell _ ⟨w.heap.size + 1, 4, none⟩ (.int .i64 (aj : Nat))).mono (by simp))).trans' ((fr_setCell _ ⟨w.heap.size + 1, 5, none⟩ (.int .i64 x.wr)).mono (by simp))).trans' ((fr_setCell _ ⟨w.heap.size + 1, 6, none⟩ (.int .i64 x.rd)).mono (by simp)))
        obtain ⟨WF, hWF⟩ : ∃ WF, WF = (((((((w5.setCell ⟨w.heap.size + 1, 0, none⟩ (.int .i64 (x.c : Nat))).setCell ⟨w.heap.size + 1, 1, none⟩ (.slice p1 sj p3)).setCell ⟨w.heap.size + 1, 2, none⟩ (.bool true)).setCell ⟨w.heap.size + 1, 3, none⟩ (.slice q1 rj q3)).setCell ⟨w.heap.size + 1, 4, none⟩ (.int .i64 (aj : Nat))).setCell ⟨w.heap.size + 1, 5, none⟩ (.int .i64 x.wr)).setCell ⟨w.heap.size + 1, 6, none⟩ (.int .i64 x.rd)) := ⟨_, rfl⟩
        rw [← hWF] at eF fF ⊢
        clear hWF
        have eG : WF.heap[w.heap.size + 1]? = some (.cells #[.int .i64 (x.c : Nat), .slice p1 sj p3, .bool true, .slice q1 rj q3, .int .i64 (aj : Nat), .int .i64 x.wr, .int .i64 x.rd] 31 (0, 0)) := by simpa using eF
        have zz0 := cells_cell (o := 0) eG rfl
        have zz1 := cells_cell (o := 1) eG rfl
        have zz2 := cells_cell (o := 2) eG rfl
        have zz3 := cells_cell (o := 3) eG rfl
        have zz4 := cells_cell (o := 4) eG rfl
        have zz5 := cells_cell (o := 5) eG rfl
        have zz6 := cells_cell (o := 6) eG rfl
        refine bodyPost_ret (v := .agg #[.int .i64 (x.c : Nat), .slice p1 sj p3, .bool true, .slice q1 rj q3, .int .i64 (aj : Nat), .int .i64 x.wr, .int .i64 x.rd]) (by simp [results, Try.results74, go_sem, zz0, zz1, zz2, zz3, zz4, zz5, zz6]) rfl ?_
        have hsz := HWS.out
        have hfill : x.fill = { x with S := x.S ++ x.R.take j, R := x.R.drop j, a := x.a + j } := by unfold St.fill; rw [← HNN.out, ← HJN.out]
        refine ⟨_, rfl, ⟨.slice p1 sj p3, .slice q1 rj q3, ?_, ?_, ?_⟩, HXX.out.2.2.2.2.trans (fF.below (by simp) HXX.out.2.2.2.2.size)⟩
        · rw [hfill, HJ.out.2.2.1, ← HBZ.out]; rfl
        · rw [hfill]
          exact RowB.srcP (fF.row HXX.out.2.2.1 (fun g hg hm => by have := (HXX.out.2.2.1.lt g hg).1; simp only [List.mem_singleton] at hm; omega)) (fun g hg => HP.out g (by omega))
        · rw [hfill]
          refine PieceG.srcP (HXX.out.2.2.2.1.off fF ?_) (HP.out g HGW.out)
          rcases HXX.out.2.2.2.1 with hh | ⟨_, _, _, _, _, _, h3, _⟩
          · exact .inl hh
          · exact .inr (by simpa using ne_types h3 HXX.out.2.1 (by decide))
end
end Go.Proofs.Yteimjkmjofaieaa
