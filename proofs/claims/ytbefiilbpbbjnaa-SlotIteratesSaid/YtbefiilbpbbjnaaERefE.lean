/- The reference: Open. -/
import Derived.Test.YtbefiilbpbbjnaaERefD
namespace Go.Proofs.Ytbefiilbpbbjnaa
open Go.RowKit Go.Sort
set_option linter.unusedVariables false
set_option linter.unusedSimpArgs false

theorem Row.form2 {α : Type} {T : GT α} {w : World} {b : Nat} {v : Value} {X : List α} (h : Row T w b v X) : ∃ a n c, v = .slice a n c ∧ n = X.length := by
  obtain ⟨a, c, hv, _⟩ := h.form
  exact ⟨a, _, c, hv, rfl⟩

theorem two_puts {w : World} {b1 b2 : Nat} {u0 u1 u2 u3 : Value} {t1 t2 : TypeId} (h1 : w.heap[b1]? = some (.cells #[u0, u1] t1 (0, 0))) (h2 : w.heap[b2]? = some (.cells #[u2, u3] t2 (0, 0))) (hne : b1 ≠ b2) (x0 x1 y0 y1 : Value) :
    ((((w.setCell ⟨b1, 0, none⟩ x0).setCell ⟨b1, 1, none⟩ x1).setCell ⟨b2, 0, none⟩ y0).setCell ⟨b2, 1, none⟩ y1).heap[b1]? = some (.cells #[x0, x1] t1 (0, 0)) ∧
    ((((w.setCell ⟨b1, 0, none⟩ x0).setCell ⟨b1, 1, none⟩ x1).setCell ⟨b2, 0, none⟩ y0).setCell ⟨b2, 1, none⟩ y1).heap[b2]? = some (.cells #[y0, y1] t2 (0, 0)) ∧
    Fr [b1, b2] w ((((w.setCell ⟨b1, 0, none⟩ x0).setCell ⟨b1, 1, none⟩ x1).setCell ⟨b2, 0, none⟩ y0).setCell ⟨b2, 1, none⟩ y1) := by
  have f1 := (fr_setCell w ⟨b1, 0, none⟩ x0).trans' (fr_setCell _ ⟨b1, 1, none⟩ x1)
  have k1 := cells_set (cells_set h1 0 x0) 1 x1
  have k2 := f1.same h2 (by simpa using hne.symm)
  have f2 := (fr_setCell ((w.setCell ⟨b1, 0, none⟩ x0).setCell ⟨b1, 1, none⟩ x1) ⟨b2, 0, none⟩ y0).trans' (fr_setCell _ ⟨b2, 1, none⟩ y1)
  have k3 := cells_set (cells_set k2 0 y0) 1 y1
  have k4 := f2.same k1 (by simpa using hne)
  refine ⟨by simpa using k4, by simpa using k3, (f1.mono fun y hy => .inl (by simp at hy; simp [hy])).trans' (f2.mono fun y hy => .inl (by simp at hy; simp [hy]))⟩

set_option maxRecDepth 100000 in
set_option maxHeartbeats 6400000 in
theorem refOpen_full {w : World} {v : Value} {m : Nat} {P : Tab} {L : Fds} (x : Int) (h : Src TF w v L) (hl : L.length ≤ 1000) (hR : Rel P L) (hm : P.length = m) (hm2 : m ≤ 128) (hf : free P = P.length) :
    Calls Try.prog 26 #[rt m v, .int .i64 x] w fun e w' => e = .returned (.tuple #[rt m v, .agg #[.int .i64 0, .int .i64 0], .int .i64 7]) ∧ Grn w w' := by
  obtain ⟨a, c, rfl, _, _⟩ := h.form
  obtain ⟨N, hN⟩ : ∃ N, N = L.length := ⟨_, rfl⟩
  have HN := Lib.hid hN
  rw [← hN] at h hl ⊢
  have HH := Lib.hid h
  have HR := Lib.hid hR
  have HM := Lib.hid (And.intro hm hf)
  obtain ⟨W, hW⟩ : ∃ W, ((w.alloc (.cells #[.int .i64 ((m : Nat) : Int), .slice a N c] 30)).alloc (.cells #[.int .i64 0, .slice none 0 0] 30)).alloc (.cells #[.int .i64 0, .int .i64 0] 34) = W := ⟨_, rfl⟩
  have hgW : Grn w W := by rw [← hW]; exact (((Grn.refl w).alloc _).alloc _).alloc _
  have HB0 : Hid (W.heap[w.heap.size]? = some (.cells #[.int .i64 ((m : Nat) : Int), .slice a N c] 30 (0, 0))) := Lib.hid (by rw [← hW]; exact (((Grn.refl _).alloc _).alloc _).below.block _ (by simp) |>.trans (block_new _ _ _ rfl))
  have HB1 : Hid (W.heap[w.heap.size + 1]? = some (.cells #[.int .i64 0, .slice none 0 0] 30 (0, 0))) := Lib.hid (by rw [← hW]; exact (below_alloc _ _).block _ (by simp) |>.trans (block_new _ _ _ (by simp)))
  have HB2 : Hid (W.heap[w.heap.size + 1 + 1]? = some (.cells #[.int .i64 0, .int .i64 0] 34 (0, 0))) := Lib.hid (by rw [← hW]; exact block_new _ _ _ (by simp))
  have HW := Lib.hid hW
  have HG := Lib.hid hgW
  have q1 : (m : Int) ≤ 128 := by omega
  have q2 : (N : Int) ≤ 1000 := by omega
  clear h hN hR hm hW hgW hf
  unfold rt at *
  go_enter Try.func26, Try.ntmps26
  go_wp2_with fail
  rw [HW.out]
  clear HW
  go_loopw [7] (fun i wr => ∃ k : Nat, k ≤ m ∧ i = .int .i64 ((k : Nat) : Int) ∧ Hid (Grn W wr)) (fun i _ => m - (intOf i).toNat)
  case atStart => exact ⟨0, Nat.zero_le _, rfl, Lib.hid (Grn.refl _)⟩
  case round =>
    obtain ⟨k, hk, rfl, HJ⟩ := hrel
    have k1 := (HJ.out.below.block _ (lt_of_block HB0.out)).trans HB0.out
    have e0 := cells_cell (o := 0) k1 rfl
    have e1 : wr.cell? ⟨w.heap.size, 1, none⟩ = some (.slice a N c) := cells_cell k1 rfl
    have e2 := lt_of_block k1
    have g2 : (0 : Int) ≤ (k : Int) := by omega
    clear k1
    by_cases hkm : k < m
    · have g1 : (k : Int) < (m : Int) := by omega
      obtain ⟨p, hp⟩ : ∃ p, P[k]? = some p := ⟨_, List.getElem?_eq_getElem (by rw [HM.out.1]; exact hkm)⟩
      have hpo : p.o = true := free_before (by rw [HM.out.2, HM.out.1]; exact hkm) hp
      have hsrc : Src TF wr (.slice a N c) L := (HH.out.grown HG.out.below).grown HJ.out.below
      have HAT := Lib.hid (ref_at (m := m) hsrc (by rw [← HN.out]; exact hl) HR.out hp)
      unfold rt at HAT
      have HPO := Lib.hid hpo
      clear hsrc hp hpo
      go_wp2_with (go_at_call 31; fail)
      refine HAT.out.mono ?_
      rintro e w2 ⟨⟨r, rfl, hr⟩, hg2⟩
      have HJ2 := Lib.hid (HJ.out.trans hg2)
      clear hg2 HJ HAT
      rcases hr with ⟨hpo, _⟩ | ⟨_, i, rfl, _⟩
      · rw [HPO.out] at hpo; cases hpo
      · have g3 : (0 : Int) ≤ (i : Int) := by omega
        go_wp2_with fail
        go_roundw
        case rel => exact ⟨k + 1, by omega, by go_num, HJ2⟩
        case measure => simp [intOf]; omega
    · obtain rfl : k = m := by omega
      have k2 := (HJ.out.below.block _ (lt_of_block HB1.out)).trans HB1.out
      have k3 := (HJ.out.below.block _ (lt_of_block HB2.out)).trans HB2.out
      have y0 := cells_cell (o := 0) k2 rfl
      have y1 : wr.cell? ⟨w.heap.size + 1, 1, none⟩ = some (.slice none 0 0) := cells_cell k2 rfl
      have z0 := cells_free k2 0
      have z1 := cells_free k2 1
      have hxl := lt_of_block k2
      have y2 : wr.cell? ⟨w.heap.size + 1 + 1, 0, none⟩ = some (.int .i64 0) := cells_cell k3 rfl
      have y3 : wr.cell? ⟨w.heap.size + 1 + 1, 1, none⟩ = some (.int .i64 0) := cells_cell k3 rfl
      have z2 := cells_free k3 0
      have z3 := cells_free k3 1
      have hxl3 := lt_of_block k3
      obtain ⟨P1, P2, PF⟩ := two_puts k2 k3 (by omega) (.int .i64 ((k : Nat) : Int)) (.slice a N c) (.int .i64 0) (.int .i64 0)
      have p0 := cells_cell (o := 0) P1 rfl
      have p1 := cells_cell (o := 1) P1 rfl
      have p2 := cells_cell (o := 0) P2 rfl
      have p3 := cells_cell (o := 1) P2 rfl
      have HPF := Lib.hid PF
      clear k2 k3 P1 P2 PF
      have HJG := Lib.hid (HG.out.trans HJ.out)
      clear HJ
      go_wp2_with fail
      refine bodyPost_ret (v := .tuple #[.agg #[.int .i64 ((k : Nat) : Int), .slice a N c], .agg #[.int .i64 0, .int .i64 0], .int .i64 7]) (by simp [results, Try.results26, go_sem, p0, p1, p2, p3]) rfl ⟨rfl, ?_⟩
      exact (((HJG.out.set _ _ (by simp)).set _ _ (by simp)).set _ _ (by simp; omega)).set _ _ (by simp; omega)

set_option maxRecDepth 100000 in
set_option maxHeartbeats 12800000 in
theorem refOpen_yes {w : World} {v : Value} {m n : Nat} {P : Tab} {L : Fds} {p : Pl} (x : Int) (h : Src TF w v L) (hl : L.length ≤ 1000) (hR : Rel P L) (hm : P.length = m) (hm2 : m ≤ 128) (hf : free P = n) (hp : P[n]? = some p) (hpo : p.o = false) :
    Calls Try.prog 26 #[rt m v, .int .i64 x] w fun e w' => ∃ v', e = .returned (.tuple #[rt m v', .agg #[.int .i64 ((n : Nat) : Int), .int .i64 ((p.g : Nat) : Int)], .int .i64 0]) ∧ Row TF w' w.heap.size v' (L ++ [⟨n, p.g, x, false⟩]) ∧ Below w.heap.size w w' := by
  obtain ⟨a, c, rfl, _, _⟩ := h.form
  obtain ⟨N, hN⟩ : ∃ N, N = L.length := ⟨_, rfl⟩
  have HN := Lib.hid hN
  rw [← hN] at h hl ⊢
  have HH := Lib.hid h
  have HR := Lib.hid hR
  have hnm : n < m := by have := (List.getElem?_eq_some_iff.1 hp).1; omega
  have HCT : Hid (cnt n L = p.g) := Lib.hid (by have := hR.ct n p hp; simp [hpo] at this; exact this)
  have HM := Lib.hid (And.intro hm hf)
  have HP := Lib.hid (And.intro hp hpo)
  obtain ⟨W, hW⟩ : ∃ W, ((w.alloc (.cells #[.int .i64 ((m : Nat) : Int), .slice a N c] 30)).alloc (.cells #[.int .i64 0, .slice none 0 0] 30)).alloc (.cells #[.int .i64 0, .int .i64 0] 34) = W := ⟨_, rfl⟩
  have hgW : Grn w W := by rw [← hW]; exact (((Grn.refl w).alloc _).alloc _).alloc _
  have HB0 : Hid (W.heap[w.heap.size]? = some (.cells #[.int .i64 ((m : Nat) : Int), .slice a N c] 30 (0, 0))) := Lib.hid (by rw [← hW]; exact (((Grn.refl _).alloc _).alloc _).below.block _ (by simp) |>.trans (block_new _ _ _ rfl))
  have HB1 : Hid (W.heap[w.heap.size + 1]? = some (.cells #[.int .i64 0, .slice none 0 0] 30 (0, 0))) := Lib.hid (by rw [← hW]; exact (below_alloc _ _).block _ (by simp) |>.trans (block_new _ _ _ (by simp)))
  have HB2 : Hid (W.heap[w.heap.size + 1 + 1]? = some (.cells #[.int .i64 0, .int .i64 0] 34 (0, 0))) := Lib.hid (by rw [← hW]; exact block_new _ _ _ (by simp))
  have HWS : Hid (W.heap.size = w.heap.size + 3) := Lib.hid (by rw [← hW]; simp)
  have HW := Lib.hid hW
  have HG := Lib.hid hgW
  have q1 : (m : Int) ≤ 128 := by omega
  have q2 : (N : Int) ≤ 1000 := by omega
  clear h hN hR hm hW hgW hf hp hpo
  unfold rt at *
  go_enter Try.func26, Try.ntmps26
  go_wp2_with fail
  rw [HW.out]
  clear HW
  go_loopw [7] (fun i wr => ∃ k : Nat, k ≤ n ∧ i = .int .i64 ((k : Nat) : Int) ∧ Hid (Grn W wr)) (fun i _ => n - (intOf i).toNat)
  case atStart => exact ⟨0, Nat.zero_le _, rfl, Lib.hid (Grn.refl _)⟩
  case round =>
    obtain ⟨k, hk, rfl, HJ⟩ := hrel
    have k1 := (HJ.out.below.block _ (lt_of_block HB0.out)).trans HB0.out
    have e0 := cells_cell (o := 0) k1 rfl
    have e1 : wr.cell? ⟨w.heap.size, 1, none⟩ = some (.slice a N c) := cells_cell k1 rfl
    have e2 := lt_of_block k1
    have g2 : (0 : Int) ≤ (k : Int) := by omega
    have g1 : (k : Int) < (m : Int) := by omega
    have hsrc : Src TF wr (.slice a N c) L := (HH.out.grown HG.out.below).grown HJ.out.below
    clear k1
    by_cases hkm : k < n
    · obtain ⟨q, hq⟩ : ∃ q, P[k]? = some q := ⟨_, List.getElem?_eq_getElem (by rw [HM.out.1]; omega)⟩
      have hqo : q.o = true := free_before (by rw [HM.out.2]; exact hkm) hq
      have HAT := Lib.hid (ref_at (m := m) hsrc (by rw [← HN.out]; exact hl) HR.out hq)
      unfold rt at HAT
      have HPO := Lib.hid hqo
      clear hsrc hq hqo
      go_wp2_with (go_at_call 31; fail)
      refine HAT.out.mono ?_
      rintro e w2 ⟨⟨r, rfl, hr⟩, hg2⟩
      have HJ2 := Lib.hid (HJ.out.trans hg2)
      clear hg2 HJ HAT
      rcases hr with ⟨hpo, _⟩ | ⟨_, i, rfl, _⟩
      · rw [HPO.out] at hpo; cases hpo
      · have g3 : (0 : Int) ≤ (i : Int) := by omega
        go_wp2_with fail
        go_roundw
        case rel => first | exact ⟨k + 1, by omega, by go_num, HJ2⟩ | ((repeat apply Exists.intro); exact ⟨⟨k + 1, by omega, by go_num, HJ2⟩, rfl⟩)
        case measure => simp [intOf]; omega
    · obtain rfl : k = n := by omega
      have HAT := Lib.hid (ref_at (m := m) hsrc (by rw [← HN.out]; exact hl) HR.out HP.out.1)
      unfold rt at HAT
      clear hsrc
      go_wp2_with (go_at_call 31; fail)
      refine HAT.out.mono ?_
      rintro e w2 ⟨⟨r, rfl, hr⟩, hg2⟩
      have HJ2 := Lib.hid (HJ.out.trans hg2)
      clear hg2 HJ HAT e0 e1 e2
      rcases hr with ⟨_, rfl⟩ | ⟨hpo, _⟩
      rotate_left
      · rw [HP.out.2] at hpo; cases hpo
      have k1 := (HJ2.out.below.block _ (lt_of_block HB0.out)).trans HB0.out
      have e0 := cells_cell (o := 0) k1 rfl
      have e1 : w2.cell? ⟨w.heap.size, 1, none⟩ = some (.slice a N c) := cells_cell k1 rfl
      have e2 := lt_of_block k1
      clear k1
      go_wp2_with fail
      go_loopw [8, 9] (fun gn i wu => ∃ q : Nat, q ≤ N ∧ gn = .int .i64 ((cnt k (L.take q) : Nat) : Int) ∧ i = .int .i64 ((q : Nat) : Int) ∧ wu = w2) (fun _ i _ => N - (intOf i).toNat)
      case atStart => exact ⟨0, Nat.zero_le _, rfl, rfl, rfl⟩
      case round =>
        obtain ⟨q, hq, rfl, rfl, rfl⟩ := hrel
        have g5 : (0 : Int) ≤ (q : Int) := by omega
        obtain ⟨ct, hct⟩ : ∃ ct, ct = cnt k (L.take q) := ⟨_, rfl⟩
        have hct2 : ct ≤ 1000 := by have := cnt_le k (L.take q); rw [List.length_take] at this; omega
        have g6 : (ct : Int) ≤ 1000 := by omega
        have g7 : (0 : Int) ≤ (ct : Int) := by omega
        rw [← hct]
        have HCQ := Lib.hid hct
        clear hct
        by_cases hqN : q < N
        · obtain ⟨f, hf⟩ : ∃ f, L[q]? = some f := ⟨_, List.getElem?_eq_getElem (by rw [← HN.out]; exact hqN)⟩
          have hsrc : Src TF wr (.slice a N c) L := (HH.out.grown HG.out.below).grown HJ2.out.below
          obtain ⟨gs, offs, cs, hvs, hgls, hcs⟩ := hsrc.at hf
          rw [← HN.out] at hvs
          simp only [Value.slice.injEq] at hvs
          obtain ⟨rfl, -, -⟩ := hvs
          have s0 : wr.cell? ⟨gs, offs + q * 4, none⟩ = some (.int .i64 ((f.n : Nat) : Int)) := hcs 0 _ rfl
          have g8 : (q : Int) < (N : Int) := by omega
          have HCN := Lib.hid (cnt_take hf k)
          clear hcs hsrc hf
          by_cases hfn : f.n = k
          · have HX : Hid (cnt k (L.take (q + 1)) = ct + 1) := Lib.hid (by rw [HCN.out, HCQ.out, if_pos hfn])
            rw [hfn] at s0
            have he : (((k : Nat) : Int) == ((k : Nat) : Int)) = true := by simp
            clear hfn
            go_wp2_with fail
            go_roundw
            case rel => first | exact ⟨q + 1, by omega, by rw [HX.out]; go_num, by go_num, trivial⟩ | ((repeat apply Exists.intro); exact ⟨⟨q + 1, by omega, by rw [HX.out]; go_num, by go_num, trivial⟩, rfl⟩)
            case measure => simp [intOf]; omega
          · have HX : Hid (cnt k (L.take (q + 1)) = ct) := Lib.hid (by rw [HCN.out, HCQ.out, if_neg hfn, Nat.add_zero])
            have he : (((f.n : Nat) : Int) == ((k : Nat) : Int)) = false := by simp; omega
            clear hfn
            generalize f.n = fn at *
            go_wp2_with fail
            go_roundw
            case rel => first | exact ⟨q + 1, by omega, by rw [HX.out], by go_num, trivial⟩ | ((repeat apply Exists.intro); exact ⟨⟨q + 1, by omega, by rw [HX.out], by go_num, trivial⟩, rfl⟩)
            case measure => simp [intOf]; omega
        · obtain rfl : q = N := by omega
          have hctg : ct = p.g := by rw [HCQ.out, HN.out, List.take_length, HCT.out]
          have HCG := Lib.hid hctg
          clear hctg
          have HCP : Hid (∀ wz, wz = wr → Calls Try.prog 40 #[rt m (.slice a q c)] wz fun e w' => ∃ v', e = .returned (rt m v') ∧ Row TF w' wr.heap.size v' L ∧ Below wr.heap.size wr w') := Lib.hid (fun wz e => by rw [e]; exact refCopy_any ((HH.out.grown HG.out.below).grown HJ2.out.below) (by rw [← HN.out]; exact hl))
          unfold rt at HCP
          go_wp2_with (go_at_call 40; fail)
          refine (HCP.out _ rfl).mono ?_
          rintro e w4 ⟨v', rfl, hr, hb4⟩
          obtain ⟨va, vc, rfl, _, _⟩ := hr.form
          rw [← HN.out] at hr
          rw [← HN.out]
          obtain ⟨V, hV⟩ : ∃ V, (w4.alloc (.cells #[.int .i64 ((m : Nat) : Int), .slice va q vc] 30)).alloc (.cells #[.int .i64 ((k : Nat) : Int), .int .i64 ((ct : Nat) : Int)] 34) = V := ⟨_, rfl⟩
          have hgV : Grn w4 V := by rw [← hV]; exact ((Grn.refl _).alloc _).alloc _
          have hVS : V.heap.size = w4.heap.size + 2 := by rw [← hV]; simp
          have HX1 : Hid (V.heap[w4.heap.size]? = some (.cells #[.int .i64 ((m : Nat) : Int), .slice va q vc] 30 (0, 0))) := Lib.hid (by rw [← hV]; exact ((below_alloc _ _).block _ (by simp)).trans (block_new _ _ _ rfl))
          have HX2 : Hid (V.heap[w4.heap.size + 1]? = some (.cells #[.int .i64 ((k : Nat) : Int), .int .i64 ((ct : Nat) : Int)] 34 (0, 0))) := Lib.hid (by rw [← hV]; exact block_new _ _ _ (by simp))
          have HRV := Lib.hid (hr.below hgV.below)
          have HBV := Lib.hid (hb4.trans (hgV.below.mono hb4.size))
          have HV := Lib.hid hV
          have HVS := Lib.hid hVS
          have HSZ : Hid (wr.heap.size ≤ w4.heap.size ∧ w.heap.size + 3 ≤ wr.heap.size) := Lib.hid ⟨hb4.size, by have := HJ2.out.below.size; have := HWS.out; omega⟩
          clear hr hb4 hV hgV hVS e0 e1 e2
          go_upto_region 13 with (fail)
          rw [HV.out]
          clear HV HCP
          generalize w4.heap.size = b4 at *
          have u0 : V.cell? ⟨b4, 0, none⟩ = some (.int .i64 ((m : Nat) : Int)) := cells_cell HX1.out rfl
          have u1 : V.cell? ⟨b4, 1, none⟩ = some (.slice va q vc) := cells_cell HX1.out rfl
          have u2 := lt_of_block HX1.out
          have f1 := cells_free HX1.out 1
          have t0 : V.cell? ⟨b4 + 1, 0, none⟩ = some (.int .i64 ((k : Nat) : Int)) := cells_cell HX2.out rfl
          have t1 : V.cell? ⟨b4 + 1, 1, none⟩ = some (.int .i64 ((ct : Nat) : Int)) := cells_cell HX2.out rfl
          have t2 := lt_of_block HX2.out
          have HSR := Lib.hid (src_new TF_ok V (⟨k, ct, x, false⟩ : Fd) #[.int .i64 ((k : Nat) : Int), .int .i64 ((ct : Nat) : Int), .int .i64 x, .bool false] rfl)
          have HRA := Lib.hid (HRV.out.below (below_alloc V (.cells #[.int .i64 ((k : Nat) : Int), .int .i64 ((ct : Nat) : Int), .int .i64 x, .bool false] 47)))
          have HBA := Lib.hid (HBV.out.trans ((below_alloc V (.cells #[.int .i64 ((k : Nat) : Int), .int .i64 ((ct : Nat) : Int), .int .i64 x, .bool false] 47)).mono HBV.out.size))
          have HLN : Hid (L.length + ([⟨k, ct, x, false⟩] : Fds).length ≤ 1000000) := Lib.hid (by rw [← HN.out]; simp; omega)
          go_wp2_with (at_builtin; refine wpList_append_g TF_ok rfl (.tmp 46) (.tmp 50) rfl rfl rfl HRA.out HBA.out.size HSR.out HLN.out (fun v2 w5 hr hf _ => ?_); obtain ⟨v2a, N2, v2c, rfl, -⟩ := hr.form2; refine Hid.out ?_)
          have hf' : Fr (Value.slice va q vc).ownBlock.toList (V.alloc (.cells #[.int .i64 ((k : Nat) : Int), .int .i64 ((ct : Nat) : Int), .int .i64 x, .bool false] 47)) w5 := hf
          have hfb : ∀ y, y ∈ (Value.slice va q vc).ownBlock.toList → wr.heap.size ≤ y ∧ y < V.heap.size ∧ y ≠ b4 ∧ y ≠ b4 + 1 := fun y hy => by
            have h1 := HRV.out.lt y (by simpa using hy)
            exact ⟨h1.1, h1.2, HRV.out.ne HX1.out (by decide) y (by simpa using hy), HRV.out.ne HX2.out (by decide) y (by simpa using hy)⟩
          have hX1 := hf'.same (((below_alloc V _).block _ (lt_of_block HX1.out)).trans HX1.out) (fun hm => (hfb _ hm).2.2.1 rfl)
          have hX2 := hf'.same (((below_alloc V _).block _ (lt_of_block HX2.out)).trans HX2.out) (fun hm => (hfb _ hm).2.2.2 rfl)
          have hB5 : Below wr.heap.size wr w5 := HBA.out.trans (hf'.below (fun y hy => (hfb y hy).1) HBA.out.size)
          have HR5 := Lib.hid hr
          have HB5 := Lib.hid hB5
          obtain ⟨V5, hV5⟩ : ∃ V5, V5 = w5.setCell ⟨b4, 1, none⟩ (.slice v2a N2 v2c) := ⟨_, rfl⟩
          have hfr5 := fr_setCell w5 ⟨b4, 1, none⟩ (.slice v2a N2 v2c)
          have hY1 := cells_set hX1 1 (.slice v2a N2 v2c)
          rw [← hV5] at hfr5 hY1
          have HY1 : Hid (V5.heap[b4]? = some (.cells #[.int .i64 ((m : Nat) : Int), .slice v2a N2 v2c] 30 (0, 0))) := Lib.hid (by simpa using hY1)
          have HY2 := Lib.hid (hfr5.same hX2 (by simp))
          have HR6 := Lib.hid (hr.fr hfr5 (fun y hy hm => hr.ne hX1 (by decide) y hy (by simpa using hm)))
          have HB6 : Hid (Below wr.heap.size wr V5) := Lib.hid (hB5.trans (hfr5.below (fun y hy => by simp at hy; have := HSZ.out; omega) hB5.size))
          have w0 := cells_cell (o := 0) hX1 rfl
          have w1 : w5.cell? ⟨b4, 1, none⟩ = some (.slice va q vc) := cells_cell hX1 rfl
          have w3 := cells_free hX1 1
          have w6 := lt_of_block hX1
          have HV5 := Lib.hid hV5
          clear hr hf hf' hfb hX1 hX2 hB5 hV5 hfr5 hY1 u0 u1 u2 f1 t0 t1 t2 HSR HRA HBA HRV
          refine Lib.hid ?_
          go_upto_region 14 with (fail)
          rw [← HV5.out]
          clear HV5 w0 w1 w3 w6
          have HW2 : Hid (V5.heap[w.heap.size + 1]? = some (.cells #[.int .i64 0, .slice none 0 0] 30 (0, 0)) ∧ V5.heap[w.heap.size + 1 + 1]? = some (.cells #[.int .i64 0, .int .i64 0] 34 (0, 0))) := Lib.hid
            ⟨(HB6.out.block _ (by have := HSZ.out; omega)).trans ((HJ2.out.below.block _ (lt_of_block HB1.out)).trans HB1.out), (HB6.out.block _ (by have := HSZ.out; omega)).trans ((HJ2.out.below.block _ (lt_of_block HB2.out)).trans HB2.out)⟩
          have HNB : Hid (b4 ≠ w.heap.size + 1 ∧ b4 ≠ w.heap.size + 1 + 1 ∧ b4 + 1 ≠ w.heap.size + 1 ∧ b4 + 1 ≠ w.heap.size + 1 + 1) := Lib.hid (by have := HSZ.out; omega)
          have hld : ∀ W', Fr [w.heap.size + 1, w.heap.size + 1 + 1] V5 W' → W'.cell? ⟨b4, 0, none⟩ = some (.int .i64 ((m : Nat) : Int)) ∧ W'.cell? ⟨b4, 1, none⟩ = some (.slice v2a N2 v2c) ∧ b4 < W'.heap.size ∧ W'.cell? ⟨b4 + 1, 0, none⟩ = some (.int .i64 ((k : Nat) : Int)) ∧ W'.cell? ⟨b4 + 1, 1, none⟩ = some (.int .i64 ((ct : Nat) : Int)) ∧ b4 + 1 < W'.heap.size := fun W' hb => by
            have h1 := hb.same HY1.out (by have := HNB.out; simp; omega)
            have h2 := hb.same HY2.out (by have := HNB.out; simp; omega)
            exact ⟨cells_cell h1 rfl, cells_cell h1 rfl, lt_of_block h1, cells_cell h2 rfl, cells_cell h2 rfl, lt_of_block h2⟩
          have HS1 : Hid (Fr [w.heap.size + 1, w.heap.size + 1 + 1] V5 V5.drew) := Lib.hid (fr_drewN V5 1 _)
          refine wp_region_mix (fun W' => Fr [w.heap.size + 1, w.heap.size + 1 + 1] V5 W') 3 [(true, 0), (true, 1), (false, 2)] (by kernel_rfl) (by kernel_rfl) (fun _ _ _ d _ h => by cases d <;> exact h) ?_
          simp only [List.map_cons, List.map_nil, List.getD_cons_zero, List.getD_cons_succ, List.drop_succ_cons, List.drop_zero]
          refine mix_take (.agg #[.int .i64 ((m : Nat) : Int), .slice v2a N2 v2c]) HS1.out rfl (fun W' hS => by obtain ⟨h0, h1, h2, h3, h4, h5⟩ := hld W' hS; go_simp) ?_
          simp only [Act.put, List.setIfInBounds_toArray, List.set_cons_zero, List.set_cons_succ]
          refine mix_take (.agg #[.int .i64 ((k : Nat) : Int), .int .i64 ((ct : Nat) : Int)]) HS1.out rfl (fun W' hS => by obtain ⟨h0, h1, h2, h3, h4, h5⟩ := hld W' hS; go_simp) ?_
          simp only [Act.put, List.setIfInBounds_toArray, List.set_cons_zero, List.set_cons_succ]
          have D : Below V5.heap.size V5 V5.drew := ((Grn.refl V5).drew 1).below
          have k2 := (D.block _ (lt_of_block HW2.out.1)).trans HW2.out.1
          have k3 := (D.block _ (lt_of_block HW2.out.2)).trans HW2.out.2
          have HB7 := Lib.hid (HB6.out.trans (D.mono HB6.out.size))
          have HR7 := Lib.hid (HR6.out.below D)
          have y0 := cells_cell (o := 0) k2 rfl
          have y1 : V5.drew.cell? ⟨w.heap.size + 1, 1, none⟩ = some (.slice none 0 0) := cells_cell k2 rfl
          have z0 := cells_free k2 0
          have z1 := cells_free k2 1
          have hxl := lt_of_block k2
          have y2 : V5.drew.cell? ⟨w.heap.size + 1 + 1, 0, none⟩ = some (.int .i64 0) := cells_cell k3 rfl
          have y3 : V5.drew.cell? ⟨w.heap.size + 1 + 1, 1, none⟩ = some (.int .i64 0) := cells_cell k3 rfl
          have z2 := cells_free k3 0
          have z3 := cells_free k3 1
          have hxl3 := lt_of_block k3
          obtain ⟨P1, P2, PF⟩ := two_puts k2 k3 (by omega) (.int .i64 ((m : Nat) : Int)) (.slice v2a N2 v2c) (.int .i64 ((k : Nat) : Int)) (.int .i64 ((ct : Nat) : Int))
          have p0 := cells_cell (o := 0) P1 rfl
          have p1 := cells_cell (o := 1) P1 rfl
          have p2 := cells_cell (o := 0) P2 rfl
          have p3 := cells_cell (o := 1) P2 rfl
          have HPF := Lib.hid PF
          have HS2 := Lib.hid (HS1.out.trans' (((fr_setCell V5.drew ⟨w.heap.size + 1, 0, none⟩ (.int .i64 ((m : Nat) : Int))).trans' (fr_setCell _ ⟨w.heap.size + 1, 1, none⟩ (.slice v2a N2 v2c))).mono (G := [w.heap.size + 1, w.heap.size + 1 + 1]) fun y hy => .inl (by simp at hy; simp [hy])))
          clear k2 k3 P1 P2 PF D hld HS1
          generalize V5.drew = V6 at *
          refine mix_step rfl (fun K hK => ?_)
          go_simp
          refine hK _ _ HS2.out ?_
          clear hK
          refine mix_nil ?_
          go_wp2_with fail
          refine bodyPost_ret (v := .tuple #[.agg #[.int .i64 ((m : Nat) : Int), .slice v2a N2 v2c], .agg #[.int .i64 ((k : Nat) : Int), .int .i64 ((ct : Nat) : Int)], .int .i64 0]) (by simp [results, Try.results26, go_sem, p0, p1, p2, p3]) rfl ⟨_, by rw [← HCG.out], ?_, ?_⟩
          · have h9 := HR7.out.fr HPF.out (fun y hy hm => by have := (HR7.out.lt y hy).1; have := HSZ.out; simp at hm; omega)
            rw [← HCG.out]
            exact h9.lower (by have := HSZ.out; omega)
          · exact ((HG.out.trans HJ2.out).below.trans (HB7.out.mono (by have := HSZ.out; omega))).trans (HPF.out.below (fun y hy => by simp at hy; omega) (by have := HB7.out.size; have := HSZ.out; omega))
end Go.Proofs.Ytbefiilbpbbjnaa
