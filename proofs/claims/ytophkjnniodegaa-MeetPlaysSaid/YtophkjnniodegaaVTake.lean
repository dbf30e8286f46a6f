/- Take. -/
import Derived.Test.YtophkjnniodegaaVOffer
import Derived.Test.YtophkjnniodegaaBMin
namespace Go.Proofs.Ytophkjnniodegaa
open Go.RowKit Go.Sort
set_option linter.unusedVariables false
set_option linter.unusedSimpArgs false
section
variable {w : World} {m b : Nat} {x : Mt}

theorem mtTake_no {u : Value} (h : NoM w u) (n : Int) : Calls Try.prog 15 #[u, .int .i64 n] w fun e w' => e = .returned (.tuple #[.slice none 0 0, .int .i64 1]) ∧ w' = w := by
  have hu := Lib.hid (mtUsable_no h)
  obtain ⟨a, rfl⟩ : ∃ a, u = .pointer a := by rcases h with h | ⟨q, h, _⟩ <;> exact ⟨_, h⟩
  clear h
  go_enter Try.func15, Try.ntmps15
  go_wp2_with (go_at_call 32; refine hu.out.mono ?_; rintro e w' ⟨rfl, rfl⟩)
  go_ret2
  exact ⟨rfl, rfl⟩
/-- Nothing can be taken. -/
theorem mtTake_over (h : MAt w m b x) {n : Int} (hn : 0 < n) (ho : x.over = true) : Calls Try.prog 15 #[pt m, .int .i64 n] w fun e w' => e = .returned (.tuple #[.slice none 0 0, .int .i64 (orI x.rd (orI x.wr 16))]) ∧ Below w.heap.size w w' := by
  have k := cells_cell (o := 0) h.me rfl
  obtain ⟨v, h1, h2⟩ := h.ex
  obtain ⟨va, vc, rfl, _, _⟩ := h2.form
  have k0 := cells_cell (o := 0) h1 rfl
  have k1 := cells_cell (o := 1) h1 rfl
  have hu := Lib.hid (mtUsable_yes h)
  have hov := mtOver_any h
  rw [ho] at hov
  have HO := Lib.hid hov
  have hn0 : (n == 0) = false := by simp; omega
  have hn1 : decide (n < 0) = false := by simp; omega
  generalize x.rd = r at *
  generalize x.wr = s at *
  clear h h1 h2 hov ho
  unfold pt at *
  go_enter Try.func15, Try.ntmps15
  go_wp2_with (first
    | (go_at_call 32; refine hu.out.mono ?_; rintro e w' ⟨rfl, rfl⟩)
    | (go_at_call 33; refine HO.out.mono ?_; rintro e w' ⟨rfl, rfl⟩))
  refine wp_region_still_tail 10 (by kernel_rfl) (by kernel_rfl) ?_
  simp only [List.take_succ_cons, List.take_zero, List.drop_succ_cons, List.drop_zero]
  change wpStill _ _ (World.drew _) (fun a' => wpList _ _ _ _ a' (World.drew _)) _ _
  repeat (first | still_step)
  refine wpStill_nil ?_
  go_wp2_with (go_at_call 34; fail)
  refine Calls.mono (or3_any _ _ r s 16 _ ?c0 ?c1 ?c2) ?_
  case c0 => exact cell_new _ _ _ _ _ _ (by simp) rfl
  case c1 => exact cell_new _ _ _ _ _ _ (by simp) rfl
  case c2 => exact cell_new _ _ _ _ _ _ (by simp) rfl
  rintro e w1 ⟨rfl, rfl⟩
  go_wp2_with fail
  go_ret2
  exact ⟨rfl, (((Grn.refl w').drew 1).alloc _).below⟩
theorem mtTake_plain (h : MAt w m b x) {n : Int} (hn : n ≤ 0) : Calls Try.prog 15 #[pt m, .int .i64 n] w fun e w' => e = .returned (.tuple #[.slice none 0 0, .int .i64 (if n < 0 then 2 else 0)]) ∧ w' = w := by
  have k := cells_cell (o := 0) h.me rfl
  have hu := Lib.hid (mtUsable_yes h)
  clear h
  unfold pt at *
  by_cases h0 : n = 0
  · subst h0
    rw [if_neg (by omega)]
    go_enter Try.func15, Try.ntmps15
    go_wp2_with (go_at_call 32; refine hu.out.mono ?_; rintro e w' ⟨rfl, rfl⟩)
    go_ret2
    exact ⟨rfl, rfl⟩
  · have h1 : n < 0 := by omega
    rw [if_pos h1]
    clear hn h0
    go_enter Try.func15, Try.ntmps15
    go_wp2_with (go_at_call 32; refine hu.out.mono ?_; rintro e w' ⟨rfl, rfl⟩)
    go_ret2
    exact ⟨rfl, rfl⟩
theorem mtTake_some (h : MAt w m b x) {n : Int} (hn : 0 < n) (ho : x.over = false) : Calls Try.prog 15 #[pt m, .int .i64 n] w fun e w' => ∃ vp, e = .returned (.tuple #[vp, .int .i64 0]) ∧
    RowB w' w.heap.size vp (x.rest.take n.toNat) ∧ (∀ W : World, (∀ k, k < w.heap.size → W.heap[k]? = w'.heap[k]?) → MAt W m b { x with k := x.k + (x.rest.take n.toNat).length }) ∧ Fr [b] w w' := by
  have k := cells_cell (o := 0) h.me rfl
  obtain ⟨v, h1, h2⟩ := h.ex
  have k3 := cells_cell (o := 3) h1 rfl
  have hu := Lib.hid (mtUsable_yes h)
  have hov := mtOver_any h
  rw [ho] at hov
  have HO := Lib.hid hov
  have hn0 : (n == 0) = false := by simp; omega
  have hn1 : decide (n < 0) = false := by simp; omega
  have hl0 : x.rest.length ≠ 0 := ((over_iff x).2 ho).2.2
  rcases h2 with ⟨_, hnil⟩ | ⟨g, off, c, cur, rfl, hc1, hc2, hg, hcur⟩
  · rw [hnil] at hl0; simp at hl0
  obtain ⟨L, hL⟩ : ∃ L, L = x.rest := ⟨_, rfl⟩
  obtain ⟨l, hl⟩ : ∃ l, l = L.length := ⟨_, rfl⟩
  obtain ⟨N, hN⟩ : ∃ N, N = (L.take n.toNat).length := ⟨_, rfl⟩
  have hNl : N ≤ l := by rw [hN, hl, List.length_take]; omega
  have hmin : min n (l : Int) = (N : Int) := by rw [hN, hl, List.length_take]; omega
  have hN0 : 0 < N := by rw [← hL, ← hl] at hl0; rw [hN, List.length_take, ← hl]; omega
  have hLs : l ≤ 65536 := by rw [hl, hL, h.ok.rest]; have := h.ok.small; omega
  have hp0 : Piece w (.slice (some ⟨g, off, none⟩) N c) (L.take N) := .inr ⟨g, off, c, cur, by rw [List.length_take, ← hl, Nat.min_eq_left hNl], by rw [List.length_take, ← hl]; rw [← hL, ← hl] at hc1; omega, hc2, hg, fun j u hu => by
    rw [List.map_take, List.getElem?_take] at hu
    split at hu
    · rw [hL] at hu; exact hcur j u hu
    · cases hu⟩
  have htk : L.take n.toNat = L.take N := by
    rw [hN, List.length_take]
    by_cases q : n.toNat ≤ L.length
    · rw [Nat.min_eq_left q]
    · rw [Nat.min_eq_right (by omega), List.take_of_length_le (by omega), List.take_of_length_le (Nat.le_refl _)]
  rw [← hL] at k3 h1 hc1 ⊢
  rw [htk]
  rw [← hl] at k3 h1 hc1
  have hcl := Lib.hid (clone_any (hp0.src) (by rw [List.length_take]; omega))
  have hlt := lt_of_block h1
  have H := Lib.hid h
  have H1 := Lib.hid h1
  have HC := Lib.hid hcur
  have HG := Lib.hid hg
  have HLL := Lib.hid hL
  have HN := Lib.hid hN
  have Hl := Lib.hid hl
  have HMIN := Lib.hid hmin
  have HTK := Lib.hid htk
  have hkb : (x.k : Int) ≤ 65536 := by have := h.ok.le; have := h.ok.small; omega
  have HK := Lib.hid hkb
  have hlt1 : (l : Int) ≤ 65536 := by omega
  clear h h1 hov ho hcur hg hL hN hl hmin htk hp0 hl0
  unfold pt at *
  go_enter Try.func15, Try.ntmps15
  go_wp2_with (first
    | (go_at_call 32; refine hu.out.mono ?_; rintro e w' ⟨rfl, rfl⟩)
    | (go_at_call 33; refine HO.out.mono ?_; rintro e w' ⟨rfl, rfl⟩)
    | (refine wpList_min rfl (.tmp 37) (.tmp 42) _ rfl n l N rfl rfl HMIN.out ?_)
    | (go_at_call 35; fail))
  refine hcl.out.mono ?_
  rintro e w2 ⟨vp, rfl, hrow, hb2⟩
  have HB2 := Lib.hid hb2
  have HRW := Lib.hid hrow
  have hw1 := (hb2.block b hlt).trans H1.out
  have HW1 := Lib.hid hw1
  have c3 := cells_cell (o := 3) hw1 rfl
  have c4 := cells_cell (o := 4) hw1 rfl
  have z3 := cells_free hw1 3
  have z4 := cells_free hw1 4
  have hl2 := lt_of_block hw1
  have HP : Hid (∀ e, e = (if N = c then off else off + N) → ∀ W : World, W.heap[g]? = w'.heap[g]? → Piece W (.slice (some ⟨g, e, none⟩) (l - N) (c - N)) (L.drop N)) := Lib.hid (fun e he W hW => by
    refine .inr ⟨g, e, c - N, cur, by rw [List.length_drop, ← Hl.out], by rw [List.length_drop, ← Hl.out]; omega, by omega, hW.trans HG.out, fun j u hu => ?_⟩
    have hj : j < L.length - N := by have := (List.getElem?_eq_some_iff.1 hu).1; simpa using this
    rw [he, if_neg (by have := Hl.out; omega), Nat.add_assoc]
    refine HC.out (N + j) u ?_
    rw [← HLL.out]
    rwa [List.map_drop, List.getElem?_drop] at hu)
  obtain ⟨ra, rn, rc, rfl⟩ := row_form hrow
  have hNl2 : (N : Int) ≤ (l : Int) := by omega
  clear hw1 hb2 hrow
  have hglt : g < w'.heap.size := lt_of_block HG.out
  have HGL := Lib.hid hglt
  have HGB : Hid (g ≠ b) := Lib.hid (ne_types HG.out H1.out (by decide))
  have HTN : Hid ((L.take N).length = N) := Lib.hid (by rw [List.length_take, ← Hl.out]; omega)
  have hend : ∀ e, e = (if N = c then off else off + N) → ∀ WF, WF = ((w2.setCell ⟨b, 3, none⟩ (.slice (some ⟨g, e, none⟩) (l - N) (c - N))).setCell ⟨b, 4, none⟩ (.int .i64 ((x.k : Int) + N))) →
      RowB WF w'.heap.size (.slice ra rn rc) (L.take N) ∧ (∀ W : World, (∀ k, k < w'.heap.size → W.heap[k]? = WF.heap[k]?) → MAt W m b { x with k := x.k + (L.take N).length }) ∧ Fr [b] w' WF := fun e he WF hWF => by
    rw [HTN.out]
    have f1 : Fr [b] w2 WF := by rw [hWF]; exact (fr_setCell w2 ⟨b, 3, none⟩ _).trans' (fr_setCell (w2.setCell ⟨b, 3, none⟩ _) ⟨b, 4, none⟩ _)
    have e1 := cells_set (cells_set HW1.out 3 (.slice (some ⟨g, e, none⟩) (l - N) (c - N))) 4 (.int .i64 ((x.k : Int) + N))
    rw [← hWF] at e1
    have hok : Mt.Ok { x with k := x.k + N } := by
      have h0 := H.out.ok
      have h1 := h0.rest
      rw [← HLL.out, ← Hl.out] at h1
      exact ⟨by have := h0.le; show x.k + N ≤ x.S.length; omega, h0.no, h0.small, h0.wr, h0.rd⟩
    have hfr : Fr [b] w' WF := (Fr.of_below HB2.out [b]).trans' f1
    refine ⟨f1.row HRW.out (fun g' hg' hm => ?_), fun W hW => ?_, hfr⟩
    · have h1 := (HRW.out.lt g' hg').1
      have h2 : g' = b := by simpa using hm
      omega
    · refine ⟨hok, (hW m H.out.lt.1).trans (hfr.same H.out.me (by simpa using H.out.ne)), _, (hW b hlt).trans (by simpa using e1), ?_⟩
      show Piece W _ (x.S.drop (x.k + N))
      rw [← List.drop_drop]
      have := HLL.out
      unfold Mt.rest at this
      rw [← this]
      exact HP.out e he W ((hW g HGL.out).trans (hfr.block g HGL.out (by simpa using HGB.out)))
  have HE := Lib.hid hend
  clear hend hglt
  by_cases hc : N = c
  · obtain rfl : l = N := by omega
    subst hc
    have hE := HE.out off (by simp) _ rfl
    rw [Nat.sub_self] at hE
    have HEE := Lib.hid hE
    clear hE
    go_wp2_with fail
    go_ret2
    exact ⟨_, rfl, HEE.out⟩
  · have hcI : (N : Int) < (c : Int) := by omega
    go_wp2_with fail
    go_ret2
    exact ⟨_, rfl, HE.out (off + N) (by rw [if_neg hc]) _ rfl⟩
theorem mtTake_any (h : MAt w m b x) (n : Int) : Calls Try.prog 15 #[pt m, .int .i64 n] w fun e w' => ∃ vp, e = .returned (.tuple #[vp, .int .i64 (takC x n).2.1]) ∧
    RowB w' w.heap.size vp (takC x n).1 ∧ (∀ W : World, (∀ k, k < w.heap.size → W.heap[k]? = w'.heap[k]?) → MAt W m b (takC x n).2.2) ∧ Fr [b] w w' := by
  have hkeep : ∀ w' : World, Fr [] w w' → ∀ W : World, (∀ k, k < w.heap.size → W.heap[k]? = w'.heap[k]?) → MAt W m b x := fun w' hf W hW => by
    obtain ⟨v, h1, h2⟩ := h.ex
    have hk : ∀ k, k < w.heap.size → W.heap[k]? = w.heap[k]? := fun k hk => (hW k hk).trans (hf.block k hk (by simp))
    refine ⟨h.ok, (hk _ (lt_of_block h.me)).trans h.me, v, (hk _ (lt_of_block h1)).trans h1, ?_⟩
    rcases h2 with h' | ⟨g, off, c, cur, rfl, q1, q2, q3, q4⟩
    · exact .inl h'
    · exact .inr ⟨g, off, c, cur, rfl, q1, q2, (hk _ (lt_of_block q3)).trans q3, q4⟩
  by_cases hn : n ≤ 0
  · refine (mtTake_plain h hn).mono ?_
    rintro e w' ⟨rfl, rfl⟩
    refine ⟨.slice none 0 0, ?_, ?_, ?_, Fr.refl _ _⟩
    · unfold takC
      by_cases h1 : n < 0
      · rw [if_pos h1, if_pos h1]
      · rw [if_neg h1, if_neg h1, if_pos (by omega)]
    · unfold takC
      by_cases h1 : n < 0
      · rw [if_pos h1]; exact World.ownsRow_nil _ _ _ _
      · rw [if_neg h1, if_pos (by omega)]; exact World.ownsRow_nil _ _ _ _
    · unfold takC
      by_cases h1 : n < 0
      · rw [if_pos h1]; exact hkeep w' (Fr.refl _ _)
      · rw [if_neg h1, if_pos (by omega)]; exact hkeep w' (Fr.refl _ _)
  · have ht : takC x n = if x.rd ≠ 0 then ([], x.rd, x) else if x.wr ≠ 0 then ([], x.wr, x) else if x.rest.length = 0 then ([], 16, x) else (x.rest.take n.toNat, 0, { x with k := x.k + (x.rest.take n.toNat).length }) := by
      unfold takC
      rw [if_neg (by omega), if_neg (by omega)]
    cases ho : x.over with
    | true =>
      have hq : takC x n = ([], orI x.rd (orI x.wr 16), x) := by
        rw [ht]
        unfold orI
        have h3 : ¬ (x.wr = 0 ∧ x.rd = 0 ∧ x.rest.length ≠ 0) := fun h => by have := (over_iff x).1 h; rw [ho] at this; cases this
        by_cases h1 : x.rd = 0 <;> by_cases h2 : x.wr = 0 <;> by_cases h4 : x.rest.length = 0 <;> simp [h1, h2, h4]
        exact absurd ⟨h2, h1, h4⟩ h3
      rw [hq]
      refine (mtTake_over h (by omega) ho).mono ?_
      rintro e w' ⟨rfl, hb⟩
      exact ⟨_, rfl, World.ownsRow_nil _ _ _ _, hkeep w' (Fr.of_below hb _), Fr.of_below hb _⟩
    | false =>
      obtain ⟨h1, h2, h3⟩ := (over_iff x).2 ho
      rw [ht, if_neg (by simp [h2]), if_neg (by simp [h1]), if_neg h3]
      exact mtTake_some h (by omega) ho
end
end Go.Proofs.Ytophkjnniodegaa
