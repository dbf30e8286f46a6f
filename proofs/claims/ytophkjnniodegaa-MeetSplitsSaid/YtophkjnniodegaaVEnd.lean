/- Withdraw, Result, CloseWrite, CloseRead. -/
import Derived.Test.YtophkjnniodegaaVCall
namespace Go.Proofs.Ytophkjnniodegaa
open Go.RowKit Go.Sort
set_option linter.unusedVariables false
set_option linter.unusedSimpArgs false
section
variable {w : World} {m b : Nat} {x : Mt}

theorem mtWithdraw_any (h : MAt w m b x) : Calls Try.prog 17 #[pt m] w fun e w' => e = .returned (.tuple #[.int .i64 (witC x).1, .int .i64 (witC x).2.1]) ∧ MAt w' m b (witC x).2.2 ∧ Fr [b] w w' := by
  obtain ⟨v, h1, h2⟩ := h.ex
  have k := cells_cell (o := 0) h.me rfl
  have k2 := cells_cell (o := 2) h1 rfl
  have k4 := cells_cell (o := 4) h1 rfl
  have z2 := cells_free h1 2
  have z3 := cells_free h1 3
  have z4 := cells_free h1 4
  have k3 := cells_cell (o := 3) h1 rfl
  have hu := Lib.hid (mtUsable_yes h)
  have H := Lib.hid h
  have H1 := Lib.hid h1
  have hlt := lt_of_block h1
  unfold witC
  by_cases hi : x.is = true
  · rw [if_neg (by simp [hi])]
    rw [hi] at k2 k3 k4 H1
    have hok : Hid (Mt.Ok { x with is := false, S := [], k := 0 }) := Lib.hid (by have := witC_ok h.ok; unfold witC at this; rwa [if_neg (by simp [hi])] at this)
    clear h h1 h2 hi
    unfold pt at *
    go_enter Try.func17, Try.ntmps17
    go_wp2_with (go_at_call 32; refine hu.out.mono ?_; rintro e w' ⟨rfl, rfl⟩)
    go_ret2
    have e1 := cells_set (cells_set (cells_set H1.out 2 (.bool false)) 3 (.slice none 0 0)) 4 (.int .i64 0)
    have f1 := ((fr_setCell w' ⟨b, 2, none⟩ (.bool false)).trans' (fr_setCell (w'.setCell ⟨b, 2, none⟩ (.bool false)) ⟨b, 3, none⟩ (.slice none 0 0))).trans' (fr_setCell ((w'.setCell ⟨b, 2, none⟩ (.bool false)).setCell ⟨b, 3, none⟩ (.slice none 0 0)) ⟨b, 4, none⟩ (.int .i64 0))
    exact ⟨rfl, H.out.set f1 hok.out (v := .slice none 0 0) (by simpa using e1) (.inl ⟨rfl, rfl⟩), f1⟩
  · have hf : x.is = false := by simpa using hi
    rw [if_pos hf]
    rw [hf] at k2 k3 k4
    clear h h1 h2 hi hf
    unfold pt at *
    go_enter Try.func17, Try.ntmps17
    go_wp2_with (go_at_call 32; refine hu.out.mono ?_; rintro e w' ⟨rfl, rfl⟩)
    go_ret2
    exact ⟨rfl, H.out, Fr.refl _ _⟩
theorem mtWithdraw_no {v : Value} (h : NoM w v) : Calls Try.prog 17 #[v] w fun e w' => e = .returned (.tuple #[.int .i64 0, .int .i64 1]) ∧ w' = w := by
  have hu := Lib.hid (mtUsable_no h)
  obtain ⟨a, rfl⟩ : ∃ a, v = .pointer a := by rcases h with h | ⟨q, h, _⟩ <;> exact ⟨_, h⟩
  clear h
  go_enter Try.func17, Try.ntmps17
  go_wp2_with (go_at_call 32; refine hu.out.mono ?_; rintro e w' ⟨rfl, rfl⟩)
  go_ret2
  exact ⟨rfl, rfl⟩
theorem over_iff (x : Mt) : (x.wr = 0 ∧ x.rd = 0 ∧ x.rest.length ≠ 0) ↔ x.over = false := by
  unfold Mt.over
  by_cases a : x.rest.length = 0 <;> by_cases q : x.wr = 0 <;> by_cases c : x.rd = 0 <;> simp [a, q, c]
theorem mtResult_any (h : MAt w m b x) : Calls Try.prog 16 #[pt m] w fun e w' => e = .returned (.tuple #[.int .i64 (resC x).1, .int .i64 (resC x).2.1]) ∧ MAt w' m b (resC x).2.2 ∧ Fr [b] w w' := by
  have k := cells_cell (o := 0) h.me rfl
  have hu := Lib.hid (mtUsable_yes h)
  have ho := mtOver_any h
  have hw := Lib.hid (mtWithdraw_any h)
  have H := Lib.hid h
  have hor := over_iff x
  unfold resC
  cases hov : x.over with
  | false =>
    rw [hov] at ho hor
    have HO := Lib.hid ho
    have hii : x.is = true := by
      cases hb : x.is with
      | true => rfl
      | false =>
        have := h.ok.no hb
        have h3 := (hor.2 rfl).2.2
        unfold Mt.rest at h3
        rw [this] at h3
        simp at h3
    rw [if_pos ⟨hii, hor.2 rfl⟩]
    clear h ho hov hor hii
    unfold pt at *
    go_enter Try.func16, Try.ntmps16
    go_wp2_with (first
      | (go_at_call 32; refine hu.out.mono ?_; rintro e w' ⟨rfl, rfl⟩)
      | (go_at_call 33; refine HO.out.mono ?_; rintro e w' ⟨rfl, rfl⟩))
    go_ret2
    exact ⟨rfl, H.out, Fr.refl _ _⟩
  | true =>
    rw [hov] at ho hor
    have HO := Lib.hid ho
    rw [if_neg (fun hc => by have := hor.1 hc.2; simp at this)]
    clear h ho hov hor
    unfold pt at *
    go_enter Try.func16, Try.ntmps16
    go_wp2_with (first
      | (go_at_call 32; refine hu.out.mono ?_; rintro e w' ⟨rfl, rfl⟩)
      | (go_at_call 33; refine HO.out.mono ?_; rintro e w' ⟨rfl, rfl⟩)
      | (go_at_call 17; refine hw.out.mono ?_; rintro e w1 ⟨rfl, hm, hf⟩))
    go_ret2
    exact ⟨rfl, hm, hf⟩
theorem mtResult_no {v : Value} (h : NoM w v) : Calls Try.prog 16 #[v] w fun e w' => e = .returned (.tuple #[.int .i64 0, .int .i64 1]) ∧ w' = w := by
  have hu := Lib.hid (mtUsable_no h)
  have hw := Lib.hid (mtWithdraw_no h)
  obtain ⟨a, rfl⟩ : ∃ a, v = .pointer a := by rcases h with h | ⟨q, h, _⟩ <;> exact ⟨_, h⟩
  clear h
  go_enter Try.func16, Try.ntmps16
  go_wp2_with (first
    | (go_at_call 32; refine hu.out.mono ?_; rintro e w' ⟨rfl, rfl⟩)
    | (go_at_call 17; refine hw.out.mono ?_; rintro e w1 ⟨rfl, rfl⟩))
  go_ret2
  exact ⟨rfl, rfl⟩

theorem mtClose_w (h : MAt w m b x) (e : Int) (he : I64 e) : Calls Try.prog 38 #[pt m, .int .i64 1, .int .i64 e] w fun e' w' => e' = .returned (.int .i64 (cwrC x e).1) ∧ MAt w' m b (cwrC x e).2 ∧ Fr [b] w w' := by
  obtain ⟨v, h1, h2⟩ := h.ex
  have k := cells_cell (o := 0) h.me rfl
  have k2 := cells_cell (o := 1) h1 rfl
  have z := cells_free h1
  have hu := Lib.hid (mtUsable_yes h)
  have H := Lib.hid h
  have H1 := Lib.hid h1
  have H2 := Lib.hid h2
  have hlt := lt_of_block h1
  have hok := Lib.hid (cwrC_ok h.ok he)
  obtain ⟨r, hr⟩ : ∃ r, r = x.wr := ⟨_, rfl⟩
  unfold cwrC at *
  by_cases h0 : e = 0
  · subst h0
    rw [if_pos rfl]
    clear h h1 h2
    unfold pt at *
    go_enter Try.func38, Try.ntmps38
    go_wp2_with (go_at_call 32; refine hu.out.mono ?_; rintro e w' ⟨rfl, rfl⟩)
    go_ret
    exact ⟨rfl, H.out, Fr.refl _ _⟩
  · rw [if_neg h0] at hok ⊢
    have q0 : (e == 0) = false := by simp [h0]
    by_cases hw : x.wr = 0
    · rw [if_neg (by simp [hw])] at hok ⊢
      rw [hw] at k2
      clear h h1 h2 hw hr h0
      unfold pt at *
      go_enter Try.func38, Try.ntmps38
      go_wp2_with (go_at_call 32; refine hu.out.mono ?_; rintro e w' ⟨rfl, rfl⟩)
      go_ret
      have e1 := cells_set H1.out 1 (.int .i64 e)
      exact ⟨rfl, H.out.set (fr_setCell w' ⟨b, 1, none⟩ (.int .i64 e)) hok.out (v := v) (by simpa using e1) H2.out, fr_setCell w' ⟨b, 1, none⟩ (.int .i64 e)⟩
    · rw [if_pos hw]
      rw [← hr] at k2 hw
      have q1 : (r != 0) = true := by simp [hw]
      clear h h1 h2 hw hr h0
      unfold pt at *
      go_enter Try.func38, Try.ntmps38
      go_wp2_with (go_at_call 32; refine hu.out.mono ?_; rintro e w' ⟨rfl, rfl⟩)
      go_ret
      exact ⟨rfl, H.out, Fr.refl _ _⟩
theorem mtClose_r (h : MAt w m b x) (e : Int) (he : I64 e) : Calls Try.prog 38 #[pt m, .int .i64 0, .int .i64 e] w fun e' w' => e' = .returned (.int .i64 (crdC x e).1) ∧ MAt w' m b (crdC x e).2 ∧ Fr [b] w w' := by
  obtain ⟨v, h1, h2⟩ := h.ex
  have k := cells_cell (o := 0) h.me rfl
  have k2 := cells_cell (o := 0) h1 rfl
  have z := cells_free h1
  have hu := Lib.hid (mtUsable_yes h)
  have H := Lib.hid h
  have H1 := Lib.hid h1
  have H2 := Lib.hid h2
  have hlt := lt_of_block h1
  have hok := Lib.hid (crdC_ok h.ok he)
  obtain ⟨r, hr⟩ : ∃ r, r = x.rd := ⟨_, rfl⟩
  unfold crdC at *
  by_cases h0 : e = 0
  · subst h0
    rw [if_pos rfl]
    clear h h1 h2
    unfold pt at *
    go_enter Try.func38, Try.ntmps38
    go_wp2_with (go_at_call 32; refine hu.out.mono ?_; rintro e w' ⟨rfl, rfl⟩)
    go_ret
    exact ⟨rfl, H.out, Fr.refl _ _⟩
  · rw [if_neg h0] at hok ⊢
    have q0 : (e == 0) = false := by simp [h0]
    by_cases hw : x.rd = 0
    · rw [if_neg (by simp [hw])] at hok ⊢
      rw [hw] at k2
      clear h h1 h2 hw hr h0
      unfold pt at *
      go_enter Try.func38, Try.ntmps38
      go_wp2_with (go_at_call 32; refine hu.out.mono ?_; rintro e w' ⟨rfl, rfl⟩)
      go_ret
      have e1 := cells_set H1.out 0 (.int .i64 e)
      exact ⟨rfl, H.out.set (fr_setCell w' ⟨b, 0, none⟩ (.int .i64 e)) hok.out (v := v) (by simpa using e1) H2.out, fr_setCell w' ⟨b, 0, none⟩ (.int .i64 e)⟩
    · rw [if_pos hw]
      rw [← hr] at k2 hw
      have q1 : (r != 0) = true := by simp [hw]
      clear h h1 h2 hw hr h0
      unfold pt at *
      go_enter Try.func38, Try.ntmps38
      go_wp2_with (go_at_call 32; refine hu.out.mono ?_; rintro e w' ⟨rfl, rfl⟩)
      go_ret
      exact ⟨rfl, H.out, Fr.refl _ _⟩
theorem mtClose_no {v : Value} (h : NoM w v) (d e : Int) : Calls Try.prog 38 #[v, .int .i64 d, .int .i64 e] w fun e' w' => e' = .returned (.int .i64 1) ∧ w' = w := by
  have hu := Lib.hid (mtUsable_no h)
  obtain ⟨a, rfl⟩ : ∃ a, v = .pointer a := by rcases h with h | ⟨q, h, _⟩ <;> exact ⟨_, h⟩
  clear h
  go_enter Try.func38, Try.ntmps38
  go_wp2_with (go_at_call 32; refine hu.out.mono ?_; rintro e w' ⟨rfl, rfl⟩)
  go_ret
  exact ⟨rfl, rfl⟩
theorem mtCloseWrite_any (h : MAt w m b x) (e : Int) (he : I64 e) : Calls Try.prog 20 #[pt m, .int .i64 e] w fun e' w' => e' = .returned (.int .i64 (cwrC x e).1) ∧ MAt w' m b (cwrC x e).2 ∧ Fr [b] w w' := by
  have hc := Lib.hid (mtClose_w h e he)
  clear h
  unfold pt at *
  go_enter Try.func20, Try.ntmps20
  go_wp2_with (go_at_call 38; refine hc.out.mono ?_; rintro e' w' ⟨rfl, hm, hf⟩)
  go_ret
  exact ⟨rfl, hm, hf⟩
theorem mtCloseRead_any (h : MAt w m b x) (e : Int) (he : I64 e) : Calls Try.prog 21 #[pt m, .int .i64 e] w fun e' w' => e' = .returned (.int .i64 (crdC x e).1) ∧ MAt w' m b (crdC x e).2 ∧ Fr [b] w w' := by
  have hc := Lib.hid (mtClose_r h e he)
  clear h
  unfold pt at *
  go_enter Try.func21, Try.ntmps21
  go_wp2_with (go_at_call 38; refine hc.out.mono ?_; rintro e' w' ⟨rfl, hm, hf⟩)
  go_ret
  exact ⟨rfl, hm, hf⟩
theorem mtCloseWrite_no {v : Value} (h : NoM w v) (e : Int) : Calls Try.prog 20 #[v, .int .i64 e] w fun e' w' => e' = .returned (.int .i64 1) ∧ w' = w := by
  have hc := Lib.hid (mtClose_no h 1 e)
  obtain ⟨a, rfl⟩ : ∃ a, v = .pointer a := by rcases h with h | ⟨q, h, _⟩ <;> exact ⟨_, h⟩
  clear h
  go_enter Try.func20, Try.ntmps20
  go_wp2_with (go_at_call 38; refine hc.out.mono ?_; rintro e' w' ⟨rfl, rfl⟩)
  go_ret
  exact ⟨rfl, rfl⟩
theorem mtCloseRead_no {v : Value} (h : NoM w v) (e : Int) : Calls Try.prog 21 #[v, .int .i64 e] w fun e' w' => e' = .returned (.int .i64 1) ∧ w' = w := by
  have hc := Lib.hid (mtClose_no h 0 e)
  obtain ⟨a, rfl⟩ : ∃ a, v = .pointer a := by rcases h with h | ⟨q, h, _⟩ <;> exact ⟨_, h⟩
  clear h
  go_enter Try.func21, Try.ntmps21
  go_wp2_with (go_at_call 38; refine hc.out.mono ?_; rintro e' w' ⟨rfl, rfl⟩)
  go_ret
  exact ⟨rfl, rfl⟩
end
end Go.Proofs.Ytophkjnniodegaa
