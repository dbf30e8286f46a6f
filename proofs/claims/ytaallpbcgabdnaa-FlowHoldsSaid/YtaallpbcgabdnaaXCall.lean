/- New, usable, buffer, Len, Free, Cap, Closed, CloseWrite, CloseRead. -/
import Derived.Test.YtaallpbcgabdnaaXRing
import Derived.Deep.QuietTactic
import Derived.BigQuiet
namespace Go.Proofs.Ytaallpbcgabdnaa
open Go.RowKit Go.Sort
set_option linter.unusedVariables false
set_option linter.unusedSimpArgs false
section
variable {w : World} {m : Nat} {k : Fb} {x : Ft}
theorem flUsable_yes (h : FAt w m k x) : Calls Try.prog 31 #[pt m] w fun e w' => e = .returned (.bool true) ∧ w = w' := by
  have q := cells_cell (o := 0) h.me rfl
  clear h
  unfold pt at *
  go_enter Try.func31, Try.ntmps31
  go_wp2
  go_ret
  exact ⟨rfl, rfl⟩
theorem flUsable_no {v : Value} (h : NoF w v) : Calls Try.prog 31 #[v] w fun e w' => e = .returned (.bool false) ∧ w = w' := by
  rcases h with rfl | ⟨q, rfl, h2⟩
  · go_enter Try.func31, Try.ntmps31
    go_wp2
    go_ret
    exact ⟨rfl, rfl⟩
  · have k := cells_cell (o := 0) h2 rfl
    clear h2
    unfold pt at *
    go_enter Try.func31, Try.ntmps31
    go_wp2
    go_ret
    exact ⟨rfl, rfl⟩
theorem flBuffer_yes (h : FAt w m k x) : Calls Try.prog 32 #[pt m] w fun e w' => e = .returned (pt k.a) ∧ w = w' := by
  have q := cells_cell (o := 0) h.me rfl
  have q1 := cells_cell (o := 0) h.bd rfl
  have hu := Lib.hid (flUsable_yes h)
  clear h
  unfold pt at *
  go_enter Try.func32, Try.ntmps32
  go_wp2_with (go_at_call 31; refine hu.out.mono ?_; rintro e w' ⟨rfl, rfl⟩)
  go_ret
  exact ⟨rfl, rfl⟩
theorem flBuffer_no {v : Value} (h : NoF w v) : Calls Try.prog 32 #[v] w fun e w' => e = .returned (.pointer none) ∧ w = w' := by
  have hu := Lib.hid (flUsable_no h)
  obtain ⟨a, rfl⟩ : ∃ a, v = .pointer a := by rcases h with h | ⟨q, h, _⟩ <;> exact ⟨_, h⟩
  clear h
  go_enter Try.func32, Try.ntmps32
  go_wp2_with (go_at_call 31; refine hu.out.mono ?_; rintro e w' ⟨rfl, rfl⟩)
  go_ret
  exact ⟨rfl, rfl⟩
theorem flLen_any (h : FAt w m k x) : Calls Try.prog 14 #[pt m] w fun e w' => e = .returned (.int .i64 (x.S.length : Nat)) ∧ w = w' := by
  have hb := Lib.hid (flBuffer_yes h)
  have hl := Lib.hid (rgLen_at h.rg)
  clear h
  unfold pt at *
  go_enter Try.func14, Try.ntmps14
  go_wp2_with (first | (go_at_call 32; refine hb.out.mono ?_; rintro e w' ⟨rfl, rfl⟩) | (go_at_call 33; refine hl.out.mono ?_; rintro e w' ⟨rfl, rfl⟩))
  go_ret
  exact ⟨rfl, rfl⟩
theorem flLen_no {v : Value} (h : NoF w v) : Calls Try.prog 14 #[v] w fun e w' => e = .returned (.int .i64 0) ∧ w = w' := by
  have hb := Lib.hid (flBuffer_no h)
  have hl := Lib.hid (rgLen_nil w)
  obtain ⟨a, rfl⟩ : ∃ a, v = .pointer a := by rcases h with h | ⟨q, h, _⟩ <;> exact ⟨_, h⟩
  clear h
  go_enter Try.func14, Try.ntmps14
  go_wp2_with (first | (go_at_call 32; refine hb.out.mono ?_; rintro e w' ⟨rfl, rfl⟩) | (go_at_call 33; refine hl.out.mono ?_; rintro e w' ⟨rfl, rfl⟩))
  go_ret
  exact ⟨rfl, rfl⟩
theorem flFree_any (h : FAt w m k x) : Calls Try.prog 15 #[pt m] w fun e w' => e = .returned (.int .i64 ((x.c - x.S.length : Nat) : Int)) ∧ w = w' := by
  have hb := Lib.hid (flBuffer_yes h)
  have hl := Lib.hid (rgFree_at h.rg)
  clear h
  unfold pt at *
  go_enter Try.func15, Try.ntmps15
  go_wp2_with (first | (go_at_call 32; refine hb.out.mono ?_; rintro e w' ⟨rfl, rfl⟩) | (go_at_call 34; refine hl.out.mono ?_; rintro e w' ⟨rfl, rfl⟩))
  go_ret
  exact ⟨rfl, rfl⟩
theorem flFree_no {v : Value} (h : NoF w v) : Calls Try.prog 15 #[v] w fun e w' => e = .returned (.int .i64 0) ∧ w = w' := by
  have hb := Lib.hid (flBuffer_no h)
  have hl := Lib.hid (rgFree_nil w)
  obtain ⟨a, rfl⟩ : ∃ a, v = .pointer a := by rcases h with h | ⟨q, h, _⟩ <;> exact ⟨_, h⟩
  clear h
  go_enter Try.func15, Try.ntmps15
  go_wp2_with (first | (go_at_call 32; refine hb.out.mono ?_; rintro e w' ⟨rfl, rfl⟩) | (go_at_call 34; refine hl.out.mono ?_; rintro e w' ⟨rfl, rfl⟩))
  go_ret
  exact ⟨rfl, rfl⟩
theorem flCap_any (h : FAt w m k x) : Calls Try.prog 16 #[pt m] w fun e w' => e = .returned (.int .i64 (x.c : Nat)) ∧ w = w' := by
  have hb := Lib.hid (flBuffer_yes h)
  have hl := Lib.hid (rgCap_at h.rg)
  clear h
  unfold pt at *
  go_enter Try.func16, Try.ntmps16
  go_wp2_with (first | (go_at_call 32; refine hb.out.mono ?_; rintro e w' ⟨rfl, rfl⟩) | (go_at_call 35; refine hl.out.mono ?_; rintro e w' ⟨rfl, rfl⟩))
  go_ret
  exact ⟨rfl, rfl⟩
theorem flCap_no {v : Value} (h : NoF w v) : Calls Try.prog 16 #[v] w fun e w' => e = .returned (.int .i64 0) ∧ w = w' := by
  have hb := Lib.hid (flBuffer_no h)
  have hl := Lib.hid (rgCap_nil w)
  obtain ⟨a, rfl⟩ : ∃ a, v = .pointer a := by rcases h with h | ⟨q, h, _⟩ <;> exact ⟨_, h⟩
  clear h
  go_enter Try.func16, Try.ntmps16
  go_wp2_with (first | (go_at_call 32; refine hb.out.mono ?_; rintro e w' ⟨rfl, rfl⟩) | (go_at_call 35; refine hl.out.mono ?_; rintro e w' ⟨rfl, rfl⟩))
  go_ret
  exact ⟨rfl, rfl⟩
theorem flClosed_any (h : FAt w m k x) : Calls Try.prog 13 #[pt m] w fun e w' => e = .returned (.tuple #[.int .i64 x.wr, .int .i64 x.rd]) ∧ Below w.heap.size w w' := by
  have q := cells_cell (o := 0) h.me rfl
  have k1 := cells_cell (o := 1) h.bd rfl
  have k2 := cells_cell (o := 2) h.bd rfl
  have hu := Lib.hid (flUsable_yes h)
  clear h
  unfold pt at *
  go_enter Try.func13, Try.ntmps13
  go_wp2_with (go_at_call 31; refine hu.out.mono ?_; rintro e w' ⟨rfl, rfl⟩)
  go_quiet (fail)
  go_wp2_with fail
  go_ret2
  exact ⟨rfl, (Grn.refl _).drew _ |>.below⟩
theorem flClosed_no {v : Value} (h : NoF w v) : Calls Try.prog 13 #[v] w fun e w' => e = .returned (.tuple #[.int .i64 0, .int .i64 0]) ∧ w = w' := by
  have hu := Lib.hid (flUsable_no h)
  obtain ⟨a, rfl⟩ : ∃ a, v = .pointer a := by rcases h with h | ⟨q, h, _⟩ <;> exact ⟨_, h⟩
  clear h
  go_enter Try.func13, Try.ntmps13
  go_wp2_with (go_at_call 31; refine hu.out.mono ?_; rintro e w' ⟨rfl, rfl⟩)
  go_ret2
  exact ⟨rfl, rfl⟩
/-- What close answers. -/
def cloC (r e : Int) : Int := if e = 0 then 2 else if r ≠ 0 then 8 else 0
theorem flClose_w (h : FAt w m k x) (e : Int) (he : I64 e) : Calls Try.prog 40 #[pt m, .int .i64 1, .int .i64 e] w fun e' w' => e' = .returned (.int .i64 (cwC x e).1) ∧ FAt w' m k (cwC x e).2 ∧ Fr k.F w w' := by
  have q := cells_cell (o := 0) h.me rfl
  have k2 := cells_cell (o := 2) h.bd rfl
  have z := cells_free h.bd
  have hu := Lib.hid (flUsable_yes h)
  have H := Lib.hid h
  have hlt := lt_of_block h.bd
  have hok := Lib.hid (cwC_ok h.ok he)
  unfold cwC at *
  obtain ⟨r, hr⟩ : ∃ r, r = x.wr := ⟨_, rfl⟩
  by_cases h0 : e = 0
  · subst h0
    rw [if_pos rfl]
    clear h
    unfold pt at *
    go_enter Try.func40, Try.ntmps40
    go_wp2_with (go_at_call 31; refine hu.out.mono ?_; rintro e w' ⟨rfl, rfl⟩)
    go_ret
    exact ⟨rfl, H.out, Fr.refl _ _⟩
  · rw [if_neg h0] at hok ⊢
    have q0 : (e == 0) = false := by simp [h0]
    by_cases hw : x.wr = 0
    · rw [if_neg (by simp [hw])] at hok ⊢
      rw [hw] at k2
      have HW := Lib.hid hw
      have H0 := Lib.hid h0
      clear h hw hr h0
      unfold pt at *
      go_enter Try.func40, Try.ntmps40
      go_wp2_with (go_at_call 31; refine hu.out.mono ?_; rintro e w' ⟨rfl, rfl⟩)
      go_ret
      have e1 := cells_set H.out.bd 2 (.int .i64 e)
      exact ⟨rfl, H.out.body (fr_setCell w ⟨k.b, 2, none⟩ (.int .i64 e)) (by simpa [pt] using e1) hok.out⟩
    · rw [if_pos hw]
      rw [← hr] at k2 hw
      have q1 : (r != 0) = true := by simp [hw]
      have HW := Lib.hid hw
      have HR := Lib.hid hr
      clear h hw hr h0
      unfold pt at *
      go_enter Try.func40, Try.ntmps40
      go_wp2_with (go_at_call 31; refine hu.out.mono ?_; rintro e w' ⟨rfl, rfl⟩)
      go_ret
      exact ⟨rfl, H.out, Fr.refl _ _⟩
theorem flClose_r (h : FAt w m k x) (e : Int) (he : I64 e) : Calls Try.prog 40 #[pt m, .int .i64 0, .int .i64 e] w fun e' w' => e' = .returned (.int .i64 (cloC x.rd e)) ∧ (e ≠ 0 ∧ x.rd = 0 → w'.heap[k.b]? = some (.cells #[pt k.a, .int .i64 e, .int .i64 x.wr] 68 (0, 0))) ∧ Fr (if e = 0 then [] else if x.rd ≠ 0 then [] else [k.b]) w w' := by
  have q := cells_cell (o := 0) h.me rfl
  have k2 := cells_cell (o := 1) h.bd rfl
  have z := cells_free h.bd
  have hu := Lib.hid (flUsable_yes h)
  have H := Lib.hid h
  have hlt := lt_of_block h.bd
  unfold cloC
  obtain ⟨r, hr⟩ : ∃ r, r = x.rd := ⟨_, rfl⟩
  by_cases h0 : e = 0
  · subst h0
    rw [if_pos rfl, if_pos rfl]
    clear h
    unfold pt at *
    go_enter Try.func40, Try.ntmps40
    go_wp2_with (go_at_call 31; refine hu.out.mono ?_; rintro e w' ⟨rfl, rfl⟩)
    go_ret
    exact ⟨rfl, fun hh => absurd rfl hh.1, Fr.refl _ _⟩
  · rw [if_neg h0, if_neg h0]
    have q0 : (e == 0) = false := by simp [h0]
    by_cases hw : x.rd = 0
    · rw [if_neg (by simp [hw]), if_neg (by simp [hw])]
      rw [hw] at k2
      have HW := Lib.hid hw
      have H0 := Lib.hid h0
      clear h hw hr h0
      unfold pt at *
      go_enter Try.func40, Try.ntmps40
      go_wp2_with (go_at_call 31; refine hu.out.mono ?_; rintro e w' ⟨rfl, rfl⟩)
      go_ret
      have e1 := cells_set H.out.bd 1 (.int .i64 e)
      exact ⟨rfl, fun _ => by simpa [pt] using e1, fr_setCell w ⟨k.b, 1, none⟩ (.int .i64 e)⟩
    · rw [if_pos hw, if_pos hw]
      rw [← hr] at k2 hw
      have q1 : (r != 0) = true := by simp [hw]
      have HW := Lib.hid hw
      have HR := Lib.hid hr
      clear h hw hr h0
      unfold pt at *
      go_enter Try.func40, Try.ntmps40
      go_wp2_with (go_at_call 31; refine hu.out.mono ?_; rintro e w' ⟨rfl, rfl⟩)
      go_ret
      exact ⟨rfl, fun hh => absurd (HR.out.trans hh.2) HW.out, Fr.refl _ _⟩
theorem flClose_no {v : Value} (h : NoF w v) (d e : Int) : Calls Try.prog 40 #[v, .int .i64 d, .int .i64 e] w fun e' w' => e' = .returned (.int .i64 1) ∧ w = w' := by
  have hu := Lib.hid (flUsable_no h)
  obtain ⟨a, rfl⟩ : ∃ a, v = .pointer a := by rcases h with h | ⟨q, h, _⟩ <;> exact ⟨_, h⟩
  clear h
  go_enter Try.func40, Try.ntmps40
  go_wp2_with (go_at_call 31; refine hu.out.mono ?_; rintro e w' ⟨rfl, rfl⟩)
  go_ret
  exact ⟨rfl, rfl⟩
theorem flCloseWrite_any (h : FAt w m k x) (e : Int) (he : I64 e) : Calls Try.prog 21 #[pt m, .int .i64 e] w fun e' w' => e' = .returned (.int .i64 (cwC x e).1) ∧ FAt w' m k (cwC x e).2 ∧ Fr k.F w w' := by
  have hc := Lib.hid (flClose_w h e he)
  clear h
  unfold pt at *
  go_enter Try.func21, Try.ntmps21
  go_wp2_with (go_at_call 40; refine hc.out.mono ?_; rintro e' w' ⟨rfl, hm, hf⟩)
  go_ret
  exact ⟨rfl, hm, hf⟩
theorem flCloseWrite_no {v : Value} (h : NoF w v) (e : Int) : Calls Try.prog 21 #[v, .int .i64 e] w fun e' w' => e' = .returned (.int .i64 1) ∧ w = w' := by
  have hc := Lib.hid (flClose_no h 1 e)
  obtain ⟨a, rfl⟩ : ∃ a, v = .pointer a := by rcases h with h | ⟨q, h, _⟩ <;> exact ⟨_, h⟩
  clear h
  go_enter Try.func21, Try.ntmps21
  go_wp2_with (go_at_call 40; refine hc.out.mono ?_; rintro e' w' ⟨rfl, rfl⟩)
  go_ret
  exact ⟨rfl, rfl⟩
theorem flCloseRead_no {v : Value} (h : NoF w v) (e : Int) : Calls Try.prog 23 #[v, .int .i64 e] w fun e' w' => e' = .returned (.int .i64 1) ∧ w = w' := by
  have hc := Lib.hid (flClose_no h 0 e)
  obtain ⟨a, rfl⟩ : ∃ a, v = .pointer a := by rcases h with h | ⟨q, h, _⟩ <;> exact ⟨_, h⟩
  clear h
  go_enter Try.func23, Try.ntmps23
  go_wp2_with (go_at_call 40; refine hc.out.mono ?_; rintro e' w' ⟨rfl, rfl⟩)
  go_ret
  exact ⟨rfl, rfl⟩
theorem flCloseRead_any (h : FAt w m k x) (e : Int) (he : I64 e) : Calls Try.prog 23 #[pt m, .int .i64 e] w fun e' w' => e' = .returned (.int .i64 (crC x e).1) ∧ FAt w' m k (crC x e).2 ∧ Fr k.F w w' := by
  have hc := Lib.hid (flClose_r h e he)
  have H := Lib.hid h
  unfold cloC at hc
  unfold crC
  by_cases h0 : e = 0
  · rw [if_pos h0, if_pos h0] at hc
    rw [if_pos h0]
    clear h h0
    unfold pt at *
    go_enter Try.func23, Try.ntmps23
    go_wp2_with (go_at_call 40; refine hc.out.mono ?_; rintro e' w' ⟨rfl, -, hf⟩)
    go_ret
    exact ⟨rfl, H.out.fr hf (by simp) (by simp) (by simp) (by simp) (by simp), hf.mono (by simp)⟩
  · rw [if_neg h0, if_neg h0] at hc
    rw [if_neg h0]
    by_cases h1 : x.rd = 0
    · rw [if_neg (by simp [h1]), if_neg (by simp [h1])] at hc
      rw [if_neg (by simp [h1])]
      have H0 := Lib.hid (And.intro h0 h1)
      have hok := crC_ok h.ok he
      unfold crC at hok
      rw [if_neg h0, if_neg (by simp [h1])] at hok
      have HOK := Lib.hid hok
      clear h h0 h1 hok
      unfold pt at hc ⊢
      go_enter Try.func23, Try.ntmps23
      go_wp2_with (go_at_call 40; fail)
      refine hc.out.mono ?_
      rintro e' w1 ⟨rfl, hb0, hf⟩
      have hb := hb0 H0.out
      clear hb0
      have hme := hf.same H.out.me (by simpa using ne_types H.out.me H.out.bd (by decide))
      have hrg : RAt w1 k.a k.bb k.cc x.c x.S := by
        have h1 := H.out.rg
        obtain ⟨cp, f, xs, R⟩ := h1
        obtain ⟨r, hr, _⟩ := R.tc
        exact H.out.rg.fr hf (by simpa using ne_types R.ta H.out.bd (by decide)) (by simpa using ne_types R.tb H.out.bd (by decide)) (by simpa using ne_types hr H.out.bd (by decide))
      have q0 := cells_cell (o := 0) hme rfl
      have q1 := cells_cell (o := 0) hb rfl
      have HRS := Lib.hid (rgReset_at hrg)
      have HB := Lib.hid hb
      have HF := Lib.hid hf
      have HM := Lib.hid hme
      have HRG := Lib.hid hrg
      clear hb hf hme hrg
      unfold pt at q0 q1 HRS
      go_wp2_with (go_at_call 43; fail)
      refine HRS.out.mono ?_
      rintro e' w2 ⟨rfl, hr2, hf2⟩
      have hm2 : m ∉ [k.bb, k.cc] := by
        obtain ⟨cp, f, xs, R⟩ := HRG.out
        obtain ⟨r, hr, _⟩ := R.tc
        simp only [List.mem_cons, List.not_mem_nil, or_false, not_or]
        exact ⟨ne_types HM.out R.tb (by decide), ne_types HM.out hr (by decide)⟩
      have hb2 : k.b ∉ [k.bb, k.cc] := by
        obtain ⟨cp, f, xs, R⟩ := HRG.out
        obtain ⟨r, hr, _⟩ := R.tc
        simp only [List.mem_cons, List.not_mem_nil, or_false, not_or]
        exact ⟨ne_types HB.out R.tb (by decide), ne_types HB.out hr (by decide)⟩
      have HR2 : Hid (FAt w2 m k { x with rd := e, S := [] } ∧ Fr k.F w w2) := Lib.hid ⟨⟨HOK.out, hf2.same HM.out hm2, hf2.same HB.out hb2, hr2⟩,
        (HF.out.mono (fun i hi => .inl (by simp only [Fb.F, List.mem_cons, List.not_mem_nil, or_false] at hi ⊢; exact .inl hi))).trans (hf2.mono (G := k.F) (fun i hi => .inl (by simp only [Fb.F, List.mem_cons, List.not_mem_nil, or_false] at hi ⊢; exact .inr hi))) (fun _ hi => .inl hi)⟩
      clear hr2 hf2 hm2 hb2
      go_wp2_with fail
      go_ret
      exact ⟨rfl, HR2.out⟩
    · rw [if_pos h1, if_pos h1] at hc
      rw [if_pos h1]
      clear h h0 h1
      unfold pt at *
      go_enter Try.func23, Try.ntmps23
      go_wp2_with (go_at_call 40; refine hc.out.mono ?_; rintro e' w' ⟨rfl, -, hf⟩)
      go_ret
      exact ⟨rfl, H.out.fr hf (by simp) (by simp) (by simp) (by simp) (by simp), hf.mono (by simp)⟩
end
theorem flNew_bad (w : World) (c : Int) (h : c < 1 ∨ 4096 < c) : Calls Try.prog 10 #[.int .i64 c] w fun e w' => e = .returned (.tuple #[.pointer none, .int .i64 2]) ∧ w = w' := by
  have hn := Lib.hid (Rg.new_bad w c h)
  clear h
  go_enter Try.func10, Try.ntmps10
  go_wp2_with (go_at_call 26; refine hn.out.mono ?_; rintro e w' ⟨rfl, rfl⟩)
  go_ret2
  exact ⟨rfl, rfl⟩
/-- All blocks of a stream are new. -/
def NewK (n m : Nat) (k : Fb) : Prop := n ≤ m ∧ n ≤ k.b ∧ n ≤ k.a ∧ n ≤ k.bb ∧ n ≤ k.cc
theorem flNew_ok (w : World) {c : Nat} (h1 : 1 ≤ c) (h2 : c ≤ 4096) : Calls Try.prog 10 #[.int .i64 (c : Nat)] w fun e w' => ∃ m k, e = .returned (.tuple #[pt m, .int .i64 0]) ∧ FAt w' m k (Ft.new c) ∧ NewK w.heap.size m k ∧ Below w.heap.size w w' := by
  have hn := Lib.hid (rgNew_ok w h1 h2)
  have HOK := Lib.hid (Ft.Ok.new h1 h2)
  clear h1 h2
  go_enter Try.func10, Try.ntmps10
  go_wp2_with (go_at_call 26; fail)
  refine hn.out.mono ?_
  rintro e w1 ⟨a, bb, cc, rfl, hr, ha, hb, hc, hbl⟩
  have HR := Lib.hid hr
  have HB := Lib.hid hbl
  have HA := Lib.hid (And.intro ha (And.intro hb hc))
  clear hr hbl ha hb hc hn
  unfold pt
  go_wp2_with fail
  go_ret2
  have b1 := below_alloc w1 (.cells #[.pointer (some ⟨a, 0, none⟩), .int .i64 0, .int .i64 0] 68)
  have b2 := below_alloc (w1.alloc (.cells #[.pointer (some ⟨a, 0, none⟩), .int .i64 0, .int .i64 0] 68)) (.cells #[.pointer (some { block := w1.heap.size, off := 0 })] 56)
  have hbb := b1.trans (b2.mono (by simp))
  have hsz := HB.out.size
  refine ⟨w1.heap.size + 1, ⟨w1.heap.size, a, bb, cc⟩, rfl, ⟨HOK.out, block_new _ _ _ (by simp), (b2.block w1.heap.size (by simp)).trans (heap_alloc_new w1 _), HR.out.grown hbb⟩, ⟨by omega, hsz, HA.out.1, HA.out.2.1, HA.out.2.2⟩, HB.out.trans (hbb.mono hsz)⟩
end Go.Proofs.Ytaallpbcgabdnaa
