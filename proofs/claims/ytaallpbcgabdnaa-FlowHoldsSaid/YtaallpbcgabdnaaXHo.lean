/- FlowHolds without any memory. -/
import Derived.Test.YtaallpbcgabdnaaXSmall
import Derived.Deep.DeepCutAuto
import Derived.Deep.CutBlock
namespace Go.Proofs.Ytaallpbcgabdnaa
open Go.RowKit Go.Sort
set_option linter.unusedVariables false
set_option linter.unusedSimpArgs false

/-- What the law keeps beside a stream: what was written, what was read, the error of the writing end, whether the reading end is closed. -/
structure HoF (c : Nat) (x : Ft) (so st : ByteArray) (wc : Int) (dr : Bool) (k : Nat) : Prop where
  cap : x.c = c
  ex : ∃ A D, so = strB (A ++ D) ∧ st = strB A ∧ (x.rd = 0 → D = x.S) ∧ (A ++ D).length ≤ k * 12000
  wr : x.wr = wc
  dr : decide (x.rd ≠ 0) = dr
theorem HoF.new (c : Nat) : HoF c (Ft.new c) ⟨#[]⟩ ⟨#[]⟩ 0 false 0 := ⟨rfl, ⟨[], [], rfl, rfl, fun _ => rfl, by simp⟩, rfl, rfl⟩
section
variable {c : Nat} {x : Ft} {so st : ByteArray} {wc : Int} {dr : Bool} {k : Nat}
theorem HoF.sizes (h : HoF c x so st wc dr k) (hx : x.Ok) : st.size ≤ so.size ∧ so.size ≤ k * 12000 ∧ so.extract 0 st.size = st ∧ (dr = false → x.S.length + st.size = so.size ∧ so.extract st.size so.size = strB x.S) ∧ (dr = true → x.S.length = 0) := by
  obtain ⟨A, D, rfl, rfl, h3, h4⟩ := h.ex
  simp only [strB_size, strB_extract, List.length_append]
  rw [List.length_append] at h4
  refine ⟨by omega, h4, by simp, fun hd => ?_, fun hd => ?_⟩
  · have hr := h.dr
    rw [hd, decide_eq_false_iff_not] at hr
    have hD := h3 (by simpa using hr)
    subst hD
    refine ⟨by omega, ?_⟩
    congr 1
    rw [List.drop_left]
    exact List.take_of_length_le (by omega)
  · have hr := h.dr
    rw [hd, decide_eq_true_eq] at hr
    rw [hx.no hr]
    rfl
set_option maxRecDepth 100000 in
theorem HoF.same (h : HoF c x so st wc dr k) : HoF c x so st wc dr (k + 1) := by
  obtain ⟨A, D, h1, h2, h3, h4⟩ := h.ex
  exact ⟨h.cap, ⟨A, D, h1, h2, h3, by omega⟩, h.wr, h.dr⟩
set_option maxRecDepth 100000 in
theorem HoF.wrote (h : HoF c x so st wc dr k) {L : List UInt8} (hL : L.length ≤ 12000) (n : Nat) (hr : n = 0 ∨ x.rd = 0) (S' : List UInt8) (hS : S' = x.S ++ L.take n) : HoF c { x with S := S' } (so ++ (strB L).extract 0 n) st wc dr (k + 1) := by
  obtain ⟨A, D, h1, h2, h3, h4⟩ := h.ex
  rw [List.length_append] at h4
  refine ⟨h.cap, ⟨A, D ++ L.take n, ?_, h2, fun hr0 => ?_, ?_⟩, h.wr, h.dr⟩
  · rw [h1, strB_extract, strB_append, List.append_assoc]
    simp
  · show D ++ L.take n = S'
    rw [hS, h3 hr0]
  · simp only [List.length_append, List.length_take]
    omega
set_option maxRecDepth 100000 in
theorem HoF.had (h : HoF c x so st wc dr k) (n : Nat) (hr : x.rd = 0) : HoF c { x with S := x.S.drop n } so (st ++ strB (x.S.take n)) wc dr (k + 1) := by
  obtain ⟨A, D, h1, h2, h3, h4⟩ := h.ex
  have hD := h3 hr
  subst hD
  refine ⟨h.cap, ⟨A ++ x.S.take n, x.S.drop n, ?_, ?_, fun _ => rfl, ?_⟩, h.wr, h.dr⟩
  · rw [h1, List.append_assoc, List.take_append_drop]
  · rw [h2, strB_append]
  · rw [List.append_assoc, List.take_append_drop]; omega
theorem HoF.none (h : HoF c x so st wc dr k) : HoF c x so (st ++ strB []) wc dr (k + 1) := by
  have h' := h.same
  have e : st ++ strB [] = st := by
    obtain ⟨A, D, h1, h2, h3, h4⟩ := h.ex
    rw [h2, strB_append, List.append_nil]
  rw [e]
  exact h'
set_option maxRecDepth 100000 in
theorem HoF.cw (h : HoF c x so st wc dr k) (e : Int) : HoF c { x with wr := e } so st e dr (k + 1) := by
  obtain ⟨A, D, h1, h2, h3, h4⟩ := h.ex
  exact ⟨h.cap, ⟨A, D, h1, h2, h3, by omega⟩, rfl, h.dr⟩
set_option maxRecDepth 100000 in
theorem HoF.cr (h : HoF c x so st wc dr k) {e : Int} (he : e ≠ 0) : HoF c { x with rd := e, S := [] } so st wc true (k + 1) := by
  obtain ⟨A, D, h1, h2, h3, h4⟩ := h.ex
  exact ⟨h.cap, ⟨A, D, h1, h2, fun h0 => absurd h0 he, by omega⟩, h.wr, by simp [he]⟩
theorem HoF.rd0 (h : HoF c x so st wc dr k) : dr = false ↔ x.rd = 0 := by
  rw [← h.dr, decide_eq_false_iff_not]
  simp
/-- What a write does: an error and nothing; nothing to write; something. -/
theorem wr_cases (x : Ft) (L : List UInt8) : (∃ (e : Int) (j : Nat), e ≠ 0 ∧ j = 0 ∧ wrC x L = (j, e, x)) ∨ (x.rd = 0 ∧ x.wr = 0 ∧ L.length = 0 ∧ ∃ j : Nat, j = 0 ∧ wrC x L = (j, 0, x)) ∨ (x.rd = 0 ∧ x.wr = 0 ∧ ∃ n, 0 < n ∧ n ≤ L.length ∧ wrC x L = (n, 0, { x with S := x.S ++ L.take n })) := by
  unfold wrC
  by_cases hr : x.rd = 0
  · rw [if_neg (by simp [hr])]
    by_cases hw : x.wr = 0
    · rw [if_neg (by simp [hw])]
      by_cases h0 : L.length = 0
      · rw [if_pos h0]; exact .inr (.inl ⟨hr, hw, h0, 0, rfl, rfl⟩)
      · rw [if_neg h0]
        by_cases hd : x.c - x.S.length = 0
        · rw [if_pos hd]; exact .inl ⟨16, 0, by omega, rfl, rfl⟩
        · rw [if_neg hd]
          exact .inr (.inr ⟨hr, hw, x.n L, by unfold Ft.n; omega, by unfold Ft.n; omega, rfl⟩)
    · rw [if_pos hw]; exact .inl ⟨14, 0, by omega, rfl, rfl⟩
  · rw [if_pos hr]; exact .inl ⟨_, 0, hr, rfl, rfl⟩
/-- What a read does. -/
theorem rd_cases (x : Ft) (hx : x.Ok) (n : Int) : (n < 0 ∧ rdC x n = ([], 2, x)) ∨ (n = 0 ∧ rdC x n = ([], 0, x)) ∨ (0 < n ∧ x.rd ≠ 0 ∧ ∃ e, e ≠ 0 ∧ rdC x n = ([], e, x)) ∨ (0 < n ∧ x.rd = 0 ∧ x.S.length = 0 ∧ x.wr ≠ 0 ∧ rdC x n = ([], x.wr, x)) ∨ (0 < n ∧ x.rd = 0 ∧ x.S.length = 0 ∧ x.wr = 0 ∧ rdC x n = ([], 16, x)) ∨
    (0 < n ∧ x.rd = 0 ∧ 0 < (x.S.take n.toNat).length ∧ ((x.S.take n.toNat).length : Int) ≤ n ∧ rdC x n = (x.S.take n.toNat, 0, { x with S := x.S.drop n.toNat })) := by
  unfold rdC
  by_cases h1 : n < 0
  · rw [if_pos h1]; exact .inl ⟨h1, rfl⟩
  · rw [if_neg h1]
    by_cases h2 : n = 0
    · rw [if_pos h2]; exact .inr (.inl ⟨h2, rfl⟩)
    · rw [if_neg h2]
      by_cases hS : x.S.length = 0
      · rw [if_pos hS]
        by_cases hr : x.rd = 0
        · by_cases hw : x.wr = 0
          · exact .inr (.inr (.inr (.inr (.inl ⟨by omega, hr, hS, hw, by simp [orI, hr, hw]⟩))))
          · exact .inr (.inr (.inr (.inl ⟨by omega, hr, hS, hw, by simp [orI, hr, hw]⟩)))
        · exact .inr (.inr (.inl ⟨by omega, hr, x.rd, hr, by simp [orI, hr]⟩))
      · rw [if_neg hS]
        have hr : x.rd = 0 := Classical.byContradiction fun h => hS (by rw [hx.no h]; rfl)
        exact .inr (.inr (.inr (.inr (.inr ⟨by omega, hr, by rw [List.length_take]; omega, by rw [List.length_take]; omega, rfl⟩))))
theorem cw_cases (x : Ft) (e : Int) : (∃ c, c ≠ 0 ∧ cwC x e = (c, x)) ∨ (e ≠ 0 ∧ cwC x e = (0, { x with wr := e })) := by
  unfold cwC
  by_cases h0 : e = 0
  · rw [if_pos h0]; exact .inl ⟨2, by omega, rfl⟩
  · rw [if_neg h0]
    by_cases h1 : x.wr = 0
    · rw [if_neg (by simp [h1])]; exact .inr ⟨h0, rfl⟩
    · rw [if_pos h1]; exact .inl ⟨8, by omega, rfl⟩
theorem cr_cases (x : Ft) (e : Int) : (∃ c, c ≠ 0 ∧ crC x e = (c, x)) ∨ (e ≠ 0 ∧ crC x e = (0, { x with rd := e, S := [] })) := by
  unfold crC
  by_cases h0 : e = 0
  · rw [if_pos h0]; exact .inl ⟨2, by omega, rfl⟩
  · rw [if_neg h0]
    by_cases h1 : x.rd = 0
    · rw [if_neg (by simp [h1])]; exact .inr ⟨h0, rfl⟩
    · rw [if_pos h1]; exact .inl ⟨8, by omega, rfl⟩
end
end Go.Proofs.Ytaallpbcgabdnaa
