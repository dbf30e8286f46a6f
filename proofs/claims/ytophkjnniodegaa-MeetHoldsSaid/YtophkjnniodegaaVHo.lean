/- MeetHolds without any memory. -/
import Derived.Test.YtophkjnniodegaaVDo
import Derived.Deep.DeepCutAuto
import Derived.Deep.CutBlock
namespace Go.Proofs.Ytophkjnniodegaa
open Go.RowKit Go.Sort
set_option linter.unusedVariables false
set_option linter.unusedSimpArgs false

/-- Whether an end is closed. -/
def Mt.cl (x : Mt) : Bool := decide (x.wr ≠ 0) || decide (x.rd ≠ 0)
theorem Mt.cl_false {x : Mt} : x.cl = false ↔ x.wr = 0 ∧ x.rd = 0 := by
  unfold Mt.cl
  by_cases a : x.wr = 0 <;> by_cases q : x.rd = 0 <;> simp [a, q]
/-- What the law keeps beside a stream. -/
structure HoR (x : Mt) (so st : ByteArray) (bi bc : Bool) : Prop where
  so : so = strB x.S
  st : st = strB (x.S.take x.k)
  bi : x.is = bi
  bc : x.cl = bc
theorem HoR.sizes {x : Mt} {so st : ByteArray} {bi bc : Bool} (h : HoR x so st bi bc) (hx : x.Ok) : st.size = x.k ∧ so.size = x.S.length ∧ st.size ≤ so.size ∧ so.size ≤ 65536 ∧ so.extract 0 st.size = st := by
  have h1 : st.size = x.k := by rw [h.st, strB_size, List.length_take]; have := hx.le; omega
  have h2 : so.size = x.S.length := by rw [h.so, strB_size]
  refine ⟨h1, h2, by rw [h1, h2]; exact hx.le, by rw [h2]; exact hx.small, ?_⟩
  rw [h1, h.so, h.st, strB_extract]
  simp
theorem off_cases (x : Mt) (L : List UInt8) : (x.is = true ∧ offC x L = (11, x)) ∨ (x.is = false ∧ x.cl = true ∧ ∃ e, e ≠ 0 ∧ offC x L = (e, x)) ∨ (x.is = false ∧ x.cl = false ∧ offC x L = (0, { x with is := true, S := L, k := 0 })) := by
  unfold offC
  cases hi : x.is with
  | true => exact .inl ⟨rfl, by rw [if_pos rfl]⟩
  | false =>
    rw [if_neg (by simp)]
    by_cases hr : x.rd = 0
    · rw [if_neg (by simp [hr])]
      by_cases hw : x.wr = 0
      · rw [if_neg (by simp [hw])]
        exact .inr (.inr ⟨rfl, Mt.cl_false.2 ⟨hw, hr⟩, rfl⟩)
      · rw [if_pos hw]
        exact .inr (.inl ⟨rfl, by unfold Mt.cl; simp [hw], 14, by omega, rfl⟩)
    · rw [if_pos hr]
      exact .inr (.inl ⟨rfl, by unfold Mt.cl; simp [hr], _, hr, rfl⟩)
theorem tak_cases (x : Mt) (n : Int) : (∃ e, e ≠ 0 ∧ takC x n = ([], e, x)) ∨ (n = 0 ∧ takC x n = ([], 0, x)) ∨ (0 < n ∧ x.cl = false ∧ ∃ p, takC x n = (p, 0, { x with k := x.k + p.length }) ∧ p = x.rest.take n.toNat ∧ 0 < p.length ∧ (p.length : Int) ≤ n) := by
  unfold takC
  by_cases h1 : n < 0
  · rw [if_pos h1]; exact .inl ⟨2, by omega, rfl⟩
  · rw [if_neg h1]
    by_cases h2 : n = 0
    · rw [if_pos h2]; exact .inr (.inl ⟨h2, rfl⟩)
    · rw [if_neg h2]
      by_cases hr : x.rd = 0
      · rw [if_neg (by simp [hr])]
        by_cases hw : x.wr = 0
        · rw [if_neg (by simp [hw])]
          by_cases hl : x.rest.length = 0
          · rw [if_pos hl]; exact .inl ⟨16, by omega, rfl⟩
          · rw [if_neg hl]
            exact .inr (.inr ⟨by omega, Mt.cl_false.2 ⟨hw, hr⟩, _, rfl, rfl, by rw [List.length_take]; omega, by rw [List.length_take]; omega⟩)
        · rw [if_pos hw]; exact .inl ⟨_, hw, rfl⟩
      · rw [if_pos hr]; exact .inl ⟨_, hr, rfl⟩
def Mt.off (x : Mt) : Mt := { x with is := false, S := [], k := 0 }
theorem wit_cases (x : Mt) : (x.is = false ∧ witC x = (0, 9, x)) ∨ (x.is = true ∧ witC x = (((x.k : Nat) : Int), 0, x.off)) := by
  unfold witC Mt.off
  cases hi : x.is with
  | true => right; exact ⟨rfl, by rw [if_neg (by simp)]⟩
  | false => left; exact ⟨rfl, by rw [if_pos rfl]⟩
theorem res_cases (x : Mt) (hx : x.Ok) : (x.is = false ∧ resC x = (0, 9, x)) ∨ (x.is = true ∧ x.cl = false ∧ x.k < x.S.length ∧ resC x = (0, 16, x)) ∨ (x.is = true ∧ x.cl = true ∧ resC x = (((x.k : Nat) : Int), 0, x.off)) ∨ (x.is = true ∧ x.cl = false ∧ x.k = x.S.length ∧ resC x = (((x.k : Nat) : Int), 0, x.off)) := by
  have hr := hx.rest
  have hl := hx.le
  unfold resC
  rcases wit_cases x with ⟨hi, hw⟩ | ⟨hi, hw⟩
  · left; exact ⟨hi, by rw [if_neg (by simp [hi]), hw]⟩
  · cases hc : x.cl with
    | true =>
      right; right; left
      refine ⟨hi, rfl, ?_⟩
      rw [if_neg (fun h => ?_), hw]
      rw [Mt.cl_false.2 ⟨h.2.1, h.2.2.1⟩] at hc
      cases hc
    | false =>
      obtain ⟨h1, h2⟩ := Mt.cl_false.1 hc
      by_cases hk : x.k = x.S.length
      · right; right; right
        exact ⟨hi, rfl, hk, by rw [if_neg (by rw [hr]; omega), hw]⟩
      · right; left
        exact ⟨hi, rfl, by omega, by rw [if_pos ⟨hi, h1, h2, by rw [hr]; omega⟩]⟩
theorem cw_cases (x : Mt) (e : Int) : (∃ c, c ≠ 0 ∧ cwrC x e = (c, x)) ∨ (e ≠ 0 ∧ cwrC x e = (0, { x with wr := e })) := by
  unfold cwrC
  by_cases h0 : e = 0
  · rw [if_pos h0]; exact .inl ⟨2, by omega, rfl⟩
  · rw [if_neg h0]
    by_cases h1 : x.wr = 0
    · rw [if_neg (by simp [h1])]; exact .inr ⟨h0, rfl⟩
    · rw [if_pos h1]; exact .inl ⟨8, by omega, rfl⟩
theorem cr_cases (x : Mt) (e : Int) : (∃ c, c ≠ 0 ∧ crdC x e = (c, x)) ∨ (e ≠ 0 ∧ crdC x e = (0, { x with rd := e })) := by
  unfold crdC
  by_cases h0 : e = 0
  · rw [if_pos h0]; exact .inl ⟨2, by omega, rfl⟩
  · rw [if_neg h0]
    by_cases h1 : x.rd = 0
    · rw [if_neg (by simp [h1])]; exact .inr ⟨h0, rfl⟩
    · rw [if_pos h1]; exact .inl ⟨8, by omega, rfl⟩
section
variable {x : Mt} {so st : ByteArray} {bi bc : Bool}
theorem HoR.offer (h : HoR x so st bi bc) (L : List UInt8) (hc : bc = false) : HoR { x with is := true, S := L, k := 0 } (strB L) ⟨#[]⟩ true false :=
  ⟨rfl, rfl, rfl, by have := h.bc; rw [hc] at this; exact this⟩
theorem HoR.more (h : HoR x so st bi bc) {p : List UInt8} {n : Nat} (hp : p = x.rest.take n) : HoR { x with k := x.k + p.length } so (st ++ strB p) bi bc := by
  refine ⟨h.so, ?_, h.bi, h.bc⟩
  rw [h.st, strB_append]
  congr 1
  show _ = x.S.take (x.k + p.length)
  rw [List.take_add]
  congr 1
  unfold Mt.rest at hp
  rw [hp, List.length_take]
  by_cases q : n ≤ (x.S.drop x.k).length
  · rw [Nat.min_eq_left q]
  · rw [Nat.min_eq_right (by omega), List.take_length, List.take_of_length_le (by omega)]
theorem HoR.same (h : HoR x so st bi bc) : HoR x so (st ++ strB []) bi bc := by
  refine ⟨h.so, ?_, h.bi, h.bc⟩
  rw [h.st, strB_append, List.append_nil]
theorem HoR.off (h : HoR x so st bi bc) : HoR x.off ⟨#[]⟩ ⟨#[]⟩ false bc := ⟨rfl, rfl, rfl, h.bc⟩
theorem HoR.cw (h : HoR x so st bi bc) {e : Int} (he : e ≠ 0) : HoR { x with wr := e } so st bi true := ⟨h.so, h.st, h.bi, by unfold Mt.cl; simp [he]⟩
theorem HoR.cr (h : HoR x so st bi bc) {e : Int} (he : e ≠ 0) : HoR { x with rd := e } so st bi true := ⟨h.so, h.st, h.bi, by unfold Mt.cl; simp [he]⟩
theorem HoR.ne (h : HoR x so st bi bc) (hx : x.Ok) (hk : x.k < x.S.length) : (st.toList == so.toList) = false := by
  rw [h.st, h.so, strB_beq, decide_eq_false_iff_not]
  intro e
  have := congrArg List.length e
  rw [List.length_take] at this
  omega
theorem HoR.eq (h : HoR x so st bi bc) (hk : x.k = x.S.length) : st = so := by
  rw [h.st, h.so, hk, List.take_length]
end
end Go.Proofs.Ytophkjnniodegaa
