/- The contracts of Text and of the reference's text of a time. -/
import Derived.Test.YtdcmebnahlajcaaDoorFmt
import Derived.Test.YtdcmebnahlajcaaDoorNum
import Derived.WalkKit
import Derived.WalkSpells
import Derived.WalkLawsBesides
import Derived.Lib.Hide
namespace Go.Proofs.YtdcmebnahlajcaaDoor
open Go.RowKit Go.Lib

theorem bytes_never : (⟨#[110, 101, 118, 101, 114]⟩ : ByteArray) = ⟨neverB.toArray⟩ := rfl

set_option maxHeartbeats 800000 in
theorem text_any (v : Nat) (hv : v < 18446744073709551616) (w : World) (htab : Lib.TabIs Tryd.prog w "internal/strconv.uint64pow10" .u64 Lib.pow10Tab) :
    Calls Tryd.prog 17 #[.int .u64 v] w fun e w' => e = .returned (.string ⟨(textT v).toArray⟩) ∧ Below w.heap.size w w' := by
  by_cases h : v = 18446744073709551615
  · have e : textT v = neverB := by unfold textT; rw [if_pos h]
    have he := Lib.hid e
    subst h
    clear e
    go_enter Tryd.func17, Tryd.ntmps17
    go_wp2
    go_ret
    exact ⟨by rw [he.out]; rfl, Below.refl _ _⟩
  · have e : textT v = decDigits v := by unfold textT; rw [if_neg h]
    have he := Lib.hid e
    clear e
    have hn : ((v : Int) == 18446744073709551615) = false := by simp; omega
    go_enter Tryd.func17, Tryd.ntmps17
    go_wp2_with (go_at_call 30; refine (formatUint_any v hv _ htab).mono ?_; rintro e w' ⟨rfl, hb⟩)
    go_ret
    exact ⟨by rw [he.out]; rfl, hb⟩

theorem digit_cut (v : Nat) (h : v < 10) : (⟨#[48, 49, 50, 51, 52, 53, 54, 55, 56, 57]⟩ : ByteArray).extract v (v + 1) = ⟨(decDigits v).toArray⟩ := by
  rw [Lib.decDigits_one h]
  have : ∀ v : Fin 10, (⟨#[48, 49, 50, 51, 52, 53, 54, 55, 56, 57]⟩ : ByteArray).extract v.val (v.val + 1) = ⟨[UInt8.ofNat (48 + v.val)].toArray⟩ := by decide +kernel
  exact this ⟨v, h⟩

theorem join_bytes (a b : List UInt8) : (⟨a.toArray⟩ : ByteArray) ++ ⟨b.toArray⟩ = ⟨(a ++ b).toArray⟩ := by
  apply ByteArray.ext
  simp

theorem dec_big (v : Int) (h0 : 0 ≤ v) (h : ¬ v < 10) : decDigits v.toNat = decDigits (v / 10).toNat ++ decDigits (v % 10).toNat := by
  have e1 : (v / 10).toNat = v.toNat / 10 := by omega
  have e2 : (v % 10).toNat = v.toNat % 10 := by omega
  rw [e1, e2, Lib.decDigits_one (i := v.toNat % 10) (by omega)]
  conv => lhs; rw [decDigits, dif_neg (by omega)]

set_option maxHeartbeats 800000 in
theorem digits_any (k : Nat) : ∀ (v : Int) (w : World), 0 ≤ v → v ≤ k → v < 18446744073709551616 →
    Calls Tryd.prog 31 #[.int .u64 v] w fun e w' => e = .returned (.string ⟨(decDigits v.toNat).toArray⟩) ∧ w = w' := by
  induction k with
  | zero =>
    intro v w h0 hk hv
    obtain rfl : v = 0 := by omega
    go_enter Tryd.func31, Tryd.ntmps31
    go_wp2_with fail
    go_ret
    exact ⟨by show _ = Ending.returned (Value.string ⟨(decDigits 0).toArray⟩); rw [← digit_cut 0 (by omega)]; rfl, rfl⟩
  | succ k ih =>
    intro v w h0 hk hv
    have IH := Lib.hid ih
    clear ih
    by_cases h : v < 10
    · have e := digit_cut v.toNat (by omega)
      obtain ⟨n, rfl⟩ : ∃ n : Nat, v = n := ⟨v.toNat, by omega⟩
      have he := Lib.hid e
      clear e
      go_enter Tryd.func31, Tryd.ntmps31
      go_wp2_with fail
      go_ret
      exact ⟨by rw [← he.out]; rfl, rfl⟩
    · have he := Lib.hid (dec_big v h0 h)
      have hb : ¬ 9223372036854775807 < (decDigits (v / 10).toNat).length + (decDigits (v % 10).toNat).length := by
        have a1 := nDigits_le20 (v / 10).toNat (by omega)
        have a2 := nDigits_le20 (v % 10).toNat (by omega)
        rw [decDigits_length, decDigits_length]
        omega
      go_enter Tryd.func31, Tryd.ntmps31
      go_wp2_with fail
      refine (IH.out _ _ (by omega) (by omega) (by omega)).mono ?_
      rintro e w' ⟨rfl, rfl⟩
      go_wp2_with fail
      refine (IH.out _ _ (by omega) (by omega) (by omega)).mono ?_
      rintro e w' ⟨rfl, rfl⟩
      go_wp2_with fail
      go_ret
      exact ⟨by rw [he.out, ← join_bytes]; rfl, rfl⟩

theorem digits_of (v : Nat) (hv : v < 18446744073709551616) (w : World) :
    Calls Tryd.prog 31 #[.int .u64 v] w fun e w' => e = .returned (.string ⟨(decDigits v).toArray⟩) ∧ w = w' :=
  digits_any v v w (by omega) (by omega) (by omega)

set_option maxHeartbeats 800000 in
theorem rtext_any (v : Nat) (hv : v < 18446744073709551616) (w : World) :
    Calls Tryd.prog 18 #[.int .u64 v] w fun e w' => e = .returned (.string ⟨(textT v).toArray⟩) ∧ w = w' := by
  by_cases h : v = 18446744073709551615
  · have e : textT v = neverB := by unfold textT; rw [if_pos h]
    have he := Lib.hid e
    subst h
    clear e
    go_enter Tryd.func18, Tryd.ntmps18
    go_wp2
    go_ret
    exact ⟨by rw [he.out]; rfl, rfl⟩
  · have e : textT v = decDigits v := by unfold textT; rw [if_neg h]
    have he := Lib.hid e
    clear e
    have hn : ((v : Int) == 18446744073709551615) = false := by simp; omega
    go_enter Tryd.func18, Tryd.ntmps18
    go_wp2_with (go_at_call 31; refine (digits_of v hv _).mono ?_; rintro e w' ⟨rfl, rfl⟩)
    go_ret
    exact ⟨by rw [he.out]; rfl, rfl⟩
end Go.Proofs.YtdcmebnahlajcaaDoor
