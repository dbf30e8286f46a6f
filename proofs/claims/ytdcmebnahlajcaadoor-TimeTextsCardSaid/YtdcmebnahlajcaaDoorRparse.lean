/- The contract of the reference's reading of a text of a time. -/
import Derived.Test.YtdcmebnahlajcaaDoorParse
import Derived.LoopTactic
namespace Go.Proofs.YtdcmebnahlajcaaDoor
open Go.RowKit
open Go.Lib (parseUintB parseUintM NumEnd)
set_option linter.unusedVariables false

/-- Behind k bytes the digits spell v. -/
def Rel (l : List UInt8) (k v : Nat) : Prop := parseUintM 18446744073709551615 0 l = parseUintM 18446744073709551615 v (l.drop k)

theorem parseB_eq (l : List UInt8) (h : l ≠ []) : parseUintB 64 l = parseUintM 18446744073709551615 0 l := by
  have e : (2 : Nat) ^ 64 - 1 = 18446744073709551615 := by decide
  unfold parseUintB
  rw [if_neg h, e]

theorem rel_step {l : List UInt8} {k v : Nat} (h : k < l.length) (hr : Rel l k v) (c0 : 48 ≤ l[k].toNat) (c1 : l[k].toNat ≤ 57) (hv : 10 * v + (l[k].toNat - 48) ≤ 18446744073709551615) : Rel l (k + 1) (10 * v + (l[k].toNat - 48)) := by
  unfold Rel at *
  rw [hr, List.drop_eq_getElem_cons h]
  conv => lhs; unfold parseUintM
  rw [if_pos ⟨c0, c1⟩, if_neg (by omega), if_neg (by omega), Nat.mul_comm v 10]

theorem rel_bad {l : List UInt8} {k v : Nat} (h : k < l.length) (hr : Rel l k v) (hb : ¬ (48 ≤ l[k].toNat ∧ l[k].toNat ≤ 57) ∨ 18446744073709551615 < 10 * v + (l[k].toNat - 48)) (u : Nat) : parseUintB 64 l ≠ .ok u := by
  intro he
  rw [parseB_eq l (by intro e; rw [e] at h; simp at h), hr, List.drop_eq_getElem_cons h] at he
  unfold parseUintM at he
  split at he
  · split at he
    · cases he
    · split at he
      · cases he
      · omega
  · cases he

theorem rel_end {l : List UInt8} {k v : Nat} (h : k = l.length) (h0 : l ≠ []) (hr : Rel l k v) : parseUintB 64 l = .ok v := by
  rw [parseB_eq l h0, hr, h, List.drop_length]
  rfl

/-- What the reference's Parse returns. -/
def rparseV (s : List UInt8) : Value := .tuple #[.int .u64 (parseT s).1, .bool (parseT s).2]
theorem rparseV_ok {s : List UInt8} {u : Nat} (h : parseT s = (u, true)) : rparseV s = .tuple #[.int .u64 u, .bool true] := by
  unfold rparseV; rw [h]
theorem rparseV_no {s : List UInt8} (h : parseT s = (0, false)) : rparseV s = .tuple #[.int .u64 0, .bool false] := by
  unfold rparseV; rw [h]; rfl

set_option maxHeartbeats 1600000 in
theorem rparse_any (s : ByteArray) (hs : s.size ≤ 9223372036854775807) (w : World) :
    Calls Tryd.prog 20 #[.string s] w fun e w' => e = .returned (rparseV s.data.toList) ∧ w = w' := by
  by_cases h : s.data.toList = neverB
  · have HR := Lib.hid (rparseV_ok (s := s.data.toList) (u := 18446744073709551615) (by unfold parseT; rw [if_pos h]))
    have hb : (s.toList == [110, 101, 118, 101, 114]) = true := by
      rw [ByteArray.toList_eq, h]; rfl
    clear h
    go_enter Tryd.func20, Tryd.ntmps20
    go_wp2_with fail
    go_ret2
    exact ⟨by rw [HR.out]; rfl, rfl⟩
  · have hb : (s.toList == [110, 101, 118, 101, 114]) = false := by
      rw [ByteArray.toList_eq, beq_eq_false_iff_ne]; exact h
    have HN := Lib.hid h
    have hlen : s.data.toList.length = s.size := Array.length_toList
    have HL := Lib.hid hlen
    clear h hlen
    by_cases hz : s.size = 0 ∨ 20 < s.size
    · have HR := Lib.hid (rparseV_no (parseT_long s.data.toList (by rw [HL.out]; exact hz)))
      rcases hz with hz | hz
      · have q : ((s.size : Int) == 0) = true := beq_iff_eq.2 (by omega)
        clear hz
        go_enter Tryd.func20, Tryd.ntmps20
        go_wp2_with fail
        go_ret2
        exact ⟨by rw [HR.out]; rfl, rfl⟩
      · have q : ((s.size : Int) == 0) = false := beq_eq_false_iff_ne.2 (by omega)
        go_enter Tryd.func20, Tryd.ntmps20
        go_wp2_with fail
        go_ret2
        exact ⟨by rw [HR.out]; rfl, rfl⟩
    · have q : ((s.size : Int) == 0) = false := beq_eq_false_iff_ne.2 (by omega)
      have q2 : ¬ 20 < s.size := by omega
      have h0 : s.data.toList ≠ [] := by intro e; have := HL.out; rw [e] at this; simp at this; omega
      have H0 := Lib.hid h0
      clear hz h0
      go_enter Tryd.func20, Tryd.ntmps20
      go_wp2_with fail
      go_loop [4, 5] (fun n i => ∃ k v : Nat, k ≤ s.size ∧ v ≤ 18446744073709551615 ∧ i = .int .i64 k ∧ n = .int .u64 v ∧ Rel s.data.toList k v) (fun _ i => s.size - (intOf i).toNat)
      case atStart => exact ⟨0, 0, Nat.zero_le _, Nat.zero_le _, rfl, rfl, rfl⟩
      case round =>
        obtain ⟨k, v, hk, hv, rfl, rfl, hr⟩ := hrel
        have HRel := Lib.hid hr
        clear hr
        by_cases hlt : k < s.size
        · have hkl : k < s.data.toList.length := by rw [HL.out]; exact hlt
          have hg : s.data.toList[k] = s[k] := by rw [Array.getElem_toList]; rfl
          by_cases hd : 48 ≤ s[k].toNat ∧ s[k].toNat ≤ 57
          · by_cases ho : 10 * v + (s[k].toNat - 48) ≤ 18446744073709551615
            · have HS := Lib.hid (rel_step hkl HRel.out (by rw [hg]; exact hd.1) (by rw [hg]; exact hd.2) (by rw [hg]; exact ho))
              rw [hg] at HS
              have h1 : (48 : Int) ≤ s[k].toNat := by omega
              have h2 : (s[k].toNat : Int) ≤ 57 := by omega
              have h3 : (v : Int) ≤ (18446744073709551615 - ((s[k].toNat : Int) - 48)) / 10 := by omega
              have h4 : ((10 * v + (s[k].toNat - 48) : Nat) : Int) = 10 * (v : Int) + ((s[k].toNat : Int) - 48) := by omega
              have H4 := Lib.hid h4
              clear hg hd h4
              go_wp2_with fail
              go_round
              case rel => exact ⟨k + 1, _, by omega, ho, by go_num, by rw [H4.out], HS.out⟩
              case measure => simp [intOf]; omega
            · have HR := Lib.hid (rparseV_no (parseT_bad HN.out (rel_bad hkl HRel.out (.inr (by rw [hg]; omega)))))
              have h1 : (48 : Int) ≤ s[k].toNat := by omega
              have h2 : (s[k].toNat : Int) ≤ 57 := by omega
              have h3 : (18446744073709551615 - ((s[k].toNat : Int) - 48)) / 10 < (v : Int) := by omega
              clear hg hd ho
              go_wp2_with fail
              go_ret2
              exact ⟨by rw [HR.out]; rfl, rfl⟩
          · have HR := Lib.hid (rparseV_no (parseT_bad HN.out (rel_bad hkl HRel.out (.inl (by rw [hg]; exact hd)))))
            by_cases h1 : (48 : Int) ≤ s[k].toNat
            · have h2 : (57 : Int) < s[k].toNat := by omega
              clear hg hd
              go_wp2_with fail
              go_ret2
              exact ⟨by rw [HR.out]; rfl, rfl⟩
            · clear hg hd
              go_wp2_with fail
              go_ret2
              exact ⟨by rw [HR.out]; rfl, rfl⟩
        · have hok := rel_end (l := s.data.toList) (k := k) (by rw [HL.out]; omega) H0.out HRel.out
          have HO := Lib.hid hok
          clear hok
          by_cases ht : textT v = s.data.toList
          · have HR := Lib.hid (rparseV_ok (parseT_ok HN.out HO.out ht))
            have hd : (textT v == s.toList) = true := by
              rw [ByteArray.toList_eq, ht, beq_self_eq_true]
            clear ht
            go_wp2_with (go_at_call 18; refine (rtext_any v (by omega) _).mono ?_; rintro e w' ⟨rfl, rfl⟩)
            go_ret2
            exact ⟨by rw [HR.out]; rfl, rfl⟩
          · have HR := Lib.hid (rparseV_no (parseT_other HN.out HO.out ht))
            have hd : (textT v == s.toList) = false := by
              rw [ByteArray.toList_eq, beq_eq_false_iff_ne]; exact ht
            clear ht
            go_wp2_with (go_at_call 18; refine (rtext_any v (by omega) _).mono ?_; rintro e w' ⟨rfl, rfl⟩)
            go_ret2
            exact ⟨by rw [HR.out]; rfl, rfl⟩
end Go.Proofs.YtdcmebnahlajcaaDoor
