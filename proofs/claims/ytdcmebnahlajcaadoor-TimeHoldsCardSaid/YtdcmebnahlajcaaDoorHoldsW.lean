/- The walk of TimeHolds. -/
import Derived.Test.YtdcmebnahlajcaaDoorClock
import Derived.OpenShut
import Derived.Deep.DeepCutAuto
namespace Go.Proofs.YtdcmebnahlajcaaDoor
open Go.RowKit
set_option linter.unusedVariables false

theorem parse_text (v : Nat) (hv : v < 18446744073709551616) (w : World) (hV : Vars w) :
    Calls Tryd.prog 19 #[.string ⟨(textT v).toArray⟩] w fun e w' => e = .returned (.tuple #[.int .u64 v, .int .i64 0]) ∧ Below w.heap.size w w' := by
  have hl := textT_length v hv
  have h := parse_any ⟨(textT v).toArray⟩ (by simp [ByteArray.size]; omega) w hV
  have e : parseV (⟨(textT v).toArray⟩ : ByteArray).data.toList = .tuple #[.int .u64 v, .int .i64 0] := parseV_ok (by simpa using parseT_text v hv)
  rw [e] at h
  exact h

theorem advT_bounds (n b : Int) (h : n ≤ 18446744073709551615) (hb : b ≤ 18446744073709551615) : n ≤ advT n b ∧ advT n b ≤ 18446744073709551615 := by
  unfold advT
  repeat' split
  all_goals omega
theorem pas_le (t k : Int) (h0 : 0 ≤ t) (h1 : t ≤ 18446744073709551615) (hk : 0 ≤ k) : t ≤ pasT t k := by
  have := addT_bounds t k h0 h1 hk
  unfold pasT
  split <;> omega
theorem pas_eq (t k : Int) : (pasE t k == 0) = (addT t k != 18446744073709551615) := by
  unfold pasE
  by_cases h : addT t k = 18446744073709551615
  · rw [if_pos h, h]; rfl
  · rw [if_neg h]
    have : (addT t k != 18446744073709551615) = true := by simp [h]
    rw [this]; rfl

theorem passT_later (d n l : Int) (h : n ≤ l) (hl : l ≠ 18446744073709551615) (hp : passT d n = true) : passT d l = true := by
  unfold passT at *
  have := of_decide_eq_true hp
  exact decide_eq_true (by omega)

set_option maxHeartbeats 1600000 in
set_option maxRecDepth 100000 in
theorem holds_walk (a b d k : Int) (w : World) (ha : (Lit.int .u64 a).wf = true) (hb : (Lit.int .u64 b).wf = true) (hd : (Lit.int .u64 d).wf = true) (hk : (Lit.int .u64 k).wf = true) (hv : Vars w) :
    Calls Tryd.prog 7 #[.int .u64 a, .int .u64 b, .int .u64 d, .int .u64 k] w fun e w' => e = .returned (.bool true) ∧ Below w.heap.size w w' := by
  obtain ⟨a0, a1⟩ := bounds_u64 ha
  obtain ⟨b0, b1⟩ := bounds_u64 hb
  obtain ⟨d0, d1⟩ := bounds_u64 hd
  obtain ⟨k0, k1⟩ := bounds_u64 hk
  clear ha hb hd hk
  obtain ⟨n, rfl⟩ : ∃ n : Nat, a = n := ⟨a.toNat, by omega⟩
  obtain ⟨l0, l1⟩ := addT_bounds n k a0 a1 k0
  go_enter Tryd.func7, Tryd.ntmps7
  have HV := Lib.hid hv
  clear hv
  go_wp2_with (go_at_call 17; refine (text_any n (by omega) _ HV.out.1).mono ?_; rintro e w1 ⟨rfl, hb1⟩)
  go_wp2_with (go_at_call 19; fail)
  have hv1 := HV.out.below hb1
  refine (parse_text n (by omega) _ hv1).mono ?_
  rintro e w2 ⟨rfl, hb2⟩
  have hbb := hb1.trans (hb2.mono hb1.size)
  clear hv1 hb1 hb2
  go_upto_region 4 with (fail)
  go_cut [41] (fun s wx => s = .bool false ∧ w2 = wx)
  case first =>
    have s0 := subT_bounds n b a1 b0
    by_cases hle : b ≤ n
    · have q : (addT b (subT n b) != n) = false := by rw [addT_subT n b a1 b0 hle]; simp
      go_wp2_with (first | (go_at_call 11; refine (sub_any _ _ _ (by omega) (by omega) (by omega) (by omega)).1.mono ?_; rintro e w' ⟨rfl, rfl⟩) | (go_at_call 9; refine (add_any _ _ _ (by omega) (by omega) (by omega) (by omega)).mono ?_; rintro e w' ⟨rfl, rfl⟩))
      go_meet
      exact ⟨rfl, rfl⟩
    · go_wp2_with (fail)
      go_meet
      exact ⟨rfl, rfl⟩
  case rest =>
    obtain ⟨rfl, rfl⟩ := hcut
    go_upto_region 7 with (go_at_call 9; refine (add_any _ _ _ (by omega) (by omega) (by omega) (by omega)).mono ?_; rintro e w' ⟨rfl, rfl⟩)
    go_cut [62] (fun s wx => s = .bool false ∧ w2 = wx)
    case first =>
      have q0 : (addT n k < n) = False := by simp; omega
      by_cases hl : addT n k = 18446744073709551615
      · have q : (addT n k != 18446744073709551615) = false := by simp [hl]
        clear hl
        go_wp2_with (fail)
        go_meet
        exact ⟨rfl, rfl⟩
      · have q : (addT n k != 18446744073709551615) = true := by simp [hl]
        by_cases hp : passT d n = true
        · have hp2 := passT_later d n (addT n k) (by omega) hl hp
          clear hl
          go_wp2_with (go_at_call 15; refine (pass_any _ _ _ (by omega) (by omega)).1.mono ?_; rintro e w' ⟨rfl, rfl⟩)
          go_meet
          exact ⟨rfl, rfl⟩
        · have hp' : passT d n = false := by simpa using hp
          clear hl hp
          go_wp2_with (go_at_call 15; refine (pass_any _ _ _ (by omega) (by omega)).1.mono ?_; rintro e w' ⟨rfl, rfl⟩)
          go_meet
          exact ⟨rfl, rfl⟩
    case rest =>
      obtain ⟨rfl, rfl⟩ := hcut
      have hv2 := HV.out.below hbb
      by_cases hn : n = 18446744073709551615
      · subst hn
        go_wp2_with (first | (go_at_call 21; refine (new_no _).mono ?_; rintro e w' ⟨rfl, rfl⟩) | (go_at_call 8; refine (known_any _ hv2).mono ?_; rintro e w3 ⟨rfl, hb3⟩))
        go_ret
        exact ⟨rfl, hbb.trans (hb3.mono hbb.size)⟩
      · have qn : ((n : Int) == 18446744073709551615) = false := by simp; omega
        have qm : ((n : Int) != 18446744073709551615) = true := by simp; omega
        go_wp2_with (first | (go_at_call 21; refine (new_ok _ _ qn).mono ?_; rintro e w' ⟨rfl, rfl⟩) | (go_at_call 23; fail))
        have hck := clk_new w2 n
        refine (adv_any _ _ _ _ hck b1).mono ?_
        rintro e w3 ⟨rfl, hck3, ho3⟩
        have hbw : Below w2.heap.size w2 w3 := (one_new w2 _).trans ho3.below
        have hb3 := hbb.trans (hbw.mono hbb.size)
        clear ho3 hck hbw
        obtain ⟨tb1, tb2⟩ := advT_bounds n b a1 b1
        go_upto_region 15 with (fail)
        go_cut [94] (fun s wx => s = .bool false ∧ w3 = wx)
        case first =>
          by_cases hN : b = 18446744073709551615
          · have e1 : (advE n b == 0) = false := by unfold advE; rw [if_pos hN]; rfl
            have e2 : (b != 18446744073709551615) = false := by simp [hN]
            have hge : (n : Int) ≤ b := by omega
            clear hN
            go_wp2_with (go_at_call 28; refine (now_any _ _ _ hck3).mono ?_; rintro e w' ⟨rfl, rfl⟩)
            go_meet
            exact ⟨congrArg Value.bool (decide_eq_false (Int.not_lt.mpr tb1)), rfl⟩
          · have e2 : (b != 18446744073709551615) = true := by simp [hN]
            by_cases hl : b < n
            · have e1 : (advE n b == 0) = false := by unfold advE; rw [if_neg hN, if_pos hl]; rfl
              clear hN
              go_wp2_with (go_at_call 28; refine (now_any _ _ _ hck3).mono ?_; rintro e w' ⟨rfl, rfl⟩)
              go_meet
              exact ⟨congrArg Value.bool (decide_eq_false (Int.not_lt.mpr tb1)), rfl⟩
            · have e1 : (advE n b == 0) = true := by unfold advE; rw [if_neg hN, if_neg hl]; rfl
              clear hN
              go_wp2_with (go_at_call 28; refine (now_any _ _ _ hck3).mono ?_; rintro e w' ⟨rfl, rfl⟩)
              go_meet
              exact ⟨congrArg Value.bool (decide_eq_false (Int.not_lt.mpr tb1)), rfl⟩
        case rest =>
          obtain ⟨rfl, rfl⟩ := hcut
          have pl := pas_le (advT n b) k (by omega) (by omega) k0
          have he := pas_eq (advT n b) k
          go_upto_region 18 with (go_at_call 28; refine (now_any _ _ _ hck3).mono ?_; rintro e w' ⟨rfl, rfl⟩)
          go_wp2_with (go_at_call 25; refine (pas_any _ _ _ _ hck3 (by omega) (by omega) k0 k1).mono ?_; rintro e w4 ⟨rfl, hck4, ho4⟩)
          go_wp2_with (first | (go_at_call 9; refine (add_any _ _ _ (by omega) (by omega) (by omega) (by omega)).mono ?_; rintro e w' ⟨rfl, rfl⟩) | (go_at_call 28; fail))
          refine (now_any _ _ _ hck4).mono ?_
          rintro e w5 ⟨rfl, rfl⟩
          have hb4 := hb3.trans (ho4.below.mono hbb.size)
          have hv4 := HV.out.below hb4
          go_wp2_with (go_at_call 8; refine (known_any _ hv4).mono ?_; rintro e w6 ⟨rfl, hb6⟩)
          go_ret
          exact ⟨rfl, hb4.trans (hb6.mono hb4.size)⟩
end Go.Proofs.YtdcmebnahlajcaaDoor
