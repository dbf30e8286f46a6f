/- The walk of TimeTexts. -/
import Derived.Test.YtdcmebnahlajcaaDoorRparse
import Derived.Test.YtdcmebnahlajcaaDoorKnown
import Derived.OpenShut
namespace Go.Proofs.YtdcmebnahlajcaaDoor
open Go.RowKit
set_option linter.unusedVariables false

theorem parseT_cases (s : List UInt8) : (∃ u, parseT s = (u, true)) ∨ parseT s = (0, false) := by
  unfold parseT
  split
  · exact .inl ⟨_, rfl⟩
  · split
    · split
      · exact .inl ⟨_, rfl⟩
      · exact .inr rfl
    · exact .inr rfl

set_option maxHeartbeats 1600000 in
set_option maxRecDepth 100000 in
theorem texts_walk (a : Int) (s : ByteArray) (w : World) (ha : (Lit.int .u64 a).wf = true) (hs : s.size ≤ maxLen) (hv : Vars w) :
    Calls Tryd.prog 4 #[.int .u64 a, .string s] w fun e w' => e = .returned (.bool true) ∧ Below w.heap.size w w' := by
  obtain ⟨a0, a1⟩ := bounds_u64 ha
  unfold maxLen at hs
  clear ha
  obtain ⟨n, rfl⟩ : ∃ n : Nat, a = n := ⟨a.toNat, by omega⟩
  by_cases hl : 40 < s.size
  · go_enter Tryd.func4, Tryd.ntmps4
    go_wp2_with (first | (go_at_call 8; refine (known_any _ hv).mono ?_; rintro e w3 ⟨rfl, hb3⟩))
    go_ret
    exact ⟨rfl, hb3⟩
  · have q : (textT n == textT n) = true := beq_self_eq_true _
    have HV := Lib.hid hv
    clear hv
    rcases parseT_cases s.data.toList with ⟨u, hu⟩ | hu
    · have hp := parseV_ok hu
      have hr := rparseV_ok hu
      have HP := Lib.hid hp
      have HR := Lib.hid hr
      clear hp hr hu
      go_enter Tryd.func4, Tryd.ntmps4
      go_wp2_with (first | (go_at_call 17; refine (text_any n (by omega) _ HV.out.1).mono ?_; rintro e w1 ⟨rfl, hb1⟩) | (go_at_call 18; refine (rtext_any n (by omega) _).mono ?_; rintro e w' ⟨rfl, rfl⟩) | (go_at_call 19; fail))
      have hv1 := HV.out.below hb1
      have hpa := parse_any s (by omega) _ hv1
      rw [HP.out] at hpa
      refine hpa.mono ?_
      rintro e w2 ⟨rfl, hb2⟩
      have hbb := hb1.trans (hb2.mono hb1.size)
      have hra := rparse_any s hs w2
      rw [HR.out] at hra
      have HRA := Lib.hid hra
      clear hra hpa
      have hv2 := HV.out.below hbb
      go_wp2_with (first | (go_at_call 20; refine HRA.out.mono ?_; rintro e w' ⟨rfl, rfl⟩) | (go_at_call 8; refine (known_any _ hv2).mono ?_; rintro e w3 ⟨rfl, hb3⟩))
      go_ret
      exact ⟨rfl, hbb.trans (hb3.mono hbb.size)⟩
    · have hp := parseV_no hu
      have hr := rparseV_no hu
      have HP := Lib.hid hp
      have HR := Lib.hid hr
      clear hp hr hu
      go_enter Tryd.func4, Tryd.ntmps4
      go_wp2_with (first | (go_at_call 17; refine (text_any n (by omega) _ HV.out.1).mono ?_; rintro e w1 ⟨rfl, hb1⟩) | (go_at_call 18; refine (rtext_any n (by omega) _).mono ?_; rintro e w' ⟨rfl, rfl⟩) | (go_at_call 19; fail))
      have hv1 := HV.out.below hb1
      have hpa := parse_any s (by omega) _ hv1
      rw [HP.out] at hpa
      refine hpa.mono ?_
      rintro e w2 ⟨rfl, hb2⟩
      have hbb := hb1.trans (hb2.mono hb1.size)
      have hra := rparse_any s hs w2
      rw [HR.out] at hra
      have HRA := Lib.hid hra
      clear hra hpa
      have hv2 := HV.out.below hbb
      go_wp2_with (first | (go_at_call 20; refine HRA.out.mono ?_; rintro e w' ⟨rfl, rfl⟩) | (go_at_call 8; refine (known_any _ hv2).mono ?_; rintro e w3 ⟨rfl, hb3⟩))
      go_ret
      exact ⟨rfl, hbb.trans (hb3.mono hbb.size)⟩
end Go.Proofs.YtdcmebnahlajcaaDoor
