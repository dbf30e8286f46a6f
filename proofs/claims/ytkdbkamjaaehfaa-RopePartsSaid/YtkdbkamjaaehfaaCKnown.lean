/- The law's own functions is, small. -/
import Derived.Test.YtkdbkamjaaehfaaCParts
import Derived.Test.YtkdbkamjaaehfaaCMade
namespace Go.Proofs.Ytkdbkamjaaehfaa
open Go.RowKit Go.Sort
set_option linter.unusedVariables false
set_option linter.unusedSimpArgs false

set_option maxHeartbeats 1600000 in
theorem is_any {w : World} {b : Nat} {v u : Value} {Ps : Parts} (R : RopeAt w b v Ps) (h : SrcV w u (Ps.map encS)) :
    Calls Try.prog 24 #[v, u] w fun e w' => e = .returned (.bool true) ∧ Below w.heap.size w w' := by
  obtain ⟨x1, x2, x3, x4, x5, x6, hv⟩ := R.shape
  obtain ⟨ua, uc, huf, _, _⟩ := h.formS
  have HR := Lib.hid R
  have HU := Lib.hid h
  have hln := R.len
  generalize hN : Ps.length = N at *
  subst hv huf
  have HLN := Lib.hid hN
  clear R h hN
  go_enter Try.func24, Try.ntmps24
  go_wp2_with (go_at_call 12; fail)
  obtain ⟨W, hW⟩ : ∃ W, W = w.alloc (.cells #[.slice x1 x2 x3, .slice x4 x5 x6] 29) := ⟨_, rfl⟩
  have HWB : Hid (Below w.heap.size w W) := Lib.hid (by rw [hW]; exact below_alloc _ _)
  rw [← hW]
  clear hW
  refine (lawParts_any (HR.out.grown HWB.out)).mono ?_
  rintro e w1 ⟨v1, rfl, hr1, hb1⟩
  have HB1 := Lib.hid (HWB.out.trans (hb1.mono HWB.out.size))
  have HR1 := Lib.hid (RowV.src hr1)
  obtain ⟨va, vc, hvf, _, _⟩ := HR1.out.formS
  rw [HLN.out] at hvf
  subst hvf
  unfold rf
  clear hr1 hb1
  have hba := below_alloc w1 (.cells #[.slice va N vc] 34)
  have hsm := Lib.hid (refSame_any (HR1.out.grown hba) ((HU.out.grown HB1.out).grown hba) (by have := HLN.out; omega))
  unfold rf at hsm
  go_wp2_with (go_at_call 13; refine hsm.out.mono ?_; rintro e w2 ⟨rfl, hb2⟩)
  go_ret
  exact ⟨rfl, HB1.out.trans ((hba.trans (hb2.mono hba.size)).mono HB1.out.size)⟩

set_option maxHeartbeats 1600000 in
theorem small_any {w : World} {v : Value} {Ss : Parts} (h : SrcV w v (Ss.map encS)) :
    Calls Try.prog 8 #[v] w fun e w' => ((e = .returned (.bool true) ∧ Ss.length ≤ 1100 ∧ Ss.flatten.length ≤ 70000) ∨ e = .returned (.bool false)) ∧ w = w' := by
  obtain ⟨a, c, rfl, hc1, hc2⟩ := h.formS
  obtain ⟨T, hT⟩ : ∃ T : Nat → Nat, ∀ k, T k = (Ss.take k).flatten.length := ⟨fun k => (Ss.take k).flatten.length, fun _ => rfl⟩
  obtain ⟨N, hN⟩ : ∃ N, N = Ss.length := ⟨_, rfl⟩
  have HT := Lib.hid hT
  have HT0 : Hid (T 0 = 0) := Lib.hid (by rw [hT]; simp)
  have HTN : Hid (Ss.flatten.length = T N) := Lib.hid (by rw [hT, hN, List.take_length])
  have HNE := Lib.hid hN
  have HH := Lib.hid h
  rw [← hN] at hc1 HH ⊢
  have hN2 : (N : Int) ≤ 9223372036854775807 := by unfold maxLen at hc2; omega
  clear h hT hN
  go_enter Try.func8, Try.ntmps8
  go_wp2_with fail
  go_loopw [3, 4] (fun sz i wr => ∃ k, k ≤ N ∧ k ≤ 1101 ∧ sz = .int .i64 ((T k : Nat) : Int) ∧ i = .int .i64 (k : Nat) ∧ Hid (T k ≤ k * 70000) ∧ wr = w) (fun _ i _ => N - (intOf i).toNat)
  case atStart => exact ⟨0, Nat.zero_le _, by omega, by rw [HT0.out]; rfl, rfl, Lib.hid (by rw [HT0.out]; omega), rfl⟩
  case round =>
    obtain ⟨k, hkl, hk2, rfl, rfl, HTK, rfl⟩ := hrel
    have htk : (T k : Int) ≤ 77070000 := by have := HTK.out; omega
    by_cases hlt : k < N
    · have hkl2 : (k : Int) < (N : Int) := by omega
      by_cases hkk : k < 1101
      · have hltP : k < Ss.length := by rw [← HNE.out]; exact hlt
        obtain ⟨b, off, rfl, hbl, hcell⟩ := HH.out.strAt k hltP
        have hst : Hid (T (k + 1) = T k + (Ss[k]).length) := Lib.hid (by rw [HT.out, HT.out, flat_take_succ Ss k hltP, List.length_append])
        have hsz : Hid ((strB Ss[k]).size = (Ss[k]).length) := Lib.hid (strB_size _)
        have hk3 : (k : Int) < 1101 := by omega
        generalize strB Ss[k] = s at *
        generalize (Ss[k]).length = pl at *
        by_cases hbig : (70000 : Int) < (s.size : Int)
        · go_wp2_with fail
          go_ret
          exact ⟨.inr rfl, rfl⟩
        · have hsm : (s.size : Int) ≤ 70000 := by omega
          go_wp2_with fail
          go_roundw
          case rel => exact ⟨k + 1, by omega, by omega, by rw [hst.out, ← hsz.out]; go_num, by go_num, Lib.hid (by have := HTK.out; rw [hst.out, ← hsz.out]; omega), trivial⟩
          case measure => simp [intOf]; omega
      · obtain rfl : k = 1101 := by omega
        have hN3 : (1100 : Int) < (N : Int) := by omega
        go_wp2_with fail
        go_ret
        exact ⟨.inr rfl, rfl⟩
    · obtain rfl : k = N := by omega
      by_cases h1 : (k : Int) ≤ 1100
      · by_cases h2 : (T k : Int) ≤ 70000
        · go_wp2_with fail
          go_ret
          exact ⟨.inl ⟨rfl, by have := HNE.out; omega, by rw [HTN.out]; omega⟩, rfl⟩
        · have h3 : (70000 : Int) < (T k : Int) := by omega
          go_wp2_with fail
          go_ret
          exact ⟨.inr rfl, rfl⟩
      · have h3 : (1100 : Int) < (k : Int) := by omega
        go_wp2_with fail
        go_ret
        exact ⟨.inr rfl, rfl⟩
end Go.Proofs.Ytkdbkamjaaehfaa
