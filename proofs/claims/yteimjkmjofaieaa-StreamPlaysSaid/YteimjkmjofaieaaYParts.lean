/- Parts that came in: size, the reference's Join. -/
import Derived.Test.YteimjkmjofaieaaYRefF
namespace Go.Proofs.Yteimjkmjofaieaa
open Go.RowKit Go.Sort
set_option linter.unusedVariables false
set_option linter.unusedSimpArgs false
set_option maxRecDepth 100000

/-- Slices of bytes in memory. -/
def PtsV (w : World) (v : Value) (Ps : Parts) : Prop := ∃ vs, SrcV w v vs ∧ RowsB w vs Ps
theorem PtsV.grown {w w' : World} {v : Value} {Ps : Parts} (h : PtsV w v Ps) (hb : Below w.heap.size w w') : PtsV w' v Ps := by
  obtain ⟨vs, h1, h2⟩ := h
  exact ⟨vs, h1.grown hb, Rows.grown h2 hb⟩
theorem PtsV.form {w : World} {v : Value} {Ps : Parts} (h : PtsV w v Ps) : ∃ a c, v = .slice a Ps.length c ∧ Ps.length ≤ c ∧ c ≤ maxLen := by
  obtain ⟨vs, h1, h2⟩ := h
  have hvl : vs.length = Ps.length := by simpa using h2.1
  rw [← hvl]
  exact h1.form

set_option maxHeartbeats 1600000 in
theorem size_any {w : World} {v : Value} {Ps : Parts} (h : PtsV w v Ps) (hn : Ps.flatten.length ≤ 100000000000000000) (hk : Ps.length ≤ 100) :
    Calls Try.prog 38 #[v] w fun e w' => e = .returned (.int .i64 (Ps.flatten.length : Nat)) ∧ w' = w := by
  obtain ⟨vs, hl, hr⟩ := h
  obtain ⟨a, c, rfl, hc1, hc2⟩ := hl.form
  have HL := Lib.hid hl
  have HR := Lib.hid hr
  have HN := Lib.hid hn
  have hvl : vs.length = Ps.length := by simpa using hr.1
  have HVL := Lib.hid hvl
  have HKK := Lib.hid hk
  obtain ⟨T, hT⟩ : ∃ T : Nat → Nat, ∀ k, T k = (Ps.take k).flatten.length := ⟨fun k => (Ps.take k).flatten.length, fun _ => rfl⟩
  have HT := Lib.hid hT
  obtain ⟨N, hN⟩ : ∃ N, N = Ps.length := ⟨_, rfl⟩
  have HT0 : Hid (T 0 = 0) := Lib.hid (by rw [hT]; simp)
  have hTN : Hid (T N = Ps.flatten.length) := Lib.hid (by rw [hT, hN, List.take_length])
  have HNE := Lib.hid hN
  have hkI : (N : Int) ≤ 100 := by omega
  rw [hvl, ← hN] at hc1 ⊢
  clear hT hN hl hr hn hvl hk
  go_enter Try.func38, Try.ntmps38
  go_wp2_with fail
  go_loopw [3, 4] (fun sz i wr => ∃ k, k ≤ N ∧ sz = .int .i64 ((T k : Nat) : Int) ∧ i = .int .i64 (k : Nat) ∧ wr = w) (fun _ i _ => N - (intOf i).toNat)
  case atStart => exact ⟨0, Nat.zero_le _, by rw [HT0.out]; rfl, rfl, rfl⟩
  case round =>
    obtain ⟨k, hkl, rfl, rfl, rfl⟩ := hrel
    by_cases hlt : k < N
    · have hltP : k < Ps.length := by rw [← HNE.out]; exact hlt
      obtain ⟨b, off, rfl, hbl, hcell⟩ := HL.out.at (by have := HVL.out; omega)
      obtain ⟨ak, ck, hvk, hck1, hck2⟩ := HR.out.at k hltP
      have hck := hcell k _ hvk
      have hle := flat_le' Ps k hltP
      have hst : Hid (T (k + 1) = T k + (Ps[k]).length) := Lib.hid (by rw [HT.out, HT.out, flat_take_succ Ps k hltP, List.length_append])
      have hle2 : (T k : Int) + ((Ps[k]).length : Int) ≤ 100000000000000000 := by have := HN.out; rw [HT.out]; omega
      clear hcell hvk hle
      generalize (Ps[k]).length = pl at *
      generalize hS : T k = S at *
      have HS := Lib.hid hS
      clear hS
      have hkl2 : (k : Int) < (N : Int) := by omega
      go_wp2_with fail
      go_roundw
      case rel => exact ⟨k + 1, by omega, by rw [hst.out]; go_num, by go_num, trivial⟩
      case measure => simp [intOf]; omega
    · obtain rfl : k = N := by omega
      go_wp2_with fail
      go_ret
      exact ⟨by rw [hTN.out]; rfl, rfl⟩

set_option maxHeartbeats 1600000 in
theorem sfJoin_any {w : World} {v : Value} {Ps : Parts} (h : PtsV w v Ps) (hn : Ps.flatten.length ≤ 3000) (hk : Ps.length ≤ 100) :
    Calls Try.prog 37 #[v] w fun e w' => ∃ v, e = .returned v ∧ RowB w' w.heap.size v Ps.flatten ∧ Below w.heap.size w w' := by
  obtain ⟨vs, hl, hr⟩ := h
  obtain ⟨a, c, rfl, hc1, hc2⟩ := hl.form
  have HL := Lib.hid hl
  have HR := Lib.hid hr
  have HN := Lib.hid hn
  have hvl : vs.length = Ps.length := by simpa using hr.1
  have HVL := Lib.hid hvl
  have HKK := Lib.hid hk
  obtain ⟨T, hT⟩ : ∃ T : Nat → Nat, ∀ k, T k = (Ps.take k).flatten.length := ⟨fun k => (Ps.take k).flatten.length, fun _ => rfl⟩
  have HT := Lib.hid hT
  obtain ⟨N, hN⟩ : ∃ N, N = Ps.length := ⟨_, rfl⟩
  have HT0 : Hid (T 0 = 0) := Lib.hid (by rw [hT]; simp)
  have hTN : Hid (T N = Ps.flatten.length) := Lib.hid (by rw [hT, hN, List.take_length])
  have HNE := Lib.hid hN
  have hkI : (N : Int) ≤ 100 := by omega
  rw [hvl, ← hN] at hc1 ⊢
  clear hT hN hl hr hn hvl hk
  go_enter Try.func37, Try.ntmps37
  go_wp2_with fail
  go_loopw [3, 4] (fun nv i wr => ∃ j, j ≤ N ∧ Hid (RowV wr 5 w.heap.size nv ((Ps.take j).flatten.map encB)) ∧ i = .int .i64 (j : Nat) ∧ Hid (Below w.heap.size w wr)) (fun _ i _ => N - (intOf i).toNat)
  case atStart => exact ⟨0, Nat.zero_le _, Lib.hid (World.ownsRow_nil _ _ _ _), rfl, Lib.hid (Below.refl _ _)⟩
  case round =>
    obtain ⟨k, hkl, hrow, rfl, hbw⟩ := hrel
    by_cases hlt : k < N
    · have hltP : k < Ps.length := by rw [← HNE.out]; exact hlt
      obtain ⟨b, off, rfl, hbl, hcell⟩ := HL.out.at (by have := HVL.out; omega)
      obtain ⟨ak, ck, hvk, hck1, hck2⟩ := HR.out.at k hltP
      have hck := below_cells hbw.out _ _ (hcell k _ hvk)
      have hsk := HR.out.2 k _ ((Ps[k]).map encB) hvk (by simp [hltP])
      have HSK := Lib.hid (hsk.grown hbw.out)
      have hle := flat_le' Ps k hltP
      have HLE : Hid ((Ps.take k).flatten.length + (Ps[k]).length ≤ 3000) := Lib.hid (by have := HN.out; omega)
      have HFT := Lib.hid (flat_take_succ Ps k hltP)
      have hbl2 : b < wr.heap.size := by have := hbw.out.size; omega
      clear hcell hvk hsk hle hbl
      generalize hpk : Ps[k] = pk at *
      have hkl2 : (k : Int) < (N : Int) := by omega
      go_wp2_with (at_builtin; refine wpList_append_v slcB (by decide) rfl (.tmp 11) (.tmp 15) rfl rfl rfl hrow.out (by have := hbw.out.size; omega) HSK.out (encB_one pk) (by have := HLE.out; simp only [List.length_map]; omega) ?_)
      intro v' w' ho' hf' hn'
      have HO' := Lib.hid ho'
      have HB' := Lib.hid (hbw.out.trans (hf'.below (fun x hx => (hrow.out.lt x (by simpa using hx)).1) hbw.out.size))
      clear ho' hf' hn'
      go_wp2_with fail
      go_roundw
      case rel => exact ⟨k + 1, by omega, Lib.hid (by rw [HFT.out, List.map_append, List.map_flatten, List.map_take]; exact HO'.out), by go_num, HB'⟩
      case measure => simp [intOf]; omega
    · obtain rfl : k = N := by omega
      go_wp2_with fail
      go_ret
      refine ⟨_, rfl, ?_, hbw.out⟩
      have := hrow.out
      rwa [HNE.out, List.take_length] at this
end Go.Proofs.Yteimjkmjofaieaa
