/- The reference: Len, Text, Same. -/
import Derived.Test.YtkdbkamjaaehfaaCTake
namespace Go.Proofs.Ytkdbkamjaaehfaa
open Go.RowKit Go.Sort
set_option linter.unusedVariables false
set_option linter.unusedSimpArgs false

/-- A rope of the reference. -/
def rf (v : Value) : Value := .agg #[v]
theorem SrcV.strAt {w : World} {a : Option Addr} {n c : Nat} {Ss : Parts} (h : SrcV w (.slice a n c) (Ss.map encS)) (k : Nat) (hk : k < Ss.length) : ∃ b off, a = some ⟨b, off, none⟩ ∧ b < w.heap.size ∧ w.cell? ⟨b, off + k, none⟩ = some (.string (strB Ss[k])) := by
  obtain ⟨b, off, h1, h2, h3⟩ := h.at (by rw [List.length_map]; omega)
  exact ⟨b, off, h1, h2, h3 k _ (by simp [hk, encS])⟩
theorem SrcV.formS {w : World} {v : Value} {Ss : Parts} (h : SrcV w v (Ss.map encS)) : ∃ a c, v = .slice a Ss.length c ∧ Ss.length ≤ c ∧ c ≤ maxLen := by
  have := h.form
  rwa [List.length_map] at this

set_option maxHeartbeats 1600000 in
theorem refLen_any {w : World} {v : Value} {Ss : Parts} (h : SrcV w v (Ss.map encS)) (hn : Ss.flatten.length ≤ 300000) (hk : Ss.length ≤ 3000) :
    Calls Try.prog 27 #[rf v] w fun e w' => e = .returned (.int .i64 (Ss.flatten.length : Nat)) ∧ Below w.heap.size w w' := by
  obtain ⟨a, c, rfl, hc1, hc2⟩ := h.formS
  obtain ⟨T, hT⟩ : ∃ T : Nat → Nat, ∀ k, T k = (Ss.take k).flatten.length := ⟨fun k => (Ss.take k).flatten.length, fun _ => rfl⟩
  obtain ⟨N, hN⟩ : ∃ N, N = Ss.length := ⟨_, rfl⟩
  have HT := Lib.hid hT
  have HT0 : Hid (T 0 = 0) := Lib.hid (by rw [hT]; simp)
  have HTN : Hid (Ss.flatten.length = T N) := Lib.hid (by rw [hT, hN, List.take_length])
  have HNE := Lib.hid hN
  have HH := Lib.hid h
  have HN := Lib.hid hn
  rw [HTN.out]
  rw [← hN] at hc1 hk HH ⊢
  have hkI : (N : Int) ≤ 3000 := by omega
  clear h hn hk hT hN
  unfold rf
  go_enter Try.func27, Try.ntmps27
  go_wp2_with fail
  obtain ⟨W, hW⟩ : ∃ W, W = w.alloc (.cells #[.slice a N c] 34) := ⟨_, rfl⟩
  have HWB : Hid (Below w.heap.size w W) := Lib.hid (by rw [hW]; exact below_alloc _ _)
  have hcw : W.cell? ⟨w.heap.size, 0, none⟩ = some (.slice a N c) := by rw [hW]; exact cell_new _ _ _ _ _ _ rfl rfl
  rw [← hW]
  clear hW
  go_loopw [3, 4] (fun sz i wr => ∃ k, k ≤ N ∧ sz = .int .i64 ((T k : Nat) : Int) ∧ i = .int .i64 (k : Nat) ∧ wr = W) (fun _ i _ => N - (intOf i).toNat)
  case atStart => exact ⟨0, Nat.zero_le _, by rw [HT0.out]; rfl, rfl, rfl⟩
  case round =>
    obtain ⟨k, hkl, rfl, rfl, rfl⟩ := hrel
    by_cases hlt : k < N
    · have hltP : k < Ss.length := by rw [← HNE.out]; exact hlt
      obtain ⟨b, off, rfl, hbl, hcell⟩ := HH.out.strAt k hltP
      have hcx := below_cells HWB.out _ _ hcell
      have hbl2 : b < wr.heap.size := by have := HWB.out.size; omega
      have hst : Hid (T (k + 1) = T k + (Ss[k]).length) := Lib.hid (by rw [HT.out, HT.out, flat_take_succ Ss k hltP, List.length_append])
      have hle2 : (T k : Int) + ((Ss[k]).length : Int) ≤ 300000 := by have := HN.out; have := flat_le' Ss k hltP; rw [HT.out]; omega
      have hsz : Hid ((strB Ss[k]).size = (Ss[k]).length) := Lib.hid (strB_size _)
      clear hcell
      generalize strB Ss[k] = s at *
      rw [← hsz.out] at hst hle2
      have hkl2 : (k : Int) < (N : Int) := by omega
      go_wp2_with fail
      go_roundw
      case rel => exact ⟨k + 1, by omega, by rw [hst.out]; go_num, by go_num, trivial⟩
      case measure => simp [intOf]; omega
    · obtain rfl : k = N := by omega
      go_wp2_with fail
      go_ret
      exact ⟨rfl, HWB.out⟩

set_option maxHeartbeats 1600000 in
theorem refText_any {w : World} {v : Value} {Ss : Parts} (h : SrcV w v (Ss.map encS)) (hn : Ss.flatten.length ≤ 300000) (hk : Ss.length ≤ 3000) :
    Calls Try.prog 19 #[rf v] w fun e w' => e = .returned (.string (strB Ss.flatten)) ∧ Below w.heap.size w w' := by
  obtain ⟨a, c, rfl, hc1, hc2⟩ := h.formS
  obtain ⟨T, hT⟩ : ∃ T : Nat → ByteArray, ∀ k, T k = strB (Ss.take k).flatten := ⟨fun k => strB (Ss.take k).flatten, fun _ => rfl⟩
  obtain ⟨N, hN⟩ : ∃ N, N = Ss.length := ⟨_, rfl⟩
  have HT := Lib.hid hT
  have HT0 : Hid (T 0 = ⟨#[]⟩) := Lib.hid (by rw [hT]; rfl)
  have HTN : Hid (strB Ss.flatten = T N) := Lib.hid (by rw [hT, hN, List.take_length])
  have HNE := Lib.hid hN
  have HH := Lib.hid h
  have HN := Lib.hid hn
  rw [HTN.out]
  rw [← hN] at hc1 hk HH ⊢
  have hkI : (N : Int) ≤ 3000 := by omega
  clear h hn hk hT hN
  unfold rf
  go_enter Try.func19, Try.ntmps19
  go_wp2_with fail
  obtain ⟨W, hW⟩ : ∃ W, W = w.alloc (.cells #[.slice a N c] 34) := ⟨_, rfl⟩
  have HWB : Hid (Below w.heap.size w W) := Lib.hid (by rw [hW]; exact below_alloc _ _)
  have hcw : W.cell? ⟨w.heap.size, 0, none⟩ = some (.slice a N c) := by rw [hW]; exact cell_new _ _ _ _ _ _ rfl rfl
  rw [← hW]
  clear hW
  go_loopw [3, 4] (fun sz i wr => ∃ k, k ≤ N ∧ sz = .string (T k) ∧ i = .int .i64 (k : Nat) ∧ wr = W) (fun _ i _ => N - (intOf i).toNat)
  case atStart => exact ⟨0, Nat.zero_le _, by rw [HT0.out], rfl, rfl⟩
  case round =>
    obtain ⟨k, hkl, rfl, rfl, rfl⟩ := hrel
    by_cases hlt : k < N
    · have hltP : k < Ss.length := by rw [← HNE.out]; exact hlt
      obtain ⟨b, off, rfl, hbl, hcell⟩ := HH.out.strAt k hltP
      have hcx := below_cells HWB.out _ _ hcell
      have hbl2 : b < wr.heap.size := by have := HWB.out.size; omega
      have hst : Hid (T (k + 1) = T k ++ strB Ss[k]) := Lib.hid (by rw [HT.out, HT.out, flat_take_succ Ss k hltP, strB_append])
      have hz : (T k).size + (strB Ss[k]).size ≤ 9223372036854775807 := by have := HN.out; have := flat_le' Ss k hltP; rw [HT.out, strB_size, strB_size]; omega
      clear hcell
      generalize strB Ss[k] = s at *
      have hkl2 : (k : Int) < (N : Int) := by omega
      go_wp2_with fail
      go_roundw
      case rel => exact ⟨k + 1, by omega, by rw [hst.out], by go_num, trivial⟩
      case measure => simp [intOf]; omega
    · obtain rfl : k = N := by omega
      go_wp2_with fail
      go_ret
      exact ⟨rfl, HWB.out⟩

set_option maxHeartbeats 1600000 in
theorem refSame_any {w : World} {v u : Value} {Ss : Parts} (h : SrcV w v (Ss.map encS)) (h' : SrcV w u (Ss.map encS)) (hk : Ss.length ≤ 3000) :
    Calls Try.prog 13 #[rf v, rf u] w fun e w' => e = .returned (.bool true) ∧ Below w.heap.size w w' := by
  obtain ⟨a, c, rfl, hc1, hc2⟩ := h.formS
  obtain ⟨a', c', rfl, hc1', hc2'⟩ := h'.formS
  obtain ⟨N, hN⟩ : ∃ N, N = Ss.length := ⟨_, rfl⟩
  have HNE := Lib.hid hN
  have HH := Lib.hid h
  have HH' := Lib.hid h'
  rw [← hN] at hc1 hc1' hk HH HH' ⊢
  have hkI : (N : Int) ≤ 3000 := by omega
  clear h h' hk hN
  unfold rf
  go_enter Try.func13, Try.ntmps13
  go_wp2_with fail
  obtain ⟨W, hW⟩ : ∃ W, W = (w.alloc (.cells #[.slice a N c] 34)).alloc (.cells #[.slice a' N c'] 34) := ⟨_, rfl⟩
  have HWB : Hid (Below w.heap.size w W) := Lib.hid (by rw [hW]; exact (below_alloc _ _).trans ((below_alloc _ _).mono (by simp)))
  have hcw : W.cell? ⟨w.heap.size, 0, none⟩ = some (.slice a N c) := by rw [hW]; exact below_cells (below_alloc _ _) _ _ (cell_new _ _ _ _ _ _ rfl rfl)
  have hcw' : W.cell? ⟨w.heap.size + 1, 0, none⟩ = some (.slice a' N c') := by rw [hW]; exact cell_new _ _ _ _ _ _ (by simp) rfl
  rw [← hW]
  have hws : w.heap.size + 1 < W.heap.size := by rw [hW]; simp
  clear hW
  go_wp2_with fail
  go_loopw [5] (fun i wr => ∃ k n : Nat, k ≤ N ∧ i = .int .i64 (k : Nat) ∧ wr = W.drewN n) (fun i _ => N - (intOf i).toNat)
  case atStart => exact ⟨0, 0, Nat.zero_le _, rfl, rfl⟩
  case round =>
    obtain ⟨k, n, hkl, rfl, rfl⟩ := hrel
    by_cases hlt : k < N
    · have hltP : k < Ss.length := by rw [← HNE.out]; exact hlt
      obtain ⟨b, off, rfl, hbl, hcell⟩ := HH.out.strAt k hltP
      obtain ⟨b', off', rfl, hbl', hcell'⟩ := HH'.out.strAt k hltP
      have hcx := below_cells HWB.out _ _ hcell
      have hcx' := below_cells HWB.out _ _ hcell'
      have hbl2 : b < W.heap.size := by have := HWB.out.size; omega
      have hbl2' : b' < W.heap.size := by have := HWB.out.size; omega
      clear hcell hcell'
      generalize strB Ss[k] = s at *
      have hq : (s.toList == s.toList) = true := by simp
      have hkl2 : (k : Int) < (N : Int) := by omega
      go_wp2_with fail
      go_quiet (fail)
      go_wp2_with fail
      go_roundw
      case rel => exact ⟨k + 1, _, by omega, by go_num, rfl⟩
      case measure => simp [intOf]; omega
    · obtain rfl : k = N := by omega
      go_wp2_with fail
      go_ret
      exact ⟨rfl, HWB.out.trans ((fr_drewN W n []).below (fun _ hx => by simp at hx) HWB.out.size)⟩
end Go.Proofs.Ytkdbkamjaaehfaa
