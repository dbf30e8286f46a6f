/- Calls that came in; the law's few. -/
import Derived.Test.YteimjkmjofaieaaYParts
namespace Go.Proofs.Yteimjkmjofaieaa
open Go.RowKit Go.Sort
set_option linter.unusedVariables false
set_option linter.unusedSimpArgs false
set_option maxRecDepth 100000

structure A14 where
  what : Int
  parts : Parts
  n : Int
/-- A call in memory. -/
def A14At (w : World) (b off i : Nat) (a : A14) : Prop := ∃ pa pl pc,
  w.cell? ⟨b, off + i * 3, none⟩ = some (.int .i64 a.what) ∧ w.cell? ⟨b, off + i * 3 + 1, none⟩ = some (.slice pa pl pc) ∧ w.cell? ⟨b, off + i * 3 + 2, none⟩ = some (.int .i64 a.n) ∧
  PtsV w (.slice pa pl pc) a.parts ∧ a.parts.length = pl ∧ ∀ p ∈ a.parts, p.length ≤ 140737488355328
/-- Calls in memory. -/
def Src14 (w : World) (v : Value) (l : List A14) : Prop := ∃ a c, v = .slice a l.length c ∧ l.length ≤ maxLen ∧ (l.length = 0 ∨ ∃ b off, a = some ⟨b, off, none⟩ ∧ b < w.heap.size ∧ ∀ i (h : i < l.length), A14At w b off i l[i])
theorem A14At.grown {w w' : World} {b off i : Nat} {a : A14} (h : A14At w b off i a) (hb : Below w.heap.size w w') : A14At w' b off i a := by
  obtain ⟨pa, pl, pc, c0, c1, c2, hs, r⟩ := h
  have hc := below_cells hb
  exact ⟨pa, pl, pc, hc _ _ c0, hc _ _ c1, hc _ _ c2, hs.grown hb, r⟩
theorem flat_bound (Ps : Parts) (B : Nat) (h : ∀ p ∈ Ps, p.length ≤ B) : Ps.flatten.length ≤ Ps.length * B := by
  induction Ps with
  | nil => simp
  | cons p Ps ih =>
    have h1 := h p (by simp)
    have h2 := ih fun q hq => h q (by simp [hq])
    simp only [List.flatten_cons, List.length_append, List.length_cons]
    rw [Nat.add_mul, Nat.one_mul]
    omega

set_option maxHeartbeats 1600000 in
theorem few_any {w : World} {v : Value} {l : List A14} (h : Src14 w v l) :
    Calls Try.prog 8 #[v] w fun e w' => ((e = .returned (.bool true) ∧ l.length ≤ 20 ∧ ∀ a ∈ l, a.parts.length ≤ 100 ∧ a.parts.flatten.length ≤ 3000) ∨ e = .returned (.bool false)) ∧ w' = w := by
  obtain ⟨a, c, rfl, hlm, hcase⟩ := h
  obtain ⟨N, hN⟩ : ∃ N, N = l.length := ⟨_, rfl⟩
  have HNE := Lib.hid hN
  have HC := Lib.hid hcase
  have hN2 : (N : Int) ≤ 9223372036854775807 := by unfold maxLen at hlm; omega
  rw [← hN]
  clear hcase hlm hN
  go_enter Try.func8, Try.ntmps8
  go_wp2_with fail
  go_loopw [3, 4] (fun s i wr => ∃ k S : Nat, k ≤ N ∧ (k = 0 ∨ N ≤ 20) ∧ S ≤ k * 14073748835532800 ∧ s = .int .i64 (S : Nat) ∧ i = .int .i64 (k : Nat) ∧ Hid (∀ j (h : j < l.length), j < k → l[j].parts.length ≤ 100 ∧ l[j].parts.flatten.length ≤ S) ∧ wr = w) (fun _ i _ => N - (intOf i).toNat)
  case atStart => exact ⟨0, 0, Nat.zero_le _, .inl rfl, Nat.zero_le _, rfl, rfl, Lib.hid (fun j h hj => absurd hj (by omega)), rfl⟩
  case round =>
    obtain ⟨k, S, hkl, hk20, hS, rfl, rfl, HK, rfl⟩ := hrel
    by_cases hlt : k < N
    · have hltP : k < l.length := by rw [← HNE.out]; exact hlt
      obtain ⟨b, off, rfl, hbl, hac⟩ := HC.out.resolve_left (by omega)
      obtain ⟨pa, pl, pc, c0, c1, c2, hs, hpl, hB⟩ := hac k hltP
      have HS := Lib.hid hs
      have HPL := Lib.hid hpl
      have hkl2 : (k : Int) < (N : Int) := by omega
      by_cases h20 : (20 : Int) < (N : Int)
      · clear hs hpl hB hac c0 c2 hS hk20
        go_wp2_with fail
        go_ret
        exact ⟨.inr rfl, rfl⟩
      · have hN20 : (N : Int) ≤ 20 := by omega
        by_cases h100 : (100 : Int) < (pl : Int)
        · clear hs hpl hB hac c0 c2 hS hk20
          go_wp2_with fail
          go_ret
          exact ⟨.inr rfl, rfl⟩
        · have hp100 : (pl : Int) ≤ 100 := by omega
          have hfl : l[k].parts.flatten.length ≤ 14073748835532800 := by
            have h1 := flat_bound l[k].parts 140737488355328 hB
            have h2 : l[k].parts.length * 140737488355328 ≤ 100 * 140737488355328 := Nat.mul_le_mul_right _ (by omega)
            omega
          have hSz := size_any hs (by omega) (by omega)
          have HSZ := Lib.hid hSz
          obtain ⟨F, hF⟩ : ∃ F, F = l[k].parts.flatten.length := ⟨_, rfl⟩
          rw [← hF] at HSZ hfl
          have HF := Lib.hid hF
          have hSF : (S : Int) + (F : Int) ≤ 1000000000000000000 := by omega
          have HSB : Hid (S + F ≤ (k + 1) * 14073748835532800) := Lib.hid (by omega)
          clear hs hpl hB hac c0 c2 hS hk20 hSz hF hfl
          go_wp2_with (go_at_call 38; fail)
          refine HSZ.out.mono ?_
          rintro e w' ⟨rfl, hw⟩
          subst hw
          go_wp2_with fail
          go_roundw
          case rel => exact ⟨k + 1, S + F, by omega, .inr (by omega), HSB.out, by go_num, by go_num, Lib.hid (fun j hj hjk => by
            by_cases e : j = k
            · subst e
              exact ⟨by rw [HPL.out]; omega, by rw [← HF.out]; omega⟩
            · have := HK.out j hj (by omega)
              exact ⟨this.1, by omega⟩), trivial⟩
          case measure => simp [intOf]; omega
    · obtain rfl : k = N := by omega
      have hSI : (S : Int) ≤ 1000000000000000000 := by
        rcases hk20 with h | h
        · subst h; omega
        · have : k * 14073748835532800 ≤ 20 * 14073748835532800 := Nat.mul_le_mul_right _ h
          omega
      by_cases h3 : (S : Int) ≤ 3000
      · go_wp2_with fail
        go_ret
        exact ⟨.inl ⟨rfl, by have := HNE.out; omega, fun a ha => by
          obtain ⟨j, hj, rfl⟩ := List.getElem_of_mem ha
          have := HK.out j hj (by rw [HNE.out]; exact hj)
          exact ⟨this.1, by omega⟩⟩, rfl⟩
      · have hd : decide ((S : Int) ≤ 3000) = false := by simp; omega
        go_wp2_with fail
        go_ret
        exact ⟨.inr rfl, rfl⟩
end Go.Proofs.Yteimjkmjofaieaa
