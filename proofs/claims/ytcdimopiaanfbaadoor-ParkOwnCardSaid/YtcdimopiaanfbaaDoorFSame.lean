/- The reference's Same, of two slices with the same numbers. -/
import Derived.Test.YtcdimopiaanfbaaDoorGRange
import Derived.Deep.QuietTactic
import Derived.BigQuiet
import Derived.LoopTactic
import Derived.Deep.LoopGhost
namespace Go.Proofs.YtcdimopiaanfbaaDoor
open Go.RowKit Go.Sort
set_option linter.unusedVariables false
set_option linter.unusedSimpArgs false

theorem Src.int {w : World} {v : Value} {X : List Int} (h : Src TI w v X) {j : Nat} (hj : j < X.length) : ∃ g off c, v = .slice (some ⟨g, off, none⟩) X.length c ∧ X.length ≤ c ∧ c ≤ maxLen ∧ g < w.heap.size ∧ w.cell? ⟨g, off + j, none⟩ = some (.int .i64 X[j]) := by
  rcases h with ⟨_, rfl⟩ | ⟨g, off, c, h1, h2, h3, h4, h5⟩
  · simp at hj
  · have := h5 j _ (List.getElem?_eq_getElem hj) 0 (.int .i64 X[j]) rfl
    exact ⟨g, off, c, h1, h2, h3, h4, by simpa [TI] using this⟩

set_option maxRecDepth 100000 in
set_option maxHeartbeats 3200000 in
theorem same_yes {w : World} {v u : Value} {X : List Int} (h1 : Src TI w v X) (h2 : Src TI w u X) (hl : X.length ≤ 1000000) :
    Calls Tryd.prog 29 #[v, u] w fun e w' => e = .returned (.bool true) ∧ Grn w w' := by
  obtain ⟨va, vc, rfl, hv1, hv2⟩ := h1.form
  obtain ⟨ua, uc, rfl, hu1, hu2⟩ := h2.form
  have H1 := Lib.hid h1
  have H2 := Lib.hid h2
  obtain ⟨N, hN⟩ : ∃ N, N = X.length := ⟨_, rfl⟩
  have HN := Lib.hid hN
  rw [← hN] at H1 H2 hl hv1 hu1 ⊢
  have g1 : ((N : Nat) : Int) ≤ 1000000 := by omega
  clear h1 h2 hN
  go_enter Tryd.func29, Tryd.ntmps29
  go_wp2
  go_loopw [5] (fun i wr => ∃ k : Nat, k ≤ N ∧ i = .int .i64 (k : Nat) ∧ Hid (Grn w wr)) (fun i _ => N - (intOf i).toNat)
  case atStart => exact ⟨0, Nat.zero_le _, rfl, Lib.hid (Grn.refl _)⟩
  case round =>
    obtain ⟨k, hk, rfl, hg⟩ := hrel
    by_cases hlt : k < N
    · have hkX : k < X.length := by rw [← HN.out]; exact hlt
      obtain ⟨a, o1, c1, e1, _, _, l1, k1⟩ := Src.int (H1.out.grown hg.out.below) hkX
      obtain ⟨b, o2, c2, e2, _, _, l2, k2⟩ := Src.int (H2.out.grown hg.out.below) hkX
      simp only [Value.slice.injEq] at e1 e2
      obtain ⟨rfl, _, rfl⟩ := e1
      obtain ⟨rfl, _, rfl⟩ := e2
      have q3 : (k : Int) < (N : Int) := by omega
      generalize X[k] = x at *
      clear H1 H2 HN hkX
      go_wp2_with fail
      go_quiet (fail)
      have HG := Lib.hid (hg.out.drew nq)
      go_wp2_with fail
      go_roundw
      case rel => exact ⟨k + 1, by omega, by go_num, HG⟩
      case measure => simp [intOf]; omega
    · obtain rfl : k = N := by omega
      clear H1 H2
      go_wp2_with fail
      go_ret
      exact ⟨rfl, hg.out⟩
end Go.Proofs.YtcdimopiaanfbaaDoor
