/- The places of a ring, cut into at most two pieces. -/
import Derived.Test.YtilafgemgdjfhaaBRing
namespace Go.Proofs.Ytilafgemgdjfhaa
open Go.RowKit Go.Sort
set_option linter.unusedVariables false
set_option linter.unusedSimpArgs false

/-- What pieces returns: h places from the place v on, and t from the beginning. -/
structure PcR (w : World) (cc v h t : Nat) (e : Ending) (w' : World) : Prop where
  ex : ∃ a1 a2 k, e = .returned (.tuple #[.slice a1 h h, .slice a2 t t]) ∧ (0 < h → a1 = some ⟨cc, v, none⟩) ∧ (0 < t → a2 = some ⟨cc, 0, none⟩) ∧ w' = w.drewN k

set_option maxHeartbeats 1600000 in
theorem pieces_at {w : World} {bb cc cp c f : Nat} (c0 : w.cell? ⟨bb, 0, none⟩ = some (.slice (some ⟨cc, 0, none⟩) c cp)) (c1 : w.cell? ⟨bb, 1, none⟩ = some (.int .i64 f)) (h3 : f < c) (h4 : c ≤ 4096) (h6 : c ≤ cp) (h7 : cp ≤ maxLen)
    (o n v p t : Nat) (h0 : o + n ≤ c) (hv : ((f : Int) + (o : Int)).tmod (c : Int) = (v : Int)) (hvc : v < c) (ho : (p = n ∧ n ≤ c - v) ∨ (p = c - v ∧ c - v < n)) (ht : t = n - p) :
    Calls Try.prog 28 #[.pointer (some ⟨bb, 0, none⟩), .int .i64 o, .int .i64 n] w (PcR w cc v p t) := by
  have bl2 : bb < w.heap.size := World.block_lt_of_cell? w _ c0
  rcases ho with ⟨rfl, hk⟩ | ⟨hk, hk2⟩
  · obtain rfl : t = 0 := by omega
    clear ht
    have e1 : (f : Int) < (c : Int) := by omega
    have e2 : (c : Int) ≤ 4096 := by omega
    have e3 : (1 : Int) ≤ (c : Int) := by omega
    have e4 : (o : Int) + (p : Int) ≤ (c : Int) := by omega
    have e5 : (v : Int) + (p : Int) ≤ (c : Int) := by omega
    have e6 : (c : Int) ≤ (cp : Int) := by omega
    have r1 : (p : Int) - ((v : Int) + (p : Int) - (v : Int)) = 0 := by omega
    go_enter Try.func28, Try.ntmps28
    go_wp2_with fail
    go_quiet (fail)
    go_wp2_with fail
    go_quiet (fail)
    all_goals go_wp2_with fail
    all_goals go_ret2
    all_goals (by_cases hz : p = 0)
    all_goals (first | (exfalso; omega) | (subst hz; skip) | skip)
    all_goals exact ⟨_, _, _, rfl, fun h => by first | rfl | omega, fun h => by omega, rfl⟩
  · obtain ⟨k, rfl⟩ : ∃ k, c = v + k := ⟨c - v, by omega⟩
    obtain rfl : p = k := by omega
    obtain rfl : n = p + t := by omega
    have ht1 : 1 ≤ t := by omega
    clear ht hk hk2
    rw [Int.natCast_add] at hv
    have e1 : (f : Int) < (v : Int) + (p : Int) := by omega
    have e2 : (v : Int) + (p : Int) ≤ 4096 := by omega
    have e3 : (1 : Int) ≤ (v : Int) + (p : Int) := by omega
    have e4 : (o : Int) + ((p : Int) + (t : Int)) ≤ (v : Int) + (p : Int) := by omega
    have e6 : (v : Int) + (p : Int) ≤ (cp : Int) := by omega
    have r1 : (p : Int) + (t : Int) - ((v : Int) + (p : Int) - (v : Int)) = (t : Int) := by omega
    have e5 : (1 : Int) ≤ (t : Int) := by omega
    have r2 : (v : Int) + ((p : Int) + (t : Int)) = (v : Int) + (p : Int) + (t : Int) := by omega
    go_enter Try.func28, Try.ntmps28
    go_wp2_with fail
    go_quiet (fail)
    go_wp2_with fail
    all_goals go_quiet (fail)
    all_goals go_wp2_with fail
    all_goals (simp only [Nat.add_sub_cancel_left] at *)
    all_goals go_ret2
    all_goals exact ⟨_, _, _, rfl, fun h => by first | rfl | omega, fun h => by first | rfl | omega, World.drewN_drewN _ _ _⟩
end Go.Proofs.Ytilafgemgdjfhaa
