/- The comparison of two elements of a heap. -/
import Derived.Test.YtpbnbddjfebenaaDoorHMem
import Derived.StillTailTactics
import Derived.Deep.QuietTactic
import Derived.BigQuiet
import Derived.Outline
namespace Go.Proofs.YtpbnbddjfebenaaDoor
open Go.RowKit Go.Sort
set_option linter.unusedVariables false
set_option linter.unusedSimpArgs false

def cmpI (a b : Int) : Int := if a < b then -1 else if b < a then 1 else 0
def orI (a b : Int) : Int := if a = 0 then b else a
theorem cmpK_or (K : Nat → Kvn) (x y : Nat) : orI (cmpI (K x).key (K y).key) (cmpI (K x).num (K y).num) = cmpK K x y := by
  unfold orI cmpI cmpK
  repeat' split
  all_goals omega

set_option maxHeartbeats 400000 in
theorem cmpT_any (a b : Int) (w : World) : Calls Tryd.prog 49 #[.int .u64 a, .int .u64 b] w fun e w' => e = .returned (.int .i64 (cmpI a b)) ∧ w' = w := by
  by_cases h1 : a < b
  · have he := Lib.hid (show cmpI a b = -1 by unfold cmpI; rw [if_pos h1])
    go_enter Tryd.func49, Tryd.ntmps49
    go_wp2_with go_in
    go_ret
    exact ⟨by rw [he.out]; rfl, rfl⟩
  · by_cases h2 : b < a
    · have he := Lib.hid (show cmpI a b = 1 by unfold cmpI; rw [if_neg h1, if_pos h2])
      go_enter Tryd.func49, Tryd.ntmps49
      go_wp2_with go_in
      go_ret
      exact ⟨by rw [he.out]; rfl, rfl⟩
    · have he := Lib.hid (show cmpI a b = 0 by unfold cmpI; rw [if_neg h1, if_neg h2])
      go_enter Tryd.func49, Tryd.ntmps49
      go_wp2_with go_in
      go_ret
      exact ⟨by rw [he.out]; rfl, rfl⟩

set_option maxHeartbeats 400000 in
theorem cmpU_any (a b : Int) (w : World) : Calls Tryd.prog 50 #[.int .u64 a, .int .u64 b] w fun e w' => e = .returned (.int .i64 (cmpI a b)) ∧ w' = w := by
  by_cases h1 : a < b
  · have he := Lib.hid (show cmpI a b = -1 by unfold cmpI; rw [if_pos h1])
    go_enter Tryd.func50, Tryd.ntmps50
    go_wp2_with go_in
    go_ret
    exact ⟨by rw [he.out]; rfl, rfl⟩
  · by_cases h2 : b < a
    · have he := Lib.hid (show cmpI a b = 1 by unfold cmpI; rw [if_neg h1, if_pos h2])
      go_enter Tryd.func50, Tryd.ntmps50
      go_wp2_with go_in
      go_ret
      exact ⟨by rw [he.out]; rfl, rfl⟩
    · have he := Lib.hid (show cmpI a b = 0 by unfold cmpI; rw [if_neg h1, if_neg h2])
      go_enter Tryd.func50, Tryd.ntmps50
      go_wp2_with go_in
      go_ret
      exact ⟨by rw [he.out]; rfl, rfl⟩

set_option maxHeartbeats 800000 in
theorem or_any (B cap : Nat) (x y : Int) (w : World) (c0 : w.cell? ⟨B, 0, none⟩ = some (.int .i64 x)) (c1 : w.cell? ⟨B, 1, none⟩ = some (.int .i64 y)) :
    Calls Tryd.prog 48 #[.slice (some ⟨B, 0, none⟩) 2 cap] w fun e w' => e = .returned (.int .i64 (orI x y)) ∧ w' = w := by
  go_enter Tryd.func48, Tryd.ntmps48
  go_wp2_with fail
  go_loop [8] (fun i => ∃ k : Nat, k ≤ 2 ∧ (0 < k → x = 0) ∧ (1 < k → y = 0) ∧ i = .int .i64 k) (fun i => 2 - (intOf i).toNat)
  case atStart => exact ⟨0, by omega, by omega, by omega, rfl⟩
  case round =>
    obtain ⟨k, hk, hx, hy, rfl⟩ := hrel
    rcases (by omega : k = 0 ∨ k = 1 ∨ k = 2) with rfl | rfl | rfl
    · clear hx hy
      by_cases h : x = 0
      · subst h
        go_wp2_with fail
        go_round
        case rel => exact ⟨1, by omega, by simp, by omega, by go_num⟩
        case measure => simp [intOf]
      · have q : (x != 0) = true := by simp [h]
        have he := Lib.hid (show orI x y = x by unfold orI; rw [if_neg h])
        clear h
        go_wp2_with fail
        go_ret
        exact ⟨by rw [he.out]; rfl, rfl⟩
    · obtain rfl := hx (by omega)
      clear hx hy
      by_cases h : y = 0
      · subst h
        go_wp2_with fail
        go_round
        case rel => exact ⟨2, by omega, by simp, by simp, by go_num⟩
        case measure => simp [intOf]
      · have q : (y != 0) = true := by simp [h]
        have he := Lib.hid (show orI 0 y = y by unfold orI; rw [if_pos rfl])
        clear h
        go_wp2_with fail
        go_ret
        exact ⟨by rw [he.out]; rfl, rfl⟩
    · obtain rfl := hx (by omega)
      obtain rfl := hy (by omega)
      go_wp2_with fail
      go_ret
      exact ⟨rfl, rfl⟩

set_option maxHeartbeats 1600000 in
set_option maxRecDepth 100000 in
/-- (element).compare: blocks are made. -/
theorem compare_any (a b : Kvn) (i j : Int) (w : World) :
    Calls Tryd.prog 37 #[.agg #[.int .u64 a.key, .int .i64 a.val, .int .u64 a.num, .int .i64 i], .agg #[.int .u64 b.key, .int .i64 b.val, .int .u64 b.num, .int .i64 j]] w fun e w' =>
      e = .returned (.int .i64 (orI (cmpI a.key b.key) (cmpI a.num b.num))) ∧ ∃ q os, w' = grow (w.drewN q) os := by
  have c54 := fun w => cmpT_any a.key b.key w
  have c55 := fun w => cmpU_any a.num b.num w
  generalize cmpI a.key b.key = r1 at c54 ⊢
  generalize cmpI a.num b.num = r2 at c55 ⊢
  obtain ⟨ak, av, an⟩ := a
  obtain ⟨bk, bv, bn⟩ := b
  have d54 := Lib.hid c54
  have d55 := Lib.hid c55
  clear c54 c55
  go_enter Tryd.func37, Tryd.ntmps37
  go_wp2_with fail
  refine wp_region_still_tail 10 (by kernel_rfl) (by kernel_rfl) ?_
  simp only [List.take_succ_cons, List.take_zero, List.drop_succ_cons, List.drop_zero]
  change wpStill _ _ (World.drew _) (fun a' => wpList _ _ _ _ a' (World.drew _)) _ _
  repeat (first | still_step | still_call (d54.out _) | still_call (d55.out _))
  refine wpStill_nil ?_
  go_wp2_with fail
  refine Calls.mono (or_any _ _ r1 r2 _ ?c0 ?c1) ?_
  case c0 => exact cell_new _ _ _ _ _ _ (by simp) rfl
  case c1 => exact cell_new _ _ _ _ _ _ (by simp) rfl
  rintro e w' ⟨rfl, rfl⟩
  go_wp2_with fail
  go_ret
  exact ⟨rfl, 1, _, by rw [alloc_eq_grow, alloc_eq_grow, alloc_eq_grow, grow_grow, grow_grow]; rfl⟩
end Go.Proofs.YtpbnbddjfebenaaDoor
