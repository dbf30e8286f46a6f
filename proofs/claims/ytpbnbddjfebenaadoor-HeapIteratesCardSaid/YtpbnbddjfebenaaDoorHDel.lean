/- slices.Delete of the last element. -/
import Derived.Test.YtpbnbddjfebenaaDoorHMem
import Derived.Deep.RegionLaw
import Derived.Lib.SliceRun
import Derived.Outline
namespace Go.Proofs.YtpbnbddjfebenaaDoor
open Go.RowKit Go.Sort
set_option linter.unusedVariables false
set_option linter.unusedSimpArgs false

theorem infoInt' : (Tryd.prog.info? 3).map (fun i => (i.zero, i.size, i.bytes)) = some (some (.int .i64 0), 1, 8) := by kernel_rfl

set_option maxHeartbeats 3200000 in
set_option maxRecDepth 1000000 in
theorem delete_last (g n cap : Nat) (v0 : Value) (w : World) (hc : w.cell? ⟨g, n, none⟩ = some v0) (hf : w.frozen? ⟨g, n, none⟩ = false) (hcap : n + 1 ≤ cap) (hm : cap ≤ 9223372036854775807) :
    Calls Tryd.prog 47 #[.slice (some ⟨g, 0, none⟩) (n + 1) cap, .int .i64 n, .int .i64 (n + 1 : Nat)] w fun e w' => e = .returned (.slice (some ⟨g, 0, none⟩) n cap) ∧ w' = w.drew.setCell ⟨g, n, none⟩ (.int .i64 0) := by
  have hc' : ∀ j, j < 1 → (w.drew.cell? ⟨g, n + j, none⟩).isSome = true := by
    intro j hj
    obtain rfl : j = 0 := by omega
    show (w.cell? ⟨g, n, none⟩).isSome = true
    rw [hc]; rfl
  have hf' : ∀ j, j < 1 → w.drew.frozen? ⟨g, n + j, none⟩ = false := by
    intro j hj
    obtain rfl : j = 0 := by omega
    exact hf
  have hclear : ∀ ty c, (Builtin.clear_ #[35] ty #[.slice (some ⟨g, n, none⟩) 1 c]).run Tryd.prog w.drew = .ok (.tuple #[]) (w.drew.setCell ⟨g, n, none⟩ (.int .i64 0)) :=
    fun ty c => Lib.run_clear_slice w.drew _ _ ty _ Tryd.underlying35 Tryd.zeroValue3 rfl rfl g n 1 _ (by omega) hc' hf'
  obtain ⟨i0, hi0, hz0, hz1, hz2⟩ := info_parts infoInt'
  have hni : (n : Int) < (cap : Int) := by omega
  have hcapI : (cap : Int) ≤ 9223372036854775807 := by omega
  have q : ((n : Int) == ((n + 1 : Nat) : Int)) = false := by simp; omega
  clear hc hf hc' hf'
  go_enter Tryd.func47, Tryd.ntmps47
  go_wp2_with fail
  have l0 : (0 : Int) ≤ (n : Int) + 1 := by omega
  by_cases hcc : cap = n + 1
  · subst hcc
    have l1 : (n : Int) ≤ (n : Int) + 1 := by omega
    have l2 : (n : Int) + 1 ≤ (n : Int) + 1 := by omega
    go_region_law (refine step_append_room rfl (.tmp 22) (.tmp 25) 35 rfl 3 i0 1 Tryd.underlying35 hi0 hz1 g 0 n (n + 1) (by simp [Act.eval, Act.put]) ⟨g, 0, none⟩ 0 0 [] (by simp [Act.eval, Act.put]) rfl (by simp) (by simp) (by omega) (by simp) ?_; rw [show World.setCells w.drew g (0 + n * 1) [] = w.drew from rfl])
    go_wp2_with fail
    go_ret
    exact ⟨rfl, rfl⟩
  · have l1 : (n : Int) ≤ (cap : Int) := by omega
    have l2 : (n : Int) + 1 ≤ (cap : Int) := by omega
    have l3 : (n : Int) + 1 ≤ (n : Int) + 1 := by omega
    have l4 : ¬ cap = n + 1 := hcc
    go_region_law (refine step_append_room rfl (.tmp 22) (.tmp 25) 35 rfl 3 i0 1 Tryd.underlying35 hi0 hz1 g 0 n cap (by simp [Act.eval, Act.put]) ⟨g, n + 1, none⟩ 0 (cap - (n + 1)) [] (by simp [Act.eval, Act.put, hcc]) rfl (by simp) (by simp) (by omega) (by simp) ?_; rw [show World.setCells w.drew g (0 + n * 1) [] = w.drew from rfl])
    go_wp2_with fail
    go_ret
    exact ⟨rfl, rfl⟩
end Go.Proofs.YtpbnbddjfebenaaDoor
