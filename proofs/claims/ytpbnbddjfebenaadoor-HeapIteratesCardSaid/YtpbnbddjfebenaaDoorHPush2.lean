/- New and Push. -/
import Derived.Test.YtpbnbddjfebenaaDoorHMut2
import Derived.Laws.EntriesVeiled
namespace Go.Proofs.YtpbnbddjfebenaaDoor
open Go.RowKit Go.Sort
open BodAt (row_ne row_row_ne)
set_option linter.unusedVariables false
set_option linter.unusedSimpArgs false

def newCells (cb : Nat) : Array Value := #[.slice none 0 0, .int .u64 0, .int .u64 0, .int .u64 0, .int .u64 0, .int .u64 0, .int .u64 0, .int .u64 0, .int .u64 0, .int .u64 0, .int .u64 0, .int .u64 0, .int .u64 0, .int .u64 0, .int .u64 0, .int .u64 0, .int .u64 0, .slice none 0 0, cmpV cb, plV cb, .int .u64 0]

def Bd.empty : Bd := ⟨0, fun _ => default, fun _ => 0, [], fun _ => 0, 0⟩
theorem inv_empty : Inv Bd.empty [] 0 := by
  refine ⟨by show (0 : Nat) ≤ 1024; omega, fun i hi => by show (0 : Nat) < _; omega, fun h hh => ?_, List.Perm.refl _, List.Pairwise.nil, fun e he => (by cases he), fun j hj => (by simp [Bd.empty] at hj), fun j h0 hj => (by simp [Bd.empty] at hj), Int.le_refl _, Int.le_refl _⟩
  simp [bitOf, Bd.empty, hsOf]

set_option maxHeartbeats 1600000 in
set_option maxRecDepth 100000 in
theorem newBody_any (w : World) : Calls Tryd.prog 17 #[] w fun e w' => e = .returned (.pointer (some ⟨w.heap.size, 0, none⟩)) ∧ (w.alloc (.cells (newCells (w.heap.size + 1)) 74)).alloc (.cells #[.pointer (some ⟨w.heap.size, 0, none⟩)] 51) = w' := by
  unfold newCells cmpV plV
  go_enter Tryd.func17, Tryd.ntmps17
  go_wp2_with fail
  go_ret
  exact ⟨rfl, rfl⟩

theorem blockAt_new (w : World) (b cb : Nat) (h : w.heap[b]? = some (.cells (newCells cb) 74 (0, 0))) : BlockAt w b cb (.slice none 0 0) (.slice none 0 0) (fun _ => 0) 0 := by
  refine ⟨_, h, rfl, rfl, fun i hi => ?_, rfl, rfl, rfl, rfl⟩
  match i with
  | 0 | 1 | 2 | 3 | 4 | 5 | 6 | 7 | 8 | 9 | 10 | 11 | 12 | 13 | 14 | 15 => rfl
  | i + 16 => omega

/-- A new heap's blocks. -/
def hpNew (n : Nat) : Hp := ⟨n + 2, n, n + 1, .slice none 0 0, .slice none 0 0⟩
theorem foot_new (n : Nat) : ∀ k, k ∈ (hpNew n).foot → n ≤ k := by
  intro k hk
  simp [Hp.foot, hpNew, Value.ownBlock] at hk
  omega

set_option maxHeartbeats 800000 in
theorem new_any (w : World) : Calls Tryd.prog 5 #[] w fun e w' => e = .returned (hpNew w.heap.size).ptr ∧ HeapAt w' (hpNew w.heap.size) [] 0 ∧ Below w.heap.size w w' := by
  have hb := fun w => newBody_any w
  have HB := Lib.hid hb
  clear hb
  go_enter Tryd.func5, Tryd.ntmps5
  go_wp2_with (go_at_call 17; refine (HB.out _).mono ?_; rintro e w' ⟨rfl, rfl⟩)
  go_ret
  have h0 : ((w.alloc (.cells (newCells (w.heap.size + 1)) 74)).alloc (.cells #[.pointer (some ⟨w.heap.size, 0, none⟩)] 51)).heap[w.heap.size]? = some (.cells (newCells (w.heap.size + 1)) 74 (0, 0)) := by
    rw [Below.heap_alloc _ _ _ (by simp)]; exact block_new w _ _ rfl
  refine ⟨by simp [Hp.ptr, hpNew], ⟨Bd.empty, ⟨?_, ?_, ?_, ?_, ?_⟩, inv_empty⟩, ?_⟩
  · exact block_new _ _ _ (by simp [hpNew])
  · show ((World.alloc _ _).alloc _).heap[w.heap.size + 1]? = _
    rw [Below.heap_alloc _ _ _ (by simp)]
    exact block_new _ _ _ (by simp)
  · refine blockAt_new _ _ _ ?_
    show ((World.alloc _ _).alloc _).heap[w.heap.size]? = _
    rw [Below.heap_alloc _ _ _ (by simp; omega)]
    exact h0
  · exact ⟨[], World.ownsRow_nil _ _ _ _, fun h hh => by simp [Bd.empty] at hh⟩
  · exact World.ownsRow_nil _ _ _ _
  · exact (((Below.refl _ w).alloc (Nat.le_refl _) _).alloc (by simp) _).alloc (by simp; omega) _
end Go.Proofs.YtpbnbddjfebenaaDoor
