/- The walk of HeapNil: what the calls say of no heap. -/
import Derived.Test.YtemjdfmbeahieaaDoorLKnown
namespace Go.Proofs.YtemjdfmbeahieaaDoor
open Go.RowKit Go.Sort
set_option linter.unusedVariables false

/-- No heap: usable says no. -/
def Dead (p : Option Addr) (w : World) : Prop := Calls Tryd.prog 31 #[.pointer p] w fun e w' => e = .returned (.bool false) ∧ w = w'

set_option maxHeartbeats 800000 in
theorem push_dead {p : Option Addr} {w : World} (h : Dead p w) (k v : Int) : Calls Tryd.prog 16 #[.pointer p, .int .u64 k, .int .i64 v] w fun e w' => e = .returned (.tuple #[.int .i64 0, .int .i64 1]) ∧ w = w' := by
  have Hu := Lib.hid h
  clear h
  go_enter Tryd.func16, Tryd.ntmps16
  go_wp2_with (go_at_call 31; refine Hu.out.mono ?_; rintro e w' ⟨rfl, rfl⟩)
  go_ret2
  exact ⟨rfl, rfl⟩
set_option maxHeartbeats 800000 in
theorem top_dead {p : Option Addr} {w : World} (h : Dead p w) : Calls Tryd.prog 14 #[.pointer p] w fun e w' => e = .returned (.tuple #[.int .i64 0, .int .i64 1]) ∧ w = w' := by
  have Hu := Lib.hid h
  clear h
  go_enter Tryd.func14, Tryd.ntmps14
  go_wp2_with (go_at_call 31; refine Hu.out.mono ?_; rintro e w' ⟨rfl, rfl⟩)
  go_ret2
  exact ⟨rfl, rfl⟩
set_option maxHeartbeats 800000 in
theorem find_dead {p : Option Addr} {w : World} (h : Dead p w) (n : Int) : Calls Tryd.prog 34 #[.pointer p, .int .i64 n] w fun e w' => e = .returned (.tuple #[.pointer none, .int .i64 1]) ∧ w = w' := by
  have Hu := Lib.hid h
  clear h
  go_enter Tryd.func34, Tryd.ntmps34
  go_wp2_with (go_at_call 31; refine Hu.out.mono ?_; rintro e w' ⟨rfl, rfl⟩)
  go_ret2
  exact ⟨rfl, rfl⟩
set_option maxHeartbeats 800000 in
theorem get_dead {p : Option Addr} {w : World} (h : Dead p w) (n : Int) : Calls Tryd.prog 19 #[.pointer p, .int .i64 n] w fun e w' => e = .returned (.tuple #[.int .u64 0, .int .i64 0, .int .i64 1]) ∧ w = w' := by
  have Hu := Lib.hid (find_dead h n)
  clear h
  go_enter Tryd.func19, Tryd.ntmps19
  go_wp2_with (go_at_call 34; refine Hu.out.mono ?_; rintro e w' ⟨rfl, rfl⟩)
  go_ret3
  exact ⟨rfl, rfl⟩
set_option maxHeartbeats 800000 in
theorem change_dead {p : Option Addr} {w : World} (h : Dead p w) (n k : Int) : Calls Tryd.prog 15 #[.pointer p, .int .i64 n, .int .u64 k] w fun e w' => e = .returned (.int .i64 1) ∧ w = w' := by
  have Hu := Lib.hid (find_dead h n)
  clear h
  go_enter Tryd.func15, Tryd.ntmps15
  go_wp2_with (go_at_call 34; refine Hu.out.mono ?_; rintro e w' ⟨rfl, rfl⟩)
  go_ret
  exact ⟨rfl, rfl⟩
set_option maxHeartbeats 800000 in
theorem remove_dead {p : Option Addr} {w : World} (h : Dead p w) (n : Int) : Calls Tryd.prog 18 #[.pointer p, .int .i64 n] w fun e w' => e = .returned (.int .i64 1) ∧ w = w' := by
  have Hu := Lib.hid (find_dead h n)
  clear h
  go_enter Tryd.func18, Tryd.ntmps18
  go_wp2_with (go_at_call 34; refine Hu.out.mono ?_; rintro e w' ⟨rfl, rfl⟩)
  go_ret
  exact ⟨rfl, rfl⟩
set_option maxHeartbeats 800000 in
theorem len_dead {p : Option Addr} {w : World} (h : Dead p w) : Calls Tryd.prog 17 #[.pointer p] w fun e w' => e = .returned (.int .i64 0) ∧ w = w' := by
  have Hu := Lib.hid h
  clear h
  go_enter Tryd.func17, Tryd.ntmps17
  go_wp2_with (go_at_call 31; refine Hu.out.mono ?_; rintro e w' ⟨rfl, rfl⟩)
  go_ret
  exact ⟨rfl, rfl⟩
set_option maxHeartbeats 800000 in
theorem layout_dead {p : Option Addr} {w : World} (h : Dead p w) : Calls Tryd.prog 20 #[.pointer p] w fun e w' => e = .returned (.slice none 0 0) ∧ w = w' := by
  have Hu := Lib.hid h
  clear h
  go_enter Tryd.func20, Tryd.ntmps20
  go_wp2_with (go_at_call 31; refine Hu.out.mono ?_; rintro e w' ⟨rfl, rfl⟩)
  go_ret
  exact ⟨rfl, rfl⟩
set_option maxHeartbeats 800000 in
theorem copy_dead {p : Option Addr} {w : World} (h : Dead p w) : Calls Tryd.prog 21 #[.pointer p] w fun e w' => e = .returned (.pointer none) ∧ w = w' := by
  have Hu := Lib.hid h
  clear h
  go_enter Tryd.func21, Tryd.ntmps21
  go_wp2_with (go_at_call 31; refine Hu.out.mono ?_; rintro e w' ⟨rfl, rfl⟩)
  go_ret
  exact ⟨rfl, rfl⟩
theorem all_dead {p : Option Addr} {w : World} (h : Dead p w) : Calls Tryd.prog 22 #[.pointer p, .slice none 0 0] w fun e W' => e = .returned (.bool true) ∧ Below w.heap.size w W' :=
  allIs p (.slice none 0 0) [] w (by simp) ((all_nilHeap p w h).mono fun e w' ⟨B, Bs, he, hS, hb⟩ => ⟨B, Bs, he, hS, hb⟩) (World.ownsRow_nil _ _ _ _)

set_option maxRecDepth 100000 in
set_option maxHeartbeats 1600000 in
theorem heapNil_walk (k n : Int) (w : World) (hk : (Lit.int .u64 k).wf = true) (hn : (Lit.int .i64 n).wf = true) (hT : Tab w) :
    Calls Tryd.prog 6 #[.int .u64 k, .int .i64 n] w fun e w' => e = .returned (.bool true) ∧ Below w.heap.size w w' := by
  go_enter Tryd.func6, Tryd.ntmps6
  go_wp2_with fail
  have hb : Below w.heap.size w ((w.alloc (Obj.cells #[.pointer none] 53)).alloc (Obj.cells #[.pointer none, .pointer (some ⟨w.heap.size, 0, none⟩)] 24)) := ((Below.refl _ _).alloc (Nat.le_refl _) _).alloc (by simp) _
  generalize hW : (w.alloc (Obj.cells #[.pointer none] 53)).alloc (Obj.cells #[.pointer none, .pointer (some ⟨w.heap.size, 0, none⟩)] 24) = w2 at hb ⊢
  have hsz : w2.heap.size = w.heap.size + 2 := by rw [← hW]; simp
  have c0 : w2.cell? ⟨w.heap.size + 1, 0, none⟩ = some (.pointer none) := by rw [← hW]; exact cell_new _ _ _ _ _ _ (by simp) rfl
  have c1 : w2.cell? ⟨w.heap.size + 1, 1, none⟩ = some (.pointer (some ⟨w.heap.size, 0, none⟩)) := by rw [← hW]; exact cell_new _ _ _ _ _ _ (by simp) rfl
  have cn : w2.cell? ⟨w.heap.size, 0, none⟩ = some (.pointer none) := by
    rw [← hW]
    exact (fr_alloc _ _ []).cell (cell_new _ _ _ _ _ _ rfl rfl) (by simp)
  clear hW
  go_loopw [20] (fun i wr => ∃ k : Nat, k ≤ 2 ∧ i = .int .i64 k ∧ Below w2.heap.size w2 wr) (fun i _ => 2 - (intOf i).toNat)
  case atStart => exact ⟨0, by omega, rfl, Below.refl _ _⟩
  case round =>
    obtain ⟨j, hj, rfl, hw⟩ := hrel
    by_cases hlt : j < 2
    · obtain ⟨p, hc, hd⟩ : ∃ p, wr.cell? ⟨w.heap.size + 1, j, none⟩ = some (.pointer p) ∧ Dead p wr := by
        rcases (by omega : j = 0 ∨ j = 1) with rfl | rfl
        · exact ⟨none, (hw.cell (p := ⟨w.heap.size + 1, 0, none⟩) (by simp; omega)).trans c0, usable_nil _⟩
        · exact ⟨_, (hw.cell (p := ⟨w.heap.size + 1, 1, none⟩) (by simp; omega)).trans c1, usable_zero _ _ ((hw.cell (p := ⟨w.heap.size, 0, none⟩) (by simp; omega)).trans cn)⟩
      have hji : (j : Int) < 2 := by omega
      have Hd := Lib.hid hd
      clear hd
      go_wp2_with (first
        | (go_at_call 16; refine (push_dead Hd.out _ _).mono ?_; rintro e w' ⟨rfl, rfl⟩)
        | (go_at_call 14; refine (top_dead Hd.out).mono ?_; rintro e w' ⟨rfl, rfl⟩)
        | (go_at_call 19; refine (get_dead Hd.out _).mono ?_; rintro e w' ⟨rfl, rfl⟩)
        | (go_at_call 15; refine (change_dead Hd.out _ _).mono ?_; rintro e w' ⟨rfl, rfl⟩)
        | (go_at_call 18; refine (remove_dead Hd.out _).mono ?_; rintro e w' ⟨rfl, rfl⟩)
        | (go_at_call 17; refine (len_dead Hd.out).mono ?_; rintro e w' ⟨rfl, rfl⟩)
        | (go_at_call 20; refine (layout_dead Hd.out).mono ?_; rintro e w' ⟨rfl, rfl⟩)
        | (go_at_call 21; refine (copy_dead Hd.out).mono ?_; rintro e w' ⟨rfl, rfl⟩))
      refine (all_dead Hd.out).mono ?_
      rintro e w3 ⟨rfl, h3⟩
      go_wp2_with fail
      go_roundw
      case rel => exact ⟨j + 1, by omega, by go_num, hw.trans (h3.mono hw.size)⟩
      case measure => simp [intOf]; omega
    · obtain rfl : j = 2 := by omega
      go_wp2_with fail
      refine (known_any _ ((hT.below hb hT.lt).below hw (by have := hT.lt; omega))).mono ?_
      rintro e w3 ⟨rfl, h3⟩
      go_wp2_with fail
      go_ret
      exact ⟨rfl, hb.trans ((hw.trans (h3.mono hw.size)).mono hb.size)⟩
end Go.Proofs.YtemjdfmbeahieaaDoor
