/- Nil and zero ring buffers: the walk of RingNil. -/
import Derived.Test.YtilafgemgdjfhaaBKnown
import Derived.Test.YtilafgemgdjfhaaBEmpty
import Derived.LoopTactic
import Derived.Deep.LoopGhost
namespace Go.Proofs.Ytilafgemgdjfhaa
open Go.RowKit Go.Sort
set_option linter.unusedVariables false
set_option linter.unusedSimpArgs false

/-- A ring buffer that cannot be used. -/
def DeadR (p : Option Addr) (w : World) : Prop := Calls Try.prog 27 #[.pointer p] w fun e w' => e = .returned (.bool false) ∧ w = w'

section
variable {p : Option Addr} {w : World}
set_option maxHeartbeats 400000 in
theorem write_dead (h : DeadR p w) (ao : Option Addr) (L lc : Nat) : Calls Try.prog 11 #[.pointer p, .slice ao L lc] w fun e w' => e = .returned (.tuple #[.int .i64 0, .int .i64 1]) ∧ w = w' := by
  have hu := Lib.hid h
  clear h
  go_enter Try.func11, Try.ntmps11
  go_wp2_with (go_at_call 27; refine hu.out.mono ?_; rintro e w' ⟨rfl, rfl⟩)
  go_ret2
  exact ⟨rfl, rfl⟩
set_option maxHeartbeats 400000 in
theorem peek_dead (h : DeadR p w) (o m : Int) : Calls Try.prog 15 #[.pointer p, .int .i64 o, .int .i64 m] w fun e w' => e = .returned (.tuple #[.slice none 0 0, .int .i64 1]) ∧ w = w' := by
  have hu := Lib.hid h
  clear h
  go_enter Try.func15, Try.ntmps15
  go_wp2_with (go_at_call 27; refine hu.out.mono ?_; rintro e w' ⟨rfl, rfl⟩)
  go_ret2
  exact ⟨rfl, rfl⟩
set_option maxHeartbeats 400000 in
theorem read_dead (h : DeadR p w) (m : Int) : Calls Try.prog 13 #[.pointer p, .int .i64 m] w fun e w' => e = .returned (.tuple #[.slice none 0 0, .int .i64 1]) ∧ w = w' := by
  have hu := Lib.hid (peek_dead h 0 m)
  clear h
  go_enter Try.func13, Try.ntmps13
  go_wp2_with (go_at_call 15; refine hu.out.mono ?_; rintro e w' ⟨rfl, rfl⟩)
  go_ret2
  exact ⟨rfl, rfl⟩
set_option maxHeartbeats 400000 in
theorem skip_dead (h : DeadR p w) (m : Int) : Calls Try.prog 17 #[.pointer p, .int .i64 m] w fun e w' => e = .returned (.tuple #[.int .i64 0, .int .i64 1]) ∧ w = w' := by
  have hu := Lib.hid h
  clear h
  go_enter Try.func17, Try.ntmps17
  go_wp2_with (go_at_call 27; refine hu.out.mono ?_; rintro e w' ⟨rfl, rfl⟩)
  go_ret2
  exact ⟨rfl, rfl⟩
set_option maxHeartbeats 400000 in
theorem len_dead (h : DeadR p w) : Calls Try.prog 21 #[.pointer p] w fun e w' => e = .returned (.int .i64 0) ∧ w = w' := by
  have hu := Lib.hid h
  clear h
  go_enter Try.func21, Try.ntmps21
  go_wp2_with (go_at_call 27; refine hu.out.mono ?_; rintro e w' ⟨rfl, rfl⟩)
  go_ret
  exact ⟨rfl, rfl⟩
set_option maxHeartbeats 400000 in
theorem cap_dead (h : DeadR p w) : Calls Try.prog 22 #[.pointer p] w fun e w' => e = .returned (.int .i64 0) ∧ w = w' := by
  have hu := Lib.hid h
  clear h
  go_enter Try.func22, Try.ntmps22
  go_wp2_with (go_at_call 27; refine hu.out.mono ?_; rintro e w' ⟨rfl, rfl⟩)
  go_ret
  exact ⟨rfl, rfl⟩
set_option maxHeartbeats 400000 in
theorem free_dead (h : DeadR p w) : Calls Try.prog 23 #[.pointer p] w fun e w' => e = .returned (.int .i64 0) ∧ w = w' := by
  have h1 := Lib.hid (cap_dead h)
  have h2 := Lib.hid (len_dead h)
  clear h
  go_enter Try.func23, Try.ntmps23
  go_wp2_with (first | (go_at_call 22; refine h1.out.mono ?_; rintro e w' ⟨rfl, rfl⟩) | (go_at_call 21; refine h2.out.mono ?_; rintro e w' ⟨rfl, rfl⟩))
  go_ret
  exact ⟨rfl, rfl⟩
set_option maxHeartbeats 400000 in
theorem reset_dead (h : DeadR p w) : Calls Try.prog 19 #[.pointer p] w fun e w' => e = .returned (.int .i64 1) ∧ w = w' := by
  have h1 := Lib.hid (skip_dead h 0)
  have h2 := Lib.hid (len_dead h)
  clear h
  go_enter Try.func19, Try.ntmps19
  go_wp2_with (first | (go_at_call 17; refine h1.out.mono ?_; rintro e w' ⟨rfl, rfl⟩) | (go_at_call 21; refine h2.out.mono ?_; rintro e w' ⟨rfl, rfl⟩))
  go_ret
  exact ⟨rfl, rfl⟩
set_option maxHeartbeats 400000 in
theorem copy_dead (h : DeadR p w) : Calls Try.prog 20 #[.pointer p] w fun e w' => e = .returned (.pointer none) ∧ w = w' := by
  have hu := Lib.hid h
  clear h
  go_enter Try.func20, Try.ntmps20
  go_wp2_with (go_at_call 27; refine hu.out.mono ?_; rintro e w' ⟨rfl, rfl⟩)
  go_ret
  exact ⟨rfl, rfl⟩
end

set_option maxRecDepth 100000 in
set_option maxHeartbeats 3200000 in
theorem ringNil_small (ao : Option Addr) (L lc : Nat) (hL : L ≤ 100) (o m : Int) (w : World) :
    Calls Try.prog 5 #[.slice ao L lc, .int .i64 o, .int .i64 m] w fun e w' => e = .returned (.bool true) ∧ Below w.heap.size w w' := by
  have e1 : (L : Int) ≤ 100 := by omega
  go_enter Try.func5, Try.ntmps5
  go_wp2_with fail
  obtain ⟨W, hW⟩ : ∃ W, ((w.alloc (Obj.cells #[.pointer none] 55)).alloc (Obj.cells #[.pointer none, .pointer (some ⟨w.heap.size, 0, none⟩)] 27)) = W := ⟨_, rfl⟩
  have hG : Below w.heap.size w W := by rw [← hW]; exact ((Below.refl _ _).alloc (Nat.le_refl _) _).alloc (by simp) _
  have cn : W.cell? ⟨w.heap.size, 0, none⟩ = some (.pointer none) := by
    rw [← hW]
    exact (fr_alloc _ _ []).cell (cell_new _ #[.pointer none] 55 _ 0 _ rfl rfl) (by simp)
  have c0 : W.cell? ⟨w.heap.size + 1, 0, none⟩ = some (.pointer none) := by rw [← hW]; exact cell_new _ _ _ _ _ _ (by simp) rfl
  have c1 : W.cell? ⟨w.heap.size + 1, 1, none⟩ = some (.pointer (some ⟨w.heap.size, 0, none⟩)) := by rw [← hW]; exact cell_new _ _ _ _ _ _ (by simp) rfl
  have HG := Lib.hid hG
  rw [hW]
  have hk := Lib.hid (known_any W)
  clear hW hG
  go_loopw [27] (fun i wr => ∃ k : Nat, k ≤ 2 ∧ i = .int .i64 k ∧ wr = W) (fun i _ => 2 - (intOf i).toNat)
  case atStart => exact ⟨0, by omega, rfl, rfl⟩
  case round =>
    obtain ⟨j, hj, rfl, rfl⟩ := hrel
    by_cases hlt : j < 2
    · obtain ⟨p, hc, hd⟩ : ∃ p, wr.cell? ⟨w.heap.size + 1, j, none⟩ = some (.pointer p) ∧ DeadR p wr := by
        rcases (by omega : j = 0 ∨ j = 1) with rfl | rfl
        · exact ⟨none, c0, usable_nil _⟩
        · exact ⟨_, c1, usable_zero _ _ cn⟩
      have hji : (j : Int) < 2 := by omega
      have h1 := Lib.hid (write_dead hd ao L lc)
      have h2 := Lib.hid (read_dead hd m)
      have h3 := Lib.hid (peek_dead hd o m)
      have h4 := Lib.hid (skip_dead hd m)
      have h5 := Lib.hid (reset_dead hd)
      have h6 := Lib.hid (len_dead hd)
      have h7 := Lib.hid (free_dead hd)
      have h8 := Lib.hid (cap_dead hd)
      have h9 := Lib.hid (copy_dead hd)
      clear hd c0 c1 cn
      go_wp2_with (first
        | (go_at_call 11; refine h1.out.mono ?_; rintro e w' ⟨rfl, rfl⟩)
        | (go_at_call 13; refine h2.out.mono ?_; rintro e w' ⟨rfl, rfl⟩)
        | (go_at_call 15; refine h3.out.mono ?_; rintro e w' ⟨rfl, rfl⟩)
        | (go_at_call 17; refine h4.out.mono ?_; rintro e w' ⟨rfl, rfl⟩)
        | (go_at_call 19; refine h5.out.mono ?_; rintro e w' ⟨rfl, rfl⟩)
        | (go_at_call 21; refine h6.out.mono ?_; rintro e w' ⟨rfl, rfl⟩)
        | (go_at_call 23; refine h7.out.mono ?_; rintro e w' ⟨rfl, rfl⟩)
        | (go_at_call 22; refine h8.out.mono ?_; rintro e w' ⟨rfl, rfl⟩)
        | (go_at_call 20; refine h9.out.mono ?_; rintro e w' ⟨rfl, rfl⟩))
      go_roundw
      case rel => exact ⟨j + 1, by omega, by go_num, trivial⟩
      case measure => simp [intOf]; omega
    · obtain rfl : j = 2 := by omega
      clear c0 c1 cn hlt hj
      go_wp2_with (go_at_call 8; refine hk.out.mono ?_; rintro e w' ⟨rfl, hb⟩)
      go_ret
      exact ⟨rfl, HG.out.trans (hb.mono HG.out.size)⟩

set_option maxHeartbeats 800000 in
theorem ringNil_big (ao : Option Addr) (L lc : Nat) (hL : 100 < L) (hm : L ≤ maxLen) (o m : Int) (w : World) :
    Calls Try.prog 5 #[.slice ao L lc, .int .i64 o, .int .i64 m] w fun e w' => e = .returned (.bool true) ∧ Below w.heap.size w w' := by
  have e1 : (100 : Int) < (L : Int) := by omega
  have e2 : (L : Int) ≤ 9223372036854775807 := by unfold maxLen at hm; omega
  have hk := Lib.hid (known_any w)
  go_enter Try.func5, Try.ntmps5
  go_wp2_with (go_at_call 8; refine hk.out.mono ?_; rintro e w' ⟨rfl, hb⟩)
  go_ret
  exact ⟨rfl, hb⟩

theorem ringNil_walk (ao : Option Addr) (L lc : Nat) (zs : List Int) (o m : Int) (w : World) (h : IsRow .u8 w ao L lc zs) (_ : (Lit.int .i64 o).wf = true) (_ : (Lit.int .i64 m).wf = true) :
    Calls Try.prog 5 #[.slice ao L lc, .int .i64 o, .int .i64 m] w fun e w' => e = .returned (.bool true) ∧ Below w.heap.size w w' := by
  by_cases hL : L ≤ 100
  · exact ringNil_small ao L lc hL o m w
  · refine ringNil_big ao L lc (by omega) ?_ o m w
    rcases h with ⟨_, h, _⟩ | ⟨_, _, h1, h2, _⟩ <;> omega
end Go.Proofs.Ytilafgemgdjfhaa
