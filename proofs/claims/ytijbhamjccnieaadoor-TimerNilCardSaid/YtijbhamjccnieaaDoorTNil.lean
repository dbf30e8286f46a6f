/- Nil and zero timers: the walk of TimerNil. -/
import Derived.Test.YtijbhamjccnieaaDoorTKnown
namespace Go.Proofs.YtijbhamjccnieaaDoor
open Go.RowKit Go.Sort
set_option linter.unusedVariables false
set_option linter.unusedSimpArgs false

/-- Timers that cannot be used, whatever the world has grown to. -/
def DeadT (p : Option Addr) (w : World) : Prop := ∀ W, Grn w W → Calls Tryd.prog 59 #[.pointer p] W fun e w' => e = .returned (.bool false) ∧ W = w'
theorem DeadT.grn {p : Option Addr} {w w' : World} (h : DeadT p w) (g : Grn w w') : DeadT p w' := fun W hW => h W (g.trans hW)
theorem dead_nil (w : World) : DeadT none w := fun W _ => tusable_nil W
theorem dead_zero (a : Nat) (w : World) (hc : w.cell? ⟨a, 0, none⟩ = some (.pointer none)) : DeadT (some ⟨a, 0, none⟩) w := fun W hW => tusable_zero a W ((hW.below.cell (p := ⟨a, 0, none⟩) (World.block_lt_of_cell? w _ hc)).trans hc)

set_option maxHeartbeats 800000 in
theorem tset_dead {p : Option Addr} {w : World} (h : DeadT p w) (k o : Int) : Calls Tryd.prog 25 #[.pointer p, .int .u64 k, .int .i64 o] w fun e w' => e = .returned (.tuple #[.agg #[.int .i64 0, .int .i64 0], .int .i64 1]) ∧ Grn w w' := by
  have hu := Lib.hid (h _ ((Grn.refl w).alloc (.cells #[.int .i64 0, .int .i64 0] 53)))
  clear h
  go_enter Tryd.func25, Tryd.ntmps25
  go_wp2_with (go_at_call 59; refine hu.out.mono ?_; rintro e w' ⟨rfl, rfl⟩)
  exact bodyPost_ret (v := .tuple #[.agg #[.int .i64 0, .int .i64 0], .int .i64 1]) (by simp [results, Tryd.results25, go_sem]) rfl ⟨rfl, (Grn.refl w).alloc _⟩
set_option maxHeartbeats 800000 in
theorem tget_dead {p : Option Addr} {w : World} (h : DeadT p w) (n g : Int) : Calls Tryd.prog 29 #[.pointer p, .agg #[.int .i64 n, .int .i64 g]] w fun e w' => e = .returned (.tuple #[.int .u64 0, .int .i64 0, .int .i64 1]) ∧ Grn w w' := by
  have hu := Lib.hid (h _ ((Grn.refl w).alloc (.cells #[.int .i64 n, .int .i64 g] 53)))
  clear h
  go_enter Tryd.func29, Tryd.ntmps29
  go_wp2_with (go_at_call 59; refine hu.out.mono ?_; rintro e w' ⟨rfl, rfl⟩)
  go_ret3
  exact ⟨rfl, (Grn.refl w).alloc _⟩
set_option maxHeartbeats 800000 in
theorem treset_dead {p : Option Addr} {w : World} (h : DeadT p w) (n g k : Int) : Calls Tryd.prog 30 #[.pointer p, .agg #[.int .i64 n, .int .i64 g], .int .u64 k] w fun e w' => e = .returned (.int .i64 1) ∧ Grn w w' := by
  have hu := Lib.hid (h _ ((Grn.refl w).alloc (.cells #[.int .i64 n, .int .i64 g] 53)))
  clear h
  go_enter Tryd.func30, Tryd.ntmps30
  go_wp2_with (go_at_call 59; refine hu.out.mono ?_; rintro e w' ⟨rfl, rfl⟩)
  go_ret
  exact ⟨rfl, (Grn.refl w).alloc _⟩
set_option maxHeartbeats 800000 in
theorem tstop_dead {p : Option Addr} {w : World} (h : DeadT p w) (n g : Int) : Calls Tryd.prog 27 #[.pointer p, .agg #[.int .i64 n, .int .i64 g]] w fun e w' => e = .returned (.int .i64 1) ∧ Grn w w' := by
  have hu := Lib.hid (tget_dead (h.grn ((Grn.refl w).alloc (.cells #[.int .i64 n, .int .i64 g] 53))) n g)
  clear h
  go_enter Tryd.func27, Tryd.ntmps27
  go_wp2_with (go_at_call 29; refine hu.out.mono ?_; rintro e w' ⟨rfl, g2⟩)
  go_ret
  exact ⟨rfl, ((Grn.refl w).alloc _).trans g2⟩
set_option maxHeartbeats 800000 in
theorem tfirst_dead {p : Option Addr} {w : World} (h : DeadT p w) : Calls Tryd.prog 60 #[.pointer p] w fun e w' => e = .returned (.tuple #[noDue, .bool false]) ∧ Grn w w' := by
  have hu := Lib.hid (h _ ((Grn.refl w).alloc (.cells #[.int .i64 0, .int .i64 0, .int .i64 0, .int .u64 0] 82)))
  clear h
  unfold noDue
  go_enter Tryd.func60, Tryd.ntmps60
  go_wp2_with (go_at_call 59; refine hu.out.mono ?_; rintro e w' ⟨rfl, rfl⟩)
  exact bodyPost_ret (v := .tuple #[.agg #[.int .i64 0, .int .i64 0, .int .i64 0, .int .u64 0], .bool false]) (by simp [results, Tryd.results60, go_sem]) rfl ⟨rfl, (Grn.refl w).alloc _⟩
set_option maxHeartbeats 800000 in
theorem tnext_dead {p : Option Addr} {w : World} (h : DeadT p w) : Calls Tryd.prog 22 #[.pointer p] w fun e w' => e = .returned (.int .u64 18446744073709551615) ∧ Grn w w' := by
  have hu := Lib.hid (tfirst_dead h)
  clear h
  unfold noDue at hu
  go_enter Tryd.func22, Tryd.ntmps22
  go_wp2_with (go_at_call 60; refine hu.out.mono ?_; rintro e w' ⟨rfl, g2⟩)
  go_ret
  exact ⟨rfl, g2.alloc _⟩
set_option maxHeartbeats 800000 in
theorem texpire_dead {p : Option Addr} {w : World} (h : DeadT p w) (now : Int) : Calls Tryd.prog 31 #[.pointer p, .int .u64 now] w fun e w' => e = .returned (.slice none 0 0) ∧ Grn w w' := by
  have hu := Lib.hid (tfirst_dead h)
  clear h
  unfold noDue at hu
  go_enter Tryd.func31, Tryd.ntmps31
  go_wp2_with fail
  go_loopg [5] 0 (fun m v wr => m = 0 ∧ v = .slice none 0 0 ∧ wr = w)
  case atStart => exact ⟨rfl, rfl, rfl⟩
  case round =>
    obtain ⟨rfl, rfl, rfl⟩ := hrel
    go_wp2_with (go_at_call 60; refine hu.out.mono ?_; rintro e w' ⟨rfl, g2⟩)
    go_ret
    exact ⟨rfl, g2.alloc _⟩
set_option maxHeartbeats 800000 in
theorem tlen_dead {p : Option Addr} {w : World} (h : DeadT p w) : Calls Tryd.prog 20 #[.pointer p] w fun e w' => e = .returned (.int .i64 0) ∧ Grn w w' := by
  have hu := Lib.hid (h w (Grn.refl w))
  clear h
  go_enter Tryd.func20, Tryd.ntmps20
  go_wp2_with (go_at_call 59; refine hu.out.mono ?_; rintro e w' ⟨rfl, rfl⟩)
  go_ret
  exact ⟨rfl, Grn.refl w⟩
set_option maxHeartbeats 800000 in
theorem tcopy_dead {p : Option Addr} {w : World} (h : DeadT p w) : Calls Tryd.prog 32 #[.pointer p] w fun e w' => e = .returned (.pointer none) ∧ Grn w w' := by
  have hu := Lib.hid (h w (Grn.refl w))
  clear h
  go_enter Tryd.func32, Tryd.ntmps32
  go_wp2_with (go_at_call 59; refine hu.out.mono ?_; rintro e w' ⟨rfl, rfl⟩)
  go_ret
  exact ⟨rfl, Grn.refl w⟩

theorem grn_grow (w : World) (m : Nat) (os : Array Obj) : Grn w (grow (w.drewN m) os) := ⟨m, os, rfl⟩

set_option maxRecDepth 100000 in
set_option maxHeartbeats 3200000 in
theorem timerNil_walk (k o n g : Int) (w : World) (hk : (Lit.int .u64 k).wf = true) (ho : (Lit.int .i64 o).wf = true) (hn : (Lit.int .i64 n).wf = true) (hg : (Lit.int .i64 g).wf = true) (hT : Tab w) :
    Calls Tryd.prog 6 #[.int .u64 k, .int .i64 o, .agg #[.int .i64 n, .int .i64 g]] w fun e w' => e = .returned (.bool true) ∧ Below w.heap.size w w' := by
  go_enter Tryd.func6, Tryd.ntmps6
  go_wp2_with fail
  obtain ⟨W, hW⟩ : ∃ W, ((w.alloc (Obj.cells #[.int .i64 n, .int .i64 g] 53)).alloc (Obj.cells #[.pointer none] 72)).alloc (Obj.cells #[.pointer none, .pointer (some ⟨w.heap.size + 1, 0, none⟩)] 47) = W := ⟨_, rfl⟩
  have hG : Grn w W := by rw [← hW]; exact (((Grn.refl w).alloc _).alloc _).alloc _
  have hsz : W.heap.size = w.heap.size + 3 := by rw [← hW]; simp
  have x0 : W.cell? ⟨w.heap.size, 0, none⟩ = some (.int .i64 n) := by
    rw [← hW]
    exact (fr_alloc _ _ []).cell ((fr_alloc _ _ []).cell (cell_new w #[.int .i64 n, .int .i64 g] 53 _ 0 _ rfl rfl) (by simp)) (by simp)
  have x1 : W.cell? ⟨w.heap.size, 1, none⟩ = some (.int .i64 g) := by
    rw [← hW]
    exact (fr_alloc _ _ []).cell ((fr_alloc _ _ []).cell (cell_new w #[.int .i64 n, .int .i64 g] 53 _ 1 _ rfl rfl) (by simp)) (by simp)
  have cn : W.cell? ⟨w.heap.size + 1, 0, none⟩ = some (.pointer none) := by
    rw [← hW]
    exact (fr_alloc _ _ []).cell (cell_new _ #[.pointer none] 72 _ 0 _ (by simp) rfl) (by simp)
  have c0 : W.cell? ⟨w.heap.size + 2, 0, none⟩ = some (.pointer none) := by rw [← hW]; exact cell_new _ _ _ _ _ _ (by simp) rfl
  have c1 : W.cell? ⟨w.heap.size + 2, 1, none⟩ = some (.pointer (some ⟨w.heap.size + 1, 0, none⟩)) := by rw [← hW]; exact cell_new _ _ _ _ _ _ (by simp) rfl
  have HG := Lib.hid hG
  rw [hW]
  clear hW hG
  have hid := Lib.hid tid_any
  have mixed : Tryd.prog.follows .mixedOrders = true := by kernel_rfl
  go_loopw [20] (fun i wr => ∃ k : Nat, k ≤ 2 ∧ i = .int .i64 k ∧ Grn W wr) (fun i _ => 2 - (intOf i).toNat)
  case atStart => exact ⟨0, by omega, rfl, Grn.refl _⟩
  case round =>
    obtain ⟨j, hj, rfl, hw⟩ := hrel
    have hws := hw.below.size
    by_cases hlt : j < 2
    · obtain ⟨p, hc, hd⟩ : ∃ p, wr.cell? ⟨w.heap.size + 2, j, none⟩ = some (.pointer p) ∧ DeadT p wr := by
        rcases (by omega : j = 0 ∨ j = 1) with rfl | rfl
        · exact ⟨none, (hw.below.cell (p := ⟨w.heap.size + 2, 0, none⟩) (by simp; omega)).trans c0, dead_nil _⟩
        · exact ⟨_, (hw.below.cell (p := ⟨w.heap.size + 2, 1, none⟩) (by simp; omega)).trans c1, dead_zero _ _ ((hw.below.cell (p := ⟨w.heap.size + 1, 0, none⟩) (by simp; omega)).trans cn)⟩
      have y0 := (hw.below.cell (p := ⟨w.heap.size, 0, none⟩) (by simp; omega)).trans x0
      have y1 := (hw.below.cell (p := ⟨w.heap.size, 1, none⟩) (by simp; omega)).trans x1
      have hji : (j : Int) < 2 := by omega
      have Hd := Lib.hid hd
      have Hw := Lib.hid hw
      clear hd hw x0 x1 c0 c1 cn
      go_wp2_with (go_at_call 25; fail)
      refine (tset_dead Hd.out k o).mono ?_
      rintro e w1 ⟨rfl, g1⟩
      have z0 := (g1.below.cell (p := ⟨w.heap.size, 0, none⟩) (by simp; omega)).trans y0
      have z1 := (g1.below.cell (p := ⟨w.heap.size, 1, none⟩) (by simp; omega)).trans y1
      have hs1 := g1.below.size
      have Hg1 := Lib.hid g1
      have hzl : w.heap.size < w1.heap.size := by omega
      clear y0 y1 g1
      go_wp2_with (go_at_call 29; fail)
      refine (tget_dead (Hd.out.grn (Hg1.out.alloc _)) n g).mono ?_
      rintro e w2 ⟨rfl, g2⟩
      have hgV : Grn wr w2 := (Hg1.out.alloc _).trans g2
      have hs2 := g2.below.size
      have v0 := (g2.below.cell (p := ⟨w.heap.size, 0, none⟩) (by simp; omega)).trans ((fr_alloc w1 (.cells #[.int .i64 0, .int .i64 0] 53) []).cell z0 (by simp))
      have v1 := (g2.below.cell (p := ⟨w.heap.size, 1, none⟩) (by simp; omega)).trans ((fr_alloc w1 (.cells #[.int .i64 0, .int .i64 0] 53) []).cell z1 (by simp))
      have r0 := (g2.below.cell (p := ⟨w1.heap.size, 0, none⟩) (by simp)).trans (cell_new w1 #[.int .i64 0, .int .i64 0] 53 _ 0 _ rfl rfl)
      have r1 := (g2.below.cell (p := ⟨w1.heap.size, 1, none⟩) (by simp)).trans (cell_new w1 #[.int .i64 0, .int .i64 0] 53 _ 1 _ rfl rfl)
      have hs3 : w1.heap.size + 1 ≤ w2.heap.size := by simpa using hs2
      have hl1 : w1.heap.size < w2.heap.size := by omega
      have hl0 : w.heap.size < w2.heap.size := by omega
      have V0 := cell_grn (w := w2) (a := ⟨w.heap.size, 0, none⟩) hl0 v0
      have V1 := cell_grn (w := w2) (a := ⟨w.heap.size, 1, none⟩) hl0 v1
      have R0 := cell_grn (w := w2) (a := ⟨w1.heap.size, 0, none⟩) hl1 r0
      have R1 := cell_grn (w := w2) (a := ⟨w1.heap.size, 1, none⟩) hl1 r1
      have HV := Lib.hid hgV
      have D2 := Lib.hid (Hd.out.grn hgV)
      clear g2 hgV v0 v1 r0 r1 z0 z1 hzl hs1 hs2 hs3 hl0 hl1 Hg1
      go_wp2_with fail
      go_quiet_grown ((first
        | (go_at_call 26; refine Calls.grown_of (hid.out _ _ _))
        | (go_at_call 30; refine Calls.grown_of (treset_dead (D2.out.grn (grn_grow w2 _ _)) n g k))
        | (go_at_call 27; refine Calls.grown_of (tstop_dead (D2.out.grn (grn_grow w2 _ _)) n g))
        | (go_at_call 22; refine Calls.grown_of (tnext_dead (D2.out.grn (grn_grow w2 _ _))))
        | (go_at_call 31; refine Calls.grown_of (texpire_dead (D2.out.grn (grn_grow w2 _ _)) k))
        | (go_at_call 20; refine Calls.grown_of (tlen_dead (D2.out.grn (grn_grow w2 _ _))))
        | (go_at_call 32; refine Calls.grown_of (tcopy_dead (D2.out.grn (grn_grow w2 _ _))))))
      go_wp2_with fail
      go_roundw
      case rel => exact ⟨j + 1, by omega, by go_num, (Hw.out.trans HV.out).trans ⟨_, _, rfl⟩⟩
      case measure => simp [intOf]; omega
    · obtain rfl : j = 2 := by omega
      have Hw := Lib.hid hw
      have hbG := HG.out.below
      have hkn := Lib.hid (tknown_any wr ((hT.below hbG hT.lt).below hw.below (by have := hT.lt; omega)))
      clear hw
      go_wp2_with (go_at_call 17; refine hkn.out.mono ?_; rintro e w3 ⟨rfl, h3⟩)
      go_ret
      exact ⟨rfl, (HG.out.trans Hw.out).below.trans (h3.mono (HG.out.trans Hw.out).below.size)⟩
end Go.Proofs.YtijbhamjccnieaaDoor
