/- do, where a call is refused. -/
import Derived.Test.YtcdimopiaanfbaaDoorFMem
import Derived.StillTailTactics
import Derived.Deep.QuietTactic
import Derived.BigQuiet
import Derived.Deep.CutBlock
import Derived.Deep.RegionWith
namespace Go.Proofs.YtcdimopiaanfbaaDoor
open Go.RowKit Go.Sort Go.MapKept
set_option linter.unusedVariables false
set_option linter.unusedSimpArgs false

theorem neq_mv_same (w : World) (a b : Int) : (binOp .neq 144 (.agg #[.int .i64 a, .int .i64 b]) (.agg #[.int .i64 a, .int .i64 b])).run Tryd.prog w = .ok (.bool false) w := by
  have h1 : Tryd.prog.underlying 144 = some _ := Tryd.underlying144
  simp [go_sem, h1]
theorem neq_mv_other (w : World) (a b a' : Int) (h : a ≠ a') : (binOp .neq 144 (.agg #[.int .i64 a, .int .i64 b]) (.agg #[.int .i64 a', .int .i64 b])).run Tryd.prog w = .ok (.bool true) w := by
  have h1 : Tryd.prog.underlying 144 = some _ := Tryd.underlying144
  simp [go_sem, h1, h]

theorem tkDo_nil {w : World} {v : Value} (h : NoK w v) (c N : Int) : Calls Tryd.prog 72 #[v, .int .i64 c, .int .i64 N] w fun e w' => e = .returned (.int .i64 1) ∧ w' = w := by
  have hu := Lib.hid (tkFind_nil h N)
  obtain ⟨a, rfl⟩ := h.form
  clear h
  go_enter Tryd.func72, Tryd.ntmps72
  go_wp2_with (go_at_call 75; refine hu.out.mono ?_; rintro e w2 ⟨rfl, rfl⟩)
  go_ret
  exact ⟨rfl, rfl⟩
section
variable {B : Nat} {w : World} {l : Tl} {P : Ks} {Q : Qu} {g : Nat}
theorem tkDo_bad (h : KAt B w l P Q g) {N : Int} (hn : NoI P N) (c : Int) : Calls Tryd.prog 72 #[.pointer (some ⟨l.t, 0, none⟩), .int .i64 c, .int .i64 N] w fun e w' => e = .returned (.int .i64 2) ∧ w' = w := by
  have hu := Lib.hid (tkFind_bad h hn)
  clear h hn
  go_enter Tryd.func72, Tryd.ntmps72
  go_wp2_with (go_at_call 75; refine hu.out.mono ?_; rintro e w2 ⟨rfl, rfl⟩)
  go_ret
  exact ⟨rfl, rfl⟩
theorem newMv (w : World) (fr tg : Int) : ∃ W, w.alloc (.cells #[.int .i64 fr, .int .i64 tg] 144) = W ∧ Below w.heap.size w W ∧ Grn w W ∧ W.heap[w.heap.size]? = some (.cells #[.int .i64 fr, .int .i64 tg] 144 (0, 0)) :=
  ⟨_, rfl, below_alloc _ _, (Grn.refl w).alloc _, heap_alloc_new w _⟩
set_option maxRecDepth 100000 in
set_option maxHeartbeats 1600000 in
theorem tkDo_state (h : KAt B w l P Q g) {n c : Nat} {p : Ck} {fr tg : Int} (hp : P[n]? = some p) (hf : mvs[c * 2]? = some fr) (ht : mvs[c * 2 + 1]? = some tg) (hc : c < 5) (hs : fr ≠ p.s) :
    Calls Tryd.prog 72 #[.pointer (some ⟨l.t, 0, none⟩), .int .i64 ((c : Nat) : Int), .int .i64 ((n : Nat) : Int)] w fun e w' => e = .returned (.int .i64 8) ∧ Grn w w' := by
  have hu := Lib.hid (tkFind_yes h (List.getElem?_eq_some_iff.1 hp).1)
  have g0 := h.mv _ _ hf
  have g1 := h.mv _ _ ht
  have gl := h.mv.lt
  have q1 : (0 : Int) ≤ (c : Int) := by omega
  have q2 : (c : Int) < 5 := by omega
  have hq := fun W => neq_mv_other W fr tg p.s hs
  obtain ⟨W, hW, hb, hg, hx⟩ := newMv w fr tg
  have hK := h.grown hb
  have k0 := hK.c0 hp
  have lc := hK.lc
  have x0 := cells_cell (o := 0) hx rfl
  have x1 := cells_cell (o := 1) hx rfl
  have xl := lt_of_block hx
  have HW := Lib.hid hW
  have HG := Lib.hid hg
  clear h hp hf ht hc hs hW hb hg hx hK
  go_enter Tryd.func72, Tryd.ntmps72
  go_wp2_with (go_at_call 75; refine hu.out.mono ?_; rintro e w2 ⟨rfl, rfl⟩)
  rw [HW.out]
  generalize w2.heap.size = z at *
  go_quiet (fail)
  go_wp2
  go_ret
  exact ⟨rfl, HG.out.drew _⟩

/-- What do returns where the task is in the state that the call asks for. -/
def Did (B : Nat) (w : World) (l : Tl) (P : Ks) (Q : Qu) (g n : Nat) (tg : Int) (e : Ending) (w' : World) : Prop :=
  e = .returned (.int .i64 0) ∧ KAt B w' l (stepP P n tg g) (stepQ Q n tg g) (stepG tg g) ∧ Fr l.F w w'

set_option maxRecDepth 100000 in
set_option maxHeartbeats 3200000 in
/-- Not ready before, ready then. -/
theorem tkDo_in (h : KAt B w l P Q g) (hR : Rk P Q) (hg : g ≤ 900000000) {n c : Nat} {p : Ck} {fr : Int} (hp : P[n]? = some p) (hf : mvs[c * 2]? = some fr) (ht : mvs[c * 2 + 1]? = some 1) (hc : c < 5) (hs : fr = p.s) (h1 : p.s ≠ 1) :
    Calls Tryd.prog 72 #[.pointer (some ⟨l.t, 0, none⟩), .int .i64 ((c : Nat) : Int), .int .i64 ((n : Nat) : Int)] w (Did B w l P Q g n 1) := by
  have HQL := Lib.hid (show Q.length < 4096 by have := hR.len h.qa.inc; have := h.n2; omega)
  have hu := Lib.hid (tkFind_yes h (List.getElem?_eq_some_iff.1 hp).1)
  have g0 := h.mv _ _ hf
  have g1 := h.mv _ _ ht
  have gl := h.mv.lt
  have q1 : (0 : Int) ≤ (c : Int) := by omega
  have q2 : (c : Int) < 5 := by omega
  have hwo := Lib.hid (hR.none hp h1)
  rw [← hs] at h1
  have hq := fun W => neq_mv_same W fr 1
  obtain ⟨W, hW, hb, hgr, hx⟩ := newMv w fr 1
  have hK := h.grown hb
  have k0 := hK.c0 hp
  rw [← hs] at k0
  have lc := hK.lc
  have x0 := cells_cell (o := 0) hx rfl
  have x1 := cells_cell (o := 1) hx rfl
  have xl := lt_of_block hx
  have HW := Lib.hid hW
  have HG := Lib.hid hgr
  have HK := Lib.hid hK
  have HX := Lib.hid hx
  have HP := Lib.hid hp
  have HGG := Lib.hid hg
  have e1 : (fr == 1) = false := by simpa using h1
  clear h hp hf ht hc hs hW hb hgr hx hK hR h1 hg
  go_enter Tryd.func72, Tryd.ntmps72
  go_wp2_with (go_at_call 75; refine hu.out.mono ?_; rintro e w2 ⟨rfl, rfl⟩)
  rw [HW.out]
  clear HW
  generalize hz : w2.heap.size = z at *
  have HZ := Lib.hid hz
  clear hz
  go_quiet (fail)
  have hdb := ((Grn.refl W).drew nq).below
  have hK2 := HK.out.grown hdb
  have hX2 := (hdb.block _ (lt_of_block HX.out)).trans HX.out
  have hG2 := HG.out.drew nq
  generalize W.drewN nq = V at *
  have HF2 := Lib.hid (Fr.of_below hG2.below l.F)
  clear hdb HK HX HG hG2 x0 x1 xl k0 lc
  have x0 := cells_cell (o := 0) hX2 rfl
  have x1 := cells_cell (o := 1) hX2 rfl
  have xl := lt_of_block hX2
  have lc := hK2.lc
  have k0 := hK2.c0 HP.out
  have k1 := hK2.c1 HP.out
  have f0 := hK2.free (n * 2)
  have f1 := hK2.free (n * 2 + 1)
  have hcz := hK2.out hX2 (by decide) (by decide)
  have hK3 : KAt B ((V.setCell ⟨l.c, n * 2, none⟩ (.int .i64 1)).setCell ⟨l.c, n * 2 + 1, none⟩ (.int .u64 0)) l (P.set n ⟨1, 0⟩) Q g := hK2.put2 HP.out 1 0
  have hfr3 : Fr l.F V ((V.setCell ⟨l.c, n * 2, none⟩ (.int .i64 1)).setCell ⟨l.c, n * 2 + 1, none⟩ (.int .u64 0)) := (KAt.frc V l (n * 2) (.int .i64 1)).trans' (KAt.frc _ l (n * 2 + 1) (.int .u64 ((0 : Nat) : Int)))
  have hX3 := hfr3.same hX2 hcz
  have HK3 := Lib.hid hK3
  have HX3 := Lib.hid hX3
  have HF3 := Lib.hid (HF2.out.trans' hfr3)
  clear hK2 hX2 hcz hK3 hfr3 hX3
  go_upto_region 10 with (fail)
  generalize (V.setCell ⟨l.c, n * 2, none⟩ (.int .i64 1)).setCell ⟨l.c, n * 2 + 1, none⟩ (.int .u64 0) = V3 at *
  clear x0 x1 xl lc k0 k1 f0 f1
  have x0 := cells_cell (o := 0) HX3.out rfl
  have x1 := cells_cell (o := 1) HX3.out rfl
  have xl := lt_of_block HX3.out
  have c1 := HK3.out.ct1
  have lc := HK3.out.lc
  go_wp2_with (go_at_call 56; fail)
  refine (fiPush_yes HK3.out.qa HQL.out (by have := HGG.out; omega) ((n : Nat) : Int)).mono ?_
  rintro e w6 ⟨rfl, hq6, hf6⟩
  have hK6 := HK3.out.queue hq6 hf6
  have hP6 : (P.set n ⟨1, 0⟩)[n]? = some ⟨1, 0⟩ := by rw [setK HP.out, if_pos rfl]
  have k1 := hK6.c1 hP6
  have f1 := hK6.free (n * 2 + 1)
  have lc := hK6.lc
  have hK7 := hK6.put1 hP6 (g + 1)
  rw [List.set_set] at hK7
  have HK7 := Lib.hid hK7
  have HF7 := Lib.hid ((HF3.out.trans' (frq hf6)).trans' (KAt.frc w6 l (n * 2 + 1) (.int .u64 ((g + 1 : Nat) : Int))))
  clear hq6 hf6 hK6 hP6 hK7 x0 x1 xl c1 HK3 HX3 HF3
  go_wp2_with fail
  go_ret
  refine ⟨rfl, ?_, HF7.out⟩
  have := HK7.out
  unfold stepP stepQ stepG
  rw [hwo.out]
  exact this
set_option maxRecDepth 100000 in
set_option maxHeartbeats 3200000 in
/-- Ready before, not ready then. -/
theorem tkDo_out (h : KAt B w l P Q g) (hR : Rk P Q) (hg : g ≤ 900000000) {n c k : Nat} {tg : Int} (ht : mvs[c * 2 + 1]? = some tg) (h1 : tg ≠ 1) (hp : P[n]? = some ⟨1, k⟩) (hf : mvs[c * 2]? = some 1) (hc : c < 5) :
    Calls Tryd.prog 72 #[.pointer (some ⟨l.t, 0, none⟩), .int .i64 ((c : Nat) : Int), .int .i64 ((n : Nat) : Int)] w (Did B w l P Q g n tg) := by
  have hu := Lib.hid (tkFind_yes h (List.getElem?_eq_some_iff.1 hp).1)
  have g0 := h.mv _ _ hf
  have g1 := h.mv _ _ ht
  have gl := h.mv.lt
  have q1 : (0 : Int) ≤ (c : Int) := by omega
  have q2 : (c : Int) < 5 := by omega
  obtain ⟨A, R, rfl, hwo⟩ := hR.split h.qa.inc hp
  have hwo := Lib.hid hwo
  have hq := fun W => neq_mv_same W 1 tg
  obtain ⟨W, hW, hb, hgr, hx⟩ := newMv w 1 tg
  have hK := h.grown hb
  have k0 := hK.c0 hp
  have lc := hK.lc
  have x0 := cells_cell (o := 0) hx rfl
  have x1 := cells_cell (o := 1) hx rfl
  have xl := lt_of_block hx
  have HW := Lib.hid hW
  have HG := Lib.hid hgr
  have HK := Lib.hid hK
  have HX := Lib.hid hx
  have HP := Lib.hid hp
  have HGG := Lib.hid hg
  have e1 : (tg == 1) = false := by simpa using h1
  clear h hp hf ht hc hW hb hgr hx hK hR hg h1
  go_enter Tryd.func72, Tryd.ntmps72
  go_wp2_with (go_at_call 75; refine hu.out.mono ?_; rintro e w2 ⟨rfl, rfl⟩)
  rw [HW.out]
  clear HW
  generalize hz : w2.heap.size = z at *
  have HZ := Lib.hid hz
  clear hz
  go_quiet (fail)
  have hdb := ((Grn.refl W).drew nq).below
  have hK2 := HK.out.grown hdb
  have hX2 := (hdb.block _ (lt_of_block HX.out)).trans HX.out
  have hG2 := HG.out.drew nq
  generalize W.drewN nq = V at *
  have HF0 := Lib.hid (Fr.of_below hG2.below l.F)
  have HK0 := Lib.hid hK2
  have HX0 := Lib.hid hX2
  clear hdb HK HX HG hG2 x0 x1 xl k0 lc hK2 hX2
  have x0 := cells_cell (o := 0) HX0.out rfl
  have x1 := cells_cell (o := 1) HX0.out rfl
  have xl := lt_of_block HX0.out
  have lc := HK0.out.lc
  have k1 := HK0.out.c1 HP.out
  have c1 := HK0.out.ct1
  go_wp2_with fail
  go_still_tail 8, (by kernel_rfl)
  change wpList _ _ _ _ _ (V.drewN 1)
  have hd1 := ((Grn.refl V).drew 1).below
  go_wp2_with (go_at_call 48; fail)
  refine (fiRemove_yes (HK0.out.grown hd1).qa).mono ?_
  rintro e w4 ⟨rfl, hq4, hf4⟩
  have hK4 := (HK0.out.grown hd1).queue hq4 hf4
  have hcz := (HK0.out.grown hd1).qa.out ((hd1.block _ (lt_of_block HX0.out)).trans HX0.out) (by decide)
  have hX4 := hf4.same ((hd1.block _ (lt_of_block HX0.out)).trans HX0.out) hcz
  have HF2 := Lib.hid ((HF0.out.trans' (Fr.of_below hd1 _)).trans' (frq hf4))
  clear hd1 hq4 hf4 hcz x0 x1 xl lc k1 c1 HK0 HX0 HF0
  have hK2 := hK4
  have hX2 := hX4
  clear hK4 hX4
  generalize w4 = V at *
  have x0 := cells_cell (o := 0) hX2 rfl
  have x1 := cells_cell (o := 1) hX2 rfl
  have xl := lt_of_block hX2
  have lc := hK2.lc
  have k0 := hK2.c0 HP.out
  have k1 := hK2.c1 HP.out
  have f0 := hK2.free (n * 2)
  have f1 := hK2.free (n * 2 + 1)
  have hcz := hK2.out hX2 (by decide) (by decide)
  have hK3 : KAt B ((V.setCell ⟨l.c, n * 2, none⟩ (.int .i64 tg)).setCell ⟨l.c, n * 2 + 1, none⟩ (.int .u64 0)) l (P.set n ⟨tg, 0⟩) (A ++ R) g := hK2.put2 HP.out tg 0
  have hfr3 : Fr l.F V ((V.setCell ⟨l.c, n * 2, none⟩ (.int .i64 tg)).setCell ⟨l.c, n * 2 + 1, none⟩ (.int .u64 0)) := (KAt.frc V l (n * 2) (.int .i64 tg)).trans' (KAt.frc _ l (n * 2 + 1) (.int .u64 ((0 : Nat) : Int)))
  have hX3 := hfr3.same hX2 hcz
  have HK3 := Lib.hid hK3
  have HX3 := Lib.hid hX3
  have HF3 := Lib.hid (HF2.out.trans' hfr3)
  clear hK2 hX2 hcz hK3 hfr3 hX3
  go_upto_region 10 with (fail)
  generalize (V.setCell ⟨l.c, n * 2, none⟩ (.int .i64 tg)).setCell ⟨l.c, n * 2 + 1, none⟩ (.int .u64 0) = V3 at *
  clear x0 x1 xl lc k0 k1 f0 f1
  have x0 := cells_cell (o := 0) HX3.out rfl
  have x1 := cells_cell (o := 1) HX3.out rfl
  have xl := lt_of_block HX3.out
  go_wp2_with fail
  go_ret
  refine ⟨rfl, ?_, HF3.out⟩
  have := HK3.out
  have h1 : tg ≠ 1 := fun h => by simp [h] at e1
  unfold stepP stepQ stepG
  rw [hwo.out, if_neg h1, if_neg h1, if_neg h1, List.append_nil]
  exact this
set_option maxRecDepth 100000 in
set_option maxHeartbeats 3200000 in
/-- Ready before, and then. -/
theorem tkDo_turn (h : KAt B w l P Q g) (hR : Rk P Q) (hg : g ≤ 900000000) {n c k : Nat} (ht : mvs[c * 2 + 1]? = some 1) (hp : P[n]? = some ⟨1, k⟩) (hf : mvs[c * 2]? = some 1) (hc : c < 5) :
    Calls Tryd.prog 72 #[.pointer (some ⟨l.t, 0, none⟩), .int .i64 ((c : Nat) : Int), .int .i64 ((n : Nat) : Int)] w (Did B w l P Q g n 1) := by
  have HQL := Lib.hid (show Q.length < 4096 by have := hR.len h.qa.inc; have := h.n2; omega)
  have hu := Lib.hid (tkFind_yes h (List.getElem?_eq_some_iff.1 hp).1)
  have g0 := h.mv _ _ hf
  have g1 := h.mv _ _ ht
  have gl := h.mv.lt
  have q1 : (0 : Int) ≤ (c : Int) := by omega
  have q2 : (c : Int) < 5 := by omega
  obtain ⟨A, R, rfl, hwo⟩ := hR.split h.qa.inc hp
  have hwo := Lib.hid hwo
  have hq := fun W => neq_mv_same W 1 1
  obtain ⟨W, hW, hb, hgr, hx⟩ := newMv w 1 1
  have hK := h.grown hb
  have k0 := hK.c0 hp
  have lc := hK.lc
  have x0 := cells_cell (o := 0) hx rfl
  have x1 := cells_cell (o := 1) hx rfl
  have xl := lt_of_block hx
  have HW := Lib.hid hW
  have HG := Lib.hid hgr
  have HK := Lib.hid hK
  have HX := Lib.hid hx
  have HP := Lib.hid hp
  have HGG := Lib.hid hg
  clear h hp hf ht hc hW hb hgr hx hK hR hg
  go_enter Tryd.func72, Tryd.ntmps72
  go_wp2_with (go_at_call 75; refine hu.out.mono ?_; rintro e w2 ⟨rfl, rfl⟩)
  rw [HW.out]
  clear HW
  generalize hz : w2.heap.size = z at *
  have HZ := Lib.hid hz
  clear hz
  go_quiet (fail)
  have hdb := ((Grn.refl W).drew nq).below
  have hK2 := HK.out.grown hdb
  have hX2 := (hdb.block _ (lt_of_block HX.out)).trans HX.out
  have hG2 := HG.out.drew nq
  generalize W.drewN nq = V at *
  have HF0 := Lib.hid (Fr.of_below hG2.below l.F)
  have HK0 := Lib.hid hK2
  have HX0 := Lib.hid hX2
  clear hdb HK HX HG hG2 x0 x1 xl k0 lc hK2 hX2
  have x0 := cells_cell (o := 0) HX0.out rfl
  have x1 := cells_cell (o := 1) HX0.out rfl
  have xl := lt_of_block HX0.out
  have lc := HK0.out.lc
  have k1 := HK0.out.c1 HP.out
  have c1 := HK0.out.ct1
  go_wp2_with fail
  go_still_tail 8, (by kernel_rfl)
  change wpList _ _ _ _ _ (V.drewN 1)
  have hd1 := ((Grn.refl V).drew 1).below
  go_wp2_with (go_at_call 48; fail)
  refine (fiRemove_yes (HK0.out.grown hd1).qa).mono ?_
  rintro e w4 ⟨rfl, hq4, hf4⟩
  have hK4 := (HK0.out.grown hd1).queue hq4 hf4
  have hcz := (HK0.out.grown hd1).qa.out ((hd1.block _ (lt_of_block HX0.out)).trans HX0.out) (by decide)
  have hX4 := hf4.same ((hd1.block _ (lt_of_block HX0.out)).trans HX0.out) hcz
  have HF2 := Lib.hid ((HF0.out.trans' (Fr.of_below hd1 _)).trans' (frq hf4))
  clear hd1 hq4 hf4 hcz x0 x1 xl lc k1 c1 HK0 HX0 HF0
  have hK2 := hK4
  have hX2 := hX4
  clear hK4 hX4
  generalize w4 = V at *
  have x0 := cells_cell (o := 0) hX2 rfl
  have x1 := cells_cell (o := 1) hX2 rfl
  have xl := lt_of_block hX2
  have lc := hK2.lc
  have k0 := hK2.c0 HP.out
  have k1 := hK2.c1 HP.out
  have f0 := hK2.free (n * 2)
  have f1 := hK2.free (n * 2 + 1)
  have hcz := hK2.out hX2 (by decide) (by decide)
  have hK3 : KAt B ((V.setCell ⟨l.c, n * 2, none⟩ (.int .i64 1)).setCell ⟨l.c, n * 2 + 1, none⟩ (.int .u64 0)) l (P.set n ⟨1, 0⟩) (A ++ R) g := hK2.put2 HP.out 1 0
  have hfr3 : Fr l.F V ((V.setCell ⟨l.c, n * 2, none⟩ (.int .i64 1)).setCell ⟨l.c, n * 2 + 1, none⟩ (.int .u64 0)) := (KAt.frc V l (n * 2) (.int .i64 1)).trans' (KAt.frc _ l (n * 2 + 1) (.int .u64 ((0 : Nat) : Int)))
  have hX3 := hfr3.same hX2 hcz
  have HK3 := Lib.hid hK3
  have HX3 := Lib.hid hX3
  have HF3 := Lib.hid (HF2.out.trans' hfr3)
  clear hK2 hX2 hcz hK3 hfr3 hX3
  go_upto_region 10 with (fail)
  generalize (V.setCell ⟨l.c, n * 2, none⟩ (.int .i64 1)).setCell ⟨l.c, n * 2 + 1, none⟩ (.int .u64 0) = V3 at *
  clear x0 x1 xl lc k0 k1 f0 f1
  have x0 := cells_cell (o := 0) HX3.out rfl
  have x1 := cells_cell (o := 1) HX3.out rfl
  have xl := lt_of_block HX3.out
  have c1 := HK3.out.ct1
  have lc := HK3.out.lc
  go_wp2_with (go_at_call 56; fail)
  refine (fiPush_yes HK3.out.qa (by have := HQL.out; simp at this ⊢; omega) (by have := HGG.out; omega) ((n : Nat) : Int)).mono ?_
  rintro e w6 ⟨rfl, hq6, hf6⟩
  have hK6 := HK3.out.queue hq6 hf6
  have hP6 : (P.set n ⟨1, 0⟩)[n]? = some ⟨1, 0⟩ := by rw [setK HP.out, if_pos rfl]
  have k1 := hK6.c1 hP6
  have f1 := hK6.free (n * 2 + 1)
  have lc := hK6.lc
  have hK7 := hK6.put1 hP6 (g + 1)
  rw [List.set_set] at hK7
  have HK7 := Lib.hid hK7
  have HF7 := Lib.hid ((HF3.out.trans' (frq hf6)).trans' (KAt.frc w6 l (n * 2 + 1) (.int .u64 ((g + 1 : Nat) : Int))))
  clear hq6 hf6 hK6 hP6 hK7 x0 x1 xl c1 HK3 HX3 HF3
  go_wp2_with fail
  go_ret
  refine ⟨rfl, ?_, HF7.out⟩
  have := HK7.out
  unfold stepP stepQ stepG
  rw [hwo.out]
  exact this
end
end Go.Proofs.YtcdimopiaanfbaaDoor
