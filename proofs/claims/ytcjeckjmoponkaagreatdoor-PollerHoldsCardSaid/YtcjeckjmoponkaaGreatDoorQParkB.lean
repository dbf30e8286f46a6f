/- QParkB: PLeave, PWake, PNew, PCopy, PNil, merged. -/
import Derived.Test.YtcjeckjmoponkaaGreatDoorQParkA
import Derived.LoopTactic
import Derived.Deep.LoopGhost
import Derived.Test.YtcjeckjmoponkaaGreatDoorQTaskB
import Derived.Test.YtcjeckjmoponkaaGreatDoorQMix
/- Leave. -/
namespace Go.Proofs.YtcjeckjmoponkaaGreatDoor
open Go.RowKit Go.Sort Go.MapKept
set_option linter.unusedVariables false
set_option linter.unusedSimpArgs false

theorem field_place (W : World) (a b k : Int) : (Instr.field 239 (.agg #[.int .i64 a, .int .i64 b, .int .u64 k]) 1).run Tryz.prog W = .ok (.int .u64 k) W := by kernel_rfl
section
variable {B : Nat} {S : Nat → Prop} {w w' : World} {l : Ll} {P : Ks} {Q : Qu} {g i k : Nat} {f : Sp → Option Qd} {pl : Int → Option Pl} {z : Zt} {G : Nat} {s : Sp} {p : Ck}
theorem LAt.dropQueue {w2 : World} {n : Nat} (hA : LAt B S w l P Q g f pl) (hm : MapAt TQ w2 l.mq n (updG (fun s => (f s).map (·.q)) s none)) (hfr : Fr [l.mq] w w2) : LAt B S w2 l P Q g (updG f s none) pl := by
  have cases' : ∀ t x, updG f s none t = some x → t ≠ s ∧ f t = some x := fun t x hx => by
    unfold updG at hx
    by_cases e : t = s
    · rw [if_pos e] at hx; cases hx
    · rw [if_neg e] at hx; exact ⟨e, hx⟩
  refine hA.queues hfr (hm.congr (fun t => ?_)) (fun t x hx => .inl (cases' t x hx).2) (fun t t' x x' hx hx' hne => hA.ap t t' x x' (cases' t x hx).2 (cases' t' x' hx').2 hne)
  unfold updG
  by_cases e : t = s <;> simp [e]

set_option maxRecDepth 100000 in
set_option maxHeartbeats 6400000 in
theorem pkLeave_yes (h : LAt B S w l P Q g f pl) (hZ : ZOk P Q f pl z.L G) (hg : g ≤ G) (hG : G ≤ 1000000) (h1 : z.S = sts P) (h2 : z.R = vls Q) (hm : (i, s) ∈ z.L) :
    Calls Tryz.prog 120 #[.pointer (some ⟨l.a, 0, none⟩), .int .i64 ((i : Nat) : Int)] w fun e w' => e = .returned (.tuple #[.agg #[.int .i64 s.1, .int .i64 s.2], .int .i64 0]) ∧ LS B S w' l (z.leave i) (G + 1) ∧ FrL S w w' := by
  have hi : i < P.length := hZ.inP i (List.mem_map.2 ⟨_, hm, rfl⟩)
  have hp := List.getElem?_eq_getElem hi
  have hs2 : P[i].s = frOf 2 := (hZ.st i _ hp).2 (List.mem_map.2 ⟨_, hm, rfl⟩)
  obtain ⟨k, d, hpl, hd, hin⟩ := hZ.p1 i s hm
  obtain ⟨A, R, hsp⟩ := List.append_of_mem hin
  have hwc : whC z ((i : Nat) : Int) = (s, 0) := by
    unfold whC
    rw [numI_at (by rw [h1, sts_len]; exact hi)]
    simp only [(seatOf_some hZ.nd).2 hm]
  have hb0 := below_alloc w (.cells #[.int .i64 0, .int .i64 0] 132)
  have hx0 := block_new w (.cells #[.int .i64 0, .int .i64 0] 132) _ rfl
  have HX0 := Lib.hid hx0
  have HA0 := Lib.hid (h.grown hb0)
  have HF0 := Lib.hid (FrL.of_below S hb0)
  have hw : Hid _ := Lib.hid (pkWhere_any (B := B) (S := S) (l := l) (z := z) (G := G) ⟨P, Q, g, f, pl, HA0.out, hZ, hg, h1, h2⟩ ((i : Nat) : Int))
  rw [hwc] at hw
  have HE := Lib.hid (And.intro h1 h2)
  have HZ := Lib.hid hZ
  have HD := Lib.hid hd
  have HM := Lib.hid hm
  have HP := Lib.hid hp
  have HPL := Lib.hid hpl
  have HSP := Lib.hid hsp
  have HS2 := Lib.hid hs2
  have HGG := Lib.hid (And.intro hg hG)
  have HBL : Hid (B ≤ w.heap.size) := Lib.hid (Nat.le_of_lt (Nat.lt_of_le_of_lt (h.sl _ h.sa.1) h.lt))
  obtain ⟨sa, sb⟩ := s
  simp only at hw ⊢
  clear h hZ hg hG hd hp hs2 hb0 hx0 hpl hin hsp hwc h1 h2 hm
  go_enter Tryz.func120, Tryz.ntmps120
  go_wp2_with (go_at_call 71; fail)
  refine hw.out.mono ?_
  rintro e w1 ⟨rfl, hg1⟩
  have HA1 := Lib.hid (HA0.out.grown hg1.below)
  have HF1 := Lib.hid (HF0.out.trans (FrL.of_below S hg1.below))
  have HX1 := Lib.hid ((hg1.below.block _ (lt_of_block HX0.out)).trans HX0.out)
  have HBS : Hid (w.heap.size < w1.heap.size) := Lib.hid (lt_of_block HX1.out)
  have c0 := HA1.out.ca0
  have al := HA1.out.lt
  clear hg1 hw HX0 HA0 HF0
  generalize hzz : w.heap.size = zz at *
  have HZZ := Lib.hid hzz
  clear hzz
  have hb1 := below_alloc w1 (.cells #[.int .i64 sa, .int .i64 sb] 132)
  have HY1 := Lib.hid (block_new w1 (.cells #[.int .i64 sa, .int .i64 sb] 132) _ rfl)
  have HA1b := Lib.hid (HA1.out.grown hb1)
  have HF1b := Lib.hid (HF1.out.trans (FrL.of_below S hb1))
  have HX1b := Lib.hid ((hb1.block _ (lt_of_block HX1.out)).trans HX1.out)
  clear hb1
  go_wp2_with (go_at_call 173; fail)
  refine (tkWake_yes HA1b.out.k HZ.out.rk (by have := HGG.out; omega) HP.out HS2.out).mono ?_
  rintro e w2 ⟨rfl, hk2, hf2⟩
  have HA2 := Lib.hid (HA1b.out.tasks hf2 hk2)
  have HF2 := Lib.hid (HF1b.out.trans (HA1b.out.frk hf2))
  have HX2 := Lib.hid ((HA1b.out.frk hf2).block HX1b.out (by decide) (by decide))
  have HY2 := Lib.hid ((HA1b.out.frk hf2).block HY1.out (by decide) (by decide))
  clear hk2 hf2 c0 al HA1 HF1 HX1 HA1b HF1b HX1b HY1
  generalize w1.heap.size = yy at *
  have c1 := HA2.out.ca1
  have al := HA2.out.lt
  have y0 := cells_cell (o := 0) HY2.out rfl
  have y1 := cells_cell (o := 1) HY2.out rfl
  have yl := lt_of_block HY2.out
  have l1 : ∀ n, (Instr.lookup 153 (.map (some l.mq)) (.agg #[.int .i64 sa, .int .i64 sb]) false).run Tryz.prog (w2.drewN n) = .ok (.pointer (some ⟨d.q, 0, none⟩)) (w2.drewN n) := fun n => by
    obtain ⟨m, hm⟩ := HA2.out.mq
    have := MapAt.look_yes TQ_ok (hm.same (w' := w2.drewN n) rfl) (k := (sa, sb)) (x := d.q) (by simp only [HD.out]; rfl) false
    simpa [TQ, encS] using this
  go_wp2_with fail
  go_quiet (fail)
  have hd3 := ((Grn.refl w2).drew nq).below
  have HA3 := Lib.hid (HA2.out.grown hd3)
  have HF3 := Lib.hid (HF2.out.trans (FrL.of_below S hd3))
  have HX3 := Lib.hid ((hd3.block _ (lt_of_block HX2.out)).trans HX2.out)
  have HY3 := Lib.hid ((hd3.block _ (lt_of_block HY2.out)).trans HY2.out)
  clear hd3 HA2 HF2 HX2 HY2 c1 al y0 y1 yl l1
  generalize w2.drewN nq = w3 at *
  have c2 := HA3.out.ca2
  have al := HA3.out.lt
  have l1 : (Instr.lookup 154 (.map (some l.mp)) (.int .i64 ((i : Nat) : Int)) false).run Tryz.prog w3 = .ok (.agg #[.int .i64 sa, .int .i64 sb, .int .u64 ((k : Nat) : Int)]) w3 := by
    obtain ⟨m, hm⟩ := HA3.out.mp
    have := MapAt.look_yes TP_ok hm HPL.out false
    simpa [TP, Pl.enc] using this
  have hfd := field_place w3 sa sb ((k : Nat) : Int)
  go_wp2_with (go_at_call 174; fail)
  have hqd := HA3.out.qs _ d HD.out
  rw [HSP.out] at hqd
  refine (fiRemove_yes hqd).mono ?_
  rintro e w4 ⟨rfl, hq4, hf4⟩
  have HA4 := Lib.hid (HA3.out.queue HD.out hf4 hq4)
  have hF4 := HA3.out.frq HD.out hf4
  have HF4 := Lib.hid (HF3.out.trans hF4)
  have HX4 := Lib.hid (hF4.block HX3.out (by decide) (by decide))
  have HY4 := Lib.hid (hF4.block HY3.out (by decide) (by decide))
  clear hqd hq4 hf4 hF4 HA3 HF3 HX3 HY3 c2 al l1 hfd
  go_wp2_with (go_at_call 172; fail)
  refine (fiLen_any (HA4.out.qs _ _ (updG_same _ _ _))).mono ?_
  rintro e w5 ⟨rfl, rfl⟩
  simp only
  have hzk := HZ.out.leave HM.out HD.out HSP.out g
  by_cases hAR : A ++ R = []
  · rw [if_pos hAR] at hzk
    have HZ' := Lib.hid hzk
    have hlen : (((A ++ R).length : Nat) : Int) = 0 := by rw [hAR]; rfl
    rw [hlen]
    have c1 := HA4.out.ca1
    have al := HA4.out.lt
    have y0 := cells_cell (o := 0) HY4.out rfl
    have y1 := cells_cell (o := 1) HY4.out rfl
    have yl := lt_of_block HY4.out
    clear hzk hlen
    go_wp2_with fail
    go_still_tail 5, (by kernel_rfl)
    change wpList _ _ _ _ _ (w5.drewN 1)
    obtain ⟨n, hmq⟩ := HA4.out.mq
    have HMQ : Hid (MapAt TQ (w5.drewN 1) l.mq n _) := Lib.hid (hmq.same rfl)
    clear hmq
    go_wp2_with (at_delete; refine wpList_dropG TQ_ok rfl _ _ rfl HMQ.out (sa, sb) (x := d.q) (by simp only [updG_same]; rfl) rfl rfl ?_; intro w6 hm6 hf6 hs6; refine Hid.out ?_)
    have hd1 : Grn w5 (w5.drewN 1) := (Grn.refl w5).drew 1
    have hA51 := HA4.out.grown hd1.below
    have hA6 := hA51.dropQueue hm6 hf6
    rw [updG_twice] at hA6
    have HA6 := Lib.hid hA6
    have hF6 := (FrL.of_below S hd1.below).trans (hA51.frmq hf6)
    have HF6 := Lib.hid (HF4.out.trans hF6)
    have HX6 := Lib.hid (hF6.block HX4.out (by decide) (by decide))
    have HY6 := Lib.hid (hF6.block HY4.out (by decide) (by decide))
    clear hm6 hf6 hs6 hd1 hA51 HMQ hF6 hA6 c1 al y0 y1 yl HA4 HF4 HX4 HY4
    refine Lib.hid ?_
    have c2 := HA6.out.ca2
    have al := HA6.out.lt
    obtain ⟨n2, hmp⟩ := HA6.out.mp
    have HMP := Lib.hid hmp
    clear hmp
    go_wp2_with (at_delete; refine wpList_dropG TP_ok rfl _ _ rfl HMP.out ((i : Nat) : Int) HPL.out rfl rfl ?_; intro w7 hm7 hf7 hs7; refine Hid.out ?_)
    have HA7 := Lib.hid (HA6.out.places hf7 hm7)
    have hF7 := HA6.out.frmp hf7
    have HF7 := Lib.hid (HF6.out.trans hF7)
    have HX7 := Lib.hid (hF7.block HX6.out (by decide) (by decide))
    have HY7 := Lib.hid (hF7.block HY6.out (by decide) (by decide))
    clear hm7 hf7 hs7 hF7 HMP c2 al HA6 HF6 HX6 HY6
    have x0 := cells_cell (o := 0) HX7.out rfl
    have x1 := cells_cell (o := 1) HX7.out rfl
    have y0 := cells_cell (o := 0) HY7.out rfl
    have y1 := cells_cell (o := 1) HY7.out rfl
    have f0 := cells_free HX7.out 0
    have f1 := cells_free HX7.out 1
    have xl := lt_of_block HX7.out
    have yl := lt_of_block HY7.out
    have hfs := (fr_setCell w7 ⟨zz, 0, none⟩ (.int .i64 sa)).trans' (fr_setCell _ ⟨zz, 1, none⟩ (.int .i64 sb))
    have HX8 := Lib.hid (cells_set (cells_set HX7.out 0 (.int .i64 sa)) 1 (.int .i64 sb))
    have HA8 := Lib.hid (HA7.out.fr hfs (fun x hx => by simp at hx; subst hx; exact ⟨HBL.out, _, _, HX7.out, by decide, by decide, by decide, by decide, by decide⟩))
    have HF8 : Hid (FrL S w ((w7.setCell ⟨zz, 0, none⟩ (.int .i64 sa)).setCell ⟨zz, 1, none⟩ (.int .i64 sb))) := Lib.hid ⟨HF7.out.os, HF7.out.tape, HF7.out.output, Nat.le_trans HF7.out.size hfs.size, fun k hk hn => (hfs.block k (Nat.lt_of_lt_of_le hk HF7.out.size) (by have := HZZ.out; simp; omega)).trans (HF7.out.out k hk hn), fun k y u hc e1 e2 => (hfs.block k (Nat.lt_of_lt_of_le (lt_of_block hc) HF7.out.size) (by have := HZZ.out; have := lt_of_block hc; simp; omega)).trans (HF7.out.cel k y u hc e1 e2)⟩
    clear hfs HX7 HY7 HA7 HF7
    refine Lib.hid ?_
    go_wp2_with fail
    have hx8 := HX8.out
    simp at hx8
    refine bodyPost_ret (v := .tuple #[.agg #[.int .i64 sa, .int .i64 sb], .int .i64 0]) (by simp [results, Tryz.results120, go_sem, cells_cell (o := 0) hx8 rfl, cells_cell (o := 1) hx8 rfl]) rfl ?_
    exact ⟨rfl, ⟨_, _, _, _, _, HA8.out, HZ'.out.mono (by omega), by unfold stepG; have := HGG.out; split <;> omega, by show z.S.set i 1 = _; rw [sts_step, HE.out.1]; rfl, by show woR _ z.R ++ _ = _; rw [vls_step, HE.out.2]; rfl⟩, HF8.out⟩
  · rw [if_neg hAR] at hzk
    have HZ' := Lib.hid hzk
    have HA6 := HA4
    have HF6 := HF4
    have HX6 := HX4
    have HY6 := HY4
    have hlen : ((((A ++ R).length : Nat) : Int) == 0) = false := by
      have : (A ++ R).length ≠ 0 := fun e => hAR (List.eq_nil_of_length_eq_zero e)
      simp only [beq_eq_false_iff_ne, ne_eq]; omega
    have hlen2 : ((A ++ R).length == 0) = false := by
      have : (A ++ R).length ≠ 0 := fun e => hAR (List.eq_nil_of_length_eq_zero e)
      simp only [beq_eq_false_iff_ne, ne_eq]; omega
    have HHZ : Hid (∀ n, n = (A ++ R).length → n ≠ 0) := Lib.hid (fun n hn e => hAR (List.eq_nil_of_length_eq_zero (by omega)))
    have hn0 := HHZ.out _ rfl
    clear hzk HA4 HF4 HX4 HY4 HSP
    generalize (A ++ R).length = len at *
    generalize w5 = w6 at *
    have c2 := HA6.out.ca2
    have al := HA6.out.lt
    obtain ⟨n2, hmp⟩ := HA6.out.mp
    have HMP := Lib.hid hmp
    clear hmp
    go_wp2_with (at_delete; refine wpList_dropG TP_ok rfl _ _ rfl HMP.out ((i : Nat) : Int) HPL.out rfl rfl ?_; intro w7 hm7 hf7 hs7; refine Hid.out ?_)
    have HA7 := Lib.hid (HA6.out.places hf7 hm7)
    have hF7 := HA6.out.frmp hf7
    have HF7 := Lib.hid (HF6.out.trans hF7)
    have HX7 := Lib.hid (hF7.block HX6.out (by decide) (by decide))
    have HY7 := Lib.hid (hF7.block HY6.out (by decide) (by decide))
    clear hm7 hf7 hs7 hF7 HMP c2 al HA6 HF6 HX6 HY6
    have x0 := cells_cell (o := 0) HX7.out rfl
    have x1 := cells_cell (o := 1) HX7.out rfl
    have y0 := cells_cell (o := 0) HY7.out rfl
    have y1 := cells_cell (o := 1) HY7.out rfl
    have f0 := cells_free HX7.out 0
    have f1 := cells_free HX7.out 1
    have xl := lt_of_block HX7.out
    have yl := lt_of_block HY7.out
    have hfs := (fr_setCell w7 ⟨zz, 0, none⟩ (.int .i64 sa)).trans' (fr_setCell _ ⟨zz, 1, none⟩ (.int .i64 sb))
    have HX8 := Lib.hid (cells_set (cells_set HX7.out 0 (.int .i64 sa)) 1 (.int .i64 sb))
    have HA8 := Lib.hid (HA7.out.fr hfs (fun x hx => by simp at hx; subst hx; exact ⟨HBL.out, _, _, HX7.out, by decide, by decide, by decide, by decide, by decide⟩))
    have HF8 : Hid (FrL S w ((w7.setCell ⟨zz, 0, none⟩ (.int .i64 sa)).setCell ⟨zz, 1, none⟩ (.int .i64 sb))) := Lib.hid ⟨HF7.out.os, HF7.out.tape, HF7.out.output, Nat.le_trans HF7.out.size hfs.size, fun k hk hn => (hfs.block k (Nat.lt_of_lt_of_le hk HF7.out.size) (by have := HZZ.out; simp; omega)).trans (HF7.out.out k hk hn), fun k y u hc e1 e2 => (hfs.block k (Nat.lt_of_lt_of_le (lt_of_block hc) HF7.out.size) (by have := HZZ.out; have := lt_of_block hc; simp; omega)).trans (HF7.out.cel k y u hc e1 e2)⟩
    clear hfs HX7 HY7 HA7 HF7
    refine Lib.hid ?_
    go_wp2_with fail
    have hx8 := HX8.out
    simp at hx8
    refine bodyPost_ret (v := .tuple #[.agg #[.int .i64 sa, .int .i64 sb], .int .i64 0]) (by simp [results, Tryz.results120, go_sem, cells_cell (o := 0) hx8 rfl, cells_cell (o := 1) hx8 rfl]) rfl ?_
    exact ⟨rfl, ⟨_, _, _, _, _, HA8.out, HZ'.out.mono (by omega), by unfold stepG; have := HGG.out; split <;> omega, by show z.S.set i 1 = _; rw [sts_step, HE.out.1]; rfl, by show woR _ z.R ++ _ = _; rw [vls_step, HE.out.2]; rfl⟩, HF8.out⟩
set_option maxHeartbeats 800000 in
theorem pkLeave_err (h : LS B S w l z G) (N : Int) (hc : (whC z N).2 ≠ 0) : Calls Tryz.prog 120 #[.pointer (some ⟨l.a, 0, none⟩), .int .i64 N] w fun e w' => e = .returned (.tuple #[.agg #[.int .i64 0, .int .i64 0], .int .i64 (whC z N).2]) ∧ Grn w w' := by
  have hw := Lib.hid (pkWhere_any (h.grown (below_alloc w (.cells #[.int .i64 0, .int .i64 0] 132))) N)
  have HX0 := Lib.hid (block_new w (.cells #[.int .i64 0, .int .i64 0] 132) _ rfl)
  generalize (whC z N).2 = c at *
  generalize (whC z N).1.1 = sa at *
  generalize (whC z N).1.2 = sb at *
  have e1 : (c != 0) = true := by simpa using hc
  clear h hc
  go_enter Tryz.func120, Tryz.ntmps120
  go_wp2_with (go_at_call 71; fail)
  refine hw.out.mono ?_
  rintro e w1 ⟨rfl, hg1⟩
  have hx1 := (hg1.below.block _ (lt_of_block HX0.out)).trans HX0.out
  have x0 := cells_cell (o := 0) hx1 rfl
  have x1 := cells_cell (o := 1) hx1 rfl
  have f0 := cells_free hx1 0
  have f1 := cells_free hx1 1
  have xl := lt_of_block hx1
  have hx3 := cells_set (cells_set hx1 0 (.int .i64 0)) 1 (.int .i64 0)
  have hx2 := ((below_alloc _ (.cells #[.int .i64 sa, .int .i64 sb] 132)).block _ (lt_of_block hx3)).trans hx3
  have HX2 := Lib.hid hx2
  have HG := Lib.hid ((((((Grn.refl w).alloc (.cells #[.int .i64 0, .int .i64 0] 132)).trans hg1).set ⟨w.heap.size, 0, none⟩ (.int .i64 0) (Nat.le_refl _)).set ⟨w.heap.size, 1, none⟩ (.int .i64 0) (Nat.le_refl _)).alloc (.cells #[.int .i64 sa, .int .i64 sb] 132))
  clear hx1 hx2 hx3 hg1 hw HX0
  generalize hzz : w.heap.size = zz at *
  clear hzz
  go_wp2_with fail
  have hx2 := HX2.out
  simp at hx2
  refine bodyPost_ret (v := .tuple #[.agg #[.int .i64 0, .int .i64 0], .int .i64 c]) (by simp [results, Tryz.results120, go_sem, cells_cell (o := 0) hx2 rfl, cells_cell (o := 1) hx2 rfl]) rfl ?_
  exact ⟨rfl, HG.out⟩
theorem whC_ok {z : Zt} (hz : ZK z) {N : Int} (hc : (whC z N).2 = 0) : ∃ i : Nat, N = ((i : Nat) : Int) ∧ (i, (whC z N).1) ∈ z.L := by
  rcases numI_or z N with ⟨e, hn⟩ | ⟨i, rfl, hi, e⟩
  · unfold whC at hc; rw [e] at hc; cases hc
  · unfold whC at hc ⊢
    simp only [e] at hc ⊢
    cases hs : seatOf z.L i with
    | none => rw [hs] at hc; cases hc
    | some s => exact ⟨i, rfl, (seatOf_some hz.nd).1 hs⟩
theorem pkLeave_any (h : LS B S w l z G) (hG : G ≤ 1000000) (N : Int) : Calls Tryz.prog 120 #[.pointer (some ⟨l.a, 0, none⟩), .int .i64 N] w fun e w' => e = .returned (.tuple #[.agg #[.int .i64 (lvC z N).1.1, .int .i64 (lvC z N).1.2], .int .i64 (lvC z N).2.1]) ∧ LS B S w' l (lvC z N).2.2 (G + 1) ∧ FrL S w w' := by
  unfold lvC
  by_cases hc : (whC z N).2 = 0
  · rw [if_pos hc]
    obtain ⟨i, rfl, hm⟩ := whC_ok h.zk hc
    obtain ⟨P, Q, g, f, pl, hA, hZ, hg, h1, h2⟩ := h
    exact pkLeave_yes hA hZ hg hG h1 h2 hm
  · rw [if_neg hc]
    refine (pkLeave_err h N hc).mono ?_
    rintro e w' ⟨rfl, hgr⟩
    exact ⟨rfl, (h.grown hgr.below).mono (by omega), FrL.of_below S hgr.below⟩
theorem lvC_in {z : Zt} (hz : ZK z) {i : Nat} {s : Sp} (h : (i, s) ∈ z.L) : lvC z ((i : Nat) : Int) = (s, 0, z.leave i) := by
  have : whC z ((i : Nat) : Int) = (s, 0) := by
    unfold whC
    rw [numI_at (hz.inS i (List.mem_map.2 ⟨_, h, rfl⟩))]
    simp only [(seatOf_some hz.nd).2 h]
  unfold lvC
  rw [this]
  simp
end
end Go.Proofs.YtcjeckjmoponkaaGreatDoor
/- Wake and WakeAll. -/
namespace Go.Proofs.YtcjeckjmoponkaaGreatDoor
open Go.RowKit Go.Sort Go.MapKept
set_option linter.unusedVariables false
set_option linter.unusedSimpArgs false

section
variable {B : Nat} {S : Nat → Prop} {w w' : World} {l : Ll} {P : Ks} {Q : Qu} {g i k : Nat} {f : Sp → Option Qd} {pl : Int → Option Pl} {z : Zt} {G : Nat} {s : Sp} {p : Ck}
set_option maxHeartbeats 800000 in
theorem pkWake_some (h : LAt B S w l P Q g f pl) (hZ : ZOk P Q f pl z.L G) (hg : g ≤ G) (hG : G ≤ 1000000) (h1 : z.S = sts P) (h2 : z.R = vls Q) (hs : SpOk s) {d : Qd} (hd : f s = some d) :
    Calls Tryz.prog 68 #[.pointer (some ⟨l.a, 0, none⟩), .agg #[.int .i64 s.1, .int .i64 s.2]] w fun e w' => e = .returned (.tuple #[.int .i64 (wkC z s).1, .int .i64 (wkC z s).2.1]) ∧ LS B S w' l (wkC z s).2.2 (G + 1) ∧ FrL S w w' := by
  obtain ⟨q1, q2, q3⟩ := hZ.qf s d hd
  cases hdl : d.L with
  | nil => exact absurd hdl q1
  | cons x R =>
    obtain ⟨t, v⟩ := x
    cases hwt : wt s z.L with
    | nil => rw [hwt, hdl] at q2; cases q2
    | cons i ns =>
      rw [hwt, hdl] at q2
      simp only [List.map_cons, cat, List.cons.injEq] at q2
      have hwk : wkC z s = (((i : Nat) : Int), 0, z.leave i) := by unfold wkC; rw [if_pos hs, hwt]
      have hm : (i, s) ∈ z.L := mem_wt.1 (by rw [hwt]; exact List.mem_cons_self)
      obtain ⟨q4, -⟩ := q2
      have hb0 := below_alloc w (.cells #[.int .i64 s.1, .int .i64 s.2] 132)
      have HA0 := Lib.hid (h.grown hb0)
      have hq := Lib.hid (pkQueue_some HA0.out hs hd)
      have HD := Lib.hid hd
      have HDL := Lib.hid hdl
      have hlv : ∀ W, LS B S W l z G → Calls Tryz.prog 120 #[.pointer (some ⟨l.a, 0, none⟩), .int .i64 ((i : Nat) : Int)] W fun e w' => e = .returned (.tuple #[.agg #[.int .i64 s.1, .int .i64 s.2], .int .i64 0]) ∧ LS B S w' l (z.leave i) (G + 1) ∧ FrL S W w' := fun W hW => by
        have := pkLeave_any hW hG ((i : Nat) : Int)
        rw [lvC_in hW.zk hm] at this
        exact this
      have HLV := Lib.hid hlv
      have hLS : ∀ W, LAt B S W l P Q g f pl → LS B S W l z G := fun W hW => ⟨P, Q, g, f, pl, hW, hZ, hg, h1, h2⟩
      have HLS := Lib.hid hLS
      rw [hwk]
      try simp only
      try simp only at q4
      subst q4
      clear h hZ hg h1 h2 hs hd hdl hwt hwk hm q1 hlv hLS hb0 q3
      generalize s.1 = sa at *
      generalize s.2 = sb at *
      go_enter Tryz.func68, Tryz.ntmps68
      go_wp2_with (go_at_call 118; fail)
      refine hq.out.mono ?_
      rintro e w1 ⟨rfl, hg1⟩
      have HA1 := Lib.hid (HA0.out.grown hg1.below)
      have HG1 := Lib.hid (((Grn.refl w).alloc (.cells #[.int .i64 sa, .int .i64 sb] 132)).trans hg1)
      clear hg1 hq HA0
      go_wp2_with (go_at_call 119; fail)
      have hqd := HA1.out.qs _ d HD.out
      rw [HDL.out] at hqd
      refine (fiFront_yes hqd).mono ?_
      rintro e w2 ⟨rfl, hg2⟩
      have HA2 := Lib.hid (HA1.out.grown hg2.below)
      have HG2 := Lib.hid (HG1.out.trans hg2)
      clear hg2 hqd HA1 HG1
      go_wp2_with (go_at_call 120; fail)
      refine (HLV.out w2 (HLS.out w2 HA2.out)).mono ?_
      rintro e w3 ⟨rfl, hL, hF⟩
      have HL := Lib.hid hL
      have HF := Lib.hid ((FrL.of_below S HG2.out.below).trans hF)
      clear hL hF HA2 HG2
      go_wp2_with fail
      go_ret2
      exact ⟨rfl, HL.out, HF.out⟩
theorem pkWake_none (h : LAt B S w l P Q g f pl) (hs : SpOk s) (hd : f s = none) :
    Calls Tryz.prog 68 #[.pointer (some ⟨l.a, 0, none⟩), .agg #[.int .i64 s.1, .int .i64 s.2]] w fun e w' => e = .returned (.tuple #[.int .i64 0, .int .i64 9]) ∧ Grn w w' := by
  have hq := Lib.hid (pkQueue_none (h.grown (below_alloc w (.cells #[.int .i64 s.1, .int .i64 s.2] 132))) hs hd)
  clear h hs hd
  generalize s.1 = sa at *
  generalize s.2 = sb at *
  go_enter Tryz.func68, Tryz.ntmps68
  go_wp2_with (go_at_call 118; refine hq.out.mono ?_; rintro e w1 ⟨rfl, hg1⟩)
  go_ret2
  exact ⟨rfl, ((Grn.refl w).alloc _).trans hg1⟩
theorem pkWake_bad (h : LAt B S w l P Q g f pl) (hs : ¬ SpOk s) :
    Calls Tryz.prog 68 #[.pointer (some ⟨l.a, 0, none⟩), .agg #[.int .i64 s.1, .int .i64 s.2]] w fun e w' => e = .returned (.tuple #[.int .i64 0, .int .i64 2]) ∧ Grn w w' := by
  have hq := Lib.hid (pkQueue_bad (h.grown (below_alloc w (.cells #[.int .i64 s.1, .int .i64 s.2] 132))) hs)
  clear h hs
  generalize s.1 = sa at *
  generalize s.2 = sb at *
  go_enter Tryz.func68, Tryz.ntmps68
  go_wp2_with (go_at_call 118; refine hq.out.mono ?_; rintro e w1 ⟨rfl, hg1⟩)
  go_ret2
  exact ⟨rfl, ((Grn.refl w).alloc _).trans hg1⟩
theorem pkWake_any (h : LS B S w l z G) (hG : G ≤ 1000000) (s : Sp) : Calls Tryz.prog 68 #[.pointer (some ⟨l.a, 0, none⟩), .agg #[.int .i64 s.1, .int .i64 s.2]] w fun e w' => e = .returned (.tuple #[.int .i64 (wkC z s).1, .int .i64 (wkC z s).2.1]) ∧ LS B S w' l (wkC z s).2.2 (G + 1) ∧ FrL S w w' := by
  have HH := Lib.hid h
  obtain ⟨P, Q, g, f, pl, hA, hZ, hg, h1, h2⟩ := h
  by_cases hs : SpOk s
  · cases hf : f s with
    | some d => exact pkWake_some hA hZ hg hG h1 h2 hs hf
    | none =>
      have : wkC z s = (0, 9, z) := by unfold wkC; rw [if_pos hs, hZ.q0 s hf]
      rw [this]
      refine (pkWake_none hA hs hf).mono ?_
      rintro e w' ⟨rfl, hgr⟩
      exact ⟨rfl, (HH.out.grown hgr.below).mono (by omega), FrL.of_below S hgr.below⟩
  · have : wkC z s = (0, 2, z) := by unfold wkC; rw [if_neg hs]
    rw [this]
    refine (pkWake_bad hA hs).mono ?_
    rintro e w' ⟨rfl, hgr⟩
    exact ⟨rfl, (HH.out.grown hgr.below).mono (by omega), FrL.of_below S hgr.below⟩

/-- Who is woken. -/
def wns (z : Zt) (s : Sp) : List Nat := if SpOk s then wt s z.L else []
theorem waC_eq (z : Zt) (s : Sp) : waC z s = (cat (wns z s), if SpOk s then 0 else 2) := by
  unfold waC wns
  by_cases hs : SpOk s
  · rw [if_pos hs, if_pos hs, if_pos hs]
  · rw [if_neg hs, if_neg hs, if_neg hs]; rfl
theorem wkaC_eq (z : Zt) (s : Sp) : wkaC z s = (cat (wns z s), (if SpOk s then 0 else 2), z.leaves (wns z s)) := by
  unfold wkaC wns
  by_cases hs : SpOk s
  · rw [if_pos hs, if_pos hs, if_pos hs]
  · rw [if_neg hs, if_neg hs, if_neg hs]; rfl
theorem wns_in {z : Zt} (hz : ZK z) {s : Sp} {j : Nat} (hj : j < (wns z s).length) : ((wns z s)[j], s) ∈ (z.leaves ((wns z s).take j)).L := by
  rw [leaves_L]
  have hm := List.getElem_mem hj
  have hn : (wns z s).Nodup := by unfold wns; split; exact wt_nodup hz.nd; exact List.nodup_nil
  refine ⟨?_, fun h => ?_⟩
  · unfold wns at hm ⊢
    split at hm
    · rename_i hs
      simp only [if_pos hs]
      exact mem_wt.1 hm
    · cases hm
  · obtain ⟨k, hk, e⟩ := List.getElem_of_mem h
    simp only [List.getElem_take] at e
    rw [List.length_take] at hk
    have := (List.getElem_inj (h₀ := by omega) (h₁ := hj) hn).1 e
    omega
theorem wns_len {z : Zt} (hz : ZK z) (s : Sp) : (wns z s).length ≤ 64 := by
  unfold wns
  split
  · exact Nat.le_trans (wt_len _ _) hz.l
  · simp

set_option maxRecDepth 100000 in
set_option maxHeartbeats 3200000 in
theorem pkWakeAll_len (h : LS B S w l z G) (hG : G ≤ 900000) (s : Sp) : Calls Tryz.prog 115 #[.pointer (some ⟨l.a, 0, none⟩), .agg #[.int .i64 s.1, .int .i64 s.2]] w fun e w' => ∃ v, e = .returned (.tuple #[v, .int .i64 (wkaC z s).2.1]) ∧ Row TI w' w.heap.size v (wkaC z s).1 ∧ LS B S w' l (wkaC z s).2.2 (G + (wns z s).length) ∧ FrL S w w' := by
  have hb0 := below_alloc w (.cells #[.int .i64 s.1, .int .i64 s.2] 132)
  have HL0 := Lib.hid (h.grown hb0)
  have hwa := Lib.hid (pkWaiting_any HL0.out (by omega) s)
  have HF0 := Lib.hid (FrL.of_below S hb0)
  have HN64 := Lib.hid (wns_len h.zk s)
  have HIN : Hid (∀ j (hj : j < (wns z s).length), ((wns z s)[j], s) ∈ (z.leaves ((wns z s).take j)).L) := Lib.hid (fun j hj => wns_in h.zk hj)
  rw [waC_eq] at hwa
  rw [wkaC_eq]
  simp only at hwa ⊢
  generalize (if SpOk s then (0 : Int) else 2) = c at *
  obtain ⟨ns, hns⟩ : ∃ ns, ns = wns z s := ⟨_, rfl⟩
  rw [← hns] at hwa HN64 HIN ⊢
  obtain ⟨N, hN⟩ : ∃ N, N = ns.length := ⟨_, rfl⟩
  have HN := Lib.hid hN
  have HG := Lib.hid hG
  clear h hb0 hns hN hG
  go_enter Tryz.func115, Tryz.ntmps115
  go_wp2_with (go_at_call 168; fail)
  refine hwa.out.mono ?_
  rintro e w1 ⟨v, rfl, hr, hb1⟩
  have HR1 := Lib.hid hr
  have HL1 := Lib.hid (HL0.out.grown hb1)
  have HF1 := Lib.hid (HF0.out.trans (FrL.of_below S hb1))
  obtain ⟨va, vc, rfl, hv1, hv2⟩ := hr.form
  have hcl : (cat ns).length = N := by rw [HN.out]; simp [cat]
  rw [hcl] at hv1 HR1 ⊢
  have HCL := Lib.hid hcl
  have hNI : ((N : Nat) : Int) ≤ 64 := by have := HN64.out; have := HN.out; omega
  have HSZ : Hid (w.heap.size ≤ w1.heap.size) := Lib.hid HF1.out.size
  clear hr hb1 HL0 HF0 hwa hcl
  go_wp2_with fail
  go_loopw [18] (fun i wr => ∃ k : Nat, k ≤ N ∧ i = .int .i64 ((k : Nat) : Int) ∧ Hid (LS B S wr l (z.leaves (ns.take k)) (G + k)) ∧ Hid (Row TI wr w.heap.size (.slice va N vc) (cat ns)) ∧ Hid (FrL S w wr)) (fun i _ => N - (intOf i).toNat)
  case atStart => exact ⟨0, Nat.zero_le _, rfl, HL1, Lib.hid (HR1.out.lower (by simp)), HF1⟩
  case round =>
    obtain ⟨k, hk, rfl, HL, HR, HF⟩ := hrel
    by_cases hlt : k < N
    · have hkn : k < ns.length := by rw [← HN.out]; exact hlt
      have hkc : k < (cat ns).length := by rw [HCL.out]; exact hlt
      obtain ⟨a, o1, c1, e1, _, _, l1, k1⟩ := Src.int (HR.out.src TI_ok) hkc
      simp only [Value.slice.injEq] at e1
      obtain ⟨rfl, -, rfl⟩ := e1
      have q3 : (k : Int) < (N : Int) := by omega
      have hck : (cat ns)[k] = ((ns[k] : Nat) : Int) := by simp [cat]
      rw [hck] at k1
      have hin := HIN.out k hkn
      have hlv : Hid _ := Lib.hid (pkLeave_any HL.out (by have := HG.out; omega) ((ns[k] : Nat) : Int))
      rw [lvC_in HL.out.zk hin] at hlv
      have hnx : (z.leaves (ns.take k)).leave ns[k] = z.leaves (ns.take (k + 1)) := by
        rw [List.take_succ_eq_append_getElem hkn, leaves_append]; rfl
      rw [hnx] at hlv
      generalize ns[k] = x at *
      clear HIN hin hnx hck hkc hkn
      go_wp2_with (go_at_call 120; fail)
      refine hlv.out.mono ?_
      rintro e w2 ⟨rfl, hL, hF⟩
      have HL2 := Lib.hid hL
      have HR2 := Lib.hid (hF.row HR.out (by decide) (by decide))
      have HF2 := Lib.hid (HF.out.trans hF)
      clear hL hF HL HR HF hlv
      go_wp2_with fail
      go_roundw
      case rel => exact ⟨k + 1, by omega, by go_num, HL2, HR2, HF2⟩
      case measure => simp [intOf]; omega
    · obtain rfl : k = N := by omega
      have hL := HL.out
      rw [List.take_of_length_le (by rw [← HN.out]; exact Nat.le_refl _)] at hL
      have HL2 := Lib.hid hL
      clear hL HL HIN
      go_wp2_with fail
      go_ret2
      exact ⟨_, rfl, HR.out, HL2.out.mono (by have := HN.out; omega), HF.out⟩
end
end Go.Proofs.YtcjeckjmoponkaaGreatDoor
/- New and Copy. -/
namespace Go.Proofs.YtcjeckjmoponkaaGreatDoor
open Go.RowKit Go.Sort Go.MapKept
set_option linter.unusedVariables false
set_option linter.unusedSimpArgs false

def Z0 (c : Nat) : Zt := ⟨List.replicate c 0, [], []⟩
section
variable {B : Nat} {S : Nat → Prop} {w w' : World} {l : Ll} {P : Ks} {Q : Qu} {g i k : Nat} {f : Sp → Option Qd} {pl : Int → Option Pl} {z : Zt} {G : Nat} {s : Sp} {p : Ck}
theorem zok_new (c : Nat) : ZOk (List.replicate c ⟨0, 0⟩) [] (fun _ => none) (fun _ => none) [] 0 := by
  refine ⟨rk_new c, fun i p hp => ?_, fun i hi => by simp at hi, List.nodup_nil, fun s d hd => by simp at hd, fun s _ => rfl, fun i s hi => by simp at hi, fun _ _ => rfl, fun x hx => by simp at hx⟩
  rw [List.getElem?_replicate] at hp
  split at hp
  · cases hp; simp
  · cases hp
set_option maxHeartbeats 1600000 in
theorem pkNew_ok (w : World) (hmv : MvAt w) (hB : B ≤ w.heap.size) (hB0 : 0 < B) (hS1 : ∀ x, S x → B ≤ x) (hS2 : ∀ x, w.heap.size ≤ x → S x) (c : Nat) (h1 : 1 ≤ c) (h2 : c ≤ 64) :
    Calls Tryz.prog 38 #[.int .i64 ((c : Nat) : Int)] w fun e w' => ∃ l, e = .returned (.tuple #[.pointer (some ⟨l.a, 0, none⟩), .int .i64 0]) ∧ LS B S w' l (Z0 c) 0 ∧ Below w.heap.size w w' := by
  have hu := Lib.hid (tkNew_ok w hmv c h1 h2)
  have hmm := @run_makeMap Tryz.prog
  have HH := Lib.hid (And.intro hB (And.intro hB0 (And.intro hS1 hS2)))
  clear hmv h1 h2 hB hB0 hS1 hS2
  go_enter Tryz.func38, Tryz.ntmps38
  go_wp2_with (go_at_call 85; fail)
  refine hu.out.mono ?_
  rintro e w1 ⟨t, rfl, hK, hb⟩
  have HK := Lib.hid hK
  have HB := Lib.hid hb
  clear hK hb hu
  go_wp2_with fail
  go_ret2
  obtain ⟨hB, hB0, hS1, hS2⟩ := HH.out
  have hK := HK.out
  have hb := HB.out
  have hsz := hb.size
  have b1 := below_alloc w1 (.map #[] 0)
  have b2 := below_alloc (w1.alloc (.map #[] 0)) (.map #[] 0)
  have b3 := below_alloc ((w1.alloc (.map #[] 0)).alloc (.map #[] 0)) (.cells #[.pointer (some ⟨t.t, 0, none⟩), .map (some w1.heap.size), .map (some (w1.heap.size + 1))] 156)
  have hb13 := (b1.trans (b2.mono (by simp))).trans (b3.mono (by simp; omega))
  have up : ∀ x, w.heap.size ≤ x → S x := hS2
  have hg := hK.grown hb13
  have ht1 := hK.bt
  have ht2 := hK.bc
  have ht3 := hK.bq
  have ht4 := hK.bb
  have ht5 := hK.bm
  have lm := hK.qa.lm
  have m1 := (mapAt_made TQ w1).same (b2.block _ (by simp))
  have m1' := m1.same (b3.block _ (by simp; omega))
  have m2 := (mapAt_made TP (w1.alloc (.map #[] 0))).same (b3.block _ (by simp))
  simp only [World.size_alloc] at m2
  refine ⟨⟨w1.heap.size + 1 + 1, t, w1.heap.size, w1.heap.size + 1⟩, by simp, ⟨_, _, _, fun _ => none, fun _ => none, ⟨?_, hg.lower hB hB0, ⟨0, m1'⟩, ⟨0, m2⟩, fun s d hd => by simp at hd, fun s s' d d' hd => by simp at hd, fun s d hd => by simp at hd, by simp, by simp only; omega, by simp only; omega, ⟨up _ (by simp only; omega), up _ (by simp only; omega), up _ (by simp only; omega)⟩, ⟨up _ ht1, up _ ht2, up _ ht3, up _ ht4, up _ ht5⟩, hS1, fun x hx => up x (by simp at hx; omega)⟩, zok_new c, Nat.le_refl _, ?_, rfl⟩, hb.trans (hb13.mono hsz)⟩
  · exact block_new _ _ _ (by simp)
  · show List.replicate c 0 = sts _
    simp [sts]
/-- How far the queues have been copied. -/
structure CpAt (w0 : World) (m3 : Nat) (f : Sp → Option Qd) (wr : World) (left : Sp → Bool) (f' : Sp → Option Qd) : Prop where
  mp : ∃ n, MapAt TQ wr m3 n (fun s => (f' s).map (·.q))
  l1 : ∀ s, left s = true → f' s = none
  l2 : ∀ s, f' s = none → left s = true ∨ f s = none
  qs : ∀ s d', f' s = some d' → ∃ d, f s = some d ∧ d'.L = d.L ∧ d'.g = d.g ∧ QAt wr d'.q d'.b d'.m d'.L d'.g ∧ w0.heap.size ≤ d'.q ∧ w0.heap.size ≤ d'.b ∧ w0.heap.size ≤ d'.m ∧ d'.m ≠ m3
  ap : ∀ s s' d d', f' s = some d → f' s' = some d' → s ≠ s' → d.b ≠ d'.b ∧ d.m ≠ d'.m
  z : w0.heap.size ≤ wr.heap.size
theorem CpAt.same {w0 wr wr' : World} {m3 : Nat} {left : Sp → Bool} {f' : Sp → Option Qd} {F : List Nat} (h : CpAt w0 m3 f wr left f') (hf : Fr F wr wr') (hF : ∀ x ∈ F, ∀ o, wr.heap[x]? = some o → (∀ y u, o ≠ .cells y u (0, 0)) ∧ ∀ y u, o ≠ .map y u) : CpAt w0 m3 f wr' left f' := by
  obtain ⟨n, hm⟩ := h.mp
  have hc : ∀ {k : Nat} {y : Array Value} {u : TypeId}, wr.heap[k]? = some (.cells y u (0, 0)) → k ∉ F := fun hk hx => (hF _ hx _ hk).1 _ _ rfl
  have hmm : ∀ {k : Nat} {y : Array MapEntry} {u : Nat}, wr.heap[k]? = some (.map y u) → k ∉ F := fun hk hx => (hF _ hx _ hk).2 _ _ rfl
  have h1 : m3 ∉ F := by obtain ⟨_, _, _, hb, _⟩ := hm; exact hmm hb
  refine ⟨⟨n, hm.same (hf.block _ hm.lt h1)⟩, h.l1, h.l2, fun s d' hd => ?_, h.ap, Nat.le_trans h.z hf.size⟩
  obtain ⟨d, a, b, c, hq, r⟩ := h.qs s d' hd
  refine ⟨d, a, b, c, hq.fr hf (hc hq.q) (hc hq.b) ?_, r⟩
  obtain ⟨_, _, _, hb, _⟩ := hq.m
  exact hmm hb
theorem CpAt.grown {w0 wr wr' : World} {m3 : Nat} {left : Sp → Bool} {f' : Sp → Option Qd} (h : CpAt w0 m3 f wr left f') (hb : Below wr.heap.size wr wr') : CpAt w0 m3 f wr' left f' := h.same (Fr.of_below hb []) (fun x hx => by cases hx)
theorem CpAt.put {w0 wr w2 w3 : World} {m3 : Nat} {left left' : Sp → Bool} {f' : Sp → Option Qd} (h : CpAt w0 m3 f wr left f') {k : Sp} {d : Qd} (hd : f k = some d) {q b m n : Nat} (hq : QAt w2 q b m d.L d.g) (hg : Grn wr w2)
    (k1 : wr.heap.size ≤ q) (k2 : wr.heap.size ≤ b) (k3 : wr.heap.size ≤ m) (hm : MapAt TQ w3 m3 n (updG (fun s => (f' s).map (·.q)) k (some q))) (hfr : Fr [m3] w2 w3) (hleft : ∀ j, left' j = (left j && !decide (j = k))) :
    CpAt w0 m3 f w3 left' (updG f' k (some ⟨q, b, m, d.L, d.g⟩)) := by
  have h2 := h.grown hg.below
  obtain ⟨n0, hm0⟩ := h.mp
  have hm0' := hm0.lt
  obtain ⟨n2, hm2⟩ := h2.mp
  have hz := h.z
  have cases' : ∀ t x, updG f' k (some ⟨q, b, m, d.L, d.g⟩) t = some x → (t = k ∧ x = ⟨q, b, m, d.L, d.g⟩) ∨ (t ≠ k ∧ f' t = some x) := fun t x hx => by
    unfold updG at hx
    by_cases e : t = k
    · rw [if_pos e] at hx; cases hx; exact .inl ⟨e, rfl⟩
    · rw [if_neg e] at hx; exact .inr ⟨e, hx⟩
  refine ⟨⟨n, hm.congr (fun t => ?_)⟩, fun s hs => ?_, fun s hs => ?_, fun s d' hd' => ?_, fun t t' x x' hx hx' hne => ?_, Nat.le_trans h2.z hfr.size⟩
  · unfold updG
    by_cases e : t = k <;> simp [e]
  · rw [hleft] at hs
    simp at hs
    unfold updG
    rw [if_neg hs.2]
    exact h.l1 s hs.1
  · unfold updG at hs
    by_cases e : s = k
    · rw [if_pos e] at hs; cases hs
    · rw [if_neg e] at hs
      rcases h.l2 s hs with h3 | h3
      · left; rw [hleft, h3]; simp [e]
      · exact .inr h3
  · rcases cases' s d' hd' with ⟨e, rfl⟩ | ⟨e, hd'⟩
    · subst e
      refine ⟨d, hd, rfl, rfl, hq.fr hfr ?_ ?_ ?_, by simp only; omega, by simp only; omega, by simp only; omega, by simp only; omega⟩
      · have := hm2.ne hq.q; simpa using this
      · have := hm2.ne hq.b; simpa using this
      · simp; omega
    · obtain ⟨d0, a, b', c, hq', e1, e2, e3, e4⟩ := h2.qs s d' hd'
      refine ⟨d0, a, b', c, hq'.fr hfr ?_ ?_ (by simpa using e4), e1, e2, e3, e4⟩
      · have := hm2.ne hq'.q; simpa using this
      · have := hm2.ne hq'.b; simpa using this
  · rcases cases' t x hx with ⟨e1, e2⟩ | ⟨e, hy⟩
    · rcases cases' t' x' hx' with ⟨e3, e4⟩ | ⟨e', hy'⟩
      · exact absurd (e1.trans e3.symm) hne
      · subst e2
        obtain ⟨_, _, _, _, hq', _⟩ := h.qs t' x' hy'
        have h3 := hq'.lb
        have h4 := hq'.lm
        simp only
        omega
    · rcases cases' t' x' hx' with ⟨e3, e4⟩ | ⟨e', hy'⟩
      · subst e4
        obtain ⟨_, _, _, _, hq', _⟩ := h.qs t x hy
        have h3 := hq'.lb
        have h4 := hq'.lm
        simp only
        omega
      · exact h.ap t t' x x' hy hy' hne
end
end Go.Proofs.YtcjeckjmoponkaaGreatDoor
/- Copy. -/
namespace Go.Proofs.YtcjeckjmoponkaaGreatDoor
open Go.RowKit Go.Sort Go.MapKept
set_option linter.unusedVariables false
set_option linter.unusedSimpArgs false

section
variable {B : Nat} {S : Nat → Prop} {w w' : World} {l : Ll} {P : Ks} {Q : Qu} {g i k : Nat} {f : Sp → Option Qd} {pl : Int → Option Pl} {z : Zt} {G : Nat} {s : Sp} {p : Ck}
end
end Go.Proofs.YtcjeckjmoponkaaGreatDoor
/- Calls of a lot that is nil or zero. -/
namespace Go.Proofs.YtcjeckjmoponkaaGreatDoor
open Go.RowKit Go.Sort Go.MapKept
set_option linter.unusedVariables false
set_option linter.unusedSimpArgs false

section
variable {w : World} {v : Value}
end
end Go.Proofs.YtcjeckjmoponkaaGreatDoor
