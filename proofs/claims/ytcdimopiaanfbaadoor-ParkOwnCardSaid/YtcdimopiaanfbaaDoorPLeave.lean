/- Leave. -/
import Derived.Test.YtcdimopiaanfbaaDoorPPark
namespace Go.Proofs.YtcdimopiaanfbaaDoor
open Go.RowKit Go.Sort Go.MapKept
set_option linter.unusedVariables false
set_option linter.unusedSimpArgs false

theorem field_place (W : World) (a b k : Int) : (Instr.field 104 (.agg #[.int .i64 a, .int .i64 b, .int .u64 k]) 1).run Tryd.prog W = .ok (.int .u64 k) W := by kernel_rfl
section
variable {B : Nat} {S : Nat → Prop} {w w' : World} {l : Ll} {P : Ks} {Q : Qu} {g i k : Nat} {f : Sp → Option Qd} {pl : Int → Option Pl} {z : Zt} {G : Nat} {s : Sp} {p : Ck}
theorem LAt.dropQueue {w2 : World} {n : Nat} (hA : LAt B S w l P Q g f pl) (hm : MapAt TQ w2 l.mq n (updG (fun s => (f s).map (·.q)) s none)) (hfr : Fr [l.mq] w w2) : LAt B S w2 l P Q g (updG f s none) pl := by
  have cases' : ∀ t x, updG f s none t = some x → t ≠ s ∧ f t = some x := fun t x hx => by
    unfold updG at hx
    by_cases e : t = s
    · rw [if_pos e] at hx; cases hx
    · rw [if_neg e] at hx; exact ⟨e, hx⟩
  refine hA.queues hfr (hm.congr (fun t => ?_)) (fun t x hx => .inl (cases' t x hx).2) (fun t t' x x' hx hx' hne => hA.ap t t' x x' (cases' t x hx).2 (cases' t' x' hx').2 hne)
  unfold updG
  by_cases e : t = s <;> simp [e]

set_option maxRecDepth 100000 in
set_option maxHeartbeats 6400000 in
theorem pkLeave_yes (h : LAt B S w l P Q g f pl) (hZ : ZOk P Q f pl z.L G) (hg : g ≤ G) (hG : G ≤ 1000000) (h1 : z.S = sts P) (h2 : z.R = vls Q) (hm : (i, s) ∈ z.L) :
    Calls Tryd.prog 18 #[.pointer (some ⟨l.a, 0, none⟩), .int .i64 ((i : Nat) : Int)] w fun e w' => e = .returned (.tuple #[.agg #[.int .i64 s.1, .int .i64 s.2], .int .i64 0]) ∧ LS B S w' l (z.leave i) (G + 1) ∧ FrL S w w' := by
  have hi : i < P.length := hZ.inP i (List.mem_map.2 ⟨_, hm, rfl⟩)
  have hp := List.getElem?_eq_getElem hi
  have hs2 : P[i].s = frOf 2 := (hZ.st i _ hp).2 (List.mem_map.2 ⟨_, hm, rfl⟩)
  obtain ⟨k, d, hpl, hd, hin⟩ := hZ.p1 i s hm
  obtain ⟨A, R, hsp⟩ := List.append_of_mem hin
  have hwc : whC z ((i : Nat) : Int) = (s, 0) := by
    unfold whC
    rw [numI_at (by rw [h1, sts_len]; exact hi)]
    simp only [(seatOf_some hZ.nd).2 hm]
  have hb0 := below_alloc w (.cells #[.int .i64 0, .int .i64 0] 38)
  have hx0 := block_new w (.cells #[.int .i64 0, .int .i64 0] 38) _ rfl
  have HX0 := Lib.hid hx0
  have HA0 := Lib.hid (h.grown hb0)
  have HF0 := Lib.hid (FrL.of_below S hb0)
  have hw : Hid _ := Lib.hid (pkWhere_any (B := B) (S := S) (l := l) (z := z) (G := G) ⟨P, Q, g, f, pl, HA0.out, hZ, hg, h1, h2⟩ ((i : Nat) : Int))
  rw [hwc] at hw
  have HE := Lib.hid (And.intro h1 h2)
  have HZ := Lib.hid hZ
  have HD := Lib.hid hd
  have HM := Lib.hid hm
  have HP := Lib.hid hp
  have HPL := Lib.hid hpl
  have HSP := Lib.hid hsp
  have HS2 := Lib.hid hs2
  have HGG := Lib.hid (And.intro hg hG)
  have HBL : Hid (B ≤ w.heap.size) := Lib.hid (Nat.le_of_lt (Nat.lt_of_le_of_lt (h.sl _ h.sa.1) h.lt))
  obtain ⟨sa, sb⟩ := s
  simp only at hw ⊢
  clear h hZ hg hG hd hp hs2 hb0 hx0 hpl hin hsp hwc h1 h2 hm
  go_enter Tryd.func18, Tryd.ntmps18
  go_wp2_with (go_at_call 19; fail)
  refine hw.out.mono ?_
  rintro e w1 ⟨rfl, hg1⟩
  have HA1 := Lib.hid (HA0.out.grown hg1.below)
  have HF1 := Lib.hid (HF0.out.trans (FrL.of_below S hg1.below))
  have HX1 := Lib.hid ((hg1.below.block _ (lt_of_block HX0.out)).trans HX0.out)
  have HBS : Hid (w.heap.size < w1.heap.size) := Lib.hid (lt_of_block HX1.out)
  have c0 := HA1.out.ca0
  have al := HA1.out.lt
  clear hg1 hw HX0 HA0 HF0
  generalize hzz : w.heap.size = zz at *
  have HZZ := Lib.hid hzz
  clear hzz
  have hb1 := below_alloc w1 (.cells #[.int .i64 sa, .int .i64 sb] 38)
  have HY1 := Lib.hid (block_new w1 (.cells #[.int .i64 sa, .int .i64 sb] 38) _ rfl)
  have HA1b := Lib.hid (HA1.out.grown hb1)
  have HF1b := Lib.hid (HF1.out.trans (FrL.of_below S hb1))
  have HX1b := Lib.hid ((hb1.block _ (lt_of_block HX1.out)).trans HX1.out)
  clear hb1
  go_wp2_with (go_at_call 47; fail)
  refine (tkWake_yes HA1b.out.k HZ.out.rk (by have := HGG.out; omega) HP.out HS2.out).mono ?_
  rintro e w2 ⟨rfl, hk2, hf2⟩
  have HA2 := Lib.hid (HA1b.out.tasks hf2 hk2)
  have HF2 := Lib.hid (HF1b.out.trans (HA1b.out.frk hf2))
  have HX2 := Lib.hid ((HA1b.out.frk hf2).block HX1b.out (by decide) (by decide))
  have HY2 := Lib.hid ((HA1b.out.frk hf2).block HY1.out (by decide) (by decide))
  clear hk2 hf2 c0 al HA1 HF1 HX1 HA1b HF1b HX1b HY1
  generalize w1.heap.size = yy at *
  have c1 := HA2.out.ca1
  have al := HA2.out.lt
  have y0 := cells_cell (o := 0) HY2.out rfl
  have y1 := cells_cell (o := 1) HY2.out rfl
  have yl := lt_of_block HY2.out
  have l1 : ∀ n, (Instr.lookup 50 (.map (some l.mq)) (.agg #[.int .i64 sa, .int .i64 sb]) false).run Tryd.prog (w2.drewN n) = .ok (.pointer (some ⟨d.q, 0, none⟩)) (w2.drewN n) := fun n => by
    obtain ⟨m, hm⟩ := HA2.out.mq
    have := MapAt.look_yes TQ_ok (hm.same (w' := w2.drewN n) rfl) (k := (sa, sb)) (x := d.q) (by simp only [HD.out]; rfl) false
    simpa [TQ, encS] using this
  go_wp2_with fail
  go_quiet (fail)
  have hd3 := ((Grn.refl w2).drew nq).below
  have HA3 := Lib.hid (HA2.out.grown hd3)
  have HF3 := Lib.hid (HF2.out.trans (FrL.of_below S hd3))
  have HX3 := Lib.hid ((hd3.block _ (lt_of_block HX2.out)).trans HX2.out)
  have HY3 := Lib.hid ((hd3.block _ (lt_of_block HY2.out)).trans HY2.out)
  clear hd3 HA2 HF2 HX2 HY2 c1 al y0 y1 yl l1
  generalize w2.drewN nq = w3 at *
  have c2 := HA3.out.ca2
  have al := HA3.out.lt
  have l1 : (Instr.lookup 51 (.map (some l.mp)) (.int .i64 ((i : Nat) : Int)) false).run Tryd.prog w3 = .ok (.agg #[.int .i64 sa, .int .i64 sb, .int .u64 ((k : Nat) : Int)]) w3 := by
    obtain ⟨m, hm⟩ := HA3.out.mp
    have := MapAt.look_yes TP_ok hm HPL.out false
    simpa [TP, Pl.enc] using this
  have hfd := field_place w3 sa sb ((k : Nat) : Int)
  go_wp2_with (go_at_call 48; fail)
  have hqd := HA3.out.qs _ d HD.out
  rw [HSP.out] at hqd
  refine (fiRemove_yes hqd).mono ?_
  rintro e w4 ⟨rfl, hq4, hf4⟩
  have HA4 := Lib.hid (HA3.out.queue HD.out hf4 hq4)
  have hF4 := HA3.out.frq HD.out hf4
  have HF4 := Lib.hid (HF3.out.trans hF4)
  have HX4 := Lib.hid (hF4.block HX3.out (by decide) (by decide))
  have HY4 := Lib.hid (hF4.block HY3.out (by decide) (by decide))
  clear hqd hq4 hf4 hF4 HA3 HF3 HX3 HY3 c2 al l1 hfd
  go_wp2_with (go_at_call 49; fail)
  refine (fiLen_any (HA4.out.qs _ _ (updG_same _ _ _))).mono ?_
  rintro e w5 ⟨rfl, rfl⟩
  simp only
  have hzk := HZ.out.leave HM.out HD.out HSP.out g
  by_cases hAR : A ++ R = []
  · rw [if_pos hAR] at hzk
    have HZ' := Lib.hid hzk
    have hlen : (((A ++ R).length : Nat) : Int) = 0 := by rw [hAR]; rfl
    rw [hlen]
    have c1 := HA4.out.ca1
    have al := HA4.out.lt
    have y0 := cells_cell (o := 0) HY4.out rfl
    have y1 := cells_cell (o := 1) HY4.out rfl
    have yl := lt_of_block HY4.out
    clear hzk hlen
    go_wp2_with fail
    go_still_tail 5, (by kernel_rfl)
    change wpList _ _ _ _ _ (w5.drewN 1)
    obtain ⟨n, hmq⟩ := HA4.out.mq
    have HMQ : Hid (MapAt TQ (w5.drewN 1) l.mq n _) := Lib.hid (hmq.same rfl)
    clear hmq
    go_wp2_with (at_delete; refine wpList_dropG TQ_ok rfl _ _ rfl HMQ.out (sa, sb) (x := d.q) (by simp only [updG_same]; rfl) rfl rfl ?_; intro w6 hm6 hf6 hs6; refine Hid.out ?_)
    have hd1 : Grn w5 (w5.drewN 1) := (Grn.refl w5).drew 1
    have hA51 := HA4.out.grown hd1.below
    have hA6 := hA51.dropQueue hm6 hf6
    rw [updG_twice] at hA6
    have HA6 := Lib.hid hA6
    have hF6 := (FrL.of_below S hd1.below).trans (hA51.frmq hf6)
    have HF6 := Lib.hid (HF4.out.trans hF6)
    have HX6 := Lib.hid (hF6.block HX4.out (by decide) (by decide))
    have HY6 := Lib.hid (hF6.block HY4.out (by decide) (by decide))
    clear hm6 hf6 hs6 hd1 hA51 HMQ hF6 hA6 c1 al y0 y1 yl HA4 HF4 HX4 HY4
    refine Lib.hid ?_
    have c2 := HA6.out.ca2
    have al := HA6.out.lt
    obtain ⟨n2, hmp⟩ := HA6.out.mp
    have HMP := Lib.hid hmp
    clear hmp
    go_wp2_with (at_delete; refine wpList_dropG TP_ok rfl _ _ rfl HMP.out ((i : Nat) : Int) HPL.out rfl rfl ?_; intro w7 hm7 hf7 hs7; refine Hid.out ?_)
    have HA7 := Lib.hid (HA6.out.places hf7 hm7)
    have hF7 := HA6.out.frmp hf7
    have HF7 := Lib.hid (HF6.out.trans hF7)
    have HX7 := Lib.hid (hF7.block HX6.out (by decide) (by decide))
    have HY7 := Lib.hid (hF7.block HY6.out (by decide) (by decide))
    clear hm7 hf7 hs7 hF7 HMP c2 al HA6 HF6 HX6 HY6
    have x0 := cells_cell (o := 0) HX7.out rfl
    have x1 := cells_cell (o := 1) HX7.out rfl
    have y0 := cells_cell (o := 0) HY7.out rfl
    have y1 := cells_cell (o := 1) HY7.out rfl
    have f0 := cells_free HX7.out 0
    have f1 := cells_free HX7.out 1
    have xl := lt_of_block HX7.out
    have yl := lt_of_block HY7.out
    have hfs := (fr_setCell w7 ⟨zz, 0, none⟩ (.int .i64 sa)).trans' (fr_setCell _ ⟨zz, 1, none⟩ (.int .i64 sb))
    have HX8 := Lib.hid (cells_set (cells_set HX7.out 0 (.int .i64 sa)) 1 (.int .i64 sb))
    have HA8 := Lib.hid (HA7.out.fr hfs (fun x hx => by simp at hx; subst hx; exact ⟨HBL.out, _, _, HX7.out, by decide, by decide, by decide, by decide, by decide⟩))
    have HF8 : Hid (FrL S w ((w7.setCell ⟨zz, 0, none⟩ (.int .i64 sa)).setCell ⟨zz, 1, none⟩ (.int .i64 sb))) := Lib.hid ⟨HF7.out.os, HF7.out.tape, HF7.out.output, Nat.le_trans HF7.out.size hfs.size, fun k hk hn => (hfs.block k (Nat.lt_of_lt_of_le hk HF7.out.size) (by have := HZZ.out; simp; omega)).trans (HF7.out.out k hk hn), fun k y u hc e1 e2 => (hfs.block k (Nat.lt_of_lt_of_le (lt_of_block hc) HF7.out.size) (by have := HZZ.out; have := lt_of_block hc; simp; omega)).trans (HF7.out.cel k y u hc e1 e2)⟩
    clear hfs HX7 HY7 HA7 HF7
    refine Lib.hid ?_
    go_wp2_with fail
    have hx8 := HX8.out
    simp at hx8
    refine bodyPost_ret (v := .tuple #[.agg #[.int .i64 sa, .int .i64 sb], .int .i64 0]) (by simp [results, Tryd.results18, go_sem, cells_cell (o := 0) hx8 rfl, cells_cell (o := 1) hx8 rfl]) rfl ?_
    exact ⟨rfl, ⟨_, _, _, _, _, HA8.out, HZ'.out.mono (by omega), by unfold stepG; have := HGG.out; split <;> omega, by show z.S.set i 1 = _; rw [sts_step, HE.out.1]; rfl, by show woR _ z.R ++ _ = _; rw [vls_step, HE.out.2]; rfl⟩, HF8.out⟩
  · rw [if_neg hAR] at hzk
    have HZ' := Lib.hid hzk
    have HA6 := HA4
    have HF6 := HF4
    have HX6 := HX4
    have HY6 := HY4
    have hlen : ((((A ++ R).length : Nat) : Int) == 0) = false := by
      have : (A ++ R).length ≠ 0 := fun e => hAR (List.eq_nil_of_length_eq_zero e)
      simp only [beq_eq_false_iff_ne, ne_eq]; omega
    have hlen2 : ((A ++ R).length == 0) = false := by
      have : (A ++ R).length ≠ 0 := fun e => hAR (List.eq_nil_of_length_eq_zero e)
      simp only [beq_eq_false_iff_ne, ne_eq]; omega
    have HHZ : Hid (∀ n, n = (A ++ R).length → n ≠ 0) := Lib.hid (fun n hn e => hAR (List.eq_nil_of_length_eq_zero (by omega)))
    have hn0 := HHZ.out _ rfl
    clear hzk HA4 HF4 HX4 HY4 HSP
    generalize (A ++ R).length = len at *
    generalize w5 = w6 at *
    have c2 := HA6.out.ca2
    have al := HA6.out.lt
    obtain ⟨n2, hmp⟩ := HA6.out.mp
    have HMP := Lib.hid hmp
    clear hmp
    go_wp2_with (at_delete; refine wpList_dropG TP_ok rfl _ _ rfl HMP.out ((i : Nat) : Int) HPL.out rfl rfl ?_; intro w7 hm7 hf7 hs7; refine Hid.out ?_)
    have HA7 := Lib.hid (HA6.out.places hf7 hm7)
    have hF7 := HA6.out.frmp hf7
    have HF7 := Lib.hid (HF6.out.trans hF7)
    have HX7 := Lib.hid (hF7.block HX6.out (by decide) (by decide))
    have HY7 := Lib.hid (hF7.block HY6.out (by decide) (by decide))
    clear hm7 hf7 hs7 hF7 HMP c2 al HA6 HF6 HX6 HY6
    have x0 := cells_cell (o := 0) HX7.out rfl
    have x1 := cells_cell (o := 1) HX7.out rfl
    have y0 := cells_cell (o := 0) HY7.out rfl
    have y1 := cells_cell (o := 1) HY7.out rfl
    have f0 := cells_free HX7.out 0
    have f1 := cells_free HX7.out 1
    have xl := lt_of_block HX7.out
    have yl := lt_of_block HY7.out
    have hfs := (fr_setCell w7 ⟨zz, 0, none⟩ (.int .i64 sa)).trans' (fr_setCell _ ⟨zz, 1, none⟩ (.int .i64 sb))
    have HX8 := Lib.hid (cells_set (cells_set HX7.out 0 (.int .i64 sa)) 1 (.int .i64 sb))
    have HA8 := Lib.hid (HA7.out.fr hfs (fun x hx => by simp at hx; subst hx; exact ⟨HBL.out, _, _, HX7.out, by decide, by decide, by decide, by decide, by decide⟩))
    have HF8 : Hid (FrL S w ((w7.setCell ⟨zz, 0, none⟩ (.int .i64 sa)).setCell ⟨zz, 1, none⟩ (.int .i64 sb))) := Lib.hid ⟨HF7.out.os, HF7.out.tape, HF7.out.output, Nat.le_trans HF7.out.size hfs.size, fun k hk hn => (hfs.block k (Nat.lt_of_lt_of_le hk HF7.out.size) (by have := HZZ.out; simp; omega)).trans (HF7.out.out k hk hn), fun k y u hc e1 e2 => (hfs.block k (Nat.lt_of_lt_of_le (lt_of_block hc) HF7.out.size) (by have := HZZ.out; have := lt_of_block hc; simp; omega)).trans (HF7.out.cel k y u hc e1 e2)⟩
    clear hfs HX7 HY7 HA7 HF7
    refine Lib.hid ?_
    go_wp2_with fail
    have hx8 := HX8.out
    simp at hx8
    refine bodyPost_ret (v := .tuple #[.agg #[.int .i64 sa, .int .i64 sb], .int .i64 0]) (by simp [results, Tryd.results18, go_sem, cells_cell (o := 0) hx8 rfl, cells_cell (o := 1) hx8 rfl]) rfl ?_
    exact ⟨rfl, ⟨_, _, _, _, _, HA8.out, HZ'.out.mono (by omega), by unfold stepG; have := HGG.out; split <;> omega, by show z.S.set i 1 = _; rw [sts_step, HE.out.1]; rfl, by show woR _ z.R ++ _ = _; rw [vls_step, HE.out.2]; rfl⟩, HF8.out⟩
set_option maxHeartbeats 800000 in
theorem pkLeave_err (h : LS B S w l z G) (N : Int) (hc : (whC z N).2 ≠ 0) : Calls Tryd.prog 18 #[.pointer (some ⟨l.a, 0, none⟩), .int .i64 N] w fun e w' => e = .returned (.tuple #[.agg #[.int .i64 0, .int .i64 0], .int .i64 (whC z N).2]) ∧ Grn w w' := by
  have hw := Lib.hid (pkWhere_any (h.grown (below_alloc w (.cells #[.int .i64 0, .int .i64 0] 38))) N)
  have HX0 := Lib.hid (block_new w (.cells #[.int .i64 0, .int .i64 0] 38) _ rfl)
  generalize (whC z N).2 = c at *
  generalize (whC z N).1.1 = sa at *
  generalize (whC z N).1.2 = sb at *
  have e1 : (c != 0) = true := by simpa using hc
  clear h hc
  go_enter Tryd.func18, Tryd.ntmps18
  go_wp2_with (go_at_call 19; fail)
  refine hw.out.mono ?_
  rintro e w1 ⟨rfl, hg1⟩
  have hx1 := (hg1.below.block _ (lt_of_block HX0.out)).trans HX0.out
  have x0 := cells_cell (o := 0) hx1 rfl
  have x1 := cells_cell (o := 1) hx1 rfl
  have f0 := cells_free hx1 0
  have f1 := cells_free hx1 1
  have xl := lt_of_block hx1
  have hx3 := cells_set (cells_set hx1 0 (.int .i64 0)) 1 (.int .i64 0)
  have hx2 := ((below_alloc _ (.cells #[.int .i64 sa, .int .i64 sb] 38)).block _ (lt_of_block hx3)).trans hx3
  have HX2 := Lib.hid hx2
  have HG := Lib.hid ((((((Grn.refl w).alloc (.cells #[.int .i64 0, .int .i64 0] 38)).trans hg1).set ⟨w.heap.size, 0, none⟩ (.int .i64 0) (Nat.le_refl _)).set ⟨w.heap.size, 1, none⟩ (.int .i64 0) (Nat.le_refl _)).alloc (.cells #[.int .i64 sa, .int .i64 sb] 38))
  clear hx1 hx2 hx3 hg1 hw HX0
  generalize hzz : w.heap.size = zz at *
  clear hzz
  go_wp2_with fail
  have hx2 := HX2.out
  simp at hx2
  refine bodyPost_ret (v := .tuple #[.agg #[.int .i64 0, .int .i64 0], .int .i64 c]) (by simp [results, Tryd.results18, go_sem, cells_cell (o := 0) hx2 rfl, cells_cell (o := 1) hx2 rfl]) rfl ?_
  exact ⟨rfl, HG.out⟩
theorem whC_ok {z : Zt} (hz : ZK z) {N : Int} (hc : (whC z N).2 = 0) : ∃ i : Nat, N = ((i : Nat) : Int) ∧ (i, (whC z N).1) ∈ z.L := by
  rcases numI_or z N with ⟨e, hn⟩ | ⟨i, rfl, hi, e⟩
  · unfold whC at hc; rw [e] at hc; cases hc
  · unfold whC at hc ⊢
    simp only [e] at hc ⊢
    cases hs : seatOf z.L i with
    | none => rw [hs] at hc; cases hc
    | some s => exact ⟨i, rfl, (seatOf_some hz.nd).1 hs⟩
theorem pkLeave_any (h : LS B S w l z G) (hG : G ≤ 1000000) (N : Int) : Calls Tryd.prog 18 #[.pointer (some ⟨l.a, 0, none⟩), .int .i64 N] w fun e w' => e = .returned (.tuple #[.agg #[.int .i64 (lvC z N).1.1, .int .i64 (lvC z N).1.2], .int .i64 (lvC z N).2.1]) ∧ LS B S w' l (lvC z N).2.2 (G + 1) ∧ FrL S w w' := by
  unfold lvC
  by_cases hc : (whC z N).2 = 0
  · rw [if_pos hc]
    obtain ⟨i, rfl, hm⟩ := whC_ok h.zk hc
    obtain ⟨P, Q, g, f, pl, hA, hZ, hg, h1, h2⟩ := h
    exact pkLeave_yes hA hZ hg hG h1 h2 hm
  · rw [if_neg hc]
    refine (pkLeave_err h N hc).mono ?_
    rintro e w' ⟨rfl, hgr⟩
    exact ⟨rfl, (h.grown hgr.below).mono (by omega), FrL.of_below S hgr.below⟩
theorem lvC_in {z : Zt} (hz : ZK z) {i : Nat} {s : Sp} (h : (i, s) ∈ z.L) : lvC z ((i : Nat) : Int) = (s, 0, z.leave i) := by
  have : whC z ((i : Nat) : Int) = (s, 0) := by
    unfold whC
    rw [numI_at (hz.inS i (List.mem_map.2 ⟨_, h, rfl⟩))]
    simp only [(seatOf_some hz.nd).2 h]
  unfold lvC
  rw [this]
  simp
end
end Go.Proofs.YtcdimopiaanfbaaDoor
