/- Park. -/
import Derived.Test.YtcdimopiaanfbaaDoorPWait
import Derived.StillTailTactics
namespace Go.Proofs.YtcdimopiaanfbaaDoor
open Go.RowKit Go.Sort Go.MapKept
set_option linter.unusedVariables false
set_option linter.unusedSimpArgs false

theorem updG_same {κ ν : Type} [DecidableEq κ] (f : κ → Option ν) (k : κ) (x : Option ν) : updG f k x k = x := by simp [updG]
theorem updG_twice {κ ν : Type} [DecidableEq κ] (f : κ → Option ν) (k : κ) (x y : Option ν) : updG (updG f k x) k y = updG f k y := by
  funext j
  unfold updG
  by_cases h : j = k <;> simp [h]
theorem wt_len (s : Sp) (L : Seats) : (wt s L).length ≤ L.length := by unfold wt; rw [List.length_map]; exact List.length_filter_le _ _
section
variable {B : Nat} {S : Nat → Prop} {w w' : World} {l : Ll} {P : Ks} {Q : Qu} {g i : Nat} {f : Sp → Option Qd} {pl : Int → Option Pl} {z : Zt} {G : Nat} {s : Sp} {p : Ck}
theorem ZOk.dl {L : Seats} (h : ZOk P Q f pl L G) (hl : P.length ≤ 64) {d : Qd} (hd : f s = some d) : d.L.length ≤ 64 := by
  have h1 := congrArg List.length (h.qf s d hd).2.1
  have h2 := wt_len s L
  have h3 : (cat (L.map Prod.fst)).length ≤ P.length := nodup_len _ _ (cat_nodup h.nd) (fun x hx => by
    unfold cat at hx
    obtain ⟨i, hi, rfl⟩ := List.mem_map.1 hx
    exact ⟨i, rfl, h.inP i hi⟩)
  simp [cat] at h1 h3
  omega
/-- A new queue at a spot. -/
theorem LAt.newQueue {w2 w3 : World} (hA : LAt B S w l P Q g f pl) (hf : f s = none) {q b m n : Nat} (hq : QAt w2 q b m [] 0) (hg : Grn w w2) (k1 : w.heap.size ≤ q) (k2 : w.heap.size ≤ b) (k3 : w.heap.size ≤ m)
    (hm : MapAt TQ w3 l.mq n (updG (fun s => (f s).map (·.q)) s (some q))) (hfr : Fr [l.mq] w2 w3) : LAt B S w3 l P Q g (updG f s (some ⟨q, b, m, [], 0⟩)) pl := by
  have hA2 := hA.grown hg.below
  have cases' : ∀ t x, updG f s (some ⟨q, b, m, [], 0⟩) t = some x → (t = s ∧ x = ⟨q, b, m, [], 0⟩) ∨ (t ≠ s ∧ f t = some x) := fun t x hx => by
    unfold updG at hx
    by_cases e : t = s
    · rw [if_pos e] at hx; cases hx; exact .inl ⟨e, rfl⟩
    · rw [if_neg e] at hx; exact .inr ⟨e, hx⟩
  have hlm := hA.lmq
  have hlp := hA.lmp
  have htb := hA.k.qa.lb
  have htm := hA.k.qa.lm
  refine hA2.queues hfr (hm.congr (fun t => ?_)) (fun t x hx => ?_) (fun t t' x x' hx hx' hne => ?_)
  · unfold updG
    by_cases e : t = s <;> simp [e]
  · rcases cases' t x hx with ⟨e, rfl⟩ | ⟨e, hx⟩
    · refine .inr ⟨hq.fr hfr ?_ ?_ ?_, ⟨by simp only; omega, by simp only; omega, by simp only; omega, by simp only; omega⟩, hA.up _ k1, hA.up _ k2, hA.up _ k3⟩ <;> simp <;> omega
    · exact .inl hx
  · rcases cases' t x hx with ⟨e1, e2⟩ | ⟨e, hy⟩
    · rcases cases' t' x' hx' with ⟨e3, e4⟩ | ⟨e', hy'⟩
      · exact absurd (e1.trans e3.symm) hne
      · subst e2
        have h1 := (hA.qs t' x' hy').lb
        have h2 := (hA.qs t' x' hy').lm
        simp only
        omega
    · rcases cases' t' x' hx' with ⟨e3, e4⟩ | ⟨e', hy'⟩
      · subst e4
        have h1 := (hA.qs t x hy).lb
        have h2 := (hA.qs t x hy).lm
        simp only
        omega
      · exact hA.ap t t' x x' hy hy' hne

set_option maxRecDepth 100000 in
set_option maxHeartbeats 3200000 in
theorem pkPark_some (h : LAt B S w l P Q g f pl) (hZ : ZOk P Q f pl z.L G) (hg : g ≤ G) (hG : G ≤ 1000000) (hs : SpOk s) {d : Qd} (hd : f s = some d) (hp : P[i]? = some p) (hs1 : p.s = 1) :
    Calls Tryd.prog 24 #[.pointer (some ⟨l.a, 0, none⟩), .int .i64 ((i : Nat) : Int), .agg #[.int .i64 s.1, .int .i64 s.2]] w fun e w' => e = .returned (.int .i64 0) ∧ LAt B S w' l (stepP P i 2 g) (stepQ Q i 2 g) g (updG f s (some ⟨d.q, d.b, d.m, d.L ++ [(d.g + 1, ((i : Nat) : Int))], d.g + 1⟩)) (updG pl ((i : Nat) : Int) (some ⟨s, d.g + 1⟩)) ∧ FrL S w w' := by
  have hb0 := below_alloc w (.cells #[.int .i64 s.1, .int .i64 s.2] 38)
  have hx0 := block_new w (.cells #[.int .i64 s.1, .int .i64 s.2] 38) _ rfl
  have HX0 := Lib.hid hx0
  have HA0 := Lib.hid (h.grown hb0)
  have HF0 := Lib.hid (FrL.of_below S hb0)
  have hq := Lib.hid (pkQueue_some HA0.out hs hd)
  have HZ := Lib.hid hZ
  have HD := Lib.hid hd
  have HP := Lib.hid hp
  have HS1 := Lib.hid hs1
  have HGG := Lib.hid (And.intro hg hG)
  have HDL := Lib.hid (hZ.dl h.k.n2 hd)
  have HDG := Lib.hid (hZ.qf s d hd).2.2
  obtain ⟨sa, sb⟩ := s
  simp only at hq HX0 HA0 HF0 ⊢
  clear h hZ hg hG hs hd hp hs1 hb0 hx0
  go_enter Tryd.func24, Tryd.ntmps24
  go_wp2_with (go_at_call 44; fail)
  refine hq.out.mono ?_
  rintro e w1 ⟨rfl, hg1⟩
  have HA1 := Lib.hid (HA0.out.grown hg1.below)
  have HF1 := Lib.hid (HF0.out.trans (FrL.of_below S hg1.below))
  have HX1 := Lib.hid ((hg1.below.block _ (lt_of_block HX0.out)).trans HX0.out)
  have c0 := HA1.out.ca0
  have al := HA1.out.lt
  clear hg1 hq HX0 HA0 HF0
  generalize w.heap.size = zz at *
  go_wp2_with (go_at_call 54; fail)
  refine (tkPark_yes HA1.out.k HZ.out.rk (by have := HGG.out; omega) HP.out HS1.out).mono ?_
  rintro e w2 ⟨rfl, hk2, hf2⟩
  have HA2 := Lib.hid (HA1.out.tasks hf2 hk2)
  have HF2 := Lib.hid (HF1.out.trans (HA1.out.frk hf2))
  have HX2 := Lib.hid ((HA1.out.frk hf2).block HX1.out (by decide) (by decide))
  clear hk2 hf2 c0 al HA1 HF1 HX1
  go_wp2_with (go_at_call 56; fail)
  refine (fiPush_yes (HA2.out.qs _ d HD.out) (by have := HDL.out; omega) (by have := HDG.out; have := HGG.out; omega) ((i : Nat) : Int)).mono ?_
  rintro e w4 ⟨rfl, hq4, hf4⟩
  have HA4 := Lib.hid (HA2.out.queue HD.out hf4 hq4)
  have HF4 := Lib.hid (HF2.out.trans (HA2.out.frq HD.out hf4))
  have HX4 := Lib.hid ((HA2.out.frq HD.out hf4).block HX2.out (by decide) (by decide))
  clear hq4 hf4 HA2 HF2 HX2
  have c2 := HA4.out.ca2
  have al := HA4.out.lt
  have x0 := cells_cell (o := 0) HX4.out rfl
  have x1 := cells_cell (o := 1) HX4.out rfl
  have xl := lt_of_block HX4.out
  go_wp2_with fail
  go_still_tail 8, (by kernel_rfl)
  change wpList _ _ _ _ _ (w4.drewN 1)
  obtain ⟨n2, hm⟩ := HA4.out.mp
  have HM : Hid (MapAt TP (w4.drewN 1) l.mp n2 pl) := Lib.hid (hm.same rfl)
  clear hm
  go_wp2_with (at_mapUpdate; refine wpList_putG TP_ok rfl _ _ _ rfl HM.out ((i : Nat) : Int) ⟨(sa, sb), d.g + 1⟩ rfl rfl rfl ?_; intro w6 hm6 hf6 hs6; refine Hid.out ?_)
  have hd1 : Grn w4 (w4.drewN 1) := (Grn.refl w4).drew 1
  have hA41 := HA4.out.grown hd1.below
  have HA6 := Lib.hid (hA41.places hf6 hm6)
  have HF6 := Lib.hid (HF4.out.trans ((FrL.of_below S hd1.below).trans (hA41.frmp hf6)))
  clear hm6 hf6 hs6 hd1 hA41 HM c2 al x0 x1 xl HA4 HF4 HX4
  refine Lib.hid ?_
  go_wp2_with fail
  go_ret
  exact ⟨rfl, HA6.out, HF6.out⟩
set_option maxRecDepth 100000 in
set_option maxHeartbeats 3200000 in
theorem pkPark_none (h : LAt B S w l P Q g f pl) (hZ : ZOk P Q f pl z.L G) (hg : g ≤ G) (hG : G ≤ 1000000) (hs : SpOk s) (hd : f s = none) (hp : P[i]? = some p) (hs1 : p.s = 1) :
    Calls Tryd.prog 24 #[.pointer (some ⟨l.a, 0, none⟩), .int .i64 ((i : Nat) : Int), .agg #[.int .i64 s.1, .int .i64 s.2]] w fun e w' => e = .returned (.int .i64 0) ∧ (∃ q b m, LAt B S w' l (stepP P i 2 g) (stepQ Q i 2 g) g (updG f s (some ⟨q, b, m, [] ++ [(0 + 1, ((i : Nat) : Int))], 0 + 1⟩)) (updG pl ((i : Nat) : Int) (some ⟨s, 0 + 1⟩))) ∧ FrL S w w' := by
  have hb0 := below_alloc w (.cells #[.int .i64 s.1, .int .i64 s.2] 38)
  have hx0 := block_new w (.cells #[.int .i64 s.1, .int .i64 s.2] 38) _ rfl
  have HX0 := Lib.hid hx0
  have HA0 := Lib.hid (h.grown hb0)
  have HF0 := Lib.hid (FrL.of_below S hb0)
  have hq := Lib.hid (pkQueue_none HA0.out hs hd)
  have HZ := Lib.hid hZ
  have HD := Lib.hid hd
  have HP := Lib.hid hp
  have HS1 := Lib.hid hs1
  have HGG := Lib.hid (And.intro hg hG)
  obtain ⟨sa, sb⟩ := s
  simp only at hq HX0 HA0 HF0 ⊢
  clear h hZ hg hG hs hd hp hs1 hb0 hx0
  go_enter Tryd.func24, Tryd.ntmps24
  go_wp2_with (go_at_call 44; fail)
  refine hq.out.mono ?_
  rintro e w1 ⟨rfl, hg1⟩
  have HA1 := Lib.hid (HA0.out.grown hg1.below)
  have HF1 := Lib.hid (HF0.out.trans (FrL.of_below S hg1.below))
  have HX1 := Lib.hid ((hg1.below.block _ (lt_of_block HX0.out)).trans HX0.out)
  have c0 := HA1.out.ca0
  have al := HA1.out.lt
  clear hg1 hq HX0 HA0 HF0
  generalize w.heap.size = zz at *
  go_wp2_with (go_at_call 54; fail)
  refine (tkPark_yes HA1.out.k HZ.out.rk (by have := HGG.out; omega) HP.out HS1.out).mono ?_
  rintro e w2 ⟨rfl, hk2, hf2⟩
  have HA2 := Lib.hid (HA1.out.tasks hf2 hk2)
  have HF2 := Lib.hid (HF1.out.trans (HA1.out.frk hf2))
  have HX2 := Lib.hid ((HA1.out.frk hf2).block HX1.out (by decide) (by decide))
  clear hk2 hf2 c0 al HA1 HF1 HX1
  go_wp2_with (go_at_call 55; fail)
  refine (fiNew_any w2).mono ?_
  rintro e w3 ⟨q, b, m, rfl, hq3, hg3, k1, k2, k3⟩
  have HA2b := Lib.hid (HA2.out.grown hg3.below)
  have HX3 := Lib.hid ((hg3.below.block _ (lt_of_block HX2.out)).trans HX2.out)
  have HQ3 := Lib.hid (And.intro hq3 (And.intro hg3 (And.intro k1 (And.intro k2 k3))))
  have HF3 := Lib.hid (HF2.out.trans (FrL.of_below S hg3.below))
  clear hq3 hg3 k1 k2 k3
  have c1 := HA2b.out.ca1
  have al := HA2b.out.lt
  have x0 := cells_cell (o := 0) HX3.out rfl
  have x1 := cells_cell (o := 1) HX3.out rfl
  have xl := lt_of_block HX3.out
  go_wp2_with fail
  go_still_tail 6, (by kernel_rfl)
  change wpList _ _ _ _ _ (w3.drewN 1)
  obtain ⟨n, hm⟩ := HA2b.out.mq
  have HM : Hid (MapAt TQ (w3.drewN 1) l.mq n (fun t => (f t).map (·.q))) := Lib.hid (hm.same rfl)
  clear hm
  go_wp2_with (at_mapUpdate; refine wpList_putG TQ_ok rfl _ _ _ rfl HM.out (sa, sb) q rfl rfl rfl ?_; intro w4 hm4 hf4 hs4; refine Hid.out ?_)
  have hd1 : Grn w3 (w3.drewN 1) := (Grn.refl w3).drew 1
  have hq31 := HQ3.out.1.grown hd1.below
  have HA4 := Lib.hid (HA2.out.newQueue HD.out hq31 (HQ3.out.2.1.trans hd1) HQ3.out.2.2.1 HQ3.out.2.2.2.1 HQ3.out.2.2.2.2 hm4 hf4)
  have hA31 := HA2b.out.grown hd1.below
  have HF4 := Lib.hid (HF3.out.trans ((FrL.of_below S hd1.below).trans (hA31.frmq hf4)))
  have HX4 := Lib.hid ((hA31.frmq hf4).block ((hd1.below.block _ (lt_of_block HX3.out)).trans HX3.out) (by decide) (by decide))
  clear hm4 hf4 hs4 hd1 hq31 hA31 HM HA2 HF2 HX2 HQ3 HF3 HX3 HA2b c1 al x0 x1 xl
  refine Lib.hid ?_
  go_wp2_with (go_at_call 56; fail)
  refine (fiPush_yes (HA4.out.qs _ _ (updG_same _ _ _)) (by simp) (by simp) ((i : Nat) : Int)).mono ?_
  rintro e w5 ⟨rfl, hq5, hf5⟩
  have hA5 := HA4.out.queue (updG_same _ _ _) hf5 hq5
  rw [updG_twice] at hA5
  have HF5 := Lib.hid (HF4.out.trans (HA4.out.frq (updG_same _ _ _) hf5))
  have HX5 := Lib.hid ((HA4.out.frq (updG_same _ _ _) hf5).block HX4.out (by decide) (by decide))
  have HA5 := Lib.hid hA5
  clear hq5 hf5 hA5 HA4 HF4 HX4
  generalize w5 = w4 at *
  have HA4 := HA5
  have HF4 := HF5
  have HX4 := HX5
  clear HA5 HF5 HX5
  have c2 := HA4.out.ca2
  have al := HA4.out.lt
  have x0 := cells_cell (o := 0) HX4.out rfl
  have x1 := cells_cell (o := 1) HX4.out rfl
  have xl := lt_of_block HX4.out
  go_wp2_with fail
  go_still_tail 8, (by kernel_rfl)
  change wpList _ _ _ _ _ (w4.drewN 1)
  obtain ⟨n2, hm⟩ := HA4.out.mp
  have HM : Hid (MapAt TP (w4.drewN 1) l.mp n2 pl) := Lib.hid (hm.same rfl)
  clear hm
  go_wp2_with (at_mapUpdate; refine wpList_putG TP_ok rfl _ _ _ rfl HM.out ((i : Nat) : Int) ⟨(sa, sb), 0 + 1⟩ rfl rfl rfl ?_; intro w6 hm6 hf6 hs6; refine Hid.out ?_)
  have hd1 : Grn w4 (w4.drewN 1) := (Grn.refl w4).drew 1
  have hA41 := HA4.out.grown hd1.below
  have HA6 := Lib.hid (hA41.places hf6 hm6)
  have HF6 := Lib.hid (HF4.out.trans ((FrL.of_below S hd1.below).trans (hA41.frmp hf6)))
  clear hm6 hf6 hs6 hd1 hA41 HM c2 al x0 x1 xl HA4 HF4 HX4
  refine Lib.hid ?_
  go_wp2_with fail
  go_ret
  exact ⟨rfl, ⟨_, _, _, HA6.out⟩, HF6.out⟩

theorem pkQueue_ok (h : LAt B S w l P Q g f pl) (hs : SpOk s) : ∃ a, Calls Tryd.prog 44 #[.pointer (some ⟨l.a, 0, none⟩), .agg #[.int .i64 s.1, .int .i64 s.2]] w fun e w' => e = .returned (.tuple #[.pointer a, .int .i64 0]) ∧ Grn w w' := by
  cases hf : f s with
  | none => exact ⟨_, pkQueue_none h hs hf⟩
  | some d => exact ⟨_, pkQueue_some h hs hf⟩
theorem pkPark_err (h : LAt B S w l P Q g f pl) (hs : SpOk s) {C : Int} (hC : C ≠ 0) (N : Int) (hu : ∀ W, LAt B S W l P Q g f pl → Calls Tryd.prog 54 #[.pointer (some ⟨l.t.t, 0, none⟩), .int .i64 N] W fun e w' => e = .returned (.int .i64 C) ∧ Grn W w') :
    Calls Tryd.prog 24 #[.pointer (some ⟨l.a, 0, none⟩), .int .i64 N, .agg #[.int .i64 s.1, .int .i64 s.2]] w fun e w' => e = .returned (.int .i64 C) ∧ Grn w w' := by
  have hb0 := below_alloc w (.cells #[.int .i64 s.1, .int .i64 s.2] 38)
  have HA0 := Lib.hid (h.grown hb0)
  obtain ⟨qa, hq⟩ := pkQueue_ok HA0.out hs
  have hq := Lib.hid hq
  have hu := Lib.hid hu
  have e1 : (C != 0) = true := by simpa using hC
  generalize s.1 = sa at *
  generalize s.2 = sb at *
  clear h hs hC hb0
  go_enter Tryd.func24, Tryd.ntmps24
  go_wp2_with (go_at_call 44; fail)
  refine hq.out.mono ?_
  rintro e w1 ⟨rfl, hg1⟩
  have HA1 := Lib.hid (HA0.out.grown hg1.below)
  have HG1 := Lib.hid (((Grn.refl w).alloc (.cells #[.int .i64 sa, .int .i64 sb] 38)).trans hg1)
  have c0 := HA1.out.ca0
  have al := HA1.out.lt
  clear hg1 hq HA0
  go_wp2_with (go_at_call 54; fail)
  refine (hu.out _ HA1.out).mono ?_
  rintro e w2 ⟨rfl, hg2⟩
  go_wp2_with fail
  go_ret
  exact ⟨rfl, HG1.out.trans hg2⟩
theorem pkPark_bad (h : LAt B S w l P Q g f pl) (hs : ¬ SpOk s) (N : Int) :
    Calls Tryd.prog 24 #[.pointer (some ⟨l.a, 0, none⟩), .int .i64 N, .agg #[.int .i64 s.1, .int .i64 s.2]] w fun e w' => e = .returned (.int .i64 2) ∧ Grn w w' := by
  have hq := Lib.hid (pkQueue_bad (h.grown (below_alloc w (.cells #[.int .i64 s.1, .int .i64 s.2] 38))) hs)
  generalize s.1 = sa at *
  generalize s.2 = sb at *
  clear h hs
  go_enter Tryd.func24, Tryd.ntmps24
  go_wp2_with (go_at_call 44; refine hq.out.mono ?_; rintro e w2 ⟨rfl, hg⟩)
  go_ret
  exact ⟨rfl, ((Grn.refl w).alloc _).trans hg⟩
theorem pkPark_any (h : LS B S w l z G) (hG : G ≤ 1000000) (N : Int) (s : Sp) : Calls Tryd.prog 24 #[.pointer (some ⟨l.a, 0, none⟩), .int .i64 N, .agg #[.int .i64 s.1, .int .i64 s.2]] w fun e w' => e = .returned (.int .i64 (pkC z N s).1) ∧ LS B S w' l (pkC z N s).2 (G + 1) ∧ FrL S w w' := by
  have HH := Lib.hid h
  obtain ⟨P, Q, g, f, pl, hA, hZ, hg, h1, h2⟩ := h
  have fin : ∀ C : Int, (Calls Tryd.prog 24 #[.pointer (some ⟨l.a, 0, none⟩), .int .i64 N, .agg #[.int .i64 s.1, .int .i64 s.2]] w fun e w' => e = .returned (.int .i64 C) ∧ Grn w w') →
      Calls Tryd.prog 24 #[.pointer (some ⟨l.a, 0, none⟩), .int .i64 N, .agg #[.int .i64 s.1, .int .i64 s.2]] w fun e w' => e = .returned (.int .i64 C) ∧ LS B S w' l z (G + 1) ∧ FrL S w w' := fun C h => h.mono (by
    rintro e w' ⟨rfl, hgr⟩
    exact ⟨rfl, (HH.out.grown hgr.below).mono (by omega), FrL.of_below S hgr.below⟩)
  by_cases hs : SpOk s
  · rcases numI_or z N with ⟨e, hn⟩ | ⟨i, rfl, hi, e⟩
    · unfold pkC; rw [e]
      refine fin 2 (pkPark_err hA hs (by decide) N (fun W hW => (tkPark_bad hW.k (by rw [h1, sts_len] at hn; exact hn)).mono ?_))
      rintro e w' ⟨rfl, rfl⟩; exact ⟨rfl, Grn.refl _⟩
    · have hi2 : i < P.length := by rw [h1, sts_len] at hi; exact hi
      have hp := List.getElem?_eq_getElem hi2
      have e2 : z.S.getD i 0 = P[i].s := by rw [h1]; simp [sts, hi2]
      unfold pkC; simp only [e, if_pos hs, e2]
      by_cases hs1 : P[i].s = 1
      · rw [if_pos hs1]
        have fin2 : ∀ w' d, LAt B S w' l (stepP P i 2 g) (stepQ Q i 2 g) g (updG f s (some ⟨d.q, d.b, d.m, d.L ++ [(d.g + 1, ((i : Nat) : Int))], d.g + 1⟩)) (updG pl ((i : Nat) : Int) (some ⟨s, d.g + 1⟩)) → (f s = some d ∨ (f s = none ∧ d.L = [])) → d.g ≤ G → LS B S w' l (z.park i s) (G + 1) := fun w' d hL hd hdg =>
          ⟨_, _, _, _, _, hL, hZ.park hp (by rw [hs1]; decide) hs hd (by omega) (by omega) g, by omega, by show z.S.set i 2 = _; rw [sts_step, h1], by show woR _ z.R = _; rw [vls_step, h2]; simp⟩
        cases hf : f s with
        | some d =>
          refine (pkPark_some hA hZ hg hG hs hf hp hs1).mono ?_
          rintro e w' ⟨rfl, hL, hF⟩
          exact ⟨rfl, fin2 w' d hL (.inl hf) (hZ.qf s d hf).2.2, hF⟩
        | none =>
          refine (pkPark_none hA hZ hg hG hs hf hp hs1).mono ?_
          rintro e w' ⟨rfl, ⟨q, b, m, hL⟩, hF⟩
          exact ⟨rfl, fin2 w' ⟨q, b, m, [], 0⟩ hL (.inr ⟨hf, rfl⟩) (Nat.zero_le _), hF⟩
      · rw [if_neg hs1]
        exact fin 8 (pkPark_err hA hs (by decide) _ (fun W hW => tkPark_state hW.k hp (fun e => hs1 e.symm)))
  · have : pkC z N s = (2, z) := by
      unfold pkC
      rcases numI_or z N with ⟨e, hn⟩ | ⟨i, rfl, hi, e⟩
      · rw [e]
      · simp only [e, if_neg hs]
    rw [this]
    exact fin 2 (pkPark_bad hA hs N)
end
end Go.Proofs.YtcdimopiaanfbaaDoor
