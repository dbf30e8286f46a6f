/- The walk of ParkQueues. -/
import Derived.Test.YtcdimopiaanfbaaDoorPQEarly
import Derived.LoopTactic
import Derived.Deep.LoopGhost
namespace Go.Proofs.YtcdimopiaanfbaaDoor
open Go.RowKit Go.Sort
set_option linter.unusedVariables false
set_option linter.unusedSimpArgs false

theorem wpList_unguard {P : Program} {ops : Array Oper} {Q : Exit → Act → World → Prop} {a : Act} {w : World} {rest : List Oper} {o : Oper} (hw : Region.wanted o (yielded ops a.tmps) = true) (h : wpList P ops Q ({ o with guard := none } :: rest) a w) : wpList P ops Q (o :: rest) a w := by
  unfold wpList at h ⊢
  rw [if_pos hw]
  have hn : Region.wanted { o with guard := none } (yielded ops a.tmps) = true := by simp [Region.wanted]
  rw [if_pos hn] at h
  exact h
/-- At which spot a task is parked. -/
def spq (wh : Int) (one two : Sp) (j : Nat) : Sp := if bits BinOp.and IntKind.u64 (wh / 2 ^ j) 1 = 1 then two else one
set_option maxRecDepth 100000 in
set_option maxHeartbeats 3200000 in
theorem pq_main (c wh : Int) (oa ob ta tb : Int) (w : World) (hmv : MvAt w) (h1 : 1 ≤ c) (h2 : c ≤ 64) (s1 : SpOk (oa, ob)) (s2 : SpOk (ta, tb)) (s12 : ((oa, ob) : Sp) ≠ (ta, tb)) (hne : oa ≠ ta) :
    Calls Tryd.prog 6 #[.int .i64 c, .int .u64 wh, .agg #[.int .i64 oa, .int .i64 ob], .agg #[.int .i64 ta, .int .i64 tb]] w fun e w' => e = .returned (.bool true) ∧ Below w.heap.size w w' := by
  have HM := Lib.hid hmv
  clear hmv
  have HB0 : Hid (Below w.heap.size w ((w.alloc (.cells #[.int .i64 oa, .int .i64 ob] 38)).alloc (.cells #[.int .i64 ta, .int .i64 tb] 38))) := Lib.hid (((Grn.refl w).alloc _).alloc _).below
  have HX : Hid (((w.alloc (.cells #[.int .i64 oa, .int .i64 ob] 38)).alloc (.cells #[.int .i64 ta, .int .i64 tb] 38)).heap[w.heap.size]? = some (.cells #[.int .i64 oa, .int .i64 ob] 38 (0, 0))) := Lib.hid (((below_alloc _ _).block _ (by simp)).trans (block_new _ _ _ rfl))
  have HY : Hid (((w.alloc (.cells #[.int .i64 oa, .int .i64 ob] 38)).alloc (.cells #[.int .i64 ta, .int .i64 tb] 38)).heap[w.heap.size + 1]? = some (.cells #[.int .i64 ta, .int .i64 tb] 38 (0, 0))) := Lib.hid (block_new _ _ _ (by simp))
  have c1d : decide (c < 1) = false := decide_eq_false (by omega)
  have c2d : decide (64 < c) = false := decide_eq_false (by omega)
  have q1 : ¬ oa = ta := hne
  have q2 : (oa == ta) = false := by simpa using hne
  have S1 := Lib.hid s1
  have S2 := Lib.hid s2
  have S12 := Lib.hid s12
  have CC : Hid (∃ n : Nat, c = ((n : Nat) : Int) ∧ 1 ≤ n ∧ n ≤ 64) := Lib.hid ⟨c.toNat, by omega, by omega, by omega⟩
  clear s12 s1 s2 h1 h2
  go_enter Tryd.func6, Tryd.ntmps6
  go_wp2_with (go_at_call 27; fail)
  refine (g9Spot_yes _ S1.out).mono ?_
  rintro e w2 ⟨rfl, hg1⟩
  have HB1 := Lib.hid (HB0.out.trans (hg1.below.mono HB0.out.size))
  have HX := Lib.hid (box_below hg1.below HX.out)
  have HY := Lib.hid (box_below hg1.below HY.out)
  clear hg1
  have x0 := cells_cell (o := 0) HX.out rfl
  have x1 := cells_cell (o := 1) HX.out rfl
  have xl := lt_of_block HX.out
  have y0 := cells_cell (o := 0) HY.out rfl
  have y1 := cells_cell (o := 1) HY.out rfl
  have yl := lt_of_block HY.out
  go_wp2_with (go_at_call 27; fail)
  refine (g9Spot_yes _ S2.out).mono ?_
  rintro e w3 ⟨rfl, hg2⟩
  have HB2 := Lib.hid (HB1.out.trans (hg2.below.mono HB1.out.size))
  have HX := Lib.hid (box_below hg2.below HX.out)
  have HY := Lib.hid (box_below hg2.below HY.out)
  clear hg2
  have x0 := cells_cell (o := 0) HX.out rfl
  have x1 := cells_cell (o := 1) HX.out rfl
  have xl := lt_of_block HX.out
  have y0 := cells_cell (o := 0) HY.out rfl
  have y1 := cells_cell (o := 1) HY.out rfl
  have yl := lt_of_block HY.out
  go_wp2_with (go_at_call 9; fail)
  have hB := HB2.out
  clear q1 q2 c1d c2d hne
  obtain ⟨c, rfl, n1, n2⟩ := CC.out
  refine (pkNew_ok (B := w.heap.size) (S := fun x => w.heap.size ≤ x) w3 (HM.out.below hB HM.out.lt) hB.size HM.out.lt (fun x hx => hx) (fun x hx => Nat.le_trans hB.size hx) c n1 n2).mono ?_
  rintro e w4 ⟨l, rfl, hL, hb⟩
  have K0 : Hid (KL w w4 l (zQ (spq wh (oa, ob) (ta, tb)) c 0) 0) := Lib.hid (kl_new hB hL hb)
  have HX := Lib.hid (box_below hb HX.out)
  have HY := Lib.hid (box_below hb HY.out)
  clear hL hb hB HB0 HB1 HB2 x0 x1 xl y0 y1 yl
  generalize hzz : w.heap.size = zz at *
  have HZZ := Lib.hid hzz
  clear hzz
  go_wp2_with fail
  go_loopw [11, 12, 13] (fun a b i wr => ∃ k : Nat, k ≤ c ∧ i = .int .i64 ((k : Nat) : Int) ∧ Hid (KL w wr l (zQ (spq wh (oa, ob) (ta, tb)) c k) (2 * k)) ∧ Hid (Row TI wr w.heap.size a (cat (qs (spq wh (oa, ob) (ta, tb)) (oa, ob) k))) ∧ Hid (Row TI wr w.heap.size b (cat (qs (spq wh (oa, ob) (ta, tb)) (ta, tb) k))) ∧ Hid (∀ g, a.ownBlock = some g → b.ownBlock ≠ some g) ∧
    Hid (wr.heap[zz]? = some (.cells #[.int .i64 oa, .int .i64 ob] 38 (0, 0))) ∧ Hid (wr.heap[zz + 1]? = some (.cells #[.int .i64 ta, .int .i64 tb] 38 (0, 0)))) (fun _ _ i _ => c - (intOf i).toNat)
  case atStart => exact ⟨0, Nat.zero_le _, rfl, K0, Lib.hid (Row.nil _ _), Lib.hid (Row.nil _ _), Lib.hid (fun g hg => by cases hg), HX, HY⟩
  case round =>
    clear K0 HX HY
    obtain ⟨k, hk, rfl, K, RA, RB, ND, HX, HY⟩ := hrel
    obtain ⟨aa, an, ac, rfl⟩ := row_form RA.out
    obtain ⟨ba, bn, bc, rfl⟩ := row_form RB.out
    have hnq := neq_spot_same
    have x0 := cells_cell (o := 0) HX.out rfl
    have x1 := cells_cell (o := 1) HX.out rfl
    have xl := lt_of_block HX.out
    have y0 := cells_cell (o := 0) HY.out rfl
    have y1 := cells_cell (o := 1) HY.out rfl
    have yl := lt_of_block HY.out
    by_cases hlt : k < c
    · have q3 : (k : Int) < (c : Int) := by omega
      have q4 : k < 64 := by omega
      have q5 : (k : Int) < 64 := by omega
      rcases bit_or (wh / 2 ^ k) with hbit | hbit
      · have hfk : spq wh (oa, ob) (ta, tb) k = (oa, ob) := by unfold spq; rw [if_neg (by rw [hbit]; decide)]
        have hme : cat (qs (spq wh (oa, ob) (ta, tb)) (oa, ob) (k + 1)) = cat (qs (spq wh (oa, ob) (ta, tb)) (oa, ob) k) ++ [((k : Nat) : Int)] := by rw [qs_succ, if_pos hfk, cat_append]; rfl
        have hot : cat (qs (spq wh (oa, ob) (ta, tb)) (ta, tb) (k + 1)) = cat (qs (spq wh (oa, ob) (ta, tb)) (ta, tb) k) := by rw [qs_succ, if_neg (by rw [hfk]; exact S12.out), List.append_nil]
        have HFK := Lib.hid hfk
        have HME := Lib.hid hme
        have HOT := Lib.hid hot
        have ha1 := below_alloc wr (.cells #[.int .i64 oa, .int .i64 ob] 38)
        have ha2 := below_alloc (wr.alloc (.cells #[.int .i64 oa, .int .i64 ob] 38)) (.cells #[.int .i64 ((k : Nat) : Int)] 3)
        have HP := Lib.hid (box_below ha2 (block_new wr (.cells #[.int .i64 oa, .int .i64 ob] 38) _ rfl))
        have HX2 := Lib.hid (box_below ha2 (box_below ha1 HX.out))
        have HY2 := Lib.hid (box_below ha2 (box_below ha1 HY.out))
        have RA2 := Lib.hid ((RA.out.below ha1).below ha2)
        have RB2 := Lib.hid ((RB.out.below ha1).below ha2)
        have K2 := Lib.hid ((K.out.grown ha1).grown ha2)
        have HSZ := Lib.hid (And.intro ha1.size ha2.size)
        have HLK : Hid (∀ x, x < wr.heap.size → x < ((wr.alloc (.cells #[.int .i64 oa, .int .i64 ob] 38)).alloc (.cells #[.int .i64 ((k : Nat) : Int)] 3)).heap.size) := Lib.hid (fun x hx => by simp; omega)
        have HLEN : Hid ((cat (qs (spq wh (oa, ob) (ta, tb)) (oa, ob) k)).length ≤ 64) := Lib.hid (by have := qs_len (spq wh (oa, ob) (ta, tb)) (oa, ob) k; simp [cat]; omega)
        have HLT := Lib.hid (And.intro RA.out.lt RB.out.lt)
        have hsrc := src_new TI_ok (wr.alloc (.cells #[.int .i64 oa, .int .i64 ob] 38)) ((k : Nat) : Int) #[.int .i64 ((k : Nat) : Int)] rfl
        rw [World.size_alloc] at hsrc
        have HSRC := Lib.hid hsrc
        clear hfk hme hot ha1 ha2 hsrc
        go_wp2_with (at_builtin; refine wpList_append_g TI_ok rfl (.tmp 72) (.tmp 74) rfl rfl rfl RA2.out (K2.out.below.size) HSRC.out (Nat.le_trans (Nat.add_le_add_right HLEN.out 1) (by decide)) ?_)
        intro v' w5 ho hf hn
        rw [← HME.out] at ho
        have K3 := Lib.hid (K2.out.row RA2.out hf)
        have RA3 := Lib.hid ho
        have hot3 := RB2.out.fr hf (fun g hg hm => by
          have hm' : (Value.slice aa an ac).ownBlock = some g := by simpa using hm
          exact ND.out g hm' hg)
        rw [← HOT.out] at hot3
        have RB3 := Lib.hid hot3
        have ND3 : Hid (∀ g, (v' : Value).ownBlock = some g → (Value.slice ba bn bc).ownBlock ≠ some g) := Lib.hid (fun g hg hg' => by
          rcases hn g hg with h | h
          · exact ND.out g h hg'
          · have h1 := (HLT.out.2 g hg').2
            have h2 := HLK.out g h1
            omega)
        have nb : ∀ {x : Nat} {y : Array Value}, ((wr.alloc (.cells #[.int .i64 oa, .int .i64 ob] 38)).alloc (.cells #[.int .i64 ((k : Nat) : Int)] 3)).heap[x]? = some (.cells y 38 (0, 0)) → w5.heap[x]? = some (.cells y 38 (0, 0)) := fun h => hf.same h (fun hm => RA2.out.ne h (by decide) _ (by simpa using hm) rfl)
        have HP := Lib.hid (nb HP.out)
        have HX := Lib.hid (nb HX2.out)
        have HY := Lib.hid (nb HY2.out)
        obtain ⟨va', vn', vc', rfl⟩ := row_form ho
        have RA := RA3
        have RB := RB3
        clear ho hf hn nb hot3 HX2 HY2 RA2 RB2 K2 HSZ HLEN HLT ND K HLK HSRC RA3 RB3
        generalize wr.heap.size = xp at *
        have p0 := cells_cell (o := 0) HP.out rfl
        have p1 := cells_cell (o := 1) HP.out rfl
        have pl := lt_of_block HP.out
        go_wp2_with (go_at_call 21; fail)
        clear p0 p1 pl
        have hc := pkStart_any K3.out.K (by have := CC.out; omega) ((k : Nat) : Int)
        rw [zQ_start hlt] at hc
        simp only at hc
        refine hc.mono ?_
        rintro e w6 ⟨rfl, hL, hF⟩
        have K4 := Lib.hid (K3.out.did hL hF)
        have HX := Lib.hid (hF.block HX.out (by decide) (by decide))
        have HY := Lib.hid (hF.block HY.out (by decide) (by decide))
        have HP := Lib.hid (hF.block HP.out (by decide) (by decide))
        have RA := Lib.hid (hF.row RA.out (by decide) (by decide))
        have RB := Lib.hid (hF.row RB.out (by decide) (by decide))
        clear hc hL hF K3
        have p0 := cells_cell (o := 0) HP.out rfl
        have p1 := cells_cell (o := 1) HP.out rfl
        have pl := lt_of_block HP.out
        go_wp2_with (go_at_call 24; fail)
        clear p0 p1 pl
        have hc := pkPark_any K4.out.K (by have := CC.out; omega) ((k : Nat) : Int) (spq wh (oa, ob) (ta, tb) k)
        rw [zQ_park hlt (by rw [HFK.out]; exact S1.out), HFK.out] at hc
        simp only at hc
        refine hc.mono ?_
        rintro e w7 ⟨rfl, hL, hF⟩
        have K5 := Lib.hid (K4.out.did hL hF)
        have HX := Lib.hid (hF.block HX.out (by decide) (by decide))
        have HY := Lib.hid (hF.block HY.out (by decide) (by decide))
        have HP := Lib.hid (hF.block HP.out (by decide) (by decide))
        have RA := Lib.hid (hF.row RA.out (by decide) (by decide))
        have RB := Lib.hid (hF.row RB.out (by decide) (by decide))
        clear hc hL hF K4
        go_wp2_with (go_at_call 19; fail)
        have hc := pkWhere_any K5.out.K ((k : Nat) : Int)
        rw [zQ_where hlt, HFK.out] at hc
        simp only at hc
        refine hc.mono ?_
        rintro e w8 ⟨rfl, hg⟩
        have hbb := hg.below.trans ((below_alloc w8 (.cells #[.int .i64 oa, .int .i64 ob] 38)).mono hg.below.size)
        have K6 := Lib.hid (K5.out.grown hbb)
        have HX := Lib.hid (box_below hbb HX.out)
        have HY := Lib.hid (box_below hbb HY.out)
        have RA := Lib.hid (RA.out.below hbb)
        have RB := Lib.hid (RB.out.below hbb)
        have HP := Lib.hid (box_below hg.below HP.out)
        clear hc hg hbb K5
        have p0 := cells_cell (o := 0) HP.out rfl
        have p1 := cells_cell (o := 1) HP.out rfl
        have pl := lt_of_block HP.out
        go_wp2_with fail
        go_roundw
        case rel => exact ⟨k + 1, by omega, by go_num, Lib.hid (K6.out.mono (by omega)), RA, RB, ND3, HX, HY⟩
        case measure => simp [intOf]; omega
      · have hfk : spq wh (oa, ob) (ta, tb) k = (ta, tb) := by unfold spq; rw [if_pos hbit]
        have hme : cat (qs (spq wh (oa, ob) (ta, tb)) (ta, tb) (k + 1)) = cat (qs (spq wh (oa, ob) (ta, tb)) (ta, tb) k) ++ [((k : Nat) : Int)] := by rw [qs_succ, if_pos hfk, cat_append]; rfl
        have hot : cat (qs (spq wh (oa, ob) (ta, tb)) (oa, ob) (k + 1)) = cat (qs (spq wh (oa, ob) (ta, tb)) (oa, ob) k) := by rw [qs_succ, if_neg (by rw [hfk]; exact fun e => S12.out e.symm), List.append_nil]
        have HFK := Lib.hid hfk
        have HME := Lib.hid hme
        have HOT := Lib.hid hot
        have ha1 := below_alloc wr (.cells #[.int .i64 ta, .int .i64 tb] 38)
        have ha2 := below_alloc (wr.alloc (.cells #[.int .i64 ta, .int .i64 tb] 38)) (.cells #[.int .i64 ((k : Nat) : Int)] 3)
        have HP := Lib.hid (box_below ha2 (block_new wr (.cells #[.int .i64 ta, .int .i64 tb] 38) _ rfl))
        have HX2 := Lib.hid (box_below ha2 (box_below ha1 HX.out))
        have HY2 := Lib.hid (box_below ha2 (box_below ha1 HY.out))
        have RA2 := Lib.hid ((RA.out.below ha1).below ha2)
        have RB2 := Lib.hid ((RB.out.below ha1).below ha2)
        have K2 := Lib.hid ((K.out.grown ha1).grown ha2)
        have HSZ := Lib.hid (And.intro ha1.size ha2.size)
        have HLK : Hid (∀ x, x < wr.heap.size → x < ((wr.alloc (.cells #[.int .i64 ta, .int .i64 tb] 38)).alloc (.cells #[.int .i64 ((k : Nat) : Int)] 3)).heap.size) := Lib.hid (fun x hx => by simp; omega)
        have HLEN : Hid ((cat (qs (spq wh (oa, ob) (ta, tb)) (ta, tb) k)).length ≤ 64) := Lib.hid (by have := qs_len (spq wh (oa, ob) (ta, tb)) (ta, tb) k; simp [cat]; omega)
        have HLT := Lib.hid (And.intro RA.out.lt RB.out.lt)
        have hsrc := src_new TI_ok (wr.alloc (.cells #[.int .i64 ta, .int .i64 tb] 38)) ((k : Nat) : Int) #[.int .i64 ((k : Nat) : Int)] rfl
        rw [World.size_alloc] at hsrc
        have HSRC := Lib.hid hsrc
        clear hfk hme hot ha1 ha2 hsrc
        go_wp2_with (at_builtin; refine wpList_append_g TI_ok rfl (.tmp 68) (.tmp 70) rfl rfl rfl RB2.out (K2.out.below.size) HSRC.out (Nat.le_trans (Nat.add_le_add_right HLEN.out 1) (by decide)) ?_)
        intro v' w5 ho hf hn
        rw [← HME.out] at ho
        have K3 := Lib.hid (K2.out.row RB2.out hf)
        have RB3 := Lib.hid ho
        have hot3 := RA2.out.fr hf (fun g hg hm => by
          have hm' : (Value.slice ba bn bc).ownBlock = some g := by simpa using hm
          exact ND.out g hg hm')
        rw [← HOT.out] at hot3
        have RA3 := Lib.hid hot3
        have ND3 : Hid (∀ g, (Value.slice aa an ac).ownBlock = some g → (v' : Value).ownBlock ≠ some g) := Lib.hid (fun g hg hg' => by
          rcases hn g hg' with h | h
          · exact ND.out g hg h
          · have h1 := (HLT.out.1 g hg).2
            have h2 := HLK.out g h1
            omega)
        have nb : ∀ {x : Nat} {y : Array Value}, ((wr.alloc (.cells #[.int .i64 ta, .int .i64 tb] 38)).alloc (.cells #[.int .i64 ((k : Nat) : Int)] 3)).heap[x]? = some (.cells y 38 (0, 0)) → w5.heap[x]? = some (.cells y 38 (0, 0)) := fun h => hf.same h (fun hm => RB2.out.ne h (by decide) _ (by simpa using hm) rfl)
        have HP := Lib.hid (nb HP.out)
        have HX := Lib.hid (nb HX2.out)
        have HY := Lib.hid (nb HY2.out)
        obtain ⟨va', vn', vc', rfl⟩ := row_form ho
        have RA := RA3
        have RB := RB3
        clear ho hf hn nb hot3 HX2 HY2 RA2 RB2 K2 HSZ HLEN HLT ND K HLK HSRC RA3 RB3
        generalize wr.heap.size = xp at *
        have p0 := cells_cell (o := 0) HP.out rfl
        have p1 := cells_cell (o := 1) HP.out rfl
        have pl := lt_of_block HP.out
        go_wp2_with (go_at_call 21; fail)
        clear p0 p1 pl
        have hc := pkStart_any K3.out.K (by have := CC.out; omega) ((k : Nat) : Int)
        rw [zQ_start hlt] at hc
        simp only at hc
        refine hc.mono ?_
        rintro e w6 ⟨rfl, hL, hF⟩
        have K4 := Lib.hid (K3.out.did hL hF)
        have HX := Lib.hid (hF.block HX.out (by decide) (by decide))
        have HY := Lib.hid (hF.block HY.out (by decide) (by decide))
        have HP := Lib.hid (hF.block HP.out (by decide) (by decide))
        have RA := Lib.hid (hF.row RA.out (by decide) (by decide))
        have RB := Lib.hid (hF.row RB.out (by decide) (by decide))
        clear hc hL hF K3
        have p0 := cells_cell (o := 0) HP.out rfl
        have p1 := cells_cell (o := 1) HP.out rfl
        have pl := lt_of_block HP.out
        go_wp2_with (go_at_call 24; fail)
        clear p0 p1 pl
        have hc := pkPark_any K4.out.K (by have := CC.out; omega) ((k : Nat) : Int) (spq wh (oa, ob) (ta, tb) k)
        rw [zQ_park hlt (by rw [HFK.out]; exact S2.out), HFK.out] at hc
        simp only at hc
        refine hc.mono ?_
        rintro e w7 ⟨rfl, hL, hF⟩
        have K5 := Lib.hid (K4.out.did hL hF)
        have HX := Lib.hid (hF.block HX.out (by decide) (by decide))
        have HY := Lib.hid (hF.block HY.out (by decide) (by decide))
        have HP := Lib.hid (hF.block HP.out (by decide) (by decide))
        have RA := Lib.hid (hF.row RA.out (by decide) (by decide))
        have RB := Lib.hid (hF.row RB.out (by decide) (by decide))
        clear hc hL hF K4
        go_wp2_with (go_at_call 19; fail)
        have hc := pkWhere_any K5.out.K ((k : Nat) : Int)
        rw [zQ_where hlt, HFK.out] at hc
        simp only at hc
        refine hc.mono ?_
        rintro e w8 ⟨rfl, hg⟩
        have hbb := hg.below.trans ((below_alloc w8 (.cells #[.int .i64 ta, .int .i64 tb] 38)).mono hg.below.size)
        have K6 := Lib.hid (K5.out.grown hbb)
        have HX := Lib.hid (box_below hbb HX.out)
        have HY := Lib.hid (box_below hbb HY.out)
        have RA := Lib.hid (RA.out.below hbb)
        have RB := Lib.hid (RB.out.below hbb)
        have HP := Lib.hid (box_below hg.below HP.out)
        clear hc hg hbb K5
        have p0 := cells_cell (o := 0) HP.out rfl
        have p1 := cells_cell (o := 1) HP.out rfl
        have pl := lt_of_block HP.out
        go_wp2_with fail
        go_roundw
        case rel => exact ⟨k + 1, by omega, by go_num, Lib.hid (K6.out.mono (by omega)), RA, RB, ND3, HX, HY⟩
        case measure => simp [intOf]; omega
    · obtain rfl : k = c := by omega
      clear ND hnq
      have HLA : Hid ((cat (qs (spq wh (oa, ob) (ta, tb)) (oa, ob) k)).length ≤ 64) := Lib.hid (by have := qs_len (spq wh (oa, ob) (ta, tb)) (oa, ob) k; simp [cat]; omega)
      have HLB : Hid ((cat (qs (spq wh (oa, ob) (ta, tb)) (ta, tb) k)).length ≤ 64) := Lib.hid (by have := qs_len (spq wh (oa, ob) (ta, tb)) (ta, tb) k; simp [cat]; omega)
      have x0 := cells_cell (o := 0) HX.out rfl
      have x1 := cells_cell (o := 1) HX.out rfl
      have xl := lt_of_block HX.out
      have y0 := cells_cell (o := 0) HY.out rfl
      have y1 := cells_cell (o := 1) HY.out rfl
      have yl := lt_of_block HY.out
      go_wp2_with (go_at_call 28; fail)
      clear x0 x1 xl y0 y1 yl
      refine (waits_yes (s := (oa, ob)) K.out.K (by have := CC.out; omega) S1.out (by rw [show wt (oa, ob) (zQ (spq wh (oa, ob) (ta, tb)) k k).L = _ from wt_qL _ _ _]; exact RA.out.src TI_ok)).mono ?_
      rintro e w5 ⟨rfl, hb⟩
      have K := Lib.hid (K.out.grown hb)
      have HX := Lib.hid (box_below hb HX.out)
      have HY := Lib.hid (box_below hb HY.out)
      have RA := Lib.hid (RA.out.below hb)
      have RB := Lib.hid (RB.out.below hb)
      clear hb
      have x0 := cells_cell (o := 0) HX.out rfl
      have x1 := cells_cell (o := 1) HX.out rfl
      have xl := lt_of_block HX.out
      have y0 := cells_cell (o := 0) HY.out rfl
      have y1 := cells_cell (o := 1) HY.out rfl
      have yl := lt_of_block HY.out
      go_wp2_with (go_at_call 28; fail)
      clear x0 x1 xl y0 y1 yl
      refine (waits_yes (s := (ta, tb)) K.out.K (by have := CC.out; omega) S2.out (by rw [show wt (ta, tb) (zQ (spq wh (oa, ob) (ta, tb)) k k).L = _ from wt_qL _ _ _]; exact RB.out.src TI_ok)).mono ?_
      rintro e w6 ⟨rfl, hb⟩
      have K := Lib.hid (K.out.grown hb)
      have HX := Lib.hid (box_below hb HX.out)
      have HY := Lib.hid (box_below hb HY.out)
      have RA := Lib.hid (RA.out.below hb)
      have RB := Lib.hid (RB.out.below hb)
      clear hb
      have x0 := cells_cell (o := 0) HX.out rfl
      have x1 := cells_cell (o := 1) HX.out rfl
      have xl := lt_of_block HX.out
      have y0 := cells_cell (o := 0) HY.out rfl
      have y1 := cells_cell (o := 1) HY.out rfl
      have yl := lt_of_block HY.out
      go_wp2_with (go_at_call 13; fail)
      clear x0 x1 xl y0 y1 yl
      refine (pkReady_any K.out.K (by have := CC.out; omega)).mono ?_
      rintro e w7 ⟨r_, rfl, hr, hb⟩
      have K := Lib.hid (K.out.grown hb)
      have HX := Lib.hid (box_below hb HX.out)
      have HY := Lib.hid (box_below hb HY.out)
      have RA := Lib.hid (RA.out.below hb)
      have RB := Lib.hid (RB.out.below hb)
      obtain ⟨ra, rc, rfl, -, -⟩ := hr.form
      clear hr
      clear hb
      simp only [show (zQ (spq wh (oa, ob) (ta, tb)) k k).R = [] from rfl, List.length_nil]
      have x0 := cells_cell (o := 0) HX.out rfl
      have x1 := cells_cell (o := 1) HX.out rfl
      have xl := lt_of_block HX.out
      have y0 := cells_cell (o := 0) HY.out rfl
      have y1 := cells_cell (o := 1) HY.out rfl
      have yl := lt_of_block HY.out
      go_wp2_with (go_at_call 17; fail)
      clear x0 x1 xl y0 y1 yl
      have hc := pkWakeAll_any K.out.K (by have := CC.out; omega) (ta, tb)
      rw [wkaq S2.out] at hc
      simp only at hc
      refine hc.mono ?_
      rintro e w8 ⟨v_, rfl, hr, hL, hF⟩
      have K := Lib.hid (K.out.did hL hF)
      have HX := Lib.hid (hF.block HX.out (by decide) (by decide))
      have HY := Lib.hid (hF.block HY.out (by decide) (by decide))
      have RA := Lib.hid (hF.row RA.out (by decide) (by decide))
      have RB := Lib.hid (hF.row RB.out (by decide) (by decide))
      obtain ⟨xa, xn, xc, rfl⟩ := row_form hr
      have RX := Lib.hid hr
      clear hr hL hF hc
      have x0 := cells_cell (o := 0) HX.out rfl
      have x1 := cells_cell (o := 1) HX.out rfl
      have xl := lt_of_block HX.out
      have y0 := cells_cell (o := 0) HY.out rfl
      have y1 := cells_cell (o := 1) HY.out rfl
      have yl := lt_of_block HY.out
      go_wp2_with (go_at_call 29; fail)
      clear x0 x1 xl y0 y1 yl
      refine (same_yes (RX.out.src TI_ok) (RB.out.src TI_ok) (by have := HLB.out; omega)).mono ?_
      rintro e w9 ⟨rfl, hg⟩
      have K := Lib.hid (K.out.grown hg.below)
      have HX := Lib.hid (box_below hg.below HX.out)
      have HY := Lib.hid (box_below hg.below HY.out)
      have RA := Lib.hid (RA.out.below hg.below)
      have RB := Lib.hid (RB.out.below hg.below)
      clear hg
      clear RX
      have x0 := cells_cell (o := 0) HX.out rfl
      have x1 := cells_cell (o := 1) HX.out rfl
      have xl := lt_of_block HX.out
      have y0 := cells_cell (o := 0) HY.out rfl
      have y1 := cells_cell (o := 1) HY.out rfl
      have yl := lt_of_block HY.out
      go_wp2_with (go_at_call 28; fail)
      clear x0 x1 xl y0 y1 yl
      refine (waits_yes (s := (oa, ob)) K.out.K (by have := CC.out; omega) S1.out (by rw [wq1 S12.out]; exact RA.out.src TI_ok)).mono ?_
      rintro e w10 ⟨rfl, hb⟩
      have K := Lib.hid (K.out.grown hb)
      have HX := Lib.hid (box_below hb HX.out)
      have HY := Lib.hid (box_below hb HY.out)
      have RA := Lib.hid (RA.out.below hb)
      have RB := Lib.hid (RB.out.below hb)
      clear hb
      have x0 := cells_cell (o := 0) HX.out rfl
      have x1 := cells_cell (o := 1) HX.out rfl
      have xl := lt_of_block HX.out
      have y0 := cells_cell (o := 0) HY.out rfl
      have y1 := cells_cell (o := 1) HY.out rfl
      have yl := lt_of_block HY.out
      go_wp2_with (go_at_call 13; fail)
      clear x0 x1 xl y0 y1 yl
      refine (pkReady_any K.out.K (by have := CC.out; omega)).mono ?_
      rintro e w11 ⟨r_, rfl, hr, hb⟩
      have K := Lib.hid (K.out.grown hb)
      have HX := Lib.hid (box_below hb HX.out)
      have HY := Lib.hid (box_below hb HY.out)
      have RA := Lib.hid (RA.out.below hb)
      have RB := Lib.hid (RB.out.below hb)
      rw [Rq1] at hr
      obtain ⟨xa, xn, xc, rfl⟩ := row_form hr
      have RX := Lib.hid hr
      clear hr
      clear hb
      have x0 := cells_cell (o := 0) HX.out rfl
      have x1 := cells_cell (o := 1) HX.out rfl
      have xl := lt_of_block HX.out
      have y0 := cells_cell (o := 0) HY.out rfl
      have y1 := cells_cell (o := 1) HY.out rfl
      have yl := lt_of_block HY.out
      go_wp2_with (go_at_call 29; fail)
      clear x0 x1 xl y0 y1 yl
      refine (same_yes (RX.out.src TI_ok) (RB.out.src TI_ok) (by have := HLB.out; omega)).mono ?_
      rintro e w12 ⟨rfl, hg⟩
      have K := Lib.hid (K.out.grown hg.below)
      have HX := Lib.hid (box_below hg.below HX.out)
      have HY := Lib.hid (box_below hg.below HY.out)
      have RA := Lib.hid (RA.out.below hg.below)
      have RB := Lib.hid (RB.out.below hg.below)
      clear hg
      clear RX
      obtain ⟨NA, hNA⟩ : ∃ N, N = (qs (spq wh (oa, ob) (ta, tb)) (oa, ob) k).length := ⟨_, rfl⟩
      have HNA := Lib.hid hNA
      obtain ⟨a1, a2, e1, -, -⟩ := RA.out.form
      simp only [Value.slice.injEq] at e1
      have hNA2 : an = NA := by rw [e1.2.1, hNA]; simp [cat]
      subst hNA2
      clear e1 hNA
      have hNA64 : ((an : Nat) : Int) ≤ 64 := by have := HLA.out; have h2 := HNA.out; simp [cat] at this; omega
      have x0 := cells_cell (o := 0) HX.out rfl
      have x1 := cells_cell (o := 1) HX.out rfl
      have xl := lt_of_block HX.out
      have y0 := cells_cell (o := 0) HY.out rfl
      have y1 := cells_cell (o := 1) HY.out rfl
      have yl := lt_of_block HY.out
      go_wp2_with fail
      clear x0 x1 xl y0 y1 yl
      go_loopw [148] (fun i wr => ∃ j : Nat, j ≤ an ∧ i = .int .i64 ((j : Nat) : Int) ∧ Hid (KL w wr l (((zQ (spq wh (oa, ob) (ta, tb)) k k).leaves (qs (spq wh (oa, ob) (ta, tb)) (ta, tb) k)).leaves ((qs (spq wh (oa, ob) (ta, tb)) (oa, ob) k).take j)) (2 * k + 64 + j)) ∧ Hid (Row TI wr w.heap.size (.slice aa an ac) (cat (qs (spq wh (oa, ob) (ta, tb)) (oa, ob) k))) ∧ Hid (Row TI wr w.heap.size (.slice ba bn bc) (cat (qs (spq wh (oa, ob) (ta, tb)) (ta, tb) k))) ∧
        Hid (wr.heap[zz]? = some (.cells #[.int .i64 oa, .int .i64 ob] 38 (0, 0))) ∧ Hid (wr.heap[zz + 1]? = some (.cells #[.int .i64 ta, .int .i64 tb] 38 (0, 0)))) (fun i _ => an - (intOf i).toNat)
      case atStart => exact ⟨0, Nat.zero_le _, rfl, K, RA, RB, HX, HY⟩
      case round =>
        clear K RA RB HX HY
        obtain ⟨j, hj, rfl, K, RA, RB, HX, HY⟩ := hrel
        by_cases hlt2 : j < an
        · have hjn : j < (qs (spq wh (oa, ob) (ta, tb)) (oa, ob) k).length := by rw [← HNA.out]; exact hlt2
          have hjc : j < (cat (qs (spq wh (oa, ob) (ta, tb)) (oa, ob) k)).length := by simp [cat]; exact hjn
          obtain ⟨g0, o1, c1, e1, _, _, l1, k1⟩ := Src.int (RA.out.src TI_ok) hjc
          simp only [Value.slice.injEq] at e1
          obtain ⟨rfl, -, -⟩ := e1
          have hck : (cat (qs (spq wh (oa, ob) (ta, tb)) (oa, ob) k))[j] = (((qs (spq wh (oa, ob) (ta, tb)) (oa, ob) k)[j] : Nat) : Int) := by simp [cat]
          rw [hck] at k1
          have q3 : (j : Int) < (an : Int) := by omega
          have hwk : Hid _ := Lib.hid (pkWake_any K.out.K (by have := CC.out; omega) (oa, ob))
          rw [wkq S12.out S1.out hjn] at hwk
          simp only at hwk
          generalize (qs (spq wh (oa, ob) (ta, tb)) (oa, ob) k)[j] = x at *
          clear hjn hjc hck
          have x0 := cells_cell (o := 0) HX.out rfl
          have x1 := cells_cell (o := 1) HX.out rfl
          have xl := lt_of_block HX.out
          have y0 := cells_cell (o := 0) HY.out rfl
          have y1 := cells_cell (o := 1) HY.out rfl
          have yl := lt_of_block HY.out
          go_wp2_with (go_at_call 16; fail)
          clear x0 x1 xl y0 y1 yl
          refine hwk.out.mono ?_
          rintro e v5 ⟨rfl, hL, hF⟩
          have K2 := Lib.hid (K.out.did hL hF)
          have HX := Lib.hid (hF.block HX.out (by decide) (by decide))
          have HY := Lib.hid (hF.block HY.out (by decide) (by decide))
          have RA := Lib.hid (hF.row RA.out (by decide) (by decide))
          have RB := Lib.hid (hF.row RB.out (by decide) (by decide))
          clear hwk hL hF K k1 l1
          go_wp2_with fail
          go_roundw
          case rel => exact ⟨j + 1, by omega, by go_num, K2, RA, RB, HX, HY⟩
          case measure => simp [intOf]; omega
        · obtain rfl : j = an := by omega
          have hK := K.out
          rw [List.take_of_length_le (by rw [← HNA.out]; exact Nat.le_refl _)] at hK
          have K := Lib.hid hK
          clear hK
          have x0 := cells_cell (o := 0) HX.out rfl
          have x1 := cells_cell (o := 1) HX.out rfl
          have xl := lt_of_block HX.out
          have y0 := cells_cell (o := 0) HY.out rfl
          have y1 := cells_cell (o := 1) HY.out rfl
          have yl := lt_of_block HY.out
          go_wp2_with (go_at_call 16; fail)
          clear x0 x1 xl y0 y1 yl
          have hc := pkWake_any K.out.K (by have := CC.out; omega) (oa, ob)
          rw [wkq_end S12.out S1.out] at hc
          simp only at hc
          refine hc.mono ?_
          rintro e v5 ⟨rfl, hL, hF⟩
          have K := Lib.hid (K.out.did hL hF)
          have RA := Lib.hid (hF.row RA.out (by decide) (by decide))
          have RB := Lib.hid (hF.row RB.out (by decide) (by decide))
          clear hL hF hc HX HY
          go_wp2_with (go_at_call 13; fail)
          refine (pkReady_any K.out.K (by have := CC.out; omega)).mono ?_
          rintro e v6 ⟨r_, rfl, hr, hb⟩
          rw [Rq_end S12.out] at hr
          obtain ⟨xa, xn, xc, rfl⟩ := row_form hr
          have RX := Lib.hid (hr.lower K.out.below.size)
          have K := Lib.hid (K.out.grown hb)
          have RA := Lib.hid (RA.out.below hb)
          have RLT := Lib.hid (hr.lt)
          have RLB : Hid (∀ g, (Value.slice ba bn bc).ownBlock = some g → g < v5.heap.size) := Lib.hid (fun g hg => (RB.out.lt g hg).2)
          have RB := Lib.hid (RB.out.below hb)
          clear hr hb
          have HLL : Hid ((cat (qs (spq wh (oa, ob) (ta, tb)) (ta, tb) k)).length + (cat (qs (spq wh (oa, ob) (ta, tb)) (oa, ob) k)).length ≤ 1000000) := Lib.hid (by have := HLA.out; have := HLB.out; omega)
          go_wp2_with (at_builtin; refine wpList_unguard rfl ?_; refine wpList_append_g TI_ok rfl (.tmp 177) (.tmp 178) rfl rfl rfl RB.out K.out.below.size (RA.out.src TI_ok) HLL.out ?_)
          intro v' v7 ho hf hn
          have K := Lib.hid (K.out.row RB.out hf)
          have RY := Lib.hid ho
          have RX := Lib.hid (RX.out.fr hf (fun g hg hm => by have h1 := RLB.out g (by simpa using hm); have h2 := (RLT.out g hg).1; omega))
          obtain ⟨ya, yn, yc, rfl⟩ := row_form ho
          clear ho hf hn RA RB RLT RLB
          go_wp2_with (go_at_call 29; fail)
          refine (same_yes (RX.out.src TI_ok) (RY.out.src TI_ok) (by rw [List.length_append]; exact HLL.out)).mono ?_
          rintro e v8 ⟨rfl, hg⟩
          have K := Lib.hid (K.out.grown hg.below)
          clear hg RX RY
          go_wp2_with (go_at_call 8; fail)
          refine (known_any _ (HM.out.below K.out.below HM.out.lt)).mono ?_
          rintro e v9 ⟨rfl, hb⟩
          have K := Lib.hid (K.out.grown hb)
          go_wp2_with fail
          go_ret
          exact ⟨rfl, K.out.below⟩
set_option maxRecDepth 100000 in
set_option maxHeartbeats 3200000 in
theorem pq_main2 (c wh : Int) (oa ob ta tb : Int) (w : World) (hmv : MvAt w) (h1 : 1 ≤ c) (h2 : c ≤ 64) (s1 : SpOk (oa, ob)) (s2 : SpOk (ta, tb)) (s12 : ((oa, ob) : Sp) ≠ (ta, tb)) (ea : oa = ta) :
    Calls Tryd.prog 6 #[.int .i64 c, .int .u64 wh, .agg #[.int .i64 oa, .int .i64 ob], .agg #[.int .i64 ta, .int .i64 tb]] w fun e w' => e = .returned (.bool true) ∧ Below w.heap.size w w' := by
  have HM := Lib.hid hmv
  clear hmv
  have HB0 : Hid (Below w.heap.size w ((w.alloc (.cells #[.int .i64 oa, .int .i64 ob] 38)).alloc (.cells #[.int .i64 oa, .int .i64 tb] 38))) := Lib.hid (((Grn.refl w).alloc _).alloc _).below
  have HX : Hid (((w.alloc (.cells #[.int .i64 oa, .int .i64 ob] 38)).alloc (.cells #[.int .i64 oa, .int .i64 tb] 38)).heap[w.heap.size]? = some (.cells #[.int .i64 oa, .int .i64 ob] 38 (0, 0))) := Lib.hid (((below_alloc _ _).block _ (by simp)).trans (block_new _ _ _ rfl))
  have HY : Hid (((w.alloc (.cells #[.int .i64 oa, .int .i64 ob] 38)).alloc (.cells #[.int .i64 oa, .int .i64 tb] 38)).heap[w.heap.size + 1]? = some (.cells #[.int .i64 oa, .int .i64 tb] 38 (0, 0))) := Lib.hid (block_new _ _ _ (by simp))
  have c1d : decide (c < 1) = false := decide_eq_false (by omega)
  have c2d : decide (64 < c) = false := decide_eq_false (by omega)
  subst ea
  have q1 : ¬ ob = tb := fun e => s12 (by rw [e])
  have q2 : (ob == tb) = false := by simpa using q1
  have S1 := Lib.hid s1
  have S2 := Lib.hid s2
  have S12 := Lib.hid s12
  have CC : Hid (∃ n : Nat, c = ((n : Nat) : Int) ∧ 1 ≤ n ∧ n ≤ 64) := Lib.hid ⟨c.toNat, by omega, by omega, by omega⟩
  clear s12 s1 s2 h1 h2
  go_enter Tryd.func6, Tryd.ntmps6
  go_wp2_with (go_at_call 27; fail)
  refine (g9Spot_yes _ S1.out).mono ?_
  rintro e w2 ⟨rfl, hg1⟩
  have HB1 := Lib.hid (HB0.out.trans (hg1.below.mono HB0.out.size))
  have HX := Lib.hid (box_below hg1.below HX.out)
  have HY := Lib.hid (box_below hg1.below HY.out)
  clear hg1
  have x0 := cells_cell (o := 0) HX.out rfl
  have x1 := cells_cell (o := 1) HX.out rfl
  have xl := lt_of_block HX.out
  have y0 := cells_cell (o := 0) HY.out rfl
  have y1 := cells_cell (o := 1) HY.out rfl
  have yl := lt_of_block HY.out
  go_wp2_with (go_at_call 27; fail)
  refine (g9Spot_yes _ S2.out).mono ?_
  rintro e w3 ⟨rfl, hg2⟩
  have HB2 := Lib.hid (HB1.out.trans (hg2.below.mono HB1.out.size))
  have HX := Lib.hid (box_below hg2.below HX.out)
  have HY := Lib.hid (box_below hg2.below HY.out)
  clear hg2
  have x0 := cells_cell (o := 0) HX.out rfl
  have x1 := cells_cell (o := 1) HX.out rfl
  have xl := lt_of_block HX.out
  have y0 := cells_cell (o := 0) HY.out rfl
  have y1 := cells_cell (o := 1) HY.out rfl
  have yl := lt_of_block HY.out
  go_wp2_with (go_at_call 9; fail)
  have hB := HB2.out
  clear q1 q2 c1d c2d
  obtain ⟨c, rfl, n1, n2⟩ := CC.out
  refine (pkNew_ok (B := w.heap.size) (S := fun x => w.heap.size ≤ x) w3 (HM.out.below hB HM.out.lt) hB.size HM.out.lt (fun x hx => hx) (fun x hx => Nat.le_trans hB.size hx) c n1 n2).mono ?_
  rintro e w4 ⟨l, rfl, hL, hb⟩
  have K0 : Hid (KL w w4 l (zQ (spq wh (oa, ob) (oa, tb)) c 0) 0) := Lib.hid (kl_new hB hL hb)
  have HX := Lib.hid (box_below hb HX.out)
  have HY := Lib.hid (box_below hb HY.out)
  clear hL hb hB HB0 HB1 HB2 x0 x1 xl y0 y1 yl
  generalize hzz : w.heap.size = zz at *
  have HZZ := Lib.hid hzz
  clear hzz
  go_wp2_with fail
  go_loopw [11, 12, 13] (fun a b i wr => ∃ k : Nat, k ≤ c ∧ i = .int .i64 ((k : Nat) : Int) ∧ Hid (KL w wr l (zQ (spq wh (oa, ob) (oa, tb)) c k) (2 * k)) ∧ Hid (Row TI wr w.heap.size a (cat (qs (spq wh (oa, ob) (oa, tb)) (oa, ob) k))) ∧ Hid (Row TI wr w.heap.size b (cat (qs (spq wh (oa, ob) (oa, tb)) (oa, tb) k))) ∧ Hid (∀ g, a.ownBlock = some g → b.ownBlock ≠ some g) ∧
    Hid (wr.heap[zz]? = some (.cells #[.int .i64 oa, .int .i64 ob] 38 (0, 0))) ∧ Hid (wr.heap[zz + 1]? = some (.cells #[.int .i64 oa, .int .i64 tb] 38 (0, 0)))) (fun _ _ i _ => c - (intOf i).toNat)
  case atStart => exact ⟨0, Nat.zero_le _, rfl, K0, Lib.hid (Row.nil _ _), Lib.hid (Row.nil _ _), Lib.hid (fun g hg => by cases hg), HX, HY⟩
  case round =>
    clear K0 HX HY
    obtain ⟨k, hk, rfl, K, RA, RB, ND, HX, HY⟩ := hrel
    obtain ⟨aa, an, ac, rfl⟩ := row_form RA.out
    obtain ⟨ba, bn, bc, rfl⟩ := row_form RB.out
    have hnq := neq_spot_same
    have x0 := cells_cell (o := 0) HX.out rfl
    have x1 := cells_cell (o := 1) HX.out rfl
    have xl := lt_of_block HX.out
    have y0 := cells_cell (o := 0) HY.out rfl
    have y1 := cells_cell (o := 1) HY.out rfl
    have yl := lt_of_block HY.out
    by_cases hlt : k < c
    · have q3 : (k : Int) < (c : Int) := by omega
      have q4 : k < 64 := by omega
      have q5 : (k : Int) < 64 := by omega
      rcases bit_or (wh / 2 ^ k) with hbit | hbit
      · have hfk : spq wh (oa, ob) (oa, tb) k = (oa, ob) := by unfold spq; rw [if_neg (by rw [hbit]; decide)]
        have hme : cat (qs (spq wh (oa, ob) (oa, tb)) (oa, ob) (k + 1)) = cat (qs (spq wh (oa, ob) (oa, tb)) (oa, ob) k) ++ [((k : Nat) : Int)] := by rw [qs_succ, if_pos hfk, cat_append]; rfl
        have hot : cat (qs (spq wh (oa, ob) (oa, tb)) (oa, tb) (k + 1)) = cat (qs (spq wh (oa, ob) (oa, tb)) (oa, tb) k) := by rw [qs_succ, if_neg (by rw [hfk]; exact S12.out), List.append_nil]
        have HFK := Lib.hid hfk
        have HME := Lib.hid hme
        have HOT := Lib.hid hot
        have ha1 := below_alloc wr (.cells #[.int .i64 oa, .int .i64 ob] 38)
        have ha2 := below_alloc (wr.alloc (.cells #[.int .i64 oa, .int .i64 ob] 38)) (.cells #[.int .i64 ((k : Nat) : Int)] 3)
        have HP := Lib.hid (box_below ha2 (block_new wr (.cells #[.int .i64 oa, .int .i64 ob] 38) _ rfl))
        have HX2 := Lib.hid (box_below ha2 (box_below ha1 HX.out))
        have HY2 := Lib.hid (box_below ha2 (box_below ha1 HY.out))
        have RA2 := Lib.hid ((RA.out.below ha1).below ha2)
        have RB2 := Lib.hid ((RB.out.below ha1).below ha2)
        have K2 := Lib.hid ((K.out.grown ha1).grown ha2)
        have HSZ := Lib.hid (And.intro ha1.size ha2.size)
        have HLK : Hid (∀ x, x < wr.heap.size → x < ((wr.alloc (.cells #[.int .i64 oa, .int .i64 ob] 38)).alloc (.cells #[.int .i64 ((k : Nat) : Int)] 3)).heap.size) := Lib.hid (fun x hx => by simp; omega)
        have HLEN : Hid ((cat (qs (spq wh (oa, ob) (oa, tb)) (oa, ob) k)).length ≤ 64) := Lib.hid (by have := qs_len (spq wh (oa, ob) (oa, tb)) (oa, ob) k; simp [cat]; omega)
        have HLT := Lib.hid (And.intro RA.out.lt RB.out.lt)
        have hsrc := src_new TI_ok (wr.alloc (.cells #[.int .i64 oa, .int .i64 ob] 38)) ((k : Nat) : Int) #[.int .i64 ((k : Nat) : Int)] rfl
        rw [World.size_alloc] at hsrc
        have HSRC := Lib.hid hsrc
        clear hfk hme hot ha1 ha2 hsrc
        go_wp2_with (at_builtin; refine wpList_append_g TI_ok rfl (.tmp 72) (.tmp 74) rfl rfl rfl RA2.out (K2.out.below.size) HSRC.out (Nat.le_trans (Nat.add_le_add_right HLEN.out 1) (by decide)) ?_)
        intro v' w5 ho hf hn
        rw [← HME.out] at ho
        have K3 := Lib.hid (K2.out.row RA2.out hf)
        have RA3 := Lib.hid ho
        have hot3 := RB2.out.fr hf (fun g hg hm => by
          have hm' : (Value.slice aa an ac).ownBlock = some g := by simpa using hm
          exact ND.out g hm' hg)
        rw [← HOT.out] at hot3
        have RB3 := Lib.hid hot3
        have ND3 : Hid (∀ g, (v' : Value).ownBlock = some g → (Value.slice ba bn bc).ownBlock ≠ some g) := Lib.hid (fun g hg hg' => by
          rcases hn g hg with h | h
          · exact ND.out g h hg'
          · have h1 := (HLT.out.2 g hg').2
            have h2 := HLK.out g h1
            omega)
        have nb : ∀ {x : Nat} {y : Array Value}, ((wr.alloc (.cells #[.int .i64 oa, .int .i64 ob] 38)).alloc (.cells #[.int .i64 ((k : Nat) : Int)] 3)).heap[x]? = some (.cells y 38 (0, 0)) → w5.heap[x]? = some (.cells y 38 (0, 0)) := fun h => hf.same h (fun hm => RA2.out.ne h (by decide) _ (by simpa using hm) rfl)
        have HP := Lib.hid (nb HP.out)
        have HX := Lib.hid (nb HX2.out)
        have HY := Lib.hid (nb HY2.out)
        obtain ⟨va', vn', vc', rfl⟩ := row_form ho
        have RA := RA3
        have RB := RB3
        clear ho hf hn nb hot3 HX2 HY2 RA2 RB2 K2 HSZ HLEN HLT ND K HLK HSRC RA3 RB3
        generalize wr.heap.size = xp at *
        have p0 := cells_cell (o := 0) HP.out rfl
        have p1 := cells_cell (o := 1) HP.out rfl
        have pl := lt_of_block HP.out
        go_wp2_with (go_at_call 21; fail)
        clear p0 p1 pl
        have hc := pkStart_any K3.out.K (by have := CC.out; omega) ((k : Nat) : Int)
        rw [zQ_start hlt] at hc
        simp only at hc
        refine hc.mono ?_
        rintro e w6 ⟨rfl, hL, hF⟩
        have K4 := Lib.hid (K3.out.did hL hF)
        have HX := Lib.hid (hF.block HX.out (by decide) (by decide))
        have HY := Lib.hid (hF.block HY.out (by decide) (by decide))
        have HP := Lib.hid (hF.block HP.out (by decide) (by decide))
        have RA := Lib.hid (hF.row RA.out (by decide) (by decide))
        have RB := Lib.hid (hF.row RB.out (by decide) (by decide))
        clear hc hL hF K3
        have p0 := cells_cell (o := 0) HP.out rfl
        have p1 := cells_cell (o := 1) HP.out rfl
        have pl := lt_of_block HP.out
        go_wp2_with (go_at_call 24; fail)
        clear p0 p1 pl
        have hc := pkPark_any K4.out.K (by have := CC.out; omega) ((k : Nat) : Int) (spq wh (oa, ob) (oa, tb) k)
        rw [zQ_park hlt (by rw [HFK.out]; exact S1.out), HFK.out] at hc
        simp only at hc
        refine hc.mono ?_
        rintro e w7 ⟨rfl, hL, hF⟩
        have K5 := Lib.hid (K4.out.did hL hF)
        have HX := Lib.hid (hF.block HX.out (by decide) (by decide))
        have HY := Lib.hid (hF.block HY.out (by decide) (by decide))
        have HP := Lib.hid (hF.block HP.out (by decide) (by decide))
        have RA := Lib.hid (hF.row RA.out (by decide) (by decide))
        have RB := Lib.hid (hF.row RB.out (by decide) (by decide))
        clear hc hL hF K4
        go_wp2_with (go_at_call 19; fail)
        have hc := pkWhere_any K5.out.K ((k : Nat) : Int)
        rw [zQ_where hlt, HFK.out] at hc
        simp only at hc
        refine hc.mono ?_
        rintro e w8 ⟨rfl, hg⟩
        have hbb := hg.below.trans ((below_alloc w8 (.cells #[.int .i64 oa, .int .i64 ob] 38)).mono hg.below.size)
        have K6 := Lib.hid (K5.out.grown hbb)
        have HX := Lib.hid (box_below hbb HX.out)
        have HY := Lib.hid (box_below hbb HY.out)
        have RA := Lib.hid (RA.out.below hbb)
        have RB := Lib.hid (RB.out.below hbb)
        have HP := Lib.hid (box_below hg.below HP.out)
        clear hc hg hbb K5
        have p0 := cells_cell (o := 0) HP.out rfl
        have p1 := cells_cell (o := 1) HP.out rfl
        have pl := lt_of_block HP.out
        go_wp2_with fail
        go_roundw
        case rel => exact ⟨k + 1, by omega, by go_num, Lib.hid (K6.out.mono (by omega)), RA, RB, ND3, HX, HY⟩
        case measure => simp [intOf]; omega
      · have hfk : spq wh (oa, ob) (oa, tb) k = (oa, tb) := by unfold spq; rw [if_pos hbit]
        have hme : cat (qs (spq wh (oa, ob) (oa, tb)) (oa, tb) (k + 1)) = cat (qs (spq wh (oa, ob) (oa, tb)) (oa, tb) k) ++ [((k : Nat) : Int)] := by rw [qs_succ, if_pos hfk, cat_append]; rfl
        have hot : cat (qs (spq wh (oa, ob) (oa, tb)) (oa, ob) (k + 1)) = cat (qs (spq wh (oa, ob) (oa, tb)) (oa, ob) k) := by rw [qs_succ, if_neg (by rw [hfk]; exact fun e => S12.out e.symm), List.append_nil]
        have HFK := Lib.hid hfk
        have HME := Lib.hid hme
        have HOT := Lib.hid hot
        have ha1 := below_alloc wr (.cells #[.int .i64 oa, .int .i64 tb] 38)
        have ha2 := below_alloc (wr.alloc (.cells #[.int .i64 oa, .int .i64 tb] 38)) (.cells #[.int .i64 ((k : Nat) : Int)] 3)
        have HP := Lib.hid (box_below ha2 (block_new wr (.cells #[.int .i64 oa, .int .i64 tb] 38) _ rfl))
        have HX2 := Lib.hid (box_below ha2 (box_below ha1 HX.out))
        have HY2 := Lib.hid (box_below ha2 (box_below ha1 HY.out))
        have RA2 := Lib.hid ((RA.out.below ha1).below ha2)
        have RB2 := Lib.hid ((RB.out.below ha1).below ha2)
        have K2 := Lib.hid ((K.out.grown ha1).grown ha2)
        have HSZ := Lib.hid (And.intro ha1.size ha2.size)
        have HLK : Hid (∀ x, x < wr.heap.size → x < ((wr.alloc (.cells #[.int .i64 oa, .int .i64 tb] 38)).alloc (.cells #[.int .i64 ((k : Nat) : Int)] 3)).heap.size) := Lib.hid (fun x hx => by simp; omega)
        have HLEN : Hid ((cat (qs (spq wh (oa, ob) (oa, tb)) (oa, tb) k)).length ≤ 64) := Lib.hid (by have := qs_len (spq wh (oa, ob) (oa, tb)) (oa, tb) k; simp [cat]; omega)
        have HLT := Lib.hid (And.intro RA.out.lt RB.out.lt)
        have hsrc := src_new TI_ok (wr.alloc (.cells #[.int .i64 oa, .int .i64 tb] 38)) ((k : Nat) : Int) #[.int .i64 ((k : Nat) : Int)] rfl
        rw [World.size_alloc] at hsrc
        have HSRC := Lib.hid hsrc
        clear hfk hme hot ha1 ha2 hsrc
        go_wp2_with (at_builtin; refine wpList_append_g TI_ok rfl (.tmp 68) (.tmp 70) rfl rfl rfl RB2.out (K2.out.below.size) HSRC.out (Nat.le_trans (Nat.add_le_add_right HLEN.out 1) (by decide)) ?_)
        intro v' w5 ho hf hn
        rw [← HME.out] at ho
        have K3 := Lib.hid (K2.out.row RB2.out hf)
        have RB3 := Lib.hid ho
        have hot3 := RA2.out.fr hf (fun g hg hm => by
          have hm' : (Value.slice ba bn bc).ownBlock = some g := by simpa using hm
          exact ND.out g hg hm')
        rw [← HOT.out] at hot3
        have RA3 := Lib.hid hot3
        have ND3 : Hid (∀ g, (Value.slice aa an ac).ownBlock = some g → (v' : Value).ownBlock ≠ some g) := Lib.hid (fun g hg hg' => by
          rcases hn g hg' with h | h
          · exact ND.out g hg h
          · have h1 := (HLT.out.1 g hg).2
            have h2 := HLK.out g h1
            omega)
        have nb : ∀ {x : Nat} {y : Array Value}, ((wr.alloc (.cells #[.int .i64 oa, .int .i64 tb] 38)).alloc (.cells #[.int .i64 ((k : Nat) : Int)] 3)).heap[x]? = some (.cells y 38 (0, 0)) → w5.heap[x]? = some (.cells y 38 (0, 0)) := fun h => hf.same h (fun hm => RB2.out.ne h (by decide) _ (by simpa using hm) rfl)
        have HP := Lib.hid (nb HP.out)
        have HX := Lib.hid (nb HX2.out)
        have HY := Lib.hid (nb HY2.out)
        obtain ⟨va', vn', vc', rfl⟩ := row_form ho
        have RA := RA3
        have RB := RB3
        clear ho hf hn nb hot3 HX2 HY2 RA2 RB2 K2 HSZ HLEN HLT ND K HLK HSRC RA3 RB3
        generalize wr.heap.size = xp at *
        have p0 := cells_cell (o := 0) HP.out rfl
        have p1 := cells_cell (o := 1) HP.out rfl
        have pl := lt_of_block HP.out
        go_wp2_with (go_at_call 21; fail)
        clear p0 p1 pl
        have hc := pkStart_any K3.out.K (by have := CC.out; omega) ((k : Nat) : Int)
        rw [zQ_start hlt] at hc
        simp only at hc
        refine hc.mono ?_
        rintro e w6 ⟨rfl, hL, hF⟩
        have K4 := Lib.hid (K3.out.did hL hF)
        have HX := Lib.hid (hF.block HX.out (by decide) (by decide))
        have HY := Lib.hid (hF.block HY.out (by decide) (by decide))
        have HP := Lib.hid (hF.block HP.out (by decide) (by decide))
        have RA := Lib.hid (hF.row RA.out (by decide) (by decide))
        have RB := Lib.hid (hF.row RB.out (by decide) (by decide))
        clear hc hL hF K3
        have p0 := cells_cell (o := 0) HP.out rfl
        have p1 := cells_cell (o := 1) HP.out rfl
        have pl := lt_of_block HP.out
        go_wp2_with (go_at_call 24; fail)
        clear p0 p1 pl
        have hc := pkPark_any K4.out.K (by have := CC.out; omega) ((k : Nat) : Int) (spq wh (oa, ob) (oa, tb) k)
        rw [zQ_park hlt (by rw [HFK.out]; exact S2.out), HFK.out] at hc
        simp only at hc
        refine hc.mono ?_
        rintro e w7 ⟨rfl, hL, hF⟩
        have K5 := Lib.hid (K4.out.did hL hF)
        have HX := Lib.hid (hF.block HX.out (by decide) (by decide))
        have HY := Lib.hid (hF.block HY.out (by decide) (by decide))
        have HP := Lib.hid (hF.block HP.out (by decide) (by decide))
        have RA := Lib.hid (hF.row RA.out (by decide) (by decide))
        have RB := Lib.hid (hF.row RB.out (by decide) (by decide))
        clear hc hL hF K4
        go_wp2_with (go_at_call 19; fail)
        have hc := pkWhere_any K5.out.K ((k : Nat) : Int)
        rw [zQ_where hlt, HFK.out] at hc
        simp only at hc
        refine hc.mono ?_
        rintro e w8 ⟨rfl, hg⟩
        have hbb := hg.below.trans ((below_alloc w8 (.cells #[.int .i64 oa, .int .i64 tb] 38)).mono hg.below.size)
        have K6 := Lib.hid (K5.out.grown hbb)
        have HX := Lib.hid (box_below hbb HX.out)
        have HY := Lib.hid (box_below hbb HY.out)
        have RA := Lib.hid (RA.out.below hbb)
        have RB := Lib.hid (RB.out.below hbb)
        have HP := Lib.hid (box_below hg.below HP.out)
        clear hc hg hbb K5
        have p0 := cells_cell (o := 0) HP.out rfl
        have p1 := cells_cell (o := 1) HP.out rfl
        have pl := lt_of_block HP.out
        go_wp2_with fail
        go_roundw
        case rel => exact ⟨k + 1, by omega, by go_num, Lib.hid (K6.out.mono (by omega)), RA, RB, ND3, HX, HY⟩
        case measure => simp [intOf]; omega
    · obtain rfl : k = c := by omega
      clear ND hnq
      have HLA : Hid ((cat (qs (spq wh (oa, ob) (oa, tb)) (oa, ob) k)).length ≤ 64) := Lib.hid (by have := qs_len (spq wh (oa, ob) (oa, tb)) (oa, ob) k; simp [cat]; omega)
      have HLB : Hid ((cat (qs (spq wh (oa, ob) (oa, tb)) (oa, tb) k)).length ≤ 64) := Lib.hid (by have := qs_len (spq wh (oa, ob) (oa, tb)) (oa, tb) k; simp [cat]; omega)
      have x0 := cells_cell (o := 0) HX.out rfl
      have x1 := cells_cell (o := 1) HX.out rfl
      have xl := lt_of_block HX.out
      have y0 := cells_cell (o := 0) HY.out rfl
      have y1 := cells_cell (o := 1) HY.out rfl
      have yl := lt_of_block HY.out
      go_wp2_with (go_at_call 28; fail)
      clear x0 x1 xl y0 y1 yl
      refine (waits_yes (s := (oa, ob)) K.out.K (by have := CC.out; omega) S1.out (by rw [show wt (oa, ob) (zQ (spq wh (oa, ob) (oa, tb)) k k).L = _ from wt_qL _ _ _]; exact RA.out.src TI_ok)).mono ?_
      rintro e w5 ⟨rfl, hb⟩
      have K := Lib.hid (K.out.grown hb)
      have HX := Lib.hid (box_below hb HX.out)
      have HY := Lib.hid (box_below hb HY.out)
      have RA := Lib.hid (RA.out.below hb)
      have RB := Lib.hid (RB.out.below hb)
      clear hb
      have x0 := cells_cell (o := 0) HX.out rfl
      have x1 := cells_cell (o := 1) HX.out rfl
      have xl := lt_of_block HX.out
      have y0 := cells_cell (o := 0) HY.out rfl
      have y1 := cells_cell (o := 1) HY.out rfl
      have yl := lt_of_block HY.out
      go_wp2_with (go_at_call 28; fail)
      clear x0 x1 xl y0 y1 yl
      refine (waits_yes (s := (oa, tb)) K.out.K (by have := CC.out; omega) S2.out (by rw [show wt (oa, tb) (zQ (spq wh (oa, ob) (oa, tb)) k k).L = _ from wt_qL _ _ _]; exact RB.out.src TI_ok)).mono ?_
      rintro e w6 ⟨rfl, hb⟩
      have K := Lib.hid (K.out.grown hb)
      have HX := Lib.hid (box_below hb HX.out)
      have HY := Lib.hid (box_below hb HY.out)
      have RA := Lib.hid (RA.out.below hb)
      have RB := Lib.hid (RB.out.below hb)
      clear hb
      have x0 := cells_cell (o := 0) HX.out rfl
      have x1 := cells_cell (o := 1) HX.out rfl
      have xl := lt_of_block HX.out
      have y0 := cells_cell (o := 0) HY.out rfl
      have y1 := cells_cell (o := 1) HY.out rfl
      have yl := lt_of_block HY.out
      go_wp2_with (go_at_call 13; fail)
      clear x0 x1 xl y0 y1 yl
      refine (pkReady_any K.out.K (by have := CC.out; omega)).mono ?_
      rintro e w7 ⟨r_, rfl, hr, hb⟩
      have K := Lib.hid (K.out.grown hb)
      have HX := Lib.hid (box_below hb HX.out)
      have HY := Lib.hid (box_below hb HY.out)
      have RA := Lib.hid (RA.out.below hb)
      have RB := Lib.hid (RB.out.below hb)
      obtain ⟨ra, rc, rfl, -, -⟩ := hr.form
      clear hr
      clear hb
      simp only [show (zQ (spq wh (oa, ob) (oa, tb)) k k).R = [] from rfl, List.length_nil]
      have x0 := cells_cell (o := 0) HX.out rfl
      have x1 := cells_cell (o := 1) HX.out rfl
      have xl := lt_of_block HX.out
      have y0 := cells_cell (o := 0) HY.out rfl
      have y1 := cells_cell (o := 1) HY.out rfl
      have yl := lt_of_block HY.out
      go_wp2_with (go_at_call 17; fail)
      clear x0 x1 xl y0 y1 yl
      have hc := pkWakeAll_any K.out.K (by have := CC.out; omega) (oa, tb)
      rw [wkaq S2.out] at hc
      simp only at hc
      refine hc.mono ?_
      rintro e w8 ⟨v_, rfl, hr, hL, hF⟩
      have K := Lib.hid (K.out.did hL hF)
      have HX := Lib.hid (hF.block HX.out (by decide) (by decide))
      have HY := Lib.hid (hF.block HY.out (by decide) (by decide))
      have RA := Lib.hid (hF.row RA.out (by decide) (by decide))
      have RB := Lib.hid (hF.row RB.out (by decide) (by decide))
      obtain ⟨xa, xn, xc, rfl⟩ := row_form hr
      have RX := Lib.hid hr
      clear hr hL hF hc
      have x0 := cells_cell (o := 0) HX.out rfl
      have x1 := cells_cell (o := 1) HX.out rfl
      have xl := lt_of_block HX.out
      have y0 := cells_cell (o := 0) HY.out rfl
      have y1 := cells_cell (o := 1) HY.out rfl
      have yl := lt_of_block HY.out
      go_wp2_with (go_at_call 29; fail)
      clear x0 x1 xl y0 y1 yl
      refine (same_yes (RX.out.src TI_ok) (RB.out.src TI_ok) (by have := HLB.out; omega)).mono ?_
      rintro e w9 ⟨rfl, hg⟩
      have K := Lib.hid (K.out.grown hg.below)
      have HX := Lib.hid (box_below hg.below HX.out)
      have HY := Lib.hid (box_below hg.below HY.out)
      have RA := Lib.hid (RA.out.below hg.below)
      have RB := Lib.hid (RB.out.below hg.below)
      clear hg
      clear RX
      have x0 := cells_cell (o := 0) HX.out rfl
      have x1 := cells_cell (o := 1) HX.out rfl
      have xl := lt_of_block HX.out
      have y0 := cells_cell (o := 0) HY.out rfl
      have y1 := cells_cell (o := 1) HY.out rfl
      have yl := lt_of_block HY.out
      go_wp2_with (go_at_call 28; fail)
      clear x0 x1 xl y0 y1 yl
      refine (waits_yes (s := (oa, ob)) K.out.K (by have := CC.out; omega) S1.out (by rw [wq1 S12.out]; exact RA.out.src TI_ok)).mono ?_
      rintro e w10 ⟨rfl, hb⟩
      have K := Lib.hid (K.out.grown hb)
      have HX := Lib.hid (box_below hb HX.out)
      have HY := Lib.hid (box_below hb HY.out)
      have RA := Lib.hid (RA.out.below hb)
      have RB := Lib.hid (RB.out.below hb)
      clear hb
      have x0 := cells_cell (o := 0) HX.out rfl
      have x1 := cells_cell (o := 1) HX.out rfl
      have xl := lt_of_block HX.out
      have y0 := cells_cell (o := 0) HY.out rfl
      have y1 := cells_cell (o := 1) HY.out rfl
      have yl := lt_of_block HY.out
      go_wp2_with (go_at_call 13; fail)
      clear x0 x1 xl y0 y1 yl
      refine (pkReady_any K.out.K (by have := CC.out; omega)).mono ?_
      rintro e w11 ⟨r_, rfl, hr, hb⟩
      have K := Lib.hid (K.out.grown hb)
      have HX := Lib.hid (box_below hb HX.out)
      have HY := Lib.hid (box_below hb HY.out)
      have RA := Lib.hid (RA.out.below hb)
      have RB := Lib.hid (RB.out.below hb)
      rw [Rq1] at hr
      obtain ⟨xa, xn, xc, rfl⟩ := row_form hr
      have RX := Lib.hid hr
      clear hr
      clear hb
      have x0 := cells_cell (o := 0) HX.out rfl
      have x1 := cells_cell (o := 1) HX.out rfl
      have xl := lt_of_block HX.out
      have y0 := cells_cell (o := 0) HY.out rfl
      have y1 := cells_cell (o := 1) HY.out rfl
      have yl := lt_of_block HY.out
      go_wp2_with (go_at_call 29; fail)
      clear x0 x1 xl y0 y1 yl
      refine (same_yes (RX.out.src TI_ok) (RB.out.src TI_ok) (by have := HLB.out; omega)).mono ?_
      rintro e w12 ⟨rfl, hg⟩
      have K := Lib.hid (K.out.grown hg.below)
      have HX := Lib.hid (box_below hg.below HX.out)
      have HY := Lib.hid (box_below hg.below HY.out)
      have RA := Lib.hid (RA.out.below hg.below)
      have RB := Lib.hid (RB.out.below hg.below)
      clear hg
      clear RX
      obtain ⟨NA, hNA⟩ : ∃ N, N = (qs (spq wh (oa, ob) (oa, tb)) (oa, ob) k).length := ⟨_, rfl⟩
      have HNA := Lib.hid hNA
      obtain ⟨a1, a2, e1, -, -⟩ := RA.out.form
      simp only [Value.slice.injEq] at e1
      have hNA2 : an = NA := by rw [e1.2.1, hNA]; simp [cat]
      subst hNA2
      clear e1 hNA
      have hNA64 : ((an : Nat) : Int) ≤ 64 := by have := HLA.out; have h2 := HNA.out; simp [cat] at this; omega
      have x0 := cells_cell (o := 0) HX.out rfl
      have x1 := cells_cell (o := 1) HX.out rfl
      have xl := lt_of_block HX.out
      have y0 := cells_cell (o := 0) HY.out rfl
      have y1 := cells_cell (o := 1) HY.out rfl
      have yl := lt_of_block HY.out
      go_wp2_with fail
      clear x0 x1 xl y0 y1 yl
      go_loopw [148] (fun i wr => ∃ j : Nat, j ≤ an ∧ i = .int .i64 ((j : Nat) : Int) ∧ Hid (KL w wr l (((zQ (spq wh (oa, ob) (oa, tb)) k k).leaves (qs (spq wh (oa, ob) (oa, tb)) (oa, tb) k)).leaves ((qs (spq wh (oa, ob) (oa, tb)) (oa, ob) k).take j)) (2 * k + 64 + j)) ∧ Hid (Row TI wr w.heap.size (.slice aa an ac) (cat (qs (spq wh (oa, ob) (oa, tb)) (oa, ob) k))) ∧ Hid (Row TI wr w.heap.size (.slice ba bn bc) (cat (qs (spq wh (oa, ob) (oa, tb)) (oa, tb) k))) ∧
        Hid (wr.heap[zz]? = some (.cells #[.int .i64 oa, .int .i64 ob] 38 (0, 0))) ∧ Hid (wr.heap[zz + 1]? = some (.cells #[.int .i64 oa, .int .i64 tb] 38 (0, 0)))) (fun i _ => an - (intOf i).toNat)
      case atStart => exact ⟨0, Nat.zero_le _, rfl, K, RA, RB, HX, HY⟩
      case round =>
        clear K RA RB HX HY
        obtain ⟨j, hj, rfl, K, RA, RB, HX, HY⟩ := hrel
        by_cases hlt2 : j < an
        · have hjn : j < (qs (spq wh (oa, ob) (oa, tb)) (oa, ob) k).length := by rw [← HNA.out]; exact hlt2
          have hjc : j < (cat (qs (spq wh (oa, ob) (oa, tb)) (oa, ob) k)).length := by simp [cat]; exact hjn
          obtain ⟨g0, o1, c1, e1, _, _, l1, k1⟩ := Src.int (RA.out.src TI_ok) hjc
          simp only [Value.slice.injEq] at e1
          obtain ⟨rfl, -, -⟩ := e1
          have hck : (cat (qs (spq wh (oa, ob) (oa, tb)) (oa, ob) k))[j] = (((qs (spq wh (oa, ob) (oa, tb)) (oa, ob) k)[j] : Nat) : Int) := by simp [cat]
          rw [hck] at k1
          have q3 : (j : Int) < (an : Int) := by omega
          have hwk : Hid _ := Lib.hid (pkWake_any K.out.K (by have := CC.out; omega) (oa, ob))
          rw [wkq S12.out S1.out hjn] at hwk
          simp only at hwk
          generalize (qs (spq wh (oa, ob) (oa, tb)) (oa, ob) k)[j] = x at *
          clear hjn hjc hck
          have x0 := cells_cell (o := 0) HX.out rfl
          have x1 := cells_cell (o := 1) HX.out rfl
          have xl := lt_of_block HX.out
          have y0 := cells_cell (o := 0) HY.out rfl
          have y1 := cells_cell (o := 1) HY.out rfl
          have yl := lt_of_block HY.out
          go_wp2_with (go_at_call 16; fail)
          clear x0 x1 xl y0 y1 yl
          refine hwk.out.mono ?_
          rintro e v5 ⟨rfl, hL, hF⟩
          have K2 := Lib.hid (K.out.did hL hF)
          have HX := Lib.hid (hF.block HX.out (by decide) (by decide))
          have HY := Lib.hid (hF.block HY.out (by decide) (by decide))
          have RA := Lib.hid (hF.row RA.out (by decide) (by decide))
          have RB := Lib.hid (hF.row RB.out (by decide) (by decide))
          clear hwk hL hF K k1 l1
          go_wp2_with fail
          go_roundw
          case rel => exact ⟨j + 1, by omega, by go_num, K2, RA, RB, HX, HY⟩
          case measure => simp [intOf]; omega
        · obtain rfl : j = an := by omega
          have hK := K.out
          rw [List.take_of_length_le (by rw [← HNA.out]; exact Nat.le_refl _)] at hK
          have K := Lib.hid hK
          clear hK
          have x0 := cells_cell (o := 0) HX.out rfl
          have x1 := cells_cell (o := 1) HX.out rfl
          have xl := lt_of_block HX.out
          have y0 := cells_cell (o := 0) HY.out rfl
          have y1 := cells_cell (o := 1) HY.out rfl
          have yl := lt_of_block HY.out
          go_wp2_with (go_at_call 16; fail)
          clear x0 x1 xl y0 y1 yl
          have hc := pkWake_any K.out.K (by have := CC.out; omega) (oa, ob)
          rw [wkq_end S12.out S1.out] at hc
          simp only at hc
          refine hc.mono ?_
          rintro e v5 ⟨rfl, hL, hF⟩
          have K := Lib.hid (K.out.did hL hF)
          have RA := Lib.hid (hF.row RA.out (by decide) (by decide))
          have RB := Lib.hid (hF.row RB.out (by decide) (by decide))
          clear hL hF hc HX HY
          go_wp2_with (go_at_call 13; fail)
          refine (pkReady_any K.out.K (by have := CC.out; omega)).mono ?_
          rintro e v6 ⟨r_, rfl, hr, hb⟩
          rw [Rq_end S12.out] at hr
          obtain ⟨xa, xn, xc, rfl⟩ := row_form hr
          have RX := Lib.hid (hr.lower K.out.below.size)
          have K := Lib.hid (K.out.grown hb)
          have RA := Lib.hid (RA.out.below hb)
          have RLT := Lib.hid (hr.lt)
          have RLB : Hid (∀ g, (Value.slice ba bn bc).ownBlock = some g → g < v5.heap.size) := Lib.hid (fun g hg => (RB.out.lt g hg).2)
          have RB := Lib.hid (RB.out.below hb)
          clear hr hb
          have HLL : Hid ((cat (qs (spq wh (oa, ob) (oa, tb)) (oa, tb) k)).length + (cat (qs (spq wh (oa, ob) (oa, tb)) (oa, ob) k)).length ≤ 1000000) := Lib.hid (by have := HLA.out; have := HLB.out; omega)
          go_wp2_with (at_builtin; refine wpList_unguard rfl ?_; refine wpList_append_g TI_ok rfl (.tmp 177) (.tmp 178) rfl rfl rfl RB.out K.out.below.size (RA.out.src TI_ok) HLL.out ?_)
          intro v' v7 ho hf hn
          have K := Lib.hid (K.out.row RB.out hf)
          have RY := Lib.hid ho
          have RX := Lib.hid (RX.out.fr hf (fun g hg hm => by have h1 := RLB.out g (by simpa using hm); have h2 := (RLT.out g hg).1; omega))
          obtain ⟨ya, yn, yc, rfl⟩ := row_form ho
          clear ho hf hn RA RB RLT RLB
          go_wp2_with (go_at_call 29; fail)
          refine (same_yes (RX.out.src TI_ok) (RY.out.src TI_ok) (by rw [List.length_append]; exact HLL.out)).mono ?_
          rintro e v8 ⟨rfl, hg⟩
          have K := Lib.hid (K.out.grown hg.below)
          clear hg RX RY
          go_wp2_with (go_at_call 8; fail)
          refine (known_any _ (HM.out.below K.out.below HM.out.lt)).mono ?_
          rintro e v9 ⟨rfl, hb⟩
          have K := Lib.hid (K.out.grown hb)
          go_wp2_with fail
          go_ret
          exact ⟨rfl, K.out.below⟩
theorem parkQueues_walk (c wh : Int) (oa ob ta tb : Int) (w : World) (h1 : (Lit.int .i64 c).wf = true) (h2 : (Lit.int .u64 wh).wf = true) (h3 : (Lit.int .i64 oa).wf = true) (h4 : (Lit.int .i64 ob).wf = true) (h5 : (Lit.int .i64 ta).wf = true) (h6 : (Lit.int .i64 tb).wf = true) (hmv : MvAt w) :
    Calls Tryd.prog 6 #[.int .i64 c, .int .u64 wh, .agg #[.int .i64 oa, .int .i64 ob], .agg #[.int .i64 ta, .int .i64 tb]] w fun e w' => e = .returned (.bool true) ∧ Below w.heap.size w w' := by
  by_cases c1 : c < 1
  · exact pq_1 c wh oa ob ta tb w hmv c1
  by_cases c2 : 64 < c
  · exact pq_2 c wh oa ob ta tb w hmv c2
  have c3 : 1 ≤ c := by omega
  have c4 : c ≤ 64 := by omega
  by_cases s1 : SpOk (oa, ob)
  case neg => exact pq_3 c wh oa ob ta tb w hmv c3 c4 s1
  by_cases s2 : SpOk (ta, tb)
  case neg => exact pq_4 c wh oa ob ta tb w hmv c3 c4 s1 s2
  by_cases ea : oa = ta
  · by_cases eb : ob = tb
    · exact pq_5 c wh oa ob ta tb w hmv c3 c4 s1 s2 ea eb
    · exact pq_main2 c wh oa ob ta tb w hmv c3 c4 s1 s2 (fun e => eb (Prod.mk.inj e).2) ea
  · exact pq_main c wh oa ob ta tb w hmv c3 c4 s1 s2 (fun e => ea (Prod.mk.inj e).1) ea
end Go.Proofs.YtcdimopiaanfbaaDoor
