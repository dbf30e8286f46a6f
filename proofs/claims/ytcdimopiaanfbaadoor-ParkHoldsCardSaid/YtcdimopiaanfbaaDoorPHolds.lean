/- The walk of ParkHolds. -/
import Derived.Test.YtcdimopiaanfbaaDoorPHEarly
import Derived.Deep.DeepCutAuto
import Derived.Deep.CutBlock
namespace Go.Proofs.YtcdimopiaanfbaaDoor
open Go.RowKit Go.Sort
set_option linter.unusedVariables false
set_option linter.unusedSimpArgs false

set_option maxRecDepth 100000 in
set_option maxHeartbeats 6400000 in
theorem ph_main (c : Int) (a : Option Addr) (len cap : Nat) (oa ob ta tb : Int) (w : World) (hmv : MvAt w) (hacts : IsActs9 w a len cap) (hl : len ≤ 80) (h1 : 1 ≤ c) (h2 : c ≤ 64) (s1 : SpOk (oa, ob)) (s2 : SpOk (ta, tb)) : Calls Tryd.prog 7 #[.int .i64 c, .slice a len cap, .agg #[.int .i64 oa, .int .i64 ob], .agg #[.int .i64 ta, .int .i64 tb]] w fun e w' => e = .returned (.bool true) ∧ Below w.heap.size w w' := by
  have HM := Lib.hid hmv
  clear hmv
  have HB0 : Hid (Below w.heap.size w ((w.alloc (.cells #[.int .i64 oa, .int .i64 ob] 38)).alloc (.cells #[.int .i64 ta, .int .i64 tb] 38))) := Lib.hid (((Grn.refl w).alloc _).alloc _).below
  have HX : Hid (((w.alloc (.cells #[.int .i64 oa, .int .i64 ob] 38)).alloc (.cells #[.int .i64 ta, .int .i64 tb] 38)).heap[w.heap.size]? = some (.cells #[.int .i64 oa, .int .i64 ob] 38 (0, 0))) := Lib.hid (((below_alloc _ _).block _ (by simp)).trans (block_new _ _ _ rfl))
  have HY : Hid (((w.alloc (.cells #[.int .i64 oa, .int .i64 ob] 38)).alloc (.cells #[.int .i64 ta, .int .i64 tb] 38)).heap[w.heap.size + 1]? = some (.cells #[.int .i64 ta, .int .i64 tb] 38 (0, 0))) := Lib.hid (block_new _ _ _ (by simp))
  have l1 : (len : Int) ≤ 80 := by omega
  have l2 : decide (80 < (len : Int)) = false := decide_eq_false (by omega)
  have l3 : decide (80 < len) = false := decide_eq_false (by omega)
  have c1d : decide (c < 1) = false := decide_eq_false (by omega)
  have c2d : decide (64 < c) = false := decide_eq_false (by omega)
  have S1 := Lib.hid s1
  have S2 := Lib.hid s2
  clear s1 s2
  have HACT := Lib.hid hacts
  have HLEN := Lib.hid hl
  have CC : Hid (∃ n : Nat, c = ((n : Nat) : Int) ∧ 1 ≤ n ∧ n ≤ 64) := Lib.hid ⟨c.toNat, by omega, by omega, by omega⟩
  clear hacts hl h1 h2
  go_enter Tryd.func7, Tryd.ntmps7
  go_wp2_with (go_at_call 27; fail)
  refine (g9Spot_yes _ S1.out).mono ?_
  rintro e w2 ⟨rfl, hg1⟩
  have HB1 := Lib.hid (HB0.out.trans (hg1.below.mono HB0.out.size))
  have HX := Lib.hid (box_below hg1.below HX.out)
  have HY := Lib.hid (box_below hg1.below HY.out)
  clear hg1
  have x0 := cells_cell (o := 0) HX.out rfl
  have x1 := cells_cell (o := 1) HX.out rfl
  have xl := lt_of_block HX.out
  have y0 := cells_cell (o := 0) HY.out rfl
  have y1 := cells_cell (o := 1) HY.out rfl
  have yl := lt_of_block HY.out
  go_wp2_with (go_at_call 27; fail)
  refine (g9Spot_yes _ S2.out).mono ?_
  rintro e w3 ⟨rfl, hg2⟩
  have HB2 := Lib.hid (HB1.out.trans (hg2.below.mono HB1.out.size))
  have HX := Lib.hid (box_below hg2.below HX.out)
  have HY := Lib.hid (box_below hg2.below HY.out)
  clear hg2
  have x0 := cells_cell (o := 0) HX.out rfl
  have x1 := cells_cell (o := 1) HX.out rfl
  have xl := lt_of_block HX.out
  have y0 := cells_cell (o := 0) HY.out rfl
  have y1 := cells_cell (o := 1) HY.out rfl
  have yl := lt_of_block HY.out
  go_wp2_with (go_at_call 9; fail)
  have hB := HB2.out
  clear c1d c2d l2 l3
  obtain ⟨c, rfl, n1, n2⟩ := CC.out
  refine (pkNew_ok (B := w.heap.size) (S := fun x => w.heap.size ≤ x) w3 (HM.out.below hB HM.out.lt) hB.size HM.out.lt (fun x hx => hx) (fun x hx => Nat.le_trans hB.size hx) c n1 n2).mono ?_
  rintro e w4 ⟨l, rfl, hL, hb⟩
  have HS0 : Hid (HL w w4 l (Z0 c) 0 (oa, ob) (.slice none 0 0)) := Lib.hid ⟨kl_new hB hL hb, fun x hx => (by cases hx), OR.nil _ _⟩
  have HX := Lib.hid (box_below hb HX.out)
  have HY := Lib.hid (box_below hb HY.out)
  have HC64 := Lib.hid (And.intro n1 n2)
  have cI : ((c : Nat) : Int) ≤ 64 := by omega
  clear hL hb hB HB0 HB1 HB2 x0 x1 xl y0 y1 yl CC n1 n2
  generalize hzz : w.heap.size = zz at *
  have HZZ := Lib.hid hzz
  clear hzz
  go_wp2_with fail
  go_loopw [11, 65] (fun q i wr => ∃ (k : Nat) (z : Zt), k ≤ len ∧ i = .int .i64 ((k : Nat) : Int) ∧ z.S.length = c ∧ Hid (HL w wr l z k (oa, ob) q) ∧ Hid (wr.heap[zz]? = some (.cells #[.int .i64 oa, .int .i64 ob] 38 (0, 0))) ∧ Hid (wr.heap[zz + 1]? = some (.cells #[.int .i64 ta, .int .i64 tb] 38 (0, 0)))) (fun _ i _ => len - (intOf i).toNat)
  case atStart => exact ⟨0, Z0 c, Nat.zero_le _, rfl, by simp [Z0], HS0, HX, HY⟩
  case round =>
    clear HS0 HX HY
    obtain ⟨k, z, hk, rfl, hzc, HS, HX, HY⟩ := hrel
    by_cases hlt : k < len
    · rcases HACT.out with h0 | ⟨ab, off, rfl, _, hblt, hcs⟩
      · omega
      · obtain ⟨a0, a1, a2, a3, c0, c1, c2, c3, -⟩ := hcs k hlt
        have hbw := HS.out.K.below
        have c0 : wr.cell? ⟨ab, off + k * 4, none⟩ = some (.int .i64 a0) := (hbw.cell (p := ⟨ab, off + k * 4, none⟩) hblt).trans c0
        have c1 : wr.cell? ⟨ab, off + k * 4 + 1, none⟩ = some (.int .i64 a1) := (hbw.cell (p := ⟨ab, off + k * 4 + 1, none⟩) hblt).trans c1
        have c2 : wr.cell? ⟨ab, off + k * 4 + 2, none⟩ = some (.int .i64 a2) := (hbw.cell (p := ⟨ab, off + k * 4 + 2, none⟩) hblt).trans c2
        have c3 : wr.cell? ⟨ab, off + k * 4 + 3, none⟩ = some (.int .i64 a3) := (hbw.cell (p := ⟨ab, off + k * 4 + 3, none⟩) hblt).trans c3
        have habl : ab < wr.heap.size := Nat.lt_of_lt_of_le hblt hbw.size
        have i3 : (k : Int) < (len : Int) := by omega
        obtain ⟨qa, qc, rfl, -, -⟩ := HS.out.q.form
        obtain ⟨N, hN⟩ : ∃ N, N = (cat (wt (oa, ob) z.L)).length := ⟨_, rfl⟩
        rw [← hN] at HS ⊢
        have HN := Lib.hid hN
        have HN64 : Hid (N ≤ 64) := Lib.hid (by have h1 := wt_len (oa, ob) z.L; have h2 := HS.out.K.K.zk.l; rw [hN]; simp [cat]; omega)
        have iN : (N : Int) ≤ 64 := by have := HN64.out; omega
        clear hN hcs hblt hbw
        have y0 := cells_cell (o := 0) HY.out rfl
        have y1 := cells_cell (o := 1) HY.out rfl
        have yl := lt_of_block HY.out
        go_wp2_with (go_at_call 14; fail)
        clear y0 y1 yl
        have ha := below_alloc wr (.cells #[.int .i64 a0, .int .i64 a1, .int .i64 a2, .int .i64 a3] 40)
        have HA := Lib.hid (block_new wr (.cells #[.int .i64 a0, .int .i64 a1, .int .i64 a2, .int .i64 a3] 40) _ rfl)
        have HX := Lib.hid (box_below ha HX.out)
        have HY := Lib.hid (box_below ha HY.out)
        have HS := Lib.hid (HS.out.grown ha)
        clear ha c0 c1 c2 c3 habl
        generalize wr.alloc (.cells #[.int .i64 a0, .int .i64 a1, .int .i64 a2, .int .i64 a3] 40) = W0 at *
        generalize wr.heap.size = B at *
        have HQB : Hid (∀ x ∈ blk (.slice qa N qc), x < W0.heap.size) := Lib.hid (fun x hx => (HS.out.q.blk x hx).2.1)
        refine (pkWaiting_yes HS.out.K.K (by have := HLEN.out; omega) S2.out).mono ?_
        rintro e w5 ⟨bv, rfl, hr, hb⟩
        have HS := Lib.hid (HS.out.grown hb)
        have HX := Lib.hid (box_below hb HX.out)
        have HY := Lib.hid (box_below hb HY.out)
        have HA := Lib.hid (box_below hb HA.out)
        obtain ⟨ba, bn, bc, rfl⟩ := row_form hr
        have RBE : Hid (Row TI w5 W0.heap.size (.slice ba bn bc) (cat (wt (ta, tb) z.L))) := Lib.hid hr
        clear hr hb
        have b0 := cells_cell (o := 0) HA.out rfl
        have b1 := cells_cell (o := 1) HA.out rfl
        have b2 := cells_cell (o := 2) HA.out rfl
        have b3 := cells_cell (o := 3) HA.out rfl
        have bl := lt_of_block HA.out
        go_upto_block 2 with (fail)
        clear b0 b1 b2 b3 bl
        have HBE0 : Hid ((oa, ob) ≠ (ta, tb) → cat (wt (ta, tb) z.L) = []) := Lib.hid (fun hne => by rw [wt_none HS.out.ao hne]; rfl)
        go_cut [11] (fun s1 wx => ∃ z' : Zt, z'.S.length = c ∧ Hid (HL w wx l z' (k + 1) (oa, ob) s1) ∧ Hid (wx.heap[zz]? = some (.cells #[.int .i64 oa, .int .i64 ob] 38 (0, 0))) ∧ Hid (wx.heap[zz + 1]? = some (.cells #[.int .i64 ta, .int .i64 tb] 38 (0, 0))) ∧ Hid (Row TI wx 0 (.slice ba bn bc) (cat (wt (ta, tb) z.L))))
        case first =>
          by_cases q0 : a0 = 0
          · as_aux_lemma =>
            subst q0
            have b0 := cells_cell (o := 0) HA.out rfl
            have b1 := cells_cell (o := 1) HA.out rfl
            have b2 := cells_cell (o := 2) HA.out rfl
            have b3 := cells_cell (o := 3) HA.out rfl
            have bl := lt_of_block HA.out
            go_wp2_with (go_at_call 21; fail)
            clear b0 b1 b2 b3 bl
            refine (pkStart_any HS.out.K.K (by have := HLEN.out; omega) a1).mono ?_
            rintro e w6 ⟨rfl, hL, hF⟩
            have HX := Lib.hid (hF.block HX.out (by decide) (by decide))
            have HY := Lib.hid (hF.block HY.out (by decide) (by decide))
            have HA := Lib.hid (hF.block HA.out (by decide) (by decide))
            have RBE := Lib.hid (hF.row RBE.out (by decide) (by decide))
            have HS2 := Lib.hid (HS.out.step 0 a1 hL hF)
            clear hL hF HS
            go_wp2_with fail
            go_meet
            exact ⟨_, (stepC_len _ _ _).trans hzc, HS2, HX, HY, Lib.hid (RBE.out.lower (Nat.zero_le _))⟩
          have r0 : (a0 == 0) = false := by simpa using q0
          by_cases q1 : a0 = 1
          · as_aux_lemma =>
            subst q1
            have b0 := cells_cell (o := 0) HA.out rfl
            have b1 := cells_cell (o := 1) HA.out rfl
            have b2 := cells_cell (o := 2) HA.out rfl
            have b3 := cells_cell (o := 3) HA.out rfl
            have bl := lt_of_block HA.out
            go_wp2_with (go_at_call 22; fail)
            clear b0 b1 b2 b3 bl
            refine (pkFinish_any HS.out.K.K (by have := HLEN.out; omega) a1).mono ?_
            rintro e w6 ⟨rfl, hL, hF⟩
            have HX := Lib.hid (hF.block HX.out (by decide) (by decide))
            have HY := Lib.hid (hF.block HY.out (by decide) (by decide))
            have HA := Lib.hid (hF.block HA.out (by decide) (by decide))
            have RBE := Lib.hid (hF.row RBE.out (by decide) (by decide))
            have HS2 := Lib.hid (HS.out.step 3 a1 hL hF)
            clear hL hF HS
            go_wp2_with fail
            go_meet
            exact ⟨_, (stepC_len _ _ _).trans hzc, HS2, HX, HY, Lib.hid (RBE.out.lower (Nat.zero_le _))⟩
          have r1 : (a0 == 1) = false := by simpa using q1
          by_cases q2 : a0 = 2
          · as_aux_lemma =>
            subst q2
            have b0 := cells_cell (o := 0) HA.out rfl
            have b1 := cells_cell (o := 1) HA.out rfl
            have b2 := cells_cell (o := 2) HA.out rfl
            have b3 := cells_cell (o := 3) HA.out rfl
            have bl := lt_of_block HA.out
            go_wp2_with (go_at_call 23; fail)
            clear b0 b1 b2 b3 bl
            refine (pkTurn_any HS.out.K.K (by have := HLEN.out; omega) a1).mono ?_
            rintro e w6 ⟨rfl, hL, hF⟩
            have HX := Lib.hid (hF.block HX.out (by decide) (by decide))
            have HY := Lib.hid (hF.block HY.out (by decide) (by decide))
            have HA := Lib.hid (hF.block HA.out (by decide) (by decide))
            have RBE := Lib.hid (hF.row RBE.out (by decide) (by decide))
            have HS2 := Lib.hid (HS.out.step 4 a1 hL hF)
            clear hL hF HS
            go_wp2_with fail
            go_meet
            exact ⟨_, (stepC_len _ _ _).trans hzc, HS2, HX, HY, Lib.hid (RBE.out.lower (Nat.zero_le _))⟩
          have r2 : (a0 == 2) = false := by simpa using q2
          by_cases q3 : a0 = 3
          · as_aux_lemma =>
            subst q3
            have b0 := cells_cell (o := 0) HA.out rfl
            have b1 := cells_cell (o := 1) HA.out rfl
            have b2 := cells_cell (o := 2) HA.out rfl
            have b3 := cells_cell (o := 3) HA.out rfl
            have bl := lt_of_block HA.out
            have x0 := cells_cell (o := 0) HX.out rfl
            have x1 := cells_cell (o := 1) HX.out rfl
            have xl := lt_of_block HX.out
            go_wp2_with (go_at_call 24; fail)
            clear b0 b1 b2 b3 bl x0 x1 xl
            have hc := pkPark_any HS.out.K.K (by have := HLEN.out; omega) a1 (oa, ob)
            rcases pkC_or z a1 S1.out with ⟨C, hC, e⟩ | ⟨i, rfl, e⟩
            · rw [e] at hc
              simp only at hc
              have e1 : (C == 0) = false := by simpa using hC
              refine hc.mono ?_
              rintro e w6 ⟨rfl, hL, hF⟩
              have HX := Lib.hid (hF.block HX.out (by decide) (by decide))
              have HY := Lib.hid (hF.block HY.out (by decide) (by decide))
              have HA := Lib.hid (hF.block HA.out (by decide) (by decide))
              have RBE := Lib.hid (hF.row RBE.out (by decide) (by decide))
              have HS2 : Hid (HL w w6 l z (k + 1) (oa, ob) (.slice qa N qc)) := Lib.hid ⟨HS.out.K.did hL hF, HS.out.ao, HS.out.q.frl hF⟩
              clear hL hF HS hc
              go_wp2_with fail
              go_meet
              exact ⟨z, hzc, HS2, HX, HY, Lib.hid (RBE.out.lower (Nat.zero_le _))⟩
            · rw [e] at hc
              simp only at hc
              refine hc.mono ?_
              rintro e w6 ⟨rfl, hL, hF⟩
              have HX := Lib.hid (hF.block HX.out (by decide) (by decide))
              have HY := Lib.hid (hF.block HY.out (by decide) (by decide))
              have HA := Lib.hid (hF.block HA.out (by decide) (by decide))
              have RBE := Lib.hid (hF.row RBE.out (by decide) (by decide))
              have HK2 := Lib.hid (HS.out.K.did hL hF)
              have HQ2 := Lib.hid (HS.out.q.frl hF)
              have HAO : Hid (∀ x ∈ (z.park i (oa, ob)).L, x.2 = (oa, ob)) := Lib.hid (fun x hx => by
                rcases List.mem_append.1 (show x ∈ z.L ++ [(i, (oa, ob))] from hx) with h | h
                · exact HS.out.ao x h
                · simp at h; rw [h])
              clear hL hF HS hc
              have b0 := cells_cell (o := 0) HA.out rfl
              have b1 := cells_cell (o := 1) HA.out rfl
              have b2 := cells_cell (o := 2) HA.out rfl
              have b3 := cells_cell (o := 3) HA.out rfl
              have bl := lt_of_block HA.out
              have ha := below_alloc w6 (.cells #[.int .i64 ((i : Nat) : Int)] 3)
              have HK3 := Lib.hid (HK2.out.grown ha)
              have HQ3 := Lib.hid (HQ2.out.below ha)
              have HX := Lib.hid (box_below ha HX.out)
              have HY := Lib.hid (box_below ha HY.out)
              have RBE := Lib.hid (RBE.out.below ha)
              have hcell : (w6.alloc (.cells #[.int .i64 ((i : Nat) : Int)] 3)).cell? ⟨w6.heap.size, 0, none⟩ = some (.int .i64 ((i : Nat) : Int)) := cell_new _ _ _ _ _ _ rfl rfl
              have HCELL := Lib.hid hcell
              clear ha hcell HK2 HQ2
              go_wp2_with (at_builtin; refine wpList_append_or rfl (.tmp 105) (.tmp 108) rfl rfl rfl HQ3.out HK3.out.below.size HCELL.out (by rw [← HN.out]; have := HN64.out; omega) ?_)
              intro v' w7 ho hf
              have HF := Lib.hid hf
              have hnl : ∀ x ∈ blk (.slice qa N qc), ∃ cu, (w6.alloc (.cells #[.int .i64 ((i : Nat) : Int)] 3)).heap[x]? = some (.cells cu 3 (0, 0)) := fun x hx => (HQ3.out.blk x hx).2.2
              have nb : ∀ {x : Nat} {y : Array Value} {u : TypeId}, (w6.alloc (.cells #[.int .i64 ((i : Nat) : Int)] 3)).heap[x]? = some (.cells y u (0, 0)) → u ≠ 3 → w7.heap[x]? = some (.cells y u (0, 0)) := fun h hu => hf.same h (fun hm => by
                obtain ⟨cu, hcu⟩ := hnl _ hm
                rw [h] at hcu
                simp only [Option.some.injEq, Obj.cells.injEq] at hcu
                exact hu hcu.2.1)
              have HX := Lib.hid (nb HX.out (by decide))
              have HY := Lib.hid (nb HY.out (by decide))
              have RBE2 : Hid (Row TI w7 0 (.slice ba bn bc) (cat (wt (ta, tb) z.L))) := Lib.hid ((RBE.out.fr hf (fun g hg hm => by have h1 := (RBE.out.lt g hg).1; have h2 := HQB.out g hm; omega)).lower (Nat.zero_le _))
              have HS2 : Hid (HL w w7 l (z.park i (oa, ob)) (k + 1) (oa, ob) v') := Lib.hid ⟨HK3.out.or HQ3.out hf, HAO.out, by rw [park_wt]; exact ho⟩
              obtain ⟨va, vc, rfl, -, -⟩ := ho.form
              clear ho hf hnl nb HK3 HQ3 HCELL HAO HF RBE b0 b1 b2 b3 bl
              go_wp2_with fail
              go_meet
              exact ⟨_, by simp [Zt.park]; exact hzc, HS2, HX, HY, RBE2⟩
          have r3 : (a0 == 3) = false := by simpa using q3
          by_cases q4 : a0 = 4
          · as_aux_lemma =>
            subst q4
            have hc := pkWake_any HS.out.K.K (by have := HLEN.out; omega) (oa, ob)
            rcases wkC_or z S1.out with ⟨hw, e⟩ | ⟨i, ns, hw, e⟩
            · rw [e] at hc
              simp only at hc
              have hN0 : N = 0 := by rw [HN.out, hw]; rfl
              subst hN0
              have x0 := cells_cell (o := 0) HX.out rfl
              have x1 := cells_cell (o := 1) HX.out rfl
              have xl := lt_of_block HX.out
              go_wp2_with (go_at_call 16; fail)
              clear x0 x1 xl
              refine hc.mono ?_
              rintro e w6 ⟨rfl, hL, hF⟩
              have HX := Lib.hid (hF.block HX.out (by decide) (by decide))
              have HY := Lib.hid (hF.block HY.out (by decide) (by decide))
              have RBE := Lib.hid (hF.row RBE.out (by decide) (by decide))
              have HS2 : Hid (HL w w6 l z (k + 1) (oa, ob) (.slice qa 0 qc)) := Lib.hid ⟨HS.out.K.did hL hF, HS.out.ao, HS.out.q.frl hF⟩
              clear hL hF HS hc hw
              go_wp2_with fail
              go_meet
              exact ⟨z, hzc, HS2, HX, HY, Lib.hid (RBE.out.lower (Nat.zero_le _))⟩
            · rw [e] at hc
              simp only at hc
              have hq := HS.out.q
              rw [hw] at hq
              obtain ⟨g0, o0, rfl, hN1, hqc, -, -, -⟩ := OR.tail (x := ((i : Nat) : Int)) (X := cat ns) hq
              have HW := Lib.hid hw
              have HQ := Lib.hid hq
              have hNS : (cat ns).length = ns.length := by simp [cat]
              rw [hNS] at hN1
              subst hN1
              have x0 := cells_cell (o := 0) HX.out rfl
              have x1 := cells_cell (o := 1) HX.out rfl
              have xl := lt_of_block HX.out
              go_wp2_with (go_at_call 16; fail)
              clear x0 x1 xl
              refine hc.mono ?_
              rintro e w6 ⟨rfl, hL, hF⟩
              have HX := Lib.hid (hF.block HX.out (by decide) (by decide))
              have HY := Lib.hid (hF.block HY.out (by decide) (by decide))
              have RBE := Lib.hid (hF.row RBE.out (by decide) (by decide))
              have HK2 := Lib.hid (HS.out.K.did hL hF)
              obtain ⟨g1, o1, e1, -, -, hgl, hgc, hq2⟩ := OR.tail (x := ((i : Nat) : Int)) (X := cat ns) (HQ.out.frl hF)
              simp only [Option.some.injEq, Addr.mk.injEq, and_true] at e1
              obtain ⟨rfl, rfl⟩ := e1
              rw [hNS] at hq2
              have hq3 : OR w6 w.heap.size (.slice (some ⟨g0, o0, none⟩) (ns.length + 1) qc) (((i : Nat) : Int) :: cat ns) := HQ.out.frl hF
              have HWT := Lib.hid (leave_wt HS.out.K.K.zk.nd HW.out)
              have HAO := Lib.hid (leave_ao HS.out.ao i)
              have HQ2 := Lib.hid hq2
              have HQ3 := Lib.hid hq3
              clear hL hF HS hc hw hq HW HQ hq2 hq3 HN
              rcases Nat.lt_or_ge 1 qc with hq1 | hq1
              · have HS2 : Hid (HL w w6 l (z.leave i) (k + 1) (oa, ob) (.slice (some ⟨g0, o0 + 1, none⟩) ns.length (qc - 1))) := Lib.hid ⟨HK2.out, HAO.out, by rw [HWT.out]; exact HQ2.out⟩
                have f1 : ¬ qc - 1 = 0 := by omega
                have f2 : ¬ qc ≤ 1 := by omega
                have f3 : ¬ qc = 1 := by omega
                have f4 : (qc - 1 == 0) = false := by simp; omega
                clear HQ2 HQ3 HK2 HWT HAO hNS
                generalize ns.length = n0 at *
                go_wp2_with fail
                go_meet
                exact ⟨z.leave i, (show (z.S.set i 1).length = c by rw [List.length_set]; exact hzc), HS2, HX, HY, Lib.hid (RBE.out.lower (Nat.zero_le _))⟩
              · obtain rfl : qc = 1 := by omega
                have hns : ns = [] := by
                  have h1 := HQ3.out.form
                  obtain ⟨_, c9, e9, h9, _⟩ := h1
                  simp only [Value.slice.injEq, List.length_cons] at e9 h9
                  exact List.eq_nil_of_length_eq_zero (by omega)
                subst hns
                have HS2 : Hid (HL w w6 l (z.leave i) (k + 1) (oa, ob) (.slice (some ⟨g0, o0, none⟩) 0 0)) := Lib.hid ⟨HK2.out, HAO.out, by rw [HWT.out]; exact HQ3.out.shut⟩
                clear HQ2 HQ3 HK2 HWT HAO hNS
                go_wp2_with fail
                go_meet
                exact ⟨z.leave i, (show (z.S.set i 1).length = c by rw [List.length_set]; exact hzc), HS2, HX, HY, Lib.hid (RBE.out.lower (Nat.zero_le _))⟩
          have r4 : (a0 == 4) = false := by simpa using q4
          by_cases q5 : a0 = 5
          · as_aux_lemma =>
            subst q5
            have hc := pkWake_any HS.out.K.K (by have := HLEN.out; omega) (oa, ob)
            rcases wkC_or z S1.out with ⟨hw, e⟩ | ⟨i, ns, hw, e⟩
            · rw [e] at hc
              simp only at hc
              have hN0 : N = 0 := by rw [HN.out, hw]; rfl
              subst hN0
              have x0 := cells_cell (o := 0) HX.out rfl
              have x1 := cells_cell (o := 1) HX.out rfl
              have xl := lt_of_block HX.out
              go_wp2_with (go_at_call 16; fail)
              clear x0 x1 xl
              refine hc.mono ?_
              rintro e w6 ⟨rfl, hL, hF⟩
              have HX := Lib.hid (hF.block HX.out (by decide) (by decide))
              have HY := Lib.hid (hF.block HY.out (by decide) (by decide))
              have RBE := Lib.hid (hF.row RBE.out (by decide) (by decide))
              have HS2 : Hid (HL w w6 l z (k + 1) (oa, ob) (.slice qa 0 qc)) := Lib.hid ⟨HS.out.K.did hL hF, HS.out.ao, HS.out.q.frl hF⟩
              clear hL hF HS hc hw
              go_wp2_with fail
              go_meet
              exact ⟨z, hzc, HS2, HX, HY, Lib.hid (RBE.out.lower (Nat.zero_le _))⟩
            · rw [e] at hc
              simp only at hc
              have hq := HS.out.q
              rw [hw] at hq
              obtain ⟨g0, o0, rfl, hN1, hqc, -, -, -⟩ := OR.tail (x := ((i : Nat) : Int)) (X := cat ns) hq
              have HW := Lib.hid hw
              have HQ := Lib.hid hq
              have hNS : (cat ns).length = ns.length := by simp [cat]
              rw [hNS] at hN1
              subst hN1
              have x0 := cells_cell (o := 0) HX.out rfl
              have x1 := cells_cell (o := 1) HX.out rfl
              have xl := lt_of_block HX.out
              go_wp2_with (go_at_call 16; fail)
              clear x0 x1 xl
              refine hc.mono ?_
              rintro e w6 ⟨rfl, hL, hF⟩
              have HX := Lib.hid (hF.block HX.out (by decide) (by decide))
              have HY := Lib.hid (hF.block HY.out (by decide) (by decide))
              have RBE := Lib.hid (hF.row RBE.out (by decide) (by decide))
              have HK2 := Lib.hid (HS.out.K.did hL hF)
              obtain ⟨g1, o1, e1, -, -, hgl, hgc, hq2⟩ := OR.tail (x := ((i : Nat) : Int)) (X := cat ns) (HQ.out.frl hF)
              simp only [Option.some.injEq, Addr.mk.injEq, and_true] at e1
              obtain ⟨rfl, rfl⟩ := e1
              rw [hNS] at hq2
              have hq3 : OR w6 w.heap.size (.slice (some ⟨g0, o0, none⟩) (ns.length + 1) qc) (((i : Nat) : Int) :: cat ns) := HQ.out.frl hF
              have HWT := Lib.hid (leave_wt HS.out.K.K.zk.nd HW.out)
              have HAO := Lib.hid (leave_ao HS.out.ao i)
              have HQ2 := Lib.hid hq2
              have HQ3 := Lib.hid hq3
              clear hL hF HS hc hw hq HW HQ hq2 hq3 HN
              rcases Nat.lt_or_ge 1 qc with hq1 | hq1
              · have HS2 : Hid (HL w w6 l (z.leave i) (k + 1) (oa, ob) (.slice (some ⟨g0, o0 + 1, none⟩) ns.length (qc - 1))) := Lib.hid ⟨HK2.out, HAO.out, by rw [HWT.out]; exact HQ2.out⟩
                have f1 : ¬ qc - 1 = 0 := by omega
                have f2 : ¬ qc ≤ 1 := by omega
                have f3 : ¬ qc = 1 := by omega
                have f4 : (qc - 1 == 0) = false := by simp; omega
                clear HQ2 HQ3 HK2 HWT HAO hNS
                generalize ns.length = n0 at *
                go_wp2_with fail
                go_meet
                exact ⟨z.leave i, (show (z.S.set i 1).length = c by rw [List.length_set]; exact hzc), HS2, HX, HY, Lib.hid (RBE.out.lower (Nat.zero_le _))⟩
              · obtain rfl : qc = 1 := by omega
                have hns : ns = [] := by
                  have h1 := HQ3.out.form
                  obtain ⟨_, c9, e9, h9, _⟩ := h1
                  simp only [Value.slice.injEq, List.length_cons] at e9 h9
                  exact List.eq_nil_of_length_eq_zero (by omega)
                subst hns
                have HS2 : Hid (HL w w6 l (z.leave i) (k + 1) (oa, ob) (.slice (some ⟨g0, o0, none⟩) 0 0)) := Lib.hid ⟨HK2.out, HAO.out, by rw [HWT.out]; exact HQ3.out.shut⟩
                clear HQ2 HQ3 HK2 HWT HAO hNS
                go_wp2_with fail
                go_meet
                exact ⟨z.leave i, (show (z.S.set i 1).length = c by rw [List.length_set]; exact hzc), HS2, HX, HY, Lib.hid (RBE.out.lower (Nat.zero_le _))⟩
          have r5 : (a0 == 5) = false := by simpa using q5
          by_cases q6 : a0 = 6
          · as_aux_lemma =>
            subst q6
            have hnq := neq_spot_same
            have hc := pkLeave_any HS.out.K.K (by have := HLEN.out; omega) a1
            rcases lvC_or HS.out.K.K.zk HS.out.ao a1 with ⟨C, hC, e⟩ | ⟨i, rfl, e⟩
            · rw [e] at hc
              simp only at hc
              have e1 : (C != 0) = true := by simpa using hC
              have b0 := cells_cell (o := 0) HA.out rfl
              have b1 := cells_cell (o := 1) HA.out rfl
              have b2 := cells_cell (o := 2) HA.out rfl
              have b3 := cells_cell (o := 3) HA.out rfl
              have bl := lt_of_block HA.out
              go_wp2_with (go_at_call 18; fail)
              clear b0 b1 b2 b3 bl
              refine hc.mono ?_
              rintro e w6 ⟨rfl, hL, hF⟩
              have hba := below_alloc w6 (.cells #[.int .i64 0, .int .i64 0] 38)
              have HX := Lib.hid (hF.block HX.out (by decide) (by decide))
              have HY := Lib.hid (hF.block HY.out (by decide) (by decide))
              have HS2 : Hid (HL w (w6.alloc (.cells #[.int .i64 0, .int .i64 0] 38)) l z (k + 1) (oa, ob) (.slice qa N qc)) := Lib.hid ((HL.mk (HS.out.K.did hL hF) HS.out.ao (HS.out.q.frl hF)).grown hba)
              have HX := Lib.hid (box_below hba HX.out)
              have HY := Lib.hid (box_below hba HY.out)
              clear hL hF HS hc hba
              rw [HN.out] at HS2
              go_wp2_with fail
              go_roundw
              case rel => exact ⟨k + 1, z, by omega, by go_num, hzc, by rw [HN.out]; exact HS2, HX, HY⟩
              case measure => simp [intOf]; omega
            · rw [e] at hc
              simp only at hc
              have b0 := cells_cell (o := 0) HA.out rfl
              have b1 := cells_cell (o := 1) HA.out rfl
              have b2 := cells_cell (o := 2) HA.out rfl
              have b3 := cells_cell (o := 3) HA.out rfl
              have bl := lt_of_block HA.out
              go_wp2_with (go_at_call 18; fail)
              clear b0 b1 b2 b3 bl
              refine hc.mono ?_
              rintro e w6 ⟨rfl, hL, hF⟩
              have hba := below_alloc w6 (.cells #[.int .i64 oa, .int .i64 ob] 38)
              have HX := Lib.hid (hF.block HX.out (by decide) (by decide))
              have HY := Lib.hid (hF.block HY.out (by decide) (by decide))
              have HA := Lib.hid (hF.block HA.out (by decide) (by decide))
              have RBE := Lib.hid (hF.row RBE.out (by decide) (by decide))
              have HX := Lib.hid (box_below hba HX.out)
              have HY := Lib.hid (box_below hba HY.out)
              have HA := Lib.hid (box_below hba HA.out)
              have RBE := Lib.hid (RBE.out.below hba)
              have HK2 := Lib.hid ((HS.out.K.did hL hF).grown hba)
              have HQ2 := Lib.hid ((HS.out.q.frl hF).below hba)
              have HAO := Lib.hid (leave_ao HS.out.ao i)
              clear hL hF HS hc
              have x0 := cells_cell (o := 0) HX.out rfl
              have x1 := cells_cell (o := 1) HX.out rfl
              have xl := lt_of_block HX.out
              go_wp2_with fail
              clear x0 x1 xl
              clear hba
              generalize w6.alloc (.cells #[.int .i64 oa, .int .i64 ob] 38) = w7 at *
              generalize w6.heap.size = y6 at *
              obtain ⟨X, hX⟩ : ∃ X, X = cat (wt (oa, ob) z.L) := ⟨_, rfl⟩
              rw [← hX] at HQ2 HN
              have HXX := Lib.hid hX
              clear hX
              go_loopw [20, 156] (fun r j wx => ∃ m : Nat, m ≤ N ∧ j = .int .i64 ((m : Nat) : Int) ∧ Hid (KL w wx l (z.leave i) (k + 1)) ∧ Hid (Row TI wx w7.heap.size r (woR ((i : Nat) : Int) (X.take m))) ∧ Hid (OR wx w.heap.size (.slice qa N qc) X) ∧ Hid (w7.heap.size ≤ wx.heap.size) ∧
                Hid (wx.heap[zz]? = some (.cells #[.int .i64 oa, .int .i64 ob] 38 (0, 0))) ∧ Hid (wx.heap[zz + 1]? = some (.cells #[.int .i64 ta, .int .i64 tb] 38 (0, 0))) ∧ Hid (wx.heap[B]? = some (.cells #[.int .i64 6, .int .i64 ((i : Nat) : Int), .int .i64 a2, .int .i64 a3] 40 (0, 0))) ∧ Hid (Row TI wx W0.heap.size (.slice ba bn bc) (cat (wt (ta, tb) z.L)))) (fun _ j _ => N - (intOf j).toNat)
              case atStart => exact ⟨0, Nat.zero_le _, rfl, HK2, Lib.hid (Row.nil _ _), HQ2, Lib.hid (Nat.le_refl _), HX, HY, HA, RBE⟩
              case round =>
                have HQO : Hid (∀ x ∈ blk (.slice qa N qc), x < w7.heap.size) := Lib.hid (fun x hx => (HQ2.out.blk x hx).2.1)
                have HRO : Hid (∀ x, (Value.slice ba bn bc).ownBlock = some x → x < w7.heap.size) := Lib.hid (fun x hx => (RBE.out.lt x hx).2)
                have HK7 : Hid (w.heap.size ≤ w7.heap.size) := Lib.hid HK2.out.below.size
                clear HK2 HQ2 HX HY HA RBE
                obtain ⟨m, hm, rfl, HK2, RR, HQ2, HSZ, HX, HY, HA, RBE⟩ := hrel
                obtain ⟨ra, rn, rc, rfl⟩ := row_form RR.out
                by_cases hmN : m < N
                · have hmX : m < X.length := by rw [← HN.out]; exact hmN
                  obtain ⟨g0, o1, c1, e1, _, _, l1, k1⟩ := Src.int HQ2.out.src hmX
                  simp only [Value.slice.injEq] at e1
                  obtain ⟨rfl, -, -⟩ := e1
                  have hnx := Lib.hid (woR_next (n := ((i : Nat) : Int)) hmX)
                  have q7 : (m : Int) < (N : Int) := by omega
                  generalize X[m] = x at *
                  have b0 := cells_cell (o := 0) HA.out rfl
                  have b1 := cells_cell (o := 1) HA.out rfl
                  have b2 := cells_cell (o := 2) HA.out rfl
                  have b3 := cells_cell (o := 3) HA.out rfl
                  have bl := lt_of_block HA.out
                  by_cases hx : x = ((i : Nat) : Int)
                  · subst hx
                    have RR2 : Hid (Row TI wr w7.heap.size (.slice ra rn rc) (woR ((i : Nat) : Int) (X.take (m + 1)))) := Lib.hid (by rw [hnx.out, if_pos rfl, List.append_nil]; exact RR.out)
                    clear RR hmX
                    go_wp2_with fail
                    go_roundw
                    case rel => exact ⟨m + 1, by omega, by go_num, HK2, RR2, HQ2, HSZ, HX, HY, HA, RBE⟩
                    case measure => simp [intOf]; omega
                  · have hx1 : (x != ((i : Nat) : Int)) = true := by simpa using hx
                    have hba := below_alloc wr (.cells #[.int .i64 x] 3)
                    have hrow := Lib.hid (RR.out.below hba)
                    have HL := Lib.hid (show (woR ((i : Nat) : Int) (X.take m)).length + 1 ≤ 1000000 by have h1 := List.length_filter_le (fun x => decide (x ≠ ((i : Nat) : Int))) (X.take m); rw [List.length_take] at h1; unfold woR; have := HN64.out; omega)
                    have HK3 := Lib.hid (HK2.out.grown hba)
                    have HQ3 := Lib.hid (HQ2.out.below hba)
                    have RBE3 := Lib.hid (RBE.out.below hba)
                    have HX3 := Lib.hid (box_below hba HX.out)
                    have HY3 := Lib.hid (box_below hba HY.out)
                    have HA3 := Lib.hid (box_below hba HA.out)
                    have HSZ3 : Hid (w7.heap.size ≤ (wr.alloc (.cells #[.int .i64 x] 3)).heap.size) := Lib.hid (Nat.le_trans HSZ.out hba.size)
                    clear hmX hba HK2 HQ2 RBE HX HY HA HSZ RR
                    go_wp2_with (at_builtin; refine wpList_append_g TI_ok rfl (.tmp 164) (.tmp 166) rfl rfl rfl hrow.out HSZ3.out (src_new TI_ok wr x #[.int .i64 x] rfl) HL.out ?_)
                    intro v' w8 ho hf hnr
                    have hmem : ∀ y, y ∈ (Value.slice ra rn rc).ownBlock.toList → w7.heap.size ≤ y ∧ ∃ cu, (wr.alloc (.cells #[.int .i64 x] 3)).heap[y]? = some (.cells cu 3 (0, 0)) := fun y hy => by
                      have hy' : (Value.slice ra rn rc).ownBlock = some y := by simpa using hy
                      refine ⟨(hrow.out.lt y hy').1, ?_⟩
                      rcases hrow.out.2 with ⟨h0, _⟩ | ⟨g9, cap9, cu9, h9, _, hh9, _⟩
                      · rw [h0] at hy'; cases hy'
                      · rw [h9] at hy'; cases hy'; exact ⟨_, hh9⟩
                    have nb : ∀ {x' : Nat} {y : Array Value} {u : TypeId}, (wr.alloc (.cells #[.int .i64 x] 3)).heap[x']? = some (.cells y u (0, 0)) → u ≠ 3 → w8.heap[x']? = some (.cells y u (0, 0)) := fun h hu => hf.same h (fun hm => by
                      obtain ⟨_, cu, hcu⟩ := hmem _ hm
                      rw [h] at hcu
                      simp only [Option.some.injEq, Obj.cells.injEq] at hcu
                      exact hu hcu.2.1)
                    have HX := Lib.hid (nb HX3.out (by decide))
                    have HY := Lib.hid (nb HY3.out (by decide))
                    have HA := Lib.hid (nb HA3.out (by decide))
                    have HK2 := Lib.hid (HK3.out.row (hrow.out.lower HK7.out) hf)
                    have RBE : Hid (Row TI w8 W0.heap.size (.slice ba bn bc) (cat (wt (ta, tb) z.L))) := Lib.hid (RBE3.out.fr hf (fun g hg hm => by have h1 := HRO.out g hg; have h2 := (hmem g hm).1; omega))
                    have HQ2 : Hid (OR w8 w.heap.size (.slice (some ⟨g0, o1, none⟩) N qc) X) := Lib.hid (HQ3.out.fr hf (fun y hy hm => by have h1 := HQO.out y hy; have h2 := (hmem y hm).1; omega))
                    rw [show woR ((i : Nat) : Int) (X.take m) ++ [x] = woR ((i : Nat) : Int) (X.take (m + 1)) by rw [hnx.out, if_neg hx]] at ho
                    have RR := Lib.hid ho
                    have HSZ : Hid (w7.heap.size ≤ w8.heap.size) := Lib.hid (Nat.le_trans HSZ3.out hf.size)
                    clear ho hf hnr hrow nb hmem HK3 HQ3 RBE3 HX3 HY3 HA3 HSZ3
                    go_wp2_with fail
                    go_roundw
                    case rel => exact ⟨m + 1, by omega, by go_num, HK2, RR, HQ2, HSZ, HX, HY, HA, RBE⟩
                    case measure => simp [intOf]; omega
                · obtain rfl : m = N := by omega
                  have hRR := RR.out
                  rw [List.take_of_length_le (by rw [← HN.out]; exact Nat.le_refl _), HXX.out, ← leave_wt2] at hRR
                  have HS2 : Hid (HL w wr l (z.leave i) (k + 1) (oa, ob) (.slice ra rn rc)) := Lib.hid ⟨HK2.out, HAO.out, OR.of_row (hRR.lower HK7.out)⟩
                  clear hRR RR HK2 HQ2
                  go_wp2_with fail
                  go_meet
                  exact ⟨z.leave i, (show (z.S.set i 1).length = c by rw [List.length_set]; exact hzc), HS2, HX, HY, Lib.hid (RBE.out.lower (Nat.zero_le _))⟩
          have r6 : (a0 == 6) = false := by simpa using q6
          as_aux_lemma =>
            have b0 := cells_cell (o := 0) HA.out rfl
            have b1 := cells_cell (o := 1) HA.out rfl
            have b2 := cells_cell (o := 2) HA.out rfl
            have b3 := cells_cell (o := 3) HA.out rfl
            have bl := lt_of_block HA.out
            have HS2 := Lib.hid (HS.out.mono (Nat.le_succ k))
            clear HS
            go_wp2_with fail
            go_meet
            exact ⟨z, hzc, HS2, HX, HY, Lib.hid (RBE.out.lower (Nat.zero_le _))⟩
        case rest => as_aux_lemma =>
          clear HA HS HN HN64 iN HQB
          obtain ⟨z', hzc', HS, HX, HY, RBE⟩ := hcut
          have HBE := HBE0
          obtain ⟨qa', qc', rfl, -, -⟩ := HS.out.q.form
          obtain ⟨M, hM⟩ : ∃ M, M = (cat (wt (oa, ob) z'.L)).length := ⟨_, rfl⟩
          rw [← hM] at HS ⊢
          have HM' := Lib.hid hM
          have HM64 : Hid (M ≤ 64) := Lib.hid (by have h1 := wt_len (oa, ob) z'.L; have h2 := HS.out.K.K.zk.l; rw [hM]; simp [cat]; omega)
          have iM : (M : Int) ≤ 64 := by have := HM64.out; omega
          clear hM
          have y0 := cells_cell (o := 0) HY.out rfl
          have y1 := cells_cell (o := 1) HY.out rfl
          have yl := lt_of_block HY.out
          go_wp2_with (go_at_call 14; fail)
          clear y0 y1 yl
          refine (pkWaiting_yes HS.out.K.K (by have := HLEN.out; omega) S2.out).mono ?_
          rintro e w6 ⟨cv, rfl, hr, hb⟩
          have HS := Lib.hid (HS.out.grown hb)
          have HX := Lib.hid (box_below hb HX.out)
          have HY := Lib.hid (box_below hb HY.out)
          have RBE := Lib.hid (RBE.out.below hb)
          have hAFT : (oa, ob) ≠ (ta, tb) → cat (wt (ta, tb) z'.L) = [] := fun hne => by rw [wt_none HS.out.ao hne]; rfl
          have HAFT := Lib.hid hAFT
          obtain ⟨ca, cc, rfl, -, -⟩ := hr.form
          obtain ⟨CN, hCN⟩ : ∃ n, n = (cat (wt (ta, tb) z'.L)).length := ⟨_, rfl⟩
          rw [← hCN] at hr ⊢
          have HCN := Lib.hid hCN
          have RAF := Lib.hid hr
          clear hr hb hAFT hCN
          have x0 := cells_cell (o := 0) HX.out rfl
          have x1 := cells_cell (o := 1) HX.out rfl
          have xl := lt_of_block HX.out
          have y0 := cells_cell (o := 0) HY.out rfl
          have y1 := cells_cell (o := 1) HY.out rfl
          have yl := lt_of_block HY.out
          go_upto_region 44 with (fail)
          go_cut [200] (fun b200 wx => b200 = .bool false ∧ Hid (HL w wx l z' (k + 1) (oa, ob) (.slice qa' M qc')) ∧ Hid (wx.heap[zz]? = some (.cells #[.int .i64 oa, .int .i64 ob] 38 (0, 0))) ∧ Hid (wx.heap[zz + 1]? = some (.cells #[.int .i64 ta, .int .i64 tb] 38 (0, 0))))
          case first =>
            by_cases e1 : oa = ta
            · by_cases e2 : ob = tb
              · as_aux_lemma =>
                rw [← e1] at y0
                rw [← e2] at y1
                clear e1 e2
                go_wp2_with (go_at_call 28; fail)
                refine (waits_yes (s := (oa, ob)) HS.out.K.K (by have := HLEN.out; omega) S1.out HS.out.q.src).mono ?_
                rintro e w8 ⟨rfl, hb⟩
                have HS := Lib.hid (HS.out.grown hb)
                have HX := Lib.hid (box_below hb HX.out)
                have HY := Lib.hid (box_below hb HY.out)
                clear hb
                go_wp2_with fail
                go_meet
                exact ⟨rfl, HS, HX, HY⟩
              · as_aux_lemma =>
                rw [← e1] at y0
                have f1 : ¬ ob = tb := e2
                have f2 : (ob == tb) = false := by simpa using e2
                have hne : ((oa, ob) : Sp) ≠ (ta, tb) := fun e => e2 (Prod.mk.inj e).2
                clear e1 e2
                have ca0 := HAFT.out hne
                have cb0 := HBE.out hne
                have hCN0 : CN = 0 := by rw [HCN.out, ca0]; rfl
                subst hCN0
                have ra := RAF.out.src TI_ok
                rw [ca0] at ra
                have rb := RBE.out.src TI_ok
                rw [cb0] at rb
                have RA0 := Lib.hid ra
                have RB0 := Lib.hid rb
                clear ca0 cb0 ra rb hne RAF RBE
                go_wp2_with (go_at_call 29; fail)
                refine (same_yes RB0.out RA0.out (by decide)).mono ?_
                rintro e w7 ⟨rfl, hg⟩
                have HS := Lib.hid (HS.out.grown hg.below)
                have HX := Lib.hid (box_below hg.below HX.out)
                have HY := Lib.hid (box_below hg.below HY.out)
                clear hg RA0 RB0 x0 x1 xl y0 y1 yl
                have x0 := cells_cell (o := 0) HX.out rfl
                have x1 := cells_cell (o := 1) HX.out rfl
                have xl := lt_of_block HX.out
                go_wp2_with (go_at_call 28; fail)
                refine (waits_yes (s := (oa, ob)) HS.out.K.K (by have := HLEN.out; omega) S1.out HS.out.q.src).mono ?_
                rintro e w8 ⟨rfl, hb⟩
                have HS := Lib.hid (HS.out.grown hb)
                have HX := Lib.hid (box_below hb HX.out)
                have HY := Lib.hid (box_below hb HY.out)
                clear hb
                go_wp2_with fail
                go_meet
                exact ⟨rfl, HS, HX, HY⟩
            · as_aux_lemma =>
              have f1 : ¬ oa = ta := e1
              have f2 : (oa == ta) = false := by simpa using e1
              have hne : ((oa, ob) : Sp) ≠ (ta, tb) := fun e => e1 (Prod.mk.inj e).1
              clear e1
              have ca0 := HAFT.out hne
              have cb0 := HBE.out hne
              have hCN0 : CN = 0 := by rw [HCN.out, ca0]; rfl
              subst hCN0
              have ra := RAF.out.src TI_ok
              rw [ca0] at ra
              have rb := RBE.out.src TI_ok
              rw [cb0] at rb
              have RA0 := Lib.hid ra
              have RB0 := Lib.hid rb
              clear ca0 cb0 ra rb hne RAF RBE
              go_wp2_with (go_at_call 29; fail)
              refine (same_yes RB0.out RA0.out (by decide)).mono ?_
              rintro e w7 ⟨rfl, hg⟩
              have HS := Lib.hid (HS.out.grown hg.below)
              have HX := Lib.hid (box_below hg.below HX.out)
              have HY := Lib.hid (box_below hg.below HY.out)
              clear hg RA0 RB0 x0 x1 xl y0 y1 yl
              have x0 := cells_cell (o := 0) HX.out rfl
              have x1 := cells_cell (o := 1) HX.out rfl
              have xl := lt_of_block HX.out
              go_wp2_with (go_at_call 28; fail)
              refine (waits_yes (s := (oa, ob)) HS.out.K.K (by have := HLEN.out; omega) S1.out HS.out.q.src).mono ?_
              rintro e w8 ⟨rfl, hb⟩
              have HS := Lib.hid (HS.out.grown hb)
              have HX := Lib.hid (box_below hb HX.out)
              have HY := Lib.hid (box_below hb HY.out)
              clear hb
              go_wp2_with fail
              go_meet
              exact ⟨rfl, HS, HX, HY⟩
          case rest => as_aux_lemma =>
            obtain ⟨rfl, HS, HX, HY⟩ := hcut
            clear RBE RAF HCN HAFT HBE x0 x1 xl y0 y1 yl
            go_wp2_with fail
            go_loopw [24] (fun i wx => ∃ n : Nat, n ≤ c ∧ i = .int .i64 ((n : Nat) : Int) ∧ Hid (HL w wx l z' (k + 1) (oa, ob) (.slice qa' M qc')) ∧ Hid (wx.heap[zz]? = some (.cells #[.int .i64 oa, .int .i64 ob] 38 (0, 0))) ∧ Hid (wx.heap[zz + 1]? = some (.cells #[.int .i64 ta, .int .i64 tb] 38 (0, 0)))) (fun i _ => c - (intOf i).toNat)
            case atStart => exact ⟨0, Nat.zero_le _, rfl, HS, HX, HY⟩
            case round =>
              clear HS HX HY
              obtain ⟨n, hn, rfl, HS, HX, HY⟩ := hrel
              by_cases hnc : n < c
              · have i5 : (n : Int) < (c : Int) := by omega
                go_wp2_with fail
                go_loopw [25, 208] (fun b j wx => ∃ m : Nat, m ≤ M ∧ j = .int .i64 ((m : Nat) : Int) ∧ b = .bool (decide (((n : Nat) : Int) ∈ (cat (wt (oa, ob) z'.L)).take m)) ∧ Hid (HL w wx l z' (k + 1) (oa, ob) (.slice qa' M qc')) ∧ Hid (wx.heap[zz]? = some (.cells #[.int .i64 oa, .int .i64 ob] 38 (0, 0))) ∧ Hid (wx.heap[zz + 1]? = some (.cells #[.int .i64 ta, .int .i64 tb] 38 (0, 0)))) (fun _ j _ => M - (intOf j).toNat)
                case atStart => exact ⟨0, Nat.zero_le _, rfl, by simp, HS, HX, HY⟩
                case round =>
                  clear HS HX HY
                  obtain ⟨m, hm, rfl, rfl, HS, HX, HY⟩ := hrel
                  by_cases hmM : m < M
                  · have hmX : m < (cat (wt (oa, ob) z'.L)).length := by rw [← HM'.out]; exact hmM
                    obtain ⟨g0, o1, c1, e1, _, _, l1, k1⟩ := Src.int HS.out.q.src hmX
                    simp only [Value.slice.injEq] at e1
                    obtain ⟨rfl, -, -⟩ := e1
                    have hnx : (cat (wt (oa, ob) z'.L)).take (m + 1) = (cat (wt (oa, ob) z'.L)).take m ++ [(cat (wt (oa, ob) z'.L))[m]] := List.take_succ_eq_append_getElem hmX
                    have q7 : (m : Int) < (M : Int) := by omega
                    generalize (cat (wt (oa, ob) z'.L))[m] = x at *
                    have HNX : Hid (decide (((n : Nat) : Int) ∈ (cat (wt (oa, ob) z'.L)).take (m + 1)) = (decide (((n : Nat) : Int) ∈ (cat (wt (oa, ob) z'.L)).take m) || (x == ((n : Nat) : Int)))) := Lib.hid (by
                      rw [hnx]
                      by_cases h1 : ((n : Nat) : Int) ∈ (cat (wt (oa, ob) z'.L)).take m
                      · simp [h1]
                      · by_cases h2 : x = ((n : Nat) : Int)
                        · simp [h1, h2]
                        · have h3 : ¬ ((n : Nat) : Int) = x := fun e => h2 e.symm
                          simp [h1, h2, h3])
                    clear hnx hmX
                    generalize hD : decide (((n : Nat) : Int) ∈ (cat (wt (oa, ob) z'.L)).take m) = D at *
                    clear hD
                    cases D with
                    | true =>
                      go_wp2_with fail
                      go_roundw
                      case rel => exact ⟨m + 1, by omega, by go_num, by rw [HNX.out]; rfl, HS, HX, HY⟩
                      case measure => simp [intOf]; omega
                    | false =>
                      go_wp2_with fail
                      go_roundw
                      case rel => exact ⟨m + 1, by omega, by go_num, by rw [HNX.out]; rfl, HS, HX, HY⟩
                      case measure => simp [intOf]; omega
                  · obtain rfl : m = M := by omega
                    have hpk := HS.out.parked (i := n) (by rw [hzc']; exact hnc)
                    have hst := pkState_any HS.out.K.K ((n : Nat) : Int)
                    have hsc : stC z' ((n : Nat) : Int) = (z'.S.getD n 0, 0) := by unfold stC; rw [numI_at (by rw [hzc']; exact hnc)]
                    rw [hsc] at hst
                    simp only at hst
                    rw [List.take_of_length_le (by rw [← HM'.out]; exact Nat.le_refl _)]
                    rw [← hpk]
                    have HST := Lib.hid hst
                    clear hpk hst hsc
                    generalize z'.S.getD n 0 = x at *
                    by_cases hx : x = 2
                    · subst hx
                      go_wp2_with (go_at_call 20; fail)
                      refine HST.out.mono ?_
                      rintro e w7 ⟨rfl, he⟩
                      have he := he.symm
                      subst he
                      go_wp2_with fail
                      go_roundw
                      case rel => exact ⟨n + 1, by omega, by go_num, HS, HX, HY⟩
                      case measure => simp [intOf]; omega
                    · have hx1 : (x == 2) = false := by simpa using hx
                      rw [hx1]
                      go_wp2_with (go_at_call 20; fail)
                      refine HST.out.mono ?_
                      rintro e w7 ⟨rfl, he⟩
                      have he := he.symm
                      subst he
                      go_wp2_with fail
                      go_roundw
                      case rel => exact ⟨n + 1, by omega, by go_num, HS, HX, HY⟩
                      case measure => simp [intOf]; omega
              · obtain rfl : n = c := by omega
                have hSS := HS.out
                rw [HM'.out] at hSS
                have HSS := Lib.hid hSS
                clear hSS HS
                rw [HM'.out]
                go_wp2_with fail
                go_roundw
                case rel => exact ⟨k + 1, z', by omega, by go_num, hzc', HSS, HX, HY⟩
                case measure => simp [intOf]; omega
    · obtain rfl : k = len := by omega
      go_wp2_with (go_at_call 8; fail)
      refine (known_any _ (HM.out.below HS.out.K.below HM.out.lt)).mono ?_
      rintro e v9 ⟨rfl, hb⟩
      have HS := Lib.hid (HS.out.grown hb)
      go_wp2_with fail
      go_ret
      exact ⟨rfl, HS.out.K.below⟩
theorem parkHolds_walk (c : Int) (a : Option Addr) (len cap : Nat) (oa ob ta tb : Int) (w : World) (h1 : (Lit.int .i64 c).wf = true) (hacts : IsActs9 w a len cap) (h3 : (Lit.int .i64 oa).wf = true) (h4 : (Lit.int .i64 ob).wf = true) (h5 : (Lit.int .i64 ta).wf = true) (h6 : (Lit.int .i64 tb).wf = true) (hmv : MvAt w) :
    Calls Tryd.prog 7 #[.int .i64 c, .slice a len cap, .agg #[.int .i64 oa, .int .i64 ob], .agg #[.int .i64 ta, .int .i64 tb]] w fun e w' => e = .returned (.bool true) ∧ Below w.heap.size w w' := by
  by_cases c0 : 80 < len
  · exact ph_0 c a len cap oa ob ta tb w hmv c0
  have hl : len ≤ 80 := by omega
  by_cases c1 : c < 1
  · exact ph_1 c a len cap oa ob ta tb w hmv hl c1
  by_cases c2 : 64 < c
  · exact ph_2 c a len cap oa ob ta tb w hmv hl c2
  by_cases s1 : SpOk (oa, ob)
  case neg => exact ph_3 c a len cap oa ob ta tb w hmv hl (by omega) (by omega) s1
  by_cases s2 : SpOk (ta, tb)
  case neg => exact ph_4 c a len cap oa ob ta tb w hmv hl (by omega) (by omega) s1 s2
  exact ph_main c a len cap oa ob ta tb w hmv hacts hl (by omega) (by omega) s1 s2
end Go.Proofs.YtcdimopiaanfbaaDoor
