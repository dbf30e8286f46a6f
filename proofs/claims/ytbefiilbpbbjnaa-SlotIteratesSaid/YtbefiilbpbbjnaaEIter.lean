/- The walk of SlotIterates. -/
import Derived.Test.YtbefiilbpbbjnaaETurn
import Derived.Test.YtbefiilbpbbjnaaEPlays
import Derived.Test.YtbefiilbpbbjnaaEEnd
namespace Go.Proofs.Ytbefiilbpbbjnaa
open Go.RowKit Go.Sort Go.Shelf
set_option linter.unusedVariables false
set_option linter.unusedSimpArgs false
attribute [local go_sem] Oper.semAt_some

set_option maxRecDepth 1000000 in
set_option maxHeartbeats 16000000 in
theorem slotIterates_walk (most : Int) (sa : Option Addr) (len cap : Nat) (many : Int) (w : World) (hw : (Lit.int .i64 most).wf = true) (hr : IsActs7 w sa len cap) (hm : (Lit.int .i64 many).wf = true) :
    Calls Try.prog 4 #[.int .i64 most, .slice sa len cap, .int .i64 many] w fun e w' => e = .returned (.bool true) ∧ Below w.heap.size w w' := by
  obtain ⟨W0, hW0⟩ : ∃ W0, (w.alloc (.cells #[.int .i64 many] 3)).alloc (.cells #[.bool false] 4) = W0 := ⟨_, rfl⟩
  have hb2 : Below w.heap.size w W0 := by rw [← hW0]; exact (below_alloc _ _).trans ((below_alloc _ _).mono (by simp))
  have hs2 : W0.heap.size = w.heap.size + 2 := by rw [← hW0]; simp
  have hq2 : W0.heap[w.heap.size + 1]? = some (.cells #[.bool false] 4 (0, 0)) := by rw [← hW0]; exact block_new _ _ _ (by simp)
  have hm2 : W0.heap[w.heap.size]? = some (.cells #[.int .i64 many] 3 (0, 0)) := by rw [← hW0]; exact ((below_alloc _ _).block _ (by simp)).trans (block_new _ _ _ rfl)
  by_cases hbad : 60 < len ∨ (len ≤ 60 ∧ most < 1) ∨ (len ≤ 60 ∧ 1 ≤ most ∧ 128 < most)
  · refine calls_marks Try.func4 rfl ?_
    simp only [Try.ntmps4, List.size_toArray, List.length_cons, List.length_nil, Nat.reduceAdd, Nat.reduceSub, Array.replicate_succ, Array.replicate_zero, List.push_toArray, List.append_toArray, List.nil_append, List.cons_append]
    have HB2 := Lib.hid hb2
    have HQ2 := Lib.hid hq2
    clear hb2 hq2 hm2 hr hs2
    have hcs : (∃ e1 : decide ((60 : Int) < (len : Int)) = true, True) ∨ (decide ((60 : Int) < (len : Int)) = false ∧ decide (most < 1) = true) ∨ (decide ((60 : Int) < (len : Int)) = false ∧ decide (most < 1) = false ∧ decide (128 < most) = true) := by
      rcases hbad with h | ⟨h, h'⟩ | ⟨h, h', h''⟩
      · exact .inl ⟨by simp; omega, trivial⟩
      · exact .inr (.inl ⟨by simp; omega, by simp; omega⟩)
      · exact .inr (.inr ⟨by simp; omega, by simp; omega, by simp; omega⟩)
    clear hbad
    rcases hcs with ⟨e1, _⟩ | ⟨e1, e2⟩ | ⟨e1, e2, e3⟩
    all_goals
      go_wp2_with (go_at_call 8; fail)
      clear hW0
      refine (known_any W0).mono ?_
      rintro e w1 ⟨rfl, hb⟩
      have z0 := (hb.block _ (lt_of_block HQ2.out)).trans HQ2.out
      have z1 := cells_cell z0 (o := 0) rfl
      have z2 := cells_free z0 0
      have z3 := lt_of_block z0
      go_wp2_with fail
      refine ⟨.bool true, by simp [results, Try.results4, go_sem, World.cell?_setCell_same w1 _ (.bool true) z1], rfl, ?_⟩
      exact (HB2.out.trans (hb.mono HB2.out.size)).setCell (by simp) _
  · obtain ⟨m, rfl⟩ : ∃ m : Nat, most = ((m : Nat) : Int) := ⟨most.toNat, by omega⟩
    have g1 : decide ((m : Int) < 1) = false := by simp; omega
    have g2 : decide (128 < (m : Int)) = false := by simp; omega
    have HM : Hid (1 ≤ m ∧ m ≤ 128) := Lib.hid (by omega)
    have hl : len ≤ 60 := by omega
    have hli : decide ((60 : Int) < (len : Int)) = false := by simp; omega
    have HR := Lib.hid hr
    have HB2 := Lib.hid hb2
    have HQ2 := Lib.hid hq2
    have HM2 := Lib.hid hm2
    have HS2 := Lib.hid hs2
    clear hr hb2 hq2 hm2 hs2 hbad
    refine calls_marks Try.func4 rfl ?_
    simp only [Try.ntmps4, List.size_toArray, List.length_cons, List.length_nil, Nat.reduceAdd, Nat.reduceSub, Array.replicate_succ, Array.replicate_zero, List.push_toArray, List.append_toArray, List.nil_append, List.cons_append]
    go_wp2_with (go_at_call 9; fail)
    clear hW0 g1 g2
    refine (slNew_ok W0 m HM.out.1 HM.out.2).mono ?_
    rintro e w1 ⟨t, g, rfl, hT, hb1, hlt, hlg⟩
    have HT1 := Lib.hid hT
    have HB1 := Lib.hid (HB2.out.trans (hb1.mono HB2.out.size))
    have HLT : Hid (w.heap.size ≤ t ∧ w.heap.size ≤ g) := Lib.hid (by have := HS2.out; omega)
    have HM3 := Lib.hid ((hb1.block _ (lt_of_block HM2.out)).trans HM2.out)
    have HQ3 := Lib.hid ((hb1.block _ (lt_of_block HQ2.out)).trans HQ2.out)
    have HZ1 : Hid (w.heap.size + 2 ≤ w1.heap.size) := Lib.hid (by have := hb1.size; have := HS2.out; omega)
    clear hT hb1 hlt hlg HM2 HQ2 HB2 HS2
    have hrn := Lib.hid (refNew_ok w1 m HM.out.1 HM.out.2)
    unfold rt at hrn
    go_wp2_with (go_at_call 10; fail)
    refine hrn.out.mono ?_
    rintro e w2 ⟨rfl, hg2⟩
    obtain ⟨W, hW⟩ : ∃ W, w2.alloc (.cells #[.int .i64 ((m : Nat) : Int), .slice none 0 0] 30) = W := ⟨_, rfl⟩
    have hbA : Below w1.heap.size w1 W := by rw [← hW]; exact hg2.below.trans ((below_alloc _ _).mono hg2.below.size)
    have hbox : Hid (W.heap[w2.heap.size]? = some (.cells #[.int .i64 ((m : Nat) : Int), .slice none 0 0] 30 (0, 0))) := Lib.hid (by rw [← hW]; exact block_new _ _ _ rfl)
    have HTl : Hid (w.heap.size + 2 ≤ w2.heap.size) := Lib.hid (Nat.le_trans HZ1.out hg2.below.size)
    have HS := Lib.hid (And.intro (est_new HM.out.1 HM.out.2 HT1.out HB1.out HLT.out.1 HLT.out.2 hbA) (And.intro hbox.out (And.intro ((hbA.block _ (lt_of_block HM3.out)).trans HM3.out) ((hbA.block _ (lt_of_block HQ3.out)).trans HQ3.out))))
    have HW := Lib.hid hW
    clear hg2 hbA hbox HT1 HB1 HLT hrn hW HM3 HQ3 HZ1
    go_upto_region 5 with (fail)
    rw [HW.out]
    clear HW
    have HTl' := HTl
    generalize w2.heap.size = T0 at *
    go_wp2_with fail
    go_loopw [7, 52] (fun tv i wr => ∃ (k t g c : Nat) (v : Value) (P : Tab) (L : Fds), k ≤ len ∧ tv = .pointer (some ⟨t, 0, none⟩) ∧ i = .int .i64 ((k : Nat) : Int) ∧ Hid (ESt w wr t g c m v P L k ∧ wr.heap[T0]? = some (.cells #[.int .i64 ((m : Nat) : Int), v] 30 (0, 0)) ∧ wr.heap[w.heap.size]? = some (.cells #[.int .i64 many] 3 (0, 0)) ∧ wr.heap[w.heap.size + 1]? = some (.cells #[.bool false] 4 (0, 0)))) (fun _ i _ => len - (intOf i).toNat)
    case atStart => exact ⟨0, t, g, m, _, _, [], Nat.zero_le _, rfl, rfl, HS⟩
    case round =>
      clear HS
      obtain ⟨k, t, g, c, v, P, L, hk, rfl, rfl, HD⟩ := hrel
      by_cases hlt : k < len
      · rcases HR.out with h0 | ⟨ab, off, rfl, _, hblt, hcs⟩
        · omega
        · obtain ⟨x0, x1, x2, x3, c0, c1, c2, c3, _, _, _, _⟩ := hcs k hlt
          have hbw := HD.out.1.K.below
          have c0 : wr.cell? ⟨ab, off + k * 4, none⟩ = some (.int .i64 x0) := (hbw.cell (p := ⟨ab, off + k * 4, none⟩) hblt).trans c0
          have c1 : wr.cell? ⟨ab, off + k * 4 + 1, none⟩ = some (.int .i64 x1) := (hbw.cell (p := ⟨ab, off + k * 4 + 1, none⟩) hblt).trans c1
          have c2 : wr.cell? ⟨ab, off + k * 4 + 2, none⟩ = some (.int .i64 x2) := (hbw.cell (p := ⟨ab, off + k * 4 + 2, none⟩) hblt).trans c2
          have c3 : wr.cell? ⟨ab, off + k * 4 + 3, none⟩ = some (.int .i64 x3) := (hbw.cell (p := ⟨ab, off + k * 4 + 3, none⟩) hblt).trans c3
          obtain ⟨va, vn, vc, rfl, -⟩ := HD.out.1.R.form2
          clear hcs hbw
          have hbA := below_alloc wr (.cells #[.int .i64 x0, .int .i64 x1, .int .i64 x2, .int .i64 x3] 36)
          have D1 := HD.out.1.grown hbA
          have hbox1 := (hbA.block T0 (lt_of_block HD.out.2.1)).trans HD.out.2.1
          have HM1 := Lib.hid ((hbA.block _ (lt_of_block HD.out.2.2.1)).trans HD.out.2.2.1)
          have HQ1 := Lib.hid ((hbA.block _ (lt_of_block HD.out.2.2.2)).trans HD.out.2.2.2)
          have HO2 := Lib.hid (And.intro (D1.K.T.out HM1.out (by decide)) (D1.K.T.out HQ1.out (by decide)))
          have k0 := cells_cell (o := 0) hbox1 rfl
          have k1 : (wr.alloc (.cells #[.int .i64 x0, .int .i64 x1, .int .i64 x2, .int .i64 x3] 36)).cell? ⟨T0, 1, none⟩ = some (.slice va vn vc) := cells_cell hbox1 rfl
          have HDO := Lib.hid (do_any D1 (by omega) x0 x1 x2 x3)
          have HX1 := Lib.hid hbox1
          have HO1 := Lib.hid (D1.K.T.out hbox1 (by decide))
          clear D1 hbox1 HD hbA
          unfold rt at HDO
          go_wp2_with (go_at_call 11; fail)
          clear k0 k1
          refine HDO.out.mono ?_
          rintro e w2 ⟨hFr, t', g', c', v', P', L', rfl, hD⟩
          obtain ⟨ua, un, uc, rfl, -⟩ := hD.R.form2
          have hbox2 := hFr.same HX1.out HO1.out
          have hM2 := hFr.same HM1.out HO2.out.1
          have hQ2 := hFr.same HQ1.out HO2.out.2
          have k0 := cells_cell (o := 0) hbox2 rfl
          have k1 : w2.cell? ⟨T0, 1, none⟩ = some (.slice va vn vc) := cells_cell hbox2 rfl
          have z0 := cells_free hbox2 0
          have z1 := cells_free hbox2 1
          have lT := lt_of_block hbox2
          have hf5 := (fr_setCell w2 ⟨T0, 0, none⟩ (.int .i64 ((m : Nat) : Int))).trans' (fr_setCell _ ⟨T0, 1, none⟩ (.slice ua un uc))
          have hfin : Hid (ESt w ((w2.setCell ⟨T0, 0, none⟩ (.int .i64 ((m : Nat) : Int))).setCell ⟨T0, 1, none⟩ (.slice ua un uc)) t' g' c' m (.slice ua un uc) P' L' (k + 1) ∧ ((w2.setCell ⟨T0, 0, none⟩ (.int .i64 ((m : Nat) : Int))).setCell ⟨T0, 1, none⟩ (.slice ua un uc)).heap[T0]? = some (.cells #[.int .i64 ((m : Nat) : Int), .slice ua un uc] 30 (0, 0)) ∧
              ((w2.setCell ⟨T0, 0, none⟩ (.int .i64 ((m : Nat) : Int))).setCell ⟨T0, 1, none⟩ (.slice ua un uc)).heap[w.heap.size]? = some (.cells #[.int .i64 many] 3 (0, 0)) ∧ ((w2.setCell ⟨T0, 0, none⟩ (.int .i64 ((m : Nat) : Int))).setCell ⟨T0, 1, none⟩ (.slice ua un uc)).heap[w.heap.size + 1]? = some (.cells #[.bool false] 4 (0, 0))) := Lib.hid
            ⟨hD.put hbox2 (by have := HTl'.out; omega) hf5, by simpa using cells_set (cells_set hbox2 0 (.int .i64 ((m : Nat) : Int))) 1 (.slice ua un uc), hf5.same hM2 (by have := HTl'.out; simp; omega), hf5.same hQ2 (by have := HTl'.out; simp; omega)⟩
          clear hD hFr hbox2 HDO HX1 HO1 hf5 hM2 hQ2 HM1 HQ1 HO2
          unfold rt
          go_wp2_with fail
          go_roundw
          case rel => first | exact ⟨k + 1, t', g', c', _, P', L', by omega, rfl, by go_num, hfin⟩ | ((repeat apply Exists.intro); exact ⟨⟨k + 1, t', g', c', _, P', L', by omega, rfl, by go_num, hfin⟩, rfl⟩)
          case measure => simp [intOf]; omega
      · obtain rfl : k = len := by omega
        have hkk : decide ((k : Int) < (k : Int)) = false := by simp
        obtain ⟨va, vn, vc, rfl, -⟩ := HD.out.1.R.form2
        have k0 := cells_cell (o := 0) HD.out.2.1 rfl
        have k1 : wr.cell? ⟨T0, 1, none⟩ = some (.slice va vn vc) := cells_cell HD.out.2.1 rfl
        have lT := lt_of_block HD.out.2.1
        have HFL := Lib.hid (refFiles_any (HD.out.1.R.src TF_ok) (by have := HD.out.1.l; omega) HD.out.1.rel HD.out.1.m HD.out.1.m2)
        unfold rt at HFL
        have hsn := seq_nil
        go_wp2_with (go_at_call 13; fail)
        refine HFL.out.mono ?_
        rintro e wf ⟨v1, rfl, hrf, hbf⟩
        obtain ⟨va, N, vc, rfl, hN⟩ := hrf.form2
        have HLN : Hid (N = (ents 0 P).length ∧ N ≤ 128) := Lib.hid ⟨hN, by have := ents_le 0 P; have := HD.out.1.K.T.n2; omega⟩
        clear hN
        obtain ⟨Wf, hWf⟩ : ∃ Wf, wf.alloc (.cells #[.slice va N vc] 28) = Wf := ⟨_, rfl⟩
        have hbA : Below wf.heap.size wf Wf := by rw [← hWf]; exact below_alloc _ _
        have hbF := hbf.trans (hbA.mono hbf.size)
        have HD2 := Lib.hid (HD.out.1.grown hbF)
        have HXF : Hid (Wf.heap[wf.heap.size]? = some (.cells #[.slice va N vc] 28 (0, 0))) := Lib.hid (by rw [← hWf]; exact block_new _ _ _ rfl)
        have HRF := Lib.hid ((hrf.below hbA).lower (b' := w.heap.size) HD.out.1.K.below.size)
        have HM4 := Lib.hid ((hbF.block _ (lt_of_block HD.out.2.2.1)).trans HD.out.2.2.1)
        have HQ4 := Lib.hid ((hbF.block _ (lt_of_block HD.out.2.2.2)).trans HD.out.2.2.2)
        have HWf := Lib.hid hWf
        clear hrf hbf hbA hbF HD HFL k0 k1 lT hWf HTl HTl'
        go_upto_region 13 with (fail)
        rw [HWf.out]
        clear HWf
        go_wp2_with (go_at_call 15; fail)
        refine (slAll_any HD2.out.K.T [g] (fun x hx => by simp at hx; subst hx; exact HD2.out.K.T.lg)).mono ?_
        rintro e wa ⟨B, rfl, hS, hba⟩
        have HS4 := Lib.hid hS
        have hTa : Hid (TS w (wa.alloc (.cells #[.int .i64 0] 3)) t g c B wf.heap.size wa.heap.size P P (.slice va N vc) 0 many []) := Lib.hid (by
          have hA := below_alloc wa (.cells #[.int .i64 0] 3)
          have hb3 := hba.trans (hA.mono hba.size)
          exact ⟨HD2.out.K.grown hb3, HS4.out.off hA (fun x hx => .inl hx), HRF.out.below hb3, (hb3.block _ (lt_of_block HXF.out)).trans HXF.out, (hb3.block _ (lt_of_block HM4.out)).trans HM4.out, (hb3.block _ (lt_of_block HQ4.out)).trans HQ4.out, block_new _ _ _ rfl, fun D hD => by cases hD⟩)
        clear hS hba HD2 HS4 HXF HRF HM4 HQ4
        unfold seqV
        go_wp2_with fail
        refine wp_loop_rounds 3 ?_
        generalize hV : wa.alloc (.cells #[.int .i64 0] 3) = V
        generalize hu : wa.heap.size = u
        generalize hTT : wf.heap.size = T
        rw [hV, hu, hTT] at hTa
        clear hV hu hTT
        have HT := hTa
        clear hTa
        rw [rounds_succ]
        have cu := cells_cell HT.out.bu (o := 0) rfl
        have lu := lt_of_block HT.out.bu
        go_wp2_with fail
        refine (wpIn_wide (n := 6)).1 ?_
        clear cu lu
        refine range_turn 76 77 17 18 B P 0 many rfl HT.out.S ?assign0 ?body0 ?out0
        case assign0 =>
          intro l n0 g0 v0 W K hK
          simp only [List.setIfInBounds_toArray, List.set_cons_zero, List.set_cons_succ] at hK ⊢
          gi_wp2
          exact hK
        case body0 =>
          rintro l k b x W hp hbk hkc hb3 hX hkm
          simp only [List.setIfInBounds_toArray, List.set_cons_zero, List.set_cons_succ]
          have k0 := cells_cell hkc (o := 0) rfl
          have k1 := cells_free hkc 0
          have k2 := lt_of_block hkc
          have TW := HT.out.grown hbk
          have ix := cells_cell TW.bx (o := 0) rfl
          have iu := cells_cell TW.bu (o := 0) rfl
          have im := cells_cell TW.bm (o := 0) rfl
          have x0 := cells_cell hX (o := 0) rfl
          have x1 : W.cell? ⟨b, 1, none⟩ = some (.int .i64 ((x.g : Nat) : Int)) := cells_cell hX rfl
          have lX := lt_of_block hX
          have l1 := lt_of_block TW.bm
          have l3 := lt_of_block TW.bx
          have l4 := lt_of_block TW.bu
          have m1 := lt_of_block HT.out.bm
          have m3 := lt_of_block HT.out.bx
          have m4 := lt_of_block HT.out.bu
          have n1 : ¬ w.heap.size = V.heap.size := by omega
          have n3 : ¬ T = V.heap.size := by omega
          have n4 : ¬ u = V.heap.size := by omega
          have n1' : ¬ V.heap.size = w.heap.size := by omega
          have n3' : ¬ V.heap.size = T := by omega
          have n4' : ¬ V.heap.size = u := by omega
          have hkL := (List.getElem?_eq_some_iff.1 hp).1
          obtain ⟨gs, offs, cs, hvs, hgl, r0, r1, r2, _⟩ := ((TW.R.src TF_ok).files).at hp
          simp only [Value.slice.injEq] at hvs
          obtain ⟨rfl, hNN, rfl⟩ := hvs
          have hLN := HLN.out
          have hnq := fun W => neq_fd_same W ((x.n : Nat) : Int) ((x.g : Nat) : Int)
          have e2 : ((k : Nat) : Int) < ((N : Nat) : Int) := by omega
          have e4 : ((k : Nat) : Int) ≤ 1000 := by omega
          have e5 : (0 : Int) ≤ ((k : Nat) : Int) := by omega
          have e6 : decide (((N : Nat) : Int) ≤ ((k : Nat) : Int)) = false := by simp; omega
          have e7 : ((N : Nat) : Int) ≤ 128 := by omega
          have e8 : decide (N ≤ k) = false := by simp; omega
          have hkm2 := Lib.hid hkm
          obtain ⟨xn, xg, xv, xc⟩ := x
          simp only at *
          clear TW hbk hkc hkm hp hNN hLN hX
          by_cases hmk : many ≤ ((k : Nat) : Int) + 1
          · have hmk2 : decide (many ≤ ((k : Nat) : Int) + 1) = true := by simp; omega
            gi_wp2
            refine wpIn_region_quiet_round (F := Fence.wide) rfl (by kernel_rfl) (by kernel_rfl) (by kernel_rfl) ?_
            repeat (gi_big_quiet_step (fail))
            refine wpQuietIn_nil ?_
            intro _ hw'
            obtain ⟨nq, hw''⟩ := hw'
            subst hw''
            simp only [Exit.then]
            go_at_K
            gi_wp2
            exact ⟨⟨nq, rfl⟩, rfl, rfl, hmk⟩
          · have hmk2 : decide (many ≤ ((k : Nat) : Int) + 1) = false := by simp; omega
            gi_wp2
            refine wpIn_region_quiet_round (F := Fence.wide) rfl (by kernel_rfl) (by kernel_rfl) (by kernel_rfl) ?_
            repeat (gi_big_quiet_step (fail))
            refine wpQuietIn_nil ?_
            intro _ hw'
            obtain ⟨nq, hw''⟩ := hw'
            subst hw''
            simp only [Exit.then]
            go_at_K
            gi_wp2
            exact ⟨⟨nq, rfl⟩, .inr (by omega)⟩
        rintro D0 kq W hD hkl h0 h1 hkc hbk hK
        have hkb := lt_of_block hkc
        have HTW := Lib.hid (HT.out.mark hbk (D := D0) (by omega) hK)
        clear HT hbk hK
        have k0 := cells_cell hkc (o := 0) rfl
        have ix := cells_cell HTW.out.bx (o := 0) rfl
        have iu := cells_cell HTW.out.bu (o := 0) rfl
        have im := cells_cell HTW.out.bm (o := 0) rfl
        have l1 := lt_of_block HTW.out.bm
        have l3 := lt_of_block HTW.out.bx
        have l4 := lt_of_block HTW.out.bu
        clear hkc hD
        generalize V.heap.size = kk at *
        obtain ⟨Z, hZ⟩ : ∃ Z, Z = max 1 many := ⟨_, rfl⟩
        have HMN : Hid (min ((N : Nat) : Int) Z = ((kq : Nat) : Int)) := Lib.hid (by have := h0 rfl; have := HLN.out; rw [hZ]; omega)
        have HMX : Hid (max 1 many = Z) := Lib.hid hZ.symm
        clear h0 h1 hZ
        go_wp2_with (first | (with_reducible refine wpList_unguard (o := ⟨some 116, _, _, _, _, _⟩) rfl ?_; refine wpList_max rfl (.const (.int .i64 1)) (.tmp 115) _ rfl _ _ _ rfl rfl HMX.out ?_) | (with_reducible refine wpList_unguard (o := ⟨some 117, _, _, _, _, _⟩) rfl ?_; refine wpList_min rfl (.tmp 114) (.tmp 116) _ rfl _ _ _ rfl rfl HMN.out ?_) | (go_at_call 16; fail))
        refine (HTW.out.open 77).mono ?_
        rintro e W2 ⟨r, P3, G, y, rfl, hp0, hTP⟩
        have HTP := Lib.hid hTP
        clear hTP HTW k0 ix iu im l1 l3 l4 hkb
        go_wp2_with (go_at_call 17; fail)
        refine (slAt_yes (n := 0) HTP.out.K.T hp0).mono ?_
        rintro e W3 ⟨rfl, hg3⟩
        have HTQ := Lib.hid (HTP.out.grown hg3.below)
        obtain ⟨X, hX⟩ : ∃ X, W3.alloc (.cells #[.int .i64 0, .int .i64 ((G : Nat) : Int)] 34) = X := ⟨_, rfl⟩
        have hbX : Hid (X.heap[W3.heap.size]? = some (.cells #[.int .i64 0, .int .i64 ((G : Nat) : Int)] 34 (0, 0))) := Lib.hid (by rw [← hX]; exact block_new _ _ _ rfl)
        have HTX := Lib.hid (HTQ.out.grown (show Below W3.heap.size W3 X by rw [← hX]; exact below_alloc _ _))
        have HSE := Lib.hid (slSet_yes HTX.out.K.T hp0 78)
        have HX := Lib.hid hX
        clear hg3 HTP HTQ hp0 hX
        go_upto_region 31 with (fail)
        rw [HX.out]
        clear HX
        have q0 := cells_cell hbX.out (o := 0) rfl
        have q1 := cells_cell hbX.out (o := 1) rfl
        have ql := lt_of_block hbX.out
        go_wp2_with (go_at_call 18; fail)
        refine HSE.out.mono ?_
        rintro e W4 ⟨rfl, hT4, hf4⟩
        have h1 := HTX.out.table hT4 hf4
        have H1 := Lib.hid h1
        have cu3 := cells_cell h1.bu (o := 0) rfl
        have lu3 := lt_of_block h1.bu
        clear h1 HTX HSE hT4 hf4 hbX q0 q1 ql
        go_wp2_with fail
        have HT := Lib.hid (H1.out.next 1)
        clear H1 cu3 lu3
        generalize hV : W4.alloc (.cells #[.int .i64 1] 3) = V
        generalize hu : W4.heap.size = u
        rw [hV, hu] at HT
        clear hV hu
        rw [rounds_succ]
        have cu := cells_cell HT.out.bu (o := 0) rfl
        have lu := lt_of_block HT.out.bu
        go_wp2_with fail
        refine (wpIn_wide (n := 6)).1 ?_
        clear cu lu
        refine range_turn 76 77 17 18 B P 1 many rfl HT.out.S ?assign1 ?body1 ?out1
        case assign1 =>
          intro l n0 g0 v0 W K hK
          simp only [List.setIfInBounds_toArray, List.set_cons_zero, List.set_cons_succ] at hK ⊢
          gi_wp2
          exact hK
        case body1 =>
          rintro l k b x W hp hbk hkc hb3 hX hkm
          simp only [List.setIfInBounds_toArray, List.set_cons_zero, List.set_cons_succ]
          have k0 := cells_cell hkc (o := 0) rfl
          have k1 := cells_free hkc 0
          have k2 := lt_of_block hkc
          have TW := HT.out.grown hbk
          have ix := cells_cell TW.bx (o := 0) rfl
          have iu := cells_cell TW.bu (o := 0) rfl
          have im := cells_cell TW.bm (o := 0) rfl
          have x0 := cells_cell hX (o := 0) rfl
          have x1 : W.cell? ⟨b, 1, none⟩ = some (.int .i64 ((x.g : Nat) : Int)) := cells_cell hX rfl
          have lX := lt_of_block hX
          have l1 := lt_of_block TW.bm
          have l3 := lt_of_block TW.bx
          have l4 := lt_of_block TW.bu
          have m1 := lt_of_block HT.out.bm
          have m3 := lt_of_block HT.out.bx
          have m4 := lt_of_block HT.out.bu
          have n1 : ¬ w.heap.size = V.heap.size := by omega
          have n3 : ¬ T = V.heap.size := by omega
          have n4 : ¬ u = V.heap.size := by omega
          have n1' : ¬ V.heap.size = w.heap.size := by omega
          have n3' : ¬ V.heap.size = T := by omega
          have n4' : ¬ V.heap.size = u := by omega
          have hkL := (List.getElem?_eq_some_iff.1 hp).1
          obtain ⟨gs, offs, cs, hvs, hgl, r0, r1, r2, _⟩ := ((TW.R.src TF_ok).files).at hp
          simp only [Value.slice.injEq] at hvs
          obtain ⟨rfl, hNN, rfl⟩ := hvs
          have hLN := HLN.out
          have hnq := fun W => neq_fd_same W ((x.n : Nat) : Int) ((x.g : Nat) : Int)
          have e2 : ((k : Nat) : Int) < ((N : Nat) : Int) := by omega
          have e4 : ((k : Nat) : Int) ≤ 1000 := by omega
          have e5 : (0 : Int) ≤ ((k : Nat) : Int) := by omega
          have e6 : decide (((N : Nat) : Int) ≤ ((k : Nat) : Int)) = false := by simp; omega
          have e7 : ((N : Nat) : Int) ≤ 128 := by omega
          have e8 : decide (N ≤ k) = false := by simp; omega
          have hkm2 := Lib.hid hkm
          obtain ⟨xn, xg, xv, xc⟩ := x
          simp only at *
          clear TW hbk hkc hkm hp hNN hLN hX
          gi_wp2
          refine wpIn_region_quiet_round (F := Fence.wide) rfl (by kernel_rfl) (by kernel_rfl) (by kernel_rfl) ?_
          repeat (gi_big_quiet_step (fail))
          refine wpQuietIn_nil ?_
          intro _ hw'
          obtain ⟨nq, hw''⟩ := hw'
          subst hw''
          simp only [Exit.then]
          go_at_K
          gi_wp2
          exact ⟨⟨nq, rfl⟩, .inl (by omega)⟩
        rintro D1 kq W hD hkl h0 h1 hkc hbk hK
        have hkb := lt_of_block hkc
        have HTW := Lib.hid (HT.out.mark hbk (D := D1) (by omega) hK)
        have hDD : Hid (D0 < D1) := Lib.hid (by have := lt_of_block (HT.out.ms D0 (by simp)).1; omega)
        clear HT hbk hK
        have k0 := cells_cell hkc (o := 0) rfl
        have ix := cells_cell HTW.out.bx (o := 0) rfl
        have iu := cells_cell HTW.out.bu (o := 0) rfl
        have im := cells_cell HTW.out.bm (o := 0) rfl
        have l1 := lt_of_block HTW.out.bm
        have l3 := lt_of_block HTW.out.bx
        have l4 := lt_of_block HTW.out.bu
        clear hkc hD
        generalize V.heap.size = kk at *
        have hkq : kq = N := by have := h1 (by omega); have := HLN.out; omega
        subst hkq
        clear h0 h1
        go_wp2_with (go_at_call 16; fail)
        refine (HTW.out.open 77).mono ?_
        rintro e W2 ⟨r, P3, G, y, rfl, hp0, hTP⟩
        have HTP := Lib.hid hTP
        clear hTP HTW k0 ix iu im l1 l3 l4 hkb
        go_wp2_with (go_at_call 17; fail)
        refine (slAt_yes (n := 0) HTP.out.K.T hp0).mono ?_
        rintro e W3 ⟨rfl, hg3⟩
        have HTQ := Lib.hid (HTP.out.grown hg3.below)
        obtain ⟨X, hX⟩ : ∃ X, W3.alloc (.cells #[.int .i64 0, .int .i64 ((G : Nat) : Int)] 34) = X := ⟨_, rfl⟩
        have hbX : Hid (X.heap[W3.heap.size]? = some (.cells #[.int .i64 0, .int .i64 ((G : Nat) : Int)] 34 (0, 0))) := Lib.hid (by rw [← hX]; exact block_new _ _ _ rfl)
        have HTX := Lib.hid (HTQ.out.grown (show Below W3.heap.size W3 X by rw [← hX]; exact below_alloc _ _))
        have HSE := Lib.hid (slSet_yes HTX.out.K.T hp0 78)
        have HX := Lib.hid hX
        clear hg3 HTP HTQ hp0 hX
        go_upto_region 31 with (fail)
        rw [HX.out]
        clear HX
        have q0 := cells_cell hbX.out (o := 0) rfl
        have q1 := cells_cell hbX.out (o := 1) rfl
        have ql := lt_of_block hbX.out
        go_wp2_with (go_at_call 18; fail)
        refine HSE.out.mono ?_
        rintro e W4 ⟨rfl, hT4, hf4⟩
        have h2 := HTX.out.table hT4 hf4
        have H2 := Lib.hid h2
        have cu3 := cells_cell h2.bu (o := 0) rfl
        have lu3 := lt_of_block h2.bu
        clear h2 HTX HSE hT4 hf4 hbX q0 q1 ql
        go_wp2_with fail
        have HT := Lib.hid (H2.out.next 2)
        clear H2 cu3 lu3
        generalize hV : W4.alloc (.cells #[.int .i64 2] 3) = V
        generalize hu : W4.heap.size = u
        rw [hV, hu] at HT
        clear hV hu
        rw [rounds_succ]
        have cu := cells_cell HT.out.bu (o := 0) rfl
        have lu := lt_of_block HT.out.bu
        go_wp2_with (go_at_call 8; fail)
        refine (known_any _).mono ?_
        rintro e w4 ⟨rfl, hb⟩
        have z0 := (hb.block _ (lt_of_block HT.out.bq)).trans HT.out.bq
        have z1 := cells_cell z0 (o := 0) rfl
        have z2 := cells_free z0 0
        have z3 := lt_of_block z0
        have Z0 := Lib.hid z0
        have d1 := HT.out.ms D0 (by simp)
        have d2 := HT.out.ms D1 (by simp)
        have E1 := Lib.hid (And.intro ((hb.block _ (lt_of_block d1.1)).trans d1.1) d1.2)
        have E2 := Lib.hid (And.intro ((hb.block _ (lt_of_block d2.1)).trans d2.1) d2.2)
        have EB := Lib.hid (HT.out.K.below.trans (hb.mono HT.out.K.below.size))
        clear z0 d1 d2 hb cu lu HT
        go_wp2_with fail
        have HTF : Below w.heap.size w (w4.setCell ⟨w.heap.size + 1, 0, none⟩ (.bool true)) := EB.out.setCell (by simp) _
        have ht0 : (w4.setCell ⟨w.heap.size + 1, 0, none⟩ (.bool true)).heap[w.heap.size + 1]? = some (.cells #[.bool true] 4 (0, 0)) := by have := cells_set Z0.out 0 (.bool true); simpa using this
        have kd2 := (fr_setCell w4 ⟨w.heap.size + 1, 0, none⟩ (.bool true)).same E2.out.1 (by simp only [List.mem_singleton]; have := E2.out.2; omega)
        have kd1 := (fr_setCell w4 ⟨w.heap.size + 1, 0, none⟩ (.bool true)).same E1.out.1 (by simp only [List.mem_singleton]; have := E1.out.2; omega)
        generalize w4.setCell ⟨w.heap.size + 1, 0, none⟩ (.bool true) = WF at *
        refine ⟨by simp, .inl ⟨_, _, rfl, run_takeDeferred kd2, ?_⟩⟩
        have ht1 : (WF.putObj D1 (.deferred none)).heap[w.heap.size + 1]? = some (.cells #[.bool true] 4 (0, 0)) := (World.putObj_heap_other (by have := E2.out.2; omega)).trans ht0
        replace kd1 : (WF.putObj D1 (.deferred none)).heap[D0]? = some (.deferred (some [])) := (World.putObj_heap_other (by have := hDD.out; omega)).trans kd1
        replace HTF : Below w.heap.size w (WF.putObj D1 (.deferred none)) := HTF.trans (belowK_b (w := w) (Nat.le_refl _) _ D1 _ _ (by have := E2.out.2; omega) kd2 rfl rfl)
        refine ⟨by simp, .inl ⟨_, _, rfl, run_takeDeferred kd1, ?_⟩⟩
        have ht2 : ((WF.putObj D1 (.deferred none)).putObj D0 (.deferred none)).heap[w.heap.size + 1]? = some (.cells #[.bool true] 4 (0, 0)) := (World.putObj_heap_other (by have := E1.out.2; omega)).trans ht1
        replace HTF : Below w.heap.size w ((WF.putObj D1 (.deferred none)).putObj D0 (.deferred none)) := HTF.trans (belowK_b (w := w) (Nat.le_refl _) _ D0 _ _ (by have := E1.out.2; omega) kd1 rfl rfl)
        exact ⟨.bool true, by simp [results, Try.results4, go_sem, cells_cell ht2 (o := 0) rfl], rfl, HTF⟩
end Go.Proofs.Ytbefiilbpbbjnaa
