/- The walk of FifoIterates. -/
import Derived.Test.YtopkikdbhapfmaaDTurn
import Derived.Test.YtopkikdbhapfmaaDFulls
import Derived.Test.YtopkikdbhapfmaaDEnd
namespace Go.Proofs.Ytopkikdbhapfmaa
open Go.RowKit Go.Sort Go.Shelf Go.MapKept
set_option linter.unusedVariables false
set_option linter.unusedSimpArgs false
attribute [local go_sem] Oper.semAt_some

set_option maxRecDepth 1000000 in
set_option maxHeartbeats 8000000 in
theorem fifoIterates_walk (sa : Option Addr) (len cap : Nat) (many : Int) (w : World) (hr : IsActs6 w sa len cap) (hm : (Lit.int .i64 many).wf = true) :
    Calls Try.prog 4 #[.slice sa len cap, .int .i64 many] w fun e w' => e = .returned (.bool true) ∧ Below w.heap.size w w' := by
  obtain ⟨W0, hW0⟩ : ∃ W0, (w.alloc (.cells #[.int .i64 many] 3)).alloc (.cells #[.bool false] 4) = W0 := ⟨_, rfl⟩
  have hb2 : Below w.heap.size w W0 := by rw [← hW0]; exact (below_alloc _ _).trans ((below_alloc _ _).mono (by simp))
  have hs2 : W0.heap.size = w.heap.size + 2 := by rw [← hW0]; simp
  have hq2 : W0.heap[w.heap.size + 1]? = some (.cells #[.bool false] 4 (0, 0)) := by rw [← hW0]; exact block_new _ _ _ (by simp)
  have hm2 : W0.heap[w.heap.size]? = some (.cells #[.int .i64 many] 3 (0, 0)) := by rw [← hW0]; exact ((below_alloc _ _).block _ (by simp)).trans (block_new _ _ _ rfl)
  by_cases hl : 60 < len
  · have hli : (60 : Int) < (len : Int) := by omega
    refine calls_marks Try.func4 rfl ?_
    simp only [Try.ntmps4, List.size_toArray, List.length_cons, List.length_nil, Nat.reduceAdd, Nat.reduceSub, Array.replicate_succ, Array.replicate_zero, List.push_toArray, List.append_toArray, List.nil_append, List.cons_append]
    have HB2 := Lib.hid hb2
    have HQ2 := Lib.hid hq2
    clear hb2 hq2 hm2
    go_wp2_with (go_at_call 8; fail)
    clear hW0
    refine (known_any W0).mono ?_
    rintro e w1 ⟨rfl, hb⟩
    have z0 := (hb.block _ (lt_of_block HQ2.out)).trans HQ2.out
    have z1 := cells_cell z0 (o := 0) rfl
    have z2 := cells_free z0 0
    have z3 := lt_of_block z0
    go_wp2_with fail
    refine ⟨.bool true, by simp [results, Try.results4, go_sem, World.cell?_setCell_same w1 _ (.bool true) z1], rfl, ?_⟩
    exact (HB2.out.trans (hb.mono HB2.out.size)).setCell (by simp) _
  · have hli : decide ((60 : Int) < (len : Int)) = false := by simp; omega
    have HR := Lib.hid hr
    have HB2 := Lib.hid hb2
    have HQ2 := Lib.hid hq2
    have HM2 := Lib.hid hm2
    have HS2 := Lib.hid hs2
    clear hr hb2 hq2 hm2 hs2
    refine calls_marks Try.func4 rfl ?_
    simp only [Try.ntmps4, List.size_toArray, List.length_cons, List.length_nil, Nat.reduceAdd, Nat.reduceSub, Array.replicate_succ, Array.replicate_zero, List.push_toArray, List.append_toArray, List.nil_append, List.cons_append]
    go_wp2_with (go_at_call 9; fail)
    clear hW0
    refine (fiNew_any W0).mono ?_
    rintro e w1 ⟨q, b, m, rfl, hq, hg, h1, h2, h3⟩
    have K1 : KQ w w1 q b m [] 0 := KQ.mk hq (HB2.out.trans (hg.below.mono HB2.out.size)) (by have := HB2.out.size; omega) (by have := HB2.out.size; omega) (by have := HB2.out.size; omega)
    have hm1 := (hg.below.block _ (lt_of_block HM2.out)).trans HM2.out
    have hq1 := (hg.below.block _ (lt_of_block HQ2.out)).trans HQ2.out
    obtain ⟨W, hW⟩ : ∃ W, w1.alloc (.cells #[.slice none 0 0, .int .u64 0] 29) = W := ⟨_, rfl⟩
    have hbox : W.heap[w1.heap.size]? = some (.cells #[.slice none 0 0, .int .u64 0] 29 (0, 0)) := by rw [← hW]; exact heap_alloc_new w1 _
    have hba : Below w1.heap.size w1 W := by rw [← hW]; exact below_alloc _ _
    have HT : Hid (w.heap.size + 2 ≤ w1.heap.size) := Lib.hid (by have := hg.below.size; have := HS2.out; omega)
    have hd : DSt w W q b m (.slice none 0 0) [] 0 := ⟨K1.grown hba, RowR.nil _ _⟩
    have hfr := fr_put2 W w1.heap.size (.slice none 0 0) (.int .u64 0)
    have HS : Hid (DSt w ((W.setCell ⟨w1.heap.size, 0, none⟩ (.slice none 0 0)).setCell ⟨w1.heap.size, 1, none⟩ (.int .u64 0)) q b m (.slice none 0 0) [] 0 ∧ ((W.setCell ⟨w1.heap.size, 0, none⟩ (.slice none 0 0)).setCell ⟨w1.heap.size, 1, none⟩ (.int .u64 0)).heap[w1.heap.size]? = some (.cells #[.slice none 0 0, .int .u64 ((0 : Nat) : Int)] 29 (0, 0)) ∧
        ((W.setCell ⟨w1.heap.size, 0, none⟩ (.slice none 0 0)).setCell ⟨w1.heap.size, 1, none⟩ (.int .u64 0)).heap[w.heap.size]? = some (.cells #[.int .i64 many] 3 (0, 0)) ∧ ((W.setCell ⟨w1.heap.size, 0, none⟩ (.slice none 0 0)).setCell ⟨w1.heap.size, 1, none⟩ (.int .u64 0)).heap[w.heap.size + 1]? = some (.cells #[.bool false] 4 (0, 0))) := Lib.hid
      ⟨hd.put hbox (by decide) (by decide) (by decide) (by have := HT.out; omega) hfr, cells_put2 hbox _ _, hfr.same ((hba.block _ (lt_of_block hm1)).trans hm1) (by have := HT.out; simp; omega), hfr.same ((hba.block _ (lt_of_block hq1)).trans hq1) (by have := HT.out; simp; omega)⟩
    have k0 := cells_cell (o := 0) hbox rfl
    have k1 := cells_cell (o := 1) hbox rfl
    have z0 := cells_free hbox 0
    have z1 := cells_free hbox 1
    have lT := lt_of_block hbox
    clear hq hg h1 h2 h3 K1 hd hbox hfr hba hm1 hq1
    go_wp2_with fail
    clear hW k0 k1 z0 z1 lT
    generalize hW0 : (W.setCell ⟨w1.heap.size, 0, none⟩ (.slice none 0 0)).setCell ⟨w1.heap.size, 1, none⟩ (.int .u64 0) = Wi
    rw [hW0] at HS
    clear hW0
    generalize hT : w1.heap.size = T
    rw [hT] at HS HT
    clear hT HM2 HQ2 HB2 HS2
    go_loopw [5, 24] (fun qv i wr => ∃ (k g q b m : Nat) (v : Value) (L : Qu), k ≤ len ∧ g ≤ k ∧ qv = .pointer (some ⟨q, 0, none⟩) ∧ i = .int .i64 ((k : Nat) : Int) ∧ Hid (DSt w wr q b m v L g ∧ wr.heap[T]? = some (.cells #[v, .int .u64 ((g : Nat) : Int)] 29 (0, 0)) ∧ wr.heap[w.heap.size]? = some (.cells #[.int .i64 many] 3 (0, 0)) ∧ wr.heap[w.heap.size + 1]? = some (.cells #[.bool false] 4 (0, 0)))) (fun _ i _ => len - (intOf i).toNat)
    case atStart => exact ⟨0, 0, q, b, m, _, [], Nat.zero_le _, Nat.le_refl _, rfl, rfl, HS⟩
    case round =>
      clear HS
      obtain ⟨k, g, q, b, m, v, L, hk, hgk, rfl, rfl, HD⟩ := hrel
      by_cases hlt : k < len
      · rcases HR.out with h0 | ⟨ab, off, rfl, _, hblt, hcs⟩
        · omega
        · obtain ⟨x0, x1, x2, c0, c1, c2, _, _, w3'⟩ := hcs k hlt
          have hbw := HD.out.1.K.below
          have c0 : wr.cell? ⟨ab, off + k * 3, none⟩ = some (.int .i64 x0) := (hbw.cell (p := ⟨ab, off + k * 3, none⟩) hblt).trans c0
          have c1 : wr.cell? ⟨ab, off + k * 3 + 1, none⟩ = some (.int .i64 x1) := (hbw.cell (p := ⟨ab, off + k * 3 + 1, none⟩) hblt).trans c1
          have c2 : wr.cell? ⟨ab, off + k * 3 + 2, none⟩ = some (.int .u64 x2) := (hbw.cell (p := ⟨ab, off + k * 3 + 2, none⟩) hblt).trans c2
          obtain ⟨y0, y1⟩ := bounds_u64 w3'
          obtain ⟨X, rfl⟩ : ∃ X : Nat, x2 = X := ⟨x2.toNat, by omega⟩
          obtain ⟨va, vc, rfl, _, _⟩ := HD.out.1.R.form
          clear hcs hbw w3' y1
          obtain ⟨A, hA⟩ : ∃ A, A = wr.alloc (.cells #[.int .i64 x0, .int .i64 x1, .int .u64 ((X : Nat) : Int)] 31) := ⟨_, rfl⟩
          have hbA : Below wr.heap.size wr A := by rw [hA]; exact below_alloc _ _
          have D1 := HD.out.1.grown hbA
          have hbox1 := (hbA.block T (lt_of_block HD.out.2.1)).trans HD.out.2.1
          have HM1 := Lib.hid ((hbA.block w.heap.size (lt_of_block HD.out.2.2.1)).trans HD.out.2.2.1)
          have HQ1 := Lib.hid ((hbA.block (w.heap.size + 1) (lt_of_block HD.out.2.2.2)).trans HD.out.2.2.2)
          have HO2 := Lib.hid (And.intro (D1.K.Q.out HM1.out (by decide)) (D1.K.Q.out HQ1.out (by decide)))
          have hT1 := Lib.hid (And.intro D1 hbox1)
          rw [hA] at hT1
          have k0 := cells_cell (o := 0) hT1.out.2 rfl
          have k1 := cells_cell (o := 1) hT1.out.2 rfl
          have HDO := Lib.hid (do_any D1 (by omega) x0 x1 X)
          have HX1 := Lib.hid hbox1
          have HO1 := Lib.hid (D1.K.Q.out hbox1 (by decide))
          have HTl := Lib.hid HT.out
          clear D1 hbox1 HD hT1 hbA
          unfold rq at HDO
          go_wp2_with (go_at_call 10; fail)
          rw [← hA]
          clear hA
          refine HDO.out.mono ?_
          rintro e w2 ⟨hFr, q', b', m', v', L', g', rfl, hD, hg'⟩
          obtain ⟨ua, uc, rfl, _, _⟩ := hD.R.form
          have hbox2 := hFr.same HX1.out HO1.out
          have hM2 := hFr.same HM1.out HO2.out.1
          have hQ2 := hFr.same HQ1.out HO2.out.2
          have k0 := cells_cell (o := 0) hbox2 rfl
          have k1 := cells_cell (o := 1) hbox2 rfl
          have z0 := cells_free hbox2 0
          have z1 := cells_free hbox2 1
          have lT := lt_of_block hbox2
          have hfr := fr_put2 w2 T (.slice ua L'.length uc) (.int .u64 ((g' : Nat) : Int))
          have hfin : Hid (DSt w ((w2.setCell ⟨T, 0, none⟩ (.slice ua L'.length uc)).setCell ⟨T, 1, none⟩ (.int .u64 ((g' : Nat) : Int))) q' b' m' (.slice ua L'.length uc) L' g' ∧ ((w2.setCell ⟨T, 0, none⟩ (.slice ua L'.length uc)).setCell ⟨T, 1, none⟩ (.int .u64 ((g' : Nat) : Int))).heap[T]? = some (.cells #[.slice ua L'.length uc, .int .u64 ((g' : Nat) : Int)] 29 (0, 0)) ∧
              ((w2.setCell ⟨T, 0, none⟩ (.slice ua L'.length uc)).setCell ⟨T, 1, none⟩ (.int .u64 ((g' : Nat) : Int))).heap[w.heap.size]? = some (.cells #[.int .i64 many] 3 (0, 0)) ∧ ((w2.setCell ⟨T, 0, none⟩ (.slice ua L'.length uc)).setCell ⟨T, 1, none⟩ (.int .u64 ((g' : Nat) : Int))).heap[w.heap.size + 1]? = some (.cells #[.bool false] 4 (0, 0))) := Lib.hid
            ⟨hD.put hbox2 (by decide) (by decide) (by decide) (by have := HTl.out; omega) hfr, cells_put2 hbox2 _ _, hfr.same hM2 (by have := HTl.out; simp; omega), hfr.same hQ2 (by have := HTl.out; simp; omega)⟩
          clear hD hFr hbox2 HDO HX1 HO1 hM2 hQ2 hfr HM1 HQ1 HO2
          generalize L'.length = n at *
          unfold rq
          go_wp2_with fail
          go_roundw
          case rel => exact ⟨k + 1, g', q', b', m', _, L', by omega, by omega, rfl, by go_num, hfin⟩
          case measure => simp [intOf]; omega
      · obtain rfl : k = len := by omega
        have hkk : decide ((k : Int) < (k : Int)) = false := by simp
        obtain ⟨va, vc, rfl, _, _⟩ := HD.out.1.R.form
        have HGQ : Hid (g ≤ 60) := Lib.hid (by omega)
        have hlg := HD.out.1.len
        obtain ⟨N, hN⟩ : ∃ N, N = L.length := ⟨_, rfl⟩
        have HLN : Hid (N = L.length ∧ N ≤ 60) := Lib.hid ⟨hN, by omega⟩
        rw [← hN] at HD
        have hsn := seq_nil
        clear hN hlg
        go_wp2_with (go_at_call 15; fail)
        refine (HD.out.1.K.Q.alls (by have := HGQ.out; omega) wr (Below.refl _ _)).mono ?_
        rintro e wa ⟨B, rfl, hS, hba⟩
        have hD2 := HD.out.1.grown hba
        have hTa : Hid (TS w (wa.alloc (.cells #[.int .i64 0] 3)) q b m B T wa.heap.size L L g g (.slice va N vc) 0 many []) := Lib.hid (by
          have hA := below_alloc wa (.cells #[.int .i64 0] 3)
          have hb3 := hba.trans (hA.mono hba.size)
          have hD3 := hD2.grown hA
          exact ⟨hD3.K, hS.grown hA, hD3.R, (hb3.block _ (lt_of_block HD.out.2.1)).trans HD.out.2.1, (hb3.block _ (lt_of_block HD.out.2.2.1)).trans HD.out.2.2.1, (hb3.block _ (lt_of_block HD.out.2.2.2)).trans HD.out.2.2.2, block_new _ _ _ rfl, fun D hD => by cases hD⟩)
        clear hS hba hD2 HD
        unfold seqV
        go_wp2_with fail
        refine wp_loop_rounds 3 ?_
        generalize hV : wa.alloc (.cells #[.int .i64 0] 3) = V
        generalize hu : wa.heap.size = u
        rw [hV, hu] at hTa
        clear hV hu
        have HT := hTa
        clear hTa
        have HGQ : Hid (g ≤ 60) := HGQ
        obtain ⟨gq, hgq⟩ : ∃ gq, gq = g := ⟨_, rfl⟩
        have HT : Hid (TS w V q b m B T u L L gq g (.slice va N vc) 0 many []) := by rw [hgq]; exact HT
        rw [← hgq] at HGQ
        clear hgq
        rw [rounds_succ]
        have cu := cells_cell HT.out.bu (o := 0) rfl
        have lu := lt_of_block HT.out.bu
        go_wp2_with fail
        refine (wpIn_wide (n := 6)).1 ?_
        clear cu lu
        refine range_turn 46 47 12 13 B L 0 many rfl HT.out.S ?assign0 ?body0 ?out0
        case assign0 =>
          intro l t0 v0 W K hK
          simp only [List.setIfInBounds_toArray, List.set_cons_zero, List.set_cons_succ] at hK ⊢
          gi_wp2
          exact hK
        case body0 =>
          rintro l k x W hp hbk hkc hkm
          simp only [List.setIfInBounds_toArray, List.set_cons_zero, List.set_cons_succ]
          have k0 := cells_cell hkc (o := 0) rfl
          have k1 := cells_free hkc 0
          have k2 := lt_of_block hkc
          have TW := HT.out.grown hbk
          have ix := cells_cell TW.bx (o := 0) rfl
          have iu := cells_cell TW.bu (o := 0) rfl
          have im := cells_cell TW.bm (o := 0) rfl
          have l1 := lt_of_block TW.bm
          have l3 := lt_of_block TW.bx
          have l4 := lt_of_block TW.bu
          have m1 := lt_of_block HT.out.bm
          have m3 := lt_of_block HT.out.bx
          have m4 := lt_of_block HT.out.bu
          have n1 : ¬ w.heap.size = V.heap.size := by omega
          have n3 : ¬ T = V.heap.size := by omega
          have n4 : ¬ u = V.heap.size := by omega
          have n1' : ¬ V.heap.size = w.heap.size := by omega
          have n3' : ¬ V.heap.size = T := by omega
          have n4' : ¬ V.heap.size = u := by omega
          have hkL := (List.getElem?_eq_some_iff.1 hp).1
          rcases TW.R.src with ⟨h1, h2⟩ | ⟨gb, off, c', h1, h2, h3, h4, h5⟩
          · subst h2; simp at hkL
          · obtain ⟨j0, j1⟩ := h5 k x hp
            simp only [Value.slice.injEq] at h1
            obtain ⟨rfl, hNN, rfl⟩ := h1
            have hLN := HLN.out
            have hnq := fun W => neq_refV W x.2 ((x.1 : Nat) : Int)
            have e2 : ((k : Nat) : Int) < ((N : Nat) : Int) := by omega
            have e4 : ((k : Nat) : Int) ≤ 1000 := by omega
            have e5 : (0 : Int) ≤ ((k : Nat) : Int) := by omega
            have e6 : decide (((N : Nat) : Int) ≤ ((k : Nat) : Int)) = false := by simp; omega
            have hkm2 := Lib.hid hkm
            obtain ⟨t, xv⟩ := x
            simp only at *
            clear TW hbk hkc hkm h5 hp hNN hLN
            by_cases hmk : many ≤ ((k : Nat) : Int) + 1
            · have hmk2 : decide (many ≤ ((k : Nat) : Int) + 1) = true := by simp; omega
              gi_wp2
              exact ⟨rfl, rfl, rfl, hmk⟩
            · have hmk2 : decide (many ≤ ((k : Nat) : Int) + 1) = false := by simp; omega
              gi_wp2
              exact ⟨rfl, .inr (by omega)⟩
        rintro D0 kq W hD hkl h0 h1 hkc hbk hK
        have hkb := lt_of_block hkc
        have HTW := Lib.hid (HT.out.mark hbk (D := D0) (by omega) hK)
        clear HT hbk hK
        have k0 := cells_cell hkc (o := 0) rfl
        have ix := cells_cell HTW.out.bx (o := 0) rfl
        have iu := cells_cell HTW.out.bu (o := 0) rfl
        have im := cells_cell HTW.out.bm (o := 0) rfl
        have l1 := lt_of_block HTW.out.bm
        have l3 := lt_of_block HTW.out.bx
        have l4 := lt_of_block HTW.out.bu
        clear hkc hD
        generalize V.heap.size = kk at *
        obtain ⟨Z, hZ⟩ : ∃ Z, Z = max 1 many := ⟨_, rfl⟩
        have HMN : Hid (min ((N : Nat) : Int) Z = ((kq : Nat) : Int)) := Lib.hid (by have := h0 rfl; have := HLN.out; rw [hZ]; omega)
        have HMX : Hid (max 1 many = Z) := Lib.hid hZ.symm
        clear h0 h1 hZ
        go_wp2_with (first | (with_reducible refine wpList_unguard (o := ⟨some 81, _, _, _, _, _⟩) rfl ?_; refine wpList_max rfl (.const (.int .i64 1)) (.tmp 80) _ rfl _ _ _ rfl rfl HMX.out ?_) | (with_reducible refine wpList_unguard (o := ⟨some 82, _, _, _, _, _⟩) rfl ?_; refine wpList_min rfl (.tmp 79) (.tmp 81) _ rfl _ _ _ rfl rfl HMN.out ?_) | (go_at_call 16; fail))
        refine HTW.out.pop.mono ?_
        rintro e W2 ⟨r, L2, rfl, hTP⟩
        have HTP := Lib.hid hTP
        clear hTP HTW k0 ix iu im l1 l3 l4 hkb
        go_wp2_with (go_at_call 17; fail)
        refine (HTP.out.push (by have := HGQ.out; omega) 99).mono ?_
        rintro e W3 ⟨r, L3, rfl, h1⟩
        have H1 := Lib.hid h1
        have cu3 := cells_cell h1.bu (o := 0) rfl
        have lu3 := lt_of_block h1.bu
        clear h1 HTP
        go_wp2_with fail
        have HT := Lib.hid (H1.out.next 1)
        clear H1 cu3 lu3
        have HGQ' : Hid (gq + 1 ≤ 61) := Lib.hid (by have := HGQ.out; omega)
        clear HGQ
        have HGQ := HGQ'
        clear HGQ'
        generalize hV : W3.alloc (.cells #[.int .i64 1] 3) = V
        generalize hu : W3.heap.size = u
        rw [hV, hu] at HT
        clear hV hu
        generalize hgq : gq + 1 = gq2
        rw [hgq] at HT HGQ
        clear hgq
        rw [rounds_succ]
        have cu := cells_cell HT.out.bu (o := 0) rfl
        have lu := lt_of_block HT.out.bu
        go_wp2_with fail
        refine (wpIn_wide (n := 6)).1 ?_
        clear cu lu
        refine range_turn 46 47 12 13 B L 1 many rfl HT.out.S ?assign1 ?body1 ?out1
        case assign1 =>
          intro l t0 v0 W K hK
          simp only [List.setIfInBounds_toArray, List.set_cons_zero, List.set_cons_succ] at hK ⊢
          gi_wp2
          exact hK
        case body1 =>
          rintro l k x W hp hbk hkc hkm
          simp only [List.setIfInBounds_toArray, List.set_cons_zero, List.set_cons_succ]
          have k0 := cells_cell hkc (o := 0) rfl
          have k1 := cells_free hkc 0
          have k2 := lt_of_block hkc
          have TW := HT.out.grown hbk
          have ix := cells_cell TW.bx (o := 0) rfl
          have iu := cells_cell TW.bu (o := 0) rfl
          have im := cells_cell TW.bm (o := 0) rfl
          have l1 := lt_of_block TW.bm
          have l3 := lt_of_block TW.bx
          have l4 := lt_of_block TW.bu
          have m1 := lt_of_block HT.out.bm
          have m3 := lt_of_block HT.out.bx
          have m4 := lt_of_block HT.out.bu
          have n1 : ¬ w.heap.size = V.heap.size := by omega
          have n3 : ¬ T = V.heap.size := by omega
          have n4 : ¬ u = V.heap.size := by omega
          have n1' : ¬ V.heap.size = w.heap.size := by omega
          have n3' : ¬ V.heap.size = T := by omega
          have n4' : ¬ V.heap.size = u := by omega
          have hkL := (List.getElem?_eq_some_iff.1 hp).1
          rcases TW.R.src with ⟨h1, h2⟩ | ⟨gb, off, c', h1, h2, h3, h4, h5⟩
          · subst h2; simp at hkL
          · obtain ⟨j0, j1⟩ := h5 k x hp
            simp only [Value.slice.injEq] at h1
            obtain ⟨rfl, hNN, rfl⟩ := h1
            have hLN := HLN.out
            have hnq := fun W => neq_refV W x.2 ((x.1 : Nat) : Int)
            have e2 : ((k : Nat) : Int) < ((N : Nat) : Int) := by omega
            have e4 : ((k : Nat) : Int) ≤ 1000 := by omega
            have e5 : (0 : Int) ≤ ((k : Nat) : Int) := by omega
            have e6 : decide (((N : Nat) : Int) ≤ ((k : Nat) : Int)) = false := by simp; omega
            have hkm2 := Lib.hid hkm
            obtain ⟨t, xv⟩ := x
            simp only at *
            clear TW hbk hkc hkm h5 hp hNN hLN
            gi_wp2
            exact ⟨rfl, .inl (by omega)⟩
        rintro D1 kq W hD hkl h0 h1 hkc hbk hK
        have hkb := lt_of_block hkc
        have HTW := Lib.hid (HT.out.mark hbk (D := D1) (by omega) hK)
        have hDD : Hid (D0 < D1) := Lib.hid (by have := lt_of_block (HT.out.ms D0 (by simp)).1; omega)
        clear HT hbk hK
        have k0 := cells_cell hkc (o := 0) rfl
        have ix := cells_cell HTW.out.bx (o := 0) rfl
        have iu := cells_cell HTW.out.bu (o := 0) rfl
        have im := cells_cell HTW.out.bm (o := 0) rfl
        have l1 := lt_of_block HTW.out.bm
        have l3 := lt_of_block HTW.out.bx
        have l4 := lt_of_block HTW.out.bu
        clear hkc hD
        generalize V.heap.size = kk at *
        have hkq : kq = N := by have := h1 (by omega); have := HLN.out; omega
        subst hkq
        clear h0 h1
        go_wp2_with (go_at_call 16; fail)
        refine HTW.out.pop.mono ?_
        rintro e W2 ⟨r, L2, rfl, hTP⟩
        have HTP := Lib.hid hTP
        clear hTP HTW k0 ix iu im l1 l3 l4 hkb
        go_wp2_with (go_at_call 17; fail)
        refine (HTP.out.push (by have := HGQ.out; omega) 99).mono ?_
        rintro e W3 ⟨r, L3, rfl, h2⟩
        have H2 := Lib.hid h2
        have cu3 := cells_cell h2.bu (o := 0) rfl
        have lu3 := lt_of_block h2.bu
        clear h2 HTP
        go_wp2_with fail
        have HT := Lib.hid (H2.out.next 2)
        clear H2 cu3 lu3
        have HGQ' : Hid (gq2 + 1 ≤ 62) := Lib.hid (by have := HGQ.out; omega)
        clear HGQ
        have HGQ := HGQ'
        clear HGQ'
        generalize hV : W3.alloc (.cells #[.int .i64 2] 3) = V
        generalize hu : W3.heap.size = u
        rw [hV, hu] at HT
        clear hV hu
        generalize hgq : gq2 + 1 = gq3
        rw [hgq] at HT HGQ
        clear hgq
        rw [rounds_succ]
        have cu := cells_cell HT.out.bu (o := 0) rfl
        have lu := lt_of_block HT.out.bu
        go_wp2_with (go_at_call 8; fail)
        refine (known_any _).mono ?_
        rintro e w4 ⟨rfl, hb⟩
        have z0 := (hb.block _ (lt_of_block HT.out.bq)).trans HT.out.bq
        have z1 := cells_cell z0 (o := 0) rfl
        have z2 := cells_free z0 0
        have z3 := lt_of_block z0
        have Z0 := Lib.hid z0
        have d1 := HT.out.ms D0 (by simp)
        have d2 := HT.out.ms D1 (by simp)
        have E1 := Lib.hid (And.intro ((hb.block _ (lt_of_block d1.1)).trans d1.1) d1.2)
        have E2 := Lib.hid (And.intro ((hb.block _ (lt_of_block d2.1)).trans d2.1) d2.2)
        have EB := Lib.hid (HT.out.K.below.trans (hb.mono HT.out.K.below.size))
        clear z0 d1 d2 hb cu lu HT
        go_wp2_with fail
        have HTF : Below w.heap.size w (w4.setCell ⟨w.heap.size + 1, 0, none⟩ (.bool true)) := EB.out.setCell (by simp) _
        have ht0 : (w4.setCell ⟨w.heap.size + 1, 0, none⟩ (.bool true)).heap[w.heap.size + 1]? = some (.cells #[.bool true] 4 (0, 0)) := by have := cells_set Z0.out 0 (.bool true); simpa using this
        have kd2 := (fr_setCell w4 ⟨w.heap.size + 1, 0, none⟩ (.bool true)).same E2.out.1 (by simp only [List.mem_singleton]; have := E2.out.2; omega)
        have kd1 := (fr_setCell w4 ⟨w.heap.size + 1, 0, none⟩ (.bool true)).same E1.out.1 (by simp only [List.mem_singleton]; have := E1.out.2; omega)
        generalize w4.setCell ⟨w.heap.size + 1, 0, none⟩ (.bool true) = WF at *
        refine ⟨by simp, .inl ⟨_, _, rfl, run_takeDeferred kd2, ?_⟩⟩
        have ht1 : (WF.putObj D1 (.deferred none)).heap[w.heap.size + 1]? = some (.cells #[.bool true] 4 (0, 0)) := (World.putObj_heap_other (by have := E2.out.2; omega)).trans ht0
        replace kd1 : (WF.putObj D1 (.deferred none)).heap[D0]? = some (.deferred (some [])) := (World.putObj_heap_other (by have := hDD.out; omega)).trans kd1
        replace HTF : Below w.heap.size w (WF.putObj D1 (.deferred none)) := HTF.trans (belowK_b (w := w) (Nat.le_refl _) _ D1 _ _ (by have := E2.out.2; omega) kd2 rfl rfl)
        refine ⟨by simp, .inl ⟨_, _, rfl, run_takeDeferred kd1, ?_⟩⟩
        have ht2 : ((WF.putObj D1 (.deferred none)).putObj D0 (.deferred none)).heap[w.heap.size + 1]? = some (.cells #[.bool true] 4 (0, 0)) := (World.putObj_heap_other (by have := E1.out.2; omega)).trans ht1
        replace HTF : Below w.heap.size w ((WF.putObj D1 (.deferred none)).putObj D0 (.deferred none)) := HTF.trans (belowK_b (w := w) (Nat.le_refl _) _ D0 _ _ (by have := E1.out.2; omega) kd1 rfl rfl)
        exact ⟨.bool true, by simp [results, Try.results4, go_sem, cells_cell ht2 (o := 0) rfl], rfl, HTF⟩
end Go.Proofs.Ytopkikdbhapfmaa
