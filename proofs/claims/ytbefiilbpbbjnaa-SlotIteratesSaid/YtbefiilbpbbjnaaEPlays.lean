/- The walk of SlotPlays. -/
import Derived.Test.YtbefiilbpbbjnaaEDo
import Derived.Test.YtbefiilbpbbjnaaEEnd
import Derived.Test.YtbefiilbpbbjnaaEKnown2
namespace Go.Proofs.Ytbefiilbpbbjnaa
open Go.RowKit Go.Sort
set_option linter.unusedVariables false
set_option linter.unusedSimpArgs false

theorem est_new {w0 w1 w : World} {t g m : Nat} (h1 : 1 ≤ m) (h2 : m ≤ 128) (hT : TAt w1 t g m (List.replicate m ⟨false, 0, 0⟩)) (hb : Below w0.heap.size w0 w1) (hlt : w0.heap.size ≤ t) (hlg : w0.heap.size ≤ g) (hb2 : Below w1.heap.size w1 w) :
    ESt w0 w t g m m (.slice none 0 0) (List.replicate m ⟨false, 0, 0⟩) [] 0 :=
  ⟨KT.grown ⟨hT, hb, hlt, hlg⟩ hb2, Row.nil _ _, rel_new m, by simp, Nat.le_refl _⟩

set_option maxRecDepth 100000 in
set_option maxHeartbeats 12800000 in
theorem slotPlays_walk (most : Int) (sa : Option Addr) (len cap : Nat) (w : World) (hw : (Lit.int .i64 most).wf = true) (hr : IsActs7 w sa len cap) :
    Calls Try.prog 3 #[.int .i64 most, .slice sa len cap] w fun e w' => e = .returned (.bool true) ∧ Below w.heap.size w w' := by
  by_cases hl : 60 < len
  · have hk := Lib.hid (known_any w)
    go_enter Try.func3, Try.ntmps3
    go_wp2_with (go_at_call 8; refine hk.out.mono ?_; rintro e w1 ⟨rfl, hb⟩)
    go_ret
    exact ⟨rfl, hb⟩
  by_cases hm : most < 1 ∨ 128 < most
  · have hn := Lib.hid (slNew_bad w most hm)
    have hf := Lib.hid (refNew_bad w most hm)
    clear hm hr
    unfold rt at hf
    go_enter Try.func3, Try.ntmps3
    go_wp2_with (go_at_call 9; refine hn.out.mono ?_; rintro e w1 ⟨rfl, hx⟩; have hx2 := hx.symm; clear hx; subst hx2)
    go_wp2_with (go_at_call 10; refine hf.out.mono ?_; rintro e w1 ⟨rfl, hg⟩; have HB := Lib.hid hg.below; clear hg)
    go_wp2_with (go_at_call 8; fail)
    refine (known_any _).mono ?_
    rintro e w4 ⟨rfl, hb⟩
    go_wp2_with fail
    go_ret
    have h1 := HB.out.trans ((below_alloc w1 (.cells #[.int .i64 0, .slice none 0 0] 30)).mono HB.out.size)
    exact ⟨rfl, h1.trans (hb.mono h1.size)⟩
  · obtain ⟨m, rfl⟩ : ∃ m : Nat, most = ((m : Nat) : Int) := ⟨most.toNat, by omega⟩
    have g1 : (1 : Int) ≤ (m : Int) := by omega
    have g2 : (m : Int) ≤ 128 := by omega
    have HM : Hid (1 ≤ m ∧ m ≤ 128) := Lib.hid (by omega)
    clear hm
    go_enter Try.func3, Try.ntmps3
    go_wp2_with (go_at_call 9; fail)
    refine (slNew_ok w m HM.out.1 HM.out.2).mono ?_
    rintro e w1 ⟨t, g, rfl, hT, hb1, hlt, hlg⟩
    have HT1 := Lib.hid hT
    have HB1 := Lib.hid hb1
    have HLT := Lib.hid hlt
    have HLG := Lib.hid hlg
    clear hT hb1 hlt hlg
    have hrn := Lib.hid (refNew_ok w1 m HM.out.1 HM.out.2)
    unfold rt at hrn
    go_wp2_with (go_at_call 10; fail)
    refine hrn.out.mono ?_
    rintro e w2 ⟨rfl, hg2⟩
    obtain ⟨W, hW⟩ : ∃ W, w2.alloc (.cells #[.int .i64 ((m : Nat) : Int), .slice none 0 0] 30) = W := ⟨_, rfl⟩
    have hbA : Below w1.heap.size w1 W := by rw [← hW]; exact hg2.below.trans ((below_alloc _ _).mono hg2.below.size)
    have hbox : Hid (W.heap[w2.heap.size]? = some (.cells #[.int .i64 ((m : Nat) : Int), .slice none 0 0] 30 (0, 0))) := Lib.hid (by rw [← hW]; exact block_new _ _ _ rfl)
    have HTl : Hid (w.heap.size ≤ w2.heap.size) := Lib.hid (Nat.le_trans HB1.out.size hg2.below.size)
    have HS := Lib.hid (And.intro (est_new HM.out.1 HM.out.2 HT1.out HB1.out HLT.out HLG.out hbA) hbox.out)
    have HW := Lib.hid hW
    clear hg2 hbA hbox HT1 HB1 HLT HLG hrn hW
    go_upto_region 5 with (fail)
    rw [HW.out]
    clear HW
    have HTl' := HTl
    generalize w2.heap.size = T at *
    go_wp2_with fail
    go_loopw [5, 41] (fun tv i wr => ∃ (k t g c : Nat) (v : Value) (P : Tab) (L : Fds), k ≤ len ∧ tv = .pointer (some ⟨t, 0, none⟩) ∧ i = .int .i64 ((k : Nat) : Int) ∧ Hid (ESt w wr t g c m v P L k ∧ wr.heap[T]? = some (.cells #[.int .i64 ((m : Nat) : Int), v] 30 (0, 0)))) (fun _ i _ => len - (intOf i).toNat)
    case atStart => exact ⟨0, t, g, m, _, _, [], Nat.zero_le _, rfl, rfl, HS⟩
    case round =>
      clear HS
      obtain ⟨k, t, g, c, v, P, L, hk, rfl, rfl, HD⟩ := hrel
      by_cases hlt : k < len
      · rcases hr with h0 | ⟨ab, off, rfl, _, hblt, hcs⟩
        · omega
        · obtain ⟨x0, x1, x2, x3, c0, c1, c2, c3, _, _, _, _⟩ := hcs k hlt
          have hbw := HD.out.1.K.below
          have c0 : wr.cell? ⟨ab, off + k * 4, none⟩ = some (.int .i64 x0) := (hbw.cell (p := ⟨ab, off + k * 4, none⟩) hblt).trans c0
          have c1 : wr.cell? ⟨ab, off + k * 4 + 1, none⟩ = some (.int .i64 x1) := (hbw.cell (p := ⟨ab, off + k * 4 + 1, none⟩) hblt).trans c1
          have c2 : wr.cell? ⟨ab, off + k * 4 + 2, none⟩ = some (.int .i64 x2) := (hbw.cell (p := ⟨ab, off + k * 4 + 2, none⟩) hblt).trans c2
          have c3 : wr.cell? ⟨ab, off + k * 4 + 3, none⟩ = some (.int .i64 x3) := (hbw.cell (p := ⟨ab, off + k * 4 + 3, none⟩) hblt).trans c3
          obtain ⟨va, vn, vc, rfl, -⟩ := HD.out.1.R.form2
          clear hcs hbw
          have D1 := HD.out.1.grown (below_alloc wr (.cells #[.int .i64 x0, .int .i64 x1, .int .i64 x2, .int .i64 x3] 36))
          have hbox1 := ((below_alloc wr (.cells #[.int .i64 x0, .int .i64 x1, .int .i64 x2, .int .i64 x3] 36)).block T (lt_of_block HD.out.2)).trans HD.out.2
          have k0 := cells_cell (o := 0) hbox1 rfl
          have k1 : (wr.alloc (.cells #[.int .i64 x0, .int .i64 x1, .int .i64 x2, .int .i64 x3] 36)).cell? ⟨T, 1, none⟩ = some (.slice va vn vc) := cells_cell hbox1 rfl
          have HDO := Lib.hid (do_any D1 (by omega) x0 x1 x2 x3)
          have HX1 := Lib.hid hbox1
          have HO1 := Lib.hid (D1.K.T.out hbox1 (by decide))
          clear D1 hbox1 HD
          unfold rt at HDO
          go_wp2_with (go_at_call 11; fail)
          clear k0 k1
          refine HDO.out.mono ?_
          rintro e w2 ⟨hFr, t', g', c', v', P', L', rfl, hD⟩
          obtain ⟨ua, un, uc, rfl, -⟩ := hD.R.form2
          have hbox2 := hFr.same HX1.out HO1.out
          have k0 := cells_cell (o := 0) hbox2 rfl
          have k1 : w2.cell? ⟨T, 1, none⟩ = some (.slice va vn vc) := cells_cell hbox2 rfl
          have z0 := cells_free hbox2 0
          have z1 := cells_free hbox2 1
          have lT := lt_of_block hbox2
          have hf5 := (fr_setCell w2 ⟨T, 0, none⟩ (.int .i64 ((m : Nat) : Int))).trans' (fr_setCell _ ⟨T, 1, none⟩ (.slice ua un uc))
          have HD5 := Lib.hid (hD.put hbox2 HTl'.out hf5)
          have HX5 : Hid (((w2.setCell ⟨T, 0, none⟩ (.int .i64 ((m : Nat) : Int))).setCell ⟨T, 1, none⟩ (.slice ua un uc)).heap[T]? = some (.cells #[.int .i64 ((m : Nat) : Int), .slice ua un uc] 30 (0, 0))) := Lib.hid (by simpa using cells_set (cells_set hbox2 0 (.int .i64 ((m : Nat) : Int))) 1 (.slice ua un uc))
          clear hD hFr hbox2 HDO HX1 HO1 hf5
          unfold rt
          go_upto_region 14 with (fail)
          generalize hW5 : (w2.setCell ⟨T, 0, none⟩ (.int .i64 ((m : Nat) : Int))).setCell ⟨T, 1, none⟩ (.slice ua un uc) = w5
          rw [hW5] at HX5 HD5
          clear hW5 k0 k1 z0 z1 lT
          have hld : ∀ W', Below w5.heap.size w5 W' → W'.cell? ⟨T, 0, none⟩ = some (.int .i64 ((m : Nat) : Int)) ∧ W'.cell? ⟨T, 1, none⟩ = some (.slice ua un uc) ∧ T < W'.heap.size := fun W' hb =>
            ⟨cells_cell ((hb.block T (lt_of_block HX5.out)).trans HX5.out) rfl, cells_cell ((hb.block T (lt_of_block HX5.out)).trans HX5.out) rfl, Nat.lt_of_lt_of_le (lt_of_block HX5.out) hb.size⟩
          obtain ⟨E, hE⟩ : ∃ E, (ents 0 P').length = E := ⟨_, rfl⟩
          have HE := Lib.hid hE
          have HLN : Hid (∀ W', Below w5.heap.size w5 W' → Calls Try.prog 12 #[.pointer (some ⟨t', 0, none⟩)] W' fun e w' => e = .returned (.int .i64 ((E : Nat) : Int)) ∧ Below W'.heap.size W' w') := Lib.hid (fun W' hb => by
            have := slLen_any (HD5.out.grown hb).K.T.alls
            rw [hE] at this
            exact this)
          have HFL : Hid (∀ W', Below w5.heap.size w5 W' → Calls Try.prog 13 #[.agg #[.int .i64 ((m : Nat) : Int), .slice ua un uc]] W' fun e w' => ∃ v', e = .returned v' ∧ Row TF w' W'.heap.size v' (ents 0 P') ∧ Below W'.heap.size W' w') := Lib.hid (fun W' hb => by
            have h := HD5.out.grown hb
            exact refFiles_any (h.R.src TF_ok) (by have := h.l; omega) h.rel h.m h.m2)
          have HS : Hid (Below w5.heap.size w5 w5.drew) := Lib.hid (Below.refl _ _).drew
          clear hE
          refine wp_region_mix (fun W' => Below w5.heap.size w5 W') 16 [(true, 0), (true, 1), (true, 2), (true, 3), (true, 5), (false, 4), (false, 6), (false, 7), (false, 8), (false, 9), (false, 10), (true, 11), (true, 12), (false, 13), (false, 14), (false, 15)] (by kernel_rfl) (by kernel_rfl) (fun _ _ _ d _ h => by cases d <;> exact h) ?_
          simp only [List.map_cons, List.map_nil, List.getD_cons_zero, List.getD_cons_succ, List.drop_succ_cons, List.drop_zero]
          refine mix_move (.tmp 11) (.bool true) rfl HS.out rfl rfl ?_
          simp only [Act.put, List.setIfInBounds_toArray, List.set_cons_zero, List.set_cons_succ]
          refine mix_take (.bool false) HS.out rfl (fun W' hS => by go_simp) ?_
          simp only [Act.put, List.setIfInBounds_toArray, List.set_cons_zero, List.set_cons_succ]
          refine mix_move (.tmp 54) (.bool false) rfl HS.out rfl rfl ?_
          simp only [Act.put, List.setIfInBounds_toArray, List.set_cons_zero, List.set_cons_succ]
          refine mix_move (.tmp 5) (.pointer (some ⟨t', 0, none⟩)) rfl HS.out rfl rfl ?_
          simp only [Act.put, List.setIfInBounds_toArray, List.set_cons_zero, List.set_cons_succ]
          refine mix_take (.agg #[.int .i64 ((m : Nat) : Int), .slice ua un uc]) HS.out rfl (fun W' hS => by obtain ⟨h0, h1, h2⟩ := hld W' hS; go_simp) ?_
          simp only [Act.put, List.setIfInBounds_toArray, List.set_cons_zero, List.set_cons_succ]
          refine mix_step rfl (fun K hK => ?_)
          go_simp
          go_wp2_with (go_at_call 12; fail)
          refine (HLN.out _ HS.out).mono ?_
          rintro e wz ⟨rfl, hgf⟩
          have HS := Lib.hid (HS.out.trans (hgf.mono HS.out.size))
          clear hgf
          refine hK _ _ HS.out ?_
          clear hK
          refine mix_step rfl (fun K hK => ?_)
          go_simp
          go_wp2_with (go_at_call 13; fail)
          refine (HFL.out _ HS.out).mono ?_
          rintro e wz ⟨v1, rfl, hr1, hgf⟩
          obtain ⟨fa, fn, fc, rfl, hfn⟩ := hr1.form2
          rw [HE.out] at hfn
          subst hfn
          clear hr1
          have HS := Lib.hid (HS.out.trans (hgf.mono HS.out.size))
          clear hgf
          refine hK _ _ HS.out ?_
          clear hK
          refine mix_by (.int .i64 ((fn : Nat) : Int)) rfl (by go_simp) HS.out ?_
          simp only [Act.put, List.setIfInBounds_toArray, List.set_cons_zero, List.set_cons_succ]
          refine mix_by (.bool false) rfl (by go_simp) HS.out ?_
          simp only [Act.put, List.setIfInBounds_toArray, List.set_cons_zero, List.set_cons_succ]
          refine mix_by (.bool false) rfl (by go_simp) HS.out ?_
          simp only [Act.put, List.setIfInBounds_toArray, List.set_cons_zero, List.set_cons_succ]
          refine mix_moved (.tmp 62) (.bool false) rfl rfl rfl HS.out ?_
          simp only [Act.put, List.setIfInBounds_toArray, List.set_cons_zero, List.set_cons_succ]
          refine mix_move (.tmp 5) (.pointer (some ⟨t', 0, none⟩)) rfl HS.out rfl rfl ?_
          simp only [Act.put, List.setIfInBounds_toArray, List.set_cons_zero, List.set_cons_succ]
          refine mix_take (.agg #[.int .i64 ((m : Nat) : Int), .slice ua un uc]) HS.out rfl (fun W' hS => by obtain ⟨h0, h1, h2⟩ := hld W' hS; go_simp) ?_
          simp only [Act.put, List.setIfInBounds_toArray, List.set_cons_zero, List.set_cons_succ]
          refine mix_step rfl (fun K hK => ?_)
          go_simp
          go_wp2_with (go_at_call 13; fail)
          refine (HFL.out _ HS.out).mono ?_
          rintro e wz ⟨v2, rfl, hr2, hgf⟩
          have HS2 := Lib.hid hr2
          have HS := Lib.hid (HS.out.trans (hgf.mono HS.out.size))
          clear hgf
          refine hK _ _ HS.out ?_
          clear hK
          refine mix_step rfl (fun K hK => ?_)
          go_simp
          go_wp2_with (go_at_call 14; fail)
          refine (lawAll_any (HD5.out.grown HS.out).K.T.alls (HS2.out.src TF_ok).files).mono ?_
          rintro e wz ⟨rfl, hgf⟩
          have HS := Lib.hid (HS.out.trans (hgf.mono HS.out.size))
          clear hgf
          clear HS2
          refine hK _ _ HS.out ?_
          clear hK
          refine mix_by (.bool false) rfl (by go_simp) HS.out ?_
          simp only [Act.put, List.setIfInBounds_toArray, List.set_cons_zero, List.set_cons_succ]
          refine mix_nil ?_
          go_wp2_with fail
          have hfin : Hid (ESt w wz t' g' c' m (.slice ua un uc) P' L' (k + 1) ∧ wz.heap[T]? = some (.cells #[.int .i64 ((m : Nat) : Int), .slice ua un uc] 30 (0, 0))) := Lib.hid ⟨HD5.out.grown HS.out, (HS.out.block T (lt_of_block HX5.out)).trans HX5.out⟩
          clear HD5 HX5 HS HLN HFL hld HE
          go_roundw
          case rel => exact ⟨k + 1, t', g', c', _, P', L', by omega, rfl, by go_num, hfin⟩
          case measure => simp [intOf]; omega
      · obtain rfl : k = len := by omega
        clear hr
        go_wp2_with (go_at_call 8; fail)
        refine (known_any _).mono ?_
        rintro e w4 ⟨rfl, hb⟩
        go_wp2_with fail
        go_ret
        exact ⟨rfl, HD.out.1.K.below.trans (hb.mono HD.out.1.K.below.size)⟩
end Go.Proofs.Ytbefiilbpbbjnaa
