/- The walk of FlowPlays. -/
import Derived.Test.YtaallpbcgabdnaaXDo
namespace Go.Proofs.Ytaallpbcgabdnaa
open Go.RowKit Go.Sort
set_option linter.unusedVariables false
set_option linter.unusedSimpArgs false

theorem do_any {w0 w : World} {m : Nat} {b : Fb} {x : Ft} (h : KF w0 w m b x) {pa : Option Addr} {pl pc : Nat} (ac : Ac) (hp : SrcV w0 (.slice pa pl pc) (ac.parts.map encS)) (hs : ac.Sm) (hw : I64 ac.wth) :
    Calls Try.prog 12 #[pt m, encR x, .agg #[.int .i64 ac.what, .int .i64 ac.n, .slice pa pl pc, .int .i64 ac.wth]] w fun e w' => ∃ m' b' y, e = .returned (.tuple #[pt m', encR y, .bool true]) ∧ KF w0 w' m' b' y ∧ Fr b.F w w' := by
  have hl : ac.parts.flatten.length ≤ 12000 := by
    have h1 := flat_small ac.parts hs.2
    have h2 : ac.parts.length * 400 ≤ 30 * 400 := Nat.mul_le_mul_right _ hs.1
    omega
  obtain ⟨what, n, parts, wth⟩ := ac
  simp only at *
  by_cases h0 : what = 0
  · rw [h0]; exact do_offer h hp hl hs.1 n wth
  · by_cases h1 : what = 1
    · rw [h1]; exact do_take h hp hl hs.1 n wth
    · by_cases h2 : what = 2
      · rw [h2]; exact do_cw h hp hl hs.1 n wth hw
      · by_cases h3 : what = 3
        · rw [h3]; exact do_cr h hp hl hs.1 n wth hw
        · exact do_copy h hp hl hs.1 what n wth ⟨h0, h1, h2, h3⟩
theorem kf_box {w0 V V' : World} {m i : Nat} {k : Fb} {x : Ft} {cs : Array Value} (h : KF w0 V m k x) (hb : V.heap[i]? = some (.cells cs 30 (0, 0))) (hf : Fr [i] V V') (hi : w0.heap.size ≤ i) : KF w0 V' m k x :=
  ⟨h.at'.box hb hf (by decide) (by decide) (by decide) (by decide) (by decide), h.new, h.be.trans (hf.below (fun q hq => by simp at hq; subst hq; exact hi) h.be.size)⟩

set_option maxRecDepth 100000 in
set_option maxHeartbeats 6400000 in
theorem flowPlays_walk {w : World} {v : Value} {l : List Ac} (c : Int) (h : SrcA w v l) (hwf : ∀ a ∈ l, I64 a.wth) :
    Calls Try.prog 3 #[.int .i64 c, v] w fun e w' => e = .returned (.bool true) ∧ Below w.heap.size w w' := by
  have HA := Lib.hid h
  have HWF := Lib.hid hwf
  have hsm := Lib.hid (small_any h)
  obtain ⟨sa, sc, rfl, hlm, hcase⟩ := h
  obtain ⟨N, hN⟩ : ∃ N, N = l.length := ⟨_, rfl⟩
  have HNE := Lib.hid hN
  have HC := Lib.hid hcase
  rw [← hN] at hsm HA ⊢
  clear hlm hcase hN hwf
  go_enter Try.func3, Try.ntmps3
  go_wp2_with (go_at_call 8; fail)
  refine hsm.out.mono ?_
  rintro e w' ⟨(⟨rfl, hl80, hsm2⟩ | rfl), rfl⟩
  case' inr =>
    go_wp2_with (go_at_call 9; refine (known_any _).mono ?_; rintro e w9 ⟨rfl, hb⟩)
    go_ret
    exact ⟨rfl, hb⟩
  have HSM := Lib.hid hsm2
  have hN80 : (N : Int) ≤ 80 := by have := HNE.out; omega
  clear hsm2 hl80 hsm
  by_cases hc : c < 1 ∨ 4096 < c
  · have HBC := Lib.hid hc
    clear hc
    go_wp2_with (go_at_call 10; fail)
    refine (flNew_bad w' c HBC.out).mono ?_
    rintro e w9 ⟨rfl, rfl⟩
    go_wp2_with (go_at_call 11; fail)
    refine (refNew_bad _ c HBC.out).mono ?_
    rintro e W1 ⟨rfl, hb1⟩
    have HB1 := Lib.hid hb1
    clear hb1
    unfold cells0
    go_wp2_with (go_at_call 9; fail)
    have ha := HB1.out.trans ((below_alloc W1 (.cells #[.int .i64 0, .string ⟨#[]⟩, .int .i64 0, .int .i64 0] 30)).mono HB1.out.size)
    refine (known_any _).mono ?_
    rintro e w8 ⟨rfl, hb⟩
    have HBB := Lib.hid (ha.trans (hb.mono ha.size))
    clear hb ha
    go_wp2_with fail
    go_ret
    exact ⟨rfl, HBB.out⟩
  obtain ⟨c', rfl⟩ := Int.eq_ofNat_of_zero_le (show 0 ≤ c by omega)
  have HC1 : Hid (1 ≤ c') := Lib.hid (by omega)
  have HC2 : Hid (c' ≤ 4096) := Lib.hid (by omega)
  clear hc
  go_wp2_with (go_at_call 10; fail)
  refine (kf_new (Below.refl _ _) HC1.out HC2.out).mono ?_
  rintro e W1 ⟨m, b, rfl, h1, -, -⟩
  have H1 := Lib.hid h1
  clear h1
  go_wp2_with (go_at_call 11; fail)
  refine (refNew_ok _ HC1.out HC2.out).mono ?_
  rintro e W2 ⟨rfl, hb2⟩
  have H2 := Lib.hid (H1.out.grow hb2)
  clear hb2 H1
  unfold pt encR cellsR
  go_wp2_with fail
  generalize hV : W2.alloc _ = V
  have HV : Hid (Below W2.heap.size W2 V) := Lib.hid (by rw [← hV]; exact below_alloc _ _)
  have HBX : Hid (V.heap[W2.heap.size]? = some (.cells (cellsR (Ft.new c')) 30 (0, 0))) := Lib.hid (by rw [← hV]; exact heap_alloc_new _ _)
  have HLO : Hid (w'.heap.size ≤ W2.heap.size) := Lib.hid H2.out.be.size
  have H3 := Lib.hid (H2.out.grow HV.out)
  clear hV H2
  generalize W2.heap.size = BX at *
  go_loopw [5, 43] (fun mv i wr => ∃ (k m : Nat) (b : Fb) (x : Ft), k ≤ N ∧ i = .int .i64 (k : Nat) ∧ mv = .pointer (some ⟨m, 0, none⟩) ∧ Hid (KF w' wr m b x) ∧ Hid (wr.heap[BX]? = some (.cells (cellsR x) 30 (0, 0)))) (fun _ i _ => N - (intOf i).toNat)
  case atStart => exact ⟨0, m, b, Ft.new c', Nat.zero_le _, rfl, rfl, H3, HBX⟩
  case round =>
    clear H3 HBX HV
    obtain ⟨k, m, b, x, hkl, rfl, rfl, HK, HX⟩ := hrel
    by_cases hlt : k < N
    · have hltP : k < l.length := by rw [← HNE.out]; exact hlt
      obtain ⟨lb, off, rfl, hbl, hac⟩ := HC.out.resolve_left (by omega)
      obtain ⟨pa, pl, pc, c0, c1, c2, c3, hs, hpl, hw0, hw1, hw2⟩ := hac k hltP
      have hcg := below_cells HK.out.be
      have k0 := hcg _ _ c0
      have k1 := hcg _ _ c1
      have k2 := hcg _ _ c2
      have k3 := hcg _ _ c3
      have hlbl : lb < wr.heap.size := Nat.lt_of_lt_of_le hbl HK.out.be.size
      obtain ⟨ac, hae⟩ : ∃ ac, ac = l[k] := ⟨_, rfl⟩
      rw [← hae] at k0 k1 k3 hs
      have HSS := Lib.hid hs
      have HSA : Hid ac.Sm := Lib.hid (by rw [hae]; exact HSM.out _ (List.getElem_mem _))
      have HWW : Hid (I64 ac.wth) := Lib.hid (by rw [hae]; exact HWF.out _ (List.getElem_mem _))
      have hkl2 : (k : Int) < (N : Int) := by omega
      have hx := HX.out
      unfold cellsR at hx
      have y0 := cells_cell (o := 0) hx rfl
      have y1 := cells_cell (o := 1) hx rfl
      have y2 := cells_cell (o := 2) hx rfl
      have y3 := cells_cell (o := 3) hx rfl
      have hbx := lt_of_block hx
      clear hac c0 c1 c2 c3 hs hpl hw0 hw1 hw2 hcg hae hx
      go_wp2_with (go_at_call 12; fail)
      have ba := below_alloc wr (.cells #[.int .i64 ac.what, .int .i64 ac.n, .slice pa pl pc, .int .i64 ac.wth] 35)
      have hdo := do_any (HK.out.grow ba) ac HSS.out HSA.out HWW.out
      unfold pt encR cellsR at hdo
      refine hdo.mono ?_
      rintro e W3 ⟨m', b', y, rfl, hk3, hf3⟩
      have hnb : BX ∉ b.F := HK.out.at'.not HX.out (by decide) (by decide) (by decide)
      have HX3 := Lib.hid (hf3.same ((ba.block _ (lt_of_block HX.out)).trans HX.out) hnb)
      have H3 := Lib.hid hk3
      clear hdo hk3 hf3 hnb ba y0 y1 y2 y3 HK HX hbx k0 k1 k2 k3
      have hx := HX3.out
      unfold cellsR at hx
      have y0 := cells_cell (o := 0) hx rfl
      have y1 := cells_cell (o := 1) hx rfl
      have y2 := cells_cell (o := 2) hx rfl
      have y3 := cells_cell (o := 3) hx rfl
      have z0 := cells_free hx 0
      have z1 := cells_free hx 1
      have z2 := cells_free hx 2
      have z3 := cells_free hx 3
      have hbx := lt_of_block hx
      clear hx
      go_wp2_with (go_at_call 13; fail)
      generalize hW4 : World.setCell _ _ _ = W4
      have hff : Fr [BX] W3 W4 := by rw [← hW4]; exact four_fr W3 _ _ _ _ _
      have HX4 : Hid (W4.heap[BX]? = some (.cells (cellsR y) 30 (0, 0))) := Lib.hid (by rw [← hW4]; exact four_cells (by have := HX3.out; unfold cellsR at this; exact this) _ _ _ _)
      have H4 := Lib.hid (kf_box H3.out HX3.out hff HLO.out)
      clear hW4 hff H3 HX3 y0 y1 y2 y3 z0 z1 z2 z3 hbx
      have hcl := flClosed_any H4.out.at'
      unfold pt at hcl
      refine hcl.mono ?_
      rintro e W6 ⟨rfl, hb⟩
      have H6 := Lib.hid (H4.out.grow hb)
      have HX6 := Lib.hid ((hb.block _ (lt_of_block HX4.out)).trans HX4.out)
      clear hb H4 HX4 hcl
      have HY := HX6
      unfold cellsR at HX6
      obtain ⟨r, hr⟩ : ∃ r, r = strB y.S := ⟨_, rfl⟩
      have HRS : Hid (((y.S.length : Nat) : Int) = ((r.size : Nat) : Int)) := Lib.hid (by rw [hr, strB_size])
      have HFR : Hid (((y.c - y.S.length : Nat) : Int) = (y.c : Int) - (r.size : Int)) := Lib.hid (by have := H6.out.at'.ok.le; rw [hr, strB_size]; omega)
      have i1 : (r.size : Int) ≤ (y.c : Int) := by have := H6.out.at'.ok.le; rw [hr, strB_size]; omega
      have i2 : (y.c : Int) ≤ 4096 := by have := H6.out.at'.ok.top; omega
      have HI1 := Lib.hid i1
      have HI2 := Lib.hid i2
      rw [← hr] at HX6
      have HREQ := Lib.hid hr
      clear hr
      go_wp2_with fail
      refine wp_region_mix (fun W' => W'.heap[BX]? = some (.cells #[.int .i64 (y.c : Nat), .string r, .int .i64 y.wr, .int .i64 y.rd] 30 (0, 0))) 39 [(true, 0), (true, 1), (true, 2), (true, 3), (true, 5), (true, 6), (true, 7), (false, 4), (true, 8), (true, 9), (true, 10), (true, 11), (true, 13), (true, 14), (true, 15), (true, 16), (true, 17), (true, 18), (false, 12), (true, 19), (true, 20), (true, 21), (true, 22), (true, 24), (true, 25), (false, 23), (true, 26), (true, 27), (true, 28), (true, 29), (true, 30), (true, 31), (true, 32), (true, 33), (true, 34), (true, 35), (true, 36), (true, 37), (true, 38)] (by kernel_rfl) (by kernel_rfl) (fun _ _ _ d _ h => by cases d <;> exact h) ?_
      have HD : Hid (Below W6.heap.size W6 W6.drew) := Lib.hid ((Grn.refl W6).drew 1).below
      have HS : Hid (W6.drew.heap[BX]? = some (.cells #[.int .i64 (y.c : Nat), .string r, .int .i64 y.wr, .int .i64 y.rd] 30 (0, 0))) := Lib.hid ((HD.out.block _ (lt_of_block HX6.out)).trans HX6.out)
      have HK6 := Lib.hid (H6.out.grow HD.out)
      have HX7 := HS
      simp only [List.map_cons, List.map_nil, List.getD_cons_zero, List.getD_cons_succ, List.drop_succ_cons, List.drop_zero]
      generalize W6.drew = V at *
      have hlen := flLen_any HK6.out.at'
      rw [show ((y.S.length : Nat) : Int) = ((r.size : Nat) : Int) from HRS.out] at hlen
      have hfree := flFree_any HK6.out.at'
      rw [show ((y.c - y.S.length : Nat) : Int) = (y.c : Int) - (r.size : Int) from HFR.out] at hfree
      have hcap := flCap_any HK6.out.at'
      unfold pt at hlen hfree hcap
      have HLEN := Lib.hid hlen
      have HFREE := Lib.hid hfree
      have HCAP := Lib.hid hcap
      clear hlen hfree hcap
      refine mix_move (.tmp 11) (.bool true) rfl HS.out rfl rfl ?_
      simp only [Act.put, List.setIfInBounds_toArray, List.set_cons_zero, List.set_cons_succ]
      refine mix_take (.bool false) HS.out rfl (fun W' hS => by go_simp) ?_
      simp only [Act.put, List.setIfInBounds_toArray, List.set_cons_zero, List.set_cons_succ]
      refine mix_move (.tmp 61) (.bool false) rfl HS.out rfl rfl ?_
      simp only [Act.put, List.setIfInBounds_toArray, List.set_cons_zero, List.set_cons_succ]
      refine mix_move (.tmp 5) (.pointer (some ⟨m', 0, none⟩)) rfl HS.out rfl rfl ?_
      simp only [Act.put, List.setIfInBounds_toArray, List.set_cons_zero, List.set_cons_succ]
      refine mix_take (.pointer (some ⟨BX, 1, none⟩)) HS.out rfl (fun W' hS => by go_simp) ?_
      simp only [Act.put, List.setIfInBounds_toArray, List.set_cons_zero, List.set_cons_succ]
      refine mix_take (.string r) HS.out rfl (fun W' hS => by
        have e1 := hS
        have l0 := cells_cell (o := 0) e1 rfl
        have l1 := cells_cell (o := 1) e1 rfl
        have l2 := cells_cell (o := 2) e1 rfl
        have l3 := cells_cell (o := 3) e1 rfl
        go_simp) ?_
      simp only [Act.put, List.setIfInBounds_toArray, List.set_cons_zero, List.set_cons_succ]
      refine mix_take (.int .i64 (r.size : Nat)) HS.out rfl (fun W' hS => by go_simp) ?_
      simp only [Act.put, List.setIfInBounds_toArray, List.set_cons_zero, List.set_cons_succ]
      refine mix_step rfl (fun K4 hK => ?_)
      go_simp
      go_wp2_with (go_at_call 14; fail)
      refine HLEN.out.mono ?_
      rintro e w9 ⟨rfl, rfl⟩
      refine hK _ _ HS.out ?_
      clear hK K4
      refine mix_take (.bool false) HS.out rfl (fun W' hS => by go_simp) ?_
      simp only [Act.put, List.setIfInBounds_toArray, List.set_cons_zero, List.set_cons_succ]
      refine mix_take (.bool false) HS.out rfl (fun W' hS => by go_simp) ?_
      simp only [Act.put, List.setIfInBounds_toArray, List.set_cons_zero, List.set_cons_succ]
      refine mix_move (.tmp 69) (.bool false) rfl HS.out rfl rfl ?_
      simp only [Act.put, List.setIfInBounds_toArray, List.set_cons_zero, List.set_cons_succ]
      refine mix_move (.tmp 5) (.pointer (some ⟨m', 0, none⟩)) rfl HS.out rfl rfl ?_
      simp only [Act.put, List.setIfInBounds_toArray, List.set_cons_zero, List.set_cons_succ]
      refine mix_take (.pointer (some ⟨BX, 0, none⟩)) HS.out rfl (fun W' hS => by go_simp) ?_
      simp only [Act.put, List.setIfInBounds_toArray, List.set_cons_zero, List.set_cons_succ]
      refine mix_take (.int .i64 (y.c : Nat)) HS.out rfl (fun W' hS => by
        have e1 := hS
        have l0 := cells_cell (o := 0) e1 rfl
        have l1 := cells_cell (o := 1) e1 rfl
        have l2 := cells_cell (o := 2) e1 rfl
        have l3 := cells_cell (o := 3) e1 rfl
        go_simp) ?_
      simp only [Act.put, List.setIfInBounds_toArray, List.set_cons_zero, List.set_cons_succ]
      refine mix_take (.pointer (some ⟨BX, 1, none⟩)) HS.out rfl (fun W' hS => by go_simp) ?_
      simp only [Act.put, List.setIfInBounds_toArray, List.set_cons_zero, List.set_cons_succ]
      refine mix_take (.string r) HS.out rfl (fun W' hS => by
        have e1 := hS
        have l0 := cells_cell (o := 0) e1 rfl
        have l1 := cells_cell (o := 1) e1 rfl
        have l2 := cells_cell (o := 2) e1 rfl
        have l3 := cells_cell (o := 3) e1 rfl
        go_simp) ?_
      simp only [Act.put, List.setIfInBounds_toArray, List.set_cons_zero, List.set_cons_succ]
      refine mix_take (.int .i64 (r.size : Nat)) HS.out rfl (fun W' hS => by go_simp) ?_
      simp only [Act.put, List.setIfInBounds_toArray, List.set_cons_zero, List.set_cons_succ]
      refine mix_take (.int .i64 ((y.c : Int) - (r.size : Int))) HS.out rfl (fun W' hS => by go_simp; rw [IntKind.wrap_i64]; have := HI1.out; have := HI2.out; omega) ?_
      simp only [Act.put, List.setIfInBounds_toArray, List.set_cons_zero, List.set_cons_succ]
      refine mix_step rfl (fun K12 hK => ?_)
      go_simp
      go_wp2_with (go_at_call 15; fail)
      refine HFREE.out.mono ?_
      rintro e w9 ⟨rfl, rfl⟩
      refine hK _ _ HS.out ?_
      clear hK K12
      refine mix_take (.bool false) HS.out rfl (fun W' hS => by go_simp) ?_
      simp only [Act.put, List.setIfInBounds_toArray, List.set_cons_zero, List.set_cons_succ]
      refine mix_take (.bool false) HS.out rfl (fun W' hS => by go_simp) ?_
      simp only [Act.put, List.setIfInBounds_toArray, List.set_cons_zero, List.set_cons_succ]
      refine mix_move (.tmp 80) (.bool false) rfl HS.out rfl rfl ?_
      simp only [Act.put, List.setIfInBounds_toArray, List.set_cons_zero, List.set_cons_succ]
      refine mix_move (.tmp 5) (.pointer (some ⟨m', 0, none⟩)) rfl HS.out rfl rfl ?_
      simp only [Act.put, List.setIfInBounds_toArray, List.set_cons_zero, List.set_cons_succ]
      refine mix_take (.pointer (some ⟨BX, 0, none⟩)) HS.out rfl (fun W' hS => by go_simp) ?_
      simp only [Act.put, List.setIfInBounds_toArray, List.set_cons_zero, List.set_cons_succ]
      refine mix_take (.int .i64 (y.c : Nat)) HS.out rfl (fun W' hS => by
        have e1 := hS
        have l0 := cells_cell (o := 0) e1 rfl
        have l1 := cells_cell (o := 1) e1 rfl
        have l2 := cells_cell (o := 2) e1 rfl
        have l3 := cells_cell (o := 3) e1 rfl
        go_simp) ?_
      simp only [Act.put, List.setIfInBounds_toArray, List.set_cons_zero, List.set_cons_succ]
      refine mix_step rfl (fun K23 hK => ?_)
      go_simp
      go_wp2_with (go_at_call 16; fail)
      refine HCAP.out.mono ?_
      rintro e w9 ⟨rfl, rfl⟩
      refine hK _ _ HS.out ?_
      clear hK K23
      refine mix_take (.bool false) HS.out rfl (fun W' hS => by go_simp) ?_
      simp only [Act.put, List.setIfInBounds_toArray, List.set_cons_zero, List.set_cons_succ]
      refine mix_take (.bool false) HS.out rfl (fun W' hS => by go_simp) ?_
      simp only [Act.put, List.setIfInBounds_toArray, List.set_cons_zero, List.set_cons_succ]
      refine mix_move (.tmp 87) (.bool false) rfl HS.out rfl rfl ?_
      simp only [Act.put, List.setIfInBounds_toArray, List.set_cons_zero, List.set_cons_succ]
      refine mix_move (.tmp 12) (.int .i64 y.wr) rfl HS.out rfl rfl ?_
      simp only [Act.put, List.setIfInBounds_toArray, List.set_cons_zero, List.set_cons_succ]
      refine mix_take (.pointer (some ⟨BX, 2, none⟩)) HS.out rfl (fun W' hS => by go_simp) ?_
      simp only [Act.put, List.setIfInBounds_toArray, List.set_cons_zero, List.set_cons_succ]
      refine mix_take (.int .i64 y.wr) HS.out rfl (fun W' hS => by
        have e1 := hS
        have l0 := cells_cell (o := 0) e1 rfl
        have l1 := cells_cell (o := 1) e1 rfl
        have l2 := cells_cell (o := 2) e1 rfl
        have l3 := cells_cell (o := 3) e1 rfl
        go_simp) ?_
      simp only [Act.put, List.setIfInBounds_toArray, List.set_cons_zero, List.set_cons_succ]
      refine mix_take (.bool false) HS.out rfl (fun W' hS => by go_simp) ?_
      simp only [Act.put, List.setIfInBounds_toArray, List.set_cons_zero, List.set_cons_succ]
      refine mix_take (.bool false) HS.out rfl (fun W' hS => by go_simp) ?_
      simp only [Act.put, List.setIfInBounds_toArray, List.set_cons_zero, List.set_cons_succ]
      refine mix_move (.tmp 93) (.bool false) rfl HS.out rfl rfl ?_
      simp only [Act.put, List.setIfInBounds_toArray, List.set_cons_zero, List.set_cons_succ]
      refine mix_move (.tmp 13) (.int .i64 y.rd) rfl HS.out rfl rfl ?_
      simp only [Act.put, List.setIfInBounds_toArray, List.set_cons_zero, List.set_cons_succ]
      refine mix_take (.pointer (some ⟨BX, 3, none⟩)) HS.out rfl (fun W' hS => by go_simp) ?_
      simp only [Act.put, List.setIfInBounds_toArray, List.set_cons_zero, List.set_cons_succ]
      refine mix_take (.int .i64 y.rd) HS.out rfl (fun W' hS => by
        have e1 := hS
        have l0 := cells_cell (o := 0) e1 rfl
        have l1 := cells_cell (o := 1) e1 rfl
        have l2 := cells_cell (o := 2) e1 rfl
        have l3 := cells_cell (o := 3) e1 rfl
        go_simp) ?_
      simp only [Act.put, List.setIfInBounds_toArray, List.set_cons_zero, List.set_cons_succ]
      refine mix_take (.bool false) HS.out rfl (fun W' hS => by go_simp) ?_
      simp only [Act.put, List.setIfInBounds_toArray, List.set_cons_zero, List.set_cons_succ]
      refine mix_nil ?_
      have HF : Hid (V.heap[BX]? = some (.cells (cellsR y) 30 (0, 0))) := Lib.hid (by have := HX7.out; rw [HREQ.out] at this; exact this)
      clear HX7 HS HX6 HY
      go_wp2_with fail
      go_roundw
      case rel => exact ⟨k + 1, m', b', y, by omega, by go_num, rfl, HK6, HF⟩
      case measure => simp [intOf]; omega
    · obtain rfl : k = N := by omega
      go_wp2_with (go_at_call 9; refine (known_any _).mono ?_; rintro e w9 ⟨rfl, hb⟩)
      go_ret
      exact ⟨rfl, HK.out.be.trans (hb.mono HK.out.be.size)⟩
end Go.Proofs.Ytaallpbcgabdnaa
