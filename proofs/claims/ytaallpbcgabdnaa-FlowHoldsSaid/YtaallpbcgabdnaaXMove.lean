/- Write, Read, Copy. -/
import Derived.Test.YtaallpbcgabdnaaXCall
import Derived.StillTail
import Derived.StillTailTactics
namespace Go.Proofs.Ytaallpbcgabdnaa
open Go.RowKit Go.Sort
set_option linter.unusedVariables false
set_option linter.unusedSimpArgs false
set_option maxHeartbeats 1600000 in
theorem or3_any (B cap : Nat) (x y z : Int) (w : World) (c0 : w.cell? ⟨B, 0, none⟩ = some (.int .i64 x)) (c1 : w.cell? ⟨B, 1, none⟩ = some (.int .i64 y)) (c2 : w.cell? ⟨B, 2, none⟩ = some (.int .i64 z)) :
    Calls Try.prog 41 #[.slice (some ⟨B, 0, none⟩) 3 cap] w fun e w' => e = .returned (.int .i64 (orI x (orI y z))) ∧ w' = w := by
  go_enter Try.func41, Try.ntmps41
  go_wp2_with fail
  go_loop [8] (fun i => ∃ k : Nat, k ≤ 3 ∧ (0 < k → x = 0) ∧ (1 < k → y = 0) ∧ (2 < k → z = 0) ∧ i = .int .i64 k) (fun i => 3 - (intOf i).toNat)
  case atStart => exact ⟨0, by omega, by omega, by omega, by omega, rfl⟩
  case round =>
    obtain ⟨k, hk, hx, hy, hz, rfl⟩ := hrel
    rcases (by omega : k = 0 ∨ k = 1 ∨ k = 2 ∨ k = 3) with rfl | rfl | rfl | rfl
    · clear hx hy hz
      by_cases h : x = 0
      · subst h
        go_wp2_with fail
        go_round
        case rel => exact ⟨1, by omega, by simp, by omega, by omega, by go_num⟩
        case measure => simp [intOf]
      · have q : (x != 0) = true := by simp [h]
        have he := Lib.hid (show orI x (orI y z) = x by unfold orI; rw [if_neg h])
        clear h
        go_wp2_with fail
        go_ret
        exact ⟨by rw [he.out]; rfl, rfl⟩
    · obtain rfl := hx (by omega)
      clear hx hy hz
      by_cases h : y = 0
      · subst h
        go_wp2_with fail
        go_round
        case rel => exact ⟨2, by omega, by simp, by simp, by omega, by go_num⟩
        case measure => simp [intOf]
      · have q : (y != 0) = true := by simp [h]
        have he := Lib.hid (show orI 0 (orI y z) = y by unfold orI; rw [if_pos rfl, if_neg h])
        clear h
        go_wp2_with fail
        go_ret
        exact ⟨by rw [he.out]; rfl, rfl⟩
    · obtain rfl := hx (by omega)
      obtain rfl := hy (by omega)
      clear hx hy hz
      by_cases h : z = 0
      · subst h
        go_wp2_with fail
        go_round
        case rel => exact ⟨3, by omega, by simp, by simp, by simp, by go_num⟩
        case measure => simp [intOf]
      · have q : (z != 0) = true := by simp [h]
        have he := Lib.hid (show orI 0 (orI 0 z) = z by unfold orI; rw [if_pos rfl, if_pos rfl])
        clear h
        go_wp2_with fail
        go_ret
        exact ⟨by rw [he.out]; rfl, rfl⟩
    · obtain rfl := hx (by omega)
      obtain rfl := hy (by omega)
      obtain rfl := hz (by omega)
      go_wp2_with fail
      go_ret
      exact ⟨rfl, rfl⟩
section
variable {w : World} {m : Nat} {k : Fb} {x : Ft}
theorem flWrite_no {c : Nat} {v u : Value} {Ps : Parts} (h : NoF w u) (R : RopeAt w c v Ps) : Calls Try.prog 18 #[u, v] w fun e w' => e = .returned (.tuple #[.int .i64 0, .int .i64 1]) ∧ Below w.heap.size w w' := by
  obtain ⟨y1, y2, y3, y4, y5, y6, rfl⟩ := R.shape
  have hwb := below_alloc w (.cells #[.slice y1 y2 y3, .slice y4 y5 y6] 48)
  have hu := Lib.hid (flUsable_no (h.grown hwb))
  obtain ⟨a, rfl⟩ : ∃ a, u = .pointer a := by rcases h with h | ⟨q, h, _⟩ <;> exact ⟨_, h⟩
  have HB := Lib.hid hwb
  clear h R hwb
  go_enter Try.func18, Try.ntmps18
  go_wp2_with (go_at_call 31; refine hu.out.mono ?_; rintro e w' ⟨rfl, rfl⟩)
  go_ret2
  exact ⟨rfl, HB.out⟩
set_option maxRecDepth 100000 in
set_option maxHeartbeats 3200000 in
theorem flWrite_any {c : Nat} {v : Value} {Ps : Parts} (h : FAt w m k x) (R : RopeAt w c v Ps) : Calls Try.prog 18 #[pt m, v] w fun e w' => e = .returned (.tuple #[.int .i64 ((wrC x Ps.flatten).1 : Nat), .int .i64 (wrC x Ps.flatten).2.1]) ∧ FAt w' m k (wrC x Ps.flatten).2.2 ∧ Fr k.F w w' := by
  obtain ⟨y1, y2, y3, y4, y5, y6, rfl⟩ := R.shape
  obtain ⟨W, hW⟩ : ∃ W, W = w.alloc (.cells #[.slice y1 y2 y3, .slice y4 y5 y6] 48) := ⟨_, rfl⟩
  have hwb : Below w.heap.size w W := by rw [hW]; exact below_alloc _ _
  have hx := h.grown hwb
  have HB := Lib.hid hwb
  have HR := Lib.hid (R.grown hwb)
  have HSZ := Lib.hid R.size
  have HX := Lib.hid (wrC_ok (L := Ps.flatten) h.ok).1
  have HOK := Lib.hid h.ok
  have q := cells_cell (o := 0) hx.me rfl
  have k1 := cells_cell (o := 1) hx.bd rfl
  have k2 := cells_cell (o := 2) hx.bd rfl
  have k0 := cells_cell (o := 0) hx.bd rfl
  have HBX : Hid (W.heap[w.heap.size]? = some (.cells #[.slice y1 y2 y3, .slice y4 y5 y6] 48 (0, 0))) := Lib.hid (by rw [hW]; exact heap_alloc_new w _)
  have hr0 := cells_cell (o := 0) HBX.out rfl
  have hr1 := cells_cell (o := 1) HBX.out rfl
  have hu := Lib.hid (flUsable_yes hx)
  have hlen := Lib.hid (len_any HR.out)
  have H := Lib.hid hx
  have HW := Lib.hid hW.symm
  clear hW R h hx hwb
  unfold wrC at *
  by_cases hrd : x.rd = 0
  · rw [if_neg (by simp [hrd])] at HX ⊢
    by_cases hwr : x.wr = 0
    · rw [if_neg (by simp [hwr])] at HX ⊢
      rw [hrd] at k1
      rw [hwr] at k2
      have HRD := Lib.hid hrd
      have HWR := Lib.hid hwr
      obtain ⟨N, hN⟩ : ∃ N, N = Ps.flatten.length := ⟨_, rfl⟩
      rw [← hN] at hlen HSZ
      have HN := Lib.hid hN
      by_cases h0 : N = 0
      · rw [if_pos (by rw [← hN]; exact h0)] at HX ⊢
        have q2 : ((N : Int) == 0) = true := by simp [h0]
        clear hrd hwr hN h0
        unfold pt at *
        go_enter Try.func18, Try.ntmps18
        go_wp2_with fail
        rw [HW.out]
        go_wp2_with (first
          | (go_at_call 31; refine hu.out.mono ?_; rintro e w' ⟨rfl, rfl⟩)
          | (go_at_call 36; fail))
        refine hlen.out.mono ?_
        rintro e w2 ⟨rfl, hb2⟩
        have H2 := Lib.hid (H.out.grown hb2)
        have HB2 := Lib.hid hb2
        clear hb2
        go_wp2_with fail
        go_ret2
        exact ⟨rfl, H2.out, Fr.of_below (HB.out.trans (HB2.out.mono HB.out.size)) _⟩
      · rw [if_neg (by rw [← hN]; exact h0)] at HX ⊢
        have q2 : ((N : Int) == 0) = false := by simp; omega
        have H0 := Lib.hid h0
        clear hrd hwr hN h0
        unfold pt at *
        obtain ⟨D, hD⟩ : ∃ D, D = x.c - x.S.length := ⟨_, rfl⟩
        rw [← hD] at HX ⊢
        have HD := Lib.hid hD
        by_cases hd0 : D = 0
        · rw [if_pos hd0]
          rw [if_pos hd0] at HX
          have q3 : ((D : Int) == 0) = true := by simp [hd0]
          clear hD hd0
          go_enter Try.func18, Try.ntmps18
          go_wp2_with fail
          rw [HW.out]
          go_wp2_with (first
            | (go_at_call 31; refine hu.out.mono ?_; rintro e w' ⟨rfl, rfl⟩)
            | (go_at_call 36; fail))
          refine hlen.out.mono ?_
          rintro e w2 ⟨rfl, hb2⟩
          have h2 := H.out.grown hb2
          have H2 := Lib.hid h2
          have HB2 := Lib.hid hb2
          have hfr := rgFree_at h2.rg
          rw [← HD.out] at hfr
          have HFR := Lib.hid hfr
          have p0 := cells_cell (o := 0) h2.bd rfl
          clear hb2 h2 hfr
          unfold pt at p0 HFR
          go_wp2_with (go_at_call 34; refine HFR.out.mono ?_; rintro e w3 ⟨rfl, rfl⟩)
          go_ret2
          exact ⟨rfl, H2.out, Fr.of_below (HB.out.trans (HB2.out.mono HB.out.size)) _⟩
        · rw [if_neg hd0]
          rw [if_neg hd0] at HX
          have q3 : ((D : Int) == 0) = false := by simp; omega
          obtain ⟨n4, hn4⟩ : ∃ n4, n4 = x.n Ps.flatten := ⟨_, rfl⟩
          rw [← hn4] at HX ⊢
          have HN4 := Lib.hid hn4
          clear hD hd0 hn4
          go_enter Try.func18, Try.ntmps18
          go_wp2_with fail
          rw [HW.out]
          go_wp2_with (first
            | (go_at_call 31; refine hu.out.mono ?_; rintro e w' ⟨rfl, rfl⟩)
            | (go_at_call 36; fail))
          refine hlen.out.mono ?_
          rintro e w2 ⟨rfl, hb2⟩
          have h2 := H.out.grown hb2
          have H2 := Lib.hid h2
          have HB2 := Lib.hid hb2
          have HR2 := Lib.hid (HR.out.grown hb2)
          have HBX2 := Lib.hid ((hb2.block _ (lt_of_block HBX.out)).trans HBX.out)
          have hfr := rgFree_at h2.rg
          rw [← HD.out] at hfr
          have HFR := Lib.hid hfr
          have p0 := cells_cell (o := 0) h2.bd rfl
          have hbd := h2.bd
          rw [HRD.out, HWR.out] at hbd
          have HBD := Lib.hid hbd
          clear hb2 h2 hfr hbd
          unfold pt at p0 HFR HBD
          go_wp2_with (go_at_call 34; refine HFR.out.mono ?_; rintro e w3 ⟨rfl, rfl⟩)
          refine wp_region_mix (fun W' => W'.heap[k.b]? = some (.cells #[.pointer (some ⟨k.a, 0, none⟩), .int .i64 0, .int .i64 0] 68 (0, 0)) ∧ W'.heap[w.heap.size]? = some (.cells #[.slice y1 y2 y3, .slice y4 y5 y6] 48 (0, 0))) 9 [(true, 0), (true, 1), (true, 2), (true, 3), (true, 4), (false, 5), (false, 6), (true, 7), (true, 8)] (by kernel_rfl) (by kernel_rfl) (fun _ _ _ d _ h => by cases d <;> exact h) ?_
          have HDR : Hid (Below w2.heap.size w2 w2.drew) := Lib.hid ((Grn.refl w2).drew 1).below
          have HS : Hid (w2.drew.heap[k.b]? = some (.cells #[.pointer (some ⟨k.a, 0, none⟩), .int .i64 0, .int .i64 0] 68 (0, 0)) ∧ w2.drew.heap[w.heap.size]? = some (.cells #[.slice y1 y2 y3, .slice y4 y5 y6] 48 (0, 0))) := Lib.hid ⟨(HDR.out.block _ (lt_of_block HBD.out)).trans HBD.out, (HDR.out.block _ (lt_of_block HBX2.out)).trans HBX2.out⟩
          simp only [List.map_cons, List.map_nil, List.getD_cons_zero, List.getD_cons_succ, List.drop_succ_cons, List.drop_zero]
          generalize w2.drew = V at *
          refine mix_move (.tmp 6) (.pointer (some ⟨k.b, 0, none⟩)) rfl HS.out rfl rfl ?_
          simp only [Act.put, List.setIfInBounds_toArray, List.set_cons_zero, List.set_cons_succ]
          refine mix_take (.pointer (some ⟨k.b, 0, none⟩)) HS.out rfl (fun W' hS => by go_simp) ?_
          simp only [Act.put, List.setIfInBounds_toArray, List.set_cons_zero, List.set_cons_succ]
          refine mix_take (.pointer (some ⟨k.b, 0, none⟩)) HS.out rfl (fun W' hS => by go_simp) ?_
          simp only [Act.put, List.setIfInBounds_toArray, List.set_cons_zero, List.set_cons_succ]
          refine mix_take (.pointer (some ⟨k.a, 0, none⟩)) HS.out rfl (fun W' hS => by
            have e1 := hS.1
            have l0 := cells_cell (o := 0) e1 rfl
            have l1 := cells_cell (o := 1) e1 rfl
            have l2 := cells_cell (o := 2) e1 rfl
            go_simp) ?_
          simp only [Act.put, List.setIfInBounds_toArray, List.set_cons_zero, List.set_cons_succ]
          refine mix_take (.agg #[(.slice y1 y2 y3), (.slice y4 y5 y6)]) HS.out rfl (fun W' hS => by
            have e1 := hS.2
            have l0 := cells_cell (o := 0) e1 rfl
            have l1 := cells_cell (o := 1) e1 rfl
            go_simp) ?_
          simp only [Act.put, List.setIfInBounds_toArray, List.set_cons_zero, List.set_cons_succ]
          refine mix_step rfl (fun K5 hK => ?_)
          go_simp
          go_wp2_with (go_at_call 38; fail)
          refine (bytes_any (HR2.out.grown HDR.out)).mono ?_
          rintro e w4 ⟨v4, rfl, hrow, hb4⟩
          have HROW := Lib.hid hrow
          have HB4 := Lib.hid hb4
          have HS4 : Hid (w4.heap[k.b]? = some (.cells #[.pointer (some ⟨k.a, 0, none⟩), .int .i64 0, .int .i64 0] 68 (0, 0)) ∧ w4.heap[w.heap.size]? = some (.cells #[.slice y1 y2 y3, .slice y4 y5 y6] 48 (0, 0))) := Lib.hid ⟨(hb4.block _ (lt_of_block HS.out.1)).trans HS.out.1, (hb4.block _ (lt_of_block HS.out.2)).trans HS.out.2⟩
          obtain ⟨ra, rn, rc, rfl⟩ := row_form hrow
          clear hrow hb4
          have hx4 := (H2.out.grown HDR.out).grown HB4.out
          have HXF := Lib.hid hx4
          have hlt4 := (H2.out.grown HDR.out).lt
          have hwr4 := rgWrite_at hx4.rg HROW.out (by rw [← HN.out]; have := H0.out; omega) (by rw [← HN.out]; exact HSZ.out) hlt4.2.2.2.1 hlt4.2.2.2.2
          have hn4 : min Ps.flatten.length (x.c - x.S.length) = n4 := HN4.out.symm
          rw [hn4] at hwr4
          clear hn4
          have HWW := Lib.hid hwr4
          have HBB : Hid (Below w.heap.size w w4) := Lib.hid (HB.out.trans ((HB2.out.trans ((HDR.out.trans (HB4.out.mono HDR.out.size)).mono HB2.out.size)).mono HB.out.size))
          clear hx4 hlt4 hwr4
          unfold pt at HWW
          refine hK _ _ HS4.out ?_
          clear hK K5
          refine mix_step rfl (fun K6 hK => ?_)
          go_simp
          go_wp2_with (go_at_call 37; fail)
          refine HWW.out.mono ?_
          rintro e w5 ⟨rfl, hr5, hf5⟩
          have hF := HXF.out.ring hf5 hr5 HX.out
          have HF5 := Lib.hid hF
          have HFF : Hid (Fr k.F w w5) := Lib.hid ((Fr.of_below HBB.out k.F).trans' hF.2)
          have hbx : w.heap.size ∉ k.F := HXF.out.not HS4.out.2 (by decide) (by decide) (by decide)
          have HS5 : Hid (w5.heap[k.b]? = some (.cells #[.pointer (some ⟨k.a, 0, none⟩), .int .i64 0, .int .i64 0] 68 (0, 0)) ∧ w5.heap[w.heap.size]? = some (.cells #[.slice y1 y2 y3, .slice y4 y5 y6] 48 (0, 0))) := Lib.hid ⟨by have h5 := hF.1.bd; simp only [HRD.out, HWR.out] at h5; exact h5, hF.2.same HS4.out.2 hbx⟩
          clear hr5 hf5 hF hbx
          refine hK _ _ HS5.out ?_
          clear hK K6
          refine mix_take (.int .i64 ((n4 : Nat) : Int)) HS5.out rfl (fun W' hS => by go_simp) ?_
          simp only [Act.put, List.setIfInBounds_toArray, List.set_cons_zero, List.set_cons_succ]
          refine mix_take (.int .i64 0) HS5.out rfl (fun W' hS => by go_simp) ?_
          simp only [Act.put, List.setIfInBounds_toArray, List.set_cons_zero, List.set_cons_succ]
          refine mix_nil ?_
          go_wp2_with fail
          go_ret2
          exact ⟨rfl, HF5.out.1, HFF.out⟩
    · rw [if_pos hwr] at HX ⊢
      rw [hrd] at k1
      obtain ⟨s, hs⟩ : ∃ s, s = x.wr := ⟨_, rfl⟩
      rw [← hs] at k2 hwr
      have q1 : (s != 0) = true := by simp [hwr]
      clear hwr hrd hs
      unfold pt at *
      go_enter Try.func18, Try.ntmps18
      go_wp2_with fail
      rw [HW.out]
      go_wp2_with (go_at_call 31; refine hu.out.mono ?_; rintro e w' ⟨rfl, rfl⟩)
      go_ret2
      exact ⟨rfl, H.out, Fr.of_below HB.out _⟩
  · rw [if_pos hrd] at HX ⊢
    obtain ⟨r, hr⟩ : ∃ r, r = x.rd := ⟨_, rfl⟩
    rw [← hr] at k1 hrd ⊢
    have q1 : (r != 0) = true := by simp [hrd]
    clear hrd hr
    unfold pt at *
    go_enter Try.func18, Try.ntmps18
    go_wp2_with fail
    rw [HW.out]
    go_wp2_with (go_at_call 31; refine hu.out.mono ?_; rintro e w' ⟨rfl, rfl⟩)
    go_quiet (fail)
    have HQ : Hid (∀ n, FAt (W.drewN n) m k x ∧ Fr k.F w (W.drewN n)) := Lib.hid (fun n => ⟨H.out.grown ((Grn.refl W).drew n).below, Fr.of_below (HB.out.trans (((Grn.refl W).drew n).below.mono HB.out.size)) _⟩)
    go_wp2_with fail
    go_ret2
    exact ⟨rfl, HQ.out _⟩
theorem flRead_no {u : Value} (h : NoF w u) (n : Int) : Calls Try.prog 22 #[u, .int .i64 n] w fun e w' => e = .returned (.tuple #[.slice none 0 0, .int .i64 1]) ∧ w = w' := by
  have hu := Lib.hid (flUsable_no h)
  obtain ⟨a, rfl⟩ : ∃ a, u = .pointer a := by rcases h with h | ⟨q, h, _⟩ <;> exact ⟨_, h⟩
  clear h
  go_enter Try.func22, Try.ntmps22
  go_wp2_with (go_at_call 31; refine hu.out.mono ?_; rintro e w' ⟨rfl, rfl⟩)
  go_ret2
  exact ⟨rfl, rfl⟩
set_option maxRecDepth 100000 in
set_option maxHeartbeats 3200000 in
theorem flRead_any (h : FAt w m k x) (n : Int) : Calls Try.prog 22 #[pt m, .int .i64 n] w fun e w' => ∃ vp, e = .returned (.tuple #[vp, .int .i64 (rdC x n).2.1]) ∧ RowB w' w.heap.size vp (rdC x n).1 ∧ FAt w' m k (rdC x n).2.2 ∧ Fr k.F w w' := by
  have hu := Lib.hid (flUsable_yes h)
  have H := Lib.hid h
  have HX := Lib.hid (rdC_ok (n := n) h.ok).1
  have q := cells_cell (o := 0) h.me rfl
  have k0 := cells_cell (o := 0) h.bd rfl
  have k1 := cells_cell (o := 1) h.bd rfl
  have k2 := cells_cell (o := 2) h.bd rfl
  have hl := Lib.hid (rgLen_at h.rg)
  unfold rdC at *
  by_cases hn : n < 0
  · rw [if_pos hn] at HX ⊢
    clear h
    unfold pt at *
    go_enter Try.func22, Try.ntmps22
    go_wp2_with (go_at_call 31; refine hu.out.mono ?_; rintro e w' ⟨rfl, rfl⟩)
    go_ret2
    exact ⟨_, rfl, World.ownsRow_nil _ _ _ _, H.out, Fr.refl _ _⟩
  · rw [if_neg hn] at HX ⊢
    by_cases h0 : n = 0
    · rw [if_pos h0] at HX ⊢
      subst h0
      clear h hn
      unfold pt at *
      go_enter Try.func22, Try.ntmps22
      go_wp2_with (go_at_call 31; refine hu.out.mono ?_; rintro e w' ⟨rfl, rfl⟩)
      go_ret2
      exact ⟨_, rfl, World.ownsRow_nil _ _ _ _, H.out, Fr.refl _ _⟩
    · rw [if_neg h0] at HX ⊢
      have hn0 : (n == 0) = false := by simp; omega
      have hn1 : decide (n < 0) = false := by simp; omega
      have HNN : Hid (0 ≤ n) := Lib.hid (by omega)
      by_cases hS : x.S.length = 0
      · rw [if_pos hS] at HX ⊢
        have q3 : (((x.S.length : Nat) : Int) == 0) = true := by simp [hS]
        generalize x.S.length = sl at *
        generalize hxr : x.rd = r at *
        generalize hxs : x.wr = s at *
        clear h hn h0 hS hxr hxs
        unfold pt at *
        go_enter Try.func22, Try.ntmps22
        go_wp2_with (first
          | (go_at_call 31; refine hu.out.mono ?_; rintro e w' ⟨rfl, rfl⟩)
          | (go_at_call 33; refine hl.out.mono ?_; rintro e w' ⟨rfl, rfl⟩))
        refine wp_region_still_tail 10 (by kernel_rfl) (by kernel_rfl) ?_
        simp only [List.take_succ_cons, List.take_zero, List.drop_succ_cons, List.drop_zero]
        change wpStill _ _ (World.drew _) (fun a' => wpList _ _ _ _ a' (World.drew _)) _ _
        repeat (first | still_step)
        refine wpStill_nil ?_
        go_wp2_with (go_at_call 41; fail)
        refine Calls.mono (or3_any _ _ r s 16 _ ?c0 ?c1 ?c2) ?_
        case c0 => exact cell_new _ _ _ _ _ _ (by simp) rfl
        case c1 => exact cell_new _ _ _ _ _ _ (by simp) rfl
        case c2 => exact cell_new _ _ _ _ _ _ (by simp) rfl
        rintro e w1 ⟨rfl, rfl⟩
        have HZ := Lib.hid (((Grn.refl w).drew 1).alloc (.cells #[.int .i64 r, .int .i64 s, .int .i64 16] 26)).below
        go_wp2_with fail
        go_ret2
        exact ⟨_, rfl, World.ownsRow_nil _ _ _ _, H.out.grown HZ.out, Fr.of_below HZ.out _⟩
      · rw [if_neg hS] at HX ⊢
        have q3 : (((x.S.length : Nat) : Int) == 0) = false := by simpa using hS
        have hrr := Lib.hid (rgRead_at h.rg n HNN.out)
        generalize x.S.length = sl at *
        clear h hn h0 hS
        unfold pt at *
        go_enter Try.func22, Try.ntmps22
        go_wp2_with (first
          | (go_at_call 31; refine hu.out.mono ?_; rintro e w' ⟨rfl, rfl⟩)
          | (go_at_call 33; refine hl.out.mono ?_; rintro e w' ⟨rfl, rfl⟩)
          | (go_at_call 42; fail))
        refine hrr.out.mono ?_
        rintro e w2 ⟨vp, rfl, hrow, hr2, hf2⟩
        have HF2 := Lib.hid (H.out.ring hf2 hr2 HX.out)
        have HRW := Lib.hid hrow
        obtain ⟨ra, rn, rc, rfl⟩ := row_form hrow
        clear hrow hr2 hf2
        go_wp2_with fail
        go_ret2
        exact ⟨_, rfl, HRW.out, HF2.out⟩
theorem flCopy_no {u : Value} (h : NoF w u) : Calls Try.prog 24 #[u] w fun e w' => e = .returned (.pointer none) ∧ w = w' := by
  have hu := Lib.hid (flUsable_no h)
  obtain ⟨a, rfl⟩ : ∃ a, u = .pointer a := by rcases h with h | ⟨q, h, _⟩ <;> exact ⟨_, h⟩
  clear h
  go_enter Try.func24, Try.ntmps24
  go_wp2_with (go_at_call 31; refine hu.out.mono ?_; rintro e w' ⟨rfl, rfl⟩)
  go_ret
  exact ⟨rfl, rfl⟩
set_option maxRecDepth 100000 in
set_option maxHeartbeats 3200000 in
theorem flCopy_any (h : FAt w m k x) : Calls Try.prog 24 #[pt m] w fun e w' => ∃ m' k', e = .returned (pt m') ∧ FAt w' m' k' x ∧ FAt w' m k x ∧ NewK w.heap.size m' k' ∧ Below w.heap.size w w' := by
  have hu := Lib.hid (flUsable_yes h)
  have H := Lib.hid h
  have HME := Lib.hid h.me
  have HBD := Lib.hid h.bd
  have HRG := Lib.hid h.rg
  have HOK := Lib.hid h.ok
  obtain ⟨r, hr⟩ : ∃ r, r = x.rd := ⟨_, rfl⟩
  obtain ⟨s, hs⟩ : ∃ s, s = x.wr := ⟨_, rfl⟩
  rw [← hr, ← hs] at HBD
  have HRS := Lib.hid (And.intro hr hs)
  clear h hr hs
  unfold pt at HME HBD ⊢
  go_enter Try.func24, Try.ntmps24
  go_wp2_with (go_at_call 31; refine hu.out.mono ?_; rintro e w' ⟨rfl, rfl⟩)
  refine wp_region_mix (fun W' => W'.heap[m]? = some (.cells #[.pointer (some ⟨k.b, 0, none⟩)] 56 (0, 0)) ∧ W'.heap[k.b]? = some (.cells #[.pointer (some ⟨k.a, 0, none⟩), .int .i64 r, .int .i64 s] 68 (0, 0))) 15 [(true, 0), (true, 1), (true, 2), (true, 3), (true, 4), (true, 5), (true, 6), (true, 8), (true, 9), (true, 10), (true, 11), (true, 12), (true, 13), (true, 14), (false, 7)] (by kernel_rfl) (by kernel_rfl) (fun _ _ _ d _ h => by cases d <;> exact h) ?_
  have HD : Hid (Below w.heap.size w w.drew) := Lib.hid ((Grn.refl w).drew 1).below
  have HS : Hid (w.drew.heap[m]? = some (.cells #[.pointer (some ⟨k.b, 0, none⟩)] 56 (0, 0)) ∧ w.drew.heap[k.b]? = some (.cells #[.pointer (some ⟨k.a, 0, none⟩), .int .i64 r, .int .i64 s] 68 (0, 0))) := Lib.hid ⟨(HD.out.block _ (lt_of_block HME.out)).trans HME.out, (HD.out.block _ (lt_of_block HBD.out)).trans HBD.out⟩
  simp only [List.map_cons, List.map_nil, List.getD_cons_zero, List.getD_cons_succ, List.drop_succ_cons, List.drop_zero]
  generalize w.drew = V at *
  refine mix_move (.tmp 0) (.pointer (some ⟨m, 0, none⟩)) rfl HS.out rfl rfl ?_
  simp only [Act.put, List.setIfInBounds_toArray, List.set_cons_zero, List.set_cons_succ]
  refine mix_take (.pointer (some ⟨m, 0, none⟩)) HS.out rfl (fun W' hS => by go_simp) ?_
  simp only [Act.put, List.setIfInBounds_toArray, List.set_cons_zero, List.set_cons_succ]
  refine mix_take (.pointer (some ⟨m, 0, none⟩)) HS.out rfl (fun W' hS => by go_simp) ?_
  simp only [Act.put, List.setIfInBounds_toArray, List.set_cons_zero, List.set_cons_succ]
  refine mix_take (.pointer (some ⟨k.b, 0, none⟩)) HS.out rfl (fun W' hS => by
    have e1 := hS.1
    have l0 := cells_cell (o := 0) e1 rfl
    go_simp) ?_
  simp only [Act.put, List.setIfInBounds_toArray, List.set_cons_zero, List.set_cons_succ]
  refine mix_take (.pointer (some ⟨k.b, 0, none⟩)) HS.out rfl (fun W' hS => by go_simp) ?_
  simp only [Act.put, List.setIfInBounds_toArray, List.set_cons_zero, List.set_cons_succ]
  refine mix_take (.pointer (some ⟨k.b, 0, none⟩)) HS.out rfl (fun W' hS => by go_simp) ?_
  simp only [Act.put, List.setIfInBounds_toArray, List.set_cons_zero, List.set_cons_succ]
  refine mix_take (.pointer (some ⟨k.a, 0, none⟩)) HS.out rfl (fun W' hS => by
    have e1 := hS.2
    have l0 := cells_cell (o := 0) e1 rfl
    have l1 := cells_cell (o := 1) e1 rfl
    have l2 := cells_cell (o := 2) e1 rfl
    go_simp) ?_
  simp only [Act.put, List.setIfInBounds_toArray, List.set_cons_zero, List.set_cons_succ]
  refine mix_move (.tmp 0) (.pointer (some ⟨m, 0, none⟩)) rfl HS.out rfl rfl ?_
  simp only [Act.put, List.setIfInBounds_toArray, List.set_cons_zero, List.set_cons_succ]
  refine mix_take (.pointer (some ⟨m, 0, none⟩)) HS.out rfl (fun W' hS => by go_simp) ?_
  simp only [Act.put, List.setIfInBounds_toArray, List.set_cons_zero, List.set_cons_succ]
  refine mix_take (.pointer (some ⟨m, 0, none⟩)) HS.out rfl (fun W' hS => by go_simp) ?_
  simp only [Act.put, List.setIfInBounds_toArray, List.set_cons_zero, List.set_cons_succ]
  refine mix_take (.pointer (some ⟨k.b, 0, none⟩)) HS.out rfl (fun W' hS => by
    have e1 := hS.1
    have l0 := cells_cell (o := 0) e1 rfl
    go_simp) ?_
  simp only [Act.put, List.setIfInBounds_toArray, List.set_cons_zero, List.set_cons_succ]
  refine mix_take (.pointer (some ⟨k.b, 0, none⟩)) HS.out rfl (fun W' hS => by go_simp) ?_
  simp only [Act.put, List.setIfInBounds_toArray, List.set_cons_zero, List.set_cons_succ]
  refine mix_take (.pointer (some ⟨k.b, 1, none⟩)) HS.out rfl (fun W' hS => by go_simp) ?_
  simp only [Act.put, List.setIfInBounds_toArray, List.set_cons_zero, List.set_cons_succ]
  refine mix_take (.agg #[.int .i64 r, .int .i64 s]) HS.out rfl (fun W' hS => by
    have e1 := hS.2
    have l0 := cells_cell (o := 0) e1 rfl
    have l1 := cells_cell (o := 1) e1 rfl
    have l2 := cells_cell (o := 2) e1 rfl
    go_simp) ?_
  simp only [Act.put, List.setIfInBounds_toArray, List.set_cons_zero, List.set_cons_succ]
  refine mix_step rfl (fun K7 hK => ?_)
  go_simp
  have hcc := rgCopy_at (HRG.out.grown HD.out)
  have HCC := Lib.hid hcc
  clear hcc
  unfold pt at HCC
  go_wp2_with (go_at_call 44; fail)
  refine HCC.out.mono ?_
  rintro e w4 ⟨a4, bb4, cc4, rfl, hcp, hna, hnb, hnc, hb4⟩
  have HC := Lib.hid (And.intro hcp (And.intro hna (And.intro hnb (And.intro hnc hb4))))
  have HS4 : Hid (w4.heap[m]? = some (.cells #[.pointer (some ⟨k.b, 0, none⟩)] 56 (0, 0)) ∧ w4.heap[k.b]? = some (.cells #[.pointer (some ⟨k.a, 0, none⟩), .int .i64 r, .int .i64 s] 68 (0, 0))) := Lib.hid ⟨(hb4.block _ (lt_of_block HS.out.1)).trans HS.out.1, (hb4.block _ (lt_of_block HS.out.2)).trans HS.out.2⟩
  clear hcp hna hnb hnc hb4
  refine hK _ _ HS4.out ?_
  clear hK K7
  refine mix_nil ?_
  go_wp2_with fail
  go_ret
  have b1 := below_alloc w4 (.cells #[.pointer (some ⟨a4, 0, none⟩), .int .i64 r, .int .i64 s] 68)
  have b2 := below_alloc (w4.alloc (.cells #[.pointer (some ⟨a4, 0, none⟩), .int .i64 r, .int .i64 s] 68)) (.cells #[.pointer (some { block := w4.heap.size, off := 0 })] 56)
  have hbb := b1.trans (b2.mono (by simp))
  obtain ⟨hcp, hna, hnb, hnc, hb4⟩ := HC.out
  have hsz := HD.out.size
  have hs4 := hb4.size
  have hall : Below w.heap.size w _ := HD.out.trans ((hb4.trans (hbb.mono hs4)).mono hsz)
  refine ⟨w4.heap.size + 1, ⟨w4.heap.size, a4, bb4, cc4⟩, rfl, ⟨HOK.out, block_new _ _ _ (by simp), ?_, hcp.grown hbb⟩, H.out.grown hall, ⟨by omega, by show _ ≤ w4.heap.size; omega, by show _ ≤ a4; omega, by show _ ≤ bb4; omega, by show _ ≤ cc4; omega⟩, hall⟩
  rw [← HRS.out.1, ← HRS.out.2]
  exact (b2.block w4.heap.size (by simp)).trans (heap_alloc_new w4 _)
end
end Go.Proofs.Ytaallpbcgabdnaa
