/- The walk of FlowHolds. -/
import Derived.Test.YtaallpbcgabdnaaXHo
import Derived.Deep.DeepCutAuto
import Derived.Deep.CutBlock
namespace Go.Proofs.Ytaallpbcgabdnaa
open Go.RowKit Go.Sort
set_option linter.unusedVariables false
set_option linter.unusedSimpArgs false

set_option maxHeartbeats 1600000 in
set_option maxRecDepth 100000 in
theorem holds_known {w : World} {sa : Option Addr} {N sc : Nat} {l : List Ac} (c : Int) (h : SrcA w (.slice sa N sc) l) (hc : c < 1 ∨ 4096 < c) :
    Calls Try.prog 7 #[.int .i64 c, .slice sa N sc] w fun e w' => e = .returned (.bool true) ∧ Below w.heap.size w w' := by
  have hsm := Lib.hid (small_any h)
  clear h
  by_cases h1 : c < 1
  · clear hc
    go_enter Try.func7, Try.ntmps7
    go_wp2_with (go_at_call 8; fail)
    refine hsm.out.mono ?_
    rintro e w' ⟨(⟨rfl, -, -⟩ | rfl), rfl⟩
    all_goals
      go_wp2_with (go_at_call 9; refine (known_any _).mono ?_; rintro e w9 ⟨rfl, hb⟩)
      go_ret
      exact ⟨rfl, hb⟩
  · have h2 : 4096 < c := by omega
    have h3 : 1 ≤ c := by omega
    clear hc h1
    go_enter Try.func7, Try.ntmps7
    go_wp2_with (go_at_call 8; fail)
    refine hsm.out.mono ?_
    rintro e w' ⟨(⟨rfl, -, -⟩ | rfl), rfl⟩
    all_goals
      go_wp2_with (go_at_call 9; refine (known_any _).mono ?_; rintro e w9 ⟨rfl, hb⟩)
      go_ret
      exact ⟨rfl, hb⟩
set_option maxRecDepth 100000 in
set_option maxHeartbeats 12800000 in
theorem holds_main {w : World} {v : Value} {l : List Ac} {c : Nat} (hc1 : 1 ≤ c) (hc2 : c ≤ 4096) (h : SrcA w v l) (hwf : ∀ a ∈ l, I64 a.n ∧ I64 a.wth) :
    Calls Try.prog 7 #[.int .i64 (c : Nat), v] w fun e w' => e = .returned (.bool true) ∧ Below w.heap.size w w' := by
  have HA := Lib.hid h
  have HWF := Lib.hid hwf
  have hsm := Lib.hid (small_any h)
  obtain ⟨sa, sc, rfl, hlm, hcase⟩ := h
  obtain ⟨N, hN⟩ : ∃ N, N = l.length := ⟨_, rfl⟩
  have HNE := Lib.hid hN
  have HC := Lib.hid hcase
  have HC1 := Lib.hid hc1
  have HC2 := Lib.hid hc2
  have i1 : (1 : Int) ≤ (c : Int) := by omega
  have i2 : (c : Int) ≤ 4096 := by omega
  rw [← hN] at hsm HA ⊢
  clear hlm hcase hN hwf hc1 hc2
  go_enter Try.func7, Try.ntmps7
  go_wp2_with (go_at_call 8; fail)
  refine hsm.out.mono ?_
  rintro e w' ⟨(⟨rfl, hl80, hsm2⟩ | rfl), rfl⟩
  case' inr =>
    go_wp2_with (go_at_call 9; refine (known_any _).mono ?_; rintro e w9 ⟨rfl, hb⟩)
    go_ret
    exact ⟨rfl, hb⟩
  have HSM := Lib.hid hsm2
  have hN80 : (N : Int) ≤ 80 := by have := HNE.out; omega
  clear hsm2 hl80 hsm
  go_wp2_with (go_at_call 10; fail)
  refine (kf_new (Below.refl _ _) HC1.out HC2.out).mono ?_
  rintro e W1 ⟨m, b, rfl, h1, -, -⟩
  have H1 := Lib.hid h1
  clear h1
  unfold pt
  go_wp2_with fail
  go_loopw [7, 8, 9, 10, 43] (fun ov tv iv cv i wr => ∃ (k : Nat) (x : Ft) (so st : ByteArray) (we : Int) (dr : Bool), k ≤ N ∧ i = .int .i64 (k : Nat) ∧ ov = .string so ∧ tv = .string st ∧ iv = .int .i64 we ∧ cv = .bool dr ∧ Hid (KF w' wr m b x) ∧ Hid (HoF c x so st we dr k)) (fun _ _ _ _ i _ => N - (intOf i).toNat)
  case atStart => exact ⟨0, Ft.new c, _, _, _, _, Nat.zero_le _, rfl, rfl, rfl, rfl, rfl, H1, Lib.hid (HoF.new c)⟩
  case round =>
    clear H1
    obtain ⟨k, x, so, st, we, dr, hkl, rfl, rfl, rfl, rfl, rfl, HK, HR⟩ := hrel
    by_cases hlt : k < N
    · have hltP : k < l.length := by rw [← HNE.out]; exact hlt
      obtain ⟨lb, off, rfl, hbl, hac⟩ := HC.out.resolve_left (by omega)
      obtain ⟨pa, pl, pc, c0, c1, c2, c3, hs, hpl, hw0, hw1, hw2⟩ := hac k hltP
      have hcg := below_cells HK.out.be
      have k0 := hcg _ _ c0
      have k1 := hcg _ _ c1
      have k2 := hcg _ _ c2
      have k3 := hcg _ _ c3
      have hlbl : lb < wr.heap.size := Nat.lt_of_lt_of_le hbl HK.out.be.size
      obtain ⟨ac, hae⟩ : ∃ ac, ac = l[k] := ⟨_, rfl⟩
      rw [← hae] at k0 k1 k3 hs
      have HSS := Lib.hid hs
      have HSA : Hid ac.Sm := Lib.hid (by rw [hae]; exact HSM.out _ (List.getElem_mem _))
      have HWW : Hid (I64 ac.n ∧ I64 ac.wth) := Lib.hid (by rw [hae]; exact HWF.out _ (List.getElem_mem _))
      have hfl : ac.parts.flatten.length ≤ 12000 := by
        have h1 := flat_small ac.parts HSA.out.2
        have h2 : ac.parts.length * 400 ≤ 30 * 400 := Nat.mul_le_mul_right _ HSA.out.1
        omega
      have HFL := Lib.hid hfl
      have HP30 : Hid (ac.parts.length ≤ 30) := Lib.hid HSA.out.1
      have hkl2 : (k : Int) < (N : Int) := by omega
      have HK80 : Hid (k < 80) := Lib.hid (by omega)
      clear hac c0 c1 c2 c3 hs hpl hw0 hw1 hw2 hcg hae hfl HSA
      obtain ⟨what, n, parts, wth⟩ := ac
      simp only at *
      obtain ⟨W0, hW0⟩ : ∃ W0, wr.alloc (.cells #[.int .i64 what, .int .i64 n, .slice pa pl pc, .int .i64 wth] 35) = W0 := ⟨_, rfl⟩
      have hb0 : Below wr.heap.size wr W0 := by rw [← hW0]; exact below_alloc _ _
      have HB0 : Hid (W0.heap[wr.heap.size]? = some (.cells #[.int .i64 what, .int .i64 n, .slice pa pl pc, .int .i64 wth] 35 (0, 0))) := Lib.hid (by rw [← hW0]; exact heap_alloc_new _ _)
      have HK1 := Lib.hid (HK.out.grow hb0)
      have HW0 := Lib.hid hW0
      clear hW0 hb0
      go_upto_block 2 with (fail)
      rw [HW0.out]
      clear HW0 k0 k1 k2 k3 hlbl HK
      generalize wr.heap.size = B at *
      have b0 : W0.cell? ⟨B, 0, none⟩ = some (.int .i64 what) := cells_cell HB0.out rfl
      have b1 : W0.cell? ⟨B, 1, none⟩ = some (.int .i64 n) := cells_cell HB0.out rfl
      have b2 : W0.cell? ⟨B, 2, none⟩ = some (.slice pa pl pc) := cells_cell HB0.out rfl
      have b3 : W0.cell? ⟨B, 3, none⟩ = some (.int .i64 wth) := cells_cell HB0.out rfl
      have hok := HK1.out.at'.ok
      obtain ⟨hz1, hz2, hz3, hz4, hz5⟩ := HR.out.sizes hok
      have HOK := Lib.hid hok
      have HZ := Lib.hid hz4
      have hso : (so.size : Int) ≤ 960000 := by have := HK80.out; omega
      have hss : (st.size : Int) ≤ (so.size : Int) := by omega
      clear hok hz1 hz2 hz3 hz4 hz5
      go_cut [7, 8, 9, 10] (fun ov tv iv cv wx => ∃ (y : Ft) (so' st' : ByteArray) (we' : Int) (dr' : Bool), ov = .string so' ∧ tv = .string st' ∧ iv = .int .i64 we' ∧ cv = .bool dr' ∧ Hid (KF w' wx m b y) ∧ Hid (HoF c y so' st' we' dr' (k + 1)))
      case first =>
        by_cases q0 : what = 0
        · as_aux_lemma =>
          subst q0
          have hp := Lib.hid (HSS.out.grown HK1.out.be)
          go_wp2_with (go_at_call 19; fail)
          refine (of_any hp.out (by have := HFL.out; omega) (by have := HP30.out; omega)).mono ?_
          rintro e W2 ⟨u, rfl, hRo, hb⟩
          obtain ⟨r1, r2, r3, r4, r5, r6, rfl⟩ := hRo.shape
          have HRo := Lib.hid hRo
          have HK2 := Lib.hid (HK1.out.grow hb)
          have HB2 := Lib.hid ((hb.block _ (lt_of_block HB0.out)).trans HB0.out)
          clear hb HK1 HB0 hRo b0 b1 b2 b3
          go_wp2_with (go_at_call 18; fail)
          have hof := flWrite_any HK2.out.at' HRo.out
          rw [full_flat] at hof
          unfold pt at hof
          have hsl := strB_size parts.flatten
          have hne := strB_none parts.flatten
          have hfl := HFL.out
          have hzd := HR.out.rd0
          rcases wr_cases x parts.flatten with ⟨eo, j, he, hj, ho⟩ | ⟨hr0, hw0, hl0, j, hj, ho⟩ | ⟨hr0, hw0, j, hj, hjl, ho⟩
          · rw [ho] at hof
            have qj : ((j : Int) != 0) = false := by simp [hj]
            have qj2 : ((j : Int) == 0) = true := by simp [hj]
            have hjs : (j : Int) ≤ ((strB parts.flatten).size : Int) := by rw [hj]; omega
            have hsb : ((strB parts.flatten).size : Int) ≤ 12000 := by rw [hsl]; omega
            have qe : (eo != 0) = true := by simp [he]
            have qe2 : (eo == 0) = false := by simp [he]
            have HOF := Lib.hid hof
            have HHR : Hid (HoF c x (so ++ (strB parts.flatten).extract 0 j) st we dr (k + 1)) := Lib.hid (HR.out.wrote (L := parts.flatten) hfl j (.inl hj) x.S (by rw [hj]; simp))
            clear he hj
            clear hof ho hsl hne hfl hzd HR
            refine HOF.out.mono ?_
            rintro e W3 ⟨rfl, hm, hf⟩
            have HB3 := Lib.hid (hf.same HB2.out (HK2.out.at'.not HB2.out (by decide) (by decide) (by decide)))
            have HK3 := Lib.hid (HK2.out.next hm hf)
            clear hm hf HOF HB2 HK2
            have d0 : W3.cell? ⟨B, 0, none⟩ = some (.int .i64 0) := cells_cell HB3.out rfl
            have d1 : W3.cell? ⟨B, 1, none⟩ = some (.int .i64 n) := cells_cell HB3.out rfl
            have d2 : W3.cell? ⟨B, 2, none⟩ = some (.slice pa pl pc) := cells_cell HB3.out rfl
            have d3 : W3.cell? ⟨B, 3, none⟩ = some (.int .i64 wth) := cells_cell HB3.out rfl
            go_wp2_with (go_at_call 17; fail)
            refine (text_any (HSS.out.grown HK3.out.be) (by have := HFL.out; omega) (by have := HP30.out; omega)).mono ?_
            rintro e W4 ⟨rfl, hb⟩
            have HK4 := Lib.hid (HK3.out.grow hb)
            clear hb HK3 HB3 d0 d1 d2 d3
            generalize strB parts.flatten = s at *
            go_wp2_with fail
            go_meet
            exact ⟨_, _, _, _, _, rfl, rfl, rfl, rfl, HK4, HHR⟩
          · rw [ho] at hof
            have qj : ((j : Int) != 0) = false := by simp [hj]
            have qj2 : ((j : Int) == 0) = true := by simp [hj]
            have hjs : (j : Int) ≤ ((strB parts.flatten).size : Int) := by rw [hj]; omega
            have hsb : ((strB parts.flatten).size : Int) ≤ 12000 := by rw [hsl]; omega
            obtain rfl : dr = false := hzd.2 hr0
            have hwc : we = 0 := by rw [← HR.out.wr, hw0]
            simp only [hl0, decide_true] at hne
            have HOF := Lib.hid hof
            have HHR : Hid (HoF c x (so ++ (strB parts.flatten).extract 0 j) st we false (k + 1)) := Lib.hid (HR.out.wrote (L := parts.flatten) hfl j (.inl hj) x.S (by rw [hj]; simp))
            clear hr0 hw0 hl0 hj
            subst hwc
            clear hof ho hsl hfl hzd HR
            refine HOF.out.mono ?_
            rintro e W3 ⟨rfl, hm, hf⟩
            have HB3 := Lib.hid (hf.same HB2.out (HK2.out.at'.not HB2.out (by decide) (by decide) (by decide)))
            have HK3 := Lib.hid (HK2.out.next hm hf)
            clear hm hf HOF HB2 HK2
            have d0 : W3.cell? ⟨B, 0, none⟩ = some (.int .i64 0) := cells_cell HB3.out rfl
            have d1 : W3.cell? ⟨B, 1, none⟩ = some (.int .i64 n) := cells_cell HB3.out rfl
            have d2 : W3.cell? ⟨B, 2, none⟩ = some (.slice pa pl pc) := cells_cell HB3.out rfl
            have d3 : W3.cell? ⟨B, 3, none⟩ = some (.int .i64 wth) := cells_cell HB3.out rfl
            go_wp2_with (go_at_call 17; fail)
            refine (text_any (HSS.out.grown HK3.out.be) (by have := HFL.out; omega) (by have := HP30.out; omega)).mono ?_
            rintro e W4 ⟨rfl, hb⟩
            have HK4 := Lib.hid (HK3.out.grow hb)
            clear hb HK3 HB3 d0 d1 d2 d3
            generalize strB parts.flatten = s at *
            go_wp2_with fail
            go_meet
            exact ⟨_, _, _, _, _, rfl, rfl, rfl, rfl, HK4, HHR⟩
          · rw [ho] at hof
            have qj : ((j : Int) != 0) = true := by simp; omega
            have qj2 : ((j : Int) == 0) = false := by simp; omega
            have hjs : (j : Int) ≤ ((strB parts.flatten).size : Int) := by rw [hsl]; omega
            have hsb : ((strB parts.flatten).size : Int) ≤ 12000 := by rw [hsl]; omega
            obtain rfl : dr = false := hzd.2 hr0
            have hwc : we = 0 := by rw [← HR.out.wr, hw0]
            have HOF := Lib.hid hof
            have HHR := Lib.hid (HR.out.wrote (L := parts.flatten) hfl j (.inr hr0) _ rfl)
            clear hr0 hw0 hj hjl
            subst hwc
            clear hof ho hsl hne hfl hzd HR
            refine HOF.out.mono ?_
            rintro e W3 ⟨rfl, hm, hf⟩
            have HB3 := Lib.hid (hf.same HB2.out (HK2.out.at'.not HB2.out (by decide) (by decide) (by decide)))
            have HK3 := Lib.hid (HK2.out.next hm hf)
            clear hm hf HOF HB2 HK2
            have d0 : W3.cell? ⟨B, 0, none⟩ = some (.int .i64 0) := cells_cell HB3.out rfl
            have d1 : W3.cell? ⟨B, 1, none⟩ = some (.int .i64 n) := cells_cell HB3.out rfl
            have d2 : W3.cell? ⟨B, 2, none⟩ = some (.slice pa pl pc) := cells_cell HB3.out rfl
            have d3 : W3.cell? ⟨B, 3, none⟩ = some (.int .i64 wth) := cells_cell HB3.out rfl
            go_wp2_with (go_at_call 17; fail)
            refine (text_any (HSS.out.grown HK3.out.be) (by have := HFL.out; omega) (by have := HP30.out; omega)).mono ?_
            rintro e W4 ⟨rfl, hb⟩
            have HK4 := Lib.hid (HK3.out.grow hb)
            clear hb HK3 HB3 d0 d1 d2 d3
            generalize strB parts.flatten = s at *
            go_wp2_with fail
            go_meet
            exact ⟨_, _, _, _, _, rfl, rfl, rfl, rfl, HK4, HHR⟩
        · have r0 : (what == 0) = false := by simp [q0]
          clear q0
          by_cases q1 : what = 1
          · as_aux_lemma =>
            subst q1
            go_wp2_with (go_at_call 22; fail)
            have htk := flRead_any HK1.out.at' n
            unfold pt at htk
            have hzd := HR.out.rd0
            rcases rd_cases x HOK.out n with ⟨hn, ht⟩ | ⟨hn, ht⟩ | ⟨hn, hr0, eo, he, ht⟩ | ⟨hn, hr0, hS, hw0, ht⟩ | ⟨hn, hr0, hS, hw0, ht⟩ | ⟨hn, hr0, hp0, hpn, ht⟩
            · have qn : (n != 0) = true := by simp; omega
              have qn2 : (n == 0) = false := by simp; omega
              have qn3 : decide (0 < n) = false := by simp; omega
              rw [ht] at htk
              have HT := Lib.hid htk
              have HHR := Lib.hid (HR.out.none)
              clear htk ht hzd HR
              refine HT.out.mono ?_
              rintro e W2 ⟨vp, rfl, hrow, hm, hf⟩
              obtain ⟨va, vn, vc, rfl⟩ := row_form hrow
              have HK2 := Lib.hid (HK1.out.next hm hf)
              have HB2 := Lib.hid (hf.same HB0.out (HK1.out.at'.not HB0.out (by decide) (by decide) (by decide)))
              have hcv := row_str hrow
              have hvn : vn = (([] : List UInt8)).length := by
                obtain ⟨a', c', e', _⟩ := (RowV.src hrow).form
                simp only [Value.slice.injEq] at e'
                rw [List.length_map] at e'
                exact e'.2.1
              have hsz := strB_size (([] : List UInt8))
              have d0 : W2.cell? ⟨B, 0, none⟩ = some (.int .i64 1) := cells_cell HB2.out rfl
              have d1 : W2.cell? ⟨B, 1, none⟩ = some (.int .i64 n) := cells_cell HB2.out rfl
              clear hm hf hrow HT HB0 HK1 b0 b1 b2 b3
              simp only [List.length_nil] at hvn hsz
              subst hvn
              have hps : (st.size : Int) + ((strB ([] : List UInt8)).size : Int) ≤ 2000000 := by rw [hsz]; omega
              clear hsz
              generalize strB ([] : List UInt8) = ps at *
              cases dr
              · generalize strB (([] : List UInt8)) = ps at *
                go_wp2_with fail
                go_meet
                exact ⟨_, _, _, _, _, rfl, rfl, rfl, rfl, HK2, HHR⟩
              · generalize strB (([] : List UInt8)) = ps at *
                go_wp2_with fail
                go_meet
                exact ⟨_, _, _, _, _, rfl, rfl, rfl, rfl, HK2, HHR⟩
            · have qn : (n != 0) = false := by simp [hn]
              have qn2 : (n == 0) = true := by simp [hn]
              have qn3 : decide (0 < n) = false := by simp [hn]
              rw [ht] at htk
              have HT := Lib.hid htk
              have HHR := Lib.hid (HR.out.none)
              clear hn
              clear htk ht hzd HR
              refine HT.out.mono ?_
              rintro e W2 ⟨vp, rfl, hrow, hm, hf⟩
              obtain ⟨va, vn, vc, rfl⟩ := row_form hrow
              have HK2 := Lib.hid (HK1.out.next hm hf)
              have HB2 := Lib.hid (hf.same HB0.out (HK1.out.at'.not HB0.out (by decide) (by decide) (by decide)))
              have hcv := row_str hrow
              have hvn : vn = (([] : List UInt8)).length := by
                obtain ⟨a', c', e', _⟩ := (RowV.src hrow).form
                simp only [Value.slice.injEq] at e'
                rw [List.length_map] at e'
                exact e'.2.1
              have hsz := strB_size (([] : List UInt8))
              have d0 : W2.cell? ⟨B, 0, none⟩ = some (.int .i64 1) := cells_cell HB2.out rfl
              have d1 : W2.cell? ⟨B, 1, none⟩ = some (.int .i64 n) := cells_cell HB2.out rfl
              clear hm hf hrow HT HB0 HK1 b0 b1 b2 b3
              simp only [List.length_nil] at hvn hsz
              subst hvn
              have hps : (st.size : Int) + ((strB ([] : List UInt8)).size : Int) ≤ 2000000 := by rw [hsz]; omega
              clear hsz
              generalize strB ([] : List UInt8) = ps at *
              cases dr
              · generalize strB (([] : List UInt8)) = ps at *
                go_wp2_with fail
                go_meet
                exact ⟨_, _, _, _, _, rfl, rfl, rfl, rfl, HK2, HHR⟩
              · generalize strB (([] : List UInt8)) = ps at *
                go_wp2_with fail
                go_meet
                exact ⟨_, _, _, _, _, rfl, rfl, rfl, rfl, HK2, HHR⟩
            · have qe : (eo != 0) = true := by simp [he]
              have qe2 : (eo == 0) = false := by simp [he]
              obtain rfl : dr = true := by
                cases hd : dr with
                | true => rfl
                | false => exact absurd (hzd.1 hd) hr0
              rw [ht] at htk
              have HT := Lib.hid htk
              have HHR := Lib.hid (HR.out.none)
              clear he hr0
              clear htk ht hzd HR
              refine HT.out.mono ?_
              rintro e W2 ⟨vp, rfl, hrow, hm, hf⟩
              obtain ⟨va, vn, vc, rfl⟩ := row_form hrow
              have HK2 := Lib.hid (HK1.out.next hm hf)
              have HB2 := Lib.hid (hf.same HB0.out (HK1.out.at'.not HB0.out (by decide) (by decide) (by decide)))
              have hcv := row_str hrow
              have hvn : vn = (([] : List UInt8)).length := by
                obtain ⟨a', c', e', _⟩ := (RowV.src hrow).form
                simp only [Value.slice.injEq] at e'
                rw [List.length_map] at e'
                exact e'.2.1
              have hsz := strB_size (([] : List UInt8))
              have d0 : W2.cell? ⟨B, 0, none⟩ = some (.int .i64 1) := cells_cell HB2.out rfl
              have d1 : W2.cell? ⟨B, 1, none⟩ = some (.int .i64 n) := cells_cell HB2.out rfl
              clear hm hf hrow HT HB0 HK1 b0 b1 b2 b3
              simp only [List.length_nil] at hvn hsz
              subst hvn
              have hps : (st.size : Int) + ((strB ([] : List UInt8)).size : Int) ≤ 2000000 := by rw [hsz]; omega
              clear hsz
              generalize strB (([] : List UInt8)) = ps at *
              go_wp2_with fail
              go_meet
              exact ⟨_, _, _, _, _, rfl, rfl, rfl, rfl, HK2, HHR⟩
            · obtain rfl : dr = false := hzd.2 hr0
              have hwc := HR.out.wr
              rw [hwc] at ht hw0
              have qe : (we != 0) = true := by simp [hw0]
              have qe2 : (we == 0) = false := by simp [hw0]
              have hsz2 : st.size = so.size := by have := (HZ.out rfl).1; omega
              rw [ht] at htk
              have HT := Lib.hid htk
              have HHR := Lib.hid (HR.out.none)
              have HEQ := Lib.hid hsz2
              clear hr0 hS hw0 hwc hsz2
              clear htk ht hzd HR
              refine HT.out.mono ?_
              rintro e W2 ⟨vp, rfl, hrow, hm, hf⟩
              obtain ⟨va, vn, vc, rfl⟩ := row_form hrow
              have HK2 := Lib.hid (HK1.out.next hm hf)
              have HB2 := Lib.hid (hf.same HB0.out (HK1.out.at'.not HB0.out (by decide) (by decide) (by decide)))
              have hcv := row_str hrow
              have hvn : vn = (([] : List UInt8)).length := by
                obtain ⟨a', c', e', _⟩ := (RowV.src hrow).form
                simp only [Value.slice.injEq] at e'
                rw [List.length_map] at e'
                exact e'.2.1
              have hsz := strB_size (([] : List UInt8))
              have d0 : W2.cell? ⟨B, 0, none⟩ = some (.int .i64 1) := cells_cell HB2.out rfl
              have d1 : W2.cell? ⟨B, 1, none⟩ = some (.int .i64 n) := cells_cell HB2.out rfl
              clear hm hf hrow HT HB0 HK1 b0 b1 b2 b3
              simp only [List.length_nil] at hvn hsz
              subst hvn
              have hps : (st.size : Int) + ((strB ([] : List UInt8)).size : Int) ≤ 2000000 := by rw [hsz]; omega
              clear hsz
              have qs : ((st.size : Int) != (so.size : Int)) = false := by rw [HEQ.out]; simp
              have qs2 : ((st.size : Int) == (so.size : Int)) = true := by rw [HEQ.out]; simp
              have qw : (we == we) = true := by simp
              generalize strB (([] : List UInt8)) = ps at *
              go_wp2_with fail
              go_meet
              exact ⟨_, _, _, _, _, rfl, rfl, rfl, rfl, HK2, HHR⟩
            · obtain rfl : dr = false := hzd.2 hr0
              have hwc := HR.out.wr
              rw [hw0] at hwc
              subst hwc
              have hsz2 : st.size = so.size := by have := (HZ.out rfl).1; omega
              rw [ht] at htk
              have HT := Lib.hid htk
              have HHR := Lib.hid (HR.out.none)
              have HEQ := Lib.hid hsz2
              clear hr0 hS hw0 hsz2
              clear htk ht hzd HR
              refine HT.out.mono ?_
              rintro e W2 ⟨vp, rfl, hrow, hm, hf⟩
              obtain ⟨va, vn, vc, rfl⟩ := row_form hrow
              have HK2 := Lib.hid (HK1.out.next hm hf)
              have HB2 := Lib.hid (hf.same HB0.out (HK1.out.at'.not HB0.out (by decide) (by decide) (by decide)))
              have hcv := row_str hrow
              have hvn : vn = (([] : List UInt8)).length := by
                obtain ⟨a', c', e', _⟩ := (RowV.src hrow).form
                simp only [Value.slice.injEq] at e'
                rw [List.length_map] at e'
                exact e'.2.1
              have hsz := strB_size (([] : List UInt8))
              have d0 : W2.cell? ⟨B, 0, none⟩ = some (.int .i64 1) := cells_cell HB2.out rfl
              have d1 : W2.cell? ⟨B, 1, none⟩ = some (.int .i64 n) := cells_cell HB2.out rfl
              clear hm hf hrow HT HB0 HK1 b0 b1 b2 b3
              simp only [List.length_nil] at hvn hsz
              subst hvn
              have hps : (st.size : Int) + ((strB ([] : List UInt8)).size : Int) ≤ 2000000 := by rw [hsz]; omega
              clear hsz
              have qs : ((st.size : Int) != (so.size : Int)) = false := by rw [HEQ.out]; simp
              have qs2 : ((st.size : Int) == (so.size : Int)) = true := by rw [HEQ.out]; simp
              generalize strB (([] : List UInt8)) = ps at *
              go_wp2_with fail
              go_meet
              exact ⟨_, _, _, _, _, rfl, rfl, rfl, rfl, HK2, HHR⟩
            · obtain rfl : dr = false := hzd.2 hr0
              have qn : (n != 0) = true := by simp; omega
              have qn2 : (n == 0) = false := by simp; omega
              have hpl : (x.S.take n.toNat).length ≤ 4096 := by have h1 := HOK.out.le; have h2 := HOK.out.top; rw [List.length_take]; omega
              rw [ht] at htk
              have HT := Lib.hid htk
              have HHR := Lib.hid (HR.out.had n.toNat hr0)
              have HPP := Lib.hid (And.intro hp0 (And.intro hpn hpl))
              clear hr0 hp0 hpn hpl
              clear htk ht hzd HR
              refine HT.out.mono ?_
              rintro e W2 ⟨vp, rfl, hrow, hm, hf⟩
              obtain ⟨va, vn, vc, rfl⟩ := row_form hrow
              have HK2 := Lib.hid (HK1.out.next hm hf)
              have HB2 := Lib.hid (hf.same HB0.out (HK1.out.at'.not HB0.out (by decide) (by decide) (by decide)))
              have hcv := row_str hrow
              have hvn : vn = (x.S.take n.toNat).length := by
                obtain ⟨a', c', e', _⟩ := (RowV.src hrow).form
                simp only [Value.slice.injEq] at e'
                rw [List.length_map] at e'
                exact e'.2.1
              have hsz := strB_size (x.S.take n.toNat)
              have d0 : W2.cell? ⟨B, 0, none⟩ = some (.int .i64 1) := cells_cell HB2.out rfl
              have d1 : W2.cell? ⟨B, 1, none⟩ = some (.int .i64 n) := cells_cell HB2.out rfl
              clear hm hf hrow HT HB0 HK1 b0 b1 b2 b3
              obtain ⟨hp0, hpn, hpl⟩ := HPP.out
              have hps : (st.size : Int) + ((strB (x.S.take n.toNat)).size : Int) ≤ 2000000 := by rw [hsz]; omega
              rw [← hvn] at hp0 hpn hpl
              have hv1 : ((vn : Int) == 0) = false := by simp; omega
              have hv2 : (0 : Int) < (vn : Int) := by omega
              clear hsz hvn hp0 hpl
              generalize strB (x.S.take n.toNat) = ps at *
              go_wp2_with fail
              go_meet
              exact ⟨_, _, _, _, _, rfl, rfl, rfl, rfl, HK2, HHR⟩
          · have r1 : (what == 1) = false := by simp [q1]
            clear q1
            by_cases q2 : what = 2
            · as_aux_lemma =>
              subst q2
              go_wp2_with (go_at_call 21; fail)
              have hrs := flCloseWrite_any HK1.out.at' wth HWW.out.2
              unfold pt at hrs
              rcases cw_cases x wth with ⟨eo, he, hr⟩ | ⟨he, hr⟩
              · rw [hr] at hrs
                have HT := Lib.hid hrs
                have HHR := Lib.hid HR.out.same
                have qe : (eo == 0) = false := by simp [he]
                clear hrs hr he HR
                refine HT.out.mono ?_
                rintro e W2 ⟨rfl, hm, hf⟩
                have HK2 := Lib.hid (HK1.out.next hm hf)
                clear hm hf HT HK1 HB0 b0 b1 b2 b3
                go_wp2_with fail
                go_meet
                exact ⟨_, _, _, _, _, rfl, rfl, rfl, rfl, HK2, HHR⟩
              · rw [hr] at hrs
                have HT := Lib.hid hrs
                have HHR := Lib.hid (HR.out.cw wth)
                clear hrs hr he HR
                refine HT.out.mono ?_
                rintro e W2 ⟨rfl, hm, hf⟩
                have HK2 := Lib.hid (HK1.out.next hm hf)
                have HB2 := Lib.hid (hf.same HB0.out (HK1.out.at'.not HB0.out (by decide) (by decide) (by decide)))
                have d3 : W2.cell? ⟨B, 3, none⟩ = some (.int .i64 wth) := cells_cell HB2.out rfl
                clear hm hf HT HK1 HB0 b0 b1 b2 b3
                go_wp2_with fail
                go_meet
                exact ⟨_, _, _, _, _, rfl, rfl, rfl, rfl, HK2, HHR⟩
            · have r2 : (what == 2) = false := by simp [q2]
              clear q2
              by_cases q3 : what = 3
              · as_aux_lemma =>
                subst q3
                go_wp2_with (go_at_call 23; fail)
                have hrs := flCloseRead_any HK1.out.at' wth HWW.out.2
                unfold pt at hrs
                rcases cr_cases x wth with ⟨eo, he, hr⟩ | ⟨he, hr⟩
                · rw [hr] at hrs
                  have HT := Lib.hid hrs
                  have HHR := Lib.hid HR.out.same
                  have qe : (eo == 0) = false := by simp [he]
                  clear hrs hr he HR
                  refine HT.out.mono ?_
                  rintro e W2 ⟨rfl, hm, hf⟩
                  have HK2 := Lib.hid (HK1.out.next hm hf)
                  clear hm hf HT HK1 HB0 b0 b1 b2 b3
                  go_wp2_with fail
                  go_meet
                  exact ⟨_, _, _, _, _, rfl, rfl, rfl, rfl, HK2, HHR⟩
                · rw [hr] at hrs
                  have HT := Lib.hid hrs
                  have HHR := Lib.hid (HR.out.cr he)
                  clear hrs hr he HR
                  refine HT.out.mono ?_
                  rintro e W2 ⟨rfl, hm, hf⟩
                  have HK2 := Lib.hid (HK1.out.next hm hf)
                  have HB2 := Lib.hid (hf.same HB0.out (HK1.out.at'.not HB0.out (by decide) (by decide) (by decide)))
                  have d3 : W2.cell? ⟨B, 3, none⟩ = some (.int .i64 wth) := cells_cell HB2.out rfl
                  clear hm hf HT HK1 HB0 b0 b1 b2 b3
                  go_wp2_with fail
                  go_meet
                  exact ⟨_, _, _, _, _, rfl, rfl, rfl, rfl, HK2, HHR⟩
              · as_aux_lemma =>
                have r3 : (what == 3) = false := by simp [q3]
                have HHR := Lib.hid HR.out.same
                clear HR q3
                go_wp2_with fail
                go_meet
                exact ⟨_, _, _, _, _, rfl, rfl, rfl, rfl, HK1, HHR⟩
      case rest => as_aux_lemma =>
        obtain ⟨y, so', st', we', dr', rfl, rfl, rfl, rfl, HK2, HR2⟩ := hcut
        clear HK1 HR b0 b1 b2 b3 HB0 HOK HZ hso hss
        obtain ⟨hz1, hz2, hz3, hz4, hz5⟩ := HR2.out.sizes HK2.out.at'.ok
        have hso : (so'.size : Int) ≤ 972000 := by have := HK80.out; omega
        have hss : (st'.size : Int) ≤ (so'.size : Int) := by omega
        have hqq : (st'.toList == st'.toList) = true := by simp
        obtain ⟨ln, hln⟩ : ∃ ln, ln = y.S.length := ⟨_, rfl⟩
        obtain ⟨fr, hfr⟩ : ∃ fr, fr = y.c - y.S.length := ⟨_, rfl⟩
        have hyc := HR2.out.cap
        have hle := HK2.out.at'.ok.le
        have hsum : (ln : Int) + (fr : Int) = (c : Int) := by omega
        have qsum : ((ln : Int) + (fr : Int) != (c : Int)) = false := by rw [hsum]; simp
        have hlc : (ln : Int) ≤ (c : Int) := by omega
        have hfc : (fr : Int) ≤ (c : Int) := by omega
        have hlen := flLen_any HK2.out.at'
        rw [← hln] at hlen
        have hfree := flFree_any HK2.out.at'
        rw [← hfr] at hfree
        unfold pt at hlen hfree
        have HLEN := Lib.hid hlen
        have HFREE := Lib.hid hfree
        have hex : so'.extract 0 st'.size = st' := hz3
        have hq : dr' = false → ((ln : Int) != (so'.size : Int) - (st'.size : Int)) = false := fun hd => by
          have := (hz4 hd).1
          have e : (ln : Int) = (so'.size : Int) - (st'.size : Int) := by omega
          rw [e]; simp
        have hq5 : dr' = true → ((ln : Int) != 0) = false := fun hd => by have := hz5 hd; rw [← hln] at this; simp [this]
        have HQ := Lib.hid hq
        have HQ5 := Lib.hid hq5
        clear hz1 hz2 hz3 hz4 hz5 hq hq5 hlen hfree hyc hle hln hfr hsum
        cases dr' with
        | false =>
          have q4 := HQ.out rfl
          clear HQ HQ5
          go_wp2_with (first
            | (go_at_call 14; refine HLEN.out.mono ?_; rintro e w9 ⟨rfl, rfl⟩)
            | (go_at_call 15; refine HFREE.out.mono ?_; rintro e w9 ⟨rfl, rfl⟩))
          go_roundw
          case rel => exact ⟨k + 1, y, so', st', we', false, by omega, by go_num, rfl, rfl, rfl, rfl, HK2, HR2⟩
          case measure => simp [intOf]; omega
        | true =>
          have q4 := HQ5.out rfl
          clear HQ HQ5
          go_wp2_with (first
            | (go_at_call 14; refine HLEN.out.mono ?_; rintro e w9 ⟨rfl, rfl⟩)
            | (go_at_call 15; refine HFREE.out.mono ?_; rintro e w9 ⟨rfl, rfl⟩))
          go_roundw
          case rel => exact ⟨k + 1, y, so', st', we', true, by omega, by go_num, rfl, rfl, rfl, rfl, HK2, HR2⟩
          case measure => simp [intOf]; omega
    · obtain rfl : k = N := by omega
      have hok := HK.out.at'.ok
      obtain ⟨hz1, hz2, hz3, hz4, hz5⟩ := HR.out.sizes hok
      have hcap := HR.out.cap
      have hrd0 := HR.out.rd0
      cases dr with
      | true =>
        clear hz1 hz2 hz3 hz4 hz5 hok hcap hrd0
        go_wp2_with (go_at_call 9; refine (known_any _).mono ?_; rintro e w9 ⟨rfl, hb⟩)
        go_ret
        exact ⟨rfl, HK.out.be.trans (hb.mono HK.out.be.size)⟩
      | false =>
        obtain ⟨ln, hln⟩ : ∃ ln, ln = x.S.length := ⟨_, rfl⟩
        have hlen := flLen_any HK.out.at'
        rw [← hln] at hlen
        unfold pt at hlen
        have HLEN := Lib.hid hlen
        by_cases h0 : ln = 0
        · have q0 : ((ln : Int) == 0) = true := by simp [h0]
          clear hz1 hz2 hz3 hz4 hz5 hok hcap hrd0 hlen hln h0
          go_wp2_with (first
            | (go_at_call 14; refine HLEN.out.mono ?_; rintro e w9 ⟨rfl, rfl⟩)
            | (go_at_call 9; refine (known_any _).mono ?_; rintro e w9 ⟨rfl, hb⟩))
          go_ret
          exact ⟨rfl, HK.out.be.trans (hb.mono HK.out.be.size)⟩
        · have q0 : ((ln : Int) == 0) = false := by simp; omega
          have hext := (hz4 rfl).2
          have HEXT := Lib.hid hext
          have hss : (st.size : Int) ≤ (so.size : Int) := by omega
          have hrc : rdC x (c : Nat) = (x.S, 0, { x with S := [] }) := by
            unfold rdC
            rw [if_neg (by omega), if_neg (by have := HC1.out; omega), if_neg (by omega), Int.toNat_natCast, List.take_of_length_le (by have := hok.le; omega), List.drop_of_length_le (by have := hok.le; omega)]
          have HRC := Lib.hid hrc
          clear hz1 hz2 hz3 hz4 hz5 hok hcap hrd0 hlen hln h0 hext hrc
          go_wp2_with (first
            | (go_at_call 14; refine HLEN.out.mono ?_; rintro e w9 ⟨rfl, rfl⟩)
            | (go_at_call 20; fail))
          rw [HEXT.out]
          refine (reads_yes HK.out c 0 HRC.out).mono ?_
          rintro e W9 ⟨rfl, h9, f9⟩
          have H9 := Lib.hid h9.be
          clear h9 f9 HK
          go_wp2_with (go_at_call 9; fail)
          refine (known_any _).mono ?_
          rintro e w9 ⟨rfl, hb⟩
          have HBB := Lib.hid (H9.out.trans (hb.mono H9.out.size))
          clear hb
          go_wp2_with fail
          go_ret
          exact ⟨rfl, HBB.out⟩
theorem flowHolds_walk {w : World} {v : Value} {l : List Ac} (c : Int) (h : SrcA w v l) (hwf : ∀ a ∈ l, I64 a.n ∧ I64 a.wth) :
    Calls Try.prog 7 #[.int .i64 c, v] w fun e w' => e = .returned (.bool true) ∧ Below w.heap.size w w' := by
  by_cases hc : c < 1 ∨ 4096 < c
  · obtain ⟨sa, sc, rfl, h2⟩ := h
    exact holds_known c ⟨sa, sc, rfl, h2⟩ hc
  · obtain ⟨c', rfl⟩ := Int.eq_ofNat_of_zero_le (show 0 ≤ c by omega)
    exact holds_main (by omega) (by omega) h hwf
end Go.Proofs.Ytaallpbcgabdnaa
