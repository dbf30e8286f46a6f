/- The walk of MeetHolds. -/
import Derived.Test.YtophkjnniodegaaVHo
namespace Go.Proofs.Ytophkjnniodegaa
open Go.RowKit Go.Sort
set_option linter.unusedVariables false
set_option linter.unusedSimpArgs false

theorem strB_get (L : List UInt8) (i : Nat) (h : i < (strB L).size) (h' : i < L.length) : (strB L)[i]'h = L[i]'h' := rfl
def strLen : Value → Nat
  | .string s => s.size
  | _ => 0
set_option maxRecDepth 100000 in
set_option maxHeartbeats 12800000 in
theorem meetHolds_walk {w : World} {v : Value} {l : List Ac} (h : SrcA w v l) (hwf : ∀ a ∈ l, I64 a.n ∧ I64 a.wth) :
    Calls Try.prog 7 #[v] w fun e w' => e = .returned (.bool true) ∧ Below w.heap.size w w' := by
  have HA := Lib.hid h
  have HWF := Lib.hid hwf
  have hsm := Lib.hid (small_any h)
  obtain ⟨sa, sc, rfl, hlm, hcase⟩ := h
  obtain ⟨N, hN⟩ : ∃ N, N = l.length := ⟨_, rfl⟩
  have HNE := Lib.hid hN
  have HC := Lib.hid hcase
  rw [← hN] at hsm HA ⊢
  clear hlm hcase hN hwf
  go_enter Try.func7, Try.ntmps7
  go_wp2_with (go_at_call 8; fail)
  refine hsm.out.mono ?_
  rintro e w' ⟨(⟨rfl, hl80, hsm2⟩ | rfl), rfl⟩
  case' inr =>
    go_wp2_with (go_at_call 9; refine (known_any _).mono ?_; rintro e w9 ⟨rfl, hb⟩)
    go_ret
    exact ⟨rfl, hb⟩
  have HSM := Lib.hid hsm2
  have hN80 : (N : Int) ≤ 80 := by have := HNE.out; omega
  clear hsm2 hl80 hsm
  go_wp2_with (go_at_call 10; fail)
  refine (km_new w' w' (Below.refl _ _)).mono ?_
  rintro e W1 ⟨m, b, rfl, h1⟩
  have H1 := Lib.hid h1
  clear h1
  unfold pt
  go_wp2_with fail
  go_loopw [4, 5, 6, 7, 28] (fun ov tv iv cv i wr => ∃ (k : Nat) (x : Mt) (so st : ByteArray) (bi bc : Bool), k ≤ N ∧ i = .int .i64 (k : Nat) ∧ ov = .string so ∧ tv = .string st ∧ iv = .bool bi ∧ cv = .bool bc ∧ Hid (KM w' wr m b x) ∧ Hid (HoR x so st bi bc)) (fun _ _ _ _ i _ => N - (intOf i).toNat)
  case atStart => exact ⟨0, Mt.zero, _, _, _, _, Nat.zero_le _, rfl, rfl, rfl, rfl, rfl, H1, Lib.hid ⟨rfl, rfl, rfl, rfl⟩⟩
  case round =>
    clear H1
    obtain ⟨k, x, so, st, bi, bc, hkl, rfl, rfl, rfl, rfl, rfl, HK, HR⟩ := hrel
    by_cases hlt : k < N
    · have hltP : k < l.length := by rw [← HNE.out]; exact hlt
      obtain ⟨lb, off, rfl, hbl, hac⟩ := HC.out.resolve_left (by omega)
      obtain ⟨pa, pl, pc, c0, c1, c2, c3, hs, hpl, hw0, hw1, hw2⟩ := hac k hltP
      have hcg := below_cells HK.out.be
      have k0 := hcg _ _ c0
      have k1 := hcg _ _ c1
      have k2 := hcg _ _ c2
      have k3 := hcg _ _ c3
      have hlbl : lb < wr.heap.size := Nat.lt_of_lt_of_le hbl HK.out.be.size
      obtain ⟨ac, hae⟩ : ∃ ac, ac = l[k] := ⟨_, rfl⟩
      rw [← hae] at k0 k1 k3 hs
      have HSS := Lib.hid hs
      have HSA : Hid ac.Sm := Lib.hid (by rw [hae]; exact HSM.out _ (List.getElem_mem _))
      have HWW : Hid (I64 ac.n ∧ I64 ac.wth) := Lib.hid (by rw [hae]; exact HWF.out _ (List.getElem_mem _))
      have hfl : ac.parts.flatten.length ≤ 12000 := by
        have h1 := flat_small ac.parts HSA.out.2
        have h2 : ac.parts.length * 400 ≤ 30 * 400 := Nat.mul_le_mul_right _ HSA.out.1
        omega
      have HFL := Lib.hid hfl
      have HP30 : Hid (ac.parts.length ≤ 30) := Lib.hid HSA.out.1
      have hkl2 : (k : Int) < (N : Int) := by omega
      clear hac c0 c1 c2 c3 hs hpl hw0 hw1 hw2 hcg hae hfl HSA
      obtain ⟨what, n, parts, wth⟩ := ac
      simp only at *
      obtain ⟨W0, hW0⟩ : ∃ W0, wr.alloc (.cells #[.int .i64 what, .int .i64 n, .slice pa pl pc, .int .i64 wth] 32) = W0 := ⟨_, rfl⟩
      have hb0 : Below wr.heap.size wr W0 := by rw [← hW0]; exact below_alloc _ _
      have HB0 : Hid (W0.heap[wr.heap.size]? = some (.cells #[.int .i64 what, .int .i64 n, .slice pa pl pc, .int .i64 wth] 32 (0, 0))) := Lib.hid (by rw [← hW0]; exact heap_alloc_new _ _)
      have HK1 := Lib.hid (HK.out.grow hb0)
      have HW0 := Lib.hid hW0
      have HBL : Hid (w'.heap.size ≤ wr.heap.size) := Lib.hid HK.out.be.size
      clear hW0 hb0
      go_upto_block 2 with (fail)
      rw [HW0.out]
      clear HW0 k0 k1 k2 k3 hlbl HK
      generalize wr.heap.size = B at *
      have b0 : W0.cell? ⟨B, 0, none⟩ = some (.int .i64 what) := cells_cell HB0.out rfl
      have b1 : W0.cell? ⟨B, 1, none⟩ = some (.int .i64 n) := cells_cell HB0.out rfl
      have b2 : W0.cell? ⟨B, 2, none⟩ = some (.slice pa pl pc) := cells_cell HB0.out rfl
      have b3 : W0.cell? ⟨B, 3, none⟩ = some (.int .i64 wth) := cells_cell HB0.out rfl
      have hne : ∀ (V : World) (y : Mt), MAt V m b y → V.heap[B]? = some (.cells #[.int .i64 what, .int .i64 n, .slice pa pl pc, .int .i64 wth] 32 (0, 0)) → B ∉ [b] := fun V y hy hB => by
        obtain ⟨_, hb, _⟩ := hy.ex
        simpa using ne_types hB hb (by decide)
      have HNB := Lib.hid hne
      have hok := HK1.out.at'.ok
      obtain ⟨hz1, hz2, hz3, hz4, hz5⟩ := HR.out.sizes hok
      have HOK := Lib.hid hok
      have HZ := Lib.hid (And.intro hz1 hz2)
      have hso : (so.size : Int) ≤ 65536 := by omega
      have hss : (st.size : Int) ≤ (so.size : Int) := by omega
      clear hne hok hz1 hz2 hz3 hz4 hz5
      go_cut [4, 5, 6, 7] (fun ov tv iv cv wx => ∃ (y : Mt) (so' st' : ByteArray) (bi' bc' : Bool), ov = .string so' ∧ tv = .string st' ∧ iv = .bool bi' ∧ cv = .bool bc' ∧ Hid (KM w' wx m b y) ∧ Hid (HoR y so' st' bi' bc'))
      case first =>
        by_cases q0 : what = 0
        · as_aux_lemma =>
          subst q0
          have hp := Lib.hid (HSS.out.grown HK1.out.be)
          go_wp2_with (go_at_call 19; fail)
          refine (of_any hp.out (by have := HFL.out; omega) (by have := HP30.out; omega)).mono ?_
          rintro e W2 ⟨u, rfl, hRo, hb⟩
          obtain ⟨r1, r2, r3, r4, r5, r6, rfl⟩ := hRo.shape
          have HRo := Lib.hid hRo
          have HK2 := Lib.hid (HK1.out.grow hb)
          have HB2 := Lib.hid ((hb.block _ (lt_of_block HB0.out)).trans HB0.out)
          clear hb HK1 HB0 hRo b0 b1 b2 b3
          go_wp2_with (go_at_call 18; fail)
          have hof := mtOffer_any HK2.out.at' HRo.out
          rw [full_flat] at hof
          unfold pt at hof
          rcases off_cases x parts.flatten with ⟨hi, ho⟩ | ⟨hi, hc, eo, he, ho⟩ | ⟨hi, hc, ho⟩
          · rw [ho] at hof
            have HOF := Lib.hid hof
            have hbi : bi = true := by rw [← HR.out.bi, hi]
            clear hof ho hi
            subst hbi
            refine HOF.out.mono ?_
            rintro e W3 ⟨rfl, hm, hf⟩
            have HK3 := Lib.hid (HK2.out.next hm hf)
            clear hm hf HOF
            cases bc
            · go_wp2_with fail
              go_meet
              exact ⟨x, _, _, _, _, rfl, rfl, rfl, rfl, HK3, Lib.hid (HR.out)⟩
            · go_wp2_with fail
              go_meet
              exact ⟨x, _, _, _, _, rfl, rfl, rfl, rfl, HK3, Lib.hid (HR.out)⟩
          · rw [ho] at hof
            have HOF := Lib.hid hof
            have hbi : bi = false := by rw [← HR.out.bi, hi]
            have hbc : bc = true := by rw [← HR.out.bc, hc]
            have qe : (eo == 0) = false := by simp [he]
            clear hof ho hi hc he
            subst hbi hbc
            refine HOF.out.mono ?_
            rintro e W3 ⟨rfl, hm, hf⟩
            have HK3 := Lib.hid (HK2.out.next hm hf)
            clear hm hf HOF
            go_wp2_with fail
            go_meet
            exact ⟨x, _, _, _, _, rfl, rfl, rfl, rfl, HK3, Lib.hid (HR.out)⟩
          · rw [ho] at hof
            have HOF := Lib.hid hof
            have hbi : bi = false := by rw [← HR.out.bi, hi]
            have hbc : bc = false := by rw [← HR.out.bc, hc]
            clear hof ho hi hc
            subst hbi hbc
            refine HOF.out.mono ?_
            rintro e W3 ⟨rfl, hm, hf⟩
            have HB3 := Lib.hid (hf.same HB2.out (HNB.out _ _ HK2.out.at' HB2.out))
            have HK3 := Lib.hid (HK2.out.next hm hf)
            clear hm hf HOF HB2 HK2
            have d0 : W3.cell? ⟨B, 0, none⟩ = some (.int .i64 0) := cells_cell HB3.out rfl
            have d1 : W3.cell? ⟨B, 1, none⟩ = some (.int .i64 n) := cells_cell HB3.out rfl
            have d2 : W3.cell? ⟨B, 2, none⟩ = some (.slice pa pl pc) := cells_cell HB3.out rfl
            have d3 : W3.cell? ⟨B, 3, none⟩ = some (.int .i64 wth) := cells_cell HB3.out rfl
            go_wp2_with (go_at_call 23; fail)
            refine (text_any (HSS.out.grown HK3.out.be) (by have := HFL.out; omega) (by have := HP30.out; omega)).mono ?_
            rintro e W4 ⟨rfl, hb⟩
            have HK4 := Lib.hid (HK3.out.grow hb)
            clear hb HK3 HB3 d0 d1 d2 d3
            go_wp2_with fail
            go_meet
            exact ⟨_, _, _, _, _, rfl, rfl, rfl, rfl, HK4, Lib.hid (HR.out.offer _ rfl)⟩
        · have r0 : (what == 0) = false := by simp [q0]
          by_cases q1 : what = 1
          · as_aux_lemma =>
            subst q1
            go_wp2_with (go_at_call 15; fail)
            have htk := mtTake_any HK1.out.at' n
            unfold pt at htk
            rcases tak_cases x n with ⟨eo, he, ht⟩ | ⟨hn0, ht⟩ | ⟨hn0, hc, p, ht, hp, hp0, hpn⟩
            · rw [ht] at htk
              have HT := Lib.hid htk
              have qe : (eo == 0) = false := by simp [he]
              have qe2 : (eo != 0) = true := by simp [he]
              clear htk ht he
              refine HT.out.mono ?_
              rintro e W2 ⟨vp, rfl, hrow, hmm, hf⟩
              obtain ⟨va, vn, vc, rfl⟩ := row_form hrow
              have HK2 := Lib.hid (HK1.out.next (hmm W2 (fun _ _ => rfl)) hf)
              have HB2 := Lib.hid (hf.same HB0.out (HNB.out _ _ HK1.out.at' HB0.out))
              have hcv := row_str hrow
              have hvn : vn = ([] : List UInt8).length := by
                obtain ⟨a', c', e', _⟩ := (RowV.src hrow).form
                simp only [Value.slice.injEq] at e'
                rw [List.length_map] at e'
                exact e'.2.1
              have hsz := strB_size ([] : List UInt8)
              have d0 : W2.cell? ⟨B, 0, none⟩ = some (.int .i64 1) := cells_cell HB2.out rfl
              have d1 : W2.cell? ⟨B, 1, none⟩ = some (.int .i64 n) := cells_cell HB2.out rfl
              clear hmm hf hrow HT HB0 HK1 b0 b1 b2 b3
              subst hvn
              have hlen : (st.size : Int) + ((strB ([] : List UInt8)).size : Int) ≤ 200000 := by rw [hsz]; simp; omega
              simp only [List.length_nil] at *
              clear hsz

              go_wp2_with fail
              go_meet
              exact ⟨x, _, _, _, _, rfl, rfl, rfl, rfl, HK2, Lib.hid (HR.out.same)⟩
            · rw [ht] at htk
              have HT := Lib.hid htk
              clear htk ht
              subst hn0
              refine HT.out.mono ?_
              rintro e W2 ⟨vp, rfl, hrow, hmm, hf⟩
              obtain ⟨va, vn, vc, rfl⟩ := row_form hrow
              have HK2 := Lib.hid (HK1.out.next (hmm W2 (fun _ _ => rfl)) hf)
              have HB2 := Lib.hid (hf.same HB0.out (HNB.out _ _ HK1.out.at' HB0.out))
              have hcv := row_str hrow
              have hvn : vn = ([] : List UInt8).length := by
                obtain ⟨a', c', e', _⟩ := (RowV.src hrow).form
                simp only [Value.slice.injEq] at e'
                rw [List.length_map] at e'
                exact e'.2.1
              have hsz := strB_size ([] : List UInt8)
              have d0 : W2.cell? ⟨B, 0, none⟩ = some (.int .i64 1) := cells_cell HB2.out rfl
              have d1 : W2.cell? ⟨B, 1, none⟩ = some (.int .i64 0) := cells_cell HB2.out rfl
              clear hmm hf hrow HT HB0 HK1 b0 b1 b2 b3
              subst hvn
              have hlen : (st.size : Int) + ((strB ([] : List UInt8)).size : Int) ≤ 200000 := by rw [hsz]; simp; omega
              simp only [List.length_nil] at *
              clear hsz

              go_wp2_with fail
              go_meet
              exact ⟨x, _, _, _, _, rfl, rfl, rfl, rfl, HK2, Lib.hid (HR.out.same)⟩
            · rw [ht] at htk
              have HT := Lib.hid htk
              have qn : (n != 0) = true := by simp; omega
              have hbc : bc = false := by rw [← HR.out.bc, hc]
              clear htk ht hc
              subst hbc
              have HP := Lib.hid hp
              clear hp
              refine HT.out.mono ?_
              rintro e W2 ⟨vp, rfl, hrow, hmm, hf⟩
              obtain ⟨va, vn, vc, rfl⟩ := row_form hrow
              have HK2 := Lib.hid (HK1.out.next (hmm W2 (fun _ _ => rfl)) hf)
              have HB2 := Lib.hid (hf.same HB0.out (HNB.out _ _ HK1.out.at' HB0.out))
              have hcv := row_str hrow
              have hvn : vn = p.length := by
                obtain ⟨a', c', e', _⟩ := (RowV.src hrow).form
                simp only [Value.slice.injEq] at e'
                rw [List.length_map] at e'
                exact e'.2.1
              have hsz := strB_size p
              have d0 : W2.cell? ⟨B, 0, none⟩ = some (.int .i64 1) := cells_cell HB2.out rfl
              have d1 : W2.cell? ⟨B, 1, none⟩ = some (.int .i64 n) := cells_cell HB2.out rfl
              clear hmm hf hrow HT HB0 HK1 b0 b1 b2 b3
              subst hvn
              have hlen : (st.size : Int) + ((strB p).size : Int) ≤ 200000 := by
                rw [hsz, HP.out, List.length_take]
                have h1 := HOK.out.rest
                have h2 := HOK.out.small
                omega
              have hp0' : (0 : Int) < (p.length : Int) := by omega
              have hp1 : ((p.length : Int) == 0) = false := by rw [beq_eq_false_iff_ne]; omega
              have hHR := Lib.hid (HR.out.more HP.out)
              clear hsz HR

              go_wp2_with fail
              go_meet
              exact ⟨_, _, _, _, _, rfl, rfl, rfl, rfl, HK2, Lib.hid (hHR.out)⟩
          · have r1 : (what == 1) = false := by simp [q1]
            by_cases q2 : what = 2
            · as_aux_lemma =>
              subst q2
              go_wp2_with (go_at_call 16; fail)
              have hrs := mtResult_any HK1.out.at'
              unfold pt at hrs
              have hkI : ((x.k : Nat) : Int) = ((st.size : Nat) : Int) := by rw [HZ.out.1]
              rcases res_cases x HOK.out with ⟨hi, hr⟩ | ⟨hi, hc, hk, hr⟩ | ⟨hi, hc, hr⟩ | ⟨hi, hc, hk, hr⟩
              · rw [hr] at hrs
                have HT := Lib.hid hrs
                have hbi : bi = false := by rw [← HR.out.bi, hi]
                clear hrs hr hi hkI
                subst hbi
                refine HT.out.mono ?_
                rintro e W2 ⟨rfl, hm, hf⟩
                have HK2 := Lib.hid (HK1.out.next hm hf)
                clear hm hf HT HK1 HB0 b0 b1 b2 b3
                go_wp2_with fail
                go_meet
                exact ⟨x, _, _, _, _, rfl, rfl, rfl, rfl, HK2, Lib.hid (HR.out)⟩
              · rw [hr] at hrs
                have HT := Lib.hid hrs
                have hbi : bi = true := by rw [← HR.out.bi, hi]
                have hbc : bc = false := by rw [← HR.out.bc, hc]
                have qs := HR.out.ne HOK.out hk
                clear hrs hr hi hc hk hkI
                subst hbi hbc
                refine HT.out.mono ?_
                rintro e W2 ⟨rfl, hm, hf⟩
                have HK2 := Lib.hid (HK1.out.next hm hf)
                clear hm hf HT HK1 HB0 b0 b1 b2 b3
                go_wp2_with fail
                go_meet
                exact ⟨x, _, _, _, _, rfl, rfl, rfl, rfl, HK2, Lib.hid (HR.out)⟩
              · rw [hr, hkI] at hrs
                have HT := Lib.hid hrs
                have hbi : bi = true := by rw [← HR.out.bi, hi]
                have hbc : bc = true := by rw [← HR.out.bc, hc]
                clear hrs hr hi hc hkI
                subst hbi hbc
                refine HT.out.mono ?_
                rintro e W2 ⟨rfl, hm, hf⟩
                have HK2 := Lib.hid (HK1.out.next hm hf)
                clear hm hf HT HK1 HB0 b0 b1 b2 b3
                go_wp2_with fail
                go_meet
                exact ⟨_, _, _, _, _, rfl, rfl, rfl, rfl, HK2, Lib.hid (HR.out.off)⟩
              · rw [hr, hkI] at hrs
                have HT := Lib.hid hrs
                have hbi : bi = true := by rw [← HR.out.bi, hi]
                have hbc : bc = false := by rw [← HR.out.bc, hc]
                obtain rfl := HR.out.eq hk
                have hqq : st.toList == st.toList := by simp
                clear hrs hr hi hc hk hkI
                subst hbi hbc
                refine HT.out.mono ?_
                rintro e W2 ⟨rfl, hm, hf⟩
                have HK2 := Lib.hid (HK1.out.next hm hf)
                clear hm hf HT HK1 HB0 b0 b1 b2 b3
                go_wp2_with fail
                go_meet
                exact ⟨_, _, _, _, _, rfl, rfl, rfl, rfl, HK2, Lib.hid (HR.out.off)⟩
            · have r2 : (what == 2) = false := by simp [q2]
              by_cases q3 : what = 3
              · as_aux_lemma =>
                subst q3
                go_wp2_with (go_at_call 17; fail)
                have hrs := mtWithdraw_any HK1.out.at'
                unfold pt at hrs
                have hkI : ((x.k : Nat) : Int) = ((st.size : Nat) : Int) := by rw [HZ.out.1]
                rcases wit_cases x with ⟨hi, hr⟩ | ⟨hi, hr⟩
                · rw [hr] at hrs
                  have HT := Lib.hid hrs
                  have hbi : bi = false := by rw [← HR.out.bi, hi]
                  clear hrs hr hi hkI
                  subst hbi
                  refine HT.out.mono ?_
                  rintro e W2 ⟨rfl, hm, hf⟩
                  have HK2 := Lib.hid (HK1.out.next hm hf)
                  clear hm hf HT HK1 HB0 b0 b1 b2 b3
                  go_wp2_with fail
                  go_meet
                  exact ⟨x, _, _, _, _, rfl, rfl, rfl, rfl, HK2, Lib.hid (HR.out)⟩
                · rw [hr, hkI] at hrs
                  have HT := Lib.hid hrs
                  have hbi : bi = true := by rw [← HR.out.bi, hi]
                  clear hrs hr hi hkI
                  subst hbi
                  refine HT.out.mono ?_
                  rintro e W2 ⟨rfl, hm, hf⟩
                  have HK2 := Lib.hid (HK1.out.next hm hf)
                  clear hm hf HT HK1 HB0 b0 b1 b2 b3
                  go_wp2_with fail
                  go_meet
                  exact ⟨_, _, _, _, _, rfl, rfl, rfl, rfl, HK2, Lib.hid (HR.out.off)⟩
              · have r3 : (what == 3) = false := by simp [q3]
                by_cases q4 : what = 4
                · as_aux_lemma =>
                  subst q4
                  go_wp2_with (go_at_call 20; fail)
                  have hrs := mtCloseWrite_any HK1.out.at' wth HWW.out.2
                  unfold pt at hrs
                  rcases cw_cases x wth with ⟨eo, he, hr⟩ | ⟨he, hr⟩
                  · rw [hr] at hrs
                    have HT := Lib.hid hrs
                    have qe : (eo == 0) = false := by simp [he]
                    clear hrs hr he
                    refine HT.out.mono ?_
                    rintro e W2 ⟨rfl, hm, hf⟩
                    have HK2 := Lib.hid (HK1.out.next hm hf)
                    clear hm hf HT HK1 HB0 b0 b1 b2 b3
                    go_wp2_with fail
                    go_meet
                    exact ⟨x, _, _, _, _, rfl, rfl, rfl, rfl, HK2, Lib.hid (HR.out)⟩
                  · rw [hr] at hrs
                    have HT := Lib.hid hrs
                    have HE := Lib.hid he
                    clear hrs hr he
                    refine HT.out.mono ?_
                    rintro e W2 ⟨rfl, hm, hf⟩
                    have HK2 := Lib.hid (HK1.out.next hm hf)
                    clear hm hf HT HK1 HB0 b0 b1 b2 b3
                    go_wp2_with fail
                    go_meet
                    exact ⟨_, _, _, _, _, rfl, rfl, rfl, rfl, HK2, Lib.hid (HR.out.cw HE.out)⟩
                · have r4 : (what == 4) = false := by simp [q4]
                  by_cases q5 : what = 5
                  · as_aux_lemma =>
                    subst q5
                    go_wp2_with (go_at_call 21; fail)
                    have hrs := mtCloseRead_any HK1.out.at' wth HWW.out.2
                    unfold pt at hrs
                    rcases cr_cases x wth with ⟨eo, he, hr⟩ | ⟨he, hr⟩
                    · rw [hr] at hrs
                      have HT := Lib.hid hrs
                      have qe : (eo == 0) = false := by simp [he]
                      clear hrs hr he
                      refine HT.out.mono ?_
                      rintro e W2 ⟨rfl, hm, hf⟩
                      have HK2 := Lib.hid (HK1.out.next hm hf)
                      clear hm hf HT HK1 HB0 b0 b1 b2 b3
                      go_wp2_with fail
                      go_meet
                      exact ⟨x, _, _, _, _, rfl, rfl, rfl, rfl, HK2, Lib.hid (HR.out)⟩
                    · rw [hr] at hrs
                      have HT := Lib.hid hrs
                      have HE := Lib.hid he
                      clear hrs hr he
                      refine HT.out.mono ?_
                      rintro e W2 ⟨rfl, hm, hf⟩
                      have HK2 := Lib.hid (HK1.out.next hm hf)
                      clear hm hf HT HK1 HB0 b0 b1 b2 b3
                      go_wp2_with fail
                      go_meet
                      exact ⟨_, _, _, _, _, rfl, rfl, rfl, rfl, HK2, Lib.hid (HR.out.cr HE.out)⟩
                  · as_aux_lemma =>
                    have r5 : (what == 5) = false := by simp [q5]
                    go_wp2_with fail
                    go_meet
                    exact ⟨x, _, _, _, _, rfl, rfl, rfl, rfl, HK1, Lib.hid (HR.out)⟩
      case rest => as_aux_lemma =>
        obtain ⟨y, so', st', bi', bc', rfl, rfl, rfl, rfl, HK2, HR2⟩ := hcut
        clear HK1 HR b0 b1 b2 b3 HB0 HNB HOK HZ hso hss
        obtain ⟨hz1, hz2, hz3, hz4, hz5⟩ := HR2.out.sizes HK2.out.at'.ok
        have hso : (so'.size : Int) ≤ 65536 := by omega
        have hss : (st'.size : Int) ≤ (so'.size : Int) := by omega
        have hqq : st'.toList == st'.toList := by simp
        clear hz1 hz2 hz3 hz4
        go_wp2_with fail
        clear hz5
        go_roundw
        case rel => exact ⟨k + 1, y, so', st', bi', bc', by omega, by go_num, rfl, rfl, rfl, rfl, HK2, HR2⟩
        case measure => simp [intOf]; omega
    · obtain rfl : k = N := by omega
      by_cases hcb : bc = true ∨ bi = false
      · rcases hcb with rfl | rfl
        · go_wp2_with (go_at_call 9; refine (known_any _).mono ?_; rintro e w9 ⟨rfl, hb⟩)
          go_ret
          exact ⟨rfl, HK.out.be.trans (hb.mono HK.out.be.size)⟩
        · cases bc
          · go_wp2_with (go_at_call 9; refine (known_any _).mono ?_; rintro e w9 ⟨rfl, hb⟩)
            go_ret
            exact ⟨rfl, HK.out.be.trans (hb.mono HK.out.be.size)⟩
          · go_wp2_with (go_at_call 9; refine (known_any _).mono ?_; rintro e w9 ⟨rfl, hb⟩)
            go_ret
            exact ⟨rfl, HK.out.be.trans (hb.mono HK.out.be.size)⟩
      · obtain rfl : bc = false := by cases bc <;> simp_all
        obtain rfl : bi = true := by cases bi <;> simp_all
        clear hcb
        go_wp2_with fail
        go_loopw [5] (fun tv wr2 => ∃ (y : Mt) (st' : ByteArray), tv = .string st' ∧ Hid (KM w' wr2 m b y) ∧ Hid (HoR y so st' true false)) (fun tv _ => so.size - strLen tv)
        case atStart => exact ⟨x, st, rfl, HK, HR⟩
        case round =>
          clear HK HR
          obtain ⟨y, st', rfl, HK, HR⟩ := hrel
          have hok := HK.out.at'.ok
          obtain ⟨hz1, hz2, hz3, hz4, hz5⟩ := HR.out.sizes hok
          have hso : (so.size : Int) ≤ 65536 := by omega
          have hss : (st'.size : Int) ≤ (so.size : Int) := by omega
          have HZ := Lib.hid (And.intro hz1 hz2)
          have HOK := Lib.hid hok
          clear hz1 hz2 hz3 hz4 hz5 hok
          by_cases hlt2 : (st'.size : Int) < (so.size : Int)
          · have hkS : y.k < y.S.length := by rw [← HZ.out.1, ← HZ.out.2]; omega
            obtain ⟨c1, c2⟩ := Mt.cl_false.1 HR.out.bc
            have htk := mtTake_any HK.out.at' 1
            obtain ⟨z, hz⟩ : ∃ z, z = y.S[y.k] := ⟨_, rfl⟩
            have hre : y.rest.take 1 = [z] := by
              unfold Mt.rest
              rw [List.drop_eq_getElem_cons hkS, hz]
              rfl
            have hte : takC y 1 = ([z], 0, { y with k := y.k + 1 }) := by
              unfold takC
              rw [if_neg (by omega), if_neg (by omega), if_neg (by simp [c2]), if_neg (by simp [c1]), if_neg (by rw [HOK.out.rest]; omega)]
              simp [hre]
            have hmo := HR.out.more (p := [z]) (n := 1) hre.symm
            rw [hte] at htk
            have HT := Lib.hid htk
            have HMO := Lib.hid hmo
            have HZZ := Lib.hid hz
            clear htk hte hmo hre hz c1 c2
            unfold pt at HT
            go_wp2_with (go_at_call 15; fail)
            refine HT.out.mono ?_
            rintro e W2 ⟨vp, rfl, hrow, hmm, hf⟩
            obtain ⟨va, vn, vc, rfl⟩ := row_form hrow
            have HK2 := Lib.hid (HK.out.next (hmm W2 (fun _ _ => rfl)) hf)
            have hcv := row_str hrow
            have hrow2 : ∀ q, RowB (W2.drewN q) wr.heap.size (.slice va vn vc) [z] := fun q => RowV.grown hrow ((Grn.refl W2).drew q).below
            have HCV := Lib.hid (fun q => row_str (hrow2 q))
            obtain ⟨g, rfl, hgb, hgl, hvn, hnc, hcm, hcell, hfz, hset⟩ := row_byte hrow 0 (by simp)
            simp only [List.length_cons, List.length_nil, Nat.zero_add] at hvn
            subst hvn
            have hc0 : W2.cell? ⟨g, 0, none⟩ = some (.int .u8 ((z.toNat : Nat) : Int)) := hcell
            clear hmm hf hrow HT HK hfz hset hgb hcell
            have hci : (1 : Int) ≤ (vc : Int) := by omega
            have hsN : st'.size < so.size := by omega
            have hix : so[st'.size]'hsN = z := by
              have e1 : ∀ (s : ByteArray) (i : Nat) (h : i < s.size), s = strB y.S → i = y.k → s[i]'h = z := fun s i h hs hi => by
                subst hs hi
                rw [strB_get _ _ h hkS, HZZ.out]
              exact e1 so st'.size hsN HR.out.so HZ.out.1
            clear hkS HZZ
            go_wp2_with fail
            go_quiet (fail)
            generalize hV2 : W2.drewN nq = V2
            have hb2 : Below W2.heap.size W2 V2 := by rw [← hV2]; exact ((Grn.refl W2).drew nq).below
            have hcv2 : (convert 44 9 (.slice (some ⟨g, 0, none⟩) 1 vc)).run Try.prog V2 = .ok (.string (strB [z])) V2 := by
              rw [← hV2]
              exact HCV.out nq
            have HK3 := Lib.hid (HK2.out.grow hb2)
            have hlen : (st'.size : Int) + ((strB [z]).size : Int) ≤ 200000 := by rw [strB_size]; simp; omega
            have HL3 : Hid (so.size - (st' ++ strB [z]).size < so.size - st'.size) := Lib.hid (by
              rw [ByteArray.size_append, strB_size]
              simp
              omega)
            clear hV2 hb2 hcv hix HK2
            go_wp2_with fail
            go_roundw
            case rel => exact ⟨_, _, rfl, HK3, HMO⟩
            case measure => exact HL3.out
          · have hEq : st'.size = so.size := by omega
            have hkE : y.k = y.S.length := by rw [← HZ.out.1, ← HZ.out.2]; exact hEq
            have hrs := mtResult_any HK.out.at'
            have hre : resC y = (((so.size : Nat) : Int), 0, y.off) := by
              have hc := HR.out.bc
              rcases res_cases y HOK.out with ⟨hi, hr⟩ | ⟨hi, _, hk, hr⟩ | ⟨hi, hc2, hr⟩ | ⟨hi, _, hk, hr⟩
              · rw [HR.out.bi] at hi; cases hi
              · omega
              · rw [hc] at hc2; cases hc2
              · rw [hr, ← HZ.out.1, hEq]
            rw [hre] at hrs
            have HT := Lib.hid hrs
            unfold pt at HT
            clear hrs hre hkE hEq
            go_wp2_with (go_at_call 16; fail)
            refine HT.out.mono ?_
            rintro e W2 ⟨rfl, hm, hf⟩
            have HK2 := Lib.hid (HK.out.next hm hf)
            clear hm hf HT HK
            go_wp2_with (go_at_call 9; refine (known_any _).mono ?_; rintro e w9 ⟨rfl, hb⟩)
            go_ret
            exact ⟨rfl, HK2.out.be.trans (hb.mono HK2.out.be.size)⟩
end Go.Proofs.Ytophkjnniodegaa
