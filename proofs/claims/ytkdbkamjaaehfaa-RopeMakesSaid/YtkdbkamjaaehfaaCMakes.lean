/- The walk of RopeMakes. -/
import Derived.Test.YtkdbkamjaaehfaaCBump
import Derived.Test.YtkdbkamjaaehfaaCKn2
import Derived.Test.YtkdbkamjaaehfaaCEnd
import Derived.Test.YtkdbkamjaaehfaaCSmall
namespace Go.Proofs.Ytkdbkamjaaehfaa
open Go.RowKit Go.Sort
set_option linter.unusedVariables false
set_option linter.unusedSimpArgs false

set_option maxRecDepth 100000 in
set_option maxHeartbeats 6400000 in
theorem ropeMakes_walk0 {w : World} {vp : Value} {Ps : Parts} (h : SrcV w vp (Ps.map encS)) :
    Calls Try.prog 3 #[vp] w fun e w' => e = .returned (.bool true) ∧ Below w.heap.size w w' := by
  have HP := Lib.hid h
  obtain ⟨pa, pc, hpf, _, _⟩ := h.formS
  generalize hPN : Ps.length = N at *
  subst hpf
  have HPN := Lib.hid hPN
  clear h hPN
  go_enter Try.func3, Try.ntmps3
  go_wp2_with (go_at_call 8; fail)
  refine (small_any HP.out).mono ?_
  rintro e w' ⟨(⟨rfl, hk, hl⟩ | rfl), rfl⟩
  case' inr =>
    go_wp2_with (go_at_call 9; fail)
    refine (known_any _).mono ?_
    rintro e w' ⟨rfl, hb⟩
    go_wp2_with fail
    go_ret
    exact ⟨rfl, hb⟩
  have HK1 := Lib.hid (And.intro hk hl)
  have hNI : (N : Int) ≤ 1100 := by have := HPN.out; omega
  clear hk hl
  obtain ⟨ep, hep⟩ : ∃ ep, ep = errC (full Ps).length Ps.flatten.length := ⟨_, rfl⟩
  obtain ⟨A, hA⟩ : ∃ A, A = newP Ps := ⟨_, rfl⟩
  have be1 := errC_small Ps
  rw [← hep] at be1
  have hnew := Lib.hid (fun (W : World) (vl : Value) (vs : List Value) (hl : SrcV W vl vs) (hr : RowsB W vs Ps) => new_any hl hr (by have := HK1.out; omega) (by have := HK1.out; omega))
  have href := Lib.hid (fun (W : World) (hW : SrcV W (.slice pa N pc) (Ps.map encS)) => refNew_any hW (by have := HK1.out; omega) (by have := HK1.out; omega))
  rw [← hep, ← hA] at hnew href
  have HA := Lib.hid hA
  clear hep hA
  go_wp2_with fail
  go_loopw [3, 23] (fun lv i wr => ∃ k vs, k ≤ N ∧ i = .int .i64 (k : Nat) ∧ Hid (RowV wr 26 w.heap.size lv vs) ∧ Hid (Made wr w.heap.size vs (Ps.take k)) ∧ Hid (Below w.heap.size w wr)) (fun _ i _ => N - (intOf i).toNat)
  case atStart => exact ⟨0, [], Nat.zero_le _, rfl, Lib.hid (World.ownsRow_nil _ _ _ _), Lib.hid ⟨rfl, fun i v p h1 h2 => by simp at h1⟩, Lib.hid (Below.refl _ _)⟩
  case round =>
    obtain ⟨k, vs, hkl, rfl, HR, HM, HB⟩ := hrel
    obtain ⟨la, lc, hlf, hl1, hl2⟩ := (RowV.src HR.out).form
    have hvl : vs.length = k := by have := HM.out.1; rw [List.length_take] at this; have := HPN.out; omega
    rw [hvl] at hlf hl1
    subst hlf
    have HVL := Lib.hid hvl
    clear hvl
    by_cases hlt : k < N
    · have hltP : k < Ps.length := by rw [HPN.out]; exact hlt
      obtain ⟨b, off, rfl, hbl, hcell⟩ := HP.out.strAt k hltP
      have hcx := below_cells HB.out _ _ hcell
      have hbl2 : b < wr.heap.size := by have := HB.out.size; omega
      have hlen : (Ps[k]).length ≤ 200000 := by have := flat_le' Ps k hltP; have := HK1.out; omega
      have hPK := Lib.hid (List.take_succ_eq_append_getElem hltP)
      have hsz : Hid ((strB Ps[k]).size = (Ps[k]).length) := Lib.hid (strB_size _)
      obtain ⟨cc, xs, W5, hcv, hb5, hm5, ht5, hc5, hs5⟩ := conv_bytes wr Ps[k] hlen
      have HB5 := Lib.hid hb5
      have HM5 := Lib.hid hm5
      have HT5 := Lib.hid (And.intro ht5 hc5)
      generalize Ps[k] = p at *
      generalize strB p = s at *
      have hz1 : (s.size : Int) ≤ (cc : Int) := by have := hsz.out; omega
      have hkl2 : (k : Int) < (N : Int) := by omega
      have hwl := hb5.size
      clear hcell hb5 hm5 ht5 hc5 hlen hs5
      have hrow5 := Lib.hid (RowV.grown (RowV.grown HR.out HB5.out) (below_alloc W5 (.cells #[.slice (some ⟨wr.heap.size, 0, none⟩) s.size cc] 26)))
      go_wp2_with (at_builtin; refine wpList_append_v slcBs (by decide) rfl (.tmp 27) (.tmp 30) rfl rfl rfl hrow5.out (by have := HB.out.size; simp; omega) (src_one W5 26 (.slice (some ⟨wr.heap.size, 0, none⟩) s.size cc)) (by intro u hu; simp at hu; subst hu; rfl) (by have := HVL.out; simp; omega) ?_)
      intro v' w' ho' hf' hn'
      have hM6 : Made (W5.alloc (.cells #[.slice (some ⟨wr.heap.size, 0, none⟩) s.size cc] 26)) w.heap.size (vs ++ [.slice (some ⟨wr.heap.size, 0, none⟩) s.size cc]) (Ps.take (k + 1)) := by
        rw [hPK.out, hsz.out]
        have h5 := Made.snoc (HM.out.same (w' := W5) (fun b c xs hm => HB5.out.block b hm.lt)) HM5.out HT5.out.1 HT5.out.2 HB.out.size
        exact h5.same (fun b c xs hm => (below_alloc _ _).block b hm.lt)
      have HM' := Lib.hid (hM6.appended hrow5.out hf')
      have HO' := Lib.hid ho'
      have HB' : Hid (Below w.heap.size w w') := Lib.hid ((HB.out.trans ((HB5.out.trans ((below_alloc _ _).mono HB5.out.size)).mono HB.out.size)).trans (hf'.below (fun x hx => (HR.out.lt x (by simpa using hx)).1) (by have := HB.out.size; simp; omega)))
      clear ho' hf' hn' hM6
      go_wp2_with fail
      go_roundw
      case rel => exact ⟨k + 1, _, by omega, by go_num, HO', HM', HB'⟩
      case measure => simp [intOf]; omega
    · obtain rfl : k = N := by omega
      obtain ⟨wL, rfl⟩ : ∃ x, x = wr := ⟨_, rfl⟩
      have HMk : Hid (Made wL w.heap.size vs Ps) := Lib.hid (by have := HM.out; rwa [← HPN.out, List.take_length] at this)
      clear HM
      have HT := HB
      have HC : Hid (Below wL.heap.size wL wL) := Lib.hid (Below.refl _ _)
      go_wp2_with (go_at_call 10; fail)
      refine (hnew.out _ _ _ (RowV.src HR.out) HMk.out.rows).mono ?_
      rintro e w1 ⟨vr, rfl, Qr, hb⟩
      have HC2 : Hid (Below wL.heap.size wL w1) := Lib.hid (HC.out.trans ((hb).mono HC.out.size))
      clear HC
      have HC := HC2
      clear HC2
      clear hb
      obtain ⟨xr0, xr1, xr2, xr3, xr4, xr5, hvr⟩ := Qr.shape
      subst hvr
      have Qr := Lib.hid (Qr.lower (Nat.zero_le _))
      go_wp2_with (go_at_call 11; fail)
      obtain ⟨W1, hW1⟩ : ∃ x, x = (w1.alloc (.cells #[.slice xr0 xr1 xr2, .slice xr3 xr4 xr5] 29)) := ⟨_, rfl⟩
      have HBn : Below w1.heap.size w1 W1 := by rw [hW1]; exact below_alloc _ _
      have HBB : Hid (Below wL.heap.size wL W1) := Lib.hid (HC.out.trans (HBn.mono HC.out.size))
      have SHR : Hid (RowV W1 26 w.heap.size (.slice la k lc) vs) := Lib.hid (RowV.grown (HR.out) HBB.out)
      have SHMk : Hid (Made W1 w.heap.size vs Ps) := Lib.hid (Made.same (HMk.out) (fun b c xs hm => (HBB.out).block b hm.lt))
      have Yr : Hid (W1.heap[w1.heap.size]? = some (.cells #[.slice xr0 xr1 xr2, .slice xr3 xr4 xr5] 29 (0, 0))) := Lib.hid (by rw [hW1]; exact heap_alloc_new _ _)
      have SRr : Hid (RopeAt W1 0 (.agg #[.slice xr0 xr1 xr2, .slice xr3 xr4 xr5]) (A)) := Lib.hid (((Qr.out)).grown HBn)
      have HTn : Hid (Below w.heap.size w W1) := Lib.hid (HT.out.trans (HBB.out.mono HT.out.size))
      rw [← hW1]
      clear hW1 HC HT HBn HBB HR HMk
      have Xr := Yr
      have HR := SHR
      have HMk := SHMk
      have Rr := SRr
      have HT := HTn
      clear HTn Yr SHR SHMk SRr
      have HC : Hid (Below W1.heap.size W1 W1) := Lib.hid (Below.refl _ _)
      refine (href.out _ (HP.out.grown (HT.out.trans (HC.out.mono HT.out.size)))).mono ?_
      rintro e w2 ⟨uv, rfl, Qv, hb⟩
      have HC2 : Hid (Below W1.heap.size W1 w2) := Lib.hid (HC.out.trans ((hb).mono HC.out.size))
      clear HC
      have HC := HC2
      clear HC2
      clear hb
      unfold rf
      obtain ⟨yv0, yv1, yv2, hvv⟩ := row_form Qv
      subst hvv
      have Qv := Lib.hid (RowV.lower Qv (Nat.zero_le _))
      go_wp2_with fail
      obtain ⟨W2, hW2⟩ : ∃ x, x = (w2.alloc (.cells #[.slice yv0 yv1 yv2] 34)) := ⟨_, rfl⟩
      have HBn : Below w2.heap.size w2 W2 := by rw [hW2]; exact below_alloc _ _
      have HBB : Hid (Below W1.heap.size W1 W2) := Lib.hid (HC.out.trans (HBn.mono HC.out.size))
      have Yr : Hid (W2.heap[w1.heap.size]? = some (.cells #[.slice xr0 xr1 xr2, .slice xr3 xr4 xr5] 29 (0, 0))) := Lib.hid ((HBB.out.block _ (lt_of_block Xr.out)).trans Xr.out)
      have SHR : Hid (RowV W2 26 w.heap.size (.slice la k lc) vs) := Lib.hid (RowV.grown (HR.out) HBB.out)
      have SHMk : Hid (Made W2 w.heap.size vs Ps) := Lib.hid (Made.same (HMk.out) (fun b c xs hm => (HBB.out).block b hm.lt))
      have SRr : Hid (RopeAt W2 0 (.agg #[.slice xr0 xr1 xr2, .slice xr3 xr4 xr5]) (A)) := Lib.hid ((Rr.out).grown HBB.out)
      have Yv : Hid (W2.heap[w2.heap.size]? = some (.cells #[.slice yv0 yv1 yv2] 34 (0, 0))) := Lib.hid (by rw [hW2]; exact heap_alloc_new _ _)
      have SRv : Hid (RowS W2 0 (.slice yv0 yv1 yv2) (A)) := Lib.hid (RowV.grown ((Qv.out)) HBn)
      have HTn : Hid (Below w.heap.size w W2) := Lib.hid (HT.out.trans (HBB.out.mono HT.out.size))
      rw [← hW2]
      clear hW2 HC HT HBn HBB Xr HR HMk Rr
      have Xr := Yr
      have Xv := Yv
      have HR := SHR
      have HMk := SHMk
      have Rr := SRr
      have Rv := SRv
      have HT := HTn
      clear HTn Yr Yv SHR SHMk SRr SRv
      have HC : Hid (Below W2.heap.size W2 W2) := Lib.hid (Below.refl _ _)
      go_loopw [45] (fun i w3 => ∃ m, m ≤ k ∧ i = .int .i64 (m : Nat) ∧ Hid (Bumped w.heap.size W2 w3)) (fun i _ => k - (intOf i).toNat)
      case atStart => exact ⟨0, Nat.zero_le _, rfl, Lib.hid (Bumped.refl _ _)⟩
      case round =>
        obtain ⟨m, hmk, rfl, HBU⟩ := hrel
        obtain ⟨w3, rfl⟩ : ∃ x, x = wr := ⟨_, rfl⟩
        by_cases hmt : m < k
        · have hmP : m < Ps.length := by rw [HPN.out]; exact hmt
          have hlv := HMk.out.1
          obtain ⟨b, c, xs, hve, hm1, ht1, hc1, hbb⟩ := HMk.out.2 m (vs[m]'(by omega)) Ps[m] (List.getElem?_eq_getElem _) (List.getElem?_eq_getElem hmP)
          obtain ⟨gl, hge, hgl, hcl⟩ := RowV.elem (HBU.out.row HR.out) m _ (List.getElem?_eq_getElem (by omega : m < vs.length))
          rw [hve] at hcl
          obtain ⟨xs0, hm0⟩ := HBU.out.made hm1
          have HM0 := Lib.hid hm0
          have HBB := Lib.hid hbb
          have hpl : (Ps[m]).length ≤ 70000 := by have := flat_le' Ps m hmP; have := HK1.out; omega
          generalize (Ps[m]).length = pl at *
          have hplI : (pl : Int) ≤ 70000 := by omega
          have hpc : (pl : Int) ≤ (c : Int) := by omega
          have hmI : (m : Int) < (k : Int) := by omega
          subst hge
          clear hm1 ht1 hve hbb hm0 hlv
          go_wp2_with fail
          go_loopw [51] (fun i w4 => ∃ j, j ≤ pl ∧ i = .int .i64 (j : Nat) ∧ Hid (Bumped w.heap.size w3 w4)) (fun i _ => pl - (intOf i).toNat)
          case atStart => exact ⟨0, Nat.zero_le _, rfl, Lib.hid (Bumped.refl _ _)⟩
          case round =>
            obtain ⟨j, hjl, rfl, HBW⟩ := hrel
            by_cases hjt : j < pl
            · obtain ⟨xs1, hm2⟩ := HBW.out.made HM0.out
              have hj2 : j < xs1.length := by have := hm2.len; omega
              have hcx := hm2.cell j hj2
              have hfx := hm2.free j (by omega)
              have hbl := hm2.lt
              have hx2 : ((xs1[j].toNat : Nat) : Int) ≤ 255 := by have := xs1[j].toNat_lt; omega
              have HBS := Lib.hid (fun (z : Int) (h0 : 0 ≤ z) (h1 : z < 256) => bump_set hm2 HBB.out j (by omega) z h0 h1)
              generalize xs1[j].toNat = x at *
              have hji : (j : Int) < (pl : Int) := by omega
              clear hm2 hj2
              go_wp2_with fail
              have hbs := HBS.out (((x : Int) + 1) % 256) (by omega) (by omega)
              go_roundw
              case rel => exact ⟨j + 1, by omega, by go_num, Lib.hid (HBW.out.trans hbs)⟩
              case measure => simp [intOf]; omega
            · obtain rfl : j = pl := by omega
              go_wp2_with fail
              go_roundw
              case rel => exact ⟨m + 1, by omega, by go_num, Lib.hid (HBU.out.trans HBW.out)⟩
              case measure => simp [intOf]; omega
        · obtain rfl : m = k := by omega
          have Yr : Hid (w3.heap[w1.heap.size]? = some (.cells #[.slice xr0 xr1 xr2, .slice xr3 xr4 xr5] 29 (0, 0))) := Lib.hid (HBU.out.plain Xr.out)
          have Yv : Hid (w3.heap[w2.heap.size]? = some (.cells #[.slice yv0 yv1 yv2] 34 (0, 0))) := Lib.hid (HBU.out.plain Xv.out)
          have SRr : Hid (RopeAt w3 0 (.agg #[.slice xr0 xr1 xr2, .slice xr3 xr4 xr5]) (A)) := Lib.hid (HBU.out.rope Rr.out)
          have SRv : Hid (RowS w3 0 (.slice yv0 yv1 yv2) (A)) := Lib.hid (HBU.out.row Rv.out)
          have HTn : Hid (Below w.heap.size w w3) := Lib.hid (HT.out.trans HBU.out.below)
          clear HC HT HR HMk Xr Xv Rr Rv HBU
          have Xr := Yr
          have Xv := Yv
          have Rr := SRr
          have Rv := SRv
          have HT := HTn
          clear Yr Yv SRr SRv HTn
          have HC : Hid (Below w3.heap.size w3 w3) := Lib.hid (Below.refl _ _)
          have kr0w3 : w3.cell? ⟨w1.heap.size, 0, none⟩ = some (.slice xr0 xr1 xr2) := cells_cell ((HC.out.block _ (lt_of_block Xr.out)).trans Xr.out) rfl
          have zr0w3 : w3.frozen? ⟨w1.heap.size, 0, none⟩ = false := cells_free ((HC.out.block _ (lt_of_block Xr.out)).trans Xr.out) _
          have kr1w3 : w3.cell? ⟨w1.heap.size, 1, none⟩ = some (.slice xr3 xr4 xr5) := cells_cell ((HC.out.block _ (lt_of_block Xr.out)).trans Xr.out) rfl
          have zr1w3 : w3.frozen? ⟨w1.heap.size, 1, none⟩ = false := cells_free ((HC.out.block _ (lt_of_block Xr.out)).trans Xr.out) _
          have lrw3 : w1.heap.size < w3.heap.size := lt_of_block ((HC.out.block _ (lt_of_block Xr.out)).trans Xr.out)
          go_wp2_with (go_at_call 12; fail)
          refine (lawParts_any (Rr.out.grown HC.out)).mono ?_
          rintro e w101 ⟨ug, rfl, Qg, hb⟩
          have HC2 : Hid (Below w3.heap.size w3 w101) := Lib.hid (HC.out.trans ((hb).mono HC.out.size))
          clear HC
          have HC := HC2
          clear HC2
          clear hb
          unfold rf
          obtain ⟨yg0, yg1, yg2, hvg⟩ := row_form Qg
          subst hvg
          have Qg := Lib.hid (RowV.lower Qg (Nat.zero_le _))
          have kr0w101 : w101.cell? ⟨w1.heap.size, 0, none⟩ = some (.slice xr0 xr1 xr2) := cells_cell ((HC.out.block _ (lt_of_block Xr.out)).trans Xr.out) rfl
          have zr0w101 : w101.frozen? ⟨w1.heap.size, 0, none⟩ = false := cells_free ((HC.out.block _ (lt_of_block Xr.out)).trans Xr.out) _
          have kr1w101 : w101.cell? ⟨w1.heap.size, 1, none⟩ = some (.slice xr3 xr4 xr5) := cells_cell ((HC.out.block _ (lt_of_block Xr.out)).trans Xr.out) rfl
          have zr1w101 : w101.frozen? ⟨w1.heap.size, 1, none⟩ = false := cells_free ((HC.out.block _ (lt_of_block Xr.out)).trans Xr.out) _
          have lrw101 : w1.heap.size < w101.heap.size := lt_of_block ((HC.out.block _ (lt_of_block Xr.out)).trans Xr.out)
          go_wp2_with (go_at_call 12; fail)
          obtain ⟨W101, hW101⟩ : ∃ x, x = (w101.alloc (.cells #[.slice yg0 yg1 yg2] 34)) := ⟨_, rfl⟩
          have HBn : Below w101.heap.size w101 W101 := by rw [hW101]; exact below_alloc _ _
          have HBB : Hid (Below w3.heap.size w3 W101) := Lib.hid (HC.out.trans (HBn.mono HC.out.size))
          have Yr : Hid (W101.heap[w1.heap.size]? = some (.cells #[.slice xr0 xr1 xr2, .slice xr3 xr4 xr5] 29 (0, 0))) := Lib.hid ((HBB.out.block _ (lt_of_block Xr.out)).trans Xr.out)
          have Yv : Hid (W101.heap[w2.heap.size]? = some (.cells #[.slice yv0 yv1 yv2] 34 (0, 0))) := Lib.hid ((HBB.out.block _ (lt_of_block Xv.out)).trans Xv.out)
          have SRr : Hid (RopeAt W101 0 (.agg #[.slice xr0 xr1 xr2, .slice xr3 xr4 xr5]) (A)) := Lib.hid ((Rr.out).grown HBB.out)
          have SRv : Hid (RowS W101 0 (.slice yv0 yv1 yv2) (A)) := Lib.hid (RowV.grown (Rv.out) HBB.out)
          have Yg : Hid (W101.heap[w101.heap.size]? = some (.cells #[.slice yg0 yg1 yg2] 34 (0, 0))) := Lib.hid (by rw [hW101]; exact heap_alloc_new _ _)
          have SRg : Hid (RowS W101 0 (.slice yg0 yg1 yg2) (A)) := Lib.hid (RowV.grown ((Qg.out)) HBn)
          have HTn : Hid (Below w.heap.size w W101) := Lib.hid (HT.out.trans (HBB.out.mono HT.out.size))
          rw [← hW101]
          clear hW101 HC HT HBn HBB Xr Xv Rr Rv
          have Xr := Yr
          have Xv := Yv
          have Xg := Yg
          have Rr := SRr
          have Rv := SRv
          have Rg := SRg
          have HT := HTn
          clear HTn Yr Yv Yg SRr SRv SRg
          have HC : Hid (Below W101.heap.size W101 W101) := Lib.hid (Below.refl _ _)
          refine (lawParts_any (Rr.out.grown HC.out)).mono ?_
          rintro e w102 ⟨ug2, rfl, Qh, hb⟩
          have HC2 : Hid (Below W101.heap.size W101 w102) := Lib.hid (HC.out.trans ((hb).mono HC.out.size))
          clear HC
          have HC := HC2
          clear HC2
          clear hb
          unfold rf
          obtain ⟨yh0, yh1, yh2, hvh⟩ := row_form Qh
          subst hvh
          have Qh := Lib.hid (RowV.lower Qh (Nat.zero_le _))
          have kg0w102 : w102.cell? ⟨w101.heap.size, 0, none⟩ = some (.slice yg0 yg1 yg2) := cells_cell ((HC.out.block _ (lt_of_block Xg.out)).trans Xg.out) rfl
          have zg0w102 : w102.frozen? ⟨w101.heap.size, 0, none⟩ = false := cells_free ((HC.out.block _ (lt_of_block Xg.out)).trans Xg.out) _
          have lgw102 : w101.heap.size < w102.heap.size := lt_of_block ((HC.out.block _ (lt_of_block Xg.out)).trans Xg.out)
          have kv0w102 : w102.cell? ⟨w2.heap.size, 0, none⟩ = some (.slice yv0 yv1 yv2) := cells_cell ((HC.out.block _ (lt_of_block Xv.out)).trans Xv.out) rfl
          have zv0w102 : w102.frozen? ⟨w2.heap.size, 0, none⟩ = false := cells_free ((HC.out.block _ (lt_of_block Xv.out)).trans Xv.out) _
          have lvw102 : w2.heap.size < w102.heap.size := lt_of_block ((HC.out.block _ (lt_of_block Xv.out)).trans Xv.out)
          go_wp2_with (go_at_call 13; fail)
          obtain ⟨W102, hW102⟩ : ∃ x, x = (w102.alloc (.cells #[.slice yh0 yh1 yh2] 34)) := ⟨_, rfl⟩
          have HBn : Below w102.heap.size w102 W102 := by rw [hW102]; exact below_alloc _ _
          have HBB : Hid (Below W101.heap.size W101 W102) := Lib.hid (HC.out.trans (HBn.mono HC.out.size))
          have Yr : Hid (W102.heap[w1.heap.size]? = some (.cells #[.slice xr0 xr1 xr2, .slice xr3 xr4 xr5] 29 (0, 0))) := Lib.hid ((HBB.out.block _ (lt_of_block Xr.out)).trans Xr.out)
          have Yv : Hid (W102.heap[w2.heap.size]? = some (.cells #[.slice yv0 yv1 yv2] 34 (0, 0))) := Lib.hid ((HBB.out.block _ (lt_of_block Xv.out)).trans Xv.out)
          have Yg : Hid (W102.heap[w101.heap.size]? = some (.cells #[.slice yg0 yg1 yg2] 34 (0, 0))) := Lib.hid ((HBB.out.block _ (lt_of_block Xg.out)).trans Xg.out)
          have SRr : Hid (RopeAt W102 0 (.agg #[.slice xr0 xr1 xr2, .slice xr3 xr4 xr5]) (A)) := Lib.hid ((Rr.out).grown HBB.out)
          have SRv : Hid (RowS W102 0 (.slice yv0 yv1 yv2) (A)) := Lib.hid (RowV.grown (Rv.out) HBB.out)
          have SRg : Hid (RowS W102 0 (.slice yg0 yg1 yg2) (A)) := Lib.hid (RowV.grown (Rg.out) HBB.out)
          have Yh : Hid (W102.heap[w102.heap.size]? = some (.cells #[.slice yh0 yh1 yh2] 34 (0, 0))) := Lib.hid (by rw [hW102]; exact heap_alloc_new _ _)
          have SRh : Hid (RowS W102 0 (.slice yh0 yh1 yh2) (A)) := Lib.hid (RowV.grown ((Qh.out)) HBn)
          have HTn : Hid (Below w.heap.size w W102) := Lib.hid (HT.out.trans (HBB.out.mono HT.out.size))
          rw [← hW102]
          clear hW102 HC HT HBn HBB Xr Xv Xg Rr Rv Rg
          have Xr := Yr
          have Xv := Yv
          have Xg := Yg
          have Xh := Yh
          have Rr := SRr
          have Rv := SRv
          have Rg := SRg
          have Rh := SRh
          have HT := HTn
          clear HTn Yr Yv Yg Yh SRr SRv SRg SRh
          have HC : Hid (Below W102.heap.size W102 W102) := Lib.hid (Below.refl _ _)
          have hAl : A.length ≤ 1024 := by rw [HA.out]; exact newP_len _
          refine (refSame_any ((RowV.src Rg.out).grown HC.out) ((RowV.src Rv.out).grown HC.out) (by omega)).mono ?_
          rintro e w103 ⟨rfl, hb⟩
          have HC2 : Hid (Below W102.heap.size W102 w103) := Lib.hid (HC.out.trans ((hb).mono HC.out.size))
          clear HC
          have HC := HC2
          clear HC2
          clear hb
          have kh0w103 : w103.cell? ⟨w102.heap.size, 0, none⟩ = some (.slice yh0 yh1 yh2) := cells_cell ((HC.out.block _ (lt_of_block Xh.out)).trans Xh.out) rfl
          have zh0w103 : w103.frozen? ⟨w102.heap.size, 0, none⟩ = false := cells_free ((HC.out.block _ (lt_of_block Xh.out)).trans Xh.out) _
          have lhw103 : w102.heap.size < w103.heap.size := lt_of_block ((HC.out.block _ (lt_of_block Xh.out)).trans Xh.out)
          have kv0w103 : w103.cell? ⟨w2.heap.size, 0, none⟩ = some (.slice yv0 yv1 yv2) := cells_cell ((HC.out.block _ (lt_of_block Xv.out)).trans Xv.out) rfl
          have zv0w103 : w103.frozen? ⟨w2.heap.size, 0, none⟩ = false := cells_free ((HC.out.block _ (lt_of_block Xv.out)).trans Xv.out) _
          have lvw103 : w2.heap.size < w103.heap.size := lt_of_block ((HC.out.block _ (lt_of_block Xv.out)).trans Xv.out)
          go_wp2_with (go_at_call 13; fail)
          refine (refSame_any ((RowV.src Rh.out).grown HC.out) ((RowV.src Rv.out).grown HC.out) (by omega)).mono ?_
          rintro e w104 ⟨rfl, hb⟩
          have HC2 : Hid (Below W102.heap.size W102 w104) := Lib.hid (HC.out.trans ((hb).mono HC.out.size))
          clear HC
          have HC := HC2
          clear HC2
          clear hb
          go_wp2_with (go_at_call 9; fail)
          refine (known_any _).mono ?_
          rintro e w105 ⟨rfl, hb⟩
          have HC2 : Hid (Below W102.heap.size W102 w105) := Lib.hid (HC.out.trans ((hb).mono HC.out.size))
          clear HC
          have HC := HC2
          clear HC2
          clear hb
          go_wp2_with fail
          go_ret
          exact ⟨rfl, (HT.out.trans (HC.out.mono HT.out.size))⟩

theorem ropeMakes_walk (a : Option Addr) (len cap : Nat) (w : World) (h : StrsIn w a len cap) :
    Calls Try.prog 3 #[.slice a len cap] w fun e w' => e = .returned (.bool true) ∧ Below w.heap.size w w' := by
  obtain ⟨Ss, _, h1⟩ := h
  exact ropeMakes_walk0 h1
end Go.Proofs.Ytkdbkamjaaehfaa
