/- New. -/
import Derived.Test.YteimjkmjofaieaaCPure
namespace Go.Proofs.Yteimjkmjofaieaa
open Go.RowKit Go.Sort
set_option linter.unusedVariables false
set_option linter.unusedSimpArgs false

/-- Slices of bytes, and what they have. -/
def RowsB (w : World) (vs : List Value) (Ps : Parts) : Prop := Rows w vs (Ps.map fun p => p.map encB)
theorem RowsB.at {w : World} {vs : List Value} {Ps : Parts} (h : RowsB w vs Ps) (k : Nat) (hk : k < Ps.length) : ∃ a c, vs[k]? = some (.slice a (Ps[k]).length c) ∧ (Ps[k]).length ≤ c ∧ c ≤ maxLen := by
  have hl : vs.length = Ps.length := by simpa using h.1
  have h1 := h.2 k (vs[k]'(by omega)) ((Ps[k]).map encB) (List.getElem?_eq_getElem _) (by simp [hk])
  obtain ⟨a, c, hf, h2, h3⟩ := h1.form
  rw [List.length_map] at hf h2
  exact ⟨a, c, by rw [List.getElem?_eq_getElem (by omega), hf], h2, h3⟩
theorem map_flat (Ps : Parts) : (Ps.map fun p => p.map encB).flatten = Ps.flatten.map encB := by
  rw [List.map_flatten]
theorem catB_parts {w : World} {vl : Value} {vs : List Value} {Ps : Parts} (hl : SrcV w vl vs) (hr : RowsB w vs Ps) (hn : Ps.flatten.length ≤ 200000) (hk : Ps.length ≤ 200000) :
    Calls Try.prog 56 #[vl] w fun e w' => ∃ v, e = .returned v ∧ RowB w' w.heap.size v Ps.flatten ∧ Below w.heap.size w w' := by
  refine (catB_any hl hr (fun p hp u hu => ?_) (by rw [map_flat, List.length_map]; exact hn) (by rw [List.length_map]; exact hk)).mono ?_
  · obtain ⟨q, _, rfl⟩ := List.mem_map.1 hp
    exact encB_one q u hu
  · rintro e w' ⟨v, rfl, ho, hb⟩
    rw [map_flat] at ho
    exact ⟨v, rfl, ho, hb⟩
theorem RowN.form {w : World} {b : Nat} {v : Value} {L : List Nat} (h : RowN w b v L) : ∃ a c, v = .slice a L.length c ∧ L.length ≤ c ∧ c ≤ maxLen := by
  have := (RowV.src h).form
  rwa [List.length_map] at this
theorem RowB.form {w : World} {b : Nat} {v : Value} {L : List UInt8} (h : RowB w b v L) : ∃ a c, v = .slice a L.length c ∧ L.length ≤ c ∧ c ≤ maxLen := by
  have := (RowV.src h).form
  rwa [List.length_map] at this
theorem errC_or (p s : Nat) : errC p s = 7 ∨ errC p s = 5 ∨ (errC p s = 0 ∧ p ≤ 1024 ∧ s ≤ 65536) := by
  unfold errC
  split
  · exact .inl rfl
  · split
    · exact .inr (.inl rfl)
    · exact .inr (.inr ⟨rfl, by omega, by omega⟩)
theorem two_cells {w : World} {b : Nat} {x y p q : Value} {t : TypeId} (h : w.heap[b]? = some (.cells #[x, y] t (0, 0))) :
    ((w.setCell ⟨b, 0, none⟩ p).setCell ⟨b, 1, none⟩ q).heap[b]? = some (.cells #[p, q] t (0, 0)) := by
  have h1 := cells_set h 0 p
  have h2 := cells_set h1 1 q
  simpa using h2
theorem two_below {w : World} {n b : Nat} (hb : n ≤ b) (p q : Value) : Below n w ((w.setCell ⟨b, 0, none⟩ p).setCell ⟨b, 1, none⟩ q) := ((Below.refl n w).setCell (p := ⟨b, 0, none⟩) hb p).setCell (p := ⟨b, 1, none⟩) hb q
theorem two_fr (w : World) (b : Nat) (p q : Value) : Fr [b] w ((w.setCell ⟨b, 0, none⟩ p).setCell ⟨b, 1, none⟩ q) := (fr_setCell w ⟨b, 0, none⟩ p).trans' (fr_setCell _ ⟨b, 1, none⟩ q)
theorem src_one (w : World) (e : TypeId) (x : Value) : SrcV (w.alloc (.cells #[x] e)) (.slice (some ⟨w.heap.size, 0, none⟩) 1 1) [x] := (row_made w e [x] (by unfold maxLen; simp)).src

theorem RopeAt.shape {w : World} {b : Nat} {v : Value} {Ps : Parts} (R : RopeAt w b v Ps) : ∃ a n c a' n' c', v = .agg #[.slice a n c, .slice a' n' c'] := by
  obtain ⟨vd, ve, rfl, hd, he⟩ := R.ex
  obtain ⟨da, dc, hf, _, _⟩ := hd.form
  obtain ⟨ea, ec, hf2, _, _⟩ := he.form
  exact ⟨_, _, _, _, _, _, by rw [hf, hf2]⟩
set_option maxRecDepth 100000 in
set_option maxHeartbeats 1600000 in
theorem new_any {w : World} {vl : Value} {vs : List Value} {Ps : Parts} (hl : SrcV w vl vs) (hr : RowsB w vs Ps) (hn : Ps.flatten.length ≤ 100000) (hk : Ps.length ≤ 2000) :
    Calls Try.prog 19 #[vl] w fun e w' => ∃ v, e = .returned (.tuple #[v, .int .i64 (errC (full Ps).length Ps.flatten.length)]) ∧ RopeAt w' w.heap.size v (newP Ps) ∧ Below w.heap.size w w' := by
  obtain ⟨a, c, rfl, hc1, hc2⟩ := hl.form
  have hvl : vs.length = Ps.length := by simpa using hr.1
  have HL := Lib.hid hl
  have HR := Lib.hid hr
  have HN := Lib.hid hn
  have HVL := Lib.hid hvl
  have HK := Lib.hid hk
  obtain ⟨T, hT⟩ : ∃ T : Nat → Nat, ∀ k, T k = (Ps.take k).flatten.length := ⟨fun k => (Ps.take k).flatten.length, fun _ => rfl⟩
  have HT := Lib.hid hT
  obtain ⟨N, hN⟩ : ∃ N, N = Ps.length := ⟨_, rfl⟩
  have HT0 : Hid (T 0 = 0) := Lib.hid (by rw [hT]; simp)
  have hTN : Hid (T N = Ps.flatten.length) := Lib.hid (by rw [hT, hN, List.take_length])
  have HNE := Lib.hid hN
  have hkI : (N : Int) ≤ 2000 := by omega
  rw [hvl, ← hN] at hc1 ⊢
  obtain ⟨M, hM⟩ : ∃ M, M = (full Ps).length := ⟨_, rfl⟩
  have HM := Lib.hid hM
  have hMN : Hid (M ≤ 2000) := Lib.hid (by have := full_len Ps; omega)
  clear hT hN hM hl hr hn hvl hk
  go_enter Try.func19, Try.ntmps19
  go_wp2_with fail
  obtain ⟨W, hW⟩ : ∃ W, W = w.alloc (.cells #[.slice none 0 0, .slice none 0 0] 52) := ⟨_, rfl⟩
  have hWs : W.heap.size = w.heap.size + 1 := by rw [hW]; simp
  have HWB : Hid (Below w.heap.size w W) := Lib.hid (by rw [hW]; exact below_alloc _ _)
  have HWC : Hid (W.heap[w.heap.size]? = some (.cells #[.slice none 0 0, .slice none 0 0] 52 (0, 0))) := Lib.hid (by rw [hW]; exact heap_alloc_new w _)
  rw [← hW]
  have HWS := Lib.hid hWs
  clear hW hWs
  go_loopw [4, 5, 11] (fun ve sz i wr => ∃ k, k ≤ N ∧ Hid (RowN wr W.heap.size ve (ends 0 (full (Ps.take k)))) ∧ sz = .int .i64 ((T k : Nat) : Int) ∧ i = .int .i64 (k : Nat) ∧ Hid (Below W.heap.size W wr)) (fun _ _ i _ => N - (intOf i).toNat)
  case atStart => exact ⟨0, Nat.zero_le _, Lib.hid (World.ownsRow_nil _ _ _ _), by rw [HT0.out]; rfl, rfl, Lib.hid (Below.refl _ _)⟩
  case round =>
    obtain ⟨k, hkl, hrow, rfl, rfl, hbw⟩ := hrel
    obtain ⟨va, vc, hvf, _, _⟩ := hrow.out.form
    have hvn : (ends 0 (full (Ps.take k))).length ≤ 2000 := by rw [ends_length]; have := full_le Ps k; have := full_len Ps; have := HNE.out; have := HK.out; omega
    have HVN := Lib.hid (ends_length 0 (full (Ps.take k)))
    generalize hvq : (ends 0 (full (Ps.take k))).length = vn at *
    have HVQ := Lib.hid hvq
    clear hvq
    subst hvf
    by_cases hlt : k < N
    · have hltP : k < Ps.length := by rw [← HNE.out]; exact hlt
      obtain ⟨b, off, rfl, hbl, hcell⟩ := HL.out.at (by have := HVL.out; omega)
      obtain ⟨ak, ck, hvk, hck1, hck2⟩ := HR.out.at k hltP
      have hck := below_cells hbw.out _ _ (below_cells HWB.out _ _ (hcell k _ hvk))
      have hle := flat_le' Ps k hltP
      have hst : Hid (T (k + 1) = T k + (Ps[k]).length) := Lib.hid (by rw [HT.out, HT.out, flat_take_succ Ps k hltP, List.length_append])
      have hle2 : (T k : Int) + ((Ps[k]).length : Int) ≤ 100000 := by have := HN.out; rw [HT.out]; omega
      have hbl2 : b < wr.heap.size := by have := hbw.out.size; have := HWB.out.size; omega
      have hfs := full_succ Ps k hltP
      have hTk := HT.out k
      rw [← full_flat] at hTk
      have HTk := Lib.hid hTk
      clear hcell hvk hle hbl hTk
      generalize hpl : (Ps[k]).length = pl at *
      generalize hS : T k = S at *
      have HS := Lib.hid hS
      clear hS
      have hkl2 : (k : Int) < (N : Int) := by omega
      by_cases hp0 : pl = 0
      · rw [if_pos (by rw [List.isEmpty_iff_length_eq_zero]; omega), List.append_nil] at hfs
        have HFS := Lib.hid hfs
        clear hfs hpl
        subst hp0
        go_wp2_with fail
        go_roundw
        case rel => exact ⟨k + 1, by omega, by rw [HFS.out]; exact hrow, by rw [hst.out, Nat.add_zero], by go_num, hbw⟩
        case measure => simp [intOf]; omega
      · rw [if_neg (by rw [List.isEmpty_iff_length_eq_zero]; omega)] at hfs
        have HFS := Lib.hid hfs
        have HPL := Lib.hid hpl
        clear hfs hpl
        have hp1 : (0 : Int) < (pl : Int) := by omega
        have hxs : Hid ((ends 0 (full (Ps.take (k + 1)))) = ends 0 (full (Ps.take k)) ++ [S + pl]) := Lib.hid (by
          rw [HFS.out, ends_append, Nat.zero_add, ← HTk.out]
          simp [ends, HPL.out])
        go_wp2_with (at_builtin; refine wpList_append_v slcN (by decide) rfl (.tmp 22) (.tmp 24) rfl rfl rfl (RowV.grown hrow.out (below_alloc _ _)) (by have := hbw.out.size; simp; omega) (src_one _ _ (encN (S + pl))) (encN_one [S + pl]) (by have := HVQ.out; simp; omega) ?_)
        intro v' w' ho' hf' hn'
        have HO' : Hid (RowN w' W.heap.size v' (ends 0 (full (Ps.take (k + 1))))) := Lib.hid (by rw [hxs.out]; unfold RowN; rw [List.map_append]; exact ho')
        have HB' : Hid (Below W.heap.size W w') := Lib.hid ((hbw.out.trans ((below_alloc _ _).mono hbw.out.size)).trans (hf'.below (fun x hx => (hrow.out.lt x (by simpa using hx)).1) (by have := hbw.out.size; simp; omega)))
        clear ho' hf' hn'
        go_wp2_with fail
        go_roundw
        case rel => exact ⟨k + 1, by omega, HO', by rw [hst.out]; go_num, by go_num, HB'⟩
        case measure => simp [intOf]; omega
    · obtain rfl : k = N := by omega
      have hvM : vn = M := by have := HVN.out; rw [HM.out]; rw [this, HNE.out, List.take_length]
      subst hvM
      have hfull : Hid (full (Ps.take k) = full Ps) := Lib.hid (by rw [HNE.out, List.take_length])
      have hch := Lib.hid (check_any wr vn (T k))
      have hor := errC_or vn (T k)
      have HNP : Hid ((errC vn (T k) = 0 → newP Ps = full Ps) ∧ (errC vn (T k) ≠ 0 → newP Ps = [])) := Lib.hid (by
        unfold newP
        rw [← HM.out, ← hTN.out]
        exact ⟨fun h => if_pos h, fun h => if_neg h⟩)
      have HER : Hid (errC (full Ps).length Ps.flatten.length = errC vn (T k)) := Lib.hid (by rw [HM.out, hTN.out])
      generalize errC vn (T k) = c at *
      have HB := Lib.hid (HWB.out.trans (hbw.out.mono (by have := HWS.out; omega)))
      have hcc := Lib.hid ((hbw.out.block w.heap.size (by have := HWS.out; omega)).trans HWC.out)
      have hc0 : wr.cell? ⟨w.heap.size, 0, none⟩ = some (.slice none 0 0) := cells_cell hcc.out rfl
      have hc1' : wr.cell? ⟨w.heap.size, 1, none⟩ = some (.slice none 0 0) := cells_cell hcc.out rfl
      have hz0 : wr.frozen? ⟨w.heap.size, 0, none⟩ = false := cells_free hcc.out _
      have hz1 : wr.frozen? ⟨w.heap.size, 1, none⟩ = false := cells_free hcc.out _
      rcases hor with rfl | rfl | ⟨rfl, hm1, hm2⟩
      case' inr.inr =>
        have hcat := Lib.hid (catB_parts (SrcV.grown HL.out HB.out) (Rows.grown HR.out HB.out) (by have := HN.out; omega) (by have := HK.out; omega))
        rw [HVL.out, ← HNE.out] at hcat
        have HROW := hrow
        have HM1 := Lib.hid hm1
        have HM2 := Lib.hid hm2
        clear hm1 hm2
        go_wp2_with (first | (go_at_call 55; refine hch.out.mono ?_; rintro e w' ⟨rfl, rfl⟩) | (go_at_call 56; fail))
        refine hcat.out.mono ?_
        rintro e w2 ⟨v2, rfl, ho2, hb2⟩
        have HO2 := Lib.hid ho2
        have HB2 := Lib.hid hb2
        have hcc2 := Lib.hid ((hb2.block w.heap.size (lt_of_block hcc.out)).trans hcc.out)
        have gc0 : w2.cell? ⟨w.heap.size, 0, none⟩ = some (.slice none 0 0) := cells_cell hcc2.out rfl
        have gc1 : w2.cell? ⟨w.heap.size, 1, none⟩ = some (.slice none 0 0) := cells_cell hcc2.out rfl
        have gz0 : w2.frozen? ⟨w.heap.size, 0, none⟩ = false := cells_free hcc2.out _
        have gz1 : w2.frozen? ⟨w.heap.size, 1, none⟩ = false := cells_free hcc2.out _
        have hlt2 : w.heap.size < w2.heap.size := lt_of_block hcc2.out
        obtain ⟨v2a, v2c, hf2, _, _⟩ := ho2.form
        obtain ⟨fl, hfl⟩ : ∃ fl, fl = Ps.flatten.length := ⟨_, rfl⟩
        rw [← hfl] at hf2
        clear ho2 hb2 hc0 hc1' hz0 hz1 hfl
        subst hf2
        go_wp2_with fail
        generalize hWF : World.setCell _ _ _ = WF
        have ht : WF.heap[w.heap.size]? = some (.cells #[.slice v2a fl v2c, .slice va vn vc] 52 (0, 0)) := by rw [← hWF]; exact two_cells hcc2.out
        have hfr : Fr [w.heap.size] w2 WF := by rw [← hWF]; exact two_fr _ _ _ _
        have hb3 : Below w.heap.size w2 WF := by rw [← hWF]; exact two_below (Nat.le_refl _) _ _
        clear hWF
        refine bodyPost_ret (v := .tuple #[.agg #[.slice v2a fl v2c, .slice va vn vc], .int .i64 0]) (by simp [results, Try.results19, go_sem, cells_cell ht (o := 0) rfl, cells_cell ht (o := 1) rfl]) rfl ⟨_, by rw [HER.out], ?_, ?_⟩
        · have hws : w.heap.size < wr.heap.size := lt_of_block hcc.out
          have hWS := HWS.out
          rw [HNP.out.1 (by trivial)]
          refine ⟨⟨_, _, rfl, RowV.lower (hfr.row ?_ ?_) (Nat.le_of_lt hws), RowV.lower (hfr.row ?_ ?_) (b := W.heap.size) (by omega)⟩, full_ne Ps, by rw [← HM.out]; exact HM1.out, by rw [full_flat, ← hTN.out]; exact HM2.out⟩
          · rw [full_flat]; exact HO2.out
          · intro g hg hm
            have := (HO2.out.lt g hg).1
            simp at hm
            omega
          · have := RowV.grown hrow.out HB2.out
            rwa [hfull.out] at this
          · intro g hg hm
            have := (hrow.out.lt g hg).1
            simp at hm
            omega
        · exact HB.out.trans ((HB2.out.mono HB.out.size).trans hb3)
      all_goals (
        go_wp2_with (go_at_call 55; refine hch.out.mono ?_; rintro e w' ⟨rfl, rfl⟩)
        generalize hWF : World.setCell _ _ _ = WF
        have ht : WF.heap[w.heap.size]? = some (.cells #[.slice none 0 0, .slice none 0 0] 52 (0, 0)) := by rw [← hWF]; exact two_cells hcc.out
        have hb3 : Below w.heap.size wr WF := by rw [← hWF]; exact two_below (Nat.le_refl _) _ _
        clear hWF
        refine bodyPost_ret (by simp [results, Try.results19, go_sem, cells_cell ht (o := 0) rfl, cells_cell ht (o := 1) rfl]; rfl) rfl ⟨zeroRope, by rw [HER.out]; rfl, ?_, ?_⟩
        · rw [HNP.out.2 (by decide)]; exact RopeAt.zero _ _
        · exact HB.out.trans hb3)
end Go.Proofs.Yteimjkmjofaieaa
