/- The reference: New. -/
import Derived.Test.YtkdbkamjaaehfaaCRef
namespace Go.Proofs.Ytkdbkamjaaehfaa
open Go.RowKit Go.Sort
set_option linter.unusedVariables false
set_option linter.unusedSimpArgs false

theorem one_cell_set {w : World} {b : Nat} {x y : Value} {t : TypeId} (h : w.heap[b]? = some (.cells #[x] t (0, 0))) : (w.setCell ⟨b, 0, none⟩ y).heap[b]? = some (.cells #[y] t (0, 0)) := by
  have := cells_set h 0 y
  simpa using this
/-- Behind an append to the field in block b. -/
theorem out_appended {w w' : World} {b base : Nat} {v v' : Value} {L L' : Parts} (hc : w.heap[b]? = some (.cells #[v] 34 (0, 0))) (hr : RowS w base v L) (ho : RowS w' base v' L') (hf : Fr v.ownBlock.toList w w') (hb : b < base) :
    (w'.heap[b]? = some (.cells #[v] 34 (0, 0))) ∧ (w'.setCell ⟨b, 0, none⟩ v').heap[b]? = some (.cells #[v'] 34 (0, 0)) ∧ RowS (w'.setCell ⟨b, 0, none⟩ v') base v' L' := by
  have h1 : w'.heap[b]? = some (.cells #[v] 34 (0, 0)) := hf.same hc (fun hm => by
    have := (hr.lt b (by simpa using hm)).1
    omega)
  refine ⟨h1, one_cell_set h1, (fr_setCell w' ⟨b, 0, none⟩ v').row ho (fun g hg hm => ?_)⟩
  have := (ho.lt g hg).1
  simp at hm
  omega

set_option maxRecDepth 100000 in
set_option maxHeartbeats 1600000 in
theorem refNew_any {w : World} {v : Value} {Ps : Parts} (h : SrcV w v (Ps.map encS)) (hn : Ps.flatten.length ≤ 300000) (hk : Ps.length ≤ 3000) :
    Calls Try.prog 11 #[v] w fun e w' => ∃ u, e = .returned (.tuple #[rf u, .int .i64 (errC (full Ps).length Ps.flatten.length)]) ∧ RowS w' w.heap.size u (newP Ps) ∧ Below w.heap.size w w' := by
  obtain ⟨a, c, rfl, hc1, hc2⟩ := h.formS
  obtain ⟨N, hN⟩ : ∃ N, N = Ps.length := ⟨_, rfl⟩
  have HNE := Lib.hid hN
  have HH := Lib.hid h
  have HN := Lib.hid hn
  rw [← hN] at hc1 hk HH ⊢
  have HK := Lib.hid hk
  have hkI : (N : Int) ≤ 3000 := by omega
  obtain ⟨ce, hce⟩ : ∃ ce, ce = errC (full Ps).length Ps.flatten.length := ⟨_, rfl⟩
  rw [← hce]
  have HCE := Lib.hid hce
  clear h hn hN hk hce
  go_enter Try.func11, Try.ntmps11
  go_wp2_with fail
  obtain ⟨W, hW⟩ : ∃ W, W = (w.alloc (.cells #[.slice none 0 0] 34)).alloc (.cells #[.slice none 0 0] 34) := ⟨_, rfl⟩
  have HWS : Hid (W.heap.size = w.heap.size + 2) := Lib.hid (by rw [hW]; simp)
  have HWB : Hid (Below w.heap.size w W) := Lib.hid (by rw [hW]; exact (below_alloc _ _).trans ((below_alloc _ _).mono (by simp)))
  have HW0 : Hid (W.heap[w.heap.size]? = some (.cells #[.slice none 0 0] 34 (0, 0))) := Lib.hid (by rw [hW]; exact ((below_alloc _ _).block _ (by simp)).trans (heap_alloc_new w _))
  have HW1 : Hid (W.heap[w.heap.size + 1]? = some (.cells #[.slice none 0 0] 34 (0, 0))) := Lib.hid (by
    rw [hW]; have := heap_alloc_new (w.alloc (.cells #[.slice none 0 0] 34)) (.cells #[.slice none 0 0] 34); simpa using this)
  rw [← hW]
  clear hW
  go_loopw [5] (fun i wr => ∃ k va vn vc, k ≤ N ∧ i = .int .i64 (k : Nat) ∧ Hid (vn = (full (Ps.take k)).length) ∧ Hid (wr.heap[w.heap.size + 1]? = some (.cells #[.slice va vn vc] 34 (0, 0))) ∧ Hid (RowS wr (w.heap.size + 2) (.slice va vn vc) (full (Ps.take k))) ∧ Hid (Below (w.heap.size + 1) W wr)) (fun i _ => N - (intOf i).toNat)
  case atStart => exact ⟨0, none, 0, 0, Nat.zero_le _, rfl, Lib.hid rfl, HW1, Lib.hid (World.ownsRow_nil _ _ _ _), Lib.hid (Below.refl _ _)⟩
  case round =>
    obtain ⟨k, va, vn, vc, hkl, rfl, HV, HC, HR, HB⟩ := hrel
    have HBw := Lib.hid (HWB.out.trans (HB.out.mono (Nat.le_succ _)))
    have hwl : w.heap.size + 1 < wr.heap.size := lt_of_block HC.out
    by_cases hlt : k < N
    · have hltP : k < Ps.length := by rw [← HNE.out]; exact hlt
      obtain ⟨b, off, rfl, hbl, hcell⟩ := HH.out.strAt k hltP
      have hcx := below_cells HBw.out _ _ hcell
      have hbl2 : b < wr.heap.size := by have := HBw.out.size; omega
      have hfs := Lib.hid (full_succ Ps k hltP)
      have HPK : Hid ((strB Ps[k]).toList = Ps[k]) := Lib.hid (strB_toList _)
      have hsE : Hid (strB Ps[k] = strB Ps[k]) := Lib.hid rfl
      have hvn : vn ≤ 3000 := by have := HV.out; have := full_le Ps k; have := full_len Ps; have := HNE.out; have := HK.out; omega
      have hc0 : wr.cell? ⟨w.heap.size + 1, 0, none⟩ = some (.slice va vn vc) := cells_cell HC.out rfl
      have hz0 : wr.frozen? ⟨w.heap.size + 1, 0, none⟩ = false := cells_free HC.out _
      clear hcell
      obtain ⟨p, hp⟩ : ∃ p, p = Ps[k] := ⟨_, rfl⟩
      rw [← hp] at hfs HPK hsE hcx
      obtain ⟨s, hs⟩ : ∃ s, s = strB p := ⟨_, rfl⟩
      rw [← hs] at hcx HPK hsE
      have HS := Lib.hid hs
      have hkl2 : (k : Int) < (N : Int) := by omega
      clear hp hs
      by_cases hp0 : p = []
      · have hq : s = ⟨#[]⟩ := by rw [HS.out, hp0]; rfl
        have HF : Hid (full (Ps.take (k + 1)) = full (Ps.take k)) := Lib.hid (by rw [hfs.out, hp0]; simp)
        clear hfs HPK hsE HS
        subst hp0 hq
        go_wp2_with fail
        go_roundw
        case rel => exact ⟨k + 1, va, vn, vc, by omega, by go_num, by rw [HF.out]; exact HV, HC, by rw [HF.out]; exact HR, HB⟩
        case measure => simp [intOf]; omega
      · have hq : (s.toList == []) = false := by
          rw [HPK.out]
          cases p with
          | nil => exact absurd rfl hp0
          | cons => rfl
        have HF : Hid (full (Ps.take (k + 1)) = full (Ps.take k) ++ [p]) := Lib.hid (by
          rw [hfs.out]
          cases p with
          | nil => exact absurd rfl hp0
          | cons => rfl)
        clear hfs HPK hsE
        go_wp2_with fail
        refine wp_region_float (fun W' => W'.cell? ⟨w.heap.size + 1, 0, none⟩ = some (.slice va vn vc) ∧ W'.cell? ⟨b, off + k, none⟩ = some (.string s)) 8 [0, 1, 2, 3, 4, 5] [6, 7] (by kernel_rfl) (by kernel_rfl) (fun _ _ _ d _ h => by cases d <;> exact h) ⟨hc0, hcx⟩ ?_
        simp only [List.map_cons, List.map_nil, List.getD_cons_zero, List.getD_cons_succ, List.drop_succ_cons, List.drop_zero]
        refine takes_by (.pointer (some ⟨w.heap.size + 1, 0, none⟩)) rfl (fun W' _ => by go_simp) ?_
        simp only [Act.put, List.setIfInBounds_toArray, List.set_cons_zero, List.set_cons_succ]
        refine takes_by (.slice va vn vc) rfl (fun W' hS => by have h1 := hS.1; go_simp) ?_
        simp only [Act.put, List.setIfInBounds_toArray, List.set_cons_zero, List.set_cons_succ]
        refine takes_move (.tmp 0) (.slice (some ⟨b, off, none⟩) N c) rfl rfl rfl ?_
        simp only [Act.put, List.setIfInBounds_toArray, List.set_cons_zero, List.set_cons_succ]
        refine takes_move (.tmp 5) (.int .i64 (k : Nat)) rfl rfl rfl ?_
        simp only [Act.put, List.setIfInBounds_toArray, List.set_cons_zero, List.set_cons_succ]
        refine takes_by (.pointer (some ⟨b, off + k, none⟩)) rfl (fun W' _ => by go_simp) ?_
        simp only [Act.put, List.setIfInBounds_toArray, List.set_cons_zero, List.set_cons_succ]
        refine takes_by (.string s) rfl (fun W' hS => by have h1 := hS.2; go_simp) ?_
        simp only [Act.put, List.setIfInBounds_toArray, List.set_cons_zero, List.set_cons_succ]
        unfold wpTakes
        refine mids_step rfl (fun K hK => ?_)
        go_simp
        refine hK _ _ ⟨by go_simp, by go_simp⟩ ?_
        clear hK
        refine mids_step rfl (fun K hK => ?_)
        have hrow := RowV.grown HR.out (w' := wr.drew.alloc (.cells #[.string s] 9)) ((Below.refl _ _).drew.alloc (Nat.le_refl _) _)
        have hsrc := src_one wr.drew 9 (.string s)
        refine wp_append_v (v := .slice va vn vc) slcS (by decide) (.tmp 18) (.tmp 23) rfl rfl rfl hrow (by simp; omega) hsrc (by intro u hu; simp at hu; subst hu; rfl) (by have := HV.out; rw [List.length_map]; simp; omega) ?_
        intro v' w6 ho hf hn
        have hoS : RowS w6 (w.heap.size + 2) v' (full (Ps.take (k + 1))) := by
          rw [HF.out]; unfold RowS; rw [List.map_append, List.map_cons, List.map_nil]; unfold encS at *; rw [← HS.out]; exact ho
        have hba : Below wr.heap.size wr (wr.drew.alloc (.cells #[.string s] 9)) := (Below.refl _ _).drew.alloc (Nat.le_refl _) _
        have hlw : w.heap.size + 2 ≤ wr.heap.size := by omega
        have hB6 : Below (w.heap.size + 2) wr w6 := (hba.mono hlw).trans (hf.below (fun x hx => (HR.out.lt x (by simpa using hx)).1) (Nat.le_trans hlw hba.size))
        obtain ⟨g1, g2, g3⟩ := out_appended ((hba.block _ hwl).trans HC.out) hrow hoS hf (by omega)
        obtain ⟨va', vc', hvf, hv1, hv2⟩ := (RowV.src hoS).formS
        have HV' : Hid ((full (Ps.take (k + 1))).length = vn + 1) := Lib.hid (by rw [HF.out, List.length_append, ← HV.out]; rfl)
        rw [HV'.out] at hvf
        subst hvf
        have G1 := Lib.hid g1
        have G2 := Lib.hid g2
        have G3 := Lib.hid g3
        have HB6 := Lib.hid hB6
        have hc6 : w6.cell? ⟨w.heap.size + 1, 0, none⟩ = some (.slice va vn vc) := cells_cell g1 rfl
        have hz6 : w6.frozen? ⟨w.heap.size + 1, 0, none⟩ = false := cells_free g1 _
        have hl6 : w.heap.size + 1 < w6.heap.size := lt_of_block g1
        have hx6 : w6.cell? ⟨b, off + k, none⟩ = some (.string s) := (hB6.cell (p := ⟨b, off + k, none⟩) (by show b < _; omega)).trans hcx
        clear ho hf hn hrow hsrc g1 g2 g3 hoS hba hB6
        refine hK _ _ ⟨hc6, hx6⟩ ?_
        clear hK
        unfold wpMids
        go_wp2_with fail
        go_roundw
        case rel => exact ⟨k + 1, va', vn + 1, vc', by omega, by go_num, Lib.hid HV'.out.symm, G2, G3, Lib.hid (HB.out.trans ((HB6.out.mono (Nat.le_succ _)).trans ((Below.refl _ _).setCell (p := ⟨w.heap.size + 1, 0, none⟩) (Nat.le_refl _) _)))⟩
        case measure => simp [intOf]; omega
    · obtain rfl : k = N := by omega
      have hc0 : wr.cell? ⟨w.heap.size + 1, 0, none⟩ = some (.slice va vn vc) := cells_cell HC.out rfl
      have hcr := Lib.hid ((HB.out.block w.heap.size (by omega)).trans HW0.out)
      have hr0 : wr.cell? ⟨w.heap.size, 0, none⟩ = some (.slice none 0 0) := cells_cell hcr.out rfl
      have hr1 : wr.frozen? ⟨w.heap.size, 0, none⟩ = false := cells_free hcr.out _
      have hfull : Hid (full (Ps.take k) = full Ps) := Lib.hid (by rw [HNE.out, List.take_length])
      have hor := errC_or vn Ps.flatten.length
      have HER : Hid (errC (full Ps).length Ps.flatten.length = errC vn Ps.flatten.length) := Lib.hid (by rw [HV.out, hfull.out])
      have HNP : Hid ((errC vn Ps.flatten.length = 0 → newP Ps = full Ps) ∧ (errC vn Ps.flatten.length ≠ 0 → newP Ps = [])) := Lib.hid (by
        unfold newP
        rw [HER.out]
        exact ⟨fun h => if_pos h, fun h => if_neg h⟩)
      have hfl := Lib.hid (refLen_any (Ss := full Ps) (by rw [← hfull.out]; exact (RowV.src HR.out)) (by rw [full_flat]; exact HN.out) (by have := full_len Ps; have := HNE.out; have := HK.out; omega))
      have hvi : (1024 < vn → (1024 : Int) < (vn : Int)) ∧ (¬ 1024 < vn → (vn : Int) ≤ 1024) := ⟨fun h => by omega, fun h => by omega⟩
      obtain ⟨fl, hfq⟩ : ∃ fl, fl = Ps.flatten.length := ⟨_, rfl⟩
      rw [full_flat, ← hfq] at hfl
      rw [← hfq] at hor HNP
      have HFQ := Lib.hid hfq
      have hcase : (errC vn fl = 7 ∧ (1024 : Int) < (vn : Int)) ∨ (errC vn fl = 5 ∧ (vn : Int) ≤ 1024 ∧ (65536 : Int) < (fl : Int)) ∨ (errC vn fl = 0 ∧ (vn : Int) ≤ 1024 ∧ (fl : Int) ≤ 65536) := by
        unfold errC
        by_cases h1 : 1024 < vn
        · rw [if_pos h1]; exact .inl ⟨rfl, by omega⟩
        · rw [if_neg h1]
          by_cases h2 : 65536 < fl
          · rw [if_pos h2]; exact .inr (.inl ⟨rfl, by omega, by omega⟩)
          · rw [if_neg h2]; exact .inr (.inr ⟨rfl, by omega, by omega⟩)
      have hee : Hid (ce = errC vn fl) := Lib.hid (by rw [HCE.out, ← HFQ.out]; rw [← HFQ.out] at HER; exact HER.out)
      have HSV := Lib.hid (RowV.src HR.out)
      rw [hfull.out] at HSV
      clear hfq hor hvi HER
      generalize errC vn fl = cq at *
      rcases hcase with ⟨rfl, h1⟩ | ⟨rfl, h1, h2⟩ | ⟨rfl, h1, h2⟩
      · go_wp2_with fail
        have ht := one_cell_set (y := .slice none 0 0) hcr.out
        refine bodyPost_ret (v := .tuple #[rf (.slice none 0 0), .int .i64 7]) (by simp [results, Try.results11, go_sem, rf, cells_cell ht (o := 0) rfl]) rfl ⟨_, by rw [hee.out], ?_, ?_⟩
        · rw [HNP.out.2 (by decide)]; exact World.ownsRow_nil _ _ _ _
        · exact HBw.out.trans ((Below.refl _ _).setCell (p := ⟨w.heap.size, 0, none⟩) (Nat.le_refl _) _)
      all_goals (
        go_wp2_with (go_at_call 27; fail)
        refine hfl.out.mono ?_
        rintro e w2 ⟨rfl, hb2⟩
        have HB2 := Lib.hid hb2
        have gc0 := below_cells hb2 _ _ hc0
        have gr0 := below_cells hb2 _ _ hr0
        have gr1 : w2.frozen? ⟨w.heap.size, 0, none⟩ = false := cells_free ((hb2.block _ (by omega)).trans hcr.out) _
        have gl : w.heap.size < w2.heap.size := by have := hb2.size; omega
        clear hb2
        go_wp2_with fail)
      · refine bodyPost_ret (v := .tuple #[rf (.slice none 0 0), .int .i64 5]) (by simp [results, Try.results11, go_sem, rf, gr0]) rfl ⟨_, by rw [hee.out], ?_, ?_⟩
        · rw [HNP.out.2 (by decide)]; exact World.ownsRow_nil _ _ _ _
        · exact (HBw.out.trans (HB2.out.mono (by omega))).trans ((Below.refl _ _).setCell (p := ⟨w.heap.size, 0, none⟩) (Nat.le_refl _) _)
      · refine bodyPost_ret (v := .tuple #[rf (.slice va vn vc), .int .i64 0]) (by simp [results, Try.results11, go_sem, rf, gr0]) rfl ⟨_, by rw [hee.out], ?_, ?_⟩
        · rw [HNP.out.1 (by trivial)]
          have hr2 := RowV.grown HR.out HB2.out
          rw [hfull.out] at hr2
          exact RowV.lower ((fr_setCell w2 ⟨w.heap.size, 0, none⟩ (.slice va vn vc)).row hr2 (fun g hg hm => by have := (hr2.lt g hg).1; simp at hm; omega)) (by omega)
        · exact (HBw.out.trans (HB2.out.mono (by omega))).trans ((Below.refl _ _).setCell (p := ⟨w.heap.size, 0, none⟩) (Nat.le_refl _) _)
end Go.Proofs.Ytkdbkamjaaehfaa
