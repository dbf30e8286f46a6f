/- The reference: Take, Join. -/
import Derived.Test.YtkdbkamjaaehfaaCRefN
import Derived.Test.YtkdbkamjaaehfaaCFloat
namespace Go.Proofs.Ytkdbkamjaaehfaa
open Go.RowKit Go.Sort
set_option linter.unusedVariables false
set_option linter.unusedSimpArgs false

theorem cut_snoc (f t : Nat) (Ss : Parts) (k : Nat) (hk : k < Ss.length) : cutP f t 0 (Ss.take (k + 1)) = cutP f t 0 (Ss.take k) ++
    (if max (Ss.take k).flatten.length f < min ((Ss.take k).flatten.length + (Ss[k]).length) t then [(Ss[k].drop (f - (Ss.take k).flatten.length)).take (min ((Ss.take k).flatten.length + (Ss[k]).length) t - max (Ss.take k).flatten.length f)] else []) := by
  rw [List.take_succ_eq_append_getElem hk, cutP_append, Nat.zero_add]
  simp [cutP]
/-- One part is taken. -/
theorem take_step (n : Nat) (Ss : Parts) (k : Nat) (hk : k < Ss.length) (hne : Ss[k] ≠ []) (T L : Nat) (hT : T = (Ss.take k).flatten.length) (hL : L = Ss.flatten.length) :
    ((Ss[k]).length ≤ n - T → cutP 0 n 0 (Ss.take (k + 1)) = cutP 0 n 0 (Ss.take k) ++ [Ss[k]] ∧ cutP n L 0 (Ss.take (k + 1)) = cutP n L 0 (Ss.take k)) ∧
    (n - T = 0 → cutP 0 n 0 (Ss.take (k + 1)) = cutP 0 n 0 (Ss.take k) ∧ cutP n L 0 (Ss.take (k + 1)) = cutP n L 0 (Ss.take k) ++ [Ss[k]]) ∧
    (0 < n - T → n - T < (Ss[k]).length → cutP 0 n 0 (Ss.take (k + 1)) = cutP 0 n 0 (Ss.take k) ++ [(Ss[k]).take (n - T)] ∧ cutP n L 0 (Ss.take (k + 1)) = cutP n L 0 (Ss.take k) ++ [(Ss[k]).drop (n - T)]) := by
  have hle := flat_le' Ss k hk
  have hp := List.length_pos_iff.2 hne
  rw [← hT, ← hL] at hle
  rw [cut_snoc 0 n Ss k hk, cut_snoc n L Ss k hk, ← hT]
  generalize Ss[k] = p at *
  generalize cutP 0 n 0 (Ss.take k) = X
  generalize cutP n L 0 (Ss.take k) = Y
  refine ⟨fun h => ?_, fun h => ?_, fun h0 h => ?_⟩
  · rw [if_pos (by omega), if_neg (by omega), List.append_nil]
    refine ⟨?_, rfl⟩
    rw [Nat.zero_sub, List.drop_zero, List.take_of_length_le (by omega)]
  · rw [if_neg (by omega), if_pos (by omega), List.append_nil]
    refine ⟨rfl, ?_⟩
    rw [h, List.drop_zero, List.take_of_length_le (by omega)]
  · rw [if_pos (by omega), if_pos (by omega)]
    refine ⟨?_, ?_⟩
    · rw [Nat.zero_sub, List.drop_zero, take_eq_of_le p _ (n - T) (by omega)]
    · rw [List.take_of_length_le (by rw [List.length_drop]; omega)]

/-- Two lists of parts that are being made. -/
structure TkS (w : World) (b : Nat) (v1 v2 : Value) (A B : Parts) : Prop where
  c1 : w.heap[b]? = some (.cells #[v1] 34 (0, 0))
  c2 : w.heap[b + 1]? = some (.cells #[v2] 34 (0, 0))
  r1 : RowS w (b + 2) v1 A
  r2 : RowS w (b + 2) v2 B
  sep : ∀ g g', v1.ownBlock = some g → v2.ownBlock = some g' → g ≠ g'
theorem TkS.grown {w w' : World} {b : Nat} {v1 v2 : Value} {A B : Parts} (S : TkS w b v1 v2 A B) (hb : Below w.heap.size w w') : TkS w' b v1 v2 A B :=
  ⟨(hb.block _ (lt_of_block S.c1)).trans S.c1, (hb.block _ (lt_of_block S.c2)).trans S.c2, RowV.grown S.r1 hb, RowV.grown S.r2 hb, S.sep⟩
theorem TkS.app1 {w w' : World} {b : Nat} {v1 v2 v' : Value} {A B A' : Parts} (S : TkS w b v1 v2 A B) (ho : RowS w' (b + 2) v' A') (hf : Fr v1.ownBlock.toList w w') (hn : Near w v1 v') :
    w'.heap[b]? = some (.cells #[v1] 34 (0, 0)) ∧ TkS (w'.setCell ⟨b, 0, none⟩ v') b v' v2 A' B := by
  have hm : ∀ x, x ∈ v1.ownBlock.toList → b + 2 ≤ x := fun x hx => (S.r1.lt x (by simpa using hx)).1
  have h1 := hf.same S.c1 (fun h => by have := hm _ h; omega)
  have h2 := hf.same S.c2 (fun h => by have := hm _ h; omega)
  have hs := fr_setCell w' ⟨b, 0, none⟩ v'
  refine ⟨h1, ⟨one_cell_set h1, hs.same h2 (by simp), hs.row ho (fun g hg h => ?_), hs.row (hf.row S.r2 (fun g hg h => ?_)) (fun g hg h => ?_), fun g g' hg hg' => ?_⟩⟩
  · have := (ho.lt g hg).1; simp at h; omega
  · exact S.sep g g (by simpa using h) hg rfl
  · have := (S.r2.lt g hg).1; simp at h; omega
  · rcases hn g hg with h | h
    · exact S.sep g g' h hg'
    · have := (S.r2.lt g' hg').2; omega
theorem TkS.app2 {w w' : World} {b : Nat} {v1 v2 v' : Value} {A B B' : Parts} (S : TkS w b v1 v2 A B) (ho : RowS w' (b + 2) v' B') (hf : Fr v2.ownBlock.toList w w') (hn : Near w v2 v') :
    w'.heap[b + 1]? = some (.cells #[v2] 34 (0, 0)) ∧ TkS (w'.setCell ⟨b + 1, 0, none⟩ v') b v1 v' A B' := by
  have hm : ∀ x, x ∈ v2.ownBlock.toList → b + 2 ≤ x := fun x hx => (S.r2.lt x (by simpa using hx)).1
  have h1 := hf.same S.c1 (fun h => by have := hm _ h; omega)
  have h2 := hf.same S.c2 (fun h => by have := hm _ h; omega)
  have hs := fr_setCell w' ⟨b + 1, 0, none⟩ v'
  refine ⟨h2, ⟨hs.same h1 (by simp), one_cell_set h2, hs.row (hf.row S.r1 (fun g hg h => ?_)) (fun g hg h => ?_), hs.row ho (fun g hg h => ?_), fun g g' hg hg' => ?_⟩⟩
  · exact S.sep g g hg (by simpa using h) rfl
  · have := (S.r1.lt g hg).1; simp at h; omega
  · have := (ho.lt g hg).1; simp at h; omega
  · rcases hn g' hg' with h | h
    · exact S.sep g g' hg h
    · have := (S.r1.lt g hg).2; omega

set_option maxHeartbeats 800000 in
theorem refTake_bad {w : World} {v : Value} {Ss : Parts} (h : SrcV w v (Ss.map encS)) (n : Int) (hn : n < 0) :
    Calls Try.prog 17 #[rf v, .int .i64 n] w fun e w' => e = .returned (.tuple #[rf (.slice none 0 0), rf (.slice none 0 0), .int .i64 2]) ∧ Below w.heap.size w w' := by
  obtain ⟨a, c, rfl, hc1, hc2⟩ := h.formS
  generalize Ss.length = N at *
  clear h
  unfold rf
  go_enter Try.func17, Try.ntmps17
  go_wp2_with fail
  refine bodyPost_ret (v := .tuple #[rf (.slice none 0 0), rf (.slice none 0 0), .int .i64 2]) (by simp [results, Try.results17, go_sem, rf]) rfl ⟨rfl, ?_⟩
  exact below3 _ _ _ _

set_option maxRecDepth 100000 in
set_option maxHeartbeats 3200000 in
theorem refTake_ok {w : World} {v : Value} {Ss : Parts} (h : SrcV w v (Ss.map encS)) (hne : ∀ p ∈ Ss, p ≠ []) (hl : Ss.flatten.length ≤ 65536) (hk : Ss.length ≤ 1024) (n : Nat) (hn : (n : Int) ≤ 9223372036854775807) :
    Calls Try.prog 17 #[rf v, .int .i64 n] w fun e w' => ∃ u1 u2, e = .returned (.tuple #[rf u1, rf u2, .int .i64 0]) ∧ RowS w' w.heap.size u1 (firstP n Ss) ∧ RowS w' w.heap.size u2 (restP n Ss) ∧ Below w.heap.size w w' := by
  obtain ⟨a, c, rfl, hc1, hc2⟩ := h.formS
  obtain ⟨N, hN⟩ : ∃ N, N = Ss.length := ⟨_, rfl⟩
  obtain ⟨L, hL⟩ : ∃ L, L = Ss.flatten.length := ⟨_, rfl⟩
  obtain ⟨T, hT⟩ : ∃ T : Nat → Nat, ∀ k, T k = (Ss.take k).flatten.length := ⟨fun k => (Ss.take k).flatten.length, fun _ => rfl⟩
  have HT := Lib.hid hT
  have HT0 : Hid (T 0 = 0) := Lib.hid (by rw [hT]; simp)
  have HNE := Lib.hid hN
  have HLE := Lib.hid hL
  have HH := Lib.hid h
  have HPE := Lib.hid hne
  rw [← hN] at hc1 hk HH ⊢
  rw [← hL] at hl
  have hkI : (N : Int) ≤ 1024 := by omega
  have HK := Lib.hid hk
  have HL2 := Lib.hid hl
  have hn0 : decide ((n : Int) < 0) = false := by simp
  clear h hne hN hL hT hk hl
  unfold rf
  go_enter Try.func17, Try.ntmps17
  go_wp2_with fail
  obtain ⟨W, hW⟩ : ∃ W, W = ((((w.alloc (.cells #[.slice a N c] 34)).alloc (.cells #[.slice none 0 0] 34)).alloc (.cells #[.slice none 0 0] 34)).alloc (.cells #[.slice none 0 0] 34)).alloc (.cells #[.slice none 0 0] 34) := ⟨_, rfl⟩
  have HWS : Hid (W.heap.size = w.heap.size + 5) := Lib.hid (by rw [hW]; simp)
  have HWB : Hid (Below w.heap.size w W) := Lib.hid (by rw [hW]; exact (below3 _ _ _ _).trans (((below_alloc _ _).trans ((below_alloc _ _).mono (by simp))).mono (by simp; omega)))
  have hcl : ∀ j, j < 5 → W.heap[w.heap.size + j]? = some (.cells #[if j = 0 then .slice a N c else .slice none 0 0] 34 (0, 0)) := fun j hj => by
    rw [hW]
    simp only [World.alloc, Array.getElem?_push, Array.size_push]
    rcases (by omega : j = 0 ∨ j = 1 ∨ j = 2 ∨ j = 3 ∨ j = 4) with rfl | rfl | rfl | rfl | rfl
    all_goals repeat (first | rw [if_neg (by omega)] | rw [if_pos (by omega)])
    all_goals rfl
  have HCL := Lib.hid hcl
  clear hcl
  rw [← hW]
  clear hW
  have HTK : Hid (TkS W (w.heap.size + 3) (.slice none 0 0) (.slice none 0 0) [] []) := Lib.hid ⟨by have := HCL.out 3 (by omega); simpa using this, by have := HCL.out 4 (by omega); simpa using this, World.ownsRow_nil _ _ _ _, World.ownsRow_nil _ _ _ _, fun g g' hg => by simp [Value.ownBlock] at hg⟩
  go_loopw [9, 10] (fun lf i wr => ∃ k a1 n1 c1 a2 n2 c2, k ≤ N ∧ lf = .int .i64 ((n - T k : Nat) : Int) ∧ i = .int .i64 (k : Nat) ∧ Hid (n1 = (cutP 0 n 0 (Ss.take k)).length ∧ n2 = (cutP n L 0 (Ss.take k)).length) ∧ Hid (TkS wr (w.heap.size + 3) (.slice a1 n1 c1) (.slice a2 n2 c2) (cutP 0 n 0 (Ss.take k)) (cutP n L 0 (Ss.take k))) ∧ Hid (Below (w.heap.size + 3) W wr)) (fun _ i _ => N - (intOf i).toNat)
  case atStart => exact ⟨0, none, 0, 0, none, 0, 0, Nat.zero_le _, by rw [HT0.out]; rfl, rfl, Lib.hid ⟨rfl, rfl⟩, HTK, Lib.hid (Below.refl _ _)⟩
  case round =>
    clear HTK
    obtain ⟨k, a1, n1, c1, a2, n2, c2, hkl, rfl, rfl, HV, HS, HB⟩ := hrel
    have HBw := Lib.hid (HWB.out.trans (HB.out.mono (Nat.le_add_right _ 3)))
    have hsz3 : w.heap.size + 5 ≤ wr.heap.size := by have := HB.out.size; have := HWS.out; omega
    have hw0 : w.heap.size < wr.heap.size := by omega
    have hw3 : w.heap.size + 3 < wr.heap.size := by omega
    have hw4 : w.heap.size + 3 + 1 < wr.heap.size := by omega
    have hc0 : wr.cell? ⟨w.heap.size, 0, none⟩ = some (.slice a N c) := cells_cell ((HB.out.block _ (by omega)).trans (by have := HCL.out 0 (by omega); simpa using this)) rfl
    by_cases hlt : k < N
    · have hltP : k < Ss.length := by rw [← HNE.out]; exact hlt
      obtain ⟨b, off, rfl, hbl, hcell⟩ := HH.out.strAt k hltP
      have hcx := below_cells HBw.out _ _ hcell
      have hbl2 : b < wr.heap.size := by have := HBw.out.size; omega
      have hstep := take_step n Ss k hltP (HPE.out _ (List.getElem_mem hltP)) (T k) L (HT.out k) HLE.out
      have hst : T (k + 1) = T k + (Ss[k]).length := by rw [HT.out, HT.out, flat_take_succ Ss k hltP, List.length_append]
      have hTL : T (k + 1) ≤ 65536 := by have := flat_le Ss (k + 1); have := HLE.out; have := HL2.out; rw [HT.out]; omega
      have hp0 := List.length_pos_iff.2 (HPE.out _ (List.getElem_mem hltP))
      have hv1 : n1 ≤ 1024 := by have := HV.out.1; have := cutP_len 0 n 0 (Ss.take k); have := HNE.out; have := HK.out; rw [List.length_take] at *; omega
      have hv2 : n2 ≤ 1024 := by have := HV.out.2; have := cutP_len n L 0 (Ss.take k); have := HNE.out; have := HK.out; rw [List.length_take] at *; omega
      generalize hp : Ss[k] = p at *
      have hsize := strB_size p
      obtain ⟨s, hs⟩ : ∃ s, s = strB p := ⟨_, rfl⟩
      rw [← hs] at hcx hsize
      have HSS := Lib.hid hs
      have HSTEP := Lib.hid hstep
      obtain ⟨z, hz⟩ : ∃ z, z = s.size := ⟨_, rfl⟩
      have hzp : p.length = z := by rw [hz, hsize]
      rw [hzp] at hst hp0 HSTEP
      have HZ := Lib.hid hz
      have HZP := Lib.hid hzp
      obtain ⟨lf, hlf⟩ : ∃ lf, lf = n - T k := ⟨_, rfl⟩
      rw [← hlf] at HSTEP ⊢
      have HLF := Lib.hid hlf
      have HST := Lib.hid hst
      have k1 : wr.cell? ⟨w.heap.size + 3, 0, none⟩ = some (.slice a1 n1 c1) := cells_cell HS.out.c1 rfl
      have k2 : wr.cell? ⟨w.heap.size + 3 + 1, 0, none⟩ = some (.slice a2 n2 c2) := cells_cell HS.out.c2 rfl
      have hkl2 : (k : Int) < (N : Int) := by omega
      have z1 : (s.size : Int) ≤ 65536 := by omega
      have z2 : (0 : Int) < (s.size : Int) := by omega
      have hlfi : (lf : Int) ≤ 9223372036854775807 := by omega
      have hTk1 : Hid (s.size ≤ lf → n - T (k + 1) = lf - s.size) := Lib.hid (fun h => by omega)
      have hTk2 : Hid (lf ≤ s.size → n - T (k + 1) = 0) := Lib.hid (fun h => by omega)
      clear hcell hstep hst hp hs hz hsize hzp hlf hTL hp0
      rcases (by omega : s.size ≤ lf ∨ lf = 0 ∨ (0 < lf ∧ lf < s.size)) with hA | hA | ⟨hA, hA2⟩
      · -- the whole part is taken
        obtain ⟨e1, e2⟩ := HSTEP.out.1 (by have := HZ.out; omega)
        have E1 := Lib.hid e1
        have E2 := Lib.hid e2
        have HT2 := Lib.hid (hTk1.out hA)
        have hAi : (s.size : Int) ≤ (lf : Int) := by omega
        clear e1 e2 hTk1 hTk2 HSTEP
        go_wp2_with fail
        refine wp_region_float (fun W' => W'.cell? ⟨w.heap.size + 3, 0, none⟩ = some (.slice a1 n1 c1) ∧ W'.cell? ⟨w.heap.size, 0, none⟩ = some (.slice (some ⟨b, off, none⟩) N c) ∧ W'.cell? ⟨b, off + k, none⟩ = some (.string s)) 11 [0, 1, 2, 3, 4, 5, 6, 7, 8] [9, 10] (by kernel_rfl) (by kernel_rfl) (fun _ _ _ d _ h => by cases d <;> exact h) ⟨k1, hc0, hcx⟩ ?_
        simp only [List.map_cons, List.map_nil, List.getD_cons_zero, List.getD_cons_succ, List.drop_succ_cons, List.drop_zero]
        refine takes_by (.pointer (some ⟨w.heap.size + 3, 0, none⟩)) rfl (fun W' _ => by go_simp) ?_
        simp only [Act.put, List.setIfInBounds_toArray, List.set_cons_zero, List.set_cons_succ]
        refine takes_by (.slice a1 n1 c1) rfl (fun W' hS => by have h1 := hS.1; go_simp) ?_
        simp only [Act.put, List.setIfInBounds_toArray, List.set_cons_zero, List.set_cons_succ]
        refine takes_by (.pointer (some ⟨w.heap.size, 0, none⟩)) rfl (fun W' _ => by go_simp) ?_
        simp only [Act.put, List.setIfInBounds_toArray, List.set_cons_zero, List.set_cons_succ]
        refine takes_by (.slice (some ⟨b, off, none⟩) N c) rfl (fun W' hS => by have h1 := hS.2.1; go_simp) ?_
        simp only [Act.put, List.setIfInBounds_toArray, List.set_cons_zero, List.set_cons_succ]
        refine takes_move (.tmp 10) (.int .i64 (k : Nat)) rfl rfl rfl ?_
        simp only [Act.put, List.setIfInBounds_toArray, List.set_cons_zero, List.set_cons_succ]
        refine takes_by (.pointer (some ⟨b, off + k, none⟩)) rfl (fun W' _ => by go_simp) ?_
        simp only [Act.put, List.setIfInBounds_toArray, List.set_cons_zero, List.set_cons_succ]
        refine takes_by (.string s) rfl (fun W' hS => by have h1 := hS.2.2; go_simp) ?_
        simp only [Act.put, List.setIfInBounds_toArray, List.set_cons_zero, List.set_cons_succ]
        refine takes_move (.tmp 11) (.int .i64 (s.size : Nat)) rfl rfl rfl ?_
        simp only [Act.put, List.setIfInBounds_toArray, List.set_cons_zero, List.set_cons_succ]
        refine takes_by (.string (s)) rfl (fun W' _ => by go_simp; try (intro hq; omega)) ?_
        simp only [Act.put, List.setIfInBounds_toArray, List.set_cons_zero, List.set_cons_succ]
        unfold wpTakes
        refine mids_step rfl (fun K hK => ?_)
        go_simp
        refine hK _ _ ⟨by go_simp, by go_simp, by go_simp⟩ ?_
        clear hK
        refine mids_step rfl (fun K hK => ?_)
        have HX : Hid (s = strB p) := HSS
        have hba : Below wr.heap.size wr (wr.drew.alloc (.cells #[.string (s)] 9)) := (Below.refl _ _).drew.alloc (Nat.le_refl _) _
        refine wp_append_v (v := .slice a1 n1 c1) slcS (by decide) (.tmp 40) (.tmp 48) rfl rfl rfl (RowV.grown HS.out.r1 hba) (Nat.le_trans (by omega) hba.size) (src_one wr.drew 9 (.string (s))) (by intro u hu; simp at hu; subst hu; rfl) (by have := HV.out; rw [List.length_map]; simp; omega) ?_
        intro v' w6 ho hf hn
        have hoS : RowS w6 (w.heap.size + 3 + 2) v' (cutP 0 n 0 (Ss.take (k + 1))) := by
          rw [E1.out]; unfold RowS; rw [List.map_append, List.map_cons, List.map_nil]; unfold encS at *; rw [← HX.out]; exact ho
        obtain ⟨g1, g2⟩ := (HS.out.grown hba).app1 hoS hf hn
        have hB6 : Below (w.heap.size + 3) wr (w6.setCell ⟨w.heap.size + 3, 0, none⟩ v') := ((hba.mono (by omega)).trans (hf.below (fun x hx => by have := (HS.out.r1.lt x (by simpa using hx)).1; omega) (Nat.le_trans (by omega) hba.size))).trans ((Below.refl _ _).setCell (p := ⟨w.heap.size + 3, 0, none⟩) (show w.heap.size + 3 ≤ w.heap.size + 3 by omega) _)
        have hB5 : Below (w.heap.size + 3) wr w6 := (hba.mono (by omega)).trans (hf.below (fun x hx => by have := (HS.out.r1.lt x (by simpa using hx)).1; omega) (Nat.le_trans (by omega) hba.size))
        obtain ⟨va', vc', hvf, hv1, hv2⟩ := (RowV.src hoS).formS
        have HV' : Hid ((cutP 0 n 0 (Ss.take (k + 1))).length = n1 + 1) := Lib.hid (by rw [E1.out, List.length_append, ← HV.out.1]; rfl)
        rw [HV'.out] at hvf
        subst hvf
        have S6 := Lib.hid g2
        have HB6S6 := Lib.hid hB6
        have HVN1 := Lib.hid HV'.out.symm
        have hc6 : w6.cell? ⟨w.heap.size + 3, 0, none⟩ = some (.slice a1 n1 c1) := cells_cell g1 rfl
        have hz6 : w6.frozen? ⟨w.heap.size + 3, 0, none⟩ = false := cells_free g1 _
        have hl6 : w.heap.size + 3 < w6.heap.size := lt_of_block g1
        have hx6 : w6.cell? ⟨b, off + k, none⟩ = some (.string s) := (hB5.cell (p := ⟨b, off + k, none⟩) (show b < w.heap.size + 3 by omega)).trans hcx
        have hd6 : w6.cell? ⟨w.heap.size, 0, none⟩ = some (.slice (some ⟨b, off, none⟩) N c) := (hB5.cell (p := ⟨w.heap.size, 0, none⟩) (show w.heap.size < w.heap.size + 3 by omega)).trans hc0
        have hsz6 : w.heap.size + 5 ≤ w6.heap.size := by have := hB5.size; omega
        obtain ⟨a1', ha1⟩ : ∃ x, x = va' := ⟨_, rfl⟩
        obtain ⟨c1', hc1⟩ : ∃ x, x = vc' := ⟨_, rfl⟩
        subst ha1 hc1
        clear ho hf hn g1 g2 hoS hba hB6 hB5 HV' hv1 hv2
        refine hK _ _ ⟨hc6, hd6, hx6⟩ ?_
        clear hK
        unfold wpMids
        go_wp2_with fail
        go_roundw
        case rel => exact ⟨k + 1, a1', n1 + 1, c1', a2, n2, c2, by omega, by rw [HT2.out]; go_num, by go_num, Lib.hid ⟨HVN1.out, by rw [E2.out]; exact HV.out.2⟩, by rw [E2.out]; exact S6, Lib.hid (HB.out.trans HB6S6.out)⟩
        case measure => simp [intOf]; omega
      · -- nothing is left to be taken
        obtain ⟨e1, e2⟩ := HSTEP.out.2.1 hA
        have E1 := Lib.hid e1
        have E2 := Lib.hid e2
        have HT2 := Lib.hid (hTk2.out (by omega))
        clear e1 e2 hTk1 hTk2 HSTEP
        subst hA
        go_wp2_with fail
        refine wp_region_float (fun W' => W'.cell? ⟨w.heap.size + 3 + 1, 0, none⟩ = some (.slice a2 n2 c2) ∧ W'.cell? ⟨w.heap.size, 0, none⟩ = some (.slice (some ⟨b, off, none⟩) N c) ∧ W'.cell? ⟨b, off + k, none⟩ = some (.string s)) 11 [0, 1, 2, 3, 4, 5, 6, 7, 8] [9, 10] (by kernel_rfl) (by kernel_rfl) (fun _ _ _ d _ h => by cases d <;> exact h) ⟨k2, hc0, hcx⟩ ?_
        simp only [List.map_cons, List.map_nil, List.getD_cons_zero, List.getD_cons_succ, List.drop_succ_cons, List.drop_zero]
        refine takes_by (.pointer (some ⟨w.heap.size + 3 + 1, 0, none⟩)) rfl (fun W' _ => by go_simp) ?_
        simp only [Act.put, List.setIfInBounds_toArray, List.set_cons_zero, List.set_cons_succ]
        refine takes_by (.slice a2 n2 c2) rfl (fun W' hS => by have h1 := hS.1; go_simp) ?_
        simp only [Act.put, List.setIfInBounds_toArray, List.set_cons_zero, List.set_cons_succ]
        refine takes_by (.pointer (some ⟨w.heap.size, 0, none⟩)) rfl (fun W' _ => by go_simp) ?_
        simp only [Act.put, List.setIfInBounds_toArray, List.set_cons_zero, List.set_cons_succ]
        refine takes_by (.slice (some ⟨b, off, none⟩) N c) rfl (fun W' hS => by have h1 := hS.2.1; go_simp) ?_
        simp only [Act.put, List.setIfInBounds_toArray, List.set_cons_zero, List.set_cons_succ]
        refine takes_move (.tmp 10) (.int .i64 (k : Nat)) rfl rfl rfl ?_
        simp only [Act.put, List.setIfInBounds_toArray, List.set_cons_zero, List.set_cons_succ]
        refine takes_by (.pointer (some ⟨b, off + k, none⟩)) rfl (fun W' _ => by go_simp) ?_
        simp only [Act.put, List.setIfInBounds_toArray, List.set_cons_zero, List.set_cons_succ]
        refine takes_by (.string s) rfl (fun W' hS => by have h1 := hS.2.2; go_simp) ?_
        simp only [Act.put, List.setIfInBounds_toArray, List.set_cons_zero, List.set_cons_succ]
        refine takes_move (.tmp 11) (.int .i64 (0 : Nat)) rfl rfl rfl ?_
        simp only [Act.put, List.setIfInBounds_toArray, List.set_cons_zero, List.set_cons_succ]
        refine takes_by (.string (s)) rfl (fun W' _ => by go_simp; try (intro hq; omega)) ?_
        simp only [Act.put, List.setIfInBounds_toArray, List.set_cons_zero, List.set_cons_succ]
        unfold wpTakes
        refine mids_step rfl (fun K hK => ?_)
        go_simp
        refine hK _ _ ⟨by go_simp, by go_simp, by go_simp⟩ ?_
        clear hK
        refine mids_step rfl (fun K hK => ?_)
        have HX : Hid (s = strB p) := HSS
        have hba : Below wr.heap.size wr (wr.drew.alloc (.cells #[.string (s)] 9)) := (Below.refl _ _).drew.alloc (Nat.le_refl _) _
        refine wp_append_v (v := .slice a2 n2 c2) slcS (by decide) (.tmp 60) (.tmp 68) rfl rfl rfl (RowV.grown HS.out.r2 hba) (Nat.le_trans (by omega) hba.size) (src_one wr.drew 9 (.string (s))) (by intro u hu; simp at hu; subst hu; rfl) (by have := HV.out; rw [List.length_map]; simp; omega) ?_
        intro v' w6 ho hf hn
        have hoS : RowS w6 (w.heap.size + 3 + 2) v' (cutP n L 0 (Ss.take (k + 1))) := by
          rw [E2.out]; unfold RowS; rw [List.map_append, List.map_cons, List.map_nil]; unfold encS at *; rw [← HX.out]; exact ho
        obtain ⟨g1, g2⟩ := (HS.out.grown hba).app2 hoS hf hn
        have hB6 : Below (w.heap.size + 3) wr (w6.setCell ⟨w.heap.size + 3 + 1, 0, none⟩ v') := ((hba.mono (by omega)).trans (hf.below (fun x hx => by have := (HS.out.r2.lt x (by simpa using hx)).1; omega) (Nat.le_trans (by omega) hba.size))).trans ((Below.refl _ _).setCell (p := ⟨w.heap.size + 3 + 1, 0, none⟩) (show w.heap.size + 3 ≤ w.heap.size + 3 + 1 by omega) _)
        have hB5 : Below (w.heap.size + 3) wr w6 := (hba.mono (by omega)).trans (hf.below (fun x hx => by have := (HS.out.r2.lt x (by simpa using hx)).1; omega) (Nat.le_trans (by omega) hba.size))
        obtain ⟨va', vc', hvf, hv1, hv2⟩ := (RowV.src hoS).formS
        have HV' : Hid ((cutP n L 0 (Ss.take (k + 1))).length = n2 + 1) := Lib.hid (by rw [E2.out, List.length_append, ← HV.out.2]; rfl)
        rw [HV'.out] at hvf
        subst hvf
        have S6 := Lib.hid g2
        have HB6S6 := Lib.hid hB6
        have HVN2 := Lib.hid HV'.out.symm
        have hc6 : w6.cell? ⟨w.heap.size + 3 + 1, 0, none⟩ = some (.slice a2 n2 c2) := cells_cell g1 rfl
        have hz6 : w6.frozen? ⟨w.heap.size + 3 + 1, 0, none⟩ = false := cells_free g1 _
        have hl6 : w.heap.size + 3 + 1 < w6.heap.size := lt_of_block g1
        have hx6 : w6.cell? ⟨b, off + k, none⟩ = some (.string s) := (hB5.cell (p := ⟨b, off + k, none⟩) (show b < w.heap.size + 3 by omega)).trans hcx
        have hd6 : w6.cell? ⟨w.heap.size, 0, none⟩ = some (.slice (some ⟨b, off, none⟩) N c) := (hB5.cell (p := ⟨w.heap.size, 0, none⟩) (show w.heap.size < w.heap.size + 3 by omega)).trans hc0
        have hsz6 : w.heap.size + 5 ≤ w6.heap.size := by have := hB5.size; omega
        obtain ⟨a2', ha2⟩ : ∃ x, x = va' := ⟨_, rfl⟩
        obtain ⟨c2', hc2⟩ : ∃ x, x = vc' := ⟨_, rfl⟩
        subst ha2 hc2
        clear ho hf hn g1 g2 hoS hba hB6 hB5 HV' hv1 hv2
        refine hK _ _ ⟨hc6, hd6, hx6⟩ ?_
        clear hK
        unfold wpMids
        go_wp2_with fail
        go_roundw
        case rel => exact ⟨k + 1, a1, n1, c1, a2', n2 + 1, c2', by omega, by rw [HT2.out]; go_num, by go_num, Lib.hid ⟨by rw [E1.out]; exact HV.out.1, HVN2.out⟩, by rw [E1.out]; exact S6, Lib.hid (HB.out.trans HB6S6.out)⟩
        case measure => simp [intOf]; omega
      · -- a part of it is taken
        obtain ⟨e1, e2⟩ := HSTEP.out.2.2 hA (by have := HZ.out; omega)
        have E1 := Lib.hid e1
        have E2 := Lib.hid e2
        have HT2 := Lib.hid (hTk2.out (by omega))
        have hAi : (lf : Int) < (s.size : Int) := by omega
        have hAj : (0 : Int) < (lf : Int) := by omega
        clear e1 e2 hTk1 hTk2 HSTEP
        go_wp2_with fail
        refine wp_region_float (fun W' => W'.cell? ⟨w.heap.size + 3, 0, none⟩ = some (.slice a1 n1 c1) ∧ W'.cell? ⟨w.heap.size, 0, none⟩ = some (.slice (some ⟨b, off, none⟩) N c) ∧ W'.cell? ⟨b, off + k, none⟩ = some (.string s)) 11 [0, 1, 2, 3, 4, 5, 6, 7, 8] [9, 10] (by kernel_rfl) (by kernel_rfl) (fun _ _ _ d _ h => by cases d <;> exact h) ⟨k1, hc0, hcx⟩ ?_
        simp only [List.map_cons, List.map_nil, List.getD_cons_zero, List.getD_cons_succ, List.drop_succ_cons, List.drop_zero]
        refine takes_by (.pointer (some ⟨w.heap.size + 3, 0, none⟩)) rfl (fun W' _ => by go_simp) ?_
        simp only [Act.put, List.setIfInBounds_toArray, List.set_cons_zero, List.set_cons_succ]
        refine takes_by (.slice a1 n1 c1) rfl (fun W' hS => by have h1 := hS.1; go_simp) ?_
        simp only [Act.put, List.setIfInBounds_toArray, List.set_cons_zero, List.set_cons_succ]
        refine takes_by (.pointer (some ⟨w.heap.size, 0, none⟩)) rfl (fun W' _ => by go_simp) ?_
        simp only [Act.put, List.setIfInBounds_toArray, List.set_cons_zero, List.set_cons_succ]
        refine takes_by (.slice (some ⟨b, off, none⟩) N c) rfl (fun W' hS => by have h1 := hS.2.1; go_simp) ?_
        simp only [Act.put, List.setIfInBounds_toArray, List.set_cons_zero, List.set_cons_succ]
        refine takes_move (.tmp 10) (.int .i64 (k : Nat)) rfl rfl rfl ?_
        simp only [Act.put, List.setIfInBounds_toArray, List.set_cons_zero, List.set_cons_succ]
        refine takes_by (.pointer (some ⟨b, off + k, none⟩)) rfl (fun W' _ => by go_simp) ?_
        simp only [Act.put, List.setIfInBounds_toArray, List.set_cons_zero, List.set_cons_succ]
        refine takes_by (.string s) rfl (fun W' hS => by have h1 := hS.2.2; go_simp) ?_
        simp only [Act.put, List.setIfInBounds_toArray, List.set_cons_zero, List.set_cons_succ]
        refine takes_move (.tmp 11) (.int .i64 (lf : Nat)) rfl rfl rfl ?_
        simp only [Act.put, List.setIfInBounds_toArray, List.set_cons_zero, List.set_cons_succ]
        refine takes_by (.string (s.extract 0 lf)) rfl (fun W' _ => by go_simp; try (intro hq; omega)) ?_
        simp only [Act.put, List.setIfInBounds_toArray, List.set_cons_zero, List.set_cons_succ]
        unfold wpTakes
        refine mids_step rfl (fun K hK => ?_)
        go_simp
        refine hK _ _ ⟨by go_simp, by go_simp, by go_simp⟩ ?_
        clear hK
        refine mids_step rfl (fun K hK => ?_)
        have HX : Hid (s.extract 0 lf = strB (p.take lf)) := Lib.hid (by rw [HSS.out, strB_extract]; simp)
        have hba : Below wr.heap.size wr (wr.drew.alloc (.cells #[.string (s.extract 0 lf)] 9)) := (Below.refl _ _).drew.alloc (Nat.le_refl _) _
        refine wp_append_v (v := .slice a1 n1 c1) slcS (by decide) (.tmp 40) (.tmp 48) rfl rfl rfl (RowV.grown HS.out.r1 hba) (Nat.le_trans (by omega) hba.size) (src_one wr.drew 9 (.string (s.extract 0 lf))) (by intro u hu; simp at hu; subst hu; rfl) (by have := HV.out; rw [List.length_map]; simp; omega) ?_
        intro v' w6 ho hf hn
        have hoS : RowS w6 (w.heap.size + 3 + 2) v' (cutP 0 n 0 (Ss.take (k + 1))) := by
          rw [E1.out]; unfold RowS; rw [List.map_append, List.map_cons, List.map_nil]; unfold encS at *; rw [← HX.out]; exact ho
        obtain ⟨g1, g2⟩ := (HS.out.grown hba).app1 hoS hf hn
        have hB6 : Below (w.heap.size + 3) wr (w6.setCell ⟨w.heap.size + 3, 0, none⟩ v') := ((hba.mono (by omega)).trans (hf.below (fun x hx => by have := (HS.out.r1.lt x (by simpa using hx)).1; omega) (Nat.le_trans (by omega) hba.size))).trans ((Below.refl _ _).setCell (p := ⟨w.heap.size + 3, 0, none⟩) (show w.heap.size + 3 ≤ w.heap.size + 3 by omega) _)
        have hB5 : Below (w.heap.size + 3) wr w6 := (hba.mono (by omega)).trans (hf.below (fun x hx => by have := (HS.out.r1.lt x (by simpa using hx)).1; omega) (Nat.le_trans (by omega) hba.size))
        obtain ⟨va', vc', hvf, hv1, hv2⟩ := (RowV.src hoS).formS
        have HV' : Hid ((cutP 0 n 0 (Ss.take (k + 1))).length = n1 + 1) := Lib.hid (by rw [E1.out, List.length_append, ← HV.out.1]; rfl)
        rw [HV'.out] at hvf
        subst hvf
        have S6 := Lib.hid g2
        have HB6S6 := Lib.hid hB6
        have HVN1 := Lib.hid HV'.out.symm
        have hc6 : w6.cell? ⟨w.heap.size + 3, 0, none⟩ = some (.slice a1 n1 c1) := cells_cell g1 rfl
        have hz6 : w6.frozen? ⟨w.heap.size + 3, 0, none⟩ = false := cells_free g1 _
        have hl6 : w.heap.size + 3 < w6.heap.size := lt_of_block g1
        have hx6 : w6.cell? ⟨b, off + k, none⟩ = some (.string s) := (hB5.cell (p := ⟨b, off + k, none⟩) (show b < w.heap.size + 3 by omega)).trans hcx
        have hd6 : w6.cell? ⟨w.heap.size, 0, none⟩ = some (.slice (some ⟨b, off, none⟩) N c) := (hB5.cell (p := ⟨w.heap.size, 0, none⟩) (show w.heap.size < w.heap.size + 3 by omega)).trans hc0
        have hsz6 : w.heap.size + 5 ≤ w6.heap.size := by have := hB5.size; omega
        obtain ⟨a1', ha1⟩ : ∃ x, x = va' := ⟨_, rfl⟩
        obtain ⟨c1', hc1⟩ : ∃ x, x = vc' := ⟨_, rfl⟩
        subst ha1 hc1
        clear ho hf hn g1 g2 hoS hba hB6 hB5 HV' hv1 hv2
        refine hK _ _ ⟨hc6, hd6, hx6⟩ ?_
        clear hK
        unfold wpMids
        go_wp2_with fail
        generalize hw7 : World.setCell _ _ _ = w7
        rw [hw7] at S6 HB6S6
        have k2' : w7.cell? ⟨w.heap.size + 3 + 1, 0, none⟩ = some (.slice a2 n2 c2) := cells_cell S6.out.c2 rfl
        have hx7 : w7.cell? ⟨b, off + k, none⟩ = some (.string s) := (HB6S6.out.cell (p := ⟨b, off + k, none⟩) (show b < w.heap.size + 3 by omega)).trans hcx
        have hd7 : w7.cell? ⟨w.heap.size, 0, none⟩ = some (.slice (some ⟨b, off, none⟩) N c) := (HB6S6.out.cell (p := ⟨w.heap.size, 0, none⟩) (show w.heap.size < w.heap.size + 3 by omega)).trans hc0
        have hsz7 : w.heap.size + 5 ≤ w7.heap.size := by have := HB6S6.out.size; omega
        clear hw7 hcx hc0 k1 k2 hc6 hz6 hl6 hx6 hd6 hsz6
        have hcx := hx7
        have hc0 := hd7
        have hw0' : w.heap.size < w7.heap.size := by omega
        have hw4' : w.heap.size + 3 + 1 < w7.heap.size := by omega
        have hbl7 : b < w7.heap.size := by have := HB6S6.out.size; omega
        refine wp_region_float (fun W' => W'.cell? ⟨w.heap.size + 3 + 1, 0, none⟩ = some (.slice a2 n2 c2) ∧ W'.cell? ⟨w.heap.size, 0, none⟩ = some (.slice (some ⟨b, off, none⟩) N c) ∧ W'.cell? ⟨b, off + k, none⟩ = some (.string s)) 11 [0, 1, 2, 3, 4, 5, 6, 7, 8] [9, 10] (by kernel_rfl) (by kernel_rfl) (fun _ _ _ d _ h => by cases d <;> exact h) ⟨k2', hc0, hcx⟩ ?_
        simp only [List.map_cons, List.map_nil, List.getD_cons_zero, List.getD_cons_succ, List.drop_succ_cons, List.drop_zero]
        refine takes_by (.pointer (some ⟨w.heap.size + 3 + 1, 0, none⟩)) rfl (fun W' _ => by go_simp) ?_
        simp only [Act.put, List.setIfInBounds_toArray, List.set_cons_zero, List.set_cons_succ]
        refine takes_by (.slice a2 n2 c2) rfl (fun W' hS => by have h1 := hS.1; go_simp) ?_
        simp only [Act.put, List.setIfInBounds_toArray, List.set_cons_zero, List.set_cons_succ]
        refine takes_by (.pointer (some ⟨w.heap.size, 0, none⟩)) rfl (fun W' _ => by go_simp) ?_
        simp only [Act.put, List.setIfInBounds_toArray, List.set_cons_zero, List.set_cons_succ]
        refine takes_by (.slice (some ⟨b, off, none⟩) N c) rfl (fun W' hS => by have h1 := hS.2.1; go_simp) ?_
        simp only [Act.put, List.setIfInBounds_toArray, List.set_cons_zero, List.set_cons_succ]
        refine takes_move (.tmp 10) (.int .i64 (k : Nat)) rfl rfl rfl ?_
        simp only [Act.put, List.setIfInBounds_toArray, List.set_cons_zero, List.set_cons_succ]
        refine takes_by (.pointer (some ⟨b, off + k, none⟩)) rfl (fun W' _ => by go_simp) ?_
        simp only [Act.put, List.setIfInBounds_toArray, List.set_cons_zero, List.set_cons_succ]
        refine takes_by (.string s) rfl (fun W' hS => by have h1 := hS.2.2; go_simp) ?_
        simp only [Act.put, List.setIfInBounds_toArray, List.set_cons_zero, List.set_cons_succ]
        refine takes_move (.tmp 11) (.int .i64 (lf : Nat)) rfl rfl rfl ?_
        simp only [Act.put, List.setIfInBounds_toArray, List.set_cons_zero, List.set_cons_succ]
        refine takes_by (.string (s.extract lf s.size)) rfl (fun W' _ => by go_simp; try (intro hq; omega)) ?_
        simp only [Act.put, List.setIfInBounds_toArray, List.set_cons_zero, List.set_cons_succ]
        unfold wpTakes
        refine mids_step rfl (fun K hK => ?_)
        go_simp
        refine hK _ _ ⟨by go_simp, by go_simp, by go_simp⟩ ?_
        clear hK
        refine mids_step rfl (fun K hK => ?_)
        have HX2 : Hid (s.extract lf s.size = strB (p.drop lf)) := Lib.hid (by rw [HSS.out, strB_extract, strB_size, List.take_of_length_le (by simp)])
        have hba : Below w7.heap.size w7 (w7.drew.alloc (.cells #[.string (s.extract lf s.size)] 9)) := (Below.refl _ _).drew.alloc (Nat.le_refl _) _
        refine wp_append_v (v := .slice a2 n2 c2) slcS (by decide) (.tmp 60) (.tmp 68) rfl rfl rfl (RowV.grown S6.out.r2 hba) (Nat.le_trans (by omega) hba.size) (src_one w7.drew 9 (.string (s.extract lf s.size))) (by intro u hu; simp at hu; subst hu; rfl) (by have := HV.out; rw [List.length_map]; simp; omega) ?_
        intro v' w8 ho hf hn
        have hoS : RowS w8 (w.heap.size + 3 + 2) v' (cutP n L 0 (Ss.take (k + 1))) := by
          rw [E2.out]; unfold RowS; rw [List.map_append, List.map_cons, List.map_nil]; unfold encS at *; rw [← HX2.out]; exact ho
        obtain ⟨g1, g2⟩ := (S6.out.grown hba).app2 hoS hf hn
        have hB6 : Below (w.heap.size + 3) w7 (w8.setCell ⟨w.heap.size + 3 + 1, 0, none⟩ v') := ((hba.mono (by omega)).trans (hf.below (fun x hx => by have := (S6.out.r2.lt x (by simpa using hx)).1; omega) (Nat.le_trans (by omega) hba.size))).trans ((Below.refl _ _).setCell (p := ⟨w.heap.size + 3 + 1, 0, none⟩) (show w.heap.size + 3 ≤ w.heap.size + 3 + 1 by omega) _)
        have hB5 : Below (w.heap.size + 3) w7 w8 := (hba.mono (by omega)).trans (hf.below (fun x hx => by have := (S6.out.r2.lt x (by simpa using hx)).1; omega) (Nat.le_trans (by omega) hba.size))
        obtain ⟨va', vc', hvf, hv1, hv2⟩ := (RowV.src hoS).formS
        have HV' : Hid ((cutP n L 0 (Ss.take (k + 1))).length = n2 + 1) := Lib.hid (by rw [E2.out, List.length_append, ← HV.out.2]; rfl)
        rw [HV'.out] at hvf
        subst hvf
        have S8 := Lib.hid g2
        have HB6S8 := Lib.hid hB6
        have HVN2 := Lib.hid HV'.out.symm
        have hc6 : w8.cell? ⟨w.heap.size + 3 + 1, 0, none⟩ = some (.slice a2 n2 c2) := cells_cell g1 rfl
        have hz6 : w8.frozen? ⟨w.heap.size + 3 + 1, 0, none⟩ = false := cells_free g1 _
        have hl6 : w.heap.size + 3 + 1 < w8.heap.size := lt_of_block g1
        have hx6 : w8.cell? ⟨b, off + k, none⟩ = some (.string s) := (hB5.cell (p := ⟨b, off + k, none⟩) (show b < w.heap.size + 3 by omega)).trans hcx
        have hd6 : w8.cell? ⟨w.heap.size, 0, none⟩ = some (.slice (some ⟨b, off, none⟩) N c) := (hB5.cell (p := ⟨w.heap.size, 0, none⟩) (show w.heap.size < w.heap.size + 3 by omega)).trans hc0
        have hsz6 : w.heap.size + 5 ≤ w8.heap.size := by have := hB5.size; omega
        obtain ⟨a2', ha2⟩ : ∃ x, x = va' := ⟨_, rfl⟩
        obtain ⟨c2', hc2⟩ : ∃ x, x = vc' := ⟨_, rfl⟩
        subst ha2 hc2
        clear ho hf hn g1 g2 hoS hba hB6 hB5 HV' hv1 hv2
        refine hK _ _ ⟨hc6, hd6, hx6⟩ ?_
        clear hK
        unfold wpMids
        go_wp2_with fail
        go_roundw
        case rel => exact ⟨k + 1, a1', n1 + 1, c1', a2', n2 + 1, c2', by omega, by rw [HT2.out]; go_num, by go_num, Lib.hid ⟨HVN1.out, HVN2.out⟩, S8, Lib.hid (HB.out.trans (HB6S6.out.trans HB6S8.out))⟩
        case measure => simp [intOf]; omega
    · obtain rfl : k = N := by omega
      have hEN : Hid (cutP 0 n 0 (Ss.take k) = firstP n Ss ∧ cutP n L 0 (Ss.take k) = restP n Ss) := Lib.hid (by
        unfold firstP restP
        rw [HNE.out, List.take_length, HLE.out]
        exact ⟨rfl, rfl⟩)
      have k1 : wr.cell? ⟨w.heap.size + 3, 0, none⟩ = some (.slice a1 n1 c1) := cells_cell HS.out.c1 rfl
      have k2 : wr.cell? ⟨w.heap.size + 3 + 1, 0, none⟩ = some (.slice a2 n2 c2) := cells_cell HS.out.c2 rfl
      have q1 := Lib.hid ((HB.out.block (w.heap.size + 1) (by omega)).trans (by have := HCL.out 1 (by omega); simpa using this))
      have q2 := Lib.hid ((HB.out.block (w.heap.size + 1 + 1) (by omega)).trans (by have := HCL.out 2 (by omega); simpa using this))
      have c11 : wr.cell? ⟨w.heap.size + 1, 0, none⟩ = some (.slice none 0 0) := cells_cell q1.out rfl
      have c12 : wr.cell? ⟨w.heap.size + 1 + 1, 0, none⟩ = some (.slice none 0 0) := cells_cell q2.out rfl
      have f11 : wr.frozen? ⟨w.heap.size + 1, 0, none⟩ = false := cells_free q1.out _
      have f12 : wr.frozen? ⟨w.heap.size + 1 + 1, 0, none⟩ = false := cells_free q2.out _
      have hl1 : w.heap.size + 1 < wr.heap.size := by omega
      have hl2 : w.heap.size + 1 + 1 < wr.heap.size := by omega
      go_wp2_with fail
      refine wp_region_float (fun W' => W'.cell? ⟨w.heap.size + 3, 0, none⟩ = some (.slice a1 n1 c1) ∧ W'.cell? ⟨w.heap.size + 3 + 1, 0, none⟩ = some (.slice a2 n2 c2)) 3 [0, 1] [2] (by kernel_rfl) (by kernel_rfl) (fun _ _ _ d _ h => by cases d <;> exact h) ⟨k1, k2⟩ ?_
      simp only [List.map_cons, List.map_nil, List.getD_cons_zero, List.getD_cons_succ, List.drop_succ_cons, List.drop_zero]
      refine takes_by (.agg #[.slice a1 n1 c1]) rfl (fun W' hS => by have h1 := hS.1; go_simp) ?_
      simp only [Act.put, List.setIfInBounds_toArray, List.set_cons_zero, List.set_cons_succ]
      refine takes_by (.agg #[.slice a2 n2 c2]) rfl (fun W' hS => by have h1 := hS.2; go_simp) ?_
      simp only [Act.put, List.setIfInBounds_toArray, List.set_cons_zero, List.set_cons_succ]
      unfold wpTakes
      refine mids_step rfl (fun K hK => ?_)
      go_simp
      refine hK _ _ ⟨by go_simp, by go_simp⟩ ?_
      clear hK
      unfold wpMids
      go_wp2_with fail
      generalize hWF : World.drew _ = WF
      have hfr : Fr [w.heap.size + 1, w.heap.size + 1 + 1] wr WF := by
        rw [← hWF]
        exact (((fr_setCell wr ⟨w.heap.size + 1, 0, none⟩ (.slice a1 n1 c1)).mono (fun x hx => .inl (by simp at hx; simp [hx]))).trans' ((fr_setCell _ ⟨w.heap.size + 1 + 1, 0, none⟩ (.slice a2 n2 c2)).mono (fun x hx => .inl (by simp at hx; simp [hx])))).trans' (fr_drewN _ 1 _)
      have ht1 : WF.heap[w.heap.size + 1]? = some (.cells #[.slice a1 n1 c1] 34 (0, 0)) := by
        rw [← hWF]; exact (fr_setCell _ ⟨w.heap.size + 1 + 1, 0, none⟩ _).same (one_cell_set q1.out) (by simp)
      have ht2 : WF.heap[w.heap.size + 1 + 1]? = some (.cells #[.slice a2 n2 c2] 34 (0, 0)) := by
        rw [← hWF]; exact one_cell_set ((fr_setCell _ ⟨w.heap.size + 1, 0, none⟩ _).same q2.out (by simp))
      clear hWF
      refine bodyPost_ret (v := .tuple #[.agg #[.slice a1 n1 c1], .agg #[.slice a2 n2 c2], .int .i64 0]) (by simp [results, Try.results17, go_sem, cells_cell ht1 (o := 0) rfl, cells_cell ht2 (o := 0) rfl]) rfl ⟨_, _, rfl, ?_, ?_, ?_⟩
      · rw [← hEN.out.1]
        exact RowV.lower (hfr.row HS.out.r1 (fun g hg hm => by have := (HS.out.r1.lt g hg).1; simp at hm; omega)) (by omega)
      · rw [← hEN.out.2]
        exact RowV.lower (hfr.row HS.out.r2 (fun g hg hm => by have := (HS.out.r2.lt g hg).1; simp at hm; omega)) (by omega)
      · exact HBw.out.trans (hfr.below (fun x hx => by simp at hx; omega) (by omega))

set_option maxRecDepth 100000 in
set_option maxHeartbeats 1600000 in
theorem refJoin_any {w : World} {v u : Value} {Ps Qs : Parts} (h : SrcV w v (Ps.map encS)) (h' : SrcV w u (Qs.map encS)) (hk : Ps.length ≤ 1024) (hk' : Qs.length ≤ 1024) (hl : Ps.flatten.length ≤ 65536) (hl' : Qs.flatten.length ≤ 65536) :
    Calls Try.prog 21 #[rf v, rf u] w fun e w' => ∃ x, e = .returned (.tuple #[rf x, .int .i64 (errC (full (Ps ++ Qs)).length (Ps ++ Qs).flatten.length)]) ∧ RowS w' w.heap.size x (newP (Ps ++ Qs)) ∧ Below w.heap.size w w' := by
  obtain ⟨a, c, rfl, hc1, hc2⟩ := h.formS
  obtain ⟨a', c', rfl, hc1', hc2'⟩ := h'.formS
  obtain ⟨N, hN⟩ : ∃ N, N = Ps.length := ⟨_, rfl⟩
  obtain ⟨N', hN'⟩ : ∃ N', N' = Qs.length := ⟨_, rfl⟩
  obtain ⟨ce, hce⟩ : ∃ ce, ce = errC (full (Ps ++ Qs)).length (Ps ++ Qs).flatten.length := ⟨_, rfl⟩
  rw [← hce]
  rw [← hN] at h hk hc1
  rw [← hN'] at h' hk' hc1'
  rw [← hN, ← hN']
  have HNE := Lib.hid hN
  have HNE' := Lib.hid hN'
  have HCE := Lib.hid hce
  have HH := Lib.hid h
  have HH' := Lib.hid h'
  have HL := Lib.hid (And.intro hl hl')
  clear h h' hN hN' hce hl hl'
  unfold rf
  go_enter Try.func21, Try.ntmps21
  go_wp2_with fail
  obtain ⟨W, hW⟩ : ∃ W, W = ((w.alloc (.cells #[.slice a N c] 34)).alloc (.cells #[.slice a' N' c'] 34)).alloc (.cells #[.slice none 0 0] 34) := ⟨_, rfl⟩
  have HWS : Hid (W.heap.size = w.heap.size + 3) := Lib.hid (by rw [hW]; simp)
  have HWB : Hid (Below w.heap.size w W) := Lib.hid (by rw [hW]; exact below3 _ _ _ _)
  have HW0 : Hid (W.heap[w.heap.size]? = some (.cells #[.slice a N c] 34 (0, 0))) := Lib.hid (by
    rw [hW]; exact ((below_alloc _ _).block _ (by simp; omega)).trans (((below_alloc _ _).block _ (by simp)).trans (heap_alloc_new w _)))
  have HW1 : Hid (W.heap[w.heap.size + 1]? = some (.cells #[.slice a' N' c'] 34 (0, 0))) := Lib.hid (by
    rw [hW]; refine ((below_alloc _ _).block _ (by simp)).trans ?_; have := heap_alloc_new (w.alloc (.cells #[.slice a N c] 34)) (.cells #[.slice a' N' c'] 34); simpa using this)
  have HW2 : Hid (W.heap[w.heap.size + 1 + 1]? = some (.cells #[.slice none 0 0] 34 (0, 0))) := Lib.hid (by
    rw [hW]; have := heap_alloc_new ((w.alloc (.cells #[.slice a N c] 34)).alloc (.cells #[.slice a' N' c'] 34)) (.cells #[.slice none 0 0] 34); simpa using this)
  rw [← hW]
  clear hW
  have hld : ∀ W', Below W.heap.size W W' → W'.cell? ⟨w.heap.size, 0, none⟩ = some (.slice a N c) ∧ W'.cell? ⟨w.heap.size + 1, 0, none⟩ = some (.slice a' N' c') := fun W' hb =>
    ⟨cells_cell ((hb.block _ (by have := HWS.out; omega)).trans HW0.out) rfl, cells_cell ((hb.block _ (by have := HWS.out; omega)).trans HW1.out) rfl⟩
  refine wp_region_float2 (fun W' => Below W.heap.size W W') 9 [0, 1, 3, 4] [2, 5, 6] [7, 8] (by kernel_rfl) (by kernel_rfl) (fun _ _ _ d _ h => by cases d <;> exact h) (Below.refl _ _).drew ?_
  simp only [List.map_cons, List.map_nil, List.getD_cons_zero, List.getD_cons_succ, List.drop_succ_cons, List.drop_zero]
  refine takes_by (.pointer (some ⟨w.heap.size, 0, none⟩)) rfl (fun W' _ => by go_simp) ?_
  simp only [Act.put, List.setIfInBounds_toArray, List.set_cons_zero, List.set_cons_succ]
  refine takes_by (.slice a N c) rfl (fun W' hS => by obtain ⟨h0, h1⟩ := hld W' hS; go_simp) ?_
  simp only [Act.put, List.setIfInBounds_toArray, List.set_cons_zero, List.set_cons_succ]
  refine takes_by (.pointer (some ⟨w.heap.size + 1, 0, none⟩)) rfl (fun W' _ => by go_simp) ?_
  simp only [Act.put, List.setIfInBounds_toArray, List.set_cons_zero, List.set_cons_succ]
  refine takes_by (.slice a' N' c') rfl (fun W' hS => by obtain ⟨h0, h1⟩ := hld W' hS; go_simp) ?_
  simp only [Act.put, List.setIfInBounds_toArray, List.set_cons_zero, List.set_cons_succ]
  unfold wpTakes
  have hbd : Below W.heap.size W W.drew := (Below.refl _ _).drew
  have hsD : W.drew.heap.size = W.heap.size := rfl
  refine mids_step rfl (fun K hK => ?_)
  refine wp_append_v (v := .slice none 0 0) slcS (by decide) (.const (.slice none 0 0)) (.tmp 7) rfl rfl rfl (World.ownsRow_nil W.drew W.heap.size 9 1) (by rw [hsD]; exact Nat.le_refl _) ((HH.out.grown HWB.out).grown hbd) (encS_one Ps) (by have := HNE.out; simp; omega) ?_
  intro v1 w1 ho1 hf1 hn1
  have hB1 : Below W.heap.size W w1 := hbd.trans (hf1.below (fun x hx => by simp [Value.ownBlock] at hx) (by rw [hsD]; exact Nat.le_refl _))
  have HO1 : Hid (RowS w1 W.heap.size v1 Ps) := Lib.hid (by simpa [RowS] using ho1)
  obtain ⟨va1, vc1, hvf1, _, _⟩ := (RowV.src HO1.out).formS
  refine hK _ _ hB1 ?_
  clear hK ho1 hf1 hn1
  simp only [Act.put, List.setIfInBounds_toArray, List.set_cons_zero, List.set_cons_succ]
  refine mids_step rfl (fun K hK => ?_)
  refine wp_append_v (v := v1) slcS (by decide) (.tmp 8) (.tmp 10) rfl rfl rfl HO1.out hB1.size ((HH'.out.grown HWB.out).grown hB1) (encS_one Qs) (by have := HNE.out; have := HNE'.out; simp; omega) ?_
  intro v2 w2 ho2 hf2 hn2
  have hB2 : Below W.heap.size W w2 := hB1.trans (hf2.below (fun x hx => (HO1.out.lt x (by simpa using hx)).1) hB1.size)
  have HO2 : Hid (RowS w2 W.heap.size v2 (Ps ++ Qs)) := Lib.hid (by unfold RowS; rw [List.map_append]; exact ho2)
  have HS2 : Hid (W.heap.size ≤ w2.heap.size) := Lib.hid hB2.size
  refine hK _ _ hB2 ?_
  clear hK ho2 hf2 hn2
  simp only [Act.put, List.setIfInBounds_toArray, List.set_cons_zero, List.set_cons_succ]
  refine mids_call 11 #[v2] rfl (by go_simp) (refNew_any (RowV.src HO2.out) (by rw [List.flatten_append, List.length_append]; have := HL.out; omega) (by rw [List.length_append]; have := HNE.out; have := HNE'.out; omega)) ?_
  rw [← HCE.out]
  rintro e w3 ⟨x, rfl, hx, hb3⟩
  have HX := Lib.hid hx
  have hB3 : Below W.heap.size W w3 := hB2.trans (hb3.mono hB2.size)
  refine ⟨_, rfl, hB3, ?_⟩
  clear hb3 hx
  simp only [Act.put, List.setIfInBounds_toArray, List.set_cons_zero, List.set_cons_succ]
  unfold rf
  unfold wpMids
  refine ⟨hB3, ?_⟩
  refine takes_by (.agg #[x]) rfl (fun W' _ => by go_simp) ?_
  simp only [Act.put, List.setIfInBounds_toArray, List.set_cons_zero, List.set_cons_succ]
  refine takes_by (.int .i64 ce) rfl (fun W' _ => by go_simp) ?_
  simp only [Act.put, List.setIfInBounds_toArray, List.set_cons_zero, List.set_cons_succ]
  unfold wpTakes
  have HB3 := Lib.hid hB3
  have hcc := Lib.hid ((hB3.block _ (by have := HWS.out; omega)).trans HW2.out)
  obtain ⟨xa, xc, hxf, _, _⟩ := (RowV.src HX.out).formS
  subst hxf
  have gc0 : w3.cell? ⟨w.heap.size + 1 + 1, 0, none⟩ = some (.slice none 0 0) := cells_cell hcc.out rfl
  have gz0 : w3.frozen? ⟨w.heap.size + 1 + 1, 0, none⟩ = false := cells_free hcc.out _
  have hl : w.heap.size + 1 + 1 < w3.heap.size := lt_of_block hcc.out
  clear hld hB1 hB2 hB3 hbd hsD
  generalize (newP (Ps ++ Qs)).length = xn at *
  go_wp2_with fail
  have ht := one_cell_set (y := .slice xa xn xc) hcc.out
  refine bodyPost_ret (v := .tuple #[.agg #[.slice xa xn xc], .int .i64 ce]) (by simp [results, Try.results21, go_sem, cells_cell ht (o := 0) rfl]) rfl ⟨_, rfl, ?_, ?_⟩
  · have hs2 := HS2.out
    have hs3 := HWS.out
    exact RowV.lower ((fr_setCell w3 ⟨w.heap.size + 1 + 1, 0, none⟩ (.slice xa xn xc)).row HX.out (fun g hg hm => by have := (HX.out.lt g hg).1; simp at hm; omega)) (by omega)
  · exact (HWB.out.trans (HB3.out.mono HWB.out.size)).trans ((Below.refl _ _).setCell (p := ⟨w.heap.size + 1 + 1, 0, none⟩) (show w.heap.size ≤ w.heap.size + 1 + 1 by omega) _)
end Go.Proofs.Ytkdbkamjaaehfaa
