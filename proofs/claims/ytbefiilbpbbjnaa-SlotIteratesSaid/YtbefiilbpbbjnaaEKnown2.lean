/- known. -/
import Derived.Test.YtbefiilbpbbjnaaEKnown
import Derived.Test.YtbefiilbpbbjnaaEMix
namespace Go.Proofs.Ytbefiilbpbbjnaa
open Go.RowKit Go.Sort
set_option linter.unusedVariables false
set_option linter.unusedSimpArgs false

theorem knownP : ents 0 [⟨true, 1, 5⟩, ⟨true, 0, 3⟩] = [⟨0, 1, 5, false⟩, ⟨1, 0, 3, false⟩] := rfl

theorem src_known (w : World) : SrcF (w.alloc (.cells #[.int .i64 0, .int .i64 1, .int .i64 5, .bool false, .int .i64 1, .int .i64 0, .int .i64 3, .bool false] 47)) (.slice (some ⟨w.heap.size, 0, none⟩) 2 2) (ents 0 [⟨true, 1, 5⟩, ⟨true, 0, 3⟩]) := by
  rw [knownP]
  refine .inr ⟨w.heap.size, 0, 2, rfl, by decide, by decide, by simp, fun j x hx i u hu => ?_⟩
  match j with
  | 0 =>
    simp at hx
    subst hx
    match i with
    | 0 | 1 | 2 | 3 => cases hu; exact cell_new _ _ _ _ _ _ rfl rfl
    | i + 4 => simp [encF] at hu
  | 1 =>
    simp at hx
    subst hx
    match i with
    | 0 | 1 | 2 | 3 => cases hu; exact cell_new _ _ _ _ _ _ rfl rfl
    | i + 4 => simp [encF] at hu
  | j + 2 => simp at hx

set_option maxRecDepth 100000 in
set_option maxHeartbeats 6400000 in
theorem known_any (w : World) : Calls Try.prog 8 #[] w fun e w' => e = .returned (.bool true) ∧ Below w.heap.size w w' := by
  have HN0 := Lib.hid (slNew_bad w 0 (by omega))
  have HN129 := Lib.hid (slNew_bad w 129 (by omega))
  have HN2 := Lib.hid (slNew_ok w 2 (by omega) (by omega))
  go_enter Try.func8, Try.ntmps8
  go_wp2_with (first
    | (go_at_call_of 9 (Value.int IntKind.i64 0); refine HN0.out.mono ?_; rintro e w1 ⟨rfl, h1⟩; have h2 := h1.symm; clear h1; subst h2)
    | (go_at_call_of 9 (Value.int IntKind.i64 129); refine HN129.out.mono ?_; rintro e w1 ⟨rfl, h1⟩; have h2 := h1.symm; clear h1; subst h2)
    | (go_at_call 9; fail))
  refine HN2.out.mono ?_
  rintro e w3 ⟨t, g, rfl, hT, hb, hlt, hlg⟩
  have K3 : Hid (KT w w3 t g 2 [⟨false, 0, 0⟩, ⟨false, 0, 0⟩]) := Lib.hid ⟨hT, hb, hlt, hlg⟩
  clear HN0 HN129 HN2 hT hb hlt hlg
  go_wp2_with (go_at_call 21; fail)
  refine (fd_any _ _ _).mono ?_
  rintro e w4 ⟨rfl, hg⟩
  have K4 := Lib.hid (K3.out.grown hg.below)
  clear hg
  go_wp2_with (go_at_call 23; fail)
  refine (opens_yes (n := 0) (p := ⟨false, 0, 0⟩) K4.out.T rfl rfl 7 rfl rfl).mono ?_
  rintro e w5 ⟨rfl, hT, hf⟩
  have K5 : Hid (KT w w5 t g 2 [⟨true, 0, 7⟩, ⟨false, 0, 0⟩]) := Lib.hid (K4.out.step hT hf)
  clear hT hf
  go_wp2_with (go_at_call 21; fail)
  refine (fd_any _ _ _).mono ?_
  rintro e w6 ⟨rfl, hg⟩
  have K6 := Lib.hid (K5.out.grown hg.below)
  clear hg
  go_wp2_with (go_at_call 23; fail)
  refine (opens_yes (n := 1) (p := ⟨false, 0, 0⟩) K6.out.T rfl rfl 8 rfl rfl).mono ?_
  rintro e w7 ⟨rfl, hT, hf⟩
  have K7 : Hid (KT w w7 t g 2 [⟨true, 0, 7⟩, ⟨true, 0, 8⟩]) := Lib.hid (K6.out.step hT hf)
  clear hT hf
  go_wp2_with (go_at_call 16; fail)
  refine (slOpen_full K7.out.T rfl 9).mono ?_
  rintro e w8 ⟨rfl, hg⟩
  have K8 := Lib.hid (K7.out.grown hg.below)
  clear hg
  go_wp2_with (go_at_call 21; fail)
  refine (fd_any _ _ _).mono ?_
  rintro e w9 ⟨rfl, hg⟩
  have K9 := Lib.hid (K8.out.grown hg.below)
  clear hg
  go_wp2_with (go_at_call 24; fail)
  refine (closes_yes (n := 0) (G := 0) (v := 7) K9.out.T rfl (by decide) rfl rfl).mono ?_
  rintro e w10 ⟨rfl, hT, hf⟩
  have K10 : Hid (KT w w10 t g 2 [⟨false, 1, 0⟩, ⟨true, 0, 8⟩]) := Lib.hid (K9.out.step hT hf)
  clear hT hf
  go_wp2_with (go_at_call 21; fail)
  refine (fd_any _ _ _).mono ?_
  rintro e w11 ⟨rfl, hg⟩
  have K11 := Lib.hid (K10.out.grown hg.below)
  clear hg
  go_wp2_with (go_at_call 19; fail)
  refine (slClose_bad (finds_no K11.out.T (P := [⟨false, 1, 0⟩, ⟨true, 0, 8⟩]) (N := 0) (k := 0) (fun n p e hp ho => by obtain rfl : n = 0 := (by omega); simp at hp; subst hp; cases ho)) (by decide)).mono ?_
  rintro e w12 ⟨rfl, hg⟩
  have K12 := Lib.hid (K11.out.grown hg.below)
  clear hg
  go_wp2_with (go_at_call 21; fail)
  refine (fd_any _ _ _).mono ?_
  rintro e w13 ⟨rfl, hg⟩
  have K13 := Lib.hid (K12.out.grown hg.below)
  clear hg
  go_wp2_with (go_at_call 23; fail)
  refine (opens_yes (n := 0) (p := ⟨false, 1, 0⟩) K13.out.T rfl rfl 5 rfl rfl).mono ?_
  rintro e w14 ⟨rfl, hT, hf⟩
  have K14 : Hid (KT w w14 t g 2 [⟨true, 1, 5⟩, ⟨true, 0, 8⟩]) := Lib.hid (K13.out.step hT hf)
  clear hT hf
  go_wp2_with (go_at_call 21; fail)
  refine (fd_any _ _ _).mono ?_
  rintro e w15 ⟨rfl, hg⟩
  have K15 := Lib.hid (K14.out.grown hg.below)
  clear hg
  go_wp2_with (go_at_call 20; fail)
  refine (slGet_bad (finds_no K15.out.T (P := [⟨true, 1, 5⟩, ⟨true, 0, 8⟩]) (N := 0) (k := 0) (fun n p e hp ho => by obtain rfl : n = 0 := (by omega); simp at hp; subst hp; decide)) (by decide)).mono ?_
  rintro e w16 ⟨rfl, hg⟩
  have K16 := Lib.hid (K15.out.grown hg.below)
  clear hg
  go_wp2_with (go_at_call 21; fail)
  refine (fd_any _ _ _).mono ?_
  rintro e w17 ⟨rfl, hg⟩
  have K17 := Lib.hid (K16.out.grown hg.below)
  clear hg
  go_wp2_with (go_at_call 25; fail)
  refine (gets_yes (n := 0) (G := 1) (v := 5) K17.out.T rfl rfl rfl).mono ?_
  rintro e w18 ⟨rfl, hg⟩
  have K18 := Lib.hid (K17.out.grown hg.below)
  clear hg
  go_wp2_with (go_at_call 21; fail)
  refine (fd_any _ _ _).mono ?_
  rintro e w19 ⟨rfl, hg⟩
  have K19 := Lib.hid (K18.out.grown hg.below)
  clear hg
  go_wp2_with (go_at_call 18; fail)
  refine (slSet_yes (n := 1) (G := 0) (v := 8) K19.out.T rfl 3).mono ?_
  rintro e w20 ⟨rfl, hT, hf⟩
  have K20 : Hid (KT w w20 t g 2 [⟨true, 1, 5⟩, ⟨true, 0, 3⟩]) := Lib.hid (K19.out.step hT hf)
  clear hT hf
  go_wp2_with (go_at_call 17; fail)
  refine (slAt_yes (n := 1) (G := 0) (v := 3) K20.out.T rfl).mono ?_
  rintro e w21 ⟨rfl, hg⟩
  have K21 := Lib.hid (K20.out.grown hg.below)
  clear hg
  go_wp2_with (go_at_call 17; fail)
  have hb := below_alloc w21 (.cells #[.int .i64 1, .int .i64 0] 34)
  have HX21 : Hid ((w21.alloc (.cells #[.int .i64 1, .int .i64 0] 34)).heap[w21.heap.size]? = some (.cells #[.int .i64 1, .int .i64 0] 34 (0, 0))) := Lib.hid (block_new _ _ _ rfl)
  refine (slAt_no (P := [⟨true, 1, 5⟩, ⟨true, 0, 3⟩]) (N := 2) (K21.out.grown hb).T (fun n p e hp => by obtain rfl : n = 2 := (by omega); simp at hp)).mono ?_
  rintro e w22 ⟨rfl, hg⟩
  have hX := Lib.hid ((hg.below.block _ (lt_of_block HX21.out)).trans HX21.out)
  have HKT := Lib.hid ((K21.out.grown hb).grown hg.below)
  clear hg hb HX21 K3 K4 K5 K6 K7 K8 K9 K10 K11 K12 K13 K14 K15 K16 K17 K18 K19 K20 K21
  generalize w21.heap.size = X at *
  go_wp2_with fail
  have x0 : w22.cell? ⟨X, 0, none⟩ = some (.int .i64 1) := cells_cell hX.out rfl
  have x1 : w22.cell? ⟨X, 1, none⟩ = some (.int .i64 0) := cells_cell hX.out rfl
  have heq := fun W => eql_fd_same W 1 0
  have HS : Hid (Below w22.heap.size w22 w22.drew) := Lib.hid (Below.refl _ _).drew
  have hld : ∀ W', Below w22.heap.size w22 W' → W'.cell? ⟨X, 0, none⟩ = some (.int .i64 1) ∧ W'.cell? ⟨X, 1, none⟩ = some (.int .i64 0) ∧ X < W'.heap.size := fun W' hb =>
    ⟨cells_cell ((hb.block X (lt_of_block hX.out)).trans hX.out) rfl, cells_cell ((hb.block X (lt_of_block hX.out)).trans hX.out) rfl, Nat.lt_of_lt_of_le (lt_of_block hX.out) hb.size⟩
  refine wp_region_mix (fun W' => Below w22.heap.size w22 W') 20 [(true, 0), (false, 1), (false, 2), (false, 3), (false, 4), (false, 5), (false, 6), (false, 7), (false, 8), (false, 9), (false, 10), (false, 11), (true, 12), (false, 13), (true, 14), (false, 15), (false, 16), (false, 17), (false, 18), (false, 19)] (by kernel_rfl) (by kernel_rfl) (fun _ _ _ d _ h => by cases d <;> exact h) ?_
  simp only [List.map_cons, List.map_nil, List.getD_cons_zero, List.getD_cons_succ, List.drop_succ_cons, List.drop_zero]
  refine mix_take (.agg #[.int .i64 1, .int .i64 0]) HS.out rfl (fun W' hS => by obtain ⟨h0, h1, h2⟩ := hld W' hS; go_simp) ?_
  simp only [Act.put, List.setIfInBounds_toArray, List.set_cons_zero, List.set_cons_succ]
  refine mix_step rfl (fun K hK => ?_)
  go_simp
  go_wp2_with (go_at_call 21; fail)
  refine (fd_any _ _ _).mono ?_
  rintro e wf ⟨rfl, hgf⟩
  have HS := Lib.hid (HS.out.trans (hgf.below.mono HS.out.size))
  clear hgf
  refine hK _ _ HS.out ?_
  clear hK
  refine mix_by (.bool true) rfl (by go_simp) HS.out ?_
  simp only [Act.put, List.setIfInBounds_toArray, List.set_cons_zero, List.set_cons_succ]
  refine mix_moved (.tmp 113) (.bool true) rfl rfl rfl HS.out ?_
  simp only [Act.put, List.setIfInBounds_toArray, List.set_cons_zero, List.set_cons_succ]
  refine mix_moved (.tmp 2) (.int .i64 0) rfl rfl rfl HS.out ?_
  simp only [Act.put, List.setIfInBounds_toArray, List.set_cons_zero, List.set_cons_succ]
  refine mix_by (.bool true) rfl (by go_simp) HS.out ?_
  simp only [Act.put, List.setIfInBounds_toArray, List.set_cons_zero, List.set_cons_succ]
  refine mix_by (.bool true) rfl (by go_simp) HS.out ?_
  simp only [Act.put, List.setIfInBounds_toArray, List.set_cons_zero, List.set_cons_succ]
  refine mix_moved (.tmp 117) (.bool true) rfl rfl rfl HS.out ?_
  simp only [Act.put, List.setIfInBounds_toArray, List.set_cons_zero, List.set_cons_succ]
  refine mix_moved (.tmp 4) (.int .i64 9) rfl rfl rfl HS.out ?_
  simp only [Act.put, List.setIfInBounds_toArray, List.set_cons_zero, List.set_cons_succ]
  refine mix_by (.bool true) rfl (by go_simp) HS.out ?_
  simp only [Act.put, List.setIfInBounds_toArray, List.set_cons_zero, List.set_cons_succ]
  refine mix_by (.bool true) rfl (by go_simp) HS.out ?_
  simp only [Act.put, List.setIfInBounds_toArray, List.set_cons_zero, List.set_cons_succ]
  refine mix_moved (.tmp 121) (.bool true) rfl rfl rfl HS.out ?_
  simp only [Act.put, List.setIfInBounds_toArray, List.set_cons_zero, List.set_cons_succ]
  refine mix_move (.tmp 5) (.pointer (some ⟨t, 0, none⟩)) rfl HS.out rfl rfl ?_
  simp only [Act.put, List.setIfInBounds_toArray, List.set_cons_zero, List.set_cons_succ]
  refine mix_step rfl (fun K hK => ?_)
  go_simp
  go_wp2_with (go_at_call 21; fail)
  refine (fd_any _ _ _).mono ?_
  rintro e wf ⟨rfl, hgf⟩
  have HS := Lib.hid (HS.out.trans (hgf.below.mono HS.out.size))
  clear hgf
  refine hK _ _ HS.out ?_
  clear hK
  refine mix_take (.agg #[.int .i64 0, .int .i64 1, .int .i64 5, .bool false]) HS.out rfl (fun W' hS => by go_simp) ?_
  simp only [Act.put, List.setIfInBounds_toArray, List.set_cons_zero, List.set_cons_succ]
  refine mix_step rfl (fun K hK => ?_)
  go_simp
  go_wp2_with (go_at_call 21; fail)
  refine (fd_any _ _ _).mono ?_
  rintro e wf ⟨rfl, hgf⟩
  have HS := Lib.hid (HS.out.trans (hgf.below.mono HS.out.size))
  clear hgf
  refine hK _ _ HS.out ?_
  clear hK
  refine mix_by (.agg #[.int .i64 1, .int .i64 0, .int .i64 3, .bool false]) rfl (by go_simp) HS.out ?_
  simp only [Act.put, List.setIfInBounds_toArray, List.set_cons_zero, List.set_cons_succ]
  refine mix_step rfl (fun K hK => ?_)
  go_simp
  have hba := below_alloc wf (.cells #[.int .i64 0, .int .i64 1, .int .i64 5, .bool false, .int .i64 1, .int .i64 0, .int .i64 3, .bool false] 47)
  have hsrc := Lib.hid (src_known wf)
  have HS := Lib.hid (HS.out.trans (hba.mono HS.out.size))
  refine hK _ _ HS.out ?_
  clear hK hba
  refine mix_step rfl (fun K hK => ?_)
  go_simp
  go_wp2_with (go_at_call 14; fail)
  refine (lawAll_any (P := [⟨true, 1, 5⟩, ⟨true, 0, 3⟩]) (HKT.out.grown HS.out).T.alls hsrc.out).mono ?_
  rintro e wz ⟨rfl, hgf⟩
  have HS := Lib.hid (HS.out.trans (hgf.mono HS.out.size))
  clear hgf
  refine hK _ _ HS.out ?_
  clear hK
  refine mix_by (.bool true) rfl (by go_simp) HS.out ?_
  simp only [Act.put, List.setIfInBounds_toArray, List.set_cons_zero, List.set_cons_succ]
  refine mix_nil ?_
  go_wp2_with fail
  go_ret
  exact ⟨rfl, (HKT.out.grown HS.out).below⟩
end Go.Proofs.Ytbefiilbpbbjnaa
