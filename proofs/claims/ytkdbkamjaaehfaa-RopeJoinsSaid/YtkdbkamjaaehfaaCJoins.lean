/- The walk of RopeJoins. -/
import Derived.Test.YtkdbkamjaaehfaaCKn2
import Derived.Test.YtkdbkamjaaehfaaCEnd
namespace Go.Proofs.Ytkdbkamjaaehfaa
open Go.RowKit Go.Sort
set_option linter.unusedVariables false
set_option linter.unusedSimpArgs false

theorem newP_len (Ps : Parts) : (newP Ps).length ≤ 1024 := by
  unfold newP
  rcases errC_or (full Ps).length Ps.flatten.length with h | h | ⟨h, h1, h2⟩
  · rw [if_neg (by rw [h]; decide)]; simp
  · rw [if_neg (by rw [h]; decide)]; simp
  · rw [if_pos h]; exact h1
theorem newP_size (Ps : Parts) : (newP Ps).flatten.length ≤ 65536 := by
  unfold newP
  rcases errC_or (full Ps).length Ps.flatten.length with h | h | ⟨h, h1, h2⟩
  · rw [if_neg (by rw [h]; decide)]; simp
  · rw [if_neg (by rw [h]; decide)]; simp
  · rw [if_pos h, full_flat]; exact h2
theorem newP_ne (Ps : Parts) : ∀ p ∈ newP Ps, p ≠ [] := by
  unfold newP
  split
  · exact full_ne Ps
  · simp
theorem errC_small (Ps : Parts) : -9223372036854775808 ≤ errC (full Ps).length Ps.flatten.length ∧ errC (full Ps).length Ps.flatten.length ≤ 9223372036854775807 := by
  rcases errC_or (full Ps).length Ps.flatten.length with h | h | ⟨h, _⟩ <;> rw [h] <;> decide

set_option maxRecDepth 100000 in
set_option maxHeartbeats 6400000 in
theorem ropeJoins_walk0 {w : World} {vp vq : Value} {Ps Qs : Parts} (h : SrcV w vp (Ps.map encS)) (h' : SrcV w vq (Qs.map encS)) :
    Calls Try.prog 6 #[vp, vq] w fun e w' => e = .returned (.bool true) ∧ Below w.heap.size w w' := by
  have HP := Lib.hid h
  have HQ := Lib.hid h'
  obtain ⟨pa, pc, hpf, _, _⟩ := h.formS
  obtain ⟨qa, qc, hqf, _, _⟩ := h'.formS
  generalize hPN : Ps.length = pn at *
  generalize hQN : Qs.length = qn at *
  subst hpf hqf
  have HPN := Lib.hid hPN
  have HQN := Lib.hid hQN
  clear h h' hPN hQN
  go_enter Try.func6, Try.ntmps6
  go_wp2_with (go_at_call 8; fail)
  refine (small_any HP.out).mono ?_
  rintro e w' ⟨(⟨rfl, hk, hl⟩ | rfl), rfl⟩
  case' inr =>
    go_wp2_with (go_at_call 9; fail)
    refine (known_any _).mono ?_
    rintro e w' ⟨rfl, hb⟩
    go_wp2_with fail
    go_ret
    exact ⟨rfl, hb⟩
  have HK1 := Lib.hid (And.intro hk hl)
  clear hk hl
  go_wp2_with (go_at_call 8; fail)
  refine (small_any HQ.out).mono ?_
  rintro e w' ⟨(⟨rfl, hk', hl'⟩ | rfl), rfl⟩
  case' inr =>
    go_wp2_with (go_at_call 9; fail)
    refine (known_any _).mono ?_
    rintro e w' ⟨rfl, hb⟩
    go_wp2_with fail
    go_ret
    exact ⟨rfl, hb⟩
  have HK2 := Lib.hid (And.intro hk' hl')
  clear hk' hl'
  obtain ⟨ep, hep⟩ : ∃ ep, ep = errC (full Ps).length Ps.flatten.length := ⟨_, rfl⟩
  obtain ⟨eq, heq⟩ : ∃ eq, eq = errC (full Qs).length Qs.flatten.length := ⟨_, rfl⟩
  obtain ⟨A, hA⟩ : ∃ A, A = newP Ps := ⟨_, rfl⟩
  obtain ⟨B, hB⟩ : ∃ B, B = newP Qs := ⟨_, rfl⟩
  obtain ⟨ej, hej⟩ : ∃ ej, ej = errC (full (A ++ B)).length (A ++ B).flatten.length := ⟨_, rfl⟩
  have be1 := errC_small Ps
  have be2 := errC_small Qs
  have be3 := errC_small (A ++ B)
  rw [← hep] at be1
  rw [← heq] at be2
  rw [← hej] at be3
  have hmade := Lib.hid (fun (W : World) (hW : SrcV W (.slice pa pn pc) (Ps.map encS)) => made_any hW (by have := HK1.out; omega) (by have := HK1.out; omega))
  have hmade' := Lib.hid (fun (W : World) (hW : SrcV W (.slice qa qn qc) (Qs.map encS)) => made_any hW (by have := HK2.out; omega) (by have := HK2.out; omega))
  have href := Lib.hid (fun (W : World) (hW : SrcV W (.slice pa pn pc) (Ps.map encS)) => refNew_any hW (by have := HK1.out; omega) (by have := HK1.out; omega))
  have href' := Lib.hid (fun (W : World) (hW : SrcV W (.slice qa qn qc) (Qs.map encS)) => refNew_any hW (by have := HK2.out; omega) (by have := HK2.out; omega))
  rw [← hep, ← hA] at hmade href
  rw [← heq, ← hB] at hmade' href'
  have HA := Lib.hid hA
  have HBq := Lib.hid hB
  have HEJ := Lib.hid hej
  clear hep heq hA hB hej
  go_wp2_with (go_at_call 14; fail)
  have HT : Hid (Below w.heap.size w w) := Lib.hid (Below.refl _ _)
  have HC : Hid (Below w.heap.size w w) := Lib.hid (Below.refl _ _)
  refine (hmade.out _ (HP.out.grown (HT.out.trans (HC.out.mono HT.out.size)))).mono ?_
  rintro e w1 ⟨vr, rfl, Qr, hb⟩
  have HC2 : Hid (Below w.heap.size w w1) := Lib.hid (HC.out.trans ((hb).mono HC.out.size))
  clear HC
  have HC := HC2
  clear HC2
  clear hb
  obtain ⟨xr0, xr1, xr2, xr3, xr4, xr5, hvr⟩ := Qr.shape
  subst hvr
  have Qr := Lib.hid (Qr.lower (Nat.zero_le _))
  go_wp2_with (go_at_call 14; fail)
  obtain ⟨W1, hW1⟩ : ∃ x, x = (w1.alloc (.cells #[.slice xr0 xr1 xr2, .slice xr3 xr4 xr5] 29)) := ⟨_, rfl⟩
  have HBn : Below w1.heap.size w1 W1 := by rw [hW1]; exact below_alloc _ _
  have HBB : Hid (Below w.heap.size w W1) := Lib.hid (HC.out.trans (HBn.mono HC.out.size))
  have Yr : Hid (W1.heap[w1.heap.size]? = some (.cells #[.slice xr0 xr1 xr2, .slice xr3 xr4 xr5] 29 (0, 0))) := Lib.hid (by rw [hW1]; exact heap_alloc_new _ _)
  have SRr : Hid (RopeAt W1 0 (.agg #[.slice xr0 xr1 xr2, .slice xr3 xr4 xr5]) (A)) := Lib.hid (((Qr.out)).grown HBn)
  have HTn : Hid (Below w.heap.size w W1) := Lib.hid (HT.out.trans (HBB.out.mono HT.out.size))
  rw [← hW1]
  clear hW1 HC HT HBn HBB
  have Xr := Yr
  have Rr := SRr
  have HT := HTn
  clear HTn Yr SRr
  have HC : Hid (Below W1.heap.size W1 W1) := Lib.hid (Below.refl _ _)
  refine (hmade'.out _ (HQ.out.grown (HT.out.trans (HC.out.mono HT.out.size)))).mono ?_
  rintro e w2 ⟨vs, rfl, Qs1, hb⟩
  have HC2 : Hid (Below W1.heap.size W1 w2) := Lib.hid (HC.out.trans ((hb).mono HC.out.size))
  clear HC
  have HC := HC2
  clear HC2
  clear hb
  obtain ⟨xs0, xs1, xs2, xs3, xs4, xs5, hvs⟩ := Qs1.shape
  subst hvs
  have Qs1 := Lib.hid (Qs1.lower (Nat.zero_le _))
  go_wp2_with (go_at_call 11; fail)
  obtain ⟨W2, hW2⟩ : ∃ x, x = (w2.alloc (.cells #[.slice xs0 xs1 xs2, .slice xs3 xs4 xs5] 29)) := ⟨_, rfl⟩
  have HBn : Below w2.heap.size w2 W2 := by rw [hW2]; exact below_alloc _ _
  have HBB : Hid (Below W1.heap.size W1 W2) := Lib.hid (HC.out.trans (HBn.mono HC.out.size))
  have Yr : Hid (W2.heap[w1.heap.size]? = some (.cells #[.slice xr0 xr1 xr2, .slice xr3 xr4 xr5] 29 (0, 0))) := Lib.hid ((HBB.out.block _ (lt_of_block Xr.out)).trans Xr.out)
  have SRr : Hid (RopeAt W2 0 (.agg #[.slice xr0 xr1 xr2, .slice xr3 xr4 xr5]) (A)) := Lib.hid ((Rr.out).grown HBB.out)
  have Ys : Hid (W2.heap[w2.heap.size]? = some (.cells #[.slice xs0 xs1 xs2, .slice xs3 xs4 xs5] 29 (0, 0))) := Lib.hid (by rw [hW2]; exact heap_alloc_new _ _)
  have SRs : Hid (RopeAt W2 0 (.agg #[.slice xs0 xs1 xs2, .slice xs3 xs4 xs5]) (B)) := Lib.hid (((Qs1.out)).grown HBn)
  have HTn : Hid (Below w.heap.size w W2) := Lib.hid (HT.out.trans (HBB.out.mono HT.out.size))
  rw [← hW2]
  clear hW2 HC HT HBn HBB Xr Rr
  have Xr := Yr
  have Xs := Ys
  have Rr := SRr
  have Rs := SRs
  have HT := HTn
  clear HTn Yr Ys SRr SRs
  have HC : Hid (Below W2.heap.size W2 W2) := Lib.hid (Below.refl _ _)
  refine (href.out _ (HP.out.grown (HT.out.trans (HC.out.mono HT.out.size)))).mono ?_
  rintro e w3 ⟨uv, rfl, Qv, hb⟩
  have HC2 : Hid (Below W2.heap.size W2 w3) := Lib.hid (HC.out.trans ((hb).mono HC.out.size))
  clear HC
  have HC := HC2
  clear HC2
  clear hb
  unfold rf
  obtain ⟨yv0, yv1, yv2, hvv⟩ := row_form Qv
  subst hvv
  have Qv := Lib.hid (RowV.lower Qv (Nat.zero_le _))
  go_wp2_with (go_at_call 11; fail)
  obtain ⟨W3, hW3⟩ : ∃ x, x = (w3.alloc (.cells #[.slice yv0 yv1 yv2] 34)) := ⟨_, rfl⟩
  have HBn : Below w3.heap.size w3 W3 := by rw [hW3]; exact below_alloc _ _
  have HBB : Hid (Below W2.heap.size W2 W3) := Lib.hid (HC.out.trans (HBn.mono HC.out.size))
  have Yr : Hid (W3.heap[w1.heap.size]? = some (.cells #[.slice xr0 xr1 xr2, .slice xr3 xr4 xr5] 29 (0, 0))) := Lib.hid ((HBB.out.block _ (lt_of_block Xr.out)).trans Xr.out)
  have Ys : Hid (W3.heap[w2.heap.size]? = some (.cells #[.slice xs0 xs1 xs2, .slice xs3 xs4 xs5] 29 (0, 0))) := Lib.hid ((HBB.out.block _ (lt_of_block Xs.out)).trans Xs.out)
  have SRr : Hid (RopeAt W3 0 (.agg #[.slice xr0 xr1 xr2, .slice xr3 xr4 xr5]) (A)) := Lib.hid ((Rr.out).grown HBB.out)
  have SRs : Hid (RopeAt W3 0 (.agg #[.slice xs0 xs1 xs2, .slice xs3 xs4 xs5]) (B)) := Lib.hid ((Rs.out).grown HBB.out)
  have Yv : Hid (W3.heap[w3.heap.size]? = some (.cells #[.slice yv0 yv1 yv2] 34 (0, 0))) := Lib.hid (by rw [hW3]; exact heap_alloc_new _ _)
  have SRv : Hid (RowS W3 0 (.slice yv0 yv1 yv2) (A)) := Lib.hid (RowV.grown ((Qv.out)) HBn)
  have HTn : Hid (Below w.heap.size w W3) := Lib.hid (HT.out.trans (HBB.out.mono HT.out.size))
  rw [← hW3]
  clear hW3 HC HT HBn HBB Xr Xs Rr Rs
  have Xr := Yr
  have Xs := Ys
  have Xv := Yv
  have Rr := SRr
  have Rs := SRs
  have Rv := SRv
  have HT := HTn
  clear HTn Yr Ys Yv SRr SRs SRv
  have HC : Hid (Below W3.heap.size W3 W3) := Lib.hid (Below.refl _ _)
  refine (href'.out _ (HQ.out.grown (HT.out.trans (HC.out.mono HT.out.size)))).mono ?_
  rintro e w4 ⟨uw, rfl, Qw, hb⟩
  have HC2 : Hid (Below W3.heap.size W3 w4) := Lib.hid (HC.out.trans ((hb).mono HC.out.size))
  clear HC
  have HC := HC2
  clear HC2
  clear hb
  unfold rf
  obtain ⟨yw0, yw1, yw2, hvw⟩ := row_form Qw
  subst hvw
  have Qw := Lib.hid (RowV.lower Qw (Nat.zero_le _))
  go_wp2_with fail
  obtain ⟨W4, hW4⟩ : ∃ x, x = (w4.alloc (.cells #[.slice yw0 yw1 yw2] 34)) := ⟨_, rfl⟩
  have HBn : Below w4.heap.size w4 W4 := by rw [hW4]; exact below_alloc _ _
  have HBB : Hid (Below W3.heap.size W3 W4) := Lib.hid (HC.out.trans (HBn.mono HC.out.size))
  have Yr : Hid (W4.heap[w1.heap.size]? = some (.cells #[.slice xr0 xr1 xr2, .slice xr3 xr4 xr5] 29 (0, 0))) := Lib.hid ((HBB.out.block _ (lt_of_block Xr.out)).trans Xr.out)
  have Ys : Hid (W4.heap[w2.heap.size]? = some (.cells #[.slice xs0 xs1 xs2, .slice xs3 xs4 xs5] 29 (0, 0))) := Lib.hid ((HBB.out.block _ (lt_of_block Xs.out)).trans Xs.out)
  have Yv : Hid (W4.heap[w3.heap.size]? = some (.cells #[.slice yv0 yv1 yv2] 34 (0, 0))) := Lib.hid ((HBB.out.block _ (lt_of_block Xv.out)).trans Xv.out)
  have SRr : Hid (RopeAt W4 0 (.agg #[.slice xr0 xr1 xr2, .slice xr3 xr4 xr5]) (A)) := Lib.hid ((Rr.out).grown HBB.out)
  have SRs : Hid (RopeAt W4 0 (.agg #[.slice xs0 xs1 xs2, .slice xs3 xs4 xs5]) (B)) := Lib.hid ((Rs.out).grown HBB.out)
  have SRv : Hid (RowS W4 0 (.slice yv0 yv1 yv2) (A)) := Lib.hid (RowV.grown (Rv.out) HBB.out)
  have Yw : Hid (W4.heap[w4.heap.size]? = some (.cells #[.slice yw0 yw1 yw2] 34 (0, 0))) := Lib.hid (by rw [hW4]; exact heap_alloc_new _ _)
  have SRw : Hid (RowS W4 0 (.slice yw0 yw1 yw2) (B)) := Lib.hid (RowV.grown ((Qw.out)) HBn)
  have HTn : Hid (Below w.heap.size w W4) := Lib.hid (HT.out.trans (HBB.out.mono HT.out.size))
  rw [← hW4]
  clear hW4 HC HT HBn HBB Xr Xs Xv Rr Rs Rv
  have Xr := Yr
  have Xs := Ys
  have Xv := Yv
  have Xw := Yw
  have Rr := SRr
  have Rs := SRs
  have Rv := SRv
  have Rw := SRw
  have HT := HTn
  clear HTn Yr Ys Yv Yw SRr SRs SRv SRw
  have HC : Hid (Below W4.heap.size W4 W4) := Lib.hid (Below.refl _ _)
  obtain ⟨q, hq⟩ : ∃ q, q = decide (A.flatten = B.flatten) := ⟨_, rfl⟩
  have hq2 : Hid (decide (B.flatten = A.flatten) = q) := Lib.hid (by rw [hq]; simp only [eq_comm])
  have hq3 : ((strB A.flatten).toList == (strB B.flatten).toList) = q := by rw [strB_beq, hq]
  have HQ3 := Lib.hid hq.symm
  clear hq
  have HAL : Hid (A.length ≤ 1024 ∧ A.flatten.length ≤ 65536 ∧ B.length ≤ 1024 ∧ B.flatten.length ≤ 65536) := Lib.hid (by rw [HA.out, HBq.out]; exact ⟨newP_len _, newP_size _, newP_len _, newP_size _⟩)
  have hld : ∀ W'', Below W4.heap.size W4 W'' → W''.cell? ⟨w1.heap.size, 0, none⟩ = some (.slice xr0 xr1 xr2) ∧ W''.cell? ⟨w1.heap.size, 1, none⟩ = some (.slice xr3 xr4 xr5) ∧ W''.cell? ⟨w2.heap.size, 0, none⟩ = some (.slice xs0 xs1 xs2) ∧ W''.cell? ⟨w2.heap.size, 1, none⟩ = some (.slice xs3 xs4 xs5) ∧ W''.cell? ⟨w3.heap.size, 0, none⟩ = some (.slice yv0 yv1 yv2) ∧ W''.cell? ⟨w4.heap.size, 0, none⟩ = some (.slice yw0 yw1 yw2) := fun W'' hb => ⟨cells_cell ((hb.block _ (lt_of_block Xr.out)).trans Xr.out) rfl, cells_cell ((hb.block _ (lt_of_block Xr.out)).trans Xr.out) rfl, cells_cell ((hb.block _ (lt_of_block Xs.out)).trans Xs.out) rfl, cells_cell ((hb.block _ (lt_of_block Xs.out)).trans Xs.out) rfl, cells_cell ((hb.block _ (lt_of_block Xv.out)).trans Xv.out) rfl, cells_cell ((hb.block _ (lt_of_block Xw.out)).trans Xw.out) rfl⟩
  refine wp_region_phases (fun W'' => Below W4.heap.size W4 W'') 27 [([0, 1], [2, 3]), ([4, 5], [6, 7, 8]), ([9, 10, 12, 14], [11, 13, 15, 16, 17, 18, 19]), ([20, 21, 23, 24], [22, 25, 26])] (by kernel_rfl) (by kernel_rfl) (fun _ _ _ d _ h => by cases d <;> exact h) (Below.refl _ _).drew ?_
  have HS1 : Hid (Below W4.heap.size W4 W4.drew) := Lib.hid (Below.refl _ _).drew
  unfold wpPhases
  simp only [List.map_cons, List.map_nil, List.getD_cons_zero, List.getD_cons_succ, List.drop_succ_cons, List.drop_zero]
  refine takes_move (.tmp 6) (.int .i64 ep) rfl rfl rfl ?_
  simp only [Act.put, List.setIfInBounds_toArray, List.set_cons_zero, List.set_cons_succ]
  refine takes_move (.tmp 10) (.int .i64 ep) rfl rfl rfl ?_
  simp only [Act.put, List.setIfInBounds_toArray, List.set_cons_zero, List.set_cons_succ]
  unfold wpTakes
  refine mids_by (.bool false) rfl (by go_simp) HS1.out ?_
  simp only [Act.put, List.setIfInBounds_toArray, List.set_cons_zero, List.set_cons_succ]
  refine mids_by (.bool false) rfl (by go_simp) HS1.out ?_
  simp only [Act.put, List.setIfInBounds_toArray, List.set_cons_zero, List.set_cons_succ]
  unfold wpMids
  refine ⟨fun W'' => Below W4.heap.size W4 W'', fun _ h => h, HS1.out, ?_⟩
  unfold wpPhases
  simp only [List.map_cons, List.map_nil, List.getD_cons_zero, List.getD_cons_succ, List.drop_succ_cons, List.drop_zero]
  refine takes_move (.tmp 8) (.int .i64 eq) rfl rfl rfl ?_
  simp only [Act.put, List.setIfInBounds_toArray, List.set_cons_zero, List.set_cons_succ]
  refine takes_move (.tmp 12) (.int .i64 eq) rfl rfl rfl ?_
  simp only [Act.put, List.setIfInBounds_toArray, List.set_cons_zero, List.set_cons_succ]
  unfold wpTakes
  refine mids_by (.bool false) rfl (by go_simp) HS1.out ?_
  simp only [Act.put, List.setIfInBounds_toArray, List.set_cons_zero, List.set_cons_succ]
  refine mids_by (.bool false) rfl (by go_simp) HS1.out ?_
  simp only [Act.put, List.setIfInBounds_toArray, List.set_cons_zero, List.set_cons_succ]
  refine mids_by (.bool false) rfl (by go_simp) HS1.out ?_
  simp only [Act.put, List.setIfInBounds_toArray, List.set_cons_zero, List.set_cons_succ]
  unfold wpMids
  refine ⟨fun W'' => Below W4.heap.size W4 W'', fun _ h => h, HS1.out, ?_⟩
  unfold wpPhases
  simp only [List.map_cons, List.map_nil, List.getD_cons_zero, List.getD_cons_succ, List.drop_succ_cons, List.drop_zero]
  refine takes_by (.agg #[.slice xr0 xr1 xr2, .slice xr3 xr4 xr5]) rfl (fun W'' hS => by obtain ⟨h0, h1, h2, h3, h4, h5⟩ := hld W'' hS; go_simp) ?_
  simp only [Act.put, List.setIfInBounds_toArray, List.set_cons_zero, List.set_cons_succ]
  refine takes_by (.agg #[.slice xs0 xs1 xs2, .slice xs3 xs4 xs5]) rfl (fun W'' hS => by obtain ⟨h0, h1, h2, h3, h4, h5⟩ := hld W'' hS; go_simp) ?_
  simp only [Act.put, List.setIfInBounds_toArray, List.set_cons_zero, List.set_cons_succ]
  refine takes_by (.agg #[.slice yv0 yv1 yv2]) rfl (fun W'' hS => by obtain ⟨h0, h1, h2, h3, h4, h5⟩ := hld W'' hS; go_simp) ?_
  simp only [Act.put, List.setIfInBounds_toArray, List.set_cons_zero, List.set_cons_succ]
  refine takes_by (.agg #[.slice yw0 yw1 yw2]) rfl (fun W'' hS => by obtain ⟨h0, h1, h2, h3, h4, h5⟩ := hld W'' hS; go_simp) ?_
  simp only [Act.put, List.setIfInBounds_toArray, List.set_cons_zero, List.set_cons_succ]
  unfold wpTakes
  refine mids_call 18 #[.agg #[.slice xr0 xr1 xr2, .slice xr3 xr4 xr5], .agg #[.slice xs0 xs1 xs2, .slice xs3 xs4 xs5]] rfl (by go_simp) (equal_is (Rr.out.grown HS1.out) (Rs.out.grown HS1.out) q HQ3.out) ?_
  rintro e m1 ⟨rfl, hb⟩
  have HS2 : Hid (Below W4.heap.size W4 m1) := Lib.hid (HS1.out.trans (hb.mono HS1.out.size))
  refine ⟨_, rfl, HS2.out, ?_⟩
  clear hb HS1
  have HS1 := HS2
  clear HS2
  simp only [Act.put, List.setIfInBounds_toArray, List.set_cons_zero, List.set_cons_succ]
  refine mids_call 19 #[.agg #[.slice yv0 yv1 yv2]] rfl (by go_simp) (refText_any ((RowV.src Rv.out).grown HS1.out) (by have := HAL.out; omega) (by have := HAL.out; omega)) ?_
  rintro e m2 ⟨rfl, hb⟩
  have HS2 : Hid (Below W4.heap.size W4 m2) := Lib.hid (HS1.out.trans (hb.mono HS1.out.size))
  refine ⟨_, rfl, HS2.out, ?_⟩
  clear hb HS1
  have HS1 := HS2
  clear HS2
  simp only [Act.put, List.setIfInBounds_toArray, List.set_cons_zero, List.set_cons_succ]
  refine mids_call 19 #[.agg #[.slice yw0 yw1 yw2]] rfl (by go_simp) (refText_any ((RowV.src Rw.out).grown HS1.out) (by have := HAL.out; omega) (by have := HAL.out; omega)) ?_
  rintro e m3 ⟨rfl, hb⟩
  have HS2 : Hid (Below W4.heap.size W4 m3) := Lib.hid (HS1.out.trans (hb.mono HS1.out.size))
  refine ⟨_, rfl, HS2.out, ?_⟩
  clear hb HS1
  have HS1 := HS2
  clear HS2
  simp only [Act.put, List.setIfInBounds_toArray, List.set_cons_zero, List.set_cons_succ]
  refine mids_by (.bool q) rfl (by go_simp) HS1.out ?_
  simp only [Act.put, List.setIfInBounds_toArray, List.set_cons_zero, List.set_cons_succ]
  refine mids_by (.bool false) rfl (by go_simp) HS1.out ?_
  simp only [Act.put, List.setIfInBounds_toArray, List.set_cons_zero, List.set_cons_succ]
  refine mids_by (.bool false) rfl (by go_simp) HS1.out ?_
  simp only [Act.put, List.setIfInBounds_toArray, List.set_cons_zero, List.set_cons_succ]
  refine mids_by (.bool false) rfl (by go_simp) HS1.out ?_
  simp only [Act.put, List.setIfInBounds_toArray, List.set_cons_zero, List.set_cons_succ]
  unfold wpMids
  refine ⟨fun W'' => Below W4.heap.size W4 W'', fun _ h => h, HS1.out, ?_⟩
  unfold wpPhases
  simp only [List.map_cons, List.map_nil, List.getD_cons_zero, List.getD_cons_succ, List.drop_succ_cons, List.drop_zero]
  refine takes_by (.agg #[.slice xs0 xs1 xs2, .slice xs3 xs4 xs5]) rfl (fun W'' hS => by obtain ⟨h0, h1, h2, h3, h4, h5⟩ := hld W'' hS; go_simp) ?_
  simp only [Act.put, List.setIfInBounds_toArray, List.set_cons_zero, List.set_cons_succ]
  refine takes_by (.agg #[.slice xr0 xr1 xr2, .slice xr3 xr4 xr5]) rfl (fun W'' hS => by obtain ⟨h0, h1, h2, h3, h4, h5⟩ := hld W'' hS; go_simp) ?_
  simp only [Act.put, List.setIfInBounds_toArray, List.set_cons_zero, List.set_cons_succ]
  refine takes_by (.agg #[.slice xr0 xr1 xr2, .slice xr3 xr4 xr5]) rfl (fun W'' hS => by obtain ⟨h0, h1, h2, h3, h4, h5⟩ := hld W'' hS; go_simp) ?_
  simp only [Act.put, List.setIfInBounds_toArray, List.set_cons_zero, List.set_cons_succ]
  refine takes_by (.agg #[.slice xs0 xs1 xs2, .slice xs3 xs4 xs5]) rfl (fun W'' hS => by obtain ⟨h0, h1, h2, h3, h4, h5⟩ := hld W'' hS; go_simp) ?_
  simp only [Act.put, List.setIfInBounds_toArray, List.set_cons_zero, List.set_cons_succ]
  unfold wpTakes
  refine mids_call 18 #[.agg #[.slice xs0 xs1 xs2, .slice xs3 xs4 xs5], .agg #[.slice xr0 xr1 xr2, .slice xr3 xr4 xr5]] rfl (by go_simp) (equal_is (Rs.out.grown HS1.out) (Rr.out.grown HS1.out) q hq2.out) ?_
  rintro e m4 ⟨rfl, hb⟩
  have HS2 : Hid (Below W4.heap.size W4 m4) := Lib.hid (HS1.out.trans (hb.mono HS1.out.size))
  refine ⟨_, rfl, HS2.out, ?_⟩
  clear hb HS1
  have HS1 := HS2
  clear HS2
  simp only [Act.put, List.setIfInBounds_toArray, List.set_cons_zero, List.set_cons_succ]
  refine mids_call 18 #[.agg #[.slice xr0 xr1 xr2, .slice xr3 xr4 xr5], .agg #[.slice xs0 xs1 xs2, .slice xs3 xs4 xs5]] rfl (by go_simp) (equal_is (Rr.out.grown HS1.out) (Rs.out.grown HS1.out) q HQ3.out) ?_
  rintro e m5 ⟨rfl, hb⟩
  have HS2 : Hid (Below W4.heap.size W4 m5) := Lib.hid (HS1.out.trans (hb.mono HS1.out.size))
  refine ⟨_, rfl, HS2.out, ?_⟩
  clear hb HS1
  have HS1 := HS2
  clear HS2
  simp only [Act.put, List.setIfInBounds_toArray, List.set_cons_zero, List.set_cons_succ]
  refine mids_by (.bool false) rfl (by go_simp) HS1.out ?_
  simp only [Act.put, List.setIfInBounds_toArray, List.set_cons_zero, List.set_cons_succ]
  unfold wpMids
  refine ⟨fun W'' => Below W4.heap.size W4 W'', fun _ h => h, HS1.out, ?_⟩
  unfold wpPhases
  clear hld hq3
  have HC := HS1
  clear HS1
  have kr0m5 : m5.cell? ⟨w1.heap.size, 0, none⟩ = some (.slice xr0 xr1 xr2) := cells_cell ((HC.out.block _ (lt_of_block Xr.out)).trans Xr.out) rfl
  have zr0m5 : m5.frozen? ⟨w1.heap.size, 0, none⟩ = false := cells_free ((HC.out.block _ (lt_of_block Xr.out)).trans Xr.out) _
  have kr1m5 : m5.cell? ⟨w1.heap.size, 1, none⟩ = some (.slice xr3 xr4 xr5) := cells_cell ((HC.out.block _ (lt_of_block Xr.out)).trans Xr.out) rfl
  have zr1m5 : m5.frozen? ⟨w1.heap.size, 1, none⟩ = false := cells_free ((HC.out.block _ (lt_of_block Xr.out)).trans Xr.out) _
  have lrm5 : w1.heap.size < m5.heap.size := lt_of_block ((HC.out.block _ (lt_of_block Xr.out)).trans Xr.out)
  have ks0m5 : m5.cell? ⟨w2.heap.size, 0, none⟩ = some (.slice xs0 xs1 xs2) := cells_cell ((HC.out.block _ (lt_of_block Xs.out)).trans Xs.out) rfl
  have zs0m5 : m5.frozen? ⟨w2.heap.size, 0, none⟩ = false := cells_free ((HC.out.block _ (lt_of_block Xs.out)).trans Xs.out) _
  have ks1m5 : m5.cell? ⟨w2.heap.size, 1, none⟩ = some (.slice xs3 xs4 xs5) := cells_cell ((HC.out.block _ (lt_of_block Xs.out)).trans Xs.out) rfl
  have zs1m5 : m5.frozen? ⟨w2.heap.size, 1, none⟩ = false := cells_free ((HC.out.block _ (lt_of_block Xs.out)).trans Xs.out) _
  have lsm5 : w2.heap.size < m5.heap.size := lt_of_block ((HC.out.block _ (lt_of_block Xs.out)).trans Xs.out)
  have kv0m5 : m5.cell? ⟨w3.heap.size, 0, none⟩ = some (.slice yv0 yv1 yv2) := cells_cell ((HC.out.block _ (lt_of_block Xv.out)).trans Xv.out) rfl
  have zv0m5 : m5.frozen? ⟨w3.heap.size, 0, none⟩ = false := cells_free ((HC.out.block _ (lt_of_block Xv.out)).trans Xv.out) _
  have lvm5 : w3.heap.size < m5.heap.size := lt_of_block ((HC.out.block _ (lt_of_block Xv.out)).trans Xv.out)
  have kw0m5 : m5.cell? ⟨w4.heap.size, 0, none⟩ = some (.slice yw0 yw1 yw2) := cells_cell ((HC.out.block _ (lt_of_block Xw.out)).trans Xw.out) rfl
  have zw0m5 : m5.frozen? ⟨w4.heap.size, 0, none⟩ = false := cells_free ((HC.out.block _ (lt_of_block Xw.out)).trans Xw.out) _
  have lwm5 : w4.heap.size < m5.heap.size := lt_of_block ((HC.out.block _ (lt_of_block Xw.out)).trans Xw.out)
  go_wp2_with (go_at_call 20; fail)
  refine (join_any (Rr.out.grown HC.out) (Rs.out.grown HC.out)).mono ?_
  rw [← HEJ.out]
  rintro e w5 ⟨vt, rfl, Qt, hb⟩
  have HC2 : Hid (Below W4.heap.size W4 w5) := Lib.hid (HC.out.trans ((hb).mono HC.out.size))
  clear HC
  have HC := HC2
  clear HC2
  clear hb
  obtain ⟨xt0, xt1, xt2, xt3, xt4, xt5, hvt⟩ := Qt.shape
  subst hvt
  have Qt := Lib.hid (Qt.lower (Nat.zero_le _))
  have kv0w5 : w5.cell? ⟨w3.heap.size, 0, none⟩ = some (.slice yv0 yv1 yv2) := cells_cell ((HC.out.block _ (lt_of_block Xv.out)).trans Xv.out) rfl
  have zv0w5 : w5.frozen? ⟨w3.heap.size, 0, none⟩ = false := cells_free ((HC.out.block _ (lt_of_block Xv.out)).trans Xv.out) _
  have lvw5 : w3.heap.size < w5.heap.size := lt_of_block ((HC.out.block _ (lt_of_block Xv.out)).trans Xv.out)
  have kw0w5 : w5.cell? ⟨w4.heap.size, 0, none⟩ = some (.slice yw0 yw1 yw2) := cells_cell ((HC.out.block _ (lt_of_block Xw.out)).trans Xw.out) rfl
  have zw0w5 : w5.frozen? ⟨w4.heap.size, 0, none⟩ = false := cells_free ((HC.out.block _ (lt_of_block Xw.out)).trans Xw.out) _
  have lww5 : w4.heap.size < w5.heap.size := lt_of_block ((HC.out.block _ (lt_of_block Xw.out)).trans Xw.out)
  go_wp2_with (go_at_call 21; fail)
  obtain ⟨W5, hW5⟩ : ∃ x, x = (w5.alloc (.cells #[.slice xt0 xt1 xt2, .slice xt3 xt4 xt5] 29)) := ⟨_, rfl⟩
  have HBn : Below w5.heap.size w5 W5 := by rw [hW5]; exact below_alloc _ _
  have HBB : Hid (Below W4.heap.size W4 W5) := Lib.hid (HC.out.trans (HBn.mono HC.out.size))
  have Yr : Hid (W5.heap[w1.heap.size]? = some (.cells #[.slice xr0 xr1 xr2, .slice xr3 xr4 xr5] 29 (0, 0))) := Lib.hid ((HBB.out.block _ (lt_of_block Xr.out)).trans Xr.out)
  have Ys : Hid (W5.heap[w2.heap.size]? = some (.cells #[.slice xs0 xs1 xs2, .slice xs3 xs4 xs5] 29 (0, 0))) := Lib.hid ((HBB.out.block _ (lt_of_block Xs.out)).trans Xs.out)
  have Yv : Hid (W5.heap[w3.heap.size]? = some (.cells #[.slice yv0 yv1 yv2] 34 (0, 0))) := Lib.hid ((HBB.out.block _ (lt_of_block Xv.out)).trans Xv.out)
  have Yw : Hid (W5.heap[w4.heap.size]? = some (.cells #[.slice yw0 yw1 yw2] 34 (0, 0))) := Lib.hid ((HBB.out.block _ (lt_of_block Xw.out)).trans Xw.out)
  have SRr : Hid (RopeAt W5 0 (.agg #[.slice xr0 xr1 xr2, .slice xr3 xr4 xr5]) (A)) := Lib.hid ((Rr.out).grown HBB.out)
  have SRs : Hid (RopeAt W5 0 (.agg #[.slice xs0 xs1 xs2, .slice xs3 xs4 xs5]) (B)) := Lib.hid ((Rs.out).grown HBB.out)
  have SRv : Hid (RowS W5 0 (.slice yv0 yv1 yv2) (A)) := Lib.hid (RowV.grown (Rv.out) HBB.out)
  have SRw : Hid (RowS W5 0 (.slice yw0 yw1 yw2) (B)) := Lib.hid (RowV.grown (Rw.out) HBB.out)
  have Yt : Hid (W5.heap[w5.heap.size]? = some (.cells #[.slice xt0 xt1 xt2, .slice xt3 xt4 xt5] 29 (0, 0))) := Lib.hid (by rw [hW5]; exact heap_alloc_new _ _)
  have SRt : Hid (RopeAt W5 0 (.agg #[.slice xt0 xt1 xt2, .slice xt3 xt4 xt5]) (newP (A ++ B))) := Lib.hid (((Qt.out)).grown HBn)
  have HTn : Hid (Below w.heap.size w W5) := Lib.hid (HT.out.trans (HBB.out.mono HT.out.size))
  rw [← hW5]
  clear hW5 HC HT HBn HBB Xr Xs Xv Xw Rr Rs Rv Rw
  have Xr := Yr
  have Xs := Ys
  have Xv := Yv
  have Xw := Yw
  have Xt := Yt
  have Rr := SRr
  have Rs := SRs
  have Rv := SRv
  have Rw := SRw
  have Rt := SRt
  have HT := HTn
  clear HTn Yr Ys Yv Yw Yt SRr SRs SRv SRw SRt
  have HC : Hid (Below W5.heap.size W5 W5) := Lib.hid (Below.refl _ _)
  refine (refJoin_any ((RowV.src Rv.out).grown HC.out) ((RowV.src Rw.out).grown HC.out) HAL.out.1 HAL.out.2.2.1 HAL.out.2.1 HAL.out.2.2.2).mono ?_
  rw [← HEJ.out]
  rintro e w6 ⟨ux, rfl, Qx, hb⟩
  have HC2 : Hid (Below W5.heap.size W5 w6) := Lib.hid (HC.out.trans ((hb).mono HC.out.size))
  clear HC
  have HC := HC2
  clear HC2
  clear hb
  unfold rf
  obtain ⟨yx0, yx1, yx2, hvx⟩ := row_form Qx
  subst hvx
  have Qx := Lib.hid (RowV.lower Qx (Nat.zero_le _))
  have kt0w6 : w6.cell? ⟨w5.heap.size, 0, none⟩ = some (.slice xt0 xt1 xt2) := cells_cell ((HC.out.block _ (lt_of_block Xt.out)).trans Xt.out) rfl
  have zt0w6 : w6.frozen? ⟨w5.heap.size, 0, none⟩ = false := cells_free ((HC.out.block _ (lt_of_block Xt.out)).trans Xt.out) _
  have kt1w6 : w6.cell? ⟨w5.heap.size, 1, none⟩ = some (.slice xt3 xt4 xt5) := cells_cell ((HC.out.block _ (lt_of_block Xt.out)).trans Xt.out) rfl
  have zt1w6 : w6.frozen? ⟨w5.heap.size, 1, none⟩ = false := cells_free ((HC.out.block _ (lt_of_block Xt.out)).trans Xt.out) _
  have ltw6 : w5.heap.size < w6.heap.size := lt_of_block ((HC.out.block _ (lt_of_block Xt.out)).trans Xt.out)
  go_wp2_with (go_at_call 12; fail)
  obtain ⟨W6, hW6⟩ : ∃ x, x = (w6.alloc (.cells #[.slice yx0 yx1 yx2] 34)) := ⟨_, rfl⟩
  have HBn : Below w6.heap.size w6 W6 := by rw [hW6]; exact below_alloc _ _
  have HBB : Hid (Below W5.heap.size W5 W6) := Lib.hid (HC.out.trans (HBn.mono HC.out.size))
  have Yr : Hid (W6.heap[w1.heap.size]? = some (.cells #[.slice xr0 xr1 xr2, .slice xr3 xr4 xr5] 29 (0, 0))) := Lib.hid ((HBB.out.block _ (lt_of_block Xr.out)).trans Xr.out)
  have Ys : Hid (W6.heap[w2.heap.size]? = some (.cells #[.slice xs0 xs1 xs2, .slice xs3 xs4 xs5] 29 (0, 0))) := Lib.hid ((HBB.out.block _ (lt_of_block Xs.out)).trans Xs.out)
  have Yv : Hid (W6.heap[w3.heap.size]? = some (.cells #[.slice yv0 yv1 yv2] 34 (0, 0))) := Lib.hid ((HBB.out.block _ (lt_of_block Xv.out)).trans Xv.out)
  have Yw : Hid (W6.heap[w4.heap.size]? = some (.cells #[.slice yw0 yw1 yw2] 34 (0, 0))) := Lib.hid ((HBB.out.block _ (lt_of_block Xw.out)).trans Xw.out)
  have Yt : Hid (W6.heap[w5.heap.size]? = some (.cells #[.slice xt0 xt1 xt2, .slice xt3 xt4 xt5] 29 (0, 0))) := Lib.hid ((HBB.out.block _ (lt_of_block Xt.out)).trans Xt.out)
  have SRr : Hid (RopeAt W6 0 (.agg #[.slice xr0 xr1 xr2, .slice xr3 xr4 xr5]) (A)) := Lib.hid ((Rr.out).grown HBB.out)
  have SRs : Hid (RopeAt W6 0 (.agg #[.slice xs0 xs1 xs2, .slice xs3 xs4 xs5]) (B)) := Lib.hid ((Rs.out).grown HBB.out)
  have SRv : Hid (RowS W6 0 (.slice yv0 yv1 yv2) (A)) := Lib.hid (RowV.grown (Rv.out) HBB.out)
  have SRw : Hid (RowS W6 0 (.slice yw0 yw1 yw2) (B)) := Lib.hid (RowV.grown (Rw.out) HBB.out)
  have SRt : Hid (RopeAt W6 0 (.agg #[.slice xt0 xt1 xt2, .slice xt3 xt4 xt5]) (newP (A ++ B))) := Lib.hid ((Rt.out).grown HBB.out)
  have Yx : Hid (W6.heap[w6.heap.size]? = some (.cells #[.slice yx0 yx1 yx2] 34 (0, 0))) := Lib.hid (by rw [hW6]; exact heap_alloc_new _ _)
  have SRx : Hid (RowS W6 0 (.slice yx0 yx1 yx2) (newP (A ++ B))) := Lib.hid (RowV.grown ((Qx.out)) HBn)
  have HTn : Hid (Below w.heap.size w W6) := Lib.hid (HT.out.trans (HBB.out.mono HT.out.size))
  rw [← hW6]
  clear hW6 HC HT HBn HBB Xr Xs Xv Xw Xt Rr Rs Rv Rw Rt
  have Xr := Yr
  have Xs := Ys
  have Xv := Yv
  have Xw := Yw
  have Xt := Yt
  have Xx := Yx
  have Rr := SRr
  have Rs := SRs
  have Rv := SRv
  have Rw := SRw
  have Rt := SRt
  have Rx := SRx
  have HT := HTn
  clear HTn Yr Ys Yv Yw Yt Yx SRr SRs SRv SRw SRt SRx
  have HC : Hid (Below W6.heap.size W6 W6) := Lib.hid (Below.refl _ _)
  refine (lawParts_any (Rt.out.grown HC.out)).mono ?_
  rintro e w7 ⟨ug, rfl, Qg, hb⟩
  have HC2 : Hid (Below W6.heap.size W6 w7) := Lib.hid (HC.out.trans ((hb).mono HC.out.size))
  clear HC
  have HC := HC2
  clear HC2
  clear hb
  unfold rf
  obtain ⟨yg0, yg1, yg2, hvg⟩ := row_form Qg
  subst hvg
  have Qg := Lib.hid (RowV.lower Qg (Nat.zero_le _))
  have kx0w7 : w7.cell? ⟨w6.heap.size, 0, none⟩ = some (.slice yx0 yx1 yx2) := cells_cell ((HC.out.block _ (lt_of_block Xx.out)).trans Xx.out) rfl
  have zx0w7 : w7.frozen? ⟨w6.heap.size, 0, none⟩ = false := cells_free ((HC.out.block _ (lt_of_block Xx.out)).trans Xx.out) _
  have lxw7 : w6.heap.size < w7.heap.size := lt_of_block ((HC.out.block _ (lt_of_block Xx.out)).trans Xx.out)
  go_wp2_with (go_at_call 13; fail)
  obtain ⟨W7, hW7⟩ : ∃ x, x = (w7.alloc (.cells #[.slice yg0 yg1 yg2] 34)) := ⟨_, rfl⟩
  have HBn : Below w7.heap.size w7 W7 := by rw [hW7]; exact below_alloc _ _
  have HBB : Hid (Below W6.heap.size W6 W7) := Lib.hid (HC.out.trans (HBn.mono HC.out.size))
  have Yr : Hid (W7.heap[w1.heap.size]? = some (.cells #[.slice xr0 xr1 xr2, .slice xr3 xr4 xr5] 29 (0, 0))) := Lib.hid ((HBB.out.block _ (lt_of_block Xr.out)).trans Xr.out)
  have Ys : Hid (W7.heap[w2.heap.size]? = some (.cells #[.slice xs0 xs1 xs2, .slice xs3 xs4 xs5] 29 (0, 0))) := Lib.hid ((HBB.out.block _ (lt_of_block Xs.out)).trans Xs.out)
  have Yv : Hid (W7.heap[w3.heap.size]? = some (.cells #[.slice yv0 yv1 yv2] 34 (0, 0))) := Lib.hid ((HBB.out.block _ (lt_of_block Xv.out)).trans Xv.out)
  have Yw : Hid (W7.heap[w4.heap.size]? = some (.cells #[.slice yw0 yw1 yw2] 34 (0, 0))) := Lib.hid ((HBB.out.block _ (lt_of_block Xw.out)).trans Xw.out)
  have Yt : Hid (W7.heap[w5.heap.size]? = some (.cells #[.slice xt0 xt1 xt2, .slice xt3 xt4 xt5] 29 (0, 0))) := Lib.hid ((HBB.out.block _ (lt_of_block Xt.out)).trans Xt.out)
  have Yx : Hid (W7.heap[w6.heap.size]? = some (.cells #[.slice yx0 yx1 yx2] 34 (0, 0))) := Lib.hid ((HBB.out.block _ (lt_of_block Xx.out)).trans Xx.out)
  have SRr : Hid (RopeAt W7 0 (.agg #[.slice xr0 xr1 xr2, .slice xr3 xr4 xr5]) (A)) := Lib.hid ((Rr.out).grown HBB.out)
  have SRs : Hid (RopeAt W7 0 (.agg #[.slice xs0 xs1 xs2, .slice xs3 xs4 xs5]) (B)) := Lib.hid ((Rs.out).grown HBB.out)
  have SRv : Hid (RowS W7 0 (.slice yv0 yv1 yv2) (A)) := Lib.hid (RowV.grown (Rv.out) HBB.out)
  have SRw : Hid (RowS W7 0 (.slice yw0 yw1 yw2) (B)) := Lib.hid (RowV.grown (Rw.out) HBB.out)
  have SRt : Hid (RopeAt W7 0 (.agg #[.slice xt0 xt1 xt2, .slice xt3 xt4 xt5]) (newP (A ++ B))) := Lib.hid ((Rt.out).grown HBB.out)
  have SRx : Hid (RowS W7 0 (.slice yx0 yx1 yx2) (newP (A ++ B))) := Lib.hid (RowV.grown (Rx.out) HBB.out)
  have Yg : Hid (W7.heap[w7.heap.size]? = some (.cells #[.slice yg0 yg1 yg2] 34 (0, 0))) := Lib.hid (by rw [hW7]; exact heap_alloc_new _ _)
  have SRg : Hid (RowS W7 0 (.slice yg0 yg1 yg2) (newP (A ++ B))) := Lib.hid (RowV.grown ((Qg.out)) HBn)
  have HTn : Hid (Below w.heap.size w W7) := Lib.hid (HT.out.trans (HBB.out.mono HT.out.size))
  rw [← hW7]
  clear hW7 HC HT HBn HBB Xr Xs Xv Xw Xt Xx Rr Rs Rv Rw Rt Rx
  have Xr := Yr
  have Xs := Ys
  have Xv := Yv
  have Xw := Yw
  have Xt := Yt
  have Xx := Yx
  have Xg := Yg
  have Rr := SRr
  have Rs := SRs
  have Rv := SRv
  have Rw := SRw
  have Rt := SRt
  have Rx := SRx
  have Rg := SRg
  have HT := HTn
  clear HTn Yr Ys Yv Yw Yt Yx Yg SRr SRs SRv SRw SRt SRx SRg
  have HC : Hid (Below W7.heap.size W7 W7) := Lib.hid (Below.refl _ _)
  refine (refSame_any ((RowV.src Rg.out).grown HC.out) ((RowV.src Rx.out).grown HC.out) (by have := newP_len (A ++ B); omega)).mono ?_
  rintro e w8 ⟨rfl, hb⟩
  have HC2 : Hid (Below W7.heap.size W7 w8) := Lib.hid (HC.out.trans ((hb).mono HC.out.size))
  clear HC
  have HC := HC2
  clear HC2
  clear hb
  go_wp2_with (go_at_call 9; fail)
  refine (known_any _).mono ?_
  rintro e w9 ⟨rfl, hb⟩
  have HC2 : Hid (Below W7.heap.size W7 w9) := Lib.hid (HC.out.trans ((hb).mono HC.out.size))
  clear HC
  have HC := HC2
  clear HC2
  clear hb
  go_wp2_with fail
  go_ret
  exact ⟨rfl, (HT.out.trans (HC.out.mono HT.out.size))⟩

theorem ropeJoins_walk (a : Option Addr) (len cap : Nat) (b : Option Addr) (len2 cap2 : Nat) (w : World) (h : StrsIn w a len cap) (h' : StrsIn w b len2 cap2) :
    Calls Try.prog 6 #[.slice a len cap, .slice b len2 cap2] w fun e w' => e = .returned (.bool true) ∧ Below w.heap.size w w' := by
  obtain ⟨Ss, _, h1⟩ := h
  obtain ⟨Rs, _, h2⟩ := h'
  exact ropeJoins_walk0 h1 h2
end Go.Proofs.Ytkdbkamjaaehfaa
