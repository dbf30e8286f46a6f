/- Where that succeeds. -/
import Derived.Test.YtcjeckjmoponkaaGreatDoorUEig
namespace Go.Proofs.YtcjeckjmoponkaaGreatDoor
open Go.RowKit Go.Sort
set_option linter.unusedVariables false
set_option linter.unusedSimpArgs false
section
variable {w0 w w' : World} {O OL OD : Nat → Prop} {p t g c d r rc : Nat} {l : Ll} {x : Px} {G P : Nat}
theorem namC_at {T : Sl.Tab} {n : Nat} {q : Sl.Pl} (h : T[n]? = some q) (ho : q.o = true) : namC T ((n : Nat) : Int) = (((n : Nat) : Int), ((q.g : Nat) : Int)) := by
  unfold namC
  simp [h, ho]
theorem namC_no {T : Sl.Tab} {N : Int} (h : Sl.NoN T N) : namC T N = (0, 0) := by
  unfold namC
  by_cases h0 : 0 ≤ N
  · rw [if_pos h0]
    cases hq : T[N.toNat]? with
    | none => rfl
    | some q =>
      have := h N.toNat q (by omega) hq
      simp [this]
  · rw [if_neg h0]
theorem slAt_any {T : Sl.Tab} (N : Int) : ∃ code, ∀ w : World, Sl.TAt w t g c T → Calls Tryz.prog 72 #[.pointer (some ⟨t, 0, none⟩), .int .i64 N] w fun e w' => e = .returned (.tuple #[.agg #[.int .i64 (namC T N).1, .int .i64 (namC T N).2], .int .i64 code]) ∧ Below w.heap.size w w' := by
  rcases Sl.n_cases T N with ⟨n, gg, v, rfl, hp⟩ | hn
  · rw [namC_at hp rfl]
    exact ⟨0, fun w h => (Sl.slAt_yes h hp).mono fun e w' q => ⟨q.1, q.2.below⟩⟩
  · rw [namC_no hn]
    exact ⟨9, fun w h => (Sl.slAt_no h hn).mono fun e w' q => ⟨q.1, q.2.below⟩⟩
set_option maxRecDepth 100000 in
set_option maxHeartbeats 1600000 in
theorem poWhere_ok (h : UB w0 w O p t g c d r rc l OL OD x G P) {i : Int} (hc : (whC x.z i).2 = 0) : Calls Tryz.prog 25 #[.pointer (some ⟨p, 0, none⟩), .int .i64 i] w fun e w' => e = .returned (.tuple #[.agg #[.int .i64 (wheC x i).1.1, .int .i64 (wheC x i).1.2], .int .i64 (wheC x i).2.1, .int .i64 0]) ∧ Below w.heap.size w w' := by
  have HWH : Hid (∀ V, UB w0 V O p t g c d r rc l OL OD x G P → Calls Tryz.prog 71 #[.pointer (some ⟨l.a, 0, none⟩), .int .i64 i] V fun e w' => e = .returned (.tuple #[.agg #[.int .i64 (whC x.z i).1.1, .int .i64 (whC x.z i).1.2], .int .i64 (whC x.z i).2]) ∧ Below V.heap.size V w') := Lib.hid (fun V hV => (pkWhere_any hV.hl i).mono (fun e w' q => ⟨q.1, q.2.below⟩))
  have hw : wheC x i = (namC x.T (whC x.z i).1.1, (whC x.z i).1.2, 0) := by unfold wheC; rw [if_neg (by simp [hc])]
  rw [hw]
  rw [hc] at HWH
  generalize (whC x.z i).1.1 = s1 at *
  generalize (whC x.z i).1.2 = s2 at *
  obtain ⟨code, hat⟩ := slAt_any (t := t) (g := g) (c := c) (T := x.T) s1
  have HAT := Lib.hid hat
  simp only
  generalize (namC x.T s1).1 = a1 at *
  generalize (namC x.T s1).2 = a2 at *
  clear hc hw hat
  obtain ⟨W, hW, hg, hs, hb0⟩ := alloc1 w (.cells #[.int .i64 0, .int .i64 0] 47)
  have HOL : Hid (∀ k, OL k → k < w.heap.size) := Lib.hid (fun k hk => (h.ol k hk).2.1)
  have H0 := Lib.hid h
  have HU := Lib.hid (h.grn hg)
  have HW := Lib.hid hW
  have HG := Lib.hid hg.below
  have HB := Lib.hid hb0
  clear h hg hs hb0 hW
  go_enter Tryz.func25, Tryz.ntmps25
  go_upto_region 1 with (fail)
  rw [HW.out]
  obtain ⟨b, hb⟩ : ∃ b, b = w.heap.size := ⟨_, rfl⟩
  rw [← hb]
  rw [← hb] at HB
  have Hb := Lib.hid hb
  clear hb HW
  have HP := Lib.hid (HU.out.parts)
  go_wp2_with (go_at_call 59; fail)
  refine HP.out.mono ?_
  rintro e w1 ⟨rfl, hg1⟩
  have HG1 := Lib.hid (HG.out.trans (hg1.below.mono HG.out.size))
  have HB1 := Lib.hid (grn_at hg1 HB.out)
  have hf1 := field_po1 w1
  have HU1 := Lib.hid (HU.out.grn hg1)
  have HC := Lib.hid (HWH.out w1 HU1.out)
  clear hg1
  go_wp2_with (go_at_call 71; fail)
  refine HC.out.mono ?_
  rintro e w2 ⟨rfl, hg2⟩
  obtain ⟨W3, hW3, hg3, _, hb3⟩ := alloc1 w2 (.cells #[.int .i64 s1, .int .i64 s2] 132)
  have HW3 := Lib.hid hW3
  have HB3 := Lib.hid ((hg3.below.block _ (lt_of_block ((hg2.block _ (lt_of_block HB1.out)).trans HB1.out))).trans ((hg2.block _ (lt_of_block HB1.out)).trans HB1.out))
  have HG3 := Lib.hid (HG1.out.trans ((hg2.trans (hg3.below.mono hg2.size)).mono HG1.out.size))
  have HU3 := Lib.hid ((HU1.out.grown hg2).grn hg3)
  have HX3 := Lib.hid hb3
  have HBN : Hid (b < w2.heap.size) := Lib.hid (lt_of_block ((hg2.block _ (lt_of_block HB1.out)).trans HB1.out))
  clear hW3 hg2 hg3 hb3 hf1
  go_upto_region 4 with (fail)
  rw [HW3.out]
  generalize w2.heap.size = b9 at *
  clear HW3 HU HU1 HP HC HB HB1 HG HG1 HWH H0
  have hp3 := HU3.out.hp
  have hx3 := HX3.out
  have HSZ : Hid (Below W3.heap.size W3 W3.drew) := Lib.hid (Below.refl _ _).drew
  refine wp_region_flags (fun W' => Below W3.heap.size W3 W') 12 [(true, 0), (true, 1), (true, 2), (true, 3), (true, 4), (true, 5)] [6, 7, 8, 9, 10, 11] [[], [0], [0, 1], [0, 1], [], [0, 1, 2, 4]]
    (fun bs aa V => ∃ Z30 Z23 Z31 Z32 Z9 : Value, aa = { tmps := #[.pointer (some ⟨p, 0, none⟩), .int .i64 i, undef, undef, .pointer (some ⟨b, 0, none⟩), .int .i64 0, .int .i64 0, .pointer (some ⟨b9, 0, none⟩), .int .i64 0, Z9, undef, .tuple #[.agg #[.int .i64 s1, .int .i64 s2], .int .i64 0], .pointer (some ⟨p, 0, none⟩), .agg #[.pointer (some ⟨t, 0, none⟩), .pointer (some ⟨l.a, 0, none⟩), .pointer (some ⟨d, 0, none⟩), .slice (some ⟨r, 0, none⟩) x.R.length rc], .pointer (some ⟨l.a, 0, none⟩), .int .i64 i, .tuple #[.agg #[.int .i64 s1, .int .i64 s2], .int .i64 0], .agg #[.int .i64 s1, .int .i64 s2], .int .i64 0, .int .i64 0, .bool false, undef, undef, Z23, .pointer (some ⟨p, 0, none⟩), .pointer (some ⟨p, 0, none⟩), .pointer (some ⟨p, 0, none⟩), .pointer (some ⟨t, 0, none⟩), .pointer (some ⟨b9, 0, none⟩), .int .i64 s1, Z30, Z31, Z32, undef, undef, undef], defers := [] } ∧ Below W3.heap.size W3 V ∧
      (bs.getD 0 false = true → Z30 = .tuple #[.agg #[.int .i64 a1, .int .i64 a2], .int .i64 code]) ∧ (bs.getD 1 false = true → Z23 = .tuple #[.agg #[.int .i64 a1, .int .i64 a2], .int .i64 code]) ∧ (bs.getD 2 false = true → Z31 = .agg #[.int .i64 a1, .int .i64 a2]) ∧ (bs.getD 3 false = true → Z32 = .int .i64 code) ∧
      (bs.getD 4 false = true → ∃ k, Z9 = .pointer (some ⟨k, 0, none⟩) ∧ W3.heap.size ≤ k ∧ V.heap[k]? = some (.cells (if bs.getD 5 false = true then #[.int .i64 a1, .int .i64 a2] else #[.int .i64 0, .int .i64 0]) 47 (0, 0))))
    (by kernel_rfl) (by kernel_rfl) (by kernel_rfl) (by kernel_rfl) (by kernel_rfl) (fun _ _ _ d _ h => by cases d <;> exact h) ?hstep ?hend ?hbegin
  case hbegin =>
    simp only [List.map_cons, List.map_nil, List.getD_cons_zero, List.getD_cons_succ, List.drop_succ_cons, List.drop_zero]
    refine mix_move (.tmp 0) (.pointer (some ⟨p, 0, none⟩)) rfl HSZ.out rfl rfl ?_
    simp only [Act.put, List.setIfInBounds_toArray, List.set_cons_zero, List.set_cons_succ]
    refine mix_take (.pointer (some ⟨p, 0, none⟩)) HSZ.out rfl (fun W' hS => by go_simp) ?_
    simp only [Act.put, List.setIfInBounds_toArray, List.set_cons_zero, List.set_cons_succ]
    refine mix_take (.pointer (some ⟨p, 0, none⟩)) HSZ.out rfl (fun W' hS => by go_simp) ?_
    simp only [Act.put, List.setIfInBounds_toArray, List.set_cons_zero, List.set_cons_succ]
    refine mix_take (.pointer (some ⟨t, 0, none⟩)) HSZ.out rfl (fun W' hS => by
      have l0 := cells_cell (o := 0) ((hS.block _ (lt_of_block hp3)).trans hp3) rfl
      go_simp) ?_
    simp only [Act.put, List.setIfInBounds_toArray, List.set_cons_zero, List.set_cons_succ]
    refine mix_take (.pointer (some ⟨b9, 0, none⟩)) HSZ.out rfl (fun W' hS => by go_simp) ?_
    simp only [Act.put, List.setIfInBounds_toArray, List.set_cons_zero, List.set_cons_succ]
    refine mix_take (.int .i64 s1) HSZ.out rfl (fun W' hS => by
      have l0 := cells_cell (o := 0) ((hS.block _ (lt_of_block hx3)).trans hx3) rfl
      go_simp) ?_
    simp only [Act.put, List.setIfInBounds_toArray, List.set_cons_zero, List.set_cons_succ]
    refine mix_nil ?_
    exact ⟨undef, undef, undef, undef, undef, rfl, HSZ.out, (fun h => by cases h), (fun h => by cases h), (fun h => by cases h), (fun h => by cases h), (fun h => by cases h)⟩
  case hstep =>
    intro bs j a' V hbs hcl hj hpre hJ
    obtain ⟨Z30, Z23, Z31, Z32, Z9, rfl, hb, h0, h1, h2, h3, h4⟩ := hJ
    obtain ⟨b0, b1, b2, b3, b4, b5, rfl⟩ : ∃ b0 b1 b2 b3 b4 b5, bs = [b0, b1, b2, b3, b4, b5] := by
      match bs, hbs with
      | [b0, b1, b2, b3, b4, b5], _ => exact ⟨b0, b1, b2, b3, b4, b5, rfl⟩
    simp only [List.getD_cons_zero, List.getD_cons_succ] at h0 h1 h2 h3 h4
    have hcl2 : b5 = true → b4 = true := by
      revert hcl; cases b0 <;> cases b1 <;> cases b2 <;> cases b3 <;> cases b4 <;> cases b5 <;> decide
    clear hcl hbs
    have keep4 : ∀ V', Below V.heap.size V V' → (b4 = true → ∃ k, Z9 = .pointer (some ⟨k, 0, none⟩) ∧ W3.heap.size ≤ k ∧ V'.heap[k]? = some (.cells (if b5 = true then #[.int .i64 a1, .int .i64 a2] else #[.int .i64 0, .int .i64 0]) 47 (0, 0))) := fun V' hb' h => by
      obtain ⟨k, e, hk, hk2⟩ := h4 h
      exact ⟨k, e, hk, (hb'.block _ (lt_of_block hk2)).trans hk2⟩
    match j, hj with
    | 0, hj =>
      simp at hj
      subst hj
      refine op_step rfl rfl (fun K hK => ?_)
      go_simp
      go_wp2_with (go_at_call 72; fail)
      refine (HAT.out V (HU3.out.grown hb).ht).mono ?_
      rintro e w3 ⟨rfl, hb3⟩
      refine hK _ _ ⟨hb.trans (hb3.mono hb.size), _, Z23, Z31, Z32, Z9, rfl, hb.trans (hb3.mono hb.size), (fun _ => rfl), (fun h => h1 h), (fun h => h2 h), (fun h => h3 h), (fun h => keep4 w3 hb3 h)⟩
    | 1, hj =>
      simp at hj
      subst hj
      have hb0 : b0 = true := by simpa using hpre
      obtain rfl := h0 hb0
      refine op_step rfl rfl (fun K hK => ?_)
      go_simp
      refine hK _ _ ⟨hb, _, _, Z31, Z32, Z9, rfl, hb, (fun _ => rfl), (fun _ => rfl), (fun h => h2 h), (fun h => h3 h), (fun h => h4 h)⟩
    | 2, hj =>
      simp at hj
      subst hj
      have hb0 : b0 = true ∧ b1 = true := by simpa using hpre
      obtain rfl := h0 hb0.1
      obtain rfl := h1 hb0.2
      refine op_step rfl rfl (fun K hK => ?_)
      go_simp
      refine hK _ _ ⟨hb, _, _, _, Z32, Z9, rfl, hb, (fun _ => rfl), (fun _ => rfl), (fun _ => rfl), (fun h => h3 h), (fun h => h4 h)⟩
    | 3, hj =>
      simp at hj
      subst hj
      have hb0 : b0 = true ∧ b1 = true := by simpa using hpre
      obtain rfl := h0 hb0.1
      obtain rfl := h1 hb0.2
      refine op_step rfl rfl (fun K hK => ?_)
      go_simp
      refine hK _ _ ⟨hb, _, _, Z31, _, Z9, rfl, hb, (fun _ => rfl), (fun _ => rfl), (fun h => h2 h), (fun _ => rfl), (fun h => h4 h)⟩
    | 4, hj =>
      simp at hj
      subst hj
      refine op_step rfl rfl (fun K hK => ?_)
      go_simp
      have hb3 := below_alloc V (.cells #[.int .i64 0, .int .i64 0] 47)
      refine hK _ _ ⟨hb.trans (hb3.mono hb.size), Z30, Z23, Z31, Z32, _, rfl, hb.trans (hb3.mono hb.size), (fun h => h0 h), (fun h => h1 h), (fun h => h2 h), (fun h => h3 h), (fun _ => ⟨_, rfl, hb.size, by
        have e5 : b5 = false := by
          cases h6 : b5 with
          | false => rfl
          | true => have := hcl2 h6; simp at this
        rw [e5]
        exact heap_alloc_new _ _⟩)⟩
    | 5, hj =>
      simp at hj
      subst hj
      have hb0 : b0 = true ∧ b1 = true ∧ b2 = true ∧ b4 = true := by simpa using hpre
      obtain rfl := h0 hb0.1
      obtain rfl := h1 hb0.2.1
      obtain rfl := h2 hb0.2.2.1
      obtain ⟨k, rfl, hk, hk2⟩ := h4 hb0.2.2.2
      rw [if_neg (by simp)] at hk2
      obtain ⟨f0, f1⟩ := two hk2
      have z0 := cells_free hk2 0
      have z1 := cells_free hk2 1
      have hkl := lt_of_block hk2
      have hy0 := set_two (A' := .int .i64 a1) (B' := .int .i64 a2) hk2
      have hff : Fr [k] V ((V.setCell ⟨k, 0, none⟩ (.int .i64 a1)).setCell ⟨k, 1, none⟩ (.int .i64 a2)) := (fr_setCell V ⟨k, 0, none⟩ _).trans' (fr_setCell _ ⟨k, 1, none⟩ _)
      have hb3 : Below W3.heap.size V _ := hff.below (fun q hq => by simp at hq; omega) hb.size
      refine op_step rfl rfl (fun K hK => ?_)
      go_simp
      refine hK _ _ ⟨hb.trans hb3, _, _, _, Z32, _, rfl, hb.trans hb3, (fun _ => rfl), (fun _ => rfl), (fun _ => rfl), (fun h => h3 h), (fun _ => ⟨k, rfl, hk, by simpa using hy0⟩)⟩
    | j + 6, hj => simp at hj
  case hend =>
    intro a' V hJ
    obtain ⟨Z30, Z23, Z31, Z32, Z9, rfl, hb, h0, h1, h2, h3, h4⟩ := hJ
    obtain rfl := h0 rfl
    obtain rfl := h1 rfl
    obtain rfl := h2 rfl
    obtain rfl := h3 rfl
    obtain ⟨k, rfl, hk, hk2⟩ := h4 rfl
    clear h0 h1 h2 h3 h4 hx3 hp3
    have hy0 : V.heap[k]? = some (.cells #[.int .i64 a1, .int .i64 a2] 47 (0, 0)) := by simpa using hk2
    have HY := Lib.hid hy0
    have HB4 := Lib.hid ((hb.block _ (lt_of_block HB3.out)).trans HB3.out)
    have HX4 := Lib.hid ((hb.block _ (lt_of_block HX3.out)).trans HX3.out)
    have HG4 := Lib.hid (HG3.out.trans (hb.mono HG3.out.size))
    have HLT : Hid (b < k ∧ b < b9 ∧ b < V.heap.size) := Lib.hid ⟨by have := lt_of_block HB3.out; omega, HBN.out, lt_of_block HB4.out⟩
    clear hk2 hb hk hy0 HSZ HU3 HB3 HX3 HG3
    simp only [List.drop_succ_cons, List.drop_zero]
    go_wp2_with fail
    refine wp_region_mix (fun W' => W'.heap[k]? = some (.cells #[.int .i64 a1, .int .i64 a2] 47 (0, 0)) ∧ W'.heap[b9]? = some (.cells #[.int .i64 s1, .int .i64 s2] 132 (0, 0))) 4 [(true, 0), (true, 1), (true, 2), (false, 3)] (by kernel_rfl) (by kernel_rfl) (fun _ _ _ d _ h => by cases d <;> exact h) ?_
    have HD : Hid (Below V.heap.size V V.drew) := Lib.hid ((Grn.refl V).drew 1).below
    have HQ : Hid (V.drew.heap[k]? = some (.cells #[.int .i64 a1, .int .i64 a2] 47 (0, 0)) ∧ V.drew.heap[b9]? = some (.cells #[.int .i64 s1, .int .i64 s2] 132 (0, 0))) := Lib.hid ⟨(HD.out.block _ (lt_of_block HY.out)).trans HY.out, (HD.out.block _ (lt_of_block HX4.out)).trans HX4.out⟩
    have HT := Lib.hid ((HD.out.block _ (lt_of_block HB4.out)).trans HB4.out)
    simp only [List.map_cons, List.map_nil, List.getD_cons_zero, List.getD_cons_succ, List.drop_succ_cons, List.drop_zero]
    generalize V.drew = V8 at *
    refine mix_take (.agg #[.int .i64 a1, .int .i64 a2]) HQ.out rfl (fun W' hS => by
      obtain ⟨l0, l1⟩ := two hS.1
      go_simp) ?_
    simp only [Act.put, List.setIfInBounds_toArray, List.set_cons_zero, List.set_cons_succ]
    refine mix_take (.pointer (some ⟨b9, 1, none⟩)) HQ.out rfl (fun W' hS => by go_simp) ?_
    simp only [Act.put, List.setIfInBounds_toArray, List.set_cons_zero, List.set_cons_succ]
    refine mix_take (.int .i64 s2) HQ.out rfl (fun W' hS => by
      obtain ⟨l0, l1⟩ := two hS.2
      go_simp) ?_
    simp only [Act.put, List.setIfInBounds_toArray, List.set_cons_zero, List.set_cons_succ]
    refine mix_step rfl (fun K1 hK => ?_)
    obtain ⟨f0, f1⟩ := two HT.out
    have z0 := cells_free HT.out 0
    have z1 := cells_free HT.out 1
    have hlt := lt_of_block HT.out
    go_simp
    have hy1 := set_two (A' := .int .i64 a1) (B' := .int .i64 a2) HT.out
    have hff : Fr [b] V8 ((V8.setCell ⟨b, 0, none⟩ (.int .i64 a1)).setCell ⟨b, 1, none⟩ (.int .i64 a2)) := (fr_setCell V8 ⟨b, 0, none⟩ _).trans' (fr_setCell _ ⟨b, 1, none⟩ _)
    generalize (V8.setCell ⟨b, 0, none⟩ (.int .i64 a1)).setCell ⟨b, 1, none⟩ (.int .i64 a2) = WF at *
    have HQ2 := Lib.hid (And.intro (hff.same HQ.out.1 (by have := HLT.out; simp; omega)) (hff.same HQ.out.2 (by have := HLT.out; simp; omega)))
    have HF : Hid (Below w.heap.size w WF) := Lib.hid ((HG4.out.trans (HD.out.mono HG4.out.size)).trans (hff.below (fun q hq => by simp at hq; rw [hq, Hb.out]; exact Nat.le_refl _) (by have := HG4.out.size; have := HD.out.size; omega)))
    obtain ⟨p0, p1⟩ := two hy1
    clear hff hy1 f0 f1 z0 z1 hlt
    refine hK _ _ HQ2.out ?_
    clear hK
    refine mix_nil ?_
    go_wp2_with fail
    refine bodyPost_ret (v := .tuple #[.agg #[.int .i64 a1, .int .i64 a2], .int .i64 s2, .int .i64 0]) (by simp [results, Tryz.results25, go_sem, p0, p1]) rfl ⟨rfl, HF.out⟩
end
section
variable {w0 w w' : World} {Bs : Nat → Prop} {p : Nat} {x x' : Px} {G P : Nat}
end
end Go.Proofs.YtcjeckjmoponkaaGreatDoor
