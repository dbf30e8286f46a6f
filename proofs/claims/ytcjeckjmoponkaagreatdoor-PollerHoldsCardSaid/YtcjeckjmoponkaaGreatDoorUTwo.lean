/- May a task wait. -/
import Derived.Test.YtcjeckjmoponkaaGreatDoorUOne
namespace Go.Proofs.YtcjeckjmoponkaaGreatDoor
open Go.RowKit Go.Sort
set_option linter.unusedVariables false
set_option linter.unusedSimpArgs false
section
variable {w0 w w' : World} {O : Nat → Prop} {p t g c d r rc : Nat} {l : Ll} {OL OD : Nat → Prop} {x : Px} {G P : Nat}
set_option maxRecDepth 100000 in
set_option maxHeartbeats 1600000 in
theorem poAllowed_any (h : UB w0 w O p t g c d r rc l OL OD x G P) {n : Nat} {D : Int} (hn : n < 128) (hD : D = 0 ∨ D = 1) : Calls Tryz.prog 73 #[.pointer (some ⟨p, 0, none⟩), .agg #[.int .i64 ((n : Nat) : Int), .int .i64 D]] w fun e w' => e = .returned (.int .i64 (if x.f (n * 2 + D.toNat) ≤ x.now then 12 else 0)) ∧ Below w.heap.size w w' := by
  have HD0 : Hid (∀ V, UB w0 V O p t g c d r rc l OL OD x G P → Calls Tryz.prog 131 #[.pointer (some ⟨d, 0, none⟩), .agg #[.int .i64 ((n : Nat) : Int), .int .i64 D]] V fun e w' => e = .returned (.tuple #[.bool (decide (x.f (n * 2 + D.toNat) ≤ x.now)), .int .i64 0]) ∧ Below V.heap.size V w') := Lib.hid (fun V hV => by
    rcases hD with rfl | rfl
    · exact (Dl.jPassed_yes hV.hd hn (r := 0) (by decide)).mono (fun e w' q => ⟨q.1, q.2.below⟩)
    · exact (Dl.jPassed_yes hV.hd hn (r := 1) (by decide)).mono (fun e w' q => ⟨q.1, q.2.below⟩))
  clear hn hD
  generalize hc : (if x.f (n * 2 + D.toNat) ≤ x.now then (12 : Int) else 0) = code
  have HC : Hid (code = if decide (x.f (n * 2 + D.toNat) ≤ x.now) = true then (12 : Int) else 0) := Lib.hid (by rw [← hc]; simp)
  generalize decide (x.f (n * 2 + D.toNat) ≤ x.now) = yes at *
  generalize ((n : Nat) : Int) = N at *
  clear hc
  obtain ⟨W, hW, hg, hs, hb0⟩ := alloc1 w (.cells #[.int .i64 N, .int .i64 D] 132)
  have HOL : Hid (∀ k, OL k → k < w.heap.size) := Lib.hid (fun k hk => (h.ol k hk).2.1)
  have HU := Lib.hid (h.grn hg)
  have HW := Lib.hid hW
  have HG := Lib.hid hg.below
  have HB := Lib.hid hb0
  clear h hg hs hb0 hW
  go_enter Tryz.func73, Tryz.ntmps73
  go_upto_region 1 with (fail)
  rw [HW.out]
  obtain ⟨b, hb⟩ : ∃ b, b = w.heap.size := ⟨_, rfl⟩
  rw [← hb]
  rw [← hb] at HB
  have Hb := Lib.hid hb
  clear hb HW
  have HP := Lib.hid HU.out.hp
  refine wp_region_mix (fun W' => W'.heap[p]? = some (.cells #[.pointer (some ⟨t, 0, none⟩), .pointer (some ⟨l.a, 0, none⟩), .pointer (some ⟨d, 0, none⟩), .slice (some ⟨r, 0, none⟩) x.R.length rc] 68 (0, 0)) ∧ W'.heap[b]? = some (.cells #[.int .i64 N, .int .i64 D] 132 (0, 0))) 10 [(true, 0), (true, 1), (true, 2), (true, 3), (true, 4), (false, 5), (true, 6), (true, 7), (true, 8), (true, 9)] (by kernel_rfl) (by kernel_rfl) (fun _ _ _ d _ h => by cases d <;> exact h) ?_
  have HD : Hid (Below W.heap.size W W.drew) := Lib.hid ((Grn.refl W).drew 1).below
  have HS : Hid (W.drew.heap[p]? = some (.cells #[.pointer (some ⟨t, 0, none⟩), .pointer (some ⟨l.a, 0, none⟩), .pointer (some ⟨d, 0, none⟩), .slice (some ⟨r, 0, none⟩) x.R.length rc] 68 (0, 0)) ∧ W.drew.heap[b]? = some (.cells #[.int .i64 N, .int .i64 D] 132 (0, 0))) := Lib.hid ⟨(HD.out.block _ (lt_of_block HP.out)).trans HP.out, (HD.out.block _ (lt_of_block HB.out)).trans HB.out⟩
  simp only [List.map_cons, List.map_nil, List.getD_cons_zero, List.getD_cons_succ, List.drop_succ_cons, List.drop_zero]
  generalize W.drew = V at *
  refine mix_move (.tmp 0) (.pointer (some ⟨p, 0, none⟩)) rfl HS.out rfl rfl ?_
  simp only [Act.put, List.setIfInBounds_toArray, List.set_cons_zero, List.set_cons_succ]
  refine mix_take (.pointer (some ⟨p, 0, none⟩)) HS.out rfl (fun W' hS => by go_simp) ?_
  simp only [Act.put, List.setIfInBounds_toArray, List.set_cons_zero, List.set_cons_succ]
  refine mix_take (.pointer (some ⟨p, 2, none⟩)) HS.out rfl (fun W' hS => by go_simp) ?_
  simp only [Act.put, List.setIfInBounds_toArray, List.set_cons_zero, List.set_cons_succ]
  refine mix_take (.pointer (some ⟨d, 0, none⟩)) HS.out rfl (fun W' hS => by
    have e1 := hS.1
    obtain ⟨l0, l1, l2, l3⟩ := four e1
    go_simp) ?_
  simp only [Act.put, List.setIfInBounds_toArray, List.set_cons_zero, List.set_cons_succ]
  refine mix_take (.agg #[(.int .i64 N), (.int .i64 D)]) HS.out rfl (fun W' hS => by
    have e1 := hS.2
    obtain ⟨l0, l1⟩ := two e1
    go_simp) ?_
  simp only [Act.put, List.setIfInBounds_toArray, List.set_cons_zero, List.set_cons_succ]
  have HU2 := Lib.hid (HU.out.grown HD.out)
  have HC2 := Lib.hid (HD0.out V HU2.out)
  refine mix_step rfl (fun K5 hK => ?_)
  go_simp
  go_wp2_with (go_at_call 131; fail)
  refine HC2.out.mono ?_
  rintro e w1 ⟨rfl, hb1⟩
  have HU3 := Lib.hid (HU2.out.grown hb1)
  have HB1 := Lib.hid (HG.out.trans ((HD.out.trans (hb1.mono HD.out.size)).mono HG.out.size))
  have HS1 := Lib.hid (And.intro HU3.out.hp ((hb1.block _ (lt_of_block HS.out.2)).trans HS.out.2))
  refine hK _ _ HS1.out ?_
  clear hK K5
  refine mix_move (.tmp 13) (.tuple #[(.bool yes), (.int .i64 0)]) rfl HS1.out rfl rfl ?_
  simp only [Act.put, List.setIfInBounds_toArray, List.set_cons_zero, List.set_cons_succ]
  refine mix_take (.bool yes) HS1.out rfl (fun W' hS => by go_simp) ?_
  simp only [Act.put, List.setIfInBounds_toArray, List.set_cons_zero, List.set_cons_succ]
  refine mix_take (.int .i64 0) HS1.out rfl (fun W' hS => by go_simp) ?_
  simp only [Act.put, List.setIfInBounds_toArray, List.set_cons_zero, List.set_cons_succ]
  refine mix_take (.bool yes) HS1.out rfl (fun W' hS => by go_simp) ?_
  simp only [Act.put, List.setIfInBounds_toArray, List.set_cons_zero, List.set_cons_succ]
  refine mix_nil ?_
  clear HS HS1 HU HU2 HU3 HD HC2 HB HG HP
  cases yes
  · go_wp2_with fail
    go_ret
    exact ⟨by rw [HC.out]; rfl, HB1.out⟩
  · go_wp2_with fail
    go_ret
    exact ⟨by rw [HC.out]; rfl, HB1.out⟩
set_option maxRecDepth 100000 in
set_option maxHeartbeats 1600000 in
theorem poCheck_bad (h : UB w0 w O p t g c d r rc l OL OD x G P) {N K D : Int} (hc : x.code N K D ≠ 0) : Calls Tryz.prog 26 #[.pointer (some ⟨p, 0, none⟩), .agg #[.int .i64 N, .int .i64 K], .int .i64 D] w fun e w' => e = .returned (.int .i64 (x.code N K D)) ∧ Below w.heap.size w w' := by
  have Hc := Lib.hid hc
  clear hc
  obtain ⟨W, hW, hg, hs, hb0⟩ := alloc1 w (.cells #[.int .i64 N, .int .i64 K] 47)
  have HOL : Hid (∀ k, OL k → k < w.heap.size) := Lib.hid (fun k hk => (h.ol k hk).2.1)
  have HU := Lib.hid (h.grn hg)
  have HW := Lib.hid hW
  have HG := Lib.hid hg.below
  have HB := Lib.hid hb0
  clear h hg hs hb0 hW
  go_enter Tryz.func26, Tryz.ntmps26
  go_upto_region 1 with (fail)
  rw [HW.out]
  obtain ⟨b, hb⟩ : ∃ b, b = w.heap.size := ⟨_, rfl⟩
  rw [← hb]
  rw [← hb] at HB
  have Hb := Lib.hid hb
  clear hb HW
  have HF := Lib.hid (poFind_any HU.out N K D)
  obtain ⟨f0, f1⟩ := two HB.out
  have HWW : Hid (w.heap.size ≤ W.heap.size) := Lib.hid HG.out.size
  obtain ⟨sp1, hsp1⟩ : ∃ y, y = (fdS x N K D).1 := ⟨_, rfl⟩
  obtain ⟨sp2, hsp2⟩ : ∃ y, y = (fdS x N K D).2 := ⟨_, rfl⟩
  obtain ⟨code, hcode⟩ : ∃ y, y = x.code N K D := ⟨_, rfl⟩
  rw [← hsp1, ← hsp2, ← hcode] at HF
  rw [← hcode] at Hc
  have q0 : (code != 0) = true := by simpa using Hc.out
  have HCO := Lib.hid hcode
  clear hsp1 hsp2 hcode
  go_wp2_with (go_at_call 66; fail)
  refine HF.out.mono ?_
  rintro e w1 ⟨rfl, hg1⟩
  obtain ⟨W2, hW2, hg2, _, hb2⟩ := alloc1 w1 (.cells #[.int .i64 sp1, .int .i64 sp2] 132)
  have HW2 := Lib.hid hW2
  have HG2 : Hid (Below w.heap.size w W2) := Lib.hid (HG.out.trans ((hg1.trans hg2).below.mono HG.out.size))
  have HU2 := Lib.hid ((HU.out.grn hg1).grn hg2)
  have HB2 := Lib.hid hb2
  have HBF := Lib.hid (grn_at (hg1.trans hg2) HB.out)
  have HB2Q : Hid (W.heap.size ≤ w1.heap.size) := Lib.hid hg1.below.size
  clear hW2 hg1 hg2 hb2 HF f0 f1 HU HB HG
  go_upto_region 2 with (fail)
  rw [HW2.out]
  obtain ⟨b2, hb2⟩ : ∃ b, b = w1.heap.size := ⟨_, rfl⟩
  rw [← hb2]
  rw [← hb2] at HB2
  have HB2Z : Hid (w.heap.size ≤ b2) := Lib.hid (by rw [hb2]; exact Nat.le_trans HWW.out HB2Q.out)
  clear hb2 HW2
  go_wp2_with fail
  go_ret
  exact ⟨by rw [HCO.out]; rfl, HG2.out⟩
set_option maxRecDepth 100000 in
set_option maxHeartbeats 1600000 in
theorem poCheck_ok (h : UB w0 w O p t g c d r rc l OL OD x G P) {N K D : Int} (hc : x.code N K D = 0) : Calls Tryz.prog 26 #[.pointer (some ⟨p, 0, none⟩), .agg #[.int .i64 N, .int .i64 K], .int .i64 D] w fun e w' => e = .returned (.int .i64 (if x.f (plI N D) ≤ x.now then 12 else 0)) ∧ Below w.heap.size w w' := by
  obtain ⟨n, q, hN, hK, hq, ho, hD⟩ := Px.code_ok hc
  have Hc := Lib.hid hc
  have HA : Hid (∀ V, UB w0 V O p t g c d r rc l OL OD x G P → Calls Tryz.prog 73 #[.pointer (some ⟨p, 0, none⟩), .agg #[.int .i64 N, .int .i64 D]] V fun e w' => e = .returned (.int .i64 (if x.f (plI N D) ≤ x.now then 12 else 0)) ∧ Below V.heap.size V w') := Lib.hid (fun V hV => by
    have hn : n < 128 := by rw [← h.tl]; exact (List.getElem?_eq_some_iff.1 hq).1
    have := poAllowed_any hV hn hD
    rw [← hN] at this
    have e : plI N D = n * 2 + D.toNat := by unfold plI; rw [hN]; rfl
    rw [e]
    exact this)
  clear hc hN hK hq ho hD
  generalize (if x.f (plI N D) ≤ x.now then (12 : Int) else 0) = res at *
  obtain ⟨W, hW, hg, hs, hb0⟩ := alloc1 w (.cells #[.int .i64 N, .int .i64 K] 47)
  have HOL : Hid (∀ k, OL k → k < w.heap.size) := Lib.hid (fun k hk => (h.ol k hk).2.1)
  have HU := Lib.hid (h.grn hg)
  have HW := Lib.hid hW
  have HG := Lib.hid hg.below
  have HB := Lib.hid hb0
  clear h hg hs hb0 hW
  go_enter Tryz.func26, Tryz.ntmps26
  go_upto_region 1 with (fail)
  rw [HW.out]
  obtain ⟨b, hb⟩ : ∃ b, b = w.heap.size := ⟨_, rfl⟩
  rw [← hb]
  rw [← hb] at HB
  have Hb := Lib.hid hb
  clear hb HW
  have HF := Lib.hid (poFind_any HU.out N K D)
  obtain ⟨f0, f1⟩ := two HB.out
  have HWW : Hid (w.heap.size ≤ W.heap.size) := Lib.hid HG.out.size
  rw [show fdS x N K D = (N, D) by unfold fdS; rw [if_pos Hc.out], Hc.out] at HF
  go_wp2_with (go_at_call 66; fail)
  refine HF.out.mono ?_
  rintro e w1 ⟨rfl, hg1⟩
  obtain ⟨W2, hW2, hg2, _, hb2⟩ := alloc1 w1 (.cells #[.int .i64 N, .int .i64 D] 132)
  have HW2 := Lib.hid hW2
  have HG2 : Hid (Below w.heap.size w W2) := Lib.hid (HG.out.trans ((hg1.trans hg2).below.mono HG.out.size))
  have HU2 := Lib.hid ((HU.out.grn hg1).grn hg2)
  have HB2 := Lib.hid hb2
  have HBF := Lib.hid (grn_at (hg1.trans hg2) HB.out)
  have HB2Q : Hid (W.heap.size ≤ w1.heap.size) := Lib.hid hg1.below.size
  clear hW2 hg1 hg2 hb2 HF f0 f1 HU HB HG
  go_upto_region 2 with (fail)
  rw [HW2.out]
  obtain ⟨b2, hb2⟩ : ∃ b, b = w1.heap.size := ⟨_, rfl⟩
  rw [← hb2]
  rw [← hb2] at HB2
  have HB2Z : Hid (w.heap.size ≤ b2) := Lib.hid (by rw [hb2]; exact Nat.le_trans HWW.out HB2Q.out)
  clear hb2 HW2
  have HA2 := Lib.hid (HA.out W2 HU2.out)
  obtain ⟨c0, c1⟩ := two HB2.out
  go_wp2_with (go_at_call 73; fail)
  refine HA2.out.mono ?_
  rintro e w3 ⟨rfl, hb3⟩
  have HG3 := Lib.hid (HG2.out.trans (hb3.mono HG2.out.size))
  clear hb3 c0 c1
  go_wp2_with fail
  go_ret
  exact ⟨rfl, HG3.out⟩
theorem poCheck_any (h : UB w0 w O p t g c d r rc l OL OD x G P) (N K D : Int) : Calls Tryz.prog 26 #[.pointer (some ⟨p, 0, none⟩), .agg #[.int .i64 N, .int .i64 K], .int .i64 D] w fun e w' => e = .returned (.int .i64 (chkC x N K D)) ∧ Below w.heap.size w w' := by
  unfold chkC
  by_cases hc : x.code N K D = 0
  · rw [if_neg (by simpa using hc)]
    exact poCheck_ok h hc
  · rw [if_pos hc]
    exact poCheck_bad h hc
end
end Go.Proofs.YtcjeckjmoponkaaGreatDoor
