/- The law's looks: a table has the states and the run set of the reference's. -/
import Derived.Test.YtifdpdghjfcaaaaDoorFDo0
import Derived.Deep.CutBlock
import Derived.Deep.RegionWith
import Derived.LoopTactic
import Derived.Deep.LoopGhost
namespace Go.Proofs.YtifdpdghjfcaaaaDoor
open Go.RowKit Go.Sort
set_option linter.unusedVariables false
set_option linter.unusedSimpArgs false

theorem next_both (P : Ks) (Q : Qu) (hq : Q.length ≤ 900) : ∃ (y code : Int), (∀ B w l g, KAt B w l P Q g → Calls Tryd.prog 15 #[.pointer (some ⟨l.t, 0, none⟩)] w fun e w' => e = .returned (.tuple #[.int .i64 y, .int .i64 code]) ∧ Grn w w') ∧
    (∀ w s r S, Src TI w s S → Src TI w r (vls Q) → Calls Tryd.prog 30 #[rk s r] w fun e w' => e = .returned (.tuple #[.int .i64 y, .int .i64 code]) ∧ Grn w w') := by
  cases Q with
  | nil =>
    refine ⟨0, 9, fun B w l g h => (tkNext_empty h).mono ?_, fun w s r S h1 h2 => refNext_empty h1 h2⟩
    rintro e w' ⟨rfl, rfl⟩
    exact ⟨rfl, Grn.refl _⟩
  | cons e Q =>
    obtain ⟨t, y⟩ := e
    refine ⟨y, 0, fun B w l g h => tkNext_yes h, fun w s r S h1 h2 => refNext_yes h1 h2 ?_⟩
    simp [vls] at hq ⊢
    omega
theorem state_both (P : Ks) (N : Int) (hl : P.length ≤ 64) : ∃ (y code : Int), (∀ B w l Q g, KAt B w l P Q g → Calls Tryd.prog 14 #[.pointer (some ⟨l.t, 0, none⟩), .int .i64 N] w fun e w' => e = .returned (.tuple #[.int .i64 y, .int .i64 code]) ∧ w' = w) ∧
    (∀ w s r R, Src TI w s (sts P) → Src TI w r R → Calls Tryd.prog 31 #[rk s r, .int .i64 N] w fun e w' => e = .returned (.tuple #[.int .i64 y, .int .i64 code]) ∧ Grn w w') := by
  rcases noI_or P N with hn | ⟨i, rfl, hi⟩
  · exact ⟨0, 2, fun B w l Q g h => tkState_bad h hn, fun w s r R h1 h2 => refState_bad h1 h2 (by rw [sts_len]; exact hn) (by rw [sts_len]; exact hl)⟩
  · have hp := List.getElem?_eq_getElem hi
    refine ⟨(P[i]).s, 0, fun B w l Q g h => tkState_yes h hp, fun w s r R h1 h2 => ?_⟩
    have := refState_yes h1 h2 (i := i) (by rw [sts_len]; exact hi) (by rw [sts_len]; exact hl)
    rwa [sts_get hp] at this

set_option maxRecDepth 100000 in
set_option maxHeartbeats 12800000 in
theorem looks_any {w0 w : World} {l : Tl} {P : Ks} {Q : Qu} {g n k : Nat} {s r : Value} (h : ESt w0 w l P Q g s r n k) (hk : k ≤ 700) :
    Calls Tryd.prog 12 #[.pointer (some ⟨l.t, 0, none⟩), rk s r] w fun e w' => e = .returned (.bool true) ∧ Below w.heap.size w w' := by
  have hql : Q.length ≤ 900 := Nat.le_trans h.K.K.ql (by have := h.g; omega)
  obtain ⟨y, code, hN, hRN⟩ := next_both P Q hql
  obtain ⟨sa, sc, rfl, hs1, -⟩ := h.rs.form
  obtain ⟨ra, rc, rfl, hr1, -⟩ := h.rr.form
  have hsn : (sts P).length = n := by rw [sts_len]; exact h.len
  have hb0 := below_alloc w (.cells #[.slice sa (sts P).length sc, .slice ra (vls Q).length rc] 30)
  have HX := Lib.hid (block_new w (.cells #[.slice sa (sts P).length sc, .slice ra (vls Q).length rc] 30) _ rfl)
  have HD := Lib.hid (h.grown hb0)
  have HN2 := Lib.hid (And.intro h.n2 (And.intro h.len hql))
  have HG := Lib.hid h.g
  rw [hsn] at HX HD ⊢
  generalize hm : (vls Q).length = m at *
  have k0 := cells_cell (o := 0) HX.out rfl
  have k1 : (w.alloc (.cells #[.slice sa n sc, .slice ra m rc] 30)).cell? ⟨w.heap.size, 1, none⟩ = some (.slice ra m rc) := cells_cell HX.out rfl
  have s0 := lt_of_block HX.out
  clear h hb0 hql hs1 hr1 hsn hm
  unfold rk
  go_enter Tryd.func12, Tryd.ntmps12
  go_wp2_with (go_at_call 15; fail)
  refine (hN _ _ _ _ HD.out.K.K).mono ?_
  rintro e w1 ⟨rfl, hg⟩
  have HX1 := Lib.hid ((hg.below.block _ (lt_of_block HX.out)).trans HX.out)
  have HB1 := Lib.hid ((below_alloc w (.cells #[.slice sa n sc, .slice ra m rc] 30)).trans (hg.below.mono (by simp)))
  have HD1 := Lib.hid (HD.out.grown hg.below)
  clear hg HD HX k0 k1 s0
  have k0 := cells_cell (o := 0) HX1.out rfl
  have k1 : w1.cell? ⟨w.heap.size, 1, none⟩ = some (.slice ra m rc) := cells_cell HX1.out rfl
  have s0 := lt_of_block HX1.out
  go_wp2_with (go_at_call 30; fail)
  have hrn := hRN _ _ _ _ (HD1.out.rs.src TI_ok) (HD1.out.rr.src TI_ok)
  unfold rk at hrn
  refine hrn.mono ?_
  rintro e w2 ⟨rfl, hg⟩
  have HX2 := Lib.hid ((hg.below.block _ (lt_of_block HX1.out)).trans HX1.out)
  have HB2 := Lib.hid (HB1.out.trans (hg.below.mono HB1.out.size))
  have HD2 := Lib.hid (HD1.out.grown hg.below)
  clear hg hrn hN hRN HD1 HX1 HB1 k0 k1 s0
  go_upto_region 3 with (fail)
  have hld : ∀ W', Below w2.heap.size w2 W' → W'.cell? ⟨w.heap.size, 0, none⟩ = some (.slice sa n sc) ∧ W'.cell? ⟨w.heap.size, 1, none⟩ = some (.slice ra m rc) ∧ w.heap.size < W'.heap.size := fun W' hb => by
    have e0 := (hb.block _ (lt_of_block HX2.out)).trans HX2.out
    exact ⟨cells_cell e0 rfl, cells_cell e0 rfl, lt_of_block e0⟩
  have HS : Hid (Below w2.heap.size w2 w2.drew) := Lib.hid (Below.refl _ _).drew
  refine wp_region_mix (fun W' => Below w2.heap.size w2 W') 23 [(true, 0), (true, 2), (true, 3), (true, 4), (false, 1), (false, 5), (false, 6), (true, 7), (true, 9), (true, 10), (false, 8), (false, 11), (false, 12), (false, 13), (false, 14), (true, 15), (true, 16), (false, 17), (false, 18), (false, 19), (true, 20), (true, 21), (false, 22)] (by kernel_rfl) (by kernel_rfl) (fun _ _ _ d _ h => by cases d <;> exact h) ?_
  simp only [List.map_cons, List.map_nil, List.getD_cons_zero, List.getD_cons_succ, List.drop_succ_cons, List.drop_zero]
  refine mix_move (.tmp 0) (.pointer (some ⟨l.t, 0, none⟩)) rfl HS.out rfl rfl ?_
  simp only [Act.put, List.setIfInBounds_toArray, List.set_cons_zero, List.set_cons_succ]
  refine mix_take (.pointer (some ⟨w.heap.size, 0, none⟩)) HS.out rfl (fun W' hS => by go_simp) ?_
  simp only [Act.put, List.setIfInBounds_toArray, List.set_cons_zero, List.set_cons_succ]
  refine mix_take (.slice sa n sc) HS.out rfl (fun W' hS => by obtain ⟨l0, l1, l2⟩ := hld W' hS; go_simp) ?_
  simp only [Act.put, List.setIfInBounds_toArray, List.set_cons_zero, List.set_cons_succ]
  refine mix_take (.int .i64 ((n : Nat) : Int)) HS.out rfl (fun W' hS => by go_simp) ?_
  simp only [Act.put, List.setIfInBounds_toArray, List.set_cons_zero, List.set_cons_succ]
  refine mix_step rfl (fun K hK => ?_)
  go_simp
  go_wp2_with (go_at_call 21; fail)
  have hln := tkLen_yes (HD2.out.grown HS.out).K.K
  rw [HN2.out.2.1] at hln
  refine hln.mono ?_
  rintro e wz ⟨rfl, he⟩
  have he := he.symm
  subst he
  refine hK _ _ HS.out ?_
  clear hK hln
  refine mix_by (.bool false) rfl (by go_simp) HS.out ?_
  simp only [Act.put, List.setIfInBounds_toArray, List.set_cons_zero, List.set_cons_succ]
  refine mix_moved (.tmp 29) (.bool false) rfl rfl rfl HS.out ?_
  simp only [Act.put, List.setIfInBounds_toArray, List.set_cons_zero, List.set_cons_succ]
  refine mix_move (.tmp 0) (.pointer (some ⟨l.t, 0, none⟩)) rfl HS.out rfl rfl ?_
  simp only [Act.put, List.setIfInBounds_toArray, List.set_cons_zero, List.set_cons_succ]
  refine mix_take (.pointer (some ⟨w.heap.size, 1, none⟩)) HS.out rfl (fun W' hS => by go_simp) ?_
  simp only [Act.put, List.setIfInBounds_toArray, List.set_cons_zero, List.set_cons_succ]
  refine mix_take (.slice ra m rc) HS.out rfl (fun W' hS => by obtain ⟨l0, l1, l2⟩ := hld W' hS; go_simp) ?_
  simp only [Act.put, List.setIfInBounds_toArray, List.set_cons_zero, List.set_cons_succ]
  refine mix_step rfl (fun K hK => ?_)
  go_simp
  go_wp2_with (go_at_call 13; fail)
  refine (tkReady_yes (HD2.out.grown HS.out).K.K (by have := HG.out; omega)).mono ?_
  rintro e wz ⟨u, rfl, hr, hb⟩
  obtain ⟨ua, un, uc, rfl⟩ := row_form hr
  have HS := Lib.hid (HS.out.trans (hb.mono HS.out.size))
  have HU := Lib.hid (hr.src TI_ok)
  clear hr hb
  refine hK _ _ HS.out ?_
  clear hK
  refine mix_step rfl (fun K hK => ?_)
  go_simp
  go_wp2_with (go_at_call 23; fail)
  refine (same_yes HU.out ((HD2.out.grown HS.out).rr.src TI_ok) (by have := HN2.out.2.2; simp [vls] at this ⊢; omega)).mono ?_
  rintro e wz ⟨rfl, hg⟩
  have HS := Lib.hid (HS.out.trans (hg.below.mono HS.out.size))
  clear hg HU
  refine hK _ _ HS.out ?_
  clear hK
  refine mix_by (.bool false) rfl (by go_simp) HS.out ?_
  simp only [Act.put, List.setIfInBounds_toArray, List.set_cons_zero, List.set_cons_succ]
  refine mix_by (.bool false) rfl (by go_simp) HS.out ?_
  simp only [Act.put, List.setIfInBounds_toArray, List.set_cons_zero, List.set_cons_succ]
  refine mix_moved (.tmp 37) (.bool false) rfl rfl rfl HS.out ?_
  simp only [Act.put, List.setIfInBounds_toArray, List.set_cons_zero, List.set_cons_succ]
  refine mix_move (.tmp 5) (.int .i64 y) rfl HS.out rfl rfl ?_
  simp only [Act.put, List.setIfInBounds_toArray, List.set_cons_zero, List.set_cons_succ]
  refine mix_move (.tmp 7) (.int .i64 y) rfl HS.out rfl rfl ?_
  simp only [Act.put, List.setIfInBounds_toArray, List.set_cons_zero, List.set_cons_succ]
  refine mix_by (.bool false) rfl (by go_simp) HS.out ?_
  simp only [Act.put, List.setIfInBounds_toArray, List.set_cons_zero, List.set_cons_succ]
  refine mix_by (.bool false) rfl (by go_simp) HS.out ?_
  simp only [Act.put, List.setIfInBounds_toArray, List.set_cons_zero, List.set_cons_succ]
  refine mix_moved (.tmp 42) (.bool false) rfl rfl rfl HS.out ?_
  simp only [Act.put, List.setIfInBounds_toArray, List.set_cons_zero, List.set_cons_succ]
  refine mix_move (.tmp 6) (.int .i64 code) rfl HS.out rfl rfl ?_
  simp only [Act.put, List.setIfInBounds_toArray, List.set_cons_zero, List.set_cons_succ]
  refine mix_move (.tmp 8) (.int .i64 code) rfl HS.out rfl rfl ?_
  simp only [Act.put, List.setIfInBounds_toArray, List.set_cons_zero, List.set_cons_succ]
  refine mix_by (.bool false) rfl (by go_simp) HS.out ?_
  simp only [Act.put, List.setIfInBounds_toArray, List.set_cons_zero, List.set_cons_succ]
  refine mix_nil ?_
  have HX3 := Lib.hid ((HS.out.block _ (lt_of_block HX2.out)).trans HX2.out)
  have HD3 := Lib.hid (HD2.out.grown HS.out)
  have HB3 := Lib.hid (HB2.out.trans (HS.out.mono HB2.out.size))
  clear HS HX2 HD2 HB2 hld
  have k0 := cells_cell (o := 0) HX3.out rfl
  have k1 : wz.cell? ⟨w.heap.size, 1, none⟩ = some (.slice ra m rc) := cells_cell HX3.out rfl
  have s0 := lt_of_block HX3.out
  have hn64 : ((n : Nat) : Int) ≤ 64 := by have := HN2.out.1; have := HN2.out.2.1; omega
  go_wp2_with fail
  go_loopw [9] (fun i wr => ∃ (j : Nat), j ≤ n + 2 ∧ i = .int .i64 (((j : Nat) : Int) - 1) ∧ Hid (Below wz.heap.size wz wr)) (fun i _ => n + 2 - (intOf i + 1).toNat)
  case atStart => exact ⟨0, Nat.zero_le _, rfl, Lib.hid (Below.refl _ _)⟩
  case round =>
    clear k0 k1 s0
    obtain ⟨j, hj, rfl, HR⟩ := hrel
    have HX4 := Lib.hid ((HR.out.block _ (lt_of_block HX3.out)).trans HX3.out)
    have k0 := cells_cell (o := 0) HX4.out rfl
    have k1 : wr.cell? ⟨w.heap.size, 1, none⟩ = some (.slice ra m rc) := cells_cell HX4.out rfl
    have s0 := lt_of_block HX4.out
    have HD4 := Lib.hid (HD3.out.grown HR.out)
    by_cases hlt : j ≤ n + 1
    · obtain ⟨q, hq⟩ : ∃ q : Int, q = ((j : Nat) : Int) - 1 := ⟨_, rfl⟩
      rw [← hq]
      have hqn : q ≤ ((n : Nat) : Int) := by omega
      have hq1 : -1 ≤ q := by omega
      have HQ := Lib.hid hq
      obtain ⟨y2, code2, hT, hRf⟩ := state_both P q HN2.out.1
      clear hq
      go_wp2_with (go_at_call 14; fail)
      refine (hT _ _ _ _ _ HD4.out.K.K).mono ?_
      rintro e w5 ⟨rfl, he⟩
      have he := he.symm
      subst he
      go_wp2_with (go_at_call 31; fail)
      have hrs := hRf _ _ _ _ (HD4.out.rs.src TI_ok) (HD4.out.rr.src TI_ok)
      unfold rk at hrs
      refine hrs.mono ?_
      rintro e w6 ⟨rfl, hg⟩
      have HR2 := Lib.hid (HR.out.trans (hg.below.mono HR.out.size))
      clear hg hrs hT hRf HD4 HX4 HR k0 k1 s0
      go_wp2_with fail
      go_roundw
      case rel => exact ⟨j + 1, by omega, by have := HQ.out; go_num, HR2⟩
      case measure => have := HQ.out; simp [intOf]; omega
    · have hq : j = n + 2 := by omega
      subst hq
      have hcond : decide (((n + 2 : Nat) : Int) - 1 ≤ ((n : Nat) : Int)) = false := decide_eq_false (by omega)
      clear HD4 HX4
      go_wp2_with fail
      go_ret
      exact ⟨rfl, HB3.out.trans (HR.out.mono HB3.out.size)⟩
end Go.Proofs.YtifdpdghjfcaaaaDoor
