/- The law's is; the step of any kind. -/
import Derived.Test.YteimjkmjofaieaaYDoB
import Derived.Test.YteimjkmjofaieaaYDoC
namespace Go.Proofs.Yteimjkmjofaieaa
open Go.RowKit Go.Sort
set_option linter.unusedVariables false
set_option linter.unusedSimpArgs false
set_option maxRecDepth 100000

theorem sPr_fst {x : St} (ok : x.Ok) : sPr x = (x.a, (sPr x).2) := by
  unfold sPr
  split
  · rfl
  · rename_i hb
    have : x.a = 0 := (ok.idle (by simpa using hb)).2
    rw [this]
set_option maxHeartbeats 6400000 in
theorem is_any {P : Nat → Prop} {w0 w : World} {m : Nat} {k : Sb} {x : St} {sv : Value} (h : KS w0 w m k x) (hs : SvP P w sv x.rw) : Calls Try.prog 13 #[pt m, sv] w fun e w' => e = .returned (.bool true) ∧ Below w.heap.size w w' := by
  have ok := h.at'.ok
  have hs0 := hs
  obtain ⟨vS, vR, rfl, hS, hR⟩ := hs
  obtain ⟨a1, c1, rfl, -, -⟩ := hS.1.form
  obtain ⟨a2, c2, rfl, -, -⟩ := hR.1.form
  obtain ⟨n1, hn1⟩ : ∃ n, n = (x.rw.S.map encB).length := ⟨_, rfl⟩
  obtain ⟨n2, hn2⟩ : ∃ n, n = (x.rw.R.map encB).length := ⟨_, rfl⟩
  rw [← hn1, ← hn2]
  have hval : x.rw.val (.slice a1 n1 c1) (.slice a2 n2 c2) = (.agg #[.int .i64 (x.c : Nat), .slice a1 n1 c1, .bool x.busy, .slice a2 n2 c2, .int .i64 (x.a : Nat), .int .i64 x.wr, .int .i64 x.rd]) := rfl
  rw [hval]
  obtain ⟨W, hW⟩ : ∃ W, W = w.alloc (.cells #[.int .i64 (x.c : Nat), .slice a1 n1 c1, .bool x.busy, .slice a2 n2 c2, .int .i64 (x.a : Nat), .int .i64 x.wr, .int .i64 x.rd] 31) := ⟨_, rfl⟩
  have hb : Below w.heap.size w W := by rw [hW]; exact below_alloc _ _
  have HX : Hid (W.heap[w.heap.size]? = some (.cells #[.int .i64 (x.c : Nat), .slice a1 n1 c1, .bool x.busy, .slice a2 n2 c2, .int .i64 (x.a : Nat), .int .i64 x.wr, .int .i64 x.rd] 31 (0, 0))) := Lib.hid (by rw [hW]; exact heap_alloc_new w _)
  have HW := Lib.hid hW.symm
  have HB := Lib.hid hb
  have HS : Hid (SrcV W (.slice a1 n1 c1) (x.rw.S.map encB)) := Lib.hid (by rw [hn1]; exact hS.1.grown hb)
  have HR : Hid (SrcV W (.slice a2 n2 c2) (x.rw.R.map encB)) := Lib.hid (by rw [hn2]; exact hR.1.grown hb)
  have HK := Lib.hid (h.grow hb)
  have HSV : Hid (SvP P W (.agg #[.int .i64 (x.c : Nat), .slice a1 n1 c1, .bool x.busy, .slice a2 n2 c2, .int .i64 (x.a : Nat), .int .i64 x.wr, .int .i64 x.rd]) x.rw) := Lib.hid (by rw [hn1, hn2]; exact hs0.grown hb)
  have HOK := Lib.hid ok
  obtain ⟨b, hpr⟩ : ∃ b, (sPr x).2 = b := ⟨_, rfl⟩
  have HPR : Hid (sPr x = (x.a, b)) := Lib.hid (by rw [← hpr]; exact sPr_fst ok)
  have HPB := Lib.hid hpr
  have HLA : Hid (x.a ≤ 1000000) := Lib.hid (by have := ok.small; omega)
  clear hval hW hb h hs0 hS hR ok hpr hn1 hn2
  unfold pt
  go_enter Try.func13, Try.ntmps13
  go_upto_region 1 with fail
  rw [HW.out]
  go_wp2_with (go_at_call 20; fail)
  have hst := ks_progress HK.out x.a b HPR.out
  unfold pt at hst
  refine hst.mono ?_
  rintro e w1 ⟨rfl, hk, hb1⟩
  clear hst
  have HX1 := Lib.hid ((hb1.block _ (lt_of_block HX.out)).trans HX.out)
  have HK1 := Lib.hid hk
  have HB1 := Lib.hid (HB.out.trans (hb1.mono HB.out.size))
  have HS1 := Lib.hid (HS.out.grown hb1)
  have HR1 := Lib.hid (HR.out.grown hb1)
  have HSV1 := Lib.hid (HSV.out.grown hb1)
  clear hk hb1 HX HK HB HS HR HSV
  go_wp2_with fail
  refine wp_region_mix (fun W' => W'.heap[w.heap.size]? = some (.cells #[.int .i64 (x.c : Nat), .slice a1 n1 c1, .bool x.busy, .slice a2 n2 c2, .int .i64 (x.a : Nat), .int .i64 x.wr, .int .i64 x.rd] 31 (0, 0))) 16 [(true, 0), (true, 2), (false, 1), (false, 3), (true, 4), (true, 5), (true, 6), (true, 7), (true, 8), (true, 9), (true, 10), (true, 11), (true, 12), (false, 13), (true, 14), (true, 15)] (by kernel_rfl) (by kernel_rfl) (fun _ _ _ d _ h => by cases d <;> exact h) ?_
  have HD : Hid (Below w1.heap.size w1 w1.drew) := Lib.hid ((Grn.refl w1).drew 1).below
  have HQ : Hid (w1.drew.heap[w.heap.size]? = some (.cells #[.int .i64 (x.c : Nat), .slice a1 n1 c1, .bool x.busy, .slice a2 n2 c2, .int .i64 (x.a : Nat), .int .i64 x.wr, .int .i64 x.rd] 31 (0, 0))) := Lib.hid ((HD.out.block _ (lt_of_block HX1.out)).trans HX1.out)
  have HK2 := Lib.hid (HK1.out.grow HD.out)
  have HB2 := Lib.hid (HB1.out.trans (HD.out.mono HB1.out.size))
  have HS2 := Lib.hid (HS1.out.grown HD.out)
  have HR2 := Lib.hid (HR1.out.grown HD.out)
  have HSV2 := Lib.hid (HSV1.out.grown HD.out)
  clear HX1 HK1 HB1 HS1 HR1 HSV1
  simp only [List.map_cons, List.map_nil, List.getD_cons_zero, List.getD_cons_succ, List.drop_succ_cons, List.drop_zero]
  generalize w1.drew = V at *
  refine mix_move (.tmp 0) (.pointer (some ⟨m, 0, none⟩)) rfl HQ.out rfl rfl ?_
  simp only [Act.put, List.setIfInBounds_toArray, List.set_cons_zero, List.set_cons_succ]
  refine mix_take (.agg #[.int .i64 (x.c : Nat), .slice a1 n1 c1, .bool x.busy, .slice a2 n2 c2, .int .i64 (x.a : Nat), .int .i64 x.wr, .int .i64 x.rd]) HQ.out rfl (fun W' hS => by 
    have l0 := cells_cell (o := 0) hS rfl
    have l1 := cells_cell (o := 1) hS rfl
    have l2 := cells_cell (o := 2) hS rfl
    have l3 := cells_cell (o := 3) hS rfl
    have l4 := cells_cell (o := 4) hS rfl
    have l5 := cells_cell (o := 5) hS rfl
    have l6 := cells_cell (o := 6) hS rfl
    go_simp) ?_
  simp only [Act.put, List.setIfInBounds_toArray, List.set_cons_zero, List.set_cons_succ]
  refine mix_step rfl (fun K1 hK => ?_)
  go_simp
  go_wp2_with (go_at_call 27; fail)
  have hst := stState_any HK2.out.at'
  unfold pt at hst
  refine hst.mono ?_
  rintro e V2 ⟨uS, uR, rfl, hu1, hu2, hb3⟩
  clear hst
  have HQ3 := Lib.hid ((hb3.block _ (lt_of_block HQ.out)).trans HQ.out)
  have HB3 := Lib.hid (HB2.out.trans (hb3.mono HB2.out.size))
  have HSAME := Lib.hid (sfSame_yes (r := x.rw) (RowV.src hu1) (RowV.src hu2) (HS2.out.grown hb3) (HR2.out.grown hb3))
  have HSV3 := Lib.hid (HSV2.out.grown hb3)
  clear hb3 hu1 hu2 HQ HB2 HS2 HR2 HSV2 HK2
  refine hK _ _ HQ3.out ?_
  clear hK
  try simp only [Act.put, List.setIfInBounds_toArray, List.set_cons_zero, List.set_cons_succ]
  refine mix_step rfl (fun K2 hK => ?_)
  go_simp
  go_wp2_with (go_at_call 18; fail)
  refine HSAME.out.mono ?_
  rintro e V4 ⟨rfl, hb4⟩
  have HQ4 := Lib.hid ((hb4.block _ (lt_of_block HQ3.out)).trans HQ3.out)
  have HB4 := Lib.hid (HB3.out.trans (hb4.mono HB3.out.size))
  have HAE := Lib.hid (sfAtEnd_any (HSV3.out.grown hb4) HOK.out)
  clear hb4 HQ3 HB3 HSAME HSV3
  refine hK _ _ HQ4.out ?_
  clear hK
  try simp only [Act.put, List.setIfInBounds_toArray, List.set_cons_zero, List.set_cons_succ]
  refine mix_move (.tmp 15) (.bool true) rfl HQ4.out rfl rfl ?_
  simp only [Act.put, List.setIfInBounds_toArray, List.set_cons_zero, List.set_cons_succ]
  refine mix_move (.tmp 5) (.int .i64 (x.a : Nat)) rfl HQ4.out rfl rfl ?_
  simp only [Act.put, List.setIfInBounds_toArray, List.set_cons_zero, List.set_cons_succ]
  refine mix_take (.pointer (some ⟨w.heap.size, 4, none⟩)) HQ4.out rfl (fun W' hS => by go_simp) ?_
  simp only [Act.put, List.setIfInBounds_toArray, List.set_cons_zero, List.set_cons_succ]
  refine mix_take (.int .i64 (x.a : Nat)) HQ4.out rfl (fun W' hS => by 
    have l4 := cells_cell (o := 4) hS rfl
    go_simp) ?_
  simp only [Act.put, List.setIfInBounds_toArray, List.set_cons_zero, List.set_cons_succ]
  refine mix_take (.bool true) HQ4.out rfl (fun W' hS => by go_simp) ?_
  simp only [Act.put, List.setIfInBounds_toArray, List.set_cons_zero, List.set_cons_succ]
  refine mix_take (.bool true) HQ4.out rfl (fun W' hS => by go_simp) ?_
  simp only [Act.put, List.setIfInBounds_toArray, List.set_cons_zero, List.set_cons_succ]
  refine mix_move (.tmp 21) (.bool true) rfl HQ4.out rfl rfl ?_
  simp only [Act.put, List.setIfInBounds_toArray, List.set_cons_zero, List.set_cons_succ]
  refine mix_move (.tmp 6) (.bool b) rfl HQ4.out rfl rfl ?_
  simp only [Act.put, List.setIfInBounds_toArray, List.set_cons_zero, List.set_cons_succ]
  refine mix_take (.agg #[.int .i64 (x.c : Nat), .slice a1 n1 c1, .bool x.busy, .slice a2 n2 c2, .int .i64 (x.a : Nat), .int .i64 x.wr, .int .i64 x.rd]) HQ4.out rfl (fun W' hS => by 
    have l0 := cells_cell (o := 0) hS rfl
    have l1 := cells_cell (o := 1) hS rfl
    have l2 := cells_cell (o := 2) hS rfl
    have l3 := cells_cell (o := 3) hS rfl
    have l4 := cells_cell (o := 4) hS rfl
    have l5 := cells_cell (o := 5) hS rfl
    have l6 := cells_cell (o := 6) hS rfl
    go_simp) ?_
  simp only [Act.put, List.setIfInBounds_toArray, List.set_cons_zero, List.set_cons_succ]
  refine mix_step rfl (fun K3 hK => ?_)
  go_simp
  go_wp2_with (go_at_call 49; fail)
  refine HAE.out.mono ?_
  rintro e V5 ⟨rfl, hb5⟩
  have HQ5 := Lib.hid ((hb5.block _ (lt_of_block HQ4.out)).trans HQ4.out)
  have HB5 := Lib.hid (HB4.out.trans (hb5.mono HB4.out.size))
  rw [HPB.out]
  clear hb5 HQ4 HB4 HAE
  refine hK _ _ HQ5.out ?_
  clear hK
  try simp only [Act.put, List.setIfInBounds_toArray, List.set_cons_zero, List.set_cons_succ]
  refine mix_take (.bool true) HQ5.out rfl (fun W' hS => by go_simp) ?_
  simp only [Act.put, List.setIfInBounds_toArray, List.set_cons_zero, List.set_cons_succ]
  refine mix_take (.bool true) HQ5.out rfl (fun W' hS => by go_simp) ?_
  simp only [Act.put, List.setIfInBounds_toArray, List.set_cons_zero, List.set_cons_succ]
  refine mix_nil ?_
  go_wp2_with fail
  go_ret
  exact ⟨rfl, HB5.out⟩

theorem step_any {w0 w : World} {m : Nat} {k : Sb} {x : St} {sv pv : Value} {Ps : Parts} (h : KS w0 w m k x) (hs : SvP (fun g => g ∉ k.F) w sv x.rw) (hp : PtsV w0 pv Ps) (n what : Int) (hsz : Ps.flatten.length ≤ 3000) (hpk : Ps.length ≤ 100) :
    Calls Try.prog 12 #[pt m, sv, .agg #[.int .i64 what, pv, .int .i64 n]] w fun e w' => StepR w0 w k w' e := by
  by_cases h0 : what = 0
  · subst h0; exact do_begin h hs hp n hsz hpk
  by_cases h1 : what = 1
  · subst h1; exact do_end h hs hp n
  by_cases h2 : what = 2
  · subst h2; exact do_cancel h hs hp n
  by_cases h3 : what = 3
  · subst h3; exact do_read h hs hp n
  by_cases h4 : what = 4
  · subst h4; exact do_cw h hs hp n
  by_cases h5 : what = 5
  · subst h5; exact do_cr h hs hp n
  exact do_copy h hs hp n what ⟨h0, h1, h2, h3, h4, h5⟩
end Go.Proofs.Yteimjkmjofaieaa
