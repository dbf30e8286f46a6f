/- New, State, Copy. -/
import Derived.Test.YteimjkmjofaieaaYRest
namespace Go.Proofs.Yteimjkmjofaieaa
open Go.RowKit Go.Sort
set_option linter.unusedVariables false
set_option linter.unusedSimpArgs false
set_option maxRecDepth 100000

theorem stNew_bad (w : World) (c : Int) (h : c < 0 ∨ 4096 < c) : Calls Try.prog 10 #[.int .i64 c] w fun e w' => e = .returned (.tuple #[.pointer none, .int .i64 2]) ∧ Below w.heap.size w w' := by
  have hok : Rw.ok ⟨c, [], false, [], 0, 0, 0⟩ = false := by
    cases hq : Rw.ok ⟨c, [], false, [], 0, 0, 0⟩ with
    | false => rfl
    | true =>
      have := (Rw.ok_iff _).1 hq
      have h1 := this.1.top
      have h2 := congrArg Rw.c this.2
      simp only [Rw.st, St.rw] at h1 h2
      omega
  have hn := Lib.hid (stRestore_bad (w := w) hok (SrcV.nil w) (SrcV.nil w))
  unfold Rw.val at hn
  clear h hok
  go_enter Try.func10, Try.ntmps10
  go_wp2_with (go_at_call 15; refine hn.out.mono ?_; rintro e w' ⟨rfl, hb⟩)
  go_ret2
  exact ⟨rfl, hb⟩
theorem stNew_ok (w : World) {c : Nat} (h : c ≤ 4096) : Calls Try.prog 10 #[.int .i64 (c : Nat)] w fun e w' => ∃ m k, e = .returned (.tuple #[pt m, .int .i64 0]) ∧ SAt w' m k (St.new c) ∧ (∀ i ∈ m :: k.A, w.heap.size ≤ i) ∧ Below w.heap.size w w' := by
  have hn := stRestore_ok (w := w) (x := St.new c) (St.Ok.new h) (gS := 0) (.inl ⟨rfl, rfl⟩) (SrcV.nil w) (Nat.zero_le _)
  obtain ⟨y, hy⟩ : ∃ y, y = St.new c := ⟨_, rfl⟩
  have hv : (St.new c).rw.val (.slice none 0 0) (.slice none 0 0) = .agg #[.int .i64 (c : Nat), .slice none 0 0, .bool false, .slice none 0 0, .int .i64 0, .int .i64 0, .int .i64 0] := rfl
  rw [hv, ← hy] at hn
  rw [← hy]
  have HN := Lib.hid hn
  clear h hn hv hy
  go_enter Try.func10, Try.ntmps10
  go_wp2_with (go_at_call 15; fail)
  refine HN.out.mono ?_
  rintro e w' ⟨m, k, rfl, h1, h2, h3⟩
  have HH := Lib.hid (And.intro h1 (And.intro h2 h3))
  clear h1 h2 h3
  unfold pt
  go_wp2_with fail
  go_ret2
  exact ⟨m, k, rfl, HH.out⟩
section
variable {w : World} {m : Nat} {k : Sb} {x : St}
set_option maxHeartbeats 6400000 in
theorem stState_any (h : SAt w m k x) : Calls Try.prog 27 #[pt m] w fun e w' => ∃ vS vR, e = .returned (x.rw.val vS vR) ∧ RowB w' w.heap.size vS x.S ∧ RowB w' w.heap.size vR x.R ∧ Below w.heap.size w w' := by
  obtain ⟨W, hW⟩ : ∃ W, W = w.alloc (.cells #[.int .i64 0, .slice none 0 0, .bool false, .slice none 0 0, .int .i64 0, .int .i64 0, .int .i64 0] 31) := ⟨_, rfl⟩
  have hbb : Below w.heap.size w W := by rw [hW]; exact below_alloc _ _
  have hblk : W.heap[w.heap.size]? = some (.cells #[.int .i64 0, .slice none 0 0, .bool false, .slice none 0 0, .int .i64 0, .int .i64 0, .int .i64 0] 31 (0, 0)) := by rw [hW]; exact heap_alloc_new w _
  have hx := h.grown hbb
  obtain ⟨T, va, vc, hT, hvc, h1, h2⟩ := hx.cl
  have k0 := cells_cell (o := 0) hx.me rfl
  have hu := Lib.hid (stUsable_yes hx)
  have hcap := hT.cap
  have hheld := hT.held
  obtain ⟨KA, hKA⟩ : ∃ v, v = kindA k.q := ⟨_, rfl⟩
  obtain ⟨KR, hKR⟩ : ∃ v, v = kindR k.q := ⟨_, rfl⟩
  obtain ⟨fC, hfC⟩ : ∃ f, f = capF k.q := ⟨_, rfl⟩
  obtain ⟨fH, hfH⟩ : ∃ f, f = heldF k.q := ⟨_, rfl⟩
  rw [← hKA] at h1 hcap hheld
  rw [← hKR, ← hfC] at hcap
  rw [← hfH] at hheld
  obtain ⟨rn, hrn⟩ : ∃ n, n = x.R.length := ⟨_, rfl⟩
  obtain ⟨z, hz⟩ : ∃ z : Int, z = ((x.a + x.R.length : Nat) : Int) := ⟨_, rfl⟩
  rw [← hz] at h1
  rw [← hrn] at h1 h2
  obtain ⟨a, ha⟩ : ∃ a, a = x.a := ⟨_, rfl⟩
  have H := Lib.hid hx
  have H1 := Lib.hid h1
  have H2 := Lib.hid h2
  have HB := Lib.hid hbb
  have HBK := Lib.hid hblk
  have HW := Lib.hid hW.symm
  have HK := Lib.hid (And.intro hKA (And.intro hKR (And.intro hfC (And.intro hfH (And.intro hrn ha)))))
  have HCAP := Lib.hid hcap
  have HHELD := Lib.hid hheld
  clear hW hbb hblk h hx hT hvc h1 h2 hKA hKR hfC hfH hrn hz ha hcap hheld
  unfold pt at *
  go_enter Try.func27, Try.ntmps27
  go_upto_region 1 with fail
  rw [HW.out]
  go_wp2_with (go_at_call 57; refine hu.out.mono ?_; rintro e w' ⟨rfl, hw'⟩; subst hw')
  refine wp_region_mix (fun W' => W'.heap[k.b]? = some (.cells #[.iface T KA, .bool x.busy, .slice va rn vc, .int .i64 z, .int .i64 x.rd, .int .i64 x.wr] 94 (0, 0))) 31 [(true, 0), (true, 1), (true, 2), (true, 3), (true, 5), (true, 6), (true, 7), (true, 8), (true, 10), (true, 11), (true, 12), (true, 13), (true, 14), (true, 15), (true, 16), (true, 17), (true, 19), (true, 21), (true, 22), (true, 23), (true, 24), (true, 25), (true, 26), (true, 27), (true, 28), (true, 29), (true, 30), (false, 4), (false, 9), (false, 18), (false, 20)] (by kernel_rfl) (by kernel_rfl) (fun _ _ _ d _ h => by cases d <;> exact h) ?_
  have HDR : Hid (Below w'.heap.size w' w'.drew) := Lib.hid ((Grn.refl w').drew 1).below
  have HT : Hid (w'.drew.heap[k.b]? = some (.cells #[.iface T KA, .bool x.busy, .slice va rn vc, .int .i64 z, .int .i64 x.rd, .int .i64 x.wr] 94 (0, 0))) := Lib.hid ((HDR.out.block _ (lt_of_block H1.out)).trans H1.out)
  simp only [List.map_cons, List.map_nil, List.getD_cons_zero, List.getD_cons_succ, List.drop_succ_cons, List.drop_zero]
  generalize w'.drew = V at *
  refine mix_move (.tmp 3) (.pointer (some ⟨k.b, 0, none⟩)) rfl HT.out rfl rfl ?_
  simp only [Act.put, List.setIfInBounds_toArray, List.set_cons_zero, List.set_cons_succ]
  refine mix_take (.pointer (some ⟨k.b, 0, none⟩)) HT.out rfl (fun W' hS => by go_simp) ?_
  simp only [Act.put, List.setIfInBounds_toArray, List.set_cons_zero, List.set_cons_succ]
  refine mix_take (.pointer (some ⟨k.b, 0, none⟩)) HT.out rfl (fun W' hS => by go_simp) ?_
  simp only [Act.put, List.setIfInBounds_toArray, List.set_cons_zero, List.set_cons_succ]
  refine mix_take (.iface T KA) HT.out rfl (fun W' hS => by 
    have l0 := cells_cell (o := 0) hS rfl
    go_simp) ?_
  simp only [Act.put, List.setIfInBounds_toArray, List.set_cons_zero, List.set_cons_succ]
  refine mix_move (.tmp 3) (.pointer (some ⟨k.b, 0, none⟩)) rfl HT.out rfl rfl ?_
  simp only [Act.put, List.setIfInBounds_toArray, List.set_cons_zero, List.set_cons_succ]
  refine mix_take (.pointer (some ⟨k.b, 0, none⟩)) HT.out rfl (fun W' hS => by go_simp) ?_
  simp only [Act.put, List.setIfInBounds_toArray, List.set_cons_zero, List.set_cons_succ]
  refine mix_take (.pointer (some ⟨k.b, 0, none⟩)) HT.out rfl (fun W' hS => by go_simp) ?_
  simp only [Act.put, List.setIfInBounds_toArray, List.set_cons_zero, List.set_cons_succ]
  refine mix_take (.iface T KA) HT.out rfl (fun W' hS => by 
    have l0 := cells_cell (o := 0) hS rfl
    go_simp) ?_
  simp only [Act.put, List.setIfInBounds_toArray, List.set_cons_zero, List.set_cons_succ]
  refine mix_move (.tmp 3) (.pointer (some ⟨k.b, 0, none⟩)) rfl HT.out rfl rfl ?_
  simp only [Act.put, List.setIfInBounds_toArray, List.set_cons_zero, List.set_cons_succ]
  refine mix_take (.pointer (some ⟨k.b, 0, none⟩)) HT.out rfl (fun W' hS => by go_simp) ?_
  simp only [Act.put, List.setIfInBounds_toArray, List.set_cons_zero, List.set_cons_succ]
  refine mix_take (.pointer (some ⟨k.b, 1, none⟩)) HT.out rfl (fun W' hS => by go_simp) ?_
  simp only [Act.put, List.setIfInBounds_toArray, List.set_cons_zero, List.set_cons_succ]
  refine mix_take (.bool x.busy) HT.out rfl (fun W' hS => by 
    have l0 := cells_cell (o := 1) hS rfl
    go_simp) ?_
  simp only [Act.put, List.setIfInBounds_toArray, List.set_cons_zero, List.set_cons_succ]
  refine mix_move (.tmp 3) (.pointer (some ⟨k.b, 0, none⟩)) rfl HT.out rfl rfl ?_
  simp only [Act.put, List.setIfInBounds_toArray, List.set_cons_zero, List.set_cons_succ]
  refine mix_take (.pointer (some ⟨k.b, 0, none⟩)) HT.out rfl (fun W' hS => by go_simp) ?_
  simp only [Act.put, List.setIfInBounds_toArray, List.set_cons_zero, List.set_cons_succ]
  refine mix_take (.pointer (some ⟨k.b, 2, none⟩)) HT.out rfl (fun W' hS => by go_simp) ?_
  simp only [Act.put, List.setIfInBounds_toArray, List.set_cons_zero, List.set_cons_succ]
  refine mix_take (.slice va rn vc) HT.out rfl (fun W' hS => by 
    have l0 := cells_cell (o := 2) hS rfl
    go_simp) ?_
  simp only [Act.put, List.setIfInBounds_toArray, List.set_cons_zero, List.set_cons_succ]
  refine mix_move (.tmp 3) (.pointer (some ⟨k.b, 0, none⟩)) rfl HT.out rfl rfl ?_
  simp only [Act.put, List.setIfInBounds_toArray, List.set_cons_zero, List.set_cons_succ]
  refine mix_move (.tmp 3) (.pointer (some ⟨k.b, 0, none⟩)) rfl HT.out rfl rfl ?_
  simp only [Act.put, List.setIfInBounds_toArray, List.set_cons_zero, List.set_cons_succ]
  refine mix_take (.pointer (some ⟨k.b, 0, none⟩)) HT.out rfl (fun W' hS => by go_simp) ?_
  simp only [Act.put, List.setIfInBounds_toArray, List.set_cons_zero, List.set_cons_succ]
  refine mix_take (.pointer (some ⟨k.b, 4, none⟩)) HT.out rfl (fun W' hS => by go_simp) ?_
  simp only [Act.put, List.setIfInBounds_toArray, List.set_cons_zero, List.set_cons_succ]
  refine mix_take (.pointer (some ⟨k.b, 5, none⟩)) HT.out rfl (fun W' hS => by go_simp) ?_
  simp only [Act.put, List.setIfInBounds_toArray, List.set_cons_zero, List.set_cons_succ]
  refine mix_take (.int .i64 x.wr) HT.out rfl (fun W' hS => by 
    have l0 := cells_cell (o := 5) hS rfl
    go_simp) ?_
  simp only [Act.put, List.setIfInBounds_toArray, List.set_cons_zero, List.set_cons_succ]
  refine mix_move (.tmp 3) (.pointer (some ⟨k.b, 0, none⟩)) rfl HT.out rfl rfl ?_
  simp only [Act.put, List.setIfInBounds_toArray, List.set_cons_zero, List.set_cons_succ]
  refine mix_take (.pointer (some ⟨k.b, 0, none⟩)) HT.out rfl (fun W' hS => by go_simp) ?_
  simp only [Act.put, List.setIfInBounds_toArray, List.set_cons_zero, List.set_cons_succ]
  refine mix_take (.pointer (some ⟨k.b, 4, none⟩)) HT.out rfl (fun W' hS => by go_simp) ?_
  simp only [Act.put, List.setIfInBounds_toArray, List.set_cons_zero, List.set_cons_succ]
  refine mix_take (.pointer (some ⟨k.b, 4, none⟩)) HT.out rfl (fun W' hS => by go_simp) ?_
  simp only [Act.put, List.setIfInBounds_toArray, List.set_cons_zero, List.set_cons_succ]
  refine mix_take (.int .i64 x.rd) HT.out rfl (fun W' hS => by 
    have l0 := cells_cell (o := 4) hS rfl
    go_simp) ?_
  simp only [Act.put, List.setIfInBounds_toArray, List.set_cons_zero, List.set_cons_succ]
  refine mix_step rfl (fun K4 hK => ?_)
  have hxV := H.out.grown HDR.out
  have hcp := capK_any hxV.kd
  rw [← HK.out.2.1, ← HK.out.2.2.1] at hcp
  have HXV := Lib.hid hxV
  have HCP := Lib.hid hcp
  clear hxV hcp
  refine opwp_invoke (.tmp 15) "Cap" #[] #[] rfl (.iface T KA) [] rfl rfl fC #[KR] (HCAP.out _) ?_
  refine HCP.out.mono ?_
  rintro e w4 ⟨rfl, hb4⟩
  have HB4 := Lib.hid hb4
  have HT4 : Hid (w4.heap[k.b]? = some (.cells #[.iface T KA, .bool x.busy, .slice va rn vc, .int .i64 z, .int .i64 x.rd, .int .i64 x.wr] 94 (0, 0))) := Lib.hid ((hb4.block _ (lt_of_block HT.out)).trans HT.out)
  clear hb4
  refine ⟨_, rfl, hK _ _ HT4.out ?_⟩
  clear hK K4
  refine mix_step rfl (fun K9 hK => ?_)
  have hx4 := HXV.out.grown HB4.out
  have hhd := held_any hx4.kd
  rw [← HK.out.1, ← HK.out.2.2.2.1] at hhd
  have HX4 := Lib.hid hx4
  have HHD := Lib.hid hhd
  clear hx4 hhd
  refine opwp_invoke (.tmp 20) "aqueduct/stream.held" #[] #[] rfl (.iface T KA) [] rfl rfl fH #[KA] (HHELD.out _) ?_
  refine HHD.out.mono ?_
  rintro e w9 ⟨v9, rfl, hr9, hb9⟩
  have HB9 := Lib.hid hb9
  have HR9 := Lib.hid hr9
  have HT9 : Hid (w9.heap[k.b]? = some (.cells #[.iface T KA, .bool x.busy, .slice va rn vc, .int .i64 z, .int .i64 x.rd, .int .i64 x.wr] 94 (0, 0))) := Lib.hid ((hb9.block _ (lt_of_block HT4.out)).trans HT4.out)
  obtain ⟨sa, sn, sc, rfl⟩ := row_form hr9
  clear hr9 hb9
  refine ⟨_, rfl, hK _ _ HT9.out ?_⟩
  clear hK K9
  refine mix_step rfl (fun K18 hK => ?_)
  have hx9 := HX4.out.grown HB9.out
  have hpc := (((H2.out.grown HDR.out).grown HB4.out).grown HB9.out).src
  have HX9 := Lib.hid hx9
  have HCL := Lib.hid (clone_any hpc (by have := H.out.ok.small; omega))
  clear hx9 hpc
  go_simp
  go_wp2_with (go_at_call 51; fail)
  refine HCL.out.mono ?_
  rintro e w18 ⟨v18, rfl, hr18, hb18⟩
  have HB18 := Lib.hid hb18
  have HR18 := Lib.hid hr18
  have HT18 : Hid (w18.heap[k.b]? = some (.cells #[.iface T KA, .bool x.busy, .slice va rn vc, .int .i64 z, .int .i64 x.rd, .int .i64 x.wr] 94 (0, 0))) := Lib.hid ((hb18.block _ (lt_of_block HT9.out)).trans HT9.out)
  obtain ⟨ra, rm, rc, rfl⟩ := row_form hr18
  clear hr18 hb18
  refine hK _ _ HT18.out ?_
  clear hK K18
  refine mix_step rfl (fun K20 hK => ?_)
  have hac := stAccepted_any (HX9.out.grown HB18.out)
  rw [← HK.out.2.2.2.2.2] at hac
  have HAC := Lib.hid hac
  clear hac
  unfold pt at HAC
  go_simp
  go_wp2_with (go_at_call 58; fail)
  refine HAC.out.mono ?_
  rintro e w20 ⟨rfl, hb20⟩
  have HB20 := Lib.hid hb20
  have HT20 : Hid (w20.heap[k.b]? = some (.cells #[.iface T KA, .bool x.busy, .slice va rn vc, .int .i64 z, .int .i64 x.rd, .int .i64 x.wr] 94 (0, 0))) := Lib.hid ((hb20.block _ (lt_of_block HT18.out)).trans HT18.out)
  clear hb20
  refine hK _ _ HT20.out ?_
  clear hK K20
  refine mix_nil ?_
  have hsz1 := HDR.out.size
  have hsz2 := HB4.out.size
  have hsz3 := HB9.out.size
  have hsz4 := HB18.out.size
  have hsz5 := HB20.out.size
  have hsz0 := HB.out.size
  have hl := lt_of_block HBK.out
  have hb9' : Below w'.heap.size w' w20 := (((HDR.out.trans (HB4.out.mono hsz1)).trans (HB9.out.mono (by omega))).trans (HB18.out.mono (by omega))).trans (HB20.out.mono (by omega))
  have hres := (hb9'.block _ hl).trans HBK.out
  have HRES := Lib.hid hres
  have HALL := Lib.hid hb9'
  have HRS : Hid (RowB w20 V.heap.size (.slice sa sn sc) x.S) := Lib.hid (RowV.lower ((HR9.out.grown HB18.out).grown HB20.out) (by omega))
  have HRR : Hid (RowB w20 V.heap.size (.slice ra rm rc) x.R) := Lib.hid (RowV.lower (HR18.out.grown HB20.out) (by omega))
  have HSZ : Hid (w.heap.size ≤ V.heap.size ∧ w.heap.size < V.heap.size) := Lib.hid ⟨by omega, by omega⟩
  have y0 := cells_free hres 0
  have y1 := cells_free hres 1
  have y2 := cells_free hres 2
  have y3 := cells_free hres 3
  have y4 := cells_free hres 4
  have y5 := cells_free hres 5
  have y6 := cells_free hres 6
  have hl2 := lt_of_block hres
  have g0 := cells_cell (o := 0) hres rfl
  have g1 := cells_cell (o := 1) hres rfl
  have g2 := cells_cell (o := 2) hres rfl
  have g3 := cells_cell (o := 3) hres rfl
  have g4 := cells_cell (o := 4) hres rfl
  have g5 := cells_cell (o := 5) hres rfl
  have g6 := cells_cell (o := 6) hres rfl
  clear hsz1 hsz2 hsz3 hsz4 hsz5 hsz0 hl hb9'
  go_wp2_with fail
  have eF := (cells_set (cells_set (cells_set (cells_set (cells_set (cells_set (cells_set HRES.out 0 (.int .i64 (x.c : Nat))) 1 (.slice sa sn sc)) 2 (.bool x.busy)) 3 (.slice ra rm rc)) 4 (.int .i64 (a : Nat))) 5 (.int .i64 x.wr)) 6 (.int .i64 x.rd))
  have fF : Fr [w.heap.size] w20 (((((((w20.setCell ⟨w.heap.size, 0, none⟩ (.int .i64 (x.c : Nat))).setCell ⟨w.heap.size, 1, none⟩ (.slice sa sn sc)).setCell ⟨w.heap.size, 2, none⟩ (.bool x.busy)).setCell ⟨w.heap.size, 3, none⟩ (.slice ra rm rc)).setCell ⟨w.heap.size, 4, none⟩ (.int .i64 (a : Nat))).setCell ⟨w.heap.size, 5, none⟩ (.int .i64 x.wr)).setCell ⟨w.heap.size, 6, none⟩ (.int .i64 x.rd)) := ((((((fr_setCell w20 ⟨w.heap.size, 0, none⟩ (.int .i64 (x.c : Nat))).trans' (fr_setCell _ ⟨w.heap.size, 1, none⟩ (.slice sa sn sc))).trans' (fr_setCell _ ⟨w.heap.size, 2, none⟩ (.bool x.busy))).trans' (fr_setCell _ ⟨w.heap.size, 3, none⟩ (.slice ra rm rc))).trans' (fr_setCell _ ⟨w.heap.size, 4, none⟩ (.int .i64 (a : Nat)))).trans' (fr_setCell _ ⟨w.heap.size, 5, none⟩ (.int .i64 x.wr))).trans' (fr_setCell _ ⟨w.heap.size, 6, none⟩ (.int .i64 x.rd))
  obtain ⟨WF, hWF⟩ : ∃ WF, WF = (((((((w20.setCell ⟨w.heap.size, 0, none⟩ (.int .i64 (x.c : Nat))).setCell ⟨w.heap.size, 1, none⟩ (.slice sa sn sc)).setCell ⟨w.heap.size, 2, none⟩ (.bool x.busy)).setCell ⟨w.heap.size, 3, none⟩ (.slice ra rm rc)).setCell ⟨w.heap.size, 4, none⟩ (.int .i64 (a : Nat))).setCell ⟨w.heap.size, 5, none⟩ (.int .i64 x.wr)).setCell ⟨w.heap.size, 6, none⟩ (.int .i64 x.rd)) := ⟨_, rfl⟩
  rw [← hWF] at eF fF ⊢
  clear hWF
  have eG : WF.heap[w.heap.size]? = some (.cells #[.int .i64 (x.c : Nat), .slice sa sn sc, .bool x.busy, .slice ra rm rc, .int .i64 (a : Nat), .int .i64 x.wr, .int .i64 x.rd] 31 (0, 0)) := by simpa using eF
  have s0 := cells_cell (o := 0) eG rfl
  have s1 := cells_cell (o := 1) eG rfl
  have s2 := cells_cell (o := 2) eG rfl
  have s3 := cells_cell (o := 3) eG rfl
  have s4 := cells_cell (o := 4) eG rfl
  have s5 := cells_cell (o := 5) eG rfl
  have s6 := cells_cell (o := 6) eG rfl
  refine bodyPost_ret (v := .agg #[.int .i64 (x.c : Nat), .slice sa sn sc, .bool x.busy, .slice ra rm rc, .int .i64 (a : Nat), .int .i64 x.wr, .int .i64 x.rd]) (by simp [results, Try.results27, go_sem, s0, s1, s2, s3, s4, s5, s6]) rfl ⟨.slice sa sn sc, .slice ra rm rc, ?_, ?_, ?_, ?_⟩
  · rw [HK.out.2.2.2.2.2]; rfl
  · exact RowV.lower (fF.row HRS.out (fun g hg hm => by have := (HRS.out.lt g hg).1; have := HSZ.out; simp only [List.mem_singleton] at hm; omega)) HSZ.out.1
  · exact RowV.lower (fF.row HRR.out (fun g hg hm => by have := (HRR.out.lt g hg).1; have := HSZ.out; simp only [List.mem_singleton] at hm; omega)) HSZ.out.1
  · exact (HB.out.trans (HALL.out.mono HB.out.size)).trans (fF.below (by simp) (by have := HALL.out.size; have := HB.out.size; omega))
theorem stState_no {v : Value} (h : NoS w v) : Calls Try.prog 27 #[v] w fun e w' => e = .returned ((Rw.mk 0 [] false [] 0 0 0).val (.slice none 0 0) (.slice none 0 0)) ∧ Below w.heap.size w w' := by
  obtain ⟨W, hW⟩ : ∃ W, W = w.alloc (.cells #[.int .i64 0, .slice none 0 0, .bool false, .slice none 0 0, .int .i64 0, .int .i64 0, .int .i64 0] 31) := ⟨_, rfl⟩
  have hbb : Below w.heap.size w W := by rw [hW]; exact below_alloc _ _
  have hblk : W.heap[w.heap.size]? = some (.cells #[.int .i64 0, .slice none 0 0, .bool false, .slice none 0 0, .int .i64 0, .int .i64 0, .int .i64 0] 31 (0, 0)) := by rw [hW]; exact heap_alloc_new w _
  have hu := Lib.hid (stUsable_no (h.grown hbb))
  obtain ⟨a, rfl⟩ : ∃ a, v = .pointer a := by rcases h with h | ⟨q, h, _⟩ <;> exact ⟨_, h⟩
  have HB := Lib.hid hbb
  have HBK := Lib.hid hblk
  have HW := Lib.hid hW.symm
  have y0 := cells_free hblk 0
  have g0 := cells_cell (o := 0) hblk rfl
  have y1 := cells_free hblk 1
  have g1 := cells_cell (o := 1) hblk rfl
  have y2 := cells_free hblk 2
  have g2 := cells_cell (o := 2) hblk rfl
  have y3 := cells_free hblk 3
  have g3 := cells_cell (o := 3) hblk rfl
  have y4 := cells_free hblk 4
  have g4 := cells_cell (o := 4) hblk rfl
  have y5 := cells_free hblk 5
  have g5 := cells_cell (o := 5) hblk rfl
  have y6 := cells_free hblk 6
  have g6 := cells_cell (o := 6) hblk rfl
  have hl2 := lt_of_block hblk
  clear h hbb hblk hW
  go_enter Try.func27, Try.ntmps27
  go_upto_region 1 with fail
  rw [HW.out]
  go_wp2_with (go_at_call 57; refine hu.out.mono ?_; rintro e w' ⟨rfl, hw'⟩; subst hw')
  have eF := (cells_set (cells_set (cells_set (cells_set (cells_set (cells_set (cells_set HBK.out 0 (.int .i64 0)) 1 (.slice none 0 0)) 2 (.bool false)) 3 (.slice none 0 0)) 4 (.int .i64 0)) 5 (.int .i64 0)) 6 (.int .i64 0))
  have fF : Fr [w.heap.size] w' (((((((w'.setCell ⟨w.heap.size, 0, none⟩ (.int .i64 0)).setCell ⟨w.heap.size, 1, none⟩ (.slice none 0 0)).setCell ⟨w.heap.size, 2, none⟩ (.bool false)).setCell ⟨w.heap.size, 3, none⟩ (.slice none 0 0)).setCell ⟨w.heap.size, 4, none⟩ (.int .i64 0)).setCell ⟨w.heap.size, 5, none⟩ (.int .i64 0)).setCell ⟨w.heap.size, 6, none⟩ (.int .i64 0)) := ((((((fr_setCell w' ⟨w.heap.size, 0, none⟩ (.int .i64 0)).trans' (fr_setCell _ ⟨w.heap.size, 1, none⟩ (.slice none 0 0))).trans' (fr_setCell _ ⟨w.heap.size, 2, none⟩ (.bool false))).trans' (fr_setCell _ ⟨w.heap.size, 3, none⟩ (.slice none 0 0))).trans' (fr_setCell _ ⟨w.heap.size, 4, none⟩ (.int .i64 0))).trans' (fr_setCell _ ⟨w.heap.size, 5, none⟩ (.int .i64 0))).trans' (fr_setCell _ ⟨w.heap.size, 6, none⟩ (.int .i64 0))
  obtain ⟨WF, hWF⟩ : ∃ WF, WF = (((((((w'.setCell ⟨w.heap.size, 0, none⟩ (.int .i64 0)).setCell ⟨w.heap.size, 1, none⟩ (.slice none 0 0)).setCell ⟨w.heap.size, 2, none⟩ (.bool false)).setCell ⟨w.heap.size, 3, none⟩ (.slice none 0 0)).setCell ⟨w.heap.size, 4, none⟩ (.int .i64 0)).setCell ⟨w.heap.size, 5, none⟩ (.int .i64 0)).setCell ⟨w.heap.size, 6, none⟩ (.int .i64 0)) := ⟨_, rfl⟩
  rw [← hWF] at eF fF ⊢
  clear hWF
  have eG : WF.heap[w.heap.size]? = some (.cells #[.int .i64 0, .slice none 0 0, .bool false, .slice none 0 0, .int .i64 0, .int .i64 0, .int .i64 0] 31 (0, 0)) := by simpa using eF
  have s0 := cells_cell (o := 0) eG rfl
  have s1 := cells_cell (o := 1) eG rfl
  have s2 := cells_cell (o := 2) eG rfl
  have s3 := cells_cell (o := 3) eG rfl
  have s4 := cells_cell (o := 4) eG rfl
  have s5 := cells_cell (o := 5) eG rfl
  have s6 := cells_cell (o := 6) eG rfl
  refine bodyPost_ret (v := .agg #[.int .i64 0, .slice none 0 0, .bool false, .slice none 0 0, .int .i64 0, .int .i64 0, .int .i64 0]) (by simp [results, Try.results27, go_sem, s0, s1, s2, s3, s4, s5, s6]) rfl ⟨rfl, ?_⟩
  exact HB.out.trans (fF.below (by simp) HB.out.size)
theorem stCopy_no {v : Value} (h : NoS w v) : Calls Try.prog 28 #[v] w fun e w' => e = .returned (.pointer none) ∧ w' = w := by
  have hu := Lib.hid (stUsable_no h)
  obtain ⟨a, rfl⟩ : ∃ a, v = .pointer a := by rcases h with h | ⟨q, h, _⟩ <;> exact ⟨_, h⟩
  clear h
  go_enter Try.func28, Try.ntmps28
  go_wp2_with (go_at_call 57; refine hu.out.mono ?_; rintro e w' ⟨rfl, rfl⟩)
  go_ret
  exact ⟨rfl, rfl⟩
theorem stCopy_any (h : SAt w m k x) : Calls Try.prog 28 #[pt m] w fun e w' => ∃ m' k', e = .returned (pt m') ∧ SAt w' m' k' x ∧ (∀ i ∈ m' :: k'.A, w.heap.size ≤ i) ∧ Below w.heap.size w w' := by
  have hu := Lib.hid (stUsable_yes h)
  have hs := Lib.hid (stState_any h)
  have H := Lib.hid h
  clear h
  unfold pt at hu hs ⊢
  go_enter Try.func28, Try.ntmps28
  go_wp2_with (first
    | (go_at_call 57; refine hu.out.mono ?_; rintro e w' ⟨rfl, rfl⟩)
    | (go_at_call 27; fail))
  refine hs.out.mono ?_
  rintro e w2 ⟨vS, vR, rfl, h1, h2, h3⟩
  obtain ⟨g, hg, hgo⟩ := RowB.pieceG h1 0
  have hre := stRestore_ok (w := w2) H.out.ok hg (RowV.src h2) (by rcases hgo with hgo | hgo <;> omega)
  have HRE := Lib.hid hre
  have HB2 := Lib.hid h3
  clear h1 h2 h3 hg hgo hre
  unfold Rw.val at *
  go_wp2_with (go_at_call 15; fail)
  refine HRE.out.mono ?_
  rintro e w3 ⟨m', k', rfl, h1, h2, h3⟩
  have hsz := HB2.out.size
  have HH := Lib.hid (And.intro h1 (And.intro (show ∀ i ∈ m' :: k'.A, _ ≤ i from fun i hi => Nat.le_trans hsz (h2 i hi)) (HB2.out.trans (h3.mono hsz))))
  clear h1 h2 h3
  unfold pt
  go_wp2_with fail
  go_ret
  exact ⟨m', k', rfl, HH.out⟩
end
end Go.Proofs.Yteimjkmjofaieaa
