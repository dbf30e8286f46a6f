/- kindOf, Restore, New, State, Copy. -/
import Derived.Test.YteimjkmjofaieaaYVal
namespace Go.Proofs.Yteimjkmjofaieaa
open Go.RowKit Go.Sort
set_option linter.unusedVariables false
set_option linter.unusedSimpArgs false
set_option maxRecDepth 100000

theorem stKindOf_any (w : World) {c : Nat} (h : c ≤ 4096) : Calls Try.prog 50 #[.int .i64 (c : Nat)] w fun e w' => ∃ q, e = .returned (kindV q) ∧ KAt w' q c [] ∧ (∀ i ∈ kO q, w.heap.size ≤ i) ∧ Below w.heap.size w w' := by
  by_cases h0 : c = 0
  · subst h0
    go_enter Try.func50, Try.ntmps50
    go_wp2_with fail
    go_ret
    exact ⟨none, rfl, ⟨rfl, rfl⟩, by simp [kO], Below.refl _ _⟩
  · have q0 : ((c : Int) == 0) = false := by simp; omega
    have hn := Lib.hid (rgNew_ok w (c := c) (by omega) h)
    have H := Lib.hid (And.intro h h0)
    clear h h0
    go_enter Try.func50, Try.ntmps50
    go_wp2_with (go_at_call 65; fail)
    refine hn.out.mono ?_
    rintro e w' ⟨a, bb, cc, rfl, h1, h2, h3, h4, h5⟩
    have HH := Lib.hid (And.intro h1 (And.intro h2 (And.intro h3 (And.intro h4 h5))))
    clear h1 h2 h3 h4 h5
    unfold pt
    go_wp2_with fail
    go_ret
    refine ⟨some (a, bb, cc), rfl, ⟨by have := H.out.2; omega, H.out.1, HH.out.1⟩, ?_, HH.out.2.2.2.2⟩
    intro i hi
    have := HH.out
    simp only [kO, List.mem_cons, List.not_mem_nil, or_false] at hi
    rcases hi with rfl | rfl | rfl
    · exact this.2.1
    · exact this.2.2.1
    · exact this.2.2.2.1
theorem stRestore_bad {w : World} {r : Rw} (hr : r.ok = false) {vS vR : Value} (hS : SrcV w vS (r.S.map encB)) (hR : SrcV w vR (r.R.map encB)) :
    Calls Try.prog 15 #[r.val vS vR] w fun e w' => e = .returned (.tuple #[.pointer none, .int .i64 2]) ∧ Below w.heap.size w w' := by
  obtain ⟨s1, s3, rfl, q1, q2⟩ := hS.form
  obtain ⟨r1, r3, rfl, q3, q4⟩ := hR.form
  simp only [List.length_map] at q1 q3 hS hR ⊢
  unfold Rw.val
  unfold Rw.ok at hr
  obtain ⟨W, hW⟩ : ∃ W, W = w.alloc (.cells #[.int .i64 r.c, .slice s1 r.S.length s3, .bool r.busy, .slice r1 r.R.length r3, .int .i64 r.a, .int .i64 r.wr, .int .i64 r.rd] 31) := ⟨_, rfl⟩
  have hbb : Below w.heap.size w W := by rw [hW]; exact below_alloc _ _
  have hblk : W.heap[w.heap.size]? = some (.cells #[.int .i64 r.c, .slice s1 r.S.length s3, .bool r.busy, .slice r1 r.R.length r3, .int .i64 r.a, .int .i64 r.wr, .int .i64 r.rd] 31 (0, 0)) := by rw [hW]; exact heap_alloc_new w _
  have hv := stValid_core W r.c r.busy s1 r.S.length s3 r1 r.R.length r3 r.a r.wr r.rd q3 q4
  rw [hr] at hv
  have HV := Lib.hid hv
  have HB := Lib.hid hbb
  have HW := Lib.hid hW.symm
  have k0 := cells_cell (o := 0) hblk rfl
  have k1 := cells_cell (o := 1) hblk rfl
  have k2 := cells_cell (o := 2) hblk rfl
  have k3 := cells_cell (o := 3) hblk rfl
  have k4 := cells_cell (o := 4) hblk rfl
  have k5 := cells_cell (o := 5) hblk rfl
  have k6 := cells_cell (o := 6) hblk rfl
  generalize r.S.length = n at *
  generalize r.R.length = rn at *
  clear hW hbb hblk hv hr hS hR q1 q2 q3 q4
  go_enter Try.func15, Try.ntmps15
  go_upto_region 1 with fail
  rw [HW.out]
  go_wp2_with (go_at_call 16; fail)
  refine HV.out.mono ?_
  rintro e w1 ⟨rfl, hb1⟩
  have HB1 := Lib.hid hb1
  clear hb1
  go_wp2_with fail
  go_ret2
  exact ⟨rfl, HB.out.trans (HB1.out.mono HB.out.size)⟩
set_option maxHeartbeats 6400000 in
theorem stRestore_ok {w : World} {x : St} (ok : x.Ok) {vS vR : Value} {gS : Nat} (hS : PieceG w vS x.S gS) (hR : SrcV w vR (x.R.map encB)) (hgS : gS ≤ w.heap.size) :
    Calls Try.prog 15 #[x.rw.val vS vR] w fun e w' => ∃ m k, e = .returned (.tuple #[pt m, .int .i64 0]) ∧ SAt w' m k x ∧ (∀ i ∈ m :: k.A, w.heap.size ≤ i) ∧ Below w.heap.size w w' := by
  obtain ⟨s1, s3, rfl, q1, q2⟩ := hS.form
  obtain ⟨r1, r3, rfl, q3, q4⟩ := hR.form
  simp only [List.length_map] at q3 hR ⊢
  unfold Rw.val St.rw
  have hok := (Rw.ok_iff x.rw).2 ⟨by show St.Ok ⟨_, _, _, _, _, _, _⟩; simpa [St.rw] using ok, by simp [Rw.st, St.rw]⟩
  unfold Rw.ok St.rw at hok
  simp only at hok ⊢
  obtain ⟨rn, hrn⟩ : ∃ n, n = x.R.length := ⟨_, rfl⟩
  obtain ⟨a, ha⟩ : ∃ a, a = x.a := ⟨_, rfl⟩
  have hsm := ok.small
  rw [← hrn, ← ha] at hsm
  rw [← hrn, ← ha] at hok ⊢
  rw [← hrn] at q3 hR
  obtain ⟨W, hW⟩ : ∃ W, W = w.alloc (.cells #[.int .i64 (x.c : Nat), .slice s1 x.S.length s3, .bool x.busy, .slice r1 rn r3, .int .i64 (a : Nat), .int .i64 x.wr, .int .i64 x.rd] 31) := ⟨_, rfl⟩
  have hbb : Below w.heap.size w W := by rw [hW]; exact below_alloc _ _
  have hblk : W.heap[w.heap.size]? = some (.cells #[.int .i64 (x.c : Nat), .slice s1 x.S.length s3, .bool x.busy, .slice r1 rn r3, .int .i64 (a : Nat), .int .i64 x.wr, .int .i64 x.rd] 31 (0, 0)) := by rw [hW]; exact heap_alloc_new w _
  have hv := stValid_core W x.c x.busy s1 x.S.length s3 r1 rn r3 a x.wr x.rd q3 q4
  rw [hok] at hv
  have HV := Lib.hid hv
  have HB := Lib.hid hbb
  have HBK := Lib.hid hblk
  have HW := Lib.hid hW.symm
  have HOK := Lib.hid ok
  have HS := Lib.hid hS
  have HR := Lib.hid hR
  have HRN := Lib.hid hrn
  have HA := Lib.hid ha
  have HGS := Lib.hid hgS
  have e1 : (a : Int) ≤ 65536 := by omega
  have e2 : (rn : Int) ≤ 65536 := by omega
  have e3 : IntKind.i64.wrap ((a : Int) + (rn : Int)) = (a : Int) + (rn : Int) := IntWalk.i64_in _ (by omega)
  have k0 := cells_cell (o := 0) hblk rfl
  have k1 := cells_cell (o := 1) hblk rfl
  have k2 := cells_cell (o := 2) hblk rfl
  have k3 := cells_cell (o := 3) hblk rfl
  have k4 := cells_cell (o := 4) hblk rfl
  have k5 := cells_cell (o := 5) hblk rfl
  have k6 := cells_cell (o := 6) hblk rfl
  clear hW hbb hblk hv hok hS hR q1 q2 q3 q4 hrn ha hsm ok hgS
  go_enter Try.func15, Try.ntmps15
  go_upto_region 1 with fail
  rw [HW.out]
  go_wp2_with (go_at_call 16; fail)
  refine HV.out.mono ?_
  rintro e w1 ⟨rfl, hb1⟩
  have HB1 := Lib.hid hb1
  have HBK1 : Hid (w1.heap[w.heap.size]? = some (.cells #[.int .i64 (x.c : Nat), .slice s1 x.S.length s3, .bool x.busy, .slice r1 rn r3, .int .i64 (a : Nat), .int .i64 x.wr, .int .i64 x.rd] 31 (0, 0))) := Lib.hid ((hb1.block _ (lt_of_block HBK.out)).trans HBK.out)
  clear hb1
  go_wp2_with fail
  refine wp_region_mix (fun W' => W'.heap[w.heap.size]? = some (.cells #[.int .i64 (x.c : Nat), .slice s1 x.S.length s3, .bool x.busy, .slice r1 rn r3, .int .i64 (a : Nat), .int .i64 x.wr, .int .i64 x.rd] 31 (0, 0))) 19 [(true, 0), (true, 1), (true, 3), (true, 4), (true, 5), (true, 6), (true, 8), (true, 9), (true, 10), (true, 11), (true, 12), (true, 13), (true, 14), (true, 15), (true, 16), (true, 17), (true, 18), (false, 2), (false, 7)] (by kernel_rfl) (by kernel_rfl) (fun _ _ _ d _ h => by cases d <;> exact h) ?_
  have HDR : Hid (Below w1.heap.size w1 w1.drew) := Lib.hid ((Grn.refl w1).drew 1).below
  have HT : Hid (w1.drew.heap[w.heap.size]? = some (.cells #[.int .i64 (x.c : Nat), .slice s1 x.S.length s3, .bool x.busy, .slice r1 rn r3, .int .i64 (a : Nat), .int .i64 x.wr, .int .i64 x.rd] 31 (0, 0))) := Lib.hid ((HDR.out.block _ (lt_of_block HBK1.out)).trans HBK1.out)
  simp only [List.map_cons, List.map_nil, List.getD_cons_zero, List.getD_cons_succ, List.drop_succ_cons, List.drop_zero]
  generalize w1.drew = V at *
  refine mix_take (.pointer (some ⟨w.heap.size, 0, none⟩)) HT.out rfl (fun W' hS => by go_simp) ?_
  simp only [Act.put, List.setIfInBounds_toArray, List.set_cons_zero, List.set_cons_succ]
  refine mix_take (.int .i64 (x.c : Nat)) HT.out rfl (fun W' hS => by 
    have l0 := cells_cell (o := 0) hS rfl
    go_simp) ?_
  simp only [Act.put, List.setIfInBounds_toArray, List.set_cons_zero, List.set_cons_succ]
  refine mix_take (.pointer (some ⟨w.heap.size, 2, none⟩)) HT.out rfl (fun W' hS => by go_simp) ?_
  simp only [Act.put, List.setIfInBounds_toArray, List.set_cons_zero, List.set_cons_succ]
  refine mix_take (.bool x.busy) HT.out rfl (fun W' hS => by 
    have l0 := cells_cell (o := 2) hS rfl
    go_simp) ?_
  simp only [Act.put, List.setIfInBounds_toArray, List.set_cons_zero, List.set_cons_succ]
  refine mix_take (.pointer (some ⟨w.heap.size, 3, none⟩)) HT.out rfl (fun W' hS => by go_simp) ?_
  simp only [Act.put, List.setIfInBounds_toArray, List.set_cons_zero, List.set_cons_succ]
  refine mix_take (.slice r1 rn r3) HT.out rfl (fun W' hS => by 
    have l0 := cells_cell (o := 3) hS rfl
    go_simp) ?_
  simp only [Act.put, List.setIfInBounds_toArray, List.set_cons_zero, List.set_cons_succ]
  refine mix_take (.pointer (some ⟨w.heap.size, 4, none⟩)) HT.out rfl (fun W' hS => by go_simp) ?_
  simp only [Act.put, List.setIfInBounds_toArray, List.set_cons_zero, List.set_cons_succ]
  refine mix_take (.int .i64 (a : Nat)) HT.out rfl (fun W' hS => by 
    have l0 := cells_cell (o := 4) hS rfl
    go_simp) ?_
  simp only [Act.put, List.setIfInBounds_toArray, List.set_cons_zero, List.set_cons_succ]
  refine mix_take (.pointer (some ⟨w.heap.size, 3, none⟩)) HT.out rfl (fun W' hS => by go_simp) ?_
  simp only [Act.put, List.setIfInBounds_toArray, List.set_cons_zero, List.set_cons_succ]
  refine mix_take (.slice r1 rn r3) HT.out rfl (fun W' hS => by 
    have l0 := cells_cell (o := 3) hS rfl
    go_simp) ?_
  simp only [Act.put, List.setIfInBounds_toArray, List.set_cons_zero, List.set_cons_succ]
  refine mix_take (.int .i64 (rn : Nat)) HT.out rfl (fun W' hS => by go_simp) ?_
  simp only [Act.put, List.setIfInBounds_toArray, List.set_cons_zero, List.set_cons_succ]
  refine mix_take (.int .i64 ((a : Int) + (rn : Int))) HT.out rfl (fun W' hS => by go_simp) ?_
  simp only [Act.put, List.setIfInBounds_toArray, List.set_cons_zero, List.set_cons_succ]
  refine mix_take (.pointer (some ⟨w.heap.size, 5, none⟩)) HT.out rfl (fun W' hS => by go_simp) ?_
  simp only [Act.put, List.setIfInBounds_toArray, List.set_cons_zero, List.set_cons_succ]
  refine mix_take (.int .i64 x.wr) HT.out rfl (fun W' hS => by 
    have l0 := cells_cell (o := 5) hS rfl
    go_simp) ?_
  simp only [Act.put, List.setIfInBounds_toArray, List.set_cons_zero, List.set_cons_succ]
  refine mix_take (.pointer (some ⟨w.heap.size, 6, none⟩)) HT.out rfl (fun W' hS => by go_simp) ?_
  simp only [Act.put, List.setIfInBounds_toArray, List.set_cons_zero, List.set_cons_succ]
  refine mix_take (.int .i64 x.rd) HT.out rfl (fun W' hS => by 
    have l0 := cells_cell (o := 6) hS rfl
    go_simp) ?_
  simp only [Act.put, List.setIfInBounds_toArray, List.set_cons_zero, List.set_cons_succ]
  refine mix_take (.agg #[.int .i64 x.rd, .int .i64 x.wr]) HT.out rfl (fun W' hS => by go_simp) ?_
  simp only [Act.put, List.setIfInBounds_toArray, List.set_cons_zero, List.set_cons_succ]
  refine mix_step rfl (fun K2 hK => ?_)
  go_simp
  go_wp2_with (go_at_call 50; fail)
  refine (stKindOf_any V HOK.out.top).mono ?_
  rintro e w2 ⟨q, rfl, hk2, hn2, hb2⟩
  obtain ⟨T, hT⟩ := knd q
  have hfil := hT.fill
  rw [hT.val]
  obtain ⟨KA, hKA⟩ : ∃ v, v = kindA q := ⟨_, rfl⟩
  obtain ⟨fF, hfF⟩ : ∃ f, f = fillF q := ⟨_, rfl⟩
  rw [← hKA, ← hfF] at hfil
  rw [← hKA]
  have HKA := Lib.hid hKA
  have HFF := Lib.hid hfF
  have HK2 := Lib.hid hk2
  have HN2 := Lib.hid hn2
  have HB2 := Lib.hid hb2
  have HTT := Lib.hid hT
  have HFIL := Lib.hid hfil
  have HT2 : Hid (w2.heap[w.heap.size]? = some (.cells #[.int .i64 (x.c : Nat), .slice s1 x.S.length s3, .bool x.busy, .slice r1 rn r3, .int .i64 (a : Nat), .int .i64 x.wr, .int .i64 x.rd] 31 (0, 0))) := Lib.hid ((hb2.block _ (lt_of_block HT.out)).trans HT.out)
  have HA2 : Hid (Below w.heap.size w w2) := Lib.hid (HB.out.trans (((HB1.out.trans (HDR.out.mono HB1.out.size)).trans (hb2.mono (by have := HB1.out.size; have := HDR.out.size; omega))).mono HB.out.size))
  clear hKA hfF hk2 hn2 hb2 hT hfil
  refine hK _ _ HT2.out ?_
  clear hK K2
  refine mix_step rfl (fun K7 hK => ?_)
  go_simp
  go_wp2_with (go_at_call 51; fail)
  refine (by have q := clone_any (HR.out.grown HA2.out) (by rw [← HRN.out]; omega); exact q : Calls _ _ _ _ _).mono ?_
  rintro e w3 ⟨v3, rfl, hrow, hb3⟩
  obtain ⟨ra, rn', rc, rfl, hrn'⟩ : ∃ a n c, v3 = .slice a n c ∧ n = rn := by
    obtain ⟨a, c, e, _⟩ := hrow.form
    exact ⟨_, _, _, e, HRN.out.symm⟩
  rw [hrn'] at hrow ⊢
  clear hrn'
  have HROW := Lib.hid hrow
  have HB3 := Lib.hid hb3
  have HT3 : Hid (w3.heap[w.heap.size]? = some (.cells #[.int .i64 (x.c : Nat), .slice s1 x.S.length s3, .bool x.busy, .slice r1 rn r3, .int .i64 (a : Nat), .int .i64 x.wr, .int .i64 x.rd] 31 (0, 0))) := Lib.hid ((hb3.block _ (lt_of_block HT2.out)).trans HT2.out)
  have HA3 : Hid (Below w.heap.size w w3) := Lib.hid (HA2.out.trans (hb3.mono HA2.out.size))
  clear hrow hb3
  refine hK _ _ HT3.out ?_
  clear hK K7
  refine mix_nil ?_
  have l1 := cells_cell (o := 1) HT3.out rfl
  have hl3 := lt_of_block HT3.out
  have hgS3 : gS < w3.heap.size := by have := HGS.out; omega
  have HFL : Hid (∀ W, Below w3.heap.size w3 W → W.heap[w3.heap.size + 1]? = some (.cells #[.slice s1 x.S.length s3] 92 (0, 0)) → Calls Try.prog fF #[KA, .pointer (some ⟨w3.heap.size + 1, 0, none⟩)] W fun e w' => e = .returned (.tuple #[]) ∧ KAt w' q x.c x.S ∧ Fr ((w3.heap.size + 1) :: kF q) W w') := Lib.hid (fun W hb hbk => by
    have hkW : KAt W q x.c [] := (HK2.out.fr (Fr.of_below HB3.out []) (by simp)).fr (Fr.of_below hb []) (by simp)
    have hpW : PieceG W (.slice s1 x.S.length s3) x.S gS := (HS.out.grown HA3.out).grown hb
    have hq := fill_any hkW (⟨hbk, rfl, hpW, fun aa bb cc hq => by
      have h1 := HN2.out cc (by rw [hq]; simp [kO])
      have h2 := HGS.out
      have h3 := HB.out.size
      have h4 := HB1.out.size
      have h5 := HDR.out.size
      have h6 := lt_of_block HBK.out
      omega, by decide, by decide, by decide⟩ : RestAt W q (w3.heap.size + 1) 0 _ _ _ _ _) (by have := HOK.out.le; have := HOK.out.top; omega)
    rw [← HKA.out, ← HFF.out] at hq
    refine hq.mono ?_
    rintro e w' ⟨rfl, h1, _, h3⟩
    refine ⟨rfl, ?_, h3⟩
    have hmin : min x.S.length (x.c - ([] : List UInt8).length) = x.S.length := by have := HOK.out.le; simp; omega
    rw [hmin, List.take_length, List.nil_append] at h1
    exact h1)
  have hfil := HFIL.out
  go_wp2_with (refine wpList_invoke rfl (.tmp 35) "aqueduct/stream.fill" #[.tmp 5] #[96] rfl (.iface T KA) [.pointer (some ⟨w3.heap.size + 1, 0, none⟩)] rfl rfl fF #[KA, .pointer (some ⟨w3.heap.size + 1, 0, none⟩)] (hfil _ _) ?_; refine Hid.out ?_)
  refine Lib.hid ((HFL.out _ ((below_alloc w3 _).trans ((below_alloc _ _).mono (by simp))) (block_new _ _ _ (by simp))).mono ?_)
  rintro e w6 ⟨rfl, hk6, hf6⟩
  have HK6 := Lib.hid hk6
  have hbdy : w6.heap[w3.heap.size]? = some (.cells #[.iface T KA, .bool x.busy, .slice ra rn rc, .int .i64 ((a : Int) + (rn : Int)), .int .i64 x.rd, .int .i64 x.wr] 94 (0, 0)) := hf6.same ((below_alloc _ _).block w3.heap.size (by simp) |>.trans (heap_alloc_new w3 _)) (by
    intro hi
    rcases List.mem_cons.1 hi with hi | hi
    · omega
    · have h1 := HK2.out.lt _ (kF_sub hi)
      have h2 := HB3.out.size
      omega)
  have hq2 := HK2.out.lt
  have hsz2 := HB2.out.size
  have hsz3 := HB3.out.size
  have hszA := HA3.out.size
  have hszB := HB.out.size
  have hszB1 := HB1.out.size
  have hszD := HDR.out.size
  have hF := hf6.below (B := w.heap.size) (fun i hi => by
    rcases List.mem_cons.1 hi with hi | hi
    · omega
    · have := HN2.out i (kF_sub hi)
      omega) (by simp; omega)
  have hb6 : Below w.heap.size w w6 := (HA3.out.trans (((below_alloc w3 _).trans ((below_alloc _ _).mono (by simp))).mono HA3.out.size)).trans hF
  obtain ⟨g, hpg, hgo⟩ := RowB.pieceG HROW.out w3.heap.size
  have hp6 : PieceG w6 (.slice ra rn rc) x.R g := ((hpg.grown (below_alloc w3 _)).grown (below_alloc _ _)).fr hf6 (fun hi => by
    rcases List.mem_cons.1 hi with hi | hi
    · rcases hgo with hgo | hgo <;> omega
    · have := hq2 _ (kF_sub hi)
      rcases hgo with hgo | hgo <;> omega)
  have hs36 : w3.heap.size + 1 + 1 ≤ w6.heap.size := by have := hf6.size; simpa using this
  have hgq : ∀ a bb cc, q = some (a, bb, cc) → g ≠ cc := fun aa bb cc hq => by
    have := hq2 cc (by rw [hq]; simp [kO])
    rcases hgo with hgo | hgo <;> omega
  have hnew : ∀ i ∈ w6.heap.size :: (Sb.mk w3.heap.size q g).A, w.heap.size ≤ i := fun i hi => by
    simp only [Sb.A, List.mem_cons] at hi
    rcases hi with hi | hi | hi | hi
    · omega
    · omega
    · rcases hgo with hgo | hgo <;> omega
    · have := HN2.out i hi; omega
  have hgl : g < w6.heap.size + 1 := by rcases hgo with hgo | hgo <;> omega
  have HFIN := Lib.hid (And.intro hb6 (And.intro hp6 (And.intro hgq (And.intro hnew hgl))))
  clear hq2 hsz2 hsz3 hszA hszB hszB1 hszD hF hb6 hpg hgo hp6 hs36 hgq hnew hgl
  have HBDY := Lib.hid hbdy
  clear hk6 hf6 hbdy
  refine ⟨_, rfl, ?_⟩
  go_wp2_with fail
  go_ret2
  obtain ⟨hb6, hp6, hgq, hnew, hgl⟩ := HFIN.out
  have hb7 := below_alloc w6 (.cells #[.pointer (some ⟨w3.heap.size, 0, none⟩)] 48)
  refine ⟨w6.heap.size, ⟨w3.heap.size, q, g⟩, rfl, ⟨HOK.out, heap_alloc_new w6 _, ⟨.slice ra rn rc, ?_, hp6.grown hb7⟩, HK6.out.fr (Fr.of_below hb7 []) (by simp), hgq, by simpa using hgl⟩, hnew, hb6.trans (hb7.mono hb6.size)⟩
  refine (hb7.block _ (lt_of_block HBDY.out)).trans ?_
  have e3 : ((x.a + x.R.length : Nat) : Int) = (a : Int) + (rn : Int) := by rw [HA.out, HRN.out]; push_cast; rfl
  rw [HTT.out.val, ← HKA.out, e3]
  exact HBDY.out
end Go.Proofs.Yteimjkmjofaieaa
