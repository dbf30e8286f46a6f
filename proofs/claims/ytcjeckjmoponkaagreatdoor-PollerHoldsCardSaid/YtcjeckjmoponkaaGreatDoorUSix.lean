/- Close. -/
import Derived.Test.YtcjeckjmoponkaaGreatDoorUFiv
namespace Go.Proofs.YtcjeckjmoponkaaGreatDoor
open Go.RowKit Go.Sort
set_option linter.unusedVariables false
set_option linter.unusedSimpArgs false
section
variable {w0 w w' : World} {O : Nat → Prop} {p t g c d r rc : Nat} {l : Ll} {OL OD : Nat → Prop} {x : Px} {G P : Nat}
set_option maxRecDepth 100000 in
set_option maxHeartbeats 1600000 in
theorem poClose_bad (h : UB w0 w O p t g c d r rc l OL OD x G P) {N K : Int} (hn : Sl.NoFd x.T N K) : Calls Tryz.prog 15 #[.pointer (some ⟨p, 0, none⟩), .agg #[.int .i64 N, .int .i64 K]] w fun e w' => e = .returned (.tuple #[.slice none 0 0, .int .i64 9]) ∧ Below w.heap.size w w' := by
  have HN := Lib.hid hn
  clear hn
  obtain ⟨W, hW, hg, hs, hb0⟩ := alloc1 w (.cells #[.int .i64 N, .int .i64 K] 47)
  have HOL : Hid (∀ k, OL k → k < w.heap.size) := Lib.hid (fun k hk => (h.ol k hk).2.1)
  have H0 := Lib.hid h
  have HU := Lib.hid (h.grn hg)
  have HW := Lib.hid hW
  have HG := Lib.hid hg.below
  have HB := Lib.hid hb0
  clear h hg hs hb0 hW
  go_enter Tryz.func15, Tryz.ntmps15
  go_upto_region 1 with (fail)
  rw [HW.out]
  obtain ⟨b, hb⟩ : ∃ b, b = w.heap.size := ⟨_, rfl⟩
  rw [← hb]
  rw [← hb] at HB
  have Hb := Lib.hid hb
  clear hb HW
  refine wp_region_mix (fun W' => W'.heap[b]? = some (.cells #[.int .i64 N, .int .i64 K] 47 (0, 0))) 9 [(true, 0), (true, 3), (false, 1), (true, 2), (false, 4), (true, 5), (true, 6), (true, 7), (true, 8)] (by kernel_rfl) (by kernel_rfl) (fun _ _ _ d _ h => by cases d <;> exact h) ?_
  have HD : Hid (Below W.heap.size W W.drew) := Lib.hid ((Grn.refl W).drew 1).below
  have HS : Hid (W.drew.heap[b]? = some (.cells #[.int .i64 N, .int .i64 K] 47 (0, 0))) := Lib.hid ((HD.out.block _ (lt_of_block HB.out)).trans HB.out)
  simp only [List.map_cons, List.map_nil, List.getD_cons_zero, List.getD_cons_succ, List.drop_succ_cons, List.drop_zero]
  generalize W.drew = V at *
  refine mix_move (.tmp 0) (.pointer (some ⟨p, 0, none⟩)) rfl HS.out rfl rfl ?_
  simp only [Act.put, List.setIfInBounds_toArray, List.set_cons_zero, List.set_cons_succ]
  refine mix_take (.agg #[(.int .i64 N), (.int .i64 K)]) HS.out rfl (fun W' hS => by
    have e1 := hS
    obtain ⟨l0, l1⟩ := two e1
    go_simp) ?_
  simp only [Act.put, List.setIfInBounds_toArray, List.set_cons_zero, List.set_cons_succ]
  refine mix_step rfl (fun K1 hK => ?_)
  go_simp
  go_wp2_with (go_at_call 59; fail)
  refine (HU.out.grown HD.out).parts.mono ?_
  rintro e w1 ⟨rfl, hg1⟩
  have HG1 := Lib.hid (HG.out.trans ((HD.out.trans (hg1.below.mono HD.out.size)).mono HG.out.size))
  have HS1 := Lib.hid (grn_at hg1 HS.out)
  have HU2 := Lib.hid ((HU.out.grown HD.out).grn hg1)
  refine hK _ _ HS1.out ?_
  clear hK K1
  refine mix_take (.pointer (some ⟨t, 0, none⟩)) HS1.out rfl (fun W' hS => by
    have hf := field_po0 W'
    go_simp) ?_
  simp only [Act.put, List.setIfInBounds_toArray, List.set_cons_zero, List.set_cons_succ]
  refine mix_step rfl (fun K4 hK => ?_)
  go_simp
  go_wp2_with (go_at_call 61; fail)
  refine (Sl.slClose_bad (Sl.finds_no HU2.out.ht HN.out) (by decide)).mono ?_
  rintro e w2 ⟨rfl, hg2⟩
  have HG2 := Lib.hid (HG1.out.trans (hg2.below.mono HG1.out.size))
  have HS2 := Lib.hid (grn_at hg2 HS1.out)
  refine hK _ _ HS2.out ?_
  clear hK K4
  refine mix_move (.tmp 15) (.tuple #[(.int .i64 0), (.int .i64 9)]) rfl HS2.out rfl rfl ?_
  simp only [Act.put, List.setIfInBounds_toArray, List.set_cons_zero, List.set_cons_succ]
  refine mix_take (.int .i64 0) HS2.out rfl (fun W' hS => by go_simp) ?_
  simp only [Act.put, List.setIfInBounds_toArray, List.set_cons_zero, List.set_cons_succ]
  refine mix_take (.int .i64 9) HS2.out rfl (fun W' hS => by go_simp) ?_
  simp only [Act.put, List.setIfInBounds_toArray, List.set_cons_zero, List.set_cons_succ]
  refine mix_take (.int .i64 0) HS2.out rfl (fun W' hS => by go_simp) ?_
  simp only [Act.put, List.setIfInBounds_toArray, List.set_cons_zero, List.set_cons_succ]
  refine mix_nil ?_
  go_wp2_with fail
  go_ret2
  exact ⟨rfl, HG2.out⟩
theorem flt_int : ∀ X : List Int, flt TI.enc X = X.map fun i => Value.int .i64 i
  | [] => rfl
  | x :: r => by
    have := flt_int r
    show Value.int .i64 x :: flt TI.enc r = _
    rw [this]; rfl
theorem row_made2 (w : World) (e : TypeId) (x y : Value) : Rp.SrcV (w.alloc (.cells #[x, y] e)) (.slice (some ⟨w.heap.size, 0, none⟩) 2 2) [x, y] := (Rp.row_made w e [x, y] (by unfold maxLen; simp)).src
/-- A row of ints as values. -/
theorem row_srcv {b : Nat} {v : Value} {X : List Int} (h : Row TI w b v X) : Rp.SrcV w v (X.map fun i => .int .i64 i) := by
  have h2 : w.ownsRow b 3 1 v X.length (X.map fun i => Value.int .i64 i) := by
    have e := flt_int X
    have h3 : w.ownsRow b 3 1 v X.length (flt TI.enc X) := h
    rw [e] at h3
    exact h3
  have h3 : Rp.RowV w 3 b v (X.map fun i => Value.int .i64 i) := by simpa [Rp.RowV] using h2
  exact h3.src
theorem rowv_int {b : Nat} {v : Value} {X : List Int} (h : Rp.RowV w 3 b v (X.map fun i => .int .i64 i)) : Row TI w b v X := by
  have e := flt_int X
  have h2 : w.ownsRow b 3 1 v (X.map fun i => Value.int .i64 i).length (X.map fun i => Value.int .i64 i) := h
  rw [List.length_map] at h2
  show w.ownsRow b 3 1 v X.length (flt TI.enc X)
  rw [e]
  exact h2
theorem rows_two {x y : Value} {X Y : List Value} (hx : Rp.SrcV w x X) (hy : Rp.SrcV w y Y) : Rp.Rows w [x, y] [X, Y] := by
  refine ⟨rfl, fun i v p hv hp => ?_⟩
  match i with
  | 0 => simp at hv hp; subst hv; subst hp; exact hx
  | 1 => simp at hv hp; subst hv; subst hp; exact hy
  | i + 2 => simp at hv
theorem UB.stepD2 {V : Nat → Prop} {now' : Int} {f' : Nat → Int} {P' : Nat} {w2 w3 : World} (h : UB w0 w O p t g c d r rc l OL OD x G P) (hg : Below w.heap.size w w2) (hd : Dl.JAt w0 (fun k => (k < w2.heap.size ∧ ¬ OD k) ∨ V k) w3 d now' f' P') (hk : Dl.Keep (fun k => k < w2.heap.size ∧ ¬ OD k) w2 w3) :
    ∃ OD1 O1, UB w0 w3 O1 p t g c d r rc l OL OD1 { x with now := now', f := f' } G P' ∧ FrO O w w3 ∧ (∀ k, O1 k → O k ∨ w.heap.size ≤ k) ∧ (∀ k, w2.heap.size ≤ k → V k → ¬ O1 k) ∧ FrO OD w2 w3 := by
  have h2 := h.grown hg
  obtain ⟨OD1, hu, hfo, hsub, hv⟩ := h2.dls hd (fun k h1 h2 => hk k ⟨h1, h2⟩)
  have hz := hg.size
  refine ⟨OD1, _, hu, (FrO.of_below hg).trans (h2.frd hfo) (fun k hk => .inl hk), fun k hk => (hsub k hk).elim .inl (fun h => .inr (Nat.le_trans hz h)), fun k h1 hV ho => ?_, hfo⟩
  have := lt_of_block h2.hp
  have := h2.ht.lt
  have := h2.ht.lg
  have := h2.rlt.2
  rcases ho with h' | h' | h' | h' | h' | h'
  · omega
  · omega
  · omega
  · omega
  · have := (h2.ol k h').2.1; omega
  · exact hv k h1 hV h'
set_option maxRecDepth 100000 in
set_option maxHeartbeats 1600000 in
theorem poClose_ok (h : UB w0 w O p t g c d r rc l OL OD x G P) (hG : G ≤ 800000) (hT : Dl.Tab w0) (hP : P + 2 < 9223372036854775807) {n H : Nat} {v : Int} (hq : x.T[n]? = some ⟨true, H, v⟩) (hH : H ≤ 1000000) {x1 x2 x3 : Px} {l1 l2 : List Int} (e1 : x.shut n ⟨true, H, v⟩ = x1) (e2 : x1.wake (((n : Nat) : Int), 0) 3 = (l1, x2)) (e3 : x2.wake (((n : Nat) : Int), 1) 3 = (l2, x3)) : Calls Tryz.prog 15 #[.pointer (some ⟨p, 0, none⟩), .agg #[.int .i64 ((n : Nat) : Int), .int .i64 ((H : Nat) : Int)]] w fun e w' => ∃ u, e = .returned (.tuple #[u, .int .i64 0]) ∧ WokeU w0 w O p (l1 ++ l2) x3 (G + l1.length + l2.length) (P + 2) w' u := by
  have HQ := Lib.hid hq
  have E1 := Lib.hid e1
  have E2 := Lib.hid e2
  have E3 := Lib.hid e3
  have HH := Lib.hid hH
  have HGG := Lib.hid hG
  have HTT := Lib.hid hT
  have HPP := Lib.hid hP
  have HNN : Hid (n < 128) := Lib.hid (by rw [← h.tl]; exact (List.getElem?_eq_some_iff.1 hq).1)
  have HGL : Hid (g < w.heap.size) := Lib.hid h.ht.lg
  have HOO : Hid (∀ k, O k → k < w.heap.size) := Lib.hid (fun k hk => (h.lt hk).2)
  clear hq hH hG hT hP e1 e2 e3
  obtain ⟨W, hW, hg, hs, hb0⟩ := alloc1 w (.cells #[.int .i64 ((n : Nat) : Int), .int .i64 ((H : Nat) : Int)] 47)
  have HOL : Hid (∀ k, OL k → k < w.heap.size) := Lib.hid (fun k hk => (h.ol k hk).2.1)
  have H0 := Lib.hid h
  have HU := Lib.hid (h.grn hg)
  have HW := Lib.hid hW
  have HG := Lib.hid hg.below
  have HB := Lib.hid hb0
  clear h hg hs hb0 hW
  go_enter Tryz.func15, Tryz.ntmps15
  go_upto_region 1 with (fail)
  rw [HW.out]
  obtain ⟨b, hb⟩ : ∃ b, b = w.heap.size := ⟨_, rfl⟩
  rw [← hb]
  rw [← hb] at HB
  have Hb := Lib.hid hb
  clear hb HW
  refine wp_region_mix (fun W' => W'.heap[b]? = some (.cells #[.int .i64 ((n : Nat) : Int), .int .i64 ((H : Nat) : Int)] 47 (0, 0))) 9 [(true, 0), (true, 3), (false, 1), (true, 2), (false, 4), (true, 5), (true, 6), (true, 7), (true, 8)] (by kernel_rfl) (by kernel_rfl) (fun _ _ _ d _ h => by cases d <;> exact h) ?_
  have HD : Hid (Below W.heap.size W W.drew) := Lib.hid ((Grn.refl W).drew 1).below
  have HS : Hid (W.drew.heap[b]? = some (.cells #[.int .i64 ((n : Nat) : Int), .int .i64 ((H : Nat) : Int)] 47 (0, 0))) := Lib.hid ((HD.out.block _ (lt_of_block HB.out)).trans HB.out)
  simp only [List.map_cons, List.map_nil, List.getD_cons_zero, List.getD_cons_succ, List.drop_succ_cons, List.drop_zero]
  generalize W.drew = V at *
  refine mix_move (.tmp 0) (.pointer (some ⟨p, 0, none⟩)) rfl HS.out rfl rfl ?_
  simp only [Act.put, List.setIfInBounds_toArray, List.set_cons_zero, List.set_cons_succ]
  refine mix_take (.agg #[(.int .i64 ((n : Nat) : Int)), (.int .i64 ((H : Nat) : Int))]) HS.out rfl (fun W' hS => by
    have e1 := hS
    obtain ⟨l0, l1⟩ := two e1
    go_simp) ?_
  simp only [Act.put, List.setIfInBounds_toArray, List.set_cons_zero, List.set_cons_succ]
  refine mix_step rfl (fun K1 hK => ?_)
  go_simp
  go_wp2_with (go_at_call 59; fail)
  refine (HU.out.grown HD.out).parts.mono ?_
  rintro e w1 ⟨rfl, hg1⟩
  have HG1 := Lib.hid (HG.out.trans ((HD.out.trans (hg1.below.mono HD.out.size)).mono HG.out.size))
  have HS1 := Lib.hid (grn_at hg1 HS.out)
  have HU1 := Lib.hid ((HU.out.grown HD.out).grn hg1)
  refine hK _ _ HS1.out ?_
  clear hK K1
  refine mix_take (.pointer (some ⟨t, 0, none⟩)) HS1.out rfl (fun W' hS => by
    have hf := field_po0 W'
    go_simp) ?_
  simp only [Act.put, List.setIfInBounds_toArray, List.set_cons_zero, List.set_cons_succ]
  refine mix_step rfl (fun K4 hK => ?_)
  go_simp
  go_wp2_with (go_at_call 61; fail)
  refine (Sl.slClose_yes HU1.out.ht HQ.out HH.out).mono ?_
  rintro e w2 ⟨rfl, ht2, hf2⟩
  have HU2 := Lib.hid (HU1.out.tab ht2 hf2 (by simp))
  have HF2 := Lib.hid ((FrO.of_below HG1.out).trans (HU1.out.frg hf2) (fun k hk => .inl hk))
  have HZ2 : Hid (w.heap.size ≤ w2.heap.size) := Lib.hid (Nat.le_trans HG1.out.size hf2.size)
  have HS2 := Lib.hid (hf2.same HS1.out (by have := HGL.out; have := Hb.out; simp; omega))
  refine hK _ _ HS2.out ?_
  clear hK K4
  refine mix_move (.tmp 15) (.tuple #[(.int .i64 v), (.int .i64 0)]) rfl HS2.out rfl rfl ?_
  simp only [Act.put, List.setIfInBounds_toArray, List.set_cons_zero, List.set_cons_succ]
  refine mix_take (.int .i64 v) HS2.out rfl (fun W' hS => by go_simp) ?_
  simp only [Act.put, List.setIfInBounds_toArray, List.set_cons_zero, List.set_cons_succ]
  refine mix_take (.int .i64 0) HS2.out rfl (fun W' hS => by go_simp) ?_
  simp only [Act.put, List.setIfInBounds_toArray, List.set_cons_zero, List.set_cons_succ]
  refine mix_take (.int .i64 v) HS2.out rfl (fun W' hS => by go_simp) ?_
  simp only [Act.put, List.setIfInBounds_toArray, List.set_cons_zero, List.set_cons_succ]
  refine mix_nil ?_
  have HBX := Lib.hid HS2.out
  have HP2 := Lib.hid HU2.out.hp
  have HNB : Hid (¬ O b) := Lib.hid (fun hc => by have := HOO.out b hc; have := Hb.out; omega)
  clear HS HS1 HS2 HD HG1 HU1 ht2 hf2 HG HU HB
  go_upto_region 4 with (fail)
  refine wp_region_mix (fun W' => W'.heap[p]? = some (.cells #[.pointer (some ⟨t, 0, none⟩), .pointer (some ⟨l.a, 0, none⟩), .pointer (some ⟨d, 0, none⟩), .slice (some ⟨r, 0, none⟩) x.R.length rc] 68 (0, 0)) ∧ W'.heap[b]? = some (.cells #[.int .i64 ((n : Nat) : Int), .int .i64 ((H : Nat) : Int)] 47 (0, 0))) 6 [(true, 0), (true, 1), (true, 2), (true, 3), (true, 4), (true, 5)] (by kernel_rfl) (by kernel_rfl) (fun _ _ _ d _ h => by cases d <;> exact h) ?_
  have HD : Hid (Below w2.heap.size w2 w2.drew) := Lib.hid ((Grn.refl w2).drew 1).below
  have HS : Hid (w2.drew.heap[p]? = some (.cells #[.pointer (some ⟨t, 0, none⟩), .pointer (some ⟨l.a, 0, none⟩), .pointer (some ⟨d, 0, none⟩), .slice (some ⟨r, 0, none⟩) x.R.length rc] 68 (0, 0)) ∧ w2.drew.heap[b]? = some (.cells #[.int .i64 ((n : Nat) : Int), .int .i64 ((H : Nat) : Int)] 47 (0, 0))) := Lib.hid ⟨(HD.out.block _ (lt_of_block HP2.out)).trans HP2.out, (HD.out.block _ (lt_of_block HBX.out)).trans HBX.out⟩
  simp only [List.map_cons, List.map_nil, List.getD_cons_zero, List.getD_cons_succ, List.drop_succ_cons, List.drop_zero]
  generalize w2.drew = V2 at *
  refine mix_move (.tmp 0) (.pointer (some ⟨p, 0, none⟩)) rfl HS.out rfl rfl ?_
  simp only [Act.put, List.setIfInBounds_toArray, List.set_cons_zero, List.set_cons_succ]
  refine mix_take (.pointer (some ⟨p, 0, none⟩)) HS.out rfl (fun W' hS => by go_simp) ?_
  simp only [Act.put, List.setIfInBounds_toArray, List.set_cons_zero, List.set_cons_succ]
  refine mix_take (.pointer (some ⟨p, 2, none⟩)) HS.out rfl (fun W' hS => by go_simp) ?_
  simp only [Act.put, List.setIfInBounds_toArray, List.set_cons_zero, List.set_cons_succ]
  refine mix_take (.pointer (some ⟨d, 0, none⟩)) HS.out rfl (fun W' hS => by
    have e1 := hS.1
    obtain ⟨l0, l1, l2, l3⟩ := four e1
    go_simp) ?_
  simp only [Act.put, List.setIfInBounds_toArray, List.set_cons_zero, List.set_cons_succ]
  refine mix_take (.pointer (some ⟨b, 0, none⟩)) HS.out rfl (fun W' hS => by go_simp) ?_
  simp only [Act.put, List.setIfInBounds_toArray, List.set_cons_zero, List.set_cons_succ]
  refine mix_take (.int .i64 ((n : Nat) : Int)) HS.out rfl (fun W' hS => by
    have e1 := hS.2
    obtain ⟨l0, l1⟩ := two e1
    go_simp) ?_
  simp only [Act.put, List.setIfInBounds_toArray, List.set_cons_zero, List.set_cons_succ]
  refine mix_nil ?_
  have HU3 := Lib.hid (HU2.out.grown HD.out)
  have HC := Lib.hid (Dl.jClear_yes (q := n) HU3.out.hd HNN.out HTT.out HPP.out)
  go_wp2_with (go_at_call 62; fail)
  refine HC.out.mono ?_
  rintro e w3 ⟨rfl, hd3, hk3⟩
  obtain ⟨OD1, O1, hu, hfo, hsub, _, hfd⟩ := HU2.out.stepD2 (V := fun _ => False) HD.out (hd3.less (fun k hk => hk.elim id False.elim)) hk3
  have HB3 := Lib.hid (hfo.block HBX.out HNB.out)
  have HM3 : Hid (FrO O w w3 ∧ (∀ k, O1 k → O k ∨ w.heap.size ≤ k) ∧ w.heap.size ≤ w3.heap.size) := Lib.hid ⟨HF2.out.trans hfo (fun k hk => .inl hk), fun k hk => (hsub k hk).elim .inl (fun h => .inr (Nat.le_trans HZ2.out h)), by have := lt_of_block HB3.out; have := Hb.out; omega⟩
  have HNB3 : Hid (¬ O1 b) := Lib.hid (fun hc => (hsub b hc).elim HNB.out (fun h => by have := lt_of_block HBX.out; omega))
  have hu' : UB w0 w3 O1 p t g c d r rc l OL OD1 x1 G (P + 2) := by rw [← E1.out]; exact hu
  have HW1 := Lib.hid (poWake_any hu' (by have := HGG.out; omega) ((n : Nat) : Int) 0 3)
  rw [E2.out] at HW1
  simp only at HW1
  have HL1 : Hid (l1.length ≤ 64) := Lib.hid (by have := wake_num hu'.zk (((n : Nat) : Int), 0); have := hu'.zk.l; have e := congrArg (fun q => q.1.length) E2.out; simp only [Px.wake] at e; omega)
  obtain ⟨f0, f1⟩ := two HB3.out
  clear hu hu' hfo hsub hfd hd3 hk3 HS HD HU3 HC HU2 HF2 HBX HP2
  go_upto_region 5 with (fail)
  go_wp2_with (go_at_call 63; fail)
  refine HW1.out.mono ?_
  rintro e w4 ⟨u1, O2, rfl, hr1, hU4, hf4, hs4, hn4, hz4⟩
  have HB4 := Lib.hid (hf4.block HB3.out HNB3.out)
  have HNB4 : Hid (¬ O2 b) := Lib.hid (fun hc => (hs4 b hc).elim HNB3.out (fun h => by have := lt_of_block HB3.out; omega))
  have HM4 : Hid (FrO O w w4 ∧ (∀ k, O2 k → O k ∨ w.heap.size ≤ k) ∧ w.heap.size ≤ w4.heap.size) := Lib.hid ⟨HM3.out.1.trans hf4 HM3.out.2.1, fun k hk => (hs4 k hk).elim (HM3.out.2.1 k) (fun h => .inr (Nat.le_trans HM3.out.2.2 h)), Nat.le_trans HM3.out.2.2 hz4⟩
  have HR1 := Lib.hid hr1
  have HN1 := Lib.hid hn4
  clear hr1 hf4 hs4 hn4 hz4
  obtain ⟨t', g', c', d', r', rc', l', OL', OD', hu5⟩ := hU4
  have HW2 := Lib.hid (poWake_any hu5 (by have := HGG.out; have := HL1.out; omega) ((n : Nat) : Int) 1 3)
  rw [E3.out] at HW2
  simp only at HW2
  have HL2 : Hid (l2.length ≤ 64) := Lib.hid (by have := wake_num hu5.zk (((n : Nat) : Int), 1); have := hu5.zk.l; have e := congrArg (fun q => q.1.length) E3.out; simp only [Px.wake] at e; omega)
  clear hu5 f0 f1
  obtain ⟨f0, f1⟩ := two HB4.out
  go_wp2_with (go_at_call 63; fail)
  refine HW2.out.mono ?_
  rintro e w5 ⟨u2, O3, rfl, hr2, hU5, hf5, hs5, hn5, hz5⟩
  have HR15 := Lib.hid (hf5.row HR1.out HN1.out)
  have HM5 : Hid (FrO O w w5 ∧ (∀ k, O3 k → O k ∨ w.heap.size ≤ k) ∧ w.heap.size ≤ w5.heap.size) := Lib.hid ⟨HM4.out.1.trans hf5 HM4.out.2.1, fun k hk => (hs5 k hk).elim (HM4.out.2.1 k) (fun h => .inr (Nat.le_trans HM4.out.2.2 h)), Nat.le_trans HM4.out.2.2 hz5⟩
  have HR2 := Lib.hid hr2
  have HU5 := Lib.hid hU5
  clear hr2 hU5 hf5 hs5 hn5 hz5 f0 f1
  obtain ⟨W6, hW6, hg6, hs6, hb6⟩ := alloc1 w5 (.cells #[u1, u2] 36)
  have hcat := Lib.hid (Rp.catN_any (w := W6) (vl := .slice (some ⟨w5.heap.size, 0, none⟩) 2 2) (vs := [u1, u2]) (Ps := [l1.map fun i => .int .i64 i, l2.map fun i => .int .i64 i]) (by rw [← hW6]; exact row_made2 w5 36 u1 u2)
    (rows_two (row_srcv (HR15.out.below hg6.below)) (row_srcv (HR2.out.below hg6.below))) (fun q hq u hu => by
      simp only [List.mem_cons, List.not_mem_nil, or_false] at hq
      rcases hq with rfl | rfl
      · obtain ⟨i, _, rfl⟩ := List.mem_map.1 hu; rfl
      · obtain ⟨i, _, rfl⟩ := List.mem_map.1 hu; rfl) (by have := HL1.out; have := HL2.out; simp; omega) (by simp))
  have HU6 := Lib.hid (HU5.out.grown hg6.below)
  have HG6 := Lib.hid hg6.below
  have HW6 := Lib.hid hW6
  obtain ⟨va1, vc1, rfl, y1, y2⟩ := HR1.out.form
  obtain ⟨va2, vc2, rfl, y3, y4⟩ := HR2.out.form
  clear hW6 hg6 hs6 hb6 y1 y2 y3 y4
  go_wp2_with (first | (go_at_call 64; fail) | fail)
  rw [HW6.out]
  refine hcat.out.mono ?_
  rintro e w7 ⟨u, rfl, hr7, hb7⟩
  have hfl : ([l1.map fun i => Value.int .i64 i, l2.map fun i => Value.int .i64 i] : List (List Value)).flatten = (l1 ++ l2).map fun i => Value.int .i64 i := by simp
  rw [hfl] at hr7
  have hb57 : Below w5.heap.size w5 w7 := HG6.out.trans (hb7.mono HG6.out.size)
  have HR : Hid (WokeU w0 w O p (l1 ++ l2) x3 (G + l1.length + l2.length) (P + 2) w7 u) := Lib.hid ⟨(rowv_int hr7).lower (Nat.le_trans HM5.out.2.2 HG6.out.size), O3, HU5.out.grown hb57, HM5.out.1.trans (FrO.of_below (O := fun _ => False) hb57) (fun k hk => hk.elim), HM5.out.2.1, Nat.le_trans HM5.out.2.2 hb57.size, fun g7 hg7 ho => by
    have a1 := (HU5.out.lt ho).2
    have a2 := ((rowv_int hr7).lt g7 hg7).1
    have a3 := HG6.out.size
    omega⟩
  clear hr7 hb7 hb57 hfl
  go_wp2_with fail
  go_ret2
  exact ⟨_, rfl, HR.out⟩
theorem poClose_any (h : UB w0 w O p t g c d r rc l OL OD x G P) (hG : G ≤ 800000) (hT : Dl.Tab w0) (hP : P + 2 < 9223372036854775807) (hH : ∀ (n : Nat) (q : Sl.Pl), x.T[n]? = some q → q.g ≤ 1000000) (N K : Int) : Calls Tryz.prog 15 #[.pointer (some ⟨p, 0, none⟩), .agg #[.int .i64 N, .int .i64 K]] w fun e w' => ∃ u, e = .returned (.tuple #[u, .int .i64 (cloC x N K).2.1]) ∧ WokeU w0 w O p (cloC x N K).1 (cloC x N K).2.2 (G + (cloC x N K).1.length) (P + 2) w' u := by
  unfold cloC
  cases hf : fdI x.T N K with
  | none => exact (poClose_bad h (fdI_none hf)).mono (fun e w' q => ⟨_, q.1, WokeU.nil (StepU.grn (h.mono (Nat.le_refl _) (by omega)) q.2)⟩)
  | some y =>
    obtain ⟨n, q⟩ := y
    obtain ⟨rfl, rfl, hq, ho⟩ := fdI_some hf
    obtain ⟨o, H, v⟩ := q
    simp only at ho
    subst ho
    have := poClose_ok h hG hT hP hq (hH n _ hq) rfl rfl rfl
    simp only [List.length_append, ← Nat.add_assoc]
    exact this
end
end Go.Proofs.YtcjeckjmoponkaaGreatDoor
