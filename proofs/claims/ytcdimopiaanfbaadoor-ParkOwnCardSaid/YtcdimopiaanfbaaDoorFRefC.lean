/- The reference: change. -/
import Derived.Test.YtcdimopiaanfbaaDoorFRefB
import Derived.Test.YtcdimopiaanfbaaDoorGFlags
import Derived.Deep.CutBlock
import Derived.Deep.RegionWith
namespace Go.Proofs.YtcdimopiaanfbaaDoor
open Go.RowKit Go.Sort
set_option linter.unusedVariables false
set_option linter.unusedSimpArgs false

/-- The two blocks that a call of the reference begins with. -/
theorem two_blocks (w : World) (o0 o1 : Obj) : ∃ W, (w.alloc o0).alloc o1 = W ∧ Below w.heap.size w W ∧ W.heap.size = w.heap.size + 2 ∧ W.heap[w.heap.size]? = some o0 ∧ W.heap[w.heap.size + 1]? = some o1 :=
  ⟨_, rfl, (((Grn.refl w).alloc _).alloc _).below, by simp, ((below_alloc _ _).block _ (by simp)).trans (block_new _ _ _ rfl), block_new _ _ _ (by simp)⟩

section
variable {w : World} {s r : Value} {S R : List Int}
set_option maxRecDepth 100000 in
set_option maxHeartbeats 3200000 in
theorem refChange_bad (hs : Src TI w s S) (hr : Src TI w r R) {N : Int} (hn : N < 0 ∨ ((S.length : Nat) : Int) ≤ N) (hl : S.length ≤ 64) (fr tg : Int) : Calls Tryd.prog 79 #[rk s r, .int .i64 N, .int .i64 fr, .int .i64 tg] w fun e w' => e = .returned (.tuple #[rk s r, .int .i64 2]) ∧ Below w.heap.size w w' := by
  have h0 : ∀ W, Below w.heap.size w W → Calls Tryd.prog 39 #[rk s r, .int .i64 N] W fun e w' => e = .returned (.tuple #[.int .i64 0, .int .i64 2]) ∧ Grn W w' := fun W hb => refState_bad (hs.grown hb) (hr.grown hb) hn hl
  obtain ⟨sa, sc, rfl, -, -⟩ := hs.form
  obtain ⟨ra, rc, rfl, -, -⟩ := hr.form
  generalize S.length = n at *
  generalize R.length = m at *
  obtain ⟨W, hW, hb, hsz, hx, hy⟩ := two_blocks w (.cells #[.slice sa n sc, .slice ra m rc] 30) (.cells #[.slice none 0 0, .slice none 0 0] 30)
  have H0 := Lib.hid (h0 W hb)
  have k0 := cells_cell (o := 0) hx rfl
  have k1 : W.cell? ⟨w.heap.size, 1, none⟩ = some (.slice ra m rc) := cells_cell hx rfl
  have xl := lt_of_block hx
  have HB := Lib.hid hb
  have HX := Lib.hid hx
  have HY := Lib.hid hy
  have HW := Lib.hid hW
  clear hs hr hn h0 hW hb hx hy
  unfold rk at H0 ⊢
  go_enter Tryd.func79, Tryd.ntmps79
  go_wp2_with (go_at_call 39; fail)
  rw [HW.out]
  refine H0.out.mono ?_
  rintro e w2 ⟨rfl, hg⟩
  have hx2 := (hg.below.block _ (lt_of_block HX.out)).trans HX.out
  have hy2 := (hg.below.block _ (lt_of_block HY.out)).trans HY.out
  have k0 := cells_cell (o := 0) hx2 rfl
  have k1 : w2.cell? ⟨w.heap.size, 1, none⟩ = some (.slice ra m rc) := cells_cell hx2 rfl
  have y0 := cells_cell (o := 0) hy2 rfl
  have y1 : w2.cell? ⟨w.heap.size + 1, 1, none⟩ = some (.slice none 0 0) := cells_cell hy2 rfl
  have f0 := cells_free hy2 0
  have f1 := cells_free hy2 1
  have xl := lt_of_block hx2
  have yl := lt_of_block hy2
  have hf := (fr_setCell w2 ⟨w.heap.size + 1, 0, none⟩ (.slice sa n sc)).trans' (fr_setCell _ ⟨w.heap.size + 1, 1, none⟩ (.slice ra m rc))
  have HY2 := Lib.hid (cells_set (cells_set hy2 0 (.slice sa n sc)) 1 (.slice ra m rc))
  have hb2 := HB.out.trans (hg.below.mono HB.out.size)
  have HB2 := Lib.hid (hb2.trans (hf.below (fun x hx => by simp at hx; omega) hb2.size))
  clear hx2 hy2 hf hb2 hg H0 HX HY HW
  go_wp2_with fail
  have hy2 := HY2.out
  simp at hy2
  exact bodyPost_ret (v := .tuple #[.agg #[.slice sa n sc, .slice ra m rc], .int .i64 2]) (by simp [results, Tryd.results79, go_sem, cells_cell (o := 0) hy2 rfl, cells_cell (o := 1) hy2 rfl]) rfl ⟨rfl, HB2.out⟩

set_option maxRecDepth 100000 in
set_option maxHeartbeats 3200000 in
theorem refChange_state (hs : Src TI w s S) (hr : Src TI w r R) {i : Nat} (hi : i < S.length) (hl : S.length ≤ 64) {fr : Int} (hne : S[i] ≠ fr) (tg : Int) : Calls Tryd.prog 79 #[rk s r, .int .i64 ((i : Nat) : Int), .int .i64 fr, .int .i64 tg] w fun e w' => e = .returned (.tuple #[rk s r, .int .i64 8]) ∧ Below w.heap.size w w' := by
  have h0 : ∀ W, Below w.heap.size w W → Calls Tryd.prog 39 #[rk s r, .int .i64 ((i : Nat) : Int)] W fun e w' => e = .returned (.tuple #[.int .i64 S[i], .int .i64 0]) ∧ Grn W w' := fun W hb => refState_yes (hs.grown hb) (hr.grown hb) hi hl
  obtain ⟨sa, sc, rfl, -, -⟩ := hs.form
  obtain ⟨ra, rc, rfl, -, -⟩ := hr.form
  obtain ⟨x, hx⟩ : ∃ x, x = S[i] := ⟨_, rfl⟩
  rw [← hx] at h0 hne
  clear hx
  have e1 : (x != fr) = true := by simpa using hne
  generalize S.length = n at *
  generalize R.length = m at *
  obtain ⟨W, hW, hb, hsz, hx, hy⟩ := two_blocks w (.cells #[.slice sa n sc, .slice ra m rc] 30) (.cells #[.slice none 0 0, .slice none 0 0] 30)
  have H0 := Lib.hid (h0 W hb)
  have k0 := cells_cell (o := 0) hx rfl
  have k1 : W.cell? ⟨w.heap.size, 1, none⟩ = some (.slice ra m rc) := cells_cell hx rfl
  have xl := lt_of_block hx
  have HB := Lib.hid hb
  have HX := Lib.hid hx
  have HY := Lib.hid hy
  have HW := Lib.hid hW
  clear hs hr hne hi h0 hW hb hx hy
  unfold rk at H0 ⊢
  go_enter Tryd.func79, Tryd.ntmps79
  go_wp2_with (go_at_call 39; fail)
  rw [HW.out]
  refine H0.out.mono ?_
  rintro e w2 ⟨rfl, hg⟩
  have hx2 := (hg.below.block _ (lt_of_block HX.out)).trans HX.out
  have hy2 := (hg.below.block _ (lt_of_block HY.out)).trans HY.out
  have k0 := cells_cell (o := 0) hx2 rfl
  have k1 : w2.cell? ⟨w.heap.size, 1, none⟩ = some (.slice ra m rc) := cells_cell hx2 rfl
  have y0 := cells_cell (o := 0) hy2 rfl
  have y1 : w2.cell? ⟨w.heap.size + 1, 1, none⟩ = some (.slice none 0 0) := cells_cell hy2 rfl
  have f0 := cells_free hy2 0
  have f1 := cells_free hy2 1
  have xl := lt_of_block hx2
  have yl := lt_of_block hy2
  have hf := (fr_setCell w2 ⟨w.heap.size + 1, 0, none⟩ (.slice sa n sc)).trans' (fr_setCell _ ⟨w.heap.size + 1, 1, none⟩ (.slice ra m rc))
  have HY2 := Lib.hid (cells_set (cells_set hy2 0 (.slice sa n sc)) 1 (.slice ra m rc))
  have hb2 := HB.out.trans (hg.below.mono HB.out.size)
  have HB2 := Lib.hid (hb2.trans (hf.below (fun x hx => by simp at hx; omega) hb2.size))
  clear hx2 hy2 hf hb2 hg H0 HX HY HW
  go_wp2_with fail
  have hy2 := HY2.out
  simp at hy2
  exact bodyPost_ret (v := .tuple #[.agg #[.slice sa n sc, .slice ra m rc], .int .i64 8]) (by simp [results, Tryd.results79, go_sem, cells_cell (o := 0) hy2 rfl, cells_cell (o := 1) hy2 rfl]) rfl ⟨rfl, HB2.out⟩

set_option maxRecDepth 100000 in
set_option maxHeartbeats 3200000 in
theorem refChange_yes (hs : Src TI w s S) (hr : Src TI w r R) {i : Nat} (hi : i < S.length) (hl : S.length ≤ 64) (hm : R.length ≤ 900) (tg : Int) : Calls Tryd.prog 79 #[rk s r, .int .i64 ((i : Nat) : Int), .int .i64 S[i], .int .i64 tg] w fun e w' => ∃ s' r', e = .returned (.tuple #[rk s' r', .int .i64 0]) ∧ Row TI w' w.heap.size s' (S.set i tg) ∧ Row TI w' w.heap.size r' (woR ((i : Nat) : Int) R ++ if tg = 1 then [((i : Nat) : Int)] else []) ∧ Below w.heap.size w w' := by
  have h0 : ∀ W, Below w.heap.size w W → Calls Tryd.prog 39 #[rk s r, .int .i64 ((i : Nat) : Int)] W fun e w' => e = .returned (.tuple #[.int .i64 S[i], .int .i64 0]) ∧ Grn W w' := fun W hb => refState_yes (hs.grown hb) (hr.grown hb) hi hl
  obtain ⟨sa, sc, rfl, -, -⟩ := hs.form
  obtain ⟨ra, rc, rfl, -, -⟩ := hr.form
  obtain ⟨x, hx⟩ : ∃ x, x = S[i] := ⟨_, rfl⟩
  rw [← hx] at h0 ⊢
  clear hx
  obtain ⟨n, hn⟩ : ∃ n, n = S.length := ⟨_, rfl⟩
  obtain ⟨m, hm2⟩ : ∃ m, m = R.length := ⟨_, rfl⟩
  rw [← hn] at h0 hs ⊢
  rw [← hm2] at h0 hr ⊢
  have HS := Lib.hid hs
  have HR := Lib.hid hr
  have HN := Lib.hid (And.intro hn hm2)
  have HI := Lib.hid (And.intro hi (And.intro hl hm))
  obtain ⟨W, hW, hb, hsz, hx, hy⟩ := two_blocks w (.cells #[.slice sa n sc, .slice ra m rc] 30) (.cells #[.slice none 0 0, .slice none 0 0] 30)
  have H0 := Lib.hid (h0 W hb)
  have k0 := cells_cell (o := 0) hx rfl
  have k1 : W.cell? ⟨w.heap.size, 1, none⟩ = some (.slice ra m rc) := cells_cell hx rfl
  have xl := lt_of_block hx
  have HB := Lib.hid hb
  have HX := Lib.hid hx
  have HY := Lib.hid hy
  have HW := Lib.hid hW
  clear hs hr h0 hW hb hx hy hn hm2 hi hl hm
  unfold rk at H0 ⊢
  go_enter Tryd.func79, Tryd.ntmps79
  go_wp2_with (go_at_call 39; fail)
  rw [HW.out]
  refine H0.out.mono ?_
  rintro e w2 ⟨rfl, hg⟩
  have HX2 := Lib.hid ((hg.below.block _ (lt_of_block HX.out)).trans HX.out)
  have HY2 := Lib.hid ((hg.below.block _ (lt_of_block HY.out)).trans HY.out)
  have HB2 := Lib.hid (HB.out.trans (hg.below.mono HB.out.size))
  have k0 := cells_cell (o := 0) HX2.out rfl
  have k1 : w2.cell? ⟨w.heap.size, 1, none⟩ = some (.slice ra m rc) := cells_cell HX2.out rfl
  have xl := lt_of_block HX2.out
  clear hg H0 HX HY HW HB
  go_upto_region 6 with (fail)
  clear k0 k1 xl
  have hld : ∀ W', Below w2.heap.size w2 W' → W'.cell? ⟨w.heap.size, 0, none⟩ = some (.slice sa n sc) ∧ W'.cell? ⟨w.heap.size, 1, none⟩ = some (.slice ra m rc) ∧ w.heap.size < W'.heap.size := fun W' hb => by
    have e0 := (hb.block _ (lt_of_block HX2.out)).trans HX2.out
    exact ⟨cells_cell e0 rfl, cells_cell e0 rfl, lt_of_block e0⟩
  have HSZ : Hid (Below w2.heap.size w2 w2.drew) := Lib.hid (Below.refl _ _).drew
  refine wp_region_flags (fun W' => Below w2.heap.size w2 W') 9 [(true, 0), (true, 1), (true, 3), (true, 4), (true, 5)] [2, 6, 7, 8] [[], [0], [0, 1], []]
    (fun bs a V => ∃ X Y Z U : Value, a = { tmps := #[.agg #[.slice sa n sc, .slice ra m rc], .int .i64 ((i : Nat) : Int), .int .i64 x, .int .i64 tg, .pointer (some ⟨w.heap.size, 0, none⟩), undef, undef, undef, .pointer (some ⟨w.heap.size + 1, 0, none⟩), .int .i64 0, .int .i64 x, .int .i64 0, U, .tuple #[.int .i64 x, .int .i64 0], .agg #[.slice sa n sc, .slice ra m rc], .int .i64 ((i : Nat) : Int), .tuple #[.int .i64 x, .int .i64 0], .int .i64 x, .int .i64 0, .int .i64 0, .bool false, undef, undef, .int .i64 x, .int .i64 x, .bool false, undef, .pointer (some ⟨w.heap.size, 0, none⟩), .slice sa n sc, X, .pointer (some ⟨w.heap.size, 1, none⟩), .slice ra m rc, .int .i64 ((i : Nat) : Int), Y, Z, undef, undef, undef, undef, undef, undef, undef, undef, undef, undef, undef, undef, undef, undef], defers := [] } ∧ Below w2.heap.size w2 V ∧ (bs.getD 0 false = true → Row TI V w2.heap.size X S) ∧ (bs.getD 1 false = true → Row TI V w2.heap.size Y (woR ((i : Nat) : Int) R)) ∧ (bs.getD 2 false = true → Z = .agg #[X, Y]) ∧ (bs.getD 1 false = true → ∀ y, Y.ownBlock = some y → X.ownBlock ≠ some y) ∧
      (bs.getD 3 false = true → ∃ k, U = .pointer (some ⟨k, 0, none⟩) ∧ w2.heap.size ≤ k ∧ V.heap[k]? = some (.cells #[.slice none 0 0, .slice none 0 0] 30 (0, 0))))
    (by kernel_rfl) (by kernel_rfl) (by kernel_rfl) (by kernel_rfl) (by kernel_rfl) (fun _ _ _ d _ h => by cases d <;> exact h) ?hstep ?hend ?hbegin
  case hbegin =>
    simp only [List.map_cons, List.map_nil, List.getD_cons_zero, List.getD_cons_succ, List.drop_succ_cons, List.drop_zero]
    refine mix_take (.pointer (some ⟨w.heap.size, 0, none⟩)) HSZ.out rfl (fun W' hS => by go_simp) ?_
    simp only [Act.put, List.setIfInBounds_toArray, List.set_cons_zero, List.set_cons_succ]
    refine mix_take (.slice sa n sc) HSZ.out rfl (fun W' hS => by obtain ⟨l0, l1, l2⟩ := hld W' hS; go_simp) ?_
    simp only [Act.put, List.setIfInBounds_toArray, List.set_cons_zero, List.set_cons_succ]
    refine mix_take (.pointer (some ⟨w.heap.size, 1, none⟩)) HSZ.out rfl (fun W' hS => by go_simp) ?_
    simp only [Act.put, List.setIfInBounds_toArray, List.set_cons_zero, List.set_cons_succ]
    refine mix_take (.slice ra m rc) HSZ.out rfl (fun W' hS => by obtain ⟨l0, l1, l2⟩ := hld W' hS; go_simp) ?_
    simp only [Act.put, List.setIfInBounds_toArray, List.set_cons_zero, List.set_cons_succ]
    refine mix_move (.tmp 1) (.int .i64 ((i : Nat) : Int)) rfl HSZ.out rfl rfl ?_
    simp only [Act.put, List.setIfInBounds_toArray, List.set_cons_zero, List.set_cons_succ]
    refine mix_nil ?_
    exact ⟨undef, undef, undef, undef, rfl, HSZ.out, (fun h => by cases h), (fun h => by cases h), (fun h => by cases h), (fun h => by cases h), (fun h => by cases h)⟩
  case hstep =>
    intro bs j a V hbs hcl hj hpre hJ
    obtain ⟨X, Y, Z, U, rfl, hb, h0, h1, h2, h12, h3⟩ := hJ
    obtain ⟨b0, b1, b2, b3, rfl⟩ : ∃ b0 b1 b2 b3, bs = [b0, b1, b2, b3] := by
      match bs, hbs with
      | [b0, b1, b2, b3], _ => exact ⟨b0, b1, b2, b3, rfl⟩
    simp only [List.getD_cons_zero, List.getD_cons_succ] at h0 h1 h2 h12 h3
    have hcl2 : (b1 = true → b0 = true) ∧ (b2 = true → b0 = true ∧ b1 = true) := by
      revert hcl; cases b0 <;> cases b1 <;> cases b2 <;> cases b3 <;> decide
    clear hcl hbs
    match j, hj with
    | 0, hj =>
      simp at hj
      subst hj
      refine op_step rfl rfl (fun K hK => ?_)
      refine wp_append_g TI_ok (v := .slice none 0 0) (.const (.slice none 0 0)) (.tmp 28) rfl rfl rfl (Row.nil V w2.heap.size) hb.size ((HS.out.grown (HB2.out)).grown hb) (by have := HI.out; have := HN.out; simp; omega) ?_
      intro v' w3 ho hf hnr
      rw [List.nil_append] at ho
      have hb3 : Below V.heap.size V w3 := hf.below (fun x hx => by simp [Value.ownBlock] at hx) (Nat.le_refl _)
      refine hK _ _ ⟨hb.trans (hb3.mono hb.size), v', Y, Z, U, rfl, hb.trans (hb3.mono hb.size), (fun _ => ho), (fun h => ?_), (fun h => ?_), (fun h => ?_), (fun h => ?_)⟩
      · have := hcl2.1 h; simp at this
      · have := (hcl2.2 h).1; simp at this
      · have := hcl2.1 h; simp at this
      · obtain ⟨k, e, hk, hk2⟩ := h3 h
        exact ⟨k, e, hk, (hb3.block _ (lt_of_block hk2)).trans hk2⟩
    | 1, hj =>
      simp at hj
      subst hj
      have hb0 : b0 = true := by simpa using hpre
      refine op_step rfl rfl (fun K hK => ?_)
      go_simp
      go_wp2_with (go_at_call 80; fail)
      refine (refWithout_any ((HR.out.grown HB2.out).grown hb) (by have := HI.out; have := HN.out; omega) ((i : Nat) : Int)).mono ?_
      rintro e w3 ⟨v', rfl, ho, hb3⟩
      refine hK _ _ ⟨hb.trans (hb3.mono hb.size), X, v', Z, U, rfl, hb.trans (hb3.mono hb.size), (fun h => (h0 h).below hb3), (fun _ => ho.lower hb.size), (fun h => ?_), (fun _ y hy hx => ?_), (fun h => ?_)⟩
      · have := (hcl2.2 h).2; simp at this
      · have e1 := (ho.lt y hy).1
        have e2 := ((h0 hb0).lt y hx).2
        omega
      · obtain ⟨k, e, hk, hk2⟩ := h3 h
        exact ⟨k, e, hk, (hb3.block _ (lt_of_block hk2)).trans hk2⟩
    | 2, hj =>
      simp at hj
      subst hj
      have hb01 : b0 = true ∧ b1 = true := by simpa using hpre
      obtain ⟨x1, x2, x3, rfl⟩ := row_form (h0 hb01.1)
      obtain ⟨y1, y2, y3, rfl⟩ := row_form (h1 hb01.2)
      refine op_step rfl rfl (fun K hK => ?_)
      go_simp
      exact hK _ _ ⟨hb, _, _, _, U, rfl, hb, h0, h1, (fun _ => rfl), h12, h3⟩
    | 3, hj =>
      simp at hj
      subst hj
      refine op_step rfl rfl (fun K hK => ?_)
      go_simp
      have hba := below_alloc V (.cells #[.slice none 0 0, .slice none 0 0] 30)
      exact hK _ _ ⟨hb.trans (hba.mono hb.size), X, Y, Z, _, rfl, hb.trans (hba.mono hb.size), (fun h => (h0 h).below hba), (fun h => (h1 h).below hba), h2, h12, (fun _ => ⟨_, rfl, hb.size, block_new _ _ _ rfl⟩)⟩
    | j + 4, hj => simp at hj
  case hend =>
    rintro a V ⟨X, Y, Z, U, rfl, hb, h0, h1, h2, h12, h3⟩
    have h0 := h0 rfl
    have h1 := h1 rfl
    have h2 := h2 rfl
    have h12 := h12 rfl
    obtain ⟨k, rfl, hk, hk2⟩ := h3 rfl
    subst h2
    obtain ⟨g, xc, hX, hxc1, hxc2⟩ := row_some h0 (by have := HI.out; omega)
    subst hX
    obtain ⟨ya, yc, rfl, -, -⟩ := h1.form
    rw [← HN.out.1] at h0 hxc1 ⊢
    have hwl : (woR ((i : Nat) : Int) R).length ≤ 900 := Nat.le_trans (List.length_filter_le _ _) HI.out.2.2
    obtain ⟨q, hq⟩ : ∃ q, q = (woR ((i : Nat) : Int) R).length := ⟨_, rfl⟩
    rw [← hq] at h1 hwl ⊢
    have k0 := cells_cell (o := 0) hk2 rfl
    have k1 : V.cell? ⟨k, 1, none⟩ = some (.slice none 0 0) := cells_cell hk2 rfl
    have f0 := cells_free hk2 0
    have f1 := cells_free hk2 1
    have kl := lt_of_block hk2
    -- the result's block is filled
    have hfA := (fr_setCell V ⟨k, 0, none⟩ (.slice (some ⟨g, 0, none⟩) n xc)).trans' (fr_setCell _ ⟨k, 1, none⟩ (.slice ya q yc))
    have hkA := cells_set (cells_set hk2 0 (.slice (some ⟨g, 0, none⟩) n xc)) 1 (.slice ya q yc)
    have hneX := h0.ne hk2 (by decide)
    have hneY := h1.ne hk2 (by decide)
    have rX := h0.fr hfA (fun y hy => by simpa using hneX y hy)
    have rY := h1.fr hfA (fun y hy => by simpa using hneY y hy)
    have hbA := hb.trans (hfA.below (B := w2.heap.size) (fun y hy => by simp at hy; omega) hb.size)
    have HKA := Lib.hid hkA
    have HRX := Lib.hid rX
    have HRY := Lib.hid rY
    have HBA := Lib.hid hbA
    have HQ := Lib.hid hq
    have HWL := Lib.hid hwl
    have HK := Lib.hid hk
    have H12 : Hid (∀ y, (Value.slice ya q yc).ownBlock = some y → y ≠ g) := Lib.hid (fun y hy e => h12 y (by cases ya with | none => simp [Value.ownBlock] at hy | some a => simpa [Value.ownBlock] using hy) (by rw [e]; rfl))
    clear h12 hfA hkA hneX hneY rX rY hbA hq hwl hk hk2 h0 h1 h2 h3 hb hld
    simp only [List.drop_succ_cons, List.drop_zero]
    go_upto_region 7 with (fail)
    generalize (V.setCell ⟨k, 0, none⟩ (.slice (some ⟨g, 0, none⟩) n xc)).setCell ⟨k, 1, none⟩ (.slice ya q yc) = V1 at *
    have hy1 := (HBA.out.block _ (lt_of_block HY2.out)).trans HY2.out
    have hgk := HRX.out.ne HKA.out (by decide) g rfl
    have hgy := HRX.out.ne hy1 (by decide) g rfl
    have hYg : ∀ y, (Value.slice ya q yc).ownBlock = some y → y ∉ [g] := fun y hy hm => H12.out y hy (by simpa using hm)
    have hf2 := fr_setCell V1 ⟨g, i, none⟩ (.int .i64 tg)
    have hx2 : Row TI (V1.setCell ⟨g, i, none⟩ (.int .i64 tg)) w2.heap.size (.slice (some ⟨g, 0, none⟩) n xc) (S.set i tg) := by
      have h := HRX.out
      rw [HN.out.1] at h ⊢
      have := Row.set TI_ok h (j := i) (i := 0) (x := S[i]'HI.out.1) (y := tg) (u := .int .i64 tg) (List.getElem?_eq_getElem HI.out.1) (by decide) rfl
      simpa [TI] using this
    have hy2 := HRY.out.fr hf2 hYg
    have hk2 := hf2.same HKA.out (by simpa using fun e => hgk e.symm)
    have hz2 := hf2.same hy1 (by simpa using fun e => hgy e.symm)
    have hb2 := HBA.out.trans (hf2.below (B := w2.heap.size) (fun y hy => by simp at hy; rw [hy]; exact (HRX.out.lt g rfl).1) HBA.out.size)
    obtain ⟨ga, gc, hgv, _, gl, gf, gcell⟩ := HRX.out.at TI_ok (List.getElem?_eq_getElem HI.out.1)
    simp only [Value.slice.injEq, Option.some.injEq, Addr.mk.injEq] at hgv
    obtain ⟨⟨hga, -⟩, -, hgc⟩ := hgv
    subst hga hgc
    have c0 := gcell 0 _ rfl
    have c0 : V1.cell? ⟨g, i, none⟩ = some (.int .i64 (S[i]'HI.out.1)) := by simpa [TI] using c0
    have cf := gf i
    have kk0 := cells_cell (o := 0) HKA.out rfl
    have kk1 : V1.cell? ⟨k, 1, none⟩ = some (.slice ya q yc) := cells_cell HKA.out rfl
    have kl := lt_of_block HKA.out
    have qi : ((i : Nat) : Int) < ((n : Nat) : Int) := by have := HI.out.1; have := HN.out.1; omega
    have qn : ((n : Nat) : Int) ≤ 64 := by have := HI.out.2.1; have := HN.out.1; omega
    generalize S[i]'HI.out.1 = x0 at *
    have HX3 := Lib.hid hx2
    have HY3 := Lib.hid hy2
    have HK3 := Lib.hid hk2
    have HZ3 := Lib.hid hz2
    have HB3 := Lib.hid hb2
    clear hx2 hy2 hk2 hz2 hb2 hy1 hgk hgy hYg hf2 gcell HKA HRX HRY HBA k0 k1 f0 f1
    go_upto_region 8 with (fail)
    generalize V1.setCell ⟨g, i, none⟩ (.int .i64 tg) = V2 at *
    clear c0 cf kk0 kk1 kl gl gf
    have hsz2 : w.heap.size + 2 ≤ w2.heap.size := by have := lt_of_block HY2.out; omega
    have HSZ2 := Lib.hid hsz2
    clear hsz2
    by_cases ht : tg = 1
    · subst ht
      have kk0 := cells_cell (o := 0) HK3.out rfl
      have kk1 : V2.cell? ⟨k, 1, none⟩ = some (.slice ya q yc) := cells_cell HK3.out rfl
      have kl := lt_of_block HK3.out
      have hba := below_alloc V2 (.cells #[.int .i64 ((i : Nat) : Int)] 3)
      have HYA := Lib.hid (HY3.out.below hba)
      go_wp2_with (at_builtin; refine wpList_append_g TI_ok rfl (.tmp 43) (.tmp 45) rfl rfl rfl HYA.out (by have := HB3.out.size; simp; omega) (src_new TI_ok V2 ((i : Nat) : Int) #[.int .i64 ((i : Nat) : Int)] rfl) (by have := HWL.out; have := HQ.out; simp; omega) ?_)
      intro v' V3 ho hf hnr
      obtain ⟨v1, v2, v3, rfl⟩ := row_form ho
      have hkb := hf.same ((hba.block _ (lt_of_block HK3.out)).trans HK3.out) (fun hm => HYA.out.ne ((hba.block _ (lt_of_block HK3.out)).trans HK3.out) (by decide) k (by simpa using hm) rfl)
      have hzb := hf.same ((hba.block _ (lt_of_block HZ3.out)).trans HZ3.out) (fun hm => HYA.out.ne ((hba.block _ (lt_of_block HZ3.out)).trans HZ3.out) (by decide) _ (by simpa using hm) rfl)
      have hxb := (HX3.out.below hba).fr hf (fun y hy hm => by cases hy; exact H12.out g (by simpa using hm) rfl)
      have hbb := (HB3.out.trans (hba.mono HB3.out.size)).trans (hf.below (B := w2.heap.size) (fun y hy => (HYA.out.lt y (by simpa using hy)).1) (by have := HB3.out.size; simp; omega))
      have HO := Lib.hid ho
      have HKB := Lib.hid hkb
      have HZB := Lib.hid hzb
      have HXB := Lib.hid hxb
      have HBB := Lib.hid hbb
      clear ho hf hnr hkb hzb hxb hbb hba HYA HY3 HK3 HZ3 HX3 HB3 kk0 kk1 kl
      have kk0 := cells_cell (o := 0) HKB.out rfl
      have kk1 : V3.cell? ⟨k, 1, none⟩ = some (.slice ya q yc) := cells_cell HKB.out rfl
      have kf1 := cells_free HKB.out 1
      have kl := lt_of_block HKB.out
      have hfk := fr_setCell V3 ⟨k, 1, none⟩ (.slice v1 v2 v3)
      have hkz : k ≠ w.heap.size + 1 := by have := HK.out; have := HSZ2.out; omega
      have hneX := HXB.out.ne HKB.out (by decide)
      have hneO := HO.out.ne HKB.out (by decide)
      have HK5 := Lib.hid (cells_set HKB.out 1 (.slice v1 v2 v3))
      have HZ5 := Lib.hid (hfk.same HZB.out (by simpa using fun e => hkz e.symm))
      have HX5 := Lib.hid (HXB.out.fr hfk (fun y hy => by simpa using hneX y hy))
      have HO5 := Lib.hid (HO.out.fr hfk (fun y hy => by simpa using hneO y hy))
      have HB5 := Lib.hid (HBB.out.trans (hfk.below (B := w2.heap.size) (fun y hy => by have := HK.out; simp at hy; omega) HBB.out.size))
      clear hfk hneX hneO HKB HZB HXB HO HBB
      go_upto_region 10 with (fail)
      generalize V3.setCell ⟨k, 1, none⟩ (.slice v1 v2 v3) = V5 at *
      clear kk0 kk1 kf1 kl
      have kk0 := cells_cell (o := 0) HK5.out rfl
      have kk1 : V5.cell? ⟨k, 1, none⟩ = some (.slice v1 v2 v3) := cells_cell HK5.out rfl
      have kl := lt_of_block HK5.out
      have y0 := cells_cell (o := 0) HZ5.out rfl
      have y1 : V5.cell? ⟨w.heap.size + 1, 1, none⟩ = some (.slice none 0 0) := cells_cell HZ5.out rfl
      have z0 := cells_free HZ5.out 0
      have z1 := cells_free HZ5.out 1
      have zl := lt_of_block HZ5.out
      have hfz := (fr_setCell V5 ⟨w.heap.size + 1, 0, none⟩ (.slice (some ⟨g, 0, none⟩) n xc)).trans' (fr_setCell _ ⟨w.heap.size + 1, 1, none⟩ (.slice v1 v2 v3))
      have hz6 := cells_set (cells_set HZ5.out 0 (.slice (some ⟨g, 0, none⟩) n xc)) 1 (.slice v1 v2 v3)
      have hneX := HX5.out.ne HZ5.out (by decide)
      have hneO := HO5.out.ne HZ5.out (by decide)
      have HX6 := Lib.hid ((HX5.out.fr hfz (fun y hy => by simpa using hneX y hy)).lower HB2.out.size)
      have HO6 := Lib.hid ((HO5.out.fr hfz (fun y hy => by simpa using hneO y hy)).lower HB2.out.size)
      have hbw := HB2.out.trans (HB5.out.mono HB2.out.size)
      have HB6 := Lib.hid (hbw.trans (hfz.below (B := w.heap.size) (fun y hy => by simp at hy; omega) hbw.size))
      have HZ6 := Lib.hid hz6
      clear hfz hneX hneO hbw hz6
      go_wp2_with fail
      have hz6 := HZ6.out
      simp at hz6
      exact bodyPost_ret (v := .tuple #[.agg #[.slice (some ⟨g, 0, none⟩) n xc, .slice v1 v2 v3], .int .i64 0]) (by simp [results, Tryd.results79, go_sem, cells_cell (o := 0) hz6 rfl, cells_cell (o := 1) hz6 rfl]) rfl ⟨_, _, rfl, HX6.out, by first | exact HO6.out | (rw [if_pos rfl]; exact HO6.out), HB6.out⟩
    · have e1 : (tg == 1) = false := by simpa using ht
      have kk0 := cells_cell (o := 0) HK3.out rfl
      have kk1 : V2.cell? ⟨k, 1, none⟩ = some (.slice ya q yc) := cells_cell HK3.out rfl
      have kl := lt_of_block HK3.out
      have y0 := cells_cell (o := 0) HZ3.out rfl
      have y1 : V2.cell? ⟨w.heap.size + 1, 1, none⟩ = some (.slice none 0 0) := cells_cell HZ3.out rfl
      have z0 := cells_free HZ3.out 0
      have z1 := cells_free HZ3.out 1
      have zl := lt_of_block HZ3.out
      have hfz := (fr_setCell V2 ⟨w.heap.size + 1, 0, none⟩ (.slice (some ⟨g, 0, none⟩) n xc)).trans' (fr_setCell _ ⟨w.heap.size + 1, 1, none⟩ (.slice ya q yc))
      have hz6 := cells_set (cells_set HZ3.out 0 (.slice (some ⟨g, 0, none⟩) n xc)) 1 (.slice ya q yc)
      have hneX := HX3.out.ne HZ3.out (by decide)
      have hneO := HY3.out.ne HZ3.out (by decide)
      have HX6 := Lib.hid ((HX3.out.fr hfz (fun y hy => by simpa using hneX y hy)).lower HB2.out.size)
      have HO6 := Lib.hid ((HY3.out.fr hfz (fun y hy => by simpa using hneO y hy)).lower HB2.out.size)
      have hbw := HB2.out.trans (HB3.out.mono HB2.out.size)
      have HB6 := Lib.hid (hbw.trans (hfz.below (B := w.heap.size) (fun y hy => by simp at hy; omega) hbw.size))
      have HZ6 := Lib.hid hz6
      have HT := Lib.hid ht
      clear hfz hneX hneO hbw hz6 ht
      go_wp2_with fail
      have hz6 := HZ6.out
      simp at hz6
      exact bodyPost_ret (v := .tuple #[.agg #[.slice (some ⟨g, 0, none⟩) n xc, .slice ya q yc], .int .i64 0]) (by simp [results, Tryd.results79, go_sem, cells_cell (o := 0) hz6 rfl, cells_cell (o := 1) hz6 rfl]) rfl ⟨_, _, rfl, HX6.out, by first | (rw [if_neg HT.out, List.append_nil]; exact HO6.out) | exact HO6.out, HB6.out⟩
end
end Go.Proofs.YtcdimopiaanfbaaDoor
