/- The law's do: Close of a number. -/
import Derived.Test.YtbefiilbpbbjnaaEDo0
namespace Go.Proofs.Ytbefiilbpbbjnaa
open Go.RowKit Go.Sort
set_option linter.unusedVariables false
set_option linter.unusedSimpArgs false

set_option maxRecDepth 100000 in
set_option maxHeartbeats 12800000 in
theorem do_at5_yes {w0 w : World} {t g c m k : Nat} {v : Value} {P : Tab} {L : Fds} (h : ESt w0 w t g c m v P L k) (hk : k ≤ 900) (x1 n kk : Int) (b : Int) (hS : ∀ w t g c, TAt w t g c P → Calls Try.prog 17 #[.pointer (some ⟨t, 0, none⟩), .int .i64 n] w fun e w' => e = .returned (.tuple #[.agg #[.int .i64 n, .int .i64 b], .int .i64 0]) ∧ Grn w w') (hRf : ∀ w bs v, Row TF w bs v L → Calls Try.prog 30 #[rt m v, .int .i64 n] w fun e w' => e = .returned (.tuple #[.agg #[.int .i64 n, .int .i64 b], .int .i64 0]) ∧ Grn w w') :
    Calls Try.prog 11 #[.pointer (some ⟨t, 0, none⟩), rt m v, .agg #[.int .i64 5, .int .i64 x1, .int .i64 n, .int .i64 kk]] w (DoPost w0 w g m k) := by
  have hl9 : L.length ≤ 900 := Nat.le_trans h.l hk
  obtain ⟨x, code, P', L', hS2, hRf2, hrel, hm', hl'⟩ := close_both h.rel hl9 h.m n b
  have HRL : Hid (Rel P' L' ∧ P'.length = m ∧ L'.length ≤ k + 1) := Lib.hid ⟨hrel, hm', by have := h.l; omega⟩
  clear hrel hm' hl'
  obtain ⟨va, vn, vc, rfl, -⟩ := h.R.form2
  obtain ⟨W, hW, hb, hs, h0, h1, h2⟩ := do_blocks w (.cells #[.int .i64 ((m : Nat) : Int), .slice va vn vc] 30) (.cells #[.int .i64 5, .int .i64 x1, .int .i64 n, .int .i64 kk] 36) (.cells #[.int .i64 0, .slice none 0 0] 30)
  have HD := Lib.hid (h.grown hb)
  have HB := Lib.hid hb
  have H0 := Lib.hid h0
  have H1 := Lib.hid h1
  have H2 := Lib.hid h2
  have HL := Lib.hid h.l
  have HW0 := Lib.hid h.K.below.size
  have k10 := cells_cell (o := 0) h1 rfl
  have k11 : W.cell? ⟨w.heap.size + 1, 1, none⟩ = some (.int .i64 x1) := cells_cell h1 rfl
  have k12 : W.cell? ⟨w.heap.size + 1, 2, none⟩ = some (.int .i64 n) := cells_cell h1 rfl
  have k13 : W.cell? ⟨w.heap.size + 1, 3, none⟩ = some (.int .i64 kk) := cells_cell h1 rfl
  have s1 : w.heap.size + 1 < W.heap.size := by omega
  clear h hb hs h0 h1 h2 hl9 hk
  unfold rt
  go_enter Try.func11, Try.ntmps11
  go_wp2_with (go_at_call 17; fail)
  clear hW
  refine (hS W t g c (HD.out.K).T).mono ?_
  rintro e w1 ⟨rfl, hg1⟩
  have hf1 := Fr.of_below hg1.below [g]
  have hk1 := HD.out.K.grown hg1.below
  have hkn := HD.out.K.T
  have hr1 := row_keep hkn HD.out.R hf1
  have hF1 := (Fr.of_below HB.out [g]).trans' hf1
  have H0n := Lib.hid (hf1.same H0.out (hkn.out H0.out (by decide)))
  have H1n := Lib.hid (hf1.same H1.out (hkn.out H1.out (by decide)))
  have H2n := Lib.hid (hf1.same H2.out (hkn.out H2.out (by decide)))
  have HKn := Lib.hid hk1
  have HRn := Lib.hid hr1
  have HFn := Lib.hid hF1
  clear HD hg1 hk1 hr1 hF1 hf1 hkn H0 H1 H2 k10 k11 k12 k13 s1
  have H0 := H0n
  clear H0n
  have H1 := H1n
  clear H1n
  have H2 := H2n
  clear H2n
  have HK := HKn
  clear HKn
  have HR := HRn
  clear HRn
  have HF := HFn
  clear HFn
  clear hS
  have hz1 := lt_of_block H2.out
  obtain ⟨X1, hX1⟩ : ∃ X, (w1.alloc (.cells #[.int .i64 n, .int .i64 b] 34)) = X := ⟨_, rfl⟩
  have hA : Below w1.heap.size w1 X1 := by rw [← hX1]; exact below_alloc _ _
  have B26 : Hid (X1.heap[w1.heap.size]? = some (.cells #[.int .i64 n, .int .i64 b] 34 (0, 0))) := Lib.hid (by rw [← hX1]; exact block_new _ _ _ rfl)
  have H0n := Lib.hid ((hA.block _ (lt_of_block H0.out)).trans H0.out)
  have H1n := Lib.hid ((hA.block _ (lt_of_block H1.out)).trans H1.out)
  have H2n := Lib.hid ((hA.block _ (lt_of_block H2.out)).trans H2.out)
  have HKn := Lib.hid (HK.out.grown hA)
  have HRn := Lib.hid (HR.out.below hA)
  have HFn := Lib.hid (HF.out.trans' (Fr.of_below hA _))
  clear hA HK HR HF H0 H1 H2
  have H0 := H0n
  clear H0n
  have H1 := H1n
  clear H1n
  have H2 := H2n
  clear H2n
  have HK := HKn
  clear HKn
  have HR := HRn
  clear HRn
  have HF := HFn
  clear HFn
  have k00 := cells_cell (o := 0) H0.out rfl
  have k01 : X1.cell? ⟨w.heap.size, 1, none⟩ = some (.slice va vn vc) := cells_cell H0.out rfl
  have k11 : X1.cell? ⟨w.heap.size + 1, 1, none⟩ = some (.int .i64 x1) := cells_cell H1.out rfl
  have k12 : X1.cell? ⟨w.heap.size + 1, 2, none⟩ = some (.int .i64 n) := cells_cell H1.out rfl
  have k13 : X1.cell? ⟨w.heap.size + 1, 3, none⟩ = some (.int .i64 kk) := cells_cell H1.out rfl
  have k10 := cells_cell (o := 0) H1.out rfl
  have s0 := lt_of_block H0.out
  have s1 := lt_of_block H1.out
  have b00 := cells_cell (o := 0) B26.out rfl
  have b01 := cells_cell (o := 1) B26.out rfl
  have b0l := lt_of_block B26.out
  go_wp2_with (go_at_call 30; fail)
  clear hX1
  unfold rt at hRf
  refine (hRf X1 _ (.slice va vn vc) HR.out).mono ?_
  rintro e w2 ⟨rfl, hg2⟩
  have hb2 := hg2.below
  have hr2 := HR.out.below hb2
  have H0n := Lib.hid ((hb2.block _ (lt_of_block H0.out)).trans H0.out)
  have H1n := Lib.hid ((hb2.block _ (lt_of_block H1.out)).trans H1.out)
  have H2n := Lib.hid ((hb2.block _ (lt_of_block H2.out)).trans H2.out)
  have B26n := Lib.hid ((hb2.block _ (lt_of_block B26.out)).trans B26.out)
  have HKn := Lib.hid (HK.out.grown hb2)
  have HRn := Lib.hid hr2
  have HFn := Lib.hid (HF.out.trans' (Fr.of_below hb2 _))
  clear hr2 hb2 hRf HK HR HF hg2 k00 k01 k11 k12 k13 k10 s0 s1 b00 b01 b0l H0 H1 H2 B26
  have H0 := H0n
  clear H0n
  have H1 := H1n
  clear H1n
  have H2 := H2n
  clear H2n
  have B26 := B26n
  clear B26n
  have HK := HKn
  clear HKn
  have HR := HRn
  clear HRn
  have HF := HFn
  clear HFn
  have hz2 : w1.heap.size < w2.heap.size := lt_of_block B26.out
  obtain ⟨X2, hX2⟩ : ∃ X, (w2.alloc (.cells #[.int .i64 n, .int .i64 b] 34)) = X := ⟨_, rfl⟩
  have hA : Below w2.heap.size w2 X2 := by rw [← hX2]; exact below_alloc _ _
  have B28 : Hid (X2.heap[w2.heap.size]? = some (.cells #[.int .i64 n, .int .i64 b] 34 (0, 0))) := Lib.hid (by rw [← hX2]; exact block_new _ _ _ rfl)
  have H0n := Lib.hid ((hA.block _ (lt_of_block H0.out)).trans H0.out)
  have H1n := Lib.hid ((hA.block _ (lt_of_block H1.out)).trans H1.out)
  have H2n := Lib.hid ((hA.block _ (lt_of_block H2.out)).trans H2.out)
  have B26n := Lib.hid ((hA.block _ (lt_of_block B26.out)).trans B26.out)
  have HKn := Lib.hid (HK.out.grown hA)
  have HRn := Lib.hid (HR.out.below hA)
  have HFn := Lib.hid (HF.out.trans' (Fr.of_below hA _))
  clear hA HK HR HF H0 H1 H2 B26
  have H0 := H0n
  clear H0n
  have H1 := H1n
  clear H1n
  have H2 := H2n
  clear H2n
  have B26 := B26n
  clear B26n
  have HK := HKn
  clear HKn
  have HR := HRn
  clear HRn
  have HF := HFn
  clear HFn
  have heq := fun W => eql_fd_same W (n) (b)
  have hneq := fun W => neq_fd_same W (n) (b)
  go_upto_region 22 with (fail)
  clear hX2
  have hz3 : w2.heap.size < X2.heap.size := lt_of_block B28.out
  have k00 := cells_cell (o := 0) H0.out rfl
  have k01 : X2.cell? ⟨w.heap.size, 1, none⟩ = some (.slice va vn vc) := cells_cell H0.out rfl
  have k11 : X2.cell? ⟨w.heap.size + 1, 1, none⟩ = some (.int .i64 x1) := cells_cell H1.out rfl
  have k12 : X2.cell? ⟨w.heap.size + 1, 2, none⟩ = some (.int .i64 n) := cells_cell H1.out rfl
  have k13 : X2.cell? ⟨w.heap.size + 1, 3, none⟩ = some (.int .i64 kk) := cells_cell H1.out rfl
  have k10 := cells_cell (o := 0) H1.out rfl
  have s0 := lt_of_block H0.out
  have s1 := lt_of_block H1.out
  have b00 := cells_cell (o := 0) B26.out rfl
  have b01 := cells_cell (o := 1) B26.out rfl
  have b0l := lt_of_block B26.out
  have b10 := cells_cell (o := 0) B28.out rfl
  have b11 := cells_cell (o := 1) B28.out rfl
  have b1l := lt_of_block B28.out
  go_wp2_with (go_at_call 19; fail)
  refine (hS2 X2 t g c (HK.out).T).mono ?_
  rintro e w3 ⟨rfl, hT1, hf1⟩
  have hk1 := HK.out.step hT1 hf1
  have hkn := HK.out.T
  have hr1 := row_keep hkn HR.out hf1
  have hF1 := HF.out.trans' hf1
  have H0n := Lib.hid (hf1.same H0.out (hkn.out H0.out (by decide)))
  have H1n := Lib.hid (hf1.same H1.out (hkn.out H1.out (by decide)))
  have H2n := Lib.hid (hf1.same H2.out (hkn.out H2.out (by decide)))
  have B26n := Lib.hid (hf1.same B26.out (hkn.out B26.out (by decide)))
  have B28n := Lib.hid (hf1.same B28.out (hkn.out B28.out (by decide)))
  have HKn := Lib.hid hk1
  have HRn := Lib.hid hr1
  have HFn := Lib.hid hF1
  clear HK HR HF hT1 hk1 hr1 hF1 hf1 hkn H0 H1 H2 B26 B28 
  have H0 := H0n
  clear H0n
  have H1 := H1n
  clear H1n
  have H2 := H2n
  clear H2n
  have B26 := B26n
  clear B26n
  have B28 := B28n
  clear B28n
  have HK := HKn
  clear HKn
  have HR := HRn
  clear HRn
  have HF := HFn
  clear HFn
  clear k00 k01 k11 k12 k13 k10 s0 s1 b00 b01 b0l b10 b11 b1l hS2
  have k00 := cells_cell (o := 0) H0.out rfl
  have k01 : w3.cell? ⟨w.heap.size, 1, none⟩ = some (.slice va vn vc) := cells_cell H0.out rfl
  have k11 : w3.cell? ⟨w.heap.size + 1, 1, none⟩ = some (.int .i64 x1) := cells_cell H1.out rfl
  have k12 : w3.cell? ⟨w.heap.size + 1, 2, none⟩ = some (.int .i64 n) := cells_cell H1.out rfl
  have k13 : w3.cell? ⟨w.heap.size + 1, 3, none⟩ = some (.int .i64 kk) := cells_cell H1.out rfl
  have k10 := cells_cell (o := 0) H1.out rfl
  have s0 := lt_of_block H0.out
  have s1 := lt_of_block H1.out
  have b00 := cells_cell (o := 0) B26.out rfl
  have b01 := cells_cell (o := 1) B26.out rfl
  have b0l := lt_of_block B26.out
  have b10 := cells_cell (o := 0) B28.out rfl
  have b11 := cells_cell (o := 1) B28.out rfl
  have b1l := lt_of_block B28.out
  have hRf := hRf2
  clear hRf2
  go_wp2_with (go_at_call 27; fail)
  unfold rt at hRf
  refine (hRf w3 _ (.slice va vn vc) HK.out.below.size HR.out).mono ?_
  rintro e w4 ⟨v', rfl, hr2, hb2⟩
  obtain ⟨ua, un, uc, rfl, -⟩ := hr2.form2
  have H0n := Lib.hid ((hb2.block _ (lt_of_block H0.out)).trans H0.out)
  have H1n := Lib.hid ((hb2.block _ (lt_of_block H1.out)).trans H1.out)
  have H2n := Lib.hid ((hb2.block _ (lt_of_block H2.out)).trans H2.out)
  have B26n := Lib.hid ((hb2.block _ (lt_of_block B26.out)).trans B26.out)
  have B28n := Lib.hid ((hb2.block _ (lt_of_block B28.out)).trans B28.out)
  have HKn := Lib.hid (HK.out.grown hb2)
  have HRn := Lib.hid hr2
  have HFn := Lib.hid (HF.out.trans' (Fr.of_below hb2 _))
  clear hr2 hb2 hRf HK HR HF  k00 k01 k11 k12 k13 k10 s0 s1 b00 b01 b0l b10 b11 b1l H0 H1 H2 B26 B28
  have H0 := H0n
  clear H0n
  have H1 := H1n
  clear H1n
  have H2 := H2n
  clear H2n
  have B26 := B26n
  clear B26n
  have B28 := B28n
  clear B28n
  have HK := HKn
  clear HKn
  have HR := HRn
  clear HRn
  have HF := HFn
  clear HFn
  have hz4 : w2.heap.size < w4.heap.size := lt_of_block B28.out
  obtain ⟨X4, hX4⟩ : ∃ X, (w4.alloc (.cells #[.int .i64 ((m : Nat) : Int), .slice ua un uc] 30)) = X := ⟨_, rfl⟩
  have hA : Below w4.heap.size w4 X4 := by rw [← hX4]; exact below_alloc _ _
  have B31 : Hid (X4.heap[w4.heap.size]? = some (.cells #[.int .i64 ((m : Nat) : Int), .slice ua un uc] 30 (0, 0))) := Lib.hid (by rw [← hX4]; exact block_new _ _ _ rfl)
  have H0n := Lib.hid ((hA.block _ (lt_of_block H0.out)).trans H0.out)
  have H1n := Lib.hid ((hA.block _ (lt_of_block H1.out)).trans H1.out)
  have H2n := Lib.hid ((hA.block _ (lt_of_block H2.out)).trans H2.out)
  have B26n := Lib.hid ((hA.block _ (lt_of_block B26.out)).trans B26.out)
  have B28n := Lib.hid ((hA.block _ (lt_of_block B28.out)).trans B28.out)
  have HKn := Lib.hid (HK.out.grown hA)
  have HRn := Lib.hid (HR.out.below hA)
  have HFn := Lib.hid (HF.out.trans' (Fr.of_below hA _))
  clear hA HK HR HF H0 H1 H2 B26 B28
  have H0 := H0n
  clear H0n
  have H1 := H1n
  clear H1n
  have H2 := H2n
  clear H2n
  have B26 := B26n
  clear B26n
  have B28 := B28n
  clear B28n
  have HK := HKn
  clear HKn
  have HR := HRn
  clear HRn
  have HF := HFn
  clear HFn
  have HSZ : Hid (w.heap.size + 1 + 1 < w1.heap.size ∧ w1.heap.size < w2.heap.size ∧ w2.heap.size < w4.heap.size) := Lib.hid ⟨hz1, hz2, hz4⟩
  clear hz1 hz2 hz3 hz4
  go_wp2_with fail
  clear hX4
  have HD3 : Hid (ESt w0 X4 t g c m (.slice ua un uc) P' L' (k + 1)) := Lib.hid ⟨HK.out, HR.out, HRL.out.1, HRL.out.2.1, HRL.out.2.2⟩
  have HNB : Hid (w.heap.size ≠ w.heap.size + 1 + 1 ∧ w1.heap.size ≠ w.heap.size + 1 + 1 ∧ w2.heap.size ≠ w.heap.size + 1 + 1 ∧ w4.heap.size ≠ w.heap.size + 1 + 1) := Lib.hid (by have := HSZ.out; omega)
  have hld : ∀ W', Fr [w.heap.size + 1 + 1] X4 W' → W'.cell? ⟨w.heap.size, 0, none⟩ = some (.int .i64 ((m : Nat) : Int)) ∧ W'.cell? ⟨w.heap.size, 1, none⟩ = some (.slice va vn vc) ∧ w.heap.size < W'.heap.size ∧ W'.cell? ⟨w1.heap.size, 0, none⟩ = some (.int .i64 n) ∧ W'.cell? ⟨w1.heap.size, 1, none⟩ = some (.int .i64 b) ∧ w1.heap.size < W'.heap.size ∧ W'.cell? ⟨w2.heap.size, 0, none⟩ = some (.int .i64 n) ∧ W'.cell? ⟨w2.heap.size, 1, none⟩ = some (.int .i64 b) ∧ w2.heap.size < W'.heap.size ∧ W'.cell? ⟨w4.heap.size, 0, none⟩ = some (.int .i64 ((m : Nat) : Int)) ∧ W'.cell? ⟨w4.heap.size, 1, none⟩ = some (.slice ua un uc) ∧ w4.heap.size < W'.heap.size := fun W' hb => by
    have e0 := hb.same H0.out (by have := HNB.out; simp; omega)
    have e1 := hb.same B26.out (by have := HNB.out; simp; omega)
    have e2 := hb.same B28.out (by have := HNB.out; simp; omega)
    have e3 := hb.same B31.out (by have := HNB.out; simp; omega)
    exact ⟨cells_cell e0 rfl, cells_cell e0 rfl, lt_of_block e0, cells_cell e1 rfl, cells_cell e1 rfl, lt_of_block e1, cells_cell e2 rfl, cells_cell e2 rfl, lt_of_block e2, cells_cell e3 rfl, cells_cell e3 rfl, lt_of_block e3⟩
  have HS1 : Hid (Fr [w.heap.size + 1 + 1] X4 X4.drew) := Lib.hid (fr_drewN X4 1 _)
  refine wp_region_mix (fun W' => Fr [w.heap.size + 1 + 1] X4 W') 12 [(true, 0), (true, 1), (true, 2), (true, 3), (true, 4), (true, 5), (true, 6), (true, 7), (true, 8), (true, 9), (false, 10), (false, 11)] (by kernel_rfl) (by kernel_rfl) (fun _ _ _ d _ h => by cases d <;> exact h) ?_
  simp only [List.map_cons, List.map_nil, List.getD_cons_zero, List.getD_cons_succ, List.drop_succ_cons, List.drop_zero]
  refine mix_move (.tmp 0) (.pointer (some ⟨t, 0, none⟩)) rfl HS1.out rfl rfl ?_
  simp only [Act.put, List.setIfInBounds_toArray, List.set_cons_zero, List.set_cons_succ]
  refine mix_take (.agg #[.int .i64 ((m : Nat) : Int), .slice ua un uc]) HS1.out rfl (fun W' hS => by obtain ⟨l0, l1, l2, l3, l4, l5, l6, l7, l8, l9, l10, l11⟩ := hld W' hS; go_simp) ?_
  simp only [Act.put, List.setIfInBounds_toArray, List.set_cons_zero, List.set_cons_succ]
  refine mix_move (.tmp 30) (.int .i64 x) rfl HS1.out rfl rfl ?_
  simp only [Act.put, List.setIfInBounds_toArray, List.set_cons_zero, List.set_cons_succ]
  refine mix_move (.tmp 32) (.int .i64 x) rfl HS1.out rfl rfl ?_
  simp only [Act.put, List.setIfInBounds_toArray, List.set_cons_zero, List.set_cons_succ]
  refine mix_take (.bool true) HS1.out rfl (fun W' hS => by go_simp) ?_
  simp only [Act.put, List.setIfInBounds_toArray, List.set_cons_zero, List.set_cons_succ]
  refine mix_move (.tmp 201) (.bool true) rfl HS1.out rfl rfl ?_
  simp only [Act.put, List.setIfInBounds_toArray, List.set_cons_zero, List.set_cons_succ]
  refine mix_move (.tmp 27) (.int .i64 code) rfl HS1.out rfl rfl ?_
  simp only [Act.put, List.setIfInBounds_toArray, List.set_cons_zero, List.set_cons_succ]
  refine mix_move (.tmp 29) (.int .i64 code) rfl HS1.out rfl rfl ?_
  simp only [Act.put, List.setIfInBounds_toArray, List.set_cons_zero, List.set_cons_succ]
  refine mix_take (.bool true) HS1.out rfl (fun W' hS => by go_simp) ?_
  simp only [Act.put, List.setIfInBounds_toArray, List.set_cons_zero, List.set_cons_succ]
  refine mix_take (.bool true) HS1.out rfl (fun W' hS => by go_simp) ?_
  simp only [Act.put, List.setIfInBounds_toArray, List.set_cons_zero, List.set_cons_succ]
  have D : Below X4.heap.size X4 X4.drew := ((Grn.refl X4).drew 1).below
  have c2 := (D.block _ (lt_of_block H2.out)).trans H2.out
  have HF7 := Lib.hid (HF.out.trans' (Fr.of_below D _))
  have HD7 := Lib.hid (HD3.out.grown D)
  clear D hld H0 H1 H2 HK HR HF HD3 B26 B28 B31
  refine mix_by (.pointer (some ⟨t, 0, none⟩)) rfl (by go_simp) HS1.out ?_
  simp only [Act.put, List.setIfInBounds_toArray, List.set_cons_zero, List.set_cons_succ]
  generalize X4.drew = V6 at *
  have y0 := cells_cell (o := 0) c2 rfl
  have y1 : V6.cell? ⟨w.heap.size + 1 + 1, 1, none⟩ = some (.slice none 0 0) := cells_cell c2 rfl
  have z0 := cells_free c2 0
  have z1 := cells_free c2 1
  have hxl := lt_of_block c2
  obtain ⟨f1, f2, f3, f4⟩ := HD7.out.fin HF7.out c2 (by omega) HW0.out (.int .i64 ((m : Nat) : Int)) (.slice ua un uc)
  have p0 := cells_cell (o := 0) f3 rfl
  have p1 := cells_cell (o := 1) f3 rfl
  have HS2 := Lib.hid (HS1.out.trans' f4)
  have HE1 := Lib.hid f1
  have HE2 := Lib.hid f2
  clear c2 f1 f2 f3 f4 HS1 HD7 HF7
  refine mix_step rfl (fun K hK => ?_)
  go_simp
  refine hK _ _ HS2.out ?_
  clear hK
  refine mix_nil ?_
  go_wp2_with fail
  exact bodyPost_ret (v := .tuple #[.pointer (some ⟨t, 0, none⟩), .agg #[.int .i64 ((m : Nat) : Int), .slice ua un uc], .bool true]) (by simp [results, Try.results11, go_sem, p0, p1]) rfl ⟨HE1.out, _, _, _, _, _, _, rfl, HE2.out⟩
end Go.Proofs.Ytbefiilbpbbjnaa
