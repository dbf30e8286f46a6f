/- The calls of a poller: its parts, the spot of a name. -/
import Derived.Test.YtcjeckjmoponkaaGreatDoorUMem
import Derived.Deep.QuietTactic
import Derived.BigQuiet
namespace Go.Proofs.YtcjeckjmoponkaaGreatDoor
open Go.RowKit Go.Sort
set_option linter.unusedVariables false
set_option linter.unusedSimpArgs false

/-- A poller that cannot be used. -/
def NoU (w : World) (v : Value) : Prop := v = .pointer none ∨ ∃ q, v = .pointer (some ⟨q, 0, none⟩) ∧ w.heap[q]? = some (.cells #[.pointer none, .pointer none, .pointer none, .slice none 0 0] 68 (0, 0))
theorem NoU.grown {w w' : World} {v : Value} (h : NoU w v) (hb : Below w.heap.size w w') : NoU w' v := by
  rcases h with h | ⟨q, h1, h2⟩
  · exact .inl h
  · exact .inr ⟨q, h1, (hb.block _ (lt_of_block h2)).trans h2⟩
theorem NoU.form {w : World} {v : Value} (h : NoU w v) : ∃ a, v = .pointer a := by
  rcases h with h | ⟨q, h1, h2⟩
  · exact ⟨_, h⟩
  · exact ⟨_, h1⟩
theorem grn_at {w w' : World} (h : Grn w w') {k : Nat} {o : Obj} (hk : w.heap[k]? = some o) : w'.heap[k]? = some o := (h.below.block _ (lt_of_block hk)).trans hk
theorem alloc1 (w : World) (o : Obj) : ∃ W, w.alloc o = W ∧ Grn w W ∧ W.heap.size = w.heap.size + 1 ∧ W.heap[w.heap.size]? = some o :=
  ⟨_, rfl, (Grn.refl w).alloc _, by simp, block_new _ _ _ rfl⟩
theorem alloc2 (w : World) (o o' : Obj) : ∃ W, (w.alloc o).alloc o' = W ∧ Grn w W ∧ W.heap.size = w.heap.size + 2 ∧ W.heap[w.heap.size]? = some o ∧ W.heap[w.heap.size + 1]? = some o' := by
  obtain ⟨W1, e1, g1, s1, b1⟩ := alloc1 w o
  obtain ⟨W2, e2, g2, s2, b2⟩ := alloc1 W1 o'
  exact ⟨W2, by rw [e1, e2], g1.trans g2, by omega, grn_at g2 b1, by rw [← s1]; exact b2⟩
theorem four {w : World} {k : Nat} {A B C D : Value} {u : TypeId} (h : w.heap[k]? = some (.cells #[A, B, C, D] u (0, 0))) : w.cell? ⟨k, 0, none⟩ = some A ∧ w.cell? ⟨k, 1, none⟩ = some B ∧ w.cell? ⟨k, 2, none⟩ = some C ∧ w.cell? ⟨k, 3, none⟩ = some D := ⟨cells_cell h rfl, cells_cell h rfl, cells_cell h rfl, cells_cell h rfl⟩
theorem two {w : World} {k : Nat} {A B : Value} {u : TypeId} (h : w.heap[k]? = some (.cells #[A, B] u (0, 0))) : w.cell? ⟨k, 0, none⟩ = some A ∧ w.cell? ⟨k, 1, none⟩ = some B := ⟨cells_cell h rfl, cells_cell h rfl⟩
theorem set_four {w : World} {k : Nat} {A B C D A' B' C' D' : Value} {u : TypeId} (h : w.heap[k]? = some (.cells #[A, B, C, D] u (0, 0))) : ((((w.setCell ⟨k, 0, none⟩ A').setCell ⟨k, 1, none⟩ B').setCell ⟨k, 2, none⟩ C').setCell ⟨k, 3, none⟩ D').heap[k]? = some (.cells #[A', B', C', D'] u (0, 0)) :=
  cells_set (cells_set (cells_set (cells_set h 0 A') 1 B') 2 C') 3 D'
theorem set_two {w : World} {k : Nat} {A B A' B' : Value} {u : TypeId} (h : w.heap[k]? = some (.cells #[A, B] u (0, 0))) : ((w.setCell ⟨k, 0, none⟩ A').setCell ⟨k, 1, none⟩ B').heap[k]? = some (.cells #[A', B'] u (0, 0)) :=
  cells_set (cells_set h 0 A') 1 B'
theorem field_po0 (W : World) (A B C D : Option Addr) (n m : Nat) : (Instr.field 68 (.agg #[.pointer A, .pointer B, .pointer C, .slice D n m]) 0).run Tryz.prog W = .ok (.pointer A) W := by kernel_rfl
theorem field_po1 (W : World) (A B C D : Option Addr) (n m : Nat) : (Instr.field 68 (.agg #[.pointer A, .pointer B, .pointer C, .slice D n m]) 1).run Tryz.prog W = .ok (.pointer B) W := by kernel_rfl
theorem field_po2 (W : World) (A B C D : Option Addr) (n m : Nat) : (Instr.field 68 (.agg #[.pointer A, .pointer B, .pointer C, .slice D n m]) 2).run Tryz.prog W = .ok (.pointer C) W := by kernel_rfl
theorem poParts_yes {w : World} {p : Nat} {A B C D : Option Addr} {n m : Nat} (h2 : w.heap[p]? = some (.cells #[.pointer A, .pointer B, .pointer C, .slice D n m] 68 (0, 0))) : Calls Tryz.prog 59 #[.pointer (some ⟨p, 0, none⟩)] w fun e w' => e = .returned (.agg #[.pointer A, .pointer B, .pointer C, .slice D n m]) ∧ Grn w w' := by
  obtain ⟨W, hW, hg, hs, hb⟩ := alloc1 w (.cells #[.pointer none, .pointer none, .pointer none, .slice none 0 0] 68)
  have H3 := Lib.hid (grn_at hg h2)
  have HG := Lib.hid hg
  have HW := Lib.hid hW
  have HB := Lib.hid hb
  clear h2 hg hs hb hW
  go_enter Tryz.func59, Tryz.ntmps59
  go_upto_region 1 with (fail)
  rw [HW.out]
  generalize hb : w.heap.size = b at *
  have Hb := Lib.hid hb
  clear hb
  obtain ⟨k0, k1, k2, k3⟩ := four H3.out
  obtain ⟨b0, b1, b2, b3⟩ := four HB.out
  have z0 := cells_free HB.out 0
  have z1 := cells_free HB.out 1
  have z2 := cells_free HB.out 2
  have z3 := cells_free HB.out 3
  have hbl := lt_of_block HB.out
  obtain ⟨p0, p1, p2, p3⟩ := four (set_four (A' := .pointer A) (B' := .pointer B) (C' := .pointer C) (D' := .slice D n m) HB.out)
  go_wp2_with fail
  refine bodyPost_ret (v := .agg #[.pointer A, .pointer B, .pointer C, .slice D n m]) (by simp [results, Tryz.results59, go_sem, p0, p1, p2, p3]) rfl ⟨rfl, ?_⟩
  have hl : w.heap.size ≤ b := by rw [Hb.out]; exact Nat.le_refl _
  exact (((HG.out.set _ _ hl).set _ _ hl).set _ _ hl).set _ _ hl
section
variable {w0 w w' : World} {O : Nat → Prop} {p t g c d r rc : Nat} {l : Ll} {OL OD : Nat → Prop} {x : Px} {G P : Nat}
theorem UB.parts (h : UB w0 w O p t g c d r rc l OL OD x G P) : Calls Tryz.prog 59 #[.pointer (some ⟨p, 0, none⟩)] w fun e w' => e = .returned (.agg #[.pointer (some ⟨t, 0, none⟩), .pointer (some ⟨l.a, 0, none⟩), .pointer (some ⟨d, 0, none⟩), .slice (some ⟨r, 0, none⟩) x.R.length rc]) ∧ Grn w w' := poParts_yes h.hp
theorem UB.grn (h : UB w0 w O p t g c d r rc l OL OD x G P) (hg : Grn w w') : UB w0 w' O p t g c d r rc l OL OD x G P := h.grown hg.below
set_option maxRecDepth 100000 in
set_option maxHeartbeats 1600000 in
theorem poFind_dir (h : UB w0 w O p t g c d r rc l OL OD x G P) (N K D : Int) (h0 : D ≠ 0) (h1 : D ≠ 1) : Calls Tryz.prog 66 #[.pointer (some ⟨p, 0, none⟩), .agg #[.int .i64 N, .int .i64 K], .int .i64 D] w fun e w' => e = .returned (.tuple #[.agg #[.int .i64 0, .int .i64 0], .int .i64 2]) ∧ Grn w w' := by
  obtain ⟨W, hW, hg, hs, hb0, hb1⟩ := alloc2 w (.cells #[.int .i64 N, .int .i64 K] 47) (.cells #[.int .i64 0, .int .i64 0] 132)
  have HU := Lib.hid (h.grown hg.below)
  have HP := Lib.hid (HU.out.parts)
  have HG := Lib.hid hg
  have HW := Lib.hid hW
  have HB0 := Lib.hid hb0
  have HB := Lib.hid hb1
  clear h hg hs hb0 hb1 hW
  go_enter Tryz.func66, Tryz.ntmps66
  go_upto_region 1 with (fail)
  rw [HW.out]
  generalize hb : w.heap.size = b at *
  have Hb := Lib.hid hb
  clear hb
  go_wp2_with (go_at_call 59; fail)
  refine HP.out.mono ?_
  rintro e w2 ⟨rfl, hg2⟩
  have HB2 := grn_at hg2 HB.out
  have HB3 := grn_at hg2 HB0.out
  have HG2 := Lib.hid (HG.out.trans hg2)
  clear hg2
  have hf0 := field_po0 w2
  have q0 : (D != 0) = true := by simpa using h0
  have q1 : (D != 1) = true := by simpa using h1
  obtain ⟨b0, b1⟩ := two HB2
  have z0 := cells_free HB2 0
  have z1 := cells_free HB2 1
  have bl := lt_of_block HB2
  obtain ⟨p0, p1⟩ := two (set_two (A' := .int .i64 0) (B' := .int .i64 0) HB2)
  clear HB2 HB3
  go_wp2_with fail
  refine bodyPost_ret (v := .tuple #[.agg #[.int .i64 0, .int .i64 0], .int .i64 2]) (by simp [results, Tryz.results66, go_sem, p0, p1]) rfl ⟨rfl, ?_⟩
  have hl : w.heap.size ≤ b + 1 := by rw [Hb.out]; exact Nat.le_succ _
  exact (HG2.out.set _ _ hl).set _ _ hl
set_option maxRecDepth 100000 in
set_option maxHeartbeats 1600000 in
theorem poFind_none0 (h : UB w0 w O p t g c d r rc l OL OD x G P) {N K : Int} (hh : Sl.NoFd x.T N K) : Calls Tryz.prog 66 #[.pointer (some ⟨p, 0, none⟩), .agg #[.int .i64 N, .int .i64 K], .int .i64 0] w fun e w' => e = .returned (.tuple #[.agg #[.int .i64 0, .int .i64 0], .int .i64 9]) ∧ Grn w w' := by
  obtain ⟨W, hW, hg, hs, hb0, hb1⟩ := alloc2 w (.cells #[.int .i64 N, .int .i64 K] 47) (.cells #[.int .i64 0, .int .i64 0] 132)
  have HU := Lib.hid (h.grown hg.below)
  have HP := Lib.hid (HU.out.parts)
  have HH := Lib.hid hh
  have HG := Lib.hid hg
  have HW := Lib.hid hW
  have HB0 := Lib.hid hb0
  have HB := Lib.hid hb1
  clear h hg hs hb0 hb1 hW hh
  go_enter Tryz.func66, Tryz.ntmps66
  go_upto_region 1 with (fail)
  rw [HW.out]
  generalize hb : w.heap.size = b at *
  have Hb := Lib.hid hb
  clear hb
  go_wp2_with (go_at_call 59; fail)
  refine HP.out.mono ?_
  rintro e w2 ⟨rfl, hg2⟩
  have HB2 := grn_at hg2 HB.out
  have HB3 := grn_at hg2 HB0.out
  have HG2 := Lib.hid (HG.out.trans hg2)
  have HU2 := Lib.hid (HU.out.grn hg2)
  clear hg2
  have hf0 := field_po0 w2
  obtain ⟨f0, f1⟩ := two HB3
  have HT := Lib.hid (Sl.slGet_bad (Sl.finds_no HU2.out.ht HH.out) (by decide))
  have HB2h := Lib.hid HB2
  have HB3h := Lib.hid HB3
  clear HB2 HB3
  go_wp2_with (go_at_call 65; fail)
  refine HT.out.mono ?_
  rintro e w3 ⟨rfl, hg3⟩
  have HB2 := grn_at hg3 HB2h.out
  have HB3 := grn_at hg3 HB3h.out
  have HG3 := Lib.hid (HG2.out.trans hg3)
  clear hg3 f0 f1 hf0
  obtain ⟨f0, f1⟩ := two HB3
  obtain ⟨b0, b1⟩ := two HB2
  have z0 := cells_free HB2 0
  have z1 := cells_free HB2 1
  have bl := lt_of_block HB2
  obtain ⟨p0, p1⟩ := two (set_two (A' := .int .i64 0) (B' := .int .i64 0) HB2)
  clear HB2 HB3
  go_wp2_with fail
  refine bodyPost_ret (v := .tuple #[.agg #[.int .i64 0, .int .i64 0], .int .i64 9]) (by simp [results, Tryz.results66, go_sem, p0, p1]) rfl ⟨rfl, ?_⟩
  have hl : w.heap.size ≤ b + 1 := by rw [Hb.out]; exact Nat.le_succ _
  exact (HG3.out.set _ _ hl).set _ _ hl
set_option maxRecDepth 100000 in
set_option maxHeartbeats 1600000 in
theorem poFind_ok0 (h : UB w0 w O p t g c d r rc l OL OD x G P) {n : Nat} {H : Nat} {v : Int} (hh : x.T[n]? = some ⟨true, H, v⟩) : Calls Tryz.prog 66 #[.pointer (some ⟨p, 0, none⟩), .agg #[.int .i64 ((n : Nat) : Int), .int .i64 ((H : Nat) : Int)], .int .i64 0] w fun e w' => e = .returned (.tuple #[.agg #[.int .i64 ((n : Nat) : Int), .int .i64 0], .int .i64 0]) ∧ Grn w w' := by
  obtain ⟨W, hW, hg, hs, hb0, hb1⟩ := alloc2 w (.cells #[.int .i64 ((n : Nat) : Int), .int .i64 ((H : Nat) : Int)] 47) (.cells #[.int .i64 0, .int .i64 0] 132)
  have HU := Lib.hid (h.grown hg.below)
  have HP := Lib.hid (HU.out.parts)
  have HH := Lib.hid hh
  have HG := Lib.hid hg
  have HW := Lib.hid hW
  have HB0 := Lib.hid hb0
  have HB := Lib.hid hb1
  clear h hg hs hb0 hb1 hW hh
  go_enter Tryz.func66, Tryz.ntmps66
  go_upto_region 1 with (fail)
  rw [HW.out]
  generalize hb : w.heap.size = b at *
  have Hb := Lib.hid hb
  clear hb
  go_wp2_with (go_at_call 59; fail)
  refine HP.out.mono ?_
  rintro e w2 ⟨rfl, hg2⟩
  have HB2 := grn_at hg2 HB.out
  have HB3 := grn_at hg2 HB0.out
  have HG2 := Lib.hid (HG.out.trans hg2)
  have HU2 := Lib.hid (HU.out.grn hg2)
  clear hg2
  have hf0 := field_po0 w2
  obtain ⟨f0, f1⟩ := two HB3
  have HT := Lib.hid (Sl.slGet_yes HU2.out.ht HH.out)
  have HB2h := Lib.hid HB2
  have HB3h := Lib.hid HB3
  clear HB2 HB3
  go_wp2_with (go_at_call 65; fail)
  refine HT.out.mono ?_
  rintro e w3 ⟨rfl, hg3⟩
  have HB2 := grn_at hg3 HB2h.out
  have HB3 := grn_at hg3 HB3h.out
  have HG3 := Lib.hid (HG2.out.trans hg3)
  clear hg3 f0 f1 hf0
  obtain ⟨f0, f1⟩ := two HB3
  obtain ⟨b0, b1⟩ := two HB2
  have z0 := cells_free HB2 0
  have z1 := cells_free HB2 1
  have bl := lt_of_block HB2
  obtain ⟨p0, p1⟩ := two (set_two (A' := .int .i64 ((n : Nat) : Int)) (B' := .int .i64 0) HB2)
  clear HB2 HB3
  go_wp2_with fail
  refine bodyPost_ret (v := .tuple #[.agg #[.int .i64 ((n : Nat) : Int), .int .i64 0], .int .i64 0]) (by simp [results, Tryz.results66, go_sem, p0, p1]) rfl ⟨rfl, ?_⟩
  have hl : w.heap.size ≤ b + 1 := by rw [Hb.out]; exact Nat.le_succ _
  exact (HG3.out.set _ _ hl).set _ _ hl
set_option maxRecDepth 100000 in
set_option maxHeartbeats 1600000 in
theorem poFind_none1 (h : UB w0 w O p t g c d r rc l OL OD x G P) {N K : Int} (hh : Sl.NoFd x.T N K) : Calls Tryz.prog 66 #[.pointer (some ⟨p, 0, none⟩), .agg #[.int .i64 N, .int .i64 K], .int .i64 1] w fun e w' => e = .returned (.tuple #[.agg #[.int .i64 0, .int .i64 0], .int .i64 9]) ∧ Grn w w' := by
  obtain ⟨W, hW, hg, hs, hb0, hb1⟩ := alloc2 w (.cells #[.int .i64 N, .int .i64 K] 47) (.cells #[.int .i64 0, .int .i64 0] 132)
  have HU := Lib.hid (h.grown hg.below)
  have HP := Lib.hid (HU.out.parts)
  have HH := Lib.hid hh
  have HG := Lib.hid hg
  have HW := Lib.hid hW
  have HB0 := Lib.hid hb0
  have HB := Lib.hid hb1
  clear h hg hs hb0 hb1 hW hh
  go_enter Tryz.func66, Tryz.ntmps66
  go_upto_region 1 with (fail)
  rw [HW.out]
  generalize hb : w.heap.size = b at *
  have Hb := Lib.hid hb
  clear hb
  go_wp2_with (go_at_call 59; fail)
  refine HP.out.mono ?_
  rintro e w2 ⟨rfl, hg2⟩
  have HB2 := grn_at hg2 HB.out
  have HB3 := grn_at hg2 HB0.out
  have HG2 := Lib.hid (HG.out.trans hg2)
  have HU2 := Lib.hid (HU.out.grn hg2)
  clear hg2
  have hf0 := field_po0 w2
  obtain ⟨f0, f1⟩ := two HB3
  have HT := Lib.hid (Sl.slGet_bad (Sl.finds_no HU2.out.ht HH.out) (by decide))
  have HB2h := Lib.hid HB2
  have HB3h := Lib.hid HB3
  clear HB2 HB3
  go_wp2_with (go_at_call 65; fail)
  refine HT.out.mono ?_
  rintro e w3 ⟨rfl, hg3⟩
  have HB2 := grn_at hg3 HB2h.out
  have HB3 := grn_at hg3 HB3h.out
  have HG3 := Lib.hid (HG2.out.trans hg3)
  clear hg3 f0 f1 hf0
  obtain ⟨f0, f1⟩ := two HB3
  obtain ⟨b0, b1⟩ := two HB2
  have z0 := cells_free HB2 0
  have z1 := cells_free HB2 1
  have bl := lt_of_block HB2
  obtain ⟨p0, p1⟩ := two (set_two (A' := .int .i64 0) (B' := .int .i64 0) HB2)
  clear HB2 HB3
  go_wp2_with fail
  refine bodyPost_ret (v := .tuple #[.agg #[.int .i64 0, .int .i64 0], .int .i64 9]) (by simp [results, Tryz.results66, go_sem, p0, p1]) rfl ⟨rfl, ?_⟩
  have hl : w.heap.size ≤ b + 1 := by rw [Hb.out]; exact Nat.le_succ _
  exact (HG3.out.set _ _ hl).set _ _ hl
set_option maxRecDepth 100000 in
set_option maxHeartbeats 1600000 in
theorem poFind_ok1 (h : UB w0 w O p t g c d r rc l OL OD x G P) {n : Nat} {H : Nat} {v : Int} (hh : x.T[n]? = some ⟨true, H, v⟩) : Calls Tryz.prog 66 #[.pointer (some ⟨p, 0, none⟩), .agg #[.int .i64 ((n : Nat) : Int), .int .i64 ((H : Nat) : Int)], .int .i64 1] w fun e w' => e = .returned (.tuple #[.agg #[.int .i64 ((n : Nat) : Int), .int .i64 1], .int .i64 0]) ∧ Grn w w' := by
  obtain ⟨W, hW, hg, hs, hb0, hb1⟩ := alloc2 w (.cells #[.int .i64 ((n : Nat) : Int), .int .i64 ((H : Nat) : Int)] 47) (.cells #[.int .i64 0, .int .i64 0] 132)
  have HU := Lib.hid (h.grown hg.below)
  have HP := Lib.hid (HU.out.parts)
  have HH := Lib.hid hh
  have HG := Lib.hid hg
  have HW := Lib.hid hW
  have HB0 := Lib.hid hb0
  have HB := Lib.hid hb1
  clear h hg hs hb0 hb1 hW hh
  go_enter Tryz.func66, Tryz.ntmps66
  go_upto_region 1 with (fail)
  rw [HW.out]
  generalize hb : w.heap.size = b at *
  have Hb := Lib.hid hb
  clear hb
  go_wp2_with (go_at_call 59; fail)
  refine HP.out.mono ?_
  rintro e w2 ⟨rfl, hg2⟩
  have HB2 := grn_at hg2 HB.out
  have HB3 := grn_at hg2 HB0.out
  have HG2 := Lib.hid (HG.out.trans hg2)
  have HU2 := Lib.hid (HU.out.grn hg2)
  clear hg2
  have hf0 := field_po0 w2
  obtain ⟨f0, f1⟩ := two HB3
  have HT := Lib.hid (Sl.slGet_yes HU2.out.ht HH.out)
  have HB2h := Lib.hid HB2
  have HB3h := Lib.hid HB3
  clear HB2 HB3
  go_wp2_with (go_at_call 65; fail)
  refine HT.out.mono ?_
  rintro e w3 ⟨rfl, hg3⟩
  have HB2 := grn_at hg3 HB2h.out
  have HB3 := grn_at hg3 HB3h.out
  have HG3 := Lib.hid (HG2.out.trans hg3)
  clear hg3 f0 f1 hf0
  obtain ⟨f0, f1⟩ := two HB3
  obtain ⟨b0, b1⟩ := two HB2
  have z0 := cells_free HB2 0
  have z1 := cells_free HB2 1
  have bl := lt_of_block HB2
  obtain ⟨p0, p1⟩ := two (set_two (A' := .int .i64 ((n : Nat) : Int)) (B' := .int .i64 1) HB2)
  clear HB2 HB3
  go_wp2_with fail
  refine bodyPost_ret (v := .tuple #[.agg #[.int .i64 ((n : Nat) : Int), .int .i64 1], .int .i64 0]) (by simp [results, Tryz.results66, go_sem, p0, p1]) rfl ⟨rfl, ?_⟩
  have hl : w.heap.size ≤ b + 1 := by rw [Hb.out]; exact Nat.le_succ _
  exact (HG3.out.set _ _ hl).set _ _ hl
/-- What find answers. -/
def fdS (x : Px) (N K D : Int) : Sp := if x.code N K D = 0 then (N, D) else (0, 0)
theorem poFind_any (h : UB w0 w O p t g c d r rc l OL OD x G P) (N K D : Int) : Calls Tryz.prog 66 #[.pointer (some ⟨p, 0, none⟩), .agg #[.int .i64 N, .int .i64 K], .int .i64 D] w fun e w' => e = .returned (.tuple #[.agg #[.int .i64 (fdS x N K D).1, .int .i64 (fdS x N K D).2], .int .i64 (x.code N K D)]) ∧ Grn w w' := by
  unfold fdS Px.code
  by_cases hd : D ≠ 0 ∧ D ≠ 1
  · simp only [if_pos hd]
    exact poFind_dir h N K D hd.1 hd.2
  · simp only [if_neg hd]
    cases hf : fdI x.T N K with
    | none =>
      have hn := fdI_none hf
      have h01 : D = 0 ∨ D = 1 := by omega
      rcases h01 with rfl | rfl
      · exact poFind_none0 h hn
      · exact poFind_none1 h hn
    | some y =>
      obtain ⟨n, q⟩ := y
      obtain ⟨rfl, rfl, hq, ho⟩ := fdI_some hf
      obtain ⟨o, H, v⟩ := q
      simp only at ho
      subst ho
      have h01 : D = 0 ∨ D = 1 := by omega
      rcases h01 with rfl | rfl
      · exact poFind_ok0 h hq
      · exact poFind_ok1 h hq
end
end Go.Proofs.YtcjeckjmoponkaaGreatDoor
