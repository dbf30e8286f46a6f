/- The reference: Find, Get, Name. -/
import Derived.Test.YtbefiilbpbbjnaaERefA
namespace Go.Proofs.Ytbefiilbpbbjnaa
open Go.RowKit Go.Sort
set_option linter.unusedVariables false
set_option linter.unusedSimpArgs false

/-- A call of At behind boxes of the caller's own. -/
theorem Src.alloc {w : World} {v : Value} {L : Fds} (h : Src TF w v L) (o : Obj) : Src TF (w.alloc o) v L := h.grown (below_alloc _ _)

set_option maxRecDepth 100000 in
set_option maxHeartbeats 3200000 in
theorem refFind_hit {w : World} {v : Value} {m : Nat} {A B : Fds} {f : Fd} {k : Int} (h : Src TF w v (A ++ f :: B)) (hl : (A ++ f :: B).length ≤ 1000) (hA : clo f.n A) (hc : f.c = false) (r : Int)
    (hr : (k = ((f.g : Nat) : Int) ∧ r = ((A.length : Nat) : Int)) ∨ (k ≠ ((f.g : Nat) : Int) ∧ r = -1)) :
    Calls Try.prog 41 #[rt m v, .agg #[.int .i64 ((f.n : Nat) : Int), .int .i64 k]] w fun e w' => e = .returned (.int .i64 r) ∧ Grn w w' := by
  obtain ⟨a, c, rfl, _, _⟩ := h.form
  obtain ⟨W, hW⟩ : ∃ W, (w.alloc (.cells #[.int .i64 ((m : Nat) : Int), .slice a (A ++ f :: B).length c] 30)).alloc (.cells #[.int .i64 ((f.n : Nat) : Int), .int .i64 k] 34) = W := ⟨_, rfl⟩
  have hgW : Grn w W := by rw [← hW]; exact ((Grn.refl w).alloc _).alloc _
  have hB0 : W.heap[w.heap.size]? = some (.cells #[.int .i64 ((m : Nat) : Int), .slice a (A ++ f :: B).length c] 30 (0, 0)) := by rw [← hW]; exact ((below_alloc _ _).block _ (by simp)).trans (block_new _ _ _ rfl)
  have hB1 : W.heap[w.heap.size + 1]? = some (.cells #[.int .i64 ((f.n : Nat) : Int), .int .i64 k] 34 (0, 0)) := by rw [← hW]; exact block_new _ _ _ (by simp)
  have HS := Lib.hid (h.grown hgW.below)
  have HAT := Lib.hid (refAt_yes (m := m) HS.out hl hA hc rfl)
  have b0 := cells_cell (o := 0) hB0 rfl
  have b1 : W.cell? ⟨w.heap.size, 1, none⟩ = some (.slice a (A ++ f :: B).length c) := cells_cell hB0 rfl
  have d0 : W.cell? ⟨w.heap.size + 1, 0, none⟩ = some (.int .i64 ((f.n : Nat) : Int)) := cells_cell hB1 rfl
  have hbl := lt_of_block hB0
  have hdl := lt_of_block hB1
  have HB0 := Lib.hid hB0
  have HB1 := Lib.hid hB1
  have HW := Lib.hid hW
  have HG := Lib.hid hgW
  have HR := Lib.hid hr
  obtain ⟨gb, off, cb, hv, hgl, hcc⟩ := HS.out.at (mid_at A B f)
  simp only [Value.slice.injEq] at hv
  obtain ⟨rfl, -, -⟩ := hv
  have hk0 : W.cell? ⟨gb, off + A.length * 4, none⟩ = some (.int .i64 ((f.n : Nat) : Int)) := hcc 0 _ rfl
  have hk1 : W.cell? ⟨gb, off + A.length * 4 + 1, none⟩ = some (.int .i64 ((f.g : Nat) : Int)) := hcc 1 _ rfl
  have HK := Lib.hid (And.intro hk0 (And.intro hk1 hgl))
  have HLN : Hid (A.length < (A ++ f :: B).length) := Lib.hid (by simp)
  clear h hA hc hB0 hB1 hW hgW hr hcc hk0 hk1 hgl
  generalize (A ++ f :: B).length = N at *
  generalize A.length = i at *
  generalize f.n = fn at *
  generalize f.g = fg at *
  unfold rt at *
  have i1 : (0 : Int) ≤ (i : Int) := by omega
  have i2 : (i : Int) < (N : Int) := by have := HLN.out; omega
  have i3 : (N : Int) ≤ 1000 := by omega
  have i4 : decide ((i : Int) < 0) = false := by simp
  go_enter Try.func41, Try.ntmps41
  go_wp2_with (go_at_call 31; fail)
  rw [HW.out]
  clear HW
  generalize w.heap.size = b at *
  go_wp2_with (go_at_call 31; fail)
  refine HAT.out.mono ?_
  rintro e w2 ⟨rfl, hg2⟩
  have k0 := (hg2.below.block b (lt_of_block HB0.out)).trans HB0.out
  have k1 := (hg2.below.block (b + 1) (lt_of_block HB1.out)).trans HB1.out
  have e1 : w2.cell? ⟨b, 1, none⟩ = some (.slice (some ⟨gb, off, none⟩) N c) := cells_cell k0 rfl
  have e2 : w2.cell? ⟨b + 1, 0, none⟩ = some (.int .i64 ((fn : Nat) : Int)) := cells_cell k1 rfl
  have e3 : w2.cell? ⟨b + 1, 1, none⟩ = some (.int .i64 k) := cells_cell k1 rfl
  have e4 := lt_of_block k0
  have e5 := lt_of_block k1
  have e6 : w2.cell? ⟨gb, off + i * 4, none⟩ = some (.int .i64 ((fn : Nat) : Int)) := (hg2.below.cell (p := ⟨gb, off + i * 4, none⟩) HK.out.2.2).trans HK.out.1
  have e7 : w2.cell? ⟨gb, off + i * 4 + 1, none⟩ = some (.int .i64 ((fg : Nat) : Int)) := (hg2.below.cell (p := ⟨gb, off + i * 4 + 1, none⟩) HK.out.2.2).trans HK.out.2.1
  have e8 : gb < w2.heap.size := Nat.lt_of_lt_of_le HK.out.2.2 hg2.below.size
  have HG2 := Lib.hid (HG.out.trans hg2)
  clear b0 b1 d0 hbl hdl hg2 k0 k1
  rcases HR.out with ⟨e, hr⟩ | ⟨e, hr⟩
  · subst e hr
    have hq := fun W => neq_fd_same W ((fn : Nat) : Int) ((fg : Nat) : Int)
    go_wp2_with fail
    go_quiet (fail)
    go_wp2_with fail
    go_ret
    exact ⟨rfl, HG2.out.drew nq⟩
  · subst hr
    have hq := fun W => neq_fd_other W ((fn : Nat) : Int) ((fg : Nat) : Int) k (fun h => e h.symm)
    clear e
    go_wp2_with fail
    go_quiet (fail)
    go_wp2_with fail
    go_ret
    exact ⟨rfl, HG2.out.drew nq⟩
set_option maxRecDepth 100000 in
set_option maxHeartbeats 3200000 in
theorem refFind_miss {w : World} {v : Value} {m : Nat} {L : Fds} {Nn k : Int} (h : Src TF w v L) (hl : L.length ≤ 1000) (hc : ∀ f ∈ L, ((f.n : Nat) : Int) = Nn → f.c = true) :
    Calls Try.prog 41 #[rt m v, .agg #[.int .i64 Nn, .int .i64 k]] w fun e w' => e = .returned (.int .i64 (-1)) ∧ Grn w w' := by
  obtain ⟨a, c, rfl, _, _⟩ := h.form
  have HAT := Lib.hid (refAt_no (m := m) (Nn := Nn) ((h.alloc (.cells #[.int .i64 ((m : Nat) : Int), .slice a L.length c] 30)).alloc (.cells #[.int .i64 Nn, .int .i64 k] 34)) hl hc)
  have HG := Lib.hid (((Grn.refl w).alloc (.cells #[.int .i64 ((m : Nat) : Int), .slice a L.length c] 30)).alloc (.cells #[.int .i64 Nn, .int .i64 k] 34))
  clear h hc
  generalize L.length = N at *
  unfold rt at *
  go_enter Try.func41, Try.ntmps41
  go_wp2_with (go_at_call 31; fail)
  refine HAT.out.mono ?_
  rintro e w2 ⟨rfl, hg2⟩
  have HG2 := Lib.hid (HG.out.trans hg2)
  clear hg2 HG HAT
  go_wp2_with fail
  go_quiet (fail)
  go_wp2_with fail
  go_ret
  exact ⟨rfl, HG2.out.drew nq⟩

/-- The table, the descriptors, and a name: its descriptor, or none. -/
theorem ref_name {P : Tab} {L : Fds} (h : Rel P L) (N k : Int) : (∃ A B n G v, N = ((n : Nat) : Int) ∧ k = ((G : Nat) : Int) ∧ P[n]? = some ⟨true, G, v⟩ ∧ L = A ++ ⟨n, G, v, false⟩ :: B ∧ clo n A ∧ clo n B) ∨
    (NoFd P N k ∧ ((∃ A B n G v, N = ((n : Nat) : Int) ∧ k ≠ ((G : Nat) : Int) ∧ L = A ++ ⟨n, G, v, false⟩ :: B ∧ clo n A) ∨ (∀ f ∈ L, ((f.n : Nat) : Int) = N → f.c = true))) := by
  rcases n_cases P N with ⟨n, G, v, hn, hp⟩ | hno
  · obtain ⟨A, B, hL, hA, hB⟩ := h.op n _ hp rfl
    by_cases hk : k = ((G : Nat) : Int)
    · exact .inl ⟨A, B, n, G, v, hn, hk, hp, hL, hA, hB⟩
    · refine .inr ⟨fun n' p' e' hp' ho' => ?_, .inl ⟨A, B, n, G, v, hn, hk, hL, hA⟩⟩
      obtain rfl : n' = n := by omega
      rw [hp] at hp'
      cases hp'
      exact hk
  · refine .inr ⟨hno.fd k, .inr fun f hf e => ?_⟩
    have hl := h.lt f hf
    have hp : P[f.n]? = some P[f.n] := List.getElem?_eq_getElem hl
    exact h.no f.n _ hp (hno f.n _ e.symm hp) f hf rfl
/-- Find says -1. -/
theorem refFind_none {w : World} {v : Value} {m : Nat} {P : Tab} {L : Fds} {N k : Int} (h : Src TF w v L) (hl : L.length ≤ 1000)
    (hh : (∃ A B n G v, N = ((n : Nat) : Int) ∧ k ≠ ((G : Nat) : Int) ∧ L = A ++ ⟨n, G, v, false⟩ :: B ∧ clo n A) ∨ (∀ f ∈ L, ((f.n : Nat) : Int) = N → f.c = true)) :
    Calls Try.prog 41 #[rt m v, .agg #[.int .i64 N, .int .i64 k]] w fun e w' => e = .returned (.int .i64 (-1)) ∧ Grn w w' := by
  rcases hh with ⟨A, B, n, G, x, hn, hk, hL, hA⟩ | hh
  · rw [hL] at h hl
    subst hn
    exact refFind_hit (f := ⟨n, G, x, false⟩) h hl hA rfl _ (.inr ⟨hk, rfl⟩)
  · exact refFind_miss h hl hh

set_option maxRecDepth 100000 in
set_option maxHeartbeats 3200000 in
theorem refGet_no {w : World} {v : Value} {m : Nat} {L : Fds} {N k : Int} (h : Src TF w v L) (hl : L.length ≤ 1000)
    (hh : (∃ A B n G v, N = ((n : Nat) : Int) ∧ k ≠ ((G : Nat) : Int) ∧ L = A ++ ⟨n, G, v, false⟩ :: B ∧ clo n A) ∨ (∀ f ∈ L, ((f.n : Nat) : Int) = N → f.c = true)) :
    Calls Try.prog 28 #[rt m v, .agg #[.int .i64 N, .int .i64 k]] w fun e w' => e = .returned (.tuple #[.int .i64 0, .int .i64 9]) ∧ Grn w w' := by
  obtain ⟨a, c, rfl, _, _⟩ := h.form
  have HF := Lib.hid (refFind_none (m := m) (P := []) ((h.alloc (.cells #[.int .i64 ((m : Nat) : Int), .slice a L.length c] 30)).alloc (.cells #[.int .i64 N, .int .i64 k] 34)) hl hh)
  have HG := Lib.hid (((Grn.refl w).alloc (.cells #[.int .i64 ((m : Nat) : Int), .slice a L.length c] 30)).alloc (.cells #[.int .i64 N, .int .i64 k] 34))
  clear h hh
  generalize L.length = M at *
  unfold rt at *
  go_enter Try.func28, Try.ntmps28
  go_wp2_with (go_at_call 41; fail)
  refine HF.out.mono ?_
  rintro e w2 ⟨rfl, hg2⟩
  have HG2 := Lib.hid (HG.out.trans hg2)
  clear hg2 HG HF
  go_wp2_with fail
  go_ret2
  exact ⟨rfl, HG2.out⟩
set_option maxRecDepth 100000 in
set_option maxHeartbeats 3200000 in
theorem refGet_yes {w : World} {v : Value} {m n G : Nat} {x : Int} {A B : Fds} (h : Src TF w v (A ++ ⟨n, G, x, false⟩ :: B)) (hl : (A ++ (⟨n, G, x, false⟩ : Fd) :: B).length ≤ 1000) (hA : clo n A) :
    Calls Try.prog 28 #[rt m v, .agg #[.int .i64 ((n : Nat) : Int), .int .i64 ((G : Nat) : Int)]] w fun e w' => e = .returned (.tuple #[.int .i64 x, .int .i64 0]) ∧ Grn w w' := by
  obtain ⟨a, c, rfl, _, _⟩ := h.form
  obtain ⟨W, hW⟩ : ∃ W, (w.alloc (.cells #[.int .i64 ((m : Nat) : Int), .slice a (A ++ (⟨n, G, x, false⟩ : Fd) :: B).length c] 30)).alloc (.cells #[.int .i64 ((n : Nat) : Int), .int .i64 ((G : Nat) : Int)] 34) = W := ⟨_, rfl⟩
  have hgW : Grn w W := by rw [← hW]; exact ((Grn.refl w).alloc _).alloc _
  have HB0 : Hid (W.heap[w.heap.size]? = some (.cells #[.int .i64 ((m : Nat) : Int), .slice a (A ++ (⟨n, G, x, false⟩ : Fd) :: B).length c] 30 (0, 0))) := Lib.hid (by rw [← hW]; exact ((below_alloc _ _).block _ (by simp)).trans (block_new _ _ _ rfl))
  have HS := Lib.hid (h.grown hgW.below)
  have HF := Lib.hid (refFind_hit (m := m) (f := ⟨n, G, x, false⟩) HS.out hl hA rfl _ (.inl ⟨rfl, rfl⟩))
  have HG := Lib.hid hgW
  have HW := Lib.hid hW
  have HLN : Hid (A.length < (A ++ (⟨n, G, x, false⟩ : Fd) :: B).length) := Lib.hid (by simp)
  obtain ⟨gb, off, cb, hv, hgl, hcc⟩ := HS.out.at (mid_at A B _)
  simp only [Value.slice.injEq] at hv
  obtain ⟨rfl, -, -⟩ := hv
  have HK : Hid (W.cell? ⟨gb, off + A.length * 4 + 2, none⟩ = some (.int .i64 x) ∧ gb < W.heap.size) := Lib.hid ⟨hcc 2 _ rfl, hgl⟩
  clear h hA hW hgW hcc hgl HS
  simp only at HF
  generalize (A ++ (⟨n, G, x, false⟩ : Fd) :: B).length = N at *
  generalize A.length = i at *
  unfold rt at *
  have i1 : (0 : Int) ≤ (i : Int) := by omega
  have i2 : (i : Int) < (N : Int) := by have := HLN.out; omega
  have i3 : (N : Int) ≤ 1000 := by omega
  have i4 : decide ((i : Int) < 0) = false := by simp
  go_enter Try.func28, Try.ntmps28
  go_wp2_with (go_at_call 41; fail)
  rw [HW.out]
  clear HW
  refine HF.out.mono ?_
  rintro e w2 ⟨rfl, hg2⟩
  generalize w.heap.size = b at *
  have k0 := (hg2.below.block b (lt_of_block HB0.out)).trans HB0.out
  have e1 : w2.cell? ⟨b, 1, none⟩ = some (.slice (some ⟨gb, off, none⟩) N c) := cells_cell k0 rfl
  have e4 := lt_of_block k0
  have e6 : w2.cell? ⟨gb, off + i * 4 + 2, none⟩ = some (.int .i64 x) := (hg2.below.cell (p := ⟨gb, off + i * 4 + 2, none⟩) HK.out.2).trans HK.out.1
  have e8 : gb < w2.heap.size := Nat.lt_of_lt_of_le HK.out.2 hg2.below.size
  have HG2 := Lib.hid (HG.out.trans hg2)
  clear hg2 k0
  go_wp2_with fail
  go_ret2
  exact ⟨rfl, HG2.out⟩

set_option maxRecDepth 100000 in
set_option maxHeartbeats 3200000 in
theorem refName_no {w : World} {v : Value} {m : Nat} {L : Fds} {N : Int} (h : Src TF w v L) (hl : L.length ≤ 1000) (hh : ∀ f ∈ L, ((f.n : Nat) : Int) = N → f.c = true) :
    Calls Try.prog 30 #[rt m v, .int .i64 N] w fun e w' => e = .returned (.tuple #[.agg #[.int .i64 0, .int .i64 0], .int .i64 9]) ∧ Grn w w' := by
  obtain ⟨a, c, rfl, _, _⟩ := h.form
  obtain ⟨W, hW⟩ : ∃ W, (w.alloc (.cells #[.int .i64 ((m : Nat) : Int), .slice a L.length c] 30)).alloc (.cells #[.int .i64 0, .int .i64 0] 34) = W := ⟨_, rfl⟩
  have hgW : Grn w W := by rw [← hW]; exact ((Grn.refl w).alloc _).alloc _
  have HB1 : Hid (W.heap[w.heap.size + 1]? = some (.cells #[.int .i64 0, .int .i64 0] 34 (0, 0))) := Lib.hid (by rw [← hW]; exact block_new _ _ _ (by simp))
  have HAT := Lib.hid (refAt_no (m := m) (h.grown hgW.below) hl hh)
  have HG := Lib.hid hgW
  have HW := Lib.hid hW
  clear h hh hW hgW
  generalize L.length = M at *
  unfold rt at *
  go_enter Try.func30, Try.ntmps30
  go_wp2_with (go_at_call 31; fail)
  rw [HW.out]
  clear HW
  refine HAT.out.mono ?_
  rintro e w2 ⟨rfl, hg2⟩
  have k1 := (hg2.below.block (w.heap.size + 1) (lt_of_block HB1.out)).trans HB1.out
  have y0 := cells_cell (o := 0) k1 rfl
  have y1 := cells_cell (o := 1) k1 rfl
  have z0 := cells_free k1 0
  have z1 := cells_free k1 1
  have hxl := lt_of_block k1
  have hput := cells_set (cells_set k1 0 (.int .i64 0)) 1 (.int .i64 0)
  have p0 := cells_cell (o := 0) hput rfl
  have p1 := cells_cell (o := 1) hput rfl
  have HG2 := Lib.hid (HG.out.trans hg2)
  clear hg2 HG HAT k1 hput
  go_wp2_with fail
  refine bodyPost_ret (v := .tuple #[.agg #[.int .i64 0, .int .i64 0], .int .i64 9]) (by simp [results, Try.results30, go_sem, p0, p1]) rfl ⟨rfl, ?_⟩
  exact (HG2.out.set _ _ (by simp)).set _ _ (by simp)
set_option maxRecDepth 100000 in
set_option maxHeartbeats 3200000 in
theorem refName_yes {w : World} {v : Value} {m n G : Nat} {x : Int} {A B : Fds} (h : Src TF w v (A ++ ⟨n, G, x, false⟩ :: B)) (hl : (A ++ (⟨n, G, x, false⟩ : Fd) :: B).length ≤ 1000) (hA : clo n A) :
    Calls Try.prog 30 #[rt m v, .int .i64 ((n : Nat) : Int)] w fun e w' => e = .returned (.tuple #[.agg #[.int .i64 ((n : Nat) : Int), .int .i64 ((G : Nat) : Int)], .int .i64 0]) ∧ Grn w w' := by
  obtain ⟨a, c, rfl, _, _⟩ := h.form
  obtain ⟨W, hW⟩ : ∃ W, (w.alloc (.cells #[.int .i64 ((m : Nat) : Int), .slice a (A ++ (⟨n, G, x, false⟩ : Fd) :: B).length c] 30)).alloc (.cells #[.int .i64 0, .int .i64 0] 34) = W := ⟨_, rfl⟩
  have hgW : Grn w W := by rw [← hW]; exact ((Grn.refl w).alloc _).alloc _
  have HB0 : Hid (W.heap[w.heap.size]? = some (.cells #[.int .i64 ((m : Nat) : Int), .slice a (A ++ (⟨n, G, x, false⟩ : Fd) :: B).length c] 30 (0, 0))) := Lib.hid (by rw [← hW]; exact ((below_alloc _ _).block _ (by simp)).trans (block_new _ _ _ rfl))
  have HB1 : Hid (W.heap[w.heap.size + 1]? = some (.cells #[.int .i64 0, .int .i64 0] 34 (0, 0))) := Lib.hid (by rw [← hW]; exact block_new _ _ _ (by simp))
  have HS := Lib.hid (h.grown hgW.below)
  have HAT := Lib.hid (refAt_yes (m := m) (f := ⟨n, G, x, false⟩) HS.out hl hA rfl rfl)
  have HG := Lib.hid hgW
  have HW := Lib.hid hW
  have HLN : Hid (A.length < (A ++ (⟨n, G, x, false⟩ : Fd) :: B).length) := Lib.hid (by simp)
  obtain ⟨gb, off, cb, hv, hgl, hcc⟩ := HS.out.at (mid_at A B _)
  simp only [Value.slice.injEq] at hv
  obtain ⟨rfl, -, -⟩ := hv
  have HK : Hid (W.cell? ⟨gb, off + A.length * 4, none⟩ = some (.int .i64 ((n : Nat) : Int)) ∧ W.cell? ⟨gb, off + A.length * 4 + 1, none⟩ = some (.int .i64 ((G : Nat) : Int)) ∧ gb < W.heap.size) := Lib.hid ⟨hcc 0 _ rfl, hcc 1 _ rfl, hgl⟩
  have HWS : Hid (w.heap.size ≤ w.heap.size + 1) := Lib.hid (by omega)
  clear h hA hW hgW hcc hgl HS
  simp only at HAT
  generalize (A ++ (⟨n, G, x, false⟩ : Fd) :: B).length = N at *
  generalize A.length = i at *
  unfold rt at *
  have i1 : (0 : Int) ≤ (i : Int) := by omega
  have i2 : (i : Int) < (N : Int) := by have := HLN.out; omega
  have i3 : (N : Int) ≤ 1000 := by omega
  have i4 : decide ((i : Int) < 0) = false := by simp
  go_enter Try.func30, Try.ntmps30
  go_wp2_with (go_at_call 31; fail)
  rw [HW.out]
  clear HW
  refine HAT.out.mono ?_
  rintro e w2 ⟨rfl, hg2⟩
  have k0 := (hg2.below.block w.heap.size (lt_of_block HB0.out)).trans HB0.out
  have k1 := (hg2.below.block (w.heap.size + 1) (lt_of_block HB1.out)).trans HB1.out
  have e1 : w2.cell? ⟨w.heap.size, 1, none⟩ = some (.slice (some ⟨gb, off, none⟩) N c) := cells_cell k0 rfl
  have e4 := lt_of_block k0
  have e6 : w2.cell? ⟨gb, off + i * 4, none⟩ = some (.int .i64 ((n : Nat) : Int)) := (hg2.below.cell (p := ⟨gb, off + i * 4, none⟩) HK.out.2.2).trans HK.out.1
  have e7 : w2.cell? ⟨gb, off + i * 4 + 1, none⟩ = some (.int .i64 ((G : Nat) : Int)) := (hg2.below.cell (p := ⟨gb, off + i * 4 + 1, none⟩) HK.out.2.2).trans HK.out.2.1
  have e8 : gb < w2.heap.size := Nat.lt_of_lt_of_le HK.out.2.2 hg2.below.size
  have y0 := cells_cell (o := 0) k1 rfl
  have y1 := cells_cell (o := 1) k1 rfl
  have z0 := cells_free k1 0
  have z1 := cells_free k1 1
  have hxl := lt_of_block k1
  have hput := cells_set (cells_set k1 0 (.int .i64 ((n : Nat) : Int))) 1 (.int .i64 ((G : Nat) : Int))
  have p0 := cells_cell (o := 0) hput rfl
  have p1 := cells_cell (o := 1) hput rfl
  have HG2 := Lib.hid (HG.out.trans hg2)
  clear hg2 HG HAT k0 k1 hput
  go_wp2_with fail
  refine bodyPost_ret (v := .tuple #[.agg #[.int .i64 ((n : Nat) : Int), .int .i64 ((G : Nat) : Int)], .int .i64 0]) (by simp [results, Try.results30, go_sem, p0, p1]) rfl ⟨rfl, ?_⟩
  exact (HG2.out.set _ _ (by simp)).set _ _ (by simp)
end Go.Proofs.Ytbefiilbpbbjnaa
