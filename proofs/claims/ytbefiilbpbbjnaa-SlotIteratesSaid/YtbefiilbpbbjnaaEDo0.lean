/- A table and the reference's side by side; what both answer. -/
import Derived.Test.YtbefiilbpbbjnaaERefE
import Derived.Test.YtbefiilbpbbjnaaEKnown
import Derived.Test.YtbefiilbpbbjnaaECopy
namespace Go.Proofs.Ytbefiilbpbbjnaa
open Go.RowKit Go.Sort
set_option linter.unusedVariables false
set_option linter.unusedSimpArgs false

structure ESt (w0 w : World) (t g c m : Nat) (v : Value) (P : Tab) (L : Fds) (k : Nat) : Prop where
  K : KT w0 w t g c P
  R : Row TF w w0.heap.size v L
  rel : Rel P L
  m : P.length = m
  l : L.length ≤ k
section
variable {w0 w w' : World} {t g c m k : Nat} {v : Value} {P P' : Tab} {L L' : Fds}
theorem ESt.m2 (h : ESt w0 w t g c m v P L k) : m ≤ 128 := by have := h.K.T.n2; have := h.m; omega
theorem ESt.grown (h : ESt w0 w t g c m v P L k) (hb : Below w.heap.size w w') : ESt w0 w' t g c m v P L k := ⟨h.K.grown hb, h.R.below hb, h.rel, h.m, h.l⟩
theorem row_keep {b : Nat} (hT : TAt w t g c P) (hR : Row TF w b v L) (hf : Fr [g] w w') : Row TF w' b v L := by
  obtain ⟨cur, h1, _⟩ := hT.r.ex
  exact hR.fr hf (fun y hy => by simpa using hR.ne h1 (by decide) y hy)
theorem KT.put (h : KT w0 w t g c P) {R : Nat} {y : Array Value} (hc : w.heap[R]? = some (.cells y 30 (0, 0))) (hl : w0.heap.size ≤ R) (hf : Fr [R] w w') : KT w0 w' t g c P := by
  refine ⟨h.T.fr hf (by simpa using ne_types h.T.t hc (by decide)) ?_, h.below.trans (hf.below (fun y hy => ?_) h.below.size), h.lt, h.lg⟩
  · have := h.T.out hc (by decide); simp at this; simpa using fun e => this e.symm
  · simp at hy; subst hy; exact hl
theorem ESt.put (h : ESt w0 w t g c m v P L k) {R : Nat} {y : Array Value} (hc : w.heap[R]? = some (.cells y 30 (0, 0))) (hl : w0.heap.size ≤ R) (hf : Fr [R] w w') : ESt w0 w' t g c m v P L k :=
  ⟨h.K.put hc hl hf, h.R.fr hf (fun y hy => by simpa using h.R.ne hc (by decide) y hy), h.rel, h.m, h.l⟩
/-- The result's block is written. -/
theorem ESt.fin {g' : Nat} {X : World} {R : Nat} {u0 u1 : Value} (h : ESt w0 X t g c m v P L k) (hF : Fr [g'] w X) (hc : X.heap[R]? = some (.cells #[u0, u1] 30 (0, 0))) (hl : w.heap.size ≤ R) (hl0 : w0.heap.size ≤ w.heap.size) (x0 x1 : Value) :
    Fr [g'] w ((X.setCell ⟨R, 0, none⟩ x0).setCell ⟨R, 1, none⟩ x1) ∧ ESt w0 ((X.setCell ⟨R, 0, none⟩ x0).setCell ⟨R, 1, none⟩ x1) t g c m v P L k ∧
    ((X.setCell ⟨R, 0, none⟩ x0).setCell ⟨R, 1, none⟩ x1).heap[R]? = some (.cells #[x0, x1] 30 (0, 0)) ∧ Fr [R] X ((X.setCell ⟨R, 0, none⟩ x0).setCell ⟨R, 1, none⟩ x1) := by
  have hf := (fr_setCell X ⟨R, 0, none⟩ x0).trans' (fr_setCell _ ⟨R, 1, none⟩ x1)
  refine ⟨hF.trans hf (fun x hx => .inr (by simp at hx; omega)), h.put hc (by omega) hf, ?_, hf⟩
  simpa using cells_set (cells_set hc 0 x0) 1 x1
end
/-- What the law's do returns. -/
def DoPost (w0 w : World) (g m k : Nat) (e : Ending) (w' : World) : Prop := Fr [g] w w' ∧ ∃ t' g' c' v' P' L', e = .returned (.tuple #[.pointer (some ⟨t', 0, none⟩), rt m v', .bool true]) ∧ ESt w0 w' t' g' c' m v' P' L' (k + 1)

/-- The blocks that do begins with. -/
theorem do_blocks (w : World) (o0 o1 o2 : Obj) : ∃ W, ((w.alloc o0).alloc o1).alloc o2 = W ∧ Below w.heap.size w W ∧ W.heap.size = w.heap.size + 3 ∧ W.heap[w.heap.size]? = some o0 ∧ W.heap[w.heap.size + 1]? = some o1 ∧ W.heap[w.heap.size + 1 + 1]? = some o2 := by
  have e0 := heap_alloc_new w o0
  have e1 : ((w.alloc o0).alloc o1).heap[w.heap.size + 1]? = some o1 := block_new _ _ _ (by simp)
  have e2 : (((w.alloc o0).alloc o1).alloc o2).heap[w.heap.size + 1 + 1]? = some o2 := block_new _ _ _ (by simp)
  refine ⟨_, rfl, (below_alloc _ _).trans (((below_alloc _ _).mono (by simp)).trans ((below_alloc _ _).mono (by simp; omega))), by simp, ?_, ?_, e2⟩
  · exact ((below_alloc _ _).block _ (by simp; omega)).trans (((below_alloc _ _).block _ (by simp)).trans e0)
  · exact ((below_alloc _ _).block _ (by simp)).trans e1

section
variable {P : Tab} {L : Fds} {m : Nat}
theorem open_both (hR : Rel P L) (hl : L.length ≤ 900) (hm : P.length = m) (hm2 : m ≤ 128) (x : Int) : ∃ (a b code : Int) (P' : Tab) (L' : Fds),
    (∀ w t g c, TAt w t g c P → Calls Try.prog 16 #[.pointer (some ⟨t, 0, none⟩), .int .i64 x] w fun e w' => e = .returned (.tuple #[.agg #[.int .i64 a, .int .i64 b], .int .i64 code]) ∧ TAt w' t g c P' ∧ Fr [g] w w') ∧
    (∀ w bs v, bs ≤ w.heap.size → Row TF w bs v L → Calls Try.prog 26 #[rt m v, .int .i64 x] w fun e w' => ∃ v', e = .returned (.tuple #[rt m v', .agg #[.int .i64 a, .int .i64 b], .int .i64 code]) ∧ Row TF w' bs v' L' ∧ Below w.heap.size w w') ∧
    Rel P' L' ∧ P'.length = m ∧ L'.length ≤ L.length + 1 := by
  by_cases hf : free P < P.length
  · obtain ⟨p, hp, hpo⟩ := free_lt hf
    refine ⟨_, _, 0, P.set (free P) ⟨true, p.g, x⟩, L ++ [⟨free P, p.g, x, false⟩], fun w t g c hT => slOpen_yes hT rfl hp x, fun w bs v hb hv => (refOpen_yes x (hv.src TF_ok) (by omega) hR hm hm2 rfl hp hpo).mono ?_, hR.open hp hpo x, by simpa using hm, by simp⟩
    rintro e w' ⟨v', rfl, hr, hb'⟩
    exact ⟨v', rfl, hr.lower hb, hb'⟩
  · have hff : free P = P.length := by have := free_le P; omega
    refine ⟨0, 0, 7, P, L, fun w t g c hT => (slOpen_full hT hff x).mono ?_, fun w bs v hb hv => (refOpen_full x (hv.src TF_ok) (by omega) hR hm hm2 hff).mono ?_, hR, hm, by omega⟩
    · rintro e w' ⟨rfl, hg⟩
      exact ⟨rfl, hT.grown hg.below, Fr.of_below hg.below _⟩
    · rintro e w' ⟨rfl, hg⟩
      exact ⟨v, rfl, hv.below hg.below, hg.below⟩

theorem close_both (hR : Rel P L) (hl : L.length ≤ 900) (hm : P.length = m) (N k : Int) : ∃ (x code : Int) (P' : Tab) (L' : Fds),
    (∀ w t g c, TAt w t g c P → Calls Try.prog 19 #[.pointer (some ⟨t, 0, none⟩), .agg #[.int .i64 N, .int .i64 k]] w fun e w' => e = .returned (.tuple #[.int .i64 x, .int .i64 code]) ∧ TAt w' t g c P' ∧ Fr [g] w w') ∧
    (∀ w bs v, bs ≤ w.heap.size → Row TF w bs v L → Calls Try.prog 27 #[rt m v, .agg #[.int .i64 N, .int .i64 k]] w fun e w' => ∃ v', e = .returned (.tuple #[rt m v', .int .i64 x, .int .i64 code]) ∧ Row TF w' bs v' L' ∧ Below w.heap.size w w') ∧
    Rel P' L' ∧ P'.length = m ∧ L'.length ≤ L.length + 1 := by
  rcases ref_name hR N k with ⟨A, B, n, G, v, rfl, rfl, hp, rfl, hA, hB⟩ | ⟨hno, hh⟩
  · have hG : G ≤ 1000000 := by have := hR.gen_le hp; simp only at this; omega
    have hch := hR.change hp hA hB v true
    refine ⟨v, 0, P.set n ⟨false, G + 1, 0⟩, A ++ ⟨n, G, v, true⟩ :: B, fun w t g c hT => slClose_yes hT hp hG, fun w bs v hb hv => (refClose_yes (hv.src TF_ok) (by omega) hA).mono ?_, by simpa using hch, by simpa using hm, by simp⟩
    rintro e w' ⟨v', rfl, hr, hb'⟩
    exact ⟨v', rfl, hr.lower hb, hb'⟩
  · refine ⟨0, 9, P, L, fun w t g c hT => (slClose_bad (finds_no hT hno) (by decide)).mono ?_, fun w bs v hb hv => (refClose_no (hv.src TF_ok) (by omega) hh).mono ?_, hR, hm, by omega⟩
    · rintro e w' ⟨rfl, hg⟩
      exact ⟨rfl, hT.grown hg.below, Fr.of_below hg.below _⟩
    · rintro e w' ⟨rfl, hg⟩
      exact ⟨v, rfl, hv.below hg.below, hg.below⟩

theorem get_both (hR : Rel P L) (hl : L.length ≤ 900) (N k : Int) : ∃ (x code : Int),
    (∀ w t g c, TAt w t g c P → Calls Try.prog 20 #[.pointer (some ⟨t, 0, none⟩), .agg #[.int .i64 N, .int .i64 k]] w fun e w' => e = .returned (.tuple #[.int .i64 x, .int .i64 code]) ∧ Grn w w') ∧
    (∀ w bs v, Row TF w bs v L → Calls Try.prog 28 #[rt m v, .agg #[.int .i64 N, .int .i64 k]] w fun e w' => e = .returned (.tuple #[.int .i64 x, .int .i64 code]) ∧ Grn w w') := by
  rcases ref_name hR N k with ⟨A, B, n, G, v, rfl, rfl, hp, rfl, hA, hB⟩ | ⟨hno, hh⟩
  · exact ⟨v, 0, fun w t g c hT => slGet_yes hT hp, fun w bs v hv => refGet_yes (hv.src TF_ok) (by omega) hA⟩
  · exact ⟨0, 9, fun w t g c hT => slGet_bad (finds_no hT hno) (by decide), fun w bs v hv => refGet_no (hv.src TF_ok) (by omega) hh⟩

theorem set_both (hR : Rel P L) (hl : L.length ≤ 900) (hm : P.length = m) (N k y : Int) : ∃ (code : Int) (P' : Tab) (L' : Fds),
    (∀ w t g c, TAt w t g c P → Calls Try.prog 18 #[.pointer (some ⟨t, 0, none⟩), .agg #[.int .i64 N, .int .i64 k], .int .i64 y] w fun e w' => e = .returned (.int .i64 code) ∧ TAt w' t g c P' ∧ Fr [g] w w') ∧
    (∀ w bs v, bs ≤ w.heap.size → Row TF w bs v L → Calls Try.prog 29 #[rt m v, .agg #[.int .i64 N, .int .i64 k], .int .i64 y] w fun e w' => ∃ v', e = .returned (.tuple #[rt m v', .int .i64 code]) ∧ Row TF w' bs v' L' ∧ Below w.heap.size w w') ∧
    Rel P' L' ∧ P'.length = m ∧ L'.length ≤ L.length + 1 := by
  rcases ref_name hR N k with ⟨A, B, n, G, v, rfl, rfl, hp, rfl, hA, hB⟩ | ⟨hno, hh⟩
  · have hch := hR.change hp hA hB y false
    refine ⟨0, P.set n ⟨true, G, y⟩, A ++ ⟨n, G, y, false⟩ :: B, fun w t g c hT => slSet_yes hT hp y, fun w bs v hb hv => (refSet_yes y (hv.src TF_ok) (by omega) hA).mono ?_, by simpa using hch, by simpa using hm, by simp⟩
    rintro e w' ⟨v', rfl, hr, hb'⟩
    exact ⟨v', rfl, hr.lower hb, hb'⟩
  · refine ⟨9, P, L, fun w t g c hT => (slSet_bad (finds_no hT hno) (by decide) y).mono ?_, fun w bs v hb hv => (refSet_no y (hv.src TF_ok) (by omega) hh).mono ?_, hR, hm, by omega⟩
    · rintro e w' ⟨rfl, hg⟩
      exact ⟨rfl, hT.grown hg.below, Fr.of_below hg.below _⟩
    · rintro e w' ⟨rfl, hg⟩
      exact ⟨v, rfl, hv.below hg.below, hg.below⟩

theorem at_both (hR : Rel P L) (hl : L.length ≤ 900) (N : Int) : ∃ (a b code : Int), ((a = 0 ∧ b = 0 ∧ code = 9) ∨ (a = N ∧ code = 0)) ∧
    (∀ w t g c, TAt w t g c P → Calls Try.prog 17 #[.pointer (some ⟨t, 0, none⟩), .int .i64 N] w fun e w' => e = .returned (.tuple #[.agg #[.int .i64 a, .int .i64 b], .int .i64 code]) ∧ Grn w w') ∧
    (∀ w bs v, Row TF w bs v L → Calls Try.prog 30 #[rt m v, .int .i64 N] w fun e w' => e = .returned (.tuple #[.agg #[.int .i64 a, .int .i64 b], .int .i64 code]) ∧ Grn w w') := by
  rcases n_cases P N with ⟨n, G, v, rfl, hp⟩ | hno
  · obtain ⟨A, B, rfl, hA, hB⟩ := hR.op n _ hp rfl
    exact ⟨_, _, 0, .inr ⟨rfl, rfl⟩, fun w t g c hT => slAt_yes hT hp, fun w bs v hv => refName_yes (hv.src TF_ok) (Nat.le_trans hl (by decide)) hA⟩
  · refine ⟨0, 0, 9, .inl ⟨rfl, rfl, rfl⟩, fun w t g c hT => slAt_no hT hno, fun w bs v hv => refName_no (hv.src TF_ok) (by omega) (fun f hf e => ?_)⟩
    obtain ⟨p, hp⟩ : ∃ p, P[f.n]? = some p := ⟨_, List.getElem?_eq_getElem (hR.lt f hf)⟩
    exact hR.no f.n p hp (hno f.n p e.symm hp) f hf rfl
end
end Go.Proofs.Ytbefiilbpbbjnaa
