/- A queue and the reference's side by side. -/
import Derived.Test.YtopkikdbhapfmaaDRPop
import Derived.Test.YtopkikdbhapfmaaDKnown
namespace Go.Proofs.Ytopkikdbhapfmaa
open Go.RowKit Go.Sort Go.MapKept
set_option linter.unusedVariables false
set_option linter.unusedSimpArgs false

/-- A queue that a law has made, and the reference's. -/
structure DSt (w0 w : World) (q b m : Nat) (v : Value) (L : Qu) (g : Nat) : Prop where
  K : KQ w0 w q b m L g
  R : RowR w w0.heap.size v L
section
variable {w0 w w' : World} {q b m g : Nat} {v : Value} {L : Qu}
theorem DSt.grown (h : DSt w0 w q b m v L g) (hb : Below w.heap.size w w') : DSt w0 w' q b m v L g := ⟨h.K.grown hb, h.R.below hb⟩
theorem DSt.off (h : DSt w0 w q b m v L g) : ∀ g, v.ownBlock = some g → g ∉ [b, m] := by
  intro g' hg'
  have h1 := h.R.ne h.K.Q.b (by decide) g' hg'
  have h2 := h.R.nmap h.K.Q.m g' hg'
  simp [h1, h2]
theorem DSt.row (h : DSt w0 w q b m v L g) (hf : Fr [b, m] w w') : RowR w' w0.heap.size v L := h.R.fr hf h.off
theorem DSt.len (h : DSt w0 w q b m v L g) : L.length ≤ g := by have := h.K.Q.inc.len; have := h.K.Q.le; omega
/-- A cell of another type is written. -/
theorem KQ.put (h : KQ w0 w q b m L g) {c : Nat} {y : Array Value} {u : TypeId} (hc : w.heap[c]? = some (.cells y u (0, 0))) (h1 : 54 ≠ u) (h2 : 65 ≠ u) (hl : w0.heap.size ≤ c) (hf : Fr [c] w w') : KQ w0 w' q b m L g := by
  refine ⟨h.Q.fr hf ?_ ?_ ?_, h.below.trans (hf.below (fun y hy => ?_) h.below.size), h.lq, h.lb, h.lm⟩
  · simpa using ne_types h.Q.q hc h1
  · simpa using ne_types h.Q.b hc h2
  · simpa using (h.Q.m.ne hc).symm
  · simp at hy; subst hy; exact hl
theorem DSt.put (h : DSt w0 w q b m v L g) {c : Nat} {y : Array Value} {u : TypeId} (hc : w.heap[c]? = some (.cells y u (0, 0))) (h1 : 54 ≠ u) (h2 : 65 ≠ u) (h3 : 46 ≠ u) (hl : w0.heap.size ≤ c) (hf : Fr [c] w w') : DSt w0 w' q b m v L g :=
  ⟨h.K.put hc h1 h2 hl hf, h.R.fr hf (fun g hg => by have := h.R.ne hc h3 g hg; simpa using this)⟩
end
/-- What the law's do returns. -/
def DoPost (w0 w : World) (b m g : Nat) (e : Ending) (w' : World) : Prop := Fr [b, m] w w' ∧ ∃ q' b' m' v' L' g', e = .returned (.tuple #[.pointer (some ⟨q', 0, none⟩), rq v' g', .bool true]) ∧ DSt w0 w' q' b' m' v' L' g' ∧ g' ≤ g + 1

/-- The blocks that do begins with. -/
theorem do_blocks (w : World) (o0 o1 o2 : Obj) : ∃ W, ((w.alloc o0).alloc o1).alloc o2 = W ∧ Below w.heap.size w W ∧ W.heap.size = w.heap.size + 3 ∧ W.heap[w.heap.size]? = some o0 ∧ W.heap[w.heap.size + 1]? = some o1 ∧ W.heap[w.heap.size + 1 + 1]? = some o2 := by
  have e0 := heap_alloc_new w o0
  have e1 : ((w.alloc o0).alloc o1).heap[w.heap.size + 1]? = some o1 := block_new _ _ _ (by simp)
  have e2 : (((w.alloc o0).alloc o1).alloc o2).heap[w.heap.size + 1 + 1]? = some o2 := block_new _ _ _ (by simp)
  refine ⟨_, rfl, (below_alloc _ _).trans (((below_alloc _ _).mono (by simp)).trans ((below_alloc _ _).mono (by simp; omega))), by simp, ?_, ?_, e2⟩
  · exact ((below_alloc _ _).block _ (by simp; omega)).trans (((below_alloc _ _).block _ (by simp)).trans e0)
  · exact ((below_alloc _ _).block _ (by simp)).trans e1
end Go.Proofs.Ytopkikdbhapfmaa
