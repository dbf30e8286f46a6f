/- A table and the reference's side by side. -/
import Derived.Test.YtifdpdghjfcaaaaDoorFBoth
import Derived.Test.YtifdpdghjfcaaaaDoorFHold
namespace Go.Proofs.YtifdpdghjfcaaaaDoor
open Go.RowKit Go.Sort
set_option linter.unusedVariables false
set_option linter.unusedSimpArgs false

structure ESt (w0 w : World) (l : Tl) (P : Ks) (Q : Qu) (g : Nat) (s r : Value) (n k : Nat) : Prop where
  K : KS w0 w l P Q g
  rs : Row TI w w0.heap.size s (sts P)
  rr : Row TI w w0.heap.size r (vls Q)
  len : P.length = n
  g : g ≤ k
section
variable {w0 w w' : World} {l : Tl} {P P' : Ks} {Q Q' : Qu} {g g' n k : Nat} {s r : Value}
theorem ESt.grown (h : ESt w0 w l P Q g s r n k) (hb : Below w.heap.size w w') : ESt w0 w' l P Q g s r n k := ⟨h.K.grown hb, h.rs.below hb, h.rr.below hb, h.len, h.g⟩
theorem ESt.more (h : ESt w0 w l P Q g s r n k) : ESt w0 w l P Q g s r n (k + 1) := ⟨h.K, h.rs, h.rr, h.len, by have := h.g; omega⟩
theorem ESt.n2 (h : ESt w0 w l P Q g s r n k) : P.length ≤ 64 := h.K.K.n2
/-- A block of another type is written. -/
theorem ESt.put (h : ESt w0 w l P Q g s r n k) {x : Nat} {y : Array Value} {u : TypeId} (hc : w.heap[x]? = some (.cells y u (0, 0))) (h1 : u ≠ 71) (h2 : u ≠ 82) (h3 : u ≠ 43) (h4 : u ≠ 84) (h5 : 3 ≠ u) (hx : w0.heap.size ≤ x) (hf : Fr [x] w w') : ESt w0 w' l P Q g s r n k :=
  ⟨h.K.box hc h1 h2 h3 h4 hx hf, h.rs.fr hf (fun y hy => by simpa using h.rs.ne hc h5 y hy), h.rr.fr hf (fun y hy => by simpa using h.rr.ne hc h5 y hy), h.len, h.g⟩
end
/-- What the law's do returns. -/
def DoPost (w0 w : World) (l : Tl) (n k : Nat) (e : Ending) (w' : World) : Prop := Fr l.F w w' ∧ ∃ l' P' Q' g' s' r', e = .returned (.tuple #[.pointer (some ⟨l'.t, 0, none⟩), rk s' r', .bool true]) ∧ ESt w0 w' l' P' Q' g' s' r' n (k + 1)

/-- The blocks that do begins with. -/
theorem do_blocks (w : World) (o0 o1 o2 : Obj) : ∃ W, ((w.alloc o0).alloc o1).alloc o2 = W ∧ Below w.heap.size w W ∧ W.heap.size = w.heap.size + 3 ∧ W.heap[w.heap.size]? = some o0 ∧ W.heap[w.heap.size + 1]? = some o1 ∧ W.heap[w.heap.size + 1 + 1]? = some o2 := by
  have e0 := heap_alloc_new w o0
  have e1 : ((w.alloc o0).alloc o1).heap[w.heap.size + 1]? = some o1 := block_new _ _ _ (by simp)
  have e2 : (((w.alloc o0).alloc o1).alloc o2).heap[w.heap.size + 1 + 1]? = some o2 := block_new _ _ _ (by simp)
  refine ⟨_, rfl, (below_alloc _ _).trans (((below_alloc _ _).mono (by simp)).trans ((below_alloc _ _).mono (by simp; omega))), by simp, ?_, ?_, e2⟩
  · exact ((below_alloc _ _).block _ (by simp; omega)).trans (((below_alloc _ _).block _ (by simp)).trans e0)
  · exact ((below_alloc _ _).block _ (by simp)).trans e1
end Go.Proofs.YtifdpdghjfcaaaaDoor
