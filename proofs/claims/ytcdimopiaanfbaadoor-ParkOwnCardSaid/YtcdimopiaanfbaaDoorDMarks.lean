/- What a function that ranges over a function must achieve. -/
import Derived.Test.YtcdimopiaanfbaaDoorDRange
namespace Go.Proofs.YtcdimopiaanfbaaDoor
open Go.RowKit Go.Sort Go.Shelf Go.MapKept
set_option linter.unusedVariables false
set_option linter.unusedSimpArgs false

/-- What the body of a function that ranges over a function must achieve: it does not panic. -/
def postM (P : Program) (fn : Func) (R : Ending → World → Prop) : Exit → Act → World → Prop
  | .normal, a, w | .ret, a, w => LeavesInM Fence.wide 6 P fn a.tmps R a.defers .returning w
  | _, _, _ => False
theorem postM_le {P : Program} {fn : Func} {R : Ending → World → Prop} : ∀ e a w, postM P fn R e a w → bodyPostM Fence.wide 6 P fn R e a w
  | .normal, _, _, h => h
  | .ret, _, _, h => h
  | .panic _, _, _, h => h.elim
  | .outgrown, _, _, h => h.elim
  | .exit _, _, _, h => h.elim
  | .goto _, _, _, h => h.elim
theorem calls_marks {P : Program} {f : FuncId} {fn : Func} {c : Code} {args : Array Value} {w : World} {R : Ending → World → Prop} (hf : P.funcs[f]? = some fn) (hb : fn.body = some c)
    (h : c.wp P (postM P fn R) { tmps := args ++ Array.replicate (fn.ntmps - args.size) undef, defers := [] } w) : Calls P f args w R :=
  (callsIn_wide (n := 6)).1 (callsIn_of_wp_marks hf hb trivial (wpIn_wide.2 (wp_mono h postM_le)) rfl)

theorem SeqAt.more {w W : World} {F : List Nat} {B : Nat} {L : Qu} (h : SeqAt w [] B L) (hb : Below w.heap.size w W) (hF : ∀ x ∈ F, w.heap.size ≤ x) : SeqAt W F B L := by
  obtain ⟨v, h1, h2, _⟩ := h.ex
  refine ⟨by have := hb.size; have := h.lt; omega, fun hm => by have := hF _ hm; have := h.lt; omega, h.len, v, (hb.block _ h.lt).trans h1, RowE.below h2 hb, fun g hg hm => ?_⟩
  have := (World.ownsRow.lt h2 g hg).2
  have := hF g hm
  omega

end Go.Proofs.YtcdimopiaanfbaaDoor
