/- The fields of the elements of a slice of structs that came in. -/
import Derived.Test.YteimjkmjofaieaaBMem
import Derived.Deep.Slices
import Derived.Deep.Fields
import Derived.ChangeSame
import Derived.ProofKit
import Derived.OpenShut
import Derived.ChangeOld
import Derived.Below
namespace Go.Proofs.Yteimjkmjofaieaa
open Go.ChangeShapes Go.WideShapes Go.ChangeAt Go.RowKit Go.Deep
set_option linter.unusedVariables false
set_option linter.unusedSimpArgs false

section
variable {H : Type} {enc : TypeId × Value → H} {P : Program} {w : World} {base : Nat} {spare : Nat → Bool} {held : Bool}

/-- One field of a struct whose fields take one cell each. -/
theorem field_at {e : TypeId} {fs : Array Field} {fuel : Nat} {cs : List Value} {x : DataW H × List MemPlace} (he : P.underlying e = some (.struct fs)) (h : DataW.trod enc P w base spare held fuel e cs = some x)
    (j : Nat) (f : Field) (hf : fs[j]? = some f) (ho : f.offset = j) (hc : P.cellsOf f.type = 1) (hlt : j < P.cellsOf e) :
    ∃ (v : Value) (n : Nat) (y : DataW H × List MemPlace), cs[j]? = some v ∧ DataW.trod enc P w base spare held n f.type [v] = some y := by
  obtain ⟨xs, n, _, _, hl, hx, hg⟩ := DataW.trod_struct he h
  have h1 := hg j f hf
  have hj : j < cs.length := by omega
  have hjf : j < fs.size := (Array.getElem?_eq_some_iff.1 hf).1
  have hone : (cs.drop j).take 1 = [cs[j]] := by rw [List.drop_eq_getElem_cons hj]; rfl
  rw [ho, hc, hone, List.getElem?_eq_getElem (by omega)] at h1
  exact ⟨cs[j], n, _, List.getElem?_eq_getElem hj, h1⟩

/-- The fields of the elements of a slice of such structs. -/
theorem slice_fields {t e : TypeId} {fs : Array Field} {a : Option Addr} {len cap : Nat} {d : DataW H} {p : List MemPlace} (ht : P.underlying t = some (.slice e)) (he : P.underlying e = some (.struct fs))
    (h : DataW.Trod enc P w base spare held t (.slice a len cap) d p) :
    (a = none ∧ len = 0 ∧ cap = 0) ∨ ∃ x : Addr, a = some x ∧ len ≤ cap ∧ cap ≤ maxLen ∧
      ∀ i, i < len → ∀ (j : Nat) (f : Field), fs[j]? = some f → f.offset = j → P.cellsOf f.type = 1 → j < P.cellsOf e →
        ∃ (v : Value) (n : Nat) (y : DataW H × List MemPlace), w.cell? (x.add (i * P.cellsOf e + j)) = some v ∧ DataW.trod enc P w base spare held n f.type [v] = some y := by
  obtain ⟨fuel, hf⟩ := h
  rcases open_slice ht hf with ⟨hcs, _⟩ | ⟨x, l, c, m, n, D, Pl, hcs, _, hl, hm, hmm, _, hi⟩
  · simp [Value.cells] at hcs
    exact .inl hcs
  · simp [Value.cells] at hcs
    obtain ⟨rfl, rfl, rfl⟩ := hcs
    refine .inr ⟨x, rfl, hl, hm, fun i him j f hfj ho hc hlt => ?_⟩
    have him' : i < m := by rw [hmm]; split <;> omega
    obtain ⟨cs', hcell, hd⟩ := hi i him'
    obtain ⟨_, hcl, hat⟩ := World.cells?_some hcell
    obtain ⟨v, n', y, hv, hy⟩ := field_at he hd j f hfj ho hc hlt
    refine ⟨v, n', y, ?_, hy⟩
    have := hat j hlt
    rw [hv] at this
    rw [← this, add_add]
end
end Go.Proofs.Yteimjkmjofaieaa
