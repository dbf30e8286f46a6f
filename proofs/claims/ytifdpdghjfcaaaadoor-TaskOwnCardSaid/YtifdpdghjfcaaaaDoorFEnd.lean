/- What the ends of the proofs share: the program's own switch; the calls that came in. -/
import Derived.Test.YtifdpdghjfcaaaaDoorChecked
import Derived.Test.YtifdpdghjfcaaaaDoorRows
import Derived.Test.YtifdpdghjfcaaaaDoorFLaid
import Derived.Deep.Slices
import Derived.Deep.Fields
import Derived.ChangeSame
import Derived.ProofKit
import Derived.OpenShut
import Derived.ChangeOld
import Derived.Below
namespace Go.Proofs.YtifdpdghjfcaaaaDoor
open Go.ChangeShapes Go.WideShapes Go.ChangeAt Go.RowKit Go.Deep
set_option linter.unusedVariables false
set_option linter.unusedSimpArgs false

section
variable {H : Type} {enc : TypeId × Value → H} {P : Program} {w : World} {base : Nat} {spare : Nat → Bool} {held : Bool}

/-- One field of a struct whose fields take one cell each. -/
theorem field_at {e : TypeId} {fs : Array Field} {fuel : Nat} {cs : List Value} {x : DataW H × List MemPlace} (he : P.underlying e = some (.struct fs)) (h : DataW.trod enc P w base spare held fuel e cs = some x)
    (j : Nat) (f : Field) (hf : fs[j]? = some f) (ho : f.offset = j) (hc : P.cellsOf f.type = 1) (hlt : j < P.cellsOf e) :
    ∃ (v : Value) (n : Nat) (y : DataW H × List MemPlace), cs[j]? = some v ∧ DataW.trod enc P w base spare held n f.type [v] = some y := by
  obtain ⟨xs, n, _, _, hl, hx, hg⟩ := DataW.trod_struct he h
  have h1 := hg j f hf
  have hj : j < cs.length := by omega
  have hjf : j < fs.size := (Array.getElem?_eq_some_iff.1 hf).1
  have hone : (cs.drop j).take 1 = [cs[j]] := by rw [List.drop_eq_getElem_cons hj]; rfl
  rw [ho, hc, hone, List.getElem?_eq_getElem (by omega)] at h1
  exact ⟨cs[j], n, _, List.getElem?_eq_getElem hj, h1⟩

/-- The fields of the elements of a slice of such structs. -/
theorem slice_fields {t e : TypeId} {fs : Array Field} {a : Option Addr} {len cap : Nat} {d : DataW H} {p : List MemPlace} (ht : P.underlying t = some (.slice e)) (he : P.underlying e = some (.struct fs))
    (h : DataW.Trod enc P w base spare held t (.slice a len cap) d p) :
    (a = none ∧ len = 0 ∧ cap = 0) ∨ ∃ x : Addr, a = some x ∧ len ≤ cap ∧ cap ≤ maxLen ∧
      ∀ i, i < len → ∀ (j : Nat) (f : Field), fs[j]? = some f → f.offset = j → P.cellsOf f.type = 1 → j < P.cellsOf e →
        ∃ (v : Value) (n : Nat) (y : DataW H × List MemPlace), w.cell? (x.add (i * P.cellsOf e + j)) = some v ∧ DataW.trod enc P w base spare held n f.type [v] = some y := by
  obtain ⟨fuel, hf⟩ := h
  rcases open_slice ht hf with ⟨hcs, _⟩ | ⟨x, l, c, m, n, D, Pl, hcs, _, hl, hm, hmm, _, hi⟩
  · simp [Value.cells] at hcs
    exact .inl hcs
  · simp [Value.cells] at hcs
    obtain ⟨rfl, rfl, rfl⟩ := hcs
    refine .inr ⟨x, rfl, hl, hm, fun i him j f hfj ho hc hlt => ?_⟩
    have him' : i < m := by rw [hmm]; split <;> omega
    obtain ⟨cs', hcell, hd⟩ := hi i him'
    obtain ⟨_, hcl, hat⟩ := World.cells?_some hcell
    obtain ⟨v, n', y, hv, hy⟩ := field_at he hd j f hfj ho hc hlt
    refine ⟨v, n', y, ?_, hy⟩
    have := hat j hlt
    rw [hv] at this
    rw [← this, add_add]
end

/-- The calls that came in. -/
def IsActs8 (w : World) (a : Option Addr) (len cap : Nat) : Prop :=
  len = 0 ∨ ∃ b off, a = some ⟨b, off, none⟩ ∧ len ≤ 9223372036854775807 ∧ b < w.heap.size ∧ ∀ i, i < len → ∃ x0 x1 : Int,
    w.cell? ⟨b, off + i * 2, none⟩ = some (.int .i64 x0) ∧ w.cell? ⟨b, off + i * 2 + 1, none⟩ = some (.int .i64 x1) ∧
    (Lit.int .i64 x0).wf = true ∧ (Lit.int .i64 x1).wf = true

theorem cellsAct8 : Tryd.prog.cellsOf 34 = 2 := by kernel_rfl
theorem cellsI8 : Tryd.prog.cellsOf 3 = 1 := by kernel_rfl

theorem open_acts8 {H : Type} {enc : TypeId × Value → H} {W : World} {a : Option Addr} {len cap : Nat} {d : DataW H} {p : List MemPlace}
    (h : DataW.Trod enc Tryd.prog W 0 (fun _ => true) true 22 (.slice a len cap) d p) : IsActs8 W a len cap := by
  rcases slice_fields Tryd.underlying22 Tryd.underlying34 h with ⟨_, h0, _⟩ | ⟨⟨b, off, spot⟩, rfl, hl, hm, hg⟩
  · exact .inl h0
  · by_cases h0 : len = 0
    · exact .inl h0
    · have key : ∀ i, i < len → ∃ x0 x1 : Int, W.cell? (Addr.add ⟨b, off, spot⟩ (i * 2 + 0)) = some (.int .i64 x0) ∧ W.cell? (Addr.add ⟨b, off, spot⟩ (i * 2 + 1)) = some (.int .i64 x1) ∧
          (Lit.int .i64 x0).wf = true ∧ (Lit.int .i64 x1).wf = true := by
        intro i hi
        have hg' := hg i hi
        rw [cellsAct8] at hg'
        obtain ⟨v0, n0, y0, c0, t0⟩ := hg' 0 _ rfl rfl cellsI8 (by omega)
        obtain ⟨v1, n1, y1, c1, t1⟩ := hg' 1 _ rfl rfl cellsI8 (by omega)
        obtain ⟨x0, e0, _, w0⟩ := DataW.trod_int Tryd.underlying3 t0
        obtain ⟨x1, e1, _, w1⟩ := DataW.trod_int Tryd.underlying3 t1
        simp at e0 e1
        subst e0 e1
        exact ⟨x0, x1, c0, c1, w0, w1⟩
      obtain ⟨_, _, c0, _⟩ := key 0 (by omega)
      have hspot : spot = none := by simpa [Addr.add] using World.cell?_spot c0
      subst hspot
      have hb : b < W.heap.size := World.block_lt_of_cell? W _ c0
      unfold maxLen at hm
      refine .inr ⟨b, off, rfl, by omega, hb, fun i hi => ?_⟩
      obtain ⟨x0, x1, c0, c1, w0, w1⟩ := key i hi
      rw [add_plain] at c0 c1
      exact ⟨x0, x1, c0, by rw [Nat.add_assoc]; exact c1, w0, w1⟩
end Go.Proofs.YtifdpdghjfcaaaaDoor
