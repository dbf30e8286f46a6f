/- KEnd: JEnd, merged. -/
import Derived.Test.YtgkodleblkjhcaaGreatDoorChecked
import Derived.Test.YtgkodleblkjhcaaGreatDoorRows
import Derived.Test.YtgkodleblkjhcaaGreatDoorKLaid
import Derived.Deep.Slices
import Derived.Deep.Fields
import Derived.ChangeSame
import Derived.ProofKit
import Derived.OpenShut
import Derived.ChangeOld
import Derived.Below
/- What the ends of the proofs share: the program's own switch; the calls that came in. -/
namespace Go.Proofs.YtgkodleblkjhcaaGreatDoor
open Go.ChangeShapes Go.WideShapes Go.ChangeAt Go.RowKit Go.Deep
set_option linter.unusedVariables false
set_option linter.unusedSimpArgs false

section
variable {H : Type} {enc : TypeId × Value → H} {P : Program} {w : World} {base : Nat} {spare : Nat → Bool} {held : Bool}

/-- The cells of each element of a slice, and that they are read as the element's type. -/
theorem slice_parts {t e : TypeId} {a : Option Addr} {len cap : Nat} {d : DataW H} {p : List MemPlace} (ht : P.underlying t = some (.slice e))
    (h : DataW.Trod enc P w base spare held t (.slice a len cap) d p) :
    (a = none ∧ len = 0 ∧ cap = 0) ∨ ∃ x : Addr, a = some x ∧ len ≤ cap ∧ cap ≤ maxLen ∧
      ∀ i, i < len → ∃ (cs : List Value) (n : Nat) (y : DataW H × List MemPlace), cs.length = P.cellsOf e ∧ (∀ j, j < P.cellsOf e → w.cell? (x.add (i * P.cellsOf e + j)) = cs[j]?) ∧ DataW.trod enc P w base spare held n e cs = some y := by
  obtain ⟨fuel, hf⟩ := h
  rcases open_slice ht hf with ⟨hcs, _⟩ | ⟨x, l, c, m, n, D, Pl, hcs, _, hl, hm, hmm, _, hi⟩
  · simp [Value.cells] at hcs
    exact .inl hcs
  · simp [Value.cells] at hcs
    obtain ⟨rfl, rfl, rfl⟩ := hcs
    refine .inr ⟨x, rfl, hl, hm, fun i him => ?_⟩
    have him' : i < m := by rw [hmm]; split <;> omega
    obtain ⟨cs', hcell, hd⟩ := hi i him'
    obtain ⟨_, hcl, hat⟩ := World.cells?_some hcell
    refine ⟨cs', _, _, hcl, fun j hj => ?_, hd⟩
    have := hat j hj
    rw [← this, add_add]
end

/-- The calls that came in. -/
def IsActs10 (w : World) (a : Option Addr) (len cap : Nat) : Prop :=
  len = 0 ∨ ∃ b off, a = some ⟨b, off, none⟩ ∧ len ≤ 9223372036854775807 ∧ b < w.heap.size ∧ ∀ i, i < len → ∃ x0 x1 x2 x3 : Int,
    w.cell? ⟨b, off + i * 4, none⟩ = some (.int .i64 x0) ∧ w.cell? ⟨b, off + i * 4 + 1, none⟩ = some (.int .i64 x1) ∧ w.cell? ⟨b, off + i * 4 + 2, none⟩ = some (.int .i64 x2) ∧ w.cell? ⟨b, off + i * 4 + 3, none⟩ = some (.int .u64 x3) ∧
    (Lit.int .i64 x0).wf = true ∧ (Lit.int .i64 x1).wf = true ∧ (Lit.int .i64 x2).wf = true ∧ (Lit.int .u64 x3).wf = true

theorem cellsAct10 : Tryz.prog.cellsOf 39 = 4 := by kernel_rfl
theorem cellsI10 : Tryz.prog.cellsOf 3 = 1 := by kernel_rfl
theorem cellsT10 : Tryz.prog.cellsOf 23 = 1 := by kernel_rfl
theorem cellsDir10 : Tryz.prog.cellsOf 35 = 1 := by kernel_rfl
theorem cellsSpot10 : Tryz.prog.cellsOf 37 = 2 := by kernel_rfl

theorem list4 {α : Type} {l : List α} (h : l.length = 4) : ∃ a b c d, l = [a, b, c, d] := by
  match l, h with
  | [a, b, c, d], _ => exact ⟨a, b, c, d, rfl⟩

theorem open_acts10 {H : Type} {enc : TypeId × Value → H} {W : World} {a : Option Addr} {len cap : Nat} {d : DataW H} {p : List MemPlace}
    (h : DataW.Trod enc Tryz.prog W 0 (fun _ => true) true 24 (.slice a len cap) d p) : IsActs10 W a len cap := by
  rcases slice_parts Tryz.underlying24 h with ⟨_, h0, _⟩ | ⟨⟨b, off, spot⟩, rfl, hl, hm, hg⟩
  · exact .inl h0
  · by_cases h0 : len = 0
    · exact .inl h0
    · have key : ∀ i, i < len → ∃ x0 x1 x2 x3 : Int, W.cell? (Addr.add ⟨b, off, spot⟩ (i * 4 + 0)) = some (.int .i64 x0) ∧ W.cell? (Addr.add ⟨b, off, spot⟩ (i * 4 + 1)) = some (.int .i64 x1) ∧ W.cell? (Addr.add ⟨b, off, spot⟩ (i * 4 + 2)) = some (.int .i64 x2) ∧ W.cell? (Addr.add ⟨b, off, spot⟩ (i * 4 + 3)) = some (.int .u64 x3) ∧
          (Lit.int .i64 x0).wf = true ∧ (Lit.int .i64 x1).wf = true ∧ (Lit.int .i64 x2).wf = true ∧ (Lit.int .u64 x3).wf = true := by
        intro i hi
        obtain ⟨cs, n, y, hcl, hcs, ht⟩ := hg i hi
        rw [cellsAct10] at hcl hcs
        obtain ⟨c0, c1, c2, c3, rfl⟩ := list4 hcl
        obtain ⟨xs, n', _, _, hxl, hx, hg'⟩ := DataW.trod_struct Tryz.underlying39 ht
        have t0 := hg' 0 _ rfl
        have t1 := hg' 1 _ rfl
        have t2 := hg' 2 _ rfl
        have hx3 : xs.length = 3 := hx
        rw [List.getElem?_eq_getElem (by omega)] at t0 t1 t2
        simp only [List.getElem_toArray, List.getElem_cons_zero, List.getElem_cons_succ, cellsI10, cellsT10, cellsSpot10] at t0 t1 t2
        obtain ⟨x0, e0, _, w0⟩ := DataW.trod_int Tryz.underlying3 t0
        obtain ⟨x3, e3, _, w3⟩ := DataW.trod_int Tryz.underlying23 t2
        obtain ⟨ys, n2, _, _, hyl, hy, hg2⟩ := DataW.trod_struct Tryz.underlying37 t1
        have s0 := hg2 0 _ rfl
        have s1 := hg2 1 _ rfl
        have hy2 : ys.length = 2 := hy
        rw [List.getElem?_eq_getElem (by omega)] at s0 s1
        simp only [List.getElem_toArray, List.getElem_cons_zero, List.getElem_cons_succ, cellsI10, cellsDir10] at s0 s1
        obtain ⟨x1, e1, _, w1⟩ := DataW.trod_int Tryz.underlying3 s0
        obtain ⟨x2, e2, _, w2⟩ := DataW.trod_int Tryz.underlying35 s1
        simp at e0 e1 e2 e3
        subst e0 e1 e2 e3
        exact ⟨x0, x1, x2, x3, hcs 0 (by omega), hcs 1 (by omega), hcs 2 (by omega), hcs 3 (by omega), w0, w1, w2, w3⟩
      obtain ⟨_, _, _, _, c0, _⟩ := key 0 (by omega)
      have hspot : spot = none := by simpa [Addr.add] using World.cell?_spot c0
      subst hspot
      have hb : b < W.heap.size := World.block_lt_of_cell? W _ c0
      unfold maxLen at hm
      refine .inr ⟨b, off, rfl, by omega, hb, fun i hi => ?_⟩
      obtain ⟨x0, x1, x2, x3, c0, c1, c2, c3, w0, w1, w2, w3⟩ := key i hi
      rw [add_plain] at c0 c1 c2 c3
      exact ⟨x0, x1, x2, x3, c0, by rw [Nat.add_assoc]; exact c1, by rw [Nat.add_assoc]; exact c2, by rw [Nat.add_assoc]; exact c3, w0, w1, w2, w3⟩
end Go.Proofs.YtgkodleblkjhcaaGreatDoor
