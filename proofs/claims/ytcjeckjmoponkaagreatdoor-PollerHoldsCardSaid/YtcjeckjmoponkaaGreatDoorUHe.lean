/- PollerHolds: the calls that came in; the end. -/
import Derived.Test.YtcjeckjmoponkaaGreatDoorChecked
import Derived.Test.YtcjeckjmoponkaaGreatDoorRows
import Derived.Deep.Slices
import Derived.Deep.Fields
import Derived.ChangeSame
import Derived.ProofKit
import Derived.OpenShut
import Derived.ChangeOld
import Derived.Below
import Derived.Test.YtcjeckjmoponkaaGreatDoorUHn
import Derived.Test.YtcjeckjmoponkaaGreatDoorULaid
namespace Go.Proofs.YtcjeckjmoponkaaGreatDoor
open Go.ChangeShapes Go.WideShapes Go.ChangeAt Go.RowKit Go.Deep
set_option linter.unusedVariables false
set_option linter.unusedSimpArgs false
section
variable {H : Type} {enc : TypeId × Value → H} {P : Program} {w : World} {base : Nat} {spare : Nat → Bool} {held : Bool}

/-- The cells of each element of a slice, and that they are read as the element's type. -/
theorem slice_parts {t e : TypeId} {a : Option Addr} {len cap : Nat} {d : DataW H} {p : List MemPlace} (ht : P.underlying t = some (.slice e))
    (h : DataW.Trod enc P w base spare held t (.slice a len cap) d p) :
    (a = none ∧ len = 0 ∧ cap = 0) ∨ ∃ x : Addr, a = some x ∧ len ≤ cap ∧ cap ≤ maxLen ∧
      ∀ i, i < len → ∃ (cs : List Value) (n : Nat) (y : DataW H × List MemPlace), cs.length = P.cellsOf e ∧ (∀ j, j < P.cellsOf e → w.cell? (x.add (i * P.cellsOf e + j)) = cs[j]?) ∧ DataW.trod enc P w base spare held n e cs = some y := by
  obtain ⟨fuel, hf⟩ := h
  rcases open_slice ht hf with ⟨hcs, _⟩ | ⟨x, l, c, m, n, D, Pl, hcs, _, hl, hm, hmm, _, hi⟩
  · simp [Value.cells] at hcs
    exact .inl hcs
  · simp [Value.cells] at hcs
    obtain ⟨rfl, rfl, rfl⟩ := hcs
    refine .inr ⟨x, rfl, hl, hm, fun i him => ?_⟩
    have him' : i < m := by rw [hmm]; split <;> omega
    obtain ⟨cs', hcell, hd⟩ := hi i him'
    obtain ⟨_, hcl, hat⟩ := World.cells?_some hcell
    refine ⟨cs', _, _, hcl, fun j hj => ?_, hd⟩
    have := hat j hj
    rw [← this, add_add]
end


theorem cellsAct11 : Tryz.prog.cellsOf 50 = 7 := by kernel_rfl
theorem cellsI11 : Tryz.prog.cellsOf 3 = 1 := by kernel_rfl
theorem cellsT11 : Tryz.prog.cellsOf 23 = 1 := by kernel_rfl
theorem cellsDir11 : Tryz.prog.cellsOf 48 = 1 := by kernel_rfl
theorem cellsFD11 : Tryz.prog.cellsOf 47 = 2 := by kernel_rfl
theorem list7 {α : Type} {l : List α} (h : l.length = 7) : ∃ a b c d e f g, l = [a, b, c, d, e, f, g] := by
  match l, h with
  | [a, b, c, d, e, f, g], _ => exact ⟨a, b, c, d, e, f, g, rfl⟩
theorem u64_of {z : Int} (h : (Lit.int .u64 z).wf = true) : 0 ≤ z ∧ z ≤ Dl.never := by
  have e1 : IntKind.u64.min = 0 := rfl
  have e2 : IntKind.u64.max = 18446744073709551615 := rfl
  simp [Lit.wf, e1, e2] at h
  unfold Dl.never
  exact h
theorem open_acts11 {H : Type} {enc : TypeId × Value → H} {W : World} {a : Option Addr} {len cap : Nat} {d : DataW H} {p : List MemPlace}
    (h : DataW.Trod enc Tryz.prog W 0 (fun _ => true) true 24 (.slice a len cap) d p) : IsActs11 W a len cap := by
  rcases slice_parts Tryz.underlying24 h with ⟨_, h0, _⟩ | ⟨⟨b, off, spot⟩, rfl, hl, hm, hg⟩
  · exact ⟨by rw [h0]; exact Nat.zero_le _, .inl h0⟩
  · by_cases h0 : len = 0
    · exact ⟨by rw [h0]; exact Nat.zero_le _, .inl h0⟩
    · have key : ∀ i, i < len → ∃ x0 x1 x2 x3 x4 x5 x6 : Int, W.cell? (Addr.add ⟨b, off, spot⟩ (i * 7 + 0)) = some (.int .i64 x0) ∧ W.cell? (Addr.add ⟨b, off, spot⟩ (i * 7 + 1)) = some (.int .i64 x1) ∧ W.cell? (Addr.add ⟨b, off, spot⟩ (i * 7 + 2)) = some (.int .i64 x2) ∧ W.cell? (Addr.add ⟨b, off, spot⟩ (i * 7 + 3)) = some (.int .i64 x3) ∧ W.cell? (Addr.add ⟨b, off, spot⟩ (i * 7 + 4)) = some (.int .i64 x4) ∧ W.cell? (Addr.add ⟨b, off, spot⟩ (i * 7 + 5)) = some (.int .i64 x5) ∧ W.cell? (Addr.add ⟨b, off, spot⟩ (i * 7 + 6)) = some (.int .u64 x6) ∧ (Lit.int .u64 x6).wf = true := by
        intro i hi
        obtain ⟨cs, n, y, hcl, hcs, ht⟩ := hg i hi
        rw [cellsAct11] at hcl hcs
        obtain ⟨c0, c1, c2, c3, c4, c5, c6, rfl⟩ := list7 hcl
        obtain ⟨xs, n', _, _, hxl, hx, hg'⟩ := DataW.trod_struct Tryz.underlying50 ht
        have t0 := hg' 0 _ rfl
        have t1 := hg' 1 _ rfl
        have t2 := hg' 2 _ rfl
        have t3 := hg' 3 _ rfl
        have t4 := hg' 4 _ rfl
        have t5 := hg' 5 _ rfl
        have hx3 : xs.length = 6 := hx
        rw [List.getElem?_eq_getElem (by omega)] at t0 t1 t2 t3 t4 t5
        simp only [List.getElem_toArray, List.getElem_cons_zero, List.getElem_cons_succ, cellsI11, cellsT11, cellsFD11, cellsDir11] at t0 t1 t2 t3 t4 t5
        obtain ⟨x0, e0, _, w0⟩ := DataW.trod_int Tryz.underlying3 t0
        obtain ⟨x1, e1, _, w1⟩ := DataW.trod_int Tryz.underlying3 t1
        obtain ⟨x2, e2, _, w2⟩ := DataW.trod_int Tryz.underlying3 t2
        obtain ⟨x5, e5, _, w5⟩ := DataW.trod_int Tryz.underlying48 t4
        obtain ⟨x6, e6, _, w6⟩ := DataW.trod_int Tryz.underlying23 t5
        obtain ⟨ys, n2, _, _, hyl, hy, hg2⟩ := DataW.trod_struct Tryz.underlying47 t3
        have s0 := hg2 0 _ rfl
        have s1 := hg2 1 _ rfl
        have hy2 : ys.length = 2 := hy
        rw [List.getElem?_eq_getElem (by omega)] at s0 s1
        simp only [List.getElem_toArray, List.getElem_cons_zero, List.getElem_cons_succ, cellsI11] at s0 s1
        obtain ⟨x3, e3, _, w3⟩ := DataW.trod_int Tryz.underlying3 s0
        obtain ⟨x4, e4, _, w4⟩ := DataW.trod_int Tryz.underlying3 s1
        simp at e0 e1 e2 e3 e4 e5 e6
        subst e0 e1 e2 e3 e4 e5 e6
        exact ⟨x0, x1, x2, x3, x4, x5, x6, hcs 0 (by omega), hcs 1 (by omega), hcs 2 (by omega), hcs 3 (by omega), hcs 4 (by omega), hcs 5 (by omega), hcs 6 (by omega), w6⟩
      obtain ⟨_, _, _, _, _, _, _, c0, _⟩ := key 0 (by omega)
      have hspot : spot = none := by simpa [Addr.add] using World.cell?_spot c0
      subst hspot
      have hb : b < W.heap.size := World.block_lt_of_cell? W _ c0
      refine ⟨Nat.le_trans hl hm, .inr ⟨b, off, rfl, hb, fun i hi => ?_⟩⟩
      obtain ⟨x0, x1, x2, x3, x4, x5, x6, c0, c1, c2, c3, c4, c5, c6, w6⟩ := key i hi
      rw [add_plain] at c0 c1 c2 c3 c4 c5 c6
      exact ⟨⟨x0, x1, x2, x3, x4, x5, x6⟩, c0, by rw [Nat.add_assoc]; exact c1, by rw [Nat.add_assoc]; exact c2, by rw [Nat.add_assoc]; exact c3, by rw [Nat.add_assoc]; exact c4, by rw [Nat.add_assoc]; exact c5, by rw [Nat.add_assoc]; exact c6, (u64_of w6).1, (u64_of w6).2⟩
end Go.Proofs.YtcjeckjmoponkaaGreatDoor
