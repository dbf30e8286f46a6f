/- Bytes that were made of texts are written: what stays as it was. -/
import Derived.Test.YtkdbkamjaaehfaaCMade
import Derived.Test.YtkdbkamjaaehfaaCParts
namespace Go.Proofs.Ytkdbkamjaaehfaa
open Go.RowKit Go.Sort
set_option linter.unusedVariables false
set_option linter.unusedSimpArgs false

/-- Only bytes that were made of texts, from block b0 on, have been written. -/
structure Bumped (b0 : Nat) (w w' : World) : Prop where
  os : w'.os = w.os
  tape : w'.tape = w.tape
  output : w'.output = w.output
  size : w'.heap.size = w.heap.size
  block : ∀ k, w'.heap[k]? = w.heap[k]? ∨ (b0 ≤ k ∧ ∃ c xs xs', MkAt w k c xs ∧ MkAt w' k c xs')
theorem Bumped.refl (b0 : Nat) (w : World) : Bumped b0 w w := ⟨rfl, rfl, rfl, rfl, fun _ => .inl rfl⟩
theorem Bumped.trans {b0 : Nat} {a b c : World} (h : Bumped b0 a b) (k : Bumped b0 b c) : Bumped b0 a c := by
  refine ⟨k.os.trans h.os, k.tape.trans h.tape, k.output.trans h.output, k.size.trans h.size, fun x => ?_⟩
  rcases h.block x with h1 | ⟨hb, m, xs, xs', h1, h2⟩
  · rcases k.block x with h2 | ⟨hb, m, xs, xs', h2, h3⟩
    · exact .inl (h2.trans h1)
    · exact .inr ⟨hb, m, xs, xs', h2.same h1.symm, h3⟩
  · rcases k.block x with h3 | ⟨_, m', ys, ys', h3, h4⟩
    · exact .inr ⟨hb, m, xs, xs', h1, h2.same h3⟩
    · have := h2.cells
      rw [h3.cells] at this
      simp only [Option.some.injEq, Obj.cells.injEq, Prod.mk.injEq] at this
      obtain ⟨_, _, rfl, _⟩ := this
      exact .inr ⟨hb, m', xs, ys', h1, h4⟩
theorem Bumped.below {b0 : Nat} {w w' : World} (h : Bumped b0 w w') : Below b0 w w' :=
  ⟨h.os, h.tape, h.output, Nat.le_of_eq h.size.symm, fun k hk => by
    rcases h.block k with h1 | ⟨hb, _⟩
    · exact h1
    · omega⟩
/-- Other blocks are as they were. -/
theorem Bumped.plain {b0 : Nat} {w w' : World} (h : Bumped b0 w w') {k : Nat} {cur : Array Value} {t : TypeId} (hk : w.heap[k]? = some (.cells cur t (0, 0))) : w'.heap[k]? = some (.cells cur t (0, 0)) := by
  rcases h.block k with h1 | ⟨_, c, xs, _, h1, _⟩
  · exact h1.trans hk
  · have := h1.cells
    rw [hk] at this
    simp at this
theorem Bumped.row {b0 : Nat} {w w' : World} (h : Bumped b0 w w') {e : TypeId} {b : Nat} {v : Value} {xs : List Value} (hr : RowV w e b v xs) : RowV w' e b v xs := by
  refine ⟨hr.1, ?_⟩
  rcases hr.2 with h' | ⟨g, cap, cur, rfl, hb, hh, r⟩
  · exact .inl h'
  · exact .inr ⟨g, cap, cur, rfl, hb, h.plain hh, r⟩
theorem Bumped.rope {b0 : Nat} {w w' : World} (h : Bumped b0 w w') {b : Nat} {v : Value} {Ps : Parts} (R : RopeAt w b v Ps) : RopeAt w' b v Ps := by
  obtain ⟨vd, ve, h1, h2, h3⟩ := R.ex
  exact ⟨⟨vd, ve, h1, h.row h2, h.row h3⟩, R.ne, R.len, R.size⟩
theorem Bumped.made {b0 : Nat} {w w' : World} (h : Bumped b0 w w') {b c : Nat} {xs : List UInt8} (hm : MkAt w b c xs) : ∃ xs', MkAt w' b c xs' := by
  rcases h.block b with h1 | ⟨_, c', ys, ys', h1, h2⟩
  · exact ⟨xs, hm.same h1⟩
  · have := h1.cells
    rw [hm.cells] at this
    simp only [Option.some.injEq, Obj.cells.injEq, Prod.mk.injEq] at this
    obtain ⟨_, _, rfl, _⟩ := this
    exact ⟨ys', h2⟩
/-- One byte is written. -/
theorem bump_set {b0 : Nat} {w : World} {b c : Nat} {xs : List UInt8} (hm : MkAt w b c xs) (hb : b0 ≤ b) (j : Nat) (hj : j < c) (z : Int) (h0 : 0 ≤ z) (h1 : z < 256) : Bumped b0 w (w.setCell ⟨b, j, none⟩ (.int .u8 z)) := by
  have hl := hm.len
  have he : Value.int .u8 z = encB (UInt8.ofNat z.toNat) := by
    unfold encB
    congr 1
    simp
    omega
  have hs : (w.setCell ⟨b, j, none⟩ (.int .u8 z)).heap.size = w.heap.size := by simp [World.setCell]
  refine ⟨rfl, rfl, rfl, hs, fun k => ?_⟩
  by_cases hk : k = b
  · subst hk
    refine .inr ⟨hb, c, xs, xs.set j (UInt8.ofNat z.toNat), hm, ⟨?_, by simpa using hl, hm.max⟩⟩
    have hh := hm.cells
    have hkl := hm.lt
    simp only [World.setCell, he]
    rw [Array.getElem?_modify]
    simp [hh, List.map_set]
  · exact .inl (Below.heap_setCell w _ _ _ hk)
theorem RowV.elem {w : World} {e : TypeId} {b n c : Nat} {a : Option Addr} {xs : List Value} (h : RowV w e b (.slice a n c) xs) (k : Nat) (x : Value) (hk : xs[k]? = some x) : ∃ g, a = some ⟨g, 0, none⟩ ∧ g < w.heap.size ∧ w.cell? ⟨g, k, none⟩ = some x := by
  have hl : k < xs.length := (List.getElem?_eq_some_iff.1 hk).1
  obtain ⟨g, cap, hv, _, _⟩ := row_some h (by omega)
  simp only [Value.slice.injEq] at hv
  obtain ⟨rfl, rfl, rfl⟩ := hv
  have := row_cells h k x hk
  rw [Go.WideShapes.add_plain, Nat.zero_add] at this
  exact ⟨g, rfl, World.block_lt_of_cell? w _ this, this⟩
end Go.Proofs.Ytkdbkamjaaehfaa
