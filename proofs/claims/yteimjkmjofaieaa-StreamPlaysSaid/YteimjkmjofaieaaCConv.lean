/- Bytes that were made of a text; slices of them. -/
import Derived.Test.YteimjkmjofaieaaCNew
import Derived.Test.YteimjkmjofaieaaCLook
namespace Go.Proofs.Yteimjkmjofaieaa
open Go.RowKit Go.Sort
set_option linter.unusedVariables false
set_option linter.unusedSimpArgs false
set_option maxRecDepth 100000

/-- Bytes that were made of a text lie in block b, with what lies behind them. -/
structure MkAt (w : World) (b c : Nat) (xs : List UInt8) : Prop where
  cells : w.heap[b]? = some (.cells (xs.map encB).toArray 5 (c, c + 1))
  len : xs.length = c
  max : c ≤ maxLen
theorem MkAt.lt {w : World} {b c : Nat} {xs : List UInt8} (h : MkAt w b c xs) : b < w.heap.size := lt_of_block h.cells
theorem MkAt.cell {w : World} {b c : Nat} {xs : List UInt8} (h : MkAt w b c xs) (j : Nat) (hj : j < xs.length) : w.cell? ⟨b, j, none⟩ = some (.int .u8 ((xs[j].toNat : Nat) : Int)) := by
  simp [World.cell?, h.cells, hj, encB]
theorem MkAt.free {w : World} {b c : Nat} {xs : List UInt8} (h : MkAt w b c xs) (j : Nat) (hj : j < c) : w.frozen? ⟨b, j, none⟩ = false := by
  simp [World.frozen?, h.cells]
  omega
theorem MkAt.src {w : World} {b c : Nat} {xs : List UInt8} (h : MkAt w b c xs) (n : Nat) (hn : n ≤ c) : SrcV w (.slice (some ⟨b, 0, none⟩) n c) ((xs.take n).map encB) := by
  have hl : ((xs.take n).map encB).length = n := by have := h.len; simp; omega
  refine .inr ⟨⟨b, 0, none⟩, c, by rw [hl], by omega, h.max, fun j u hu => ?_, fun _ => rfl⟩
  rw [Go.WideShapes.add_plain, Nat.zero_add]
  have hj : j < n := by
    have := (List.getElem?_eq_some_iff.1 hu).1
    omega
  rw [h.cell j (by have := h.len; omega)]
  rw [List.getElem?_map, List.getElem?_take, if_pos hj] at hu
  have hx : j < xs.length := by have := h.len; omega
  rw [List.getElem?_eq_getElem hx] at hu
  simpa [encB] using hu
theorem MkAt.same {w w' : World} {b c : Nat} {xs : List UInt8} (h : MkAt w b c xs) (hs : w'.heap[b]? = w.heap[b]?) : MkAt w' b c xs := ⟨hs.trans h.cells, h.len, h.max⟩

theorem conv_bytes (w : World) (p : List UInt8) (hp : p.length ≤ 200000) :
    ∃ c xs W, (convert 9 29 (.string (strB p))).run Try.prog w = .ok (.slice (some ⟨w.heap.size, 0, none⟩) (strB p).size c) W ∧ Below w.heap.size w W ∧ MkAt W w.heap.size c xs ∧ xs.take p.length = p ∧ p.length ≤ c ∧ W.heap.size = w.heap.size + 1 := by
  have hcv := Lib.run_convert_string_bytes (P := Try.prog) w 9 29 5 (strB p) Try.underlying9 Try.underlying29 Try.underlying5
  have hge := grownCap_ge w (strB p).size 0 5
  have hmx := grownCap_le_maxLen w (strB p).size 0 5 (by rw [strB_size]; unfold maxLen; omega)
  have hcl : Lib.bytesCells w 5 (strB p) = ((p ++ List.replicate (grownCap w (strB p).size 0 5 - (strB p).size) (0 : UInt8)).map encB).toArray := by
    apply Array.ext'
    simp [Lib.bytesCells, strB, encB]
  have hnew := Lib.bytesWorld_at_new w 5 (strB p)
  have hsz : (Lib.bytesCells w 5 (strB p)).size = grownCap w (strB p).size 0 5 := by
    rw [hcl]
    rw [strB_size] at hge ⊢
    simp
    omega
  rw [hsz, hcl] at hnew
  rw [strB_size] at hge hnew
  refine ⟨_, p ++ List.replicate (grownCap w p.length 0 5 - p.length) 0, _, hcv, ⟨rfl, rfl, rfl, by rw [Lib.bytesWorld_size]; omega, fun k hk => Lib.bytesWorld_at_old w _ _ k hk⟩, ⟨?_, ?_, hmx⟩, by simp, ?_, Lib.bytesWorld_size _ _ _⟩
  · rw [strB_size]; exact hnew
  · rw [strB_size]; simp; omega
  · rw [strB_size]; exact hge

/-- Slices of bytes that were made, each in a block of its own type. -/
def Made (w : World) (base : Nat) (vs : List Value) (Ps : Parts) : Prop := vs.length = Ps.length ∧ ∀ (i : Nat) (v : Value) (p : List UInt8), vs[i]? = some v → Ps[i]? = some p → ∃ b c xs, v = .slice (some ⟨b, 0, none⟩) p.length c ∧ MkAt w b c xs ∧ xs.take p.length = p ∧ p.length ≤ c ∧ base ≤ b
theorem Made.same {w w' : World} {base : Nat} {vs : List Value} {Ps : Parts} (h : Made w base vs Ps) (hs : ∀ b c xs, MkAt w b c xs → w'.heap[b]? = w.heap[b]?) : Made w' base vs Ps :=
  ⟨h.1, fun i v p h1 h2 => by obtain ⟨b, c, xs, e1, e2, e3⟩ := h.2 i v p h1 h2; exact ⟨b, c, xs, e1, e2.same (hs b c xs e2), e3⟩⟩
theorem Made.rows {w : World} {base : Nat} {vs : List Value} {Ps : Parts} (h : Made w base vs Ps) : RowsB w vs Ps := by
  refine ⟨by simpa using h.1, fun i v q h1 h2 => ?_⟩
  rw [List.getElem?_map] at h2
  cases hp : Ps[i]? with
  | none => rw [hp] at h2; cases h2
  | some p =>
    rw [hp] at h2
    simp at h2
    subst h2
    obtain ⟨b, c, xs, rfl, h3, h4, h5, _⟩ := h.2 i v p h1 hp
    have := h3.src p.length h5
    rwa [h4] at this
theorem Made.snoc {w : World} {base : Nat} {vs : List Value} {Ps : Parts} (h : Made w base vs Ps) {b c : Nat} {xs p : List UInt8} (hm : MkAt w b c xs) (ht : xs.take p.length = p) (hc : p.length ≤ c) (hb : base ≤ b) : Made w base (vs ++ [.slice (some ⟨b, 0, none⟩) p.length c]) (Ps ++ [p]) := by
  refine ⟨by simp [h.1], fun i v q h1 h2 => ?_⟩
  by_cases hi : i < vs.length
  · rw [List.getElem?_append_left hi] at h1
    rw [List.getElem?_append_left (by rw [← h.1]; exact hi)] at h2
    exact h.2 i v q h1 h2
  · have hl := h.1
    rw [List.getElem?_append_right (by omega)] at h1
    rw [List.getElem?_append_right (by omega)] at h2
    obtain ⟨j, hj⟩ : ∃ j, i - vs.length = j := ⟨_, rfl⟩
    rw [hj] at h1
    rw [← hl, hj] at h2
    match j with
    | 0 =>
      simp at h1 h2
      subst h1 h2
      exact ⟨b, c, xs, rfl, hm, ht, hc, hb⟩
    | j + 1 => simp at h1
/-- What an append to the list of slices leaves alone. -/
theorem Made.appended {w w' : World} {base B : Nat} {vs zs : List Value} {Ps : Parts} {v : Value} (h : Made w base vs Ps) (hr : RowV w 29 B v zs) (hf : Fr v.ownBlock.toList w w') : Made w' base vs Ps := by
  refine h.same fun b c xs hm => hf.block b hm.lt (fun hmem => ?_)
  have hv : v.ownBlock = some b := by simpa using hmem
  rcases hr.2 with ⟨rfl, _⟩ | ⟨g, cap, cur, rfl, _, hh, _⟩
  · simp [Value.ownBlock] at hv
  · simp [Value.ownBlock] at hv
    subst hv
    rw [hm.cells] at hh
    simp only [Option.some.injEq, Obj.cells.injEq] at hh
    exact absurd hh.2.1 (by decide)
theorem RopeAt.fr {w w' : World} {F : List Nat} {b : Nat} {v : Value} {Ps : Parts} (R : RopeAt w b v Ps) (h : Fr F w w') (hF : ∀ x, x ∈ F → x < b) : RopeAt w' b v Ps := by
  obtain ⟨vd, ve, h1, h2, h3⟩ := R.ex
  exact ⟨⟨vd, ve, h1, h.row h2 (fun g hg hm => by have := (h2.lt g hg).1; have := hF g hm; omega), h.row h3 (fun g hg hm => by have := (h3.lt g hg).1; have := hF g hm; omega)⟩, R.ne, R.len, R.size⟩
theorem below3 (w : World) (x y z : Obj) : Below w.heap.size w (((w.alloc x).alloc y).alloc z) := (below_alloc _ _).trans (((below_alloc _ _).trans ((below_alloc _ _).mono (by simp))).mono (by simp))
end Go.Proofs.Yteimjkmjofaieaa
