/- What the ends of the proofs share: calls, texts and numbers that came in. -/
import Derived.Test.YtaallpbcgabdnaaCEnd
import Derived.Test.YtaallpbcgabdnaaGFld
import Derived.Test.YtaallpbcgabdnaaXLaw
namespace Go.Proofs.Ytaallpbcgabdnaa
open Go.ChangeShapes Go.WideShapes Go.ChangeAt Go.RowKit Go.Deep
set_option linter.unusedVariables false
set_option linter.unusedSimpArgs false

theorem i64_of {z : Int} (h : (Lit.int .i64 z).wf = true) : I64 z := by
  have e1 : IntKind.i64.min = -9223372036854775808 := rfl
  have e2 : IntKind.i64.max = 9223372036854775807 := rfl
  simp [Lit.wf, e1, e2] at h
  exact h
/-- A call in memory. -/
def AcAt (w : World) (b off i : Nat) (a : Ac) : Prop := ∃ pa pl pc,
  w.cell? ⟨b, off + i * 4, none⟩ = some (.int .i64 a.what) ∧ w.cell? ⟨b, off + i * 4 + 1, none⟩ = some (.int .i64 a.n) ∧ w.cell? ⟨b, off + i * 4 + 2, none⟩ = some (.slice pa pl pc) ∧ w.cell? ⟨b, off + i * 4 + 3, none⟩ = some (.int .i64 a.wth) ∧
  SrcV w (.slice pa pl pc) (a.parts.map encS) ∧ a.parts.length = pl ∧ I64 a.what ∧ I64 a.n ∧ I64 a.wth
/-- The calls that came in. -/
def IsActs13 (w : World) (a : Option Addr) (len cap : Nat) : Prop :=
  ∃ l : List Ac, l.length = len ∧ len ≤ maxLen ∧ (len = 0 ∨ ∃ b off, a = some ⟨b, off, none⟩ ∧ b < w.heap.size ∧ ∀ i (h : i < l.length), AcAt w b off i l[i])

theorem cellsAct13 : Try.prog.cellsOf 35 = 4 := by kernel_rfl
theorem cellsI13 : Try.prog.cellsOf 3 = 1 := by kernel_rfl
theorem cellsS13 : Try.prog.cellsOf 33 = 1 := by kernel_rfl
theorem cellsE13 : Try.prog.cellsOf 26 = 1 := by kernel_rfl

theorem open_row13 {H : Type} {enc : TypeId × Value → H} {W : World} {v : Value} {n : Nat} {y : DataW H × List MemPlace} (h : DataW.trod enc Try.prog W 0 (fun _ => true) true n 33 [v] = some y) :
    ∃ (pa : Option Addr) (pl pc : Nat) (Ss : List (List UInt8)), v = .slice pa pl pc ∧ Ss.length = pl ∧ SrcV W (.slice pa pl pc) (Ss.map encS) := by
  rcases Go.Deep.open_strs Try.underlying33 Try.underlying9 (by kernel_rfl) h with ⟨hcs, _⟩ | ⟨x, l, c, m, Sx, hcs, _, hl, hm, hmm, _, hcell⟩
  · simp at hcs
    exact ⟨none, 0, 0, [], hcs, rfl, SrcV.nil _⟩
  · simp at hcs
    have hlm : l ≤ m := by rw [hmm]; split <;> omega
    refine ⟨some x, l, c, (List.range l).map fun i => (Sx i).data.toList, hcs, by simp, .inr ⟨x, c, by simp, by simpa using hl, hm, fun j u hu => ?_, fun h0 => ?_⟩⟩
    · rw [List.getElem?_map, List.getElem?_map] at hu
      have hj : j < l := by
        rcases Nat.lt_or_ge j l with h | h
        · exact h
        · rw [List.getElem?_eq_none (by simpa using h)] at hu; cases hu
      rw [List.getElem?_range hj] at hu
      simp only [Option.map_some, Option.some.injEq] at hu
      rw [(hcell j (by omega)).1, ← hu]
      unfold encS
      rw [strB_data]
    · have h0' : 0 < l := by simpa using h0
      have := (hcell 0 (by omega)).1
      simpa [Addr.add] using World.cell?_spot this

theorem open_acts13 {H : Type} {enc : TypeId × Value → H} {W : World} {a : Option Addr} {len cap : Nat} {d : DataW H} {p : List MemPlace}
    (h : DataW.Trod enc Try.prog W 0 (fun _ => true) true 22 (.slice a len cap) d p) : IsActs13 W a len cap := by
  rcases slice_fields Try.underlying22 Try.underlying35 h with ⟨_, h0, _⟩ | ⟨⟨b, off, spot⟩, rfl, hl, hm, hg⟩
  · exact ⟨[], h0.symm, by rw [h0]; exact Nat.zero_le _, .inl h0⟩
  · by_cases h0 : len = 0
    · exact ⟨[], h0.symm, by rw [h0]; exact Nat.zero_le _, .inl h0⟩
    · have key : ∀ i, i < len → ∃ (x0 x1 x3 : Int) (pa : Option Addr) (pl pc : Nat) (M : List (List UInt8)), W.cell? (Addr.add ⟨b, off, spot⟩ (i * 4 + 0)) = some (.int .i64 x0) ∧ W.cell? (Addr.add ⟨b, off, spot⟩ (i * 4 + 1)) = some (.int .i64 x1) ∧ W.cell? (Addr.add ⟨b, off, spot⟩ (i * 4 + 2)) = some (.slice pa pl pc) ∧ W.cell? (Addr.add ⟨b, off, spot⟩ (i * 4 + 3)) = some (.int .i64 x3) ∧
          (Lit.int .i64 x0).wf = true ∧ (Lit.int .i64 x1).wf = true ∧ (Lit.int .i64 x3).wf = true ∧ M.length = pl ∧ SrcV W (.slice pa pl pc) (M.map encS) := by
        intro i hi
        have hg' := hg i hi
        rw [cellsAct13] at hg'
        obtain ⟨v0, n0, y0, c0, t0⟩ := hg' 0 _ rfl rfl cellsI13 (by omega)
        obtain ⟨v1, n1, y1, c1, t1⟩ := hg' 1 _ rfl rfl cellsI13 (by omega)
        obtain ⟨v2, n2, y2, c2, t2⟩ := hg' 2 _ rfl rfl cellsS13 (by omega)
        obtain ⟨v3, n3, y3, c3, t3⟩ := hg' 3 _ rfl rfl cellsE13 (by omega)
        obtain ⟨x0, e0, _, w0⟩ := DataW.trod_int Try.underlying3 t0
        obtain ⟨x1, e1, _, w1⟩ := DataW.trod_int Try.underlying3 t1
        obtain ⟨x3, e3, _, w3⟩ := DataW.trod_int Try.underlying26 t3
        obtain ⟨pa, pl, pc, M, rfl, h1, h2⟩ := open_row13 t2
        simp at e0 e1 e3
        subst e0 e1 e3
        exact ⟨x0, x1, x3, pa, pl, pc, M, c0, c1, c2, c3, w0, w1, w3, h1, h2⟩
      have hspot : spot = none := by
        obtain ⟨_, _, _, _, _, _, _, c0, _⟩ := key 0 (by omega)
        simpa [Addr.add] using World.cell?_spot c0
      subst hspot
      have hb : b < W.heap.size := by
        obtain ⟨_, _, _, _, _, _, _, c0, _⟩ := key 0 (by omega)
        exact World.block_lt_of_cell? W _ c0
      have key2 : ∀ i, ∃ ac : Ac, i < len → AcAt W b off i ac := fun i => by
        by_cases hi : i < len
        · obtain ⟨x0, x1, x3, pa, pl, pc, M, c0, c1, c2, c3, w0, w1, w3, h1, h2⟩ := key i hi
          rw [add_plain] at c0 c1 c2 c3
          exact ⟨⟨x0, x1, M, x3⟩, fun _ => ⟨pa, pl, pc, c0, by rw [Nat.add_assoc]; exact c1, by rw [Nat.add_assoc]; exact c2, by rw [Nat.add_assoc]; exact c3, h2, h1, i64_of w0, i64_of w1, i64_of w3⟩⟩
        · exact ⟨⟨0, 0, [], 0⟩, fun h => absurd h hi⟩
      obtain ⟨f, hf⟩ := Classical.skolem.1 key2
      refine ⟨(List.range len).map f, by simp, by omega, .inr ⟨b, off, rfl, hb, fun i hi => ?_⟩⟩
      have hi' : i < len := by simpa using hi
      simpa using hf i hi'
end Go.Proofs.Ytaallpbcgabdnaa
