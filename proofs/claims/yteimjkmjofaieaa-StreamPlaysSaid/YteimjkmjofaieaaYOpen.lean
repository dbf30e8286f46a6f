/- StreamPlays, as its statement is opened. -/
import Derived.Test.YteimjkmjofaieaaCEnd
import Derived.Test.YteimjkmjofaieaaGFld
import Derived.Test.YteimjkmjofaieaaYPlays
import Derived.SizedLaws
import Derived.ChangeSlices
namespace Go.Proofs.Yteimjkmjofaieaa
open Go.ChangeShapes Go.WideShapes Go.ChangeAt Go.RowKit Go.Deep
set_option linter.unusedVariables false
set_option linter.unusedSimpArgs false

theorem i64_wf {z : Int} (h : (Lit.int .i64 z).wf = true) : -9223372036854775808 ≤ z ∧ z ≤ 9223372036854775807 := by
  have e1 : IntKind.i64.min = -9223372036854775808 := rfl
  have e2 : IntKind.i64.max = 9223372036854775807 := rfl
  simp [Lit.wf, e1, e2] at h
  exact h
section
variable {H : Type} {enc : TypeId × Value → H} {P : Program} {w : World} {base : Nat} {spare : Nat → Bool} {held : Bool}
theorem all_mem {e : TypeId} : ∀ {l : List (DataW H)} {d : DataW H}, d ∈ l → ∀ q ∈ d.weights P e, q ∈ DataW.weightsAll P e l
  | d' :: r, d, hd, q, hq => by
    simp only [DataW.weightsAll, List.mem_append]
    rcases List.mem_cons.1 hd with rfl | h
    · exact .inl hq
    · exact .inr (all_mem h q hq)
/-- One field of a struct, and what it weighs. -/
theorem field_w {e : TypeId} {fs : Array Field} {fuel : Nat} {cs : List Value} {x : DataW H × List MemPlace} (he : P.underlying e = some (.struct fs)) (h : DataW.trod enc P w base spare held fuel e cs = some x)
    (j : Nat) (f : Field) (hf : fs[j]? = some f) (ho : f.offset = j) (hc : P.cellsOf f.type = 1) (hlt : j < P.cellsOf e) :
    ∃ (v : Value) (n : Nat) (y : DataW H × List MemPlace), cs[j]? = some v ∧ DataW.trod enc P w base spare held n f.type [v] = some y ∧ ∀ q ∈ y.1.weights P f.type, q ∈ x.1.weights P e := by
  obtain ⟨xs, n, _, hxx, hl, hx, hg⟩ := DataW.trod_struct he h
  have h1 := hg j f hf
  have hj : j < cs.length := by omega
  have hjf : j < fs.size := (Array.getElem?_eq_some_iff.1 hf).1
  have hone : (cs.drop j).take 1 = [cs[j]] := by rw [List.drop_eq_getElem_cons hj]; rfl
  rw [ho, hc, hone, List.getElem?_eq_getElem (by omega)] at h1
  refine ⟨cs[j], n, _, List.getElem?_eq_getElem hj, h1, fun q hq => ?_⟩
  rw [hxx]
  simp only [DataW.weights, he]
  refine DataW.weights_mem_each (j := j) (t := f.type) ?_ ?_ q hq
  · rw [List.getElem?_map, Array.getElem?_toList, hf]; rfl
  · rw [List.getElem?_map, List.getElem?_eq_getElem (by omega)]; rfl
theorem fields_w {t e : TypeId} {fs : Array Field} {a : Option Addr} {len cap : Nat} {d : DataW H} {p : List MemPlace} (ht : P.underlying t = some (.slice e)) (he : P.underlying e = some (.struct fs))
    (h : DataW.Trod enc P w base spare held t (.slice a len cap) d p) :
    (a = none ∧ len = 0 ∧ cap = 0) ∨ ∃ x : Addr, a = some x ∧ len ≤ cap ∧ cap ≤ maxLen ∧
      ∀ i, i < len → ∀ (j : Nat) (f : Field), fs[j]? = some f → f.offset = j → P.cellsOf f.type = 1 → j < P.cellsOf e →
        ∃ (v : Value) (n : Nat) (y : DataW H × List MemPlace), w.cell? (x.add (i * P.cellsOf e + j)) = some v ∧ DataW.trod enc P w base spare held n f.type [v] = some y ∧ ∀ q ∈ y.1.weights P f.type, q ∈ d.weights P t := by
  obtain ⟨fuel, hf⟩ := h
  rcases open_slice ht hf with ⟨hcs, _⟩ | ⟨x, l, c, m, n, D, Pl, hcs, _, hl, hm, hmm, hxx, hi⟩
  · simp [Value.cells] at hcs
    exact .inl hcs
  · simp [Value.cells] at hcs
    obtain ⟨rfl, rfl, rfl⟩ := hcs
    simp only [Prod.mk.injEq] at hxx
    refine .inr ⟨x, rfl, hl, hm, fun i him j f hfj ho hc hlt => ?_⟩
    have him' : i < m := by rw [hmm]; split <;> omega
    obtain ⟨cs', hcell, hd⟩ := hi i him'
    obtain ⟨_, hcl, hat⟩ := World.cells?_some hcell
    obtain ⟨v, n', y, hv, hy, hq⟩ := field_w he hd j f hfj ho hc hlt
    refine ⟨v, n', y, ?_, hy, fun q h => ?_⟩
    · have := hat j hlt
      rw [hv] at this
      rw [← this, add_add]
    · rw [hxx.1]
      simp only [DataW.weights, ht, List.mem_cons, List.mem_append]
      exact .inr (.inl (all_mem (d := D i) (List.mem_map.2 ⟨i, List.mem_range.2 him, rfl⟩) q (hq q h)))
end
theorem reach14 : reachBytes = 140737488351232 := rfl
theorem bytesU8 : Try.prog.bytesOf 5 = 1 := by kernel_rfl
theorem open_b14 {H : Type} {enc : TypeId × Value → H} {W : World} {v : Value} {n : Nat} {y : DataW H × List MemPlace} (h : DataW.trod enc Try.prog W 0 (fun _ => true) true n 29 [v] = some y)
    (hw : ∀ q ∈ y.1.weights Try.prog 29, q ≤ reachBytes) : ∃ L : List UInt8, SrcV W v (L.map encB) ∧ L.length ≤ 140737488355328 := by
  rcases open_ints Try.underlying29 Try.underlying5 (by kernel_rfl) h with ⟨hcs, _⟩ | ⟨x, len, cap, zs, hcs, _, hl, hm, hz, hyy, hcell, hwz⟩
  · simp at hcs
    subst hcs
    exact ⟨[], SrcV.nil _, by simp⟩
  · simp at hcs
    subst hcs
    have hz' : zs.length = cap := by simpa using hz
    have hcap : cap ≤ reachBytes := by
      have := hw ((zs.take len).length + (zs.drop len).length) (by
        rw [hyy]
        simp only [DataW.weights, Try.underlying29, List.mem_cons]
        left
        rw [bytesU8, Nat.mul_one]
        simp [lits])
      simp at this
      omega
    rw [reach14] at hcap
    have hby : ∀ z ∈ zs, encB (UInt8.ofNat z.toNat) = .int .u8 z := fun z hzm => by
      have h1 := hwz z hzm
      have e1 : IntKind.u8.min = 0 := rfl
      have e2 : IntKind.u8.max = 255 := rfl
      simp [Lit.wf, e1, e2] at h1
      unfold encB
      have : (UInt8.ofNat z.toNat).toNat = z.toNat := by simp; omega
      rw [this]
      congr 1
      omega
    refine ⟨(zs.take len).map fun z => UInt8.ofNat z.toNat, .inr ⟨x, cap, by simp; omega, by simp; omega, hm, fun j u hu => ?_, fun h0 => ?_⟩, by simp; omega⟩
    · rw [List.getElem?_map, List.getElem?_map, List.getElem?_take] at hu
      split at hu
      · rename_i hj
        have hjz : j < zs.length := by omega
        rw [List.getElem?_eq_getElem hjz] at hu
        simp only [Option.map_some, Option.some.injEq] at hu
        rw [hcell j hjz, ← hu, hby _ (List.getElem_mem _)]
        simp [List.getD, hjz]
      · cases hu
    · have h0' : 0 < zs.length := by simp at h0; omega
      have := hcell 0 h0'
      simpa [Addr.add] using World.cell?_spot this
theorem open_p14 {H : Type} {enc : TypeId × Value → H} {W : World} {v : Value} {n : Nat} {y : DataW H × List MemPlace} (h : DataW.trod enc Try.prog W 0 (fun _ => true) true n 36 [v] = some y)
    (hw : ∀ q ∈ y.1.weights Try.prog 36, q ≤ reachBytes) : ∃ (pa : Option Addr) (pl pc : Nat) (Ps : Parts), v = .slice pa pl pc ∧ PtsV W v Ps ∧ Ps.length = pl ∧ ∀ p ∈ Ps, p.length ≤ 140737488355328 := by
  rcases open_slice1 Try.underlying36 (by kernel_rfl) h with ⟨hcs, _⟩ | ⟨x, len, cap, m, n', V, D, Pl, hcs, _, hl, hm, hmm, hyy, hi⟩
  · simp at hcs
    subst hcs
    exact ⟨none, 0, 0, [], rfl, ⟨[], SrcV.nil _, ⟨rfl, fun i v p h1 h2 => by simp at h1⟩⟩, rfl, by simp⟩
  · simp at hcs
    subst hcs
    have hlm : len ≤ m := by rw [hmm]; split <;> omega
    have key : ∀ i, ∃ L : List UInt8, i < len → SrcV W (V i) (L.map encB) ∧ L.length ≤ 140737488355328 := fun i => by
      by_cases him : i < len
      · obtain ⟨L, h1, h2⟩ := open_b14 (hi i (by omega)).2 (fun q hq => hw q (by
          rw [hyy]
          simp only [DataW.weights, Try.underlying36, List.mem_cons, List.mem_append]
          exact .inr (.inl (all_mem (d := D i) (List.mem_map.2 ⟨i, List.mem_range.2 him, rfl⟩) q hq))))
        exact ⟨L, fun _ => ⟨h1, h2⟩⟩
      · exact ⟨[], fun h => absurd h him⟩
    obtain ⟨f, hf⟩ := Classical.skolem.1 key
    refine ⟨some x, len, cap, (List.range len).map f, rfl, ⟨(List.range len).map V, .inr ⟨x, cap, by simp, by simpa using hl, hm, fun j u hu => ?_, fun h0 => ?_⟩, ⟨by simp, fun i v p h1 h2 => ?_⟩⟩, by simp, fun p hp => ?_⟩
    · rw [List.getElem?_map] at hu
      have hj : j < len := by
        rcases Nat.lt_or_ge j len with h | h
        · exact h
        · rw [List.getElem?_eq_none (by simpa using h)] at hu; cases hu
      rw [List.getElem?_range hj] at hu
      simp only [Option.map_some, Option.some.injEq] at hu
      rw [← hu]
      exact (hi j (by omega)).1
    · have h0' : 0 < len := by simpa using h0
      have := (hi 0 (by omega)).1
      simpa [Addr.add] using World.cell?_spot this
    · have hj : i < len := by
        rcases Nat.lt_or_ge i len with h | h
        · exact h
        · rw [List.getElem?_eq_none (by simpa using h)] at h1; cases h1
      rw [List.getElem?_map, List.getElem?_range hj] at h1
      rw [List.getElem?_map, List.getElem?_map, List.getElem?_range hj] at h2
      simp only [Option.map_some, Option.some.injEq] at h1 h2
      rw [← h1, ← h2]
      exact (hf i hj).1
    · obtain ⟨i, hi2, rfl⟩ := List.mem_map.1 hp
      exact (hf i (List.mem_range.1 hi2)).2
theorem cellsAct14 : Try.prog.cellsOf 38 = 3 := by kernel_rfl
theorem cellsI14 : Try.prog.cellsOf 3 = 1 := by kernel_rfl
theorem cellsS14 : Try.prog.cellsOf 36 = 1 := by kernel_rfl
/-- The calls that came in. -/
def IsActs14 (W : World) (a : Option Addr) (len cap : Nat) : Prop := ∃ l, Src14 W (.slice a len cap) l
theorem open_acts14 {H : Type} {enc : TypeId × Value → H} {W : World} {a : Option Addr} {len cap : Nat} {d : DataW H} {p : List MemPlace}
    (h : DataW.Trod enc Try.prog W 0 (fun _ => true) true 22 (.slice a len cap) d p) (hw : ∀ q ∈ d.weights Try.prog 22, q ≤ reachBytes) : IsActs14 W a len cap := by
  rcases fields_w Try.underlying22 Try.underlying38 h with ⟨rfl, rfl, rfl⟩ | ⟨⟨b, off, spot⟩, rfl, hl, hm, hg⟩
  · exact ⟨[], none, 0, rfl, Nat.zero_le _, .inl rfl⟩
  · by_cases h0 : len = 0
    · subst h0
      exact ⟨[], _, _, rfl, Nat.zero_le _, .inl rfl⟩
    · have key : ∀ i, i < len → ∃ (x0 x2 : Int) (pa : Option Addr) (pl pc : Nat) (Ps : Parts), W.cell? (Addr.add ⟨b, off, spot⟩ (i * 3 + 0)) = some (.int .i64 x0) ∧ W.cell? (Addr.add ⟨b, off, spot⟩ (i * 3 + 1)) = some (.slice pa pl pc) ∧ W.cell? (Addr.add ⟨b, off, spot⟩ (i * 3 + 2)) = some (.int .i64 x2) ∧
          PtsV W (.slice pa pl pc) Ps ∧ Ps.length = pl ∧ ∀ p ∈ Ps, p.length ≤ 140737488355328 := by
        intro i hi
        have hg' := hg i hi
        rw [cellsAct14] at hg'
        obtain ⟨v0, n0, y0, c0, t0, _⟩ := hg' 0 _ rfl rfl cellsI14 (by omega)
        obtain ⟨v1, n1, y1, c1, t1, q1⟩ := hg' 1 _ rfl rfl cellsS14 (by omega)
        obtain ⟨v2, n2, y2, c2, t2, _⟩ := hg' 2 _ rfl rfl cellsI14 (by omega)
        obtain ⟨x0, e0, _, w0⟩ := DataW.trod_int Try.underlying3 t0
        obtain ⟨x2, e2, _, w2⟩ := DataW.trod_int Try.underlying3 t2
        obtain ⟨pa, pl, pc, Ps, rfl, h1, h2, h3⟩ := open_p14 t1 (fun q hq => hw q (q1 q hq))
        simp at e0 e2
        subst e0 e2
        exact ⟨x0, x2, pa, pl, pc, Ps, c0, c1, c2, h1, h2, h3⟩
      have hspot : spot = none := by
        obtain ⟨_, _, _, _, _, _, c0, _⟩ := key 0 (by omega)
        simpa [Addr.add] using World.cell?_spot c0
      subst hspot
      have hb : b < W.heap.size := by
        obtain ⟨_, _, _, _, _, _, c0, _⟩ := key 0 (by omega)
        exact World.block_lt_of_cell? W _ c0
      have key2 : ∀ i, ∃ ac : A14, i < len → A14At W b off i ac := fun i => by
        by_cases hi : i < len
        · obtain ⟨x0, x2, pa, pl, pc, Ps, c0, c1, c2, h1, h2, h3⟩ := key i hi
          rw [add_plain] at c0 c1 c2
          exact ⟨⟨x0, Ps, x2⟩, fun _ => ⟨pa, pl, pc, c0, by rw [Nat.add_assoc]; exact c1, by rw [Nat.add_assoc]; exact c2, h1, h2, h3⟩⟩
        · exact ⟨⟨0, [], 0⟩, fun h => absurd h hi⟩
      obtain ⟨f, hf⟩ := Classical.skolem.1 key2
      refine ⟨(List.range len).map f, some ⟨b, off, none⟩, cap, by simp, by simp; omega, .inr ⟨b, off, rfl, hb, fun i hi => ?_⟩⟩
      have hi' : i < len := by simpa using hi
      simpa using hf i hi'
theorem streamPlays_fin (c : Int) (a : Option Addr) (len cap : Nat) (W : World) (_ : (Lit.int .i64 c).wf = true) (h : IsActs14 W a len cap) :
    Calls Try.prog 3 #[.int .i64 c, .slice a len cap] W fun r w' => r = .returned (.bool true) ∧ Below W.heap.size W w' := by
  obtain ⟨l, hl⟩ := h
  exact streamPlays_walk c hl
end Go.Proofs.Yteimjkmjofaieaa
