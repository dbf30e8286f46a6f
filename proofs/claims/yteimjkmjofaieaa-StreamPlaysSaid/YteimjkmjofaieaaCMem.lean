/- Rows and slices of values of one cell each; bytes, numbers and texts in them. -/
import Derived.Test.YteimjkmjofaieaaBMem
import Derived.Lib.AppendZeros
import Derived.Laws.BytesArg
import Derived.Lib.ConvBytes
import Derived.Laws.OwnMore
import Derived.Maps.AppendAt
import Derived.LoopTactic
import Derived.Deep.LoopGhost
namespace Go.Proofs.Yteimjkmjofaieaa
open Go.RowKit Go.Sort
set_option linter.unusedVariables false
set_option linter.unusedSimpArgs false

/-- A row of values that a call owns. -/
abbrev RowV (w : World) (e : TypeId) (base : Nat) (v : Value) (xs : List Value) : Prop := w.ownsRow base e 1 v xs.length xs

/-- A slice that has the values xs. -/
def SrcV (w : World) (v : Value) (xs : List Value) : Prop :=
  (v = .slice none 0 0 ∧ xs = []) ∨ ∃ ad c, v = .slice (some ad) xs.length c ∧ xs.length ≤ c ∧ c ≤ maxLen ∧ (∀ j u, xs[j]? = some u → w.cell? (ad.add j) = some u) ∧ (0 < xs.length → ad.spot = none)

theorem RowV.src {w : World} {e : TypeId} {b : Nat} {v : Value} {xs : List Value} (h : RowV w e b v xs) : SrcV w v xs := by
  rcases h.2 with ⟨rfl, hn⟩ | ⟨g, cap, cu, rfl, hb, hh, h1, h2, h3, h4⟩
  · exact .inl ⟨rfl, List.eq_nil_of_length_eq_zero hn⟩
  · exact .inr ⟨_, _, rfl, h1, h2, row_cells h, fun _ => rfl⟩

theorem SrcV.nil (w : World) : SrcV w (.slice none 0 0) [] := .inl ⟨rfl, rfl⟩
theorem SrcV.form {w : World} {v : Value} {xs : List Value} (h : SrcV w v xs) : ∃ a c, v = .slice a xs.length c ∧ xs.length ≤ c ∧ c ≤ maxLen := by
  rcases h with ⟨rfl, rfl⟩ | ⟨ad, c, rfl, h1, h2, _⟩
  · exact ⟨none, 0, rfl, Nat.le_refl _, Nat.zero_le _⟩
  · exact ⟨_, c, rfl, h1, h2⟩
/-- Where the elements lie. -/
theorem SrcV.at {w : World} {a : Option Addr} {n c : Nat} {xs : List Value} (h : SrcV w (.slice a n c) xs) (h0 : 0 < xs.length) : ∃ b off, a = some ⟨b, off, none⟩ ∧ b < w.heap.size ∧ ∀ j u, xs[j]? = some u → w.cell? ⟨b, off + j, none⟩ = some u := by
  rcases h with ⟨_, rfl⟩ | ⟨⟨b, off, sp⟩, c, h, h1, h2, h3, h4⟩
  · simp at h0
  · obtain rfl : sp = none := h4 h0
    simp only [Value.slice.injEq] at h
    refine ⟨b, off, h.1, ?_, fun j u hu => ?_⟩
    · have := World.block_lt_of_cell? w _ (h3 0 xs[0] (by simp [h0]))
      simpa [Addr.add] using this
    · have := h3 j u hu
      rwa [Go.WideShapes.add_plain] at this
theorem SrcV.same {w w' : World} {v : Value} {xs : List Value} (h : SrcV w v xs) (hs : ∀ a v, w.cell? a = some v → w'.cell? a = some v) : SrcV w' v xs := by
  rcases h with h | ⟨ad, c, h1, h2, h3, h4, h5⟩
  · exact .inl h
  · exact .inr ⟨ad, c, h1, h2, h3, fun j u hu => hs _ _ (h4 j u hu), h5⟩
theorem below_cells {w w' : World} (hb : Below w.heap.size w w') : ∀ a v, w.cell? a = some v → w'.cell? a = some v := fun a v h => (World.cell?_of_block (hb.block a.block (World.block_lt_of_cell? w a h))).trans h
theorem SrcV.grown {w w' : World} {v : Value} {xs : List Value} (h : SrcV w v xs) (hb : Below w.heap.size w w') : SrcV w' v xs := h.same (below_cells hb)
/-- A part of a slice. -/
theorem SrcV.part {w : World} {a : Option Addr} {n c : Nat} {xs : List Value} (h : SrcV w (.slice a n c) xs) (i j : Nat) (hij : i ≤ j) (hj : j ≤ xs.length) (hlt : i < xs.length) (v : Value)
    (hv : ∀ b off, a = some ⟨b, off, none⟩ → v = .slice (some ⟨b, off + i, none⟩) (j - i) (c - i)) : SrcV w v ((xs.drop i).take (j - i)) := by
  obtain ⟨b, off, rfl, hb, hc⟩ := h.at (by omega)
  have hl : ((xs.drop i).take (j - i)).length = j - i := by simp; omega
  obtain ⟨_, _, hf, h1, h2⟩ := h.form
  simp only [Value.slice.injEq] at hf
  obtain ⟨_, _, rfl⟩ := hf
  refine .inr ⟨⟨b, off + i, none⟩, c - i, ?_, by omega, by omega, fun k u hu => ?_, fun _ => rfl⟩
  · rw [hl]; exact hv b off rfl
  · rw [Go.WideShapes.add_plain, Nat.add_assoc]
    refine hc (i + k) u ?_
    rw [List.getElem?_take] at hu
    split at hu
    · rwa [List.getElem?_drop] at hu
    · simp at hu

theorem RowV.kept {w w' : World} {e : TypeId} {b b2 : Nat} {v : Value} {xs : List Value} (h : RowV w e b v xs) (hb : Below b2 w w') (hl : ∀ g, v.ownBlock = some g → g < b2) : RowV w' e b v xs := by
  refine ⟨h.1, ?_⟩
  rcases h.2 with h' | ⟨g, cap, cur, rfl, hb', hh, r⟩
  · exact .inl h'
  · exact .inr ⟨g, cap, cur, rfl, hb', (hb.block g (hl g rfl)).trans hh, r⟩
theorem RowV.grown {w w' : World} {e : TypeId} {b : Nat} {v : Value} {xs : List Value} (h : RowV w e b v xs) (hb : Below w.heap.size w w') : RowV w' e b v xs := h.kept hb fun g hg => (h.lt g hg).2
theorem RowV.lower {w : World} {e : TypeId} {b b' : Nat} {v : Value} {xs : List Value} (h : RowV w e b v xs) (hb : b' ≤ b) : RowV w e b' v xs := ownsRow_mono h hb
theorem row_made (w : World) (e : TypeId) (xs : List Value) (hm : xs.length ≤ maxLen) : RowV (w.alloc (.cells xs.toArray e)) e w.heap.size (.slice (some ⟨w.heap.size, 0, none⟩) xs.length xs.length) xs :=
  ⟨by simp, .inr ⟨w.heap.size, xs.length, xs.toArray, rfl, Nat.le_refl _, heap_alloc_new w _, Nat.le_refl _, hm, by simp, by simp⟩⟩

/-- What is known of a type of slices whose elements take one cell. -/
def Slc (P : Program) (t e : TypeId) (bytes : Nat) : Prop := ∃ i z, P.underlying t = some (.slice e) ∧ P.info? e = some i ∧ i.zero = some z ∧ i.size = 1 ∧ i.bytes = bytes ∧ z.cells.size = 1

theorem run_append_v {P : Program} {t e : TypeId} {bytes : Nat} (hS : Slc P t e bytes) (hby : bytes ≤ 24) (w : World) {base : Nat} {v vx : Value} {xs ms : List Value} (hown : RowV w e base v xs) (hbase : base ≤ w.heap.size) (hx : SrcV w vx ms) (h1 : ∀ u ∈ ms, u.oneCell' = true) (h63 : xs.length + ms.length ≤ 1000000) (ty : TypeId) :
    ∃ v' w', (Builtin.append_ #[t, t] ty #[v, vx]).run P w = .ok v' w' ∧ RowV w' e base v' (xs ++ ms) ∧ Fr v.ownBlock.toList w w' ∧ Near w v v' := by
  obtain ⟨i0, z, hu, hi0, hz0, hz1, hz2, hz3⟩ := hS
  rcases hx with ⟨rfl, rfl⟩ | ⟨ad, cx, rfl, _, _, hcells, _⟩
  · exact ⟨v, w, run_append_owned_none w base t ty e i0 1 hu hi0 v _ _ hown, by simpa using hown, Fr.refl _ _, fun g hg => .inl hg⟩
  · have hb : (xs.length + ms.length) * bytes ≤ 1000000 * 24 := Nat.mul_le_mul h63 hby
    obtain ⟨v', w', hrun, ho, hg, _, hat⟩ := run_append_own_at (P := P) w base t ty e i0 z 1 bytes hu hi0 hz0 hz1 hz2 hz3 (by decide) v _ _ hown ad ms.length cx ms (by simp) hcells h1 (by unfold maxLen; omega) (by omega) hbase
    refine ⟨v', w', hrun, ?_, fr_grown hg, fun x hx => ?_⟩
    · unfold RowV
      rw [List.length_append]
      exact ho
    · rcases hat with h | h
      · left; rw [← h]; exact hx
      · right; rw [h] at hx; simp at hx; omega
theorem wp_append_v {P : Program} {t e : TypeId} {bytes : Nat} (hS : Slc P t e bytes) (hby : bytes ≤ 24) {w : World} {o : Oper} {a : Act} {K : Act → World → Prop} {Q : Exit → Act → World → Prop} (s x : Operand)
    (ho : o.op = .call { callee := .builtin .append, args := #[s, x], argTypes := #[t, t] }) {base : Nat} {v vx : Value} {xs ms : List Value} (hs : a.eval s = v) (hx : a.eval x = vx)
    (hown : RowV w e base v xs) (hbase : base ≤ w.heap.size) (hrow : SrcV w vx ms) (h1 : ∀ u ∈ ms, u.oneCell' = true) (h63 : xs.length + ms.length ≤ 1000000)
    (h : ∀ v' w', RowV w' e base v' (xs ++ ms) → Fr v.ownBlock.toList w w' → Near w v v' → K (a.put o.dst v') w') : Oper.wp P o a w K Q := by
  obtain ⟨v', w', hrun, h1, h2, h3⟩ := run_append_v hS hby w hown hbase hrow h1 h63 o.type
  unfold Oper.wp
  simp [execOp, ho, resolve, invoke, builtin, hs, hx, hrun, Result.andThen]
  exact h v' w' h1 h2 h3
theorem wpList_append_v {P : Program} {t e : TypeId} {bytes : Nat} (hS : Slc P t e bytes) (hby : bytes ≤ 24) {w : World} {ops : Array Oper} {rest : List Oper} {o : Oper} {a : Act} {Q : Exit → Act → World → Prop} (hgd : o.guard = none) (s x : Operand)
    (ho : o.op = .call { callee := .builtin .append, args := #[s, x], argTypes := #[t, t] }) {base : Nat} {v vx : Value} {xs ms : List Value} (hs : a.eval s = v) (hx : a.eval x = vx)
    (hown : RowV w e base v xs) (hbase : base ≤ w.heap.size) (hrow : SrcV w vx ms) (h1 : ∀ u ∈ ms, u.oneCell' = true) (h63 : xs.length + ms.length ≤ 1000000)
    (h : ∀ v' w', RowV w' e base v' (xs ++ ms) → Fr v.ownBlock.toList w w' → Near w v v' → wpList P ops Q rest (a.put o.dst v') w') : wpList P ops Q (o :: rest) a w :=
  wpList_plain hgd fun K hK => wp_append_v hS hby s x ho hs hx hown hbase hrow h1 h63 fun v' w' h1 h2 h3 => hK _ _ (h v' w' h1 h2 h3)

/-- Bytes, numbers and texts. -/
def encB (x : UInt8) : Value := .int .u8 ((x.toNat : Nat) : Int)
def encN (x : Nat) : Value := .int .i64 ((x : Nat) : Int)
def strB (L : List UInt8) : ByteArray := ⟨L.toArray⟩
def encS (L : List UInt8) : Value := .string (strB L)
theorem encB_one (L : List UInt8) : ∀ u ∈ L.map encB, u.oneCell' = true := by
  intro u hu
  obtain ⟨x, _, rfl⟩ := List.mem_map.1 hu
  rfl
theorem encN_one (L : List Nat) : ∀ u ∈ L.map encN, u.oneCell' = true := by
  intro u hu
  obtain ⟨x, _, rfl⟩ := List.mem_map.1 hu
  rfl
theorem encS_one (L : List (List UInt8)) : ∀ u ∈ L.map encS, u.oneCell' = true := by
  intro u hu
  obtain ⟨x, _, rfl⟩ := List.mem_map.1 hu
  rfl
theorem strB_size (L : List UInt8) : (strB L).size = L.length := by unfold strB; simp [ByteArray.size]
theorem strB_append (A B : List UInt8) : strB A ++ strB B = strB (A ++ B) := by
  unfold strB
  apply ByteArray.ext
  simp
theorem strB_extract (L : List UInt8) (i j : Nat) : (strB L).extract i j = strB ((L.drop i).take (j - i)) := by
  unfold strB
  apply ByteArray.ext
  apply Array.ext'
  simp [ByteArray.data_extract, Array.toList_extract, List.extract]
theorem strB_inj {A B : List UInt8} (h : strB A = strB B) : A = B := by
  unfold strB at h
  simpa using h
theorem beq_selfB (s : ByteArray) : (s == s) = true := by
  cases s with
  | mk d => show (d == d) = true; exact beq_self_eq_true d
theorem strB_data (s : ByteArray) : strB s.data.toList = s := by
  unfold strB
  simp

def RowB (w : World) (base : Nat) (v : Value) (L : List UInt8) : Prop := RowV w 5 base v (L.map encB)
def RowN (w : World) (base : Nat) (v : Value) (L : List Nat) : Prop := RowV w 3 base v (L.map encN)
def RowS (w : World) (base : Nat) (v : Value) (L : List (List UInt8)) : Prop := RowV w 9 base v (L.map encS)
theorem slcB : Slc Try.prog 29 5 1 := by
  obtain ⟨i, h0, h1, h2, h3⟩ := info_parts (show (Try.prog.info? 5).map (fun i => (i.zero, i.size, i.bytes)) = some (some (.int .u8 0), 1, 1) by kernel_rfl)
  exact ⟨i, _, Try.underlying29, h0, h1, h2, h3, rfl⟩
theorem slcN : Slc Try.prog 50 3 8 := by
  obtain ⟨i, h0, h1, h2, h3⟩ := info_parts (show (Try.prog.info? 3).map (fun i => (i.zero, i.size, i.bytes)) = some (some (.int .i64 0), 1, 8) by kernel_rfl)
  exact ⟨i, _, Try.underlying50, h0, h1, h2, h3, rfl⟩
theorem slcBs : Slc Try.prog 36 29 24 := by
  obtain ⟨i, h0, h1, h2, h3⟩ := info_parts (show (Try.prog.info? 29).map (fun i => (i.zero, i.size, i.bytes)) = some (some (.slice none 0 0), 1, 24) by kernel_rfl)
  exact ⟨i, _, Try.underlying36, h0, h1, h2, h3, rfl⟩
theorem SrcV.strAt {w : World} {a : Option Addr} {n c : Nat} {Ss : List (List UInt8)} (h : SrcV w (.slice a n c) (Ss.map encS)) (k : Nat) (hk : k < Ss.length) : ∃ b off, a = some ⟨b, off, none⟩ ∧ b < w.heap.size ∧ w.cell? ⟨b, off + k, none⟩ = some (.string (strB Ss[k])) := by
  obtain ⟨b, off, h1, h2, h3⟩ := h.at (by rw [List.length_map]; omega)
  exact ⟨b, off, h1, h2, h3 k _ (by simp [hk, encS])⟩
theorem SrcV.formS {w : World} {v : Value} {Ss : List (List UInt8)} (h : SrcV w v (Ss.map encS)) : ∃ a c, v = .slice a Ss.length c ∧ Ss.length ≤ c ∧ c ≤ maxLen := by
  have := h.form
  rwa [List.length_map] at this
end Go.Proofs.Yteimjkmjofaieaa
