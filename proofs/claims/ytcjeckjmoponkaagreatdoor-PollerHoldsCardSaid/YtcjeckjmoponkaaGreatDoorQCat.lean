/- QCat: CMem, CCatB, CCatN, merged. -/
import Derived.Test.YtcjeckjmoponkaaGreatDoorQMix
import Derived.Lib.AppendZeros
import Derived.Laws.BytesArg
import Derived.Lib.ConvBytes
import Derived.Laws.OwnMore
import Derived.Maps.AppendAt
import Derived.LoopTactic
import Derived.Deep.LoopGhost
/- Rows and slices of values of one cell each; bytes, numbers and texts in them. -/
namespace Go.Proofs.YtcjeckjmoponkaaGreatDoor.Rp
open Go.RowKit Go.Sort
set_option linter.unusedVariables false
set_option linter.unusedSimpArgs false

/-- A row of values that a call owns. -/
abbrev RowV (w : World) (e : TypeId) (base : Nat) (v : Value) (xs : List Value) : Prop := w.ownsRow base e 1 v xs.length xs

/-- A slice that has the values xs. -/
def SrcV (w : World) (v : Value) (xs : List Value) : Prop :=
  (v = .slice none 0 0 ∧ xs = []) ∨ ∃ ad c, v = .slice (some ad) xs.length c ∧ xs.length ≤ c ∧ c ≤ maxLen ∧ (∀ j u, xs[j]? = some u → w.cell? (ad.add j) = some u) ∧ (0 < xs.length → ad.spot = none)

theorem RowV.src {w : World} {e : TypeId} {b : Nat} {v : Value} {xs : List Value} (h : RowV w e b v xs) : SrcV w v xs := by
  rcases h.2 with ⟨rfl, hn⟩ | ⟨g, cap, cu, rfl, hb, hh, h1, h2, h3, h4⟩
  · exact .inl ⟨rfl, List.eq_nil_of_length_eq_zero hn⟩
  · exact .inr ⟨_, _, rfl, h1, h2, row_cells h, fun _ => rfl⟩

theorem SrcV.nil (w : World) : SrcV w (.slice none 0 0) [] := .inl ⟨rfl, rfl⟩
theorem SrcV.form {w : World} {v : Value} {xs : List Value} (h : SrcV w v xs) : ∃ a c, v = .slice a xs.length c ∧ xs.length ≤ c ∧ c ≤ maxLen := by
  rcases h with ⟨rfl, rfl⟩ | ⟨ad, c, rfl, h1, h2, _⟩
  · exact ⟨none, 0, rfl, Nat.le_refl _, Nat.zero_le _⟩
  · exact ⟨_, c, rfl, h1, h2⟩
/-- Where the elements lie. -/
theorem SrcV.at {w : World} {a : Option Addr} {n c : Nat} {xs : List Value} (h : SrcV w (.slice a n c) xs) (h0 : 0 < xs.length) : ∃ b off, a = some ⟨b, off, none⟩ ∧ b < w.heap.size ∧ ∀ j u, xs[j]? = some u → w.cell? ⟨b, off + j, none⟩ = some u := by
  rcases h with ⟨_, rfl⟩ | ⟨⟨b, off, sp⟩, c, h, h1, h2, h3, h4⟩
  · simp at h0
  · obtain rfl : sp = none := h4 h0
    simp only [Value.slice.injEq] at h
    refine ⟨b, off, h.1, ?_, fun j u hu => ?_⟩
    · have := World.block_lt_of_cell? w _ (h3 0 xs[0] (by simp [h0]))
      simpa [Addr.add] using this
    · have := h3 j u hu
      rwa [Go.WideShapes.add_plain] at this
theorem SrcV.same {w w' : World} {v : Value} {xs : List Value} (h : SrcV w v xs) (hs : ∀ a v, w.cell? a = some v → w'.cell? a = some v) : SrcV w' v xs := by
  rcases h with h | ⟨ad, c, h1, h2, h3, h4, h5⟩
  · exact .inl h
  · exact .inr ⟨ad, c, h1, h2, h3, fun j u hu => hs _ _ (h4 j u hu), h5⟩
theorem below_cells {w w' : World} (hb : Below w.heap.size w w') : ∀ a v, w.cell? a = some v → w'.cell? a = some v := fun a v h => (World.cell?_of_block (hb.block a.block (World.block_lt_of_cell? w a h))).trans h
theorem SrcV.grown {w w' : World} {v : Value} {xs : List Value} (h : SrcV w v xs) (hb : Below w.heap.size w w') : SrcV w' v xs := h.same (below_cells hb)
/-- A part of a slice. -/
theorem SrcV.part {w : World} {a : Option Addr} {n c : Nat} {xs : List Value} (h : SrcV w (.slice a n c) xs) (i j : Nat) (hij : i ≤ j) (hj : j ≤ xs.length) (hlt : i < xs.length) (v : Value)
    (hv : ∀ b off, a = some ⟨b, off, none⟩ → v = .slice (some ⟨b, off + i, none⟩) (j - i) (c - i)) : SrcV w v ((xs.drop i).take (j - i)) := by
  obtain ⟨b, off, rfl, hb, hc⟩ := h.at (by omega)
  have hl : ((xs.drop i).take (j - i)).length = j - i := by simp; omega
  obtain ⟨_, _, hf, h1, h2⟩ := h.form
  simp only [Value.slice.injEq] at hf
  obtain ⟨_, _, rfl⟩ := hf
  refine .inr ⟨⟨b, off + i, none⟩, c - i, ?_, by omega, by omega, fun k u hu => ?_, fun _ => rfl⟩
  · rw [hl]; exact hv b off rfl
  · rw [Go.WideShapes.add_plain, Nat.add_assoc]
    refine hc (i + k) u ?_
    rw [List.getElem?_take] at hu
    split at hu
    · rwa [List.getElem?_drop] at hu
    · simp at hu

theorem RowV.kept {w w' : World} {e : TypeId} {b b2 : Nat} {v : Value} {xs : List Value} (h : RowV w e b v xs) (hb : Below b2 w w') (hl : ∀ g, v.ownBlock = some g → g < b2) : RowV w' e b v xs := by
  refine ⟨h.1, ?_⟩
  rcases h.2 with h' | ⟨g, cap, cur, rfl, hb', hh, r⟩
  · exact .inl h'
  · exact .inr ⟨g, cap, cur, rfl, hb', (hb.block g (hl g rfl)).trans hh, r⟩
theorem RowV.grown {w w' : World} {e : TypeId} {b : Nat} {v : Value} {xs : List Value} (h : RowV w e b v xs) (hb : Below w.heap.size w w') : RowV w' e b v xs := h.kept hb fun g hg => (h.lt g hg).2
theorem RowV.lower {w : World} {e : TypeId} {b b' : Nat} {v : Value} {xs : List Value} (h : RowV w e b v xs) (hb : b' ≤ b) : RowV w e b' v xs := ownsRow_mono h hb
theorem row_made (w : World) (e : TypeId) (xs : List Value) (hm : xs.length ≤ maxLen) : RowV (w.alloc (.cells xs.toArray e)) e w.heap.size (.slice (some ⟨w.heap.size, 0, none⟩) xs.length xs.length) xs :=
  ⟨by simp, .inr ⟨w.heap.size, xs.length, xs.toArray, rfl, Nat.le_refl _, heap_alloc_new w _, Nat.le_refl _, hm, by simp, by simp⟩⟩

/-- What is known of a type of slices whose elements take one cell. -/
def Slc (P : Program) (t e : TypeId) (bytes : Nat) : Prop := ∃ i z, P.underlying t = some (.slice e) ∧ P.info? e = some i ∧ i.zero = some z ∧ i.size = 1 ∧ i.bytes = bytes ∧ z.cells.size = 1

theorem run_append_v {P : Program} {t e : TypeId} {bytes : Nat} (hS : Slc P t e bytes) (hby : bytes ≤ 24) (w : World) {base : Nat} {v vx : Value} {xs ms : List Value} (hown : RowV w e base v xs) (hbase : base ≤ w.heap.size) (hx : SrcV w vx ms) (h1 : ∀ u ∈ ms, u.oneCell' = true) (h63 : xs.length + ms.length ≤ 1000000) (ty : TypeId) :
    ∃ v' w', (Builtin.append_ #[t, t] ty #[v, vx]).run P w = .ok v' w' ∧ RowV w' e base v' (xs ++ ms) ∧ Fr v.ownBlock.toList w w' ∧ Near w v v' := by
  obtain ⟨i0, z, hu, hi0, hz0, hz1, hz2, hz3⟩ := hS
  rcases hx with ⟨rfl, rfl⟩ | ⟨ad, cx, rfl, _, _, hcells, _⟩
  · exact ⟨v, w, run_append_owned_none w base t ty e i0 1 hu hi0 v _ _ hown, by simpa using hown, Fr.refl _ _, fun g hg => .inl hg⟩
  · have hb : (xs.length + ms.length) * bytes ≤ 1000000 * 24 := Nat.mul_le_mul h63 hby
    obtain ⟨v', w', hrun, ho, hg, _, hat⟩ := run_append_own_at (P := P) w base t ty e i0 z 1 bytes hu hi0 hz0 hz1 hz2 hz3 (by decide) v _ _ hown ad ms.length cx ms (by simp) hcells h1 (by unfold maxLen; omega) (by omega) hbase
    refine ⟨v', w', hrun, ?_, fr_grown hg, fun x hx => ?_⟩
    · unfold RowV
      rw [List.length_append]
      exact ho
    · rcases hat with h | h
      · left; rw [← h]; exact hx
      · right; rw [h] at hx; simp at hx; omega
theorem wp_append_v {P : Program} {t e : TypeId} {bytes : Nat} (hS : Slc P t e bytes) (hby : bytes ≤ 24) {w : World} {o : Oper} {a : Act} {K : Act → World → Prop} {Q : Exit → Act → World → Prop} (s x : Operand)
    (ho : o.op = .call { callee := .builtin .append, args := #[s, x], argTypes := #[t, t] }) {base : Nat} {v vx : Value} {xs ms : List Value} (hs : a.eval s = v) (hx : a.eval x = vx)
    (hown : RowV w e base v xs) (hbase : base ≤ w.heap.size) (hrow : SrcV w vx ms) (h1 : ∀ u ∈ ms, u.oneCell' = true) (h63 : xs.length + ms.length ≤ 1000000)
    (h : ∀ v' w', RowV w' e base v' (xs ++ ms) → Fr v.ownBlock.toList w w' → Near w v v' → K (a.put o.dst v') w') : Oper.wp P o a w K Q := by
  obtain ⟨v', w', hrun, h1, h2, h3⟩ := run_append_v hS hby w hown hbase hrow h1 h63 o.type
  unfold Oper.wp
  simp [execOp, ho, resolve, invoke, builtin, hs, hx, hrun, Result.andThen]
  exact h v' w' h1 h2 h3
theorem wpList_append_v {P : Program} {t e : TypeId} {bytes : Nat} (hS : Slc P t e bytes) (hby : bytes ≤ 24) {w : World} {ops : Array Oper} {rest : List Oper} {o : Oper} {a : Act} {Q : Exit → Act → World → Prop} (hgd : o.guard = none) (s x : Operand)
    (ho : o.op = .call { callee := .builtin .append, args := #[s, x], argTypes := #[t, t] }) {base : Nat} {v vx : Value} {xs ms : List Value} (hs : a.eval s = v) (hx : a.eval x = vx)
    (hown : RowV w e base v xs) (hbase : base ≤ w.heap.size) (hrow : SrcV w vx ms) (h1 : ∀ u ∈ ms, u.oneCell' = true) (h63 : xs.length + ms.length ≤ 1000000)
    (h : ∀ v' w', RowV w' e base v' (xs ++ ms) → Fr v.ownBlock.toList w w' → Near w v v' → wpList P ops Q rest (a.put o.dst v') w') : wpList P ops Q (o :: rest) a w :=
  wpList_plain hgd fun K hK => wp_append_v hS hby s x ho hs hx hown hbase hrow h1 h63 fun v' w' h1 h2 h3 => hK _ _ (h v' w' h1 h2 h3)

def encN (x : Nat) : Value := .int .i64 ((x : Nat) : Int)
def strB (L : List UInt8) : ByteArray := ⟨L.toArray⟩
def encS (L : List UInt8) : Value := .string (strB L)
theorem slcN : Slc Tryz.prog 36 3 8 := by
  obtain ⟨i, h0, h1, h2, h3⟩ := info_parts (show (Tryz.prog.info? 3).map (fun i => (i.zero, i.size, i.bytes)) = some (some (.int .i64 0), 1, 8) by kernel_rfl)
  exact ⟨i, _, Tryz.underlying36, h0, h1, h2, h3, rfl⟩
end Go.Proofs.YtcjeckjmoponkaaGreatDoor.Rp
/- slices.Grow of nil and slices.Concat, of B. -/
namespace Go.Proofs.YtcjeckjmoponkaaGreatDoor.Rp
open Go.RowKit Go.Sort
set_option linter.unusedVariables false
set_option linter.unusedSimpArgs false

/-- Slices, and what they have. -/
def Rows (w : World) (vs : List Value) (Ps : List (List Value)) : Prop := vs.length = Ps.length ∧ ∀ (i : Nat) (v : Value) (p : List Value), vs[i]? = some v → Ps[i]? = some p → SrcV w v p
theorem Rows.grown {w w' : World} {vs : List Value} {Ps : List (List Value)} (h : Rows w vs Ps) (hb : Below w.heap.size w w') : Rows w' vs Ps := ⟨h.1, fun i v p h1 h2 => (h.2 i v p h1 h2).grown hb⟩
theorem flat_take_succ {α : Type} (Ps : List (List α)) (k : Nat) (h : k < Ps.length) : (Ps.take (k + 1)).flatten = (Ps.take k).flatten ++ Ps[k] := by
  rw [List.take_succ_eq_append_getElem h, List.flatten_append]
  simp
theorem flat_le {α : Type} (Ps : List (List α)) (k : Nat) : (Ps.take k).flatten.length ≤ Ps.flatten.length := by
  conv => rhs; rw [← List.take_append_drop k Ps, List.flatten_append, List.length_append]
  omega
theorem flat_le' {α : Type} (Ps : List (List α)) (k : Nat) (h : k < Ps.length) : (Ps.take k).flatten.length + (Ps[k]).length ≤ Ps.flatten.length := by
  rw [← List.length_append, ← flat_take_succ Ps k h]
  exact flat_le _ _
theorem row_zero {w : World} {e : TypeId} {g cap : Nat} {cur : Array Value} (hh : w.heap[g]? = some (.cells cur e (0, 0))) (hc : cur.size = cap) (hm : cap ≤ maxLen) : RowV w e g (.slice (some ⟨g, 0, none⟩) 0 cap) [] :=
  ⟨by simp, .inr ⟨g, cap, cur, rfl, Nat.le_refl _, hh, Nat.zero_le _, hm, by simpa using hc, by simp⟩⟩

theorem grow_run {P : Program} {t e tn : TypeId} {bytes : Nat} (hS : Slc P t e bytes) (hby : bytes ≤ 24) (htn : P.underlying tn = some (.int .i64)) (w : World) (n : Nat) (h0 : 0 < n) (hn : n ≤ 200000) (ty : TypeId) :
    ∃ cp W, (Builtin.append_ #[t, tn] ty #[.slice none 0 0, .int .i64 n]).run P w = .ok (.slice (some ⟨w.heap.size, 0, none⟩) n cp) W ∧ RowV W e w.heap.size (.slice (some ⟨w.heap.size, 0, none⟩) 0 cp) [] ∧ Below w.heap.size w W ∧ n ≤ cp := by
  obtain ⟨i0, z, hu, hi0, hz0, hz1, hz2, hz3⟩ := hS
  have hc : n * bytes ≤ 200000 * 24 := Nat.mul_le_mul hn hby
  have hrun := Lib.run_append_nil_zeros (P := P) w t tn ty e i0 z .i64 .i64 hu htn hi0 hz0 n h0 (by omega) (by omega) (by rw [hz2]; omega)
  have hl : grownCap w n 0 e ≤ maxLen := grownCap_le_maxLen w n 0 e (by unfold maxLen; omega)
  refine ⟨_, _, hrun, row_zero (heap_alloc_new w.drew _) ?_ hl, ((Below.refl _ w).drew).alloc (Nat.le_refl _) _, grownCap_ge w n 0 e⟩
  have := grownCap_ge w n 0 e
  simp [size_zeroCells, hz3]
  omega

end Go.Proofs.YtcjeckjmoponkaaGreatDoor.Rp
/- slices.Grow of nil and slices.Concat, of N. -/
namespace Go.Proofs.YtcjeckjmoponkaaGreatDoor.Rp
open Go.RowKit Go.Sort
set_option linter.unusedVariables false
set_option linter.unusedSimpArgs false


set_option maxHeartbeats 1600000 in
set_option maxRecDepth 100000 in
theorem growN_any (w : World) (n : Nat) (hn : n ≤ 200000) :
    Calls Tryz.prog 116 #[.slice none 0 0, .int .i64 n] w fun e w' => ∃ v, e = .returned v ∧ RowV w' 3 w.heap.size v [] ∧ Below w.heap.size w w' := by
  have e1 : (n : Int) ≤ 200000 := by omega
  have e2 : decide ((n : Int) < 0) = false := by simp
  by_cases h0 : n = 0
  · subst h0
    go_enter Tryz.func116, Tryz.ntmps116
    go_wp2_with fail
    go_ret
    exact ⟨_, rfl, World.ownsRow_nil _ _ _ _, Below.refl _ _⟩
  · have e3 : (0 : Int) < (n : Int) := by omega
    obtain ⟨cp, W, hrun, ho, hb, hcn⟩ := grow_run slcN (by decide) Tryz.underlying3 w n (by omega) hn 36
    have HO := Lib.hid ho
    have HB := Lib.hid hb
    have hcn2 : (n : Int) ≤ (cp : Int) := by omega
    clear ho hb hn hcn
    go_enter Tryz.func116, Tryz.ntmps116
    go_wp2_with (at_builtin; refine Lib.wpList_append_run _ rfl (.tmp 20) (.tmp 21) 36 3 rfl _ _ rfl rfl _ _ hrun ?_)
    go_ret
    exact ⟨_, rfl, HO.out, HB.out⟩

set_option maxHeartbeats 1600000 in
set_option maxRecDepth 100000 in
theorem catN_any {w : World} {vl : Value} {vs : List Value} {Ps : List (List Value)} (hl : SrcV w vl vs) (hr : Rows w vs Ps) (h1 : ∀ p ∈ Ps, ∀ u ∈ p, u.oneCell' = true) (hn : Ps.flatten.length ≤ 200000) (hk : Ps.length ≤ 200000) :
    Calls Tryz.prog 64 #[vl] w fun e w' => ∃ v, e = .returned v ∧ RowV w' 3 w.heap.size v Ps.flatten ∧ Below w.heap.size w w' := by
  obtain ⟨a, c, rfl, hc1, hc2⟩ := hl.form
  have HL := Lib.hid hl
  have HR := Lib.hid hr
  have H1 := Lib.hid h1
  have HN := Lib.hid hn
  have hvl : vs.length = Ps.length := hr.1
  have hkI : (Ps.length : Int) ≤ 200000 := by omega
  clear hl hr h1 hn
  rw [hvl]
  rw [hvl] at hc1
  have HVL := Lib.hid hvl
  clear hvl
  obtain ⟨T, hT⟩ : ∃ T : Nat → Nat, ∀ k, T k = (Ps.take k).flatten.length := ⟨fun k => (Ps.take k).flatten.length, fun _ => rfl⟩
  have HT := Lib.hid hT
  obtain ⟨N, hN⟩ : ∃ N, N = Ps.length := ⟨_, rfl⟩
  have hT0 : T 0 = 0 := by rw [hT]; simp
  have hTN : Hid (T N ≤ 200000) := Lib.hid (by have := HN.out; have := flat_le Ps Ps.length; rw [hT, hN]; omega)
  have HNE := Lib.hid hN
  have HT0 := Lib.hid hT0
  rw [← hN] at hc1 hkI ⊢
  clear hT hN hT0
  go_enter Tryz.func64, Tryz.ntmps64
  go_wp2_with fail
  go_loopw [3, 11] (fun sz i wr => ∃ k, k ≤ N ∧ sz = .int .i64 ((T k : Nat) : Int) ∧ i = .int .i64 (k : Nat) ∧ wr = w) (fun _ i _ => N - (intOf i).toNat)
  case atStart => exact ⟨0, Nat.zero_le _, by rw [HT0.out]; rfl, rfl, rfl⟩
  case round =>
    obtain ⟨k, hkl, rfl, rfl, rfl⟩ := hrel
    obtain ⟨W, rfl⟩ : ∃ x, x = wr := ⟨_, rfl⟩
    by_cases hlt : k < N
    · have hltP : k < Ps.length := by rw [← HNE.out]; exact hlt
      obtain ⟨b, off, rfl, hbl, hcell⟩ := HL.out.at (by have := HVL.out; omega)
      have hvk : vs[k]? = some (vs[k]'(by have := HVL.out; omega)) := List.getElem?_eq_getElem _
      have hsk := HR.out.2 k _ _ hvk (List.getElem?_eq_getElem hltP)
      obtain ⟨ak, ck, hf, _, _⟩ := hsk.form
      have hck := hcell k _ hvk
      rw [hf] at hck
      have hle := flat_le' Ps k hltP
      have hst : Hid (T (k + 1) = T k + (Ps[k]).length) := Lib.hid (by rw [HT.out, HT.out, flat_take_succ Ps k hltP, List.length_append])
      have hle2 : (T k : Int) + ((Ps[k]).length : Int) ≤ 200000 := by have := HN.out; rw [HT.out]; omega
      clear hcell hvk hsk hf hle
      generalize (Ps[k]).length = pl at *
      generalize hS : T k = S at *
      have HS := Lib.hid hS
      clear hS
      have hd : decide ((S : Int) + (pl : Int) < 0) = false := by simp; omega
      have hkl2 : (k : Int) < (N : Int) := by omega
      go_wp2_with fail
      go_roundw
      case rel => exact ⟨k + 1, by omega, by rw [hst.out]; go_num, by go_num, trivial⟩
      case measure => simp [intOf]; omega
    · obtain rfl : k = N := by omega
      have hg := Lib.hid (growN_any W (T k) hTN.out)
      go_wp2_with fail
      refine hg.out.mono ?_
      rintro e w1 ⟨v1, rfl, ho1, hb1⟩
      have HO1 := Lib.hid ho1
      have HB1 := Lib.hid hb1
      clear ho1 hb1 hg
      go_wp2_with fail
      go_loopw [6, 27] (fun nv i w2 => ∃ j, j ≤ k ∧ Hid (RowV w2 3 W.heap.size nv (Ps.take j).flatten) ∧ i = .int .i64 (j : Nat) ∧ Hid (Below W.heap.size W w2)) (fun _ i _ => k - (intOf i).toNat)
      case atStart => exact ⟨0, Nat.zero_le _, Lib.hid (by simpa using HO1.out), rfl, HB1⟩
      case round =>
        obtain ⟨j, hjl, hrow, rfl, hbw⟩ := hrel
        by_cases hjt : j < k
        · have hjtP : j < Ps.length := by rw [← HNE.out]; exact hjt
          obtain ⟨b, off, rfl, hbl, hcell⟩ := HL.out.at (by have := HVL.out; omega)
          have hvk : vs[j]? = some (vs[j]'(by have := HVL.out; omega)) := List.getElem?_eq_getElem _
          have hsk := HR.out.2 j _ _ hvk (List.getElem?_eq_getElem hjtP)
          obtain ⟨ak, ck, hf, _, _⟩ := hsk.form
          have hck := below_cells hbw.out _ _ (hcell j _ hvk)
          rw [hf] at hck hsk
          have HSK := Lib.hid (hsk.grown hbw.out)
          have hbl2 : b < W.heap.size := by have := hbw.out.size; omega
          have hle := flat_le' Ps j hjtP
          clear hcell hvk hsk hf hbl
          have hjl2 : (j : Int) < (k : Int) := by omega
          go_wp2_with (at_builtin; refine wpList_append_v slcN (by decide) rfl (.tmp 31) (.tmp 32) rfl rfl rfl hrow.out (by have := hbw.out.size; omega) HSK.out (H1.out _ (List.getElem_mem _)) (by have := HN.out; omega) ?_)
          intro v' w' ho' hf' hn'
          have HO' := Lib.hid ho'
          have HB' := Lib.hid (hbw.out.trans (hf'.below (fun x hx => (hrow.out.lt x (by simpa using hx)).1) hbw.out.size))
          clear ho' hf' hn'
          go_wp2_with fail
          go_roundw
          case rel => exact ⟨j + 1, by omega, Lib.hid (by rw [flat_take_succ Ps j hjtP]; exact HO'.out), by go_num, HB'⟩
          case measure => simp [intOf]; omega
        · obtain rfl : j = k := by omega
          go_wp2_with fail
          go_ret
          refine ⟨_, rfl, ?_, hbw.out⟩
          have := hrow.out
          rwa [HNE.out, List.take_length] at this
end Go.Proofs.YtcjeckjmoponkaaGreatDoor.Rp
