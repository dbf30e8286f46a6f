/- append out of whatever source; New, Peek of the reference. -/
import Derived.Test.YtilafgemgdjfhaaBApp
import Derived.Test.YtilafgemgdjfhaaBFloat
import Derived.LoopTactic
import Derived.Deep.LoopGhost
namespace Go.Proofs.Ytilafgemgdjfhaa
open Go.RowKit Go.Sort
set_option linter.unusedVariables false
set_option linter.unusedSimpArgs false

/-- A slice whose elements are the bytes M. -/
def SrcA (w : World) (vx : Value) (M : List UInt8) : Prop :=
  (vx = .slice none 0 0 ∧ M = []) ∨ ∃ ad cx, vx = .slice (some ad) M.length cx ∧ ∀ j u, (M.map encB)[j]? = some u → w.cell? (ad.add j) = some u
theorem SrcA.row {w : World} {b : Nat} {v : Value} {M : List UInt8} (h : RowB w b v M) : SrcA w v M := by
  rcases h.2 with ⟨rfl, hn⟩ | ⟨g, cap, cu, rfl, hb, hh, h1, h2, h3, h4⟩
  · exact .inl ⟨rfl, List.eq_nil_of_length_eq_zero hn⟩
  · exact .inr ⟨_, _, rfl, row_cells h⟩
theorem SrcA.lies {w : World} {b off c : Nat} {M : List UInt8} (h : Lies w b off M) : SrcA w (.slice (some ⟨b, off, none⟩) M.length c) M := .inr ⟨_, _, rfl, h.map⟩
theorem SrcA.empty (w : World) (x : Addr) (c : Nat) : SrcA w (.slice (some x) 0 c) [] := .inr ⟨x, c, rfl, fun j u h => by simp at h⟩

theorem run_append_src (w : World) {base : Nat} {v vx : Value} {X M : List UInt8} (hown : RowB w base v X) (hbase : base ≤ w.heap.size) (hx : SrcA w vx M) (h63 : X.length + M.length ≤ 1000000) (ty : TypeId) :
    ∃ v' w', (Builtin.append_ #[24, 24] ty #[v, vx]).run Try.prog w = .ok v' w' ∧ RowB w' base v' (X ++ M) ∧ Fr v.ownBlock.toList w w' ∧ Near w v v' := by
  obtain ⟨i0, hi0, hz0, hz1, hz2⟩ := info_parts infoU8
  rcases hx with ⟨rfl, rfl⟩ | ⟨ad, cx, rfl, hcells⟩
  · exact ⟨v, w, run_append_owned_none w base 24 ty 5 i0 1 Try.underlying24 hi0 v _ _ hown, by simpa using hown, Fr.refl _ _, fun g hg => .inl hg⟩
  · obtain ⟨v', w', hrun, ho, hg, _, hat⟩ := run_append_own_at (P := Try.prog) w base 24 ty 5 i0 (.int .u8 0) 1 1 Try.underlying24 hi0 hz0 hz1 hz2 rfl (by decide) v _ _ hown ad M.length cx (M.map encB) (by simp) hcells (encB_one M) (by unfold maxLen; omega) (by omega) hbase
    refine ⟨v', w', hrun, ?_, fr_grown hg, fun x hx => ?_⟩
    · unfold RowB
      rw [List.length_append, List.map_append]
      exact ho
    · rcases hat with h | h
      · left; rw [← h]; exact hx
      · right; rw [h] at hx; simp at hx; omega
theorem wp_append_src {w : World} {o : Oper} {a : Act} {K : Act → World → Prop} {Q : Exit → Act → World → Prop} (s x : Operand)
    (ho : o.op = .call { callee := .builtin .append, args := #[s, x], argTypes := #[24, 24] }) {base : Nat} {v vx : Value} {X M : List UInt8} (hs : a.eval s = v) (hx : a.eval x = vx)
    (hown : RowB w base v X) (hbase : base ≤ w.heap.size) (hrow : SrcA w vx M) (h63 : X.length + M.length ≤ 1000000)
    (h : ∀ v' w', RowB w' base v' (X ++ M) → Fr v.ownBlock.toList w w' → Near w v v' → K (a.put o.dst v') w') : Oper.wp Try.prog o a w K Q := by
  obtain ⟨v', w', hrun, h1, h2, h3⟩ := run_append_src w hown hbase hrow h63 o.type
  unfold Oper.wp
  simp [execOp, ho, resolve, invoke, builtin, hs, hx, hrun, Result.andThen]
  exact h v' w' h1 h2 h3
theorem wpList_append_src {w : World} {ops : Array Oper} {rest : List Oper} {o : Oper} {a : Act} {Q : Exit → Act → World → Prop} (hgd : o.guard = none) (s x : Operand)
    (ho : o.op = .call { callee := .builtin .append, args := #[s, x], argTypes := #[24, 24] }) {base : Nat} {v vx : Value} {X M : List UInt8} (hs : a.eval s = v) (hx : a.eval x = vx)
    (hown : RowB w base v X) (hbase : base ≤ w.heap.size) (hrow : SrcA w vx M) (h63 : X.length + M.length ≤ 1000000)
    (h : ∀ v' w', RowB w' base v' (X ++ M) → Fr v.ownBlock.toList w w' → Near w v v' → wpList Try.prog ops Q rest (a.put o.dst v') w') : wpList Try.prog ops Q (o :: rest) a w :=
  wpList_plain hgd fun K hK => wp_append_src s x ho hs hx hown hbase hrow h63 fun v' w' h1 h2 h3 => hK _ _ (h v' w' h1 h2 h3)
theorem step_append_src {w : World} {ops : Array Oper} {o : Oper} {a : Act} {K : Act → World → Prop} {Q : Exit → Act → World → Prop} {E : Prop} (hw : Region.wanted o (yielded ops a.tmps) = true) (s x : Operand)
    (ho : o.op = .call { callee := .builtin .append, args := #[s, x], argTypes := #[24, 24] }) {base : Nat} {v vx : Value} {X M : List UInt8} (hs : a.eval s = v) (hx : a.eval x = vx)
    (hown : RowB w base v X) (hbase : base ≤ w.heap.size) (hrow : SrcA w vx M) (h63 : X.length + M.length ≤ 1000000)
    (h : ∀ v' w', RowB w' base v' (X ++ M) → Fr v.ownBlock.toList w w' → Near w v v' → K (a.put o.dst v') w') : if Region.wanted o (yielded ops a.tmps) = true then Oper.wp Try.prog o a w K Q else E := by
  rw [if_pos hw]
  exact wp_append_src s x ho hs hx hown hbase hrow h63 h

theorem row_one (w : World) (x : UInt8) : RowB (w.alloc (.cells #[.int .u8 ((x.toNat : Nat) : Int)] 5)) w.heap.size (.slice (some ⟨w.heap.size, 0, none⟩) 1 1) [x] :=
  row_of (Nat.le_refl _) (by simpa [encB] using heap_alloc_new w (.cells #[.int .u8 ((x.toNat : Nat) : Int)] 5)) rfl (by unfold maxLen; omega)
theorem RowB.kept {w w' : World} {b b2 : Nat} {v : Value} {L : List UInt8} (h : RowB w b v L) (hb : Below b2 w w') (hl : ∀ g, v.ownBlock = some g → g < b2) : RowB w' b v L := by
  refine ⟨h.1, ?_⟩
  rcases h.2 with h' | ⟨g, cap, cur, rfl, hb', hh, r⟩
  · exact .inl h'
  · exact .inr ⟨g, cap, cur, rfl, hb', (hb.block g (hl g rfl)).trans hh, r⟩
theorem RowB.grown {w w' : World} {b : Nat} {v : Value} {L : List UInt8} (h : RowB w b v L) (hb : Below w.heap.size w w') : RowB w' b v L := h.kept hb fun g hg => (h.lt g hg).2
theorem RowB.lower {w : World} {b b' : Nat} {v : Value} {L : List UInt8} (h : RowB w b v L) (hb : b' ≤ b) : RowB w b' v L := ownsRow_mono h hb

/-- A ring buffer of the reference. -/
def rv (c : Nat) (v : Value) : Value := .agg #[.int .i64 c, v]

set_option maxHeartbeats 800000 in
theorem refNew_bad (w : World) (c : Int) (h : c < 1 ∨ 4096 < c) : Calls Try.prog 10 #[.int .i64 c] w fun e w' => e = .returned (.tuple #[.agg #[.int .i64 0, .slice none 0 0], .int .i64 2]) ∧ Below w.heap.size w w' := by
  rcases (by omega : c < 1 ∨ (1 ≤ c ∧ 4096 < c)) with h1 | ⟨h0, h1⟩
  all_goals (
    clear h
    go_enter Try.func10, Try.ntmps10
    go_wp2_with fail
    refine bodyPost_ret (v := .tuple #[.agg #[.int .i64 0, .slice none 0 0], .int .i64 2]) (by simp [results, Try.results10, go_sem]) rfl ⟨rfl, ?_⟩
    first | exact (((Below.refl _ _).alloc (Nat.le_refl _) _).setCell (by simp) _).setCell (by simp) _ | exact ((Below.refl _ _).alloc (Nat.le_refl _) _))
set_option maxHeartbeats 800000 in
theorem refNew_ok (w : World) (c : Nat) (h1 : 1 ≤ c) (h2 : c ≤ 4096) : Calls Try.prog 10 #[.int .i64 c] w fun e w' => e = .returned (.tuple #[rv c (.slice none 0 0), .int .i64 0]) ∧ Below w.heap.size w w' := by
  have e1 : (1 : Int) ≤ (c : Int) := by omega
  have e2 : (c : Int) ≤ 4096 := by omega
  have b3 : decide ((c : Int) < 1) = false := by simp; omega
  have b4 : decide ((4096 : Int) < (c : Int)) = false := by simp; omega
  clear h1 h2
  go_enter Try.func10, Try.ntmps10
  go_wp2_with fail
  refine bodyPost_ret (v := .tuple #[rv c (.slice none 0 0), .int .i64 0]) (by simp [results, Try.results10, go_sem, rv]) rfl ⟨rfl, ?_⟩
  first | exact (((Below.refl _ _).alloc (Nat.le_refl _) _).setCell (by simp) _).setCell (by simp) _ | exact ((Below.refl _ _).alloc (Nat.le_refl _) _)

set_option maxHeartbeats 800000 in
theorem refPeek_neg (c : Nat) (v : Value) (o m : Int) (h : o < 0 ∨ m < 0) (w : World) : Calls Try.prog 16 #[rv c v, .int .i64 o, .int .i64 m] w fun e w' => e = .returned (.tuple #[.slice none 0 0, .int .i64 2]) ∧ Below w.heap.size w w' := by
  unfold rv
  rcases (by omega : o < 0 ∨ (0 ≤ o ∧ m < 0)) with h1 | ⟨h0, h1⟩
  all_goals (
    clear h
    go_enter Try.func16, Try.ntmps16
    go_wp2_with fail
    go_ret2
    exact ⟨rfl, (Below.refl _ _).alloc (Nat.le_refl _) _⟩)

theorem peek_step (B : List UInt8) (k o m : Nat) (hk : k < B.length) : (((B.take (k + 1)).drop o).take m) = if o ≤ k ∧ ((B.take k).drop o).length < m then (((B.take k).drop o).take m) ++ [B[k]] else (((B.take k).drop o).take m) := by
  rw [List.take_succ_eq_append_getElem hk]
  by_cases h1 : o ≤ k
  · rw [List.drop_append_of_le_length (by simp; omega)]
    by_cases h2 : ((B.take k).drop o).length < m
    · rw [if_pos ⟨h1, h2⟩, List.take_append]
      congr 1
      exact List.take_of_length_le (by simp only [List.length_cons, List.length_nil]; omega)
    · rw [if_neg (by omega), List.take_append_of_le_length (by omega)]
  · rw [if_neg (by omega), List.drop_eq_nil_of_le (by simp; omega), List.drop_eq_nil_of_le (by simp; omega)]

set_option maxRecDepth 100000 in
set_option maxHeartbeats 1600000 in
theorem refPeek_ok (c : Nat) {b0 : Nat} {va : Option Addr} {vc : Nat} {B : List UInt8} (w : World) (hB : RowB w b0 (.slice va B.length vc) B) (hBl : B.length ≤ 4096) (o m : Nat) (hom : (o : Int) ≤ 9223372036854775807) (hmm : (m : Int) ≤ 9223372036854775807) :
    Calls Try.prog 16 #[rv c (.slice va B.length vc), .int .i64 o, .int .i64 m] w fun e w' => ∃ v, e = .returned (.tuple #[v, .int .i64 0]) ∧ RowB w' w.heap.size v ((B.drop o).take m) ∧ Below w.heap.size w w' := by
  have HB := Lib.hid hB
  have e1 : (B.length : Int) ≤ 4096 := by omega
  have hbl := Lib.hid hBl
  have b1 : decide ((o : Int) < 0) = false := by simp
  have b2 : decide ((m : Int) < 0) = false := by simp
  unfold rv
  clear hB hBl
  go_enter Try.func16, Try.ntmps16
  go_wp2_with fail
  go_loopw [8, 9] (fun v i wr => ∃ k ga gc X, i = .int .i64 (k : Nat) ∧ k ≤ B.length ∧ v = .slice ga (X : List UInt8).length gc ∧ Hid (X = ((B.take k).drop o).take m) ∧ Hid (RowB wr (w.heap.size + 1) (.slice ga X.length gc) X) ∧ Hid (Below w.heap.size w wr) ∧ wr.cell? ⟨w.heap.size, 1, none⟩ = some (.slice va B.length vc)) (fun _ i _ => B.length - (intOf i).toNat)
  case atStart => exact ⟨0, none, 0, [], rfl, Nat.zero_le _, rfl, Lib.hid (by simp), Lib.hid (World.ownsRow_nil _ _ _ _), Lib.hid ((Below.refl _ _).alloc (Nat.le_refl _) _), by simp⟩
  case round =>
    obtain ⟨k, ga, gc, X, rfl, hk, rfl, HX, HR, HW, hc1⟩ := hrel
    have hXl : X.length ≤ m ∧ X.length ≤ 4096 := by rw [HX.out]; simp; omega
    have e2 : (X.length : Int) ≤ (m : Int) := by omega
    have hlen : Hid (((B.take k).drop o).length < m ↔ X.length < m) := Lib.hid (by rw [HX.out]; simp; omega)
    have hbw : w.heap.size < wr.heap.size := World.block_lt_of_cell? wr _ hc1
    by_cases hkl : k < B.length
    · obtain ⟨g, cap, hv, hn1, hn2⟩ := row_some HB.out (by omega)
      simp only [Value.slice.injEq, true_and] at hv
      obtain ⟨rfl, rfl⟩ := hv
      obtain ⟨x, hx⟩ : ∃ x, x = B[k] := ⟨_, rfl⟩
      have hgl := (HB.out.lt g rfl).2
      have hcell : wr.cell? ⟨g, k, none⟩ = some (.int .u8 ((x.toNat : Nat) : Int)) := by
        have h1 := row_cells HB.out k (encB x) (by simp [hx, hkl])
        rw [Go.WideShapes.add_plain, Nat.zero_add] at h1
        rw [HW.out.cell (p := ⟨g, k, none⟩) hgl, h1]
        rfl
      have hgw : g < wr.heap.size := by omega
      have hk2 : (k : Int) < (B.length : Int) := by omega
      have hst := peek_step B k o m hkl
      by_cases hok : o ≤ k
      · have ho2 : (o : Int) ≤ (k : Int) := by omega
        by_cases hXm : X.length < m
        · have hXm2 : (X.length : Int) < (m : Int) := by omega
          rw [if_pos ⟨hok, hlen.out.2 hXm⟩, ← HX.out, ← hx] at hst
          have Hst := Lib.hid hst
          have HR2 := Lib.hid (HR.out.grown ((Below.refl wr.heap.size wr).alloc (Nat.le_refl _) (.cells #[.int .u8 ((x.toNat : Nat) : Int)] 5)))
          have Hone := Lib.hid (SrcA.row (row_one wr x))
          have hb2 : w.heap.size + 1 ≤ (wr.alloc (.cells #[.int .u8 ((x.toNat : Nat) : Int)] 5)).heap.size := by simp; omega
          have hb3 : X.length + [x].length ≤ 1000000 := by simp; omega
          clear hst hx hXl HX
          go_wp2_with (at_builtin; refine wpList_append_src rfl (.tmp 32) (.tmp 38) rfl rfl rfl HR2.out hb2 Hone.out hb3 ?_)
          intro v' w5 ho hf hn
          have hB5 : Below w.heap.size w w5 := by
            have h1 := HW.out.alloc (Nat.le_of_lt hbw) (.cells #[.int .u8 ((x.toNat : Nat) : Int)] 5)
            refine h1.trans (hf.below (fun y hy => ?_) (by omega))
            have := (HR2.out.lt y (by simpa using hy)).1
            omega
          have hc5 : w5.cell? ⟨w.heap.size, 1, none⟩ = some (.slice (some ⟨g, 0, none⟩) B.length vc) := by
            have h1 := ((Below.refl wr.heap.size wr).alloc (Nat.le_refl _) (.cells #[.int .u8 ((x.toNat : Nat) : Int)] 5)).cell (p := ⟨w.heap.size, 1, none⟩) hbw
            refine hf.cell (h1.trans hc1) (fun hy => ?_)
            have := (HR2.out.lt _ (by simpa using hy)).1
            omega
          obtain ⟨ga', gc', rfl⟩ := row_formB ho
          have HB5 := Lib.hid hB5
          have Ho := Lib.hid ho
          obtain ⟨Y, hY⟩ : ∃ Y, Y = X ++ [x] := ⟨_, rfl⟩
          rw [← hY] at Ho Hst
          rw [← hY]
          clear hB5 hn hf ho hY
          go_wp2_with fail
          go_roundw
          case rel => exact ⟨k + 1, ga', gc', Y, by go_num, by omega, rfl, Lib.hid Hst.out.symm, Ho, HB5, hc5⟩
          case measure => simp [intOf]; omega
        · have hXm2 : decide ((X.length : Int) < (m : Int)) = false := by simp; omega
          rw [if_neg (by rintro ⟨_, h⟩; exact hXm (hlen.out.1 h)), ← HX.out] at hst
          have Hst := Lib.hid hst
          clear hst hx HX hXl
          go_wp2_with fail
          go_roundw
          case rel => exact ⟨k + 1, ga, gc, X, by go_num, by omega, rfl, Lib.hid Hst.out.symm, HR, HW, hc1⟩
          case measure => simp [intOf]; omega
      · have ho2 : decide ((o : Int) ≤ (k : Int)) = false := by simp; omega
        rw [if_neg (by rintro ⟨h, _⟩; exact hok h), ← HX.out] at hst
        have Hst := Lib.hid hst
        clear hst hx HX hXl
        go_wp2_with fail
        go_roundw
        case rel => exact ⟨k + 1, ga, gc, X, by go_num, by omega, rfl, Lib.hid Hst.out.symm, HR, HW, hc1⟩
        case measure => simp [intOf]; omega
    · have hk2 : decide ((k : Int) < (B.length : Int)) = false := by simp; omega
      have HX2 : Hid (X = (B.drop o).take m) := Lib.hid (by rw [HX.out, List.take_of_length_le (l := B) (by omega)])
      clear hXl
      go_wp2_with fail
      go_ret2
      exact ⟨_, rfl, by rw [← HX2.out]; exact HR.out.lower (by omega), HW.out⟩
end Go.Proofs.Ytilafgemgdjfhaa
