/- KSpot: JSpot, JApp, merged. -/
import Derived.Test.YtgkodleblkjhcaaGreatDoorKLaw
import Derived.Maps.AppendAt
import Derived.Laws.OwnMore
/- The reference's valid spots. -/
namespace Go.Proofs.YtgkodleblkjhcaaGreatDoor
open Go.RowKit Go.Sort
set_option linter.unusedVariables false
set_option linter.unusedSimpArgs false

set_option maxHeartbeats 800000 in
theorem rspot_any (x y : Int) (w : World) : Calls Tryz.prog 33 #[.agg #[.int .i64 x, .int .i64 y]] w fun e w' => e = .returned (.bool (okS x y)) ∧ Grn w w' := by
  have hg : Hid (Grn w (w.alloc (.cells #[.int .i64 x, .int .i64 y] 37))) := Lib.hid ((Grn.refl w).alloc _)
  have H := Lib.hid (show okS x y = decide (0 ≤ x ∧ x < 128 ∧ (y = 0 ∨ y = 1)) from rfl)
  by_cases h1 : 0 ≤ x
  · by_cases h2 : x ≤ 127
    · by_cases h3 : y = 0
      · subst h3
        have hv := Lib.hid (show okS x 0 = true by rw [H.out]; simp; omega)
        have g1 : decide (0 ≤ x) = true := by simpa using h1
        go_enter Tryz.func33, Tryz.ntmps33
        go_wp2_with fail
        go_ret
        exact ⟨by rw [hv.out]; rfl, hg.out⟩
      · have q3 : (y == 0) = false := by simpa using h3
        by_cases h4 : y = 1
        · subst h4
          have hv := Lib.hid (show okS x 1 = true by rw [H.out]; simp; omega)
          go_enter Tryz.func33, Tryz.ntmps33
          go_wp2_with fail
          go_ret
          exact ⟨by rw [hv.out]; rfl, hg.out⟩
        · have q4 : (y == 1) = false := by simpa using h4
          have hv := Lib.hid (show okS x y = false by rw [H.out]; simp; omega)
          clear h3 h4
          go_enter Tryz.func33, Tryz.ntmps33
          go_wp2_with fail
          go_ret
          exact ⟨by rw [hv.out]; rfl, hg.out⟩
    · have hv := Lib.hid (show okS x y = false by rw [H.out]; simp; omega)
      have g2 : decide (x ≤ 127) = false := by simp; omega
      clear h2
      go_enter Tryz.func33, Tryz.ntmps33
      go_wp2_with fail
      go_ret
      exact ⟨by rw [hv.out]; rfl, hg.out⟩
  · have hv := Lib.hid (show okS x y = false by rw [H.out]; simp; omega)
    have g1 : decide (0 ≤ x) = false := by simp; omega
    clear h1
    go_enter Tryz.func33, Tryz.ntmps33
    go_wp2_with fail
    go_ret
    exact ⟨by rw [hv.out]; rfl, hg.out⟩
end Go.Proofs.YtgkodleblkjhcaaGreatDoor
/- Lapses put behind lapses. -/
namespace Go.Proofs.YtgkodleblkjhcaaGreatDoor
open Go.RowKit Go.Sort
set_option linter.unusedVariables false
set_option linter.unusedSimpArgs false

theorem run_append_ll (w : World) {base b2 : Nat} {v vx : Value} {X M : List (Int × Nat)} (hown : RowL w base v X) (hbase : base ≤ w.heap.size) (hx : RowL w b2 vx M) (h63 : X.length + M.length ≤ 1000000) (ty : TypeId) :
    ∃ v' w', (Builtin.append_ #[30, 30] ty #[v, vx]).run Tryz.prog w = .ok v' w' ∧ RowL w' base v' (X ++ M) ∧ Fr v.ownBlock.toList w w' ∧ Near w v v' := by
  obtain ⟨i0, hi0, hz0, hz1, hz2⟩ := info_parts infoLapse
  rcases hx.2 with ⟨rfl, hm⟩ | ⟨g, cx, cur, rfl, _, hg, hn, hc, hcs, htake⟩
  · have hM : M = [] := List.eq_nil_of_length_eq_zero hm
    subst hM
    exact ⟨v, w, run_append_owned_none w base 30 ty 60 i0 3 Tryz.underlying30 hi0 v _ _ hown, by simpa using hown, Fr.refl _ _, fun g hg => .inl hg⟩
  · have hb : (X.length + M.length) * 24 ≤ 140737488355328 := by omega
    obtain ⟨v', w', hrun, ho, hg', _, hat⟩ := run_append_own_at (P := Tryz.prog) w base 30 ty 60 i0 _ 3 24 Tryz.underlying30 hi0 hz0 hz1 hz2 rfl (by decide) v _ _ hown ⟨g, 0, none⟩ M.length cx (M.flatMap encL) hx.1
      (fun j u hu => by
        rw [Go.WideShapes.add_plain]
        refine cells_cell hg ?_
        simp only [Nat.zero_add]
        rw [← htake] at hu
        rw [List.getElem?_take] at hu
        split at hu
        · simpa using hu
        · simp at hu) (fun u hu => by
          obtain ⟨x, _, hx⟩ := List.mem_flatMap.1 hu
          simp only [encL, List.mem_cons, List.not_mem_nil, or_false] at hx
          rcases hx with rfl | rfl | rfl <;> rfl) (by unfold maxLen; omega) hb hbase
    refine ⟨v', w', hrun, ?_, fr_grown hg', fun x hx => ?_⟩
    · unfold RowL
      rw [List.length_append, List.flatMap_append]
      exact ho
    · rcases hat with h | h
      · left; rw [← h]; exact hx
      · right; rw [h] at hx; simp at hx; omega
theorem wpList_append_ll {w : World} {ops : Array Oper} {rest : List Oper} {o : Oper} {a : Act} {Q : Exit → Act → World → Prop} (hgd : o.guard = none) (s x : Operand)
    (ho : o.op = .call { callee := .builtin .append, args := #[s, x], argTypes := #[30, 30] }) {base b2 : Nat} {v vx : Value} {X M : List (Int × Nat)} (hs : a.eval s = v) (hx : a.eval x = vx)
    (hown : RowL w base v X) (hbase : base ≤ w.heap.size) (hrow : RowL w b2 vx M) (h63 : X.length + M.length ≤ 1000000)
    (h : ∀ v' w', RowL w' base v' (X ++ M) → Fr v.ownBlock.toList w w' → Near w v v' → wpList Tryz.prog ops Q rest (a.put o.dst v') w') : wpList Tryz.prog ops Q (o :: rest) a w := by
  obtain ⟨v', w', hrun, h1, h2, h3⟩ := run_append_ll w hown hbase hrow h63 o.type
  refine wpList_plain hgd fun K hK => ?_
  unfold Oper.wp
  simp [execOp, ho, resolve, invoke, builtin, hs, hx, hrun, Result.andThen]
  exact hK _ _ (h v' w' h1 h2 h3)

theorem wp_append_ll {w : World} {o : Oper} {a : Act} {K : Act → World → Prop} {Q : Exit → Act → World → Prop} (s x : Operand)
    (ho : o.op = .call { callee := .builtin .append, args := #[s, x], argTypes := #[30, 30] }) {base b2 : Nat} {v vx : Value} {X M : List (Int × Nat)} (hs : a.eval s = v) (hx : a.eval x = vx)
    (hown : RowL w base v X) (hbase : base ≤ w.heap.size) (hrow : RowL w b2 vx M) (h63 : X.length + M.length ≤ 1000000)
    (h : ∀ v' w', RowL w' base v' (X ++ M) → Fr v.ownBlock.toList w w' → Near w v v' → K (a.put o.dst v') w') : Oper.wp Tryz.prog o a w K Q := by
  obtain ⟨v', w', hrun, h1, h2, h3⟩ := run_append_ll w hown hbase hrow h63 o.type
  unfold Oper.wp
  simp [execOp, ho, resolve, invoke, builtin, hs, hx, hrun, Result.andThen]
  exact h v' w' h1 h2 h3

theorem rowL1 (w : World) (x y k : Int) (p : Nat) (hx : ((p / 2 : Nat) : Int) = x) (hy : ((p % 2 : Nat) : Int) = y) : RowL (w.alloc (.cells #[.int .i64 x, .int .i64 y, .int .u64 k] 60)) 0 (.slice (some ⟨w.heap.size, 0, none⟩) 1 1) [(k, p)] := by
  have := World.ownsRow_lit w #[.int .i64 x, .int .i64 y, .int .u64 k] 1 (e := 60) (size := 3) (base := 0) (Nat.zero_le _) (by unfold maxLen; omega) rfl
  unfold RowL
  simpa [encL, hx, hy] using this
theorem filter_snoc {α : Type} {L : List α} {k : Nat} {x : α} (p : α → Bool) (h : L[k]? = some x) : (L.take (k + 1)).filter p = (L.take k).filter p ++ if p x then [x] else [] := by
  rw [take_snoc h, List.filter_append]
  cases hp : p x <;> simp [hp]
end Go.Proofs.YtgkodleblkjhcaaGreatDoor
