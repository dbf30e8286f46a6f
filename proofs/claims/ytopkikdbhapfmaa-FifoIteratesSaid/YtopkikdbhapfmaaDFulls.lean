/- The walk of FifoFulls. -/
import Derived.Test.YtopkikdbhapfmaaDKnown
namespace Go.Proofs.Ytopkikdbhapfmaa
open Go.RowKit Go.Sort Go.MapKept
set_option linter.unusedVariables false
set_option linter.unusedSimpArgs false

theorem run_min2 {P : Program} (w : World) (ts : Array TypeId) (ty : TypeId) (X Y Z : Int) (hz : min X Y = Z) : (Builtin.min_ ts ty #[.int .i64 X, .int .i64 Y]).run P w = .ok (.int .i64 Z) w := by
  have e : (if Y < X then Y else X) = Z := by split <;> omega
  simp [Builtin.min_, Builtin.min2, e]
theorem wpList_min {P : Program} {w : World} {ops : Array Oper} {rest : List Oper} {o : Oper} {a : Act} {Q : Exit → Act → World → Prop} (hgd : o.guard = none) (x y : Operand) (ts : Array TypeId)
    (ho : o.op = .call { callee := .builtin .min, args := #[x, y], argTypes := ts }) (X Y Z : Int) (hx : a.eval x = .int .i64 X) (hy : a.eval y = .int .i64 Y) (hz : min X Y = Z)
    (h : wpList P ops Q rest (a.put o.dst (.int .i64 Z)) w) : wpList P ops Q (o :: rest) a w := by
  refine wpList_plain hgd fun K hK => ?_
  have hrun := run_min2 (P := P) w ts o.type X Y Z hz
  unfold Oper.wp
  simp [execOp, ho, resolve, invoke, builtin, hx, hy, hrun, Result.andThen]
  exact hK _ _ h
theorem run_max2 {P : Program} (w : World) (ts : Array TypeId) (ty : TypeId) (X Y Z : Int) (hz : max X Y = Z) : (Builtin.max_ ts ty #[.int .i64 X, .int .i64 Y]).run P w = .ok (.int .i64 Z) w := by
  have e : (if X < Y then Y else X) = Z := by split <;> omega
  simp [Builtin.max_, Builtin.max2, e]
theorem wpList_max {P : Program} {w : World} {ops : Array Oper} {rest : List Oper} {o : Oper} {a : Act} {Q : Exit → Act → World → Prop} (hgd : o.guard = none) (x y : Operand) (ts : Array TypeId)
    (ho : o.op = .call { callee := .builtin .max, args := #[x, y], argTypes := ts }) (X Y Z : Int) (hx : a.eval x = .int .i64 X) (hy : a.eval y = .int .i64 Y) (hz : max X Y = Z)
    (h : wpList P ops Q rest (a.put o.dst (.int .i64 Z)) w) : wpList P ops Q (o :: rest) a w := by
  refine wpList_plain hgd fun K hK => ?_
  have hrun := run_max2 (P := P) w ts o.type X Y Z hz
  unfold Oper.wp
  simp [execOp, ho, resolve, invoke, builtin, hx, hy, hrun, Result.andThen]
  exact hK _ _ h
theorem wpList_unguard {P : Program} {ops : Array Oper} {Q : Exit → Act → World → Prop} {a : Act} {w : World} {rest : List Oper} {o : Oper} (hw : Region.wanted o (yielded ops a.tmps) = true) (h : wpList P ops Q ({ o with guard := none } :: rest) a w) : wpList P ops Q (o :: rest) a w := by
  unfold wpList at h ⊢
  rw [if_pos hw]
  have hn : Region.wanted { o with guard := none } (yielded ops a.tmps) = true := by simp [Region.wanted]
  rw [if_pos hn] at h
  exact h

/-- The queue after n values from 1 on. -/
def fullQ (n : Nat) : Qu := (List.range n).map fun j => (j + 1, ((j + 1 : Nat) : Int))
theorem fullQ_len (n : Nat) : (fullQ n).length = n := by simp [fullQ]
theorem fullQ_succ (n : Nat) : fullQ (n + 1) = fullQ n ++ [(n + 1, ((n + 1 : Nat) : Int))] := by simp [fullQ, List.range_succ]
theorem fullQ_drop {j n : Nat} (h : j < n) : (fullQ n).drop j = (j + 1, ((j + 1 : Nat) : Int)) :: (fullQ n).drop (j + 1) := by
  rw [List.drop_eq_getElem_cons (by rw [fullQ_len]; exact h)]
  simp [fullQ]

set_option maxRecDepth 100000 in
set_option maxHeartbeats 3200000 in
theorem fifoFulls_in (n p : Nat) (hn : 4090 ≤ n) (hn2 : n ≤ 4110) (hp : 1 ≤ p) (hp2 : p ≤ 9) (w : World) :
    Calls Try.prog 5 #[.int .i64 n, .int .i64 p] w fun e w' => e = .returned (.bool true) ∧ Below w.heap.size w w' := by
  have e1 : (4090 : Int) ≤ (n : Int) := by omega
  have e2 : (n : Int) ≤ 4110 := by omega
  have e3 : (1 : Int) ≤ (p : Int) := by omega
  have e4 : (p : Int) ≤ 9 := by omega
  go_enter Try.func5, Try.ntmps5
  go_wp2_with (go_at_call 9; fail)
  refine (fiNew_any w).mono ?_
  rintro e w1 ⟨q, b, m, rfl, hq, hg, h1, h2, h3⟩
  have K1 := Lib.hid (KQ.mk hq hg.below h1 h2 h3)
  clear hq hg h1 h2 h3
  go_wp2_with fail
  go_loopw [6] (fun i wr => ∃ k : Nat, k ≤ n ∧ i = .int .i64 ((k + 1 : Nat) : Int) ∧ Hid (KQ w wr q b m (fullQ (min k 4096)) (min k 4096))) (fun i _ => n + 1 - (intOf i).toNat)
  case atStart => exact ⟨0, by omega, rfl, K1⟩
  case round =>
    obtain ⟨k, hk, rfl, H⟩ := hrel
    have e5 : (0 : Int) ≤ ((k + 1 : Nat) : Int) := by omega
    have e6 : ((k + 1 : Nat) : Int) ≤ 4111 := by omega
    by_cases hlt : k < n
    · by_cases hk2 : k < 4096
      · have HP := Lib.hid (fiPush_yes H.out.Q (by rw [fullQ_len]; omega) (by omega) ((k + 1 : Nat) : Int))
        rw [Nat.min_eq_left (by omega : k ≤ 4096)] at HP H
        have HN : Hid (∀ w' , KQ w w' q b m (fullQ k ++ [(k + 1, ((k + 1 : Nat) : Int))]) (k + 1) → KQ w w' q b m (fullQ (min (k + 1) 4096)) (min (k + 1) 4096)) := Lib.hid fun w' h => by
          rw [Nat.min_eq_left (by omega : k + 1 ≤ 4096), fullQ_succ]; exact h
        obtain ⟨K, hK⟩ : ∃ K, K = k + 1 := ⟨_, rfl⟩
        rw [← hK] at HP HN e5 e6 ⊢
        have HK := Lib.hid hK
        have e7 : (K : Int) ≤ (n : Int) := by omega
        have e11 : (K : Int) ≤ 4096 := by omega
        have ew : IntKind.u64.wrap (K : Int) = K := by rw [IntKind.wrap_u64]; omega
        have e12 : ((K : Int) != (K : Int)) = false := by simp
        clear hK hlt hk2
        go_wp2_with (go_at_call 17; refine HP.out.mono ?_; rintro e w2 ⟨rfl, hq2, hf2⟩; have H2 := Lib.hid (H.out.step hq2 hf2); clear hq2 hf2)
        go_roundw
        case rel => exact ⟨k + 1, by have := HK.out; omega, by rw [HK.out]; go_num, Lib.hid (by rw [← HK.out]; exact HN.out _ H2.out)⟩
        case measure => simp [intOf]; omega
      · have HP := Lib.hid (fiPush_full H.out.Q (by rw [fullQ_len]; omega) ((k + 1 : Nat) : Int))
        have HN : Hid (∀ w' , KQ w w' q b m (fullQ (min k 4096)) (min k 4096) → KQ w w' q b m (fullQ (min (k + 1) 4096)) (min (k + 1) 4096)) := Lib.hid fun w' h => by
          rw [Nat.min_eq_right (by omega : 4096 ≤ k + 1)]; rw [Nat.min_eq_right (by omega : 4096 ≤ k)] at h; exact h
        obtain ⟨K, hK⟩ : ∃ K, K = k + 1 := ⟨_, rfl⟩
        rw [← hK] at HP HN e5 e6 ⊢
        have HK := Lib.hid hK
        have e7 : (K : Int) ≤ (n : Int) := by omega
        have e11 : (4096 : Int) < (K : Int) := by omega
        clear hK hlt hk2
        go_wp2_with (go_at_call 17; refine HP.out.mono ?_; rintro e w2 ⟨rfl, rfl⟩)
        go_roundw
        case rel => exact ⟨k + 1, by have := HK.out; omega, by rw [HK.out]; go_num, Lib.hid (by rw [← HK.out]; exact HN.out _ H.out)⟩
        case measure => simp [intOf]; omega
    · obtain rfl : k = n := by omega
      have e7 : (k : Int) < ((k + 1 : Nat) : Int) := by omega
      obtain ⟨M, hM⟩ : ∃ M, M = min k 4096 := ⟨_, rfl⟩
      rw [← hM] at H
      have HM := Lib.hid (show 4090 ≤ M ∧ M ≤ 4096 by omega)
      have HMI := Lib.hid (show min (k : Int) 4096 = (M : Int) by omega)
      obtain ⟨K, hK⟩ : ∃ K : Nat, K = k + 1 := ⟨_, rfl⟩
      rw [← hK] at e5 e6 e7 ⊢
      have d7 : decide (K ≤ k) = false := by simp; omega
      have d8 : decide ((K : Int) ≤ (k : Int)) = false := by simp; omega
      clear hK hM e7
      go_wp2_with fail
      go_loopw [9] (fun i wr2 => ∃ j : Nat, j ≤ p ∧ i = .int .i64 ((j + 1 : Nat) : Int) ∧ Hid (KQ w wr2 q b m ((fullQ M).drop j) M)) (fun i _ => p + 1 - (intOf i).toNat)
      case atStart => exact ⟨0, by omega, rfl, H⟩
      case round =>
        obtain ⟨j, hj, rfl, H2⟩ := hrel
        have e8 : (0 : Int) ≤ ((j + 1 : Nat) : Int) := by omega
        have e9 : ((j + 1 : Nat) : Int) ≤ 10 := by omega
        by_cases hlt : j < p
        · have e10 : ((j + 1 : Nat) : Int) ≤ (p : Int) := by omega
          have ew : IntKind.u64.wrap ((j + 1 : Nat) : Int) = ((j + 1 : Nat) : Int) := by rw [IntKind.wrap_u64]; omega
          have HP : Hid (Calls Try.prog 18 #[.pointer (some ⟨q, 0, none⟩), .int .i64 ((j + 1 : Nat) : Int), .int .u64 ((j + 1 : Nat) : Int)] wr fun e w' => e = .returned (.bool true) ∧ KQ w w' q b m ((fullQ M).drop (j + 1)) M) := Lib.hid (by
            have H3 := H2.out
            rw [fullQ_drop (by have := HM.out; omega)] at H3
            refine (pops_yes H3.Q).mono ?_
            rintro e w' ⟨rfl, hq, hf⟩
            exact ⟨rfl, H3.step hq hf⟩)
          obtain ⟨J, hJ⟩ : ∃ J, J = j + 1 := ⟨_, rfl⟩
          rw [← hJ] at HP e8 e9 e10 ew ⊢
          have HJ := Lib.hid hJ
          clear hJ H2 H
          go_wp2_with (go_at_call 18; refine HP.out.mono ?_; rintro e w2 ⟨rfl, hq2⟩; have H4 := Lib.hid hq2; clear hq2)
          go_roundw
          case rel => exact ⟨J, by have := HJ.out; omega, by go_num, H4⟩
          case measure => simp [intOf]; omega
        · obtain rfl : j = p := by omega
          have e10 : (j : Int) < ((j + 1 : Nat) : Int) := by omega
          obtain ⟨J, hJ⟩ : ∃ J, J = j + 1 := ⟨_, rfl⟩
          rw [← hJ] at e8 e9 e10 ⊢
          clear hJ
          have hL : ((fullQ M).drop j).length = M - j := by rw [List.length_drop, fullQ_len]
          have HP := Lib.hid (pushes_yes H2.out.Q (by rw [hL]; have := HM.out; omega) (by have := HM.out; omega) 5)
          rw [show ((M + 1 : Nat) : Int) = (M : Int) + 1 by omega] at HP
          have ew : IntKind.u64.wrap ((M : Int) + 1) = (M : Int) + 1 := by have := HM.out; rw [IntKind.wrap_u64]; omega
          have m1 : (0 : Int) ≤ (M : Int) := by omega
          have m2 : (M : Int) ≤ 4096 := by have := HM.out; omega
          have m3 : (4090 : Int) ≤ (M : Int) := by have := HM.out; omega
          go_wp2_with (first | (with_reducible refine wpList_min rfl (.tmp 75) (.const (.int .i64 4096)) _ rfl _ _ _ rfl rfl HMI.out ?_) | (go_at_call 19; refine HP.out.mono ?_; rintro e w2 ⟨rfl, hq2, hf2⟩; refine Hid.out ?_))
          have H3 := H2.out.step hq2 hf2
          have HL := fiLen_any H3.Q
          rw [List.length_append, hL] at HL
          have HX : ((M - j + [(M + 1, (5 : Int))].length : Nat) : Int) = (M : Int) - (j : Int) + 1 := by have := HM.out; simp; omega
          rw [HX] at HL
          have H3 := Lib.hid H3
          have HL := Lib.hid HL
          clear HX hq2 hf2
          refine Lib.hid ?_
          go_wp2_with (first | (with_reducible refine wpList_unguard (o := ⟨some 84, _, _, _, _, _⟩) rfl ?_; refine wpList_min rfl (.tmp 83) (.const (.int .i64 4096)) _ rfl _ _ _ rfl rfl HMI.out ?_) | (go_at_call 13; refine HL.out.mono ?_; rintro e w' ⟨rfl, rfl⟩) | (go_at_call 8; fail))
          refine (known_any _).mono ?_
          rintro e w4 ⟨rfl, hb⟩
          go_wp2_with fail
          go_ret
          exact ⟨rfl, H3.out.below.trans (hb.mono H3.out.below.size)⟩

set_option maxRecDepth 100000 in
set_option maxHeartbeats 1600000 in
theorem fifoFulls_out (n p : Int) (h : n < 4090 ∨ 4110 < n ∨ p < 1 ∨ 9 < p) (w : World) :
    Calls Try.prog 5 #[.int .i64 n, .int .i64 p] w fun e w' => e = .returned (.bool true) ∧ Below w.heap.size w w' := by
  have hk := Lib.hid (known_any w)
  by_cases h1 : n < 4090
  · go_enter Try.func5, Try.ntmps5
    go_wp2_with (go_at_call 8; refine hk.out.mono ?_; rintro e w1 ⟨rfl, hb⟩)
    go_ret
    exact ⟨rfl, hb⟩
  · have f1 : 4090 ≤ n := by omega
    by_cases h2 : 4110 < n
    · go_enter Try.func5, Try.ntmps5
      go_wp2_with (go_at_call 8; refine hk.out.mono ?_; rintro e w1 ⟨rfl, hb⟩)
      go_ret
      exact ⟨rfl, hb⟩
    · have f2 : n ≤ 4110 := by omega
      by_cases h3 : p < 1
      · go_enter Try.func5, Try.ntmps5
        go_wp2_with (go_at_call 8; refine hk.out.mono ?_; rintro e w1 ⟨rfl, hb⟩)
        go_ret
        exact ⟨rfl, hb⟩
      · have f3 : 1 ≤ p := by omega
        have f4 : 9 < p := by omega
        go_enter Try.func5, Try.ntmps5
        go_wp2_with (go_at_call 8; refine hk.out.mono ?_; rintro e w1 ⟨rfl, hb⟩)
        go_ret
        exact ⟨rfl, hb⟩

theorem fifoFulls_walk (n p : Int) (w : World) (hn : (Lit.int .i64 n).wf = true) (hp : (Lit.int .i64 p).wf = true) :
    Calls Try.prog 5 #[.int .i64 n, .int .i64 p] w fun e w' => e = .returned (.bool true) ∧ Below w.heap.size w w' := by
  by_cases h : n < 4090 ∨ 4110 < n ∨ p < 1 ∨ 9 < p
  · exact fifoFulls_out n p h w
  · obtain ⟨a, rfl⟩ : ∃ a : Nat, n = a := ⟨n.toNat, by omega⟩
    obtain ⟨b, rfl⟩ : ∃ b : Nat, p = b := ⟨p.toNat, by omega⟩
    exact fifoFulls_in a b (by omega) (by omega) (by omega) (by omega) w
end Go.Proofs.Ytopkikdbhapfmaa
