/- The reference: without. -/
import Derived.Test.YtcdimopiaanfbaaDoorFRefA
namespace Go.Proofs.YtcdimopiaanfbaaDoor
open Go.RowKit Go.Sort
set_option linter.unusedVariables false
set_option linter.unusedSimpArgs false

/-- A list without a number. -/
def woR (n : Int) (R : List Int) : List Int := R.filter fun x => decide (x ≠ n)
theorem woR_next {n : Int} {R : List Int} {k : Nat} (hk : k < R.length) : woR n (R.take (k + 1)) = woR n (R.take k) ++ if R[k] = n then [] else [R[k]] := by
  unfold woR
  rw [List.take_succ_eq_append_getElem hk, List.filter_append]
  congr 1
  by_cases h : R[k] = n
  · rw [if_pos h]; simp [h]
  · rw [if_neg h]; simp [h]
theorem woR_wo (n : Nat) (Q : Qu) : (wo n Q).map Prod.snd = woR ((n : Nat) : Int) (Q.map Prod.snd) := by
  unfold wo woR
  rw [List.filter_map]
  rfl

set_option maxRecDepth 100000 in
set_option maxHeartbeats 3200000 in
theorem refWithout_any {w : World} {r : Value} {R : List Int} (hr : Src TI w r R) (hl : R.length ≤ 1000) (n : Int) : Calls Tryd.prog 80 #[r, .int .i64 n] w fun e w' => ∃ v, e = .returned v ∧ Row TI w' w.heap.size v (woR n R) ∧ Below w.heap.size w w' := by
  obtain ⟨ra, rc, rfl, hr1, hr2⟩ := hr.form
  obtain ⟨M, hM⟩ : ∃ M, M = R.length := ⟨_, rfl⟩
  have HR := Lib.hid hr
  have HM := Lib.hid hM
  rw [← hM] at HR hl ⊢
  have hMI : ((M : Nat) : Int) ≤ 1000 := by omega
  clear hr hr1 hr2 hM
  go_enter Tryd.func80, Tryd.ntmps80
  go_wp2_with fail
  go_loopw [5, 6] (fun o i wr => ∃ (k : Nat), k ≤ M ∧ i = .int .i64 ((k : Nat) : Int) ∧ Hid (Row TI wr w.heap.size o (woR n (R.take k)) ∧ Below w.heap.size w wr)) (fun _ i _ => M - (intOf i).toNat)
  case atStart => exact ⟨0, Nat.zero_le _, rfl, Lib.hid ⟨Row.nil _ _, Below.refl _ _⟩⟩
  case round =>
    obtain ⟨k, hk, rfl, HD⟩ := hrel
    by_cases hlt : k < M
    · have hkR : k < R.length := by rw [← HM.out]; exact hlt
      have hnx := Lib.hid (woR_next (n := n) hkR)
      obtain ⟨a, o1, c1, e1, _, _, l1, k1⟩ := Src.int (HR.out.grown HD.out.2) hkR
      simp only [Value.slice.injEq] at e1
      obtain ⟨rfl, -, rfl⟩ := e1
      have q3 : (k : Int) < (M : Int) := by omega
      generalize R[k] = x at *
      by_cases hx : x = n
      · subst hx
        have HD2 : Hid (Row TI wr w.heap.size u5 (woR x (R.take (k + 1))) ∧ Below w.heap.size w wr) := Lib.hid ⟨by rw [hnx.out, if_pos rfl, List.append_nil]; exact HD.out.1, HD.out.2⟩
        clear HD hkR
        go_wp2_with fail
        go_roundw
        case rel => exact ⟨k + 1, by omega, by go_num, HD2⟩
        case measure => simp [intOf]; omega
      · have hx1 : (x != n) = true := by simpa using hx
        have hba := below_alloc wr (.cells #[.int .i64 x] 3)
        have hrow := Lib.hid (HD.out.1.below hba)
        have hlen : (woR n (R.take k)).length ≤ 1000 := Nat.le_trans (List.length_filter_le _ _) (by rw [List.length_take]; omega)
        have HL := Lib.hid hlen
        clear hkR hlen
        go_wp2_with (at_builtin; refine wpList_append_g TI_ok rfl (.tmp 19) (.tmp 24) rfl rfl rfl hrow.out (by have := HD.out.2.size; simp; omega) (src_new TI_ok wr x #[.int .i64 x] rfl) (by have := HL.out; simp; omega) ?_)
        intro v' w3 ho hf hnr
        have HD2 : Hid (Row TI w3 w.heap.size v' (woR n (R.take (k + 1))) ∧ Below w.heap.size w w3) := Lib.hid (by
          refine ⟨by rw [hnx.out, if_neg hx]; exact ho, ?_⟩
          have h1 := HD.out.2.trans (hba.mono HD.out.2.size)
          refine h1.trans (hf.below (fun y hy => ?_) h1.size)
          exact (hrow.out.lt y (by simpa using hy)).1)
        clear ho hf hnr hrow hba HD
        go_wp2_with fail
        go_roundw
        case rel => exact ⟨k + 1, by omega, by go_num, HD2⟩
        case measure => simp [intOf]; omega
    · obtain rfl : k = M := by omega
      have HD2 : Hid (Row TI wr w.heap.size u5 (woR n R) ∧ Below w.heap.size w wr) := Lib.hid (by
        have := HD.out
        rw [HM.out, List.take_length] at this
        exact this)
      clear HD HR
      go_wp2_with fail
      go_ret
      exact ⟨_, rfl, HD2.out⟩
end Go.Proofs.YtcdimopiaanfbaaDoor
