/- The walk of HeapFulls. -/
import Derived.Test.YtemjdfmbeahieaaDoorLKnown
namespace Go.Proofs.YtemjdfmbeahieaaDoor
open Go.RowKit Go.Sort
set_option linter.unusedVariables false
set_option linter.unusedSimpArgs false

def fullS : Nat → List El
  | 0 => []
  | i + 1 => if i < 1024 then pushS (fullS i) ((i % 7 : Nat) : Int) i else fullS i

theorem low_range (n : Nat) : lowOf (List.range n) = n := lowOf_eq (by simp) (fun j hj => by simpa using hj)
theorem hs_full : ∀ i, hsOf (fullS i) = List.range (min i 1024)
  | 0 => rfl
  | i + 1 => by
    unfold fullS
    by_cases h : i < 1024
    · rw [if_pos h, hs_push, hs_full i, low_range, Nat.min_eq_left (by omega), Nat.min_eq_left (by omega), List.range_succ]
    · rw [if_neg h, hs_full i, Nat.min_eq_right (by omega), Nat.min_eq_right (by omega)]
theorem len_full (i : Nat) : (fullS i).length = min i 1024 := by have := congrArg List.length (hs_full i); simpa [hsOf] using this

theorem low_gap (n p : Nat) (hp : p < n) : lowOf ((List.range n).filter fun x => decide (x ≠ p)) = p := by
  refine lowOf_eq (by simp) (fun j hj => ?_)
  simp only [List.mem_filter, List.mem_range, decide_eq_true_eq]
  omega

set_option maxRecDepth 100000 in
set_option maxHeartbeats 3200000 in
theorem heapFulls_in (n p : Nat) (hn : 1000 ≤ n) (hn2 : n ≤ 1040) (hp : p < 1000) (w : World) (hT : Tab w) :
    Calls Tryd.prog 5 #[.int .i64 n, .int .i64 p] w fun e w' => e = .returned (.bool true) ∧ Below w.heap.size w w' := by
  have e1 : (1000 : Int) ≤ (n : Int) := by omega
  have e2 : (n : Int) ≤ 1040 := by omega
  have e3 : (p : Int) < 1000 := by omega
  have e4 : (0 : Int) ≤ (p : Int) := by omega
  go_enter Tryd.func5, Tryd.ntmps5
  go_wp2_with (first | (go_at_call 9; fail))
  refine (new_in w w (fun _ => False) (fun _ h => h.elim) (Below.refl _ _)).mono ?_
  rintro e w1 ⟨a, rfl, H1, _⟩
  unfold pt
  go_wp2_with fail
  go_loopw [6] (fun i wr => ∃ k : Nat, k ≤ n ∧ i = .int .i64 k ∧ HeapIn w (fun _ => False) wr a (fullS k) k) (fun i _ => n - (intOf i).toNat)
  case atStart => exact ⟨0, by omega, rfl, H1⟩
  case round =>
    obtain ⟨k, hk, rfl, H⟩ := hrel
    have e5 : (0 : Int) ≤ (k : Int) := by omega
    have e6 : (k : Int) ≤ 1040 := by omega
    by_cases hlt : k < n
    · have e7 : (k : Int) < (n : Int) := by omega
      have e8 : (k : Int) % 7 = ((k % 7 : Nat) : Int) := by omega
      have e9 : (0 : Int) ≤ (k : Int) % 7 := by omega
      have e10 : (k : Int) % 7 < 7 := by omega
      have ew : IntKind.u64.wrap ((k : Int) % 7) = (k : Int) % 7 := by rw [IntKind.wrap_u64]; omega
      have hlen := len_full k
      by_cases hk2 : k < 1024
      · have hpush := push_in H ((k % 7 : Nat) : Int) k (by omega) hT (by omega)
        rw [hs_full, Nat.min_eq_left (by omega), low_range] at hpush
        have hfs : pushS (fullS k) ((k % 7 : Nat) : Int) k = fullS (k + 1) := by conv => rhs; unfold fullS; rw [if_pos hk2]
        rw [hfs, ← e8] at hpush
        have HP := Lib.hid hpush
        have e11 : (k : Int) < 1024 := by omega
        have e12 : ((k : Int) != (k : Int)) = false := by simp
        clear hpush H hfs hlen e8
        unfold pt at *
        go_wp2_with (go_at_call 16; refine HP.out.mono ?_; rintro e w2 ⟨rfl, H2, _⟩)
        go_roundw
        case rel => exact ⟨k + 1, by omega, by go_num, H2⟩
        case measure => simp [intOf]; omega
      · have hpush := push_full_in H ((k % 7 : Nat) : Int) k (by omega) hT
        have hfs : fullS k = fullS (k + 1) := by conv => rhs; unfold fullS; rw [if_neg hk2]
        rw [hfs, ← e8] at hpush
        have HP := Lib.hid hpush
        have e11 : (1024 : Int) ≤ (k : Int) := by omega
        clear hpush H hfs hlen e8
        unfold pt at *
        go_wp2_with (go_at_call 16; refine HP.out.mono ?_; rintro e w2 ⟨rfl, H2, _⟩)
        go_roundw
        case rel => exact ⟨k + 1, by omega, by go_num, H2.mono (by omega)⟩
        case measure => simp [intOf]; omega
    · obtain rfl : k = n := by omega
      have hl := len_in H
      rw [len_full] at hl
      have hm : (((min k 1024 : Nat) : Int) != min (k : Int) 1024) = false := by simp; omega
      have hr := remove_yes_in H p (by rw [hs_full]; simp; omega)
      have HL := Lib.hid hl
      have HR := Lib.hid hr
      clear hl hr
      unfold pt at *
      have e13 : ((p : Int) == (p : Int)) = true := by simp
      go_wp2_with (first | (go_at_call 17; refine HL.out.mono ?_; rintro e w' ⟨rfl, rfl⟩) | (go_at_call 18; refine HR.out.mono ?_; rintro e w2 ⟨rfl, H2, _⟩) | (go_at_call 16; fail))
      have hhs : hsOf (removeS (fullS k) p) = (List.range (min k 1024)).filter fun x => decide (x ≠ p) := by rw [hs_remove, hs_full]
      have hsl : (removeS (fullS k) p).length < 1024 := by
        have h1 : (removeS (fullS k) p).length = ((List.range (min k 1024)).filter fun x => decide (x ≠ p)).length := by rw [← hhs]; simp [hsOf]
        have h2 : ((List.range (min k 1024)).filter fun x => decide (x ≠ p)).length < (List.range (min k 1024)).length := List.length_filter_lt_length_iff_exists.2 ⟨p, by simp; omega, by simp⟩
        rw [List.length_range] at h2
        omega
      have hp2 := push_in H2 9 9 hsl hT (by omega)
      rw [hhs, low_gap _ _ (by omega)] at hp2
      unfold pt at hp2
      refine hp2.mono ?_
      rintro e w3 ⟨rfl, H3, _⟩
      go_wp2_with (first | (go_at_call 8; fail))
      refine (known_any _ (hT.below H3.below hT.lt)).mono ?_
      rintro e w4 ⟨rfl, hb⟩
      go_wp2_with fail
      go_ret
      exact ⟨rfl, H3.below.trans (hb.mono H3.below.size)⟩

set_option maxRecDepth 100000 in
set_option maxHeartbeats 1600000 in
theorem heapFulls_out (n p : Int) (h : n < 1000 ∨ 1040 < n ∨ p < 0 ∨ 1000 ≤ p) (w : World) (hT : Tab w) :
    Calls Tryd.prog 5 #[.int .i64 n, .int .i64 p] w fun e w' => e = .returned (.bool true) ∧ Below w.heap.size w w' := by
  have hk := Lib.hid (known_any w hT)
  by_cases h1 : n < 1000
  · go_enter Tryd.func5, Tryd.ntmps5
    go_wp2_with (go_at_call 8; refine hk.out.mono ?_; rintro e w1 ⟨rfl, hb⟩)
    go_ret
    exact ⟨rfl, hb⟩
  · have f1 : 1000 ≤ n := by omega
    by_cases h2 : 1040 < n
    · go_enter Tryd.func5, Tryd.ntmps5
      go_wp2_with (go_at_call 8; refine hk.out.mono ?_; rintro e w1 ⟨rfl, hb⟩)
      go_ret
      exact ⟨rfl, hb⟩
    · have f2 : n ≤ 1040 := by omega
      by_cases h3 : p < 0
      · go_enter Tryd.func5, Tryd.ntmps5
        go_wp2_with (go_at_call 8; refine hk.out.mono ?_; rintro e w1 ⟨rfl, hb⟩)
        go_ret
        exact ⟨rfl, hb⟩
      · have f3 : 0 ≤ p := by omega
        have f4 : 1000 ≤ p := by omega
        go_enter Tryd.func5, Tryd.ntmps5
        go_wp2_with (go_at_call 8; refine hk.out.mono ?_; rintro e w1 ⟨rfl, hb⟩)
        go_ret
        exact ⟨rfl, hb⟩

theorem heapFulls_walk (n p : Int) (w : World) (hn : (Lit.int .i64 n).wf = true) (hp : (Lit.int .i64 p).wf = true) (hT : Tab w) :
    Calls Tryd.prog 5 #[.int .i64 n, .int .i64 p] w fun e w' => e = .returned (.bool true) ∧ Below w.heap.size w w' := by
  by_cases h : n < 1000 ∨ 1040 < n ∨ p < 0 ∨ 1000 ≤ p
  · exact heapFulls_out n p h w hT
  · obtain ⟨a, rfl⟩ : ∃ a : Nat, n = a := ⟨n.toNat, by omega⟩
    obtain ⟨b, rfl⟩ : ∃ b : Nat, p = b := ⟨p.toNat, by omega⟩
    exact heapFulls_in a b (by omega) (by omega) (by omega) w hT
end Go.Proofs.YtemjdfmbeahieaaDoor
