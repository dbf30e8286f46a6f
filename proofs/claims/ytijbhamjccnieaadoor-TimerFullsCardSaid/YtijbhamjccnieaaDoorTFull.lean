/- The walk of TimerFulls. -/
import Derived.Test.YtijbhamjccnieaaDoorTKnown
import Derived.BigQuiet
namespace Go.Proofs.YtijbhamjccnieaaDoor
open Go.RowKit Go.Sort
set_option linter.unusedVariables false
set_option linter.unusedSimpArgs false

def fullT : Nat → List El
  | 0 => []
  | i + 1 => if i < 1024 then pushS (fullT i) ((i % 5 : Nat) : Int) i else fullT i

theorem low_range (n : Nat) : lowOf (List.range n) = n := lowOf_eq (by simp) (fun j hj => by simpa using hj)
theorem hs_fullT : ∀ i, hsOf (fullT i) = List.range (min i 1024)
  | 0 => rfl
  | i + 1 => by
    unfold fullT
    by_cases h : i < 1024
    · rw [if_pos h, hs_push, hs_fullT i, low_range, Nat.min_eq_left (by omega), Nat.min_eq_left (by omega), List.range_succ]
    · rw [if_neg h, hs_fullT i, Nat.min_eq_right (by omega), Nat.min_eq_right (by omega)]
theorem len_fullT (i : Nat) : (fullT i).length = min i 1024 := by have := congrArg List.length (hs_fullT i); simpa [hsOf] using this
theorem low_gap (n p : Nat) (hp : p < n) : lowOf ((List.range n).filter fun x => decide (x ≠ p)) = p := by
  refine lowOf_eq (by simp) (fun j hj => ?_)
  simp only [List.mem_filter, List.mem_range, decide_eq_true_eq]
  omega
def gsT (i : Nat) : List Nat := List.replicate (min i 1024) 0
theorem gsT_get (i x : Nat) : (gsT i).getD x 0 = 0 := by
  unfold gsT
  simp only [List.getD_eq_getElem?_getD, List.getElem?_replicate]
  split <;> rfl
theorem gsT_set (i : Nat) (h : i < 1024) : setG (gsT i) i = gsT (i + 1) := by
  unfold setG gsT
  rw [if_pos (by rw [List.length_replicate]; omega), Nat.min_eq_left (by omega), Nat.min_eq_left (by omega), List.replicate_succ']

set_option maxRecDepth 100000 in
set_option maxHeartbeats 3200000 in
theorem timerFulls_in (n p : Nat) (hn : 1000 ≤ n) (hn2 : n ≤ 1040) (hp : p < 1000) (w : World) (hT : Tab w) :
    Calls Tryd.prog 5 #[.int .i64 n, .int .i64 p] w fun e w' => e = .returned (.bool true) ∧ Below w.heap.size w w' := by
  have e1 : (1000 : Int) ≤ (n : Int) := by omega
  have e2 : (n : Int) ≤ 1040 := by omega
  have e3 : (p : Int) < 1000 := by omega
  have e4 : (0 : Int) ≤ (p : Int) := by omega
  have b1 : decide ((n : Int) < 1000) = false := by simp; omega
  have b2 : decide (1040 < (n : Int)) = false := by simp; omega
  have b3 : decide ((p : Int) < 0) = false := by simp
  have b4 : decide (1000 ≤ (p : Int)) = false := by simp; omega
  have hid := Lib.hid tid_any
  have mixed : Tryd.prog.follows .mixedOrders = true := by kernel_rfl
  go_enter Tryd.func5, Tryd.ntmps5
  go_wp2_with (first | (go_at_call 18; fail))
  refine (tnew_in w w (fun _ => False) (fun _ h => h.elim) (Below.refl _ _)).mono ?_
  rintro e w1 ⟨a, rfl, H1, _⟩
  unfold pt
  go_wp2_with fail
  go_loopw [6] (fun i wr => ∃ k : Nat, k ≤ n ∧ i = .int .i64 k ∧ TmIn w (fun _ => False) wr a (fullT k) (gsT k) k) (fun i _ => n - (intOf i).toNat)
  case atStart => exact ⟨0, by omega, rfl, H1⟩
  case round =>
    obtain ⟨k, hk, rfl, H⟩ := hrel
    have e5 : (0 : Int) ≤ (k : Int) := by omega
    have e6 : (k : Int) ≤ 1040 := by omega
    by_cases hlt : k < n
    · have e7 : (k : Int) < (n : Int) := by omega
      have e8 : (k : Int) % 5 = ((k % 5 : Nat) : Int) := by omega
      have e9 : (0 : Int) ≤ (k : Int) % 5 := by omega
      have e10 : (k : Int) % 5 < 5 := by omega
      have ew : IntKind.u64.wrap ((k : Int) % 5) = (k : Int) % 5 := by rw [IntKind.wrap_u64]; omega
      have hlen := len_fullT k
      by_cases hk2 : k < 1024
      · have hset := tset_any H ((k % 5 : Nat) : Int) k (by unfold never; omega) (by omega) hT (by omega)
        rw [hs_fullT, Nat.min_eq_left (by omega), low_range, gsT_get, gsT_set k hk2] at hset
        have hfs : pushS (fullT k) ((k % 5 : Nat) : Int) k = fullT (k + 1) := by conv => rhs; unfold fullT; rw [if_pos hk2]
        rw [hfs, ← e8] at hset
        have HP := Lib.hid hset
        have e11 : (k : Int) < 1024 := by omega
        have e12 : decide ((1024 : Int) ≤ (k : Int)) = false := by simp; omega
        clear hset H hfs hlen e8
        unfold pt at *
        go_wp2_with (go_at_call 25; refine HP.out.mono ?_; rintro e w2 ⟨rfl, H2, _⟩)
        have HV := Lib.hid (H2.alloc (.cells #[.int .i64 k, .int .i64 0] 53))
        have r0 := cell_new w2 #[.int .i64 k, .int .i64 0] 53 _ 0 _ rfl rfl
        have r1 := cell_new w2 #[.int .i64 k, .int .i64 0] 53 _ 1 _ rfl rfl
        have hvl : w2.heap.size < (w2.alloc (.cells #[.int .i64 k, .int .i64 0] 53)).heap.size := by simp
        obtain ⟨V, hV⟩ : ∃ V, w2.alloc (.cells #[.int .i64 k, .int .i64 0] 53) = V := ⟨_, rfl⟩
        have hbV := Lib.hid (fun (m : Nat) os => ((Grn.of ((Below.refl w2.heap.size w2).alloc (Nat.le_refl _) (.cells #[.int .i64 k, .int .i64 0] 53)) (Nat.le_refl _)).trans (⟨m, os, rfl⟩ : Grn _ (grow ((w2.alloc (.cells #[.int .i64 k, .int .i64 0] 53)).drewN m) os))).below)
        rw [hV] at HV r0 r1 hvl hbV ⊢
        have R0 := cell_grn (w := V) (a := ⟨w2.heap.size, 0, none⟩) hvl r0
        have R1 := cell_grn (w := V) (a := ⟨w2.heap.size, 1, none⟩) hvl r1
        have HH := Lib.hid H2
        have q1 : ((k : Int) == (k : Int)) = true := by simp
        clear r0 r1 hV H2
        refine wp_region_quiet_grown mixed (by kernel_rfl) ?_
        repeat (go_big_quiet_step ((go_at_call 26; refine Calls.grown_of (hid.out _ _ _))))
        refine wpQuiet_nil ?_
        intro _ hw'
        obtain ⟨⟨nq, osq⟩, hw''⟩ := hw'
        subst hw''
        go_wp2_with fail
        go_roundw
        case rel => exact ⟨k + 1, by omega, by go_num, HH.out.grown (hbV.out _ _)⟩
        case measure => simp [intOf]; omega
      · have hset := tset_full H ((k % 5 : Nat) : Int) k (by unfold never; omega) (by omega) hT
        have hfs : fullT k = fullT (k + 1) := by conv => rhs; unfold fullT; rw [if_neg hk2]
        have hgs : gsT k = gsT (k + 1) := by unfold gsT; rw [Nat.min_eq_right (by omega), Nat.min_eq_right (by omega)]
        rw [← e8] at hset
        have HP := Lib.hid hset
        have HH := Lib.hid H
        rw [hfs, hgs] at HH
        have e11 : (1024 : Int) ≤ (k : Int) := by omega
        have e12 : decide ((k : Int) < 1024) = false := by simp; omega
        have e13 : decide ((1024 : Int) ≤ (k : Int)) = true := by simp; omega
        clear hset H hfs hgs hlen e8
        unfold pt at *
        go_wp2_with (go_at_call 25; refine HP.out.mono ?_; rintro e w2 ⟨rfl, hg2⟩)
        have r0 := cell_new w2 #[.int .i64 0, .int .i64 0] 53 _ 0 _ rfl rfl
        have r1 := cell_new w2 #[.int .i64 0, .int .i64 0] 53 _ 1 _ rfl rfl
        have hvl : w2.heap.size < (w2.alloc (.cells #[.int .i64 0, .int .i64 0] 53)).heap.size := by simp
        have hgV := hg2.alloc (.cells #[.int .i64 0, .int .i64 0] 53)
        generalize w2.alloc (.cells #[.int .i64 0, .int .i64 0] 53) = V at *
        have R0 := cell_grn (w := V) (a := ⟨w2.heap.size, 0, none⟩) hvl r0
        have R1 := cell_grn (w := V) (a := ⟨w2.heap.size, 1, none⟩) hvl r1
        have HgV := Lib.hid hgV
        clear r0 r1 hg2 hgV
        refine wp_region_quiet_grown mixed (by kernel_rfl) ?_
        repeat (go_big_quiet_step ((go_at_call 26; refine Calls.grown_of (hid.out _ _ _))))
        refine wpQuiet_nil ?_
        intro _ hw'
        obtain ⟨⟨nq, osq⟩, hw''⟩ := hw'
        subst hw''
        go_wp2_with fail
        go_roundw
        case rel => exact ⟨k + 1, by omega, by go_num, (HH.out.mono (by omega)).grown (HgV.out.trans ⟨_, _, rfl⟩).below⟩
        case measure => simp [intOf]; omega
    · obtain rfl : k = n := by omega
      have hl := tlen_in H
      rw [len_fullT] at hl
      have hmem : p ∈ hsOf (fullT k) := by rw [hs_fullT]; simp; omega
      obtain ⟨e, he, hep⟩ := El_of hmem
      have hgl : (gsT k).length = min k 1024 := by unfold gsT; simp
      have hhs : hsOf (removeS (fullT k) p) = (List.range (min k 1024)).filter fun x => decide (x ≠ p) := by rw [hs_remove, hs_fullT]
      have hlow : Hid (lowOf (hsOf (removeS (fullT k) p)) = p) := Lib.hid (by rw [hhs, low_gap _ _ (by omega)])
      have hsl : (removeS (fullT k) p).length < 1024 := by
        have h1 : (removeS (fullT k) p).length = ((List.range (min k 1024)).filter fun x => decide (x ≠ p)).length := by rw [← hhs]; simp [hsOf]
        have h2 : ((List.range (min k 1024)).filter fun x => decide (x ≠ p)).length < (List.range (min k 1024)).length := List.length_filter_lt_length_iff_exists.2 ⟨p, by simp; omega, by simp⟩
        rw [List.length_range] at h2
        omega
      have hb1 : Hid ((bump (gsT k) p).getD p 0 = 1) := Lib.hid (by rw [bump_get _ _ _ (by omega), gsT_get, if_pos rfl])
      have hb2 : Hid (setG (bump (gsT k) p) p = bump (gsT k) p) := Lib.hid (by unfold setG; rw [if_neg (by rw [bump_len]; omega)])
      have Hsl := Lib.hid hsl
      have HH := Lib.hid H
      have He := Lib.hid he
      have Hep := Lib.hid hep
      clear H he hep hmem hgl hhs hsl hk hlt
      unfold pt at *
      rcases (by omega : (min k 1024 = k ∧ (k : Int) ≤ 1024) ∨ (min k 1024 = 1024 ∧ (1024 : Int) < k)) with ⟨hm, hm2⟩ | ⟨hm, hm2⟩
      all_goals rw [hm] at hl
      all_goals clear hm
      all_goals have HL := Lib.hid hl
      all_goals clear hl
      all_goals (
        go_wp2_with (first | (go_at_call 20; refine HL.out.mono ?_; rintro e' w' ⟨rfl, rfl⟩) | (go_at_call 26; refine (hid.out _ _ _).mono ?_; rintro e' w2 ⟨rfl, g2⟩) | (go_at_call 27; fail))
        have hst := tstop_yes (HH.out.grown g2.below) e He.out (by omega)
        rw [gsT_get, Hep.out] at hst
        refine hst.mono ?_
        rintro e' w3 ⟨rfl, T3, _⟩
        clear hst g2
        go_wp2_with (first | (go_at_call 26; refine (hid.out _ _ _).mono ?_; rintro e' w4 ⟨rfl, g4⟩) | (go_at_call 28; fail))
        refine (tsets_in (T3.grown g4.below) 1 1 (by decide) Hsl.out hT (by omega) p 1 hlow.out hb1.out).mono ?_
        rintro e' w5 ⟨rfl, T5, _⟩
        rw [hb2.out] at T5
        clear T3 g4
        go_wp2_with (first | (go_at_call 26; refine (hid.out _ _ _).mono ?_; rintro e' w6 ⟨rfl, g6⟩) | (go_at_call 27; fail))
        refine (tstop_no (T5.grown g6.below) p 0 (fun ⟨x, hx, _, hg⟩ => by
          have hxp : x = p := by omega
          rw [hxp, hb1.out] at hg
          omega)).mono ?_
        rintro e' w7 ⟨rfl, g7⟩
        have T7 := Lib.hid ((T5.grown g6.below).grown g7.below)
        clear T5 g6 g7
        have hkn := Lib.hid (tknown_any w7 (hT.below T7.out.below hT.lt))
        go_wp2_with (go_at_call 17; refine hkn.out.mono ?_; rintro e' w8 ⟨rfl, h8⟩)
        go_ret
        exact ⟨rfl, T7.out.below.trans (h8.mono T7.out.below.size)⟩)

set_option maxRecDepth 100000 in
set_option maxHeartbeats 1600000 in
theorem timerFulls_out (n p : Int) (h : n < 1000 ∨ 1040 < n ∨ p < 0 ∨ 1000 ≤ p) (w : World) (hT : Tab w) :
    Calls Tryd.prog 5 #[.int .i64 n, .int .i64 p] w fun e w' => e = .returned (.bool true) ∧ Below w.heap.size w w' := by
  have hk := Lib.hid (tknown_any w hT)
  by_cases h1 : n < 1000
  · go_enter Tryd.func5, Tryd.ntmps5
    go_wp2_with (go_at_call 17; refine hk.out.mono ?_; rintro e w1 ⟨rfl, hb⟩)
    go_ret
    exact ⟨rfl, hb⟩
  · have f1 : 1000 ≤ n := by omega
    by_cases h2 : 1040 < n
    · go_enter Tryd.func5, Tryd.ntmps5
      go_wp2_with (go_at_call 17; refine hk.out.mono ?_; rintro e w1 ⟨rfl, hb⟩)
      go_ret
      exact ⟨rfl, hb⟩
    · have f2 : n ≤ 1040 := by omega
      by_cases h3 : p < 0
      · go_enter Tryd.func5, Tryd.ntmps5
        go_wp2_with (go_at_call 17; refine hk.out.mono ?_; rintro e w1 ⟨rfl, hb⟩)
        go_ret
        exact ⟨rfl, hb⟩
      · have f3 : 0 ≤ p := by omega
        have f4 : 1000 ≤ p := by omega
        go_enter Tryd.func5, Tryd.ntmps5
        go_wp2_with (go_at_call 17; refine hk.out.mono ?_; rintro e w1 ⟨rfl, hb⟩)
        go_ret
        exact ⟨rfl, hb⟩

theorem timerFulls_walk (n p : Int) (w : World) (hn : (Lit.int .i64 n).wf = true) (hp : (Lit.int .i64 p).wf = true) (hT : Tab w) :
    Calls Tryd.prog 5 #[.int .i64 n, .int .i64 p] w fun e w' => e = .returned (.bool true) ∧ Below w.heap.size w w' := by
  by_cases h : n < 1000 ∨ 1040 < n ∨ p < 0 ∨ 1000 ≤ p
  · exact timerFulls_out n p h w hT
  · obtain ⟨a, rfl⟩ : ∃ a : Nat, n = a := ⟨n.toNat, by omega⟩
    obtain ⟨b, rfl⟩ : ∃ b : Nat, p = b := ⟨p.toNat, by omega⟩
    exact timerFulls_in a b (by omega) (by omega) (by omega) w hT
end Go.Proofs.YtijbhamjccnieaaDoor
