/- The walk of PollerFulls. -/
import Derived.Test.YtdbkbaealfcmoaaGreatDoorUKnown
namespace Go.Proofs.YtdbkbaealfcmoaaGreatDoor
open Go.RowKit Go.Sort
set_option linter.unusedVariables false
set_option linter.unusedSimpArgs false
theorem mix_drop {P : Program} {ops : Array Oper} {Q : Exit → Act → World → Prop} {S : World → Prop} {K : Act → World → Prop} {l : List (Bool × Oper)} {o : Oper} {a : Act} {w : World} (hS : S w) (hw : Region.wanted o (yielded ops a.tmps) = false) (h : wpMix P ops Q S K l (a.put o.dst undef) w) : wpMix P ops Q S K ((true, o) :: l) a w := ⟨hS, undef, .inr ⟨hw, rfl⟩, h⟩
/-- The table with k descriptors. -/
def fT (k : Nat) : Sl.Tab := (List.range 128).map fun i => if i < k then ⟨true, 0, ((i : Nat) : Int)⟩ else ⟨false, 0, 0⟩
theorem fT_len (k : Nat) : (fT k).length = 128 := by simp [fT]
theorem fT_at (k i : Nat) (h : i < 128) : (fT k)[i]? = some (if i < k then ⟨true, 0, ((i : Nat) : Int)⟩ else ⟨false, 0, 0⟩) := by
  simp [fT, h]
theorem free_of {T : Sl.Tab} {n : Nat} (hn : n < T.length) (h1 : ∀ p, T[n]? = some p → p.o = false) (h2 : ∀ j, j < n → ∀ p, T[j]? = some p → p.o = true) : Sl.free T = n := by
  unfold Sl.free
  rw [List.findIdx_eq hn]
  refine ⟨by have := h1 _ (List.getElem?_eq_getElem hn); simp [this], fun j hj => ?_⟩
  have := h2 j hj _ (List.getElem?_eq_getElem (Nat.lt_trans hj hn))
  simp [this]
theorem fT_free {k : Nat} (h : k < 128) : Sl.free (fT k) = k := free_of (by rw [fT_len]; exact h)
  (fun p hp => by rw [fT_at k k h] at hp; simp at hp; rw [← hp]) (fun j hj p hp => by rw [fT_at k j (by omega)] at hp; simp [hj] at hp; rw [← hp])
theorem fT_set {k : Nat} (h : k < 128) : (fT k).set k ⟨true, 0, ((k : Nat) : Int)⟩ = fT (k + 1) := by
  refine List.ext_getElem? fun i => ?_
  by_cases hi : i < 128
  · rw [fT_at (k + 1) i hi, List.getElem?_set]
    by_cases e : k = i
    · subst e; simp [fT_len, h]
    · rw [if_neg e, fT_at k i hi]
      by_cases h2 : i < k
      · simp [h2, Nat.lt_succ_of_lt h2]
      · have : ¬ i < k + 1 := by omega
        simp [h2, this]
  · rw [List.getElem?_eq_none (by rw [List.length_set, fT_len]; omega), List.getElem?_eq_none (by rw [fT_len]; omega)]
def pxF (k : Nat) : Px := { X0 1 0 with T := fT k }
theorem pxF_0 : X0 1 0 = pxF 0 := by unfold pxF; rw [show fT 0 = (X0 1 0).T by kernel_rfl]
theorem pxF_open {k : Nat} (h : k < 128) : opnC (pxF k) ((k : Nat) : Int) = ((((k : Nat) : Int), 0), 0, pxF (k + 1)) := by
  have e : (pxF k).T = fT k := rfl
  unfold opnC
  rw [e, fT_free h, fT_at k k h]
  simp only [Nat.lt_irrefl, if_false]
  rw [fT_set h]
  rfl
theorem fT_full : Sl.free (fT 128) = 128 := by kernel_rfl
theorem pxF_full (y : Int) : opnC (pxF 128) y = ((0, 0), 7, pxF 128) := by
  have e : (pxF 128).T = fT 128 := rfl
  unfold opnC
  rw [e, fT_full, List.getElem?_eq_none (by rw [fT_len]; exact Nat.le_refl _)]
/-- One is closed. -/
def pxC (k n : Nat) : Px := { X0 1 0 with T := (fT k).set n ⟨false, 1, 0⟩, f := Dl.clear (fun _ => Dl.never) n }
theorem wka_0 {n : Nat} (h : n < 128) (D : Int) (hD : D = 0 ∨ D = 1) : wkaC (Z0 1) (((n : Nat) : Int), D) = ([], 0, Z0 1) := by
  have hs : SpOk (((n : Nat) : Int), D) := ⟨by show (0 : Int) ≤ ((n : Nat) : Int); omega, by show ((n : Nat) : Int) ≤ 127; omega, hD⟩
  unfold wkaC
  rw [if_pos hs]
  rfl
theorem pxF_close {k n : Nat} (hk : n < k) (h : n < 128) : cloC (pxF k) ((n : Nat) : Int) 0 = ([], 0, pxC k n) := by
  have e : (pxF k).T = fT k := rfl
  have hf : fdI (fT k) ((n : Nat) : Int) 0 = some (n, ⟨true, 0, ((n : Nat) : Int)⟩) := by
    have := fdI_at (T := fT k) (n := n) (p := ⟨true, 0, ((n : Nat) : Int)⟩) (by rw [fT_at k n h, if_pos hk]) rfl
    exact this
  have hz : ((pxF k).shut n ⟨true, 0, ((n : Nat) : Int)⟩).z = Z0 1 := rfl
  unfold cloC
  rw [e, hf]
  simp only [Px.wake, hz, wka_0 h 0 (.inl rfl), wka_0 h 1 (.inr rfl)]
  rfl
theorem pxC_open {k n : Nat} (hk : n < k) (h : n < 128) : ∃ x', opnC (pxC k n) 5 = ((((n : Nat) : Int), 1), 0, x') := by
  have e : (pxC k n).T = (fT k).set n ⟨false, 1, 0⟩ := rfl
  have hfr : Sl.free ((fT k).set n ⟨false, 1, 0⟩) = n := free_of (by rw [List.length_set, fT_len]; exact h)
    (fun p hp => by rw [List.getElem?_set_self (by rw [fT_len]; exact h)] at hp; simp at hp; rw [← hp])
    (fun j hj p hp => by rw [List.getElem?_set_ne (by omega), fT_at k j (by omega)] at hp; simp [Nat.lt_trans hj hk] at hp; rw [← hp])
  have h1 : (opnC (pxC k n) 5).1 = (((n : Nat) : Int), 1) ∧ (opnC (pxC k n) 5).2.1 = 0 := by
    unfold opnC
    rw [e, hfr, List.getElem?_set_self (by rw [fT_len]; exact h)]
    exact ⟨rfl, rfl⟩
  exact ⟨(opnC (pxC k n) 5).2.2, Prod.ext h1.1 (Prod.ext h1.2 rfl)⟩
theorem pxF_gen (k : Nat) : ∀ (n : Nat) (q : Sl.Pl), (pxF k).T[n]? = some q → q.g ≤ 1000000 := by
  intro n q hq
  have e : (pxF k).T = fT k := rfl
  rw [e] at hq
  have hn : n < 128 := by rw [← fT_len k]; exact (List.getElem?_eq_some_iff.1 hq).1
  rw [fT_at k n hn] at hq
  split at hq <;> (simp at hq; rw [← hq]; show (0 : Nat) ≤ 1000000; omega)
set_option maxRecDepth 100000 in
set_option maxHeartbeats 12800000 in
theorem pollerFulls_walk (many n : Int) (w : World) (h1 : (Lit.int .i64 many).wf = true) (h2 : (Lit.int .i64 n).wf = true) (hL : MvAt w ∧ Dl.Tab w) :
    Calls Tryz.prog 4 #[.int .i64 many, .int .i64 n] w fun e w' => e = .returned (.bool true) ∧ Below w.heap.size w w' := by
  clear h1 h2
  have HK := Lib.hid (known_yes w hL.1 hL.2)
  have HT := Lib.hid hL.2
  by_cases hin : 120 ≤ many ∧ many ≤ 140 ∧ 0 ≤ n ∧ n < 120
  · obtain ⟨a1, a2, a3, a4⟩ := hin
    have HN := Lib.hid (ls_new (w0 := w) (Bs := fun _ => False) (Below.refl _ w) hL.1 hL.1.lt (fun k hk => hk.elim) 1 (by omega) (by omega) (nw := 0) (by unfold Dl.never; omega))
    have HM := Lib.hid hL
    obtain ⟨m, rfl⟩ : ∃ m : Nat, many = ((m : Nat) : Int) := ⟨many.toNat, by omega⟩
    obtain ⟨r, rfl⟩ : ∃ r : Nat, n = ((r : Nat) : Int) := ⟨n.toNat, by omega⟩
    have HB := Lib.hid (And.intro a1 (And.intro a2 (And.intro a3 a4)))
    have d1 : decide (((m : Nat) : Int) < 120) = false := by simp; omega
    have d2 : decide (140 < ((m : Nat) : Int)) = false := by simp; omega
    have d3 : decide (((r : Nat) : Int) < 0) = false := by simp
    have d4 : decide (120 ≤ ((r : Nat) : Int)) = false := by simp; omega
    clear hL
    go_enter Tryz.func4, Tryz.ntmps4
    go_wp2_with (go_at_call 9; fail)
    refine HN.out.mono ?_
    rintro e w1 ⟨p, rfl, hl, hb⟩
    have HL0 : Hid (LSt w w1 (fun _ => False) p (pxF 0) 0 0) := Lib.hid (by rw [← pxF_0]; exact hl)
    clear hl hb d1 d2 d3 d4
    go_wp2_with fail
    go_loopw [7] (fun i wr => ∃ k : Nat, k ≤ m ∧ i = .int .i64 ((k : Nat) : Int) ∧ Hid (LSt w wr (fun _ => False) p (pxF (min k 128)) 0 0)) (fun i _ => m - (intOf i).toNat)
    case atStart => exact ⟨0, Nat.zero_le _, rfl, HL0⟩
    case round =>
      obtain ⟨k, hk, rfl, HL⟩ := hrel
      clear HL0
      by_cases hlt : k < m
      · have q3 : (k : Int) < (m : Int) := by omega
        have hmI : (m : Int) ≤ 140 := HB.out.2.1
        by_cases h128 : k < 128
        · have q4 : (k : Int) < 128 := by omega
          have hm : min k 128 = k := by omega
          have hm2 : min (k + 1) 128 = k + 1 := by omega
          rw [hm] at HL
          have q := ls_open HL.out ((k : Nat) : Int)
          rw [pxF_open h128] at q
          simp only at q
          have HC := Lib.hid q
          have HM2 := Lib.hid hm2
          clear q hm hm2
          go_wp2_with (go_at_call 13; fail)
          refine HC.out.mono ?_
          rintro e v1 ⟨rfl, hp⟩
          obtain ⟨v2, hW2, hg2, hs2, hb2⟩ := alloc1 v1 (.cells #[.int .i64 ((k : Nat) : Int), .int .i64 0] 47)
          have HW2 := Lib.hid hW2
          have HL2 : Hid (LSt w v2 (fun _ => False) p (pxF (k + 1)) 0 0) := Lib.hid (hp.st.grown hg2.below)
          have HA := Lib.hid hb2
          clear hp hW2 hg2 hs2 hb2 HC HL
          go_upto_region 10 with (fail)
          rw [HW2.out]
          obtain ⟨bx, hbx⟩ : ∃ b, b = v1.heap.size := ⟨_, rfl⟩
          rw [← hbx]
          rw [← hbx] at HA
          clear hbx HW2
          refine wp_region_mix (fun W' => W'.heap[bx]? = some (.cells #[.int .i64 ((k : Nat) : Int), .int .i64 0] 47 (0, 0))) 24 [(true, 0), (true, 1), (true, 2), (true, 3), (true, 4), (false, 5), (true, 6), (true, 7), (true, 8), (true, 9), (true, 10), (true, 11), (true, 12), (true, 13), (true, 14), (true, 15), (true, 16), (false, 17), (true, 18), (true, 19), (true, 20), (true, 21), (true, 22), (true, 23)] (by kernel_rfl) (by kernel_rfl) (fun _ _ _ d _ h => by cases d <;> exact h) ?_
          have HD : Hid (Below v2.heap.size v2 v2.drew) := Lib.hid ((Grn.refl v2).drew 1).below
          have HS : Hid (v2.drew.heap[bx]? = some (.cells #[.int .i64 ((k : Nat) : Int), .int .i64 0] 47 (0, 0))) := Lib.hid ((HD.out.block _ (lt_of_block HA.out)).trans HA.out)
          simp only [List.map_cons, List.map_nil, List.getD_cons_zero, List.getD_cons_succ, List.drop_succ_cons, List.drop_zero]
          generalize v2.drew = V at *
          have HL3 := Lib.hid (HL2.out.grown HD.out)
          refine mix_move (.tmp 7) (.int .i64 ((k : Nat) : Int)) rfl HS.out rfl rfl ?_
          simp only [Act.put, List.setIfInBounds_toArray, List.set_cons_zero, List.set_cons_succ]
          refine mix_take (.bool true) HS.out rfl (fun W' hS => by
            go_simp) ?_
          simp only [Act.put, List.setIfInBounds_toArray, List.set_cons_zero, List.set_cons_succ]
          refine mix_move (.tmp 48) (.bool true) rfl HS.out rfl rfl ?_
          simp only [Act.put, List.setIfInBounds_toArray, List.set_cons_zero, List.set_cons_succ]
          refine mix_take (.agg #[(.int .i64 ((k : Nat) : Int)), (.int .i64 0)]) HS.out rfl (fun W' hS => by
            have e1 := hS
            obtain ⟨l0, l1⟩ := two e1
            go_simp) ?_
          simp only [Act.put, List.setIfInBounds_toArray, List.set_cons_zero, List.set_cons_succ]
          refine mix_move (.tmp 7) (.int .i64 ((k : Nat) : Int)) rfl HS.out rfl rfl ?_
          simp only [Act.put, List.setIfInBounds_toArray, List.set_cons_zero, List.set_cons_succ]
          refine mix_step rfl (fun K5 hK => ?_)
          go_simp
          go_wp2_with (go_at_call 14; fail)
          refine (fd_any V ((k : Nat) : Int) 0).mono ?_
          rintro e v3 ⟨rfl, hb2⟩
          have HL4 := Lib.hid (HL3.out.grown hb2)
          have HS1 := Lib.hid ((hb2.block _ (lt_of_block HS.out)).trans HS.out)
          clear hb2
          refine hK _ _ HS1.out ?_
          clear hK K5
          refine mix_take (.bool false) HS1.out rfl (fun W' hS => by
            have hq := Sl.neq_fd_same W' ((k : Nat) : Int) 0
            go_simp) ?_
          simp only [Act.put, List.setIfInBounds_toArray, List.set_cons_zero, List.set_cons_succ]
          refine mix_move (.tmp 53) (.bool false) rfl HS1.out rfl rfl ?_
          simp only [Act.put, List.setIfInBounds_toArray, List.set_cons_zero, List.set_cons_succ]
          refine mix_move (.tmp 9) (.int .i64 0) rfl HS1.out rfl rfl ?_
          simp only [Act.put, List.setIfInBounds_toArray, List.set_cons_zero, List.set_cons_succ]
          refine mix_take (.bool false) HS1.out rfl (fun W' hS => by
            go_simp) ?_
          simp only [Act.put, List.setIfInBounds_toArray, List.set_cons_zero, List.set_cons_succ]
          refine mix_take (.bool false) HS1.out rfl (fun W' hS => by go_simp) ?_
          simp only [Act.put, List.setIfInBounds_toArray, List.set_cons_zero, List.set_cons_succ]
          refine mix_take (.bool false) HS1.out rfl (fun W' hS => by go_simp) ?_
          simp only [Act.put, List.setIfInBounds_toArray, List.set_cons_zero, List.set_cons_succ]
          refine mix_move (.tmp 58) (.bool false) rfl HS1.out rfl rfl ?_
          simp only [Act.put, List.setIfInBounds_toArray, List.set_cons_zero, List.set_cons_succ]
          refine mix_move (.tmp 7) (.int .i64 ((k : Nat) : Int)) rfl HS1.out rfl rfl ?_
          simp only [Act.put, List.setIfInBounds_toArray, List.set_cons_zero, List.set_cons_succ]
          refine mix_take (.bool false) HS1.out rfl (fun W' hS => by
            go_simp) ?_
          simp only [Act.put, List.setIfInBounds_toArray, List.set_cons_zero, List.set_cons_succ]
          refine mix_move (.tmp 61) (.bool false) rfl HS1.out rfl rfl ?_
          simp only [Act.put, List.setIfInBounds_toArray, List.set_cons_zero, List.set_cons_succ]
          refine mix_drop HS1.out rfl ?_
          simp only [Act.put, List.setIfInBounds_toArray, List.set_cons_zero, List.set_cons_succ]
          refine mix_skip rfl HS1.out ?_
          simp only [Act.put, List.setIfInBounds_toArray, List.set_cons_zero, List.set_cons_succ]
          refine mix_drop HS1.out rfl ?_
          simp only [Act.put, List.setIfInBounds_toArray, List.set_cons_zero, List.set_cons_succ]
          refine mix_drop HS1.out rfl ?_
          simp only [Act.put, List.setIfInBounds_toArray, List.set_cons_zero, List.set_cons_succ]
          refine mix_drop HS1.out rfl ?_
          simp only [Act.put, List.setIfInBounds_toArray, List.set_cons_zero, List.set_cons_succ]
          refine mix_drop HS1.out rfl ?_
          simp only [Act.put, List.setIfInBounds_toArray, List.set_cons_zero, List.set_cons_succ]
          refine mix_drop HS1.out rfl ?_
          simp only [Act.put, List.setIfInBounds_toArray, List.set_cons_zero, List.set_cons_succ]
          refine mix_take (.bool false) HS1.out rfl (fun W' hS => by go_simp) ?_
          simp only [Act.put, List.setIfInBounds_toArray, List.set_cons_zero, List.set_cons_succ]
          refine mix_nil ?_
          clear HS HS1 HL3 HL2 HD HA
          have hmI2 := hmI
          go_wp2_with fail
          go_roundw
          case rel => exact ⟨k + 1, hlt, by go_num, by rw [HM2.out]; exact HL4⟩
          case measure => simp [intOf]; omega
        · have q4 : (128 : Int) ≤ (k : Int) := by omega
          have hm : min k 128 = 128 := by omega
          have hm2 : min (k + 1) 128 = 128 := by omega
          rw [hm] at HL
          have q := ls_open HL.out ((k : Nat) : Int)
          rw [pxF_full] at q
          simp only at q
          have HC := Lib.hid q
          have HM2 := Lib.hid hm2
          clear q hm hm2
          go_wp2_with (go_at_call 13; fail)
          refine HC.out.mono ?_
          rintro e v1 ⟨rfl, hp⟩
          obtain ⟨v2, hW2, hg2, hs2, hb2⟩ := alloc1 v1 (.cells #[.int .i64 0, .int .i64 0] 47)
          have HW2 := Lib.hid hW2
          have HL2 : Hid (LSt w v2 (fun _ => False) p (pxF (128)) 0 0) := Lib.hid (hp.st.grown hg2.below)
          have HA := Lib.hid hb2
          clear hp hW2 hg2 hs2 hb2 HC HL
          go_upto_region 10 with (fail)
          rw [HW2.out]
          obtain ⟨bx, hbx⟩ : ∃ b, b = v1.heap.size := ⟨_, rfl⟩
          rw [← hbx]
          rw [← hbx] at HA
          clear hbx HW2
          refine wp_region_mix (fun W' => W'.heap[bx]? = some (.cells #[.int .i64 0, .int .i64 0] 47 (0, 0))) 24 [(true, 0), (true, 1), (true, 2), (true, 3), (true, 4), (false, 5), (true, 6), (true, 7), (true, 8), (true, 9), (true, 10), (true, 11), (true, 12), (true, 13), (true, 14), (true, 15), (true, 16), (false, 17), (true, 18), (true, 19), (true, 20), (true, 21), (true, 22), (true, 23)] (by kernel_rfl) (by kernel_rfl) (fun _ _ _ d _ h => by cases d <;> exact h) ?_
          have HD : Hid (Below v2.heap.size v2 v2.drew) := Lib.hid ((Grn.refl v2).drew 1).below
          have HS : Hid (v2.drew.heap[bx]? = some (.cells #[.int .i64 0, .int .i64 0] 47 (0, 0))) := Lib.hid ((HD.out.block _ (lt_of_block HA.out)).trans HA.out)
          simp only [List.map_cons, List.map_nil, List.getD_cons_zero, List.getD_cons_succ, List.drop_succ_cons, List.drop_zero]
          generalize v2.drew = V at *
          have HL3 := Lib.hid (HL2.out.grown HD.out)
          refine mix_move (.tmp 7) (.int .i64 ((k : Nat) : Int)) rfl HS.out rfl rfl ?_
          simp only [Act.put, List.setIfInBounds_toArray, List.set_cons_zero, List.set_cons_succ]
          refine mix_take (.bool false) HS.out rfl (fun W' hS => by
            go_simp) ?_
          simp only [Act.put, List.setIfInBounds_toArray, List.set_cons_zero, List.set_cons_succ]
          refine mix_move (.tmp 48) (.bool false) rfl HS.out rfl rfl ?_
          simp only [Act.put, List.setIfInBounds_toArray, List.set_cons_zero, List.set_cons_succ]
          refine mix_drop HS.out rfl ?_
          simp only [Act.put, List.setIfInBounds_toArray, List.set_cons_zero, List.set_cons_succ]
          refine mix_drop HS.out rfl ?_
          simp only [Act.put, List.setIfInBounds_toArray, List.set_cons_zero, List.set_cons_succ]
          refine mix_skip rfl HS.out ?_
          simp only [Act.put, List.setIfInBounds_toArray, List.set_cons_zero, List.set_cons_succ]
          refine mix_drop HS.out rfl ?_
          simp only [Act.put, List.setIfInBounds_toArray, List.set_cons_zero, List.set_cons_succ]
          refine mix_drop HS.out rfl ?_
          simp only [Act.put, List.setIfInBounds_toArray, List.set_cons_zero, List.set_cons_succ]
          refine mix_drop HS.out rfl ?_
          simp only [Act.put, List.setIfInBounds_toArray, List.set_cons_zero, List.set_cons_succ]
          refine mix_drop HS.out rfl ?_
          simp only [Act.put, List.setIfInBounds_toArray, List.set_cons_zero, List.set_cons_succ]
          refine mix_drop HS.out rfl ?_
          simp only [Act.put, List.setIfInBounds_toArray, List.set_cons_zero, List.set_cons_succ]
          refine mix_take (.bool false) HS.out rfl (fun W' hS => by go_simp) ?_
          simp only [Act.put, List.setIfInBounds_toArray, List.set_cons_zero, List.set_cons_succ]
          refine mix_move (.tmp 58) (.bool false) rfl HS.out rfl rfl ?_
          simp only [Act.put, List.setIfInBounds_toArray, List.set_cons_zero, List.set_cons_succ]
          refine mix_move (.tmp 7) (.int .i64 ((k : Nat) : Int)) rfl HS.out rfl rfl ?_
          simp only [Act.put, List.setIfInBounds_toArray, List.set_cons_zero, List.set_cons_succ]
          refine mix_take (.bool true) HS.out rfl (fun W' hS => by
            go_simp) ?_
          simp only [Act.put, List.setIfInBounds_toArray, List.set_cons_zero, List.set_cons_succ]
          refine mix_move (.tmp 61) (.bool true) rfl HS.out rfl rfl ?_
          simp only [Act.put, List.setIfInBounds_toArray, List.set_cons_zero, List.set_cons_succ]
          refine mix_take (.agg #[(.int .i64 0), (.int .i64 0)]) HS.out rfl (fun W' hS => by
            have e1 := hS
            obtain ⟨l0, l1⟩ := two e1
            go_simp) ?_
          simp only [Act.put, List.setIfInBounds_toArray, List.set_cons_zero, List.set_cons_succ]
          refine mix_step rfl (fun K17 hK => ?_)
          go_simp
          go_wp2_with (go_at_call 14; fail)
          refine (fd_any V 0 0).mono ?_
          rintro e v3 ⟨rfl, hb2⟩
          have HL4 := Lib.hid (HL3.out.grown hb2)
          have HS1 := Lib.hid ((hb2.block _ (lt_of_block HS.out)).trans HS.out)
          clear hb2
          refine hK _ _ HS1.out ?_
          clear hK K17
          refine mix_take (.bool false) HS1.out rfl (fun W' hS => by
            have hq := Sl.neq_fd_same W' 0 0
            go_simp) ?_
          simp only [Act.put, List.setIfInBounds_toArray, List.set_cons_zero, List.set_cons_succ]
          refine mix_move (.tmp 65) (.bool false) rfl HS1.out rfl rfl ?_
          simp only [Act.put, List.setIfInBounds_toArray, List.set_cons_zero, List.set_cons_succ]
          refine mix_move (.tmp 9) (.int .i64 7) rfl HS1.out rfl rfl ?_
          simp only [Act.put, List.setIfInBounds_toArray, List.set_cons_zero, List.set_cons_succ]
          refine mix_take (.bool false) HS1.out rfl (fun W' hS => by
            go_simp) ?_
          simp only [Act.put, List.setIfInBounds_toArray, List.set_cons_zero, List.set_cons_succ]
          refine mix_take (.bool false) HS1.out rfl (fun W' hS => by go_simp) ?_
          simp only [Act.put, List.setIfInBounds_toArray, List.set_cons_zero, List.set_cons_succ]
          refine mix_take (.bool false) HS1.out rfl (fun W' hS => by go_simp) ?_
          simp only [Act.put, List.setIfInBounds_toArray, List.set_cons_zero, List.set_cons_succ]
          refine mix_nil ?_
          clear HS HS1 HL3 HL2 HD HA
          have hmI2 := hmI
          go_wp2_with fail
          go_roundw
          case rel => exact ⟨k + 1, hlt, by go_num, by rw [HM2.out]; exact HL4⟩
          case measure => simp [intOf]; omega
      · obtain rfl : k = m := by omega
        obtain ⟨K, hKd⟩ : ∃ K, K = min k 128 := ⟨_, rfl⟩
        have hK : r < K := by have := HB.out; omega
        have hr : r < 128 := by have := HB.out; omega
        rw [← hKd] at HL
        have HKR := Lib.hid (And.intro hK hr)
        have hf := Lib.hid (fd_any wr ((r : Nat) : Int) 0)
        clear hKd hK hr
        go_wp2_with (go_at_call 14; fail)
        refine hf.out.mono ?_
        rintro e u1 ⟨rfl, hb⟩
        have HL1 := Lib.hid (HL.out.grown hb)
        have q := ls_close HL1.out (by omega) HT.out (by omega) (pxF_gen K) ((r : Nat) : Int) 0
        rw [pxF_close HKR.out.1 HKR.out.2] at q
        simp only at q
        have HC := Lib.hid q
        clear q hb hf HL
        go_wp2_with (go_at_call 15; fail)
        refine HC.out.mono ?_
        rintro e u2 ⟨v, rfl, hw⟩
        have HL2 := Lib.hid (hw.st.less (Bs' := fun _ => False) (fun k hk => hk.elim))
        have hwk := Lib.hid (woke_yes (hw.row.src TI_ok) (.inl ⟨rfl, rfl⟩) (by simp))
        clear hw HC HL1
        go_wp2_with (go_at_call 16; fail)
        refine hwk.out.mono ?_
        rintro e u3 ⟨rfl, hb⟩
        have HL3 := Lib.hid (HL2.out.grown hb)
        have hf := Lib.hid (fd_any u3 ((r : Nat) : Int) 1)
        clear hb hwk HL2
        go_wp2_with (go_at_call 14; fail)
        refine hf.out.mono ?_
        rintro e u4 ⟨rfl, hb⟩
        have HL4 := Lib.hid (HL3.out.grown hb)
        obtain ⟨x', hx'⟩ := pxC_open HKR.out.1 HKR.out.2
        have ho := Lib.hid (opens_yes HL4.out hx')
        clear hb hf HL3 hx'
        go_wp2_with (go_at_call 17; fail)
        refine ho.out.mono ?_
        rintro e u5 ⟨rfl, hp⟩
        have H0 := Lib.hid hp.st.below
        have hkn := Lib.hid (known_yes u5 (HM.out.1.below H0.out HM.out.1.lt) (HM.out.2.below H0.out HM.out.2.lt))
        clear hp ho HL4
        go_wp2_with (go_at_call 8; fail)
        refine hkn.out.mono ?_
        rintro e u6 ⟨rfl, hb⟩
        have H2 := Lib.hid (H0.out.trans (hb.mono H0.out.size))
        clear hb hkn
        go_wp2_with fail
        go_ret
        exact ⟨rfl, H2.out⟩
  · clear HT
    by_cases c1 : many < 120
    · have d1 : decide (many < 120) = true := by simpa using c1
      clear hL hin
      go_enter Tryz.func4, Tryz.ntmps4
      go_wp2_with (go_at_call 8; fail)
      refine HK.out.mono ?_
      rintro e w1 ⟨rfl, hb⟩
      have HB := Lib.hid hb
      clear hb
      go_wp2_with fail
      go_ret
      exact ⟨rfl, HB.out⟩
    · have d1 : decide (many < 120) = false := by simpa using c1
      by_cases c2 : 140 < many
      · have d2 : decide (140 < many) = true := by simpa using c2
        clear hL hin
        go_enter Tryz.func4, Tryz.ntmps4
        go_wp2_with (go_at_call 8; fail)
        refine HK.out.mono ?_
        rintro e w1 ⟨rfl, hb⟩
        have HB := Lib.hid hb
        clear hb
        go_wp2_with fail
        go_ret
        exact ⟨rfl, HB.out⟩
      · have d2 : decide (140 < many) = false := by simpa using c2
        by_cases c3 : n < 0
        · have d3 : decide (n < 0) = true := by simpa using c3
          clear hL hin
          go_enter Tryz.func4, Tryz.ntmps4
          go_wp2_with (go_at_call 8; fail)
          refine HK.out.mono ?_
          rintro e w1 ⟨rfl, hb⟩
          have HB := Lib.hid hb
          clear hb
          go_wp2_with fail
          go_ret
          exact ⟨rfl, HB.out⟩
        · have d3 : decide (n < 0) = false := by simpa using c3
          have d4 : decide (120 ≤ n) = true := by simp; omega
          have c4 : 120 ≤ n := by omega
          clear hL hin
          go_enter Tryz.func4, Tryz.ntmps4
          go_wp2_with (go_at_call 8; fail)
          refine HK.out.mono ?_
          rintro e w1 ⟨rfl, hb⟩
          have HB := Lib.hid hb
          clear hb
          go_wp2_with fail
          go_ret
          exact ⟨rfl, HB.out⟩

end Go.Proofs.YtdbkbaealfcmoaaGreatDoor
