/- Any state as a value; which states are valid. -/
import Derived.Test.YteimjkmjofaieaaYMove
import Derived.Deep.Cut
namespace Go.Proofs.Yteimjkmjofaieaa
open Go.RowKit Go.Sort
set_option linter.unusedVariables false
set_option linter.unusedSimpArgs false
set_option maxRecDepth 100000

/-- A state, valid or not. -/
structure Rw where
  c : Int
  S : List UInt8
  busy : Bool
  R : List UInt8
  a : Int
  wr : Int
  rd : Int
/-- A state as a value, with its two slices. -/
def Rw.val (r : Rw) (vS vR : Value) : Value := .agg #[.int .i64 r.c, vS, .bool r.busy, vR, .int .i64 r.a, .int .i64 r.wr, .int .i64 r.rd]
def vwB (busy : Bool) (rn : Nat) (a : Int) : Bool := if busy = true then (if a < 0 then false else decide (a ≤ 65536 - (rn : Int))) else (if rn = 0 then decide (a = 0) else false)
def okB (c : Int) (n rn : Nat) (b1 b2 b3 : Bool) (wr rd : Int) : Bool := if c < 0 then false else if 4096 < c then false else if c < (n : Int) then false else if b1 = false then false else if b2 = false then false else if b3 = false then false
  else if rd ≠ 0 then decide (n = 0) else if wr ≠ 0 then true else if rn = 0 then true else decide ((n : Int) = c)
def Rw.ok (r : Rw) : Bool := okB r.c r.S.length r.R.length (decide (0 ≤ r.wr ∧ r.wr ≤ 1000)) (decide (0 ≤ r.rd ∧ r.rd ≤ 1000)) (vwB r.busy r.R.length r.a) r.wr r.rd
/-- A valid state as a stream. -/
def Rw.st (r : Rw) : St := ⟨r.c.toNat, r.S, r.busy, r.R, r.a.toNat, r.wr, r.rd⟩
def St.rw (x : St) : Rw := ⟨x.c, x.S, x.busy, x.R, x.a, x.wr, x.rd⟩
theorem vwB_iff (busy : Bool) (rn : Nat) (a : Int) : vwB busy rn a = true ↔ (busy = true → 0 ≤ a ∧ a + rn ≤ 65536) ∧ (busy = false → rn = 0 ∧ a = 0) := by
  unfold vwB
  cases busy with
  | true =>
    rw [if_pos rfl]
    by_cases h : a < 0
    · rw [if_pos h]; simp; omega
    · rw [if_neg h]; simp; omega
  | false =>
    rw [if_neg (by simp)]
    by_cases h : rn = 0
    · rw [if_pos h]; simp [h]
    · rw [if_neg h]; simp [h]
theorem okB_iff (c : Int) (n rn : Nat) (b1 b2 b3 : Bool) (wr rd : Int) : okB c n rn b1 b2 b3 wr rd = true ↔ 0 ≤ c ∧ c ≤ 4096 ∧ (n : Int) ≤ c ∧ b1 = true ∧ b2 = true ∧ b3 = true ∧ (rd ≠ 0 → n = 0) ∧ (wr = 0 → rd = 0 → rn ≠ 0 → (n : Int) = c) := by
  unfold okB
  by_cases h1 : c < 0
  · rw [if_pos h1]; simp; omega
  · rw [if_neg h1]
    by_cases h2 : 4096 < c
    · rw [if_pos h2]; simp; omega
    · rw [if_neg h2]
      by_cases h3 : c < (n : Int)
      · rw [if_pos h3]; simp; omega
      · rw [if_neg h3]
        have e1 : 0 ≤ c := by omega
        have e2 : c ≤ 4096 := by omega
        have e3 : (n : Int) ≤ c := by omega
        cases b1 <;> cases b2 <;> cases b3 <;> simp [e1, e2, e3]
        by_cases h4 : rd = 0
        · simp only [h4, if_pos]
          by_cases h5 : wr = 0
          · simp only [h5, if_pos]
            by_cases h6 : rn = 0 <;> simp [h6]
          · simp [h5]
        · simp [h4]
theorem Rw.ok_iff (r : Rw) : r.ok = true ↔ r.st.Ok ∧ r = r.st.rw := by
  obtain ⟨c, S, busy, R, a, wr, rd⟩ := r
  unfold Rw.ok
  rw [okB_iff, vwB_iff]
  simp only [Rw.st, St.rw, Rw.mk.injEq, true_and, and_true, decide_eq_true_eq]
  constructor
  · rintro ⟨h1, h2, h3, h4, h5, ⟨h6, h7⟩, h8, h9⟩
    have ha : 0 ≤ a ∧ a + R.length ≤ 65536 := by
      cases busy with
      | true => exact h6 rfl
      | false => have := h7 rfl; omega
    refine ⟨⟨by show c.toNat ≤ 4096; omega, by show S.length ≤ c.toNat; omega, fun q => List.eq_nil_of_length_eq_zero (h8 q), fun q => ?_, by show a.toNat + R.length ≤ 65536; omega, fun _ q1 q2 q3 => ?_, h4, h5⟩, by omega, by omega⟩
    · have := h7 q
      exact ⟨List.eq_nil_of_length_eq_zero this.1, by show a.toNat = 0; omega⟩
    · have := h9 q1 q2 (fun q => q3 (List.eq_nil_of_length_eq_zero q))
      show S.length = c.toNat
      omega
  · rintro ⟨h, hc, ha⟩
    have h1 := h.top
    have h2 := h.le
    have h5 := h.small
    simp only at h1 h2 h5
    refine ⟨by omega, by omega, by omega, h.wr, h.rd, ⟨fun q => ⟨by omega, by omega⟩, fun q => ?_⟩, fun q => ?_, fun q1 q2 q3 => ?_⟩
    · have := h.idle q
      simp only at this
      exact ⟨by rw [this.1]; rfl, by omega⟩
    · have := h.no q
      simp only at this
      rw [this]; rfl
    · have := h.full (by
        cases hb : busy with
        | true => rfl
        | false =>
          have := h.idle hb
          simp only at this
          rw [this.1] at q3
          exact absurd rfl q3) q1 q2 (fun q => q3 (by simp only at q; rw [q]; rfl))
      simp only at this
      omega
section
theorem stValidWrite_any (w : World) (c : Int) (busy : Bool) (s1 : Option Addr) (n s3 : Nat) (r1 : Option Addr) (rn r3 : Nat) (a wr rd : Int) (hn : rn ≤ r3) (hm : r3 ≤ maxLen) :
    Calls Try.prog 53 #[.agg #[.int .i64 c, .slice s1 n s3, .bool busy, .slice r1 rn r3, .int .i64 a, .int .i64 wr, .int .i64 rd]] w fun e w' => e = .returned (.bool (vwB busy rn a)) ∧ Below w.heap.size w w' := by
  have HB := Lib.hid (below_alloc w (.cells #[.int .i64 c, .slice s1 n s3, .bool busy, .slice r1 rn r3, .int .i64 a, .int .i64 wr, .int .i64 rd] 31))
  unfold vwB
  have hrn : (rn : Int) ≤ 9223372036854775807 := by unfold maxLen at hm; omega
  clear hm hn
  cases busy with
  | true =>
    rw [if_pos rfl]
    by_cases h0 : a < 0
    · rw [if_pos h0]
      have q : decide (0 ≤ a) = false := by simp; omega
      clear h0
      go_enter Try.func53, Try.ntmps53
      go_wp2
      go_ret
      exact ⟨rfl, HB.out⟩
    · rw [if_neg h0]
      have q : decide (0 ≤ a) = true := by simp; omega
      obtain ⟨z, hz⟩ : ∃ z : Int, z = 65536 - (rn : Int) := ⟨_, rfl⟩
      rw [← hz]
      have HZ := Lib.hid hz.symm
      clear h0 hz
      go_enter Try.func53, Try.ntmps53
      go_wp2
      rw [HZ.out]
      go_ret
      exact ⟨rfl, HB.out⟩
  | false =>
    rw [if_neg (by simp)]
    by_cases h0 : rn = 0
    · subst h0
      rw [if_pos rfl]
      by_cases h1 : a = 0
      · subst h1
        go_enter Try.func53, Try.ntmps53
        go_wp2
        go_ret
        exact ⟨rfl, HB.out⟩
      · have q : (a == 0) = false := by simp [h1]
        have q2 : decide (a = 0) = false := by simp [h1]
        rw [q2]
        clear h1 q2
        go_enter Try.func53, Try.ntmps53
        go_wp2
        go_ret
        exact ⟨rfl, HB.out⟩
    · rw [if_neg h0]
      have q : ((rn : Int) == 0) = false := by simp; omega
      clear h0
      go_enter Try.func53, Try.ntmps53
      go_wp2
      go_ret
      exact ⟨rfl, HB.out⟩
set_option maxHeartbeats 3200000 in
theorem stValid_core (w : World) (c : Int) (busy : Bool) (s1 : Option Addr) (n s3 : Nat) (r1 : Option Addr) (rn r3 : Nat) (a wr rd : Int) (hn : rn ≤ r3) (hm : r3 ≤ maxLen) :
    Calls Try.prog 16 #[.agg #[.int .i64 c, .slice s1 n s3, .bool busy, .slice r1 rn r3, .int .i64 a, .int .i64 wr, .int .i64 rd]] w fun e w' => e = .returned (.bool (okB c n rn (decide (0 ≤ wr ∧ wr ≤ 1000)) (decide (0 ≤ rd ∧ rd ≤ 1000)) (vwB busy rn a) wr rd)) ∧ Below w.heap.size w w' := by
  have hbb := below_alloc w (.cells #[.int .i64 c, .slice s1 n s3, .bool busy, .slice r1 rn r3, .int .i64 a, .int .i64 wr, .int .i64 rd] 31)
  obtain ⟨W, hW⟩ : ∃ W, W = w.alloc (.cells #[.int .i64 c, .slice s1 n s3, .bool busy, .slice r1 rn r3, .int .i64 a, .int .i64 wr, .int .i64 rd] 31) := ⟨_, rfl⟩
  rw [← hW] at hbb
  have HB := Lib.hid hbb
  have hblk : W.heap[w.heap.size]? = some (.cells #[.int .i64 c, .slice s1 n s3, .bool busy, .slice r1 rn r3, .int .i64 a, .int .i64 wr, .int .i64 rd] 31 (0, 0)) := by rw [hW]; exact heap_alloc_new w _
  have HBK := Lib.hid hblk
  have k0 := cells_cell (o := 0) hblk rfl
  have k1 := cells_cell (o := 1) hblk rfl
  have k2 := cells_cell (o := 2) hblk rfl
  have k3 := cells_cell (o := 3) hblk rfl
  have k4 := cells_cell (o := 4) hblk rfl
  have k5 := cells_cell (o := 5) hblk rfl
  have k6 := cells_cell (o := 6) hblk rfl
  have HE1 := Lib.hid (fun W => stValidEnd_any W wr)
  have HE2 := Lib.hid (fun W => stValidEnd_any W rd)
  have HVW := Lib.hid (stValidWrite_any W c busy s1 n s3 r1 rn r3 a wr rd hn hm)
  have HW := Lib.hid hW.symm
  clear hW hbb hblk hn hm
  unfold okB
  obtain ⟨b1, hb1⟩ : ∃ b, b = decide (0 ≤ wr ∧ wr ≤ 1000) := ⟨_, rfl⟩
  obtain ⟨b2, hb2⟩ : ∃ b, b = decide (0 ≤ rd ∧ rd ≤ 1000) := ⟨_, rfl⟩
  obtain ⟨b3, hb3⟩ : ∃ b, b = vwB busy rn a := ⟨_, rfl⟩
  rw [← hb1] at HE1 ⊢
  rw [← hb2] at HE2 ⊢
  rw [← hb3] at HVW ⊢
  clear hb1 hb2 hb3
  by_cases h0 : c < 0
  · rw [if_pos h0]
    have q0 : decide (c < 0) = true := by simp only [decide_eq_true_eq]; exact h0
    clear h0
    go_enter Try.func16, Try.ntmps16
    go_upto_region 1 with fail
    rw [HW.out]
    go_wp2_with fail
    go_ret
    exact ⟨rfl, HB.out⟩
  · rw [if_neg h0]
    have q0 : decide (c < 0) = false := by simp only [decide_eq_false_iff_not]; exact h0
    clear h0
    by_cases h1 : 4096 < c
    · rw [if_pos h1]
      have q1 : decide (4096 < c) = true := by simp only [decide_eq_true_eq]; exact h1
      clear h1
      go_enter Try.func16, Try.ntmps16
      go_upto_region 1 with fail
      rw [HW.out]
      go_wp2_with fail
      go_ret
      exact ⟨rfl, HB.out⟩
    · rw [if_neg h1]
      have q1 : decide (4096 < c) = false := by simp only [decide_eq_false_iff_not]; exact h1
      clear h1
      by_cases h2 : c < (n : Int)
      · rw [if_pos h2]
        have q2 : decide (c < (n : Int)) = true := by simp only [decide_eq_true_eq]; exact h2
        clear h2
        go_enter Try.func16, Try.ntmps16
        go_upto_region 1 with fail
        rw [HW.out]
        go_wp2_with fail
        go_ret
        exact ⟨rfl, HB.out⟩
      · rw [if_neg h2]
        have q2 : decide (c < (n : Int)) = false := by simp only [decide_eq_false_iff_not]; exact h2
        clear h2
        cases b1 with
        | false =>
          rw [if_pos rfl]
          go_enter Try.func16, Try.ntmps16
          go_upto_region 1 with fail
          rw [HW.out]
          go_wp2_with (go_at_call 52; fail)
          refine (HE1.out _).mono ?_
          rintro e w1 ⟨rfl, hw1⟩
          subst hw1
          go_wp2_with fail
          go_ret
          exact ⟨rfl, HB.out⟩
        | true =>
          rw [if_neg (by simp)]
          cases b2 with
          | false =>
            rw [if_pos rfl]
            go_enter Try.func16, Try.ntmps16
            go_upto_region 1 with fail
            rw [HW.out]
            go_wp2_with (go_at_call 52; fail)
            refine (HE1.out _).mono ?_
            rintro e w1 ⟨rfl, hw1⟩
            subst hw1
            go_wp2_with (go_at_call 52; fail)
            refine (HE2.out _).mono ?_
            rintro e w1 ⟨rfl, hw1⟩
            subst hw1
            go_wp2_with fail
            go_ret
            exact ⟨rfl, HB.out⟩
          | true =>
            rw [if_neg (by simp)]
            cases b3 with
            | false =>
              rw [if_pos rfl]
              go_enter Try.func16, Try.ntmps16
              go_upto_region 1 with fail
              rw [HW.out]
              go_wp2_with (go_at_call 52; fail)
              refine (HE1.out _).mono ?_
              rintro e w1 ⟨rfl, hw1⟩
              subst hw1
              go_wp2_with (go_at_call 52; fail)
              refine (HE2.out _).mono ?_
              rintro e w1 ⟨rfl, hw1⟩
              subst hw1
              go_wp2_with (go_at_call 53; fail)
              refine HVW.out.mono ?_
              rintro e w2 ⟨rfl, hb2⟩
              have hbk2 := (hb2.block _ (lt_of_block HBK.out)).trans HBK.out
              have j0 := cells_cell (o := 0) hbk2 rfl
              have j1 := cells_cell (o := 1) hbk2 rfl
              have j3 := cells_cell (o := 3) hbk2 rfl
              have j5 := cells_cell (o := 5) hbk2 rfl
              have j6 := cells_cell (o := 6) hbk2 rfl
              have HB2 : Hid (Below w.heap.size w w2) := Lib.hid (HB.out.trans (hb2.mono HB.out.size))
              clear hb2 hbk2
              go_wp2_with fail
              go_ret
              exact ⟨rfl, HB2.out⟩
            | true =>
              rw [if_neg (by simp)]
              by_cases hr : rd = 0
              · subst hr
                rw [if_neg (by simp)]
                by_cases hw : wr = 0
                · subst hw
                  rw [if_neg (by simp)]
                  by_cases hz : rn = 0
                  · subst hz
                    rw [if_pos rfl]
                    go_enter Try.func16, Try.ntmps16
                    go_upto_region 1 with fail
                    rw [HW.out]
                    go_wp2_with (go_at_call 52; fail)
                    refine (HE1.out _).mono ?_
                    rintro e w1 ⟨rfl, hw1⟩
                    subst hw1
                    go_wp2_with (go_at_call 52; fail)
                    refine (HE2.out _).mono ?_
                    rintro e w1 ⟨rfl, hw1⟩
                    subst hw1
                    go_wp2_with (go_at_call 53; fail)
                    refine HVW.out.mono ?_
                    rintro e w2 ⟨rfl, hb2⟩
                    have hbk2 := (hb2.block _ (lt_of_block HBK.out)).trans HBK.out
                    have j0 := cells_cell (o := 0) hbk2 rfl
                    have j1 := cells_cell (o := 1) hbk2 rfl
                    have j3 := cells_cell (o := 3) hbk2 rfl
                    have j5 := cells_cell (o := 5) hbk2 rfl
                    have j6 := cells_cell (o := 6) hbk2 rfl
                    have HB2 : Hid (Below w.heap.size w w2) := Lib.hid (HB.out.trans (hb2.mono HB.out.size))
                    clear hb2 hbk2
                    go_wp2_with fail
                    go_ret
                    exact ⟨rfl, HB2.out⟩
                  · rw [if_neg hz]
                    have q7 : ((rn : Int) == 0) = false := by simp; omega
                    clear hz
                    by_cases hc : (n : Int) = c
                    · have q8 : ((n : Int) == c) = true := by simp [hc]
                      have q9 : decide ((n : Int) = c) = true := by simp [hc]
                      rw [q9]
                      clear hc q9
                      go_enter Try.func16, Try.ntmps16
                      go_upto_region 1 with fail
                      rw [HW.out]
                      go_wp2_with (go_at_call 52; fail)
                      refine (HE1.out _).mono ?_
                      rintro e w1 ⟨rfl, hw1⟩
                      subst hw1
                      go_wp2_with (go_at_call 52; fail)
                      refine (HE2.out _).mono ?_
                      rintro e w1 ⟨rfl, hw1⟩
                      subst hw1
                      go_wp2_with (go_at_call 53; fail)
                      refine HVW.out.mono ?_
                      rintro e w2 ⟨rfl, hb2⟩
                      have hbk2 := (hb2.block _ (lt_of_block HBK.out)).trans HBK.out
                      have j0 := cells_cell (o := 0) hbk2 rfl
                      have j1 := cells_cell (o := 1) hbk2 rfl
                      have j3 := cells_cell (o := 3) hbk2 rfl
                      have j5 := cells_cell (o := 5) hbk2 rfl
                      have j6 := cells_cell (o := 6) hbk2 rfl
                      have HB2 : Hid (Below w.heap.size w w2) := Lib.hid (HB.out.trans (hb2.mono HB.out.size))
                      clear hb2 hbk2
                      go_wp2_with fail
                      go_ret
                      exact ⟨rfl, HB2.out⟩
                    · have q8 : ((n : Int) == c) = false := by simp [hc]
                      have q9 : decide ((n : Int) = c) = false := by simp [hc]
                      rw [q9]
                      clear hc q9
                      go_enter Try.func16, Try.ntmps16
                      go_upto_region 1 with fail
                      rw [HW.out]
                      go_wp2_with (go_at_call 52; fail)
                      refine (HE1.out _).mono ?_
                      rintro e w1 ⟨rfl, hw1⟩
                      subst hw1
                      go_wp2_with (go_at_call 52; fail)
                      refine (HE2.out _).mono ?_
                      rintro e w1 ⟨rfl, hw1⟩
                      subst hw1
                      go_wp2_with (go_at_call 53; fail)
                      refine HVW.out.mono ?_
                      rintro e w2 ⟨rfl, hb2⟩
                      have hbk2 := (hb2.block _ (lt_of_block HBK.out)).trans HBK.out
                      have j0 := cells_cell (o := 0) hbk2 rfl
                      have j1 := cells_cell (o := 1) hbk2 rfl
                      have j3 := cells_cell (o := 3) hbk2 rfl
                      have j5 := cells_cell (o := 5) hbk2 rfl
                      have j6 := cells_cell (o := 6) hbk2 rfl
                      have HB2 : Hid (Below w.heap.size w w2) := Lib.hid (HB.out.trans (hb2.mono HB.out.size))
                      clear hb2 hbk2
                      go_wp2_with fail
                      go_ret
                      exact ⟨rfl, HB2.out⟩
                · rw [if_pos hw]
                  have q6 : (wr != 0) = true := by simp [hw]
                  clear hw
                  go_enter Try.func16, Try.ntmps16
                  go_upto_region 1 with fail
                  rw [HW.out]
                  go_wp2_with (go_at_call 52; fail)
                  refine (HE1.out _).mono ?_
                  rintro e w1 ⟨rfl, hw1⟩
                  subst hw1
                  go_wp2_with (go_at_call 52; fail)
                  refine (HE2.out _).mono ?_
                  rintro e w1 ⟨rfl, hw1⟩
                  subst hw1
                  go_wp2_with (go_at_call 53; fail)
                  refine HVW.out.mono ?_
                  rintro e w2 ⟨rfl, hb2⟩
                  have hbk2 := (hb2.block _ (lt_of_block HBK.out)).trans HBK.out
                  have j0 := cells_cell (o := 0) hbk2 rfl
                  have j1 := cells_cell (o := 1) hbk2 rfl
                  have j3 := cells_cell (o := 3) hbk2 rfl
                  have j5 := cells_cell (o := 5) hbk2 rfl
                  have j6 := cells_cell (o := 6) hbk2 rfl
                  have HB2 : Hid (Below w.heap.size w w2) := Lib.hid (HB.out.trans (hb2.mono HB.out.size))
                  clear hb2 hbk2
                  go_wp2_with fail
                  go_ret
                  exact ⟨rfl, HB2.out⟩
              · rw [if_pos hr]
                have q6 : (rd != 0) = true := by simp [hr]
                clear hr
                by_cases hz : n = 0
                · subst hz
                  rw [show decide ((0 : Nat) = 0) = true from rfl]
                  go_enter Try.func16, Try.ntmps16
                  go_upto_region 1 with fail
                  rw [HW.out]
                  go_wp2_with (go_at_call 52; fail)
                  refine (HE1.out _).mono ?_
                  rintro e w1 ⟨rfl, hw1⟩
                  subst hw1
                  go_wp2_with (go_at_call 52; fail)
                  refine (HE2.out _).mono ?_
                  rintro e w1 ⟨rfl, hw1⟩
                  subst hw1
                  go_wp2_with (go_at_call 53; fail)
                  refine HVW.out.mono ?_
                  rintro e w2 ⟨rfl, hb2⟩
                  have hbk2 := (hb2.block _ (lt_of_block HBK.out)).trans HBK.out
                  have j0 := cells_cell (o := 0) hbk2 rfl
                  have j1 := cells_cell (o := 1) hbk2 rfl
                  have j3 := cells_cell (o := 3) hbk2 rfl
                  have j5 := cells_cell (o := 5) hbk2 rfl
                  have j6 := cells_cell (o := 6) hbk2 rfl
                  have HB2 : Hid (Below w.heap.size w w2) := Lib.hid (HB.out.trans (hb2.mono HB.out.size))
                  clear hb2 hbk2
                  go_wp2_with fail
                  go_ret
                  exact ⟨rfl, HB2.out⟩
                · have q7 : ((n : Int) == 0) = false := by simp; omega
                  rw [show decide (n = 0) = false by simp [hz]]
                  clear hz
                  go_enter Try.func16, Try.ntmps16
                  go_upto_region 1 with fail
                  rw [HW.out]
                  go_wp2_with (go_at_call 52; fail)
                  refine (HE1.out _).mono ?_
                  rintro e w1 ⟨rfl, hw1⟩
                  subst hw1
                  go_wp2_with (go_at_call 52; fail)
                  refine (HE2.out _).mono ?_
                  rintro e w1 ⟨rfl, hw1⟩
                  subst hw1
                  go_wp2_with (go_at_call 53; fail)
                  refine HVW.out.mono ?_
                  rintro e w2 ⟨rfl, hb2⟩
                  have hbk2 := (hb2.block _ (lt_of_block HBK.out)).trans HBK.out
                  have j0 := cells_cell (o := 0) hbk2 rfl
                  have j1 := cells_cell (o := 1) hbk2 rfl
                  have j3 := cells_cell (o := 3) hbk2 rfl
                  have j5 := cells_cell (o := 5) hbk2 rfl
                  have j6 := cells_cell (o := 6) hbk2 rfl
                  have HB2 : Hid (Below w.heap.size w w2) := Lib.hid (HB.out.trans (hb2.mono HB.out.size))
                  clear hb2 hbk2
                  go_wp2_with fail
                  go_ret
                  exact ⟨rfl, HB2.out⟩
end
end Go.Proofs.Yteimjkmjofaieaa
