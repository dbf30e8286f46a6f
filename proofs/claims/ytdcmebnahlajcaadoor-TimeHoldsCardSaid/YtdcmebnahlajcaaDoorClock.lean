/- The contracts of clocks: the program's, in memory, and the reference's, as values. -/
import Derived.Test.YtdcmebnahlajcaaDoorSums
namespace Go.Proofs.YtdcmebnahlajcaaDoor
open Go.RowKit
set_option linter.unusedVariables false

/-- Block N holds a clock that shows t. -/
structure Clk (w : World) (N : Nat) (t : Int) : Prop where
  lt : N < w.heap.size
  c0 : w.cell? ⟨N, 0, none⟩ = some (.int .u64 t)
  c1 : w.cell? ⟨N, 1, none⟩ = some (.bool true)
  f0 : w.frozen? ⟨N, 0, none⟩ = false

/-- At most block N has changed. -/
structure Only (N : Nat) (w w' : World) : Prop where
  below : Below N w w'
  size : w'.heap.size = w.heap.size
  cell : ∀ p : Addr, p.block ≠ N → w'.cell? p = w.cell? p
  froz : ∀ p : Addr, w'.frozen? p = w.frozen? p

theorem Only.refl (N : Nat) (w : World) : Only N w w := ⟨Below.refl _ _, rfl, fun _ _ => rfl, fun _ => rfl⟩
theorem Only.set (N : Nat) (w : World) (v : Value) : Only N w (w.setCell ⟨N, 0, none⟩ v) :=
  have hb : Below N w (w.setCell ⟨N, 0, none⟩ v) := (Below.refl N w).setCell (Nat.le_refl N) v
  ⟨hb, by simp, fun p hp => World.cell?_setCell_other _ _ _ _ (by intro h; subst h; exact hp rfl), fun p => by simp⟩

theorem Clk.other {w w' : World} {N M : Nat} {t : Int} (h : Clk w N t) (ho : Only M w w') (hne : N ≠ M) : Clk w' N t :=
  ⟨by rw [ho.size]; exact h.lt, by rw [ho.cell _ hne]; exact h.c0, by rw [ho.cell _ hne]; exact h.c1, by rw [ho.froz]; exact h.f0⟩
theorem Clk.below {w w' : World} {N : Nat} {t : Int} (h : Clk w N t) (hb : Below w.heap.size w w') : Clk w' N t :=
  ⟨Nat.lt_of_lt_of_le h.lt hb.size, (hb.cell h.lt).trans h.c0, (hb.cell h.lt).trans h.c1, (hb.frozen h.lt).trans h.f0⟩

def advE (t b : Int) : Int := if b = 18446744073709551615 then 2 else if b < t then 3 else 0
def advT (t b : Int) : Int := if b = 18446744073709551615 then t else if b < t then t else b
def pasE (t k : Int) : Int := if addT t k = 18446744073709551615 then 7 else 0
def pasT (t k : Int) : Int := if addT t k = 18446744073709551615 then t else addT t k

set_option maxHeartbeats 800000 in
theorem adv_any (N : Nat) (t b : Int) (w : World) (h : Clk w N t) (hb1 : b ≤ 18446744073709551615) :
    Calls Tryd.prog 23 #[.pointer (some ⟨N, 0, none⟩), .int .u64 b] w fun e w' => e = .returned (.int .i64 (advE t b)) ∧ Clk w' N (advT t b) ∧ Only N w w' := by
  have hc0 := h.c0
  have hc1 := h.c1
  have hf0 := h.f0
  by_cases hN : b = 18446744073709551615
  · have he := Lib.hid (show advE t b = 2 by unfold advE; rw [if_pos hN])
    have hT := Lib.hid (show advT t b = t by unfold advT; rw [if_pos hN])
    subst hN
    go_enter Tryd.func23, Tryd.ntmps23
    go_wp2_with go_in
    go_ret
    exact ⟨by rw [he.out]; rfl, by rw [hT.out]; exact h, Only.refl _ _⟩
  · have q : (b == 18446744073709551615) = false := by simp [hN]
    by_cases hl : b < t
    · have he := Lib.hid (show advE t b = 3 by unfold advE; rw [if_neg hN, if_pos hl])
      have hT := Lib.hid (show advT t b = t by unfold advT; rw [if_neg hN, if_pos hl])
      clear hN
      go_enter Tryd.func23, Tryd.ntmps23
      go_wp2_with go_in
      go_ret
      exact ⟨by rw [he.out]; rfl, by rw [hT.out]; exact h, Only.refl _ _⟩
    · have he := Lib.hid (show advE t b = 0 by unfold advE; rw [if_neg hN, if_neg hl])
      have hT := Lib.hid (show advT t b = b by unfold advT; rw [if_neg hN, if_neg hl])
      clear hN
      have hset : Clk (w.setCell ⟨N, 0, none⟩ (.int .u64 b)) N b :=
        ⟨by simpa using h.lt, World.cell?_setCell_same _ _ _ h.c0, by rw [World.cell?_setCell_other _ _ _ _ (by simp)]; exact h.c1, by simpa using h.f0⟩
      go_enter Tryd.func23, Tryd.ntmps23
      go_wp2_with go_in
      go_ret
      exact ⟨by rw [he.out]; rfl, by rw [hT.out]; exact hset, Only.set _ _ _⟩

set_option maxHeartbeats 800000 in
theorem pas_any (N : Nat) (t k : Int) (w : World) (h : Clk w N t) (ht0 : 0 ≤ t) (ht1 : t ≤ 18446744073709551615) (hk0 : 0 ≤ k) (hk1 : k ≤ 18446744073709551615) :
    Calls Tryd.prog 25 #[.pointer (some ⟨N, 0, none⟩), .int .u64 k] w fun e w' => e = .returned (.int .i64 (pasE t k)) ∧ Clk w' N (pasT t k) ∧ Only N w w' := by
  have hc0 := h.c0
  have hc1 := h.c1
  have hf0 := h.f0
  by_cases hN : addT t k = 18446744073709551615
  · have he := Lib.hid (show pasE t k = 7 by unfold pasE; rw [if_pos hN])
    have hT := Lib.hid (show pasT t k = t by unfold pasT; rw [if_pos hN])
    have q : (addT t k == 18446744073709551615) = true := by simp [hN]
    clear hN
    go_enter Tryd.func25, Tryd.ntmps25
    go_wp2_with (first | (go_at_call 9; refine (add_any t k _ ht0 ht1 hk0 hk1).mono ?_; rintro e w' ⟨rfl, rfl⟩) | go_in)
    go_ret
    exact ⟨by rw [he.out]; rfl, by rw [hT.out]; exact h, Only.refl _ _⟩
  · have he := Lib.hid (show pasE t k = 0 by unfold pasE; rw [if_neg hN])
    have hT := Lib.hid (show pasT t k = addT t k by unfold pasT; rw [if_neg hN])
    have q : (addT t k == 18446744073709551615) = false := by simp [hN]
    clear hN
    have hset : Clk (w.setCell ⟨N, 0, none⟩ (.int .u64 (addT t k))) N (addT t k) :=
      ⟨by simpa using h.lt, World.cell?_setCell_same _ _ _ h.c0, by rw [World.cell?_setCell_other _ _ _ _ (by simp)]; exact h.c1, by simpa using h.f0⟩
    go_enter Tryd.func25, Tryd.ntmps25
    go_wp2_with (first | (go_at_call 9; refine (add_any t k _ ht0 ht1 hk0 hk1).mono ?_; rintro e w' ⟨rfl, rfl⟩) | go_in)
    go_ret
    exact ⟨by rw [he.out]; rfl, by rw [hT.out]; exact hset, Only.set _ _ _⟩

set_option maxHeartbeats 800000 in
theorem now_any (N : Nat) (t : Int) (w : World) (h : Clk w N t) :
    Calls Tryd.prog 28 #[.pointer (some ⟨N, 0, none⟩)] w fun e w' => e = .returned (.int .u64 t) ∧ w = w' := by
  have hc0 := h.c0
  have hc1 := h.c1
  go_enter Tryd.func28, Tryd.ntmps28
  go_wp2_with go_in
  go_ret
  exact ⟨rfl, rfl⟩

theorem clk_new (w : World) (t : Int) : Clk (w.alloc (.cells #[.int .u64 t, .bool true] 56)) w.heap.size t :=
  ⟨by simp, by simp, by simp, by simp⟩

set_option maxHeartbeats 800000 in
theorem copy_any (N : Nat) (t : Int) (w : World) (h : Clk w N t) :
    Calls Tryd.prog 27 #[.pointer (some ⟨N, 0, none⟩)] w fun e w' => e = .returned (.pointer (some ⟨w.heap.size, 0, none⟩)) ∧ w.alloc (.cells #[.int .u64 t, .bool true] 56) = w' := by
  have hc0 := h.c0
  have hc1 := h.c1
  go_enter Tryd.func27, Tryd.ntmps27
  go_wp2_with go_in
  go_ret
  exact ⟨rfl, rfl⟩

set_option maxHeartbeats 800000 in
theorem new_ok (t : Int) (w : World) (h : (t == 18446744073709551615) = false) :
    Calls Tryd.prog 21 #[.int .u64 t] w fun e w' => e = .returned (.tuple #[.pointer (some ⟨w.heap.size, 0, none⟩), .int .i64 0]) ∧ w.alloc (.cells #[.int .u64 t, .bool true] 56) = w' := by
  go_enter Tryd.func21, Tryd.ntmps21
  go_wp2_with go_in
  go_ret2
  exact ⟨rfl, rfl⟩
set_option maxHeartbeats 800000 in
theorem new_no (w : World) :
    Calls Tryd.prog 21 #[.int .u64 18446744073709551615] w fun e w' => e = .returned (.tuple #[.pointer none, .int .i64 2]) ∧ w = w' := by
  go_enter Tryd.func21, Tryd.ntmps21
  go_wp2_with go_in
  go_ret2
  exact ⟨rfl, rfl⟩

theorem one_new (w : World) (o : Obj) : Below w.heap.size w (w.alloc o) := (Below.refl _ _).alloc (Nat.le_refl _) _
theorem two_new (w : World) (o r : Obj) : Below w.heap.size w ((w.alloc o).alloc r) := (one_new w o).alloc (by simp) _

set_option maxHeartbeats 800000 in
theorem rnew_ok (t : Int) (w : World) (q : (t == 18446744073709551615) = false) :
    Calls Tryd.prog 22 #[.int .u64 t] w fun e w' => e = .returned (.tuple #[.agg #[.int .u64 t], .int .i64 0]) ∧ Below w.heap.size w w' := by
  go_enter Tryd.func22, Tryd.ntmps22
  go_wp2_with go_in
  exact bodyPost_ret (v := .tuple #[.agg #[.int .u64 t], .int .i64 0]) (by simp [results, Tryd.results22, go_sem]) rfl ⟨rfl, one_new _ _⟩
theorem rnew_no (w : World) :
    Calls Tryd.prog 22 #[.int .u64 18446744073709551615] w fun e w' => e = .returned (.tuple #[.agg #[.int .u64 0], .int .i64 2]) ∧ Below w.heap.size w w' := by
  go_enter Tryd.func22, Tryd.ntmps22
  go_wp2_with go_in
  exact bodyPost_ret (v := .tuple #[.agg #[.int .u64 0], .int .i64 2]) (by simp [results, Tryd.results22, go_sem]) rfl ⟨rfl, one_new _ _⟩

/-- What the reference returns of a clock: the clock as a value, and an error. -/
def clkV (t e : Int) : Value := .tuple #[.agg #[.int .u64 t], .int .i64 e]

set_option maxHeartbeats 800000 in
theorem radv_any (t b : Int) (w : World) :
    Calls Tryd.prog 24 #[.agg #[.int .u64 t], .int .u64 b] w fun e w' => e = .returned (clkV (advT t b) (advE t b)) ∧ Below w.heap.size w w' := by
  by_cases hN : b = 18446744073709551615
  · have he := Lib.hid (show clkV (advT t b) (advE t b) = .tuple #[.agg #[.int .u64 t], .int .i64 2] by unfold clkV advE advT; rw [if_pos hN, if_pos hN])
    subst hN
    go_enter Tryd.func24, Tryd.ntmps24
    go_wp2_with go_in
    exact bodyPost_ret (v := .tuple #[.agg #[.int .u64 t], .int .i64 2]) (by simp [results, Tryd.results24, go_sem]) rfl ⟨by rw [he.out], two_new _ _ _⟩
  · have q : (b == 18446744073709551615) = false := by simp [hN]
    by_cases hl : b < t
    · have he := Lib.hid (show clkV (advT t b) (advE t b) = .tuple #[.agg #[.int .u64 t], .int .i64 3] by unfold clkV advE advT; rw [if_neg hN, if_neg hN, if_pos hl, if_pos hl])
      clear hN
      go_enter Tryd.func24, Tryd.ntmps24
      go_wp2_with go_in
      exact bodyPost_ret (v := .tuple #[.agg #[.int .u64 t], .int .i64 3]) (by simp [results, Tryd.results24, go_sem]) rfl ⟨by rw [he.out], two_new _ _ _⟩
    · have he := Lib.hid (show clkV (advT t b) (advE t b) = .tuple #[.agg #[.int .u64 b], .int .i64 0] by unfold clkV advE advT; rw [if_neg hN, if_neg hN, if_neg hl, if_neg hl])
      clear hN
      go_enter Tryd.func24, Tryd.ntmps24
      go_wp2_with go_in
      exact bodyPost_ret (v := .tuple #[.agg #[.int .u64 b], .int .i64 0]) (by simp [results, Tryd.results24, go_sem]) rfl ⟨by rw [he.out], two_new _ _ _⟩

set_option maxHeartbeats 800000 in
theorem rpas_any (t k : Int) (w : World) (ht0 : 0 ≤ t) (ht1 : t ≤ 18446744073709551615) (hk0 : 0 ≤ k) (hk1 : k ≤ 18446744073709551615) :
    Calls Tryd.prog 26 #[.agg #[.int .u64 t], .int .u64 k] w fun e w' => e = .returned (clkV (pasT t k) (pasE t k)) ∧ Below w.heap.size w w' := by
  by_cases hN : addT t k = 18446744073709551615
  · have he := Lib.hid (show clkV (pasT t k) (pasE t k) = .tuple #[.agg #[.int .u64 t], .int .i64 7] by unfold clkV pasE pasT; rw [if_pos hN, if_pos hN])
    have q : (addT t k == 18446744073709551615) = true := by simp [hN]
    clear hN
    go_enter Tryd.func26, Tryd.ntmps26
    go_wp2_with (first | (go_at_call 10; refine (radd_any t k _ ht0 ht1 hk0 hk1).mono ?_; rintro e w' ⟨rfl, rfl⟩) | go_in)
    exact bodyPost_ret (v := .tuple #[.agg #[.int .u64 t], .int .i64 7]) (by simp [results, Tryd.results26, go_sem]) rfl ⟨by rw [he.out], two_new _ _ _⟩
  · have he := Lib.hid (show clkV (pasT t k) (pasE t k) = .tuple #[.agg #[.int .u64 (addT t k)], .int .i64 0] by unfold clkV pasE pasT; rw [if_neg hN, if_neg hN])
    have q : (addT t k == 18446744073709551615) = false := by simp [hN]
    clear hN
    go_enter Tryd.func26, Tryd.ntmps26
    go_wp2_with (first | (go_at_call 10; refine (radd_any t k _ ht0 ht1 hk0 hk1).mono ?_; rintro e w' ⟨rfl, rfl⟩) | go_in)
    exact bodyPost_ret (v := .tuple #[.agg #[.int .u64 (addT t k)], .int .i64 0]) (by simp [results, Tryd.results26, go_sem]) rfl ⟨by rw [he.out], two_new _ _ _⟩
end Go.Proofs.YtdcmebnahlajcaaDoor
