/- The set of numbers: has, flip, lowestOut. -/
import Derived.Test.YtpbnbddjfebenaaDoorHMem
import Derived.RegionTactic
import Derived.BigRegion
import Derived.BigQuiet
import Derived.Deep.QuietTactic
import Derived.Laws.Bits64b
import Derived.Lib.TrailingZeros
import Derived.Outline
namespace Go.Proofs.YtpbnbddjfebenaaDoor
open Go.RowKit Go.Sort
set_option linter.unusedVariables false
set_option linter.unusedSimpArgs false

/-- Is the number h in the set? -/
def bitOf (W : Nat → Nat) (h : Nat) : Bool := (W (h / 64)).testBit (h % 64)

theorem BlockAt.word {w : World} {bb cb : Nat} {ve vi : Value} {W : Nat → Nat} {p : Int} (b : BlockAt w bb cb ve vi W p) (i : Nat) (hi : i < 16) : w.cell? ⟨bb, 1 + i, none⟩ = some (.int .u64 (W i)) := by
  obtain ⟨cur, hcur, _, _, hw, _⟩ := b.ex
  exact cells_cell hcur (hw i hi)

set_option maxHeartbeats 800000 in
theorem has_low (n : Int) (p : Value) (w : World) (hn : n < 0) :
    Calls Tryd.prog 43 #[p, .int .i64 n] w fun e w' => e = .returned (.bool false) ∧ w = w' := by
  have h1 : decide ((0 : Int) ≤ n) = false := by simp; omega
  go_enter Tryd.func43, Tryd.ntmps43
  go_wp2_with fail
  go_ret
  exact ⟨rfl, rfl⟩
set_option maxHeartbeats 800000 in
theorem has_high (n : Int) (p : Value) (w : World) (hn : 1024 ≤ n) :
    Calls Tryd.prog 43 #[p, .int .i64 n] w fun e w' => e = .returned (.bool false) ∧ w = w' := by
  go_enter Tryd.func43, Tryd.ntmps43
  go_wp2_with fail
  go_ret
  exact ⟨rfl, rfl⟩
theorem bits_has (W j : Nat) (hW : W < 18446744073709551616) : (bits BinOp.and IntKind.u64 ((W : Int) / 2 ^ j) 1 == 1) = W.testBit j := by
  have e : ((W : Int) / 2 ^ j) = ((W / 2 ^ j : Nat) : Int) := by simp
  have hl : W / 2 ^ j < 18446744073709551616 := Nat.lt_of_le_of_lt (Nat.div_le_self _ _) hW
  rw [e, show (1 : Int) = ((1 : Nat) : Int) from rfl, bits_and_u64_nat _ 1 hl (by omega), Nat.and_one_is_mod, Nat.testBit_eq_decide_div_mod_eq]
  rw [Bool.eq_iff_iff]
  simp only [beq_iff_eq, decide_eq_true_eq]
  omega

set_option maxHeartbeats 800000 in
theorem has_in {w : World} {bb cb : Nat} {ve vi : Value} {W : Nat → Nat} {p : Int} (b : BlockAt w bb cb ve vi W p) (k : Nat) (hk : k < 1024) (hW : W (k / 64) < 18446744073709551616) :
    Calls Tryd.prog 43 #[.pointer (some ⟨bb, 1, none⟩), .int .i64 k] w fun e w' => e = .returned (.bool (bitOf W k)) ∧ w = w' := by
  have hc := b.word (k / 64) (by omega)
  have hk1 : (k : Int) < 1024 := by omega
  have hk0 : (0 : Int) ≤ (k : Int) := by omega
  have hq : (k : Int) / 64 < 16 := by omega
  clear b
  go_enter Tryd.func43, Tryd.ntmps43
  go_wp2_with fail
  have hb := bits_has (W (k / 64)) (k % 64) hW
  exact bodyPost_ret (results_tmp rfl _ _ _) rfl ⟨by unfold bitOf; rw [← hb]; rfl, rfl⟩

/-- The set with the number k turned. -/
def flipW (W : Nat → Nat) (k : Nat) : Nat → Nat := upd W (k / 64) (W (k / 64) ^^^ 2 ^ (k % 64))
theorem bitOf_flip (W : Nat → Nat) (k h : Nat) : bitOf (flipW W k) h = if h = k then !bitOf W k else bitOf W h := by
  unfold bitOf flipW upd
  by_cases e : h / 64 = k / 64
  · rw [if_pos e, Nat.testBit_xor, Nat.testBit_two_pow]
    by_cases e2 : h = k
    · subst e2; simp
    · have : ¬ k % 64 = h % 64 := by omega
      rw [if_neg e2, e]
      simp [this]
  · have : h ≠ k := by rintro rfl; exact e rfl
    rw [if_neg e, if_neg this]
theorem flipW_lt (W : Nat → Nat) (k : Nat) (hW : ∀ i, i < 16 → W i < 18446744073709551616) (hk : k < 1024) : ∀ i, i < 16 → flipW W k i < 18446744073709551616 := by
  intro i hi
  unfold flipW upd
  split
  · have h1 : W (k / 64) < 2 ^ 64 := hW _ (by omega)
    have h2 : 2 ^ (k % 64) < 2 ^ 64 := Nat.pow_lt_pow_right (by omega) (by omega)
    exact Nat.xor_lt_two_pow h1 h2
  · exact hW i hi

theorem flip_bits (W j : Nat) (hW : W < 18446744073709551616) (hj : j < 64) : bits BinOp.xor IntKind.u64 (W : Int) (IntKind.u64.wrap (2 ^ j)) = ((W ^^^ 2 ^ j : Nat) : Int) := by
  have h2 : 2 ^ j < 2 ^ 64 := Nat.pow_lt_pow_right (by omega) (by omega)
  have e : IntKind.u64.wrap (2 ^ j) = ((2 ^ j : Nat) : Int) := by
    rw [IntKind.wrap_u64, show ((2 : Int) ^ j) = ((2 ^ j : Nat) : Int) by simp]
    generalize 2 ^ j = q at h2 ⊢
    omega
  rw [e, bits_xor_u64_nat W _ hW (by omega)]

/-- A word of the body's own block is written. -/
theorem BlockAt.setW {w : World} {bb cb : Nat} {ve vi : Value} {W : Nat → Nat} {p : Int} (b : BlockAt w bb cb ve vi W p) (i x : Nat) (hi : i < 16) : BlockAt (w.setCell ⟨bb, 1 + i, none⟩ (.int .u64 x)) bb cb ve vi (upd W i x) p := by
  obtain ⟨cur, hcur, hs, h0, hw, h17, h18, h19, h20⟩ := b.ex
  refine ⟨_, cells_set hcur (1 + i) _, by simpa using hs, ?_, ?_, ?_, ?_, ?_, ?_⟩
  · rw [Array.getElem?_setIfInBounds_ne (by omega)]; exact h0
  · intro j hj
    unfold upd
    by_cases e : j = i
    · subst e; rw [Array.getElem?_setIfInBounds_self_of_lt (by omega)]; simp
    · rw [Array.getElem?_setIfInBounds_ne (by omega), if_neg e]; exact hw j hj
  all_goals (rw [Array.getElem?_setIfInBounds_ne (by omega)]; assumption)

/-- The body's own block is written. -/
theorem BodAt.block {w : World} {h : Hp} {s : Bd} (b : BodAt w h s) (o : Nat) (v : Value) {ve vi : Value} {W : Nat → Nat} {p : Int} (hb : BlockAt (w.setCell ⟨h.bb, o, none⟩ v) h.bb h.cb ve vi W p)
    (he : ElAt w ve s.n s.K s.X) (hi : w.ownsRow 0 3 1 vi s.its.length (s.its.map encN)) :
    BodAt (w.setCell ⟨h.bb, o, none⟩ v) { h with ve := ve, vi := vi } { s with W := W, pushed := p } ∧ Fr [h.bb] w (w.setCell ⟨h.bb, o, none⟩ v) := by
  obtain ⟨cur, hcur, _⟩ := b.hb.ex
  obtain ⟨xs, ho, hx⟩ := he.ex
  have hf : Fr [h.bb] w (w.setCell ⟨h.bb, o, none⟩ v) := fr_setCell w ⟨h.bb, o, none⟩ v
  have na : h.a ∉ [h.bb] := by simpa using BodAt.ne_types b.ha hcur (by decide)
  have nc : h.cb ∉ [h.bb] := by simpa using BodAt.ne_types b.hc hcur (by decide)
  exact ⟨⟨hf.same b.ha na, hf.same b.hc nc, hb, ⟨xs, hf.row ho (fun g hg => by simpa using BodAt.row_ne ho hcur (by decide) g hg), hx⟩, hf.row hi (fun g hg => by simpa using BodAt.row_ne hi hcur (by decide) g hg)⟩, hf⟩

set_option maxHeartbeats 800000 in
theorem flip_any {w : World} {h : Hp} {s : Bd} (b : BodAt w h s) (k : Nat) (hk : k < 1024) (hW : s.W (k / 64) < 18446744073709551616) :
    Calls Tryd.prog 31 #[.pointer (some ⟨h.bb, 1, none⟩), .int .i64 k] w fun e w' => e = .returned (.tuple #[]) ∧ BodAt w' h { s with W := flipW s.W k } ∧ Fr [h.bb] w w' := by
  have hc := b.hb.word (k / 64) (by omega)
  have hk1 : (k : Int) < 1024 := by omega
  have hk0 : (0 : Int) ≤ (k : Int) := by omega
  have hq : (k : Int) / 64 < 16 := by omega
  have hf : w.frozen? ⟨h.bb, 1 + k / 64, none⟩ = false := by obtain ⟨cur, hcur, _⟩ := b.hb.ex; exact cells_free hcur _
  have hfin := Lib.hid (b.block (1 + k / 64) (.int .u64 ((s.W (k / 64) ^^^ 2 ^ (k % 64) : Nat) : Int)) (b.hb.setW (k / 64) _ (by omega)) b.he b.hi)
  have hbits := Lib.hid (flip_bits (s.W (k / 64)) (k % 64) hW (by omega))
  clear b
  go_enter Tryd.func31, Tryd.ntmps31
  go_wp2_with fail
  go_region
  rw [hbits.out]
  go_end0
  exact ⟨rfl, hfin.out.1.frame (fr_drewN _ 1 []) (fun _ _ => by simp), hfin.out.2.trans (fr_drewN _ 1 []) (fun _ hx => by simp at hx)⟩

/-! ### lowestOut -/

/-- The library's table. -/
def Tab (w : World) : Prop := ∀ j, j < 64 → w.cell? ⟨0, j, none⟩ = some (.int .u8 (Lib.deBruijn64tab.getD j 0))
theorem Tab.lt {w : World} (h : Tab w) : 0 < w.heap.size := World.block_lt_of_cell? w _ (h 0 (by omega))
theorem Tab.fr {F : List Nat} {w w' : World} (h : Tab w) (hf : Fr F w w') (hn : 0 ∉ F) : Tab w' := fun j hj => hf.cell (h j hj) hn
theorem Tab.below {B : Nat} {w w' : World} (h : Tab w) (hb : Below B w w') (hB : 0 < B) : Tab w' := fun j hj => (hb.cell (p := ⟨0, j, none⟩) hB).trans (h j hj)
theorem Tab.drewN {w : World} (h : Tab w) (n : Nat) : Tab (w.drewN n) := h.fr (fr_drewN w n []) (by simp)

theorem tz64_key (x a : Nat) (hx : x < 18446744073709551616) (hx0 : x ≠ 0) (hlow : x &&& (18446744073709551616 - x) = a) :
    IntKind.u64.wrap (bits BinOp.and IntKind.u64 (x : Int) (IntKind.u64.wrap (-(x : Int))) * 285870213051353865) / 288230376151711744 = ((a * 285870213051353865 % 18446744073709551616 / 288230376151711744 : Nat) : Int) := by
  have e1 : IntKind.u64.wrap (-(x : Int)) = ((18446744073709551616 - x : Nat) : Int) := by rw [IntKind.wrap_u64]; omega
  rw [e1, bits_and_u64_nat x _ hx (by omega), hlow, IntKind.wrap_u64]
  omega

set_option maxHeartbeats 1000000 in
theorem tz64_core (x k idx : Nat) (w : World) (hx0 : ((x : Int) == 0) = false)
    (key : IntKind.u64.wrap (bits BinOp.and IntKind.u64 (x : Int) (IntKind.u64.wrap (-(x : Int))) * 285870213051353865) / 288230376151711744 = (idx : Int))
    (hi : idx < 64) (hk : k < 64) (hcell : w.cell? ⟨0, idx, none⟩ = some (.int .u8 k)) :
    Calls Tryd.prog 46 #[.int .u64 x] w fun e w' => e = .returned (.int .i64 k) ∧ w' = w := by
  go_enter Tryd.func46, Tryd.ntmps46
  go_wp2_with (simp only [key])
  go_ret
  exact ⟨rfl, rfl⟩
set_option maxHeartbeats 1000000 in
theorem tz64_zero (w : World) : Calls Tryd.prog 46 #[.int .u64 0] w fun e w' => e = .returned (.int .i64 64) ∧ w' = w := by
  go_enter Tryd.func46, Tryd.ntmps46
  go_wp2_with fail
  go_ret
  exact ⟨rfl, rfl⟩
theorem tz64_any (x : Nat) (hx : x < 18446744073709551616) (w : World) (hT : Tab w) :
    Calls Tryd.prog 46 #[.int .u64 x] w fun e w' => e = .returned (.int .i64 (Lib.ctz 64 x)) ∧ w' = w := by
  by_cases hx0 : x = 0
  · subst hx0
    exact tz64_zero w
  · obtain ⟨hlow, hk⟩ := Lib.lowest_bit 64 x hx0 hx
    obtain ⟨hi, htab⟩ := Lib.deBruijn64_at _ hk
    have hcell := hT _ hi
    rw [htab] at hcell
    exact tz64_core x _ _ w (by simp; omega) (tz64_key x _ hx hx0 hlow) hi hk hcell

theorem ctz_bits (x : Nat) (hx : x < 18446744073709551616) : (Lib.ctz 64 x = 64 ∧ x = 0) ∨ (Lib.ctz 64 x < 64 ∧ x.testBit (Lib.ctz 64 x) = true ∧ ∀ j, j < Lib.ctz 64 x → x.testBit j = false) := by
  by_cases h0 : x = 0
  · exact .inl ⟨by simp [Lib.ctz, h0], h0⟩
  · obtain ⟨m, hm, hk⟩ := Lib.ctzFrom_spec 64 x (by omega) hx
    have e : Lib.ctz 64 x = Lib.ctzFrom 64 x := by simp [Lib.ctz, h0]
    rw [e]
    refine .inr ⟨hk, ?_, fun j hj => ?_⟩
    · rw [show x.testBit (Lib.ctzFrom 64 x) = (2 ^ Lib.ctzFrom 64 x * (2 * m + 1)).testBit (Lib.ctzFrom 64 x) by rw [← hm]]
      rw [Nat.mul_comm, Nat.testBit_mul_two_pow]
      simp [Nat.testBit_zero]
    · rw [show x.testBit j = (2 ^ Lib.ctzFrom 64 x * (2 * m + 1)).testBit j by rw [← hm]]
      rw [Nat.mul_comm, Nat.testBit_mul_two_pow]
      simp; omega

/-- The other bits of a word. -/
def notW (x : Nat) : Nat := 18446744073709551615 - x
theorem not_bits (x : Nat) (hx : x < 18446744073709551616) : bits BinOp.xor IntKind.u64 IntKind.u64.max (x : Int) = ((notW x : Nat) : Int) := by
  have e : IntKind.u64.max = ((18446744073709551615 : Nat) : Int) := rfl
  rw [e, bits_xor_u64_nat _ x (by omega) hx]
  congr 1
  unfold notW
  apply Nat.eq_of_testBit_eq
  intro i
  have h1 : (18446744073709551615 : Nat) = 2 ^ 64 - 1 := by omega
  rw [Nat.testBit_xor, show 18446744073709551615 - x = 2 ^ 64 - (x + 1) by omega, Nat.testBit_two_pow_sub_succ (by omega), h1, Nat.testBit_two_pow_sub_one]
  by_cases hi : i < 64
  · simp [hi]
  · have : x.testBit i = false := Nat.testBit_lt_two_pow (Nat.lt_of_lt_of_le hx (by
      have := Nat.pow_le_pow_right (n := 2) (by omega) (show 64 ≤ i by omega)
      omega))
    simp [hi, this]
theorem notW_lt (x : Nat) : notW x < 18446744073709551616 := by unfold notW; omega

/-- The lowest number that is not in the set. -/
structure LowOut (W : Nat → Nat) (l : Nat) : Prop where
  le : l ≤ 1024
  out : l < 1024 → bitOf W l = false
  full : ∀ j, j < l → bitOf W j = true

theorem low_found {W : Nat → Nat} {i t : Nat} (hi : i < 16) (hW : W i < 18446744073709551616) (hfull : ∀ j, j < 64 * i → bitOf W j = true) (ht : Lib.ctz 64 (notW (W i)) = t) (hlt : t < 64) : LowOut W (i * 64 + t) := by
  unfold notW at ht
  have hb : ∀ j, j < 64 → (18446744073709551615 - W i).testBit j = !(W i).testBit j := fun j hj => by
    rw [show 18446744073709551615 - W i = 2 ^ 64 - (W i + 1) by omega, Nat.testBit_two_pow_sub_succ (by omega)]
    simp [hj]
  rcases ctz_bits (18446744073709551615 - W i) (by omega) with ⟨h1, _⟩ | ⟨h1, h2, h3⟩
  · omega
  · rw [ht] at h1 h2 h3
    refine ⟨by omega, fun _ => ?_, fun j hj => ?_⟩
    · unfold bitOf
      rw [show (i * 64 + t) / 64 = i by omega, show (i * 64 + t) % 64 = t by omega]
      rw [hb t hlt] at h2
      simpa using h2
    · by_cases hj2 : j < 64 * i
      · exact hfull j hj2
      · have h4 := h3 (j - 64 * i) (by omega)
        rw [hb _ (by omega)] at h4
        unfold bitOf
        rw [show j / 64 = i by omega, show j % 64 = j - 64 * i by omega]
        simpa using h4
theorem low_next {W : Nat → Nat} {i : Nat} (hW : W i < 18446744073709551616) (hfull : ∀ j, j < 64 * i → bitOf W j = true) (ht : ¬ Lib.ctz 64 (notW (W i)) < 64) : ∀ j, j < 64 * (i + 1) → bitOf W j = true := by
  unfold notW at ht
  intro j hj
  rcases ctz_bits (18446744073709551615 - W i) (by omega) with ⟨_, h1⟩ | ⟨h1, _⟩
  · by_cases hj2 : j < 64 * i
    · exact hfull j hj2
    · have hb : (18446744073709551615 - W i).testBit (j - 64 * i) = !(W i).testBit (j - 64 * i) := by
        rw [show 18446744073709551615 - W i = 2 ^ 64 - (W i + 1) by omega, Nat.testBit_two_pow_sub_succ (by omega)]
        simp; omega
      rw [h1] at hb
      unfold bitOf
      rw [show j / 64 = i by omega, show j % 64 = j - 64 * i by omega]
      simpa using hb.symm
  · exact absurd h1 ht

set_option maxHeartbeats 1600000 in
theorem lowestOut_any {w : World} {bb cb : Nat} {ve vi : Value} {W : Nat → Nat} {p : Int} (b : BlockAt w bb cb ve vi W p) (hW : ∀ i, i < 16 → W i < 18446744073709551616) (hT : Tab w) :
    Calls Tryd.prog 30 #[.pointer (some ⟨bb, 1, none⟩)] w fun e w' => ∃ l : Nat, e = .returned (.int .i64 l) ∧ LowOut W l ∧ ∃ n, w' = w.drewN n := by
  have hw := Lib.hid (fun i hi => b.word i hi)
  have HW := Lib.hid hW
  have HT := Lib.hid hT
  clear b hW hT
  go_enter Tryd.func30, Tryd.ntmps30
  go_wp2_with fail
  go_loopw [7] (fun v wr => ∃ i n : Nat, i ≤ 16 ∧ v = .int .i64 i ∧ wr = w.drewN n ∧ ∀ j, j < 64 * i → bitOf W j = true) (fun v _ => 16 - (intOf v).toNat)
  case atStart => exact ⟨0, 0, by omega, rfl, rfl, fun j hj => by omega⟩
  case round =>
    obtain ⟨i, n, hi, rfl, rfl, hfull⟩ := hrel
    have Hfull := Lib.hid hfull
    clear hfull
    by_cases hlt : i < 16
    · have hc := hw.out i hlt
      have hWi := HW.out i hlt
      have hli : (i : Int) < 16 := by omega
      have hnot := not_bits (W i) hWi
      have htz := Lib.hid (fun wx hx => tz64_any (notW (W i)) (notW_lt _) wx hx)
      obtain ⟨t, ht⟩ : ∃ t, Lib.ctz 64 (notW (W i)) = t := ⟨_, rfl⟩
      rw [ht] at htz
      have Ht := Lib.hid ht
      clear ht
      have HWi := Lib.hid hWi
      clear hWi
      by_cases hlt64 : t < 64
      · go_wp2_with fail
        go_quiet (fail)
        go_wp2_with fail
        refine (htz.out _ (HT.out.drewN _)).mono ?_
        rintro e w2 ⟨rfl, rfl⟩
        go_wp2_with fail
        go_ret
        exact ⟨i * 64 + t, by go_num, low_found hlt HWi.out Hfull.out Ht.out hlt64, _, rfl⟩
      · go_wp2_with fail
        go_quiet (fail)
        go_wp2_with fail
        refine (htz.out _ (HT.out.drewN _)).mono ?_
        rintro e w2 ⟨rfl, rfl⟩
        go_wp2_with fail
        go_roundw
        case rel => exact ⟨i + 1, _, by omega, by go_num, rfl, low_next HWi.out Hfull.out (by rw [Ht.out]; exact hlt64)⟩
        case measure => simp [intOf]; omega
    · obtain rfl : i = 16 := by omega
      go_wp2_with fail
      go_ret
      exact ⟨1024, rfl, ⟨by omega, by omega, fun j hj => Hfull.out j (by omega)⟩, n, rfl⟩
end Go.Proofs.YtpbnbddjfebenaaDoor
