/- A ring buffer inside a law's call: what the law's own small functions return. -/
import Derived.Test.YtilafgemgdjfhaaBCop
import Derived.Laws.BytesArg
import Derived.Lib.ConvBytes
namespace Go.Proofs.Ytilafgemgdjfhaa
open Go.RowKit Go.Sort
set_option linter.unusedVariables false
set_option linter.unusedSimpArgs false

/-- A slice of bytes that a law has: nil, or bytes that lie in a block of its own or of an argument. -/
def SrcB (w0 : World) (G : Nat → Prop) (w : World) (ao : Option Addr) (L lc : Nat) (P : List UInt8) : Prop :=
  (ao = none ∧ L = 0 ∧ lc = 0 ∧ P = []) ∨ ∃ b off, ao = some ⟨b, off, none⟩ ∧ L = P.length ∧ L ≤ lc ∧ lc ≤ maxLen ∧ Lies w b off P ∧ (b < w0.heap.size ∨ G b)

theorem beq_selfB (s : ByteArray) : (s == s) = true := by
  cases s with
  | mk d => show (d == d) = true; exact beq_self_eq_true d

/-- Behind a call of a ring buffer. -/
structure Aft (w0 : World) (G : Nat → Prop) (w w' : World) (a c : Nat) (B : List UInt8) : Prop where
  rg : RgIn w0 G w' a c B
  keep : Keep G w w'
  size : w.heap.size ≤ w'.heap.size

/-- The string of some bytes. -/
def strB (L : List UInt8) : ByteArray := ⟨L.toArray⟩

theorem row_str {w : World} {base : Nat} {v : Value} {L : List UInt8} (h : RowB w base v L) : (convert 24 9 v).run Try.prog w = .ok (.string (strB L)) w := by
  rcases h.2 with ⟨rfl, hn⟩ | ⟨g, cap, cu, rfl, hb, hh, _, _, _, htake⟩
  · have hL : L = [] := List.eq_nil_of_length_eq_zero hn
    subst hL
    exact run_convert_bytes_nil w 24 5 Try.underlying24 Try.underlying5 0 0 9 Try.underlying9
  · have := run_convert_bytes_arg (P := Try.prog) w 24 5 Try.underlying24 Try.underlying5 g 0 L.length cap (L.map fun x => ((x.toNat : Nat) : Int)) (by simp) (fun i hi => by
      have h1 : (L.map encB)[i]? = some (encB L[i]) := by simp [hi]
      have h2 := row_cells h i _ h1
      rw [Go.WideShapes.add_plain] at h2
      rw [h2]
      simp [List.getD, hi, encB]) 9 Try.underlying9
    rw [this]
    have : strOfNums (L.map fun x => ((x.toNat : Nat) : Int)) = strB L := by
      unfold strOfNums strB
      congr 1
      simp only [List.map_map]
      conv => rhs; rw [← List.map_id L]
      congr 1
      refine List.map_congr_left (fun x _ => ?_)
      simp
    rw [this]

section
variable {w0 w : World} {G : Nat → Prop} {a c : Nat} {B : List UInt8}

theorem len_in (R : RgIn w0 G w a c B) : Calls Try.prog 21 #[pt a] w fun e w' => e = .returned (.int .i64 B.length) ∧ w = w' := by obtain ⟨_, _, _, _, _, R⟩ := R; exact len_any R
theorem cap_in (R : RgIn w0 G w a c B) : Calls Try.prog 22 #[pt a] w fun e w' => e = .returned (.int .i64 c) ∧ w = w' := by obtain ⟨_, _, _, _, _, R⟩ := R; exact cap_any R
theorem free_in (R : RgIn w0 G w a c B) : Calls Try.prog 23 #[pt a] w fun e w' => e = .returned (.int .i64 ((c - B.length : Nat) : Int)) ∧ w = w' := by obtain ⟨_, _, _, _, _, R⟩ := R; exact free_any R
theorem write_in (R : RgIn w0 G w a c B) {ao : Option Addr} {L lc : Nat} {P : List UInt8} (hs : SrcB w0 G w ao L lc P) (hP : P.length ≤ 65536) :
    Calls Try.prog 11 #[pt a, .slice ao L lc] w fun e w' => e = .returned (.tuple #[.int .i64 ((min P.length (c - B.length) : Nat) : Int), .int .i64 0]) ∧ Aft w0 G w w' a c (B ++ P.take (min P.length (c - B.length))) := by
  obtain ⟨bb, cc, cp, f, xs, R⟩ := R
  rcases hs with ⟨rfl, rfl, rfl, rfl⟩ | ⟨b, off, rfl, rfl, h1, h2, h3, h4⟩
  · refine (write_none R).mono ?_
    rintro e w' ⟨rfl, R', K, F⟩
    refine ⟨by simp, ⟨⟨bb, cc, cp, f, xs, by simpa using R'⟩, K, F.size⟩⟩
  · refine (write_some R P hP h1 h2 h3 (fun q => ?_) (fun q => ?_)).mono ?_
    · subst q
      rcases h4 with h4 | h4
      · have := R.bc; omega
      · exact R.nc h4
    · subst q
      rcases h4 with h4 | h4
      · have := R.bb0; omega
      · exact R.nb h4
    · rintro e w' ⟨xs', rfl, R', K, F⟩
      exact ⟨rfl, ⟨⟨bb, cc, cp, f, xs', R'⟩, K, F.size⟩⟩
theorem writeLong_in (R : RgIn w0 G w a c B) {ao : Option Addr} {L lc : Nat} (hL : 65536 < L) (hm : L ≤ maxLen) :
    Calls Try.prog 11 #[pt a, .slice ao L lc] w fun e w' => e = .returned (.tuple #[.int .i64 0, .int .i64 5]) ∧ w = w' := by obtain ⟨_, _, _, _, _, R⟩ := R; exact write_long R hL hm
theorem skipNeg_in (R : RgIn w0 G w a c B) (m : Int) (hm : m < 0) : Calls Try.prog 17 #[pt a, .int .i64 m] w fun e w' => e = .returned (.tuple #[.int .i64 0, .int .i64 2]) ∧ w = w' := by obtain ⟨_, _, _, _, _, R⟩ := R; exact skip_neg R m hm
theorem skip_in (R : RgIn w0 G w a c B) (m : Int) (hm : 0 ≤ m) : Calls Try.prog 17 #[pt a, .int .i64 m] w fun e w' => e = .returned (.tuple #[.int .i64 ((min m.toNat B.length : Nat) : Int), .int .i64 0]) ∧ Aft w0 G w w' a c (B.drop m.toNat) := by
  obtain ⟨bb, cc, cp, f, xs, R⟩ := R
  refine (skip_ok R m hm).mono ?_
  rintro e w' ⟨xs', f', rfl, R', K, F⟩
  exact ⟨rfl, ⟨⟨bb, cc, cp, f', xs', R'⟩, K, F.size⟩⟩
theorem peekNeg_in (R : RgIn w0 G w a c B) (o m : Int) (h : o < 0 ∨ m < 0) : Calls Try.prog 15 #[pt a, .int .i64 o, .int .i64 m] w fun e w' => e = .returned (.tuple #[.slice none 0 0, .int .i64 2]) ∧ w = w' := by obtain ⟨_, _, _, _, _, R⟩ := R; exact peek_neg R o m h
theorem peek_in (R : RgIn w0 G w a c B) (o m : Int) (ho : 0 ≤ o) (hm : 0 ≤ m) :
    Calls Try.prog 15 #[pt a, .int .i64 o, .int .i64 m] w fun e w' => ∃ v, e = .returned (.tuple #[v, .int .i64 0]) ∧ RowB w' w.heap.size v ((B.drop o.toNat).take m.toNat) ∧ Below w.heap.size w w' := by obtain ⟨_, _, _, _, _, R⟩ := R; exact peek_ok R o m ho hm
theorem readNeg_in (R : RgIn w0 G w a c B) (m : Int) (hm : m < 0) : Calls Try.prog 13 #[pt a, .int .i64 m] w fun e w' => e = .returned (.tuple #[.slice none 0 0, .int .i64 2]) ∧ w = w' := by obtain ⟨_, _, _, _, _, R⟩ := R; exact read_neg R m hm
/-- What was read lies in a block of the law's own. -/
theorem read_in (R : RgIn w0 G w a c B) (m : Int) (hm : 0 ≤ m) : Calls Try.prog 13 #[pt a, .int .i64 m] w fun e w' => ∃ v, e = .returned (.tuple #[v, .int .i64 0]) ∧ RowB w' w.heap.size v (B.take m.toNat) ∧ Aft w0 G w w' a c (B.drop m.toNat) ∧ RgIn w0 (fun k => G k ∨ v.ownBlock = some k) w' a c (B.drop m.toNat) := by
  obtain ⟨bb, cc, cp, f, xs, R⟩ := R
  refine (read_ok R m hm).mono ?_
  rintro e w' ⟨v, xs', f', rfl, hr, R', K, F⟩
  have hb := R.blt
  have hc := R.clt
  have ha := R.alt
  refine ⟨v, rfl, hr, ⟨⟨bb, cc, cp, f', xs', R'⟩, K, F.size⟩, bb, cc, cp, f', xs', ?_⟩
  refine ⟨R'.ta, R'.tb, R'.tc, R'.ccp, R'.cpm, R'.cyc, ?_, ?_, ?_, R'.ba, R'.bb0, R'.bc, fun k hk => ?_, R'.below⟩
  · rintro (h | h)
    · exact R'.na h
    · have := hr.lt _ h; omega
  · rintro (h | h)
    · exact R'.nb h
    · have := hr.lt _ h; omega
  · rintro (h | h)
    · exact R'.nc h
    · have := hr.lt _ h; omega
  · rcases hk with h | h
    · exact R'.lt k h
    · exact (hr.lt k h).2
theorem reset_in (R : RgIn w0 G w a c B) : Calls Try.prog 19 #[pt a] w fun e w' => e = .returned (.int .i64 0) ∧ Aft w0 G w w' a c [] := by
  obtain ⟨bb, cc, cp, f, xs, R⟩ := R
  refine (reset_any R).mono ?_
  rintro e w' ⟨xs', f', rfl, R', K, F⟩
  exact ⟨rfl, ⟨⟨bb, cc, cp, f', xs', R'⟩, K, F.size⟩⟩
theorem copy_in (R : RgIn w0 G w a c B) : Calls Try.prog 20 #[pt a] w fun e w' => ∃ a', e = .returned (pt a') ∧ Below w.heap.size w w' ∧ RgIn w0 (fun k => k < w.heap.size) w' a' c B := by obtain ⟨_, _, _, _, _, R⟩ := R; exact copy_any R

theorem bytesWorld_fr (w : World) (s : ByteArray) : Below w.heap.size w (Lib.bytesWorld w 5 s) := ⟨rfl, rfl, rfl, by rw [Lib.bytesWorld_size]; omega, fun k hk => Lib.bytesWorld_at_old w _ s k hk⟩
theorem bytesWorld_lies (w : World) (L : List UInt8) : Lies (Lib.bytesWorld w 5 (strB L)) w.heap.size 0 L := fun i u hi => by
  have hl := (List.getElem?_eq_some_iff.1 hi).1
  have := Lib.bytesWorld_cell w 5 (strB L) i (by unfold strB; simpa [ByteArray.size] using hl)
  rw [Nat.zero_add, this]
  unfold strB encB
  simp [List.getD, hi]

set_option maxHeartbeats 800000 in
theorem writes_in (R : RgIn w0 G w a c B) (L : List UInt8) (hL : L.length ≤ 1000) (n : Nat) (hn : n = min L.length (c - B.length)) :
    Calls Try.prog 26 #[pt a, .string (strB L), .int .i64 n] w fun e w' => e = .returned (.bool true) ∧ Aft w0 G w w' a c (B ++ L.take n) := by
  have hR1 := R.more (G' := fun k => G k ∨ k = w.heap.size) (bytesWorld_fr w (strB L)) (fun k hk => by
    rcases hk with h | h
    · exact .inl h
    · right; subst h; rw [Lib.bytesWorld_size]; omega)
  have hcv := Lib.run_convert_string_bytes (P := Try.prog) w 9 24 5 (strB L) Try.underlying9 Try.underlying24 Try.underlying5
  have hsz : (strB L).size = L.length := by unfold strB; simp [ByteArray.size]
  have hgc : L.length ≤ grownCap w L.length 0 5 := grownCap_ge _ _ _ _
  have hgm : grownCap w L.length 0 5 ≤ maxLen := grownCap_le_maxLen _ _ _ _ (by unfold maxLen; omega)
  rw [hsz] at hcv
  generalize grownCap w L.length 0 5 = gc at *
  have hw := write_in hR1 (P := L) (ao := some ⟨w.heap.size, 0, none⟩) (L := L.length) (lc := gc) (.inr ⟨_, _, rfl, rfl, hgc, hgm, bytesWorld_lies w L, .inr (.inr rfl)⟩) (by omega)
  rw [← hn] at hw
  have HW := Lib.hid hw
  have HB := Lib.hid (bytesWorld_fr w (strB L))
  have HR := Lib.hid R
  generalize Lib.bytesWorld w 5 (strB L) = W at *
  have hnn : ((n : Int) == (n : Int)) = true := by simp
  clear hR1 R hw hn hsz
  unfold pt at *
  go_enter Try.func26, Try.ntmps26
  go_wp2_with (go_at_call 11; refine HW.out.mono ?_; rintro e w' ⟨rfl, hA⟩)
  have HA := Lib.hid hA
  go_ret
  exact ⟨rfl, HA.out.rg.less (fun k hk => .inl hk), fun k hk => (HA.out.keep k (.inl hk)).trans (HB.out.block k (HR.out.lt k hk)), Nat.le_trans HB.out.size HA.out.size⟩

set_option maxHeartbeats 800000 in
theorem reads_in (R : RgIn w0 G w a c B) (m : Int) (hm : 0 ≤ m) (s : ByteArray) (hs : s = strB (B.take m.toNat)) :
    Calls Try.prog 25 #[pt a, .int .i64 m, .string s] w fun e w' => e = .returned (.bool true) ∧ Aft w0 G w w' a c (B.drop m.toNat) := by
  have HR := Lib.hid (read_in R m hm)
  have hbq := beq_selfB s
  clear R
  subst hs
  generalize B.take m.toNat = L at *
  unfold pt at *
  go_enter Try.func25, Try.ntmps25
  go_wp2_with (go_at_call 13; fail)
  refine HR.out.mono ?_
  rintro e w' ⟨v, rfl, hrow, hA, _⟩
  have hcv := row_str hrow
  have HA := Lib.hid hA
  obtain ⟨va, vc, rfl⟩ := row_formB hrow
  generalize strB L = s at *
  clear hrow hA
  go_wp2_with fail
  go_ret
  exact ⟨rfl, HA.out⟩

set_option maxHeartbeats 800000 in
theorem peeks_in (R : RgIn w0 G w a c B) (o m : Int) (ho : 0 ≤ o) (hm : 0 ≤ m) (s : ByteArray) (hs : s = strB ((B.drop o.toNat).take m.toNat)) :
    Calls Try.prog 24 #[pt a, .int .i64 o, .int .i64 m, .string s] w fun e w' => e = .returned (.bool true) ∧ Below w.heap.size w w' := by
  have HR := Lib.hid (peek_in R o m ho hm)
  have hbq := beq_selfB s
  clear R
  subst hs
  generalize (B.drop o.toNat).take m.toNat = L at *
  unfold pt at *
  go_enter Try.func24, Try.ntmps24
  go_wp2_with (go_at_call 15; fail)
  refine HR.out.mono ?_
  rintro e w' ⟨v, rfl, hrow, hA⟩
  have hcv := row_str hrow
  have HA := Lib.hid hA
  obtain ⟨va, vc, rfl⟩ := row_formB hrow
  generalize strB L = s at *
  clear hrow hA
  go_wp2_with fail
  go_ret
  exact ⟨rfl, HA.out⟩
end
end Go.Proofs.Ytilafgemgdjfhaa
