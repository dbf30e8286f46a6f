/- Plain facts on numbers and texts of times: what reads a decimal text gives the number back, and two texts are of one time only if the times are equal. -/
import Derived.Lib.ItoaNum
import Derived.Lib.ItoaLen
import Derived.Lib.ParseIntB
import Derived.Lib.ParseIntBCases
namespace Go.Proofs.YtdcmebnahlajcaaDoor
open Go.Lib

/-- The time that is later by some ticks. -/
def addT (t k : Int) : Int := if 18446744073709551615 - t ≤ k then 18446744073709551615 else t + k
/-- How many ticks a time is later than another one. -/
def subT (a b : Int) : Int := if a ≤ b then 0 else if a = 18446744073709551615 then 18446744073709551615 else a - b
/-- The earliest one of some times. -/
def minT (l : List Int) : Int := l.foldl min 18446744073709551615
/-- Has a deadline passed at a time? -/
def passT (d n : Int) : Bool := decide (d ≠ 18446744073709551615 ∧ n ≠ 18446744073709551615 ∧ d ≤ n)

/-- The bytes of the text of Never. -/
def neverB : List UInt8 := [110, 101, 118, 101, 114]
/-- The text of a time, as bytes. -/
def textT (v : Nat) : List UInt8 := if v = 18446744073709551615 then neverB else decDigits v
/-- What a text is read as: a time, and whether it is the text of one. -/
def parseT (s : List UInt8) : Nat × Bool :=
  if s = neverB then (18446744073709551615, true)
  else match parseUintB 64 s with
    | .ok u => if textT u = s then (u, true) else (0, false)
    | _ => (0, false)

theorem addT_bounds (t k : Int) (ht0 : 0 ≤ t) (ht : t ≤ 18446744073709551615) (hk0 : 0 ≤ k) : t ≤ addT t k ∧ addT t k ≤ 18446744073709551615 := by
  unfold addT; split <;> omega
theorem subT_bounds (a b : Int) (ha : a ≤ 18446744073709551615) (hb0 : 0 ≤ b) : 0 ≤ subT a b ∧ subT a b ≤ 18446744073709551615 := by
  unfold subT; split
  · omega
  · split <;> omega
theorem addT_subT (a b : Int) (ha : a ≤ 18446744073709551615) (hb0 : 0 ≤ b) (h : b ≤ a) : addT b (subT a b) = a := by
  unfold addT subT; repeat' split
  all_goals omega
theorem minT_snoc (l : List Int) (x : Int) : minT (l ++ [x]) = min (minT l) x := by
  unfold minT; rw [List.foldl_append]; rfl
theorem minT_le (l : List Int) (h : ∀ x ∈ l, 0 ≤ x) : 0 ≤ minT l ∧ minT l ≤ 18446744073709551615 := by
  unfold minT
  suffices H : ∀ (l : List Int) (a : Int), 0 ≤ a → a ≤ 18446744073709551615 → (∀ x ∈ l, 0 ≤ x) → 0 ≤ l.foldl min a ∧ l.foldl min a ≤ 18446744073709551615 from H l _ (by decide) (by decide) h
  intro l
  induction l with
  | nil => intro a h0 h1 _; exact ⟨h0, h1⟩
  | cons y r ih =>
    intro a h0 h1 hx
    have hy := hx y (by simp)
    refine ih (min a y) (by omega) (by omega) (fun x hxr => hx x (by simp [hxr]))

theorem byte_digit {d : Nat} (h : d < 10) : (UInt8.ofNat (48 + d)).toNat = 48 + d := by
  rw [UInt8.toNat_ofNat']; omega

theorem parseUintM_snoc (M : Nat) (c : UInt8) : ∀ (l : List UInt8) (acc : Nat), parseUintM M acc (l ++ [c]) = match parseUintM M acc l with
    | .ok u => parseUintM M u [c]
    | e => e
  | [], acc => rfl
  | x :: r, acc => by
    rw [List.cons_append]
    unfold parseUintM
    split
    · split
      · rfl
      · split
        · rfl
        · exact parseUintM_snoc M c r _
    · rfl

theorem parseUintM_dec (u : Nat) (hu : u < 18446744073709551616) : parseUintM 18446744073709551615 0 (decDigits u) = .ok u := by
  induction u using Nat.strongRecOn with
  | ind u ih =>
    by_cases h : u < 10
    · rw [decDigits_one h]
      have hb := byte_digit h
      unfold parseUintM
      rw [hb, if_pos (by omega), if_neg (by omega), if_neg (by omega)]
      unfold parseUintM
      congr 1
      omega
    · rw [decDigits, dif_neg h, parseUintM_snoc, ih (u / 10) (by omega) (by omega)]
      have hb := byte_digit (d := u % 10) (by omega)
      show parseUintM _ (u / 10) [UInt8.ofNat (48 + u % 10)] = _
      unfold parseUintM
      rw [hb, if_pos (by omega), if_neg (by omega), if_neg (by omega)]
      unfold parseUintM
      congr 1
      omega

theorem decDigits_ne_nil (u : Nat) : decDigits u ≠ [] := by
  intro h
  have h1 := decDigits_length u
  rw [h] at h1
  have h2 := nDigits_pos u
  simp at h1
  omega

theorem parseUintB_dec (u : Nat) (hu : u < 18446744073709551616) : parseUintB 64 (decDigits u) = .ok u := by
  have e : (2 : Nat) ^ 64 - 1 = 18446744073709551615 := by decide
  unfold parseUintB
  rw [if_neg (decDigits_ne_nil u), e, parseUintM_dec u hu]

theorem dec_not_never (u : Nat) (hu : u < 18446744073709551616) : decDigits u ≠ neverB := by
  intro h
  have h1 := parseUintB_dec u hu
  rw [h] at h1
  have h2 : parseUintB 64 neverB = parseUintB 64 [] := by decide +kernel
  rw [h2] at h1
  unfold parseUintB at h1
  rw [if_pos rfl] at h1
  cases h1

theorem textT_length (v : Nat) (hv : v < 18446744073709551616) : 1 ≤ (textT v).length ∧ (textT v).length ≤ 20 := by
  unfold textT
  split
  · exact ⟨by decide, by decide⟩
  · rw [decDigits_length]; exact ⟨nDigits_pos v, nDigits_le20 v hv⟩

theorem parseT_text (v : Nat) (hv : v < 18446744073709551616) : parseT (textT v) = (v, true) := by
  unfold parseT
  by_cases h : v = 18446744073709551615
  · subst h; rw [if_pos (by unfold textT; rw [if_pos rfl])]
  · have e : textT v = decDigits v := by unfold textT; rw [if_neg h]
    rw [if_neg (by rw [e]; exact dec_not_never v hv), e, parseUintB_dec v hv]
    show (if textT v = decDigits v then (v, true) else (0, false)) = (v, true)
    rw [if_pos e]

theorem parseT_lt (s : List UInt8) : (parseT s).1 < 18446744073709551616 := by
  unfold parseT
  split
  · decide
  · split
    · rename_i u h
      have h1 := parseUintB_le h
      split
      · show u < _; omega
      · decide
    · decide

/-- A text that is too long, or empty, is of no time. -/
theorem parseT_long (s : List UInt8) (h : s.length = 0 ∨ 20 < s.length) : parseT s = (0, false) := by
  unfold parseT
  have hn : s ≠ neverB := by intro e; subst e; revert h; decide
  rw [if_neg hn]
  split
  · rename_i u hu
    have h1 := parseUintB_le hu
    have hl := textT_length u (by omega)
    rw [if_neg (by intro e; rw [e] at hl; omega)]
  · rfl

theorem parseT_ok {s : List UInt8} (h : ¬ s = neverB) {u : Nat} (hp : parseUintB 64 s = .ok u) (ht : textT u = s) : parseT s = (u, true) := by
  unfold parseT
  rw [if_neg h, hp]
  show (if textT u = s then (u, true) else (0, false)) = _
  rw [if_pos ht]
theorem parseT_other {s : List UInt8} (h : ¬ s = neverB) {u : Nat} (hp : parseUintB 64 s = .ok u) (ht : ¬ textT u = s) : parseT s = (0, false) := by
  unfold parseT
  rw [if_neg h, hp]
  show (if textT u = s then (u, true) else (0, false)) = _
  rw [if_neg ht]
theorem parseT_bad {s : List UInt8} (h : ¬ s = neverB) (hp : ∀ u, parseUintB 64 s ≠ .ok u) : parseT s = (0, false) := by
  unfold parseT
  rw [if_neg h]
  split
  · rename_i u hu; exact absurd hu (hp u)
  · rfl
end Go.Proofs.YtdcmebnahlajcaaDoor
