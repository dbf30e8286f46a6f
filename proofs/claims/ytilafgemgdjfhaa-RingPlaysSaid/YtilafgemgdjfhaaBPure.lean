/- A list of bytes in the places of a ring, without any program. -/
import Derived.Test.YtilafgemgdjfhaaBMem
namespace Go.Proofs.Ytilafgemgdjfhaa
open Go.RowKit Go.Sort
set_option linter.unusedVariables false
set_option linter.unusedSimpArgs false

/-- Place x of a ring of c places, where x is less than 2 * c. -/
def wr (c x : Nat) : Nat := if x < c then x else x - c

theorem wr_lt {c x : Nat} (hx : x < 2 * c) : wr c x < c := by unfold wr; split <;> omega
theorem wr_mod {c x : Nat} (hx : x < 2 * c) : x % c = wr c x := by
  unfold wr
  split
  · exact Nat.mod_eq_of_lt (by assumption)
  · rw [Nat.mod_eq_sub_mod (by omega), Nat.mod_eq_of_lt (by omega)]
theorem wr_int {c a b : Nat} (h : a + b < 2 * c) : ((a : Int) + (b : Int)) % (c : Int) = ((wr c (a + b) : Nat) : Int) := by
  rw [← wr_mod h, Int.natCast_emod, Int.natCast_add]
theorem wr_or (c x : Nat) : (wr c x = x ∧ x < c) ∨ (wr c x = x - c ∧ c ≤ x) := by
  unfold wr
  split <;> omega

theorem splice_get {α : Type} (L : List α) (off : Nat) (cs : List α) (h : off + cs.length ≤ L.length) (k : Nat) :
    (splice L off cs)[k]? = if k < off then L[k]? else if k < off + cs.length then cs[k - off]? else L[k]? := by
  unfold splice
  have hl : (L.take off).length = off := by simp; omega
  by_cases h1 : k < off
  · rw [if_pos h1, List.getElem?_append_left (by omega), List.getElem?_take, if_pos h1]
  · rw [if_neg h1, List.getElem?_append_right (by omega), hl]
    by_cases h2 : k < off + cs.length
    · rw [if_pos h2, List.getElem?_append_left (by omega)]
    · rw [if_neg h2, List.getElem?_append_right (by omega), List.getElem?_drop]
      congr 1; omega

/-- The bytes B lie in the c places xs, from the place f on. -/
structure Cyc (c : Nat) (xs : List UInt8) (f : Nat) (B : List UInt8) : Prop where
  len : xs.length = c
  pos : 1 ≤ c
  top : c ≤ 4096
  fl : f < c
  bl : B.length ≤ c
  at' : ∀ i, i < B.length → xs[wr c (f + i)]? = B[i]?

theorem Cyc.new {c : Nat} (h1 : 1 ≤ c) (h2 : c ≤ 4096) : Cyc c (List.replicate c 0) 0 [] := ⟨by simp, h1, h2, by omega, by simp, fun i hi => by simp at hi⟩

/-- How many of n bytes lie before the end of the places, from the place a on. -/
def hd (c a n : Nat) : Nat := min n (c - a)
theorem hd_or (c a n : Nat) : (hd c a n = n ∧ n ≤ c - a) ∨ (hd c a n = c - a ∧ c - a ≤ n) := by unfold hd; omega

theorem Cyc.write {c f : Nat} {xs B P : List UInt8} (h : Cyc c xs f B) (n : Nat) (hn : n = min P.length (c - B.length)) :
    Cyc c (splice (splice xs (wr c (f + B.length)) ((P.take n).take (hd c (wr c (f + B.length)) n))) 0 ((P.take n).drop (hd c (wr c (f + B.length)) n))) f (B ++ P.take n) := by
  have hbl := h.bl
  have hfl := h.fl
  have hnP : n ≤ P.length := by omega
  have hl := wr_lt (c := c) (x := f + B.length) (by omega)
  have hk : hd c (wr c (f + B.length)) n ≤ n := by unfold hd; omega
  have l1 : ((P.take n).take (hd c (wr c (f + B.length)) n)).length = hd c (wr c (f + B.length)) n := by simp; omega
  have l2 : ((P.take n).drop (hd c (wr c (f + B.length)) n)).length = n - hd c (wr c (f + B.length)) n := by simp; omega
  have hkc : wr c (f + B.length) + hd c (wr c (f + B.length)) n ≤ c := by unfold hd; omega
  have hs1 : (splice xs (wr c (f + B.length)) ((P.take n).take (hd c (wr c (f + B.length)) n))).length = xs.length := length_splice _ _ _ (by rw [l1, h.len]; omega)
  have hs2 := length_splice (splice xs (wr c (f + B.length)) ((P.take n).take (hd c (wr c (f + B.length)) n))) 0 ((P.take n).drop (hd c (wr c (f + B.length)) n)) (by rw [hs1, l2, h.len]; omega)
  refine ⟨by rw [hs2, hs1, h.len], h.pos, h.top, h.fl, by simp; omega, fun i hi => ?_⟩
  rw [List.length_append, List.length_take] at hi
  rw [splice_get _ _ _ (by rw [hs1, l2, h.len]; omega), splice_get _ _ _ (by rw [l1, h.len]; omega), l1, l2]
  have hw := wr_lt (c := c) (x := f + i) (by omega)
  have o1 := wr_or c (f + i)
  have o2 := wr_or c (f + B.length)
  have o3 := hd_or c (wr c (f + B.length)) n
  by_cases hb : i < B.length
  · rw [List.getElem?_append_left hb, ← h.at' i hb]
    have e2 : ¬ wr c (f + i) < 0 + (n - hd c (wr c (f + B.length)) n) := by omega
    rw [if_neg (by omega), if_neg e2]
    by_cases e3 : wr c (f + i) < wr c (f + B.length)
    · rw [if_pos e3]
    · rw [if_neg e3, if_neg (by omega)]
  · rw [List.getElem?_append_right (by omega)]
    have hin : i - B.length < n := by omega
    by_cases hq : i - B.length < hd c (wr c (f + B.length)) n
    · have e1 : ¬ wr c (f + i) < 0 := by omega
      have e2 : ¬ wr c (f + i) < 0 + (n - hd c (wr c (f + B.length)) n) := by omega
      have e3 : ¬ wr c (f + i) < wr c (f + B.length) := by omega
      have e4 : wr c (f + i) < wr c (f + B.length) + hd c (wr c (f + B.length)) n := by omega
      have e5 : wr c (f + i) - wr c (f + B.length) = i - B.length := by omega
      rw [if_neg e1, if_neg e2, if_neg e3, if_pos e4, e5, List.getElem?_take, if_pos hq]
    · have e1 : ¬ wr c (f + i) < 0 := by omega
      have e2 : wr c (f + i) < 0 + (n - hd c (wr c (f + B.length)) n) := by omega
      have e5 : hd c (wr c (f + B.length)) n + (wr c (f + i) - 0) = i - B.length := by omega
      rw [if_neg e1, if_pos e2, List.getElem?_drop, e5]

theorem Cyc.skip {c f : Nat} {xs B : List UInt8} (h : Cyc c xs f B) (n : Nat) (hn : n ≤ B.length) :
    Cyc c (splice (splice xs f (List.replicate (hd c f n) 0)) 0 (List.replicate (n - hd c f n) 0)) (wr c (f + n)) (B.drop n) := by
  have hbl := h.bl
  have hfl := h.fl
  have hkc : f + hd c f n ≤ c := by unfold hd; omega
  have hk : hd c f n ≤ n := by unfold hd; omega
  have hs1 : (splice xs f (List.replicate (hd c f n) 0)).length = xs.length := length_splice _ _ _ (by rw [List.length_replicate, h.len]; omega)
  have hs2 := length_splice (splice xs f (List.replicate (hd c f n) 0)) 0 (List.replicate (n - hd c f n) (0 : UInt8)) (by rw [hs1, List.length_replicate, h.len]; omega)
  refine ⟨by rw [hs2, hs1, h.len], h.pos, h.top, wr_lt (by omega), by simp; omega, fun i hi => ?_⟩
  rw [List.length_drop] at hi
  rw [splice_get _ _ _ (by rw [hs1, List.length_replicate, h.len]; omega), splice_get _ _ _ (by rw [List.length_replicate, h.len]; omega), List.length_replicate, List.length_replicate, List.getElem?_drop, ← h.at' (n + i) (by omega)]
  have o1 := wr_or c (f + (n + i))
  have o2 := wr_or c (f + n)
  have o3 := hd_or c f n
  have o4 := wr_or c (wr c (f + n) + i)
  have e0 : wr c (wr c (f + n) + i) = wr c (f + (n + i)) := by omega
  rw [e0]
  have e1 : ¬ wr c (f + (n + i)) < 0 + (n - hd c f n) := by omega
  have e2 : wr c (f + (n + i)) < f ∨ ¬ wr c (f + (n + i)) < f + hd c f n := by omega
  rw [if_neg (by omega), if_neg e1]
  rcases e2 with e2 | e2
  · rw [if_pos e2]
  · by_cases e3 : wr c (f + (n + i)) < f
    · rw [if_pos e3]
    · rw [if_neg e3, if_neg e2]

/-- What is copied out from the place of an offset on. -/
theorem Cyc.peek {c f : Nat} {xs B : List UInt8} (h : Cyc c xs f B) (o m : Nat) (hm : o + m ≤ B.length) :
    splice (splice (List.replicate m (0 : UInt8)) 0 ((xs.drop (wr c (f + o))).take (hd c (wr c (f + o)) m))) (hd c (wr c (f + o)) m) (xs.take (m - hd c (wr c (f + o)) m)) = (B.drop o).take m := by
  have hbl := h.bl
  have hfl := h.fl
  have hl := wr_lt (c := c) (x := f + o) (by omega)
  have hk : hd c (wr c (f + o)) m ≤ m := by unfold hd; omega
  have hkc : wr c (f + o) + hd c (wr c (f + o)) m ≤ c := by unfold hd; omega
  have l1 : ((xs.drop (wr c (f + o))).take (hd c (wr c (f + o)) m)).length = hd c (wr c (f + o)) m := by simp [h.len]; omega
  have l2 : (xs.take (m - hd c (wr c (f + o)) m)).length = m - hd c (wr c (f + o)) m := by simp [h.len]; omega
  have hs1 : (splice (List.replicate m (0 : UInt8)) 0 ((xs.drop (wr c (f + o))).take (hd c (wr c (f + o)) m))).length = m := by rw [length_splice _ _ _ (by rw [l1, List.length_replicate]; omega), List.length_replicate]
  apply List.ext_getElem?
  intro i
  rw [splice_get _ _ _ (by rw [hs1, l2]; omega), splice_get _ _ _ (by rw [l1, List.length_replicate]; omega), l1, l2]
  have o1 := wr_or c (f + (o + i))
  have o2 := wr_or c (f + o)
  have o3 := hd_or c (wr c (f + o)) m
  by_cases hi : i < m
  · have er : (List.take m (List.drop o B))[i]? = xs[wr c (f + (o + i))]? := by rw [List.getElem?_take, if_pos hi, List.getElem?_drop, h.at' (o + i) (by omega)]
    rw [er]
    by_cases hq : i < hd c (wr c (f + o)) m
    · rw [if_pos hq, if_neg (by omega), if_pos (by omega), List.getElem?_take, if_pos (by omega), List.getElem?_drop]
      congr 1
      omega
    · rw [if_neg hq, if_pos (by omega), List.getElem?_take, if_pos (by omega)]
      congr 1
      omega
  · have er : (List.take m (List.drop o B))[i]? = none := by rw [List.getElem?_take, if_neg hi]
    rw [er, if_neg (by omega), if_neg (by omega), if_neg (by omega), if_neg (by omega), List.getElem?_replicate, if_neg hi]

/-- A byte in memory. -/
def encB (x : UInt8) : Value := .int .u8 ((x.toNat : Nat) : Int)
theorem encB_one (L : List UInt8) : ∀ u ∈ L.map encB, u.oneCell' = true := by
  intro u hu
  obtain ⟨x, _, rfl⟩ := List.mem_map.1 hu
  rfl
theorem splice_map {α β : Type} (g : α → β) (L : List α) (r : List β) (off : Nat) (cs : List α) (h : off + cs.length ≤ L.length) : splice (L.map g ++ r) off (cs.map g) = (splice L off cs).map g ++ r := by
  unfold splice
  rw [List.take_append_of_le_length (by simp; omega), List.drop_append_of_le_length (by simp; omega)]
  simp [List.map_take, List.map_drop, List.append_assoc]
end Go.Proofs.Ytilafgemgdjfhaa
