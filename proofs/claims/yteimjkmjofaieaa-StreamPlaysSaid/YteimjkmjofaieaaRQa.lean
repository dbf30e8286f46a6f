/- Ring buffers (layer 4) as they are used by a buffered stream. -/
import Derived.Test.YteimjkmjofaieaaCConv
import Derived.Deep.QuietTactic
import Derived.BigQuiet
namespace Go.Proofs.Yteimjkmjofaieaa
namespace Rg
open Go.RowKit Go.Sort
set_option linter.unusedVariables false
set_option linter.unusedSimpArgs false
set_option maxRecDepth 100000

/-- Place x of a ring of c places, where x is less than 2 * c. -/
def wr (c x : Nat) : Nat := if x < c then x else x - c

theorem wr_lt {c x : Nat} (hx : x < 2 * c) : wr c x < c := by unfold wr; split <;> omega
theorem wr_mod {c x : Nat} (hx : x < 2 * c) : x % c = wr c x := by
  unfold wr
  split
  · exact Nat.mod_eq_of_lt (by assumption)
  · rw [Nat.mod_eq_sub_mod (by omega), Nat.mod_eq_of_lt (by omega)]
theorem wr_int {c a b : Nat} (h : a + b < 2 * c) : ((a : Int) + (b : Int)) % (c : Int) = ((wr c (a + b) : Nat) : Int) := by
  rw [← wr_mod h, Int.natCast_emod, Int.natCast_add]
theorem wr_or (c x : Nat) : (wr c x = x ∧ x < c) ∨ (wr c x = x - c ∧ c ≤ x) := by
  unfold wr
  split <;> omega

theorem splice_get {α : Type} (L : List α) (off : Nat) (cs : List α) (h : off + cs.length ≤ L.length) (k : Nat) :
    (splice L off cs)[k]? = if k < off then L[k]? else if k < off + cs.length then cs[k - off]? else L[k]? := by
  unfold splice
  have hl : (L.take off).length = off := by simp; omega
  by_cases h1 : k < off
  · rw [if_pos h1, List.getElem?_append_left (by omega), List.getElem?_take, if_pos h1]
  · rw [if_neg h1, List.getElem?_append_right (by omega), hl]
    by_cases h2 : k < off + cs.length
    · rw [if_pos h2, List.getElem?_append_left (by omega)]
    · rw [if_neg h2, List.getElem?_append_right (by omega), List.getElem?_drop]
      congr 1; omega

/-- The bytes B lie in the c places xs, from the place f on. -/
structure Cyc (c : Nat) (xs : List UInt8) (f : Nat) (B : List UInt8) : Prop where
  len : xs.length = c
  pos : 1 ≤ c
  top : c ≤ 4096
  fl : f < c
  bl : B.length ≤ c
  at' : ∀ i, i < B.length → xs[wr c (f + i)]? = B[i]?

theorem Cyc.new {c : Nat} (h1 : 1 ≤ c) (h2 : c ≤ 4096) : Cyc c (List.replicate c 0) 0 [] := ⟨by simp, h1, h2, by omega, by simp, fun i hi => by simp at hi⟩

/-- How many of n bytes lie before the end of the places, from the place a on. -/
def hd (c a n : Nat) : Nat := min n (c - a)
theorem hd_or (c a n : Nat) : (hd c a n = n ∧ n ≤ c - a) ∨ (hd c a n = c - a ∧ c - a ≤ n) := by unfold hd; omega

theorem Cyc.write {c f : Nat} {xs B P : List UInt8} (h : Cyc c xs f B) (n : Nat) (hn : n = min P.length (c - B.length)) :
    Cyc c (splice (splice xs (wr c (f + B.length)) ((P.take n).take (hd c (wr c (f + B.length)) n))) 0 ((P.take n).drop (hd c (wr c (f + B.length)) n))) f (B ++ P.take n) := by
  have hbl := h.bl
  have hfl := h.fl
  have hnP : n ≤ P.length := by omega
  have hl := wr_lt (c := c) (x := f + B.length) (by omega)
  have hk : hd c (wr c (f + B.length)) n ≤ n := by unfold hd; omega
  have l1 : ((P.take n).take (hd c (wr c (f + B.length)) n)).length = hd c (wr c (f + B.length)) n := by simp; omega
  have l2 : ((P.take n).drop (hd c (wr c (f + B.length)) n)).length = n - hd c (wr c (f + B.length)) n := by simp; omega
  have hkc : wr c (f + B.length) + hd c (wr c (f + B.length)) n ≤ c := by unfold hd; omega
  have hs1 : (splice xs (wr c (f + B.length)) ((P.take n).take (hd c (wr c (f + B.length)) n))).length = xs.length := length_splice _ _ _ (by rw [l1, h.len]; omega)
  have hs2 := length_splice (splice xs (wr c (f + B.length)) ((P.take n).take (hd c (wr c (f + B.length)) n))) 0 ((P.take n).drop (hd c (wr c (f + B.length)) n)) (by rw [hs1, l2, h.len]; omega)
  refine ⟨by rw [hs2, hs1, h.len], h.pos, h.top, h.fl, by simp; omega, fun i hi => ?_⟩
  rw [List.length_append, List.length_take] at hi
  rw [splice_get _ _ _ (by rw [hs1, l2, h.len]; omega), splice_get _ _ _ (by rw [l1, h.len]; omega), l1, l2]
  have hw := wr_lt (c := c) (x := f + i) (by omega)
  have o1 := wr_or c (f + i)
  have o2 := wr_or c (f + B.length)
  have o3 := hd_or c (wr c (f + B.length)) n
  by_cases hb : i < B.length
  · rw [List.getElem?_append_left hb, ← h.at' i hb]
    have e2 : ¬ wr c (f + i) < 0 + (n - hd c (wr c (f + B.length)) n) := by omega
    rw [if_neg (by omega), if_neg e2]
    by_cases e3 : wr c (f + i) < wr c (f + B.length)
    · rw [if_pos e3]
    · rw [if_neg e3, if_neg (by omega)]
  · rw [List.getElem?_append_right (by omega)]
    have hin : i - B.length < n := by omega
    by_cases hq : i - B.length < hd c (wr c (f + B.length)) n
    · have e1 : ¬ wr c (f + i) < 0 := by omega
      have e2 : ¬ wr c (f + i) < 0 + (n - hd c (wr c (f + B.length)) n) := by omega
      have e3 : ¬ wr c (f + i) < wr c (f + B.length) := by omega
      have e4 : wr c (f + i) < wr c (f + B.length) + hd c (wr c (f + B.length)) n := by omega
      have e5 : wr c (f + i) - wr c (f + B.length) = i - B.length := by omega
      rw [if_neg e1, if_neg e2, if_neg e3, if_pos e4, e5, List.getElem?_take, if_pos hq]
    · have e1 : ¬ wr c (f + i) < 0 := by omega
      have e2 : wr c (f + i) < 0 + (n - hd c (wr c (f + B.length)) n) := by omega
      have e5 : hd c (wr c (f + B.length)) n + (wr c (f + i) - 0) = i - B.length := by omega
      rw [if_neg e1, if_pos e2, List.getElem?_drop, e5]

theorem Cyc.skip {c f : Nat} {xs B : List UInt8} (h : Cyc c xs f B) (n : Nat) (hn : n ≤ B.length) :
    Cyc c (splice (splice xs f (List.replicate (hd c f n) 0)) 0 (List.replicate (n - hd c f n) 0)) (wr c (f + n)) (B.drop n) := by
  have hbl := h.bl
  have hfl := h.fl
  have hkc : f + hd c f n ≤ c := by unfold hd; omega
  have hk : hd c f n ≤ n := by unfold hd; omega
  have hs1 : (splice xs f (List.replicate (hd c f n) 0)).length = xs.length := length_splice _ _ _ (by rw [List.length_replicate, h.len]; omega)
  have hs2 := length_splice (splice xs f (List.replicate (hd c f n) 0)) 0 (List.replicate (n - hd c f n) (0 : UInt8)) (by rw [hs1, List.length_replicate, h.len]; omega)
  refine ⟨by rw [hs2, hs1, h.len], h.pos, h.top, wr_lt (by omega), by simp; omega, fun i hi => ?_⟩
  rw [List.length_drop] at hi
  rw [splice_get _ _ _ (by rw [hs1, List.length_replicate, h.len]; omega), splice_get _ _ _ (by rw [List.length_replicate, h.len]; omega), List.length_replicate, List.length_replicate, List.getElem?_drop, ← h.at' (n + i) (by omega)]
  have o1 := wr_or c (f + (n + i))
  have o2 := wr_or c (f + n)
  have o3 := hd_or c f n
  have o4 := wr_or c (wr c (f + n) + i)
  have e0 : wr c (wr c (f + n) + i) = wr c (f + (n + i)) := by omega
  rw [e0]
  have e1 : ¬ wr c (f + (n + i)) < 0 + (n - hd c f n) := by omega
  have e2 : wr c (f + (n + i)) < f ∨ ¬ wr c (f + (n + i)) < f + hd c f n := by omega
  rw [if_neg (by omega), if_neg e1]
  rcases e2 with e2 | e2
  · rw [if_pos e2]
  · by_cases e3 : wr c (f + (n + i)) < f
    · rw [if_pos e3]
    · rw [if_neg e3, if_neg e2]

/-- What is copied out from the place of an offset on. -/
theorem Cyc.peek {c f : Nat} {xs B : List UInt8} (h : Cyc c xs f B) (o m : Nat) (hm : o + m ≤ B.length) :
    splice (splice (List.replicate m (0 : UInt8)) 0 ((xs.drop (wr c (f + o))).take (hd c (wr c (f + o)) m))) (hd c (wr c (f + o)) m) (xs.take (m - hd c (wr c (f + o)) m)) = (B.drop o).take m := by
  have hbl := h.bl
  have hfl := h.fl
  have hl := wr_lt (c := c) (x := f + o) (by omega)
  have hk : hd c (wr c (f + o)) m ≤ m := by unfold hd; omega
  have hkc : wr c (f + o) + hd c (wr c (f + o)) m ≤ c := by unfold hd; omega
  have l1 : ((xs.drop (wr c (f + o))).take (hd c (wr c (f + o)) m)).length = hd c (wr c (f + o)) m := by simp [h.len]; omega
  have l2 : (xs.take (m - hd c (wr c (f + o)) m)).length = m - hd c (wr c (f + o)) m := by simp [h.len]; omega
  have hs1 : (splice (List.replicate m (0 : UInt8)) 0 ((xs.drop (wr c (f + o))).take (hd c (wr c (f + o)) m))).length = m := by rw [length_splice _ _ _ (by rw [l1, List.length_replicate]; omega), List.length_replicate]
  apply List.ext_getElem?
  intro i
  rw [splice_get _ _ _ (by rw [hs1, l2]; omega), splice_get _ _ _ (by rw [l1, List.length_replicate]; omega), l1, l2]
  have o1 := wr_or c (f + (o + i))
  have o2 := wr_or c (f + o)
  have o3 := hd_or c (wr c (f + o)) m
  by_cases hi : i < m
  · have er : (List.take m (List.drop o B))[i]? = xs[wr c (f + (o + i))]? := by rw [List.getElem?_take, if_pos hi, List.getElem?_drop, h.at' (o + i) (by omega)]
    rw [er]
    by_cases hq : i < hd c (wr c (f + o)) m
    · rw [if_pos hq, if_neg (by omega), if_pos (by omega), List.getElem?_take, if_pos (by omega), List.getElem?_drop]
      congr 1
      omega
    · rw [if_neg hq, if_pos (by omega), List.getElem?_take, if_pos (by omega)]
      congr 1
      omega
  · have er : (List.take m (List.drop o B))[i]? = none := by rw [List.getElem?_take, if_neg hi]
    rw [er, if_neg (by omega), if_neg (by omega), if_neg (by omega), if_neg (by omega), List.getElem?_replicate, if_neg hi]


theorem splice_map {α β : Type} (g : α → β) (L : List α) (r : List β) (off : Nat) (cs : List α) (h : off + cs.length ≤ L.length) : splice (L.map g ++ r) off (cs.map g) = (splice L off cs).map g ++ r := by
  unfold splice
  rw [List.take_append_of_le_length (by simp; omega), List.drop_append_of_le_length (by simp; omega)]
  simp [List.map_take, List.map_drop, List.append_assoc]

/-- A ring buffer at block a, made since w0; it owns no block of G. -/
structure RgB (w0 : World) (G : Nat → Prop) (w : World) (a bb cc cp c f : Nat) (xs B : List UInt8) : Prop where
  ta : w.heap[a]? = some (.cells #[pt bb] 135 (0, 0))
  tb : w.heap[bb]? = some (.cells #[.slice (some ⟨cc, 0, none⟩) c cp, .int .i64 f, .int .i64 B.length] 133 (0, 0))
  tc : ∃ r, w.heap[cc]? = some (.cells (xs.map encB ++ r).toArray 5 (0, 0)) ∧ (xs.map encB ++ r).length = cp
  ccp : c ≤ cp
  cpm : cp ≤ maxLen
  cyc : Cyc c xs f B
  na : ¬ G a
  nb : ¬ G bb
  nc : ¬ G cc
  ba : w0.heap.size ≤ a
  bb0 : w0.heap.size ≤ bb
  bc : w0.heap.size ≤ cc
  lt : ∀ k, G k → k < w.heap.size
  below : Below w0.heap.size w0 w

/-- A ring buffer of the capacity c that holds the bytes B. -/
def RgIn (w0 : World) (G : Nat → Prop) (w : World) (a c : Nat) (B : List UInt8) : Prop := ∃ bb cc cp f xs, RgB w0 G w a bb cc cp c f xs B

namespace RgB
variable {w0 w : World} {G : Nat → Prop} {a bb cc cp c f : Nat} {xs B : List UInt8}

theorem ca (R : RgB w0 G w a bb cc cp c f xs B) : w.cell? ⟨a, 0, none⟩ = some (.pointer (some ⟨bb, 0, none⟩)) := cells_cell R.ta rfl
theorem c0 (R : RgB w0 G w a bb cc cp c f xs B) : w.cell? ⟨bb, 0, none⟩ = some (.slice (some ⟨cc, 0, none⟩) c cp) := cells_cell R.tb rfl
theorem c1 (R : RgB w0 G w a bb cc cp c f xs B) : w.cell? ⟨bb, 1, none⟩ = some (.int .i64 f) := cells_cell R.tb rfl
theorem c2 (R : RgB w0 G w a bb cc cp c f xs B) : w.cell? ⟨bb, 2, none⟩ = some (.int .i64 B.length) := cells_cell R.tb rfl
theorem alt (R : RgB w0 G w a bb cc cp c f xs B) : a < w.heap.size := lt_of_block R.ta
theorem blt (R : RgB w0 G w a bb cc cp c f xs B) : bb < w.heap.size := lt_of_block R.tb
theorem clt (R : RgB w0 G w a bb cc cp c f xs B) : cc < w.heap.size := by obtain ⟨r, h, _⟩ := R.tc; exact lt_of_block h
theorem ab (R : RgB w0 G w a bb cc cp c f xs B) : a ≠ bb := ne_types R.ta R.tb (by decide)
theorem cb (R : RgB w0 G w a bb cc cp c f xs B) : cc ≠ bb := by obtain ⟨r, h, _⟩ := R.tc; exact ne_types h R.tb (by decide)
theorem ac (R : RgB w0 G w a bb cc cp c f xs B) : a ≠ cc := by obtain ⟨r, h, _⟩ := R.tc; exact ne_types R.ta h (by decide)

/-- The world has grown; the blocks left alone may be new ones, too. -/
theorem more {w' : World} {G' : Nat → Prop} (R : RgB w0 G w a bb cc cp c f xs B) (hb : Below w.heap.size w w') (hG : ∀ k, G' k → G k ∨ (w.heap.size ≤ k ∧ k < w'.heap.size)) : RgB w0 G' w' a bb cc cp c f xs B := by
  obtain ⟨r, hr, hl⟩ := R.tc
  have ho : ∀ k, k < w.heap.size → ¬ G k → ¬ G' k := fun k hk hn hg => by
    rcases hG k hg with h' | h'
    · exact hn h'
    · omega
  refine ⟨(hb.block a R.alt).trans R.ta, (hb.block bb R.blt).trans R.tb, ⟨r, (hb.block cc R.clt).trans hr, hl⟩, R.ccp, R.cpm, R.cyc, ho a R.alt R.na, ho bb R.blt R.nb, ho cc R.clt R.nc, R.ba, R.bb0, R.bc, fun k hk => ?_, R.below.trans (hb.mono R.below.size)⟩
  rcases hG k hk with h' | h'
  · have := R.lt k h'; have := hb.size; omega
  · exact h'.2
/-- Blocks of the law's own are written. -/
theorem write {w' : World} {F : List Nat} (R : RgB w0 G w a bb cc cp c f xs B) (hf : Fr F w w') (hF : ∀ k, k ∈ F → G k ∧ w0.heap.size ≤ k) : RgB w0 G w' a bb cc cp c f xs B := by
  obtain ⟨r, hr, hl⟩ := R.tc
  exact ⟨hf.same R.ta (fun h => R.na (hF _ h).1), hf.same R.tb (fun h => R.nb (hF _ h).1), ⟨r, hf.same hr (fun h => R.nc (hF _ h).1), hl⟩, R.ccp, R.cpm, R.cyc, R.na, R.nb, R.nc, R.ba, R.bb0, R.bc,
    fun k hk => Nat.lt_of_lt_of_le (R.lt k hk) hf.size, R.below.trans (hf.below (fun x hx => (hF x hx).2) R.below.size)⟩
/-- The counts and the places are written. -/
theorem turn {w' : World} {f' : Nat} {xs' B' : List UInt8} (R : RgB w0 G w a bb cc cp c f xs B) (hf : Fr [bb, cc] w w') (hb : w'.heap[bb]? = some (.cells #[.slice (some ⟨cc, 0, none⟩) c cp, .int .i64 f', .int .i64 B'.length] 133 (0, 0)))
    (hc : ∃ r, w'.heap[cc]? = some (.cells (xs'.map encB ++ r).toArray 5 (0, 0)) ∧ (xs'.map encB ++ r).length = cp) (hy : Cyc c xs' f' B') : RgB w0 G w' a bb cc cp c f' xs' B' ∧ Keep G w w' := by
  refine ⟨⟨hf.same R.ta (fun h => ?_), hb, hc, R.ccp, R.cpm, hy, R.na, R.nb, R.nc, R.ba, R.bb0, R.bc, fun k hk => Nat.lt_of_lt_of_le (R.lt k hk) hf.size, R.below.trans (hf.below (fun x hx => ?_) R.below.size)⟩, fun k hk => hf.block k (R.lt k hk) (fun h => ?_)⟩
  · simp only [List.mem_cons, List.not_mem_nil, or_false] at h
    rcases h with h | h
    · exact R.ab h
    · exact R.ac h
  · simp only [List.mem_cons, List.not_mem_nil, or_false] at hx
    rcases hx with rfl | rfl
    · exact R.bb0
    · exact R.bc
  · simp only [List.mem_cons, List.not_mem_nil, or_false] at h
    rcases h with rfl | rfl
    · exact R.nb hk
    · exact R.nc hk
end RgB

namespace RgIn
variable {w0 w : World} {G : Nat → Prop} {a c : Nat} {B : List UInt8}
theorem below (R : RgIn w0 G w a c B) : Below w0.heap.size w0 w := by obtain ⟨_, _, _, _, _, R⟩ := R; exact R.below
theorem lt (R : RgIn w0 G w a c B) : ∀ k, G k → k < w.heap.size := by obtain ⟨_, _, _, _, _, R⟩ := R; exact R.lt
theorem more {w' : World} {G' : Nat → Prop} (R : RgIn w0 G w a c B) (hb : Below w.heap.size w w') (hG : ∀ k, G' k → G k ∨ (w.heap.size ≤ k ∧ k < w'.heap.size)) : RgIn w0 G' w' a c B := by obtain ⟨x1, x2, x3, x4, x5, R⟩ := R; exact ⟨x1, x2, x3, x4, x5, R.more hb hG⟩
theorem grown {w' : World} (R : RgIn w0 G w a c B) (hb : Below w.heap.size w w') : RgIn w0 G w' a c B := R.more hb fun _ h => .inl h
theorem less {G' : Nat → Prop} (R : RgIn w0 G w a c B) (hG : ∀ k, G' k → G k) : RgIn w0 G' w a c B := R.more (Below.refl _ _) fun k h => .inl (hG k h)
theorem write {w' : World} {F : List Nat} (R : RgIn w0 G w a c B) (hf : Fr F w w') (hF : ∀ k, k ∈ F → G k ∧ w0.heap.size ≤ k) : RgIn w0 G w' a c B := by obtain ⟨x1, x2, x3, x4, x5, R⟩ := R; exact ⟨x1, x2, x3, x4, x5, R.write hf hF⟩
theorem bl (R : RgIn w0 G w a c B) : B.length ≤ c := by obtain ⟨_, _, _, _, _, R⟩ := R; exact R.cyc.bl
theorem pos (R : RgIn w0 G w a c B) : 1 ≤ c := by obtain ⟨_, _, _, _, _, R⟩ := R; exact R.cyc.pos
theorem top (R : RgIn w0 G w a c B) : c ≤ 4096 := by obtain ⟨_, _, _, _, _, R⟩ := R; exact R.cyc.top
end RgIn

theorem drew_below (w : World) (n : Nat) : Below w.heap.size w (w.drewN n) := (fr_drewN w n []).below (fun _ hx => by simp at hx) (Nat.le_refl _)

set_option maxHeartbeats 400000 in
theorem usable_nil (w : World) : Calls Try.prog 83 #[.pointer none] w fun e w' => e = .returned (.bool false) ∧ w = w' := by
  go_enter Try.func83, Try.ntmps83
  go_wp2_with fail
  go_ret
  exact ⟨rfl, rfl⟩
set_option maxHeartbeats 400000 in
theorem usable_zero (a : Nat) (w : World) (hc : w.cell? ⟨a, 0, none⟩ = some (.pointer none)) : Calls Try.prog 83 #[.pointer (some ⟨a, 0, none⟩)] w fun e w' => e = .returned (.bool false) ∧ w = w' := by
  go_enter Try.func83, Try.ntmps83
  go_wp2_with fail
  go_ret
  exact ⟨rfl, rfl⟩
set_option maxHeartbeats 400000 in
theorem usable_yes (a bb : Nat) (w : World) (hc : w.cell? ⟨a, 0, none⟩ = some (.pointer (some ⟨bb, 0, none⟩))) : Calls Try.prog 83 #[.pointer (some ⟨a, 0, none⟩)] w fun e w' => e = .returned (.bool true) ∧ w = w' := by
  go_enter Try.func83, Try.ntmps83
  go_wp2_with fail
  go_ret
  exact ⟨rfl, rfl⟩

section
variable {w0 w : World} {G : Nat → Prop} {a bb cc cp c f : Nat} {xs B : List UInt8}

set_option maxHeartbeats 400000 in
theorem len_any (R : RgB w0 G w a bb cc cp c f xs B) : Calls Try.prog 72 #[pt a] w fun e w' => e = .returned (.int .i64 B.length) ∧ w = w' := by
  have hu := Lib.hid (usable_yes a bb w R.ca)
  have ca := R.ca
  have c2 := R.c2
  have bl := R.alt
  have bl2 := R.blt
  clear R
  unfold pt
  go_enter Try.func72, Try.ntmps72
  go_wp2_with (go_at_call 83; refine hu.out.mono ?_; rintro e w' ⟨rfl, rfl⟩)
  go_ret
  exact ⟨rfl, rfl⟩
set_option maxHeartbeats 400000 in
theorem cap_any (R : RgB w0 G w a bb cc cp c f xs B) : Calls Try.prog 88 #[pt a] w fun e w' => e = .returned (.int .i64 c) ∧ w = w' := by
  have hu := Lib.hid (usable_yes a bb w R.ca)
  have ca := R.ca
  have c0 := R.c0
  have bl := R.alt
  have bl2 := R.blt
  clear R
  unfold pt
  go_enter Try.func88, Try.ntmps88
  go_wp2_with (go_at_call 83; refine hu.out.mono ?_; rintro e w' ⟨rfl, rfl⟩)
  go_ret
  exact ⟨rfl, rfl⟩
set_option maxHeartbeats 400000 in
theorem free_any (R : RgB w0 G w a bb cc cp c f xs B) : Calls Try.prog 80 #[pt a] w fun e w' => e = .returned (.int .i64 ((c - B.length : Nat) : Int)) ∧ w = w' := by
  have h1 := Lib.hid (len_any R)
  have h2 := Lib.hid (cap_any R)
  have h3 := R.cyc.bl
  have h4 := R.cyc.top
  have e1 : (B.length : Int) ≤ (c : Int) := by omega
  have e2 : (c : Int) ≤ 4096 := by omega
  have e3 : ((c - B.length : Nat) : Int) = (c : Int) - (B.length : Int) := by omega
  rw [e3]
  clear R e3
  unfold pt at *
  go_enter Try.func80, Try.ntmps80
  go_wp2_with (first | (go_at_call 88; refine h2.out.mono ?_; rintro e w' ⟨rfl, rfl⟩) | (go_at_call 72; refine h1.out.mono ?_; rintro e w' ⟨rfl, rfl⟩))
  go_ret
  exact ⟨rfl, rfl⟩
end

/-- What pieces returns: h places from the place v on, and t from the beginning. -/
structure PcR (w : World) (cc v h t : Nat) (e : Ending) (w' : World) : Prop where
  ex : ∃ a1 a2 k, e = .returned (.tuple #[.slice a1 h h, .slice a2 t t]) ∧ (0 < h → a1 = some ⟨cc, v, none⟩) ∧ (0 < t → a2 = some ⟨cc, 0, none⟩) ∧ w' = w.drewN k

set_option maxHeartbeats 1600000 in
theorem pieces_at {w : World} {bb cc cp c f : Nat} (c0 : w.cell? ⟨bb, 0, none⟩ = some (.slice (some ⟨cc, 0, none⟩) c cp)) (c1 : w.cell? ⟨bb, 1, none⟩ = some (.int .i64 f)) (h3 : f < c) (h4 : c ≤ 4096) (h6 : c ≤ cp) (h7 : cp ≤ maxLen)
    (o n v p t : Nat) (h0 : o + n ≤ c) (hv : ((f : Int) + (o : Int)).tmod (c : Int) = (v : Int)) (hvc : v < c) (ho : (p = n ∧ n ≤ c - v) ∨ (p = c - v ∧ c - v < n)) (ht : t = n - p) :
    Calls Try.prog 89 #[.pointer (some ⟨bb, 0, none⟩), .int .i64 o, .int .i64 n] w (PcR w cc v p t) := by
  have bl2 : bb < w.heap.size := World.block_lt_of_cell? w _ c0
  rcases ho with ⟨rfl, hk⟩ | ⟨hk, hk2⟩
  · obtain rfl : t = 0 := by omega
    clear ht
    have e1 : (f : Int) < (c : Int) := by omega
    have e2 : (c : Int) ≤ 4096 := by omega
    have e3 : (1 : Int) ≤ (c : Int) := by omega
    have e4 : (o : Int) + (p : Int) ≤ (c : Int) := by omega
    have e5 : (v : Int) + (p : Int) ≤ (c : Int) := by omega
    have e6 : (c : Int) ≤ (cp : Int) := by omega
    have r1 : (p : Int) - ((v : Int) + (p : Int) - (v : Int)) = 0 := by omega
    go_enter Try.func89, Try.ntmps89
    go_wp2_with fail
    go_quiet (fail)
    go_wp2_with fail
    go_quiet (fail)
    all_goals go_wp2_with fail
    all_goals go_ret2
    all_goals (by_cases hz : p = 0)
    all_goals (first | (exfalso; omega) | (subst hz; skip) | skip)
    all_goals exact ⟨_, _, _, rfl, fun h => by first | rfl | omega, fun h => by omega, rfl⟩
  · obtain ⟨k, rfl⟩ : ∃ k, c = v + k := ⟨c - v, by omega⟩
    obtain rfl : p = k := by omega
    obtain rfl : n = p + t := by omega
    have ht1 : 1 ≤ t := by omega
    clear ht hk hk2
    rw [Int.natCast_add] at hv
    have e1 : (f : Int) < (v : Int) + (p : Int) := by omega
    have e2 : (v : Int) + (p : Int) ≤ 4096 := by omega
    have e3 : (1 : Int) ≤ (v : Int) + (p : Int) := by omega
    have e4 : (o : Int) + ((p : Int) + (t : Int)) ≤ (v : Int) + (p : Int) := by omega
    have e6 : (v : Int) + (p : Int) ≤ (cp : Int) := by omega
    have r1 : (p : Int) + (t : Int) - ((v : Int) + (p : Int) - (v : Int)) = (t : Int) := by omega
    have e5 : (1 : Int) ≤ (t : Int) := by omega
    have r2 : (v : Int) + ((p : Int) + (t : Int)) = (v : Int) + (p : Int) + (t : Int) := by omega
    go_enter Try.func89, Try.ntmps89
    go_wp2_with fail
    go_quiet (fail)
    go_wp2_with fail
    all_goals go_quiet (fail)
    all_goals go_wp2_with fail
    all_goals (simp only [Nat.add_sub_cancel_left] at *)
    all_goals go_ret2
    all_goals exact ⟨_, _, _, rfl, fun h => by first | rfl | omega, fun h => by first | rfl | omega, World.drewN_drewN _ _ _⟩

theorem fr_setRow (w : World) (g : Nat) (cs : Array Value) : Fr [g] w (w.setRow g cs) :=
  ⟨rfl, rfl, rfl, by simp [World.setRow], fun k hk hn => setRow_other w g k cs (by simpa using hn)⟩

theorem wpList_copy_fr {P : Program} {w : World} {ops : Array Oper} {rest : List Oper} {o : Oper} {a : Act} {Q : Exit → Act → World → Prop} (hgd : o.guard = none) (d s : Operand) (dT sT : TypeId)
    (ho : o.op = .call { callee := .builtin .copy, args := #[d, s], argTypes := #[dT, sT] }) (elem : TypeId) (hu : P.underlying dT = some (.slice elem)) (hsz : (P.info? elem).map (·.size) = some 1)
    (dp sp : Option Addr) (dLen dCap sLen sCap : Nat) (hd : a.eval d = .slice dp dLen dCap) (hs : a.eval s = .slice sp sLen sCap)
    (g off : Nat) (cur : List Value) (t : TypeId) (hg : w.heap[g]? = some (.cells cur.toArray t (0, 0))) (cs : List Value) (hn : cs.length = Nat.min sLen dLen)
    (hpos : 0 < cs.length → dp = some ⟨g, off, none⟩ ∧ ∃ ad, sp = some ad ∧ ∀ j v, cs[j]? = some v → w.cell? (ad.add j) = some v)
    (hfit : off + cs.length ≤ cur.length) (h1 : ∀ v ∈ cs, v.oneCell' = true)
    (h : ∀ w', Hid (w'.heap[g]? = some (.cells (splice cur off cs).toArray t (0, 0))) → Hid (Fr [g] w w') → wpList P ops Q rest (a.put o.dst (goInt cs.length)) w') :
    wpList P ops Q (o :: rest) a w := by
  by_cases h0 : cs.length = 0
  · obtain rfl : cs = [] := List.eq_nil_of_length_eq_zero h0
    refine wpList_copy_nothing hgd d s dT sT ho elem hu hsz dp sp dLen dCap sLen sCap hd hs (by simpa using hn.symm) ?_
    exact h w (show _ = _ by simpa [splice] using hg) (Fr.refl _ _)
  · obtain ⟨rfl, ad, rfl, hsrc⟩ := hpos (by omega)
    refine wpList_copy_own hgd d s dT sT ho elem hu hsz g off dLen dCap ad sLen sCap hd hs cur.toArray t hg cs hn hsrc (by simpa using hfit) h1 ?_
    exact h _ (show _ = _ by simpa [splice] using setRow_heap w g _ _ t _ hg) (fr_setRow _ _ _)

theorem fr_setCells (b : Nat) : ∀ (vs : List Value) (o : Nat) (w : World), Fr [b] w (w.setCells b o vs)
  | [], o, w => Fr.refl _ _
  | v :: r, o, w => (fr_setCell w ⟨b, o, none⟩ v).trans' (fr_setCells b r (o + 1) _)

theorem heap_setCells (b : Nat) (t : TypeId) : ∀ (vs : List Value) (o : Nat) (w : World) (cur : List Value), w.heap[b]? = some (.cells cur.toArray t (0, 0)) → o + vs.length ≤ cur.length →
    (w.setCells b o vs).heap[b]? = some (.cells (splice cur o vs).toArray t (0, 0))
  | [], o, w, cur, h, _ => by simpa [World.setCells, splice] using h
  | v :: r, o, w, cur, h, hl => by
    simp only [List.length_cons] at hl
    have h1 : (w.setCell ⟨b, o, none⟩ v).heap[b]? = some (.cells (cur.set o v).toArray t (0, 0)) := by
      have := cells_set h o v
      simpa using this
    have h2 := heap_setCells b t r (o + 1) _ _ h1 (by simp; omega)
    rw [World.setCells, h2]
    have : splice (cur.set o v) (o + 1) r = splice cur o (v :: r) := by
      unfold splice
      apply List.ext_getElem?
      intro k
      have l1 : (List.take (o + 1) (cur.set o v)).length = o + 1 := by simp; omega
      have l2 : (List.take o cur).length = o := by simp; omega
      by_cases hk : k < o
      · rw [List.getElem?_append_left (by omega), List.getElem?_append_left (by omega), List.getElem?_take, List.getElem?_take, if_pos (by omega), if_pos hk, List.getElem?_set_ne (by omega)]
      · by_cases hk2 : k = o
        · subst hk2
          rw [List.getElem?_append_left (by omega), List.getElem?_append_right (by omega), List.getElem?_take, if_pos (by omega), l2, List.getElem?_set_self (by omega)]
          simp
        · rw [List.getElem?_append_right (show (List.take (o + 1) (cur.set o v)).length ≤ k by omega), List.getElem?_append_right (show (List.take o cur).length ≤ k by omega), l1, l2, List.cons_append]
          obtain ⟨j, hj⟩ : ∃ j, k - o = j + 1 := ⟨k - o - 1, by omega⟩
          rw [hj, List.getElem?_cons_succ, show k - (o + 1) = j by omega]
          by_cases hr : j < r.length
          · rw [List.getElem?_append_left hr, List.getElem?_append_left hr]
          · rw [List.getElem?_append_right (by omega), List.getElem?_append_right (by omega), List.getElem?_drop, List.getElem?_drop, List.getElem?_set_ne (by omega), List.length_cons]
            congr 1; omega
    rw [this]

/-- clear of a slice of a row that is known whole. -/
theorem wpList_clear_fr {P : Program} {w : World} {ops : Array Oper} {rest : List Oper} {o : Oper} {a : Act} {Q : Exit → Act → World → Prop} (hgd : o.guard = none) (hdst : o.dst = none) (s : Operand) (sT : TypeId)
    (ho : o.op = .call { callee := .builtin .clear, args := #[s], argTypes := #[sT] }) (elem : TypeId) (z : Value) (hu : P.underlying sT = some (.slice elem)) (hv : ∀ w, (zeroValue elem).run P w = .ok z w) (hz : z.cells = #[z]) (h1 : z.oneCell' = true)
    (sp : Option Addr) (n c : Nat) (hs : a.eval s = .slice sp n c)
    (g off : Nat) (cur : List Value) (t : TypeId) (hg : w.heap[g]? = some (.cells cur.toArray t (0, 0))) (hpos : 0 < n → sp = some ⟨g, off, none⟩) (hfit : off + n ≤ cur.length)
    (h : ∀ w', Hid (w'.heap[g]? = some (.cells (splice cur off (List.replicate n z)).toArray t (0, 0))) → Hid (Fr [g] w w') → wpList P ops Q rest a w') :
    wpList P ops Q (o :: rest) a w := by
  refine wpList_plain hgd fun K hK => ?_
  have hput : ∀ v, a.put o.dst v = a := fun v => by rw [hdst]; rfl
  by_cases h0 : n = 0
  · subst h0
    have hrun : (Builtin.clear_ #[sT] o.type #[.slice sp 0 c]).run P w = .ok (.tuple #[]) w := by
      cases sp <;> simp [Builtin.clear_, run_underlying hu, hv, Builtin.zeroCells, storeCells]
    unfold Oper.wp
    simp [execOp, ho, resolve, invoke, builtin, hs, hrun, Result.andThen]
    rw [Oper.upon_value, hput]
    exact hK _ _ (h w (show _ = _ by simpa [splice] using hg) (Fr.refl _ _))
  · have hsp := hpos (by omega)
    subst hsp
    have hrun := Lib.run_clear_slice (P := P) w sT elem o.type z hu hv hz h1 g off n c (by omega)
      (fun j hj => by
        rw [cells_cell (v := cur[off + j]'(by omega)) hg (by simp)]; rfl)
      (fun j hj => cells_free hg _)
    unfold Oper.wp
    simp [execOp, ho, resolve, invoke, builtin, hs, hrun, Result.andThen]
    rw [Oper.upon_value, hput]
    exact hK _ _ (h _ (show _ = _ from heap_setCells g t _ off w cur hg (by simpa using hfit)) (fr_setCells _ _ _ _))
end Rg
end Go.Proofs.Yteimjkmjofaieaa
