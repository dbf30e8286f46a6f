/- A ring buffer in memory; New, usable, Len, Cap, Free, pieces. -/
import Derived.Test.YtilafgemgdjfhaaBPure
import Derived.Deep.QuietTactic
import Derived.BigQuiet
namespace Go.Proofs.Ytilafgemgdjfhaa
open Go.RowKit Go.Sort
set_option linter.unusedVariables false
set_option linter.unusedSimpArgs false

/-- A ring buffer at block a, made since w0; it owns no block of G. -/
structure RgB (w0 : World) (G : Nat → Prop) (w : World) (a bb cc cp c f : Nat) (xs B : List UInt8) : Prop where
  ta : w.heap[a]? = some (.cells #[pt bb] 55 (0, 0))
  tb : w.heap[bb]? = some (.cells #[.slice (some ⟨cc, 0, none⟩) c cp, .int .i64 f, .int .i64 B.length] 64 (0, 0))
  tc : ∃ r, w.heap[cc]? = some (.cells (xs.map encB ++ r).toArray 5 (0, 0)) ∧ (xs.map encB ++ r).length = cp
  ccp : c ≤ cp
  cpm : cp ≤ maxLen
  cyc : Cyc c xs f B
  na : ¬ G a
  nb : ¬ G bb
  nc : ¬ G cc
  ba : w0.heap.size ≤ a
  bb0 : w0.heap.size ≤ bb
  bc : w0.heap.size ≤ cc
  lt : ∀ k, G k → k < w.heap.size
  below : Below w0.heap.size w0 w

/-- A ring buffer of the capacity c that holds the bytes B. -/
def RgIn (w0 : World) (G : Nat → Prop) (w : World) (a c : Nat) (B : List UInt8) : Prop := ∃ bb cc cp f xs, RgB w0 G w a bb cc cp c f xs B

namespace RgB
variable {w0 w : World} {G : Nat → Prop} {a bb cc cp c f : Nat} {xs B : List UInt8}

theorem ca (R : RgB w0 G w a bb cc cp c f xs B) : w.cell? ⟨a, 0, none⟩ = some (.pointer (some ⟨bb, 0, none⟩)) := cells_cell R.ta rfl
theorem c0 (R : RgB w0 G w a bb cc cp c f xs B) : w.cell? ⟨bb, 0, none⟩ = some (.slice (some ⟨cc, 0, none⟩) c cp) := cells_cell R.tb rfl
theorem c1 (R : RgB w0 G w a bb cc cp c f xs B) : w.cell? ⟨bb, 1, none⟩ = some (.int .i64 f) := cells_cell R.tb rfl
theorem c2 (R : RgB w0 G w a bb cc cp c f xs B) : w.cell? ⟨bb, 2, none⟩ = some (.int .i64 B.length) := cells_cell R.tb rfl
theorem alt (R : RgB w0 G w a bb cc cp c f xs B) : a < w.heap.size := lt_of_block R.ta
theorem blt (R : RgB w0 G w a bb cc cp c f xs B) : bb < w.heap.size := lt_of_block R.tb
theorem clt (R : RgB w0 G w a bb cc cp c f xs B) : cc < w.heap.size := by obtain ⟨r, h, _⟩ := R.tc; exact lt_of_block h
theorem ab (R : RgB w0 G w a bb cc cp c f xs B) : a ≠ bb := ne_types R.ta R.tb (by decide)
theorem cb (R : RgB w0 G w a bb cc cp c f xs B) : cc ≠ bb := by obtain ⟨r, h, _⟩ := R.tc; exact ne_types h R.tb (by decide)
theorem ac (R : RgB w0 G w a bb cc cp c f xs B) : a ≠ cc := by obtain ⟨r, h, _⟩ := R.tc; exact ne_types R.ta h (by decide)

/-- The world has grown; the blocks left alone may be new ones, too. -/
theorem more {w' : World} {G' : Nat → Prop} (R : RgB w0 G w a bb cc cp c f xs B) (hb : Below w.heap.size w w') (hG : ∀ k, G' k → G k ∨ (w.heap.size ≤ k ∧ k < w'.heap.size)) : RgB w0 G' w' a bb cc cp c f xs B := by
  obtain ⟨r, hr, hl⟩ := R.tc
  have ho : ∀ k, k < w.heap.size → ¬ G k → ¬ G' k := fun k hk hn hg => by
    rcases hG k hg with h' | h'
    · exact hn h'
    · omega
  refine ⟨(hb.block a R.alt).trans R.ta, (hb.block bb R.blt).trans R.tb, ⟨r, (hb.block cc R.clt).trans hr, hl⟩, R.ccp, R.cpm, R.cyc, ho a R.alt R.na, ho bb R.blt R.nb, ho cc R.clt R.nc, R.ba, R.bb0, R.bc, fun k hk => ?_, R.below.trans (hb.mono R.below.size)⟩
  rcases hG k hk with h' | h'
  · have := R.lt k h'; have := hb.size; omega
  · exact h'.2
/-- Blocks of the law's own are written. -/
theorem write {w' : World} {F : List Nat} (R : RgB w0 G w a bb cc cp c f xs B) (hf : Fr F w w') (hF : ∀ k, k ∈ F → G k ∧ w0.heap.size ≤ k) : RgB w0 G w' a bb cc cp c f xs B := by
  obtain ⟨r, hr, hl⟩ := R.tc
  exact ⟨hf.same R.ta (fun h => R.na (hF _ h).1), hf.same R.tb (fun h => R.nb (hF _ h).1), ⟨r, hf.same hr (fun h => R.nc (hF _ h).1), hl⟩, R.ccp, R.cpm, R.cyc, R.na, R.nb, R.nc, R.ba, R.bb0, R.bc,
    fun k hk => Nat.lt_of_lt_of_le (R.lt k hk) hf.size, R.below.trans (hf.below (fun x hx => (hF x hx).2) R.below.size)⟩
/-- The counts and the places are written. -/
theorem turn {w' : World} {f' : Nat} {xs' B' : List UInt8} (R : RgB w0 G w a bb cc cp c f xs B) (hf : Fr [bb, cc] w w') (hb : w'.heap[bb]? = some (.cells #[.slice (some ⟨cc, 0, none⟩) c cp, .int .i64 f', .int .i64 B'.length] 64 (0, 0)))
    (hc : ∃ r, w'.heap[cc]? = some (.cells (xs'.map encB ++ r).toArray 5 (0, 0)) ∧ (xs'.map encB ++ r).length = cp) (hy : Cyc c xs' f' B') : RgB w0 G w' a bb cc cp c f' xs' B' ∧ Keep G w w' := by
  refine ⟨⟨hf.same R.ta (fun h => ?_), hb, hc, R.ccp, R.cpm, hy, R.na, R.nb, R.nc, R.ba, R.bb0, R.bc, fun k hk => Nat.lt_of_lt_of_le (R.lt k hk) hf.size, R.below.trans (hf.below (fun x hx => ?_) R.below.size)⟩, fun k hk => hf.block k (R.lt k hk) (fun h => ?_)⟩
  · simp only [List.mem_cons, List.not_mem_nil, or_false] at h
    rcases h with h | h
    · exact R.ab h
    · exact R.ac h
  · simp only [List.mem_cons, List.not_mem_nil, or_false] at hx
    rcases hx with rfl | rfl
    · exact R.bb0
    · exact R.bc
  · simp only [List.mem_cons, List.not_mem_nil, or_false] at h
    rcases h with rfl | rfl
    · exact R.nb hk
    · exact R.nc hk
end RgB

namespace RgIn
variable {w0 w : World} {G : Nat → Prop} {a c : Nat} {B : List UInt8}
theorem below (R : RgIn w0 G w a c B) : Below w0.heap.size w0 w := by obtain ⟨_, _, _, _, _, R⟩ := R; exact R.below
theorem lt (R : RgIn w0 G w a c B) : ∀ k, G k → k < w.heap.size := by obtain ⟨_, _, _, _, _, R⟩ := R; exact R.lt
theorem more {w' : World} {G' : Nat → Prop} (R : RgIn w0 G w a c B) (hb : Below w.heap.size w w') (hG : ∀ k, G' k → G k ∨ (w.heap.size ≤ k ∧ k < w'.heap.size)) : RgIn w0 G' w' a c B := by obtain ⟨x1, x2, x3, x4, x5, R⟩ := R; exact ⟨x1, x2, x3, x4, x5, R.more hb hG⟩
theorem grown {w' : World} (R : RgIn w0 G w a c B) (hb : Below w.heap.size w w') : RgIn w0 G w' a c B := R.more hb fun _ h => .inl h
theorem less {G' : Nat → Prop} (R : RgIn w0 G w a c B) (hG : ∀ k, G' k → G k) : RgIn w0 G' w a c B := R.more (Below.refl _ _) fun k h => .inl (hG k h)
theorem write {w' : World} {F : List Nat} (R : RgIn w0 G w a c B) (hf : Fr F w w') (hF : ∀ k, k ∈ F → G k ∧ w0.heap.size ≤ k) : RgIn w0 G w' a c B := by obtain ⟨x1, x2, x3, x4, x5, R⟩ := R; exact ⟨x1, x2, x3, x4, x5, R.write hf hF⟩
theorem bl (R : RgIn w0 G w a c B) : B.length ≤ c := by obtain ⟨_, _, _, _, _, R⟩ := R; exact R.cyc.bl
theorem pos (R : RgIn w0 G w a c B) : 1 ≤ c := by obtain ⟨_, _, _, _, _, R⟩ := R; exact R.cyc.pos
theorem top (R : RgIn w0 G w a c B) : c ≤ 4096 := by obtain ⟨_, _, _, _, _, R⟩ := R; exact R.cyc.top
end RgIn

theorem drew_below (w : World) (n : Nat) : Below w.heap.size w (w.drewN n) := (fr_drewN w n []).below (fun _ hx => by simp at hx) (Nat.le_refl _)

set_option maxHeartbeats 400000 in
theorem usable_nil (w : World) : Calls Try.prog 27 #[.pointer none] w fun e w' => e = .returned (.bool false) ∧ w = w' := by
  go_enter Try.func27, Try.ntmps27
  go_wp2_with fail
  go_ret
  exact ⟨rfl, rfl⟩
set_option maxHeartbeats 400000 in
theorem usable_zero (a : Nat) (w : World) (hc : w.cell? ⟨a, 0, none⟩ = some (.pointer none)) : Calls Try.prog 27 #[.pointer (some ⟨a, 0, none⟩)] w fun e w' => e = .returned (.bool false) ∧ w = w' := by
  go_enter Try.func27, Try.ntmps27
  go_wp2_with fail
  go_ret
  exact ⟨rfl, rfl⟩
set_option maxHeartbeats 400000 in
theorem usable_yes (a bb : Nat) (w : World) (hc : w.cell? ⟨a, 0, none⟩ = some (.pointer (some ⟨bb, 0, none⟩))) : Calls Try.prog 27 #[.pointer (some ⟨a, 0, none⟩)] w fun e w' => e = .returned (.bool true) ∧ w = w' := by
  go_enter Try.func27, Try.ntmps27
  go_wp2_with fail
  go_ret
  exact ⟨rfl, rfl⟩

section
variable {w0 w : World} {G : Nat → Prop} {a bb cc cp c f : Nat} {xs B : List UInt8}

set_option maxHeartbeats 400000 in
theorem len_any (R : RgB w0 G w a bb cc cp c f xs B) : Calls Try.prog 21 #[pt a] w fun e w' => e = .returned (.int .i64 B.length) ∧ w = w' := by
  have hu := Lib.hid (usable_yes a bb w R.ca)
  have ca := R.ca
  have c2 := R.c2
  have bl := R.alt
  have bl2 := R.blt
  clear R
  unfold pt
  go_enter Try.func21, Try.ntmps21
  go_wp2_with (go_at_call 27; refine hu.out.mono ?_; rintro e w' ⟨rfl, rfl⟩)
  go_ret
  exact ⟨rfl, rfl⟩
set_option maxHeartbeats 400000 in
theorem cap_any (R : RgB w0 G w a bb cc cp c f xs B) : Calls Try.prog 22 #[pt a] w fun e w' => e = .returned (.int .i64 c) ∧ w = w' := by
  have hu := Lib.hid (usable_yes a bb w R.ca)
  have ca := R.ca
  have c0 := R.c0
  have bl := R.alt
  have bl2 := R.blt
  clear R
  unfold pt
  go_enter Try.func22, Try.ntmps22
  go_wp2_with (go_at_call 27; refine hu.out.mono ?_; rintro e w' ⟨rfl, rfl⟩)
  go_ret
  exact ⟨rfl, rfl⟩
set_option maxHeartbeats 400000 in
theorem free_any (R : RgB w0 G w a bb cc cp c f xs B) : Calls Try.prog 23 #[pt a] w fun e w' => e = .returned (.int .i64 ((c - B.length : Nat) : Int)) ∧ w = w' := by
  have h1 := Lib.hid (len_any R)
  have h2 := Lib.hid (cap_any R)
  have h3 := R.cyc.bl
  have h4 := R.cyc.top
  have e1 : (B.length : Int) ≤ (c : Int) := by omega
  have e2 : (c : Int) ≤ 4096 := by omega
  have e3 : ((c - B.length : Nat) : Int) = (c : Int) - (B.length : Int) := by omega
  rw [e3]
  clear R e3
  unfold pt at *
  go_enter Try.func23, Try.ntmps23
  go_wp2_with (first | (go_at_call 22; refine h2.out.mono ?_; rintro e w' ⟨rfl, rfl⟩) | (go_at_call 21; refine h1.out.mono ?_; rintro e w' ⟨rfl, rfl⟩))
  go_ret
  exact ⟨rfl, rfl⟩
end
end Go.Proofs.Ytilafgemgdjfhaa
