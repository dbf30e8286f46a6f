/- Read, Reset, New, Copy of a ring buffer inside a law. -/
import Derived.Test.YtilafgemgdjfhaaBPeek
import Derived.Deep.RegionHeld3
namespace Go.Proofs.Ytilafgemgdjfhaa
open Go.RowKit Go.Sort
set_option linter.unusedVariables false
set_option linter.unusedSimpArgs false

section
variable {w0 w : World} {G : Nat → Prop} {a bb cc cp c f : Nat} {xs B : List UInt8}

theorem drop_min {α : Type} (L : List α) (m : Nat) : L.drop (min m L.length) = L.drop m := by
  by_cases h : m ≤ L.length
  · rw [Nat.min_eq_left h]
  · rw [Nat.min_eq_right (by omega), List.drop_eq_nil_of_le (Nat.le_refl _), List.drop_eq_nil_of_le (by omega)]

theorem skip_ok (R : RgB w0 G w a bb cc cp c f xs B) (m : Int) (hm : 0 ≤ m) :
    Calls Try.prog 17 #[pt a, .int .i64 m] w fun e w' => ∃ xs' f', e = .returned (.tuple #[.int .i64 ((min m.toNat B.length : Nat) : Int), .int .i64 0]) ∧ RgB w0 G w' a bb cc cp c f' xs' (B.drop m.toNat) ∧ Keep G w w' ∧ Fr [bb, cc] w w' := by
  have := skip_at R m hm (min m.toNat B.length) (by omega)
  rwa [drop_min] at this

set_option maxHeartbeats 800000 in
theorem read_neg (R : RgB w0 G w a bb cc cp c f xs B) (m : Int) (hm : m < 0) :
    Calls Try.prog 13 #[pt a, .int .i64 m] w fun e w' => e = .returned (.tuple #[.slice none 0 0, .int .i64 2]) ∧ w = w' := by
  have hu := Lib.hid (peek_neg R 0 m (.inr hm))
  clear R
  unfold pt at *
  go_enter Try.func13, Try.ntmps13
  go_wp2_with (go_at_call 15; refine hu.out.mono ?_; rintro e w' ⟨rfl, rfl⟩)
  go_ret2
  exact ⟨rfl, rfl⟩

theorem row_formB {w : World} {base : Nat} {v : Value} {L : List UInt8} (h : RowB w base v L) : ∃ ao lc, v = .slice ao L.length lc := by
  rcases h.2 with ⟨hv, hn⟩ | ⟨g, cap, cu, hv, _⟩
  · exact ⟨none, 0, by rw [hv, hn]⟩
  · exact ⟨_, _, hv⟩

set_option maxHeartbeats 1600000 in
theorem read_ok (R : RgB w0 G w a bb cc cp c f xs B) (m : Int) (hm : 0 ≤ m) :
    Calls Try.prog 13 #[pt a, .int .i64 m] w fun e w' => ∃ v xs' f', e = .returned (.tuple #[v, .int .i64 0]) ∧ RowB w' w.heap.size v (B.take m.toNat) ∧ RgB w0 G w' a bb cc cp c f' xs' (B.drop m.toNat) ∧ Keep G w w' ∧ Fr [bb, cc] w w' := by
  have hu := Lib.hid (peek_ok R 0 m (Int.le_refl _) hm)
  have HR := Lib.hid R
  have hle : (B.take m.toNat).length ≤ 4096 := by have := R.cyc.bl; have := R.cyc.top; simp; omega
  clear R
  unfold pt at *
  go_enter Try.func13, Try.ntmps13
  go_wp2_with (go_at_call 15; fail)
  refine hu.out.mono ?_
  rintro e w1 ⟨v, rfl, hrow, hb⟩
  have hR1 := HR.out.grown hb
  have hsk := Lib.hid (skip_ok hR1 ((B.take m.toNat).length : Int) (by omega))
  have hsz := hb.size
  have he : Hid (B.drop (((B.take m.toNat).length : Nat) : Int).toNat = B.drop m.toNat) := Lib.hid (by
    rw [Int.toNat_natCast, List.length_take, drop_min])
  rw [he.out] at hsk
  have hb2 : Hid (bb < w.heap.size ∧ cc < w.heap.size) := Lib.hid ⟨HR.out.blt, HR.out.clt⟩
  have HB := Lib.hid hb
  have Hrow := Lib.hid hrow
  obtain ⟨va, vc, rfl⟩ := row_formB hrow
  rw [show List.drop (0 : Int).toNat B = B from rfl] at *
  generalize (B.take m.toNat).length = l at *
  clear hR1 hb hrow he
  unfold pt at *
  go_wp2_with (go_at_call 17; fail)
  refine hsk.out.mono ?_
  rintro e w2 ⟨xs', f', rfl, R2, K2, F2⟩
  have H2 := Lib.hid R2
  have HK := Lib.hid K2
  have HF := Lib.hid F2
  clear R2 K2 F2
  go_wp2_with fail
  go_ret2
  refine ⟨_, _, _, rfl, HF.out.row Hrow.out (fun g hg => ?_), H2.out, fun k hk => (HK.out k hk).trans (HB.out.block k (HR.out.lt k hk)), (Fr.of_below HB.out _).trans' HF.out⟩
  have := (Hrow.out.lt g hg).1
  have := hb2.out
  simp
  omega

set_option maxHeartbeats 800000 in
theorem reset_any (R : RgB w0 G w a bb cc cp c f xs B) :
    Calls Try.prog 19 #[pt a] w fun e w' => ∃ xs' f', e = .returned (.int .i64 0) ∧ RgB w0 G w' a bb cc cp c f' xs' [] ∧ Keep G w w' ∧ Fr [bb, cc] w w' := by
  have hu := Lib.hid (len_any R)
  have hsk := Lib.hid (skip_ok R (B.length : Int) (by omega))
  rw [show B.drop (B.length : Int).toNat = [] by rw [Int.toNat_natCast, List.drop_length]] at hsk
  generalize B.length = l at *
  clear R
  unfold pt at *
  go_enter Try.func19, Try.ntmps19
  go_wp2_with (first | (go_at_call 21; refine hu.out.mono ?_; rintro e w' ⟨rfl, rfl⟩) | (go_at_call 17; fail))
  refine hsk.out.mono ?_
  rintro e w2 ⟨xs', f', rfl, R2, K2, F2⟩
  have H2 := Lib.hid R2
  have HK := Lib.hid K2
  have HF := Lib.hid F2
  clear R2 K2 F2
  go_wp2_with fail
  go_ret
  exact ⟨_, _, rfl, H2.out, HK.out, HF.out⟩
end

set_option maxHeartbeats 400000 in
theorem new_bad (w : World) (c : Int) (h : c < 1 ∨ 4096 < c) : Calls Try.prog 9 #[.int .i64 c] w fun e w' => e = .returned (.tuple #[.pointer none, .int .i64 2]) ∧ w = w' := by
  by_cases h1 : c < 1
  · go_enter Try.func9, Try.ntmps9
    go_wp2_with fail
    go_ret2
    exact ⟨rfl, rfl⟩
  · have h2 : 4096 < c := by omega
    have h3 : decide (c < 1) = false := by simp; omega
    go_enter Try.func9, Try.ntmps9
    go_wp2_with fail
    go_ret2
    exact ⟨rfl, rfl⟩

set_option maxHeartbeats 1600000 in
theorem new_ok {w0 w : World} {G : Nat → Prop} (c : Nat) (h1 : 1 ≤ c) (h2 : c ≤ 4096) (hb : Below w0.heap.size w0 w) (hG : ∀ k, G k → k < w.heap.size) :
    Calls Try.prog 9 #[.int .i64 c] w fun e w' => ∃ a, e = .returned (.tuple #[pt a, .int .i64 0]) ∧ RgIn w0 G w' a c [] ∧ Below w.heap.size w w' := by
  have e1 : (1 : Int) ≤ (c : Int) := by omega
  have e2 : (c : Int) ≤ 4096 := by omega
  have e3 : decide ((c : Int) < 1) = false := by simp; omega
  have e4 : decide ((4096 : Int) < (c : Int)) = false := by simp; omega
  obtain ⟨i0, hi0, hz0, hz1, hz2⟩ := info_parts infoU8
  go_enter Try.func9, Try.ntmps9
  go_wp2_with (with_reducible refine wpList_make_full _ rfl (.tmp 10) (.tmp 10) 24 rfl w.heap.size 5 i0 (.int .u8 0) 1 Try.underlying24 hi0 hz0 hz1 _ _ _ _ c rfl rfl rfl rfl ?_ ?_ (Nat.le_refl _) ?_)
  · rw [hz2]; omega
  · unfold maxLen; omega
  intro W hown hgrow
  have HF : Hid (Fr [] w W) := Lib.hid ((fr_grown hgrow).mono (by simp))
  have HG1 : Hid (W.heap[w.heap.size]? = some (.cells ((List.replicate c (0 : UInt8)).map encB).toArray 5 (0, 0))) := Lib.hid (by rw [← made_eq]; exact made_heap hown)
  clear hown hgrow
  go_wp2_with fail
  go_ret2
  have hb1 : Below w.heap.size w W := HF.out.below (fun x hx => by simp at hx) (Nat.le_refl _)
  have hb2 : Below w.heap.size w ((W.alloc (.cells #[.slice (some ⟨w.heap.size, 0, none⟩) c c, .int .i64 0, .int .i64 0] 64)).alloc (.cells #[.pointer (some ⟨W.heap.size, 0, none⟩)] 55)) := (hb1.alloc hb1.size _).alloc (by have := hb1.size; simp; omega) _
  have hlt := lt_of_block HG1.out
  refine ⟨W.heap.size + 1, rfl, ⟨W.heap.size, w.heap.size, c, 0, List.replicate c 0, ?_⟩, hb2⟩
  have hws := hb1.size
  have hw0 := hb.size
  have hs2 := hb2.size
  refine ⟨block_new _ _ _ (by simp), (fr_alloc _ _ []).same (block_new _ _ _ rfl) (by simp), ⟨[], ?_, by simp⟩, Nat.le_refl _, by unfold maxLen; omega, Cyc.new h1 h2, fun h => ?_, fun h => ?_, fun h => ?_, by omega, by omega, hw0, fun k hk => ?_, hb.trans (hb2.mono hw0)⟩
  · rw [List.append_nil]; exact (fr_alloc _ _ []).same ((fr_alloc _ _ []).same HG1.out (by simp)) (by simp)
  · have := hG _ h; omega
  · have := hG _ h; omega
  · have := hG _ h; omega
  · have := hG k hk; omega
end Go.Proofs.Ytilafgemgdjfhaa
