/- The examples of the chapter hold: the contract of known. -/
import Derived.Test.YtdcmebnahlajcaaDoorMin
namespace Go.Proofs.YtdcmebnahlajcaaDoor
open Go.RowKit

set_option maxHeartbeats 800000 in
theorem parses_at (s : ByteArray) (hs : s.size ≤ 281474976710656) (t e : Int) (h : parseV s.data.toList = .tuple #[.int .u64 t, .int .i64 e]) (w : World) (hv : Vars w) :
    Calls Tryd.prog 29 #[.string s, .int .u64 t, .int .i64 e] w fun en w' => en = .returned (.bool true) ∧ Below w.heap.size w w' := by
  have hp := parse_any s hs w hv
  rw [h] at hp
  have HP := Lib.hid hp
  have HH := Lib.hid h
  clear hp h
  go_enter Tryd.func29, Tryd.ntmps29
  go_wp2_with (go_at_call 19; refine HP.out.mono ?_; rintro e w1 ⟨rfl, hb⟩)
  go_ret
  exact ⟨rfl, hb⟩

theorem text_120 : textT 120 = [49, 50, 48] := by decide +kernel
theorem text_never : textT 18446744073709551615 = [110, 101, 118, 101, 114] := by unfold textT; rw [if_pos rfl]; rfl
theorem parse_0 : parseV (⟨#[48]⟩ : ByteArray).data.toList = .tuple #[.int .u64 0, .int .i64 0] := by
  rw [parseV_ok (u := 0) (by decide +kernel)]; rfl
theorem parse_never : parseV (⟨#[110, 101, 118, 101, 114]⟩ : ByteArray).data.toList = .tuple #[.int .u64 18446744073709551615, .int .i64 0] := by
  rw [parseV_ok (u := 18446744073709551615) (by decide +kernel)]; rfl
theorem parse_007 : parseV (⟨#[48, 48, 55]⟩ : ByteArray).data.toList = .tuple #[.int .u64 0, .int .i64 6] := parseV_no (by decide +kernel)
theorem parse_max : parseV (⟨#[49, 56, 52, 52, 54, 55, 52, 52, 48, 55, 51, 55, 48, 57, 53, 53, 49, 54, 49, 53]⟩ : ByteArray).data.toList = .tuple #[.int .u64 0, .int .i64 6] := parseV_no (by decide +kernel)

theorem three_cells (w : World) (i : Nat) (hi : i < 3) : (w.alloc (Obj.cells #[.int .u64 3, .int .u64 18446744073709551615, .int .u64 2] 23)).cell? ⟨w.heap.size, 0 + i, none⟩ = some (.int .u64 (([3, 18446744073709551615, 2] : List Int).getD i 0)) := by
  rw [World.cell?_alloc_new]
  match i, hi with
  | 0, _ => rfl
  | 1, _ => rfl
  | 2, _ => rfl

theorem min_three (w : World) : Calls Tryd.prog 13 #[.slice (some ⟨w.heap.size, 0, none⟩) 3 3] (w.alloc (Obj.cells #[.int .u64 3, .int .u64 18446744073709551615, .int .u64 2] 23)) fun e w' => e = .returned (.int .u64 2) ∧ w.alloc (Obj.cells #[.int .u64 3, .int .u64 18446744073709551615, .int .u64 2] 23) = w' :=
  min_row w.heap.size 0 3 3 [3, 18446744073709551615, 2] _ rfl (by omega) (three_cells w)

theorem text_120_any (w : World) (hv : Vars w) : Calls Tryd.prog 17 #[.int .u64 120] w fun e w' => e = .returned (.string ⟨#[49, 50, 48]⟩) ∧ Below w.heap.size w w' := by
  have h := text_any 120 (by omega) w hv.1
  rw [text_120] at h
  exact h
theorem text_never_any (w : World) (hv : Vars w) : Calls Tryd.prog 17 #[.int .u64 18446744073709551615] w fun e w' => e = .returned (.string ⟨#[110, 101, 118, 101, 114]⟩) ∧ Below w.heap.size w w' := by
  have h := text_any 18446744073709551615 (by omega) w hv.1
  rw [text_never] at h
  exact h

set_option maxHeartbeats 1600000 in
theorem known_any (w : World) (hv : Vars w) :
    Calls Tryd.prog 8 #[] w fun e w' => e = .returned (.bool true) ∧ Below w.heap.size w w' := by
  go_enter Tryd.func8, Tryd.ntmps8
  go_wp2_with (first | (go_at_call 13; fail) | (go_at_call 9; go_in) | (go_at_call 11; go_in))
  refine (min_three w).mono ?_
  rintro e w1 ⟨rfl, rfl⟩
  go_wp2_with (first | (go_at_call 13; fail) | (go_at_call 9; go_in) | (go_at_call 11; go_in))
  refine (min_nil _).mono ?_
  rintro e w1 ⟨rfl, rfl⟩
  have hb0 : Below w.heap.size w (w.alloc (Obj.cells #[.int .u64 3, .int .u64 18446744073709551615, .int .u64 2] 23)) := (Below.refl _ _).alloc (Nat.le_refl _) _
  go_wp2_with (first | (go_at_call 17; fail) | (go_at_call 15; go_in))
  generalize w.alloc (Obj.cells #[.int .u64 3, .int .u64 18446744073709551615, .int .u64 2] 23) = w1 at hb0
  have hv1 := hv.below hb0
  refine (text_120_any _ hv1).mono ?_
  rintro e w2 ⟨rfl, hb1⟩
  have hv2 := hv1.below hb1
  go_wp2_with (first | (go_at_call 17; fail))
  refine (text_never_any _ hv2).mono ?_
  rintro e w3 ⟨rfl, hb2⟩
  have hv3 := hv2.below hb2
  go_wp2_with (first | (go_at_call 29; fail))
  refine (parses_at _ (by decide) _ _ parse_0 _ hv3).mono ?_
  rintro e w4 ⟨rfl, hb3⟩
  have hv4 := hv3.below hb3
  go_wp2_with (first | (go_at_call 29; fail))
  refine (parses_at _ (by decide) _ _ parse_never _ hv4).mono ?_
  rintro e w5 ⟨rfl, hb4⟩
  have hv5 := hv4.below hb4
  go_wp2_with (first | (go_at_call 29; fail))
  refine (parses_at _ (by decide) _ _ parse_007 _ hv5).mono ?_
  rintro e w6 ⟨rfl, hb5⟩
  have hv6 := hv5.below hb5
  go_wp2_with (first | (go_at_call 29; fail))
  refine (parses_at _ (by decide) _ _ parse_max _ hv6).mono ?_
  rintro e w7 ⟨rfl, hb6⟩
  have hb : Below w.heap.size w w7 := hb0.trans ((hb1.trans ((hb2.trans ((hb3.trans ((hb4.trans ((hb5.trans (hb6.mono hb5.size)).mono hb4.size)).mono hb3.size)).mono hb2.size)).mono hb1.size)).mono hb0.size)
  clear hv hv1 hv2 hv3 hv4 hv5 hv6 hb0 hb1 hb2 hb3 hb4 hb5 hb6
  go_wp2_with (first | go_in)
  go_ret
  exact ⟨rfl, hb.alloc hb.size _⟩
end Go.Proofs.YtdcmebnahlajcaaDoor
