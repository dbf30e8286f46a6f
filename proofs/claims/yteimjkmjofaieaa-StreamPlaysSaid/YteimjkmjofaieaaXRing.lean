/- What the calls of a ring buffer in memory answer and leave. -/
import Derived.Test.YteimjkmjofaieaaXPure
namespace Go.Proofs.Yteimjkmjofaieaa
open Go.RowKit Go.Sort
set_option linter.unusedVariables false
set_option linter.unusedSimpArgs false
set_option maxRecDepth 100000
theorem rowB_iff {w : World} {b : Nat} {v : Value} {L : List UInt8} : Rg.RowB w b v L ↔ RowB w b v L := by
  unfold Rg.RowB RowB RowV
  rw [List.length_map]
section
variable {w : World} {a bb cc c : Nat} {B : List UInt8}
theorem rgLen_at (h : RAt w a bb cc c B) : Calls Try.prog 72 #[pt a] w fun e w' => e = .returned (.int .i64 (B.length : Nat)) ∧ w = w' := by obtain ⟨_, _, _, R⟩ := h; exact Rg.len_any R
theorem rgCap_at (h : RAt w a bb cc c B) : Calls Try.prog 88 #[pt a] w fun e w' => e = .returned (.int .i64 (c : Nat)) ∧ w = w' := by obtain ⟨_, _, _, R⟩ := h; exact Rg.cap_any R
theorem rgFree_at (h : RAt w a bb cc c B) : Calls Try.prog 80 #[pt a] w fun e w' => e = .returned (.int .i64 ((c - B.length : Nat) : Int)) ∧ w = w' := by obtain ⟨_, _, _, R⟩ := h; exact Rg.free_any R
theorem rgWrite_at {base : Nat} {v : Value} {P : List UInt8} (h : RAt w a bb cc c B) (hr : RowB w base v P) (h0 : 0 < P.length) (hP : P.length ≤ 65536) (hb : bb < base) (hc : cc < base) :
    Calls Try.prog 81 #[pt a, v] w fun e w' => e = .returned (.tuple #[.int .i64 ((min P.length (c - B.length) : Nat) : Int), .int .i64 0]) ∧ RAt w' a bb cc c (B ++ P.take (min P.length (c - B.length))) ∧ Fr [bb, cc] w w' := by
  obtain ⟨cp, f, xs, R⟩ := h
  rcases hr.2 with ⟨rfl, hn⟩ | ⟨g, cap, cur, rfl, hbg, hh, h1, h2, h3, h4⟩
  · rw [List.length_map] at hn; omega
  · have hl : Rg.Lies w g 0 P := fun i u hu => by
      have hq := row_cells hr i (encB u) (by rw [List.getElem?_map, hu]; rfl)
      rwa [Go.WideShapes.add_plain] at hq
    rw [List.length_map] at h1 ⊢
    refine (Rg.write_some R P hP h1 h2 hl (by omega) (by omega)).mono ?_
    rintro e w' ⟨xs', rfl, R', _, hf⟩
    exact ⟨rfl, RAt.of R', hf⟩
theorem rgRead_at (h : RAt w a bb cc c B) (m : Int) (hm : 0 ≤ m) :
    Calls Try.prog 73 #[pt a, .int .i64 m] w fun e w' => ∃ v, e = .returned (.tuple #[v, .int .i64 0]) ∧ RowB w' w.heap.size v (B.take m.toNat) ∧ RAt w' a bb cc c (B.drop m.toNat) ∧ Fr [bb, cc] w w' := by
  obtain ⟨cp, f, xs, R⟩ := h
  refine (Rg.read_ok R m hm).mono ?_
  rintro e w' ⟨v, xs', f', rfl, hr, R', _, hf⟩
  exact ⟨v, rfl, rowB_iff.1 hr, RAt.of R', hf⟩
theorem rgReset_at (h : RAt w a bb cc c B) : Calls Try.prog 108 #[pt a] w fun e w' => e = .returned (.int .i64 0) ∧ RAt w' a bb cc c [] ∧ Fr [bb, cc] w w' := by
  obtain ⟨cp, f, xs, R⟩ := h
  refine (Rg.reset_any R).mono ?_
  rintro e w' ⟨xs', f', rfl, R', _, hf⟩
  exact ⟨rfl, RAt.of R', hf⟩
theorem rgNew_ok (w : World) {c : Nat} (h1 : 1 ≤ c) (h2 : c ≤ 4096) : Calls Try.prog 65 #[.int .i64 (c : Nat)] w fun e w' => ∃ a bb cc, e = .returned (.tuple #[pt a, .int .i64 0]) ∧ RAt w' a bb cc c [] ∧ w.heap.size ≤ a ∧ w.heap.size ≤ bb ∧ w.heap.size ≤ cc ∧ Below w.heap.size w w' := by
  refine (Rg.new_ok (w0 := w) (G := fun _ => False) c h1 h2 (Below.refl _ _) (fun _ h => h.elim)).mono ?_
  rintro e w' ⟨a, rfl, ⟨bb, cc, cp, f, xs, R⟩, hb⟩
  exact ⟨a, bb, cc, rfl, RAt.of R, R.ba, R.bb0, R.bc, hb⟩
end
theorem rgLen_nil (w : World) : Calls Try.prog 72 #[.pointer none] w fun e w' => e = .returned (.int .i64 0) ∧ w = w' := by
  have hu := Lib.hid (Rg.usable_nil w)
  go_enter Try.func72, Try.ntmps72
  go_wp2_with (go_at_call 83; refine hu.out.mono ?_; rintro e w' ⟨rfl, rfl⟩)
  go_ret
  exact ⟨rfl, rfl⟩
theorem rgCap_nil (w : World) : Calls Try.prog 88 #[.pointer none] w fun e w' => e = .returned (.int .i64 0) ∧ w = w' := by
  have hu := Lib.hid (Rg.usable_nil w)
  go_enter Try.func88, Try.ntmps88
  go_wp2_with (go_at_call 83; refine hu.out.mono ?_; rintro e w' ⟨rfl, rfl⟩)
  go_ret
  exact ⟨rfl, rfl⟩
theorem rgFree_nil (w : World) : Calls Try.prog 80 #[.pointer none] w fun e w' => e = .returned (.int .i64 0) ∧ w = w' := by
  have h1 := Lib.hid (rgLen_nil w)
  have h2 := Lib.hid (rgCap_nil w)
  go_enter Try.func80, Try.ntmps80
  go_wp2_with (first | (go_at_call 88; refine h2.out.mono ?_; rintro e w' ⟨rfl, rfl⟩) | (go_at_call 72; refine h1.out.mono ?_; rintro e w' ⟨rfl, rfl⟩))
  go_ret
  exact ⟨rfl, rfl⟩
end Go.Proofs.Yteimjkmjofaieaa
