/- Left, Closed, Withdraw, Result, CloseWrite, CloseRead. -/
import Derived.Test.YtophkjnniodegaaVPure
namespace Go.Proofs.Ytophkjnniodegaa
open Go.RowKit Go.Sort
set_option linter.unusedVariables false
set_option linter.unusedSimpArgs false
section
variable {w : World} {m b : Nat} {x : Mt}

theorem mtLeft_any (h : MAt w m b x) : Calls Try.prog 12 #[pt m] w fun e w' => e = .returned (.tuple #[.int .i64 ((x.rest.length : Nat) : Int), .bool x.is]) ∧ Below w.heap.size w w' := by
  obtain ⟨v, h1, h2⟩ := h.ex
  obtain ⟨a, c, rfl, hc1, hc2⟩ := h2.form
  have k := cells_cell (o := 0) h.me rfl
  have k2 := cells_cell (o := 2) h1 rfl
  have k3 := cells_cell (o := 3) h1 rfl
  have hu := Lib.hid (mtUsable_yes h)
  generalize x.rest.length = n at *
  clear h h1 h2
  unfold pt at *
  go_enter Try.func12, Try.ntmps12
  go_wp2_with (go_at_call 32; refine hu.out.mono ?_; rintro e w' ⟨rfl, rfl⟩)
  go_quiet (fail)
  go_wp2_with fail
  go_ret2
  exact ⟨rfl, (Grn.refl _).drew _ |>.below⟩
theorem mtLeft_no {v : Value} (h : NoM w v) : Calls Try.prog 12 #[v] w fun e w' => e = .returned (.tuple #[.int .i64 0, .bool false]) ∧ Below w.heap.size w w' := by
  have hu := Lib.hid (mtUsable_no h)
  obtain ⟨a, rfl⟩ : ∃ a, v = .pointer a := by rcases h with h | ⟨q, h, _⟩ <;> exact ⟨_, h⟩
  clear h
  go_enter Try.func12, Try.ntmps12
  go_wp2_with (go_at_call 32; refine hu.out.mono ?_; rintro e w' ⟨rfl, rfl⟩)
  go_ret2
  exact ⟨rfl, Below.refl _ _⟩
theorem mtClosed_any (h : MAt w m b x) : Calls Try.prog 13 #[pt m] w fun e w' => e = .returned (.tuple #[.int .i64 x.wr, .int .i64 x.rd]) ∧ Below w.heap.size w w' := by
  obtain ⟨v, h1, h2⟩ := h.ex
  have k := cells_cell (o := 0) h.me rfl
  have k0 := cells_cell (o := 0) h1 rfl
  have k1 := cells_cell (o := 1) h1 rfl
  have hu := Lib.hid (mtUsable_yes h)
  clear h h1 h2
  unfold pt at *
  go_enter Try.func13, Try.ntmps13
  go_wp2_with (go_at_call 32; refine hu.out.mono ?_; rintro e w' ⟨rfl, rfl⟩)
  go_quiet (fail)
  go_wp2_with fail
  go_ret2
  exact ⟨rfl, (Grn.refl _).drew _ |>.below⟩
theorem mtClosed_no {v : Value} (h : NoM w v) : Calls Try.prog 13 #[v] w fun e w' => e = .returned (.tuple #[.int .i64 0, .int .i64 0]) ∧ Below w.heap.size w w' := by
  have hu := Lib.hid (mtUsable_no h)
  obtain ⟨a, rfl⟩ : ∃ a, v = .pointer a := by rcases h with h | ⟨q, h, _⟩ <;> exact ⟨_, h⟩
  clear h
  go_enter Try.func13, Try.ntmps13
  go_wp2_with (go_at_call 32; refine hu.out.mono ?_; rintro e w' ⟨rfl, rfl⟩)
  go_ret2
  exact ⟨rfl, Below.refl _ _⟩
end
end Go.Proofs.Ytophkjnniodegaa
