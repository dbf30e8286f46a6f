/- New, Copy. -/
import Derived.Test.YtophkjnniodegaaVTake
namespace Go.Proofs.Ytophkjnniodegaa
open Go.RowKit Go.Sort
set_option linter.unusedVariables false
set_option linter.unusedSimpArgs false
section
variable {w : World} {m b : Nat} {x : Mt}

theorem mtNew_any (w : World) : Calls Try.prog 10 #[] w fun e w' => ∃ m b, e = .returned (pt m) ∧ MAt w' m b Mt.zero ∧ w.heap.size ≤ m ∧ w.heap.size ≤ b ∧ Below w.heap.size w w' := by
  go_enter Try.func10, Try.ntmps10
  go_wp2
  go_ret
  refine ⟨w.heap.size + 1, w.heap.size, rfl, ⟨Mt.Ok.zero, block_new _ _ _ (by simp), .slice none 0 0, ?_, .inl ⟨rfl, rfl⟩⟩, Nat.le_succ _, Nat.le_refl _, (below_alloc w _).trans ((below_alloc _ _).mono (by simp))⟩
  exact ((below_alloc _ _).block w.heap.size (by simp)).trans (heap_alloc_new w _)
theorem mtCopy_no {u : Value} (h : NoM w u) : Calls Try.prog 22 #[u] w fun e w' => e = .returned (.pointer none) ∧ w' = w := by
  have hu := Lib.hid (mtUsable_no h)
  obtain ⟨a, rfl⟩ : ∃ a, u = .pointer a := by rcases h with h | ⟨q, h, _⟩ <;> exact ⟨_, h⟩
  clear h
  go_enter Try.func22, Try.ntmps22
  go_wp2_with (go_at_call 32; refine hu.out.mono ?_; rintro e w' ⟨rfl, rfl⟩)
  go_ret
  exact ⟨rfl, rfl⟩
theorem mtCopy_any (h : MAt w m b x) : Calls Try.prog 22 #[pt m] w fun e w' => ∃ m' b', e = .returned (pt m') ∧ MAt w' m' b' x ∧ MAt w' m b x ∧ w.heap.size ≤ m' ∧ w.heap.size ≤ b' ∧ Below w.heap.size w w' := by
  obtain ⟨v, h1, h2⟩ := h.ex
  obtain ⟨va, vc, hvf, _, _⟩ := h2.form
  have k := cells_cell (o := 0) h.me rfl
  have k0 := cells_cell (o := 0) h1 rfl
  have k1 := cells_cell (o := 1) h1 rfl
  have k2 := cells_cell (o := 2) h1 rfl
  have k3 := cells_cell (o := 3) h1 rfl
  have k4 := cells_cell (o := 4) h1 rfl
  subst hvf
  have hu := Lib.hid (mtUsable_yes h)
  have hlt := lt_of_block h1
  have H := Lib.hid h
  have H1 := Lib.hid h1
  have H2 := Lib.hid h2
  generalize x.rest.length = L at *
  clear h h1 h2
  unfold pt at *
  go_enter Try.func22, Try.ntmps22
  go_wp2_with (go_at_call 32; refine hu.out.mono ?_; rintro e w' ⟨rfl, rfl⟩)
  go_ret
  have b1 := below_alloc w' (.cells #[.int .i64 x.rd, .int .i64 x.wr, .bool x.is, .slice va L vc, .int .i64 ((x.k : Nat) : Int)] 62)
  have b2 := below_alloc (w'.alloc (.cells #[.int .i64 x.rd, .int .i64 x.wr, .bool x.is, .slice va L vc, .int .i64 ((x.k : Nat) : Int)] 62)) (.cells #[.pointer (some { block := w'.heap.size, off := 0 })] 42)
  have hb := b1.trans (b2.mono (by simp))
  refine ⟨w'.heap.size + 1, w'.heap.size, rfl, ⟨H.out.ok, block_new _ _ _ (by simp), .slice va L vc, (b2.block w'.heap.size (by simp)).trans (heap_alloc_new w' _), ?_⟩, H.out.grown hb, Nat.le_succ _, Nat.le_refl _, hb⟩
  exact H2.out.fr (Fr.of_below hb []) (by simp)
end
end Go.Proofs.Ytophkjnniodegaa
