/- find, Front, Remove, Pop. -/
import Derived.Test.YtcdimopiaanfbaaDoorDJoin
namespace Go.Proofs.YtcdimopiaanfbaaDoor
open Go.RowKit Go.Sort Go.MapKept
set_option linter.unusedVariables false
set_option linter.unusedSimpArgs false

theorem fiFind_yes {w : World} {q b m g : Nat} {L : Qu} (h : QAt w q b m L g) (t : Nat) {x : Lk} (hx : lks 0 0 L t = some x) :
    Calls Tryd.prog 73 #[.pointer (some ⟨q, 0, none⟩), .int .u64 ((t : Nat) : Int)] w fun e w' => e = .returned (.tuple #[.agg #[.int .i64 x.v, .int .u64 ((x.b : Nat) : Int), .int .u64 ((x.a : Nat) : Int)], .int .i64 0]) ∧ Grn w w' := by
  have hW := h.grown (below_alloc w (.cells #[.int .i64 0, .int .u64 0, .int .u64 0] 123))
  have hu := Lib.hid (fiUsable_yes hW)
  have c := hW.cq
  have c2 := hW.body.c2
  have l1 := hW.m.look_yes hx true
  simp only [if_true] at l1
  unfold encT Lk.enc at l1
  clear h hW hx
  go_enter Tryd.func73, Tryd.ntmps73
  go_wp2_with (go_at_call 69; refine hu.out.mono ?_; rintro e w2 ⟨rfl, rfl⟩)
  refine bodyPost_ret (v := .tuple #[.agg #[.int .i64 x.v, .int .u64 ((x.b : Nat) : Int), .int .u64 ((x.a : Nat) : Int)], .int .i64 0]) (by simp [results, Tryd.results73, go_sem]) rfl ?_
  exact ⟨rfl, ((Grn.refl w).alloc _).alloc _⟩
theorem fiFind_no {w : World} {q b m g : Nat} {L : Qu} (h : QAt w q b m L g) (t : Nat) (hx : lks 0 0 L t = none) :
    Calls Tryd.prog 73 #[.pointer (some ⟨q, 0, none⟩), .int .u64 ((t : Nat) : Int)] w fun e w' => e = .returned (.tuple #[.agg #[.int .i64 0, .int .u64 0, .int .u64 0], .int .i64 9]) ∧ Grn w w' := by
  have hW := h.grown (below_alloc w (.cells #[.int .i64 0, .int .u64 0, .int .u64 0] 123))
  have hu := Lib.hid (fiUsable_yes hW)
  have c := hW.cq
  have c2 := hW.body.c2
  have l1 := hW.m.look_no hx true
  simp only [if_true] at l1
  unfold encT Lk.enc at l1
  clear h hW hx
  go_enter Tryd.func73, Tryd.ntmps73
  go_wp2_with (go_at_call 69; refine hu.out.mono ?_; rintro e w2 ⟨rfl, rfl⟩)
  refine bodyPost_ret (v := .tuple #[.agg #[.int .i64 0, .int .u64 0, .int .u64 0], .int .i64 9]) (by simp [results, Tryd.results73, go_sem]) rfl ?_
  exact ⟨rfl, ((Grn.refl w).alloc _).alloc _⟩
/-- A pointer that is no queue. -/
def NoQ (w : World) (v : Value) : Prop := v = .pointer none ∨ ∃ q, v = .pointer (some ⟨q, 0, none⟩) ∧ w.heap[q]? = some (.cells #[.pointer none] 117 (0, 0))
theorem NoQ.grown {w w' : World} {v : Value} (h : NoQ w v) (hb : Below w.heap.size w w') : NoQ w' v := by
  rcases h with h | ⟨q, h1, h2⟩
  · exact .inl h
  · exact .inr ⟨q, h1, (hb.block _ (lt_of_block h2)).trans h2⟩
theorem NoQ.form {w : World} {v : Value} (h : NoQ w v) : ∃ a, v = .pointer a := by
  rcases h with h | ⟨q, h1, h2⟩
  · exact ⟨_, h⟩
  · exact ⟨_, h1⟩
theorem fiUsable_no {w : World} {v : Value} (h : NoQ w v) : Calls Tryd.prog 69 #[v] w fun e w' => e = .returned (.bool false) ∧ w' = w := by
  rcases h with rfl | ⟨q, rfl, h2⟩
  · exact fiUsable_nil w
  · exact fiUsable_zero (cells_cell h2 rfl)
theorem fiFind_nil {w : World} {v : Value} (h : NoQ w v) (t : Int) :
    Calls Tryd.prog 73 #[v, .int .u64 t] w fun e w' => e = .returned (.tuple #[.agg #[.int .i64 0, .int .u64 0, .int .u64 0], .int .i64 1]) ∧ Grn w w' := by
  have hu := Lib.hid (fiUsable_no (h.grown (below_alloc w (.cells #[.int .i64 0, .int .u64 0, .int .u64 0] 123))))
  obtain ⟨a, rfl⟩ := h.form
  clear h
  go_enter Tryd.func73, Tryd.ntmps73
  go_wp2_with (go_at_call 69; refine hu.out.mono ?_; rintro e w2 ⟨rfl, rfl⟩)
  refine bodyPost_ret (v := .tuple #[.agg #[.int .i64 0, .int .u64 0, .int .u64 0], .int .i64 1]) (by simp [results, Tryd.results73, go_sem]) rfl ?_
  exact ⟨rfl, (Grn.refl w).alloc _⟩
theorem fiLen_nil {w : World} {v : Value} (h : NoQ w v) : Calls Tryd.prog 49 #[v] w fun e w' => e = .returned (.int .i64 0) ∧ w' = w := by
  have hu := Lib.hid (fiUsable_no h)
  obtain ⟨a, rfl⟩ := h.form
  clear h
  go_enter Tryd.func49, Tryd.ntmps49
  go_wp2_with (go_at_call 69; refine hu.out.mono ?_; rintro e w2 ⟨rfl, rfl⟩)
  go_ret
  exact ⟨rfl, rfl⟩
theorem fiFront_nil {w : World} {v : Value} (h : NoQ w v) : Calls Tryd.prog 46 #[v] w fun e w' => e = .returned (.tuple #[.int .i64 0, .int .u64 0, .int .i64 1]) ∧ w' = w := by
  have hu := Lib.hid (fiUsable_no h)
  obtain ⟨a, rfl⟩ := h.form
  clear h
  go_enter Tryd.func46, Tryd.ntmps46
  go_wp2_with (go_at_call 69; refine hu.out.mono ?_; rintro e w2 ⟨rfl, rfl⟩)
  go_ret3
  exact ⟨rfl, rfl⟩
theorem fiFront_empty {w : World} {q b m g : Nat} (h : QAt w q b m [] g) : Calls Tryd.prog 46 #[.pointer (some ⟨q, 0, none⟩)] w fun e w' => e = .returned (.tuple #[.int .i64 0, .int .u64 0, .int .i64 9]) ∧ w' = w := by
  have hu := Lib.hid (fiUsable_yes h)
  have hl := Lib.hid (fiLen_any h)
  clear h
  go_enter Tryd.func46, Tryd.ntmps46
  go_wp2_with (first | (go_at_call 69; refine hu.out.mono ?_; rintro e w2 ⟨rfl, rfl⟩) | (go_at_call 49; refine hl.out.mono ?_; rintro e w2 ⟨rfl, rfl⟩))
  go_ret3
  exact ⟨rfl, rfl⟩
set_option maxHeartbeats 1600000 in
theorem fiFront_yes {w : World} {q b m g t : Nat} {v : Int} {L : Qu} (h : QAt w q b m ((t, v) :: L) g) : Calls Tryd.prog 46 #[.pointer (some ⟨q, 0, none⟩)] w fun e w' => e = .returned (.tuple #[.int .i64 v, .int .u64 ((t : Nat) : Int), .int .i64 0]) ∧ Grn w w' := by
  have hu := Lib.hid (fiUsable_yes h)
  have hl := Lib.hid (fiLen_any h)
  have c := h.cq
  have c2 := h.body.c2
  have c0 := h.body.c0
  have hx : lks 0 0 ((t, v) :: L) t = some ⟨v, 0, hdd 0 L⟩ := by simp [lks]
  have l1 := fun n => LinkMap.look_yes (w := w.drewN n) (h.m.same rfl) hx false
  simp only [Bool.false_eq_true, if_false] at l1
  unfold encT Lk.enc at l1
  have hlen : (0 : Int) < ((((t, v) :: L).length : Nat) : Int) := by rw [List.length_cons]; omega
  generalize ((t, v) :: L).length = n at *
  have e0 : hdd 0 ((t, v) :: L) = t := rfl
  rw [e0] at c0
  have hfd : ∀ (W : World) (b a : Int), (Instr.field 123 (.agg #[.int .i64 v, .int .u64 b, .int .u64 a]) 0).run Tryd.prog W = .ok (.int .i64 v) W := fun W b a => by kernel_rfl
  clear h hx e0
  go_enter Tryd.func46, Tryd.ntmps46
  go_wp2_with (first | (go_at_call 69; refine hu.out.mono ?_; rintro e w2 ⟨rfl, rfl⟩) | (go_at_call 49; refine hl.out.mono ?_; rintro e w2 ⟨rfl, rfl⟩))
  go_quiet (fail)
  go_wp2
  go_ret3
  exact ⟨rfl, (Grn.refl _).drew _⟩
end Go.Proofs.YtcdimopiaanfbaaDoor
