/- The law's do, any call; the fronts of both queues. -/
import Derived.Test.YtopkikdbhapfmaaDDo1
import Derived.Test.YtopkikdbhapfmaaDDo2
import Derived.Test.YtopkikdbhapfmaaDDo3
import Derived.Test.YtopkikdbhapfmaaDDo4
import Derived.Test.YtopkikdbhapfmaaDDo5
namespace Go.Proofs.Ytopkikdbhapfmaa
open Go.RowKit Go.Sort Go.MapKept
set_option linter.unusedVariables false
set_option linter.unusedSimpArgs false

theorem do_any {w0 w : World} {q b m g : Nat} {v : Value} {L : Qu} (h : DSt w0 w q b m v L g) (hg : g ≤ 900) (x0 x1 : Int) (X : Nat) :
    Calls Try.prog 10 #[.pointer (some ⟨q, 0, none⟩), rq v g, .agg #[.int .i64 x0, .int .i64 x1, .int .u64 ((X : Nat) : Int)]] w (DoPost w0 w b m g) := by
  by_cases h0 : x0 = 0
  · subst h0; exact do_push h hg x1 X
  by_cases h1 : x0 = 1
  · subst h1
    rcases L with _ | ⟨⟨t, x⟩, R⟩
    · exact do_pop_empty h hg x1 X
    · exact do_pop_yes h hg x1 X
  by_cases h2 : x0 = 2
  · subst h2
    by_cases hX : X ∈ L.map Prod.fst
    · obtain ⟨C, x, D, rfl⟩ := split_at hX
      exact do_rem_yes h hg x1
    · exact do_rem_no h hg x1 X hX
  by_cases h3 : x0 = 3
  · subst h3
    by_cases hX : X ∈ L.map Prod.fst
    · obtain ⟨e, he, hX2⟩ := List.mem_map.1 hX
      obtain ⟨n, hn, hne⟩ := List.mem_iff_getElem.1 he
      exact do_place_yes (n := n) h hg x1 hn (by rw [← hX2, ← hne]; simp [tkt, List.getD, hn])
    · exact do_place_no h hg x1 X hX
  · exact do_copy h hg x0 x1 X (by simp [h0]) (by simp [h1]) (by simp [h2]) (by simp [h3])

theorem fronts {w0 w : World} {q b m g : Nat} {v : Value} {L : Qu} (h : DSt w0 w q b m v L g) (hg : g ≤ 900) : ∃ (x : Int) (t : Nat) (c : Int),
    (∀ w', Below w.heap.size w w' → Calls Try.prog 11 #[.pointer (some ⟨q, 0, none⟩)] w' fun e w'' => e = .returned (.tuple #[.int .i64 x, .int .u64 ((t : Nat) : Int), .int .i64 c]) ∧ Grn w' w'') ∧
    (∀ w', Below w.heap.size w w' → Calls Try.prog 12 #[rq v g] w' fun e w'' => e = .returned (.tuple #[.int .i64 x, .int .u64 ((t : Nat) : Int), .int .i64 c]) ∧ Grn w' w'') := by
  have hl := h.len
  rcases L with _ | ⟨⟨t, x⟩, R⟩
  · refine ⟨0, 0, 9, fun w' hb => (fiFront_empty (h.grown hb).K.Q).mono ?_, fun w' hb => refFront_empty (h.grown hb).R.src⟩
    rintro e w'' ⟨rfl, rfl⟩
    exact ⟨rfl, Grn.refl _⟩
  · exact ⟨x, t, 0, fun w' hb => fiFront_yes (h.grown hb).K.Q, fun w' hb => refFront_yes (h.grown hb).R.src (by simp at hl; omega)⟩

theorem mids_call {P : Program} {ops : Array Oper} {Q : Exit → Act → World → Prop} {S : World → Prop} {K : Act → World → Prop} {o : Oper} {l : List Oper} {a : Act} {w : World} {R : Ending → World → Prop} (f : FuncId) (vals : Array Value)
    (hw : Region.wanted o (yielded ops a.tmps) = true) (hx : (execOp a.eval o).run P w = .ok (.enter f vals) w) (hc : Calls P f vals w R)
    (h : ∀ e w', R e w' → ∃ v, e = .returned v ∧ S w' ∧ wpMids P ops Q S K l (a.put o.dst v) w') : wpMids P ops Q S K (o :: l) a w := by
  unfold wpMids
  rw [if_pos hw]
  unfold Oper.wp
  rw [hx, Oper.upon_enter]
  refine hc.mono ?_
  intro e w' hR
  obtain ⟨v, rfl, h1, h2⟩ := h e w' hR
  exact ⟨h1, h2⟩
end Go.Proofs.Ytopkikdbhapfmaa
