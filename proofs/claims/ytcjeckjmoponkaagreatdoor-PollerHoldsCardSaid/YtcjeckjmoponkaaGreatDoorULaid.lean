/- What the rows' list of variables gives a walk, and a world that meets the list: the bits' table and the tasks' moves. -/
import Derived.Test.YtcjeckjmoponkaaGreatDoorCards
import Derived.Test.YtcjeckjmoponkaaGreatDoorTie
import Derived.Test.YtcjeckjmoponkaaGreatDoorUMem
import Derived.ProofKit
import Derived.OpenShut
import Derived.ChangeOld
import Derived.Below
import Derived.Deep.DeepHandedRow
import Derived.Deep.DeepWitnessRowRef
import Derived.Lib.LaidTab
namespace Go.Proofs.YtcjeckjmoponkaaGreatDoor
open Go.ChangeShapes Go.WideShapes Go.ChangeAt Go.RowKit
set_option linter.unusedVariables false
set_option linter.unusedSimpArgs false

theorem own : ownKnob Tryz.prog.godebug = none := by kernel_rfl
theorem laidOut : laidOutB Tryz.prog = true := by kernel_rfl
theorem gTab_at : Tryz.prog.globalNamed "math/bits.deBruijn64tab" = some 1 := by kernel_rfl
theorem gMoves_at : Tryz.prog.globalNamed "aqueduct/task.moves" = some 0 := by kernel_rfl
theorem cellsMove : Tryz.prog.cellsOf 346 = 2 := by kernel_rfl
theorem cellsState : Tryz.prog.cellsOf 79 = 1 := by kernel_rfl
def dB64 : List Int := Lib.deBruijn64tab.map Int.ofNat

theorem move_cells {H : Type} {enc : TypeId × Value → H} {w : World} {base : Nat} {sp : Nat → Bool} {held : Bool} {fuel i : Nat} {cs : List Value} {a b : Int} {p : List MemPlace}
    (h : DataW.trod enc Tryz.prog w base sp held fuel 346 ((cs.drop (i * 2)).take 2) = some (.agg [.lit (.int .i64 a), .lit (.int .i64 b)], p)) : cs[i * 2]? = some (.int .i64 a) ∧ cs[i * 2 + 1]? = some (.int .i64 b) := by
  obtain ⟨y0, y1, n, hx, hl, h0, h1⟩ := trod_struct2 Tryz.underlying346 h
  simp only [Prod.mk.injEq, DataW.agg.injEq, List.cons.injEq, and_true] at hx
  obtain ⟨⟨e0, e1⟩, -⟩ := hx
  obtain ⟨x0, c0, d0, _⟩ := DataW.trod_int (P := Tryz.prog) Tryz.underlying79 h0
  obtain ⟨x1, c1, d1, _⟩ := DataW.trod_int (P := Tryz.prog) Tryz.underlying79 h1
  rw [d0] at e0
  rw [d1] at e1
  simp only [DataW.lit.injEq, Lit.int.injEq, true_and] at e0 e1
  subst e0 e1
  have k0 := congrArg (·[0]?) c0
  have k1 := congrArg (·[0]?) c1
  simp [cellsState, List.getElem?_take, List.getElem?_drop] at k0 k1
  exact ⟨k0, k1⟩

/-- What the rows' list gives. -/
theorem both_of {W : World} (h : laidMetH Tryz.prog Rows.pollerPlaysRow.laid W) : MvAt W ∧ Dl.Tab W := by
  have h' : laidMet Tryz.prog Rows.pollerPlaysRow.laid W := h
  refine ⟨?_, ?_⟩
  · obtain ⟨ps, ⟨g0, t0, cs0, fuel0, p0', q0, hg0, ht0, hv0, hd0, ⟨g', t', cs, fuel, p, q, hg', ht', hvar, hd, _, _⟩, _⟩, _⟩ := h'
    obtain rfl := Option.some.inj (gMoves_at.symm.trans hg')
    obtain rfl := Option.some.inj ((show (Tryz.prog.globals[0]?).map (·.type) = some 347 by kernel_rfl).symm.trans ht')
    obtain ⟨xs, m, _, hx, hl, hxl, hi⟩ := DataW.trod_array Tryz.underlying347 hd
    simp only [cellsMove] at hi
    match xs, hxl with
    | [(y0, p0), (y1, p1), (y2, p2), (y3, p3), (y4, p4)], _ =>
      have hx1 := congrArg Prod.fst hx
      simp only [Rows.laid_aqueduct_task_moves, List.map_cons, List.map_nil, DataW.agg.injEq, List.cons.injEq, and_true] at hx1
      obtain ⟨e0, e1, e2, e3, e4⟩ := hx1
      subst e0 e1 e2 e3 e4
      obtain ⟨a0, a1⟩ := move_cells (i := 0) (hi 0 (by omega))
      obtain ⟨a2, a3⟩ := move_cells (i := 1) (hi 1 (by omega))
      obtain ⟨a4, a5⟩ := move_cells (i := 2) (hi 2 (by omega))
      obtain ⟨a6, a7⟩ := move_cells (i := 3) (hi 3 (by omega))
      obtain ⟨a8, a9⟩ := move_cells (i := 4) (hi 4 (by omega))
      intro j x hj
      have hc := World.var?_cell gMoves_at hvar j
      rw [hc, ← Array.getElem?_toList]
      match j with
      | 0 => cases hj; exact a0
      | 1 => cases hj; exact a1
      | 2 => cases hj; exact a2
      | 3 => cases hj; exact a3
      | 4 => cases hj; exact a4
      | 5 => cases hj; exact a5
      | 6 => cases hj; exact a6
      | 7 => cases hj; exact a7
      | 8 => cases hj; exact a8
      | 9 => cases hj; exact a9
      | j + 10 => simp [mvs] at hj
  · have ht : Lib.TabIs Tryz.prog W "math/bits.deBruijn64tab" .u8 dB64 := Lib.tabIs_of_head (zs := dB64) (t := 382) (e := 5) (n := 64) gTab_at (by kernel_rfl) Tryz.underlying382 Tryz.underlying5 (by kernel_rfl) (by kernel_rfl) h'
    intro j hj
    have hc := ht.cell gTab_at j (by simpa [dB64, Lib.deBruijn64tab] using hj)
    rw [hc]
    simp only [dB64, List.getD_eq_getElem?_getD, List.getElem?_map]
    cases h : Lib.deBruijn64tab[j]? <;> simp

noncomputable def laidWorld (os : Os) : World :=
  let w0 := World.holding Tryz.prog os ⟨#[], #[], []⟩
  { w0 with heap := (w0.heap.modify 0 fun
    | .cells _ t frozen => .cells (mvs.map fun z => Value.int .i64 z).toArray t frozen
    | o => o).modify 1 fun
    | .cells _ t frozen => .cells (dB64.map fun z => Value.int .u8 z).toArray t frozen
    | o => o }

set_option maxRecDepth 1000000 in
theorem laid_met (os : Os) (args : Array Value) : laidMet Tryz.prog Rows.pollerPlaysRow.laid ((laidWorld os).forCall (fun _ _ => 0) ⟨#[], args, []⟩).memory :=
  laidMet_of_run' 8 (by kernel_rfl) (by kernel_rfl)
end Go.Proofs.YtcjeckjmoponkaaGreatDoor
