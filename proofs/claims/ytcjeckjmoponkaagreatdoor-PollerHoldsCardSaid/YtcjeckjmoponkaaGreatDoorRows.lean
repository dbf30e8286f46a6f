/-
  NARROWER THAN 'FOR EVERY INPUT', by the rows' own cells (each row's printed sentence says how): PollerPlays: laid · PollerFulls: laid · PollerNil: laid · PollerWakes: laid · PollerHolds: laid.
  DERIVED. THE GIVEN ROWS OF THIS SEAT. 5 by the template 'for every input the law returns true; each argument reads behind the call as it read before'; 0 by the template 'total and deterministic' (their statements: YtcjeckjmoponkaaGreatDoorTotals.lean).
  GIVEN WITH THE SEED: the statements are not yours to turn. If you find one false, say at which input.
  Laid BY PROGRAM, IN A SANDBOX (cutbox-rows.mjs): the forced cells as the released guide's own fill.sh prints them over the translation 9fdff3cb76893bf8… (all of the seat's roots in one cut). By AI agents, Wed Nov 11 2026. No macro, syntax, notation, axiom, sorry.
-/
import Derived.Test.YtcjeckjmoponkaaGreatDoorChecked
import GoSem.Claim
import GoSem.ClaimJoined
import GoSem.ClaimMapViews
import Derived.JoinedTies
import Derived.KernelRfl
namespace Go.Proofs.YtcjeckjmoponkaaGreatDoor
/- THE CELL 'sum', in the pinned program and in every row, IS THE sha256 OF THE DUMP (.gsa) THAT YtcjeckjmoponkaaGreatDoorProg.lean LOADS. Nothing in Lean hashes anything: it is a label: what it is worth is what the hold of that sum in a sandbox is worth. -/
noncomputable def Tryz.pinned : Pinned := { name := "ytcjeckjmoponkaagreatdoor", sum := "9fdff3cb76893bf8043553c1b56e4cf5522401e92ea5fe58e6d7f2d1a1f44688", checked := Tryz.checked }
namespace Rows
def none {H : Type} : Left H := { results := [], args := [] }

/- WHAT THE LISTED PACKAGE-LEVEL VARIABLES READ AS WHEN THE CALL BEGINS. Each datum BY PROGRAM (the guide's laid-datum.mjs) off the statement by which the dump's own 'gosem.cut.vars' lays the variable. In a bare row this is a premise. The card (YtcjeckjmoponkaaGreatDoorCards.lean) ties it to the program's text. -/
def laid_math_bits_deBruijn64tab {H : Type} : DataW H := .agg [.lit (.int .u8 0), .lit (.int .u8 1), .lit (.int .u8 56), .lit (.int .u8 2), .lit (.int .u8 57), .lit (.int .u8 49), .lit (.int .u8 28), .lit (.int .u8 3), .lit (.int .u8 61), .lit (.int .u8 58), .lit (.int .u8 42), .lit (.int .u8 50), .lit (.int .u8 38), .lit (.int .u8 29), .lit (.int .u8 17), .lit (.int .u8 4), .lit (.int .u8 62), .lit (.int .u8 47), .lit (.int .u8 59), .lit (.int .u8 36), .lit (.int .u8 45), .lit (.int .u8 43), .lit (.int .u8 51), .lit (.int .u8 22), .lit (.int .u8 53), .lit (.int .u8 39), .lit (.int .u8 33), .lit (.int .u8 30), .lit (.int .u8 24), .lit (.int .u8 18), .lit (.int .u8 12), .lit (.int .u8 5), .lit (.int .u8 63), .lit (.int .u8 55), .lit (.int .u8 48), .lit (.int .u8 27), .lit (.int .u8 60), .lit (.int .u8 41), .lit (.int .u8 37), .lit (.int .u8 16), .lit (.int .u8 46), .lit (.int .u8 35), .lit (.int .u8 44), .lit (.int .u8 21), .lit (.int .u8 52), .lit (.int .u8 32), .lit (.int .u8 23), .lit (.int .u8 11), .lit (.int .u8 54), .lit (.int .u8 26), .lit (.int .u8 40), .lit (.int .u8 15), .lit (.int .u8 34), .lit (.int .u8 20), .lit (.int .u8 31), .lit (.int .u8 10), .lit (.int .u8 25), .lit (.int .u8 14), .lit (.int .u8 19), .lit (.int .u8 9), .lit (.int .u8 13), .lit (.int .u8 8), .lit (.int .u8 7), .lit (.int .u8 6)]
def laid_aqueduct_task_moves {H : Type} : DataW H := .agg [.agg [.lit (.int .i64 0), .lit (.int .i64 1)], .agg [.lit (.int .i64 1), .lit (.int .i64 2)], .agg [.lit (.int .i64 2), .lit (.int .i64 1)], .agg [.lit (.int .i64 1), .lit (.int .i64 0)], .agg [.lit (.int .i64 1), .lit (.int .i64 1)]]

/-- 'aqueductlaw11.PollerPlays': WHATEVER THE INPUT: true; the input reads as it did. -/
def pollerPlaysSpec : ChangeSpec := { name := "pollerPlays", fn := fun _ => fun
  | [d1, d2, d3] => { results := [.lit (.bool true)], args := [d1, d2, d3] }
  | _ => none }
def pollerPlaysRow : OpenClaim := { program := "ytcjeckjmoponkaagreatdoor", sum := "9fdff3cb76893bf8043553c1b56e4cf5522401e92ea5fe58e6d7f2d1a1f44688", func := "aqueduct/aqueductlaw11.PollerPlays", spec := "pollerPlays", inPlace := ["maps.clone"], unfollowed := true, recurses := true, named := ["aqueduct/task.moves", "math/bits.deBruijn64tab"], plainKeys := false, apart := false, laid := [("math/bits.deBruijn64tab", laid_math_bits_deBruijn64tab), ("aqueduct/task.moves", laid_aqueduct_task_moves)] }
def PollerPlaysSaid : Prop := pollerPlaysRow.holds Tryz.pinned (OpenSpec.ofChange pollerPlaysSpec)

/-- ITS FALSE NEIGHBOUR: 'it returns false'. Refute it at one input. -/
def pollerPlaysWrong : ChangeSpec := { name := "pollerPlays", fn := fun _ => fun
  | [d1, d2, d3] => { results := [.lit (.bool false)], args := [d1, d2, d3] }
  | _ => none }
def PollerPlaysWrongFalsely : Prop := pollerPlaysRow.holds Tryz.pinned (OpenSpec.ofChange pollerPlaysWrong)

/-- 'aqueductlaw11.PollerFulls': WHATEVER THE INPUT: true; the input reads as it did. -/
def pollerFullsSpec : ChangeSpec := { name := "pollerFulls", fn := fun _ => fun
  | [d1, d2] => { results := [.lit (.bool true)], args := [d1, d2] }
  | _ => none }
def pollerFullsRow : OpenClaim := { program := "ytcjeckjmoponkaagreatdoor", sum := "9fdff3cb76893bf8043553c1b56e4cf5522401e92ea5fe58e6d7f2d1a1f44688", func := "aqueduct/aqueductlaw11.PollerFulls", spec := "pollerFulls", unfollowed := true, recurses := true, named := ["aqueduct/task.moves", "math/bits.deBruijn64tab"], plainKeys := false, apart := false, laid := [("math/bits.deBruijn64tab", laid_math_bits_deBruijn64tab), ("aqueduct/task.moves", laid_aqueduct_task_moves)] }
def PollerFullsSaid : Prop := pollerFullsRow.holds Tryz.pinned (OpenSpec.ofChange pollerFullsSpec)

/-- ITS FALSE NEIGHBOUR: 'it returns false'. Refute it at one input. -/
def pollerFullsWrong : ChangeSpec := { name := "pollerFulls", fn := fun _ => fun
  | [d1, d2] => { results := [.lit (.bool false)], args := [d1, d2] }
  | _ => none }
def PollerFullsWrongFalsely : Prop := pollerFullsRow.holds Tryz.pinned (OpenSpec.ofChange pollerFullsWrong)

/-- 'aqueductlaw11.PollerNil': WHATEVER THE INPUT: true; the input reads as it did. -/
def pollerNilSpec : ChangeSpec := { name := "pollerNil", fn := fun _ => fun
  | [d1, d2, d3, d4] => { results := [.lit (.bool true)], args := [d1, d2, d3, d4] }
  | _ => none }
def pollerNilRow : OpenClaim := { program := "ytcjeckjmoponkaagreatdoor", sum := "9fdff3cb76893bf8043553c1b56e4cf5522401e92ea5fe58e6d7f2d1a1f44688", func := "aqueduct/aqueductlaw11.PollerNil", spec := "pollerNil", inPlace := ["maps.clone"], unfollowed := true, recurses := true, named := ["math/bits.deBruijn64tab", "aqueduct/task.moves"], plainKeys := false, apart := false, laid := [("math/bits.deBruijn64tab", laid_math_bits_deBruijn64tab), ("aqueduct/task.moves", laid_aqueduct_task_moves)] }
def PollerNilSaid : Prop := pollerNilRow.holds Tryz.pinned (OpenSpec.ofChange pollerNilSpec)

/-- ITS FALSE NEIGHBOUR: 'it returns false'. Refute it at one input. -/
def pollerNilWrong : ChangeSpec := { name := "pollerNil", fn := fun _ => fun
  | [d1, d2, d3, d4] => { results := [.lit (.bool false)], args := [d1, d2, d3, d4] }
  | _ => none }
def PollerNilWrongFalsely : Prop := pollerNilRow.holds Tryz.pinned (OpenSpec.ofChange pollerNilWrong)

/-- 'aqueductlaw11.PollerWakes': WHATEVER THE INPUT: true; the input reads as it did. -/
def pollerWakesSpec : ChangeSpec := { name := "pollerWakes", fn := fun _ => fun
  | [d1, d2, d3, d4] => { results := [.lit (.bool true)], args := [d1, d2, d3, d4] }
  | _ => none }
def pollerWakesRow : OpenClaim := { program := "ytcjeckjmoponkaagreatdoor", sum := "9fdff3cb76893bf8043553c1b56e4cf5522401e92ea5fe58e6d7f2d1a1f44688", func := "aqueduct/aqueductlaw11.PollerWakes", spec := "pollerWakes", unfollowed := true, recurses := true, named := ["aqueduct/task.moves", "math/bits.deBruijn64tab"], plainKeys := false, apart := false, laid := [("math/bits.deBruijn64tab", laid_math_bits_deBruijn64tab), ("aqueduct/task.moves", laid_aqueduct_task_moves)] }
def PollerWakesSaid : Prop := pollerWakesRow.holds Tryz.pinned (OpenSpec.ofChange pollerWakesSpec)

/-- ITS FALSE NEIGHBOUR: 'it returns false'. Refute it at one input. -/
def pollerWakesWrong : ChangeSpec := { name := "pollerWakes", fn := fun _ => fun
  | [d1, d2, d3, d4] => { results := [.lit (.bool false)], args := [d1, d2, d3, d4] }
  | _ => none }
def PollerWakesWrongFalsely : Prop := pollerWakesRow.holds Tryz.pinned (OpenSpec.ofChange pollerWakesWrong)

/-- 'aqueductlaw11.PollerHolds': WHATEVER THE INPUT: true; the input reads as it did. -/
def pollerHoldsSpec : ChangeSpec := { name := "pollerHolds", fn := fun _ => fun
  | [d1, d2, d3] => { results := [.lit (.bool true)], args := [d1, d2, d3] }
  | _ => none }
def pollerHoldsRow : OpenClaim := { program := "ytcjeckjmoponkaagreatdoor", sum := "9fdff3cb76893bf8043553c1b56e4cf5522401e92ea5fe58e6d7f2d1a1f44688", func := "aqueduct/aqueductlaw11.PollerHolds", spec := "pollerHolds", unfollowed := true, recurses := true, named := ["aqueduct/task.moves", "math/bits.deBruijn64tab"], plainKeys := false, apart := false, laid := [("math/bits.deBruijn64tab", laid_math_bits_deBruijn64tab), ("aqueduct/task.moves", laid_aqueduct_task_moves)] }
def PollerHoldsSaid : Prop := pollerHoldsRow.holds Tryz.pinned (OpenSpec.ofChange pollerHoldsSpec)

/-- ITS FALSE NEIGHBOUR: 'it returns false'. Refute it at one input. -/
def pollerHoldsWrong : ChangeSpec := { name := "pollerHolds", fn := fun _ => fun
  | [d1, d2, d3] => { results := [.lit (.bool false)], args := [d1, d2, d3] }
  | _ => none }
def PollerHoldsWrongFalsely : Prop := pollerHoldsRow.holds Tryz.pinned (OpenSpec.ofChange pollerHoldsWrong)

/- THE SECOND FORM. 'bulk': how many values and letters a reading holds, each counted each time it is reached (what is shared counts as often as it is met; a slice's spare places count too). A statement '..UptoSaid' is the law's where the arguments, and the package variables that the reading takes, are together of bulk at most 1048576: NARROWER than '..Said'. Prove '..Said' where nothing that the law and all that it calls make is longer than what came in: it says more and counts as full. Else prove '..UptoSaid'. A law counts once. -/
mutual
def uptoBulk {H : Type} : DataW H → Nat
  | .lit (.string bytes) => bytes.length + 1
  | .lit _ => 1
  | .nil => 1
  | .ptr d => uptoBulk d + 1
  | .slice elems spare => uptoBulkAll elems + uptoBulkAll spare + 1
  | .agg parts => uptoBulkAll parts + 1
  | .iface _ d => uptoBulk d + 1
  | .map entries => uptoBulkEntries entries + 1
  | .held _ => 1
def uptoBulkAll {H : Type} : List (DataW H) → Nat
  | [] => 0
  | d :: r => uptoBulk d + uptoBulkAll r
def uptoBulkEntries {H : Type} : List (Lit × DataW H) → Nat
  | [] => 0
  | x :: r => uptoBulkEntry x + uptoBulkEntries r
def uptoBulkEntry {H : Type} : Lit × DataW H → Nat
  | (.string bytes, d) => bytes.length + uptoBulk d + 1
  | (_, d) => uptoBulk d + 1
 end
def uptoSmall : (H : Type) → List (DataW H) → Bool := fun _ ds => decide (uptoBulkAll ds ≤ 1048576)
def OpenSpec.upto (s : _root_.Go.ChangeSpec) : _root_.Go.OpenSpec := { _root_.Go.OpenSpec.ofChange s with cond := some uptoSmall }

/-- 'aqueductlaw11.PollerPlays', WHERE WHAT IT READS IS OF BULK AT MOST 1048576: true; the input reads as it did. -/
def pollerPlaysUptoRow : OpenClaim := { program := "ytcjeckjmoponkaagreatdoor", sum := "9fdff3cb76893bf8043553c1b56e4cf5522401e92ea5fe58e6d7f2d1a1f44688", func := "aqueduct/aqueductlaw11.PollerPlays", spec := "pollerPlays", inPlace := ["maps.clone"], unfollowed := true, recurses := true, named := ["aqueduct/task.moves", "math/bits.deBruijn64tab"], plainKeys := false, apart := false, laid := [("math/bits.deBruijn64tab", laid_math_bits_deBruijn64tab), ("aqueduct/task.moves", laid_aqueduct_task_moves)], narrowed := true }
def PollerPlaysUptoSaid : Prop := pollerPlaysUptoRow.holds Tryz.pinned (OpenSpec.upto pollerPlaysSpec)

/-- 'aqueductlaw11.PollerFulls', WHERE WHAT IT READS IS OF BULK AT MOST 1048576: true; the input reads as it did. -/
def pollerFullsUptoRow : OpenClaim := { program := "ytcjeckjmoponkaagreatdoor", sum := "9fdff3cb76893bf8043553c1b56e4cf5522401e92ea5fe58e6d7f2d1a1f44688", func := "aqueduct/aqueductlaw11.PollerFulls", spec := "pollerFulls", unfollowed := true, recurses := true, named := ["aqueduct/task.moves", "math/bits.deBruijn64tab"], plainKeys := false, apart := false, laid := [("math/bits.deBruijn64tab", laid_math_bits_deBruijn64tab), ("aqueduct/task.moves", laid_aqueduct_task_moves)], narrowed := true }
def PollerFullsUptoSaid : Prop := pollerFullsUptoRow.holds Tryz.pinned (OpenSpec.upto pollerFullsSpec)

/-- 'aqueductlaw11.PollerNil', WHERE WHAT IT READS IS OF BULK AT MOST 1048576: true; the input reads as it did. -/
def pollerNilUptoRow : OpenClaim := { program := "ytcjeckjmoponkaagreatdoor", sum := "9fdff3cb76893bf8043553c1b56e4cf5522401e92ea5fe58e6d7f2d1a1f44688", func := "aqueduct/aqueductlaw11.PollerNil", spec := "pollerNil", inPlace := ["maps.clone"], unfollowed := true, recurses := true, named := ["math/bits.deBruijn64tab", "aqueduct/task.moves"], plainKeys := false, apart := false, laid := [("math/bits.deBruijn64tab", laid_math_bits_deBruijn64tab), ("aqueduct/task.moves", laid_aqueduct_task_moves)], narrowed := true }
def PollerNilUptoSaid : Prop := pollerNilUptoRow.holds Tryz.pinned (OpenSpec.upto pollerNilSpec)

/-- 'aqueductlaw11.PollerWakes', WHERE WHAT IT READS IS OF BULK AT MOST 1048576: true; the input reads as it did. -/
def pollerWakesUptoRow : OpenClaim := { program := "ytcjeckjmoponkaagreatdoor", sum := "9fdff3cb76893bf8043553c1b56e4cf5522401e92ea5fe58e6d7f2d1a1f44688", func := "aqueduct/aqueductlaw11.PollerWakes", spec := "pollerWakes", unfollowed := true, recurses := true, named := ["aqueduct/task.moves", "math/bits.deBruijn64tab"], plainKeys := false, apart := false, laid := [("math/bits.deBruijn64tab", laid_math_bits_deBruijn64tab), ("aqueduct/task.moves", laid_aqueduct_task_moves)], narrowed := true }
def PollerWakesUptoSaid : Prop := pollerWakesUptoRow.holds Tryz.pinned (OpenSpec.upto pollerWakesSpec)

/-- 'aqueductlaw11.PollerHolds', WHERE WHAT IT READS IS OF BULK AT MOST 1048576: true; the input reads as it did. -/
def pollerHoldsUptoRow : OpenClaim := { program := "ytcjeckjmoponkaagreatdoor", sum := "9fdff3cb76893bf8043553c1b56e4cf5522401e92ea5fe58e6d7f2d1a1f44688", func := "aqueduct/aqueductlaw11.PollerHolds", spec := "pollerHolds", unfollowed := true, recurses := true, named := ["aqueduct/task.moves", "math/bits.deBruijn64tab"], plainKeys := false, apart := false, laid := [("math/bits.deBruijn64tab", laid_math_bits_deBruijn64tab), ("aqueduct/task.moves", laid_aqueduct_task_moves)], narrowed := true }
def PollerHoldsUptoSaid : Prop := pollerHoldsUptoRow.holds Tryz.pinned (OpenSpec.upto pollerHoldsSpec)

end Rows
end Go.Proofs.YtcjeckjmoponkaaGreatDoor
