/-
  NARROWER THAN 'FOR EVERY INPUT', by the rows' own cells (each row's printed sentence says how): TaskPlays: laid · TaskOwn: laid · TaskNil: laid · TaskRounds: laid · TaskHolds: laid.
  DERIVED. THE GIVEN ROWS OF THIS SEAT. 5 by the template 'for every input the law returns true; each argument reads behind the call as it read before'; 0 by the template 'total and deterministic' (their statements: YtifdpdghjfcaaaaDoorTotals.lean).
  GIVEN WITH THE SEED: the statements are not yours to turn. If you find one false, say at which input.
  Laid BY PROGRAM, IN A SANDBOX (cutbox-rows.mjs): the forced cells as the released guide's own fill.sh prints them over the translation 4df9f8faafdd25d6… (all of the seat's roots in one cut). By AI agents, Wed Nov 11 2026. No macro, syntax, notation, axiom, sorry.
-/
import Derived.Test.YtifdpdghjfcaaaaDoorChecked
import GoSem.Claim
import GoSem.ClaimJoined
import GoSem.ClaimMapViews
import Derived.JoinedTies
import Derived.KernelRfl
namespace Go.Proofs.YtifdpdghjfcaaaaDoor
/- THE CELL 'sum', in the pinned program and in every row, IS THE sha256 OF THE DUMP (.gsa) THAT YtifdpdghjfcaaaaDoorProg.lean LOADS. Nothing in Lean hashes anything: it is a label: what it is worth is what the hold of that sum in a sandbox is worth. -/
noncomputable def Tryd.pinned : Pinned := { name := "ytifdpdghjfcaaaadoor", sum := "4df9f8faafdd25d6e1afa284866ddf680261ce819b0049dd83dda81ffe1bcab3", checked := Tryd.checked }
namespace Rows
def none {H : Type} : Left H := { results := [], args := [] }

/- WHAT THE LISTED PACKAGE-LEVEL VARIABLES READ AS WHEN THE CALL BEGINS. Each datum BY PROGRAM (the guide's laid-datum.mjs) off the statement by which the dump's own 'gosem.cut.vars' lays the variable. In a bare row this is a premise. The card (YtifdpdghjfcaaaaDoorCards.lean) ties it to the program's text. -/
def laid_aqueduct_task_moves {H : Type} : DataW H := .agg [.agg [.lit (.int .i64 0), .lit (.int .i64 1)], .agg [.lit (.int .i64 1), .lit (.int .i64 2)], .agg [.lit (.int .i64 2), .lit (.int .i64 1)], .agg [.lit (.int .i64 1), .lit (.int .i64 0)], .agg [.lit (.int .i64 1), .lit (.int .i64 1)]]

/-- 'aqueductlaw08.TaskPlays': WHATEVER THE INPUT: true; the input reads as it did. -/
def taskPlaysSpec : ChangeSpec := { name := "taskPlays", fn := fun _ => fun
  | [d1, d2] => { results := [.lit (.bool true)], args := [d1, d2] }
  | _ => none }
def taskPlaysRow : OpenClaim := { program := "ytifdpdghjfcaaaadoor", sum := "4df9f8faafdd25d6e1afa284866ddf680261ce819b0049dd83dda81ffe1bcab3", func := "aqueduct/aqueductlaw08.TaskPlays", spec := "taskPlays", inPlace := ["maps.clone"], unfollowed := true, recurses := true, named := ["aqueduct/task.moves"], apart := false, laid := [("aqueduct/task.moves", laid_aqueduct_task_moves)] }
def TaskPlaysSaid : Prop := taskPlaysRow.holds Tryd.pinned (OpenSpec.ofChange taskPlaysSpec)

/-- ITS FALSE NEIGHBOUR: 'it returns false'. Refute it at one input. -/
def taskPlaysWrong : ChangeSpec := { name := "taskPlays", fn := fun _ => fun
  | [d1, d2] => { results := [.lit (.bool false)], args := [d1, d2] }
  | _ => none }
def TaskPlaysWrongFalsely : Prop := taskPlaysRow.holds Tryd.pinned (OpenSpec.ofChange taskPlaysWrong)

/-- 'aqueductlaw08.TaskOwn': WHATEVER THE INPUT: true; the input reads as it did. -/
def taskOwnSpec : ChangeSpec := { name := "taskOwn", fn := fun _ => fun
  | [d1, d2] => { results := [.lit (.bool true)], args := [d1, d2] }
  | _ => none }
def taskOwnRow : OpenClaim := { program := "ytifdpdghjfcaaaadoor", sum := "4df9f8faafdd25d6e1afa284866ddf680261ce819b0049dd83dda81ffe1bcab3", func := "aqueduct/aqueductlaw08.TaskOwn", spec := "taskOwn", inPlace := ["maps.clone"], unfollowed := true, recurses := true, named := ["aqueduct/task.moves"], apart := false, laid := [("aqueduct/task.moves", laid_aqueduct_task_moves)] }
def TaskOwnSaid : Prop := taskOwnRow.holds Tryd.pinned (OpenSpec.ofChange taskOwnSpec)

/-- ITS FALSE NEIGHBOUR: 'it returns false'. Refute it at one input. -/
def taskOwnWrong : ChangeSpec := { name := "taskOwn", fn := fun _ => fun
  | [d1, d2] => { results := [.lit (.bool false)], args := [d1, d2] }
  | _ => none }
def TaskOwnWrongFalsely : Prop := taskOwnRow.holds Tryd.pinned (OpenSpec.ofChange taskOwnWrong)

/-- 'aqueductlaw08.TaskNil': WHATEVER THE INPUT: true; the input reads as it did. -/
def taskNilSpec : ChangeSpec := { name := "taskNil", fn := fun _ => fun
  | [d] => { results := [.lit (.bool true)], args := [d] }
  | _ => none }
def taskNilRow : OpenClaim := { program := "ytifdpdghjfcaaaadoor", sum := "4df9f8faafdd25d6e1afa284866ddf680261ce819b0049dd83dda81ffe1bcab3", func := "aqueduct/aqueductlaw08.TaskNil", spec := "taskNil", inPlace := ["maps.clone"], unfollowed := true, recurses := true, named := ["aqueduct/task.moves"], apart := false, laid := [("aqueduct/task.moves", laid_aqueduct_task_moves)] }
def TaskNilSaid : Prop := taskNilRow.holds Tryd.pinned (OpenSpec.ofChange taskNilSpec)

/-- ITS FALSE NEIGHBOUR: 'it returns false'. Refute it at one input. -/
def taskNilWrong : ChangeSpec := { name := "taskNil", fn := fun _ => fun
  | [d] => { results := [.lit (.bool false)], args := [d] }
  | _ => none }
def TaskNilWrongFalsely : Prop := taskNilRow.holds Tryd.pinned (OpenSpec.ofChange taskNilWrong)

/-- 'aqueductlaw08.TaskRounds': WHATEVER THE INPUT: true; the input reads as it did. -/
def taskRoundsSpec : ChangeSpec := { name := "taskRounds", fn := fun _ => fun
  | [d1, d2, d3] => { results := [.lit (.bool true)], args := [d1, d2, d3] }
  | _ => none }
def taskRoundsRow : OpenClaim := { program := "ytifdpdghjfcaaaadoor", sum := "4df9f8faafdd25d6e1afa284866ddf680261ce819b0049dd83dda81ffe1bcab3", func := "aqueduct/aqueductlaw08.TaskRounds", spec := "taskRounds", unfollowed := true, recurses := true, named := ["aqueduct/task.moves"], apart := false, laid := [("aqueduct/task.moves", laid_aqueduct_task_moves)] }
def TaskRoundsSaid : Prop := taskRoundsRow.holds Tryd.pinned (OpenSpec.ofChange taskRoundsSpec)

/-- ITS FALSE NEIGHBOUR: 'it returns false'. Refute it at one input. -/
def taskRoundsWrong : ChangeSpec := { name := "taskRounds", fn := fun _ => fun
  | [d1, d2, d3] => { results := [.lit (.bool false)], args := [d1, d2, d3] }
  | _ => none }
def TaskRoundsWrongFalsely : Prop := taskRoundsRow.holds Tryd.pinned (OpenSpec.ofChange taskRoundsWrong)

/-- 'aqueductlaw08.TaskHolds': WHATEVER THE INPUT: true; the input reads as it did. -/
def taskHoldsSpec : ChangeSpec := { name := "taskHolds", fn := fun _ => fun
  | [d1, d2] => { results := [.lit (.bool true)], args := [d1, d2] }
  | _ => none }
def taskHoldsRow : OpenClaim := { program := "ytifdpdghjfcaaaadoor", sum := "4df9f8faafdd25d6e1afa284866ddf680261ce819b0049dd83dda81ffe1bcab3", func := "aqueduct/aqueductlaw08.TaskHolds", spec := "taskHolds", unfollowed := true, recurses := true, named := ["aqueduct/task.moves"], apart := false, laid := [("aqueduct/task.moves", laid_aqueduct_task_moves)] }
def TaskHoldsSaid : Prop := taskHoldsRow.holds Tryd.pinned (OpenSpec.ofChange taskHoldsSpec)

/-- ITS FALSE NEIGHBOUR: 'it returns false'. Refute it at one input. -/
def taskHoldsWrong : ChangeSpec := { name := "taskHolds", fn := fun _ => fun
  | [d1, d2] => { results := [.lit (.bool false)], args := [d1, d2] }
  | _ => none }
def TaskHoldsWrongFalsely : Prop := taskHoldsRow.holds Tryd.pinned (OpenSpec.ofChange taskHoldsWrong)

/- THE SECOND FORM. 'bulk': how many values and letters a reading holds, each counted each time it is reached (what is shared counts as often as it is met; a slice's spare places count too). A statement '..UptoSaid' is the law's where the arguments, and the package variables that the reading takes, are together of bulk at most 1048576: NARROWER than '..Said'. Prove '..Said' where nothing that the law and all that it calls make is longer than what came in: it says more and counts as full. Else prove '..UptoSaid'. A law counts once. -/
mutual
def uptoBulk {H : Type} : DataW H → Nat
  | .lit (.string bytes) => bytes.length + 1
  | .lit _ => 1
  | .nil => 1
  | .ptr d => uptoBulk d + 1
  | .slice elems spare => uptoBulkAll elems + uptoBulkAll spare + 1
  | .agg parts => uptoBulkAll parts + 1
  | .iface _ d => uptoBulk d + 1
  | .map entries => uptoBulkEntries entries + 1
  | .held _ => 1
def uptoBulkAll {H : Type} : List (DataW H) → Nat
  | [] => 0
  | d :: r => uptoBulk d + uptoBulkAll r
def uptoBulkEntries {H : Type} : List (Lit × DataW H) → Nat
  | [] => 0
  | x :: r => uptoBulkEntry x + uptoBulkEntries r
def uptoBulkEntry {H : Type} : Lit × DataW H → Nat
  | (.string bytes, d) => bytes.length + uptoBulk d + 1
  | (_, d) => uptoBulk d + 1
 end
def uptoSmall : (H : Type) → List (DataW H) → Bool := fun _ ds => decide (uptoBulkAll ds ≤ 1048576)
def OpenSpec.upto (s : _root_.Go.ChangeSpec) : _root_.Go.OpenSpec := { _root_.Go.OpenSpec.ofChange s with cond := some uptoSmall }

/-- 'aqueductlaw08.TaskPlays', WHERE WHAT IT READS IS OF BULK AT MOST 1048576: true; the input reads as it did. -/
def taskPlaysUptoRow : OpenClaim := { program := "ytifdpdghjfcaaaadoor", sum := "4df9f8faafdd25d6e1afa284866ddf680261ce819b0049dd83dda81ffe1bcab3", func := "aqueduct/aqueductlaw08.TaskPlays", spec := "taskPlays", inPlace := ["maps.clone"], unfollowed := true, recurses := true, named := ["aqueduct/task.moves"], apart := false, laid := [("aqueduct/task.moves", laid_aqueduct_task_moves)], narrowed := true }
def TaskPlaysUptoSaid : Prop := taskPlaysUptoRow.holds Tryd.pinned (OpenSpec.upto taskPlaysSpec)

/-- 'aqueductlaw08.TaskOwn', WHERE WHAT IT READS IS OF BULK AT MOST 1048576: true; the input reads as it did. -/
def taskOwnUptoRow : OpenClaim := { program := "ytifdpdghjfcaaaadoor", sum := "4df9f8faafdd25d6e1afa284866ddf680261ce819b0049dd83dda81ffe1bcab3", func := "aqueduct/aqueductlaw08.TaskOwn", spec := "taskOwn", inPlace := ["maps.clone"], unfollowed := true, recurses := true, named := ["aqueduct/task.moves"], apart := false, laid := [("aqueduct/task.moves", laid_aqueduct_task_moves)], narrowed := true }
def TaskOwnUptoSaid : Prop := taskOwnUptoRow.holds Tryd.pinned (OpenSpec.upto taskOwnSpec)

/-- 'aqueductlaw08.TaskNil', WHERE WHAT IT READS IS OF BULK AT MOST 1048576: true; the input reads as it did. -/
def taskNilUptoRow : OpenClaim := { program := "ytifdpdghjfcaaaadoor", sum := "4df9f8faafdd25d6e1afa284866ddf680261ce819b0049dd83dda81ffe1bcab3", func := "aqueduct/aqueductlaw08.TaskNil", spec := "taskNil", inPlace := ["maps.clone"], unfollowed := true, recurses := true, named := ["aqueduct/task.moves"], apart := false, laid := [("aqueduct/task.moves", laid_aqueduct_task_moves)], narrowed := true }
def TaskNilUptoSaid : Prop := taskNilUptoRow.holds Tryd.pinned (OpenSpec.upto taskNilSpec)

/-- 'aqueductlaw08.TaskRounds', WHERE WHAT IT READS IS OF BULK AT MOST 1048576: true; the input reads as it did. -/
def taskRoundsUptoRow : OpenClaim := { program := "ytifdpdghjfcaaaadoor", sum := "4df9f8faafdd25d6e1afa284866ddf680261ce819b0049dd83dda81ffe1bcab3", func := "aqueduct/aqueductlaw08.TaskRounds", spec := "taskRounds", unfollowed := true, recurses := true, named := ["aqueduct/task.moves"], apart := false, laid := [("aqueduct/task.moves", laid_aqueduct_task_moves)], narrowed := true }
def TaskRoundsUptoSaid : Prop := taskRoundsUptoRow.holds Tryd.pinned (OpenSpec.upto taskRoundsSpec)

/-- 'aqueductlaw08.TaskHolds', WHERE WHAT IT READS IS OF BULK AT MOST 1048576: true; the input reads as it did. -/
def taskHoldsUptoRow : OpenClaim := { program := "ytifdpdghjfcaaaadoor", sum := "4df9f8faafdd25d6e1afa284866ddf680261ce819b0049dd83dda81ffe1bcab3", func := "aqueduct/aqueductlaw08.TaskHolds", spec := "taskHolds", unfollowed := true, recurses := true, named := ["aqueduct/task.moves"], apart := false, laid := [("aqueduct/task.moves", laid_aqueduct_task_moves)], narrowed := true }
def TaskHoldsUptoSaid : Prop := taskHoldsUptoRow.holds Tryd.pinned (OpenSpec.upto taskHoldsSpec)

end Rows
end Go.Proofs.YtifdpdghjfcaaaaDoor
