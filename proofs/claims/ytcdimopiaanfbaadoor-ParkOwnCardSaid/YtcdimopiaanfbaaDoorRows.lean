/-
  NARROWER THAN 'FOR EVERY INPUT', by the rows' own cells (each row's printed sentence says how): ParkPlays: laid · ParkOwn: laid · ParkNil: laid · ParkQueues: laid · ParkHolds: laid.
  DERIVED. THE GIVEN ROWS OF THIS SEAT. 5 by the template 'for every input the law returns true; each argument reads behind the call as it read before'; 0 by the template 'total and deterministic' (their statements: YtcdimopiaanfbaaDoorTotals.lean).
  GIVEN WITH THE SEED: the statements are not yours to turn. If you find one false, say at which input.
  Laid BY PROGRAM, IN A SANDBOX (cutbox-rows.mjs): the forced cells as the released guide's own fill.sh prints them over the translation 4c199a146c2f242a… (all of the seat's roots in one cut). By AI agents, Wed Nov 11 2026. No macro, syntax, notation, axiom, sorry.
-/
import Derived.Test.YtcdimopiaanfbaaDoorChecked
import GoSem.Claim
import GoSem.ClaimJoined
import GoSem.ClaimMapViews
import Derived.JoinedTies
import Derived.KernelRfl
namespace Go.Proofs.YtcdimopiaanfbaaDoor
/- THE CELL 'sum', in the pinned program and in every row, IS THE sha256 OF THE DUMP (.gsa) THAT YtcdimopiaanfbaaDoorProg.lean LOADS. Nothing in Lean hashes anything: it is a label: what it is worth is what the hold of that sum in a sandbox is worth. -/
noncomputable def Tryd.pinned : Pinned := { name := "ytcdimopiaanfbaadoor", sum := "4c199a146c2f242a113d538a58776c3269fff70791c81f62c1c72c79ed2675d2", checked := Tryd.checked }
namespace Rows
def none {H : Type} : Left H := { results := [], args := [] }

/- WHAT THE LISTED PACKAGE-LEVEL VARIABLES READ AS WHEN THE CALL BEGINS. Each datum BY PROGRAM (the guide's laid-datum.mjs) off the statement by which the dump's own 'gosem.cut.vars' lays the variable. In a bare row this is a premise. The card (YtcdimopiaanfbaaDoorCards.lean) ties it to the program's text. -/
def laid_aqueduct_task_moves {H : Type} : DataW H := .agg [.agg [.lit (.int .i64 0), .lit (.int .i64 1)], .agg [.lit (.int .i64 1), .lit (.int .i64 2)], .agg [.lit (.int .i64 2), .lit (.int .i64 1)], .agg [.lit (.int .i64 1), .lit (.int .i64 0)], .agg [.lit (.int .i64 1), .lit (.int .i64 1)]]

/-- 'aqueductlaw09.ParkPlays': WHATEVER THE INPUT: true; the input reads as it did. -/
def parkPlaysSpec : ChangeSpec := { name := "parkPlays", fn := fun _ => fun
  | [d1, d2] => { results := [.lit (.bool true)], args := [d1, d2] }
  | _ => none }
def parkPlaysRow : OpenClaim := { program := "ytcdimopiaanfbaadoor", sum := "4c199a146c2f242a113d538a58776c3269fff70791c81f62c1c72c79ed2675d2", func := "aqueduct/aqueductlaw09.ParkPlays", spec := "parkPlays", inPlace := ["maps.clone"], unfollowed := true, recurses := true, named := ["aqueduct/task.moves"], plainKeys := false, apart := false, laid := [("aqueduct/task.moves", laid_aqueduct_task_moves)] }
def ParkPlaysSaid : Prop := parkPlaysRow.holds Tryd.pinned (OpenSpec.ofChange parkPlaysSpec)

/-- ITS FALSE NEIGHBOUR: 'it returns false'. Refute it at one input. -/
def parkPlaysWrong : ChangeSpec := { name := "parkPlays", fn := fun _ => fun
  | [d1, d2] => { results := [.lit (.bool false)], args := [d1, d2] }
  | _ => none }
def ParkPlaysWrongFalsely : Prop := parkPlaysRow.holds Tryd.pinned (OpenSpec.ofChange parkPlaysWrong)

/-- 'aqueductlaw09.ParkOwn': WHATEVER THE INPUT: true; the input reads as it did. -/
def parkOwnSpec : ChangeSpec := { name := "parkOwn", fn := fun _ => fun
  | [d1, d2] => { results := [.lit (.bool true)], args := [d1, d2] }
  | _ => none }
def parkOwnRow : OpenClaim := { program := "ytcdimopiaanfbaadoor", sum := "4c199a146c2f242a113d538a58776c3269fff70791c81f62c1c72c79ed2675d2", func := "aqueduct/aqueductlaw09.ParkOwn", spec := "parkOwn", inPlace := ["maps.clone"], unfollowed := true, recurses := true, named := ["aqueduct/task.moves"], plainKeys := false, apart := false, laid := [("aqueduct/task.moves", laid_aqueduct_task_moves)] }
def ParkOwnSaid : Prop := parkOwnRow.holds Tryd.pinned (OpenSpec.ofChange parkOwnSpec)

/-- ITS FALSE NEIGHBOUR: 'it returns false'. Refute it at one input. -/
def parkOwnWrong : ChangeSpec := { name := "parkOwn", fn := fun _ => fun
  | [d1, d2] => { results := [.lit (.bool false)], args := [d1, d2] }
  | _ => none }
def ParkOwnWrongFalsely : Prop := parkOwnRow.holds Tryd.pinned (OpenSpec.ofChange parkOwnWrong)

/-- 'aqueductlaw09.ParkNil': WHATEVER THE INPUT: true; the input reads as it did. -/
def parkNilSpec : ChangeSpec := { name := "parkNil", fn := fun _ => fun
  | [d1, d2] => { results := [.lit (.bool true)], args := [d1, d2] }
  | _ => none }
def parkNilRow : OpenClaim := { program := "ytcdimopiaanfbaadoor", sum := "4c199a146c2f242a113d538a58776c3269fff70791c81f62c1c72c79ed2675d2", func := "aqueduct/aqueductlaw09.ParkNil", spec := "parkNil", inPlace := ["maps.clone"], unfollowed := true, recurses := true, named := ["aqueduct/task.moves"], plainKeys := false, apart := false, laid := [("aqueduct/task.moves", laid_aqueduct_task_moves)] }
def ParkNilSaid : Prop := parkNilRow.holds Tryd.pinned (OpenSpec.ofChange parkNilSpec)

/-- ITS FALSE NEIGHBOUR: 'it returns false'. Refute it at one input. -/
def parkNilWrong : ChangeSpec := { name := "parkNil", fn := fun _ => fun
  | [d1, d2] => { results := [.lit (.bool false)], args := [d1, d2] }
  | _ => none }
def ParkNilWrongFalsely : Prop := parkNilRow.holds Tryd.pinned (OpenSpec.ofChange parkNilWrong)

/-- 'aqueductlaw09.ParkQueues': WHATEVER THE INPUT: true; the input reads as it did. -/
def parkQueuesSpec : ChangeSpec := { name := "parkQueues", fn := fun _ => fun
  | [d1, d2, d3, d4] => { results := [.lit (.bool true)], args := [d1, d2, d3, d4] }
  | _ => none }
def parkQueuesRow : OpenClaim := { program := "ytcdimopiaanfbaadoor", sum := "4c199a146c2f242a113d538a58776c3269fff70791c81f62c1c72c79ed2675d2", func := "aqueduct/aqueductlaw09.ParkQueues", spec := "parkQueues", unfollowed := true, recurses := true, named := ["aqueduct/task.moves"], plainKeys := false, apart := false, laid := [("aqueduct/task.moves", laid_aqueduct_task_moves)] }
def ParkQueuesSaid : Prop := parkQueuesRow.holds Tryd.pinned (OpenSpec.ofChange parkQueuesSpec)

/-- ITS FALSE NEIGHBOUR: 'it returns false'. Refute it at one input. -/
def parkQueuesWrong : ChangeSpec := { name := "parkQueues", fn := fun _ => fun
  | [d1, d2, d3, d4] => { results := [.lit (.bool false)], args := [d1, d2, d3, d4] }
  | _ => none }
def ParkQueuesWrongFalsely : Prop := parkQueuesRow.holds Tryd.pinned (OpenSpec.ofChange parkQueuesWrong)

/-- 'aqueductlaw09.ParkHolds': WHATEVER THE INPUT: true; the input reads as it did. -/
def parkHoldsSpec : ChangeSpec := { name := "parkHolds", fn := fun _ => fun
  | [d1, d2, d3, d4] => { results := [.lit (.bool true)], args := [d1, d2, d3, d4] }
  | _ => none }
def parkHoldsRow : OpenClaim := { program := "ytcdimopiaanfbaadoor", sum := "4c199a146c2f242a113d538a58776c3269fff70791c81f62c1c72c79ed2675d2", func := "aqueduct/aqueductlaw09.ParkHolds", spec := "parkHolds", unfollowed := true, recurses := true, named := ["aqueduct/task.moves"], plainKeys := false, apart := false, laid := [("aqueduct/task.moves", laid_aqueduct_task_moves)] }
def ParkHoldsSaid : Prop := parkHoldsRow.holds Tryd.pinned (OpenSpec.ofChange parkHoldsSpec)

/-- ITS FALSE NEIGHBOUR: 'it returns false'. Refute it at one input. -/
def parkHoldsWrong : ChangeSpec := { name := "parkHolds", fn := fun _ => fun
  | [d1, d2, d3, d4] => { results := [.lit (.bool false)], args := [d1, d2, d3, d4] }
  | _ => none }
def ParkHoldsWrongFalsely : Prop := parkHoldsRow.holds Tryd.pinned (OpenSpec.ofChange parkHoldsWrong)

/- THE SECOND FORM. 'bulk': how many values and letters a reading holds, each counted each time it is reached (what is shared counts as often as it is met; a slice's spare places count too). A statement '..UptoSaid' is the law's where the arguments, and the package variables that the reading takes, are together of bulk at most 1048576: NARROWER than '..Said'. Prove '..Said' where nothing that the law and all that it calls make is longer than what came in: it says more and counts as full. Else prove '..UptoSaid'. A law counts once. -/
mutual
def uptoBulk {H : Type} : DataW H → Nat
  | .lit (.string bytes) => bytes.length + 1
  | .lit _ => 1
  | .nil => 1
  | .ptr d => uptoBulk d + 1
  | .slice elems spare => uptoBulkAll elems + uptoBulkAll spare + 1
  | .agg parts => uptoBulkAll parts + 1
  | .iface _ d => uptoBulk d + 1
  | .map entries => uptoBulkEntries entries + 1
  | .held _ => 1
def uptoBulkAll {H : Type} : List (DataW H) → Nat
  | [] => 0
  | d :: r => uptoBulk d + uptoBulkAll r
def uptoBulkEntries {H : Type} : List (Lit × DataW H) → Nat
  | [] => 0
  | x :: r => uptoBulkEntry x + uptoBulkEntries r
def uptoBulkEntry {H : Type} : Lit × DataW H → Nat
  | (.string bytes, d) => bytes.length + uptoBulk d + 1
  | (_, d) => uptoBulk d + 1
 end
def uptoSmall : (H : Type) → List (DataW H) → Bool := fun _ ds => decide (uptoBulkAll ds ≤ 1048576)
def OpenSpec.upto (s : _root_.Go.ChangeSpec) : _root_.Go.OpenSpec := { _root_.Go.OpenSpec.ofChange s with cond := some uptoSmall }

/-- 'aqueductlaw09.ParkPlays', WHERE WHAT IT READS IS OF BULK AT MOST 1048576: true; the input reads as it did. -/
def parkPlaysUptoRow : OpenClaim := { program := "ytcdimopiaanfbaadoor", sum := "4c199a146c2f242a113d538a58776c3269fff70791c81f62c1c72c79ed2675d2", func := "aqueduct/aqueductlaw09.ParkPlays", spec := "parkPlays", inPlace := ["maps.clone"], unfollowed := true, recurses := true, named := ["aqueduct/task.moves"], plainKeys := false, apart := false, laid := [("aqueduct/task.moves", laid_aqueduct_task_moves)], narrowed := true }
def ParkPlaysUptoSaid : Prop := parkPlaysUptoRow.holds Tryd.pinned (OpenSpec.upto parkPlaysSpec)

/-- 'aqueductlaw09.ParkOwn', WHERE WHAT IT READS IS OF BULK AT MOST 1048576: true; the input reads as it did. -/
def parkOwnUptoRow : OpenClaim := { program := "ytcdimopiaanfbaadoor", sum := "4c199a146c2f242a113d538a58776c3269fff70791c81f62c1c72c79ed2675d2", func := "aqueduct/aqueductlaw09.ParkOwn", spec := "parkOwn", inPlace := ["maps.clone"], unfollowed := true, recurses := true, named := ["aqueduct/task.moves"], plainKeys := false, apart := false, laid := [("aqueduct/task.moves", laid_aqueduct_task_moves)], narrowed := true }
def ParkOwnUptoSaid : Prop := parkOwnUptoRow.holds Tryd.pinned (OpenSpec.upto parkOwnSpec)

/-- 'aqueductlaw09.ParkNil', WHERE WHAT IT READS IS OF BULK AT MOST 1048576: true; the input reads as it did. -/
def parkNilUptoRow : OpenClaim := { program := "ytcdimopiaanfbaadoor", sum := "4c199a146c2f242a113d538a58776c3269fff70791c81f62c1c72c79ed2675d2", func := "aqueduct/aqueductlaw09.ParkNil", spec := "parkNil", inPlace := ["maps.clone"], unfollowed := true, recurses := true, named := ["aqueduct/task.moves"], plainKeys := false, apart := false, laid := [("aqueduct/task.moves", laid_aqueduct_task_moves)], narrowed := true }
def ParkNilUptoSaid : Prop := parkNilUptoRow.holds Tryd.pinned (OpenSpec.upto parkNilSpec)

/-- 'aqueductlaw09.ParkQueues', WHERE WHAT IT READS IS OF BULK AT MOST 1048576: true; the input reads as it did. -/
def parkQueuesUptoRow : OpenClaim := { program := "ytcdimopiaanfbaadoor", sum := "4c199a146c2f242a113d538a58776c3269fff70791c81f62c1c72c79ed2675d2", func := "aqueduct/aqueductlaw09.ParkQueues", spec := "parkQueues", unfollowed := true, recurses := true, named := ["aqueduct/task.moves"], plainKeys := false, apart := false, laid := [("aqueduct/task.moves", laid_aqueduct_task_moves)], narrowed := true }
def ParkQueuesUptoSaid : Prop := parkQueuesUptoRow.holds Tryd.pinned (OpenSpec.upto parkQueuesSpec)

/-- 'aqueductlaw09.ParkHolds', WHERE WHAT IT READS IS OF BULK AT MOST 1048576: true; the input reads as it did. -/
def parkHoldsUptoRow : OpenClaim := { program := "ytcdimopiaanfbaadoor", sum := "4c199a146c2f242a113d538a58776c3269fff70791c81f62c1c72c79ed2675d2", func := "aqueduct/aqueductlaw09.ParkHolds", spec := "parkHolds", unfollowed := true, recurses := true, named := ["aqueduct/task.moves"], plainKeys := false, apart := false, laid := [("aqueduct/task.moves", laid_aqueduct_task_moves)], narrowed := true }
def ParkHoldsUptoSaid : Prop := parkHoldsUptoRow.holds Tryd.pinned (OpenSpec.upto parkHoldsSpec)

end Rows
end Go.Proofs.YtcdimopiaanfbaaDoor
