/-
  No cell of these rows narrows 'for every input' (looked for: loops, veiled, ifaces, maps, wideKeys, modest, calm, conditions, laid).
  DERIVED. THE GIVEN ROWS OF THIS SEAT. 5 by the template 'for every input the law returns true; each argument reads behind the call as it read before'; 0 by the template 'total and deterministic' (their statements: YtkdbkamjaaehfaaTotals.lean).
  GIVEN WITH THE SEED: the statements are not yours to turn. If you find one false, say at which input.
  Laid BY PROGRAM, IN A SANDBOX (cutbox-rows.mjs): the forced cells as the released guide's own fill.sh prints them over the translation e3c0f5d4455ecab0… (all of the seat's roots in one cut). By AI agents, Wed Nov 11 2026. No macro, syntax, notation, axiom, sorry.
-/
import Derived.Test.YtkdbkamjaaehfaaChecked
import GoSem.Claim
import GoSem.ClaimJoined
import GoSem.ClaimMapViews
import Derived.JoinedTies
import Derived.KernelRfl
namespace Go.Proofs.Ytkdbkamjaaehfaa
/- THE CELL 'sum', in the pinned program and in every row, IS THE sha256 OF THE DUMP (.gsa) THAT YtkdbkamjaaehfaaProg.lean LOADS. Nothing in Lean hashes anything: it is a label: what it is worth is what the hold of that sum in a sandbox is worth. -/
noncomputable def Try.pinned : Pinned := { name := "ytkdbkamjaaehfaa", sum := "e3c0f5d4455ecab024f3da4ce762c79bff1abb78cb31611359103ffc770fcd20", checked := Try.checked }
namespace Rows
def none {H : Type} : Left H := { results := [], args := [] }

/-- 'aqueductlaw05.RopeMakes': WHATEVER THE INPUT: true; the input reads as it did. -/
def ropeMakesSpec : ChangeSpec := { name := "ropeMakes", fn := fun _ => fun
  | [d] => { results := [.lit (.bool true)], args := [d] }
  | _ => none }
def ropeMakesRow : OpenClaim := { program := "ytkdbkamjaaehfaa", sum := "e3c0f5d4455ecab024f3da4ce762c79bff1abb78cb31611359103ffc770fcd20", func := "aqueduct/aqueductlaw05.RopeMakes", spec := "ropeMakes", unfollowed := true, recurses := true, apart := false }
def RopeMakesSaid : Prop := ropeMakesRow.holds Try.pinned (OpenSpec.ofChange ropeMakesSpec)

/-- ITS FALSE NEIGHBOUR: 'it returns false'. Refute it at one input. -/
def ropeMakesWrong : ChangeSpec := { name := "ropeMakes", fn := fun _ => fun
  | [d] => { results := [.lit (.bool false)], args := [d] }
  | _ => none }
def RopeMakesWrongFalsely : Prop := ropeMakesRow.holds Try.pinned (OpenSpec.ofChange ropeMakesWrong)

/-- 'aqueductlaw05.RopeParts': WHATEVER THE INPUT: true; the input reads as it did. -/
def ropePartsSpec : ChangeSpec := { name := "ropeParts", fn := fun _ => fun
  | [d1, d2] => { results := [.lit (.bool true)], args := [d1, d2] }
  | _ => none }
def ropePartsRow : OpenClaim := { program := "ytkdbkamjaaehfaa", sum := "e3c0f5d4455ecab024f3da4ce762c79bff1abb78cb31611359103ffc770fcd20", func := "aqueduct/aqueductlaw05.RopeParts", spec := "ropeParts", unfollowed := true, recurses := true, apart := false }
def RopePartsSaid : Prop := ropePartsRow.holds Try.pinned (OpenSpec.ofChange ropePartsSpec)

/-- ITS FALSE NEIGHBOUR: 'it returns false'. Refute it at one input. -/
def ropePartsWrong : ChangeSpec := { name := "ropeParts", fn := fun _ => fun
  | [d1, d2] => { results := [.lit (.bool false)], args := [d1, d2] }
  | _ => none }
def RopePartsWrongFalsely : Prop := ropePartsRow.holds Try.pinned (OpenSpec.ofChange ropePartsWrong)

/-- 'aqueductlaw05.RopeTakes': WHATEVER THE INPUT: true; the input reads as it did. -/
def ropeTakesSpec : ChangeSpec := { name := "ropeTakes", fn := fun _ => fun
  | [d1, d2] => { results := [.lit (.bool true)], args := [d1, d2] }
  | _ => none }
def ropeTakesRow : OpenClaim := { program := "ytkdbkamjaaehfaa", sum := "e3c0f5d4455ecab024f3da4ce762c79bff1abb78cb31611359103ffc770fcd20", func := "aqueduct/aqueductlaw05.RopeTakes", spec := "ropeTakes", unfollowed := true, recurses := true, apart := false }
def RopeTakesSaid : Prop := ropeTakesRow.holds Try.pinned (OpenSpec.ofChange ropeTakesSpec)

/-- ITS FALSE NEIGHBOUR: 'it returns false'. Refute it at one input. -/
def ropeTakesWrong : ChangeSpec := { name := "ropeTakes", fn := fun _ => fun
  | [d1, d2] => { results := [.lit (.bool false)], args := [d1, d2] }
  | _ => none }
def RopeTakesWrongFalsely : Prop := ropeTakesRow.holds Try.pinned (OpenSpec.ofChange ropeTakesWrong)

/-- 'aqueductlaw05.RopeJoins': WHATEVER THE INPUT: true; the input reads as it did. -/
def ropeJoinsSpec : ChangeSpec := { name := "ropeJoins", fn := fun _ => fun
  | [d1, d2] => { results := [.lit (.bool true)], args := [d1, d2] }
  | _ => none }
def ropeJoinsRow : OpenClaim := { program := "ytkdbkamjaaehfaa", sum := "e3c0f5d4455ecab024f3da4ce762c79bff1abb78cb31611359103ffc770fcd20", func := "aqueduct/aqueductlaw05.RopeJoins", spec := "ropeJoins", unfollowed := true, recurses := true, apart := false }
def RopeJoinsSaid : Prop := ropeJoinsRow.holds Try.pinned (OpenSpec.ofChange ropeJoinsSpec)

/-- ITS FALSE NEIGHBOUR: 'it returns false'. Refute it at one input. -/
def ropeJoinsWrong : ChangeSpec := { name := "ropeJoins", fn := fun _ => fun
  | [d1, d2] => { results := [.lit (.bool false)], args := [d1, d2] }
  | _ => none }
def RopeJoinsWrongFalsely : Prop := ropeJoinsRow.holds Try.pinned (OpenSpec.ofChange ropeJoinsWrong)

/-- 'aqueductlaw05.RopeHolds': WHATEVER THE INPUT: true; the input reads as it did. -/
def ropeHoldsSpec : ChangeSpec := { name := "ropeHolds", fn := fun _ => fun
  | [d1, d2, d3] => { results := [.lit (.bool true)], args := [d1, d2, d3] }
  | _ => none }
def ropeHoldsRow : OpenClaim := { program := "ytkdbkamjaaehfaa", sum := "e3c0f5d4455ecab024f3da4ce762c79bff1abb78cb31611359103ffc770fcd20", func := "aqueduct/aqueductlaw05.RopeHolds", spec := "ropeHolds", unfollowed := true, recurses := true, apart := false }
def RopeHoldsSaid : Prop := ropeHoldsRow.holds Try.pinned (OpenSpec.ofChange ropeHoldsSpec)

/-- ITS FALSE NEIGHBOUR: 'it returns false'. Refute it at one input. -/
def ropeHoldsWrong : ChangeSpec := { name := "ropeHolds", fn := fun _ => fun
  | [d1, d2, d3] => { results := [.lit (.bool false)], args := [d1, d2, d3] }
  | _ => none }
def RopeHoldsWrongFalsely : Prop := ropeHoldsRow.holds Try.pinned (OpenSpec.ofChange ropeHoldsWrong)

/- THE SECOND FORM. 'bulk': how many values and letters a reading holds, each counted each time it is reached (what is shared counts as often as it is met; a slice's spare places count too). A statement '..UptoSaid' is the law's where the arguments, and the package variables that the reading takes, are together of bulk at most 1048576: NARROWER than '..Said'. Prove '..Said' where nothing that the law and all that it calls make is longer than what came in: it says more and counts as full. Else prove '..UptoSaid'. A law counts once. -/
mutual
def uptoBulk {H : Type} : DataW H → Nat
  | .lit (.string bytes) => bytes.length + 1
  | .lit _ => 1
  | .nil => 1
  | .ptr d => uptoBulk d + 1
  | .slice elems spare => uptoBulkAll elems + uptoBulkAll spare + 1
  | .agg parts => uptoBulkAll parts + 1
  | .iface _ d => uptoBulk d + 1
  | .map entries => uptoBulkEntries entries + 1
  | .held _ => 1
def uptoBulkAll {H : Type} : List (DataW H) → Nat
  | [] => 0
  | d :: r => uptoBulk d + uptoBulkAll r
def uptoBulkEntries {H : Type} : List (Lit × DataW H) → Nat
  | [] => 0
  | x :: r => uptoBulkEntry x + uptoBulkEntries r
def uptoBulkEntry {H : Type} : Lit × DataW H → Nat
  | (.string bytes, d) => bytes.length + uptoBulk d + 1
  | (_, d) => uptoBulk d + 1
 end
def uptoSmall : (H : Type) → List (DataW H) → Bool := fun _ ds => decide (uptoBulkAll ds ≤ 1048576)
def OpenSpec.upto (s : _root_.Go.ChangeSpec) : _root_.Go.OpenSpec := { _root_.Go.OpenSpec.ofChange s with cond := some uptoSmall }

/-- 'aqueductlaw05.RopeMakes', WHERE WHAT IT READS IS OF BULK AT MOST 1048576: true; the input reads as it did. -/
def ropeMakesUptoRow : OpenClaim := { program := "ytkdbkamjaaehfaa", sum := "e3c0f5d4455ecab024f3da4ce762c79bff1abb78cb31611359103ffc770fcd20", func := "aqueduct/aqueductlaw05.RopeMakes", spec := "ropeMakes", unfollowed := true, recurses := true, apart := false, narrowed := true }
def RopeMakesUptoSaid : Prop := ropeMakesUptoRow.holds Try.pinned (OpenSpec.upto ropeMakesSpec)

/-- 'aqueductlaw05.RopeParts', WHERE WHAT IT READS IS OF BULK AT MOST 1048576: true; the input reads as it did. -/
def ropePartsUptoRow : OpenClaim := { program := "ytkdbkamjaaehfaa", sum := "e3c0f5d4455ecab024f3da4ce762c79bff1abb78cb31611359103ffc770fcd20", func := "aqueduct/aqueductlaw05.RopeParts", spec := "ropeParts", unfollowed := true, recurses := true, apart := false, narrowed := true }
def RopePartsUptoSaid : Prop := ropePartsUptoRow.holds Try.pinned (OpenSpec.upto ropePartsSpec)

/-- 'aqueductlaw05.RopeTakes', WHERE WHAT IT READS IS OF BULK AT MOST 1048576: true; the input reads as it did. -/
def ropeTakesUptoRow : OpenClaim := { program := "ytkdbkamjaaehfaa", sum := "e3c0f5d4455ecab024f3da4ce762c79bff1abb78cb31611359103ffc770fcd20", func := "aqueduct/aqueductlaw05.RopeTakes", spec := "ropeTakes", unfollowed := true, recurses := true, apart := false, narrowed := true }
def RopeTakesUptoSaid : Prop := ropeTakesUptoRow.holds Try.pinned (OpenSpec.upto ropeTakesSpec)

/-- 'aqueductlaw05.RopeJoins', WHERE WHAT IT READS IS OF BULK AT MOST 1048576: true; the input reads as it did. -/
def ropeJoinsUptoRow : OpenClaim := { program := "ytkdbkamjaaehfaa", sum := "e3c0f5d4455ecab024f3da4ce762c79bff1abb78cb31611359103ffc770fcd20", func := "aqueduct/aqueductlaw05.RopeJoins", spec := "ropeJoins", unfollowed := true, recurses := true, apart := false, narrowed := true }
def RopeJoinsUptoSaid : Prop := ropeJoinsUptoRow.holds Try.pinned (OpenSpec.upto ropeJoinsSpec)

/-- 'aqueductlaw05.RopeHolds', WHERE WHAT IT READS IS OF BULK AT MOST 1048576: true; the input reads as it did. -/
def ropeHoldsUptoRow : OpenClaim := { program := "ytkdbkamjaaehfaa", sum := "e3c0f5d4455ecab024f3da4ce762c79bff1abb78cb31611359103ffc770fcd20", func := "aqueduct/aqueductlaw05.RopeHolds", spec := "ropeHolds", unfollowed := true, recurses := true, apart := false, narrowed := true }
def RopeHoldsUptoSaid : Prop := ropeHoldsUptoRow.holds Try.pinned (OpenSpec.upto ropeHoldsSpec)

end Rows
end Go.Proofs.Ytkdbkamjaaehfaa
