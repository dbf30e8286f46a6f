/-
  No cell of these rows narrows 'for every input' (looked for: loops, veiled, ifaces, maps, wideKeys, modest, calm, conditions, laid).
  DERIVED. THE GIVEN ROWS OF THIS SEAT. 5 by the template 'for every input the law returns true; each argument reads behind the call as it read before'; 0 by the template 'total and deterministic' (their statements: YtopkikdbhapfmaaTotals.lean).
  GIVEN WITH THE SEED: the statements are not yours to turn. If you find one false, say at which input.
  Laid BY PROGRAM, IN A SANDBOX (cutbox-rows.mjs): the forced cells as the released guide's own fill.sh prints them over the translation c4ee96ca6d76dad8… (all of the seat's roots in one cut). By AI agents, Wed Nov 11 2026. No macro, syntax, notation, axiom, sorry.
-/
import Derived.Test.YtopkikdbhapfmaaChecked
import GoSem.Claim
import GoSem.ClaimJoined
import GoSem.ClaimMapViews
import Derived.JoinedTies
import Derived.KernelRfl
namespace Go.Proofs.Ytopkikdbhapfmaa
/- THE CELL 'sum', in the pinned program and in every row, IS THE sha256 OF THE DUMP (.gsa) THAT YtopkikdbhapfmaaProg.lean LOADS. Nothing in Lean hashes anything: it is a label: what it is worth is what the hold of that sum in a sandbox is worth. -/
noncomputable def Try.pinned : Pinned := { name := "ytopkikdbhapfmaa", sum := "c4ee96ca6d76dad89631f6671d3ea5d621b50004107d38c52e325deb28e322ed", checked := Try.checked }
namespace Rows
def none {H : Type} : Left H := { results := [], args := [] }

/-- 'aqueductlaw06.FifoPlays': WHATEVER THE INPUT: true; the input reads as it did. -/
def fifoPlaysSpec : ChangeSpec := { name := "fifoPlays", fn := fun _ => fun
  | [d] => { results := [.lit (.bool true)], args := [d] }
  | _ => none }
def fifoPlaysRow : OpenClaim := { program := "ytopkikdbhapfmaa", sum := "c4ee96ca6d76dad89631f6671d3ea5d621b50004107d38c52e325deb28e322ed", func := "aqueduct/aqueductlaw06.FifoPlays", spec := "fifoPlays", inPlace := ["maps.clone"], unfollowed := true, recurses := true, apart := false }
def FifoPlaysSaid : Prop := fifoPlaysRow.holds Try.pinned (OpenSpec.ofChange fifoPlaysSpec)

/-- ITS FALSE NEIGHBOUR: 'it returns false'. Refute it at one input. -/
def fifoPlaysWrong : ChangeSpec := { name := "fifoPlays", fn := fun _ => fun
  | [d] => { results := [.lit (.bool false)], args := [d] }
  | _ => none }
def FifoPlaysWrongFalsely : Prop := fifoPlaysRow.holds Try.pinned (OpenSpec.ofChange fifoPlaysWrong)

/-- 'aqueductlaw06.FifoIterates': WHATEVER THE INPUT: true; the input reads as it did. -/
def fifoIteratesSpec : ChangeSpec := { name := "fifoIterates", fn := fun _ => fun
  | [d1, d2] => { results := [.lit (.bool true)], args := [d1, d2] }
  | _ => none }
def fifoIteratesRow : OpenClaim := { program := "ytopkikdbhapfmaa", sum := "c4ee96ca6d76dad89631f6671d3ea5d621b50004107d38c52e325deb28e322ed", func := "aqueduct/aqueductlaw06.FifoIterates", spec := "fifoIterates", inPlace := ["maps.clone"], unfollowed := true, recurses := true, apart := false }
def FifoIteratesSaid : Prop := fifoIteratesRow.holds Try.pinned (OpenSpec.ofChange fifoIteratesSpec)

/-- ITS FALSE NEIGHBOUR: 'it returns false'. Refute it at one input. -/
def fifoIteratesWrong : ChangeSpec := { name := "fifoIterates", fn := fun _ => fun
  | [d1, d2] => { results := [.lit (.bool false)], args := [d1, d2] }
  | _ => none }
def FifoIteratesWrongFalsely : Prop := fifoIteratesRow.holds Try.pinned (OpenSpec.ofChange fifoIteratesWrong)

/-- 'aqueductlaw06.FifoFulls': WHATEVER THE INPUT: true; the input reads as it did. -/
def fifoFullsSpec : ChangeSpec := { name := "fifoFulls", fn := fun _ => fun
  | [d1, d2] => { results := [.lit (.bool true)], args := [d1, d2] }
  | _ => none }
def fifoFullsRow : OpenClaim := { program := "ytopkikdbhapfmaa", sum := "c4ee96ca6d76dad89631f6671d3ea5d621b50004107d38c52e325deb28e322ed", func := "aqueduct/aqueductlaw06.FifoFulls", spec := "fifoFulls", unfollowed := true, recurses := true, apart := false }
def FifoFullsSaid : Prop := fifoFullsRow.holds Try.pinned (OpenSpec.ofChange fifoFullsSpec)

/-- ITS FALSE NEIGHBOUR: 'it returns false'. Refute it at one input. -/
def fifoFullsWrong : ChangeSpec := { name := "fifoFulls", fn := fun _ => fun
  | [d1, d2] => { results := [.lit (.bool false)], args := [d1, d2] }
  | _ => none }
def FifoFullsWrongFalsely : Prop := fifoFullsRow.holds Try.pinned (OpenSpec.ofChange fifoFullsWrong)

/-- 'aqueductlaw06.FifoNil': WHATEVER THE INPUT: true; the input reads as it did. -/
def fifoNilSpec : ChangeSpec := { name := "fifoNil", fn := fun _ => fun
  | [d1, d2] => { results := [.lit (.bool true)], args := [d1, d2] }
  | _ => none }
def fifoNilRow : OpenClaim := { program := "ytopkikdbhapfmaa", sum := "c4ee96ca6d76dad89631f6671d3ea5d621b50004107d38c52e325deb28e322ed", func := "aqueduct/aqueductlaw06.FifoNil", spec := "fifoNil", inPlace := ["maps.clone"], unfollowed := true, recurses := true, apart := false }
def FifoNilSaid : Prop := fifoNilRow.holds Try.pinned (OpenSpec.ofChange fifoNilSpec)

/-- ITS FALSE NEIGHBOUR: 'it returns false'. Refute it at one input. -/
def fifoNilWrong : ChangeSpec := { name := "fifoNil", fn := fun _ => fun
  | [d1, d2] => { results := [.lit (.bool false)], args := [d1, d2] }
  | _ => none }
def FifoNilWrongFalsely : Prop := fifoNilRow.holds Try.pinned (OpenSpec.ofChange fifoNilWrong)

/-- 'aqueductlaw06.FifoHolds': WHATEVER THE INPUT: true; the input reads as it did. -/
def fifoHoldsSpec : ChangeSpec := { name := "fifoHolds", fn := fun _ => fun
  | [d] => { results := [.lit (.bool true)], args := [d] }
  | _ => none }
def fifoHoldsRow : OpenClaim := { program := "ytopkikdbhapfmaa", sum := "c4ee96ca6d76dad89631f6671d3ea5d621b50004107d38c52e325deb28e322ed", func := "aqueduct/aqueductlaw06.FifoHolds", spec := "fifoHolds", unfollowed := true, recurses := true, apart := false }
def FifoHoldsSaid : Prop := fifoHoldsRow.holds Try.pinned (OpenSpec.ofChange fifoHoldsSpec)

/-- ITS FALSE NEIGHBOUR: 'it returns false'. Refute it at one input. -/
def fifoHoldsWrong : ChangeSpec := { name := "fifoHolds", fn := fun _ => fun
  | [d] => { results := [.lit (.bool false)], args := [d] }
  | _ => none }
def FifoHoldsWrongFalsely : Prop := fifoHoldsRow.holds Try.pinned (OpenSpec.ofChange fifoHoldsWrong)

/- THE SECOND FORM. 'bulk': how many values and letters a reading holds, each counted each time it is reached (what is shared counts as often as it is met; a slice's spare places count too). A statement '..UptoSaid' is the law's where the arguments, and the package variables that the reading takes, are together of bulk at most 1048576: NARROWER than '..Said'. Prove '..Said' where nothing that the law and all that it calls make is longer than what came in: it says more and counts as full. Else prove '..UptoSaid'. A law counts once. -/
mutual
def uptoBulk {H : Type} : DataW H → Nat
  | .lit (.string bytes) => bytes.length + 1
  | .lit _ => 1
  | .nil => 1
  | .ptr d => uptoBulk d + 1
  | .slice elems spare => uptoBulkAll elems + uptoBulkAll spare + 1
  | .agg parts => uptoBulkAll parts + 1
  | .iface _ d => uptoBulk d + 1
  | .map entries => uptoBulkEntries entries + 1
  | .held _ => 1
def uptoBulkAll {H : Type} : List (DataW H) → Nat
  | [] => 0
  | d :: r => uptoBulk d + uptoBulkAll r
def uptoBulkEntries {H : Type} : List (Lit × DataW H) → Nat
  | [] => 0
  | x :: r => uptoBulkEntry x + uptoBulkEntries r
def uptoBulkEntry {H : Type} : Lit × DataW H → Nat
  | (.string bytes, d) => bytes.length + uptoBulk d + 1
  | (_, d) => uptoBulk d + 1
 end
def uptoSmall : (H : Type) → List (DataW H) → Bool := fun _ ds => decide (uptoBulkAll ds ≤ 1048576)
def OpenSpec.upto (s : _root_.Go.ChangeSpec) : _root_.Go.OpenSpec := { _root_.Go.OpenSpec.ofChange s with cond := some uptoSmall }

/-- 'aqueductlaw06.FifoPlays', WHERE WHAT IT READS IS OF BULK AT MOST 1048576: true; the input reads as it did. -/
def fifoPlaysUptoRow : OpenClaim := { program := "ytopkikdbhapfmaa", sum := "c4ee96ca6d76dad89631f6671d3ea5d621b50004107d38c52e325deb28e322ed", func := "aqueduct/aqueductlaw06.FifoPlays", spec := "fifoPlays", inPlace := ["maps.clone"], unfollowed := true, recurses := true, apart := false, narrowed := true }
def FifoPlaysUptoSaid : Prop := fifoPlaysUptoRow.holds Try.pinned (OpenSpec.upto fifoPlaysSpec)

/-- 'aqueductlaw06.FifoIterates', WHERE WHAT IT READS IS OF BULK AT MOST 1048576: true; the input reads as it did. -/
def fifoIteratesUptoRow : OpenClaim := { program := "ytopkikdbhapfmaa", sum := "c4ee96ca6d76dad89631f6671d3ea5d621b50004107d38c52e325deb28e322ed", func := "aqueduct/aqueductlaw06.FifoIterates", spec := "fifoIterates", inPlace := ["maps.clone"], unfollowed := true, recurses := true, apart := false, narrowed := true }
def FifoIteratesUptoSaid : Prop := fifoIteratesUptoRow.holds Try.pinned (OpenSpec.upto fifoIteratesSpec)

/-- 'aqueductlaw06.FifoFulls', WHERE WHAT IT READS IS OF BULK AT MOST 1048576: true; the input reads as it did. -/
def fifoFullsUptoRow : OpenClaim := { program := "ytopkikdbhapfmaa", sum := "c4ee96ca6d76dad89631f6671d3ea5d621b50004107d38c52e325deb28e322ed", func := "aqueduct/aqueductlaw06.FifoFulls", spec := "fifoFulls", unfollowed := true, recurses := true, apart := false, narrowed := true }
def FifoFullsUptoSaid : Prop := fifoFullsUptoRow.holds Try.pinned (OpenSpec.upto fifoFullsSpec)

/-- 'aqueductlaw06.FifoNil', WHERE WHAT IT READS IS OF BULK AT MOST 1048576: true; the input reads as it did. -/
def fifoNilUptoRow : OpenClaim := { program := "ytopkikdbhapfmaa", sum := "c4ee96ca6d76dad89631f6671d3ea5d621b50004107d38c52e325deb28e322ed", func := "aqueduct/aqueductlaw06.FifoNil", spec := "fifoNil", inPlace := ["maps.clone"], unfollowed := true, recurses := true, apart := false, narrowed := true }
def FifoNilUptoSaid : Prop := fifoNilUptoRow.holds Try.pinned (OpenSpec.upto fifoNilSpec)

/-- 'aqueductlaw06.FifoHolds', WHERE WHAT IT READS IS OF BULK AT MOST 1048576: true; the input reads as it did. -/
def fifoHoldsUptoRow : OpenClaim := { program := "ytopkikdbhapfmaa", sum := "c4ee96ca6d76dad89631f6671d3ea5d621b50004107d38c52e325deb28e322ed", func := "aqueduct/aqueductlaw06.FifoHolds", spec := "fifoHolds", unfollowed := true, recurses := true, apart := false, narrowed := true }
def FifoHoldsUptoSaid : Prop := fifoHoldsUptoRow.holds Try.pinned (OpenSpec.upto fifoHoldsSpec)

end Rows
end Go.Proofs.Ytopkikdbhapfmaa
