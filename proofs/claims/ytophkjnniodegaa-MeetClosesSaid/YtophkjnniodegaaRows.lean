/-
  No cell of these rows narrows 'for every input' (looked for: loops, veiled, ifaces, maps, wideKeys, modest, calm, conditions, laid).
  DERIVED. THE GIVEN ROWS OF THIS SEAT. 5 by the template 'for every input the law returns true; each argument reads behind the call as it read before'; 0 by the template 'total and deterministic' (their statements: YtophkjnniodegaaTotals.lean).
  GIVEN WITH THE SEED: the statements are not yours to turn. If you find one false, say at which input.
  Laid BY PROGRAM, IN A SANDBOX (cutbox-rows.mjs): the forced cells as the released guide's own fill.sh prints them over the translation 36d1016583ce9223… (all of the seat's roots in one cut). By AI agents, Wed Nov 11 2026. No macro, syntax, notation, axiom, sorry.
-/
import Derived.Test.YtophkjnniodegaaChecked
import GoSem.Claim
import GoSem.ClaimJoined
import GoSem.ClaimMapViews
import Derived.JoinedTies
import Derived.KernelRfl
namespace Go.Proofs.Ytophkjnniodegaa
/- THE CELL 'sum', in the pinned program and in every row, IS THE sha256 OF THE DUMP (.gsa) THAT YtophkjnniodegaaProg.lean LOADS. Nothing in Lean hashes anything: it is a label: what it is worth is what the hold of that sum in a sandbox is worth. -/
noncomputable def Try.pinned : Pinned := { name := "ytophkjnniodegaa", sum := "36d1016583ce92235620aee4b4ff9c084b934cdafb9e102da7f4643f7121428d", checked := Try.checked }
namespace Rows
def none {H : Type} : Left H := { results := [], args := [] }

/-- 'aqueductlaw12.MeetPlays': WHATEVER THE INPUT: true; the input reads as it did. -/
def meetPlaysSpec : ChangeSpec := { name := "meetPlays", fn := fun _ => fun
  | [d] => { results := [.lit (.bool true)], args := [d] }
  | _ => none }
def meetPlaysRow : OpenClaim := { program := "ytophkjnniodegaa", sum := "36d1016583ce92235620aee4b4ff9c084b934cdafb9e102da7f4643f7121428d", func := "aqueduct/aqueductlaw12.MeetPlays", spec := "meetPlays", apart := false }
def MeetPlaysSaid : Prop := meetPlaysRow.holds Try.pinned (OpenSpec.ofChange meetPlaysSpec)

/-- ITS FALSE NEIGHBOUR: 'it returns false'. Refute it at one input. -/
def meetPlaysWrong : ChangeSpec := { name := "meetPlays", fn := fun _ => fun
  | [d] => { results := [.lit (.bool false)], args := [d] }
  | _ => none }
def MeetPlaysWrongFalsely : Prop := meetPlaysRow.holds Try.pinned (OpenSpec.ofChange meetPlaysWrong)

/-- 'aqueductlaw12.MeetNil': WHATEVER THE INPUT: true; the input reads as it did. -/
def meetNilSpec : ChangeSpec := { name := "meetNil", fn := fun _ => fun
  | [d1, d2] => { results := [.lit (.bool true)], args := [d1, d2] }
  | _ => none }
def meetNilRow : OpenClaim := { program := "ytophkjnniodegaa", sum := "36d1016583ce92235620aee4b4ff9c084b934cdafb9e102da7f4643f7121428d", func := "aqueduct/aqueductlaw12.MeetNil", spec := "meetNil", apart := false }
def MeetNilSaid : Prop := meetNilRow.holds Try.pinned (OpenSpec.ofChange meetNilSpec)

/-- ITS FALSE NEIGHBOUR: 'it returns false'. Refute it at one input. -/
def meetNilWrong : ChangeSpec := { name := "meetNil", fn := fun _ => fun
  | [d1, d2] => { results := [.lit (.bool false)], args := [d1, d2] }
  | _ => none }
def MeetNilWrongFalsely : Prop := meetNilRow.holds Try.pinned (OpenSpec.ofChange meetNilWrong)

/-- 'aqueductlaw12.MeetSplits': WHATEVER THE INPUT: true; the input reads as it did. -/
def meetSplitsSpec : ChangeSpec := { name := "meetSplits", fn := fun _ => fun
  | [d1, d2] => { results := [.lit (.bool true)], args := [d1, d2] }
  | _ => none }
def meetSplitsRow : OpenClaim := { program := "ytophkjnniodegaa", sum := "36d1016583ce92235620aee4b4ff9c084b934cdafb9e102da7f4643f7121428d", func := "aqueduct/aqueductlaw12.MeetSplits", spec := "meetSplits", apart := false }
def MeetSplitsSaid : Prop := meetSplitsRow.holds Try.pinned (OpenSpec.ofChange meetSplitsSpec)

/-- ITS FALSE NEIGHBOUR: 'it returns false'. Refute it at one input. -/
def meetSplitsWrong : ChangeSpec := { name := "meetSplits", fn := fun _ => fun
  | [d1, d2] => { results := [.lit (.bool false)], args := [d1, d2] }
  | _ => none }
def MeetSplitsWrongFalsely : Prop := meetSplitsRow.holds Try.pinned (OpenSpec.ofChange meetSplitsWrong)

/-- 'aqueductlaw12.MeetCloses': WHATEVER THE INPUT: true; the input reads as it did. -/
def meetClosesSpec : ChangeSpec := { name := "meetCloses", fn := fun _ => fun
  | [d1, d2, d3, d4, d5] => { results := [.lit (.bool true)], args := [d1, d2, d3, d4, d5] }
  | _ => none }
def meetClosesRow : OpenClaim := { program := "ytophkjnniodegaa", sum := "36d1016583ce92235620aee4b4ff9c084b934cdafb9e102da7f4643f7121428d", func := "aqueduct/aqueductlaw12.MeetCloses", spec := "meetCloses", apart := false }
def MeetClosesSaid : Prop := meetClosesRow.holds Try.pinned (OpenSpec.ofChange meetClosesSpec)

/-- ITS FALSE NEIGHBOUR: 'it returns false'. Refute it at one input. -/
def meetClosesWrong : ChangeSpec := { name := "meetCloses", fn := fun _ => fun
  | [d1, d2, d3, d4, d5] => { results := [.lit (.bool false)], args := [d1, d2, d3, d4, d5] }
  | _ => none }
def MeetClosesWrongFalsely : Prop := meetClosesRow.holds Try.pinned (OpenSpec.ofChange meetClosesWrong)

/-- 'aqueductlaw12.MeetHolds': WHATEVER THE INPUT: true; the input reads as it did. -/
def meetHoldsSpec : ChangeSpec := { name := "meetHolds", fn := fun _ => fun
  | [d] => { results := [.lit (.bool true)], args := [d] }
  | _ => none }
def meetHoldsRow : OpenClaim := { program := "ytophkjnniodegaa", sum := "36d1016583ce92235620aee4b4ff9c084b934cdafb9e102da7f4643f7121428d", func := "aqueduct/aqueductlaw12.MeetHolds", spec := "meetHolds", apart := false }
def MeetHoldsSaid : Prop := meetHoldsRow.holds Try.pinned (OpenSpec.ofChange meetHoldsSpec)

/-- ITS FALSE NEIGHBOUR: 'it returns false'. Refute it at one input. -/
def meetHoldsWrong : ChangeSpec := { name := "meetHolds", fn := fun _ => fun
  | [d] => { results := [.lit (.bool false)], args := [d] }
  | _ => none }
def MeetHoldsWrongFalsely : Prop := meetHoldsRow.holds Try.pinned (OpenSpec.ofChange meetHoldsWrong)

/- THE SECOND FORM. 'bulk': how many values and letters a reading holds, each counted each time it is reached (what is shared counts as often as it is met; a slice's spare places count too). A statement '..UptoSaid' is the law's where the arguments, and the package variables that the reading takes, are together of bulk at most 1048576: NARROWER than '..Said'. Prove '..Said' where nothing that the law and all that it calls make is longer than what came in: it says more and counts as full. Else prove '..UptoSaid'. A law counts once. -/
mutual
def uptoBulk {H : Type} : DataW H → Nat
  | .lit (.string bytes) => bytes.length + 1
  | .lit _ => 1
  | .nil => 1
  | .ptr d => uptoBulk d + 1
  | .slice elems spare => uptoBulkAll elems + uptoBulkAll spare + 1
  | .agg parts => uptoBulkAll parts + 1
  | .iface _ d => uptoBulk d + 1
  | .map entries => uptoBulkEntries entries + 1
  | .held _ => 1
def uptoBulkAll {H : Type} : List (DataW H) → Nat
  | [] => 0
  | d :: r => uptoBulk d + uptoBulkAll r
def uptoBulkEntries {H : Type} : List (Lit × DataW H) → Nat
  | [] => 0
  | x :: r => uptoBulkEntry x + uptoBulkEntries r
def uptoBulkEntry {H : Type} : Lit × DataW H → Nat
  | (.string bytes, d) => bytes.length + uptoBulk d + 1
  | (_, d) => uptoBulk d + 1
 end
def uptoSmall : (H : Type) → List (DataW H) → Bool := fun _ ds => decide (uptoBulkAll ds ≤ 1048576)
def OpenSpec.upto (s : _root_.Go.ChangeSpec) : _root_.Go.OpenSpec := { _root_.Go.OpenSpec.ofChange s with cond := some uptoSmall }

/-- 'aqueductlaw12.MeetPlays', WHERE WHAT IT READS IS OF BULK AT MOST 1048576: true; the input reads as it did. -/
def meetPlaysUptoRow : OpenClaim := { program := "ytophkjnniodegaa", sum := "36d1016583ce92235620aee4b4ff9c084b934cdafb9e102da7f4643f7121428d", func := "aqueduct/aqueductlaw12.MeetPlays", spec := "meetPlays", apart := false, narrowed := true }
def MeetPlaysUptoSaid : Prop := meetPlaysUptoRow.holds Try.pinned (OpenSpec.upto meetPlaysSpec)

/-- 'aqueductlaw12.MeetNil', WHERE WHAT IT READS IS OF BULK AT MOST 1048576: true; the input reads as it did. -/
def meetNilUptoRow : OpenClaim := { program := "ytophkjnniodegaa", sum := "36d1016583ce92235620aee4b4ff9c084b934cdafb9e102da7f4643f7121428d", func := "aqueduct/aqueductlaw12.MeetNil", spec := "meetNil", apart := false, narrowed := true }
def MeetNilUptoSaid : Prop := meetNilUptoRow.holds Try.pinned (OpenSpec.upto meetNilSpec)

/-- 'aqueductlaw12.MeetSplits', WHERE WHAT IT READS IS OF BULK AT MOST 1048576: true; the input reads as it did. -/
def meetSplitsUptoRow : OpenClaim := { program := "ytophkjnniodegaa", sum := "36d1016583ce92235620aee4b4ff9c084b934cdafb9e102da7f4643f7121428d", func := "aqueduct/aqueductlaw12.MeetSplits", spec := "meetSplits", apart := false, narrowed := true }
def MeetSplitsUptoSaid : Prop := meetSplitsUptoRow.holds Try.pinned (OpenSpec.upto meetSplitsSpec)

/-- 'aqueductlaw12.MeetCloses', WHERE WHAT IT READS IS OF BULK AT MOST 1048576: true; the input reads as it did. -/
def meetClosesUptoRow : OpenClaim := { program := "ytophkjnniodegaa", sum := "36d1016583ce92235620aee4b4ff9c084b934cdafb9e102da7f4643f7121428d", func := "aqueduct/aqueductlaw12.MeetCloses", spec := "meetCloses", apart := false, narrowed := true }
def MeetClosesUptoSaid : Prop := meetClosesUptoRow.holds Try.pinned (OpenSpec.upto meetClosesSpec)

/-- 'aqueductlaw12.MeetHolds', WHERE WHAT IT READS IS OF BULK AT MOST 1048576: true; the input reads as it did. -/
def meetHoldsUptoRow : OpenClaim := { program := "ytophkjnniodegaa", sum := "36d1016583ce92235620aee4b4ff9c084b934cdafb9e102da7f4643f7121428d", func := "aqueduct/aqueductlaw12.MeetHolds", spec := "meetHolds", apart := false, narrowed := true }
def MeetHoldsUptoSaid : Prop := meetHoldsUptoRow.holds Try.pinned (OpenSpec.upto meetHoldsSpec)

end Rows
end Go.Proofs.Ytophkjnniodegaa
