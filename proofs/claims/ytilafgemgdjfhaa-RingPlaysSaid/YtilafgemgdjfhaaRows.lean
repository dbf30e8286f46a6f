/-
  No cell of these rows narrows 'for every input' (looked for: loops, veiled, ifaces, maps, wideKeys, modest, calm, conditions, laid).
  DERIVED. THE GIVEN ROWS OF THIS SEAT. 5 by the template 'for every input the law returns true; each argument reads behind the call as it read before'; 0 by the template 'total and deterministic' (their statements: YtilafgemgdjfhaaTotals.lean).
  GIVEN WITH THE SEED: the statements are not yours to turn. If you find one false, say at which input.
  Laid BY PROGRAM, IN A SANDBOX (cutbox-rows.mjs): the forced cells as the released guide's own fill.sh prints them over the translation 3e0b70e2a7053914… (all of the seat's roots in one cut). By AI agents, Wed Nov 11 2026. No macro, syntax, notation, axiom, sorry.
-/
import Derived.Test.YtilafgemgdjfhaaChecked
import GoSem.Claim
import GoSem.ClaimJoined
import GoSem.ClaimMapViews
import Derived.JoinedTies
import Derived.KernelRfl
namespace Go.Proofs.Ytilafgemgdjfhaa
/- THE CELL 'sum', in the pinned program and in every row, IS THE sha256 OF THE DUMP (.gsa) THAT YtilafgemgdjfhaaProg.lean LOADS. Nothing in Lean hashes anything: it is a label: what it is worth is what the hold of that sum in a sandbox is worth. -/
noncomputable def Try.pinned : Pinned := { name := "ytilafgemgdjfhaa", sum := "3e0b70e2a7053914f1b2a06aaba4a32996bca4c48c5a1f9e0120b2f3d7794ce2", checked := Try.checked }
namespace Rows
def none {H : Type} : Left H := { results := [], args := [] }

/-- 'aqueductlaw04.RingPlays': WHATEVER THE INPUT: true; the input reads as it did. -/
def ringPlaysSpec : ChangeSpec := { name := "ringPlays", fn := fun _ => fun
  | [d1, d2] => { results := [.lit (.bool true)], args := [d1, d2] }
  | _ => none }
def ringPlaysRow : OpenClaim := { program := "ytilafgemgdjfhaa", sum := "3e0b70e2a7053914f1b2a06aaba4a32996bca4c48c5a1f9e0120b2f3d7794ce2", func := "aqueduct/aqueductlaw04.RingPlays", spec := "ringPlays", apart := false }
def RingPlaysSaid : Prop := ringPlaysRow.holds Try.pinned (OpenSpec.ofChange ringPlaysSpec)

/-- ITS FALSE NEIGHBOUR: 'it returns false'. Refute it at one input. -/
def ringPlaysWrong : ChangeSpec := { name := "ringPlays", fn := fun _ => fun
  | [d1, d2] => { results := [.lit (.bool false)], args := [d1, d2] }
  | _ => none }
def RingPlaysWrongFalsely : Prop := ringPlaysRow.holds Try.pinned (OpenSpec.ofChange ringPlaysWrong)

/-- 'aqueductlaw04.RingLongs': WHATEVER THE INPUT: true; the input reads as it did. -/
def ringLongsSpec : ChangeSpec := { name := "ringLongs", fn := fun _ => fun
  | [d1, d2] => { results := [.lit (.bool true)], args := [d1, d2] }
  | _ => none }
def ringLongsRow : OpenClaim := { program := "ytilafgemgdjfhaa", sum := "3e0b70e2a7053914f1b2a06aaba4a32996bca4c48c5a1f9e0120b2f3d7794ce2", func := "aqueduct/aqueductlaw04.RingLongs", spec := "ringLongs", apart := false }
def RingLongsSaid : Prop := ringLongsRow.holds Try.pinned (OpenSpec.ofChange ringLongsSpec)

/-- ITS FALSE NEIGHBOUR: 'it returns false'. Refute it at one input. -/
def ringLongsWrong : ChangeSpec := { name := "ringLongs", fn := fun _ => fun
  | [d1, d2] => { results := [.lit (.bool false)], args := [d1, d2] }
  | _ => none }
def RingLongsWrongFalsely : Prop := ringLongsRow.holds Try.pinned (OpenSpec.ofChange ringLongsWrong)

/-- 'aqueductlaw04.RingNil': WHATEVER THE INPUT: true; the input reads as it did. -/
def ringNilSpec : ChangeSpec := { name := "ringNil", fn := fun _ => fun
  | [d1, d2, d3] => { results := [.lit (.bool true)], args := [d1, d2, d3] }
  | _ => none }
def ringNilRow : OpenClaim := { program := "ytilafgemgdjfhaa", sum := "3e0b70e2a7053914f1b2a06aaba4a32996bca4c48c5a1f9e0120b2f3d7794ce2", func := "aqueduct/aqueductlaw04.RingNil", spec := "ringNil", apart := false }
def RingNilSaid : Prop := ringNilRow.holds Try.pinned (OpenSpec.ofChange ringNilSpec)

/-- ITS FALSE NEIGHBOUR: 'it returns false'. Refute it at one input. -/
def ringNilWrong : ChangeSpec := { name := "ringNil", fn := fun _ => fun
  | [d1, d2, d3] => { results := [.lit (.bool false)], args := [d1, d2, d3] }
  | _ => none }
def RingNilWrongFalsely : Prop := ringNilRow.holds Try.pinned (OpenSpec.ofChange ringNilWrong)

/-- 'aqueductlaw04.RingPeeks': WHATEVER THE INPUT: true; the input reads as it did. -/
def ringPeeksSpec : ChangeSpec := { name := "ringPeeks", fn := fun _ => fun
  | [d1, d2, d3] => { results := [.lit (.bool true)], args := [d1, d2, d3] }
  | _ => none }
def ringPeeksRow : OpenClaim := { program := "ytilafgemgdjfhaa", sum := "3e0b70e2a7053914f1b2a06aaba4a32996bca4c48c5a1f9e0120b2f3d7794ce2", func := "aqueduct/aqueductlaw04.RingPeeks", spec := "ringPeeks", apart := false }
def RingPeeksSaid : Prop := ringPeeksRow.holds Try.pinned (OpenSpec.ofChange ringPeeksSpec)

/-- ITS FALSE NEIGHBOUR: 'it returns false'. Refute it at one input. -/
def ringPeeksWrong : ChangeSpec := { name := "ringPeeks", fn := fun _ => fun
  | [d1, d2, d3] => { results := [.lit (.bool false)], args := [d1, d2, d3] }
  | _ => none }
def RingPeeksWrongFalsely : Prop := ringPeeksRow.holds Try.pinned (OpenSpec.ofChange ringPeeksWrong)

/-- 'aqueductlaw04.RingHolds': WHATEVER THE INPUT: true; the input reads as it did. -/
def ringHoldsSpec : ChangeSpec := { name := "ringHolds", fn := fun _ => fun
  | [d1, d2, d3] => { results := [.lit (.bool true)], args := [d1, d2, d3] }
  | _ => none }
def ringHoldsRow : OpenClaim := { program := "ytilafgemgdjfhaa", sum := "3e0b70e2a7053914f1b2a06aaba4a32996bca4c48c5a1f9e0120b2f3d7794ce2", func := "aqueduct/aqueductlaw04.RingHolds", spec := "ringHolds", apart := false }
def RingHoldsSaid : Prop := ringHoldsRow.holds Try.pinned (OpenSpec.ofChange ringHoldsSpec)

/-- ITS FALSE NEIGHBOUR: 'it returns false'. Refute it at one input. -/
def ringHoldsWrong : ChangeSpec := { name := "ringHolds", fn := fun _ => fun
  | [d1, d2, d3] => { results := [.lit (.bool false)], args := [d1, d2, d3] }
  | _ => none }
def RingHoldsWrongFalsely : Prop := ringHoldsRow.holds Try.pinned (OpenSpec.ofChange ringHoldsWrong)

/- THE SECOND FORM. 'bulk': how many values and letters a reading holds, each counted each time it is reached (what is shared counts as often as it is met; a slice's spare places count too). A statement '..UptoSaid' is the law's where the arguments, and the package variables that the reading takes, are together of bulk at most 1048576: NARROWER than '..Said'. Prove '..Said' where nothing that the law and all that it calls make is longer than what came in: it says more and counts as full. Else prove '..UptoSaid'. A law counts once. -/
mutual
def uptoBulk {H : Type} : DataW H → Nat
  | .lit (.string bytes) => bytes.length + 1
  | .lit _ => 1
  | .nil => 1
  | .ptr d => uptoBulk d + 1
  | .slice elems spare => uptoBulkAll elems + uptoBulkAll spare + 1
  | .agg parts => uptoBulkAll parts + 1
  | .iface _ d => uptoBulk d + 1
  | .map entries => uptoBulkEntries entries + 1
  | .held _ => 1
def uptoBulkAll {H : Type} : List (DataW H) → Nat
  | [] => 0
  | d :: r => uptoBulk d + uptoBulkAll r
def uptoBulkEntries {H : Type} : List (Lit × DataW H) → Nat
  | [] => 0
  | x :: r => uptoBulkEntry x + uptoBulkEntries r
def uptoBulkEntry {H : Type} : Lit × DataW H → Nat
  | (.string bytes, d) => bytes.length + uptoBulk d + 1
  | (_, d) => uptoBulk d + 1
 end
def uptoSmall : (H : Type) → List (DataW H) → Bool := fun _ ds => decide (uptoBulkAll ds ≤ 1048576)
def OpenSpec.upto (s : _root_.Go.ChangeSpec) : _root_.Go.OpenSpec := { _root_.Go.OpenSpec.ofChange s with cond := some uptoSmall }

/-- 'aqueductlaw04.RingPlays', WHERE WHAT IT READS IS OF BULK AT MOST 1048576: true; the input reads as it did. -/
def ringPlaysUptoRow : OpenClaim := { program := "ytilafgemgdjfhaa", sum := "3e0b70e2a7053914f1b2a06aaba4a32996bca4c48c5a1f9e0120b2f3d7794ce2", func := "aqueduct/aqueductlaw04.RingPlays", spec := "ringPlays", apart := false, narrowed := true }
def RingPlaysUptoSaid : Prop := ringPlaysUptoRow.holds Try.pinned (OpenSpec.upto ringPlaysSpec)

/-- 'aqueductlaw04.RingLongs', WHERE WHAT IT READS IS OF BULK AT MOST 1048576: true; the input reads as it did. -/
def ringLongsUptoRow : OpenClaim := { program := "ytilafgemgdjfhaa", sum := "3e0b70e2a7053914f1b2a06aaba4a32996bca4c48c5a1f9e0120b2f3d7794ce2", func := "aqueduct/aqueductlaw04.RingLongs", spec := "ringLongs", apart := false, narrowed := true }
def RingLongsUptoSaid : Prop := ringLongsUptoRow.holds Try.pinned (OpenSpec.upto ringLongsSpec)

/-- 'aqueductlaw04.RingNil', WHERE WHAT IT READS IS OF BULK AT MOST 1048576: true; the input reads as it did. -/
def ringNilUptoRow : OpenClaim := { program := "ytilafgemgdjfhaa", sum := "3e0b70e2a7053914f1b2a06aaba4a32996bca4c48c5a1f9e0120b2f3d7794ce2", func := "aqueduct/aqueductlaw04.RingNil", spec := "ringNil", apart := false, narrowed := true }
def RingNilUptoSaid : Prop := ringNilUptoRow.holds Try.pinned (OpenSpec.upto ringNilSpec)

/-- 'aqueductlaw04.RingPeeks', WHERE WHAT IT READS IS OF BULK AT MOST 1048576: true; the input reads as it did. -/
def ringPeeksUptoRow : OpenClaim := { program := "ytilafgemgdjfhaa", sum := "3e0b70e2a7053914f1b2a06aaba4a32996bca4c48c5a1f9e0120b2f3d7794ce2", func := "aqueduct/aqueductlaw04.RingPeeks", spec := "ringPeeks", apart := false, narrowed := true }
def RingPeeksUptoSaid : Prop := ringPeeksUptoRow.holds Try.pinned (OpenSpec.upto ringPeeksSpec)

/-- 'aqueductlaw04.RingHolds', WHERE WHAT IT READS IS OF BULK AT MOST 1048576: true; the input reads as it did. -/
def ringHoldsUptoRow : OpenClaim := { program := "ytilafgemgdjfhaa", sum := "3e0b70e2a7053914f1b2a06aaba4a32996bca4c48c5a1f9e0120b2f3d7794ce2", func := "aqueduct/aqueductlaw04.RingHolds", spec := "ringHolds", apart := false, narrowed := true }
def RingHoldsUptoSaid : Prop := ringHoldsUptoRow.holds Try.pinned (OpenSpec.upto ringHoldsSpec)

end Rows
end Go.Proofs.Ytilafgemgdjfhaa
