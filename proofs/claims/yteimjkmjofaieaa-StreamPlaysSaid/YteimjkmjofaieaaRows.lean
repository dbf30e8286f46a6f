/-
  No cell of these rows narrows 'for every input' (looked for: loops, veiled, ifaces, maps, wideKeys, modest, calm, conditions, laid).
  DERIVED. THE GIVEN ROWS OF THIS SEAT. 5 by the template 'for every input the law returns true; each argument reads behind the call as it read before'; 0 by the template 'total and deterministic' (their statements: YteimjkmjofaieaaTotals.lean).
  GIVEN WITH THE SEED: the statements are not yours to turn. If you find one false, say at which input.
  Laid BY PROGRAM, IN A SANDBOX (cutbox-rows.mjs): the forced cells as the released guide's own fill.sh prints them over the translation 561675a2841f276c… (all of the seat's roots in one cut). By AI agents, Wed Nov 11 2026. No macro, syntax, notation, axiom, sorry.
-/
import Derived.Test.YteimjkmjofaieaaChecked
import GoSem.Claim
import GoSem.ClaimJoined
import GoSem.ClaimMapViews
import Derived.JoinedTies
import Derived.KernelRfl
namespace Go.Proofs.Yteimjkmjofaieaa
/- THE CELL 'sum', in the pinned program and in every row, IS THE sha256 OF THE DUMP (.gsa) THAT YteimjkmjofaieaaProg.lean LOADS. Nothing in Lean hashes anything: it is a label: what it is worth is what the hold of that sum in a sandbox is worth. -/
noncomputable def Try.pinned : Pinned := { name := "yteimjkmjofaieaa", sum := "561675a2841f276c7f27e7d18eaf39fee687bd65d9c0381b6ac2dd31798f7fbc", checked := Try.checked }
namespace Rows
def none {H : Type} : Left H := { results := [], args := [] }

/-- 'aqueductlaw14.StreamPlays': WHATEVER THE INPUT: true; the input reads as it did. -/
def streamPlaysSpec : ChangeSpec := { name := "streamPlays", fn := fun _ => fun
  | [d1, d2] => { results := [.lit (.bool true)], args := [d1, d2] }
  | _ => none }
def streamPlaysRow : OpenClaim := { program := "yteimjkmjofaieaa", sum := "561675a2841f276c7f27e7d18eaf39fee687bd65d9c0381b6ac2dd31798f7fbc", func := "aqueduct/aqueductlaw14.StreamPlays", spec := "streamPlays", unfollowed := true, recurses := true, apart := false }
def StreamPlaysSaid : Prop := streamPlaysRow.holds Try.pinned (OpenSpec.ofChange streamPlaysSpec)

/-- ITS FALSE NEIGHBOUR: 'it returns false'. Refute it at one input. -/
def streamPlaysWrong : ChangeSpec := { name := "streamPlays", fn := fun _ => fun
  | [d1, d2] => { results := [.lit (.bool false)], args := [d1, d2] }
  | _ => none }
def StreamPlaysWrongFalsely : Prop := streamPlaysRow.holds Try.pinned (OpenSpec.ofChange streamPlaysWrong)

/-- 'aqueductlaw14.StreamRestores': WHATEVER THE INPUT: true; the input reads as it did. -/
def streamRestoresSpec : ChangeSpec := { name := "streamRestores", fn := fun _ => fun
  | [d1, d2] => { results := [.lit (.bool true)], args := [d1, d2] }
  | _ => none }
def streamRestoresRow : OpenClaim := { program := "yteimjkmjofaieaa", sum := "561675a2841f276c7f27e7d18eaf39fee687bd65d9c0381b6ac2dd31798f7fbc", func := "aqueduct/aqueductlaw14.StreamRestores", spec := "streamRestores", unfollowed := true, recurses := true, apart := false }
def StreamRestoresSaid : Prop := streamRestoresRow.holds Try.pinned (OpenSpec.ofChange streamRestoresSpec)

/-- ITS FALSE NEIGHBOUR: 'it returns false'. Refute it at one input. -/
def streamRestoresWrong : ChangeSpec := { name := "streamRestores", fn := fun _ => fun
  | [d1, d2] => { results := [.lit (.bool false)], args := [d1, d2] }
  | _ => none }
def StreamRestoresWrongFalsely : Prop := streamRestoresRow.holds Try.pinned (OpenSpec.ofChange streamRestoresWrong)

/-- 'aqueductlaw14.StreamNone': WHATEVER THE INPUT: true; the input reads as it did. -/
def streamNoneSpec : ChangeSpec := { name := "streamNone", fn := fun _ => fun
  | [d] => { results := [.lit (.bool true)], args := [d] }
  | _ => none }
def streamNoneRow : OpenClaim := { program := "yteimjkmjofaieaa", sum := "561675a2841f276c7f27e7d18eaf39fee687bd65d9c0381b6ac2dd31798f7fbc", func := "aqueduct/aqueductlaw14.StreamNone", spec := "streamNone", unfollowed := true, recurses := true, apart := false }
def StreamNoneSaid : Prop := streamNoneRow.holds Try.pinned (OpenSpec.ofChange streamNoneSpec)

/-- ITS FALSE NEIGHBOUR: 'it returns false'. Refute it at one input. -/
def streamNoneWrong : ChangeSpec := { name := "streamNone", fn := fun _ => fun
  | [d] => { results := [.lit (.bool false)], args := [d] }
  | _ => none }
def StreamNoneWrongFalsely : Prop := streamNoneRow.holds Try.pinned (OpenSpec.ofChange streamNoneWrong)

/-- 'aqueductlaw14.StreamKinds': WHATEVER THE INPUT: true; the input reads as it did. -/
def streamKindsSpec : ChangeSpec := { name := "streamKinds", fn := fun _ => fun
  | [d1, d2, d3] => { results := [.lit (.bool true)], args := [d1, d2, d3] }
  | _ => none }
def streamKindsRow : OpenClaim := { program := "yteimjkmjofaieaa", sum := "561675a2841f276c7f27e7d18eaf39fee687bd65d9c0381b6ac2dd31798f7fbc", func := "aqueduct/aqueductlaw14.StreamKinds", spec := "streamKinds", unfollowed := true, recurses := true, apart := false }
def StreamKindsSaid : Prop := streamKindsRow.holds Try.pinned (OpenSpec.ofChange streamKindsSpec)

/-- ITS FALSE NEIGHBOUR: 'it returns false'. Refute it at one input. -/
def streamKindsWrong : ChangeSpec := { name := "streamKinds", fn := fun _ => fun
  | [d1, d2, d3] => { results := [.lit (.bool false)], args := [d1, d2, d3] }
  | _ => none }
def StreamKindsWrongFalsely : Prop := streamKindsRow.holds Try.pinned (OpenSpec.ofChange streamKindsWrong)

/-- 'aqueductlaw14.StreamHolds': WHATEVER THE INPUT: true; the input reads as it did. -/
def streamHoldsSpec : ChangeSpec := { name := "streamHolds", fn := fun _ => fun
  | [d1, d2] => { results := [.lit (.bool true)], args := [d1, d2] }
  | _ => none }
def streamHoldsRow : OpenClaim := { program := "yteimjkmjofaieaa", sum := "561675a2841f276c7f27e7d18eaf39fee687bd65d9c0381b6ac2dd31798f7fbc", func := "aqueduct/aqueductlaw14.StreamHolds", spec := "streamHolds", unfollowed := true, recurses := true, apart := false }
def StreamHoldsSaid : Prop := streamHoldsRow.holds Try.pinned (OpenSpec.ofChange streamHoldsSpec)

/-- ITS FALSE NEIGHBOUR: 'it returns false'. Refute it at one input. -/
def streamHoldsWrong : ChangeSpec := { name := "streamHolds", fn := fun _ => fun
  | [d1, d2] => { results := [.lit (.bool false)], args := [d1, d2] }
  | _ => none }
def StreamHoldsWrongFalsely : Prop := streamHoldsRow.holds Try.pinned (OpenSpec.ofChange streamHoldsWrong)

/- THE SECOND FORM. 'bulk': how many values and letters a reading holds, each counted each time it is reached (what is shared counts as often as it is met; a slice's spare places count too). A statement '..UptoSaid' is the law's where the arguments, and the package variables that the reading takes, are together of bulk at most 1048576: NARROWER than '..Said'. Prove '..Said' where nothing that the law and all that it calls make is longer than what came in: it says more and counts as full. Else prove '..UptoSaid'. A law counts once. -/
mutual
def uptoBulk {H : Type} : DataW H → Nat
  | .lit (.string bytes) => bytes.length + 1
  | .lit _ => 1
  | .nil => 1
  | .ptr d => uptoBulk d + 1
  | .slice elems spare => uptoBulkAll elems + uptoBulkAll spare + 1
  | .agg parts => uptoBulkAll parts + 1
  | .iface _ d => uptoBulk d + 1
  | .map entries => uptoBulkEntries entries + 1
  | .held _ => 1
def uptoBulkAll {H : Type} : List (DataW H) → Nat
  | [] => 0
  | d :: r => uptoBulk d + uptoBulkAll r
def uptoBulkEntries {H : Type} : List (Lit × DataW H) → Nat
  | [] => 0
  | x :: r => uptoBulkEntry x + uptoBulkEntries r
def uptoBulkEntry {H : Type} : Lit × DataW H → Nat
  | (.string bytes, d) => bytes.length + uptoBulk d + 1
  | (_, d) => uptoBulk d + 1
 end
def uptoSmall : (H : Type) → List (DataW H) → Bool := fun _ ds => decide (uptoBulkAll ds ≤ 1048576)
def OpenSpec.upto (s : _root_.Go.ChangeSpec) : _root_.Go.OpenSpec := { _root_.Go.OpenSpec.ofChange s with cond := some uptoSmall }

/-- 'aqueductlaw14.StreamPlays', WHERE WHAT IT READS IS OF BULK AT MOST 1048576: true; the input reads as it did. -/
def streamPlaysUptoRow : OpenClaim := { program := "yteimjkmjofaieaa", sum := "561675a2841f276c7f27e7d18eaf39fee687bd65d9c0381b6ac2dd31798f7fbc", func := "aqueduct/aqueductlaw14.StreamPlays", spec := "streamPlays", unfollowed := true, recurses := true, apart := false, narrowed := true }
def StreamPlaysUptoSaid : Prop := streamPlaysUptoRow.holds Try.pinned (OpenSpec.upto streamPlaysSpec)

/-- 'aqueductlaw14.StreamRestores', WHERE WHAT IT READS IS OF BULK AT MOST 1048576: true; the input reads as it did. -/
def streamRestoresUptoRow : OpenClaim := { program := "yteimjkmjofaieaa", sum := "561675a2841f276c7f27e7d18eaf39fee687bd65d9c0381b6ac2dd31798f7fbc", func := "aqueduct/aqueductlaw14.StreamRestores", spec := "streamRestores", unfollowed := true, recurses := true, apart := false, narrowed := true }
def StreamRestoresUptoSaid : Prop := streamRestoresUptoRow.holds Try.pinned (OpenSpec.upto streamRestoresSpec)

/-- 'aqueductlaw14.StreamNone', WHERE WHAT IT READS IS OF BULK AT MOST 1048576: true; the input reads as it did. -/
def streamNoneUptoRow : OpenClaim := { program := "yteimjkmjofaieaa", sum := "561675a2841f276c7f27e7d18eaf39fee687bd65d9c0381b6ac2dd31798f7fbc", func := "aqueduct/aqueductlaw14.StreamNone", spec := "streamNone", unfollowed := true, recurses := true, apart := false, narrowed := true }
def StreamNoneUptoSaid : Prop := streamNoneUptoRow.holds Try.pinned (OpenSpec.upto streamNoneSpec)

/-- 'aqueductlaw14.StreamKinds', WHERE WHAT IT READS IS OF BULK AT MOST 1048576: true; the input reads as it did. -/
def streamKindsUptoRow : OpenClaim := { program := "yteimjkmjofaieaa", sum := "561675a2841f276c7f27e7d18eaf39fee687bd65d9c0381b6ac2dd31798f7fbc", func := "aqueduct/aqueductlaw14.StreamKinds", spec := "streamKinds", unfollowed := true, recurses := true, apart := false, narrowed := true }
def StreamKindsUptoSaid : Prop := streamKindsUptoRow.holds Try.pinned (OpenSpec.upto streamKindsSpec)

/-- 'aqueductlaw14.StreamHolds', WHERE WHAT IT READS IS OF BULK AT MOST 1048576: true; the input reads as it did. -/
def streamHoldsUptoRow : OpenClaim := { program := "yteimjkmjofaieaa", sum := "561675a2841f276c7f27e7d18eaf39fee687bd65d9c0381b6ac2dd31798f7fbc", func := "aqueduct/aqueductlaw14.StreamHolds", spec := "streamHolds", unfollowed := true, recurses := true, apart := false, narrowed := true }
def StreamHoldsUptoSaid : Prop := streamHoldsUptoRow.holds Try.pinned (OpenSpec.upto streamHoldsSpec)

end Rows
end Go.Proofs.Yteimjkmjofaieaa
