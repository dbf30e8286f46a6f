/-
  DERIVED. GIVEN WITH THE SEED: THE CARDS: each row of YtpbnbddjfebenaaDoorRows.lean that lists a variable, with what it lists TIED to the program's text (the seventh form; the later family's looks); each row that meets fmt, with fmt's text TOLD by the authors' own Lean function (tested against real Go, not proved from fmt's source: count such statements apart). THE CARD IS WHAT COUNTS. Prove the row's statement (the work); the ties are given (YtpbnbddjfebenaaDoorTie.lean); close each card by the builder's one call (the guide's Derived/Test/ToyasCard.lean, 'card_holds'). Laid BY PROGRAM, IN A SANDBOX (cutbox-door.mjs). By AI agents, Wed Nov 11 2026. No macro, syntax, notation, axiom, sorry.
-/
import Derived.Test.YtpbnbddjfebenaaDoorRows
import GoSem.ClaimSeven
namespace Go.Proofs.YtpbnbddjfebenaaDoor
namespace Rows

/-- THE TIED CARD OF 'aqueductlaw02.HeapIterates'. -/
def heapIteratesCard : Claim7 := { stood := { row := heapIteratesRow, standIns := [], harness := (true, "a5cc44efadb55785649932c1289f30a7a764acdba054e34d89bd0e7eeb88c6bf"), looks := false }, kinds := [], alts := [], laidByText := true, laidKinds := [.data], laidTests := true, laidLooks := .later }
def HeapIteratesCardSaid : Prop := Claim7.holds Tryd.pinned (.plain (OpenSpec.ofChange heapIteratesSpec)) heapIteratesCard

/-- THE SECOND FORM's CARD OF 'aqueductlaw02.HeapIterates'. -/
def heapIteratesUptoCard : Claim7 := { stood := { row := heapIteratesUptoRow, standIns := [], harness := (true, "a5cc44efadb55785649932c1289f30a7a764acdba054e34d89bd0e7eeb88c6bf"), looks := false }, kinds := [], alts := [], laidByText := true, laidKinds := [.data], laidTests := true, laidLooks := .later }
def HeapIteratesUptoCardSaid : Prop := Claim7.holds Tryd.pinned (.plain (OpenSpec.upto heapIteratesSpec)) heapIteratesUptoCard
end Rows
end Go.Proofs.YtpbnbddjfebenaaDoor
