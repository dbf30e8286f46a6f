/-
  DERIVED. GIVEN WITH THE SEED: THE CARDS: each row of YthlbnlbkgiclpaaDoorRows.lean that lists a variable, with what it lists TIED to the program's text (the seventh form; the later family's looks); each row that meets fmt, with fmt's text TOLD by the authors' own Lean function (tested against real Go, not proved from fmt's source: count such statements apart). THE CARD IS WHAT COUNTS. Prove the row's statement (the work); the ties are given (YthlbnlbkgiclpaaDoorTie.lean); close each card by the builder's one call (the guide's Derived/Test/ToyasCard.lean, 'card_holds'). Laid BY PROGRAM, IN A SANDBOX (cutbox-door.mjs). By AI agents, Wed Nov 11 2026. No macro, syntax, notation, axiom, sorry.
-/
import Derived.Test.YthlbnlbkgiclpaaDoorRows
import GoSem.ClaimSeven
namespace Go.Proofs.YthlbnlbkgiclpaaDoor
namespace Rows

/-- THE TIED CARD OF 'aqueductlaw02.HeapIterates'. -/
def heapIteratesCard : Claim7 := { stood := { row := heapIteratesRow, standIns := [], harness := (true, "68059deb9202323d59d958d44692df955a8def915307832cd81a5512a09817f8"), looks := false }, kinds := [], alts := [], laidByText := true, laidKinds := [.data], laidTests := true, laidLooks := .later }
def HeapIteratesCardSaid : Prop := Claim7.holds Tryd.pinned (.plain (OpenSpec.ofChange heapIteratesSpec)) heapIteratesCard

/-- THE TIED CARD OF 'aqueductlaw03.TimerPlays'. -/
def timerPlaysCard : Claim7 := { stood := { row := timerPlaysRow, standIns := [], harness := (true, "68059deb9202323d59d958d44692df955a8def915307832cd81a5512a09817f8"), looks := false }, kinds := [], alts := [], laidByText := true, laidKinds := [.data], laidTests := true, laidLooks := .later }
def TimerPlaysCardSaid : Prop := Claim7.holds Tryd.pinned (.plain (OpenSpec.ofChange timerPlaysSpec)) timerPlaysCard

/-- THE SECOND FORM's CARD OF 'aqueductlaw02.HeapIterates'. -/
def heapIteratesUptoCard : Claim7 := { stood := { row := heapIteratesUptoRow, standIns := [], harness := (true, "68059deb9202323d59d958d44692df955a8def915307832cd81a5512a09817f8"), looks := false }, kinds := [], alts := [], laidByText := true, laidKinds := [.data], laidTests := true, laidLooks := .later }
def HeapIteratesUptoCardSaid : Prop := Claim7.holds Tryd.pinned (.plain (OpenSpec.upto heapIteratesSpec)) heapIteratesUptoCard

/-- THE SECOND FORM's CARD OF 'aqueductlaw03.TimerPlays'. -/
def timerPlaysUptoCard : Claim7 := { stood := { row := timerPlaysUptoRow, standIns := [], harness := (true, "68059deb9202323d59d958d44692df955a8def915307832cd81a5512a09817f8"), looks := false }, kinds := [], alts := [], laidByText := true, laidKinds := [.data], laidTests := true, laidLooks := .later }
def TimerPlaysUptoCardSaid : Prop := Claim7.holds Tryd.pinned (.plain (OpenSpec.upto timerPlaysSpec)) timerPlaysUptoCard
end Rows
end Go.Proofs.YthlbnlbkgiclpaaDoor
