/-
  DERIVED. GIVEN WITH THE SEED: THE CARDS: each row of YtemjdfmbeahieaaDoorRows.lean that lists a variable, with what it lists TIED to the program's text (the seventh form; the later family's looks); each row that meets fmt, with fmt's text TOLD by the authors' own Lean function (tested against real Go, not proved from fmt's source: count such statements apart). THE CARD IS WHAT COUNTS. Prove the row's statement (the work); the ties are given (YtemjdfmbeahieaaDoorTie.lean); close each card by the builder's one call (the guide's Derived/Test/ToyasCard.lean, 'card_holds'). Laid BY PROGRAM, IN A SANDBOX (cutbox-door.mjs). By AI agents, Wed Nov 11 2026. No macro, syntax, notation, axiom, sorry.
-/
import Derived.Test.YtemjdfmbeahieaaDoorRows
import GoSem.ClaimSeven
namespace Go.Proofs.YtemjdfmbeahieaaDoor
namespace Rows

/-- THE TIED CARD OF 'aqueductlaw02.HeapPlays'. -/
def heapPlaysCard : Claim7 := { stood := { row := heapPlaysRow, standIns := [], harness := (true, "50397c510faffcd1c568912565b7bf8605ace630d4edc653ad675aeb8556562b"), looks := false }, kinds := [], alts := [], laidByText := true, laidKinds := [.data], laidTests := true, laidLooks := .later }
def HeapPlaysCardSaid : Prop := Claim7.holds Tryd.pinned (.plain (OpenSpec.ofChange heapPlaysSpec)) heapPlaysCard

/-- THE TIED CARD OF 'aqueductlaw02.HeapIterates'. -/
def heapIteratesCard : Claim7 := { stood := { row := heapIteratesRow, standIns := [], harness := (true, "50397c510faffcd1c568912565b7bf8605ace630d4edc653ad675aeb8556562b"), looks := false }, kinds := [], alts := [], laidByText := true, laidKinds := [.data], laidTests := true, laidLooks := .later }
def HeapIteratesCardSaid : Prop := Claim7.holds Tryd.pinned (.plain (OpenSpec.ofChange heapIteratesSpec)) heapIteratesCard

/-- THE TIED CARD OF 'aqueductlaw02.HeapFulls'. -/
def heapFullsCard : Claim7 := { stood := { row := heapFullsRow, standIns := [], harness := (true, "50397c510faffcd1c568912565b7bf8605ace630d4edc653ad675aeb8556562b"), looks := false }, kinds := [], alts := [], laidByText := true, laidKinds := [.data], laidTests := true, laidLooks := .later }
def HeapFullsCardSaid : Prop := Claim7.holds Tryd.pinned (.plain (OpenSpec.ofChange heapFullsSpec)) heapFullsCard

/-- THE TIED CARD OF 'aqueductlaw02.HeapNil'. -/
def heapNilCard : Claim7 := { stood := { row := heapNilRow, standIns := [], harness := (true, "50397c510faffcd1c568912565b7bf8605ace630d4edc653ad675aeb8556562b"), looks := false }, kinds := [], alts := [], laidByText := true, laidKinds := [.data], laidTests := true, laidLooks := .later }
def HeapNilCardSaid : Prop := Claim7.holds Tryd.pinned (.plain (OpenSpec.ofChange heapNilSpec)) heapNilCard

/-- THE TIED CARD OF 'aqueductlaw02.HeapHolds'. -/
def heapHoldsCard : Claim7 := { stood := { row := heapHoldsRow, standIns := [], harness := (true, "50397c510faffcd1c568912565b7bf8605ace630d4edc653ad675aeb8556562b"), looks := false }, kinds := [], alts := [], laidByText := true, laidKinds := [.data], laidTests := true, laidLooks := .later }
def HeapHoldsCardSaid : Prop := Claim7.holds Tryd.pinned (.plain (OpenSpec.ofChange heapHoldsSpec)) heapHoldsCard

/-- THE SECOND FORM's CARD OF 'aqueductlaw02.HeapPlays'. -/
def heapPlaysUptoCard : Claim7 := { stood := { row := heapPlaysUptoRow, standIns := [], harness := (true, "50397c510faffcd1c568912565b7bf8605ace630d4edc653ad675aeb8556562b"), looks := false }, kinds := [], alts := [], laidByText := true, laidKinds := [.data], laidTests := true, laidLooks := .later }
def HeapPlaysUptoCardSaid : Prop := Claim7.holds Tryd.pinned (.plain (OpenSpec.upto heapPlaysSpec)) heapPlaysUptoCard

/-- THE SECOND FORM's CARD OF 'aqueductlaw02.HeapIterates'. -/
def heapIteratesUptoCard : Claim7 := { stood := { row := heapIteratesUptoRow, standIns := [], harness := (true, "50397c510faffcd1c568912565b7bf8605ace630d4edc653ad675aeb8556562b"), looks := false }, kinds := [], alts := [], laidByText := true, laidKinds := [.data], laidTests := true, laidLooks := .later }
def HeapIteratesUptoCardSaid : Prop := Claim7.holds Tryd.pinned (.plain (OpenSpec.upto heapIteratesSpec)) heapIteratesUptoCard

/-- THE SECOND FORM's CARD OF 'aqueductlaw02.HeapFulls'. -/
def heapFullsUptoCard : Claim7 := { stood := { row := heapFullsUptoRow, standIns := [], harness := (true, "50397c510faffcd1c568912565b7bf8605ace630d4edc653ad675aeb8556562b"), looks := false }, kinds := [], alts := [], laidByText := true, laidKinds := [.data], laidTests := true, laidLooks := .later }
def HeapFullsUptoCardSaid : Prop := Claim7.holds Tryd.pinned (.plain (OpenSpec.upto heapFullsSpec)) heapFullsUptoCard

/-- THE SECOND FORM's CARD OF 'aqueductlaw02.HeapNil'. -/
def heapNilUptoCard : Claim7 := { stood := { row := heapNilUptoRow, standIns := [], harness := (true, "50397c510faffcd1c568912565b7bf8605ace630d4edc653ad675aeb8556562b"), looks := false }, kinds := [], alts := [], laidByText := true, laidKinds := [.data], laidTests := true, laidLooks := .later }
def HeapNilUptoCardSaid : Prop := Claim7.holds Tryd.pinned (.plain (OpenSpec.upto heapNilSpec)) heapNilUptoCard

/-- THE SECOND FORM's CARD OF 'aqueductlaw02.HeapHolds'. -/
def heapHoldsUptoCard : Claim7 := { stood := { row := heapHoldsUptoRow, standIns := [], harness := (true, "50397c510faffcd1c568912565b7bf8605ace630d4edc653ad675aeb8556562b"), looks := false }, kinds := [], alts := [], laidByText := true, laidKinds := [.data], laidTests := true, laidLooks := .later }
def HeapHoldsUptoCardSaid : Prop := Claim7.holds Tryd.pinned (.plain (OpenSpec.upto heapHoldsSpec)) heapHoldsUptoCard
end Rows
end Go.Proofs.YtemjdfmbeahieaaDoor
