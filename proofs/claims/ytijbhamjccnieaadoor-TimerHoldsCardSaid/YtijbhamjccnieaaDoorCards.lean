/-
  DERIVED. GIVEN WITH THE SEED: THE CARDS: each row of YtijbhamjccnieaaDoorRows.lean that lists a variable, with what it lists TIED to the program's text (the seventh form; the later family's looks); each row that meets fmt, with fmt's text TOLD by the authors' own Lean function (tested against real Go, not proved from fmt's source: count such statements apart). THE CARD IS WHAT COUNTS. Prove the row's statement (the work); the ties are given (YtijbhamjccnieaaDoorTie.lean); close each card by the builder's one call (the guide's Derived/Test/ToyasCard.lean, 'card_holds'). Laid BY PROGRAM, IN A SANDBOX (cutbox-door.mjs). By AI agents, Wed Nov 11 2026. No macro, syntax, notation, axiom, sorry.
-/
import Derived.Test.YtijbhamjccnieaaDoorRows
import GoSem.ClaimSeven
namespace Go.Proofs.YtijbhamjccnieaaDoor
namespace Rows

/-- THE TIED CARD OF 'aqueductlaw02.HeapIterates'. -/
def heapIteratesCard : Claim7 := { stood := { row := heapIteratesRow, standIns := [], harness := (true, "c1caffe220ec56f629d56372b1d9bf2761758ebbe6f89cc8e2551a0368aaec7d"), looks := false }, kinds := [], alts := [], laidByText := true, laidKinds := [.data], laidTests := true, laidLooks := .later }
def HeapIteratesCardSaid : Prop := Claim7.holds Tryd.pinned (.plain (OpenSpec.ofChange heapIteratesSpec)) heapIteratesCard

/-- THE TIED CARD OF 'aqueductlaw03.TimerPlays'. -/
def timerPlaysCard : Claim7 := { stood := { row := timerPlaysRow, standIns := [], harness := (true, "c1caffe220ec56f629d56372b1d9bf2761758ebbe6f89cc8e2551a0368aaec7d"), looks := false }, kinds := [], alts := [], laidByText := true, laidKinds := [.data], laidTests := true, laidLooks := .later }
def TimerPlaysCardSaid : Prop := Claim7.holds Tryd.pinned (.plain (OpenSpec.ofChange timerPlaysSpec)) timerPlaysCard

/-- THE TIED CARD OF 'aqueductlaw03.TimerFulls'. -/
def timerFullsCard : Claim7 := { stood := { row := timerFullsRow, standIns := [], harness := (true, "c1caffe220ec56f629d56372b1d9bf2761758ebbe6f89cc8e2551a0368aaec7d"), looks := false }, kinds := [], alts := [], laidByText := true, laidKinds := [.data], laidTests := true, laidLooks := .later }
def TimerFullsCardSaid : Prop := Claim7.holds Tryd.pinned (.plain (OpenSpec.ofChange timerFullsSpec)) timerFullsCard

/-- THE TIED CARD OF 'aqueductlaw03.TimerNil'. -/
def timerNilCard : Claim7 := { stood := { row := timerNilRow, standIns := [], harness := (true, "c1caffe220ec56f629d56372b1d9bf2761758ebbe6f89cc8e2551a0368aaec7d"), looks := false }, kinds := [], alts := [], laidByText := true, laidKinds := [.data], laidTests := true, laidLooks := .later }
def TimerNilCardSaid : Prop := Claim7.holds Tryd.pinned (.plain (OpenSpec.ofChange timerNilSpec)) timerNilCard

/-- THE TIED CARD OF 'aqueductlaw03.TimerResets'. -/
def timerResetsCard : Claim7 := { stood := { row := timerResetsRow, standIns := [], harness := (true, "c1caffe220ec56f629d56372b1d9bf2761758ebbe6f89cc8e2551a0368aaec7d"), looks := false }, kinds := [], alts := [], laidByText := true, laidKinds := [.data], laidTests := true, laidLooks := .later }
def TimerResetsCardSaid : Prop := Claim7.holds Tryd.pinned (.plain (OpenSpec.ofChange timerResetsSpec)) timerResetsCard

/-- THE TIED CARD OF 'aqueductlaw03.TimerHolds'. -/
def timerHoldsCard : Claim7 := { stood := { row := timerHoldsRow, standIns := [], harness := (true, "c1caffe220ec56f629d56372b1d9bf2761758ebbe6f89cc8e2551a0368aaec7d"), looks := false }, kinds := [], alts := [], laidByText := true, laidKinds := [.data], laidTests := true, laidLooks := .later }
def TimerHoldsCardSaid : Prop := Claim7.holds Tryd.pinned (.plain (OpenSpec.ofChange timerHoldsSpec)) timerHoldsCard

/-- THE SECOND FORM's CARD OF 'aqueductlaw02.HeapIterates'. -/
def heapIteratesUptoCard : Claim7 := { stood := { row := heapIteratesUptoRow, standIns := [], harness := (true, "c1caffe220ec56f629d56372b1d9bf2761758ebbe6f89cc8e2551a0368aaec7d"), looks := false }, kinds := [], alts := [], laidByText := true, laidKinds := [.data], laidTests := true, laidLooks := .later }
def HeapIteratesUptoCardSaid : Prop := Claim7.holds Tryd.pinned (.plain (OpenSpec.upto heapIteratesSpec)) heapIteratesUptoCard

/-- THE SECOND FORM's CARD OF 'aqueductlaw03.TimerPlays'. -/
def timerPlaysUptoCard : Claim7 := { stood := { row := timerPlaysUptoRow, standIns := [], harness := (true, "c1caffe220ec56f629d56372b1d9bf2761758ebbe6f89cc8e2551a0368aaec7d"), looks := false }, kinds := [], alts := [], laidByText := true, laidKinds := [.data], laidTests := true, laidLooks := .later }
def TimerPlaysUptoCardSaid : Prop := Claim7.holds Tryd.pinned (.plain (OpenSpec.upto timerPlaysSpec)) timerPlaysUptoCard

/-- THE SECOND FORM's CARD OF 'aqueductlaw03.TimerFulls'. -/
def timerFullsUptoCard : Claim7 := { stood := { row := timerFullsUptoRow, standIns := [], harness := (true, "c1caffe220ec56f629d56372b1d9bf2761758ebbe6f89cc8e2551a0368aaec7d"), looks := false }, kinds := [], alts := [], laidByText := true, laidKinds := [.data], laidTests := true, laidLooks := .later }
def TimerFullsUptoCardSaid : Prop := Claim7.holds Tryd.pinned (.plain (OpenSpec.upto timerFullsSpec)) timerFullsUptoCard

/-- THE SECOND FORM's CARD OF 'aqueductlaw03.TimerNil'. -/
def timerNilUptoCard : Claim7 := { stood := { row := timerNilUptoRow, standIns := [], harness := (true, "c1caffe220ec56f629d56372b1d9bf2761758ebbe6f89cc8e2551a0368aaec7d"), looks := false }, kinds := [], alts := [], laidByText := true, laidKinds := [.data], laidTests := true, laidLooks := .later }
def TimerNilUptoCardSaid : Prop := Claim7.holds Tryd.pinned (.plain (OpenSpec.upto timerNilSpec)) timerNilUptoCard

/-- THE SECOND FORM's CARD OF 'aqueductlaw03.TimerResets'. -/
def timerResetsUptoCard : Claim7 := { stood := { row := timerResetsUptoRow, standIns := [], harness := (true, "c1caffe220ec56f629d56372b1d9bf2761758ebbe6f89cc8e2551a0368aaec7d"), looks := false }, kinds := [], alts := [], laidByText := true, laidKinds := [.data], laidTests := true, laidLooks := .later }
def TimerResetsUptoCardSaid : Prop := Claim7.holds Tryd.pinned (.plain (OpenSpec.upto timerResetsSpec)) timerResetsUptoCard

/-- THE SECOND FORM's CARD OF 'aqueductlaw03.TimerHolds'. -/
def timerHoldsUptoCard : Claim7 := { stood := { row := timerHoldsUptoRow, standIns := [], harness := (true, "c1caffe220ec56f629d56372b1d9bf2761758ebbe6f89cc8e2551a0368aaec7d"), looks := false }, kinds := [], alts := [], laidByText := true, laidKinds := [.data], laidTests := true, laidLooks := .later }
def TimerHoldsUptoCardSaid : Prop := Claim7.holds Tryd.pinned (.plain (OpenSpec.upto timerHoldsSpec)) timerHoldsUptoCard
end Rows
end Go.Proofs.YtijbhamjccnieaaDoor
