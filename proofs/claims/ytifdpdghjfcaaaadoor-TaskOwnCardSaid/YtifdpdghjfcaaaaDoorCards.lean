/-
  DERIVED. GIVEN WITH THE SEED: THE CARDS: each row of YtifdpdghjfcaaaaDoorRows.lean that lists a variable, with what it lists TIED to the program's text (the seventh form; the later family's looks); each row that meets fmt, with fmt's text TOLD by the authors' own Lean function (tested against real Go, not proved from fmt's source: count such statements apart). THE CARD IS WHAT COUNTS. Prove the row's statement (the work); the ties are given (YtifdpdghjfcaaaaDoorTie.lean); close each card by the builder's one call (the guide's Derived/Test/ToyasCard.lean, 'card_holds'). Laid BY PROGRAM, IN A SANDBOX (cutbox-door.mjs). By AI agents, Wed Nov 11 2026. No macro, syntax, notation, axiom, sorry.
-/
import Derived.Test.YtifdpdghjfcaaaaDoorRows
import GoSem.ClaimSeven
namespace Go.Proofs.YtifdpdghjfcaaaaDoor
namespace Rows

/-- THE TIED CARD OF 'aqueductlaw08.TaskPlays'. -/
def taskPlaysCard : Claim7 := { stood := { row := taskPlaysRow, standIns := [], harness := (true, "29d93202cf4a9786dfe0462832b276df77916ce0cdd18edc3aa19d985a366696"), looks := true }, kinds := [], alts := [], laidByText := true, laidKinds := [.data], laidTests := true, laidLooks := .later }
def TaskPlaysCardSaid : Prop := Claim7.holds Tryd.pinned (.plain (OpenSpec.ofChange taskPlaysSpec)) taskPlaysCard

/-- THE TIED CARD OF 'aqueductlaw08.TaskOwn'. -/
def taskOwnCard : Claim7 := { stood := { row := taskOwnRow, standIns := [], harness := (true, "29d93202cf4a9786dfe0462832b276df77916ce0cdd18edc3aa19d985a366696"), looks := true }, kinds := [], alts := [], laidByText := true, laidKinds := [.data], laidTests := true, laidLooks := .later }
def TaskOwnCardSaid : Prop := Claim7.holds Tryd.pinned (.plain (OpenSpec.ofChange taskOwnSpec)) taskOwnCard

/-- THE TIED CARD OF 'aqueductlaw08.TaskNil'. -/
def taskNilCard : Claim7 := { stood := { row := taskNilRow, standIns := [], harness := (true, "29d93202cf4a9786dfe0462832b276df77916ce0cdd18edc3aa19d985a366696"), looks := true }, kinds := [], alts := [], laidByText := true, laidKinds := [.data], laidTests := true, laidLooks := .later }
def TaskNilCardSaid : Prop := Claim7.holds Tryd.pinned (.plain (OpenSpec.ofChange taskNilSpec)) taskNilCard

/-- THE TIED CARD OF 'aqueductlaw08.TaskRounds'. -/
def taskRoundsCard : Claim7 := { stood := { row := taskRoundsRow, standIns := [], harness := (true, "29d93202cf4a9786dfe0462832b276df77916ce0cdd18edc3aa19d985a366696"), looks := true }, kinds := [], alts := [], laidByText := true, laidKinds := [.data], laidTests := true, laidLooks := .later }
def TaskRoundsCardSaid : Prop := Claim7.holds Tryd.pinned (.plain (OpenSpec.ofChange taskRoundsSpec)) taskRoundsCard

/-- THE TIED CARD OF 'aqueductlaw08.TaskHolds'. -/
def taskHoldsCard : Claim7 := { stood := { row := taskHoldsRow, standIns := [], harness := (true, "29d93202cf4a9786dfe0462832b276df77916ce0cdd18edc3aa19d985a366696"), looks := true }, kinds := [], alts := [], laidByText := true, laidKinds := [.data], laidTests := true, laidLooks := .later }
def TaskHoldsCardSaid : Prop := Claim7.holds Tryd.pinned (.plain (OpenSpec.ofChange taskHoldsSpec)) taskHoldsCard

/-- THE SECOND FORM's CARD OF 'aqueductlaw08.TaskPlays'. -/
def taskPlaysUptoCard : Claim7 := { stood := { row := taskPlaysUptoRow, standIns := [], harness := (true, "29d93202cf4a9786dfe0462832b276df77916ce0cdd18edc3aa19d985a366696"), looks := true }, kinds := [], alts := [], laidByText := true, laidKinds := [.data], laidTests := true, laidLooks := .later }
def TaskPlaysUptoCardSaid : Prop := Claim7.holds Tryd.pinned (.plain (OpenSpec.upto taskPlaysSpec)) taskPlaysUptoCard

/-- THE SECOND FORM's CARD OF 'aqueductlaw08.TaskOwn'. -/
def taskOwnUptoCard : Claim7 := { stood := { row := taskOwnUptoRow, standIns := [], harness := (true, "29d93202cf4a9786dfe0462832b276df77916ce0cdd18edc3aa19d985a366696"), looks := true }, kinds := [], alts := [], laidByText := true, laidKinds := [.data], laidTests := true, laidLooks := .later }
def TaskOwnUptoCardSaid : Prop := Claim7.holds Tryd.pinned (.plain (OpenSpec.upto taskOwnSpec)) taskOwnUptoCard

/-- THE SECOND FORM's CARD OF 'aqueductlaw08.TaskNil'. -/
def taskNilUptoCard : Claim7 := { stood := { row := taskNilUptoRow, standIns := [], harness := (true, "29d93202cf4a9786dfe0462832b276df77916ce0cdd18edc3aa19d985a366696"), looks := true }, kinds := [], alts := [], laidByText := true, laidKinds := [.data], laidTests := true, laidLooks := .later }
def TaskNilUptoCardSaid : Prop := Claim7.holds Tryd.pinned (.plain (OpenSpec.upto taskNilSpec)) taskNilUptoCard

/-- THE SECOND FORM's CARD OF 'aqueductlaw08.TaskRounds'. -/
def taskRoundsUptoCard : Claim7 := { stood := { row := taskRoundsUptoRow, standIns := [], harness := (true, "29d93202cf4a9786dfe0462832b276df77916ce0cdd18edc3aa19d985a366696"), looks := true }, kinds := [], alts := [], laidByText := true, laidKinds := [.data], laidTests := true, laidLooks := .later }
def TaskRoundsUptoCardSaid : Prop := Claim7.holds Tryd.pinned (.plain (OpenSpec.upto taskRoundsSpec)) taskRoundsUptoCard

/-- THE SECOND FORM's CARD OF 'aqueductlaw08.TaskHolds'. -/
def taskHoldsUptoCard : Claim7 := { stood := { row := taskHoldsUptoRow, standIns := [], harness := (true, "29d93202cf4a9786dfe0462832b276df77916ce0cdd18edc3aa19d985a366696"), looks := true }, kinds := [], alts := [], laidByText := true, laidKinds := [.data], laidTests := true, laidLooks := .later }
def TaskHoldsUptoCardSaid : Prop := Claim7.holds Tryd.pinned (.plain (OpenSpec.upto taskHoldsSpec)) taskHoldsUptoCard
end Rows
end Go.Proofs.YtifdpdghjfcaaaaDoor
