/-
  DERIVED. GIVEN WITH THE SEED: THE CARDS: each row of YtgkodleblkjhcaaDoorRows.lean that lists a variable, with what it lists TIED to the program's text (the seventh form; the later family's looks); each row that meets fmt, with fmt's text TOLD by the authors' own Lean function (tested against real Go, not proved from fmt's source: count such statements apart). THE CARD IS WHAT COUNTS. Prove the row's statement (the work); the ties are given (YtgkodleblkjhcaaDoorTie.lean); close each card by the builder's one call (the guide's Derived/Test/ToyasCard.lean, 'card_holds'). Laid BY PROGRAM, IN A SANDBOX (cutbox-door.mjs). By AI agents, Wed Nov 11 2026. No macro, syntax, notation, axiom, sorry.
-/
import Derived.Test.YtgkodleblkjhcaaDoorRows
import GoSem.ClaimSeven
namespace Go.Proofs.YtgkodleblkjhcaaDoor
namespace Rows

/-- THE TIED CARD OF 'aqueductlaw10.DeadlineNil'. -/
def deadlineNilCard : Claim7 := { stood := { row := deadlineNilRow, standIns := [], harness := (true, "b5f1043f23f7db3a994debaa9d1203f111a583ba51926cd76e430a0497a429e5"), looks := false }, kinds := [], alts := [], laidByText := true, laidKinds := [.data], laidTests := true, laidLooks := .later }
def DeadlineNilCardSaid : Prop := Claim7.holds Tryd.pinned (.plain (OpenSpec.ofChange deadlineNilSpec)) deadlineNilCard

/-- THE TIED CARD OF 'aqueductlaw10.DeadlineAgain'. -/
def deadlineAgainCard : Claim7 := { stood := { row := deadlineAgainRow, standIns := [], harness := (true, "b5f1043f23f7db3a994debaa9d1203f111a583ba51926cd76e430a0497a429e5"), looks := false }, kinds := [], alts := [], laidByText := true, laidKinds := [.data], laidTests := true, laidLooks := .later }
def DeadlineAgainCardSaid : Prop := Claim7.holds Tryd.pinned (.plain (OpenSpec.ofChange deadlineAgainSpec)) deadlineAgainCard

/-- THE TIED CARD OF 'aqueductlaw10.DeadlineHolds'. -/
def deadlineHoldsCard : Claim7 := { stood := { row := deadlineHoldsRow, standIns := [], harness := (true, "b5f1043f23f7db3a994debaa9d1203f111a583ba51926cd76e430a0497a429e5"), looks := false }, kinds := [], alts := [], laidByText := true, laidKinds := [.data], laidTests := true, laidLooks := .later }
def DeadlineHoldsCardSaid : Prop := Claim7.holds Tryd.pinned (.plain (OpenSpec.ofChange deadlineHoldsSpec)) deadlineHoldsCard

/-- THE SECOND FORM's CARD OF 'aqueductlaw10.DeadlineNil'. -/
def deadlineNilUptoCard : Claim7 := { stood := { row := deadlineNilUptoRow, standIns := [], harness := (true, "b5f1043f23f7db3a994debaa9d1203f111a583ba51926cd76e430a0497a429e5"), looks := false }, kinds := [], alts := [], laidByText := true, laidKinds := [.data], laidTests := true, laidLooks := .later }
def DeadlineNilUptoCardSaid : Prop := Claim7.holds Tryd.pinned (.plain (OpenSpec.upto deadlineNilSpec)) deadlineNilUptoCard

/-- THE SECOND FORM's CARD OF 'aqueductlaw10.DeadlineAgain'. -/
def deadlineAgainUptoCard : Claim7 := { stood := { row := deadlineAgainUptoRow, standIns := [], harness := (true, "b5f1043f23f7db3a994debaa9d1203f111a583ba51926cd76e430a0497a429e5"), looks := false }, kinds := [], alts := [], laidByText := true, laidKinds := [.data], laidTests := true, laidLooks := .later }
def DeadlineAgainUptoCardSaid : Prop := Claim7.holds Tryd.pinned (.plain (OpenSpec.upto deadlineAgainSpec)) deadlineAgainUptoCard

/-- THE SECOND FORM's CARD OF 'aqueductlaw10.DeadlineHolds'. -/
def deadlineHoldsUptoCard : Claim7 := { stood := { row := deadlineHoldsUptoRow, standIns := [], harness := (true, "b5f1043f23f7db3a994debaa9d1203f111a583ba51926cd76e430a0497a429e5"), looks := false }, kinds := [], alts := [], laidByText := true, laidKinds := [.data], laidTests := true, laidLooks := .later }
def DeadlineHoldsUptoCardSaid : Prop := Claim7.holds Tryd.pinned (.plain (OpenSpec.upto deadlineHoldsSpec)) deadlineHoldsUptoCard
end Rows
end Go.Proofs.YtgkodleblkjhcaaDoor
