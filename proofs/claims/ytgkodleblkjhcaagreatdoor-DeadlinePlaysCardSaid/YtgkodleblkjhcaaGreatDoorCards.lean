/-
  DERIVED. GIVEN WITH THE SEED: THE CARDS: each row of YtgkodleblkjhcaaGreatDoorRows.lean that lists a variable, with what it lists TIED to the program's text (the seventh form; the later family's looks); each row that meets fmt, with fmt's text TOLD by the authors' own Lean function (tested against real Go, not proved from fmt's source: count such statements apart). THE CARD IS WHAT COUNTS. Prove the row's statement (the work); the ties are given (YtgkodleblkjhcaaGreatDoorTie.lean); close each card by the builder's one call (the guide's Derived/Test/ToyasCard.lean, 'card_holds'). Laid BY PROGRAM, IN A SANDBOX (cutbox-door.mjs). By AI agents, Wed Nov 11 2026. No macro, syntax, notation, axiom, sorry.
-/
import Derived.Test.YtgkodleblkjhcaaGreatDoorRows
import GoSem.ClaimSeven
namespace Go.Proofs.YtgkodleblkjhcaaGreatDoor
namespace Rows

/-- THE TIED CARD OF 'aqueductlaw10.DeadlinePlays'. -/
def deadlinePlaysCard : Claim7 := { stood := { row := deadlinePlaysRow, standIns := [], harness := (true, "d2232af457c6158bd452eb488613420bedaae3267036597e5d6faa3316e4214a"), looks := false }, kinds := [], alts := [], laidByText := true, laidKinds := [.data], laidTests := true, laidLooks := .later }
def DeadlinePlaysCardSaid : Prop := Claim7.holds Tryz.pinned (.plain (OpenSpec.ofChange deadlinePlaysSpec)) deadlinePlaysCard

/-- THE TIED CARD OF 'aqueductlaw10.DeadlineAll'. -/
def deadlineAllCard : Claim7 := { stood := { row := deadlineAllRow, standIns := [], harness := (true, "d2232af457c6158bd452eb488613420bedaae3267036597e5d6faa3316e4214a"), looks := false }, kinds := [], alts := [], laidByText := true, laidKinds := [.data], laidTests := true, laidLooks := .later }
def DeadlineAllCardSaid : Prop := Claim7.holds Tryz.pinned (.plain (OpenSpec.ofChange deadlineAllSpec)) deadlineAllCard

/-- THE SECOND FORM's CARD OF 'aqueductlaw10.DeadlinePlays'. -/
def deadlinePlaysUptoCard : Claim7 := { stood := { row := deadlinePlaysUptoRow, standIns := [], harness := (true, "d2232af457c6158bd452eb488613420bedaae3267036597e5d6faa3316e4214a"), looks := false }, kinds := [], alts := [], laidByText := true, laidKinds := [.data], laidTests := true, laidLooks := .later }
def DeadlinePlaysUptoCardSaid : Prop := Claim7.holds Tryz.pinned (.plain (OpenSpec.upto deadlinePlaysSpec)) deadlinePlaysUptoCard

/-- THE SECOND FORM's CARD OF 'aqueductlaw10.DeadlineAll'. -/
def deadlineAllUptoCard : Claim7 := { stood := { row := deadlineAllUptoRow, standIns := [], harness := (true, "d2232af457c6158bd452eb488613420bedaae3267036597e5d6faa3316e4214a"), looks := false }, kinds := [], alts := [], laidByText := true, laidKinds := [.data], laidTests := true, laidLooks := .later }
def DeadlineAllUptoCardSaid : Prop := Claim7.holds Tryz.pinned (.plain (OpenSpec.upto deadlineAllSpec)) deadlineAllUptoCard
end Rows
end Go.Proofs.YtgkodleblkjhcaaGreatDoor
