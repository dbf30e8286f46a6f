/-
  DERIVED. GIVEN WITH THE SEED: THE CARDS: each row of YtcjeckjmoponkaaGreatDoorRows.lean that lists a variable, with what it lists TIED to the program's text (the seventh form; the later family's looks); each row that meets fmt, with fmt's text TOLD by the authors' own Lean function (tested against real Go, not proved from fmt's source: count such statements apart). THE CARD IS WHAT COUNTS. Prove the row's statement (the work); the ties are given (YtcjeckjmoponkaaGreatDoorTie.lean); close each card by the builder's one call (the guide's Derived/Test/ToyasCard.lean, 'card_holds'). Laid BY PROGRAM, IN A SANDBOX (cutbox-door.mjs). By AI agents, Wed Nov 11 2026. No macro, syntax, notation, axiom, sorry.
-/
import Derived.Test.YtcjeckjmoponkaaGreatDoorRows
import GoSem.ClaimSeven
namespace Go.Proofs.YtcjeckjmoponkaaGreatDoor
namespace Rows

/-- THE TIED CARD OF 'aqueductlaw11.PollerPlays'. -/
def pollerPlaysCard : Claim7 := { stood := { row := pollerPlaysRow, standIns := [], harness := (true, "045737cdfbeee6dacf3606ee5ded0eb2a8bc3376bdf6f4274bb6a780c72cc4a2"), looks := true }, kinds := [], alts := [], laidByText := true, laidKinds := [.data, .data], laidTests := true, laidLooks := .later }
def PollerPlaysCardSaid : Prop := Claim7.holds Tryz.pinned (.plain (OpenSpec.ofChange pollerPlaysSpec)) pollerPlaysCard

/-- THE TIED CARD OF 'aqueductlaw11.PollerFulls'. -/
def pollerFullsCard : Claim7 := { stood := { row := pollerFullsRow, standIns := [], harness := (true, "045737cdfbeee6dacf3606ee5ded0eb2a8bc3376bdf6f4274bb6a780c72cc4a2"), looks := true }, kinds := [], alts := [], laidByText := true, laidKinds := [.data, .data], laidTests := true, laidLooks := .later }
def PollerFullsCardSaid : Prop := Claim7.holds Tryz.pinned (.plain (OpenSpec.ofChange pollerFullsSpec)) pollerFullsCard

/-- THE TIED CARD OF 'aqueductlaw11.PollerNil'. -/
def pollerNilCard : Claim7 := { stood := { row := pollerNilRow, standIns := [], harness := (true, "045737cdfbeee6dacf3606ee5ded0eb2a8bc3376bdf6f4274bb6a780c72cc4a2"), looks := true }, kinds := [], alts := [], laidByText := true, laidKinds := [.data, .data], laidTests := true, laidLooks := .later }
def PollerNilCardSaid : Prop := Claim7.holds Tryz.pinned (.plain (OpenSpec.ofChange pollerNilSpec)) pollerNilCard

/-- THE TIED CARD OF 'aqueductlaw11.PollerWakes'. -/
def pollerWakesCard : Claim7 := { stood := { row := pollerWakesRow, standIns := [], harness := (true, "045737cdfbeee6dacf3606ee5ded0eb2a8bc3376bdf6f4274bb6a780c72cc4a2"), looks := true }, kinds := [], alts := [], laidByText := true, laidKinds := [.data, .data], laidTests := true, laidLooks := .later }
def PollerWakesCardSaid : Prop := Claim7.holds Tryz.pinned (.plain (OpenSpec.ofChange pollerWakesSpec)) pollerWakesCard

/-- THE TIED CARD OF 'aqueductlaw11.PollerHolds'. -/
def pollerHoldsCard : Claim7 := { stood := { row := pollerHoldsRow, standIns := [], harness := (true, "045737cdfbeee6dacf3606ee5ded0eb2a8bc3376bdf6f4274bb6a780c72cc4a2"), looks := true }, kinds := [], alts := [], laidByText := true, laidKinds := [.data, .data], laidTests := true, laidLooks := .later }
def PollerHoldsCardSaid : Prop := Claim7.holds Tryz.pinned (.plain (OpenSpec.ofChange pollerHoldsSpec)) pollerHoldsCard

/-- THE SECOND FORM's CARD OF 'aqueductlaw11.PollerPlays'. -/
def pollerPlaysUptoCard : Claim7 := { stood := { row := pollerPlaysUptoRow, standIns := [], harness := (true, "045737cdfbeee6dacf3606ee5ded0eb2a8bc3376bdf6f4274bb6a780c72cc4a2"), looks := true }, kinds := [], alts := [], laidByText := true, laidKinds := [.data, .data], laidTests := true, laidLooks := .later }
def PollerPlaysUptoCardSaid : Prop := Claim7.holds Tryz.pinned (.plain (OpenSpec.upto pollerPlaysSpec)) pollerPlaysUptoCard

/-- THE SECOND FORM's CARD OF 'aqueductlaw11.PollerFulls'. -/
def pollerFullsUptoCard : Claim7 := { stood := { row := pollerFullsUptoRow, standIns := [], harness := (true, "045737cdfbeee6dacf3606ee5ded0eb2a8bc3376bdf6f4274bb6a780c72cc4a2"), looks := true }, kinds := [], alts := [], laidByText := true, laidKinds := [.data, .data], laidTests := true, laidLooks := .later }
def PollerFullsUptoCardSaid : Prop := Claim7.holds Tryz.pinned (.plain (OpenSpec.upto pollerFullsSpec)) pollerFullsUptoCard

/-- THE SECOND FORM's CARD OF 'aqueductlaw11.PollerNil'. -/
def pollerNilUptoCard : Claim7 := { stood := { row := pollerNilUptoRow, standIns := [], harness := (true, "045737cdfbeee6dacf3606ee5ded0eb2a8bc3376bdf6f4274bb6a780c72cc4a2"), looks := true }, kinds := [], alts := [], laidByText := true, laidKinds := [.data, .data], laidTests := true, laidLooks := .later }
def PollerNilUptoCardSaid : Prop := Claim7.holds Tryz.pinned (.plain (OpenSpec.upto pollerNilSpec)) pollerNilUptoCard

/-- THE SECOND FORM's CARD OF 'aqueductlaw11.PollerWakes'. -/
def pollerWakesUptoCard : Claim7 := { stood := { row := pollerWakesUptoRow, standIns := [], harness := (true, "045737cdfbeee6dacf3606ee5ded0eb2a8bc3376bdf6f4274bb6a780c72cc4a2"), looks := true }, kinds := [], alts := [], laidByText := true, laidKinds := [.data, .data], laidTests := true, laidLooks := .later }
def PollerWakesUptoCardSaid : Prop := Claim7.holds Tryz.pinned (.plain (OpenSpec.upto pollerWakesSpec)) pollerWakesUptoCard

/-- THE SECOND FORM's CARD OF 'aqueductlaw11.PollerHolds'. -/
def pollerHoldsUptoCard : Claim7 := { stood := { row := pollerHoldsUptoRow, standIns := [], harness := (true, "045737cdfbeee6dacf3606ee5ded0eb2a8bc3376bdf6f4274bb6a780c72cc4a2"), looks := true }, kinds := [], alts := [], laidByText := true, laidKinds := [.data, .data], laidTests := true, laidLooks := .later }
def PollerHoldsUptoCardSaid : Prop := Claim7.holds Tryz.pinned (.plain (OpenSpec.upto pollerHoldsSpec)) pollerHoldsUptoCard
end Rows
end Go.Proofs.YtcjeckjmoponkaaGreatDoor
