/-
  DERIVED. GIVEN WITH THE SEED: THE CARDS: each row of YtcdimopiaanfbaaDoorRows.lean that lists a variable, with what it lists TIED to the program's text (the seventh form; the later family's looks); each row that meets fmt, with fmt's text TOLD by the authors' own Lean function (tested against real Go, not proved from fmt's source: count such statements apart). THE CARD IS WHAT COUNTS. Prove the row's statement (the work); the ties are given (YtcdimopiaanfbaaDoorTie.lean); close each card by the builder's one call (the guide's Derived/Test/ToyasCard.lean, 'card_holds'). Laid BY PROGRAM, IN A SANDBOX (cutbox-door.mjs). By AI agents, Wed Nov 11 2026. No macro, syntax, notation, axiom, sorry.
-/
import Derived.Test.YtcdimopiaanfbaaDoorRows
import GoSem.ClaimSeven
namespace Go.Proofs.YtcdimopiaanfbaaDoor
namespace Rows

/-- THE TIED CARD OF 'aqueductlaw09.ParkPlays'. -/
def parkPlaysCard : Claim7 := { stood := { row := parkPlaysRow, standIns := [], harness := (true, "0828a66949b5b15a6f724232fffbf24f74f5f7d21e817cb824a9a8f6bd65871b"), looks := true }, kinds := [], alts := [], laidByText := true, laidKinds := [.data], laidTests := true, laidLooks := .later }
def ParkPlaysCardSaid : Prop := Claim7.holds Tryd.pinned (.plain (OpenSpec.ofChange parkPlaysSpec)) parkPlaysCard

/-- THE TIED CARD OF 'aqueductlaw09.ParkOwn'. -/
def parkOwnCard : Claim7 := { stood := { row := parkOwnRow, standIns := [], harness := (true, "0828a66949b5b15a6f724232fffbf24f74f5f7d21e817cb824a9a8f6bd65871b"), looks := true }, kinds := [], alts := [], laidByText := true, laidKinds := [.data], laidTests := true, laidLooks := .later }
def ParkOwnCardSaid : Prop := Claim7.holds Tryd.pinned (.plain (OpenSpec.ofChange parkOwnSpec)) parkOwnCard

/-- THE TIED CARD OF 'aqueductlaw09.ParkNil'. -/
def parkNilCard : Claim7 := { stood := { row := parkNilRow, standIns := [], harness := (true, "0828a66949b5b15a6f724232fffbf24f74f5f7d21e817cb824a9a8f6bd65871b"), looks := true }, kinds := [], alts := [], laidByText := true, laidKinds := [.data], laidTests := true, laidLooks := .later }
def ParkNilCardSaid : Prop := Claim7.holds Tryd.pinned (.plain (OpenSpec.ofChange parkNilSpec)) parkNilCard

/-- THE TIED CARD OF 'aqueductlaw09.ParkQueues'. -/
def parkQueuesCard : Claim7 := { stood := { row := parkQueuesRow, standIns := [], harness := (true, "0828a66949b5b15a6f724232fffbf24f74f5f7d21e817cb824a9a8f6bd65871b"), looks := true }, kinds := [], alts := [], laidByText := true, laidKinds := [.data], laidTests := true, laidLooks := .later }
def ParkQueuesCardSaid : Prop := Claim7.holds Tryd.pinned (.plain (OpenSpec.ofChange parkQueuesSpec)) parkQueuesCard

/-- THE TIED CARD OF 'aqueductlaw09.ParkHolds'. -/
def parkHoldsCard : Claim7 := { stood := { row := parkHoldsRow, standIns := [], harness := (true, "0828a66949b5b15a6f724232fffbf24f74f5f7d21e817cb824a9a8f6bd65871b"), looks := true }, kinds := [], alts := [], laidByText := true, laidKinds := [.data], laidTests := true, laidLooks := .later }
def ParkHoldsCardSaid : Prop := Claim7.holds Tryd.pinned (.plain (OpenSpec.ofChange parkHoldsSpec)) parkHoldsCard

/-- THE SECOND FORM's CARD OF 'aqueductlaw09.ParkPlays'. -/
def parkPlaysUptoCard : Claim7 := { stood := { row := parkPlaysUptoRow, standIns := [], harness := (true, "0828a66949b5b15a6f724232fffbf24f74f5f7d21e817cb824a9a8f6bd65871b"), looks := true }, kinds := [], alts := [], laidByText := true, laidKinds := [.data], laidTests := true, laidLooks := .later }
def ParkPlaysUptoCardSaid : Prop := Claim7.holds Tryd.pinned (.plain (OpenSpec.upto parkPlaysSpec)) parkPlaysUptoCard

/-- THE SECOND FORM's CARD OF 'aqueductlaw09.ParkOwn'. -/
def parkOwnUptoCard : Claim7 := { stood := { row := parkOwnUptoRow, standIns := [], harness := (true, "0828a66949b5b15a6f724232fffbf24f74f5f7d21e817cb824a9a8f6bd65871b"), looks := true }, kinds := [], alts := [], laidByText := true, laidKinds := [.data], laidTests := true, laidLooks := .later }
def ParkOwnUptoCardSaid : Prop := Claim7.holds Tryd.pinned (.plain (OpenSpec.upto parkOwnSpec)) parkOwnUptoCard

/-- THE SECOND FORM's CARD OF 'aqueductlaw09.ParkNil'. -/
def parkNilUptoCard : Claim7 := { stood := { row := parkNilUptoRow, standIns := [], harness := (true, "0828a66949b5b15a6f724232fffbf24f74f5f7d21e817cb824a9a8f6bd65871b"), looks := true }, kinds := [], alts := [], laidByText := true, laidKinds := [.data], laidTests := true, laidLooks := .later }
def ParkNilUptoCardSaid : Prop := Claim7.holds Tryd.pinned (.plain (OpenSpec.upto parkNilSpec)) parkNilUptoCard

/-- THE SECOND FORM's CARD OF 'aqueductlaw09.ParkQueues'. -/
def parkQueuesUptoCard : Claim7 := { stood := { row := parkQueuesUptoRow, standIns := [], harness := (true, "0828a66949b5b15a6f724232fffbf24f74f5f7d21e817cb824a9a8f6bd65871b"), looks := true }, kinds := [], alts := [], laidByText := true, laidKinds := [.data], laidTests := true, laidLooks := .later }
def ParkQueuesUptoCardSaid : Prop := Claim7.holds Tryd.pinned (.plain (OpenSpec.upto parkQueuesSpec)) parkQueuesUptoCard

/-- THE SECOND FORM's CARD OF 'aqueductlaw09.ParkHolds'. -/
def parkHoldsUptoCard : Claim7 := { stood := { row := parkHoldsUptoRow, standIns := [], harness := (true, "0828a66949b5b15a6f724232fffbf24f74f5f7d21e817cb824a9a8f6bd65871b"), looks := true }, kinds := [], alts := [], laidByText := true, laidKinds := [.data], laidTests := true, laidLooks := .later }
def ParkHoldsUptoCardSaid : Prop := Claim7.holds Tryd.pinned (.plain (OpenSpec.upto parkHoldsSpec)) parkHoldsUptoCard
end Rows
end Go.Proofs.YtcdimopiaanfbaaDoor
