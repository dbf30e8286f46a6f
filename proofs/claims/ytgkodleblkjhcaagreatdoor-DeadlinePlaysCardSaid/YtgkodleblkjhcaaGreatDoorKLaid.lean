/- KLaid: LLaid, merged. -/
import Derived.Test.YtgkodleblkjhcaaGreatDoorCards
import Derived.Test.YtgkodleblkjhcaaGreatDoorTie
import Derived.Test.YtgkodleblkjhcaaGreatDoorKHeapA
import Derived.ProofKit
import Derived.OpenShut
import Derived.ChangeOld
import Derived.Below
import Derived.Deep.DeepHandedRow
import Derived.Deep.DeepWitnessRowRef
import Derived.Lib.LaidTab
/- What the rows' list of variables gives a walk, and a world that meets the list. -/
namespace Go.Proofs.YtgkodleblkjhcaaGreatDoor
open Go.ChangeShapes Go.WideShapes Go.ChangeAt Go.RowKit

theorem own : ownKnob Tryz.prog.godebug = none := by kernel_rfl
theorem laidOut : laidOutB Tryz.prog = true := by kernel_rfl
theorem gTab_at : Tryz.prog.globalNamed "math/bits.deBruijn64tab" = some 0 := by kernel_rfl

def dB64 : List Int := Lib.deBruijn64tab.map Int.ofNat

/-- What the rows' list gives. -/
theorem tab_of {W : World} (h : laidMetH Tryz.prog Rows.deadlinePlaysRow.laid W) : Tab W := by
  have h' : laidMet Tryz.prog Rows.deadlinePlaysRow.laid W := h
  have ht : Lib.TabIs Tryz.prog W "math/bits.deBruijn64tab" .u8 dB64 := Lib.tabIs_of_head (zs := dB64) (t := 191) (e := 5) (n := 64) gTab_at (by kernel_rfl) Tryz.underlying191 Tryz.underlying5 (by kernel_rfl) (by kernel_rfl) h'
  intro j hj
  have hc := ht.cell gTab_at j (by simpa [dB64, Lib.deBruijn64tab] using hj)
  rw [hc]
  simp only [dB64, List.getD_eq_getElem?_getD, List.getElem?_map]
  cases h : Lib.deBruijn64tab[j]? <;> simp

noncomputable def laidWorld (os : Os) : World :=
  let w0 := World.holding Tryz.prog os ⟨#[], #[], []⟩
  { w0 with heap := w0.heap.modify 0 fun
    | .cells _ t frozen => .cells (dB64.map fun z => Value.int .u8 z).toArray t frozen
    | o => o }

set_option maxRecDepth 1000000 in
theorem laid_met (os : Os) (args : Array Value) : laidMet Tryz.prog Rows.deadlinePlaysRow.laid ((laidWorld os).forCall (fun _ _ => 0) ⟨#[], args, []⟩).memory :=
  laidMet_of_run' 8 (by kernel_rfl) (by kernel_rfl)
end Go.Proofs.YtgkodleblkjhcaaGreatDoor
