/- Tasks parked by a function, and woken: of park's PQPure what names no program. -/
import Derived.Test.YtcjeckjmoponkaaGreatDoorUPure
namespace Go.Proofs.YtcjeckjmoponkaaGreatDoor
open Go.RowKit Go.Sort
set_option linter.unusedVariables false
set_option linter.unusedSimpArgs false
def qs (f : Nat → Sp) (s : Sp) (i : Nat) : List Nat := (List.range i).filter fun j => decide (f j = s)
section
variable {f : Nat → Sp} {c i : Nat} {s : Sp}
end
section
variable {f : Nat → Sp} {c : Nat} {one two : Sp}
end
end Go.Proofs.YtcjeckjmoponkaaGreatDoor
