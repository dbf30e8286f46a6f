/- What the ends of the proofs share: the program's own switch, and bytes that came in. -/
import Derived.Test.YtilafgemgdjfhaaChecked
import Derived.Test.YtilafgemgdjfhaaRows
import Derived.Test.YtilafgemgdjfhaaBLaw
import Derived.Test.YtilafgemgdjfhaaBEmpty
import Derived.ChangeSame
import Derived.ProofKit
import Derived.OpenShut
import Derived.ChangeOld
import Derived.Below
namespace Go.Proofs.Ytilafgemgdjfhaa
open Go.RowKit
set_option linter.unusedVariables false
theorem laidOut : laidOutB Try.prog = true := by kernel_rfl
theorem own : ownKnob Try.prog.godebug = none := by kernel_rfl
end Go.Proofs.Ytilafgemgdjfhaa
