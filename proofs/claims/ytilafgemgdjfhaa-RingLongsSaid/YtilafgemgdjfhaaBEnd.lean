/- What the ends of the proofs share: the program's own switch, and bytes that came in. -/
import Derived.Test.YtilafgemgdjfhaaChecked
import Derived.Test.YtilafgemgdjfhaaRows
import Derived.Test.YtilafgemgdjfhaaBLaw
import Derived.ChangeSame
namespace Go.Proofs.Ytilafgemgdjfhaa
open Go.RowKit
set_option linter.unusedVariables false
theorem own : ownKnob Try.prog.godebug = none := by kernel_rfl
end Go.Proofs.Ytilafgemgdjfhaa
