/- slices.Grow of nil and slices.Concat, of N. -/
import Derived.Test.YteimjkmjofaieaaCCatB
namespace Go.Proofs.Yteimjkmjofaieaa
open Go.RowKit Go.Sort
set_option linter.unusedVariables false
set_option linter.unusedSimpArgs false


end Go.Proofs.Yteimjkmjofaieaa
