/- slices.Grow of nil and slices.Concat, of N. -/
import Derived.Test.YtaallpbcgabdnaaCCatB
namespace Go.Proofs.Ytaallpbcgabdnaa
open Go.RowKit Go.Sort
set_option linter.unusedVariables false
set_option linter.unusedSimpArgs false


end Go.Proofs.Ytaallpbcgabdnaa
