/- StreamNone, as its statement is opened. -/
import Derived.Test.YteimjkmjofaieaaCEnd
import Derived.Test.YteimjkmjofaieaaYNone
namespace Go.Proofs.Yteimjkmjofaieaa
open Go.RowKit
theorem streamNone_fin (n : Int) (w : World) (_ : (Lit.int .i64 n).wf = true) : Calls Try.prog 5 #[.int .i64 n] w fun r w' => r = .returned (.bool true) ∧ Below w.heap.size w w' := streamNone_walk w n
end Go.Proofs.Yteimjkmjofaieaa
