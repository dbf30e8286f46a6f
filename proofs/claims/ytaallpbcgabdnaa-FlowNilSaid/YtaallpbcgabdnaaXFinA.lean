/- FlowNil and FlowDrains, as their statements are opened. -/
import Derived.Test.YtaallpbcgabdnaaXEnds
import Derived.Test.YtaallpbcgabdnaaXNil
import Derived.Test.YtaallpbcgabdnaaXDr
namespace Go.Proofs.Ytaallpbcgabdnaa
open Go.RowKit
theorem flowNil_fin (n e : Int) (w : World) (h1 : (Lit.int .i64 n).wf = true) (h2 : (Lit.int .i64 e).wf = true) : Calls Try.prog 6 #[.int .i64 n, .int .i64 e] w fun r w' => r = .returned (.bool true) ∧ Below w.heap.size w w' :=
  flowNil_walk w n e (i64_of h1) (i64_of h2)
theorem flowDrains_fin (c : Int) (s : ByteArray) (p e : Int) (w : World) (_ : (Lit.int .i64 c).wf = true) (_ : s.size ≤ maxLen) (_ : (Lit.int .i64 p).wf = true) (h1 : (Lit.int .i64 e).wf = true) :
    Calls Try.prog 5 #[.int .i64 c, .string s, .int .i64 p, .int .i64 e] w fun r w' => r = .returned (.bool true) ∧ Below w.heap.size w w' :=
  flowDrains_walk w c s p e (i64_of h1)
end Go.Proofs.Ytaallpbcgabdnaa
