/- FlowSplits, as its statement is opened. -/
import Derived.Test.YtaallpbcgabdnaaXFinB
import Derived.Test.YtaallpbcgabdnaaXSpl
namespace Go.Proofs.Ytaallpbcgabdnaa
open Go.RowKit
theorem flowSplits_fin (c : Int) (a : Option Addr) (len cap : Nat) (w : World) (_ : (Lit.int .i64 c).wf = true) (h : StrsIn w a len cap) :
    Calls Try.prog 4 #[.int .i64 c, .slice a len cap] w fun r w' => r = .returned (.bool true) ∧ Below w.heap.size w w' := by
  obtain ⟨Ps, _, h1⟩ := h
  exact flowSplits_walk c h1
end Go.Proofs.Ytaallpbcgabdnaa
