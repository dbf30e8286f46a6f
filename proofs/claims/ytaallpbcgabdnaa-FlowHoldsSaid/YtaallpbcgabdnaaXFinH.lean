/- FlowHolds, as its statement is opened. -/
import Derived.Test.YtaallpbcgabdnaaXFinB
import Derived.Test.YtaallpbcgabdnaaXHolds
namespace Go.Proofs.Ytaallpbcgabdnaa
open Go.RowKit
theorem flowHolds_fin (c : Int) (a : Option Addr) (len cap : Nat) (w : World) (_ : (Lit.int .i64 c).wf = true) (h : IsActs13 w a len cap) : Calls Try.prog 7 #[.int .i64 c, .slice a len cap] w fun r w' => r = .returned (.bool true) ∧ Below w.heap.size w w' := by
  obtain ⟨l, h1, h2⟩ := acts_src h
  exact flowHolds_walk c h1 h2
end Go.Proofs.Ytaallpbcgabdnaa
