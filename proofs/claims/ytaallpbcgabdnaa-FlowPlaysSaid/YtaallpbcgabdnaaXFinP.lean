/- FlowPlays, as its statement is opened. -/
import Derived.Test.YtaallpbcgabdnaaXFinB
import Derived.Test.YtaallpbcgabdnaaXPlays
namespace Go.Proofs.Ytaallpbcgabdnaa
open Go.RowKit
theorem flowPlays_fin (c : Int) (a : Option Addr) (len cap : Nat) (w : World) (_ : (Lit.int .i64 c).wf = true) (h : IsActs13 w a len cap) : Calls Try.prog 3 #[.int .i64 c, .slice a len cap] w fun r w' => r = .returned (.bool true) ∧ Below w.heap.size w w' := by
  obtain ⟨l, h1, h2⟩ := acts_src h
  exact flowPlays_walk c h1 fun x hx => (h2 x hx).2
end Go.Proofs.Ytaallpbcgabdnaa
