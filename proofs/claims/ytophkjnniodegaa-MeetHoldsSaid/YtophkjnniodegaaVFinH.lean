/- MeetHolds, as its statement is opened. -/
import Derived.Test.YtophkjnniodegaaVFinB
import Derived.Test.YtophkjnniodegaaVHolds
namespace Go.Proofs.Ytophkjnniodegaa
open Go.RowKit
theorem meetHolds_fin (a : Option Addr) (len cap : Nat) (w : World) (h : IsActs12 w a len cap) : Calls Try.prog 7 #[.slice a len cap] w fun r w' => r = .returned (.bool true) ∧ Below w.heap.size w w' := by
  obtain ⟨l, h1, h2⟩ := acts_src h
  exact meetHolds_walk h1 h2
end Go.Proofs.Ytophkjnniodegaa
