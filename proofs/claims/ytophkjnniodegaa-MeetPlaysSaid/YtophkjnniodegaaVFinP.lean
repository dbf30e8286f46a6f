/- MeetPlays, as its statement is opened. -/
import Derived.Test.YtophkjnniodegaaVFinB
import Derived.Test.YtophkjnniodegaaVPlays
namespace Go.Proofs.Ytophkjnniodegaa
open Go.RowKit
theorem meetPlays_fin (a : Option Addr) (len cap : Nat) (w : World) (h : IsActs12 w a len cap) : Calls Try.prog 3 #[.slice a len cap] w fun r w' => r = .returned (.bool true) ∧ Below w.heap.size w w' := by
  obtain ⟨l, h1, h2⟩ := acts_src h
  exact meetPlays_walk h1 fun x hx => (h2 x hx).2
end Go.Proofs.Ytophkjnniodegaa
