/- MeetSplits, as its statement is opened. -/
import Derived.Test.YtophkjnniodegaaVFinB
import Derived.Test.YtophkjnniodegaaVSpl
namespace Go.Proofs.Ytophkjnniodegaa
open Go.RowKit
theorem meetSplits_fin (a : Option Addr) (len cap : Nat) (b : Option Addr) (len2 cap2 : Nat) (w : World) (h : StrsIn w a len cap) (h' : BytesIn w b len2 cap2) :
    Calls Try.prog 5 #[.slice a len cap, .slice b len2 cap2] w fun r w' => r = .returned (.bool true) ∧ Below w.heap.size w w' := by
  obtain ⟨Ps, _, h1⟩ := h
  obtain ⟨L, _, h2⟩ := h'
  exact meetSplits_walk h1 h2
end Go.Proofs.Ytophkjnniodegaa
