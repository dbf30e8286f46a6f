/- MeetNil and MeetCloses, as their statements are opened. -/
import Derived.Test.YtophkjnniodegaaVEnds
import Derived.Test.YtophkjnniodegaaVNil
import Derived.Test.YtophkjnniodegaaVCls
namespace Go.Proofs.Ytophkjnniodegaa
open Go.RowKit
theorem meetNil_fin (n e : Int) (w : World) (h1 : (Lit.int .i64 n).wf = true) (h2 : (Lit.int .i64 e).wf = true) : Calls Try.prog 4 #[.int .i64 n, .int .i64 e] w fun r w' => r = .returned (.bool true) ∧ Below w.heap.size w w' :=
  meetNil_walk w n e (i64_of h1) (i64_of h2)
theorem meetCloses_fin (s : ByteArray) (n wr rd : Int) (o : Bool) (w : World) (_ : s.size ≤ maxLen) (_ : (Lit.int .i64 n).wf = true) (h1 : (Lit.int .i64 wr).wf = true) (h2 : (Lit.int .i64 rd).wf = true) :
    Calls Try.prog 6 #[.string s, .int .i64 n, .int .i64 wr, .int .i64 rd, .bool o] w fun r w' => r = .returned (.bool true) ∧ Below w.heap.size w w' :=
  meetCloses_walk w s n wr rd o (i64_of h1) (i64_of h2)
end Go.Proofs.Ytophkjnniodegaa
