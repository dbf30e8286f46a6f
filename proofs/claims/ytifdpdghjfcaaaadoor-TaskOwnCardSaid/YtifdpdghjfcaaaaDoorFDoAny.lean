/- The law's do, any call. -/
import Derived.Test.YtifdpdghjfcaaaaDoorFDo1
import Derived.Test.YtifdpdghjfcaaaaDoorFDo2
import Derived.Test.YtifdpdghjfcaaaaDoorFDo3
import Derived.Test.YtifdpdghjfcaaaaDoorFDo4
import Derived.Test.YtifdpdghjfcaaaaDoorFDo5
import Derived.Test.YtifdpdghjfcaaaaDoorFDo6
import Derived.Test.YtifdpdghjfcaaaaDoorFDo7
namespace Go.Proofs.YtifdpdghjfcaaaaDoor
open Go.RowKit Go.Sort
set_option linter.unusedVariables false
set_option linter.unusedSimpArgs false

theorem do_any {w0 w : World} {l : Tl} {P : Ks} {Q : Qu} {g n k : Nat} {s r : Value} (h : ESt w0 w l P Q g s r n k) (hk : k < 700) (x0 x1 : Int) :
    Calls Tryd.prog 11 #[.pointer (some ⟨l.t, 0, none⟩), rk s r, .agg #[.int .i64 x0, .int .i64 x1]] w (DoPost w0 w l n k) := by
  by_cases h0 : x0 = 0
  · subst h0; exact do_Start h hk x1
  by_cases h1 : x0 = 1
  · subst h1; exact do_Park h hk x1
  by_cases h2 : x0 = 2
  · subst h2; exact do_Wake h hk x1
  by_cases h3 : x0 = 3
  · subst h3; exact do_Finish h hk x1
  by_cases h4 : x0 = 4
  · subst h4; exact do_Turn h hk x1
  by_cases h5 : x0 = 5
  · subst h5
    cases Q with
    | nil => exact do_none h hk x1
    | cons e Q => obtain ⟨t, y⟩ := e; exact do_first h hk x1
  · exact do_copy h hk x0 x1 (by simpa using h0) (by simpa using h1) (by simpa using h2) (by simpa using h3) (by simpa using h4) (by simpa using h5)
end Go.Proofs.YtifdpdghjfcaaaaDoor
