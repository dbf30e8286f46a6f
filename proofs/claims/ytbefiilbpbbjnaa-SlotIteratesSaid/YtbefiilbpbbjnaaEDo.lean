/- The law's do, any call. -/
import Derived.Test.YtbefiilbpbbjnaaEDo1
import Derived.Test.YtbefiilbpbbjnaaEDo2
import Derived.Test.YtbefiilbpbbjnaaEDo3
import Derived.Test.YtbefiilbpbbjnaaEDo4
import Derived.Test.YtbefiilbpbbjnaaEDo5
import Derived.Test.YtbefiilbpbbjnaaEDo6
import Derived.Test.YtbefiilbpbbjnaaEDo7
import Derived.Test.YtbefiilbpbbjnaaEDo8
import Derived.Test.YtbefiilbpbbjnaaEDo9
namespace Go.Proofs.Ytbefiilbpbbjnaa
open Go.RowKit Go.Sort
set_option linter.unusedVariables false
set_option linter.unusedSimpArgs false

theorem do_any {w0 w : World} {t g c m k : Nat} {v : Value} {P : Tab} {L : Fds} (h : ESt w0 w t g c m v P L k) (hk : k ≤ 800) (x0 x1 n kk : Int) :
    Calls Try.prog 11 #[.pointer (some ⟨t, 0, none⟩), rt m v, .agg #[.int .i64 x0, .int .i64 x1, .int .i64 n, .int .i64 kk]] w (DoPost w0 w g m k) := by
  have hl9 : L.length ≤ 900 := Nat.le_trans h.l (by omega)
  by_cases h0 : x0 = 0
  · subst h0; exact do_open h (by omega) x1 n kk
  by_cases h1 : x0 = 1
  · subst h1; exact do_close h (by omega) x1 n kk
  by_cases h2 : x0 = 2
  · subst h2; exact do_get h (by omega) x1 n kk
  by_cases h3 : x0 = 3
  · subst h3; exact do_set h (by omega) x1 n kk
  obtain ⟨a, b, code, hc, hS, hRf⟩ := at_both (m := m) h.rel hl9 n
  by_cases h4 : x0 = 4
  · subst h4
    rcases hc with ⟨rfl, rfl, rfl⟩ | ⟨rfl, rfl⟩
    · exact do_at4_no h (by omega) x1 n kk _ _ hS hRf
    · exact do_at4_yes h (by omega) x1 a kk b hS hRf
  by_cases h5 : x0 = 5
  · subst h5
    rcases hc with ⟨rfl, rfl, rfl⟩ | ⟨rfl, rfl⟩
    · exact do_at5_no h (by omega) x1 n kk _ _ hS hRf
    · exact do_at5_yes h (by omega) x1 a kk b hS hRf
  · exact do_copy h hk x0 x1 n kk (by simp [h0]) (by simp [h1]) (by simp [h2]) (by simp [h3]) (by simp [h4]) (by simp [h5])
end Go.Proofs.Ytbefiilbpbbjnaa
