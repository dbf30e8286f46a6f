/- The examples of the chapter. -/
import Derived.Test.YtilafgemgdjfhaaBLaw
namespace Go.Proofs.Ytilafgemgdjfhaa
open Go.RowKit Go.Sort
set_option linter.unusedVariables false
set_option linter.unusedSimpArgs false

set_option maxRecDepth 100000 in
set_option maxHeartbeats 3200000 in
theorem known_any (w : World) : Calls Try.prog 8 #[] w fun e w' => e = .returned (.bool true) ∧ Below w.heap.size w w' := by
  go_enter Try.func8, Try.ntmps8
  go_wp2_with (go_at_call 9; fail)
  refine (new_bad w 0 (by omega)).mono ?_
  rintro e w' ⟨rfl, rfl⟩
  go_wp2_with (go_at_call 9; fail)
  refine (new_bad w 4097 (by omega)).mono ?_
  rintro e w' ⟨rfl, rfl⟩
  go_wp2_with (go_at_call 9; fail)
  refine (new_ok (w0 := w) (w := w) (G := fun _ => False) 4 (by omega) (by omega) (Below.refl _ _) (fun _ h => h.elim)).mono ?_
  rintro e w1 ⟨a, rfl, R1, _⟩
  have H1 := Lib.hid R1
  clear R1
  unfold pt
  go_wp2_with (go_at_call 26; fail)
  refine (writes_in H1.out [97, 98, 99] (by decide) 3 rfl).mono ?_
  rintro e w2 ⟨rfl, A2⟩
  have H2 := Lib.hid A2.rg
  clear A2 H1
  go_wp2_with (go_at_call 26; fail)
  refine (writes_in H2.out [100, 101, 102, 103] (by decide) 1 rfl).mono ?_
  rintro e w3 ⟨rfl, A3⟩
  have H3 := Lib.hid A3.rg
  clear A3 H2
  have hl := Lib.hid (len_in H3.out)
  have hf := Lib.hid (free_in H3.out)
  go_wp2_with (first | (go_at_call 21; refine hl.out.mono ?_; rintro e w4 ⟨rfl, rfl⟩) | (go_at_call 23; refine hf.out.mono ?_; rintro e w4 ⟨rfl, rfl⟩) | (go_at_call 25; fail))
  refine (reads_in H3.out 2 (by omega) _ rfl).mono ?_
  rintro e w5 ⟨rfl, A5⟩
  have H5 := Lib.hid A5.rg
  clear A5 H3 hl hf
  go_wp2_with (go_at_call 26; fail)
  refine (writes_in H5.out [120, 121] (by decide) 2 rfl).mono ?_
  rintro e w6 ⟨rfl, A6⟩
  have H6 := Lib.hid A6.rg
  clear A6 H5
  go_wp2_with (go_at_call 24; fail)
  refine (peeks_in H6.out 1 2 (by omega) (by omega) _ rfl).mono ?_
  rintro e w7 ⟨rfl, b7⟩
  have H7 := Lib.hid (H6.out.grown b7)
  clear b7 H6
  go_wp2_with (go_at_call 24; fail)
  refine (peeks_in H7.out 4 1 (by omega) (by omega) _ rfl).mono ?_
  rintro e w8 ⟨rfl, b8⟩
  have H8 := Lib.hid (H7.out.grown b8)
  clear b8 H7
  go_wp2_with (go_at_call 17; fail)
  refine (skip_in H8.out 3 (by omega)).mono ?_
  rintro e w9 ⟨rfl, A9⟩
  have H9 := Lib.hid A9.rg
  clear A9 H8
  go_wp2_with (go_at_call 25; fail)
  refine (reads_in H9.out 9 (by omega) _ rfl).mono ?_
  rintro e wa ⟨rfl, Aa⟩
  have Ha := Lib.hid Aa.rg
  clear Aa H9
  go_wp2_with (go_at_call 25; fail)
  refine (reads_in Ha.out 9 (by omega) _ rfl).mono ?_
  rintro e wb ⟨rfl, Ab⟩
  have Hb := Lib.hid Ab.rg
  clear Ab Ha
  go_wp2_with (go_at_call 13; fail)
  refine (readNeg_in Hb.out (-1) (by omega)).mono ?_
  rintro e wc ⟨rfl, rfl⟩
  go_wp2_with (go_at_call 15; fail)
  refine (peekNeg_in Hb.out (-1) 0 (by omega)).mono ?_
  rintro e wc ⟨rfl, rfl⟩
  go_wp2_with fail
  go_ret
  exact ⟨rfl, Hb.out.below⟩
end Go.Proofs.Ytilafgemgdjfhaa
