/- The law's own known. -/
import Derived.Test.YtaallpbcgabdnaaXLaw
namespace Go.Proofs.Ytaallpbcgabdnaa
open Go.RowKit Go.Sort
set_option linter.unusedVariables false
set_option linter.unusedSimpArgs false
set_option maxRecDepth 100000 in
set_option maxHeartbeats 6400000 in
theorem known_any (w : World) : Calls Try.prog 9 #[] w fun e w' => e = .returned (.bool true) ∧ Below w.heap.size w w' := by
  go_enter Try.func9, Try.ntmps9
  go_wp2_with (go_at_call 10; fail)
  refine (kf_new (w := w) (Below.refl _ _) (c := 4) (by omega) (by omega)).mono ?_
  rintro e W0 ⟨m, k, rfl, h0, _, _⟩
  have H0 := Lib.hid h0
  clear h0
  unfold Ft.new at H0
  unfold pt
  go_wp2_with (go_at_call 20; fail)
  refine (reads_yes (y := ⟨4, [], 0, 0⟩) (L := []) H0.out 1 16 rfl).mono ?_
  rintro e W1 ⟨rfl, h, -⟩
  have H1 := Lib.hid h
  clear h H0
  go_wp2_with (go_at_call 25; fail)
  refine (writes_yes (y := ⟨4, [97, 98, 99], 0, 0⟩) (L := [97, 98, 99]) H1.out (by simp) 3 0 rfl).mono ?_
  rintro e W2 ⟨rfl, h, -⟩
  have H2 := Lib.hid h
  clear h H1
  go_wp2_with (go_at_call 25; fail)
  refine (writes_yes (y := ⟨4, [97, 98, 99, 100], 0, 0⟩) (L := [100, 101, 102, 103]) H2.out (by simp) 1 0 rfl).mono ?_
  rintro e W3 ⟨rfl, h, -⟩
  have H3 := Lib.hid h
  clear h H2
  go_wp2_with (go_at_call 25; fail)
  refine (writes_yes (y := ⟨4, [97, 98, 99, 100], 0, 0⟩) (L := [120]) H3.out (by simp) 0 16 rfl).mono ?_
  rintro e W4 ⟨rfl, h, -⟩
  have H4 := Lib.hid h
  clear h H3
  go_wp2_with (go_at_call 25; fail)
  refine (writes_yes (y := ⟨4, [97, 98, 99, 100], 0, 0⟩) (L := []) H4.out (by simp) 0 0 rfl).mono ?_
  rintro e W5 ⟨rfl, h, -⟩
  have H5 := Lib.hid h
  clear h H4
  go_wp2_with (go_at_call 20; fail)
  refine (reads_yes (y := ⟨4, [100], 0, 0⟩) (L := [97, 98, 99]) H5.out 3 0 rfl).mono ?_
  rintro e W6 ⟨rfl, h, -⟩
  have H6 := Lib.hid h
  clear h H5
  go_wp2_with (go_at_call 25; fail)
  refine (writes_yes (y := ⟨4, [100, 120, 121], 0, 0⟩) (L := [120, 121]) H6.out (by simp) 2 0 rfl).mono ?_
  rintro e W7 ⟨rfl, h, -⟩
  have H7 := Lib.hid h
  clear h H6
  go_wp2_with (go_at_call 21; fail)
  refine (kf_cw (y := ⟨4, [100, 120, 121], 13, 0⟩) H7.out 13 (by simp [I64]) 0 rfl).mono ?_
  rintro e W8 ⟨rfl, h, -⟩
  have H8 := Lib.hid h
  clear h H7
  go_wp2_with (go_at_call 25; fail)
  refine (writes_yes (y := ⟨4, [100, 120, 121], 13, 0⟩) (L := [122]) H8.out (by simp) 0 14 rfl).mono ?_
  rintro e W9 ⟨rfl, h, -⟩
  have H9 := Lib.hid h
  clear h H8
  go_wp2_with (go_at_call 20; fail)
  refine (reads_yes (y := ⟨4, [], 13, 0⟩) (L := [100, 120, 121]) H9.out 9 0 rfl).mono ?_
  rintro e W10 ⟨rfl, h, -⟩
  have H10 := Lib.hid h
  clear h H9
  go_wp2_with (go_at_call 20; fail)
  refine (reads_yes (y := ⟨4, [], 13, 0⟩) (L := []) H10.out 1 13 rfl).mono ?_
  rintro e W11 ⟨rfl, h, -⟩
  have H11 := Lib.hid h
  clear h H10
  go_wp2_with (go_at_call 20; fail)
  refine (reads_yes (y := ⟨4, [], 13, 0⟩) (L := []) H11.out 0 0 rfl).mono ?_
  rintro e W12 ⟨rfl, h, -⟩
  have H12 := Lib.hid h
  clear h H11
  go_wp2_with (go_at_call 10; fail)
  refine (kf_new (w := w) H12.out.be (c := 4) (by omega) (by omega)).mono ?_
  rintro e W13 ⟨m2, k2, rfl, h, _, _⟩
  have H13 := Lib.hid h
  clear h H12
  unfold Ft.new at H13
  unfold pt
  go_wp2_with (go_at_call 25; fail)
  refine (writes_yes (y := ⟨4, [97, 98, 99], 0, 0⟩) (L := [97, 98, 99]) H13.out (by simp) 3 0 rfl).mono ?_
  rintro e W14 ⟨rfl, h, -⟩
  have H14 := Lib.hid h
  clear h H13
  go_wp2_with (go_at_call 23; fail)
  refine (kf_cr (y := ⟨4, [], 0, 14⟩) H14.out 14 (by simp [I64]) 0 rfl).mono ?_
  rintro e W15 ⟨rfl, h, -⟩
  have H15 := Lib.hid h
  clear h H14
  go_wp2_with (go_at_call 14; fail)
  have hl := flLen_any H15.out.at'
  refine hl.mono ?_
  rintro e W16 ⟨rfl, rfl⟩
  clear hl
  go_wp2_with (go_at_call 25; fail)
  refine (writes_yes (y := ⟨4, [], 0, 14⟩) (L := [100]) H15.out (by simp) 0 14 rfl).mono ?_
  rintro e W16 ⟨rfl, h, -⟩
  have H16 := Lib.hid h
  clear h H15
  go_wp2_with (go_at_call 20; fail)
  refine (reads_yes (y := ⟨4, [], 0, 14⟩) (L := []) H16.out 1 14 rfl).mono ?_
  rintro e W17 ⟨rfl, h, -⟩
  have H17 := Lib.hid h
  clear h H16
  go_wp2_with (go_at_call 23; fail)
  refine (kf_cr (y := ⟨4, [], 0, 14⟩) H17.out 13 (by simp [I64]) 8 rfl).mono ?_
  rintro e W18 ⟨rfl, h, -⟩
  have H18 := Lib.hid h
  clear h H17
  go_wp2_with fail
  go_ret
  exact ⟨rfl, H18.out.be⟩
end Go.Proofs.Ytaallpbcgabdnaa
