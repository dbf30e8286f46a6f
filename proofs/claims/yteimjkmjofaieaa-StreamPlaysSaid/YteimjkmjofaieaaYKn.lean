/- The law's own known. -/
import Derived.Test.YteimjkmjofaieaaYLaw
namespace Go.Proofs.Yteimjkmjofaieaa
open Go.RowKit Go.Sort
set_option linter.unusedVariables false
set_option linter.unusedSimpArgs false
set_option maxRecDepth 100000 in
set_option maxHeartbeats 6400000 in
theorem known_any (w : World) : Calls Try.prog 9 #[] w fun e w' => e = .returned (.bool true) ∧ Below w.heap.size w w' := by
  go_enter Try.func9, Try.ntmps9
  go_wp2_with (go_at_call 10; fail)
  refine (ks_new (w := w) (Below.refl _ _) (c := 3) (by omega)).mono ?_
  rintro e W0 ⟨ms, ks, rfl, h0, -, -⟩
  have HS := Lib.hid h0
  clear h0
  unfold pt
  go_wp2_with (go_at_call 10; fail)
  refine (ks_new (w := w) HS.out.be (c := 0) (by omega)).mono ?_
  rintro e W1 ⟨mt, kt, rfl, h0, hn, hb⟩
  have HT := Lib.hid h0
  have HD : Hid (Dj ks kt) := Lib.hid (HS.out.dj (fun i hi => hn i (List.mem_cons_of_mem _ hi)))
  have HS1 := Lib.hid (HS.out.grow hb)
  clear h0 hn hb HS
  unfold St.new at HT HS1
  unfold pt
  go_wp2_with (go_at_call 39; fail)
  refine (ybegins_yes (y := ⟨3, [97, 98, 99], true, [100, 101], 3, 0, 0⟩) (L := [97, 98, 99, 100, 101]) HS1.out (by simp) 0 rfl).mono ?_
  rintro e W2 ⟨rfl, g, h1, h2, h3⟩
  have H2 := Lib.hid h1
  have O2 := Lib.hid (HS1.out.other HT.out (HD.out) h3)
  have D2 : Hid (Dj (ks.at g) kt) := Lib.hid (h2 _ _ _ HT.out (HD.out))
  clear h1 h2 h3 HS1 HT HD
  generalize ks.at g = ks2 at *
  go_wp2_with (go_at_call 40; fail)
  refine (yat_yes H2.out 3 false rfl).mono ?_
  rintro e W3 ⟨rfl, h1, h3⟩
  have H3 := Lib.hid h1
  have O3 := Lib.hid (H2.out.other O2.out (D2.out) h3)
  clear h1 h3 H2 O2
  go_wp2_with (go_at_call 41; fail)
  refine (yreads_yes (y := ⟨3, [99, 100, 101], true, [], 5, 0, 0⟩) (L := [97, 98]) H3.out (2) 0 rfl).mono ?_
  rintro e W4 ⟨rfl, h1, h3⟩
  have H4 := Lib.hid h1
  have O4 := Lib.hid (H3.out.other O3.out (D2.out) h3)
  clear h1 h3 H3 O3
  go_wp2_with (go_at_call 40; fail)
  refine (yat_yes H4.out 5 true rfl).mono ?_
  rintro e W5 ⟨rfl, h1, h3⟩
  have H5 := Lib.hid h1
  have O5 := Lib.hid (H4.out.other O4.out (D2.out) h3)
  clear h1 h3 H4 O4
  go_wp2_with (go_at_call 41; fail)
  refine (yreads_yes (y := ⟨3, [], true, [], 5, 0, 0⟩) (L := [99, 100, 101]) H5.out (9) 0 rfl).mono ?_
  rintro e W6 ⟨rfl, h1, h3⟩
  have H6 := Lib.hid h1
  have O6 := Lib.hid (H5.out.other O5.out (D2.out) h3)
  clear h1 h3 H5 O5
  go_wp2_with (go_at_call 41; fail)
  refine (yreads_yes (y := ⟨3, [], true, [], 5, 0, 0⟩) (L := []) H6.out (9) 16 rfl).mono ?_
  rintro e W7 ⟨rfl, h1, h3⟩
  have H7 := Lib.hid h1
  have O7 := Lib.hid (H6.out.other O6.out (D2.out) h3)
  clear h1 h3 H6 O6
  go_wp2_with (go_at_call 40; fail)
  refine (yat_yes H7.out 5 true rfl).mono ?_
  rintro e W8 ⟨rfl, h1, h3⟩
  have H8 := Lib.hid h1
  have O8 := Lib.hid (H7.out.other O7.out (D2.out) h3)
  clear h1 h3 H7 O7
  go_wp2_with (go_at_call 42; fail)
  refine (yends_yes (y := ⟨3, [], false, [], 0, 0, 0⟩) H8.out 5 0 rfl).mono ?_
  rintro e W9 ⟨rfl, h1, h3⟩
  have H9 := Lib.hid h1
  have O9 := Lib.hid (H8.out.other O8.out (D2.out) h3)
  clear h1 h3 H8 O8
  go_wp2_with (go_at_call 39; fail)
  refine (ybegins_yes (y := ⟨0, [], true, [97, 98, 99], 0, 0, 0⟩) (L := [97, 98, 99]) O9.out (by simp) 0 rfl).mono ?_
  rintro e W10 ⟨rfl, g, h1, h2, h3⟩
  have H10 := Lib.hid h1
  have O10 := Lib.hid (O9.out.other H9.out (D2.out.symm) h3)
  have D10 : Hid (Dj ks2 (kt.at g)) := Lib.hid ((h2 _ _ _ H9.out (D2.out.symm)).symm)
  clear h1 h2 h3 O9 H9 D2
  generalize kt.at g = kt10 at *
  go_wp2_with (go_at_call 40; fail)
  refine (yat_yes H10.out 0 false rfl).mono ?_
  rintro e W11 ⟨rfl, h1, h3⟩
  have H11 := Lib.hid h1
  have O11 := Lib.hid (H10.out.other O10.out (D10.out.symm) h3)
  clear h1 h3 H10 O10
  go_wp2_with (go_at_call 39; fail)
  refine (ybegins_yes (y := ⟨0, [], true, [97, 98, 99], 0, 0, 0⟩) (L := [120]) H11.out (by simp) 11 rfl).mono ?_
  rintro e W12 ⟨rfl, g, h1, h2, h3⟩
  have H12 := Lib.hid h1
  have O12 := Lib.hid (H11.out.other O11.out (D10.out.symm) h3)
  have D12 : Hid (Dj ks2 (kt10.at g)) := Lib.hid ((h2 _ _ _ O11.out (D10.out.symm)).symm)
  clear h1 h2 h3 H11 O11 D10
  generalize kt10.at g = kt12 at *
  go_wp2_with (go_at_call 41; fail)
  refine (yreads_yes (y := ⟨0, [], true, [99], 2, 0, 0⟩) (L := [97, 98]) H12.out (2) 0 rfl).mono ?_
  rintro e W13 ⟨rfl, h1, h3⟩
  have H13 := Lib.hid h1
  have O13 := Lib.hid (H12.out.other O12.out (D12.out.symm) h3)
  clear h1 h3 H12 O12
  go_wp2_with (go_at_call 42; fail)
  refine (yends_yes (y := ⟨0, [], true, [99], 2, 0, 0⟩) H13.out 0 16 rfl).mono ?_
  rintro e W14 ⟨rfl, h1, h3⟩
  have H14 := Lib.hid h1
  have O14 := Lib.hid (H13.out.other O13.out (D12.out.symm) h3)
  clear h1 h3 H13 O13
  go_wp2_with (go_at_call 22; fail)
  refine (ks_cancel (y := ⟨0, [], false, [], 0, 0, 0⟩) H14.out 2 0 rfl).mono ?_
  rintro e W15 ⟨rfl, h1, h3⟩
  have H15 := Lib.hid h1
  have O15 := Lib.hid (H14.out.other O14.out (D12.out.symm) h3)
  clear h1 h3 H14 O14
  go_wp2_with (go_at_call 41; fail)
  refine (yreads_yes (y := ⟨0, [], false, [], 0, 0, 0⟩) (L := []) H15.out (1) 16 rfl).mono ?_
  rintro e W16 ⟨rfl, h1, h3⟩
  have H16 := Lib.hid h1
  have O16 := Lib.hid (H15.out.other O15.out (D12.out.symm) h3)
  clear h1 h3 H15 O15
  go_wp2_with (go_at_call 39; fail)
  refine (ybegins_yes (y := ⟨3, [102, 103, 104], true, [105, 106], 3, 0, 0⟩) (L := [102, 103, 104, 105, 106]) O16.out (by simp) 0 rfl).mono ?_
  rintro e W17 ⟨rfl, g, h1, h2, h3⟩
  have H17 := Lib.hid h1
  have O17 := Lib.hid (O16.out.other H16.out (D12.out) h3)
  have D17 : Hid (Dj (ks2.at g) kt12) := Lib.hid (h2 _ _ _ H16.out (D12.out))
  clear h1 h2 h3 O16 H16 D12
  generalize ks2.at g = ks17 at *
  go_wp2_with (go_at_call 25; fail)
  refine (ks_cw (y := ⟨3, [102, 103, 104], true, [105, 106], 3, 13, 0⟩) H17.out 13 0 rfl).mono ?_
  rintro e W18 ⟨rfl, h1, h3⟩
  have H18 := Lib.hid h1
  have O18 := Lib.hid (H17.out.other O17.out (D17.out) h3)
  clear h1 h3 H17 O17
  go_wp2_with (go_at_call 42; fail)
  refine (yends_yes (y := ⟨3, [102, 103, 104], false, [], 0, 13, 0⟩) H18.out 3 14 rfl).mono ?_
  rintro e W19 ⟨rfl, h1, h3⟩
  have H19 := Lib.hid h1
  have O19 := Lib.hid (H18.out.other O18.out (D17.out) h3)
  clear h1 h3 H18 O18
  go_wp2_with (go_at_call 41; fail)
  refine (yreads_yes (y := ⟨3, [], false, [], 0, 13, 0⟩) (L := [102, 103, 104]) H19.out (9) 0 rfl).mono ?_
  rintro e W20 ⟨rfl, h1, h3⟩
  have H20 := Lib.hid h1
  have O20 := Lib.hid (H19.out.other O19.out (D17.out) h3)
  clear h1 h3 H19 O19
  go_wp2_with (go_at_call 41; fail)
  refine (yreads_yes (y := ⟨3, [], false, [], 0, 13, 0⟩) (L := []) H20.out (1) 13 rfl).mono ?_
  rintro e W21 ⟨rfl, h1, h3⟩
  have H21 := Lib.hid h1
  have O21 := Lib.hid (H20.out.other O20.out (D17.out) h3)
  clear h1 h3 H20 O20
  go_wp2_with (go_at_call 39; fail)
  refine (ybegins_yes (y := ⟨3, [], false, [], 0, 13, 0⟩) (L := [107]) H21.out (by simp) 14 rfl).mono ?_
  rintro e W22 ⟨rfl, g, h1, h2, h3⟩
  have H22 := Lib.hid h1
  have O22 := Lib.hid (H21.out.other O21.out (D17.out) h3)
  have D22 : Hid (Dj (ks17.at g) kt12) := Lib.hid (h2 _ _ _ O21.out (D17.out))
  clear h1 h2 h3 H21 O21 D17
  generalize ks17.at g = ks22 at *
  go_wp2_with (go_at_call 39; fail)
  refine (ybegins_yes (y := ⟨0, [], true, [100], 0, 0, 0⟩) (L := [100]) O22.out (by simp) 0 rfl).mono ?_
  rintro e W23 ⟨rfl, g, h1, h2, h3⟩
  have H23 := Lib.hid h1
  have O23 := Lib.hid (O22.out.other H22.out (D22.out.symm) h3)
  have D23 : Hid (Dj ks22 (kt12.at g)) := Lib.hid ((h2 _ _ _ H22.out (D22.out.symm)).symm)
  clear h1 h2 h3 O22 H22 D22
  generalize kt12.at g = kt23 at *
  go_wp2_with (go_at_call 26; fail)
  refine (ks_cr (y := ⟨0, [], true, [100], 0, 0, 14⟩) H23.out 14 0 rfl).mono ?_
  rintro e W24 ⟨rfl, h1, h3⟩
  have H24 := Lib.hid h1
  have O24 := Lib.hid (H23.out.other O23.out (D23.out.symm) h3)
  clear h1 h3 H23 O23
  go_wp2_with (go_at_call 42; fail)
  refine (yends_yes (y := ⟨0, [], false, [], 0, 0, 14⟩) H24.out 0 14 rfl).mono ?_
  rintro e W25 ⟨rfl, h1, h3⟩
  have H25 := Lib.hid h1
  have O25 := Lib.hid (H24.out.other O24.out (D23.out.symm) h3)
  clear h1 h3 H24 O24
  go_wp2_with (go_at_call 41; fail)
  refine (yreads_yes (y := ⟨0, [], false, [], 0, 0, 14⟩) (L := []) H25.out (0) 14 rfl).mono ?_
  rintro e W26 ⟨rfl, h1, h3⟩
  have H26 := Lib.hid h1
  have O26 := Lib.hid (H25.out.other O25.out (D23.out.symm) h3)
  clear h1 h3 H25 O25
  go_wp2_with (go_at_call 26; fail)
  refine (ks_cr (y := ⟨0, [], false, [], 0, 0, 14⟩) H26.out 14 14 rfl).mono ?_
  rintro e W27 ⟨rfl, h1, h3⟩
  have H27 := Lib.hid h1
  have O27 := Lib.hid (H26.out.other O26.out (D23.out.symm) h3)
  clear h1 h3 H26 O26
  go_wp2_with (go_at_call 10; fail)
  refine (stNew_bad _ (-1) (by omega)).mono ?_
  rintro e V1 ⟨rfl, hb⟩
  have B1 := Lib.hid (H27.out.be.trans (hb.mono H27.out.be.size))
  clear hb
  go_wp2_with (go_at_call 10; fail)
  refine (stNew_bad _ 4097 (by omega)).mono ?_
  rintro e V2 ⟨rfl, hb⟩
  have B2 := Lib.hid (B1.out.trans (hb.mono B1.out.size))
  clear hb
  go_wp2_with (go_at_call 10; fail)
  refine (ks_new (w := w) B2.out (c := 7) (by omega)).mono ?_
  rintro e V3 ⟨mu, ku, rfl, h0, -, -⟩
  have HU := Lib.hid h0
  clear h0
  unfold St.new at HU
  unfold pt
  go_wp2_with (go_at_call 41; fail)
  refine (yreads_yes (y := ⟨7, [], false, [], 0, 0, 0⟩) (L := []) HU.out (-1) 2 rfl).mono ?_
  rintro e V4 ⟨rfl, h1, -⟩
  have H1 := Lib.hid h1
  clear h1
  go_wp2_with fail
  go_ret
  exact ⟨rfl, H1.out.be⟩
end Go.Proofs.Yteimjkmjofaieaa
