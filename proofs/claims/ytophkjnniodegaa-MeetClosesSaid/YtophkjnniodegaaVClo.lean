/- The walk of MeetCloses. -/
import Derived.Test.YtophkjnniodegaaVKn
namespace Go.Proofs.Ytophkjnniodegaa
open Go.RowKit Go.Sort
set_option linter.unusedVariables false
set_option linter.unusedSimpArgs false
theorem km_take {w W : World} {m b : Nat} {x y : Mt} (h : KM w W m b x) (n : Int) (L : List UInt8) (e : Int) (hy : takC x n = (L, e, y)) :
    Calls Try.prog 15 #[pt m, .int .i64 n] W fun e' W' => ∃ a k c, e' = .returned (.tuple #[.slice a k c, .int .i64 e]) ∧ RowB W' W.heap.size (.slice a k c) L ∧ KM w W' m b y := by
  have ht := mtTake_any h.at' n
  rw [hy] at ht
  refine ht.mono ?_
  rintro e' W' ⟨vp, rfl, hr, hm, hf⟩
  obtain ⟨a, k, c, rfl⟩ := row_form hr
  exact ⟨a, k, c, rfl, hr, h.next (hm W' fun _ _ => rfl) hf⟩
theorem first_take (L : List UInt8) (n : Int) (hn : 0 ≤ n) : ∃ e, takC ⟨true, L, 0, 0, 0⟩ n = (L.take n.toNat, e, ⟨true, L, (L.take n.toNat).length, 0, 0⟩) := by
  unfold takC Mt.rest
  simp only [List.drop_zero]
  rw [if_neg (by omega)]
  by_cases h0 : n = 0
  · subst h0; exact ⟨0, by simp⟩
  · rw [if_neg h0, if_neg (by simp), if_neg (by simp)]
    by_cases hl : L.length = 0
    · rw [if_pos hl]
      obtain rfl : L = [] := List.eq_nil_of_length_eq_zero hl
      exact ⟨16, by simp⟩
    · rw [if_neg hl]
      exact ⟨0, by simp⟩
set_option maxRecDepth 100000 in
set_option maxHeartbeats 6400000 in
theorem closes_100 (w : World) (L : List UInt8) (hL : L.length ≤ 400) (n : Int) (hn : 0 ≤ n) (wr rd : Int) (hw : I64 wr) (hr : I64 rd) (hw0 : wr ≠ 0) (hr0 : rd ≠ 0) :
    Calls Try.prog 6 #[.string (strB L), .int .i64 n, .int .i64 wr, .int .i64 rd, .bool true] w fun e w' => e = .returned (.bool true) ∧ Below w.heap.size w w' := by
  have qw : (wr != 0) = true := by simp [hw0]
  have qw2 : (wr == 0) = false := by simp [hw0]
  have HW0 := Lib.hid hw0
  have qr : (rd != 0) = true := by simp [hr0]
  have qr2 : (rd == 0) = false := by simp [hr0]
  have HR0 := Lib.hid hr0
  have HWI := Lib.hid hw
  have HRI := Lib.hid hr
  have HL := Lib.hid hL
  have hsz := strB_size L
  have hs400 : ((strB L).size : Int) ≤ 400 := by omega
  have hn0 : decide (n < 0) = false := by simp; omega
  obtain ⟨et, het⟩ := first_take L n hn
  obtain ⟨G, hG⟩ : ∃ G, G = L.take n.toNat := ⟨_, rfl⟩
  rw [← hG] at het
  have HT := Lib.hid het
  have hGl : G.length ≤ L.length := by rw [hG, List.length_take]; omega
  have hGL := Lib.hid hGl
  have hx : Hid ((strB L).extract 0 (strB G).size = strB G) := Lib.hid (by
    rw [strB_extract, strB_size]
    congr 1
    rw [hG, List.length_take, List.drop_zero, Nat.sub_zero]
    by_cases q : n.toNat ≤ L.length
    · rw [Nat.min_eq_left q]
    · rw [Nat.min_eq_right (by omega), List.take_length, List.take_of_length_le (by omega)])
  have HGS := Lib.hid (strB_size G)
  clear het hG hGl
  clear hL hw hr hsz hw0 hr0
  go_enter Try.func6, Try.ntmps6
  go_wp2_with (go_at_call 10; fail)
  refine (km_new w _ (Below.refl _ _)).mono ?_
  rintro e W0 ⟨m, b, rfl, h0⟩
  have H0 := Lib.hid h0
  clear h0
  unfold pt
  go_wp2_with (first | (go_at_call 24; refine (ends_any _ _ _ _ _).mono ?_; rintro e w9 ⟨rfl, rfl⟩) | (go_at_call 19; fail))
  have g0 := H0.out.grow (below_alloc _ (.cells #[.string (strB L)] 9))
  refine (km_of (Ps := [L]) g0 (strs_made _ [L] (by simp) _ rfl 1 rfl) (by have := HL.out; simp; omega) (by simp)).mono ?_
  rintro e W1 ⟨x1, x2, x3, x4, x5, x6, rfl, R1, h1⟩
  have H1 := Lib.hid h1
  have HR1 := Lib.hid R1
  clear h1 H0 g0 R1
  go_wp2_with (go_at_call 18; fail)
  refine (km_offer (y := ⟨true, L, 0, 0, 0⟩) H1.out HR1.out 0 (by simp [offC, Mt.zero])).mono ?_
  rintro e W2 ⟨rfl, h2⟩
  have H2 := Lib.hid h2
  clear h2 H1 HR1
  go_wp2_with (first | (go_at_call 24; refine (ends_any _ _ _ _ _).mono ?_; rintro e w9 ⟨rfl, rfl⟩) | (go_at_call 15; fail))
  refine (km_take (y := ⟨true, L, G.length, 0, 0⟩) H2.out n G et HT.out).mono ?_
  rintro e W3 ⟨pa, pn, pc, rfl, hrow, h3⟩
  have H3 := Lib.hid h3
  have hcv := row_str hrow
  clear h3 H2 hrow
  go_wp2_with (first | (go_at_call 24; refine (ends_any _ _ _ _ _).mono ?_; rintro e w9 ⟨rfl, rfl⟩) | (go_at_call 20; fail))
  refine (km_cw (y := ⟨true, L, G.length, wr, 0⟩) H3.out wr HWI.out 0 (by unfold cwrC; rw [if_neg HW0.out, if_neg (by simp)])).mono ?_
  rintro e W4 ⟨rfl, h4⟩
  have H4 := Lib.hid h4
  clear h4 H3
  go_wp2_with (first | (go_at_call 24; refine (ends_any _ _ _ _ _).mono ?_; rintro e w9 ⟨rfl, rfl⟩) | (go_at_call 21; fail))
  refine (km_cr (y := ⟨true, L, G.length, wr, rd⟩) H4.out rd HRI.out 0 (by unfold crdC; rw [if_neg HR0.out, if_neg (by simp)])).mono ?_
  rintro e W5 ⟨rfl, h5⟩
  have H5 := Lib.hid h5
  clear h5 H4
  go_wp2_with (first | (go_at_call 24; refine (ends_any _ _ _ _ _).mono ?_; rintro e w9 ⟨rfl, rfl⟩) | (go_at_call 13; fail))
  refine (km_closed H5.out).mono ?_
  rintro e W6 ⟨rfl, h6⟩
  have H6 := Lib.hid h6
  clear h6 H5
  have hgs := HGS.out
  have hle : ((strB G).size : Int) ≤ ((strB L).size : Int) := by rw [strB_size, strB_size]; have := hGL.out; omega
  have hxx := hx.out
  have hqq : (strB G).toList == (strB G).toList := by simp
  clear hgs
  go_wp2_with (first | (go_at_call 24; refine (ends_any _ _ _ _ _).mono ?_; rintro e w9 ⟨rfl, rfl⟩) | (go_at_call 25; fail))
  clear hcv hxx hqq hle
  refine (km_takes (y := ⟨true, L, G.length, wr, rd⟩) H6.out 1 [] rd (by unfold takC; rw [if_neg (by omega), if_neg (by omega), if_pos HR0.out])).mono ?_
  rintro e W7 ⟨rfl, h7⟩
  have H7 := Lib.hid h7
  clear h7 H6
  go_wp2_with (first | (go_at_call 24; refine (ends_any _ _ _ _ _).mono ?_; rintro e w9 ⟨rfl, rfl⟩) | (go_at_call 25; fail))
  refine (km_takes (y := ⟨true, L, G.length, wr, rd⟩) H7.out 0 [] 0 (by unfold takC; rw [if_neg (by omega), if_pos rfl])).mono ?_
  rintro e W8 ⟨rfl, h8⟩
  have H8 := Lib.hid h8
  clear h8 H7
  go_wp2_with (first | (go_at_call 24; refine (ends_any _ _ _ _ _).mono ?_; rintro e w9 ⟨rfl, rfl⟩) | (go_at_call 20; fail))
  refine (km_cw (y := ⟨true, L, G.length, wr, rd⟩) H8.out 0 (by simp [I64]) 2 (by unfold cwrC; rw [if_pos rfl])).mono ?_
  rintro e W9 ⟨rfl, h9⟩
  have H9 := Lib.hid h9
  clear h9 H8
  go_wp2_with (first | (go_at_call 24; refine (ends_any _ _ _ _ _).mono ?_; rintro e w9 ⟨rfl, rfl⟩) | (go_at_call 20; fail))
  refine (km_cw (y := ⟨true, L, G.length, wr, rd⟩) H9.out 1 (by simp [I64]) 8 (by unfold cwrC; rw [if_neg (by omega), if_pos HW0.out])).mono ?_
  rintro e W10 ⟨rfl, h10⟩
  have H10 := Lib.hid h10
  clear h10 H9
  go_wp2_with (first | (go_at_call 24; refine (ends_any _ _ _ _ _).mono ?_; rintro e w9 ⟨rfl, rfl⟩) | (go_at_call 21; fail))
  refine (km_cr (y := ⟨true, L, G.length, wr, rd⟩) H10.out 1 (by simp [I64]) 8 (by unfold crdC; rw [if_neg (by omega), if_pos HR0.out])).mono ?_
  rintro e W11 ⟨rfl, h11⟩
  have H11 := Lib.hid h11
  clear h11 H10
  go_wp2_with (first | (go_at_call 24; refine (ends_any _ _ _ _ _).mono ?_; rintro e w9 ⟨rfl, rfl⟩) | (go_at_call 12; fail))
  refine (km_left H11.out ((L.length : Int) - (G.length : Int)) true (by have := hGL.out; simp [Mt.rest]; omega) rfl).mono ?_
  rintro e W12 ⟨rfl, h12⟩
  have H12 := Lib.hid h12
  clear h12 H11
  go_wp2_with (first | (go_at_call 24; refine (ends_any _ _ _ _ _).mono ?_; rintro e w9 ⟨rfl, rfl⟩) | (go_at_call 16; fail))
  refine (km_result (y := ⟨false, [], 0, wr, rd⟩) H12.out G.length 0 (by unfold resC witC; rw [if_neg (by rintro ⟨_, h1, h2, _⟩; first | exact HW0.out h1 | exact HR0.out h2), if_neg (by simp)])).mono ?_
  rintro e W13 ⟨rfl, h13⟩
  have H13 := Lib.hid h13
  clear h13 H12
  have hg1 := HGS.out
  have hl1 := strB_size L
  have hg2 : ((strB G).size : Int) = (G.length : Int) := by omega
  have hl2 : ((strB L).size : Int) = (L.length : Int) := by omega
  have hgl := hGL.out
  have hbG : (G.length : Int) ≤ 400 := by have := HL.out; omega
  have hbL : (L.length : Int) ≤ 400 := by have := HL.out; omega
  clear hg1 hl1
  go_wp2_with (first | (go_at_call 24; refine (ends_any _ _ _ _ _).mono ?_; rintro e w9 ⟨rfl, rfl⟩) | (go_at_call 19; fail))
  have g13 := H13.out.grow (below_alloc _ (.cells #[.string (strB L)] 9))
  refine (km_of (Ps := [L]) g13 (strs_made _ [L] (by simp) _ rfl 1 rfl) (by have := HL.out; simp; omega) (by simp)).mono ?_
  rintro e W14 ⟨x1, x2, x3, x4, x5, x6, rfl, R14, h14⟩
  have H14 := Lib.hid h14
  have HR14 := Lib.hid R14
  clear h14 H13 g13 R14
  go_wp2_with (go_at_call 18; fail)
  refine (km_offer (y := ⟨false, [], 0, wr, rd⟩) H14.out HR14.out rd (by unfold offC; rw [if_neg (by simp), if_pos HR0.out])).mono ?_
  rintro e W15 ⟨rfl, h15⟩
  have H15 := Lib.hid h15
  clear h15 H14 HR14
  go_wp2_with (go_at_call 9; fail)
  refine (known_any _).mono ?_
  rintro e w9 ⟨rfl, hb⟩
  go_wp2_with fail
  go_ret
  exact ⟨rfl, H15.out.be.trans (hb.mono H15.out.be.size)⟩
set_option maxRecDepth 100000 in
set_option maxHeartbeats 6400000 in
theorem closes_101 (w : World) (L : List UInt8) (hL : L.length ≤ 400) (n : Int) (hn : 0 ≤ n) (wr rd : Int) (hw : I64 wr) (hr : I64 rd) (hw0 : wr ≠ 0) :
    Calls Try.prog 6 #[.string (strB L), .int .i64 n, .int .i64 wr, .int .i64 0, .bool true] w fun e w' => e = .returned (.bool true) ∧ Below w.heap.size w w' := by
  have qw : (wr != 0) = true := by simp [hw0]
  have qw2 : (wr == 0) = false := by simp [hw0]
  have HW0 := Lib.hid hw0
  have HWI := Lib.hid hw
  have HRI := Lib.hid hr
  have HL := Lib.hid hL
  have hsz := strB_size L
  have hs400 : ((strB L).size : Int) ≤ 400 := by omega
  have hn0 : decide (n < 0) = false := by simp; omega
  obtain ⟨et, het⟩ := first_take L n hn
  obtain ⟨G, hG⟩ : ∃ G, G = L.take n.toNat := ⟨_, rfl⟩
  rw [← hG] at het
  have HT := Lib.hid het
  have hGl : G.length ≤ L.length := by rw [hG, List.length_take]; omega
  have hGL := Lib.hid hGl
  have hx : Hid ((strB L).extract 0 (strB G).size = strB G) := Lib.hid (by
    rw [strB_extract, strB_size]
    congr 1
    rw [hG, List.length_take, List.drop_zero, Nat.sub_zero]
    by_cases q : n.toNat ≤ L.length
    · rw [Nat.min_eq_left q]
    · rw [Nat.min_eq_right (by omega), List.take_length, List.take_of_length_le (by omega)])
  have HGS := Lib.hid (strB_size G)
  clear het hG hGl
  clear hL hw hr hsz hw0
  go_enter Try.func6, Try.ntmps6
  go_wp2_with (go_at_call 10; fail)
  refine (km_new w _ (Below.refl _ _)).mono ?_
  rintro e W0 ⟨m, b, rfl, h0⟩
  have H0 := Lib.hid h0
  clear h0
  unfold pt
  go_wp2_with (first | (go_at_call 24; refine (ends_any _ _ _ _ _).mono ?_; rintro e w9 ⟨rfl, rfl⟩) | (go_at_call 19; fail))
  have g0 := H0.out.grow (below_alloc _ (.cells #[.string (strB L)] 9))
  refine (km_of (Ps := [L]) g0 (strs_made _ [L] (by simp) _ rfl 1 rfl) (by have := HL.out; simp; omega) (by simp)).mono ?_
  rintro e W1 ⟨x1, x2, x3, x4, x5, x6, rfl, R1, h1⟩
  have H1 := Lib.hid h1
  have HR1 := Lib.hid R1
  clear h1 H0 g0 R1
  go_wp2_with (go_at_call 18; fail)
  refine (km_offer (y := ⟨true, L, 0, 0, 0⟩) H1.out HR1.out 0 (by simp [offC, Mt.zero])).mono ?_
  rintro e W2 ⟨rfl, h2⟩
  have H2 := Lib.hid h2
  clear h2 H1 HR1
  go_wp2_with (first | (go_at_call 24; refine (ends_any _ _ _ _ _).mono ?_; rintro e w9 ⟨rfl, rfl⟩) | (go_at_call 15; fail))
  refine (km_take (y := ⟨true, L, G.length, 0, 0⟩) H2.out n G et HT.out).mono ?_
  rintro e W3 ⟨pa, pn, pc, rfl, hrow, h3⟩
  have H3 := Lib.hid h3
  have hcv := row_str hrow
  clear h3 H2 hrow
  go_wp2_with (first | (go_at_call 24; refine (ends_any _ _ _ _ _).mono ?_; rintro e w9 ⟨rfl, rfl⟩) | (go_at_call 20; fail))
  refine (km_cw (y := ⟨true, L, G.length, wr, 0⟩) H3.out wr HWI.out 0 (by unfold cwrC; rw [if_neg HW0.out, if_neg (by simp)])).mono ?_
  rintro e W4 ⟨rfl, h4⟩
  have H4 := Lib.hid h4
  clear h4 H3
  go_wp2_with (first | (go_at_call 24; refine (ends_any _ _ _ _ _).mono ?_; rintro e w9 ⟨rfl, rfl⟩) | (go_at_call 13; fail))
  refine (km_closed H4.out).mono ?_
  rintro e W5 ⟨rfl, h5⟩
  have H5 := Lib.hid h5
  clear h5 H4
  have hgs := HGS.out
  have hle : ((strB G).size : Int) ≤ ((strB L).size : Int) := by rw [strB_size, strB_size]; have := hGL.out; omega
  have hxx := hx.out
  have hqq : (strB G).toList == (strB G).toList := by simp
  clear hgs
  go_wp2_with (first | (go_at_call 24; refine (ends_any _ _ _ _ _).mono ?_; rintro e w9 ⟨rfl, rfl⟩) | (go_at_call 25; fail))
  clear hcv hxx hqq hle
  refine (km_takes (y := ⟨true, L, G.length, wr, 0⟩) H5.out 1 [] wr (by unfold takC; rw [if_neg (by omega), if_neg (by omega), if_neg (by simp), if_pos HW0.out])).mono ?_
  rintro e W6 ⟨rfl, h6⟩
  have H6 := Lib.hid h6
  clear h6 H5
  go_wp2_with (first | (go_at_call 24; refine (ends_any _ _ _ _ _).mono ?_; rintro e w9 ⟨rfl, rfl⟩) | (go_at_call 25; fail))
  refine (km_takes (y := ⟨true, L, G.length, wr, 0⟩) H6.out 0 [] 0 (by unfold takC; rw [if_neg (by omega), if_pos rfl])).mono ?_
  rintro e W7 ⟨rfl, h7⟩
  have H7 := Lib.hid h7
  clear h7 H6
  go_wp2_with (first | (go_at_call 24; refine (ends_any _ _ _ _ _).mono ?_; rintro e w9 ⟨rfl, rfl⟩) | (go_at_call 20; fail))
  refine (km_cw (y := ⟨true, L, G.length, wr, 0⟩) H7.out 0 (by simp [I64]) 2 (by unfold cwrC; rw [if_pos rfl])).mono ?_
  rintro e W8 ⟨rfl, h8⟩
  have H8 := Lib.hid h8
  clear h8 H7
  go_wp2_with (first | (go_at_call 24; refine (ends_any _ _ _ _ _).mono ?_; rintro e w9 ⟨rfl, rfl⟩) | (go_at_call 20; fail))
  refine (km_cw (y := ⟨true, L, G.length, wr, 0⟩) H8.out 1 (by simp [I64]) 8 (by unfold cwrC; rw [if_neg (by omega), if_pos HW0.out])).mono ?_
  rintro e W9 ⟨rfl, h9⟩
  have H9 := Lib.hid h9
  clear h9 H8
  go_wp2_with (first | (go_at_call 24; refine (ends_any _ _ _ _ _).mono ?_; rintro e w9 ⟨rfl, rfl⟩) | (go_at_call 12; fail))
  refine (km_left H9.out ((L.length : Int) - (G.length : Int)) true (by have := hGL.out; simp [Mt.rest]; omega) rfl).mono ?_
  rintro e W10 ⟨rfl, h10⟩
  have H10 := Lib.hid h10
  clear h10 H9
  go_wp2_with (first | (go_at_call 24; refine (ends_any _ _ _ _ _).mono ?_; rintro e w9 ⟨rfl, rfl⟩) | (go_at_call 16; fail))
  refine (km_result (y := ⟨false, [], 0, wr, 0⟩) H10.out G.length 0 (by unfold resC witC; rw [if_neg (by rintro ⟨_, h1, h2, _⟩; exact HW0.out h1), if_neg (by simp)])).mono ?_
  rintro e W11 ⟨rfl, h11⟩
  have H11 := Lib.hid h11
  clear h11 H10
  have hg1 := HGS.out
  have hl1 := strB_size L
  have hg2 : ((strB G).size : Int) = (G.length : Int) := by omega
  have hl2 : ((strB L).size : Int) = (L.length : Int) := by omega
  have hgl := hGL.out
  have hbG : (G.length : Int) ≤ 400 := by have := HL.out; omega
  have hbL : (L.length : Int) ≤ 400 := by have := HL.out; omega
  clear hg1 hl1
  go_wp2_with (first | (go_at_call 24; refine (ends_any _ _ _ _ _).mono ?_; rintro e w9 ⟨rfl, rfl⟩) | (go_at_call 19; fail))
  have g11 := H11.out.grow (below_alloc _ (.cells #[.string (strB L)] 9))
  refine (km_of (Ps := [L]) g11 (strs_made _ [L] (by simp) _ rfl 1 rfl) (by have := HL.out; simp; omega) (by simp)).mono ?_
  rintro e W12 ⟨x1, x2, x3, x4, x5, x6, rfl, R12, h12⟩
  have H12 := Lib.hid h12
  have HR12 := Lib.hid R12
  clear h12 H11 g11 R12
  go_wp2_with (go_at_call 18; fail)
  refine (km_offer (y := ⟨false, [], 0, wr, 0⟩) H12.out HR12.out 14 (by unfold offC; rw [if_neg (by simp), if_neg (by simp), if_pos HW0.out])).mono ?_
  rintro e W13 ⟨rfl, h13⟩
  have H13 := Lib.hid h13
  clear h13 H12 HR12
  go_wp2_with (go_at_call 9; fail)
  refine (known_any _).mono ?_
  rintro e w9 ⟨rfl, hb⟩
  go_wp2_with fail
  go_ret
  exact ⟨rfl, H13.out.be.trans (hb.mono H13.out.be.size)⟩
set_option maxRecDepth 100000 in
set_option maxHeartbeats 6400000 in
theorem closes_110 (w : World) (L : List UInt8) (hL : L.length ≤ 400) (n : Int) (hn : 0 ≤ n) (wr rd : Int) (hw : I64 wr) (hr : I64 rd) (hr0 : rd ≠ 0) :
    Calls Try.prog 6 #[.string (strB L), .int .i64 n, .int .i64 0, .int .i64 rd, .bool true] w fun e w' => e = .returned (.bool true) ∧ Below w.heap.size w w' := by
  have qr : (rd != 0) = true := by simp [hr0]
  have qr2 : (rd == 0) = false := by simp [hr0]
  have HR0 := Lib.hid hr0
  have HWI := Lib.hid hw
  have HRI := Lib.hid hr
  have HL := Lib.hid hL
  have hsz := strB_size L
  have hs400 : ((strB L).size : Int) ≤ 400 := by omega
  have hn0 : decide (n < 0) = false := by simp; omega
  obtain ⟨et, het⟩ := first_take L n hn
  obtain ⟨G, hG⟩ : ∃ G, G = L.take n.toNat := ⟨_, rfl⟩
  rw [← hG] at het
  have HT := Lib.hid het
  have hGl : G.length ≤ L.length := by rw [hG, List.length_take]; omega
  have hGL := Lib.hid hGl
  have hx : Hid ((strB L).extract 0 (strB G).size = strB G) := Lib.hid (by
    rw [strB_extract, strB_size]
    congr 1
    rw [hG, List.length_take, List.drop_zero, Nat.sub_zero]
    by_cases q : n.toNat ≤ L.length
    · rw [Nat.min_eq_left q]
    · rw [Nat.min_eq_right (by omega), List.take_length, List.take_of_length_le (by omega)])
  have HGS := Lib.hid (strB_size G)
  clear het hG hGl
  clear hL hw hr hsz hr0
  go_enter Try.func6, Try.ntmps6
  go_wp2_with (go_at_call 10; fail)
  refine (km_new w _ (Below.refl _ _)).mono ?_
  rintro e W0 ⟨m, b, rfl, h0⟩
  have H0 := Lib.hid h0
  clear h0
  unfold pt
  go_wp2_with (first | (go_at_call 24; refine (ends_any _ _ _ _ _).mono ?_; rintro e w9 ⟨rfl, rfl⟩) | (go_at_call 19; fail))
  have g0 := H0.out.grow (below_alloc _ (.cells #[.string (strB L)] 9))
  refine (km_of (Ps := [L]) g0 (strs_made _ [L] (by simp) _ rfl 1 rfl) (by have := HL.out; simp; omega) (by simp)).mono ?_
  rintro e W1 ⟨x1, x2, x3, x4, x5, x6, rfl, R1, h1⟩
  have H1 := Lib.hid h1
  have HR1 := Lib.hid R1
  clear h1 H0 g0 R1
  go_wp2_with (go_at_call 18; fail)
  refine (km_offer (y := ⟨true, L, 0, 0, 0⟩) H1.out HR1.out 0 (by simp [offC, Mt.zero])).mono ?_
  rintro e W2 ⟨rfl, h2⟩
  have H2 := Lib.hid h2
  clear h2 H1 HR1
  go_wp2_with (first | (go_at_call 24; refine (ends_any _ _ _ _ _).mono ?_; rintro e w9 ⟨rfl, rfl⟩) | (go_at_call 15; fail))
  refine (km_take (y := ⟨true, L, G.length, 0, 0⟩) H2.out n G et HT.out).mono ?_
  rintro e W3 ⟨pa, pn, pc, rfl, hrow, h3⟩
  have H3 := Lib.hid h3
  have hcv := row_str hrow
  clear h3 H2 hrow
  go_wp2_with (first | (go_at_call 24; refine (ends_any _ _ _ _ _).mono ?_; rintro e w9 ⟨rfl, rfl⟩) | (go_at_call 21; fail))
  refine (km_cr (y := ⟨true, L, G.length, 0, rd⟩) H3.out rd HRI.out 0 (by unfold crdC; rw [if_neg HR0.out, if_neg (by simp)])).mono ?_
  rintro e W4 ⟨rfl, h4⟩
  have H4 := Lib.hid h4
  clear h4 H3
  go_wp2_with (first | (go_at_call 24; refine (ends_any _ _ _ _ _).mono ?_; rintro e w9 ⟨rfl, rfl⟩) | (go_at_call 13; fail))
  refine (km_closed H4.out).mono ?_
  rintro e W5 ⟨rfl, h5⟩
  have H5 := Lib.hid h5
  clear h5 H4
  have hgs := HGS.out
  have hle : ((strB G).size : Int) ≤ ((strB L).size : Int) := by rw [strB_size, strB_size]; have := hGL.out; omega
  have hxx := hx.out
  have hqq : (strB G).toList == (strB G).toList := by simp
  clear hgs
  go_wp2_with (first | (go_at_call 24; refine (ends_any _ _ _ _ _).mono ?_; rintro e w9 ⟨rfl, rfl⟩) | (go_at_call 25; fail))
  clear hcv hxx hqq hle
  refine (km_takes (y := ⟨true, L, G.length, 0, rd⟩) H5.out 1 [] rd (by unfold takC; rw [if_neg (by omega), if_neg (by omega), if_pos HR0.out])).mono ?_
  rintro e W6 ⟨rfl, h6⟩
  have H6 := Lib.hid h6
  clear h6 H5
  go_wp2_with (first | (go_at_call 24; refine (ends_any _ _ _ _ _).mono ?_; rintro e w9 ⟨rfl, rfl⟩) | (go_at_call 25; fail))
  refine (km_takes (y := ⟨true, L, G.length, 0, rd⟩) H6.out 0 [] 0 (by unfold takC; rw [if_neg (by omega), if_pos rfl])).mono ?_
  rintro e W7 ⟨rfl, h7⟩
  have H7 := Lib.hid h7
  clear h7 H6
  go_wp2_with (first | (go_at_call 24; refine (ends_any _ _ _ _ _).mono ?_; rintro e w9 ⟨rfl, rfl⟩) | (go_at_call 20; fail))
  refine (km_cw (y := ⟨true, L, G.length, 0, rd⟩) H7.out 0 (by simp [I64]) 2 (by unfold cwrC; rw [if_pos rfl])).mono ?_
  rintro e W8 ⟨rfl, h8⟩
  have H8 := Lib.hid h8
  clear h8 H7
  go_wp2_with (first | (go_at_call 24; refine (ends_any _ _ _ _ _).mono ?_; rintro e w9 ⟨rfl, rfl⟩) | (go_at_call 21; fail))
  refine (km_cr (y := ⟨true, L, G.length, 0, rd⟩) H8.out 1 (by simp [I64]) 8 (by unfold crdC; rw [if_neg (by omega), if_pos HR0.out])).mono ?_
  rintro e W9 ⟨rfl, h9⟩
  have H9 := Lib.hid h9
  clear h9 H8
  go_wp2_with (first | (go_at_call 24; refine (ends_any _ _ _ _ _).mono ?_; rintro e w9 ⟨rfl, rfl⟩) | (go_at_call 12; fail))
  refine (km_left H9.out ((L.length : Int) - (G.length : Int)) true (by have := hGL.out; simp [Mt.rest]; omega) rfl).mono ?_
  rintro e W10 ⟨rfl, h10⟩
  have H10 := Lib.hid h10
  clear h10 H9
  go_wp2_with (first | (go_at_call 24; refine (ends_any _ _ _ _ _).mono ?_; rintro e w9 ⟨rfl, rfl⟩) | (go_at_call 16; fail))
  refine (km_result (y := ⟨false, [], 0, 0, rd⟩) H10.out G.length 0 (by unfold resC witC; rw [if_neg (by rintro ⟨_, h1, h2, _⟩; exact HR0.out h2), if_neg (by simp)])).mono ?_
  rintro e W11 ⟨rfl, h11⟩
  have H11 := Lib.hid h11
  clear h11 H10
  have hg1 := HGS.out
  have hl1 := strB_size L
  have hg2 : ((strB G).size : Int) = (G.length : Int) := by omega
  have hl2 : ((strB L).size : Int) = (L.length : Int) := by omega
  have hgl := hGL.out
  have hbG : (G.length : Int) ≤ 400 := by have := HL.out; omega
  have hbL : (L.length : Int) ≤ 400 := by have := HL.out; omega
  clear hg1 hl1
  go_wp2_with (first | (go_at_call 24; refine (ends_any _ _ _ _ _).mono ?_; rintro e w9 ⟨rfl, rfl⟩) | (go_at_call 19; fail))
  have g11 := H11.out.grow (below_alloc _ (.cells #[.string (strB L)] 9))
  refine (km_of (Ps := [L]) g11 (strs_made _ [L] (by simp) _ rfl 1 rfl) (by have := HL.out; simp; omega) (by simp)).mono ?_
  rintro e W12 ⟨x1, x2, x3, x4, x5, x6, rfl, R12, h12⟩
  have H12 := Lib.hid h12
  have HR12 := Lib.hid R12
  clear h12 H11 g11 R12
  go_wp2_with (go_at_call 18; fail)
  refine (km_offer (y := ⟨false, [], 0, 0, rd⟩) H12.out HR12.out rd (by unfold offC; rw [if_neg (by simp), if_pos HR0.out])).mono ?_
  rintro e W13 ⟨rfl, h13⟩
  have H13 := Lib.hid h13
  clear h13 H12 HR12
  go_wp2_with (go_at_call 9; fail)
  refine (known_any _).mono ?_
  rintro e w9 ⟨rfl, hb⟩
  go_wp2_with fail
  go_ret
  exact ⟨rfl, H13.out.be.trans (hb.mono H13.out.be.size)⟩
set_option maxRecDepth 100000 in
set_option maxHeartbeats 6400000 in
theorem closes_000 (w : World) (L : List UInt8) (hL : L.length ≤ 400) (n : Int) (hn : 0 ≤ n) (wr rd : Int) (hw : I64 wr) (hr : I64 rd) (hw0 : wr ≠ 0) (hr0 : rd ≠ 0) :
    Calls Try.prog 6 #[.string (strB L), .int .i64 n, .int .i64 wr, .int .i64 rd, .bool false] w fun e w' => e = .returned (.bool true) ∧ Below w.heap.size w w' := by
  have qw : (wr != 0) = true := by simp [hw0]
  have qw2 : (wr == 0) = false := by simp [hw0]
  have HW0 := Lib.hid hw0
  have qr : (rd != 0) = true := by simp [hr0]
  have qr2 : (rd == 0) = false := by simp [hr0]
  have HR0 := Lib.hid hr0
  have HWI := Lib.hid hw
  have HRI := Lib.hid hr
  have HL := Lib.hid hL
  have hsz := strB_size L
  have hs400 : ((strB L).size : Int) ≤ 400 := by omega
  have hn0 : decide (n < 0) = false := by simp; omega
  have hx : Hid ((strB L).extract 0 0 = ⟨#[]⟩) := Lib.hid (by rw [strB_extract]; rfl)
  clear hL hw hr hsz hw0 hr0
  go_enter Try.func6, Try.ntmps6
  go_wp2_with (go_at_call 10; fail)
  refine (km_new w _ (Below.refl _ _)).mono ?_
  rintro e W0 ⟨m, b, rfl, h0⟩
  have H0 := Lib.hid h0
  clear h0
  unfold pt
  go_wp2_with (first | (go_at_call 24; refine (ends_any _ _ _ _ _).mono ?_; rintro e w9 ⟨rfl, rfl⟩) | (go_at_call 20; fail))
  have h0 : KM w W0 m b ⟨false, [], 0, 0, 0⟩ := H0.out
  clear H0
  have H0 := Lib.hid h0
  clear h0
  refine (km_cw (y := ⟨false, [], 0, wr, 0⟩) H0.out wr HWI.out 0 (by unfold cwrC; rw [if_neg HW0.out, if_neg (by simp)])).mono ?_
  rintro e W1 ⟨rfl, h1⟩
  have H1 := Lib.hid h1
  clear h1 H0
  go_wp2_with (first | (go_at_call 24; refine (ends_any _ _ _ _ _).mono ?_; rintro e w9 ⟨rfl, rfl⟩) | (go_at_call 21; fail))
  refine (km_cr (y := ⟨false, [], 0, wr, rd⟩) H1.out rd HRI.out 0 (by unfold crdC; rw [if_neg HR0.out, if_neg (by simp)])).mono ?_
  rintro e W2 ⟨rfl, h2⟩
  have H2 := Lib.hid h2
  clear h2 H1
  go_wp2_with (first | (go_at_call 24; refine (ends_any _ _ _ _ _).mono ?_; rintro e w9 ⟨rfl, rfl⟩) | (go_at_call 13; fail))
  refine (km_closed H2.out).mono ?_
  rintro e W3 ⟨rfl, h3⟩
  have H3 := Lib.hid h3
  clear h3 H2
  have hxx := hx.out
  go_wp2_with (first | (go_at_call 24; refine (ends_any _ _ _ _ _).mono ?_; rintro e w9 ⟨rfl, rfl⟩) | (go_at_call 25; fail))
  refine (km_takes (y := ⟨false, [], 0, wr, rd⟩) H3.out 1 [] rd (by unfold takC; rw [if_neg (by omega), if_neg (by omega), if_pos HR0.out])).mono ?_
  rintro e W4 ⟨rfl, h4⟩
  have H4 := Lib.hid h4
  clear h4 H3
  go_wp2_with (first | (go_at_call 24; refine (ends_any _ _ _ _ _).mono ?_; rintro e w9 ⟨rfl, rfl⟩) | (go_at_call 25; fail))
  refine (km_takes (y := ⟨false, [], 0, wr, rd⟩) H4.out 0 [] 0 (by unfold takC; rw [if_neg (by omega), if_pos rfl])).mono ?_
  rintro e W5 ⟨rfl, h5⟩
  have H5 := Lib.hid h5
  clear h5 H4
  go_wp2_with (first | (go_at_call 24; refine (ends_any _ _ _ _ _).mono ?_; rintro e w9 ⟨rfl, rfl⟩) | (go_at_call 20; fail))
  refine (km_cw (y := ⟨false, [], 0, wr, rd⟩) H5.out 0 (by simp [I64]) 2 (by unfold cwrC; rw [if_pos rfl])).mono ?_
  rintro e W6 ⟨rfl, h6⟩
  have H6 := Lib.hid h6
  clear h6 H5
  go_wp2_with (first | (go_at_call 24; refine (ends_any _ _ _ _ _).mono ?_; rintro e w9 ⟨rfl, rfl⟩) | (go_at_call 20; fail))
  refine (km_cw (y := ⟨false, [], 0, wr, rd⟩) H6.out 1 (by simp [I64]) 8 (by unfold cwrC; rw [if_neg (by omega), if_pos HW0.out])).mono ?_
  rintro e W7 ⟨rfl, h7⟩
  have H7 := Lib.hid h7
  clear h7 H6
  go_wp2_with (first | (go_at_call 24; refine (ends_any _ _ _ _ _).mono ?_; rintro e w9 ⟨rfl, rfl⟩) | (go_at_call 21; fail))
  refine (km_cr (y := ⟨false, [], 0, wr, rd⟩) H7.out 1 (by simp [I64]) 8 (by unfold crdC; rw [if_neg (by omega), if_pos HR0.out])).mono ?_
  rintro e W8 ⟨rfl, h8⟩
  have H8 := Lib.hid h8
  clear h8 H7
  go_wp2_with (first | (go_at_call 24; refine (ends_any _ _ _ _ _).mono ?_; rintro e w9 ⟨rfl, rfl⟩) | (go_at_call 12; fail))
  refine (km_left H8.out 0 false (by simp [Mt.rest]) rfl).mono ?_
  rintro e W9 ⟨rfl, h9⟩
  have H9 := Lib.hid h9
  clear h9 H8
  go_wp2_with (first | (go_at_call 24; refine (ends_any _ _ _ _ _).mono ?_; rintro e w9 ⟨rfl, rfl⟩) | (go_at_call 16; fail))
  refine (km_result (y := ⟨false, [], 0, wr, rd⟩) H9.out 0 9 (by unfold resC witC; rw [if_neg (by rintro ⟨_, h1, h2, _⟩; first | exact HW0.out h1 | exact HR0.out h2), if_pos rfl])).mono ?_
  rintro e W10 ⟨rfl, h10⟩
  have H10 := Lib.hid h10
  clear h10 H9
  go_wp2_with (first | (go_at_call 24; refine (ends_any _ _ _ _ _).mono ?_; rintro e w9 ⟨rfl, rfl⟩) | (go_at_call 19; fail))
  have g10 := H10.out.grow (below_alloc _ (.cells #[.string (strB L)] 9))
  refine (km_of (Ps := [L]) g10 (strs_made _ [L] (by simp) _ rfl 1 rfl) (by have := HL.out; simp; omega) (by simp)).mono ?_
  rintro e W11 ⟨x1, x2, x3, x4, x5, x6, rfl, R11, h11⟩
  have H11 := Lib.hid h11
  have HR11 := Lib.hid R11
  clear h11 H10 g10 R11
  go_wp2_with (go_at_call 18; fail)
  refine (km_offer (y := ⟨false, [], 0, wr, rd⟩) H11.out HR11.out rd (by unfold offC; rw [if_neg (by simp), if_pos HR0.out])).mono ?_
  rintro e W12 ⟨rfl, h12⟩
  have H12 := Lib.hid h12
  clear h12 H11 HR11
  go_wp2_with (go_at_call 9; fail)
  refine (known_any _).mono ?_
  rintro e w9 ⟨rfl, hb⟩
  go_wp2_with fail
  go_ret
  exact ⟨rfl, H12.out.be.trans (hb.mono H12.out.be.size)⟩
set_option maxRecDepth 100000 in
set_option maxHeartbeats 6400000 in
theorem closes_001 (w : World) (L : List UInt8) (hL : L.length ≤ 400) (n : Int) (hn : 0 ≤ n) (wr rd : Int) (hw : I64 wr) (hr : I64 rd) (hw0 : wr ≠ 0) :
    Calls Try.prog 6 #[.string (strB L), .int .i64 n, .int .i64 wr, .int .i64 0, .bool false] w fun e w' => e = .returned (.bool true) ∧ Below w.heap.size w w' := by
  have qw : (wr != 0) = true := by simp [hw0]
  have qw2 : (wr == 0) = false := by simp [hw0]
  have HW0 := Lib.hid hw0
  have HWI := Lib.hid hw
  have HRI := Lib.hid hr
  have HL := Lib.hid hL
  have hsz := strB_size L
  have hs400 : ((strB L).size : Int) ≤ 400 := by omega
  have hn0 : decide (n < 0) = false := by simp; omega
  have hx : Hid ((strB L).extract 0 0 = ⟨#[]⟩) := Lib.hid (by rw [strB_extract]; rfl)
  clear hL hw hr hsz hw0
  go_enter Try.func6, Try.ntmps6
  go_wp2_with (go_at_call 10; fail)
  refine (km_new w _ (Below.refl _ _)).mono ?_
  rintro e W0 ⟨m, b, rfl, h0⟩
  have H0 := Lib.hid h0
  clear h0
  unfold pt
  go_wp2_with (first | (go_at_call 24; refine (ends_any _ _ _ _ _).mono ?_; rintro e w9 ⟨rfl, rfl⟩) | (go_at_call 20; fail))
  have h0 : KM w W0 m b ⟨false, [], 0, 0, 0⟩ := H0.out
  clear H0
  have H0 := Lib.hid h0
  clear h0
  refine (km_cw (y := ⟨false, [], 0, wr, 0⟩) H0.out wr HWI.out 0 (by unfold cwrC; rw [if_neg HW0.out, if_neg (by simp)])).mono ?_
  rintro e W1 ⟨rfl, h1⟩
  have H1 := Lib.hid h1
  clear h1 H0
  go_wp2_with (first | (go_at_call 24; refine (ends_any _ _ _ _ _).mono ?_; rintro e w9 ⟨rfl, rfl⟩) | (go_at_call 13; fail))
  refine (km_closed H1.out).mono ?_
  rintro e W2 ⟨rfl, h2⟩
  have H2 := Lib.hid h2
  clear h2 H1
  have hxx := hx.out
  go_wp2_with (first | (go_at_call 24; refine (ends_any _ _ _ _ _).mono ?_; rintro e w9 ⟨rfl, rfl⟩) | (go_at_call 25; fail))
  refine (km_takes (y := ⟨false, [], 0, wr, 0⟩) H2.out 1 [] wr (by unfold takC; rw [if_neg (by omega), if_neg (by omega), if_neg (by simp), if_pos HW0.out])).mono ?_
  rintro e W3 ⟨rfl, h3⟩
  have H3 := Lib.hid h3
  clear h3 H2
  go_wp2_with (first | (go_at_call 24; refine (ends_any _ _ _ _ _).mono ?_; rintro e w9 ⟨rfl, rfl⟩) | (go_at_call 25; fail))
  refine (km_takes (y := ⟨false, [], 0, wr, 0⟩) H3.out 0 [] 0 (by unfold takC; rw [if_neg (by omega), if_pos rfl])).mono ?_
  rintro e W4 ⟨rfl, h4⟩
  have H4 := Lib.hid h4
  clear h4 H3
  go_wp2_with (first | (go_at_call 24; refine (ends_any _ _ _ _ _).mono ?_; rintro e w9 ⟨rfl, rfl⟩) | (go_at_call 20; fail))
  refine (km_cw (y := ⟨false, [], 0, wr, 0⟩) H4.out 0 (by simp [I64]) 2 (by unfold cwrC; rw [if_pos rfl])).mono ?_
  rintro e W5 ⟨rfl, h5⟩
  have H5 := Lib.hid h5
  clear h5 H4
  go_wp2_with (first | (go_at_call 24; refine (ends_any _ _ _ _ _).mono ?_; rintro e w9 ⟨rfl, rfl⟩) | (go_at_call 20; fail))
  refine (km_cw (y := ⟨false, [], 0, wr, 0⟩) H5.out 1 (by simp [I64]) 8 (by unfold cwrC; rw [if_neg (by omega), if_pos HW0.out])).mono ?_
  rintro e W6 ⟨rfl, h6⟩
  have H6 := Lib.hid h6
  clear h6 H5
  go_wp2_with (first | (go_at_call 24; refine (ends_any _ _ _ _ _).mono ?_; rintro e w9 ⟨rfl, rfl⟩) | (go_at_call 12; fail))
  refine (km_left H6.out 0 false (by simp [Mt.rest]) rfl).mono ?_
  rintro e W7 ⟨rfl, h7⟩
  have H7 := Lib.hid h7
  clear h7 H6
  go_wp2_with (first | (go_at_call 24; refine (ends_any _ _ _ _ _).mono ?_; rintro e w9 ⟨rfl, rfl⟩) | (go_at_call 16; fail))
  refine (km_result (y := ⟨false, [], 0, wr, 0⟩) H7.out 0 9 (by unfold resC witC; rw [if_neg (by rintro ⟨_, h1, h2, _⟩; exact HW0.out h1), if_pos rfl])).mono ?_
  rintro e W8 ⟨rfl, h8⟩
  have H8 := Lib.hid h8
  clear h8 H7
  go_wp2_with (first | (go_at_call 24; refine (ends_any _ _ _ _ _).mono ?_; rintro e w9 ⟨rfl, rfl⟩) | (go_at_call 19; fail))
  have g8 := H8.out.grow (below_alloc _ (.cells #[.string (strB L)] 9))
  refine (km_of (Ps := [L]) g8 (strs_made _ [L] (by simp) _ rfl 1 rfl) (by have := HL.out; simp; omega) (by simp)).mono ?_
  rintro e W9 ⟨x1, x2, x3, x4, x5, x6, rfl, R9, h9⟩
  have H9 := Lib.hid h9
  have HR9 := Lib.hid R9
  clear h9 H8 g8 R9
  go_wp2_with (go_at_call 18; fail)
  refine (km_offer (y := ⟨false, [], 0, wr, 0⟩) H9.out HR9.out 14 (by unfold offC; rw [if_neg (by simp), if_neg (by simp), if_pos HW0.out])).mono ?_
  rintro e W10 ⟨rfl, h10⟩
  have H10 := Lib.hid h10
  clear h10 H9 HR9
  go_wp2_with (go_at_call 9; fail)
  refine (known_any _).mono ?_
  rintro e w9 ⟨rfl, hb⟩
  go_wp2_with fail
  go_ret
  exact ⟨rfl, H10.out.be.trans (hb.mono H10.out.be.size)⟩
set_option maxRecDepth 100000 in
set_option maxHeartbeats 6400000 in
theorem closes_010 (w : World) (L : List UInt8) (hL : L.length ≤ 400) (n : Int) (hn : 0 ≤ n) (wr rd : Int) (hw : I64 wr) (hr : I64 rd) (hr0 : rd ≠ 0) :
    Calls Try.prog 6 #[.string (strB L), .int .i64 n, .int .i64 0, .int .i64 rd, .bool false] w fun e w' => e = .returned (.bool true) ∧ Below w.heap.size w w' := by
  have qr : (rd != 0) = true := by simp [hr0]
  have qr2 : (rd == 0) = false := by simp [hr0]
  have HR0 := Lib.hid hr0
  have HWI := Lib.hid hw
  have HRI := Lib.hid hr
  have HL := Lib.hid hL
  have hsz := strB_size L
  have hs400 : ((strB L).size : Int) ≤ 400 := by omega
  have hn0 : decide (n < 0) = false := by simp; omega
  have hx : Hid ((strB L).extract 0 0 = ⟨#[]⟩) := Lib.hid (by rw [strB_extract]; rfl)
  clear hL hw hr hsz hr0
  go_enter Try.func6, Try.ntmps6
  go_wp2_with (go_at_call 10; fail)
  refine (km_new w _ (Below.refl _ _)).mono ?_
  rintro e W0 ⟨m, b, rfl, h0⟩
  have H0 := Lib.hid h0
  clear h0
  unfold pt
  go_wp2_with (first | (go_at_call 24; refine (ends_any _ _ _ _ _).mono ?_; rintro e w9 ⟨rfl, rfl⟩) | (go_at_call 21; fail))
  have h0 : KM w W0 m b ⟨false, [], 0, 0, 0⟩ := H0.out
  clear H0
  have H0 := Lib.hid h0
  clear h0
  refine (km_cr (y := ⟨false, [], 0, 0, rd⟩) H0.out rd HRI.out 0 (by unfold crdC; rw [if_neg HR0.out, if_neg (by simp)])).mono ?_
  rintro e W1 ⟨rfl, h1⟩
  have H1 := Lib.hid h1
  clear h1 H0
  go_wp2_with (first | (go_at_call 24; refine (ends_any _ _ _ _ _).mono ?_; rintro e w9 ⟨rfl, rfl⟩) | (go_at_call 13; fail))
  refine (km_closed H1.out).mono ?_
  rintro e W2 ⟨rfl, h2⟩
  have H2 := Lib.hid h2
  clear h2 H1
  have hxx := hx.out
  go_wp2_with (first | (go_at_call 24; refine (ends_any _ _ _ _ _).mono ?_; rintro e w9 ⟨rfl, rfl⟩) | (go_at_call 25; fail))
  refine (km_takes (y := ⟨false, [], 0, 0, rd⟩) H2.out 1 [] rd (by unfold takC; rw [if_neg (by omega), if_neg (by omega), if_pos HR0.out])).mono ?_
  rintro e W3 ⟨rfl, h3⟩
  have H3 := Lib.hid h3
  clear h3 H2
  go_wp2_with (first | (go_at_call 24; refine (ends_any _ _ _ _ _).mono ?_; rintro e w9 ⟨rfl, rfl⟩) | (go_at_call 25; fail))
  refine (km_takes (y := ⟨false, [], 0, 0, rd⟩) H3.out 0 [] 0 (by unfold takC; rw [if_neg (by omega), if_pos rfl])).mono ?_
  rintro e W4 ⟨rfl, h4⟩
  have H4 := Lib.hid h4
  clear h4 H3
  go_wp2_with (first | (go_at_call 24; refine (ends_any _ _ _ _ _).mono ?_; rintro e w9 ⟨rfl, rfl⟩) | (go_at_call 20; fail))
  refine (km_cw (y := ⟨false, [], 0, 0, rd⟩) H4.out 0 (by simp [I64]) 2 (by unfold cwrC; rw [if_pos rfl])).mono ?_
  rintro e W5 ⟨rfl, h5⟩
  have H5 := Lib.hid h5
  clear h5 H4
  go_wp2_with (first | (go_at_call 24; refine (ends_any _ _ _ _ _).mono ?_; rintro e w9 ⟨rfl, rfl⟩) | (go_at_call 21; fail))
  refine (km_cr (y := ⟨false, [], 0, 0, rd⟩) H5.out 1 (by simp [I64]) 8 (by unfold crdC; rw [if_neg (by omega), if_pos HR0.out])).mono ?_
  rintro e W6 ⟨rfl, h6⟩
  have H6 := Lib.hid h6
  clear h6 H5
  go_wp2_with (first | (go_at_call 24; refine (ends_any _ _ _ _ _).mono ?_; rintro e w9 ⟨rfl, rfl⟩) | (go_at_call 12; fail))
  refine (km_left H6.out 0 false (by simp [Mt.rest]) rfl).mono ?_
  rintro e W7 ⟨rfl, h7⟩
  have H7 := Lib.hid h7
  clear h7 H6
  go_wp2_with (first | (go_at_call 24; refine (ends_any _ _ _ _ _).mono ?_; rintro e w9 ⟨rfl, rfl⟩) | (go_at_call 16; fail))
  refine (km_result (y := ⟨false, [], 0, 0, rd⟩) H7.out 0 9 (by unfold resC witC; rw [if_neg (by rintro ⟨_, h1, h2, _⟩; exact HR0.out h2), if_pos rfl])).mono ?_
  rintro e W8 ⟨rfl, h8⟩
  have H8 := Lib.hid h8
  clear h8 H7
  go_wp2_with (first | (go_at_call 24; refine (ends_any _ _ _ _ _).mono ?_; rintro e w9 ⟨rfl, rfl⟩) | (go_at_call 19; fail))
  have g8 := H8.out.grow (below_alloc _ (.cells #[.string (strB L)] 9))
  refine (km_of (Ps := [L]) g8 (strs_made _ [L] (by simp) _ rfl 1 rfl) (by have := HL.out; simp; omega) (by simp)).mono ?_
  rintro e W9 ⟨x1, x2, x3, x4, x5, x6, rfl, R9, h9⟩
  have H9 := Lib.hid h9
  have HR9 := Lib.hid R9
  clear h9 H8 g8 R9
  go_wp2_with (go_at_call 18; fail)
  refine (km_offer (y := ⟨false, [], 0, 0, rd⟩) H9.out HR9.out rd (by unfold offC; rw [if_neg (by simp), if_pos HR0.out])).mono ?_
  rintro e W10 ⟨rfl, h10⟩
  have H10 := Lib.hid h10
  clear h10 H9 HR9
  go_wp2_with (go_at_call 9; fail)
  refine (known_any _).mono ?_
  rintro e w9 ⟨rfl, hb⟩
  go_wp2_with fail
  go_ret
  exact ⟨rfl, H10.out.be.trans (hb.mono H10.out.be.size)⟩
end Go.Proofs.Ytophkjnniodegaa
