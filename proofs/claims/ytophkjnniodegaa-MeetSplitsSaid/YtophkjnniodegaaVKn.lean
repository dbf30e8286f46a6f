/- A stream that a law holds; the law's own known. -/
import Derived.Test.YtophkjnniodegaaVLaw
namespace Go.Proofs.Ytophkjnniodegaa
open Go.RowKit Go.Sort
set_option linter.unusedVariables false
set_option linter.unusedSimpArgs false

/-- A stream that was made since the law began in the world w. -/
structure KM (w W : World) (m b : Nat) (x : Mt) : Prop where
  at' : MAt W m b x
  lm : w.heap.size ≤ m
  lb : w.heap.size ≤ b
  be : Below w.heap.size w W
section
variable {w W W' : World} {m b : Nat} {x y : Mt}
theorem KM.next (h : KM w W m b x) (hm : MAt W' m b y) (hf : Fr [b] W W') : KM w W' m b y := ⟨hm, h.lm, h.lb, h.be.trans (hf.below (fun x hx => by simp at hx; have := h.lb; omega) h.be.size)⟩
theorem KM.grow (h : KM w W m b x) (hb : Below W.heap.size W W') : KM w W' m b x := ⟨h.at'.grown hb, h.lm, h.lb, h.be.trans (hb.mono h.be.size)⟩
theorem km_new (w W : World) (h0 : Below w.heap.size w W) : Calls Try.prog 10 #[] W fun e W' => ∃ m b, e = .returned (pt m) ∧ KM w W' m b Mt.zero := by
  refine (mtNew_any W).mono ?_
  rintro e W' ⟨m, b, rfl, h1, h2, h3, h4⟩
  exact ⟨m, b, rfl, h1, Nat.le_trans h0.size h2, Nat.le_trans h0.size h3, h0.trans (h4.mono h0.size)⟩
theorem km_takes (h : KM w W m b x) (n : Int) (L : List UInt8) (e : Int) (hy : takC x n = (L, e, y)) : Calls Try.prog 25 #[pt m, .int .i64 n, .string (strB L), .int .i64 e] W fun e' W' => e' = .returned (.bool true) ∧ KM w W' m b y := by
  refine (takes_yes h.at' n hy).mono ?_
  rintro e' W' ⟨rfl, hm, hf⟩
  exact ⟨rfl, h.next hm hf⟩
theorem km_result (h : KM w W m b x) (n e : Int) (hy : resC x = (n, e, y)) : Calls Try.prog 16 #[pt m] W fun e' W' => e' = .returned (.tuple #[.int .i64 n, .int .i64 e]) ∧ KM w W' m b y := by
  have hr := mtResult_any h.at'
  rw [hy] at hr
  refine hr.mono ?_
  rintro e' W' ⟨rfl, hm, hf⟩
  exact ⟨rfl, h.next hm hf⟩
theorem km_withdraw (h : KM w W m b x) (n e : Int) (hy : witC x = (n, e, y)) : Calls Try.prog 17 #[pt m] W fun e' W' => e' = .returned (.tuple #[.int .i64 n, .int .i64 e]) ∧ KM w W' m b y := by
  have hr := mtWithdraw_any h.at'
  rw [hy] at hr
  refine hr.mono ?_
  rintro e' W' ⟨rfl, hm, hf⟩
  exact ⟨rfl, h.next hm hf⟩
theorem km_cw (h : KM w W m b x) (c : Int) (hc : I64 c) (e : Int) (hy : cwrC x c = (e, y)) : Calls Try.prog 20 #[pt m, .int .i64 c] W fun e' W' => e' = .returned (.int .i64 e) ∧ KM w W' m b y := by
  have hr := mtCloseWrite_any h.at' c hc
  rw [hy] at hr
  refine hr.mono ?_
  rintro e' W' ⟨rfl, hm, hf⟩
  exact ⟨rfl, h.next hm hf⟩
theorem km_cr (h : KM w W m b x) (c : Int) (hc : I64 c) (e : Int) (hy : crdC x c = (e, y)) : Calls Try.prog 21 #[pt m, .int .i64 c] W fun e' W' => e' = .returned (.int .i64 e) ∧ KM w W' m b y := by
  have hr := mtCloseRead_any h.at' c hc
  rw [hy] at hr
  refine hr.mono ?_
  rintro e' W' ⟨rfl, hm, hf⟩
  exact ⟨rfl, h.next hm hf⟩
theorem km_left (h : KM w W m b x) (n : Int) (is : Bool) (h1 : ((x.rest.length : Nat) : Int) = n) (h2 : x.is = is) : Calls Try.prog 12 #[pt m] W fun e' W' => e' = .returned (.tuple #[.int .i64 n, .bool is]) ∧ KM w W' m b x := by
  have hr := mtLeft_any h.at'
  rw [h1, h2] at hr
  refine hr.mono ?_
  rintro e' W' ⟨rfl, hb⟩
  exact ⟨rfl, h.grow hb⟩
theorem km_closed (h : KM w W m b x) : Calls Try.prog 13 #[pt m] W fun e' W' => e' = .returned (.tuple #[.int .i64 x.wr, .int .i64 x.rd]) ∧ KM w W' m b x := by
  refine (mtClosed_any h.at').mono ?_
  rintro e' W' ⟨rfl, hb⟩
  exact ⟨rfl, h.grow hb⟩
theorem km_offer {c : Nat} {v : Value} {Ps : Parts} (h : KM w W m b x) (R : RopeAt W c v (full Ps)) (e : Int) (hy : offC x Ps.flatten = (e, y)) : Calls Try.prog 18 #[pt m, v] W fun e' W' => e' = .returned (.int .i64 e) ∧ KM w W' m b y := by
  have hr := mtOffer_any h.at' R
  rw [full_flat, hy] at hr
  refine hr.mono ?_
  rintro e' W' ⟨rfl, hm, hf⟩
  exact ⟨rfl, h.next hm hf⟩
theorem km_of (h : KM w W m b x) {v : Value} {Ps : Parts} (hs : SrcV W v (Ps.map encS)) (hn : Ps.flatten.length ≤ 60000) (hk : Ps.length ≤ 1000) :
    Calls Try.prog 19 #[v] W fun e W' => ∃ x1 x2 x3 x4 x5 x6, e = .returned (.agg #[.slice x1 x2 x3, .slice x4 x5 x6]) ∧ RopeAt W' W.heap.size (.agg #[.slice x1 x2 x3, .slice x4 x5 x6]) (full Ps) ∧ KM w W' m b x := by
  refine (of_any hs hn hk).mono ?_
  rintro e W' ⟨u, rfl, hR, hb⟩
  obtain ⟨x1, x2, x3, x4, x5, x6, rfl⟩ := hR.shape
  exact ⟨_, _, _, _, _, _, rfl, hR, h.grow hb⟩
theorem strs_made (w : World) (Ps : Parts) (h : Ps.length ≤ 1000) (cs : Array Value) (hc : cs = (Ps.map encS).toArray) (n : Nat) (hn : n = Ps.length) : SrcV (w.alloc (.cells cs 9)) (.slice (some ⟨w.heap.size, 0, none⟩) n n) (Ps.map encS) := by
  subst hc hn
  have := (row_made w 9 (Ps.map encS) (by rw [List.length_map]; unfold maxLen; omega)).src
  rwa [List.length_map] at this
end

set_option maxRecDepth 100000 in
set_option maxHeartbeats 6400000 in
theorem known_any (w : World) : Calls Try.prog 9 #[] w fun e w' => e = .returned (.bool true) ∧ Below w.heap.size w w' := by
  go_enter Try.func9, Try.ntmps9
  go_wp2_with (go_at_call 10; fail)
  refine (km_new w _ (Below.refl _ _)).mono ?_
  rintro e W0 ⟨m, b, rfl, h0⟩
  have H0 := Lib.hid h0
  clear h0
  unfold pt
  go_wp2_with (first | (go_at_call 24; refine (ends_any _ _ _ _ _).mono ?_; rintro e w9 ⟨rfl, rfl⟩) | (go_at_call 25; fail))
  refine (km_takes (y := ⟨false, [], 0, 0, 0⟩) H0.out 3 [] 16 rfl).mono ?_
  rintro e W1 ⟨rfl, h1⟩
  have H1 := Lib.hid h1
  clear h1 H0
  go_wp2_with (first | (go_at_call 24; refine (ends_any _ _ _ _ _).mono ?_; rintro e w9 ⟨rfl, rfl⟩) | (go_at_call 25; fail))
  refine (km_takes (y := ⟨false, [], 0, 0, 0⟩) H1.out 0 [] 0 rfl).mono ?_
  rintro e W2 ⟨rfl, h2⟩
  have H2 := Lib.hid h2
  clear h2 H1
  go_wp2_with (first | (go_at_call 24; refine (ends_any _ _ _ _ _).mono ?_; rintro e w9 ⟨rfl, rfl⟩) | (go_at_call 16; fail))
  refine (km_result (y := ⟨false, [], 0, 0, 0⟩) H2.out 0 9 rfl).mono ?_
  rintro e W3 ⟨rfl, h3⟩
  have H3 := Lib.hid h3
  clear h3 H2
  go_wp2_with (first | (go_at_call 24; refine (ends_any _ _ _ _ _).mono ?_; rintro e w9 ⟨rfl, rfl⟩) | (go_at_call 19; fail))
  have g3 := H3.out.grow (below_alloc _ (.cells #[.string ⟨#[97, 98]⟩, .string ⟨#[99, 100, 101]⟩] 9))
  refine (km_of (Ps := [[97, 98], [99, 100, 101]]) g3 (strs_made _ [[97, 98], [99, 100, 101]] (by simp) _ rfl 2 rfl) (by simp) (by simp)).mono ?_
  rintro e W4 ⟨x1, x2, x3, x4, x5, x6, rfl, R4, h4⟩
  have H4 := Lib.hid h4
  have HR4 := Lib.hid R4
  clear h4 H3 g3 R4
  go_wp2_with (go_at_call 18; fail)
  refine (km_offer (y := ⟨true, [97, 98, 99, 100, 101], 0, 0, 0⟩) H4.out HR4.out 0 rfl).mono ?_
  rintro e W5 ⟨rfl, h5⟩
  have H5 := Lib.hid h5
  clear h5 H4 HR4
  go_wp2_with (first | (go_at_call 24; refine (ends_any _ _ _ _ _).mono ?_; rintro e w9 ⟨rfl, rfl⟩) | (go_at_call 19; fail))
  have g5 := H5.out.grow (below_alloc _ (.cells #[.string ⟨#[120]⟩] 9))
  refine (km_of (Ps := [[120]]) g5 (strs_made _ [[120]] (by simp) _ rfl 1 rfl) (by simp) (by simp)).mono ?_
  rintro e W6 ⟨x1, x2, x3, x4, x5, x6, rfl, R6, h6⟩
  have H6 := Lib.hid h6
  have HR6 := Lib.hid R6
  clear h6 H5 g5 R6
  go_wp2_with (go_at_call 18; fail)
  refine (km_offer (y := ⟨true, [97, 98, 99, 100, 101], 0, 0, 0⟩) H6.out HR6.out 11 rfl).mono ?_
  rintro e W7 ⟨rfl, h7⟩
  have H7 := Lib.hid h7
  clear h7 H6 HR6
  go_wp2_with (first | (go_at_call 24; refine (ends_any _ _ _ _ _).mono ?_; rintro e w9 ⟨rfl, rfl⟩) | (go_at_call 12; fail))
  refine (km_left H7.out 5 true rfl rfl).mono ?_
  rintro e W8 ⟨rfl, h8⟩
  have H8 := Lib.hid h8
  clear h8 H7
  go_wp2_with (first | (go_at_call 24; refine (ends_any _ _ _ _ _).mono ?_; rintro e w9 ⟨rfl, rfl⟩) | (go_at_call 25; fail))
  refine (km_takes (y := ⟨true, [97, 98, 99, 100, 101], 2, 0, 0⟩) H8.out 2 [97, 98] 0 rfl).mono ?_
  rintro e W9 ⟨rfl, h9⟩
  have H9 := Lib.hid h9
  clear h9 H8
  go_wp2_with (first | (go_at_call 24; refine (ends_any _ _ _ _ _).mono ?_; rintro e w9 ⟨rfl, rfl⟩) | (go_at_call 16; fail))
  refine (km_result (y := ⟨true, [97, 98, 99, 100, 101], 2, 0, 0⟩) H9.out 0 16 rfl).mono ?_
  rintro e W10 ⟨rfl, h10⟩
  have H10 := Lib.hid h10
  clear h10 H9
  go_wp2_with (first | (go_at_call 24; refine (ends_any _ _ _ _ _).mono ?_; rintro e w9 ⟨rfl, rfl⟩) | (go_at_call 25; fail))
  refine (km_takes (y := ⟨true, [97, 98, 99, 100, 101], 5, 0, 0⟩) H10.out 9 [99, 100, 101] 0 rfl).mono ?_
  rintro e W11 ⟨rfl, h11⟩
  have H11 := Lib.hid h11
  clear h11 H10
  go_wp2_with (first | (go_at_call 24; refine (ends_any _ _ _ _ _).mono ?_; rintro e w9 ⟨rfl, rfl⟩) | (go_at_call 25; fail))
  refine (km_takes (y := ⟨true, [97, 98, 99, 100, 101], 5, 0, 0⟩) H11.out 1 [] 16 rfl).mono ?_
  rintro e W12 ⟨rfl, h12⟩
  have H12 := Lib.hid h12
  clear h12 H11
  go_wp2_with (first | (go_at_call 24; refine (ends_any _ _ _ _ _).mono ?_; rintro e w9 ⟨rfl, rfl⟩) | (go_at_call 16; fail))
  refine (km_result (y := ⟨false, [], 0, 0, 0⟩) H12.out 5 0 rfl).mono ?_
  rintro e W13 ⟨rfl, h13⟩
  have H13 := Lib.hid h13
  clear h13 H12
  go_wp2_with (first | (go_at_call 24; refine (ends_any _ _ _ _ _).mono ?_; rintro e w9 ⟨rfl, rfl⟩) | (go_at_call 12; fail))
  refine (km_left H13.out 0 false rfl rfl).mono ?_
  rintro e W14 ⟨rfl, h14⟩
  have H14 := Lib.hid h14
  clear h14 H13
  go_wp2_with (first | (go_at_call 24; refine (ends_any _ _ _ _ _).mono ?_; rintro e w9 ⟨rfl, rfl⟩) | (go_at_call 19; fail))
  have g14 := H14.out.grow (below_alloc _ (.cells #[.string ⟨#[112, 113]⟩] 9))
  refine (km_of (Ps := [[112, 113]]) g14 (strs_made _ [[112, 113]] (by simp) _ rfl 1 rfl) (by simp) (by simp)).mono ?_
  rintro e W15 ⟨x1, x2, x3, x4, x5, x6, rfl, R15, h15⟩
  have H15 := Lib.hid h15
  have HR15 := Lib.hid R15
  clear h15 H14 g14 R15
  go_wp2_with (go_at_call 18; fail)
  refine (km_offer (y := ⟨true, [112, 113], 0, 0, 0⟩) H15.out HR15.out 0 rfl).mono ?_
  rintro e W16 ⟨rfl, h16⟩
  have H16 := Lib.hid h16
  clear h16 H15 HR15
  go_wp2_with (first | (go_at_call 24; refine (ends_any _ _ _ _ _).mono ?_; rintro e w9 ⟨rfl, rfl⟩) | (go_at_call 25; fail))
  refine (km_takes (y := ⟨true, [112, 113], 1, 0, 0⟩) H16.out 1 [112] 0 rfl).mono ?_
  rintro e W17 ⟨rfl, h17⟩
  have H17 := Lib.hid h17
  clear h17 H16
  go_wp2_with (first | (go_at_call 24; refine (ends_any _ _ _ _ _).mono ?_; rintro e w9 ⟨rfl, rfl⟩) | (go_at_call 20; fail))
  refine (km_cw (y := ⟨true, [112, 113], 1, 13, 0⟩) H17.out 13 (by simp [I64]) 0 rfl).mono ?_
  rintro e W18 ⟨rfl, h18⟩
  have H18 := Lib.hid h18
  clear h18 H17
  go_wp2_with (first | (go_at_call 24; refine (ends_any _ _ _ _ _).mono ?_; rintro e w9 ⟨rfl, rfl⟩) | (go_at_call 25; fail))
  refine (km_takes (y := ⟨true, [112, 113], 1, 13, 0⟩) H18.out 1 [] 13 rfl).mono ?_
  rintro e W19 ⟨rfl, h19⟩
  have H19 := Lib.hid h19
  clear h19 H18
  go_wp2_with (first | (go_at_call 24; refine (ends_any _ _ _ _ _).mono ?_; rintro e w9 ⟨rfl, rfl⟩) | (go_at_call 17; fail))
  refine (km_withdraw (y := ⟨false, [], 0, 13, 0⟩) H19.out 1 0 rfl).mono ?_
  rintro e W20 ⟨rfl, h20⟩
  have H20 := Lib.hid h20
  clear h20 H19
  go_wp2_with (first | (go_at_call 24; refine (ends_any _ _ _ _ _).mono ?_; rintro e w9 ⟨rfl, rfl⟩) | (go_at_call 25; fail))
  refine (km_takes (y := ⟨false, [], 0, 13, 0⟩) H20.out 1 [] 13 rfl).mono ?_
  rintro e W21 ⟨rfl, h21⟩
  have H21 := Lib.hid h21
  clear h21 H20
  go_wp2_with (first | (go_at_call 24; refine (ends_any _ _ _ _ _).mono ?_; rintro e w9 ⟨rfl, rfl⟩) | (go_at_call 19; fail))
  have g21 := H21.out.grow (below_alloc _ (.cells #[.string ⟨#[114]⟩] 9))
  refine (km_of (Ps := [[114]]) g21 (strs_made _ [[114]] (by simp) _ rfl 1 rfl) (by simp) (by simp)).mono ?_
  rintro e W22 ⟨x1, x2, x3, x4, x5, x6, rfl, R22, h22⟩
  have H22 := Lib.hid h22
  have HR22 := Lib.hid R22
  clear h22 H21 g21 R22
  go_wp2_with (go_at_call 18; fail)
  refine (km_offer (y := ⟨false, [], 0, 13, 0⟩) H22.out HR22.out 14 rfl).mono ?_
  rintro e W23 ⟨rfl, h23⟩
  have H23 := Lib.hid h23
  clear h23 H22 HR22
  go_wp2_with (first | (go_at_call 24; refine (ends_any _ _ _ _ _).mono ?_; rintro e w9 ⟨rfl, rfl⟩) | (go_at_call 21; fail))
  refine (km_cr (y := ⟨false, [], 0, 13, 14⟩) H23.out 14 (by simp [I64]) 0 rfl).mono ?_
  rintro e W24 ⟨rfl, h24⟩
  have H24 := Lib.hid h24
  clear h24 H23
  go_wp2_with (first | (go_at_call 24; refine (ends_any _ _ _ _ _).mono ?_; rintro e w9 ⟨rfl, rfl⟩) | (go_at_call 19; fail))
  have g24 := H24.out.grow (below_alloc _ (.cells #[.string ⟨#[115]⟩] 9))
  refine (km_of (Ps := [[115]]) g24 (strs_made _ [[115]] (by simp) _ rfl 1 rfl) (by simp) (by simp)).mono ?_
  rintro e W25 ⟨x1, x2, x3, x4, x5, x6, rfl, R25, h25⟩
  have H25 := Lib.hid h25
  have HR25 := Lib.hid R25
  clear h25 H24 g24 R25
  go_wp2_with (go_at_call 18; fail)
  refine (km_offer (y := ⟨false, [], 0, 13, 14⟩) H25.out HR25.out 14 rfl).mono ?_
  rintro e W26 ⟨rfl, h26⟩
  have H26 := Lib.hid h26
  clear h26 H25 HR25
  go_wp2_with (first | (go_at_call 24; refine (ends_any _ _ _ _ _).mono ?_; rintro e w9 ⟨rfl, rfl⟩) | (go_at_call 21; fail))
  refine (km_cr (y := ⟨false, [], 0, 13, 14⟩) H26.out 14 (by simp [I64]) 8 rfl).mono ?_
  rintro e W27 ⟨rfl, h27⟩
  have H27 := Lib.hid h27
  clear h27 H26
  go_wp2_with fail
  go_ret
  exact ⟨rfl, H27.out.be⟩
end Go.Proofs.Ytophkjnniodegaa
