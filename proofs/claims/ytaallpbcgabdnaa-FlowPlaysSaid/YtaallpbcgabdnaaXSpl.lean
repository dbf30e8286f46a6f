/- The walk of FlowSplits. -/
import Derived.Test.YtaallpbcgabdnaaXSmall
import Derived.Test.YtaallpbcgabdnaaBMin
namespace Go.Proofs.Ytaallpbcgabdnaa
open Go.RowKit Go.Sort
set_option linter.unusedVariables false
set_option linter.unusedSimpArgs false

/-- Two streams that a law holds. -/
structure K2 (w W : World) (m : Nat) (k : Fb) (x : Ft) (m2 : Nat) (k2 : Fb) (y : Ft) : Prop where
  one : KF w W m k x
  two : KF w W m2 k2 y
  nb : k2.b ≠ k.b
  nbb : k2.bb ≠ k.bb
  ncc : k2.cc ≠ k.cc
section
variable {w W W' : World} {m m2 : Nat} {k k2 : Fb} {x x' y y' : Ft}
theorem K2.grow (h : K2 w W m k x m2 k2 y) (hb : Below W.heap.size W W') : K2 w W' m k x m2 k2 y := ⟨h.one.grow hb, h.two.grow hb, h.nb, h.nbb, h.ncc⟩
theorem K2.first (h : K2 w W m k x m2 k2 y) (hm : KF w W' m k x') (hf : Fr k.F W W') : K2 w W' m k x' m2 k2 y :=
  ⟨hm, ⟨h.one.at'.other h.two.at' h.nb h.nbb h.ncc hf, h.two.new, hm.be⟩, h.nb, h.nbb, h.ncc⟩
theorem K2.second (h : K2 w W m k x m2 k2 y) (hm : KF w W' m2 k2 y') (hf : Fr k2.F W W') : K2 w W' m k x m2 k2 y' :=
  ⟨⟨h.two.at'.other h.one.at' (Ne.symm h.nb) (Ne.symm h.nbb) (Ne.symm h.ncc) hf, h.one.new, hm.be⟩, hm, h.nb, h.nbb, h.ncc⟩
theorem k2_new2 (h : KF w W m k x) {c : Nat} (h1 : 1 ≤ c) (h2 : c ≤ 4096) : Calls Try.prog 10 #[.int .i64 (c : Nat)] W fun e W' => ∃ m2 k2, e = .returned (.tuple #[pt m2, .int .i64 0]) ∧ K2 w W' m k x m2 k2 (Ft.new c) := by
  refine (kf_new h.be h1 h2).mono ?_
  rintro e W' ⟨m2, k2, rfl, h3, h4, h5⟩
  have hl := h.at'.lt
  obtain ⟨n1, n2, n3, n4, n5⟩ := h4
  exact ⟨m2, k2, rfl, h.grow h5, h3, by omega, by omega, by omega⟩
end
theorem src_acts1 (w : World) {pv : Value} {Ps : Parts} (h : SrcV w pv (Ps.map encS)) (a : Option Addr) (pl pc : Nat) (hp : pv = .slice a pl pc) (hl : Ps.length = pl) :
    SrcA (w.alloc (.cells #[.int .i64 0, .int .i64 0, pv, .int .i64 0] 35)) (.slice (some ⟨w.heap.size, 0, none⟩) 1 1) [⟨0, 0, Ps, 0⟩] := by
  refine ⟨_, _, rfl, by unfold maxLen; simp, .inr ⟨w.heap.size, 0, rfl, by simp, fun i hi => ?_⟩⟩
  have h0 : i = 0 := by simpa using hi
  subst h0
  subst hp
  have hg : ∀ o v, (#[.int .i64 0, .int .i64 0, .slice a pl pc, .int .i64 0] : Array Value)[o]? = some v → (w.alloc (.cells #[.int .i64 0, .int .i64 0, .slice a pl pc, .int .i64 0] 35)).cell? ⟨w.heap.size, o, none⟩ = some v := fun o v hv => cell_new _ _ _ _ _ _ rfl hv
  exact ⟨a, pl, pc, hg 0 _ rfl, hg 1 _ rfl, hg 2 _ rfl, hg 3 _ rfl, h.grown (below_alloc _ _), hl, by simp [I64], by simp [I64], by simp [I64]⟩
/-- What a first write leaves. -/
theorem wr_first (c : Nat) (hc : 1 ≤ c) (S : List UInt8) (n : Nat) (hn : n = min S.length c) : wrC (Ft.new c) S = (n, 0, ⟨c, S.take n, 0, 0⟩) := by
  unfold wrC Ft.new Ft.n
  simp only [List.length_nil, Nat.sub_zero, List.nil_append]
  rw [if_neg (by simp), if_neg (by simp)]
  by_cases h0 : S.length = 0
  · rw [if_pos h0]
    have h1 : S = [] := List.eq_nil_of_length_eq_zero h0
    subst h1
    have : n = 0 := by rw [hn]; simp
    subst this
    rfl
  · rw [if_neg h0, if_neg (by omega), ← hn]

set_option maxHeartbeats 1600000 in
set_option maxRecDepth 100000 in
theorem splits_known (w : World) (c : Int) (pa : Option Addr) (pl pc : Nat) (h : c < 1 ∨ (1 ≤ c ∧ 4096 < c)) :
    Calls Try.prog 4 #[.int .i64 c, .slice pa pl pc] w fun e w' => e = .returned (.bool true) ∧ Below w.heap.size w w' := by
  rcases h with h | ⟨h1, h⟩
  all_goals
    go_enter Try.func4, Try.ntmps4
    go_wp2_with (go_at_call 9; refine (known_any _).mono ?_; rintro e w9 ⟨rfl, hb⟩)
    go_ret
    exact ⟨rfl, hb⟩
set_option maxRecDepth 100000 in
set_option maxHeartbeats 6400000 in
theorem splits_main {w : World} {pv : Value} {Ps : Parts} {c : Nat} (hc1 : 1 ≤ c) (hc2 : c ≤ 4096) (h : SrcV w pv (Ps.map encS)) :
    Calls Try.prog 4 #[.int .i64 (c : Nat), pv] w fun e w' => e = .returned (.bool true) ∧ Below w.heap.size w w' := by
  obtain ⟨pa, pc, hpf, hpc1, hpc2⟩ := h.formS
  have HP := Lib.hid h
  obtain ⟨pl, hpl⟩ : ∃ pl, pl = Ps.length := ⟨_, rfl⟩
  rw [← hpl] at hpf
  subst hpf
  have HPL := Lib.hid hpl
  have HC1 := Lib.hid hc1
  have HC2 := Lib.hid hc2
  have i1 : (1 : Int) ≤ (c : Int) := by omega
  have i2 : (c : Int) ≤ 4096 := by omega
  have hsa := Lib.hid (src_acts1 w h pa pl pc rfl hpl.symm)
  clear h hpl hc1 hc2
  go_enter Try.func4, Try.ntmps4
  go_wp2_with (go_at_call 8; fail)
  have hb0 := below_alloc w (.cells #[.int .i64 0, .int .i64 0, .slice pa pl pc, .int .i64 0] 35)
  have HB0 := Lib.hid hb0
  clear hb0
  refine (small_any hsa.out).mono ?_
  generalize hW0 : w.alloc (.cells #[.int .i64 0, .int .i64 0, .slice pa pl pc, .int .i64 0] 35) = W0 at *
  have hKn : Hid (∀ W, Below w.heap.size w W → Calls Try.prog 9 #[] W fun e W' => e = .returned (.bool true) ∧ Below w.heap.size w W') := Lib.hid (fun W hW => (known_any W).mono (by
    rintro e W' ⟨rfl, hb⟩
    exact ⟨rfl, hW.trans (hb.mono hW.size)⟩))
  rintro e w' ⟨(⟨rfl, -, hsm⟩ | rfl), rfl⟩
  case' inr =>
    go_wp2_with (go_at_call 9; refine (hKn.out _ HB0.out).mono ?_; rintro e w9 ⟨rfl, hb⟩)
    go_ret
    exact ⟨rfl, hb⟩
  have hsm1 := hsm ⟨0, 0, Ps, 0⟩ (by simp)
  have HSM := Lib.hid hsm1
  clear hsm hsm1
  have hPS : Hid (SrcV w' (.slice pa pl pc) (Ps.map encS)) := Lib.hid (HP.out.grown HB0.out)
  obtain ⟨S, hS⟩ : ∃ S, S = Ps.flatten := ⟨_, rfl⟩
  have hSl : S.length ≤ 12000 := by rw [hS]; have h1 := flat_small Ps HSM.out.2; have h2 : Ps.length ≤ 30 := HSM.out.1; have : Ps.length * 400 ≤ 30 * 400 := Nat.mul_le_mul_right _ h2; omega
  have HS := Lib.hid hS
  have HSL := Lib.hid hSl
  have HP30 : Hid (Ps.length ≤ 30) := Lib.hid HSM.out.1
  obtain ⟨n, hn⟩ : ∃ n, n = min S.length c := ⟨_, rfl⟩
  have HNM := Lib.hid hn
  have hwf := Lib.hid (wr_first c HC1.out S n hn)
  clear hS hSl hn hW0
  go_wp2_with (go_at_call 10; fail)
  refine (kf_new HB0.out HC1.out HC2.out).mono ?_
  rintro e W1 ⟨m, k, rfl, h1, -, hb1⟩
  have H1 := Lib.hid h1
  have HB1 := Lib.hid hb1
  clear h1 hb1
  go_wp2_with (go_at_call 10; fail)
  refine (k2_new2 H1.out HC1.out HC2.out).mono ?_
  rintro e W2 ⟨m2, k2, rfl, h2⟩
  have H2 := Lib.hid h2
  clear h2 H1
  unfold pt
  go_wp2_with (go_at_call 17; fail)
  have htx := text_any (x0 := 0) (x1 := 0) (x3 := 0) (HP.out.grown H2.out.one.be) (by rw [← HS.out]; have := HSL.out; omega) (by have := HP30.out; omega)
  rw [← HS.out] at htx
  refine htx.mono ?_
  rintro e W3 ⟨rfl, hb⟩
  have H3 := Lib.hid (H2.out.grow hb)
  clear htx hb H2
  go_wp2_with (go_at_call 19; fail)
  refine (kf_of H3.out.one (HP.out.grown H3.out.one.be) (by rw [← HS.out]; have := HSL.out; omega) (by have := HP30.out; omega)).mono ?_
  rintro e W4 ⟨x1, x2, x3, x4, x5, x6, rfl, R4, -, hb⟩
  have H4 := Lib.hid (H3.out.grow hb)
  have HR4 := Lib.hid R4
  clear hb R4 H3
  go_wp2_with (go_at_call 18; fail)
  refine (kf_write H4.out.one HR4.out n 0 (by rw [← HS.out]; exact hwf.out)).mono ?_
  rintro e W5 ⟨rfl, h5, f5⟩
  have H5 := Lib.hid (H4.out.first h5 f5)
  clear h5 f5 H4 HR4
  go_wp2_with (go_at_call 19; fail)
  have g5 := below_alloc W5 (.cells #[.string (strB S)] 9)
  refine (kf_of (Ps := [S]) (H5.out.one.grow g5) (strs_made _ [S] (by simp) _ rfl 1 rfl) (by have := HSL.out; simp; omega) (by simp)).mono ?_
  rintro e W6 ⟨x1, x2, x3, x4, x5, x6, rfl, R6, -, hb⟩
  have H6 := Lib.hid ((H5.out.grow g5).grow hb)
  have HR6 := Lib.hid R6
  clear hb R6 g5 H5
  go_wp2_with (go_at_call 18; fail)
  refine (kf_write H6.out.two HR6.out n 0 (by simpa using hwf.out)).mono ?_
  rintro e W7 ⟨rfl, h7, f7⟩
  have H7 := Lib.hid (H6.out.second h7 f7)
  clear h7 f7 H6 HR6 hsa hPS
  have hsz := strB_size S
  have hmin : min (c : Int) ((strB S).size : Int) = (n : Int) := by rw [hsz, HNM.out]; omega
  have HMIN := Lib.hid hmin
  have hne := strB_none S
  have hns : (n : Int) ≤ ((strB S).size : Int) := by rw [hsz, HNM.out]; omega
  have hext : Hid ((strB S).extract 0 n = strB (S.take n)) := Lib.hid (by rw [strB_extract]; simp)
  have hnl : (S.take n).length = n := by rw [List.length_take, HNM.out]; omega
  have HLEN := Lib.hid (flLen_any H7.out.one.at')
  have hl7 : (⟨c, S.take n, 0, 0⟩ : Ft).S.length = n := hnl
  rw [hl7] at HLEN
  have HNL := Lib.hid hnl
  have hSb : ((strB S).size : Int) ≤ 12000 := by rw [hsz]; have := HSL.out; omega
  clear hmin hnl hl7
  unfold pt at HLEN
  by_cases h0 : S.length = 0
  · have hn0 : n = 0 := by rw [HNM.out, h0]; simp
    subst hn0
    simp only [h0, decide_true] at hne
    clear h0
    generalize strB S = s at *
    clear hsz
    go_wp2_with (first
      | (refine wpList_unguard rfl (wpList_min rfl (.tmp 81) (.tmp 83) _ rfl c s.size 0 rfl rfl HMIN.out ?_))
      | (go_at_call 14; refine HLEN.out.mono ?_; rintro e w9 ⟨rfl, rfl⟩)
      | (go_at_call 9; refine (hKn.out _ H7.out.one.be).mono ?_; rintro e w9 ⟨rfl, hb⟩))
    go_ret
    exact ⟨rfl, hb⟩
  · simp only [h0, decide_false] at hne
    have hn5 : n ≤ 4096 := by rw [HNM.out]; have := HC2.out; omega
    have hn0 : 0 < n := by rw [HNM.out]; have := HC1.out; omega
    have hrd : rdC ⟨c, S.take n, 0, 0⟩ 5000 = (S.take n, 0, ⟨c, [], 0, 0⟩) := by
      unfold rdC
      simp only
      rw [if_neg (by omega), if_neg (by omega), if_neg (by rw [HNL.out]; omega), show (5000 : Int).toNat = 5000 from rfl, List.take_of_length_le (by rw [HNL.out]; omega), List.drop_of_length_le (by rw [HNL.out]; omega)]
    have HRD := Lib.hid hrd
    clear h0 hn5 hn0 hrd
    generalize strB S = s at *
    clear hsz
    go_wp2_with (first
      | (refine wpList_unguard rfl (wpList_min rfl (.tmp 81) (.tmp 83) _ rfl c s.size n rfl rfl HMIN.out ?_))
      | (go_at_call 14; refine HLEN.out.mono ?_; rintro e w9 ⟨rfl, rfl⟩)
      | (go_at_call 20; fail))
    rw [hext.out]
    refine (reads_yes H7.out.one 5000 0 HRD.out).mono ?_
    rintro e W8 ⟨rfl, h8, f8⟩
    have H8 := Lib.hid (H7.out.first h8 f8)
    clear h8 f8 HLEN
    go_wp2_with (go_at_call 20; fail)
    rw [hext.out]
    refine (reads_yes H8.out.two 5000 0 HRD.out).mono ?_
    rintro e W9 ⟨rfl, h9, f9⟩
    have H9 := Lib.hid h9.be
    clear h9 f9 H8
    go_wp2_with (go_at_call 9; fail)
    refine (hKn.out _ H9.out).mono ?_
    rintro e w9 ⟨rfl, hb⟩
    have HBB := Lib.hid hb
    clear hb
    go_wp2_with fail
    go_ret
    exact ⟨rfl, HBB.out⟩
theorem flowSplits_walk {w : World} {pv : Value} {Ps : Parts} (c : Int) (h : SrcV w pv (Ps.map encS)) :
    Calls Try.prog 4 #[.int .i64 c, pv] w fun e w' => e = .returned (.bool true) ∧ Below w.heap.size w w' := by
  obtain ⟨pa, pc, hpf, _, _⟩ := h.formS
  by_cases h1 : c < 1
  · subst hpf; exact splits_known w c pa _ pc (.inl h1)
  by_cases h2 : 4096 < c
  · subst hpf; exact splits_known w c pa _ pc (.inr ⟨by omega, h2⟩)
  obtain ⟨c', rfl⟩ := Int.eq_ofNat_of_zero_le (show 0 ≤ c by omega)
  exact splits_main (by omega) (by omega) h
end Go.Proofs.Ytaallpbcgabdnaa
