/- The walk of MeetSplits. -/
import Derived.Test.YtophkjnniodegaaVSmall
import Derived.Test.YtophkjnniodegaaVClo
namespace Go.Proofs.Ytophkjnniodegaa
open Go.RowKit Go.Sort
set_option linter.unusedVariables false
set_option linter.unusedSimpArgs false

/-- Another stream stays as it is. -/
theorem MAt.other {W W' : World} {m b m2 b2 : Nat} {x y : Mt} (h : MAt W m b x) (k : MAt W m2 b2 y) (hne : b2 ≠ b) (hf : Fr [b] W W') : MAt W' m2 b2 y := by
  obtain ⟨v, h1, _⟩ := h.ex
  refine k.fr hf (by simpa using ne_types k.me h1 (by decide)) (by simpa using hne) fun g cur hg => ?_
  simpa using ne_types hg h1 (by decide)
/-- Two streams that a law holds. -/
structure K2 (w W : World) (m b : Nat) (x : Mt) (m2 b2 : Nat) (y : Mt) : Prop where
  one : KM w W m b x
  two : KM w W m2 b2 y
  ne : b ≠ b2
section
variable {w W W' : World} {m b m2 b2 : Nat} {x x' y y' : Mt}
theorem K2.grow (h : K2 w W m b x m2 b2 y) (hb : Below W.heap.size W W') : K2 w W' m b x m2 b2 y := ⟨h.one.grow hb, h.two.grow hb, h.ne⟩
theorem K2.first (h : K2 w W m b x m2 b2 y) (hm : MAt W' m b x') (hf : Fr [b] W W') : K2 w W' m b x' m2 b2 y :=
  ⟨h.one.next hm hf, ⟨h.one.at'.other h.two.at' (Ne.symm h.ne) hf, h.two.lm, h.two.lb, (h.one.next hm hf).be⟩, h.ne⟩
theorem K2.second (h : K2 w W m b x m2 b2 y) (hm : MAt W' m2 b2 y') (hf : Fr [b2] W W') : K2 w W' m b x m2 b2 y' :=
  ⟨⟨h.two.at'.other h.one.at' h.ne hf, h.one.lm, h.one.lb, (h.two.next hm hf).be⟩, h.two.next hm hf, h.ne⟩
theorem k2_new (w : World) : Calls Try.prog 10 #[] w fun e W' => ∃ m b, e = .returned (pt m) ∧ KM w W' m b Mt.zero ∧ b < W'.heap.size := by
  refine (km_new w w (Below.refl _ _)).mono ?_
  rintro e W' ⟨m, b, rfl, h⟩
  exact ⟨m, b, rfl, h, h.at'.lt.2⟩
theorem k2_new2 (h : KM w W m b x) : Calls Try.prog 10 #[] W fun e W' => ∃ m2 b2, e = .returned (pt m2) ∧ K2 w W' m b x m2 b2 Mt.zero := by
  refine (mtNew_any W).mono ?_
  rintro e W' ⟨m2, b2, rfl, h1, h2, h3, h4⟩
  have := h.at'.lt
  exact ⟨m2, b2, rfl, h.grow h4, ⟨h1, Nat.le_trans h.be.size h2, Nat.le_trans h.be.size h3, h.be.trans (h4.mono h.be.size)⟩, by omega⟩
theorem k2_of (h : K2 w W m b x m2 b2 y) {v : Value} {Ps : Parts} (hs : SrcV W v (Ps.map encS)) (hn : Ps.flatten.length ≤ 60000) (hk : Ps.length ≤ 1000) :
    Calls Try.prog 19 #[v] W fun e W' => ∃ x1 x2 x3 x4 x5 x6, e = .returned (.agg #[.slice x1 x2 x3, .slice x4 x5 x6]) ∧ RopeAt W' W.heap.size (.agg #[.slice x1 x2 x3, .slice x4 x5 x6]) (full Ps) ∧ K2 w W' m b x m2 b2 y := by
  refine (of_any hs hn hk).mono ?_
  rintro e W' ⟨u, rfl, hR, hb⟩
  obtain ⟨x1, x2, x3, x4, x5, x6, rfl⟩ := hR.shape
  exact ⟨_, _, _, _, _, _, rfl, hR, h.grow hb⟩
theorem k2_offer1 {c : Nat} {v : Value} {Ps : Parts} (h : K2 w W m b x m2 b2 y) (R : RopeAt W c v (full Ps)) (e : Int) (hy : offC x Ps.flatten = (e, x')) : Calls Try.prog 18 #[pt m, v] W fun e' W' => e' = .returned (.int .i64 e) ∧ K2 w W' m b x' m2 b2 y := by
  have hr := mtOffer_any h.one.at' R
  rw [full_flat, hy] at hr
  refine hr.mono ?_
  rintro e' W' ⟨rfl, hm, hf⟩
  exact ⟨rfl, h.first hm hf⟩
theorem k2_offer2 {c : Nat} {v : Value} {Ps : Parts} (h : K2 w W m b x m2 b2 y) (R : RopeAt W c v (full Ps)) (e : Int) (hy : offC y Ps.flatten = (e, y')) : Calls Try.prog 18 #[pt m2, v] W fun e' W' => e' = .returned (.int .i64 e) ∧ K2 w W' m b x m2 b2 y' := by
  have hr := mtOffer_any h.two.at' R
  rw [full_flat, hy] at hr
  refine hr.mono ?_
  rintro e' W' ⟨rfl, hm, hf⟩
  exact ⟨rfl, h.second hm hf⟩
theorem k2_take1 (h : K2 w W m b x m2 b2 y) (n : Int) (L : List UInt8) (e : Int) (hy : takC x n = (L, e, x')) :
    Calls Try.prog 15 #[pt m, .int .i64 n] W fun e' W' => ∃ a k c, e' = .returned (.tuple #[.slice a k c, .int .i64 e]) ∧ RowB W' W.heap.size (.slice a k c) L ∧ K2 w W' m b x' m2 b2 y := by
  have ht := mtTake_any h.one.at' n
  rw [hy] at ht
  refine ht.mono ?_
  rintro e' W' ⟨vp, rfl, hr, hm, hf⟩
  obtain ⟨a, k, c, rfl⟩ := row_form hr
  exact ⟨a, k, c, rfl, hr, h.first (hm W' fun _ _ => rfl) hf⟩
theorem k2_take2 (h : K2 w W m b x m2 b2 y) (n : Int) (L : List UInt8) (e : Int) (hy : takC y n = (L, e, y')) :
    Calls Try.prog 15 #[pt m2, .int .i64 n] W fun e' W' => ∃ a k c, e' = .returned (.tuple #[.slice a k c, .int .i64 e]) ∧ RowB W' W.heap.size (.slice a k c) L ∧ K2 w W' m b x m2 b2 y' ∧ Fr [b2] W W' := by
  have ht := mtTake_any h.two.at' n
  rw [hy] at ht
  refine ht.mono ?_
  rintro e' W' ⟨vp, rfl, hr, hm, hf⟩
  obtain ⟨a, k, c, rfl⟩ := row_form hr
  exact ⟨a, k, c, rfl, hr, h.second (hm W' fun _ _ => rfl) hf, hf⟩
theorem k2_withdraw1 (h : K2 w W m b x m2 b2 y) (n e : Int) (hy : witC x = (n, e, x')) : Calls Try.prog 17 #[pt m] W fun e' W' => e' = .returned (.tuple #[.int .i64 n, .int .i64 e]) ∧ K2 w W' m b x' m2 b2 y := by
  have hr := mtWithdraw_any h.one.at'
  rw [hy] at hr
  refine hr.mono ?_
  rintro e' W' ⟨rfl, hm, hf⟩
  exact ⟨rfl, h.first hm hf⟩
theorem k2_withdraw2 (h : K2 w W m b x m2 b2 y) (n e : Int) (hy : witC y = (n, e, y')) : Calls Try.prog 17 #[pt m2] W fun e' W' => e' = .returned (.tuple #[.int .i64 n, .int .i64 e]) ∧ K2 w W' m b x m2 b2 y' := by
  have hr := mtWithdraw_any h.two.at'
  rw [hy] at hr
  refine hr.mono ?_
  rintro e' W' ⟨rfl, hm, hf⟩
  exact ⟨rfl, h.second hm hf⟩
end
/-- What Take answers to a number of bytes. -/
theorem take_nat (S : List UInt8) (k n : Nat) : takC ⟨true, S, k, 0, 0⟩ (n : Int) = ((S.drop k).take n, if 0 < n ∧ (S.drop k).length = 0 then 16 else 0, ⟨true, S, k + ((S.drop k).take n).length, 0, 0⟩) := by
  unfold takC Mt.rest
  simp only
  rw [if_neg (by omega)]
  by_cases h0 : n = 0
  · subst h0; simp
  · rw [if_neg (by omega), if_neg (by simp), if_neg (by simp)]
    by_cases hl : (S.drop k).length = 0
    · rw [if_pos hl, if_pos ⟨by omega, hl⟩, List.eq_nil_of_length_eq_zero hl]
      simp
    · rw [if_neg hl, if_neg (fun h => hl h.2)]
      simp
theorem src_acts1 (w : World) {pv : Value} {Ps : Parts} (h : SrcV w pv (Ps.map encS)) (a : Option Addr) (pl pc : Nat) (hp : pv = .slice a pl pc) (hl : Ps.length = pl) :
    SrcA (w.alloc (.cells #[.int .i64 0, .int .i64 0, pv, .int .i64 0] 32)) (.slice (some ⟨w.heap.size, 0, none⟩) 1 1) [⟨0, 0, Ps, 0⟩] := by
  refine ⟨_, _, rfl, by unfold maxLen; simp, .inr ⟨w.heap.size, 0, rfl, by simp, fun i hi => ?_⟩⟩
  have h0 : i = 0 := by simpa using hi
  subst h0
  subst hp
  have hg : ∀ o v, (#[.int .i64 0, .int .i64 0, .slice a pl pc, .int .i64 0] : Array Value)[o]? = some v → (w.alloc (.cells #[.int .i64 0, .int .i64 0, .slice a pl pc, .int .i64 0] 32)).cell? ⟨w.heap.size, o, none⟩ = some v := fun o v hv => cell_new _ _ _ _ _ _ rfl hv
  exact ⟨a, pl, pc, hg 0 _ rfl, hg 1 _ rfl, hg 2 _ rfl, hg 3 _ rfl, h.grown (below_alloc _ _), hl, by simp [I64], by simp [I64], by simp [I64]⟩

set_option maxRecDepth 100000 in
set_option maxHeartbeats 6400000 in
theorem meetSplits_walk {w : World} {pv lv : Value} {Ps : Parts} {L : List UInt8} (h : SrcV w pv (Ps.map encS)) (hL : SrcV w lv (L.map encB)) :
    Calls Try.prog 5 #[pv, lv] w fun e w' => e = .returned (.bool true) ∧ Below w.heap.size w w' := by
  obtain ⟨pa, pc, hpf, hpc1, hpc2⟩ := h.formS
  obtain ⟨la, lc, hlf, hlc1, hlc2⟩ := hL.form
  rw [List.length_map] at hlf hlc1
  have HP := Lib.hid h
  have HQ := Lib.hid hL
  obtain ⟨pl, hpl⟩ : ∃ pl, pl = Ps.length := ⟨_, rfl⟩
  obtain ⟨N, hN⟩ : ∃ N, N = L.length := ⟨_, rfl⟩
  rw [← hpl] at hpf
  rw [← hN] at hlf
  subst hpf hlf
  have HPL := Lib.hid hpl
  have HNE := Lib.hid hN
  have hN2 : (N : Int) ≤ 9223372036854775807 := by unfold maxLen at hlc2; omega
  have hsa := Lib.hid (src_acts1 w h pa pl pc rfl hpl.symm)
  clear h hL hpl hN
  go_enter Try.func5, Try.ntmps5
  go_wp2_with (go_at_call 8; fail)
  have hb0 := below_alloc w (.cells #[.int .i64 0, .int .i64 0, .slice pa pl pc, .int .i64 0] 32)
  have HB0 := Lib.hid hb0
  clear hb0
  refine (small_any hsa.out).mono ?_
  generalize hW0 : w.alloc (.cells #[.int .i64 0, .int .i64 0, .slice pa pl pc, .int .i64 0] 32) = W0 at *
  have hKn : Hid (∀ W, Below w.heap.size w W → Calls Try.prog 9 #[] W fun e W' => e = .returned (.bool true) ∧ Below w.heap.size w W') := Lib.hid (fun W hW => (known_any W).mono (by
    rintro e W' ⟨rfl, hb⟩
    exact ⟨rfl, hW.trans (hb.mono hW.size)⟩))
  rintro e w' ⟨(⟨rfl, -, hsm⟩ | rfl), rfl⟩
  case' inr =>
    go_wp2_with (go_at_call 9; refine (hKn.out _ HB0.out).mono ?_; rintro e w9 ⟨rfl, hb⟩)
    go_ret
    exact ⟨rfl, hb⟩
  have hsm1 := hsm ⟨0, 0, Ps, 0⟩ (by simp)
  have HSM := Lib.hid hsm1
  clear hsm hsm1
  by_cases h60 : (60 : Int) < (N : Int)
  · go_wp2_with (go_at_call 9; refine (hKn.out _ HB0.out).mono ?_; rintro e w9 ⟨rfl, hb⟩)
    go_ret
    exact ⟨rfl, hb⟩
  have h60' : (N : Int) ≤ 60 := by omega
  have hPS : Hid (SrcV w' (.slice pa pl pc) (Ps.map encS)) := Lib.hid (HP.out.grown HB0.out)
  have hLS : Hid (SrcV w' (.slice la N lc) (L.map encB)) := Lib.hid (HQ.out.grown HB0.out)
  obtain ⟨S, hS⟩ : ∃ S, S = Ps.flatten := ⟨_, rfl⟩
  have hSl : S.length ≤ 12000 := by rw [hS]; have h1 := flat_small Ps HSM.out.2; have h2 : Ps.length ≤ 30 := HSM.out.1; have : Ps.length * 400 ≤ 30 * 400 := Nat.mul_le_mul_right _ h2; omega
  have HS := Lib.hid hS
  have HSL := Lib.hid hSl
  have HP30 : Hid (Ps.length ≤ 30) := Lib.hid HSM.out.1
  clear hS hSl h60
  go_wp2_with (go_at_call 23; fail)
  have htx := text_any (x0 := 0) (x1 := 0) (x3 := 0) hPS.out (by rw [← HS.out]; have := HSL.out; omega) (by have := HP30.out; omega)
  rw [← HS.out] at htx
  refine htx.mono ?_
  rintro e W1 ⟨rfl, hb⟩
  have HB1 : Hid (Below w'.heap.size w' W1) := Lib.hid hb
  clear htx hb
  go_wp2_with (go_at_call 10; fail)
  refine (km_new w W1 (HB0.out.trans (HB1.out.mono HB0.out.size))).mono ?_
  rintro e W2 ⟨m, b, rfl, h2⟩
  have H2 := Lib.hid h2
  clear h2
  go_wp2_with (go_at_call 10; fail)
  refine (k2_new2 H2.out).mono ?_
  rintro e W3 ⟨m2, b2, rfl, h3⟩
  have H3 := Lib.hid h3
  clear h3
  unfold pt
  go_wp2_with (go_at_call 19; fail)
  refine (k2_of H3.out (HP.out.grown H3.out.one.be) (by rw [← HS.out]; have := HSL.out; omega) (by have := HP30.out; omega)).mono ?_
  rintro e W4 ⟨x1, x2, x3, x4, x5, x6, rfl, R4, h4⟩
  have H4 := Lib.hid h4
  have HR4 := Lib.hid R4
  clear h4 R4 H3 H2
  go_wp2_with (go_at_call 18; fail)
  refine (k2_offer1 (x' := ⟨true, S, 0, 0, 0⟩) H4.out HR4.out 0 (by rw [← HS.out]; simp [offC, Mt.zero])).mono ?_
  rintro e W5 ⟨rfl, h5⟩
  have H5 := Lib.hid h5
  clear h5 H4 HR4
  go_wp2_with (go_at_call 19; fail)
  have g5 := H5.out.grow (below_alloc _ (.cells #[.string (strB S)] 9))
  refine (k2_of (Ps := [S]) g5 (strs_made _ [S] (by simp) _ rfl 1 rfl) (by have := HSL.out; simp; omega) (by simp)).mono ?_
  rintro e W6 ⟨x1, x2, x3, x4, x5, x6, rfl, R6, h6⟩
  have H6 := Lib.hid h6
  have HR6 := Lib.hid R6
  clear h6 R6 g5 H5
  go_wp2_with (go_at_call 18; fail)
  refine (k2_offer2 (y' := ⟨true, S, 0, 0, 0⟩) H6.out HR6.out 0 (by simp [offC, Mt.zero])).mono ?_
  rintro e W7 ⟨rfl, h7⟩
  have H7 := Lib.hid h7
  clear h7 H6 HR6 hsa HB1 hPS hLS
  clear hW0
  have hSsz := strB_size S
  go_wp2_with fail
  obtain ⟨s, hss⟩ : ∃ s, s = strB S := ⟨_, rfl⟩
  rw [← hss]
  have HSS := Lib.hid hss
  clear hSsz hss
  go_loopw [8, 60] (fun av i wr => ∃ k at' : Nat, k ≤ N ∧ i = .int .i64 (k : Nat) ∧ av = .int .i64 (at' : Nat) ∧ Hid (at' ≤ S.length) ∧ Hid (K2 w wr m b ⟨true, S, at', 0, 0⟩ m2 b2 ⟨true, S, at', 0, 0⟩)) (fun _ i _ => N - (intOf i).toNat)
  case atStart => exact ⟨0, 0, Nat.zero_le _, rfl, rfl, Lib.hid (Nat.zero_le _), H7⟩
  case round =>
    obtain ⟨k, at', hkl, rfl, rfl, HAT, HK⟩ := hrel
    by_cases hlt : k < N
    · have hltP : k < L.length := by rw [← HNE.out]; exact hlt
      obtain ⟨z, hz⟩ : ∃ z, z = L[k].toNat := ⟨_, rfl⟩
      have hz255 : z ≤ 255 := by rw [hz]; have := L[k].toNat_lt; omega
      obtain ⟨lb, loff, rfl, hlbl, hlcell⟩ : ∃ lb loff, la = some ⟨lb, loff, none⟩ ∧ lb < w.heap.size ∧ w.cell? ⟨lb, loff + k, none⟩ = some (.int .u8 ((z : Nat) : Int)) := by
        have hq := HQ.out
        obtain ⟨lb, loff, h1, h2, h3⟩ := hq.at (by rw [List.length_map]; omega)
        exact ⟨lb, loff, h1, h2, h3 k _ (by rw [List.getElem?_map, List.getElem?_eq_getElem hltP]; simp [encB, hz])⟩
      have hcell := below_cells HK.out.one.be _ _ hlcell
      have hkl2 : (k : Int) < (N : Int) := by omega
      have hz256 : (z : Int) ≤ 255 := by omega
      clear hlcell hz
      have ht := take_nat S at' z
      obtain ⟨G, hG⟩ : ∃ G, G = (S.drop at').take z := ⟨_, rfl⟩
      obtain ⟨ce, hce⟩ : ∃ ce : Int, ce = if 0 < z ∧ (S.drop at').length = 0 then 16 else 0 := ⟨_, rfl⟩
      rw [← hG, ← hce] at ht
      have HT := Lib.hid ht
      have HCE := Lib.hid hce
      obtain ⟨hi, hhi⟩ : ∃ hi : Nat, hi = min S.length (at' + z) := ⟨_, rfl⟩
      have hss := HSS.out
      have hSsz : s.size = S.length := by rw [hss]; exact strB_size S
      have hminI : min (s.size : Int) ((at' : Int) + (z : Int)) = (hi : Int) := by rw [hhi, hSsz]; omega
      have hGl : G.length = hi - at' := by rw [hG, hhi, List.length_take, List.length_drop]; omega
      have hat := HAT.out
      have hext : s.extract at' hi = strB G := by
        rw [hss, strB_extract, hG]
        congr 1
        by_cases q : at' + z ≤ S.length
        · rw [hhi, Nat.min_eq_right q]; congr 1; omega
        · rw [hhi, Nat.min_eq_left (by omega), List.take_of_length_le (by simp), List.take_of_length_le (by simp; omega)]
      have hlo : at' ≤ hi := by rw [hhi]; omega
      have hloI : (at' : Int) ≤ (hi : Int) := by omega
      have hhS : hi ≤ S.length := by rw [hhi]; omega
      have hhiI : (hi : Int) ≤ (s.size : Int) := by rw [hSsz]; omega
      have hsS : (s.size : Int) ≤ 12000 := by rw [hSsz]; have := HSL.out; omega
      have hatI : (at' : Int) ≤ 12000 := by have := HSL.out; omega
      have HMIN := Lib.hid hminI
      have HEX := Lib.hid hext
      have HGL := Lib.hid hGl
      have HGS := Lib.hid (strB_size G)
      have HGN := Lib.hid (strB_none G)
      have HDL : Hid ((S.drop at').length = 0 ∧ 0 < z ↔ G.length = 0 ∧ 0 < z) := Lib.hid (by rw [hGl, hhi, List.length_drop]; omega)
      have HHS := Lib.hid hhS
      clear ht hce hhi hss hSsz hminI hGl hat hext hlo hG hhS
      go_wp2_with (go_at_call 15; fail)
      refine (k2_take1 HK.out _ _ _ HT.out).mono ?_
      rintro e V1 ⟨pa1, pk1, pc1, rfl, hr1, hk1⟩
      have HK1 := Lib.hid hk1
      have hcv1 := hr1
      clear hk1 HK hcell
      go_wp2_with (go_at_call 15; fail)
      refine (k2_take2 HK1.out _ _ _ HT.out).mono ?_
      rintro e V2 ⟨pa2, pk2, pc2, rfl, hr2, hk2, hf2⟩
      have HK2 := Lib.hid hk2
      have hr1' : RowB V2 0 (.slice pa1 pk1 pc1) G := by
        obtain ⟨bv, hbv, _⟩ := HK1.out.two.at'.ex
        exact RowV.lower (hf2.row hr1 (fun g hg hm => row_ne hr1 hbv (by decide) g hg (by simpa using hm))) (Nat.zero_le _)
      have hcv1 := row_str hr1'
      have hcv2 := row_str hr2
      have hgn := HGN.out
      have hgs := HGS.out
      have hgle : ((strB G).size : Int) ≤ 12000 := by have := HGL.out; have := HHS.out; have := HSL.out; omega
      have hext := HEX.out
      have hsum : (at' : Int) + ((strB G).size : Int) ≤ 24000 := by omega
      have hres : Hid ((at' : Int) + ((strB G).size : Int) = ((at' + G.length : Nat) : Int)) := Lib.hid (by rw [hgs]; omega)
      clear hr1 hr2 hr1' hk2 hf2 HK1
      have hfin : Hid (at' + G.length ≤ S.length) := Lib.hid (by have := HGL.out; have := HHS.out; omega)
      generalize hgg : strB G = g at *
      have HGG := Lib.hid hgg
      clear hgg hgs
      rcases (by omega : z = 0 ∨ (0 < z ∧ G.length = 0) ∨ (0 < z ∧ G.length ≠ 0)) with hz0 | ⟨hz0, hg0⟩ | ⟨hz0, hg0⟩
      · have hce : ce = 0 := by rw [HCE.out, if_neg (by omega)]
        subst hce
        subst hz0
        clear hgn
        go_wp2_with (first | (refine wpList_min rfl (.tmp 81) (.tmp 85) _ rfl _ _ hi rfl rfl HMIN.out ?_) | fail)
        clear hext hcv1 hcv2
        go_roundw
        case rel => exact ⟨k + 1, at' + G.length, by omega, by go_num, by rw [← hres.out], hfin, HK2⟩
        case measure => simp [intOf]; omega
      · have hce : ce = 16 := by rw [HCE.out, if_pos ⟨hz0, (HDL.out.2 ⟨hg0, hz0⟩).1⟩]
        have q1 : (0 : Int) < (z : Int) := by omega
        have q2 : g.toList.isEmpty = true := by rw [hgn]; simp [hg0]
        subst hce
        clear hgn hz0 hg0
        go_wp2_with (first | (refine wpList_min rfl (.tmp 81) (.tmp 85) _ rfl _ _ hi rfl rfl HMIN.out ?_) | fail)
        clear hext hcv1 hcv2
        go_roundw
        case rel => exact ⟨k + 1, at' + G.length, by omega, by go_num, by rw [← hres.out], hfin, HK2⟩
        case measure => simp [intOf]; omega
      · have hce : ce = 0 := by rw [HCE.out, if_neg (fun hc => hg0 (HDL.out.1 ⟨hc.2, hz0⟩).1)]
        have q1 : (0 : Int) < (z : Int) := by omega
        have q2 : g.toList.isEmpty = false := by rw [hgn]; simp [hg0]
        subst hce
        clear hgn hz0 hg0
        go_wp2_with (first | (refine wpList_min rfl (.tmp 81) (.tmp 85) _ rfl _ _ hi rfl rfl HMIN.out ?_) | fail)
        clear hext hcv1 hcv2
        go_roundw
        case rel => exact ⟨k + 1, at' + G.length, by omega, by go_num, by rw [← hres.out], hfin, HK2⟩
        case measure => simp [intOf]; omega
    · obtain rfl : k = N := by omega
      have hati : (at' : Int) ≤ 12000 := by have := HSL.out; have := HAT.out; omega
      go_wp2_with (go_at_call 17; fail)
      refine (k2_withdraw1 (x' := ⟨false, [], 0, 0, 0⟩) HK.out at' 0 rfl).mono ?_
      rintro e V1 ⟨rfl, hk1⟩
      have HK1 := Lib.hid hk1
      clear hk1 HK
      go_wp2_with (go_at_call 17; fail)
      refine (k2_withdraw2 (y' := ⟨false, [], 0, 0, 0⟩) HK1.out at' 0 rfl).mono ?_
      rintro e V2 ⟨rfl, hk2⟩
      have HK2 := Lib.hid hk2
      clear hk2 HK1
      go_wp2_with (first | (go_at_call 24; refine (ends_any _ _ _ _ _).mono ?_; rintro e w9 ⟨rfl, rfl⟩) | (go_at_call 9; refine (hKn.out _ HK2.out.one.be).mono ?_; rintro e w9 ⟨rfl, hb⟩))
      go_ret
      exact ⟨rfl, hb⟩
end Go.Proofs.Ytophkjnniodegaa
