/- The walk of RopeTakes. -/
import Derived.Test.YtkdbkamjaaehfaaCKn2
import Derived.Test.YtkdbkamjaaehfaaCEnd
import Derived.Test.YtkdbkamjaaehfaaCSmall
namespace Go.Proofs.Ytkdbkamjaaehfaa
open Go.RowKit Go.Sort
set_option linter.unusedVariables false
set_option linter.unusedSimpArgs false

theorem RopeAt.boxes7 {w : World} {c b : Nat} {x : Value} {v : Value} {Ps : Parts} (R : RopeAt w b v Ps) (h7 : w.heap[c]? = some (.cells #[x] 34 (0, 0))) (y : Value) : RopeAt (w.setCell ⟨c, 0, none⟩ y) b v Ps := by
  have h := fr_setCell w ⟨c, 0, none⟩ y
  obtain ⟨vd, ve, h1, h2, h3⟩ := R.ex
  exact ⟨⟨vd, ve, h1, h.row h2 (fun g hg hm => row_ne h2 h7 (by decide) g hg (List.mem_singleton.1 hm)), h.row h3 (fun g hg hm => row_ne h3 h7 (by decide) g hg (List.mem_singleton.1 hm))⟩, R.ne, R.len, R.size⟩
/-- What Take returns. -/
def tkA (n : Int) (C : Parts) : Parts := if n < 0 then [] else firstP n.toNat C
def tkB (n : Int) (C : Parts) : Parts := if n < 0 then [] else restP n.toNat C
def tkE (n : Int) : Int := if n < 0 then 2 else 0
theorem take_gen {w : World} {b : Nat} {v : Value} {C : Parts} (R : RopeAt w b v C) (n : Int) :
    Calls Try.prog 16 #[v, .int .i64 n] w fun e w' => ∃ v1 v2, e = .returned (.tuple #[v1, v2, .int .i64 (tkE n)]) ∧ RopeAt w' 0 v1 (tkA n C) ∧ RopeAt w' 0 v2 (tkB n C) ∧ Below w.heap.size w w' := by
  unfold tkA tkB tkE
  by_cases h : n < 0
  · rw [if_pos h, if_pos h, if_pos h]
    refine (take_bad R n h).mono ?_
    rintro e w' ⟨rfl, hb⟩
    exact ⟨_, _, rfl, RopeAt.zero _ _, RopeAt.zero _ _, hb⟩
  · rw [if_neg h, if_neg h, if_neg h]
    obtain ⟨m, rfl⟩ : ∃ m : Nat, n = m := ⟨n.toNat, by omega⟩
    refine (take_ok R m).mono ?_
    rintro e w' ⟨v1, v2, rfl, h1, h2, hb⟩
    exact ⟨_, _, rfl, h1.lower (Nat.zero_le _), h2.lower (Nat.zero_le _), hb⟩
theorem refTake_gen {w : World} {v : Value} {C : Parts} (h : SrcV w v (C.map encS)) (hne : ∀ p ∈ C, p ≠ []) (hl : C.flatten.length ≤ 65536) (hk : C.length ≤ 1024) (n : Int) (hn : n ≤ 9223372036854775807) :
    Calls Try.prog 17 #[rf v, .int .i64 n] w fun e w' => ∃ u1 u2, e = .returned (.tuple #[rf u1, rf u2, .int .i64 (tkE n)]) ∧ RowS w' 0 u1 (tkA n C) ∧ RowS w' 0 u2 (tkB n C) ∧ Below w.heap.size w w' := by
  unfold tkA tkB tkE
  by_cases h0 : n < 0
  · rw [if_pos h0, if_pos h0, if_pos h0]
    refine (refTake_bad h n h0).mono ?_
    rintro e w' ⟨rfl, hb⟩
    exact ⟨_, _, rfl, World.ownsRow_nil _ _ _ _, World.ownsRow_nil _ _ _ _, hb⟩
  · rw [if_neg h0, if_neg h0, if_neg h0]
    obtain ⟨m, rfl⟩ : ∃ m : Nat, n = m := ⟨n.toNat, by omega⟩
    refine (refTake_ok h hne hl hk m hn).mono ?_
    rintro e w' ⟨v1, v2, rfl, h1, h2, hb⟩
    exact ⟨_, _, rfl, RowV.lower h1 (Nat.zero_le _), RowV.lower h2 (Nat.zero_le _), hb⟩

set_option maxRecDepth 100000 in
set_option maxHeartbeats 6400000 in
theorem ropeTakes_walk0 {w : World} {vp vn : Value} {Ps : Parts} {zs : List Int} (h : SrcV w vp (Ps.map encS)) (h' : SrcV w vn (zs.map fun z => .int .i64 z)) (hz : ∀ z ∈ zs, (Lit.int .i64 z).wf = true) :
    Calls Try.prog 5 #[vp, vn] w fun e w' => e = .returned (.bool true) ∧ Below w.heap.size w w' := by
  have HP := Lib.hid h
  have HQ := Lib.hid h'
  have HZ := Lib.hid hz
  obtain ⟨pa, pc, hpf, hpc1, hpc2⟩ := h.formS
  obtain ⟨qa, qc, hqf, hqc1, hqc2⟩ := h'.form
  generalize hPN : Ps.length = N at *
  rw [List.length_map] at hqf hqc1
  generalize hQN : zs.length = M at *
  subst hpf hqf
  have HPN := Lib.hid hPN
  have HQN := Lib.hid hQN
  have hN2 : (N : Int) ≤ 9223372036854775807 := by unfold maxLen at hpc2; omega
  have hM2 : (M : Int) ≤ 9223372036854775807 := by unfold maxLen at hqc2; omega
  clear h h' hPN hQN hz
  go_enter Try.func5, Try.ntmps5
  go_wp2_with (go_at_call 8; fail)
  refine (small_any HP.out).mono ?_
  rintro e w' ⟨(⟨rfl, hk, hl⟩ | rfl), rfl⟩
  case' inr =>
    go_wp2_with (go_at_call 9; fail)
    refine (known_any _).mono ?_
    rintro e w' ⟨rfl, hb⟩
    go_wp2_with fail
    go_ret
    exact ⟨rfl, hb⟩
  have HK1 := Lib.hid (And.intro hk hl)
  clear hk hl
  rcases (by omega : (60 : Int) < (N : Int) ∨ ((N : Int) ≤ 60 ∧ (40 : Int) < (M : Int)) ∨ ((N : Int) ≤ 60 ∧ (M : Int) ≤ 40)) with hbig | ⟨hsm, hbig⟩ | ⟨hsm1, hsm2⟩
  case' inl =>
    go_wp2_with (go_at_call 9; fail)
    refine (known_any _).mono ?_
    rintro e w' ⟨rfl, hb⟩
    go_wp2_with fail
    go_ret
    exact ⟨rfl, hb⟩
  case' inr.inl =>
    go_wp2_with (go_at_call 9; fail)
    refine (known_any _).mono ?_
    rintro e w' ⟨rfl, hb⟩
    go_wp2_with fail
    go_ret
    exact ⟨rfl, hb⟩
  obtain ⟨ep, hep⟩ : ∃ ep, ep = errC (full Ps).length Ps.flatten.length := ⟨_, rfl⟩
  obtain ⟨A, hA⟩ : ∃ A, A = newP Ps := ⟨_, rfl⟩
  have be1 := errC_small Ps
  rw [← hep] at be1
  have hmade := Lib.hid (fun (W : World) (hW : SrcV W (.slice pa N pc) (Ps.map encS)) => made_any hW (by have := HK1.out; omega) (by have := HK1.out; omega))
  have href := Lib.hid (fun (W : World) (hW : SrcV W (.slice pa N pc) (Ps.map encS)) => refNew_any hW (by have := HK1.out; omega) (by have := HK1.out; omega))
  rw [← hep, ← hA] at hmade href
  have HA := Lib.hid hA
  clear hep hA
  go_wp2_with (go_at_call 14; fail)
  have HT : Hid (Below w.heap.size w w) := Lib.hid (Below.refl _ _)
  have HC : Hid (Below w.heap.size w w) := Lib.hid (Below.refl _ _)
  refine (hmade.out _ (HP.out.grown (HT.out.trans (HC.out.mono HT.out.size)))).mono ?_
  rintro e w1 ⟨vr, rfl, Qr, hb⟩
  have HC2 : Hid (Below w.heap.size w w1) := Lib.hid (HC.out.trans ((hb).mono HC.out.size))
  clear HC
  have HC := HC2
  clear HC2
  clear hb
  have o0 : Hid (w.heap.size ≤ w1.heap.size) := Lib.hid HC.out.size
  obtain ⟨xr0, xr1, xr2, xr3, xr4, xr5, hvr⟩ := Qr.shape
  subst hvr
  have Qr := Lib.hid (Qr.lower (Nat.zero_le _))
  go_wp2_with (go_at_call 11; fail)
  obtain ⟨W1, hW1⟩ : ∃ x, x = (w1.alloc (.cells #[.slice xr0 xr1 xr2, .slice xr3 xr4 xr5] 29)) := ⟨_, rfl⟩
  have HBn : Below w1.heap.size w1 W1 := by rw [hW1]; exact below_alloc _ _
  have HBB : Hid (Below w.heap.size w W1) := Lib.hid (HC.out.trans (HBn.mono HC.out.size))
  have Y5 : Hid (W1.heap[w1.heap.size]? = some (.cells #[.slice xr0 xr1 xr2, .slice xr3 xr4 xr5] 29 (0, 0))) := Lib.hid (by rw [hW1]; exact heap_alloc_new _ _)
  have SR5 : Hid (RopeAt W1 0 (.agg #[.slice xr0 xr1 xr2, .slice xr3 xr4 xr5]) (A)) := Lib.hid (((Qr.out)).grown HBn)
  have HTn : Hid (Below w.heap.size w W1) := Lib.hid (HT.out.trans (HBB.out.mono HT.out.size))
  rw [← hW1]
  clear hW1 HC HT HBn HBB
  have X5 := Y5
  have R5 := SR5
  have HT := HTn
  clear HTn Y5 SR5
  have HC : Hid (Below W1.heap.size W1 W1) := Lib.hid (Below.refl _ _)
  refine (href.out _ (HP.out.grown (HT.out.trans (HC.out.mono HT.out.size)))).mono ?_
  rintro e w2 ⟨uv, rfl, Qv, hb⟩
  have HC2 : Hid (Below W1.heap.size W1 w2) := Lib.hid (HC.out.trans ((hb).mono HC.out.size))
  clear HC
  have HC := HC2
  clear HC2
  clear hb
  unfold rf
  obtain ⟨yv0, yv1, yv2, hvv⟩ := row_form Qv
  subst hvv
  have Qv := Lib.hid (RowV.lower Qv (Nat.zero_le _))
  have o1 : Hid (w1.heap.size < w2.heap.size ∧ w.heap.size ≤ w1.heap.size) := Lib.hid ⟨lt_of_block ((HC.out.block _ (lt_of_block X5.out)).trans X5.out), o0.out⟩
  go_wp2_with fail
  obtain ⟨W2, hW2⟩ : ∃ x, x = (w2.alloc (.cells #[.slice yv0 yv1 yv2] 34)) := ⟨_, rfl⟩
  have HBn : Below w2.heap.size w2 W2 := by rw [hW2]; exact below_alloc _ _
  have HBB : Hid (Below W1.heap.size W1 W2) := Lib.hid (HC.out.trans (HBn.mono HC.out.size))
  have Y5 : Hid (W2.heap[w1.heap.size]? = some (.cells #[.slice xr0 xr1 xr2, .slice xr3 xr4 xr5] 29 (0, 0))) := Lib.hid ((HBB.out.block _ (lt_of_block X5.out)).trans X5.out)
  have SR5 : Hid (RopeAt W2 0 (.agg #[.slice xr0 xr1 xr2, .slice xr3 xr4 xr5]) (A)) := Lib.hid ((R5.out).grown HBB.out)
  have Y7 : Hid (W2.heap[w2.heap.size]? = some (.cells #[.slice yv0 yv1 yv2] 34 (0, 0))) := Lib.hid (by rw [hW2]; exact heap_alloc_new _ _)
  have SR7 : Hid (RowS W2 0 (.slice yv0 yv1 yv2) (A)) := Lib.hid (RowV.grown ((Qv.out)) HBn)
  have HTn : Hid (Below w.heap.size w W2) := Lib.hid (HT.out.trans (HBB.out.mono HT.out.size))
  rw [← hW2]
  clear hW2 HC HT HBn HBB X5 R5
  have X5 := Y5
  have X7 := Y7
  have R5 := SR5
  have R7 := SR7
  have HT := HTn
  clear HTn Y5 Y7 SR5 SR7
  have HC : Hid (Below W2.heap.size W2 W2) := Lib.hid (Below.refl _ _)
  go_loopw [52] (fun i wr => ∃ k C x0 x1 x2 x3 x4 x5 y0 y1 y2, k ≤ M ∧ i = .int .i64 (k : Nat) ∧ Hid (wr.heap[w1.heap.size]? = some (.cells #[.slice x0 x1 x2, .slice x3 x4 x5] 29 (0, 0))) ∧ Hid (wr.heap[w2.heap.size]? = some (.cells #[.slice y0 y1 y2] 34 (0, 0))) ∧ Hid (RopeAt wr 0 (.agg #[.slice x0 x1 x2, .slice x3 x4 x5]) C) ∧ Hid (RowS wr 0 (.slice y0 y1 y2) C) ∧ Hid (Below w.heap.size w wr)) (fun i _ => M - (intOf i).toNat)
  case atStart => exact ⟨0, A, _, _, _, _, _, _, _, _, _, Nat.zero_le _, rfl, X5, X7, R5, R7, HT⟩
  case round =>
    obtain ⟨k, C, x0, x1, x2, x3, x4, x5, y0, y1, y2, hkl, rfl, Z5, Z7, S5, S7, HTn⟩ := hrel
    clear HC HT X5 X7 R5 R7
    have X5 := Z5
    have X7 := Z7
    have R5 := S5
    have R7 := S7
    have HT := HTn
    clear Z5 Z7 S5 S7 HTn
    have HC : Hid (Below wr.heap.size wr wr) := Lib.hid (Below.refl _ _)
    by_cases hlt : k < M
    · have hltP : k < zs.length := by rw [HQN.out]; exact hlt
      obtain ⟨b, off, rfl, hbl, hcell⟩ := HQ.out.at (by rw [List.length_map]; omega)
      have hcx := below_cells HT.out _ _ (hcell k (.int .i64 zs[k]) (by simp [hltP]))
      have hbl2 : b < wr.heap.size := by have := HT.out.size; omega
      have hzw := HZ.out _ (List.getElem_mem hltP)
      generalize zs[k] = z at *
      have hz2 : z ≤ 9223372036854775807 := by
        have := hzw
        simp [Lit.wf, IntKind.min, IntKind.max, IntKind.bits, IntKind.signed] at this
        omega
      have hkI : (k : Int) < (M : Int) := by omega
      clear hcell hbl hzw
      have k50wr : wr.cell? ⟨w1.heap.size, 0, none⟩ = some (.slice x0 x1 x2) := cells_cell ((HC.out.block _ (lt_of_block X5.out)).trans X5.out) rfl
      have z50wr : wr.frozen? ⟨w1.heap.size, 0, none⟩ = false := cells_free ((HC.out.block _ (lt_of_block X5.out)).trans X5.out) _
      have k51wr : wr.cell? ⟨w1.heap.size, 1, none⟩ = some (.slice x3 x4 x5) := cells_cell ((HC.out.block _ (lt_of_block X5.out)).trans X5.out) rfl
      have z51wr : wr.frozen? ⟨w1.heap.size, 1, none⟩ = false := cells_free ((HC.out.block _ (lt_of_block X5.out)).trans X5.out) _
      have l5wr : w1.heap.size < wr.heap.size := lt_of_block ((HC.out.block _ (lt_of_block X5.out)).trans X5.out)
      have k70wr : wr.cell? ⟨w2.heap.size, 0, none⟩ = some (.slice y0 y1 y2) := cells_cell ((HC.out.block _ (lt_of_block X7.out)).trans X7.out) rfl
      have z70wr : wr.frozen? ⟨w2.heap.size, 0, none⟩ = false := cells_free ((HC.out.block _ (lt_of_block X7.out)).trans X7.out) _
      have l7wr : w2.heap.size < wr.heap.size := lt_of_block ((HC.out.block _ (lt_of_block X7.out)).trans X7.out)
      have hte : tkE z = 2 ∨ tkE z = 0 := by unfold tkE; split <;> simp
      go_wp2_with (go_at_call 16; fail)
      refine (take_gen (R5.out.grown HC.out) z).mono ?_
      rintro e w11 ⟨va, vb, rfl, Qa, Qb, hb⟩
      have HC2 : Hid (Below wr.heap.size wr w11) := Lib.hid (HC.out.trans ((hb).mono HC.out.size))
      clear HC
      have HC := HC2
      clear HC2
      clear hb
      obtain ⟨xa0, xa1, xa2, xa3, xa4, xa5, hva⟩ := Qa.shape
      subst hva
      obtain ⟨xb0, xb1, xb2, xb3, xb4, xb5, hvb⟩ := Qb.shape
      subst hvb
      have Qa := Lib.hid Qa
      have Qb := Lib.hid Qb
      have k70w11 : w11.cell? ⟨w2.heap.size, 0, none⟩ = some (.slice y0 y1 y2) := cells_cell ((HC.out.block _ (lt_of_block X7.out)).trans X7.out) rfl
      have z70w11 : w11.frozen? ⟨w2.heap.size, 0, none⟩ = false := cells_free ((HC.out.block _ (lt_of_block X7.out)).trans X7.out) _
      have l7w11 : w2.heap.size < w11.heap.size := lt_of_block ((HC.out.block _ (lt_of_block X7.out)).trans X7.out)
      go_wp2_with (go_at_call 17; fail)
      have pb : Hid (w1.heap.size < w11.heap.size) := Lib.hid (lt_of_block ((HC.out.block _ (lt_of_block X5.out)).trans X5.out))
      obtain ⟨W11, hW11⟩ : ∃ x, x = ((w11.alloc (.cells #[.slice xa0 xa1 xa2, .slice xa3 xa4 xa5] 29)).alloc (.cells #[.slice xb0 xb1 xb2, .slice xb3 xb4 xb5] 29)) := ⟨_, rfl⟩
      have HBn : Below w11.heap.size w11 W11 := by rw [hW11]; exact (below_alloc _ _).trans ((below_alloc _ _).mono (by simp))
      have HBB : Hid (Below wr.heap.size wr W11) := Lib.hid (HC.out.trans (HBn.mono HC.out.size))
      have Y5 : Hid (W11.heap[w1.heap.size]? = some (.cells #[.slice x0 x1 x2, .slice x3 x4 x5] 29 (0, 0))) := Lib.hid ((HBB.out.block _ (lt_of_block X5.out)).trans X5.out)
      have Y7 : Hid (W11.heap[w2.heap.size]? = some (.cells #[.slice y0 y1 y2] 34 (0, 0))) := Lib.hid ((HBB.out.block _ (lt_of_block X7.out)).trans X7.out)
      have SR5 : Hid (RopeAt W11 0 (.agg #[.slice x0 x1 x2, .slice x3 x4 x5]) (C)) := Lib.hid ((R5.out).grown HBB.out)
      have SR7 : Hid (RowS W11 0 (.slice y0 y1 y2) (C)) := Lib.hid (RowV.grown (R7.out) HBB.out)
      have Ya : Hid (W11.heap[w11.heap.size]? = some (.cells #[.slice xa0 xa1 xa2, .slice xa3 xa4 xa5] 29 (0, 0))) := Lib.hid (by rw [hW11]; exact ((below_alloc _ _).block _ (by simp)).trans (heap_alloc_new _ _))
      have Yb : Hid (W11.heap[w11.heap.size + 1]? = some (.cells #[.slice xb0 xb1 xb2, .slice xb3 xb4 xb5] 29 (0, 0))) := Lib.hid (by rw [hW11]; exact (by have := heap_alloc_new (w11.alloc (.cells #[.slice xa0 xa1 xa2, .slice xa3 xa4 xa5] 29)) (.cells #[.slice xb0 xb1 xb2, .slice xb3 xb4 xb5] 29); simpa using this))
      have SRa : Hid (RopeAt W11 0 (.agg #[.slice xa0 xa1 xa2, .slice xa3 xa4 xa5]) (tkA z C)) := Lib.hid (((Qa.out)).grown HBn)
      have SRb : Hid (RopeAt W11 0 (.agg #[.slice xb0 xb1 xb2, .slice xb3 xb4 xb5]) (tkB z C)) := Lib.hid (((Qb.out)).grown HBn)
      have HTn : Hid (Below w.heap.size w W11) := Lib.hid (HT.out.trans (HBB.out.mono HT.out.size))
      rw [← hW11]
      clear hW11 HC HT HBn HBB X5 X7 R5 R7
      have X5 := Y5
      have X7 := Y7
      have Xa := Ya
      have Xb := Yb
      have R5 := SR5
      have R7 := SR7
      have Ra := SRa
      have Rb := SRb
      have HT := HTn
      clear HTn Y5 Y7 Ya Yb SR5 SR7 SRa SRb
      have HC : Hid (Below W11.heap.size W11 W11) := Lib.hid (Below.refl _ _)
      refine (refTake_gen ((RowV.src R7.out).grown HC.out) R5.out.ne R5.out.size R5.out.len z hz2).mono ?_
      rintro e w12 ⟨ux, uy, rfl, Qx, Qy, hb⟩
      have HC2 : Hid (Below W11.heap.size W11 w12) := Lib.hid (HC.out.trans ((hb).mono HC.out.size))
      clear HC
      have HC := HC2
      clear HC2
      clear hb
      unfold rf
      obtain ⟨yx0, yx1, yx2, hvx⟩ := row_form Qx
      subst hvx
      obtain ⟨yy0, yy1, yy2, hvy⟩ := row_form Qy
      subst hvy
      have Qx := Lib.hid Qx
      have Qy := Lib.hid Qy
      have ka0w12 : w12.cell? ⟨w11.heap.size, 0, none⟩ = some (.slice xa0 xa1 xa2) := cells_cell ((HC.out.block _ (lt_of_block Xa.out)).trans Xa.out) rfl
      have za0w12 : w12.frozen? ⟨w11.heap.size, 0, none⟩ = false := cells_free ((HC.out.block _ (lt_of_block Xa.out)).trans Xa.out) _
      have ka1w12 : w12.cell? ⟨w11.heap.size, 1, none⟩ = some (.slice xa3 xa4 xa5) := cells_cell ((HC.out.block _ (lt_of_block Xa.out)).trans Xa.out) rfl
      have za1w12 : w12.frozen? ⟨w11.heap.size, 1, none⟩ = false := cells_free ((HC.out.block _ (lt_of_block Xa.out)).trans Xa.out) _
      have law12 : w11.heap.size < w12.heap.size := lt_of_block ((HC.out.block _ (lt_of_block Xa.out)).trans Xa.out)
      go_wp2_with (go_at_call 12; fail)
      have py : Hid (w1.heap.size < w12.heap.size) := Lib.hid (lt_of_block ((HC.out.block _ (lt_of_block X5.out)).trans X5.out))
      obtain ⟨W12, hW12⟩ : ∃ x, x = ((w12.alloc (.cells #[.slice yx0 yx1 yx2] 34)).alloc (.cells #[.slice yy0 yy1 yy2] 34)) := ⟨_, rfl⟩
      have HBn : Below w12.heap.size w12 W12 := by rw [hW12]; exact (below_alloc _ _).trans ((below_alloc _ _).mono (by simp))
      have HBB : Hid (Below W11.heap.size W11 W12) := Lib.hid (HC.out.trans (HBn.mono HC.out.size))
      have Y5 : Hid (W12.heap[w1.heap.size]? = some (.cells #[.slice x0 x1 x2, .slice x3 x4 x5] 29 (0, 0))) := Lib.hid ((HBB.out.block _ (lt_of_block X5.out)).trans X5.out)
      have Y7 : Hid (W12.heap[w2.heap.size]? = some (.cells #[.slice y0 y1 y2] 34 (0, 0))) := Lib.hid ((HBB.out.block _ (lt_of_block X7.out)).trans X7.out)
      have Ya : Hid (W12.heap[w11.heap.size]? = some (.cells #[.slice xa0 xa1 xa2, .slice xa3 xa4 xa5] 29 (0, 0))) := Lib.hid ((HBB.out.block _ (lt_of_block Xa.out)).trans Xa.out)
      have Yb : Hid (W12.heap[w11.heap.size + 1]? = some (.cells #[.slice xb0 xb1 xb2, .slice xb3 xb4 xb5] 29 (0, 0))) := Lib.hid ((HBB.out.block _ (lt_of_block Xb.out)).trans Xb.out)
      have SR5 : Hid (RopeAt W12 0 (.agg #[.slice x0 x1 x2, .slice x3 x4 x5]) (C)) := Lib.hid ((R5.out).grown HBB.out)
      have SR7 : Hid (RowS W12 0 (.slice y0 y1 y2) (C)) := Lib.hid (RowV.grown (R7.out) HBB.out)
      have SRa : Hid (RopeAt W12 0 (.agg #[.slice xa0 xa1 xa2, .slice xa3 xa4 xa5]) (tkA z C)) := Lib.hid ((Ra.out).grown HBB.out)
      have SRb : Hid (RopeAt W12 0 (.agg #[.slice xb0 xb1 xb2, .slice xb3 xb4 xb5]) (tkB z C)) := Lib.hid ((Rb.out).grown HBB.out)
      have Yx : Hid (W12.heap[w12.heap.size]? = some (.cells #[.slice yx0 yx1 yx2] 34 (0, 0))) := Lib.hid (by rw [hW12]; exact ((below_alloc _ _).block _ (by simp)).trans (heap_alloc_new _ _))
      have Yy : Hid (W12.heap[w12.heap.size + 1]? = some (.cells #[.slice yy0 yy1 yy2] 34 (0, 0))) := Lib.hid (by rw [hW12]; exact (by have := heap_alloc_new (w12.alloc (.cells #[.slice yx0 yx1 yx2] 34)) (.cells #[.slice yy0 yy1 yy2] 34); simpa using this))
      have SRx : Hid (RowS W12 0 (.slice yx0 yx1 yx2) (tkA z C)) := Lib.hid (RowV.grown ((Qx.out)) HBn)
      have SRy : Hid (RowS W12 0 (.slice yy0 yy1 yy2) (tkB z C)) := Lib.hid (RowV.grown ((Qy.out)) HBn)
      have HTn : Hid (Below w.heap.size w W12) := Lib.hid (HT.out.trans (HBB.out.mono HT.out.size))
      rw [← hW12]
      clear hW12 HC HT HBn HBB X5 X7 Xa Xb R5 R7 Ra Rb
      have X5 := Y5
      have X7 := Y7
      have Xa := Ya
      have Xb := Yb
      have Xx := Yx
      have Xy := Yy
      have R5 := SR5
      have R7 := SR7
      have Ra := SRa
      have Rb := SRb
      have Rx := SRx
      have Ry := SRy
      have HT := HTn
      clear HTn Y5 Y7 Ya Yb Yx Yy SR5 SR7 SRa SRb SRx SRy
      have HC : Hid (Below W12.heap.size W12 W12) := Lib.hid (Below.refl _ _)
      refine (lawParts_any (Ra.out.grown HC.out)).mono ?_
      rintro e w13 ⟨up, rfl, Qp, hb⟩
      have HC2 : Hid (Below W12.heap.size W12 w13) := Lib.hid (HC.out.trans ((hb).mono HC.out.size))
      clear HC
      have HC := HC2
      clear HC2
      clear hb
      unfold rf
      obtain ⟨yp0, yp1, yp2, hvp⟩ := row_form Qp
      subst hvp
      have Qp := Lib.hid (RowV.lower Qp (Nat.zero_le _))
      have kb0w13 : w13.cell? ⟨w11.heap.size + 1, 0, none⟩ = some (.slice xb0 xb1 xb2) := cells_cell ((HC.out.block _ (lt_of_block Xb.out)).trans Xb.out) rfl
      have zb0w13 : w13.frozen? ⟨w11.heap.size + 1, 0, none⟩ = false := cells_free ((HC.out.block _ (lt_of_block Xb.out)).trans Xb.out) _
      have kb1w13 : w13.cell? ⟨w11.heap.size + 1, 1, none⟩ = some (.slice xb3 xb4 xb5) := cells_cell ((HC.out.block _ (lt_of_block Xb.out)).trans Xb.out) rfl
      have zb1w13 : w13.frozen? ⟨w11.heap.size + 1, 1, none⟩ = false := cells_free ((HC.out.block _ (lt_of_block Xb.out)).trans Xb.out) _
      have lbw13 : w11.heap.size + 1 < w13.heap.size := lt_of_block ((HC.out.block _ (lt_of_block Xb.out)).trans Xb.out)
      go_wp2_with (go_at_call 12; fail)
      obtain ⟨W13, hW13⟩ : ∃ x, x = (w13.alloc (.cells #[.slice yp0 yp1 yp2] 34)) := ⟨_, rfl⟩
      have HBn : Below w13.heap.size w13 W13 := by rw [hW13]; exact below_alloc _ _
      have HBB : Hid (Below W12.heap.size W12 W13) := Lib.hid (HC.out.trans (HBn.mono HC.out.size))
      have Y5 : Hid (W13.heap[w1.heap.size]? = some (.cells #[.slice x0 x1 x2, .slice x3 x4 x5] 29 (0, 0))) := Lib.hid ((HBB.out.block _ (lt_of_block X5.out)).trans X5.out)
      have Y7 : Hid (W13.heap[w2.heap.size]? = some (.cells #[.slice y0 y1 y2] 34 (0, 0))) := Lib.hid ((HBB.out.block _ (lt_of_block X7.out)).trans X7.out)
      have Ya : Hid (W13.heap[w11.heap.size]? = some (.cells #[.slice xa0 xa1 xa2, .slice xa3 xa4 xa5] 29 (0, 0))) := Lib.hid ((HBB.out.block _ (lt_of_block Xa.out)).trans Xa.out)
      have Yb : Hid (W13.heap[w11.heap.size + 1]? = some (.cells #[.slice xb0 xb1 xb2, .slice xb3 xb4 xb5] 29 (0, 0))) := Lib.hid ((HBB.out.block _ (lt_of_block Xb.out)).trans Xb.out)
      have Yx : Hid (W13.heap[w12.heap.size]? = some (.cells #[.slice yx0 yx1 yx2] 34 (0, 0))) := Lib.hid ((HBB.out.block _ (lt_of_block Xx.out)).trans Xx.out)
      have Yy : Hid (W13.heap[w12.heap.size + 1]? = some (.cells #[.slice yy0 yy1 yy2] 34 (0, 0))) := Lib.hid ((HBB.out.block _ (lt_of_block Xy.out)).trans Xy.out)
      have SR5 : Hid (RopeAt W13 0 (.agg #[.slice x0 x1 x2, .slice x3 x4 x5]) (C)) := Lib.hid ((R5.out).grown HBB.out)
      have SR7 : Hid (RowS W13 0 (.slice y0 y1 y2) (C)) := Lib.hid (RowV.grown (R7.out) HBB.out)
      have SRa : Hid (RopeAt W13 0 (.agg #[.slice xa0 xa1 xa2, .slice xa3 xa4 xa5]) (tkA z C)) := Lib.hid ((Ra.out).grown HBB.out)
      have SRb : Hid (RopeAt W13 0 (.agg #[.slice xb0 xb1 xb2, .slice xb3 xb4 xb5]) (tkB z C)) := Lib.hid ((Rb.out).grown HBB.out)
      have SRx : Hid (RowS W13 0 (.slice yx0 yx1 yx2) (tkA z C)) := Lib.hid (RowV.grown (Rx.out) HBB.out)
      have SRy : Hid (RowS W13 0 (.slice yy0 yy1 yy2) (tkB z C)) := Lib.hid (RowV.grown (Ry.out) HBB.out)
      have Yp : Hid (W13.heap[w13.heap.size]? = some (.cells #[.slice yp0 yp1 yp2] 34 (0, 0))) := Lib.hid (by rw [hW13]; exact heap_alloc_new _ _)
      have SRp : Hid (RowS W13 0 (.slice yp0 yp1 yp2) (tkA z C)) := Lib.hid (RowV.grown ((Qp.out)) HBn)
      have HTn : Hid (Below w.heap.size w W13) := Lib.hid (HT.out.trans (HBB.out.mono HT.out.size))
      rw [← hW13]
      clear hW13 HC HT HBn HBB X5 X7 Xa Xb Xx Xy R5 R7 Ra Rb Rx Ry
      have X5 := Y5
      have X7 := Y7
      have Xa := Ya
      have Xb := Yb
      have Xx := Yx
      have Xy := Yy
      have Xp := Yp
      have R5 := SR5
      have R7 := SR7
      have Ra := SRa
      have Rb := SRb
      have Rx := SRx
      have Ry := SRy
      have Rp := SRp
      have HT := HTn
      clear HTn Y5 Y7 Ya Yb Yx Yy Yp SR5 SR7 SRa SRb SRx SRy SRp
      have HC : Hid (Below W13.heap.size W13 W13) := Lib.hid (Below.refl _ _)
      refine (lawParts_any (Rb.out.grown HC.out)).mono ?_
      rintro e w14 ⟨uq, rfl, Qq, hb⟩
      have HC2 : Hid (Below W13.heap.size W13 w14) := Lib.hid (HC.out.trans ((hb).mono HC.out.size))
      clear HC
      have HC := HC2
      clear HC2
      clear hb
      unfold rf
      obtain ⟨yq0, yq1, yq2, hvq⟩ := row_form Qq
      subst hvq
      have Qq := Lib.hid (RowV.lower Qq (Nat.zero_le _))
      have kp0w14 : w14.cell? ⟨w13.heap.size, 0, none⟩ = some (.slice yp0 yp1 yp2) := cells_cell ((HC.out.block _ (lt_of_block Xp.out)).trans Xp.out) rfl
      have zp0w14 : w14.frozen? ⟨w13.heap.size, 0, none⟩ = false := cells_free ((HC.out.block _ (lt_of_block Xp.out)).trans Xp.out) _
      have lpw14 : w13.heap.size < w14.heap.size := lt_of_block ((HC.out.block _ (lt_of_block Xp.out)).trans Xp.out)
      have kx0w14 : w14.cell? ⟨w12.heap.size, 0, none⟩ = some (.slice yx0 yx1 yx2) := cells_cell ((HC.out.block _ (lt_of_block Xx.out)).trans Xx.out) rfl
      have zx0w14 : w14.frozen? ⟨w12.heap.size, 0, none⟩ = false := cells_free ((HC.out.block _ (lt_of_block Xx.out)).trans Xx.out) _
      have lxw14 : w12.heap.size < w14.heap.size := lt_of_block ((HC.out.block _ (lt_of_block Xx.out)).trans Xx.out)
      go_wp2_with (go_at_call 13; fail)
      obtain ⟨W14, hW14⟩ : ∃ x, x = (w14.alloc (.cells #[.slice yq0 yq1 yq2] 34)) := ⟨_, rfl⟩
      have HBn : Below w14.heap.size w14 W14 := by rw [hW14]; exact below_alloc _ _
      have HBB : Hid (Below W13.heap.size W13 W14) := Lib.hid (HC.out.trans (HBn.mono HC.out.size))
      have Y5 : Hid (W14.heap[w1.heap.size]? = some (.cells #[.slice x0 x1 x2, .slice x3 x4 x5] 29 (0, 0))) := Lib.hid ((HBB.out.block _ (lt_of_block X5.out)).trans X5.out)
      have Y7 : Hid (W14.heap[w2.heap.size]? = some (.cells #[.slice y0 y1 y2] 34 (0, 0))) := Lib.hid ((HBB.out.block _ (lt_of_block X7.out)).trans X7.out)
      have Ya : Hid (W14.heap[w11.heap.size]? = some (.cells #[.slice xa0 xa1 xa2, .slice xa3 xa4 xa5] 29 (0, 0))) := Lib.hid ((HBB.out.block _ (lt_of_block Xa.out)).trans Xa.out)
      have Yb : Hid (W14.heap[w11.heap.size + 1]? = some (.cells #[.slice xb0 xb1 xb2, .slice xb3 xb4 xb5] 29 (0, 0))) := Lib.hid ((HBB.out.block _ (lt_of_block Xb.out)).trans Xb.out)
      have Yx : Hid (W14.heap[w12.heap.size]? = some (.cells #[.slice yx0 yx1 yx2] 34 (0, 0))) := Lib.hid ((HBB.out.block _ (lt_of_block Xx.out)).trans Xx.out)
      have Yy : Hid (W14.heap[w12.heap.size + 1]? = some (.cells #[.slice yy0 yy1 yy2] 34 (0, 0))) := Lib.hid ((HBB.out.block _ (lt_of_block Xy.out)).trans Xy.out)
      have Yp : Hid (W14.heap[w13.heap.size]? = some (.cells #[.slice yp0 yp1 yp2] 34 (0, 0))) := Lib.hid ((HBB.out.block _ (lt_of_block Xp.out)).trans Xp.out)
      have SR5 : Hid (RopeAt W14 0 (.agg #[.slice x0 x1 x2, .slice x3 x4 x5]) (C)) := Lib.hid ((R5.out).grown HBB.out)
      have SR7 : Hid (RowS W14 0 (.slice y0 y1 y2) (C)) := Lib.hid (RowV.grown (R7.out) HBB.out)
      have SRa : Hid (RopeAt W14 0 (.agg #[.slice xa0 xa1 xa2, .slice xa3 xa4 xa5]) (tkA z C)) := Lib.hid ((Ra.out).grown HBB.out)
      have SRb : Hid (RopeAt W14 0 (.agg #[.slice xb0 xb1 xb2, .slice xb3 xb4 xb5]) (tkB z C)) := Lib.hid ((Rb.out).grown HBB.out)
      have SRx : Hid (RowS W14 0 (.slice yx0 yx1 yx2) (tkA z C)) := Lib.hid (RowV.grown (Rx.out) HBB.out)
      have SRy : Hid (RowS W14 0 (.slice yy0 yy1 yy2) (tkB z C)) := Lib.hid (RowV.grown (Ry.out) HBB.out)
      have SRp : Hid (RowS W14 0 (.slice yp0 yp1 yp2) (tkA z C)) := Lib.hid (RowV.grown (Rp.out) HBB.out)
      have Yq : Hid (W14.heap[w14.heap.size]? = some (.cells #[.slice yq0 yq1 yq2] 34 (0, 0))) := Lib.hid (by rw [hW14]; exact heap_alloc_new _ _)
      have SRq : Hid (RowS W14 0 (.slice yq0 yq1 yq2) (tkB z C)) := Lib.hid (RowV.grown ((Qq.out)) HBn)
      have HTn : Hid (Below w.heap.size w W14) := Lib.hid (HT.out.trans (HBB.out.mono HT.out.size))
      rw [← hW14]
      clear hW14 HC HT HBn HBB X5 X7 Xa Xb Xx Xy Xp R5 R7 Ra Rb Rx Ry Rp
      have X5 := Y5
      have X7 := Y7
      have Xa := Ya
      have Xb := Yb
      have Xx := Yx
      have Xy := Yy
      have Xp := Yp
      have Xq := Yq
      have R5 := SR5
      have R7 := SR7
      have Ra := SRa
      have Rb := SRb
      have Rx := SRx
      have Ry := SRy
      have Rp := SRp
      have Rq := SRq
      have HT := HTn
      clear HTn Y5 Y7 Ya Yb Yx Yy Yp Yq SR5 SR7 SRa SRb SRx SRy SRp SRq
      have HC : Hid (Below W14.heap.size W14 W14) := Lib.hid (Below.refl _ _)
      have hAl : (tkA z C).length ≤ 1024 ∧ (tkB z C).length ≤ 1024 := ⟨Ra.out.len, Rb.out.len⟩
      refine (refSame_any ((RowV.src Rp.out).grown HC.out) ((RowV.src Rx.out).grown HC.out) (by omega)).mono ?_
      rintro e w15 ⟨rfl, hb⟩
      have HC2 : Hid (Below W14.heap.size W14 w15) := Lib.hid (HC.out.trans ((hb).mono HC.out.size))
      clear HC
      have HC := HC2
      clear HC2
      clear hb
      have kq0w15 : w15.cell? ⟨w14.heap.size, 0, none⟩ = some (.slice yq0 yq1 yq2) := cells_cell ((HC.out.block _ (lt_of_block Xq.out)).trans Xq.out) rfl
      have zq0w15 : w15.frozen? ⟨w14.heap.size, 0, none⟩ = false := cells_free ((HC.out.block _ (lt_of_block Xq.out)).trans Xq.out) _
      have lqw15 : w14.heap.size < w15.heap.size := lt_of_block ((HC.out.block _ (lt_of_block Xq.out)).trans Xq.out)
      have ky0w15 : w15.cell? ⟨w12.heap.size + 1, 0, none⟩ = some (.slice yy0 yy1 yy2) := cells_cell ((HC.out.block _ (lt_of_block Xy.out)).trans Xy.out) rfl
      have zy0w15 : w15.frozen? ⟨w12.heap.size + 1, 0, none⟩ = false := cells_free ((HC.out.block _ (lt_of_block Xy.out)).trans Xy.out) _
      have lyw15 : w12.heap.size + 1 < w15.heap.size := lt_of_block ((HC.out.block _ (lt_of_block Xy.out)).trans Xy.out)
      go_wp2_with (go_at_call 13; fail)
      refine (refSame_any ((RowV.src Rq.out).grown HC.out) ((RowV.src Ry.out).grown HC.out) (by omega)).mono ?_
      rintro e w16 ⟨rfl, hb⟩
      have HC2 : Hid (Below W14.heap.size W14 w16) := Lib.hid (HC.out.trans ((hb).mono HC.out.size))
      clear HC
      have HC := HC2
      clear HC2
      clear hb
      have k50w16 : w16.cell? ⟨w1.heap.size, 0, none⟩ = some (.slice x0 x1 x2) := cells_cell ((HC.out.block _ (lt_of_block X5.out)).trans X5.out) rfl
      have z50w16 : w16.frozen? ⟨w1.heap.size, 0, none⟩ = false := cells_free ((HC.out.block _ (lt_of_block X5.out)).trans X5.out) _
      have k51w16 : w16.cell? ⟨w1.heap.size, 1, none⟩ = some (.slice x3 x4 x5) := cells_cell ((HC.out.block _ (lt_of_block X5.out)).trans X5.out) rfl
      have z51w16 : w16.frozen? ⟨w1.heap.size, 1, none⟩ = false := cells_free ((HC.out.block _ (lt_of_block X5.out)).trans X5.out) _
      have l5w16 : w1.heap.size < w16.heap.size := lt_of_block ((HC.out.block _ (lt_of_block X5.out)).trans X5.out)
      go_wp2_with (go_at_call 12; fail)
      refine (lawParts_any (R5.out.grown HC.out)).mono ?_
      rintro e w17 ⟨uo, rfl, Qo, hb⟩
      have HC2 : Hid (Below W14.heap.size W14 w17) := Lib.hid (HC.out.trans ((hb).mono HC.out.size))
      clear HC
      have HC := HC2
      clear HC2
      clear hb
      unfold rf
      obtain ⟨yo0, yo1, yo2, hvo⟩ := row_form Qo
      subst hvo
      have Qo := Lib.hid (RowV.lower Qo (Nat.zero_le _))
      have k70w17 : w17.cell? ⟨w2.heap.size, 0, none⟩ = some (.slice y0 y1 y2) := cells_cell ((HC.out.block _ (lt_of_block X7.out)).trans X7.out) rfl
      have z70w17 : w17.frozen? ⟨w2.heap.size, 0, none⟩ = false := cells_free ((HC.out.block _ (lt_of_block X7.out)).trans X7.out) _
      have l7w17 : w2.heap.size < w17.heap.size := lt_of_block ((HC.out.block _ (lt_of_block X7.out)).trans X7.out)
      go_wp2_with (go_at_call 13; fail)
      obtain ⟨W17, hW17⟩ : ∃ x, x = (w17.alloc (.cells #[.slice yo0 yo1 yo2] 34)) := ⟨_, rfl⟩
      have HBn : Below w17.heap.size w17 W17 := by rw [hW17]; exact below_alloc _ _
      have HBB : Hid (Below W14.heap.size W14 W17) := Lib.hid (HC.out.trans (HBn.mono HC.out.size))
      have Y5 : Hid (W17.heap[w1.heap.size]? = some (.cells #[.slice x0 x1 x2, .slice x3 x4 x5] 29 (0, 0))) := Lib.hid ((HBB.out.block _ (lt_of_block X5.out)).trans X5.out)
      have Y7 : Hid (W17.heap[w2.heap.size]? = some (.cells #[.slice y0 y1 y2] 34 (0, 0))) := Lib.hid ((HBB.out.block _ (lt_of_block X7.out)).trans X7.out)
      have Ya : Hid (W17.heap[w11.heap.size]? = some (.cells #[.slice xa0 xa1 xa2, .slice xa3 xa4 xa5] 29 (0, 0))) := Lib.hid ((HBB.out.block _ (lt_of_block Xa.out)).trans Xa.out)
      have Yb : Hid (W17.heap[w11.heap.size + 1]? = some (.cells #[.slice xb0 xb1 xb2, .slice xb3 xb4 xb5] 29 (0, 0))) := Lib.hid ((HBB.out.block _ (lt_of_block Xb.out)).trans Xb.out)
      have Yx : Hid (W17.heap[w12.heap.size]? = some (.cells #[.slice yx0 yx1 yx2] 34 (0, 0))) := Lib.hid ((HBB.out.block _ (lt_of_block Xx.out)).trans Xx.out)
      have Yy : Hid (W17.heap[w12.heap.size + 1]? = some (.cells #[.slice yy0 yy1 yy2] 34 (0, 0))) := Lib.hid ((HBB.out.block _ (lt_of_block Xy.out)).trans Xy.out)
      have Yp : Hid (W17.heap[w13.heap.size]? = some (.cells #[.slice yp0 yp1 yp2] 34 (0, 0))) := Lib.hid ((HBB.out.block _ (lt_of_block Xp.out)).trans Xp.out)
      have Yq : Hid (W17.heap[w14.heap.size]? = some (.cells #[.slice yq0 yq1 yq2] 34 (0, 0))) := Lib.hid ((HBB.out.block _ (lt_of_block Xq.out)).trans Xq.out)
      have SR5 : Hid (RopeAt W17 0 (.agg #[.slice x0 x1 x2, .slice x3 x4 x5]) (C)) := Lib.hid ((R5.out).grown HBB.out)
      have SR7 : Hid (RowS W17 0 (.slice y0 y1 y2) (C)) := Lib.hid (RowV.grown (R7.out) HBB.out)
      have SRa : Hid (RopeAt W17 0 (.agg #[.slice xa0 xa1 xa2, .slice xa3 xa4 xa5]) (tkA z C)) := Lib.hid ((Ra.out).grown HBB.out)
      have SRb : Hid (RopeAt W17 0 (.agg #[.slice xb0 xb1 xb2, .slice xb3 xb4 xb5]) (tkB z C)) := Lib.hid ((Rb.out).grown HBB.out)
      have SRx : Hid (RowS W17 0 (.slice yx0 yx1 yx2) (tkA z C)) := Lib.hid (RowV.grown (Rx.out) HBB.out)
      have SRy : Hid (RowS W17 0 (.slice yy0 yy1 yy2) (tkB z C)) := Lib.hid (RowV.grown (Ry.out) HBB.out)
      have SRp : Hid (RowS W17 0 (.slice yp0 yp1 yp2) (tkA z C)) := Lib.hid (RowV.grown (Rp.out) HBB.out)
      have SRq : Hid (RowS W17 0 (.slice yq0 yq1 yq2) (tkB z C)) := Lib.hid (RowV.grown (Rq.out) HBB.out)
      have Yo : Hid (W17.heap[w17.heap.size]? = some (.cells #[.slice yo0 yo1 yo2] 34 (0, 0))) := Lib.hid (by rw [hW17]; exact heap_alloc_new _ _)
      have SRo : Hid (RowS W17 0 (.slice yo0 yo1 yo2) (C)) := Lib.hid (RowV.grown ((Qo.out)) HBn)
      have HTn : Hid (Below w.heap.size w W17) := Lib.hid (HT.out.trans (HBB.out.mono HT.out.size))
      rw [← hW17]
      clear hW17 HC HT HBn HBB X5 X7 Xa Xb Xx Xy Xp Xq R5 R7 Ra Rb Rx Ry Rp Rq
      have X5 := Y5
      have X7 := Y7
      have Xa := Ya
      have Xb := Yb
      have Xx := Yx
      have Xy := Yy
      have Xp := Yp
      have Xq := Yq
      have Xo := Yo
      have R5 := SR5
      have R7 := SR7
      have Ra := SRa
      have Rb := SRb
      have Rx := SRx
      have Ry := SRy
      have Rp := SRp
      have Rq := SRq
      have Ro := SRo
      have HT := HTn
      clear HTn Y5 Y7 Ya Yb Yx Yy Yp Yq Yo SR5 SR7 SRa SRb SRx SRy SRp SRq SRo
      have HC : Hid (Below W17.heap.size W17 W17) := Lib.hid (Below.refl _ _)
      refine (refSame_any ((RowV.src Ro.out).grown HC.out) ((RowV.src R7.out).grown HC.out) (by have := R5.out.len; omega)).mono ?_
      rintro e w18 ⟨rfl, hb⟩
      have HC2 : Hid (Below W17.heap.size W17 w18) := Lib.hid (HC.out.trans ((hb).mono HC.out.size))
      clear HC
      have HC := HC2
      clear HC2
      clear hb
      have k50w18 : w18.cell? ⟨w1.heap.size, 0, none⟩ = some (.slice x0 x1 x2) := cells_cell ((HC.out.block _ (lt_of_block X5.out)).trans X5.out) rfl
      have z50w18 : w18.frozen? ⟨w1.heap.size, 0, none⟩ = false := cells_free ((HC.out.block _ (lt_of_block X5.out)).trans X5.out) _
      have k51w18 : w18.cell? ⟨w1.heap.size, 1, none⟩ = some (.slice x3 x4 x5) := cells_cell ((HC.out.block _ (lt_of_block X5.out)).trans X5.out) rfl
      have z51w18 : w18.frozen? ⟨w1.heap.size, 1, none⟩ = false := cells_free ((HC.out.block _ (lt_of_block X5.out)).trans X5.out) _
      have l5w18 : w1.heap.size < w18.heap.size := lt_of_block ((HC.out.block _ (lt_of_block X5.out)).trans X5.out)
      have k70w18 : w18.cell? ⟨w2.heap.size, 0, none⟩ = some (.slice y0 y1 y2) := cells_cell ((HC.out.block _ (lt_of_block X7.out)).trans X7.out) rfl
      have z70w18 : w18.frozen? ⟨w2.heap.size, 0, none⟩ = false := cells_free ((HC.out.block _ (lt_of_block X7.out)).trans X7.out) _
      have l7w18 : w2.heap.size < w18.heap.size := lt_of_block ((HC.out.block _ (lt_of_block X7.out)).trans X7.out)
      have kb0w18 : w18.cell? ⟨w11.heap.size + 1, 0, none⟩ = some (.slice xb0 xb1 xb2) := cells_cell ((HC.out.block _ (lt_of_block Xb.out)).trans Xb.out) rfl
      have zb0w18 : w18.frozen? ⟨w11.heap.size + 1, 0, none⟩ = false := cells_free ((HC.out.block _ (lt_of_block Xb.out)).trans Xb.out) _
      have kb1w18 : w18.cell? ⟨w11.heap.size + 1, 1, none⟩ = some (.slice xb3 xb4 xb5) := cells_cell ((HC.out.block _ (lt_of_block Xb.out)).trans Xb.out) rfl
      have zb1w18 : w18.frozen? ⟨w11.heap.size + 1, 1, none⟩ = false := cells_free ((HC.out.block _ (lt_of_block Xb.out)).trans Xb.out) _
      have lbw18 : w11.heap.size + 1 < w18.heap.size := lt_of_block ((HC.out.block _ (lt_of_block Xb.out)).trans Xb.out)
      have ky0w18 : w18.cell? ⟨w12.heap.size + 1, 0, none⟩ = some (.slice yy0 yy1 yy2) := cells_cell ((HC.out.block _ (lt_of_block Xy.out)).trans Xy.out) rfl
      have zy0w18 : w18.frozen? ⟨w12.heap.size + 1, 0, none⟩ = false := cells_free ((HC.out.block _ (lt_of_block Xy.out)).trans Xy.out) _
      have lyw18 : w12.heap.size + 1 < w18.heap.size := lt_of_block ((HC.out.block _ (lt_of_block Xy.out)).trans Xy.out)
      have HTc := Lib.hid (HT.out.trans (HC.out.mono HT.out.size))
      rcases hte with hte | hte
      · rw [hte]
        go_wp2_with fail
        go_roundw
        case rel => exact ⟨k + 1, C, _, _, _, _, _, _, _, _, _, by omega, by go_num, Lib.hid ((HC.out.block _ (lt_of_block X5.out)).trans X5.out), Lib.hid ((HC.out.block _ (lt_of_block X7.out)).trans X7.out), Lib.hid (R5.out.grown HC.out), Lib.hid (RowV.grown R7.out HC.out), HTc⟩
        case measure => simp [intOf]; omega
      · rw [hte]
        go_wp2_with fail
        have V5 := Lib.hid ((HC.out.block _ (lt_of_block X5.out)).trans X5.out)
        have V7 := Lib.hid ((HC.out.block _ (lt_of_block X7.out)).trans X7.out)
        have Vb := Lib.hid ((HC.out.block _ (lt_of_block Xb.out)).trans Xb.out)
        have Vy := Lib.hid ((HC.out.block _ (lt_of_block Xy.out)).trans Xy.out)
        have ne1 : w11.heap.size + 1 ≠ w1.heap.size := fun e => by have := pb.out; omega
        have ne2 : w12.heap.size + 1 ≠ w1.heap.size := fun e => by have := py.out; omega
        refine wp_region_float (fun W'' => Fr [w1.heap.size] w18 W'') 3 [0, 1] [2] (by kernel_rfl) (by kernel_rfl) (fun _ _ _ d _ h => by cases d <;> exact h) (fr_drewN _ 1 _) ?_
        simp only [List.map_cons, List.map_nil, List.getD_cons_zero, List.getD_cons_succ, List.drop_succ_cons, List.drop_zero]
        have hld : ∀ W'', Fr [w1.heap.size] w18 W'' → W''.cell? ⟨w11.heap.size + 1, 0, none⟩ = some (.slice xb0 xb1 xb2) ∧ W''.cell? ⟨w11.heap.size + 1, 1, none⟩ = some (.slice xb3 xb4 xb5) ∧ W''.cell? ⟨w12.heap.size + 1, 0, none⟩ = some (.slice yy0 yy1 yy2) := fun W'' hb => ⟨cells_cell (hb.same Vb.out (by simp; exact ne1)) rfl, cells_cell (hb.same Vb.out (by simp; exact ne1)) rfl, cells_cell (hb.same Vy.out (by simp; exact ne2)) rfl⟩
        refine takes_by (.agg #[.slice xb0 xb1 xb2, .slice xb3 xb4 xb5]) rfl (fun W'' hS => by obtain ⟨h0, h1, h2⟩ := hld W'' hS; go_simp) ?_
        simp only [Act.put, List.setIfInBounds_toArray, List.set_cons_zero, List.set_cons_succ]
        refine takes_by (.agg #[.slice yy0 yy1 yy2]) rfl (fun W'' hS => by obtain ⟨h0, h1, h2⟩ := hld W'' hS; go_simp) ?_
        simp only [Act.put, List.setIfInBounds_toArray, List.set_cons_zero, List.set_cons_succ]
        unfold wpTakes
        refine mids_step rfl (fun K hK => ?_)
        go_simp
        obtain ⟨wd, hwd⟩ : ∃ x, x = ((w18.setCell ⟨w1.heap.size, 0, none⟩ (.slice xb0 xb1 xb2)).setCell ⟨w1.heap.size, 1, none⟩ (.slice xb3 xb4 xb5)).drew := ⟨_, rfl⟩
        have hfd : Fr [w1.heap.size] w18 wd := by rw [hwd]; exact (two_fr _ _ _ _).trans' (fr_drewN _ 1 _)
        have D5 : Hid (wd.heap[w1.heap.size]? = some (.cells #[.slice xb0 xb1 xb2, .slice xb3 xb4 xb5] 29 (0, 0))) := Lib.hid (by rw [hwd]; exact two_cells V5.out)
        have hbd : Below w.heap.size w18 wd := by rw [hwd]; exact (two_below o1.out.2 _ _).trans (Below.refl _ _).drew
        rw [← hwd]
        refine hK _ _ hfd ?_
        clear hK
        have n7 : w2.heap.size ≠ w1.heap.size := fun e => by have := o1.out; omega
        have D7 : Hid (wd.heap[w2.heap.size]? = some (.cells #[.slice y0 y1 y2] 34 (0, 0))) := Lib.hid (hfd.same V7.out (by simp; exact n7))
        have Dy : Hid (wd.heap[w12.heap.size + 1]? = some (.cells #[.slice yy0 yy1 yy2] 34 (0, 0))) := Lib.hid (hfd.same Vy.out (by simp; exact ne2))
        have Db := Lib.hid ((Rb.out.grown HC.out).boxes hfd (fun x hx => ⟨_, _, (List.mem_singleton.1 hx) ▸ V5.out⟩))
        have Ds : Hid (RowS wd 0 (.slice yy0 yy1 yy2) (tkB z C)) := Lib.hid (hfd.row (RowV.grown Ry.out HC.out) (fun g hg hm => row_ne (RowV.grown Ry.out HC.out) V5.out (by decide) g hg (List.mem_singleton.1 hm)))
        have q7 : wd.cell? ⟨w2.heap.size, 0, none⟩ = some (.slice y0 y1 y2) := cells_cell D7.out rfl
        have f7 : wd.frozen? ⟨w2.heap.size, 0, none⟩ = false := cells_free D7.out _
        have s7 : w2.heap.size < wd.heap.size := lt_of_block D7.out
        have HTd := Lib.hid (HTc.out.trans hbd)
        clear hwd
        unfold wpMids
        go_wp2_with fail
        go_roundw
        case rel => exact ⟨k + 1, tkB z C, _, _, _, _, _, _, _, _, _, by omega, by go_num, Lib.hid (cells_set_other D5.out (Ne.symm n7) 0 _), Lib.hid (one_cell_set D7.out), Lib.hid (Db.out.boxes7 D7.out _), Lib.hid ((fr_setCell wd ⟨w2.heap.size, 0, none⟩ _).row Ds.out (fun g hg hm => row_ne Ds.out D7.out (by decide) g hg (List.mem_singleton.1 hm))), Lib.hid (HTd.out.trans ((Below.refl _ _).setCell (p := ⟨w2.heap.size, 0, none⟩) (Nat.le_of_lt (Nat.lt_of_le_of_lt o1.out.2 o1.out.1)) _))⟩
        case measure => simp [intOf]; omega
    obtain rfl : k = M := by omega
    go_wp2_with (go_at_call 9; fail)
    refine (known_any _).mono ?_
    rintro e w' ⟨rfl, hb⟩
    go_wp2_with fail
    go_ret
    exact ⟨rfl, HT.out.trans (hb.mono HT.out.size)⟩

theorem ropeTakes_walk (a : Option Addr) (len cap : Nat) (b : Option Addr) (len2 cap2 : Nat) (w : World) (h : StrsIn w a len cap) (h' : NumsIn w b len2 cap2) :
    Calls Try.prog 5 #[.slice a len cap, .slice b len2 cap2] w fun e w' => e = .returned (.bool true) ∧ Below w.heap.size w w' := by
  obtain ⟨Ss, _, h1⟩ := h
  obtain ⟨zs, _, h2, h3⟩ := h'
  exact ropeTakes_walk0 h1 h2 h3
end Go.Proofs.Ytkdbkamjaaehfaa
