/- The walk of RopeHolds. -/
import Derived.Test.YtkdbkamjaaehfaaCKn2
import Derived.Test.YtkdbkamjaaehfaaCEnd
import Derived.Test.YtkdbkamjaaehfaaCHPure
namespace Go.Proofs.Ytkdbkamjaaehfaa
open Go.RowKit Go.Sort Go.Shelf
attribute [local go_sem] Oper.semAt_some
set_option linter.unusedVariables false
set_option linter.unusedSimpArgs false

theorem take_at {w : World} {b : Nat} {v : Value} {C : Parts} (R : RopeAt w b v C) (n : Int) (h : 0 ≤ n) (A B : Parts) (hA : firstP n.toNat C = A) (hB : restP n.toNat C = B) :
    Calls Try.prog 16 #[v, .int .i64 n] w fun e w' => ∃ v1 v2, e = .returned (.tuple #[v1, v2, .int .i64 0]) ∧ RopeAt w' 0 v1 A ∧ RopeAt w' 0 v2 B ∧ Below w.heap.size w w' := by
  obtain ⟨m, rfl⟩ : ∃ m : Nat, n = m := ⟨n.toNat, by omega⟩
  subst hA hB
  refine (take_ok R m).mono ?_
  rintro e w' ⟨v1, v2, rfl, h1, h2, hb⟩
  exact ⟨_, _, rfl, h1.lower (Nat.zero_le _), h2.lower (Nat.zero_le _), hb⟩
theorem join_at {w : World} {b c : Nat} {v u : Value} {Ps Qs Z : Parts} (R : RopeAt w b v Ps) (S : RopeAt w c u Qs) (hn : newP (Ps ++ Qs) = Z) (h : errC (full (Ps ++ Qs)).length (Ps ++ Qs).flatten.length = 0) :
    Calls Try.prog 20 #[v, u] w fun e w' => ∃ v', e = .returned (.tuple #[v', .int .i64 0]) ∧ RopeAt w' 0 v' Z ∧ Below w.heap.size w w' := by
  have := join_any R S
  rw [h, hn] at this
  refine this.mono ?_
  rintro e w' ⟨v1, rfl, h1, hb⟩
  exact ⟨_, rfl, h1.lower (Nat.zero_le _), hb⟩
theorem parts_plain {w : World} {b : Nat} {v : Value} {Ps : Parts} (R : RopeAt w b v Ps) :
    Calls Try.prog 15 #[v] w fun e w' => ∃ B, e = .returned (.func (.func 28) #[] #[.pointer (some ⟨B, 0, none⟩)]) ∧ Below w.heap.size w w' := by
  refine (parts_any R [] (fun _ h => by cases h) (fun _ _ _ => ⟨fun _ _ hh => (by cases hh), fun _ _ hh => (by cases hh)⟩)).mono ?_
  rintro e w' ⟨B, rfl, _, hb⟩
  exact ⟨B, rfl, hb⟩

theorem wpList_unguard {P : Program} {ops : Array Oper} {Q : Exit → Act → World → Prop} {a : Act} {w : World} {rest : List Oper} {o : Oper} (hw : Region.wanted o (yielded ops a.tmps) = true) (h : wpList P ops Q ({ o with guard := none } :: rest) a w) : wpList P ops Q (o :: rest) a w := by
  unfold wpList at h ⊢
  rw [if_pos hw]
  have hn : Region.wanted { o with guard := none } (yielded ops a.tmps) = true := by simp [Region.wanted]
  rw [if_pos hn] at h
  exact h
theorem RopeAt.frOff {w w' : World} {F : List Nat} {b : Nat} {v : Value} {Ps : Parts} (R : RopeAt w b v Ps) (h : Fr F w w') (hF : ∀ x u, v = .agg #[x, u] → (∀ g, x.ownBlock = some g → g ∉ F) ∧ (∀ g, u.ownBlock = some g → g ∉ F)) : RopeAt w' b v Ps := by
  obtain ⟨vd, ve, rfl, h2, h3⟩ := R.ex
  have := hF _ _ rfl
  exact ⟨⟨vd, ve, rfl, h.row h2 this.1, h.row h3 this.2⟩, R.ne, R.len, R.size⟩
theorem off_sub {v : Value} {F G : List Nat} (h : ∀ x u, v = .agg #[x, u] → (∀ g, x.ownBlock = some g → g ∉ F) ∧ (∀ g, u.ownBlock = some g → g ∉ F)) (hs : ∀ y ∈ G, y ∈ F) : ∀ x u, v = .agg #[x, u] → (∀ g, x.ownBlock = some g → g ∉ G) ∧ (∀ g, u.ownBlock = some g → g ∉ G) :=
  fun x u e => ⟨fun g hg hm => (h x u e).1 g hg (hs _ hm), fun g hg hm => (h x u e).2 g hg (hs _ hm)⟩

set_option maxRecDepth 100000 in
set_option maxHeartbeats 6400000 in
theorem ropeHolds_walk0 {w : World} {vp : Value} {n1 n2 : Int} {Ps : Parts} (h : SrcV w vp (Ps.map encS)) :
    Calls Try.prog 7 #[vp, .int .i64 n1, .int .i64 n2] w fun e w' => e = .returned (.bool true) ∧ Below w.heap.size w w' := by
  have HP := Lib.hid h
  obtain ⟨pa, pc, hpf, hpc1, hpc2⟩ := h.formS
  generalize hPN : Ps.length = N at *
  subst hpf
  have HPN := Lib.hid hPN
  have hN2 : (N : Int) ≤ 9223372036854775807 := by unfold maxLen at hpc2; omega
  clear h hPN
  have hsn := seq_nil
  refine calls_marks Try.func7 rfl ?_
  simp only [Try.ntmps7, List.size_toArray, List.length_cons, List.length_nil, Nat.reduceAdd, Nat.reduceSub, Array.replicate_succ, Array.replicate_zero, List.push_toArray, List.append_toArray, List.nil_append, List.cons_append]
  go_wp2_with (go_at_call 8; fail)
  refine (small_any HP.out).mono ?_
  rintro e w' ⟨(⟨rfl, hk, hl⟩ | rfl), rfl⟩
  case' inr =>
    go_wp2_with (go_at_call 9; fail)
    refine (known_any _).mono ?_
    rintro e w' ⟨rfl, hb⟩
    go_wp2_with fail
    exact ⟨_, results_tmp rfl _ _ _, rfl, hb⟩
  have HK1 := Lib.hid (And.intro hk hl)
  clear hk hl
  by_cases hgd : (60 : Int) < (N : Int) ∨ n1 < 0 ∨ 70000 < n1 ∨ n2 < 0 ∨ 70000 < n2
  · rcases (by omega : (60 : Int) < (N : Int) ∨ ((N : Int) ≤ 60 ∧ n1 < 0) ∨ ((N : Int) ≤ 60 ∧ 0 ≤ n1 ∧ 70000 < n1) ∨ ((N : Int) ≤ 60 ∧ 0 ≤ n1 ∧ n1 ≤ 70000 ∧ n2 < 0) ∨ ((N : Int) ≤ 60 ∧ 0 ≤ n1 ∧ n1 ≤ 70000 ∧ 0 ≤ n2 ∧ 70000 < n2)) with g1 | ⟨g1, g2⟩ | ⟨g1, g2, g3⟩ | ⟨g1, g2, g3, g4⟩ | ⟨g1, g2, g3, g4, g5⟩
    all_goals
      go_wp2_with (go_at_call 9; fail)
      refine (known_any _).mono ?_
      rintro e w' ⟨rfl, hb⟩
      go_wp2_with fail
      exact ⟨_, results_tmp rfl _ _ _, rfl, hb⟩
  obtain ⟨gN, g10, g17, g20, g27⟩ : (N : Int) ≤ 60 ∧ 0 ≤ n1 ∧ n1 ≤ 70000 ∧ 0 ≤ n2 ∧ n2 ≤ 70000 := by omega
  clear hgd
  obtain ⟨ep, hep⟩ : ∃ ep, ep = errC (full Ps).length Ps.flatten.length := ⟨_, rfl⟩
  obtain ⟨A, hA⟩ : ∃ A, A = newP Ps := ⟨_, rfl⟩
  have be1 := errC_small Ps
  rw [← hep] at be1
  have hmade := Lib.hid (fun (W : World) (hW : SrcV W (.slice pa N pc) (Ps.map encS)) => made_any hW (by have := HK1.out; omega) (by have := HK1.out; omega))
  rw [← hep, ← hA] at hmade
  have hAl : A.length ≤ 60 := by have := newP_le Ps; have := HPN.out; rw [← hA] at *; omega
  clear hep hA
  go_wp2_with (go_at_call 14; fail)
  have HT : Hid (Below w.heap.size w w) := Lib.hid (Below.refl _ _)
  have HC : Hid (Below w.heap.size w w) := Lib.hid (Below.refl _ _)
  refine (hmade.out _ (HP.out.grown (HT.out.trans (HC.out.mono HT.out.size)))).mono ?_
  rintro e w1 ⟨vr, rfl, Qr, hb⟩
  have HC2 : Hid (Below w.heap.size w w1) := Lib.hid (HC.out.trans ((hb).mono HC.out.size))
  clear HC
  have HC := HC2
  clear HC2
  clear hb
  obtain ⟨xr0, xr1, xr2, xr3, xr4, xr5, hvr⟩ := Qr.shape
  subst hvr
  have Qr := Lib.hid (Qr.lower (Nat.zero_le _))
  by_cases he0 : ep = 0
  case' neg =>
    go_wp2_with (go_at_call 9; fail)
    refine (known_any _).mono ?_
    rintro e w' ⟨rfl, hb⟩
    go_wp2_with fail
    exact ⟨_, results_tmp rfl _ _ _, rfl, HC.out.trans ((below_alloc _ _).mono HC.out.size) |>.trans (hb.mono (by have := HC.out.size; simp; omega))⟩
  subst he0
  clear hmade be1
  obtain ⟨A1, A2, C1, C2, X1, X2, p1, p2, p3, p4, p5, p6, ⟨p7, p8⟩, ⟨p9, p10⟩, f1, f2, f3, f4, f5⟩ := holds_pure A n1 n2 Qr.out.ne hAl Qr.out.size g10 g20
  have HE := Lib.hid (And.intro p1 (And.intro p2 (And.intro p3 (And.intro p4 (And.intro p5 p6)))))
  have HJ1 := Lib.hid (And.intro p7 p8)
  have HJ2 := Lib.hid (And.intro p9 p10)
  have HF := Lib.hid (And.intro f1 (And.intro f2 (And.intro f3 (And.intro f4 f5))))
  clear p1 p2 p3 p4 p5 p6 p7 p8 p9 p10 f1 f2 f3 f4 f5
  obtain ⟨S, hS⟩ : ∃ S, S = strB A.flatten := ⟨_, rfl⟩
  obtain ⟨m, hm⟩ : ∃ m, m = A.flatten.length := ⟨_, rfl⟩
  have hSz : S.size = m := by rw [hS, strB_size, hm]
  obtain ⟨q, hq⟩ : ∃ q, q = A.length := ⟨_, rfl⟩
  obtain ⟨q2, hq2⟩ : ∃ q, q = (A1 ++ A2).length := ⟨_, rfl⟩
  have HQ1 := Lib.hid hq
  have HQ2 := Lib.hid hq2
  clear hq hq2
  have HSS := Lib.hid hS
  have HMM := Lib.hid hm
  clear hS hm
  go_wp2_with (go_at_call 22; fail)
  obtain ⟨W1, hW1⟩ : ∃ x, x = (w1.alloc (.cells #[.slice xr0 xr1 xr2, .slice xr3 xr4 xr5] 29)) := ⟨_, rfl⟩
  have HBn : Below w1.heap.size w1 W1 := by rw [hW1]; exact below_alloc _ _
  have HBB : Hid (Below w.heap.size w W1) := Lib.hid (HC.out.trans (HBn.mono HC.out.size))
  have Yr : Hid (W1.heap[w1.heap.size]? = some (.cells #[.slice xr0 xr1 xr2, .slice xr3 xr4 xr5] 29 (0, 0))) := Lib.hid (by rw [hW1]; exact heap_alloc_new _ _)
  have SRr : Hid (RopeAt W1 0 (.agg #[.slice xr0 xr1 xr2, .slice xr3 xr4 xr5]) (A)) := Lib.hid (((Qr.out)).grown HBn)
  have HTn : Hid (Below w.heap.size w W1) := Lib.hid (HT.out.trans (HBB.out.mono HT.out.size))
  rw [← hW1]
  clear hW1 HC HT HBn HBB
  have Xr := Yr
  have Rr := SRr
  have HT := HTn
  clear HTn Yr SRr
  have HC : Hid (Below W1.heap.size W1 W1) := Lib.hid (Below.refl _ _)
  refine (bytes_any (Rr.out.grown HC.out)).mono ?_
  rintro e w2 ⟨v5, rfl, ho5, hb⟩
  have HC2 : Hid (Below W1.heap.size W1 w2) := Lib.hid (HC.out.trans ((hb).mono HC.out.size))
  clear HC
  have HC := HC2
  clear HC2
  clear hb
  have hcv := row_str ho5
  rw [← HSS.out] at hcv
  clear ho5
  have kr0w2 : w2.cell? ⟨w1.heap.size, 0, none⟩ = some (.slice xr0 xr1 xr2) := cells_cell ((HC.out.block _ (lt_of_block Xr.out)).trans Xr.out) rfl
  have zr0w2 : w2.frozen? ⟨w1.heap.size, 0, none⟩ = false := cells_free ((HC.out.block _ (lt_of_block Xr.out)).trans Xr.out) _
  have kr1w2 : w2.cell? ⟨w1.heap.size, 1, none⟩ = some (.slice xr3 xr4 xr5) := cells_cell ((HC.out.block _ (lt_of_block Xr.out)).trans Xr.out) rfl
  have zr1w2 : w2.frozen? ⟨w1.heap.size, 1, none⟩ = false := cells_free ((HC.out.block _ (lt_of_block Xr.out)).trans Xr.out) _
  have lrw2 : w1.heap.size < w2.heap.size := lt_of_block ((HC.out.block _ (lt_of_block Xr.out)).trans Xr.out)
  go_wp2_with (go_at_call 16; fail)
  clear hcv
  refine (take_at (Rr.out.grown HC.out) n1 g10 A1 A2 HE.out.1 HE.out.2.1).mono ?_
  rintro e w3 ⟨va, vb, rfl, Qa, Qb, hb⟩
  have HC2 : Hid (Below W1.heap.size W1 w3) := Lib.hid (HC.out.trans ((hb).mono HC.out.size))
  clear HC
  have HC := HC2
  clear HC2
  clear hb
  obtain ⟨xa0, xa1, xa2, xa3, xa4, xa5, hva⟩ := Qa.shape
  subst hva
  obtain ⟨xb0, xb1, xb2, xb3, xb4, xb5, hvb⟩ := Qb.shape
  subst hvb
  have Qa := Lib.hid Qa
  have Qb := Lib.hid Qb
  go_wp2_with (go_at_call 16; fail)
  obtain ⟨W3, hW3⟩ : ∃ x, x = ((w3.alloc (.cells #[.slice xa0 xa1 xa2, .slice xa3 xa4 xa5] 29)).alloc (.cells #[.slice xb0 xb1 xb2, .slice xb3 xb4 xb5] 29)) := ⟨_, rfl⟩
  have HBn : Below w3.heap.size w3 W3 := by rw [hW3]; exact (below_alloc _ _).trans ((below_alloc _ _).mono (by simp))
  have HBB : Hid (Below W1.heap.size W1 W3) := Lib.hid (HC.out.trans (HBn.mono HC.out.size))
  have Yr : Hid (W3.heap[w1.heap.size]? = some (.cells #[.slice xr0 xr1 xr2, .slice xr3 xr4 xr5] 29 (0, 0))) := Lib.hid ((HBB.out.block _ (lt_of_block Xr.out)).trans Xr.out)
  have SRr : Hid (RopeAt W3 0 (.agg #[.slice xr0 xr1 xr2, .slice xr3 xr4 xr5]) (A)) := Lib.hid ((Rr.out).grown HBB.out)
  have Ya : Hid (W3.heap[w3.heap.size]? = some (.cells #[.slice xa0 xa1 xa2, .slice xa3 xa4 xa5] 29 (0, 0))) := Lib.hid (by rw [hW3]; exact ((below_alloc _ _).block _ (by first | (simp; done) | (simp; omega))).trans (heap_alloc_new _ _))
  have Yb : Hid (W3.heap[w3.heap.size + 1]? = some (.cells #[.slice xb0 xb1 xb2, .slice xb3 xb4 xb5] 29 (0, 0))) := Lib.hid (by rw [hW3]; exact (by have := heap_alloc_new (w3.alloc (.cells #[.slice xa0 xa1 xa2, .slice xa3 xa4 xa5] 29)) (.cells #[.slice xb0 xb1 xb2, .slice xb3 xb4 xb5] 29); simpa using this))
  have SRa : Hid (RopeAt W3 0 (.agg #[.slice xa0 xa1 xa2, .slice xa3 xa4 xa5]) (A1)) := Lib.hid (((Qa.out)).grown HBn)
  have SRb : Hid (RopeAt W3 0 (.agg #[.slice xb0 xb1 xb2, .slice xb3 xb4 xb5]) (A2)) := Lib.hid (((Qb.out)).grown HBn)
  have HTn : Hid (Below w.heap.size w W3) := Lib.hid (HT.out.trans (HBB.out.mono HT.out.size))
  rw [← hW3]
  clear hW3 HC HT HBn HBB Xr Rr
  have Xr := Yr
  have Xa := Ya
  have Xb := Yb
  have Rr := SRr
  have Ra := SRa
  have Rb := SRb
  have HT := HTn
  clear HTn Yr Ya Yb SRr SRa SRb
  have HC : Hid (Below W3.heap.size W3 W3) := Lib.hid (Below.refl _ _)
  refine (take_at (Rb.out.grown HC.out) n2 g20 C1 C2 HE.out.2.2.1 HE.out.2.2.2.1).mono ?_
  rintro e w4 ⟨vc, vd, rfl, Qc, Qd, hb⟩
  have HC2 : Hid (Below W3.heap.size W3 w4) := Lib.hid (HC.out.trans ((hb).mono HC.out.size))
  clear HC
  have HC := HC2
  clear HC2
  clear hb
  obtain ⟨xc0, xc1, xc2, xc3, xc4, xc5, hvc⟩ := Qc.shape
  subst hvc
  obtain ⟨xd0, xd1, xd2, xd3, xd4, xd5, hvd⟩ := Qd.shape
  subst hvd
  have Qc := Lib.hid Qc
  have Qd := Lib.hid Qd
  have kr0w4 : w4.cell? ⟨w1.heap.size, 0, none⟩ = some (.slice xr0 xr1 xr2) := cells_cell ((HC.out.block _ (lt_of_block Xr.out)).trans Xr.out) rfl
  have zr0w4 : w4.frozen? ⟨w1.heap.size, 0, none⟩ = false := cells_free ((HC.out.block _ (lt_of_block Xr.out)).trans Xr.out) _
  have kr1w4 : w4.cell? ⟨w1.heap.size, 1, none⟩ = some (.slice xr3 xr4 xr5) := cells_cell ((HC.out.block _ (lt_of_block Xr.out)).trans Xr.out) rfl
  have zr1w4 : w4.frozen? ⟨w1.heap.size, 1, none⟩ = false := cells_free ((HC.out.block _ (lt_of_block Xr.out)).trans Xr.out) _
  have lrw4 : w1.heap.size < w4.heap.size := lt_of_block ((HC.out.block _ (lt_of_block Xr.out)).trans Xr.out)
  go_wp2_with (go_at_call 16; fail)
  obtain ⟨W4, hW4⟩ : ∃ x, x = ((w4.alloc (.cells #[.slice xc0 xc1 xc2, .slice xc3 xc4 xc5] 29)).alloc (.cells #[.slice xd0 xd1 xd2, .slice xd3 xd4 xd5] 29)) := ⟨_, rfl⟩
  have HBn : Below w4.heap.size w4 W4 := by rw [hW4]; exact (below_alloc _ _).trans ((below_alloc _ _).mono (by simp))
  have HBB : Hid (Below W3.heap.size W3 W4) := Lib.hid (HC.out.trans (HBn.mono HC.out.size))
  have Yr : Hid (W4.heap[w1.heap.size]? = some (.cells #[.slice xr0 xr1 xr2, .slice xr3 xr4 xr5] 29 (0, 0))) := Lib.hid ((HBB.out.block _ (lt_of_block Xr.out)).trans Xr.out)
  have Ya : Hid (W4.heap[w3.heap.size]? = some (.cells #[.slice xa0 xa1 xa2, .slice xa3 xa4 xa5] 29 (0, 0))) := Lib.hid ((HBB.out.block _ (lt_of_block Xa.out)).trans Xa.out)
  have Yb : Hid (W4.heap[w3.heap.size + 1]? = some (.cells #[.slice xb0 xb1 xb2, .slice xb3 xb4 xb5] 29 (0, 0))) := Lib.hid ((HBB.out.block _ (lt_of_block Xb.out)).trans Xb.out)
  have SRr : Hid (RopeAt W4 0 (.agg #[.slice xr0 xr1 xr2, .slice xr3 xr4 xr5]) (A)) := Lib.hid ((Rr.out).grown HBB.out)
  have SRa : Hid (RopeAt W4 0 (.agg #[.slice xa0 xa1 xa2, .slice xa3 xa4 xa5]) (A1)) := Lib.hid ((Ra.out).grown HBB.out)
  have SRb : Hid (RopeAt W4 0 (.agg #[.slice xb0 xb1 xb2, .slice xb3 xb4 xb5]) (A2)) := Lib.hid ((Rb.out).grown HBB.out)
  have Yc : Hid (W4.heap[w4.heap.size]? = some (.cells #[.slice xc0 xc1 xc2, .slice xc3 xc4 xc5] 29 (0, 0))) := Lib.hid (by rw [hW4]; exact ((below_alloc _ _).block _ (by first | (simp; done) | (simp; omega))).trans (heap_alloc_new _ _))
  have Yd : Hid (W4.heap[w4.heap.size + 1]? = some (.cells #[.slice xd0 xd1 xd2, .slice xd3 xd4 xd5] 29 (0, 0))) := Lib.hid (by rw [hW4]; exact (by have := heap_alloc_new (w4.alloc (.cells #[.slice xc0 xc1 xc2, .slice xc3 xc4 xc5] 29)) (.cells #[.slice xd0 xd1 xd2, .slice xd3 xd4 xd5] 29); simpa using this))
  have SRc : Hid (RopeAt W4 0 (.agg #[.slice xc0 xc1 xc2, .slice xc3 xc4 xc5]) (C1)) := Lib.hid (((Qc.out)).grown HBn)
  have SRd : Hid (RopeAt W4 0 (.agg #[.slice xd0 xd1 xd2, .slice xd3 xd4 xd5]) (C2)) := Lib.hid (((Qd.out)).grown HBn)
  have HTn : Hid (Below w.heap.size w W4) := Lib.hid (HT.out.trans (HBB.out.mono HT.out.size))
  rw [← hW4]
  clear hW4 HC HT HBn HBB Xr Xa Xb Rr Ra Rb
  have Xr := Yr
  have Xa := Ya
  have Xb := Yb
  have Xc := Yc
  have Xd := Yd
  have Rr := SRr
  have Ra := SRa
  have Rb := SRb
  have Rc := SRc
  have Rd := SRd
  have HT := HTn
  clear HTn Yr Ya Yb Yc Yd SRr SRa SRb SRc SRd
  have HC : Hid (Below W4.heap.size W4 W4) := Lib.hid (Below.refl _ _)
  refine (take_at (Rr.out.grown HC.out) (n1 + n2) (by omega) X1 X2 HE.out.2.2.2.2.1 HE.out.2.2.2.2.2).mono ?_
  rintro e w5 ⟨vx, vy, rfl, Qx, Qy, hb⟩
  have HC2 : Hid (Below W4.heap.size W4 w5) := Lib.hid (HC.out.trans ((hb).mono HC.out.size))
  clear HC
  have HC := HC2
  clear HC2
  clear hb
  obtain ⟨xx0, xx1, xx2, xx3, xx4, xx5, hvx⟩ := Qx.shape
  subst hvx
  obtain ⟨xy0, xy1, xy2, xy3, xy4, xy5, hvy⟩ := Qy.shape
  subst hvy
  have Qx := Lib.hid Qx
  have Qy := Lib.hid Qy
  have ka0w5 : w5.cell? ⟨w3.heap.size, 0, none⟩ = some (.slice xa0 xa1 xa2) := cells_cell ((HC.out.block _ (lt_of_block Xa.out)).trans Xa.out) rfl
  have za0w5 : w5.frozen? ⟨w3.heap.size, 0, none⟩ = false := cells_free ((HC.out.block _ (lt_of_block Xa.out)).trans Xa.out) _
  have ka1w5 : w5.cell? ⟨w3.heap.size, 1, none⟩ = some (.slice xa3 xa4 xa5) := cells_cell ((HC.out.block _ (lt_of_block Xa.out)).trans Xa.out) rfl
  have za1w5 : w5.frozen? ⟨w3.heap.size, 1, none⟩ = false := cells_free ((HC.out.block _ (lt_of_block Xa.out)).trans Xa.out) _
  have law5 : w3.heap.size < w5.heap.size := lt_of_block ((HC.out.block _ (lt_of_block Xa.out)).trans Xa.out)
  have kb0w5 : w5.cell? ⟨w3.heap.size + 1, 0, none⟩ = some (.slice xb0 xb1 xb2) := cells_cell ((HC.out.block _ (lt_of_block Xb.out)).trans Xb.out) rfl
  have zb0w5 : w5.frozen? ⟨w3.heap.size + 1, 0, none⟩ = false := cells_free ((HC.out.block _ (lt_of_block Xb.out)).trans Xb.out) _
  have kb1w5 : w5.cell? ⟨w3.heap.size + 1, 1, none⟩ = some (.slice xb3 xb4 xb5) := cells_cell ((HC.out.block _ (lt_of_block Xb.out)).trans Xb.out) rfl
  have zb1w5 : w5.frozen? ⟨w3.heap.size + 1, 1, none⟩ = false := cells_free ((HC.out.block _ (lt_of_block Xb.out)).trans Xb.out) _
  have lbw5 : w3.heap.size + 1 < w5.heap.size := lt_of_block ((HC.out.block _ (lt_of_block Xb.out)).trans Xb.out)
  go_wp2_with (go_at_call 20; fail)
  obtain ⟨W5, hW5⟩ : ∃ x, x = ((w5.alloc (.cells #[.slice xx0 xx1 xx2, .slice xx3 xx4 xx5] 29)).alloc (.cells #[.slice xy0 xy1 xy2, .slice xy3 xy4 xy5] 29)) := ⟨_, rfl⟩
  have HBn : Below w5.heap.size w5 W5 := by rw [hW5]; exact (below_alloc _ _).trans ((below_alloc _ _).mono (by simp))
  have HBB : Hid (Below W4.heap.size W4 W5) := Lib.hid (HC.out.trans (HBn.mono HC.out.size))
  have Yr : Hid (W5.heap[w1.heap.size]? = some (.cells #[.slice xr0 xr1 xr2, .slice xr3 xr4 xr5] 29 (0, 0))) := Lib.hid ((HBB.out.block _ (lt_of_block Xr.out)).trans Xr.out)
  have Ya : Hid (W5.heap[w3.heap.size]? = some (.cells #[.slice xa0 xa1 xa2, .slice xa3 xa4 xa5] 29 (0, 0))) := Lib.hid ((HBB.out.block _ (lt_of_block Xa.out)).trans Xa.out)
  have Yb : Hid (W5.heap[w3.heap.size + 1]? = some (.cells #[.slice xb0 xb1 xb2, .slice xb3 xb4 xb5] 29 (0, 0))) := Lib.hid ((HBB.out.block _ (lt_of_block Xb.out)).trans Xb.out)
  have Yc : Hid (W5.heap[w4.heap.size]? = some (.cells #[.slice xc0 xc1 xc2, .slice xc3 xc4 xc5] 29 (0, 0))) := Lib.hid ((HBB.out.block _ (lt_of_block Xc.out)).trans Xc.out)
  have Yd : Hid (W5.heap[w4.heap.size + 1]? = some (.cells #[.slice xd0 xd1 xd2, .slice xd3 xd4 xd5] 29 (0, 0))) := Lib.hid ((HBB.out.block _ (lt_of_block Xd.out)).trans Xd.out)
  have SRr : Hid (RopeAt W5 0 (.agg #[.slice xr0 xr1 xr2, .slice xr3 xr4 xr5]) (A)) := Lib.hid ((Rr.out).grown HBB.out)
  have SRa : Hid (RopeAt W5 0 (.agg #[.slice xa0 xa1 xa2, .slice xa3 xa4 xa5]) (A1)) := Lib.hid ((Ra.out).grown HBB.out)
  have SRb : Hid (RopeAt W5 0 (.agg #[.slice xb0 xb1 xb2, .slice xb3 xb4 xb5]) (A2)) := Lib.hid ((Rb.out).grown HBB.out)
  have SRc : Hid (RopeAt W5 0 (.agg #[.slice xc0 xc1 xc2, .slice xc3 xc4 xc5]) (C1)) := Lib.hid ((Rc.out).grown HBB.out)
  have SRd : Hid (RopeAt W5 0 (.agg #[.slice xd0 xd1 xd2, .slice xd3 xd4 xd5]) (C2)) := Lib.hid ((Rd.out).grown HBB.out)
  have Yx : Hid (W5.heap[w5.heap.size]? = some (.cells #[.slice xx0 xx1 xx2, .slice xx3 xx4 xx5] 29 (0, 0))) := Lib.hid (by rw [hW5]; exact ((below_alloc _ _).block _ (by first | (simp; done) | (simp; omega))).trans (heap_alloc_new _ _))
  have Yy : Hid (W5.heap[w5.heap.size + 1]? = some (.cells #[.slice xy0 xy1 xy2, .slice xy3 xy4 xy5] 29 (0, 0))) := Lib.hid (by rw [hW5]; exact (by have := heap_alloc_new (w5.alloc (.cells #[.slice xx0 xx1 xx2, .slice xx3 xx4 xx5] 29)) (.cells #[.slice xy0 xy1 xy2, .slice xy3 xy4 xy5] 29); simpa using this))
  have SRx : Hid (RopeAt W5 0 (.agg #[.slice xx0 xx1 xx2, .slice xx3 xx4 xx5]) (X1)) := Lib.hid (((Qx.out)).grown HBn)
  have SRy : Hid (RopeAt W5 0 (.agg #[.slice xy0 xy1 xy2, .slice xy3 xy4 xy5]) (X2)) := Lib.hid (((Qy.out)).grown HBn)
  have HTn : Hid (Below w.heap.size w W5) := Lib.hid (HT.out.trans (HBB.out.mono HT.out.size))
  rw [← hW5]
  clear hW5 HC HT HBn HBB Xr Xa Xb Xc Xd Rr Ra Rb Rc Rd
  have Xr := Yr
  have Xa := Ya
  have Xb := Yb
  have Xc := Yc
  have Xd := Yd
  have Xx := Yx
  have Xy := Yy
  have Rr := SRr
  have Ra := SRa
  have Rb := SRb
  have Rc := SRc
  have Rd := SRd
  have Rx := SRx
  have Ry := SRy
  have HT := HTn
  clear HTn Yr Ya Yb Yc Yd Yx Yy SRr SRa SRb SRc SRd SRx SRy
  have HC : Hid (Below W5.heap.size W5 W5) := Lib.hid (Below.refl _ _)
  refine (join_at (Ra.out.grown HC.out) (Rb.out.grown HC.out) HJ1.out.1 HJ1.out.2).mono ?_
  rintro e w6 ⟨vz, rfl, Qz, hb⟩
  have HC2 : Hid (Below W5.heap.size W5 w6) := Lib.hid (HC.out.trans ((hb).mono HC.out.size))
  clear HC
  have HC := HC2
  clear HC2
  clear hb
  obtain ⟨xz0, xz1, xz2, xz3, xz4, xz5, hvz⟩ := Qz.shape
  subst hvz
  have Qz := Lib.hid Qz
  have ka0w6 : w6.cell? ⟨w3.heap.size, 0, none⟩ = some (.slice xa0 xa1 xa2) := cells_cell ((HC.out.block _ (lt_of_block Xa.out)).trans Xa.out) rfl
  have za0w6 : w6.frozen? ⟨w3.heap.size, 0, none⟩ = false := cells_free ((HC.out.block _ (lt_of_block Xa.out)).trans Xa.out) _
  have ka1w6 : w6.cell? ⟨w3.heap.size, 1, none⟩ = some (.slice xa3 xa4 xa5) := cells_cell ((HC.out.block _ (lt_of_block Xa.out)).trans Xa.out) rfl
  have za1w6 : w6.frozen? ⟨w3.heap.size, 1, none⟩ = false := cells_free ((HC.out.block _ (lt_of_block Xa.out)).trans Xa.out) _
  have law6 : w3.heap.size < w6.heap.size := lt_of_block ((HC.out.block _ (lt_of_block Xa.out)).trans Xa.out)
  have kc0w6 : w6.cell? ⟨w4.heap.size, 0, none⟩ = some (.slice xc0 xc1 xc2) := cells_cell ((HC.out.block _ (lt_of_block Xc.out)).trans Xc.out) rfl
  have zc0w6 : w6.frozen? ⟨w4.heap.size, 0, none⟩ = false := cells_free ((HC.out.block _ (lt_of_block Xc.out)).trans Xc.out) _
  have kc1w6 : w6.cell? ⟨w4.heap.size, 1, none⟩ = some (.slice xc3 xc4 xc5) := cells_cell ((HC.out.block _ (lt_of_block Xc.out)).trans Xc.out) rfl
  have zc1w6 : w6.frozen? ⟨w4.heap.size, 1, none⟩ = false := cells_free ((HC.out.block _ (lt_of_block Xc.out)).trans Xc.out) _
  have lcw6 : w4.heap.size < w6.heap.size := lt_of_block ((HC.out.block _ (lt_of_block Xc.out)).trans Xc.out)
  go_wp2_with (go_at_call 20; fail)
  obtain ⟨W6, hW6⟩ : ∃ x, x = (w6.alloc (.cells #[.slice xz0 xz1 xz2, .slice xz3 xz4 xz5] 29)) := ⟨_, rfl⟩
  have HBn : Below w6.heap.size w6 W6 := by rw [hW6]; exact below_alloc _ _
  have HBB : Hid (Below W5.heap.size W5 W6) := Lib.hid (HC.out.trans (HBn.mono HC.out.size))
  have Yr : Hid (W6.heap[w1.heap.size]? = some (.cells #[.slice xr0 xr1 xr2, .slice xr3 xr4 xr5] 29 (0, 0))) := Lib.hid ((HBB.out.block _ (lt_of_block Xr.out)).trans Xr.out)
  have Ya : Hid (W6.heap[w3.heap.size]? = some (.cells #[.slice xa0 xa1 xa2, .slice xa3 xa4 xa5] 29 (0, 0))) := Lib.hid ((HBB.out.block _ (lt_of_block Xa.out)).trans Xa.out)
  have Yb : Hid (W6.heap[w3.heap.size + 1]? = some (.cells #[.slice xb0 xb1 xb2, .slice xb3 xb4 xb5] 29 (0, 0))) := Lib.hid ((HBB.out.block _ (lt_of_block Xb.out)).trans Xb.out)
  have Yc : Hid (W6.heap[w4.heap.size]? = some (.cells #[.slice xc0 xc1 xc2, .slice xc3 xc4 xc5] 29 (0, 0))) := Lib.hid ((HBB.out.block _ (lt_of_block Xc.out)).trans Xc.out)
  have Yd : Hid (W6.heap[w4.heap.size + 1]? = some (.cells #[.slice xd0 xd1 xd2, .slice xd3 xd4 xd5] 29 (0, 0))) := Lib.hid ((HBB.out.block _ (lt_of_block Xd.out)).trans Xd.out)
  have Yx : Hid (W6.heap[w5.heap.size]? = some (.cells #[.slice xx0 xx1 xx2, .slice xx3 xx4 xx5] 29 (0, 0))) := Lib.hid ((HBB.out.block _ (lt_of_block Xx.out)).trans Xx.out)
  have Yy : Hid (W6.heap[w5.heap.size + 1]? = some (.cells #[.slice xy0 xy1 xy2, .slice xy3 xy4 xy5] 29 (0, 0))) := Lib.hid ((HBB.out.block _ (lt_of_block Xy.out)).trans Xy.out)
  have SRr : Hid (RopeAt W6 0 (.agg #[.slice xr0 xr1 xr2, .slice xr3 xr4 xr5]) (A)) := Lib.hid ((Rr.out).grown HBB.out)
  have SRa : Hid (RopeAt W6 0 (.agg #[.slice xa0 xa1 xa2, .slice xa3 xa4 xa5]) (A1)) := Lib.hid ((Ra.out).grown HBB.out)
  have SRb : Hid (RopeAt W6 0 (.agg #[.slice xb0 xb1 xb2, .slice xb3 xb4 xb5]) (A2)) := Lib.hid ((Rb.out).grown HBB.out)
  have SRc : Hid (RopeAt W6 0 (.agg #[.slice xc0 xc1 xc2, .slice xc3 xc4 xc5]) (C1)) := Lib.hid ((Rc.out).grown HBB.out)
  have SRd : Hid (RopeAt W6 0 (.agg #[.slice xd0 xd1 xd2, .slice xd3 xd4 xd5]) (C2)) := Lib.hid ((Rd.out).grown HBB.out)
  have SRx : Hid (RopeAt W6 0 (.agg #[.slice xx0 xx1 xx2, .slice xx3 xx4 xx5]) (X1)) := Lib.hid ((Rx.out).grown HBB.out)
  have SRy : Hid (RopeAt W6 0 (.agg #[.slice xy0 xy1 xy2, .slice xy3 xy4 xy5]) (X2)) := Lib.hid ((Ry.out).grown HBB.out)
  have Yz : Hid (W6.heap[w6.heap.size]? = some (.cells #[.slice xz0 xz1 xz2, .slice xz3 xz4 xz5] 29 (0, 0))) := Lib.hid (by rw [hW6]; exact heap_alloc_new _ _)
  have SRz : Hid (RopeAt W6 0 (.agg #[.slice xz0 xz1 xz2, .slice xz3 xz4 xz5]) (A1 ++ A2)) := Lib.hid (((Qz.out)).grown HBn)
  have HTn : Hid (Below w.heap.size w W6) := Lib.hid (HT.out.trans (HBB.out.mono HT.out.size))
  rw [← hW6]
  clear hW6 HC HT HBn HBB Xr Xa Xb Xc Xd Xx Xy Rr Ra Rb Rc Rd Rx Ry
  have Xr := Yr
  have Xa := Ya
  have Xb := Yb
  have Xc := Yc
  have Xd := Yd
  have Xx := Yx
  have Xy := Yy
  have Xz := Yz
  have Rr := SRr
  have Ra := SRa
  have Rb := SRb
  have Rc := SRc
  have Rd := SRd
  have Rx := SRx
  have Ry := SRy
  have Rz := SRz
  have HT := HTn
  clear HTn Yr Ya Yb Yc Yd Yx Yy Yz SRr SRa SRb SRc SRd SRx SRy SRz
  have HC : Hid (Below W6.heap.size W6 W6) := Lib.hid (Below.refl _ _)
  refine (join_at (Ra.out.grown HC.out) (Rc.out.grown HC.out) HJ2.out.1 HJ2.out.2).mono ?_
  rintro e w7 ⟨vu, rfl, Qu, hb⟩
  have HC2 : Hid (Below W6.heap.size W6 w7) := Lib.hid (HC.out.trans ((hb).mono HC.out.size))
  clear HC
  have HC := HC2
  clear HC2
  clear hb
  obtain ⟨xu0, xu1, xu2, xu3, xu4, xu5, hvu⟩ := Qu.shape
  subst hvu
  have Qu := Lib.hid Qu
  have kr0w7 : w7.cell? ⟨w1.heap.size, 0, none⟩ = some (.slice xr0 xr1 xr2) := cells_cell ((HC.out.block _ (lt_of_block Xr.out)).trans Xr.out) rfl
  have zr0w7 : w7.frozen? ⟨w1.heap.size, 0, none⟩ = false := cells_free ((HC.out.block _ (lt_of_block Xr.out)).trans Xr.out) _
  have kr1w7 : w7.cell? ⟨w1.heap.size, 1, none⟩ = some (.slice xr3 xr4 xr5) := cells_cell ((HC.out.block _ (lt_of_block Xr.out)).trans Xr.out) rfl
  have zr1w7 : w7.frozen? ⟨w1.heap.size, 1, none⟩ = false := cells_free ((HC.out.block _ (lt_of_block Xr.out)).trans Xr.out) _
  have lrw7 : w1.heap.size < w7.heap.size := lt_of_block ((HC.out.block _ (lt_of_block Xr.out)).trans Xr.out)
  have hB3 : Below w7.heap.size w7 (((w7.alloc (.cells #[.slice xu0 xu1 xu2, .slice xu3 xu4 xu5] 29)).alloc (.cells #[.int .i64 0] 3)).alloc (.cells #[.int .i64 0] 3)) := below3 _ _ _ _
  have kq0 : (((w7.alloc (.cells #[.slice xu0 xu1 xu2, .slice xu3 xu4 xu5] 29)).alloc (.cells #[.int .i64 0] 3)).alloc (.cells #[.int .i64 0] 3)).cell? ⟨w1.heap.size, 0, none⟩ = some (.slice xr0 xr1 xr2) := below_cells hB3 _ _ kr0w7
  have kq1 : (((w7.alloc (.cells #[.slice xu0 xu1 xu2, .slice xu3 xu4 xu5] 29)).alloc (.cells #[.int .i64 0] 3)).alloc (.cells #[.int .i64 0] 3)).cell? ⟨w1.heap.size, 1, none⟩ = some (.slice xr3 xr4 xr5) := below_cells hB3 _ _ kr1w7
  clear hB3
  go_wp2_with (go_at_call 15; fail)
  clear kq0 kq1
  have Nr := Lib.hid ((Rr.out.grown HC.out).not_in [w7.heap.size + 1, w7.heap.size + 1 + 1] (fun x hx => by simp at hx; omega))
  have Nz := Lib.hid ((Rz.out.grown HC.out).not_in [w7.heap.size + 1, w7.heap.size + 1 + 1] (fun x hx => by simp at hx; omega))
  have Nx := Lib.hid ((Rx.out.grown HC.out).not_in [w7.heap.size + 1, w7.heap.size + 1 + 1] (fun x hx => by simp at hx; omega))
  have Nd := Lib.hid ((Rd.out.grown HC.out).not_in [w7.heap.size + 1, w7.heap.size + 1 + 1] (fun x hx => by simp at hx; omega))
  have Ny := Lib.hid ((Ry.out.grown HC.out).not_in [w7.heap.size + 1, w7.heap.size + 1 + 1] (fun x hx => by simp at hx; omega))
  have Na := Lib.hid ((Ra.out.grown HC.out).not_in [w7.heap.size + 1, w7.heap.size + 1 + 1] (fun x hx => by simp at hx; omega))
  have Nu := Lib.hid (Qu.out.not_in [w7.heap.size + 1, w7.heap.size + 1 + 1] (fun x hx => by simp at hx; omega))
  have o7 : Hid (w.heap.size ≤ w7.heap.size) := Lib.hid (HT.out.trans (HC.out.mono HT.out.size)).size
  obtain ⟨W7, hW7⟩ : ∃ x, x = (((w7.alloc (.cells #[.slice xu0 xu1 xu2, .slice xu3 xu4 xu5] 29)).alloc (.cells #[.int .i64 0] 3)).alloc (.cells #[.int .i64 0] 3)) := ⟨_, rfl⟩
  have HBn : Below w7.heap.size w7 W7 := by rw [hW7]; exact below3 _ _ _ _
  have HBB : Hid (Below W6.heap.size W6 W7) := Lib.hid (HC.out.trans (HBn.mono HC.out.size))
  have Yr : Hid (W7.heap[w1.heap.size]? = some (.cells #[.slice xr0 xr1 xr2, .slice xr3 xr4 xr5] 29 (0, 0))) := Lib.hid ((HBB.out.block _ (lt_of_block Xr.out)).trans Xr.out)
  have Ya : Hid (W7.heap[w3.heap.size]? = some (.cells #[.slice xa0 xa1 xa2, .slice xa3 xa4 xa5] 29 (0, 0))) := Lib.hid ((HBB.out.block _ (lt_of_block Xa.out)).trans Xa.out)
  have Yb : Hid (W7.heap[w3.heap.size + 1]? = some (.cells #[.slice xb0 xb1 xb2, .slice xb3 xb4 xb5] 29 (0, 0))) := Lib.hid ((HBB.out.block _ (lt_of_block Xb.out)).trans Xb.out)
  have Yc : Hid (W7.heap[w4.heap.size]? = some (.cells #[.slice xc0 xc1 xc2, .slice xc3 xc4 xc5] 29 (0, 0))) := Lib.hid ((HBB.out.block _ (lt_of_block Xc.out)).trans Xc.out)
  have Yd : Hid (W7.heap[w4.heap.size + 1]? = some (.cells #[.slice xd0 xd1 xd2, .slice xd3 xd4 xd5] 29 (0, 0))) := Lib.hid ((HBB.out.block _ (lt_of_block Xd.out)).trans Xd.out)
  have Yx : Hid (W7.heap[w5.heap.size]? = some (.cells #[.slice xx0 xx1 xx2, .slice xx3 xx4 xx5] 29 (0, 0))) := Lib.hid ((HBB.out.block _ (lt_of_block Xx.out)).trans Xx.out)
  have Yy : Hid (W7.heap[w5.heap.size + 1]? = some (.cells #[.slice xy0 xy1 xy2, .slice xy3 xy4 xy5] 29 (0, 0))) := Lib.hid ((HBB.out.block _ (lt_of_block Xy.out)).trans Xy.out)
  have Yz : Hid (W7.heap[w6.heap.size]? = some (.cells #[.slice xz0 xz1 xz2, .slice xz3 xz4 xz5] 29 (0, 0))) := Lib.hid ((HBB.out.block _ (lt_of_block Xz.out)).trans Xz.out)
  have SRr : Hid (RopeAt W7 0 (.agg #[.slice xr0 xr1 xr2, .slice xr3 xr4 xr5]) (A)) := Lib.hid ((Rr.out).grown HBB.out)
  have SRa : Hid (RopeAt W7 0 (.agg #[.slice xa0 xa1 xa2, .slice xa3 xa4 xa5]) (A1)) := Lib.hid ((Ra.out).grown HBB.out)
  have SRb : Hid (RopeAt W7 0 (.agg #[.slice xb0 xb1 xb2, .slice xb3 xb4 xb5]) (A2)) := Lib.hid ((Rb.out).grown HBB.out)
  have SRc : Hid (RopeAt W7 0 (.agg #[.slice xc0 xc1 xc2, .slice xc3 xc4 xc5]) (C1)) := Lib.hid ((Rc.out).grown HBB.out)
  have SRd : Hid (RopeAt W7 0 (.agg #[.slice xd0 xd1 xd2, .slice xd3 xd4 xd5]) (C2)) := Lib.hid ((Rd.out).grown HBB.out)
  have SRx : Hid (RopeAt W7 0 (.agg #[.slice xx0 xx1 xx2, .slice xx3 xx4 xx5]) (X1)) := Lib.hid ((Rx.out).grown HBB.out)
  have SRy : Hid (RopeAt W7 0 (.agg #[.slice xy0 xy1 xy2, .slice xy3 xy4 xy5]) (X2)) := Lib.hid ((Ry.out).grown HBB.out)
  have SRz : Hid (RopeAt W7 0 (.agg #[.slice xz0 xz1 xz2, .slice xz3 xz4 xz5]) (A1 ++ A2)) := Lib.hid ((Rz.out).grown HBB.out)
  have Yu : Hid (W7.heap[w7.heap.size]? = some (.cells #[.slice xu0 xu1 xu2, .slice xu3 xu4 xu5] 29 (0, 0))) := Lib.hid (by rw [hW7]; exact ((below_alloc _ _).block _ (by first | (simp; done) | (simp; omega))).trans (((below_alloc _ _).block _ (by first | (simp; done) | (simp; omega))).trans (heap_alloc_new _ _)))
  have Yn : Hid (W7.heap[w7.heap.size + 1]? = some (.cells #[.int .i64 0] 3 (0, 0))) := Lib.hid (by rw [hW7]; exact ((below_alloc _ _).block _ (by first | (simp; done) | (simp; omega))).trans ((by have := heap_alloc_new (w7.alloc (.cells #[.slice xu0 xu1 xu2, .slice xu3 xu4 xu5] 29)) (.cells #[.int .i64 0] 3); simpa using this)))
  have Ym : Hid (W7.heap[w7.heap.size + 1 + 1]? = some (.cells #[.int .i64 0] 3 (0, 0))) := Lib.hid (by rw [hW7]; exact (by have := heap_alloc_new ((w7.alloc (.cells #[.slice xu0 xu1 xu2, .slice xu3 xu4 xu5] 29)).alloc (.cells #[.int .i64 0] 3)) (.cells #[.int .i64 0] 3); simpa using this))
  have SRu : Hid (RopeAt W7 0 (.agg #[.slice xu0 xu1 xu2, .slice xu3 xu4 xu5]) (A1 ++ C1)) := Lib.hid (((Qu.out)).grown HBn)
  have HTn : Hid (Below w.heap.size w W7) := Lib.hid (HT.out.trans (HBB.out.mono HT.out.size))
  rw [← hW7]
  clear hW7 HC HT HBn HBB Xr Xa Xb Xc Xd Xx Xy Xz Rr Ra Rb Rc Rd Rx Ry Rz
  have Xr := Yr
  have Xa := Ya
  have Xb := Yb
  have Xc := Yc
  have Xd := Yd
  have Xx := Yx
  have Xy := Yy
  have Xz := Yz
  have Xu := Yu
  have Xn := Yn
  have Xm := Ym
  have Rr := SRr
  have Ra := SRa
  have Rb := SRb
  have Rc := SRc
  have Rd := SRd
  have Rx := SRx
  have Ry := SRy
  have Rz := SRz
  have Ru := SRu
  have HT := HTn
  clear HTn Yr Ya Yb Yc Yd Yx Yy Yz Yu Yn Ym SRr SRa SRb SRc SRd SRx SRy SRz SRu
  have HC : Hid (Below W7.heap.size W7 W7) := Lib.hid (Below.refl _ _)
  refine (parts_plain (Rr.out.grown HC.out)).mono ?_
  rintro e w8 ⟨B1, rfl, hb⟩
  have HC2 : Hid (Below W7.heap.size W7 w8) := Lib.hid (HC.out.trans ((hb).mono HC.out.size))
  clear HC
  have HC := HC2
  clear HC2
  clear hb
  have kz0w8 : w8.cell? ⟨w6.heap.size, 0, none⟩ = some (.slice xz0 xz1 xz2) := cells_cell ((HC.out.block _ (lt_of_block Xz.out)).trans Xz.out) rfl
  have zz0w8 : w8.frozen? ⟨w6.heap.size, 0, none⟩ = false := cells_free ((HC.out.block _ (lt_of_block Xz.out)).trans Xz.out) _
  have kz1w8 : w8.cell? ⟨w6.heap.size, 1, none⟩ = some (.slice xz3 xz4 xz5) := cells_cell ((HC.out.block _ (lt_of_block Xz.out)).trans Xz.out) rfl
  have zz1w8 : w8.frozen? ⟨w6.heap.size, 1, none⟩ = false := cells_free ((HC.out.block _ (lt_of_block Xz.out)).trans Xz.out) _
  have lzw8 : w6.heap.size < w8.heap.size := lt_of_block ((HC.out.block _ (lt_of_block Xz.out)).trans Xz.out)
  go_wp2_with (go_at_call 15; fail)
  refine (parts_plain (Rz.out.grown HC.out)).mono ?_
  rintro e w9 ⟨B2, rfl, hb⟩
  have HC2 : Hid (Below W7.heap.size W7 w9) := Lib.hid (HC.out.trans ((hb).mono HC.out.size))
  clear HC
  have HC := HC2
  clear HC2
  clear hb
  have kr0w9 : w9.cell? ⟨w1.heap.size, 0, none⟩ = some (.slice xr0 xr1 xr2) := cells_cell ((HC.out.block _ (lt_of_block Xr.out)).trans Xr.out) rfl
  have zr0w9 : w9.frozen? ⟨w1.heap.size, 0, none⟩ = false := cells_free ((HC.out.block _ (lt_of_block Xr.out)).trans Xr.out) _
  have kr1w9 : w9.cell? ⟨w1.heap.size, 1, none⟩ = some (.slice xr3 xr4 xr5) := cells_cell ((HC.out.block _ (lt_of_block Xr.out)).trans Xr.out) rfl
  have zr1w9 : w9.frozen? ⟨w1.heap.size, 1, none⟩ = false := cells_free ((HC.out.block _ (lt_of_block Xr.out)).trans Xr.out) _
  have lrw9 : w1.heap.size < w9.heap.size := lt_of_block ((HC.out.block _ (lt_of_block Xr.out)).trans Xr.out)
  go_wp2_with (go_at_call 15; fail)
  have ln1 := lt_of_block ((HC.out.block _ (lt_of_block Xn.out)).trans Xn.out)
  refine (parts_any (Rr.out.grown HC.out) [w7.heap.size + 1] (fun x hx => by simp at hx; subst hx; exact ln1) (off_sub Nr.out (fun y hy => by simp at hy; subst hy; simp))).mono ?_
  rintro e w10 ⟨Bq1, rfl, hS3, hb⟩
  have HC2 : Hid (Below W7.heap.size W7 w10) := Lib.hid (HC.out.trans ((hb).mono HC.out.size))
  clear HC
  have HC := HC2
  clear HC2
  clear hb
  have HS1 := Lib.hid hS3
  clear hS3 ln1
  unfold seqV
  go_wp2_with fail
  have lmm := lt_of_block ((HC.out.block _ (lt_of_block Xm.out)).trans Xm.out)
  have Vn := Lib.hid ((HC.out.block _ (lt_of_block Xn.out)).trans Xn.out)
  have ln1 := lt_of_block Vn.out
  refine (wpIn_wide (n := 6)).1 ?_
  refine range_parts (n := 6) (B := Bq1) (Fs := [w7.heap.size + 1]) (Ps := A) (by omega) rfl HS1.out rfl (fun k W' => Fr [w7.heap.size + 1] w10 W' ∧ W'.heap[w7.heap.size + 1]? = some (.cells #[.int .i64 (k : Nat)] 3 (0, 0))) (fun _ _ _ => False) ?hI1 ?hIx1 ?h01 ?round1 ?done1 ?stop1
  case hI1 =>
    rintro k E E' row ⟨hf, h1⟩ hg hr
    exact ⟨hf.trans (fr_grown hg) (fun x hx => .inr (hr x (by simpa using hx)).1), (hg.block _ (lt_of_block h1) (fun e => by have := (hr _ e.symm).1; omega)).trans h1⟩
  case hIx1 => exact fun _ _ _ _ _ h _ _ => h
  case h01 => exact ⟨Fr.refl _ _, Vn.out⟩
  case stop1 => exact fun _ _ _ _ _ _ h _ => h.elim
  case' round1 =>
    rintro l k v p W' hl hp hrow hlets hI
    have hkl : k < (A).length := (List.getElem?_eq_some_iff.1 hp).1
    have hk2 : (k : Int) ≤ 2000 := by have := Rr.out.len; omega
    clear hp hrow
    gi_wp2
    refine ⟨trivial, ?_⟩
    clear hI hlets
    rintro W2 hrow hlets ⟨hf, h1⟩
    have HF2 := Lib.hid hf
    have HC1 := Lib.hid h1
    have HL2 := Lib.hid hlets
    have c1 : W2.cell? ⟨w7.heap.size + 1, 0, none⟩ = some (.int .i64 (k : Nat)) := cells_cell h1 rfl
    have z1 : W2.frozen? ⟨w7.heap.size + 1, 0, none⟩ = false := cells_free h1 _
    have l1 : w7.heap.size + 1 < W2.heap.size := lt_of_block h1
    clear hrow hlets hf h1
    gi_wp2
    have hfr := fr_setCell W2 ⟨w7.heap.size + 1, 0, none⟩ (.int .i64 ((k : Int) + 1))
    exact ⟨(KeepsOthers.setCell W2 ⟨w7.heap.size + 1, 0, none⟩ _).from _, Lets.of_fr hfr HL2.out.size, HF2.out.trans' hfr, by have := cells_set HC1.out 0 (.int .i64 ((k : Int) + 1)); simpa using this⟩
  rintro D1 V1 hD1 ⟨hf, h1⟩ hK1
  rw [← HQ1.out] at h1
  have Yr : Hid (V1.heap[w1.heap.size]? = some (.cells #[.slice xr0 xr1 xr2, .slice xr3 xr4 xr5] 29 (0, 0))) := Lib.hid (hf.same ((HC.out.block _ (lt_of_block Xr.out)).trans Xr.out) (by simp only [List.mem_singleton]; exact ne_types Xr.out Xn.out (by decide)))
  have Ya : Hid (V1.heap[w3.heap.size]? = some (.cells #[.slice xa0 xa1 xa2, .slice xa3 xa4 xa5] 29 (0, 0))) := Lib.hid (hf.same ((HC.out.block _ (lt_of_block Xa.out)).trans Xa.out) (by simp only [List.mem_singleton]; exact ne_types Xa.out Xn.out (by decide)))
  have Yb : Hid (V1.heap[w3.heap.size + 1]? = some (.cells #[.slice xb0 xb1 xb2, .slice xb3 xb4 xb5] 29 (0, 0))) := Lib.hid (hf.same ((HC.out.block _ (lt_of_block Xb.out)).trans Xb.out) (by simp only [List.mem_singleton]; exact ne_types Xb.out Xn.out (by decide)))
  have Yc : Hid (V1.heap[w4.heap.size]? = some (.cells #[.slice xc0 xc1 xc2, .slice xc3 xc4 xc5] 29 (0, 0))) := Lib.hid (hf.same ((HC.out.block _ (lt_of_block Xc.out)).trans Xc.out) (by simp only [List.mem_singleton]; exact ne_types Xc.out Xn.out (by decide)))
  have Yd : Hid (V1.heap[w4.heap.size + 1]? = some (.cells #[.slice xd0 xd1 xd2, .slice xd3 xd4 xd5] 29 (0, 0))) := Lib.hid (hf.same ((HC.out.block _ (lt_of_block Xd.out)).trans Xd.out) (by simp only [List.mem_singleton]; exact ne_types Xd.out Xn.out (by decide)))
  have Yx : Hid (V1.heap[w5.heap.size]? = some (.cells #[.slice xx0 xx1 xx2, .slice xx3 xx4 xx5] 29 (0, 0))) := Lib.hid (hf.same ((HC.out.block _ (lt_of_block Xx.out)).trans Xx.out) (by simp only [List.mem_singleton]; exact ne_types Xx.out Xn.out (by decide)))
  have Yy : Hid (V1.heap[w5.heap.size + 1]? = some (.cells #[.slice xy0 xy1 xy2, .slice xy3 xy4 xy5] 29 (0, 0))) := Lib.hid (hf.same ((HC.out.block _ (lt_of_block Xy.out)).trans Xy.out) (by simp only [List.mem_singleton]; exact ne_types Xy.out Xn.out (by decide)))
  have Yz : Hid (V1.heap[w6.heap.size]? = some (.cells #[.slice xz0 xz1 xz2, .slice xz3 xz4 xz5] 29 (0, 0))) := Lib.hid (hf.same ((HC.out.block _ (lt_of_block Xz.out)).trans Xz.out) (by simp only [List.mem_singleton]; exact ne_types Xz.out Xn.out (by decide)))
  have Yu : Hid (V1.heap[w7.heap.size]? = some (.cells #[.slice xu0 xu1 xu2, .slice xu3 xu4 xu5] 29 (0, 0))) := Lib.hid (hf.same ((HC.out.block _ (lt_of_block Xu.out)).trans Xu.out) (by simp only [List.mem_singleton]; exact ne_types Xu.out Xn.out (by decide)))
  have Ym : Hid (V1.heap[w7.heap.size + 1 + 1]? = some (.cells #[.int .i64 0] 3 (0, 0))) := Lib.hid (hf.same ((HC.out.block _ (lt_of_block Xm.out)).trans Xm.out) (by simp only [List.mem_singleton]; exact (by omega)))
  have SRr : Hid (RopeAt V1 0 (.agg #[.slice xr0 xr1 xr2, .slice xr3 xr4 xr5]) (A)) := Lib.hid (RopeAt.frOff ((Rr.out).grown HC.out) hf (off_sub Nr.out (fun y hy => by simp at hy; subst hy; simp)))
  have SRa : Hid (RopeAt V1 0 (.agg #[.slice xa0 xa1 xa2, .slice xa3 xa4 xa5]) (A1)) := Lib.hid (RopeAt.frOff ((Ra.out).grown HC.out) hf (off_sub Na.out (fun y hy => by simp at hy; subst hy; simp)))
  have SRd : Hid (RopeAt V1 0 (.agg #[.slice xd0 xd1 xd2, .slice xd3 xd4 xd5]) (C2)) := Lib.hid (RopeAt.frOff ((Rd.out).grown HC.out) hf (off_sub Nd.out (fun y hy => by simp at hy; subst hy; simp)))
  have SRx : Hid (RopeAt V1 0 (.agg #[.slice xx0 xx1 xx2, .slice xx3 xx4 xx5]) (X1)) := Lib.hid (RopeAt.frOff ((Rx.out).grown HC.out) hf (off_sub Nx.out (fun y hy => by simp at hy; subst hy; simp)))
  have SRy : Hid (RopeAt V1 0 (.agg #[.slice xy0 xy1 xy2, .slice xy3 xy4 xy5]) (X2)) := Lib.hid (RopeAt.frOff ((Ry.out).grown HC.out) hf (off_sub Ny.out (fun y hy => by simp at hy; subst hy; simp)))
  have SRz : Hid (RopeAt V1 0 (.agg #[.slice xz0 xz1 xz2, .slice xz3 xz4 xz5]) (A1 ++ A2)) := Lib.hid (RopeAt.frOff ((Rz.out).grown HC.out) hf (off_sub Nz.out (fun y hy => by simp at hy; subst hy; simp)))
  have SRu : Hid (RopeAt V1 0 (.agg #[.slice xu0 xu1 xu2, .slice xu3 xu4 xu5]) (A1 ++ C1)) := Lib.hid (RopeAt.frOff ((Ru.out).grown HC.out) hf (off_sub Nu.out (fun y hy => by simp at hy; subst hy; simp)))
  have HTn : Hid (Below w.heap.size w V1) := Lib.hid ((HT.out.trans (HC.out.mono HT.out.size)).trans (hf.below (fun x hx => by simp only [List.mem_singleton] at hx; subst hx; have := o7.out; omega) (HT.out.trans (HC.out.mono HT.out.size)).size))
  clear HC HT Xr Xa Xb Xc Xd Xx Xy Xz Xu Xn Xm Rr Ra Rb Rc Rd Rx Ry Rz Ru
  have Xr := Yr
  have Xa := Ya
  have Xb := Yb
  have Xc := Yc
  have Xd := Yd
  have Xx := Yx
  have Xy := Yy
  have Xz := Yz
  have Xu := Yu
  have Xn : Hid (V1.heap[w7.heap.size + 1]? = some (.cells #[.int .i64 (q : Nat)] 3 (0, 0))) := Lib.hid h1
  have Xm := Ym
  have Rr := SRr
  have Rz := SRz
  have Rx := SRx
  have Rd := SRd
  have Ry := SRy
  have Ra := SRa
  have Ru := SRu
  have HT := HTn
  clear HTn Yr Ya Yb Yc Yd Yx Yy Yz Yu Ym SRr SRz SRx SRd SRy SRa SRu
  have HC : Hid (Below V1.heap.size V1 V1) := Lib.hid (Below.refl _ _)
  have K1 := Lib.hid hK1
  clear hf h1 hK1 HS1 Vn
  simp only [Exit.inBlock, Exit.then]
  go_at_K
  have kz0V1 : V1.cell? ⟨w6.heap.size, 0, none⟩ = some (.slice xz0 xz1 xz2) := cells_cell ((HC.out.block _ (lt_of_block Xz.out)).trans Xz.out) rfl
  have zz0V1 : V1.frozen? ⟨w6.heap.size, 0, none⟩ = false := cells_free ((HC.out.block _ (lt_of_block Xz.out)).trans Xz.out) _
  have kz1V1 : V1.cell? ⟨w6.heap.size, 1, none⟩ = some (.slice xz3 xz4 xz5) := cells_cell ((HC.out.block _ (lt_of_block Xz.out)).trans Xz.out) rfl
  have zz1V1 : V1.frozen? ⟨w6.heap.size, 1, none⟩ = false := cells_free ((HC.out.block _ (lt_of_block Xz.out)).trans Xz.out) _
  have lzV1 : w6.heap.size < V1.heap.size := lt_of_block ((HC.out.block _ (lt_of_block Xz.out)).trans Xz.out)
  go_wp2_with (go_at_call 15; fail)
  have l1V := lt_of_block K1.out
  have ln2 := lt_of_block ((HC.out.block _ (lt_of_block Xm.out)).trans Xm.out)
  refine (parts_any (Rz.out.grown HC.out) [w7.heap.size + 1 + 1] (fun x hx => by simp at hx; subst hx; exact ln2) (off_sub Nz.out (fun y hy => by simp at hy; subst hy; simp))).mono ?_
  rintro e w11 ⟨Bq2, rfl, hS3, hb⟩
  have HC2 : Hid (Below V1.heap.size V1 w11) := Lib.hid (HC.out.trans ((hb).mono HC.out.size))
  clear HC
  have HC := HC2
  clear HC2
  clear hb
  have HS2 := Lib.hid hS3
  clear hS3 ln2
  unfold seqV
  go_wp2_with fail
  have ld1w := lt_of_block ((HC.out.block _ (lt_of_block K1.out)).trans K1.out)
  have Vm := Lib.hid ((HC.out.block _ (lt_of_block Xm.out)).trans Xm.out)
  have ln2 := lt_of_block Vm.out
  refine (wpIn_wide (n := 6)).1 ?_
  refine range_parts (n := 6) (B := Bq2) (Fs := [w7.heap.size + 1 + 1]) (Ps := A1 ++ A2) (by omega) rfl HS2.out rfl (fun k W' => Fr [w7.heap.size + 1 + 1] w11 W' ∧ W'.heap[w7.heap.size + 1 + 1]? = some (.cells #[.int .i64 (k : Nat)] 3 (0, 0))) (fun _ _ _ => False) ?hI2 ?hIx2 ?h02 ?round2 ?done2 ?stop2
  case hI2 =>
    rintro k E E' row ⟨hf, h1⟩ hg hr
    exact ⟨hf.trans (fr_grown hg) (fun x hx => .inr (hr x (by simpa using hx)).1), (hg.block _ (lt_of_block h1) (fun e => by have := (hr _ e.symm).1; omega)).trans h1⟩
  case hIx2 => exact fun _ _ _ _ _ h _ _ => h
  case h02 => exact ⟨Fr.refl _ _, Vm.out⟩
  case stop2 => exact fun _ _ _ _ _ _ h _ => h.elim
  case' round2 =>
    rintro l k v p W' hl hp hrow hlets hI
    have hkl : k < (A1 ++ A2).length := (List.getElem?_eq_some_iff.1 hp).1
    have hk2 : (k : Int) ≤ 2000 := by have := Rz.out.len; omega
    clear hp hrow
    gi_wp2
    refine ⟨trivial, ?_⟩
    clear hI hlets
    rintro W2 hrow hlets ⟨hf, h1⟩
    have HF2 := Lib.hid hf
    have HC1 := Lib.hid h1
    have HL2 := Lib.hid hlets
    have c1 : W2.cell? ⟨w7.heap.size + 1 + 1, 0, none⟩ = some (.int .i64 (k : Nat)) := cells_cell h1 rfl
    have z1 : W2.frozen? ⟨w7.heap.size + 1 + 1, 0, none⟩ = false := cells_free h1 _
    have l1 : w7.heap.size + 1 + 1 < W2.heap.size := lt_of_block h1
    clear hrow hlets hf h1
    gi_wp2
    have hfr := fr_setCell W2 ⟨w7.heap.size + 1 + 1, 0, none⟩ (.int .i64 ((k : Int) + 1))
    exact ⟨(KeepsOthers.setCell W2 ⟨w7.heap.size + 1 + 1, 0, none⟩ _).from _, Lets.of_fr hfr HL2.out.size, HF2.out.trans' hfr, by have := cells_set HC1.out 0 (.int .i64 ((k : Int) + 1)); simpa using this⟩
  rintro D2 V2 hD2 ⟨hf, h1⟩ hK2
  rw [← HQ2.out] at h1
  have Yr : Hid (V2.heap[w1.heap.size]? = some (.cells #[.slice xr0 xr1 xr2, .slice xr3 xr4 xr5] 29 (0, 0))) := Lib.hid (hf.same ((HC.out.block _ (lt_of_block Xr.out)).trans Xr.out) (by simp only [List.mem_singleton]; exact ne_types Xr.out Xm.out (by decide)))
  have Ya : Hid (V2.heap[w3.heap.size]? = some (.cells #[.slice xa0 xa1 xa2, .slice xa3 xa4 xa5] 29 (0, 0))) := Lib.hid (hf.same ((HC.out.block _ (lt_of_block Xa.out)).trans Xa.out) (by simp only [List.mem_singleton]; exact ne_types Xa.out Xm.out (by decide)))
  have Yb : Hid (V2.heap[w3.heap.size + 1]? = some (.cells #[.slice xb0 xb1 xb2, .slice xb3 xb4 xb5] 29 (0, 0))) := Lib.hid (hf.same ((HC.out.block _ (lt_of_block Xb.out)).trans Xb.out) (by simp only [List.mem_singleton]; exact ne_types Xb.out Xm.out (by decide)))
  have Yc : Hid (V2.heap[w4.heap.size]? = some (.cells #[.slice xc0 xc1 xc2, .slice xc3 xc4 xc5] 29 (0, 0))) := Lib.hid (hf.same ((HC.out.block _ (lt_of_block Xc.out)).trans Xc.out) (by simp only [List.mem_singleton]; exact ne_types Xc.out Xm.out (by decide)))
  have Yd : Hid (V2.heap[w4.heap.size + 1]? = some (.cells #[.slice xd0 xd1 xd2, .slice xd3 xd4 xd5] 29 (0, 0))) := Lib.hid (hf.same ((HC.out.block _ (lt_of_block Xd.out)).trans Xd.out) (by simp only [List.mem_singleton]; exact ne_types Xd.out Xm.out (by decide)))
  have Yx : Hid (V2.heap[w5.heap.size]? = some (.cells #[.slice xx0 xx1 xx2, .slice xx3 xx4 xx5] 29 (0, 0))) := Lib.hid (hf.same ((HC.out.block _ (lt_of_block Xx.out)).trans Xx.out) (by simp only [List.mem_singleton]; exact ne_types Xx.out Xm.out (by decide)))
  have Yy : Hid (V2.heap[w5.heap.size + 1]? = some (.cells #[.slice xy0 xy1 xy2, .slice xy3 xy4 xy5] 29 (0, 0))) := Lib.hid (hf.same ((HC.out.block _ (lt_of_block Xy.out)).trans Xy.out) (by simp only [List.mem_singleton]; exact ne_types Xy.out Xm.out (by decide)))
  have Yz : Hid (V2.heap[w6.heap.size]? = some (.cells #[.slice xz0 xz1 xz2, .slice xz3 xz4 xz5] 29 (0, 0))) := Lib.hid (hf.same ((HC.out.block _ (lt_of_block Xz.out)).trans Xz.out) (by simp only [List.mem_singleton]; exact ne_types Xz.out Xm.out (by decide)))
  have Yu : Hid (V2.heap[w7.heap.size]? = some (.cells #[.slice xu0 xu1 xu2, .slice xu3 xu4 xu5] 29 (0, 0))) := Lib.hid (hf.same ((HC.out.block _ (lt_of_block Xu.out)).trans Xu.out) (by simp only [List.mem_singleton]; exact ne_types Xu.out Xm.out (by decide)))
  have Yn : Hid (V2.heap[w7.heap.size + 1]? = some (.cells #[.int .i64 (q : Nat)] 3 (0, 0))) := Lib.hid (hf.same ((HC.out.block _ (lt_of_block Xn.out)).trans Xn.out) (by simp only [List.mem_singleton]; exact (by omega)))
  have SRr : Hid (RopeAt V2 0 (.agg #[.slice xr0 xr1 xr2, .slice xr3 xr4 xr5]) (A)) := Lib.hid (RopeAt.frOff ((Rr.out).grown HC.out) hf (off_sub Nr.out (fun y hy => by simp at hy; subst hy; simp)))
  have SRz : Hid (RopeAt V2 0 (.agg #[.slice xz0 xz1 xz2, .slice xz3 xz4 xz5]) (A1 ++ A2)) := Lib.hid (RopeAt.frOff ((Rz.out).grown HC.out) hf (off_sub Nz.out (fun y hy => by simp at hy; subst hy; simp)))
  have SRx : Hid (RopeAt V2 0 (.agg #[.slice xx0 xx1 xx2, .slice xx3 xx4 xx5]) (X1)) := Lib.hid (RopeAt.frOff ((Rx.out).grown HC.out) hf (off_sub Nx.out (fun y hy => by simp at hy; subst hy; simp)))
  have SRd : Hid (RopeAt V2 0 (.agg #[.slice xd0 xd1 xd2, .slice xd3 xd4 xd5]) (C2)) := Lib.hid (RopeAt.frOff ((Rd.out).grown HC.out) hf (off_sub Nd.out (fun y hy => by simp at hy; subst hy; simp)))
  have SRy : Hid (RopeAt V2 0 (.agg #[.slice xy0 xy1 xy2, .slice xy3 xy4 xy5]) (X2)) := Lib.hid (RopeAt.frOff ((Ry.out).grown HC.out) hf (off_sub Ny.out (fun y hy => by simp at hy; subst hy; simp)))
  have SRa : Hid (RopeAt V2 0 (.agg #[.slice xa0 xa1 xa2, .slice xa3 xa4 xa5]) (A1)) := Lib.hid (RopeAt.frOff ((Ra.out).grown HC.out) hf (off_sub Na.out (fun y hy => by simp at hy; subst hy; simp)))
  have SRu : Hid (RopeAt V2 0 (.agg #[.slice xu0 xu1 xu2, .slice xu3 xu4 xu5]) (A1 ++ C1)) := Lib.hid (RopeAt.frOff ((Ru.out).grown HC.out) hf (off_sub Nu.out (fun y hy => by simp at hy; subst hy; simp)))
  have SK1 : Hid (V2.heap[D1]? = some (.deferred (some []))) := Lib.hid ((hf.same (((HC.out.block _ (lt_of_block (K1.out))).trans (K1.out))) (by simp only [List.mem_singleton]; omega)))
  have HTn : Hid (Below w.heap.size w V2) := Lib.hid ((HT.out.trans (HC.out.mono HT.out.size)).trans (hf.below (fun x hx => by simp only [List.mem_singleton] at hx; subst hx; have := o7.out; omega) (HT.out.trans (HC.out.mono HT.out.size)).size))
  clear HC HT Xr Xa Xb Xc Xd Xx Xy Xz Xu Xn Xm Rr Rz Rx Rd Ry Ra Ru K1
  have Xr := Yr
  have Xa := Ya
  have Xb := Yb
  have Xc := Yc
  have Xd := Yd
  have Xx := Yx
  have Xy := Yy
  have Xz := Yz
  have Xu := Yu
  have Xn := Yn
  have Xm : Hid (V2.heap[w7.heap.size + 1 + 1]? = some (.cells #[.int .i64 (q2 : Nat)] 3 (0, 0))) := Lib.hid h1
  have Rr := SRr
  have Rz := SRz
  have Rx := SRx
  have Rd := SRd
  have Ry := SRy
  have Ra := SRa
  have Ru := SRu
  have K1 := SK1
  have HT := HTn
  clear HTn Yr Ya Yb Yc Yd Yx Yy Yz Yu Yn SRr SRz SRx SRd SRy SRa SRu SK1
  have HC : Hid (Below V2.heap.size V2 V2) := Lib.hid (Below.refl _ _)
  have K2 := Lib.hid hK2
  clear hf h1 hK2 HS2 Vm
  simp only [Exit.inBlock, Exit.then]
  go_at_K
  have l12 : Hid (D1 < D2) := Lib.hid (Nat.lt_of_lt_of_le ld1w hD2)
  have kz0V2 : V2.cell? ⟨w6.heap.size, 0, none⟩ = some (.slice xz0 xz1 xz2) := cells_cell ((HC.out.block _ (lt_of_block Xz.out)).trans Xz.out) rfl
  have zz0V2 : V2.frozen? ⟨w6.heap.size, 0, none⟩ = false := cells_free ((HC.out.block _ (lt_of_block Xz.out)).trans Xz.out) _
  have kz1V2 : V2.cell? ⟨w6.heap.size, 1, none⟩ = some (.slice xz3 xz4 xz5) := cells_cell ((HC.out.block _ (lt_of_block Xz.out)).trans Xz.out) rfl
  have zz1V2 : V2.frozen? ⟨w6.heap.size, 1, none⟩ = false := cells_free ((HC.out.block _ (lt_of_block Xz.out)).trans Xz.out) _
  have lzV2 : w6.heap.size < V2.heap.size := lt_of_block ((HC.out.block _ (lt_of_block Xz.out)).trans Xz.out)
  have kr0V2 : V2.cell? ⟨w1.heap.size, 0, none⟩ = some (.slice xr0 xr1 xr2) := cells_cell ((HC.out.block _ (lt_of_block Xr.out)).trans Xr.out) rfl
  have zr0V2 : V2.frozen? ⟨w1.heap.size, 0, none⟩ = false := cells_free ((HC.out.block _ (lt_of_block Xr.out)).trans Xr.out) _
  have kr1V2 : V2.cell? ⟨w1.heap.size, 1, none⟩ = some (.slice xr3 xr4 xr5) := cells_cell ((HC.out.block _ (lt_of_block Xr.out)).trans Xr.out) rfl
  have zr1V2 : V2.frozen? ⟨w1.heap.size, 1, none⟩ = false := cells_free ((HC.out.block _ (lt_of_block Xr.out)).trans Xr.out) _
  have lrV2 : w1.heap.size < V2.heap.size := lt_of_block ((HC.out.block _ (lt_of_block Xr.out)).trans Xr.out)
  go_wp2_with (go_at_call 18; fail)
  refine (equal_is (Rz.out.grown HC.out) (Rr.out.grown HC.out) true (by rw [HF.out.1]; simp)).mono ?_
  rintro e w12 ⟨rfl, hb⟩
  have HC2 : Hid (Below V2.heap.size V2 w12) := Lib.hid (HC.out.trans ((hb).mono HC.out.size))
  clear HC
  have HC := HC2
  clear HC2
  clear hb
  have kn0w12 : w12.cell? ⟨w7.heap.size + 1, 0, none⟩ = some (.int .i64 (q : Nat)) := cells_cell ((HC.out.block _ (lt_of_block Xn.out)).trans Xn.out) rfl
  have zn0w12 : w12.frozen? ⟨w7.heap.size + 1, 0, none⟩ = false := cells_free ((HC.out.block _ (lt_of_block Xn.out)).trans Xn.out) _
  have lnw12 : w7.heap.size + 1 < w12.heap.size := lt_of_block ((HC.out.block _ (lt_of_block Xn.out)).trans Xn.out)
  have km0w12 : w12.cell? ⟨w7.heap.size + 1 + 1, 0, none⟩ = some (.int .i64 (q2 : Nat)) := cells_cell ((HC.out.block _ (lt_of_block Xm.out)).trans Xm.out) rfl
  have zm0w12 : w12.frozen? ⟨w7.heap.size + 1 + 1, 0, none⟩ = false := cells_free ((HC.out.block _ (lt_of_block Xm.out)).trans Xm.out) _
  have lmw12 : w7.heap.size + 1 + 1 < w12.heap.size := lt_of_block ((HC.out.block _ (lt_of_block Xm.out)).trans Xm.out)
  have ku0w12 : w12.cell? ⟨w7.heap.size, 0, none⟩ = some (.slice xu0 xu1 xu2) := cells_cell ((HC.out.block _ (lt_of_block Xu.out)).trans Xu.out) rfl
  have zu0w12 : w12.frozen? ⟨w7.heap.size, 0, none⟩ = false := cells_free ((HC.out.block _ (lt_of_block Xu.out)).trans Xu.out) _
  have ku1w12 : w12.cell? ⟨w7.heap.size, 1, none⟩ = some (.slice xu3 xu4 xu5) := cells_cell ((HC.out.block _ (lt_of_block Xu.out)).trans Xu.out) rfl
  have zu1w12 : w12.frozen? ⟨w7.heap.size, 1, none⟩ = false := cells_free ((HC.out.block _ (lt_of_block Xu.out)).trans Xu.out) _
  have luw12 : w7.heap.size < w12.heap.size := lt_of_block ((HC.out.block _ (lt_of_block Xu.out)).trans Xu.out)
  have kx0w12 : w12.cell? ⟨w5.heap.size, 0, none⟩ = some (.slice xx0 xx1 xx2) := cells_cell ((HC.out.block _ (lt_of_block Xx.out)).trans Xx.out) rfl
  have zx0w12 : w12.frozen? ⟨w5.heap.size, 0, none⟩ = false := cells_free ((HC.out.block _ (lt_of_block Xx.out)).trans Xx.out) _
  have kx1w12 : w12.cell? ⟨w5.heap.size, 1, none⟩ = some (.slice xx3 xx4 xx5) := cells_cell ((HC.out.block _ (lt_of_block Xx.out)).trans Xx.out) rfl
  have zx1w12 : w12.frozen? ⟨w5.heap.size, 1, none⟩ = false := cells_free ((HC.out.block _ (lt_of_block Xx.out)).trans Xx.out) _
  have lxw12 : w5.heap.size < w12.heap.size := lt_of_block ((HC.out.block _ (lt_of_block Xx.out)).trans Xx.out)
  obtain ⟨qa, hqa⟩ : ∃ q, q = A1.flatten.length := ⟨_, rfl⟩
  have hmin : min n1 (m : Int) = (qa : Nat) := by have h1 := HF.out.2.2.2.1; rw [← HMM.out, ← hqa] at h1; omega
  have HMN := Lib.hid hmin
  have HQA := Lib.hid hqa
  clear hmin hqa
  have hbs := beq_selfB S
  have hmI : (m : Int) ≤ 65536 := by have := Rr.out.size; rw [← HMM.out] at this; omega
  have hqI : (qa : Int) ≤ 65536 := by have := Ra.out.size; rw [← HQA.out] at this; omega
  have hq1I : (q : Int) ≤ 65536 := by have := Rr.out.len; rw [← HQ1.out] at this; omega
  have hq2I : (q2 : Int) ≤ 65536 := by have := Rz.out.len; rw [← HQ2.out] at this; omega
  have hqq : q2 = q ∨ q2 = q + 1 := by rw [HQ1.out, HQ2.out]; exact HF.out.2.2.2.2
  have hqz : (q2 : Int) = (q : Int) ∨ ((q2 : Int) ≠ (q : Int) ∧ (q2 : Int) = (q : Int) + 1) := by omega
  clear hqq
  rcases hqz with hqz | ⟨hqz, hqy⟩
  · go_wp2_with (go_at_call 18; fail)
    refine (equal_is (Ru.out.grown HC.out) (Rx.out.grown HC.out) true (by rw [HF.out.2.1]; simp)).mono ?_
    rintro e w13 ⟨rfl, hb⟩
    have HC2 : Hid (Below V2.heap.size V2 w13) := Lib.hid (HC.out.trans ((hb).mono HC.out.size))
    clear HC
    have HC := HC2
    clear HC2
    clear hb
    have kd0w13 : w13.cell? ⟨w4.heap.size + 1, 0, none⟩ = some (.slice xd0 xd1 xd2) := cells_cell ((HC.out.block _ (lt_of_block Xd.out)).trans Xd.out) rfl
    have zd0w13 : w13.frozen? ⟨w4.heap.size + 1, 0, none⟩ = false := cells_free ((HC.out.block _ (lt_of_block Xd.out)).trans Xd.out) _
    have kd1w13 : w13.cell? ⟨w4.heap.size + 1, 1, none⟩ = some (.slice xd3 xd4 xd5) := cells_cell ((HC.out.block _ (lt_of_block Xd.out)).trans Xd.out) rfl
    have zd1w13 : w13.frozen? ⟨w4.heap.size + 1, 1, none⟩ = false := cells_free ((HC.out.block _ (lt_of_block Xd.out)).trans Xd.out) _
    have ldw13 : w4.heap.size + 1 < w13.heap.size := lt_of_block ((HC.out.block _ (lt_of_block Xd.out)).trans Xd.out)
    have ky0w13 : w13.cell? ⟨w5.heap.size + 1, 0, none⟩ = some (.slice xy0 xy1 xy2) := cells_cell ((HC.out.block _ (lt_of_block Xy.out)).trans Xy.out) rfl
    have zy0w13 : w13.frozen? ⟨w5.heap.size + 1, 0, none⟩ = false := cells_free ((HC.out.block _ (lt_of_block Xy.out)).trans Xy.out) _
    have ky1w13 : w13.cell? ⟨w5.heap.size + 1, 1, none⟩ = some (.slice xy3 xy4 xy5) := cells_cell ((HC.out.block _ (lt_of_block Xy.out)).trans Xy.out) rfl
    have zy1w13 : w13.frozen? ⟨w5.heap.size + 1, 1, none⟩ = false := cells_free ((HC.out.block _ (lt_of_block Xy.out)).trans Xy.out) _
    have lyw13 : w5.heap.size + 1 < w13.heap.size := lt_of_block ((HC.out.block _ (lt_of_block Xy.out)).trans Xy.out)
    go_wp2_with (go_at_call 18; fail)
    refine (equal_is (Rd.out.grown HC.out) (Ry.out.grown HC.out) true (by rw [HF.out.2.2.1]; simp)).mono ?_
    rintro e w14 ⟨rfl, hb⟩
    have HC2 : Hid (Below V2.heap.size V2 w14) := Lib.hid (HC.out.trans ((hb).mono HC.out.size))
    clear HC
    have HC := HC2
    clear HC2
    clear hb
    have ka0w14 : w14.cell? ⟨w3.heap.size, 0, none⟩ = some (.slice xa0 xa1 xa2) := cells_cell ((HC.out.block _ (lt_of_block Xa.out)).trans Xa.out) rfl
    have za0w14 : w14.frozen? ⟨w3.heap.size, 0, none⟩ = false := cells_free ((HC.out.block _ (lt_of_block Xa.out)).trans Xa.out) _
    have ka1w14 : w14.cell? ⟨w3.heap.size, 1, none⟩ = some (.slice xa3 xa4 xa5) := cells_cell ((HC.out.block _ (lt_of_block Xa.out)).trans Xa.out) rfl
    have za1w14 : w14.frozen? ⟨w3.heap.size, 1, none⟩ = false := cells_free ((HC.out.block _ (lt_of_block Xa.out)).trans Xa.out) _
    have law14 : w3.heap.size < w14.heap.size := lt_of_block ((HC.out.block _ (lt_of_block Xa.out)).trans Xa.out)
    go_wp2_with (go_at_call 23; fail)
    refine (len_is (Ra.out.grown HC.out) qa HQA.out.symm).mono ?_
    rintro e w15 ⟨rfl, hb⟩
    have HC2 : Hid (Below V2.heap.size V2 w15) := Lib.hid (HC.out.trans ((hb).mono HC.out.size))
    clear HC
    have HC := HC2
    clear HC2
    clear hb
    have kr0w15 : w15.cell? ⟨w1.heap.size, 0, none⟩ = some (.slice xr0 xr1 xr2) := cells_cell ((HC.out.block _ (lt_of_block Xr.out)).trans Xr.out) rfl
    have zr0w15 : w15.frozen? ⟨w1.heap.size, 0, none⟩ = false := cells_free ((HC.out.block _ (lt_of_block Xr.out)).trans Xr.out) _
    have kr1w15 : w15.cell? ⟨w1.heap.size, 1, none⟩ = some (.slice xr3 xr4 xr5) := cells_cell ((HC.out.block _ (lt_of_block Xr.out)).trans Xr.out) rfl
    have zr1w15 : w15.frozen? ⟨w1.heap.size, 1, none⟩ = false := cells_free ((HC.out.block _ (lt_of_block Xr.out)).trans Xr.out) _
    have lrw15 : w1.heap.size < w15.heap.size := lt_of_block ((HC.out.block _ (lt_of_block Xr.out)).trans Xr.out)
    go_wp2_with (first | (with_reducible refine wpList_unguard (o := ⟨some 161, _, _, _, _, _⟩) rfl ?_; refine wpList_min rfl (.tmp 158) (.tmp 160) _ rfl _ _ _ rfl rfl HMN.out ?_) | (go_at_call 22; fail))
    refine (bytes_any (Rr.out.grown HC.out)).mono ?_
    rintro e w16 ⟨v9, rfl, ho9, hb⟩
    have HC2 : Hid (Below V2.heap.size V2 w16) := Lib.hid (HC.out.trans ((hb).mono HC.out.size))
    clear HC
    have HC := HC2
    clear HC2
    clear hb
    have hcv := row_str ho9
    rw [← HSS.out] at hcv
    clear ho9
    go_wp2_with (go_at_call 9; fail)
    refine (known_any _).mono ?_
    rintro e w17 ⟨rfl, hb⟩
    have HC2 : Hid (Below V2.heap.size V2 w17) := Lib.hid (HC.out.trans ((hb).mono HC.out.size))
    clear HC
    have HC := HC2
    clear HC2
    clear hb
    go_wp2_with fail
    have HTF := (HT.out.trans (HC.out.mono HT.out.size))
    have kf2 : w17.heap[D2]? = some (.deferred (some [])) := (HC.out.block _ (lt_of_block K2.out)).trans K2.out
    have kf1 : w17.heap[D1]? = some (.deferred (some [])) := (HC.out.block _ (lt_of_block K1.out)).trans K1.out
    have d12 : D2 ≠ D1 := fun e => by have := l12.out; omega
    have ld1 : w.heap.size ≤ D1 := by have := o7.out; omega
    have ld2 : w.heap.size ≤ D2 := by have := l12.out; omega
    refine ⟨by simp, .inl ⟨_, _, rfl, run_takeDeferred kf2, ?_⟩⟩
    have kf3 : (w17.putObj D2 (.deferred none)).heap[D1]? = some (.deferred (some [])) := (World.putObj_heap_other d12.symm).trans kf1
    refine ⟨by simp, .inl ⟨_, _, rfl, run_takeDeferred kf3, ?_⟩⟩
    exact ⟨_, results_tmp rfl _ _ _, rfl, (HTF.trans (belowK_b (w := w) (Nat.le_refl _) _ D2 _ _ ld2 kf2 rfl rfl)).trans (belowK_b (w := w) (Nat.le_refl _) _ D1 _ _ ld1 kf3 rfl rfl)⟩
  · go_wp2_with (go_at_call 18; fail)
    refine (equal_is (Ru.out.grown HC.out) (Rx.out.grown HC.out) true (by rw [HF.out.2.1]; simp)).mono ?_
    rintro e w13 ⟨rfl, hb⟩
    have HC2 : Hid (Below V2.heap.size V2 w13) := Lib.hid (HC.out.trans ((hb).mono HC.out.size))
    clear HC
    have HC := HC2
    clear HC2
    clear hb
    have kd0w13 : w13.cell? ⟨w4.heap.size + 1, 0, none⟩ = some (.slice xd0 xd1 xd2) := cells_cell ((HC.out.block _ (lt_of_block Xd.out)).trans Xd.out) rfl
    have zd0w13 : w13.frozen? ⟨w4.heap.size + 1, 0, none⟩ = false := cells_free ((HC.out.block _ (lt_of_block Xd.out)).trans Xd.out) _
    have kd1w13 : w13.cell? ⟨w4.heap.size + 1, 1, none⟩ = some (.slice xd3 xd4 xd5) := cells_cell ((HC.out.block _ (lt_of_block Xd.out)).trans Xd.out) rfl
    have zd1w13 : w13.frozen? ⟨w4.heap.size + 1, 1, none⟩ = false := cells_free ((HC.out.block _ (lt_of_block Xd.out)).trans Xd.out) _
    have ldw13 : w4.heap.size + 1 < w13.heap.size := lt_of_block ((HC.out.block _ (lt_of_block Xd.out)).trans Xd.out)
    have ky0w13 : w13.cell? ⟨w5.heap.size + 1, 0, none⟩ = some (.slice xy0 xy1 xy2) := cells_cell ((HC.out.block _ (lt_of_block Xy.out)).trans Xy.out) rfl
    have zy0w13 : w13.frozen? ⟨w5.heap.size + 1, 0, none⟩ = false := cells_free ((HC.out.block _ (lt_of_block Xy.out)).trans Xy.out) _
    have ky1w13 : w13.cell? ⟨w5.heap.size + 1, 1, none⟩ = some (.slice xy3 xy4 xy5) := cells_cell ((HC.out.block _ (lt_of_block Xy.out)).trans Xy.out) rfl
    have zy1w13 : w13.frozen? ⟨w5.heap.size + 1, 1, none⟩ = false := cells_free ((HC.out.block _ (lt_of_block Xy.out)).trans Xy.out) _
    have lyw13 : w5.heap.size + 1 < w13.heap.size := lt_of_block ((HC.out.block _ (lt_of_block Xy.out)).trans Xy.out)
    go_wp2_with (go_at_call 18; fail)
    refine (equal_is (Rd.out.grown HC.out) (Ry.out.grown HC.out) true (by rw [HF.out.2.2.1]; simp)).mono ?_
    rintro e w14 ⟨rfl, hb⟩
    have HC2 : Hid (Below V2.heap.size V2 w14) := Lib.hid (HC.out.trans ((hb).mono HC.out.size))
    clear HC
    have HC := HC2
    clear HC2
    clear hb
    have ka0w14 : w14.cell? ⟨w3.heap.size, 0, none⟩ = some (.slice xa0 xa1 xa2) := cells_cell ((HC.out.block _ (lt_of_block Xa.out)).trans Xa.out) rfl
    have za0w14 : w14.frozen? ⟨w3.heap.size, 0, none⟩ = false := cells_free ((HC.out.block _ (lt_of_block Xa.out)).trans Xa.out) _
    have ka1w14 : w14.cell? ⟨w3.heap.size, 1, none⟩ = some (.slice xa3 xa4 xa5) := cells_cell ((HC.out.block _ (lt_of_block Xa.out)).trans Xa.out) rfl
    have za1w14 : w14.frozen? ⟨w3.heap.size, 1, none⟩ = false := cells_free ((HC.out.block _ (lt_of_block Xa.out)).trans Xa.out) _
    have law14 : w3.heap.size < w14.heap.size := lt_of_block ((HC.out.block _ (lt_of_block Xa.out)).trans Xa.out)
    go_wp2_with (go_at_call 23; fail)
    refine (len_is (Ra.out.grown HC.out) qa HQA.out.symm).mono ?_
    rintro e w15 ⟨rfl, hb⟩
    have HC2 : Hid (Below V2.heap.size V2 w15) := Lib.hid (HC.out.trans ((hb).mono HC.out.size))
    clear HC
    have HC := HC2
    clear HC2
    clear hb
    have kr0w15 : w15.cell? ⟨w1.heap.size, 0, none⟩ = some (.slice xr0 xr1 xr2) := cells_cell ((HC.out.block _ (lt_of_block Xr.out)).trans Xr.out) rfl
    have zr0w15 : w15.frozen? ⟨w1.heap.size, 0, none⟩ = false := cells_free ((HC.out.block _ (lt_of_block Xr.out)).trans Xr.out) _
    have kr1w15 : w15.cell? ⟨w1.heap.size, 1, none⟩ = some (.slice xr3 xr4 xr5) := cells_cell ((HC.out.block _ (lt_of_block Xr.out)).trans Xr.out) rfl
    have zr1w15 : w15.frozen? ⟨w1.heap.size, 1, none⟩ = false := cells_free ((HC.out.block _ (lt_of_block Xr.out)).trans Xr.out) _
    have lrw15 : w1.heap.size < w15.heap.size := lt_of_block ((HC.out.block _ (lt_of_block Xr.out)).trans Xr.out)
    go_wp2_with (first | (with_reducible refine wpList_unguard (o := ⟨some 161, _, _, _, _, _⟩) rfl ?_; refine wpList_min rfl (.tmp 158) (.tmp 160) _ rfl _ _ _ rfl rfl HMN.out ?_) | (go_at_call 22; fail))
    refine (bytes_any (Rr.out.grown HC.out)).mono ?_
    rintro e w16 ⟨v9, rfl, ho9, hb⟩
    have HC2 : Hid (Below V2.heap.size V2 w16) := Lib.hid (HC.out.trans ((hb).mono HC.out.size))
    clear HC
    have HC := HC2
    clear HC2
    clear hb
    have hcv := row_str ho9
    rw [← HSS.out] at hcv
    clear ho9
    go_wp2_with (go_at_call 9; fail)
    refine (known_any _).mono ?_
    rintro e w17 ⟨rfl, hb⟩
    have HC2 : Hid (Below V2.heap.size V2 w17) := Lib.hid (HC.out.trans ((hb).mono HC.out.size))
    clear HC
    have HC := HC2
    clear HC2
    clear hb
    go_wp2_with fail
    have HTF := (HT.out.trans (HC.out.mono HT.out.size))
    have kf2 : w17.heap[D2]? = some (.deferred (some [])) := (HC.out.block _ (lt_of_block K2.out)).trans K2.out
    have kf1 : w17.heap[D1]? = some (.deferred (some [])) := (HC.out.block _ (lt_of_block K1.out)).trans K1.out
    have d12 : D2 ≠ D1 := fun e => by have := l12.out; omega
    have ld1 : w.heap.size ≤ D1 := by have := o7.out; omega
    have ld2 : w.heap.size ≤ D2 := by have := l12.out; omega
    refine ⟨by simp, .inl ⟨_, _, rfl, run_takeDeferred kf2, ?_⟩⟩
    have kf3 : (w17.putObj D2 (.deferred none)).heap[D1]? = some (.deferred (some [])) := (World.putObj_heap_other d12.symm).trans kf1
    refine ⟨by simp, .inl ⟨_, _, rfl, run_takeDeferred kf3, ?_⟩⟩
    exact ⟨_, results_tmp rfl _ _ _, rfl, (HTF.trans (belowK_b (w := w) (Nat.le_refl _) _ D2 _ _ ld2 kf2 rfl rfl)).trans (belowK_b (w := w) (Nat.le_refl _) _ D1 _ _ ld1 kf3 rfl rfl)⟩

theorem ropeHolds_walk (a : Option Addr) (len cap : Nat) (n1 n2 : Int) (w : World) (h : StrsIn w a len cap) (hw1 : (Lit.int .i64 n1).wf = true) (hw2 : (Lit.int .i64 n2).wf = true) :
    Calls Try.prog 7 #[.slice a len cap, .int .i64 n1, .int .i64 n2] w fun e w' => e = .returned (.bool true) ∧ Below w.heap.size w w' := by
  obtain ⟨Ss, _, h1⟩ := h
  exact ropeHolds_walk0 h1
end Go.Proofs.Ytkdbkamjaaehfaa
