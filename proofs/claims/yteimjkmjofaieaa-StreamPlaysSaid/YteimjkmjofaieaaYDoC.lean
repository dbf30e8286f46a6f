/- The law's step: Begin. -/
import Derived.Test.YteimjkmjofaieaaYDoA
import Derived.Test.YteimjkmjofaieaaGFlags
namespace Go.Proofs.Yteimjkmjofaieaa
open Go.RowKit Go.Sort
set_option linter.unusedVariables false
set_option linter.unusedSimpArgs false
set_option maxRecDepth 100000

set_option maxHeartbeats 6400000 in
theorem do_begin {w0 w : World} {m : Nat} {k : Sb} {x : St} {sv pv : Value} {Ps : Parts} (h : KS w0 w m k x) (hs : SvP (fun g => g ∉ k.F) w sv x.rw) (hp : PtsV w0 pv Ps) (n : Int) (hsz : Ps.flatten.length ≤ 3000) (hpk : Ps.length ≤ 100) :
    Calls Try.prog 12 #[pt m, sv, .agg #[.int .i64 0, pv, .int .i64 n]] w fun e w' => StepR w0 w k w' e := by
  have HSZ := Lib.hid (And.intro hsz hpk)
  clear hsz hpk
  obtain ⟨z0, a1, a2, a3, zb, b1, b2, b3, z4, z5, z6, rfl⟩ : ∃ z0 a1 a2 a3 zb b1 b2 b3 z4 z5 z6, sv = .agg #[.int .i64 z0, .slice a1 a2 a3, .bool zb, .slice b1 b2 b3, .int .i64 z4, .int .i64 z5, .int .i64 z6] := by
    obtain ⟨s1, n, s3, r1, rn, r3, e⟩ := hs.shape
    exact ⟨_, _, _, _, _, _, _, _, _, _, _, e⟩
  obtain ⟨pa, pc, rfl, hpc1, hpc2⟩ := hp.form
  obtain ⟨pj, hpj⟩ : ∃ j, j = Ps.length := ⟨_, rfl⟩
  rw [← hpj] at hp hpc1 ⊢
  obtain ⟨W, hW⟩ : ∃ W, W = ((w.alloc (.cells #[.int .i64 z0, .slice a1 a2 a3, .bool zb, .slice b1 b2 b3, .int .i64 z4, .int .i64 z5, .int .i64 z6] 31)).alloc (.cells #[.int .i64 0, .slice pa pj pc, .int .i64 n] 38)).alloc (.cells #[.int .i64 0, .slice none 0 0, .bool false, .slice none 0 0, .int .i64 0, .int .i64 0, .int .i64 0] 31) := ⟨_, rfl⟩
  have bw1 := below_alloc w (.cells #[.int .i64 z0, .slice a1 a2 a3, .bool zb, .slice b1 b2 b3, .int .i64 z4, .int .i64 z5, .int .i64 z6] 31)
  have bw2 := below_alloc (w.alloc (.cells #[.int .i64 z0, .slice a1 a2 a3, .bool zb, .slice b1 b2 b3, .int .i64 z4, .int .i64 z5, .int .i64 z6] 31)) (.cells #[.int .i64 0, .slice pa pj pc, .int .i64 n] 38)
  have bw3 := below_alloc ((w.alloc (.cells #[.int .i64 z0, .slice a1 a2 a3, .bool zb, .slice b1 b2 b3, .int .i64 z4, .int .i64 z5, .int .i64 z6] 31)).alloc (.cells #[.int .i64 0, .slice pa pj pc, .int .i64 n] 38)) (.cells #[.int .i64 0, .slice none 0 0, .bool false, .slice none 0 0, .int .i64 0, .int .i64 0, .int .i64 0] 31)
  have hb : Below w.heap.size w W := by rw [hW]; exact bw1.trans ((bw2.trans (bw3.mono (by simp))).mono (by simp))
  have e0 : W.heap[w.heap.size]? = some (.cells #[.int .i64 z0, .slice a1 a2 a3, .bool zb, .slice b1 b2 b3, .int .i64 z4, .int .i64 z5, .int .i64 z6] 31 (0, 0)) := by rw [hW]; exact (bw3.block _ (by simp; omega)).trans ((bw2.block _ (by simp)).trans (heap_alloc_new w _))
  have e1 : W.heap[w.heap.size + 1]? = some (.cells #[.int .i64 0, .slice pa pj pc, .int .i64 n] 38 (0, 0)) := by rw [hW]; exact (bw3.block _ (by simp)).trans (block_new _ _ _ (by simp))
  have e2 : W.heap[w.heap.size + 1 + 1]? = some (.cells #[.int .i64 0, .slice none 0 0, .bool false, .slice none 0 0, .int .i64 0, .int .i64 0, .int .i64 0] 31 (0, 0)) := by rw [hW]; exact block_new _ _ _ (by simp)
  have HW := Lib.hid hW.symm
  have HX : Hid (W.heap[w.heap.size]? = some (.cells #[.int .i64 z0, .slice a1 a2 a3, .bool zb, .slice b1 b2 b3, .int .i64 z4, .int .i64 z5, .int .i64 z6] 31 (0, 0))) := Lib.hid e0
  have HA : Hid (W.heap[w.heap.size + 1]? = some (.cells #[.int .i64 0, .slice pa pj pc, .int .i64 n] 38 (0, 0))) := Lib.hid e1
  have HR : Hid (W.heap[w.heap.size + 1 + 1]? = some (.cells #[.int .i64 0, .slice none 0 0, .bool false, .slice none 0 0, .int .i64 0, .int .i64 0, .int .i64 0] 31 (0, 0))) := Lib.hid e2
  have HK := Lib.hid (h.grow hb)
  have HS : Hid (SvP (fun g => g ∉ k.F ∧ g ≠ w.heap.size + 1 + 1) W (.agg #[.int .i64 z0, .slice a1 a2 a3, .bool zb, .slice b1 b2 b3, .int .i64 z4, .int .i64 z5, .int .i64 z6]) x.rw) := Lib.hid ((hs.bound.grown hb).weak (fun g hg => ⟨hg.1, by have := hg.2; omega⟩))
  have HOK := Lib.hid h.at'.ok
  have HFL : Hid (∀ i ∈ k.F, i < w.heap.size) := Lib.hid h.at'.F_lt
  have HW0 : Hid (w0.heap.size ≤ w.heap.size) := Lib.hid h.be.size
  have HFR : Hid (Fr k.F w W) := Lib.hid (Fr.of_below hb k.F)
  have HP := Lib.hid hp
  have HPJ := Lib.hid hpj
  have x0 := cells_cell (o := 0) e0 rfl
  have x1 := cells_cell (o := 1) e0 rfl
  have x2 := cells_cell (o := 2) e0 rfl
  have x3 := cells_cell (o := 3) e0 rfl
  have x4 := cells_cell (o := 4) e0 rfl
  have x5 := cells_cell (o := 5) e0 rfl
  have x6 := cells_cell (o := 6) e0 rfl
  have y0 := cells_cell (o := 0) e1 rfl
  have y1 := cells_cell (o := 1) e1 rfl
  have y2 := cells_cell (o := 2) e1 rfl
  have hlX := lt_of_block e0
  have hlA := lt_of_block e1
  clear hW bw1 bw2 bw3 hb e0 e1 e2 h hs hpj hp
  unfold pt StepR
  have hpv := HP.out.grown HK.out.be
  have hpjI : (pj : Int) ≤ 100 := by have := HSZ.out; have := HPJ.out; omega
  obtain ⟨vs, hvs, hrows⟩ := hpv
  have hvl : vs.length = Ps.length := by simpa using hrows.1
  have hone : ∀ u ∈ vs, u.oneCell' = true := fun u hu => by
    obtain ⟨i, hi, rfl⟩ := List.getElem_of_mem hu
    obtain ⟨a, c, e, _⟩ := hrows.at i (by omega)
    rw [List.getElem?_eq_getElem hi] at e
    simp only [Option.some.injEq] at e
    rw [e]; rfl
  have HVS := Lib.hid hvs
  have HROWS := Lib.hid hrows
  have HVL := Lib.hid hvl
  have HONE := Lib.hid hone
  clear hvs hrows hvl hone
  go_enter Try.func12, Try.ntmps12
  go_upto_region 1 with fail
  rw [HW.out]
  go_wp2_with (at_builtin; refine wpList_append_v slcBs (by decide) rfl (.const (.slice none 0 0)) (.tmp 41) rfl rfl rfl (World.ownsRow_nil W W.heap.size 29 1) (Nat.le_refl _) HVS.out HONE.out (by have := HVL.out; have := HSZ.out; simp only [List.length_nil]; omega) ?_; intro v1 w1 ho1 hf1 hn1; refine Hid.out ?_)
  have hf1' : Fr [] W w1 := hf1
  have hb1 : Below W.heap.size W w1 := hf1'.below (by simp) (Nat.le_refl _)
  have hown : SrcV w1 v1 vs := by have := RowV.src ho1; simpa using this
  obtain ⟨oa, oc, hov, -, -⟩ := hown.form
  subst hov
  have hnew := new_any hown (Rows.grown HROWS.out hb1) (by have := HSZ.out; omega) (by have := HSZ.out; omega)
  have hce : errC (full Ps).length Ps.flatten.length = 0 := by unfold errC; rw [if_neg (by have := full_len Ps; have := HSZ.out; omega), if_neg (by have := HSZ.out; omega)]
  have hnp : newP Ps = full Ps := by unfold newP; rw [if_pos hce]
  rw [hce, hnp] at hnew
  have HNEW := Lib.hid hnew
  have HX1 := Lib.hid ((hb1.block _ (lt_of_block HX.out)).trans HX.out)
  have HA1 := Lib.hid ((hb1.block _ (lt_of_block HA.out)).trans HA.out)
  have HR1 := Lib.hid ((hb1.block _ (lt_of_block HR.out)).trans HR.out)
  have HK1 := Lib.hid (HK.out.grow hb1)
  have HS1 := Lib.hid (HS.out.grown hb1)
  have HFR1 : Hid (Fr k.F w w1) := Lib.hid (HFR.out.trans' (Fr.of_below hb1 k.F))
  clear hf1 hf1' hb1 ho1 hn1 hown hnew hce hnp HX HA HR HK HS HFR
  clear x0 x1 x2 x3 x4 x5 x6 y0 y1 y2 hlX hlA
  refine Lib.hid ?_
  go_wp2_with (go_at_call 19; fail)
  refine HNEW.out.mono ?_
  rintro e w2 ⟨vr, rfl, hR, hb2⟩
  obtain ⟨r1, r2, r3, r4, r5, r6, rfl⟩ := hR.shape
  have HX2 := Lib.hid ((hb2.block _ (lt_of_block HX1.out)).trans HX1.out)
  have HA2 := Lib.hid ((hb2.block _ (lt_of_block HA1.out)).trans HA1.out)
  have HR2 := Lib.hid ((hb2.block _ (lt_of_block HR1.out)).trans HR1.out)
  have HK2 := Lib.hid (HK1.out.grow hb2)
  have HS2 := Lib.hid (HS1.out.grown hb2)
  have HFR2 : Hid (Fr k.F w w2) := Lib.hid (HFR1.out.trans' (Fr.of_below hb2 k.F))
  have HRO := Lib.hid hR
  have HWV : Hid (w.heap.size + 1 + 1 < w1.heap.size ∧ w1.heap.size ≤ w2.heap.size) := Lib.hid ⟨lt_of_block HR1.out, hb2.size⟩
  clear hb2 hR HNEW HX1 HA1 HR1 HK1 HS1 HFR1
  go_wp2_with fail
  generalize hV0 : World.alloc _ _ = V0
  have hb2 : Below w2.heap.size w2 V0 := by rw [← hV0]; exact below_alloc _ _
  have HO3 : Hid (V0.heap[w2.heap.size]? = some (.cells #[.slice r1 r2 r3, .slice r4 r5 r6] 52 (0, 0))) := Lib.hid (by rw [← hV0]; exact heap_alloc_new _ _)
  have HX3 := Lib.hid ((hb2.block _ (lt_of_block HX2.out)).trans HX2.out)
  have HA3 := Lib.hid ((hb2.block _ (lt_of_block HA2.out)).trans HA2.out)
  have HR3 := Lib.hid ((hb2.block _ (lt_of_block HR2.out)).trans HR2.out)
  have HK3 := Lib.hid (HK2.out.grow hb2)
  have HS3 := Lib.hid (HS2.out.grown hb2)
  have HFR3 : Hid (Fr k.F w V0) := Lib.hid (HFR2.out.trans' (Fr.of_below hb2 k.F))
  have HRO3 := Lib.hid (HRO.out.grown hb2)
  clear hV0 hb2 HX2 HA2 HR2 HK2 HS2 HFR2 HRO
  obtain ⟨ye, y, hy⟩ : ∃ ye y, sBg x Ps.flatten = (ye, y) := ⟨_, _, rfl⟩
  have HYE := Lib.hid hy
  clear hy
  have HBD : Hid (SvP (fun g => (g ∉ k.F ∧ g ≠ w.heap.size + 1 + 1) ∧ g < V0.heap.size) V0 (.agg #[.int .i64 z0, .slice a1 a2 a3, .bool zb, .slice b1 b2 b3, .int .i64 z4, .int .i64 z5, .int .i64 z6]) x.rw) := Lib.hid HS3.out.bound
  have HPP : Hid (PtsV V0 (.slice pa pj pc) Ps) := Lib.hid (HP.out.grown HK3.out.be)
  have HLV : Hid (w.heap.size + 1 + 1 < V0.heap.size ∧ ∀ i ∈ k.F, i < V0.heap.size) := Lib.hid ⟨lt_of_block HR3.out, fun i hi => by have := HFL.out i hi; have := lt_of_block HR3.out; omega⟩
  have HDD : Hid (Below V0.heap.size V0 V0.drew) := Lib.hid (Below.refl _ _).drew
  have hx3 := HX3.out
  have ha3 := HA3.out
  refine wp_region_flags (fun W' => Below V0.heap.size V0 W') 10 [(true, 0), (true, 1), (true, 2)] [3, 4, 5, 6, 7, 8, 9] [[], [0], [0, 1], [0, 1, 2], [0, 1, 2], [], [0, 1, 2, 3, 5]]
    (fun bs aa V => ∃ (Z56 Z57 Z52 Z58 Z59 Z12 : Value) (q0 : Int) (c1 : Option Addr) (c2 c3 : Nat) (qb : Bool) (d1 : Option Addr) (d2 d3 : Nat) (q4 q5 q6 : Int), aa = { tmps := #[.pointer (some ⟨m, 0, none⟩), .agg #[.int .i64 z0, .slice a1 a2 a3, .bool zb, .slice b1 b2 b3, .int .i64 z4, .int .i64 z5, .int .i64 z6], .agg #[.int .i64 0, .slice pa pj pc, .int .i64 n], undef, .pointer (some ⟨w.heap.size, 0, none⟩), .pointer (some ⟨w.heap.size + 1, 0, none⟩), .pointer none, .pointer (some ⟨w.heap.size + 1 + 1, 0, none⟩), .bool false, .slice oa vs.length oc, .pointer (some ⟨w2.heap.size, 0, none⟩), .int .i64 0, Z12, undef, undef, undef, undef, undef, undef, undef, undef, undef, undef, undef, undef, undef, undef, undef, undef, undef, undef, undef, undef, undef, undef, undef, .pointer (some ⟨w.heap.size + 1, 0, none⟩), .int .i64 0, .bool true, .bool true, .pointer (some ⟨w.heap.size + 1, 1, none⟩), .slice pa pj pc, .slice oa vs.length oc, .tuple #[.agg #[.slice r1 r2 r3, .slice r4 r5 r6], .int .i64 0], .slice oa vs.length oc, .tuple #[.agg #[.slice r1 r2 r3, .slice r4 r5 r6], .int .i64 0], .agg #[.slice r1 r2 r3, .slice r4 r5 r6], .int .i64 0, .int .i64 0, .bool false, undef, undef, Z52, .agg #[.int .i64 z0, .slice a1 a2 a3, .bool zb, .slice b1 b2 b3, .int .i64 z4, .int .i64 z5, .int .i64 z6], .pointer (some ⟨w.heap.size + 1, 1, none⟩), .slice pa pj pc, Z56, Z57, Z58, Z59, undef, undef, undef, undef, undef, undef, undef, undef, undef, undef, undef, undef, undef, undef, undef, undef, undef, undef, undef, undef, undef, undef, undef, undef, undef, undef, undef, undef, undef, undef, undef, undef, undef, undef, undef, undef, undef, undef, undef, undef, undef, undef, undef, undef, undef, undef, undef, undef, undef, undef, undef, undef, undef, undef, undef, undef, undef, undef, undef, undef, undef, undef, undef, undef, undef, undef, undef, undef, undef, undef, undef, undef, undef, undef, undef, undef, undef, undef, undef, undef, undef, undef, undef, undef, undef, undef, undef, undef, undef, undef, undef, undef, undef, undef, undef, undef, undef, undef, undef, undef, undef, undef, undef, undef, undef, undef, undef, undef, undef, undef, undef, undef, undef, undef, undef, undef, undef, undef, undef, undef, undef, undef, undef, undef, undef, undef, undef, undef, undef, undef, undef, undef, undef, undef, undef, undef, undef, undef, undef, undef, undef], defers := [] } ∧ Below V0.heap.size V0 V ∧
      (bs.getD 0 false = true → (∃ ja jn jc, Z56 = .slice ja jn jc ∧ (bs.getD 1 false = false → SrcV V (.slice ja jn jc) (Ps.flatten.map encB)))) ∧ (bs.getD 1 false = true → Z57 = .tuple #[(.agg #[.int .i64 q0, .slice c1 c2 c3, .bool qb, .slice d1 d2 d3, .int .i64 q4, .int .i64 q5, .int .i64 q6]), .int .i64 ye] ∧ SvP (fun g => g ∉ k.F ∧ g ≠ w.heap.size + 1 + 1 ∧ Z12 ≠ .pointer (some ⟨g, 0, none⟩)) V (.agg #[.int .i64 q0, .slice c1 c2 c3, .bool qb, .slice d1 d2 d3, .int .i64 q4, .int .i64 q5, .int .i64 q6]) y.rw) ∧ (bs.getD 2 false = true → Z52 = .tuple #[(.agg #[.int .i64 q0, .slice c1 c2 c3, .bool qb, .slice d1 d2 d3, .int .i64 q4, .int .i64 q5, .int .i64 q6]), .int .i64 ye]) ∧ (bs.getD 3 false = true → Z58 = (.agg #[.int .i64 q0, .slice c1 c2 c3, .bool qb, .slice d1 d2 d3, .int .i64 q4, .int .i64 q5, .int .i64 q6])) ∧ (bs.getD 4 false = true → Z59 = .int .i64 ye) ∧
      (bs.getD 5 false = false → Z12 = undef) ∧
      (bs.getD 5 false = true → ∃ k, Z12 = .pointer (some ⟨k, 0, none⟩) ∧ V0.heap.size ≤ k ∧ V.heap[k]? = some (.cells (if bs.getD 6 false = true then #[.int .i64 q0, .slice c1 c2 c3, .bool qb, .slice d1 d2 d3, .int .i64 q4, .int .i64 q5, .int .i64 q6] else #[.int .i64 0, .slice none 0 0, .bool false, .slice none 0 0, .int .i64 0, .int .i64 0, .int .i64 0]) 31 (0, 0))))
    (by kernel_rfl) (by kernel_rfl) (by kernel_rfl) (by kernel_rfl) (by kernel_rfl) (fun _ _ _ d _ h => by cases d <;> exact h) ?hstep ?hend ?hbegin
  case hbegin =>
    simp only [List.map_cons, List.map_nil, List.getD_cons_zero, List.getD_cons_succ, List.drop_succ_cons, List.drop_zero]
    refine mix_take (.agg #[.int .i64 z0, .slice a1 a2 a3, .bool zb, .slice b1 b2 b3, .int .i64 z4, .int .i64 z5, .int .i64 z6]) HDD.out rfl (fun W' hS => by
      have e1 := (hS.block _ (lt_of_block hx3)).trans hx3
      have l0 := cells_cell (o := 0) e1 rfl
      have l1 := cells_cell (o := 1) e1 rfl
      have l2 := cells_cell (o := 2) e1 rfl
      have l3 := cells_cell (o := 3) e1 rfl
      have l4 := cells_cell (o := 4) e1 rfl
      have l5 := cells_cell (o := 5) e1 rfl
      have l6 := cells_cell (o := 6) e1 rfl
      go_simp) ?_
    simp only [Act.put, List.setIfInBounds_toArray, List.set_cons_zero, List.set_cons_succ]
    refine mix_take (.pointer (some ⟨w.heap.size + 1, 1, none⟩)) HDD.out rfl (fun W' hS => by go_simp) ?_
    simp only [Act.put, List.setIfInBounds_toArray, List.set_cons_zero, List.set_cons_succ]
    refine mix_take (.slice pa pj pc) HDD.out rfl (fun W' hS => by
      have e1 := (hS.block _ (lt_of_block ha3)).trans ha3
      have l1 := cells_cell (o := 1) e1 rfl
      go_simp) ?_
    simp only [Act.put, List.setIfInBounds_toArray, List.set_cons_zero, List.set_cons_succ]
    refine mix_nil ?_
    exact ⟨undef, undef, undef, undef, undef, undef, 0, none, 0, 0, false, none, 0, 0, 0, 0, 0, rfl, HDD.out, (fun h => by cases h), (fun h => by cases h), (fun h => by cases h), (fun h => by cases h), (fun h => by cases h), (fun _ => rfl), (fun h => by cases h)⟩
  case hstep =>
    intro bs j a' V hbs hcl hj hpre hJ
    obtain ⟨Z56, Z57, Z52, Z58, Z59, Z12, q0, c1, c2, c3, qb, d1, d2, d3, q4, q5, q6, rfl, hb, h0, h1, h2, h3, h4, h5f, h5⟩ := hJ
    obtain ⟨b0, b1_, b2_, b3_, b4_, b5_, b6_, rfl⟩ : ∃ b0 b1 b2 b3 b4 b5 b6, bs = [b0, b1, b2, b3, b4, b5, b6] := by
      match bs, hbs with
      | [b0, b1, b2, b3, b4, b5, b6], _ => exact ⟨b0, b1, b2, b3, b4, b5, b6, rfl⟩
    simp only [List.getD_cons_zero, List.getD_cons_succ] at h0 h1 h2 h3 h4 h5f h5
    have hcl2 : (b2_ = true → b1_ = true) ∧ (b3_ = true → b1_ = true) ∧ (b4_ = true → b1_ = true) ∧ (b6_ = true → b1_ = true ∧ b5_ = true) := by
      revert hcl; cases b0 <;> cases b1_ <;> cases b2_ <;> cases b3_ <;> cases b4_ <;> cases b5_ <;> cases b6_ <;> decide
    clear hcl hbs
    have keep0 : ∀ V', Below V.heap.size V V' → (b0 = true → (∃ ja jn jc, Z56 = .slice ja jn jc ∧ (b1_ = false → SrcV V' (.slice ja jn jc) (Ps.flatten.map encB)))) := fun V' hb' h => by
      obtain ⟨ja, jn, jc, e, hs⟩ := h0 h
      exact ⟨ja, jn, jc, e, fun h => (hs h).grown hb'⟩
    have keep1 : ∀ V', Below V.heap.size V V' → (b1_ = true → Z57 = .tuple #[(.agg #[.int .i64 q0, .slice c1 c2 c3, .bool qb, .slice d1 d2 d3, .int .i64 q4, .int .i64 q5, .int .i64 q6]), .int .i64 ye] ∧ SvP (fun g => g ∉ k.F ∧ g ≠ w.heap.size + 1 + 1 ∧ Z12 ≠ .pointer (some ⟨g, 0, none⟩)) V' (.agg #[.int .i64 q0, .slice c1 c2 c3, .bool qb, .slice d1 d2 d3, .int .i64 q4, .int .i64 q5, .int .i64 q6]) y.rw) := fun V' hb' h => ⟨(h1 h).1, (h1 h).2.grown hb'⟩
    have keep5 : ∀ V', Below V.heap.size V V' → (b5_ = true → ∃ k, Z12 = .pointer (some ⟨k, 0, none⟩) ∧ V0.heap.size ≤ k ∧ V'.heap[k]? = some (.cells (if b6_ = true then #[.int .i64 q0, .slice c1 c2 c3, .bool qb, .slice d1 d2 d3, .int .i64 q4, .int .i64 q5, .int .i64 q6] else #[.int .i64 0, .slice none 0 0, .bool false, .slice none 0 0, .int .i64 0, .int .i64 0, .int .i64 0]) 31 (0, 0))) := fun V' hb' h => by
      obtain ⟨k, e, hk, hk2⟩ := h5 h
      exact ⟨k, e, hk, (hb'.block _ (lt_of_block hk2)).trans hk2⟩
    match j, hj with
    | 0, hj =>
      simp at hj
      subst hj
      refine op_step rfl rfl (fun K hK => ?_)
      go_simp
      go_wp2_with (go_at_call 37; fail)
      refine (sfJoin_any (HPP.out.grown hb) HSZ.out.1 HSZ.out.2).mono ?_
      rintro e w3 ⟨vj, rfl, hrow, hb3⟩
      have hjs := RowV.src hrow
      obtain ⟨ja, jc, hjf, _, _⟩ := hjs.form
      subst hjf
      refine hK _ _ ⟨hb.trans (hb3.mono hb.size), _, Z57, Z52, Z58, Z59, Z12, q0, c1, c2, c3, qb, d1, d2, d3, q4, q5, q6, rfl, hb.trans (hb3.mono hb.size), (fun _ => ⟨_, _, _, rfl, fun _ => hjs⟩), (fun h => keep1 w3 hb3 h), (fun h => h2 h), (fun h => h3 h), (fun h => h4 h), (fun h => h5f h), (fun h => keep5 w3 hb3 h)⟩
    | 1, hj =>
      simp at hj
      subst hj
      have hb0 : b0 = true := by simpa using hpre
      obtain ⟨ja, jn, jc, rfl, hjs0⟩ := h0 hb0
      have hjs := hjs0 rfl
      have hsv : SvP (fun g => g ∉ k.F ∧ g ≠ w.heap.size + 1 + 1 ∧ Z12 ≠ .pointer (some ⟨g, 0, none⟩)) V (.agg #[.int .i64 z0, .slice a1 a2 a3, .bool zb, .slice b1 b2 b3, .int .i64 z4, .int .i64 z5, .int .i64 z6]) x.rw := (HBD.out.grown hb).weak (fun g hg => ⟨hg.1.1, hg.1.2, fun e => by
        cases h7 : b5_ with
        | false => rw [h5f h7] at e; cases e
        | true =>
          obtain ⟨kk, e2, hk, _⟩ := h5 h7
          rw [e2] at e
          simp only [Value.pointer.injEq, Option.some.injEq, Addr.mk.injEq] at e
          have := hg.2; omega⟩)
      have hrf := sfBegin_any hsv HOK.out (fun g hg => ⟨fun hi => by have := HLV.out.2 g hi; have := hb.size; omega, by have := HLV.out.1; have := hb.size; omega, fun e => by
        cases h7 : b5_ with
        | false => rw [h5f h7] at e; cases e
        | true =>
          obtain ⟨kk, e2, hk, hk2⟩ := h5 h7
          rw [e2] at e
          simp only [Value.pointer.injEq, Option.some.injEq, Addr.mk.injEq] at e
          have := lt_of_block hk2; omega⟩) hjs (by have := HSZ.out.1; omega)
      rw [HYE.out] at hrf
      refine op_step rfl rfl (fun K hK => ?_)
      go_simp
      go_wp2_with (go_at_call 43; fail)
      refine hrf.mono ?_
      rintro e w3 ⟨v3, rfl, hs3, hb3⟩
      have f2 : ¬ b2_ = true := fun h => by have := hcl2.1 h; simp at this
      have f3 : ¬ b3_ = true := fun h => by have := hcl2.2.1 h; simp at this
      have f4 : ¬ b4_ = true := fun h => by have := hcl2.2.2.1 h; simp at this
      have f6 : ¬ b6_ = true := fun h => by have := (hcl2.2.2.2 h).1; simp at this
      obtain ⟨g0, g1, g2, g3, gb, g4, g5, g6, g7, g8, g9, rfl⟩ : ∃ g0 g1 g2 g3 gb g4 g5 g6 g7 g8 g9, v3 = .agg #[.int .i64 g0, .slice g1 g2 g3, .bool gb, .slice g4 g5 g6, .int .i64 g7, .int .i64 g8, .int .i64 g9] := by
        obtain ⟨s1, n, s3, r1, rn, r3, e⟩ := hs3.shape
        exact ⟨_, _, _, _, _, _, _, _, _, _, _, e⟩
      refine hK _ _ ⟨hb.trans (hb3.mono hb.size), _, _, Z52, Z58, Z59, Z12, g0, g1, g2, g3, gb, g4, g5, g6, g7, g8, g9, rfl, hb.trans (hb3.mono hb.size), (fun _ => ⟨_, _, _, rfl, fun h => by cases h⟩), (fun _ => ⟨rfl, hs3⟩), (fun h => absurd h f2), (fun h => absurd h f3), (fun h => absurd h f4), (fun h => h5f h), (fun h => by
        obtain ⟨kk, e, hk, hk2⟩ := keep5 w3 hb3 h
        rw [if_neg f6] at hk2
        exact ⟨kk, e, hk, by show _ = some (Go.Obj.cells (if b6_ = true then _ else _) _ _); rw [if_neg f6]; exact hk2⟩)⟩
    | 2, hj =>
      simp at hj
      subst hj
      have hb0 : b0 = true ∧ b1_ = true := by simpa using hpre
      obtain ⟨rfl, hsv⟩ := h1 hb0.2
      refine op_step rfl rfl (fun K hK => ?_)
      go_simp
      refine hK _ _ ⟨hb, Z56, _, _, Z58, Z59, Z12, q0, c1, c2, c3, qb, d1, d2, d3, q4, q5, q6, rfl, hb, (fun h => h0 h), (fun _ => ⟨rfl, hsv⟩), (fun _ => rfl), (fun h => h3 h), (fun h => h4 h), (fun h => h5f h), (fun h => h5 h)⟩
    | 3, hj =>
      simp at hj
      subst hj
      have hb0 : b0 = true ∧ b1_ = true ∧ b2_ = true := by simpa using hpre
      obtain ⟨ja, jn, jc, rfl, hjs⟩ := h0 hb0.1
      obtain ⟨rfl, hsv⟩ := h1 hb0.2.1
      obtain rfl := h2 hb0.2.2
      refine op_step rfl rfl (fun K hK => ?_)
      go_simp
      refine hK _ _ ⟨hb, _, _, _, _, Z59, Z12, q0, c1, c2, c3, qb, d1, d2, d3, q4, q5, q6, rfl, hb, (fun _ => ⟨_, _, _, rfl, hjs⟩), (fun _ => ⟨rfl, hsv⟩), (fun _ => rfl), (fun _ => rfl), (fun h => h4 h), (fun h => h5f h), (fun h => h5 h)⟩
    | 4, hj =>
      simp at hj
      subst hj
      have hb0 : b0 = true ∧ b1_ = true ∧ b2_ = true := by simpa using hpre
      obtain ⟨ja, jn, jc, rfl, hjs⟩ := h0 hb0.1
      obtain ⟨rfl, hsv⟩ := h1 hb0.2.1
      obtain rfl := h2 hb0.2.2
      refine op_step rfl rfl (fun K hK => ?_)
      go_simp
      refine hK _ _ ⟨hb, _, _, _, Z58, _, Z12, q0, c1, c2, c3, qb, d1, d2, d3, q4, q5, q6, rfl, hb, (fun _ => ⟨_, _, _, rfl, hjs⟩), (fun _ => ⟨rfl, hsv⟩), (fun _ => rfl), (fun h => h3 h), (fun _ => rfl), (fun h => h5f h), (fun h => h5 h)⟩
    | 5, hj =>
      simp at hj
      subst hj
      refine op_step rfl rfl (fun K hK => ?_)
      go_simp
      have hb3 := below_alloc V (.cells #[.int .i64 0, .slice none 0 0, .bool false, .slice none 0 0, .int .i64 0, .int .i64 0, .int .i64 0] 31)
      refine hK _ _ ⟨hb.trans (hb3.mono hb.size), Z56, Z57, Z52, Z58, Z59, _, q0, c1, c2, c3, qb, d1, d2, d3, q4, q5, q6, rfl, hb.trans (hb3.mono hb.size), (fun h => keep0 _ hb3 h), (fun h => ⟨(h1 h).1, (((h1 h).2.bound).grown hb3).weak (fun g hg => ⟨hg.1.1, hg.1.2.1, fun e => by simp only [Value.pointer.injEq, Option.some.injEq, Addr.mk.injEq] at e; have := hg.2; omega⟩)⟩), (fun h => h2 h), (fun h => h3 h), (fun h => h4 h), (fun h => by cases h), (fun _ => ⟨_, rfl, hb.size, by
        have e6 : ¬ b6_ = true := fun h => by have := (hcl2.2.2.2 h).2; simp at this
        show _ = some (Go.Obj.cells (if b6_ = true then _ else _) _ _)
        rw [if_neg e6]
        exact heap_alloc_new _ _⟩)⟩
    | 6, hj =>
      simp at hj
      subst hj
      have hb0 : b0 = true ∧ b1_ = true ∧ b2_ = true ∧ b3_ = true ∧ b5_ = true := by simpa using hpre
      obtain ⟨ja, jn, jc, rfl, hjs⟩ := h0 hb0.1
      obtain ⟨rfl, hsv⟩ := h1 hb0.2.1
      obtain rfl := h2 hb0.2.2.1
      obtain rfl := h3 hb0.2.2.2.1
      obtain ⟨kk, rfl, hk, hk2⟩ := h5 hb0.2.2.2.2
      rw [if_neg (by simp)] at hk2
      have gg0 := cells_cell (o := 0) hk2 rfl
      have gz0 := cells_free hk2 0
      have gg1 := cells_cell (o := 1) hk2 rfl
      have gz1 := cells_free hk2 1
      have gg2 := cells_cell (o := 2) hk2 rfl
      have gz2 := cells_free hk2 2
      have gg3 := cells_cell (o := 3) hk2 rfl
      have gz3 := cells_free hk2 3
      have gg4 := cells_cell (o := 4) hk2 rfl
      have gz4 := cells_free hk2 4
      have gg5 := cells_cell (o := 5) hk2 rfl
      have gz5 := cells_free hk2 5
      have gg6 := cells_cell (o := 6) hk2 rfl
      have gz6 := cells_free hk2 6
      have hkl := lt_of_block hk2
      refine op_step rfl rfl (fun K hK => ?_)
      go_simp
      generalize hV1 : World.setCell _ _ _ = V1
      have hff : Fr [kk] V V1 := by rw [← hV1]; exact seven_fr V _ _ _ _ _ _ _ _
      have hy0 : V1.heap[kk]? = some (.cells #[.int .i64 q0, .slice c1 c2 c3, .bool qb, .slice d1 d2 d3, .int .i64 q4, .int .i64 q5, .int .i64 q6] 31 (0, 0)) := by rw [← hV1]; exact seven_cells hk2 _ _ _ _ _ _ _
      have hb3 : Below V0.heap.size V V1 := hff.below (fun q hq => by simp at hq; omega) hb.size
      have hsv1 : SvP (fun g => g ∉ k.F ∧ g ≠ w.heap.size + 1 + 1 ∧ (Value.pointer (some ⟨kk, 0, none⟩)) ≠ .pointer (some ⟨g, 0, none⟩)) V1 (.agg #[.int .i64 q0, .slice c1 c2 c3, .bool qb, .slice d1 d2 d3, .int .i64 q4, .int .i64 q5, .int .i64 q6]) y.rw := hsv.fr hff (fun g hg hm => by simp only [List.mem_singleton] at hm; subst hm; exact hg.2.2 rfl)
      refine hK _ _ ⟨hb.trans hb3, _, _, _, _, Z59, _, q0, c1, c2, c3, qb, d1, d2, d3, q4, q5, q6, rfl, hb.trans hb3, (fun _ => ⟨_, _, _, rfl, fun h => by simp at h; have := hb0.2.1; simp_all⟩), (fun _ => ⟨rfl, hsv1⟩), (fun _ => rfl), (fun _ => rfl), (fun h => h4 h), (fun h => by cases h.symm.trans hb0.2.2.2.2), (fun _ => ⟨kk, rfl, hk, by simpa using hy0⟩)⟩
    | j + 7, hj => simp at hj
  case hend =>
    intro a' U hJ
    obtain ⟨Z56, Z57, Z52, Z58, Z59, Z12, q0, c1, c2, c3, qb, d1, d2, d3, q4, q5, q6, rfl, hb, h0, h1, h2, h3, h4, h5f, h5⟩ := hJ
    obtain ⟨ja, jn, jc, rfl, -⟩ := h0 rfl
    obtain ⟨rfl, hsv⟩ := h1 rfl
    obtain rfl := h2 rfl
    obtain rfl := h3 rfl
    obtain rfl := h4 rfl
    obtain ⟨kk, rfl, hk, hk2⟩ := h5 rfl
    clear h0 h1 h2 h3 h4 h5f h5 hx3 ha3
    have HY4 : Hid (U.heap[kk]? = some (.cells #[.int .i64 q0, .slice c1 c2 c3, .bool qb, .slice d1 d2 d3, .int .i64 q4, .int .i64 q5, .int .i64 q6] 31 (0, 0))) := Lib.hid (by simpa using hk2)
    have HX4 := Lib.hid ((hb.block _ (lt_of_block HX3.out)).trans HX3.out)
    have HA4 := Lib.hid ((hb.block _ (lt_of_block HO3.out)).trans HO3.out)
    have HR4 := Lib.hid ((hb.block _ (lt_of_block HR3.out)).trans HR3.out)
    have HK4 := Lib.hid (HK3.out.grow hb)
    have HS4 : Hid (SvP (fun g => g ∉ k.F ∧ g ≠ w.heap.size + 1 + 1) U (.agg #[.int .i64 q0, .slice c1 c2 c3, .bool qb, .slice d1 d2 d3, .int .i64 q4, .int .i64 q5, .int .i64 q6]) y.rw) := Lib.hid (hsv.weak (fun g hg => ⟨hg.1, hg.2.1⟩))
    have HFR4 : Hid (Fr k.F w U) := Lib.hid (HFR3.out.trans' (Fr.of_below hb k.F))
    have HRO4 := Lib.hid (HRO3.out.grown hb)
    have HWW : Hid (w.heap.size + 1 + 1 < kk ∧ w.heap.size + 1 + 1 < w2.heap.size ∧ kk < U.heap.size ∧ (∀ i ∈ k.F, i < V0.heap.size) ∧ V0.heap.size ≤ kk) := Lib.hid ⟨by have := HLV.out.1; omega, by have := HWV.out; omega, lt_of_block HY4.out, HLV.out.2, hk⟩
    clear hk2 hb hsv hk HX3 HA3 HR3 HK3 HS3 HFR3 HRO3 HO3
    simp only [List.drop_succ_cons, List.drop_zero]
    go_wp2_with fail
    refine wp_region_mix (fun W' => W'.heap[kk]? = some (.cells #[.int .i64 q0, .slice c1 c2 c3, .bool qb, .slice d1 d2 d3, .int .i64 q4, .int .i64 q5, .int .i64 q6] 31 (0, 0)) ∧ W'.heap[w2.heap.size]? = some (.cells #[.slice r1 r2 r3, .slice r4 r5 r6] 52 (0, 0))) 9 [(true, 0), (true, 1), (true, 2), (true, 3), (true, 5), (false, 4), (true, 6), (true, 7), (false, 8)] (by kernel_rfl) (by kernel_rfl) (fun _ _ _ d _ h => by cases d <;> exact h) ?_
    have HD : Hid (Below U.heap.size U U.drew) := Lib.hid ((Grn.refl U).drew 1).below
    have HQ : Hid (U.drew.heap[kk]? = some (.cells #[.int .i64 q0, .slice c1 c2 c3, .bool qb, .slice d1 d2 d3, .int .i64 q4, .int .i64 q5, .int .i64 q6] 31 (0, 0))) := Lib.hid ((HD.out.block _ (lt_of_block HY4.out)).trans HY4.out)
    have HT := Lib.hid ((HD.out.block _ (lt_of_block HR4.out)).trans HR4.out)
    have HAT := Lib.hid ((HD.out.block _ (lt_of_block HA4.out)).trans HA4.out)
    have HKK := Lib.hid (HK4.out.grow HD.out)
    have HSS := Lib.hid (HS4.out.grown HD.out)
    have HFF : Hid (Fr k.F w U.drew) := Lib.hid (HFR4.out.trans' (Fr.of_below HD.out k.F))
    have HQ2 := Lib.hid (And.intro HQ.out HAT.out)
    have HRR := Lib.hid (HRO4.out.grown HD.out)
    clear HQ HAT HRO4
    clear HX4 HA4 HR4 HY4 HS4 HK4 HFR4
    simp only [List.map_cons, List.map_nil, List.getD_cons_zero, List.getD_cons_succ, List.drop_succ_cons, List.drop_zero]
    generalize U.drew = V at *
    refine mix_move (.tmp 0) (.pointer (some ⟨m, 0, none⟩)) rfl HQ2.out rfl rfl ?_
    simp only [Act.put, List.setIfInBounds_toArray, List.set_cons_zero, List.set_cons_succ]
    refine mix_take (.agg #[.int .i64 q0, .slice c1 c2 c3, .bool qb, .slice d1 d2 d3, .int .i64 q4, .int .i64 q5, .int .i64 q6]) HQ2.out rfl (fun W' hS => by 
      have l0 := cells_cell (o := 0) hS.1 rfl
      have l1 := cells_cell (o := 1) hS.1 rfl
      have l2 := cells_cell (o := 2) hS.1 rfl
      have l3 := cells_cell (o := 3) hS.1 rfl
      have l4 := cells_cell (o := 4) hS.1 rfl
      have l5 := cells_cell (o := 5) hS.1 rfl
      have l6 := cells_cell (o := 6) hS.1 rfl
      go_simp) ?_
    simp only [Act.put, List.setIfInBounds_toArray, List.set_cons_zero, List.set_cons_succ]
    refine mix_move (.tmp 0) (.pointer (some ⟨m, 0, none⟩)) rfl HQ2.out rfl rfl ?_
    simp only [Act.put, List.setIfInBounds_toArray, List.set_cons_zero, List.set_cons_succ]
    refine mix_take (.agg #[.slice r1 r2 r3, .slice r4 r5 r6]) HQ2.out rfl (fun W' hS => by 
      have l0 := cells_cell (o := 0) hS.2 rfl
      have l1 := cells_cell (o := 1) hS.2 rfl
      go_simp) ?_
    simp only [Act.put, List.setIfInBounds_toArray, List.set_cons_zero, List.set_cons_succ]
    refine mix_move (.tmp 13) (.int .i64 ye) rfl HQ2.out rfl rfl ?_
    simp only [Act.put, List.setIfInBounds_toArray, List.set_cons_zero, List.set_cons_succ]
    refine mix_step rfl (fun K2 hK => ?_)
    go_simp
    go_wp2_with (go_at_call 24; fail)
    have hst := ks_begin HKK.out HRR.out ye HYE.out
    unfold pt at hst
    refine hst.mono ?_
    rintro e V2 ⟨rfl, gg, hk, -, hf⟩
    clear hst
    have HQ := Lib.hid (And.intro (hf.same HQ2.out.1 (fun hi => by have := HWW.out.2.2.2.1 _ hi; have := HWW.out.2.2.2.2; omega)) (hf.same HQ2.out.2 (fun hi => by have := HFL.out _ hi; have := HWW.out.2.1; omega)))
    have HT2 := Lib.hid (hf.same HT.out (fun hi => by have := HFL.out _ hi; omega))
    have HSS2 := Lib.hid (HSS.out.fr hf (fun g hg => hg.1))
    have HFF2 : Hid (Fr k.F w V2) := Lib.hid (HFF.out.trans' hf)
    have HKK2 := Lib.hid hk
    clear hk hf HT HSS HFF HQ2 HKK
    refine hK _ _ HQ.out ?_
    clear hK
    try simp only [Act.put, List.setIfInBounds_toArray, List.set_cons_zero, List.set_cons_succ]
    refine mix_take (.bool true) HQ.out rfl (fun W' hS => by go_simp) ?_
    simp only [Act.put, List.setIfInBounds_toArray, List.set_cons_zero, List.set_cons_succ]
    refine mix_take (.pointer (some ⟨m, 0, none⟩)) HQ.out rfl (fun W' hS => by go_simp) ?_
    simp only [Act.put, List.setIfInBounds_toArray, List.set_cons_zero, List.set_cons_succ]
    refine mix_step rfl (fun K1 hK => ?_)
    have dd0 := cells_cell (o := 0) HT2.out rfl
    have dd1 := cells_cell (o := 1) HT2.out rfl
    have dd2 := cells_cell (o := 2) HT2.out rfl
    have dd3 := cells_cell (o := 3) HT2.out rfl
    have dd4 := cells_cell (o := 4) HT2.out rfl
    have dd5 := cells_cell (o := 5) HT2.out rfl
    have dd6 := cells_cell (o := 6) HT2.out rfl
    have ff0 := cells_free HT2.out 0
    have ff1 := cells_free HT2.out 1
    have ff2 := cells_free HT2.out 2
    have ff3 := cells_free HT2.out 3
    have ff4 := cells_free HT2.out 4
    have ff5 := cells_free HT2.out 5
    have ff6 := cells_free HT2.out 6
    have hlt := lt_of_block HT2.out
    go_simp
    generalize hWF : World.setCell _ _ _ = WF
    have hff : Fr [w.heap.size + 1 + 1] V2 WF := by rw [← hWF]; exact seven_fr V2 _ _ _ _ _ _ _ _
    have ht : WF.heap[w.heap.size + 1 + 1]? = some (.cells #[.int .i64 q0, .slice c1 c2 c3, .bool qb, .slice d1 d2 d3, .int .i64 q4, .int .i64 q5, .int .i64 q6] 31 (0, 0)) := by rw [← hWF]; exact seven_cells HT2.out _ _ _ _ _ _ _
    have HS8 : Hid (WF.heap[kk]? = some (.cells #[.int .i64 q0, .slice c1 c2 c3, .bool qb, .slice d1 d2 d3, .int .i64 q4, .int .i64 q5, .int .i64 q6] 31 (0, 0)) ∧ WF.heap[w2.heap.size]? = some (.cells #[.slice r1 r2 r3, .slice r4 r5 r6] 52 (0, 0))) := Lib.hid (And.intro (hff.same HQ.out.1 (by have := HWW.out; simp; omega)) (hff.same HQ.out.2 (by have := HWW.out; simp; omega)))
    have HKF := Lib.hid (HKK2.out.box HT2.out hff (by have := HW0.out; omega))
    have HSF := Lib.hid ((HSS2.out.fr hff (fun g hg => by have := hg.2; simp only [List.mem_singleton]; omega)).weak (fun g hg => hg.1))
    have HFE : Hid (Fr k.F w WF) := Lib.hid (HFF2.out.trans hff (fun q hq => .inr (by simp at hq; omega)))
    clear hWF HT2 HKK2 HSS2 HFF2 hlt dd0 ff0 dd1 ff1 dd2 ff2 dd3 ff3 dd4 ff4 dd5 ff5 dd6 ff6
    refine hK _ _ HS8.out ?_
    clear hK HQ
    refine mix_nil ?_
    go_wp2_with fail
    have t0 := cells_cell (o := 0) ht rfl
    have t1 := cells_cell (o := 1) ht rfl
    have t2 := cells_cell (o := 2) ht rfl
    have t3 := cells_cell (o := 3) ht rfl
    have t4 := cells_cell (o := 4) ht rfl
    have t5 := cells_cell (o := 5) ht rfl
    have t6 := cells_cell (o := 6) ht rfl
    refine bodyPost_ret (v := .tuple #[.pointer (some ⟨m, 0, none⟩), (.agg #[.int .i64 q0, .slice c1 c2 c3, .bool qb, .slice d1 d2 d3, .int .i64 q4, .int .i64 q5, .int .i64 q6]), .bool true]) (by simp [results, Try.results12, go_sem, t0, t1, t2, t3, t4, t5, t6]) rfl ?_
    exact ⟨m, k.at gg, y, _, rfl, HKF.out, HSF.out, HFE.out⟩
end Go.Proofs.Yteimjkmjofaieaa
