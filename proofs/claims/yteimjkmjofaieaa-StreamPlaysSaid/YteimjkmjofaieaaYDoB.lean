/- The law's step: Read. -/
import Derived.Test.YteimjkmjofaieaaYDoA
import Derived.Test.YteimjkmjofaieaaYSame
namespace Go.Proofs.Yteimjkmjofaieaa
open Go.RowKit Go.Sort
set_option linter.unusedVariables false
set_option linter.unusedSimpArgs false
set_option maxRecDepth 100000

theorem row_byte {w : World} {base : Nat} {a : Option Addr} {n c : Nat} {L : List UInt8} (h : RowB w base (.slice a n c) L) (k : Nat) (hk : k < L.length) :
    ∃ g, a = some ⟨g, 0, none⟩ ∧ base ≤ g ∧ g < w.heap.size ∧ n = L.length ∧ n ≤ c ∧ c ≤ maxLen ∧ w.cell? ⟨g, k, none⟩ = some (.int .u8 ((L[k].toNat : Nat) : Int)) ∧ w.frozen? ⟨g, k, none⟩ = false ∧
      ∀ z : Int, 0 ≤ z → z < 256 → RowB (w.setCell ⟨g, k, none⟩ (.int .u8 z)) base (.slice a n c) (L.set k (UInt8.ofNat z.toNat)) := by
  have h' : w.ownsRow base 5 1 (.slice a n c) (L.map encB).length (L.map encB) := h
  obtain ⟨h1, h2⟩ := h'
  rw [List.length_map] at h2
  rcases h2 with ⟨hv, h0⟩ | ⟨g, cap, cur, hv, hb, hh, h3, h4, h5, h6⟩
  · omega
  · simp only [Value.slice.injEq] at hv
    obtain ⟨rfl, rfl, rfl⟩ := hv
    rw [Nat.mul_one] at h5 h6
    have hcur : cur[k]? = some (encB L[k]) := by
      have : (cur.toList.take L.length)[k]? = (L.map encB)[k]? := by rw [h6]
      rw [List.getElem?_take, if_pos hk, List.getElem?_map, List.getElem?_eq_getElem hk] at this
      simpa using this
    refine ⟨g, rfl, hb, lt_of_block hh, rfl, h3, h4, cells_cell hh hcur, cells_free hh _, fun z hz0 hz1 => ?_⟩
    have he : Value.int .u8 z = encB (UInt8.ofNat z.toNat) := by
      unfold encB
      congr 1
      simp
      omega
    refine ⟨by simp, .inr ⟨g, c, cur.setIfInBounds k (.int .u8 z), by simp, hb, cells_set hh k _, by simpa using h3, h4, by simpa using h5, ?_⟩⟩
    rw [List.length_map, List.length_set, Nat.mul_one, Array.toList_setIfInBounds, List.take_set, h6, he, List.map_set]
set_option maxHeartbeats 6400000 in
theorem do_read {w0 w : World} {m : Nat} {k : Sb} {x : St} {sv pv : Value} {Ps : Parts} (h : KS w0 w m k x) (hs : SvP (fun g => g ∉ k.F) w sv x.rw) (hp : PtsV w0 pv Ps) (n : Int) :
    Calls Try.prog 12 #[pt m, sv, .agg #[.int .i64 3, pv, .int .i64 n]] w fun e w' => StepR w0 w k w' e := by
  obtain ⟨z0, a1, a2, a3, zb, b1, b2, b3, z4, z5, z6, rfl⟩ : ∃ z0 a1 a2 a3 zb b1 b2 b3 z4 z5 z6, sv = .agg #[.int .i64 z0, .slice a1 a2 a3, .bool zb, .slice b1 b2 b3, .int .i64 z4, .int .i64 z5, .int .i64 z6] := by
    obtain ⟨s1, n, s3, r1, rn, r3, e⟩ := hs.shape
    exact ⟨_, _, _, _, _, _, _, _, _, _, _, e⟩
  obtain ⟨pa, pc, rfl, hpc1, hpc2⟩ := hp.form
  obtain ⟨pj, hpj⟩ : ∃ j, j = Ps.length := ⟨_, rfl⟩
  rw [← hpj] at hp hpc1 ⊢
  obtain ⟨W, hW⟩ : ∃ W, W = ((w.alloc (.cells #[.int .i64 z0, .slice a1 a2 a3, .bool zb, .slice b1 b2 b3, .int .i64 z4, .int .i64 z5, .int .i64 z6] 31)).alloc (.cells #[.int .i64 3, .slice pa pj pc, .int .i64 n] 38)).alloc (.cells #[.int .i64 0, .slice none 0 0, .bool false, .slice none 0 0, .int .i64 0, .int .i64 0, .int .i64 0] 31) := ⟨_, rfl⟩
  have bw1 := below_alloc w (.cells #[.int .i64 z0, .slice a1 a2 a3, .bool zb, .slice b1 b2 b3, .int .i64 z4, .int .i64 z5, .int .i64 z6] 31)
  have bw2 := below_alloc (w.alloc (.cells #[.int .i64 z0, .slice a1 a2 a3, .bool zb, .slice b1 b2 b3, .int .i64 z4, .int .i64 z5, .int .i64 z6] 31)) (.cells #[.int .i64 3, .slice pa pj pc, .int .i64 n] 38)
  have bw3 := below_alloc ((w.alloc (.cells #[.int .i64 z0, .slice a1 a2 a3, .bool zb, .slice b1 b2 b3, .int .i64 z4, .int .i64 z5, .int .i64 z6] 31)).alloc (.cells #[.int .i64 3, .slice pa pj pc, .int .i64 n] 38)) (.cells #[.int .i64 0, .slice none 0 0, .bool false, .slice none 0 0, .int .i64 0, .int .i64 0, .int .i64 0] 31)
  have hb : Below w.heap.size w W := by rw [hW]; exact bw1.trans ((bw2.trans (bw3.mono (by simp))).mono (by simp))
  have e0 : W.heap[w.heap.size]? = some (.cells #[.int .i64 z0, .slice a1 a2 a3, .bool zb, .slice b1 b2 b3, .int .i64 z4, .int .i64 z5, .int .i64 z6] 31 (0, 0)) := by rw [hW]; exact (bw3.block _ (by simp; omega)).trans ((bw2.block _ (by simp)).trans (heap_alloc_new w _))
  have e1 : W.heap[w.heap.size + 1]? = some (.cells #[.int .i64 3, .slice pa pj pc, .int .i64 n] 38 (0, 0)) := by rw [hW]; exact (bw3.block _ (by simp)).trans (block_new _ _ _ (by simp))
  have e2 : W.heap[w.heap.size + 1 + 1]? = some (.cells #[.int .i64 0, .slice none 0 0, .bool false, .slice none 0 0, .int .i64 0, .int .i64 0, .int .i64 0] 31 (0, 0)) := by rw [hW]; exact block_new _ _ _ (by simp)
  have HW := Lib.hid hW.symm
  have HX : Hid (W.heap[w.heap.size]? = some (.cells #[.int .i64 z0, .slice a1 a2 a3, .bool zb, .slice b1 b2 b3, .int .i64 z4, .int .i64 z5, .int .i64 z6] 31 (0, 0))) := Lib.hid e0
  have HA : Hid (W.heap[w.heap.size + 1]? = some (.cells #[.int .i64 3, .slice pa pj pc, .int .i64 n] 38 (0, 0))) := Lib.hid e1
  have HR : Hid (W.heap[w.heap.size + 1 + 1]? = some (.cells #[.int .i64 0, .slice none 0 0, .bool false, .slice none 0 0, .int .i64 0, .int .i64 0, .int .i64 0] 31 (0, 0))) := Lib.hid e2
  have HK := Lib.hid (h.grow hb)
  have HS : Hid (SvP (fun g => g ∉ k.F ∧ g ≠ w.heap.size + 1 + 1) W (.agg #[.int .i64 z0, .slice a1 a2 a3, .bool zb, .slice b1 b2 b3, .int .i64 z4, .int .i64 z5, .int .i64 z6]) x.rw) := Lib.hid ((hs.bound.grown hb).weak (fun g hg => ⟨hg.1, by have := hg.2; omega⟩))
  have HOK := Lib.hid h.at'.ok
  have HFL : Hid (∀ i ∈ k.F, i < w.heap.size) := Lib.hid h.at'.F_lt
  have HW0 : Hid (w0.heap.size ≤ w.heap.size) := Lib.hid h.be.size
  have HFR : Hid (Fr k.F w W) := Lib.hid (Fr.of_below hb k.F)
  have HP := Lib.hid hp
  have HPJ := Lib.hid hpj
  have x0 := cells_cell (o := 0) e0 rfl
  have x1 := cells_cell (o := 1) e0 rfl
  have x2 := cells_cell (o := 2) e0 rfl
  have x3 := cells_cell (o := 3) e0 rfl
  have x4 := cells_cell (o := 4) e0 rfl
  have x5 := cells_cell (o := 5) e0 rfl
  have x6 := cells_cell (o := 6) e0 rfl
  have y0 := cells_cell (o := 0) e1 rfl
  have y1 := cells_cell (o := 1) e1 rfl
  have y2 := cells_cell (o := 2) e1 rfl
  have hlX := lt_of_block e0
  have hlA := lt_of_block e1
  clear hW bw1 bw2 bw3 hb e0 e1 e2 h hs hpj hp
  unfold pt StepR
  clear hpc1 hpc2
  have hrf := sfRead_any (w := W) HS.out HOK.out (fun g hg => ⟨fun hi => by have := HFL.out g hi; have := lt_of_block HR.out; omega, by have := lt_of_block HR.out; omega⟩) n
  obtain ⟨yL, ye, y, hy⟩ : ∃ yL ye y, sRd x n = (yL, ye, y) := ⟨_, _, _, rfl⟩
  have HYE := Lib.hid hy
  rw [hy] at hrf
  clear hy
  have HRF := Lib.hid hrf
  clear hrf
  go_enter Try.func12, Try.ntmps12
  go_upto_region 1 with fail
  rw [HW.out]
  go_wp2_with (go_at_call 46; fail)
  refine (HRF.out).mono ?_
  rintro e w1 ⟨v1, vb, rfl, hs1, hvb, hb1⟩
  obtain ⟨q0, c1, c2, c3, qb, d1, d2, d3, q4, q5, q6, rfl⟩ : ∃ q0 c1 c2 c3 qb d1 d2 d3 q4 q5 q6, v1 = .agg #[.int .i64 q0, .slice c1 c2 c3, .bool qb, .slice d1 d2 d3, .int .i64 q4, .int .i64 q5, .int .i64 q6] := by
    obtain ⟨s1, n, s3, r1, rn, r3, e⟩ := hs1.shape
    exact ⟨_, _, _, _, _, _, _, _, _, _, _, e⟩
  obtain ⟨ba, bn, bc, rfl⟩ : ∃ a n c, vb = .slice a n c := by
    obtain ⟨a, c, e, _⟩ := hvb.1.form
    exact ⟨_, _, _, e⟩
  have HVB1 := Lib.hid hvb
  clear hvb HRF
  have HX1 := Lib.hid ((hb1.block _ (lt_of_block HX.out)).trans HX.out)
  have HA1 := Lib.hid ((hb1.block _ (lt_of_block HA.out)).trans HA.out)
  have HR1 := Lib.hid ((hb1.block _ (lt_of_block HR.out)).trans HR.out)
  have HK1 := Lib.hid (HK.out.grow hb1)
  have HS1 := Lib.hid hs1
  have HFR1 : Hid (Fr k.F w w1) := Lib.hid (HFR.out.trans' (Fr.of_below hb1 k.F))
  clear hb1 hs1 HX HA HR HK HS HFR
  clear x0 x1 x2 x3 x4 x5 x6 y0 y1 y2 hlX hlA
  have n2 := cells_cell (o := 2) HA1.out rfl
  have hlN := lt_of_block HA1.out
  go_wp2_with (go_at_call 23; fail)
  clear n2 hlN
  generalize hV0 : World.alloc _ _ = V0
  have hb2 : Below w1.heap.size w1 V0 := by rw [← hV0]; exact below_alloc _ _
  have hy0 : V0.heap[w1.heap.size]? = some (.cells #[.int .i64 q0, .slice c1 c2 c3, .bool qb, .slice d1 d2 d3, .int .i64 q4, .int .i64 q5, .int .i64 q6] 31 (0, 0)) := by rw [← hV0]; exact heap_alloc_new _ _
  have HX2 := Lib.hid ((hb2.block _ (lt_of_block HX1.out)).trans HX1.out)
  have HA2 := Lib.hid ((hb2.block _ (lt_of_block HA1.out)).trans HA1.out)
  have HR2 := Lib.hid ((hb2.block _ (lt_of_block HR1.out)).trans HR1.out)
  have HK2 := Lib.hid (HK1.out.grow hb2)
  have HS2 := Lib.hid (HS1.out.grown hb2)
  have HFR2 : Hid (Fr k.F w V0) := Lib.hid (HFR1.out.trans' (Fr.of_below hb2 k.F))
  have HY2 := Lib.hid hy0
  have HWW : Hid (w.heap.size + 1 + 1 < w1.heap.size) := Lib.hid (lt_of_block HR1.out)
  have HVB2 := Lib.hid (HVB1.out.grown hb2)
  clear HVB1 hV0 hb2 hy0 HX1 HA1 HR1 HK1 HS1 HFR1
  have HSB : Hid (SvP (fun g => (g ∉ k.F ∧ g ≠ w.heap.size + 1 + 1) ∧ g < V0.heap.size) V0 (.agg #[.int .i64 q0, .slice c1 c2 c3, .bool qb, .slice d1 d2 d3, .int .i64 q4, .int .i64 q5, .int .i64 q6]) y.rw) := Lib.hid HS2.out.bound
  have HLT : Hid (m < V0.heap.size ∧ ∀ i ∈ k.A, i < V0.heap.size) := Lib.hid HK2.out.at'.lt
  have HNW : Hid (∀ i ∈ m :: k.A, w0.heap.size ≤ i) := Lib.hid HK2.out.new
  have HYL : Hid (w1.heap.size < V0.heap.size) := Lib.hid (lt_of_block HY2.out)
  have hst := ks_read HK2.out n yL ye HYE.out
  unfold pt at hst
  refine hst.mono ?_
  rintro e V1 ⟨pa', pn, pc', rfl, hrow, hk, hf⟩
  clear hst
  have hcb := src_str (HVB2.out.fr hf (fun g hg => hg.1)).1
  have hca := src_str (RowV.src hrow)
  have HROW := Lib.hid hrow
  have hrf := (RowV.src hrow).form
  have hpn : pn = yL.length := by
    obtain ⟨a', c', e', _⟩ := hrf
    simp only [Value.slice.injEq] at e'
    rw [List.length_map] at e'
    exact e'.2.1
  have hpc2 : pc' ≤ maxLen ∧ pn ≤ pc' := by
    obtain ⟨a', c', e', h1, h2⟩ := hrf
    simp only [Value.slice.injEq] at e'
    rw [List.length_map] at e' h1
    omega
  have hpnI : (pn : Int) ≤ 9223372036854775807 := by have := hpc2.1; have := hpc2.2; unfold maxLen at *; omega
  have HPN := Lib.hid hpn
  have HPC : Hid (pn ≤ pc') := Lib.hid hpc2.2
  have HV1 : Hid (V0.heap.size ≤ V1.heap.size) := Lib.hid hf.size
  have HSB3 := Lib.hid (HSB.out.fr hf (fun g hg => hg.1.1))
  clear HVB2 hrow hrf hpn hpc2 HSB
  have HX3 := Lib.hid (hf.same HX2.out (fun hi => by have := HFL.out _ hi; omega))
  have HA3 := Lib.hid (hf.same HA2.out (fun hi => by have := HFL.out _ hi; omega))
  have HR3 := Lib.hid (hf.same HR2.out (fun hi => by have := HFL.out _ hi; omega))
  have HY3 := Lib.hid (hf.same HY2.out (fun hi => by have := HFL.out _ hi; have := HWW.out; omega))
  have HS3 := Lib.hid (HS2.out.fr hf (fun g hg => hg.1))
  have HK3 := Lib.hid hk
  have HFR3 : Hid (Fr k.F w V1) := Lib.hid (HFR2.out.trans' hf)
  clear hk hf HX2 HA2 HR2 HY2 HS2 HK2 HFR2
  have hqq : (strB yL).toList == (strB yL).toList := by simp
  generalize strB yL = sL at *
  go_wp2_with fail
  clear hca hcb hqq
  go_loopw [30] (fun i wr => ∃ (q : Nat) (L' : List UInt8), q ≤ pn ∧ i = .int .i64 (q : Nat) ∧ Hid (L'.length = pn) ∧ Hid (RowB wr V0.heap.size (.slice pa' pn pc') L') ∧ Hid (Fr (Value.slice pa' pn pc').ownBlock.toList V1 wr)) (fun i _ => pn - (intOf i).toNat)
  case atStart => exact ⟨0, yL, Nat.zero_le _, rfl, Lib.hid HPN.out.symm, HROW, Lib.hid (Fr.refl _ _)⟩
  case round =>
    obtain ⟨q, L', hkl, rfl, HLL, HRO, HFO⟩ := hrel
    by_cases hlt : q < pn
    · have hkL : q < L'.length := by rw [HLL.out]; exact hlt
      obtain ⟨g, rfl, hgb, hgl, -, hnc, hcm, hcell, hfz, hset⟩ := row_byte HRO.out q hkL
      have hnc2 : (pn : Int) ≤ (pc' : Int) := by omega
      have hkl2 : (q : Int) < (pn : Int) := by omega
      have hz := (L'[q]).toNat_lt
      have hfrs : ∀ z : Int, Fr (Value.slice (some ⟨g, 0, none⟩) pn pc').ownBlock.toList V1 (wr.setCell ⟨g, q, none⟩ (.int .u8 z)) := fun z => HFO.out.trans' (by
        have := fr_setCell wr ⟨g, q, none⟩ (.int .u8 z)
        simpa [Value.ownBlock] using this)
      have HFS := Lib.hid hfrs
      have HSET := Lib.hid hset
      have hLen : ∀ z, Hid ((L'.set q z).length = pn) := fun z => Lib.hid (by rw [List.length_set]; exact HLL.out)
      generalize (L'[q]).toNat = z at *
      clear hfrs hset hgb
      by_cases h255 : z = 255
      · subst h255
        go_wp2_with fail
        go_roundw
        case rel => exact ⟨q + 1, L'.set q (UInt8.ofNat (0 : Int).toNat), by omega, by go_num, hLen _, Lib.hid (HSET.out 0 (by omega) (by omega)), Lib.hid (HFS.out 0)⟩
        case measure => simp [intOf]; omega
      · have hz2 : (z : Int) ≤ 254 := by omega
        go_wp2_with fail
        go_roundw
        case rel => exact ⟨q + 1, L'.set q (UInt8.ofNat ((z : Int) + 1).toNat), by omega, by go_num, hLen _, Lib.hid (HSET.out ((z : Int) + 1) (by omega) (by omega)), Lib.hid (HFS.out ((z : Int) + 1))⟩
        case measure => simp [intOf]; omega
    · obtain rfl : q = pn := by omega
      have hown : ∀ g, g ∈ (Value.slice pa' q pc').ownBlock.toList → V0.heap.size ≤ g := fun g hg => (HRO.out.lt g (by simpa using hg)).1
      have hfr := HFO.out
      have HY4 := Lib.hid (hfr.same HY3.out (fun hg => by have := hown _ hg; have := HYL.out; omega))
      have HX4 := Lib.hid (hfr.same HX3.out (fun hg => by have := hown _ hg; have := HYL.out; have := HWW.out; omega))
      have HA4 := Lib.hid (hfr.same HA3.out (fun hg => by have := hown _ hg; have := HYL.out; have := HWW.out; omega))
      have HR4 := Lib.hid (hfr.same HR3.out (fun hg => by have := hown _ hg; have := HYL.out; have := HWW.out; omega))
      have HK4 : Hid (KS w0 wr m k y) := Lib.hid ⟨HK3.out.at'.fr hfr (fun hg => by have := hown _ hg; have := HLT.out.1; omega) (fun i hi hg => by have := hown _ hg; have := HLT.out.2 i hi; omega), HNW.out, HK3.out.be.trans (hfr.below (fun g hg => by have := hown _ hg; have := HYL.out; have := HWW.out; have := HW0.out; omega) HK3.out.be.size)⟩
      have HS4 : Hid (SvP (fun g => g ∉ k.F ∧ g ≠ w.heap.size + 1 + 1) wr (.agg #[.int .i64 q0, .slice c1 c2 c3, .bool qb, .slice d1 d2 d3, .int .i64 q4, .int .i64 q5, .int .i64 q6]) y.rw) := Lib.hid ((HSB3.out.fr hfr (fun g hg hm => by have := hown _ hm; have := hg.2; omega)).weak (fun g hg => hg.1))
      have HFR4 : Hid (Fr k.F w wr) := Lib.hid (HFR3.out.trans hfr (fun g hg => .inr (by have := hown _ hg; have := HYL.out; have := HWW.out; omega)))
      clear hown hfr HY3 HX3 HA3 HR3 HK3 HS3 HSB3 HFR3
      go_wp2_with fail
      refine wp_region_mix (fun W' => W'.heap[w1.heap.size]? = some (.cells #[.int .i64 q0, .slice c1 c2 c3, .bool qb, .slice d1 d2 d3, .int .i64 q4, .int .i64 q5, .int .i64 q6] 31 (0, 0))) 5 [(true, 0), (true, 1), (true, 2), (true, 3), (false, 4)] (by kernel_rfl) (by kernel_rfl) (fun _ _ _ d _ h => by cases d <;> exact h) ?_
      have HD : Hid (Below wr.heap.size wr wr.drew) := Lib.hid ((Grn.refl wr).drew 1).below
      have HQ : Hid (wr.drew.heap[w1.heap.size]? = some (.cells #[.int .i64 q0, .slice c1 c2 c3, .bool qb, .slice d1 d2 d3, .int .i64 q4, .int .i64 q5, .int .i64 q6] 31 (0, 0))) := Lib.hid ((HD.out.block _ (lt_of_block HY4.out)).trans HY4.out)
      have HT := Lib.hid ((HD.out.block _ (lt_of_block HR4.out)).trans HR4.out)
      have HAT := Lib.hid ((HD.out.block _ (lt_of_block HA4.out)).trans HA4.out)
      have HKK := Lib.hid (HK4.out.grow HD.out)
      have HSS := Lib.hid (HS4.out.grown HD.out)
      have HFF : Hid (Fr k.F w wr.drew) := Lib.hid (HFR4.out.trans' (Fr.of_below HD.out k.F))
      clear HX4 HA4 HR4 HY4 HS4 HK4 HFR4
      simp only [List.map_cons, List.map_nil, List.getD_cons_zero, List.getD_cons_succ, List.drop_succ_cons, List.drop_zero]
      generalize wr.drew = V at *
      refine mix_move (.tmp 0) (.pointer (some ⟨m, 0, none⟩)) rfl HQ.out rfl rfl ?_
      simp only [Act.put, List.setIfInBounds_toArray, List.set_cons_zero, List.set_cons_succ]
      refine mix_take (.agg #[.int .i64 q0, .slice c1 c2 c3, .bool qb, .slice d1 d2 d3, .int .i64 q4, .int .i64 q5, .int .i64 q6]) HQ.out rfl (fun W' hS => by 
        have l0 := cells_cell (o := 0) hS rfl
        have l1 := cells_cell (o := 1) hS rfl
        have l2 := cells_cell (o := 2) hS rfl
        have l3 := cells_cell (o := 3) hS rfl
        have l4 := cells_cell (o := 4) hS rfl
        have l5 := cells_cell (o := 5) hS rfl
        have l6 := cells_cell (o := 6) hS rfl
        go_simp) ?_
      simp only [Act.put, List.setIfInBounds_toArray, List.set_cons_zero, List.set_cons_succ]
      refine mix_move (.tmp 29) (.bool true) rfl HQ.out rfl rfl ?_
      simp only [Act.put, List.setIfInBounds_toArray, List.set_cons_zero, List.set_cons_succ]
      refine mix_take (.pointer (some ⟨m, 0, none⟩)) HQ.out rfl (fun W' hS => by go_simp) ?_
      simp only [Act.put, List.setIfInBounds_toArray, List.set_cons_zero, List.set_cons_succ]
      refine mix_step rfl (fun K1 hK => ?_)
      have dd0 := cells_cell (o := 0) HT.out rfl
      have dd1 := cells_cell (o := 1) HT.out rfl
      have dd2 := cells_cell (o := 2) HT.out rfl
      have dd3 := cells_cell (o := 3) HT.out rfl
      have dd4 := cells_cell (o := 4) HT.out rfl
      have dd5 := cells_cell (o := 5) HT.out rfl
      have dd6 := cells_cell (o := 6) HT.out rfl
      have ff0 := cells_free HT.out 0
      have ff1 := cells_free HT.out 1
      have ff2 := cells_free HT.out 2
      have ff3 := cells_free HT.out 3
      have ff4 := cells_free HT.out 4
      have ff5 := cells_free HT.out 5
      have ff6 := cells_free HT.out 6
      have hlt := lt_of_block HT.out
      go_simp
      generalize hWF : World.setCell _ _ _ = WF
      have hff : Fr [w.heap.size + 1 + 1] V WF := by rw [← hWF]; exact seven_fr V _ _ _ _ _ _ _ _
      have ht : WF.heap[w.heap.size + 1 + 1]? = some (.cells #[.int .i64 q0, .slice c1 c2 c3, .bool qb, .slice d1 d2 d3, .int .i64 q4, .int .i64 q5, .int .i64 q6] 31 (0, 0)) := by rw [← hWF]; exact seven_cells HT.out _ _ _ _ _ _ _
      have HS8 : Hid (WF.heap[w1.heap.size]? = some (.cells #[.int .i64 q0, .slice c1 c2 c3, .bool qb, .slice d1 d2 d3, .int .i64 q4, .int .i64 q5, .int .i64 q6] 31 (0, 0))) := Lib.hid (hff.same HQ.out (by have := HWW.out; simp; omega))
      have HKF := Lib.hid (HKK.out.box HT.out hff (by have := HW0.out; omega))
      have HSF := Lib.hid ((HSS.out.fr hff (fun g hg => by have := hg.2; simp only [List.mem_singleton]; omega)).weak (fun g hg => hg.1))
      have HFE : Hid (Fr k.F w WF) := Lib.hid (HFF.out.trans hff (fun q hq => .inr (by simp at hq; omega)))
      clear hWF HT HKK HSS HFF hlt dd0 ff0 dd1 ff1 dd2 ff2 dd3 ff3 dd4 ff4 dd5 ff5 dd6 ff6
      refine hK _ _ HS8.out ?_
      clear hK HQ
      refine mix_nil ?_
      go_wp2_with fail
      have t0 := cells_cell (o := 0) ht rfl
      have t1 := cells_cell (o := 1) ht rfl
      have t2 := cells_cell (o := 2) ht rfl
      have t3 := cells_cell (o := 3) ht rfl
      have t4 := cells_cell (o := 4) ht rfl
      have t5 := cells_cell (o := 5) ht rfl
      have t6 := cells_cell (o := 6) ht rfl
      refine bodyPost_ret (v := .tuple #[.pointer (some ⟨m, 0, none⟩), (.agg #[.int .i64 q0, .slice c1 c2 c3, .bool qb, .slice d1 d2 d3, .int .i64 q4, .int .i64 q5, .int .i64 q6]), .bool true]) (by simp [results, Try.results12, go_sem, t0, t1, t2, t3, t4, t5, t6]) rfl ?_
      exact ⟨m, k, y, _, rfl, HKF.out, HSF.out, HFE.out⟩
end Go.Proofs.Yteimjkmjofaieaa
