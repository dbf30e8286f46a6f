/- StreamPlays. -/
import Derived.Test.YteimjkmjofaieaaYIs
import Derived.Test.YteimjkmjofaieaaYActs
import Derived.Test.YteimjkmjofaieaaYKn
import Derived.Test.YteimjkmjofaieaaGFlags
namespace Go.Proofs.Yteimjkmjofaieaa
open Go.RowKit Go.Sort
set_option linter.unusedVariables false
set_option linter.unusedSimpArgs false
set_option maxRecDepth 100000

theorem SrcP.off {P : Nat → Prop} {W : World} {v : Value} {L : List UInt8} {b : Nat} {z0 z4 z5 z6 : Int} {a1 b1 : Option Addr} {a2 a3 b2 b3 : Nat} {zb : Bool} {t : TypeId} (h : SrcP P W v L)
    (hb : W.heap[b]? = some (.cells #[.int .i64 z0, .slice a1 a2 a3, .bool zb, .slice b1 b2 b3, .int .i64 z4, .int .i64 z5, .int .i64 z6] t (0, 0))) : SrcP (fun g => P g ∧ g ≠ b) W v L := by
  refine ⟨h.1, fun h0 a n c e => ⟨h.2 h0 a n c e, fun hab => ?_⟩⟩
  rcases h.1 with h1 | ⟨ad, c', h1, h2, h3, h4, h5⟩
  · simp at h1; rw [h1.2] at h0; exact absurd h0 (by simp)
  · rw [h1] at e
    simp only [Value.slice.injEq, Option.some.injEq] at e
    obtain ⟨rfl, -, -⟩ := e
    obtain ⟨ab, ao, asp⟩ := ad
    obtain rfl : asp = none := h5 (by simpa using h0)
    obtain rfl : ab = b := hab
    rcases L with _ | ⟨x, L⟩
    · simp at h0
    · have := h4 0 (encB x) (by simp)
      rw [Go.WideShapes.add_plain, Nat.add_zero] at this
      unfold encB at this
      match ao, this with
      | 0, this => rw [cells_cell (o := 0) hb rfl] at this; simp at this
      | 1, this => rw [cells_cell (o := 1) hb rfl] at this; simp at this
      | 2, this => rw [cells_cell (o := 2) hb rfl] at this; simp at this
      | 3, this => rw [cells_cell (o := 3) hb rfl] at this; simp at this
      | 4, this => rw [cells_cell (o := 4) hb rfl] at this; simp at this
      | 5, this => rw [cells_cell (o := 5) hb rfl] at this; simp at this
      | 6, this => rw [cells_cell (o := 6) hb rfl] at this; simp at this
      | o + 7, this => simp [World.cell?, hb] at this
theorem SvP.off {P : Nat → Prop} {W : World} {v : Value} {r : Rw} {b : Nat} {z0 z4 z5 z6 : Int} {a1 b1 : Option Addr} {a2 a3 b2 b3 : Nat} {zb : Bool} {t : TypeId} (h : SvP P W v r)
    (hb : W.heap[b]? = some (.cells #[.int .i64 z0, .slice a1 a2 a3, .bool zb, .slice b1 b2 b3, .int .i64 z4, .int .i64 z5, .int .i64 z6] t (0, 0))) : SvP (fun g => P g ∧ g ≠ b) W v r := by
  obtain ⟨vS, vR, h1, h2, h3⟩ := h
  exact ⟨vS, vR, h1, h2.off hb, h3.off hb⟩

def RI (w0 W : World) (m : Nat) (k : Sb) (x : St) (b : Nat) : Prop := KS w0 W m k x ∧ ∃ (z0 : Int) (a1 : Option Addr) (a2 a3 : Nat) (zb : Bool) (b1 : Option Addr) (b2 b3 : Nat) (z4 z5 z6 : Int), W.heap[b]? = some (.cells #[.int .i64 z0, .slice a1 a2 a3, .bool zb, .slice b1 b2 b3, .int .i64 z4, .int .i64 z5, .int .i64 z6] 31 (0, 0)) ∧ SvP (fun g => g ∉ k.F) W (.agg #[.int .i64 z0, .slice a1 a2 a3, .bool zb, .slice b1 b2 b3, .int .i64 z4, .int .i64 z5, .int .i64 z6]) x.rw
theorem streamPlays_walk {w : World} {v : Value} {l : List A14} (c : Int) (h : Src14 w v l) :
    Calls Try.prog 3 #[.int .i64 c, v] w fun r w' => r = .returned (.bool true) ∧ Below w.heap.size w w' := by
  have hfew := few_any h
  have hsrc := h
  obtain ⟨a, cc, rfl, hlm, hcase⟩ := h
  obtain ⟨N, hN⟩ : ∃ N, N = l.length := ⟨_, rfl⟩
  have HNE := Lib.hid hN
  have HC := Lib.hid hcase
  have hN2 : (N : Int) ≤ 9223372036854775807 := by unfold maxLen at hlm; omega
  rw [← hN] at hfew ⊢
  have HFEW := Lib.hid hfew
  clear hcase hlm hN hfew hsrc
  go_enter Try.func3, Try.ntmps3
  go_wp2_with (go_at_call 8; fail)
  refine HFEW.out.mono ?_
  rintro e w' ⟨hcs, hw⟩
  subst hw
  rcases hcs with ⟨rfl, hl20, hall⟩ | rfl
  · have HL := Lib.hid (And.intro hl20 hall)
    have hN20 : (N : Int) ≤ 20 := by omega
    clear hl20 hall HFEW
    by_cases hc : c < 0 ∨ 4096 < c
    · have hs := stNew_bad w' c hc
      have hr := Lib.hid (fun W => sfNew_bad W c hc)
      have HS := Lib.hid hs
      clear hs hc
      go_wp2_with (go_at_call 10; fail)
      refine HS.out.mono ?_
      rintro e w1 ⟨rfl, hb1⟩
      have HB1 := Lib.hid hb1
      clear hb1
      go_wp2_with (go_at_call 11; fail)
      refine (hr.out w1).mono ?_
      rintro e w2 ⟨v2, rfl, ⟨s1, s2, s3, r1, r2, r3, z0, z4, z5, z6, b, rfl⟩, hb2⟩
      have HB2 := Lib.hid (HB1.out.trans (hb2.mono HB1.out.size))
      clear hb2
      go_wp2_with (go_at_call 9; fail)
      generalize hV0 : World.alloc _ _ = V0
      have HB3 := Lib.hid (HB2.out.trans ((show Below w2.heap.size w2 V0 by rw [← hV0]; exact below_alloc _ _).mono HB2.out.size))
      clear hV0
      refine (known_any V0).mono ?_
      rintro e w3 ⟨rfl, hb3⟩
      have HB4 := Lib.hid (HB3.out.trans (hb3.mono HB3.out.size))
      clear hb3
      go_wp2_with fail
      go_ret
      exact ⟨rfl, HB4.out⟩
    · obtain ⟨c', rfl⟩ : ∃ c' : Nat, c = (c' : Nat) := ⟨c.toNat, by omega⟩
      have hc4 : c' ≤ 4096 := by omega
      have hc5 : (c' : Int) ≤ 4096 := by omega
      have HS := Lib.hid (ks_new (Below.refl w'.heap.size w') hc4)
      have HR := Lib.hid (fun W => sfNew_ok (fun g => W.heap.size ≤ g) W hc4)
      have HLW : Hid (w'.heap.size ≤ w'.heap.size) := Lib.hid (Nat.le_refl _)
      clear hc hc4
      go_wp2_with (go_at_call 10; fail)
      have hst := HS.out
      unfold pt at hst
      refine hst.mono ?_
      rintro e w1 ⟨m0, k0, rfl, hk, hnew, hb1⟩
      have HK1 := Lib.hid hk
      have HB1 := Lib.hid hb1
      clear hst hk hnew hb1 HS
      go_wp2_with (go_at_call 11; fail)
      refine (HR.out w1).mono ?_
      rintro e w2 ⟨v2, rfl, hs2, hb2⟩
      obtain ⟨o0, p1, p2, p3, ob, r1, r2, r3, o4, o5, o6, rfl⟩ : ∃ o0 p1 p2 p3 ob r1 r2 r3 o4 o5 o6, v2 = .agg #[.int .i64 o0, .slice p1 p2 p3, .bool ob, .slice r1 r2 r3, .int .i64 o4, .int .i64 o5, .int .i64 o6] := by
        obtain ⟨s1, n, s3, r1, rn, r3, e⟩ := hs2.shape
        exact ⟨_, _, _, _, _, _, _, _, _, _, _, e⟩
      have HK2 := Lib.hid (HK1.out.grow hb2)
      have HS2 : Hid (SvP (fun g => g ∉ k0.F) w2 (.agg #[.int .i64 o0, .slice p1 p2 p3, .bool ob, .slice r1 r2 r3, .int .i64 o4, .int .i64 o5, .int .i64 o6]) (St.new c').rw) := Lib.hid (hs2.weak (fun g hg hi => by have := HK1.out.at'.F_lt g hi; omega))
      clear hs2 hb2 HK1 HB1 HR
      go_wp2_with fail
      generalize hV0 : World.alloc _ _ = V0
      have hb3 : Below w2.heap.size w2 V0 := by rw [← hV0]; exact below_alloc _ _
      have hy0 : V0.heap[w2.heap.size]? = some (.cells #[.int .i64 o0, .slice p1 p2 p3, .bool ob, .slice r1 r2 r3, .int .i64 o4, .int .i64 o5, .int .i64 o6] 31 (0, 0)) := by rw [← hV0]; exact heap_alloc_new _ _
      have HRI : Hid (RI w' V0 m0 k0 (St.new c') w2.heap.size) := Lib.hid ⟨HK2.out.grow hb3, o0, p1, p2, p3, ob, r1, r2, r3, o4, o5, o6, hy0, HS2.out.grown hb3⟩
      obtain ⟨B, hB⟩ : ∃ B, B = w2.heap.size := ⟨_, rfl⟩
      rw [← hB] at HRI ⊢
      have HBB : Hid (w'.heap.size ≤ B) := Lib.hid (by rw [hB]; exact HK2.out.be.size)
      clear hV0 hb3 hy0 HK2 HS2 hB
      go_loopw [5, 9] (fun xp i wr => ∃ (j m : Nat) (k : Sb) (x : St), j ≤ N ∧ xp = .pointer (some ⟨m, 0, none⟩) ∧ i = .int .i64 (j : Nat) ∧ Hid (RI w' wr m k x B)) (fun _ i _ => N - (intOf i).toNat)
      case atStart => exact ⟨0, m0, k0, _, Nat.zero_le _, rfl, rfl, HRI⟩
      case round =>
        clear HRI
        obtain ⟨j, m, k, x, hj, rfl, rfl, HRI⟩ := hrel
        by_cases hlt : j < N
        · have hltP : j < l.length := by rw [← HNE.out]; exact hlt
          have hj2 : (j : Int) < (N : Int) := by omega
          obtain ⟨hk, z0, a1, a2, a3, zb, b1, b2, b3, z4, z5, z6, hz, hs⟩ := HRI.out
          have HK := Lib.hid hk
          have HZ := Lib.hid hz
          have HS := Lib.hid hs
          clear hk hz hs HRI
          obtain ⟨b, off, rfl, hbl, hac⟩ := HC.out.resolve_left (by omega)
          obtain ⟨pa, pl, pc, c0, c1, c2, hp, hpl, hB⟩ := hac j hltP
          have HP := Lib.hid hp
          have HA := Lib.hid (And.intro c0 (And.intro c1 c2))
          have HSM := Lib.hid (HL.out.2 l[j] (List.getElem_mem _))
          have HBL := Lib.hid hbl
          generalize l[j].what = aw at *
          generalize l[j].n = an at *
          generalize l[j].parts = Ps at *
          clear hac c0 c1 c2 hp hpl hB hbl
          go_wp2_with fail
          have HFB : Hid (B ∉ k.F) := Lib.hid (HK.out.at'.not HZ.out (by decide) (by decide) (by decide) (by decide))
          have HFA : Hid (b ∉ k.F) := Lib.hid (fun hi => by have := HK.out.inF b hi; have := HBL.out; omega)
          have HAW : Hid (wr.cell? ⟨b, off + j * 3, none⟩ = some (.int .i64 aw) ∧ wr.cell? ⟨b, off + j * 3 + 1, none⟩ = some (.slice pa pl pc) ∧ wr.cell? ⟨b, off + j * 3 + 2, none⟩ = some (.int .i64 an)) := Lib.hid ⟨below_cells HK.out.be _ _ HA.out.1, below_cells HK.out.be _ _ HA.out.2.1, below_cells HK.out.be _ _ HA.out.2.2⟩
          have HFL : Hid (∀ i ∈ k.F, i < wr.heap.size) := Lib.hid HK.out.at'.F_lt
          have HDD : Hid (Fr k.F wr wr.drew) := Lib.hid (Fr.of_below (Below.refl _ _).drew k.F)
          have hz := HZ.out
          have haw := HAW.out
          have hfb := HFB.out
          have hfa := HFA.out
          refine wp_region_flags (fun W' => Fr k.F wr W') 14 [(true, 0), (true, 1), (true, 2), (true, 3), (true, 4), (true, 5)] [6, 7, 8, 9, 10, 11, 12, 13] [[], [0], [0, 1], [0, 1], [0, 1], [], [0, 1, 2, 5], [0, 1, 2, 3, 5, 6]]
            (fun bs aa V => ∃ (Z53 Z46 Z54 Z55 Z56 Z11 Z10 : Value) (m' : Nat) (k' : Sb) (y : St) (q0 : Int) (c1 : Option Addr) (c2 c3 : Nat) (qb : Bool) (d1 : Option Addr) (d2 d3 : Nat) (q4 q5 q6 : Int), aa = { tmps := #[.int .i64 (c' : Nat), .slice (some ⟨b, off, none⟩) N cc, undef, undef, u4, .pointer (some ⟨m, 0, none⟩), .int .i64 0, .pointer (some ⟨B, 0, none⟩), .int .i64 0, .int .i64 (j : Nat), Z10, Z11, u12, .slice (some ⟨b, off, none⟩) N cc, .bool true, .bool false, undef, .tuple #[.pointer (some ⟨m0, 0, none⟩), .int .i64 0], .int .i64 (c' : Nat), .tuple #[.pointer (some ⟨m0, 0, none⟩), .int .i64 0], .pointer (some ⟨m0, 0, none⟩), .int .i64 0, .tuple #[(.agg #[.int .i64 o0, .slice p1 p2 p3, .bool ob, .slice r1 r2 r3, .int .i64 o4, .int .i64 o5, .int .i64 o6]), .int .i64 0], .int .i64 (c' : Nat), .tuple #[(.agg #[.int .i64 o0, .slice p1 p2 p3, .bool ob, .slice r1 r2 r3, .int .i64 o4, .int .i64 o5, .int .i64 o6]), .int .i64 0], .agg #[.int .i64 o0, .slice p1 p2 p3, .bool ob, .slice r1 r2 r3, .int .i64 o4, .int .i64 o5, .int .i64 o6], .int .i64 0, .int .i64 0, .int .i64 0, .bool false, .bool false, .pointer (some ⟨m0, 0, none⟩), .bool true, .int .i64 0, .bool true, .bool false, .bool false, .int .i64 0, .bool false, undef, .int .i64 (j : Nat), .slice (some ⟨b, off, none⟩) N cc, .int .i64 (N : Nat), .bool true, u44, u45, Z46, .pointer (some ⟨m, 0, none⟩), .agg #[.int .i64 z0, .slice a1 a2 a3, .bool zb, .slice b1 b2 b3, .int .i64 z4, .int .i64 z5, .int .i64 z6], .slice (some ⟨b, off, none⟩) N cc, .int .i64 (j : Nat), .pointer (some ⟨b, off + j * 3, none⟩), .agg #[.int .i64 aw, .slice pa pl pc, .int .i64 an], Z53, Z54, Z55, Z56, u57, u58, u59, u60, u61, u62, u63, u64, u65, u66, u67, u68, u69, u70, undef], defers := [] } ∧ Fr k.F wr V ∧
              (bs.getD 0 false = false → KS w' V m k x ∧ SvP (fun g => g ∉ k.F) V (.agg #[.int .i64 z0, .slice a1 a2 a3, .bool zb, .slice b1 b2 b3, .int .i64 z4, .int .i64 z5, .int .i64 z6]) x.rw) ∧
              (bs.getD 0 false = true → Z53 = (.tuple #[.pointer (some ⟨m', 0, none⟩), (.agg #[.int .i64 q0, .slice c1 c2 c3, .bool qb, .slice d1 d2 d3, .int .i64 q4, .int .i64 q5, .int .i64 q6]), .bool true]) ∧ KS w' V m' k' y ∧ SvP (fun g => g ∉ k'.F ∧ (bs.getD 5 false = true → Z11 ≠ .pointer (some ⟨g, 0, none⟩))) V (.agg #[.int .i64 q0, .slice c1 c2 c3, .bool qb, .slice d1 d2 d3, .int .i64 q4, .int .i64 q5, .int .i64 q6]) y.rw) ∧ (bs.getD 1 false = true → Z46 = (.tuple #[.pointer (some ⟨m', 0, none⟩), (.agg #[.int .i64 q0, .slice c1 c2 c3, .bool qb, .slice d1 d2 d3, .int .i64 q4, .int .i64 q5, .int .i64 q6]), .bool true])) ∧ (bs.getD 2 false = true → Z54 = .pointer (some ⟨m', 0, none⟩)) ∧ (bs.getD 3 false = true → Z55 = (.agg #[.int .i64 q0, .slice c1 c2 c3, .bool qb, .slice d1 d2 d3, .int .i64 q4, .int .i64 q5, .int .i64 q6])) ∧ (bs.getD 4 false = true → Z56 = .bool true) ∧
              (bs.getD 5 false = false → Z11 = u11) ∧
              (bs.getD 5 false = true → ∃ kk, Z11 = .pointer (some ⟨kk, 0, none⟩) ∧ wr.heap.size ≤ kk ∧ V.heap[kk]? = some (.cells (if bs.getD 7 false = true then #[.int .i64 q0, .slice c1 c2 c3, .bool qb, .slice d1 d2 d3, .int .i64 q4, .int .i64 q5, .int .i64 q6] else #[.int .i64 0, .slice none 0 0, .bool false, .slice none 0 0, .int .i64 0, .int .i64 0, .int .i64 0]) 31 (0, 0))) ∧ (bs.getD 6 false = true → Z10 = .pointer (some ⟨m', 0, none⟩)))
            (by kernel_rfl) (by kernel_rfl) (by kernel_rfl) (by kernel_rfl) (by kernel_rfl) (fun _ _ _ d _ h => by cases d <;> exact h) ?hstep ?hend ?hbegin
          case hbegin =>
            simp only [List.map_cons, List.map_nil, List.getD_cons_zero, List.getD_cons_succ, List.drop_succ_cons, List.drop_zero]
            refine mix_move (.tmp 5) (.pointer (some ⟨m, 0, none⟩)) rfl HDD.out rfl rfl ?_
            simp only [Act.put, List.setIfInBounds_toArray, List.set_cons_zero, List.set_cons_succ]
            refine mix_take (.agg #[.int .i64 z0, .slice a1 a2 a3, .bool zb, .slice b1 b2 b3, .int .i64 z4, .int .i64 z5, .int .i64 z6]) HDD.out rfl (fun W' hS => by 
              have e1 := hS.same hz hfb
              have l0 := cells_cell (o := 0) e1 rfl
              have l1 := cells_cell (o := 1) e1 rfl
              have l2 := cells_cell (o := 2) e1 rfl
              have l3 := cells_cell (o := 3) e1 rfl
              have l4 := cells_cell (o := 4) e1 rfl
              have l5 := cells_cell (o := 5) e1 rfl
              have l6 := cells_cell (o := 6) e1 rfl
              go_simp) ?_
            simp only [Act.put, List.setIfInBounds_toArray, List.set_cons_zero, List.set_cons_succ]
            refine mix_move (.tmp 1) (.slice (some ⟨b, off, none⟩) N cc) rfl HDD.out rfl rfl ?_
            simp only [Act.put, List.setIfInBounds_toArray, List.set_cons_zero, List.set_cons_succ]
            refine mix_move (.tmp 9) (.int .i64 (j : Nat)) rfl HDD.out rfl rfl ?_
            simp only [Act.put, List.setIfInBounds_toArray, List.set_cons_zero, List.set_cons_succ]
            refine mix_take (.pointer (some ⟨b, off + j * 3, none⟩)) HDD.out rfl (fun W' hS => by go_simp) ?_
            simp only [Act.put, List.setIfInBounds_toArray, List.set_cons_zero, List.set_cons_succ]
            refine mix_take (.agg #[.int .i64 aw, .slice pa pl pc, .int .i64 an]) HDD.out rfl (fun W' hS => by 
              have l0 := hS.cell haw.1 hfa
              have l1 := hS.cell haw.2.1 hfa
              have l2 := hS.cell haw.2.2 hfa
              go_simp) ?_
            simp only [Act.put, List.setIfInBounds_toArray, List.set_cons_zero, List.set_cons_succ]
            refine mix_nil ?_
            exact ⟨u53, u46, u54, u55, u56, u11, u10, m, k, x, 0, none, 0, 0, false, none, 0, 0, 0, 0, 0, rfl, HDD.out, (fun _ => ⟨HK.out.grow (Below.refl _ _).drew, HS.out.grown (Below.refl _ _).drew⟩), (fun h => by cases h), (fun h => by cases h), (fun h => by cases h), (fun h => by cases h), (fun h => by cases h), (fun _ => rfl), (fun h => by cases h), (fun h => by cases h)⟩
          case hstep =>
            intro bs jj a' V hbs hcl hjj hpre hJ
            obtain ⟨Z53, Z46, Z54, Z55, Z56, Z11, Z10, m', k', y, q0, c1, c2, c3, qb, d1, d2, d3, q4, q5, q6, rfl, hb, h00, h0, h1, h2, h3, h4, h5f, h5, h6⟩ := hJ
            obtain ⟨e0, e1, e2, e3, e4, e5, e6, e7, rfl⟩ : ∃ e0 e1 e2 e3 e4 e5 e6 e7, bs = [e0, e1, e2, e3, e4, e5, e6, e7] := by
              match bs, hbs with
              | [e0, e1, e2, e3, e4, e5, e6, e7], _ => exact ⟨e0, e1, e2, e3, e4, e5, e6, e7, rfl⟩
            simp only [List.getD_cons_zero, List.getD_cons_succ] at h00 h0 h1 h2 h3 h4 h5f h5 h6
            have hcl2 : (e1 = true → e0 = true) ∧ (e2 = true → e0 = true) ∧ (e3 = true → e0 = true) ∧ (e4 = true → e0 = true) ∧ (e6 = true → e0 = true ∧ e5 = true) ∧ (e7 = true → e0 = true ∧ e5 = true) := by
              revert hcl; cases e0 <;> cases e1 <;> cases e2 <;> cases e3 <;> cases e4 <;> cases e5 <;> cases e6 <;> cases e7 <;> decide
            clear hcl hbs
            match jj, hjj with
            | 0, hjj =>
              simp at hjj
              subst hjj
              obtain ⟨hk, hs⟩ := h00 rfl
              have hst := step_any hk hs HP.out an aw HSM.out.2 HSM.out.1
              unfold pt StepR at hst
              refine op_step rfl rfl (fun K hK => ?_)
              go_simp
              go_wp2_with (go_at_call 12; fail)
              refine hst.mono ?_
              rintro e w3 ⟨m3, k3, y3, sv3, rfl, hk3, hs3, hf3⟩
              have f1 : ¬ e1 = true := fun h => by have := hcl2.1 h; simp at this
              have f2 : ¬ e2 = true := fun h => by have := hcl2.2.1 h; simp at this
              have f3 : ¬ e3 = true := fun h => by have := hcl2.2.2.1 h; simp at this
              have f4 : ¬ e4 = true := fun h => by have := hcl2.2.2.2.1 h; simp at this
              have f6 : ¬ e6 = true := fun h => by have := (hcl2.2.2.2.2.1 h).1; simp at this
              have f7 : ¬ e7 = true := fun h => by have := (hcl2.2.2.2.2.2 h).1; simp at this
              have h5' : e5 = true → ∃ kk, Z11 = .pointer (some ⟨kk, 0, none⟩) ∧ wr.heap.size ≤ kk ∧ w3.heap[kk]? = some (.cells #[.int .i64 0, .slice none 0 0, .bool false, .slice none 0 0, .int .i64 0, .int .i64 0, .int .i64 0] 31 (0, 0)) := fun h => by
                obtain ⟨kk, e, hk5, hk6⟩ := h5 h
                rw [if_neg f7] at hk6
                exact ⟨kk, e, hk5, hf3.same hk6 (fun hi => by have := HFL.out kk hi; omega)⟩
              have hs4 : SvP (fun g => g ∉ k3.F ∧ (e5 = true → Z11 ≠ .pointer (some ⟨g, 0, none⟩))) w3 sv3 y3.rw := by
                cases h7 : e5 with
                | false =>
                  exact hs3.weak (fun g hg => ⟨hg, fun e => by cases e⟩)
                | true =>
                  obtain ⟨kk, e2, hk5, hk6⟩ := h5' h7
                  exact (hs3.off hk6).weak (fun g hg => ⟨hg.1, fun _ e => by
                    rw [e2] at e
                    simp only [Value.pointer.injEq, Option.some.injEq, Addr.mk.injEq] at e
                    exact hg.2 e.1.symm⟩)
              obtain ⟨g0, g1, g2, g3, gb, g4, g5, g6, g7, g8, g9, rfl⟩ : ∃ g0 g1 g2 g3 gb g4 g5 g6 g7 g8 g9, sv3 = .agg #[.int .i64 g0, .slice g1 g2 g3, .bool gb, .slice g4 g5 g6, .int .i64 g7, .int .i64 g8, .int .i64 g9] := by
                obtain ⟨s1, n, s3, r1, rn, r3, e⟩ := hs4.shape
                exact ⟨_, _, _, _, _, _, _, _, _, _, _, e⟩
              refine hK _ _ ⟨hb.trans' hf3, _, Z46, Z54, Z55, Z56, Z11, Z10, m3, k3, y3, g0, g1, g2, g3, gb, g4, g5, g6, g7, g8, g9, rfl, hb.trans' hf3, (fun h => by cases h), (fun _ => ⟨rfl, hk3, hs4⟩), (fun h => absurd h f1), (fun h => absurd h f2), (fun h => absurd h f3), (fun h => absurd h f4), (fun h => h5f h), (fun h => by
                obtain ⟨kk, e, hk5, hk6⟩ := h5' h
                exact ⟨kk, e, hk5, by show _ = some (Go.Obj.cells (if e7 = true then _ else _) _ _); rw [if_neg f7]; exact hk6⟩), (fun h => absurd h f6)⟩
            | 1, hjj =>
              simp at hjj
              subst hjj
              have hb0 : e0 = true := by simpa using hpre
              obtain ⟨rfl, hk, hs⟩ := h0 hb0
              refine op_step rfl rfl (fun K hK => ?_)
              go_simp
              refine hK _ _ ⟨hb, _, _, Z54, Z55, Z56, Z11, Z10, m', k', y, q0, c1, c2, c3, qb, d1, d2, d3, q4, q5, q6, rfl, hb, (fun h => h00 h), (fun _ => ⟨rfl, hk, hs⟩), (fun _ => rfl), (fun h => h2 h), (fun h => h3 h), (fun h => h4 h), (fun h => h5f h), (fun h => h5 h), (fun h => h6 h)⟩
            | 2, hjj =>
              simp at hjj
              subst hjj
              have hb0 : e0 = true ∧ e1 = true := by simpa using hpre
              obtain ⟨rfl, hk, hs⟩ := h0 hb0.1
              obtain rfl := h1 hb0.2
              refine op_step rfl rfl (fun K hK => ?_)
              go_simp
              refine hK _ _ ⟨hb, _, _, _, Z55, Z56, Z11, Z10, m', k', y, q0, c1, c2, c3, qb, d1, d2, d3, q4, q5, q6, rfl, hb, (fun h => h00 h), (fun _ => ⟨rfl, hk, hs⟩), (fun _ => rfl), (fun _ => rfl), (fun h => h3 h), (fun h => h4 h), (fun h => h5f h), (fun h => h5 h), (fun h => h6 h)⟩
            | 3, hjj =>
              simp at hjj
              subst hjj
              have hb0 : e0 = true ∧ e1 = true := by simpa using hpre
              obtain ⟨rfl, hk, hs⟩ := h0 hb0.1
              obtain rfl := h1 hb0.2
              refine op_step rfl rfl (fun K hK => ?_)
              go_simp
              refine hK _ _ ⟨hb, _, _, Z54, _, Z56, Z11, Z10, m', k', y, q0, c1, c2, c3, qb, d1, d2, d3, q4, q5, q6, rfl, hb, (fun h => h00 h), (fun _ => ⟨rfl, hk, hs⟩), (fun _ => rfl), (fun h => h2 h), (fun _ => rfl), (fun h => h4 h), (fun h => h5f h), (fun h => h5 h), (fun h => h6 h)⟩
            | 4, hjj =>
              simp at hjj
              subst hjj
              have hb0 : e0 = true ∧ e1 = true := by simpa using hpre
              obtain ⟨rfl, hk, hs⟩ := h0 hb0.1
              obtain rfl := h1 hb0.2
              refine op_step rfl rfl (fun K hK => ?_)
              go_simp
              refine hK _ _ ⟨hb, _, _, Z54, Z55, _, Z11, Z10, m', k', y, q0, c1, c2, c3, qb, d1, d2, d3, q4, q5, q6, rfl, hb, (fun h => h00 h), (fun _ => ⟨rfl, hk, hs⟩), (fun _ => rfl), (fun h => h2 h), (fun h => h3 h), (fun _ => rfl), (fun h => h5f h), (fun h => h5 h), (fun h => h6 h)⟩
            | 5, hjj =>
              simp at hjj
              subst hjj
              refine op_step rfl rfl (fun K hK => ?_)
              go_simp
              have hb3 := below_alloc V (.cells #[.int .i64 0, .slice none 0 0, .bool false, .slice none 0 0, .int .i64 0, .int .i64 0, .int .i64 0] 31)
              have hfz : Fr k.F wr (V.alloc (.cells #[.int .i64 0, .slice none 0 0, .bool false, .slice none 0 0, .int .i64 0, .int .i64 0, .int .i64 0] 31)) := hb.trans' (Fr.of_below hb3 k.F)
              have f7 : ¬ e7 = true := fun h => by have := (hcl2.2.2.2.2.2 h).2; simp at this
              have f6 : ¬ e6 = true := fun h => by have := (hcl2.2.2.2.2.1 h).2; simp at this
              refine hK _ _ ⟨hfz, Z53, Z46, Z54, Z55, Z56, _, Z10, m', k', y, q0, c1, c2, c3, qb, d1, d2, d3, q4, q5, q6, rfl, hfz, (fun h => ⟨(h00 h).1.grow hb3, (h00 h).2.grown hb3⟩), (fun h => ⟨(h0 h).1, (h0 h).2.1.grow hb3, (((h0 h).2.2.bound).grown hb3).weak (fun g hg => ⟨hg.1.1, fun _ e => by simp only [Value.pointer.injEq, Option.some.injEq, Addr.mk.injEq] at e; have := hg.2; omega⟩)⟩), (fun h => h1 h), (fun h => h2 h), (fun h => h3 h), (fun h => h4 h), (fun h => by cases h), (fun _ => ⟨_, rfl, hb.size, by
                show _ = some (Go.Obj.cells (if e7 = true then _ else _) _ _)
                rw [if_neg f7]
                exact heap_alloc_new _ _⟩), (fun h => absurd h f6)⟩
            | 6, hjj =>
              simp at hjj
              subst hjj
              have hb0 : e0 = true ∧ e1 = true ∧ e2 = true ∧ e5 = true := by simpa using hpre
              obtain ⟨rfl, hk, hs⟩ := h0 hb0.1
              obtain rfl := h1 hb0.2.1
              obtain rfl := h2 hb0.2.2.1
              refine op_step rfl rfl (fun K hK => ?_)
              go_simp
              refine hK _ _ ⟨hb, _, _, _, Z55, Z56, Z11, _, m', k', y, q0, c1, c2, c3, qb, d1, d2, d3, q4, q5, q6, rfl, hb, (fun h => h00 h), (fun _ => ⟨rfl, hk, hs⟩), (fun _ => rfl), (fun _ => rfl), (fun h => h3 h), (fun h => h4 h), (fun h => h5f h), (fun h => h5 h), (fun _ => rfl)⟩
            | 7, hjj =>
              simp at hjj
              subst hjj
              have hb0 : e0 = true ∧ e1 = true ∧ e2 = true ∧ e3 = true ∧ e5 = true ∧ e6 = true := by simpa using hpre
              obtain ⟨rfl, hk, hs⟩ := h0 hb0.1
              obtain rfl := h1 hb0.2.1
              obtain rfl := h2 hb0.2.2.1
              obtain rfl := h3 hb0.2.2.2.1
              obtain rfl := h6 hb0.2.2.2.2.2
              obtain ⟨kk, rfl, hkk, hk2⟩ := h5 hb0.2.2.2.2.1
              rw [if_neg (by simp)] at hk2
              have gg0 := cells_cell (o := 0) hk2 rfl
              have gz0 := cells_free hk2 0
              have gg1 := cells_cell (o := 1) hk2 rfl
              have gz1 := cells_free hk2 1
              have gg2 := cells_cell (o := 2) hk2 rfl
              have gz2 := cells_free hk2 2
              have gg3 := cells_cell (o := 3) hk2 rfl
              have gz3 := cells_free hk2 3
              have gg4 := cells_cell (o := 4) hk2 rfl
              have gz4 := cells_free hk2 4
              have gg5 := cells_cell (o := 5) hk2 rfl
              have gz5 := cells_free hk2 5
              have gg6 := cells_cell (o := 6) hk2 rfl
              have gz6 := cells_free hk2 6
              have hkl := lt_of_block hk2
              refine op_step rfl rfl (fun K hK => ?_)
              go_simp
              generalize hV1 : World.setCell _ _ _ = V1
              have hff : Fr [kk] V V1 := by rw [← hV1]; exact seven_fr V _ _ _ _ _ _ _ _
              have hy0 : V1.heap[kk]? = some (.cells #[.int .i64 q0, .slice c1 c2 c3, .bool qb, .slice d1 d2 d3, .int .i64 q4, .int .i64 q5, .int .i64 q6] 31 (0, 0)) := by rw [← hV1]; exact seven_cells hk2 _ _ _ _ _ _ _
              have hfz : Fr k.F wr V1 := hb.trans hff (fun q hq => .inr (by simp at hq; omega))
              have hk3 : KS w' V1 m' k' y := hk.box hk2 hff (by have := HK.out.be.size; omega)
              have hs3 := hs.fr hff (fun g hg hm => by simp only [List.mem_singleton] at hm; subst hm; exact hg.2 hb0.2.2.2.2.1 rfl)
              refine hK _ _ ⟨hfz, _, _, _, _, Z56, _, _, m', k', y, q0, c1, c2, c3, qb, d1, d2, d3, q4, q5, q6, rfl, hfz, (fun h => by cases h.symm.trans hb0.1), (fun _ => ⟨rfl, hk3, hs3⟩), (fun _ => rfl), (fun _ => rfl), (fun _ => rfl), (fun h => h4 h), (fun h => by cases h.symm.trans hb0.2.2.2.2.1), (fun _ => ⟨kk, rfl, hkk, by simpa using hy0⟩), (fun _ => rfl)⟩
            | jj + 8, hjj => simp at hjj
          case hend =>
            intro a' U hJ
            obtain ⟨Z53, Z46, Z54, Z55, Z56, Z11, Z10, m', k', y, q0, c1, c2, c3, qb, d1, d2, d3, q4, q5, q6, rfl, hb, -, h0, h1, h2, h3, h4, -, h5, h6⟩ := hJ
            obtain ⟨rfl, hk, hs⟩ := h0 rfl
            obtain rfl := h1 rfl
            obtain rfl := h2 rfl
            obtain rfl := h3 rfl
            obtain rfl := h4 rfl
            obtain rfl := h6 rfl
            obtain ⟨kk, rfl, hkk, hk2⟩ := h5 rfl
            have HY4 : Hid (U.heap[kk]? = some (.cells #[.int .i64 q0, .slice c1 c2 c3, .bool qb, .slice d1 d2 d3, .int .i64 q4, .int .i64 q5, .int .i64 q6] 31 (0, 0))) := Lib.hid (by simpa using hk2)
            have HZ4 := Lib.hid (hb.same HZ.out HFB.out)
            have HK4 := Lib.hid hk
            have HS4 : Hid (SvP (fun g => g ∉ k'.F) U (.agg #[.int .i64 q0, .slice c1 c2 c3, .bool qb, .slice d1 d2 d3, .int .i64 q4, .int .i64 q5, .int .i64 q6]) y.rw) := Lib.hid (hs.weak (fun g hg => hg.1))
            have HKB : Hid (B < kk) := Lib.hid (by have := lt_of_block HZ.out; omega)
            have hy := HY4.out
            clear h0 h1 h2 h3 h4 h5 h6 hk2 hb hk hs hkk hz haw hfb hfa HZ HAW HFA HFB HFL HDD HK HS
            have gy0 := cells_cell (o := 0) hy rfl
            have gy1 := cells_cell (o := 1) hy rfl
            have gy2 := cells_cell (o := 2) hy rfl
            have gy3 := cells_cell (o := 3) hy rfl
            have gy4 := cells_cell (o := 4) hy rfl
            have gy5 := cells_cell (o := 5) hy rfl
            have gy6 := cells_cell (o := 6) hy rfl
            have hlY := lt_of_block hy
            clear hy
            simp only [List.drop_succ_cons, List.drop_zero]
            go_wp2_with (go_at_call 13; fail)
            clear gy0 gy1 gy2 gy3 gy4 gy5 gy6 hlY
            have hst := is_any HK4.out HS4.out
            unfold pt at hst
            refine hst.mono ?_
            rintro e V3 ⟨rfl, hb3⟩
            have HY5 := Lib.hid ((hb3.block _ (lt_of_block HY4.out)).trans HY4.out)
            have HZ5 := Lib.hid ((hb3.block _ (lt_of_block HZ4.out)).trans HZ4.out)
            have HK5 := Lib.hid (HK4.out.grow hb3)
            have HS5 := Lib.hid (HS4.out.grown hb3)
            clear hst hb3 HY4 HZ4 HK4 HS4
            go_wp2_with fail
            refine wp_region_mix (fun W' => W'.heap[kk]? = some (.cells #[.int .i64 q0, .slice c1 c2 c3, .bool qb, .slice d1 d2 d3, .int .i64 q4, .int .i64 q5, .int .i64 q6] 31 (0, 0))) 3 [(true, 0), (true, 1), (true, 2)] (by kernel_rfl) (by kernel_rfl) (fun _ _ _ d _ h => by cases d <;> exact h) ?_
            have HD : Hid (Below V3.heap.size V3 V3.drew) := Lib.hid ((Grn.refl V3).drew 1).below
            have HQ : Hid (V3.drew.heap[kk]? = some (.cells #[.int .i64 q0, .slice c1 c2 c3, .bool qb, .slice d1 d2 d3, .int .i64 q4, .int .i64 q5, .int .i64 q6] 31 (0, 0))) := Lib.hid ((HD.out.block _ (lt_of_block HY5.out)).trans HY5.out)
            have HT := Lib.hid ((HD.out.block _ (lt_of_block HZ5.out)).trans HZ5.out)
            have HKK := Lib.hid (HK5.out.grow HD.out)
            have HSS := Lib.hid (HS5.out.grown HD.out)
            clear HY5 HZ5 HK5 HS5
            simp only [List.map_cons, List.map_nil, List.getD_cons_zero, List.getD_cons_succ, List.drop_succ_cons, List.drop_zero]
            generalize V3.drew = V at *
            refine mix_move (.tmp 10) (.pointer (some ⟨m', 0, none⟩)) rfl HQ.out rfl rfl ?_
            simp only [Act.put, List.setIfInBounds_toArray, List.set_cons_zero, List.set_cons_succ]
            refine mix_take (.agg #[.int .i64 q0, .slice c1 c2 c3, .bool qb, .slice d1 d2 d3, .int .i64 q4, .int .i64 q5, .int .i64 q6]) HQ.out rfl (fun W' hS => by 
              have l0 := cells_cell (o := 0) hS rfl
              have l1 := cells_cell (o := 1) hS rfl
              have l2 := cells_cell (o := 2) hS rfl
              have l3 := cells_cell (o := 3) hS rfl
              have l4 := cells_cell (o := 4) hS rfl
              have l5 := cells_cell (o := 5) hS rfl
              have l6 := cells_cell (o := 6) hS rfl
              go_simp) ?_
            simp only [Act.put, List.setIfInBounds_toArray, List.set_cons_zero, List.set_cons_succ]
            refine mix_take (.pointer (some ⟨m', 0, none⟩)) HQ.out rfl (fun W' hS => by go_simp) ?_
            simp only [Act.put, List.setIfInBounds_toArray, List.set_cons_zero, List.set_cons_succ]
            refine mix_nil ?_
            have dd0 := cells_cell (o := 0) HT.out rfl
            have df0 := cells_free HT.out 0
            have dd1 := cells_cell (o := 1) HT.out rfl
            have df1 := cells_free HT.out 1
            have dd2 := cells_cell (o := 2) HT.out rfl
            have df2 := cells_free HT.out 2
            have dd3 := cells_cell (o := 3) HT.out rfl
            have df3 := cells_free HT.out 3
            have dd4 := cells_cell (o := 4) HT.out rfl
            have df4 := cells_free HT.out 4
            have dd5 := cells_cell (o := 5) HT.out rfl
            have df5 := cells_free HT.out 5
            have dd6 := cells_cell (o := 6) HT.out rfl
            have df6 := cells_free HT.out 6
            have hlt9 := lt_of_block HT.out
            go_wp2_with fail
            go_roundw
            case rel => exact ⟨j + 1, m', k', y, by omega, rfl, by go_num, Lib.hid ⟨HKK.out.box HT.out (seven_fr V B _ _ _ _ _ _ _) HBB.out, q0, c1, c2, c3, qb, d1, d2, d3, q4, q5, q6, seven_cells HT.out _ _ _ _ _ _ _, ((HSS.out.off HT.out).fr (seven_fr V B _ _ _ _ _ _ _) (fun g hg hm => hg.2 (by simpa using hm))).weak (fun g hg => hg.1)⟩⟩
            case measure => simp [intOf]; omega

        · obtain rfl : j = N := by omega
          clear hj
          go_wp2_with (go_at_call 9; fail)
          refine (known_any wr).mono ?_
          rintro e w3 ⟨rfl, hb3⟩
          have HB4 := Lib.hid (HRI.out.1.be.trans (hb3.mono HRI.out.1.be.size))
          clear hb3 HRI
          go_wp2_with fail
          go_ret
          exact ⟨rfl, HB4.out⟩
  · clear HFEW
    go_wp2_with (go_at_call 9; fail)
    refine (known_any w').mono ?_
    rintro e w3 ⟨rfl, hb3⟩
    have HB4 := Lib.hid hb3
    clear hb3
    go_wp2_with fail
    go_ret
    exact ⟨rfl, HB4.out⟩
end Go.Proofs.Yteimjkmjofaieaa
