/- slices.Grow of nil and slices.Concat, of B. -/
import Derived.Test.YteimjkmjofaieaaCMem
namespace Go.Proofs.Yteimjkmjofaieaa
open Go.RowKit Go.Sort
set_option linter.unusedVariables false
set_option linter.unusedSimpArgs false
set_option maxRecDepth 100000

/-- Slices, and what they have. -/
def Rows (w : World) (vs : List Value) (Ps : List (List Value)) : Prop := vs.length = Ps.length ∧ ∀ (i : Nat) (v : Value) (p : List Value), vs[i]? = some v → Ps[i]? = some p → SrcV w v p
theorem Rows.grown {w w' : World} {vs : List Value} {Ps : List (List Value)} (h : Rows w vs Ps) (hb : Below w.heap.size w w') : Rows w' vs Ps := ⟨h.1, fun i v p h1 h2 => (h.2 i v p h1 h2).grown hb⟩
theorem flat_take_succ {α : Type} (Ps : List (List α)) (k : Nat) (h : k < Ps.length) : (Ps.take (k + 1)).flatten = (Ps.take k).flatten ++ Ps[k] := by
  rw [List.take_succ_eq_append_getElem h, List.flatten_append]
  simp
theorem flat_le {α : Type} (Ps : List (List α)) (k : Nat) : (Ps.take k).flatten.length ≤ Ps.flatten.length := by
  conv => rhs; rw [← List.take_append_drop k Ps, List.flatten_append, List.length_append]
  omega
theorem flat_le' {α : Type} (Ps : List (List α)) (k : Nat) (h : k < Ps.length) : (Ps.take k).flatten.length + (Ps[k]).length ≤ Ps.flatten.length := by
  rw [← List.length_append, ← flat_take_succ Ps k h]
  exact flat_le _ _
theorem row_zero {w : World} {e : TypeId} {g cap : Nat} {cur : Array Value} (hh : w.heap[g]? = some (.cells cur e (0, 0))) (hc : cur.size = cap) (hm : cap ≤ maxLen) : RowV w e g (.slice (some ⟨g, 0, none⟩) 0 cap) [] :=
  ⟨by simp, .inr ⟨g, cap, cur, rfl, Nat.le_refl _, hh, Nat.zero_le _, hm, by simpa using hc, by simp⟩⟩

theorem grow_run {P : Program} {t e tn : TypeId} {bytes : Nat} (hS : Slc P t e bytes) (hby : bytes ≤ 24) (htn : P.underlying tn = some (.int .i64)) (w : World) (n : Nat) (h0 : 0 < n) (hn : n ≤ 200000) (ty : TypeId) :
    ∃ cp W, (Builtin.append_ #[t, tn] ty #[.slice none 0 0, .int .i64 n]).run P w = .ok (.slice (some ⟨w.heap.size, 0, none⟩) n cp) W ∧ RowV W e w.heap.size (.slice (some ⟨w.heap.size, 0, none⟩) 0 cp) [] ∧ Below w.heap.size w W ∧ n ≤ cp := by
  obtain ⟨i0, z, hu, hi0, hz0, hz1, hz2, hz3⟩ := hS
  have hc : n * bytes ≤ 200000 * 24 := Nat.mul_le_mul hn hby
  have hrun := Lib.run_append_nil_zeros (P := P) w t tn ty e i0 z .i64 .i64 hu htn hi0 hz0 n h0 (by omega) (by omega) (by rw [hz2]; omega)
  have hl : grownCap w n 0 e ≤ maxLen := grownCap_le_maxLen w n 0 e (by unfold maxLen; omega)
  refine ⟨_, _, hrun, row_zero (heap_alloc_new w.drew _) ?_ hl, ((Below.refl _ w).drew).alloc (Nat.le_refl _) _, grownCap_ge w n 0 e⟩
  have := grownCap_ge w n 0 e
  simp [size_zeroCells, hz3]
  omega

set_option maxHeartbeats 1600000 in
theorem growB_any (w : World) (n : Nat) (hn : n ≤ 200000) :
    Calls Try.prog 77 #[.slice none 0 0, .int .i64 n] w fun e w' => ∃ v, e = .returned v ∧ RowV w' 5 w.heap.size v [] ∧ Below w.heap.size w w' := by
  have e1 : (n : Int) ≤ 200000 := by omega
  have e2 : decide ((n : Int) < 0) = false := by simp
  by_cases h0 : n = 0
  · subst h0
    go_enter Try.func77, Try.ntmps77
    go_wp2_with fail
    go_ret
    exact ⟨_, rfl, World.ownsRow_nil _ _ _ _, Below.refl _ _⟩
  · have e3 : (0 : Int) < (n : Int) := by omega
    obtain ⟨cp, W, hrun, ho, hb, hcn⟩ := grow_run slcB (by decide) Try.underlying3 w n (by omega) hn 29
    have HO := Lib.hid ho
    have HB := Lib.hid hb
    have hcn2 : (n : Int) ≤ (cp : Int) := by omega
    clear ho hb hn hcn
    go_enter Try.func77, Try.ntmps77
    go_wp2_with (at_builtin; refine Lib.wpList_append_run _ rfl (.tmp 20) (.tmp 21) 29 3 rfl _ _ rfl rfl _ _ hrun ?_)
    go_ret
    exact ⟨_, rfl, HO.out, HB.out⟩

set_option maxHeartbeats 1600000 in
theorem catB_any {w : World} {vl : Value} {vs : List Value} {Ps : List (List Value)} (hl : SrcV w vl vs) (hr : Rows w vs Ps) (h1 : ∀ p ∈ Ps, ∀ u ∈ p, u.oneCell' = true) (hn : Ps.flatten.length ≤ 200000) (hk : Ps.length ≤ 200000) :
    Calls Try.prog 56 #[vl] w fun e w' => ∃ v, e = .returned v ∧ RowV w' 5 w.heap.size v Ps.flatten ∧ Below w.heap.size w w' := by
  obtain ⟨a, c, rfl, hc1, hc2⟩ := hl.form
  have HL := Lib.hid hl
  have HR := Lib.hid hr
  have H1 := Lib.hid h1
  have HN := Lib.hid hn
  have hvl : vs.length = Ps.length := hr.1
  have hkI : (Ps.length : Int) ≤ 200000 := by omega
  clear hl hr h1 hn
  rw [hvl]
  rw [hvl] at hc1
  have HVL := Lib.hid hvl
  clear hvl
  obtain ⟨T, hT⟩ : ∃ T : Nat → Nat, ∀ k, T k = (Ps.take k).flatten.length := ⟨fun k => (Ps.take k).flatten.length, fun _ => rfl⟩
  have HT := Lib.hid hT
  obtain ⟨N, hN⟩ : ∃ N, N = Ps.length := ⟨_, rfl⟩
  have hT0 : T 0 = 0 := by rw [hT]; simp
  have hTN : Hid (T N ≤ 200000) := Lib.hid (by have := HN.out; have := flat_le Ps Ps.length; rw [hT, hN]; omega)
  have HNE := Lib.hid hN
  have HT0 := Lib.hid hT0
  rw [← hN] at hc1 hkI ⊢
  clear hT hN hT0
  go_enter Try.func56, Try.ntmps56
  go_wp2_with fail
  go_loopw [3, 11] (fun sz i wr => ∃ k, k ≤ N ∧ sz = .int .i64 ((T k : Nat) : Int) ∧ i = .int .i64 (k : Nat) ∧ wr = w) (fun _ i _ => N - (intOf i).toNat)
  case atStart => exact ⟨0, Nat.zero_le _, by rw [HT0.out]; rfl, rfl, rfl⟩
  case round =>
    obtain ⟨k, hkl, rfl, rfl, rfl⟩ := hrel
    obtain ⟨W, rfl⟩ : ∃ x, x = wr := ⟨_, rfl⟩
    by_cases hlt : k < N
    · have hltP : k < Ps.length := by rw [← HNE.out]; exact hlt
      obtain ⟨b, off, rfl, hbl, hcell⟩ := HL.out.at (by have := HVL.out; omega)
      have hvk : vs[k]? = some (vs[k]'(by have := HVL.out; omega)) := List.getElem?_eq_getElem _
      have hsk := HR.out.2 k _ _ hvk (List.getElem?_eq_getElem hltP)
      obtain ⟨ak, ck, hf, _, _⟩ := hsk.form
      have hck := hcell k _ hvk
      rw [hf] at hck
      have hle := flat_le' Ps k hltP
      have hst : Hid (T (k + 1) = T k + (Ps[k]).length) := Lib.hid (by rw [HT.out, HT.out, flat_take_succ Ps k hltP, List.length_append])
      have hle2 : (T k : Int) + ((Ps[k]).length : Int) ≤ 200000 := by have := HN.out; rw [HT.out]; omega
      clear hcell hvk hsk hf hle
      generalize (Ps[k]).length = pl at *
      generalize hS : T k = S at *
      have HS := Lib.hid hS
      clear hS
      have hd : decide ((S : Int) + (pl : Int) < 0) = false := by simp; omega
      have hkl2 : (k : Int) < (N : Int) := by omega
      go_wp2_with fail
      go_roundw
      case rel => exact ⟨k + 1, by omega, by rw [hst.out]; go_num, by go_num, trivial⟩
      case measure => simp [intOf]; omega
    · obtain rfl : k = N := by omega
      have hg := Lib.hid (growB_any W (T k) hTN.out)
      go_wp2_with fail
      refine hg.out.mono ?_
      rintro e w1 ⟨v1, rfl, ho1, hb1⟩
      have HO1 := Lib.hid ho1
      have HB1 := Lib.hid hb1
      clear ho1 hb1 hg
      go_wp2_with fail
      go_loopw [6, 27] (fun nv i w2 => ∃ j, j ≤ k ∧ Hid (RowV w2 5 W.heap.size nv (Ps.take j).flatten) ∧ i = .int .i64 (j : Nat) ∧ Hid (Below W.heap.size W w2)) (fun _ i _ => k - (intOf i).toNat)
      case atStart => exact ⟨0, Nat.zero_le _, Lib.hid (by simpa using HO1.out), rfl, HB1⟩
      case round =>
        obtain ⟨j, hjl, hrow, rfl, hbw⟩ := hrel
        by_cases hjt : j < k
        · have hjtP : j < Ps.length := by rw [← HNE.out]; exact hjt
          obtain ⟨b, off, rfl, hbl, hcell⟩ := HL.out.at (by have := HVL.out; omega)
          have hvk : vs[j]? = some (vs[j]'(by have := HVL.out; omega)) := List.getElem?_eq_getElem _
          have hsk := HR.out.2 j _ _ hvk (List.getElem?_eq_getElem hjtP)
          obtain ⟨ak, ck, hf, _, _⟩ := hsk.form
          have hck := below_cells hbw.out _ _ (hcell j _ hvk)
          rw [hf] at hck hsk
          have HSK := Lib.hid (hsk.grown hbw.out)
          have hbl2 : b < W.heap.size := by have := hbw.out.size; omega
          have hle := flat_le' Ps j hjtP
          clear hcell hvk hsk hf hbl
          have hjl2 : (j : Int) < (k : Int) := by omega
          go_wp2_with (at_builtin; refine wpList_append_v slcB (by decide) rfl (.tmp 31) (.tmp 32) rfl rfl rfl hrow.out (by have := hbw.out.size; omega) HSK.out (H1.out _ (List.getElem_mem _)) (by have := HN.out; omega) ?_)
          intro v' w' ho' hf' hn'
          have HO' := Lib.hid ho'
          have HB' := Lib.hid (hbw.out.trans (hf'.below (fun x hx => (hrow.out.lt x (by simpa using hx)).1) hbw.out.size))
          clear ho' hf' hn'
          go_wp2_with fail
          go_roundw
          case rel => exact ⟨j + 1, by omega, Lib.hid (by rw [flat_take_succ Ps j hjtP]; exact HO'.out), by go_num, HB'⟩
          case measure => simp [intOf]; omega
        · obtain rfl : j = k := by omega
          go_wp2_with fail
          go_ret
          refine ⟨_, rfl, ?_, hbw.out⟩
          have := hrow.out
          rwa [HNE.out, List.take_length] at this
end Go.Proofs.Yteimjkmjofaieaa
