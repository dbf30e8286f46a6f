/- The walk of SlotTurns. -/
import Derived.Test.YtbefiilbpbbjnaaEKnown2
namespace Go.Proofs.Ytbefiilbpbbjnaa
open Go.RowKit Go.Sort
set_option linter.unusedVariables false
set_option linter.unusedSimpArgs false

/-- A table whose place j is F j. -/
def tab (m : Nat) (F : Nat → Pl) : Tab := (List.range m).map F
theorem tab_len (m : Nat) (F : Nat → Pl) : (tab m F).length = m := by simp [tab]
theorem tab_get {m : Nat} {F : Nat → Pl} {i : Nat} (h : i < m) : (tab m F)[i]? = some (F i) := by simp [tab, h]
theorem tab_some {m : Nat} {F : Nat → Pl} {i : Nat} {p : Pl} (h : (tab m F)[i]? = some p) : i < m ∧ p = F i := by
  have hl : i < m := by have := (List.getElem?_eq_some_iff.1 h).1; rwa [tab_len] at this
  rw [tab_get hl] at h
  exact ⟨hl, (Option.some.inj h).symm⟩
theorem tab_ext {m : Nat} {F G : Nat → Pl} (h : ∀ i, i < m → F i = G i) : tab m F = tab m G := by
  unfold tab
  refine List.map_congr_left fun i hi => h i (by simpa using hi)
theorem tab_set {m : Nat} {F G : Nat → Pl} {i : Nat} {x : Pl} (hi : i < m) (h : ∀ j, j < m → G j = if i = j then x else F j) : (tab m F).set i x = tab m G := by
  refine List.ext_getElem? fun j => ?_
  rw [set_get (tab_get hi)]
  by_cases hj : j < m
  · rw [tab_get hj, tab_get hj, h j hj]
    split <;> rfl
  · have e1 : (tab m F)[j]? = none := List.getElem?_eq_none (by rw [tab_len]; omega)
    have e2 : (tab m G)[j]? = none := List.getElem?_eq_none (by rw [tab_len]; omega)
    rw [e1, e2, if_neg (by omega)]
theorem tab_free {m : Nat} {F : Nat → Pl} {i : Nat} (hi : i < m) (ho : (F i).o = false) (hb : ∀ k, k < i → (F k).o = true) : free (tab m F) = i :=
  free_at (tab_get hi) ho fun k hk q hq => by obtain ⟨_, rfl⟩ := tab_some hq; exact hb k hk
theorem ents_all {k : Nat} {P : Tab} (h : ∀ p ∈ P, p.o = true) : (ents k P).length = P.length := by
  induction P generalizing k with
  | nil => rfl
  | cons p r ih =>
    simp only [ents, List.length_append, List.length_cons]
    rw [ih (fun q hq => h q (List.mem_cons_of_mem _ hq)), h p (List.mem_cons_self ..)]
    simp
    omega

/-- After i openings. -/
def fT (i : Nat) (j : Nat) : Pl := if j < i then ⟨true, 0, (j : Int)⟩ else ⟨false, 0, 0⟩
/-- The number n was closed k times and has the value v; o: it is open. -/
def fU (n k : Nat) (v : Int) (j : Nat) : Pl := if n = j then ⟨true, k, v⟩ else ⟨true, 0, (j : Int)⟩
def fV (n k : Nat) (j : Nat) : Pl := if n = j then ⟨false, k, 0⟩ else ⟨true, 0, (j : Int)⟩
def vK (n k : Nat) : Int := if k = 0 then (n : Int) else 1000 + (k : Int) - 1

set_option maxRecDepth 100000 in
set_option maxHeartbeats 12800000 in
theorem slotTurns_ok (m n ts : Nat) (hm1 : 1 ≤ m) (hm2 : m ≤ 128) (hn : n < m) (ht : ts ≤ 60) (w : World) :
    Calls Try.prog 6 #[.int .i64 ((m : Nat) : Int), .int .i64 ((n : Nat) : Int), .int .i64 ((ts : Nat) : Int)] w fun e w' => e = .returned (.bool true) ∧ Below w.heap.size w w' := by
  have q1 : (1 : Int) ≤ (m : Int) := by omega
  have q2 : (m : Int) ≤ 128 := by omega
  have q3 : (0 : Int) ≤ (n : Int) := by omega
  have q4 : (n : Int) < (m : Int) := by omega
  have q5 : (0 : Int) ≤ (ts : Int) := by omega
  have q6 : (ts : Int) ≤ 60 := by omega
  have d1 : decide ((m : Int) < 1) = false := by simp; omega
  have d2 : decide ((128 : Int) < (m : Int)) = false := by simp; omega
  have d3 : decide ((n : Int) < 0) = false := by simp
  have d4 : decide ((m : Int) ≤ (n : Int)) = false := by simp; omega
  have d5 : decide ((ts : Int) < 0) = false := by simp
  have d6 : decide ((60 : Int) < (ts : Int)) = false := by simp; omega
  have d7 : decide (m ≤ n) = false := by simp; omega
  have HN := Lib.hid (slNew_ok w m hm1 hm2)
  go_enter Try.func6, Try.ntmps6
  go_wp2_with (go_at_call 9; fail)
  refine HN.out.mono ?_
  rintro e w1 ⟨t, g, rfl, hT, hb, hlt, hlg⟩
  have hT' : TAt w1 t g m (tab m (fT 0)) := by
    have e : tab m (fT 0) = List.replicate m ⟨false, 0, 0⟩ := by
      refine List.ext_getElem? fun j => ?_
      rw [List.getElem?_replicate]
      by_cases hj : j < m
      · rw [tab_get hj, if_pos hj]; rfl
      · rw [if_neg hj, List.getElem?_eq_none (by rw [tab_len]; omega)]
    rw [e]; exact hT
  have K1 : Hid (KT w w1 t g m (tab m (fT 0))) := Lib.hid ⟨hT', hb, hlt, hlg⟩
  clear HN hT hT' hb hlt hlg
  go_wp2_with fail
  go_loopw [9] (fun i wr => ∃ k : Nat, k ≤ m ∧ i = .int .i64 ((k : Nat) : Int) ∧ Hid (KT w wr t g m (tab m (fT k)))) (fun i _ => m - (intOf i).toNat)
  case atStart => exact ⟨0, Nat.zero_le _, rfl, K1⟩
  case round =>
    obtain ⟨k, hk, rfl, HK⟩ := hrel
    have i1 : (0 : Int) ≤ (k : Int) := by omega
    have i2 : (k : Int) ≤ 128 := by omega
    by_cases hlt : k < m
    · have i3 : (k : Int) < (m : Int) := by omega
      go_wp2_with (go_at_call 21; fail)
      refine (fd_any _ _ _).mono ?_
      rintro e w2 ⟨rfl, hg⟩
      have HK2 := Lib.hid (HK.out.grown hg.below)
      clear hg
      go_wp2_with (go_at_call 23; fail)
      refine (opens_yes (n := k) (p := ⟨false, 0, 0⟩) HK2.out.T (tab_free hlt (by unfold fT; simp) (fun j hj => by unfold fT; simp [hj])) (by rw [tab_get hlt]; unfold fT; simp) (k : Int) rfl rfl).mono ?_
      rintro e w3 ⟨rfl, hT, hf⟩
      have HK3 : Hid (KT w w3 t g m (tab m (fT (k + 1)))) := Lib.hid (HK2.out.step (by
        rw [tab_set (G := fT (k + 1)) hlt (fun j hj => by
          unfold fT
          by_cases h : k = j
          · subst h; simp
          · rw [if_neg h]; by_cases h2 : j < k
            · simp [h2, show j < k + 1 by omega]
            · simp [h2, show ¬ j < k + 1 by omega])] at hT
        exact hT) hf)
      clear hT hf
      go_wp2_with fail
      go_roundw
      case rel => exact ⟨k + 1, by omega, by go_num, HK3⟩
      case measure => simp [intOf]; omega
    · obtain rfl : k = m := by omega
      have HK0 : Hid (KT w wr t g k (tab k (fU n 0 (vK n 0)))) := Lib.hid (by
        rw [show tab k (fU n 0 (vK n 0)) = tab k (fT k) from tab_ext fun j hj => by
          unfold fU fT vK
          by_cases h : n = j
          · subst h; simp [hj]
          · simp [h, hj]]
        exact HK.out)
      clear HK K1
      go_wp2_with fail
      go_loopw [10] (fun i wu => ∃ j : Nat, j ≤ ts ∧ i = .int .i64 ((j : Nat) : Int) ∧ Hid (KT w wu t g k (tab k (fU n j (vK n j))))) (fun i _ => ts - (intOf i).toNat)
      case atStart => exact ⟨0, Nat.zero_le _, rfl, HK0⟩
      case round =>
        obtain ⟨j, hj, rfl, HJ⟩ := hrel
        have j1 : (0 : Int) ≤ (j : Int) := by omega
        have j2 : (j : Int) ≤ 60 := by omega
        by_cases hjl : j < ts
        · have j3 : (j : Int) < (ts : Int) := by omega
          have hcl : ∀ wX, KT w wX t g k (tab k (fU n j (vK n j))) → Calls Try.prog 24 #[.pointer (some ⟨t, 0, none⟩), .agg #[.int .i64 ((n : Nat) : Int), .int .i64 ((j : Nat) : Int)], .int .i64 (vK n j)] wX fun e w' => e = .returned (.bool true) ∧ KT w w' t g k (tab k (fV n (j + 1))) := fun wX hX => by
            refine (closes_yes (n := n) (G := j) hX.T (by rw [tab_get hn]; unfold fU; simp) (by omega) rfl rfl).mono ?_
            rintro e w' ⟨rfl, hT, hf⟩
            rw [tab_set (G := fV n (j + 1)) hn (fun i hi => by unfold fV fU; split <;> rfl)] at hT
            exact ⟨rfl, hX.step hT hf⟩
          have hop : ∀ wX, KT w wX t g k (tab k (fV n (j + 1))) → Calls Try.prog 23 #[.pointer (some ⟨t, 0, none⟩), .int .i64 (1000 + ((j : Nat) : Int)), .agg #[.int .i64 ((n : Nat) : Int), .int .i64 (((j : Nat) : Int) + 1)]] wX fun e w' => e = .returned (.bool true) ∧ KT w w' t g k (tab k (fU n (j + 1) (vK n (j + 1)))) := fun wX hX => by
            refine (opens_yes (n := n) (p := ⟨false, j + 1, 0⟩) hX.T (tab_free hn (by unfold fV; simp) (fun i hi => by unfold fV; rw [if_neg (by omega)])) (by rw [tab_get hn]; unfold fV; simp) (1000 + ((j : Nat) : Int)) rfl (by simp)).mono ?_
            rintro e w' ⟨rfl, hT, hf⟩
            rw [tab_set (G := fU n (j + 1) (vK n (j + 1))) hn (fun i hi => by
              unfold fV fU vK
              split
              · rw [if_neg (by omega)]; congr 1; omega
              · rfl)] at hT
            exact ⟨rfl, hX.step hT hf⟩
          have hgt : ∀ wX, KT w wX t g k (tab k (fU n (j + 1) (vK n (j + 1)))) → Calls Try.prog 20 #[.pointer (some ⟨t, 0, none⟩), .agg #[.int .i64 ((n : Nat) : Int), .int .i64 ((j : Nat) : Int)]] wX fun e w' => e = .returned (.tuple #[.int .i64 0, .int .i64 9]) ∧ KT w w' t g k (tab k (fU n (j + 1) (vK n (j + 1)))) := fun wX hX => by
            refine (slGet_bad (finds_no hX.T (N := n) (k := j) (fun i p e hp ho => ?_)) (by decide)).mono ?_
            · obtain rfl : i = n := by omega
              obtain ⟨_, rfl⟩ := tab_some hp
              unfold fU
              simp
              omega
            · rintro e w' ⟨rfl, hg⟩
              exact ⟨rfl, hX.grown hg.below⟩
          have HCL := Lib.hid hcl
          have HOP := Lib.hid hop
          have HGT := Lib.hid hgt
          clear hcl hop hgt HK0
          by_cases hj0 : j = 0
          · subst hj0
            go_wp2_with (go_at_call 21; fail)
            refine (fd_any _ _ _).mono ?_
            rintro e w2 ⟨rfl, hg⟩
            have H2 := Lib.hid (HJ.out.grown hg.below)
            clear hg
            go_wp2_with (go_at_call 24; fail)
            refine (HCL.out w2 H2.out).mono ?_
            rintro e w3 ⟨rfl, h3⟩
            have H3 := Lib.hid h3
            clear h3
            go_wp2_with (go_at_call 21; fail)
            refine (fd_any _ _ _).mono ?_
            rintro e w4 ⟨rfl, hg⟩
            have H4 := Lib.hid (H3.out.grown hg.below)
            clear hg
            go_wp2_with (go_at_call 23; fail)
            refine (HOP.out w4 H4.out).mono ?_
            rintro e w5 ⟨rfl, h5⟩
            have H5 := Lib.hid h5
            clear h5
            go_wp2_with (go_at_call 21; fail)
            refine (fd_any _ _ _).mono ?_
            rintro e w6 ⟨rfl, hg⟩
            have H6 := Lib.hid (H5.out.grown hg.below)
            clear hg
            go_wp2_with (go_at_call 20; fail)
            refine (HGT.out w6 H6.out).mono ?_
            rintro e w7 ⟨rfl, h7⟩
            have H7 := Lib.hid h7
            clear h7
            go_wp2_with fail
            go_roundw
            case rel => exact ⟨0 + 1, by omega, by go_num, H7⟩
            case measure => simp [intOf]; omega
          · have e0 : (((j : Nat) : Int) == 0) = false := by simp; omega
            have ev : vK n j = 1000 + ((j : Nat) : Int) - 1 := by unfold vK; rw [if_neg hj0]
            rw [ev] at HCL HJ
            clear ev
            go_wp2_with (go_at_call 21; fail)
            refine (fd_any _ _ _).mono ?_
            rintro e w2 ⟨rfl, hg⟩
            have H2 := Lib.hid (HJ.out.grown hg.below)
            clear hg
            go_wp2_with (go_at_call 24; fail)
            refine (HCL.out w2 H2.out).mono ?_
            rintro e w3 ⟨rfl, h3⟩
            have H3 := Lib.hid h3
            clear h3
            go_wp2_with (go_at_call 21; fail)
            refine (fd_any _ _ _).mono ?_
            rintro e w4 ⟨rfl, hg⟩
            have H4 := Lib.hid (H3.out.grown hg.below)
            clear hg
            go_wp2_with (go_at_call 23; fail)
            refine (HOP.out w4 H4.out).mono ?_
            rintro e w5 ⟨rfl, h5⟩
            have H5 := Lib.hid h5
            clear h5
            go_wp2_with (go_at_call 21; fail)
            refine (fd_any _ _ _).mono ?_
            rintro e w6 ⟨rfl, hg⟩
            have H6 := Lib.hid (H5.out.grown hg.below)
            clear hg
            go_wp2_with (go_at_call 20; fail)
            refine (HGT.out w6 H6.out).mono ?_
            rintro e w7 ⟨rfl, h7⟩
            have H7 := Lib.hid h7
            clear h7
            go_wp2_with fail
            go_roundw
            case rel => exact ⟨j + 1, by omega, by go_num, H7⟩
            case measure => simp [intOf]; omega
        · obtain rfl : j = ts := by omega
          have HF := Lib.hid HJ.out
          clear HJ HK0
          go_wp2_with fail
          go_loopw [14] (fun i wv => ∃ l : Nat, l ≤ k ∧ i = .int .i64 ((l : Nat) : Int) ∧ Hid (KT w wv t g k (tab k (fU n j (vK n j))))) (fun i _ => k - (intOf i).toNat)
          case atStart => exact ⟨0, Nat.zero_le _, rfl, HF⟩
          case round =>
            clear HF
            obtain ⟨l, hl, rfl, HL⟩ := hrel
            have l1 : (0 : Int) ≤ (l : Int) := by omega
            have l2 : (l : Int) ≤ 128 := by omega
            by_cases hll : l < k
            · have l3 : (l : Int) < (k : Int) := by omega
              by_cases hln : l = n
              · subst hln
                have e1 : ((l : Int) != (l : Int)) = false := by simp
                go_wp2_with fail
                go_roundw
                case rel => exact ⟨l + 1, by omega, by go_num, HL⟩
                case measure => simp [intOf]; omega
              · have e1 : ((l : Int) != (n : Int)) = true := by simp; omega
                have e2 : ((l : Int) == (n : Int)) = false := by simp; omega
                go_wp2_with (go_at_call 21; fail)
                refine (fd_any _ _ _).mono ?_
                rintro e w2 ⟨rfl, hg⟩
                have H2 := Lib.hid (HL.out.grown hg.below)
                clear hg
                go_wp2_with (go_at_call 25; fail)
                refine (gets_yes (n := l) (G := 0) (v := (l : Int)) H2.out.T (by rw [tab_get hll]; unfold fU; rw [if_neg (by omega)]) rfl rfl).mono ?_
                rintro e w3 ⟨rfl, hg⟩
                have H3 := Lib.hid (H2.out.grown hg.below)
                clear hg
                go_wp2_with fail
                go_roundw
                case rel => exact ⟨l + 1, by omega, by go_num, H3⟩
                case measure => simp [intOf]; omega
            · obtain rfl : l = k := by omega
              have hall : ((ents 0 (tab l (fU n j (vK n j)))).length : Nat) = l := by
                rw [ents_all (fun p hp => ?_), tab_len]
                obtain ⟨i, hi, rfl⟩ := List.mem_map.1 hp
                unfold fU
                split <;> rfl
              have hln := slLen_any HL.out.T.alls
              rw [hall] at hln
              have HLN := Lib.hid hln
              clear hall hln
              go_wp2_with (go_at_call 12; fail)
              refine HLN.out.mono ?_
              rintro e w2 ⟨rfl, hb2⟩
              have H2 := Lib.hid (HL.out.grown hb2)
              clear hb2
              go_wp2_with (go_at_call 8; fail)
              refine (known_any _).mono ?_
              rintro e w3 ⟨rfl, hb3⟩
              go_wp2_with fail
              go_ret
              exact ⟨rfl, H2.out.below.trans (hb3.mono H2.out.below.size)⟩

set_option maxRecDepth 100000 in
set_option maxHeartbeats 3200000 in
theorem slotTurns_walk (most n times : Int) (w : World) (h1 : (Lit.int .i64 most).wf = true) (h2 : (Lit.int .i64 n).wf = true) (h3 : (Lit.int .i64 times).wf = true) :
    Calls Try.prog 6 #[.int .i64 most, .int .i64 n, .int .i64 times] w fun e w' => e = .returned (.bool true) ∧ Below w.heap.size w w' := by
  have HK := Lib.hid (known_any w)
  clear h1 h2 h3
  by_cases c1 : most < 1
  · go_enter Try.func6, Try.ntmps6
    go_wp2_with (go_at_call 8; refine HK.out.mono ?_; rintro e w2 ⟨rfl, hb⟩)
    go_ret
    exact ⟨rfl, hb⟩
  have d1 : decide (most < 1) = false := by simp; omega
  by_cases c2 : 128 < most
  · go_enter Try.func6, Try.ntmps6
    go_wp2_with (go_at_call 8; refine HK.out.mono ?_; rintro e w2 ⟨rfl, hb⟩)
    go_ret
    exact ⟨rfl, hb⟩
  have d2 : decide (128 < most) = false := by simp; omega
  by_cases c3 : n < 0
  · go_enter Try.func6, Try.ntmps6
    go_wp2_with (go_at_call 8; refine HK.out.mono ?_; rintro e w2 ⟨rfl, hb⟩)
    go_ret
    exact ⟨rfl, hb⟩
  have d3 : decide (n < 0) = false := by simp; omega
  by_cases c4 : most ≤ n
  · go_enter Try.func6, Try.ntmps6
    go_wp2_with (go_at_call 8; refine HK.out.mono ?_; rintro e w2 ⟨rfl, hb⟩)
    go_ret
    exact ⟨rfl, hb⟩
  have d4 : decide (most ≤ n) = false := by simp; omega
  by_cases c5 : times < 0
  · go_enter Try.func6, Try.ntmps6
    go_wp2_with (go_at_call 8; refine HK.out.mono ?_; rintro e w2 ⟨rfl, hb⟩)
    go_ret
    exact ⟨rfl, hb⟩
  have d5 : decide (times < 0) = false := by simp; omega
  by_cases c6 : 60 < times
  · go_enter Try.func6, Try.ntmps6
    go_wp2_with (go_at_call 8; refine HK.out.mono ?_; rintro e w2 ⟨rfl, hb⟩)
    go_ret
    exact ⟨rfl, hb⟩
  obtain ⟨m', rfl⟩ : ∃ m' : Nat, most = m' := ⟨most.toNat, by omega⟩
  obtain ⟨n', rfl⟩ : ∃ n' : Nat, n = n' := ⟨n.toNat, by omega⟩
  obtain ⟨t', rfl⟩ : ∃ t' : Nat, times = t' := ⟨times.toNat, by omega⟩
  exact slotTurns_ok m' n' t' (by omega) (by omega) (by omega) (by omega) w
end Go.Proofs.Ytbefiilbpbbjnaa
