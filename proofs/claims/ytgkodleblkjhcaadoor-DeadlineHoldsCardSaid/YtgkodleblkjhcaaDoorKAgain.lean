/- KAgain: JAgain, merged. -/
import Derived.Test.YtgkodleblkjhcaaDoorKLaw
import Derived.OpenShut
/- The walk of DeadlineAgain. -/
namespace Go.Proofs.YtgkodleblkjhcaaDoor
open Go.RowKit Go.Sort Go.ChangeShapes
set_option linter.unusedVariables false
set_option linter.unusedSimpArgs false

/-- What a walk is told of a slice of integers that came in. -/
def IsRow (k : IntKind) (w : World) (a : Option Addr) (len cap : Nat) (zs : List Int) : Prop :=
  (a = none ∧ len = 0 ∧ cap = 0 ∧ zs = []) ∨
  ∃ x, a = some x ∧ len ≤ cap ∧ cap ≤ maxLen ∧ zs.length = cap ∧ (∀ i, i < zs.length → w.cell? (x.add i) = some (.int k (zs.getD i 0))) ∧ ∀ n ∈ zs, (Lit.int k n).wf = true

theorem rowj_plain {w : World} {a : Option Addr} {len cap : Nat} {zs : List Int} (h : IsRow .u64 w a len cap zs) (h0 : 0 < len) : ∃ b off, a = some ⟨b, off, none⟩ ∧ b < w.heap.size ∧ ∀ i, i < len → w.cell? ⟨b, off + i, none⟩ = some (.int .u64 (zs.getD i 0)) ∧ zs.getD i 0 ≤ never := by
  rcases h with ⟨rfl, rfl, rfl, rfl⟩ | ⟨x, rfl, hl, hm, hz, hcell, hwz⟩
  · omega
  · obtain ⟨b, off, spot⟩ := x
    have hc := hcell 0 (by omega)
    have hspot : spot = none := by simpa [Addr.add] using World.cell?_spot hc
    subst hspot
    refine ⟨b, off, rfl, World.block_lt_of_cell? w _ hc, fun i hi => ⟨?_, ?_⟩⟩
    · have := hcell i (by omega)
      rwa [Go.WideShapes.add_plain] at this
    · have hm : zs.getD i 0 ∈ zs := by
        rw [List.getD_eq_getElem?_getD, List.getElem?_eq_getElem (by omega)]
        exact List.getElem_mem _
      have := bounds_u64 (hwz _ hm)
      unfold never
      omega

/-- What a spot that was set again and again says. -/
def ag (p : Nat) (last : Int) : Nat → Int := upd (fun _ => never) p last
theorem ag_upd (p : Nat) (last t : Int) : upd (ag p last) p t = ag p t := by unfold ag; rw [upd_upd]
theorem ag_never (p : Nat) : ag p never = fun _ => never := by
  funext x
  unfold ag upd
  split <;> rfl
theorem ag_next_no {now last : Int} {p : Nat} (h : last ≤ now ∨ last = never) : IsNext now (ag p last) never := by
  refine .inl ⟨rfl, fun q hq h1 => ?_⟩
  unfold ag upd at h1 ⊢
  split
  · rename_i e
    rw [if_pos e] at h1
    omega
  · rfl
theorem ag_next_yes {now last : Int} {p : Nat} (hp : p < 256) (h : now < last) (h2 : last < never) : IsNext now (ag p last) last := by
  refine .inr ⟨p, hp, by simp [ag, upd], h, h2, fun q hq h1 => ?_⟩
  simp only [ag, upd] at h1 ⊢
  split
  · omega
  · omega
theorem ag_lap_no {now tt last : Int} {p : Nat} (h : last ≤ now ∨ tt < last) (ht : tt < never) : IsLap now tt (ag p last) [] := by
  refine ⟨List.Pairwise.nil, fun x => ?_⟩
  simp only [List.not_mem_nil, false_iff]
  simp only [ag, upd]
  split <;> omega
theorem ag_lap_yes {now last : Int} {p : Nat} (hp : p < 256) (h : now < last) (h2 : last < never) : IsLap now last (ag p last) [(last, p)] := by
  refine ⟨by simp, fun x => ?_⟩
  obtain ⟨x1, x2⟩ := x
  simp only [List.mem_cons, List.not_mem_nil, or_false, Prod.mk.injEq]
  simp only [ag, upd]
  split <;> omega

set_option maxHeartbeats 800000 in
theorem rspot_any (x y : Int) (w : World) : Calls Tryd.prog 15 #[.agg #[.int .i64 x, .int .i64 y]] w fun e w' => e = .returned (.bool (okS x y)) ∧ Grn w w' := by
  have hg : Hid (Grn w (w.alloc (.cells #[.int .i64 x, .int .i64 y] 24))) := Lib.hid ((Grn.refl w).alloc _)
  have H := Lib.hid (show okS x y = decide (0 ≤ x ∧ x < 128 ∧ (y = 0 ∨ y = 1)) from rfl)
  by_cases h1 : 0 ≤ x
  · by_cases h2 : x ≤ 127
    · by_cases h3 : y = 0
      · subst h3
        have hv := Lib.hid (show okS x 0 = true by rw [H.out]; simp; omega)
        have g1 : decide (0 ≤ x) = true := by simpa using h1
        go_enter Tryd.func15, Tryd.ntmps15
        go_wp2_with fail
        go_ret
        exact ⟨by rw [hv.out]; rfl, hg.out⟩
      · have q3 : (y == 0) = false := by simpa using h3
        by_cases h4 : y = 1
        · subst h4
          have hv := Lib.hid (show okS x 1 = true by rw [H.out]; simp; omega)
          go_enter Tryd.func15, Tryd.ntmps15
          go_wp2_with fail
          go_ret
          exact ⟨by rw [hv.out]; rfl, hg.out⟩
        · have q4 : (y == 1) = false := by simpa using h4
          have hv := Lib.hid (show okS x y = false by rw [H.out]; simp; omega)
          clear h3 h4
          go_enter Tryd.func15, Tryd.ntmps15
          go_wp2_with fail
          go_ret
          exact ⟨by rw [hv.out]; rfl, hg.out⟩
    · have hv := Lib.hid (show okS x y = false by rw [H.out]; simp; omega)
      have g2 : decide (x ≤ 127) = false := by simp; omega
      clear h2
      go_enter Tryd.func15, Tryd.ntmps15
      go_wp2_with fail
      go_ret
      exact ⟨by rw [hv.out]; rfl, hg.out⟩
  · have hv := Lib.hid (show okS x y = false by rw [H.out]; simp; omega)
    have g1 : decide (0 ≤ x) = false := by simp; omega
    clear h1
    go_enter Tryd.func15, Tryd.ntmps15
    go_wp2_with fail
    go_ret
    exact ⟨by rw [hv.out]; rfl, hg.out⟩

theorem rowL1 (w : World) (x y k : Int) (p : Nat) (hx : ((p / 2 : Nat) : Int) = x) (hy : ((p % 2 : Nat) : Int) = y) : RowL (w.alloc (.cells #[.int .i64 x, .int .i64 y, .int .u64 k] 53)) 0 (.slice (some ⟨w.heap.size, 0, none⟩) 1 1) [(k, p)] := by
  have := World.ownsRow_lit w #[.int .i64 x, .int .i64 y, .int .u64 k] 1 (e := 53) (size := 3) (base := 0) (Nat.zero_le _) (by unfold maxLen; omega) rfl
  unfold RowL
  simpa [encL, hx, hy] using this

/-- The law's early end. -/
theorem again_known {x y now : Int} {sa : Option Addr} {len cap : Nat} {w : World} (hT : Tab w) (h : 60 < len ∨ now = never ∨ okS x y = false) :
    Calls Tryd.prog 4 #[.agg #[.int .i64 x, .int .i64 y], .int .u64 now, .slice sa len cap] w fun e w' => e = .returned (.bool true) ∧ Below w.heap.size w w' := by
  obtain ⟨W, hW⟩ : ∃ W, w.alloc (.cells #[.int .i64 x, .int .i64 y] 24) = W := ⟨_, rfl⟩
  have hG : Grn w W := by rw [← hW]; exact (Grn.refl w).alloc _
  have x0 : W.cell? ⟨w.heap.size, 0, none⟩ = some (.int .i64 x) := by rw [← hW]; exact cell_new _ _ _ _ _ _ rfl rfl
  have x1 : W.cell? ⟨w.heap.size, 1, none⟩ = some (.int .i64 y) := by rw [← hW]; exact cell_new _ _ _ _ _ _ rfl rfl
  have HW := Lib.hid hW
  have HG := Lib.hid hG
  have hk := Lib.hid (fun W' (g : Grn W W') => jknown_any W' (hT.below (hG.trans g).below hT.lt))
  clear hW hG
  by_cases hl : 60 < len
  · have hli : (60 : Int) < (len : Int) := by omega
    clear h
    go_enter Tryd.func4, Tryd.ntmps4
    go_wp2_with fail
    rw [HW.out]
    go_wp2_with (go_at_call 14; refine (hk.out _ (Grn.refl _)).mono ?_; rintro e w1 ⟨rfl, hb⟩)
    go_ret
    exact ⟨rfl, HG.out.below.trans (hb.mono HG.out.below.size)⟩
  have hli : decide ((60 : Int) < (len : Int)) = false := by simp; omega
  by_cases hn : now = never
  · have q : (now == 18446744073709551615) = true := by simp [hn, never]
    clear hn h
    go_enter Tryd.func4, Tryd.ntmps4
    go_wp2_with fail
    rw [HW.out]
    go_wp2_with (go_at_call 14; refine (hk.out _ (Grn.refl _)).mono ?_; rintro e w1 ⟨rfl, hb⟩)
    go_ret
    exact ⟨rfl, HG.out.below.trans (hb.mono HG.out.below.size)⟩
  · have q : (now == 18446744073709551615) = false := by simpa [never] using hn
    have hok : okS x y = false := by
      rcases h with h | h | h
      · exact absurd h hl
      · exact absurd h hn
      · exact h
    have hs := rspot_any x y W
    rw [hok] at hs
    have Hs := Lib.hid hs
    clear hs hok hn h
    go_enter Tryd.func4, Tryd.ntmps4
    go_wp2_with fail
    rw [HW.out]
    go_wp2_with (first | (go_at_call 15; refine Hs.out.mono ?_; rintro e w1 ⟨rfl, hg⟩) | (go_at_call 14; fail))
    refine (hk.out _ hg).mono ?_
    rintro e w2 ⟨rfl, hb⟩
    have hfin := Lib.hid ((HG.out.trans hg).below.trans (hb.mono (HG.out.trans hg).below.size))
    clear hg hb
    go_wp2_with fail
    go_ret
    exact ⟨rfl, hfin.out⟩

set_option maxRecDepth 100000 in
set_option maxHeartbeats 12800000 in
theorem again_main {q r : Nat} (hq : q < 128) (hr : r < 2) {now : Int} {sa : Option Addr} {len cap : Nat} {zs : List Int} {w : World} (hlen : len ≤ 60) (h0 : 0 ≤ now) (hn : now < never) (hrow : IsRow .u64 w sa len cap zs) (hT : Tab w) :
    Calls Tryd.prog 4 #[plc q r, .int .u64 now, .slice sa len cap] w fun e w' => e = .returned (.bool true) ∧ Below w.heap.size w w' := by
  obtain ⟨W, hW⟩ : ∃ W, w.alloc (.cells #[.int .i64 q, .int .i64 r] 24) = W := ⟨_, rfl⟩
  obtain ⟨s, hs⟩ : ∃ s, w.heap.size = s := ⟨_, rfl⟩
  have hG : Grn w W := by rw [← hW]; exact (Grn.refl w).alloc _
  have hO : W.heap[s]? = some (.cells #[.int .i64 q, .int .i64 r] 24 (0, 0)) := by rw [← hW, ← hs]; exact block_new _ _ _ rfl
  have hok : okS (q : Int) (r : Int) = true := by simp [okS]; omega
  have hsp := rspot_any q r W
  rw [hok] at hsp
  have Hsp := Lib.hid hsp
  have x0 := cells_cell (o := 0) hO rfl
  have x1 := cells_cell (o := 1) hO rfl
  have HO := Lib.hid hO
  have HW := Lib.hid hW
  have HG := Lib.hid hG
  have HSS := Lib.hid hs
  clear hs
  have HN := Lib.hid hn
  have hli : decide ((60 : Int) < (len : Int)) = false := by simp; omega
  have hl60 : (len : Int) ≤ 60 := by omega
  have q1 : (now == 18446744073709551615) = false := by have : now ≠ never := by omega
                                                        simpa [never] using this
  clear hsp hok hO hW hG hn
  unfold plc
  go_enter Tryd.func4, Tryd.ntmps4
  go_wp2_with fail
  rw [HW.out, HSS.out]
  go_wp2_with (first | (go_at_call 15; fail))
  refine Hsp.out.mono ?_
  rintro e w1 ⟨rfl, hg1⟩
  have HG1 := Lib.hid (HG.out.trans hg1)
  have HO1 := Lib.hid ((hg1.below.block _ (lt_of_block HO.out)).trans HO.out)
  have hnew := Lib.hid (jNew_yes w w1 (fun k => k = s) (fun k hk => by rw [hk]; exact lt_of_block HO1.out) HG1.out.below now HN.out)
  clear hg1 x0 x1
  unfold pt at hnew
  go_wp2_with (first | (go_at_call 16; fail))
  refine hnew.out.mono ?_
  rintro e w2 ⟨a, rfl, J2, b2⟩
  have HJ2 := Lib.hid J2
  have HO2 := Lib.hid ((b2.block _ (lt_of_block HO1.out)).trans HO1.out)
  clear J2 b2 hnew Hsp HO HO1 HW HG
  go_wp2_with fail
  go_loopw [9, 41] (fun v9 i wr => ∃ (k : Nat) (last : Int), k ≤ len ∧ v9 = .int .u64 last ∧ i = .int .i64 k ∧ last ≤ never ∧ JAt w (fun k => k = s) wr a now (ag (q * 2 + r) last) k ∧ wr.heap[s]? = some (.cells #[.int .i64 q, .int .i64 r] 24 (0, 0))) (fun _ i _ => len - (intOf i).toNat)
  case atStart => exact ⟨0, never, by omega, rfl, rfl, Int.le_refl _, by rw [ag_never]; exact HJ2.out, HO2.out⟩
  case round =>
    obtain ⟨k, last, hk, rfl, rfl, hlast, hJ, hO⟩ := hrel
    have HJ := Lib.hid hJ
    have HO := Lib.hid hO
    clear HJ2 HO2
    by_cases hlt : k < len
    · obtain ⟨b, off, rfl, hbl, hcs⟩ := rowj_plain hrow (by omega)
      obtain ⟨hc0, htn⟩ := hcs k hlt
      have hc := (hJ.below.cell (p := ⟨b, off + k, none⟩) hbl).trans hc0
      have hki : (k : Int) < (len : Int) := by omega
      have HL := Lib.hid hlt
      have hrow' := Lib.hid hrow
      clear hJ hO hcs hc0 hbl hlt hrow
      generalize zs.getD k 0 = t at *
      have y0 := cells_cell (o := 0) HO.out rfl
      have y1 := cells_cell (o := 1) HO.out rfl
      have hset : Calls Tryd.prog 17 #[pt a, plc q r, .int .u64 t, .bool (decide (t ≤ now))] wr fun e w' => e = .returned (.bool true) ∧ JAt w (fun k => k = s) w' a now (ag (q * 2 + r) t) (k + 1) ∧ Keep (fun k => k = s) wr w' := by
        have := jsets_any HJ.out hq hr t htn hT (by omega) _ rfl
        rwa [ag_upd] at this
      have HTN := Lib.hid htn
      by_cases ht : t = never
      · have qn : (t != 18446744073709551615) = false := by simp [ht, never]
        rw [show decide (t ≤ now) = false by simp; have := HN.out; omega] at hset
        have Hset := Lib.hid hset
        clear hset ht htn
        unfold pt plc at *
        go_wp2_with (go_at_call 17; fail)
        refine Hset.out.mono ?_
        rintro e w3 ⟨rfl, J3, K3⟩
        have HJ3 := Lib.hid J3
        have HO3 := Lib.hid ((K3 s rfl).trans HO.out)
        clear J3 K3 y0 y1
        go_wp2_with fail
        go_roundw
        case rel => exact ⟨k + 1, t, by have := HL.out; omega, rfl, by go_num, HTN.out, HJ3.out, HO3.out⟩
        case measure => simp [intOf]; have := HL.out; omega
      · have qn : (t != 18446744073709551615) = true := by simpa [never] using ht
        have Hset := Lib.hid hset
        clear hset ht htn
        unfold pt plc at *
        go_wp2_with (go_at_call 17; fail)
        refine Hset.out.mono ?_
        rintro e w3 ⟨rfl, J3, K3⟩
        have HJ3 := Lib.hid J3
        have HO3 := Lib.hid ((K3 s rfl).trans HO.out)
        clear J3 K3 y0 y1
        go_wp2_with fail
        go_roundw
        case rel => exact ⟨k + 1, t, by have := HL.out; omega, rfl, by go_num, HTN.out, HJ3.out, HO3.out⟩
        case measure => simp [intOf]; have := HL.out; omega
    · obtain rfl : k = len := by omega
      clear hJ hO hrow
      by_cases hle : last ≤ now
      · have hNX := Lib.hid (ag_next_no (p := q * 2 + r) (.inl hle : last ≤ now ∨ last = never))
        have hget := jGet_yes HJ.out hq hr
        rw [show ag (q * 2 + r) last (q * 2 + r) = last by simp [ag, upd]] at hget
        have Hget := Lib.hid hget
        have y0 := cells_cell (o := 0) HO.out rfl
        have y1 := cells_cell (o := 1) HO.out rfl
        clear hget
        unfold pt plc at *
        go_wp2_with (go_at_call 7; fail)
        refine Hget.out.mono ?_
        rintro e w4 ⟨rfl, hg4⟩
        have HJ4 := Lib.hid (HJ.out.grown hg4.below)
        have HO4 := Lib.hid ((hg4.below.block _ (lt_of_block HO.out)).trans HO.out)
        clear hg4 y0 y1 HJ HO Hget
        have qq : (last != last) = false := by simp
        have hnx : Calls Tryd.prog 11 #[pt a] w4 fun e w' => e = .returned (.int .u64 18446744073709551615) ∧ Grn w4 w' := (jNext_yes HJ4.out).mono fun e w' ⟨v, h1, h2, h3⟩ => ⟨by rw [h1, h2.unique hNX.out] <;> rfl, h3⟩
        have Hnx := Lib.hid hnx
        clear hnx
        unfold pt at Hnx
        go_wp2_with (go_at_call 11; fail)
        refine Hnx.out.mono ?_
        rintro e w5 ⟨rfl, hg5⟩
        have HJ5 := Lib.hid (HJ4.out.grown hg5.below)
        have HO5 := Lib.hid ((hg5.below.block _ (lt_of_block HO4.out)).trans HO4.out)
        clear hg5 HJ4 HO4 Hnx
        have hlp := Lib.hid (jlapses_any HJ5.out (tt := 18446744073709551614) (by unfold never; omega) (by have := HN.out; unfold never at this; omega) (by omega) (ag_lap_no (.inl hle) (by unfold never; omega)) (vw := .slice none 0 0) (World.ownsRow_nil _ _ _ _) (fun g h => by simp [Value.ownBlock] at h))
        unfold pt at hlp
        go_wp2_with (go_at_call 18; fail)
        refine hlp.out.mono ?_
        rintro e w6 ⟨rfl, J6, K6⟩
        have HJ6 := Lib.hid J6
        have HO6 := Lib.hid ((K6 s rfl).trans HO5.out)
        clear J6 K6 hlp HJ5 HO5
        have hb8 := HJ6.out.below
        have hkn := Lib.hid (jknown_any w6 (hT.below hb8 hT.lt))
        have HB8 := Lib.hid hb8
        clear hb8
        go_wp2_with (go_at_call 14; fail)
        refine hkn.out.mono ?_
        rintro e w99 ⟨rfl, hb9⟩
        have hfin := Lib.hid (HB8.out.trans (hb9.mono HB8.out.size))
        clear hb9
        go_wp2_with fail
        go_ret
        exact ⟨rfl, hfin.out⟩
      · have hgt : now < last := by omega
        by_cases hnv : last = never
        · have hNX := Lib.hid (ag_next_no (p := q * 2 + r) (now := now) (.inr hnv : last ≤ now ∨ last = never))
          have hlv : last = 18446744073709551615 := hnv
          clear hnv hle
          subst hlv
          have hget := jGet_yes HJ.out hq hr
          rw [show ag (q * 2 + r) (18446744073709551615 : Int) (q * 2 + r) = (18446744073709551615 : Int) by simp [ag, upd]] at hget
          have Hget := Lib.hid hget
          have y0 := cells_cell (o := 0) HO.out rfl
          have y1 := cells_cell (o := 1) HO.out rfl
          clear hget
          unfold pt plc at *
          go_wp2_with (go_at_call 7; fail)
          refine Hget.out.mono ?_
          rintro e w4 ⟨rfl, hg4⟩
          have HJ4 := Lib.hid (HJ.out.grown hg4.below)
          have HO4 := Lib.hid ((hg4.below.block _ (lt_of_block HO.out)).trans HO.out)
          clear hg4 y0 y1 HJ HO Hget
          have qq : ((18446744073709551615 : Int) != (18446744073709551615 : Int)) = false := by simp
          have hnx : Calls Tryd.prog 11 #[pt a] w4 fun e w' => e = .returned (.int .u64 18446744073709551615) ∧ Grn w4 w' := (jNext_yes HJ4.out).mono fun e w' ⟨v, h1, h2, h3⟩ => ⟨by rw [h1, h2.unique hNX.out] <;> rfl, h3⟩
          have Hnx := Lib.hid hnx
          clear hnx
          unfold pt at Hnx
          go_wp2_with (go_at_call 11; fail)
          refine Hnx.out.mono ?_
          rintro e w5 ⟨rfl, hg5⟩
          have HJ5 := Lib.hid (HJ4.out.grown hg5.below)
          have HO5 := Lib.hid ((hg5.below.block _ (lt_of_block HO4.out)).trans HO4.out)
          clear hg5 HJ4 HO4 Hnx
          have hlp := Lib.hid (jlapses_any HJ5.out (tt := 18446744073709551614) (by unfold never; omega) (by have := HN.out; unfold never at this; omega) (by omega) (ag_lap_no (.inr (by omega)) (by unfold never; omega)) (vw := .slice none 0 0) (World.ownsRow_nil _ _ _ _) (fun g h => by simp [Value.ownBlock] at h))
          unfold pt at hlp
          go_wp2_with (go_at_call 18; fail)
          refine hlp.out.mono ?_
          rintro e w6 ⟨rfl, J6, K6⟩
          have HJ6 := Lib.hid J6
          have HO6 := Lib.hid ((K6 s rfl).trans HO5.out)
          clear J6 K6 hlp HJ5 HO5
          have hb8 := HJ6.out.below
          have hkn := Lib.hid (jknown_any w6 (hT.below hb8 hT.lt))
          have HB8 := Lib.hid hb8
          clear hb8
          go_wp2_with (go_at_call 14; fail)
          refine hkn.out.mono ?_
          rintro e w99 ⟨rfl, hb9⟩
          have hfin := Lib.hid (HB8.out.trans (hb9.mono HB8.out.size))
          clear hb9
          go_wp2_with fail
          go_ret
          exact ⟨rfl, hfin.out⟩
        · have hlt2 : last < 18446744073709551615 := by
            have : last < never := by omega
            simpa [never] using this
          have hNX := Lib.hid (ag_next_yes (p := q * 2 + r) (by omega) hgt (by unfold never; exact hlt2))
          have q3 : (last == 18446744073709551615) = false := by simp; omega
          have ew : IntKind.u64.wrap (last - 1) = last - 1 := by rw [IntKind.wrap_u64]; omega
          have q4 : decide (last ≤ now) = false := by simp; omega
          clear hnv hle
          have hget := jGet_yes HJ.out hq hr
          rw [show ag (q * 2 + r) last (q * 2 + r) = last by simp [ag, upd]] at hget
          have Hget := Lib.hid hget
          have y0 := cells_cell (o := 0) HO.out rfl
          have y1 := cells_cell (o := 1) HO.out rfl
          clear hget
          unfold pt plc at *
          go_wp2_with (go_at_call 7; fail)
          refine Hget.out.mono ?_
          rintro e w4 ⟨rfl, hg4⟩
          have HJ4 := Lib.hid (HJ.out.grown hg4.below)
          have HO4 := Lib.hid ((hg4.below.block _ (lt_of_block HO.out)).trans HO.out)
          clear hg4 y0 y1 HJ HO Hget
          have qq : (last != last) = false := by simp
          have hnx : Calls Tryd.prog 11 #[pt a] w4 fun e w' => e = .returned (.int .u64 last) ∧ Grn w4 w' := (jNext_yes HJ4.out).mono fun e w' ⟨v, h1, h2, h3⟩ => ⟨by rw [h1, h2.unique hNX.out] <;> rfl, h3⟩
          have Hnx := Lib.hid hnx
          clear hnx
          unfold pt at Hnx
          go_wp2_with (go_at_call 11; fail)
          refine Hnx.out.mono ?_
          rintro e w5 ⟨rfl, hg5⟩
          have HJ5 := Lib.hid (HJ4.out.grown hg5.below)
          have HO5 := Lib.hid ((hg5.below.block _ (lt_of_block HO4.out)).trans HO4.out)
          clear hg5 HJ4 HO4 Hnx
          have hlp := Lib.hid (jlapses_any HJ5.out (tt := last - 1) (by unfold never; omega) (by omega) (by omega) (ag_lap_no (.inr (by omega)) (by unfold never; omega)) (vw := .slice none 0 0) (World.ownsRow_nil _ _ _ _) (fun g h => by simp [Value.ownBlock] at h))
          unfold pt at hlp
          go_wp2_with (go_at_call 18; fail)
          refine hlp.out.mono ?_
          rintro e w6 ⟨rfl, J6, K6⟩
          have HJ6 := Lib.hid J6
          have HO6 := Lib.hid ((K6 s rfl).trans HO5.out)
          clear J6 K6 hlp HJ5 HO5
          have y0 := cells_cell (o := 0) HO6.out rfl
          have y1 := cells_cell (o := 1) HO6.out rfl
          obtain ⟨V, hV⟩ : ∃ V, w6.alloc (.cells #[.int .i64 q, .int .i64 r, .int .u64 last] 53) = V := ⟨_, rfl⟩
          have hbv : Below w6.heap.size w6 V := by rw [← hV]; exact (Below.refl _ _).alloc (Nat.le_refl _) _
          have hrw : RowL V 0 (.slice (some ⟨w6.heap.size, 0, none⟩) 1 1) [(last, q * 2 + r)] := by rw [← hV]; exact rowL1 w6 q r last (q * 2 + r) (by omega) (by omega)
          have hJv : JAt w (GR (fun k => k = s) w6.heap.size) V a (last - 1) (ag (q * 2 + r) last) k := HJ6.out.more hbv (fun j hj => by
            rcases hj with h | h
            · exact .inl h
            · subst h; exact .inr ⟨Nat.le_refl _, by rw [← hV]; simp⟩)
          have HOv := Lib.hid ((hbv.block _ (lt_of_block HO6.out)).trans HO6.out)
          have hlp := Lib.hid (jlapses_any hJv (tt := last) (by unfold never; omega) (by omega) (by omega) (ag_lap_yes (by omega) (by omega) (by unfold never; omega)) hrw (fun g h => .inr (by simpa [Value.ownBlock] using h.symm)))
          have HV := Lib.hid hV
          clear hV hbv hrw hJv HO6 HJ6
          unfold pt at hlp
          go_wp2_with (go_at_call 18; rw [HV.out]; fail)
          rw [HV.out]
          refine hlp.out.mono ?_
          rintro e w7 ⟨rfl, J7, K7⟩
          have HJ7 := Lib.hid (J7.less (G' := fun k => k = s) (fun j h => .inl h))
          have HO7 := Lib.hid ((K7 s (.inl rfl)).trans HOv.out)
          clear J7 K7 hlp y0 y1 HOv HV
          have hlp := Lib.hid (jlapses_any HJ7.out (tt := 18446744073709551614) (by unfold never; omega) (by have := HN.out; unfold never at this; omega) (by omega) (ag_lap_no (.inl (Int.le_refl _)) (by unfold never; omega)) (vw := .slice none 0 0) (World.ownsRow_nil _ _ _ _) (fun g h => by simp [Value.ownBlock] at h))
          unfold pt at hlp
          go_wp2_with (go_at_call 18; fail)
          refine hlp.out.mono ?_
          rintro e w8 ⟨rfl, J8, K8⟩
          have HJ8 := Lib.hid J8
          have HO8 := Lib.hid ((K8 s rfl).trans HO7.out)
          clear J8 K8 hlp HJ7 HO7
          have hb8 := HJ8.out.below
          have hkn := Lib.hid (jknown_any w8 (hT.below hb8 hT.lt))
          have HB8 := Lib.hid hb8
          clear hb8
          go_wp2_with (go_at_call 14; fail)
          refine hkn.out.mono ?_
          rintro e w99 ⟨rfl, hb9⟩
          have hfin := Lib.hid (HB8.out.trans (hb9.mono HB8.out.size))
          clear hb9
          go_wp2_with fail
          go_ret
          exact ⟨rfl, hfin.out⟩

theorem deadlineAgain_walk (x y now : Int) (sa : Option Addr) (len cap : Nat) (zs : List Int) (w : World) (hx : (Lit.int .i64 x).wf = true) (hy : (Lit.int .i64 y).wf = true) (hn : (Lit.int .u64 now).wf = true) (hr : IsRow .u64 w sa len cap zs) (hT : Tab w) :
    Calls Tryd.prog 4 #[.agg #[.int .i64 x, .int .i64 y], .int .u64 now, .slice sa len cap] w fun e w' => e = .returned (.bool true) ∧ Below w.heap.size w w' := by
  obtain ⟨hn0, hn1⟩ := bounds_u64 hn
  by_cases h : 60 < len ∨ now = never ∨ okS x y = false
  · exact again_known hT h
  · have h1 : len ≤ 60 := by omega
    have h2 : now ≠ never := fun e => h (.inr (.inl e))
    have h3 : okS x y = true := by
      cases hh : okS x y
      · exact absurd (.inr (.inr hh)) h
      · rfl
    obtain ⟨q, r, hq, hr', rfl, rfl⟩ := okS_yes h3
    exact again_main hq hr' h1 hn0 (by unfold never at *; omega) hr hT
end Go.Proofs.YtgkodleblkjhcaaDoor
