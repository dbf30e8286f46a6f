/- The walk of TimerPlays. -/
import Derived.Test.YthlbnlbkgiclpaaDoorPDo5
import Derived.Test.YthlbnlbkgiclpaaDoorTLook
import Derived.OpenShut
import Derived.BigQuiet
namespace Go.Proofs.YthlbnlbkgiclpaaDoor
open Go.RowKit Go.Sort
set_option linter.unusedVariables false
set_option linter.unusedSimpArgs false

/-- The law's state at the head of its loop, after k calls: t is the block of the reference. -/
structure PlW (w wr : World) (a t : Nat) (s : Value) (S : List El) (gs : List Nat) (P : Nat) (L : List Tm) (k : Nat) : Prop where
  R : PlR w (fun j => j = t) wr a s S gs P L
  box : BoxM wr t s
  tw : w.heap.size ≤ t
  hP : P ≤ k
  hl : L.length ≤ k

theorem PlW.grown {w wr w' : World} {a t : Nat} {s : Value} {S : List El} {gs : List Nat} {P k : Nat} {L : List Tm} (H : PlW w wr a t s S gs P L k) (hb : Below wr.heap.size wr w') : PlW w w' a t s S gs P L k :=
  ⟨H.R.grown hb, H.box.below hb H.box.lt, H.tw, H.hP, H.hl⟩
/-- The call is laid down. -/
theorem PlW.act {w wr : World} {a t : Nat} {s : Value} {S : List El} {gs : List Nat} {P k : Nat} {L : List Tm} (H : PlW w wr a t s S gs P L k) (o : Obj) : PlR w (fun j => j = t ∨ j = wr.heap.size) (wr.alloc o) a s S gs P L := by
  have hb : Below wr.heap.size wr (wr.alloc o) := (Below.refl _ _).alloc (Nat.le_refl _) _
  refine ⟨H.R.T.more hb (fun j hj => ?_), H.R.row.below hb, H.R.rel⟩
  rcases hj with (hj | hj) | hj
  · exact .inl (.inl hj)
  · exact .inr ⟨by omega, by simp; omega⟩
  · exact .inl (.inr hj)
/-- What do handed back is stored. -/
theorem PlR.stored {w w2 : World} {a t n : Nat} {s s0 : Value} {S : List El} {gs : List Nat} {P k : Nat} {L : List Tm} (R : PlR w (fun j => j = t ∨ j = n) w2 a s S gs P L) (hbox : BoxM w2 t s0) (ht : w.heap.size ≤ t) (hP : P ≤ k) (hl : L.length ≤ k) : PlW w (w2.setCell ⟨t, 0, none⟩ s) a t s S gs P L k := by
  have hf : Fr [t] w2 (w2.setCell ⟨t, 0, none⟩ s) := fr_setCell w2 ⟨t, 0, none⟩ _
  have hne : ∀ g, s.ownBlock = some g → g ≠ t := BodAt.row_ne R.row hbox (by decide)
  refine ⟨⟨(R.T.write hf (fun j hj => ?_)).less (fun j hj => ?_), hf.row R.row (fun g hg => by simpa using hne g hg), R.rel⟩, hbox.set s, ht, hP, hl⟩
  · have : j = t := by simpa using hj
    subst this; exact ⟨.inl (.inl rfl), ht⟩
  · rcases hj with hj | hj
    · exact .inl (.inl hj)
    · exact .inr hj

def NoP : Nat → Prop := fun _ => False

set_option maxRecDepth 1000000 in
set_option maxHeartbeats 8000000 in
theorem timerPlays_walk (sa : Option Addr) (len cap : Nat) (w : World) (hr : IsTActs w sa len cap) (hT : Tab w) :
    Calls Tryd.prog 4 #[.slice sa len cap] w fun e w' => e = .returned (.bool true) ∧ Below w.heap.size w w' := by
  have mixed : Tryd.prog.follows .mixedOrders = true := by kernel_rfl
  by_cases hl : 60 < len
  · have hk := Lib.hid (tknown_any w hT)
    have hli : (60 : Int) < (len : Int) := by omega
    go_enter Tryd.func4, Tryd.ntmps4
    go_wp2_with (go_at_call 13; refine hk.out.mono ?_; rintro e w1 ⟨rfl, hb⟩)
    go_ret
    exact ⟨rfl, hb⟩
  · have hli : decide ((60 : Int) < (len : Int)) = false := by simp; omega
    have hl60 : (len : Int) ≤ 60 := by omega
    have HR := Lib.hid hr
    clear hr
    go_enter Tryd.func4, Tryd.ntmps4
    go_wp2_with (first | (go_at_call 14; fail))
    refine (tnew_in w w NoP (fun _ h => h.elim) (Below.refl _ _)).mono ?_
    rintro e w1 ⟨a1, rfl, T1, hb1⟩
    have hst : Hid (PlW w (w1.alloc (.cells #[.slice none 0 0] 51)) a1 w1.heap.size (.slice none 0 0) [] [] 0 [] 0) := Lib.hid ⟨⟨T1.more ((Below.refl _ _).alloc (Nat.le_refl _) _) (fun k h => by
      rcases h with h | h
      · exact .inr ⟨by omega, by simp; omega⟩
      · simp [Value.ownBlock] at h), World.ownsRow_nil _ _ _ _, rel_nil⟩, BoxM.new _ _, hb1.size, Nat.le_refl _, Nat.le_refl _⟩
    clear T1 hb1
    unfold pt
    go_wp2_with fail
    generalize w1.alloc (.cells #[.slice none 0 0] 51) = w3 at *
    generalize w1.heap.size = t at *
    go_loopw [3, 20] (fun p i wr => ∃ k a s S gs P L, k ≤ len ∧ i = .int .i64 (k : Nat) ∧ p = .pointer (some ⟨a, 0, none⟩) ∧ Hid (PlW w wr a t s S gs P L k)) (fun _ i _ => len - (intOf i).toNat)
    case atStart => exact ⟨0, a1, _, _, _, _, _, Nat.zero_le _, rfl, rfl, hst⟩
    case round =>
      clear hst
      obtain ⟨k, a, s, S, gs, P, L, hk, rfl, rfl, HS⟩ := hrel
      by_cases hkl : k < len
      · obtain ⟨b, off, rfl, hlb, hbl, hcs⟩ : ∃ b off, sa = some ⟨b, off, none⟩ ∧ len ≤ 9223372036854775807 ∧ b < w.heap.size ∧ ∀ i, i < len → ∃ x0 x1 x2 x3 x4 : Int,
            w.cell? ⟨b, off + i * 5, none⟩ = some (.int .i64 x0) ∧ w.cell? ⟨b, off + i * 5 + 1, none⟩ = some (.int .i64 x1) ∧ w.cell? ⟨b, off + i * 5 + 2, none⟩ = some (.int .u64 x2) ∧ w.cell? ⟨b, off + i * 5 + 3, none⟩ = some (.int .i64 x3) ∧ w.cell? ⟨b, off + i * 5 + 4, none⟩ = some (.int .i64 x4) ∧
            (Lit.int .i64 x0).wf = true ∧ (Lit.int .i64 x1).wf = true ∧ (Lit.int .u64 x2).wf = true ∧ (Lit.int .i64 x3).wf = true ∧ (Lit.int .i64 x4).wf = true := by
          rcases HR.out with h | h
          · omega
          · exact h
        obtain ⟨x0, x1, x2, x3, x4, c0, c1, c2, c3, c4, _, _, q2, _, _⟩ := hcs k hkl
        have hq2 : x2 ≤ never := by have := (bounds_u64 q2).2; unfold never; omega
        clear q2
        have hbw := HS.out.R.T.below
        have c0 : wr.cell? ⟨b, off + k * 5, none⟩ = some (.int .i64 x0) := (hbw.cell (p := ⟨b, off + k * 5, none⟩) hbl).trans c0
        have c1 : wr.cell? ⟨b, off + k * 5 + 1, none⟩ = some (.int .i64 x1) := (hbw.cell (p := ⟨b, off + k * 5 + 1, none⟩) hbl).trans c1
        have c2 : wr.cell? ⟨b, off + k * 5 + 2, none⟩ = some (.int .u64 x2) := (hbw.cell (p := ⟨b, off + k * 5 + 2, none⟩) hbl).trans c2
        have c3 : wr.cell? ⟨b, off + k * 5 + 3, none⟩ = some (.int .i64 x3) := (hbw.cell (p := ⟨b, off + k * 5 + 3, none⟩) hbl).trans c3
        have c4 : wr.cell? ⟨b, off + k * 5 + 4, none⟩ = some (.int .i64 x4) := (hbw.cell (p := ⟨b, off + k * 5 + 4, none⟩) hbl).trans c4
        have hbr : b < wr.heap.size := Nat.lt_of_lt_of_le hbl hbw.size
        have hk2 : (k : Int) < (len : Int) := by omega
        have hk0 : (0 : Int) ≤ (k : Int) := by omega
        obtain ⟨va, vn, vc, rfl⟩ := row_form HS.out.R.row
        have hbx := HS.out.box
        have ht0 := hbx.cell
        have htl := hbx.lt
        have hdo := Lib.hid (do_any (HS.out.act (.cells #[.int .i64 x0, .int .i64 x1, .int .u64 x2, .int .i64 x3, .int .i64 x4] 55)) (by have := HS.out.hl; omega) (by have := HS.out.hP; omega) hT x0 x1 x2 x3 x4 hq2)
        have HB1 := Lib.hid (hbx.alloc (.cells #[.int .i64 x0, .int .i64 x1, .int .u64 x2, .int .i64 x3, .int .i64 x4] 55))
        have hne : ¬ t = wr.heap.size := by omega
        have hne' : t ≠ wr.heap.size := by omega
        have HB := Lib.hid (And.intro HS.out.tw (And.intro HS.out.hP HS.out.hl))
        clear hcs hbw hbx HS
        unfold pt at *
        go_wp2_with (go_at_call 15; fail)
        refine hdo.out.mono ?_
        rintro e w2 ⟨a', s', S', gs', P', L', rfl, R2, K2, hP2, hL2⟩
        have box2 : BoxM w2 t (.slice va vn vc) := (K2 t (.inl rfl)).trans HB1.out
        have act2 : w2.heap[wr.heap.size]? = some (.cells #[.int .i64 x0, .int .i64 x1, .int .u64 x2, .int .i64 x3, .int .i64 x4] 55 (0, 0)) := (K2 _ (.inr rfl)).trans (block_new _ _ _ rfl)
        have hst := R2.stored (k := k + 1) box2 HB.out.1 (by have := HB.out.2.1; omega) (by have := HB.out.2.2; omega)
        have act3 : (w2.setCell ⟨t, 0, none⟩ s').heap[wr.heap.size]? = some (.cells #[.int .i64 x0, .int .i64 x1, .int .u64 x2, .int .i64 x3, .int .i64 x4] 55 (0, 0)) := cells_set_other act2 (by omega) 0 s'
        obtain ⟨za, zn, zc, rfl⟩ := row_form R2.row
        have hzn : zn = L'.length := by
          rcases R2.row.2 with ⟨h', h0⟩ | ⟨_, _, _, h', _⟩
          · simp at h'; omega
          · simp at h'; exact h'.2.1
        subst hzn
        have j1 := box2.cell
        have j2 := box2.free
        have j3 := box2.lt
        have HST := Lib.hid hst
        have HA3 := Lib.hid act3
        clear hdo HB1 R2 K2 hP2 hL2 box2 act2 hst act3 HB
        unfold pt at *
        go_wp2_with fail
        have hvt : w2.heap.size = (w2.setCell ⟨t, 0, none⟩ (.slice za L'.length zc)).heap.size := by simp
        generalize w2.setCell ⟨t, 0, none⟩ (.slice za L'.length zc) = V at *
        have t0 := HST.out.box.cell
        have tl := HST.out.box.lt
        have T0 := cell_grn (w := V) (a := ⟨t, 0, none⟩) tl t0
        have al := lt_of_block HA3.out
        have A3 := cell_grn (w := V) (a := ⟨wr.heap.size, 3, none⟩) al (cells_cell HA3.out (o := 3) rfl)
        have A4 := cell_grn (w := V) (a := ⟨wr.heap.size, 4, none⟩) al (cells_cell HA3.out (o := 4) rfl)
        have hLL : L'.length ≤ 80000 := by have := HST.out.hl; omega
        have hgV : ∀ m os, Grn V (grow (V.drewN m) os) := fun m os => ⟨m, os, rfl⟩
        have HL1 : Hid (∀ m os, Calls Tryd.prog 16 #[.pointer (some ⟨a', 0, none⟩)] (grow (V.drewN m) os) fun e w' => e = .returned (.int .i64 (S'.length : Nat)) ∧ Grn (grow (V.drewN m) os) w') := Lib.hid (fun m os => by
          refine (tlen_in (HST.out.R.T.grown (hgV m os).below)).mono ?_
          rintro e w' ⟨rfl, rfl⟩
          exact ⟨rfl, Grn.refl _⟩)
        have HL2 : Hid (∀ m os, Calls Tryd.prog 17 #[.agg #[.slice za L'.length zc]] (grow (V.drewN m) os) fun e w' => e = .returned (.int .i64 (S'.length : Nat)) ∧ Grn (grow (V.drewN m) os) w') := Lib.hid (fun m os => by
          have h1 := mlen_any ((HST.out.R.row.below (hgV m os).below).mono (Nat.zero_le _)) (by omega)
          rwa [HST.out.R.rel.len] at h1)
        have HN1 : Hid (∀ m os, Calls Tryd.prog 18 #[.pointer (some ⟨a', 0, none⟩)] (grow (V.drewN m) os) fun e w' => e = .returned (.int .u64 (nextK S')) ∧ Grn (grow (V.drewN m) os) w') := Lib.hid (fun m os => tnext_in (HST.out.R.T.grown (hgV m os).below))
        have HN2 : Hid (∀ m os, Calls Tryd.prog 19 #[.agg #[.slice za L'.length zc]] (grow (V.drewN m) os) fun e w' => e = .returned (.int .u64 (nextK S')) ∧ Grn (grow (V.drewN m) os) w') := Lib.hid (fun m os => by
          refine (mnext_any ((HST.out.R.row.below (hgV m os).below).mono (Nat.zero_le _)) (by omega)).mono ?_
          rintro e w' ⟨v, rfl, hv, hg⟩
          rw [rel_next HST.out.R.rel hv]
          exact ⟨rfl, hg⟩)
        have HG : Hid (∀ m os n g, Calls Tryd.prog 20 #[.pointer (some ⟨a', 0, none⟩), .agg #[.slice za L'.length zc], .agg #[.int .i64 n, .int .i64 g]] (grow (V.drewN m) os) fun e w' => e = .returned (.bool true) ∧ Grn (grow (V.drewN m) os) w') := Lib.hid (fun m os n g => gets_any (HST.out.R.grown (hgV m os).below) (by omega) n g)
        have g1 : ((S'.length : Int) != (S'.length : Int)) = false := by simp
        have g2 : (nextK S' != nextK S') = false := by simp
        clear t0 HA3 hgV
        go_wp2_with fail
        refine wp_region_quiet_grown mixed (by kernel_rfl) ?_
        repeat (go_big_quiet_step (first
          | (go_at_call 16; refine Calls.grown_of (HL1.out _ _))
          | (go_at_call 17; refine Calls.grown_of (HL2.out _ _))
          | (go_at_call 18; refine Calls.grown_of (HN1.out _ _))
          | (go_at_call 19; refine Calls.grown_of (HN2.out _ _))
          | (go_at_call 20; refine Calls.grown_of (HG.out _ _ _ _))))
        refine wpQuiet_nil ?_
        intro _ hw'
        obtain ⟨⟨nq, osq⟩, hw''⟩ := hw'
        subst hw''
        have HGV : Hid (Grn V (grow (V.drewN nq) osq)) := Lib.hid ⟨nq, osq, rfl⟩
        have t0 := T0 nq osq
        clear T0 A3 A4 HL1 HL2 HN1 HN2 HG
        generalize grow (V.drewN nq) osq = U at *
        go_wp2_with fail
        go_loopw [59] (fun v wu => ∃ j : Nat, j ≤ L'.length ∧ v = .int .i64 (j : Nat) ∧ Hid (Grn V wu)) (fun v _ => L'.length - (intOf v).toNat)
        case atStart => exact ⟨0, Nat.zero_le _, rfl, HGV⟩
        case round =>
          clear HGV t0
          obtain ⟨j, hj, rfl, HU⟩ := hrel
          by_cases hjl : j < L'.length
          · obtain ⟨x, hx⟩ : ∃ x, L'[j]? = some x := ⟨_, List.getElem?_eq_getElem hjl⟩
            have hU := HST.out.grown HU.out.below
            obtain ⟨gg, c1, h1, _, _⟩ := row_some hU.R.row (by omega)
            simp only [Value.slice.injEq] at h1
            obtain ⟨rfl, _, rfl⟩ := h1
            obtain ⟨a0, a1', a2, a3, a4⟩ := hU.R.row.cells j x hx
            have bl : gg < wr.heap.size := by simpa using World.block_lt_of_cell? wr _ a0
            have t1 := hU.box.cell
            have tl1 := hU.box.lt
            have hji : (j : Int) < (L'.length : Int) := by omega
            have hj0 : (0 : Int) ≤ (j : Int) := by omega
            have hLi : (L'.length : Int) ≤ 80000 := by omega
            obtain ⟨Y, hY⟩ : ∃ Y, wr.alloc (.cells #[.int .i64 x.n, .int .i64 x.g, .int .i64 x.o, .int .u64 x.k, .bool x.gone] 62) = Y := ⟨_, rfl⟩
            have hgY : Grn wr Y := by rw [← hY]; exact (Grn.refl _).alloc _
            have hgets := Lib.hid (gets_any (hU.R.grown hgY.below) (by omega) x.n x.g)
            have hnt : ¬ t = wr.heap.size := by omega
            have HY := Lib.hid hY
            have HGY := Lib.hid hgY
            clear hx hU hY hgY
            unfold pt at *
            go_wp2_with (first | (rw [HY.out]; fail) | (go_at_call 20; fail))
            rw [HY.out]
            refine hgets.out.mono ?_
            rintro e w9 ⟨rfl, hg9⟩
            have HU9 : Hid (Grn V w9) := Lib.hid ((HU.out.trans HGY.out).trans hg9)
            clear hg9 hgets HU HY HGY
            go_wp2_with fail
            go_roundw
            case rel => exact ⟨j + 1, by omega, by go_num, HU9⟩
            case measure => simp [intOf]; omega
          · obtain rfl : j = L'.length := by omega
            have hU := Lib.hid (HST.out.grown HU.out.below)
            have hjj : decide ((L'.length : Int) < (L'.length : Int)) = false := by simp
            clear HST HU
            go_wp2_with fail
            go_roundw
            case rel => exact ⟨k + 1, a', _, _, _, _, _, by omega, by go_num, rfl, hU⟩
            case measure => simp [intOf]; omega
      · obtain rfl : len = k := by omega
        have hkk : decide ((len : Int) < (len : Int)) = false := by simp
        have hb := HS.out.R.T.below
        have hk := Lib.hid (tknown_any wr (hT.below hb hT.lt))
        have HB := Lib.hid hb
        clear hb HS
        go_wp2_with (go_at_call 13; refine hk.out.mono ?_; rintro e w9 ⟨rfl, hb9⟩)
        go_ret
        exact ⟨rfl, HB.out.trans (hb9.mono HB.out.size)⟩
end Go.Proofs.YthlbnlbkgiclpaaDoor
