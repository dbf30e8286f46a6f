/- The walk of PollerHolds. -/
import Derived.Test.YtcjeckjmoponkaaGreatDoorUHl
namespace Go.Proofs.YtcjeckjmoponkaaGreatDoor
open Go.RowKit Go.Sort
set_option linter.unusedVariables false
set_option linter.unusedSimpArgs false
set_option maxRecDepth 100000 in
set_option maxHeartbeats 12800000 in
theorem holds_main (c N cap : Nat) (nw : Int) (la : Option Addr) (w : World) (hL : MvAt w ∧ Dl.Tab w) (h1 : 1 ≤ c) (h2 : c ≤ 64) (hnw : nw < Dl.never) (hA : IsActs11 w la N cap) (hN : N ≤ 70) :
    Calls Tryz.prog 7 #[.int .i64 ((c : Nat) : Int), .int .u64 nw, .slice la N cap] w fun e w' => e = .returned (.bool true) ∧ Below w.heap.size w w' := by
  have HT0 := Lib.hid hL.2
  have HM := Lib.hid hL
  have HA := Lib.hid hA
  have HNW := Lib.hid (ls_new (w0 := w) (Bs := fun _ => False) (Below.refl _ w) hL.1 hL.1.lt (fun k hk => hk.elim) c h1 h2 hnw)
  have HNN := Lib.hid hnw
  have HCC := Lib.hid (And.intro h1 h2)
  have d1 : decide (((c : Nat) : Int) < 1) = false := by simp; omega
  have d2 : decide (64 < ((c : Nat) : Int)) = false := by simp; omega
  have hN70 : decide (70 < ((N : Nat) : Int)) = false := by simp; omega
  have d3 : (nw == 18446744073709551615) = false := by unfold Dl.never at hnw; simp; omega
  have hcI : ((c : Nat) : Int) ≤ 64 := by omega
  have iN : ((N : Nat) : Int) ≤ 70 := by omega
  clear hL h1 h2 hnw hA
  go_enter Tryz.func7, Tryz.ntmps7
  go_wp2_with (go_at_call 9; fail)
  refine HNW.out.mono ?_
  rintro e w1 ⟨p, rfl, hl, hb⟩
  have HPI : Hid (PI (X0 c nw) 0) := Lib.hid (PI.init hl.zk HNN.out)
  have HL := Lib.hid (hl.mono (G' := 65 * 0) (P' := 2 * 0) (by omega) (by omega))
  clear hl hb HNW d1 d2 d3 hN70
  go_wp2_with fail
  go_loopw [60] (fun i wr => ∃ (k : Nat) (x : Px), k ≤ N ∧ i = .int .i64 ((k : Nat) : Int) ∧ Hid (LSt w wr (fun _ => False) p x (65 * k) (2 * k)) ∧ Hid (PI x k) ∧ Hid (x.z.S.length = c)) (fun i _ => N - (intOf i).toNat)
  case atStart => exact ⟨0, _, Nat.zero_le _, rfl, HL, HPI, Lib.hid (by simp [X0, Z0])⟩
  case round =>
    clear HL HPI
    obtain ⟨k, x, hk, rfl, HL, HP, HS⟩ := hrel
    by_cases hlt : k < N
    · have q3 : (k : Int) < (N : Int) := by omega
      have HLT := Lib.hid hlt
      obtain ⟨lb, off, rfl, hbl, hac⟩ := HA.out.2.resolve_left (by omega)
      obtain ⟨ac, c0, c1, c2, c3, c4, c5, c6, ht0, ht1⟩ := hac k hlt
      have hcg := Rp.below_cells HL.out.below
      have k0 := hcg _ _ c0
      have k1 := hcg _ _ c1
      have k2 := hcg _ _ c2
      have k3 := hcg _ _ c3
      have k4 := hcg _ _ c4
      have k5 := hcg _ _ c5
      have k6 := hcg _ _ c6
      have hlbl : lb < wr.heap.size := Nat.lt_of_lt_of_le hbl HL.out.below.size
      have HTT := Lib.hid (And.intro ht0 ht1)
      have HTN : Hid (∀ c1 c2 c3 : Array Value, c1.size = 128 → c2.size = 64 → c3.size = 64 → HT ((((wr.alloc (.cells (rowA ac) 50)).alloc (.cells c1 96)).alloc (.cells c2 97)).alloc (.cells c3 98)) wr.heap.size (wr.heap.size + 1) (wr.heap.size + 1 + 1) (wr.heap.size + 1 + 1 + 1) ac x 0 ∧ LSt w ((((wr.alloc (.cells (rowA ac) 50)).alloc (.cells c1 96)).alloc (.cells c2 97)).alloc (.cells c3 98)) (B4 wr.heap.size (wr.heap.size + 1) (wr.heap.size + 1 + 1) (wr.heap.size + 1 + 1 + 1)) p x (65 * k) (2 * k)) := Lib.hid (fun c1 c2 c3 h1 h2 h3 => ⟨ht_new wr ac x c1 c2 c3 h1 h2 h3, ls_four HL.out _ _ _ _⟩)
      clear c0 c1 c2 c3 c4 c5 c6 ht0 ht1 hcg hbl hac HL
      unfold rowA at HTN
      go_wp2_with fail
      obtain ⟨ba, hba⟩ : ∃ ba, ba = wr.heap.size := ⟨_, rfl⟩
      have HBA := Lib.hid hba
      clear hba
      rw [← HBA.out] at HTN ⊢
      go_loopw [14] (fun i wx => ∃ n : Nat, n ≤ c ∧ i = .int .i64 ((n : Nat) : Int) ∧ Hid (HT wx ba (ba + 1) (ba + 1 + 1) (ba + 1 + 1 + 1) ac x n) ∧ Hid (LSt w wx (B4 ba (ba + 1) (ba + 1 + 1) (ba + 1 + 1 + 1)) p x (65 * k) (2 * k))) (fun i _ => c - (intOf i).toNat)
      case atStart =>
        refine ⟨0, Nat.zero_le _, rfl, Lib.hid (HTN.out _ _ _ ?_ ?_ ?_).1, Lib.hid (HTN.out _ _ _ ?_ ?_ ?_).2⟩ <;> kernel_rfl
      case round =>
        obtain ⟨n, hn, rfl, HH, HL⟩ := hrel
        clear k0 k1 k2 k3 k4 k5 k6 HTN hlbl HBA
        by_cases hnc : n < c
        · have q4 : (n : Int) < (c : Int) := by omega
          have q5 : n < 64 := by have := HCC.out; omega
          have q6 : (n : Int) < 64 := by omega
          have hw := Lib.hid (ls_where HL.out ((n : Nat) : Int))
          have HE := Lib.hid (show wheC x ((n : Nat) : Int) = wheC x ((n : Nat) : Int) from rfl)
          go_wp2_with (go_at_call 25; fail)
          refine hw.out.mono ?_
          rintro e u1 ⟨rfl, hb⟩
          have HH1 := Lib.hid (HH.out.grown hb)
          have HL1 := Lib.hid (HL.out.grown hb)
          obtain ⟨W, hW, hg, hs, hb0⟩ := alloc1 u1 (.cells #[.int .i64 (wheC x ((n : Nat) : Int)).1.1, .int .i64 (wheC x ((n : Nat) : Int)).1.2] 47)
          have HH2 := Lib.hid (HH1.out.grown hg.below)
          have HL2 := Lib.hid (HL1.out.grown hg.below)
          have HWW := Lib.hid hW
          have HBL : Hid (ba + 1 + 1 + 1 < u1.heap.size) := Lib.hid (HH1.out.lt (ba + 1 + 1 + 1) (Or.inr (Or.inr (Or.inr rfl))))
          have HB0 := Lib.hid hb0
          clear hb hw HH HL HH1 HL1 hW hg hs hb0
          go_upto_region 16 with (fail)
          rw [HWW.out]
          clear HWW
          have hblt := HBL.out
          generalize u1.heap.size = bx at *
          have x0 := cells_cell (o := 0) HB0.out rfl
          have x1 := cells_cell (o := 1) HB0.out rfl
          obtain ⟨fa, t1, e1⟩ := HH2.out.F
          obtain ⟨fd, t2, e2⟩ := HH2.out.D
          obtain ⟨fb, t3, e3⟩ := HH2.out.B
          have y1 := t1.cell (x := n * 2) (by omega)
          have y2 := t1.cell (x := n * 2 + 1) (by omega)
          have y3 := t2.cell (x := n) (by omega)
          have y4 := t3.cell (x := n) (by omega)
          have z1 := t1.free (n * 2)
          have z2 := t1.free (n * 2 + 1)
          have z3 := t2.free n
          have z4 := t3.free n
          have l1 := t1.lt
          have l2 := t2.lt
          have l3 := t3.lt
          have HT1 := Lib.hid t1
          have HT2 := Lib.hid t2
          have HT3 := Lib.hid t3
          have HE1 := Lib.hid e1
          have HE2 := Lib.hid e2
          have HE3 := Lib.hid e3
          clear t1 t2 t3 e1 e2 e3
          go_wp2_with fail
          clear y1 y2 y3 y4 z1 z2 z3 z4 l1 l2 l3 HT1 HT2 HT3 HE1 HE2 HE3 x0 x1 HB0
          have hput := ht_put HH2.out HL2.out q5
          have HPU := Lib.hid hput
          clear hput HH2 HL2
          go_roundw
          case rel => exact ⟨n + 1, hnc, by go_num, Lib.hid HPU.out.1, Lib.hid HPU.out.2⟩
          case measure => simp [intOf]; omega
        · obtain rfl : n = c := by omega
          have kA : wr.cell? ⟨ba, 0, none⟩ = some (.int .i64 ac.what) := cells_cell HH.out.A rfl
          go_upto_block 4 with (fail)
          have k1 : wr.cell? ⟨ba, 1, none⟩ = some (.int .i64 ac.val) := cells_cell HH.out.A rfl
          have k2 : wr.cell? ⟨ba, 2, none⟩ = some (.int .i64 ac.task) := cells_cell HH.out.A rfl
          have k3 : wr.cell? ⟨ba, 3, none⟩ = some (.int .i64 ac.N) := cells_cell HH.out.A rfl
          have k4 : wr.cell? ⟨ba, 4, none⟩ = some (.int .i64 ac.K) := cells_cell HH.out.A rfl
          have k5 : wr.cell? ⟨ba, 5, none⟩ = some (.int .i64 ac.D) := cells_cell HH.out.A rfl
          have k6 : wr.cell? ⟨ba, 6, none⟩ = some (.int .u64 ac.t) := cells_cell HH.out.A rfl
          clear kA
          obtain ⟨aw, haw⟩ : ∃ v, v = ac.what := ⟨_, rfl⟩
          rw [← haw]
          clear haw
          go_cut [18, 19] (fun s1 y1 wx => ∃ (X : List Int) (why : Int) (x' : Px), y1 = .int .i64 why ∧ Hid (Src TI wx s1 X) ∧ Hid (HT wx ba (ba + 1) (ba + 1 + 1) (ba + 1 + 1 + 1) ac x n) ∧ Hid (LSt w wx (B4 ba (ba + 1) (ba + 1 + 1) (ba + 1 + 1 + 1)) p x' (65 * (k + 1)) (2 * (k + 1))) ∧ Hid (PI x' (k + 1)) ∧ Hid (SO x x' X why ac.N ac.K))
          case first =>
            by_cases q0 : aw = 0
            · as_aux_lemma =>
              subst q0
              have HC := Lib.hid (ls_open HL.out ac.val)
              go_wp2_with (go_at_call 13; fail)
              refine HC.out.mono ?_
              rintro e u1 ⟨rfl, hp⟩
              have hpi := HP.out.opn ac.val hp.st.zk
              have HH1 := Lib.hid (HH.out.keep hp.keep)
              have HL1 := Lib.hid hp.st
              obtain ⟨p1, p2, p3⟩ := hpi
              have HL2 := Lib.hid (HL1.out.mono (G' := 65 * (k + 1)) (P' := 2 * (k + 1)) (by omega) (by omega))
              have HP1 := Lib.hid (p1.mono (B' := k + 1) (by omega))
              have HSO1 := Lib.hid (p2.nk (by decide) ac.N ac.K)
              have HP3 := Lib.hid p3
              clear hp p1 p2 p3 HC HH HL HL1 k1 k2 k3 k4 k5 k6
              generalize (opnC x ac.val).2.2 = x1 at *
              generalize (opnC x ac.val).1.1 = oN at *
              generalize (opnC x ac.val).1.2 = oK at *
              generalize (opnC x ac.val).2.1 = oc at *
              obtain ⟨z2, hz, hg, hs, hb0⟩ := alloc1 u1 (.cells #[.int .i64 oN, .int .i64 oK] 47)
              have HH2 := Lib.hid (HH1.out.grown hg.below)
              have HL3 := Lib.hid (HL2.out.grown hg.below)
              have HB0 := Lib.hid hb0
              have HZZ := Lib.hid hz
              clear HH1 HL2 hz hg hs hb0
              go_upto_region 22 with (fail)
              rw [HZZ.out]
              clear HZZ
              generalize u1.heap.size = bz at *
              have l0 := cells_cell (o := 0) HB0.out rfl
              have l1 := cells_cell (o := 1) HB0.out rfl
              by_cases hoc : oc = 0
              · subst hoc
                have q := ls_check HL3.out oN oK 0
                rw [HP3.out (by first | rfl | trivial) 0 (.inl rfl)] at q
                have HC := Lib.hid q
                clear q
                go_wp2_with (go_at_call 26; fail)
                refine HC.out.mono ?_
                rintro e z3 ⟨rfl, hb⟩
                have HH4 := Lib.hid (HH2.out.grown hb)
                have HL4 := Lib.hid (HL3.out.grown hb)
                have hb1 := (hb.block _ (lt_of_block HB0.out)).trans HB0.out
                have m0 := cells_cell (o := 0) hb1 rfl
                have m1 := cells_cell (o := 1) hb1 rfl
                have q := ls_check HL4.out oN oK 1
                rw [HP3.out (by first | rfl | trivial) 1 (.inr rfl)] at q
                have HC2 := Lib.hid q
                clear q hb HC HH2 HL3 HB0 l0 l1 hb1
                go_wp2_with (go_at_call 26; fail)
                refine HC2.out.mono ?_
                rintro e z4 ⟨rfl, hb⟩
                have HH5 := Lib.hid (HH4.out.grown hb)
                have HL5 := Lib.hid (HL4.out.grown hb)
                clear hb HC2 HH4 HL4 m0 m1 HP3
                go_wp2_with fail
                go_meet
                exact ⟨_, 0, _, rfl, Lib.hid ((Row.nil _ 0).src TI_ok), HH5, HL5, HP1, HSO1⟩
              · have w0 : (oc == 0) = false := by simpa using hoc
                clear hoc HP3 HB0
                go_wp2_with fail
                go_meet
                exact ⟨_, 0, _, rfl, Lib.hid ((Row.nil _ 0).src TI_ok), HH2, HL3, HP1, HSO1⟩
            · by_cases q1 : aw = 1
              · as_aux_lemma =>
                subst q1
                have HC := Lib.hid (ls_close HL.out (by have := HLT.out; omega) HT0.out (by have := HLT.out; omega) (fun m q hq => Nat.le_trans (HP.out.gb m q hq) (by have := HLT.out; omega)) ac.N ac.K)
                go_wp2_with (go_at_call 15; fail)
                refine HC.out.mono ?_
                rintro e u1 ⟨v, rfl, hw⟩
                obtain ⟨p1, p2⟩ := HP.out.clo ac.N ac.K hw.st.zk
                have hnm := p2.num
                have HH1 := Lib.hid (HH.out.keep hw.keep)
                have HL1 := Lib.hid ((hw.st.less (fun g hg => .inl hg)).mono (G' := 65 * (k + 1)) (P' := 2 * (k + 1)) (by omega) (by omega))
                have HS1 := Lib.hid (hw.row.src TI_ok)
                have HP1 := Lib.hid (p1.mono (B' := k + 1) (by omega))
                have HSO1 := Lib.hid p2
                clear hw p1 p2 hnm HC HH HL k1 k2 k3 k4 k5 k6
                go_wp2_with fail
                go_meet
                exact ⟨_, 3, _, rfl, HS1, HH1, HL1, HP1, HSO1⟩
              · by_cases q2 : aw = 2
                · as_aux_lemma =>
                  subst q2
                  have HC := Lib.hid (ls_deadline HL.out (by have := HLT.out; omega) HT0.out (by have := HLT.out; omega) ac.N ac.K ac.D HTT.out.2)
                  go_wp2_with (go_at_call 19; fail)
                  refine HC.out.mono ?_
                  rintro e u1 ⟨v, rfl, hw⟩
                  obtain ⟨p1, p2⟩ := HP.out.dln ac.N ac.K ac.D ac.t hw.st.zk
                  have hnm := p2.num
                  have HH1 := Lib.hid (HH.out.keep hw.keep)
                  have HL1 := Lib.hid ((hw.st.less (fun g hg => .inl hg)).mono (G' := 65 * (k + 1)) (P' := 2 * (k + 1)) (by omega) (by omega))
                  have HS1 := Lib.hid (hw.row.src TI_ok)
                  have HP1 := Lib.hid (p1.mono (B' := k + 1) (by omega))
                  have HSO1 := Lib.hid (p2.nk (by decide) ac.N ac.K)
                  clear hw p1 p2 hnm HC HH HL k1 k2 k3 k4 k5 k6
                  go_wp2_with fail
                  go_meet
                  exact ⟨_, 2, _, rfl, HS1, HH1, HL1, HP1, HSO1⟩
                · by_cases q3 : aw = 3
                  · as_aux_lemma =>
                    subst q3
                    have HC := Lib.hid (ls_wait HL.out (by have := HLT.out; omega) ac.task ac.N ac.K ac.D)
                    go_wp2_with (go_at_call 27; fail)
                    refine HC.out.mono ?_
                    rintro e u1 ⟨rfl, hp⟩
                    have hpi := HP.out.wai ac.task ac.N ac.K ac.D hp.st.zk
                    have HH1 := Lib.hid (HH.out.keep hp.keep)
                    have HL1 := Lib.hid hp.st
                    obtain ⟨p1, p2⟩ := hpi
                    have HL2 := Lib.hid (HL1.out.mono (G' := 65 * (k + 1)) (P' := 2 * (k + 1)) (by omega) (by omega))
                    have HP1 := Lib.hid (p1.mono (B' := k + 1) (by omega))
                    have HSO1 := Lib.hid (p2.nk (by decide) ac.N ac.K)
                    clear hp p1 p2 HC HH HL HL1 k1 k2 k3 k4 k5 k6
                    go_wp2_with fail
                    go_meet
                    exact ⟨_, 0, _, rfl, Lib.hid ((Row.nil _ 0).src TI_ok), HH1, HL2, HP1, HSO1⟩
                  · by_cases q4 : aw = 4
                    · as_aux_lemma =>
                      subst q4
                      have HC := Lib.hid (ls_signal HL.out (by have := HLT.out; omega) ac.N ac.K ac.D)
                      go_wp2_with (go_at_call 20; fail)
                      refine HC.out.mono ?_
                      rintro e u1 ⟨rfl, hp⟩
                      have hpi := HP.out.sig ac.N ac.K ac.D hp.st.zk
                      have HH1 := Lib.hid (HH.out.keep hp.keep)
                      have HL1 := Lib.hid hp.st
                      obtain ⟨p1, p2⟩ := hpi
                      have HL2 := Lib.hid (HL1.out.mono (G' := 65 * (k + 1)) (P' := 2 * (k + 1)) (by omega) (by omega))
                      have HP1 := Lib.hid (p1.mono (B' := k + 1) (by omega))
                      have HSO1 := Lib.hid (p2.nk (by decide) ac.N ac.K)
                      clear hp p1 p2 HC HH HL HL1 k1 k2 k3 k4 k5 k6
                      generalize (sigC x ac.N ac.K ac.D).2.2 = x1 at *
                      generalize (sigC x ac.N ac.K ac.D).1 = oN at *
                      generalize (sigC x ac.N ac.K ac.D).2.1 = oc at *
                      by_cases hoc : oc = 0
                      · subst hoc
                        rw [if_pos rfl] at HSO1
                        have hb := below_alloc u1 (.cells #[.int .i64 oN] 3)
                        have HH2 := Lib.hid (HH1.out.grown hb)
                        have HL3 := Lib.hid (HL2.out.grown hb)
                        have HS1 : Hid (Src TI (u1.alloc (.cells #[.int .i64 oN] 3)) (.slice (some ⟨u1.heap.size, 0, none⟩) 1 1) [oN]) := Lib.hid (src_new TI_ok u1 oN #[.int .i64 oN] rfl)
                        clear hb HH1 HL2
                        go_wp2_with fail
                        go_meet
                        exact ⟨_, 1, _, rfl, HS1, HH2, HL3, HP1, HSO1⟩
                      · have w0 : (oc == 0) = false := by simpa using hoc
                        rw [if_neg hoc] at HSO1
                        clear hoc
                        go_wp2_with fail
                        go_meet
                        exact ⟨_, 1, _, rfl, Lib.hid ((Row.nil _ 0).src TI_ok), HH1, HL2, HP1, HSO1⟩
                    · by_cases q5 : aw = 5
                      · as_aux_lemma =>
                        subst q5
                        have HC := Lib.hid (ls_signalAll HL.out (by have := HLT.out; omega) ac.N ac.K ac.D)
                        go_wp2_with (go_at_call 21; fail)
                        refine HC.out.mono ?_
                        rintro e u1 ⟨v, rfl, hw⟩
                        obtain ⟨p1, p2⟩ := HP.out.sga ac.N ac.K ac.D hw.st.zk
                        have hnm := p2.num
                        have HH1 := Lib.hid (HH.out.keep hw.keep)
                        have HL1 := Lib.hid ((hw.st.less (fun g hg => .inl hg)).mono (G' := 65 * (k + 1)) (P' := 2 * (k + 1)) (by omega) (by omega))
                        have HS1 := Lib.hid (hw.row.src TI_ok)
                        have HP1 := Lib.hid (p1.mono (B' := k + 1) (by omega))
                        have HSO1 := Lib.hid (p2.nk (by decide) ac.N ac.K)
                        clear hw p1 p2 hnm HC HH HL k1 k2 k3 k4 k5 k6
                        go_wp2_with fail
                        go_meet
                        exact ⟨_, 1, _, rfl, HS1, HH1, HL1, HP1, HSO1⟩
                      · by_cases q6 : aw = 6
                        · as_aux_lemma =>
                          subst q6
                          by_cases ht : ac.t = Dl.never
                          · have q := ls_adv_never HL.out
                            rw [← ht] at q
                            have HC := Lib.hid q
                            clear q ht
                            go_wp2_with (go_at_call 22; fail)
                            refine HC.out.mono ?_
                            rintro e u1 ⟨rfl, hb⟩
                            have HH1 := Lib.hid (HH.out.grown hb)
                            have HL2 := Lib.hid ((HL.out.grown hb).mono (G' := 65 * (k + 1)) (P' := 2 * (k + 1)) (by omega) (by omega))
                            have HP1 := Lib.hid (HP.out.mono (B' := k + 1) (by omega))
                            have HSO1 := Lib.hid (SO.same x 2 ac.N ac.K)
                            clear hb HC HH HL k1 k2 k3 k4 k5 k6
                            go_wp2_with fail
                            go_meet
                            exact ⟨_, 2, _, rfl, Lib.hid ((Row.nil _ 0).src TI_ok), HH1, HL2, HP1, HSO1⟩
                          · by_cases hl : ac.t < x.now
                            · have q := ls_adv_early HL.out ht hl
                              have HC := Lib.hid q
                              clear q ht hl
                              go_wp2_with (go_at_call 22; fail)
                              refine HC.out.mono ?_
                              rintro e u1 ⟨rfl, hb⟩
                              have HH1 := Lib.hid (HH.out.grown hb)
                              have HL2 := Lib.hid ((HL.out.grown hb).mono (G' := 65 * (k + 1)) (P' := 2 * (k + 1)) (by omega) (by omega))
                              have HP1 := Lib.hid (HP.out.mono (B' := k + 1) (by omega))
                              have HSO1 := Lib.hid (SO.same x 2 ac.N ac.K)
                              clear hb HC HH HL k1 k2 k3 k4 k5 k6
                              go_wp2_with fail
                              go_meet
                              exact ⟨_, 2, _, rfl, Lib.hid ((Row.nil _ 0).src TI_ok), HH1, HL2, HP1, HSO1⟩
                            · have q := ls_adv_ok HL.out (by have := HLT.out; omega) (by have := HLT.out; omega) (tt := ac.t) (by have := HTT.out.2; omega) (by omega)
                              have HTL : Hid (ac.t < Dl.never ∧ x.now ≤ ac.t) := Lib.hid ⟨by have := HTT.out.2; omega, by omega⟩
                              have HC := Lib.hid q
                              clear q ht hl
                              go_wp2_with (go_at_call 22; fail)
                              refine HC.out.mono ?_
                              rintro e u1 ⟨L, v, rfl, hil, hw⟩
                              obtain ⟨p1, p2⟩ := HP.out.adv HTL.out.1 HTL.out.2 hil hw.st.zk
                              have hnm := p2.num
                              have HH1 := Lib.hid (HH.out.keep hw.keep)
                              have HL1 := Lib.hid ((hw.st.less (fun g hg => .inl hg)).mono (G' := 65 * (k + 1)) (P' := 2 * (k + 1)) (by omega) (by omega))
                              have HS1 := Lib.hid (hw.row.src TI_ok)
                              have HP1 := Lib.hid (p1.mono (B' := k + 1) (by omega))
                              have HSO1 := Lib.hid (p2.nk (by decide) ac.N ac.K)
                              clear hw p1 p2 hnm HC HH HL k1 k2 k3 k4 k5 k6
                              go_wp2_with fail
                              go_meet
                              exact ⟨_, 2, _, rfl, HS1, HH1, HL1, HP1, HSO1⟩
                        · by_cases q7 : aw = 7
                          · as_aux_lemma =>
                            subst q7
                            have HC := Lib.hid (ls_start HL.out (by have := HLT.out; omega) ac.task)
                            go_wp2_with (go_at_call 28; fail)
                            refine HC.out.mono ?_
                            rintro e u1 ⟨rfl, hp⟩
                            have hpi := HP.out.sta ac.task hp.st.zk
                            have HH1 := Lib.hid (HH.out.keep hp.keep)
                            have HL1 := Lib.hid hp.st
                            obtain ⟨p1, p2, p3⟩ := hpi
                            have HL2 := Lib.hid (HL1.out.mono (G' := 65 * (k + 1)) (P' := 2 * (k + 1)) (by omega) (by omega))
                            have HP1 := Lib.hid (p1.mono (B' := k + 1) (by omega))
                            have HSO1 := Lib.hid (p2.nk (by decide) ac.N ac.K)
                            have HP3 := Lib.hid p3
                            have m2 : u1.cell? ⟨ba, 2, none⟩ = some (.int .i64 ac.task) := cells_cell HH1.out.A rfl
                            clear hp p1 p2 p3 HC HH HL HL1 k1 k2 k3 k4 k5 k6
                            generalize (staC x ac.task).2 = x1 at *
                            generalize (staC x ac.task).1 = oc at *
                            by_cases hoc : oc = 0
                            · subst hoc
                              have q := reason_any HL2.out (HP3.out (by first | rfl | trivial)) (y := 0)
                              rw [decide_eq_true rfl] at q
                              have HC := Lib.hid q
                              clear q HP3
                              go_wp2_with (go_at_call 35; fail)
                              refine HC.out.mono ?_
                              rintro e z4 ⟨rfl, hb⟩
                              have HH5 := Lib.hid (HH1.out.grown hb)
                              have HL5 := Lib.hid (HL2.out.grown hb)
                              clear hb HC HH1 HL2
                              go_wp2_with fail
                              go_meet
                              exact ⟨_, 0, _, rfl, Lib.hid ((Row.nil _ 0).src TI_ok), HH5, HL5, HP1, HSO1⟩
                            · have w0 : (oc == 0) = false := by simpa using hoc
                              clear hoc HP3
                              go_wp2_with fail
                              go_meet
                              exact ⟨_, 0, _, rfl, Lib.hid ((Row.nil _ 0).src TI_ok), HH1, HL2, HP1, HSO1⟩
                          · by_cases q8 : aw = 8
                            · as_aux_lemma =>
                              subst q8
                              have HC := Lib.hid (ls_finish HL.out (by have := HLT.out; omega) ac.task)
                              go_wp2_with (go_at_call 29; fail)
                              refine HC.out.mono ?_
                              rintro e u1 ⟨rfl, hp⟩
                              have hpi := HP.out.fin ac.task hp.st.zk
                              have HH1 := Lib.hid (HH.out.keep hp.keep)
                              have HL1 := Lib.hid hp.st
                              obtain ⟨p1, p2⟩ := hpi
                              have HL2 := Lib.hid (HL1.out.mono (G' := 65 * (k + 1)) (P' := 2 * (k + 1)) (by omega) (by omega))
                              have HP1 := Lib.hid (p1.mono (B' := k + 1) (by omega))
                              have HSO1 := Lib.hid (p2.nk (by decide) ac.N ac.K)
                              clear hp p1 p2 HC HH HL HL1 k1 k2 k3 k4 k5 k6
                              go_wp2_with fail
                              go_meet
                              exact ⟨_, 0, _, rfl, Lib.hid ((Row.nil _ 0).src TI_ok), HH1, HL2, HP1, HSO1⟩
                            · by_cases q9 : aw = 9
                              · as_aux_lemma =>
                                subst q9
                                have HC := Lib.hid (ls_turn HL.out (by have := HLT.out; omega) ac.task)
                                go_wp2_with (go_at_call 30; fail)
                                refine HC.out.mono ?_
                                rintro e u1 ⟨rfl, hp⟩
                                have hpi := HP.out.tur ac.task hp.st.zk
                                have HH1 := Lib.hid (HH.out.keep hp.keep)
                                have HL1 := Lib.hid hp.st
                                obtain ⟨p1, p2⟩ := hpi
                                have HL2 := Lib.hid (HL1.out.mono (G' := 65 * (k + 1)) (P' := 2 * (k + 1)) (by omega) (by omega))
                                have HP1 := Lib.hid (p1.mono (B' := k + 1) (by omega))
                                have HSO1 := Lib.hid (p2.nk (by decide) ac.N ac.K)
                                clear hp p1 p2 HC HH HL HL1 k1 k2 k3 k4 k5 k6
                                go_wp2_with fail
                                go_meet
                                exact ⟨_, 0, _, rfl, Lib.hid ((Row.nil _ 0).src TI_ok), HH1, HL2, HP1, HSO1⟩
                              · as_aux_lemma =>
                                have w0 : (aw == 0) = false := by simpa using q0
                                have w1 : (aw == 1) = false := by simpa using q1
                                have w2 : (aw == 2) = false := by simpa using q2
                                have w3 : (aw == 3) = false := by simpa using q3
                                have w4 : (aw == 4) = false := by simpa using q4
                                have w5 : (aw == 5) = false := by simpa using q5
                                have w6 : (aw == 6) = false := by simpa using q6
                                have w7 : (aw == 7) = false := by simpa using q7
                                have w8 : (aw == 8) = false := by simpa using q8
                                have w9 : (aw == 9) = false := by simpa using q9
                                have HL2 := Lib.hid (HL.out.mono (G' := 65 * (k + 1)) (P' := 2 * (k + 1)) (by omega) (by omega))
                                have HP1 := Lib.hid (HP.out.mono (B' := k + 1) (by omega))
                                have HSO1 := Lib.hid (SO.same x 0 ac.N ac.K)
                                clear HL k1 k2 k3 k4 k5 k6
                                go_wp2_with fail
                                go_meet
                                exact ⟨_, 0, _, rfl, Lib.hid ((Row.nil _ 0).src TI_ok), HH, HL2, HP1, HSO1⟩
          case rest =>
            as_aux_lemma =>
              obtain ⟨s1, hs1⟩ : ∃ v, v = u18 := ⟨_, rfl⟩
              rw [← hs1] at hcut ⊢
              clear hs1
              obtain ⟨X, why, x', rfl, HSRC, HH', HL', HP', HSO⟩ := hcut
              clear k1 k2 k3 k4 k5 k6 HH HL
              have HXL : Hid (X.length ≤ 1000000) := Lib.hid (by have := HSO.out.num; omega)
              go_wp2_with fail
              go_loopw [24] (fun i wx => ∃ j : Nat, j ≤ n ∧ i = .int .i64 ((j : Nat) : Int) ∧ Hid (Src TI wx s1 X) ∧ Hid (HT wx ba (ba + 1) (ba + 1 + 1) (ba + 1 + 1 + 1) ac x n) ∧ Hid (LSt w wx (B4 ba (ba + 1) (ba + 1 + 1) (ba + 1 + 1 + 1)) p x' (65 * (k + 1)) (2 * (k + 1)))) (fun i _ => n - (intOf i).toNat)
              case atStart => exact ⟨0, Nat.zero_le _, rfl, HSRC, HH', HL'⟩
              case round =>
                obtain ⟨j, hj, rfl, HSRC2, HH2, HL2⟩ := hrel
                clear HSRC HH' HL'
                by_cases hjn : j < n
                · have q7 : (j : Int) < (n : Int) := by omega
                  have q8 : j < 64 := by have := HCC.out; omega
                  have q9 : (j : Int) < 64 := by omega
                  have hrd := rd_of HP.out HP'.out HSO.out (i := j) (by rw [HS.out]; exact hjn)
                  have hlp := HH2.out.lp hjn (by have := HCC.out; omega)
                  obtain ⟨wN, hwN⟩ : ∃ v, v = (wheC x ((j : Nat) : Int)).1.1 := ⟨_, rfl⟩
                  obtain ⟨wK, hwK⟩ : ∃ v, v = (wheC x ((j : Nat) : Int)).1.2 := ⟨_, rfl⟩
                  obtain ⟨wD, hwD⟩ : ∃ v, v = (wheC x ((j : Nat) : Int)).2.1 := ⟨_, rfl⟩
                  rcases hrd with ⟨r1, r2, r3, r4, r5, r6, r7⟩ | ⟨r1, ⟨s, r3, r4⟩, r5⟩
                  · rw [← hwN, ← hwK, ← hwD, decide_eq_true r2] at hlp
                    rw [← hwN, ← hwK, ← hwD] at r5
                    have r6' : why = 3 → wN = ac.N ∧ wK = ac.K ∧ chkC x' ac.N ac.K wD = 9 := fun h => by obtain ⟨e1, e2⟩ := r6 h; rw [hwN, hwK, hwD, e1]; exact ⟨rfl, rfl, e2⟩
                    have HLP := Lib.hid hlp
                    have R1 := Lib.hid r1
                    have R4 := Lib.hid r4
                    have R5 := Lib.hid r5
                    have R6 := Lib.hid r6'
                    have R7 := Lib.hid r7
                    have q := ls_state HL2.out ((j : Nat) : Int)
                    rw [r3] at q
                    simp only at q
                    have HC := Lib.hid q
                    clear q r1 r2 r3 r4 r5 r6 r6' r7 hlp hwN hwK hwD
                    go_wp2_with (go_at_call 24; fail)
                    refine HC.out.mono ?_
                    rintro e u1 ⟨rfl, hb⟩
                    have HSRC3 := Lib.hid (HSRC2.out.grown hb)
                    have HH3 := Lib.hid (HH2.out.grown hb)
                    have HL3 := Lib.hid (HL2.out.grown hb)
                    have HLP3 := Lib.hid (HLP.out.grown hb)
                    clear hb HC HSRC2 HH2 HL2 HLP
                    go_upto_region 54 with (fail)
                    refine wp_region_mix (fun W' => LpS ba j ac.N ac.K wN wK wD true W') 14 [(true, 0), (true, 1), (true, 2), (true, 3), (true, 4), (true, 6), (true, 7), (true, 8), (false, 5), (true, 9), (true, 10), (true, 11), (true, 12), (true, 13)] (by kernel_rfl) (by kernel_rfl) (fun _ _ _ d _ h => by cases d <;> exact h) ?_
                    have hd : Below u1.heap.size u1 u1.drew := ((Grn.refl u1).drew 1).below
                    have HSU2 : Hid (LpS ba j ac.N ac.K wN wK wD true u1.drew) := Lib.hid (HLP3.out.grown hd)
                    have HSRCU2 := Lib.hid (HSRC3.out.grown hd)
                    have HHU2 := Lib.hid (HH3.out.grown hd)
                    have HLU2 := Lib.hid (HL3.out.grown hd)
                    clear hd HLP3 HSRC3 HH3 HL3
                    simp only [List.map_cons, List.map_nil, List.getD_cons_zero, List.getD_cons_succ, List.drop_succ_cons, List.drop_zero]
                    generalize u1.drew = U2 at *
                    refine mix_move (.tmp 26) (.int .i64 0) rfl HSU2.out rfl rfl ?_
                    simp only [Act.put, List.setIfInBounds_toArray, List.set_cons_zero, List.set_cons_succ]
                    refine mix_take (.bool false) HSU2.out rfl (fun W' hS => by go_simp) ?_
                    simp only [Act.put, List.setIfInBounds_toArray, List.set_cons_zero, List.set_cons_succ]
                    refine mix_move (.tmp 216) (.bool false) rfl HSU2.out rfl rfl ?_
                    simp only [Act.put, List.setIfInBounds_toArray, List.set_cons_zero, List.set_cons_succ]
                    refine mix_move (.tmp 18) s1 rfl HSU2.out rfl rfl ?_
                    simp only [Act.put, List.setIfInBounds_toArray, List.set_cons_zero, List.set_cons_succ]
                    refine mix_move (.tmp 24) (.int .i64 ((j : Nat) : Int)) rfl HSU2.out rfl rfl ?_
                    simp only [Act.put, List.setIfInBounds_toArray, List.set_cons_zero, List.set_cons_succ]
                    refine mix_move (.tmp 24) (.int .i64 ((j : Nat) : Int)) rfl HSU2.out rfl rfl ?_
                    simp only [Act.put, List.setIfInBounds_toArray, List.set_cons_zero, List.set_cons_succ]
                    refine mix_take (.pointer (some ⟨ba + 1 + 1 + 1, j, none⟩)) HSU2.out rfl (fun W' hS => by
                      obtain ⟨l1, l2, l3, l4, l5, l6⟩ := hS
                      go_simp) ?_
                    simp only [Act.put, List.setIfInBounds_toArray, List.set_cons_zero, List.set_cons_succ]
                    refine mix_take (.bool true) HSU2.out rfl (fun W' hS => by
                      obtain ⟨l1, l2, l3, l4, l5, l6⟩ := hS
                      go_simp) ?_
                    simp only [Act.put, List.setIfInBounds_toArray, List.set_cons_zero, List.set_cons_succ]
                    have q := has_any HSRCU2.out HXL.out ((j : Nat) : Int)
                    rw [decide_eq_true R1.out] at q
                    have HCc := Lib.hid q
                    clear q
                    refine mix_step rfl (fun K5 hK => ?_)
                    go_simp
                    go_wp2_with (go_at_call 37; fail)
                    refine HCc.out.mono ?_
                    rintro e U2a ⟨rfl, hb⟩
                    have HSU2a := Lib.hid (HSU2.out.grown hb)
                    have HSRCU2a := Lib.hid (HSRCU2.out.grown hb)
                    have HHU2a := Lib.hid (HHU2.out.grown hb)
                    have HLU2a := Lib.hid (HLU2.out.grown hb)
                    refine hK _ _ HSU2a.out ?_
                    clear hK hb HCc HSU2 HSRCU2 HHU2 HLU2
                    refine mix_move (.tmp 223) (.bool true) rfl HSU2a.out rfl rfl ?_
                    simp only [Act.put, List.setIfInBounds_toArray, List.set_cons_zero, List.set_cons_succ]
                    refine mix_move (.tmp 25) (.int .i64 1) rfl HSU2a.out rfl rfl ?_
                    simp only [Act.put, List.setIfInBounds_toArray, List.set_cons_zero, List.set_cons_succ]
                    refine mix_take (.bool true) HSU2a.out rfl (fun W' hS => by go_simp) ?_
                    simp only [Act.put, List.setIfInBounds_toArray, List.set_cons_zero, List.set_cons_succ]
                    refine mix_take (.bool true) HSU2a.out rfl (fun W' hS => by go_simp) ?_
                    simp only [Act.put, List.setIfInBounds_toArray, List.set_cons_zero, List.set_cons_succ]
                    refine mix_take (.bool false) HSU2a.out rfl (fun W' hS => by go_simp) ?_
                    simp only [Act.put, List.setIfInBounds_toArray, List.set_cons_zero, List.set_cons_succ]
                    refine mix_nil ?_
                    have HLPU2a := HSU2a
                    clear HSU2a
                    go_upto_region 56 with (fail)
                    by_cases hw2 : why = 2
                    · as_aux_lemma =>
                      subst hw2
                      refine wp_region_mix (fun W' => LpS ba j ac.N ac.K wN wK wD true W') 28 [(true, 0), (true, 1), (false, 2), (true, 3), (true, 4), (true, 5), (true, 6), (true, 7), (true, 8), (true, 9), (false, 10), (true, 11), (true, 12), (true, 13), (true, 14), (true, 15), (true, 16), (true, 17), (true, 18), (true, 19), (true, 20), (true, 21), (true, 22), (true, 23), (false, 24), (true, 25), (true, 26), (true, 27)] (by kernel_rfl) (by kernel_rfl) (fun _ _ _ d _ h => by cases d <;> exact h) ?_
                      have hd : Below U2a.heap.size U2a U2a.drew := ((Grn.refl U2a).drew 1).below
                      have HSU4 : Hid (LpS ba j ac.N ac.K wN wK wD true U2a.drew) := Lib.hid (HLPU2a.out.grown hd)
                      have HSRCU4 := Lib.hid (HSRCU2a.out.grown hd)
                      have HHU4 := Lib.hid (HHU2a.out.grown hd)
                      have HLU4 := Lib.hid (HLU2a.out.grown hd)
                      clear hd HLPU2a HSRCU2a HHU2a HLU2a
                      simp only [List.map_cons, List.map_nil, List.getD_cons_zero, List.getD_cons_succ, List.drop_succ_cons, List.drop_zero]
                      generalize U2a.drew = U4 at *
                      refine mix_move (.tmp 18) s1 rfl HSU4.out rfl rfl ?_
                      simp only [Act.put, List.setIfInBounds_toArray, List.set_cons_zero, List.set_cons_succ]
                      refine mix_move (.tmp 24) (.int .i64 ((j : Nat) : Int)) rfl HSU4.out rfl rfl ?_
                      simp only [Act.put, List.setIfInBounds_toArray, List.set_cons_zero, List.set_cons_succ]
                      have q := has_any HSRCU4.out HXL.out ((j : Nat) : Int)
                      rw [decide_eq_true R1.out] at q
                      have HCc := Lib.hid q
                      clear q
                      refine mix_step rfl (fun K2 hK => ?_)
                      go_simp
                      go_wp2_with (go_at_call 37; fail)
                      refine HCc.out.mono ?_
                      rintro e U4a ⟨rfl, hb⟩
                      have HSU4a := Lib.hid (HSU4.out.grown hb)
                      have HSRCU4a := Lib.hid (HSRCU4.out.grown hb)
                      have HHU4a := Lib.hid (HHU4.out.grown hb)
                      have HLU4a := Lib.hid (HLU4.out.grown hb)
                      refine hK _ _ HSU4a.out ?_
                      clear hK hb HCc HSU4 HSRCU4 HHU4 HLU4
                      refine mix_move (.tmp 232) (.bool true) rfl HSU4a.out rfl rfl ?_
                      simp only [Act.put, List.setIfInBounds_toArray, List.set_cons_zero, List.set_cons_succ]
                      refine mix_move (.tmp 25) (.int .i64 1) rfl HSU4a.out rfl rfl ?_
                      simp only [Act.put, List.setIfInBounds_toArray, List.set_cons_zero, List.set_cons_succ]
                      refine mix_take (.bool false) HSU4a.out rfl (fun W' hS => by go_simp) ?_
                      simp only [Act.put, List.setIfInBounds_toArray, List.set_cons_zero, List.set_cons_succ]
                      refine mix_move (.tmp 235) (.bool false) rfl HSU4a.out rfl rfl ?_
                      simp only [Act.put, List.setIfInBounds_toArray, List.set_cons_zero, List.set_cons_succ]
                      refine mix_move (.tmp 7) (.pointer (some ⟨p, 0, none⟩)) rfl HSU4a.out rfl rfl ?_
                      simp only [Act.put, List.setIfInBounds_toArray, List.set_cons_zero, List.set_cons_succ]
                      refine mix_move (.tmp 24) (.int .i64 ((j : Nat) : Int)) rfl HSU4a.out rfl rfl ?_
                      simp only [Act.put, List.setIfInBounds_toArray, List.set_cons_zero, List.set_cons_succ]
                      refine mix_move (.tmp 19) (.int .i64 2) rfl HSU4a.out rfl rfl ?_
                      simp only [Act.put, List.setIfInBounds_toArray, List.set_cons_zero, List.set_cons_succ]
                      have q := reason_any HLU4a.out R4.out (y := 2)
                      rw [decide_eq_true rfl] at q
                      have HCc := Lib.hid q
                      clear q
                      refine mix_step rfl (fun K10 hK => ?_)
                      go_simp
                      go_wp2_with (go_at_call 35; fail)
                      refine HCc.out.mono ?_
                      rintro e U4b ⟨rfl, hb⟩
                      have HSU4b := Lib.hid (HSU4a.out.grown hb)
                      have HSRCU4b := Lib.hid (HSRCU4a.out.grown hb)
                      have HHU4b := Lib.hid (HHU4a.out.grown hb)
                      have HLU4b := Lib.hid (HLU4a.out.grown hb)
                      refine hK _ _ HSU4b.out ?_
                      clear hK hb HCc HSU4a HSRCU4a HHU4a HLU4a
                      refine mix_take (.bool false) HSU4b.out rfl (fun W' hS => by go_simp) ?_
                      simp only [Act.put, List.setIfInBounds_toArray, List.set_cons_zero, List.set_cons_succ]
                      refine mix_take (.bool false) HSU4b.out rfl (fun W' hS => by go_simp) ?_
                      simp only [Act.put, List.setIfInBounds_toArray, List.set_cons_zero, List.set_cons_succ]
                      refine mix_move (.tmp 242) (.bool false) rfl HSU4b.out rfl rfl ?_
                      simp only [Act.put, List.setIfInBounds_toArray, List.set_cons_zero, List.set_cons_succ]
                      refine mix_move (.tmp 19) (.int .i64 2) rfl HSU4b.out rfl rfl ?_
                      simp only [Act.put, List.setIfInBounds_toArray, List.set_cons_zero, List.set_cons_succ]
                      refine mix_take (.bool true) HSU4b.out rfl (fun W' hS => by go_simp) ?_
                      simp only [Act.put, List.setIfInBounds_toArray, List.set_cons_zero, List.set_cons_succ]
                      refine mix_move (.tmp 245) (.bool true) rfl HSU4b.out rfl rfl ?_
                      simp only [Act.put, List.setIfInBounds_toArray, List.set_cons_zero, List.set_cons_succ]
                      refine mix_move (.tmp 7) (.pointer (some ⟨p, 0, none⟩)) rfl HSU4b.out rfl rfl ?_
                      simp only [Act.put, List.setIfInBounds_toArray, List.set_cons_zero, List.set_cons_succ]
                      refine mix_move (.tmp 24) (.int .i64 ((j : Nat) : Int)) rfl HSU4b.out rfl rfl ?_
                      simp only [Act.put, List.setIfInBounds_toArray, List.set_cons_zero, List.set_cons_succ]
                      refine mix_take (.pointer (some ⟨ba + 1, j * 2, none⟩)) HSU4b.out rfl (fun W' hS => by
                        obtain ⟨l1, l2, l3, l4, l5, l6⟩ := hS
                        go_simp) ?_
                      simp only [Act.put, List.setIfInBounds_toArray, List.set_cons_zero, List.set_cons_succ]
                      refine mix_take (.agg #[.int .i64 wN, .int .i64 wK]) HSU4b.out rfl (fun W' hS => by
                        obtain ⟨l1, l2, l3, l4, l5, l6⟩ := hS
                        go_simp) ?_
                      simp only [Act.put, List.setIfInBounds_toArray, List.set_cons_zero, List.set_cons_succ]
                      refine mix_move (.tmp 24) (.int .i64 ((j : Nat) : Int)) rfl HSU4b.out rfl rfl ?_
                      simp only [Act.put, List.setIfInBounds_toArray, List.set_cons_zero, List.set_cons_succ]
                      refine mix_take (.pointer (some ⟨ba + 1 + 1, j, none⟩)) HSU4b.out rfl (fun W' hS => by
                        obtain ⟨l1, l2, l3, l4, l5, l6⟩ := hS
                        go_simp) ?_
                      simp only [Act.put, List.setIfInBounds_toArray, List.set_cons_zero, List.set_cons_succ]
                      refine mix_take (.int .i64 wD) HSU4b.out rfl (fun W' hS => by
                        obtain ⟨l1, l2, l3, l4, l5, l6⟩ := hS
                        go_simp) ?_
                      simp only [Act.put, List.setIfInBounds_toArray, List.set_cons_zero, List.set_cons_succ]
                      have q := ls_check HLU4b.out wN wK wD
                      rw [R5.out (by first | rfl | trivial)] at q
                      have HCc := Lib.hid q
                      clear q
                      refine mix_step rfl (fun K24 hK => ?_)
                      go_simp
                      go_wp2_with (go_at_call 26; fail)
                      refine HCc.out.mono ?_
                      rintro e U4c ⟨rfl, hb⟩
                      have HSU4c := Lib.hid (HSU4b.out.grown hb)
                      have HSRCU4c := Lib.hid (HSRCU4b.out.grown hb)
                      have HHU4c := Lib.hid (HHU4b.out.grown hb)
                      have HLU4c := Lib.hid (HLU4b.out.grown hb)
                      refine hK _ _ HSU4c.out ?_
                      clear hK hb HCc HSU4b HSRCU4b HHU4b HLU4b
                      refine mix_take (.bool false) HSU4c.out rfl (fun W' hS => by go_simp) ?_
                      simp only [Act.put, List.setIfInBounds_toArray, List.set_cons_zero, List.set_cons_succ]
                      refine mix_take (.bool false) HSU4c.out rfl (fun W' hS => by go_simp) ?_
                      simp only [Act.put, List.setIfInBounds_toArray, List.set_cons_zero, List.set_cons_succ]
                      refine mix_take (.bool false) HSU4c.out rfl (fun W' hS => by go_simp) ?_
                      simp only [Act.put, List.setIfInBounds_toArray, List.set_cons_zero, List.set_cons_succ]
                      refine mix_nil ?_
                      have HLPU4c := HSU4c
                      clear HSU4c
                      go_upto_region 58 with (fail)
                      refine wp_region_mix (fun W' => LpS ba j ac.N ac.K wN wK wD true W') 24 [(true, 0), (true, 1), (true, 2), (true, 3), (true, 4), (false, 5), (true, 6), (true, 7), (true, 8), (true, 9), (true, 10), (true, 11), (true, 12), (true, 13), (true, 14), (true, 15), (true, 16), (true, 17), (true, 18), (true, 19), (true, 20), (false, 21), (true, 22), (true, 23)] (by kernel_rfl) (by kernel_rfl) (fun _ _ _ d _ h => by cases d <;> exact h) ?_
                      have hd : Below U4c.heap.size U4c U4c.drew := ((Grn.refl U4c).drew 1).below
                      have HSU6 : Hid (LpS ba j ac.N ac.K wN wK wD true U4c.drew) := Lib.hid (HLPU4c.out.grown hd)
                      have HSRCU6 := Lib.hid (HSRCU4c.out.grown hd)
                      have HHU6 := Lib.hid (HHU4c.out.grown hd)
                      have HLU6 := Lib.hid (HLU4c.out.grown hd)
                      clear hd HLPU4c HSRCU4c HHU4c HLU4c
                      simp only [List.map_cons, List.map_nil, List.getD_cons_zero, List.getD_cons_succ, List.drop_succ_cons, List.drop_zero]
                      generalize U4c.drew = U6 at *
                      refine mix_move (.tmp 19) (.int .i64 2) rfl HSU6.out rfl rfl ?_
                      simp only [Act.put, List.setIfInBounds_toArray, List.set_cons_zero, List.set_cons_succ]
                      refine mix_take (.bool false) HSU6.out rfl (fun W' hS => by go_simp) ?_
                      simp only [Act.put, List.setIfInBounds_toArray, List.set_cons_zero, List.set_cons_succ]
                      refine mix_move (.tmp 260) (.bool false) rfl HSU6.out rfl rfl ?_
                      simp only [Act.put, List.setIfInBounds_toArray, List.set_cons_zero, List.set_cons_succ]
                      refine mix_dropH HSU6.out rfl ?_
                      simp only [Act.put, List.setIfInBounds_toArray, List.set_cons_zero, List.set_cons_succ]
                      refine mix_dropH HSU6.out rfl ?_
                      simp only [Act.put, List.setIfInBounds_toArray, List.set_cons_zero, List.set_cons_succ]
                      refine mix_skip rfl HSU6.out ?_
                      simp only [Act.put, List.setIfInBounds_toArray, List.set_cons_zero, List.set_cons_succ]
                      refine mix_take (.bool false) HSU6.out rfl (fun W' hS => by go_simp) ?_
                      simp only [Act.put, List.setIfInBounds_toArray, List.set_cons_zero, List.set_cons_succ]
                      refine mix_move (.tmp 265) (.bool false) rfl HSU6.out rfl rfl ?_
                      simp only [Act.put, List.setIfInBounds_toArray, List.set_cons_zero, List.set_cons_succ]
                      refine mix_dropH HSU6.out rfl ?_
                      simp only [Act.put, List.setIfInBounds_toArray, List.set_cons_zero, List.set_cons_succ]
                      refine mix_dropH HSU6.out rfl ?_
                      simp only [Act.put, List.setIfInBounds_toArray, List.set_cons_zero, List.set_cons_succ]
                      refine mix_dropH HSU6.out rfl ?_
                      simp only [Act.put, List.setIfInBounds_toArray, List.set_cons_zero, List.set_cons_succ]
                      refine mix_dropH HSU6.out rfl ?_
                      simp only [Act.put, List.setIfInBounds_toArray, List.set_cons_zero, List.set_cons_succ]
                      refine mix_dropH HSU6.out rfl ?_
                      simp only [Act.put, List.setIfInBounds_toArray, List.set_cons_zero, List.set_cons_succ]
                      refine mix_dropH HSU6.out rfl ?_
                      simp only [Act.put, List.setIfInBounds_toArray, List.set_cons_zero, List.set_cons_succ]
                      refine mix_dropH HSU6.out rfl ?_
                      simp only [Act.put, List.setIfInBounds_toArray, List.set_cons_zero, List.set_cons_succ]
                      refine mix_dropH HSU6.out rfl ?_
                      simp only [Act.put, List.setIfInBounds_toArray, List.set_cons_zero, List.set_cons_succ]
                      refine mix_dropH HSU6.out rfl ?_
                      simp only [Act.put, List.setIfInBounds_toArray, List.set_cons_zero, List.set_cons_succ]
                      refine mix_dropH HSU6.out rfl ?_
                      simp only [Act.put, List.setIfInBounds_toArray, List.set_cons_zero, List.set_cons_succ]
                      refine mix_dropH HSU6.out rfl ?_
                      simp only [Act.put, List.setIfInBounds_toArray, List.set_cons_zero, List.set_cons_succ]
                      refine mix_dropH HSU6.out rfl ?_
                      simp only [Act.put, List.setIfInBounds_toArray, List.set_cons_zero, List.set_cons_succ]
                      refine mix_dropH HSU6.out rfl ?_
                      simp only [Act.put, List.setIfInBounds_toArray, List.set_cons_zero, List.set_cons_succ]
                      refine mix_skip rfl HSU6.out ?_
                      simp only [Act.put, List.setIfInBounds_toArray, List.set_cons_zero, List.set_cons_succ]
                      refine mix_dropH HSU6.out rfl ?_
                      simp only [Act.put, List.setIfInBounds_toArray, List.set_cons_zero, List.set_cons_succ]
                      refine mix_dropH HSU6.out rfl ?_
                      simp only [Act.put, List.setIfInBounds_toArray, List.set_cons_zero, List.set_cons_succ]
                      refine mix_nil ?_
                      have HLPU6 := HSU6
                      clear HSU6
                      have HC := Lib.hid (ls_where HLU6.out ((j : Nat) : Int))
                      clear HLPU6
                      go_wp2_with (go_at_call 25; fail)
                      refine HC.out.mono ?_
                      rintro e z1 ⟨rfl, hb⟩
                      obtain ⟨z2, hz, hg, hs, hb0⟩ := alloc1 z1 (.cells #[.int .i64 (wheC x' ((j : Nat) : Int)).1.1, .int .i64 (wheC x' ((j : Nat) : Int)).1.2] 47)
                      have HSRCz := Lib.hid ((HSRCU6.out.grown hb).grown hg.below)
                      have HHz := Lib.hid ((HHU6.out.grown hb).grown hg.below)
                      have HLz := Lib.hid ((HLU6.out.grown hb).grown hg.below)
                      have HB0 := Lib.hid hb0
                      have HZZ := Lib.hid hz
                      clear hb HC HSRCU6 HHU6 HLU6 hz hg hs hb0
                      go_upto_region 61 with (fail)
                      rw [HZZ.out]
                      clear HZZ
                      generalize z1.heap.size = bz at *
                      have l0 := cells_cell (o := 0) HB0.out rfl
                      have l1 := cells_cell (o := 1) HB0.out rfl
                      have w0 : ((wheC x' ((j : Nat) : Int)).2.2 == 0) = false := by have := R7.out; simpa using this
                      clear R7
                      clear HB0
                      go_wp2_with fail
                      go_roundw
                      case rel => exact ⟨j + 1, hjn, by go_num, HSRCz, HHz, HLz⟩
                      case measure => simp [intOf]; omega
                    · by_cases hw3 : why = 3
                      · as_aux_lemma =>
                        obtain rfl : why = 3 := hw3
                        refine wp_region_mix (fun W' => LpS ba j ac.N ac.K wN wK wD true W') 28 [(true, 0), (true, 1), (false, 2), (true, 3), (true, 4), (true, 5), (true, 6), (true, 7), (true, 8), (true, 9), (false, 10), (true, 11), (true, 12), (true, 13), (true, 14), (true, 15), (true, 16), (true, 17), (true, 18), (true, 19), (true, 20), (true, 21), (true, 22), (true, 23), (false, 24), (true, 25), (true, 26), (true, 27)] (by kernel_rfl) (by kernel_rfl) (fun _ _ _ d _ h => by cases d <;> exact h) ?_
                        have hd : Below U2a.heap.size U2a U2a.drew := ((Grn.refl U2a).drew 1).below
                        have HSU4 : Hid (LpS ba j ac.N ac.K wN wK wD true U2a.drew) := Lib.hid (HLPU2a.out.grown hd)
                        have HSRCU4 := Lib.hid (HSRCU2a.out.grown hd)
                        have HHU4 := Lib.hid (HHU2a.out.grown hd)
                        have HLU4 := Lib.hid (HLU2a.out.grown hd)
                        clear hd HLPU2a HSRCU2a HHU2a HLU2a
                        simp only [List.map_cons, List.map_nil, List.getD_cons_zero, List.getD_cons_succ, List.drop_succ_cons, List.drop_zero]
                        generalize U2a.drew = U4 at *
                        refine mix_move (.tmp 18) s1 rfl HSU4.out rfl rfl ?_
                        simp only [Act.put, List.setIfInBounds_toArray, List.set_cons_zero, List.set_cons_succ]
                        refine mix_move (.tmp 24) (.int .i64 ((j : Nat) : Int)) rfl HSU4.out rfl rfl ?_
                        simp only [Act.put, List.setIfInBounds_toArray, List.set_cons_zero, List.set_cons_succ]
                        have q := has_any HSRCU4.out HXL.out ((j : Nat) : Int)
                        rw [decide_eq_true R1.out] at q
                        have HCc := Lib.hid q
                        clear q
                        refine mix_step rfl (fun K2 hK => ?_)
                        go_simp
                        go_wp2_with (go_at_call 37; fail)
                        refine HCc.out.mono ?_
                        rintro e U4a ⟨rfl, hb⟩
                        have HSU4a := Lib.hid (HSU4.out.grown hb)
                        have HSRCU4a := Lib.hid (HSRCU4.out.grown hb)
                        have HHU4a := Lib.hid (HHU4.out.grown hb)
                        have HLU4a := Lib.hid (HLU4.out.grown hb)
                        refine hK _ _ HSU4a.out ?_
                        clear hK hb HCc HSU4 HSRCU4 HHU4 HLU4
                        refine mix_move (.tmp 232) (.bool true) rfl HSU4a.out rfl rfl ?_
                        simp only [Act.put, List.setIfInBounds_toArray, List.set_cons_zero, List.set_cons_succ]
                        refine mix_move (.tmp 25) (.int .i64 1) rfl HSU4a.out rfl rfl ?_
                        simp only [Act.put, List.setIfInBounds_toArray, List.set_cons_zero, List.set_cons_succ]
                        refine mix_take (.bool false) HSU4a.out rfl (fun W' hS => by go_simp) ?_
                        simp only [Act.put, List.setIfInBounds_toArray, List.set_cons_zero, List.set_cons_succ]
                        refine mix_move (.tmp 235) (.bool false) rfl HSU4a.out rfl rfl ?_
                        simp only [Act.put, List.setIfInBounds_toArray, List.set_cons_zero, List.set_cons_succ]
                        refine mix_move (.tmp 7) (.pointer (some ⟨p, 0, none⟩)) rfl HSU4a.out rfl rfl ?_
                        simp only [Act.put, List.setIfInBounds_toArray, List.set_cons_zero, List.set_cons_succ]
                        refine mix_move (.tmp 24) (.int .i64 ((j : Nat) : Int)) rfl HSU4a.out rfl rfl ?_
                        simp only [Act.put, List.setIfInBounds_toArray, List.set_cons_zero, List.set_cons_succ]
                        refine mix_move (.tmp 19) (.int .i64 3) rfl HSU4a.out rfl rfl ?_
                        simp only [Act.put, List.setIfInBounds_toArray, List.set_cons_zero, List.set_cons_succ]
                        have q := reason_any HLU4a.out R4.out (y := 3)
                        rw [decide_eq_true rfl] at q
                        have HCc := Lib.hid q
                        clear q
                        refine mix_step rfl (fun K10 hK => ?_)
                        go_simp
                        go_wp2_with (go_at_call 35; fail)
                        refine HCc.out.mono ?_
                        rintro e U4b ⟨rfl, hb⟩
                        have HSU4b := Lib.hid (HSU4a.out.grown hb)
                        have HSRCU4b := Lib.hid (HSRCU4a.out.grown hb)
                        have HHU4b := Lib.hid (HHU4a.out.grown hb)
                        have HLU4b := Lib.hid (HLU4a.out.grown hb)
                        refine hK _ _ HSU4b.out ?_
                        clear hK hb HCc HSU4a HSRCU4a HHU4a HLU4a
                        refine mix_take (.bool false) HSU4b.out rfl (fun W' hS => by go_simp) ?_
                        simp only [Act.put, List.setIfInBounds_toArray, List.set_cons_zero, List.set_cons_succ]
                        refine mix_take (.bool false) HSU4b.out rfl (fun W' hS => by go_simp) ?_
                        simp only [Act.put, List.setIfInBounds_toArray, List.set_cons_zero, List.set_cons_succ]
                        refine mix_move (.tmp 242) (.bool false) rfl HSU4b.out rfl rfl ?_
                        simp only [Act.put, List.setIfInBounds_toArray, List.set_cons_zero, List.set_cons_succ]
                        refine mix_move (.tmp 19) (.int .i64 3) rfl HSU4b.out rfl rfl ?_
                        simp only [Act.put, List.setIfInBounds_toArray, List.set_cons_zero, List.set_cons_succ]
                        refine mix_take (.bool false) HSU4b.out rfl (fun W' hS => by go_simp) ?_
                        simp only [Act.put, List.setIfInBounds_toArray, List.set_cons_zero, List.set_cons_succ]
                        refine mix_move (.tmp 245) (.bool false) rfl HSU4b.out rfl rfl ?_
                        simp only [Act.put, List.setIfInBounds_toArray, List.set_cons_zero, List.set_cons_succ]
                        refine mix_dropH HSU4b.out rfl ?_
                        simp only [Act.put, List.setIfInBounds_toArray, List.set_cons_zero, List.set_cons_succ]
                        refine mix_dropH HSU4b.out rfl ?_
                        simp only [Act.put, List.setIfInBounds_toArray, List.set_cons_zero, List.set_cons_succ]
                        refine mix_dropH HSU4b.out rfl ?_
                        simp only [Act.put, List.setIfInBounds_toArray, List.set_cons_zero, List.set_cons_succ]
                        refine mix_dropH HSU4b.out rfl ?_
                        simp only [Act.put, List.setIfInBounds_toArray, List.set_cons_zero, List.set_cons_succ]
                        refine mix_dropH HSU4b.out rfl ?_
                        simp only [Act.put, List.setIfInBounds_toArray, List.set_cons_zero, List.set_cons_succ]
                        refine mix_dropH HSU4b.out rfl ?_
                        simp only [Act.put, List.setIfInBounds_toArray, List.set_cons_zero, List.set_cons_succ]
                        refine mix_dropH HSU4b.out rfl ?_
                        simp only [Act.put, List.setIfInBounds_toArray, List.set_cons_zero, List.set_cons_succ]
                        refine mix_skip rfl HSU4b.out ?_
                        simp only [Act.put, List.setIfInBounds_toArray, List.set_cons_zero, List.set_cons_succ]
                        refine mix_dropH HSU4b.out rfl ?_
                        simp only [Act.put, List.setIfInBounds_toArray, List.set_cons_zero, List.set_cons_succ]
                        refine mix_take (.bool false) HSU4b.out rfl (fun W' hS => by go_simp) ?_
                        simp only [Act.put, List.setIfInBounds_toArray, List.set_cons_zero, List.set_cons_succ]
                        refine mix_take (.bool false) HSU4b.out rfl (fun W' hS => by go_simp) ?_
                        simp only [Act.put, List.setIfInBounds_toArray, List.set_cons_zero, List.set_cons_succ]
                        refine mix_nil ?_
                        have HLPU4b := HSU4b
                        clear HSU4b
                        go_upto_region 58 with (fail)
                        obtain ⟨e1, e2, e3⟩ := R6.out (by first | rfl | trivial)
                        have E3 := Lib.hid e3
                        rw [e1, e2] at HLPU4b
                        clear e1 e2 e3
                        refine wp_region_mix (fun W' => LpS ba j ac.N ac.K ac.N ac.K wD true W') 24 [(true, 0), (true, 1), (true, 2), (true, 3), (true, 4), (false, 5), (true, 6), (true, 7), (true, 8), (true, 9), (true, 10), (true, 11), (true, 12), (true, 13), (true, 14), (true, 15), (true, 16), (true, 17), (true, 18), (true, 19), (true, 20), (false, 21), (true, 22), (true, 23)] (by kernel_rfl) (by kernel_rfl) (fun _ _ _ d _ h => by cases d <;> exact h) ?_
                        have hd : Below U4b.heap.size U4b U4b.drew := ((Grn.refl U4b).drew 1).below
                        have HSU6 : Hid (LpS ba j ac.N ac.K ac.N ac.K wD true U4b.drew) := Lib.hid (HLPU4b.out.grown hd)
                        have HSRCU6 := Lib.hid (HSRCU4b.out.grown hd)
                        have HHU6 := Lib.hid (HHU4b.out.grown hd)
                        have HLU6 := Lib.hid (HLU4b.out.grown hd)
                        clear hd HLPU4b HSRCU4b HHU4b HLU4b
                        simp only [List.map_cons, List.map_nil, List.getD_cons_zero, List.getD_cons_succ, List.drop_succ_cons, List.drop_zero]
                        generalize U4b.drew = U6 at *
                        refine mix_move (.tmp 19) (.int .i64 3) rfl HSU6.out rfl rfl ?_
                        simp only [Act.put, List.setIfInBounds_toArray, List.set_cons_zero, List.set_cons_succ]
                        refine mix_take (.bool true) HSU6.out rfl (fun W' hS => by go_simp) ?_
                        simp only [Act.put, List.setIfInBounds_toArray, List.set_cons_zero, List.set_cons_succ]
                        refine mix_move (.tmp 260) (.bool true) rfl HSU6.out rfl rfl ?_
                        simp only [Act.put, List.setIfInBounds_toArray, List.set_cons_zero, List.set_cons_succ]
                        refine mix_move (.tmp 18) s1 rfl HSU6.out rfl rfl ?_
                        simp only [Act.put, List.setIfInBounds_toArray, List.set_cons_zero, List.set_cons_succ]
                        refine mix_move (.tmp 24) (.int .i64 ((j : Nat) : Int)) rfl HSU6.out rfl rfl ?_
                        simp only [Act.put, List.setIfInBounds_toArray, List.set_cons_zero, List.set_cons_succ]
                        have q := has_any HSRCU6.out HXL.out ((j : Nat) : Int)
                        rw [decide_eq_true R1.out] at q
                        have HCc := Lib.hid q
                        clear q
                        refine mix_step rfl (fun K5 hK => ?_)
                        go_simp
                        go_wp2_with (go_at_call 37; fail)
                        refine HCc.out.mono ?_
                        rintro e U6a ⟨rfl, hb⟩
                        have HSU6a := Lib.hid (HSU6.out.grown hb)
                        have HSRCU6a := Lib.hid (HSRCU6.out.grown hb)
                        have HHU6a := Lib.hid (HHU6.out.grown hb)
                        have HLU6a := Lib.hid (HLU6.out.grown hb)
                        refine hK _ _ HSU6a.out ?_
                        clear hK hb HCc HSU6 HSRCU6 HHU6 HLU6
                        refine mix_take (.bool true) HSU6a.out rfl (fun W' hS => by go_simp) ?_
                        simp only [Act.put, List.setIfInBounds_toArray, List.set_cons_zero, List.set_cons_succ]
                        refine mix_move (.tmp 265) (.bool true) rfl HSU6a.out rfl rfl ?_
                        simp only [Act.put, List.setIfInBounds_toArray, List.set_cons_zero, List.set_cons_succ]
                        refine mix_move (.tmp 24) (.int .i64 ((j : Nat) : Int)) rfl HSU6a.out rfl rfl ?_
                        simp only [Act.put, List.setIfInBounds_toArray, List.set_cons_zero, List.set_cons_succ]
                        refine mix_take (.pointer (some ⟨ba + 1, j * 2, none⟩)) HSU6a.out rfl (fun W' hS => by
                          obtain ⟨l1, l2, l3, l4, l5, l6⟩ := hS
                          go_simp) ?_
                        simp only [Act.put, List.setIfInBounds_toArray, List.set_cons_zero, List.set_cons_succ]
                        refine mix_take (.agg #[.int .i64 ac.N, .int .i64 ac.K]) HSU6a.out rfl (fun W' hS => by
                          obtain ⟨l1, l2, l3, l4, l5, l6⟩ := hS
                          go_simp) ?_
                        simp only [Act.put, List.setIfInBounds_toArray, List.set_cons_zero, List.set_cons_succ]
                        refine mix_take (.pointer (some ⟨ba, 3, none⟩)) HSU6a.out rfl (fun W' hS => by go_simp) ?_
                        simp only [Act.put, List.setIfInBounds_toArray, List.set_cons_zero, List.set_cons_succ]
                        refine mix_take (.agg #[.int .i64 ac.N, .int .i64 ac.K]) HSU6a.out rfl (fun W' hS => by
                          obtain ⟨l1, l2, l3, l4, l5, l6⟩ := hS
                          go_simp) ?_
                        simp only [Act.put, List.setIfInBounds_toArray, List.set_cons_zero, List.set_cons_succ]
                        refine mix_take (.bool false) HSU6a.out rfl (fun W' hS => by have hq := Sl.neq_fd_same W' ac.N ac.K; go_simp) ?_
                        simp only [Act.put, List.setIfInBounds_toArray, List.set_cons_zero, List.set_cons_succ]
                        refine mix_move (.tmp 272) (.bool false) rfl HSU6a.out rfl rfl ?_
                        simp only [Act.put, List.setIfInBounds_toArray, List.set_cons_zero, List.set_cons_succ]
                        refine mix_move (.tmp 7) (.pointer (some ⟨p, 0, none⟩)) rfl HSU6a.out rfl rfl ?_
                        simp only [Act.put, List.setIfInBounds_toArray, List.set_cons_zero, List.set_cons_succ]
                        refine mix_take (.pointer (some ⟨ba, 3, none⟩)) HSU6a.out rfl (fun W' hS => by go_simp) ?_
                        simp only [Act.put, List.setIfInBounds_toArray, List.set_cons_zero, List.set_cons_succ]
                        refine mix_take (.agg #[.int .i64 ac.N, .int .i64 ac.K]) HSU6a.out rfl (fun W' hS => by
                          obtain ⟨l1, l2, l3, l4, l5, l6⟩ := hS
                          go_simp) ?_
                        simp only [Act.put, List.setIfInBounds_toArray, List.set_cons_zero, List.set_cons_succ]
                        refine mix_move (.tmp 24) (.int .i64 ((j : Nat) : Int)) rfl HSU6a.out rfl rfl ?_
                        simp only [Act.put, List.setIfInBounds_toArray, List.set_cons_zero, List.set_cons_succ]
                        refine mix_take (.pointer (some ⟨ba + 1 + 1, j, none⟩)) HSU6a.out rfl (fun W' hS => by
                          obtain ⟨l1, l2, l3, l4, l5, l6⟩ := hS
                          go_simp) ?_
                        simp only [Act.put, List.setIfInBounds_toArray, List.set_cons_zero, List.set_cons_succ]
                        refine mix_take (.int .i64 wD) HSU6a.out rfl (fun W' hS => by
                          obtain ⟨l1, l2, l3, l4, l5, l6⟩ := hS
                          go_simp) ?_
                        simp only [Act.put, List.setIfInBounds_toArray, List.set_cons_zero, List.set_cons_succ]
                        have q := ls_check HLU6a.out ac.N ac.K wD
                        rw [E3.out] at q
                        have HCc := Lib.hid q
                        clear q
                        refine mix_step rfl (fun K21 hK => ?_)
                        go_simp
                        go_wp2_with (go_at_call 26; fail)
                        refine HCc.out.mono ?_
                        rintro e U6b ⟨rfl, hb⟩
                        have HSU6b := Lib.hid (HSU6a.out.grown hb)
                        have HSRCU6b := Lib.hid (HSRCU6a.out.grown hb)
                        have HHU6b := Lib.hid (HHU6a.out.grown hb)
                        have HLU6b := Lib.hid (HLU6a.out.grown hb)
                        refine hK _ _ HSU6b.out ?_
                        clear hK hb HCc HSU6a HSRCU6a HHU6a HLU6a
                        refine mix_take (.bool false) HSU6b.out rfl (fun W' hS => by go_simp) ?_
                        simp only [Act.put, List.setIfInBounds_toArray, List.set_cons_zero, List.set_cons_succ]
                        refine mix_take (.bool false) HSU6b.out rfl (fun W' hS => by go_simp) ?_
                        simp only [Act.put, List.setIfInBounds_toArray, List.set_cons_zero, List.set_cons_succ]
                        refine mix_nil ?_
                        have HLPU6b := HSU6b
                        clear HSU6b
                        have HC := Lib.hid (ls_where HLU6b.out ((j : Nat) : Int))
                        clear HLPU6b
                        go_wp2_with (go_at_call 25; fail)
                        refine HC.out.mono ?_
                        rintro e z1 ⟨rfl, hb⟩
                        obtain ⟨z2, hz, hg, hs, hb0⟩ := alloc1 z1 (.cells #[.int .i64 (wheC x' ((j : Nat) : Int)).1.1, .int .i64 (wheC x' ((j : Nat) : Int)).1.2] 47)
                        have HSRCz := Lib.hid ((HSRCU6b.out.grown hb).grown hg.below)
                        have HHz := Lib.hid ((HHU6b.out.grown hb).grown hg.below)
                        have HLz := Lib.hid ((HLU6b.out.grown hb).grown hg.below)
                        have HB0 := Lib.hid hb0
                        have HZZ := Lib.hid hz
                        clear hb HC HSRCU6b HHU6b HLU6b hz hg hs hb0
                        go_upto_region 61 with (fail)
                        rw [HZZ.out]
                        clear HZZ
                        generalize z1.heap.size = bz at *
                        have l0 := cells_cell (o := 0) HB0.out rfl
                        have l1 := cells_cell (o := 1) HB0.out rfl
                        have w0 : ((wheC x' ((j : Nat) : Int)).2.2 == 0) = false := by have := R7.out; simpa using this
                        clear R7
                        clear HB0
                        go_wp2_with fail
                        go_roundw
                        case rel => exact ⟨j + 1, hjn, by go_num, HSRCz, HHz, HLz⟩
                        case measure => simp [intOf]; omega
                      · as_aux_lemma =>
                        have w2 : (why == 2) = false := by simpa using hw2
                        have w3 : (why == 3) = false := by simpa using hw3
                        refine wp_region_mix (fun W' => LpS ba j ac.N ac.K wN wK wD true W') 28 [(true, 0), (true, 1), (false, 2), (true, 3), (true, 4), (true, 5), (true, 6), (true, 7), (true, 8), (true, 9), (false, 10), (true, 11), (true, 12), (true, 13), (true, 14), (true, 15), (true, 16), (true, 17), (true, 18), (true, 19), (true, 20), (true, 21), (true, 22), (true, 23), (false, 24), (true, 25), (true, 26), (true, 27)] (by kernel_rfl) (by kernel_rfl) (fun _ _ _ d _ h => by cases d <;> exact h) ?_
                        have hd : Below U2a.heap.size U2a U2a.drew := ((Grn.refl U2a).drew 1).below
                        have HSU4 : Hid (LpS ba j ac.N ac.K wN wK wD true U2a.drew) := Lib.hid (HLPU2a.out.grown hd)
                        have HSRCU4 := Lib.hid (HSRCU2a.out.grown hd)
                        have HHU4 := Lib.hid (HHU2a.out.grown hd)
                        have HLU4 := Lib.hid (HLU2a.out.grown hd)
                        clear hd HLPU2a HSRCU2a HHU2a HLU2a
                        simp only [List.map_cons, List.map_nil, List.getD_cons_zero, List.getD_cons_succ, List.drop_succ_cons, List.drop_zero]
                        generalize U2a.drew = U4 at *
                        refine mix_move (.tmp 18) s1 rfl HSU4.out rfl rfl ?_
                        simp only [Act.put, List.setIfInBounds_toArray, List.set_cons_zero, List.set_cons_succ]
                        refine mix_move (.tmp 24) (.int .i64 ((j : Nat) : Int)) rfl HSU4.out rfl rfl ?_
                        simp only [Act.put, List.setIfInBounds_toArray, List.set_cons_zero, List.set_cons_succ]
                        have q := has_any HSRCU4.out HXL.out ((j : Nat) : Int)
                        rw [decide_eq_true R1.out] at q
                        have HCc := Lib.hid q
                        clear q
                        refine mix_step rfl (fun K2 hK => ?_)
                        go_simp
                        go_wp2_with (go_at_call 37; fail)
                        refine HCc.out.mono ?_
                        rintro e U4a ⟨rfl, hb⟩
                        have HSU4a := Lib.hid (HSU4.out.grown hb)
                        have HSRCU4a := Lib.hid (HSRCU4.out.grown hb)
                        have HHU4a := Lib.hid (HHU4.out.grown hb)
                        have HLU4a := Lib.hid (HLU4.out.grown hb)
                        refine hK _ _ HSU4a.out ?_
                        clear hK hb HCc HSU4 HSRCU4 HHU4 HLU4
                        refine mix_move (.tmp 232) (.bool true) rfl HSU4a.out rfl rfl ?_
                        simp only [Act.put, List.setIfInBounds_toArray, List.set_cons_zero, List.set_cons_succ]
                        refine mix_move (.tmp 25) (.int .i64 1) rfl HSU4a.out rfl rfl ?_
                        simp only [Act.put, List.setIfInBounds_toArray, List.set_cons_zero, List.set_cons_succ]
                        refine mix_take (.bool false) HSU4a.out rfl (fun W' hS => by go_simp) ?_
                        simp only [Act.put, List.setIfInBounds_toArray, List.set_cons_zero, List.set_cons_succ]
                        refine mix_move (.tmp 235) (.bool false) rfl HSU4a.out rfl rfl ?_
                        simp only [Act.put, List.setIfInBounds_toArray, List.set_cons_zero, List.set_cons_succ]
                        refine mix_move (.tmp 7) (.pointer (some ⟨p, 0, none⟩)) rfl HSU4a.out rfl rfl ?_
                        simp only [Act.put, List.setIfInBounds_toArray, List.set_cons_zero, List.set_cons_succ]
                        refine mix_move (.tmp 24) (.int .i64 ((j : Nat) : Int)) rfl HSU4a.out rfl rfl ?_
                        simp only [Act.put, List.setIfInBounds_toArray, List.set_cons_zero, List.set_cons_succ]
                        refine mix_move (.tmp 19) (.int .i64 why) rfl HSU4a.out rfl rfl ?_
                        simp only [Act.put, List.setIfInBounds_toArray, List.set_cons_zero, List.set_cons_succ]
                        have q := reason_any HLU4a.out R4.out (y := why)
                        rw [decide_eq_true rfl] at q
                        have HCc := Lib.hid q
                        clear q
                        refine mix_step rfl (fun K10 hK => ?_)
                        go_simp
                        go_wp2_with (go_at_call 35; fail)
                        refine HCc.out.mono ?_
                        rintro e U4b ⟨rfl, hb⟩
                        have HSU4b := Lib.hid (HSU4a.out.grown hb)
                        have HSRCU4b := Lib.hid (HSRCU4a.out.grown hb)
                        have HHU4b := Lib.hid (HHU4a.out.grown hb)
                        have HLU4b := Lib.hid (HLU4a.out.grown hb)
                        refine hK _ _ HSU4b.out ?_
                        clear hK hb HCc HSU4a HSRCU4a HHU4a HLU4a
                        refine mix_take (.bool false) HSU4b.out rfl (fun W' hS => by go_simp) ?_
                        simp only [Act.put, List.setIfInBounds_toArray, List.set_cons_zero, List.set_cons_succ]
                        refine mix_take (.bool false) HSU4b.out rfl (fun W' hS => by go_simp) ?_
                        simp only [Act.put, List.setIfInBounds_toArray, List.set_cons_zero, List.set_cons_succ]
                        refine mix_move (.tmp 242) (.bool false) rfl HSU4b.out rfl rfl ?_
                        simp only [Act.put, List.setIfInBounds_toArray, List.set_cons_zero, List.set_cons_succ]
                        refine mix_move (.tmp 19) (.int .i64 why) rfl HSU4b.out rfl rfl ?_
                        simp only [Act.put, List.setIfInBounds_toArray, List.set_cons_zero, List.set_cons_succ]
                        refine mix_take (.bool false) HSU4b.out rfl (fun W' hS => by go_simp) ?_
                        simp only [Act.put, List.setIfInBounds_toArray, List.set_cons_zero, List.set_cons_succ]
                        refine mix_move (.tmp 245) (.bool false) rfl HSU4b.out rfl rfl ?_
                        simp only [Act.put, List.setIfInBounds_toArray, List.set_cons_zero, List.set_cons_succ]
                        refine mix_dropH HSU4b.out rfl ?_
                        simp only [Act.put, List.setIfInBounds_toArray, List.set_cons_zero, List.set_cons_succ]
                        refine mix_dropH HSU4b.out rfl ?_
                        simp only [Act.put, List.setIfInBounds_toArray, List.set_cons_zero, List.set_cons_succ]
                        refine mix_dropH HSU4b.out rfl ?_
                        simp only [Act.put, List.setIfInBounds_toArray, List.set_cons_zero, List.set_cons_succ]
                        refine mix_dropH HSU4b.out rfl ?_
                        simp only [Act.put, List.setIfInBounds_toArray, List.set_cons_zero, List.set_cons_succ]
                        refine mix_dropH HSU4b.out rfl ?_
                        simp only [Act.put, List.setIfInBounds_toArray, List.set_cons_zero, List.set_cons_succ]
                        refine mix_dropH HSU4b.out rfl ?_
                        simp only [Act.put, List.setIfInBounds_toArray, List.set_cons_zero, List.set_cons_succ]
                        refine mix_dropH HSU4b.out rfl ?_
                        simp only [Act.put, List.setIfInBounds_toArray, List.set_cons_zero, List.set_cons_succ]
                        refine mix_skip rfl HSU4b.out ?_
                        simp only [Act.put, List.setIfInBounds_toArray, List.set_cons_zero, List.set_cons_succ]
                        refine mix_dropH HSU4b.out rfl ?_
                        simp only [Act.put, List.setIfInBounds_toArray, List.set_cons_zero, List.set_cons_succ]
                        refine mix_take (.bool false) HSU4b.out rfl (fun W' hS => by go_simp) ?_
                        simp only [Act.put, List.setIfInBounds_toArray, List.set_cons_zero, List.set_cons_succ]
                        refine mix_take (.bool false) HSU4b.out rfl (fun W' hS => by go_simp) ?_
                        simp only [Act.put, List.setIfInBounds_toArray, List.set_cons_zero, List.set_cons_succ]
                        refine mix_nil ?_
                        have HLPU4b := HSU4b
                        clear HSU4b
                        go_upto_region 58 with (fail)
                        refine wp_region_mix (fun W' => LpS ba j ac.N ac.K wN wK wD true W') 24 [(true, 0), (true, 1), (true, 2), (true, 3), (true, 4), (false, 5), (true, 6), (true, 7), (true, 8), (true, 9), (true, 10), (true, 11), (true, 12), (true, 13), (true, 14), (true, 15), (true, 16), (true, 17), (true, 18), (true, 19), (true, 20), (false, 21), (true, 22), (true, 23)] (by kernel_rfl) (by kernel_rfl) (fun _ _ _ d _ h => by cases d <;> exact h) ?_
                        have hd : Below U4b.heap.size U4b U4b.drew := ((Grn.refl U4b).drew 1).below
                        have HSU6 : Hid (LpS ba j ac.N ac.K wN wK wD true U4b.drew) := Lib.hid (HLPU4b.out.grown hd)
                        have HSRCU6 := Lib.hid (HSRCU4b.out.grown hd)
                        have HHU6 := Lib.hid (HHU4b.out.grown hd)
                        have HLU6 := Lib.hid (HLU4b.out.grown hd)
                        clear hd HLPU4b HSRCU4b HHU4b HLU4b
                        simp only [List.map_cons, List.map_nil, List.getD_cons_zero, List.getD_cons_succ, List.drop_succ_cons, List.drop_zero]
                        generalize U4b.drew = U6 at *
                        refine mix_move (.tmp 19) (.int .i64 why) rfl HSU6.out rfl rfl ?_
                        simp only [Act.put, List.setIfInBounds_toArray, List.set_cons_zero, List.set_cons_succ]
                        refine mix_take (.bool false) HSU6.out rfl (fun W' hS => by go_simp) ?_
                        simp only [Act.put, List.setIfInBounds_toArray, List.set_cons_zero, List.set_cons_succ]
                        refine mix_move (.tmp 260) (.bool false) rfl HSU6.out rfl rfl ?_
                        simp only [Act.put, List.setIfInBounds_toArray, List.set_cons_zero, List.set_cons_succ]
                        refine mix_dropH HSU6.out rfl ?_
                        simp only [Act.put, List.setIfInBounds_toArray, List.set_cons_zero, List.set_cons_succ]
                        refine mix_dropH HSU6.out rfl ?_
                        simp only [Act.put, List.setIfInBounds_toArray, List.set_cons_zero, List.set_cons_succ]
                        refine mix_skip rfl HSU6.out ?_
                        simp only [Act.put, List.setIfInBounds_toArray, List.set_cons_zero, List.set_cons_succ]
                        refine mix_take (.bool false) HSU6.out rfl (fun W' hS => by go_simp) ?_
                        simp only [Act.put, List.setIfInBounds_toArray, List.set_cons_zero, List.set_cons_succ]
                        refine mix_move (.tmp 265) (.bool false) rfl HSU6.out rfl rfl ?_
                        simp only [Act.put, List.setIfInBounds_toArray, List.set_cons_zero, List.set_cons_succ]
                        refine mix_dropH HSU6.out rfl ?_
                        simp only [Act.put, List.setIfInBounds_toArray, List.set_cons_zero, List.set_cons_succ]
                        refine mix_dropH HSU6.out rfl ?_
                        simp only [Act.put, List.setIfInBounds_toArray, List.set_cons_zero, List.set_cons_succ]
                        refine mix_dropH HSU6.out rfl ?_
                        simp only [Act.put, List.setIfInBounds_toArray, List.set_cons_zero, List.set_cons_succ]
                        refine mix_dropH HSU6.out rfl ?_
                        simp only [Act.put, List.setIfInBounds_toArray, List.set_cons_zero, List.set_cons_succ]
                        refine mix_dropH HSU6.out rfl ?_
                        simp only [Act.put, List.setIfInBounds_toArray, List.set_cons_zero, List.set_cons_succ]
                        refine mix_dropH HSU6.out rfl ?_
                        simp only [Act.put, List.setIfInBounds_toArray, List.set_cons_zero, List.set_cons_succ]
                        refine mix_dropH HSU6.out rfl ?_
                        simp only [Act.put, List.setIfInBounds_toArray, List.set_cons_zero, List.set_cons_succ]
                        refine mix_dropH HSU6.out rfl ?_
                        simp only [Act.put, List.setIfInBounds_toArray, List.set_cons_zero, List.set_cons_succ]
                        refine mix_dropH HSU6.out rfl ?_
                        simp only [Act.put, List.setIfInBounds_toArray, List.set_cons_zero, List.set_cons_succ]
                        refine mix_dropH HSU6.out rfl ?_
                        simp only [Act.put, List.setIfInBounds_toArray, List.set_cons_zero, List.set_cons_succ]
                        refine mix_dropH HSU6.out rfl ?_
                        simp only [Act.put, List.setIfInBounds_toArray, List.set_cons_zero, List.set_cons_succ]
                        refine mix_dropH HSU6.out rfl ?_
                        simp only [Act.put, List.setIfInBounds_toArray, List.set_cons_zero, List.set_cons_succ]
                        refine mix_dropH HSU6.out rfl ?_
                        simp only [Act.put, List.setIfInBounds_toArray, List.set_cons_zero, List.set_cons_succ]
                        refine mix_skip rfl HSU6.out ?_
                        simp only [Act.put, List.setIfInBounds_toArray, List.set_cons_zero, List.set_cons_succ]
                        refine mix_dropH HSU6.out rfl ?_
                        simp only [Act.put, List.setIfInBounds_toArray, List.set_cons_zero, List.set_cons_succ]
                        refine mix_dropH HSU6.out rfl ?_
                        simp only [Act.put, List.setIfInBounds_toArray, List.set_cons_zero, List.set_cons_succ]
                        refine mix_nil ?_
                        have HLPU6 := HSU6
                        clear HSU6
                        have HC := Lib.hid (ls_where HLU6.out ((j : Nat) : Int))
                        clear HLPU6
                        go_wp2_with (go_at_call 25; fail)
                        refine HC.out.mono ?_
                        rintro e z1 ⟨rfl, hb⟩
                        obtain ⟨z2, hz, hg, hs, hb0⟩ := alloc1 z1 (.cells #[.int .i64 (wheC x' ((j : Nat) : Int)).1.1, .int .i64 (wheC x' ((j : Nat) : Int)).1.2] 47)
                        have HSRCz := Lib.hid ((HSRCU6.out.grown hb).grown hg.below)
                        have HHz := Lib.hid ((HHU6.out.grown hb).grown hg.below)
                        have HLz := Lib.hid ((HLU6.out.grown hb).grown hg.below)
                        have HB0 := Lib.hid hb0
                        have HZZ := Lib.hid hz
                        clear hb HC HSRCU6 HHU6 HLU6 hz hg hs hb0
                        go_upto_region 61 with (fail)
                        rw [HZZ.out]
                        clear HZZ
                        generalize z1.heap.size = bz at *
                        have l0 := cells_cell (o := 0) HB0.out rfl
                        have l1 := cells_cell (o := 1) HB0.out rfl
                        have w0 : ((wheC x' ((j : Nat) : Int)).2.2 == 0) = false := by have := R7.out; simpa using this
                        clear R7
                        clear HB0
                        go_wp2_with fail
                        go_roundw
                        case rel => exact ⟨j + 1, hjn, by go_num, HSRCz, HHz, HLz⟩
                        case measure => simp [intOf]; omega
                  · have hs2 : (wheC x ((j : Nat) : Int)).2.2 = 0 → s = 2 := r4
                    rw [← hwN, ← hwK, ← hwD] at hlp
                    obtain ⟨bp, hbp⟩ : ∃ b, b = decide ((wheC x ((j : Nat) : Int)).2.2 = 0) := ⟨_, rfl⟩
                    rw [← hbp] at hlp
                    have HBP : Hid (bp = true → s = 2) := Lib.hid (fun h => r4 (by rw [hbp] at h; simpa using h))
                    have HLP := Lib.hid hlp
                    have R1 := Lib.hid r1
                    have R5 := Lib.hid r5
                    have q := ls_state HL2.out ((j : Nat) : Int)
                    rw [r3] at q
                    simp only at q
                    have HC := Lib.hid q
                    clear q r1 r3 r4 r5 hlp hwN hwK hwD hs2 hbp
                    go_wp2_with (go_at_call 24; fail)
                    refine HC.out.mono ?_
                    rintro e u1 ⟨rfl, hb⟩
                    have HSRC3 := Lib.hid (HSRC2.out.grown hb)
                    have HH3 := Lib.hid (HH2.out.grown hb)
                    have HL3 := Lib.hid (HL2.out.grown hb)
                    have HLP3 := Lib.hid (HLP.out.grown hb)
                    clear hb HC HSRC2 HH2 HL2 HLP
                    go_upto_region 54 with (fail)
                    cases hbc : bp
                    · subst hbc
                      refine wp_region_mix (fun W' => LpS ba j ac.N ac.K wN wK wD false W') 14 [(true, 0), (true, 1), (true, 2), (true, 3), (true, 4), (true, 6), (true, 7), (true, 8), (false, 5), (true, 9), (true, 10), (true, 11), (true, 12), (true, 13)] (by kernel_rfl) (by kernel_rfl) (fun _ _ _ d _ h => by cases d <;> exact h) ?_
                      have hd : Below u1.heap.size u1 u1.drew := ((Grn.refl u1).drew 1).below
                      have HSU2 : Hid (LpS ba j ac.N ac.K wN wK wD false u1.drew) := Lib.hid (HLP3.out.grown hd)
                      have HSRCU2 := Lib.hid (HSRC3.out.grown hd)
                      have HHU2 := Lib.hid (HH3.out.grown hd)
                      have HLU2 := Lib.hid (HL3.out.grown hd)
                      clear hd HLP3 HSRC3 HH3 HL3
                      simp only [List.map_cons, List.map_nil, List.getD_cons_zero, List.getD_cons_succ, List.drop_succ_cons, List.drop_zero]
                      generalize u1.drew = U2 at *
                      refine mix_move (.tmp 26) (.int .i64 0) rfl HSU2.out rfl rfl ?_
                      simp only [Act.put, List.setIfInBounds_toArray, List.set_cons_zero, List.set_cons_succ]
                      refine mix_take (.bool false) HSU2.out rfl (fun W' hS => by go_simp) ?_
                      simp only [Act.put, List.setIfInBounds_toArray, List.set_cons_zero, List.set_cons_succ]
                      refine mix_move (.tmp 216) (.bool false) rfl HSU2.out rfl rfl ?_
                      simp only [Act.put, List.setIfInBounds_toArray, List.set_cons_zero, List.set_cons_succ]
                      refine mix_move (.tmp 18) s1 rfl HSU2.out rfl rfl ?_
                      simp only [Act.put, List.setIfInBounds_toArray, List.set_cons_zero, List.set_cons_succ]
                      refine mix_move (.tmp 24) (.int .i64 ((j : Nat) : Int)) rfl HSU2.out rfl rfl ?_
                      simp only [Act.put, List.setIfInBounds_toArray, List.set_cons_zero, List.set_cons_succ]
                      refine mix_move (.tmp 24) (.int .i64 ((j : Nat) : Int)) rfl HSU2.out rfl rfl ?_
                      simp only [Act.put, List.setIfInBounds_toArray, List.set_cons_zero, List.set_cons_succ]
                      refine mix_take (.pointer (some ⟨ba + 1 + 1 + 1, j, none⟩)) HSU2.out rfl (fun W' hS => by
                        obtain ⟨l1, l2, l3, l4, l5, l6⟩ := hS
                        go_simp) ?_
                      simp only [Act.put, List.setIfInBounds_toArray, List.set_cons_zero, List.set_cons_succ]
                      refine mix_take (.bool false) HSU2.out rfl (fun W' hS => by
                        obtain ⟨l1, l2, l3, l4, l5, l6⟩ := hS
                        go_simp) ?_
                      simp only [Act.put, List.setIfInBounds_toArray, List.set_cons_zero, List.set_cons_succ]
                      have q := has_any HSRCU2.out HXL.out ((j : Nat) : Int)
                      rw [decide_eq_false R1.out] at q
                      have HCc := Lib.hid q
                      clear q
                      refine mix_step rfl (fun K5 hK => ?_)
                      go_simp
                      go_wp2_with (go_at_call 37; fail)
                      refine HCc.out.mono ?_
                      rintro e U2a ⟨rfl, hb⟩
                      have HSU2a := Lib.hid (HSU2.out.grown hb)
                      have HSRCU2a := Lib.hid (HSRCU2.out.grown hb)
                      have HHU2a := Lib.hid (HHU2.out.grown hb)
                      have HLU2a := Lib.hid (HLU2.out.grown hb)
                      refine hK _ _ HSU2a.out ?_
                      clear hK hb HCc HSU2 HSRCU2 HHU2 HLU2
                      refine mix_move (.tmp 223) (.bool false) rfl HSU2a.out rfl rfl ?_
                      simp only [Act.put, List.setIfInBounds_toArray, List.set_cons_zero, List.set_cons_succ]
                      refine mix_dropH HSU2a.out rfl ?_
                      simp only [Act.put, List.setIfInBounds_toArray, List.set_cons_zero, List.set_cons_succ]
                      refine mix_dropH HSU2a.out rfl ?_
                      simp only [Act.put, List.setIfInBounds_toArray, List.set_cons_zero, List.set_cons_succ]
                      refine mix_take (.bool false) HSU2a.out rfl (fun W' hS => by go_simp) ?_
                      simp only [Act.put, List.setIfInBounds_toArray, List.set_cons_zero, List.set_cons_succ]
                      refine mix_take (.bool false) HSU2a.out rfl (fun W' hS => by go_simp) ?_
                      simp only [Act.put, List.setIfInBounds_toArray, List.set_cons_zero, List.set_cons_succ]
                      refine mix_nil ?_
                      have HLPU2a := HSU2a
                      clear HSU2a
                      go_upto_region 56 with (fail)
                      refine wp_region_mix (fun W' => LpS ba j ac.N ac.K wN wK wD false W') 28 [(true, 0), (true, 1), (false, 2), (true, 3), (true, 4), (true, 5), (true, 6), (true, 7), (true, 8), (true, 9), (false, 10), (true, 11), (true, 12), (true, 13), (true, 14), (true, 15), (true, 16), (true, 17), (true, 18), (true, 19), (true, 20), (true, 21), (true, 22), (true, 23), (false, 24), (true, 25), (true, 26), (true, 27)] (by kernel_rfl) (by kernel_rfl) (fun _ _ _ d _ h => by cases d <;> exact h) ?_
                      have hd : Below U2a.heap.size U2a U2a.drew := ((Grn.refl U2a).drew 1).below
                      have HSU4 : Hid (LpS ba j ac.N ac.K wN wK wD false U2a.drew) := Lib.hid (HLPU2a.out.grown hd)
                      have HSRCU4 := Lib.hid (HSRCU2a.out.grown hd)
                      have HHU4 := Lib.hid (HHU2a.out.grown hd)
                      have HLU4 := Lib.hid (HLU2a.out.grown hd)
                      clear hd HLPU2a HSRCU2a HHU2a HLU2a
                      simp only [List.map_cons, List.map_nil, List.getD_cons_zero, List.getD_cons_succ, List.drop_succ_cons, List.drop_zero]
                      generalize U2a.drew = U4 at *
                      refine mix_move (.tmp 18) s1 rfl HSU4.out rfl rfl ?_
                      simp only [Act.put, List.setIfInBounds_toArray, List.set_cons_zero, List.set_cons_succ]
                      refine mix_move (.tmp 24) (.int .i64 ((j : Nat) : Int)) rfl HSU4.out rfl rfl ?_
                      simp only [Act.put, List.setIfInBounds_toArray, List.set_cons_zero, List.set_cons_succ]
                      have q := has_any HSRCU4.out HXL.out ((j : Nat) : Int)
                      rw [decide_eq_false R1.out] at q
                      have HCc := Lib.hid q
                      clear q
                      refine mix_step rfl (fun K2 hK => ?_)
                      go_simp
                      go_wp2_with (go_at_call 37; fail)
                      refine HCc.out.mono ?_
                      rintro e U4a ⟨rfl, hb⟩
                      have HSU4a := Lib.hid (HSU4.out.grown hb)
                      have HSRCU4a := Lib.hid (HSRCU4.out.grown hb)
                      have HHU4a := Lib.hid (HHU4.out.grown hb)
                      have HLU4a := Lib.hid (HLU4.out.grown hb)
                      refine hK _ _ HSU4a.out ?_
                      clear hK hb HCc HSU4 HSRCU4 HHU4 HLU4
                      refine mix_move (.tmp 232) (.bool false) rfl HSU4a.out rfl rfl ?_
                      simp only [Act.put, List.setIfInBounds_toArray, List.set_cons_zero, List.set_cons_succ]
                      refine mix_dropH HSU4a.out rfl ?_
                      simp only [Act.put, List.setIfInBounds_toArray, List.set_cons_zero, List.set_cons_succ]
                      refine mix_dropH HSU4a.out rfl ?_
                      simp only [Act.put, List.setIfInBounds_toArray, List.set_cons_zero, List.set_cons_succ]
                      refine mix_dropH HSU4a.out rfl ?_
                      simp only [Act.put, List.setIfInBounds_toArray, List.set_cons_zero, List.set_cons_succ]
                      refine mix_dropH HSU4a.out rfl ?_
                      simp only [Act.put, List.setIfInBounds_toArray, List.set_cons_zero, List.set_cons_succ]
                      refine mix_dropH HSU4a.out rfl ?_
                      simp only [Act.put, List.setIfInBounds_toArray, List.set_cons_zero, List.set_cons_succ]
                      refine mix_dropH HSU4a.out rfl ?_
                      simp only [Act.put, List.setIfInBounds_toArray, List.set_cons_zero, List.set_cons_succ]
                      refine mix_skip rfl HSU4a.out ?_
                      simp only [Act.put, List.setIfInBounds_toArray, List.set_cons_zero, List.set_cons_succ]
                      refine mix_dropH HSU4a.out rfl ?_
                      simp only [Act.put, List.setIfInBounds_toArray, List.set_cons_zero, List.set_cons_succ]
                      refine mix_dropH HSU4a.out rfl ?_
                      simp only [Act.put, List.setIfInBounds_toArray, List.set_cons_zero, List.set_cons_succ]
                      refine mix_dropH HSU4a.out rfl ?_
                      simp only [Act.put, List.setIfInBounds_toArray, List.set_cons_zero, List.set_cons_succ]
                      refine mix_dropH HSU4a.out rfl ?_
                      simp only [Act.put, List.setIfInBounds_toArray, List.set_cons_zero, List.set_cons_succ]
                      refine mix_dropH HSU4a.out rfl ?_
                      simp only [Act.put, List.setIfInBounds_toArray, List.set_cons_zero, List.set_cons_succ]
                      refine mix_dropH HSU4a.out rfl ?_
                      simp only [Act.put, List.setIfInBounds_toArray, List.set_cons_zero, List.set_cons_succ]
                      refine mix_dropH HSU4a.out rfl ?_
                      simp only [Act.put, List.setIfInBounds_toArray, List.set_cons_zero, List.set_cons_succ]
                      refine mix_dropH HSU4a.out rfl ?_
                      simp only [Act.put, List.setIfInBounds_toArray, List.set_cons_zero, List.set_cons_succ]
                      refine mix_dropH HSU4a.out rfl ?_
                      simp only [Act.put, List.setIfInBounds_toArray, List.set_cons_zero, List.set_cons_succ]
                      refine mix_dropH HSU4a.out rfl ?_
                      simp only [Act.put, List.setIfInBounds_toArray, List.set_cons_zero, List.set_cons_succ]
                      refine mix_dropH HSU4a.out rfl ?_
                      simp only [Act.put, List.setIfInBounds_toArray, List.set_cons_zero, List.set_cons_succ]
                      refine mix_dropH HSU4a.out rfl ?_
                      simp only [Act.put, List.setIfInBounds_toArray, List.set_cons_zero, List.set_cons_succ]
                      refine mix_dropH HSU4a.out rfl ?_
                      simp only [Act.put, List.setIfInBounds_toArray, List.set_cons_zero, List.set_cons_succ]
                      refine mix_skip rfl HSU4a.out ?_
                      simp only [Act.put, List.setIfInBounds_toArray, List.set_cons_zero, List.set_cons_succ]
                      refine mix_dropH HSU4a.out rfl ?_
                      simp only [Act.put, List.setIfInBounds_toArray, List.set_cons_zero, List.set_cons_succ]
                      refine mix_dropH HSU4a.out rfl ?_
                      simp only [Act.put, List.setIfInBounds_toArray, List.set_cons_zero, List.set_cons_succ]
                      refine mix_dropH HSU4a.out rfl ?_
                      simp only [Act.put, List.setIfInBounds_toArray, List.set_cons_zero, List.set_cons_succ]
                      refine mix_nil ?_
                      have HLPU4a := HSU4a
                      clear HSU4a
                      go_upto_region 58 with (fail)
                      by_cases hw3 : why = 3
                      · as_aux_lemma =>
                        obtain rfl : why = 3 := hw3
                        refine wp_region_mix (fun W' => LpS ba j ac.N ac.K wN wK wD false W') 24 [(true, 0), (true, 1), (true, 2), (true, 3), (true, 4), (false, 5), (true, 6), (true, 7), (true, 8), (true, 9), (true, 10), (true, 11), (true, 12), (true, 13), (true, 14), (true, 15), (true, 16), (true, 17), (true, 18), (true, 19), (true, 20), (false, 21), (true, 22), (true, 23)] (by kernel_rfl) (by kernel_rfl) (fun _ _ _ d _ h => by cases d <;> exact h) ?_
                        have hd : Below U4a.heap.size U4a U4a.drew := ((Grn.refl U4a).drew 1).below
                        have HSU6 : Hid (LpS ba j ac.N ac.K wN wK wD false U4a.drew) := Lib.hid (HLPU4a.out.grown hd)
                        have HSRCU6 := Lib.hid (HSRCU4a.out.grown hd)
                        have HHU6 := Lib.hid (HHU4a.out.grown hd)
                        have HLU6 := Lib.hid (HLU4a.out.grown hd)
                        clear hd HLPU4a HSRCU4a HHU4a HLU4a
                        simp only [List.map_cons, List.map_nil, List.getD_cons_zero, List.getD_cons_succ, List.drop_succ_cons, List.drop_zero]
                        generalize U4a.drew = U6 at *
                        refine mix_move (.tmp 19) (.int .i64 3) rfl HSU6.out rfl rfl ?_
                        simp only [Act.put, List.setIfInBounds_toArray, List.set_cons_zero, List.set_cons_succ]
                        refine mix_take (.bool true) HSU6.out rfl (fun W' hS => by go_simp) ?_
                        simp only [Act.put, List.setIfInBounds_toArray, List.set_cons_zero, List.set_cons_succ]
                        refine mix_move (.tmp 260) (.bool true) rfl HSU6.out rfl rfl ?_
                        simp only [Act.put, List.setIfInBounds_toArray, List.set_cons_zero, List.set_cons_succ]
                        refine mix_move (.tmp 18) s1 rfl HSU6.out rfl rfl ?_
                        simp only [Act.put, List.setIfInBounds_toArray, List.set_cons_zero, List.set_cons_succ]
                        refine mix_move (.tmp 24) (.int .i64 ((j : Nat) : Int)) rfl HSU6.out rfl rfl ?_
                        simp only [Act.put, List.setIfInBounds_toArray, List.set_cons_zero, List.set_cons_succ]
                        have q := has_any HSRCU6.out HXL.out ((j : Nat) : Int)
                        rw [decide_eq_false R1.out] at q
                        have HCc := Lib.hid q
                        clear q
                        refine mix_step rfl (fun K5 hK => ?_)
                        go_simp
                        go_wp2_with (go_at_call 37; fail)
                        refine HCc.out.mono ?_
                        rintro e U6a ⟨rfl, hb⟩
                        have HSU6a := Lib.hid (HSU6.out.grown hb)
                        have HSRCU6a := Lib.hid (HSRCU6.out.grown hb)
                        have HHU6a := Lib.hid (HHU6.out.grown hb)
                        have HLU6a := Lib.hid (HLU6.out.grown hb)
                        refine hK _ _ HSU6a.out ?_
                        clear hK hb HCc HSU6 HSRCU6 HHU6 HLU6
                        refine mix_take (.bool false) HSU6a.out rfl (fun W' hS => by go_simp) ?_
                        simp only [Act.put, List.setIfInBounds_toArray, List.set_cons_zero, List.set_cons_succ]
                        refine mix_move (.tmp 265) (.bool false) rfl HSU6a.out rfl rfl ?_
                        simp only [Act.put, List.setIfInBounds_toArray, List.set_cons_zero, List.set_cons_succ]
                        refine mix_dropH HSU6a.out rfl ?_
                        simp only [Act.put, List.setIfInBounds_toArray, List.set_cons_zero, List.set_cons_succ]
                        refine mix_dropH HSU6a.out rfl ?_
                        simp only [Act.put, List.setIfInBounds_toArray, List.set_cons_zero, List.set_cons_succ]
                        refine mix_dropH HSU6a.out rfl ?_
                        simp only [Act.put, List.setIfInBounds_toArray, List.set_cons_zero, List.set_cons_succ]
                        refine mix_dropH HSU6a.out rfl ?_
                        simp only [Act.put, List.setIfInBounds_toArray, List.set_cons_zero, List.set_cons_succ]
                        refine mix_dropH HSU6a.out rfl ?_
                        simp only [Act.put, List.setIfInBounds_toArray, List.set_cons_zero, List.set_cons_succ]
                        refine mix_dropH HSU6a.out rfl ?_
                        simp only [Act.put, List.setIfInBounds_toArray, List.set_cons_zero, List.set_cons_succ]
                        refine mix_dropH HSU6a.out rfl ?_
                        simp only [Act.put, List.setIfInBounds_toArray, List.set_cons_zero, List.set_cons_succ]
                        refine mix_dropH HSU6a.out rfl ?_
                        simp only [Act.put, List.setIfInBounds_toArray, List.set_cons_zero, List.set_cons_succ]
                        refine mix_dropH HSU6a.out rfl ?_
                        simp only [Act.put, List.setIfInBounds_toArray, List.set_cons_zero, List.set_cons_succ]
                        refine mix_dropH HSU6a.out rfl ?_
                        simp only [Act.put, List.setIfInBounds_toArray, List.set_cons_zero, List.set_cons_succ]
                        refine mix_dropH HSU6a.out rfl ?_
                        simp only [Act.put, List.setIfInBounds_toArray, List.set_cons_zero, List.set_cons_succ]
                        refine mix_dropH HSU6a.out rfl ?_
                        simp only [Act.put, List.setIfInBounds_toArray, List.set_cons_zero, List.set_cons_succ]
                        refine mix_dropH HSU6a.out rfl ?_
                        simp only [Act.put, List.setIfInBounds_toArray, List.set_cons_zero, List.set_cons_succ]
                        refine mix_skip rfl HSU6a.out ?_
                        simp only [Act.put, List.setIfInBounds_toArray, List.set_cons_zero, List.set_cons_succ]
                        refine mix_dropH HSU6a.out rfl ?_
                        simp only [Act.put, List.setIfInBounds_toArray, List.set_cons_zero, List.set_cons_succ]
                        refine mix_dropH HSU6a.out rfl ?_
                        simp only [Act.put, List.setIfInBounds_toArray, List.set_cons_zero, List.set_cons_succ]
                        refine mix_nil ?_
                        have HLPU6a := HSU6a
                        clear HSU6a
                        have HC := Lib.hid (ls_where HLU6a.out ((j : Nat) : Int))
                        clear HLPU6a
                        go_wp2_with (go_at_call 25; fail)
                        refine HC.out.mono ?_
                        rintro e z1 ⟨rfl, hb⟩
                        obtain ⟨z2, hz, hg, hs, hb0⟩ := alloc1 z1 (.cells #[.int .i64 (wheC x' ((j : Nat) : Int)).1.1, .int .i64 (wheC x' ((j : Nat) : Int)).1.2] 47)
                        have HSRCz := Lib.hid ((HSRCU6a.out.grown hb).grown hg.below)
                        have HHz := Lib.hid ((HHU6a.out.grown hb).grown hg.below)
                        have HLz := Lib.hid ((HLU6a.out.grown hb).grown hg.below)
                        have HB0 := Lib.hid hb0
                        have HZZ := Lib.hid hz
                        clear hb HC HSRCU6a HHU6a HLU6a hz hg hs hb0
                        go_upto_region 61 with (fail)
                        rw [HZZ.out]
                        clear HZZ
                        generalize z1.heap.size = bz at *
                        have l0 := cells_cell (o := 0) HB0.out rfl
                        have l1 := cells_cell (o := 1) HB0.out rfl
                        by_cases hz0 : (wheC x' ((j : Nat) : Int)).2.2 = 0
                        · have w0 : ((wheC x' ((j : Nat) : Int)).2.2 == 0) = true := by simpa using hz0
                          have q := ls_check HLz.out (wheC x' ((j : Nat) : Int)).1.1 (wheC x' ((j : Nat) : Int)).1.2 (wheC x' ((j : Nat) : Int)).2.1
                          rw [R5.out hz0] at q
                          have HC := Lib.hid q
                          clear q hz0
                          go_wp2_with (go_at_call 26; fail)
                          refine HC.out.mono ?_
                          rintro e z3 ⟨rfl, hb⟩
                          have HSRCy := Lib.hid (HSRCz.out.grown hb)
                          have HHy := Lib.hid (HHz.out.grown hb)
                          have HLy := Lib.hid (HLz.out.grown hb)
                          clear hb HC HB0 HSRCz HHz HLz l0 l1
                          go_wp2_with fail
                          go_roundw
                          case rel => exact ⟨j + 1, hjn, by go_num, HSRCy, HHy, HLy⟩
                          case measure => simp [intOf]; omega
                        · have w0 : ((wheC x' ((j : Nat) : Int)).2.2 == 0) = false := by simpa using hz0
                          clear hz0 HB0
                          go_wp2_with fail
                          go_roundw
                          case rel => exact ⟨j + 1, hjn, by go_num, HSRCz, HHz, HLz⟩
                          case measure => simp [intOf]; omega
                      · as_aux_lemma =>
                        have w3 : (why == 3) = false := by simpa using hw3
                        refine wp_region_mix (fun W' => LpS ba j ac.N ac.K wN wK wD false W') 24 [(true, 0), (true, 1), (true, 2), (true, 3), (true, 4), (false, 5), (true, 6), (true, 7), (true, 8), (true, 9), (true, 10), (true, 11), (true, 12), (true, 13), (true, 14), (true, 15), (true, 16), (true, 17), (true, 18), (true, 19), (true, 20), (false, 21), (true, 22), (true, 23)] (by kernel_rfl) (by kernel_rfl) (fun _ _ _ d _ h => by cases d <;> exact h) ?_
                        have hd : Below U4a.heap.size U4a U4a.drew := ((Grn.refl U4a).drew 1).below
                        have HSU6 : Hid (LpS ba j ac.N ac.K wN wK wD false U4a.drew) := Lib.hid (HLPU4a.out.grown hd)
                        have HSRCU6 := Lib.hid (HSRCU4a.out.grown hd)
                        have HHU6 := Lib.hid (HHU4a.out.grown hd)
                        have HLU6 := Lib.hid (HLU4a.out.grown hd)
                        clear hd HLPU4a HSRCU4a HHU4a HLU4a
                        simp only [List.map_cons, List.map_nil, List.getD_cons_zero, List.getD_cons_succ, List.drop_succ_cons, List.drop_zero]
                        generalize U4a.drew = U6 at *
                        refine mix_move (.tmp 19) (.int .i64 why) rfl HSU6.out rfl rfl ?_
                        simp only [Act.put, List.setIfInBounds_toArray, List.set_cons_zero, List.set_cons_succ]
                        refine mix_take (.bool false) HSU6.out rfl (fun W' hS => by go_simp) ?_
                        simp only [Act.put, List.setIfInBounds_toArray, List.set_cons_zero, List.set_cons_succ]
                        refine mix_move (.tmp 260) (.bool false) rfl HSU6.out rfl rfl ?_
                        simp only [Act.put, List.setIfInBounds_toArray, List.set_cons_zero, List.set_cons_succ]
                        refine mix_dropH HSU6.out rfl ?_
                        simp only [Act.put, List.setIfInBounds_toArray, List.set_cons_zero, List.set_cons_succ]
                        refine mix_dropH HSU6.out rfl ?_
                        simp only [Act.put, List.setIfInBounds_toArray, List.set_cons_zero, List.set_cons_succ]
                        refine mix_skip rfl HSU6.out ?_
                        simp only [Act.put, List.setIfInBounds_toArray, List.set_cons_zero, List.set_cons_succ]
                        refine mix_take (.bool false) HSU6.out rfl (fun W' hS => by go_simp) ?_
                        simp only [Act.put, List.setIfInBounds_toArray, List.set_cons_zero, List.set_cons_succ]
                        refine mix_move (.tmp 265) (.bool false) rfl HSU6.out rfl rfl ?_
                        simp only [Act.put, List.setIfInBounds_toArray, List.set_cons_zero, List.set_cons_succ]
                        refine mix_dropH HSU6.out rfl ?_
                        simp only [Act.put, List.setIfInBounds_toArray, List.set_cons_zero, List.set_cons_succ]
                        refine mix_dropH HSU6.out rfl ?_
                        simp only [Act.put, List.setIfInBounds_toArray, List.set_cons_zero, List.set_cons_succ]
                        refine mix_dropH HSU6.out rfl ?_
                        simp only [Act.put, List.setIfInBounds_toArray, List.set_cons_zero, List.set_cons_succ]
                        refine mix_dropH HSU6.out rfl ?_
                        simp only [Act.put, List.setIfInBounds_toArray, List.set_cons_zero, List.set_cons_succ]
                        refine mix_dropH HSU6.out rfl ?_
                        simp only [Act.put, List.setIfInBounds_toArray, List.set_cons_zero, List.set_cons_succ]
                        refine mix_dropH HSU6.out rfl ?_
                        simp only [Act.put, List.setIfInBounds_toArray, List.set_cons_zero, List.set_cons_succ]
                        refine mix_dropH HSU6.out rfl ?_
                        simp only [Act.put, List.setIfInBounds_toArray, List.set_cons_zero, List.set_cons_succ]
                        refine mix_dropH HSU6.out rfl ?_
                        simp only [Act.put, List.setIfInBounds_toArray, List.set_cons_zero, List.set_cons_succ]
                        refine mix_dropH HSU6.out rfl ?_
                        simp only [Act.put, List.setIfInBounds_toArray, List.set_cons_zero, List.set_cons_succ]
                        refine mix_dropH HSU6.out rfl ?_
                        simp only [Act.put, List.setIfInBounds_toArray, List.set_cons_zero, List.set_cons_succ]
                        refine mix_dropH HSU6.out rfl ?_
                        simp only [Act.put, List.setIfInBounds_toArray, List.set_cons_zero, List.set_cons_succ]
                        refine mix_dropH HSU6.out rfl ?_
                        simp only [Act.put, List.setIfInBounds_toArray, List.set_cons_zero, List.set_cons_succ]
                        refine mix_dropH HSU6.out rfl ?_
                        simp only [Act.put, List.setIfInBounds_toArray, List.set_cons_zero, List.set_cons_succ]
                        refine mix_skip rfl HSU6.out ?_
                        simp only [Act.put, List.setIfInBounds_toArray, List.set_cons_zero, List.set_cons_succ]
                        refine mix_dropH HSU6.out rfl ?_
                        simp only [Act.put, List.setIfInBounds_toArray, List.set_cons_zero, List.set_cons_succ]
                        refine mix_dropH HSU6.out rfl ?_
                        simp only [Act.put, List.setIfInBounds_toArray, List.set_cons_zero, List.set_cons_succ]
                        refine mix_nil ?_
                        have HLPU6 := HSU6
                        clear HSU6
                        have HC := Lib.hid (ls_where HLU6.out ((j : Nat) : Int))
                        clear HLPU6
                        go_wp2_with (go_at_call 25; fail)
                        refine HC.out.mono ?_
                        rintro e z1 ⟨rfl, hb⟩
                        obtain ⟨z2, hz, hg, hs, hb0⟩ := alloc1 z1 (.cells #[.int .i64 (wheC x' ((j : Nat) : Int)).1.1, .int .i64 (wheC x' ((j : Nat) : Int)).1.2] 47)
                        have HSRCz := Lib.hid ((HSRCU6.out.grown hb).grown hg.below)
                        have HHz := Lib.hid ((HHU6.out.grown hb).grown hg.below)
                        have HLz := Lib.hid ((HLU6.out.grown hb).grown hg.below)
                        have HB0 := Lib.hid hb0
                        have HZZ := Lib.hid hz
                        clear hb HC HSRCU6 HHU6 HLU6 hz hg hs hb0
                        go_upto_region 61 with (fail)
                        rw [HZZ.out]
                        clear HZZ
                        generalize z1.heap.size = bz at *
                        have l0 := cells_cell (o := 0) HB0.out rfl
                        have l1 := cells_cell (o := 1) HB0.out rfl
                        by_cases hz0 : (wheC x' ((j : Nat) : Int)).2.2 = 0
                        · have w0 : ((wheC x' ((j : Nat) : Int)).2.2 == 0) = true := by simpa using hz0
                          have q := ls_check HLz.out (wheC x' ((j : Nat) : Int)).1.1 (wheC x' ((j : Nat) : Int)).1.2 (wheC x' ((j : Nat) : Int)).2.1
                          rw [R5.out hz0] at q
                          have HC := Lib.hid q
                          clear q hz0
                          go_wp2_with (go_at_call 26; fail)
                          refine HC.out.mono ?_
                          rintro e z3 ⟨rfl, hb⟩
                          have HSRCy := Lib.hid (HSRCz.out.grown hb)
                          have HHy := Lib.hid (HHz.out.grown hb)
                          have HLy := Lib.hid (HLz.out.grown hb)
                          clear hb HC HB0 HSRCz HHz HLz l0 l1
                          go_wp2_with fail
                          go_roundw
                          case rel => exact ⟨j + 1, hjn, by go_num, HSRCy, HHy, HLy⟩
                          case measure => simp [intOf]; omega
                        · have w0 : ((wheC x' ((j : Nat) : Int)).2.2 == 0) = false := by simpa using hz0
                          clear hz0 HB0
                          go_wp2_with fail
                          go_roundw
                          case rel => exact ⟨j + 1, hjn, by go_num, HSRCz, HHz, HLz⟩
                          case measure => simp [intOf]; omega
                    · have hsb := HBP.out hbc
                      subst hsb
                      subst hbc
                      refine wp_region_mix (fun W' => LpS ba j ac.N ac.K wN wK wD true W') 14 [(true, 0), (true, 1), (true, 2), (true, 3), (true, 4), (true, 6), (true, 7), (true, 8), (false, 5), (true, 9), (true, 10), (true, 11), (true, 12), (true, 13)] (by kernel_rfl) (by kernel_rfl) (fun _ _ _ d _ h => by cases d <;> exact h) ?_
                      have hd : Below u1.heap.size u1 u1.drew := ((Grn.refl u1).drew 1).below
                      have HSU2 : Hid (LpS ba j ac.N ac.K wN wK wD true u1.drew) := Lib.hid (HLP3.out.grown hd)
                      have HSRCU2 := Lib.hid (HSRC3.out.grown hd)
                      have HHU2 := Lib.hid (HH3.out.grown hd)
                      have HLU2 := Lib.hid (HL3.out.grown hd)
                      clear hd HLP3 HSRC3 HH3 HL3
                      simp only [List.map_cons, List.map_nil, List.getD_cons_zero, List.getD_cons_succ, List.drop_succ_cons, List.drop_zero]
                      generalize u1.drew = U2 at *
                      refine mix_move (.tmp 26) (.int .i64 0) rfl HSU2.out rfl rfl ?_
                      simp only [Act.put, List.setIfInBounds_toArray, List.set_cons_zero, List.set_cons_succ]
                      refine mix_take (.bool false) HSU2.out rfl (fun W' hS => by go_simp) ?_
                      simp only [Act.put, List.setIfInBounds_toArray, List.set_cons_zero, List.set_cons_succ]
                      refine mix_move (.tmp 216) (.bool false) rfl HSU2.out rfl rfl ?_
                      simp only [Act.put, List.setIfInBounds_toArray, List.set_cons_zero, List.set_cons_succ]
                      refine mix_move (.tmp 18) s1 rfl HSU2.out rfl rfl ?_
                      simp only [Act.put, List.setIfInBounds_toArray, List.set_cons_zero, List.set_cons_succ]
                      refine mix_move (.tmp 24) (.int .i64 ((j : Nat) : Int)) rfl HSU2.out rfl rfl ?_
                      simp only [Act.put, List.setIfInBounds_toArray, List.set_cons_zero, List.set_cons_succ]
                      refine mix_move (.tmp 24) (.int .i64 ((j : Nat) : Int)) rfl HSU2.out rfl rfl ?_
                      simp only [Act.put, List.setIfInBounds_toArray, List.set_cons_zero, List.set_cons_succ]
                      refine mix_take (.pointer (some ⟨ba + 1 + 1 + 1, j, none⟩)) HSU2.out rfl (fun W' hS => by
                        obtain ⟨l1, l2, l3, l4, l5, l6⟩ := hS
                        go_simp) ?_
                      simp only [Act.put, List.setIfInBounds_toArray, List.set_cons_zero, List.set_cons_succ]
                      refine mix_take (.bool true) HSU2.out rfl (fun W' hS => by
                        obtain ⟨l1, l2, l3, l4, l5, l6⟩ := hS
                        go_simp) ?_
                      simp only [Act.put, List.setIfInBounds_toArray, List.set_cons_zero, List.set_cons_succ]
                      have q := has_any HSRCU2.out HXL.out ((j : Nat) : Int)
                      rw [decide_eq_false R1.out] at q
                      have HCc := Lib.hid q
                      clear q
                      refine mix_step rfl (fun K5 hK => ?_)
                      go_simp
                      go_wp2_with (go_at_call 37; fail)
                      refine HCc.out.mono ?_
                      rintro e U2a ⟨rfl, hb⟩
                      have HSU2a := Lib.hid (HSU2.out.grown hb)
                      have HSRCU2a := Lib.hid (HSRCU2.out.grown hb)
                      have HHU2a := Lib.hid (HHU2.out.grown hb)
                      have HLU2a := Lib.hid (HLU2.out.grown hb)
                      refine hK _ _ HSU2a.out ?_
                      clear hK hb HCc HSU2 HSRCU2 HHU2 HLU2
                      refine mix_move (.tmp 223) (.bool true) rfl HSU2a.out rfl rfl ?_
                      simp only [Act.put, List.setIfInBounds_toArray, List.set_cons_zero, List.set_cons_succ]
                      refine mix_move (.tmp 25) (.int .i64 2) rfl HSU2a.out rfl rfl ?_
                      simp only [Act.put, List.setIfInBounds_toArray, List.set_cons_zero, List.set_cons_succ]
                      refine mix_take (.bool false) HSU2a.out rfl (fun W' hS => by go_simp) ?_
                      simp only [Act.put, List.setIfInBounds_toArray, List.set_cons_zero, List.set_cons_succ]
                      refine mix_take (.bool false) HSU2a.out rfl (fun W' hS => by go_simp) ?_
                      simp only [Act.put, List.setIfInBounds_toArray, List.set_cons_zero, List.set_cons_succ]
                      refine mix_take (.bool false) HSU2a.out rfl (fun W' hS => by go_simp) ?_
                      simp only [Act.put, List.setIfInBounds_toArray, List.set_cons_zero, List.set_cons_succ]
                      refine mix_nil ?_
                      have HLPU2a := HSU2a
                      clear HSU2a
                      go_upto_region 56 with (fail)
                      refine wp_region_mix (fun W' => LpS ba j ac.N ac.K wN wK wD true W') 28 [(true, 0), (true, 1), (false, 2), (true, 3), (true, 4), (true, 5), (true, 6), (true, 7), (true, 8), (true, 9), (false, 10), (true, 11), (true, 12), (true, 13), (true, 14), (true, 15), (true, 16), (true, 17), (true, 18), (true, 19), (true, 20), (true, 21), (true, 22), (true, 23), (false, 24), (true, 25), (true, 26), (true, 27)] (by kernel_rfl) (by kernel_rfl) (fun _ _ _ d _ h => by cases d <;> exact h) ?_
                      have hd : Below U2a.heap.size U2a U2a.drew := ((Grn.refl U2a).drew 1).below
                      have HSU4 : Hid (LpS ba j ac.N ac.K wN wK wD true U2a.drew) := Lib.hid (HLPU2a.out.grown hd)
                      have HSRCU4 := Lib.hid (HSRCU2a.out.grown hd)
                      have HHU4 := Lib.hid (HHU2a.out.grown hd)
                      have HLU4 := Lib.hid (HLU2a.out.grown hd)
                      clear hd HLPU2a HSRCU2a HHU2a HLU2a
                      simp only [List.map_cons, List.map_nil, List.getD_cons_zero, List.getD_cons_succ, List.drop_succ_cons, List.drop_zero]
                      generalize U2a.drew = U4 at *
                      refine mix_move (.tmp 18) s1 rfl HSU4.out rfl rfl ?_
                      simp only [Act.put, List.setIfInBounds_toArray, List.set_cons_zero, List.set_cons_succ]
                      refine mix_move (.tmp 24) (.int .i64 ((j : Nat) : Int)) rfl HSU4.out rfl rfl ?_
                      simp only [Act.put, List.setIfInBounds_toArray, List.set_cons_zero, List.set_cons_succ]
                      have q := has_any HSRCU4.out HXL.out ((j : Nat) : Int)
                      rw [decide_eq_false R1.out] at q
                      have HCc := Lib.hid q
                      clear q
                      refine mix_step rfl (fun K2 hK => ?_)
                      go_simp
                      go_wp2_with (go_at_call 37; fail)
                      refine HCc.out.mono ?_
                      rintro e U4a ⟨rfl, hb⟩
                      have HSU4a := Lib.hid (HSU4.out.grown hb)
                      have HSRCU4a := Lib.hid (HSRCU4.out.grown hb)
                      have HHU4a := Lib.hid (HHU4.out.grown hb)
                      have HLU4a := Lib.hid (HLU4.out.grown hb)
                      refine hK _ _ HSU4a.out ?_
                      clear hK hb HCc HSU4 HSRCU4 HHU4 HLU4
                      refine mix_move (.tmp 232) (.bool false) rfl HSU4a.out rfl rfl ?_
                      simp only [Act.put, List.setIfInBounds_toArray, List.set_cons_zero, List.set_cons_succ]
                      refine mix_dropH HSU4a.out rfl ?_
                      simp only [Act.put, List.setIfInBounds_toArray, List.set_cons_zero, List.set_cons_succ]
                      refine mix_dropH HSU4a.out rfl ?_
                      simp only [Act.put, List.setIfInBounds_toArray, List.set_cons_zero, List.set_cons_succ]
                      refine mix_dropH HSU4a.out rfl ?_
                      simp only [Act.put, List.setIfInBounds_toArray, List.set_cons_zero, List.set_cons_succ]
                      refine mix_dropH HSU4a.out rfl ?_
                      simp only [Act.put, List.setIfInBounds_toArray, List.set_cons_zero, List.set_cons_succ]
                      refine mix_dropH HSU4a.out rfl ?_
                      simp only [Act.put, List.setIfInBounds_toArray, List.set_cons_zero, List.set_cons_succ]
                      refine mix_dropH HSU4a.out rfl ?_
                      simp only [Act.put, List.setIfInBounds_toArray, List.set_cons_zero, List.set_cons_succ]
                      refine mix_skip rfl HSU4a.out ?_
                      simp only [Act.put, List.setIfInBounds_toArray, List.set_cons_zero, List.set_cons_succ]
                      refine mix_dropH HSU4a.out rfl ?_
                      simp only [Act.put, List.setIfInBounds_toArray, List.set_cons_zero, List.set_cons_succ]
                      refine mix_dropH HSU4a.out rfl ?_
                      simp only [Act.put, List.setIfInBounds_toArray, List.set_cons_zero, List.set_cons_succ]
                      refine mix_dropH HSU4a.out rfl ?_
                      simp only [Act.put, List.setIfInBounds_toArray, List.set_cons_zero, List.set_cons_succ]
                      refine mix_dropH HSU4a.out rfl ?_
                      simp only [Act.put, List.setIfInBounds_toArray, List.set_cons_zero, List.set_cons_succ]
                      refine mix_dropH HSU4a.out rfl ?_
                      simp only [Act.put, List.setIfInBounds_toArray, List.set_cons_zero, List.set_cons_succ]
                      refine mix_dropH HSU4a.out rfl ?_
                      simp only [Act.put, List.setIfInBounds_toArray, List.set_cons_zero, List.set_cons_succ]
                      refine mix_dropH HSU4a.out rfl ?_
                      simp only [Act.put, List.setIfInBounds_toArray, List.set_cons_zero, List.set_cons_succ]
                      refine mix_dropH HSU4a.out rfl ?_
                      simp only [Act.put, List.setIfInBounds_toArray, List.set_cons_zero, List.set_cons_succ]
                      refine mix_dropH HSU4a.out rfl ?_
                      simp only [Act.put, List.setIfInBounds_toArray, List.set_cons_zero, List.set_cons_succ]
                      refine mix_dropH HSU4a.out rfl ?_
                      simp only [Act.put, List.setIfInBounds_toArray, List.set_cons_zero, List.set_cons_succ]
                      refine mix_dropH HSU4a.out rfl ?_
                      simp only [Act.put, List.setIfInBounds_toArray, List.set_cons_zero, List.set_cons_succ]
                      refine mix_dropH HSU4a.out rfl ?_
                      simp only [Act.put, List.setIfInBounds_toArray, List.set_cons_zero, List.set_cons_succ]
                      refine mix_dropH HSU4a.out rfl ?_
                      simp only [Act.put, List.setIfInBounds_toArray, List.set_cons_zero, List.set_cons_succ]
                      refine mix_skip rfl HSU4a.out ?_
                      simp only [Act.put, List.setIfInBounds_toArray, List.set_cons_zero, List.set_cons_succ]
                      refine mix_dropH HSU4a.out rfl ?_
                      simp only [Act.put, List.setIfInBounds_toArray, List.set_cons_zero, List.set_cons_succ]
                      refine mix_dropH HSU4a.out rfl ?_
                      simp only [Act.put, List.setIfInBounds_toArray, List.set_cons_zero, List.set_cons_succ]
                      refine mix_dropH HSU4a.out rfl ?_
                      simp only [Act.put, List.setIfInBounds_toArray, List.set_cons_zero, List.set_cons_succ]
                      refine mix_nil ?_
                      have HLPU4a := HSU4a
                      clear HSU4a
                      go_upto_region 58 with (fail)
                      by_cases hw3 : why = 3
                      · as_aux_lemma =>
                        obtain rfl : why = 3 := hw3
                        refine wp_region_mix (fun W' => LpS ba j ac.N ac.K wN wK wD true W') 24 [(true, 0), (true, 1), (true, 2), (true, 3), (true, 4), (false, 5), (true, 6), (true, 7), (true, 8), (true, 9), (true, 10), (true, 11), (true, 12), (true, 13), (true, 14), (true, 15), (true, 16), (true, 17), (true, 18), (true, 19), (true, 20), (false, 21), (true, 22), (true, 23)] (by kernel_rfl) (by kernel_rfl) (fun _ _ _ d _ h => by cases d <;> exact h) ?_
                        have hd : Below U4a.heap.size U4a U4a.drew := ((Grn.refl U4a).drew 1).below
                        have HSU6 : Hid (LpS ba j ac.N ac.K wN wK wD true U4a.drew) := Lib.hid (HLPU4a.out.grown hd)
                        have HSRCU6 := Lib.hid (HSRCU4a.out.grown hd)
                        have HHU6 := Lib.hid (HHU4a.out.grown hd)
                        have HLU6 := Lib.hid (HLU4a.out.grown hd)
                        clear hd HLPU4a HSRCU4a HHU4a HLU4a
                        simp only [List.map_cons, List.map_nil, List.getD_cons_zero, List.getD_cons_succ, List.drop_succ_cons, List.drop_zero]
                        generalize U4a.drew = U6 at *
                        refine mix_move (.tmp 19) (.int .i64 3) rfl HSU6.out rfl rfl ?_
                        simp only [Act.put, List.setIfInBounds_toArray, List.set_cons_zero, List.set_cons_succ]
                        refine mix_take (.bool true) HSU6.out rfl (fun W' hS => by go_simp) ?_
                        simp only [Act.put, List.setIfInBounds_toArray, List.set_cons_zero, List.set_cons_succ]
                        refine mix_move (.tmp 260) (.bool true) rfl HSU6.out rfl rfl ?_
                        simp only [Act.put, List.setIfInBounds_toArray, List.set_cons_zero, List.set_cons_succ]
                        refine mix_move (.tmp 18) s1 rfl HSU6.out rfl rfl ?_
                        simp only [Act.put, List.setIfInBounds_toArray, List.set_cons_zero, List.set_cons_succ]
                        refine mix_move (.tmp 24) (.int .i64 ((j : Nat) : Int)) rfl HSU6.out rfl rfl ?_
                        simp only [Act.put, List.setIfInBounds_toArray, List.set_cons_zero, List.set_cons_succ]
                        have q := has_any HSRCU6.out HXL.out ((j : Nat) : Int)
                        rw [decide_eq_false R1.out] at q
                        have HCc := Lib.hid q
                        clear q
                        refine mix_step rfl (fun K5 hK => ?_)
                        go_simp
                        go_wp2_with (go_at_call 37; fail)
                        refine HCc.out.mono ?_
                        rintro e U6a ⟨rfl, hb⟩
                        have HSU6a := Lib.hid (HSU6.out.grown hb)
                        have HSRCU6a := Lib.hid (HSRCU6.out.grown hb)
                        have HHU6a := Lib.hid (HHU6.out.grown hb)
                        have HLU6a := Lib.hid (HLU6.out.grown hb)
                        refine hK _ _ HSU6a.out ?_
                        clear hK hb HCc HSU6 HSRCU6 HHU6 HLU6
                        refine mix_take (.bool false) HSU6a.out rfl (fun W' hS => by go_simp) ?_
                        simp only [Act.put, List.setIfInBounds_toArray, List.set_cons_zero, List.set_cons_succ]
                        refine mix_move (.tmp 265) (.bool false) rfl HSU6a.out rfl rfl ?_
                        simp only [Act.put, List.setIfInBounds_toArray, List.set_cons_zero, List.set_cons_succ]
                        refine mix_dropH HSU6a.out rfl ?_
                        simp only [Act.put, List.setIfInBounds_toArray, List.set_cons_zero, List.set_cons_succ]
                        refine mix_dropH HSU6a.out rfl ?_
                        simp only [Act.put, List.setIfInBounds_toArray, List.set_cons_zero, List.set_cons_succ]
                        refine mix_dropH HSU6a.out rfl ?_
                        simp only [Act.put, List.setIfInBounds_toArray, List.set_cons_zero, List.set_cons_succ]
                        refine mix_dropH HSU6a.out rfl ?_
                        simp only [Act.put, List.setIfInBounds_toArray, List.set_cons_zero, List.set_cons_succ]
                        refine mix_dropH HSU6a.out rfl ?_
                        simp only [Act.put, List.setIfInBounds_toArray, List.set_cons_zero, List.set_cons_succ]
                        refine mix_dropH HSU6a.out rfl ?_
                        simp only [Act.put, List.setIfInBounds_toArray, List.set_cons_zero, List.set_cons_succ]
                        refine mix_dropH HSU6a.out rfl ?_
                        simp only [Act.put, List.setIfInBounds_toArray, List.set_cons_zero, List.set_cons_succ]
                        refine mix_dropH HSU6a.out rfl ?_
                        simp only [Act.put, List.setIfInBounds_toArray, List.set_cons_zero, List.set_cons_succ]
                        refine mix_dropH HSU6a.out rfl ?_
                        simp only [Act.put, List.setIfInBounds_toArray, List.set_cons_zero, List.set_cons_succ]
                        refine mix_dropH HSU6a.out rfl ?_
                        simp only [Act.put, List.setIfInBounds_toArray, List.set_cons_zero, List.set_cons_succ]
                        refine mix_dropH HSU6a.out rfl ?_
                        simp only [Act.put, List.setIfInBounds_toArray, List.set_cons_zero, List.set_cons_succ]
                        refine mix_dropH HSU6a.out rfl ?_
                        simp only [Act.put, List.setIfInBounds_toArray, List.set_cons_zero, List.set_cons_succ]
                        refine mix_dropH HSU6a.out rfl ?_
                        simp only [Act.put, List.setIfInBounds_toArray, List.set_cons_zero, List.set_cons_succ]
                        refine mix_skip rfl HSU6a.out ?_
                        simp only [Act.put, List.setIfInBounds_toArray, List.set_cons_zero, List.set_cons_succ]
                        refine mix_dropH HSU6a.out rfl ?_
                        simp only [Act.put, List.setIfInBounds_toArray, List.set_cons_zero, List.set_cons_succ]
                        refine mix_dropH HSU6a.out rfl ?_
                        simp only [Act.put, List.setIfInBounds_toArray, List.set_cons_zero, List.set_cons_succ]
                        refine mix_nil ?_
                        have HLPU6a := HSU6a
                        clear HSU6a
                        have HC := Lib.hid (ls_where HLU6a.out ((j : Nat) : Int))
                        clear HLPU6a
                        go_wp2_with (go_at_call 25; fail)
                        refine HC.out.mono ?_
                        rintro e z1 ⟨rfl, hb⟩
                        obtain ⟨z2, hz, hg, hs, hb0⟩ := alloc1 z1 (.cells #[.int .i64 (wheC x' ((j : Nat) : Int)).1.1, .int .i64 (wheC x' ((j : Nat) : Int)).1.2] 47)
                        have HSRCz := Lib.hid ((HSRCU6a.out.grown hb).grown hg.below)
                        have HHz := Lib.hid ((HHU6a.out.grown hb).grown hg.below)
                        have HLz := Lib.hid ((HLU6a.out.grown hb).grown hg.below)
                        have HB0 := Lib.hid hb0
                        have HZZ := Lib.hid hz
                        clear hb HC HSRCU6a HHU6a HLU6a hz hg hs hb0
                        go_upto_region 61 with (fail)
                        rw [HZZ.out]
                        clear HZZ
                        generalize z1.heap.size = bz at *
                        have l0 := cells_cell (o := 0) HB0.out rfl
                        have l1 := cells_cell (o := 1) HB0.out rfl
                        by_cases hz0 : (wheC x' ((j : Nat) : Int)).2.2 = 0
                        · have w0 : ((wheC x' ((j : Nat) : Int)).2.2 == 0) = true := by simpa using hz0
                          have q := ls_check HLz.out (wheC x' ((j : Nat) : Int)).1.1 (wheC x' ((j : Nat) : Int)).1.2 (wheC x' ((j : Nat) : Int)).2.1
                          rw [R5.out hz0] at q
                          have HC := Lib.hid q
                          clear q hz0
                          go_wp2_with (go_at_call 26; fail)
                          refine HC.out.mono ?_
                          rintro e z3 ⟨rfl, hb⟩
                          have HSRCy := Lib.hid (HSRCz.out.grown hb)
                          have HHy := Lib.hid (HHz.out.grown hb)
                          have HLy := Lib.hid (HLz.out.grown hb)
                          clear hb HC HB0 HSRCz HHz HLz l0 l1
                          go_wp2_with fail
                          go_roundw
                          case rel => exact ⟨j + 1, hjn, by go_num, HSRCy, HHy, HLy⟩
                          case measure => simp [intOf]; omega
                        · have w0 : ((wheC x' ((j : Nat) : Int)).2.2 == 0) = false := by simpa using hz0
                          clear hz0 HB0
                          go_wp2_with fail
                          go_roundw
                          case rel => exact ⟨j + 1, hjn, by go_num, HSRCz, HHz, HLz⟩
                          case measure => simp [intOf]; omega
                      · as_aux_lemma =>
                        have w3 : (why == 3) = false := by simpa using hw3
                        refine wp_region_mix (fun W' => LpS ba j ac.N ac.K wN wK wD true W') 24 [(true, 0), (true, 1), (true, 2), (true, 3), (true, 4), (false, 5), (true, 6), (true, 7), (true, 8), (true, 9), (true, 10), (true, 11), (true, 12), (true, 13), (true, 14), (true, 15), (true, 16), (true, 17), (true, 18), (true, 19), (true, 20), (false, 21), (true, 22), (true, 23)] (by kernel_rfl) (by kernel_rfl) (fun _ _ _ d _ h => by cases d <;> exact h) ?_
                        have hd : Below U4a.heap.size U4a U4a.drew := ((Grn.refl U4a).drew 1).below
                        have HSU6 : Hid (LpS ba j ac.N ac.K wN wK wD true U4a.drew) := Lib.hid (HLPU4a.out.grown hd)
                        have HSRCU6 := Lib.hid (HSRCU4a.out.grown hd)
                        have HHU6 := Lib.hid (HHU4a.out.grown hd)
                        have HLU6 := Lib.hid (HLU4a.out.grown hd)
                        clear hd HLPU4a HSRCU4a HHU4a HLU4a
                        simp only [List.map_cons, List.map_nil, List.getD_cons_zero, List.getD_cons_succ, List.drop_succ_cons, List.drop_zero]
                        generalize U4a.drew = U6 at *
                        refine mix_move (.tmp 19) (.int .i64 why) rfl HSU6.out rfl rfl ?_
                        simp only [Act.put, List.setIfInBounds_toArray, List.set_cons_zero, List.set_cons_succ]
                        refine mix_take (.bool false) HSU6.out rfl (fun W' hS => by go_simp) ?_
                        simp only [Act.put, List.setIfInBounds_toArray, List.set_cons_zero, List.set_cons_succ]
                        refine mix_move (.tmp 260) (.bool false) rfl HSU6.out rfl rfl ?_
                        simp only [Act.put, List.setIfInBounds_toArray, List.set_cons_zero, List.set_cons_succ]
                        refine mix_dropH HSU6.out rfl ?_
                        simp only [Act.put, List.setIfInBounds_toArray, List.set_cons_zero, List.set_cons_succ]
                        refine mix_dropH HSU6.out rfl ?_
                        simp only [Act.put, List.setIfInBounds_toArray, List.set_cons_zero, List.set_cons_succ]
                        refine mix_skip rfl HSU6.out ?_
                        simp only [Act.put, List.setIfInBounds_toArray, List.set_cons_zero, List.set_cons_succ]
                        refine mix_take (.bool false) HSU6.out rfl (fun W' hS => by go_simp) ?_
                        simp only [Act.put, List.setIfInBounds_toArray, List.set_cons_zero, List.set_cons_succ]
                        refine mix_move (.tmp 265) (.bool false) rfl HSU6.out rfl rfl ?_
                        simp only [Act.put, List.setIfInBounds_toArray, List.set_cons_zero, List.set_cons_succ]
                        refine mix_dropH HSU6.out rfl ?_
                        simp only [Act.put, List.setIfInBounds_toArray, List.set_cons_zero, List.set_cons_succ]
                        refine mix_dropH HSU6.out rfl ?_
                        simp only [Act.put, List.setIfInBounds_toArray, List.set_cons_zero, List.set_cons_succ]
                        refine mix_dropH HSU6.out rfl ?_
                        simp only [Act.put, List.setIfInBounds_toArray, List.set_cons_zero, List.set_cons_succ]
                        refine mix_dropH HSU6.out rfl ?_
                        simp only [Act.put, List.setIfInBounds_toArray, List.set_cons_zero, List.set_cons_succ]
                        refine mix_dropH HSU6.out rfl ?_
                        simp only [Act.put, List.setIfInBounds_toArray, List.set_cons_zero, List.set_cons_succ]
                        refine mix_dropH HSU6.out rfl ?_
                        simp only [Act.put, List.setIfInBounds_toArray, List.set_cons_zero, List.set_cons_succ]
                        refine mix_dropH HSU6.out rfl ?_
                        simp only [Act.put, List.setIfInBounds_toArray, List.set_cons_zero, List.set_cons_succ]
                        refine mix_dropH HSU6.out rfl ?_
                        simp only [Act.put, List.setIfInBounds_toArray, List.set_cons_zero, List.set_cons_succ]
                        refine mix_dropH HSU6.out rfl ?_
                        simp only [Act.put, List.setIfInBounds_toArray, List.set_cons_zero, List.set_cons_succ]
                        refine mix_dropH HSU6.out rfl ?_
                        simp only [Act.put, List.setIfInBounds_toArray, List.set_cons_zero, List.set_cons_succ]
                        refine mix_dropH HSU6.out rfl ?_
                        simp only [Act.put, List.setIfInBounds_toArray, List.set_cons_zero, List.set_cons_succ]
                        refine mix_dropH HSU6.out rfl ?_
                        simp only [Act.put, List.setIfInBounds_toArray, List.set_cons_zero, List.set_cons_succ]
                        refine mix_dropH HSU6.out rfl ?_
                        simp only [Act.put, List.setIfInBounds_toArray, List.set_cons_zero, List.set_cons_succ]
                        refine mix_skip rfl HSU6.out ?_
                        simp only [Act.put, List.setIfInBounds_toArray, List.set_cons_zero, List.set_cons_succ]
                        refine mix_dropH HSU6.out rfl ?_
                        simp only [Act.put, List.setIfInBounds_toArray, List.set_cons_zero, List.set_cons_succ]
                        refine mix_dropH HSU6.out rfl ?_
                        simp only [Act.put, List.setIfInBounds_toArray, List.set_cons_zero, List.set_cons_succ]
                        refine mix_nil ?_
                        have HLPU6 := HSU6
                        clear HSU6
                        have HC := Lib.hid (ls_where HLU6.out ((j : Nat) : Int))
                        clear HLPU6
                        go_wp2_with (go_at_call 25; fail)
                        refine HC.out.mono ?_
                        rintro e z1 ⟨rfl, hb⟩
                        obtain ⟨z2, hz, hg, hs, hb0⟩ := alloc1 z1 (.cells #[.int .i64 (wheC x' ((j : Nat) : Int)).1.1, .int .i64 (wheC x' ((j : Nat) : Int)).1.2] 47)
                        have HSRCz := Lib.hid ((HSRCU6.out.grown hb).grown hg.below)
                        have HHz := Lib.hid ((HHU6.out.grown hb).grown hg.below)
                        have HLz := Lib.hid ((HLU6.out.grown hb).grown hg.below)
                        have HB0 := Lib.hid hb0
                        have HZZ := Lib.hid hz
                        clear hb HC HSRCU6 HHU6 HLU6 hz hg hs hb0
                        go_upto_region 61 with (fail)
                        rw [HZZ.out]
                        clear HZZ
                        generalize z1.heap.size = bz at *
                        have l0 := cells_cell (o := 0) HB0.out rfl
                        have l1 := cells_cell (o := 1) HB0.out rfl
                        by_cases hz0 : (wheC x' ((j : Nat) : Int)).2.2 = 0
                        · have w0 : ((wheC x' ((j : Nat) : Int)).2.2 == 0) = true := by simpa using hz0
                          have q := ls_check HLz.out (wheC x' ((j : Nat) : Int)).1.1 (wheC x' ((j : Nat) : Int)).1.2 (wheC x' ((j : Nat) : Int)).2.1
                          rw [R5.out hz0] at q
                          have HC := Lib.hid q
                          clear q hz0
                          go_wp2_with (go_at_call 26; fail)
                          refine HC.out.mono ?_
                          rintro e z3 ⟨rfl, hb⟩
                          have HSRCy := Lib.hid (HSRCz.out.grown hb)
                          have HHy := Lib.hid (HHz.out.grown hb)
                          have HLy := Lib.hid (HLz.out.grown hb)
                          clear hb HC HB0 HSRCz HHz HLz l0 l1
                          go_wp2_with fail
                          go_roundw
                          case rel => exact ⟨j + 1, hjn, by go_num, HSRCy, HHy, HLy⟩
                          case measure => simp [intOf]; omega
                        · have w0 : ((wheC x' ((j : Nat) : Int)).2.2 == 0) = false := by simpa using hz0
                          clear hz0 HB0
                          go_wp2_with fail
                          go_roundw
                          case rel => exact ⟨j + 1, hjn, by go_num, HSRCz, HHz, HLz⟩
                          case measure => simp [intOf]; omega
                · obtain rfl : j = n := by omega
                  have HLW : Hid (LSt w wr (fun _ => False) p x' (65 * (k + 1)) (2 * (k + 1))) := Lib.hid (HL2.out.less (fun _ h => h.elim))
                  have HSL : Hid (x'.z.S.length = j) := Lib.hid (by rw [HSO.out.ln]; exact HS.out)
                  clear HSRC2 HH2 HL2 HS HSO HP HXL
                  go_wp2_with fail
                  go_roundw
                  case rel => exact ⟨k + 1, x', HLT.out, by go_num, HLW, HP', HSL⟩
                  case measure => simp [intOf]; omega
    · obtain rfl : k = N := by omega
      have hB := HL.out.below
      have hkn := Lib.hid (known_yes wr (HM.out.1.below hB HM.out.1.lt) (HM.out.2.below hB HM.out.2.lt))
      have HB := Lib.hid hB
      clear hB
      go_wp2_with (go_at_call 8; fail)
      refine hkn.out.mono ?_
      rintro e z ⟨rfl, hb⟩
      have H2 := Lib.hid (HB.out.trans (hb.mono HB.out.size))
      clear hb hkn
      go_wp2_with fail
      go_ret
      exact ⟨rfl, H2.out⟩
end Go.Proofs.YtcjeckjmoponkaaGreatDoor
