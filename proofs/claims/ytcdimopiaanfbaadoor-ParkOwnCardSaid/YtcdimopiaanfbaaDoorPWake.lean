/- Wake and WakeAll. -/
import Derived.Test.YtcdimopiaanfbaaDoorPLeave
import Derived.LoopTactic
import Derived.Deep.LoopGhost
namespace Go.Proofs.YtcdimopiaanfbaaDoor
open Go.RowKit Go.Sort Go.MapKept
set_option linter.unusedVariables false
set_option linter.unusedSimpArgs false

section
variable {B : Nat} {S : Nat → Prop} {w w' : World} {l : Ll} {P : Ks} {Q : Qu} {g i k : Nat} {f : Sp → Option Qd} {pl : Int → Option Pl} {z : Zt} {G : Nat} {s : Sp} {p : Ck}
set_option maxHeartbeats 800000 in
theorem pkWake_some (h : LAt B S w l P Q g f pl) (hZ : ZOk P Q f pl z.L G) (hg : g ≤ G) (hG : G ≤ 1000000) (h1 : z.S = sts P) (h2 : z.R = vls Q) (hs : SpOk s) {d : Qd} (hd : f s = some d) :
    Calls Tryd.prog 16 #[.pointer (some ⟨l.a, 0, none⟩), .agg #[.int .i64 s.1, .int .i64 s.2]] w fun e w' => e = .returned (.tuple #[.int .i64 (wkC z s).1, .int .i64 (wkC z s).2.1]) ∧ LS B S w' l (wkC z s).2.2 (G + 1) ∧ FrL S w w' := by
  obtain ⟨q1, q2, q3⟩ := hZ.qf s d hd
  cases hdl : d.L with
  | nil => exact absurd hdl q1
  | cons x R =>
    obtain ⟨t, v⟩ := x
    cases hwt : wt s z.L with
    | nil => rw [hwt, hdl] at q2; cases q2
    | cons i ns =>
      rw [hwt, hdl] at q2
      simp only [List.map_cons, cat, List.cons.injEq] at q2
      have hwk : wkC z s = (((i : Nat) : Int), 0, z.leave i) := by unfold wkC; rw [if_pos hs, hwt]
      have hm : (i, s) ∈ z.L := mem_wt.1 (by rw [hwt]; exact List.mem_cons_self)
      obtain ⟨q4, -⟩ := q2
      have hb0 := below_alloc w (.cells #[.int .i64 s.1, .int .i64 s.2] 38)
      have HA0 := Lib.hid (h.grown hb0)
      have hq := Lib.hid (pkQueue_some HA0.out hs hd)
      have HD := Lib.hid hd
      have HDL := Lib.hid hdl
      have hlv : ∀ W, LS B S W l z G → Calls Tryd.prog 18 #[.pointer (some ⟨l.a, 0, none⟩), .int .i64 ((i : Nat) : Int)] W fun e w' => e = .returned (.tuple #[.agg #[.int .i64 s.1, .int .i64 s.2], .int .i64 0]) ∧ LS B S w' l (z.leave i) (G + 1) ∧ FrL S W w' := fun W hW => by
        have := pkLeave_any hW hG ((i : Nat) : Int)
        rw [lvC_in hW.zk hm] at this
        exact this
      have HLV := Lib.hid hlv
      have hLS : ∀ W, LAt B S W l P Q g f pl → LS B S W l z G := fun W hW => ⟨P, Q, g, f, pl, hW, hZ, hg, h1, h2⟩
      have HLS := Lib.hid hLS
      rw [hwk]
      try simp only
      try simp only at q4
      subst q4
      clear h hZ hg h1 h2 hs hd hdl hwt hwk hm q1 hlv hLS hb0 q3
      generalize s.1 = sa at *
      generalize s.2 = sb at *
      go_enter Tryd.func16, Tryd.ntmps16
      go_wp2_with (go_at_call 44; fail)
      refine hq.out.mono ?_
      rintro e w1 ⟨rfl, hg1⟩
      have HA1 := Lib.hid (HA0.out.grown hg1.below)
      have HG1 := Lib.hid (((Grn.refl w).alloc (.cells #[.int .i64 sa, .int .i64 sb] 38)).trans hg1)
      clear hg1 hq HA0
      go_wp2_with (go_at_call 46; fail)
      have hqd := HA1.out.qs _ d HD.out
      rw [HDL.out] at hqd
      refine (fiFront_yes hqd).mono ?_
      rintro e w2 ⟨rfl, hg2⟩
      have HA2 := Lib.hid (HA1.out.grown hg2.below)
      have HG2 := Lib.hid (HG1.out.trans hg2)
      clear hg2 hqd HA1 HG1
      go_wp2_with (go_at_call 18; fail)
      refine (HLV.out w2 (HLS.out w2 HA2.out)).mono ?_
      rintro e w3 ⟨rfl, hL, hF⟩
      have HL := Lib.hid hL
      have HF := Lib.hid ((FrL.of_below S HG2.out.below).trans hF)
      clear hL hF HA2 HG2
      go_wp2_with fail
      go_ret2
      exact ⟨rfl, HL.out, HF.out⟩
theorem pkWake_none (h : LAt B S w l P Q g f pl) (hs : SpOk s) (hd : f s = none) :
    Calls Tryd.prog 16 #[.pointer (some ⟨l.a, 0, none⟩), .agg #[.int .i64 s.1, .int .i64 s.2]] w fun e w' => e = .returned (.tuple #[.int .i64 0, .int .i64 9]) ∧ Grn w w' := by
  have hq := Lib.hid (pkQueue_none (h.grown (below_alloc w (.cells #[.int .i64 s.1, .int .i64 s.2] 38))) hs hd)
  clear h hs hd
  generalize s.1 = sa at *
  generalize s.2 = sb at *
  go_enter Tryd.func16, Tryd.ntmps16
  go_wp2_with (go_at_call 44; refine hq.out.mono ?_; rintro e w1 ⟨rfl, hg1⟩)
  go_ret2
  exact ⟨rfl, ((Grn.refl w).alloc _).trans hg1⟩
theorem pkWake_bad (h : LAt B S w l P Q g f pl) (hs : ¬ SpOk s) :
    Calls Tryd.prog 16 #[.pointer (some ⟨l.a, 0, none⟩), .agg #[.int .i64 s.1, .int .i64 s.2]] w fun e w' => e = .returned (.tuple #[.int .i64 0, .int .i64 2]) ∧ Grn w w' := by
  have hq := Lib.hid (pkQueue_bad (h.grown (below_alloc w (.cells #[.int .i64 s.1, .int .i64 s.2] 38))) hs)
  clear h hs
  generalize s.1 = sa at *
  generalize s.2 = sb at *
  go_enter Tryd.func16, Tryd.ntmps16
  go_wp2_with (go_at_call 44; refine hq.out.mono ?_; rintro e w1 ⟨rfl, hg1⟩)
  go_ret2
  exact ⟨rfl, ((Grn.refl w).alloc _).trans hg1⟩
theorem pkWake_any (h : LS B S w l z G) (hG : G ≤ 1000000) (s : Sp) : Calls Tryd.prog 16 #[.pointer (some ⟨l.a, 0, none⟩), .agg #[.int .i64 s.1, .int .i64 s.2]] w fun e w' => e = .returned (.tuple #[.int .i64 (wkC z s).1, .int .i64 (wkC z s).2.1]) ∧ LS B S w' l (wkC z s).2.2 (G + 1) ∧ FrL S w w' := by
  have HH := Lib.hid h
  obtain ⟨P, Q, g, f, pl, hA, hZ, hg, h1, h2⟩ := h
  by_cases hs : SpOk s
  · cases hf : f s with
    | some d => exact pkWake_some hA hZ hg hG h1 h2 hs hf
    | none =>
      have : wkC z s = (0, 9, z) := by unfold wkC; rw [if_pos hs, hZ.q0 s hf]
      rw [this]
      refine (pkWake_none hA hs hf).mono ?_
      rintro e w' ⟨rfl, hgr⟩
      exact ⟨rfl, (HH.out.grown hgr.below).mono (by omega), FrL.of_below S hgr.below⟩
  · have : wkC z s = (0, 2, z) := by unfold wkC; rw [if_neg hs]
    rw [this]
    refine (pkWake_bad hA hs).mono ?_
    rintro e w' ⟨rfl, hgr⟩
    exact ⟨rfl, (HH.out.grown hgr.below).mono (by omega), FrL.of_below S hgr.below⟩

/-- Who is woken. -/
def wns (z : Zt) (s : Sp) : List Nat := if SpOk s then wt s z.L else []
theorem waC_eq (z : Zt) (s : Sp) : waC z s = (cat (wns z s), if SpOk s then 0 else 2) := by
  unfold waC wns
  by_cases hs : SpOk s
  · rw [if_pos hs, if_pos hs, if_pos hs]
  · rw [if_neg hs, if_neg hs, if_neg hs]; rfl
theorem wkaC_eq (z : Zt) (s : Sp) : wkaC z s = (cat (wns z s), (if SpOk s then 0 else 2), z.leaves (wns z s)) := by
  unfold wkaC wns
  by_cases hs : SpOk s
  · rw [if_pos hs, if_pos hs, if_pos hs]
  · rw [if_neg hs, if_neg hs, if_neg hs]; rfl
theorem wns_in {z : Zt} (hz : ZK z) {s : Sp} {j : Nat} (hj : j < (wns z s).length) : ((wns z s)[j], s) ∈ (z.leaves ((wns z s).take j)).L := by
  rw [leaves_L]
  have hm := List.getElem_mem hj
  have hn : (wns z s).Nodup := by unfold wns; split; exact wt_nodup hz.nd; exact List.nodup_nil
  refine ⟨?_, fun h => ?_⟩
  · unfold wns at hm ⊢
    split at hm
    · rename_i hs
      simp only [if_pos hs]
      exact mem_wt.1 hm
    · cases hm
  · obtain ⟨k, hk, e⟩ := List.getElem_of_mem h
    simp only [List.getElem_take] at e
    rw [List.length_take] at hk
    have := (List.getElem_inj (h₀ := by omega) (h₁ := hj) hn).1 e
    omega
theorem wns_len {z : Zt} (hz : ZK z) (s : Sp) : (wns z s).length ≤ 64 := by
  unfold wns
  split
  · exact Nat.le_trans (wt_len _ _) hz.l
  · simp

set_option maxRecDepth 100000 in
set_option maxHeartbeats 3200000 in
theorem pkWakeAll_any (h : LS B S w l z G) (hG : G ≤ 900000) (s : Sp) : Calls Tryd.prog 17 #[.pointer (some ⟨l.a, 0, none⟩), .agg #[.int .i64 s.1, .int .i64 s.2]] w fun e w' => ∃ v, e = .returned (.tuple #[v, .int .i64 (wkaC z s).2.1]) ∧ Row TI w' w.heap.size v (wkaC z s).1 ∧ LS B S w' l (wkaC z s).2.2 (G + 64) ∧ FrL S w w' := by
  have hb0 := below_alloc w (.cells #[.int .i64 s.1, .int .i64 s.2] 38)
  have HL0 := Lib.hid (h.grown hb0)
  have hwa := Lib.hid (pkWaiting_any HL0.out (by omega) s)
  have HF0 := Lib.hid (FrL.of_below S hb0)
  have HN64 := Lib.hid (wns_len h.zk s)
  have HIN : Hid (∀ j (hj : j < (wns z s).length), ((wns z s)[j], s) ∈ (z.leaves ((wns z s).take j)).L) := Lib.hid (fun j hj => wns_in h.zk hj)
  rw [waC_eq] at hwa
  rw [wkaC_eq]
  simp only at hwa ⊢
  generalize (if SpOk s then (0 : Int) else 2) = c at *
  obtain ⟨ns, hns⟩ : ∃ ns, ns = wns z s := ⟨_, rfl⟩
  rw [← hns] at hwa HN64 HIN ⊢
  obtain ⟨N, hN⟩ : ∃ N, N = ns.length := ⟨_, rfl⟩
  have HN := Lib.hid hN
  have HG := Lib.hid hG
  clear h hb0 hns hN hG
  go_enter Tryd.func17, Tryd.ntmps17
  go_wp2_with (go_at_call 14; fail)
  refine hwa.out.mono ?_
  rintro e w1 ⟨v, rfl, hr, hb1⟩
  have HR1 := Lib.hid hr
  have HL1 := Lib.hid (HL0.out.grown hb1)
  have HF1 := Lib.hid (HF0.out.trans (FrL.of_below S hb1))
  obtain ⟨va, vc, rfl, hv1, hv2⟩ := hr.form
  have hcl : (cat ns).length = N := by rw [HN.out]; simp [cat]
  rw [hcl] at hv1 HR1 ⊢
  have HCL := Lib.hid hcl
  have hNI : ((N : Nat) : Int) ≤ 64 := by have := HN64.out; have := HN.out; omega
  have HSZ : Hid (w.heap.size ≤ w1.heap.size) := Lib.hid HF1.out.size
  clear hr hb1 HL0 HF0 hwa hcl
  go_wp2_with fail
  go_loopw [18] (fun i wr => ∃ k : Nat, k ≤ N ∧ i = .int .i64 ((k : Nat) : Int) ∧ Hid (LS B S wr l (z.leaves (ns.take k)) (G + k)) ∧ Hid (Row TI wr w.heap.size (.slice va N vc) (cat ns)) ∧ Hid (FrL S w wr)) (fun i _ => N - (intOf i).toNat)
  case atStart => exact ⟨0, Nat.zero_le _, rfl, HL1, Lib.hid (HR1.out.lower (by simp)), HF1⟩
  case round =>
    obtain ⟨k, hk, rfl, HL, HR, HF⟩ := hrel
    by_cases hlt : k < N
    · have hkn : k < ns.length := by rw [← HN.out]; exact hlt
      have hkc : k < (cat ns).length := by rw [HCL.out]; exact hlt
      obtain ⟨a, o1, c1, e1, _, _, l1, k1⟩ := Src.int (HR.out.src TI_ok) hkc
      simp only [Value.slice.injEq] at e1
      obtain ⟨rfl, -, rfl⟩ := e1
      have q3 : (k : Int) < (N : Int) := by omega
      have hck : (cat ns)[k] = ((ns[k] : Nat) : Int) := by simp [cat]
      rw [hck] at k1
      have hin := HIN.out k hkn
      have hlv : Hid _ := Lib.hid (pkLeave_any HL.out (by have := HG.out; omega) ((ns[k] : Nat) : Int))
      rw [lvC_in HL.out.zk hin] at hlv
      have hnx : (z.leaves (ns.take k)).leave ns[k] = z.leaves (ns.take (k + 1)) := by
        rw [List.take_succ_eq_append_getElem hkn, leaves_append]; rfl
      rw [hnx] at hlv
      generalize ns[k] = x at *
      clear HIN hin hnx hck hkc hkn
      go_wp2_with (go_at_call 18; fail)
      refine hlv.out.mono ?_
      rintro e w2 ⟨rfl, hL, hF⟩
      have HL2 := Lib.hid hL
      have HR2 := Lib.hid (hF.row HR.out (by decide) (by decide))
      have HF2 := Lib.hid (HF.out.trans hF)
      clear hL hF HL HR HF hlv
      go_wp2_with fail
      go_roundw
      case rel => exact ⟨k + 1, by omega, by go_num, HL2, HR2, HF2⟩
      case measure => simp [intOf]; omega
    · obtain rfl : k = N := by omega
      have hL := HL.out
      rw [List.take_of_length_le (by rw [← HN.out]; exact Nat.le_refl _)] at hL
      have HL2 := Lib.hid hL
      clear hL HL HIN
      go_wp2_with fail
      go_ret2
      exact ⟨_, rfl, HR.out, HL2.out.mono (by omega), HF.out⟩
end
end Go.Proofs.YtcdimopiaanfbaaDoor
