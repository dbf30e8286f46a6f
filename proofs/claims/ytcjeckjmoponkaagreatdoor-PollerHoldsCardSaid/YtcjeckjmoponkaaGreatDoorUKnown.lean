/- The law's helpers; the examples of the chapter. -/
import Derived.Test.YtcjeckjmoponkaaGreatDoorULs
namespace Go.Proofs.YtcjeckjmoponkaaGreatDoor
open Go.RowKit Go.Sort
set_option linter.unusedVariables false
set_option linter.unusedSimpArgs false
theorem eql_fd_same (w : World) (n g : Int) : (binOp .eql 47 (.agg #[.int .i64 n, .int .i64 g]) (.agg #[.int .i64 n, .int .i64 g])).run Tryz.prog w = .ok (.bool true) w := by
  have h1 : Tryz.prog.underlying 47 = some _ := Tryz.underlying47
  simp [go_sem, h1]
set_option maxRecDepth 100000 in
set_option maxHeartbeats 1600000 in
theorem fd_any (w : World) (n g : Int) : Calls Tryz.prog 14 #[.int .i64 n, .int .i64 g] w fun e w' => e = .returned (.agg #[.int .i64 n, .int .i64 g]) ∧ Below w.heap.size w w' := by
  obtain ⟨W, hW, hg, hs, hb⟩ := alloc1 w (.cells #[.int .i64 0, .int .i64 0] 47)
  have HG := Lib.hid hg
  have HW := Lib.hid hW
  have HB := Lib.hid hb
  clear hg hs hb hW
  go_enter Tryz.func14, Tryz.ntmps14
  go_upto_region 1 with (fail)
  rw [HW.out]
  generalize hb : w.heap.size = b at *
  have Hb := Lib.hid hb
  clear hb
  obtain ⟨b0, b1⟩ := two HB.out
  have z0 := cells_free HB.out 0
  have z1 := cells_free HB.out 1
  have bl := lt_of_block HB.out
  obtain ⟨p0, p1⟩ := two (set_two (A' := .int .i64 n) (B' := .int .i64 g) HB.out)
  go_wp2_with fail
  refine bodyPost_ret (v := .agg #[.int .i64 n, .int .i64 g]) (by simp [results, Tryz.results14, go_sem, p0, p1]) rfl ⟨rfl, ?_⟩
  have hl : w.heap.size ≤ b := by rw [Hb.out]; exact Nat.le_refl _
  exact ((HG.out.set _ _ hl).set _ _ hl).below
section
variable {w0 w w' : World} {Bs : Nat → Prop} {p : Nat} {x x' : Px} {G P G' P' : Nat}
set_option maxRecDepth 100000 in
set_option maxHeartbeats 1600000 in
theorem opens_yes (h : LSt w0 w Bs p x G P) {y N K : Int} (ho : opnC x y = ((N, K), 0, x')) : Calls Tryz.prog 17 #[.pointer (some ⟨p, 0, none⟩), .int .i64 y, .agg #[.int .i64 N, .int .i64 K]] w fun e w' => e = .returned (.bool true) ∧ LPost w0 w Bs p x' G P w' := by
  obtain ⟨W, hW, hg, hs, hb⟩ := alloc1 w (.cells #[.int .i64 N, .int .i64 K] 47)
  have HL : Hid (LSt w0 W (fun k => Bs k ∨ k = w.heap.size) p x G P) := Lib.hid (h.more hg.below (fun k hk => hk.elim .inl (fun e => .inr (by omega))))
  have HO := Lib.hid (ls_open HL.out y)
  rw [ho] at HO
  simp only at HO
  have H0 := Lib.hid h
  have HG := Lib.hid hg.below
  have HW := Lib.hid hW
  have HB := Lib.hid hb
  clear h hg hs hb hW ho
  go_enter Tryz.func17, Tryz.ntmps17
  go_upto_region 1 with (fail)
  rw [HW.out]
  obtain ⟨b, hb⟩ : ∃ b, b = w.heap.size := ⟨_, rfl⟩
  rw [← hb]
  rw [← hb] at HB
  have Hb := Lib.hid hb
  clear hb HW
  go_wp2_with (go_at_call 13; fail)
  refine HO.out.mono ?_
  rintro e w1 ⟨rfl, hp⟩
  obtain ⟨W2, hW2, hg2, _, hb2⟩ := alloc1 w1 (.cells #[.int .i64 N, .int .i64 K] 47)
  have HBF := Lib.hid (grn_at hg2 ((hp.keep b (.inr Hb.out)).trans HB.out))
  have HB2 := Lib.hid hb2
  have HW2 := Lib.hid hW2
  have HR : Hid (LPost w0 w Bs p x' G P W2) := Lib.hid ⟨(hp.st.grown hg2.below).less (fun k hk => .inl hk), fun k hk => ((hg2.below.block k (hp.st.lt k (.inl hk)).2).trans (hp.keep k (.inl hk))).trans (HG.out.block k (H0.out.lt k hk).2), Nat.le_trans HG.out.size (Nat.le_trans hp.size hg2.below.size)⟩
  clear hp hW2 hg2 hb2
  go_upto_region 2 with (fail)
  rw [HW2.out]
  obtain ⟨f0, f1⟩ := two HBF.out
  obtain ⟨c0, c1⟩ := two HB2.out
  have he := eql_fd_same W2 N K
  generalize w1.heap.size = b2 at *
  go_wp2_with fail
  go_ret
  exact ⟨rfl, HR.out⟩
set_option maxRecDepth 100000 in
set_option maxHeartbeats 1600000 in
theorem woke_yes {v u : Value} {X : List Int} (h1 : Src TI w v X) (h2 : Src TI w u X) (hl : X.length ≤ 1000000) : Calls Tryz.prog 16 #[v, .int .i64 0, u] w fun e w' => e = .returned (.bool true) ∧ Below w.heap.size w w' := by
  have HS := Lib.hid (same_yes h1 h2 hl)
  clear h1 h2
  go_enter Tryz.func16, Tryz.ntmps16
  go_wp2_with (go_at_call 36; fail)
  refine HS.out.mono ?_
  rintro e w1 ⟨rfl, hg⟩
  have HG := Lib.hid hg.below
  clear hg
  go_wp2_with fail
  go_ret
  exact ⟨rfl, HG.out⟩
set_option maxRecDepth 100000 in
set_option maxHeartbeats 1600000 in
theorem reason_yes (h : LSt w0 w Bs p x G P) {i y : Int} (hr : rsnC x i = (y, 0)) : Calls Tryz.prog 35 #[.pointer (some ⟨p, 0, none⟩), .int .i64 i, .int .i64 y] w fun e w' => e = .returned (.bool true) ∧ Below w.heap.size w w' := by
  have HS := Lib.hid (ls_reason h i)
  rw [hr] at HS
  simp only at HS
  clear h hr
  go_enter Tryz.func35, Tryz.ntmps35
  go_wp2_with (go_at_call 23; fail)
  refine HS.out.mono ?_
  rintro e w1 ⟨rfl, hg⟩
  have HG := Lib.hid hg
  clear hg
  go_wp2_with fail
  go_ret
  exact ⟨rfl, HG.out⟩
end
def kx1 : Px := (opnC (X0 3 10) 7).2.2
def kx2 : Px := (staC kx1 0).2
theorem kd2 : (staC kx1 0).2 = kx2 := by delta kx2; rfl
def kx3 : Px := (staC kx2 1).2
theorem kd3 : (staC kx2 1).2 = kx3 := by delta kx3; rfl
def kx4 : Px := (staC kx3 2).2
theorem kd4 : (staC kx3 2).2 = kx4 := by delta kx4; rfl
def kx5 : Px := (waiC kx4 0 0 0 0).2
theorem kd5 : (waiC kx4 0 0 0 0).2 = kx5 := by delta kx5; rfl
def kx6 : Px := (waiC kx5 1 0 0 1).2
theorem kd6 : (waiC kx5 1 0 0 1).2 = kx6 := by delta kx6; rfl
def kx7 : Px := (waiC kx6 2 0 0 0).2
theorem kd7 : (waiC kx6 2 0 0 0).2 = kx7 := by delta kx7; rfl
def kx8 : Px := (dlnC kx7 0 0 0 15).2.2
theorem kd8 : (dlnC kx7 0 0 0 15).2.2 = kx8 := by delta kx8; rfl
def kx9 : Px := ((kx8.at' 14).wakes []).2
theorem kd9 : ((kx8.at' 14).wakes []).2 = kx9 := by delta kx9; rfl
def kx10 : Px := (sigC kx9 0 0 0).2.2
theorem kd10 : (sigC kx9 0 0 0).2.2 = kx10 := by delta kx10; rfl
def kx11 : Px := ((kx10.at' 15).wakes [(15, 0)]).2
theorem kd11 : ((kx10.at' 15).wakes [(15, 0)]).2 = kx11 := by delta kx11; rfl
def kx12 : Px := (cloC kx11 0 0).2.2
theorem kd12 : (cloC kx11 0 0).2.2 = kx12 := by delta kx12; rfl
def kx13 : Px := (opnC kx12 8).2.2
theorem kf1 : opnC (X0 3 10) 7 = ((0, 0), 0, kx1) := by kernel_rfl
theorem kf2 : (staC kx1 0).1 = 0 := by kernel_rfl
theorem kf3 : (staC kx2 1).1 = 0 := by kernel_rfl
theorem kf4 : (staC kx3 2).1 = 0 := by kernel_rfl
theorem kf5 : (waiC kx4 0 0 0 0).1 = 0 := by kernel_rfl
theorem kf6 : (waiC kx5 1 0 0 1).1 = 0 := by kernel_rfl
theorem kf7 : (waiC kx6 2 0 0 0).1 = 0 := by kernel_rfl
theorem kf8 : (dlnC kx7 0 0 0 15).1 = [] := by kernel_rfl
theorem kf8b : (dlnC kx7 0 0 0 15).2.1 = 0 := by kernel_rfl
theorem kf9 : ((kx8.at' 14).wakes []).1 = [] := by kernel_rfl
theorem kf10 : (sigC kx9 0 0 0).1 = 0 := by kernel_rfl
theorem kf10b : (sigC kx9 0 0 0).2.1 = 0 := by kernel_rfl
theorem kf11 : rsnC kx10 0 = (1, 0) := by kernel_rfl
theorem kf12 : ((kx10.at' 15).wakes [(15, 0)]).1 = [2] := by kernel_rfl
theorem kf13 : rsnC kx11 2 = (2, 0) := by kernel_rfl
theorem kf14 : chkC kx11 0 0 0 = 12 := by kernel_rfl
theorem kf15 : (cloC kx11 0 0).1 = [1] := by kernel_rfl
theorem kf15b : (cloC kx11 0 0).2.1 = 0 := by kernel_rfl
theorem kf16 : rsnC kx12 1 = (3, 0) := by kernel_rfl
theorem kf17 : chkC kx12 0 0 0 = 9 := by kernel_rfl
theorem kf18 : opnC kx12 8 = ((0, 1), 0, kx13) := by kernel_rfl
theorem kf19 : chkC kx13 0 1 0 = 0 := by kernel_rfl
theorem kf20 : (whC kx13.z 1).2 = 8 := by kernel_rfl
theorem kn8 : kx8.now = 10 := by kernel_rfl
theorem kn10 : kx10.now = 14 := by kernel_rfl
theorem kff8 : kx8.f = Dl.upd (fun _ => Dl.never) 0 15 := by kernel_rfl
theorem kff10 : kx10.f = Dl.upd (fun _ => Dl.never) 0 15 := by kernel_rfl
theorem klap1 : Dl.IsLap 10 14 kx8.f [] := by
  rw [kff8]
  refine ⟨List.Pairwise.nil, fun x => ⟨fun h => by simp at h, fun ⟨_, _, h3, h4⟩ => ?_⟩⟩
  unfold Dl.upd Dl.never at h3 h4
  split at h3 <;> simp_all
theorem klap2 : Dl.IsLap 14 15 kx10.f [(15, 0)] := by
  rw [kff10]
  refine ⟨by simp, fun x => ⟨fun h => ?_, fun ⟨h1, h2, h3, h4⟩ => ?_⟩⟩
  · simp only [List.mem_cons, List.not_mem_nil, or_false] at h
    subst h
    simp [Dl.upd]
  · obtain ⟨a, b⟩ := x
    simp only at h1 h2 h3 h4
    by_cases hb : b = 0
    · subst hb
      simp [Dl.upd] at h2
      simp [h2]
    · simp [Dl.upd, hb, Dl.never] at h4
theorem khH : ∀ (n : Nat) (q : Sl.Pl), kx11.T[n]? = some q → q.g ≤ 1000000 := by
  have e : kx11.T = (List.replicate 128 ⟨false, 0, 0⟩).set 0 ⟨true, 0, 7⟩ := by kernel_rfl
  intro n q hq
  rw [e] at hq
  have hm := List.mem_of_getElem? hq
  rcases List.mem_or_eq_of_mem_set hm with h | h
  · rw [(List.mem_replicate.1 h).2]; decide
  · rw [h]; decide
set_option maxRecDepth 100000 in
set_option maxHeartbeats 1600000 in
theorem known_yes (w : World) (hmv : MvAt w) (hT : Dl.Tab w) : Calls Tryz.prog 8 #[] w fun e w' => e = .returned (.bool true) ∧ Below w.heap.size w w' := by
  have HT := Lib.hid hT
  have HN := Lib.hid (ls_new (w0 := w) (Bs := fun _ => False) (Below.refl _ w) hmv hmv.lt (fun k hk => hk.elim) 3 (by omega) (by omega) (nw := 10) (by unfold Dl.never; omega))
  clear hmv hT
  go_enter Tryz.func8, Tryz.ntmps8
  go_wp2_with (go_at_call 9; fail)
  refine HN.out.mono ?_
  rintro e w1 ⟨p, rfl, hl, hb⟩
  have HL1 := Lib.hid hl
  clear hl hb
  have HF := Lib.hid (fd_any w1 0 0)
  go_wp2_with (go_at_call 14; fail)
  refine HF.out.mono ?_
  rintro e w2 ⟨rfl, hb⟩
  obtain ⟨W, hW, hg, hs, hbx⟩ := alloc1 w2 (.cells #[.int .i64 0, .int .i64 0] 47)
  have HL : Hid (LSt w W (fun k => k = w2.heap.size) p (X0 3 10) 0 0) := Lib.hid ((HL1.out.grown hb).more hg.below (fun k hk => .inr (by omega)))
  have HX := Lib.hid hbx
  have HW := Lib.hid hW
  clear hb hW hg hs hbx HL1 HF HN
  go_upto_region 3 with (fail)
  rw [HW.out]
  generalize w2.heap.size = b at *
  clear HW
  obtain ⟨f0, f1⟩ := two HX.out
  have HC := Lib.hid (opens_yes HL.out kf1)
  go_wp2_with (go_at_call 17; fail)
  refine HC.out.mono ?_
  rintro e u1 ⟨rfl, hp⟩
  have HL2 := Lib.hid hp.st
  have HX2 := Lib.hid ((hp.keep _ (rfl)).trans HX.out)
  clear hp
  clear HC f0 f1 HL HX
  have HL := HL2
  have HX := HX2
  clear HL2 HX2
  obtain ⟨f0, f1⟩ := two HX.out
  have q := ls_start HL.out (by omega) 0
  rw [kf2, kd2] at q
  have HC := Lib.hid q
  clear q
  go_wp2_with (go_at_call 28; fail)
  refine HC.out.mono ?_
  rintro e u2 ⟨rfl, hp⟩
  have HL2 : Hid (LSt _ _ _ p kx2 _ _) := Lib.hid hp.st
  have HX2 := Lib.hid ((hp.keep _ (rfl)).trans HX.out)
  clear hp
  clear HC f0 f1 HL HX
  have HL := HL2
  have HX := HX2
  clear HL2 HX2
  obtain ⟨f0, f1⟩ := two HX.out
  have q := ls_start HL.out (by omega) 1
  rw [kf3, kd3] at q
  have HC := Lib.hid q
  clear q
  go_wp2_with (go_at_call 28; fail)
  refine HC.out.mono ?_
  rintro e u3 ⟨rfl, hp⟩
  have HL2 : Hid (LSt _ _ _ p kx3 _ _) := Lib.hid hp.st
  have HX2 := Lib.hid ((hp.keep _ (rfl)).trans HX.out)
  clear hp
  clear HC f0 f1 HL HX
  have HL := HL2
  have HX := HX2
  clear HL2 HX2
  obtain ⟨f0, f1⟩ := two HX.out
  have q := ls_start HL.out (by omega) 2
  rw [kf4, kd4] at q
  have HC := Lib.hid q
  clear q
  go_wp2_with (go_at_call 28; fail)
  refine HC.out.mono ?_
  rintro e u4 ⟨rfl, hp⟩
  have HL2 : Hid (LSt _ _ _ p kx4 _ _) := Lib.hid hp.st
  have HX2 := Lib.hid ((hp.keep _ (rfl)).trans HX.out)
  clear hp
  clear HC f0 f1 HL HX
  have HL := HL2
  have HX := HX2
  clear HL2 HX2
  obtain ⟨f0, f1⟩ := two HX.out
  have q := ls_wait HL.out (by omega) 0 0 0 0
  rw [kf5, kd5] at q
  have HC := Lib.hid q
  clear q
  go_wp2_with (go_at_call 27; fail)
  refine HC.out.mono ?_
  rintro e u5 ⟨rfl, hp⟩
  have HL2 : Hid (LSt _ _ _ p kx5 _ _) := Lib.hid hp.st
  have HX2 := Lib.hid ((hp.keep _ (rfl)).trans HX.out)
  clear hp
  clear HC f0 f1 HL HX
  have HL := HL2
  have HX := HX2
  clear HL2 HX2
  obtain ⟨f0, f1⟩ := two HX.out
  have q := ls_wait HL.out (by omega) 1 0 0 1
  rw [kf6, kd6] at q
  have HC := Lib.hid q
  clear q
  go_wp2_with (go_at_call 27; fail)
  refine HC.out.mono ?_
  rintro e u6 ⟨rfl, hp⟩
  have HL2 : Hid (LSt _ _ _ p kx6 _ _) := Lib.hid hp.st
  have HX2 := Lib.hid ((hp.keep _ (rfl)).trans HX.out)
  clear hp
  clear HC f0 f1 HL HX
  have HL := HL2
  have HX := HX2
  clear HL2 HX2
  obtain ⟨f0, f1⟩ := two HX.out
  have q := ls_wait HL.out (by omega) 2 0 0 0
  rw [kf7, kd7] at q
  have HC := Lib.hid q
  clear q
  go_wp2_with (go_at_call 27; fail)
  refine HC.out.mono ?_
  rintro e u7 ⟨rfl, hp⟩
  have HL2 : Hid (LSt _ _ _ p kx7 _ _) := Lib.hid hp.st
  have HX2 := Lib.hid ((hp.keep _ (rfl)).trans HX.out)
  clear hp
  clear HC f0 f1 HL HX
  have HL := HL2
  have HX := HX2
  clear HL2 HX2
  obtain ⟨f0, f1⟩ := two HX.out
  have q := ls_deadline HL.out (by omega) HT.out (by omega) 0 0 0 (tt := 15) (by unfold Dl.never; omega)
  rw [kf8b] at q
  have HC := Lib.hid q
  clear q
  go_wp2_with (go_at_call 19; fail)
  refine HC.out.mono ?_
  rintro e u8 ⟨vHRa, rfl, hp⟩
  have hst := hp.st
  rw [kd8] at hst
  have HL2 := Lib.hid hst
  have HX2 := Lib.hid ((hp.keep _ (rfl)).trans HX.out)
  have HRa := Lib.hid hp.row
  clear hp hst HC f0 f1 HL HX
  have HL := HL2
  have HX := HX2
  clear HL2 HX2
  rw [kf8] at HRa
  have HL2 := Lib.hid (HL.out.mono (G' := 40) (P' := 40) (by simp [kf8]) (by omega))
  clear HL
  have HL := HL2
  clear HL2
  obtain ⟨f0, f1⟩ := two HX.out
  have q := ls_adv_ok HL.out (by omega) (by omega) (tt := 14) (by unfold Dl.never; omega) (by rw [kn8]; omega)
  have HC := Lib.hid q
  clear q
  go_wp2_with (go_at_call 22; fail)
  refine HC.out.mono ?_
  rintro e u9 ⟨L, vHRb, rfl, hla, hp⟩
  rw [kn8] at hla
  obtain rfl := hla.unique klap1
  clear hla
  have hst := hp.st
  rw [kd9] at hst
  have HL2 := Lib.hid hst
  have HX2 := Lib.hid ((hp.keep _ ((.inl rfl))).trans HX.out)
  have HRa2 := Lib.hid (row_same HRa.out (fun g hg => hp.keep g ((.inr hg))))
  have HRb := Lib.hid hp.row
  clear hp hst HC f0 f1 HL HX HRa
  have HL := HL2
  have HX := HX2
  clear HL2 HX2
  have HRa := HRa2
  clear HRa2
  rw [kf9] at HRb
  have HL2 := Lib.hid (HL.out.mono (G' := 80) (P' := 80) (by simp [kf9]) (by omega))
  clear HL
  have HL := HL2
  clear HL2
  obtain ⟨f0, f1⟩ := two HX.out
  have q := ls_signal HL.out (by omega) 0 0 0
  rw [kf10, kf10b, kd10] at q
  have HC := Lib.hid q
  clear q
  go_wp2_with (go_at_call 20; fail)
  refine HC.out.mono ?_
  rintro e u10 ⟨rfl, hp⟩
  have HL2 : Hid (LSt _ _ _ p kx10 _ _) := Lib.hid hp.st
  have HX2 := Lib.hid ((hp.keep _ ((.inl (.inl rfl)))).trans HX.out)
  have HRa2 := Lib.hid (row_same HRa.out (fun g hg => hp.keep g ((.inl (.inr hg)))))
  have HRb2 := Lib.hid (row_same HRb.out (fun g hg => hp.keep g ((.inr hg))))
  clear hp
  clear HC f0 f1 HL HX HRa HRb
  have HL := HL2
  have HX := HX2
  clear HL2 HX2
  have HRa := HRa2
  clear HRa2
  have HRb := HRb2
  clear HRb2
  obtain ⟨f0, f1⟩ := two HX.out
  have HC := Lib.hid (woke_yes (HRa.out.src TI_ok) (.inl ⟨rfl, rfl⟩) (by simp))
  go_wp2_with (go_at_call 16; fail)
  refine HC.out.mono ?_
  rintro e u11 ⟨rfl, hb⟩
  have HL2 := Lib.hid (HL.out.grown hb)
  have HX2 := Lib.hid ((hb.block _ (lt_of_block HX.out)).trans HX.out)
  have HRa2 := Lib.hid (HRa.out.below hb)
  have HRb2 := Lib.hid (HRb.out.below hb)
  clear hb
  clear HC f0 f1 HL HX HRa HRb
  have HL := HL2
  have HX := HX2
  clear HL2 HX2
  have HRa := HRa2
  clear HRa2
  have HRb := HRb2
  clear HRb2
  obtain ⟨f0, f1⟩ := two HX.out
  have HC := Lib.hid (woke_yes (HRb.out.src TI_ok) (.inl ⟨rfl, rfl⟩) (by simp))
  go_wp2_with (go_at_call 16; fail)
  refine HC.out.mono ?_
  rintro e u12 ⟨rfl, hb⟩
  have HL2 := Lib.hid (HL.out.grown hb)
  have HX2 := Lib.hid ((hb.block _ (lt_of_block HX.out)).trans HX.out)
  have HRa2 := Lib.hid (HRa.out.below hb)
  have HRb2 := Lib.hid (HRb.out.below hb)
  clear hb
  clear HC f0 f1 HL HX HRa HRb
  have HL := HL2
  have HX := HX2
  clear HL2 HX2
  have HRa := HRa2
  clear HRa2
  have HRb := HRb2
  clear HRb2
  obtain ⟨f0, f1⟩ := two HX.out
  have HC := Lib.hid (reason_yes HL.out kf11)
  go_wp2_with (go_at_call 35; fail)
  refine HC.out.mono ?_
  rintro e u13 ⟨rfl, hb⟩
  have HL2 := Lib.hid (HL.out.grown hb)
  have HX2 := Lib.hid ((hb.block _ (lt_of_block HX.out)).trans HX.out)
  have HRa2 := Lib.hid (HRa.out.below hb)
  have HRb2 := Lib.hid (HRb.out.below hb)
  clear hb
  clear HC f0 f1 HL HX HRa HRb
  have HL := HL2
  have HX := HX2
  clear HL2 HX2
  have HRa := HRa2
  clear HRa2
  have HRb := HRb2
  clear HRb2
  obtain ⟨f0, f1⟩ := two HX.out
  have q := ls_adv_ok HL.out (by omega) (by omega) (tt := 15) (by unfold Dl.never; omega) (by rw [kn10]; omega)
  have HC := Lib.hid q
  clear q
  go_wp2_with (go_at_call 22; fail)
  refine HC.out.mono ?_
  rintro e u14 ⟨L, vHRc, rfl, hla, hp⟩
  rw [kn10] at hla
  obtain rfl := hla.unique klap2
  clear hla
  have hst := hp.st
  rw [kd11] at hst
  have HL2 := Lib.hid hst
  have HX2 := Lib.hid ((hp.keep _ ((.inl (.inl rfl)))).trans HX.out)
  have HRa2 := Lib.hid (row_same HRa.out (fun g hg => hp.keep g ((.inl (.inr hg)))))
  have HRb2 := Lib.hid (row_same HRb.out (fun g hg => hp.keep g ((.inr hg))))
  have HRc := Lib.hid hp.row
  clear hp hst HC f0 f1 HL HX HRa HRb
  have HL := HL2
  have HX := HX2
  clear HL2 HX2
  have HRa := HRa2
  clear HRa2
  have HRb := HRb2
  clear HRb2
  rw [kf12] at HRc
  have HL2 := Lib.hid (HL.out.mono (G' := 120) (P' := 120) (by simp [kf12]) (by omega))
  clear HL
  have HL := HL2
  clear HL2
  obtain ⟨f0, f1⟩ := two HX.out
  have HC := Lib.hid (woke_yes ((HRc.out.below (below_alloc u14 (.cells #[.int .i64 2] 3))).src TI_ok) (src_new TI_ok u14 2 #[.int .i64 2] rfl) (by simp))
  go_wp2_with (go_at_call 16; fail)
  refine HC.out.mono ?_
  rintro e u15 ⟨rfl, hb⟩
  have hb := (below_alloc u14 (.cells #[.int .i64 2] 3)).trans (hb.mono (below_alloc _ _).size)
  have HL2 := Lib.hid (HL.out.grown hb)
  have HX2 := Lib.hid ((hb.block _ (lt_of_block HX.out)).trans HX.out)
  have HRa2 := Lib.hid (HRa.out.below hb)
  have HRb2 := Lib.hid (HRb.out.below hb)
  have HRc2 := Lib.hid (HRc.out.below hb)
  clear hb
  clear HC f0 f1 HL HX HRa HRb HRc
  have HL := HL2
  have HX := HX2
  clear HL2 HX2
  have HRa := HRa2
  clear HRa2
  have HRb := HRb2
  clear HRb2
  have HRc := HRc2
  clear HRc2
  obtain ⟨f0, f1⟩ := two HX.out
  have HC := Lib.hid (reason_yes HL.out kf13)
  go_wp2_with (go_at_call 35; fail)
  refine HC.out.mono ?_
  rintro e u16 ⟨rfl, hb⟩
  have HL2 := Lib.hid (HL.out.grown hb)
  have HX2 := Lib.hid ((hb.block _ (lt_of_block HX.out)).trans HX.out)
  have HRa2 := Lib.hid (HRa.out.below hb)
  have HRb2 := Lib.hid (HRb.out.below hb)
  have HRc2 := Lib.hid (HRc.out.below hb)
  clear hb
  clear HC f0 f1 HL HX HRa HRb HRc
  have HL := HL2
  have HX := HX2
  clear HL2 HX2
  have HRa := HRa2
  clear HRa2
  have HRb := HRb2
  clear HRb2
  have HRc := HRc2
  clear HRc2
  obtain ⟨f0, f1⟩ := two HX.out
  have q := ls_check HL.out 0 0 0
  rw [kf14] at q
  have HC := Lib.hid q
  clear q
  go_wp2_with (go_at_call 26; fail)
  refine HC.out.mono ?_
  rintro e u17 ⟨rfl, hb⟩
  have HL2 := Lib.hid (HL.out.grown hb)
  have HX2 := Lib.hid ((hb.block _ (lt_of_block HX.out)).trans HX.out)
  have HRa2 := Lib.hid (HRa.out.below hb)
  have HRb2 := Lib.hid (HRb.out.below hb)
  have HRc2 := Lib.hid (HRc.out.below hb)
  clear hb
  clear HC f0 f1 HL HX HRa HRb HRc
  have HL := HL2
  have HX := HX2
  clear HL2 HX2
  have HRa := HRa2
  clear HRa2
  have HRb := HRb2
  clear HRb2
  have HRc := HRc2
  clear HRc2
  obtain ⟨f0, f1⟩ := two HX.out
  have q := ls_close HL.out (by omega) HT.out (by omega) khH 0 0
  rw [kf15b] at q
  have HC := Lib.hid q
  clear q
  go_wp2_with (go_at_call 15; fail)
  refine HC.out.mono ?_
  rintro e u18 ⟨vHRd, rfl, hp⟩
  have hst := hp.st
  rw [kd12] at hst
  have HL2 := Lib.hid hst
  have HX2 := Lib.hid ((hp.keep _ ((.inl (.inl (.inl rfl))))).trans HX.out)
  have HRa2 := Lib.hid (row_same HRa.out (fun g hg => hp.keep g ((.inl (.inl (.inr hg))))))
  have HRb2 := Lib.hid (row_same HRb.out (fun g hg => hp.keep g ((.inl (.inr hg)))))
  have HRc2 := Lib.hid (row_same HRc.out (fun g hg => hp.keep g ((.inr hg))))
  have HRd := Lib.hid hp.row
  clear hp hst HC f0 f1 HL HX HRa HRb HRc
  have HL := HL2
  have HX := HX2
  clear HL2 HX2
  have HRa := HRa2
  clear HRa2
  have HRb := HRb2
  clear HRb2
  have HRc := HRc2
  clear HRc2
  rw [kf15] at HRd
  have HL2 := Lib.hid (HL.out.mono (G' := 160) (P' := 160) (by simp [kf15]) (by omega))
  clear HL
  have HL := HL2
  clear HL2
  obtain ⟨f0, f1⟩ := two HX.out
  have HC := Lib.hid (woke_yes ((HRd.out.below (below_alloc u18 (.cells #[.int .i64 1] 3))).src TI_ok) (src_new TI_ok u18 1 #[.int .i64 1] rfl) (by simp))
  go_wp2_with (go_at_call 16; fail)
  refine HC.out.mono ?_
  rintro e u19 ⟨rfl, hb⟩
  have hb := (below_alloc u18 (.cells #[.int .i64 1] 3)).trans (hb.mono (below_alloc _ _).size)
  have HL2 := Lib.hid (HL.out.grown hb)
  have HX2 := Lib.hid ((hb.block _ (lt_of_block HX.out)).trans HX.out)
  have HRa2 := Lib.hid (HRa.out.below hb)
  have HRb2 := Lib.hid (HRb.out.below hb)
  have HRc2 := Lib.hid (HRc.out.below hb)
  have HRd2 := Lib.hid (HRd.out.below hb)
  clear hb
  clear HC f0 f1 HL HX HRa HRb HRc HRd
  have HL := HL2
  have HX := HX2
  clear HL2 HX2
  have HRa := HRa2
  clear HRa2
  have HRb := HRb2
  clear HRb2
  have HRc := HRc2
  clear HRc2
  have HRd := HRd2
  clear HRd2
  obtain ⟨f0, f1⟩ := two HX.out
  have HC := Lib.hid (reason_yes HL.out kf16)
  go_wp2_with (go_at_call 35; fail)
  refine HC.out.mono ?_
  rintro e u20 ⟨rfl, hb⟩
  have HL2 := Lib.hid (HL.out.grown hb)
  have HX2 := Lib.hid ((hb.block _ (lt_of_block HX.out)).trans HX.out)
  have HRa2 := Lib.hid (HRa.out.below hb)
  have HRb2 := Lib.hid (HRb.out.below hb)
  have HRc2 := Lib.hid (HRc.out.below hb)
  have HRd2 := Lib.hid (HRd.out.below hb)
  clear hb
  clear HC f0 f1 HL HX HRa HRb HRc HRd
  have HL := HL2
  have HX := HX2
  clear HL2 HX2
  have HRa := HRa2
  clear HRa2
  have HRb := HRb2
  clear HRb2
  have HRc := HRc2
  clear HRc2
  have HRd := HRd2
  clear HRd2
  obtain ⟨f0, f1⟩ := two HX.out
  have q := ls_check HL.out 0 0 0
  rw [kf17] at q
  have HC := Lib.hid q
  clear q
  go_wp2_with (go_at_call 26; fail)
  refine HC.out.mono ?_
  rintro e u21 ⟨rfl, hb⟩
  have HL2 := Lib.hid (HL.out.grown hb)
  have HX2 := Lib.hid ((hb.block _ (lt_of_block HX.out)).trans HX.out)
  have HRa2 := Lib.hid (HRa.out.below hb)
  have HRb2 := Lib.hid (HRb.out.below hb)
  have HRc2 := Lib.hid (HRc.out.below hb)
  have HRd2 := Lib.hid (HRd.out.below hb)
  clear hb
  clear HC f0 f1 HL HX HRa HRb HRc HRd
  have HL := HL2
  have HX := HX2
  clear HL2 HX2
  have HRa := HRa2
  clear HRa2
  have HRb := HRb2
  clear HRb2
  have HRc := HRc2
  clear HRc2
  have HRd := HRd2
  clear HRd2
  obtain ⟨f0, f1⟩ := two HX.out
  have HC := Lib.hid (fd_any u21 0 1)
  go_wp2_with (go_at_call 14; fail)
  refine HC.out.mono ?_
  rintro e u22 ⟨rfl, hb⟩
  have HL2 := Lib.hid (HL.out.grown hb)
  have HX2 := Lib.hid ((hb.block _ (lt_of_block HX.out)).trans HX.out)
  have HRa2 := Lib.hid (HRa.out.below hb)
  have HRb2 := Lib.hid (HRb.out.below hb)
  have HRc2 := Lib.hid (HRc.out.below hb)
  have HRd2 := Lib.hid (HRd.out.below hb)
  clear hb
  clear HC f0 f1 HL HX HRa HRb HRc HRd
  have HL := HL2
  have HX := HX2
  clear HL2 HX2
  have HRa := HRa2
  clear HRa2
  have HRb := HRb2
  clear HRb2
  have HRc := HRc2
  clear HRc2
  have HRd := HRd2
  clear HRd2
  obtain ⟨f0, f1⟩ := two HX.out
  have HC := Lib.hid (opens_yes HL.out kf18)
  go_wp2_with (go_at_call 17; fail)
  refine HC.out.mono ?_
  rintro e u23 ⟨rfl, hp⟩
  have HL2 : Hid (LSt _ _ _ p kx13 _ _) := Lib.hid hp.st
  have HX2 := Lib.hid ((hp.keep _ ((.inl (.inl (.inl (.inl rfl)))))).trans HX.out)
  have HRa2 := Lib.hid (row_same HRa.out (fun g hg => hp.keep g ((.inl (.inl (.inl (.inr hg)))))))
  have HRb2 := Lib.hid (row_same HRb.out (fun g hg => hp.keep g ((.inl (.inl (.inr hg))))))
  have HRc2 := Lib.hid (row_same HRc.out (fun g hg => hp.keep g ((.inl (.inr hg)))))
  have HRd2 := Lib.hid (row_same HRd.out (fun g hg => hp.keep g ((.inr hg))))
  clear hp
  clear HC f0 f1 HL HX HRa HRb HRc HRd
  have HL := HL2
  have HX := HX2
  clear HL2 HX2
  have HRa := HRa2
  clear HRa2
  have HRb := HRb2
  clear HRb2
  have HRc := HRc2
  clear HRc2
  have HRd := HRd2
  clear HRd2
  obtain ⟨f0, f1⟩ := two HX.out
  have HC := Lib.hid (fd_any u23 0 1)
  go_wp2_with (go_at_call 14; fail)
  refine HC.out.mono ?_
  rintro e u24 ⟨rfl, hb⟩
  have HL2 := Lib.hid (HL.out.grown hb)
  have HX2 := Lib.hid ((hb.block _ (lt_of_block HX.out)).trans HX.out)
  have HRa2 := Lib.hid (HRa.out.below hb)
  have HRb2 := Lib.hid (HRb.out.below hb)
  have HRc2 := Lib.hid (HRc.out.below hb)
  have HRd2 := Lib.hid (HRd.out.below hb)
  clear hb
  clear HC f0 f1 HL HX HRa HRb HRc HRd
  have HL := HL2
  have HX := HX2
  clear HL2 HX2
  have HRa := HRa2
  clear HRa2
  have HRb := HRb2
  clear HRb2
  have HRc := HRc2
  clear HRc2
  have HRd := HRd2
  clear HRd2
  obtain ⟨f0, f1⟩ := two HX.out
  have q := ls_check HL.out 0 1 0
  rw [kf19] at q
  have HC := Lib.hid q
  clear q
  go_wp2_with (go_at_call 26; fail)
  refine HC.out.mono ?_
  rintro e u25 ⟨rfl, hb⟩
  have HL2 := Lib.hid (HL.out.grown hb)
  have HX2 := Lib.hid ((hb.block _ (lt_of_block HX.out)).trans HX.out)
  have HRa2 := Lib.hid (HRa.out.below hb)
  have HRb2 := Lib.hid (HRb.out.below hb)
  have HRc2 := Lib.hid (HRc.out.below hb)
  have HRd2 := Lib.hid (HRd.out.below hb)
  clear hb
  clear HC f0 f1 HL HX HRa HRb HRc HRd
  have HL := HL2
  have HX := HX2
  clear HL2 HX2
  have HRa := HRa2
  clear HRa2
  have HRb := HRb2
  clear HRb2
  have HRc := HRc2
  clear HRc2
  have HRd := HRd2
  clear HRd2
  obtain ⟨f0, f1⟩ := two HX.out
  have q := ls_where_bad HL.out (i := 1) (by rw [kf20]; decide)
  rw [kf20] at q
  have HC := Lib.hid q
  clear q
  go_wp2_with (go_at_call 25; fail)
  refine HC.out.mono ?_
  rintro e u26 ⟨rfl, hb⟩
  have HL2 := Lib.hid (HL.out.grown hb)
  have HX2 := Lib.hid ((hb.block _ (lt_of_block HX.out)).trans HX.out)
  have HRa2 := Lib.hid (HRa.out.below hb)
  have HRb2 := Lib.hid (HRb.out.below hb)
  have HRc2 := Lib.hid (HRc.out.below hb)
  have HRd2 := Lib.hid (HRd.out.below hb)
  clear hb
  clear HC f0 f1 HL HX HRa HRb HRc HRd
  have HL := HL2
  have HX := HX2
  clear HL2 HX2
  have HRa := HRa2
  clear HRa2
  have HRb := HRb2
  clear HRb2
  have HRc := HRc2
  clear HRc2
  have HRd := HRd2
  clear HRd2
  obtain ⟨f0, f1⟩ := two HX.out
  have HBL := Lib.hid HL.out.below
  clear HL HX f0 f1
  go_wp2_with fail
  go_ret
  exact ⟨rfl, HBL.out⟩
end Go.Proofs.YtcjeckjmoponkaaGreatDoor
