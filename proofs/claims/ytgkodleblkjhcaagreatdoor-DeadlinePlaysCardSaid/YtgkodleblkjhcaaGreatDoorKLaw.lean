/- KLaw: JLaw, JKnown, merged. -/
import Derived.Test.YtgkodleblkjhcaaGreatDoorKDlB
/- The law's small functions: spot, sets, Same, lapses. -/
namespace Go.Proofs.YtgkodleblkjhcaaGreatDoor
open Go.RowKit Go.Sort
set_option linter.unusedVariables false
set_option linter.unusedSimpArgs false

variable {w0 w : World} {G : Nat → Prop} {a : Nat} {now : Int} {f : Nat → Int} {P : Nat}

set_option maxHeartbeats 400000 in
theorem lspot_any (x y : Int) (w : World) : Calls Tryz.prog 10 #[.int .i64 x, .int .i64 y] w fun e w' => e = .returned (.agg #[.int .i64 x, .int .i64 y]) ∧ w' = w.alloc (.cells #[.int .i64 x, .int .i64 y] 37) := by
  go_enter Tryz.func10, Tryz.ntmps10
  go_wp2_with fail
  exact bodyPost_ret (v := .agg #[.int .i64 x, .int .i64 y]) (by simp [results, Tryz.results10, go_sem]) rfl ⟨rfl, rfl⟩

set_option maxHeartbeats 1600000 in
theorem jsets_any (J : JAt w0 G w a now f P) {q r : Nat} (hq : q < 128) (hr : r < 2) (d : Int) (hd : d ≤ never) (hT : Tab w0) (hP : P < 9223372036854775807) (b : Bool) (hb : decide (d ≤ now) = b) :
    Calls Tryz.prog 16 #[pt a, plc q r, .int .u64 d, .bool b] w fun e w' => e = .returned (.bool true) ∧ JAt w0 G w' a now (upd f (q * 2 + r) d) (P + 1) ∧ Keep G w w' := by
  obtain ⟨W, hW⟩ : ∃ W, w.alloc (.cells #[.int .i64 q, .int .i64 r] 37) = W := ⟨_, rfl⟩
  have hbw : Below w.heap.size w W := by rw [← hW]; exact (Below.refl _ _).alloc (Nat.le_refl _) _
  have x0 : W.cell? ⟨w.heap.size, 0, none⟩ = some (.int .i64 q) := by rw [← hW]; exact cell_new _ _ _ _ _ _ rfl rfl
  have x1 : W.cell? ⟨w.heap.size, 1, none⟩ = some (.int .i64 r) := by rw [← hW]; exact cell_new _ _ _ _ _ _ rfl rfl
  have hs := jSet_yes (J.grown hbw) hq hr d hd hT hP
  rw [hb] at hs
  have Hs := Lib.hid hs
  have HK := Lib.hid (J.keep hbw)
  have HW := Lib.hid hW
  clear J hs hW hb hbw
  unfold pt plc at *
  go_enter Tryz.func16, Tryz.ntmps16
  go_wp2_with fail
  rw [HW.out]
  go_wp2_with (go_at_call 11; fail)
  refine Hs.out.mono ?_
  rintro e w2 ⟨rfl, J2, K2⟩
  have HJ := Lib.hid J2
  have HK2 := Lib.hid (HK.out.trans K2)
  have qb : (b == b) = true := by simp
  clear J2 K2 x0 x1
  go_wp2_with fail
  go_ret
  exact ⟨rfl, HJ.out, HK2.out⟩

set_option maxRecDepth 100000 in
set_option maxHeartbeats 3200000 in
/-- Same says true of two slices that hold the same list. -/
theorem jsame_any {w : World} {va vb : Value} {ba bb : Nat} {L : List (Int × Nat)} (ha : RowL w ba va L) (hb : RowL w bb vb L) (hl : L.length ≤ 100000) :
    Calls Tryz.prog 15 #[va, vb] w fun e w' => e = .returned (.bool true) ∧ ∃ n, w' = w.drewN n := by
  obtain ⟨a, ca, rfl⟩ := slice_form ha
  obtain ⟨b, cb, rfl⟩ := slice_form hb
  have HA := Lib.hid ha
  have HB := Lib.hid hb
  clear ha hb
  go_enter Tryz.func15, Tryz.ntmps15
  go_wp2_with fail
  go_loopw [5] (fun v wr => ∃ k n : Nat, k ≤ L.length ∧ v = .int .i64 k ∧ wr = w.drewN n) (fun v _ => L.length - (intOf v).toNat)
  case atStart => exact ⟨0, 0, Nat.zero_le _, rfl, rfl⟩
  case round =>
    obtain ⟨k, n, hk, rfl, rfl⟩ := hrel
    by_cases hlt : k < L.length
    · obtain ⟨x, hx⟩ : ∃ x, L[k]? = some x := ⟨_, List.getElem?_eq_getElem hlt⟩
      obtain ⟨ga, c1, h1, _, _⟩ := row_some HA.out (by omega)
      obtain ⟨gb, c2, h2, _, _⟩ := row_some HB.out (by omega)
      simp only [Value.slice.injEq, true_and] at h1 h2
      obtain ⟨rfl, rfl⟩ := h1
      obtain ⟨rfl, rfl⟩ := h2
      obtain ⟨a0, a1, a2⟩ := HA.out.cells k x hx
      obtain ⟨b0, b1, b2⟩ := HB.out.cells k x hx
      obtain ⟨xk, xp⟩ := x
      simp only at a0 a1 a2 b0 b1 b2
      generalize ((xp / 2 : Nat) : Int) = pq at *
      generalize ((xp % 2 : Nat) : Int) = pr at *
      have hki : (k : Int) < (L.length : Int) := by omega
      have hk0 : (0 : Int) ≤ (k : Int) := by omega
      have hDi : (L.length : Int) ≤ 100000 := by omega
      clear hx
      go_wp2_with fail
      go_quiet (fail)
      go_wp2_with fail
      go_roundw
      case rel => exact ⟨k + 1, _, by omega, by go_num, rfl⟩
      case measure => simp [intOf]; omega
    · obtain rfl : k = L.length := by omega
      go_wp2_with fail
      go_ret
      exact ⟨rfl, _, rfl⟩

set_option maxHeartbeats 1600000 in
theorem jlapses_any (J : JAt w0 G w a now f P) {tt : Int} (htt : tt < never) (hl : now ≤ tt) (hP : P ≤ 9223372036854775807) {L : List (Int × Nat)} (hL : IsLap now tt f L) {vw : Value} (hv : RowL w 0 vw L) (hg : ∀ g, vw.ownBlock = some g → G g) :
    Calls Tryz.prog 19 #[pt a, .int .u64 tt, vw] w fun e w' => e = .returned (.bool true) ∧ JAt w0 G w' a tt f P ∧ Keep G w w' := by
  have hs := Lib.hid (jAdv_yes J htt hl hP)
  have HV := Lib.hid hv
  have HL := Lib.hid hL
  have HG := Lib.hid hg
  clear J hv hL hg
  unfold pt at *
  go_enter Tryz.func19, Tryz.ntmps19
  go_wp2_with (go_at_call 13; fail)
  refine hs.out.mono ?_
  rintro e w2 ⟨v, L', rfl, hL', hrow, J2, K2, hsz⟩
  obtain rfl := hL'.unique HL.out
  have hvw : RowL w2 0 vw L' := by
    refine ⟨HV.out.1, ?_⟩
    rcases HV.out.2 with h | ⟨g, cap, cur, rfl, hb, hh, r⟩
    · exact .inl h
    · exact .inr ⟨g, cap, cur, rfl, hb, (K2 g (HG.out g rfl)).trans hh, r⟩
  have hsm := Lib.hid (jsame_any hrow hvw (by have := hL'.len; omega))
  have HJ := Lib.hid (J2.less (G' := G) (fun k h => .inl h))
  have HK := Lib.hid K2
  clear J2 K2 hL' hrow hvw
  go_wp2_with (go_at_call 15; fail)
  refine hsm.out.mono ?_
  rintro e w3 ⟨rfl, n, rfl⟩
  have hd : Below w2.heap.size w2 (w2.drewN n) := (fr_drewN w2 n []).below (fun _ hx => by simp at hx) (Nat.le_refl _)
  have HJ3 := Lib.hid (HJ.out.grown hd)
  have HK3 := Lib.hid (HK.out.trans (HJ.out.keep hd))
  clear hd
  go_wp2_with fail
  go_ret
  exact ⟨rfl, HJ3.out, HK3.out⟩
end Go.Proofs.YtgkodleblkjhcaaGreatDoor
/- The examples of the chapter hold: the contract of the law's known. -/
namespace Go.Proofs.YtgkodleblkjhcaaGreatDoor
open Go.RowKit Go.Sort
set_option linter.unusedVariables false
set_option linter.unusedSimpArgs false

def kf0 : Nat → Int := fun _ => never
def kf1 : Nat → Int := upd kf0 (3 * 2 + 0) 15
def kf2 : Nat → Int := upd kf1 (3 * 2 + 1) 10
def kf3 : Nat → Int := upd kf2 (4 * 2 + 0) 12
def kf4 : Nat → Int := upd kf3 (4 * 2 + 0) 15
def kf5 : Nat → Int := upd kf4 (3 * 2 + 0) 16
theorem kf3_eq (p : Nat) : kf3 p = if p = 8 then 12 else if p = 7 then 10 else if p = 6 then 15 else never := by simp only [kf3, kf2, kf1, kf0, upd]
theorem kf4_eq (p : Nat) : kf4 p = if p = 8 then 15 else if p = 7 then 10 else if p = 6 then 15 else never := by
  unfold kf4
  simp only [upd]
  by_cases h : p = 8
  · rw [if_pos (by omega), if_pos h]
  · rw [if_neg (by omega), if_neg h, kf3_eq, if_neg h]
theorem known_next : IsNext 10 kf3 12 := by
  refine .inr ⟨8, by omega, rfl, by omega, by decide, fun q hq h => ?_⟩
  rw [kf3_eq] at h ⊢
  unfold never
  repeat' split
  all_goals omega
theorem known_lap1 : IsLap 10 14 kf4 [] := ⟨List.Pairwise.nil, fun x => by
  rw [kf4_eq]
  simp only [List.not_mem_nil, false_iff]
  unfold never
  repeat' split
  all_goals omega⟩
theorem known_lap2 : IsLap 14 15 kf4 [(15, 6), (15, 8)] := ⟨by simp [ltL], fun x => by
  obtain ⟨x1, x2⟩ := x
  simp only [kf4_eq, List.mem_cons, List.not_mem_nil, or_false, Prod.mk.injEq]
  unfold never
  repeat' split
  all_goals omega⟩
theorem known_lap3 : IsLap 15 15 kf4 [] := ⟨List.Pairwise.nil, fun x => by
  simp only [List.not_mem_nil, false_iff]
  omega⟩

/-- The law's own blocks. -/
def GA (n : Nat) : Nat → Prop := fun k => k = n ∨ k = n + 1 ∨ k = n + 2
/-- What the law keeps. -/
structure KnO (w : World) (n : Nat) : Prop where
  a : w.heap[n]? = some (.cells #[.int .i64 3, .int .i64 0] 37 (0, 0))
  b : w.heap[n + 1]? = some (.cells #[.int .i64 3, .int .i64 1] 37 (0, 0))
  c : w.heap[n + 2]? = some (.cells #[.int .i64 4, .int .i64 0] 37 (0, 0))
theorem KnO.keep {w w' : World} {n : Nat} {G : Nat → Prop} (h : KnO w n) (k : Keep G w w') (hG : ∀ j, GA n j → G j) : KnO w' n :=
  ⟨(k n (hG n (.inl rfl))).trans h.a, (k (n + 1) (hG _ (.inr (.inl rfl)))).trans h.b, (k (n + 2) (hG _ (.inr (.inr rfl)))).trans h.c⟩
theorem KnO.below {w w' : World} {n : Nat} (h : KnO w n) (hb : Below w.heap.size w w') : KnO w' n :=
  ⟨(hb.block _ (lt_of_block h.a)).trans h.a, (hb.block _ (lt_of_block h.b)).trans h.b, (hb.block _ (lt_of_block h.c)).trans h.c⟩

theorem rowL2 (w : World) : RowL (w.alloc (.cells #[.int .i64 3, .int .i64 0, .int .u64 15, .int .i64 4, .int .i64 0, .int .u64 15] 60)) 0 (.slice (some ⟨w.heap.size, 0, none⟩) 2 2) [(15, 6), (15, 8)] :=
  World.ownsRow_lit w _ 2 (Nat.zero_le _) (by unfold maxLen; omega) rfl

set_option maxRecDepth 100000 in
set_option maxHeartbeats 12800000 in
theorem jknown_any (w : World) (hT : Tab w) : Calls Tryz.prog 5 #[] w fun e w' => e = .returned (.bool true) ∧ Below w.heap.size w w' := by
  have hsp := Lib.hid lspot_any
  go_enter Tryz.func5, Tryz.ntmps5
  go_wp2_with (first | (go_at_call 6; fail))
  refine (jNew_yes w w (fun _ => False) (fun _ h => h.elim) (Below.refl _ _) 10 (by decide)).mono ?_
  rintro e w1 ⟨a, rfl, J1, b1⟩
  have HJ1 := Lib.hid J1
  clear J1 b1
  unfold pt
  go_upto_region 3 with (first | (go_at_call 10; refine (hsp.out _ _ _).mono ?_; rintro e w' ⟨rfl, rfl⟩))
  obtain ⟨W, hW⟩ : ∃ W, (((((w1.alloc (.cells #[.int .i64 3, .int .i64 0] 37)).alloc (.cells #[.int .i64 3, .int .i64 1] 37)).alloc (.cells #[.int .i64 4, .int .i64 0] 37)).alloc (.cells #[.int .i64 3, .int .i64 0] 37)).alloc (.cells #[.int .i64 3, .int .i64 1] 37)).alloc (.cells #[.int .i64 4, .int .i64 0] 37) = W := ⟨_, rfl⟩
  have hbw : Below w1.heap.size w1 W := by
    rw [← hW]
    exact ((((((Below.refl _ _).alloc (Nat.le_refl _) _).alloc (by simp) _).alloc (by simp; omega) _).alloc (by simp; omega) _).alloc (by simp; omega) _).alloc (by simp; omega) _
  obtain ⟨n, hn⟩ : ∃ n, w1.heap.size + 1 + 1 + 1 = n := ⟨_, rfl⟩
  have hsz : W.heap.size = n + 3 := by rw [← hW, ← hn]; simp
  have hO : KnO W n := by
    rw [← hW, ← hn]
    refine ⟨?_, ?_, block_new _ _ _ (by simp)⟩
    · exact (fr_alloc _ _ []).same ((fr_alloc _ _ []).same (block_new _ _ _ (by simp)) (by simp)) (by simp)
    · exact (fr_alloc _ _ []).same (block_new _ _ _ (by simp)) (by simp)
  have hJ : JAt w (GA n) W a 10 kf0 0 := HJ1.out.more hbw (fun k hk => .inr (by
    have h1 := hk
    unfold GA at h1
    omega))
  rw [hW, hn]
  have HO0 := Lib.hid hO
  have HJ0 := Lib.hid hJ
  clear hW hbw hn hsz hO hJ HJ1 hsp
  have x0 := cells_cell (o := 0) HO0.out.a rfl
  have x1 := cells_cell (o := 1) HO0.out.a rfl
  have hc := Lib.hid ((jsets_any HJ0.out (q := 3) (r := 0) (by omega) (by omega) 15 (by decide) hT (by omega) false (by decide) : Calls Tryz.prog 16 #[pt a, .agg #[.int .i64 3, .int .i64 0], .int .u64 15, .bool false] W fun e w' => e = .returned (.bool true) ∧ JAt w (GA n) w' a 10 kf1 1 ∧ Keep (GA n) W w'))
  unfold pt at hc
  go_wp2_with (go_at_call 16; fail)
  refine hc.out.mono ?_
  rintro e w2 ⟨rfl, J2, K2⟩
  have HO1 := Lib.hid (HO0.out.keep K2 (fun j h => h))
  have HJ1 := Lib.hid J2
  clear J2 K2 hc
  clear x0 x1
  clear HO0 HJ0
  have x0 := cells_cell (o := 0) HO1.out.b rfl
  have x1 := cells_cell (o := 1) HO1.out.b rfl
  have hc := Lib.hid ((jsets_any HJ1.out (q := 3) (r := 1) (by omega) (by omega) 10 (by decide) hT (by omega) true (by decide) : Calls Tryz.prog 16 #[pt a, .agg #[.int .i64 3, .int .i64 1], .int .u64 10, .bool true] w2 fun e w' => e = .returned (.bool true) ∧ JAt w (GA n) w' a 10 kf2 2 ∧ Keep (GA n) w2 w'))
  unfold pt at hc
  go_wp2_with (go_at_call 16; fail)
  refine hc.out.mono ?_
  rintro e w3 ⟨rfl, J2, K2⟩
  have HO2 := Lib.hid (HO1.out.keep K2 (fun j h => h))
  have HJ2 := Lib.hid J2
  clear J2 K2 hc
  clear x0 x1
  clear HO1 HJ1
  have x0 := cells_cell (o := 0) HO2.out.c rfl
  have x1 := cells_cell (o := 1) HO2.out.c rfl
  have hc := Lib.hid ((jsets_any HJ2.out (q := 4) (r := 0) (by omega) (by omega) 12 (by decide) hT (by omega) false (by decide) : Calls Tryz.prog 16 #[pt a, .agg #[.int .i64 4, .int .i64 0], .int .u64 12, .bool false] w3 fun e w' => e = .returned (.bool true) ∧ JAt w (GA n) w' a 10 kf3 3 ∧ Keep (GA n) w3 w'))
  unfold pt at hc
  go_wp2_with (go_at_call 16; fail)
  refine hc.out.mono ?_
  rintro e w4 ⟨rfl, J2, K2⟩
  have HO3 := Lib.hid (HO2.out.keep K2 (fun j h => h))
  have HJ3 := Lib.hid J2
  clear J2 K2 hc
  clear x0 x1
  clear HO2 HJ2
  have x0 := cells_cell (o := 0) HO3.out.b rfl
  have x1 := cells_cell (o := 1) HO3.out.b rfl
  have hc := Lib.hid ((jPassed_yes HJ3.out (q := 3) (r := 1) (by omega) (by omega) : Calls Tryz.prog 17 #[pt a, .agg #[.int .i64 3, .int .i64 1]] w4 fun e w' => e = .returned (.tuple #[.bool true, .int .i64 0]) ∧ Grn w4 w'))
  unfold pt at hc
  go_wp2_with (go_at_call 17; fail)
  refine hc.out.mono ?_
  rintro e w5 ⟨rfl, hg⟩
  have HO4 := Lib.hid (HO3.out.below hg.below)
  have HJ4 := Lib.hid (HJ3.out.grown hg.below)
  clear hg hc
  clear x0 x1
  clear HO3 HJ3
  have hc := Lib.hid ((show Calls Tryz.prog 18 #[pt a] w5 fun e w' => e = .returned (.int .u64 12) ∧ Grn w5 w' from (jNext_yes HJ4.out).mono fun e w' ⟨v, h1, h2, h3⟩ => ⟨by rw [h1, h2.unique known_next], h3⟩))
  unfold pt at hc
  go_wp2_with (go_at_call 18; fail)
  refine hc.out.mono ?_
  rintro e w6 ⟨rfl, hg⟩
  have HO5 := Lib.hid (HO4.out.below hg.below)
  have HJ5 := Lib.hid (HJ4.out.grown hg.below)
  clear hg hc
  clear HO4 HJ4
  have x0 := cells_cell (o := 0) HO5.out.c rfl
  have x1 := cells_cell (o := 1) HO5.out.c rfl
  have hc := Lib.hid ((jsets_any HJ5.out (q := 4) (r := 0) (by omega) (by omega) 15 (by decide) hT (by omega) false (by decide) : Calls Tryz.prog 16 #[pt a, .agg #[.int .i64 4, .int .i64 0], .int .u64 15, .bool false] w6 fun e w' => e = .returned (.bool true) ∧ JAt w (GA n) w' a 10 kf4 4 ∧ Keep (GA n) w6 w'))
  unfold pt at hc
  go_wp2_with (go_at_call 16; fail)
  refine hc.out.mono ?_
  rintro e w7 ⟨rfl, J2, K2⟩
  have HO6 := Lib.hid (HO5.out.keep K2 (fun j h => h))
  have HJ6 := Lib.hid J2
  clear J2 K2 hc
  clear x0 x1
  clear HO5 HJ5
  have hc := Lib.hid ((jlapses_any HJ6.out (tt := 14) (by decide) (by omega) (by omega) known_lap1 (vw := .slice none 0 0) (World.ownsRow_nil _ _ _ _) (fun g h => by simp [Value.ownBlock] at h)))
  unfold pt at hc
  go_wp2_with (go_at_call 19; fail)
  refine hc.out.mono ?_
  rintro e w8 ⟨rfl, J2, K2⟩
  have HO7 := Lib.hid (HO6.out.keep K2 (fun j h => h))
  have HJ7 := Lib.hid J2
  clear J2 K2 hc
  clear HO6 HJ6
  have x0 := cells_cell (o := 0) HO7.out.a rfl
  have x1 := cells_cell (o := 1) HO7.out.a rfl
  have y0 := cells_cell (o := 0) HO7.out.c rfl
  have y1 := cells_cell (o := 1) HO7.out.c rfl
  obtain ⟨V, hV⟩ : ∃ V, w8.alloc (.cells #[.int .i64 3, .int .i64 0, .int .u64 15, .int .i64 4, .int .i64 0, .int .u64 15] 60) = V := ⟨_, rfl⟩
  have hbv : Below w8.heap.size w8 V := by rw [← hV]; exact (Below.refl _ _).alloc (Nat.le_refl _) _
  have hrow : RowL V 0 (.slice (some ⟨w8.heap.size, 0, none⟩) 2 2) [(15, 6), (15, 8)] := by rw [← hV]; exact rowL2 _
  have hJ : JAt w (GR (GA n) w8.heap.size) V a 14 kf4 4 := HJ7.out.more hbv (fun j hj => by
    rcases hj with h | h
    · exact .inl h
    · subst h; exact .inr ⟨Nat.le_refl _, by rw [← hV]; simp⟩)
  have HOv := Lib.hid (HO7.out.below hbv)
  have hc := Lib.hid (jlapses_any hJ (tt := 15) (by decide) (by omega) (by omega) known_lap2 hrow (fun g h => .inr (by simpa [Value.ownBlock] using h.symm)))
  have HV := Lib.hid hV
  clear hV hbv hrow hJ HO7 HJ7
  unfold pt at hc
  go_wp2_with (go_at_call 19; rw [HV.out]; fail)
  rw [HV.out]
  refine hc.out.mono ?_
  rintro e w9 ⟨rfl, J2, K2⟩
  have HO8 := Lib.hid (HOv.out.keep K2 (fun j h => .inl h))
  have HJ8 := Lib.hid (J2.less (G' := GA n) (fun j h => .inl h))
  clear J2 K2 hc x0 x1 y0 y1 HOv HV
  have hc := Lib.hid ((jlapses_any HJ8.out (tt := 15) (by decide) (by omega) (by omega) known_lap3 (vw := .slice none 0 0) (World.ownsRow_nil _ _ _ _) (fun g h => by simp [Value.ownBlock] at h)))
  unfold pt at hc
  go_wp2_with (go_at_call 19; fail)
  refine hc.out.mono ?_
  rintro e w10 ⟨rfl, J2, K2⟩
  have HO9 := Lib.hid (HO8.out.keep K2 (fun j h => h))
  have HJ9 := Lib.hid J2
  clear J2 K2 hc
  clear HO8 HJ8
  have x0 := cells_cell (o := 0) HO9.out.a rfl
  have x1 := cells_cell (o := 1) HO9.out.a rfl
  have hc := Lib.hid ((jPassed_yes HJ9.out (q := 3) (r := 0) (by omega) (by omega) : Calls Tryz.prog 17 #[pt a, .agg #[.int .i64 3, .int .i64 0]] w10 fun e w' => e = .returned (.tuple #[.bool true, .int .i64 0]) ∧ Grn w10 w'))
  unfold pt at hc
  go_wp2_with (go_at_call 17; fail)
  refine hc.out.mono ?_
  rintro e w11 ⟨rfl, hg⟩
  have HO10 := Lib.hid (HO9.out.below hg.below)
  have HJ10 := Lib.hid (HJ9.out.grown hg.below)
  clear hg hc
  clear x0 x1
  clear HO9 HJ9
  have x0 := cells_cell (o := 0) HO10.out.a rfl
  have x1 := cells_cell (o := 1) HO10.out.a rfl
  have hc := Lib.hid ((jsets_any HJ10.out (q := 3) (r := 0) (by omega) (by omega) 16 (by decide) hT (by omega) false (by decide) : Calls Tryz.prog 16 #[pt a, .agg #[.int .i64 3, .int .i64 0], .int .u64 16, .bool false] w11 fun e w' => e = .returned (.bool true) ∧ JAt w (GA n) w' a 15 kf5 5 ∧ Keep (GA n) w11 w'))
  unfold pt at hc
  go_wp2_with (go_at_call 16; fail)
  refine hc.out.mono ?_
  rintro e w12 ⟨rfl, J2, K2⟩
  have HO11 := Lib.hid (HO10.out.keep K2 (fun j h => h))
  have HJ11 := Lib.hid J2
  clear J2 K2 hc
  clear x0 x1
  clear HO10 HJ10
  have hc := Lib.hid ((jClear_yes HJ11.out (q := 4) (by omega) hT (by omega) : Calls Tryz.prog 20 #[pt a, .int .i64 4] w12 fun e w' => e = .returned (.int .i64 0) ∧ JAt w (GA n) w' a 15 (clear kf5 4) 7 ∧ Keep (GA n) w12 w'))
  unfold pt at hc
  go_wp2_with (go_at_call 20; fail)
  refine hc.out.mono ?_
  rintro e w13 ⟨rfl, J2, K2⟩
  have HO12 := Lib.hid (HO11.out.keep K2 (fun j h => h))
  have HJ12 := Lib.hid J2
  clear J2 K2 hc
  clear HO11 HJ11
  have x0 := cells_cell (o := 0) HO12.out.c rfl
  have x1 := cells_cell (o := 1) HO12.out.c rfl
  have hc := Lib.hid ((show Calls Tryz.prog 21 #[pt a, .agg #[.int .i64 4, .int .i64 0]] w13 fun e w' => e = .returned (.tuple #[.int .u64 18446744073709551615, .int .i64 0]) ∧ Grn w13 w' from jGet_yes HJ12.out (q := 4) (r := 0) (by omega) (by omega)))
  unfold pt at hc
  go_wp2_with (go_at_call 21; fail)
  refine hc.out.mono ?_
  rintro e w14 ⟨rfl, hg⟩
  have HO13 := Lib.hid (HO12.out.below hg.below)
  have HJ13 := Lib.hid (HJ12.out.grown hg.below)
  clear hg hc
  clear x0 x1
  clear HO12 HJ12
  have hc := Lib.hid ((jAdv_early HJ13.out (to' := 14) (by decide) (by omega)))
  unfold pt at hc
  go_wp2_with (go_at_call 13; fail)
  refine hc.out.mono ?_
  rintro e w15 ⟨rfl, hw⟩
  subst hw
  have HO14 := HO13
  have HJ14 := HJ13
  clear hc
  clear HO13 HJ13
  have hsp := Lib.hid (lspot_any 128 0)
  go_wp2_with (first | (go_at_call 10; refine (hsp.out _).mono ?_; rintro e w' ⟨rfl, rfl⟩) | (go_at_call 11; fail))
  have hbz : Below w14.heap.size w14 (w14.alloc (.cells #[.int .i64 128, .int .i64 0] 37)) := (Below.refl _ _).alloc (Nat.le_refl _) _
  have HZ := Lib.hid (HJ14.out.grown hbz)
  have hc := Lib.hid (jSet_no HZ.out (x := 128) (y := 0) (by decide) 1)
  clear hbz
  unfold pt at hc
  refine hc.out.mono ?_
  rintro e w99 ⟨rfl, hg⟩
  have HF := Lib.hid ((HZ.out.grown hg.below).below)
  clear hg
  go_wp2_with fail
  go_ret
  exact ⟨rfl, HF.out⟩
end Go.Proofs.YtgkodleblkjhcaaGreatDoor
