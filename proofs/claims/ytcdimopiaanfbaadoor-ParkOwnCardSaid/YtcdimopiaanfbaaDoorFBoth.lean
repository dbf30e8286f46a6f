/- The reference's Start, Park, Wake, Finish, Turn; what a table and the reference answer, side by side. -/
import Derived.Test.YtcdimopiaanfbaaDoorFRefC
import Derived.Test.YtcdimopiaanfbaaDoorFVals
import Derived.Test.YtcdimopiaanfbaaDoorFCall
namespace Go.Proofs.YtcdimopiaanfbaaDoor
open Go.RowKit Go.Sort
set_option linter.unusedVariables false
set_option linter.unusedSimpArgs false

/-- What the reference returns: a table with the states S and the run set R. -/
def RefAns (w : World) (b : Nat) (S R : List Int) (code : Int) (e : Ending) (w' : World) : Prop :=
  ∃ s' r', e = .returned (.tuple #[rk s' r', .int .i64 code]) ∧ Row TI w' b s' S ∧ Row TI w' b r' R ∧ Below w.heap.size w w'
def sts (P : Ks) : List Int := P.map fun p => p.s
def vls (Q : Qu) : List Int := Q.map Prod.snd
theorem sts_len (P : Ks) : (sts P).length = P.length := by simp [sts]
theorem sts_get {P : Ks} {i : Nat} {p : Ck} (hp : P[i]? = some p) (hi : i < (sts P).length) : (sts P)[i] = p.s := by
  obtain ⟨hl, he⟩ := List.getElem?_eq_some_iff.1 hp
  simp [sts, he]
theorem sts_step (P : Ks) (i : Nat) (tg : Int) (g : Nat) : sts (stepP P i tg g) = (sts P).set i tg := by simp [sts, stepP, List.map_set]
theorem vls_step (Q : Qu) (i : Nat) (tg : Int) (g : Nat) : vls (stepQ Q i tg g) = woR ((i : Nat) : Int) (vls Q) ++ if tg = 1 then [((i : Nat) : Int)] else [] := by
  unfold vls stepQ
  rw [List.map_append, woR_wo]
  split <;> rfl

theorem change_bad {w : World} {b : Nat} {s r : Value} {P : Ks} {Q : Qu} {N : Int} (hs : Row TI w b s (sts P)) (hr : Row TI w b r (vls Q)) (hn : NoI P N) (hl : P.length ≤ 64) (fr tg : Int) : Calls Tryd.prog 79 #[rk s r, .int .i64 N, .int .i64 fr, .int .i64 tg] w (RefAns w b (sts P) (vls Q) 2) := by
  refine (refChange_bad (hs.src TI_ok) (hr.src TI_ok) (by rw [sts_len]; exact hn) (by rw [sts_len]; exact hl) fr tg).mono ?_
  rintro e w' ⟨rfl, hb⟩
  exact ⟨s, r, rfl, hs.below hb, hr.below hb, hb⟩
theorem change_state {w : World} {b i : Nat} {s r : Value} {P : Ks} {Q : Qu} {p : Ck} {fr : Int} (hs : Row TI w b s (sts P)) (hr : Row TI w b r (vls Q)) (hp : P[i]? = some p) (hne : fr ≠ p.s) (hl : P.length ≤ 64) (tg : Int) : Calls Tryd.prog 79 #[rk s r, .int .i64 ((i : Nat) : Int), .int .i64 fr, .int .i64 tg] w (RefAns w b (sts P) (vls Q) 8) := by
  have hi : i < (sts P).length := by rw [sts_len]; exact (List.getElem?_eq_some_iff.1 hp).1
  refine (refChange_state (hs.src TI_ok) (hr.src TI_ok) hi (by rw [sts_len]; exact hl) (by rw [sts_get hp hi]; exact hne.symm) tg).mono ?_
  rintro e w' ⟨rfl, hb⟩
  exact ⟨s, r, rfl, hs.below hb, hr.below hb, hb⟩
theorem change_yes {w : World} {b i g : Nat} {s r : Value} {P : Ks} {Q : Qu} {p : Ck} {fr : Int} (hb : b ≤ w.heap.size) (hs : Row TI w b s (sts P)) (hr : Row TI w b r (vls Q)) (hp : P[i]? = some p) (he : p.s = fr) (hl : P.length ≤ 64) (hq : Q.length ≤ 900) (tg : Int) : Calls Tryd.prog 79 #[rk s r, .int .i64 ((i : Nat) : Int), .int .i64 fr, .int .i64 tg] w (RefAns w b (sts (stepP P i tg g)) (vls (stepQ Q i tg g)) 0) := by
  have hi : i < (sts P).length := by rw [sts_len]; exact (List.getElem?_eq_some_iff.1 hp).1
  have := refChange_yes (hs.src TI_ok) (hr.src TI_ok) hi (by rw [sts_len]; exact hl) (by simp [vls]; exact hq) tg
  rw [sts_get hp hi, he] at this
  refine this.mono ?_
  rintro e w' ⟨s', r', rfl, h1, h2, h3⟩
  exact ⟨s', r', rfl, by rw [sts_step]; exact h1.lower hb, by rw [vls_step]; exact h2.lower hb, h3⟩

set_option maxRecDepth 100000 in
set_option maxHeartbeats 1600000 in
theorem refStart_of {w : World} {b : Nat} {s r : Value} {S0 R0 S R : List Int} {N code : Int} (hb0 : b ≤ w.heap.size) (hs : Row TI w b s S0) (hr : Row TI w b r R0)
    (h : ∀ W, Below w.heap.size w W → Calls Tryd.prog 79 #[rk s r, .int .i64 N, .int .i64 0, .int .i64 1] W (RefAns W b S R code)) : Calls Tryd.prog 62 #[rk s r, .int .i64 N] w (RefAns w b S R code) := by
  obtain ⟨sa, sn, sc, rfl⟩ := row_form hs
  obtain ⟨ra, rn, rc, rfl⟩ := row_form hr
  obtain ⟨W, hW, hb, hsz, hx, hy⟩ := two_blocks w (.cells #[.slice sa sn sc, .slice ra rn rc] 30) (.cells #[.slice none 0 0, .slice none 0 0] 30)
  have H0 := Lib.hid (h W hb)
  have k0 := cells_cell (o := 0) hx rfl
  have k1 : W.cell? ⟨w.heap.size, 1, none⟩ = some (.slice ra rn rc) := cells_cell hx rfl
  have xl := lt_of_block hx
  have HB := Lib.hid hb
  have HB0 := Lib.hid hb0
  have HY := Lib.hid hy
  have HW := Lib.hid hW
  clear hs hr h hW hb hx hy hb0
  unfold rk at H0 ⊢
  go_enter Tryd.func62, Tryd.ntmps62
  go_wp2_with (go_at_call 79; fail)
  rw [HW.out]
  refine H0.out.mono ?_
  rintro e w2 ⟨s', r', rfl, h1, h2, h3⟩
  obtain ⟨xa, xn, xc, rfl⟩ := row_form h1
  obtain ⟨ya, yn, yc, rfl⟩ := row_form h2
  have hy2 := (h3.block _ (lt_of_block HY.out)).trans HY.out
  have y0 := cells_cell (o := 0) hy2 rfl
  have y1 : w2.cell? ⟨w.heap.size + 1, 1, none⟩ = some (.slice none 0 0) := cells_cell hy2 rfl
  have f0 := cells_free hy2 0
  have f1 := cells_free hy2 1
  have yl := lt_of_block hy2
  have hf := (fr_setCell w2 ⟨w.heap.size + 1, 0, none⟩ (.slice xa xn xc)).trans' (fr_setCell _ ⟨w.heap.size + 1, 1, none⟩ (.slice ya yn yc))
  have HY2 := Lib.hid (cells_set (cells_set hy2 0 (.slice xa xn xc)) 1 (.slice ya yn yc))
  have hb2 := HB.out.trans (h3.mono HB.out.size)
  have HB2 := Lib.hid (hb2.trans (hf.below (fun x hx => by simp at hx; omega) hb2.size))
  have n1 := h1.ne hy2 (by decide)
  have n2 := h2.ne hy2 (by decide)
  have H1 := Lib.hid (h1.fr hf (fun y hy => by simpa using n1 y hy))
  have H2 := Lib.hid (h2.fr hf (fun y hy => by simpa using n2 y hy))
  clear hy2 hf hb2 h1 h2 h3 n1 n2 H0 HY HW k0 k1 xl
  unfold rk
  go_wp2_with fail
  have hy2 := HY2.out
  simp at hy2
  exact bodyPost_ret (v := .tuple #[.agg #[.slice xa xn xc, .slice ya yn yc], .int .i64 code]) (by simp [results, Tryd.results62, go_sem, cells_cell (o := 0) hy2 rfl, cells_cell (o := 1) hy2 rfl]) rfl ⟨_, _, rfl, H1.out, H2.out, HB2.out⟩
theorem bothStart {P : Ks} {Q : Qu} {g : Nat} (hR : Rk P Q) (hl : P.length ≤ 64) (hg : g < 800) (hQ : Q.length ≤ g) (N : Int) : ∃ (code : Int) (P' : Ks) (Q' : Qu) (g' : Nat),
    (∀ B w l, KAt B w l P Q g → Calls Tryd.prog 51 #[.pointer (some ⟨l.t, 0, none⟩), .int .i64 N] w fun e w' => e = .returned (.int .i64 code) ∧ KAt B w' l P' Q' g' ∧ Fr l.F w w') ∧
    (∀ w b s r, b ≤ w.heap.size → Row TI w b s (sts P) → Row TI w b r (vls Q) → Calls Tryd.prog 62 #[rk s r, .int .i64 N] w (RefAns w b (sts P') (vls Q') code)) ∧
    Rk P' Q' ∧ g' ≤ g + 1 ∧ P'.length = P.length := by
  rcases noI_or P N with hn | ⟨i, rfl, hi⟩
  · refine ⟨2, P, Q, g, fun B w l hK => (tkStart_bad hK hn).mono ?_, fun w b s r hb hs hr => refStart_of hb hs hr (fun W hW => change_bad (hs.below hW) (hr.below hW) hn hl _ _), hR, by omega, rfl⟩
    rintro e w' ⟨rfl, rfl⟩
    exact ⟨rfl, hK, Fr.refl _ _⟩
  · have hp := List.getElem?_eq_getElem hi
    by_cases hs : (P[i]).s = frOf 0
    · refine ⟨0, stepP P i (tgOf 0) g, stepQ Q i (tgOf 0) g, stepG (tgOf 0) g, fun B w l hK => (tkStart_yes hK hR (by omega) hp hs).mono ?_, fun w b s r hb h1 h2 => refStart_of hb h1 h2 (fun W hW => change_yes (Nat.le_trans hb hW.size) (h1.below hW) (h2.below hW) hp hs hl (by omega) _), hR.step hp _ _, ?_, stepP_len _ _⟩
      · rintro e w' ⟨rfl, hd, hf⟩
        exact ⟨rfl, hd, hf⟩
      · unfold stepG; split <;> omega
    · refine ⟨8, P, Q, g, fun B w l hK => (tkStart_state hK hp (fun e => hs e.symm)).mono ?_, fun w b s r hb h1 h2 => refStart_of hb h1 h2 (fun W hW => change_state (h1.below hW) (h2.below hW) hp (fun e => hs e.symm) hl _), hR, by omega, rfl⟩
      rintro e w' ⟨rfl, hgr⟩
      exact ⟨rfl, hK.grown hgr.below, Fr.of_below hgr.below _⟩

set_option maxRecDepth 100000 in
set_option maxHeartbeats 1600000 in
theorem refPark_of {w : World} {b : Nat} {s r : Value} {S0 R0 S R : List Int} {N code : Int} (hb0 : b ≤ w.heap.size) (hs : Row TI w b s S0) (hr : Row TI w b r R0)
    (h : ∀ W, Below w.heap.size w W → Calls Tryd.prog 79 #[rk s r, .int .i64 N, .int .i64 1, .int .i64 2] W (RefAns W b S R code)) : Calls Tryd.prog 65 #[rk s r, .int .i64 N] w (RefAns w b S R code) := by
  obtain ⟨sa, sn, sc, rfl⟩ := row_form hs
  obtain ⟨ra, rn, rc, rfl⟩ := row_form hr
  obtain ⟨W, hW, hb, hsz, hx, hy⟩ := two_blocks w (.cells #[.slice sa sn sc, .slice ra rn rc] 30) (.cells #[.slice none 0 0, .slice none 0 0] 30)
  have H0 := Lib.hid (h W hb)
  have k0 := cells_cell (o := 0) hx rfl
  have k1 : W.cell? ⟨w.heap.size, 1, none⟩ = some (.slice ra rn rc) := cells_cell hx rfl
  have xl := lt_of_block hx
  have HB := Lib.hid hb
  have HB0 := Lib.hid hb0
  have HY := Lib.hid hy
  have HW := Lib.hid hW
  clear hs hr h hW hb hx hy hb0
  unfold rk at H0 ⊢
  go_enter Tryd.func65, Tryd.ntmps65
  go_wp2_with (go_at_call 79; fail)
  rw [HW.out]
  refine H0.out.mono ?_
  rintro e w2 ⟨s', r', rfl, h1, h2, h3⟩
  obtain ⟨xa, xn, xc, rfl⟩ := row_form h1
  obtain ⟨ya, yn, yc, rfl⟩ := row_form h2
  have hy2 := (h3.block _ (lt_of_block HY.out)).trans HY.out
  have y0 := cells_cell (o := 0) hy2 rfl
  have y1 : w2.cell? ⟨w.heap.size + 1, 1, none⟩ = some (.slice none 0 0) := cells_cell hy2 rfl
  have f0 := cells_free hy2 0
  have f1 := cells_free hy2 1
  have yl := lt_of_block hy2
  have hf := (fr_setCell w2 ⟨w.heap.size + 1, 0, none⟩ (.slice xa xn xc)).trans' (fr_setCell _ ⟨w.heap.size + 1, 1, none⟩ (.slice ya yn yc))
  have HY2 := Lib.hid (cells_set (cells_set hy2 0 (.slice xa xn xc)) 1 (.slice ya yn yc))
  have hb2 := HB.out.trans (h3.mono HB.out.size)
  have HB2 := Lib.hid (hb2.trans (hf.below (fun x hx => by simp at hx; omega) hb2.size))
  have n1 := h1.ne hy2 (by decide)
  have n2 := h2.ne hy2 (by decide)
  have H1 := Lib.hid (h1.fr hf (fun y hy => by simpa using n1 y hy))
  have H2 := Lib.hid (h2.fr hf (fun y hy => by simpa using n2 y hy))
  clear hy2 hf hb2 h1 h2 h3 n1 n2 H0 HY HW k0 k1 xl
  unfold rk
  go_wp2_with fail
  have hy2 := HY2.out
  simp at hy2
  exact bodyPost_ret (v := .tuple #[.agg #[.slice xa xn xc, .slice ya yn yc], .int .i64 code]) (by simp [results, Tryd.results65, go_sem, cells_cell (o := 0) hy2 rfl, cells_cell (o := 1) hy2 rfl]) rfl ⟨_, _, rfl, H1.out, H2.out, HB2.out⟩
theorem bothPark {P : Ks} {Q : Qu} {g : Nat} (hR : Rk P Q) (hl : P.length ≤ 64) (hg : g < 800) (hQ : Q.length ≤ g) (N : Int) : ∃ (code : Int) (P' : Ks) (Q' : Qu) (g' : Nat),
    (∀ B w l, KAt B w l P Q g → Calls Tryd.prog 54 #[.pointer (some ⟨l.t, 0, none⟩), .int .i64 N] w fun e w' => e = .returned (.int .i64 code) ∧ KAt B w' l P' Q' g' ∧ Fr l.F w w') ∧
    (∀ w b s r, b ≤ w.heap.size → Row TI w b s (sts P) → Row TI w b r (vls Q) → Calls Tryd.prog 65 #[rk s r, .int .i64 N] w (RefAns w b (sts P') (vls Q') code)) ∧
    Rk P' Q' ∧ g' ≤ g + 1 ∧ P'.length = P.length := by
  rcases noI_or P N with hn | ⟨i, rfl, hi⟩
  · refine ⟨2, P, Q, g, fun B w l hK => (tkPark_bad hK hn).mono ?_, fun w b s r hb hs hr => refPark_of hb hs hr (fun W hW => change_bad (hs.below hW) (hr.below hW) hn hl _ _), hR, by omega, rfl⟩
    rintro e w' ⟨rfl, rfl⟩
    exact ⟨rfl, hK, Fr.refl _ _⟩
  · have hp := List.getElem?_eq_getElem hi
    by_cases hs : (P[i]).s = frOf 1
    · refine ⟨0, stepP P i (tgOf 1) g, stepQ Q i (tgOf 1) g, stepG (tgOf 1) g, fun B w l hK => (tkPark_yes hK hR (by omega) hp hs).mono ?_, fun w b s r hb h1 h2 => refPark_of hb h1 h2 (fun W hW => change_yes (Nat.le_trans hb hW.size) (h1.below hW) (h2.below hW) hp hs hl (by omega) _), hR.step hp _ _, ?_, stepP_len _ _⟩
      · rintro e w' ⟨rfl, hd, hf⟩
        exact ⟨rfl, hd, hf⟩
      · unfold stepG; split <;> omega
    · refine ⟨8, P, Q, g, fun B w l hK => (tkPark_state hK hp (fun e => hs e.symm)).mono ?_, fun w b s r hb h1 h2 => refPark_of hb h1 h2 (fun W hW => change_state (h1.below hW) (h2.below hW) hp (fun e => hs e.symm) hl _), hR, by omega, rfl⟩
      rintro e w' ⟨rfl, hgr⟩
      exact ⟨rfl, hK.grown hgr.below, Fr.of_below hgr.below _⟩

set_option maxRecDepth 100000 in
set_option maxHeartbeats 1600000 in
theorem refWake_of {w : World} {b : Nat} {s r : Value} {S0 R0 S R : List Int} {N code : Int} (hb0 : b ≤ w.heap.size) (hs : Row TI w b s S0) (hr : Row TI w b r R0)
    (h : ∀ W, Below w.heap.size w W → Calls Tryd.prog 79 #[rk s r, .int .i64 N, .int .i64 2, .int .i64 1] W (RefAns W b S R code)) : Calls Tryd.prog 66 #[rk s r, .int .i64 N] w (RefAns w b S R code) := by
  obtain ⟨sa, sn, sc, rfl⟩ := row_form hs
  obtain ⟨ra, rn, rc, rfl⟩ := row_form hr
  obtain ⟨W, hW, hb, hsz, hx, hy⟩ := two_blocks w (.cells #[.slice sa sn sc, .slice ra rn rc] 30) (.cells #[.slice none 0 0, .slice none 0 0] 30)
  have H0 := Lib.hid (h W hb)
  have k0 := cells_cell (o := 0) hx rfl
  have k1 : W.cell? ⟨w.heap.size, 1, none⟩ = some (.slice ra rn rc) := cells_cell hx rfl
  have xl := lt_of_block hx
  have HB := Lib.hid hb
  have HB0 := Lib.hid hb0
  have HY := Lib.hid hy
  have HW := Lib.hid hW
  clear hs hr h hW hb hx hy hb0
  unfold rk at H0 ⊢
  go_enter Tryd.func66, Tryd.ntmps66
  go_wp2_with (go_at_call 79; fail)
  rw [HW.out]
  refine H0.out.mono ?_
  rintro e w2 ⟨s', r', rfl, h1, h2, h3⟩
  obtain ⟨xa, xn, xc, rfl⟩ := row_form h1
  obtain ⟨ya, yn, yc, rfl⟩ := row_form h2
  have hy2 := (h3.block _ (lt_of_block HY.out)).trans HY.out
  have y0 := cells_cell (o := 0) hy2 rfl
  have y1 : w2.cell? ⟨w.heap.size + 1, 1, none⟩ = some (.slice none 0 0) := cells_cell hy2 rfl
  have f0 := cells_free hy2 0
  have f1 := cells_free hy2 1
  have yl := lt_of_block hy2
  have hf := (fr_setCell w2 ⟨w.heap.size + 1, 0, none⟩ (.slice xa xn xc)).trans' (fr_setCell _ ⟨w.heap.size + 1, 1, none⟩ (.slice ya yn yc))
  have HY2 := Lib.hid (cells_set (cells_set hy2 0 (.slice xa xn xc)) 1 (.slice ya yn yc))
  have hb2 := HB.out.trans (h3.mono HB.out.size)
  have HB2 := Lib.hid (hb2.trans (hf.below (fun x hx => by simp at hx; omega) hb2.size))
  have n1 := h1.ne hy2 (by decide)
  have n2 := h2.ne hy2 (by decide)
  have H1 := Lib.hid (h1.fr hf (fun y hy => by simpa using n1 y hy))
  have H2 := Lib.hid (h2.fr hf (fun y hy => by simpa using n2 y hy))
  clear hy2 hf hb2 h1 h2 h3 n1 n2 H0 HY HW k0 k1 xl
  unfold rk
  go_wp2_with fail
  have hy2 := HY2.out
  simp at hy2
  exact bodyPost_ret (v := .tuple #[.agg #[.slice xa xn xc, .slice ya yn yc], .int .i64 code]) (by simp [results, Tryd.results66, go_sem, cells_cell (o := 0) hy2 rfl, cells_cell (o := 1) hy2 rfl]) rfl ⟨_, _, rfl, H1.out, H2.out, HB2.out⟩
theorem bothWake {P : Ks} {Q : Qu} {g : Nat} (hR : Rk P Q) (hl : P.length ≤ 64) (hg : g < 800) (hQ : Q.length ≤ g) (N : Int) : ∃ (code : Int) (P' : Ks) (Q' : Qu) (g' : Nat),
    (∀ B w l, KAt B w l P Q g → Calls Tryd.prog 47 #[.pointer (some ⟨l.t, 0, none⟩), .int .i64 N] w fun e w' => e = .returned (.int .i64 code) ∧ KAt B w' l P' Q' g' ∧ Fr l.F w w') ∧
    (∀ w b s r, b ≤ w.heap.size → Row TI w b s (sts P) → Row TI w b r (vls Q) → Calls Tryd.prog 66 #[rk s r, .int .i64 N] w (RefAns w b (sts P') (vls Q') code)) ∧
    Rk P' Q' ∧ g' ≤ g + 1 ∧ P'.length = P.length := by
  rcases noI_or P N with hn | ⟨i, rfl, hi⟩
  · refine ⟨2, P, Q, g, fun B w l hK => (tkWake_bad hK hn).mono ?_, fun w b s r hb hs hr => refWake_of hb hs hr (fun W hW => change_bad (hs.below hW) (hr.below hW) hn hl _ _), hR, by omega, rfl⟩
    rintro e w' ⟨rfl, rfl⟩
    exact ⟨rfl, hK, Fr.refl _ _⟩
  · have hp := List.getElem?_eq_getElem hi
    by_cases hs : (P[i]).s = frOf 2
    · refine ⟨0, stepP P i (tgOf 2) g, stepQ Q i (tgOf 2) g, stepG (tgOf 2) g, fun B w l hK => (tkWake_yes hK hR (by omega) hp hs).mono ?_, fun w b s r hb h1 h2 => refWake_of hb h1 h2 (fun W hW => change_yes (Nat.le_trans hb hW.size) (h1.below hW) (h2.below hW) hp hs hl (by omega) _), hR.step hp _ _, ?_, stepP_len _ _⟩
      · rintro e w' ⟨rfl, hd, hf⟩
        exact ⟨rfl, hd, hf⟩
      · unfold stepG; split <;> omega
    · refine ⟨8, P, Q, g, fun B w l hK => (tkWake_state hK hp (fun e => hs e.symm)).mono ?_, fun w b s r hb h1 h2 => refWake_of hb h1 h2 (fun W hW => change_state (h1.below hW) (h2.below hW) hp (fun e => hs e.symm) hl _), hR, by omega, rfl⟩
      rintro e w' ⟨rfl, hgr⟩
      exact ⟨rfl, hK.grown hgr.below, Fr.of_below hgr.below _⟩

set_option maxRecDepth 100000 in
set_option maxHeartbeats 1600000 in
theorem refFinish_of {w : World} {b : Nat} {s r : Value} {S0 R0 S R : List Int} {N code : Int} (hb0 : b ≤ w.heap.size) (hs : Row TI w b s S0) (hr : Row TI w b r R0)
    (h : ∀ W, Below w.heap.size w W → Calls Tryd.prog 79 #[rk s r, .int .i64 N, .int .i64 1, .int .i64 0] W (RefAns W b S R code)) : Calls Tryd.prog 63 #[rk s r, .int .i64 N] w (RefAns w b S R code) := by
  obtain ⟨sa, sn, sc, rfl⟩ := row_form hs
  obtain ⟨ra, rn, rc, rfl⟩ := row_form hr
  obtain ⟨W, hW, hb, hsz, hx, hy⟩ := two_blocks w (.cells #[.slice sa sn sc, .slice ra rn rc] 30) (.cells #[.slice none 0 0, .slice none 0 0] 30)
  have H0 := Lib.hid (h W hb)
  have k0 := cells_cell (o := 0) hx rfl
  have k1 : W.cell? ⟨w.heap.size, 1, none⟩ = some (.slice ra rn rc) := cells_cell hx rfl
  have xl := lt_of_block hx
  have HB := Lib.hid hb
  have HB0 := Lib.hid hb0
  have HY := Lib.hid hy
  have HW := Lib.hid hW
  clear hs hr h hW hb hx hy hb0
  unfold rk at H0 ⊢
  go_enter Tryd.func63, Tryd.ntmps63
  go_wp2_with (go_at_call 79; fail)
  rw [HW.out]
  refine H0.out.mono ?_
  rintro e w2 ⟨s', r', rfl, h1, h2, h3⟩
  obtain ⟨xa, xn, xc, rfl⟩ := row_form h1
  obtain ⟨ya, yn, yc, rfl⟩ := row_form h2
  have hy2 := (h3.block _ (lt_of_block HY.out)).trans HY.out
  have y0 := cells_cell (o := 0) hy2 rfl
  have y1 : w2.cell? ⟨w.heap.size + 1, 1, none⟩ = some (.slice none 0 0) := cells_cell hy2 rfl
  have f0 := cells_free hy2 0
  have f1 := cells_free hy2 1
  have yl := lt_of_block hy2
  have hf := (fr_setCell w2 ⟨w.heap.size + 1, 0, none⟩ (.slice xa xn xc)).trans' (fr_setCell _ ⟨w.heap.size + 1, 1, none⟩ (.slice ya yn yc))
  have HY2 := Lib.hid (cells_set (cells_set hy2 0 (.slice xa xn xc)) 1 (.slice ya yn yc))
  have hb2 := HB.out.trans (h3.mono HB.out.size)
  have HB2 := Lib.hid (hb2.trans (hf.below (fun x hx => by simp at hx; omega) hb2.size))
  have n1 := h1.ne hy2 (by decide)
  have n2 := h2.ne hy2 (by decide)
  have H1 := Lib.hid (h1.fr hf (fun y hy => by simpa using n1 y hy))
  have H2 := Lib.hid (h2.fr hf (fun y hy => by simpa using n2 y hy))
  clear hy2 hf hb2 h1 h2 h3 n1 n2 H0 HY HW k0 k1 xl
  unfold rk
  go_wp2_with fail
  have hy2 := HY2.out
  simp at hy2
  exact bodyPost_ret (v := .tuple #[.agg #[.slice xa xn xc, .slice ya yn yc], .int .i64 code]) (by simp [results, Tryd.results63, go_sem, cells_cell (o := 0) hy2 rfl, cells_cell (o := 1) hy2 rfl]) rfl ⟨_, _, rfl, H1.out, H2.out, HB2.out⟩
theorem bothFinish {P : Ks} {Q : Qu} {g : Nat} (hR : Rk P Q) (hl : P.length ≤ 64) (hg : g < 800) (hQ : Q.length ≤ g) (N : Int) : ∃ (code : Int) (P' : Ks) (Q' : Qu) (g' : Nat),
    (∀ B w l, KAt B w l P Q g → Calls Tryd.prog 52 #[.pointer (some ⟨l.t, 0, none⟩), .int .i64 N] w fun e w' => e = .returned (.int .i64 code) ∧ KAt B w' l P' Q' g' ∧ Fr l.F w w') ∧
    (∀ w b s r, b ≤ w.heap.size → Row TI w b s (sts P) → Row TI w b r (vls Q) → Calls Tryd.prog 63 #[rk s r, .int .i64 N] w (RefAns w b (sts P') (vls Q') code)) ∧
    Rk P' Q' ∧ g' ≤ g + 1 ∧ P'.length = P.length := by
  rcases noI_or P N with hn | ⟨i, rfl, hi⟩
  · refine ⟨2, P, Q, g, fun B w l hK => (tkFinish_bad hK hn).mono ?_, fun w b s r hb hs hr => refFinish_of hb hs hr (fun W hW => change_bad (hs.below hW) (hr.below hW) hn hl _ _), hR, by omega, rfl⟩
    rintro e w' ⟨rfl, rfl⟩
    exact ⟨rfl, hK, Fr.refl _ _⟩
  · have hp := List.getElem?_eq_getElem hi
    by_cases hs : (P[i]).s = frOf 3
    · refine ⟨0, stepP P i (tgOf 3) g, stepQ Q i (tgOf 3) g, stepG (tgOf 3) g, fun B w l hK => (tkFinish_yes hK hR (by omega) hp hs).mono ?_, fun w b s r hb h1 h2 => refFinish_of hb h1 h2 (fun W hW => change_yes (Nat.le_trans hb hW.size) (h1.below hW) (h2.below hW) hp hs hl (by omega) _), hR.step hp _ _, ?_, stepP_len _ _⟩
      · rintro e w' ⟨rfl, hd, hf⟩
        exact ⟨rfl, hd, hf⟩
      · unfold stepG; split <;> omega
    · refine ⟨8, P, Q, g, fun B w l hK => (tkFinish_state hK hp (fun e => hs e.symm)).mono ?_, fun w b s r hb h1 h2 => refFinish_of hb h1 h2 (fun W hW => change_state (h1.below hW) (h2.below hW) hp (fun e => hs e.symm) hl _), hR, by omega, rfl⟩
      rintro e w' ⟨rfl, hgr⟩
      exact ⟨rfl, hK.grown hgr.below, Fr.of_below hgr.below _⟩

set_option maxRecDepth 100000 in
set_option maxHeartbeats 1600000 in
theorem refTurn_of {w : World} {b : Nat} {s r : Value} {S0 R0 S R : List Int} {N code : Int} (hb0 : b ≤ w.heap.size) (hs : Row TI w b s S0) (hr : Row TI w b r R0)
    (h : ∀ W, Below w.heap.size w W → Calls Tryd.prog 79 #[rk s r, .int .i64 N, .int .i64 1, .int .i64 1] W (RefAns W b S R code)) : Calls Tryd.prog 64 #[rk s r, .int .i64 N] w (RefAns w b S R code) := by
  obtain ⟨sa, sn, sc, rfl⟩ := row_form hs
  obtain ⟨ra, rn, rc, rfl⟩ := row_form hr
  obtain ⟨W, hW, hb, hsz, hx, hy⟩ := two_blocks w (.cells #[.slice sa sn sc, .slice ra rn rc] 30) (.cells #[.slice none 0 0, .slice none 0 0] 30)
  have H0 := Lib.hid (h W hb)
  have k0 := cells_cell (o := 0) hx rfl
  have k1 : W.cell? ⟨w.heap.size, 1, none⟩ = some (.slice ra rn rc) := cells_cell hx rfl
  have xl := lt_of_block hx
  have HB := Lib.hid hb
  have HB0 := Lib.hid hb0
  have HY := Lib.hid hy
  have HW := Lib.hid hW
  clear hs hr h hW hb hx hy hb0
  unfold rk at H0 ⊢
  go_enter Tryd.func64, Tryd.ntmps64
  go_wp2_with (go_at_call 79; fail)
  rw [HW.out]
  refine H0.out.mono ?_
  rintro e w2 ⟨s', r', rfl, h1, h2, h3⟩
  obtain ⟨xa, xn, xc, rfl⟩ := row_form h1
  obtain ⟨ya, yn, yc, rfl⟩ := row_form h2
  have hy2 := (h3.block _ (lt_of_block HY.out)).trans HY.out
  have y0 := cells_cell (o := 0) hy2 rfl
  have y1 : w2.cell? ⟨w.heap.size + 1, 1, none⟩ = some (.slice none 0 0) := cells_cell hy2 rfl
  have f0 := cells_free hy2 0
  have f1 := cells_free hy2 1
  have yl := lt_of_block hy2
  have hf := (fr_setCell w2 ⟨w.heap.size + 1, 0, none⟩ (.slice xa xn xc)).trans' (fr_setCell _ ⟨w.heap.size + 1, 1, none⟩ (.slice ya yn yc))
  have HY2 := Lib.hid (cells_set (cells_set hy2 0 (.slice xa xn xc)) 1 (.slice ya yn yc))
  have hb2 := HB.out.trans (h3.mono HB.out.size)
  have HB2 := Lib.hid (hb2.trans (hf.below (fun x hx => by simp at hx; omega) hb2.size))
  have n1 := h1.ne hy2 (by decide)
  have n2 := h2.ne hy2 (by decide)
  have H1 := Lib.hid (h1.fr hf (fun y hy => by simpa using n1 y hy))
  have H2 := Lib.hid (h2.fr hf (fun y hy => by simpa using n2 y hy))
  clear hy2 hf hb2 h1 h2 h3 n1 n2 H0 HY HW k0 k1 xl
  unfold rk
  go_wp2_with fail
  have hy2 := HY2.out
  simp at hy2
  exact bodyPost_ret (v := .tuple #[.agg #[.slice xa xn xc, .slice ya yn yc], .int .i64 code]) (by simp [results, Tryd.results64, go_sem, cells_cell (o := 0) hy2 rfl, cells_cell (o := 1) hy2 rfl]) rfl ⟨_, _, rfl, H1.out, H2.out, HB2.out⟩
theorem bothTurn {P : Ks} {Q : Qu} {g : Nat} (hR : Rk P Q) (hl : P.length ≤ 64) (hg : g < 800) (hQ : Q.length ≤ g) (N : Int) : ∃ (code : Int) (P' : Ks) (Q' : Qu) (g' : Nat),
    (∀ B w l, KAt B w l P Q g → Calls Tryd.prog 53 #[.pointer (some ⟨l.t, 0, none⟩), .int .i64 N] w fun e w' => e = .returned (.int .i64 code) ∧ KAt B w' l P' Q' g' ∧ Fr l.F w w') ∧
    (∀ w b s r, b ≤ w.heap.size → Row TI w b s (sts P) → Row TI w b r (vls Q) → Calls Tryd.prog 64 #[rk s r, .int .i64 N] w (RefAns w b (sts P') (vls Q') code)) ∧
    Rk P' Q' ∧ g' ≤ g + 1 ∧ P'.length = P.length := by
  rcases noI_or P N with hn | ⟨i, rfl, hi⟩
  · refine ⟨2, P, Q, g, fun B w l hK => (tkTurn_bad hK hn).mono ?_, fun w b s r hb hs hr => refTurn_of hb hs hr (fun W hW => change_bad (hs.below hW) (hr.below hW) hn hl _ _), hR, by omega, rfl⟩
    rintro e w' ⟨rfl, rfl⟩
    exact ⟨rfl, hK, Fr.refl _ _⟩
  · have hp := List.getElem?_eq_getElem hi
    by_cases hs : (P[i]).s = frOf 4
    · refine ⟨0, stepP P i (tgOf 4) g, stepQ Q i (tgOf 4) g, stepG (tgOf 4) g, fun B w l hK => (tkTurn_yes hK hR (by omega) hp hs).mono ?_, fun w b s r hb h1 h2 => refTurn_of hb h1 h2 (fun W hW => change_yes (Nat.le_trans hb hW.size) (h1.below hW) (h2.below hW) hp hs hl (by omega) _), hR.step hp _ _, ?_, stepP_len _ _⟩
      · rintro e w' ⟨rfl, hd, hf⟩
        exact ⟨rfl, hd, hf⟩
      · unfold stepG; split <;> omega
    · refine ⟨8, P, Q, g, fun B w l hK => (tkTurn_state hK hp (fun e => hs e.symm)).mono ?_, fun w b s r hb h1 h2 => refTurn_of hb h1 h2 (fun W hW => change_state (h1.below hW) (h2.below hW) hp (fun e => hs e.symm) hl _), hR, by omega, rfl⟩
      rintro e w' ⟨rfl, hgr⟩
      exact ⟨rfl, hK.grown hgr.below, Fr.of_below hgr.below _⟩
end Go.Proofs.YtcdimopiaanfbaaDoor
