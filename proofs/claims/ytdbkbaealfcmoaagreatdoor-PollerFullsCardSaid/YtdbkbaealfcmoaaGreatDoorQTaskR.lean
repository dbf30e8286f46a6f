/- QTaskR: FRefA, FRefB, FRefC, FBoth, merged. -/
import Derived.Test.YtdbkbaealfcmoaaGreatDoorQTaskB
import Derived.LoopTactic
import Derived.Deep.LoopGhost
import Derived.Test.YtdbkbaealfcmoaaGreatDoorQMix
import Derived.Deep.CutBlock
import Derived.Deep.RegionWith
import Derived.Test.YtdbkbaealfcmoaaGreatDoorQTaskA
/- The reference: New, State, Next, without. -/
namespace Go.Proofs.YtdbkbaealfcmoaaGreatDoor
open Go.RowKit Go.Sort
set_option linter.unusedVariables false
set_option linter.unusedSimpArgs false

/-- A reference's table. -/
def rk (s r : Value) : Value := .agg #[s, r]

theorem refNew_bad (w : World) (c : Int) (h : c < 1 ∨ 64 < c) : Calls Tryz.prog 88 #[.int .i64 c] w fun e w' => e = .returned (.tuple #[rk (.slice none 0 0) (.slice none 0 0), .int .i64 2]) ∧ Grn w w' := by
  by_cases h1 : c < 1
  · go_enter Tryz.func88, Tryz.ntmps88
    go_wp2_with fail
    have hx := block_new w (.cells #[.slice none 0 0, .slice none 0 0] 38) _ rfl
    refine bodyPost_ret (v := .tuple #[rk (.slice none 0 0) (.slice none 0 0), .int .i64 2]) (by simp [results, Tryz.results88, go_sem, rk, cells_cell (o := 0) hx rfl, cells_cell (o := 1) hx rfl]) rfl ⟨rfl, (Grn.refl w).alloc _⟩
  · have h2 : 64 < c := by omega
    have h3 : decide (c < 1) = false := by simp; omega
    go_enter Tryz.func88, Tryz.ntmps88
    go_wp2_with fail
    have hx := block_new w (.cells #[.slice none 0 0, .slice none 0 0] 38) _ rfl
    refine bodyPost_ret (v := .tuple #[rk (.slice none 0 0) (.slice none 0 0), .int .i64 2]) (by simp [results, Tryz.results88, go_sem, rk, cells_cell (o := 0) hx rfl, cells_cell (o := 1) hx rfl]) rfl ⟨rfl, (Grn.refl w).alloc _⟩

theorem row_zero {w : World} {base b n : Nat} (h : w.ownsRow base 3 1 (.slice (some ⟨b, 0, none⟩) n n) n (madeCells #[Value.int .i64 0] n).toList) : Row TI w base (.slice (some ⟨b, 0, none⟩) n n) (List.replicate n 0) := by
  unfold Row
  rw [List.length_replicate, flt_replicate (e := TI.enc) (s := 1) n 0 TI_ok.len (by decide), Nat.mul_one]
  exact h
set_option maxHeartbeats 1600000 in
theorem refNew_ok (w : World) (c : Nat) (h1 : 1 ≤ c) (h2 : c ≤ 64) : Calls Tryz.prog 88 #[.int .i64 ((c : Nat) : Int)] w fun e w' => ∃ s, e = .returned (.tuple #[rk s (.slice none 0 0), .int .i64 0]) ∧ Row TI w' w.heap.size s (List.replicate c 0) ∧ Below w.heap.size w w' := by
  have e3 : decide ((c : Int) < 1) = false := by simp; omega
  have e4 : decide ((64 : Int) < (c : Int)) = false := by simp; omega
  obtain ⟨i0, hi0, hz0, hz1, hz2⟩ := info_parts infoInt
  go_enter Tryz.func88, Tryz.ntmps88
  go_wp2_with (with_reducible refine wpList_make_full _ rfl (.tmp 11) (.tmp 11) 36 rfl w.heap.size 3 i0 (.int .i64 0) 1 Tryz.underlying36 hi0 hz0 hz1 _ _ _ _ c rfl rfl rfl rfl ?_ ?_ ?_ ?_)
  rotate_right
  · intro w1 hown hgr
    have hr := row_zero hown
    have hb0 := below_alloc w (.cells #[.slice none 0 0, .slice none 0 0] 38)
    have hb1 : Below (w.alloc (.cells #[.slice none 0 0, .slice none 0 0] 38)).heap.size (w.alloc (.cells #[.slice none 0 0, .slice none 0 0] 38)) w1 := (Below.refl _ _).grown hgr (Nat.le_refl _) (by intro k hk; cases hk)
    have hx := (hb1.block w.heap.size (by simp)).trans (block_new w (.cells #[.slice none 0 0, .slice none 0 0] 38) _ rfl)
    have k0 := cells_cell (o := 0) hx rfl
    have k1 : w1.cell? ⟨w.heap.size, 1, none⟩ = some (.slice none 0 0) := cells_cell hx rfl
    have f0 := cells_free hx 0
    have f1 := cells_free hx 1
    have xl := lt_of_block hx
    have hx2 := cells_set (cells_set hx 0 (.slice (some ⟨w.heap.size + 1, 0, none⟩) c c)) 1 (.slice none 0 0)
    have hf := (fr_setCell w1 ⟨w.heap.size, 0, none⟩ (.slice (some ⟨w.heap.size + 1, 0, none⟩) c c)).trans' (fr_setCell _ ⟨w.heap.size, 1, none⟩ (.slice none 0 0))
    have HB := Lib.hid ((hb0.trans (hb1.mono (by simp))).trans (hf.below (B := w.heap.size) (fun x hx => by simp at hx; omega) (by omega)))
    have hne := hr.ne hx (by decide)
    have HR := Lib.hid (hr.fr hf (fun g hg => by simpa using hne g hg))
    have HX := Lib.hid hx2
    clear hown hgr hr hb0 hb1 hx hx2 hf hne
    go_wp2_with fail
    have hx2 := HX.out
    simp at hx2
    refine bodyPost_ret (v := .tuple #[rk (.slice (some ⟨w.heap.size + 1, 0, none⟩) c c) (.slice none 0 0), .int .i64 0]) (by simp [results, Tryz.results88, go_sem, rk, cells_cell (o := 0) hx2 rfl, cells_cell (o := 1) hx2 rfl]) rfl ⟨_, rfl, HR.out, HB.out⟩
  all_goals first | omega | (unfold maxLen; omega)

section
variable {w : World} {s r : Value} {S R : List Int}
set_option maxHeartbeats 800000 in
theorem refState_yes (hs : Src TI w s S) (hr : Src TI w r R) {i : Nat} (hi : i < S.length) (hl : S.length ≤ 64) : Calls Tryz.prog 56 #[rk s r, .int .i64 ((i : Nat) : Int)] w fun e w' => e = .returned (.tuple #[.int .i64 S[i], .int .i64 0]) ∧ Grn w w' := by
  obtain ⟨sa, sc, rfl, hs1, hs2⟩ := hs.form
  obtain ⟨ra, rc, rfl, hr1, hr2⟩ := hr.form
  obtain ⟨a, o1, c1, e1, _, _, l1, k1⟩ := Src.int (hs.grown (below_alloc w (.cells #[.slice sa S.length sc, .slice ra R.length rc] 38))) hi
  simp only [Value.slice.injEq] at e1
  obtain ⟨rfl, -, rfl⟩ := e1
  generalize S[i] = x at *
  generalize S.length = n at *
  generalize R.length = m at *
  have q1 : (0 : Int) ≤ (i : Int) := by omega
  have q2 : (i : Int) < (n : Int) := by omega
  have q3 : decide ((n : Int) ≤ (i : Int)) = false := decide_eq_false (by omega)
  have q4 : decide ((i : Int) < 0) = false := decide_eq_false (by omega)
  have q5 : decide (n ≤ i) = false := decide_eq_false (by omega)
  have q6 : ¬ n ≤ i := by omega
  have q7 : (i : Int) ≤ 64 := by omega
  clear hs hr hi hl
  unfold rk
  go_enter Tryz.func56, Tryz.ntmps56
  go_wp2_with fail
  go_ret2
  exact ⟨rfl, (Grn.refl w).alloc _⟩
set_option maxHeartbeats 800000 in
theorem refState_bad (hs : Src TI w s S) (hr : Src TI w r R) {N : Int} (hn : N < 0 ∨ ((S.length : Nat) : Int) ≤ N) (hl : S.length ≤ 64) : Calls Tryz.prog 56 #[rk s r, .int .i64 N] w fun e w' => e = .returned (.tuple #[.int .i64 0, .int .i64 2]) ∧ Grn w w' := by
  obtain ⟨sa, sc, rfl, hs1, hs2⟩ := hs.form
  obtain ⟨ra, rc, rfl, hr1, hr2⟩ := hr.form
  generalize S.length = n at *
  generalize R.length = m at *
  clear hs hr
  unfold rk
  by_cases h0 : N < 0
  · clear hn
    go_enter Tryz.func56, Tryz.ntmps56
    go_wp2_with fail
    go_ret2
    exact ⟨rfl, (Grn.refl w).alloc _⟩
  · have q1 : (n : Int) ≤ N := by omega
    have q2 : decide (N < 0) = false := decide_eq_false h0
    clear hn
    go_enter Tryz.func56, Tryz.ntmps56
    go_wp2_with fail
    go_ret2
    exact ⟨rfl, (Grn.refl w).alloc _⟩
end
end Go.Proofs.YtdbkbaealfcmoaaGreatDoor
/- The reference: without. -/
namespace Go.Proofs.YtdbkbaealfcmoaaGreatDoor
open Go.RowKit Go.Sort
set_option linter.unusedVariables false
set_option linter.unusedSimpArgs false

/-- A list without a number. -/
def woR (n : Int) (R : List Int) : List Int := R.filter fun x => decide (x ≠ n)
theorem woR_next {n : Int} {R : List Int} {k : Nat} (hk : k < R.length) : woR n (R.take (k + 1)) = woR n (R.take k) ++ if R[k] = n then [] else [R[k]] := by
  unfold woR
  rw [List.take_succ_eq_append_getElem hk, List.filter_append]
  congr 1
  by_cases h : R[k] = n
  · rw [if_pos h]; simp [h]
  · rw [if_neg h]; simp [h]
theorem woR_wo (n : Nat) (Q : Qu) : (wo n Q).map Prod.snd = woR ((n : Nat) : Int) (Q.map Prod.snd) := by
  unfold wo woR
  rw [List.filter_map]
  rfl

set_option maxRecDepth 100000 in
set_option maxHeartbeats 3200000 in
theorem refWithout_any {w : World} {r : Value} {R : List Int} (hr : Src TI w r R) (hl : R.length ≤ 1000) (n : Int) : Calls Tryz.prog 224 #[r, .int .i64 n] w fun e w' => ∃ v, e = .returned v ∧ Row TI w' w.heap.size v (woR n R) ∧ Below w.heap.size w w' := by
  obtain ⟨ra, rc, rfl, hr1, hr2⟩ := hr.form
  obtain ⟨M, hM⟩ : ∃ M, M = R.length := ⟨_, rfl⟩
  have HR := Lib.hid hr
  have HM := Lib.hid hM
  rw [← hM] at HR hl ⊢
  have hMI : ((M : Nat) : Int) ≤ 1000 := by omega
  clear hr hr1 hr2 hM
  go_enter Tryz.func224, Tryz.ntmps224
  go_wp2_with fail
  go_loopw [5, 6] (fun o i wr => ∃ (k : Nat), k ≤ M ∧ i = .int .i64 ((k : Nat) : Int) ∧ Hid (Row TI wr w.heap.size o (woR n (R.take k)) ∧ Below w.heap.size w wr)) (fun _ i _ => M - (intOf i).toNat)
  case atStart => exact ⟨0, Nat.zero_le _, rfl, Lib.hid ⟨Row.nil _ _, Below.refl _ _⟩⟩
  case round =>
    obtain ⟨k, hk, rfl, HD⟩ := hrel
    by_cases hlt : k < M
    · have hkR : k < R.length := by rw [← HM.out]; exact hlt
      have hnx := Lib.hid (woR_next (n := n) hkR)
      obtain ⟨a, o1, c1, e1, _, _, l1, k1⟩ := Src.int (HR.out.grown HD.out.2) hkR
      simp only [Value.slice.injEq] at e1
      obtain ⟨rfl, -, rfl⟩ := e1
      have q3 : (k : Int) < (M : Int) := by omega
      generalize R[k] = x at *
      by_cases hx : x = n
      · subst hx
        have HD2 : Hid (Row TI wr w.heap.size u5 (woR x (R.take (k + 1))) ∧ Below w.heap.size w wr) := Lib.hid ⟨by rw [hnx.out, if_pos rfl, List.append_nil]; exact HD.out.1, HD.out.2⟩
        clear HD hkR
        go_wp2_with fail
        go_roundw
        case rel => exact ⟨k + 1, by omega, by go_num, HD2⟩
        case measure => simp [intOf]; omega
      · have hx1 : (x != n) = true := by simpa using hx
        have hba := below_alloc wr (.cells #[.int .i64 x] 3)
        have hrow := Lib.hid (HD.out.1.below hba)
        have hlen : (woR n (R.take k)).length ≤ 1000 := Nat.le_trans (List.length_filter_le _ _) (by rw [List.length_take]; omega)
        have HL := Lib.hid hlen
        clear hkR hlen
        go_wp2_with (at_builtin; refine wpList_append_g TI_ok rfl (.tmp 19) (.tmp 24) rfl rfl rfl hrow.out (by have := HD.out.2.size; simp; omega) (src_new TI_ok wr x #[.int .i64 x] rfl) (by have := HL.out; simp; omega) ?_)
        intro v' w3 ho hf hnr
        have HD2 : Hid (Row TI w3 w.heap.size v' (woR n (R.take (k + 1))) ∧ Below w.heap.size w w3) := Lib.hid (by
          refine ⟨by rw [hnx.out, if_neg hx]; exact ho, ?_⟩
          have h1 := HD.out.2.trans (hba.mono HD.out.2.size)
          refine h1.trans (hf.below (fun y hy => ?_) h1.size)
          exact (hrow.out.lt y (by simpa using hy)).1)
        clear ho hf hnr hrow hba HD
        go_wp2_with fail
        go_roundw
        case rel => exact ⟨k + 1, by omega, by go_num, HD2⟩
        case measure => simp [intOf]; omega
    · obtain rfl : k = M := by omega
      have HD2 : Hid (Row TI wr w.heap.size u5 (woR n R) ∧ Below w.heap.size w wr) := Lib.hid (by
        have := HD.out
        rw [HM.out, List.take_length] at this
        exact this)
      clear HD HR
      go_wp2_with fail
      go_ret
      exact ⟨_, rfl, HD2.out⟩
end Go.Proofs.YtdbkbaealfcmoaaGreatDoor
/- The reference: change. -/
namespace Go.Proofs.YtdbkbaealfcmoaaGreatDoor
open Go.RowKit Go.Sort
set_option linter.unusedVariables false
set_option linter.unusedSimpArgs false

/-- The two blocks that a call of the reference begins with. -/
theorem two_blocks (w : World) (o0 o1 : Obj) : ∃ W, (w.alloc o0).alloc o1 = W ∧ Below w.heap.size w W ∧ W.heap.size = w.heap.size + 2 ∧ W.heap[w.heap.size]? = some o0 ∧ W.heap[w.heap.size + 1]? = some o1 :=
  ⟨_, rfl, (((Grn.refl w).alloc _).alloc _).below, by simp, ((below_alloc _ _).block _ (by simp)).trans (block_new _ _ _ rfl), block_new _ _ _ (by simp)⟩

section
variable {w : World} {s r : Value} {S R : List Int}
set_option maxRecDepth 100000 in
set_option maxHeartbeats 3200000 in
theorem refChange_bad (hs : Src TI w s S) (hr : Src TI w r R) {N : Int} (hn : N < 0 ∨ ((S.length : Nat) : Int) ≤ N) (hl : S.length ≤ 64) (fr tg : Int) : Calls Tryz.prog 196 #[rk s r, .int .i64 N, .int .i64 fr, .int .i64 tg] w fun e w' => e = .returned (.tuple #[rk s r, .int .i64 2]) ∧ Below w.heap.size w w' := by
  have h0 : ∀ W, Below w.heap.size w W → Calls Tryz.prog 56 #[rk s r, .int .i64 N] W fun e w' => e = .returned (.tuple #[.int .i64 0, .int .i64 2]) ∧ Grn W w' := fun W hb => refState_bad (hs.grown hb) (hr.grown hb) hn hl
  obtain ⟨sa, sc, rfl, -, -⟩ := hs.form
  obtain ⟨ra, rc, rfl, -, -⟩ := hr.form
  generalize S.length = n at *
  generalize R.length = m at *
  obtain ⟨W, hW, hb, hsz, hx, hy⟩ := two_blocks w (.cells #[.slice sa n sc, .slice ra m rc] 38) (.cells #[.slice none 0 0, .slice none 0 0] 38)
  have H0 := Lib.hid (h0 W hb)
  have k0 := cells_cell (o := 0) hx rfl
  have k1 : W.cell? ⟨w.heap.size, 1, none⟩ = some (.slice ra m rc) := cells_cell hx rfl
  have xl := lt_of_block hx
  have HB := Lib.hid hb
  have HX := Lib.hid hx
  have HY := Lib.hid hy
  have HW := Lib.hid hW
  clear hs hr hn h0 hW hb hx hy
  unfold rk at H0 ⊢
  go_enter Tryz.func196, Tryz.ntmps196
  go_wp2_with (go_at_call 56; fail)
  rw [HW.out]
  refine H0.out.mono ?_
  rintro e w2 ⟨rfl, hg⟩
  have hx2 := (hg.below.block _ (lt_of_block HX.out)).trans HX.out
  have hy2 := (hg.below.block _ (lt_of_block HY.out)).trans HY.out
  have k0 := cells_cell (o := 0) hx2 rfl
  have k1 : w2.cell? ⟨w.heap.size, 1, none⟩ = some (.slice ra m rc) := cells_cell hx2 rfl
  have y0 := cells_cell (o := 0) hy2 rfl
  have y1 : w2.cell? ⟨w.heap.size + 1, 1, none⟩ = some (.slice none 0 0) := cells_cell hy2 rfl
  have f0 := cells_free hy2 0
  have f1 := cells_free hy2 1
  have xl := lt_of_block hx2
  have yl := lt_of_block hy2
  have hf := (fr_setCell w2 ⟨w.heap.size + 1, 0, none⟩ (.slice sa n sc)).trans' (fr_setCell _ ⟨w.heap.size + 1, 1, none⟩ (.slice ra m rc))
  have HY2 := Lib.hid (cells_set (cells_set hy2 0 (.slice sa n sc)) 1 (.slice ra m rc))
  have hb2 := HB.out.trans (hg.below.mono HB.out.size)
  have HB2 := Lib.hid (hb2.trans (hf.below (fun x hx => by simp at hx; omega) hb2.size))
  clear hx2 hy2 hf hb2 hg H0 HX HY HW
  go_wp2_with fail
  have hy2 := HY2.out
  simp at hy2
  exact bodyPost_ret (v := .tuple #[.agg #[.slice sa n sc, .slice ra m rc], .int .i64 2]) (by simp [results, Tryz.results196, go_sem, cells_cell (o := 0) hy2 rfl, cells_cell (o := 1) hy2 rfl]) rfl ⟨rfl, HB2.out⟩

set_option maxRecDepth 100000 in
set_option maxHeartbeats 3200000 in
theorem refChange_state (hs : Src TI w s S) (hr : Src TI w r R) {i : Nat} (hi : i < S.length) (hl : S.length ≤ 64) {fr : Int} (hne : S[i] ≠ fr) (tg : Int) : Calls Tryz.prog 196 #[rk s r, .int .i64 ((i : Nat) : Int), .int .i64 fr, .int .i64 tg] w fun e w' => e = .returned (.tuple #[rk s r, .int .i64 8]) ∧ Below w.heap.size w w' := by
  have h0 : ∀ W, Below w.heap.size w W → Calls Tryz.prog 56 #[rk s r, .int .i64 ((i : Nat) : Int)] W fun e w' => e = .returned (.tuple #[.int .i64 S[i], .int .i64 0]) ∧ Grn W w' := fun W hb => refState_yes (hs.grown hb) (hr.grown hb) hi hl
  obtain ⟨sa, sc, rfl, -, -⟩ := hs.form
  obtain ⟨ra, rc, rfl, -, -⟩ := hr.form
  obtain ⟨x, hx⟩ : ∃ x, x = S[i] := ⟨_, rfl⟩
  rw [← hx] at h0 hne
  clear hx
  have e1 : (x != fr) = true := by simpa using hne
  generalize S.length = n at *
  generalize R.length = m at *
  obtain ⟨W, hW, hb, hsz, hx, hy⟩ := two_blocks w (.cells #[.slice sa n sc, .slice ra m rc] 38) (.cells #[.slice none 0 0, .slice none 0 0] 38)
  have H0 := Lib.hid (h0 W hb)
  have k0 := cells_cell (o := 0) hx rfl
  have k1 : W.cell? ⟨w.heap.size, 1, none⟩ = some (.slice ra m rc) := cells_cell hx rfl
  have xl := lt_of_block hx
  have HB := Lib.hid hb
  have HX := Lib.hid hx
  have HY := Lib.hid hy
  have HW := Lib.hid hW
  clear hs hr hne hi h0 hW hb hx hy
  unfold rk at H0 ⊢
  go_enter Tryz.func196, Tryz.ntmps196
  go_wp2_with (go_at_call 56; fail)
  rw [HW.out]
  refine H0.out.mono ?_
  rintro e w2 ⟨rfl, hg⟩
  have hx2 := (hg.below.block _ (lt_of_block HX.out)).trans HX.out
  have hy2 := (hg.below.block _ (lt_of_block HY.out)).trans HY.out
  have k0 := cells_cell (o := 0) hx2 rfl
  have k1 : w2.cell? ⟨w.heap.size, 1, none⟩ = some (.slice ra m rc) := cells_cell hx2 rfl
  have y0 := cells_cell (o := 0) hy2 rfl
  have y1 : w2.cell? ⟨w.heap.size + 1, 1, none⟩ = some (.slice none 0 0) := cells_cell hy2 rfl
  have f0 := cells_free hy2 0
  have f1 := cells_free hy2 1
  have xl := lt_of_block hx2
  have yl := lt_of_block hy2
  have hf := (fr_setCell w2 ⟨w.heap.size + 1, 0, none⟩ (.slice sa n sc)).trans' (fr_setCell _ ⟨w.heap.size + 1, 1, none⟩ (.slice ra m rc))
  have HY2 := Lib.hid (cells_set (cells_set hy2 0 (.slice sa n sc)) 1 (.slice ra m rc))
  have hb2 := HB.out.trans (hg.below.mono HB.out.size)
  have HB2 := Lib.hid (hb2.trans (hf.below (fun x hx => by simp at hx; omega) hb2.size))
  clear hx2 hy2 hf hb2 hg H0 HX HY HW
  go_wp2_with fail
  have hy2 := HY2.out
  simp at hy2
  exact bodyPost_ret (v := .tuple #[.agg #[.slice sa n sc, .slice ra m rc], .int .i64 8]) (by simp [results, Tryz.results196, go_sem, cells_cell (o := 0) hy2 rfl, cells_cell (o := 1) hy2 rfl]) rfl ⟨rfl, HB2.out⟩

set_option maxRecDepth 100000 in
set_option maxHeartbeats 3200000 in
theorem refChange_yes (hs : Src TI w s S) (hr : Src TI w r R) {i : Nat} (hi : i < S.length) (hl : S.length ≤ 64) (hm : R.length ≤ 900) (tg : Int) : Calls Tryz.prog 196 #[rk s r, .int .i64 ((i : Nat) : Int), .int .i64 S[i], .int .i64 tg] w fun e w' => ∃ s' r', e = .returned (.tuple #[rk s' r', .int .i64 0]) ∧ Row TI w' w.heap.size s' (S.set i tg) ∧ Row TI w' w.heap.size r' (woR ((i : Nat) : Int) R ++ if tg = 1 then [((i : Nat) : Int)] else []) ∧ Below w.heap.size w w' := by
  have h0 : ∀ W, Below w.heap.size w W → Calls Tryz.prog 56 #[rk s r, .int .i64 ((i : Nat) : Int)] W fun e w' => e = .returned (.tuple #[.int .i64 S[i], .int .i64 0]) ∧ Grn W w' := fun W hb => refState_yes (hs.grown hb) (hr.grown hb) hi hl
  obtain ⟨sa, sc, rfl, -, -⟩ := hs.form
  obtain ⟨ra, rc, rfl, -, -⟩ := hr.form
  obtain ⟨x, hx⟩ : ∃ x, x = S[i] := ⟨_, rfl⟩
  rw [← hx] at h0 ⊢
  clear hx
  obtain ⟨n, hn⟩ : ∃ n, n = S.length := ⟨_, rfl⟩
  obtain ⟨m, hm2⟩ : ∃ m, m = R.length := ⟨_, rfl⟩
  rw [← hn] at h0 hs ⊢
  rw [← hm2] at h0 hr ⊢
  have HS := Lib.hid hs
  have HR := Lib.hid hr
  have HN := Lib.hid (And.intro hn hm2)
  have HI := Lib.hid (And.intro hi (And.intro hl hm))
  obtain ⟨W, hW, hb, hsz, hx, hy⟩ := two_blocks w (.cells #[.slice sa n sc, .slice ra m rc] 38) (.cells #[.slice none 0 0, .slice none 0 0] 38)
  have H0 := Lib.hid (h0 W hb)
  have k0 := cells_cell (o := 0) hx rfl
  have k1 : W.cell? ⟨w.heap.size, 1, none⟩ = some (.slice ra m rc) := cells_cell hx rfl
  have xl := lt_of_block hx
  have HB := Lib.hid hb
  have HX := Lib.hid hx
  have HY := Lib.hid hy
  have HW := Lib.hid hW
  clear hs hr h0 hW hb hx hy hn hm2 hi hl hm
  unfold rk at H0 ⊢
  go_enter Tryz.func196, Tryz.ntmps196
  go_wp2_with (go_at_call 56; fail)
  rw [HW.out]
  refine H0.out.mono ?_
  rintro e w2 ⟨rfl, hg⟩
  have HX2 := Lib.hid ((hg.below.block _ (lt_of_block HX.out)).trans HX.out)
  have HY2 := Lib.hid ((hg.below.block _ (lt_of_block HY.out)).trans HY.out)
  have HB2 := Lib.hid (HB.out.trans (hg.below.mono HB.out.size))
  have k0 := cells_cell (o := 0) HX2.out rfl
  have k1 : w2.cell? ⟨w.heap.size, 1, none⟩ = some (.slice ra m rc) := cells_cell HX2.out rfl
  have xl := lt_of_block HX2.out
  clear hg H0 HX HY HW HB
  go_upto_region 6 with (fail)
  clear k0 k1 xl
  have hld : ∀ W', Below w2.heap.size w2 W' → W'.cell? ⟨w.heap.size, 0, none⟩ = some (.slice sa n sc) ∧ W'.cell? ⟨w.heap.size, 1, none⟩ = some (.slice ra m rc) ∧ w.heap.size < W'.heap.size := fun W' hb => by
    have e0 := (hb.block _ (lt_of_block HX2.out)).trans HX2.out
    exact ⟨cells_cell e0 rfl, cells_cell e0 rfl, lt_of_block e0⟩
  have HSZ : Hid (Below w2.heap.size w2 w2.drew) := Lib.hid (Below.refl _ _).drew
  refine wp_region_flags (fun W' => Below w2.heap.size w2 W') 9 [(true, 0), (true, 1), (true, 3), (true, 4), (true, 5)] [2, 6, 7, 8] [[], [0], [0, 1], []]
    (fun bs a V => ∃ X Y Z U : Value, a = { tmps := #[.agg #[.slice sa n sc, .slice ra m rc], .int .i64 ((i : Nat) : Int), .int .i64 x, .int .i64 tg, .pointer (some ⟨w.heap.size, 0, none⟩), undef, undef, undef, .pointer (some ⟨w.heap.size + 1, 0, none⟩), .int .i64 0, .int .i64 x, .int .i64 0, U, .tuple #[.int .i64 x, .int .i64 0], .agg #[.slice sa n sc, .slice ra m rc], .int .i64 ((i : Nat) : Int), .tuple #[.int .i64 x, .int .i64 0], .int .i64 x, .int .i64 0, .int .i64 0, .bool false, undef, undef, .int .i64 x, .int .i64 x, .bool false, undef, .pointer (some ⟨w.heap.size, 0, none⟩), .slice sa n sc, X, .pointer (some ⟨w.heap.size, 1, none⟩), .slice ra m rc, .int .i64 ((i : Nat) : Int), Y, Z, undef, undef, undef, undef, undef, undef, undef, undef, undef, undef, undef, undef, undef, undef], defers := [] } ∧ Below w2.heap.size w2 V ∧ (bs.getD 0 false = true → Row TI V w2.heap.size X S) ∧ (bs.getD 1 false = true → Row TI V w2.heap.size Y (woR ((i : Nat) : Int) R)) ∧ (bs.getD 2 false = true → Z = .agg #[X, Y]) ∧ (bs.getD 1 false = true → ∀ y, Y.ownBlock = some y → X.ownBlock ≠ some y) ∧
      (bs.getD 3 false = true → ∃ k, U = .pointer (some ⟨k, 0, none⟩) ∧ w2.heap.size ≤ k ∧ V.heap[k]? = some (.cells #[.slice none 0 0, .slice none 0 0] 38 (0, 0))))
    (by kernel_rfl) (by kernel_rfl) (by kernel_rfl) (by kernel_rfl) (by kernel_rfl) (fun _ _ _ d _ h => by cases d <;> exact h) ?hstep ?hend ?hbegin
  case hbegin =>
    simp only [List.map_cons, List.map_nil, List.getD_cons_zero, List.getD_cons_succ, List.drop_succ_cons, List.drop_zero]
    refine mix_take (.pointer (some ⟨w.heap.size, 0, none⟩)) HSZ.out rfl (fun W' hS => by go_simp) ?_
    simp only [Act.put, List.setIfInBounds_toArray, List.set_cons_zero, List.set_cons_succ]
    refine mix_take (.slice sa n sc) HSZ.out rfl (fun W' hS => by obtain ⟨l0, l1, l2⟩ := hld W' hS; go_simp) ?_
    simp only [Act.put, List.setIfInBounds_toArray, List.set_cons_zero, List.set_cons_succ]
    refine mix_take (.pointer (some ⟨w.heap.size, 1, none⟩)) HSZ.out rfl (fun W' hS => by go_simp) ?_
    simp only [Act.put, List.setIfInBounds_toArray, List.set_cons_zero, List.set_cons_succ]
    refine mix_take (.slice ra m rc) HSZ.out rfl (fun W' hS => by obtain ⟨l0, l1, l2⟩ := hld W' hS; go_simp) ?_
    simp only [Act.put, List.setIfInBounds_toArray, List.set_cons_zero, List.set_cons_succ]
    refine mix_move (.tmp 1) (.int .i64 ((i : Nat) : Int)) rfl HSZ.out rfl rfl ?_
    simp only [Act.put, List.setIfInBounds_toArray, List.set_cons_zero, List.set_cons_succ]
    refine mix_nil ?_
    exact ⟨undef, undef, undef, undef, rfl, HSZ.out, (fun h => by cases h), (fun h => by cases h), (fun h => by cases h), (fun h => by cases h), (fun h => by cases h)⟩
  case hstep =>
    intro bs j a V hbs hcl hj hpre hJ
    obtain ⟨X, Y, Z, U, rfl, hb, h0, h1, h2, h12, h3⟩ := hJ
    obtain ⟨b0, b1, b2, b3, rfl⟩ : ∃ b0 b1 b2 b3, bs = [b0, b1, b2, b3] := by
      match bs, hbs with
      | [b0, b1, b2, b3], _ => exact ⟨b0, b1, b2, b3, rfl⟩
    simp only [List.getD_cons_zero, List.getD_cons_succ] at h0 h1 h2 h12 h3
    have hcl2 : (b1 = true → b0 = true) ∧ (b2 = true → b0 = true ∧ b1 = true) := by
      revert hcl; cases b0 <;> cases b1 <;> cases b2 <;> cases b3 <;> decide
    clear hcl hbs
    match j, hj with
    | 0, hj =>
      simp at hj
      subst hj
      refine op_step rfl rfl (fun K hK => ?_)
      refine wp_append_g TI_ok (v := .slice none 0 0) (.const (.slice none 0 0)) (.tmp 28) rfl rfl rfl (Row.nil V w2.heap.size) hb.size ((HS.out.grown (HB2.out)).grown hb) (by have := HI.out; have := HN.out; simp; omega) ?_
      intro v' w3 ho hf hnr
      rw [List.nil_append] at ho
      have hb3 : Below V.heap.size V w3 := hf.below (fun x hx => by simp [Value.ownBlock] at hx) (Nat.le_refl _)
      refine hK _ _ ⟨hb.trans (hb3.mono hb.size), v', Y, Z, U, rfl, hb.trans (hb3.mono hb.size), (fun _ => ho), (fun h => ?_), (fun h => ?_), (fun h => ?_), (fun h => ?_)⟩
      · have := hcl2.1 h; simp at this
      · have := (hcl2.2 h).1; simp at this
      · have := hcl2.1 h; simp at this
      · obtain ⟨k, e, hk, hk2⟩ := h3 h
        exact ⟨k, e, hk, (hb3.block _ (lt_of_block hk2)).trans hk2⟩
    | 1, hj =>
      simp at hj
      subst hj
      have hb0 : b0 = true := by simpa using hpre
      refine op_step rfl rfl (fun K hK => ?_)
      go_simp
      go_wp2_with (go_at_call 224; fail)
      refine (refWithout_any ((HR.out.grown HB2.out).grown hb) (by have := HI.out; have := HN.out; omega) ((i : Nat) : Int)).mono ?_
      rintro e w3 ⟨v', rfl, ho, hb3⟩
      refine hK _ _ ⟨hb.trans (hb3.mono hb.size), X, v', Z, U, rfl, hb.trans (hb3.mono hb.size), (fun h => (h0 h).below hb3), (fun _ => ho.lower hb.size), (fun h => ?_), (fun _ y hy hx => ?_), (fun h => ?_)⟩
      · have := (hcl2.2 h).2; simp at this
      · have e1 := (ho.lt y hy).1
        have e2 := ((h0 hb0).lt y hx).2
        omega
      · obtain ⟨k, e, hk, hk2⟩ := h3 h
        exact ⟨k, e, hk, (hb3.block _ (lt_of_block hk2)).trans hk2⟩
    | 2, hj =>
      simp at hj
      subst hj
      have hb01 : b0 = true ∧ b1 = true := by simpa using hpre
      obtain ⟨x1, x2, x3, rfl⟩ := row_form (h0 hb01.1)
      obtain ⟨y1, y2, y3, rfl⟩ := row_form (h1 hb01.2)
      refine op_step rfl rfl (fun K hK => ?_)
      go_simp
      exact hK _ _ ⟨hb, _, _, _, U, rfl, hb, h0, h1, (fun _ => rfl), h12, h3⟩
    | 3, hj =>
      simp at hj
      subst hj
      refine op_step rfl rfl (fun K hK => ?_)
      go_simp
      have hba := below_alloc V (.cells #[.slice none 0 0, .slice none 0 0] 38)
      exact hK _ _ ⟨hb.trans (hba.mono hb.size), X, Y, Z, _, rfl, hb.trans (hba.mono hb.size), (fun h => (h0 h).below hba), (fun h => (h1 h).below hba), h2, h12, (fun _ => ⟨_, rfl, hb.size, block_new _ _ _ rfl⟩)⟩
    | j + 4, hj => simp at hj
  case hend =>
    rintro a V ⟨X, Y, Z, U, rfl, hb, h0, h1, h2, h12, h3⟩
    have h0 := h0 rfl
    have h1 := h1 rfl
    have h2 := h2 rfl
    have h12 := h12 rfl
    obtain ⟨k, rfl, hk, hk2⟩ := h3 rfl
    subst h2
    obtain ⟨g, xc, hX, hxc1, hxc2⟩ := row_some h0 (by have := HI.out; omega)
    subst hX
    obtain ⟨ya, yc, rfl, -, -⟩ := h1.form
    rw [← HN.out.1] at h0 hxc1 ⊢
    have hwl : (woR ((i : Nat) : Int) R).length ≤ 900 := Nat.le_trans (List.length_filter_le _ _) HI.out.2.2
    obtain ⟨q, hq⟩ : ∃ q, q = (woR ((i : Nat) : Int) R).length := ⟨_, rfl⟩
    rw [← hq] at h1 hwl ⊢
    have k0 := cells_cell (o := 0) hk2 rfl
    have k1 : V.cell? ⟨k, 1, none⟩ = some (.slice none 0 0) := cells_cell hk2 rfl
    have f0 := cells_free hk2 0
    have f1 := cells_free hk2 1
    have kl := lt_of_block hk2
    -- the result's block is filled
    have hfA := (fr_setCell V ⟨k, 0, none⟩ (.slice (some ⟨g, 0, none⟩) n xc)).trans' (fr_setCell _ ⟨k, 1, none⟩ (.slice ya q yc))
    have hkA := cells_set (cells_set hk2 0 (.slice (some ⟨g, 0, none⟩) n xc)) 1 (.slice ya q yc)
    have hneX := h0.ne hk2 (by decide)
    have hneY := h1.ne hk2 (by decide)
    have rX := h0.fr hfA (fun y hy => by simpa using hneX y hy)
    have rY := h1.fr hfA (fun y hy => by simpa using hneY y hy)
    have hbA := hb.trans (hfA.below (B := w2.heap.size) (fun y hy => by simp at hy; omega) hb.size)
    have HKA := Lib.hid hkA
    have HRX := Lib.hid rX
    have HRY := Lib.hid rY
    have HBA := Lib.hid hbA
    have HQ := Lib.hid hq
    have HWL := Lib.hid hwl
    have HK := Lib.hid hk
    have H12 : Hid (∀ y, (Value.slice ya q yc).ownBlock = some y → y ≠ g) := Lib.hid (fun y hy e => h12 y (by cases ya with | none => simp [Value.ownBlock] at hy | some a => simpa [Value.ownBlock] using hy) (by rw [e]; rfl))
    clear h12 hfA hkA hneX hneY rX rY hbA hq hwl hk hk2 h0 h1 h2 h3 hb hld
    simp only [List.drop_succ_cons, List.drop_zero]
    go_upto_region 7 with (fail)
    generalize (V.setCell ⟨k, 0, none⟩ (.slice (some ⟨g, 0, none⟩) n xc)).setCell ⟨k, 1, none⟩ (.slice ya q yc) = V1 at *
    have hy1 := (HBA.out.block _ (lt_of_block HY2.out)).trans HY2.out
    have hgk := HRX.out.ne HKA.out (by decide) g rfl
    have hgy := HRX.out.ne hy1 (by decide) g rfl
    have hYg : ∀ y, (Value.slice ya q yc).ownBlock = some y → y ∉ [g] := fun y hy hm => H12.out y hy (by simpa using hm)
    have hf2 := fr_setCell V1 ⟨g, i, none⟩ (.int .i64 tg)
    have hx2 : Row TI (V1.setCell ⟨g, i, none⟩ (.int .i64 tg)) w2.heap.size (.slice (some ⟨g, 0, none⟩) n xc) (S.set i tg) := by
      have h := HRX.out
      rw [HN.out.1] at h ⊢
      have := Row.set TI_ok h (j := i) (i := 0) (x := S[i]'HI.out.1) (y := tg) (u := .int .i64 tg) (List.getElem?_eq_getElem HI.out.1) (by decide) rfl
      simpa [TI] using this
    have hy2 := HRY.out.fr hf2 hYg
    have hk2 := hf2.same HKA.out (by simpa using fun e => hgk e.symm)
    have hz2 := hf2.same hy1 (by simpa using fun e => hgy e.symm)
    have hb2 := HBA.out.trans (hf2.below (B := w2.heap.size) (fun y hy => by simp at hy; rw [hy]; exact (HRX.out.lt g rfl).1) HBA.out.size)
    obtain ⟨ga, gc, hgv, _, gl, gf, gcell⟩ := HRX.out.at TI_ok (List.getElem?_eq_getElem HI.out.1)
    simp only [Value.slice.injEq, Option.some.injEq, Addr.mk.injEq] at hgv
    obtain ⟨⟨hga, -⟩, -, hgc⟩ := hgv
    subst hga hgc
    have c0 := gcell 0 _ rfl
    have c0 : V1.cell? ⟨g, i, none⟩ = some (.int .i64 (S[i]'HI.out.1)) := by simpa [TI] using c0
    have cf := gf i
    have kk0 := cells_cell (o := 0) HKA.out rfl
    have kk1 : V1.cell? ⟨k, 1, none⟩ = some (.slice ya q yc) := cells_cell HKA.out rfl
    have kl := lt_of_block HKA.out
    have qi : ((i : Nat) : Int) < ((n : Nat) : Int) := by have := HI.out.1; have := HN.out.1; omega
    have qn : ((n : Nat) : Int) ≤ 64 := by have := HI.out.2.1; have := HN.out.1; omega
    generalize S[i]'HI.out.1 = x0 at *
    have HX3 := Lib.hid hx2
    have HY3 := Lib.hid hy2
    have HK3 := Lib.hid hk2
    have HZ3 := Lib.hid hz2
    have HB3 := Lib.hid hb2
    clear hx2 hy2 hk2 hz2 hb2 hy1 hgk hgy hYg hf2 gcell HKA HRX HRY HBA k0 k1 f0 f1
    go_upto_region 8 with (fail)
    generalize V1.setCell ⟨g, i, none⟩ (.int .i64 tg) = V2 at *
    clear c0 cf kk0 kk1 kl gl gf
    have hsz2 : w.heap.size + 2 ≤ w2.heap.size := by have := lt_of_block HY2.out; omega
    have HSZ2 := Lib.hid hsz2
    clear hsz2
    by_cases ht : tg = 1
    · subst ht
      have kk0 := cells_cell (o := 0) HK3.out rfl
      have kk1 : V2.cell? ⟨k, 1, none⟩ = some (.slice ya q yc) := cells_cell HK3.out rfl
      have kl := lt_of_block HK3.out
      have hba := below_alloc V2 (.cells #[.int .i64 ((i : Nat) : Int)] 3)
      have HYA := Lib.hid (HY3.out.below hba)
      go_wp2_with (at_builtin; refine wpList_append_g TI_ok rfl (.tmp 43) (.tmp 45) rfl rfl rfl HYA.out (by have := HB3.out.size; simp; omega) (src_new TI_ok V2 ((i : Nat) : Int) #[.int .i64 ((i : Nat) : Int)] rfl) (by have := HWL.out; have := HQ.out; simp; omega) ?_)
      intro v' V3 ho hf hnr
      obtain ⟨v1, v2, v3, rfl⟩ := row_form ho
      have hkb := hf.same ((hba.block _ (lt_of_block HK3.out)).trans HK3.out) (fun hm => HYA.out.ne ((hba.block _ (lt_of_block HK3.out)).trans HK3.out) (by decide) k (by simpa using hm) rfl)
      have hzb := hf.same ((hba.block _ (lt_of_block HZ3.out)).trans HZ3.out) (fun hm => HYA.out.ne ((hba.block _ (lt_of_block HZ3.out)).trans HZ3.out) (by decide) _ (by simpa using hm) rfl)
      have hxb := (HX3.out.below hba).fr hf (fun y hy hm => by cases hy; exact H12.out g (by simpa using hm) rfl)
      have hbb := (HB3.out.trans (hba.mono HB3.out.size)).trans (hf.below (B := w2.heap.size) (fun y hy => (HYA.out.lt y (by simpa using hy)).1) (by have := HB3.out.size; simp; omega))
      have HO := Lib.hid ho
      have HKB := Lib.hid hkb
      have HZB := Lib.hid hzb
      have HXB := Lib.hid hxb
      have HBB := Lib.hid hbb
      clear ho hf hnr hkb hzb hxb hbb hba HYA HY3 HK3 HZ3 HX3 HB3 kk0 kk1 kl
      have kk0 := cells_cell (o := 0) HKB.out rfl
      have kk1 : V3.cell? ⟨k, 1, none⟩ = some (.slice ya q yc) := cells_cell HKB.out rfl
      have kf1 := cells_free HKB.out 1
      have kl := lt_of_block HKB.out
      have hfk := fr_setCell V3 ⟨k, 1, none⟩ (.slice v1 v2 v3)
      have hkz : k ≠ w.heap.size + 1 := by have := HK.out; have := HSZ2.out; omega
      have hneX := HXB.out.ne HKB.out (by decide)
      have hneO := HO.out.ne HKB.out (by decide)
      have HK5 := Lib.hid (cells_set HKB.out 1 (.slice v1 v2 v3))
      have HZ5 := Lib.hid (hfk.same HZB.out (by simpa using fun e => hkz e.symm))
      have HX5 := Lib.hid (HXB.out.fr hfk (fun y hy => by simpa using hneX y hy))
      have HO5 := Lib.hid (HO.out.fr hfk (fun y hy => by simpa using hneO y hy))
      have HB5 := Lib.hid (HBB.out.trans (hfk.below (B := w2.heap.size) (fun y hy => by have := HK.out; simp at hy; omega) HBB.out.size))
      clear hfk hneX hneO HKB HZB HXB HO HBB
      go_upto_region 10 with (fail)
      generalize V3.setCell ⟨k, 1, none⟩ (.slice v1 v2 v3) = V5 at *
      clear kk0 kk1 kf1 kl
      have kk0 := cells_cell (o := 0) HK5.out rfl
      have kk1 : V5.cell? ⟨k, 1, none⟩ = some (.slice v1 v2 v3) := cells_cell HK5.out rfl
      have kl := lt_of_block HK5.out
      have y0 := cells_cell (o := 0) HZ5.out rfl
      have y1 : V5.cell? ⟨w.heap.size + 1, 1, none⟩ = some (.slice none 0 0) := cells_cell HZ5.out rfl
      have z0 := cells_free HZ5.out 0
      have z1 := cells_free HZ5.out 1
      have zl := lt_of_block HZ5.out
      have hfz := (fr_setCell V5 ⟨w.heap.size + 1, 0, none⟩ (.slice (some ⟨g, 0, none⟩) n xc)).trans' (fr_setCell _ ⟨w.heap.size + 1, 1, none⟩ (.slice v1 v2 v3))
      have hz6 := cells_set (cells_set HZ5.out 0 (.slice (some ⟨g, 0, none⟩) n xc)) 1 (.slice v1 v2 v3)
      have hneX := HX5.out.ne HZ5.out (by decide)
      have hneO := HO5.out.ne HZ5.out (by decide)
      have HX6 := Lib.hid ((HX5.out.fr hfz (fun y hy => by simpa using hneX y hy)).lower HB2.out.size)
      have HO6 := Lib.hid ((HO5.out.fr hfz (fun y hy => by simpa using hneO y hy)).lower HB2.out.size)
      have hbw := HB2.out.trans (HB5.out.mono HB2.out.size)
      have HB6 := Lib.hid (hbw.trans (hfz.below (B := w.heap.size) (fun y hy => by simp at hy; omega) hbw.size))
      have HZ6 := Lib.hid hz6
      clear hfz hneX hneO hbw hz6
      go_wp2_with fail
      have hz6 := HZ6.out
      simp at hz6
      exact bodyPost_ret (v := .tuple #[.agg #[.slice (some ⟨g, 0, none⟩) n xc, .slice v1 v2 v3], .int .i64 0]) (by simp [results, Tryz.results196, go_sem, cells_cell (o := 0) hz6 rfl, cells_cell (o := 1) hz6 rfl]) rfl ⟨_, _, rfl, HX6.out, by first | exact HO6.out | (rw [if_pos rfl]; exact HO6.out), HB6.out⟩
    · have e1 : (tg == 1) = false := by simpa using ht
      have kk0 := cells_cell (o := 0) HK3.out rfl
      have kk1 : V2.cell? ⟨k, 1, none⟩ = some (.slice ya q yc) := cells_cell HK3.out rfl
      have kl := lt_of_block HK3.out
      have y0 := cells_cell (o := 0) HZ3.out rfl
      have y1 : V2.cell? ⟨w.heap.size + 1, 1, none⟩ = some (.slice none 0 0) := cells_cell HZ3.out rfl
      have z0 := cells_free HZ3.out 0
      have z1 := cells_free HZ3.out 1
      have zl := lt_of_block HZ3.out
      have hfz := (fr_setCell V2 ⟨w.heap.size + 1, 0, none⟩ (.slice (some ⟨g, 0, none⟩) n xc)).trans' (fr_setCell _ ⟨w.heap.size + 1, 1, none⟩ (.slice ya q yc))
      have hz6 := cells_set (cells_set HZ3.out 0 (.slice (some ⟨g, 0, none⟩) n xc)) 1 (.slice ya q yc)
      have hneX := HX3.out.ne HZ3.out (by decide)
      have hneO := HY3.out.ne HZ3.out (by decide)
      have HX6 := Lib.hid ((HX3.out.fr hfz (fun y hy => by simpa using hneX y hy)).lower HB2.out.size)
      have HO6 := Lib.hid ((HY3.out.fr hfz (fun y hy => by simpa using hneO y hy)).lower HB2.out.size)
      have hbw := HB2.out.trans (HB3.out.mono HB2.out.size)
      have HB6 := Lib.hid (hbw.trans (hfz.below (B := w.heap.size) (fun y hy => by simp at hy; omega) hbw.size))
      have HZ6 := Lib.hid hz6
      have HT := Lib.hid ht
      clear hfz hneX hneO hbw hz6 ht
      go_wp2_with fail
      have hz6 := HZ6.out
      simp at hz6
      exact bodyPost_ret (v := .tuple #[.agg #[.slice (some ⟨g, 0, none⟩) n xc, .slice ya q yc], .int .i64 0]) (by simp [results, Tryz.results196, go_sem, cells_cell (o := 0) hz6 rfl, cells_cell (o := 1) hz6 rfl]) rfl ⟨_, _, rfl, HX6.out, by first | (rw [if_neg HT.out, List.append_nil]; exact HO6.out) | exact HO6.out, HB6.out⟩
end
end Go.Proofs.YtdbkbaealfcmoaaGreatDoor
/- The reference's Start, Park, Wake, Finish, Turn; what a table and the reference answer, side by side. -/
namespace Go.Proofs.YtdbkbaealfcmoaaGreatDoor
open Go.RowKit Go.Sort
set_option linter.unusedVariables false
set_option linter.unusedSimpArgs false

/-- What the reference returns: a table with the states S and the run set R. -/
def RefAns (w : World) (b : Nat) (S R : List Int) (code : Int) (e : Ending) (w' : World) : Prop :=
  ∃ s' r', e = .returned (.tuple #[rk s' r', .int .i64 code]) ∧ Row TI w' b s' S ∧ Row TI w' b r' R ∧ Below w.heap.size w w'
def sts (P : Ks) : List Int := P.map fun p => p.s
def vls (Q : Qu) : List Int := Q.map Prod.snd
theorem sts_len (P : Ks) : (sts P).length = P.length := by simp [sts]
theorem sts_get {P : Ks} {i : Nat} {p : Ck} (hp : P[i]? = some p) (hi : i < (sts P).length) : (sts P)[i] = p.s := by
  obtain ⟨hl, he⟩ := List.getElem?_eq_some_iff.1 hp
  simp [sts, he]
theorem sts_step (P : Ks) (i : Nat) (tg : Int) (g : Nat) : sts (stepP P i tg g) = (sts P).set i tg := by simp [sts, stepP, List.map_set]
theorem vls_step (Q : Qu) (i : Nat) (tg : Int) (g : Nat) : vls (stepQ Q i tg g) = woR ((i : Nat) : Int) (vls Q) ++ if tg = 1 then [((i : Nat) : Int)] else [] := by
  unfold vls stepQ
  rw [List.map_append, woR_wo]
  split <;> rfl

theorem change_bad {w : World} {b : Nat} {s r : Value} {P : Ks} {Q : Qu} {N : Int} (hs : Row TI w b s (sts P)) (hr : Row TI w b r (vls Q)) (hn : NoI P N) (hl : P.length ≤ 64) (fr tg : Int) : Calls Tryz.prog 196 #[rk s r, .int .i64 N, .int .i64 fr, .int .i64 tg] w (RefAns w b (sts P) (vls Q) 2) := by
  refine (refChange_bad (hs.src TI_ok) (hr.src TI_ok) (by rw [sts_len]; exact hn) (by rw [sts_len]; exact hl) fr tg).mono ?_
  rintro e w' ⟨rfl, hb⟩
  exact ⟨s, r, rfl, hs.below hb, hr.below hb, hb⟩
theorem change_state {w : World} {b i : Nat} {s r : Value} {P : Ks} {Q : Qu} {p : Ck} {fr : Int} (hs : Row TI w b s (sts P)) (hr : Row TI w b r (vls Q)) (hp : P[i]? = some p) (hne : fr ≠ p.s) (hl : P.length ≤ 64) (tg : Int) : Calls Tryz.prog 196 #[rk s r, .int .i64 ((i : Nat) : Int), .int .i64 fr, .int .i64 tg] w (RefAns w b (sts P) (vls Q) 8) := by
  have hi : i < (sts P).length := by rw [sts_len]; exact (List.getElem?_eq_some_iff.1 hp).1
  refine (refChange_state (hs.src TI_ok) (hr.src TI_ok) hi (by rw [sts_len]; exact hl) (by rw [sts_get hp hi]; exact hne.symm) tg).mono ?_
  rintro e w' ⟨rfl, hb⟩
  exact ⟨s, r, rfl, hs.below hb, hr.below hb, hb⟩
theorem change_yes {w : World} {b i g : Nat} {s r : Value} {P : Ks} {Q : Qu} {p : Ck} {fr : Int} (hb : b ≤ w.heap.size) (hs : Row TI w b s (sts P)) (hr : Row TI w b r (vls Q)) (hp : P[i]? = some p) (he : p.s = fr) (hl : P.length ≤ 64) (hq : Q.length ≤ 900) (tg : Int) : Calls Tryz.prog 196 #[rk s r, .int .i64 ((i : Nat) : Int), .int .i64 fr, .int .i64 tg] w (RefAns w b (sts (stepP P i tg g)) (vls (stepQ Q i tg g)) 0) := by
  have hi : i < (sts P).length := by rw [sts_len]; exact (List.getElem?_eq_some_iff.1 hp).1
  have := refChange_yes (hs.src TI_ok) (hr.src TI_ok) hi (by rw [sts_len]; exact hl) (by simp [vls]; exact hq) tg
  rw [sts_get hp hi, he] at this
  refine this.mono ?_
  rintro e w' ⟨s', r', rfl, h1, h2, h3⟩
  exact ⟨s', r', rfl, by rw [sts_step]; exact h1.lower hb, by rw [vls_step]; exact h2.lower hb, h3⟩

set_option maxRecDepth 100000 in
set_option maxHeartbeats 1600000 in
theorem refStart_of {w : World} {b : Nat} {s r : Value} {S0 R0 S R : List Int} {N code : Int} (hb0 : b ≤ w.heap.size) (hs : Row TI w b s S0) (hr : Row TI w b r R0)
    (h : ∀ W, Below w.heap.size w W → Calls Tryz.prog 196 #[rk s r, .int .i64 N, .int .i64 0, .int .i64 1] W (RefAns W b S R code)) : Calls Tryz.prog 159 #[rk s r, .int .i64 N] w (RefAns w b S R code) := by
  obtain ⟨sa, sn, sc, rfl⟩ := row_form hs
  obtain ⟨ra, rn, rc, rfl⟩ := row_form hr
  obtain ⟨W, hW, hb, hsz, hx, hy⟩ := two_blocks w (.cells #[.slice sa sn sc, .slice ra rn rc] 38) (.cells #[.slice none 0 0, .slice none 0 0] 38)
  have H0 := Lib.hid (h W hb)
  have k0 := cells_cell (o := 0) hx rfl
  have k1 : W.cell? ⟨w.heap.size, 1, none⟩ = some (.slice ra rn rc) := cells_cell hx rfl
  have xl := lt_of_block hx
  have HB := Lib.hid hb
  have HB0 := Lib.hid hb0
  have HY := Lib.hid hy
  have HW := Lib.hid hW
  clear hs hr h hW hb hx hy hb0
  unfold rk at H0 ⊢
  go_enter Tryz.func159, Tryz.ntmps159
  go_wp2_with (go_at_call 196; fail)
  rw [HW.out]
  refine H0.out.mono ?_
  rintro e w2 ⟨s', r', rfl, h1, h2, h3⟩
  obtain ⟨xa, xn, xc, rfl⟩ := row_form h1
  obtain ⟨ya, yn, yc, rfl⟩ := row_form h2
  have hy2 := (h3.block _ (lt_of_block HY.out)).trans HY.out
  have y0 := cells_cell (o := 0) hy2 rfl
  have y1 : w2.cell? ⟨w.heap.size + 1, 1, none⟩ = some (.slice none 0 0) := cells_cell hy2 rfl
  have f0 := cells_free hy2 0
  have f1 := cells_free hy2 1
  have yl := lt_of_block hy2
  have hf := (fr_setCell w2 ⟨w.heap.size + 1, 0, none⟩ (.slice xa xn xc)).trans' (fr_setCell _ ⟨w.heap.size + 1, 1, none⟩ (.slice ya yn yc))
  have HY2 := Lib.hid (cells_set (cells_set hy2 0 (.slice xa xn xc)) 1 (.slice ya yn yc))
  have hb2 := HB.out.trans (h3.mono HB.out.size)
  have HB2 := Lib.hid (hb2.trans (hf.below (fun x hx => by simp at hx; omega) hb2.size))
  have n1 := h1.ne hy2 (by decide)
  have n2 := h2.ne hy2 (by decide)
  have H1 := Lib.hid (h1.fr hf (fun y hy => by simpa using n1 y hy))
  have H2 := Lib.hid (h2.fr hf (fun y hy => by simpa using n2 y hy))
  clear hy2 hf hb2 h1 h2 h3 n1 n2 H0 HY HW k0 k1 xl
  unfold rk
  go_wp2_with fail
  have hy2 := HY2.out
  simp at hy2
  exact bodyPost_ret (v := .tuple #[.agg #[.slice xa xn xc, .slice ya yn yc], .int .i64 code]) (by simp [results, Tryz.results159, go_sem, cells_cell (o := 0) hy2 rfl, cells_cell (o := 1) hy2 rfl]) rfl ⟨_, _, rfl, H1.out, H2.out, HB2.out⟩
theorem bothStart {P : Ks} {Q : Qu} {g : Nat} (hR : Rk P Q) (hl : P.length ≤ 64) (hg : g < 800) (hQ : Q.length ≤ g) (N : Int) : ∃ (code : Int) (P' : Ks) (Q' : Qu) (g' : Nat),
    (∀ B w l, KAt B w l P Q g → Calls Tryz.prog 135 #[.pointer (some ⟨l.t, 0, none⟩), .int .i64 N] w fun e w' => e = .returned (.int .i64 code) ∧ KAt B w' l P' Q' g' ∧ Fr l.F w w') ∧
    (∀ w b s r, b ≤ w.heap.size → Row TI w b s (sts P) → Row TI w b r (vls Q) → Calls Tryz.prog 159 #[rk s r, .int .i64 N] w (RefAns w b (sts P') (vls Q') code)) ∧
    Rk P' Q' ∧ g' ≤ g + 1 ∧ P'.length = P.length := by
  rcases noI_or P N with hn | ⟨i, rfl, hi⟩
  · refine ⟨2, P, Q, g, fun B w l hK => (tkStart_bad hK hn).mono ?_, fun w b s r hb hs hr => refStart_of hb hs hr (fun W hW => change_bad (hs.below hW) (hr.below hW) hn hl _ _), hR, by omega, rfl⟩
    rintro e w' ⟨rfl, rfl⟩
    exact ⟨rfl, hK, Fr.refl _ _⟩
  · have hp := List.getElem?_eq_getElem hi
    by_cases hs : (P[i]).s = frOf 0
    · refine ⟨0, stepP P i (tgOf 0) g, stepQ Q i (tgOf 0) g, stepG (tgOf 0) g, fun B w l hK => (tkStart_yes hK hR (by omega) hp hs).mono ?_, fun w b s r hb h1 h2 => refStart_of hb h1 h2 (fun W hW => change_yes (Nat.le_trans hb hW.size) (h1.below hW) (h2.below hW) hp hs hl (by omega) _), hR.step hp _ _, ?_, stepP_len _ _⟩
      · rintro e w' ⟨rfl, hd, hf⟩
        exact ⟨rfl, hd, hf⟩
      · unfold stepG; split <;> omega
    · refine ⟨8, P, Q, g, fun B w l hK => (tkStart_state hK hp (fun e => hs e.symm)).mono ?_, fun w b s r hb h1 h2 => refStart_of hb h1 h2 (fun W hW => change_state (h1.below hW) (h2.below hW) hp (fun e => hs e.symm) hl _), hR, by omega, rfl⟩
      rintro e w' ⟨rfl, hgr⟩
      exact ⟨rfl, hK.grown hgr.below, Fr.of_below hgr.below _⟩

set_option maxRecDepth 100000 in
set_option maxHeartbeats 1600000 in
theorem refPark_of {w : World} {b : Nat} {s r : Value} {S0 R0 S R : List Int} {N code : Int} (hb0 : b ≤ w.heap.size) (hs : Row TI w b s S0) (hr : Row TI w b r R0)
    (h : ∀ W, Below w.heap.size w W → Calls Tryz.prog 196 #[rk s r, .int .i64 N, .int .i64 1, .int .i64 2] W (RefAns W b S R code)) : Calls Tryz.prog 154 #[rk s r, .int .i64 N] w (RefAns w b S R code) := by
  obtain ⟨sa, sn, sc, rfl⟩ := row_form hs
  obtain ⟨ra, rn, rc, rfl⟩ := row_form hr
  obtain ⟨W, hW, hb, hsz, hx, hy⟩ := two_blocks w (.cells #[.slice sa sn sc, .slice ra rn rc] 38) (.cells #[.slice none 0 0, .slice none 0 0] 38)
  have H0 := Lib.hid (h W hb)
  have k0 := cells_cell (o := 0) hx rfl
  have k1 : W.cell? ⟨w.heap.size, 1, none⟩ = some (.slice ra rn rc) := cells_cell hx rfl
  have xl := lt_of_block hx
  have HB := Lib.hid hb
  have HB0 := Lib.hid hb0
  have HY := Lib.hid hy
  have HW := Lib.hid hW
  clear hs hr h hW hb hx hy hb0
  unfold rk at H0 ⊢
  go_enter Tryz.func154, Tryz.ntmps154
  go_wp2_with (go_at_call 196; fail)
  rw [HW.out]
  refine H0.out.mono ?_
  rintro e w2 ⟨s', r', rfl, h1, h2, h3⟩
  obtain ⟨xa, xn, xc, rfl⟩ := row_form h1
  obtain ⟨ya, yn, yc, rfl⟩ := row_form h2
  have hy2 := (h3.block _ (lt_of_block HY.out)).trans HY.out
  have y0 := cells_cell (o := 0) hy2 rfl
  have y1 : w2.cell? ⟨w.heap.size + 1, 1, none⟩ = some (.slice none 0 0) := cells_cell hy2 rfl
  have f0 := cells_free hy2 0
  have f1 := cells_free hy2 1
  have yl := lt_of_block hy2
  have hf := (fr_setCell w2 ⟨w.heap.size + 1, 0, none⟩ (.slice xa xn xc)).trans' (fr_setCell _ ⟨w.heap.size + 1, 1, none⟩ (.slice ya yn yc))
  have HY2 := Lib.hid (cells_set (cells_set hy2 0 (.slice xa xn xc)) 1 (.slice ya yn yc))
  have hb2 := HB.out.trans (h3.mono HB.out.size)
  have HB2 := Lib.hid (hb2.trans (hf.below (fun x hx => by simp at hx; omega) hb2.size))
  have n1 := h1.ne hy2 (by decide)
  have n2 := h2.ne hy2 (by decide)
  have H1 := Lib.hid (h1.fr hf (fun y hy => by simpa using n1 y hy))
  have H2 := Lib.hid (h2.fr hf (fun y hy => by simpa using n2 y hy))
  clear hy2 hf hb2 h1 h2 h3 n1 n2 H0 HY HW k0 k1 xl
  unfold rk
  go_wp2_with fail
  have hy2 := HY2.out
  simp at hy2
  exact bodyPost_ret (v := .tuple #[.agg #[.slice xa xn xc, .slice ya yn yc], .int .i64 code]) (by simp [results, Tryz.results154, go_sem, cells_cell (o := 0) hy2 rfl, cells_cell (o := 1) hy2 rfl]) rfl ⟨_, _, rfl, H1.out, H2.out, HB2.out⟩
theorem bothPark {P : Ks} {Q : Qu} {g : Nat} (hR : Rk P Q) (hl : P.length ≤ 64) (hg : g < 800) (hQ : Q.length ≤ g) (N : Int) : ∃ (code : Int) (P' : Ks) (Q' : Qu) (g' : Nat),
    (∀ B w l, KAt B w l P Q g → Calls Tryz.prog 132 #[.pointer (some ⟨l.t, 0, none⟩), .int .i64 N] w fun e w' => e = .returned (.int .i64 code) ∧ KAt B w' l P' Q' g' ∧ Fr l.F w w') ∧
    (∀ w b s r, b ≤ w.heap.size → Row TI w b s (sts P) → Row TI w b r (vls Q) → Calls Tryz.prog 154 #[rk s r, .int .i64 N] w (RefAns w b (sts P') (vls Q') code)) ∧
    Rk P' Q' ∧ g' ≤ g + 1 ∧ P'.length = P.length := by
  rcases noI_or P N with hn | ⟨i, rfl, hi⟩
  · refine ⟨2, P, Q, g, fun B w l hK => (tkPark_bad hK hn).mono ?_, fun w b s r hb hs hr => refPark_of hb hs hr (fun W hW => change_bad (hs.below hW) (hr.below hW) hn hl _ _), hR, by omega, rfl⟩
    rintro e w' ⟨rfl, rfl⟩
    exact ⟨rfl, hK, Fr.refl _ _⟩
  · have hp := List.getElem?_eq_getElem hi
    by_cases hs : (P[i]).s = frOf 1
    · refine ⟨0, stepP P i (tgOf 1) g, stepQ Q i (tgOf 1) g, stepG (tgOf 1) g, fun B w l hK => (tkPark_yes hK hR (by omega) hp hs).mono ?_, fun w b s r hb h1 h2 => refPark_of hb h1 h2 (fun W hW => change_yes (Nat.le_trans hb hW.size) (h1.below hW) (h2.below hW) hp hs hl (by omega) _), hR.step hp _ _, ?_, stepP_len _ _⟩
      · rintro e w' ⟨rfl, hd, hf⟩
        exact ⟨rfl, hd, hf⟩
      · unfold stepG; split <;> omega
    · refine ⟨8, P, Q, g, fun B w l hK => (tkPark_state hK hp (fun e => hs e.symm)).mono ?_, fun w b s r hb h1 h2 => refPark_of hb h1 h2 (fun W hW => change_state (h1.below hW) (h2.below hW) hp (fun e => hs e.symm) hl _), hR, by omega, rfl⟩
      rintro e w' ⟨rfl, hgr⟩
      exact ⟨rfl, hK.grown hgr.below, Fr.of_below hgr.below _⟩

set_option maxRecDepth 100000 in
set_option maxHeartbeats 1600000 in
theorem refWake_of {w : World} {b : Nat} {s r : Value} {S0 R0 S R : List Int} {N code : Int} (hb0 : b ≤ w.heap.size) (hs : Row TI w b s S0) (hr : Row TI w b r R0)
    (h : ∀ W, Below w.heap.size w W → Calls Tryz.prog 196 #[rk s r, .int .i64 N, .int .i64 2, .int .i64 1] W (RefAns W b S R code)) : Calls Tryz.prog 197 #[rk s r, .int .i64 N] w (RefAns w b S R code) := by
  obtain ⟨sa, sn, sc, rfl⟩ := row_form hs
  obtain ⟨ra, rn, rc, rfl⟩ := row_form hr
  obtain ⟨W, hW, hb, hsz, hx, hy⟩ := two_blocks w (.cells #[.slice sa sn sc, .slice ra rn rc] 38) (.cells #[.slice none 0 0, .slice none 0 0] 38)
  have H0 := Lib.hid (h W hb)
  have k0 := cells_cell (o := 0) hx rfl
  have k1 : W.cell? ⟨w.heap.size, 1, none⟩ = some (.slice ra rn rc) := cells_cell hx rfl
  have xl := lt_of_block hx
  have HB := Lib.hid hb
  have HB0 := Lib.hid hb0
  have HY := Lib.hid hy
  have HW := Lib.hid hW
  clear hs hr h hW hb hx hy hb0
  unfold rk at H0 ⊢
  go_enter Tryz.func197, Tryz.ntmps197
  go_wp2_with (go_at_call 196; fail)
  rw [HW.out]
  refine H0.out.mono ?_
  rintro e w2 ⟨s', r', rfl, h1, h2, h3⟩
  obtain ⟨xa, xn, xc, rfl⟩ := row_form h1
  obtain ⟨ya, yn, yc, rfl⟩ := row_form h2
  have hy2 := (h3.block _ (lt_of_block HY.out)).trans HY.out
  have y0 := cells_cell (o := 0) hy2 rfl
  have y1 : w2.cell? ⟨w.heap.size + 1, 1, none⟩ = some (.slice none 0 0) := cells_cell hy2 rfl
  have f0 := cells_free hy2 0
  have f1 := cells_free hy2 1
  have yl := lt_of_block hy2
  have hf := (fr_setCell w2 ⟨w.heap.size + 1, 0, none⟩ (.slice xa xn xc)).trans' (fr_setCell _ ⟨w.heap.size + 1, 1, none⟩ (.slice ya yn yc))
  have HY2 := Lib.hid (cells_set (cells_set hy2 0 (.slice xa xn xc)) 1 (.slice ya yn yc))
  have hb2 := HB.out.trans (h3.mono HB.out.size)
  have HB2 := Lib.hid (hb2.trans (hf.below (fun x hx => by simp at hx; omega) hb2.size))
  have n1 := h1.ne hy2 (by decide)
  have n2 := h2.ne hy2 (by decide)
  have H1 := Lib.hid (h1.fr hf (fun y hy => by simpa using n1 y hy))
  have H2 := Lib.hid (h2.fr hf (fun y hy => by simpa using n2 y hy))
  clear hy2 hf hb2 h1 h2 h3 n1 n2 H0 HY HW k0 k1 xl
  unfold rk
  go_wp2_with fail
  have hy2 := HY2.out
  simp at hy2
  exact bodyPost_ret (v := .tuple #[.agg #[.slice xa xn xc, .slice ya yn yc], .int .i64 code]) (by simp [results, Tryz.results197, go_sem, cells_cell (o := 0) hy2 rfl, cells_cell (o := 1) hy2 rfl]) rfl ⟨_, _, rfl, H1.out, H2.out, HB2.out⟩
theorem bothWake {P : Ks} {Q : Qu} {g : Nat} (hR : Rk P Q) (hl : P.length ≤ 64) (hg : g < 800) (hQ : Q.length ≤ g) (N : Int) : ∃ (code : Int) (P' : Ks) (Q' : Qu) (g' : Nat),
    (∀ B w l, KAt B w l P Q g → Calls Tryz.prog 173 #[.pointer (some ⟨l.t, 0, none⟩), .int .i64 N] w fun e w' => e = .returned (.int .i64 code) ∧ KAt B w' l P' Q' g' ∧ Fr l.F w w') ∧
    (∀ w b s r, b ≤ w.heap.size → Row TI w b s (sts P) → Row TI w b r (vls Q) → Calls Tryz.prog 197 #[rk s r, .int .i64 N] w (RefAns w b (sts P') (vls Q') code)) ∧
    Rk P' Q' ∧ g' ≤ g + 1 ∧ P'.length = P.length := by
  rcases noI_or P N with hn | ⟨i, rfl, hi⟩
  · refine ⟨2, P, Q, g, fun B w l hK => (tkWake_bad hK hn).mono ?_, fun w b s r hb hs hr => refWake_of hb hs hr (fun W hW => change_bad (hs.below hW) (hr.below hW) hn hl _ _), hR, by omega, rfl⟩
    rintro e w' ⟨rfl, rfl⟩
    exact ⟨rfl, hK, Fr.refl _ _⟩
  · have hp := List.getElem?_eq_getElem hi
    by_cases hs : (P[i]).s = frOf 2
    · refine ⟨0, stepP P i (tgOf 2) g, stepQ Q i (tgOf 2) g, stepG (tgOf 2) g, fun B w l hK => (tkWake_yes hK hR (by omega) hp hs).mono ?_, fun w b s r hb h1 h2 => refWake_of hb h1 h2 (fun W hW => change_yes (Nat.le_trans hb hW.size) (h1.below hW) (h2.below hW) hp hs hl (by omega) _), hR.step hp _ _, ?_, stepP_len _ _⟩
      · rintro e w' ⟨rfl, hd, hf⟩
        exact ⟨rfl, hd, hf⟩
      · unfold stepG; split <;> omega
    · refine ⟨8, P, Q, g, fun B w l hK => (tkWake_state hK hp (fun e => hs e.symm)).mono ?_, fun w b s r hb h1 h2 => refWake_of hb h1 h2 (fun W hW => change_state (h1.below hW) (h2.below hW) hp (fun e => hs e.symm) hl _), hR, by omega, rfl⟩
      rintro e w' ⟨rfl, hgr⟩
      exact ⟨rfl, hK.grown hgr.below, Fr.of_below hgr.below _⟩

set_option maxRecDepth 100000 in
set_option maxHeartbeats 1600000 in
theorem refFinish_of {w : World} {b : Nat} {s r : Value} {S0 R0 S R : List Int} {N code : Int} (hb0 : b ≤ w.heap.size) (hs : Row TI w b s S0) (hr : Row TI w b r R0)
    (h : ∀ W, Below w.heap.size w W → Calls Tryz.prog 196 #[rk s r, .int .i64 N, .int .i64 1, .int .i64 0] W (RefAns W b S R code)) : Calls Tryz.prog 160 #[rk s r, .int .i64 N] w (RefAns w b S R code) := by
  obtain ⟨sa, sn, sc, rfl⟩ := row_form hs
  obtain ⟨ra, rn, rc, rfl⟩ := row_form hr
  obtain ⟨W, hW, hb, hsz, hx, hy⟩ := two_blocks w (.cells #[.slice sa sn sc, .slice ra rn rc] 38) (.cells #[.slice none 0 0, .slice none 0 0] 38)
  have H0 := Lib.hid (h W hb)
  have k0 := cells_cell (o := 0) hx rfl
  have k1 : W.cell? ⟨w.heap.size, 1, none⟩ = some (.slice ra rn rc) := cells_cell hx rfl
  have xl := lt_of_block hx
  have HB := Lib.hid hb
  have HB0 := Lib.hid hb0
  have HY := Lib.hid hy
  have HW := Lib.hid hW
  clear hs hr h hW hb hx hy hb0
  unfold rk at H0 ⊢
  go_enter Tryz.func160, Tryz.ntmps160
  go_wp2_with (go_at_call 196; fail)
  rw [HW.out]
  refine H0.out.mono ?_
  rintro e w2 ⟨s', r', rfl, h1, h2, h3⟩
  obtain ⟨xa, xn, xc, rfl⟩ := row_form h1
  obtain ⟨ya, yn, yc, rfl⟩ := row_form h2
  have hy2 := (h3.block _ (lt_of_block HY.out)).trans HY.out
  have y0 := cells_cell (o := 0) hy2 rfl
  have y1 : w2.cell? ⟨w.heap.size + 1, 1, none⟩ = some (.slice none 0 0) := cells_cell hy2 rfl
  have f0 := cells_free hy2 0
  have f1 := cells_free hy2 1
  have yl := lt_of_block hy2
  have hf := (fr_setCell w2 ⟨w.heap.size + 1, 0, none⟩ (.slice xa xn xc)).trans' (fr_setCell _ ⟨w.heap.size + 1, 1, none⟩ (.slice ya yn yc))
  have HY2 := Lib.hid (cells_set (cells_set hy2 0 (.slice xa xn xc)) 1 (.slice ya yn yc))
  have hb2 := HB.out.trans (h3.mono HB.out.size)
  have HB2 := Lib.hid (hb2.trans (hf.below (fun x hx => by simp at hx; omega) hb2.size))
  have n1 := h1.ne hy2 (by decide)
  have n2 := h2.ne hy2 (by decide)
  have H1 := Lib.hid (h1.fr hf (fun y hy => by simpa using n1 y hy))
  have H2 := Lib.hid (h2.fr hf (fun y hy => by simpa using n2 y hy))
  clear hy2 hf hb2 h1 h2 h3 n1 n2 H0 HY HW k0 k1 xl
  unfold rk
  go_wp2_with fail
  have hy2 := HY2.out
  simp at hy2
  exact bodyPost_ret (v := .tuple #[.agg #[.slice xa xn xc, .slice ya yn yc], .int .i64 code]) (by simp [results, Tryz.results160, go_sem, cells_cell (o := 0) hy2 rfl, cells_cell (o := 1) hy2 rfl]) rfl ⟨_, _, rfl, H1.out, H2.out, HB2.out⟩
theorem bothFinish {P : Ks} {Q : Qu} {g : Nat} (hR : Rk P Q) (hl : P.length ≤ 64) (hg : g < 800) (hQ : Q.length ≤ g) (N : Int) : ∃ (code : Int) (P' : Ks) (Q' : Qu) (g' : Nat),
    (∀ B w l, KAt B w l P Q g → Calls Tryz.prog 136 #[.pointer (some ⟨l.t, 0, none⟩), .int .i64 N] w fun e w' => e = .returned (.int .i64 code) ∧ KAt B w' l P' Q' g' ∧ Fr l.F w w') ∧
    (∀ w b s r, b ≤ w.heap.size → Row TI w b s (sts P) → Row TI w b r (vls Q) → Calls Tryz.prog 160 #[rk s r, .int .i64 N] w (RefAns w b (sts P') (vls Q') code)) ∧
    Rk P' Q' ∧ g' ≤ g + 1 ∧ P'.length = P.length := by
  rcases noI_or P N with hn | ⟨i, rfl, hi⟩
  · refine ⟨2, P, Q, g, fun B w l hK => (tkFinish_bad hK hn).mono ?_, fun w b s r hb hs hr => refFinish_of hb hs hr (fun W hW => change_bad (hs.below hW) (hr.below hW) hn hl _ _), hR, by omega, rfl⟩
    rintro e w' ⟨rfl, rfl⟩
    exact ⟨rfl, hK, Fr.refl _ _⟩
  · have hp := List.getElem?_eq_getElem hi
    by_cases hs : (P[i]).s = frOf 3
    · refine ⟨0, stepP P i (tgOf 3) g, stepQ Q i (tgOf 3) g, stepG (tgOf 3) g, fun B w l hK => (tkFinish_yes hK hR (by omega) hp hs).mono ?_, fun w b s r hb h1 h2 => refFinish_of hb h1 h2 (fun W hW => change_yes (Nat.le_trans hb hW.size) (h1.below hW) (h2.below hW) hp hs hl (by omega) _), hR.step hp _ _, ?_, stepP_len _ _⟩
      · rintro e w' ⟨rfl, hd, hf⟩
        exact ⟨rfl, hd, hf⟩
      · unfold stepG; split <;> omega
    · refine ⟨8, P, Q, g, fun B w l hK => (tkFinish_state hK hp (fun e => hs e.symm)).mono ?_, fun w b s r hb h1 h2 => refFinish_of hb h1 h2 (fun W hW => change_state (h1.below hW) (h2.below hW) hp (fun e => hs e.symm) hl _), hR, by omega, rfl⟩
      rintro e w' ⟨rfl, hgr⟩
      exact ⟨rfl, hK.grown hgr.below, Fr.of_below hgr.below _⟩

set_option maxRecDepth 100000 in
set_option maxHeartbeats 1600000 in
theorem refTurn_of {w : World} {b : Nat} {s r : Value} {S0 R0 S R : List Int} {N code : Int} (hb0 : b ≤ w.heap.size) (hs : Row TI w b s S0) (hr : Row TI w b r R0)
    (h : ∀ W, Below w.heap.size w W → Calls Tryz.prog 196 #[rk s r, .int .i64 N, .int .i64 1, .int .i64 1] W (RefAns W b S R code)) : Calls Tryz.prog 161 #[rk s r, .int .i64 N] w (RefAns w b S R code) := by
  obtain ⟨sa, sn, sc, rfl⟩ := row_form hs
  obtain ⟨ra, rn, rc, rfl⟩ := row_form hr
  obtain ⟨W, hW, hb, hsz, hx, hy⟩ := two_blocks w (.cells #[.slice sa sn sc, .slice ra rn rc] 38) (.cells #[.slice none 0 0, .slice none 0 0] 38)
  have H0 := Lib.hid (h W hb)
  have k0 := cells_cell (o := 0) hx rfl
  have k1 : W.cell? ⟨w.heap.size, 1, none⟩ = some (.slice ra rn rc) := cells_cell hx rfl
  have xl := lt_of_block hx
  have HB := Lib.hid hb
  have HB0 := Lib.hid hb0
  have HY := Lib.hid hy
  have HW := Lib.hid hW
  clear hs hr h hW hb hx hy hb0
  unfold rk at H0 ⊢
  go_enter Tryz.func161, Tryz.ntmps161
  go_wp2_with (go_at_call 196; fail)
  rw [HW.out]
  refine H0.out.mono ?_
  rintro e w2 ⟨s', r', rfl, h1, h2, h3⟩
  obtain ⟨xa, xn, xc, rfl⟩ := row_form h1
  obtain ⟨ya, yn, yc, rfl⟩ := row_form h2
  have hy2 := (h3.block _ (lt_of_block HY.out)).trans HY.out
  have y0 := cells_cell (o := 0) hy2 rfl
  have y1 : w2.cell? ⟨w.heap.size + 1, 1, none⟩ = some (.slice none 0 0) := cells_cell hy2 rfl
  have f0 := cells_free hy2 0
  have f1 := cells_free hy2 1
  have yl := lt_of_block hy2
  have hf := (fr_setCell w2 ⟨w.heap.size + 1, 0, none⟩ (.slice xa xn xc)).trans' (fr_setCell _ ⟨w.heap.size + 1, 1, none⟩ (.slice ya yn yc))
  have HY2 := Lib.hid (cells_set (cells_set hy2 0 (.slice xa xn xc)) 1 (.slice ya yn yc))
  have hb2 := HB.out.trans (h3.mono HB.out.size)
  have HB2 := Lib.hid (hb2.trans (hf.below (fun x hx => by simp at hx; omega) hb2.size))
  have n1 := h1.ne hy2 (by decide)
  have n2 := h2.ne hy2 (by decide)
  have H1 := Lib.hid (h1.fr hf (fun y hy => by simpa using n1 y hy))
  have H2 := Lib.hid (h2.fr hf (fun y hy => by simpa using n2 y hy))
  clear hy2 hf hb2 h1 h2 h3 n1 n2 H0 HY HW k0 k1 xl
  unfold rk
  go_wp2_with fail
  have hy2 := HY2.out
  simp at hy2
  exact bodyPost_ret (v := .tuple #[.agg #[.slice xa xn xc, .slice ya yn yc], .int .i64 code]) (by simp [results, Tryz.results161, go_sem, cells_cell (o := 0) hy2 rfl, cells_cell (o := 1) hy2 rfl]) rfl ⟨_, _, rfl, H1.out, H2.out, HB2.out⟩
theorem bothTurn {P : Ks} {Q : Qu} {g : Nat} (hR : Rk P Q) (hl : P.length ≤ 64) (hg : g < 800) (hQ : Q.length ≤ g) (N : Int) : ∃ (code : Int) (P' : Ks) (Q' : Qu) (g' : Nat),
    (∀ B w l, KAt B w l P Q g → Calls Tryz.prog 137 #[.pointer (some ⟨l.t, 0, none⟩), .int .i64 N] w fun e w' => e = .returned (.int .i64 code) ∧ KAt B w' l P' Q' g' ∧ Fr l.F w w') ∧
    (∀ w b s r, b ≤ w.heap.size → Row TI w b s (sts P) → Row TI w b r (vls Q) → Calls Tryz.prog 161 #[rk s r, .int .i64 N] w (RefAns w b (sts P') (vls Q') code)) ∧
    Rk P' Q' ∧ g' ≤ g + 1 ∧ P'.length = P.length := by
  rcases noI_or P N with hn | ⟨i, rfl, hi⟩
  · refine ⟨2, P, Q, g, fun B w l hK => (tkTurn_bad hK hn).mono ?_, fun w b s r hb hs hr => refTurn_of hb hs hr (fun W hW => change_bad (hs.below hW) (hr.below hW) hn hl _ _), hR, by omega, rfl⟩
    rintro e w' ⟨rfl, rfl⟩
    exact ⟨rfl, hK, Fr.refl _ _⟩
  · have hp := List.getElem?_eq_getElem hi
    by_cases hs : (P[i]).s = frOf 4
    · refine ⟨0, stepP P i (tgOf 4) g, stepQ Q i (tgOf 4) g, stepG (tgOf 4) g, fun B w l hK => (tkTurn_yes hK hR (by omega) hp hs).mono ?_, fun w b s r hb h1 h2 => refTurn_of hb h1 h2 (fun W hW => change_yes (Nat.le_trans hb hW.size) (h1.below hW) (h2.below hW) hp hs hl (by omega) _), hR.step hp _ _, ?_, stepP_len _ _⟩
      · rintro e w' ⟨rfl, hd, hf⟩
        exact ⟨rfl, hd, hf⟩
      · unfold stepG; split <;> omega
    · refine ⟨8, P, Q, g, fun B w l hK => (tkTurn_state hK hp (fun e => hs e.symm)).mono ?_, fun w b s r hb h1 h2 => refTurn_of hb h1 h2 (fun W hW => change_state (h1.below hW) (h2.below hW) hp (fun e => hs e.symm) hl _), hR, by omega, rfl⟩
      rintro e w' ⟨rfl, hgr⟩
      exact ⟨rfl, hK.grown hgr.below, Fr.of_below hgr.below _⟩
end Go.Proofs.YtdbkbaealfcmoaaGreatDoor
