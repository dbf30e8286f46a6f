/- The reference: New, State, Next, without. -/
import Derived.Test.YtcdimopiaanfbaaDoorFSame
import Derived.Test.YtcdimopiaanfbaaDoorFNew
import Derived.LoopTactic
import Derived.Deep.LoopGhost
namespace Go.Proofs.YtcdimopiaanfbaaDoor
open Go.RowKit Go.Sort
set_option linter.unusedVariables false
set_option linter.unusedSimpArgs false

/-- A reference's table. -/
def rk (s r : Value) : Value := .agg #[s, r]

theorem refNew_bad (w : World) (c : Int) (h : c < 1 ∨ 64 < c) : Calls Tryd.prog 31 #[.int .i64 c] w fun e w' => e = .returned (.tuple #[rk (.slice none 0 0) (.slice none 0 0), .int .i64 2]) ∧ Grn w w' := by
  by_cases h1 : c < 1
  · go_enter Tryd.func31, Tryd.ntmps31
    go_wp2_with fail
    have hx := block_new w (.cells #[.slice none 0 0, .slice none 0 0] 30) _ rfl
    refine bodyPost_ret (v := .tuple #[rk (.slice none 0 0) (.slice none 0 0), .int .i64 2]) (by simp [results, Tryd.results31, go_sem, rk, cells_cell (o := 0) hx rfl, cells_cell (o := 1) hx rfl]) rfl ⟨rfl, (Grn.refl w).alloc _⟩
  · have h2 : 64 < c := by omega
    have h3 : decide (c < 1) = false := by simp; omega
    go_enter Tryd.func31, Tryd.ntmps31
    go_wp2_with fail
    have hx := block_new w (.cells #[.slice none 0 0, .slice none 0 0] 30) _ rfl
    refine bodyPost_ret (v := .tuple #[rk (.slice none 0 0) (.slice none 0 0), .int .i64 2]) (by simp [results, Tryd.results31, go_sem, rk, cells_cell (o := 0) hx rfl, cells_cell (o := 1) hx rfl]) rfl ⟨rfl, (Grn.refl w).alloc _⟩

theorem row_zero {w : World} {base b n : Nat} (h : w.ownsRow base 3 1 (.slice (some ⟨b, 0, none⟩) n n) n (madeCells #[Value.int .i64 0] n).toList) : Row TI w base (.slice (some ⟨b, 0, none⟩) n n) (List.replicate n 0) := by
  unfold Row
  rw [List.length_replicate, flt_replicate (e := TI.enc) (s := 1) n 0 TI_ok.len (by decide), Nat.mul_one]
  exact h
set_option maxHeartbeats 1600000 in
theorem refNew_ok (w : World) (c : Nat) (h1 : 1 ≤ c) (h2 : c ≤ 64) : Calls Tryd.prog 31 #[.int .i64 ((c : Nat) : Int)] w fun e w' => ∃ s, e = .returned (.tuple #[rk s (.slice none 0 0), .int .i64 0]) ∧ Row TI w' w.heap.size s (List.replicate c 0) ∧ Below w.heap.size w w' := by
  have e3 : decide ((c : Int) < 1) = false := by simp; omega
  have e4 : decide ((64 : Int) < (c : Int)) = false := by simp; omega
  obtain ⟨i0, hi0, hz0, hz1, hz2⟩ := info_parts infoInt
  go_enter Tryd.func31, Tryd.ntmps31
  go_wp2_with (with_reducible refine wpList_make_full _ rfl (.tmp 11) (.tmp 11) 28 rfl w.heap.size 3 i0 (.int .i64 0) 1 Tryd.underlying28 hi0 hz0 hz1 _ _ _ _ c rfl rfl rfl rfl ?_ ?_ ?_ ?_)
  rotate_right
  · intro w1 hown hgr
    have hr := row_zero hown
    have hb0 := below_alloc w (.cells #[.slice none 0 0, .slice none 0 0] 30)
    have hb1 : Below (w.alloc (.cells #[.slice none 0 0, .slice none 0 0] 30)).heap.size (w.alloc (.cells #[.slice none 0 0, .slice none 0 0] 30)) w1 := (Below.refl _ _).grown hgr (Nat.le_refl _) (by intro k hk; cases hk)
    have hx := (hb1.block w.heap.size (by simp)).trans (block_new w (.cells #[.slice none 0 0, .slice none 0 0] 30) _ rfl)
    have k0 := cells_cell (o := 0) hx rfl
    have k1 : w1.cell? ⟨w.heap.size, 1, none⟩ = some (.slice none 0 0) := cells_cell hx rfl
    have f0 := cells_free hx 0
    have f1 := cells_free hx 1
    have xl := lt_of_block hx
    have hx2 := cells_set (cells_set hx 0 (.slice (some ⟨w.heap.size + 1, 0, none⟩) c c)) 1 (.slice none 0 0)
    have hf := (fr_setCell w1 ⟨w.heap.size, 0, none⟩ (.slice (some ⟨w.heap.size + 1, 0, none⟩) c c)).trans' (fr_setCell _ ⟨w.heap.size, 1, none⟩ (.slice none 0 0))
    have HB := Lib.hid ((hb0.trans (hb1.mono (by simp))).trans (hf.below (B := w.heap.size) (fun x hx => by simp at hx; omega) (by omega)))
    have hne := hr.ne hx (by decide)
    have HR := Lib.hid (hr.fr hf (fun g hg => by simpa using hne g hg))
    have HX := Lib.hid hx2
    clear hown hgr hr hb0 hb1 hx hx2 hf hne
    go_wp2_with fail
    have hx2 := HX.out
    simp at hx2
    refine bodyPost_ret (v := .tuple #[rk (.slice (some ⟨w.heap.size + 1, 0, none⟩) c c) (.slice none 0 0), .int .i64 0]) (by simp [results, Tryd.results31, go_sem, rk, cells_cell (o := 0) hx2 rfl, cells_cell (o := 1) hx2 rfl]) rfl ⟨_, rfl, HR.out, HB.out⟩
  all_goals first | omega | (unfold maxLen; omega)

section
variable {w : World} {s r : Value} {S R : List Int}
set_option maxHeartbeats 800000 in
theorem refState_yes (hs : Src TI w s S) (hr : Src TI w r R) {i : Nat} (hi : i < S.length) (hl : S.length ≤ 64) : Calls Tryd.prog 39 #[rk s r, .int .i64 ((i : Nat) : Int)] w fun e w' => e = .returned (.tuple #[.int .i64 S[i], .int .i64 0]) ∧ Grn w w' := by
  obtain ⟨sa, sc, rfl, hs1, hs2⟩ := hs.form
  obtain ⟨ra, rc, rfl, hr1, hr2⟩ := hr.form
  obtain ⟨a, o1, c1, e1, _, _, l1, k1⟩ := Src.int (hs.grown (below_alloc w (.cells #[.slice sa S.length sc, .slice ra R.length rc] 30))) hi
  simp only [Value.slice.injEq] at e1
  obtain ⟨rfl, -, rfl⟩ := e1
  generalize S[i] = x at *
  generalize S.length = n at *
  generalize R.length = m at *
  have q1 : (0 : Int) ≤ (i : Int) := by omega
  have q2 : (i : Int) < (n : Int) := by omega
  have q3 : decide ((n : Int) ≤ (i : Int)) = false := decide_eq_false (by omega)
  have q4 : decide ((i : Int) < 0) = false := decide_eq_false (by omega)
  have q5 : decide (n ≤ i) = false := decide_eq_false (by omega)
  have q6 : ¬ n ≤ i := by omega
  have q7 : (i : Int) ≤ 64 := by omega
  clear hs hr hi hl
  unfold rk
  go_enter Tryd.func39, Tryd.ntmps39
  go_wp2_with fail
  go_ret2
  exact ⟨rfl, (Grn.refl w).alloc _⟩
set_option maxHeartbeats 800000 in
theorem refState_bad (hs : Src TI w s S) (hr : Src TI w r R) {N : Int} (hn : N < 0 ∨ ((S.length : Nat) : Int) ≤ N) (hl : S.length ≤ 64) : Calls Tryd.prog 39 #[rk s r, .int .i64 N] w fun e w' => e = .returned (.tuple #[.int .i64 0, .int .i64 2]) ∧ Grn w w' := by
  obtain ⟨sa, sc, rfl, hs1, hs2⟩ := hs.form
  obtain ⟨ra, rc, rfl, hr1, hr2⟩ := hr.form
  generalize S.length = n at *
  generalize R.length = m at *
  clear hs hr
  unfold rk
  by_cases h0 : N < 0
  · clear hn
    go_enter Tryd.func39, Tryd.ntmps39
    go_wp2_with fail
    go_ret2
    exact ⟨rfl, (Grn.refl w).alloc _⟩
  · have q1 : (n : Int) ≤ N := by omega
    have q2 : decide (N < 0) = false := decide_eq_false h0
    clear hn
    go_enter Tryd.func39, Tryd.ntmps39
    go_wp2_with fail
    go_ret2
    exact ⟨rfl, (Grn.refl w).alloc _⟩
end
end Go.Proofs.YtcdimopiaanfbaaDoor
