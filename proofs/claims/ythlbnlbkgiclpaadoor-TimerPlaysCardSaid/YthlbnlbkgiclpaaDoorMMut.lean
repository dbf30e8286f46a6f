/- The reference of the timers: Stop, Reset. -/
import Derived.Test.YthlbnlbkgiclpaaDoorMRef
namespace Go.Proofs.YthlbnlbkgiclpaaDoor
open Go.RowKit Go.Sort
set_option linter.unusedVariables false
set_option linter.unusedSimpArgs false

theorem cellsM_gone : ∀ (S : List Tm) (i : Nat) (e : Tm), S[i]? = some e → (cellsM S).set (i * 5 + 4) (.bool true) = cellsM (S.set i ⟨e.n, e.g, e.o, e.k, true⟩)
  | [], i, e, h => by simp at h
  | x :: S, 0, e, h => by simp at h; subst h; rfl
  | x :: S, i + 1, e, h => by
    have := cellsM_gone S i e (by simpa using h)
    rw [show (i + 1) * 5 + 4 = i * 5 + 4 + 1 + 1 + 1 + 1 + 1 by omega]
    simp only [cellsM, List.set_cons_succ, this]
theorem cellsM_at : ∀ (S : List Tm) (i : Nat) (e : Tm) (k : Int), S[i]? = some e → (cellsM S).set (i * 5 + 3) (.int .u64 k) = cellsM (S.set i ⟨e.n, e.g, e.o, k, e.gone⟩)
  | [], i, e, k, h => by simp at h
  | x :: S, 0, e, k, h => by simp at h; subst h; rfl
  | x :: S, i + 1, e, k, h => by
    have := cellsM_at S i e k (by simpa using h)
    rw [show (i + 1) * 5 + 3 = i * 5 + 3 + 1 + 1 + 1 + 1 + 1 by omega]
    simp only [cellsM, List.set_cons_succ, this]

/-- A block that holds one slice of the reference's. -/
def BoxM (w : World) (b : Nat) (s : Value) : Prop := w.heap[b]? = some (.cells #[s] 51 (0, 0))
theorem BoxM.cell {w : World} {b : Nat} {s : Value} (h : BoxM w b s) : w.cell? ⟨b, 0, none⟩ = some s := cells_cell h rfl
theorem BoxM.free {w : World} {b : Nat} {s : Value} (h : BoxM w b s) : w.frozen? ⟨b, 0, none⟩ = false := cells_free h 0
theorem BoxM.lt {w : World} {b : Nat} {s : Value} (h : BoxM w b s) : b < w.heap.size := World.block_lt_of_cell? w _ h.cell
theorem BoxM.below {w w' : World} {b B : Nat} {s : Value} (h : BoxM w b s) (hb : Below B w w') (hB : b < B) : BoxM w' b s := (hb.block b hB).trans h
theorem BoxM.alloc {w : World} {b : Nat} {s : Value} (h : BoxM w b s) (o : Obj) : BoxM (w.alloc o) b s := h.below ((Below.refl _ _).alloc (Nat.le_refl _) _) h.lt
theorem BoxM.new (w : World) (s : Value) : BoxM (w.alloc (.cells #[s] 51)) w.heap.size s := block_new _ _ _ rfl
theorem BoxM.other {w : World} {b c : Nat} {s : Value} (h : BoxM w b s) (hne : b ≠ c) (j : Nat) (u : Value) : BoxM (w.setCell ⟨c, j, none⟩ u) b s := cells_set_other h hne j u
theorem RowM.box {w : World} {b base : Nat} {s x : Value} {S : List Tm} (h : RowM w base s S) (hb : BoxM w b x) (u : Value) : RowM (w.setCell ⟨b, 0, none⟩ u) base s S := by
  have hf : Fr [b] w (w.setCell ⟨b, 0, none⟩ u) := fr_setCell w ⟨b, 0, none⟩ u
  refine hf.row h (fun g hg => ?_)
  have := BodAt.row_ne h hb (by decide) g hg
  simpa using this
theorem RowM.form {w : World} {base : Nat} {s : Value} {S : List Tm} (h : RowM w base s S) : (s = .slice none 0 0 ∧ S = []) ∨ ∃ g cap, s = .slice (some ⟨g, 0, none⟩) S.length cap ∧ base ≤ g := by
  rcases h.2 with ⟨h', hn⟩ | ⟨g, cap, cur, h', hg, _⟩
  · exact .inl ⟨h', List.eq_nil_of_length_eq_zero hn⟩
  · exact .inr ⟨g, cap, h', hg⟩

theorem below_boxM {w0 w : World} {b : Nat} (h : Below w0.heap.size w0 w) (hb : w0.heap.size ≤ b) (j : Nat) (u : Value) : Below w0.heap.size w0 (w.setCell ⟨b, j, none⟩ u) := by
  have hf : Fr [b] w (w.setCell ⟨b, j, none⟩ u) := fr_setCell w ⟨b, j, none⟩ u
  exact h.trans (hf.below (fun x hx => by simp at hx; subst hx; exact hb) h.size)

set_option maxRecDepth 100000 in
set_option maxHeartbeats 3200000 in
theorem mstop_no {w : World} {s : Value} {L : List Tm} (h : RowM w 0 s L) (hl : L.length ≤ 100000) (n g : Int) (hno : ∀ e ∈ L, ¬ ((e.n : Int) = n ∧ (e.g : Int) = g ∧ e.gone = false)) :
    Calls Tryd.prog 51 #[.agg #[s], .agg #[.int .i64 n, .int .i64 g]] w fun e w' => e = .returned (.tuple #[.agg #[s], .int .i64 9]) ∧ Below w.heap.size w w' := by
  have hb : Below w.heap.size w (((w.alloc (.cells #[s] 51)).alloc (.cells #[.int .i64 n, .int .i64 g] 53)).alloc (.cells #[.slice none 0 0] 51)) := (((Below.refl _ _).alloc (Nat.le_refl _) _).alloc (by simp) _).alloc (by simp; omega) _
  have Hat := Lib.hid (mat_any (h.below hb) hl n g)
  have hx0 := ((BoxM.new w s).alloc (.cells #[.int .i64 n, .int .i64 g] 53)).alloc (.cells #[.slice none 0 0] 51)
  have hr0 : BoxM (((w.alloc (.cells #[s] 51)).alloc (.cells #[.int .i64 n, .int .i64 g] 53)).alloc (.cells #[.slice none 0 0] 51)) (w.heap.size + 2) (.slice none 0 0) := block_new _ _ _ (by simp)
  have HB := Lib.hid hb
  have HX := Lib.hid hx0
  have HR := Lib.hid hr0
  obtain ⟨a0, n0, c0, rfl⟩ := row_form h
  clear hb hx0 hr0 h
  go_enter Tryd.func51, Tryd.ntmps51
  go_wp2_with (go_at_call 58; fail)
  refine Hat.out.mono ?_
  rintro e w1 ⟨r, rfl, hat, hg1⟩
  have hr1 : r = -1 := by
    rcases hat with ⟨i, e, he, _, hq⟩ | ⟨h, _⟩
    · exact absurd hq (hno e (List.mem_of_getElem? he))
    · exact h
  subst hr1
  have hb1 := hg1.below
  have hx := HX.out.below hb1 (by simp; omega)
  have hr := HR.out.below hb1 (by simp)
  have hc1 := hx.cell
  have hc2 := hr.cell
  have hf2 := hr.free
  have hq := World.cell?_setCell_same _ _ (.slice a0 n0 c0) hc2
  have hfin := Lib.hid (below_boxM (HB.out.trans (hb1.mono HB.out.size)) (b := w.heap.size + 2) (by omega) 0 (.slice a0 n0 c0))
  clear hx hr hat hb1
  go_wp2_with fail
  exact bodyPost_ret (v := .tuple #[.agg #[.slice a0 n0 c0], .int .i64 9]) (by simp [results, Tryd.results51, go_sem, hq]) rfl ⟨rfl, hfin.out⟩

set_option maxRecDepth 100000 in
set_option maxHeartbeats 3200000 in
theorem mstop_yes {w : World} {s : Value} {S : List Tm} (h : RowM w 0 s S) (hl : S.length ≤ 100000) (n g : Int) (hyes : ∃ e ∈ S, (e.n : Int) = n ∧ (e.g : Int) = g ∧ e.gone = false) :
    Calls Tryd.prog 51 #[.agg #[s], .agg #[.int .i64 n, .int .i64 g]] w fun e w' => ∃ s' i e0, e = .returned (.tuple #[.agg #[s'], .int .i64 0]) ∧ S[i]? = some e0 ∧ ((e0.n : Int) = n ∧ (e0.g : Int) = g ∧ e0.gone = false) ∧ RowM w' w.heap.size s' (S.set i ⟨e0.n, e0.g, e0.o, e0.k, true⟩) ∧ Below w.heap.size w w' := by
  have hb : Below w.heap.size w (((w.alloc (.cells #[s] 51)).alloc (.cells #[.int .i64 n, .int .i64 g] 53)).alloc (.cells #[.slice none 0 0] 51)) := (((Below.refl _ _).alloc (Nat.le_refl _) _).alloc (by simp) _).alloc (by simp; omega) _
  have h2 := h.below hb
  have Hat := Lib.hid (mat_any h2 hl n g)
  have hx0 := ((BoxM.new w s).alloc (.cells #[.int .i64 n, .int .i64 g] 53)).alloc (.cells #[.slice none 0 0] 51)
  have hr0 : BoxM (((w.alloc (.cells #[s] 51)).alloc (.cells #[.int .i64 n, .int .i64 g] 53)).alloc (.cells #[.slice none 0 0] 51)) (w.heap.size + 2) (.slice none 0 0) := block_new _ _ _ (by simp)
  have hs0 : (((w.alloc (.cells #[s] 51)).alloc (.cells #[.int .i64 n, .int .i64 g] 53)).alloc (.cells #[.slice none 0 0] 51)).heap.size = w.heap.size + 3 := by simp
  have HB := Lib.hid hb
  have HX := Lib.hid hx0
  have HR := Lib.hid hr0
  have H2 := Lib.hid h2
  obtain ⟨a0, n0, c0, rfl⟩ := row_form h
  clear hb hx0 hr0 h h2
  go_enter Tryd.func51, Tryd.ntmps51
  go_wp2_with (go_at_call 58; fail)
  refine Hat.out.mono ?_
  rintro e w1 ⟨r, rfl, hat, hg1⟩
  have hb1 := hg1.below
  have hat2 : ∃ (i : Nat) (e : Tm), S[i]? = some e ∧ r = i ∧ (e.n : Int) = n ∧ (e.g : Int) = g ∧ e.gone = false := by
    rcases hat with h | ⟨_, h⟩
    · exact h
    · obtain ⟨e, he, hq⟩ := hyes
      exact absurd hq (h e he)
  obtain ⟨i, el, hi, rfl, hel⟩ := hat2
  have hil : i < S.length := (List.getElem?_eq_some_iff.1 hi).1
  have hx1 := HX.out.below hb1 (by simp; omega)
  have hr1 := HR.out.below hb1 (by simp)
  have hc1 := hx1.cell
  have h1 := H2.out.below hb1
  have hcopy := Lib.hid (mcopy_any h1 hl)
  have hB1 := HB.out.trans (hb1.mono HB.out.size)
  have hs1 := hb1.size
  clear hat H2 HX HR Hat hg1
  go_wp2_with (go_at_call 77; fail)
  refine hcopy.out.mono ?_
  rintro e w3 ⟨s', rfl, hrow, hb3⟩
  have hs3 := hb3.size
  have hr3 := hr1.below hb3 (by omega)
  have hB3 := hB1.trans (hb3.mono hB1.size)
  have hrow4 : RowM (w3.alloc (.cells #[s'] 51)) w.heap.size s' S := (hrow.below ((Below.refl _ _).alloc (Nat.le_refl _) _)).mono (by omega)
  have hbox4 := BoxM.new w3 s'
  have hr4 := hr3.alloc (.cells #[s'] 51)
  have hB4 : Below w.heap.size w (w3.alloc (.cells #[s'] 51)) := hB3.alloc (by omega) _
  rcases hrow4.form with ⟨_, h0⟩ | ⟨gb, cap, rfl, hgb0⟩
  · rw [h0] at hil; simp at hil
  have c4 := hbox4.cell
  obtain ⟨_, _, _, _, k4⟩ := hrow4.cells i el hi
  have f4 : (w3.alloc (.cells #[.slice (some ⟨gb, 0, none⟩) S.length cap] 51)).frozen? ⟨gb, i * 5 + 4, none⟩ = false := World.ownsRow.frozenAt hrow4 _
  obtain ⟨hst, hgr⟩ := World.ownsRow.stored hrow4 (i * 5 + 4) (.bool true)
  have hgb : gb ≠ w3.heap.size := by simpa using BodAt.row_ne hrow4 hbox4 (by decide) gb rfl
  have hgr' : gb ≠ w.heap.size + 2 := by simpa using BodAt.row_ne hrow4 hr4 (by decide) gb rfl
  have hbox5 := hbox4.other (Ne.symm hgb) (i * 5 + 4) (.bool true)
  have hr5 := hr4.other (Ne.symm hgr') (i * 5 + 4) (.bool true)
  have hB5 := below_boxM hB4 hgb0 (i * 5 + 4) (.bool true)
  have c5 := hbox5.cell
  have r5 := hr5.cell
  have f5 := hr5.free
  have hrow5 : RowM ((w3.alloc (.cells #[.slice (some ⟨gb, 0, none⟩) S.length cap] 51)).setCell ⟨gb, i * 5 + 4, none⟩ (.bool true)) w.heap.size (.slice (some ⟨gb, 0, none⟩) S.length cap) (S.set i ⟨el.n, el.g, el.o, el.k, true⟩) := by
    unfold RowM
    rw [List.length_set, ← cellsM_gone S i el hi]
    exact hst
  have hrow6 := hrow5.box hr5 (.slice (some ⟨gb, 0, none⟩) S.length cap)
  have hB6 := Lib.hid (below_boxM hB5 (b := w.heap.size + 2) (by omega) 0 (.slice (some ⟨gb, 0, none⟩) S.length cap))
  have hq := World.cell?_setCell_same _ _ (.slice (some ⟨gb, 0, none⟩) S.length cap) r5
  have Hrow6 := Lib.hid hrow6
  have Hi := Lib.hid hi
  have Hel := Lib.hid hel
  have g1 : (i : Int) < (S.length : Int) := by omega
  have g2 : (0 : Int) ≤ (i : Int) := by omega
  clear hst hgr hbox5 hr5 hB5 hrow5 hrow6 hrow4 hbox4 hr4 hB4 hrow hr3 hr1 hx1 h1 hcopy hB3 hB1 HB hb1 hb3 hi hel hyes
  go_wp2_with fail
  exact bodyPost_ret (v := .tuple #[.agg #[.slice (some ⟨gb, 0, none⟩) S.length cap], .int .i64 0]) (by simp [results, Tryd.results51, go_sem, hq]) rfl ⟨_, i, el, rfl, Hi.out, Hel.out, Hrow6.out, hB6.out⟩
set_option maxRecDepth 100000 in
set_option maxHeartbeats 3200000 in
theorem mreset_no {w : World} {s : Value} {L : List Tm} (h : RowM w 0 s L) (hl : L.length ≤ 100000) (n g k : Int) (hk : k ≠ 18446744073709551615) (hno : ∀ e ∈ L, ¬ ((e.n : Int) = n ∧ (e.g : Int) = g ∧ e.gone = false)) :
    Calls Tryd.prog 50 #[.agg #[s], .agg #[.int .i64 n, .int .i64 g], .int .u64 k] w fun e w' => e = .returned (.tuple #[.agg #[s], .int .i64 9]) ∧ Below w.heap.size w w' := by
  have hb : Below w.heap.size w (((w.alloc (.cells #[s] 51)).alloc (.cells #[.int .i64 n, .int .i64 g] 53)).alloc (.cells #[.slice none 0 0] 51)) := (((Below.refl _ _).alloc (Nat.le_refl _) _).alloc (by simp) _).alloc (by simp; omega) _
  have Hat := Lib.hid (mat_any (h.below hb) hl n g)
  have hx0 := ((BoxM.new w s).alloc (.cells #[.int .i64 n, .int .i64 g] 53)).alloc (.cells #[.slice none 0 0] 51)
  have hr0 : BoxM (((w.alloc (.cells #[s] 51)).alloc (.cells #[.int .i64 n, .int .i64 g] 53)).alloc (.cells #[.slice none 0 0] 51)) (w.heap.size + 2) (.slice none 0 0) := block_new _ _ _ (by simp)
  have HB := Lib.hid hb
  have HX := Lib.hid hx0
  have HR := Lib.hid hr0
  obtain ⟨a0, n0, c0, rfl⟩ := row_form h
  clear hb hx0 hr0 h
  have tk : (k == 18446744073709551615) = false := by simp [hk]
  go_enter Tryd.func50, Tryd.ntmps50
  go_wp2_with (go_at_call 58; fail)
  refine Hat.out.mono ?_
  rintro e w1 ⟨r, rfl, hat, hg1⟩
  have hr1 : r = -1 := by
    rcases hat with ⟨i, e, he, _, hq⟩ | ⟨h, _⟩
    · exact absurd hq (hno e (List.mem_of_getElem? he))
    · exact h
  subst hr1
  have hb1 := hg1.below
  have hx := HX.out.below hb1 (by simp; omega)
  have hr := HR.out.below hb1 (by simp)
  have hc1 := hx.cell
  have hc2 := hr.cell
  have hf2 := hr.free
  have hq := World.cell?_setCell_same _ _ (.slice a0 n0 c0) hc2
  have hfin := Lib.hid (below_boxM (HB.out.trans (hb1.mono HB.out.size)) (b := w.heap.size + 2) (by omega) 0 (.slice a0 n0 c0))
  clear hx hr hat hb1
  go_wp2_with fail
  exact bodyPost_ret (v := .tuple #[.agg #[.slice a0 n0 c0], .int .i64 9]) (by simp [results, Tryd.results50, go_sem, hq]) rfl ⟨rfl, hfin.out⟩

set_option maxRecDepth 100000 in
set_option maxHeartbeats 3200000 in
theorem mreset_yes {w : World} {s : Value} {S : List Tm} (h : RowM w 0 s S) (hl : S.length ≤ 100000) (n g k : Int) (hk : k ≠ 18446744073709551615) (hyes : ∃ e ∈ S, (e.n : Int) = n ∧ (e.g : Int) = g ∧ e.gone = false) :
    Calls Tryd.prog 50 #[.agg #[s], .agg #[.int .i64 n, .int .i64 g], .int .u64 k] w fun e w' => ∃ s' i e0, e = .returned (.tuple #[.agg #[s'], .int .i64 0]) ∧ S[i]? = some e0 ∧ ((e0.n : Int) = n ∧ (e0.g : Int) = g ∧ e0.gone = false) ∧ RowM w' w.heap.size s' (S.set i ⟨e0.n, e0.g, e0.o, k, e0.gone⟩) ∧ Below w.heap.size w w' := by
  have hb : Below w.heap.size w (((w.alloc (.cells #[s] 51)).alloc (.cells #[.int .i64 n, .int .i64 g] 53)).alloc (.cells #[.slice none 0 0] 51)) := (((Below.refl _ _).alloc (Nat.le_refl _) _).alloc (by simp) _).alloc (by simp; omega) _
  have h2 := h.below hb
  have Hat := Lib.hid (mat_any h2 hl n g)
  have hx0 := ((BoxM.new w s).alloc (.cells #[.int .i64 n, .int .i64 g] 53)).alloc (.cells #[.slice none 0 0] 51)
  have hr0 : BoxM (((w.alloc (.cells #[s] 51)).alloc (.cells #[.int .i64 n, .int .i64 g] 53)).alloc (.cells #[.slice none 0 0] 51)) (w.heap.size + 2) (.slice none 0 0) := block_new _ _ _ (by simp)
  have hs0 : (((w.alloc (.cells #[s] 51)).alloc (.cells #[.int .i64 n, .int .i64 g] 53)).alloc (.cells #[.slice none 0 0] 51)).heap.size = w.heap.size + 3 := by simp
  have HB := Lib.hid hb
  have HX := Lib.hid hx0
  have HR := Lib.hid hr0
  have H2 := Lib.hid h2
  obtain ⟨a0, n0, c0, rfl⟩ := row_form h
  clear hb hx0 hr0 h h2
  have tk : (k == 18446744073709551615) = false := by simp [hk]
  go_enter Tryd.func50, Tryd.ntmps50
  go_wp2_with (go_at_call 58; fail)
  refine Hat.out.mono ?_
  rintro e w1 ⟨r, rfl, hat, hg1⟩
  have hb1 := hg1.below
  have hat2 : ∃ (i : Nat) (e : Tm), S[i]? = some e ∧ r = i ∧ (e.n : Int) = n ∧ (e.g : Int) = g ∧ e.gone = false := by
    rcases hat with h | ⟨_, h⟩
    · exact h
    · obtain ⟨e, he, hq⟩ := hyes
      exact absurd hq (h e he)
  obtain ⟨i, el, hi, rfl, hel⟩ := hat2
  have hil : i < S.length := (List.getElem?_eq_some_iff.1 hi).1
  have hx1 := HX.out.below hb1 (by simp; omega)
  have hr1 := HR.out.below hb1 (by simp)
  have hc1 := hx1.cell
  have h1 := H2.out.below hb1
  have hcopy := Lib.hid (mcopy_any h1 hl)
  have hB1 := HB.out.trans (hb1.mono HB.out.size)
  have hs1 := hb1.size
  clear hat H2 HX HR Hat hg1
  go_wp2_with (go_at_call 77; fail)
  refine hcopy.out.mono ?_
  rintro e w3 ⟨s', rfl, hrow, hb3⟩
  have hs3 := hb3.size
  have hr3 := hr1.below hb3 (by omega)
  have hB3 := hB1.trans (hb3.mono hB1.size)
  have hrow4 : RowM (w3.alloc (.cells #[s'] 51)) w.heap.size s' S := (hrow.below ((Below.refl _ _).alloc (Nat.le_refl _) _)).mono (by omega)
  have hbox4 := BoxM.new w3 s'
  have hr4 := hr3.alloc (.cells #[s'] 51)
  have hB4 : Below w.heap.size w (w3.alloc (.cells #[s'] 51)) := hB3.alloc (by omega) _
  rcases hrow4.form with ⟨_, h0⟩ | ⟨gb, cap, rfl, hgb0⟩
  · rw [h0] at hil; simp at hil
  have c4 := hbox4.cell
  obtain ⟨_, _, _, k4, _⟩ := hrow4.cells i el hi
  have f4 : (w3.alloc (.cells #[.slice (some ⟨gb, 0, none⟩) S.length cap] 51)).frozen? ⟨gb, i * 5 + 3, none⟩ = false := World.ownsRow.frozenAt hrow4 _
  obtain ⟨hst, hgr⟩ := World.ownsRow.stored hrow4 (i * 5 + 3) (.int .u64 k)
  have hgb : gb ≠ w3.heap.size := by simpa using BodAt.row_ne hrow4 hbox4 (by decide) gb rfl
  have hgr' : gb ≠ w.heap.size + 2 := by simpa using BodAt.row_ne hrow4 hr4 (by decide) gb rfl
  have hbox5 := hbox4.other (Ne.symm hgb) (i * 5 + 3) (.int .u64 k)
  have hr5 := hr4.other (Ne.symm hgr') (i * 5 + 3) (.int .u64 k)
  have hB5 := below_boxM hB4 hgb0 (i * 5 + 3) (.int .u64 k)
  have c5 := hbox5.cell
  have r5 := hr5.cell
  have f5 := hr5.free
  have hrow5 : RowM ((w3.alloc (.cells #[.slice (some ⟨gb, 0, none⟩) S.length cap] 51)).setCell ⟨gb, i * 5 + 3, none⟩ (.int .u64 k)) w.heap.size (.slice (some ⟨gb, 0, none⟩) S.length cap) (S.set i ⟨el.n, el.g, el.o, k, el.gone⟩) := by
    unfold RowM
    rw [List.length_set, ← cellsM_at S i el k hi]
    exact hst
  have hrow6 := hrow5.box hr5 (.slice (some ⟨gb, 0, none⟩) S.length cap)
  have hB6 := Lib.hid (below_boxM hB5 (b := w.heap.size + 2) (by omega) 0 (.slice (some ⟨gb, 0, none⟩) S.length cap))
  have hq := World.cell?_setCell_same _ _ (.slice (some ⟨gb, 0, none⟩) S.length cap) r5
  have Hrow6 := Lib.hid hrow6
  have Hi := Lib.hid hi
  have Hel := Lib.hid hel
  have g1 : (i : Int) < (S.length : Int) := by omega
  have g2 : (0 : Int) ≤ (i : Int) := by omega
  clear hst hgr hbox5 hr5 hB5 hrow5 hrow6 hrow4 hbox4 hr4 hB4 hrow hr3 hr1 hx1 h1 hcopy hB3 hB1 HB hb1 hb3 hi hel hyes
  go_wp2_with fail
  exact bodyPost_ret (v := .tuple #[.agg #[.slice (some ⟨gb, 0, none⟩) S.length cap], .int .i64 0]) (by simp [results, Tryd.results50, go_sem, hq]) rfl ⟨_, i, el, rfl, Hi.out, Hel.out, Hrow6.out, hB6.out⟩

set_option maxRecDepth 100000 in
set_option maxHeartbeats 1600000 in
theorem mreset_never {w : World} {s : Value} {L : List Tm} (h : RowM w 0 s L) (n g : Int) :
    Calls Tryd.prog 50 #[.agg #[s], .agg #[.int .i64 n, .int .i64 g], .int .u64 18446744073709551615] w fun e w' => e = .returned (.tuple #[.agg #[s], .int .i64 2]) ∧ Below w.heap.size w w' := by
  have hb : Below w.heap.size w (((w.alloc (.cells #[s] 51)).alloc (.cells #[.int .i64 n, .int .i64 g] 53)).alloc (.cells #[.slice none 0 0] 51)) := (((Below.refl _ _).alloc (Nat.le_refl _) _).alloc (by simp) _).alloc (by simp; omega) _
  have hx0 := ((BoxM.new w s).alloc (.cells #[.int .i64 n, .int .i64 g] 53)).alloc (.cells #[.slice none 0 0] 51)
  have hr0 : BoxM (((w.alloc (.cells #[s] 51)).alloc (.cells #[.int .i64 n, .int .i64 g] 53)).alloc (.cells #[.slice none 0 0] 51)) (w.heap.size + 2) (.slice none 0 0) := block_new _ _ _ (by simp)
  have hc1 := hx0.cell
  have hc2 := hr0.cell
  have hf2 := hr0.free
  have hq := World.cell?_setCell_same _ _ s hc2
  obtain ⟨a0, n0, c0, rfl⟩ := row_form h
  clear hb hx0 hr0 h
  go_enter Tryd.func50, Tryd.ntmps50
  go_wp2_with fail
  exact bodyPost_ret (v := .tuple #[.agg #[.slice a0 n0 c0], .int .i64 2]) (by simp [results, Tryd.results50, go_sem, hq]) rfl ⟨rfl, (((Below.refl _ _).alloc (Nat.le_refl _) _).alloc (by simp) _).alloc (by simp; omega) _⟩
end Go.Proofs.YthlbnlbkgiclpaaDoor
