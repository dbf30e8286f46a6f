/- The reference heap: the calls that change it. -/
import Derived.Test.YtpbnbddjfebenaaDoorRMut
namespace Go.Proofs.YtpbnbddjfebenaaDoor
open Go.RowKit Go.Sort
set_option linter.unusedVariables false
set_option linter.unusedSimpArgs false

theorem atR_no {S : List El} {n r : Int} (h : AtR S n r) (hn : ¬ isH S n) : r = -1 := by
  rcases h with ⟨i, e, he, _, hq⟩ | ⟨h, _⟩
  · exact absurd ⟨e.h, hq.symm, List.mem_map_of_mem (List.mem_of_getElem? he)⟩ hn
  · exact h
theorem atR_yes {S : List El} {n r : Int} (h : AtR S n r) (hn : isH S n) : ∃ (i : Nat) (e : El), S[i]? = some e ∧ r = i ∧ (e.h : Int) = n := by
  rcases h with h | ⟨_, h⟩
  · exact h
  · obtain ⟨x, rfl, hx⟩ := hn
    obtain ⟨e, he, rfl⟩ := List.mem_map.1 hx
    exact absurd rfl (h e he)

/-- A block that holds one slice of the reference's. -/
def BoxR (w : World) (b : Nat) (s : Value) : Prop := w.heap[b]? = some (.cells #[s] 28 (0, 0))
theorem BoxR.cell {w : World} {b : Nat} {s : Value} (h : BoxR w b s) : w.cell? ⟨b, 0, none⟩ = some s := cells_cell h rfl
theorem BoxR.free {w : World} {b : Nat} {s : Value} (h : BoxR w b s) : w.frozen? ⟨b, 0, none⟩ = false := cells_free h 0
theorem BoxR.lt {w : World} {b : Nat} {s : Value} (h : BoxR w b s) : b < w.heap.size := World.block_lt_of_cell? w _ h.cell
theorem BoxR.below {w w' : World} {b B : Nat} {s : Value} (h : BoxR w b s) (hb : Below B w w') (hB : b < B) : BoxR w' b s := (hb.block b hB).trans h
theorem BoxR.alloc {w : World} {b : Nat} {s : Value} (h : BoxR w b s) (o : Obj) : BoxR (w.alloc o) b s := h.below ((Below.refl _ _).alloc (Nat.le_refl _) _) h.lt
theorem BoxR.new (w : World) (s : Value) : BoxR (w.alloc (.cells #[s] 28)) w.heap.size s := block_new _ _ _ rfl
theorem BoxR.set {w : World} {b : Nat} {s : Value} (h : BoxR w b s) (u : Value) : BoxR (w.setCell ⟨b, 0, none⟩ u) b u := cells_set h 0 u
theorem BoxR.other {w : World} {b c : Nat} {s : Value} (h : BoxR w b s) (hne : b ≠ c) (j : Nat) (u : Value) : BoxR (w.setCell ⟨c, j, none⟩ u) b s := cells_set_other h hne j u
theorem BoxR.grown {w w' : World} {b : Nat} {s : Value} {row : Option Nat} (h : BoxR w b s) (hg : w.grownBy w' row) (hne : some b ≠ row) : BoxR w' b s := (hg.block b h.lt hne).trans h
/-- Writing a box leaves a row. -/
theorem RowR.box {w : World} {b base : Nat} {s x : Value} {S : List El} (h : RowR w base s S) (hb : BoxR w b x) (u : Value) : RowR (w.setCell ⟨b, 0, none⟩ u) base s S := by
  have hf : Fr [b] w (w.setCell ⟨b, 0, none⟩ u) := fr_setCell w ⟨b, 0, none⟩ u
  refine hf.row h (fun g hg => ?_)
  have := BodAt.row_ne h hb (by decide) g hg
  simpa using this
theorem below_box {w0 w : World} {b : Nat} (h : Below w0.heap.size w0 w) (hb : w0.heap.size ≤ b) (j : Nat) (u : Value) : Below w0.heap.size w0 (w.setCell ⟨b, j, none⟩ u) := by
  have hf : Fr [b] w (w.setCell ⟨b, j, none⟩ u) := fr_setCell w ⟨b, j, none⟩ u
  exact h.trans (hf.below (fun x hx => by simp at hx; subst hx; exact hb) h.size)

set_option maxHeartbeats 1600000 in
theorem rremove_no {w : World} {s : Value} {S : List El} (h : RowR w 0 s S) (hl : S.length ≤ 1024) (n : Int) (hn : ¬ isH S n) :
    Calls Tryd.prog 20 #[.agg #[s], .int .i64 n] w fun e w' => e = .returned (.tuple #[.agg #[s], .int .i64 9]) ∧ Below w.heap.size w w' := by
  have hb : Below w.heap.size w ((w.alloc (.cells #[s] 28)).alloc (.cells #[.slice none 0 0] 28)) := ((Below.refl _ _).alloc (Nat.le_refl _) _).alloc (by simp) _
  have Hat := Lib.hid (rat_any (h.below hb) hl n)
  have hx0 := (BoxR.new w s).alloc (.cells #[.slice none 0 0] 28)
  have hr0 : BoxR ((w.alloc (.cells #[s] 28)).alloc (.cells #[.slice none 0 0] 28)) (w.heap.size + 1) (.slice none 0 0) := block_new _ _ _ (by simp)
  have HB := Lib.hid hb
  have HX := Lib.hid hx0
  have HR := Lib.hid hr0
  obtain ⟨a0, n0, c0, rfl⟩ := row_form h
  clear hb hx0 hr0 h
  go_enter Tryd.func20, Tryd.ntmps20
  go_wp2_with (go_at_call 39; fail)
  refine Hat.out.mono ?_
  rintro e w1 ⟨r, rfl, hat, hb1⟩
  obtain rfl := atR_no hat hn
  have hx := HX.out.below hb1 (by simp; omega)
  have hr := HR.out.below hb1 (by simp)
  have hc1 := hx.cell
  have hc2 := hr.cell
  have hf2 := hr.free
  have hq := World.cell?_setCell_same _ _ (.slice a0 n0 c0) hc2
  have hfin := Lib.hid (below_box (HB.out.trans (hb1.mono HB.out.size)) (b := w.heap.size + 1) (by omega) 0 (.slice a0 n0 c0))
  clear hx hr hat hb1
  go_wp2_with fail
  exact bodyPost_ret (v := .tuple #[.agg #[.slice a0 n0 c0], .int .i64 9]) (by simp [results, Tryd.results20, go_sem, hq]) rfl ⟨rfl, hfin.out⟩

set_option maxHeartbeats 1600000 in
theorem rchange_no {w : World} {s : Value} {S : List El} (h : RowR w 0 s S) (hl : S.length ≤ 1024) (n k : Int) (hn : ¬ isH S n) :
    Calls Tryd.prog 19 #[.agg #[s], .int .i64 n, .int .u64 k] w fun e w' => e = .returned (.tuple #[.agg #[s], .int .i64 9]) ∧ Below w.heap.size w w' := by
  have hb : Below w.heap.size w ((w.alloc (.cells #[s] 28)).alloc (.cells #[.slice none 0 0] 28)) := ((Below.refl _ _).alloc (Nat.le_refl _) _).alloc (by simp) _
  have Hat := Lib.hid (rat_any (h.below hb) hl n)
  have hx0 := (BoxR.new w s).alloc (.cells #[.slice none 0 0] 28)
  have hr0 : BoxR ((w.alloc (.cells #[s] 28)).alloc (.cells #[.slice none 0 0] 28)) (w.heap.size + 1) (.slice none 0 0) := block_new _ _ _ (by simp)
  have HB := Lib.hid hb
  have HX := Lib.hid hx0
  have HR := Lib.hid hr0
  obtain ⟨a0, n0, c0, rfl⟩ := row_form h
  clear hb hx0 hr0 h
  go_enter Tryd.func19, Tryd.ntmps19
  go_wp2_with (go_at_call 39; fail)
  refine Hat.out.mono ?_
  rintro e w1 ⟨r, rfl, hat, hb1⟩
  obtain rfl := atR_no hat hn
  have hx := HX.out.below hb1 (by simp; omega)
  have hr := HR.out.below hb1 (by simp)
  have hc1 := hx.cell
  have hc2 := hr.cell
  have hf2 := hr.free
  have hq := World.cell?_setCell_same _ _ (.slice a0 n0 c0) hc2
  have hfin := Lib.hid (below_box (HB.out.trans (hb1.mono HB.out.size)) (b := w.heap.size + 1) (by omega) 0 (.slice a0 n0 c0))
  clear hx hr hat hb1
  go_wp2_with fail
  exact bodyPost_ret (v := .tuple #[.agg #[.slice a0 n0 c0], .int .i64 9]) (by simp [results, Tryd.results19, go_sem, hq]) rfl ⟨rfl, hfin.out⟩

set_option maxHeartbeats 1600000 in
theorem rpush_full {w : World} {s : Value} {S : List El} (h : RowR w 0 s S) (hl : S.length = 1024) (k v : Int) :
    Calls Tryd.prog 18 #[.agg #[s], .int .u64 k, .int .i64 v] w fun e w' => e = .returned (.tuple #[.agg #[s], .int .i64 0, .int .i64 7]) ∧ Below w.heap.size w w' := by
  have hb : Below w.heap.size w ((w.alloc (.cells #[s] 28)).alloc (.cells #[.slice none 0 0] 28)) := ((Below.refl _ _).alloc (Nat.le_refl _) _).alloc (by simp) _
  rcases h.form with ⟨_, rfl⟩ | ⟨g, cap, rfl, _⟩
  · simp at hl
  rw [hl]
  clear h
  go_enter Tryd.func18, Tryd.ntmps18
  go_wp2_with fail
  have hq := World.cell?_alloc_new (w.alloc (.cells #[.slice (some ⟨g, 0, none⟩) 1024 cap] 28)) #[.slice (some ⟨g, 0, none⟩) 1024 cap] 28
  refine bodyPost_ret (v := .tuple #[.agg #[.slice (some ⟨g, 0, none⟩) 1024 cap], .int .i64 0, .int .i64 7]) (by simp [results, Tryd.results18, go_sem]) rfl ⟨rfl, ?_⟩
  exact ((Below.refl _ _).alloc (Nat.le_refl _) _).alloc (by simp) _

/-- A world in which a copy stands in a box, beside the box of the result. -/
structure CopyAt (w w5 : World) (s' : Value) (S : List El) (b r : Nat) : Prop where
  row : RowR w5 w.heap.size s' S
  box : BoxR w5 b s'
  res : BoxR w5 r (.slice none 0 0)
  hb : w.heap.size ≤ b
  hr : w.heap.size ≤ r
  ne : b ≠ r
  below : Below w.heap.size w w5

set_option maxHeartbeats 3200000 in
theorem rchange_yes {w : World} {s : Value} {S : List El} (h : RowR w 0 s S) (hl : S.length ≤ 1024) (hnd : (hsOf S).Nodup) (x : Nat) (k : Int) (hx : x ∈ hsOf S) :
    Calls Tryd.prog 19 #[.agg #[s], .int .i64 x, .int .u64 k] w fun e w' => ∃ s', e = .returned (.tuple #[.agg #[s'], .int .i64 0]) ∧ RowR w' w.heap.size s' (changeS S x k) ∧ Below w.heap.size w w' := by
  have hb : Below w.heap.size w ((w.alloc (.cells #[s] 28)).alloc (.cells #[.slice none 0 0] 28)) := ((Below.refl _ _).alloc (Nat.le_refl _) _).alloc (by simp) _
  have h2 := h.below hb
  have Hat := Lib.hid (rat_any h2 hl x)
  have hx0 := (BoxR.new w s).alloc (.cells #[.slice none 0 0] 28)
  have hr0 : BoxR ((w.alloc (.cells #[s] 28)).alloc (.cells #[.slice none 0 0] 28)) (w.heap.size + 1) (.slice none 0 0) := block_new _ _ _ (by simp)
  have hs0 : ((w.alloc (.cells #[s] 28)).alloc (.cells #[.slice none 0 0] 28)).heap.size = w.heap.size + 2 := by simp
  have HB := Lib.hid hb
  have HX := Lib.hid hx0
  have HR := Lib.hid hr0
  have H2 := Lib.hid h2
  obtain ⟨a0, n0, c0, rfl⟩ := row_form h
  clear hb hx0 hr0 h h2
  go_enter Tryd.func19, Tryd.ntmps19
  go_wp2_with (go_at_call 39; fail)
  refine Hat.out.mono ?_
  rintro e w1 ⟨r, rfl, hat, hb1⟩
  obtain ⟨i, el, hi, rfl, hel⟩ := atR_yes hat ⟨x, rfl, hx⟩
  have hex : el.h = x := by omega
  subst hex
  have hil : i < S.length := (List.getElem?_eq_some_iff.1 hi).1
  have hx1 := HX.out.below hb1 (by simp; omega)
  have hr1 := HR.out.below hb1 (by simp)
  have hc1 := hx1.cell
  have h1 := H2.out.below hb1
  have hcopy := Lib.hid (rcopy_any h1 hl)
  have hB1 := HB.out.trans (hb1.mono HB.out.size)
  have hs1 := hb1.size
  clear hat H2 HX HR Hat
  go_wp2_with (go_at_call 23; fail)
  refine hcopy.out.mono ?_
  rintro e w3 ⟨s', rfl, hrow, hb3⟩
  have hs3 := hb3.size
  have hr3 := hr1.below hb3 (by omega)
  have hB3 := hB1.trans (hb3.mono hB1.size)
  have hrow4 : RowR (w3.alloc (.cells #[s'] 28)) w.heap.size s' S := (hrow.below ((Below.refl _ _).alloc (Nat.le_refl _) _)).mono (by omega)
  have hbox4 := BoxR.new w3 s'
  have hr4 := hr3.alloc (.cells #[s'] 28)
  have hB4 : Below w.heap.size w (w3.alloc (.cells #[s'] 28)) := hB3.alloc (by omega) _
  rcases hrow4.form with ⟨_, h0⟩ | ⟨g, cap, rfl, hg1, hg2, hcap, hcm⟩
  · rw [h0] at hil; simp at hil
  have c4 := hbox4.cell
  obtain ⟨_, _, k4⟩ := hrow4.cells i el hi
  have f4 : (w3.alloc (.cells #[.slice (some ⟨g, 0, none⟩) S.length cap] 28)).frozen? ⟨g, i * 3 + 2, none⟩ = false := World.ownsRow.frozenAt hrow4 _
  -- the key is written
  obtain ⟨hst, hgr⟩ := World.ownsRow.stored hrow4 (i * 3 + 2) (.int .u64 k)
  have hgb : g ≠ w3.heap.size := by simpa using BodAt.row_ne hrow4 hbox4 (by decide) g rfl
  have hgr' : g ≠ w.heap.size + 1 := by simpa using BodAt.row_ne hrow4 hr4 (by decide) g rfl
  have hbox5 := hbox4.other (Ne.symm hgb) (i * 3 + 2) (.int .u64 k)
  have hr5 := hr4.other (Ne.symm hgr') (i * 3 + 2) (.int .u64 k)
  have hB5 := below_box hB4 hg1 (i * 3 + 2) (.int .u64 k)
  have c5 := hbox5.cell
  have r5 := hr5.cell
  have f5 := hr5.free
  have hlen : (changeS S el.h k).length = S.length := by simp [changeS]
  have hrow5 : RowR ((w3.alloc (.cells #[.slice (some ⟨g, 0, none⟩) S.length cap] 28)).setCell ⟨g, i * 3 + 2, none⟩ (.int .u64 k)) w.heap.size (.slice (some ⟨g, 0, none⟩) S.length cap) (changeS S el.h k) := by
    unfold RowR
    rw [hlen, changeS_eq S i el k hnd hi, ← cellsS_set S i el k hi]
    exact hst
  have hrow6 := hrow5.box hr5 (.slice (some ⟨g, 0, none⟩) S.length cap)
  have hB6 := Lib.hid (below_box hB5 (b := w.heap.size + 1) (by omega) 0 (.slice (some ⟨g, 0, none⟩) S.length cap))
  have hq := World.cell?_setCell_same _ _ (.slice (some ⟨g, 0, none⟩) S.length cap) r5
  have Hrow6 := Lib.hid hrow6
  have g1 : (i : Int) < (S.length : Int) := by omega
  have g2 : (0 : Int) ≤ (i : Int) := by omega
  clear hst hgr hbox5 hr5 hB5 hrow5 hrow6 hrow4 hbox4 hr4 hB4 hrow hr3 hr1 hx1 h1 hcopy hB3 hB1 HB hb1 hb3 hnd hx hi
  go_wp2_with fail
  exact bodyPost_ret (v := .tuple #[.agg #[.slice (some ⟨g, 0, none⟩) S.length cap], .int .i64 0]) (by simp [results, Tryd.results19, go_sem, hq]) rfl ⟨_, rfl, Hrow6.out, hB6.out⟩
end Go.Proofs.YtpbnbddjfebenaaDoor
