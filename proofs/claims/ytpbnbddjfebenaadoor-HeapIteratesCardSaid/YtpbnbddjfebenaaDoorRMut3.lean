/- The reference heap: Remove and Push where they change it. -/
import Derived.Test.YtpbnbddjfebenaaDoorRMut2
namespace Go.Proofs.YtpbnbddjfebenaaDoor
open Go.RowKit Go.Sort
set_option linter.unusedVariables false
set_option linter.unusedSimpArgs false

set_option maxRecDepth 100000 in
set_option maxHeartbeats 3200000 in
theorem rremove_yes {w : World} {s : Value} {S : List El} (h : RowR w 0 s S) (hl : S.length ≤ 1024) (hnd : (hsOf S).Nodup) (x : Nat) (hx : x ∈ hsOf S) :
    Calls Tryd.prog 20 #[.agg #[s], .int .i64 x] w fun e w' => ∃ s', e = .returned (.tuple #[.agg #[s'], .int .i64 0]) ∧ RowR w' w.heap.size s' (removeS S x) ∧ Below w.heap.size w w' := by
  obtain ⟨i0, hi0, _, hi1, _⟩ := info_parts infoREl
  have hb : Below w.heap.size w ((w.alloc (.cells #[s] 28)).alloc (.cells #[.slice none 0 0] 28)) := ((Below.refl _ _).alloc (Nat.le_refl _) _).alloc (by simp) _
  have h2 := h.below hb
  have Hat := Lib.hid (rat_any h2 hl x)
  have hx0 := (BoxR.new w s).alloc (.cells #[.slice none 0 0] 28)
  have hr0 : BoxR ((w.alloc (.cells #[s] 28)).alloc (.cells #[.slice none 0 0] 28)) (w.heap.size + 1) (.slice none 0 0) := block_new _ _ _ (by simp)
  have hs0 : ((w.alloc (.cells #[s] 28)).alloc (.cells #[.slice none 0 0] 28)).heap.size = w.heap.size + 2 := by simp
  have HB := Lib.hid hb
  have HX := Lib.hid hx0
  have HR := Lib.hid hr0
  have H2 := Lib.hid h2
  obtain ⟨a0, n0, c0, rfl⟩ := row_form h
  clear hb hx0 hr0 h h2
  go_enter Tryd.func20, Tryd.ntmps20
  go_wp2_with (go_at_call 39; fail)
  refine Hat.out.mono ?_
  rintro e w1 ⟨r, rfl, hat, hb1⟩
  obtain ⟨i, el, hi, rfl, hel⟩ := atR_yes hat ⟨x, rfl, hx⟩
  have hex : el.h = x := by omega
  subst hex
  have hil : i < S.length := (List.getElem?_eq_some_iff.1 hi).1
  have hx1 := HX.out.below hb1 (by simp; omega)
  have hr1 := HR.out.below hb1 (by simp)
  have hc1 := hx1.cell
  have h1 := H2.out.below hb1
  have hcopy := Lib.hid (rcopy_any h1 hl)
  have hB1 := HB.out.trans (hb1.mono HB.out.size)
  have hs1 := hb1.size
  clear hat H2 HX HR Hat
  go_wp2_with (go_at_call 23; fail)
  refine hcopy.out.mono ?_
  rintro e w3 ⟨s', rfl, hrow, hb3⟩
  have hs3 := hb3.size
  have hr3 := hr1.below hb3 (by omega)
  have hB3 := hB1.trans (hb3.mono hB1.size)
  have hrow4 : RowR (w3.alloc (.cells #[s'] 28)) w.heap.size s' S := (hrow.below ((Below.refl _ _).alloc (Nat.le_refl _) _)).mono (by omega)
  have hbox4 := BoxR.new w3 s'
  have hr4 := hr3.alloc (.cells #[s'] 28)
  have hB4 : Below w.heap.size w (w3.alloc (.cells #[s'] 28)) := hB3.alloc (by omega) _
  rcases hrow4.form with ⟨_, h0⟩ | ⟨g, cap, rfl, hg1, hg2, hcap, hcm⟩
  · rw [h0] at hil; simp at hil
  have hgb : g ≠ w3.heap.size := by simpa using BodAt.row_ne hrow4 hbox4 (by decide) g rfl
  have hgr' : g ≠ w.heap.size + 1 := by simpa using BodAt.row_ne hrow4 hr4 (by decide) g rfl
  have c4 := hbox4.cell
  -- where what stays begins
  have hcells := Lib.hid (row_cells hrow4)
  obtain ⟨A, hA, hnews⟩ : ∃ A : Addr, (if cap = i + 1 then some (⟨g, 0, none⟩ : Addr) else some ⟨g, (i + 1) * 3, none⟩) = some A ∧ Hid (∀ j u, (cellsS (S.drop (i + 1)))[j]? = some u → (w3.alloc (.cells #[.slice (some ⟨g, 0, none⟩) S.length cap] 28)).drew.cell? (A.add j) = some u) := by
    by_cases hc : cap = i + 1
    · refine ⟨⟨g, 0, none⟩, by simp [hc], fun j u hu => ?_⟩
      have hd : S.drop (i + 1) = [] := List.drop_eq_nil_of_le (by omega)
      rw [hd] at hu
      simp [cellsS] at hu
    · refine ⟨⟨g, (i + 1) * 3, none⟩, by simp [hc], fun j u hu => ?_⟩
      rw [cellsS_drop S (i + 1) (by omega)] at hu
      have := hcells.out _ _ hu
      rw [Go.WideShapes.add_plain, Nat.zero_add] at this
      rw [Go.WideShapes.add_plain]
      exact this
  have hpre : Hid ((w3.alloc (.cells #[.slice (some ⟨g, 0, none⟩) S.length cap] 28)).drew.ownsRow w.heap.size 64 3 (.slice (some ⟨g, 0, none⟩) i cap) i (cellsS (S.take i))) := by
    have := row_prefix hrow4 i (by omega)
    rw [cellsS_take] at this
    exact this.drew
  have s1 : Hid ((cellsS (S.drop (i + 1))).length = (S.length - (i + 1)) * 3) := by
    have := cellsS_len (S.drop (i + 1)); rw [List.length_drop] at this; exact this
  have s2 := Lib.hid (cellsS_one (S.drop (i + 1)))
  have hic : i ≤ cap := by omega
  have hil' : i ≤ S.length := by omega
  have hwr : IntKind.i64.wrap ((i : Int) + 1) = (i : Int) + 1 := by rw [IntKind.wrap_i64]; omega
  have hp0 : (0 : Int) ≤ (i : Int) + 1 := by omega
  have hp1 : (i : Int) + 1 ≤ (S.length : Int) := by omega
  have hp2 : ((i : Int) + 1).toNat = i + 1 := by omega
  have hlen2 : i + (S.length - (i + 1)) = (removeS S el.h).length := by rw [removeS_eq S i el hnd hi, List.length_append, List.length_take, List.length_drop]; omega
  have hcs2 : cellsS (S.take i) ++ cellsS (S.drop (i + 1)) = cellsS (removeS S el.h) := by rw [removeS_eq S i el hnd hi, cellsS_append]
  -- behind the append
  have tail : Hid (∀ w6, w6.ownsRow w.heap.size 64 3 (.slice (some ⟨g, 0, none⟩) (i + (S.length - (i + 1))) cap) (i + (S.length - (i + 1))) (cellsS (S.take i) ++ cellsS (S.drop (i + 1))) → (w3.alloc (.cells #[.slice (some ⟨g, 0, none⟩) S.length cap] 28)).drew.grownBy w6 (some g) →
      BoxR w6 w3.heap.size (.slice (some ⟨g, 0, none⟩) S.length cap) ∧ BoxR w6 (w.heap.size + 1) (.slice none 0 0) ∧ RowR w6 w.heap.size (.slice (some ⟨g, 0, none⟩) (i + (S.length - (i + 1))) cap) (removeS S el.h) ∧ Below w.heap.size w w6) := by
    intro w6 ho hg
    refine ⟨BoxR.grown (w := (w3.alloc (.cells #[.slice (some ⟨g, 0, none⟩) S.length cap] 28)).drew) hbox4 hg (by simp; omega), BoxR.grown (w := (w3.alloc (.cells #[.slice (some ⟨g, 0, none⟩) S.length cap] 28)).drew) hr4 hg (by simp; omega), ?_, ?_⟩
    · unfold RowR
      rw [← hlen2, ← hcs2]
      exact ho
    · exact (below_drewN hB4 1).grown hg (by show w.heap.size ≤ (w3.alloc (.cells #[.slice (some ⟨g, 0, none⟩) S.length cap] 28)).heap.size; simp; omega) (fun k hk => by cases hk; exact hg1)
  clear hrow4 hbox4 hr4 hB4 hrow hr3 hr1 hx1 h1 hcopy hB3 hB1 HB hb1 hb3 hnd hx hi hcs2 hlen2
  go_wp2_with fail
  go_region_law (refine step_append_fits rfl (.tmp 19) (.tmp 24) 26 rfl w.heap.size 64 i0 3 Tryd.underlying26 hi0 hi1 g i cap (cellsS (S.take i)) (by simp [Act.eval, Act.put]) hpre.out A (S.length - (i + 1)) (cap - (i + 1)) (cellsS (S.drop (i + 1))) (by simp [Act.eval, Act.put]) s1.out hnews.out s2.out (by omega) ?_; intro w6 ho hg; obtain ⟨t1, t2, t3, t4⟩ := tail.out w6 ho hg; have b1 := t1.cell; have b2 := t1.free; have b3 := t2.cell; have b4 := t2.free)
  all_goals
    have hne : w.heap.size + 1 ≠ w3.heap.size := by omega
    have hw3 : w.heap.size ≤ w3.heap.size := by omega
    have t2' := t2.other hne 0 (.slice (some ⟨g, 0, none⟩) (i + (S.length - (i + 1))) cap)
    have t1' := t1.set (.slice (some ⟨g, 0, none⟩) (i + (S.length - (i + 1))) cap)
    have t3' := t3.box t1 (.slice (some ⟨g, 0, none⟩) (i + (S.length - (i + 1))) cap)
    have t4' := below_box t4 hw3 0 (.slice (some ⟨g, 0, none⟩) (i + (S.length - (i + 1))) cap)
    have b5 := t1'.cell
    have b6 := t2'.cell
    have b7 := t2'.free
    have t5 := Lib.hid (t3'.box t2' (.slice (some ⟨g, 0, none⟩) (i + (S.length - (i + 1))) cap))
    have t6 := Lib.hid (below_box t4' (b := w.heap.size + 1) (by omega) 0 (.slice (some ⟨g, 0, none⟩) (i + (S.length - (i + 1))) cap))
    have hq := World.cell?_setCell_same _ _ (.slice (some ⟨g, 0, none⟩) (i + (S.length - (i + 1))) cap) b6
    clear t1 t2 t3 t4 t1' t2' t3' t4' ho hg tail hpre hnews hcells s1 s2
    go_wp2_with fail
    exact bodyPost_ret (v := .tuple #[.agg #[.slice (some ⟨g, 0, none⟩) (i + (S.length - (i + 1))) cap], .int .i64 0]) (by simp [results, Tryd.results20, go_sem, hq]) rfl ⟨_, rfl, t5.out, t6.out⟩
end Go.Proofs.YtpbnbddjfebenaaDoor
