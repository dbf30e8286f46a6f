/- The reference of the timers: Next. -/
import Derived.Test.YthlbnlbkgiclpaaDoorMFirst
namespace Go.Proofs.YthlbnlbkgiclpaaDoor
open Go.RowKit Go.Sort
set_option linter.unusedVariables false
set_option linter.unusedSimpArgs false

theorem BestM.same {L : List Tm} {k b c : Nat} {e x : Tm} (h : BestM L k b e) (g : BestM L k c x) : b = c ∧ e = x := by
  have hbc : b = c := by
    have h1 := h.2.2.2 c x g.1 g.2.1 g.2.2.1
    have h2 := g.2.2.2 b e h.1 h.2.1 h.2.2.1
    rcases Nat.lt_trichotomy b c with q | q | q
    · have := h2.2 q; omega
    · exact q
    · have := h1.2 q; omega
  subst hbc
  have h1 := h.2.1
  rw [g.2.1] at h1
  cases h1
  exact ⟨rfl, rfl⟩
theorem BestM.none {L : List Tm} {k b : Nat} {e : Tm} (h : BestM L k b e) (g : NoneM L k) : False := by
  have := g b e h.1 h.2.1
  rw [h.2.2.1] at this
  cases this
/-- What Next says. -/
def NextM (L : List Tm) (v : Int) : Prop := (v = 18446744073709551615 ∧ NoneM L L.length) ∨ ∃ (b : Nat) (e : Tm), v = e.k ∧ BestM L L.length b e

set_option maxRecDepth 100000 in
set_option maxHeartbeats 400000 in
theorem mnext_any {w : World} {s : Value} {L : List Tm} (h : RowM w 0 s L) (hl : L.length ≤ 100000) :
    Calls Tryd.prog 19 #[.agg #[s]] w fun e w' => ∃ v, e = .returned (.int .u64 v) ∧ NextM L v ∧ Grn w w' := by
  obtain ⟨W, hW⟩ : ∃ W, w.alloc (.cells #[s] 51) = W := ⟨_, rfl⟩
  have hg : Grn w W := by rw [← hW]; exact (Grn.refl w).alloc _
  have hr := h.below hg.below
  have hbox : BoxM W w.heap.size s := by rw [← hW]; exact BoxM.new w s
  have Hf := Lib.hid (mfirst_any hr hl)
  have HR := Lib.hid hr
  have HX := Lib.hid hbox
  have hs : W.heap.size = w.heap.size + 1 := by rw [← hW]; simp
  have hcell := hbox.cell
  obtain ⟨a, n, c, rfl⟩ := row_form h
  have HW := Lib.hid hW
  have Hg := Lib.hid hg
  clear h hW hg hr hbox
  go_enter Tryd.func19, Tryd.ntmps19
  go_wp2_with (first | (rw [HW.out]; go_at_call 56) | go_at_call 56; fail)
  first | rw [HW.out] | skip
  refine Hf.out.mono ?_
  rintro e w1 ⟨r, rfl, hF, hg1⟩
  have Hg1 := Lib.hid hg1
  rcases hF with ⟨rfl, hN⟩ | ⟨b, x, rfl, hB⟩
  · have Hn := Lib.hid hN
    clear hN hg1
    go_wp2_with fail
    go_ret
    exact ⟨_, rfl, .inl ⟨rfl, Hn.out⟩, Hg.out.trans Hg1.out⟩
  · have HB := Lib.hid hB
    have hb1 := hg1.below
    have hr1 := HR.out.below hb1
    have hbox1 := HX.out.below hb1 (by omega)
    have hcell1 := hbox1.cell
    have hbn : ¬ ((b : Int) < 0) := by omega
    have hil := HB.out.1
    obtain ⟨gg, vc2, h1, _, _⟩ := row_some hr1 (by omega)
    simp only [Value.slice.injEq] at h1
    obtain ⟨rfl, rfl, rfl⟩ := h1
    obtain ⟨_, _, _, ca, _⟩ := hr1.cells b x HB.out.2.1
    have al : w.heap.size < w1.heap.size := hbox1.lt
    have bl : gg < w1.heap.size := by simpa using World.block_lt_of_cell? w1 _ ca
    have Hf1 : Hid (∀ W', Below w1.heap.size w1 W' → Calls Tryd.prog 56 #[.agg #[.slice (some ⟨gg, 0, none⟩) L.length c]] W' fun e w' => e = .returned (.int .i64 b) ∧ Grn W' w') := Lib.hid (fun W' hb => by
      refine (mfirst_any (hr1.below hb) hl).mono ?_
      rintro e w' ⟨r, rfl, hF, hg⟩
      rcases hF with ⟨_, hN⟩ | ⟨b', x', rfl, hB'⟩
      · exact (HB.out.none hN).elim
      · obtain ⟨hbb, _⟩ := HB.out.same hB'
        subst hbb
        exact ⟨rfl, hg⟩)
    have hbx : Below w1.heap.size w1 w1.drew := (Below.refl _ _).drew
    have hgx : Hid (Grn w1 w1.drew) := Lib.hid ((Grn.refl w1).drew 1)
    have hbi : (b : Int) < (L.length : Int) := by omega
    have hb0 : (0 : Int) ≤ (b : Int) := by omega
    clear hB hg1 hb1 hr1 hbox1
    go_wp2_with fail
    go_region_held3 (fun w' => w'.cell? ⟨w.heap.size, 0, none⟩ = some (.slice (some ⟨gg, 0, none⟩) L.length c) ∧ w'.cell? ⟨gg, b * 5 + 3, none⟩ = some (.int .u64 x.k)) (go_keep) (first | (go_at_call 56; refine (Hf1.out _ hbx).mono ?_; rintro e w2 ⟨rfl, hg2⟩; have hbx := hbx.trans (hg2.below.mono hbx.size); have k1 := (hbx.cell (p := ⟨w.heap.size, 0, none⟩) al).trans hcell1; have k2 := (hbx.cell (p := ⟨gg, b * 5 + 3, none⟩) bl).trans ca))
    have Hg2 := Lib.hid hg2
    clear hg2
    go_wp2_with fail
    go_ret
    exact ⟨_, rfl, .inr ⟨b, x, rfl, HB.out⟩, (Hg.out.trans Hg1.out).trans (hgx.out.trans Hg2.out)⟩
end Go.Proofs.YthlbnlbkgiclpaaDoor
