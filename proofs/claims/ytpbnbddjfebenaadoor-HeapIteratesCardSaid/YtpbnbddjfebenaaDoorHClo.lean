/- The two closures over a heap's body: what compares two handles, and what is told where a handle lies. -/
import Derived.Test.YtpbnbddjfebenaaDoorHCmp
import Derived.Shelf.SlSortCmp.QuietGrown
namespace Go.Proofs.YtpbnbddjfebenaaDoor
open Go.RowKit Go.Sort
open BodAt (row_ne row_row_ne)
set_option linter.unusedVariables false
set_option linter.unusedSimpArgs false

/-- What a body with an element says of its cells. -/
structure Cellsy (w : World) (h : Hp) (s : Bd) (g cap : Nat) : Prop where
  ve : h.ve = .slice (some ⟨g, 0, none⟩) s.n cap
  glt : g < w.heap.size
  blt : h.bb < w.heap.size
  clt : h.cb < w.heap.size
  nle : s.n ≤ 9223372036854775807
  c : w.cell? ⟨h.cb, 0, none⟩ = some (.pointer (some ⟨h.bb, 0, none⟩))
  b0 : w.cell? ⟨h.bb, 0, none⟩ = some (.slice (some ⟨g, 0, none⟩) s.n cap)
  e0 : ∀ x, x < s.n → w.cell? ⟨g, x * 4, none⟩ = some (.int .u64 (s.K x).key)
  e1 : ∀ x, x < s.n → w.cell? ⟨g, x * 4 + 1, none⟩ = some (.int .i64 (s.K x).val)
  e2 : ∀ x, x < s.n → w.cell? ⟨g, x * 4 + 2, none⟩ = some (.int .u64 (s.K x).num)
  e3 : ∀ x, x < s.n → w.cell? ⟨g, x * 4 + 3, none⟩ = some (.int .i64 (s.X x))
  fr : ∀ j, w.frozen? ⟨g, j, none⟩ = false

theorem BodAt.cellsy {w : World} {h : Hp} {s : Bd} (b : BodAt w h s) (hn : 0 < s.n) : ∃ g cap, Cellsy w h s g cap := by
  obtain ⟨xs, ho, hx⟩ := b.he.ex
  obtain ⟨cur, hcur, hs, h0, _⟩ := b.hb.ex
  rcases ho.2 with ⟨_, h1⟩ | ⟨g, cap, cu, hv, _, hg, hnc, hcm, hcs, htake⟩
  · omega
  · have hl : xs.length = s.n * 4 := ho.1
    have cell : ∀ j v, xs[j]? = some v → w.cell? ⟨g, j, none⟩ = some v := fun j v hv => by
      refine cells_cell hg ?_
      rw [← htake, List.getElem?_take] at hv
      split at hv
      · simpa using hv
      · cases hv
    unfold maxLen at hcm
    rw [hv] at h0
    exact ⟨g, cap, hv, lt_of_block hg, lt_of_block hcur, lt_of_block b.hc, by omega, cell_of_one b.hc, cells_cell hcur h0, fun x hxn => cell _ _ (hx x hxn).1, fun x hxn => cell _ _ (hx x hxn).2.1, fun x hxn => cell _ _ (hx x hxn).2.2.1, fun x hxn => cell _ _ (hx x hxn).2.2.2, fun j => cells_free hg j⟩

set_option maxHeartbeats 1600000 in
set_option maxRecDepth 100000 in
theorem cmpC_any {w : World} {h : Hp} {s : Bd} (b : BodAt w h s) (x y : Nat) (hx : x < s.n) (hy : y < s.n) :
    Calls Tryd.prog 36 #[encN x, encN y, .pointer (some ⟨h.cb, 0, none⟩)] w fun e w' => e = .returned (.int .i64 (cmpK s.K x y)) ∧ ∃ q os, w' = grow (w.drewN q) os := by
  obtain ⟨g, cap, C⟩ := b.cellsy (by omega)
  have hc : ∀ m os, (grow (w.drewN m) os).cell? ⟨h.cb, 0, none⟩ = some (.pointer (some ⟨h.bb, 0, none⟩)) := fun m os => cell_grown C.clt C.c m os
  have hb0 : ∀ m os, (grow (w.drewN m) os).cell? ⟨h.bb, 0, none⟩ = some (.slice (some ⟨g, 0, none⟩) s.n cap) := fun m os => cell_grown C.blt C.b0 m os
  have x0 : ∀ m os, (grow (w.drewN m) os).cell? ⟨g, x * 4, none⟩ = some (.int .u64 (s.K x).key) := fun m os => cell_grown C.glt (C.e0 x hx) m os
  have x1 : ∀ m os, (grow (w.drewN m) os).cell? ⟨g, x * 4 + 1, none⟩ = some (.int .i64 (s.K x).val) := fun m os => cell_grown C.glt (C.e1 x hx) m os
  have x2 : ∀ m os, (grow (w.drewN m) os).cell? ⟨g, x * 4 + 2, none⟩ = some (.int .u64 (s.K x).num) := fun m os => cell_grown C.glt (C.e2 x hx) m os
  have x3 : ∀ m os, (grow (w.drewN m) os).cell? ⟨g, x * 4 + 3, none⟩ = some (.int .i64 (s.X x)) := fun m os => cell_grown C.glt (C.e3 x hx) m os
  have y0 : ∀ m os, (grow (w.drewN m) os).cell? ⟨g, y * 4, none⟩ = some (.int .u64 (s.K y).key) := fun m os => cell_grown C.glt (C.e0 y hy) m os
  have y1 : ∀ m os, (grow (w.drewN m) os).cell? ⟨g, y * 4 + 1, none⟩ = some (.int .i64 (s.K y).val) := fun m os => cell_grown C.glt (C.e1 y hy) m os
  have y2 : ∀ m os, (grow (w.drewN m) os).cell? ⟨g, y * 4 + 2, none⟩ = some (.int .u64 (s.K y).num) := fun m os => cell_grown C.glt (C.e2 y hy) m os
  have y3 : ∀ m os, (grow (w.drewN m) os).cell? ⟨g, y * 4 + 3, none⟩ = some (.int .i64 (s.X y)) := fun m os => cell_grown C.glt (C.e3 y hy) m os
  have hn := C.nle
  have hxi : (x : Int) < (s.n : Int) := by omega
  have hyi : (y : Int) < (s.n : Int) := by omega
  have hcmp := Lib.hid (fun w => compare_any (s.K x) (s.K y) (s.X x) (s.X y) w)
  have hE := Lib.hid (cmpK_or s.K x y)
  clear C b
  unfold encN
  have mixed : Tryd.prog.follows .mixedOrders = true := by kernel_rfl
  go_enter Tryd.func36, Tryd.ntmps36
  go_wp2_with fail
  go_quiet_grown ((go_at_call 37; refine Calls.grown_of (hcmp.out _)))
  go_wp2_with fail
  go_ret
  exact ⟨by rw [← hE.out]; rfl, _, _, rfl⟩

theorem foot_rows (h : Hp) : ∀ k, k ∈ h.rows → k ∈ h.foot := by
  intro k hk
  simp only [Hp.rows, Hp.foot, List.mem_append] at *
  rcases hk with hk | hk
  · exact .inl (.inr hk)
  · exact .inr hk

theorem ElAt.ne {w : World} {ve : Value} {n : Nat} {K : Nat → Kvn} {X : Nat → Int} (he : ElAt w ve n K X) {c : Nat} {y : Array Value} {u : TypeId} (hc : w.heap[c]? = some (.cells y u (0, 0))) (hn : 80 ≠ u) : ∀ g, ve.ownBlock = some g → g ≠ c := by
  obtain ⟨xs, ho, _⟩ := he.ex
  exact BodAt.row_ne ho hc hn

/-- The index of an element is written. -/
theorem BodAt.setX {w : World} {h : Hp} {s : Bd} (b : BodAt w h s) {g cap x : Nat} (hv : h.ve = .slice (some ⟨g, 0, none⟩) s.n cap) (hx : x < s.n) (i : Int) :
    BodAt (w.setCell ⟨g, x * 4 + 3, none⟩ (.int .i64 i)) h { s with X := upd s.X x i } ∧ Fr h.rows w (w.setCell ⟨g, x * 4 + 3, none⟩ (.int .i64 i)) := by
  have hg : h.ve.ownBlock = some g := by rw [hv]; rfl
  obtain ⟨xs, ho, hxs⟩ := b.he.ex
  obtain ⟨cur, hcur, hr⟩ := b.hb.ex
  have hfr : Fr [g] w (w.setCell ⟨g, x * 4 + 3, none⟩ (.int .i64 i)) := fr_setCell w ⟨g, x * 4 + 3, none⟩ _
  have na : h.a ≠ g := fun e => row_ne ho b.ha (by decide) g hg e.symm
  have nc : h.cb ≠ g := fun e => row_ne ho b.hc (by decide) g hg e.symm
  have nb : h.bb ≠ g := fun e => row_ne ho hcur (by decide) g hg e.symm
  have ni : ∀ k, h.vi.ownBlock = some k → k ∉ [g] := fun k hk e => row_row_ne ho b.hi (by decide) g k hg hk (by simpa using (List.mem_singleton.1 e).symm)
  refine ⟨⟨hfr.same b.ha (by simpa using na), hfr.same b.hc (by simpa using nc), ⟨cur, hfr.same hcur (by simpa using nb), hr⟩, ?_, hfr.row b.hi ni⟩, hfr.mono (fun k hk => .inl (by simp only [List.mem_cons, List.not_mem_nil, or_false] at hk; subst hk; simp [Hp.rows, hg]))⟩
  rw [hv] at ho
  have hst := (ho.stored (x * 4 + 3) (.int .i64 i)).1
  have hl := ho.1
  refine ⟨_, by rw [hv]; exact hst, fun k hk => ?_⟩
  obtain ⟨e0, e1, e2, e3⟩ := hxs k hk
  refine ⟨by rw [List.getElem?_set_ne (by omega)]; exact e0, by rw [List.getElem?_set_ne (by omega)]; exact e1, by rw [List.getElem?_set_ne (by omega)]; exact e2, ?_⟩
  by_cases e : k = x
  · subst e
    rw [List.getElem?_set_self (by omega)]
    simp [upd]
  · rw [List.getElem?_set_ne (by omega), e3]
    simp [upd, e]

/-- A handle is laid into the layout. -/
theorem BodAt.setI {w : World} {h : Hp} {s : Bd} (b : BodAt w h s) {g cap : Nat} (hv : h.vi = .slice (some ⟨g, 0, none⟩) s.its.length cap) (j x : Nat) :
    BodAt (w.setCell ⟨g, j, none⟩ (encN x)) h { s with its := s.its.set j x } ∧ Fr h.rows w (w.setCell ⟨g, j, none⟩ (encN x)) := by
  have hg : h.vi.ownBlock = some g := by rw [hv]; rfl
  obtain ⟨xs, ho, hxs⟩ := b.he.ex
  obtain ⟨cur, hcur, hr⟩ := b.hb.ex
  have hfr : Fr [g] w (w.setCell ⟨g, j, none⟩ (encN x)) := fr_setCell w ⟨g, j, none⟩ _
  have na : h.a ≠ g := fun e => row_ne b.hi b.ha (by decide) g hg e.symm
  have nc : h.cb ≠ g := fun e => row_ne b.hi b.hc (by decide) g hg e.symm
  have nb : h.bb ≠ g := fun e => row_ne b.hi hcur (by decide) g hg e.symm
  have ni : ∀ k, h.ve.ownBlock = some k → k ∉ [g] := fun k hk e => row_row_ne b.hi ho (by decide) g k hg hk (by simpa using (List.mem_singleton.1 e).symm)
  have hi := b.hi
  rw [hv] at hi
  have hst := (hi.stored j (encN x)).1
  refine ⟨⟨hfr.same b.ha (by simpa using na), hfr.same b.hc (by simpa using nc), ⟨cur, hfr.same hcur (by simpa using nb), hr⟩, ⟨xs, hfr.row ho ni, hxs⟩, ?_⟩, hfr.mono (fun k hk => .inl (by simp only [List.mem_cons, List.not_mem_nil, or_false] at hk; subst hk; simp [Hp.rows, hg]))⟩
  show World.ownsRow _ 0 3 1 h.vi (s.its.set j x).length ((s.its.set j x).map encN)
  rw [hv, List.length_set, List.map_set]
  exact hst

set_option maxHeartbeats 800000 in
theorem plC_any {w : World} {h : Hp} {s : Bd} (b : BodAt w h s) (x : Nat) (i : Int) (hx : x < s.n) :
    Calls Tryd.prog 38 #[encN x, .int .i64 i, .pointer (some ⟨h.cb, 0, none⟩)] w fun e w' => e = .returned (.tuple #[]) ∧ BodAt w' h { s with X := upd s.X x i } ∧ Fr h.rows w w' := by
  obtain ⟨g, cap, C⟩ := b.cellsy (by omega)
  have B := Lib.hid (b.setX C.ve hx i)
  have hc := C.c
  have hb0 := C.b0
  have hn := C.nle
  have hxi : (x : Int) < (s.n : Int) := by omega
  have e3 := C.e3 x hx
  have fr := C.fr (x * 4 + 3)
  clear C b
  unfold encN
  go_enter Tryd.func38, Tryd.ntmps38
  go_wp2_with fail
  go_end0
  exact ⟨rfl, B.out.1, B.out.2⟩
end Go.Proofs.YtpbnbddjfebenaaDoor
