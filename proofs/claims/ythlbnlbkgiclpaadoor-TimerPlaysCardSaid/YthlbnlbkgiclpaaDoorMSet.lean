/- The reference of the timers: Set. -/
import Derived.Test.YthlbnlbkgiclpaaDoorMNext
namespace Go.Proofs.YthlbnlbkgiclpaaDoor
open Go.RowKit Go.Sort
set_option linter.unusedVariables false
set_option linter.unusedSimpArgs false

theorem low_allM (hs : List Nat) (j : Nat) (hj : j < lowOf hs) : j ∈ hs := by
  obtain ⟨l, h1, h2, _⟩ := low_ex hs
  rw [lowOf_eq h1 h2] at hj
  exact h2 j hj
/-- The numbers of the timers that are set. -/
def numsM (L : List Tm) : List Nat := (alive L).map Tm.n
theorem anyN_iff (L : List Tm) (j : Nat) : anyN (ofN L j) = true ↔ j ∈ numsM L := by
  unfold anyN ofN numsM alive
  simp only [List.any_eq_true, List.mem_filter, List.mem_map, decide_eq_true_eq, Bool.not_eq_true']
  constructor
  · rintro ⟨e, ⟨h1, h2⟩, h3⟩
    exact ⟨e, ⟨h1, h3⟩, by omega⟩
  · rintro ⟨e, ⟨h1, h3⟩, h2⟩
    exact ⟨e, ⟨h1, by omega⟩, h3⟩
/-- One more. -/
def setM (L : List Tm) (k o : Int) : List Tm := L ++ [⟨lowOf (numsM L), (ofN L (lowOf (numsM L))).length, o, k, false⟩]
theorem cells_setM (L : List Tm) (k o : Int) : cellsM (setM L k o) = cellsM L ++ [.int .i64 (lowOf (numsM L)), .int .i64 (ofN L (lowOf (numsM L))).length, .int .i64 o, .int .u64 k, .bool false] := by
  unfold setM; rw [cellsM_append]; rfl
theorem new_cells5 (w : World) (a b c d e : Value) (t : TypeId) : ∀ (j : Nat) (u : Value), [a, b, c, d, e][j]? = some u → (w.alloc (.cells #[a, b, c, d, e] t)).cell? ((⟨w.heap.size, 0, none⟩ : Addr).add j) = some u := by
  intro j u h
  rw [Go.WideShapes.add_plain, Nat.zero_add]
  exact cell_new _ _ _ _ _ _ rfl (by simpa using h)
/-- A block that holds a name. -/
def IdM (w : World) (b : Nat) (n g : Int) : Prop := w.heap[b]? = some (.cells #[.int .i64 n, .int .i64 g] 53 (0, 0))
theorem IdM.c0 {w : World} {b : Nat} {n g : Int} (h : IdM w b n g) : w.cell? ⟨b, 0, none⟩ = some (.int .i64 n) := cells_cell h rfl
theorem IdM.c1 {w : World} {b : Nat} {n g : Int} (h : IdM w b n g) : w.cell? ⟨b, 1, none⟩ = some (.int .i64 g) := cells_cell h rfl
theorem IdM.free {w : World} {b : Nat} {n g : Int} (h : IdM w b n g) (j : Nat) : w.frozen? ⟨b, j, none⟩ = false := cells_free h j
theorem IdM.lt {w : World} {b : Nat} {n g : Int} (h : IdM w b n g) : b < w.heap.size := World.block_lt_of_cell? w _ h.c0
theorem IdM.below {w w' : World} {b B : Nat} {n g : Int} (h : IdM w b n g) (hb : Below B w w') (hB : b < B) : IdM w' b n g := (hb.block b hB).trans h
theorem IdM.alloc {w : World} {b : Nat} {n g : Int} (h : IdM w b n g) (o : Obj) : IdM (w.alloc o) b n g := h.below ((Below.refl _ _).alloc (Nat.le_refl _) _) h.lt
theorem IdM.other {w : World} {b c : Nat} {n g : Int} (h : IdM w b n g) (hne : b ≠ c) (j : Nat) (u : Value) : IdM (w.setCell ⟨c, j, none⟩ u) b n g := cells_set_other h hne j u

/-- The results are stored. -/
theorem res_stored {w0 w1 : World} {b c : Nat} {s0 s : Value} {n0 g0 : Int} (h : BoxM w1 b s0) (hi : IdM w1 c n0 g0) (hne : c ≠ b) (hb : Below w0.heap.size w0 w1) (hbb : w0.heap.size ≤ b) (hcb : w0.heap.size ≤ c) (n g : Int) :
    (((w1.setCell ⟨b, 0, none⟩ s).setCell ⟨c, 0, none⟩ (.int .i64 n)).setCell ⟨c, 1, none⟩ (.int .i64 g)).cell? ⟨b, 0, none⟩ = some s
    ∧ (((w1.setCell ⟨b, 0, none⟩ s).setCell ⟨c, 0, none⟩ (.int .i64 n)).setCell ⟨c, 1, none⟩ (.int .i64 g)).cell? ⟨c, 0, none⟩ = some (.int .i64 n)
    ∧ (((w1.setCell ⟨b, 0, none⟩ s).setCell ⟨c, 0, none⟩ (.int .i64 n)).setCell ⟨c, 1, none⟩ (.int .i64 g)).cell? ⟨c, 1, none⟩ = some (.int .i64 g)
    ∧ Below w0.heap.size w0 (((w1.setCell ⟨b, 0, none⟩ s).setCell ⟨c, 0, none⟩ (.int .i64 n)).setCell ⟨c, 1, none⟩ (.int .i64 g)) := by
  have h1 : BoxM (w1.setCell ⟨b, 0, none⟩ s) b s := cells_set h 0 s
  have i1 := hi.other hne 0 s
  have i2 : ((w1.setCell ⟨b, 0, none⟩ s).setCell ⟨c, 0, none⟩ (.int .i64 n)).heap[c]? = some (.cells #[.int .i64 n, .int .i64 g0] 53 (0, 0)) := cells_set i1 0 _
  have i3 : (((w1.setCell ⟨b, 0, none⟩ s).setCell ⟨c, 0, none⟩ (.int .i64 n)).setCell ⟨c, 1, none⟩ (.int .i64 g)).heap[c]? = some (.cells #[.int .i64 n, .int .i64 g] 53 (0, 0)) := cells_set i2 1 _
  have h3 := (h1.other (Ne.symm hne) 0 (.int .i64 n)).other (Ne.symm hne) 1 (.int .i64 g)
  exact ⟨h3.cell, cells_cell i3 rfl, cells_cell i3 rfl, below_boxM (below_boxM (below_boxM hb hbb 0 s) hcb 0 _) hcb 1 _⟩

set_option maxRecDepth 100000 in
set_option maxHeartbeats 1600000 in
theorem mset_never {w : World} {s : Value} {L : List Tm} (h : RowM w 0 s L) (o : Int) :
    Calls Tryd.prog 49 #[.agg #[s], .int .u64 18446744073709551615, .int .i64 o] w fun e w' => e = .returned (.tuple #[.agg #[s], .agg #[.int .i64 0, .int .i64 0], .int .i64 2]) ∧ Below w.heap.size w w' := by
  obtain ⟨a0, n0, c0, rfl⟩ := row_form h
  clear h
  go_enter Tryd.func49, Tryd.ntmps49
  go_wp2_with fail
  refine bodyPost_ret (v := .tuple #[.agg #[.slice a0 n0 c0], .agg #[.int .i64 0, .int .i64 0], .int .i64 2]) (by simp [results, Tryd.results49, go_sem]) rfl ⟨rfl, (((Below.refl _ _).alloc (Nat.le_refl _) _).alloc (by simp) _).alloc (by simp; omega) _⟩

set_option maxRecDepth 100000 in
set_option maxHeartbeats 1600000 in
theorem mset_full {w : World} {s : Value} {L : List Tm} (h : RowM w 0 s L) (hl : L.length ≤ 100000) (hf : 1024 ≤ (alive L).length) (k o : Int) (hk : k ≠ 18446744073709551615) :
    Calls Tryd.prog 49 #[.agg #[s], .int .u64 k, .int .i64 o] w fun e w' => e = .returned (.tuple #[.agg #[s], .agg #[.int .i64 0, .int .i64 0], .int .i64 7]) ∧ Below w.heap.size w w' := by
  have hb : Below w.heap.size w (((w.alloc (.cells #[s] 51)).alloc (.cells #[.slice none 0 0] 51)).alloc (.cells #[.int .i64 0, .int .i64 0] 53)) := (((Below.refl _ _).alloc (Nat.le_refl _) _).alloc (by simp) _).alloc (by simp; omega) _
  have hlen := Lib.hid (mlen_any (h.below hb) hl)
  have hx0 := ((BoxM.new w s).alloc (.cells #[.slice none 0 0] 51)).alloc (.cells #[.int .i64 0, .int .i64 0] 53)
  have hr0 : BoxM (((w.alloc (.cells #[s] 51)).alloc (.cells #[.slice none 0 0] 51)).alloc (.cells #[.int .i64 0, .int .i64 0] 53)) (w.heap.size + 1) (.slice none 0 0) := BoxM.alloc (show BoxM ((w.alloc (.cells #[s] 51)).alloc (.cells #[.slice none 0 0] 51)) (w.heap.size + 1) (.slice none 0 0) from block_new _ _ _ (by simp)) _
  have hi0 : IdM (((w.alloc (.cells #[s] 51)).alloc (.cells #[.slice none 0 0] 51)).alloc (.cells #[.int .i64 0, .int .i64 0] 53)) (w.heap.size + 2) 0 0 := block_new _ _ _ (by simp)
  obtain ⟨a0, n0, c0, rfl⟩ := row_form h
  have hfi : (1024 : Int) ≤ ((alive L).length : Int) := by omega
  have HB := Lib.hid hb
  have HX := Lib.hid hx0
  have HR := Lib.hid hr0
  have hi0' := Lib.hid hi0
  clear h hb hx0 hr0 hi0
  have tk : (k == 18446744073709551615) = false := by simp [hk]
  go_enter Tryd.func49, Tryd.ntmps49
  go_wp2_with (go_at_call 17; fail)
  refine hlen.out.mono ?_
  rintro e w1 ⟨rfl, hg1⟩
  have hb1 := hg1.below
  have hx := HX.out.below hb1 (by simp; omega)
  have hr := HR.out.below hb1 (by simp)
  have hi := hi0'.out.below hb1 (by simp)
  have hc1 := hx.cell
  have hc2 := hr.cell
  have hf2 := hr.free
  have i0 := hi.c0
  have i1 := hi.c1
  have if0 := hi.free 0
  have if1 := hi.free 1
  have hi2 := hi.other (show w.heap.size + 2 ≠ w.heap.size + 1 by omega) 0 (.slice a0 n0 c0)
  have j0 := hi2.c0
  have j1 := hi2.c1
  have jf0 := hi2.free 0
  have jf1 := hi2.free 1
  have hres := res_stored (s := .slice a0 n0 c0) hr hi (by omega) (HB.out.trans (hb1.mono HB.out.size)) (by omega) (by omega) 0 0
  obtain ⟨q0, q1, q2, hfin⟩ := hres
  have HF := Lib.hid hfin
  have Q := Lib.hid (And.intro q0 (And.intro q1 q2))
  clear hx hr hi hi2 q0 q1 q2 hfin
  clear hb1 hg1
  go_wp2_with fail
  obtain ⟨q0, q1, q2⟩ := Q.out
  exact bodyPost_ret (v := .tuple #[.agg #[.slice a0 n0 c0], .agg #[.int .i64 0, .int .i64 0], .int .i64 7]) (by simp [results, Tryd.results49, go_sem, q0, q1, q2]) rfl ⟨rfl, HF.out⟩
end Go.Proofs.YthlbnlbkgiclpaaDoor
