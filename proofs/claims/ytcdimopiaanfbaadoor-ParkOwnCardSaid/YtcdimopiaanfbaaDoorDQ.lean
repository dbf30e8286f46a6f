/- A queue in memory; usable, Len, New, Front. -/
import Derived.Test.YtcdimopiaanfbaaDoorDMem
import Derived.Deep.QuietTactic
import Derived.BigQuiet
import Derived.RegionTactic
namespace Go.Proofs.YtcdimopiaanfbaaDoor
open Go.RowKit Go.Sort Go.MapKept
set_option linter.unusedVariables false
set_option linter.unusedSimpArgs false

/-- The queue at block q: its body lies in block b, its links in block m. -/
structure QAt (w : World) (q b m : Nat) (L : Qu) (g : Nat) : Prop where
  q : w.heap[q]? = some (.cells #[.pointer (some ⟨b, 0, none⟩)] 117 (0, 0))
  b : w.heap[b]? = some (.cells #[encT (hdd 0 L), encT (lst 0 L), .map (some m), encT g] 128 (0, 0))
  m : LinkMap w m L.length (lks 0 0 L)
  inc : Inc 0 L
  le : lst 0 L ≤ g
/-- The body at block b. -/
structure BAt (w : World) (b m F E g n : Nat) (f : Nat → Option Lk) : Prop where
  b : w.heap[b]? = some (.cells #[encT F, encT E, .map (some m), encT g] 128 (0, 0))
  m : LinkMap w m n f

section
variable {w w' : World} {q b m g : Nat} {L : Qu}
theorem QAt.body (h : QAt w q b m L g) : BAt w b m (hdd 0 L) (lst 0 L) g L.length (lks 0 0 L) := ⟨h.b, h.m⟩
theorem QAt.same (h : QAt w q b m L g) (h1 : w'.heap[q]? = w.heap[q]?) (h2 : w'.heap[b]? = w.heap[b]?) (h3 : w'.heap[m]? = w.heap[m]?) : QAt w' q b m L g := ⟨h1.trans h.q, h2.trans h.b, h.m.same h3, h.inc, h.le⟩
theorem QAt.below {B : Nat} (h : QAt w q b m L g) (hb : Below B w w') (h1 : q < B) (h2 : b < B) (h3 : m < B) : QAt w' q b m L g := h.same (hb.block _ h1) (hb.block _ h2) (hb.block _ h3)
theorem QAt.lq (h : QAt w q b m L g) : q < w.heap.size := lt_of_block h.q
theorem QAt.lb (h : QAt w q b m L g) : b < w.heap.size := lt_of_block h.b
theorem QAt.lm (h : QAt w q b m L g) : m < w.heap.size := h.m.lt
theorem QAt.grown (h : QAt w q b m L g) (hb : Below w.heap.size w w') : QAt w' q b m L g := h.below hb h.lq h.lb h.lm
theorem QAt.fr {F : List Nat} (h : QAt w q b m L g) (hf : Fr F w w') (h1 : q ∉ F) (h2 : b ∉ F) (h3 : m ∉ F) : QAt w' q b m L g := h.same (hf.block _ h.lq h1) (hf.block _ h.lb h2) (hf.block _ h.lm h3)
theorem QAt.qb (h : QAt w q b m L g) : q ≠ b := ne_types h.q h.b (by decide)
theorem QAt.qm (h : QAt w q b m L g) : q ≠ m := h.m.ne h.q
theorem QAt.bm (h : QAt w q b m L g) : b ≠ m := h.m.ne h.b
/-- A block of another type is none of the queue's that may change. -/
theorem QAt.out (h : QAt w q b m L g) {k : Nat} {y : Array Value} {u : TypeId} (hc : w.heap[k]? = some (.cells y u (0, 0))) (hu : u ≠ 128) : k ∉ [b, m] := by
  have h1 := ne_types hc h.b hu
  have h2 := h.m.ne hc
  simp [h1, h2]
theorem QAt.cq (h : QAt w q b m L g) : w.cell? ⟨q, 0, none⟩ = some (.pointer (some ⟨b, 0, none⟩)) := cells_cell h.q rfl
end
section
variable {w w' : World} {b m F E g n : Nat} {f : Nat → Option Lk}
theorem BAt.c0 (h : BAt w b m F E g n f) : w.cell? ⟨b, 0, none⟩ = some (.int .u64 ((F : Nat) : Int)) := cells_cell h.b rfl
theorem BAt.c1 (h : BAt w b m F E g n f) : w.cell? ⟨b, 1, none⟩ = some (.int .u64 ((E : Nat) : Int)) := cells_cell h.b rfl
theorem BAt.c2 (h : BAt w b m F E g n f) : w.cell? ⟨b, 2, none⟩ = some (.map (some m)) := cells_cell h.b rfl
theorem BAt.c3 (h : BAt w b m F E g n f) : w.cell? ⟨b, 3, none⟩ = some (.int .u64 ((g : Nat) : Int)) := cells_cell h.b rfl
theorem BAt.free (h : BAt w b m F E g n f) (o : Nat) : w.frozen? ⟨b, o, none⟩ = false := cells_free h.b o
theorem BAt.lb (h : BAt w b m F E g n f) : b < w.heap.size := lt_of_block h.b
theorem BAt.lm (h : BAt w b m F E g n f) : m < w.heap.size := h.m.lt
theorem BAt.bm (h : BAt w b m F E g n f) : b ≠ m := h.m.ne h.b
theorem BAt.grown (h : BAt w b m F E g n f) (hb : Below w.heap.size w w') : BAt w' b m F E g n f := ⟨(hb.block _ h.lb).trans h.b, h.m.same (hb.block _ h.lm)⟩
theorem BAt.congr {f' : Nat → Option Lk} (h : BAt w b m F E g n f) (hs : ∀ k, f' k = f k) : BAt w b m F E g n f' := ⟨h.b, h.m.congr hs⟩
end

theorem fiUsable_yes {w : World} {q b m g : Nat} {L : Qu} (h : QAt w q b m L g) : Calls Tryd.prog 69 #[.pointer (some ⟨q, 0, none⟩)] w fun e w' => e = .returned (.bool true) ∧ w' = w := by
  have c := h.cq
  clear h
  go_enter Tryd.func69, Tryd.ntmps69
  go_wp2
  go_ret
  exact ⟨rfl, rfl⟩
theorem fiUsable_nil (w : World) : Calls Tryd.prog 69 #[.pointer none] w fun e w' => e = .returned (.bool false) ∧ w' = w := by
  go_enter Tryd.func69, Tryd.ntmps69
  go_wp2
  go_ret
  exact ⟨rfl, rfl⟩
theorem fiUsable_zero {w : World} {q : Nat} (c : w.cell? ⟨q, 0, none⟩ = some (.pointer none)) : Calls Tryd.prog 69 #[.pointer (some ⟨q, 0, none⟩)] w fun e w' => e = .returned (.bool false) ∧ w' = w := by
  go_enter Tryd.func69, Tryd.ntmps69
  go_wp2
  go_ret
  exact ⟨rfl, rfl⟩

theorem fiLen_any {w : World} {q b m g : Nat} {L : Qu} (h : QAt w q b m L g) : Calls Tryd.prog 49 #[.pointer (some ⟨q, 0, none⟩)] w fun e w' => e = .returned (.int .i64 ((L.length : Nat) : Int)) ∧ w' = w := by
  have hu := Lib.hid (fiUsable_yes h)
  have c := h.cq
  have c2 := h.body.c2
  have hl := h.m.len
  clear h
  generalize L.length = n at *
  go_enter Tryd.func49, Tryd.ntmps49
  go_wp2_with (go_at_call 69; refine hu.out.mono ?_; rintro e w2 ⟨rfl, rfl⟩)
  go_ret
  exact ⟨rfl, rfl⟩
theorem fiNew_any (w : World) : Calls Tryd.prog 55 #[] w fun e w' => ∃ q b m, e = .returned (.pointer (some ⟨q, 0, none⟩)) ∧ QAt w' q b m [] 0 ∧ Grn w w' ∧ w.heap.size ≤ q ∧ w.heap.size ≤ b ∧ w.heap.size ≤ m := by
  have hmm := @run_makeMap Tryd.prog
  go_enter Tryd.func55, Tryd.ntmps55
  go_wp2
  go_ret
  have h1 := linkMap_made w
  refine ⟨_, w.heap.size + 1, w.heap.size, rfl, ⟨?_, ?_, ?_, trivial, Nat.le_refl _⟩, (((Grn.refl w).alloc _).alloc _).alloc _, by omega, by omega, Nat.le_refl _⟩
  · exact block_new _ _ _ (by simp)
  · exact ((below_alloc _ _).block _ (by simp)).trans (block_new _ _ _ (by simp))
  · exact (h1.same ((below_alloc _ _).block _ (by simp))).same ((below_alloc _ _).block _ (by simp; omega))
end Go.Proofs.YtcdimopiaanfbaaDoor
