/- The handles in order: slices.SortedFunc over the layout; All. -/
import Derived.Test.YtpbnbddjfebenaaDoorHIter
import Derived.Test.YtpbnbddjfebenaaDoorHSortL
import Derived.Outline
namespace Go.Proofs.YtpbnbddjfebenaaDoor
open Go.RowKit Go.Sort
set_option linter.unusedVariables false
set_option linter.unusedSimpArgs false

theorem sort_block {α : Type} [Inhabited α] (enc : α → Value) {w : World} {blk n : Nat} {os : Array Obj} {cur : Array Value} {e : TypeId} {fr : Nat × Nat} (d : Array α) (hb : w.heap[blk]? = some (.cells cur e fr)) :
    (sortWorld enc w blk 0 n d os).heap[blk]? = some (.cells (putCells enc 0 d cur) e fr) := by
  have hg : blk < w.heap.size := (Array.getElem?_eq_some_iff.1 hb).1
  unfold sortWorld
  rw [heap_grow_old _ _ (by simpa using hg)]
  simp [putRow, mapBlock, Sort.ahead, Array.getElem?_modify, hb, onCells]
theorem sort_fr {α : Type} [Inhabited α] (enc : α → Value) (w : World) (blk n : Nat) (os : Array Obj) (d : Array α) : Fr [blk] w (sortWorld enc w blk 0 n d os) := by
  refine ⟨rfl, rfl, rfl, by simp [sortWorld, grow, putRow, mapBlock, Sort.ahead], fun k hk hne => ?_⟩
  unfold sortWorld
  rw [heap_grow_old _ _ (by simpa using hk)]
  have : blk ≠ k := fun e => hne (by simp [e])
  simp [putRow, mapBlock, Sort.ahead, Array.getElem?_modify, this]

/-- A handle below n. -/
abbrev Hn (n : Nat) : Type := { x : Nat // x < n }
def encH (n : Nat) (x : Hn n) : Value := encN x.1

theorem take_put {n : Nat} [Inhabited (Hn n)] (cur : Array Value) (d : Array (Hn n)) (h : d.size ≤ cur.size) : (putCells (encH n) 0 d cur).toList.take d.size = (d.toList.map (fun x => x.1)).map encN := by
  apply List.ext_getElem?
  intro j
  by_cases hj : j < d.size
  · rw [List.getElem?_take_of_lt hj, Array.getElem?_toList]
    simp [putCells, hj, show j < cur.size by omega, encH]
  · rw [List.getElem?_take_eq_none (by omega), List.getElem?_eq_none (by simp; omega)]

set_option maxHeartbeats 800000 in
theorem ins_nil (f : Value) (w : World) : Calls Tryd.prog 60 #[.slice none 0 0, .int .i64 0, .int .i64 0, f] w fun e w' => e = .returned (.tuple #[]) ∧ w = w' := by
  go_enter Tryd.func60, Tryd.ntmps60
  go_wp2_with fail
  refine wp_loop_rounds 1 ?_
  rw [rounds_succ]
  go_wp2_with fail
  go_end0
  exact ⟨rfl, rfl⟩
set_option maxHeartbeats 1600000 in
theorem pdq_nil (l f : Value) (w : World) : Calls Tryd.prog 58 #[.slice none 0 0, .int .i64 0, .int .i64 0, l, f] w fun e w' => e = .returned (.tuple #[]) ∧ w = w' := by
  have hi := Lib.hid (fun f w => ins_nil f w)
  go_enter Tryd.func58, Tryd.ntmps58
  go_wp2_with fail
  refine wp_loop_rounds 1 ?_
  rw [rounds_succ]
  go_wp2_with (first | (go_at_call 60; refine (hi.out _ _).mono ?_; rintro e w' ⟨rfl, rfl⟩))
  refine bodyPost_ret (results_none rfl _ _ _) rfl ?_
  exact ⟨rfl, rfl⟩
set_option maxHeartbeats 1600000 in
theorem sort_nil (cb : Nat) (w : World) : Calls Tryd.prog 52 #[.slice none 0 0, cmpV cb] w fun e w' => e = .returned (.tuple #[]) ∧ w = w' := by
  unfold cmpV
  have hi := Lib.hid (fun l f w => pdq_nil l f w)
  go_enter Tryd.func52, Tryd.ntmps52
  go_wp2_with (first | (go_at_call 58; refine (hi.out _ _ _).mono ?_; rintro e w' ⟨rfl, rfl⟩) | go_in)
  go_end0
  exact ⟨rfl, rfl⟩

theorem swo_cmp (n : Nat) (K : Nat → Kvn) : SWO (Go.Proofs.ltOf (fun x y : Hn n => cmpK K x.1 y.1)) := by
  have e : ∀ x y : Hn n, Go.Proofs.ltOf (fun x y : Hn n => cmpK K x.1 y.1) x y = true ↔ ltK K x.1 y.1 := fun x y => by
    unfold Go.Proofs.ltOf
    rw [decide_eq_true_eq]
    exact cmpK_neg
  have e' : ∀ x y : Hn n, Go.Proofs.ltOf (fun x y : Hn n => cmpK K x.1 y.1) x y = false ↔ ¬ ltK K x.1 y.1 := fun x y => by
    rw [← e]; simp
  refine ⟨fun x => (e' x x).2 (ltK_irrefl K x.1), fun x y z h1 h2 => (e x z).2 (ltK_trans ((e x y).1 h1) ((e y z).1 h2)), fun x y z h1 h2 => (e' x z).2 (nlt_trans ((e' x y).1 h1) ((e' y z).1 h2))⟩

set_option maxHeartbeats 1600000 in
/-- slices.SortFunc of some of the handles. -/
theorem sortFunc_any {w : World} {h : Hp} {s : Bd} (b : BodAt w h s) {base g cap : Nat} {L : List Nat} (ho : w.ownsRow base 3 1 (.slice (some ⟨g, 0, none⟩) L.length cap) L.length (L.map encN)) (hg : g ∉ h.foot) (hlen : L.length ≤ 2000) (hn : 0 < s.n) (hm : ∀ x, x ∈ L → x < s.n) :
    Calls Tryd.prog 52 #[.slice (some ⟨g, 0, none⟩) L.length cap, cmpV h.cb] w fun e w' => e = .returned (.tuple #[]) ∧ ∃ L' : List Nat, L'.Perm L ∧ L'.Pairwise (fun x y => ¬ ltK s.K y x) ∧
      w'.ownsRow base 3 1 (.slice (some ⟨g, 0, none⟩) L.length cap) L'.length (L'.map encN) ∧ Fr [g] w w' := by
  haveI : Inhabited (Hn s.n) := ⟨⟨0, hn⟩⟩
  obtain ⟨cur, hbg, hgb, hnc, hcm, hcs, htake⟩ : ∃ cur, base ≤ g ∧ w.heap[g]? = some (.cells cur 3 (0, 0)) ∧ L.length ≤ cap ∧ cap ≤ maxLen ∧ cur.size = cap * 1 ∧ cur.toList.take (L.length * 1) = L.map encN := by
    rcases ho.2 with ⟨h', _⟩ | ⟨g', cap', cur, h', hb, hg', hnc, hcm, hcs, htake⟩
    · simp at h'
    · simp only [Value.slice.injEq, Option.some.injEq, Addr.mk.injEq, and_true, true_and] at h'
      obtain ⟨rfl, rfl⟩ := h'
      exact ⟨cur, hb, hg', hnc, hcm, hcs, htake⟩
  let d : Array (Hn s.n) := (L.pmap (fun x hx => (⟨x, hx⟩ : Hn s.n)) hm).toArray
  have hdl : d.size = L.length := by simp [d]
  have hdmap : d.toList.map (fun x => x.1) = L := by simp [d, List.map_pmap]
  have hdget : ∀ j, j < d.size → (d[j]!).1 = L.getD j 0 := fun j hj => by
    have hj' : j < L.length := by omega
    rw [getElem!_pos d j hj]
    simp [d, List.getD_eq_getElem?_getD, hj']
  have hH : Holds (encH s.n) w g 0 d := fun j hj => by
    have hj' : j < L.length := by omega
    refine ⟨?_, cells_free hgb _⟩
    rw [Nat.zero_add]
    have h1 : (L.map encN)[j]? = some (encN (L.getD j 0)) := by simp [List.getElem?_map, hj']
    have := row_cells ho j _ h1
    rw [Go.WideShapes.add_plain, Nat.zero_add] at this
    rw [this]
    unfold encH
    rw [hdget j hj]
  have eg : ∀ args w, (callFunc 36 args).run Tryd.prog w = .ok (.enter 36 args) w := enters_of Tryd.func36 (by kernel_rfl) rfl
  have hcmp : CmpLays1 Tryd.prog 36 #[.pointer (some ⟨h.cb, 0, none⟩)] (encH s.n) (fun x y : Hn s.n => cmpK s.K x.1 y.1) g 0 d.size w := by
    intro m os dk _ x y
    have bw := b.frame (sort_fr (encH s.n) w g m os dk) (fun k hk e => hg (by simp only [List.mem_cons, List.not_mem_nil, or_false] at e; rw [← e]; exact hk))
    exact cmpC_any bw x.1 y.1 x.2 y.2
  have hcon := Any.slices_SortFunc Tryd.sortL (encH s.n) (fun x => rfl) (fun x y : Hn s.n => cmpK s.K x.1 y.1) (swo_cmp s.n s.K) 36 #[.pointer (some ⟨h.cb, 0, none⟩)] g 0 cap d w eg hcmp hH (lt_of_block hgb) (by omega)
  rw [hdl] at hcon
  refine Calls.mono hcon ?_
  rintro e w' ⟨rfl, d', n, os, hperm, hsort, rfl⟩
  have hsz : d'.size = L.length := by rw [hperm.1, hdl]
  have hpl : d'.toList.Perm d.toList := by
    have h1 := hperm.2.2
    have e1 : d'.extract 0 L.length = d' := by rw [← hsz]; simp
    have e2 : d.extract 0 L.length = d := by rw [← hdl]; simp
    rw [e1, e2] at h1
    exact h1
  refine ⟨rfl, d'.toList.map (fun x => x.1), ?_, ?_, ?_, sort_fr _ _ _ _ _ _⟩
  · rw [← hdmap]; exact hpl.map _
  · rw [List.pairwise_map, List.pairwise_iff_getElem]
    intro i j hi hj hij
    have hj' : j < d'.size := by simpa using hj
    have hs := hsort i j (Nat.zero_le _) hij (by omega)
    rw [getElem!_pos d' j hj', getElem!_pos d' i (by omega)] at hs
    unfold Go.Proofs.ltOf at hs
    simp only [decide_eq_false_iff_not] at hs
    intro hl
    exact hs (cmpK_neg.2 (by simpa using hl))
  · have hb' := sort_block (encH s.n) (n := n) (os := os) d' hgb
    have hl' : (d'.toList.map (fun x => x.1)).length = L.length := by simp [hsz]
    refine ⟨by simp, .inr ⟨g, cap, _, by rw [hl'], hbg, hb', by omega, hcm, by simp [putCells, hcs], ?_⟩⟩
    rw [Nat.mul_one, hl', ← hsz]
    exact take_put cur d' (by omega)
end Go.Proofs.YtpbnbddjfebenaaDoor
