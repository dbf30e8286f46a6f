/- All: the iterator, and a range over it. -/
import Derived.Test.YtcdimopiaanfbaaDoorDEnt
import Derived.RangeFuncBox
import Derived.RangeFuncLeaves
import Derived.RangeFuncNested
import Derived.Shelf.Abstract
import Derived.OwnWalkIn
import Derived.TacticsInMore
import Derived.LoopNIn
import Derived.LoopIn
namespace Go.Proofs.YtcdimopiaanfbaaDoor
open Go.RowKit Go.Sort Go.Shelf Go.MapKept
set_option linter.unusedVariables false
set_option linter.unusedSimpArgs false
attribute [local go_sem] Oper.semAt_some

/-- The iterator over the entries in block B. -/
def seqV (B : Nat) : Value := .func (.func 71) #[] #[.pointer (some ⟨B, 0, none⟩)]
/-- Below n0, only the blocks of F have changed. -/
structure Lets (F : List Nat) (n0 : Nat) (w w' : World) : Prop where
  size : w.heap.size ≤ w'.heap.size
  block : ∀ k, k < n0 → k ∉ F → w'.heap[k]? = w.heap[k]?
theorem Lets.refl (F : List Nat) (n0 : Nat) (w : World) : Lets F n0 w w := ⟨Nat.le_refl _, fun _ _ _ => rfl⟩
theorem Lets.trans {F : List Nat} {n0 : Nat} {a b c : World} (h : Lets F n0 a b) (k : Lets F n0 b c) : Lets F n0 a c := ⟨Nat.le_trans h.size k.size, fun x hx hn => (k.block x hx hn).trans (h.block x hx hn)⟩
theorem Lets.of_below {F : List Nat} {n n0 : Nat} {w w' : World} (h : Below n w w') (hn : n0 ≤ n) : Lets F n0 w w' := ⟨h.size, fun k hk _ => h.block k (by omega)⟩
theorem Lets.of_fr {F : List Nat} {n0 : Nat} {w w' : World} (h : Fr F w w') (hn : n0 ≤ w.heap.size) : Lets F n0 w w' := ⟨h.size, fun k hk hF => h.block k (by omega) hF⟩
/-- Block B holds a slice of entries; none of it lies in a block of F. -/
structure SeqAt (w : World) (F : List Nat) (B : Nat) (L : Qu) : Prop where
  lt : B < w.heap.size
  nB : B ∉ F
  len : L.length ≤ 1000000000
  ex : ∃ v, w.heap[B]? = some (.cells #[v] 114 (0, 0)) ∧ RowE w 0 v L ∧ (∀ g, v.ownBlock = some g → g ∉ F)

set_option maxHeartbeats 400000 in
theorem fiAll_any {w : World} {q b m g : Nat} {L : Qu} (h : QAt w q b m L g) (hg : g ≤ 1000000000) (F : List Nat) (hF : ∀ x ∈ F, x < w.heap.size) :
    Calls Tryd.prog 45 #[.pointer (some ⟨q, 0, none⟩)] w fun e w' => ∃ B, e = .returned (seqV B) ∧ SeqAt w' F B L ∧ Below w.heap.size w w' := by
  have hW := h.grown (below_alloc w (.cells #[.slice none 0 0] 114))
  have hlen : L.length ≤ 1000000000 := by have := h.inc.len; have := h.le; omega
  have hu := Lib.hid (fiUsable_yes hW)
  have he := Lib.hid (fiEntries_any hW hg)
  have c := hW.cq
  have HF := Lib.hid hF
  clear h hW
  go_enter Tryd.func45, Tryd.ntmps45
  go_wp2_with (first | (go_at_call 69; refine hu.out.mono ?_; rintro e w2 ⟨rfl, rfl⟩) | (go_at_call 70; fail))
  refine he.out.mono ?_
  rintro e w2 ⟨v, rfl, hr, hb⟩
  have hbl : w.heap.size < w2.heap.size := by have := hb.size; simp at this; omega
  have hB := (hb.block w.heap.size (by simp)).trans (block_new w (.cells #[.slice none 0 0] 114) _ rfl)
  have f0 := cells_free hB 0
  have c0 := cells_cell (o := 0) hB rfl
  have hset := cells_set hB 0 v
  have hne : ∀ g, v.ownBlock = some g → w.heap.size + 1 ≤ g := fun g hg' => by have := (World.ownsRow.lt hr g hg').1; simpa using this
  have hrow : RowE (w2.setCell ⟨w.heap.size, 0, none⟩ v) 0 v L := (fr_setCell w2 ⟨w.heap.size, 0, none⟩ v).row (ownsRow_mono hr (Nat.zero_le _)) (fun g hg' => by have := hne g hg'; simp; omega)
  have hbf : Below w.heap.size w (w2.setCell ⟨w.heap.size, 0, none⟩ v) := ((below_alloc w _).trans (hb.mono (by simp))).trans ((fr_setCell w2 ⟨w.heap.size, 0, none⟩ v).below (fun x hx => by simp at hx; omega) (by omega))
  have HS : Hid (SeqAt (w2.setCell ⟨w.heap.size, 0, none⟩ v) F w.heap.size L) := Lib.hid
    ⟨by simpa [World.setCell] using hbl, fun hm => Nat.lt_irrefl _ (HF.out _ hm), hlen, v, hset, hrow, fun g hg' hm => by have := hne g hg'; have := HF.out g hm; omega⟩
  have HBF := Lib.hid hbf
  obtain ⟨va, vn, vc, rfl⟩ := row_form hr
  clear hr hb hB hset hne hrow hbf
  go_wp2_with fail
  go_ret
  exact ⟨_, rfl, HS.out, HBF.out⟩
theorem fiAll_nil {w : World} {v : Value} (h : NoQ w v) (F : List Nat) (hF : ∀ x ∈ F, x < w.heap.size) :
    Calls Tryd.prog 45 #[v] w fun e w' => ∃ B, e = .returned (seqV B) ∧ SeqAt w' F B [] ∧ Below w.heap.size w w' := by
  have hu := Lib.hid (fiUsable_no (h.grown (below_alloc w (.cells #[.slice none 0 0] 114))))
  have HF := Lib.hid hF
  obtain ⟨a, rfl⟩ := h.form
  clear h
  go_enter Tryd.func45, Tryd.ntmps45
  go_wp2_with (go_at_call 69; refine hu.out.mono ?_; rintro e w2 ⟨rfl, rfl⟩)
  go_ret
  exact ⟨_, rfl, ⟨by simp, fun hm => Nat.lt_irrefl _ (HF.out _ hm), by simp, _, block_new _ _ _ rfl, World.ownsRow_nil _ _ _ _, fun g hg' => by cases hg'⟩, below_alloc _ _⟩

set_option maxRecDepth 100000 in
set_option maxHeartbeats 2000000 in
theorem it_in (F : Fence) (n : Nat) (h7 : F.fn 71) (hro : F.round = none) (hn : 1 ≤ n) (l B n0 : Nat) (Fs : List Nat) (L : Qu) (w0 : World) (hS : SeqAt w0 Fs B L) (hn0 : n0 = w0.heap.size) (J Jx : Nat → World → Prop)
    (hJ : ∀ k A B, J k A → Below A.heap.size A B → J k B)
    (hY : ∀ (k : Nat) (x : Nat × Int) W, J k W → L[k]? = some x → Lets Fs n0 w0 W → YieldAt F (n - 1) Tryd.prog l #[.int .u64 ((x.1 : Nat) : Int), .int .i64 x.2] W fun e W' =>
      (e = .returned (.bool true) ∧ J (k + 1) W' ∧ Lets Fs n0 W W') ∨ (e = .returned (.bool false) ∧ Jx (k + 1) W'))
    (W : World) (hW : Lets Fs n0 w0 W) (h0 : J 0 W) :
    CallsIn F n Tryd.prog 71 #[.func (.yield l) #[] #[], .pointer (some ⟨B, 0, none⟩)] W fun e W' => (∃ v, e = .returned v) ∧ (J L.length W' ∨ ∃ k, k ≤ L.length ∧ Jx k W') := by
  obtain ⟨v, hB, hrow, hg⟩ := hS.ex
  obtain ⟨va, vn, vc, rfl⟩ := row_form hrow
  have hvn : vn = L.length := by
    rcases hrow.2 with ⟨hv, hn⟩ | ⟨g', cap, cu, hv, _⟩
    · simp only [Value.slice.injEq] at hv; omega
    · simp only [Value.slice.injEq] at hv; exact hv.2.1
  subst hvn
  obtain ⟨N, hN⟩ : ∃ N, N = L.length := ⟨_, rfl⟩
  have hlen := hS.len
  rw [← hN] at hrow hg hB hlen
  have hNI : ((N : Nat) : Int) ≤ 1000000000 := by omega
  have HROW := Lib.hid hrow
  have HG := Lib.hid hg
  have HN := Lib.hid hN
  have HS := Lib.hid hS
  have HB := Lib.hid hB
  have HW := Lib.hid hW
  have HN0 := Lib.hid hn0
  have HJ := Lib.hid hJ
  have HY := Lib.hid hY
  have H0 := Lib.hid h0
  have hBl : B < W.heap.size := by have := hS.lt; have := hW.size; omega
  have c0 : W.cell? ⟨B, 0, none⟩ = some (.slice va N vc) := cells_cell ((hW.block B (by rw [hn0]; exact hS.lt) hS.nB).trans hB) rfl
  clear hrow hg hN hS hB hW hn0 hJ hY h0
  refine callsIn_of_wp Tryd.func71 rfl h7 ?_ hro
  simp only [Tryd.ntmps71, List.size_toArray, List.length_cons, List.length_nil, Nat.reduceAdd, Nat.reduceSub, Array.replicate_succ, Array.replicate_zero, List.push_toArray, List.append_toArray, List.nil_append, List.cons_append]
  gi_wp2
  gi_loopw [7] (fun i wr => ∃ k : Nat, k ≤ N ∧ i = .int .i64 (k : Nat) ∧ Hid (J k wr) ∧ Hid (Lets Fs n0 w0 wr))
    (fun i _ => N - (intOf i).toNat)
  case atStart => exact ⟨0, Nat.zero_le _, rfl, H0, HW⟩
  case round =>
    obtain ⟨k, hk, rfl, hJs, hnx⟩ := hrel
    by_cases hlt : k < N
    · have hkL : k < L.length := by rw [← HN.out]; exact hlt
      have hp : L[k]? = some L[k] := List.getElem?_eq_getElem hkL
      obtain ⟨g, rfl, hgl⟩ : ∃ g, va = some ⟨g, 0, none⟩ ∧ g < w0.heap.size := by
        rcases HROW.out.2 with ⟨hv, hn⟩ | ⟨g, cap, cu, hv, _, hh, _⟩
        · simp only [Value.slice.injEq] at hv; omega
        · simp only [Value.slice.injEq] at hv; exact ⟨g, hv.1, lt_of_block hh⟩
      obtain ⟨k0, k1⟩ := RowE.cells HROW.out k _ hp
      have hs : wr.heap[g]? = w0.heap[g]? := hnx.out.block g (by rw [HN0.out]; exact hgl) (HG.out g rfl)
      have k0 : wr.cell? ⟨g, k * 2, none⟩ = some (.int .u64 ((L[k].1 : Nat) : Int)) := (World.cell?_of_block (a := ⟨g, k * 2, none⟩) hs).trans k0
      have k1 : wr.cell? ⟨g, k * 2 + 1, none⟩ = some (.int .i64 L[k].2) := (World.cell?_of_block (a := ⟨g, k * 2 + 1, none⟩) hs).trans k1
      have hla := Lets.of_below (F := Fs) (n0 := n0) (below_alloc wr (.cells #[.int .u64 ((L[k].1 : Nat) : Int), .int .i64 L[k].2] 121)) (by have := hnx.out.size; have := HN0.out; omega)
      obtain ⟨fn, tmps, assign, body, hy, hR⟩ := HY.out k _ (wr.alloc (.cells #[.int .u64 ((L[k].1 : Nat) : Int), .int .i64 L[k].2] 121)) (HJ.out _ _ _ hJs.out (below_alloc _ _)) hp (hnx.out.trans hla)
      have hgw : g < wr.heap.size := by have := hnx.out.size; omega
      have q3 : (k : Int) < (N : Int) := by omega
      have HLA := Lib.hid (hnx.out.trans hla)
      generalize L[k].1 = T at *
      generalize L[k].2 = X at *
      clear hs hla hp hgl
      gi_wp2
      refine hR.mono ?_
      rintro e W3 (⟨rfl, hJ3, hk3⟩ | ⟨rfl, hJx3⟩)
      · gi_wp2
        go_roundw
        case rel => exact ⟨k + 1, by omega, by go_num, Lib.hid hJ3, Lib.hid (HLA.out.trans hk3)⟩
        case measure => simp [intOf]; omega
      · gi_wp2
        refine bodyPost_ret (results_none rfl _ _ _) rfl ?_
        exact ⟨⟨_, rfl⟩, .inr ⟨k + 1, by omega, hJx3⟩⟩
    · obtain rfl : k = N := by omega
      gi_wp2
      go_end0
      exact ⟨⟨_, rfl⟩, .inl (by rw [← HN.out]; exact hJs.out)⟩
end Go.Proofs.YtcdimopiaanfbaaDoor
