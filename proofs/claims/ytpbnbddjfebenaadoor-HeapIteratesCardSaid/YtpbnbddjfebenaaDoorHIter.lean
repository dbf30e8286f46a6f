/- slices.Values over a list of numbers, as an iterator; slices.Collect of it. -/
import Derived.Test.YtpbnbddjfebenaaDoorHClone
import Derived.RangeFuncBox
import Derived.RangeFuncLeaves
import Derived.Shelf.Abstract
import Derived.OwnWalkIn
import Derived.TacticsInMore
import Derived.LoopNIn
import Derived.LoopIn
import Derived.Maps.AppendAt
namespace Go.Proofs.YtpbnbddjfebenaaDoor
open Go.RowKit Go.Sort Go.Shelf
set_option linter.unusedVariables false
set_option linter.unusedSimpArgs false
attribute [local go_sem] Oper.semAt_some

theorem getD_snoc (L : List Nat) (k : Nat) (h : k < L.length) : L.take (k + 1) = L.take k ++ [L.getD k 0] := by
  rw [List.take_succ_eq_append_getElem h]
  simp [List.getD_eq_getElem?_getD, h]

set_option maxRecDepth 100000 in
set_option maxHeartbeats 2000000 in
/-- The iterator of slices.Values: its loop body keeps what lay below n0. -/
theorem values1_in (F : Fence) (n : Nat) (h7 : F.fn 41) (hro : F.round = none) (hn : 1 ≤ n) (l Bs n0 b cap : Nat) (L : List Nat) (hlen : L.length ≤ 2000) (hb : b < n0) (J Jx : List Nat → World → Prop)
    (hY : ∀ pre x W, J pre W → pre.length < L.length → YieldAt F (n - 1) Tryd.prog l #[encN x] W fun e W' =>
      (e = .returned (.bool true) ∧ J (pre ++ [x]) W' ∧ Below n0 W W') ∨ (e = .returned (.bool false) ∧ Jx (pre ++ [x]) W'))
    (W : World) (hBs : W.cell? ⟨Bs, 0, none⟩ = some (.slice (some ⟨b, 0, none⟩) L.length cap)) (hc : ∀ j, j < L.length → W.cell? ⟨b, j, none⟩ = some (encN (L.getD j 0))) (h0 : J [] W) :
    CallsIn F n Tryd.prog 41 #[.func (.yield l) #[] #[], .pointer (some ⟨Bs, 0, none⟩)] W fun e W' => (∃ v, e = .returned v) ∧
      ((∃ ys, ys = L ∧ J ys W') ∨ (∃ pre, pre <+: L ∧ Jx pre W')) := by
  unfold encN at *
  refine callsIn_of_wp Tryd.func41 rfl h7 ?_ hro
  simp only [Tryd.ntmps41, List.size_toArray, List.length_cons, List.length_nil, Nat.reduceAdd, Nat.reduceSub, Array.replicate_succ, Array.replicate_zero, List.push_toArray, List.append_toArray, List.nil_append, List.cons_append]
  gi_wp2
  gi_loopw [7] (fun i wr => ∃ k : Nat, k ≤ L.length ∧ i = .int .i64 k ∧ J (L.take k) wr ∧ Below n0 W wr)
    (fun i _ => L.length - (intOf i).toNat)
  case atStart => exact ⟨0, Nat.zero_le _, rfl, h0, Below.refl _ _⟩
  case round =>
    obtain ⟨k, hk, rfl, hJs, hnx⟩ := hrel
    by_cases hlt : k < L.length
    · obtain ⟨fn, tmps, assign, body, hy, hR⟩ := hY _ (L.getD k 0) wr hJs (by rw [List.length_take]; omega)
      have hcx' : wr.cell? ⟨b, k, none⟩ = some (.int .i64 (L.getD k 0)) := (hnx.cell (p := ⟨b, k, none⟩) hb).trans (hc k hlt)
      have hs := Lib.hid (getD_snoc L k hlt)
      generalize L.getD k 0 = x at *
      gi_wp2
      refine hR.mono ?_
      rintro e W3 (⟨rfl, hJ3, hk3⟩ | ⟨rfl, hJx3⟩)
      · gi_wp2
        go_roundw
        case rel => exact ⟨k + 1, by omega, by simp, by rw [hs.out]; exact hJ3, hnx.trans hk3⟩
        case measure => simp [intOf]; omega
      · gi_wp2
        refine bodyPost_ret (results_none rfl _ _ _) rfl ?_
        exact ⟨⟨_, rfl⟩, .inr ⟨_, by rw [← hs.out]; exact List.take_prefix _ _, hJx3⟩⟩
    · obtain rfl : k = L.length := by omega
      gi_wp2
      go_end0
      exact ⟨⟨_, rfl⟩, .inl ⟨_, by rw [List.take_length], hJs⟩⟩

set_option maxRecDepth 100000 in
set_option maxHeartbeats 1000000 in
theorem values1_nil_in (F : Fence) (n : Nat) (h7 : F.fn 41) (hro : F.round = none) (l Bs : Nat) (J : List Nat → World → Prop) (W : World) (hBs : W.cell? ⟨Bs, 0, none⟩ = some (.slice none 0 0)) (h0 : J [] W) :
    CallsIn F n Tryd.prog 41 #[.func (.yield l) #[] #[], .pointer (some ⟨Bs, 0, none⟩)] W fun e W' => (∃ v, e = .returned v) ∧ J [] W' := by
  refine callsIn_of_wp Tryd.func41 rfl h7 ?_ hro
  simp only [Tryd.ntmps41, List.size_toArray, List.length_cons, List.length_nil, Nat.reduceAdd, Nat.reduceSub, Array.replicate_succ, Array.replicate_zero, List.push_toArray, List.append_toArray, List.nil_append, List.cons_append]
  gi_wp2
  gi_loopw [7] (fun i wr => i = .int .i64 0 ∧ J [] wr) (fun _ _ => 0)
  case atStart => exact ⟨rfl, h0⟩
  case round =>
    obtain ⟨rfl, hJs⟩ := hrel
    gi_wp2
    go_end0
    exact ⟨⟨_, rfl⟩, hJs⟩

/-- The block B holds a slice that holds L, in a block below n0. -/
structure SeqAt (n0 B : Nat) (L : List Nat) (W : World) : Prop where
  len : L.length ≤ 2000
  ex : ∃ v, W.heap[B]? = some (.cells #[v] 35 (0, 0)) ∧ W.ownsRow 0 3 1 v L.length (L.map encN) ∧ ∀ g, v.ownBlock = some g → g < n0

def seqV (B : Nat) : Value := .func (.func 41) #[] #[.pointer (some ⟨B, 0, none⟩)]

theorem SeqAt.below {n0 B : Nat} {L : List Nat} {W W' : World} (h : SeqAt n0 B L W) (hb : Below n0 W W') (hB : B < n0) : SeqAt n0 B L W' := by
  obtain ⟨v, h1, h2, h3⟩ := h.ex
  refine ⟨h.len, v, (hb.block B hB).trans h1, ⟨h2.1, ?_⟩, h3⟩
  rcases h2.2 with h' | ⟨g, cap, cur, rfl, hbg, hg, r⟩
  · exact .inl h'
  · exact .inr ⟨g, cap, cur, rfl, hbg, (hb.block g (h3 g rfl)).trans hg, r⟩

theorem values_stops (F : Fence) (n : Nat) (h7 : F.fn 41) (hro : F.round = none) (hn : 1 ≤ n) (B n0 : Nat) (L : List Nat) (w : World) (hB : B < n0) (hn0 : n0 ≤ w.heap.size) (h : SeqAt n0 B L w) :
    SeqStopsK F n Tryd.prog 41 #[.pointer (some ⟨B, 0, none⟩)] (fun x : Nat => #[encN x]) (Below n0) (fun ys => ys = L) (fun pre => pre <+: L) L.length w := fun l J Jx W hW _ _ hY h0 => by
  have h' := h.below (hW.mono hn0) hB
  obtain ⟨v, h1, h2, h3⟩ := h'.ex
  have hc := cell_of_one h1
  rcases h2.2 with ⟨rfl, hz⟩ | ⟨g, cap, cur, rfl, hbg, hg, hnc, hcm, hcs, htake⟩
  · have hL : L = [] := List.eq_nil_of_length_eq_zero hz
    subst hL
    exact (values1_nil_in F n h7 hro l B J W hc h0).mono fun e W' ⟨he, hj⟩ => ⟨he, .inl ⟨_, rfl, hj⟩⟩
  · refine values1_in F n h7 hro hn l B n0 g cap L h'.len (h3 g rfl) J Jx hY W hc (fun j hj => ?_) h0
    have h1 : (L.map encN)[j]? = some (encN (L.getD j 0)) := by simp [List.getElem?_map, hj]
    have := row_cells h2 j _ h1
    rw [Go.WideShapes.add_plain, Nat.zero_add] at this
    exact this

set_option maxRecDepth 100000 in
set_option maxHeartbeats 3000000 in
/-- slices.AppendSeq(nil, slices.Values(..)): what was there, in a new slice. -/
theorem appendSeq_in (F : Fence) (n : Nat) (h62 : F.fn 57) (h46 : F.fn 41) (hro : F.round = none) (hn : 3 ≤ n) (B : Nat) (L : List Nat) (w : World) (hB : B < w.heap.size) (hS : SeqAt w.heap.size B L w) :
    CallsIn F n Tryd.prog 57 #[.slice none 0 0, seqV B] w fun e W' => ∃ v, e = .returned v ∧ W'.ownsRow w.heap.size 3 1 v L.length (L.map encN) ∧ (L = [] → v = .slice none 0 0) ∧ Below w.heap.size w W' := by
  have h1 : 1 ≤ n := by omega
  obtain ⟨i0, hi, hz0, hz1, hz2⟩ := info_parts infoInt
  have hlen := hS.len
  unfold seqV
  refine callsIn_of_wp_marks Tryd.func57 rfl h62 ?_ hro
  simp only [Tryd.ntmps57, List.size_toArray, List.length_cons, List.length_nil, Nat.reduceAdd, Nat.reduceSub, Array.replicate_succ, Array.replicate_zero, List.push_toArray, List.append_toArray, List.nil_append, List.cons_append]
  gi_wp2
  have bO := Boxed.new w 35 (.slice none 0 0)
  have hB0 : Below w.heap.size w (w.alloc (.cells #[.slice none 0 0] 35)) := (Below.refl _ w).alloc (Nat.le_refl _) _
  refine wpIn_rangeFunc_ownG hro h1 (gf := 41) (lb := #[.pointer (some ⟨B, 0, none⟩)]) rfl h46 (enters_of Tryd.func41 (by kernel_rfl) rfl)
    (values_stops F (n - 1) h46 hro (by omega) B w.heap.size L _ hB (by simp) (hS.below hB0 hB)) belowK_t (belowK_b (by simp)) (Below.refl _ _) (fun _ => rfl)
    (fun pre W => (∃ v, Boxed W w.heap.size 35 v ∧ W.ownsRow w.heap.size 3 1 v pre.length (pre.map encN) ∧ (pre = [] → v = .slice none 0 0)) ∧ Below w.heap.size w W)
    (fun _ _ _ => False)
    (OwnFrom.and (Own.from (holdsRow_own w.heap.size w.heap.size 35 3 1 (fun pre : List Nat => pre.length) (fun pre => pre.map encN) (fun pre v => pre = [] → v = .slice none 0 0)) _) (ownFrom_below (Nat.le_refl _) (by simp)))
    (fun _ _ _ _ _ hs _ _ => hs)
    ⟨⟨_, bO, World.ownsRow_nil _ _ _ _, fun _ => rfl⟩, hB0⟩
    (fun x => { tmps := #[.slice none 0 0, .func (.func 41) #[] #[.pointer (some ⟨B, 0, none⟩)], .pointer (some ⟨w.heap.size, 0, none⟩), undef, .slice none 0 0, encN x, .func (.func 41) #[] #[.pointer (some ⟨B, 0, none⟩)], encN x, undef, undef, undef, undef, undef], defers := [] }) ?assign ?body ?done ?stop
  case assign =>
    intro l x W K hK
    unfold encN at *
    gi_wp2
    exact hK
  case body =>
    rintro l pre x W ⟨⟨v, hv, hrow, _⟩, hBW⟩ hlt
    have hc := hv.cell
    have hmax : (2000 : Nat) ≤ maxLen := by unfold maxLen; omega
    unfold encN at *
    gi_wp2_with (gi_at_builtin; refine wpListIn_append_own _ rfl _ _ 35 rfl w.heap.size 3 i0 (.int .i64 0) 1 8 Tryd.underlying35 hi hz0 hz1 hz2 rfl (by decide) _ _ _ rfl (hrow.alloc _) ⟨W.heap.size, 0, none⟩ 1 1 [.int .i64 x] rfl rfl (cell_one_new _ _ _) (by simp [Value.oneCell']) (by omega) (by omega) (by have := hBW.size; simp; omega) ?_; intro v' w1 hown' hgrow _; obtain ⟨g', cap', rfl⟩ := ownsRow_succ hown'; obtain ⟨hv1, hv2, hr2, hk2, hb2⟩ := hv.appended (by decide) hrow hBW.size (Nat.le_refl _) hown' hgrow; have hc1 := hv1.cell; have hf1 := hv1.frozen)
    exact ⟨hk2.from _, hb2, ⟨_, hv2, by simpa using hr2, by simp⟩, hBW.trans hb2⟩
  case done =>
    rintro D ys W hD rfl ⟨⟨v, hv, hrow, hnil⟩, hBW⟩ hK
    have hc := hv.cell
    gi_wp2
    refine ⟨by simp, .inl ⟨_, _, rfl, run_takeDeferred hK, ?_⟩⟩
    exact ⟨_, results_tmp rfl _ _ _, v, rfl, ownsRow_putObj hrow _ hK rfl, hnil, hBW.trans (belowK_b (w := w) (Nat.le_refl _) W D _ _ (by simp at hD; omega) hK rfl rfl)⟩
  case stop =>
    rintro D c pre W _ _ h _
    exact h.elim

set_option maxHeartbeats 1000000 in
theorem collect_any (B : Nat) (L : List Nat) (w : World) (hB : B < w.heap.size) (hS : SeqAt w.heap.size B L w) :
    Calls Tryd.prog 51 #[seqV B] w fun e W' => ∃ v, e = .returned v ∧ W'.ownsRow w.heap.size 3 1 v L.length (L.map encN) ∧ (L = [] → v = .slice none 0 0) ∧ Below w.heap.size w W' := by
  have ha := Lib.hid (callsIn_wide.1 (appendSeq_in Fence.wide 3 trivial trivial rfl (Nat.le_refl _) B L w hB hS))
  clear hS
  unfold seqV at *
  go_enter Tryd.func51, Tryd.ntmps51
  go_wp2_with fail
  refine ha.out.mono ?_
  rintro e w1 ⟨v, rfl, ho, hnil, hb⟩
  have hn := Lib.hid hnil
  clear hnil
  go_wp2_with fail
  go_ret
  exact ⟨v, rfl, ho, hn.out, hb⟩
end Go.Proofs.YtpbnbddjfebenaaDoor
