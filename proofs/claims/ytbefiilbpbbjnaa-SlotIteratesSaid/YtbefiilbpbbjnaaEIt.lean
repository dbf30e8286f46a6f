/- All: the iterator. -/
import Derived.Test.YtbefiilbpbbjnaaECopy
import Derived.RangeFuncBox
import Derived.RangeFuncLeaves
import Derived.RangeFuncNested
import Derived.Shelf.Abstract
import Derived.OwnWalkIn
import Derived.TacticsInMore
import Derived.LoopNIn
import Derived.LoopIn
import Derived.Stop.RegionWithIn
import Derived.Sort.QuietIn
namespace Go.Proofs.Ytbefiilbpbbjnaa
open Go.RowKit Go.Sort Go.Shelf
set_option linter.unusedVariables false
set_option linter.unusedSimpArgs false
attribute [local go_sem] Oper.semAt_some

/-- The iterator over the places in block B. -/
def seqV (B : Nat) : Value := .func (.func 34) #[] #[.pointer (some ⟨B, 0, none⟩)]
/-- Below n0, only the blocks of F have changed. -/
structure Lets (F : List Nat) (n0 : Nat) (w w' : World) : Prop where
  size : w.heap.size ≤ w'.heap.size
  block : ∀ k, k < n0 → k ∉ F → w'.heap[k]? = w.heap[k]?
theorem Lets.refl (F : List Nat) (n0 : Nat) (w : World) : Lets F n0 w w := ⟨Nat.le_refl _, fun _ _ _ => rfl⟩
theorem Lets.trans {F : List Nat} {n0 : Nat} {a b c : World} (h : Lets F n0 a b) (k : Lets F n0 b c) : Lets F n0 a c := ⟨Nat.le_trans h.size k.size, fun x hx hn => (k.block x hx hn).trans (h.block x hx hn)⟩
theorem Lets.of_below {F : List Nat} {n n0 : Nat} {w w' : World} (h : Below n w w') (hn : n0 ≤ n) : Lets F n0 w w' := ⟨h.size, fun k hk _ => h.block k (by omega)⟩
theorem Lets.of_fr {F : List Nat} {n0 : Nat} {w w' : World} (h : Fr F w w') (hn : n0 ≤ w.heap.size) : Lets F n0 w w' := ⟨h.size, fun k hk hF => h.block k (by omega) hF⟩
/-- Block B holds a slice of places; none of it lies in a block of F. -/
structure SeqAt (w : World) (F : List Nat) (B : Nat) (P : Tab) : Prop where
  lt : B < w.heap.size
  nB : B ∉ F
  len : P.length ≤ 128
  ex : ∃ a c, w.heap[B]? = some (.cells #[.slice a P.length c] 52 (0, 0)) ∧ (P = [] ∨ ∃ g, a = some ⟨g, 0, none⟩ ∧ PRow w g P ∧ g ∉ F)

set_option maxHeartbeats 800000 in
theorem slAll_any {w : World} {t g c : Nat} {P : Tab} (h : TAt w t g c P) (F : List Nat) (hF : ∀ x ∈ F, x < w.heap.size) :
    Calls Try.prog 15 #[.pointer (some ⟨t, 0, none⟩)] w fun e w' => ∃ B, e = .returned (seqV B) ∧ SeqAt w' F B P ∧ Below w.heap.size w w' := by
  have hW := h.grown (below_alloc w (.cells #[.slice none 0 0] 52))
  have hu := Lib.hid (slUsable_yes hW)
  have he := Lib.hid (plClone_any (c := c) hW.r hW.n1 hW.n2)
  have k := hW.ct
  have hlen := h.n2
  have HF := Lib.hid hF
  generalize hN : P.length = N at *
  have HN := Lib.hid hN
  clear h hW hN
  go_enter Try.func15, Try.ntmps15
  go_wp2_with (first | (go_at_call 32; refine hu.out.mono ?_; rintro e w2 ⟨rfl, rfl⟩) | (go_at_call 33; fail))
  refine he.out.mono ?_
  rintro e w2 ⟨g', c', rfl, hr, hc1, hc2, hl, hb⟩
  have hbl : w.heap.size < w2.heap.size := by have := hb.size; simp at this; omega
  have hB := (hb.block w.heap.size (by simp)).trans (block_new w (.cells #[.slice none 0 0] 52) _ rfl)
  have f0 := cells_free hB 0
  have c0 := cells_cell (o := 0) hB rfl
  have hset := cells_set hB 0 (.slice (some ⟨g', 0, none⟩) N c')
  have hl' : w.heap.size + 1 ≤ g' := by simpa using hl
  have hrow : PRow (w2.setCell ⟨w.heap.size, 0, none⟩ (.slice (some ⟨g', 0, none⟩) N c')) g' P := hr.same (Below.heap_setCell _ _ _ _ (by simp; omega))
  have hbf : Below w.heap.size w (w2.setCell ⟨w.heap.size, 0, none⟩ (.slice (some ⟨g', 0, none⟩) N c')) := ((below_alloc w _).trans (hb.mono (by simp))).trans ((fr_setCell w2 ⟨w.heap.size, 0, none⟩ (.slice (some ⟨g', 0, none⟩) N c')).below (fun x hx => by simp at hx; omega) (by omega))
  have HS : Hid (SeqAt (w2.setCell ⟨w.heap.size, 0, none⟩ (.slice (some ⟨g', 0, none⟩) N c')) F w.heap.size P) := Lib.hid
    ⟨by simpa [World.setCell] using hbl, fun hm => Nat.lt_irrefl _ (HF.out _ hm), by rw [HN.out]; exact hlen, _, c', by rw [HN.out]; exact hset, .inr ⟨g', rfl, hrow, fun hm => by have := HF.out g' hm; omega⟩⟩
  have HBF := Lib.hid hbf
  clear hr hb hB hset hrow hbf
  go_wp2_with fail
  go_ret
  exact ⟨_, rfl, HS.out, HBF.out⟩
theorem slAll_nil {w : World} {v : Value} (h : NoT w v) (F : List Nat) (hF : ∀ x ∈ F, x < w.heap.size) :
    Calls Try.prog 15 #[v] w fun e w' => ∃ B, e = .returned (seqV B) ∧ SeqAt w' F B [] ∧ Below w.heap.size w w' := by
  have hu := Lib.hid (slUsable_no (h.grown (below_alloc w (.cells #[.slice none 0 0] 52))))
  have HF := Lib.hid hF
  obtain ⟨a, rfl⟩ := h.form
  clear h
  go_enter Try.func15, Try.ntmps15
  go_wp2_with (go_at_call 32; refine hu.out.mono ?_; rintro e w2 ⟨rfl, rfl⟩)
  go_ret
  exact ⟨_, rfl, ⟨by simp, fun hm => Nat.lt_irrefl _ (HF.out _ hm), by simp, _, _, block_new _ _ _ rfl, .inl rfl⟩, below_alloc _ _⟩

/-- How many are open ahead of place k. -/
def cnO (P : Tab) (k : Nat) : Nat := (ents 0 (P.take k)).length
theorem cnO_zero (P : Tab) : cnO P 0 = 0 := rfl
theorem cnO_all (P : Tab) : cnO P P.length = (ents 0 P).length := by unfold cnO; rw [List.take_length]
theorem cnO_le (P : Tab) (k : Nat) : cnO P k ≤ (ents 0 P).length := by
  unfold cnO
  conv => rhs; rw [← List.take_append_drop k P, ents_append, List.length_append]
  omega
theorem cnO_step {P : Tab} {k : Nat} {p : Pl} (hp : P[k]? = some p) : cnO P (k + 1) = cnO P k + (if p.o then 1 else 0) := by
  unfold cnO
  rw [ents_take hp, List.length_append]
  split <;> rfl
theorem ents_at {P : Tab} {k : Nat} {p : Pl} (hp : P[k]? = some p) (ho : p.o = true) : (ents 0 P)[cnO P k]? = some ⟨k, p.g, p.v, false⟩ := by
  rw [ents_split hp, ho]
  unfold cnO
  simp

set_option maxRecDepth 100000 in
set_option maxHeartbeats 2000000 in
theorem it_in (n : Nat) (hn : 1 ≤ n) (l B n0 : Nat) (Fs : List Nat) (P : Tab) (w0 : World) (hS : SeqAt w0 Fs B P) (hn0 : n0 = w0.heap.size) (J Jx : Nat → World → Prop)
    (hJ : ∀ k A B, J k A → Below A.heap.size A B → J k B)
    (hY : ∀ (k : Nat) (x : Fd) W, J k W → (ents 0 P)[k]? = some x → Lets Fs n0 w0 W → YieldAt Fence.wide (n - 1) Try.prog l #[.agg #[.int .i64 ((x.n : Nat) : Int), .int .i64 ((x.g : Nat) : Int)], .int .i64 x.v] W fun e W' =>
      (e = .returned (.bool true) ∧ J (k + 1) W' ∧ Lets Fs n0 W W') ∨ (e = .returned (.bool false) ∧ Jx (k + 1) W'))
    (W : World) (hW : Lets Fs n0 w0 W) (h0 : J 0 W) :
    CallsIn Fence.wide n Try.prog 34 #[.func (.yield l) #[] #[], .pointer (some ⟨B, 0, none⟩)] W fun e W' => (∃ v, e = .returned v) ∧ (J (ents 0 P).length W' ∨ ∃ k, k ≤ (ents 0 P).length ∧ Jx k W') := by
  obtain ⟨va, vc, hB, hrow⟩ := hS.ex
  obtain ⟨N, hN⟩ : ∃ N, N = P.length := ⟨_, rfl⟩
  have hlen := hS.len
  rw [← hN] at hB hlen
  have hNI : ((N : Nat) : Int) ≤ 128 := by omega
  have HROW := Lib.hid hrow
  have HN := Lib.hid hN
  have HS := Lib.hid hS
  have HB := Lib.hid hB
  have HW := Lib.hid hW
  have HN0 := Lib.hid hn0
  have HJ := Lib.hid hJ
  have HY := Lib.hid hY
  have H0 := Lib.hid h0
  have hBl : B < W.heap.size := by have := hS.lt; have := hW.size; omega
  have c0 : W.cell? ⟨B, 0, none⟩ = some (.slice va N vc) := cells_cell ((hW.block B (by rw [hn0]; exact hS.lt) hS.nB).trans hB) rfl
  have h35 : Fence.wide.fn 35 := trivial
  clear hrow hN hS hB hW hn0 hJ hY h0
  refine callsIn_of_wp Try.func34 rfl trivial ?_ rfl
  simp only [Try.ntmps34, List.size_toArray, List.length_cons, List.length_nil, Nat.reduceAdd, Nat.reduceSub, Array.replicate_succ, Array.replicate_zero, List.push_toArray, List.append_toArray, List.nil_append, List.cons_append]
  gi_wp2
  gi_loopw [7] (fun i wr => ∃ k : Nat, k ≤ N ∧ i = .int .i64 (k : Nat) ∧ Hid (J (cnO P k) wr) ∧ Hid (Lets Fs n0 w0 wr))
    (fun i _ => N - (intOf i).toNat)
  case atStart => exact ⟨0, Nat.zero_le _, rfl, H0, HW⟩
  case round =>
    obtain ⟨k, hk, rfl, hJs, hnx⟩ := hrel
    by_cases hlt : k < N
    · have hkL : k < P.length := by rw [← HN.out]; exact hlt
      have hp : P[k]? = some P[k] := List.getElem?_eq_getElem hkL
      obtain ⟨g, rfl, hr0, hgF⟩ : ∃ g, va = some ⟨g, 0, none⟩ ∧ PRow w0 g P ∧ g ∉ Fs := by
        rcases HROW.out with h | h
        · rw [h] at hkL; exact absurd hkL (Nat.not_lt_zero _)
        · exact h
      have hr : PRow wr g P := hr0.same (hnx.out.block g (by rw [HN0.out]; exact hr0.lt) hgF)
      have r0 := hr.c0 hp
      have r1 := hr.c1 hp
      have r2 := hr.c2 hp
      have hgw := hr.lt
      have q3 : (k : Int) < (N : Int) := by omega
      generalize hpp : P[k] = p at *
      have HP := Lib.hid hp
      clear hr0 hr hpp hp
      obtain ⟨o, G, v⟩ := p
      simp only at r0 r1 r2
      obtain ⟨W1, hW1⟩ : ∃ W1, wr.alloc (.cells #[.bool o, .int .i64 ((G : Nat) : Int), .int .i64 v] 79) = W1 := ⟨_, rfl⟩
      have HW1 := Lib.hid hW1
      have HBX : Hid (W1.heap[wr.heap.size]? = some (.cells #[.bool o, .int .i64 ((G : Nat) : Int), .int .i64 v] 79 (0, 0))) := Lib.hid (by rw [← hW1]; exact block_new _ _ _ rfl)
      have HG1 : Hid (Grn wr W1.drew) := Lib.hid (by rw [← hW1]; exact ((Grn.refl wr).alloc _).drew 1)
      have b0 : W1.cell? ⟨wr.heap.size, 0, none⟩ = some (.bool o) := cells_cell HBX.out rfl
      have b1 : W1.cell? ⟨wr.heap.size, 1, none⟩ = some (.int .i64 ((G : Nat) : Int)) := cells_cell HBX.out rfl
      have b2 : W1.cell? ⟨wr.heap.size, 2, none⟩ = some (.int .i64 v) := cells_cell HBX.out rfl
      have hlen1 := lt_of_block HBX.out
      have HLN : Hid (n0 ≤ wr.heap.size) := Lib.hid (by rw [HN0.out]; exact hnx.out.size)
      have HLW := Lib.hid (hnx.out.trans (Lets.of_below (F := Fs) HG1.out.below HLN.out))
      have HJ1 := Lib.hid (HJ.out _ _ _ hJs.out HG1.out.below)
      have HCN := Lib.hid (cnO_step HP.out)
      have HQ : Hid (∀ q, J (cnO P k) (W1.drewN q) ∧ Lets Fs n0 w0 (W1.drewN q)) := Lib.hid (fun q => by
        have hg : Grn wr (W1.drewN q) := by rw [← hW1]; exact ((Grn.refl wr).alloc _).drew q
        exact ⟨HJ.out _ _ _ hJs.out hg.below, hnx.out.trans (Lets.of_below (F := Fs) hg.below HLN.out)⟩)
      clear hW1 hJs hnx
      cases o with
      | false =>
        gi_wp2
        rw [HW1.out]
        refine wpIn_region_quiet_lit rfl (by kernel_rfl) (by kernel_rfl) ?_
        repeat (gi_big_quiet_step (fail))
        refine BigFrame.wpQuietIn_skip (fun _ _ _ _ => trivial) rfl ?_
        simp only [Act.put, List.setIfInBounds_toArray, List.set_cons_zero, List.set_cons_succ]
        repeat (gi_big_quiet_step (fail))
        refine wpQuietIn_nil ?_
        intro _ hw'
        obtain ⟨nq, hw''⟩ := hw'
        subst hw''
        simp only [Exit.then]
        go_at_K
        gi_wp2
        go_roundw
        case rel => exact ⟨k + 1, by omega, by go_num, by have h := HCN.out; simp at h; rw [h]; exact Lib.hid (HQ.out nq).1, Lib.hid (HQ.out nq).2⟩
        case measure => simp [intOf]; omega
      | true =>
        have HNM := Lib.hid ((callsIn_wide (n := n - 1)).2 (slName_any W1.drew true ((G : Nat) : Int) v ((k : Nat) : Int)))
        have HEA := Lib.hid (ents_at HP.out rfl)
        gi_wp2
        rw [HW1.out]
        gi_region_with (first
          | (gi_at_call 35
             refine HNM.out.mono ?_
             rintro e w2 ⟨rfl, hg2⟩
             have e2 : w2.cell? ⟨wr.heap.size, 2, none⟩ = some (.int .i64 v) := (hg2.below.cell (p := ⟨wr.heap.size, 2, none⟩) (by simpa using hlen1)).trans b2
             obtain ⟨fn, tmps, assign, body, hy, hR⟩ := HY.out _ _ w2 (HJ.out _ _ _ HJ1.out hg2.below) HEA.out (HLW.out.trans (Lets.of_below (F := Fs) hg2.below (by have := HLN.out; simp; omega)))
             have HL2 := Lib.hid (HLW.out.trans (Lets.of_below (F := Fs) hg2.below (by have := HLN.out; simp; omega)))
             simp only at hy hR
             clear hg2)
          | (refine hR.mono ?_
             rintro e W3 h3
             obtain ⟨b, rfl, h4⟩ : ∃ b, e = .returned (.bool b) ∧ Hid ((b = true ∧ J (cnO P k + 1) W3 ∧ Lets Fs n0 w2 W3) ∨ (b = false ∧ Jx (cnO P k + 1) W3)) := by
               rcases h3 with ⟨h0, h3⟩ | ⟨h0, h3⟩
               · exact ⟨true, h0, Lib.hid (.inl ⟨rfl, h3⟩)⟩
               · exact ⟨false, h0, Lib.hid (.inr ⟨rfl, h3⟩)⟩
             clear h3))
        all_goals
          simp only [Exit.then]
          go_at_K
          rcases h4.out with ⟨rfl, hj3, hl3⟩ | ⟨rfl, hj3⟩
          · gi_wp2
            go_roundw
            case rel => exact ⟨k + 1, by omega, by go_num, by have h := HCN.out; simp at h; rw [h]; exact Lib.hid hj3, Lib.hid (HL2.out.trans hl3)⟩
            case measure => simp [intOf]; omega
          · have hle : cnO P k + 1 ≤ (ents 0 P).length := (List.getElem?_eq_some_iff.1 HEA.out).1
            gi_wp2
            refine bodyPost_ret (results_none rfl _ _ _) rfl ?_
            exact ⟨⟨_, rfl⟩, .inr ⟨cnO P k + 1, hle, hj3⟩⟩
    · obtain rfl : k = N := by omega
      gi_wp2
      go_end0
      refine ⟨⟨_, rfl⟩, .inl ?_⟩
      have := hJs.out
      rwa [HN.out, cnO_all] at this
end Go.Proofs.Ytbefiilbpbbjnaa
