/- The law's own function all: an iterator goes over the values of a list. -/
import Derived.Test.YtopkikdbhapfmaaDRange
namespace Go.Proofs.Ytopkikdbhapfmaa
open Go.RowKit Go.Sort Go.Shelf Go.MapKept
set_option linter.unusedVariables false
set_option linter.unusedSimpArgs false
attribute [local go_sem] Oper.semAt_some

theorem seq_nil (B : Nat) (w : World) : (binOp .eql 43 (.func (.func 30) #[] #[.pointer (some ⟨B, 0, none⟩)]) .nilFunc).run Try.prog w = .ok (.bool false) w := by kernel_rfl
theorem neq_refV (w : World) (v t : Int) : (binOp .neq 46 (.agg #[.int .i64 v, .int .u64 t]) (.agg #[.int .i64 v, .int .u64 t])).run Try.prog w = .ok (.bool false) w := by
  have h1 : Try.prog.underlying 46 = some _ := Try.underlying46
  simp [go_sem, h1]

/-- What the body of a function that ranges over a function must achieve: it does not panic. -/
def postM (P : Program) (fn : Func) (R : Ending → World → Prop) : Exit → Act → World → Prop
  | .normal, a, w | .ret, a, w => LeavesInM Fence.wide 6 P fn a.tmps R a.defers .returning w
  | _, _, _ => False
theorem postM_le {P : Program} {fn : Func} {R : Ending → World → Prop} : ∀ e a w, postM P fn R e a w → bodyPostM Fence.wide 6 P fn R e a w
  | .normal, _, _, h => h
  | .ret, _, _, h => h
  | .panic _, _, _, h => h.elim
  | .outgrown, _, _, h => h.elim
  | .exit _, _, _, h => h.elim
  | .goto _, _, _, h => h.elim
theorem calls_marks {P : Program} {f : FuncId} {fn : Func} {c : Code} {args : Array Value} {w : World} {R : Ending → World → Prop} (hf : P.funcs[f]? = some fn) (hb : fn.body = some c)
    (h : c.wp P (postM P fn R) { tmps := args ++ Array.replicate (fn.ntmps - args.size) undef, defers := [] } w) : Calls P f args w R :=
  (callsIn_wide (n := 6)).1 (callsIn_of_wp_marks hf hb trivial (wpIn_wide.2 (wp_mono h postM_le)) rfl)

/-- A slice that has the pairs L, first the value. -/
def SrcR (w : World) (v : Value) (L : Qu) : Prop :=
  (v = .slice none 0 0 ∧ L = []) ∨ ∃ g off c, v = .slice (some ⟨g, off, none⟩) L.length c ∧ L.length ≤ c ∧ c ≤ maxLen ∧ g < w.heap.size ∧ ∀ j e, L[j]? = some e → w.cell? ⟨g, off + j * 2, none⟩ = some (.int .i64 e.2) ∧ w.cell? ⟨g, off + j * 2 + 1, none⟩ = some (.int .u64 ((e.1 : Nat) : Int))
theorem SrcR.form {w : World} {v : Value} {L : Qu} (h : SrcR w v L) : ∃ a c, v = .slice a L.length c ∧ L.length ≤ c ∧ c ≤ maxLen := by
  rcases h with ⟨rfl, rfl⟩ | ⟨g, off, c, rfl, h1, h2, _⟩
  · exact ⟨none, 0, rfl, Nat.le_refl _, Nat.zero_le _⟩
  · exact ⟨_, c, rfl, h1, h2⟩
theorem SrcR.grown {w w' : World} {v : Value} {L : Qu} (h : SrcR w v L) (hb : Below w.heap.size w w') : SrcR w' v L := by
  rcases h with h | ⟨g, off, c, h1, h2, h3, h4, h5⟩
  · exact .inl h
  · refine .inr ⟨g, off, c, h1, h2, h3, by have := hb.size; omega, fun j e he => ?_⟩
    obtain ⟨k0, k1⟩ := h5 j e he
    exact ⟨(hb.cell (p := ⟨g, off + j * 2, none⟩) h4).trans k0, (hb.cell (p := ⟨g, off + j * 2 + 1, none⟩) h4).trans k1⟩
theorem SeqAt.more {w W : World} {F : List Nat} {B : Nat} {L : Qu} (h : SeqAt w [] B L) (hb : Below w.heap.size w W) (hF : ∀ x ∈ F, w.heap.size ≤ x) : SeqAt W F B L := by
  obtain ⟨v, h1, h2, _⟩ := h.ex
  refine ⟨by have := hb.size; have := h.lt; omega, fun hm => by have := hF _ hm; have := h.lt; omega, h.len, v, (hb.block _ h.lt).trans h1, RowE.below h2 hb, fun g hg hm => ?_⟩
  have := (World.ownsRow.lt h2 g hg).2
  have := hF g hm
  omega

/-- A call of All. -/
def AllsAt (w : World) (qv : Value) (L : Qu) : Prop := ∀ w', Below w.heap.size w w' → Calls Try.prog 15 #[qv] w' fun e w'' => ∃ B, e = .returned (seqV B) ∧ SeqAt w'' [] B L ∧ Below w'.heap.size w' w''

set_option maxRecDepth 100000 in
set_option maxHeartbeats 3200000 in
theorem lawAll_any {w : World} {p : Option Addr} {v : Value} {L : Qu} (hA : AllsAt w (.pointer p) L) (hv : SrcR w v L) :
    Calls Try.prog 14 #[.pointer p, v] w fun e w' => e = .returned (.bool true) ∧ Below w.heap.size w w' := by
  obtain ⟨va, vc, rfl, hv1, hv2⟩ := hv.form
  have HV := Lib.hid hv
  have HA := Lib.hid hA
  obtain ⟨N, hN⟩ : ∃ N, N = L.length := ⟨_, rfl⟩
  rw [← hN] at hv1 HV ⊢
  have HN := Lib.hid hN
  clear hv hA hN
  have hsn := seq_nil
  refine calls_marks Try.func14 rfl ?_
  simp only [Try.ntmps14, List.size_toArray, List.length_cons, List.length_nil, Nat.reduceAdd, Nat.reduceSub, Array.replicate_succ, Array.replicate_zero, List.push_toArray, List.append_toArray, List.nil_append, List.cons_append]
  go_wp2_with (go_at_call 15; fail)
  obtain ⟨W, hW⟩ : ∃ W, W = (w.alloc (.cells #[.slice va N vc] 26)).alloc (.cells #[.bool false] 4) := ⟨_, rfl⟩
  have HWS : Hid (W.heap.size = w.heap.size + 2) := Lib.hid (by rw [hW]; simp)
  have HWB : Hid (Below w.heap.size w W) := Lib.hid (by rw [hW]; exact (below_alloc _ _).trans ((below_alloc _ _).mono (by simp)))
  have HW0 : Hid (W.heap[w.heap.size]? = some (.cells #[.slice va N vc] 26 (0, 0))) := Lib.hid (by
    rw [hW]; exact ((below_alloc _ _).block _ (by simp)).trans (heap_alloc_new w _))
  have HW1 : Hid (W.heap[w.heap.size + 1]? = some (.cells #[.bool false] 4 (0, 0))) := Lib.hid (by
    rw [hW]; have := heap_alloc_new (w.alloc (.cells #[.slice va N vc] 26)) (.cells #[.bool false] 4); simpa using this)
  rw [← hW]
  clear hW
  refine (HA.out W HWB.out).mono ?_
  rintro e w1 ⟨B, rfl, hS1, hb1⟩
  have HS1 := Lib.hid hS1
  have HB1 := Lib.hid hb1
  have hw1 : w.heap.size + 2 ≤ w1.heap.size := by have := hb1.size; have := HWS.out; omega
  have HC0 := Lib.hid ((hb1.block w.heap.size (by have := HWS.out; omega)).trans HW0.out)
  have HC1 := Lib.hid ((hb1.block (w.heap.size + 1) (by have := HWS.out; omega)).trans HW1.out)
  have HBW := Lib.hid (HWB.out.trans (hb1.mono HWB.out.size))
  have HV1 := Lib.hid (HV.out.grown HBW.out)
  clear hS1 hb1
  unfold seqV
  go_wp2_with fail
  refine (wpIn_wide (n := 6)).1 ?_
  have hbi := below_alloc w1 (.cells #[.int .i64 0] 3)
  refine range_vals (n := 6) (B := B) (Fs := [w1.heap.size]) (L := L) (by omega) rfl (HS1.out.more hbi (fun x hx => by simp at hx; omega)) rfl
    (fun k W' => Below w1.heap.size w1 W' ∧ W'.heap[w1.heap.size]? = some (.cells #[.int .i64 ((k : Nat) : Int)] 3 (0, 0)))
    (fun _ _ _ => False) ?hI ?hIx ?h0 ?round ?done ?stop
  case hI =>
    rintro k A A' row ⟨hb, h1⟩ hg hr
    exact ⟨hb.grown hg hb.size (fun r e => by have := (hr r e).1; simp at this; omega), (hg.block _ (lt_of_block h1) (fun e => by have := (hr _ e.symm).1; simp at this; omega)).trans h1⟩
  case hIx => exact fun _ _ _ _ _ h _ _ => h
  case h0 => exact ⟨hbi, block_new _ _ _ rfl⟩
  case stop => exact fun _ _ _ _ _ _ h _ => h.elim
  case done =>
    rintro D W' hD ⟨hbw, hcell⟩ hK
    rw [← HN.out] at hcell
    have HK := Lib.hid hK
    have hD0 : w1.heap.size + 1 ≤ D := by simpa using hD
    have hDl := lt_of_block hK
    have e0 := (hbw.block w.heap.size (by omega)).trans HC0.out
    have e1 := (hbw.block (w.heap.size + 1) (by omega)).trans HC1.out
    have c0 := cells_cell (o := 0) e0 rfl
    have c1 := cells_cell (o := 0) e1 rfl
    have f1 := cells_free e1 0
    have ci := cells_cell (o := 0) hcell rfl
    have hl1 := lt_of_block e1
    have ht := cells_set e1 0 (.bool true)
    have hfF := fr_setCell W' ⟨w.heap.size + 1, 0, none⟩ (.bool true)
    have HBw := Lib.hid (HBW.out.trans (hbw.mono (by omega)))
    have HT := Lib.hid ht
    have HFF := Lib.hid hfF
    have HD := Lib.hid (And.intro hD0 hDl)
    clear hbw hcell hK e0 e1 ht hfF hD hD0
    simp only [Exit.inBlock, Exit.then]
    go_at_K
    go_wp2_with fail
    generalize W'.setCell ⟨w.heap.size + 1, 0, none⟩ (.bool true) = WF at *
    have hKF : WF.heap[D]? = some (.deferred (some [])) := HFF.out.same HK.out (by have := HD.out; simp; omega)
    refine ⟨by simp, .inl ⟨_, _, rfl, run_takeDeferred hKF, ?_⟩⟩
    have hne : w.heap.size + 1 ≠ D := by have := HD.out; omega
    have htF : (WF.putObj D (.deferred none)).heap[w.heap.size + 1]? = some (.cells #[.bool true] 4 (0, 0)) := (World.putObj_heap_other hne).trans HT.out
    refine ⟨.bool true, by simp [results, Try.results14, go_sem, cells_cell htF (o := 0) rfl], rfl, ?_⟩
    exact (HBw.out.trans (HFF.out.below (fun x hx => by simp at hx; omega) HBw.out.size)).trans (belowK_b (w := w) (Nat.le_refl _) WF D _ _ (by have := HD.out; omega) hKF rfl rfl)
  case round =>
    rintro l k x W' hl hp hlets ⟨hbw, hcell⟩
    gi_wp2
    refine ⟨trivial, ?_⟩
    clear hbw hcell hlets
    rintro W2 hlets ⟨hbw, hcell⟩
    have hkL := (List.getElem?_eq_some_iff.1 hp).1
    have HVW := HV1.out.grown hbw
    rcases HVW with ⟨h1, h2⟩ | ⟨g, off, c, h1, h2, h3, h4, h5⟩
    · subst h2; simp at hkL
    · obtain ⟨k0, k1⟩ := h5 k x hp
      rw [← HN.out] at h1 h2 hkL
      simp only [Value.slice.injEq] at h1
      obtain ⟨rfl, _, rfl⟩ := h1
      have e0 := (hbw.block w.heap.size (by omega)).trans HC0.out
      have c0 := cells_cell (o := 0) e0 rfl
      have ci := cells_cell (o := 0) hcell rfl
      have fi := cells_free hcell 0
      have hli := lt_of_block hcell
      have hnq := fun W => neq_refV W x.2 ((x.1 : Nat) : Int)
      have HBW2 := Lib.hid hbw
      have HLETS := Lib.hid hlets
      have HCELL := Lib.hid hcell
      obtain ⟨T, V⟩ := x
      simp only at *
      have hkI : ((k : Nat) : Int) < ((N : Nat) : Int) := by omega
      have hkm : ((N : Nat) : Int) ≤ 9223372036854775807 := by unfold maxLen at h3; omega
      clear hbw hcell hlets h5 hp e0
      gi_wp2
      have hf := fr_setCell W2 ⟨w1.heap.size, 0, none⟩ (.int .i64 (((k : Nat) : Int) + 1))
      have hc := cells_set HCELL.out 0 (.int .i64 (((k : Nat) : Int) + 1))
      refine ⟨(KeepsOthers.setCell W2 ⟨w1.heap.size, 0, none⟩ _).from _, Lets.of_fr hf (by have := HLETS.out.size; omega), HBW2.out.trans (hf.below (fun x hx => by simp at hx; omega) HBW2.out.size), ?_⟩
      simpa using hc
end Go.Proofs.Ytopkikdbhapfmaa
