/- Len: a range over All. -/
import Derived.Test.YtbefiilbpbbjnaaERange
namespace Go.Proofs.Ytbefiilbpbbjnaa
open Go.RowKit Go.Sort Go.Shelf
set_option linter.unusedVariables false
set_option linter.unusedSimpArgs false
attribute [local go_sem] Oper.semAt_some

/-- What the body of a function that ranges over a function must achieve: it does not panic. -/
def postM (P : Program) (fn : Func) (R : Ending → World → Prop) : Exit → Act → World → Prop
  | .normal, a, w | .ret, a, w => LeavesInM Fence.wide 6 P fn a.tmps R a.defers .returning w
  | _, _, _ => False
theorem postM_le {P : Program} {fn : Func} {R : Ending → World → Prop} : ∀ e a w, postM P fn R e a w → bodyPostM Fence.wide 6 P fn R e a w
  | .normal, _, _, h => h
  | .ret, _, _, h => h
  | .panic _, _, _, h => h.elim
  | .outgrown, _, _, h => h.elim
  | .exit _, _, _, h => h.elim
  | .goto _, _, _, h => h.elim
theorem calls_marks {P : Program} {f : FuncId} {fn : Func} {c : Code} {args : Array Value} {w : World} {R : Ending → World → Prop} (hf : P.funcs[f]? = some fn) (hb : fn.body = some c)
    (h : c.wp P (postM P fn R) { tmps := args ++ Array.replicate (fn.ntmps - args.size) undef, defers := [] } w) : Calls P f args w R :=
  (callsIn_wide (n := 6)).1 (callsIn_of_wp_marks hf hb trivial (wpIn_wide.2 (wp_mono h postM_le)) rfl)

/-- A call of All. -/
def AllsAt (w : World) (qv : Value) (P : Tab) : Prop := ∀ (F : List Nat) (w' : World), Below w.heap.size w w' → (∀ x ∈ F, x < w'.heap.size) → Calls Try.prog 15 #[qv] w' fun e w'' => ∃ B, e = .returned (seqV B) ∧ SeqAt w'' F B P ∧ Below w'.heap.size w' w''
theorem TAt.alls {w : World} {t g c : Nat} {P : Tab} (h : TAt w t g c P) : AllsAt w (.pointer (some ⟨t, 0, none⟩)) P := fun F w' hb hF => slAll_any (h.grown hb) F hF
theorem NoT.alls {w : World} {v : Value} (h : NoT w v) : AllsAt w v [] := fun F w' hb hF => slAll_nil (h.grown hb) F hF

set_option maxRecDepth 100000 in
set_option maxHeartbeats 3200000 in
theorem slLen_any {w : World} {p : Option Addr} {P : Tab} (hA : AllsAt w (.pointer p) P) :
    Calls Try.prog 12 #[.pointer p] w fun e w' => e = .returned (.int .i64 (((ents 0 P).length : Nat) : Int)) ∧ Below w.heap.size w w' := by
  have HA := Lib.hid hA
  clear hA
  refine calls_marks Try.func12 rfl ?_
  simp only [Try.ntmps12, List.size_toArray, List.length_cons, List.length_nil, Nat.reduceAdd, Nat.reduceSub, Array.replicate_succ, Array.replicate_zero, List.push_toArray, List.append_toArray, List.nil_append, List.cons_append]
  go_wp2_with (go_at_call 15; fail)
  have hb0 := below_alloc w (.cells #[.int .i64 0] 3)
  refine (HA.out [w.heap.size] _ hb0 (fun x hx => by simp at hx; subst hx; simp)).mono ?_
  rintro e w1 ⟨B, rfl, hS1, hb1⟩
  have HS1 := Lib.hid hS1
  have hlt1 : w.heap.size < w1.heap.size := by have := hb1.size; simp at this; omega
  have HC0 := Lib.hid ((hb1.block w.heap.size (by simp)).trans (block_new w (.cells #[.int .i64 0] 3) _ rfl))
  have HBW := Lib.hid (hb0.trans (hb1.mono (by simp)))
  have hlen := ents_le 0 P
  have hl128 := hS1.len
  clear hS1 hb1 hb0
  unfold seqV
  go_wp2_with fail
  refine (wpIn_wide (n := 6)).1 ?_
  refine range_vals (n := 6) (B := B) (Fs := [w.heap.size]) (P := P) (by omega) rfl HS1.out rfl
    (fun k W' => Below w.heap.size w W' ∧ W'.heap[w.heap.size]? = some (.cells #[.int .i64 ((k : Nat) : Int)] 3 (0, 0)))
    (fun _ _ _ => False) ?hI ?hIx ?h0 ?round ?done ?stop
  case hI =>
    rintro k A A' row ⟨hb, h1⟩ hg hr
    exact ⟨hb.grown hg hb.size (fun r e => by have := (hr r e).1; omega), (hg.block _ (lt_of_block h1) (fun e => by have := (hr _ e.symm).1; omega)).trans h1⟩
  case hIx => exact fun _ _ _ _ _ h _ _ => h
  case h0 => exact ⟨HBW.out, HC0.out⟩
  case stop => exact fun _ _ _ _ _ _ h _ => h.elim
  case done =>
    rintro D W' hD ⟨hbw, hcell⟩ hK
    have HK := Lib.hid hK
    have HB := Lib.hid hbw
    have HD := Lib.hid hD
    have ci := cells_cell (o := 0) hcell rfl
    clear hbw hcell hK hD
    simp only [Exit.inBlock, Exit.then]
    go_at_K
    go_wp2_with fail
    refine ⟨by simp, .inl ⟨_, _, rfl, run_takeDeferred HK.out, ?_⟩⟩
    refine ⟨.int .i64 (((ents 0 P).length : Nat) : Int), by simp [results, Try.results12, go_sem], rfl, ?_⟩
    exact HB.out.trans (belowK_b (w := w) (Nat.le_refl _) W' D _ _ (by have := HD.out; omega) HK.out rfl rfl)
  case round =>
    rintro l k x W' hl hs2 hp hlets ⟨hbw, hcell⟩
    have hkL := (List.getElem?_eq_some_iff.1 hp).1
    gi_wp2
    refine ⟨Below.refl _ _, ?_⟩
    clear hbw hcell hlets
    rintro W2 _ hlets ⟨hbw, hcell⟩
    have hkI : ((k : Nat) : Int) ≤ 128 := by omega
    have hkI0 : (0 : Int) ≤ ((k : Nat) : Int) := by omega
    have ci := cells_cell (o := 0) hcell rfl
    have fi := cells_free hcell 0
    have hli := lt_of_block hcell
    have HBW2 := Lib.hid hbw
    have HLETS := Lib.hid hlets
    have HCELL := Lib.hid hcell
    clear hbw hcell hlets hp hkL hlen hl128
    gi_wp2
    have hf := fr_setCell W2 ⟨w.heap.size, 0, none⟩ (.int .i64 (((k : Nat) : Int) + 1))
    have hc := cells_set HCELL.out 0 (.int .i64 (((k : Nat) : Int) + 1))
    refine ⟨(KeepsOthers.setCell W2 ⟨w.heap.size, 0, none⟩ _).from _, Lets.of_fr hf (by have := HLETS.out.size; omega), HBW2.out.trans (hf.below (fun x hx => by simp at hx; omega) HBW2.out.size), ?_⟩
    simpa using hc
end Go.Proofs.Ytbefiilbpbbjnaa
