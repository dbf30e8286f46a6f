/- A region that draws its order: operations that yield their values in every world of a class are taken whenever they may come up, the others come up alone; a tail in the order of the text. -/
import Derived.Test.YteimjkmjofaieaaBFloat
namespace Go.Proofs.Yteimjkmjofaieaa
set_option linter.unusedVariables false
set_option linter.unusedSimpArgs false

section
variable {P : Program} {md : Region.Mode} {ops : Array Oper} {Q : Exit → Act → World → Prop} {S : World → Prop} {n : Nat} {L : Array Bool → Act → World → Prop}

/-- The operations, each taken (true) or alone (false). -/
def mixB (md : Region.Mode) (ops : Array Oper) : List (Bool × Nat) → Array Bool → Bool
  | [], _ => true
  | (true, i) :: l, listed => (Region.ready md ops listed).contains i && Region.free md ops listed i && mixB md ops l (listed.setIfInBounds i true)
  | (false, i) :: l, listed => decide (Region.ready md ops listed = [i]) && mixB md ops l (listed.setIfInBounds i true)
def setMix : List (Bool × Nat) → Array Bool → Array Bool
  | [], b => b
  | (_, i) :: l, b => setMix l (b.setIfInBounds i true)
def wpMix (P : Program) (ops : Array Oper) (Q : Exit → Act → World → Prop) (S : World → Prop) (K : Act → World → Prop) : List (Bool × Oper) → Act → World → Prop
  | [], a, w => K a w
  | (true, o) :: l, a, w => S w ∧ ∃ v, YieldsIf P ops S o v a ∧ wpMix P ops Q S K l (a.put o.dst v) w
  | (false, o) :: l, a, w => if Region.wanted o (yielded ops a.tmps) = true then Oper.wp P o a w (fun a' w' => S w' ∧ wpMix P ops Q S K l a' w') Q else S w ∧ wpMix P ops Q S K l (a.put o.dst undef) w

theorem mix_head (hsel : Region.noSelect ops = true) (hQ : ∀ c a w d v, Q (.panic c) (a.put d v) w → Q (.panic c) a w) (hs : Region.sinkB md ops n = true) (hc : Region.chainB md ops n = true) (hn : n < ops.size)
    (hdone : ∀ listed a w, L listed a w → ∀ j ∈ Region.ready md ops listed, n ≤ j) :
    ∀ (fs : List (Bool × Nat)) (os : List (Bool × Oper)) (listed : Array Bool) (a : Act) (w : World), fs.map (fun i => (i.1, ops[i.2]?)) = os.map (fun o => (o.1, some o.2)) → HeadInv md ops n listed → fs.all (fun i => decide (i.2 < n)) = true → mixB md ops fs listed = true →
      wpMix P ops Q S (fun a' w' => L (setMix fs listed) a' w') os a w → headW P md ops Q S n L fs.length listed a w
  | [], [], listed, a, w, _, _, _, _, h => by simpa [setMix, wpMix, headW] using h
  | [], _ :: _, _, _, _, h, _, _, _, _ => by simp at h
  | _ :: _, [], _, _, _, h, _, _, _, _ => by simp at h
  | (true, i) :: fs, (b, o) :: os, listed, a, w, hm, inv, hl, hB, h => by
    simp only [List.map_cons, List.cons.injEq, Prod.mk.injEq] at hm
    obtain ⟨⟨rfl, hm1⟩, hm2⟩ := hm
    simp only [mixB, Bool.and_eq_true] at hB
    simp only [List.all_cons, Bool.and_eq_true, decide_eq_true_eq] at hl
    obtain ⟨hS, v, hy, h⟩ := h
    have hr : i ∈ Region.ready md ops listed := by simpa using hB.1.1
    have := mix_head hsel hQ hs hc hn hdone fs os (listed.setIfInBounds i true) (a.put o.dst v) w hm2 (inv.set hr hl.1) hl.2 hB.2 h
    rw [List.length_cons]
    exact headW.first hm1 (Region.noSelect_spec hsel) (fun c a w => hQ c a w _ _) hs hc hn hl.1 hdone _ _ _ _ inv (Region.free_spec hm1 hB.1.2) hr hy hS this
  | (false, i) :: fs, (b, o) :: os, listed, a, w, hm, inv, hl, hB, h => by
    simp only [List.map_cons, List.cons.injEq, Prod.mk.injEq] at hm
    obtain ⟨⟨rfl, hm1⟩, hm2⟩ := hm
    simp only [mixB, Bool.and_eq_true, decide_eq_true_eq] at hB
    simp only [List.all_cons, Bool.and_eq_true, decide_eq_true_eq] at hl
    refine ⟨by rw [hB.1]; simp, fun j hj => ?_⟩
    have hr : j ∈ Region.ready md ops listed := hj
    rw [hB.1] at hj
    have hji : j = i := by simpa using hj
    subst hji
    refine ⟨hl.1, ?_⟩
    have step : ∀ a' w', (S w' ∧ wpMix P ops Q S (fun a' w' => L (setMix fs (listed.setIfInBounds j true)) a' w') os a' w') → (S w' ∧ headW P md ops Q S n L fs.length (listed.setIfInBounds j true) a' w') := fun a' w' h' =>
      ⟨h'.1, mix_head hsel hQ hs hc hn hdone fs os _ a' w' hm2 (inv.set hr hl.1) hl.2 hB.2 h'.2⟩
    unfold wpOp
    simp only [hm1]
    unfold wpMix at h
    split
    · rename_i hw
      rw [if_pos hw] at h
      exact .inl (Oper.wp_mono step h)
    · rename_i hw
      rw [if_neg (by simpa using hw)] at h
      exact step _ _ h
theorem wpMix_mono {K K' : Act → World → Prop} (hK : ∀ a w, K a w → K' a w) : ∀ (l : List (Bool × Oper)) (a : Act) (w : World), wpMix P ops Q S K l a w → wpMix P ops Q S K' l a w
  | [], a, w, h => hK a w h
  | (true, o) :: l, a, w, ⟨hS, v, hy, h⟩ => ⟨hS, v, hy, wpMix_mono hK l _ _ h⟩
  | (false, o) :: l, a, w, h => by
    unfold wpMix at h ⊢
    split
    · rename_i hw
      rw [if_pos hw] at h
      exact Oper.wp_mono (fun a' w' h' => ⟨h'.1, wpMix_mono hK l _ _ h'.2⟩) h
    · rename_i hw
      rw [if_neg hw] at h
      exact ⟨h.1, wpMix_mono hK l _ _ h.2⟩
end

def mixedB (ops : Array Oper) (n : Nat) (fs : List (Bool × Nat)) : Bool :=
  Region.noSelect ops && decide (n < ops.size) && Region.sinkB .any ops n && Region.chainB .any ops n && fs.all (fun i => decide (i.2 < n)) && mixB .any ops fs (Array.replicate ops.size false) &&
    Region.seqB .any ops (ops.size - n) n (setMix fs (Array.replicate ops.size false)) && decide (fs.length = n)

theorem wp_region_mix {P : Program} {id : Nat} {Q : Exit → Act → World → Prop} {a : Act} {w : World} {l : List Oper} (S : World → Prop) (n : Nat) (fs : List (Bool × Nat)) (hm : P.follows .mixedOrders = true)
    (hB : mixedB l.toArray n fs = true) (hQ : ∀ c a w d v, Q (.panic c) (a.put d v) w → Q (.panic c) a w)
    (h : wpMix P l.toArray Q S (fun a'' w'' => wpList P l.toArray Q (l.drop n) a'' w'') (fs.map fun i => (i.1, l.getD i.2 default)) a w.drew) : (Code.region id l.toArray true).wp P Q a w := by
  simp only [mixedB, Bool.and_eq_true, decide_eq_true_eq] at hB
  obtain ⟨⟨⟨⟨⟨⟨⟨hsel, hn⟩, hs⟩, hc⟩, hfl⟩, htk⟩, hsq⟩, hlen⟩ := hB
  have hsz : l.toArray.size = l.length := by simp
  have hnl : n < l.length := by simpa using hn
  have hf : fs.map (fun i => (i.1, l.toArray[i.2]?)) = (fs.map fun i => (i.1, l.getD i.2 default)).map (fun o => (o.1, some o.2)) := by
    rw [List.map_map]
    refine List.map_congr_left (fun i hi => ?_)
    have := List.all_eq_true.1 hfl i hi
    have hil : i.2 < l.length := by simp at this; omega
    simp [List.getD, hil]
  have inv0 : HeadInv .any l.toArray n (Array.replicate l.toArray.size false) :=
    ⟨by simp, fun j oj _ hl => (by rw [getD_replicate_false] at hl; cases hl), fun t _ ht => getD_in (by simpa using ht) (getD_replicate_false _ _)⟩
  refine wp_region_any hm ?_
  have hdl : (l.drop n).length = l.toArray.size - n := by simp
  have H := mix_head (P := P) (S := S) (L := fun listed a w => Region.seqB .any l.toArray (l.toArray.size - n) n listed = true ∧ wpList P l.toArray Q (l.drop n) a w) hsel hQ hs hc hn (fun listed a w hL => seqB_ready hL.1) fs _ _ a w.drew hf inv0 hfl htk
    (wpMix_mono (fun a'' w'' h'' => ⟨hsq, h''⟩) _ a _ h)
  have := headW.any (g := l.toArray.size - n) (fun listed a' w' hL => by
    have := wpAny_of_seq (md := .any) (Q' := Q) (l.drop n) n listed a' w' (fun j => by simp [List.getElem?_drop]) (by rw [hdl]; exact hL.1) hL.2
    rwa [hdl] at this) _ _ _ _ H
  rw [hlen, show n + (l.toArray.size - n) = l.toArray.size by omega] at this
  exact this

section
variable {P : Program} {ops : Array Oper} {Q : Exit → Act → World → Prop} {S : World → Prop} {K : Act → World → Prop} {o : Oper} {l : List (Bool × Oper)} {a : Act} {w : World}
theorem mix_take (v : Value) (hS : S w) (hw : Region.wanted o (yielded ops a.tmps) = true) (hy : ∀ w, S w → (execOp a.eval o).run P w = .ok (.value v) w) (h : wpMix P ops Q S K l (a.put o.dst v) w) : wpMix P ops Q S K ((true, o) :: l) a w := ⟨hS, v, .inl ⟨hw, hy⟩, h⟩
theorem mix_move (x : Operand) (v : Value) (ho : o.op = .move x) (hS : S w) (hw : Region.wanted o (yielded ops a.tmps) = true) (hv : a.eval x = v) (h : wpMix P ops Q S K l (a.put o.dst v) w) : wpMix P ops Q S K ((true, o) :: l) a w :=
  mix_take v hS hw (fun w _ => by rw [BigFrame.run_move x ho, hv]) h
/-- One that comes up alone, what follows behind a variable. -/
theorem mix_step (hw : Region.wanted o (yielded ops a.tmps) = true) (h : ∀ K' : Act → World → Prop, (∀ a w, S w → wpMix P ops Q S K l a w → K' a w) → Oper.wp P o a w K' Q) : wpMix P ops Q S K ((false, o) :: l) a w := by
  unfold wpMix
  rw [if_pos hw]
  exact h _ (fun a w h1 h2 => ⟨h1, h2⟩)
theorem mix_by (v : Value) (hw : Region.wanted o (yielded ops a.tmps) = true) (hy : (execOp a.eval o).run P w = .ok (.value v) w) (hS : S w) (h : wpMix P ops Q S K l (a.put o.dst v) w) : wpMix P ops Q S K ((false, o) :: l) a w := by
  unfold wpMix
  rw [if_pos hw]
  unfold Oper.wp
  rw [hy]
  simp [Oper.upon]
  exact ⟨hS, h⟩
theorem mix_moved (x : Operand) (v : Value) (ho : o.op = .move x) (hw : Region.wanted o (yielded ops a.tmps) = true) (hv : a.eval x = v) (hS : S w) (h : wpMix P ops Q S K l (a.put o.dst v) w) : wpMix P ops Q S K ((false, o) :: l) a w :=
  mix_by v hw (by rw [BigFrame.run_move x ho, hv]) hS h
theorem mix_skip (hw : Region.wanted o (yielded ops a.tmps) = false) (hS : S w) (h : wpMix P ops Q S K l (a.put o.dst undef) w) : wpMix P ops Q S K ((false, o) :: l) a w := by
  unfold wpMix
  rw [if_neg (by rw [hw]; exact Bool.false_ne_true)]
  exact ⟨hS, h⟩
theorem mix_nil (h : K a w) : wpMix P ops Q S K [] a w := h
end
end Go.Proofs.Yteimjkmjofaieaa
