/- A region that draws its order: operations taken first, then some in whatever order they come up, then a tail. -/
import Derived.Test.YteimjkmjofaieaaEMix
namespace Go.Proofs.Yteimjkmjofaieaa
set_option linter.unusedVariables false
set_option linter.unusedSimpArgs false

section
variable {P : Program} {md : Region.Mode} {ops : Array Oper} {Q : Exit → Act → World → Prop} {S : World → Prop} {n : Nat} {L : Array Bool → Act → World → Prop}
theorem mix_headF (f : Nat) (hsel : Region.noSelect ops = true) (hQ : ∀ c a w d v, Q (.panic c) (a.put d v) w → Q (.panic c) a w) (hs : Region.sinkB md ops n = true) (hc : Region.chainB md ops n = true) (hn : n < ops.size)
    (hdone : ∀ listed a w, L listed a w → ∀ j ∈ Region.ready md ops listed, n ≤ j) :
    ∀ (fs : List (Bool × Nat)) (os : List (Bool × Oper)) (listed : Array Bool) (a : Act) (w : World), fs.map (fun i => (i.1, ops[i.2]?)) = os.map (fun o => (o.1, some o.2)) → HeadInv md ops n listed → fs.all (fun i => decide (i.2 < n)) = true → mixB md ops fs listed = true →
      wpMix P ops Q S (fun a' w' => headW P md ops Q S n L f (setMix fs listed) a' w') os a w → headW P md ops Q S n L (fs.length + f) listed a w
  | [], [], listed, a, w, _, _, _, _, h => by
    have h' : headW P md ops Q S n L f listed a w := by simpa [setMix, wpMix] using h
    simpa using h'
  | [], _ :: _, _, _, _, h, _, _, _, _ => by simp at h
  | _ :: _, [], _, _, _, h, _, _, _, _ => by simp at h
  | (true, i) :: fs, (b, o) :: os, listed, a, w, hm, inv, hl, hB, h => by
    simp only [List.map_cons, List.cons.injEq, Prod.mk.injEq] at hm
    obtain ⟨⟨rfl, hm1⟩, hm2⟩ := hm
    simp only [mixB, Bool.and_eq_true] at hB
    simp only [List.all_cons, Bool.and_eq_true, decide_eq_true_eq] at hl
    obtain ⟨hS, v, hy, h⟩ := h
    have hr : i ∈ Region.ready md ops listed := by simpa using hB.1.1
    have := mix_headF f hsel hQ hs hc hn hdone fs os (listed.setIfInBounds i true) (a.put o.dst v) w hm2 (inv.set hr hl.1) hl.2 hB.2 h
    rw [List.length_cons, show fs.length + 1 + f = (fs.length + f) + 1 by omega]
    exact headW.first hm1 (Region.noSelect_spec hsel) (fun c a w => hQ c a w _ _) hs hc hn hl.1 hdone _ _ _ _ inv (Region.free_spec hm1 hB.1.2) hr hy hS this
  | (false, i) :: fs, (b, o) :: os, listed, a, w, hm, inv, hl, hB, h => by
    simp only [List.map_cons, List.cons.injEq, Prod.mk.injEq] at hm
    obtain ⟨⟨rfl, hm1⟩, hm2⟩ := hm
    simp only [mixB, Bool.and_eq_true, decide_eq_true_eq] at hB
    simp only [List.all_cons, Bool.and_eq_true, decide_eq_true_eq] at hl
    rw [List.length_cons, show fs.length + 1 + f = (fs.length + f) + 1 by omega]
    refine ⟨by rw [hB.1]; simp, fun j hj => ?_⟩
    have hr : j ∈ Region.ready md ops listed := hj
    rw [hB.1] at hj
    have hji : j = i := by simpa using hj
    subst hji
    refine ⟨hl.1, ?_⟩
    have step : ∀ a' w', (S w' ∧ wpMix P ops Q S (fun a' w' => headW P md ops Q S n L f (setMix fs (listed.setIfInBounds j true)) a' w') os a' w') → (S w' ∧ headW P md ops Q S n L (fs.length + f) (listed.setIfInBounds j true) a' w') := fun a' w' h' =>
      ⟨h'.1, mix_headF f hsel hQ hs hc hn hdone fs os _ a' w' hm2 (inv.set hr hl.1) hl.2 hB.2 h'.2⟩
    unfold wpOp
    simp only [hm1]
    unfold wpMix at h
    split
    · rename_i hw
      rw [if_pos hw] at h
      exact .inl (Oper.wp_mono step h)
    · rename_i hw
      rw [if_neg (by simpa using hw)] at h
      exact step _ _ h
end

def invB (ops : Array Oper) (n : Nat) (fs : List (Bool × Nat)) (m : Nat) : Bool :=
  Region.noSelect ops && decide (n < ops.size) && Region.sinkB .any ops n && Region.chainB .any ops n && fs.all (fun i => decide (i.2 < n)) && mixB .any ops fs (Array.replicate ops.size false) && decide (fs.length + m = n)

theorem wp_region_inv {P : Program} {id : Nat} {Q : Exit → Act → World → Prop} {a : Act} {w : World} {l : List Oper} (S : World → Prop) (n : Nat) (fs : List (Bool × Nat)) (m : Nat) (hm : P.follows .mixedOrders = true)
    (hB : invB l.toArray n fs m = true) (hQ : ∀ c a w d v, Q (.panic c) (a.put d v) w → Q (.panic c) a w)
    (h : wpMix P l.toArray Q S (fun a' w' => headW P .any l.toArray Q S n (fun listed a w => Region.seqB .any l.toArray (l.toArray.size - n) n listed = true ∧ wpList P l.toArray Q (l.drop n) a w) m (setMix fs (Array.replicate l.toArray.size false)) a' w') (fs.map fun i => (i.1, l.getD i.2 default)) a w.drew) : (Code.region id l.toArray true).wp P Q a w := by
  simp only [invB, Bool.and_eq_true, decide_eq_true_eq] at hB
  obtain ⟨⟨⟨⟨⟨⟨hsel, hn⟩, hs⟩, hc⟩, hfl⟩, htk⟩, hlen⟩ := hB
  have hf : fs.map (fun i => (i.1, l.toArray[i.2]?)) = (fs.map fun i => (i.1, l.getD i.2 default)).map (fun o => (o.1, some o.2)) := by
    rw [List.map_map]
    refine List.map_congr_left (fun i hi => ?_)
    have := List.all_eq_true.1 hfl i hi
    have hnl : n < l.length := by simpa using hn
    have hil : i.2 < l.length := by simp at this; omega
    simp [List.getD, hil]
  have inv0 : HeadInv .any l.toArray n (Array.replicate l.toArray.size false) :=
    ⟨by simp, fun j oj _ hl => (by rw [getD_replicate_false] at hl; cases hl), fun t _ ht => getD_in (by simpa using ht) (getD_replicate_false _ _)⟩
  refine wp_region_any hm ?_
  have hdl : (l.drop n).length = l.toArray.size - n := by simp
  have H := mix_headF (P := P) (S := S) m hsel hQ hs hc hn (fun listed a w (hL : Region.seqB .any l.toArray (l.toArray.size - n) n listed = true ∧ wpList P l.toArray Q (l.drop n) a w) => seqB_ready hL.1) fs _ _ a w.drew hf inv0 hfl htk h
  have := headW.any (g := l.toArray.size - n) (fun listed a' w' hL => by
    have := wpAny_of_seq (md := .any) (Q' := Q) (l.drop n) n listed a' w' (fun j => by simp [List.getElem?_drop]) (by rw [hdl]; exact hL.1) hL.2
    rwa [hdl] at this) _ _ _ _ H
  rw [hlen, show n + (l.toArray.size - n) = l.toArray.size by simp at hn ⊢; omega] at this
  exact this

section
variable {P : Program} {md : Region.Mode} {ops : Array Oper} {Q : Exit → Act → World → Prop} {S : World → Prop} {n : Nat} {L : Array Bool → Act → World → Prop}
/-- What comes up now. -/
theorem head_ready {f : Nat} {listed : Array Bool} {a : Act} {w : World} (rs : List Nat) (hr : Region.ready md ops listed = rs) (hne : rs ≠ [])
    (h : ∀ i, i ∈ rs → i < n ∧ wpOp P ops Q i (fun a' w' => S w' ∧ headW P md ops Q S n L f (listed.setIfInBounds i true) a' w') a w) : headW P md ops Q S n L (f + 1) listed a w :=
  ⟨by rw [hr]; exact hne, fun i hi => h i (by rwa [hr] at hi)⟩
theorem op_now {i : Nat} {o : Oper} {K : Act → World → Prop} {a : Act} {w : World} (hi : ops[i]? = some o) (hg : o.guard = none) (h : Oper.wp P o a w K Q) : wpOp P ops Q i K a w := by
  unfold wpOp
  simp only [hi]
  have hw : Region.wanted o (yielded ops a.tmps) = true := by unfold Region.wanted; rw [hg]
  rw [if_pos hw]
  exact .inl h
end

/-- A frame that parts from another one in some slots alone. -/
structure Like (a0 a : Act) (D : List Nat) : Prop where
  defers : a.defers = a0.defers
  size : a.tmps.size = a0.tmps.size
  at_ : ∀ i, i ∉ D → a.tmps[i]? = a0.tmps[i]?
theorem Like.refl (a : Act) (D : List Nat) : Like a a D := ⟨rfl, rfl, fun _ _ => rfl⟩
theorem Like.put {a0 a : Act} {D : List Nat} (h : Like a0 a D) {d : Nat} (hd : d ∈ D) (v : Value) : Like a0 (a.put (some d) v) D :=
  ⟨h.defers, by simpa [Act.put] using h.size, fun i hi => by
    have : d ≠ i := fun e => hi (e ▸ hd)
    simp only [Act.put]
    rw [Array.getElem?_setIfInBounds_ne this]
    exact h.at_ i hi⟩
theorem Like.eval {a0 a : Act} {D : List Nat} (h : Like a0 a D) {d : Nat} (hd : d ∉ D) : a.eval (.tmp d) = a0.eval (.tmp d) := by
  simp only [Act.eval, Array.getD_eq_getD_getElem?]
  rw [h.at_ d hd]
theorem eval_same {a : Act} {d : Nat} {v : Value} (hd : d < a.tmps.size) : (a.put (some d) v).eval (.tmp d) = v := by
  simp [Act.eval, Act.put, Array.getD_eq_getD_getElem?, hd]
theorem eval_other {a : Act} {d e : Nat} {v : Value} (h : d ≠ e) : (a.put (some d) v).eval (.tmp e) = a.eval (.tmp e) := by
  simp only [Act.eval, Act.put, Array.getD_eq_getD_getElem?]
  rw [Array.getElem?_setIfInBounds_ne h]
/-- Some slots are given values. -/
def puts (a : Act) : List (Nat × Value) → Act
  | [] => a
  | (d, v) :: l => puts (a.put (some d) v) l
theorem puts_like {a0 : Act} : ∀ (D : List Nat) (a b : Act), D.Nodup → b.defers = a.defers → b.tmps.size = a.tmps.size → (∀ i, i ∉ D → b.tmps[i]? = a.tmps[i]?) → (∀ i ∈ D, i < a.tmps.size) → b = puts a (D.map fun d => (d, b.eval (.tmp d)))
  | [], a, b, _, h1, h2, h3, _ => by
    obtain ⟨t, d⟩ := a
    obtain ⟨t', d'⟩ := b
    simp only at h1 h2 h3
    have : t' = t := Array.ext_getElem? fun i => h3 i (by simp)
    rw [h1, this]
    rfl
  | d :: D, a, b, hn, h1, h2, h3, h4 => by
    have hd : d < a.tmps.size := h4 d (List.mem_cons_self ..)
    obtain ⟨hn1, hn2⟩ := List.nodup_cons.1 hn
    refine puts_like (a0 := a0) D (a.put (some d) (b.eval (.tmp d))) b hn2 h1 (by simpa [Act.put] using h2) (fun i hi => ?_) (fun i hi => by simpa [Act.put] using h4 i (List.mem_cons_of_mem _ hi))
    simp only [Act.put]
    by_cases e : d = i
    · subst e
      rw [Array.getElem?_setIfInBounds_self_of_lt hd]
      have : d < b.tmps.size := by rw [h2]; exact hd
      simp [Act.eval, Array.getD_eq_getD_getElem?, this]
    · rw [Array.getElem?_setIfInBounds_ne e]
      exact h3 i (by simp [e, hi]; intro h; exact absurd h.symm e)
theorem Like.puts {a0 a : Act} {D : List Nat} (h : Like a0 a D) (hn : D.Nodup) (hs : ∀ i ∈ D, i < a0.tmps.size) : a = puts a0 (D.map fun d => (d, a.eval (.tmp d))) :=
  puts_like (a0 := a0) D a0 a hn h.defers h.size h.at_ hs
theorem region_abs {P : Program} {c : Code} {Q : Exit → Act → World → Prop} {a : Act} {w : World} (h : ∀ a0, a0 = a → c.wp P Q a0 w) : c.wp P Q a w := h a rfl
end Go.Proofs.Yteimjkmjofaieaa
