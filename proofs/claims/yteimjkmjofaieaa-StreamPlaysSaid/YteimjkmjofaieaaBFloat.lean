/- A region that draws its order, cut into: operations that yield their values in every world of a class (taken first), a few that come up one at a time and stay in the class, and a tail in the order of the text. -/
import Derived.StillTail
import Derived.OrdersHeld
import Derived.Deep.RegionHeld
import Derived.BigRegion
namespace Go.Proofs.Yteimjkmjofaieaa
set_option linter.unusedVariables false

section
variable {P : Program} {md : Region.Mode} {ops : Array Oper} {Q : Exit → Act → World → Prop} {S : World → Prop} {n : Nat} {L : Array Bool → Act → World → Prop}

/-- Whatever comes up, all of it before place n, till as many have come up as are asked for. -/
def headW (P : Program) (md : Region.Mode) (ops : Array Oper) (Q : Exit → Act → World → Prop) (S : World → Prop) (n : Nat) (L : Array Bool → Act → World → Prop) : Nat → Array Bool → Act → World → Prop
  | 0, listed, a, w => L listed a w
  | f + 1, listed, a, w => Region.ready md ops listed ≠ [] ∧ ∀ i ∈ Region.ready md ops listed, i < n ∧ wpOp P ops Q i (fun a' w' => S w' ∧ headW P md ops Q S n L f (listed.setIfInBounds i true) a' w') a w

theorem headW.any {g : Nat} (hL : ∀ listed a w, L listed a w → wpAny P md ops Q g listed a w) : ∀ (f : Nat) (listed : Array Bool) (a : Act) (w : World), headW P md ops Q S n L f listed a w → wpAny P md ops Q (f + g) listed a w
  | 0, listed, a, w, h => by rw [Nat.zero_add]; exact hL _ _ _ h
  | f + 1, listed, a, w, h => by
    rw [show f + 1 + g = (f + g) + 1 by omega]
    exact ⟨fun h0 => absurd h0 h.1, fun i hi => wpOp_mono (fun a' w' h' => headW.any hL f _ a' w' h'.2) (h.2 i hi).2⟩

theorem headW.first {i : Nat} {oi : Oper} {v : Value} (hi : ops[i]? = some oi) (hsel : ∀ (j : Nat) (o : Oper) cs b, ops[j]? = some o → o.op ≠ .select cs b)
    (hQ : ∀ c a w, Q (.panic c) (a.put oi.dst v) w → Q (.panic c) a w) (hs : Region.sinkB md ops n = true) (hc : Region.chainB md ops n = true) (hn : n < ops.size) (hin : i < n)
    (hdone : ∀ listed a w, L listed a w → ∀ j ∈ Region.ready md ops listed, n ≤ j) :
    ∀ (f : Nat) (listed : Array Bool) (a : Act) (w : World), HeadInv md ops n listed →
      (∀ j oj, ops[j]? = some oj → j ≠ i → listed.getD j true = false → (∀ e ∈ oj.after, Region.binds md e = true → e.on ≠ i) → oi.apart ops oj = true) →
      i ∈ Region.ready md ops listed → YieldsIf P ops S oi v a → S w → headW P md ops Q S n L f (listed.setIfInBounds i true) (a.put oi.dst v) w → headW P md ops Q S n L (f + 1) listed a w := by
  intro f
  induction f with
  | zero =>
    intro listed a w inv _ hr hy hS H
    have hun := (mem_ready.1 hr).1
    refine ⟨fun h => (by rw [h] at hr; cases hr), fun j hj => ?_⟩
    have hjn : j < n := Nat.lt_of_not_le fun h => tail_waits hs hc hn inv _ i rfl hin hun j h hj
    refine ⟨hjn, ?_⟩
    by_cases hji : j = i
    · subst hji
      exact hy.wpOp hi hS ⟨hS, H⟩
    · have := hdone _ _ _ H j (ready_mono hj hji)
      omega
  | succ f ih =>
    intro listed a w inv hfree hr hy hS H
    have hun := (mem_ready.1 hr).1
    refine ⟨fun h => (by rw [h] at hr; cases hr), fun j hj => ?_⟩
    have hjn : j < n := Nat.lt_of_not_le fun h => tail_waits hs hc hn inv _ i rfl hin hun j h hj
    refine ⟨hjn, ?_⟩
    by_cases hji : j = i
    · subst hji
      exact hy.wpOp hi hS ⟨hS, H⟩
    · have h1 := (H.2 j (ready_mono hj hji)).2
      obtain ⟨hjun, oj, hoj, hall⟩ := mem_ready.1 hj
      have hnot : ∀ e ∈ oj.after, Region.binds md e = true → e.on ≠ i := fun e he hb heq => by
        have h3 := hall e he hb
        rw [heq, getD_both hun] at h3
        cases h3
      have h2 := wpOp_putIf hoj (hfree j oj hoj hji hjun hnot) (fun cs b => hsel i oi cs b hi) (fun cs b => hsel j oj cs b hoj) hQ hy h1
      refine wpOp_mono (fun a' w' h3 => ⟨h3.2.1, ih (listed.setIfInBounds j true) a' w' (inv.set hj hjn) (fun k ok hk hki hunk hno => hfree k ok hk hki ?_ hno) (ready_mono hr (Ne.symm hji)) h3.1 h3.2.1 ?_⟩) h2
      · by_cases hjk : j = k
        · subst hjk; exact hjun
        · rw [getD_set_ne true hjk] at hunk; exact hunk
      · rw [Array.setIfInBounds_comm _ _ hji]
        exact h3.2.2

/-- The operations fs are taken first, one after the other. -/
def takesB (md : Region.Mode) (ops : Array Oper) : List Nat → Array Bool → Bool
  | [], _ => true
  | i :: l, listed => (Region.ready md ops listed).contains i && Region.free md ops listed i && takesB md ops l (listed.setIfInBounds i true)
def setAll : List Nat → Array Bool → Array Bool
  | [], b => b
  | i :: l, b => setAll l (b.setIfInBounds i true)
/-- The operations ms come up one at a time. -/
def midsB (md : Region.Mode) (ops : Array Oper) : List Nat → Array Bool → Bool
  | [], _ => true
  | i :: l, listed => decide (Region.ready md ops listed = [i]) && midsB md ops l (listed.setIfInBounds i true)

/-- What the operations fs yield. -/
def wpTakes (P : Program) (ops : Array Oper) (S : World → Prop) (K : Act → Prop) : List Oper → Act → Prop
  | [], a => K a
  | o :: l, a => ∃ v, YieldsIf P ops S o v a ∧ wpTakes P ops S K l (a.put o.dst v)
/-- The operations ms, one after the other. -/
def wpMids (P : Program) (ops : Array Oper) (Q : Exit → Act → World → Prop) (S : World → Prop) (K : Act → World → Prop) : List Oper → Act → World → Prop
  | [], a, w => K a w
  | o :: l, a, w => if Region.wanted o (yielded ops a.tmps) = true then Oper.wp P o a w (fun a' w' => S w' ∧ wpMids P ops Q S K l a' w') Q else S w ∧ wpMids P ops Q S K l (a.put o.dst undef) w

theorem wpTakes_mono {K K' : Act → Prop} (hK : ∀ a, K a → K' a) : ∀ (l : List Oper) (a : Act), wpTakes P ops S K l a → wpTakes P ops S K' l a
  | [], a, h => hK a h
  | _ :: l, a, ⟨v, hy, h⟩ => ⟨v, hy, wpTakes_mono hK l _ h⟩

theorem wpMids_mono {K K' : Act → World → Prop} (hK : ∀ a w, K a w → K' a w) : ∀ (l : List Oper) (a : Act) (w : World), wpMids P ops Q S K l a w → wpMids P ops Q S K' l a w
  | [], a, w, h => hK a w h
  | o :: l, a, w, h => by
    unfold wpMids at h ⊢
    split
    · rename_i hw
      rw [if_pos hw] at h
      exact Oper.wp_mono (fun a' w' h' => ⟨h'.1, wpMids_mono hK l _ _ h'.2⟩) h
    · rename_i hw
      rw [if_neg hw] at h
      exact ⟨h.1, wpMids_mono hK l _ _ h.2⟩

theorem takes_head (hsel : Region.noSelect ops = true) (hQ : ∀ c a w d v, Q (.panic c) (a.put d v) w → Q (.panic c) a w) (hs : Region.sinkB md ops n = true) (hc : Region.chainB md ops n = true) (hn : n < ops.size)
    (hdone : ∀ listed a w, L listed a w → ∀ j ∈ Region.ready md ops listed, n ≤ j) {w : World} (hS : S w) (f : Nat) :
    ∀ (fs : List Nat) (os : List Oper) (listed : Array Bool) (a : Act), fs.map (fun i => ops[i]?) = os.map some → HeadInv md ops n listed → fs.all (fun i => decide (i < n)) = true → takesB md ops fs listed = true →
      wpTakes P ops S (fun a' => headW P md ops Q S n L f (setAll fs listed) a' w) os a → headW P md ops Q S n L (fs.length + f) listed a w
  | [], [], listed, a, _, _, _, _, h => by simpa [setAll, wpTakes] using h
  | [], _ :: _, _, _, h, _, _, _, _ => by simp at h
  | _ :: _, [], _, _, h, _, _, _, _ => by simp at h
  | i :: fs, o :: os, listed, a, hm, inv, hl, hB, h => by
    simp only [List.map_cons, List.cons.injEq] at hm
    simp only [takesB, Bool.and_eq_true] at hB
    simp only [List.all_cons, Bool.and_eq_true, decide_eq_true_eq] at hl
    obtain ⟨v, hy, h⟩ := h
    have hr : i ∈ Region.ready md ops listed := by simpa using hB.1.1
    have := takes_head hsel hQ hs hc hn hdone hS f fs os (listed.setIfInBounds i true) (a.put o.dst v) hm.2 (inv.set hr hl.1) hl.2 hB.2 h
    rw [List.length_cons, show fs.length + 1 + f = (fs.length + f) + 1 by omega]
    exact headW.first hm.1 (Region.noSelect_spec hsel) (fun c a w => hQ c a w _ _) hs hc hn hl.1 hdone _ _ _ _ inv (Region.free_spec hm.1 hB.1.2) hr hy hS this

theorem mids_head : ∀ (ms : List Nat) (os : List Oper) (listed : Array Bool) (a : Act) (w : World), ms.map (fun i => ops[i]?) = os.map some → ms.all (fun i => decide (i < n)) = true → midsB md ops ms listed = true →
      wpMids P ops Q S (fun a' w' => L (setAll ms listed) a' w') os a w → headW P md ops Q S n L ms.length listed a w
  | [], [], listed, a, w, _, _, _, h => by simpa [setAll, wpMids, headW] using h
  | [], _ :: _, _, _, _, h, _, _, _ => by simp at h
  | _ :: _, [], _, _, _, h, _, _, _ => by simp at h
  | i :: ms, o :: os, listed, a, w, hm, hl, hB, h => by
    simp only [List.map_cons, List.cons.injEq] at hm
    simp only [midsB, Bool.and_eq_true, decide_eq_true_eq] at hB
    simp only [List.all_cons, Bool.and_eq_true, decide_eq_true_eq] at hl
    refine ⟨by rw [hB.1]; simp, fun j hj => ?_⟩
    rw [hB.1] at hj
    have hji : j = i := by simpa using hj
    subst hji
    refine ⟨hl.1, ?_⟩
    have step : ∀ a' w', (S w' ∧ wpMids P ops Q S (fun a' w' => L (setAll ms (listed.setIfInBounds j true)) a' w') os a' w') → (S w' ∧ headW P md ops Q S n L ms.length (listed.setIfInBounds j true) a' w') := fun a' w' h' => ⟨h'.1, mids_head ms os _ a' w' hm.2 hl.2 hB.2 h'.2⟩
    unfold wpOp
    simp only [hm.1]
    unfold wpMids at h
    split
    · rename_i hw
      rw [if_pos hw] at h
      exact .inl (Oper.wp_mono step h)
    · rename_i hw
      rw [if_neg (by simpa using hw)] at h
      exact step _ _ h
end

/-- What is asked of the region's edges. -/
def floatB (ops : Array Oper) (n : Nat) (fs ms : List Nat) : Bool :=
  Region.noSelect ops && decide (n < ops.size) && Region.sinkB .any ops n && Region.chainB .any ops n && fs.all (fun i => decide (i < n)) && ms.all (fun i => decide (i < n)) && takesB .any ops fs (Array.replicate ops.size false) &&
    midsB .any ops ms (setAll fs (Array.replicate ops.size false)) && Region.seqB .any ops (ops.size - n) n (setAll ms (setAll fs (Array.replicate ops.size false))) && decide (fs.length + ms.length = n)

theorem wp_region_float {P : Program} {id : Nat} {Q : Exit → Act → World → Prop} {a : Act} {w : World} {l : List Oper} (S : World → Prop) (n : Nat) (fs ms : List Nat) (hm : P.follows .mixedOrders = true)
    (hB : floatB l.toArray n fs ms = true) (hQ : ∀ c a w d v, Q (.panic c) (a.put d v) w → Q (.panic c) a w) (hS : S w.drew)
    (h : wpTakes P l.toArray S (fun a' => wpMids P l.toArray Q S (fun a'' w'' => wpList P l.toArray Q (l.drop n) a'' w'') (ms.map fun i => l.getD i default) a' w.drew) (fs.map fun i => l.getD i default) a) : (Code.region id l.toArray true).wp P Q a w := by
  simp only [floatB, Bool.and_eq_true, decide_eq_true_eq] at hB
  obtain ⟨⟨⟨⟨⟨⟨⟨⟨⟨hsel, hn⟩, hs⟩, hc⟩, hfl⟩, hml⟩, htk⟩, hmd⟩, hsq⟩, hlen⟩ := hB
  have hsz : l.toArray.size = l.length := by simp
  have hnl : n < l.length := by simpa using hn
  have hget : ∀ (x : List Nat), x.all (fun i => decide (i < n)) = true → x.map (fun i => l.toArray[i]?) = (x.map fun i => l.getD i default).map some := fun x hx => by
    rw [List.map_map]
    refine List.map_congr_left (fun i hi => ?_)
    have := List.all_eq_true.1 hx i hi
    have hil : i < l.length := by simp at this; omega
    simp [List.getD, hil]
  have hf := hget fs hfl
  have hmo := hget ms hml
  have inv0 : HeadInv .any l.toArray n (Array.replicate l.toArray.size false) :=
    ⟨by simp, fun j oj _ hl => (by rw [getD_replicate_false] at hl; cases hl), fun t _ ht => getD_in (by simpa using ht) (getD_replicate_false _ _)⟩
  refine wp_region_any hm ?_
  have hdl : (l.drop n).length = l.toArray.size - n := by simp
  have H := takes_head (P := P) (S := S) (L := fun listed a w => Region.seqB .any l.toArray (l.toArray.size - n) n listed = true ∧ wpList P l.toArray Q (l.drop n) a w) hsel hQ hs hc hn (fun listed a w hL => seqB_ready hL.1) hS ms.length fs _ _ a hf inv0 hfl htk
    (wpTakes_mono (fun a' h' => mids_head ms _ _ a' _ hmo hml hmd (by
      refine wpMids_mono (fun a'' w'' h'' => ⟨hsq, h''⟩) _ a' _ h')) _ a h)
  have := headW.any (g := l.toArray.size - n) (fun listed a' w' hL => by
    have := wpAny_of_seq (md := .any) (Q' := Q) (l.drop n) n listed a' w' (fun j => by simp [List.getElem?_drop]) (by rw [hdl]; exact hL.1) hL.2
    rwa [hdl] at this) _ _ _ _ H
  rw [hlen, show n + (l.toArray.size - n) = l.toArray.size by omega] at this
  exact this

section
variable {P : Program} {ops : Array Oper} {Q : Exit → Act → World → Prop} {S : World → Prop} {K : Act → Prop} {o : Oper} {l : List Oper} {a : Act}
theorem takes_by (v : Value) (hw : Region.wanted o (yielded ops a.tmps) = true) (hy : ∀ w, S w → (execOp a.eval o).run P w = .ok (.value v) w) (h : wpTakes P ops S K l (a.put o.dst v)) : wpTakes P ops S K (o :: l) a := ⟨v, .inl ⟨hw, hy⟩, h⟩
theorem takes_move (x : Operand) (v : Value) (ho : o.op = .move x) (hw : Region.wanted o (yielded ops a.tmps) = true) (hv : a.eval x = v) (h : wpTakes P ops S K l (a.put o.dst v)) : wpTakes P ops S K (o :: l) a :=
  takes_by v hw (fun w _ => by rw [BigFrame.run_move x ho, hv]) h
theorem takes_convert (x : Operand) (s t : TypeId) (u v : Value) (ho : o.op = .convert s t x) (hw : Region.wanted o (yielded ops a.tmps) = true) (hx : a.eval x = u) (hc : ∀ w, S w → (convert s t u).run P w = .ok v w) (h : wpTakes P ops S K l (a.put o.dst v)) : wpTakes P ops S K (o :: l) a :=
  takes_by v hw (fun w hS => by
    unfold execOp
    rw [ho]
    simp only [hx]
    simp [go_sem, hc w hS]) h
/-- One operation, what follows behind a variable. -/
theorem mids_step {K : Act → World → Prop} {w : World} (hw : Region.wanted o (yielded ops a.tmps) = true) (h : ∀ K' : Act → World → Prop, (∀ a w, S w → wpMids P ops Q S K l a w → K' a w) → Oper.wp P o a w K' Q) : wpMids P ops Q S K (o :: l) a w := by
  unfold wpMids
  rw [if_pos hw]
  exact h _ (fun a w h1 h2 => ⟨h1, h2⟩)
theorem mids_by {K : Act → World → Prop} {w : World} (v : Value) (hw : Region.wanted o (yielded ops a.tmps) = true) (hy : (execOp a.eval o).run P w = .ok (.value v) w) (hS : S w) (h : wpMids P ops Q S K l (a.put o.dst v) w) : wpMids P ops Q S K (o :: l) a w := by
  unfold wpMids
  rw [if_pos hw]
  unfold Oper.wp
  rw [hy]
  simp [Oper.upon]
  exact ⟨hS, h⟩
theorem mids_convert {K : Act → World → Prop} {w : World} (x : Operand) (s t : TypeId) (u v : Value) (ho : o.op = .convert s t x) (hw : Region.wanted o (yielded ops a.tmps) = true) (hx : a.eval x = u) (hc : (convert s t u).run P w = .ok v w) (hS : S w) (h : wpMids P ops Q S K l (a.put o.dst v) w) : wpMids P ops Q S K (o :: l) a w := by
  unfold wpMids
  rw [if_pos hw]
  unfold Oper.wp execOp
  rw [ho]
  simp only [hx]
  simp [go_sem, hc]
  exact ⟨hS, h⟩
end
end Go.Proofs.Yteimjkmjofaieaa
