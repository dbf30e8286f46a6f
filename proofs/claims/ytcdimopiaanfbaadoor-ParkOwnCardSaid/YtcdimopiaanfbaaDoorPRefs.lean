/- PRefs: GPad, GTwo, PRefA, PRefB, PRefD, PRefE, PRefF, PRefG, PRefH, merged. -/
import Derived.Test.YtcdimopiaanfbaaDoorEMix
import Derived.Test.YtcdimopiaanfbaaDoorPQPure
import Derived.Test.YtcdimopiaanfbaaDoorFRefC
import Derived.Test.YtcdimopiaanfbaaDoorPLeave
import Derived.LoopTactic
import Derived.Deep.LoopGhost
import Derived.Deep.QuietTactic
import Derived.BigQuiet
import Derived.Test.YtcdimopiaanfbaaDoorDFloat
import Derived.Test.YtcdimopiaanfbaaDoorGFlags
/- A region that draws its order and has no operation that waits for all others: as a region with one more operation that waits for all. Of no program. -/
namespace Go.Proofs.YtcdimopiaanfbaaDoor
set_option linter.unusedVariables false
set_option linter.unusedSimpArgs false

/-- An operation that does nothing and waits for all. -/
def padOp (n : Nat) : Oper := { dst := none, op := .move (.const (.bool true)), type := 0, pos := "", after := ((List.range n).map fun i => ({ on := i, ground := .data } : Edge)).toArray, guard := none }
def padB (ops : Array Oper) (fs : List (Bool × Nat)) : Bool :=
  Region.noSelect (ops.push (padOp ops.size)) && Region.sinkB .any (ops.push (padOp ops.size)) ops.size && Region.chainB .any (ops.push (padOp ops.size)) ops.size && fs.all (fun i => decide (i.2 < ops.size)) && mixB .any (ops.push (padOp ops.size)) fs (Array.replicate (ops.size + 1) false) &&
    decide (setMix fs (Array.replicate (ops.size + 1) false) = (Array.replicate ops.size true).push false) && (Region.ready .any ops (Array.replicate ops.size true)).isEmpty && decide (fs.length = ops.size)

section
variable {P : Program} {md : Region.Mode} {ops : Array Oper} {Q : Exit → Act → World → Prop} {S : World → Prop}
theorem getD_push (x : Array Bool) (b : Bool) (j : Nat) (hj : j < x.size) : (x.push b).getD j true = x.getD j true ∧ (x.push b).getD j false = x.getD j false := by
  simp [Array.getElem?_push, Nat.ne_of_lt hj]
theorem getD_pushF (x : Array Bool) (j : Nat) : (x.push false).getD j false = x.getD j false := by
  by_cases h : j < x.size
  · exact (getD_push x false j h).2
  · by_cases e : j = x.size
    · subst e; simp
    · have h1 : ¬ j < (x.push false).size := by simp; omega
      simp only [Array.getD_eq_getD_getElem?]
      rw [Array.getElem?_eq_none (by omega), Array.getElem?_eq_none (by omega)]
theorem ready_pad {d : Oper} {x : Array Bool} (hx : x.size = ops.size) {i : Nat} (hi : i < ops.size) : i ∈ Region.ready md (ops.push d) (x.push false) ↔ i ∈ Region.ready md ops x := by
  unfold Region.ready
  have h1 : (ops.push d)[i]? = ops[i]? := by rw [Array.getElem?_push]; simp [Nat.ne_of_lt hi]
  simp only [List.mem_filter, List.mem_range, Array.size_push, h1, (getD_push x false i (by omega)).1, getD_pushF]
  constructor
  · rintro ⟨_, h⟩; exact ⟨hi, h⟩
  · rintro ⟨_, h⟩; exact ⟨by omega, h⟩
theorem yielded_pad {d : Oper} (hd : d.dst = none) (tmps : Array Value) : yielded (ops.push d) tmps = yielded ops tmps := by
  funext j
  unfold yielded
  by_cases h : j < ops.size
  · rw [Array.getElem?_push]; simp [Nat.ne_of_lt h]
  · by_cases e : j = ops.size
    · subst e; simp [hd]
    · rw [Array.getElem?_eq_none (by simp; omega), Array.getElem?_eq_none (by omega)]
theorem wpOp_pad {d : Oper} (hd : d.dst = none) {i : Nat} (hi : i < ops.size) {K : Act → World → Prop} {a : Act} {w : World} (h : wpOp P (ops.push d) Q i K a w) : wpOp P ops Q i K a w := by
  unfold wpOp at h ⊢
  rw [yielded_pad hd] at h
  have h1 : (ops.push d)[i]? = ops[i]? := by rw [Array.getElem?_push]; simp [Nat.ne_of_lt hi]
  rw [h1] at h
  exact h
theorem headW_pad {d : Oper} (hd : d.dst = none) : ∀ (f : Nat) (x : Array Bool) (a : Act) (w : World), x.size = ops.size →
    headW P .any (ops.push d) Q S ops.size (fun listed a w => ∃ y, y.size = ops.size ∧ listed = y.push false ∧ Region.ready .any ops y = [] ∧ Q .normal a w) f (x.push false) a w → wpAny P .any ops Q f x a w
  | 0, x, a, w, hx, h => by
    obtain ⟨y, _, e, h1, h2⟩ := h
    have : y = x := (Array.push_inj_left.1 e).symm
    subst this
    exact ⟨h1, h2⟩
  | f + 1, x, a, w, hx, h => by
    obtain ⟨h0, h1⟩ := h
    refine ⟨fun he => ?_, fun i hi => ?_⟩
    · exfalso
      obtain ⟨i, hi⟩ := List.exists_mem_of_ne_nil _ h0
      have := (ready_pad (md := .any) hx (h1 i hi).1).1 hi
      rw [he] at this
      cases this
    · have hin : i < ops.size := by
        unfold Region.ready at hi
        simpa using (List.mem_filter.1 hi).1
      have := (h1 i ((ready_pad hx hin).2 hi)).2
      refine wpOp_mono (fun a' w' h' => ?_) (wpOp_pad hd hin this)
      refine headW_pad hd f (x.setIfInBounds i true) a' w' (by simpa using hx) ?_
      have e : (x.push false).setIfInBounds i true = (x.setIfInBounds i true).push false := by
        refine Array.ext_getElem? fun j => ?_
        have hix : i < x.size := by omega
        by_cases h1 : j = i
        · subst h1
          rw [Array.getElem?_setIfInBounds_self_of_lt (by simp; omega), Array.getElem?_push, if_neg (by simp; omega), Array.getElem?_setIfInBounds_self_of_lt hix]
        · rw [Array.getElem?_setIfInBounds_ne (fun e => h1 e.symm), Array.getElem?_push, Array.getElem?_push, Array.size_setIfInBounds, Array.getElem?_setIfInBounds_ne (fun e => h1 e.symm)]
      rw [e] at h'
      exact h'.2
end
theorem wp_region_pad {P : Program} {id : Nat} {Q : Exit → Act → World → Prop} {a : Act} {w : World} {l : List Oper} (S : World → Prop) (fs : List (Bool × Nat)) (hm : P.follows .mixedOrders = true)
    (hB : padB l.toArray fs = true) (hQ : ∀ c a w d v, Q (.panic c) (a.put d v) w → Q (.panic c) a w)
    (h : wpMix P (l.toArray.push (padOp l.toArray.size)) Q S (fun a'' w'' => wpList P l.toArray Q [] a'' w'') (fs.map fun i => (i.1, l.getD i.2 default)) a w.drew) : (Code.region id l.toArray true).wp P Q a w := by
  simp only [padB, Bool.and_eq_true, decide_eq_true_eq] at hB
  obtain ⟨⟨⟨⟨⟨⟨⟨hsel, hs⟩, hc⟩, hfl⟩, htk⟩, hset⟩, hrd⟩, hlen⟩ := hB
  have hsz : l.toArray.size = l.length := by simp
  have hf : fs.map (fun i => (i.1, (l.toArray.push (padOp l.toArray.size))[i.2]?)) = (fs.map fun i => (i.1, l.getD i.2 default)).map (fun o => (o.1, some o.2)) := by
    rw [List.map_map]
    refine List.map_congr_left (fun i hi => ?_)
    have := List.all_eq_true.1 hfl i hi
    have hil : i.2 < l.length := by simp at this; omega
    rw [Array.getElem?_push]
    simp [List.getD, hil, Nat.ne_of_lt hil]
  have inv0 : HeadInv .any (l.toArray.push (padOp l.toArray.size)) l.toArray.size (Array.replicate (l.toArray.size + 1) false) :=
    ⟨by simp, fun j oj _ hl => (by rw [getD_replicate_false] at hl; cases hl), fun t _ ht => getD_in (by simpa using ht) (getD_replicate_false _ _)⟩
  refine wp_region_any hm ?_
  have hrd' : Region.ready .any l.toArray (Array.replicate l.toArray.size true) = [] := by simpa using hrd
  have H := mix_head (P := P) (md := .any) (ops := l.toArray.push (padOp l.toArray.size)) (Q := Q) (S := S) (n := l.toArray.size) (L := fun listed a w => ∃ y, y.size = l.toArray.size ∧ listed = y.push false ∧ Region.ready .any l.toArray y = [] ∧ Q .normal a w) hsel hQ hs hc (by simp)
    (fun listed a w hL j hj => by
      obtain ⟨y, hy, rfl, h1, _⟩ := hL
      rcases Nat.lt_or_ge j l.toArray.size with hlt | hge
      · exfalso
        have := (ready_pad (md := .any) hy hlt).1 hj
        rw [h1] at this
        cases this
      · exact hge) fs _ _ a w.drew hf inv0 hfl htk
    (wpMix_mono (fun a'' w'' h'' => by rw [hset]; exact ⟨_, by simp, rfl, hrd', h''⟩) _ a _ h)
  rw [hlen] at H
  have hr : Array.replicate (l.toArray.size + 1) false = (Array.replicate l.toArray.size false).push false := by rw [Array.replicate_succ]
  rw [hr] at H
  exact headW_pad (d := padOp l.toArray.size) rfl _ _ _ _ (by simp) H
end Go.Proofs.YtcdimopiaanfbaaDoor
/- A region that draws its order, in two parts: what comes up ahead of place n, and the rest, each with a class of worlds of its own. Of no program. -/
namespace Go.Proofs.YtcdimopiaanfbaaDoor
set_option linter.unusedVariables false
set_option linter.unusedSimpArgs false

/-- What lies behind place n waits for the operation ahead of it or for another one behind it. -/
def restB (md : Region.Mode) (ops : Array Oper) (n : Nat) : Bool :=
  (List.range ops.size).all fun t => decide (t < n) || (List.range t).any fun j => decide (n ≤ j + 1) && Region.waitsFor md ops t j
section
variable {P : Program} {md : Region.Mode} {ops : Array Oper} {Q : Exit → Act → World → Prop} {S : World → Prop} {n : Nat} {L : Array Bool → Act → World → Prop}
theorem sink_last {m : Nat} (hs : Region.sinkB md ops m = true) {listed : Array Bool} (hcl : ∀ j oj, ops[j]? = some oj → listed.getD j false = true → ∀ e ∈ oj.after, Region.binds md e = true → listed.getD e.on false = true) :
    ∀ (d i : Nat), m - i = d → i ≤ m → listed.getD i false = false → listed.getD m false = false := by
  intro d
  induction d using Nat.strongRecOn with
  | _ d ih =>
    intro i hd hi hu
    by_cases him : i = m
    · rw [← him]; exact hu
    · have h1 := List.all_eq_true.1 hs i (List.mem_range.2 (by omega))
      obtain ⟨j, hj, h2⟩ := List.any_eq_true.1 h1
      simp only [Bool.and_eq_true, decide_eq_true_eq] at h2
      obtain ⟨oj, hoj, e, he, hb, hon⟩ := Region.waitsFor_spec h2.2
      have hjm : j ≤ m := by have := List.mem_range.1 hj; omega
      have hju : listed.getD j false = false := by
        cases hl : listed.getD j false with
        | false => rfl
        | true =>
          have := hcl j oj hoj hl e he hb
          rw [hon, hu] at this
          cases this
      exact ih (m - j) (by omega) j rfl hjm hju
theorem rest_waits (h0 : 0 < n) (hs : Region.sinkB md ops (n - 1) = true) (hr : restB md ops n = true) {listed : Array Bool} (inv : HeadInv md ops n listed) {i : Nat} (hi : i < n) (hu : listed.getD i true = false) : ∀ t ∈ Region.ready md ops listed, t < n := by
  intro t ht
  rcases Nat.lt_or_ge t n with h | h
  · exact h
  · exfalso
    obtain ⟨_, ot, hot, hall⟩ := mem_ready.1 ht
    have htlt : t < ops.size := (Array.getElem?_eq_some_iff.1 hot).1
    have hlast := sink_last hs inv.closed _ i rfl (by omega) (getD_both hu)
    have h1 := List.all_eq_true.1 hr t (List.mem_range.2 htlt)
    rw [Bool.or_eq_true] at h1
    rcases h1 with h1 | h1
    · simp at h1; omega
    · obtain ⟨j, hj, h2⟩ := List.any_eq_true.1 h1
      simp only [Bool.and_eq_true, decide_eq_true_eq] at h2
      have hjt := List.mem_range.1 hj
      obtain ⟨o', ho', e, he, hb, hon⟩ := Region.waitsFor_spec h2.2
      have : o' = ot := Option.some.inj (ho'.symm.trans hot)
      subst this
      have h3 := hall e he hb
      rw [hon] at h3
      by_cases hjn : j = n - 1
      · rw [hjn, hlast] at h3; cases h3
      · rw [getD_both (inv.tail j (by omega) (by omega))] at h3; cases h3

theorem headW.first2 {i : Nat} {oi : Oper} {v : Value} (hi : ops[i]? = some oi) (hsel : ∀ (j : Nat) (o : Oper) cs b, ops[j]? = some o → o.op ≠ .select cs b)
    (hQ : ∀ c a w, Q (.panic c) (a.put oi.dst v) w → Q (.panic c) a w) (h0 : 0 < n) (hs : Region.sinkB md ops (n - 1) = true) (hc : restB md ops n = true) (hin : i < n)
    (hdone : ∀ listed a w, L listed a w → ∀ j ∈ Region.ready md ops listed, n ≤ j) :
    ∀ (f : Nat) (listed : Array Bool) (a : Act) (w : World), HeadInv md ops n listed →
      (∀ j oj, ops[j]? = some oj → j ≠ i → listed.getD j true = false → (∀ e ∈ oj.after, Region.binds md e = true → e.on ≠ i) → oi.apart ops oj = true) →
      i ∈ Region.ready md ops listed → YieldsIf P ops S oi v a → S w → headW P md ops Q S n L f (listed.setIfInBounds i true) (a.put oi.dst v) w → headW P md ops Q S n L (f + 1) listed a w := by
  intro f
  induction f with
  | zero =>
    intro listed a w inv _ hr hy hS H
    have hun := (mem_ready.1 hr).1
    refine ⟨fun h => (by rw [h] at hr; cases hr), fun j hj => ?_⟩
    have hjn : j < n := rest_waits h0 hs hc inv hin hun j hj
    refine ⟨hjn, ?_⟩
    by_cases hji : j = i
    · subst hji
      exact hy.wpOp hi hS ⟨hS, H⟩
    · have := hdone _ _ _ H j (ready_mono hj hji)
      omega
  | succ f ih =>
    intro listed a w inv hfree hr hy hS H
    have hun := (mem_ready.1 hr).1
    refine ⟨fun h => (by rw [h] at hr; cases hr), fun j hj => ?_⟩
    have hjn : j < n := rest_waits h0 hs hc inv hin hun j hj
    refine ⟨hjn, ?_⟩
    by_cases hji : j = i
    · subst hji
      exact hy.wpOp hi hS ⟨hS, H⟩
    · have h1 := (H.2 j (ready_mono hj hji)).2
      obtain ⟨hjun, oj, hoj, hall⟩ := mem_ready.1 hj
      have hnot : ∀ e ∈ oj.after, Region.binds md e = true → e.on ≠ i := fun e he hb heq => by
        have h3 := hall e he hb
        rw [heq, getD_both hun] at h3
        cases h3
      have h2 := wpOp_putIf hoj (hfree j oj hoj hji hjun hnot) (fun cs b => hsel i oi cs b hi) (fun cs b => hsel j oj cs b hoj) hQ hy h1
      refine wpOp_mono (fun a' w' h3 => ⟨h3.2.1, ih (listed.setIfInBounds j true) a' w' (inv.set hj hjn) (fun k ok hk hki hunk hno => hfree k ok hk hki ?_ hno) (ready_mono hr (Ne.symm hji)) h3.1 h3.2.1 ?_⟩) h2
      · by_cases hjk : j = k
        · subst hjk; exact hjun
        · rw [getD_set_ne true hjk] at hunk; exact hunk
      · rw [Array.setIfInBounds_comm _ _ hji]
        exact h3.2.2
theorem mix_head2 (hsel : Region.noSelect ops = true) (hQ : ∀ c a w d v, Q (.panic c) (a.put d v) w → Q (.panic c) a w) (h0 : 0 < n) (hs : Region.sinkB md ops (n - 1) = true) (hc : restB md ops n = true)
    (hdone : ∀ listed a w, L listed a w → ∀ j ∈ Region.ready md ops listed, n ≤ j) :
    ∀ (fs : List (Bool × Nat)) (os : List (Bool × Oper)) (listed : Array Bool) (a : Act) (w : World), fs.map (fun i => (i.1, ops[i.2]?)) = os.map (fun o => (o.1, some o.2)) → HeadInv md ops n listed → fs.all (fun i => decide (i.2 < n)) = true → mixB md ops fs listed = true →
      wpMix P ops Q S (fun a' w' => L (setMix fs listed) a' w') os a w → headW P md ops Q S n L fs.length listed a w
  | [], [], listed, a, w, _, _, _, _, h => by simpa [setMix, wpMix, headW] using h
  | [], _ :: _, _, _, _, h, _, _, _, _ => by simp at h
  | _ :: _, [], _, _, _, h, _, _, _, _ => by simp at h
  | (true, i) :: fs, (b, o) :: os, listed, a, w, hm, inv, hl, hB, h => by
    simp only [List.map_cons, List.cons.injEq, Prod.mk.injEq] at hm
    obtain ⟨⟨rfl, hm1⟩, hm2⟩ := hm
    simp only [mixB, Bool.and_eq_true] at hB
    simp only [List.all_cons, Bool.and_eq_true, decide_eq_true_eq] at hl
    obtain ⟨hS, v, hy, h⟩ := h
    have hr : i ∈ Region.ready md ops listed := by simpa using hB.1.1
    have := mix_head2 hsel hQ h0 hs hc hdone fs os (listed.setIfInBounds i true) (a.put o.dst v) w hm2 (inv.set hr hl.1) hl.2 hB.2 h
    rw [List.length_cons]
    exact headW.first2 hm1 (Region.noSelect_spec hsel) (fun c a w => hQ c a w _ _) h0 hs hc hl.1 hdone _ _ _ _ inv (Region.free_spec hm1 hB.1.2) hr hy hS this
  | (false, i) :: fs, (b, o) :: os, listed, a, w, hm, inv, hl, hB, h => by
    simp only [List.map_cons, List.cons.injEq, Prod.mk.injEq] at hm
    obtain ⟨⟨rfl, hm1⟩, hm2⟩ := hm
    simp only [mixB, Bool.and_eq_true, decide_eq_true_eq] at hB
    simp only [List.all_cons, Bool.and_eq_true, decide_eq_true_eq] at hl
    refine ⟨by rw [hB.1]; simp, fun j hj => ?_⟩
    have hr : j ∈ Region.ready md ops listed := hj
    rw [hB.1] at hj
    have hji : j = i := by simpa using hj
    subst hji
    refine ⟨hl.1, ?_⟩
    have step : ∀ a' w', (S w' ∧ wpMix P ops Q S (fun a' w' => L (setMix fs (listed.setIfInBounds j true)) a' w') os a' w') → (S w' ∧ headW P md ops Q S n L fs.length (listed.setIfInBounds j true) a' w') := fun a' w' h' =>
      ⟨h'.1, mix_head2 hsel hQ h0 hs hc hdone fs os _ a' w' hm2 (inv.set hr hl.1) hl.2 hB.2 h'.2⟩
    unfold wpOp
    simp only [hm1]
    unfold wpMix at h
    split
    · rename_i hw
      rw [if_pos hw] at h
      exact .inl (Oper.wp_mono step h)
    · rename_i hw
      rw [if_neg (by simpa using hw)] at h
      exact step _ _ h
/-- Operations of the longer row, seen as those of the shorter. -/
theorem wpMix_pad {d : Oper} (hd : d.dst = none) {K : Act → World → Prop} : ∀ (os : List (Bool × Oper)) (a : Act) (w : World), wpMix P ops Q S K os a w → wpMix P (ops.push d) Q S K os a w
  | [], a, w, h => h
  | (true, o) :: os, a, w, h => by
    obtain ⟨hS, v, hy, h⟩ := h
    refine ⟨hS, v, ?_, wpMix_pad hd os _ _ h⟩
    unfold YieldsIf at hy ⊢
    rw [yielded_pad hd]
    exact hy
  | (false, o) :: os, a, w, h => by
    unfold wpMix at h ⊢
    rw [yielded_pad hd]
    split
    · rename_i hw
      rw [if_pos hw] at h
      exact Oper.wp_mono (fun a' w' h' => ⟨h'.1, wpMix_pad hd os _ _ h'.2⟩) h
    · rename_i hw
      rw [if_neg hw] at h
      exact ⟨h.1, wpMix_pad hd os _ _ h.2⟩
end

def twoB (ops : Array Oper) (n : Nat) (fs gs : List (Bool × Nat)) : Bool :=
  Region.noSelect ops && decide (0 < n) && Region.sinkB .any ops (n - 1) && restB .any ops n && fs.all (fun i => decide (i.2 < n)) && mixB .any ops fs (Array.replicate ops.size false) && (Region.ready .any ops (setMix fs (Array.replicate ops.size false))).all (fun j => decide (n ≤ j)) &&
    (Region.noSelect (ops.push (padOp ops.size)) && Region.sinkB .any (ops.push (padOp ops.size)) ops.size && Region.chainB .any (ops.push (padOp ops.size)) ops.size && fs.all (fun i => decide (i.2 < ops.size)) && gs.all (fun i => decide (i.2 < ops.size)) && mixB .any (ops.push (padOp ops.size)) fs (Array.replicate (ops.size + 1) false) && mixB .any (ops.push (padOp ops.size)) gs ((setMix fs (Array.replicate ops.size false)).push false) &&
    decide (setMix gs ((setMix fs (Array.replicate ops.size false)).push false) = (Array.replicate ops.size true).push false) && decide (setMix fs (Array.replicate (ops.size + 1) false) = (setMix fs (Array.replicate ops.size false)).push false)) && (Region.ready .any ops (Array.replicate ops.size true)).isEmpty && decide (fs.length + gs.length = ops.size)

theorem setMix_size : ∀ (fs : List (Bool × Nat)) (b : Array Bool), (setMix fs b).size = b.size
  | [], b => rfl
  | (_, i) :: l, b => by show (setMix l (b.setIfInBounds i true)).size = _; rw [setMix_size l]; simp
theorem HeadInv.mix {md : Region.Mode} {ops : Array Oper} {n : Nat} : ∀ (fs : List (Bool × Nat)) (listed : Array Bool), HeadInv md ops n listed → fs.all (fun i => decide (i.2 < n)) = true → mixB md ops fs listed = true → HeadInv md ops n (setMix fs listed)
  | [], listed, inv, _, _ => inv
  | (true, i) :: fs, listed, inv, hl, hB => by
    simp only [mixB, Bool.and_eq_true] at hB
    simp only [List.all_cons, Bool.and_eq_true, decide_eq_true_eq] at hl
    exact HeadInv.mix fs _ (inv.set (by simpa using hB.1.1) hl.1) hl.2 hB.2
  | (false, i) :: fs, listed, inv, hl, hB => by
    simp only [mixB, Bool.and_eq_true, decide_eq_true_eq] at hB
    simp only [List.all_cons, Bool.and_eq_true, decide_eq_true_eq] at hl
    exact HeadInv.mix fs _ (inv.set (by rw [hB.1]; simp) hl.1) hl.2 hB.2

theorem wp_region_two {P : Program} {id : Nat} {Q : Exit → Act → World → Prop} {a : Act} {w : World} {l : List Oper} (S1 S2 : World → Prop) (n : Nat) (fs gs : List (Bool × Nat)) (hm : P.follows .mixedOrders = true)
    (hB : twoB l.toArray n fs gs = true) (hQ : ∀ c a w d v, Q (.panic c) (a.put d v) w → Q (.panic c) a w)
    (h : wpMix P l.toArray Q S1 (fun a' w' => wpMix P l.toArray Q S2 (fun a'' w'' => wpList P l.toArray Q [] a'' w'') (gs.map fun i => (i.1, l.getD i.2 default)) a' w') (fs.map fun i => (i.1, l.getD i.2 default)) a w.drew) : (Code.region id l.toArray true).wp P Q a w := by
  simp only [twoB, Bool.and_eq_true, decide_eq_true_eq] at hB
  obtain ⟨⟨⟨⟨⟨⟨⟨⟨⟨hsel, h0⟩, hs⟩, hc⟩, hfl⟩, htk⟩, hdn⟩, ⟨⟨⟨⟨⟨⟨⟨⟨psel, ps⟩, pc⟩, pfl⟩, pgl⟩, ptf⟩, ptg⟩, hset⟩, hsetf⟩⟩, hrd⟩, hlen⟩ := hB
  have hsz : l.toArray.size = l.length := by simp
  have hget : ∀ (x : List (Bool × Nat)), x.all (fun i => decide (i.2 < l.toArray.size)) = true → x.map (fun i => (i.1, l.toArray[i.2]?)) = (x.map fun i => (i.1, l.getD i.2 default)).map (fun o => (o.1, some o.2)) := fun x hx => by
    rw [List.map_map]
    refine List.map_congr_left (fun i hi => ?_)
    have := List.all_eq_true.1 hx i hi
    have hil : i.2 < l.length := by simp at this; omega
    simp [List.getD, hil]
  have hgp : gs.map (fun i => (i.1, (l.toArray.push (padOp l.toArray.size))[i.2]?)) = (gs.map fun i => (i.1, l.getD i.2 default)).map (fun o => (o.1, some o.2)) := by
    rw [List.map_map]
    refine List.map_congr_left (fun i hi => ?_)
    have := List.all_eq_true.1 pgl i hi
    have hil : i.2 < l.length := by simp at this; omega
    rw [Array.getElem?_push]
    simp [List.getD, hil, Nat.ne_of_lt hil]
  have inv0 : HeadInv .any l.toArray n (Array.replicate l.toArray.size false) :=
    ⟨by simp, fun j oj _ hl => (by rw [getD_replicate_false] at hl; cases hl), fun t _ ht => getD_in (by simpa using ht) (getD_replicate_false _ _)⟩
  have invp : HeadInv .any (l.toArray.push (padOp l.toArray.size)) l.toArray.size (Array.replicate (l.toArray.size + 1) false) :=
    ⟨by simp, fun j oj _ hl => (by rw [getD_replicate_false] at hl; cases hl), fun t _ ht => getD_in (by simpa using ht) (getD_replicate_false _ _)⟩
  have inv1 := HeadInv.mix fs _ invp pfl ptf
  rw [hsetf] at inv1
  have hrd' : Region.ready .any l.toArray (Array.replicate l.toArray.size true) = [] := by simpa using hrd
  refine wp_region_any hm ?_
  have H := mix_head2 (P := P) (md := .any) (ops := l.toArray) (Q := Q) (S := S1) (n := n) (L := fun listed a w => (∀ j ∈ Region.ready .any l.toArray listed, n ≤ j) ∧ wpAny P .any l.toArray Q gs.length listed a w) hsel hQ h0 hs hc (fun _ _ _ h => h.1) fs _ _ a w.drew (hget fs pfl) inv0 hfl htk
    (wpMix_mono (fun a' w' h' => ⟨fun j hj => by have := List.all_eq_true.1 hdn j hj; simpa using this, by
      have H2 := mix_head (P := P) (md := .any) (ops := l.toArray.push (padOp l.toArray.size)) (Q := Q) (S := S2) (n := l.toArray.size) (L := fun listed a w => ∃ y, y.size = l.toArray.size ∧ listed = y.push false ∧ Region.ready .any l.toArray y = [] ∧ Q .normal a w) psel hQ ps pc (by simp)
        (fun listed a w hL j hj => by
          obtain ⟨y, hy, rfl, h1, _⟩ := hL
          rcases Nat.lt_or_ge j l.toArray.size with hlt | hge
          · exfalso
            have := (ready_pad (md := .any) hy hlt).1 hj
            rw [h1] at this
            cases this
          · exact hge) gs _ _ a' w' hgp inv1 pgl ptg
        (wpMix_mono (fun a'' w'' h'' => by rw [hset]; exact ⟨_, by simp, rfl, hrd', h''⟩) _ a' _ (wpMix_pad (d := padOp l.toArray.size) rfl _ _ _ h'))
      exact headW_pad (d := padOp l.toArray.size) rfl _ _ _ _ (by rw [setMix_size]; simp) H2⟩) _ a _ h)
  have := headW.any (g := gs.length) (fun listed a' w' hL => hL.2) _ _ _ _ H
  rw [hlen] at this
  exact this
end Go.Proofs.YtcdimopiaanfbaaDoor
/- The reference: New, with, Start, Finish, Turn. -/
namespace Go.Proofs.YtcdimopiaanfbaaDoor
open Go.RowKit Go.Sort
set_option linter.unusedVariables false
set_option linter.unusedSimpArgs false

/-- Seats in memory. -/
def encSe (x : Nat × Sp) : List Value := [.int .i64 ((x.1 : Nat) : Int), .int .i64 x.2.1, .int .i64 x.2.2]
def TSe : GT (Nat × Sp) := ⟨31, 90, 3, encSe⟩
theorem infoSeat : (Tryd.prog.info? 90).map (fun i => (i.zero, i.size, i.bytes)) = some (some (.agg #[.int .i64 0, .int .i64 0, .int .i64 0]), 3, 24) := by kernel_rfl
theorem TSe_ok : TSe.Ok := by
  refine ⟨fun _ => rfl, fun x u hu => ?_, by decide, Tryd.underlying31, ?_⟩
  · simp only [TSe, encSe, List.mem_cons, List.not_mem_nil, or_false] at hu
    rcases hu with rfl | rfl | rfl <;> rfl
  · obtain ⟨i, h1, h2, h3, h4⟩ := info_parts infoSeat
    exact ⟨i, _, h1, h2, h3, by rw [h4]; decide, by decide⟩
/-- The reference's lot. -/
structure RL (w : World) (b : Nat) (s r x : Value) (z : Zt) : Prop where
  s : Row TI w b s z.S
  r : Row TI w b r z.R
  l : Row TSe w b x z.L
def rlv (s r x : Value) : Value := .agg #[s, r, x]
theorem RL.below {w w' : World} {b : Nat} {s r x : Value} {z : Zt} (h : RL w b s r x z) (hb : Below w.heap.size w w') : RL w' b s r x z := ⟨h.s.below hb, h.r.below hb, h.l.below hb⟩
theorem RL.frl {S : Nat → Prop} {w w' : World} {b : Nat} {s r x : Value} {z : Zt} (h : RL w b s r x z) (hf : FrL S w w') : RL w' b s r x z := ⟨hf.row h.s (by decide) (by decide), hf.row h.r (by decide) (by decide), hf.row h.l (by decide) (by decide)⟩
theorem RL.fr {F : List Nat} {w w' : World} {b : Nat} {s r x : Value} {z : Zt} (h : RL w b s r x z) (hf : Fr F w w') (hF : ∀ k ∈ F, ∃ y u, w.heap[k]? = some (.cells y u (0, 0)) ∧ u ≠ 3 ∧ u ≠ 90) : RL w' b s r x z := by
  have key : ∀ {α : Type} {T : GT α} {v : Value} {X : List α}, (T.te = 3 ∨ T.te = 90) → Row T w b v X → Row T w' b v X := fun {α T v X} ht hr => hr.fr hf (fun g hg hm => by
    obtain ⟨y, u, hc, h1, h2⟩ := hF g hm
    exact hr.ne hc (by rcases ht with h | h <;> rw [h]; exact h1.symm; exact h2.symm) g hg rfl)
  exact ⟨key (.inl rfl) h.s, key (.inl rfl) h.r, key (.inr rfl) h.l⟩
/-- What a call of the reference returns: the lot z, and a code. -/
def RAns (w : World) (b : Nat) (z : Zt) (code : Int) (e : Ending) (w' : World) : Prop :=
  ∃ s r x, e = .returned (.tuple #[rlv s r x, .int .i64 code]) ∧ RL w' b s r x z ∧ Below w.heap.size w w'

def chC (fr tg : Int) (z : Zt) (N : Int) : Int × Zt := match numI z N with
  | none => (2, z)
  | some i => if z.S.getD i 0 = fr then (0, z.step i tg) else (8, z)
theorem stepC_ch (c : Nat) (z : Zt) (N : Int) : stepC c z N = chC (frOf c) (tgOf c) z N := rfl
section
variable {w : World} {b : Nat} {s r x : Value} {z : Zt}
theorem g8change (hb : b ≤ w.heap.size) (h1 : Row TI w b s z.S) (h2 : Row TI w b r z.R) (hl : z.S.length ≤ 64) (hm : z.R.length ≤ 64) (fr tg : Int) (N : Int) : Calls Tryd.prog 79 #[rk s r, .int .i64 N, .int .i64 fr, .int .i64 tg] w (RefAns w b (chC fr tg z N).2.S (chC fr tg z N).2.R (chC fr tg z N).1) := by
  unfold chC
  rcases numI_or z N with ⟨e, hn⟩ | ⟨i, rfl, hi, e⟩
  · rw [e]
    refine (refChange_bad (h1.src TI_ok) (h2.src TI_ok) hn hl fr tg).mono ?_
    rintro e w' ⟨rfl, hg⟩
    exact ⟨s, r, rfl, h1.below hg, h2.below hg, hg⟩
  · rw [e]
    have hd : z.S.getD i 0 = z.S[i] := by simp [hi]
    simp only [hd]
    by_cases hs : z.S[i] = fr
    · rw [if_pos hs]
      have := refChange_yes (h1.src TI_ok) (h2.src TI_ok) hi hl (by omega) tg
      rw [hs] at this
      refine this.mono ?_
      rintro e w' ⟨s', r', rfl, a1, a2, a3⟩
      exact ⟨s', r', rfl, a1.lower hb, a2.lower hb, a3⟩
    · rw [if_neg hs]
      refine (refChange_state (h1.src TI_ok) (h2.src TI_ok) hi hl hs tg).mono ?_
      rintro e w' ⟨rfl, hg⟩
      exact ⟨s, r, rfl, h1.below hg, h2.below hg, hg⟩
theorem g8State (h1 : Row TI w b s z.S) (h2 : Row TI w b r z.R) (hl : z.S.length ≤ 64) (N : Int) : Calls Tryd.prog 39 #[rk s r, .int .i64 N] w fun e w' => e = .returned (.tuple #[.int .i64 (stC z N).1, .int .i64 (stC z N).2]) ∧ Grn w w' := by
  unfold stC
  rcases numI_or z N with ⟨e, hn⟩ | ⟨i, rfl, hi, e⟩
  · rw [e]; exact refState_bad (h1.src TI_ok) (h2.src TI_ok) hn hl
  · rw [e]
    have hd : z.S.getD i 0 = z.S[i] := by simp [hi]
    simp only [hd]
    exact refState_yes (h1.src TI_ok) (h2.src TI_ok) hi hl
theorem g8Start (hb : b ≤ w.heap.size) (h1 : Row TI w b s z.S) (h2 : Row TI w b r z.R) (hl : z.S.length ≤ 64) (hm : z.R.length ≤ 64) (N : Int) : Calls Tryd.prog 62 #[rk s r, .int .i64 N] w (RefAns w b (chC 0 1 z N).2.S (chC 0 1 z N).2.R (chC 0 1 z N).1) :=
  refStart_of hb h1 h2 (fun W hW => g8change (Nat.le_trans hb hW.size) (h1.below hW) (h2.below hW) hl hm 0 1 N)
theorem g8Finish (hb : b ≤ w.heap.size) (h1 : Row TI w b s z.S) (h2 : Row TI w b r z.R) (hl : z.S.length ≤ 64) (hm : z.R.length ≤ 64) (N : Int) : Calls Tryd.prog 63 #[rk s r, .int .i64 N] w (RefAns w b (chC 1 0 z N).2.S (chC 1 0 z N).2.R (chC 1 0 z N).1) :=
  refFinish_of hb h1 h2 (fun W hW => g8change (Nat.le_trans hb hW.size) (h1.below hW) (h2.below hW) hl hm 1 0 N)
theorem g8Turn (hb : b ≤ w.heap.size) (h1 : Row TI w b s z.S) (h2 : Row TI w b r z.R) (hl : z.S.length ≤ 64) (hm : z.R.length ≤ 64) (N : Int) : Calls Tryd.prog 64 #[rk s r, .int .i64 N] w (RefAns w b (chC 1 1 z N).2.S (chC 1 1 z N).2.R (chC 1 1 z N).1) :=
  refTurn_of hb h1 h2 (fun W hW => g8change (Nat.le_trans hb hW.size) (h1.below hW) (h2.below hW) hl hm 1 1 N)
theorem g8Park (hb : b ≤ w.heap.size) (h1 : Row TI w b s z.S) (h2 : Row TI w b r z.R) (hl : z.S.length ≤ 64) (hm : z.R.length ≤ 64) (N : Int) : Calls Tryd.prog 65 #[rk s r, .int .i64 N] w (RefAns w b (chC 1 2 z N).2.S (chC 1 2 z N).2.R (chC 1 2 z N).1) :=
  refPark_of hb h1 h2 (fun W hW => g8change (Nat.le_trans hb hW.size) (h1.below hW) (h2.below hW) hl hm 1 2 N)
theorem g8Wake (hb : b ≤ w.heap.size) (h1 : Row TI w b s z.S) (h2 : Row TI w b r z.R) (hl : z.S.length ≤ 64) (hm : z.R.length ≤ 64) (N : Int) : Calls Tryd.prog 66 #[rk s r, .int .i64 N] w (RefAns w b (chC 2 1 z N).2.S (chC 2 1 z N).2.R (chC 2 1 z N).1) :=
  refWake_of hb h1 h2 (fun W hW => g8change (Nat.le_trans hb hW.size) (h1.below hW) (h2.below hW) hl hm 2 1 N)

end
theorem rl_form {w : World} {b : Nat} {s r x : Value} {z : Zt} (h : RL w b s r x z) : ∃ sa sn sc ra rn rc xa xn xc, s = .slice sa sn sc ∧ r = .slice ra rn rc ∧ x = .slice xa xn xc := by
  obtain ⟨a, b, c, h1⟩ := row_form h.s
  obtain ⟨d, e, f, h2⟩ := row_form h.r
  obtain ⟨g, i, j, h3⟩ := row_form h.l
  exact ⟨a, b, c, d, e, f, g, i, j, h1, h2, h3⟩

set_option maxRecDepth 100000 in
set_option maxHeartbeats 1600000 in
/-- with: the new tasks, or the lot as it is. -/
theorem g9with_any {w : World} {b : Nat} {s r x s' r' : Value} {z z' : Zt} {code : Int} (h : RL w b s r x z) (hb0 : b ≤ w.heap.size) (h1 : Row TI w b s' z'.S) (h2 : Row TI w b r' z'.R) (hz : code ≠ 0 → z' = z) (hL : z'.L = z.L) :
    Calls Tryd.prog 61 #[rlv s r x, rk s' r', .int .i64 code] w (RAns w b z' code) := by
  obtain ⟨sa, sn, sc, ra, rn, rc, xa, xn, xc, rfl, rfl, rfl⟩ := rl_form h
  obtain ⟨ua, un, uc, rfl⟩ := row_form h1
  obtain ⟨va, vn, vc, rfl⟩ := row_form h2
  have hb := ((((Grn.refl w).alloc (.cells #[.slice sa sn sc, .slice ra rn rc, .slice xa xn xc] 33)).alloc (.cells #[.slice ua un uc, .slice va vn vc] 30))).below
  unfold rlv rk
  by_cases hc : code = 0
  · have HB := Lib.hid (hb.trans ((below_alloc _ (.cells #[.slice ua un uc, .slice va vn vc, .slice xa xn xc] 33)).mono hb.size))
    have HR : Hid (RL w b (.slice ua un uc) (.slice va vn vc) (.slice xa xn xc) z') := Lib.hid ⟨h1, h2, by rw [hL]; exact h.l⟩
    subst hc
    clear h h1 h2 hz hL hb
    go_enter Tryd.func61, Tryd.ntmps61
    go_wp2_with fail
    refine bodyPost_ret (v := .tuple #[.agg #[.slice ua un uc, .slice va vn vc, .slice xa xn xc], .int .i64 0]) (by simp [results, Tryd.results61, go_sem]) rfl ?_
    exact ⟨_, _, _, rfl, HR.out.below HB.out, HB.out⟩
  · obtain rfl := hz hc
    have HB := Lib.hid (hb.trans ((below_alloc _ (.cells #[.slice sa sn sc, .slice ra rn rc, .slice xa xn xc] 33)).mono hb.size))
    have HR := Lib.hid h
    have e1 : (code != 0) = true := by simpa using hc
    clear h h1 h2 hz hL hb hc
    go_enter Tryd.func61, Tryd.ntmps61
    go_wp2_with fail
    refine bodyPost_ret (v := .tuple #[.agg #[.slice sa sn sc, .slice ra rn rc, .slice xa xn xc], .int .i64 code]) (by simp [results, Tryd.results61, go_sem]) rfl ?_
    exact ⟨_, _, _, rfl, HR.out.below HB.out, HB.out⟩
theorem chC_L (fr tg : Int) (z : Zt) (N : Int) : (chC fr tg z N).2.L = z.L := by
  unfold chC
  cases numI z N with
  | none => rfl
  | some i => simp only; split <;> rfl
theorem chC_z (fr tg : Int) (z : Zt) (N : Int) : (chC fr tg z N).1 ≠ 0 → (chC fr tg z N).2 = z := by
  unfold chC
  cases numI z N with
  | none => intro _; rfl
  | some i =>
    simp only
    split
    · intro h; exact absurd rfl h
    · intro _; rfl

set_option maxRecDepth 100000 in
set_option maxHeartbeats 3200000 in
theorem g9Start_any {w : World} {b : Nat} {s r x : Value} {z : Zt} (h : RL w b s r x z) (hb0 : b ≤ w.heap.size) (hz : ZK z) (N : Int) : Calls Tryd.prog 32 #[rlv s r x, .int .i64 N] w (RAns w b (chC 0 1 z N).2 (chC 0 1 z N).1) := by
  obtain ⟨sa, sn, sc, ra, rn, rc, xa, xn, xc, rfl, rfl, rfl⟩ := rl_form h
  obtain ⟨W, hW⟩ : ∃ W, (w.alloc (.cells #[.slice sa sn sc, .slice ra rn rc, .slice xa xn xc] 33)).alloc (.cells #[.slice none 0 0, .slice none 0 0, .slice none 0 0] 33) = W := ⟨_, rfl⟩
  have HWB : Hid (Below w.heap.size w W) := Lib.hid (by rw [← hW]; exact (((Grn.refl w).alloc _).alloc _).below)
  have HX : Hid (W.heap[w.heap.size]? = some (.cells #[.slice sa sn sc, .slice ra rn rc, .slice xa xn xc] 33 (0, 0))) := Lib.hid (by rw [← hW]; exact ((below_alloc _ _).block _ (by simp)).trans (block_new _ _ _ rfl))
  have HY : Hid (W.heap[w.heap.size + 1]? = some (.cells #[.slice none 0 0, .slice none 0 0, .slice none 0 0] 33 (0, 0))) := Lib.hid (by rw [← hW]; exact block_new _ _ _ (by simp))
  have HR := Lib.hid (h.below HWB.out)
  have HB0 : Hid (b ≤ W.heap.size) := Lib.hid (Nat.le_trans hb0 HWB.out.size)
  have HZ := Lib.hid hz
  have HW := Lib.hid hW
  clear h hb0 hz hW
  unfold rlv
  go_enter Tryd.func32, Tryd.ntmps32
  go_wp2_with fail
  rw [HW.out]
  clear HW
  generalize hzz : w.heap.size = zz at *
  have HZZ := Lib.hid hzz
  clear hzz
  have hld : ∀ W', Below W.heap.size W W' → W'.cell? ⟨zz, 0, none⟩ = some (.slice sa sn sc) ∧ W'.cell? ⟨zz, 1, none⟩ = some (.slice ra rn rc) ∧ W'.cell? ⟨zz, 2, none⟩ = some (.slice xa xn xc) ∧ zz < W'.heap.size := fun W' hb => by
    have e0 := (hb.block _ (lt_of_block HX.out)).trans HX.out
    exact ⟨cells_cell e0 rfl, cells_cell e0 rfl, cells_cell e0 rfl, lt_of_block e0⟩
  have HS : Hid (Below W.heap.size W W.drew) := Lib.hid (Below.refl _ _).drew
  refine wp_region_mix (fun W' => Below W.heap.size W W') 10 [(true, 0), (true, 1), (true, 2), (true, 3), (false, 4), (true, 5), (true, 6), (false, 7), (true, 8), (true, 9)] (by kernel_rfl) (by kernel_rfl) (fun _ _ _ d _ h => by cases d <;> exact h) ?_
  simp only [List.map_cons, List.map_nil, List.getD_cons_zero, List.getD_cons_succ, List.drop_succ_cons, List.drop_zero]
  refine mix_take (.agg #[.slice sa sn sc, .slice ra rn rc, .slice xa xn xc]) HS.out rfl (fun W' hS => by obtain ⟨l0, l1, l2, l3⟩ := hld W' hS; go_simp) ?_
  simp only [Act.put, List.setIfInBounds_toArray, List.set_cons_zero, List.set_cons_succ]
  refine mix_take (.pointer (some ⟨zz, 0, none⟩)) HS.out rfl (fun W' hS => by obtain ⟨l0, l1, l2, l3⟩ := hld W' hS; go_simp) ?_
  simp only [Act.put, List.setIfInBounds_toArray, List.set_cons_zero, List.set_cons_succ]
  refine mix_take (.agg #[.slice sa sn sc, .slice ra rn rc]) HS.out rfl (fun W' hS => by obtain ⟨l0, l1, l2, l3⟩ := hld W' hS; go_simp) ?_
  simp only [Act.put, List.setIfInBounds_toArray, List.set_cons_zero, List.set_cons_succ]
  refine mix_move (.tmp 1) (.int .i64 N) rfl HS.out rfl rfl ?_
  simp only [Act.put, List.setIfInBounds_toArray, List.set_cons_zero, List.set_cons_succ]
  refine mix_step rfl (fun K hK => ?_)
  go_simp
  go_wp2_with (go_at_call 62; fail)
  refine (g8Start (Nat.le_trans HB0.out HS.out.size) (HR.out.below HS.out).s (HR.out.below HS.out).r HZ.out.n2 HZ.out.r N).mono ?_
  rintro e w3 ⟨s', r', rfl, a1, a2, a3⟩
  obtain ⟨ua, un, uc, rfl⟩ := row_form a1
  obtain ⟨va, vn, vc, rfl⟩ := row_form a2
  unfold rk
  have HS3 := Lib.hid (HS.out.trans (a3.mono HS.out.size))
  have HA := Lib.hid (And.intro a1 a2)
  refine hK _ _ HS3.out ?_
  clear hK a1 a2 a3 HS
  have HS := HS3
  obtain ⟨code, hcode⟩ : ∃ c, c = (chC 0 1 z N).1 := ⟨_, rfl⟩
  rw [← hcode]
  have HCD := Lib.hid hcode
  clear hcode
  refine mix_take (.agg #[.slice ua un uc, .slice va vn vc]) HS.out rfl (fun W' hS => by go_simp) ?_
  simp only [Act.put, List.setIfInBounds_toArray, List.set_cons_zero, List.set_cons_succ]
  refine mix_take (.int .i64 code) HS.out rfl (fun W' hS => by go_simp) ?_
  simp only [Act.put, List.setIfInBounds_toArray, List.set_cons_zero, List.set_cons_succ]
  refine mix_step rfl (fun K hK => ?_)
  go_simp
  go_wp2_with (go_at_call 61; fail)
  have hwt := g9with_any (HR.out.below HS.out) (Nat.le_trans HB0.out HS.out.size) HA.out.1 HA.out.2 (chC_z 0 1 z N) (chC_L 0 1 z N)
  rw [← HCD.out] at hwt
  refine hwt.mono ?_
  rintro e w4 ⟨s2, r2, x2, rfl, hr4, hb4⟩
  obtain ⟨sa2, sn2, sc2, ra2, rn2, rc2, xa2, xn2, xc2, rfl, rfl, rfl⟩ := rl_form hr4
  unfold rlv
  have HS4 := Lib.hid (HS.out.trans (hb4.mono HS.out.size))
  have HR4 := Lib.hid hr4
  refine hK _ _ HS4.out ?_
  clear hK hwt hr4 hb4 hld HS HS3
  have HS := HS4
  refine mix_take (.agg #[.slice sa2 sn2 sc2, .slice ra2 rn2 rc2, .slice xa2 xn2 xc2]) HS.out rfl (fun W' hS => by go_simp) ?_
  simp only [Act.put, List.setIfInBounds_toArray, List.set_cons_zero, List.set_cons_succ]
  refine mix_take (.int .i64 code) HS.out rfl (fun W' hS => by go_simp) ?_
  simp only [Act.put, List.setIfInBounds_toArray, List.set_cons_zero, List.set_cons_succ]
  clear HS
  refine mix_nil ?_
  have hy := (HS4.out.block _ (lt_of_block HY.out)).trans HY.out
  have y0 := cells_cell (o := 0) hy rfl
  have y1 : w4.cell? ⟨zz + 1, 1, none⟩ = some (.slice none 0 0) := cells_cell hy rfl
  have y2 : w4.cell? ⟨zz + 1, 2, none⟩ = some (.slice none 0 0) := cells_cell hy rfl
  have f0 := cells_free hy 0
  have f1 := cells_free hy 1
  have f2 := cells_free hy 2
  have yl := lt_of_block hy
  have hf := ((fr_setCell w4 ⟨zz + 1, 0, none⟩ (.slice sa2 sn2 sc2)).trans' (fr_setCell _ ⟨zz + 1, 1, none⟩ (.slice ra2 rn2 rc2))).trans' (fr_setCell _ ⟨zz + 1, 2, none⟩ (.slice xa2 xn2 xc2))
  have HY4 := Lib.hid (cells_set (cells_set (cells_set hy 0 (.slice sa2 sn2 sc2)) 1 (.slice ra2 rn2 rc2)) 2 (.slice xa2 xn2 xc2))
  have hb4 := HWB.out.trans (HS4.out.mono (by have h1 := HWB.out.size; have h2 := HZZ.out; omega))
  have hb5 := hb4.trans (hf.below (B := zz) (fun x hx => by simp at hx; omega) (by have h1 := hb4.size; have h2 := HZZ.out; omega))
  have HB4 := Lib.hid hb5
  have HR5 := Lib.hid (HR4.out.fr hf (fun k hk => by simp at hk; subst hk; exact ⟨_, _, hy, by decide, by decide⟩))
  clear hy hf HR4 hb4 hb5
  go_wp2_with fail
  have hy2 := HY4.out
  simp at hy2
  refine bodyPost_ret (v := .tuple #[.agg #[.slice sa2 sn2 sc2, .slice ra2 rn2 rc2, .slice xa2 xn2 xc2], .int .i64 code]) (by simp [results, Tryd.results32, go_sem, cells_cell (o := 0) hy2 rfl, cells_cell (o := 1) hy2 rfl, cells_cell (o := 2) hy2 rfl]) rfl ?_
  exact ⟨_, _, _, by rw [HCD.out]; rfl, HR5.out, by have h := HB4.out; first | exact h | (rw [HZZ.out]; exact h)⟩

set_option maxRecDepth 100000 in
set_option maxHeartbeats 3200000 in
theorem g9Finish_any {w : World} {b : Nat} {s r x : Value} {z : Zt} (h : RL w b s r x z) (hb0 : b ≤ w.heap.size) (hz : ZK z) (N : Int) : Calls Tryd.prog 33 #[rlv s r x, .int .i64 N] w (RAns w b (chC 1 0 z N).2 (chC 1 0 z N).1) := by
  obtain ⟨sa, sn, sc, ra, rn, rc, xa, xn, xc, rfl, rfl, rfl⟩ := rl_form h
  obtain ⟨W, hW⟩ : ∃ W, (w.alloc (.cells #[.slice sa sn sc, .slice ra rn rc, .slice xa xn xc] 33)).alloc (.cells #[.slice none 0 0, .slice none 0 0, .slice none 0 0] 33) = W := ⟨_, rfl⟩
  have HWB : Hid (Below w.heap.size w W) := Lib.hid (by rw [← hW]; exact (((Grn.refl w).alloc _).alloc _).below)
  have HX : Hid (W.heap[w.heap.size]? = some (.cells #[.slice sa sn sc, .slice ra rn rc, .slice xa xn xc] 33 (0, 0))) := Lib.hid (by rw [← hW]; exact ((below_alloc _ _).block _ (by simp)).trans (block_new _ _ _ rfl))
  have HY : Hid (W.heap[w.heap.size + 1]? = some (.cells #[.slice none 0 0, .slice none 0 0, .slice none 0 0] 33 (0, 0))) := Lib.hid (by rw [← hW]; exact block_new _ _ _ (by simp))
  have HR := Lib.hid (h.below HWB.out)
  have HB0 : Hid (b ≤ W.heap.size) := Lib.hid (Nat.le_trans hb0 HWB.out.size)
  have HZ := Lib.hid hz
  have HW := Lib.hid hW
  clear h hb0 hz hW
  unfold rlv
  go_enter Tryd.func33, Tryd.ntmps33
  go_wp2_with fail
  rw [HW.out]
  clear HW
  generalize hzz : w.heap.size = zz at *
  have HZZ := Lib.hid hzz
  clear hzz
  have hld : ∀ W', Below W.heap.size W W' → W'.cell? ⟨zz, 0, none⟩ = some (.slice sa sn sc) ∧ W'.cell? ⟨zz, 1, none⟩ = some (.slice ra rn rc) ∧ W'.cell? ⟨zz, 2, none⟩ = some (.slice xa xn xc) ∧ zz < W'.heap.size := fun W' hb => by
    have e0 := (hb.block _ (lt_of_block HX.out)).trans HX.out
    exact ⟨cells_cell e0 rfl, cells_cell e0 rfl, cells_cell e0 rfl, lt_of_block e0⟩
  have HS : Hid (Below W.heap.size W W.drew) := Lib.hid (Below.refl _ _).drew
  refine wp_region_mix (fun W' => Below W.heap.size W W') 10 [(true, 0), (true, 1), (true, 2), (true, 3), (false, 4), (true, 5), (true, 6), (false, 7), (true, 8), (true, 9)] (by kernel_rfl) (by kernel_rfl) (fun _ _ _ d _ h => by cases d <;> exact h) ?_
  simp only [List.map_cons, List.map_nil, List.getD_cons_zero, List.getD_cons_succ, List.drop_succ_cons, List.drop_zero]
  refine mix_take (.agg #[.slice sa sn sc, .slice ra rn rc, .slice xa xn xc]) HS.out rfl (fun W' hS => by obtain ⟨l0, l1, l2, l3⟩ := hld W' hS; go_simp) ?_
  simp only [Act.put, List.setIfInBounds_toArray, List.set_cons_zero, List.set_cons_succ]
  refine mix_take (.pointer (some ⟨zz, 0, none⟩)) HS.out rfl (fun W' hS => by obtain ⟨l0, l1, l2, l3⟩ := hld W' hS; go_simp) ?_
  simp only [Act.put, List.setIfInBounds_toArray, List.set_cons_zero, List.set_cons_succ]
  refine mix_take (.agg #[.slice sa sn sc, .slice ra rn rc]) HS.out rfl (fun W' hS => by obtain ⟨l0, l1, l2, l3⟩ := hld W' hS; go_simp) ?_
  simp only [Act.put, List.setIfInBounds_toArray, List.set_cons_zero, List.set_cons_succ]
  refine mix_move (.tmp 1) (.int .i64 N) rfl HS.out rfl rfl ?_
  simp only [Act.put, List.setIfInBounds_toArray, List.set_cons_zero, List.set_cons_succ]
  refine mix_step rfl (fun K hK => ?_)
  go_simp
  go_wp2_with (go_at_call 63; fail)
  refine (g8Finish (Nat.le_trans HB0.out HS.out.size) (HR.out.below HS.out).s (HR.out.below HS.out).r HZ.out.n2 HZ.out.r N).mono ?_
  rintro e w3 ⟨s', r', rfl, a1, a2, a3⟩
  obtain ⟨ua, un, uc, rfl⟩ := row_form a1
  obtain ⟨va, vn, vc, rfl⟩ := row_form a2
  unfold rk
  have HS3 := Lib.hid (HS.out.trans (a3.mono HS.out.size))
  have HA := Lib.hid (And.intro a1 a2)
  refine hK _ _ HS3.out ?_
  clear hK a1 a2 a3 HS
  have HS := HS3
  obtain ⟨code, hcode⟩ : ∃ c, c = (chC 1 0 z N).1 := ⟨_, rfl⟩
  rw [← hcode]
  have HCD := Lib.hid hcode
  clear hcode
  refine mix_take (.agg #[.slice ua un uc, .slice va vn vc]) HS.out rfl (fun W' hS => by go_simp) ?_
  simp only [Act.put, List.setIfInBounds_toArray, List.set_cons_zero, List.set_cons_succ]
  refine mix_take (.int .i64 code) HS.out rfl (fun W' hS => by go_simp) ?_
  simp only [Act.put, List.setIfInBounds_toArray, List.set_cons_zero, List.set_cons_succ]
  refine mix_step rfl (fun K hK => ?_)
  go_simp
  go_wp2_with (go_at_call 61; fail)
  have hwt := g9with_any (HR.out.below HS.out) (Nat.le_trans HB0.out HS.out.size) HA.out.1 HA.out.2 (chC_z 1 0 z N) (chC_L 1 0 z N)
  rw [← HCD.out] at hwt
  refine hwt.mono ?_
  rintro e w4 ⟨s2, r2, x2, rfl, hr4, hb4⟩
  obtain ⟨sa2, sn2, sc2, ra2, rn2, rc2, xa2, xn2, xc2, rfl, rfl, rfl⟩ := rl_form hr4
  unfold rlv
  have HS4 := Lib.hid (HS.out.trans (hb4.mono HS.out.size))
  have HR4 := Lib.hid hr4
  refine hK _ _ HS4.out ?_
  clear hK hwt hr4 hb4 hld HS HS3
  have HS := HS4
  refine mix_take (.agg #[.slice sa2 sn2 sc2, .slice ra2 rn2 rc2, .slice xa2 xn2 xc2]) HS.out rfl (fun W' hS => by go_simp) ?_
  simp only [Act.put, List.setIfInBounds_toArray, List.set_cons_zero, List.set_cons_succ]
  refine mix_take (.int .i64 code) HS.out rfl (fun W' hS => by go_simp) ?_
  simp only [Act.put, List.setIfInBounds_toArray, List.set_cons_zero, List.set_cons_succ]
  clear HS
  refine mix_nil ?_
  have hy := (HS4.out.block _ (lt_of_block HY.out)).trans HY.out
  have y0 := cells_cell (o := 0) hy rfl
  have y1 : w4.cell? ⟨zz + 1, 1, none⟩ = some (.slice none 0 0) := cells_cell hy rfl
  have y2 : w4.cell? ⟨zz + 1, 2, none⟩ = some (.slice none 0 0) := cells_cell hy rfl
  have f0 := cells_free hy 0
  have f1 := cells_free hy 1
  have f2 := cells_free hy 2
  have yl := lt_of_block hy
  have hf := ((fr_setCell w4 ⟨zz + 1, 0, none⟩ (.slice sa2 sn2 sc2)).trans' (fr_setCell _ ⟨zz + 1, 1, none⟩ (.slice ra2 rn2 rc2))).trans' (fr_setCell _ ⟨zz + 1, 2, none⟩ (.slice xa2 xn2 xc2))
  have HY4 := Lib.hid (cells_set (cells_set (cells_set hy 0 (.slice sa2 sn2 sc2)) 1 (.slice ra2 rn2 rc2)) 2 (.slice xa2 xn2 xc2))
  have hb4 := HWB.out.trans (HS4.out.mono (by have h1 := HWB.out.size; have h2 := HZZ.out; omega))
  have hb5 := hb4.trans (hf.below (B := zz) (fun x hx => by simp at hx; omega) (by have h1 := hb4.size; have h2 := HZZ.out; omega))
  have HB4 := Lib.hid hb5
  have HR5 := Lib.hid (HR4.out.fr hf (fun k hk => by simp at hk; subst hk; exact ⟨_, _, hy, by decide, by decide⟩))
  clear hy hf HR4 hb4 hb5
  go_wp2_with fail
  have hy2 := HY4.out
  simp at hy2
  refine bodyPost_ret (v := .tuple #[.agg #[.slice sa2 sn2 sc2, .slice ra2 rn2 rc2, .slice xa2 xn2 xc2], .int .i64 code]) (by simp [results, Tryd.results33, go_sem, cells_cell (o := 0) hy2 rfl, cells_cell (o := 1) hy2 rfl, cells_cell (o := 2) hy2 rfl]) rfl ?_
  exact ⟨_, _, _, by rw [HCD.out]; rfl, HR5.out, by have h := HB4.out; first | exact h | (rw [HZZ.out]; exact h)⟩

set_option maxRecDepth 100000 in
set_option maxHeartbeats 3200000 in
theorem g9Turn_any {w : World} {b : Nat} {s r x : Value} {z : Zt} (h : RL w b s r x z) (hb0 : b ≤ w.heap.size) (hz : ZK z) (N : Int) : Calls Tryd.prog 34 #[rlv s r x, .int .i64 N] w (RAns w b (chC 1 1 z N).2 (chC 1 1 z N).1) := by
  obtain ⟨sa, sn, sc, ra, rn, rc, xa, xn, xc, rfl, rfl, rfl⟩ := rl_form h
  obtain ⟨W, hW⟩ : ∃ W, (w.alloc (.cells #[.slice sa sn sc, .slice ra rn rc, .slice xa xn xc] 33)).alloc (.cells #[.slice none 0 0, .slice none 0 0, .slice none 0 0] 33) = W := ⟨_, rfl⟩
  have HWB : Hid (Below w.heap.size w W) := Lib.hid (by rw [← hW]; exact (((Grn.refl w).alloc _).alloc _).below)
  have HX : Hid (W.heap[w.heap.size]? = some (.cells #[.slice sa sn sc, .slice ra rn rc, .slice xa xn xc] 33 (0, 0))) := Lib.hid (by rw [← hW]; exact ((below_alloc _ _).block _ (by simp)).trans (block_new _ _ _ rfl))
  have HY : Hid (W.heap[w.heap.size + 1]? = some (.cells #[.slice none 0 0, .slice none 0 0, .slice none 0 0] 33 (0, 0))) := Lib.hid (by rw [← hW]; exact block_new _ _ _ (by simp))
  have HR := Lib.hid (h.below HWB.out)
  have HB0 : Hid (b ≤ W.heap.size) := Lib.hid (Nat.le_trans hb0 HWB.out.size)
  have HZ := Lib.hid hz
  have HW := Lib.hid hW
  clear h hb0 hz hW
  unfold rlv
  go_enter Tryd.func34, Tryd.ntmps34
  go_wp2_with fail
  rw [HW.out]
  clear HW
  generalize hzz : w.heap.size = zz at *
  have HZZ := Lib.hid hzz
  clear hzz
  have hld : ∀ W', Below W.heap.size W W' → W'.cell? ⟨zz, 0, none⟩ = some (.slice sa sn sc) ∧ W'.cell? ⟨zz, 1, none⟩ = some (.slice ra rn rc) ∧ W'.cell? ⟨zz, 2, none⟩ = some (.slice xa xn xc) ∧ zz < W'.heap.size := fun W' hb => by
    have e0 := (hb.block _ (lt_of_block HX.out)).trans HX.out
    exact ⟨cells_cell e0 rfl, cells_cell e0 rfl, cells_cell e0 rfl, lt_of_block e0⟩
  have HS : Hid (Below W.heap.size W W.drew) := Lib.hid (Below.refl _ _).drew
  refine wp_region_mix (fun W' => Below W.heap.size W W') 10 [(true, 0), (true, 1), (true, 2), (true, 3), (false, 4), (true, 5), (true, 6), (false, 7), (true, 8), (true, 9)] (by kernel_rfl) (by kernel_rfl) (fun _ _ _ d _ h => by cases d <;> exact h) ?_
  simp only [List.map_cons, List.map_nil, List.getD_cons_zero, List.getD_cons_succ, List.drop_succ_cons, List.drop_zero]
  refine mix_take (.agg #[.slice sa sn sc, .slice ra rn rc, .slice xa xn xc]) HS.out rfl (fun W' hS => by obtain ⟨l0, l1, l2, l3⟩ := hld W' hS; go_simp) ?_
  simp only [Act.put, List.setIfInBounds_toArray, List.set_cons_zero, List.set_cons_succ]
  refine mix_take (.pointer (some ⟨zz, 0, none⟩)) HS.out rfl (fun W' hS => by obtain ⟨l0, l1, l2, l3⟩ := hld W' hS; go_simp) ?_
  simp only [Act.put, List.setIfInBounds_toArray, List.set_cons_zero, List.set_cons_succ]
  refine mix_take (.agg #[.slice sa sn sc, .slice ra rn rc]) HS.out rfl (fun W' hS => by obtain ⟨l0, l1, l2, l3⟩ := hld W' hS; go_simp) ?_
  simp only [Act.put, List.setIfInBounds_toArray, List.set_cons_zero, List.set_cons_succ]
  refine mix_move (.tmp 1) (.int .i64 N) rfl HS.out rfl rfl ?_
  simp only [Act.put, List.setIfInBounds_toArray, List.set_cons_zero, List.set_cons_succ]
  refine mix_step rfl (fun K hK => ?_)
  go_simp
  go_wp2_with (go_at_call 64; fail)
  refine (g8Turn (Nat.le_trans HB0.out HS.out.size) (HR.out.below HS.out).s (HR.out.below HS.out).r HZ.out.n2 HZ.out.r N).mono ?_
  rintro e w3 ⟨s', r', rfl, a1, a2, a3⟩
  obtain ⟨ua, un, uc, rfl⟩ := row_form a1
  obtain ⟨va, vn, vc, rfl⟩ := row_form a2
  unfold rk
  have HS3 := Lib.hid (HS.out.trans (a3.mono HS.out.size))
  have HA := Lib.hid (And.intro a1 a2)
  refine hK _ _ HS3.out ?_
  clear hK a1 a2 a3 HS
  have HS := HS3
  obtain ⟨code, hcode⟩ : ∃ c, c = (chC 1 1 z N).1 := ⟨_, rfl⟩
  rw [← hcode]
  have HCD := Lib.hid hcode
  clear hcode
  refine mix_take (.agg #[.slice ua un uc, .slice va vn vc]) HS.out rfl (fun W' hS => by go_simp) ?_
  simp only [Act.put, List.setIfInBounds_toArray, List.set_cons_zero, List.set_cons_succ]
  refine mix_take (.int .i64 code) HS.out rfl (fun W' hS => by go_simp) ?_
  simp only [Act.put, List.setIfInBounds_toArray, List.set_cons_zero, List.set_cons_succ]
  refine mix_step rfl (fun K hK => ?_)
  go_simp
  go_wp2_with (go_at_call 61; fail)
  have hwt := g9with_any (HR.out.below HS.out) (Nat.le_trans HB0.out HS.out.size) HA.out.1 HA.out.2 (chC_z 1 1 z N) (chC_L 1 1 z N)
  rw [← HCD.out] at hwt
  refine hwt.mono ?_
  rintro e w4 ⟨s2, r2, x2, rfl, hr4, hb4⟩
  obtain ⟨sa2, sn2, sc2, ra2, rn2, rc2, xa2, xn2, xc2, rfl, rfl, rfl⟩ := rl_form hr4
  unfold rlv
  have HS4 := Lib.hid (HS.out.trans (hb4.mono HS.out.size))
  have HR4 := Lib.hid hr4
  refine hK _ _ HS4.out ?_
  clear hK hwt hr4 hb4 hld HS HS3
  have HS := HS4
  refine mix_take (.agg #[.slice sa2 sn2 sc2, .slice ra2 rn2 rc2, .slice xa2 xn2 xc2]) HS.out rfl (fun W' hS => by go_simp) ?_
  simp only [Act.put, List.setIfInBounds_toArray, List.set_cons_zero, List.set_cons_succ]
  refine mix_take (.int .i64 code) HS.out rfl (fun W' hS => by go_simp) ?_
  simp only [Act.put, List.setIfInBounds_toArray, List.set_cons_zero, List.set_cons_succ]
  clear HS
  refine mix_nil ?_
  have hy := (HS4.out.block _ (lt_of_block HY.out)).trans HY.out
  have y0 := cells_cell (o := 0) hy rfl
  have y1 : w4.cell? ⟨zz + 1, 1, none⟩ = some (.slice none 0 0) := cells_cell hy rfl
  have y2 : w4.cell? ⟨zz + 1, 2, none⟩ = some (.slice none 0 0) := cells_cell hy rfl
  have f0 := cells_free hy 0
  have f1 := cells_free hy 1
  have f2 := cells_free hy 2
  have yl := lt_of_block hy
  have hf := ((fr_setCell w4 ⟨zz + 1, 0, none⟩ (.slice sa2 sn2 sc2)).trans' (fr_setCell _ ⟨zz + 1, 1, none⟩ (.slice ra2 rn2 rc2))).trans' (fr_setCell _ ⟨zz + 1, 2, none⟩ (.slice xa2 xn2 xc2))
  have HY4 := Lib.hid (cells_set (cells_set (cells_set hy 0 (.slice sa2 sn2 sc2)) 1 (.slice ra2 rn2 rc2)) 2 (.slice xa2 xn2 xc2))
  have hb4 := HWB.out.trans (HS4.out.mono (by have h1 := HWB.out.size; have h2 := HZZ.out; omega))
  have hb5 := hb4.trans (hf.below (B := zz) (fun x hx => by simp at hx; omega) (by have h1 := hb4.size; have h2 := HZZ.out; omega))
  have HB4 := Lib.hid hb5
  have HR5 := Lib.hid (HR4.out.fr hf (fun k hk => by simp at hk; subst hk; exact ⟨_, _, hy, by decide, by decide⟩))
  clear hy hf HR4 hb4 hb5
  go_wp2_with fail
  have hy2 := HY4.out
  simp at hy2
  refine bodyPost_ret (v := .tuple #[.agg #[.slice sa2 sn2 sc2, .slice ra2 rn2 rc2, .slice xa2 xn2 xc2], .int .i64 code]) (by simp [results, Tryd.results34, go_sem, cells_cell (o := 0) hy2 rfl, cells_cell (o := 1) hy2 rfl, cells_cell (o := 2) hy2 rfl]) rfl ?_
  exact ⟨_, _, _, by rw [HCD.out]; rfl, HR5.out, by have h := HB4.out; first | exact h | (rw [HZZ.out]; exact h)⟩
end Go.Proofs.YtcdimopiaanfbaaDoor
/- The reference: New, Where, Waiting. -/
namespace Go.Proofs.YtcdimopiaanfbaaDoor
open Go.RowKit Go.Sort
set_option linter.unusedVariables false
set_option linter.unusedSimpArgs false

/-- A seat in memory. -/
theorem Row.seat {w : World} {b : Nat} {xa : Option Addr} {xn xc : Nat} {L : Seats} (h : Row TSe w b (.slice xa xn xc) L) {j : Nat} (hj : j < L.length) : ∃ g, xa = some ⟨g, 0, none⟩ ∧ xn = L.length ∧ g < w.heap.size ∧ w.cell? ⟨g, j * 3, none⟩ = some (.int .i64 ((L[j].1 : Nat) : Int)) ∧ w.cell? ⟨g, j * 3 + 1, none⟩ = some (.int .i64 L[j].2.1) ∧ w.cell? ⟨g, j * 3 + 2, none⟩ = some (.int .i64 L[j].2.2) := by
  obtain ⟨g, c, hv, _, hl, _, hc⟩ := Row.at TSe_ok h (List.getElem?_eq_getElem hj)
  simp only [Value.slice.injEq] at hv
  obtain ⟨rfl, rfl, rfl⟩ := hv
  exact ⟨g, rfl, rfl, hl, by simpa [TSe] using hc 0 _ rfl, by simpa [TSe] using hc 1 _ rfl, by simpa [TSe] using hc 2 _ rfl⟩
theorem seatOf_take {L : Seats} {i : Nat} {j : Nat} (hj : j < L.length) (h : ∀ m (hm : m < j), (L[m]'(by omega)).1 ≠ i) : seatOf (L.take j) i = none := by
  rw [seatOf_none]
  intro hm
  obtain ⟨x, hx, e⟩ := List.mem_map.1 hm
  obtain ⟨m, hml, rfl⟩ := List.getElem_of_mem hx
  rw [List.length_take] at hml
  rw [List.getElem_take] at e
  exact h m (by omega) e
theorem seatOf_app {A B : Seats} {i : Nat} (h : seatOf A i = none) : seatOf (A ++ B) i = seatOf B i := by
  have h1 := seatOf_none.1 h
  unfold seatOf
  rw [List.find?_append]
  have : A.find? (fun x => decide (x.1 = i)) = none := by
    rw [List.find?_eq_none]
    intro x hx
    have : x.1 ≠ i := fun e => h1 (List.mem_map.2 ⟨x, hx, e⟩)
    simpa using this
  rw [this]
  rfl
theorem seatOf_next {L : Seats} {i j : Nat} (hj : j < L.length) (h : seatOf (L.take j) i = none) (hne : L[j].1 ≠ i) : seatOf (L.take (j + 1)) i = none := by
  rw [List.take_succ_eq_append_getElem hj, seatOf_app h]
  simp [seatOf, hne]
theorem seatOf_here {L : Seats} {i j : Nat} (hj : j < L.length) (h : seatOf (L.take j) i = none) (he : L[j].1 = i) : seatOf L i = some L[j].2 := by
  obtain ⟨x, hx⟩ : ∃ x, x = L[j] := ⟨_, rfl⟩
  rw [← hx] at he ⊢
  have : L = L.take j ++ x :: L.drop (j + 1) := by
    rw [hx, ← List.drop_eq_getElem_cons hj, List.take_append_drop]
  rw [this, seatOf_app h]
  simp [seatOf, he]

set_option maxHeartbeats 1600000 in
theorem g9New_bad (w : World) (c : Int) (h : c < 1 ∨ 64 < c) : Calls Tryd.prog 10 #[.int .i64 c] w fun e w' => ∃ v, e = .returned (.tuple #[v, .int .i64 2]) ∧ Below w.heap.size w w' := by
  have hu := Lib.hid (refNew_bad (w.alloc (.cells #[.slice none 0 0, .slice none 0 0, .slice none 0 0] 33)) c h)
  have HX0 := Lib.hid (block_new w (.cells #[.slice none 0 0, .slice none 0 0, .slice none 0 0] 33) _ rfl)
  have HB0 := Lib.hid (below_alloc w (.cells #[.slice none 0 0, .slice none 0 0, .slice none 0 0] 33))
  clear h
  unfold rk at hu
  go_enter Tryd.func10, Tryd.ntmps10
  go_wp2_with (go_at_call 31; fail)
  refine hu.out.mono ?_
  rintro e w1 ⟨rfl, hg⟩
  have HG := Lib.hid (HB0.out.trans (hg.below.mono HB0.out.size))
  have HX1 := Lib.hid (box_below hg.below HX0.out)
  have ha := below_alloc w1 (.cells #[.slice none 0 0, .slice none 0 0] 30)
  have hx := box_below ha HX1.out
  have x0 := cells_cell (o := 0) HX1.out rfl
  have x1 : w1.cell? ⟨w.heap.size, 1, none⟩ = some (.slice none 0 0) := cells_cell HX1.out rfl
  have x2 : w1.cell? ⟨w.heap.size, 2, none⟩ = some (.slice none 0 0) := cells_cell HX1.out rfl
  have f0 := cells_free HX1.out 0
  have f1 := cells_free HX1.out 1
  have f2 := cells_free HX1.out 2
  have xl := lt_of_block HX1.out
  have hf := ((fr_setCell w1 ⟨w.heap.size, 0, none⟩ (.slice none 0 0)).trans' (fr_setCell _ ⟨w.heap.size, 1, none⟩ (.slice none 0 0))).trans' (fr_setCell _ ⟨w.heap.size, 2, none⟩ (.slice none 0 0))
  have hset := cells_set (cells_set (cells_set HX1.out 0 (.slice none 0 0)) 1 (.slice none 0 0)) 2 (.slice none 0 0)
  have hb5 := below_alloc ((((w1.setCell ⟨w.heap.size, 0, none⟩ (.slice none 0 0)).setCell ⟨w.heap.size, 1, none⟩ (.slice none 0 0)).setCell ⟨w.heap.size, 2, none⟩ (.slice none 0 0))) (.cells #[.slice none 0 0, .slice none 0 0] 30)
  have HY5 := Lib.hid (box_below hb5 hset)
  have hb4 := HG.out.trans (hf.below (B := w.heap.size) (fun x hx => by simp at hx; omega) (by omega))
  have HB5 := Lib.hid (hb4.trans (hb5.mono hb4.size))
  clear ha hx hf hset hb4 hb5 HG HX1
  generalize hzz : w.heap.size = zz at *
  go_wp2_with fail
  have hy2 := HY5.out
  simp at hy2
  refine bodyPost_ret (v := .tuple #[.agg #[.slice none 0 0, .slice none 0 0, .slice none 0 0], .int .i64 2]) (by simp [results, Tryd.results10, go_sem, cells_cell (o := 0) hy2 rfl, cells_cell (o := 1) hy2 rfl, cells_cell (o := 2) hy2 rfl]) rfl ?_
  try rw [hzz]
  exact ⟨_, rfl, HB5.out⟩
set_option maxHeartbeats 1600000 in
theorem g9New_ok (w : World) (c : Nat) (h1 : 1 ≤ c) (h2 : c ≤ 64) : Calls Tryd.prog 10 #[.int .i64 ((c : Nat) : Int)] w fun e w' => ∃ s r x, e = .returned (.tuple #[rlv s r x, .int .i64 0]) ∧ RL w' w.heap.size s r x (Z0 c) ∧ Below w.heap.size w w' := by
  have hu := Lib.hid (refNew_ok (w.alloc (.cells #[.slice none 0 0, .slice none 0 0, .slice none 0 0] 33)) c h1 h2)
  have HX0 := Lib.hid (block_new w (.cells #[.slice none 0 0, .slice none 0 0, .slice none 0 0] 33) _ rfl)
  have HB0 := Lib.hid (below_alloc w (.cells #[.slice none 0 0, .slice none 0 0, .slice none 0 0] 33))
  clear h1 h2
  unfold rk at hu
  go_enter Tryd.func10, Tryd.ntmps10
  go_wp2_with (go_at_call 31; fail)
  refine hu.out.mono ?_
  rintro e w1 ⟨s, rfl, hr, hg⟩
  obtain ⟨sa, sn, sc, rfl⟩ := row_form hr
  have HG := Lib.hid (HB0.out.trans (hg.mono HB0.out.size))
  have HX1 := Lib.hid (box_below hg HX0.out)
  have HR1 : Hid (RL w1 w.heap.size (.slice sa sn sc) (.slice none 0 0) (.slice none 0 0) (Z0 c)) := Lib.hid ⟨hr.lower (by simp), Row.nil _ _, Row.nil _ _⟩
  clear hr hg
  have ha := below_alloc w1 (.cells #[.slice sa sn sc, .slice none 0 0] 30)
  have hx := box_below ha HX1.out
  have x0 := cells_cell (o := 0) HX1.out rfl
  have x1 : w1.cell? ⟨w.heap.size, 1, none⟩ = some (.slice none 0 0) := cells_cell HX1.out rfl
  have x2 : w1.cell? ⟨w.heap.size, 2, none⟩ = some (.slice none 0 0) := cells_cell HX1.out rfl
  have f0 := cells_free HX1.out 0
  have f1 := cells_free HX1.out 1
  have f2 := cells_free HX1.out 2
  have xl := lt_of_block HX1.out
  have hf := ((fr_setCell w1 ⟨w.heap.size, 0, none⟩ (.slice sa sn sc)).trans' (fr_setCell _ ⟨w.heap.size, 1, none⟩ (.slice none 0 0))).trans' (fr_setCell _ ⟨w.heap.size, 2, none⟩ (.slice none 0 0))
  have hset := cells_set (cells_set (cells_set HX1.out 0 (.slice sa sn sc)) 1 (.slice none 0 0)) 2 (.slice none 0 0)
  have hb5 := below_alloc ((((w1.setCell ⟨w.heap.size, 0, none⟩ (.slice sa sn sc)).setCell ⟨w.heap.size, 1, none⟩ (.slice none 0 0)).setCell ⟨w.heap.size, 2, none⟩ (.slice none 0 0))) (.cells #[.slice sa sn sc, .slice none 0 0] 30)
  have HY5 := Lib.hid (box_below hb5 hset)
  have hb4 := HG.out.trans (hf.below (B := w.heap.size) (fun x hx => by simp at hx; omega) (by omega))
  have HB5 := Lib.hid (hb4.trans (hb5.mono hb4.size))
  have HR5 := Lib.hid ((HR1.out.fr hf (fun k hk => by simp at hk; subst hk; exact ⟨_, _, HX1.out, by decide, by decide⟩)).below hb5)
  clear ha hx hf hset hb4 hb5 HG HX1
  generalize hzz : w.heap.size = zz at *
  go_wp2_with fail
  have hy2 := HY5.out
  simp at hy2
  refine bodyPost_ret (v := .tuple #[.agg #[.slice sa sn sc, .slice none 0 0, .slice none 0 0], .int .i64 0]) (by simp [results, Tryd.results10, go_sem, cells_cell (o := 0) hy2 rfl, cells_cell (o := 1) hy2 rfl, cells_cell (o := 2) hy2 rfl]) rfl ?_
  try rw [hzz]
  exact ⟨_, _, _, rfl, HR5.out, HB5.out⟩

section
variable {w : World} {b : Nat} {s r x : Value} {z : Zt}
theorem whC_none {N : Int} (e : numI z N = none) : whC z N = ((0, 0), 2) := by unfold whC; rw [e]
theorem stC_none {N : Int} (e : numI z N = none) : stC z N = (0, 2) := by unfold stC; rw [e]
set_option maxHeartbeats 1600000 in
theorem g9Where_bad (h : RL w b s r x z) (hz : ZK z) {N : Int} (hN : numI z N = none) : Calls Tryd.prog 40 #[rlv s r x, .int .i64 N] w fun e w' => e = .returned (.tuple #[.agg #[.int .i64 0, .int .i64 0], .int .i64 2]) ∧ Below w.heap.size w w' := by
  obtain ⟨sa, sn, sc, ra, rn, rc, xa, xn, xc, rfl, rfl, rfl⟩ := rl_form h
  obtain ⟨W, hW⟩ : ∃ W, (w.alloc (.cells #[.slice sa sn sc, .slice ra rn rc, .slice xa xn xc] 33)).alloc (.cells #[.int .i64 0, .int .i64 0] 38) = W := ⟨_, rfl⟩
  have HWB : Hid (Below w.heap.size w W) := Lib.hid (by rw [← hW]; exact (((Grn.refl w).alloc _).alloc _).below)
  have HX : Hid (W.heap[w.heap.size]? = some (.cells #[.slice sa sn sc, .slice ra rn rc, .slice xa xn xc] 33 (0, 0))) := Lib.hid (by rw [← hW]; exact ((below_alloc _ _).block _ (by simp)).trans (block_new _ _ _ rfl))
  have HY : Hid (W.heap[w.heap.size + 1]? = some (.cells #[.int .i64 0, .int .i64 0] 38 (0, 0))) := Lib.hid (by rw [← hW]; exact block_new _ _ _ (by simp))
  have hr := h.below HWB.out
  have hu := Lib.hid (g8State hr.s hr.r hz.n2 N)
  rw [stC_none hN] at hu
  have HW := Lib.hid hW
  clear h hz hN hW hr
  unfold rlv
  unfold rk at hu
  go_enter Tryd.func40, Tryd.ntmps40
  go_wp2_with fail
  rw [HW.out]
  have x0 := cells_cell (o := 0) HX.out rfl
  have x1 : W.cell? ⟨w.heap.size, 1, none⟩ = some (.slice ra rn rc) := cells_cell HX.out rfl
  have x2 : W.cell? ⟨w.heap.size, 2, none⟩ = some (.slice xa xn xc) := cells_cell HX.out rfl
  have xl := lt_of_block HX.out
  clear HW
  generalize hzz : w.heap.size = zz at *
  go_wp2_with (go_at_call 39; fail)
  refine hu.out.mono ?_
  rintro e w1 ⟨rfl, hg⟩
  have hy := (hg.below.block _ (lt_of_block HY.out)).trans HY.out
  have y0 := cells_cell (o := 0) hy rfl
  have y1 : w1.cell? ⟨zz + 1, 1, none⟩ = some (.int .i64 0) := cells_cell hy rfl
  have f0 := cells_free hy 0
  have f1 := cells_free hy 1
  have yl := lt_of_block hy
  have hf := (fr_setCell w1 ⟨zz + 1, 0, none⟩ (.int .i64 0)).trans' (fr_setCell _ ⟨zz + 1, 1, none⟩ (.int .i64 0))
  have HY4 := Lib.hid (cells_set (cells_set hy 0 (.int .i64 0)) 1 (.int .i64 0))
  have hb4 := HWB.out.trans (hg.below.mono (by have h1 := HWB.out.size; omega))
  have HB4 := Lib.hid (hb4.trans (hf.below (B := zz) (fun x hx => by simp at hx; omega) (by have h1 := hb4.size; omega)))
  clear x0 x1 x2 xl hy hf hb4 hg hu HX
  go_wp2_with fail
  have hy2 := HY4.out
  simp at hy2
  refine bodyPost_ret (v := .tuple #[.agg #[.int .i64 0, .int .i64 0], .int .i64 2]) (by simp [results, Tryd.results40, go_sem, cells_cell (o := 0) hy2 rfl, cells_cell (o := 1) hy2 rfl]) rfl ?_
  exact ⟨rfl, by rw [hzz]; exact HB4.out⟩

theorem whC_at {i : Nat} (hi : i < z.S.length) : whC z ((i : Nat) : Int) = match seatOf z.L i with
    | none => ((0, 0), 8)
    | some s => (s, 0) := by unfold whC; rw [numI_at hi]; rfl
theorem stC_at {i : Nat} (hi : i < z.S.length) : stC z ((i : Nat) : Int) = (z.S.getD i 0, 0) := by unfold stC; rw [numI_at hi]
set_option maxRecDepth 100000 in
set_option maxHeartbeats 3200000 in
theorem g9Where_ok (h : RL w b s r x z) (hz : ZK z) {i : Nat} (hi : i < z.S.length) : Calls Tryd.prog 40 #[rlv s r x, .int .i64 ((i : Nat) : Int)] w fun e w' => e = .returned (.tuple #[.agg #[.int .i64 (whC z ((i : Nat) : Int)).1.1, .int .i64 (whC z ((i : Nat) : Int)).1.2], .int .i64 (whC z ((i : Nat) : Int)).2]) ∧ Below w.heap.size w w' := by
  obtain ⟨sa, sn, sc, ra, rn, rc, xa, xn, xc, rfl, rfl, rfl⟩ := rl_form h
  obtain ⟨W, hW⟩ : ∃ W, (w.alloc (.cells #[.slice sa sn sc, .slice ra rn rc, .slice xa xn xc] 33)).alloc (.cells #[.int .i64 0, .int .i64 0] 38) = W := ⟨_, rfl⟩
  have HWB : Hid (Below w.heap.size w W) := Lib.hid (by rw [← hW]; exact (((Grn.refl w).alloc _).alloc _).below)
  have HX : Hid (W.heap[w.heap.size]? = some (.cells #[.slice sa sn sc, .slice ra rn rc, .slice xa xn xc] 33 (0, 0))) := Lib.hid (by rw [← hW]; exact ((below_alloc _ _).block _ (by simp)).trans (block_new _ _ _ rfl))
  have HY : Hid (W.heap[w.heap.size + 1]? = some (.cells #[.int .i64 0, .int .i64 0] 38 (0, 0))) := Lib.hid (by rw [← hW]; exact block_new _ _ _ (by simp))
  have hr := h.below HWB.out
  have hu := Lib.hid (g8State hr.s hr.r hz.n2 ((i : Nat) : Int))
  rw [stC_at hi] at hu
  have HWC := Lib.hid (whC_at hi)
  have hml : xn = z.L.length := by obtain ⟨a, c, e, _, _⟩ := h.l.form; simp at e; exact e.2.1
  have hmI : ((xn : Nat) : Int) ≤ 1000 := by have := hz.l; omega
  have HM := Lib.hid hml
  have HR := Lib.hid hr.l
  have HW := Lib.hid hW
  clear h hz hi hW hr hml
  unfold rlv
  unfold rk at hu
  go_enter Tryd.func40, Tryd.ntmps40
  go_wp2_with fail
  rw [HW.out]
  have x0 := cells_cell (o := 0) HX.out rfl
  have x1 : W.cell? ⟨w.heap.size, 1, none⟩ = some (.slice ra rn rc) := cells_cell HX.out rfl
  have x2 : W.cell? ⟨w.heap.size, 2, none⟩ = some (.slice xa xn xc) := cells_cell HX.out rfl
  have xl := lt_of_block HX.out
  clear HW
  generalize hzz : w.heap.size = zz at *
  go_wp2_with (go_at_call 39; fail)
  refine hu.out.mono ?_
  rintro e w1 ⟨rfl, hg⟩
  obtain ⟨t, ht⟩ : ∃ t, z.S.getD i 0 = t := ⟨_, rfl⟩
  rw [ht]
  clear ht x0 x1 x2 xl hu
  have HX1 := Lib.hid ((hg.below.block _ (lt_of_block HX.out)).trans HX.out)
  have HY1 := Lib.hid ((hg.below.block _ (lt_of_block HY.out)).trans HY.out)
  have HB1 := Lib.hid (HWB.out.trans (hg.below.mono (by have h1 := HWB.out.size; omega)))
  have HR1 := Lib.hid (HR.out.below hg.below)
  have HZZ := Lib.hid hzz
  clear hg HX HY HWB HR hzz
  go_wp2_with fail
  go_loopw [8] (fun c wr => ∃ k : Nat, k ≤ xn ∧ c = .int .i64 ((k : Nat) : Int) ∧ Hid (wr = w1 ∧ seatOf (z.L.take k) i = none)) (fun c _ => xn - (intOf c).toNat)
  case atStart => exact ⟨0, Nat.zero_le _, rfl, Lib.hid ⟨rfl, rfl⟩⟩
  case round =>
    obtain ⟨k, hk, rfl, HD⟩ := hrel
    obtain ⟨e1, hs⟩ := HD.out
    have e2 := e1.symm
    subst e2
    clear e1
    have HSE := Lib.hid hs
    clear hs HD
    have x2 : w1.cell? ⟨zz, 2, none⟩ = some (.slice xa xn xc) := cells_cell HX1.out rfl
    have xl := lt_of_block HX1.out
    have hy := HY1.out
    have y0 := cells_cell (o := 0) hy rfl
    have y1 : w1.cell? ⟨zz + 1, 1, none⟩ = some (.int .i64 0) := cells_cell hy rfl
    have f0 := cells_free hy 0
    have f1 := cells_free hy 1
    have yl := lt_of_block hy
    clear hy
    by_cases hlt : k < xn
    · have hkL : k < z.L.length := by rw [← HM.out]; exact hlt
      have hkI : (k : Int) < (xn : Int) := by omega
      obtain ⟨g, rfl, hxn, hgl, c0, c1, c2⟩ := HR1.out.seat hkL
      by_cases he : z.L[k].1 = i
      · have HSO := Lib.hid (seatOf_here hkL HSE.out he)
        rw [HSO.out] at HWC
        rw [he] at c0
        generalize z.L[k] = q at *
        obtain ⟨qn, q1, q2⟩ := q
        simp only at c1 c2 he ⊢
        subst he
        have hf := (fr_setCell w1 ⟨zz + 1, 0, none⟩ (.int .i64 q1)).trans' (fr_setCell _ ⟨zz + 1, 1, none⟩ (.int .i64 q2))
        have HY4 := Lib.hid (cells_set (cells_set HY1.out 0 (.int .i64 q1)) 1 (.int .i64 q2))
        have HB4 := Lib.hid (HB1.out.trans (hf.below (B := zz) (fun x hx => by simp at hx; omega) (by have h1 := HB1.out.size; omega)))
        clear hf hkL hxn HR1 HM HSE HSO
        go_wp2_with fail
        have hy2 := HY4.out
        simp at hy2
        refine bodyPost_ret (v := .tuple #[.agg #[.int .i64 q1, .int .i64 q2], .int .i64 0]) (by simp [results, Tryd.results40, go_sem, cells_cell (o := 0) hy2 rfl, cells_cell (o := 1) hy2 rfl]) rfl ?_
        exact ⟨by rw [HWC.out], by first | exact HB4.out | (rw [HZZ.out]; exact HB4.out)⟩
      · have HSE2 := Lib.hid (seatOf_next hkL HSE.out he)
        have hne : ¬ ((z.L[k].1 : Nat) : Int) = ((i : Nat) : Int) := by omega
        have hne2 : (((z.L[k].1 : Nat) : Int) == ((i : Nat) : Int)) = false := by simpa using hne
        generalize ((z.L[k].1 : Nat) : Int) = q at *
        clear c1 c2 hkL hxn he
        go_wp2_with fail
        go_roundw
        case rel => exact ⟨k + 1, by omega, by go_num, Lib.hid ⟨by first | rfl | trivial, HSE2.out⟩⟩
        case measure => simp [intOf]; omega
    · obtain rfl : k = xn := by omega
      have hs := HSE.out
      rw [HM.out, List.take_length] at hs
      rw [hs] at HWC
      have hf := (fr_setCell w1 ⟨zz + 1, 0, none⟩ (.int .i64 0)).trans' (fr_setCell _ ⟨zz + 1, 1, none⟩ (.int .i64 0))
      have HY4 := Lib.hid (cells_set (cells_set HY1.out 0 (.int .i64 0)) 1 (.int .i64 0))
      have HB4 := Lib.hid (HB1.out.trans (hf.below (B := zz) (fun x hx => by simp at hx; omega) (by have h1 := HB1.out.size; omega)))
      clear hf hs HR1 HM HSE
      go_wp2_with fail
      have hy2 := HY4.out
      simp at hy2
      refine bodyPost_ret (v := .tuple #[.agg #[.int .i64 0, .int .i64 0], .int .i64 8]) (by simp [results, Tryd.results40, go_sem, cells_cell (o := 0) hy2 rfl, cells_cell (o := 1) hy2 rfl]) rfl ?_
      exact ⟨by rw [HWC.out], by first | exact HB4.out | (rw [HZZ.out]; exact HB4.out)⟩
theorem g9Where_any (h : RL w b s r x z) (hz : ZK z) (N : Int) : Calls Tryd.prog 40 #[rlv s r x, .int .i64 N] w fun e w' => e = .returned (.tuple #[.agg #[.int .i64 (whC z N).1.1, .int .i64 (whC z N).1.2], .int .i64 (whC z N).2]) ∧ Below w.heap.size w w' := by
  rcases numI_or z N with ⟨e, _⟩ | ⟨i, rfl, hi, e⟩
  · rw [whC_none e]
    exact g9Where_bad h hz e
  · exact g9Where_ok h hz hi
end
end Go.Proofs.YtcdimopiaanfbaaDoor
/- The reference: Waiting. -/
namespace Go.Proofs.YtcdimopiaanfbaaDoor
open Go.RowKit Go.Sort
set_option linter.unusedVariables false
set_option linter.unusedSimpArgs false

section
variable {w : World} {b : Nat} {s r x : Value} {z : Zt}
theorem wt_next {L : Seats} {t : Sp} {k : Nat} (hk : k < L.length) : cat (wt t (L.take (k + 1))) = cat (wt t (L.take k)) ++ if L[k].2 = t then [((L[k].1 : Nat) : Int)] else [] := by
  rw [List.take_succ_eq_append_getElem hk, wt_append, cat_append]
  congr 1
  by_cases h : L[k].2 = t
  · rw [if_pos h]; simp [wt, cat, h]
  · rw [if_neg h]; simp [wt, cat, h]
theorem cwt_len (t : Sp) (L : Seats) : (cat (wt t L)).length ≤ L.length := by
  unfold cat wt
  rw [List.length_map, List.length_map]
  exact List.length_filter_le _ _
set_option maxHeartbeats 1600000 in
theorem g9Waiting_bad (h : RL w b s r x z) {t : Sp} (ht : ¬ SpOk t) : Calls Tryd.prog 41 #[rlv s r x, .agg #[.int .i64 t.1, .int .i64 t.2]] w fun e w' => e = .returned (.tuple #[.slice none 0 0, .int .i64 2]) ∧ Below w.heap.size w w' := by
  obtain ⟨sa, sn, sc, ra, rn, rc, xa, xn, xc, rfl, rfl, rfl⟩ := rl_form h
  obtain ⟨W, hW⟩ : ∃ W, (w.alloc (.cells #[.slice sa sn sc, .slice ra rn rc, .slice xa xn xc] 33)).alloc (.cells #[.int .i64 t.1, .int .i64 t.2] 38) = W := ⟨_, rfl⟩
  have HWB : Hid (Below w.heap.size w W) := Lib.hid (by rw [← hW]; exact (((Grn.refl w).alloc _).alloc _).below)
  have HX : Hid (W.heap[w.heap.size]? = some (.cells #[.slice sa sn sc, .slice ra rn rc, .slice xa xn xc] 33 (0, 0))) := Lib.hid (by rw [← hW]; exact ((below_alloc _ _).block _ (by simp)).trans (block_new _ _ _ rfl))
  have HY : Hid (W.heap[w.heap.size + 1]? = some (.cells #[.int .i64 t.1, .int .i64 t.2] 38 (0, 0))) := Lib.hid (by rw [← hW]; exact block_new _ _ _ (by simp))
  have hr := h.below HWB.out
  have hu := Lib.hid (g9Spot_no W ht)
  have HW := Lib.hid hW
  clear h ht hW hr
  obtain ⟨t1, t2⟩ := t
  simp only at HY hu HW ⊢
  unfold rlv
  go_enter Tryd.func41, Tryd.ntmps41
  go_wp2_with fail
  rw [HW.out]
  have y0 := cells_cell (o := 0) HY.out rfl
  have y1 : W.cell? ⟨w.heap.size + 1, 1, none⟩ = some (.int .i64 t2) := cells_cell HY.out rfl
  have yl := lt_of_block HY.out
  clear HW
  generalize hzz : w.heap.size = zz at *
  go_wp2_with (go_at_call 27; fail)
  refine hu.out.mono ?_
  rintro e w1 ⟨rfl, hg⟩
  have HB := Lib.hid (HWB.out.trans (hg.below.mono (by have h1 := HWB.out.size; omega)))
  clear hg y0 y1 yl HX HY hu
  go_wp2_with fail
  go_ret2
  exact ⟨rfl, by rw [hzz]; exact HB.out⟩
set_option maxRecDepth 100000 in
set_option maxHeartbeats 3200000 in
theorem g9Waiting_ok (h : RL w b s r x z) (hz : ZK z) {t : Sp} (ht : SpOk t) : Calls Tryd.prog 41 #[rlv s r x, .agg #[.int .i64 t.1, .int .i64 t.2]] w fun e w' => ∃ v, e = .returned (.tuple #[v, .int .i64 0]) ∧ Row TI w' w.heap.size v (cat (wt t z.L)) ∧ Below w.heap.size w w' := by
  obtain ⟨sa, sn, sc, ra, rn, rc, xa, xn, xc, rfl, rfl, rfl⟩ := rl_form h
  obtain ⟨W, hW⟩ : ∃ W, (w.alloc (.cells #[.slice sa sn sc, .slice ra rn rc, .slice xa xn xc] 33)).alloc (.cells #[.int .i64 t.1, .int .i64 t.2] 38) = W := ⟨_, rfl⟩
  have HWB : Hid (Below w.heap.size w W) := Lib.hid (by rw [← hW]; exact (((Grn.refl w).alloc _).alloc _).below)
  have HX : Hid (W.heap[w.heap.size]? = some (.cells #[.slice sa sn sc, .slice ra rn rc, .slice xa xn xc] 33 (0, 0))) := Lib.hid (by rw [← hW]; exact ((below_alloc _ _).block _ (by simp)).trans (block_new _ _ _ rfl))
  have HY : Hid (W.heap[w.heap.size + 1]? = some (.cells #[.int .i64 t.1, .int .i64 t.2] 38 (0, 0))) := Lib.hid (by rw [← hW]; exact block_new _ _ _ (by simp))
  have hr := h.below HWB.out
  have hu := Lib.hid (g9Spot_yes W ht)
  have hml : xn = z.L.length := by obtain ⟨a, c, e, _, _⟩ := h.l.form; simp at e; exact e.2.1
  have hmI : ((xn : Nat) : Int) ≤ 1000 := by have := hz.l; omega
  have HM := Lib.hid hml
  have HR := Lib.hid hr.l
  have HW := Lib.hid hW
  clear h hz ht hW hr hml
  obtain ⟨t1, t2⟩ := t
  simp only at HY hu HW ⊢
  unfold rlv
  go_enter Tryd.func41, Tryd.ntmps41
  go_wp2_with fail
  rw [HW.out]
  have y0 := cells_cell (o := 0) HY.out rfl
  have y1 : W.cell? ⟨w.heap.size + 1, 1, none⟩ = some (.int .i64 t2) := cells_cell HY.out rfl
  have yl := lt_of_block HY.out
  clear HW
  generalize hzz : w.heap.size = zz at *
  go_wp2_with (go_at_call 27; fail)
  refine hu.out.mono ?_
  rintro e w1 ⟨rfl, hg⟩
  have HX1 := Lib.hid ((hg.below.block _ (lt_of_block HX.out)).trans HX.out)
  have HY1 := Lib.hid ((hg.below.block _ (lt_of_block HY.out)).trans HY.out)
  have HB1 := Lib.hid (HWB.out.trans (hg.below.mono (by have h1 := HWB.out.size; omega)))
  have HR1 := Lib.hid (HR.out.below hg.below)
  have HZZ := Lib.hid hzz
  clear hg y0 y1 yl HX HY HWB HR hzz hu
  go_wp2_with fail
  go_loopw [6, 7] (fun ov c wr => ∃ k : Nat, k ≤ xn ∧ c = .int .i64 ((k : Nat) : Int) ∧ Hid (Row TI wr w1.heap.size ov (cat (wt (t1, t2) (z.L.take k))) ∧ Below w1.heap.size w1 wr)) (fun _ c _ => xn - (intOf c).toNat)
  case atStart => exact ⟨0, Nat.zero_le _, rfl, Lib.hid ⟨Row.nil _ _, Below.refl _ _⟩⟩
  case round =>
    obtain ⟨k, hk, rfl, HD⟩ := hrel
    have hx := (HD.out.2.block _ (lt_of_block HX1.out)).trans HX1.out
    have x2 : wr.cell? ⟨zz, 2, none⟩ = some (.slice xa xn xc) := cells_cell hx rfl
    have xl := lt_of_block hx
    by_cases hlt : k < xn
    · have hkL : k < z.L.length := by rw [← HM.out]; exact hlt
      have hkI : (k : Int) < (xn : Int) := by omega
      have hy := (HD.out.2.block _ (lt_of_block HY1.out)).trans HY1.out
      have y0 := cells_cell (o := 0) hy rfl
      have y1 : wr.cell? ⟨zz + 1, 1, none⟩ = some (.int .i64 t2) := cells_cell hy rfl
      have yl := lt_of_block hy
      have hnx := wt_next (t := (t1, t2)) hkL
      obtain ⟨g, rfl, hxn, hgl, c0, c1, c2⟩ := (HR1.out.below HD.out.2).seat hkL
      generalize z.L[k] = q at *
      obtain ⟨qn, q1, q2⟩ := q
      simp only at c0 c1 c2 hnx
      clear hx hy
      by_cases he : (q1, q2) = (t1, t2)
      · rw [if_pos he] at hnx
        replace hnx := Lib.hid hnx
        simp only [Prod.mk.injEq] at he
        obtain ⟨rfl, rfl⟩ := he
        have HL : Hid ((cat (wt (q1, q2) (z.L.take k))).length ≤ 1000) := Lib.hid (Nat.le_trans (cwt_len _ _) (by rw [List.length_take]; omega))
        clear hkL hxn
        go_wp2_with fail
        go_quiet (fail)
        have hdr : Below wr.heap.size wr (wr.drewN nq) := ((Grn.refl wr).drew nq).below
        have HD3 : Hid (Row TI (wr.drewN nq) w1.heap.size u6 (cat (wt (q1, q2) (z.L.take k))) ∧ Below w1.heap.size w1 (wr.drewN nq)) := Lib.hid ⟨HD.out.1.below hdr, HD.out.2.trans (hdr.mono HD.out.2.size)⟩
        have hba := below_alloc (wr.drewN nq) (.cells #[.int .i64 ((qn : Nat) : Int)] 3)
        have hrow := Lib.hid (HD3.out.1.below hba)
        clear HD hdr
        go_wp2_with (at_builtin; refine wpList_append_g TI_ok rfl (.tmp 26) (.tmp 33) rfl rfl rfl hrow.out (by have := HD3.out.2.size; simp at this ⊢; omega) (src_new TI_ok (wr.drewN nq) ((qn : Nat) : Int) #[.int .i64 ((qn : Nat) : Int)] rfl) (by have := HL.out; simp; omega) ?_)
        intro v' w3 ho hf hnr
        have HD2 : Hid (Row TI w3 w1.heap.size v' (cat (wt (q1, q2) (z.L.take (k + 1)))) ∧ Below w1.heap.size w1 w3) := Lib.hid (by
          refine ⟨by rw [hnx.out]; exact ho, ?_⟩
          have h1 := HD3.out.2.trans (hba.mono HD3.out.2.size)
          refine h1.trans (hf.below (fun y hy => ?_) h1.size)
          exact (hrow.out.lt y (by simpa using hy)).1)
        clear ho hf hnr hrow hba HD3
        go_wp2_with fail
        go_roundw
        case rel => exact ⟨k + 1, by omega, by go_num, HD2⟩
        case measure => simp [intOf]; omega
      · rw [if_neg he, List.append_nil] at hnx
        replace hnx := Lib.hid hnx
        have he2 : ¬ q1 = t1 ∨ (q1 = t1 ∧ ¬ q2 = t2) := by
          by_cases h1 : q1 = t1
          · exact .inr ⟨h1, fun h2 => he (by rw [h1, h2])⟩
          · exact .inl h1
        clear he hkL hxn
        rcases he2 with he | ⟨rfl, he⟩
        · have he3 : (q1 == t1) = false := by simpa using he
          go_wp2_with fail
          go_quiet (fail)
          have hdr : Below wr.heap.size wr (wr.drewN nq) := ((Grn.refl wr).drew nq).below
          have HD3 : Hid (Row TI (wr.drewN nq) w1.heap.size u6 (cat (wt (t1, t2) (z.L.take (k + 1)))) ∧ Below w1.heap.size w1 (wr.drewN nq)) := Lib.hid ⟨by rw [hnx.out]; exact HD.out.1.below hdr, HD.out.2.trans (hdr.mono HD.out.2.size)⟩
          go_wp2_with fail
          go_roundw
          case rel => exact ⟨k + 1, by omega, by go_num, HD3⟩
          case measure => simp [intOf]; omega
        · have he3 : (q2 == t2) = false := by simpa using he
          go_wp2_with fail
          go_quiet (fail)
          have hdr : Below wr.heap.size wr (wr.drewN nq) := ((Grn.refl wr).drew nq).below
          have HD3 : Hid (Row TI (wr.drewN nq) w1.heap.size u6 (cat (wt (q1, t2) (z.L.take (k + 1)))) ∧ Below w1.heap.size w1 (wr.drewN nq)) := Lib.hid ⟨by rw [hnx.out]; exact HD.out.1.below hdr, HD.out.2.trans (hdr.mono HD.out.2.size)⟩
          go_wp2_with fail
          go_roundw
          case rel => exact ⟨k + 1, by omega, by go_num, HD3⟩
          case measure => simp [intOf]; omega
    · obtain rfl : k = xn := by omega
      have HD2 : Hid (Row TI wr w1.heap.size u6 (cat (wt (t1, t2) z.L)) ∧ Below w1.heap.size w1 wr) := Lib.hid (by
        have := HD.out
        rw [HM.out, List.take_length] at this
        exact this)
      have HB2 := Lib.hid (HB1.out.trans (HD2.out.2.mono (by have h1 := HB1.out.size; have h2 := HZZ.out; omega)))
      have HLW : Hid (zz ≤ w1.heap.size) := Lib.hid (by have h1 := HB1.out.size; have h2 := HZZ.out; omega)
      clear hx HD HR1
      go_wp2_with fail
      go_ret2
      rw [HZZ.out]
      exact ⟨_, rfl, HD2.out.1.lower HLW.out, HB2.out⟩
theorem g9Waiting_any (h : RL w b s r x z) (hz : ZK z) (t : Sp) : Calls Tryd.prog 41 #[rlv s r x, .agg #[.int .i64 t.1, .int .i64 t.2]] w fun e w' => ∃ v, e = .returned (.tuple #[v, .int .i64 (waC z t).2]) ∧ Row TI w' w.heap.size v (waC z t).1 ∧ Below w.heap.size w w' := by
  unfold waC
  by_cases ht : SpOk t
  · rw [if_pos ht]
    exact g9Waiting_ok h hz ht
  · rw [if_neg ht]
    refine (g9Waiting_bad h ht).mono ?_
    rintro e w' ⟨rfl, hb⟩
    exact ⟨_, rfl, Row.nil _ _, hb⟩
end
end Go.Proofs.YtcdimopiaanfbaaDoor
/- The reference: Park. -/
namespace Go.Proofs.YtcdimopiaanfbaaDoor
open Go.RowKit Go.Sort
set_option linter.unusedVariables false
set_option linter.unusedSimpArgs false

set_option maxHeartbeats 1600000 in
theorem g9Park_num {w : World} {b : Nat} {s r x : Value} {z : Zt} (h : RL w b s r x z) (hb0 : b ≤ w.heap.size) (hz : ZK z) {N : Int} (hN : numI z N = none) (t : Sp) : Calls Tryd.prog 35 #[rlv s r x, .int .i64 N, .agg #[.int .i64 t.1, .int .i64 t.2]] w (RAns w b z 2) := by
  obtain ⟨sa, sn, sc, ra, rn, rc, xa, xn, xc, rfl, rfl, rfl⟩ := rl_form h
  obtain ⟨t1, t2⟩ := t
  obtain ⟨W, hW⟩ : ∃ W, ((w.alloc (.cells #[.slice sa sn sc, .slice ra rn rc, .slice xa xn xc] 33)).alloc (.cells #[.int .i64 t1, .int .i64 t2] 38)).alloc (.cells #[.slice none 0 0, .slice none 0 0, .slice none 0 0] 33) = W := ⟨_, rfl⟩
  have HWB : Hid (Below w.heap.size w W) := Lib.hid (by rw [← hW]; exact ((((Grn.refl w).alloc _).alloc _).alloc _).below)
  have HX : Hid (W.heap[w.heap.size]? = some (.cells #[.slice sa sn sc, .slice ra rn rc, .slice xa xn xc] 33 (0, 0))) := Lib.hid (by rw [← hW]; exact ((below_alloc _ _).block _ (by simp; omega)).trans (((below_alloc _ _).block _ (by simp)).trans (block_new _ _ _ rfl)))
  have HY : Hid (W.heap[w.heap.size + 1]? = some (.cells #[.int .i64 t1, .int .i64 t2] 38 (0, 0))) := Lib.hid (by rw [← hW]; exact ((below_alloc _ _).block _ (by simp)).trans (block_new _ _ _ (by simp)))
  have HO : Hid (W.heap[w.heap.size + 2]? = some (.cells #[.slice none 0 0, .slice none 0 0, .slice none 0 0] 33 (0, 0))) := Lib.hid (by rw [← hW]; exact block_new _ _ _ (by simp))
  have HR := Lib.hid (h.below HWB.out)
  have HB0 : Hid (b ≤ w.heap.size) := Lib.hid hb0
  have hu := Lib.hid (g8State HR.out.s HR.out.r hz.n2 N)
  rw [stC_none hN] at hu
  clear hz hN
  have HW := Lib.hid hW
  clear h hW hb0
  unfold rlv
  unfold rk at hu
  go_enter Tryd.func35, Tryd.ntmps35
  go_wp2_with fail
  rw [HW.out]
  clear HW
  generalize hzz : w.heap.size = zz at *
  have HZZ := Lib.hid hzz
  clear hzz
  have x0 : W.cell? ⟨zz, 0, none⟩ = some (.slice sa sn sc) := cells_cell HX.out rfl
  have x1 : W.cell? ⟨zz, 1, none⟩ = some (.slice ra rn rc) := cells_cell HX.out rfl
  have x2 : W.cell? ⟨zz, 2, none⟩ = some (.slice xa xn xc) := cells_cell HX.out rfl
  have xl := lt_of_block HX.out
  have y0 : W.cell? ⟨zz + 1, 0, none⟩ = some (.int .i64 t1) := cells_cell HY.out rfl
  have y1 : W.cell? ⟨zz + 1, 1, none⟩ = some (.int .i64 t2) := cells_cell HY.out rfl
  have yl := lt_of_block HY.out
  go_wp2_with (go_at_call 39; fail)
  refine hu.out.mono ?_
  rintro e w1 ⟨rfl, hg⟩
  clear x0 x1 x2 xl y0 y1 yl
  clear hu
  replace HX := Lib.hid ((hg.below.block _ (lt_of_block HX.out)).trans HX.out)
  replace HY := Lib.hid ((hg.below.block _ (lt_of_block HY.out)).trans HY.out)
  replace HO := Lib.hid ((hg.below.block _ (lt_of_block HO.out)).trans HO.out)
  replace HR := Lib.hid (HR.out.below hg.below)
  replace HWB := Lib.hid (HWB.out.trans (hg.below.mono (by have h1 := HWB.out.size; have h2 := HZZ.out; omega)))
  have x0 : w1.cell? ⟨zz, 0, none⟩ = some (.slice sa sn sc) := cells_cell HX.out rfl
  have x1 : w1.cell? ⟨zz, 1, none⟩ = some (.slice ra rn rc) := cells_cell HX.out rfl
  have x2 : w1.cell? ⟨zz, 2, none⟩ = some (.slice xa xn xc) := cells_cell HX.out rfl
  have xl := lt_of_block HX.out
  have o0 : w1.cell? ⟨zz + 2, 0, none⟩ = some (.slice none 0 0) := cells_cell HO.out rfl
  have o1 : w1.cell? ⟨zz + 2, 1, none⟩ = some (.slice none 0 0) := cells_cell HO.out rfl
  have o2 : w1.cell? ⟨zz + 2, 2, none⟩ = some (.slice none 0 0) := cells_cell HO.out rfl
  have f0 := cells_free HO.out 0
  have f1 := cells_free HO.out 1
  have f2 := cells_free HO.out 2
  have ol := lt_of_block HO.out
  have hf := ((fr_setCell w1 ⟨zz + 2, 0, none⟩ (.slice sa sn sc)).trans' (fr_setCell _ ⟨zz + 2, 1, none⟩ (.slice ra rn rc))).trans' (fr_setCell _ ⟨zz + 2, 2, none⟩ (.slice xa xn xc))
  have HY4 := Lib.hid (cells_set (cells_set (cells_set HO.out 0 (.slice sa sn sc)) 1 (.slice ra rn rc)) 2 (.slice xa xn xc))
  have HB5 := Lib.hid (HWB.out.trans (hf.below (B := zz) (fun x hx => by simp at hx; omega) (by have h1 := HWB.out.size; have h2 := HZZ.out; omega)))
  have HR5 := Lib.hid (HR.out.fr hf (fun k hk => by simp at hk; subst hk; exact ⟨_, _, HO.out, by decide, by decide⟩))
  clear hf
  go_wp2_with fail
  have hy2 := HY4.out
  simp at hy2
  refine bodyPost_ret (v := .tuple #[.agg #[.slice sa sn sc, .slice ra rn rc, .slice xa xn xc], .int .i64 2]) (by simp [results, Tryd.results35, go_sem, cells_cell (o := 0) hy2 rfl, cells_cell (o := 1) hy2 rfl, cells_cell (o := 2) hy2 rfl]) rfl ?_
  exact ⟨_, _, _, rfl, HR5.out, by first | exact HB5.out | (rw [HZZ.out]; exact HB5.out)⟩

set_option maxHeartbeats 1600000 in
theorem g9Park_spot {w : World} {b : Nat} {s r x : Value} {z : Zt} (h : RL w b s r x z) (hb0 : b ≤ w.heap.size) (hz : ZK z) {i : Nat} (hi : i < z.S.length) {t : Sp} (ht : ¬ SpOk t) : Calls Tryd.prog 35 #[rlv s r x, .int .i64 ((i : Nat) : Int), .agg #[.int .i64 t.1, .int .i64 t.2]] w (RAns w b z 2) := by
  obtain ⟨sa, sn, sc, ra, rn, rc, xa, xn, xc, rfl, rfl, rfl⟩ := rl_form h
  obtain ⟨t1, t2⟩ := t
  obtain ⟨W, hW⟩ : ∃ W, ((w.alloc (.cells #[.slice sa sn sc, .slice ra rn rc, .slice xa xn xc] 33)).alloc (.cells #[.int .i64 t1, .int .i64 t2] 38)).alloc (.cells #[.slice none 0 0, .slice none 0 0, .slice none 0 0] 33) = W := ⟨_, rfl⟩
  have HWB : Hid (Below w.heap.size w W) := Lib.hid (by rw [← hW]; exact ((((Grn.refl w).alloc _).alloc _).alloc _).below)
  have HX : Hid (W.heap[w.heap.size]? = some (.cells #[.slice sa sn sc, .slice ra rn rc, .slice xa xn xc] 33 (0, 0))) := Lib.hid (by rw [← hW]; exact ((below_alloc _ _).block _ (by simp; omega)).trans (((below_alloc _ _).block _ (by simp)).trans (block_new _ _ _ rfl)))
  have HY : Hid (W.heap[w.heap.size + 1]? = some (.cells #[.int .i64 t1, .int .i64 t2] 38 (0, 0))) := Lib.hid (by rw [← hW]; exact ((below_alloc _ _).block _ (by simp)).trans (block_new _ _ _ (by simp)))
  have HO : Hid (W.heap[w.heap.size + 2]? = some (.cells #[.slice none 0 0, .slice none 0 0, .slice none 0 0] 33 (0, 0))) := Lib.hid (by rw [← hW]; exact block_new _ _ _ (by simp))
  have HR := Lib.hid (h.below HWB.out)
  have HB0 : Hid (b ≤ w.heap.size) := Lib.hid hb0
  have hu := Lib.hid (g8State HR.out.s HR.out.r hz.n2 ((i : Nat) : Int))
  rw [stC_at hi] at hu
  have hsp := Lib.hid (fun W => g9Spot_no W ht)
  simp only at hsp ⊢
  generalize z.S.getD i 0 = c at hu
  clear hz hi ht
  have HW := Lib.hid hW
  clear h hW hb0
  unfold rlv
  unfold rk at hu
  go_enter Tryd.func35, Tryd.ntmps35
  go_wp2_with fail
  rw [HW.out]
  clear HW
  generalize hzz : w.heap.size = zz at *
  have HZZ := Lib.hid hzz
  clear hzz
  have x0 : W.cell? ⟨zz, 0, none⟩ = some (.slice sa sn sc) := cells_cell HX.out rfl
  have x1 : W.cell? ⟨zz, 1, none⟩ = some (.slice ra rn rc) := cells_cell HX.out rfl
  have x2 : W.cell? ⟨zz, 2, none⟩ = some (.slice xa xn xc) := cells_cell HX.out rfl
  have xl := lt_of_block HX.out
  have y0 : W.cell? ⟨zz + 1, 0, none⟩ = some (.int .i64 t1) := cells_cell HY.out rfl
  have y1 : W.cell? ⟨zz + 1, 1, none⟩ = some (.int .i64 t2) := cells_cell HY.out rfl
  have yl := lt_of_block HY.out
  go_wp2_with (go_at_call 39; fail)
  refine hu.out.mono ?_
  rintro e w1 ⟨rfl, hg⟩
  clear x0 x1 x2 xl y0 y1 yl
  clear hu
  replace HX := Lib.hid ((hg.below.block _ (lt_of_block HX.out)).trans HX.out)
  replace HY := Lib.hid ((hg.below.block _ (lt_of_block HY.out)).trans HY.out)
  replace HO := Lib.hid ((hg.below.block _ (lt_of_block HO.out)).trans HO.out)
  replace HR := Lib.hid (HR.out.below hg.below)
  replace HWB := Lib.hid (HWB.out.trans (hg.below.mono (by have h1 := HWB.out.size; have h2 := HZZ.out; omega)))
  have y0 : w1.cell? ⟨zz + 1, 0, none⟩ = some (.int .i64 t1) := cells_cell HY.out rfl
  have y1 : w1.cell? ⟨zz + 1, 1, none⟩ = some (.int .i64 t2) := cells_cell HY.out rfl
  have yl := lt_of_block HY.out
  go_wp2_with (go_at_call 27; fail)
  refine (hsp.out w1).mono ?_
  rintro e w2 ⟨rfl, hg2⟩
  clear y0 y1 yl
  clear hsp
  replace HX := Lib.hid ((hg2.below.block _ (lt_of_block HX.out)).trans HX.out)
  replace HY := Lib.hid ((hg2.below.block _ (lt_of_block HY.out)).trans HY.out)
  replace HO := Lib.hid ((hg2.below.block _ (lt_of_block HO.out)).trans HO.out)
  replace HR := Lib.hid (HR.out.below hg2.below)
  replace HWB := Lib.hid (HWB.out.trans (hg2.below.mono (by have h1 := HWB.out.size; have h2 := HZZ.out; omega)))
  have x0 : w2.cell? ⟨zz, 0, none⟩ = some (.slice sa sn sc) := cells_cell HX.out rfl
  have x1 : w2.cell? ⟨zz, 1, none⟩ = some (.slice ra rn rc) := cells_cell HX.out rfl
  have x2 : w2.cell? ⟨zz, 2, none⟩ = some (.slice xa xn xc) := cells_cell HX.out rfl
  have xl := lt_of_block HX.out
  have o0 : w2.cell? ⟨zz + 2, 0, none⟩ = some (.slice none 0 0) := cells_cell HO.out rfl
  have o1 : w2.cell? ⟨zz + 2, 1, none⟩ = some (.slice none 0 0) := cells_cell HO.out rfl
  have o2 : w2.cell? ⟨zz + 2, 2, none⟩ = some (.slice none 0 0) := cells_cell HO.out rfl
  have f0 := cells_free HO.out 0
  have f1 := cells_free HO.out 1
  have f2 := cells_free HO.out 2
  have ol := lt_of_block HO.out
  have hf := ((fr_setCell w2 ⟨zz + 2, 0, none⟩ (.slice sa sn sc)).trans' (fr_setCell _ ⟨zz + 2, 1, none⟩ (.slice ra rn rc))).trans' (fr_setCell _ ⟨zz + 2, 2, none⟩ (.slice xa xn xc))
  have HY4 := Lib.hid (cells_set (cells_set (cells_set HO.out 0 (.slice sa sn sc)) 1 (.slice ra rn rc)) 2 (.slice xa xn xc))
  have HB5 := Lib.hid (HWB.out.trans (hf.below (B := zz) (fun x hx => by simp at hx; omega) (by have h1 := HWB.out.size; have h2 := HZZ.out; omega)))
  have HR5 := Lib.hid (HR.out.fr hf (fun k hk => by simp at hk; subst hk; exact ⟨_, _, HO.out, by decide, by decide⟩))
  clear hf
  go_wp2_with fail
  have hy2 := HY4.out
  simp at hy2
  refine bodyPost_ret (v := .tuple #[.agg #[.slice sa sn sc, .slice ra rn rc, .slice xa xn xc], .int .i64 2]) (by simp [results, Tryd.results35, go_sem, cells_cell (o := 0) hy2 rfl, cells_cell (o := 1) hy2 rfl, cells_cell (o := 2) hy2 rfl]) rfl ?_
  exact ⟨_, _, _, rfl, HR5.out, by first | exact HB5.out | (rw [HZZ.out]; exact HB5.out)⟩

set_option maxHeartbeats 1600000 in
theorem g9Park_state {w : World} {b : Nat} {s r x : Value} {z : Zt} (h : RL w b s r x z) (hb0 : b ≤ w.heap.size) (hz : ZK z) {i : Nat} (hi : i < z.S.length) {t : Sp} (ht : SpOk t) (hs : z.S.getD i 0 ≠ 1) : Calls Tryd.prog 35 #[rlv s r x, .int .i64 ((i : Nat) : Int), .agg #[.int .i64 t.1, .int .i64 t.2]] w (RAns w b z 8) := by
  obtain ⟨sa, sn, sc, ra, rn, rc, xa, xn, xc, rfl, rfl, rfl⟩ := rl_form h
  obtain ⟨t1, t2⟩ := t
  obtain ⟨W, hW⟩ : ∃ W, ((w.alloc (.cells #[.slice sa sn sc, .slice ra rn rc, .slice xa xn xc] 33)).alloc (.cells #[.int .i64 t1, .int .i64 t2] 38)).alloc (.cells #[.slice none 0 0, .slice none 0 0, .slice none 0 0] 33) = W := ⟨_, rfl⟩
  have HWB : Hid (Below w.heap.size w W) := Lib.hid (by rw [← hW]; exact ((((Grn.refl w).alloc _).alloc _).alloc _).below)
  have HX : Hid (W.heap[w.heap.size]? = some (.cells #[.slice sa sn sc, .slice ra rn rc, .slice xa xn xc] 33 (0, 0))) := Lib.hid (by rw [← hW]; exact ((below_alloc _ _).block _ (by simp; omega)).trans (((below_alloc _ _).block _ (by simp)).trans (block_new _ _ _ rfl)))
  have HY : Hid (W.heap[w.heap.size + 1]? = some (.cells #[.int .i64 t1, .int .i64 t2] 38 (0, 0))) := Lib.hid (by rw [← hW]; exact ((below_alloc _ _).block _ (by simp)).trans (block_new _ _ _ (by simp)))
  have HO : Hid (W.heap[w.heap.size + 2]? = some (.cells #[.slice none 0 0, .slice none 0 0, .slice none 0 0] 33 (0, 0))) := Lib.hid (by rw [← hW]; exact block_new _ _ _ (by simp))
  have HR := Lib.hid (h.below HWB.out)
  have HB0 : Hid (b ≤ w.heap.size) := Lib.hid hb0
  have hu := Lib.hid (g8State HR.out.s HR.out.r hz.n2 ((i : Nat) : Int))
  rw [stC_at hi] at hu
  have hsp := Lib.hid (fun W => g9Spot_yes W ht)
  simp only at hsp ⊢
  generalize z.S.getD i 0 = c at hu hs
  have hs2 : (c != 1) = true := by simpa using hs
  clear hz hi ht hs
  have HW := Lib.hid hW
  clear h hW hb0
  unfold rlv
  unfold rk at hu
  go_enter Tryd.func35, Tryd.ntmps35
  go_wp2_with fail
  rw [HW.out]
  clear HW
  generalize hzz : w.heap.size = zz at *
  have HZZ := Lib.hid hzz
  clear hzz
  have x0 : W.cell? ⟨zz, 0, none⟩ = some (.slice sa sn sc) := cells_cell HX.out rfl
  have x1 : W.cell? ⟨zz, 1, none⟩ = some (.slice ra rn rc) := cells_cell HX.out rfl
  have x2 : W.cell? ⟨zz, 2, none⟩ = some (.slice xa xn xc) := cells_cell HX.out rfl
  have xl := lt_of_block HX.out
  have y0 : W.cell? ⟨zz + 1, 0, none⟩ = some (.int .i64 t1) := cells_cell HY.out rfl
  have y1 : W.cell? ⟨zz + 1, 1, none⟩ = some (.int .i64 t2) := cells_cell HY.out rfl
  have yl := lt_of_block HY.out
  go_wp2_with (go_at_call 39; fail)
  refine hu.out.mono ?_
  rintro e w1 ⟨rfl, hg⟩
  clear x0 x1 x2 xl y0 y1 yl
  clear hu
  replace HX := Lib.hid ((hg.below.block _ (lt_of_block HX.out)).trans HX.out)
  replace HY := Lib.hid ((hg.below.block _ (lt_of_block HY.out)).trans HY.out)
  replace HO := Lib.hid ((hg.below.block _ (lt_of_block HO.out)).trans HO.out)
  replace HR := Lib.hid (HR.out.below hg.below)
  replace HWB := Lib.hid (HWB.out.trans (hg.below.mono (by have h1 := HWB.out.size; have h2 := HZZ.out; omega)))
  have y0 : w1.cell? ⟨zz + 1, 0, none⟩ = some (.int .i64 t1) := cells_cell HY.out rfl
  have y1 : w1.cell? ⟨zz + 1, 1, none⟩ = some (.int .i64 t2) := cells_cell HY.out rfl
  have yl := lt_of_block HY.out
  go_wp2_with (go_at_call 27; fail)
  refine (hsp.out w1).mono ?_
  rintro e w2 ⟨rfl, hg2⟩
  clear y0 y1 yl
  clear hsp
  replace HX := Lib.hid ((hg2.below.block _ (lt_of_block HX.out)).trans HX.out)
  replace HY := Lib.hid ((hg2.below.block _ (lt_of_block HY.out)).trans HY.out)
  replace HO := Lib.hid ((hg2.below.block _ (lt_of_block HO.out)).trans HO.out)
  replace HR := Lib.hid (HR.out.below hg2.below)
  replace HWB := Lib.hid (HWB.out.trans (hg2.below.mono (by have h1 := HWB.out.size; have h2 := HZZ.out; omega)))
  have x0 : w2.cell? ⟨zz, 0, none⟩ = some (.slice sa sn sc) := cells_cell HX.out rfl
  have x1 : w2.cell? ⟨zz, 1, none⟩ = some (.slice ra rn rc) := cells_cell HX.out rfl
  have x2 : w2.cell? ⟨zz, 2, none⟩ = some (.slice xa xn xc) := cells_cell HX.out rfl
  have xl := lt_of_block HX.out
  have o0 : w2.cell? ⟨zz + 2, 0, none⟩ = some (.slice none 0 0) := cells_cell HO.out rfl
  have o1 : w2.cell? ⟨zz + 2, 1, none⟩ = some (.slice none 0 0) := cells_cell HO.out rfl
  have o2 : w2.cell? ⟨zz + 2, 2, none⟩ = some (.slice none 0 0) := cells_cell HO.out rfl
  have f0 := cells_free HO.out 0
  have f1 := cells_free HO.out 1
  have f2 := cells_free HO.out 2
  have ol := lt_of_block HO.out
  have hf := ((fr_setCell w2 ⟨zz + 2, 0, none⟩ (.slice sa sn sc)).trans' (fr_setCell _ ⟨zz + 2, 1, none⟩ (.slice ra rn rc))).trans' (fr_setCell _ ⟨zz + 2, 2, none⟩ (.slice xa xn xc))
  have HY4 := Lib.hid (cells_set (cells_set (cells_set HO.out 0 (.slice sa sn sc)) 1 (.slice ra rn rc)) 2 (.slice xa xn xc))
  have HB5 := Lib.hid (HWB.out.trans (hf.below (B := zz) (fun x hx => by simp at hx; omega) (by have h1 := HWB.out.size; have h2 := HZZ.out; omega)))
  have HR5 := Lib.hid (HR.out.fr hf (fun k hk => by simp at hk; subst hk; exact ⟨_, _, HO.out, by decide, by decide⟩))
  clear hf
  go_wp2_with fail
  have hy2 := HY4.out
  simp at hy2
  refine bodyPost_ret (v := .tuple #[.agg #[.slice sa sn sc, .slice ra rn rc, .slice xa xn xc], .int .i64 8]) (by simp [results, Tryd.results35, go_sem, cells_cell (o := 0) hy2 rfl, cells_cell (o := 1) hy2 rfl, cells_cell (o := 2) hy2 rfl]) rfl ?_
  exact ⟨_, _, _, rfl, HR5.out, by first | exact HB5.out | (rw [HZZ.out]; exact HB5.out)⟩

set_option maxRecDepth 100000 in
set_option maxHeartbeats 3200000 in
theorem g9Park_ok {w : World} {b : Nat} {s r x : Value} {z : Zt} (h : RL w b s r x z) (hb0 : b ≤ w.heap.size) (hz : ZK z) {i : Nat} (hi : i < z.S.length) {t : Sp} (ht : SpOk t) (hs : z.S.getD i 0 = 1) : Calls Tryd.prog 35 #[rlv s r x, .int .i64 ((i : Nat) : Int), .agg #[.int .i64 t.1, .int .i64 t.2]] w (RAns w b (z.park i t) 0) := by
  obtain ⟨sa, sn, sc, ra, rn, rc, xa, xn, xc, rfl, rfl, rfl⟩ := rl_form h
  obtain ⟨t1, t2⟩ := t
  obtain ⟨W, hW⟩ : ∃ W, ((w.alloc (.cells #[.slice sa sn sc, .slice ra rn rc, .slice xa xn xc] 33)).alloc (.cells #[.int .i64 t1, .int .i64 t2] 38)).alloc (.cells #[.slice none 0 0, .slice none 0 0, .slice none 0 0] 33) = W := ⟨_, rfl⟩
  have HWB : Hid (Below w.heap.size w W) := Lib.hid (by rw [← hW]; exact ((((Grn.refl w).alloc _).alloc _).alloc _).below)
  have HX : Hid (W.heap[w.heap.size]? = some (.cells #[.slice sa sn sc, .slice ra rn rc, .slice xa xn xc] 33 (0, 0))) := Lib.hid (by rw [← hW]; exact ((below_alloc _ _).block _ (by simp; omega)).trans (((below_alloc _ _).block _ (by simp)).trans (block_new _ _ _ rfl)))
  have HY : Hid (W.heap[w.heap.size + 1]? = some (.cells #[.int .i64 t1, .int .i64 t2] 38 (0, 0))) := Lib.hid (by rw [← hW]; exact ((below_alloc _ _).block _ (by simp)).trans (block_new _ _ _ (by simp)))
  have HO : Hid (W.heap[w.heap.size + 2]? = some (.cells #[.slice none 0 0, .slice none 0 0, .slice none 0 0] 33 (0, 0))) := Lib.hid (by rw [← hW]; exact block_new _ _ _ (by simp))
  have HR := Lib.hid (h.below HWB.out)
  have HB0 : Hid (b ≤ w.heap.size) := Lib.hid hb0
  have hu := Lib.hid (g8State HR.out.s HR.out.r hz.n2 ((i : Nat) : Int))
  rw [stC_at hi, hs] at hu
  have hsp := Lib.hid (fun W => g9Spot_yes W ht)
  have hpk : Hid (∀ {W : World} {s r x : Value}, b ≤ W.heap.size → RL W b s r x z → Calls Tryd.prog 65 #[rk s r, .int .i64 ((i : Nat) : Int)] W (RefAns W b (z.S.set i 2) (woR ((i : Nat) : Int) z.R) 0)) := Lib.hid (fun hb h => by
    have := g8Park hb h.s h.r hz.n2 hz.r ((i : Nat) : Int)
    have e : chC 1 2 z ((i : Nat) : Int) = (0, z.step i 2) := by unfold chC; rw [numI_at hi]; simp only; rw [if_pos hs]
    rw [e] at this
    simpa [Zt.step] using this)
  have HL : Hid (z.L.length ≤ 64) := Lib.hid hz.l
  simp only at hsp ⊢
  clear hz hi ht hs
  have HW := Lib.hid hW
  clear h hW hb0
  unfold rlv
  unfold rk at hu
  go_enter Tryd.func35, Tryd.ntmps35
  go_wp2_with fail
  rw [HW.out]
  clear HW
  generalize hzz : w.heap.size = zz at *
  have HZZ := Lib.hid hzz
  clear hzz
  have x0 : W.cell? ⟨zz, 0, none⟩ = some (.slice sa sn sc) := cells_cell HX.out rfl
  have x1 : W.cell? ⟨zz, 1, none⟩ = some (.slice ra rn rc) := cells_cell HX.out rfl
  have x2 : W.cell? ⟨zz, 2, none⟩ = some (.slice xa xn xc) := cells_cell HX.out rfl
  have xl := lt_of_block HX.out
  have y0 : W.cell? ⟨zz + 1, 0, none⟩ = some (.int .i64 t1) := cells_cell HY.out rfl
  have y1 : W.cell? ⟨zz + 1, 1, none⟩ = some (.int .i64 t2) := cells_cell HY.out rfl
  have yl := lt_of_block HY.out
  go_wp2_with (go_at_call 39; fail)
  refine hu.out.mono ?_
  rintro e w1 ⟨rfl, hg⟩
  clear x0 x1 x2 xl y0 y1 yl
  clear hu
  replace HX := Lib.hid ((hg.below.block _ (lt_of_block HX.out)).trans HX.out)
  replace HY := Lib.hid ((hg.below.block _ (lt_of_block HY.out)).trans HY.out)
  replace HO := Lib.hid ((hg.below.block _ (lt_of_block HO.out)).trans HO.out)
  replace HR := Lib.hid (HR.out.below hg.below)
  replace HWB := Lib.hid (HWB.out.trans (hg.below.mono (by have h1 := HWB.out.size; have h2 := HZZ.out; omega)))
  have y0 : w1.cell? ⟨zz + 1, 0, none⟩ = some (.int .i64 t1) := cells_cell HY.out rfl
  have y1 : w1.cell? ⟨zz + 1, 1, none⟩ = some (.int .i64 t2) := cells_cell HY.out rfl
  have yl := lt_of_block HY.out
  go_wp2_with (go_at_call 27; fail)
  refine (hsp.out w1).mono ?_
  rintro e w2 ⟨rfl, hg2⟩
  clear y0 y1 yl
  clear hsp
  replace HX := Lib.hid ((hg2.below.block _ (lt_of_block HX.out)).trans HX.out)
  replace HY := Lib.hid ((hg2.below.block _ (lt_of_block HY.out)).trans HY.out)
  replace HO := Lib.hid ((hg2.below.block _ (lt_of_block HO.out)).trans HO.out)
  replace HR := Lib.hid (HR.out.below hg2.below)
  replace HWB := Lib.hid (HWB.out.trans (hg2.below.mono (by have h1 := HWB.out.size; have h2 := HZZ.out; omega)))
  have x0 : w2.cell? ⟨zz, 0, none⟩ = some (.slice sa sn sc) := cells_cell HX.out rfl
  have x1 : w2.cell? ⟨zz, 1, none⟩ = some (.slice ra rn rc) := cells_cell HX.out rfl
  have x2 : w2.cell? ⟨zz, 2, none⟩ = some (.slice xa xn xc) := cells_cell HX.out rfl
  have xl := lt_of_block HX.out
  go_wp2_with (go_at_call 65; fail)
  refine (hpk.out (by have h1 := HWB.out.size; have h2 := HZZ.out; have h3 := HB0.out; omega) HR.out).mono ?_
  rintro e w3 ⟨s', r', rfl, a1, a2, a3⟩
  obtain ⟨ua, un, uc, rfl⟩ := row_form a1
  obtain ⟨va, vn, vc, rfl⟩ := row_form a2
  unfold rk
  clear x0 x1 x2 xl
  have HWB0 := Lib.hid (lt_of_block HO.out)
  replace HX := Lib.hid ((a3.block _ (lt_of_block HX.out)).trans HX.out)
  replace HY := Lib.hid ((a3.block _ (lt_of_block HY.out)).trans HY.out)
  replace HO := Lib.hid ((a3.block _ (lt_of_block HO.out)).trans HO.out)
  replace HR := Lib.hid (HR.out.below a3)
  replace HWB := Lib.hid (HWB.out.trans (a3.mono (by have h1 := HWB.out.size; have h2 := HZZ.out; omega)))
  clear hpk
  have hb3 := below_alloc w3 (.cells #[.slice ua un uc, .slice va vn vc] 30)
  have HK := Lib.hid (block_new w3 (.cells #[.slice ua un uc, .slice va vn vc] 30) _ rfl)
  have HA := Lib.hid (And.intro (a1.below hb3) (a2.below hb3))
  replace HX := Lib.hid ((hb3.block _ (lt_of_block HX.out)).trans HX.out)
  replace HY := Lib.hid ((hb3.block _ (lt_of_block HY.out)).trans HY.out)
  replace HO := Lib.hid ((hb3.block _ (lt_of_block HO.out)).trans HO.out)
  replace HR := Lib.hid (HR.out.below hb3)
  replace HWB := Lib.hid (HWB.out.trans (hb3.mono (by have h1 := HWB.out.size; have h2 := HZZ.out; omega)))
  have HKL : Hid (zz + 2 < w3.heap.size) := Lib.hid (by
    have h1 := a3.size
    have h2 : zz + 2 < (World.heap w3).size := by
      rcases Nat.lt_or_ge (zz + 2) w3.heap.size with h | h
      · exact h
      · exfalso
        have h3 := HWB0.out
        omega
    exact h2)
  clear a1 a2 a3 hb3
  go_wp2_with fail
  generalize hkk : w3.heap.size = kk at *
  generalize hW3 : w3.alloc (.cells #[.slice ua un uc, .slice va vn vc] 30) = W3 at *
  clear hW3
  obtain ⟨S, hS⟩ : ∃ S : World → Prop, S = (fun W' : World => W'.heap[zz]? = some (.cells #[.slice sa sn sc, .slice ra rn rc, .slice xa xn xc] 33 (0, 0)) ∧ W'.heap[zz + 1]? = some (.cells #[.int .i64 t1, .int .i64 t2] 38 (0, 0)) ∧ W'.heap[kk]? = some (.cells #[.slice ua un uc, .slice va vn vc] 30 (0, 0))) := ⟨_, rfl⟩
  have hld : ∀ W', S W' → W'.cell? ⟨zz, 2, none⟩ = some (.slice xa xn xc) ∧ W'.cell? ⟨zz + 1, 0, none⟩ = some (.int .i64 t1) ∧ W'.cell? ⟨zz + 1, 1, none⟩ = some (.int .i64 t2) ∧ W'.cell? ⟨kk, 0, none⟩ = some (.slice ua un uc) ∧ W'.cell? ⟨kk, 1, none⟩ = some (.slice va vn vc) := fun W' h => by
    rw [hS] at h
    exact ⟨cells_cell h.1 rfl, cells_cell h.2.1 rfl, cells_cell h.2.1 rfl, cells_cell h.2.2 rfl, cells_cell h.2.2 rfl⟩
  have hSb : ∀ W', Below W3.heap.size W3 W' → S W' := fun W' hb => by
    rw [hS]
    exact ⟨(hb.block _ (lt_of_block HX.out)).trans HX.out, (hb.block _ (lt_of_block HY.out)).trans HY.out, (hb.block _ (lt_of_block HK.out)).trans HK.out⟩
  have hLL := HR.out.l
  have HSRC := Lib.hid (hLL.src TSe_ok)
  clear hLL
  have hbd : Below W3.heap.size W3 W3.drew := (Below.refl _ _).drew
  have hsD : W3.drew.heap.size = W3.heap.size := rfl
  refine wp_region_float3 S 11 [0, 1, 2, 4, 5, 6] 3 7 [8, 9, 10] [] (by kernel_rfl) (by kernel_rfl) (fun _ _ _ d _ h => by cases d <;> exact h) (hSb _ hbd) _ (fun a' w' h' => h') ?_
  simp only [List.map_cons, List.map_nil, List.getD_cons_zero, List.getD_cons_succ, List.drop_succ_cons, List.drop_zero]
  refine takes_by (.agg #[.slice ua un uc, .slice va vn vc]) rfl (fun W' hS => by obtain ⟨l0, l1, l2, l3, l4⟩ := hld W' hS; go_simp) ?_
  simp only [Act.put, List.setIfInBounds_toArray, List.set_cons_zero, List.set_cons_succ]
  refine takes_by (.pointer (some ⟨zz, 2, none⟩)) rfl (fun W' hS => by go_simp) ?_
  simp only [Act.put, List.setIfInBounds_toArray, List.set_cons_zero, List.set_cons_succ]
  refine takes_by (.slice xa xn xc) rfl (fun W' hS => by obtain ⟨l0, l1, l2, l3, l4⟩ := hld W' hS; go_simp) ?_
  simp only [Act.put, List.setIfInBounds_toArray, List.set_cons_zero, List.set_cons_succ]
  refine takes_move (.tmp 1) (.int .i64 ((i : Nat) : Int)) rfl rfl rfl ?_
  simp only [Act.put, List.setIfInBounds_toArray, List.set_cons_zero, List.set_cons_succ]
  refine takes_by (.agg #[.int .i64 t1, .int .i64 t2]) rfl (fun W' hS => by obtain ⟨l0, l1, l2, l3, l4⟩ := hld W' hS; go_simp) ?_
  simp only [Act.put, List.setIfInBounds_toArray, List.set_cons_zero, List.set_cons_succ]
  refine takes_by (.agg #[.int .i64 ((i : Nat) : Int), .int .i64 t1, .int .i64 t2]) rfl (fun W' hS => by go_simp) ?_
  simp only [Act.put, List.setIfInBounds_toArray, List.set_cons_zero, List.set_cons_succ]
  unfold wpTakes
  refine And.intro ?_ ?_
  focus
    refine mids_step rfl (fun K hK => ?_)
    refine wp_append_g TSe_ok (v := .slice none 0 0) (.const (.slice none 0 0)) (.tmp 39) rfl rfl rfl (Row.nil W3.drew W3.heap.size) (by rw [hsD]; exact Nat.le_refl _) (HSRC.out.grown hbd) (by have := HL.out; simp; omega) ?_
    intro v1 w4 ho1 hf1 hn1
    have hB1 : Below W3.heap.size W3 w4 := hbd.trans (hf1.below (fun x hx => by simp [Value.ownBlock] at hx) (by rw [hsD]; exact Nat.le_refl _))
    rw [List.nil_append] at ho1
    refine hK _ _ (hSb _ hB1) ?_
    clear hK
    simp only [Act.put, List.setIfInBounds_toArray, List.set_cons_zero, List.set_cons_succ]
    refine mids_step rfl (fun K hK => ?_)
    go_simp
    have hba := below_alloc w4 (.cells #[.int .i64 ((i : Nat) : Int), .int .i64 t1, .int .i64 t2] 90)
    have HO3 := Lib.hid (ho1.below hba)
    have HS3 : Hid (Src TSe (w4.alloc (.cells #[.int .i64 ((i : Nat) : Int), .int .i64 t1, .int .i64 t2] 90)) (.slice (some ⟨w4.heap.size, 0, none⟩) 1 1) [(i, (t1, t2))]) := Lib.hid (src_new TSe_ok w4 (i, (t1, t2)) #[.int .i64 ((i : Nat) : Int), .int .i64 t1, .int .i64 t2] rfl)
    have HB3 := Lib.hid (hB1.trans (hba.mono hB1.size))
    refine hK _ _ (hSb _ HB3.out) ?_
    clear hK hB1 ho1 hf1 hn1 hba
    generalize w4.alloc (.cells #[.int .i64 ((i : Nat) : Int), .int .i64 t1, .int .i64 t2] 90) = W5 at *
    generalize w4.heap.size = Bk at *
  rotate_left
  focus
    refine mids_step rfl (fun K hK => ?_)
    go_simp
    have hba := below_alloc W3.drew (.cells #[.int .i64 ((i : Nat) : Int), .int .i64 t1, .int .i64 t2] 90)
    have hB1 : Below W3.heap.size W3 (W3.alloc (.cells #[.int .i64 ((i : Nat) : Int), .int .i64 t1, .int .i64 t2] 90)).drew := hbd.trans (hba.mono (Nat.le_refl _))
    refine hK _ _ (hSb _ hB1) ?_
    clear hK
    have hsr : Src TSe (W3.alloc (.cells #[.int .i64 ((i : Nat) : Int), .int .i64 t1, .int .i64 t2] 90)).drew (.slice (some ⟨W3.heap.size, 0, none⟩) 1 1) [(i, (t1, t2))] := src_new TSe_ok W3.drew (i, (t1, t2)) #[.int .i64 ((i : Nat) : Int), .int .i64 t1, .int .i64 t2] rfl
    refine mids_step rfl (fun K hK => ?_)
    refine wp_append_g TSe_ok (v := .slice none 0 0) (.const (.slice none 0 0)) (.tmp 39) rfl rfl rfl (Row.nil _ W3.heap.size) hB1.size (HSRC.out.grown hB1) (by have := HL.out; simp; omega) ?_
    intro v1 w1 ho1 hf1 hn1
    have hb2 : Below (W3.alloc (.cells #[.int .i64 ((i : Nat) : Int), .int .i64 t1, .int .i64 t2] 90)).drew.heap.size (W3.alloc (.cells #[.int .i64 ((i : Nat) : Int), .int .i64 t1, .int .i64 t2] 90)).drew w1 := hf1.below (fun x hx => by simp [Value.ownBlock] at hx) (Nat.le_refl _)
    rw [List.nil_append] at ho1
    have HO3 := Lib.hid ho1
    have HS3 := Lib.hid (hsr.grown hb2)
    have HB3 := Lib.hid (hB1.trans (hb2.mono hB1.size))
    refine hK _ _ (hSb _ HB3.out) ?_
    clear hK hB1 ho1 hf1 hn1 hb2 hba hsr
    generalize W3.heap.size = Bk at HS3
    generalize w1 = W5 at *
  all_goals
    refine mids_step rfl (fun K hK => ?_)
    refine wp_append_g TSe_ok (v := v1) (.tmp 40) (.tmp 44) rfl rfl rfl HO3.out HB3.out.size HS3.out (by have := HL.out; simp; omega) ?_
    intro v2 w4 ho4 hf4 hn4
    have hB4 : Below W3.heap.size W3 w4 := HB3.out.trans (hf4.below (fun x hx => (Row.lt HO3.out x (by simpa using hx)).1) HB3.out.size)
    obtain ⟨da, dn, dc, rfl⟩ := row_form ho4
    have HO4 := Lib.hid ho4
    have HB4 := Lib.hid hB4
    refine hK _ _ (hSb _ hB4) ?_
    clear hK ho4 hf4 hn4
    simp only [Act.put, List.setIfInBounds_toArray, List.set_cons_zero, List.set_cons_succ]
    refine mids_by (.agg #[.slice ua un uc, .slice va vn vc, .slice da dn dc]) rfl (by go_simp) (hSb _ hB4) ?_
    simp only [Act.put, List.setIfInBounds_toArray, List.set_cons_zero, List.set_cons_succ]
    have hcc := (hB4.block (zz + 2) (lt_of_block HO.out)).trans HO.out
    have o0 : w4.cell? ⟨zz + 2, 0, none⟩ = some (.slice none 0 0) := cells_cell hcc rfl
    have o1 : w4.cell? ⟨zz + 2, 1, none⟩ = some (.slice none 0 0) := cells_cell hcc rfl
    have o2 : w4.cell? ⟨zz + 2, 2, none⟩ = some (.slice none 0 0) := cells_cell hcc rfl
    have f0 := cells_free hcc 0
    have f1 := cells_free hcc 1
    have f2 := cells_free hcc 2
    have ol := lt_of_block hcc
    have hf := ((fr_setCell w4 ⟨zz + 2, 0, none⟩ (.slice ua un uc)).trans' (fr_setCell _ ⟨zz + 2, 1, none⟩ (.slice va vn vc))).trans' (fr_setCell _ ⟨zz + 2, 2, none⟩ (.slice da dn dc))
    have HY4 := Lib.hid (cells_set (cells_set (cells_set hcc 0 (.slice ua un uc)) 1 (.slice va vn vc)) 2 (.slice da dn dc))
    have hs4 := hSb _ hB4
    rw [hS] at hs4
    have HS6 : Hid (S (((w4.setCell ⟨zz + 2, 0, none⟩ (.slice ua un uc)).setCell ⟨zz + 2, 1, none⟩ (.slice va vn vc)).setCell ⟨zz + 2, 2, none⟩ (.slice da dn dc))) := Lib.hid (by
      rw [hS]
      exact ⟨hf.same hs4.1 (by simp), hf.same hs4.2.1 (by simp), hf.same hs4.2.2 (by have := HKL.out; simp; omega)⟩)
    have HW4 := Lib.hid (HWB.out.trans (hB4.mono (by have h1 := HWB.out.size; have h2 := HZZ.out; omega)))
    have HB5 := Lib.hid (HW4.out.trans (hf.below (B := zz) (fun x hx => by simp at hx; omega) (by have h1 := HW4.out.size; have h2 := HZZ.out; omega)))
    have hrl : RL w4 b (.slice ua un uc) (.slice va vn vc) (.slice da dn dc) (z.park i (t1, t2)) := ⟨HA.out.1.below hB4, HA.out.2.below hB4, HO4.out.lower (by have h1 := HWB.out.size; have h2 := HZZ.out; have h3 := HB0.out; omega)⟩
    have HR5 := Lib.hid (hrl.fr hf (fun k hk => by simp at hk; subst hk; exact ⟨_, _, hcc, by decide, by decide⟩))
    clear hf hrl hB4 hcc hs4
    refine mids_step rfl (fun K hK => ?_)
    go_simp
    refine hK _ _ HS6.out ?_
    clear hK o0 o1 o2 f0 f1 f2 ol
    unfold wpMids
    refine ⟨HS6.out, ?_⟩
    unfold wpTakes
    go_wp2_with fail
    have hy2 := HY4.out
    simp at hy2
    refine bodyPost_ret (v := .tuple #[.agg #[.slice ua un uc, .slice va vn vc, .slice da dn dc], .int .i64 0]) (by simp [results, Tryd.results35, go_sem, cells_cell (o := 0) hy2 rfl, cells_cell (o := 1) hy2 rfl, cells_cell (o := 2) hy2 rfl]) rfl ?_
    exact ⟨_, _, _, rfl, HR5.out, by first | exact HB5.out | (rw [HZZ.out]; exact HB5.out)⟩
theorem g9Park_any {w : World} {b : Nat} {s r x : Value} {z : Zt} (h : RL w b s r x z) (hb0 : b ≤ w.heap.size) (hz : ZK z) (N : Int) (t : Sp) : Calls Tryd.prog 35 #[rlv s r x, .int .i64 N, .agg #[.int .i64 t.1, .int .i64 t.2]] w (RAns w b (pkC z N t).2 (pkC z N t).1) := by
  unfold pkC
  rcases numI_or z N with ⟨e, _⟩ | ⟨i, rfl, hi, e⟩
  · rw [e]; exact g9Park_num h hb0 hz e t
  · rw [e]
    simp only
    by_cases ht : SpOk t
    · rw [if_pos ht]
      by_cases hs : z.S.getD i 0 = 1
      · rw [if_pos hs]; exact g9Park_ok h hb0 hz hi ht hs
      · rw [if_neg hs]; exact g9Park_state h hb0 hz hi ht hs
    · rw [if_neg ht]; exact g9Park_spot h hb0 hz hi ht
end Go.Proofs.YtcdimopiaanfbaaDoor
/- The reference: Leave. -/
namespace Go.Proofs.YtcdimopiaanfbaaDoor
open Go.RowKit Go.Sort
set_option linter.unusedVariables false
set_option linter.unusedSimpArgs false

theorem woL_next {i : Nat} {L : Seats} {k : Nat} (hk : k < L.length) : woL i (L.take (k + 1)) = woL i (L.take k) ++ if L[k].1 = i then [] else [L[k]] := by
  unfold woL
  rw [List.take_succ_eq_append_getElem hk, List.filter_append]
  congr 1
  by_cases h : L[k].1 = i
  · rw [if_pos h]; simp [h]
  · rw [if_neg h]; simp [h]
/-- What Leave of the reference returns. -/
def LAns (w : World) (b : Nat) (s : Sp) (code : Int) (z : Zt) (e : Ending) (w' : World) : Prop :=
  ∃ v r x, e = .returned (.tuple #[rlv v r x, .agg #[.int .i64 s.1, .int .i64 s.2], .int .i64 code]) ∧ RL w' b v r x z ∧ Below w.heap.size w w'
section
variable {w : World} {b : Nat} {s r x : Value} {z : Zt}
set_option maxRecDepth 100000 in
set_option maxHeartbeats 3200000 in
theorem g9Leave_err (h : RL w b s r x z) (hb0 : b ≤ w.heap.size) (hz : ZK z) {N : Int} (hc : (whC z N).2 ≠ 0) : Calls Tryd.prog 38 #[rlv s r x, .int .i64 N] w (LAns w b (0, 0) (whC z N).2 z) := by
  obtain ⟨sa, sn, sc, ra, rn, rc, xa, xn, xc, rfl, rfl, rfl⟩ := rl_form h
  obtain ⟨W, hW⟩ : ∃ W, ((w.alloc (.cells #[.slice sa sn sc, .slice ra rn rc, .slice xa xn xc] 33)).alloc (.cells #[.slice none 0 0, .slice none 0 0, .slice none 0 0] 33)).alloc (.cells #[.int .i64 0, .int .i64 0] 38) = W := ⟨_, rfl⟩
  have HWB : Hid (Below w.heap.size w W) := Lib.hid (by rw [← hW]; exact ((((Grn.refl w).alloc _).alloc _).alloc _).below)
  have HX : Hid (W.heap[w.heap.size]? = some (.cells #[.slice sa sn sc, .slice ra rn rc, .slice xa xn xc] 33 (0, 0))) := Lib.hid (by rw [← hW]; exact ((below_alloc _ _).block _ (by simp; omega)).trans (((below_alloc _ _).block _ (by simp)).trans (block_new _ _ _ rfl)))
  have HO : Hid (W.heap[w.heap.size + 1]? = some (.cells #[.slice none 0 0, .slice none 0 0, .slice none 0 0] 33 (0, 0))) := Lib.hid (by rw [← hW]; exact ((below_alloc _ _).block _ (by simp)).trans (block_new _ _ _ (by simp)))
  have HP : Hid (W.heap[w.heap.size + 2]? = some (.cells #[.int .i64 0, .int .i64 0] 38 (0, 0))) := Lib.hid (by rw [← hW]; exact block_new _ _ _ (by simp))
  have HR := Lib.hid (h.below HWB.out)
  have HB0 : Hid (b ≤ w.heap.size) := Lib.hid hb0
  have hu := Lib.hid (g9Where_any HR.out hz N)
  have hc2 : ((whC z N).2 != 0) = true := by simpa using hc
  generalize (whC z N).1.1 = q1 at *
  generalize (whC z N).1.2 = q2 at *
  generalize (whC z N).2 = c at *
  clear hz hc
  have HW := Lib.hid hW
  clear h hW hb0
  unfold rlv
  unfold rlv at hu
  go_enter Tryd.func38, Tryd.ntmps38
  go_wp2_with fail
  rw [HW.out]
  clear HW
  generalize hzz : w.heap.size = zz at *
  have HZZ := Lib.hid hzz
  clear hzz
  have x0 : W.cell? ⟨zz, 0, none⟩ = some (.slice sa sn sc) := cells_cell HX.out rfl
  have x1 : W.cell? ⟨zz, 1, none⟩ = some (.slice ra rn rc) := cells_cell HX.out rfl
  have x2 : W.cell? ⟨zz, 2, none⟩ = some (.slice xa xn xc) := cells_cell HX.out rfl
  have xl := lt_of_block HX.out
  go_wp2_with (go_at_call 40; fail)
  refine hu.out.mono ?_
  rintro e w1 ⟨rfl, hg⟩
  clear x0 x1 x2 xl hu
  replace HX := Lib.hid ((hg.block _ (lt_of_block HX.out)).trans HX.out)
  replace HO := Lib.hid ((hg.block _ (lt_of_block HO.out)).trans HO.out)
  replace HP := Lib.hid ((hg.block _ (lt_of_block HP.out)).trans HP.out)
  replace HR := Lib.hid (HR.out.below hg)
  replace HWB := Lib.hid (HWB.out.trans (hg.mono (by have h1 := HWB.out.size; have h2 := HZZ.out; omega)))
  have x0 : w1.cell? ⟨zz, 0, none⟩ = some (.slice sa sn sc) := cells_cell HX.out rfl
  have x1 : w1.cell? ⟨zz, 1, none⟩ = some (.slice ra rn rc) := cells_cell HX.out rfl
  have x2 : w1.cell? ⟨zz, 2, none⟩ = some (.slice xa xn xc) := cells_cell HX.out rfl
  have xl := lt_of_block HX.out
  have o0 : w1.cell? ⟨zz + 1, 0, none⟩ = some (.slice none 0 0) := cells_cell HO.out rfl
  have o1 : w1.cell? ⟨zz + 1, 1, none⟩ = some (.slice none 0 0) := cells_cell HO.out rfl
  have o2 : w1.cell? ⟨zz + 1, 2, none⟩ = some (.slice none 0 0) := cells_cell HO.out rfl
  have f0 := cells_free HO.out 0
  have f1 := cells_free HO.out 1
  have f2 := cells_free HO.out 2
  have ol := lt_of_block HO.out
  have p0 : w1.cell? ⟨zz + 2, 0, none⟩ = some (.int .i64 0) := cells_cell HP.out rfl
  have p1 : w1.cell? ⟨zz + 2, 1, none⟩ = some (.int .i64 0) := cells_cell HP.out rfl
  have g0 := cells_free HP.out 0
  have g1 := cells_free HP.out 1
  have pl := lt_of_block HP.out
  have hfa := ((fr_setCell w1 ⟨zz + 1, 0, none⟩ (.slice sa sn sc)).trans' (fr_setCell _ ⟨zz + 1, 1, none⟩ (.slice ra rn rc))).trans' (fr_setCell _ ⟨zz + 1, 2, none⟩ (.slice xa xn xc))
  have hfb := (fr_setCell (((w1.setCell ⟨zz + 1, 0, none⟩ (.slice sa sn sc)).setCell ⟨zz + 1, 1, none⟩ (.slice ra rn rc)).setCell ⟨zz + 1, 2, none⟩ (.slice xa xn xc)) ⟨zz + 2, 0, none⟩ (.int .i64 0)).trans' (fr_setCell _ ⟨zz + 2, 1, none⟩ (.int .i64 0))
  have hf := (hfa.mono (G := [zz + 1, zz + 2]) (fun x hx => .inl (by simp at hx ⊢; omega))).trans' (hfb.mono (G := [zz + 1, zz + 2]) (fun x hx => .inl (by simp at hx ⊢; omega)))
  have HLB := Lib.hid (hfb.same (cells_set (cells_set (cells_set HO.out 0 (.slice sa sn sc)) 1 (.slice ra rn rc)) 2 (.slice xa xn xc)) (by simp))
  have HSB := Lib.hid (cells_set (cells_set (hfa.same HP.out (by simp)) 0 (.int .i64 0)) 1 (.int .i64 0))
  have hba := below_alloc (((((w1.setCell ⟨zz + 1, 0, none⟩ (.slice sa sn sc)).setCell ⟨zz + 1, 1, none⟩ (.slice ra rn rc)).setCell ⟨zz + 1, 2, none⟩ (.slice xa xn xc)).setCell ⟨zz + 2, 0, none⟩ (.int .i64 0)).setCell ⟨zz + 2, 1, none⟩ (.int .i64 0)) (.cells #[.int .i64 q1, .int .i64 q2] 38)
  have hb4 := HWB.out.trans (hf.below (B := zz) (fun x hx => by simp at hx; omega) (by have h1 := HWB.out.size; have h2 := HZZ.out; omega))
  have HB5 := Lib.hid (hb4.trans (hba.mono (by have h1 := hb4.size; have h2 := HZZ.out; omega)))
  have HR5 := Lib.hid ((HR.out.fr hf (fun k hk => by simp at hk; rcases hk with rfl | rfl; exact ⟨_, _, HO.out, by decide, by decide⟩; exact ⟨_, _, HP.out, by decide, by decide⟩)).below hba)
  replace HLB := Lib.hid ((hba.block _ (lt_of_block HLB.out)).trans HLB.out)
  replace HSB := Lib.hid ((hba.block _ (lt_of_block HSB.out)).trans HSB.out)
  clear hb4
  clear hf hfa hfb hba hg
  go_wp2_with fail
  have hy2 := HLB.out
  simp at hy2
  have hy3 := HSB.out
  simp at hy3
  refine bodyPost_ret (v := .tuple #[.agg #[.slice sa sn sc, .slice ra rn rc, .slice xa xn xc], .agg #[.int .i64 0, .int .i64 0], .int .i64 c]) (by simp [results, Tryd.results38, go_sem, cells_cell (o := 0) hy2 rfl, cells_cell (o := 1) hy2 rfl, cells_cell (o := 2) hy2 rfl, cells_cell (o := 0) hy3 rfl, cells_cell (o := 1) hy3 rfl]) rfl ?_
  exact ⟨_, _, _, rfl, HR5.out, by first | exact HB5.out | (rw [HZZ.out]; exact HB5.out)⟩

theorem whC_in (hz : ZK z) {i : Nat} {t : Sp} (hm : (i, t) ∈ z.L) : whC z ((i : Nat) : Int) = (t, 0) := by
  unfold whC
  rw [numI_at (hz.inS i (List.mem_map.2 ⟨_, hm, rfl⟩))]
  simp only [(seatOf_some hz.nd).2 hm]
theorem chC_wake (hz : ZK z) {i : Nat} {t : Sp} (hm : (i, t) ∈ z.L) : chC 2 1 z ((i : Nat) : Int) = (0, z.step i 1) := by
  have hi : i ∈ z.L.map Prod.fst := List.mem_map.2 ⟨_, hm, rfl⟩
  have hS := hz.inS i hi
  unfold chC
  rw [numI_at hS]
  simp only
  rw [if_pos]
  have := (hz.st i _ (List.getElem?_eq_getElem hS)).2 hi
  simpa [hS] using this
set_option maxRecDepth 100000 in
set_option maxHeartbeats 3200000 in
theorem g9Leave_ok (h : RL w b s r x z) (hb0 : b ≤ w.heap.size) (hz : ZK z) {i : Nat} {t : Sp} (hm : (i, t) ∈ z.L) : Calls Tryd.prog 38 #[rlv s r x, .int .i64 ((i : Nat) : Int)] w (LAns w b t 0 (z.leave i)) := by
  obtain ⟨sa, sn, sc, ra, rn, rc, xa, xn, xc, rfl, rfl, rfl⟩ := rl_form h
  obtain ⟨W, hW⟩ : ∃ W, ((w.alloc (.cells #[.slice sa sn sc, .slice ra rn rc, .slice xa xn xc] 33)).alloc (.cells #[.slice none 0 0, .slice none 0 0, .slice none 0 0] 33)).alloc (.cells #[.int .i64 0, .int .i64 0] 38) = W := ⟨_, rfl⟩
  have HWB : Hid (Below w.heap.size w W) := Lib.hid (by rw [← hW]; exact ((((Grn.refl w).alloc _).alloc _).alloc _).below)
  have HX : Hid (W.heap[w.heap.size]? = some (.cells #[.slice sa sn sc, .slice ra rn rc, .slice xa xn xc] 33 (0, 0))) := Lib.hid (by rw [← hW]; exact ((below_alloc _ _).block _ (by simp; omega)).trans (((below_alloc _ _).block _ (by simp)).trans (block_new _ _ _ rfl)))
  have HO : Hid (W.heap[w.heap.size + 1]? = some (.cells #[.slice none 0 0, .slice none 0 0, .slice none 0 0] 33 (0, 0))) := Lib.hid (by rw [← hW]; exact ((below_alloc _ _).block _ (by simp)).trans (block_new _ _ _ (by simp)))
  have HP : Hid (W.heap[w.heap.size + 2]? = some (.cells #[.int .i64 0, .int .i64 0] 38 (0, 0))) := Lib.hid (by rw [← hW]; exact block_new _ _ _ (by simp))
  have HR := Lib.hid (h.below HWB.out)
  have HB0 : Hid (b ≤ w.heap.size) := Lib.hid hb0
  have hu := Lib.hid (g9Where_any HR.out hz ((i : Nat) : Int))
  rw [whC_in hz hm] at hu
  have hwk : Hid (∀ {W : World} {s r x : Value}, b ≤ W.heap.size → RL W b s r x z → Calls Tryd.prog 66 #[rk s r, .int .i64 ((i : Nat) : Int)] W (RefAns W b (z.S.set i 1) (woR ((i : Nat) : Int) z.R ++ [((i : Nat) : Int)]) 0)) := Lib.hid (fun hb h => by
    have := g8Wake hb h.s h.r hz.n2 hz.r ((i : Nat) : Int)
    rw [chC_wake hz hm] at this
    simpa [Zt.step] using this)
  have HL : Hid (z.L.length ≤ 64) := Lib.hid hz.l
  have hml : xn = z.L.length := by obtain ⟨a, c, e, _, _⟩ := h.l.form; simp at e; exact e.2.1
  have hmI : ((xn : Nat) : Int) ≤ 1000 := by have := hz.l; omega
  have HM := Lib.hid hml
  obtain ⟨q1, q2⟩ := t
  simp only at hu
  clear hz hm hml
  have HW := Lib.hid hW
  clear h hW hb0
  unfold rlv
  unfold rlv at hu
  go_enter Tryd.func38, Tryd.ntmps38
  go_wp2_with fail
  rw [HW.out]
  clear HW
  generalize hzz : w.heap.size = zz at *
  have HZZ := Lib.hid hzz
  clear hzz
  have x0 : W.cell? ⟨zz, 0, none⟩ = some (.slice sa sn sc) := cells_cell HX.out rfl
  have x1 : W.cell? ⟨zz, 1, none⟩ = some (.slice ra rn rc) := cells_cell HX.out rfl
  have x2 : W.cell? ⟨zz, 2, none⟩ = some (.slice xa xn xc) := cells_cell HX.out rfl
  have xl := lt_of_block HX.out
  go_wp2_with (go_at_call 40; fail)
  refine hu.out.mono ?_
  rintro e w1 ⟨rfl, hg⟩
  clear x0 x1 x2 xl hu
  have HQ := Lib.hid (block_new w1 (.cells #[.int .i64 q1, .int .i64 q2] 38) _ rfl)
  have hba := below_alloc w1 (.cells #[.int .i64 q1, .int .i64 q2] 38)
  replace HX := Lib.hid ((hg.block _ (lt_of_block HX.out)).trans HX.out)
  replace HO := Lib.hid ((hg.block _ (lt_of_block HO.out)).trans HO.out)
  replace HP := Lib.hid ((hg.block _ (lt_of_block HP.out)).trans HP.out)
  replace HR := Lib.hid (HR.out.below hg)
  replace HWB := Lib.hid (HWB.out.trans (hg.mono (by have h1 := HWB.out.size; have h2 := HZZ.out; omega)))
  have HQL : Hid (zz + 2 < w1.heap.size) := Lib.hid (lt_of_block HP.out)
  have x0 : w1.cell? ⟨zz, 0, none⟩ = some (.slice sa sn sc) := cells_cell HX.out rfl
  have x1 : w1.cell? ⟨zz, 1, none⟩ = some (.slice ra rn rc) := cells_cell HX.out rfl
  have x2 : w1.cell? ⟨zz, 2, none⟩ = some (.slice xa xn xc) := cells_cell HX.out rfl
  have xl := lt_of_block HX.out
  replace HX := Lib.hid ((hba.block _ (lt_of_block HX.out)).trans HX.out)
  replace HO := Lib.hid ((hba.block _ (lt_of_block HO.out)).trans HO.out)
  replace HP := Lib.hid ((hba.block _ (lt_of_block HP.out)).trans HP.out)
  replace HR := Lib.hid (HR.out.below hba)
  replace HWB := Lib.hid (HWB.out.trans (hba.mono (by have h1 := HWB.out.size; have h2 := HZZ.out; omega)))
  go_wp2_with (go_at_call 66; fail)
  refine (hwk.out (by have h1 := HWB.out.size; have h2 := HZZ.out; have h3 := HB0.out; omega) HR.out).mono ?_
  rintro e w2 ⟨s', r', rfl, a1, a2, a3⟩
  clear x0 x1 x2 xl hwk hba hg
  obtain ⟨ua, un, uc, rfl⟩ := row_form a1
  obtain ⟨va, vn, vc, rfl⟩ := row_form a2
  unfold rk
  replace HX := Lib.hid ((a3.block _ (lt_of_block HX.out)).trans HX.out)
  replace HO := Lib.hid ((a3.block _ (lt_of_block HO.out)).trans HO.out)
  replace HP := Lib.hid ((a3.block _ (lt_of_block HP.out)).trans HP.out)
  replace HQ := Lib.hid ((a3.block _ (lt_of_block HQ.out)).trans HQ.out)
  replace HR := Lib.hid (HR.out.below a3)
  replace HWB := Lib.hid (HWB.out.trans (a3.mono (by have h1 := HWB.out.size; have h2 := HZZ.out; omega)))
  have hbk := below_alloc w2 (.cells #[.slice ua un uc, .slice va vn vc] 30)
  have hbl := below_alloc (w2.alloc (.cells #[.slice ua un uc, .slice va vn vc] 30)) (.cells #[.slice ua un uc, .slice va vn vc, .slice none 0 0] 33)
  have hb3 := hbk.trans (hbl.mono hbk.size)
  have HOUT : Hid ((((w2.alloc (.cells #[.slice ua un uc, .slice va vn vc] 30)).alloc (.cells #[.slice ua un uc, .slice va vn vc, .slice none 0 0] 33))).heap[w2.heap.size + 1]? = some (.cells #[.slice ua un uc, .slice va vn vc, .slice none 0 0] 33 (0, 0))) := Lib.hid (block_new _ _ _ (by simp))
  have HSZ : Hid ((((w2.alloc (.cells #[.slice ua un uc, .slice va vn vc] 30)).alloc (.cells #[.slice ua un uc, .slice va vn vc, .slice none 0 0] 33))).heap.size = w2.heap.size + 2) := Lib.hid (by simp)
  have HA := Lib.hid (And.intro (a1.below hb3) (a2.below hb3))
  have HKL : Hid (w1.heap.size < w2.heap.size) := Lib.hid (lt_of_block HQ.out)
  replace HX := Lib.hid ((hb3.block _ (lt_of_block HX.out)).trans HX.out)
  replace HO := Lib.hid ((hb3.block _ (lt_of_block HO.out)).trans HO.out)
  replace HP := Lib.hid ((hb3.block _ (lt_of_block HP.out)).trans HP.out)
  replace HQ := Lib.hid ((hb3.block _ (lt_of_block HQ.out)).trans HQ.out)
  replace HR := Lib.hid (HR.out.below hb3)
  replace HWB := Lib.hid (HWB.out.trans (hb3.mono (by have h1 := HWB.out.size; have h2 := HZZ.out; omega)))
  clear a1 a2 a3 hbk hbl hb3
  go_wp2_with fail
  generalize hks : w1.heap.size = ks at *
  generalize hkk : w2.heap.size = kk at *
  generalize hW5 : (w2.alloc (.cells #[.slice ua un uc, .slice va vn vc] 30)).alloc (.cells #[.slice ua un uc, .slice va vn vc, .slice none 0 0] 33) = W5 at *
  clear hks hkk hW5
  go_loopw [12] (fun c wr => ∃ (k : Nat) (oa : Option Addr) (on oc : Nat), k ≤ xn ∧ c = .int .i64 ((k : Nat) : Int) ∧ Hid (wr.heap[kk + 1]? = some (.cells #[.slice ua un uc, .slice va vn vc, .slice oa on oc] 33 (0, 0)) ∧ Row TSe wr W5.heap.size (.slice oa on oc) (woL i (z.L.take k)) ∧ Fr [kk + 1] W5 wr)) (fun c _ => xn - (intOf c).toNat)
  case atStart => exact ⟨0, none, 0, 0, Nat.zero_le _, rfl, Lib.hid ⟨HOUT.out, Row.nil _ _, Fr.refl _ _⟩⟩
  case round =>
    obtain ⟨k, oa, on, oc, hk, rfl, HD⟩ := hrel
    have hne : zz ≠ kk + 1 ∧ zz + 1 ≠ kk + 1 ∧ zz + 2 ≠ kk + 1 ∧ ks ≠ kk + 1 := by have h1 := HQL.out; have h2 := HKL.out; omega
    have hx := HD.out.2.2.same HX.out (by simp; omega)
    have x2 : wr.cell? ⟨zz, 2, none⟩ = some (.slice xa xn xc) := cells_cell hx rfl
    have xl := lt_of_block hx
    clear hx
    by_cases hlt : k < xn
    · have hkL : k < z.L.length := by rw [← HM.out]; exact hlt
      have hkI : (k : Int) < (xn : Int) := by omega
      have hnx := woL_next (i := i) hkL
      have hrr : Row TSe wr b (.slice xa xn xc) z.L := HR.out.l.fr HD.out.2.2 (fun g hg => by have := HR.out.l.ne HOUT.out (by decide) g hg; simpa using this)
      obtain ⟨g, rfl, hxn, hgl, c0, c1, c2⟩ := hrr.seat hkL
      clear hrr hxn
      by_cases he : z.L[k].1 = i
      · rw [if_pos he, List.append_nil] at hnx
        have HD2 : Hid (wr.heap[kk + 1]? = some (.cells #[.slice ua un uc, .slice va vn vc, .slice oa on oc] 33 (0, 0)) ∧ Row TSe wr W5.heap.size (.slice oa on oc) (woL i (z.L.take (k + 1))) ∧ Fr [kk + 1] W5 wr) := Lib.hid ⟨HD.out.1, by rw [hnx]; exact HD.out.2.1, HD.out.2.2⟩
        rw [he] at c0
        clear hnx HD hkL c1 c2 he hne
        go_wp2_with fail
        go_roundw
        case rel => exact ⟨k + 1, oa, on, oc, by omega, by go_num, HD2⟩
        case measure => simp [intOf]; omega
      · rw [if_neg he] at hnx
        have hne1 : ¬ ((z.L[k].1 : Nat) : Int) = ((i : Nat) : Int) := by omega
        have hne2 : (((z.L[k].1 : Nat) : Int) != ((i : Nat) : Int)) = true := by simpa using hne1
        have HN := Lib.hid hnx
        have hob := HD.out.1
        have b0 : wr.cell? ⟨kk + 1, 0, none⟩ = some (.slice ua un uc) := cells_cell hob rfl
        have b2 : wr.cell? ⟨kk + 1, 2, none⟩ = some (.slice oa on oc) := cells_cell hob rfl
        have bl := lt_of_block hob
        have hxb := HD.out.2.2.size
        clear hnx he
        generalize z.L[k] = q at *
        clear hkL
        obtain ⟨qn, q3, q4⟩ := q
        simp only at c0 c1 c2 hne1 hne2
        clear hob hne
        go_wp2_with fail
        have hgW : g < W5.heap.size := (HR.out.l.lt g rfl).2
        obtain ⟨S, hSd⟩ : ∃ S : World → Prop, S = fun W' => W'.cell? ⟨kk + 1, 2, none⟩ = some (.slice oa on oc) ∧ W'.cell? ⟨zz, 2, none⟩ = some (.slice (some ⟨g, 0, none⟩) xn xc) ∧ W'.cell? ⟨g, k * 3, none⟩ = some (.int .i64 ((qn : Nat) : Int)) ∧ W'.cell? ⟨g, k * 3 + 1, none⟩ = some (.int .i64 q3) ∧ W'.cell? ⟨g, k * 3 + 2, none⟩ = some (.int .i64 q4) := ⟨_, rfl⟩
        have hS0 : ∀ {F : List Nat} {W' : World}, Fr F wr W' → kk + 1 ∉ F → zz ∉ F → g ∉ F → S W' := fun hf h1 h2 h3 => by
          rw [hSd]
          exact ⟨hf.cell b2 h1, hf.cell x2 h2, hf.cell c0 h3, hf.cell c1 h3, hf.cell c2 h3⟩
        have hdr : Below wr.heap.size wr wr.drew := (Below.refl _ _).drew
        have HS : Hid (S wr.drew) := Lib.hid (hS0 (Fr.of_below hdr []) (by simp) (by simp) (by simp))
        refine wp_region_mix S 9 [(true, 0), (true, 1), (true, 2), (true, 3), (true, 4), (true, 5), (true, 6), (false, 7), (false, 8)] (by kernel_rfl) (by kernel_rfl) (fun _ _ _ d _ h => by cases d <;> exact h) ?_
        simp only [List.map_cons, List.map_nil, List.getD_cons_zero, List.getD_cons_succ, List.drop_succ_cons, List.drop_zero]
        refine mix_take (.pointer (some ⟨kk + 1, 2, none⟩)) HS.out rfl (fun W' hS => by rw [hSd] at hS; obtain ⟨l0, l1, l2, l3, l4⟩ := hS; go_simp) ?_
        simp only [Act.put, List.setIfInBounds_toArray, List.set_cons_zero, List.set_cons_succ]
        refine mix_take (.slice oa on oc) HS.out rfl (fun W' hS => by rw [hSd] at hS; obtain ⟨l0, l1, l2, l3, l4⟩ := hS; go_simp) ?_
        simp only [Act.put, List.setIfInBounds_toArray, List.set_cons_zero, List.set_cons_succ]
        refine mix_take (.pointer (some ⟨zz, 2, none⟩)) HS.out rfl (fun W' hS => by rw [hSd] at hS; obtain ⟨l0, l1, l2, l3, l4⟩ := hS; go_simp) ?_
        simp only [Act.put, List.setIfInBounds_toArray, List.set_cons_zero, List.set_cons_succ]
        refine mix_take (.slice (some ⟨g, 0, none⟩) xn xc) HS.out rfl (fun W' hS => by rw [hSd] at hS; obtain ⟨l0, l1, l2, l3, l4⟩ := hS; go_simp) ?_
        simp only [Act.put, List.setIfInBounds_toArray, List.set_cons_zero, List.set_cons_succ]
        refine mix_move (.tmp 12) (.int .i64 ((k : Nat) : Int)) rfl HS.out rfl rfl ?_
        simp only [Act.put, List.setIfInBounds_toArray, List.set_cons_zero, List.set_cons_succ]
        refine mix_take (.pointer (some ⟨g, k * 3, none⟩)) HS.out rfl (fun W' hS => by rw [hSd] at hS; obtain ⟨l0, l1, l2, l3, l4⟩ := hS; go_simp) ?_
        simp only [Act.put, List.setIfInBounds_toArray, List.set_cons_zero, List.set_cons_succ]
        refine mix_take (.agg #[.int .i64 ((qn : Nat) : Int), .int .i64 q3, .int .i64 q4]) HS.out rfl (fun W' hS => by rw [hSd] at hS; obtain ⟨l0, l1, l2, l3, l4⟩ := hS; go_simp) ?_
        simp only [Act.put, List.setIfInBounds_toArray, List.set_cons_zero, List.set_cons_succ]
        have hba : Below wr.heap.size wr (wr.alloc (.cells #[.int .i64 ((qn : Nat) : Int), .int .i64 q3, .int .i64 q4] 90)).drew := (hdr.trans ((below_alloc wr.drew _).mono (Nat.le_refl _)))
        have hsr : Src TSe (wr.alloc (.cells #[.int .i64 ((qn : Nat) : Int), .int .i64 q3, .int .i64 q4] 90)).drew (.slice (some ⟨wr.heap.size, 0, none⟩) 1 1) [(qn, (q3, q4))] := src_new TSe_ok wr.drew (qn, (q3, q4)) #[.int .i64 ((qn : Nat) : Int), .int .i64 q3, .int .i64 q4] rfl
        refine mix_step rfl (fun K hK => ?_)
        go_simp
        refine hK _ _ (hS0 (Fr.of_below hba []) (by simp) (by simp) (by simp)) ?_
        clear hK
        refine mix_step rfl (fun K hK => ?_)
        have hlen : (woL i (z.L.take k)).length ≤ 64 := Nat.le_trans (List.length_filter_le _ _) (by rw [List.length_take]; have := HL.out; omega)
        have hrow := HD.out.2.1.below hba
        refine wp_append_g TSe_ok (v := .slice oa on oc) (.tmp 49) (.tmp 55) rfl rfl rfl hrow (Nat.le_trans hxb hba.size) hsr (by simp; omega) ?_
        intro v' w3 ho hf hnr
        have hlt' : ∀ y ∈ (Value.slice oa on oc).ownBlock.toList, W5.heap.size ≤ y := fun y hy => (hrow.lt y (by simpa using hy)).1
        have hne1 : ∀ y ∈ (Value.slice oa on oc).ownBlock.toList, y ≠ kk + 1 := fun y hy => hrow.ne ((hba.block _ bl).trans HD.out.1) (by decide) y (by simpa using hy)
        have hf2 : Fr (Value.slice oa on oc).ownBlock.toList wr w3 := (Fr.of_below hba _).trans' hf
        have hS3 := hS0 hf2 (fun hm => hne1 _ hm rfl) (fun hm => by have h1 := hlt' _ hm; have h2 := lt_of_block HX.out; omega) (fun hm => by have h1 := hlt' _ hm; omega)
        refine hK _ _ hS3 ?_
        clear hK
        obtain ⟨na, nn, nc, rfl⟩ := row_form ho
        have hob3 := hf2.same HD.out.1 (fun hm => hne1 _ hm rfl)
        have d2 : w3.cell? ⟨kk + 1, 2, none⟩ = some (.slice oa on oc) := cells_cell hob3 rfl
        have e2 := cells_free hob3 2
        have dl := lt_of_block hob3
        have hfs := fr_setCell w3 ⟨kk + 1, 2, none⟩ (.slice na nn nc)
        have hob4 := cells_set hob3 2 (.slice na nn nc)
        simp at hob4
        have HD2 : Hid ((w3.setCell ⟨kk + 1, 2, none⟩ (.slice na nn nc)).heap[kk + 1]? = some (.cells #[.slice ua un uc, .slice va vn vc, .slice na nn nc] 33 (0, 0)) ∧ Row TSe (w3.setCell ⟨kk + 1, 2, none⟩ (.slice na nn nc)) W5.heap.size (.slice na nn nc) (woL i (z.L.take (k + 1))) ∧ Fr [kk + 1] W5 (w3.setCell ⟨kk + 1, 2, none⟩ (.slice na nn nc))) := Lib.hid (by
          refine ⟨hob4, ?_, ?_⟩
          · rw [HN.out]
            exact Row.fr ho hfs (fun y hy => by have := ho.ne hob3 (by decide) y hy; simpa using this)
          · have h1 : Fr ((kk + 1) :: (Value.slice oa on oc).ownBlock.toList) wr _ := (hf2.mono (G := (kk + 1) :: (Value.slice oa on oc).ownBlock.toList) (fun y hy => .inl (List.mem_cons_of_mem _ hy))).trans' (hfs.mono (fun y hy => .inl (by simp at hy; subst hy; exact List.mem_cons_self)))
            refine HD.out.2.2.trans h1 (fun y hy => ?_)
            rcases List.mem_cons.1 hy with e | e
            · left; rw [e]; simp
            · right; exact hlt' y e)
        clear ho hf hf2 hfs hob3 hob4 hnr hba hsr hrow hlt' hne1 hS0 hS3 HD HR
        simp only [Act.put, List.setIfInBounds_toArray, List.set_cons_zero, List.set_cons_succ]
        refine mix_nil ?_
        go_wp2_with fail
        go_roundw
        case rel => exact ⟨k + 1, na, nn, nc, by omega, by go_num, HD2⟩
        case measure => simp [intOf]; omega
    · obtain rfl : k = xn := by omega
      have hq := HD.out.2.2.same HQ.out (by simp; omega)
      have hob := HD.out.1
      have hOo := HD.out.2.2.same HO.out (by simp; omega)
      have hPp := HD.out.2.2.same HP.out (by simp; omega)
      have hrl : RL wr b (.slice ua un uc) (.slice va vn vc) (.slice oa on oc) (z.leave i) := by
        have hw := HD.out.2.1
        rw [HM.out, List.take_length] at hw
        refine ⟨HA.out.1.fr HD.out.2.2 (fun g hg => by have := HA.out.1.ne HOUT.out (by decide) g hg; simpa using this), HA.out.2.fr HD.out.2.2 (fun g hg => by have := HA.out.2.ne HOUT.out (by decide) g hg; simpa using this), hw.lower (by have h1 := HWB.out.size; have h2 := HZZ.out; have h3 := HB0.out; omega)⟩
      have hwb := HWB.out.trans (HD.out.2.2.below (B := zz) (fun y hy => by simp at hy; have h1 := HQL.out; have h2 := HKL.out; omega) (by have h1 := HWB.out.size; have h2 := HZZ.out; omega))
      have hdr : Below wr.heap.size wr wr.drew := (Below.refl _ _).drew
      replace hq := (hdr.block _ (lt_of_block hq)).trans hq
      replace hob := (hdr.block _ (lt_of_block hob)).trans hob
      replace hOo := (hdr.block _ (lt_of_block hOo)).trans hOo
      replace hPp := (hdr.block _ (lt_of_block hPp)).trans hPp
      have hwb2 := hwb.trans (hdr.mono (by have h1 := hwb.size; have h2 := HZZ.out; omega))
      replace hrl := hrl.below hdr
      clear hdr hwb HD hne HR HA HX HO HP
      go_wp2_with fail
      obtain ⟨S, hSd⟩ : ∃ S : World → Prop, S = fun W' => W'.cell? ⟨kk + 1, 0, none⟩ = some (.slice ua un uc) ∧ W'.cell? ⟨kk + 1, 1, none⟩ = some (.slice va vn vc) ∧ W'.cell? ⟨kk + 1, 2, none⟩ = some (.slice oa on oc) ∧ W'.cell? ⟨ks, 0, none⟩ = some (.int .i64 q1) ∧ W'.cell? ⟨ks, 1, none⟩ = some (.int .i64 q2) := ⟨_, rfl⟩
      refine wp_region_mix S 3 [(true, 0), (true, 1), (false, 2)] (by kernel_rfl) (by kernel_rfl) (fun _ _ _ d _ h => by cases d <;> exact h) ?_
      simp only [List.map_cons, List.map_nil, List.getD_cons_zero, List.getD_cons_succ, List.drop_succ_cons, List.drop_zero]
      clear xl x2
      generalize wr.drew = wd at *
      have o0 : wd.cell? ⟨zz + 1, 0, none⟩ = some (.slice none 0 0) := cells_cell hOo rfl
      have o1 : wd.cell? ⟨zz + 1, 1, none⟩ = some (.slice none 0 0) := cells_cell hOo rfl
      have o2 : wd.cell? ⟨zz + 1, 2, none⟩ = some (.slice none 0 0) := cells_cell hOo rfl
      have f0 := cells_free hOo 0
      have f1 := cells_free hOo 1
      have f2 := cells_free hOo 2
      have ol := lt_of_block hOo
      have p0 : wd.cell? ⟨zz + 2, 0, none⟩ = some (.int .i64 0) := cells_cell hPp rfl
      have p1 : wd.cell? ⟨zz + 2, 1, none⟩ = some (.int .i64 0) := cells_cell hPp rfl
      have g0 := cells_free hPp 0
      have g1 := cells_free hPp 1
      have pl := lt_of_block hPp
      have b0 : wd.cell? ⟨kk + 1, 0, none⟩ = some (.slice ua un uc) := cells_cell hob rfl
      have b1 : wd.cell? ⟨kk + 1, 1, none⟩ = some (.slice va vn vc) := cells_cell hob rfl
      have b2 : wd.cell? ⟨kk + 1, 2, none⟩ = some (.slice oa on oc) := cells_cell hob rfl
      have s0 : wd.cell? ⟨ks, 0, none⟩ = some (.int .i64 q1) := cells_cell hq rfl
      have s1 : wd.cell? ⟨ks, 1, none⟩ = some (.int .i64 q2) := cells_cell hq rfl
      have hfa := ((fr_setCell wd ⟨zz + 1, 0, none⟩ (.slice ua un uc)).trans' (fr_setCell _ ⟨zz + 1, 1, none⟩ (.slice va vn vc))).trans' (fr_setCell _ ⟨zz + 1, 2, none⟩ (.slice oa on oc))
      have hfb := (fr_setCell (((wd.setCell ⟨zz + 1, 0, none⟩ (.slice ua un uc)).setCell ⟨zz + 1, 1, none⟩ (.slice va vn vc)).setCell ⟨zz + 1, 2, none⟩ (.slice oa on oc)) ⟨zz + 2, 0, none⟩ (.int .i64 q1)).trans' (fr_setCell _ ⟨zz + 2, 1, none⟩ (.int .i64 q2))
      have hf := (hfa.mono (G := [zz + 1, zz + 2]) (fun x hx => .inl (by simp at hx ⊢; omega))).trans' (hfb.mono (G := [zz + 1, zz + 2]) (fun x hx => .inl (by simp at hx ⊢; omega)))
      have HLB := Lib.hid (hfb.same (cells_set (cells_set (cells_set hOo 0 (.slice ua un uc)) 1 (.slice va vn vc)) 2 (.slice oa on oc)) (by simp))
      have HSB := Lib.hid (cells_set (cells_set (hfa.same hPp (by simp)) 0 (.int .i64 q1)) 1 (.int .i64 q2))
      have hkn : kk + 1 ≠ zz + 1 ∧ ks ≠ zz + 1 := by have h1 := HQL.out; have h2 := HKL.out; omega
      have HS : Hid (S wd) := Lib.hid (by rw [hSd]; exact ⟨b0, b1, b2, s0, s1⟩)
      have HS2 : Hid (S (((wd.setCell ⟨zz + 1, 0, none⟩ (.slice ua un uc)).setCell ⟨zz + 1, 1, none⟩ (.slice va vn vc)).setCell ⟨zz + 1, 2, none⟩ (.slice oa on oc))) := Lib.hid (by rw [hSd]; exact ⟨hfa.cell b0 (by simp; omega), hfa.cell b1 (by simp; omega), hfa.cell b2 (by simp; omega), hfa.cell s0 (by simp; omega), hfa.cell s1 (by simp; omega)⟩)
      have HB5 := Lib.hid (hwb2.trans (hf.below (B := zz) (fun x hx => by simp at hx; omega) (by have h1 := hwb2.size; have h2 := HZZ.out; omega)))
      have HR5 := Lib.hid (hrl.fr hf (fun k hk => by simp at hk; rcases hk with rfl | rfl; exact ⟨_, _, hOo, by decide, by decide⟩; exact ⟨_, _, hPp, by decide, by decide⟩))
      clear hf hfa hfb hwb2 hrl hOo hPp hq hob
      refine mix_take (.agg #[.slice ua un uc, .slice va vn vc, .slice oa on oc]) HS.out rfl (fun W' hS => by rw [hSd] at hS; obtain ⟨l0, l1, l2, l3, l4⟩ := hS; go_simp) ?_
      simp only [Act.put, List.setIfInBounds_toArray, List.set_cons_zero, List.set_cons_succ]
      refine mix_take (.agg #[.int .i64 q1, .int .i64 q2]) HS.out rfl (fun W' hS => by rw [hSd] at hS; obtain ⟨l0, l1, l2, l3, l4⟩ := hS; go_simp) ?_
      simp only [Act.put, List.setIfInBounds_toArray, List.set_cons_zero, List.set_cons_succ]
      refine mix_step rfl (fun K hK => ?_)
      go_simp
      refine hK _ _ HS2.out ?_
      clear hK
      refine mix_nil ?_
      clear HS HS2 hSd
      go_wp2_with fail
      have hy2 := HLB.out
      simp at hy2
      have hy3 := HSB.out
      simp at hy3
      refine bodyPost_ret (v := .tuple #[.agg #[.slice ua un uc, .slice va vn vc, .slice oa on oc], .agg #[.int .i64 q1, .int .i64 q2], .int .i64 0]) (by simp [results, Tryd.results38, go_sem, cells_cell (o := 0) hy2 rfl, cells_cell (o := 1) hy2 rfl, cells_cell (o := 2) hy2 rfl, cells_cell (o := 0) hy3 rfl, cells_cell (o := 1) hy3 rfl]) rfl ?_
      exact ⟨_, _, _, rfl, HR5.out, by first | exact HB5.out | (rw [HZZ.out]; exact HB5.out)⟩
theorem g9Leave_any (h : RL w b s r x z) (hb0 : b ≤ w.heap.size) (hz : ZK z) (N : Int) : Calls Tryd.prog 38 #[rlv s r x, .int .i64 N] w (LAns w b (lvC z N).1 (lvC z N).2.1 (lvC z N).2.2) := by
  unfold lvC
  by_cases hc : (whC z N).2 = 0
  · rw [if_pos hc]
    obtain ⟨i, rfl, hm⟩ := whC_ok hz hc
    exact g9Leave_ok h hb0 hz hm
  · rw [if_neg hc]
    exact g9Leave_err h hb0 hz hc
end
end Go.Proofs.YtcdimopiaanfbaaDoor
/- The reference: WakeAll, Wake. -/
namespace Go.Proofs.YtcdimopiaanfbaaDoor
open Go.RowKit Go.Sort
set_option linter.unusedVariables false
set_option linter.unusedSimpArgs false

/-- The run set has only tasks that are ready, each once. -/
structure ZR (z : Zt) : Prop where
  nd : z.R.Nodup
  st : ∀ x ∈ z.R, ∃ i : Nat, x = ((i : Nat) : Int) ∧ z.S[i]? = some 1
theorem LS.zr {B : Nat} {S : Nat → Prop} {w : World} {l : Ll} {z : Zt} {G : Nat} (h : LS B S w l z G) : ZR z := by
  obtain ⟨P, Q, g, f, pl, hA, hZ, hg, h1, h2⟩ := h
  refine ⟨by rw [h2]; exact hZ.rk.nodup hA.k.qa.inc, fun x hx => ?_⟩
  rw [h2] at hx
  obtain ⟨y, hy, rfl⟩ := List.mem_map.1 hx
  obtain ⟨i, e, hp⟩ := hZ.rk.qu y hy
  refine ⟨i, e, ?_⟩
  rw [h1]
  unfold sts
  rw [List.getElem?_map, hp]
  rfl
theorem ZR.leave {z : Zt} (h : ZR z) {i : Nat} (hi : i < z.S.length) : ZR (z.leave i) := by
  refine ⟨?_, fun x hx => ?_⟩
  · show (woR ((i : Nat) : Int) z.R ++ [((i : Nat) : Int)]).Nodup
    rw [List.nodup_append]
    refine ⟨h.nd.sublist List.filter_sublist, by simp, fun a ha b hb e => ?_⟩
    simp at hb
    unfold woR at ha
    have := (List.mem_filter.1 ha).2
    simp at this
    exact this (e.trans hb)
  · rcases List.mem_append.1 (show x ∈ woR ((i : Nat) : Int) z.R ++ [((i : Nat) : Int)] from hx) with hx | hx
    · unfold woR at hx
      obtain ⟨hx, hne⟩ := List.mem_filter.1 hx
      obtain ⟨j, rfl, hs⟩ := h.st x hx
      refine ⟨j, rfl, ?_⟩
      show (z.S.set i 1)[j]? = _
      simp at hne
      rw [List.getElem?_set_ne (by omega)]
      exact hs
    · simp at hx
      subst hx
      refine ⟨i, rfl, ?_⟩
      show (z.S.set i 1)[i]? = _
      simp [hi]
theorem ZR.len {z : Zt} (h : ZR z) : z.R.length ≤ z.S.length := nodup_len _ _ h.nd (fun x hx => by
  obtain ⟨i, e, hs⟩ := h.st x hx
  exact ⟨i, e, (List.getElem?_eq_some_iff.1 hs).1⟩)
theorem ZK.leave {z : Zt} (h : ZK z) (hr : ZR z) {i : Nat} (hi : i < z.S.length) : ZK (z.leave i) := by
  have hl : (z.leave i).S.length = z.S.length := by simp [Zt.leave]
  refine ⟨by rw [hl]; exact h.n1, by rw [hl]; exact h.n2, ?_, ?_, ?_, fun j hj => ?_, fun j x hx => ?_, fun x hx => h.sp x (mem_woL.1 hx).1⟩
  · have := (hr.leave hi).len
    rw [hl] at this
    exact Nat.le_trans this h.n2
  · exact Nat.le_trans (List.length_filter_le _ _) h.l
  · show ((woL i z.L).map Prod.fst).Nodup
    rw [woL_map]
    exact h.nd.sublist List.filter_sublist
  · rw [hl]
    have : j ∈ (woL i z.L).map Prod.fst := hj
    rw [woL_map] at this
    exact h.inS j (List.mem_filter.1 this).1
  · show x = 2 ↔ j ∈ (woL i z.L).map Prod.fst
    have hx : (z.S.set i 1)[j]? = some x := hx
    rw [woL_map, List.mem_filter]
    by_cases e : j = i
    · subst e
      simp [hi] at hx
      subst hx
      simp
    · rw [List.getElem?_set_ne (fun h => e h.symm)] at hx
      rw [h.st j x hx]
      simp [e]
/-- The tasks of a spot that have not left are at the spot. -/
theorem leaves_take {z : Zt} (l : List Nat) {j : Nat} (hj : j < l.length) : z.leaves (l.take (j + 1)) = (z.leaves (l.take j)).leave l[j] := by
  rw [List.take_succ_eq_append_getElem hj, leaves_append]
  rfl
theorem lvC_take {z : Zt} (hz : ZK z) {l : List Nat} (hn : l.Nodup) {t : Sp} (hl : ∀ i ∈ l, (i, t) ∈ z.L) {j : Nat} (hj : j < l.length) (hzj : ZK (z.leaves (l.take j))) : (l[j], t) ∈ (z.leaves (l.take j)).L := by
  rw [leaves_L]
  refine ⟨hl _ (List.getElem_mem hj), fun hm => ?_⟩
  obtain ⟨m, hm1, hm2⟩ := List.getElem_of_mem hm
  rw [List.getElem_take] at hm2
  rw [List.length_take] at hm1
  exact (List.pairwise_iff_getElem.1 hn m j (by omega) hj (by omega)) hm2
/-- What Waiting answers, as tasks. -/
def wtC (z : Zt) (t : Sp) : List Nat := if SpOk t then wt t z.L else []
theorem waC_wt (z : Zt) (t : Sp) : waC z t = (cat (wtC z t), if SpOk t then 0 else 2) := by
  unfold waC wtC
  by_cases h : SpOk t
  · simp [h]
  · simp [h, cat]
theorem wkaC_wt (z : Zt) (t : Sp) : wkaC z t = (cat (wtC z t), (if SpOk t then 0 else 2), z.leaves (wtC z t)) := by
  unfold wkaC wtC
  by_cases h : SpOk t
  · simp [h]
  · simp [h, cat, Zt.leaves]
theorem wtC_mem {z : Zt} {t : Sp} : ∀ i ∈ wtC z t, (i, t) ∈ z.L := by
  intro i hi
  unfold wtC at hi
  split at hi
  · exact mem_wt.1 hi
  · cases hi
theorem wtC_nodup {z : Zt} (hz : ZK z) (t : Sp) : (wtC z t).Nodup := by
  unfold wtC
  split
  · exact wt_nodup hz.nd
  · exact List.nodup_nil
theorem wtC_len (z : Zt) (t : Sp) : (wtC z t).length ≤ z.L.length := by
  unfold wtC wt
  split
  · rw [List.length_map]; exact List.length_filter_le _ _
  · exact Nat.zero_le _
/-- What WakeAll of the reference returns. -/
def AAns (w : World) (b : Nat) (X : List Int) (code : Int) (z : Zt) (e : Ending) (w' : World) : Prop :=
  ∃ s r x v, e = .returned (.tuple #[rlv s r x, v, .int .i64 code]) ∧ RL w' b s r x z ∧ Row TI w' w.heap.size v X ∧ Below w.heap.size w w'

set_option maxRecDepth 100000 in
set_option maxHeartbeats 3200000 in
theorem g9WakeAll_any {w : World} {b : Nat} {s r x : Value} {z : Zt} (h : RL w b s r x z) (hb0 : b ≤ w.heap.size) (hz : ZK z) (hzr : ZR z) (t : Sp) : Calls Tryd.prog 37 #[rlv s r x, .agg #[.int .i64 t.1, .int .i64 t.2]] w (AAns w b (wkaC z t).1 (wkaC z t).2.1 (wkaC z t).2.2) := by
  rw [wkaC_wt]
  have hl1 : Hid (∀ i ∈ wtC z t, (i, t) ∈ z.L) := Lib.hid wtC_mem
  have hl2 := Lib.hid (wtC_nodup hz t)
  have hl3 := wtC_len z t
  have hwa : Hid (∀ {W : World} {s r x : Value}, RL W b s r x z → Calls Tryd.prog 41 #[rlv s r x, .agg #[.int .i64 t.1, .int .i64 t.2]] W fun e w' => ∃ v, e = .returned (.tuple #[v, .int .i64 (if SpOk t then 0 else 2)]) ∧ Row TI w' W.heap.size v (cat (wtC z t)) ∧ Below W.heap.size W w') := Lib.hid (fun h => by
    have := g9Waiting_any h hz t
    rw [waC_wt] at this
    exact this)
  have HZ := Lib.hid (And.intro hz hzr)
  have hlm : (wtC z t).length ≤ 64 := Nat.le_trans hl3 hz.l
  generalize wtC z t = l at *
  obtain ⟨c, hc⟩ : ∃ c : Int, c = if SpOk t then 0 else 2 := ⟨_, rfl⟩
  rw [← hc] at hwa ⊢
  clear hc hl3
  obtain ⟨sa, sn, sc, ra, rn, rc, xa, xn, xc, rfl, rfl, rfl⟩ := rl_form h
  obtain ⟨t1, t2⟩ := t
  obtain ⟨W, hW⟩ : ∃ W, ((w.alloc (.cells #[.slice sa sn sc, .slice ra rn rc, .slice xa xn xc] 33)).alloc (.cells #[.int .i64 t1, .int .i64 t2] 38)).alloc (.cells #[.slice none 0 0, .slice none 0 0, .slice none 0 0] 33) = W := ⟨_, rfl⟩
  have HWB : Hid (Below w.heap.size w W) := Lib.hid (by rw [← hW]; exact ((((Grn.refl w).alloc _).alloc _).alloc _).below)
  have HX : Hid (W.heap[w.heap.size]? = some (.cells #[.slice sa sn sc, .slice ra rn rc, .slice xa xn xc] 33 (0, 0))) := Lib.hid (by rw [← hW]; exact ((below_alloc _ _).block _ (by simp; omega)).trans (((below_alloc _ _).block _ (by simp)).trans (block_new _ _ _ rfl)))
  have HY : Hid (W.heap[w.heap.size + 1]? = some (.cells #[.int .i64 t1, .int .i64 t2] 38 (0, 0))) := Lib.hid (by rw [← hW]; exact ((below_alloc _ _).block _ (by simp)).trans (block_new _ _ _ (by simp)))
  have HO : Hid (W.heap[w.heap.size + 2]? = some (.cells #[.slice none 0 0, .slice none 0 0, .slice none 0 0] 33 (0, 0))) := Lib.hid (by rw [← hW]; exact block_new _ _ _ (by simp))
  have HR := Lib.hid (h.below HWB.out)
  have HB0 : Hid (b ≤ w.heap.size) := Lib.hid hb0
  have hwa := Lib.hid (hwa.out HR.out)
  unfold rlv at hwa
  have HT := Lib.hid (And.intro hl1.out hl2.out)
  obtain ⟨M, hM⟩ : ∃ M, M = l.length := ⟨_, rfl⟩
  have HM := Lib.hid hM
  have hMI : ((M : Nat) : Int) ≤ 64 := by omega
  clear hz hzr hl1 hl2 hM hlm
  simp only at hwa
  have HW := Lib.hid hW
  clear h hW hb0
  unfold rlv
  go_enter Tryd.func37, Tryd.ntmps37
  go_wp2_with fail
  rw [HW.out]
  clear HW
  generalize hzz : w.heap.size = zz at *
  have HZZ := Lib.hid hzz
  clear hzz
  have x0 : W.cell? ⟨zz, 0, none⟩ = some (.slice sa sn sc) := cells_cell HX.out rfl
  have x1 : W.cell? ⟨zz, 1, none⟩ = some (.slice ra rn rc) := cells_cell HX.out rfl
  have x2 : W.cell? ⟨zz, 2, none⟩ = some (.slice xa xn xc) := cells_cell HX.out rfl
  have xl := lt_of_block HX.out
  have y0 : W.cell? ⟨zz + 1, 0, none⟩ = some (.int .i64 t1) := cells_cell HY.out rfl
  have y1 : W.cell? ⟨zz + 1, 1, none⟩ = some (.int .i64 t2) := cells_cell HY.out rfl
  have yl := lt_of_block HY.out
  go_wp2_with (go_at_call 41; fail)
  refine hwa.out.mono ?_
  rintro e w1 ⟨v, rfl, hv, hg⟩
  clear x0 x1 x2 xl y0 y1 yl
  clear hwa
  obtain ⟨va, vn, vc, rfl⟩ := row_form hv
  have hvn : vn = M := by obtain ⟨a', c', e, _, _⟩ := hv.form; simp [cat] at e; have := HM.out; omega
  subst hvn
  have HWS : Hid (zz ≤ W.heap.size) := Lib.hid (by have h1 := HWB.out.size; have h2 := HZZ.out; omega)
  have HV := Lib.hid (hv.lower HWS.out)
  replace HX := Lib.hid ((hg.block _ (lt_of_block HX.out)).trans HX.out)
  replace HY := Lib.hid ((hg.block _ (lt_of_block HY.out)).trans HY.out)
  replace HO := Lib.hid ((hg.block _ (lt_of_block HO.out)).trans HO.out)
  replace HR := Lib.hid (HR.out.below hg)
  replace HWB := Lib.hid (HWB.out.trans (hg.mono (by have h1 := HWB.out.size; have h2 := HZZ.out; omega)))
  have x0 : w1.cell? ⟨zz, 0, none⟩ = some (.slice sa sn sc) := cells_cell HX.out rfl
  have x1 : w1.cell? ⟨zz, 1, none⟩ = some (.slice ra rn rc) := cells_cell HX.out rfl
  have x2 : w1.cell? ⟨zz, 2, none⟩ = some (.slice xa xn xc) := cells_cell HX.out rfl
  have xl := lt_of_block HX.out
  have HKL : Hid (zz + 2 < w1.heap.size) := Lib.hid (lt_of_block HO.out)
  have hba := below_alloc w1 (.cells #[.slice sa sn sc, .slice ra rn rc, .slice xa xn xc] 33)
  have HOUT := Lib.hid (block_new w1 (.cells #[.slice sa sn sc, .slice ra rn rc, .slice xa xn xc] 33) _ rfl)
  replace HX := Lib.hid ((hba.block _ (lt_of_block HX.out)).trans HX.out)
  replace HY := Lib.hid ((hba.block _ (lt_of_block HY.out)).trans HY.out)
  replace HO := Lib.hid ((hba.block _ (lt_of_block HO.out)).trans HO.out)
  replace HR := Lib.hid (HR.out.below hba)
  replace HWB := Lib.hid (HWB.out.trans (hba.mono (by have h1 := HWB.out.size; have h2 := HZZ.out; omega)))
  replace HV := Lib.hid (HV.out.below hba)
  clear hg hv hba
  go_wp2_with fail
  generalize hkk : w1.heap.size = kk at *
  generalize hW2 : w1.alloc (.cells #[.slice sa sn sc, .slice ra rn rc, .slice xa xn xc] 33) = W2 at *
  clear hkk hW2 x0 x1 x2 xl
  go_loopw [10] (fun cv wr => ∃ (j : Nat) (pa : Option Addr) (pn pc : Nat) (qa : Option Addr) (qn qc : Nat) (oa : Option Addr) (on oc : Nat), j ≤ vn ∧ cv = .int .i64 ((j : Nat) : Int) ∧ Hid (wr.heap[kk]? = some (.cells #[.slice pa pn pc, .slice qa qn qc, .slice oa on oc] 33 (0, 0)) ∧ RL wr b (.slice pa pn pc) (.slice qa qn qc) (.slice oa on oc) (z.leaves (l.take j)) ∧ ZK (z.leaves (l.take j)) ∧ ZR (z.leaves (l.take j)) ∧ Fr [kk] W2 wr)) (fun cv _ => vn - (intOf cv).toNat)
  case atStart => exact ⟨0, sa, sn, sc, ra, rn, rc, xa, xn, xc, Nat.zero_le _, rfl, Lib.hid ⟨HOUT.out, HR.out, HZ.out.1, HZ.out.2, Fr.refl _ _⟩⟩
  case round =>
    obtain ⟨j, pa, pn, pc, qa, qn, qc, oa, on, oc, hj, rfl, HD⟩ := hrel
    obtain ⟨d1, d2, d3, d4, d5⟩ := HD.out
    clear HD
    by_cases hlt : j < vn
    · have hjl : j < l.length := by rw [← HM.out]; exact hlt
      have hjI : (j : Int) < (vn : Int) := by omega
      have hlm := lvC_take HZ.out.1 HT.out.2 HT.out.1 hjl d3
      have hnx := Lib.hid (leaves_take (z := z) l hjl)
      have hlv := Lib.hid (lvC_in d3 hlm)
      have hIL : l[j] < (z.leaves (l.take j)).S.length := d3.inS _ (List.mem_map.2 ⟨_, hlm, rfl⟩)
      have hz1 := d3.leave d4 hIL
      have hz2 := d4.leave hIL
      rw [← hnx.out] at hz1 hz2
      have hcj : j < (cat l).length := by simpa [cat] using hjl
      have hvr : Row TI wr zz (.slice va vn vc) (cat l) := HV.out.fr d5 (fun g hg => by have := HV.out.ne HOUT.out (by decide) g hg; simpa using this)
      obtain ⟨g, c1, e1, _, gl, _, hc⟩ := hvr.at TI_ok (List.getElem?_eq_getElem hcj)
      have hc0 := hc 0 (.int .i64 (cat l)[j]) rfl
      have hcv : (cat l)[j] = ((l[j] : Nat) : Int) := by simp [cat]
      rw [hcv] at hc0
      simp only [Value.slice.injEq] at e1
      obtain ⟨rfl, -, rfl⟩ := e1
      have hc0 : wr.cell? ⟨g, j, none⟩ = some (.int .i64 ((l[j] : Nat) : Int)) := by simpa [TI] using hc0
      have hgk : g ≠ kk := HV.out.ne HOUT.out (by decide) g rfl
      have HZN := Lib.hid (And.intro hz1 hz2)
      have HD := Lib.hid (And.intro d2 (And.intro d3 d5))
      have k0 : wr.cell? ⟨kk, 0, none⟩ = some (.slice pa pn pc) := cells_cell d1 rfl
      have k1 : wr.cell? ⟨kk, 1, none⟩ = some (.slice qa qn qc) := cells_cell d1 rfl
      have k2 : wr.cell? ⟨kk, 2, none⟩ = some (.slice oa on oc) := cells_cell d1 rfl
      have kl := lt_of_block d1
      have HK := Lib.hid d1
      generalize l[j] = n at *
      clear hlm hIL hz1 hz2 hcj hvr hc hcv d1 d2 d3 d4 d5 hjl
      go_wp2_with fail
      have hld : ∀ W', Below wr.heap.size wr W' → W'.cell? ⟨kk, 0, none⟩ = some (.slice pa pn pc) ∧ W'.cell? ⟨kk, 1, none⟩ = some (.slice qa qn qc) ∧ W'.cell? ⟨kk, 2, none⟩ = some (.slice oa on oc) ∧ W'.cell? ⟨g, j, none⟩ = some (.int .i64 ((n : Nat) : Int)) ∧ kk < W'.heap.size ∧ g < W'.heap.size := fun W' hb => ⟨(hb.cell (p := ⟨kk, 0, none⟩) kl).trans k0, (hb.cell (p := ⟨kk, 1, none⟩) kl).trans k1, (hb.cell (p := ⟨kk, 2, none⟩) kl).trans k2, (hb.cell (p := ⟨g, j, none⟩) gl).trans hc0, Nat.lt_of_lt_of_le kl hb.size, Nat.lt_of_lt_of_le gl hb.size⟩
      have HS : Hid (Below wr.heap.size wr wr.drew) := Lib.hid (Below.refl _ _).drew
      refine wp_region_two (fun W' => Below wr.heap.size wr W') (fun _ => True) 7 [(true, 0), (true, 1), (true, 2), (true, 3), (true, 4), (false, 5), (true, 6)] [(true, 7), (true, 8), (true, 9), (false, 10)] (by kernel_rfl) (by kernel_rfl) (fun _ _ _ d _ h => by cases d <;> exact h) ?_
      simp only [List.map_cons, List.map_nil, List.getD_cons_zero, List.getD_cons_succ, List.drop_succ_cons, List.drop_zero]
      refine mix_take (.agg #[.slice pa pn pc, .slice qa qn qc, .slice oa on oc]) HS.out rfl (fun W' hS => by obtain ⟨l0, l1, l2, l3, l4, l5⟩ := hld W' hS; go_simp) ?_
      simp only [Act.put, List.setIfInBounds_toArray, List.set_cons_zero, List.set_cons_succ]
      refine mix_move (.tmp 7) (.slice (some ⟨g, 0, none⟩) vn vc) rfl HS.out rfl rfl ?_
      simp only [Act.put, List.setIfInBounds_toArray, List.set_cons_zero, List.set_cons_succ]
      refine mix_move (.tmp 10) (.int .i64 ((j : Nat) : Int)) rfl HS.out rfl rfl ?_
      simp only [Act.put, List.setIfInBounds_toArray, List.set_cons_zero, List.set_cons_succ]
      refine mix_take (.pointer (some ⟨g, j, none⟩)) HS.out rfl (fun W' hS => by obtain ⟨l0, l1, l2, l3, l4, l5⟩ := hld W' hS; go_simp) ?_
      simp only [Act.put, List.setIfInBounds_toArray, List.set_cons_zero, List.set_cons_succ]
      refine mix_take (.int .i64 ((n : Nat) : Int)) HS.out rfl (fun W' hS => by obtain ⟨l0, l1, l2, l3, l4, l5⟩ := hld W' hS; go_simp) ?_
      simp only [Act.put, List.setIfInBounds_toArray, List.set_cons_zero, List.set_cons_succ]
      refine mix_step rfl (fun K hK => ?_)
      go_simp
      go_wp2_with (go_at_call 38; fail)
      have hlv2 := g9Leave_any (HD.out.1.below HS.out) (by have h1 := HB0.out; have h2 := HWB.out.size; have h3 := HD.out.2.2.size; have h4 := HS.out.size; have h5 := HZZ.out; omega) HD.out.2.1 ((n : Nat) : Int)
      rw [hlv.out] at hlv2
      refine hlv2.mono ?_
      rintro e w4 ⟨s2, r2, x2, rfl, hr4, hb4⟩
      obtain ⟨sa2, sn2, sc2, ra2, rn2, rc2, xa2, xn2, xc2, rfl, rfl, rfl⟩ := rl_form hr4
      simp only at hr4
      unfold rlv
      have HS4 := Lib.hid (HS.out.trans (hb4.mono HS.out.size))
      refine hK _ _ HS4.out ?_
      clear hK hlv2 HS hld
      have HS := HS4
      refine mix_move (.tmp 30) (.tuple #[.agg #[.slice sa2 sn2 sc2, .slice ra2 rn2 rc2, .slice xa2 xn2 xc2], .agg #[.int .i64 t1, .int .i64 t2], .int .i64 0]) rfl HS.out rfl rfl ?_
      simp only [Act.put, List.setIfInBounds_toArray, List.set_cons_zero, List.set_cons_succ]
      refine mix_nil ?_
      clear HS
      have HS : Hid True := Lib.hid trivial
      refine mix_take (.agg #[.slice sa2 sn2 sc2, .slice ra2 rn2 rc2, .slice xa2 xn2 xc2]) HS.out rfl (fun W' hS => by go_simp) ?_
      simp only [Act.put, List.setIfInBounds_toArray, List.set_cons_zero, List.set_cons_succ]
      refine mix_take (.agg #[.int .i64 t1, .int .i64 t2]) HS.out rfl (fun W' hS => by go_simp) ?_
      simp only [Act.put, List.setIfInBounds_toArray, List.set_cons_zero, List.set_cons_succ]
      refine mix_take (.int .i64 0) HS.out rfl (fun W' hS => by go_simp) ?_
      simp only [Act.put, List.setIfInBounds_toArray, List.set_cons_zero, List.set_cons_succ]
      have hk4 := (HS4.out.block _ kl).trans HK.out
      have hf4 := Fr.of_below HS4.out []
      clear k0 k1 k2 hc0 gl HS
      clear kl
      have k0 : w4.cell? ⟨kk, 0, none⟩ = some (.slice pa pn pc) := cells_cell hk4 rfl
      have k1 : w4.cell? ⟨kk, 1, none⟩ = some (.slice qa qn qc) := cells_cell hk4 rfl
      have k2 : w4.cell? ⟨kk, 2, none⟩ = some (.slice oa on oc) := cells_cell hk4 rfl
      have f0 := cells_free hk4 0
      have f1 := cells_free hk4 1
      have f2 := cells_free hk4 2
      have kl := lt_of_block hk4
      have hf := ((fr_setCell w4 ⟨kk, 0, none⟩ (.slice sa2 sn2 sc2)).trans' (fr_setCell _ ⟨kk, 1, none⟩ (.slice ra2 rn2 rc2))).trans' (fr_setCell _ ⟨kk, 2, none⟩ (.slice xa2 xn2 xc2))
      have hk5 := cells_set (cells_set (cells_set hk4 0 (.slice sa2 sn2 sc2)) 1 (.slice ra2 rn2 rc2)) 2 (.slice xa2 xn2 xc2)
      simp at hk5
      have HDN : Hid (_ ∧ _ ∧ _ ∧ _ ∧ _) := Lib.hid (And.intro hk5 (And.intro (show RL _ b (.slice sa2 sn2 sc2) (.slice ra2 rn2 rc2) (.slice xa2 xn2 xc2) (z.leaves (l.take (j + 1))) by rw [hnx.out]; exact hr4.fr hf (fun k hk => by simp at hk; subst hk; exact ⟨_, _, hk4, by decide, by decide⟩)) (And.intro HZN.out.1 (And.intro HZN.out.2 ((HD.out.2.2.trans hf4 (fun y hy => by simp at hy)).trans' hf)))))
      clear hk4 hf4 hf hk5 hr4 hb4 HD HZN HK HS4 hlv hnx
      refine mix_step rfl (fun K hK => ?_)
      go_simp
      refine hK _ _ trivial ?_
      clear hK
      refine mix_nil ?_
      go_wp2_with fail
      go_roundw
      case rel => exact ⟨j + 1, sa2, sn2, sc2, ra2, rn2, rc2, xa2, xn2, xc2, by omega, by go_num, HDN⟩
      case measure => simp [intOf]; omega
    · obtain rfl : j = vn := by omega
      have hne : zz ≠ kk ∧ zz + 1 ≠ kk ∧ zz + 2 ≠ kk := by have h2 := HKL.out; omega
      have hO := d5.same HO.out (by simp; omega)
      have o0 : wr.cell? ⟨zz + 2, 0, none⟩ = some (.slice none 0 0) := cells_cell hO rfl
      have o1 : wr.cell? ⟨zz + 2, 1, none⟩ = some (.slice none 0 0) := cells_cell hO rfl
      have o2 : wr.cell? ⟨zz + 2, 2, none⟩ = some (.slice none 0 0) := cells_cell hO rfl
      have f0 := cells_free hO 0
      have f1 := cells_free hO 1
      have f2 := cells_free hO 2
      have ol := lt_of_block hO
      have k0 : wr.cell? ⟨kk, 0, none⟩ = some (.slice pa pn pc) := cells_cell d1 rfl
      have k1 : wr.cell? ⟨kk, 1, none⟩ = some (.slice qa qn qc) := cells_cell d1 rfl
      have k2 : wr.cell? ⟨kk, 2, none⟩ = some (.slice oa on oc) := cells_cell d1 rfl
      have kl := lt_of_block d1
      have hf := ((fr_setCell wr ⟨zz + 2, 0, none⟩ (.slice pa pn pc)).trans' (fr_setCell _ ⟨zz + 2, 1, none⟩ (.slice qa qn qc))).trans' (fr_setCell _ ⟨zz + 2, 2, none⟩ (.slice oa on oc))
      have HY4 := Lib.hid (cells_set (cells_set (cells_set hO 0 (.slice pa pn pc)) 1 (.slice qa qn qc)) 2 (.slice oa on oc))
      have hb := HWB.out.trans (d5.below (B := zz) (fun y hy => by simp at hy; have h2 := HKL.out; omega) (by have h1 := HWB.out.size; have h2 := HZZ.out; omega))
      have HB5 := Lib.hid (hb.trans (hf.below (B := zz) (fun x hx => by simp at hx; omega) (by have h1 := hb.size; have h2 := HZZ.out; omega)))
      have hrl : RL wr b (.slice pa pn pc) (.slice qa qn qc) (.slice oa on oc) (z.leaves l) := by
        have := d2
        rw [HM.out, List.take_length] at this
        exact this
      have HR5 := Lib.hid (hrl.fr hf (fun k hk => by simp at hk; subst hk; exact ⟨_, _, hO, by decide, by decide⟩))
      have HV5 := Lib.hid ((HV.out.fr d5 (fun g hg => by have := HV.out.ne HOUT.out (by decide) g hg; simpa using this)).fr hf (fun g hg => by have := (HV.out.ne HO.out (by decide) g hg); simpa using this))
      clear hf hb hrl d1 d2 d3 d4 d5 hO HR HX HY HO hne
      go_wp2_with fail
      have hy2 := HY4.out
      simp at hy2
      refine bodyPost_ret (v := .tuple #[.agg #[.slice pa pn pc, .slice qa qn qc, .slice oa on oc], .slice va j vc, .int .i64 c]) (by simp [results, Tryd.results37, go_sem, cells_cell (o := 0) hy2 rfl, cells_cell (o := 1) hy2 rfl, cells_cell (o := 2) hy2 rfl]) rfl ?_
      exact ⟨_, _, _, _, rfl, HR5.out, by first | exact HV5.out | (rw [HZZ.out]; exact HV5.out), by first | exact HB5.out | (rw [HZZ.out]; exact HB5.out)⟩
end Go.Proofs.YtcdimopiaanfbaaDoor
/- The reference: Wake. -/
namespace Go.Proofs.YtcdimopiaanfbaaDoor
open Go.RowKit Go.Sort
set_option linter.unusedVariables false
set_option linter.unusedSimpArgs false

/-- What Wake of the reference returns. -/
def KAns (w : World) (b : Nat) (n code : Int) (z : Zt) (e : Ending) (w' : World) : Prop :=
  ∃ s r x, e = .returned (.tuple #[rlv s r x, .int .i64 n, .int .i64 code]) ∧ RL w' b s r x z ∧ Below w.heap.size w w'

set_option maxHeartbeats 1600000 in
theorem g9Wake_bad {w : World} {b : Nat} {s r x : Value} {z : Zt} (h : RL w b s r x z) (hb0 : b ≤ w.heap.size) (hz : ZK z) {t : Sp} (ht : ¬ SpOk t) : Calls Tryd.prog 36 #[rlv s r x, .agg #[.int .i64 t.1, .int .i64 t.2]] w (KAns w b 0 2 z) := by
  obtain ⟨sa, sn, sc, ra, rn, rc, xa, xn, xc, rfl, rfl, rfl⟩ := rl_form h
  obtain ⟨t1, t2⟩ := t
  obtain ⟨W, hW⟩ : ∃ W, ((w.alloc (.cells #[.slice sa sn sc, .slice ra rn rc, .slice xa xn xc] 33)).alloc (.cells #[.int .i64 t1, .int .i64 t2] 38)).alloc (.cells #[.slice none 0 0, .slice none 0 0, .slice none 0 0] 33) = W := ⟨_, rfl⟩
  have HWB : Hid (Below w.heap.size w W) := Lib.hid (by rw [← hW]; exact ((((Grn.refl w).alloc _).alloc _).alloc _).below)
  have HX : Hid (W.heap[w.heap.size]? = some (.cells #[.slice sa sn sc, .slice ra rn rc, .slice xa xn xc] 33 (0, 0))) := Lib.hid (by rw [← hW]; exact ((below_alloc _ _).block _ (by simp; omega)).trans (((below_alloc _ _).block _ (by simp)).trans (block_new _ _ _ rfl)))
  have HY : Hid (W.heap[w.heap.size + 1]? = some (.cells #[.int .i64 t1, .int .i64 t2] 38 (0, 0))) := Lib.hid (by rw [← hW]; exact ((below_alloc _ _).block _ (by simp)).trans (block_new _ _ _ (by simp)))
  have HO : Hid (W.heap[w.heap.size + 2]? = some (.cells #[.slice none 0 0, .slice none 0 0, .slice none 0 0] 33 (0, 0))) := Lib.hid (by rw [← hW]; exact block_new _ _ _ (by simp))
  have HR := Lib.hid (h.below HWB.out)
  have HB0 : Hid (b ≤ w.heap.size) := Lib.hid hb0
  have hwa := Lib.hid (g9Waiting_bad HR.out ht)
  simp only at hwa ⊢
  clear hz ht
  have HW := Lib.hid hW
  clear h hW hb0
  unfold rlv
  unfold rlv at hwa
  go_enter Tryd.func36, Tryd.ntmps36
  go_wp2_with fail
  rw [HW.out]
  clear HW
  generalize hzz : w.heap.size = zz at *
  have HZZ := Lib.hid hzz
  clear hzz
  have x0 : W.cell? ⟨zz, 0, none⟩ = some (.slice sa sn sc) := cells_cell HX.out rfl
  have x1 : W.cell? ⟨zz, 1, none⟩ = some (.slice ra rn rc) := cells_cell HX.out rfl
  have x2 : W.cell? ⟨zz, 2, none⟩ = some (.slice xa xn xc) := cells_cell HX.out rfl
  have xl := lt_of_block HX.out
  have y0 : W.cell? ⟨zz + 1, 0, none⟩ = some (.int .i64 t1) := cells_cell HY.out rfl
  have y1 : W.cell? ⟨zz + 1, 1, none⟩ = some (.int .i64 t2) := cells_cell HY.out rfl
  have yl := lt_of_block HY.out
  go_wp2_with (go_at_call 41; fail)
  refine hwa.out.mono ?_
  rintro e w1 ⟨rfl, hg⟩
  clear x0 x1 x2 xl y0 y1 yl
  clear hwa
  replace HX := Lib.hid ((hg.block _ (lt_of_block HX.out)).trans HX.out)
  replace HY := Lib.hid ((hg.block _ (lt_of_block HY.out)).trans HY.out)
  replace HO := Lib.hid ((hg.block _ (lt_of_block HO.out)).trans HO.out)
  replace HR := Lib.hid (HR.out.below hg)
  replace HWB := Lib.hid (HWB.out.trans (hg.mono (by have h1 := HWB.out.size; have h2 := HZZ.out; omega)))
  have x0 : w1.cell? ⟨zz, 0, none⟩ = some (.slice sa sn sc) := cells_cell HX.out rfl
  have x1 : w1.cell? ⟨zz, 1, none⟩ = some (.slice ra rn rc) := cells_cell HX.out rfl
  have x2 : w1.cell? ⟨zz, 2, none⟩ = some (.slice xa xn xc) := cells_cell HX.out rfl
  have xl := lt_of_block HX.out
  have o0 : w1.cell? ⟨zz + 2, 0, none⟩ = some (.slice none 0 0) := cells_cell HO.out rfl
  have o1 : w1.cell? ⟨zz + 2, 1, none⟩ = some (.slice none 0 0) := cells_cell HO.out rfl
  have o2 : w1.cell? ⟨zz + 2, 2, none⟩ = some (.slice none 0 0) := cells_cell HO.out rfl
  have f0 := cells_free HO.out 0
  have f1 := cells_free HO.out 1
  have f2 := cells_free HO.out 2
  have ol := lt_of_block HO.out
  have hf := ((fr_setCell w1 ⟨zz + 2, 0, none⟩ (.slice sa sn sc)).trans' (fr_setCell _ ⟨zz + 2, 1, none⟩ (.slice ra rn rc))).trans' (fr_setCell _ ⟨zz + 2, 2, none⟩ (.slice xa xn xc))
  have HY4 := Lib.hid (cells_set (cells_set (cells_set HO.out 0 (.slice sa sn sc)) 1 (.slice ra rn rc)) 2 (.slice xa xn xc))
  have HB5 := Lib.hid (HWB.out.trans (hf.below (B := zz) (fun x hx => by simp at hx; omega) (by have h1 := HWB.out.size; have h2 := HZZ.out; omega)))
  have HR5 := Lib.hid (HR.out.fr hf (fun k hk => by simp at hk; subst hk; exact ⟨_, _, HO.out, by decide, by decide⟩))
  clear hf
  go_wp2_with fail
  have hy2 := HY4.out
  simp at hy2
  refine bodyPost_ret (v := .tuple #[.agg #[.slice sa sn sc, .slice ra rn rc, .slice xa xn xc], .int .i64 0, .int .i64 2]) (by simp [results, Tryd.results36, go_sem, cells_cell (o := 0) hy2 rfl, cells_cell (o := 1) hy2 rfl, cells_cell (o := 2) hy2 rfl]) rfl ?_
  exact ⟨_, _, _, rfl, HR5.out, by first | exact HB5.out | (rw [HZZ.out]; exact HB5.out)⟩

set_option maxHeartbeats 1600000 in
theorem g9Wake_none {w : World} {b : Nat} {s r x : Value} {z : Zt} (h : RL w b s r x z) (hb0 : b ≤ w.heap.size) (hz : ZK z) {t : Sp} (ht : SpOk t) (hn : wt t z.L = []) : Calls Tryd.prog 36 #[rlv s r x, .agg #[.int .i64 t.1, .int .i64 t.2]] w (KAns w b 0 9 z) := by
  obtain ⟨sa, sn, sc, ra, rn, rc, xa, xn, xc, rfl, rfl, rfl⟩ := rl_form h
  obtain ⟨t1, t2⟩ := t
  obtain ⟨W, hW⟩ : ∃ W, ((w.alloc (.cells #[.slice sa sn sc, .slice ra rn rc, .slice xa xn xc] 33)).alloc (.cells #[.int .i64 t1, .int .i64 t2] 38)).alloc (.cells #[.slice none 0 0, .slice none 0 0, .slice none 0 0] 33) = W := ⟨_, rfl⟩
  have HWB : Hid (Below w.heap.size w W) := Lib.hid (by rw [← hW]; exact ((((Grn.refl w).alloc _).alloc _).alloc _).below)
  have HX : Hid (W.heap[w.heap.size]? = some (.cells #[.slice sa sn sc, .slice ra rn rc, .slice xa xn xc] 33 (0, 0))) := Lib.hid (by rw [← hW]; exact ((below_alloc _ _).block _ (by simp; omega)).trans (((below_alloc _ _).block _ (by simp)).trans (block_new _ _ _ rfl)))
  have HY : Hid (W.heap[w.heap.size + 1]? = some (.cells #[.int .i64 t1, .int .i64 t2] 38 (0, 0))) := Lib.hid (by rw [← hW]; exact ((below_alloc _ _).block _ (by simp)).trans (block_new _ _ _ (by simp)))
  have HO : Hid (W.heap[w.heap.size + 2]? = some (.cells #[.slice none 0 0, .slice none 0 0, .slice none 0 0] 33 (0, 0))) := Lib.hid (by rw [← hW]; exact block_new _ _ _ (by simp))
  have HR := Lib.hid (h.below HWB.out)
  have HB0 : Hid (b ≤ w.heap.size) := Lib.hid hb0
  have hwa := Lib.hid (g9Waiting_ok HR.out hz ht)
  rw [hn] at hwa
  simp only at hwa ⊢
  clear hz ht
  have HW := Lib.hid hW
  clear h hW hb0
  unfold rlv
  unfold rlv at hwa
  go_enter Tryd.func36, Tryd.ntmps36
  go_wp2_with fail
  rw [HW.out]
  clear HW
  generalize hzz : w.heap.size = zz at *
  have HZZ := Lib.hid hzz
  clear hzz
  have x0 : W.cell? ⟨zz, 0, none⟩ = some (.slice sa sn sc) := cells_cell HX.out rfl
  have x1 : W.cell? ⟨zz, 1, none⟩ = some (.slice ra rn rc) := cells_cell HX.out rfl
  have x2 : W.cell? ⟨zz, 2, none⟩ = some (.slice xa xn xc) := cells_cell HX.out rfl
  have xl := lt_of_block HX.out
  have y0 : W.cell? ⟨zz + 1, 0, none⟩ = some (.int .i64 t1) := cells_cell HY.out rfl
  have y1 : W.cell? ⟨zz + 1, 1, none⟩ = some (.int .i64 t2) := cells_cell HY.out rfl
  have yl := lt_of_block HY.out
  go_wp2_with (go_at_call 41; fail)
  refine hwa.out.mono ?_
  rintro e w1 ⟨v, rfl, hv, hg⟩
  obtain ⟨va, vc, rfl, _, _⟩ := hv.form
  have e0 : (cat []).length = 0 := rfl
  rw [e0]
  clear x0 x1 x2 xl y0 y1 yl
  clear hwa hv e0
  replace HX := Lib.hid ((hg.block _ (lt_of_block HX.out)).trans HX.out)
  replace HY := Lib.hid ((hg.block _ (lt_of_block HY.out)).trans HY.out)
  replace HO := Lib.hid ((hg.block _ (lt_of_block HO.out)).trans HO.out)
  replace HR := Lib.hid (HR.out.below hg)
  replace HWB := Lib.hid (HWB.out.trans (hg.mono (by have h1 := HWB.out.size; have h2 := HZZ.out; omega)))
  have x0 : w1.cell? ⟨zz, 0, none⟩ = some (.slice sa sn sc) := cells_cell HX.out rfl
  have x1 : w1.cell? ⟨zz, 1, none⟩ = some (.slice ra rn rc) := cells_cell HX.out rfl
  have x2 : w1.cell? ⟨zz, 2, none⟩ = some (.slice xa xn xc) := cells_cell HX.out rfl
  have xl := lt_of_block HX.out
  have o0 : w1.cell? ⟨zz + 2, 0, none⟩ = some (.slice none 0 0) := cells_cell HO.out rfl
  have o1 : w1.cell? ⟨zz + 2, 1, none⟩ = some (.slice none 0 0) := cells_cell HO.out rfl
  have o2 : w1.cell? ⟨zz + 2, 2, none⟩ = some (.slice none 0 0) := cells_cell HO.out rfl
  have f0 := cells_free HO.out 0
  have f1 := cells_free HO.out 1
  have f2 := cells_free HO.out 2
  have ol := lt_of_block HO.out
  have hf := ((fr_setCell w1 ⟨zz + 2, 0, none⟩ (.slice sa sn sc)).trans' (fr_setCell _ ⟨zz + 2, 1, none⟩ (.slice ra rn rc))).trans' (fr_setCell _ ⟨zz + 2, 2, none⟩ (.slice xa xn xc))
  have HY4 := Lib.hid (cells_set (cells_set (cells_set HO.out 0 (.slice sa sn sc)) 1 (.slice ra rn rc)) 2 (.slice xa xn xc))
  have HB5 := Lib.hid (HWB.out.trans (hf.below (B := zz) (fun x hx => by simp at hx; omega) (by have h1 := HWB.out.size; have h2 := HZZ.out; omega)))
  have HR5 := Lib.hid (HR.out.fr hf (fun k hk => by simp at hk; subst hk; exact ⟨_, _, HO.out, by decide, by decide⟩))
  clear hf
  go_wp2_with fail
  have hy2 := HY4.out
  simp at hy2
  refine bodyPost_ret (v := .tuple #[.agg #[.slice sa sn sc, .slice ra rn rc, .slice xa xn xc], .int .i64 0, .int .i64 9]) (by simp [results, Tryd.results36, go_sem, cells_cell (o := 0) hy2 rfl, cells_cell (o := 1) hy2 rfl, cells_cell (o := 2) hy2 rfl]) rfl ?_
  exact ⟨_, _, _, rfl, HR5.out, by first | exact HB5.out | (rw [HZZ.out]; exact HB5.out)⟩

theorem clW0 : (allB 9).all (fun bs => !closedB [[], [0], [0, 1], [0, 1], [0, 1], [], [], [0, 1, 2, 5, 6], [0, 1, 2, 3, 5, 6, 7]] bs || ((!bs.getD 1 false || bs.getD 0 false) && (!bs.getD 2 false || bs.getD 1 false) && (!bs.getD 3 false || bs.getD 1 false) && (!bs.getD 4 false || bs.getD 1 false) && (!bs.getD 7 false || bs.getD 2 false) && (!bs.getD 7 false || bs.getD 5 false) && (!bs.getD 7 false || bs.getD 6 false) && (!bs.getD 8 false || bs.getD 7 false))) = true := by kernel_rfl
theorem clW (b0 b1 b2 b3 b4 b5 b6 b7 b8 : Bool) (h : closedB [[], [0], [0, 1], [0, 1], [0, 1], [], [], [0, 1, 2, 5, 6], [0, 1, 2, 3, 5, 6, 7]] [b0, b1, b2, b3, b4, b5, b6, b7, b8] = true) : (b1 = true → b0 = true) ∧ (b2 = true → b1 = true) ∧ (b3 = true → b1 = true) ∧ (b4 = true → b1 = true) ∧ (b7 = true → b2 = true ∧ b5 = true ∧ b6 = true) ∧ (b8 = true → b7 = true) := by
  have h1 := List.all_eq_true.1 clW0 [b0, b1, b2, b3, b4, b5, b6, b7, b8] (mem_allB rfl)
  rw [h] at h1
  simp only [Bool.not_true, Bool.false_or, List.getD_cons_zero, List.getD_cons_succ, Bool.and_eq_true, Bool.or_eq_true, Bool.not_eq_true'] at h1
  obtain ⟨⟨⟨⟨⟨⟨⟨a1, a2⟩, a3⟩, a4⟩, a5⟩, a6⟩, a7⟩, a8⟩ := h1
  have key : ∀ x y : Bool, (x = false ∨ y = true) → x = true → y = true := fun x y h hx => by
    rcases h with h | h
    · rw [hx] at h; cases h
    · exact h
  exact ⟨key _ _ a1, key _ _ a2, key _ _ a3, key _ _ a4, fun h => ⟨key _ _ a5 h, key _ _ a6 h, key _ _ a7 h⟩, key _ _ a8⟩

set_option maxRecDepth 100000 in
set_option maxHeartbeats 3200000 in
theorem g9Wake_some {w : World} {b : Nat} {s r x : Value} {z : Zt} (h : RL w b s r x z) (hb0 : b ≤ w.heap.size) (hz : ZK z) {t : Sp} (ht : SpOk t) {i : Nat} {q : List Nat} (hn : wt t z.L = i :: q) : Calls Tryd.prog 36 #[rlv s r x, .agg #[.int .i64 t.1, .int .i64 t.2]] w (KAns w b ((i : Nat) : Int) 0 (z.leave i)) := by
  obtain ⟨sa, sn, sc, ra, rn, rc, xa, xn, xc, rfl, rfl, rfl⟩ := rl_form h
  obtain ⟨t1, t2⟩ := t
  obtain ⟨W, hW⟩ : ∃ W, ((w.alloc (.cells #[.slice sa sn sc, .slice ra rn rc, .slice xa xn xc] 33)).alloc (.cells #[.int .i64 t1, .int .i64 t2] 38)).alloc (.cells #[.slice none 0 0, .slice none 0 0, .slice none 0 0] 33) = W := ⟨_, rfl⟩
  have HWB : Hid (Below w.heap.size w W) := Lib.hid (by rw [← hW]; exact ((((Grn.refl w).alloc _).alloc _).alloc _).below)
  have HX : Hid (W.heap[w.heap.size]? = some (.cells #[.slice sa sn sc, .slice ra rn rc, .slice xa xn xc] 33 (0, 0))) := Lib.hid (by rw [← hW]; exact ((below_alloc _ _).block _ (by simp; omega)).trans (((below_alloc _ _).block _ (by simp)).trans (block_new _ _ _ rfl)))
  have HY : Hid (W.heap[w.heap.size + 1]? = some (.cells #[.int .i64 t1, .int .i64 t2] 38 (0, 0))) := Lib.hid (by rw [← hW]; exact ((below_alloc _ _).block _ (by simp)).trans (block_new _ _ _ (by simp)))
  have HO : Hid (W.heap[w.heap.size + 2]? = some (.cells #[.slice none 0 0, .slice none 0 0, .slice none 0 0] 33 (0, 0))) := Lib.hid (by rw [← hW]; exact block_new _ _ _ (by simp))
  have HR := Lib.hid (h.below HWB.out)
  have HB0 : Hid (b ≤ w.heap.size) := Lib.hid hb0
  have hwa := Lib.hid (g9Waiting_ok HR.out hz ht)
  rw [hn] at hwa
  have hm : (i, (t1, t2)) ∈ z.L := mem_wt.1 (by rw [hn]; exact List.mem_cons_self)
  have hlv : Hid (∀ {W : World} {s r x : Value}, b ≤ W.heap.size → RL W b s r x z → Calls Tryd.prog 38 #[rlv s r x, .int .i64 ((i : Nat) : Int)] W (LAns W b (t1, t2) 0 (z.leave i))) := Lib.hid (fun hb h => g9Leave_ok h hb hz hm)
  simp only at hwa ⊢
  have hlq : (i :: q).length ≤ 1000 := by
    have h1 := cwt_len (t1, t2) z.L
    rw [hn] at h1
    have := hz.l
    simp [cat] at h1 ⊢
    omega
  clear hz ht hm hn
  have HW := Lib.hid hW
  clear h hW hb0
  unfold rlv
  unfold rlv at hwa
  go_enter Tryd.func36, Tryd.ntmps36
  go_wp2_with fail
  rw [HW.out]
  clear HW
  generalize hzz : w.heap.size = zz at *
  have HZZ := Lib.hid hzz
  clear hzz
  have x0 : W.cell? ⟨zz, 0, none⟩ = some (.slice sa sn sc) := cells_cell HX.out rfl
  have x1 : W.cell? ⟨zz, 1, none⟩ = some (.slice ra rn rc) := cells_cell HX.out rfl
  have x2 : W.cell? ⟨zz, 2, none⟩ = some (.slice xa xn xc) := cells_cell HX.out rfl
  have xl := lt_of_block HX.out
  have y0 : W.cell? ⟨zz + 1, 0, none⟩ = some (.int .i64 t1) := cells_cell HY.out rfl
  have y1 : W.cell? ⟨zz + 1, 1, none⟩ = some (.int .i64 t2) := cells_cell HY.out rfl
  have yl := lt_of_block HY.out
  go_wp2_with (go_at_call 41; fail)
  refine hwa.out.mono ?_
  rintro e w1 ⟨v, rfl, hv, hg⟩
  clear x0 x1 x2 xl y0 y1 yl
  clear hwa
  replace HX := Lib.hid ((hg.block _ (lt_of_block HX.out)).trans HX.out)
  replace HY := Lib.hid ((hg.block _ (lt_of_block HY.out)).trans HY.out)
  replace HO := Lib.hid ((hg.block _ (lt_of_block HO.out)).trans HO.out)
  replace HR := Lib.hid (HR.out.below hg)
  replace HWB := Lib.hid (HWB.out.trans (hg.mono (by have h1 := HWB.out.size; have h2 := HZZ.out; omega)))
  have hc0 : 0 < (cat (i :: q)).length := by simp [cat]
  obtain ⟨g, vc, rfl, gb, gl, _, hcc⟩ := hv.at TI_ok (List.getElem?_eq_getElem hc0)
  have hcv : (cat (i :: q))[0] = ((i : Nat) : Int) := by simp [cat]
  have hg0 := hcc 0 (.int .i64 (cat (i :: q))[0]) rfl
  rw [hcv] at hg0
  have hg0 : w1.cell? ⟨g, 0, none⟩ = some (.int .i64 ((i : Nat) : Int)) := by simpa [TI] using hg0
  have hvl : (cat (i :: q)).length = q.length + 1 := by simp [cat]
  rw [hvl] at hv ⊢
  obtain ⟨m, hm⟩ : ∃ m, m = q.length + 1 := ⟨_, rfl⟩
  have hmI : ((m : Nat) : Int) ≤ 1000 := by simp at hlq; omega
  have hm0 : ((m : Nat) : Int) ≠ 0 := by omega
  have hm1 : (((m : Nat) : Int) == 0) = false := by simpa using hm0
  have hm2 : 0 < m := by omega
  rw [← hm] at hv ⊢
  have HV := Lib.hid hv
  clear hc0 hcc hcv hvl hlq hm hv
  have HG := Lib.hid hg
  clear hg
  go_wp2_with fail
  have hld : ∀ W', Below w1.heap.size w1 W' → W'.cell? ⟨zz, 0, none⟩ = some (.slice sa sn sc) ∧ W'.cell? ⟨zz, 1, none⟩ = some (.slice ra rn rc) ∧ W'.cell? ⟨zz, 2, none⟩ = some (.slice xa xn xc) ∧ W'.cell? ⟨g, 0, none⟩ = some (.int .i64 ((i : Nat) : Int)) ∧ zz < W'.heap.size ∧ g < W'.heap.size := fun W' hb => by
    have e0 := (hb.block _ (lt_of_block HX.out)).trans HX.out
    exact ⟨cells_cell e0 rfl, cells_cell e0 rfl, cells_cell e0 rfl, (hb.cell (p := ⟨g, 0, none⟩) gl).trans hg0, lt_of_block e0, Nat.lt_of_lt_of_le gl hb.size⟩
  have HSZ : Hid (Below w1.heap.size w1 w1.drew) := Lib.hid (Below.refl _ _).drew
  have HBW : Hid (b ≤ w1.heap.size) := Lib.hid (by have h1 := HWB.out.size; have h2 := HZZ.out; have h3 := HB0.out; omega)
  refine wp_region_flags (fun W' => Below w1.heap.size w1 W') 13 [(true, 0), (true, 1), (true, 2), (true, 3)] [4, 5, 6, 7, 8, 9, 10, 11, 12] [[], [0], [0, 1], [0, 1], [0, 1], [], [], [0, 1, 2, 5, 6], [0, 1, 2, 3, 5, 6, 7]]
    (fun bs a V => ∃ (X26 X31 X32 X33 X34 U9 U10 : Value) (pa : Option Addr) (pn pc : Nat) (qa : Option Addr) (qn qc : Nat) (oa : Option Addr) (on oc : Nat) (k9 k10 : Nat), a = { tmps := #[.agg #[.slice sa sn sc, .slice ra rn rc, .slice xa xn xc], .agg #[.int .i64 t1, .int .i64 t2], .pointer (some ⟨zz, 0, none⟩), .pointer (some ⟨zz + 1, 0, none⟩), .pointer (some ⟨zz + 1 + 1, 0, none⟩), .int .i64 0, .int .i64 0, .slice (some ⟨g, 0, none⟩) m vc, .int .i64 0, U9, U10, undef, .tuple #[.slice (some ⟨g, 0, none⟩) m vc, .int .i64 0], .agg #[.slice sa sn sc, .slice ra rn rc, .slice xa xn xc], .agg #[.int .i64 t1, .int .i64 t2], .tuple #[.slice (some ⟨g, 0, none⟩) m vc, .int .i64 0], .slice (some ⟨g, 0, none⟩) m vc, .int .i64 0, .int .i64 0, .bool false, undef, undef, .slice (some ⟨g, 0, none⟩) m vc, .int .i64 ((m : Nat) : Int), .bool false, undef, X26, .agg #[.slice sa sn sc, .slice ra rn rc, .slice xa xn xc], .slice (some ⟨g, 0, none⟩) m vc, .pointer (some ⟨g, 0, none⟩), .int .i64 ((i : Nat) : Int), X31, X32, X33, X34, undef, undef, undef, undef], defers := [] } ∧ Below w1.heap.size w1 V ∧
      (bs.getD 0 false = true → X31 = .tuple #[.agg #[.slice pa pn pc, .slice qa qn qc, .slice oa on oc], .agg #[.int .i64 t1, .int .i64 t2], .int .i64 0] ∧ RL V b (.slice pa pn pc) (.slice qa qn qc) (.slice oa on oc) (z.leave i)) ∧ (bs.getD 1 false = true → X26 = .tuple #[.agg #[.slice pa pn pc, .slice qa qn qc, .slice oa on oc], .agg #[.int .i64 t1, .int .i64 t2], .int .i64 0]) ∧ (bs.getD 2 false = true → X32 = .agg #[.slice pa pn pc, .slice qa qn qc, .slice oa on oc]) ∧ (bs.getD 3 false = true → X33 = .agg #[.int .i64 t1, .int .i64 t2]) ∧ (bs.getD 4 false = true → X34 = .int .i64 0) ∧
      (bs.getD 5 false = true → U9 = .pointer (some ⟨k9, 0, none⟩) ∧ w1.heap.size ≤ k9 ∧ ∃ y0 y1 y2, V.heap[k9]? = some (.cells #[y0, y1, y2] 33 (0, 0)) ∧ (bs.getD 7 false = true → y0 = .slice pa pn pc ∧ y1 = .slice qa qn qc ∧ y2 = .slice oa on oc)) ∧
      (bs.getD 6 false = true → U10 = .pointer (some ⟨k10, 0, none⟩) ∧ w1.heap.size ≤ k10 ∧ ∃ y0 y1, V.heap[k10]? = some (.cells #[y0, y1] 38 (0, 0))))
    (by kernel_rfl) (by kernel_rfl) (by kernel_rfl) (by kernel_rfl) (by kernel_rfl) (fun _ _ _ d _ h => by cases d <;> exact h) ?hstep ?hend ?hbegin
  case hbegin =>
    simp only [List.map_cons, List.map_nil, List.getD_cons_zero, List.getD_cons_succ, List.drop_succ_cons, List.drop_zero]
    refine mix_take (.agg #[.slice sa sn sc, .slice ra rn rc, .slice xa xn xc]) HSZ.out rfl (fun W' hS => by obtain ⟨l0, l1, l2, l3, l4, l5⟩ := hld W' hS; go_simp) ?_
    simp only [Act.put, List.setIfInBounds_toArray, List.set_cons_zero, List.set_cons_succ]
    refine mix_move (.tmp 7) (.slice (some ⟨g, 0, none⟩) m vc) rfl HSZ.out rfl rfl ?_
    simp only [Act.put, List.setIfInBounds_toArray, List.set_cons_zero, List.set_cons_succ]
    refine mix_take (.pointer (some ⟨g, 0, none⟩)) HSZ.out rfl (fun W' hS => by obtain ⟨l0, l1, l2, l3, l4, l5⟩ := hld W' hS; go_simp) ?_
    simp only [Act.put, List.setIfInBounds_toArray, List.set_cons_zero, List.set_cons_succ]
    refine mix_take (.int .i64 ((i : Nat) : Int)) HSZ.out rfl (fun W' hS => by obtain ⟨l0, l1, l2, l3, l4, l5⟩ := hld W' hS; go_simp) ?_
    simp only [Act.put, List.setIfInBounds_toArray, List.set_cons_zero, List.set_cons_succ]
    refine mix_nil ?_
    exact ⟨undef, undef, undef, undef, undef, undef, undef, none, 0, 0, none, 0, 0, none, 0, 0, 0, 0, rfl, HSZ.out, (fun h => by cases h), (fun h => by cases h), (fun h => by cases h), (fun h => by cases h), (fun h => by cases h), (fun h => by cases h), (fun h => by cases h)⟩
  case hstep =>
    intro bs j a V hbs hcl hj hpre hJ
    obtain ⟨X26, X31, X32, X33, X34, U9, U10, pa, pn, pc, qa, qn, qc, oa, on, oc, k9, k10, rfl, hb, h0, h1, h2, h3, h4, h5, h6⟩ := hJ
    obtain ⟨b0, b1, b2, b3, b4, b5, b6, b7, b8, rfl⟩ : ∃ b0 b1 b2 b3 b4 b5 b6 b7 b8, bs = [b0, b1, b2, b3, b4, b5, b6, b7, b8] := by
      match bs, hbs with
      | [b0, b1, b2, b3, b4, b5, b6, b7, b8], _ => exact ⟨b0, b1, b2, b3, b4, b5, b6, b7, b8, rfl⟩
    simp only [List.getD_cons_zero, List.getD_cons_succ] at h0 h1 h2 h3 h4 h5 h6
    obtain ⟨c1, c2, c3, c4, c7, c8⟩ := clW _ _ _ _ _ _ _ _ _ hcl
    clear hcl hbs
    match j, hj with
    | 0, hj =>
      simp at hj
      subst hj
      have n1 : b1 ≠ true := fun h => by have := c1 h; cases this
      have n2 : b2 ≠ true := fun h => n1 (c2 h)
      have n3 : b3 ≠ true := fun h => n1 (c3 h)
      have n4 : b4 ≠ true := fun h => n1 (c4 h)
      have n7 : b7 ≠ true := fun h => n2 (c7 h).1
      refine op_step rfl rfl (fun K hK => ?_)
      go_simp
      go_wp2_with (go_at_call 38; fail)
      refine (hlv.out (Nat.le_trans HBW.out hb.size) (HR.out.below hb)).mono ?_
      rintro e w3 ⟨s', r', x', rfl, hr3, hb3⟩
      obtain ⟨pa', pn', pc', qa', qn', qc', oa', on', oc', rfl, rfl, rfl⟩ := rl_form hr3
      refine hK _ _ ⟨hb.trans (hb3.mono hb.size), X26, _, X32, X33, X34, U9, U10, pa', pn', pc', qa', qn', qc', oa', on', oc', k9, k10, rfl, hb.trans (hb3.mono hb.size), (fun _ => ⟨rfl, hr3⟩), (fun h => absurd h n1), (fun h => absurd h n2), (fun h => absurd h n3), (fun h => absurd h n4), (fun h => ?_), (fun h => ?_)⟩
      · obtain ⟨e1, e2, y0, y1, y2, e3, _⟩ := h5 h
        exact ⟨e1, e2, y0, y1, y2, (hb3.block _ (lt_of_block e3)).trans e3, (fun h => absurd h n7)⟩
      · obtain ⟨e1, e2, y0, y1, e3⟩ := h6 h
        exact ⟨e1, e2, y0, y1, (hb3.block _ (lt_of_block e3)).trans e3⟩
    | 1, hj =>
      simp at hj
      subst hj
      have hb0' : b0 = true := by simpa using hpre
      obtain ⟨rfl, hr⟩ := h0 hb0'
      refine op_step rfl rfl (fun K hK => ?_)
      go_simp
      exact hK _ _ ⟨hb, _, _, X32, X33, X34, U9, U10, pa, pn, pc, qa, qn, qc, oa, on, oc, k9, k10, rfl, hb, (fun _ => ⟨rfl, hr⟩), (fun _ => rfl), h2, h3, h4, h5, h6⟩
    | 2, hj =>
      simp at hj
      subst hj
      have hbb : b0 = true ∧ b1 = true := by simpa using hpre
      obtain ⟨rfl, hr⟩ := h0 hbb.1
      obtain rfl := h1 hbb.2
      refine op_step rfl rfl (fun K hK => ?_)
      go_simp
      exact hK _ _ ⟨hb, _, _, _, X33, X34, U9, U10, pa, pn, pc, qa, qn, qc, oa, on, oc, k9, k10, rfl, hb, (fun _ => ⟨rfl, hr⟩), (fun _ => rfl), (fun _ => rfl), h3, h4, h5, h6⟩
    | 3, hj =>
      simp at hj
      subst hj
      have hbb : b0 = true ∧ b1 = true := by simpa using hpre
      obtain ⟨rfl, hr⟩ := h0 hbb.1
      obtain rfl := h1 hbb.2
      refine op_step rfl rfl (fun K hK => ?_)
      go_simp
      exact hK _ _ ⟨hb, _, _, X32, _, X34, U9, U10, pa, pn, pc, qa, qn, qc, oa, on, oc, k9, k10, rfl, hb, (fun _ => ⟨rfl, hr⟩), (fun _ => rfl), h2, (fun _ => rfl), h4, h5, h6⟩
    | 4, hj =>
      simp at hj
      subst hj
      have hbb : b0 = true ∧ b1 = true := by simpa using hpre
      obtain ⟨rfl, hr⟩ := h0 hbb.1
      obtain rfl := h1 hbb.2
      refine op_step rfl rfl (fun K hK => ?_)
      go_simp
      exact hK _ _ ⟨hb, _, _, X32, X33, _, U9, U10, pa, pn, pc, qa, qn, qc, oa, on, oc, k9, k10, rfl, hb, (fun _ => ⟨rfl, hr⟩), (fun _ => rfl), h2, h3, (fun _ => rfl), h5, h6⟩
    | 5, hj =>
      simp at hj
      subst hj
      have n7 : b7 ≠ true := fun h => by have := (c7 h).2.1; cases this
      refine op_step rfl rfl (fun K hK => ?_)
      go_simp
      have hba := below_alloc V (.cells #[.slice none 0 0, .slice none 0 0, .slice none 0 0] 33)
      refine hK _ _ ⟨hb.trans (hba.mono hb.size), X26, X31, X32, X33, X34, _, U10, pa, pn, pc, qa, qn, qc, oa, on, oc, V.heap.size, k10, rfl, hb.trans (hba.mono hb.size), (fun h => ⟨(h0 h).1, (h0 h).2.below hba⟩), h1, h2, h3, h4, (fun _ => ⟨rfl, hb.size, _, _, _, block_new _ _ _ rfl, (fun h => absurd h n7)⟩), (fun h => ?_)⟩
      obtain ⟨e1, e2, y0, y1, e3⟩ := h6 h
      exact ⟨e1, e2, y0, y1, (hba.block _ (lt_of_block e3)).trans e3⟩
    | 6, hj =>
      simp at hj
      subst hj
      refine op_step rfl rfl (fun K hK => ?_)
      go_simp
      have hba := below_alloc V (.cells #[.int .i64 0, .int .i64 0] 38)
      refine hK _ _ ⟨hb.trans (hba.mono hb.size), X26, X31, X32, X33, X34, U9, _, pa, pn, pc, qa, qn, qc, oa, on, oc, k9, V.heap.size, rfl, hb.trans (hba.mono hb.size), (fun h => ⟨(h0 h).1, (h0 h).2.below hba⟩), h1, h2, h3, h4, (fun h => ?_), (fun _ => ⟨rfl, hb.size, _, _, block_new _ _ _ rfl⟩)⟩
      obtain ⟨e1, e2, y0, y1, y2, e3, e4⟩ := h5 h
      exact ⟨e1, e2, y0, y1, y2, (hba.block _ (lt_of_block e3)).trans e3, e4⟩
    | 7, hj =>
      simp at hj
      subst hj
      have hbb : b0 = true ∧ b1 = true ∧ b2 = true ∧ b5 = true ∧ b6 = true := by simpa using hpre
      obtain ⟨rfl, hr⟩ := h0 hbb.1
      obtain rfl := h1 hbb.2.1
      obtain rfl := h2 hbb.2.2.1
      obtain ⟨rfl, hk1, y0, y1, y2, hk, _⟩ := h5 hbb.2.2.2.1
      obtain ⟨rfl, e2, x0, x1, e3⟩ := h6 hbb.2.2.2.2
      have k0 : V.cell? ⟨k9, 0, none⟩ = some y0 := cells_cell hk rfl
      have k1 : V.cell? ⟨k9, 1, none⟩ = some y1 := cells_cell hk rfl
      have k2 : V.cell? ⟨k9, 2, none⟩ = some y2 := cells_cell hk rfl
      have f0 := cells_free hk 0
      have f1 := cells_free hk 1
      have f2 := cells_free hk 2
      have kl := lt_of_block hk
      have hf := ((fr_setCell V ⟨k9, 0, none⟩ (.slice pa pn pc)).trans' (fr_setCell _ ⟨k9, 1, none⟩ (.slice qa qn qc))).trans' (fr_setCell _ ⟨k9, 2, none⟩ (.slice oa on oc))
      have hk5 := cells_set (cells_set (cells_set hk 0 (.slice pa pn pc)) 1 (.slice qa qn qc)) 2 (.slice oa on oc)
      simp at hk5
      have hb5 := hb.trans (hf.below (B := w1.heap.size) (fun x hx => by simp at hx; omega) hb.size)
      refine op_step rfl rfl (fun K hK => ?_)
      go_simp
      exact hK _ _ ⟨hb5, _, _, _, X33, X34, _, _, pa, pn, pc, qa, qn, qc, oa, on, oc, k9, k10, rfl, hb5, (fun h => ⟨rfl, hr.fr hf (fun x hx => by simp at hx; subst hx; exact ⟨_, _, hk, by decide, by decide⟩)⟩), (fun _ => rfl), (fun _ => rfl), h3, h4, (fun _ => ⟨rfl, hk1, _, _, _, hk5, (fun _ => ⟨rfl, rfl, rfl⟩)⟩), (fun _ => ⟨rfl, e2, x0, x1, hf.same e3 (by simp; exact ne_types e3 hk (by decide))⟩)⟩
    | 8, hj =>
      simp at hj
      subst hj
      have hbb : b0 = true ∧ b1 = true ∧ b2 = true ∧ b3 = true ∧ b5 = true ∧ b6 = true ∧ b7 = true := by simpa using hpre
      obtain ⟨rfl, hr⟩ := h0 hbb.1
      obtain rfl := h1 hbb.2.1
      obtain rfl := h2 hbb.2.2.1
      obtain rfl := h3 hbb.2.2.2.1
      obtain ⟨rfl, e2, x0, x1, x2, e3, e4⟩ := h5 hbb.2.2.2.2.1
      obtain ⟨rfl, rfl, rfl⟩ := e4 hbb.2.2.2.2.2.2
      obtain ⟨rfl, hk1, y0, y1, hk⟩ := h6 hbb.2.2.2.2.2.1
      have k0 : V.cell? ⟨k10, 0, none⟩ = some y0 := cells_cell hk rfl
      have k1 : V.cell? ⟨k10, 1, none⟩ = some y1 := cells_cell hk rfl
      have f0 := cells_free hk 0
      have f1 := cells_free hk 1
      have kl := lt_of_block hk
      have hf := (fr_setCell V ⟨k10, 0, none⟩ (.int .i64 t1)).trans' (fr_setCell _ ⟨k10, 1, none⟩ (.int .i64 t2))
      have hk5 := cells_set (cells_set hk 0 (.int .i64 t1)) 1 (.int .i64 t2)
      simp at hk5
      have hb5 := hb.trans (hf.below (B := w1.heap.size) (fun x hx => by simp at hx; omega) hb.size)
      refine op_step rfl rfl (fun K hK => ?_)
      go_simp
      exact hK _ _ ⟨hb5, _, _, _, _, X34, _, _, pa, pn, pc, qa, qn, qc, oa, on, oc, k9, k10, rfl, hb5, (fun h => ⟨rfl, hr.fr hf (fun x hx => by simp at hx; subst hx; exact ⟨_, _, hk, by decide, by decide⟩)⟩), (fun _ => rfl), (fun _ => rfl), (fun _ => rfl), h4, (fun _ => ⟨rfl, e2, _, _, _, hf.same e3 (by simp; exact ne_types e3 hk (by decide)), (fun _ => ⟨rfl, rfl, rfl⟩)⟩), (fun _ => ⟨rfl, hk1, _, _, hk5⟩)⟩
    | j + 9, hj => simp at hj
  case hend =>
    intro a V hJ
    obtain ⟨X26, X31, X32, X33, X34, U9, U10, pa, pn, pc, qa, qn, qc, oa, on, oc, k9, k10, rfl, hb, h0, h1, h2, h3, h4, h5, h6⟩ := hJ
    obtain ⟨rfl, hrl⟩ := h0 rfl
    obtain rfl := h1 rfl
    obtain rfl := h2 rfl
    obtain rfl := h3 rfl
    obtain rfl := h4 rfl
    obtain ⟨rfl, hk1, y0, y1, y2, hk, hy⟩ := h5 rfl
    obtain ⟨rfl, rfl, rfl⟩ := hy rfl
    obtain ⟨rfl, _⟩ := h6 rfl
    clear h0 h1 h2 h3 h4 h5 h6 hy
    have hne : k9 ≠ zz + 2 ∧ g ≠ zz + 2 := by
      have h1 := lt_of_block HO.out
      have h2 := HV.out.ne HO.out (by decide) g rfl
      exact ⟨by omega, h2⟩
    have hx := (hb.block _ (lt_of_block HO.out)).trans HO.out
    have hgv : V.cell? ⟨g, 0, none⟩ = some (.int .i64 ((i : Nat) : Int)) := (hb.cell (p := ⟨g, 0, none⟩) gl).trans hg0
    have hgV : g < V.heap.size := Nat.lt_of_lt_of_le gl hb.size
    have HB6 := Lib.hid (HWB.out.trans (hb.mono (by have h1 := HWB.out.size; have h2 := HZZ.out; omega)))
    have HK := Lib.hid hk
    have HO6 := Lib.hid hx
    have HRL := Lib.hid hrl
    clear hk hx hrl hb hld HSZ HX HY HO HR HV HWB hlv HG gl hg0 gb
    go_wp2_with fail
    have hdr : Below V.heap.size V V.drew := (Below.refl _ _).drew
    obtain ⟨S, hSd⟩ : ∃ S : World → Prop, S = fun W' => W'.cell? ⟨k9, 0, none⟩ = some (.slice pa pn pc) ∧ W'.cell? ⟨k9, 1, none⟩ = some (.slice qa qn qc) ∧ W'.cell? ⟨k9, 2, none⟩ = some (.slice oa on oc) ∧ W'.cell? ⟨g, 0, none⟩ = some (.int .i64 ((i : Nat) : Int)) := ⟨_, rfl⟩
    refine wp_region_mix S 5 [(true, 0), (true, 1), (true, 2), (true, 3), (false, 4)] (by kernel_rfl) (by kernel_rfl) (fun _ _ _ d _ h => by cases d <;> exact h) ?_
    simp only [List.map_cons, List.map_nil, List.getD_cons_zero, List.getD_cons_succ, List.drop_succ_cons, List.drop_zero]
    replace HK := Lib.hid ((hdr.block _ (lt_of_block HK.out)).trans HK.out)
    replace HO6 := Lib.hid ((hdr.block _ (lt_of_block HO6.out)).trans HO6.out)
    replace HRL := Lib.hid (HRL.out.below hdr)
    replace HB6 := Lib.hid (HB6.out.trans (hdr.mono (by have h1 := HB6.out.size; have h2 := HZZ.out; omega)))
    have hgv2 : V.drew.cell? ⟨g, 0, none⟩ = some (.int .i64 ((i : Nat) : Int)) := (hdr.cell (p := ⟨g, 0, none⟩) hgV).trans hgv
    clear hgv hgV hdr
    generalize V.drew = V7 at *
    have k0 : V7.cell? ⟨k9, 0, none⟩ = some (.slice pa pn pc) := cells_cell HK.out rfl
    have k1 : V7.cell? ⟨k9, 1, none⟩ = some (.slice qa qn qc) := cells_cell HK.out rfl
    have k2 : V7.cell? ⟨k9, 2, none⟩ = some (.slice oa on oc) := cells_cell HK.out rfl
    have o0 : V7.cell? ⟨zz + 2, 0, none⟩ = some (.slice none 0 0) := cells_cell HO6.out rfl
    have o1 : V7.cell? ⟨zz + 2, 1, none⟩ = some (.slice none 0 0) := cells_cell HO6.out rfl
    have o2 : V7.cell? ⟨zz + 2, 2, none⟩ = some (.slice none 0 0) := cells_cell HO6.out rfl
    have f0 := cells_free HO6.out 0
    have f1 := cells_free HO6.out 1
    have f2 := cells_free HO6.out 2
    have ol := lt_of_block HO6.out
    have hf := ((fr_setCell V7 ⟨zz + 2, 0, none⟩ (.slice pa pn pc)).trans' (fr_setCell _ ⟨zz + 2, 1, none⟩ (.slice qa qn qc))).trans' (fr_setCell _ ⟨zz + 2, 2, none⟩ (.slice oa on oc))
    have HY4 := Lib.hid (cells_set (cells_set (cells_set HO6.out 0 (.slice pa pn pc)) 1 (.slice qa qn qc)) 2 (.slice oa on oc))
    have HSZ : Hid (S V7) := Lib.hid (by rw [hSd]; exact ⟨k0, k1, k2, hgv2⟩)
    have HS2 : Hid (S (((V7.setCell ⟨zz + 2, 0, none⟩ (.slice pa pn pc)).setCell ⟨zz + 2, 1, none⟩ (.slice qa qn qc)).setCell ⟨zz + 2, 2, none⟩ (.slice oa on oc))) := Lib.hid (by rw [hSd]; exact ⟨hf.cell k0 (by simp; omega), hf.cell k1 (by simp; omega), hf.cell k2 (by simp; omega), hf.cell hgv2 (by simp; omega)⟩)
    have HB5 := Lib.hid (HB6.out.trans (hf.below (B := zz) (fun x hx => by simp at hx; omega) (by have h1 := HB6.out.size; have h2 := HZZ.out; omega)))
    have HR5 := Lib.hid (HRL.out.fr hf (fun k hk => by simp at hk; subst hk; exact ⟨_, _, HO6.out, by decide, by decide⟩))
    clear hf HRL HK HO6 HB6
    refine mix_take (.agg #[.slice pa pn pc, .slice qa qn qc, .slice oa on oc]) HSZ.out rfl (fun W' hS => by rw [hSd] at hS; obtain ⟨l0, l1, l2, l3⟩ := hS; go_simp) ?_
    simp only [Act.put, List.setIfInBounds_toArray, List.set_cons_zero, List.set_cons_succ]
    refine mix_move (.tmp 7) (.slice (some ⟨g, 0, none⟩) m vc) rfl HSZ.out rfl rfl ?_
    simp only [Act.put, List.setIfInBounds_toArray, List.set_cons_zero, List.set_cons_succ]
    refine mix_take (.pointer (some ⟨g, 0, none⟩)) HSZ.out rfl (fun W' hS => by rw [hSd] at hS; obtain ⟨l0, l1, l2, l3⟩ := hS; go_simp) ?_
    simp only [Act.put, List.setIfInBounds_toArray, List.set_cons_zero, List.set_cons_succ]
    refine mix_take (.int .i64 ((i : Nat) : Int)) HSZ.out rfl (fun W' hS => by rw [hSd] at hS; obtain ⟨l0, l1, l2, l3⟩ := hS; go_simp) ?_
    simp only [Act.put, List.setIfInBounds_toArray, List.set_cons_zero, List.set_cons_succ]
    refine mix_step rfl (fun K hK => ?_)
    go_simp
    refine hK _ _ HS2.out ?_
    clear hK
    refine mix_nil ?_
    clear HSZ HS2 hSd k0 k1 k2 hgv2
    go_wp2_with fail
    have hy2 := HY4.out
    simp at hy2
    refine bodyPost_ret (v := .tuple #[.agg #[.slice pa pn pc, .slice qa qn qc, .slice oa on oc], .int .i64 ((i : Nat) : Int), .int .i64 0]) (by simp [results, Tryd.results36, go_sem, cells_cell (o := 0) hy2 rfl, cells_cell (o := 1) hy2 rfl, cells_cell (o := 2) hy2 rfl]) rfl ?_
    exact ⟨_, _, _, rfl, HR5.out, by first | exact HB5.out | (rw [HZZ.out]; exact HB5.out)⟩
theorem g9Wake_any {w : World} {b : Nat} {s r x : Value} {z : Zt} (h : RL w b s r x z) (hb0 : b ≤ w.heap.size) (hz : ZK z) (t : Sp) : Calls Tryd.prog 36 #[rlv s r x, .agg #[.int .i64 t.1, .int .i64 t.2]] w (KAns w b (wkC z t).1 (wkC z t).2.1 (wkC z t).2.2) := by
  unfold wkC
  by_cases ht : SpOk t
  · rw [if_pos ht]
    cases hn : wt t z.L with
    | nil => exact g9Wake_none h hb0 hz ht hn
    | cons i q => exact g9Wake_some h hb0 hz ht hn
  · rw [if_neg ht]
    exact g9Wake_bad h hb0 hz ht
end Go.Proofs.YtcdimopiaanfbaaDoor
