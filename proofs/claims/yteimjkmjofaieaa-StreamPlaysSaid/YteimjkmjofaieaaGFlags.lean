/- A region that draws its order: operations taken first, then some that come up in whatever order their edges leave open, each behind a state that says which of them are done; then a tail in the order of the text. Of no program. -/
import Derived.Test.YteimjkmjofaieaaEInv
namespace Go.Proofs.Yteimjkmjofaieaa
set_option linter.unusedVariables false
set_option linter.unusedSimpArgs false

def allB : Nat → List (List Bool)
  | 0 => [[]]
  | k + 1 => (allB k).flatMap fun l => [false :: l, true :: l]
theorem mem_allB : ∀ {k : Nat} {l : List Bool}, l.length = k → l ∈ allB k
  | 0, [], _ => by simp [allB]
  | k + 1, b :: l, h => by
    have h1 : l ∈ allB k := mem_allB (by simpa using h)
    simp only [allB, List.mem_flatMap]
    refine ⟨l, h1, ?_⟩
    cases b <;> simp
/-- What has come up: the flags bs of the operations fl. -/
def markB (L0 : Array Bool) : List Nat → List Bool → Array Bool
  | i :: fl, b :: bs => markB (if b then L0.setIfInBounds i true else L0) fl bs
  | _, _ => L0
/-- What must be done first, is. -/
def closedB (pre : List (List Nat)) (bs : List Bool) : Bool := (List.range bs.length).all fun j => !(bs.getD j false) || (pre.getD j []).all fun i => bs.getD i false
def flagsB (md : Region.Mode) (ops : Array Oper) (n : Nat) (L0 : Array Bool) (fl : List Nat) (pre : List (List Nat)) : Bool :=
  (allB fl.length).all fun bs => !closedB pre bs || bs.all id ||
    (!(Region.ready md ops (markB L0 fl bs)).isEmpty && (Region.ready md ops (markB L0 fl bs)).all fun i =>
      (List.range fl.length).any fun j => decide (fl.getD j 0 = i) && decide (i < n) && !(bs.getD j true) && (pre.getD j []).all (fun x => bs.getD x false) && decide ((markB L0 fl bs).setIfInBounds i true = markB L0 fl (bs.set j true)))

theorem count_false_set {bs : List Bool} {j m : Nat} (hj : bs[j]? = some false) (hc : bs.count false = m + 1) : (bs.set j true).count false = m := by
  obtain ⟨hl, he⟩ := List.getElem?_eq_some_iff.1 hj
  have := List.countP_set (p := fun b => b == false) (a := true) hl
  rw [List.count] at hc ⊢
  rw [this, he, hc]
  simp
theorem all_true {bs : List Bool} (h : bs.count false = 0) : bs = List.replicate bs.length true := by
  refine List.eq_replicate_iff.2 ⟨rfl, fun b hb => ?_⟩
  cases b with
  | true => rfl
  | false => exact absurd hb (List.count_eq_zero.1 h)
theorem getD_some {bs : List Bool} {j : Nat} (h : bs.getD j true = false) : bs[j]? = some false := by
  rw [List.getD_eq_getElem?_getD] at h
  cases hb : bs[j]? with
  | none => rw [hb] at h; simp at h
  | some b => rw [hb] at h; simp at h; rw [h]
theorem closed_set {pre : List (List Nat)} {bs : List Bool} {j : Nat} (hc : closedB pre bs = true) (hp : (pre.getD j []).all (fun x => bs.getD x false) = true) : closedB pre (bs.set j true) = true := by
  unfold closedB at hc ⊢
  rw [List.all_eq_true] at hc ⊢
  have mono : ∀ x, bs.getD x false = true → (bs.set j true).getD x false = true := fun x hx => by
    rw [List.getD_eq_getElem?_getD] at hx ⊢
    rw [List.getElem?_set]
    split
    · split
      · rfl
      · rename_i e h; subst e; rw [List.getElem?_eq_none (by omega)] at hx; simp at hx
    · exact hx
  intro i hi
  have hi' : i ∈ List.range bs.length := by simpa using hi
  rw [Bool.or_eq_true]
  by_cases hij : i = j
  · subst hij
    right
    rw [List.all_eq_true] at hp ⊢
    exact fun x hx => mono x (hp x hx)
  · have := hc i hi'
    rw [Bool.or_eq_true] at this
    rcases this with h | h
    · left
      rw [List.getD_eq_getElem?_getD] at h ⊢
      rw [List.getElem?_set_ne (fun e => hij e.symm)]
      exact h
    · right
      rw [List.all_eq_true] at h ⊢
      exact fun x hx => mono x (h x hx)

section
variable {P : Program} {md : Region.Mode} {ops : Array Oper} {Q : Exit → Act → World → Prop} {S : World → Prop} {n : Nat} {L : Array Bool → Act → World → Prop}
theorem head_flags {L0 : Array Bool} {fl : List Nat} {pre : List (List Nat)} (J : List Bool → Act → World → Prop) (hchk : flagsB md ops n L0 fl pre = true)
    (hstep : ∀ (bs : List Bool) (j : Nat) (a : Act) (w : World), bs.length = fl.length → closedB pre bs = true → bs[j]? = some false → (pre.getD j []).all (fun x => bs.getD x false) = true → J bs a w → wpOp P ops Q (fl.getD j 0) (fun a' w' => S w' ∧ J (bs.set j true) a' w') a w)
    (hL : ∀ a w, J (List.replicate fl.length true) a w → L (markB L0 fl (List.replicate fl.length true)) a w) :
    ∀ (m : Nat) (bs : List Bool) (a : Act) (w : World), bs.length = fl.length → bs.count false = m → closedB pre bs = true → J bs a w → headW P md ops Q S n L m (markB L0 fl bs) a w
  | 0, bs, a, w, hl, hc, _, h => by
    have e := all_true hc
    rw [hl] at e
    rw [e] at h ⊢
    exact hL a w h
  | m + 1, bs, a, w, hl, hc, hcl, h => by
    have hb := List.all_eq_true.1 hchk bs (mem_allB hl)
    rw [hcl] at hb
    have hna : bs.all id = false := by
      cases hq : bs.all id with
      | false => rfl
      | true =>
        exfalso
        have : bs.count false = 0 := List.count_eq_zero.2 fun hm => by
          have := List.all_eq_true.1 hq false hm
          simp at this
        omega
    rw [hna] at hb
    simp only [Bool.not_true, Bool.false_or, Bool.and_eq_true, Bool.not_eq_true', List.isEmpty_eq_false_iff] at hb
    obtain ⟨hne, hall⟩ := hb
    refine ⟨hne, fun i hi => ?_⟩
    have h1 := List.all_eq_true.1 hall i hi
    obtain ⟨j, hjm, h2⟩ := List.any_eq_true.1 h1
    simp only [Bool.and_eq_true, decide_eq_true_eq, Bool.not_eq_true'] at h2
    obtain ⟨⟨⟨⟨hji, hin⟩, hjf⟩, hpre⟩, hmark⟩ := h2
    refine ⟨hin, ?_⟩
    have hjs := getD_some hjf
    have := hstep bs j a w hl hcl hjs hpre h
    rw [hji] at this
    refine wpOp_mono (fun a' w' h' => ⟨h'.1, ?_⟩) this
    rw [hmark]
    exact head_flags J hchk hstep hL m (bs.set j true) a' w' (by simpa using hl) (count_false_set hjs hc) (closed_set hcl hpre) h'.2
end

theorem op_step {P : Program} {ops : Array Oper} {Q : Exit → Act → World → Prop} {i : Nat} {o : Oper} {K : Act → World → Prop} {a : Act} {w : World} (hi : ops[i]? = some o) (hg : o.guard = none) (h : ∀ K' : Act → World → Prop, (∀ a w, K a w → K' a w) → Oper.wp P o a w K' Q) : wpOp P ops Q i K a w :=
  op_now hi hg (h K fun _ _ h => h)
theorem wp_region_flags {P : Program} {id : Nat} {Q : Exit → Act → World → Prop} {a : Act} {w : World} {l : List Oper} (S : World → Prop) (n : Nat) (fs : List (Bool × Nat)) (fl : List Nat) (pre : List (List Nat)) (J : List Bool → Act → World → Prop) (hm : P.follows .mixedOrders = true)
    (hB : invB l.toArray n fs fl.length = true) (hF : flagsB .any l.toArray n (setMix fs (Array.replicate l.toArray.size false)) fl pre = true)
    (hseq : Region.seqB .any l.toArray (l.toArray.size - n) n (markB (setMix fs (Array.replicate l.toArray.size false)) fl (List.replicate fl.length true)) = true)
    (h0 : closedB pre (List.replicate fl.length false) = true && decide (markB (setMix fs (Array.replicate l.toArray.size false)) fl (List.replicate fl.length false) = setMix fs (Array.replicate l.toArray.size false)) = true)
    (hQ : ∀ c a w d v, Q (.panic c) (a.put d v) w → Q (.panic c) a w)
    (hstep : ∀ (bs : List Bool) (j : Nat) (a : Act) (w : World), bs.length = fl.length → closedB pre bs = true → bs[j]? = some false → (pre.getD j []).all (fun x => bs.getD x false) = true → J bs a w → wpOp P l.toArray Q (fl.getD j 0) (fun a' w' => S w' ∧ J (bs.set j true) a' w') a w)
    (hend : ∀ a w, J (List.replicate fl.length true) a w → wpList P l.toArray Q (l.drop n) a w)
    (h : wpMix P l.toArray Q S (fun a' w' => J (List.replicate fl.length false) a' w') (fs.map fun i => (i.1, l.getD i.2 default)) a w.drew) : (Code.region id l.toArray true).wp P Q a w := by
  simp only [Bool.and_eq_true, decide_eq_true_eq] at h0
  refine wp_region_inv S n fs fl.length hm hB hQ (wpMix_mono (fun a' w' h' => ?_) _ a _ h)
  have := head_flags (P := P) (md := .any) (ops := l.toArray) (Q := Q) (S := S) (n := n) (L := fun listed a w => Region.seqB .any l.toArray (l.toArray.size - n) n listed = true ∧ wpList P l.toArray Q (l.drop n) a w) (L0 := setMix fs (Array.replicate l.toArray.size false)) (fl := fl) (pre := pre) J hF hstep (fun a w h => ⟨hseq, hend a w h⟩) fl.length (List.replicate fl.length false) a' w' (by simp) (by simp) (by simpa using h0.1) h'
  rwa [h0.2] at this
end Go.Proofs.Yteimjkmjofaieaa
