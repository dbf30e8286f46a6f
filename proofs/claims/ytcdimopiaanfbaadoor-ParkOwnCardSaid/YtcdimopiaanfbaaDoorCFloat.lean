/- A region that draws its order: operations taken first, a few one at a time, operations taken behind them, a tail. -/
import Derived.Test.YtcdimopiaanfbaaDoorBFloat
namespace Go.Proofs.YtcdimopiaanfbaaDoor
set_option linter.unusedVariables false

section
variable {P : Program} {md : Region.Mode} {ops : Array Oper} {Q : Exit → Act → World → Prop} {S : World → Prop} {n : Nat} {L : Array Bool → Act → World → Prop}

theorem mids_head2 (f : Nat) : ∀ (ms : List Nat) (os : List Oper) (listed : Array Bool) (a : Act) (w : World), ms.map (fun i => ops[i]?) = os.map some → ms.all (fun i => decide (i < n)) = true → midsB md ops ms listed = true →
      wpMids P ops Q S (fun a' w' => headW P md ops Q S n L f (setAll ms listed) a' w') os a w → headW P md ops Q S n L (ms.length + f) listed a w
  | [], [], listed, a, w, _, _, _, h => by simpa [setAll, wpMids] using h
  | [], _ :: _, _, _, _, h, _, _, _ => by simp at h
  | _ :: _, [], _, _, _, h, _, _, _ => by simp at h
  | i :: ms, o :: os, listed, a, w, hm, hl, hB, h => by
    simp only [List.map_cons, List.cons.injEq] at hm
    simp only [midsB, Bool.and_eq_true, decide_eq_true_eq] at hB
    simp only [List.all_cons, Bool.and_eq_true, decide_eq_true_eq] at hl
    rw [List.length_cons, show ms.length + 1 + f = (ms.length + f) + 1 by omega]
    refine ⟨by rw [hB.1]; simp, fun j hj => ?_⟩
    rw [hB.1] at hj
    have hji : j = i := by simpa using hj
    subst hji
    refine ⟨hl.1, ?_⟩
    have step : ∀ a' w', (S w' ∧ wpMids P ops Q S (fun a' w' => headW P md ops Q S n L f (setAll ms (listed.setIfInBounds j true)) a' w') os a' w') → (S w' ∧ headW P md ops Q S n L (ms.length + f) (listed.setIfInBounds j true) a' w') := fun a' w' h' => ⟨h'.1, mids_head2 f ms os _ a' w' hm.2 hl.2 hB.2 h'.2⟩
    unfold wpOp
    simp only [hm.1]
    unfold wpMids at h
    split
    · rename_i hw
      rw [if_pos hw] at h
      exact .inl (Oper.wp_mono step h)
    · rename_i hw
      rw [if_neg (by simpa using hw)] at h
      exact step _ _ h

theorem HeadInv.takes : ∀ (fs : List Nat) (listed : Array Bool), HeadInv md ops n listed → fs.all (fun i => decide (i < n)) = true → takesB md ops fs listed = true → HeadInv md ops n (setAll fs listed)
  | [], _, h, _, _ => h
  | i :: fs, listed, h, hl, hB => by
    simp only [takesB, Bool.and_eq_true] at hB
    simp only [List.all_cons, Bool.and_eq_true, decide_eq_true_eq] at hl
    exact HeadInv.takes fs _ (h.set (by simpa using hB.1.1) hl.1) hl.2 hB.2
theorem HeadInv.mids : ∀ (ms : List Nat) (listed : Array Bool), HeadInv md ops n listed → ms.all (fun i => decide (i < n)) = true → midsB md ops ms listed = true → HeadInv md ops n (setAll ms listed)
  | [], _, h, _, _ => h
  | i :: ms, listed, h, hl, hB => by
    simp only [midsB, Bool.and_eq_true, decide_eq_true_eq] at hB
    simp only [List.all_cons, Bool.and_eq_true, decide_eq_true_eq] at hl
    exact HeadInv.mids ms _ (h.set (by rw [hB.1]; simp) hl.1) hl.2 hB.2
end

/-- What is asked of the region's edges. -/
def floatB2 (ops : Array Oper) (n : Nat) (fs ms gs : List Nat) : Bool :=
  Region.noSelect ops && decide (n < ops.size) && Region.sinkB .any ops n && Region.chainB .any ops n && fs.all (fun i => decide (i < n)) && ms.all (fun i => decide (i < n)) && gs.all (fun i => decide (i < n)) && takesB .any ops fs (Array.replicate ops.size false) &&
    midsB .any ops ms (setAll fs (Array.replicate ops.size false)) && takesB .any ops gs (setAll ms (setAll fs (Array.replicate ops.size false))) && Region.seqB .any ops (ops.size - n) n (setAll gs (setAll ms (setAll fs (Array.replicate ops.size false)))) && decide (fs.length + ms.length + gs.length = n)

theorem wp_region_float2 {P : Program} {id : Nat} {Q : Exit → Act → World → Prop} {a : Act} {w : World} {l : List Oper} (S : World → Prop) (n : Nat) (fs ms gs : List Nat) (hm : P.follows .mixedOrders = true)
    (hB : floatB2 l.toArray n fs ms gs = true) (hQ : ∀ c a w d v, Q (.panic c) (a.put d v) w → Q (.panic c) a w) (hS : S w.drew)
    (h : wpTakes P l.toArray S (fun a' => wpMids P l.toArray Q S (fun a'' w'' => S w'' ∧ wpTakes P l.toArray S (fun a3 => wpList P l.toArray Q (l.drop n) a3 w'') (gs.map fun i => l.getD i default) a'') (ms.map fun i => l.getD i default) a' w.drew) (fs.map fun i => l.getD i default) a) : (Code.region id l.toArray true).wp P Q a w := by
  simp only [floatB2, Bool.and_eq_true, decide_eq_true_eq] at hB
  obtain ⟨⟨⟨⟨⟨⟨⟨⟨⟨⟨⟨hsel, hn⟩, hs⟩, hc⟩, hfl⟩, hml⟩, hgl⟩, htk⟩, hmd⟩, htg⟩, hsq⟩, hlen⟩ := hB
  have hsz : l.toArray.size = l.length := by simp
  have hnl : n < l.length := by simpa using hn
  have hget : ∀ (x : List Nat), x.all (fun i => decide (i < n)) = true → x.map (fun i => l.toArray[i]?) = (x.map fun i => l.getD i default).map some := fun x hx => by
    rw [List.map_map]
    refine List.map_congr_left (fun i hi => ?_)
    have := List.all_eq_true.1 hx i hi
    have hil : i < l.length := by simp at this; omega
    simp [List.getD, hil]
  have hf := hget fs hfl
  have hmo := hget ms hml
  have hgo := hget gs hgl
  have inv0 : HeadInv .any l.toArray n (Array.replicate l.toArray.size false) :=
    ⟨by simp, fun j oj _ hl => (by rw [getD_replicate_false] at hl; cases hl), fun t _ ht => getD_in (by simpa using ht) (getD_replicate_false _ _)⟩
  have inv1 := HeadInv.takes fs _ inv0 hfl htk
  have inv2 := HeadInv.mids ms _ inv1 hml hmd
  refine wp_region_any hm ?_
  have hdl : (l.drop n).length = l.toArray.size - n := by simp
  have hdone : ∀ (listed : Array Bool) (a : Act) (w : World), (Region.seqB .any l.toArray (l.toArray.size - n) n listed = true ∧ wpList P l.toArray Q (l.drop n) a w) → ∀ j ∈ Region.ready .any l.toArray listed, n ≤ j := fun listed a w hL => seqB_ready hL.1
  have H := takes_head (P := P) (S := S) (L := fun listed a w => Region.seqB .any l.toArray (l.toArray.size - n) n listed = true ∧ wpList P l.toArray Q (l.drop n) a w) hsel hQ hs hc hn hdone hS (ms.length + gs.length) fs _ _ a hf inv0 hfl htk
    (wpTakes_mono (fun a' h' => mids_head2 gs.length ms _ _ a' _ hmo hml hmd (by
      refine wpMids_mono (fun a'' w'' h'' => ?_) _ a' _ h'
      have := takes_head (P := P) (S := S) (L := fun listed a w => Region.seqB .any l.toArray (l.toArray.size - n) n listed = true ∧ wpList P l.toArray Q (l.drop n) a w) hsel hQ hs hc hn hdone h''.1 0 gs _ _ a'' hgo inv2 hgl htg
        (wpTakes_mono (fun a3 h3 => ⟨hsq, h3⟩) _ a'' h''.2)
      rwa [Nat.add_zero] at this)) _ a h)
  have := headW.any (g := l.toArray.size - n) (fun listed a' w' hL => by
    have := wpAny_of_seq (md := .any) (Q' := Q) (l.drop n) n listed a' w' (fun j => by simp [List.getElem?_drop]) (by rw [hdl]; exact hL.1) hL.2
    rwa [hdl] at this) _ _ _ _ H
  rw [show fs.length + (ms.length + gs.length) = n by omega, show n + (l.toArray.size - n) = l.toArray.size by omega] at this
  exact this

section
variable {P : Program} {md : Region.Mode} {ops : Array Oper} {Q : Exit → Act → World → Prop} {n : Nat} {L : Array Bool → Act → World → Prop}
theorem headW.weaken {S S' : World → Prop} (h : ∀ w, S' w → S w) : ∀ (f : Nat) (listed : Array Bool) (a : Act) (w : World), headW P md ops Q S' n L f listed a w → headW P md ops Q S n L f listed a w
  | 0, _, _, _, H => H
  | f + 1, listed, a, w, H => ⟨H.1, fun i hi => ⟨(H.2 i hi).1, wpOp_mono (fun a' w' h' => ⟨h w' h'.1, headW.weaken h f _ a' w' h'.2⟩) (H.2 i hi).2⟩⟩

/-- Phases: operations that are taken first, then some one at a time; each phase with a class of worlds of its own. -/
def phasesB (md : Region.Mode) (ops : Array Oper) (n : Nat) : List (List Nat × List Nat) → Array Bool → Bool
  | [], _ => true
  | (fs, ms) :: r, listed => fs.all (fun i => decide (i < n)) && ms.all (fun i => decide (i < n)) && takesB md ops fs listed && midsB md ops ms (setAll fs listed) && phasesB md ops n r (setAll ms (setAll fs listed))
def setPhases : List (List Nat × List Nat) → Array Bool → Array Bool
  | [], b => b
  | (fs, ms) :: r, b => setPhases r (setAll ms (setAll fs b))
def phasesLen : List (List Nat × List Nat) → Nat
  | [] => 0
  | (fs, ms) :: r => fs.length + (ms.length + phasesLen r)
def wpPhases (P : Program) (ops : Array Oper) (Q : Exit → Act → World → Prop) (l : List Oper) : (World → Prop) → (Act → World → Prop) → List (List Nat × List Nat) → Act → World → Prop
  | _, K, [], a, w => K a w
  | S, K, (fs, ms) :: r, a, w => wpTakes P ops S (fun a' => wpMids P ops Q S (fun a'' w'' => ∃ S' : World → Prop, (∀ x, S' x → S x) ∧ S' w'' ∧ wpPhases P ops Q l S' K r a'' w'') (ms.map fun i => l.getD i default) a' w) (fs.map fun i => l.getD i default) a

theorem phases_head (hsel : Region.noSelect ops = true) (hQ : ∀ c a w d v, Q (.panic c) (a.put d v) w → Q (.panic c) a w) (hs : Region.sinkB md ops n = true) (hc : Region.chainB md ops n = true) (hn : n < ops.size)
    (hdone : ∀ listed a w, L listed a w → ∀ j ∈ Region.ready md ops listed, n ≤ j) (l : List Oper) (hget : ∀ (x : List Nat), x.all (fun i => decide (i < n)) = true → x.map (fun i => ops[i]?) = (x.map fun i => l.getD i default).map some) :
    ∀ (phs : List (List Nat × List Nat)) (S : World → Prop) (listed : Array Bool) (a : Act) (w : World), HeadInv md ops n listed → phasesB md ops n phs listed = true → S w →
      wpPhases P ops Q l S (fun a w => L (setPhases phs listed) a w) phs a w → headW P md ops Q S n L (phasesLen phs) listed a w
  | [], S, listed, a, w, _, _, _, h => h
  | (fs, ms) :: r, S, listed, a, w, inv, hB, hS, h => by
    simp only [phasesB, Bool.and_eq_true] at hB
    obtain ⟨⟨⟨⟨hfl, hml⟩, htk⟩, hmd⟩, hr⟩ := hB
    have inv1 := HeadInv.takes fs _ inv hfl htk
    have inv2 := HeadInv.mids ms _ inv1 hml hmd
    exact takes_head (P := P) (S := S) (L := L) hsel hQ hs hc hn hdone hS (ms.length + phasesLen r) fs _ _ a (hget fs hfl) inv hfl htk
      (wpTakes_mono (fun a' h' => mids_head2 (phasesLen r) ms _ _ a' _ (hget ms hml) hml hmd (wpMids_mono (fun a'' w'' h'' => by
        obtain ⟨S', h1, h2, h3⟩ := h''
        exact headW.weaken h1 _ _ _ _ (phases_head hsel hQ hs hc hn hdone l hget r S' _ a'' w'' inv2 hr h2 h3)) _ a' _ h')) _ a h)
end

def phasedB (ops : Array Oper) (n : Nat) (phs : List (List Nat × List Nat)) : Bool :=
  Region.noSelect ops && decide (n < ops.size) && Region.sinkB .any ops n && Region.chainB .any ops n && phasesB .any ops n phs (Array.replicate ops.size false) && Region.seqB .any ops (ops.size - n) n (setPhases phs (Array.replicate ops.size false)) && decide (phasesLen phs = n)

theorem wp_region_phases {P : Program} {id : Nat} {Q : Exit → Act → World → Prop} {a : Act} {w : World} {l : List Oper} (S : World → Prop) (n : Nat) (phs : List (List Nat × List Nat)) (hm : P.follows .mixedOrders = true)
    (hB : phasedB l.toArray n phs = true) (hQ : ∀ c a w d v, Q (.panic c) (a.put d v) w → Q (.panic c) a w) (hS : S w.drew)
    (h : wpPhases P l.toArray Q l S (fun a w => wpList P l.toArray Q (l.drop n) a w) phs a w.drew) : (Code.region id l.toArray true).wp P Q a w := by
  simp only [phasedB, Bool.and_eq_true, decide_eq_true_eq] at hB
  obtain ⟨⟨⟨⟨⟨⟨hsel, hn⟩, hs⟩, hc⟩, hph⟩, hsq⟩, hlen⟩ := hB
  have hnl : n < l.length := by simpa using hn
  have hget : ∀ (x : List Nat), x.all (fun i => decide (i < n)) = true → x.map (fun i => l.toArray[i]?) = (x.map fun i => l.getD i default).map some := fun x hx => by
    rw [List.map_map]
    refine List.map_congr_left (fun i hi => ?_)
    have := List.all_eq_true.1 hx i hi
    have hil : i < l.length := by simp at this; omega
    simp [List.getD, hil]
  have inv0 : HeadInv .any l.toArray n (Array.replicate l.toArray.size false) :=
    ⟨by simp, fun j oj _ hl => (by rw [getD_replicate_false] at hl; cases hl), fun t _ ht => getD_in (by simpa using ht) (getD_replicate_false _ _)⟩
  refine wp_region_any hm ?_
  have hdl : (l.drop n).length = l.toArray.size - n := by simp
  have wmono : ∀ (phs : List (List Nat × List Nat)) (S : World → Prop) (K K' : Act → World → Prop), (∀ a w, K a w → K' a w) → ∀ a w, wpPhases P l.toArray Q l S K phs a w → wpPhases P l.toArray Q l S K' phs a w := by
    intro phs
    induction phs with
    | nil => exact fun S K K' hK a w h => hK a w h
    | cons x r ih =>
      obtain ⟨fs, ms⟩ := x
      intro S K K' hK a w h
      exact wpTakes_mono (fun a' h' => wpMids_mono (fun a'' w'' h'' => by
        obtain ⟨S', h1, h2, h3⟩ := h''
        exact ⟨S', h1, h2, ih S' K K' hK a'' w'' h3⟩) _ a' _ h') _ a h
  have H := phases_head (P := P) (L := fun listed a w => Region.seqB .any l.toArray (l.toArray.size - n) n listed = true ∧ wpList P l.toArray Q (l.drop n) a w) hsel hQ hs hc hn (fun listed a w hL => seqB_ready hL.1) l hget phs S _ a _ inv0 hph hS
    (wmono phs S _ _ (fun a w h => ⟨hsq, h⟩) a _ h)
  have := headW.any (g := l.toArray.size - n) (fun listed a' w' hL => by
    have := wpAny_of_seq (md := .any) (Q' := Q) (l.drop n) n listed a' w' (fun j => by simp [List.getElem?_drop]) (by rw [hdl]; exact hL.1) hL.2
    rwa [hdl] at this) _ _ _ _ H
  rw [hlen, show n + (l.toArray.size - n) = l.toArray.size by omega] at this
  exact this
end Go.Proofs.YtcdimopiaanfbaaDoor
