/- A region that draws its order: operations taken first, two that come up in either order, a few one at a time, operations taken behind them, a tail. -/
import Derived.Test.YtcdimopiaanfbaaDoorCFloat
namespace Go.Proofs.YtcdimopiaanfbaaDoor
set_option linter.unusedVariables false

section
variable {P : Program} {md : Region.Mode} {ops : Array Oper} {Q : Exit → Act → World → Prop} {S : World → Prop} {n : Nat} {L : Array Bool → Act → World → Prop}

theorem mids_op {K : Act → World → Prop} {i : Nat} {o : Oper} {l : List Oper} {a : Act} {w : World} (hi : ops[i]? = some o) (h : wpMids P ops Q S K (o :: l) a w) : wpOp P ops Q i (fun a' w' => S w' ∧ wpMids P ops Q S K l a' w') a w := by
  unfold wpOp
  simp only [hi]
  unfold wpMids at h
  split
  · rename_i hw
    rw [if_pos hw] at h
    exact .inl h
  · rename_i hw
    rw [if_neg (by simpa using hw)] at h
    exact h

theorem duo_head {i j : Nat} {oi oj : Oper} {listed : Array Bool} {a : Act} {w : World} (f : Nat) (hi : ops[i]? = some oi) (hj : ops[j]? = some oj) (hin : i < n) (hjn : j < n) (hij : i ≠ j)
    (hr : Region.ready md ops listed = [i, j]) (hr1 : Region.ready md ops (listed.setIfInBounds i true) = [j]) (hr2 : Region.ready md ops (listed.setIfInBounds j true) = [i])
    (h1 : wpMids P ops Q S (fun a' w' => headW P md ops Q S n L f ((listed.setIfInBounds i true).setIfInBounds j true) a' w') [oi, oj] a w)
    (h2 : wpMids P ops Q S (fun a' w' => headW P md ops Q S n L f ((listed.setIfInBounds i true).setIfInBounds j true) a' w') [oj, oi] a w) : headW P md ops Q S n L (f + 2) listed a w := by
  refine ⟨by rw [hr]; simp, fun k hk => ?_⟩
  rw [hr] at hk
  rcases (by simpa using hk : k = i ∨ k = j) with rfl | rfl
  · refine ⟨hin, wpOp_mono (fun a' w' h' => ⟨h'.1, by rw [hr1]; simp, fun k2 hk2 => ?_⟩) (mids_op hi h1)⟩
    rw [hr1] at hk2
    obtain rfl : k2 = j := by simpa using hk2
    exact ⟨hjn, wpOp_mono (fun a'' w'' h'' => h'') (mids_op hj h'.2)⟩
  · refine ⟨hjn, wpOp_mono (fun a' w' h' => ⟨h'.1, by rw [hr2]; simp, fun k2 hk2 => ?_⟩) (mids_op hj h2)⟩
    rw [hr2] at hk2
    obtain rfl : k2 = i := by simpa using hk2
    refine ⟨hin, wpOp_mono (fun a'' w'' h'' => ?_) (mids_op hi h'.2)⟩
    have := h''.2
    rw [Array.setIfInBounds_comm _ _ hij] at this
    exact ⟨h''.1, this⟩
end

/-- What is asked of the region's edges. -/
def floatB3 (ops : Array Oper) (n : Nat) (fs : List Nat) (i j : Nat) (ms gs : List Nat) : Bool :=
  Region.noSelect ops && decide (n < ops.size) && Region.sinkB .any ops n && Region.chainB .any ops n && fs.all (fun i => decide (i < n)) && ms.all (fun i => decide (i < n)) && gs.all (fun i => decide (i < n)) && [i, j].all (fun i => decide (i < n)) && decide (i ≠ j) && takesB .any ops fs (Array.replicate ops.size false) &&
    decide (Region.ready .any ops (setAll fs (Array.replicate ops.size false)) = [i, j]) && decide (Region.ready .any ops ((setAll fs (Array.replicate ops.size false)).setIfInBounds i true) = [j]) && decide (Region.ready .any ops ((setAll fs (Array.replicate ops.size false)).setIfInBounds j true) = [i]) &&
    midsB .any ops ms (setAll [i, j] (setAll fs (Array.replicate ops.size false))) && takesB .any ops gs (setAll ms (setAll [i, j] (setAll fs (Array.replicate ops.size false)))) && Region.seqB .any ops (ops.size - n) n (setAll gs (setAll ms (setAll [i, j] (setAll fs (Array.replicate ops.size false))))) && decide (fs.length + (2 + (ms.length + gs.length)) = n)

theorem HeadInv.all {md : Region.Mode} {ops : Array Oper} {n : Nat} {i j : Nat} {listed : Array Bool} (h : HeadInv md ops n listed) (hi : i ∈ Region.ready md ops listed) (hj : j ∈ Region.ready md ops (listed.setIfInBounds i true)) (hin : i < n) (hjn : j < n) : HeadInv md ops n (setAll [i, j] listed) :=
  (h.set hi hin).set hj hjn

theorem wp_region_float3 {P : Program} {id : Nat} {Q : Exit → Act → World → Prop} {a : Act} {w : World} {l : List Oper} (S : World → Prop) (n : Nat) (fs : List Nat) (i j : Nat) (ms gs : List Nat) (hm : P.follows .mixedOrders = true)
    (hB : floatB3 l.toArray n fs i j ms gs = true) (hQ : ∀ c a w d v, Q (.panic c) (a.put d v) w → Q (.panic c) a w) (hS : S w.drew) (K : Act → World → Prop)
    (hK : ∀ a' w', K a' w' → wpMids P l.toArray Q S (fun a'' w'' => S w'' ∧ wpTakes P l.toArray S (fun a3 => wpList P l.toArray Q (l.drop n) a3 w'') (gs.map fun i => l.getD i default) a'') (ms.map fun i => l.getD i default) a' w')
    (h : wpTakes P l.toArray S (fun a' => wpMids P l.toArray Q S K [l.getD i default, l.getD j default] a' w.drew ∧ wpMids P l.toArray Q S K [l.getD j default, l.getD i default] a' w.drew) (fs.map fun i => l.getD i default) a) : (Code.region id l.toArray true).wp P Q a w := by
  simp only [floatB3, Bool.and_eq_true, decide_eq_true_eq] at hB
  obtain ⟨⟨⟨⟨⟨⟨⟨⟨⟨⟨⟨⟨⟨⟨⟨⟨hsel, hn⟩, hs⟩, hc⟩, hfl⟩, hml⟩, hgl⟩, hijl⟩, hij⟩, htk⟩, hr⟩, hr1⟩, hr2⟩, hmd⟩, htg⟩, hsq⟩, hlen⟩ := hB
  have hsz : l.toArray.size = l.length := by simp
  have hnl : n < l.length := by simpa using hn
  have hget : ∀ (x : List Nat), x.all (fun i => decide (i < n)) = true → x.map (fun i => l.toArray[i]?) = (x.map fun i => l.getD i default).map some := fun x hx => by
    rw [List.map_map]
    refine List.map_congr_left (fun i hi => ?_)
    have := List.all_eq_true.1 hx i hi
    have hil : i < l.length := by simp at this; omega
    simp [List.getD, hil]
  have hf := hget fs hfl
  have hmo := hget ms hml
  have hgo := hget gs hgl
  have hijo := hget [i, j] hijl
  simp only [List.map_cons, List.map_nil, List.cons.injEq, and_true] at hijo
  have hin : i < n ∧ j < n := by simpa using hijl
  have inv0 : HeadInv .any l.toArray n (Array.replicate l.toArray.size false) :=
    ⟨by simp, fun j oj _ hl => (by rw [getD_replicate_false] at hl; cases hl), fun t _ ht => getD_in (by simpa using ht) (getD_replicate_false _ _)⟩
  have inv1 := HeadInv.takes fs _ inv0 hfl htk
  have inv1' := HeadInv.all inv1 (i := i) (j := j) (by rw [hr]; simp) (by rw [hr1]; simp) hin.1 hin.2
  have inv2 := HeadInv.mids ms _ inv1' hml hmd
  refine wp_region_any hm ?_
  have hdl : (l.drop n).length = l.toArray.size - n := by simp
  have hdone : ∀ (listed : Array Bool) (a : Act) (w : World), (Region.seqB .any l.toArray (l.toArray.size - n) n listed = true ∧ wpList P l.toArray Q (l.drop n) a w) → ∀ j ∈ Region.ready .any l.toArray listed, n ≤ j := fun listed a w hL => seqB_ready hL.1
  have back : ∀ a' w', K a' w' → headW P .any l.toArray Q S n (fun listed a w => Region.seqB .any l.toArray (l.toArray.size - n) n listed = true ∧ wpList P l.toArray Q (l.drop n) a w) (ms.length + gs.length) (setAll [i, j] (setAll fs (Array.replicate l.toArray.size false))) a' w' := fun a' w' hk =>
    mids_head2 gs.length ms _ _ a' _ hmo hml hmd (by
      refine wpMids_mono (fun a'' w'' h'' => ?_) _ a' _ (hK a' w' hk)
      have := takes_head (P := P) (S := S) (L := fun listed a w => Region.seqB .any l.toArray (l.toArray.size - n) n listed = true ∧ wpList P l.toArray Q (l.drop n) a w) hsel hQ hs hc hn hdone h''.1 0 gs _ _ a'' hgo inv2 hgl htg
        (wpTakes_mono (fun a3 h3 => ⟨hsq, h3⟩) _ a'' h''.2)
      rwa [Nat.add_zero] at this)
  have H := takes_head (P := P) (S := S) (L := fun listed a w => Region.seqB .any l.toArray (l.toArray.size - n) n listed = true ∧ wpList P l.toArray Q (l.drop n) a w) hsel hQ hs hc hn hdone hS ((ms.length + gs.length) + 2) fs _ _ a hf inv0 hfl htk
    (wpTakes_mono (fun a' h' => duo_head (ms.length + gs.length) hijo.1 hijo.2 hin.1 hin.2 hij hr hr1 hr2 (wpMids_mono back _ _ _ h'.1) (wpMids_mono back _ _ _ h'.2)) _ a h)
  have := headW.any (g := l.toArray.size - n) (fun listed a' w' hL => by
    have := wpAny_of_seq (md := .any) (Q' := Q) (l.drop n) n listed a' w' (fun j => by simp [List.getElem?_drop]) (by rw [hdl]; exact hL.1) hL.2
    rwa [hdl] at this) _ _ _ _ H
  rw [show fs.length + (ms.length + gs.length + 2) = n by omega, show n + (l.toArray.size - n) = l.toArray.size by omega] at this
  exact this
end Go.Proofs.YtcdimopiaanfbaaDoor
