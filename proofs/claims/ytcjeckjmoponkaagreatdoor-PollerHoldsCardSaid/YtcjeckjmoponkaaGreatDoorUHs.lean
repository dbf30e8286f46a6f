/- PollerHolds without any memory: Wait, Signal, Start, Finish, Turn. -/
import Derived.Test.YtcjeckjmoponkaaGreatDoorUHr
namespace Go.Proofs.YtcjeckjmoponkaaGreatDoor
open Go.RowKit Go.Sort
set_option linter.unusedVariables false
set_option linter.unusedSimpArgs false
section
variable {x : Px} {B : Nat}
theorem seatOf_add {L : Seats} {i : Nat} {s : Sp} (hi : seatOf L i = none) (j : Nat) : seatOf (L ++ [(i, s)]) j = if j = i then some s else seatOf L j := by
  unfold seatOf at *
  rw [List.find?_append]
  by_cases e : j = i
  · subst e
    rw [if_pos rfl]
    have : L.find? (fun x => decide (x.1 = j)) = none := by simpa using hi
    rw [this]
    simp
  · rw [if_neg e]
    cases h : L.find? (fun x => decide (x.1 = j)) with
    | some y => rfl
    | none =>
      have : decide (i = j) = false := by simp; omega
      simp [this]
/-- Wait. -/
theorem PI.wai (h : PI x B) (i N K D : Int) (hz : ZK (waiC x i N K D).2.z) : PI (waiC x i N K D).2 B ∧ SO x (waiC x i N K D).2 [] 0 0 0 := by
  unfold waiC at hz ⊢
  by_cases h1 : (stC x.z i).2 = 0
  case neg => rw [if_pos h1] at hz ⊢; exact ⟨h, SO.same x _ _ _⟩
  rw [if_neg (by simp [h1])] at hz ⊢
  by_cases h2 : x.code N K D = 0
  case neg => rw [if_pos h2] at hz ⊢; exact ⟨h, SO.same x _ _ _⟩
  rw [if_neg (by simp [h2])] at hz ⊢
  by_cases h3 : (stC x.z i).1 = 1
  case neg => rw [if_pos h3] at hz ⊢; exact ⟨h, SO.same x _ _ _⟩
  rw [if_neg (by simp [h3])] at hz ⊢
  by_cases h4 : x.f (plI N D) ≤ x.now
  case pos => rw [if_pos h4] at hz ⊢; exact ⟨h, SO.same x _ _ _⟩
  rw [if_neg h4] at hz ⊢
  obtain ⟨n, p, rfl, rfl, hp, ho, hD⟩ := Px.code_ok h2
  have hn : n < 128 := by rw [← h.tl]; exact (List.getElem?_eq_some_iff.1 hp).1
  have hs : SpOk (((n : Nat) : Int), D) := ⟨by simp only; omega, by simp only; omega, hD⟩
  rcases numI_or x.z i with ⟨e, _⟩ | ⟨j, rfl, hj, e⟩
  · unfold stC at h1; rw [e] at h1; simp at h1
  · have hS : x.z.S.getD j 0 = 1 := by unfold stC at h3; rw [e] at h3; exact h3
    have hno : seatOf x.z.L j = none := by
      rw [seatOf_none]
      intro hm
      have := (h.zk.st j _ (List.getElem?_eq_getElem hj)).2 hm
      rw [List.getD_eq_getElem?_getD, List.getElem?_eq_getElem hj] at hS
      simp only [Option.getD_some] at hS
      omega
    have hpk : pkC x.z ((j : Nat) : Int) (((n : Nat) : Int), D) = (0, x.z.park j (((n : Nat) : Int), D)) := by
      unfold pkC
      rw [e]
      simp only
      rw [if_pos hs, if_pos hS]
    rw [hpk] at hz ⊢
    refine ⟨⟨hz, h.tl, ?_, h.nn, fun k s hk => ?_, h.cl, h.gb⟩, SO.idle (x := x) ?_ (fun k hk => ?_) _ _ _⟩
    · show x.R.length = (x.z.S.set j 2).length
      rw [List.length_set]; exact h.rl
    · have hk' : seatOf (x.z.L ++ [(j, (((n : Nat) : Int), D))]) k = some s := hk
      rw [seatOf_add hno] at hk'
      by_cases ek : k = j
      · rw [if_pos ek] at hk'
        obtain rfl := Option.some.inj hk'
        exact ⟨p, by simpa using hp, ho, by show x.now < x.f (plI ((n : Nat) : Int) D); omega⟩
      · rw [if_neg ek] at hk'
        exact h.op k s hk'
    · show (x.z.S.set j 2).length = _
      rw [List.length_set]
    · show seatOf (x.z.L ++ [(j, (((n : Nat) : Int), D))]) k ≠ none
      rw [seatOf_add hno]
      split
      · simp
      · exact hk
/-- Signal. -/
theorem PI.sig (h : PI x B) (N K D : Int) (hz : ZK (sigC x N K D).2.2.z) : PI (sigC x N K D).2.2 B ∧ SO x (sigC x N K D).2.2 (if (sigC x N K D).2.1 = 0 then [(sigC x N K D).1] else []) 1 0 0 := by
  unfold sigC at hz ⊢
  by_cases h2 : x.code N K D = 0
  case neg =>
    rw [if_pos h2] at hz ⊢
    rw [if_neg h2]
    exact ⟨h, SO.same x _ _ _⟩
  rw [if_neg (by simp [h2])] at hz ⊢
  obtain ⟨n, p, rfl, rfl, hp, ho, hD⟩ := Px.code_ok h2
  have hn : n < 128 := by rw [← h.tl]; exact (List.getElem?_eq_some_iff.1 hp).1
  have hs : SpOk (((n : Nat) : Int), D) := ⟨by simp only; omega, by simp only; omega, hD⟩
  cases hw : wt (((n : Nat) : Int), D) x.z.L with
  | nil =>
    have e : wkC x.z (((n : Nat) : Int), D) = (0, 9, x.z) := by unfold wkC; rw [if_pos hs, hw]
    rw [e] at hz ⊢
    rw [if_pos (by simp)] at hz ⊢
    rw [if_neg (by simp)]
    exact ⟨h.moved hz rfl rfl rfl rfl rfl rfl, SO.idle (x := x) rfl (fun _ a => a) _ _ _⟩
  | cons i q =>
    have e : wkC x.z (((n : Nat) : Int), D) = (((i : Nat) : Int), 0, x.z.leave i) := by unfold wkC; rw [if_pos hs, hw]
    rw [e] at hz ⊢
    rw [if_neg (by simp)] at hz ⊢
    rw [if_pos rfl]
    have hm : (i, (((n : Nat) : Int), D)) ∈ x.z.L := mem_wt.1 (by rw [hw]; exact List.mem_cons_self)
    have hseat := (seatOf_some h.zk.nd).2 hm
    have hi : i < x.z.S.length := (h.sp hseat).2
    have hnd : ((x.z.leave i).L.map Prod.fst).Nodup := (List.filter_sublist.map _).nodup h.zk.nd
    have hst : ∀ j s, seatOf (x.z.leave i).L j = some s ↔ seatOf x.z.L j = some s ∧ j ≠ i := fun j s => by
      rw [seatOf_some hnd, seatOf_some h.zk.nd]
      show (j, s) ∈ x.z.L.filter _ ↔ _
      rw [List.mem_filter]
      simp
    refine ⟨⟨hz, h.tl, ?_, h.nn, fun j s hj => h.op j s ((hst j s).1 hj).1, h.cl, h.gb⟩, ⟨?_, fun j hj => ?_, fun j hj hX => ?_, fun e => by simp at e, fun e => by simp at e, by simp⟩⟩
    · show (x.R.set _ _).length = (x.z.S.set i 1).length
      rw [List.length_set, List.length_set]; exact h.rl
    · show (x.z.S.set i 1).length = _
      rw [List.length_set]
    · rw [List.mem_singleton]
      constructor
      · intro e2
        have : j = i := by omega
        subst this
        refine ⟨by rw [hseat]; simp, ?_⟩
        cases hq : seatOf (x.z.leave j).L j with
        | none => rfl
        | some s => exact absurd rfl ((hst j s).1 hq).2
      · rintro ⟨a, b⟩
        cases hq : seatOf x.z.L j with
        | none => exact absurd hq a
        | some s =>
          by_cases ej : j = i
          · omega
          · have := (hst j s).2 ⟨hq, ej⟩
            have b' : seatOf (x.z.leave i).L j = none := b
            rw [b'] at this
            cases this
    · have : j = i := by simp at hX; omega
      subst this
      refine ⟨?_, ?_⟩
      · show (x.z.S.set j 1).getD j 0 = 1
        rw [List.getD_eq_getElem?_getD, List.getElem?_set_self hi]; rfl
      · show (x.R.set (((j : Nat) : Int)).toNat 1).getD j 0 = 1
        have : (((j : Nat) : Int)).toNat = j := by omega
        rw [this, List.getD_eq_getElem?_getD, List.getElem?_set_self (by rw [h.rl]; exact hi)]; rfl
/-- Start, Finish, Turn. -/
theorem PI.sta (h : PI x B) (i : Int) (hz : ZK (staC x i).2.z) : PI (staC x i).2 B ∧ SO x (staC x i).2 [] 0 0 0 ∧ ((staC x i).1 = 0 → rsnC (staC x i).2 i = (0, 0)) := by
  have hl := stepC_L 0 x.z i
  refine ⟨h.moved hz rfl rfl rfl hl.1 hl.2 ?_, SO.idle (x := x) hl.2 (fun k hk => by show seatOf (stepC 0 x.z i).2.L k ≠ none; rw [hl.1]; exact hk) _ _ _, fun h0 => ?_⟩
  · show (if _ then _ else x.R).length = _
    split
    · rw [List.length_set]
    · rfl
  · have h0' : (stepC 0 x.z i).1 = 0 := h0
    rcases numI_or x.z i with ⟨e, _⟩ | ⟨j, rfl, hj, e⟩
    · unfold stepC at h0'; rw [e] at h0'; simp at h0'
    · have hs : (stepC 0 x.z ((j : Nat) : Int)).2.S = x.z.S.set j 1 := by
        unfold stepC at h0' ⊢
        rw [e] at h0' ⊢
        simp only at h0' ⊢
        split
        · rfl
        · rename_i hc; rw [if_neg hc] at h0'; simp at h0'
      have hjS : j < (stepC 0 x.z ((j : Nat) : Int)).2.S.length := by rw [hs, List.length_set]; exact hj
      have hst : stC (stepC 0 x.z ((j : Nat) : Int)).2 ((j : Nat) : Int) = (1, 0) := by
        unfold stC
        rw [numI_at hjS]
        simp only
        rw [hs, List.getD_eq_getElem?_getD, List.getElem?_set_self hj]
        rfl
      unfold rsnC
      show (if (stC (stepC 0 x.z ((j : Nat) : Int)).2 ((j : Nat) : Int)).2 ≠ 0 then _ else if (stC (stepC 0 x.z ((j : Nat) : Int)).2 ((j : Nat) : Int)).1 ≠ 1 then _ else (List.getD (staC x ((j : Nat) : Int)).2.R (((j : Nat) : Int)).toNat 0, (0 : Int))) = _
      rw [hst, if_neg (by simp), if_neg (by simp)]
      show (List.getD (if (stepC 0 x.z ((j : Nat) : Int)).1 = 0 then x.R.set (((j : Nat) : Int)).toNat 0 else x.R) (((j : Nat) : Int)).toNat 0, (0 : Int)) = _
      rw [if_pos h0']
      have : (((j : Nat) : Int)).toNat = j := by omega
      rw [this, List.getD_eq_getElem?_getD, List.getElem?_set_self (by rw [h.rl]; exact hj)]
      rfl
theorem PI.fin (h : PI x B) (i : Int) (hz : ZK (finC x i).2.z) : PI (finC x i).2 B ∧ SO x (finC x i).2 [] 0 0 0 := by
  have hl := stepC_L 3 x.z i
  exact ⟨h.moved hz rfl rfl rfl hl.1 hl.2 rfl, SO.idle (x := x) hl.2 (fun k hk => by show seatOf (stepC 3 x.z i).2.L k ≠ none; rw [hl.1]; exact hk) _ _ _⟩
theorem PI.tur (h : PI x B) (i : Int) (hz : ZK (turC x i).2.z) : PI (turC x i).2 B ∧ SO x (turC x i).2 [] 0 0 0 := by
  have hl := stepC_L 4 x.z i
  exact ⟨h.moved hz rfl rfl rfl hl.1 hl.2 rfl, SO.idle (x := x) hl.2 (fun k hk => by show seatOf (stepC 4 x.z i).2.L k ≠ none; rw [hl.1]; exact hk) _ _ _⟩
end
end Go.Proofs.YtcjeckjmoponkaaGreatDoor
