/- PollerWakes, without any memory: all wait, all are woken. -/
import Derived.Test.YtdbkbaealfcmoaaGreatDoorUQp
namespace Go.Proofs.YtdbkbaealfcmoaaGreatDoor
open Go.RowKit Go.Sort
set_option linter.unusedVariables false
set_option linter.unusedSimpArgs false

theorem leaves_S (l : List Nat) : ∀ (z : Zt) (i : Nat), i < z.S.length → (z.leaves l).S[i]? = if i ∈ l then some 1 else z.S[i]? := by
  induction l with
  | nil => intro z i hi; simp [Zt.leaves]
  | cons j r ih =>
    intro z i hi
    have h1 : (z.leave j).S = z.S.set j 1 := rfl
    show ((z.leave j).leaves r).S[i]? = _
    rw [ih (z.leave j) i (by rw [h1]; simpa using hi), h1]
    by_cases hr : i ∈ r
    · simp [hr]
    · by_cases e : j = i
      · subst e; simp [hr, hi]
      · rw [List.getElem?_set_ne e]
        simp [hr, Ne.symm e]
theorem setR_app (R a b : List Int) (y : Int) : setR (setR R a y) b y = setR R (a ++ b) y := by unfold setR; rw [List.foldl_append]
theorem setR_at (l : List Int) (y : Int) : ∀ (R : List Int) (i : Nat), i < R.length → (setR R l y).getD i 0 = if (∃ j ∈ l, j.toNat = i) then y else R.getD i 0 := by
  induction l with
  | nil => intro R i hi; simp [setR]
  | cons j r ih =>
    intro R i hi
    show (setR (R.set j.toNat y) r y).getD i 0 = _
    rw [ih _ i (by simpa using hi)]
    by_cases hr : ∃ k ∈ r, k.toNat = i
    · rw [if_pos hr, if_pos (by obtain ⟨k, h1, h2⟩ := hr; exact ⟨k, List.mem_cons_of_mem _ h1, h2⟩)]
    · rw [if_neg hr]
      by_cases e : j.toNat = i
      · rw [if_pos ⟨j, List.mem_cons_self, e⟩]
        subst e
        simp [List.getD_eq_getElem?_getD, hi]
      · rw [if_neg (by rintro ⟨k, h1, h2⟩; rcases List.mem_cons.1 h1 with h3 | h3; exact e (h3 ▸ h2); exact hr ⟨k, h3, h2⟩)]
        simp [List.getD_eq_getElem?_getD, List.getElem?_set_ne e]
/-- The tasks of some spots. -/
def wlL (f : Nat → Sp) (c : Nat) (l : List Sp) : List Nat := l.flatMap fun s => qs f s c
theorem mem_wlL {f : Nat → Sp} {c : Nat} {l : List Sp} {j : Nat} : j ∈ wlL f c l ↔ j < c ∧ f j ∈ l := by
  unfold wlL
  rw [List.mem_flatMap]
  exact ⟨fun ⟨s, h1, h2⟩ => ⟨(mem_qs.1 h2).1, (mem_qs.1 h2).2 ▸ h1⟩, fun ⟨h1, h2⟩ => ⟨f j, h2, mem_qs.2 ⟨h1, rfl⟩⟩⟩
theorem wlL_app (f : Nat → Sp) (c : Nat) (l : List Sp) (s : Sp) : wlL f c (l ++ [s]) = wlL f c l ++ qs f s c := by unfold wlL; simp
theorem wlL_nodup {f : Nat → Sp} {c : Nat} : ∀ {l : List Sp}, l.Nodup → (wlL f c l).Nodup := by
  intro l
  induction l with
  | nil => intro _; simp [wlL]
  | cons s r ih =>
    intro h
    obtain ⟨h1, h2⟩ := List.nodup_cons.1 h
    show (qs f s c ++ wlL f c r).Nodup
    rw [List.nodup_append]
    refine ⟨qs_nodup f s c, ih h2, fun a ha b hb e => ?_⟩
    subst e
    exact h1 ((mem_qs.1 ha).2 ▸ (mem_wlL.1 hb).2)
/-- One spot more is woken. -/
theorem wake_more {x : Px} {f : Nat → Sp} {c : Nat} {l : List Sp} {s : Sp} (hz : x.z = (zQ f c c).leaves (wlL f c l)) (hs : SpOk s) (hn : s ∉ l) (y : Int) :
    x.wake s y = (cat (qs f s c), { x with z := (zQ f c c).leaves (wlL f c (l ++ [s])), R := setR x.R (cat (qs f s c)) y }) := by
  have hw : wt s x.z.L = qs f s c := by
    rw [hz, wt_leaves]
    show (wt s (qL f c)).filter _ = _
    rw [wt_qL]
    refine List.filter_eq_self.2 fun j hj => ?_
    have : j ∉ wlL f c l := fun hm => hn ((mem_qs.1 hj).2 ▸ (mem_wlL.1 hm).2)
    simpa using this
  have hk : wkaC x.z s = (cat (qs f s c), 0, (zQ f c c).leaves (wlL f c (l ++ [s]))) := by
    unfold wkaC
    rw [if_pos hs, hw, wlL_app, leaves_append, hz]
  unfold Px.wake
  rw [hk]
def spots4 : List Sp := [(0, 0), (0, 1), (1, 0), (1, 1)]
theorem wlL_R {f : Nat → Sp} {c : Nat} {l : List Sp} (h : l.Nodup) : ((zQ f c c).leaves (wlL f c l)).R = cat (wlL f c l) := by
  rw [leaves_R _ _ (wlL_nodup h) (fun i _ h => by cases h)]
  rfl
/-- The reason of each, when all have been woken. -/
theorem rsn_all {x : Px} {f : Nat → Sp} {c : Nat} {R0 : List Int} {y : Int} (hf : ∀ j, j < c → f j ∈ spots4) (hz : x.z = (zQ f c c).leaves (wlL f c spots4)) (hR : x.R = setR R0 (cat (wlL f c spots4)) y) (hl : R0.length = c) {i : Nat} (hi : i < c) : rsnC x ((i : Nat) : Int) = (y, 0) := by
  have hlen : (zQ f c c).S.length = c := zQ_len (Nat.le_refl _)
  have hm : i ∈ wlL f c spots4 := mem_wlL.2 ⟨hi, hf i hi⟩
  have hxl : x.z.S.length = c := by rw [hz, leaves_len, hlen]
  have hS : x.z.S[i]? = some 1 := by
    rw [hz, leaves_S _ _ i (by rw [hlen]; exact hi), if_pos hm]
  have hst : stC x.z ((i : Nat) : Int) = (1, 0) := by
    unfold stC
    rw [numI_at (by rw [hxl]; exact hi)]
    simp [List.getD_eq_getElem?_getD, hS]
  unfold rsnC
  rw [hst]
  simp only [ne_eq, not_true_eq_false, if_false]
  have hr := setR_at (cat (wlL f c spots4)) y R0 i (by rw [hl]; exact hi)
  rw [if_pos ⟨((i : Nat) : Int), List.mem_map.2 ⟨i, hm, rfl⟩, rfl⟩] at hr
  rw [hR]
  exact Prod.ext hr rfl
end Go.Proofs.YtdbkbaealfcmoaaGreatDoor
