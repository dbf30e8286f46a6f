/- What expires where all are set for one time. -/
import Derived.Test.YthlbnlbkgiclpaaDoorTKnown
namespace Go.Proofs.YthlbnlbkgiclpaaDoor
open Go.RowKit Go.Sort
set_option linter.unusedVariables false
set_option linter.unusedSimpArgs false

theorem bestFrom_const : ∀ (S : List El) (i b : Nat) (k : Int), (∀ e ∈ S, e.k = k) → bestFrom S i b k = b
  | [], i, b, k, _ => rfl
  | e :: r, i, b, k, h => by
    unfold bestFrom
    rw [if_neg (by have := h e (by simp); omega)]
    exact bestFrom_const r (i + 1) b k (fun f hf => h f (by simp [hf]))
theorem fstE_const (e : El) (r : List El) (h : ∀ f ∈ r, f.k = e.k) : fstE (e :: r) = some e := by
  rw [fstE_some (by simp)]
  have : best (e :: r) = 0 := by unfold best; exact bestFrom_const r 1 0 e.k h
  simp [this]
theorem removeS_head (e : El) (r : List El) (h : (hsOf (e :: r)).Nodup) : removeS (e :: r) e.h = r := by
  unfold removeS
  rw [List.filter_cons_of_neg (by simp), List.filter_eq_self]
  intro f hf
  have := (List.nodup_cons.1 h).1
  simp only [decide_eq_true_eq]
  intro q
  exact this (by rw [← q]; exact List.mem_map_of_mem hf)
theorem expS_const (at' : Int) : ∀ (S : List El) (gs : List Nat), (∀ e ∈ S, e.k = at') → (hsOf S).Nodup → (∀ x, x ∈ hsOf S → x < gs.length) → (expS at' S gs).1 = S.map (dueOf gs) ∧ (expS at' S gs).2.1 = []
  | [], gs, _, _, _ => ⟨rfl, rfl⟩
  | e :: r, gs, h, hnd, hl => by
    have hf := fstE_const e r (fun f hf => by rw [h f (by simp [hf]), h e (by simp)])
    rw [expS_due hf (by rw [h e (by simp)]; exact Int.le_refl _), removeS_head e r hnd]
    obtain ⟨h1, h2⟩ := expS_const at' r (bump gs e.h) (fun f hf => h f (by simp [hf])) (List.nodup_cons.1 hnd).2 (fun x hx => by rw [bump_len]; exact hl x (List.mem_cons_of_mem _ hx))
    refine ⟨?_, h2⟩
    simp only [h1, List.map_cons]
    congr 1
    refine List.map_congr_left (fun f hf => ?_)
    have hne : f.h ≠ e.h := fun q => (List.nodup_cons.1 hnd).1 (by rw [← q]; exact List.mem_map_of_mem hf)
    unfold dueOf
    rw [bump_get gs e.h f.h (hl e.h (by simp [hsOf])), if_neg hne]
    rfl

/-- All elements that were set have the numbers from 0 on. -/
structure ResS (S : List El) (m : Nat) : Prop where
  hs : hsOf S = List.range m
theorem ResS.len {S : List El} {m : Nat} (h : ResS S m) : S.length = m := by have := congrArg List.length h.hs; simpa [hsOf] using this
theorem low_range' (n : Nat) : lowOf (List.range n) = n := lowOf_eq (by simp) (fun j hj => by simpa using hj)
theorem ResS.get {S : List El} {m : Nat} (h : ResS S m) {j : Nat} {e : El} (he : S[j]? = some e) : e.h = j := by
  have h1 : (hsOf S)[j]? = some e.h := by simp [hsOf, he]
  rw [h.hs] at h1
  have hj := (List.getElem?_eq_some_iff.1 h1).1
  rw [List.length_range] at hj
  rw [List.getElem?_range hj] at h1
  exact (Option.some.inj h1).symm
theorem ResS.push {S : List El} {m : Nat} (h : ResS S m) (k v : Int) : ResS (pushS S k v) (m + 1) := ⟨by rw [hs_push, h.hs, low_range', List.range_succ]⟩
theorem ResS.change {S : List El} {m : Nat} (h : ResS S m) (x : Nat) (k : Int) : ResS (changeS S x k) m := ⟨by rw [hs_change, h.hs]⟩
def zerosG (m : Nat) : List Nat := List.replicate m 0
theorem zerosG_get (i x : Nat) : (zerosG i).getD x 0 = 0 := by
  unfold zerosG
  simp only [List.getD_eq_getElem?_getD, List.getElem?_replicate]
  split <;> rfl
theorem zerosG_set (i : Nat) : setG (zerosG i) i = zerosG (i + 1) := by
  unfold setG zerosG
  rw [if_pos (by rw [List.length_replicate]), List.replicate_succ']

/-- What is wanted at the end: the elements, all at one time. -/
def wantD (at' : Int) (S : List El) : List Du := S.map fun e => ⟨e.h, 0, e.v, at'⟩
theorem wantD_change (at' : Int) (S : List El) (x : Nat) (k : Int) : wantD at' (changeS S x k) = wantD at' S := by
  unfold wantD changeS
  rw [List.map_map]
  refine List.map_congr_left (fun e _ => ?_)
  simp only [Function.comp_apply]
  split <;> rfl
theorem change_get {S : List El} {x : Nat} {k : Int} {j : Nat} {e : El} (h : (changeS S x k)[j]? = some e) : ∃ f, S[j]? = some f ∧ e.h = f.h ∧ e.v = f.v ∧ (f.h = x → e.k = k) ∧ (f.h ≠ x → e.k = f.k) := by
  unfold changeS at h
  rw [List.getElem?_map] at h
  obtain ⟨f, hf, hfe⟩ := Option.map_eq_some_iff.1 h
  refine ⟨f, hf, ?_⟩
  by_cases q : f.h = x
  · rw [if_pos q] at hfe; subst hfe; exact ⟨rfl, rfl, fun _ => rfl, fun h => absurd q h⟩
  · rw [if_neg q] at hfe; subst hfe; exact ⟨rfl, rfl, fun h => absurd h q, fun _ => rfl⟩
end Go.Proofs.YthlbnlbkgiclpaaDoor
