/- The bytes from one place on up to another one, as parts; without any program. -/
import Derived.Test.YtkdbkamjaaehfaaCLook
namespace Go.Proofs.Ytkdbkamjaaehfaa
open Go.RowKit Go.Sort
set_option linter.unusedVariables false
set_option linter.unusedSimpArgs false

/-- Of the parts that begin at the place s: what lies from the place f on up to the place t. -/
def cutP (f t : Nat) : Nat → Parts → Parts
  | _, [] => []
  | s, p :: r => (if max s f < min (s + p.length) t then [(p.drop (f - s)).take (min (s + p.length) t - max s f)] else []) ++ cutP f t (s + p.length) r

theorem cutP_append (f t : Nat) : ∀ (s : Nat) (A B : Parts), cutP f t s (A ++ B) = cutP f t s A ++ cutP f t (s + A.flatten.length) B
  | _, [], B => by simp [cutP]
  | s, p :: r, B => by
    simp only [List.cons_append, cutP, List.flatten_cons, List.length_append, List.append_assoc]
    rw [cutP_append f t (s + p.length) r B, Nat.add_assoc]
theorem cutP_len (f t : Nat) : ∀ (s : Nat) (A : Parts), (cutP f t s A).length ≤ A.length
  | _, [] => Nat.le_refl _
  | s, p :: r => by
    simp only [cutP, List.length_append, List.length_cons]
    have := cutP_len f t (s + p.length) r
    split
    · simp; omega
    · simp; omega
theorem cutP_ne (f t : Nat) : ∀ (s : Nat) (A : Parts), ∀ p ∈ cutP f t s A, p ≠ []
  | _, [], p, h => by simp [cutP] at h
  | s, q :: r, p, h => by
    simp only [cutP, List.mem_append] at h
    rcases h with h | h
    · split at h
      · rename_i hlt
        simp at h
        subst h
        intro h0
        have := congrArg List.length h0
        simp at this
        omega
      · simp at h
    · exact cutP_ne f t _ r p h
theorem take_eq_of_le {α : Type} (l : List α) (a b : Nat) (h : min a l.length = min b l.length) : l.take a = l.take b := by
  rw [List.take_eq_take_iff]; exact h
theorem cutP_flat (f t : Nat) : ∀ (s : Nat) (A : Parts), (cutP f t s A).flatten = (A.flatten.take (t - s)).drop (f - s)
  | _, [] => by simp [cutP]
  | s, p :: r => by
    simp only [cutP, List.flatten_append, List.flatten_cons]
    rw [cutP_flat f t (s + p.length) r, List.take_append, List.drop_append]
    have h2 : ((List.take (t - s - p.length) r.flatten).drop (f - (s + p.length))) = (List.take (t - (s + p.length)) r.flatten).drop (f - (s + p.length)) := by
      congr 2; omega
    have h1 : (if max s f < min (s + p.length) t then [(p.drop (f - s)).take (min (s + p.length) t - max s f)] else []).flatten = (p.take (t - s)).drop (f - s) := by
      split
      · rename_i hlt
        simp only [List.flatten_cons, List.flatten_nil, List.append_nil]
        rw [List.drop_take]
        exact take_eq_of_le _ _ _ (by simp; omega)
      · rename_i hlt
        simp only [List.flatten_nil]
        symm
        apply List.drop_eq_nil_of_le
        simp
        omega
    rw [h1]
    congr 1
    rw [← h2]
    by_cases hk : p.length ≤ t - s
    · congr 1
      simp
      omega
    · have : t - s - p.length = 0 := by omega
      rw [this]
      simp

/-- Where the next part begins, when k parts have been looked at. -/
def startK (f t : Nat) (Ps : Parts) (k : Nat) : Nat := max f (min ((Ps.take k).flatten.length) t)
theorem cut_part (f t : Nat) (h : f ≤ t) (Ps : Parts) (k : Nat) (hk : k < Ps.length) :
    (startK f t Ps k < min ((Ps.take (k + 1)).flatten.length) t → cutP f t 0 (Ps.take (k + 1)) = cutP f t 0 (Ps.take k) ++ [(Ps[k].drop (f - (Ps.take k).flatten.length)).take (min ((Ps.take (k + 1)).flatten.length) t - max (Ps.take k).flatten.length f)] ∧ startK f t Ps (k + 1) = min ((Ps.take (k + 1)).flatten.length) t) ∧
    (¬ startK f t Ps k < min ((Ps.take (k + 1)).flatten.length) t → cutP f t 0 (Ps.take (k + 1)) = cutP f t 0 (Ps.take k) ∧ startK f t Ps (k + 1) = startK f t Ps k) := by
  have hst : (Ps.take (k + 1)).flatten.length = (Ps.take k).flatten.length + (Ps[k]).length := by rw [flat_take_succ Ps k hk, List.length_append]
  unfold startK
  rw [List.take_succ_eq_append_getElem hk, cutP_append]
  rw [List.take_succ_eq_append_getElem hk] at hst
  simp only [cutP, Nat.zero_add, List.append_nil]
  rw [hst]
  constructor
  · intro hlt
    rw [if_pos (by omega)]
    refine ⟨rfl, ?_⟩
    omega
  · intro hlt
    rw [if_neg (by omega), List.append_nil]
    refine ⟨rfl, ?_⟩
    omega
theorem ends_snoc (f t : Nat) (h : f ≤ t) (Ps : Parts) (k : Nat) (hk : k < Ps.length) (hlt : startK f t Ps k < min ((Ps.take (k + 1)).flatten.length) t) :
    ends 0 (cutP f t 0 (Ps.take (k + 1))) = ends 0 (cutP f t 0 (Ps.take k)) ++ [min ((Ps.take (k + 1)).flatten.length) t - f] := by
  have hl : (cutP f t 0 (Ps.take (k + 1))).flatten.length = min ((Ps.take (k + 1)).flatten.length) t - f := by
    rw [cutP_flat]
    simp only [Nat.sub_zero, List.length_drop, List.length_take]
    omega
  have h1 := ((cut_part f t h Ps k hk).1 hlt).1
  rw [h1] at hl ⊢
  rw [ends_append]
  congr 1
  rw [List.flatten_append, List.length_append] at hl
  simp only [List.flatten_cons, List.flatten_nil, List.append_nil] at hl
  simp only [ends, Nat.zero_add, List.cons.injEq, and_true]
  exact hl

theorem cutP_min (f t L : Nat) : ∀ (s : Nat) (A : Parts), s + A.flatten.length ≤ L → cutP f (min t L) s A = cutP f t s A
  | _, [], _ => rfl
  | s, p :: r, h => by
    simp only [List.flatten_cons, List.length_append] at h
    simp only [cutP]
    rw [cutP_min f t L (s + p.length) r (by omega)]
    have : min (s + p.length) (min t L) = min (s + p.length) t := by omega
    rw [this]
theorem cutP_none (f t : Nat) (h : t ≤ f) : ∀ (s : Nat) (A : Parts), cutP f t s A = []
  | _, [] => rfl
  | s, p :: r => by
    simp only [cutP]
    rw [cutP_none f t h (s + p.length) r, if_neg (by omega)]
    rfl
theorem first_min (n : Nat) (Ps : Parts) : cutP 0 (min n Ps.flatten.length) 0 Ps = cutP 0 n 0 Ps := cutP_min 0 n _ 0 Ps (by omega)
theorem rest_min (n : Nat) (Ps : Parts) : cutP (min n Ps.flatten.length) Ps.flatten.length 0 Ps = cutP n Ps.flatten.length 0 Ps := by
  by_cases h : n ≤ Ps.flatten.length
  · rw [Nat.min_eq_left h]
  · rw [cutP_none _ _ (by omega), cutP_none _ _ (by omega)]

/-- The first bytes, at most n of them, as parts; the rest. -/
def firstP (n : Nat) (Ps : Parts) : Parts := cutP 0 n 0 Ps
def restP (n : Nat) (Ps : Parts) : Parts := cutP n Ps.flatten.length 0 Ps
theorem firstP_flat (n : Nat) (Ps : Parts) : (firstP n Ps).flatten = Ps.flatten.take n := by
  unfold firstP; rw [cutP_flat]; simp
theorem restP_flat (n : Nat) (Ps : Parts) : (restP n Ps).flatten = Ps.flatten.drop n := by
  unfold restP; rw [cutP_flat, Nat.sub_zero, Nat.sub_zero, List.take_length]
end Go.Proofs.Ytkdbkamjaaehfaa
