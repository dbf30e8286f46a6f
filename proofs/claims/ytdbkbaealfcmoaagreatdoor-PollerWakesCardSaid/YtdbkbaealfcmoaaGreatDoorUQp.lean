/- Tasks parked by a function, and woken: of park's PQPure what names no program. -/
import Derived.Test.YtdbkbaealfcmoaaGreatDoorUPure
namespace Go.Proofs.YtdbkbaealfcmoaaGreatDoor
open Go.RowKit Go.Sort
set_option linter.unusedVariables false
set_option linter.unusedSimpArgs false
theorem leaves_R (l : List Nat) : ∀ z : Zt, l.Nodup → (∀ i ∈ l, ((i : Nat) : Int) ∉ z.R) → (z.leaves l).R = z.R ++ cat l := by
  induction l with
  | nil => intro z _ _; simp [Zt.leaves, cat]
  | cons i r ih =>
    intro z hn h
    rw [List.nodup_cons] at hn
    have h1 : woR ((i : Nat) : Int) z.R = z.R := List.filter_eq_self.2 fun x hx => by
      have : x ≠ ((i : Nat) : Int) := fun e => h i List.mem_cons_self (e ▸ hx)
      simpa using this
    show ((z.leave i).leaves r).R = _
    rw [ih _ hn.2 (fun j hj hm => ?_)]
    · show (woR ((i : Nat) : Int) z.R ++ [((i : Nat) : Int)]) ++ cat r = _
      rw [h1]
      simp [cat]
    · change ((j : Nat) : Int) ∈ woR ((i : Nat) : Int) z.R ++ [((i : Nat) : Int)] at hm
      rw [h1] at hm
      rcases List.mem_append.1 hm with hm | hm
      · exact h j (List.mem_cons_of_mem _ hj) hm
      · simp at hm
        have : j = i := by omega
        subst this
        exact hn.1 hj
theorem wt_leaves (s : Sp) (l : List Nat) : ∀ z : Zt, wt s (z.leaves l).L = (wt s z.L).filter fun x => decide (x ∉ l) := by
  induction l with
  | nil => intro z; show wt s z.L = _; exact (List.filter_eq_self.2 (by simp)).symm
  | cons i r ih =>
    intro z
    show wt s ((z.leave i).leaves r).L = _
    rw [ih]
    show (wt s (woL i z.L)).filter _ = _
    rw [wt_woL, List.filter_filter]
    refine List.filter_congr fun x _ => ?_
    by_cases e : x = i <;> simp [e]

def qL (f : Nat → Sp) (i : Nat) : Seats := (List.range i).map fun j => (j, f j)
def qS (c i : Nat) : List Int := List.replicate i 2 ++ List.replicate (c - i) 0
def zQ (f : Nat → Sp) (c i : Nat) : Zt := ⟨qS c i, [], qL f i⟩
def qs (f : Nat → Sp) (s : Sp) (i : Nat) : List Nat := (List.range i).filter fun j => decide (f j = s)
section
variable {f : Nat → Sp} {c i : Nat} {s : Sp}
theorem wt_qL (f : Nat → Sp) (s : Sp) (i : Nat) : wt s (qL f i) = qs f s i := by
  unfold wt qL qs
  rw [List.filter_map, List.map_map]
  have : (Prod.fst ∘ fun j => (j, f j)) = (id : Nat → Nat) := rfl
  rw [this, List.map_id]
  rfl
theorem qs_succ (f : Nat → Sp) (s : Sp) (i : Nat) : qs f s (i + 1) = qs f s i ++ if f i = s then [i] else [] := by
  unfold qs
  rw [List.range_succ, List.filter_append]
  congr 1
  by_cases h : f i = s <;> simp [h]
theorem zQ_len (hi : i ≤ c) : (zQ f c i).S.length = c := by simp [zQ, qS]; omega
theorem zQ_start (hi : i < c) : stepC 0 (zQ f c i) ((i : Nat) : Int) = (0, ⟨(qS c i).set i 1, [((i : Nat) : Int)], qL f i⟩) := by
  unfold stepC
  rw [numI_at (by rw [zQ_len (by omega)]; exact hi)]
  have h1 : (zQ f c i).S.getD i 0 = frOf 0 := by
    show (qS c i).getD i 0 = 0
    unfold qS
    rw [List.getD_eq_getElem?_getD, List.getElem?_append_right (by simp)]
    rw [List.length_replicate, Nat.sub_self, List.getElem?_replicate, if_pos (by omega)]
    rfl
  simp only [h1, if_true]
  rfl
theorem zQ_park (hi : i < c) (hs : SpOk (f i)) : pkC ⟨(qS c i).set i 1, [((i : Nat) : Int)], qL f i⟩ ((i : Nat) : Int) (f i) = (0, zQ f c (i + 1)) := by
  unfold pkC
  rw [numI_at (by simp [qS]; omega)]
  have h1 : ((qS c i).set i 1).getD i 0 = 1 := by
    unfold qS
    rw [List.getD_eq_getElem?_getD, List.getElem?_set, if_pos rfl, if_pos (by simp; omega)]
    rfl
  simp only [if_pos hs, h1, if_true]
  refine Prod.ext rfl ?_
  show (⟨((qS c i).set i 1).set i 2, woR ((i : Nat) : Int) [((i : Nat) : Int)], qL f i ++ [(i, f i)]⟩ : Zt) = ⟨qS c (i + 1), [], qL f (i + 1)⟩
  congr 1
  · rw [List.set_set]
    unfold qS
    refine List.ext_getElem? fun j => ?_
    simp only [List.getElem?_set, List.getElem?_append, List.length_append, List.length_replicate, List.getElem?_replicate]
    by_cases h2 : i = j
    · subst h2
      have : i < i + (c - i) := by omega
      simp [this]
    · by_cases h3 : j < i
      · have : j < i + 1 := by omega
        simp [h2, h3, this]
      · have h4 : ¬ j < i + 1 := by omega
        have h5 : (j - i < c - i) ↔ (j - (i + 1) < c - (i + 1)) := by omega
        simp [h2, h3, h4, h5]
  · simp [woR]
  · unfold qL
    rw [List.range_succ, List.map_append]
    rfl
theorem zQ_where (hi : i < c) : whC (zQ f c (i + 1)) ((i : Nat) : Int) = (f i, 0) := by
  unfold whC
  rw [numI_at (by rw [zQ_len (by omega)]; exact hi)]
  have : seatOf (qL f (i + 1)) i = some (f i) := by
    refine (seatOf_some ?_).2 ?_
    · unfold qL
      rw [List.map_map]
      have : (Prod.fst ∘ fun j => (j, f j)) = (id : Nat → Nat) := rfl
      rw [this, List.map_id]
      exact List.nodup_range
    · unfold qL
      exact List.mem_map.2 ⟨i, by simp, rfl⟩
  simp only [show (zQ f c (i + 1)).L = qL f (i + 1) from rfl, this]
theorem qs_nodup (f : Nat → Sp) (s : Sp) (i : Nat) : (qs f s i).Nodup := List.nodup_range.sublist List.filter_sublist
theorem qs_len (f : Nat → Sp) (s : Sp) (i : Nat) : (qs f s i).length ≤ i := by
  unfold qs
  have := List.length_filter_le (fun j => decide (f j = s)) (List.range i)
  simpa using this
theorem mem_qs {j : Nat} : j ∈ qs f s i ↔ j < i ∧ f j = s := by simp [qs]
end
theorem filter_take {l : List Nat} (h : l.Nodup) (k : Nat) : (l.filter fun x => decide (x ∉ l.take k)) = l.drop k := by
  conv => lhs; arg 2; rw [← List.take_append_drop k l]
  rw [List.filter_append]
  have h1 : ((l.take k).filter fun x => decide (x ∉ l.take k)) = [] := by
    rw [List.filter_eq_nil_iff]
    intro x hx
    simpa using hx
  have h2 : ((l.drop k).filter fun x => decide (x ∉ l.take k)) = l.drop k := by
    refine List.filter_eq_self.2 fun x hx => ?_
    have h3 := h
    rw [← List.take_append_drop k l, List.nodup_append] at h3
    have : x ∉ l.take k := fun hm => h3.2.2 x hm x hx rfl
    simpa using this
  rw [h1, h2]
  rfl
section
variable {f : Nat → Sp} {c : Nat} {one two : Sp}
theorem wq1 (h : one ≠ two) : wt one ((zQ f c c).leaves (qs f two c)).L = qs f one c := by
  rw [wt_leaves]
  show (wt one (qL f c)).filter _ = _
  rw [wt_qL]
  refine List.filter_eq_self.2 fun x hx => ?_
  have : x ∉ qs f two c := fun hm => h ((mem_qs.1 hx).2.symm.trans (mem_qs.1 hm).2)
  simpa using this
theorem Rq1 : ((zQ f c c).leaves (qs f two c)).R = cat (qs f two c) := by
  rw [leaves_R _ _ (qs_nodup f two c) (fun i _ h => by cases h)]
  rfl
theorem wqk (h : one ≠ two) (k : Nat) : wt one (((zQ f c c).leaves (qs f two c)).leaves ((qs f one c).take k)).L = (qs f one c).drop k := by
  rw [wt_leaves, wq1 h, filter_take (qs_nodup f one c)]
theorem Rqk (h : one ≠ two) (k : Nat) : (((zQ f c c).leaves (qs f two c)).leaves ((qs f one c).take k)).R = cat (qs f two c) ++ cat ((qs f one c).take k) := by
  rw [leaves_R _ _ ((qs_nodup f one c).sublist (List.take_sublist _ _)) (fun i hi hm => ?_), Rq1]
  rw [Rq1] at hm
  unfold cat at hm
  obtain ⟨j, hj, e⟩ := List.mem_map.1 hm
  have : j = i := by omega
  subst this
  exact h ((mem_qs.1 (List.mem_of_mem_take hi)).2.symm.trans (mem_qs.1 hj).2)
theorem wkq (h : one ≠ two) (hs : SpOk one) {k : Nat} (hk : k < (qs f one c).length) : wkC (((zQ f c c).leaves (qs f two c)).leaves ((qs f one c).take k)) one = ((((qs f one c)[k] : Nat) : Int), 0, ((zQ f c c).leaves (qs f two c)).leaves ((qs f one c).take (k + 1))) := by
  unfold wkC
  rw [if_pos hs, wqk h, List.drop_eq_getElem_cons hk]
  simp only
  rw [List.take_succ_eq_append_getElem hk, leaves_append]
  rfl
theorem wkq_end (h : one ≠ two) (hs : SpOk one) : wkC (((zQ f c c).leaves (qs f two c)).leaves (qs f one c)) one = (0, 9, ((zQ f c c).leaves (qs f two c)).leaves (qs f one c)) := by
  have h1 := wqk (f := f) (c := c) h (qs f one c).length
  rw [List.take_length, List.drop_length] at h1
  unfold wkC
  rw [if_pos hs, h1]
theorem Rq_end (h : one ≠ two) : (((zQ f c c).leaves (qs f two c)).leaves (qs f one c)).R = cat (qs f two c) ++ cat (qs f one c) := by
  have h1 := Rqk (f := f) (c := c) h (qs f one c).length
  rw [List.take_length] at h1
  exact h1
theorem wkaq (hs : SpOk two) : wkaC (zQ f c c) two = (cat (qs f two c), 0, (zQ f c c).leaves (qs f two c)) := by
  unfold wkaC
  rw [if_pos hs, show wt two (zQ f c c).L = qs f two c from wt_qL f two c]
end
end Go.Proofs.YtdbkbaealfcmoaaGreatDoor
