/- Tables of tasks as lists: states with tickets, and the run set as a queue. -/
import Derived.Test.YtcdimopiaanfbaaDoorDPure
namespace Go.Proofs.YtcdimopiaanfbaaDoor
set_option linter.unusedVariables false
set_option linter.unusedSimpArgs false

/-- A task: its state, and its ticket in the run set. -/
structure Ck where
  s : Int
  k : Nat
abbrev Ks := List Ck

/-- The run set has just the tasks that are ready. -/
structure Rk (P : Ks) (Q : Qu) : Prop where
  rd : ∀ i p, P[i]? = some p → p.s = 1 → (p.k, ((i : Nat) : Int)) ∈ Q
  qu : ∀ x ∈ Q, ∃ i : Nat, x.2 = ((i : Nat) : Int) ∧ P[i]? = some ⟨1, x.1⟩

/-- The run set without a task. -/
def wo (n : Nat) (Q : Qu) : Qu := Q.filter fun x => decide (x.2 ≠ ((n : Nat) : Int))
theorem mem_wo {n : Nat} {Q : Qu} {x : Nat × Int} : x ∈ wo n Q ↔ x ∈ Q ∧ x.2 ≠ ((n : Nat) : Int) := by simp [wo, List.mem_filter]
theorem wo_len (n : Nat) (Q : Qu) : (wo n Q).length ≤ Q.length := List.length_filter_le _ _
theorem wo_append (n : Nat) (A B : Qu) : wo n (A ++ B) = wo n A ++ wo n B := List.filter_append _ _
theorem wo_same {n : Nat} {Q : Qu} (h : ∀ x ∈ Q, x.2 ≠ ((n : Nat) : Int)) : wo n Q = Q := List.filter_eq_self.2 fun x hx => by simpa using h x hx
theorem wo_inc {p n : Nat} {Q : Qu} (h : Inc p Q) : Inc p (wo n Q) := by
  induction Q generalizing p with
  | nil => trivial
  | cons x r ih =>
    obtain ⟨t, v⟩ := x
    have h1 := h.1
    unfold wo
    rw [List.filter_cons]
    split
    · exact ⟨h1, ih h.2⟩
    · exact (ih h.2).mono (by omega)

/-- What a call makes of the table, where the task goes to a state. -/
def stepP (P : Ks) (i : Nat) (tg : Int) (g : Nat) : Ks := P.set i ⟨tg, if tg = 1 then g + 1 else 0⟩
def stepQ (Q : Qu) (i : Nat) (tg : Int) (g : Nat) : Qu := wo i Q ++ if tg = 1 then [(g + 1, ((i : Nat) : Int))] else []
def stepG (tg : Int) (g : Nat) : Nat := if tg = 1 then g + 1 else g

section
variable {P : Ks} {Q : Qu} {i k g : Nat} {s tg : Int}
theorem setK {p : Ck} (hp : P[i]? = some p) (x : Ck) (j : Nat) : (P.set i x)[j]? = if i = j then some x else P[j]? := by
  have hl := (List.getElem?_eq_some_iff.1 hp).1
  rw [List.getElem?_set]
  by_cases h : i = j
  · subst h; simp [hl]
  · simp [h]
theorem Rk.fun (h : Rk P Q) {x : Nat × Int} (hx : x ∈ Q) {p : Ck} (hi : x.2 = ((i : Nat) : Int)) (hp : P[i]? = some p) : p = ⟨1, x.1⟩ := by
  obtain ⟨j, h1, h2⟩ := h.qu x hx
  have : i = j := by omega
  subst this
  rw [h2] at hp
  exact (Option.some.inj hp).symm
/-- A task that is not ready is not there. -/
theorem Rk.none (h : Rk P Q) {p : Ck} (hp : P[i]? = some p) (hs : p.s ≠ 1) : wo i Q = Q := wo_same fun x hx e => hs (by rw [h.fun hx e hp])
/-- A task that is ready is there once. -/
theorem Rk.split (h : Rk P Q) (hq : Inc 0 Q) (hp : P[i]? = some ⟨1, k⟩) : ∃ A B, Q = A ++ (k, ((i : Nat) : Int)) :: B ∧ wo i Q = A ++ B := by
  obtain ⟨A, B, rfl⟩ := List.append_of_mem (show (k, ((i : Nat) : Int)) ∈ Q from h.rd i _ hp rfl)
  obtain ⟨hA, hk, hB⟩ := (inc_append 0 A _).1 hq
  refine ⟨A, B, rfl, ?_⟩
  have e1 : wo i A = A := wo_same fun x hx e => by
    have h1 := h.fun (List.mem_append_left _ hx) e hp
    have := (hA.mem hx).2
    have h2 : k = x.1 := (Ck.mk.inj h1).2
    omega
  have e2 : wo i B = B := wo_same fun x hx e => by
    have h1 := h.fun (List.mem_append_right _ (List.mem_cons_of_mem _ hx)) e hp
    have := (hB.mem hx).1
    have h2 : k = x.1 := (Ck.mk.inj h1).2
    omega
  rw [wo_append, e1]
  have : wo i ((k, ((i : Nat) : Int)) :: B) = wo i B := by unfold wo; rw [List.filter_cons]; simp
  rw [this, e2]
theorem Rk.step (h : Rk P Q) {p : Ck} (hp : P[i]? = some p) (tg : Int) (g : Nat) : Rk (stepP P i tg g) (stepQ Q i tg g) := by
  refine ⟨fun j q hq hs => ?_, fun x hx => ?_⟩
  · unfold stepP at hq
    rw [setK hp] at hq
    unfold stepQ
    split at hq
    · rename_i e
      subst e
      cases hq
      simp only at hs ⊢
      subst hs
      simp
    · rename_i e
      exact List.mem_append_left _ (mem_wo.2 ⟨h.rd j q hq hs, by simp only; omega⟩)
  · unfold stepQ at hx
    unfold stepP
    rcases List.mem_append.1 hx with hx | hx
    · obtain ⟨h1, h2⟩ := mem_wo.1 hx
      obtain ⟨j, h3, h4⟩ := h.qu x h1
      refine ⟨j, h3, ?_⟩
      rw [setK hp, if_neg (by omega)]
      exact h4
    · split at hx
      · rename_i e
        simp at hx
        subst hx e
        exact ⟨i, rfl, by rw [setK hp, if_pos rfl]; simp⟩
      · cases hx
theorem stepQ_inc (h : Inc 0 Q) (hg : lst 0 Q ≤ g) : Inc 0 (stepQ Q i tg g) := by
  unfold stepQ
  refine (inc_append 0 _ _).2 ⟨wo_inc h, ?_⟩
  split
  · refine ⟨?_, trivial⟩
    by_cases h0 : wo i Q = []
    · rw [h0]; show 0 < g + 1; omega
    · obtain ⟨x, hx, e⟩ := List.mem_map.1 (lst_mem 0 h0)
      have := (h.mem (mem_wo.1 hx).1).2
      omega
  · trivial
end
theorem rk_new (n : Nat) : Rk (List.replicate n ⟨0, 0⟩) [] := by
  refine ⟨fun i p hp hs => ?_, fun x hx => by cases hx⟩
  rw [List.getElem?_replicate] at hp
  split at hp
  · cases hp; cases hs
  · cases hp
theorem Rk.nodup {P : Ks} {Q : Qu} (h : Rk P Q) {p : Nat} (hq : Inc p Q) : (Q.map Prod.snd).Nodup := by
  have hh : ∀ x ∈ Q, ∃ i : Nat, x.2 = ((i : Nat) : Int) ∧ P[i]? = some ⟨1, x.1⟩ := h.qu
  clear h
  induction Q generalizing p with
  | nil => exact List.nodup_nil
  | cons x r ih =>
    obtain ⟨t, v⟩ := x
    rw [List.map_cons, List.nodup_cons]
    refine ⟨fun hm => ?_, ih hq.2 (fun y hy => hh y (List.mem_cons_of_mem _ hy))⟩
    obtain ⟨y, hy, e⟩ := List.mem_map.1 hm
    obtain ⟨i, h1, h2⟩ := hh (t, v) List.mem_cons_self
    obtain ⟨j, h3, h4⟩ := hh y (List.mem_cons_of_mem _ hy)
    have e1 : y.2 = v := e
    have e2 : v = ((i : Nat) : Int) := h1
    have : i = j := by omega
    subst this
    rw [h2] at h4
    have e3 : t = y.1 := (Ck.mk.inj (Option.some.inj h4)).2
    have := (hq.2.mem hy).1
    omega
/-- A list without doubles of numbers below n is not longer than n. -/
theorem nodup_len : ∀ (n : Nat) (l : List Int), l.Nodup → (∀ x ∈ l, ∃ i : Nat, x = ((i : Nat) : Int) ∧ i < n) → l.length ≤ n
  | 0, [], _, _ => Nat.le_refl _
  | 0, x :: l, _, h => by obtain ⟨i, _, hi⟩ := h x List.mem_cons_self; omega
  | n + 1, l, hn, h => by
    by_cases hm : ((n : Nat) : Int) ∈ l
    · have h1 := nodup_len n (l.erase ((n : Nat) : Int)) (hn.erase _) (fun x hx => by
        obtain ⟨i, e, hi⟩ := h x (List.mem_of_mem_erase hx)
        refine ⟨i, e, ?_⟩
        have : x ≠ ((n : Nat) : Int) := fun e2 => by rw [e2] at hx; exact (List.Nodup.mem_erase_iff hn).1 hx |>.1 rfl
        omega)
      rw [List.length_erase_of_mem hm] at h1
      omega
    · have h1 := nodup_len n l hn (fun x hx => by
        obtain ⟨i, e, hi⟩ := h x hx
        refine ⟨i, e, ?_⟩
        have : i ≠ n := fun e2 => by subst e2; rw [e] at hx; exact hm hx
        omega)
      omega
theorem Rk.len {P : Ks} {Q : Qu} (h : Rk P Q) (hq : Inc 0 Q) : Q.length ≤ P.length := by
  have := nodup_len P.length (Q.map Prod.snd) (h.nodup hq) (fun x hx => by
    obtain ⟨y, hy, rfl⟩ := List.mem_map.1 hx
    obtain ⟨i, h1, h2⟩ := h.qu y hy
    exact ⟨i, h1, (List.getElem?_eq_some_iff.1 h2).1⟩)
  simpa using this
end Go.Proofs.YtcdimopiaanfbaaDoor
