/- Places and descriptors as lists: what opening, closing and setting make of them. -/
import Derived.Test.YtbefiilbpbbjnaaBMem
namespace Go.Proofs.Ytbefiilbpbbjnaa
set_option linter.unusedVariables false
set_option linter.unusedSimpArgs false

/-- A place of a table: whether it is open, its generation, its value. -/
structure Pl where
  o : Bool
  g : Nat
  v : Int
/-- A descriptor of the reference: its number, its generation, its value, whether it is closed. -/
structure Fd where
  n : Nat
  g : Nat
  v : Int
  c : Bool
abbrev Tab := List Pl
abbrev Fds := List Fd

/-- How many descriptors had a number. -/
def cnt (n : Nat) (L : Fds) : Nat := (L.filter fun f => f.n == n).length
/-- No open one has the number. -/
def clo (n : Nat) (L : Fds) : Prop := ∀ f ∈ L, f.n = n → f.c = true

theorem cnt_append (n : Nat) (A B : Fds) : cnt n (A ++ B) = cnt n A + cnt n B := by simp [cnt]
theorem cnt_cons (n : Nat) (f : Fd) (B : Fds) : cnt n (f :: B) = (if f.n = n then 1 else 0) + cnt n B := by
  unfold cnt
  rw [List.filter_cons]
  by_cases h : f.n = n <;> simp [h]; omega
theorem cnt_le (n : Nat) (L : Fds) : cnt n L ≤ L.length := List.length_filter_le _ _
theorem clo_append {n : Nat} {A B : Fds} : clo n (A ++ B) ↔ clo n A ∧ clo n B := by
  unfold clo
  constructor
  · intro h; exact ⟨fun f hf => h f (List.mem_append_left _ hf), fun f hf => h f (List.mem_append_right _ hf)⟩
  · rintro ⟨h1, h2⟩ f hf
    rcases List.mem_append.1 hf with h | h
    · exact h1 f h
    · exact h2 f h
theorem clo_cons {n : Nat} {f : Fd} {B : Fds} : clo n (f :: B) ↔ (f.n = n → f.c = true) ∧ clo n B := by
  unfold clo
  constructor
  · intro h; exact ⟨h f (List.mem_cons_self ..), fun x hx => h x (List.mem_cons_of_mem _ hx)⟩
  · rintro ⟨h1, h2⟩ x hx
    rcases List.mem_cons.1 hx with rfl | h
    · exact h1
    · exact h2 x h
theorem clo_nil (n : Nat) : clo n [] := fun _ h => by cases h

/-- The table P is that of the descriptors L. -/
structure Rel (P : Tab) (L : Fds) : Prop where
  lt : ∀ f ∈ L, f.n < P.length
  cl : ∀ f ∈ L, f.c = true → ∀ p, P[f.n]? = some p → f.g < p.g
  op : ∀ n p, P[n]? = some p → p.o = true → ∃ A B, L = A ++ ⟨n, p.g, p.v, false⟩ :: B ∧ clo n A ∧ clo n B
  no : ∀ n p, P[n]? = some p → p.o = false → clo n L
  ct : ∀ n p, P[n]? = some p → cnt n L = p.g + (if p.o then 1 else 0)

theorem rel_new (m : Nat) : Rel (List.replicate m ⟨false, 0, 0⟩) [] := by
  have hp : ∀ n (p : Pl), (List.replicate m (⟨false, 0, 0⟩ : Pl))[n]? = some p → p = ⟨false, 0, 0⟩ := fun n p h => by
    rw [List.getElem?_replicate] at h
    split at h
    · exact (Option.some.inj h).symm
    · cases h
  refine ⟨fun f hf => (by cases hf), fun f hf => (by cases hf), fun n p h ho => ?_, fun n p h ho => clo_nil n, fun n p h => ?_⟩
  · rw [hp n p h] at ho; cases ho
  · rw [hp n p h]; rfl

theorem set_get {P : Tab} {n : Nat} {p : Pl} (hp : P[n]? = some p) (x : Pl) (k : Nat) : (P.set n x)[k]? = if n = k then some x else P[k]? := by
  have hl := (List.getElem?_eq_some_iff.1 hp).1
  rw [List.getElem?_set]
  by_cases h : n = k
  · subst h; simp [hl]
  · simp [h]

theorem Rel.gen_le {P : Tab} {L : Fds} (h : Rel P L) {n : Nat} {p : Pl} (hp : P[n]? = some p) : p.g ≤ L.length := by
  have := h.ct n p hp
  have := cnt_le n L
  omega

theorem Rel.open {P : Tab} {L : Fds} (h : Rel P L) {n : Nat} {p : Pl} (hp : P[n]? = some p) (ho : p.o = false) (v : Int) : Rel (P.set n ⟨true, p.g, v⟩) (L ++ [⟨n, p.g, v, false⟩]) := by
  have hl := (List.getElem?_eq_some_iff.1 hp).1
  refine ⟨fun f hf => ?_, fun f hf hc q hq => ?_, fun k q hq hqo => ?_, fun k q hq hqo => ?_, fun k q hq => ?_⟩
  · rw [List.length_set]
    rcases List.mem_append.1 hf with hf | hf
    · exact h.lt f hf
    · simp at hf; subst hf; exact hl
  · rw [set_get hp] at hq
    rcases List.mem_append.1 hf with hf | hf
    · split at hq
      · rename_i e
        cases hq
        exact h.cl f hf hc p (by rw [← e]; exact hp)
      · exact h.cl f hf hc q hq
    · simp at hf; subst hf; cases hc
  · rw [set_get hp] at hq
    split at hq
    · rename_i e
      subst e
      cases hq
      exact ⟨L, [], rfl, h.no n p hp ho, clo_nil n⟩
    · rename_i e
      obtain ⟨A, B, rfl, hA, hB⟩ := h.op k q hq hqo
      refine ⟨A, B ++ [⟨n, p.g, v, false⟩], by simp, hA, clo_append.2 ⟨hB, clo_cons.2 ⟨fun e' => absurd e' e, clo_nil k⟩⟩⟩
  · rw [set_get hp] at hq
    split at hq
    · cases hq; cases hqo
    · rename_i e
      exact clo_append.2 ⟨h.no k q hq hqo, clo_cons.2 ⟨fun e' => absurd e' e, clo_nil k⟩⟩
  · rw [set_get hp] at hq
    rw [cnt_append, cnt_cons]
    split at hq
    · rename_i e
      subst e
      cases hq
      have := h.ct n p hp
      simp only [ho] at this
      have h0 : cnt n [] = 0 := rfl
      simp [this, h0]
    · rename_i e
      have h0 : cnt k [] = 0 := rfl
      simp [e, h0, h.ct k q hq]

/-- What the descriptor's change makes of the table: x is the new one, q its place. -/
theorem Rel.change {P : Tab} {A B : Fds} {n g : Nat} {v : Int} (h : Rel P (A ++ ⟨n, g, v, false⟩ :: B)) (hp : P[n]? = some ⟨true, g, v⟩) (hA : clo n A) (hB : clo n B) (v' : Int) (c : Bool) :
    Rel (P.set n (if c then ⟨false, g + 1, 0⟩ else ⟨true, g, v'⟩)) (A ++ ⟨n, g, v', c⟩ :: B) := by
  have hl := (List.getElem?_eq_some_iff.1 hp).1
  have hsub : ∀ f, f ∈ A ++ ⟨n, g, v', c⟩ :: B → f = ⟨n, g, v', c⟩ ∨ f ∈ A ∨ f ∈ B := fun f hf => by
    rcases List.mem_append.1 hf with hf | hf
    · exact .inr (.inl hf)
    · rcases List.mem_cons.1 hf with hf | hf
      · exact .inl hf
      · exact .inr (.inr hf)
  have hin : ∀ f, f ∈ A ∨ f ∈ B → f ∈ A ++ ⟨n, g, v, false⟩ :: B := fun f hf => by
    rcases hf with hf | hf
    · exact List.mem_append_left _ hf
    · exact List.mem_append_right _ (List.mem_cons_of_mem _ hf)
  have hcnt : ∀ k, cnt k (A ++ ⟨n, g, v', c⟩ :: B) = cnt k (A ++ ⟨n, g, v, false⟩ :: B) := fun k => by
    rw [cnt_append, cnt_append, cnt_cons, cnt_cons]
  have hoth : ∀ k, n ≠ k → clo k (A ++ ⟨n, g, v, false⟩ :: B) → clo k (A ++ ⟨n, g, v', c⟩ :: B) := fun k hk h0 => by
    obtain ⟨h1, h2⟩ := clo_append.1 h0
    exact clo_append.2 ⟨h1, clo_cons.2 ⟨fun e => absurd e hk, (clo_cons.1 h2).2⟩⟩
  refine ⟨fun f hf => ?_, fun f hf hc q hq => ?_, fun k q hq hqo => ?_, fun k q hq hqo => ?_, fun k q hq => ?_⟩
  · rw [List.length_set]
    rcases hsub f hf with rfl | hf
    · exact hl
    · exact h.lt f (hin f hf)
  · rw [set_get hp] at hq
    rcases hsub f hf with rfl | hf
    · simp only at hc
      subst hc
      simp at hq
      subst hq
      exact Nat.lt_succ_self g
    · split at hq
      · rename_i e
        have := h.cl f (hin f hf) hc ⟨true, g, v⟩ (by rw [← e]; exact hp)
        cases hq
        simp only at this
        split
        · show f.g < g + 1
          omega
        · exact this
      · exact h.cl f (hin f hf) hc q hq
  · rw [set_get hp] at hq
    split at hq
    · rename_i e
      subst e
      cases c
      · simp at hq
        subst hq
        exact ⟨A, B, rfl, hA, hB⟩
      · simp at hq
        subst hq
        cases hqo
    · rename_i e
      obtain ⟨A', B', hL, hA', hB'⟩ := h.op k q hq hqo
      -- the entry lies in A or in B
      rw [List.append_eq_append_iff] at hL
      rcases hL with ⟨D, h1, h2⟩ | ⟨D, h1, h2⟩
      · cases D with
        | nil =>
          simp at h2
          exact absurd h2.1.1.symm (fun e' => e e'.symm)
        | cons x D =>
          rw [List.cons_append, List.cons.injEq] at h2
          obtain ⟨rfl, h2⟩ := h2
          subst h1 h2
          obtain ⟨c1, c2⟩ := clo_append.1 hA'
          refine ⟨A ++ ⟨n, g, v', c⟩ :: D, B', by simp, clo_append.2 ⟨c1, clo_cons.2 ⟨fun e' => absurd e' e, (clo_cons.1 c2).2⟩⟩, hB'⟩
      · cases D with
        | nil =>
          simp at h2
          exact absurd h2.1.1 (fun e' => e e'.symm)
        | cons x D =>
          rw [List.cons_append, List.cons.injEq] at h2
          obtain ⟨rfl, h2⟩ := h2
          subst h1 h2
          obtain ⟨c1, c2⟩ := clo_append.1 hB'
          refine ⟨A', D ++ ⟨n, g, v', c⟩ :: B, by simp, hA', clo_append.2 ⟨c1, clo_cons.2 ⟨fun e' => absurd e' e, (clo_cons.1 c2).2⟩⟩⟩
  · rw [set_get hp] at hq
    split at hq
    · rename_i e
      subst e
      cases c
      · simp at hq
        subst hq
        cases hqo
      · exact clo_append.2 ⟨hA, clo_cons.2 ⟨fun _ => rfl, hB⟩⟩
    · rename_i e
      exact hoth k e (h.no k q hq hqo)
  · rw [set_get hp] at hq
    rw [hcnt]
    split at hq
    · rename_i e
      subst e
      have := h.ct n _ hp
      cases c
      · simp at hq this
        subst hq
        simpa using this
      · simp at hq this
        subst hq
        simpa using this
    · exact h.ct k q hq

/-- The descriptors that are open, from number k on. -/
def ents (k : Nat) : Tab → Fds
  | [] => []
  | p :: r => (if p.o then [⟨k, p.g, p.v, false⟩] else []) ++ ents (k + 1) r
theorem ents_append (k : Nat) (P Q : Tab) : ents k (P ++ Q) = ents k P ++ ents (k + P.length) Q := by
  induction P generalizing k with
  | nil => simp [ents]
  | cons p r ih => simp only [List.cons_append, ents, ih, List.append_assoc, List.length_cons]; rw [show k + 1 + r.length = k + (r.length + 1) by omega]
theorem ents_le (k : Nat) (P : Tab) : (ents k P).length ≤ P.length := by
  induction P generalizing k with
  | nil => simp [ents]
  | cons p r ih =>
    have := ih (k + 1)
    simp only [ents, List.length_append, List.length_cons]
    split
    · simp; omega
    · simp; omega
theorem ents_take {P : Tab} {k : Nat} {p : Pl} (hp : P[k]? = some p) : ents 0 (P.take (k + 1)) = ents 0 (P.take k) ++ (if p.o then [⟨k, p.g, p.v, false⟩] else []) := by
  have hl := (List.getElem?_eq_some_iff.1 hp)
  obtain ⟨hl1, hl2⟩ := hl
  rw [List.take_succ_eq_append_getElem hl1, ents_append, hl2]
  simp [ents, List.length_take, show min k P.length = k by omega]
theorem ents_split {P : Tab} {k : Nat} {p : Pl} (hp : P[k]? = some p) : ents 0 P = ents 0 (P.take k) ++ ((if p.o then [⟨k, p.g, p.v, false⟩] else []) ++ ents (k + 1) (P.drop (k + 1))) := by
  have hl := (List.getElem?_eq_some_iff.1 hp)
  obtain ⟨hl1, hl2⟩ := hl
  conv => lhs; rw [← List.take_append_drop k P, ents_append, List.drop_eq_getElem_cons hl1, hl2]
  simp [ents, List.length_take, show min k P.length = k by omega]

/-- The lowest place that is free. -/
def free (P : Tab) : Nat := P.findIdx fun p => !p.o
theorem free_lt {P : Tab} (h : free P < P.length) : ∃ p, P[free P]? = some p ∧ p.o = false := by
  have h1 : (!(P[free P]).o) = true := List.findIdx_getElem (w := h)
  exact ⟨_, List.getElem?_eq_getElem h, by simpa using h1⟩
theorem free_before {P : Tab} {k : Nat} {p : Pl} (hk : k < free P) (hp : P[k]? = some p) : p.o = true := by
  have hl := List.getElem?_eq_some_iff.1 hp
  have := List.not_of_lt_findIdx hk
  rw [hl.2] at this
  simpa using this
theorem free_at {P : Tab} {n : Nat} {p : Pl} (hp : P[n]? = some p) (ho : p.o = false) (hb : ∀ k, k < n → ∀ q, P[k]? = some q → q.o = true) : free P = n := by
  obtain ⟨hn, _⟩ := List.getElem?_eq_some_iff.1 hp
  rcases Nat.lt_trichotomy (free P) n with h | h | h
  · obtain ⟨q, hq, hqo⟩ := free_lt (P := P) (by omega)
    rw [hb _ h q hq] at hqo
    cases hqo
  · exact h
  · rw [free_before h hp] at ho; cases ho

/-- No open descriptor has this name. -/
def NoFd (P : Tab) (N G : Int) : Prop := ∀ n p, N = ((n : Nat) : Int) → P[n]? = some p → p.o = true → G ≠ ((p.g : Nat) : Int)
/-- No open descriptor has this number. -/
def NoN (P : Tab) (N : Int) : Prop := ∀ n p, N = ((n : Nat) : Int) → P[n]? = some p → p.o = false
theorem NoN.fd {P : Tab} {N : Int} (h : NoN P N) (G : Int) : NoFd P N G := fun n p e hp ho => by rw [h n p e hp] at ho; cases ho
theorem fd_cases (P : Tab) (N G : Int) : (∃ (n g : Nat) (v : Int), N = ((n : Nat) : Int) ∧ G = ((g : Nat) : Int) ∧ P[n]? = some ⟨true, g, v⟩) ∨ NoFd P N G := by
  by_cases h : NoFd P N G
  · exact .inr h
  · left
    unfold NoFd at h
    simp only [Classical.not_forall] at h
    obtain ⟨n, ⟨o, g, v⟩, e, hp, ho, hg⟩ := h
    simp only at ho
    subst ho
    exact ⟨n, g, v, e, Classical.not_not.1 hg, hp⟩
theorem n_cases (P : Tab) (N : Int) : (∃ (n g : Nat) (v : Int), N = ((n : Nat) : Int) ∧ P[n]? = some ⟨true, g, v⟩) ∨ NoN P N := by
  by_cases h : NoN P N
  · exact .inr h
  · left
    unfold NoN at h
    simp only [Classical.not_forall] at h
    obtain ⟨n, ⟨o, g, v⟩, e, hp, ho⟩ := h
    simp only [Bool.not_eq_false] at ho
    subst ho
    exact ⟨n, g, v, e, hp⟩
end Go.Proofs.Ytbefiilbpbbjnaa
