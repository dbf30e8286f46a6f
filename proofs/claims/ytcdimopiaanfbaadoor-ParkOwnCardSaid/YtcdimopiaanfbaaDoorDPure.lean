/- Queues as lists of tickets and values, and their links as functions: what adding at the end and removing make of them. -/
import Derived.Test.YtcdimopiaanfbaaDoorBMem
namespace Go.Proofs.YtcdimopiaanfbaaDoor
set_option linter.unusedVariables false
set_option linter.unusedSimpArgs false

/-- A link: a value, and the tickets before and after it. -/
structure Lk where
  v : Int
  b : Nat
  a : Nat

/-- A queue: tickets and values, in order. -/
abbrev Qu := List (Nat × Int)

/-- The first ticket, or n. -/
def hdd (n : Nat) : Qu → Nat
  | [] => n
  | (t, _) :: _ => t
/-- The last ticket, or p. -/
def lst (p : Nat) : Qu → Nat
  | [] => p
  | (t, _) :: r => lst t r
/-- The links of a part of a queue that stands between the tickets p and n. -/
def lks (p : Nat) (n : Nat) : Qu → Nat → Option Lk
  | [], _ => none
  | (t, v) :: r, k => if k = t then some ⟨v, p, hdd n r⟩ else lks t n r k
/-- Tickets rise, from above p on. -/
def Inc (p : Nat) : Qu → Prop
  | [] => True
  | (t, _) :: r => p < t ∧ Inc t r

def updL (f : Nat → Option Lk) (k : Nat) (x : Option Lk) : Nat → Option Lk := fun j => if j = k then x else f j
def setA (q : Nat) (x : Lk) : Lk := ⟨x.v, x.b, q⟩
def setB (p : Nat) (x : Lk) : Lk := ⟨x.v, p, x.a⟩
/-- What join makes of the links. -/
def joinF (f : Nat → Option Lk) (p q : Nat) : Nat → Option Lk :=
  let f1 := if p = 0 then f else updL f p ((f p).map (setA q))
  if q = 0 then f1 else updL f1 q ((f1 q).map (setB p))

theorem lst_append (p : Nat) (A B : Qu) : lst p (A ++ B) = lst (lst p A) B := by
  induction A generalizing p with
  | nil => rfl
  | cons x r ih => obtain ⟨t, v⟩ := x; exact ih t
theorem hdd_append (n : Nat) (A B : Qu) : hdd n (A ++ B) = hdd (hdd n B) A := by
  cases A with
  | nil => rfl
  | cons x r => rfl
theorem Inc.le {p : Nat} {L : Qu} (h : Inc p L) : p ≤ lst p L := by
  induction L generalizing p with
  | nil => exact Nat.le_refl _
  | cons x r ih =>
    obtain ⟨t, v⟩ := x
    have := ih h.2
    have := h.1
    show p ≤ lst t r
    omega
theorem Inc.mono {p p' : Nat} {L : Qu} (h : Inc p L) (hp : p' ≤ p) : Inc p' L := by
  cases L with
  | nil => trivial
  | cons x r => exact ⟨Nat.lt_of_le_of_lt hp h.1, h.2⟩
theorem inc_append (p : Nat) (A B : Qu) : Inc p (A ++ B) ↔ Inc p A ∧ Inc (lst p A) B := by
  induction A generalizing p with
  | nil => simp [Inc, lst]
  | cons x r ih =>
    obtain ⟨t, v⟩ := x
    show (p < t ∧ Inc t (r ++ B)) ↔ (p < t ∧ Inc t r) ∧ Inc (lst t r) B
    rw [ih]
    exact and_assoc.symm
/-- Every ticket lies above p and at most at the last one. -/
theorem Inc.mem {p : Nat} {L : Qu} (h : Inc p L) {x : Nat × Int} (hx : x ∈ L) : p < x.1 ∧ x.1 ≤ lst p L := by
  induction L generalizing p with
  | nil => cases hx
  | cons y r ih =>
    obtain ⟨t, v⟩ := y
    rcases List.mem_cons.1 hx with rfl | hr
    · exact ⟨h.1, h.2.le⟩
    · have := ih h.2 hr
      have h1 := h.1
      exact ⟨by omega, this.2⟩
theorem lks_le {p n k : Nat} {L : Qu} (h : Inc p L) (hk : k ≤ p) : lks p n L k = none := by
  induction L generalizing p with
  | nil => rfl
  | cons x r ih =>
    obtain ⟨t, v⟩ := x
    have h1 := h.1
    show (if k = t then _ else _) = none
    rw [if_neg (by omega)]
    exact ih h.2 (by omega)
theorem lks_gt {p n k : Nat} {L : Qu} (h : Inc p L) (hk : lst p L < k) : lks p n L k = none := by
  induction L generalizing p with
  | nil => rfl
  | cons x r ih =>
    obtain ⟨t, v⟩ := x
    have h1 := h.2.le
    have hk' : lst t r < k := hk
    show (if k = t then _ else _) = none
    rw [if_neg (by omega)]
    exact ih h.2 hk'
theorem lks_append {p n k : Nat} {A B : Qu} (h : Inc p (A ++ B)) : lks p n (A ++ B) k = if k ≤ lst p A then lks p (hdd n B) A k else lks (lst p A) n B k := by
  induction A generalizing p with
  | nil =>
    show lks p n B k = if k ≤ p then none else lks p n B k
    split
    · exact lks_le h (by assumption)
    · rfl
  | cons x r ih =>
    obtain ⟨t, v⟩ := x
    have h' : Inc t (r ++ B) := h.2
    have h2 := ((inc_append t r B).1 h').1.le
    show (if k = t then some ⟨v, p, hdd n (r ++ B)⟩ else lks t n (r ++ B) k) = if k ≤ lst t r then (if k = t then some ⟨v, p, hdd (hdd n B) r⟩ else lks t (hdd n B) r k) else lks (lst t r) n B k
    rw [ih h', hdd_append]
    by_cases hk : k = t
    · subst hk; simp [h2]
    · simp [hk]
theorem lks_n {p n n' : Nat} {A : Qu} (h : Inc p A) (k : Nat) : lks p n' A k = if k = lst p A then (lks p n A k).map (setA n') else lks p n A k := by
  induction A generalizing p with
  | nil => simp [lks]
  | cons x r ih =>
    obtain ⟨t, v⟩ := x
    have h2 := h.2.le
    show (if k = t then some ⟨v, p, hdd n' r⟩ else lks t n' r k) = if k = lst t r then (if k = t then some ⟨v, p, hdd n r⟩ else lks t n r k).map (setA n') else (if k = t then some ⟨v, p, hdd n r⟩ else lks t n r k)
    rw [ih h.2]
    by_cases hk : k = t
    · subst hk
      cases r with
      | nil => simp [hdd, lst, setA]
      | cons y r =>
        obtain ⟨u, z⟩ := y
        have h3 : k < u := h.2.1
        have h4 : u ≤ lst u r := h.2.2.le
        have h5 : k ≠ lst k ((u, z) :: r) := by show k ≠ lst u r; omega
        simp [h5, hdd]
    · simp [hk]
theorem lks_p {p p' n : Nat} {A : Qu} (k : Nat) : lks p' n A k = if k = hdd 0 A ∧ A ≠ [] then (lks p n A k).map (setB p') else lks p n A k := by
  cases A with
  | nil => simp [lks]
  | cons x r =>
    obtain ⟨t, v⟩ := x
    show (if k = t then some ⟨v, p', hdd n r⟩ else lks t n r k) = if k = t ∧ _ then (if k = t then some ⟨v, p, hdd n r⟩ else lks t n r k).map (setB p') else (if k = t then some ⟨v, p, hdd n r⟩ else lks t n r k)
    by_cases hk : k = t
    · subst hk; simp [setB]
    · simp [hk]
theorem lst_zero {L : Qu} (h : Inc 0 L) : lst 0 L = 0 ↔ L = [] := by
  cases L with
  | nil => simp [lst]
  | cons x r =>
    obtain ⟨t, v⟩ := x
    have h1 := h.1
    have h2 := h.2.le
    constructor
    · intro he
      have : lst t r = 0 := he
      omega
    · intro he; cases he
theorem hdd_zero {p : Nat} {L : Qu} (h : Inc p L) : hdd 0 L = 0 ↔ L = [] := by
  cases L with
  | nil => simp [hdd]
  | cons x r =>
    obtain ⟨t, v⟩ := x
    have h1 := h.1
    constructor
    · intro he
      have : t = 0 := he
      omega
    · intro he; cases he

/-- A value is added at the end. -/
theorem push_links {L : Qu} {g : Nat} (v : Int) (h : Inc 0 L) (hg : lst 0 L ≤ g) (k : Nat) :
    joinF (joinF (updL (lks 0 0 L) (g + 1) (some ⟨v, 0, 0⟩)) (lst 0 L) (g + 1)) (g + 1) 0 k = lks 0 0 (L ++ [(g + 1, v)]) k := by
  have hi : Inc 0 (L ++ [(g + 1, v)]) := (inc_append 0 L _).2 ⟨h, by omega, trivial⟩
  rw [lks_append hi]
  show _ = if k ≤ lst 0 L then lks 0 (g + 1) L k else (if k = g + 1 then some ⟨v, lst 0 L, 0⟩ else none)
  rw [lks_n (n := 0) h]
  have hgt := lks_gt (n := 0) (k := k) h
  unfold joinF updL
  by_cases h0 : lst 0 L = 0
  · have hL := (lst_zero h).1 h0
    subst hL
    simp only [lst, lks, hdd]
    by_cases hk : k = g + 1
    · subst hk; simp [setA, setB]
    · by_cases hk0 : k = 0 <;> simp [hk, hk0]
  · by_cases hk : k = g + 1
    · subst hk
      have : ¬ (g + 1 ≤ lst 0 L) := by omega
      have h3 : lst 0 L ≠ g + 1 := by omega
      have h4 : g + 1 ≠ lst 0 L := by omega
      simp [h0, this, setA, setB, h3, h4]
    · by_cases hkl : k = lst 0 L
      · have e1 : lst 0 L ≠ g + 1 := by omega
        subst hkl
        simp [h0, e1]
      · by_cases hle : k ≤ lst 0 L
        · simp [h0, hk, hkl, hle]
        · simp [h0, hk, hkl, hle, hgt (by omega)]
theorem push_first {L : Qu} {g : Nat} (v : Int) (h : Inc 0 L) : (if lst 0 L = 0 then g + 1 else hdd 0 L) = hdd 0 (L ++ [(g + 1, v)]) := by
  cases L with
  | nil => simp [lst, hdd]
  | cons x r =>
    rw [if_neg (fun e => by have := (lst_zero h).1 e; cases this)]
    rfl
theorem push_last (L : Qu) (g : Nat) (v : Int) : lst 0 (L ++ [(g + 1, v)]) = g + 1 := by rw [lst_append]; rfl

/-- A value is removed. -/
theorem remove_links {A B : Qu} {t : Nat} {v : Int} (h : Inc 0 (A ++ (t, v) :: B)) (k : Nat) :
    joinF (updL (lks 0 0 (A ++ (t, v) :: B)) t none) (lst 0 A) (hdd 0 B) k = lks 0 0 (A ++ B) k := by
  obtain ⟨hA, ht, hB⟩ := (inc_append 0 A _).1 h
  have hB' : Inc (lst 0 A) B := hB.mono (by omega)
  have hi : Inc 0 (A ++ B) := (inc_append 0 A B).2 ⟨hA, hB'⟩
  have hl : ∀ j, lks 0 0 (A ++ (t, v) :: B) j = if j ≤ lst 0 A then lks 0 t A j else if j = t then some ⟨v, lst 0 A, hdd 0 B⟩ else lks t 0 B j := fun j => by
    rw [lks_append h]; rfl
  rw [lks_append hi, lks_n (n := t) hA, lks_p (p := t) (p' := lst 0 A)]
  have hbt : B ≠ [] → t < hdd 0 B := fun hne => by
    cases B with
    | nil => exact absurd rfl hne
    | cons x r => exact hB.1
  have hz := hdd_zero hB
  have hz2 := lst_zero hA
  have hge : k ≤ t → lks t 0 B k = none := fun hk => lks_le hB hk
  have hgl : ∀ j, 0 < j → j ≤ lst 0 A → True := fun _ _ _ => trivial
  have hl0 : lks 0 t A 0 = none := lks_le hA (Nat.le_refl _)
  unfold joinF updL
  by_cases hAe : A = []
  · subst hAe
    have e0 : lst 0 ([] : Qu) = 0 := rfl
    simp only [e0] at hl ⊢
    by_cases hBe : B = []
    · subst hBe
      have e1 : hdd 0 ([] : Qu) = 0 := rfl
      simp only [e1, if_pos, hl]
      by_cases hk : k = t
      · subst hk; simp [lks]
      · by_cases hk0 : k = 0 <;> simp [hk, hk0, lks]
    · have h1 : hdd 0 B ≠ 0 := fun e => hBe (hz.1 e)
      have h2 := hbt hBe
      simp only [h1, if_neg, if_pos, hl, not_false_eq_true]
      by_cases hk : k = hdd 0 B
      · subst hk
        have e2 : hdd 0 B ≠ t := by omega
        have e3 : ¬ (hdd 0 B ≤ 0) := by omega
        simp [e2, e3, hBe, lst]
      · by_cases hkt : k = t
        · subst hkt
          have := hge (Nat.le_refl _)
          simp [hk, this]
          intro; omega
        · by_cases hk0 : k = 0
          · subst hk0; simp [hk, hkt, lks]
          · have : ¬ (k ≤ 0) := by omega
            simp [hk, hkt, hk0, this, lst]
  · have ha : lst 0 A ≠ 0 := fun e => hAe (hz2.1 e)
    by_cases hBe : B = []
    · subst hBe
      have e1 : hdd 0 ([] : Qu) = 0 := rfl
      simp only [e1, ha, if_pos, if_neg, hl, not_false_eq_true, lks, ne_eq, not_true_eq_false, and_false, if_false]
      by_cases hk : k = lst 0 A
      · subst hk
        have e2 : lst 0 A ≠ t := by omega
        simp [e2]
      · by_cases hkt : k = t
        · subst hkt
          have : ¬ (k ≤ lst 0 A) := by omega
          simp [hk, this]
        · by_cases hle : k ≤ lst 0 A <;> simp [hk, hkt, hle]
    · have h1 : hdd 0 B ≠ 0 := fun e => hBe (hz.1 e)
      have h2 := hbt hBe
      simp only [h1, ha, if_neg, hl, not_false_eq_true, ne_eq, hBe, and_true]
      by_cases hk : k = hdd 0 B
      · subst hk
        have e2 : hdd 0 B ≠ t := by omega
        have e3 : ¬ (hdd 0 B ≤ lst 0 A) := by omega
        have e4 : hdd 0 B ≠ lst 0 A := by omega
        simp [e2, e3, e4]
      · by_cases hkl : k = lst 0 A
        · subst hkl
          have e2 : lst 0 A ≠ t := by omega
          simp [hk, e2]
        · by_cases hkt : k = t
          · subst hkt
            have := hge (Nat.le_refl _)
            have e3 : ¬ (k ≤ lst 0 A) := by omega
            simp [hk, hkl, this, e3]
          · by_cases hle : k ≤ lst 0 A <;> simp [hk, hkl, hkt, hle]
theorem remove_first {A B : Qu} {t : Nat} {v : Int} (h : Inc 0 (A ++ (t, v) :: B)) : (if lst 0 A = 0 then hdd 0 B else hdd 0 (A ++ (t, v) :: B)) = hdd 0 (A ++ B) := by
  obtain ⟨hA, ht, hB⟩ := (inc_append 0 A _).1 h
  cases A with
  | nil => rfl
  | cons x r => rw [if_neg (fun e => by have := (lst_zero hA).1 e; cases this)]; rfl
theorem remove_last {A B : Qu} {t : Nat} {v : Int} (h : Inc 0 (A ++ (t, v) :: B)) : (if hdd 0 B = 0 then lst 0 A else lst 0 (A ++ (t, v) :: B)) = lst 0 (A ++ B) := by
  obtain ⟨hA, ht, hB⟩ := (inc_append 0 A _).1 h
  cases B with
  | nil => simp [hdd]
  | cons x r =>
    rw [if_neg (fun e => by have := (hdd_zero hB).1 e; cases this), lst_append, lst_append]
    rfl
/-- What stands at a ticket. -/
theorem lks_at {A B : Qu} {t : Nat} {v : Int} (h : Inc 0 (A ++ (t, v) :: B)) : lks 0 0 (A ++ (t, v) :: B) t = some ⟨v, lst 0 A, hdd 0 B⟩ := by
  obtain ⟨hA, ht, hB⟩ := (inc_append 0 A _).1 h
  rw [lks_append h, if_neg (by omega)]
  simp [lks]
theorem lks_none {p n : Nat} {L : Qu} {k : Nat} (h : k ∉ L.map Prod.fst) : lks p n L k = none := by
  induction L generalizing p with
  | nil => rfl
  | cons x r ih =>
    obtain ⟨t, v⟩ := x
    simp at h
    show (if k = t then _ else _) = none
    rw [if_neg h.1]
    exact ih (by simpa using h.2)
theorem lks_some {p n : Nat} {L : Qu} {k : Nat} (h : k ∈ L.map Prod.fst) : (lks p n L k).isSome := by
  induction L generalizing p with
  | nil => cases h
  | cons x r ih =>
    obtain ⟨t, v⟩ := x
    show (if k = t then some _ else lks t n r k).isSome
    by_cases hk : k = t
    · rw [if_pos hk]; rfl
    · rw [if_neg hk]
      refine ih ?_
      rw [List.map_cons] at h
      rcases List.mem_cons.1 h with e | e
      · exact absurd e hk
      · exact e
theorem lst_mem (p : Nat) {L : Qu} (h : L ≠ []) : lst p L ∈ L.map Prod.fst := by
  induction L generalizing p with
  | nil => exact absurd rfl h
  | cons x r ih =>
    obtain ⟨t, v⟩ := x
    show lst t r ∈ _
    cases r with
    | nil => exact List.mem_cons_self
    | cons y z => exact List.mem_cons_of_mem _ (ih t (by simp))
theorem hdd_mem {L : Qu} (h : L ≠ []) : hdd 0 L ∈ L.map Prod.fst := by
  cases L with
  | nil => exact absurd rfl h
  | cons x r => exact List.mem_cons_self
theorem joinF_some (f : Nat → Option Lk) (p q k : Nat) : (joinF f p q k).isSome = (f k).isSome := by
  unfold joinF updL
  by_cases hp : p = 0 <;> by_cases hq : q = 0 <;> simp only [hp, hq, if_true, if_false]
  · by_cases hk : k = q
    · subst hk; simp
    · simp [hk]
  · by_cases hk : k = p
    · subst hk; simp
    · simp [hk]
  · by_cases hk : k = q
    · subst hk
      by_cases hkp : k = p
      · subst hkp; simp
      · simp [hkp]
    · by_cases hkp : k = p
      · subst hkp; simp [hk]
      · simp [hk, hkp]
theorem rem_some_p {A B : Qu} {t : Nat} {v : Int} (h : Inc 0 (A ++ (t, v) :: B)) (h0 : lst 0 A ≠ 0) : (updL (lks 0 0 (A ++ (t, v) :: B)) t none (lst 0 A)).isSome := by
  obtain ⟨hA, ht, hB⟩ := (inc_append 0 A _).1 h
  have hAe : A ≠ [] := fun e => h0 ((lst_zero hA).2 e)
  unfold updL
  rw [if_neg (by omega)]
  exact lks_some (by rw [List.map_append]; exact List.mem_append_left _ (lst_mem 0 hAe))
theorem rem_some_q {A B : Qu} {t : Nat} {v : Int} (h : Inc 0 (A ++ (t, v) :: B)) (h0 : hdd 0 B ≠ 0) : (updL (lks 0 0 (A ++ (t, v) :: B)) t none (hdd 0 B)).isSome := by
  obtain ⟨hA, ht, hB⟩ := (inc_append 0 A _).1 h
  have hBe : B ≠ [] := fun e => h0 (by rw [e]; rfl)
  have hm := hdd_mem hBe
  obtain ⟨x, hx, hx2⟩ := List.mem_map.1 hm
  have := (hB.mem hx).1
  unfold updL
  rw [if_neg (by omega)]
  exact lks_some (by rw [List.map_append, List.map_cons]; exact List.mem_append_right _ (List.mem_cons_of_mem _ hm))
theorem rem_ne {A B : Qu} {t : Nat} {v : Int} (h : Inc 0 (A ++ (t, v) :: B)) : lst 0 A ≠ hdd 0 B ∨ lst 0 A = 0 := by
  obtain ⟨hA, ht, hB⟩ := (inc_append 0 A _).1 h
  by_cases hBe : B = []
  · subst hBe
    by_cases h0 : lst 0 A = 0
    · exact .inr h0
    · exact .inl h0
  · obtain ⟨x, hx, hx2⟩ := List.mem_map.1 (hdd_mem hBe)
    have := (hB.mem hx).1
    exact .inl (by omega)
theorem split_at {L : Qu} {k : Nat} (h : k ∈ L.map Prod.fst) : ∃ A v B, L = A ++ (k, v) :: B := by
  obtain ⟨⟨t, v⟩, hm, rfl⟩ := List.mem_map.1 h
  obtain ⟨A, B, rfl⟩ := List.append_of_mem hm
  exact ⟨A, v, B, rfl⟩
theorem Inc.len {p : Nat} {L : Qu} (h : Inc p L) : p + L.length ≤ lst p L := by
  induction L generalizing p with
  | nil => exact Nat.le_refl _
  | cons x r ih =>
    obtain ⟨t, v⟩ := x
    have := ih h.2
    have h1 := h.1
    show p + (r.length + 1) ≤ lst t r
    omega
/-- The link at a place. -/
def lkAt (L : Qu) (j : Nat) : Lk := ⟨(L.getD j (0, 0)).2, lst 0 (L.take j), hdd 0 (L.drop (j + 1))⟩
theorem qu_split {L : Qu} {j : Nat} (hj : j < L.length) : L = L.take j ++ ((L.getD j (0, 0)).1, (L.getD j (0, 0)).2) :: L.drop (j + 1) := by
  have : L.getD j (0, 0) = L[j] := by simp [List.getD, hj]
  rw [this]
  conv => lhs; rw [← List.take_append_drop j L, List.drop_eq_getElem_cons hj]
theorem lks_get {L : Qu} (h : Inc 0 L) {j : Nat} (hj : j < L.length) : lks 0 0 L (L.getD j (0, 0)).1 = some (lkAt L j) := by
  have h1 := qu_split hj
  have h' := h
  rw [h1] at h'
  have := lks_at h'
  rw [← h1] at this
  exact this
theorem lst_take {L : Qu} {j : Nat} (hj : j < L.length) : lst 0 (L.take (j + 1)) = (L.getD j (0, 0)).1 := by
  rw [List.take_succ_eq_append_getElem hj, lst_append]
  simp [List.getD, hj, lst]
theorem lst_pos {L : Qu} (h : Inc 0 L) {j : Nat} (hj : j < L.length) : 0 < (L.getD j (0, 0)).1 := by
  have h1 : L.getD j (0, 0) = L[j] := by simp [List.getD, hj]
  rw [h1]
  exact (h.mem (List.getElem_mem hj)).1
end Go.Proofs.YtcdimopiaanfbaaDoor
