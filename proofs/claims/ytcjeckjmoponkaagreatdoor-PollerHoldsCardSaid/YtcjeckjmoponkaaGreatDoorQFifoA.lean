/- QFifoA: DPure, DMem, DQ, DJoin, DFind, DRem, DPop, DPush, merged. -/
import Derived.Test.YtcjeckjmoponkaaGreatDoorQMix
import Derived.MapKept
import Derived.Maps.OwnSet
import Derived.Maps.OwnOps
import Derived.StillTailTactics
import Derived.Deep.QuietTactic
import Derived.BigQuiet
import Derived.RegionTactic
/- Queues as lists of tickets and values, and their links as functions: what adding at the end and removing make of them. -/
namespace Go.Proofs.YtcjeckjmoponkaaGreatDoor
set_option linter.unusedVariables false
set_option linter.unusedSimpArgs false

/-- A link: a value, and the tickets before and after it. -/
structure Lk where
  v : Int
  b : Nat
  a : Nat

/-- A queue: tickets and values, in order. -/
abbrev Qu := List (Nat × Int)

/-- The first ticket, or n. -/
def hdd (n : Nat) : Qu → Nat
  | [] => n
  | (t, _) :: _ => t
/-- The last ticket, or p. -/
def lst (p : Nat) : Qu → Nat
  | [] => p
  | (t, _) :: r => lst t r
/-- The links of a part of a queue that stands between the tickets p and n. -/
def lks (p : Nat) (n : Nat) : Qu → Nat → Option Lk
  | [], _ => none
  | (t, v) :: r, k => if k = t then some ⟨v, p, hdd n r⟩ else lks t n r k
/-- Tickets rise, from above p on. -/
def Inc (p : Nat) : Qu → Prop
  | [] => True
  | (t, _) :: r => p < t ∧ Inc t r

def updL (f : Nat → Option Lk) (k : Nat) (x : Option Lk) : Nat → Option Lk := fun j => if j = k then x else f j
def setA (q : Nat) (x : Lk) : Lk := ⟨x.v, x.b, q⟩
def setB (p : Nat) (x : Lk) : Lk := ⟨x.v, p, x.a⟩
/-- What join makes of the links. -/
def joinF (f : Nat → Option Lk) (p q : Nat) : Nat → Option Lk :=
  let f1 := if p = 0 then f else updL f p ((f p).map (setA q))
  if q = 0 then f1 else updL f1 q ((f1 q).map (setB p))

theorem lst_append (p : Nat) (A B : Qu) : lst p (A ++ B) = lst (lst p A) B := by
  induction A generalizing p with
  | nil => rfl
  | cons x r ih => obtain ⟨t, v⟩ := x; exact ih t
theorem hdd_append (n : Nat) (A B : Qu) : hdd n (A ++ B) = hdd (hdd n B) A := by
  cases A with
  | nil => rfl
  | cons x r => rfl
theorem Inc.le {p : Nat} {L : Qu} (h : Inc p L) : p ≤ lst p L := by
  induction L generalizing p with
  | nil => exact Nat.le_refl _
  | cons x r ih =>
    obtain ⟨t, v⟩ := x
    have := ih h.2
    have := h.1
    show p ≤ lst t r
    omega
theorem Inc.mono {p p' : Nat} {L : Qu} (h : Inc p L) (hp : p' ≤ p) : Inc p' L := by
  cases L with
  | nil => trivial
  | cons x r => exact ⟨Nat.lt_of_le_of_lt hp h.1, h.2⟩
theorem inc_append (p : Nat) (A B : Qu) : Inc p (A ++ B) ↔ Inc p A ∧ Inc (lst p A) B := by
  induction A generalizing p with
  | nil => simp [Inc, lst]
  | cons x r ih =>
    obtain ⟨t, v⟩ := x
    show (p < t ∧ Inc t (r ++ B)) ↔ (p < t ∧ Inc t r) ∧ Inc (lst t r) B
    rw [ih]
    exact and_assoc.symm
/-- Every ticket lies above p and at most at the last one. -/
theorem Inc.mem {p : Nat} {L : Qu} (h : Inc p L) {x : Nat × Int} (hx : x ∈ L) : p < x.1 ∧ x.1 ≤ lst p L := by
  induction L generalizing p with
  | nil => cases hx
  | cons y r ih =>
    obtain ⟨t, v⟩ := y
    rcases List.mem_cons.1 hx with rfl | hr
    · exact ⟨h.1, h.2.le⟩
    · have := ih h.2 hr
      have h1 := h.1
      exact ⟨by omega, this.2⟩
theorem lks_le {p n k : Nat} {L : Qu} (h : Inc p L) (hk : k ≤ p) : lks p n L k = none := by
  induction L generalizing p with
  | nil => rfl
  | cons x r ih =>
    obtain ⟨t, v⟩ := x
    have h1 := h.1
    show (if k = t then _ else _) = none
    rw [if_neg (by omega)]
    exact ih h.2 (by omega)
theorem lks_gt {p n k : Nat} {L : Qu} (h : Inc p L) (hk : lst p L < k) : lks p n L k = none := by
  induction L generalizing p with
  | nil => rfl
  | cons x r ih =>
    obtain ⟨t, v⟩ := x
    have h1 := h.2.le
    have hk' : lst t r < k := hk
    show (if k = t then _ else _) = none
    rw [if_neg (by omega)]
    exact ih h.2 hk'
theorem lks_append {p n k : Nat} {A B : Qu} (h : Inc p (A ++ B)) : lks p n (A ++ B) k = if k ≤ lst p A then lks p (hdd n B) A k else lks (lst p A) n B k := by
  induction A generalizing p with
  | nil =>
    show lks p n B k = if k ≤ p then none else lks p n B k
    split
    · exact lks_le h (by assumption)
    · rfl
  | cons x r ih =>
    obtain ⟨t, v⟩ := x
    have h' : Inc t (r ++ B) := h.2
    have h2 := ((inc_append t r B).1 h').1.le
    show (if k = t then some ⟨v, p, hdd n (r ++ B)⟩ else lks t n (r ++ B) k) = if k ≤ lst t r then (if k = t then some ⟨v, p, hdd (hdd n B) r⟩ else lks t (hdd n B) r k) else lks (lst t r) n B k
    rw [ih h', hdd_append]
    by_cases hk : k = t
    · subst hk; simp [h2]
    · simp [hk]
theorem lks_n {p n n' : Nat} {A : Qu} (h : Inc p A) (k : Nat) : lks p n' A k = if k = lst p A then (lks p n A k).map (setA n') else lks p n A k := by
  induction A generalizing p with
  | nil => simp [lks]
  | cons x r ih =>
    obtain ⟨t, v⟩ := x
    have h2 := h.2.le
    show (if k = t then some ⟨v, p, hdd n' r⟩ else lks t n' r k) = if k = lst t r then (if k = t then some ⟨v, p, hdd n r⟩ else lks t n r k).map (setA n') else (if k = t then some ⟨v, p, hdd n r⟩ else lks t n r k)
    rw [ih h.2]
    by_cases hk : k = t
    · subst hk
      cases r with
      | nil => simp [hdd, lst, setA]
      | cons y r =>
        obtain ⟨u, z⟩ := y
        have h3 : k < u := h.2.1
        have h4 : u ≤ lst u r := h.2.2.le
        have h5 : k ≠ lst k ((u, z) :: r) := by show k ≠ lst u r; omega
        simp [h5, hdd]
    · simp [hk]
theorem lks_p {p p' n : Nat} {A : Qu} (k : Nat) : lks p' n A k = if k = hdd 0 A ∧ A ≠ [] then (lks p n A k).map (setB p') else lks p n A k := by
  cases A with
  | nil => simp [lks]
  | cons x r =>
    obtain ⟨t, v⟩ := x
    show (if k = t then some ⟨v, p', hdd n r⟩ else lks t n r k) = if k = t ∧ _ then (if k = t then some ⟨v, p, hdd n r⟩ else lks t n r k).map (setB p') else (if k = t then some ⟨v, p, hdd n r⟩ else lks t n r k)
    by_cases hk : k = t
    · subst hk; simp [setB]
    · simp [hk]
theorem lst_zero {L : Qu} (h : Inc 0 L) : lst 0 L = 0 ↔ L = [] := by
  cases L with
  | nil => simp [lst]
  | cons x r =>
    obtain ⟨t, v⟩ := x
    have h1 := h.1
    have h2 := h.2.le
    constructor
    · intro he
      have : lst t r = 0 := he
      omega
    · intro he; cases he
theorem hdd_zero {p : Nat} {L : Qu} (h : Inc p L) : hdd 0 L = 0 ↔ L = [] := by
  cases L with
  | nil => simp [hdd]
  | cons x r =>
    obtain ⟨t, v⟩ := x
    have h1 := h.1
    constructor
    · intro he
      have : t = 0 := he
      omega
    · intro he; cases he

/-- A value is added at the end. -/
theorem push_links {L : Qu} {g : Nat} (v : Int) (h : Inc 0 L) (hg : lst 0 L ≤ g) (k : Nat) :
    joinF (joinF (updL (lks 0 0 L) (g + 1) (some ⟨v, 0, 0⟩)) (lst 0 L) (g + 1)) (g + 1) 0 k = lks 0 0 (L ++ [(g + 1, v)]) k := by
  have hi : Inc 0 (L ++ [(g + 1, v)]) := (inc_append 0 L _).2 ⟨h, by omega, trivial⟩
  rw [lks_append hi]
  show _ = if k ≤ lst 0 L then lks 0 (g + 1) L k else (if k = g + 1 then some ⟨v, lst 0 L, 0⟩ else none)
  rw [lks_n (n := 0) h]
  have hgt := lks_gt (n := 0) (k := k) h
  unfold joinF updL
  by_cases h0 : lst 0 L = 0
  · have hL := (lst_zero h).1 h0
    subst hL
    simp only [lst, lks, hdd]
    by_cases hk : k = g + 1
    · subst hk; simp [setA, setB]
    · by_cases hk0 : k = 0 <;> simp [hk, hk0]
  · by_cases hk : k = g + 1
    · subst hk
      have : ¬ (g + 1 ≤ lst 0 L) := by omega
      have h3 : lst 0 L ≠ g + 1 := by omega
      have h4 : g + 1 ≠ lst 0 L := by omega
      simp [h0, this, setA, setB, h3, h4]
    · by_cases hkl : k = lst 0 L
      · have e1 : lst 0 L ≠ g + 1 := by omega
        subst hkl
        simp [h0, e1]
      · by_cases hle : k ≤ lst 0 L
        · simp [h0, hk, hkl, hle]
        · simp [h0, hk, hkl, hle, hgt (by omega)]
theorem push_first {L : Qu} {g : Nat} (v : Int) (h : Inc 0 L) : (if lst 0 L = 0 then g + 1 else hdd 0 L) = hdd 0 (L ++ [(g + 1, v)]) := by
  cases L with
  | nil => simp [lst, hdd]
  | cons x r =>
    rw [if_neg (fun e => by have := (lst_zero h).1 e; cases this)]
    rfl
theorem push_last (L : Qu) (g : Nat) (v : Int) : lst 0 (L ++ [(g + 1, v)]) = g + 1 := by rw [lst_append]; rfl

/-- A value is removed. -/
theorem remove_links {A B : Qu} {t : Nat} {v : Int} (h : Inc 0 (A ++ (t, v) :: B)) (k : Nat) :
    joinF (updL (lks 0 0 (A ++ (t, v) :: B)) t none) (lst 0 A) (hdd 0 B) k = lks 0 0 (A ++ B) k := by
  obtain ⟨hA, ht, hB⟩ := (inc_append 0 A _).1 h
  have hB' : Inc (lst 0 A) B := hB.mono (by omega)
  have hi : Inc 0 (A ++ B) := (inc_append 0 A B).2 ⟨hA, hB'⟩
  have hl : ∀ j, lks 0 0 (A ++ (t, v) :: B) j = if j ≤ lst 0 A then lks 0 t A j else if j = t then some ⟨v, lst 0 A, hdd 0 B⟩ else lks t 0 B j := fun j => by
    rw [lks_append h]; rfl
  rw [lks_append hi, lks_n (n := t) hA, lks_p (p := t) (p' := lst 0 A)]
  have hbt : B ≠ [] → t < hdd 0 B := fun hne => by
    cases B with
    | nil => exact absurd rfl hne
    | cons x r => exact hB.1
  have hz := hdd_zero hB
  have hz2 := lst_zero hA
  have hge : k ≤ t → lks t 0 B k = none := fun hk => lks_le hB hk
  have hgl : ∀ j, 0 < j → j ≤ lst 0 A → True := fun _ _ _ => trivial
  have hl0 : lks 0 t A 0 = none := lks_le hA (Nat.le_refl _)
  unfold joinF updL
  by_cases hAe : A = []
  · subst hAe
    have e0 : lst 0 ([] : Qu) = 0 := rfl
    simp only [e0] at hl ⊢
    by_cases hBe : B = []
    · subst hBe
      have e1 : hdd 0 ([] : Qu) = 0 := rfl
      simp only [e1, if_pos, hl]
      by_cases hk : k = t
      · subst hk; simp [lks]
      · by_cases hk0 : k = 0 <;> simp [hk, hk0, lks]
    · have h1 : hdd 0 B ≠ 0 := fun e => hBe (hz.1 e)
      have h2 := hbt hBe
      simp only [h1, if_neg, if_pos, hl, not_false_eq_true]
      by_cases hk : k = hdd 0 B
      · subst hk
        have e2 : hdd 0 B ≠ t := by omega
        have e3 : ¬ (hdd 0 B ≤ 0) := by omega
        simp [e2, e3, hBe, lst]
      · by_cases hkt : k = t
        · subst hkt
          have := hge (Nat.le_refl _)
          simp [hk, this]
          intro; omega
        · by_cases hk0 : k = 0
          · subst hk0; simp [hk, hkt, lks]
          · have : ¬ (k ≤ 0) := by omega
            simp [hk, hkt, hk0, this, lst]
  · have ha : lst 0 A ≠ 0 := fun e => hAe (hz2.1 e)
    by_cases hBe : B = []
    · subst hBe
      have e1 : hdd 0 ([] : Qu) = 0 := rfl
      simp only [e1, ha, if_pos, if_neg, hl, not_false_eq_true, lks, ne_eq, not_true_eq_false, and_false, if_false]
      by_cases hk : k = lst 0 A
      · subst hk
        have e2 : lst 0 A ≠ t := by omega
        simp [e2]
      · by_cases hkt : k = t
        · subst hkt
          have : ¬ (k ≤ lst 0 A) := by omega
          simp [hk, this]
        · by_cases hle : k ≤ lst 0 A <;> simp [hk, hkt, hle]
    · have h1 : hdd 0 B ≠ 0 := fun e => hBe (hz.1 e)
      have h2 := hbt hBe
      simp only [h1, ha, if_neg, hl, not_false_eq_true, ne_eq, hBe, and_true]
      by_cases hk : k = hdd 0 B
      · subst hk
        have e2 : hdd 0 B ≠ t := by omega
        have e3 : ¬ (hdd 0 B ≤ lst 0 A) := by omega
        have e4 : hdd 0 B ≠ lst 0 A := by omega
        simp [e2, e3, e4]
      · by_cases hkl : k = lst 0 A
        · subst hkl
          have e2 : lst 0 A ≠ t := by omega
          simp [hk, e2]
        · by_cases hkt : k = t
          · subst hkt
            have := hge (Nat.le_refl _)
            have e3 : ¬ (k ≤ lst 0 A) := by omega
            simp [hk, hkl, this, e3]
          · by_cases hle : k ≤ lst 0 A <;> simp [hk, hkl, hkt, hle]
theorem remove_first {A B : Qu} {t : Nat} {v : Int} (h : Inc 0 (A ++ (t, v) :: B)) : (if lst 0 A = 0 then hdd 0 B else hdd 0 (A ++ (t, v) :: B)) = hdd 0 (A ++ B) := by
  obtain ⟨hA, ht, hB⟩ := (inc_append 0 A _).1 h
  cases A with
  | nil => rfl
  | cons x r => rw [if_neg (fun e => by have := (lst_zero hA).1 e; cases this)]; rfl
theorem remove_last {A B : Qu} {t : Nat} {v : Int} (h : Inc 0 (A ++ (t, v) :: B)) : (if hdd 0 B = 0 then lst 0 A else lst 0 (A ++ (t, v) :: B)) = lst 0 (A ++ B) := by
  obtain ⟨hA, ht, hB⟩ := (inc_append 0 A _).1 h
  cases B with
  | nil => simp [hdd]
  | cons x r =>
    rw [if_neg (fun e => by have := (hdd_zero hB).1 e; cases this), lst_append, lst_append]
    rfl
/-- What stands at a ticket. -/
theorem lks_at {A B : Qu} {t : Nat} {v : Int} (h : Inc 0 (A ++ (t, v) :: B)) : lks 0 0 (A ++ (t, v) :: B) t = some ⟨v, lst 0 A, hdd 0 B⟩ := by
  obtain ⟨hA, ht, hB⟩ := (inc_append 0 A _).1 h
  rw [lks_append h, if_neg (by omega)]
  simp [lks]
theorem lks_some {p n : Nat} {L : Qu} {k : Nat} (h : k ∈ L.map Prod.fst) : (lks p n L k).isSome := by
  induction L generalizing p with
  | nil => cases h
  | cons x r ih =>
    obtain ⟨t, v⟩ := x
    show (if k = t then some _ else lks t n r k).isSome
    by_cases hk : k = t
    · rw [if_pos hk]; rfl
    · rw [if_neg hk]
      refine ih ?_
      rw [List.map_cons] at h
      rcases List.mem_cons.1 h with e | e
      · exact absurd e hk
      · exact e
theorem lst_mem (p : Nat) {L : Qu} (h : L ≠ []) : lst p L ∈ L.map Prod.fst := by
  induction L generalizing p with
  | nil => exact absurd rfl h
  | cons x r ih =>
    obtain ⟨t, v⟩ := x
    show lst t r ∈ _
    cases r with
    | nil => exact List.mem_cons_self
    | cons y z => exact List.mem_cons_of_mem _ (ih t (by simp))
theorem hdd_mem {L : Qu} (h : L ≠ []) : hdd 0 L ∈ L.map Prod.fst := by
  cases L with
  | nil => exact absurd rfl h
  | cons x r => exact List.mem_cons_self
theorem joinF_some (f : Nat → Option Lk) (p q k : Nat) : (joinF f p q k).isSome = (f k).isSome := by
  unfold joinF updL
  by_cases hp : p = 0 <;> by_cases hq : q = 0 <;> simp only [hp, hq, if_true, if_false]
  · by_cases hk : k = q
    · subst hk; simp
    · simp [hk]
  · by_cases hk : k = p
    · subst hk; simp
    · simp [hk]
  · by_cases hk : k = q
    · subst hk
      by_cases hkp : k = p
      · subst hkp; simp
      · simp [hkp]
    · by_cases hkp : k = p
      · subst hkp; simp [hk]
      · simp [hk, hkp]
theorem rem_some_p {A B : Qu} {t : Nat} {v : Int} (h : Inc 0 (A ++ (t, v) :: B)) (h0 : lst 0 A ≠ 0) : (updL (lks 0 0 (A ++ (t, v) :: B)) t none (lst 0 A)).isSome := by
  obtain ⟨hA, ht, hB⟩ := (inc_append 0 A _).1 h
  have hAe : A ≠ [] := fun e => h0 ((lst_zero hA).2 e)
  unfold updL
  rw [if_neg (by omega)]
  exact lks_some (by rw [List.map_append]; exact List.mem_append_left _ (lst_mem 0 hAe))
theorem rem_some_q {A B : Qu} {t : Nat} {v : Int} (h : Inc 0 (A ++ (t, v) :: B)) (h0 : hdd 0 B ≠ 0) : (updL (lks 0 0 (A ++ (t, v) :: B)) t none (hdd 0 B)).isSome := by
  obtain ⟨hA, ht, hB⟩ := (inc_append 0 A _).1 h
  have hBe : B ≠ [] := fun e => h0 (by rw [e]; rfl)
  have hm := hdd_mem hBe
  obtain ⟨x, hx, hx2⟩ := List.mem_map.1 hm
  have := (hB.mem hx).1
  unfold updL
  rw [if_neg (by omega)]
  exact lks_some (by rw [List.map_append, List.map_cons]; exact List.mem_append_right _ (List.mem_cons_of_mem _ hm))
theorem rem_ne {A B : Qu} {t : Nat} {v : Int} (h : Inc 0 (A ++ (t, v) :: B)) : lst 0 A ≠ hdd 0 B ∨ lst 0 A = 0 := by
  obtain ⟨hA, ht, hB⟩ := (inc_append 0 A _).1 h
  by_cases hBe : B = []
  · subst hBe
    by_cases h0 : lst 0 A = 0
    · exact .inr h0
    · exact .inl h0
  · obtain ⟨x, hx, hx2⟩ := List.mem_map.1 (hdd_mem hBe)
    have := (hB.mem hx).1
    exact .inl (by omega)
theorem Inc.len {p : Nat} {L : Qu} (h : Inc p L) : p + L.length ≤ lst p L := by
  induction L generalizing p with
  | nil => exact Nat.le_refl _
  | cons x r ih =>
    obtain ⟨t, v⟩ := x
    have := ih h.2
    have h1 := h.1
    show p + (r.length + 1) ≤ lst t r
    omega
/-- The link at a place. -/
def lkAt (L : Qu) (j : Nat) : Lk := ⟨(L.getD j (0, 0)).2, lst 0 (L.take j), hdd 0 (L.drop (j + 1))⟩
theorem qu_split {L : Qu} {j : Nat} (hj : j < L.length) : L = L.take j ++ ((L.getD j (0, 0)).1, (L.getD j (0, 0)).2) :: L.drop (j + 1) := by
  have : L.getD j (0, 0) = L[j] := by simp [List.getD, hj]
  rw [this]
  conv => lhs; rw [← List.take_append_drop j L, List.drop_eq_getElem_cons hj]
theorem lks_get {L : Qu} (h : Inc 0 L) {j : Nat} (hj : j < L.length) : lks 0 0 L (L.getD j (0, 0)).1 = some (lkAt L j) := by
  have h1 := qu_split hj
  have h' := h
  rw [h1] at h'
  have := lks_at h'
  rw [← h1] at this
  exact this
theorem lst_pos {L : Qu} (h : Inc 0 L) {j : Nat} (hj : j < L.length) : 0 < (L.getD j (0, 0)).1 := by
  have h1 : L.getD j (0, 0) = L[j] := by simp [List.getD, hj]
  rw [h1]
  exact (h.mem (List.getElem_mem hj)).1
end Go.Proofs.YtcjeckjmoponkaaGreatDoor
/- Links in memory: a map from tickets to links; what a look-up, a store, a deletion and len make of it; a queue in memory. -/
namespace Go.Proofs.YtcjeckjmoponkaaGreatDoor
open Go.RowKit Go.Sort Go.MapKept
set_option linter.unusedVariables false
set_option linter.unusedSimpArgs false

theorem below_alloc (w : World) (o : Obj) : Below w.heap.size w (w.alloc o) := (Below.refl _ _).alloc (Nat.le_refl _) _
def encT (t : Nat) : Value := .int .u64 ((t : Nat) : Int)
def Lk.enc (x : Lk) : Value := .agg #[.int .i64 x.v, .int .u64 ((x.b : Nat) : Int), .int .u64 ((x.a : Nat) : Int)]
theorem encT_inj {a b : Nat} (h : encT a = encT b) : a = b := by
  unfold encT at h
  simp only [Value.int.injEq, true_and] at h
  omega

theorem eraseIdx_map' {α β : Type} (f : α → β) (l : List α) (j : Nat) : (l.map f).eraseIdx j = (l.eraseIdx j).map f := by
  induction l generalizing j with
  | nil => rfl
  | cons x r ih => cases j with
    | zero => rfl
    | succ j => simp [ih]
/-- What stands at a key. -/
def fnd : List (Nat × Lk) → Nat → Option Lk
  | [], _ => none
  | (t, x) :: r, k => if k = t then some x else fnd r k

/-- The entries of a map. -/
def Entries (es : Array MapEntry) (M : List (Nat × Lk)) : Prop := es.toList.map (fun e => (e.key, e.val)) = M.map fun p => (encT p.1, p.2.enc)

theorem Entries.at {es : Array MapEntry} {M : List (Nat × Lk)} (h : Entries es M) (j : Nat) (e : MapEntry) (he : es.toList[j]? = some e) : ∃ p, M[j]? = some p ∧ e.key = encT p.1 ∧ e.val = p.2.enc := by
  have h1 : (es.toList.map fun e => (e.key, e.val))[j]? = some (e.key, e.val) := by rw [List.getElem?_map, he]; rfl
  rw [h, List.getElem?_map] at h1
  cases hp : M[j]? with
  | none => rw [hp] at h1; cases h1
  | some p =>
    rw [hp] at h1
    simp only [Option.map_some, Option.some.injEq, Prod.mk.injEq] at h1
    exact ⟨p, rfl, h1.1.symm, h1.2.symm⟩
theorem Entries.len {es : Array MapEntry} {M : List (Nat × Lk)} (h : Entries es M) : es.size = M.length := by
  have := congrArg List.length h
  simpa using this
theorem Entries.keys {es : Array MapEntry} {M : List (Nat × Lk)} (h : Entries es M) : ∀ x ∈ es.toList, IsKey (.int .u64) x.key := by
  intro x hx
  obtain ⟨j, hj⟩ := List.getElem?_of_mem hx
  obtain ⟨p, _, hk, _⟩ := h.at j x hj
  rw [hk]
  exact rfl
theorem fnd_none {M : List (Nat × Lk)} {k : Nat} (h : ∀ p ∈ M, p.1 ≠ k) : fnd M k = none := by
  induction M with
  | nil => rfl
  | cons x r ih =>
    obtain ⟨t, y⟩ := x
    show (if k = t then _ else _) = none
    rw [if_neg (fun e => h (t, y) (by simp) e.symm)]
    exact ih fun p hp => h p (by simp [hp])
theorem fnd_at {M : List (Nat × Lk)} (hn : (M.map Prod.fst).Nodup) {j k : Nat} {x : Lk} (h : M[j]? = some (k, x)) : fnd M k = some x := by
  induction M generalizing j with
  | nil => simp at h
  | cons y r ih =>
    obtain ⟨t, z⟩ := y
    simp only [List.map_cons, List.nodup_cons] at hn
    show (if k = t then some z else fnd r k) = some x
    cases j with
    | zero => simp at h; rw [if_pos h.1.symm, h.2]
    | succ j =>
      simp at h
      rw [if_neg ?_]
      · exact ih hn.2 h
      · rintro rfl
        exact hn.1 (List.mem_map.2 ⟨_, List.mem_of_getElem? h, rfl⟩)
theorem fnd_append (M N : List (Nat × Lk)) (k : Nat) : fnd (M ++ N) k = (fnd M k).or (fnd N k) := by
  induction M with
  | nil => rfl
  | cons y r ih =>
    obtain ⟨t, z⟩ := y
    show (if k = t then some z else fnd (r ++ N) k) = (if k = t then some z else fnd r k).or (fnd N k)
    rw [ih]
    split <;> rfl
theorem fnd_set {M : List (Nat × Lk)} (hn : (M.map Prod.fst).Nodup) {j k : Nat} {x y : Lk} (h : M[j]? = some (k, x)) : ∀ i, fnd (M.set j (k, y)) i = updL (fnd M) k (some y) i := by
  induction M generalizing j with
  | nil => simp at h
  | cons z r ih =>
    obtain ⟨t, u⟩ := z
    simp only [List.map_cons, List.nodup_cons] at hn
    intro i
    cases j with
    | zero =>
      simp at h
      obtain ⟨rfl, rfl⟩ := h
      show (if i = t then some y else fnd r i) = if i = t then some y else (if i = t then some u else fnd r i)
      split <;> rfl
    | succ j =>
      simp at h
      have htk : t ≠ k := fun e => hn.1 (List.mem_map.2 ⟨_, List.mem_of_getElem? h, e.symm⟩)
      show (if i = t then some u else fnd (r.set j (k, y)) i) = if i = k then some y else (if i = t then some u else fnd r i)
      rw [ih hn.2 h i]
      unfold updL
      by_cases h1 : i = t
      · subst h1; simp [htk]
      · simp [h1]
theorem fnd_erase {M : List (Nat × Lk)} (hn : (M.map Prod.fst).Nodup) {j k : Nat} {x : Lk} (h : M[j]? = some (k, x)) : ∀ i, fnd (M.eraseIdx j) i = updL (fnd M) k none i := by
  induction M generalizing j with
  | nil => simp at h
  | cons z r ih =>
    obtain ⟨t, u⟩ := z
    simp only [List.map_cons, List.nodup_cons] at hn
    intro i
    cases j with
    | zero =>
      simp at h
      obtain ⟨rfl, rfl⟩ := h
      show fnd r i = if i = t then none else (if i = t then some u else fnd r i)
      by_cases h1 : i = t
      · subst h1
        rw [if_pos rfl]
        exact fnd_none fun p hp e => hn.1 (List.mem_map.2 ⟨p, hp, e⟩)
      · simp [h1]
    | succ j =>
      simp at h
      have htk : t ≠ k := fun e => hn.1 (List.mem_map.2 ⟨_, List.mem_of_getElem? h, e.symm⟩)
      show (if i = t then some u else fnd (r.eraseIdx j) i) = if i = k then none else (if i = t then some u else fnd r i)
      rw [ih hn.2 h i]
      unfold updL
      by_cases h1 : i = t
      · subst h1; simp [htk]
      · simp [h1]

/-- Block m is a map of n links. -/
def LinkMap (w : World) (m n : Nat) (f : Nat → Option Lk) : Prop :=
  ∃ (M : List (Nat × Lk)) (es : Array MapEntry) (clock : Nat), w.heap[m]? = some (.map es clock) ∧ Entries es M ∧ (M.map Prod.fst).Nodup ∧ M.length = n ∧ ∀ k, f k = fnd M k

theorem LinkMap.lt {w : World} {m n : Nat} {f : Nat → Option Lk} (h : LinkMap w m n f) : m < w.heap.size := by
  obtain ⟨M, es, clock, hb, _⟩ := h
  exact lt_of_block hb
theorem LinkMap.same {w w' : World} {m n : Nat} {f : Nat → Option Lk} (h : LinkMap w m n f) (hs : w'.heap[m]? = w.heap[m]?) : LinkMap w' m n f := by
  obtain ⟨M, es, clock, hb, r⟩ := h
  exact ⟨M, es, clock, hs.trans hb, r⟩
theorem LinkMap.congr {w : World} {m n : Nat} {f g : Nat → Option Lk} (h : LinkMap w m n f) (hs : ∀ k, g k = f k) : LinkMap w m n g := by
  obtain ⟨M, es, clock, hb, h1, h2, h3, h4⟩ := h
  exact ⟨M, es, clock, hb, h1, h2, h3, fun k => (hs k).trans (h4 k)⟩
theorem LinkMap.ne {w : World} {m n : Nat} {f : Nat → Option Lk} (h : LinkMap w m n f) {k : Nat} {y : Array Value} {u : TypeId} {z : Nat × Nat} (hc : w.heap[k]? = some (.cells y u z)) : k ≠ m := by
  rintro rfl
  obtain ⟨M, es, clock, hb, _⟩ := h
  rw [hb] at hc
  cases hc
theorem linkMap_made (w : World) : LinkMap (w.alloc (.map #[] 0)) w.heap.size 0 (fun _ => none) := ⟨[], #[], 0, heap_alloc_new w _, rfl, List.nodup_nil, rfl, fun _ => rfl⟩

theorem isKeyT (k : Nat) : IsKey (.int .u64) (encT k) := rfl
theorem zeroLk (w : World) : (zeroValue 287).run Tryz.prog w = .ok (Lk.enc ⟨0, 0, 0⟩) w := by kernel_rfl

/-- What the search for a key gives. -/
theorem find_key {w : World} {es : Array MapEntry} {M : List (Nat × Lk)} (h : Entries es M) (hn : (M.map Prod.fst).Nodup) (k : Nat) :
    ((Instr.findKey 22 (encT k) es.toList).run Tryz.prog w = .ok none w ∧ (∀ p ∈ M, p.1 ≠ k) ∧ fnd M k = none) ∨
    ∃ j x e, (Instr.findKey 22 (encT k) es.toList).run Tryz.prog w = .ok (some (j, x.enc)) w ∧ M[j]? = some (k, x) ∧ es.toList[j]? = some e ∧ e.key = encT k ∧ fnd M k = some x := by
  rcases findNow_spec (isKeyT k) es.toList 0 h.keys with ⟨h1, h2⟩ | ⟨j, e, h1, h2, h3⟩
  · have h4 : ∀ p ∈ M, p.1 ≠ k := fun p hp e => by
      obtain ⟨j, hj⟩ := List.getElem?_of_mem hp
      have hlt : j < es.toList.length := by have := (List.getElem?_eq_some_iff.1 hj).1; have := h.len; simp; omega
      obtain ⟨p', hp', hk, _⟩ := h.at j es.toList[j] (List.getElem?_eq_getElem hlt)
      rw [hj] at hp'
      simp only [Option.some.injEq] at hp'
      subst hp'
      rw [e] at hk
      exact h2 _ (List.getElem_mem hlt) hk
    exact .inl ⟨MapKept.run_findKey Tryz.underlying22 h1, h4, fnd_none h4⟩
  · obtain ⟨⟨t, x⟩, hp, hk, hv⟩ := h.at j e h2
    have : t = k := encT_inj (hk.symm.trans h3)
    subst this
    refine .inr ⟨j, x, e, ?_, hp, h2, h3, fnd_at hn hp⟩
    rw [← hv]
    simpa using run_findKey (w := w) Tryz.underlying22 h1

section
variable {w : World} {m n : Nat} {f : Nat → Option Lk}

theorem LinkMap.look_yes (h : LinkMap w m n f) {k : Nat} {x : Lk} (hf : f k = some x) (c : Bool) :
    (Instr.lookup 290 (.map (some m)) (encT k) c).run Tryz.prog w = .ok (if c then .tuple #[x.enc, .bool true] else x.enc) w := by
  obtain ⟨M, es, clock, hb, h1, h2, h3, h4⟩ := h
  rcases find_key (w := w) h1 h2 k with ⟨r1, _, r2⟩ | ⟨j, y, e, r1, _, _, _, r2⟩
  · rw [h4, r2] at hf; cases hf
  · rw [h4, r2] at hf
    obtain rfl := Option.some.inj hf
    simp [Instr.lookup, run_underlying Tryz.underlying290, MapKept.run_getObj_map hb, MapKept.run_checkKey Tryz.underlying22 (isKeyT k), r1, Result.andThen]
theorem LinkMap.look_no (h : LinkMap w m n f) {k : Nat} (hf : f k = none) (c : Bool) :
    (Instr.lookup 290 (.map (some m)) (encT k) c).run Tryz.prog w = .ok (if c then .tuple #[Lk.enc ⟨0, 0, 0⟩, .bool false] else Lk.enc ⟨0, 0, 0⟩) w := by
  obtain ⟨M, es, clock, hb, h1, h2, h3, h4⟩ := h
  rcases find_key (w := w) h1 h2 k with ⟨r1, _, r2⟩ | ⟨j, y, e, r1, _, _, _, r2⟩
  · simp [Instr.lookup, run_underlying Tryz.underlying290, MapKept.run_getObj_map hb, MapKept.run_checkKey Tryz.underlying22 (isKeyT k), r1, zeroLk, Result.andThen]
    all_goals rfl
  · rw [h4, r2] at hf; cases hf
theorem LinkMap.len (h : LinkMap w m n f) (ty : TypeId) : (Builtin.len_ #[290] ty #[.map (some m)]).run Tryz.prog w = .ok (.int .i64 ((n : Nat) : Int)) w := by
  obtain ⟨M, es, clock, hb, h1, h2, h3, h4⟩ := h
  have : es.size = n := h1.len.trans h3
  simp [Builtin.len_, run_underlying Tryz.underlying290, MapKept.run_getObj_map hb, goInt, Result.andThen, this]

theorem fr_block (w : World) (m : Nat) (o : Obj) : Fr [m] w { w with heap := w.heap.setIfInBounds m o } :=
  ⟨rfl, rfl, rfl, by simp, fun k _ hn => by simp at hn; simp [Ne.symm hn]⟩

theorem LinkMap.put (h : LinkMap w m n f) (k : Nat) (x : Lk) : ∃ w', (Instr.mapUpdate 290 (.map (some m)) (encT k) x.enc).run Tryz.prog w = .ok () w' ∧ LinkMap w' m (if (f k).isSome then n else n + 1) (updL f k (some x)) ∧ Fr [m] w w' ∧ w'.heap.size = w.heap.size ∧ w'.drawn = w.drawn := by
  obtain ⟨M, es, clock, hb, h1, h2, h3, h4⟩ := h
  have hlt := lt_of_block hb
  rcases find_key (w := w) h1 h2 k with ⟨r1, r0, r2⟩ | ⟨j, y, e, r1, r3, r4, r5, r2⟩
  · refine ⟨{ w with heap := w.heap.setIfInBounds m (.map (es.push { key := encT k, val := x.enc, born := clock }) (clock + 1)) }, ?_, ⟨M ++ [(k, x)], _, _, (MapKept.heap_set hb).1, ?_, ?_, ?_, ?_⟩, fr_block _ _ _, by simp, rfl⟩
    · simp [Instr.mapUpdate, run_underlying Tryz.underlying290, MapKept.run_getObj_map hb, MapKept.run_checkKey Tryz.underlying22 (isKeyT k), r1, MapKept.run_setObj_map _ hb, Result.andThen]
    · unfold Entries at h1 ⊢
      simp [h1]
    · rw [List.map_append, List.nodup_append]
      refine ⟨h2, by simp, ?_⟩
      intro a ha b hb e
      obtain ⟨p, hp, rfl⟩ := List.mem_map.1 ha
      simp at hb
      exact r0 p hp (e.trans hb)
    · rw [h4, r2]; simp [h3]
    · intro i
      rw [fnd_append]
      unfold updL
      rw [h4]
      by_cases hi : i = k
      · subst hi; simp [r2, fnd]
      · simp [hi, fnd]
  · have hst := MapKept.run_keyThatStays (P := Tryz.prog) (w := w) (isKeyT k)
    have hj : es[j]? = some e := by simpa using r4
    refine ⟨{ w with heap := w.heap.setIfInBounds m (.map (es.modify j fun e => { e with key := encT k, val := x.enc }) clock) }, ?_, ⟨M.set j (k, x), _, _, (MapKept.heap_set hb).1, ?_, ?_, ?_, ?_⟩, fr_block _ _ _, by simp, rfl⟩
    · simp [Instr.mapUpdate, run_underlying Tryz.underlying290, MapKept.run_getObj_map hb, MapKept.run_checkKey Tryz.underlying22 (isKeyT k), r1, hj, r5, hst, MapKept.run_setObj_map _ hb, Result.andThen]
    · unfold Entries at h1 ⊢
      have hjl : j < es.size := (Array.getElem?_eq_some_iff.1 hj).1
      apply List.ext_getElem?
      intro i
      have hi := congrArg (fun l => l[i]?) h1
      simp only [List.getElem?_map, Array.getElem?_toList, Array.getElem?_modify, List.getElem?_set] at hi ⊢
      by_cases hij : j = i
      · subst hij
        have : j < M.length := (List.getElem?_eq_some_iff.1 r3).1
        simp [this, hjl]
      · simp only [hij, if_false]
        exact hi
    · have : (M.set j (k, x)).map Prod.fst = M.map Prod.fst := by
        rw [List.map_set]
        apply List.ext_getElem?
        intro i
        rw [List.getElem?_set]
        split
        · rename_i hij
          subst hij
          have hl : j < M.length := (List.getElem?_eq_some_iff.1 r3).1
          rw [List.getElem?_map, r3]
          simp [hl]
        · rfl
      rw [this]; exact h2
    · rw [h4, r2]; simp [h3]
    · intro i
      rw [fnd_set h2 r3]
      unfold updL
      rw [h4]
theorem LinkMap.drop (h : LinkMap w m n f) (k : Nat) {x : Lk} (hf : f k = some x) (ty : TypeId) : ∃ w', (Builtin.delete_ #[290, 22] ty #[.map (some m), encT k]).run Tryz.prog w = .ok (.tuple #[]) w' ∧ LinkMap w' m (n - 1) (updL f k none) ∧ Fr [m] w w' ∧ w'.heap.size = w.heap.size := by
  obtain ⟨M, es, clock, hb, h1, h2, h3, h4⟩ := h
  rcases find_key (w := w) h1 h2 k with ⟨r1, r0, r2⟩ | ⟨j, y, e, r1, r3, r4, r5, r2⟩
  · rw [h4, r2] at hf; cases hf
  · refine ⟨{ w with heap := w.heap.setIfInBounds m (.map (es.eraseIdxIfInBounds j) clock) }, ?_, ⟨M.eraseIdx j, _, _, (MapKept.heap_set hb).1, ?_, ?_, ?_, ?_⟩, fr_block _ _ _, by simp⟩
    · simp [Builtin.delete_, run_underlying Tryz.underlying290, MapKept.run_getObj_map hb, MapKept.run_checkKey Tryz.underlying22 (isKeyT k), r1, MapKept.run_setObj_map _ hb, Result.andThen]
    · have hjl : j < es.size := by have := (List.getElem?_eq_some_iff.1 r4).1; simpa using this
      unfold Entries at h1 ⊢
      have he : (es.eraseIdxIfInBounds j).toList = es.toList.eraseIdx j := by
        unfold Array.eraseIdxIfInBounds
        rw [dif_pos hjl]
        simp
      rw [he, ← eraseIdx_map', h1, eraseIdx_map']
    · rw [← eraseIdx_map']; exact h2.sublist (List.eraseIdx_sublist _ _)
    · have := (List.getElem?_eq_some_iff.1 r3).1
      rw [List.length_eraseIdx, if_pos this, h3]
    · intro i
      rw [fnd_erase h2 r3]
      unfold updL
      rw [h4]
end

section
variable {w : World} {ops : Array Oper} {rest : List Oper} {o : Oper} {a : Act} {Q : Exit → Act → World → Prop} {m n : Nat} {f : Nat → Option Lk}

theorem wpList_put (hg : o.guard = none) (vm vk vx : Operand) (hop : o.op = Op.mapUpdate 290 vm vk vx) (h : LinkMap w m n f) (k : Nat) (x : Lk) (hm : a.eval vm = .map (some m)) (hk : a.eval vk = encT k) (hx : a.eval vx = x.enc)
    (hK : ∀ w', LinkMap w' m (if (f k).isSome then n else n + 1) (updL f k (some x)) → Fr [m] w w' → w'.heap.size = w.heap.size → wpList Tryz.prog ops Q rest (a.put o.dst undef) w') : wpList Tryz.prog ops Q (o :: rest) a w := by
  refine wpList_plain hg fun K' hK' => ?_
  obtain ⟨w', hrun, r1, r2, r3, _⟩ := h.put k x
  unfold Oper.wp
  simp [execOp, hop, hm, hk, hx, hrun, Result.andThen]
  exact hK' _ _ (hK w' r1 r2 r3)
theorem wpList_drop (hg : o.guard = none) (vm vk : Operand) (hop : o.op = Op.call { callee := Callee.builtin Builtin.delete, args := #[vm, vk], argTypes := #[290, 22] }) (h : LinkMap w m n f) (k : Nat) {x : Lk} (hf : f k = some x) (hm : a.eval vm = .map (some m)) (hk : a.eval vk = encT k)
    (hK : ∀ w', LinkMap w' m (n - 1) (updL f k none) → Fr [m] w w' → w'.heap.size = w.heap.size → wpList Tryz.prog ops Q rest (a.put o.dst (.tuple #[])) w') : wpList Tryz.prog ops Q (o :: rest) a w := by
  refine wpList_plain hg fun K' hK' => ?_
  obtain ⟨w', hrun, r1, r2, r3⟩ := h.drop k hf o.type
  unfold Oper.wp
  simp [execOp, hop, resolve, invoke, builtin, hm, hk, hrun, Result.andThen]
  exact hK' _ _ (hK w' r1 r2 r3)
end
end Go.Proofs.YtcjeckjmoponkaaGreatDoor
/- A queue in memory; usable, Len, New, Front. -/
namespace Go.Proofs.YtcjeckjmoponkaaGreatDoor
open Go.RowKit Go.Sort Go.MapKept
set_option linter.unusedVariables false
set_option linter.unusedSimpArgs false

/-- The queue at block q: its body lies in block b, its links in block m. -/
structure QAt (w : World) (q b m : Nat) (L : Qu) (g : Nat) : Prop where
  q : w.heap[q]? = some (.cells #[.pointer (some ⟨b, 0, none⟩)] 285 (0, 0))
  b : w.heap[b]? = some (.cells #[encT (hdd 0 L), encT (lst 0 L), .map (some m), encT g] 292 (0, 0))
  m : LinkMap w m L.length (lks 0 0 L)
  inc : Inc 0 L
  le : lst 0 L ≤ g
/-- The body at block b. -/
structure BAt (w : World) (b m F E g n : Nat) (f : Nat → Option Lk) : Prop where
  b : w.heap[b]? = some (.cells #[encT F, encT E, .map (some m), encT g] 292 (0, 0))
  m : LinkMap w m n f

section
variable {w w' : World} {q b m g : Nat} {L : Qu}
theorem QAt.body (h : QAt w q b m L g) : BAt w b m (hdd 0 L) (lst 0 L) g L.length (lks 0 0 L) := ⟨h.b, h.m⟩
theorem QAt.same (h : QAt w q b m L g) (h1 : w'.heap[q]? = w.heap[q]?) (h2 : w'.heap[b]? = w.heap[b]?) (h3 : w'.heap[m]? = w.heap[m]?) : QAt w' q b m L g := ⟨h1.trans h.q, h2.trans h.b, h.m.same h3, h.inc, h.le⟩
theorem QAt.below {B : Nat} (h : QAt w q b m L g) (hb : Below B w w') (h1 : q < B) (h2 : b < B) (h3 : m < B) : QAt w' q b m L g := h.same (hb.block _ h1) (hb.block _ h2) (hb.block _ h3)
theorem QAt.lq (h : QAt w q b m L g) : q < w.heap.size := lt_of_block h.q
theorem QAt.lb (h : QAt w q b m L g) : b < w.heap.size := lt_of_block h.b
theorem QAt.lm (h : QAt w q b m L g) : m < w.heap.size := h.m.lt
theorem QAt.grown (h : QAt w q b m L g) (hb : Below w.heap.size w w') : QAt w' q b m L g := h.below hb h.lq h.lb h.lm
theorem QAt.fr {F : List Nat} (h : QAt w q b m L g) (hf : Fr F w w') (h1 : q ∉ F) (h2 : b ∉ F) (h3 : m ∉ F) : QAt w' q b m L g := h.same (hf.block _ h.lq h1) (hf.block _ h.lb h2) (hf.block _ h.lm h3)
theorem QAt.qb (h : QAt w q b m L g) : q ≠ b := ne_types h.q h.b (by decide)
theorem QAt.qm (h : QAt w q b m L g) : q ≠ m := h.m.ne h.q
theorem QAt.bm (h : QAt w q b m L g) : b ≠ m := h.m.ne h.b
/-- A block of another type is none of the queue's that may change. -/
theorem QAt.out (h : QAt w q b m L g) {k : Nat} {y : Array Value} {u : TypeId} (hc : w.heap[k]? = some (.cells y u (0, 0))) (hu : u ≠ 292) : k ∉ [b, m] := by
  have h1 := ne_types hc h.b hu
  have h2 := h.m.ne hc
  simp [h1, h2]
theorem QAt.cq (h : QAt w q b m L g) : w.cell? ⟨q, 0, none⟩ = some (.pointer (some ⟨b, 0, none⟩)) := cells_cell h.q rfl
end
section
variable {w w' : World} {b m F E g n : Nat} {f : Nat → Option Lk}
theorem BAt.c0 (h : BAt w b m F E g n f) : w.cell? ⟨b, 0, none⟩ = some (.int .u64 ((F : Nat) : Int)) := cells_cell h.b rfl
theorem BAt.c1 (h : BAt w b m F E g n f) : w.cell? ⟨b, 1, none⟩ = some (.int .u64 ((E : Nat) : Int)) := cells_cell h.b rfl
theorem BAt.c2 (h : BAt w b m F E g n f) : w.cell? ⟨b, 2, none⟩ = some (.map (some m)) := cells_cell h.b rfl
theorem BAt.c3 (h : BAt w b m F E g n f) : w.cell? ⟨b, 3, none⟩ = some (.int .u64 ((g : Nat) : Int)) := cells_cell h.b rfl
theorem BAt.free (h : BAt w b m F E g n f) (o : Nat) : w.frozen? ⟨b, o, none⟩ = false := cells_free h.b o
theorem BAt.lb (h : BAt w b m F E g n f) : b < w.heap.size := lt_of_block h.b
theorem BAt.lm (h : BAt w b m F E g n f) : m < w.heap.size := h.m.lt
theorem BAt.bm (h : BAt w b m F E g n f) : b ≠ m := h.m.ne h.b
theorem BAt.grown (h : BAt w b m F E g n f) (hb : Below w.heap.size w w') : BAt w' b m F E g n f := ⟨(hb.block _ h.lb).trans h.b, h.m.same (hb.block _ h.lm)⟩
theorem BAt.congr {f' : Nat → Option Lk} (h : BAt w b m F E g n f) (hs : ∀ k, f' k = f k) : BAt w b m F E g n f' := ⟨h.b, h.m.congr hs⟩
end

theorem fiUsable_yes {w : World} {q b m g : Nat} {L : Qu} (h : QAt w q b m L g) : Calls Tryz.prog 171 #[.pointer (some ⟨q, 0, none⟩)] w fun e w' => e = .returned (.bool true) ∧ w' = w := by
  have c := h.cq
  clear h
  go_enter Tryz.func171, Tryz.ntmps171
  go_wp2
  go_ret
  exact ⟨rfl, rfl⟩
theorem fiUsable_nil (w : World) : Calls Tryz.prog 171 #[.pointer none] w fun e w' => e = .returned (.bool false) ∧ w' = w := by
  go_enter Tryz.func171, Tryz.ntmps171
  go_wp2
  go_ret
  exact ⟨rfl, rfl⟩
theorem fiUsable_zero {w : World} {q : Nat} (c : w.cell? ⟨q, 0, none⟩ = some (.pointer none)) : Calls Tryz.prog 171 #[.pointer (some ⟨q, 0, none⟩)] w fun e w' => e = .returned (.bool false) ∧ w' = w := by
  go_enter Tryz.func171, Tryz.ntmps171
  go_wp2
  go_ret
  exact ⟨rfl, rfl⟩

theorem fiLen_any {w : World} {q b m g : Nat} {L : Qu} (h : QAt w q b m L g) : Calls Tryz.prog 172 #[.pointer (some ⟨q, 0, none⟩)] w fun e w' => e = .returned (.int .i64 ((L.length : Nat) : Int)) ∧ w' = w := by
  have hu := Lib.hid (fiUsable_yes h)
  have c := h.cq
  have c2 := h.body.c2
  have hl := h.m.len
  clear h
  generalize L.length = n at *
  go_enter Tryz.func172, Tryz.ntmps172
  go_wp2_with (go_at_call 171; refine hu.out.mono ?_; rintro e w2 ⟨rfl, rfl⟩)
  go_ret
  exact ⟨rfl, rfl⟩
theorem fiNew_any (w : World) : Calls Tryz.prog 133 #[] w fun e w' => ∃ q b m, e = .returned (.pointer (some ⟨q, 0, none⟩)) ∧ QAt w' q b m [] 0 ∧ Grn w w' ∧ w.heap.size ≤ q ∧ w.heap.size ≤ b ∧ w.heap.size ≤ m := by
  have hmm := @run_makeMap Tryz.prog
  go_enter Tryz.func133, Tryz.ntmps133
  go_wp2
  go_ret
  have h1 := linkMap_made w
  refine ⟨_, w.heap.size + 1, w.heap.size, rfl, ⟨?_, ?_, ?_, trivial, Nat.le_refl _⟩, (((Grn.refl w).alloc _).alloc _).alloc _, by omega, by omega, Nat.le_refl _⟩
  · exact block_new _ _ _ (by simp)
  · exact ((below_alloc _ _).block _ (by simp)).trans (block_new _ _ _ (by simp))
  · exact (h1.same ((below_alloc _ _).block _ (by simp))).same ((below_alloc _ _).block _ (by simp; omega))
end Go.Proofs.YtcjeckjmoponkaaGreatDoor
/- join: two tickets become neighbours. -/
namespace Go.Proofs.YtcjeckjmoponkaaGreatDoor
open Go.RowKit Go.Sort Go.MapKept
set_option linter.unusedVariables false
set_option linter.unusedSimpArgs false

/-- A store into a cell of the body. -/
theorem BAt.set {w : World} {b m F E g n : Nat} {f : Nat → Option Lk} (h : BAt w b m F E g n f) (o : Nat) (v : Value) (F' E' g' : Nat) (hv : (#[encT F, encT E, .map (some m), encT g] : Array Value).setIfInBounds o v = #[encT F', encT E', .map (some m), encT g']) :
    BAt (w.setCell ⟨b, o, none⟩ v) b m F' E' g' n f := by
  refine ⟨?_, h.m.same (Below.heap_setCell _ _ _ _ (fun e => h.bm e.symm))⟩
  have := cells_set h.b o v
  rw [hv] at this
  exact this
/-- The link with a ticket is written, behind other blocks of one's own. -/
theorem BAt.put {w w' : World} {b m F E g n : Nat} {f : Nat → Option Lk} (h : BAt w b m F E g n f) {n' : Nat} {f' : Nat → Option Lk} (hm : LinkMap w' m n' f') (hf : Fr [m] w w') : BAt w' b m F E g n' f' :=
  ⟨hf.same h.b (by simp; exact h.bm), hm⟩

/-- The world behind a new block that has a link. -/
structure NewLk (w W : World) (v : Int) (b' a' : Nat) : Prop where
  b : Below w.heap.size w W
  size : W.heap.size = w.heap.size + 1
  c : W.heap[w.heap.size]? = some (.cells #[.int .i64 v, .int .u64 ((b' : Nat) : Int), .int .u64 ((a' : Nat) : Int)] 287 (0, 0))
theorem newLk (w : World) (v : Int) (b' a' : Nat) : ∃ W, w.alloc (.cells #[.int .i64 v, .int .u64 ((b' : Nat) : Int), .int .u64 ((a' : Nat) : Int)] 287) = W ∧ NewLk w W v b' a' :=
  ⟨_, rfl, below_alloc _ _, by simp, block_new _ _ _ rfl⟩

theorem joinF_p {f : Nat → Option Lk} {p q : Nat} {x : Lk} (hp : p ≠ 0) (hq : q = 0) (hx : f p = some x) : joinF f p q = updL f p (some (setA q x)) := by unfold joinF; simp [hp, hq, hx]
theorem joinF_q {f : Nat → Option Lk} {p q : Nat} {x : Lk} (hp : p = 0) (hq : q ≠ 0) (hx : f q = some x) : joinF f p q = updL f q (some (setB p x)) := by unfold joinF; simp [hp, hq, hx]
theorem joinF_pq {f : Nat → Option Lk} {p q : Nat} {x y : Lk} (hp : p ≠ 0) (hq : q ≠ 0) (hx : f p = some x) (hy : f q = some y) (hpq : p ≠ q) : joinF f p q = updL (updL f p (some (setA q x))) q (some (setB p y)) := by
  unfold joinF
  simp only [hp, hq, if_false, hx, Option.map_some]
  have : updL f p (some (setA q x)) q = some y := by unfold updL; rw [if_neg (fun e => hpq e.symm)]; exact hy
  rw [this]; rfl
theorem fr2 {b m k : Nat} {w w' : World} (h : Fr [k] w w') (hk : k = b ∨ k = m) : Fr [b, m] w w' := h.mono fun x hx => by
  simp at hx
  subst hx
  rcases hk with h | h <;> simp [h]

set_option maxRecDepth 100000 in
set_option maxHeartbeats 3200000 in
theorem fiJoin_any {w : World} {b m F E g n : Nat} {f : Nat → Option Lk} (h : BAt w b m F E g n f) (p q : Nat) (hp : p ≠ 0 → (f p).isSome) (hq : q ≠ 0 → (f q).isSome) (hpq : p ≠ q ∨ p = 0) :
    Calls Tryz.prog 185 #[.pointer (some ⟨b, 0, none⟩), .int .u64 ((p : Nat) : Int), .int .u64 ((q : Nat) : Int)] w fun e w' => e = .returned (.tuple #[]) ∧ BAt w' b m (if p = 0 then q else F) (if q = 0 then p else E) g n (joinF f p q) ∧ Fr [b, m] w w' := by
  have HH := Lib.hid h
  have fr := h.free
  have c2 := h.c2
  have hlb := h.lb
  have c0 := h.c0
  have c1 := h.c1
  have f0 := fr 0
  have f1 := fr 1
  by_cases hp0 : p = 0
  · have hpd : (((p : Nat) : Int) == 0) = true := by simp [hp0]
    have b1 := h.set 0 (.int .u64 ((q : Nat) : Int)) q E g rfl
    have r1 := fr2 (m := m) (fr_setCell w ⟨b, 0, none⟩ (.int .u64 ((q : Nat) : Int))) (.inl rfl)
    have d1 := b1.c1
    have d2 := b1.c2
    have g1 := b1.free 1
    by_cases hq0 : q = 0
    · have hqd : (((q : Nat) : Int) == 0) = true := by simp [hq0]
      have b2 := Lib.hid (b1.set 1 (.int .u64 ((p : Nat) : Int)) q p g rfl)
      have hfr := Lib.hid (r1.trans' (fr2 (fr_setCell (w.setCell ⟨b, 0, none⟩ (.int .u64 ((q : Nat) : Int))) ⟨b, 1, none⟩ (.int .u64 ((p : Nat) : Int))) (.inl rfl)))
      have hj : joinF f p q = f := by unfold joinF; simp [hp0, hq0]
      rw [if_pos hp0, if_pos hq0, hj]
      clear h b1 r1 hp hq hp0 hq0 hj hpq
      go_enter Tryz.func185, Tryz.ntmps185
      go_wp2
      go_end0
      exact ⟨rfl, b2.out, hfr.out⟩
    · have hqd : (((q : Nat) : Int) == 0) = false := by simp [hq0]
      obtain ⟨y, hy⟩ := Option.isSome_iff_exists.1 (hq hq0)
      rw [if_pos hp0, if_neg hq0, joinF_q hp0 hq0 hy]
      have HY := Lib.hid hy
      have B1 := Lib.hid b1
      have R1 := Lib.hid r1
      clear h b1 r1 hp hq hp0 hq0 hpq hy g1 d1
      have l1 := B1.out.m.look_yes HY.out false
      simp only [Bool.false_eq_true, if_false] at l1
      unfold encT Lk.enc at l1
      go_enter Tryz.func185, Tryz.ntmps185
      go_wp2_with fail
      have hws : (w.setCell ⟨b, 0, none⟩ (.int .u64 ((q : Nat) : Int))).heap.size = w.heap.size := by simp [World.setCell]
      generalize w.setCell ⟨b, 0, none⟩ (.int .u64 ((q : Nat) : Int)) = w1 at *
      obtain ⟨W, hW, hN⟩ := newLk w1 y.v p y.a
      rw [hW]
      have BW := B1.out.grown hN.b
      have cW := BW.c2
      have k0 := cells_cell (o := 0) hN.c rfl
      have k1 := cells_cell (o := 1) hN.c rfl
      have k2 := cells_cell (o := 2) hN.c rfl
      have HBW := Lib.hid BW
      have HN := Lib.hid hN
      rw [hws] at k0 k1 k2
      clear hW hN BW l1 d2 c0 c1 c2 f0 f1 fr hws
      go_still_tail 6, (by kernel_rfl)
      change wpList _ _ _ _ _ (W.drewN 1)
      go_wp2_with (at_mapUpdate; refine wpList_put rfl _ _ _ rfl (HBW.out.grown (w' := W.drewN 1) ((fr_drewN W 1 []).below (fun _ hx => by simp at hx) (Nat.le_refl _))).m q (setB p y) rfl rfl rfl ?_; intro w3 hm3 hf3 hs3)
      rw [HY.out] at hm3
      go_end0
      have hd : Below W.heap.size W (W.drewN 1) := (fr_drewN W 1 []).below (fun _ hx => by simp at hx) (Nat.le_refl _)
      exact ⟨rfl, (HBW.out.grown hd).put hm3 hf3, (R1.out.trans' (Fr.of_below HN.out.b _)).trans' ((Fr.of_below hd _).trans' (fr2 hf3 (.inr rfl)))⟩
  · have hpd : (((p : Nat) : Int) == 0) = false := by simp [hp0]
    obtain ⟨x, hx⟩ := Option.isSome_iff_exists.1 (hp hp0)
    have l1 := h.m.look_yes hx false
    simp only [Bool.false_eq_true, if_false] at l1
    unfold encT Lk.enc at l1
    have HX := Lib.hid hx
    obtain ⟨W, hW, hN⟩ := newLk w x.v x.b q
    have BW := h.grown hN.b
    have cW := BW.c2
    have k0 := cells_cell (o := 0) hN.c rfl
    have k1 := cells_cell (o := 1) hN.c rfl
    have k2 := cells_cell (o := 2) hN.c rfl
    have HBW := Lib.hid BW
    have HN := Lib.hid hN
    have HW := Lib.hid hW
    by_cases hq0 : q = 0
    · have hqd : (((q : Nat) : Int) == 0) = true := by simp [hq0]
      rw [if_neg hp0, if_pos hq0, joinF_p hp0 hq0 hx]
      clear h hp hq hp0 hq0 hpq hW hN BW hx
      go_enter Tryz.func185, Tryz.ntmps185
      go_wp2_with fail
      rw [HW.out]
      clear l1 c0 c1 c2 f0 f1 fr
      go_still_tail 6, (by kernel_rfl)
      change wpList _ _ _ _ _ (W.drewN 1)
      have hd : Hid (Below W.heap.size W (W.drewN 1)) := Lib.hid ((fr_drewN W 1 []).below (fun _ hx => by simp at hx) (Nat.le_refl _))
      go_wp2_with (at_mapUpdate; refine wpList_put rfl _ _ _ rfl (HBW.out.grown hd.out).m p (setA q x) rfl rfl rfl ?_; intro w3 hm3 hf3 hs3; refine Hid.out ?_)
      rw [HX.out] at hm3
      have B3 := (HBW.out.grown hd.out).put hm3 hf3
      have R3 := Lib.hid ((Fr.of_below HN.out.b [b, m]).trans' ((Fr.of_below hd.out _).trans' (fr2 hf3 (.inr rfl))))
      have c1 := B3.c1
      have f1 := B3.free 1
      have B4 := Lib.hid (B3.set 1 (.int .u64 ((p : Nat) : Int)) F p g rfl)
      clear B3 hm3 hf3 hs3 k0 k1 k2 cW
      refine Lib.hid ?_
      go_wp2_with fail
      go_end0
      exact ⟨rfl, B4.out, R3.out.trans' (fr2 (fr_setCell w3 ⟨b, 1, none⟩ _) (.inl rfl))⟩
    · have hqd : (((q : Nat) : Int) == 0) = false := by simp [hq0]
      obtain ⟨y, hy⟩ := Option.isSome_iff_exists.1 (hq hq0)
      have hne : p ≠ q := by rcases hpq with h | h; exact h; exact absurd h hp0
      rw [if_neg hp0, if_neg hq0, joinF_pq hp0 hq0 hx hy hne]
      have HY : Hid (updL f p (some (setA q x)) q = some y) := Lib.hid (by unfold updL; rw [if_neg (fun e => hne e.symm)]; exact hy)
      clear h hp hq hp0 hq0 hpq hW hN BW hx hy hne
      go_enter Tryz.func185, Tryz.ntmps185
      go_wp2_with fail
      rw [HW.out]
      clear l1 c0 c1 c2 f0 f1 fr
      go_still_tail 6, (by kernel_rfl)
      change wpList _ _ _ _ _ (W.drewN 1)
      have hd : Hid (Below W.heap.size W (W.drewN 1)) := Lib.hid ((fr_drewN W 1 []).below (fun _ hx => by simp at hx) (Nat.le_refl _))
      go_wp2_with (at_mapUpdate; refine wpList_put rfl _ _ _ rfl (HBW.out.grown hd.out).m p (setA q x) rfl rfl rfl ?_; intro w3 hm3 hf3 hs3; refine Hid.out ?_)
      rw [HX.out] at hm3
      have B3 := (HBW.out.grown hd.out).put hm3 hf3
      have R3 := Lib.hid ((Fr.of_below HN.out.b [b, m]).trans' ((Fr.of_below hd.out _).trans' (fr2 hf3 (.inr rfl))))
      have c2 := B3.c2
      have l1 := B3.m.look_yes HY.out false
      simp only [Bool.false_eq_true, if_false] at l1
      unfold encT Lk.enc at l1
      have HB3 := Lib.hid B3
      clear B3 hm3 hf3 hs3 k0 k1 k2 cW
      refine Lib.hid ?_
      go_wp2_with fail
      obtain ⟨W4, hW, hN⟩ := newLk w3 y.v p y.a
      rw [hW]
      have BW := HB3.out.grown hN.b
      have cW := BW.c2
      have k0 := cells_cell (o := 0) hN.c rfl
      have k1 := cells_cell (o := 1) hN.c rfl
      have k2 := cells_cell (o := 2) hN.c rfl
      have HBW4 := Lib.hid BW
      have HN4 := Lib.hid hN
      clear hW hN BW l1 c2
      go_still_tail 6, (by kernel_rfl)
      change wpList _ _ _ _ _ (W4.drewN 1)
      have hd4 : Hid (Below W4.heap.size W4 (W4.drewN 1)) := Lib.hid ((fr_drewN W4 1 []).below (fun _ hx => by simp at hx) (Nat.le_refl _))
      go_wp2_with (at_mapUpdate; refine wpList_put rfl _ _ _ rfl (HBW4.out.grown hd4.out).m q (setB p y) rfl rfl rfl ?_; intro w5 hm5 hf5 hs5)
      rw [HY.out] at hm5
      go_end0
      exact ⟨rfl, (HBW4.out.grown hd4.out).put hm5 hf5, R3.out.trans' ((Fr.of_below HN4.out.b _).trans' ((Fr.of_below hd4.out _).trans' (fr2 hf5 (.inr rfl))))⟩
end Go.Proofs.YtcjeckjmoponkaaGreatDoor
/- find, Front, Remove, Pop. -/
namespace Go.Proofs.YtcjeckjmoponkaaGreatDoor
open Go.RowKit Go.Sort Go.MapKept
set_option linter.unusedVariables false
set_option linter.unusedSimpArgs false

theorem fiFind_yes {w : World} {q b m g : Nat} {L : Qu} (h : QAt w q b m L g) (t : Nat) {x : Lk} (hx : lks 0 0 L t = some x) :
    Calls Tryz.prog 201 #[.pointer (some ⟨q, 0, none⟩), .int .u64 ((t : Nat) : Int)] w fun e w' => e = .returned (.tuple #[.agg #[.int .i64 x.v, .int .u64 ((x.b : Nat) : Int), .int .u64 ((x.a : Nat) : Int)], .int .i64 0]) ∧ Grn w w' := by
  have hW := h.grown (below_alloc w (.cells #[.int .i64 0, .int .u64 0, .int .u64 0] 287))
  have hu := Lib.hid (fiUsable_yes hW)
  have c := hW.cq
  have c2 := hW.body.c2
  have l1 := hW.m.look_yes hx true
  simp only [if_true] at l1
  unfold encT Lk.enc at l1
  clear h hW hx
  go_enter Tryz.func201, Tryz.ntmps201
  go_wp2_with (go_at_call 171; refine hu.out.mono ?_; rintro e w2 ⟨rfl, rfl⟩)
  refine bodyPost_ret (v := .tuple #[.agg #[.int .i64 x.v, .int .u64 ((x.b : Nat) : Int), .int .u64 ((x.a : Nat) : Int)], .int .i64 0]) (by simp [results, Tryz.results201, go_sem]) rfl ?_
  exact ⟨rfl, ((Grn.refl w).alloc _).alloc _⟩
/-- A pointer that is no queue. -/
def NoQ (w : World) (v : Value) : Prop := v = .pointer none ∨ ∃ q, v = .pointer (some ⟨q, 0, none⟩) ∧ w.heap[q]? = some (.cells #[.pointer none] 285 (0, 0))
theorem NoQ.grown {w w' : World} {v : Value} (h : NoQ w v) (hb : Below w.heap.size w w') : NoQ w' v := by
  rcases h with h | ⟨q, h1, h2⟩
  · exact .inl h
  · exact .inr ⟨q, h1, (hb.block _ (lt_of_block h2)).trans h2⟩
theorem NoQ.form {w : World} {v : Value} (h : NoQ w v) : ∃ a, v = .pointer a := by
  rcases h with h | ⟨q, h1, h2⟩
  · exact ⟨_, h⟩
  · exact ⟨_, h1⟩
theorem fiUsable_no {w : World} {v : Value} (h : NoQ w v) : Calls Tryz.prog 171 #[v] w fun e w' => e = .returned (.bool false) ∧ w' = w := by
  rcases h with rfl | ⟨q, rfl, h2⟩
  · exact fiUsable_nil w
  · exact fiUsable_zero (cells_cell h2 rfl)
set_option maxHeartbeats 1600000 in
theorem fiFront_yes {w : World} {q b m g t : Nat} {v : Int} {L : Qu} (h : QAt w q b m ((t, v) :: L) g) : Calls Tryz.prog 119 #[.pointer (some ⟨q, 0, none⟩)] w fun e w' => e = .returned (.tuple #[.int .i64 v, .int .u64 ((t : Nat) : Int), .int .i64 0]) ∧ Grn w w' := by
  have hu := Lib.hid (fiUsable_yes h)
  have hl := Lib.hid (fiLen_any h)
  have c := h.cq
  have c2 := h.body.c2
  have c0 := h.body.c0
  have hx : lks 0 0 ((t, v) :: L) t = some ⟨v, 0, hdd 0 L⟩ := by simp [lks]
  have l1 := fun n => LinkMap.look_yes (w := w.drewN n) (h.m.same rfl) hx false
  simp only [Bool.false_eq_true, if_false] at l1
  unfold encT Lk.enc at l1
  have hlen : (0 : Int) < ((((t, v) :: L).length : Nat) : Int) := by rw [List.length_cons]; omega
  generalize ((t, v) :: L).length = n at *
  have e0 : hdd 0 ((t, v) :: L) = t := rfl
  rw [e0] at c0
  have hfd : ∀ (W : World) (b a : Int), (Instr.field 287 (.agg #[.int .i64 v, .int .u64 b, .int .u64 a]) 0).run Tryz.prog W = .ok (.int .i64 v) W := fun W b a => by kernel_rfl
  clear h hx e0
  go_enter Tryz.func119, Tryz.ntmps119
  go_wp2_with (first | (go_at_call 171; refine hu.out.mono ?_; rintro e w2 ⟨rfl, rfl⟩) | (go_at_call 172; refine hl.out.mono ?_; rintro e w2 ⟨rfl, rfl⟩))
  go_quiet (fail)
  go_wp2
  go_ret3
  exact ⟨rfl, (Grn.refl _).drew _⟩
end Go.Proofs.YtcjeckjmoponkaaGreatDoor
/- Remove and Pop. -/
namespace Go.Proofs.YtcjeckjmoponkaaGreatDoor
open Go.RowKit Go.Sort Go.MapKept
set_option linter.unusedVariables false
set_option linter.unusedSimpArgs false

set_option maxRecDepth 100000 in
set_option maxHeartbeats 3200000 in
theorem fiRemove_yes {w : World} {q b m g t : Nat} {v : Int} {A B : Qu} (h : QAt w q b m (A ++ (t, v) :: B) g) : Calls Tryz.prog 174 #[.pointer (some ⟨q, 0, none⟩), .int .u64 ((t : Nat) : Int)] w fun e w' => e = .returned (.tuple #[.int .i64 v, .int .i64 0]) ∧ QAt w' q b m (A ++ B) g ∧ Fr [b, m] w w' := by
  have hat := lks_at h.inc
  have hu := Lib.hid (fiFind_yes h t hat)
  have HH := Lib.hid h
  have HAT := Lib.hid hat
  obtain ⟨p, hp⟩ : ∃ p, p = lst 0 A := ⟨_, rfl⟩
  obtain ⟨n, hn⟩ : ∃ n, n = hdd 0 B := ⟨_, rfl⟩
  simp only [← hp, ← hn] at hu
  have HP := Lib.hid hp
  have HN := Lib.hid hn
  clear h hat hp hn
  go_enter Tryz.func174, Tryz.ntmps174
  go_wp2_with (go_at_call 201; fail)
  refine hu.out.mono ?_
  rintro e w2 ⟨rfl, hg2⟩
  obtain ⟨W, hW, hNL⟩ := newLk w2 v p n
  have h2 := HH.out.grown hg2.below
  have c := h2.cq
  have c2 := h2.body.c2
  have hql := h2.lq
  have hbl := h2.lb
  have H3 := Lib.hid (h2.grown hNL.b)
  have HW := Lib.hid hW
  have HNL := Lib.hid hNL
  have HB := Lib.hid (hg2.below.trans (hNL.b.mono hg2.below.size))
  clear hW hNL h2
  go_wp2_with (at_delete; rw [HW.out]; refine wpList_drop rfl _ _ rfl H3.out.m t HAT.out rfl rfl ?_; intro w4 hm4 hf4 hs4; refine Hid.out ?_)
  clear c c2 hql hbl
  have hne : w2.heap.size ≠ b ∧ w2.heap.size ≠ m := by have := H3.out.out HNL.out.c (by decide); simpa using this
  have e4 := hf4.same HNL.out.c (by simp [hne.2])
  have hB4 := Lib.hid (H3.out.body.put hm4 hf4)
  have c := cells_cell (o := 0) (hf4.same H3.out.q (by simp; exact H3.out.qm)) rfl
  have k0 := cells_cell (o := 0) e4 rfl
  have k1 := cells_cell (o := 1) e4 rfl
  have k2 := cells_cell (o := 2) e4 rfl
  have HE4 := Lib.hid e4
  have HF4 := Lib.hid hf4
  have HQ4 := Lib.hid (hf4.same H3.out.q (by simp; exact H3.out.qm))
  have hj := Lib.hid (fiJoin_any (hB4.out.grown (w' := w4.drewN 1) ((fr_drewN w4 1 []).below (fun _ hx => by simp at hx) (Nat.le_refl _))) p n (fun h0 => ?_) (fun h0 => ?_) ?_)
  rotate_left
  · rw [HP.out]; exact rem_some_p H3.out.inc (by rw [← HP.out]; exact h0)
  · rw [HN.out]; exact rem_some_q H3.out.inc (by rw [← HN.out]; exact h0)
  · rw [HP.out, HN.out]; exact rem_ne H3.out.inc
  clear e4 hf4 hm4 hs4
  generalize hz : w2.heap.size = z at *
  clear hz
  refine Lib.hid ?_
  go_wp2_with fail
  go_still_tail 8, (by kernel_rfl)
  change wpList _ _ _ _ _ (w4.drewN 1)
  go_wp2_with (go_at_call 185; fail)
  refine hj.out.mono ?_
  rintro e w5 ⟨rfl, hB5, hf5⟩
  have k0 := cells_cell (o := 0) (hf5.same ((fr_drewN w4 1 [b, m]).same HE4.out (by simp [hne])) (by simp [hne])) rfl
  have hfin : Hid (QAt w5 q b m (A ++ B) g) := Lib.hid (by
    have hle := H3.out.le
    have hbb := hB5.b
    have hmm := hB5.m
    have h0 := H3.out.inc
    rw [HP.out, HN.out, remove_first h0, remove_last h0] at hbb
    refine ⟨hf5.same ((fr_drewN w4 1 [b, m]).same HQ4.out (by simp [H3.out.qb, H3.out.qm])) (by simp [H3.out.qb, H3.out.qm]), hbb, ?_, ?_, ?_⟩
    · rw [HP.out, HN.out] at hmm
      have hl : (A ++ (t, v) :: B).length - 1 = (A ++ B).length := by simp
      rw [hl] at hmm
      exact hmm.congr (fun k => (remove_links h0 k).symm)
    · obtain ⟨i1, i2, i3⟩ := (inc_append 0 A _).1 h0
      exact (inc_append 0 A B).2 ⟨i1, i3.mono (by omega)⟩
    · refine Nat.le_trans ?_ hle
      have hp' := H3.out.inc
      rw [← remove_last h0]
      split
      · rw [lst_append]; exact ((inc_append 0 A _).1 h0).2.le
      · exact Nat.le_refl _)
  have hfr : Hid (Fr [b, m] w w5) := Lib.hid (((Fr.of_below HB.out [b, m]).trans' (HF4.out.mono (fun x hx => .inl (by simp at hx; simp [hx])))).trans' ((fr_drewN w4 1 [b, m]).trans' hf5))
  clear hB5 hf5
  go_wp2_with fail
  go_ret2
  exact ⟨rfl, hfin.out, hfr.out⟩
end Go.Proofs.YtcjeckjmoponkaaGreatDoor
/- Pop. -/
namespace Go.Proofs.YtcjeckjmoponkaaGreatDoor
open Go.RowKit Go.Sort Go.MapKept
set_option linter.unusedVariables false
set_option linter.unusedSimpArgs false

end Go.Proofs.YtcjeckjmoponkaaGreatDoor
/- Push and Place. -/
namespace Go.Proofs.YtcjeckjmoponkaaGreatDoor
open Go.RowKit Go.Sort Go.MapKept
set_option linter.unusedVariables false
set_option linter.unusedSimpArgs false

theorem push_some {L : Qu} {g : Nat} (v : Int) (h : Inc 0 L) (h0 : lst 0 L ≠ 0) : (updL (lks 0 0 L) (g + 1) (some ⟨v, 0, 0⟩) (lst 0 L)).isSome := by
  unfold updL
  split
  · rfl
  · exact lks_some (lst_mem 0 (fun e => h0 ((lst_zero h).2 e)))

set_option maxRecDepth 100000 in
set_option maxHeartbeats 3200000 in
theorem fiPush_yes {w : World} {q b m g : Nat} {L : Qu} (h : QAt w q b m L g) (hl : L.length < 4096) (hg : g ≤ 1000000000) (x : Int) :
    Calls Tryz.prog 134 #[.pointer (some ⟨q, 0, none⟩), .int .i64 x] w fun e w' => e = .returned (.tuple #[.int .u64 ((g + 1 : Nat) : Int), .int .i64 0]) ∧ QAt w' q b m (L ++ [(g + 1, x)]) (g + 1) ∧ Fr [b, m] w w' := by
  have hu := Lib.hid (fiUsable_yes h)
  have hn := Lib.hid (fiLen_any h)
  have c := h.cq
  have c3 := h.body.c3
  have f3 := h.body.free 3
  have hgI : ((g : Nat) : Int) ≤ 1000000000 := by omega
  have hlI : ((L.length : Nat) : Int) < 4096 := by omega
  have hgI0 : (0 : Int) ≤ ((g : Nat) : Int) := by omega
  obtain ⟨w1, hw1⟩ : ∃ W, w.setCell ⟨b, 3, none⟩ (.int .u64 (((g : Nat) : Int) + 1)) = W := ⟨_, rfl⟩
  have b1 := h.body.set 3 (.int .u64 (((g : Nat) : Int) + 1)) (hdd 0 L) (lst 0 L) (g + 1) rfl
  have r1 := fr_setCell w ⟨b, 3, none⟩ (.int .u64 (((g : Nat) : Int) + 1))
  rw [hw1] at b1 r1
  have hq1 := r1.same h.q (by simp; exact h.qb)
  obtain ⟨G, hG⟩ : ∃ G, G = g + 1 := ⟨_, rfl⟩
  rw [← hG] at b1 ⊢
  have HG := Lib.hid hG
  have HW1 := Lib.hid hw1
  have HB1 := Lib.hid b1
  have HR1 := Lib.hid r1
  have HQ1 := Lib.hid hq1
  have HH := Lib.hid h
  generalize hN : L.length = N at *
  have HN := Lib.hid hN
  clear h hG hw1 b1 r1 hq1 hN hg
  go_enter Tryz.func134, Tryz.ntmps134
  go_wp2_with (first | (go_at_call 171; refine hu.out.mono ?_; rintro e w2 ⟨rfl, rfl⟩) | (go_at_call 172; refine hn.out.mono ?_; rintro e w2 ⟨rfl, rfl⟩))
  rw [HW1.out]
  clear hu hn c c3 f3
  have c2 := HB1.out.c2
  have c3 := HB1.out.c3
  go_still_tail 10, (by kernel_rfl)
  change wpList _ _ _ _ _ (w1.drewN 1)
  have hd1 : Hid (Below w1.heap.size w1 (w1.drewN 1)) := Lib.hid ((fr_drewN w1 1 []).below (fun _ hx => by simp at hx) (Nat.le_refl _))
  go_wp2_with (at_mapUpdate; refine wpList_put rfl _ _ _ rfl (HB1.out.grown hd1.out).m G ⟨x, 0, 0⟩ rfl rfl rfl ?_; intro w3 hm3 hf3 hs3; refine Hid.out ?_)
  have hlk : lks 0 0 L G = none := lks_gt HH.out.inc (by have := HH.out.le; have := HG.out; omega)
  rw [hlk] at hm3
  have hB3 := (HB1.out.grown hd1.out).put hm3 hf3
  have hle := HH.out.le
  have hi := HH.out.inc
  have hgG := HG.out
  have hj1 := Lib.hid (fiJoin_any (hB3.grown (w' := w3.drewN 1) ((fr_drewN w3 1 []).below (fun _ hx => by simp at hx) (Nat.le_refl _))) (lst 0 L) G (fun h0 => by rw [hgG]; exact push_some x hi h0) (fun h0 => by unfold updL; rw [if_pos rfl]; rfl) (.inl (by omega)))
  have c1 := hB3.c1
  have c3 := hB3.c3
  have HR3 := Lib.hid ((HR1.out.mono (G := [b, m]) (fun x hx => .inl (by simp at hx; simp [hx]))).trans' ((Fr.of_below hd1.out _).trans' (fr2 (b := b) hf3 (.inr rfl))))
  have HQ3 := Lib.hid (HR3.out.same HH.out.q (by simp [HH.out.qb, HH.out.qm]))
  clear hlk hm3 hf3 hs3 hB3 c2
  generalize hE : lst 0 L = E at *
  have HE := Lib.hid hE
  clear hE hle hi hgG
  refine Lib.hid ?_
  go_wp2_with fail
  go_still_tail 10, (by kernel_rfl)
  change wpList _ _ _ _ _ (w3.drewN 1)
  go_wp2_with (go_at_call 185; fail)
  refine hj1.out.mono ?_
  rintro e w5 ⟨rfl, hB5, hf5⟩
  have hG0 : G ≠ 0 := by have := HG.out; omega
  rw [if_neg hG0] at hB5
  have hj2 := Lib.hid (fiJoin_any hB5 G 0 (fun h0 => by rw [joinF_some]; unfold updL; rw [if_pos rfl]; rfl) (fun h0 => absurd rfl h0) (.inl hG0))
  have c3 := hB5.c3
  have HR5 := Lib.hid (HR3.out.trans' ((fr_drewN w3 1 [b, m]).trans' hf5))
  clear hB5 hf5 c1 hj1
  go_wp2_with (go_at_call 185; fail)
  refine hj2.out.mono ?_
  rintro e w6 ⟨rfl, hB6, hf6⟩
  have c3 := hB6.c3
  have HR6 := Lib.hid (HR5.out.trans' hf6)
  rw [if_neg hG0, if_pos trivial] at hB6
  have hfin : Hid (QAt w6 q b m (L ++ [(G, x)]) G) := Lib.hid (by
    have h0 := HH.out.inc
    have hle := HH.out.le
    have hb6 := hB6.b
    have hm6 := hB6.m
    rw [HG.out, ← HE.out, push_first x h0, ← push_last L g x] at hb6
    rw [HG.out, ← HE.out] at hm6
    rw [HG.out]
    refine ⟨HR6.out.same HH.out.q (by simp [HH.out.qb, HH.out.qm]), ?_, ?_, ?_, ?_⟩
    · rw [hb6, push_last]
    · have hl2 : (L ++ [(g + 1, x)]).length = N + 1 := by have := HN.out; simp [this]
      rw [hl2]
      exact LinkMap.congr hm6 (fun k => (push_links x h0 hle k).symm)
    · exact (inc_append 0 L _).2 ⟨h0, by omega, trivial⟩
    · rw [push_last]; exact Nat.le_refl _)
  clear hB6 hf6 hj2
  go_wp2_with fail
  go_ret2
  exact ⟨rfl, hfin.out, HR6.out⟩
end Go.Proofs.YtcjeckjmoponkaaGreatDoor
