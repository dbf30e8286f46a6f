/- A 4-ary heap as a list, without any program: what it costs to move an item up or down. -/
import Derived.Lib.Hide
namespace Go.Proofs.YtpbnbddjfebenaaDoor

/-- Key, value and number of an element. -/
structure Kvn where
  key : Int
  val : Int
  num : Int
instance : Inhabited Kvn := ⟨⟨0, 0, 0⟩⟩

def ltK (K : Nat → Kvn) (x y : Nat) : Prop := (K x).key < (K y).key ∨ ((K x).key = (K y).key ∧ (K x).num < (K y).num)
/-- What the comparison returns. -/
def cmpK (K : Nat → Kvn) (x y : Nat) : Int :=
  if (K x).key < (K y).key then -1 else if (K y).key < (K x).key then 1 else if (K x).num < (K y).num then -1 else if (K y).num < (K x).num then 1 else 0

theorem cmpK_neg {K : Nat → Kvn} {x y : Nat} : cmpK K x y < 0 ↔ ltK K x y := by
  unfold cmpK ltK; repeat' split
  all_goals omega
theorem cmpK_pos {K : Nat → Kvn} {x y : Nat} : 0 < cmpK K x y ↔ ltK K y x := by
  unfold cmpK ltK; repeat' split
  all_goals omega
theorem cmpK_bound (K : Nat → Kvn) (x y : Nat) : -1 ≤ cmpK K x y ∧ cmpK K x y ≤ 1 := by
  unfold cmpK; repeat' split
  all_goals omega
theorem ltK_irrefl (K : Nat → Kvn) (x : Nat) : ¬ ltK K x x := by unfold ltK; omega
theorem ltK_asymm {K : Nat → Kvn} {x y : Nat} (h : ltK K x y) : ¬ ltK K y x := by unfold ltK at *; omega
theorem nlt_trans {K : Nat → Kvn} {x y z : Nat} (h : ¬ ltK K x y) (h' : ¬ ltK K y z) : ¬ ltK K x z := by unfold ltK at *; omega
theorem ltK_trans {K : Nat → Kvn} {x y z : Nat} (h : ltK K x y) (h' : ltK K y z) : ltK K x z := by unfold ltK at *; omega

theorem getD_set (L : List Nat) (i j x : Nat) : (L.set i x).getD j 0 = if i = j ∧ j < L.length then x else L.getD j 0 := by
  simp only [List.getD_eq_getElem?_getD, List.getElem?_set]
  by_cases h : i = j
  · subst h
    by_cases h' : i < L.length
    · simp [h']
    · simp [h']
  · simp [h]
theorem getD_mem (L : List Nat) (i : Nat) (h : i < L.length) : L.getD i 0 ∈ L := by
  simp only [List.getD_eq_getElem?_getD, List.getElem?_eq_getElem h, Option.getD_some]; exact List.getElem_mem h
theorem getD_inj {L : List Nat} (hn : L.Nodup) {i j : Nat} (hi : i < L.length) (hj : j < L.length) (h : L.getD i 0 = L.getD j 0) : i = j := by
  simp only [List.getD_eq_getElem?_getD, List.getElem?_eq_getElem hi, List.getElem?_eq_getElem hj, Option.getD_some] at h
  rcases Nat.lt_trichotomy i j with h' | h' | h'
  · exact absurd h ((List.pairwise_iff_getElem.1 hn) i j hi hj h')
  · exact h'
  · exact absurd h.symm ((List.pairwise_iff_getElem.1 hn) j i hj hi h')
theorem ext_getD {L M : List Nat} (hl : L.length = M.length) (h : ∀ j, j < L.length → L.getD j 0 = M.getD j 0) : L = M := by
  apply List.ext_getElem hl
  intro j h1 h2
  have := h j h1
  simpa only [List.getD_eq_getElem?_getD, List.getElem?_eq_getElem h1, List.getElem?_eq_getElem h2, Option.getD_some] using this

/-- Two items change places. -/
def mv (L : List Nat) (i p : Nat) : List Nat := (L.set i (L.getD p 0)).set p (L.getD i 0)
theorem mv_length (L : List Nat) (i p : Nat) : (mv L i p).length = L.length := by simp [mv]
theorem mv_perm (L : List Nat) (i p : Nat) (hi : i < L.length) (hp : p < L.length) : (mv L i p).Perm L := by
  have := List.set_set_perm hi hp
  simpa [mv, List.getD_eq_getElem?_getD, hi, hp] using this
theorem mv_at (L : List Nat) (i p j : Nat) (hi : i < L.length) (hp : p < L.length) (hne : i ≠ p) :
    (mv L i p).getD j 0 = if j = p then L.getD i 0 else if j = i then L.getD p 0 else L.getD j 0 := by
  unfold mv
  rw [getD_set, getD_set]
  by_cases h1 : j = p
  · subst h1; simp [hp]
  · by_cases h2 : j = i
    · subst h2; simp [hi, Ne.symm h1, h1]
    · simp [Ne.symm h1, Ne.symm h2, h1, h2]

/-- The order holds but for what concerns the item at i. -/
def Pre (K : Nat → Kvn) (L : List Nat) (i : Nat) : Prop :=
  (∀ j, 0 < j → j < L.length → j ≠ i → (j - 1) / 4 ≠ i → ¬ ltK K (L.getD j 0) (L.getD ((j - 1) / 4) 0)) ∧
  (∀ j, 0 < j → j < L.length → (j - 1) / 4 = i → 0 < i → ¬ ltK K (L.getD j 0) (L.getD ((i - 1) / 4) 0))
/-- The item at i does not come before its parent. -/
def Up (K : Nat → Kvn) (L : List Nat) (i : Nat) : Prop := 0 < i → ¬ ltK K (L.getD i 0) (L.getD ((i - 1) / 4) 0)
/-- No child of the item at i comes before it. -/
def Dn (K : Nat → Kvn) (L : List Nat) (i : Nat) : Prop := ∀ j, 0 < j → j < L.length → (j - 1) / 4 = i → ¬ ltK K (L.getD j 0) (L.getD i 0)
def HeapO (K : Nat → Kvn) (L : List Nat) : Prop := ∀ j, 0 < j → j < L.length → ¬ ltK K (L.getD j 0) (L.getD ((j - 1) / 4) 0)

theorem heapO_of {K : Nat → Kvn} {L : List Nat} {i : Nat} (h : Pre K L i) (hu : Up K L i) (hd : Dn K L i) : HeapO K L := by
  intro j h0 hj
  by_cases h1 : j = i
  · subst h1; exact hu h0
  · by_cases h2 : (j - 1) / 4 = i
    · rw [h2]; exact hd j h0 hj h2
    · exact h.1 j h0 hj h1 h2
theorem pre_of {K : Nat → Kvn} {L : List Nat} (h : HeapO K L) (i x : Nat) : Pre K (L.set i x) i := by
  constructor
  · intro j h0 hj h1 h2
    have hj' : j < L.length := by simpa using hj
    rw [getD_set, getD_set, if_neg (by omega), if_neg (by omega)]
    exact h j h0 hj'
  · intro j h0 hj h1 h2
    have hj' : j < L.length := by simpa using hj
    have hp := h j h0 hj'
    have hi' : i < L.length := by omega
    have hq := h i h2 hi'
    rw [h1] at hp
    rw [getD_set, getD_set, if_neg (by omega), if_neg (by omega)]
    exact nlt_trans hp hq

theorem Pre.up {K : Nat → Kvn} {L : List Nat} {i : Nat} (h : Pre K L i) (h0 : 0 < i) (hi : i < L.length) (hl : ltK K (L.getD i 0) (L.getD ((i - 1) / 4) 0)) :
    Pre K (mv L i ((i - 1) / 4)) ((i - 1) / 4) ∧ Dn K (mv L i ((i - 1) / 4)) ((i - 1) / 4) := by
  have hp : (i - 1) / 4 < L.length := by omega
  have hne : i ≠ (i - 1) / 4 := by omega
  refine ⟨⟨?_, ?_⟩, ?_⟩
  · intro j j0 hj h1 h2
    rw [mv_length] at hj
    rw [mv_at L i _ j hi hp hne, mv_at L i _ ((j - 1) / 4) hi hp hne, if_neg h1, if_neg h2]
    by_cases e : j = i
    · subst e; exact absurd rfl h2
    · rw [if_neg e]
      by_cases e2 : (j - 1) / 4 = i
      · rw [if_pos e2]; exact h.2 j j0 hj e2 h0
      · rw [if_neg e2]; exact h.1 j j0 hj e e2
  · intro j j0 hj h1 hp0
    rw [mv_length] at hj
    have hpp := h.1 ((i - 1) / 4) hp0 hp (by omega) (by omega)
    rw [mv_at L i _ j hi hp hne, mv_at L i _ (((i - 1) / 4 - 1) / 4) hi hp hne, if_neg (by omega : ¬ j = (i - 1) / 4), if_neg (by omega : ¬ ((i - 1) / 4 - 1) / 4 = (i - 1) / 4), if_neg (by omega : ¬ ((i - 1) / 4 - 1) / 4 = i)]
    by_cases e : j = i
    · subst e; rw [if_pos rfl]; exact hpp
    · rw [if_neg e]
      have hj1 := h.1 j j0 hj e (by omega)
      rw [h1] at hj1
      exact nlt_trans hj1 hpp
  · intro j j0 hj h1
    rw [mv_length] at hj
    rw [mv_at L i _ j hi hp hne, mv_at L i _ ((i - 1) / 4) hi hp hne, if_neg (by omega : ¬ j = (i - 1) / 4), if_pos rfl]
    by_cases e : j = i
    · subst e; rw [if_pos rfl]; exact ltK_asymm hl
    · rw [if_neg e]
      have hj1 := h.1 j j0 hj e (by omega)
      rw [h1] at hj1
      exact nlt_trans hj1 (ltK_asymm hl)

theorem Pre.down {K : Nat → Kvn} {L : List Nat} {i c : Nat} (h : Pre K L i) (hu : Up K L i) (hc0 : 0 < c) (hc : c < L.length) (hpc : (c - 1) / 4 = i)
    (hmin : ∀ j, 0 < j → j < L.length → (j - 1) / 4 = i → ¬ ltK K (L.getD j 0) (L.getD c 0)) (hl : ltK K (L.getD c 0) (L.getD i 0)) :
    Pre K (mv L i c) c ∧ Up K (mv L i c) c := by
  have hi : i < L.length := by omega
  have hne : i ≠ c := by omega
  refine ⟨⟨?_, ?_⟩, ?_⟩
  · intro j j0 hj h1 h2
    rw [mv_length] at hj
    rw [mv_at L i c j hi hc hne, mv_at L i c ((j - 1) / 4) hi hc hne, if_neg h1, if_neg h2]
    by_cases e : j = i
    · subst e
      rw [if_pos rfl, if_neg (by omega)]
      exact h.2 c hc0 hc hpc j0
    · rw [if_neg e]
      by_cases e2 : (j - 1) / 4 = i
      · rw [if_pos e2]; exact hmin j j0 hj e2
      · rw [if_neg e2]; exact h.1 j j0 hj e e2
  · intro j j0 hj h1 _
    rw [mv_length] at hj
    rw [hpc, mv_at L i c j hi hc hne, mv_at L i c i hi hc hne, if_neg (by omega : ¬ j = c), if_neg (by omega : ¬ j = i), if_neg hne, if_pos rfl]
    have := h.1 j j0 hj (by omega) (by omega)
    rw [h1] at this
    exact this
  · intro _
    rw [hpc, mv_at L i c c hi hc hne, mv_at L i c i hi hc hne, if_pos rfl, if_neg hne, if_pos rfl]
    exact ltK_asymm hl

/-- Where each item lies, but for the one at i. -/
def IdxEx (X : Nat → Int) (L : List Nat) (i : Nat) : Prop := ∀ j, j < L.length → j ≠ i → X (L.getD j 0) = j
def IdxAll (X : Nat → Int) (L : List Nat) : Prop := ∀ j, j < L.length → X (L.getD j 0) = j
def upd {α : Type} (X : Nat → α) (h : Nat) (v : α) : Nat → α := fun k => if k = h then v else X k

theorem IdxEx.step {X : Nat → Int} {L : List Nat} {i p : Nat} (h : IdxEx X L i) (hn : L.Nodup) (hi : i < L.length) (hp : p < L.length) (hne : i ≠ p) :
    IdxEx (upd X (L.getD p 0) i) (mv L i p) p := by
  intro j hj h1
  rw [mv_length] at hj
  rw [mv_at L i p j hi hp hne, if_neg h1]
  unfold upd
  by_cases e : j = i
  · subst e; simp
  · rw [if_neg e, if_neg (fun he => h1 (getD_inj hn hj hp he))]
    exact h j hj e
theorem IdxEx.done {X : Nat → Int} {L : List Nat} {i : Nat} (h : IdxEx X L i) (hn : L.Nodup) (hi : i < L.length) : IdxAll (upd X (L.getD i 0) i) L := by
  intro j hj
  unfold upd
  by_cases e : j = i
  · subst e; simp
  · rw [if_neg (fun he => e (getD_inj hn hj hi he))]
    exact h j hj e
theorem IdxAll.ex {X : Nat → Int} {L : List Nat} (h : IdxAll X L) (i : Nat) : IdxEx X L i := fun j hj _ => h j hj

/-- M is L but for what lies at i. -/
def Hole (M L : List Nat) (i : Nat) : Prop := M.length = L.length ∧ ∀ j, j ≠ i → M.getD j 0 = L.getD j 0
theorem Hole.refl (L : List Nat) (i : Nat) : Hole L L i := ⟨rfl, fun _ _ => rfl⟩
theorem Hole.step {M L : List Nat} {i p : Nat} (h : Hole M L i) (hi : i < L.length) (hp : p < L.length) (hne : i ≠ p) : Hole (M.set i (M.getD p 0)) (mv L i p) p := by
  refine ⟨by simp [mv_length, h.1], fun j hj => ?_⟩
  rw [getD_set, mv_at L i p j hi hp hne, if_neg hj, h.1, h.2 p (Ne.symm hne)]
  by_cases e : i = j
  · subst e; simp [hi]
  · rw [if_neg (by omega), if_neg (by omega), h.2 j (Ne.symm e)]
theorem Hole.done {M L : List Nat} {i : Nat} (h : Hole M L i) (hi : i < L.length) : M.set i (L.getD i 0) = L := by
  apply ext_getD (by simp [h.1])
  intro j hj
  rw [getD_set]
  by_cases e : i = j
  · subst e; rw [if_pos ⟨rfl, by rw [h.1]; exact hi⟩]
  · rw [if_neg (by omega), h.2 j (Ne.symm e)]

/-- What a climb keeps: L0 is the layout that it began with, x the item that climbs; M lies in memory. -/
structure Rising (K : Nat → Kvn) (L0 : List Nat) (i0 x : Nat) (M : List Nat) (X : Nat → Int) (i : Nat) (L : List Nat) : Prop where
  hole : Hole M L i
  item : L.getD i 0 = x
  lt : i < L.length
  perm : L.Perm L0
  nodup : L.Nodup
  pre : Pre K L i
  idx : IdxEx X L i
  dn : Dn K L0 i0 → Dn K L i

theorem Rising.start {K : Nat → Kvn} {L : List Nat} {i : Nat} {X : Nat → Int} (hi : i < L.length) (hn : L.Nodup) (hp : Pre K L i) (hx : IdxEx X L i) : Rising K L i (L.getD i 0) L X i L :=
  ⟨Hole.refl _ _, rfl, hi, List.Perm.refl _, hn, hp, hx, fun h => h⟩

theorem Rising.step {K : Nat → Kvn} {L0 : List Nat} {i0 x : Nat} {M : List Nat} {X : Nat → Int} {i : Nat} {L : List Nat} (h : Rising K L0 i0 x M X i L) (h0 : 0 < i)
    (hl : ltK K x (M.getD ((i - 1) / 4) 0)) :
    Rising K L0 i0 x (M.set i (M.getD ((i - 1) / 4) 0)) (upd X (M.getD ((i - 1) / 4) 0) i) ((i - 1) / 4) (mv L i ((i - 1) / 4)) := by
  have hp : (i - 1) / 4 < L.length := by have := h.lt; omega
  have hne : i ≠ (i - 1) / 4 := by omega
  have hM := h.hole.2 ((i - 1) / 4) (Ne.symm hne)
  rw [hM, ← h.item] at hl
  have hu := h.pre.up h0 h.lt hl
  refine ⟨h.hole.step h.lt hp hne, ?_, by rw [mv_length]; exact hp, (mv_perm L i _ h.lt hp).trans h.perm, ((mv_perm L i _ h.lt hp).nodup_iff).2 h.nodup, hu.1, ?_, fun _ => hu.2⟩
  · rw [mv_at L i _ _ h.lt hp hne, if_pos rfl]; exact h.item
  · rw [hM]; exact h.idx.step h.nodup h.lt hp hne

/-- A climb that has ended, the item laid down. -/
structure Risen (K : Nat → Kvn) (L0 : List Nat) (i0 x : Nat) (L : List Nat) (X : Nat → Int) (i : Nat) : Prop where
  item : L.getD i 0 = x
  lt : i < L.length
  perm : L.Perm L0
  nodup : L.Nodup
  pre : Pre K L i
  up : Up K L i
  idx : IdxAll X L
  dn : Dn K L0 i0 → Dn K L i

theorem Rising.done {K : Nat → Kvn} {L0 : List Nat} {i0 x : Nat} {M : List Nat} {X : Nat → Int} {i : Nat} {L : List Nat} (h : Rising K L0 i0 x M X i L)
    (hu : 0 < i → ¬ ltK K x (M.getD ((i - 1) / 4) 0)) : Risen K L0 i0 x (M.set i x) (upd X x i) i := by
  have e : M.set i x = L := by rw [← h.item]; exact h.hole.done h.lt
  rw [e]
  refine ⟨h.item, h.lt, h.perm, h.nodup, h.pre, fun h0 => ?_, ?_, h.dn⟩
  · rw [h.item, ← h.hole.2 ((i - 1) / 4) (by omega)]; exact hu h0
  · rw [← h.item]; exact h.idx.done h.nodup h.lt

/-- What a descent keeps. -/
structure Sinking (K : Nat → Kvn) (L0 : List Nat) (x : Nat) (M : List Nat) (X : Nat → Int) (i : Nat) (L : List Nat) : Prop where
  hole : Hole M L i
  item : L.getD i 0 = x
  lt : i < L.length
  perm : L.Perm L0
  nodup : L.Nodup
  pre : Pre K L i
  up : Up K L i
  idx : IdxEx X L i

theorem Sinking.start {K : Nat → Kvn} {L : List Nat} {i : Nat} {X : Nat → Int} (hi : i < L.length) (hn : L.Nodup) (hp : Pre K L i) (hu : Up K L i) (hx : IdxEx X L i) : Sinking K L (L.getD i 0) L X i L :=
  ⟨Hole.refl _ _, rfl, hi, List.Perm.refl _, hn, hp, hu, hx⟩

/-- The child that comes first. -/
structure First (K : Nat → Kvn) (M : List Nat) (i c : Nat) : Prop where
  pos : 0 < c
  lt : c < M.length
  par : (c - 1) / 4 = i
  min : ∀ j, 0 < j → j < M.length → (j - 1) / 4 = i → ¬ ltK K (M.getD j 0) (M.getD c 0)

theorem Sinking.step {K : Nat → Kvn} {L0 : List Nat} {x : Nat} {M : List Nat} {X : Nat → Int} {i c : Nat} {L : List Nat} (h : Sinking K L0 x M X i L) (hc : First K M i c)
    (hl : ltK K (M.getD c 0) x) : Sinking K L0 x (M.set i (M.getD c 0)) (upd X (M.getD c 0) i) c (mv L i c) := by
  have hcl : c < L.length := by rw [← h.hole.1]; exact hc.lt
  have hp0 := hc.pos
  have hpar := hc.par
  have hne : i ≠ c := by omega
  have hM := h.hole.2 c (Ne.symm hne)
  rw [hM, ← h.item] at hl
  have hmin : ∀ j, 0 < j → j < L.length → (j - 1) / 4 = i → ¬ ltK K (L.getD j 0) (L.getD c 0) := fun j j0 hj hji => by
    have := hc.min j j0 (by rw [h.hole.1]; exact hj) hji
    rwa [hM, h.hole.2 j (by omega)] at this
  have hu := h.pre.down h.up hp0 hcl hpar hmin hl
  refine ⟨h.hole.step h.lt hcl hne, ?_, by rw [mv_length]; exact hcl, (mv_perm L i _ h.lt hcl).trans h.perm, ((mv_perm L i _ h.lt hcl).nodup_iff).2 h.nodup, hu.1, hu.2, ?_⟩
  · rw [mv_at L i _ _ h.lt hcl hne, if_pos rfl]; exact h.item
  · rw [hM]; exact h.idx.step h.nodup h.lt hcl hne

/-- Settled: the order holds. -/
structure Settled (K : Nat → Kvn) (L0 L : List Nat) (X : Nat → Int) : Prop where
  perm : L.Perm L0
  nodup : L.Nodup
  heap : HeapO K L
  idx : IdxAll X L

theorem Sinking.done {K : Nat → Kvn} {L0 : List Nat} {x : Nat} {M : List Nat} {X : Nat → Int} {i : Nat} {L : List Nat} (h : Sinking K L0 x M X i L)
    (hd : M.length ≤ 4 * i + 1 ∨ ∃ c, First K M i c ∧ ¬ ltK K (M.getD c 0) x) : Settled K L0 (M.set i x) (upd X x i) := by
  have e : M.set i x = L := by rw [← h.item]; exact h.hole.done h.lt
  rw [e]
  refine ⟨h.perm, h.nodup, heapO_of h.pre h.up ?_, ?_⟩
  · intro j j0 hj hji
    rw [h.item]
    rcases hd with hd | ⟨c, hc, hn⟩
    · have := h.hole.1; omega
    · have := hc.min j j0 (by rw [h.hole.1]; exact hj) hji
      rw [h.hole.2 j (by omega)] at this
      exact nlt_trans this hn
  · rw [← h.item]; exact h.idx.done h.nodup h.lt

theorem Risen.settled {K : Nat → Kvn} {L0 : List Nat} {i0 x : Nat} {L : List Nat} {X : Nat → Int} {i : Nat} (h : Risen K L0 i0 x L X i) (hd : Dn K L0 i0) : Settled K L0 L X :=
  ⟨h.perm, h.nodup, heapO_of h.pre h.up (h.dn hd), h.idx⟩
theorem Risen.sinking {K : Nat → Kvn} {L0 : List Nat} {i0 x : Nat} {L : List Nat} {X : Nat → Int} {i : Nat} (h : Risen K L0 i0 x L X i) : Sinking K L x L X i L := by
  have := Sinking.start h.lt h.nodup h.pre h.up (h.idx.ex i)
  rwa [h.item] at this
theorem Settled.trans {K : Nat → Kvn} {L0 L1 L2 : List Nat} {X : Nat → Int} (h : Settled K L1 L2 X) (hp : L1.Perm L0) : Settled K L0 L2 X := ⟨h.perm.trans hp, h.nodup, h.heap, h.idx⟩
end Go.Proofs.YtpbnbddjfebenaaDoor
