/- QDlA: HQuad, HMem, HApp, HCmp, HClo, HMove, HSink, HSettle, HNum, HPush, HDel, HRem, merged. -/
import Derived.Lib.Hide
import Derived.Test.YtcjeckjmoponkaaGreatDoorProg
import Derived.WalkKit
import Derived.WalkSpells
import Derived.WalkLawsBesides
import Derived.OneCell
import Derived.Sort.Grow
import Derived.ArgAppend
import Derived.OwnWalk
import Derived.StillTailTactics
import Derived.Deep.QuietTactic
import Derived.BigQuiet
import Derived.Outline
import Derived.Shelf.SlSortCmp.QuietGrown
import Derived.Deep.DeepCutAuto
import Derived.Deep.LoopGhost
import Derived.RegionTactic
import Derived.BigRegion
import Derived.Laws.Bits64b
import Derived.Lib.TrailingZeros
import Derived.Deep.RegionLaw
import Derived.Lib.SliceRun
/- A 4-ary heap as a list, without any program: what it costs to move an item up or down. -/
namespace Go.Proofs.YtcjeckjmoponkaaGreatDoor.Dl

/-- Key, value and number of an element. -/
structure Kvn where
  key : Int
  val : Int
  num : Int
instance : Inhabited Kvn := ⟨⟨0, 0, 0⟩⟩

def ltK (K : Nat → Kvn) (x y : Nat) : Prop := (K x).key < (K y).key ∨ ((K x).key = (K y).key ∧ (K x).num < (K y).num)
/-- What the comparison returns. -/
def cmpK (K : Nat → Kvn) (x y : Nat) : Int :=
  if (K x).key < (K y).key then -1 else if (K y).key < (K x).key then 1 else if (K x).num < (K y).num then -1 else if (K y).num < (K x).num then 1 else 0

theorem cmpK_neg {K : Nat → Kvn} {x y : Nat} : cmpK K x y < 0 ↔ ltK K x y := by
  unfold cmpK ltK; repeat' split
  all_goals omega
theorem cmpK_pos {K : Nat → Kvn} {x y : Nat} : 0 < cmpK K x y ↔ ltK K y x := by
  unfold cmpK ltK; repeat' split
  all_goals omega
theorem ltK_irrefl (K : Nat → Kvn) (x : Nat) : ¬ ltK K x x := by unfold ltK; omega
theorem ltK_asymm {K : Nat → Kvn} {x y : Nat} (h : ltK K x y) : ¬ ltK K y x := by unfold ltK at *; omega
theorem nlt_trans {K : Nat → Kvn} {x y z : Nat} (h : ¬ ltK K x y) (h' : ¬ ltK K y z) : ¬ ltK K x z := by unfold ltK at *; omega
theorem getD_set (L : List Nat) (i j x : Nat) : (L.set i x).getD j 0 = if i = j ∧ j < L.length then x else L.getD j 0 := by
  simp only [List.getD_eq_getElem?_getD, List.getElem?_set]
  by_cases h : i = j
  · subst h
    by_cases h' : i < L.length
    · simp [h']
    · simp [h']
  · simp [h]
theorem getD_mem (L : List Nat) (i : Nat) (h : i < L.length) : L.getD i 0 ∈ L := by
  simp only [List.getD_eq_getElem?_getD, List.getElem?_eq_getElem h, Option.getD_some]; exact List.getElem_mem h
theorem getD_inj {L : List Nat} (hn : L.Nodup) {i j : Nat} (hi : i < L.length) (hj : j < L.length) (h : L.getD i 0 = L.getD j 0) : i = j := by
  simp only [List.getD_eq_getElem?_getD, List.getElem?_eq_getElem hi, List.getElem?_eq_getElem hj, Option.getD_some] at h
  rcases Nat.lt_trichotomy i j with h' | h' | h'
  · exact absurd h ((List.pairwise_iff_getElem.1 hn) i j hi hj h')
  · exact h'
  · exact absurd h.symm ((List.pairwise_iff_getElem.1 hn) j i hj hi h')
theorem ext_getD {L M : List Nat} (hl : L.length = M.length) (h : ∀ j, j < L.length → L.getD j 0 = M.getD j 0) : L = M := by
  apply List.ext_getElem hl
  intro j h1 h2
  have := h j h1
  simpa only [List.getD_eq_getElem?_getD, List.getElem?_eq_getElem h1, List.getElem?_eq_getElem h2, Option.getD_some] using this

/-- Two items change places. -/
def mv (L : List Nat) (i p : Nat) : List Nat := (L.set i (L.getD p 0)).set p (L.getD i 0)
theorem mv_length (L : List Nat) (i p : Nat) : (mv L i p).length = L.length := by simp [mv]
theorem mv_perm (L : List Nat) (i p : Nat) (hi : i < L.length) (hp : p < L.length) : (mv L i p).Perm L := by
  have := List.set_set_perm hi hp
  simpa [mv, List.getD_eq_getElem?_getD, hi, hp] using this
theorem mv_at (L : List Nat) (i p j : Nat) (hi : i < L.length) (hp : p < L.length) (hne : i ≠ p) :
    (mv L i p).getD j 0 = if j = p then L.getD i 0 else if j = i then L.getD p 0 else L.getD j 0 := by
  unfold mv
  rw [getD_set, getD_set]
  by_cases h1 : j = p
  · subst h1; simp [hp]
  · by_cases h2 : j = i
    · subst h2; simp [hi, Ne.symm h1, h1]
    · simp [Ne.symm h1, Ne.symm h2, h1, h2]

/-- The order holds but for what concerns the item at i. -/
def Pre (K : Nat → Kvn) (L : List Nat) (i : Nat) : Prop :=
  (∀ j, 0 < j → j < L.length → j ≠ i → (j - 1) / 4 ≠ i → ¬ ltK K (L.getD j 0) (L.getD ((j - 1) / 4) 0)) ∧
  (∀ j, 0 < j → j < L.length → (j - 1) / 4 = i → 0 < i → ¬ ltK K (L.getD j 0) (L.getD ((i - 1) / 4) 0))
/-- The item at i does not come before its parent. -/
def Up (K : Nat → Kvn) (L : List Nat) (i : Nat) : Prop := 0 < i → ¬ ltK K (L.getD i 0) (L.getD ((i - 1) / 4) 0)
/-- No child of the item at i comes before it. -/
def Dn (K : Nat → Kvn) (L : List Nat) (i : Nat) : Prop := ∀ j, 0 < j → j < L.length → (j - 1) / 4 = i → ¬ ltK K (L.getD j 0) (L.getD i 0)
def HeapO (K : Nat → Kvn) (L : List Nat) : Prop := ∀ j, 0 < j → j < L.length → ¬ ltK K (L.getD j 0) (L.getD ((j - 1) / 4) 0)

theorem heapO_of {K : Nat → Kvn} {L : List Nat} {i : Nat} (h : Pre K L i) (hu : Up K L i) (hd : Dn K L i) : HeapO K L := by
  intro j h0 hj
  by_cases h1 : j = i
  · subst h1; exact hu h0
  · by_cases h2 : (j - 1) / 4 = i
    · rw [h2]; exact hd j h0 hj h2
    · exact h.1 j h0 hj h1 h2
theorem pre_of {K : Nat → Kvn} {L : List Nat} (h : HeapO K L) (i x : Nat) : Pre K (L.set i x) i := by
  constructor
  · intro j h0 hj h1 h2
    have hj' : j < L.length := by simpa using hj
    rw [getD_set, getD_set, if_neg (by omega), if_neg (by omega)]
    exact h j h0 hj'
  · intro j h0 hj h1 h2
    have hj' : j < L.length := by simpa using hj
    have hp := h j h0 hj'
    have hi' : i < L.length := by omega
    have hq := h i h2 hi'
    rw [h1] at hp
    rw [getD_set, getD_set, if_neg (by omega), if_neg (by omega)]
    exact nlt_trans hp hq

theorem Pre.up {K : Nat → Kvn} {L : List Nat} {i : Nat} (h : Pre K L i) (h0 : 0 < i) (hi : i < L.length) (hl : ltK K (L.getD i 0) (L.getD ((i - 1) / 4) 0)) :
    Pre K (mv L i ((i - 1) / 4)) ((i - 1) / 4) ∧ Dn K (mv L i ((i - 1) / 4)) ((i - 1) / 4) := by
  have hp : (i - 1) / 4 < L.length := by omega
  have hne : i ≠ (i - 1) / 4 := by omega
  refine ⟨⟨?_, ?_⟩, ?_⟩
  · intro j j0 hj h1 h2
    rw [mv_length] at hj
    rw [mv_at L i _ j hi hp hne, mv_at L i _ ((j - 1) / 4) hi hp hne, if_neg h1, if_neg h2]
    by_cases e : j = i
    · subst e; exact absurd rfl h2
    · rw [if_neg e]
      by_cases e2 : (j - 1) / 4 = i
      · rw [if_pos e2]; exact h.2 j j0 hj e2 h0
      · rw [if_neg e2]; exact h.1 j j0 hj e e2
  · intro j j0 hj h1 hp0
    rw [mv_length] at hj
    have hpp := h.1 ((i - 1) / 4) hp0 hp (by omega) (by omega)
    rw [mv_at L i _ j hi hp hne, mv_at L i _ (((i - 1) / 4 - 1) / 4) hi hp hne, if_neg (by omega : ¬ j = (i - 1) / 4), if_neg (by omega : ¬ ((i - 1) / 4 - 1) / 4 = (i - 1) / 4), if_neg (by omega : ¬ ((i - 1) / 4 - 1) / 4 = i)]
    by_cases e : j = i
    · subst e; rw [if_pos rfl]; exact hpp
    · rw [if_neg e]
      have hj1 := h.1 j j0 hj e (by omega)
      rw [h1] at hj1
      exact nlt_trans hj1 hpp
  · intro j j0 hj h1
    rw [mv_length] at hj
    rw [mv_at L i _ j hi hp hne, mv_at L i _ ((i - 1) / 4) hi hp hne, if_neg (by omega : ¬ j = (i - 1) / 4), if_pos rfl]
    by_cases e : j = i
    · subst e; rw [if_pos rfl]; exact ltK_asymm hl
    · rw [if_neg e]
      have hj1 := h.1 j j0 hj e (by omega)
      rw [h1] at hj1
      exact nlt_trans hj1 (ltK_asymm hl)

theorem Pre.down {K : Nat → Kvn} {L : List Nat} {i c : Nat} (h : Pre K L i) (hu : Up K L i) (hc0 : 0 < c) (hc : c < L.length) (hpc : (c - 1) / 4 = i)
    (hmin : ∀ j, 0 < j → j < L.length → (j - 1) / 4 = i → ¬ ltK K (L.getD j 0) (L.getD c 0)) (hl : ltK K (L.getD c 0) (L.getD i 0)) :
    Pre K (mv L i c) c ∧ Up K (mv L i c) c := by
  have hi : i < L.length := by omega
  have hne : i ≠ c := by omega
  refine ⟨⟨?_, ?_⟩, ?_⟩
  · intro j j0 hj h1 h2
    rw [mv_length] at hj
    rw [mv_at L i c j hi hc hne, mv_at L i c ((j - 1) / 4) hi hc hne, if_neg h1, if_neg h2]
    by_cases e : j = i
    · subst e
      rw [if_pos rfl, if_neg (by omega)]
      exact h.2 c hc0 hc hpc j0
    · rw [if_neg e]
      by_cases e2 : (j - 1) / 4 = i
      · rw [if_pos e2]; exact hmin j j0 hj e2
      · rw [if_neg e2]; exact h.1 j j0 hj e e2
  · intro j j0 hj h1 _
    rw [mv_length] at hj
    rw [hpc, mv_at L i c j hi hc hne, mv_at L i c i hi hc hne, if_neg (by omega : ¬ j = c), if_neg (by omega : ¬ j = i), if_neg hne, if_pos rfl]
    have := h.1 j j0 hj (by omega) (by omega)
    rw [h1] at this
    exact this
  · intro _
    rw [hpc, mv_at L i c c hi hc hne, mv_at L i c i hi hc hne, if_pos rfl, if_neg hne, if_pos rfl]
    exact ltK_asymm hl

/-- Where each item lies, but for the one at i. -/
def IdxEx (X : Nat → Int) (L : List Nat) (i : Nat) : Prop := ∀ j, j < L.length → j ≠ i → X (L.getD j 0) = j
def IdxAll (X : Nat → Int) (L : List Nat) : Prop := ∀ j, j < L.length → X (L.getD j 0) = j
def upd {α : Type} (X : Nat → α) (h : Nat) (v : α) : Nat → α := fun k => if k = h then v else X k

theorem IdxEx.step {X : Nat → Int} {L : List Nat} {i p : Nat} (h : IdxEx X L i) (hn : L.Nodup) (hi : i < L.length) (hp : p < L.length) (hne : i ≠ p) :
    IdxEx (upd X (L.getD p 0) i) (mv L i p) p := by
  intro j hj h1
  rw [mv_length] at hj
  rw [mv_at L i p j hi hp hne, if_neg h1]
  unfold upd
  by_cases e : j = i
  · subst e; simp
  · rw [if_neg e, if_neg (fun he => h1 (getD_inj hn hj hp he))]
    exact h j hj e
theorem IdxEx.done {X : Nat → Int} {L : List Nat} {i : Nat} (h : IdxEx X L i) (hn : L.Nodup) (hi : i < L.length) : IdxAll (upd X (L.getD i 0) i) L := by
  intro j hj
  unfold upd
  by_cases e : j = i
  · subst e; simp
  · rw [if_neg (fun he => e (getD_inj hn hj hi he))]
    exact h j hj e
theorem IdxAll.ex {X : Nat → Int} {L : List Nat} (h : IdxAll X L) (i : Nat) : IdxEx X L i := fun j hj _ => h j hj

/-- M is L but for what lies at i. -/
def Hole (M L : List Nat) (i : Nat) : Prop := M.length = L.length ∧ ∀ j, j ≠ i → M.getD j 0 = L.getD j 0
theorem Hole.refl (L : List Nat) (i : Nat) : Hole L L i := ⟨rfl, fun _ _ => rfl⟩
theorem Hole.step {M L : List Nat} {i p : Nat} (h : Hole M L i) (hi : i < L.length) (hp : p < L.length) (hne : i ≠ p) : Hole (M.set i (M.getD p 0)) (mv L i p) p := by
  refine ⟨by simp [mv_length, h.1], fun j hj => ?_⟩
  rw [getD_set, mv_at L i p j hi hp hne, if_neg hj, h.1, h.2 p (Ne.symm hne)]
  by_cases e : i = j
  · subst e; simp [hi]
  · rw [if_neg (by omega), if_neg (by omega), h.2 j (Ne.symm e)]
theorem Hole.done {M L : List Nat} {i : Nat} (h : Hole M L i) (hi : i < L.length) : M.set i (L.getD i 0) = L := by
  apply ext_getD (by simp [h.1])
  intro j hj
  rw [getD_set]
  by_cases e : i = j
  · subst e; rw [if_pos ⟨rfl, by rw [h.1]; exact hi⟩]
  · rw [if_neg (by omega), h.2 j (Ne.symm e)]

/-- What a climb keeps: L0 is the layout that it began with, x the item that climbs; M lies in memory. -/
structure Rising (K : Nat → Kvn) (L0 : List Nat) (i0 x : Nat) (M : List Nat) (X : Nat → Int) (i : Nat) (L : List Nat) : Prop where
  hole : Hole M L i
  item : L.getD i 0 = x
  lt : i < L.length
  perm : L.Perm L0
  nodup : L.Nodup
  pre : Pre K L i
  idx : IdxEx X L i
  dn : Dn K L0 i0 → Dn K L i

theorem Rising.start {K : Nat → Kvn} {L : List Nat} {i : Nat} {X : Nat → Int} (hi : i < L.length) (hn : L.Nodup) (hp : Pre K L i) (hx : IdxEx X L i) : Rising K L i (L.getD i 0) L X i L :=
  ⟨Hole.refl _ _, rfl, hi, List.Perm.refl _, hn, hp, hx, fun h => h⟩

theorem Rising.step {K : Nat → Kvn} {L0 : List Nat} {i0 x : Nat} {M : List Nat} {X : Nat → Int} {i : Nat} {L : List Nat} (h : Rising K L0 i0 x M X i L) (h0 : 0 < i)
    (hl : ltK K x (M.getD ((i - 1) / 4) 0)) :
    Rising K L0 i0 x (M.set i (M.getD ((i - 1) / 4) 0)) (upd X (M.getD ((i - 1) / 4) 0) i) ((i - 1) / 4) (mv L i ((i - 1) / 4)) := by
  have hp : (i - 1) / 4 < L.length := by have := h.lt; omega
  have hne : i ≠ (i - 1) / 4 := by omega
  have hM := h.hole.2 ((i - 1) / 4) (Ne.symm hne)
  rw [hM, ← h.item] at hl
  have hu := h.pre.up h0 h.lt hl
  refine ⟨h.hole.step h.lt hp hne, ?_, by rw [mv_length]; exact hp, (mv_perm L i _ h.lt hp).trans h.perm, ((mv_perm L i _ h.lt hp).nodup_iff).2 h.nodup, hu.1, ?_, fun _ => hu.2⟩
  · rw [mv_at L i _ _ h.lt hp hne, if_pos rfl]; exact h.item
  · rw [hM]; exact h.idx.step h.nodup h.lt hp hne

/-- A climb that has ended, the item laid down. -/
structure Risen (K : Nat → Kvn) (L0 : List Nat) (i0 x : Nat) (L : List Nat) (X : Nat → Int) (i : Nat) : Prop where
  item : L.getD i 0 = x
  lt : i < L.length
  perm : L.Perm L0
  nodup : L.Nodup
  pre : Pre K L i
  up : Up K L i
  idx : IdxAll X L
  dn : Dn K L0 i0 → Dn K L i

theorem Rising.done {K : Nat → Kvn} {L0 : List Nat} {i0 x : Nat} {M : List Nat} {X : Nat → Int} {i : Nat} {L : List Nat} (h : Rising K L0 i0 x M X i L)
    (hu : 0 < i → ¬ ltK K x (M.getD ((i - 1) / 4) 0)) : Risen K L0 i0 x (M.set i x) (upd X x i) i := by
  have e : M.set i x = L := by rw [← h.item]; exact h.hole.done h.lt
  rw [e]
  refine ⟨h.item, h.lt, h.perm, h.nodup, h.pre, fun h0 => ?_, ?_, h.dn⟩
  · rw [h.item, ← h.hole.2 ((i - 1) / 4) (by omega)]; exact hu h0
  · rw [← h.item]; exact h.idx.done h.nodup h.lt

/-- What a descent keeps. -/
structure Sinking (K : Nat → Kvn) (L0 : List Nat) (x : Nat) (M : List Nat) (X : Nat → Int) (i : Nat) (L : List Nat) : Prop where
  hole : Hole M L i
  item : L.getD i 0 = x
  lt : i < L.length
  perm : L.Perm L0
  nodup : L.Nodup
  pre : Pre K L i
  up : Up K L i
  idx : IdxEx X L i

theorem Sinking.start {K : Nat → Kvn} {L : List Nat} {i : Nat} {X : Nat → Int} (hi : i < L.length) (hn : L.Nodup) (hp : Pre K L i) (hu : Up K L i) (hx : IdxEx X L i) : Sinking K L (L.getD i 0) L X i L :=
  ⟨Hole.refl _ _, rfl, hi, List.Perm.refl _, hn, hp, hu, hx⟩

/-- The child that comes first. -/
structure First (K : Nat → Kvn) (M : List Nat) (i c : Nat) : Prop where
  pos : 0 < c
  lt : c < M.length
  par : (c - 1) / 4 = i
  min : ∀ j, 0 < j → j < M.length → (j - 1) / 4 = i → ¬ ltK K (M.getD j 0) (M.getD c 0)

theorem Sinking.step {K : Nat → Kvn} {L0 : List Nat} {x : Nat} {M : List Nat} {X : Nat → Int} {i c : Nat} {L : List Nat} (h : Sinking K L0 x M X i L) (hc : First K M i c)
    (hl : ltK K (M.getD c 0) x) : Sinking K L0 x (M.set i (M.getD c 0)) (upd X (M.getD c 0) i) c (mv L i c) := by
  have hcl : c < L.length := by rw [← h.hole.1]; exact hc.lt
  have hp0 := hc.pos
  have hpar := hc.par
  have hne : i ≠ c := by omega
  have hM := h.hole.2 c (Ne.symm hne)
  rw [hM, ← h.item] at hl
  have hmin : ∀ j, 0 < j → j < L.length → (j - 1) / 4 = i → ¬ ltK K (L.getD j 0) (L.getD c 0) := fun j j0 hj hji => by
    have := hc.min j j0 (by rw [h.hole.1]; exact hj) hji
    rwa [hM, h.hole.2 j (by omega)] at this
  have hu := h.pre.down h.up hp0 hcl hpar hmin hl
  refine ⟨h.hole.step h.lt hcl hne, ?_, by rw [mv_length]; exact hcl, (mv_perm L i _ h.lt hcl).trans h.perm, ((mv_perm L i _ h.lt hcl).nodup_iff).2 h.nodup, hu.1, hu.2, ?_⟩
  · rw [mv_at L i _ _ h.lt hcl hne, if_pos rfl]; exact h.item
  · rw [hM]; exact h.idx.step h.nodup h.lt hcl hne

/-- Settled: the order holds. -/
structure Settled (K : Nat → Kvn) (L0 L : List Nat) (X : Nat → Int) : Prop where
  perm : L.Perm L0
  nodup : L.Nodup
  heap : HeapO K L
  idx : IdxAll X L

theorem Sinking.done {K : Nat → Kvn} {L0 : List Nat} {x : Nat} {M : List Nat} {X : Nat → Int} {i : Nat} {L : List Nat} (h : Sinking K L0 x M X i L)
    (hd : M.length ≤ 4 * i + 1 ∨ ∃ c, First K M i c ∧ ¬ ltK K (M.getD c 0) x) : Settled K L0 (M.set i x) (upd X x i) := by
  have e : M.set i x = L := by rw [← h.item]; exact h.hole.done h.lt
  rw [e]
  refine ⟨h.perm, h.nodup, heapO_of h.pre h.up ?_, ?_⟩
  · intro j j0 hj hji
    rw [h.item]
    rcases hd with hd | ⟨c, hc, hn⟩
    · have := h.hole.1; omega
    · have := hc.min j j0 (by rw [h.hole.1]; exact hj) hji
      rw [h.hole.2 j (by omega)] at this
      exact nlt_trans this hn
  · rw [← h.item]; exact h.idx.done h.nodup h.lt

theorem Risen.settled {K : Nat → Kvn} {L0 : List Nat} {i0 x : Nat} {L : List Nat} {X : Nat → Int} {i : Nat} (h : Risen K L0 i0 x L X i) (hd : Dn K L0 i0) : Settled K L0 L X :=
  ⟨h.perm, h.nodup, heapO_of h.pre h.up (h.dn hd), h.idx⟩
theorem Settled.trans {K : Nat → Kvn} {L0 L1 L2 : List Nat} {X : Nat → Int} (h : Settled K L1 L2 X) (hp : L1.Perm L0) : Settled K L0 L2 X := ⟨h.perm.trans hp, h.nodup, h.heap, h.idx⟩
end Go.Proofs.YtcjeckjmoponkaaGreatDoor.Dl
/- What a heap looks like in memory, and what may change when it is called. -/
namespace Go.Proofs.YtcjeckjmoponkaaGreatDoor.Dl
open Go.RowKit Go.Sort
set_option linter.unusedVariables false
set_option linter.unusedSimpArgs false

/-- At most the blocks of F have changed; there may be new ones. -/
structure Fr (F : List Nat) (w w' : World) : Prop where
  os : w'.os = w.os
  tape : w'.tape = w.tape
  output : w'.output = w.output
  size : w.heap.size ≤ w'.heap.size
  block : ∀ k, k < w.heap.size → k ∉ F → w'.heap[k]? = w.heap[k]?

theorem Fr.refl (F : List Nat) (w : World) : Fr F w w := ⟨rfl, rfl, rfl, Nat.le_refl _, fun _ _ _ => rfl⟩
theorem Fr.trans {F G : List Nat} {a b c : World} (h : Fr F a b) (k : Fr G b c) (hs : ∀ x, x ∈ G → x ∈ F ∨ a.heap.size ≤ x) : Fr F a c :=
  ⟨k.os.trans h.os, k.tape.trans h.tape, k.output.trans h.output, Nat.le_trans h.size k.size, fun i hi hn =>
    (k.block i (Nat.lt_of_lt_of_le hi h.size) (fun hg => by rcases hs i hg with h' | h'; exact hn h'; omega)).trans (h.block i hi hn)⟩
theorem Fr.trans' {F : List Nat} {a b c : World} (h : Fr F a b) (k : Fr F b c) : Fr F a c := h.trans k fun _ hx => .inl hx
theorem Fr.mono {F G : List Nat} {w w' : World} (h : Fr F w w') (hs : ∀ x, x ∈ F → x ∈ G ∨ w.heap.size ≤ x) : Fr G w w' :=
  ⟨h.os, h.tape, h.output, h.size, fun i hi hn => h.block i hi (fun hg => by rcases hs i hg with h' | h'; exact hn h'; omega)⟩
theorem Fr.of_below {w w' : World} (h : Below w.heap.size w w') (F : List Nat) : Fr F w w' := ⟨h.os, h.tape, h.output, h.size, fun k hk _ => h.block k hk⟩
theorem Fr.below {B : Nat} {F : List Nat} {w w' : World} (h : Fr F w w') (hF : ∀ x, x ∈ F → B ≤ x) (hB : B ≤ w.heap.size) : Below B w w' :=
  ⟨h.os, h.tape, h.output, h.size, fun k hk => h.block k (by omega) (fun hx => by have := hF k hx; omega)⟩
theorem Fr.same {F : List Nat} {w w' : World} (h : Fr F w w') {k : Nat} {o : Obj} (hk : w.heap[k]? = some o) (hn : k ∉ F) : w'.heap[k]? = some o :=
  (h.block k (lt_of_block hk) hn).trans hk
theorem Fr.cell {F : List Nat} {w w' : World} (h : Fr F w w') {p : Addr} {v : Value} (hk : w.cell? p = some v) (hn : p.block ∉ F) : w'.cell? p = some v := by
  rw [World.cell?_of_block (h.block p.block (World.block_lt_of_cell? w _ hk) hn)]; exact hk
theorem Fr.frozen {F : List Nat} {w w' : World} (h : Fr F w w') {p : Addr} (hk : p.block < w.heap.size) (hn : p.block ∉ F) : w'.frozen? p = w.frozen? p :=
  World.frozen?_of_block (h.block p.block hk hn)
theorem fr_setCell (w : World) (a : Addr) (v : Value) : Fr [a.block] w (w.setCell a v) :=
  ⟨rfl, rfl, rfl, by simp [World.setCell], fun k _ hn => Below.heap_setCell _ _ _ _ (by simpa using hn)⟩
theorem fr_grow (w : World) (n : Nat) (os : Array Obj) (F : List Nat) : Fr F w (grow (w.drewN n) os) :=
  ⟨rfl, rfl, rfl, by simp [grow], fun k hk _ => by
    show (w.heap ++ os)[k]? = _
    rw [Array.getElem?_append_left hk]⟩
theorem fr_drewN (w : World) (n : Nat) (F : List Nat) : Fr F w (w.drewN n) := by have := fr_grow w n #[] F; rwa [grow_empty] at this
theorem fr_alloc (w : World) (o : Obj) (F : List Nat) : Fr F w (w.alloc o) := by
  rw [alloc_eq_grow]; exact fr_grow w 0 _ F
theorem fr_grown {w w' : World} {row : Option Nat} (h : w.grownBy w' row) : Fr row.toList w w' :=
  ⟨h.os, h.tape, h.output, h.size, fun k hk hn => h.block k hk (fun e => hn (by rw [← e]; simp))⟩

/-- A row that a call owns is kept where its block is not among those that may change. -/
theorem Fr.row {F : List Nat} {w w' : World} (h : Fr F w w') {base e size n : Nat} {v : Value} {xs : List Value} (ho : w.ownsRow base e size v n xs) (hn : ∀ g, v.ownBlock = some g → g ∉ F) : w'.ownsRow base e size v n xs := by
  refine ⟨ho.1, ?_⟩
  rcases ho.2 with h' | ⟨g, cap, cur, rfl, hb, hh, r⟩
  · exact .inl h'
  · exact .inr ⟨g, cap, cur, rfl, hb, h.same hh (hn g rfl), r⟩

/-- The heap's blocks: the struct's, the body's, the captured variable's; the slices of the elements and of the layout. -/
structure Hp where
  a : Nat
  bb : Nat
  cb : Nat
  ve : Value
  vi : Value

def Hp.foot (h : Hp) : List Nat := [h.a, h.bb, h.cb] ++ h.ve.ownBlock.toList ++ h.vi.ownBlock.toList
/-- What the calls of a layout's functions may change. -/
def Hp.rows (h : Hp) : List Nat := h.ve.ownBlock.toList ++ h.vi.ownBlock.toList

def cmpV (cb : Nat) : Value := .func (.func 221) #[] #[.pointer (some ⟨cb, 0, none⟩)]
def plV (cb : Nat) : Value := .func (.func 223) #[] #[.pointer (some ⟨cb, 0, none⟩)]

/-- What the body holds, without the blocks. -/
structure Bd where
  n : Nat
  K : Nat → Kvn
  X : Nat → Int
  its : List Nat
  W : Nat → Nat
  pushed : Int

/-- The body's own block. -/
structure BlockAt (w : World) (bb cb : Nat) (ve vi : Value) (W : Nat → Nat) (p : Int) : Prop where
  ex : ∃ cur : Array Value, w.heap[bb]? = some (.cells cur 363 (0, 0)) ∧ cur.size = 21 ∧ cur[0]? = some ve ∧ (∀ i, i < 16 → cur[1 + i]? = some (.int .u64 (W i))) ∧
    cur[17]? = some vi ∧ cur[18]? = some (cmpV cb) ∧ cur[19]? = some (plV cb) ∧ cur[20]? = some (.int .u64 p)

/-- The row of the elements. -/
structure ElAt (w : World) (ve : Value) (n : Nat) (K : Nat → Kvn) (X : Nat → Int) : Prop where
  ex : ∃ xs, w.ownsRow 0 356 4 ve n xs ∧ ∀ h, h < n → xs[h * 4]? = some (.int .u64 (K h).key) ∧ xs[h * 4 + 1]? = some (.int .i64 (K h).val) ∧ xs[h * 4 + 2]? = some (.int .u64 (K h).num) ∧ xs[h * 4 + 3]? = some (.int .i64 (X h))

def encN (x : Nat) : Value := .int .i64 (x : Int)

/-- A body in memory. -/
structure BodAt (w : World) (h : Hp) (s : Bd) : Prop where
  ha : w.heap[h.a]? = some (.cells #[.pointer (some ⟨h.bb, 0, none⟩)] 320 (0, 0))
  hc : w.heap[h.cb]? = some (.cells #[.pointer (some ⟨h.bb, 0, none⟩)] 317 (0, 0))
  hb : BlockAt w h.bb h.cb h.ve h.vi s.W s.pushed
  he : ElAt w h.ve s.n s.K s.X
  hi : w.ownsRow 0 3 1 h.vi s.its.length (s.its.map encN)

theorem cells_cell {w : World} {b : Nat} {cur : Array Value} {t : TypeId} {o : Nat} {v : Value} (h : w.heap[b]? = some (.cells cur t (0, 0))) (hv : cur[o]? = some v) : w.cell? ⟨b, o, none⟩ = some v := by simp [World.cell?, h, hv]
theorem cells_free {w : World} {b : Nat} {cur : Array Value} {t : TypeId} (h : w.heap[b]? = some (.cells cur t (0, 0))) (o : Nat) : w.frozen? ⟨b, o, none⟩ = false := by simp [World.frozen?, h]
theorem cells_set {w : World} {b : Nat} {cur : Array Value} {t : TypeId} (h : w.heap[b]? = some (.cells cur t (0, 0))) (o : Nat) (v : Value) : (w.setCell ⟨b, o, none⟩ v).heap[b]? = some (.cells (cur.setIfInBounds o v) t (0, 0)) :=
  heap_setCell_same w b o cur t v h
theorem block_new (w : World) (o : Obj) (b : Nat) (hb : b = w.heap.size) : (w.alloc o).heap[b]? = some o := by subst hb; exact heap_alloc_new w o
theorem cell_new (w : World) (cs : Array Value) (t : TypeId) (b o : Nat) (v : Value) (hb : b = w.heap.size) (hv : cs[o]? = some v) : (w.alloc (.cells cs t)).cell? ⟨b, o, none⟩ = some v := cells_cell (block_new w _ b hb) hv

namespace BodAt
variable {w : World} {h : Hp} {s : Bd}
theorem ne_types {w : World} {b c : Nat} {x y : Array Value} {t u : TypeId} (hb : w.heap[b]? = some (.cells x t (0, 0))) (hc : w.heap[c]? = some (.cells y u (0, 0))) (hn : t ≠ u) : b ≠ c := by
  rintro rfl
  rw [hb] at hc
  simp only [Option.some.injEq, Obj.cells.injEq] at hc
  exact hn hc.2.1
theorem row_ne {w : World} {base e size n : Nat} {v : Value} {xs : List Value} (ho : w.ownsRow base e size v n xs) {c : Nat} {y : Array Value} {u : TypeId} (hc : w.heap[c]? = some (.cells y u (0, 0))) (hn : e ≠ u) : ∀ g, v.ownBlock = some g → g ≠ c := by
  intro g hg
  rcases ho.2 with ⟨rfl, _⟩ | ⟨g', cap, cur, rfl, _, hh, _⟩
  · simp [Value.ownBlock] at hg
  · simp [Value.ownBlock] at hg
    subst hg
    exact ne_types hh hc hn
theorem row_row_ne {w : World} {base e size n base' e' size' n' : Nat} {v v' : Value} {xs xs' : List Value} (ho : w.ownsRow base e size v n xs) (ho' : w.ownsRow base' e' size' v' n' xs') (hn : e ≠ e') : ∀ g g', v.ownBlock = some g → v'.ownBlock = some g' → g ≠ g' := by
  intro g g' hg hg'
  rcases ho'.2 with ⟨rfl, _⟩ | ⟨g2, cap, cur, rfl, _, hh, _⟩
  · simp [Value.ownBlock] at hg'
  · simp [Value.ownBlock] at hg'
    subst hg'
    exact row_ne ho hh hn g hg
theorem lt_foot (b : BodAt w h s) : ∀ k, k ∈ h.foot → k < w.heap.size := by
  intro k hk
  simp only [Hp.foot, List.mem_append, List.mem_cons, List.not_mem_nil, or_false, Option.mem_toList, Option.mem_def] at hk
  obtain ⟨xs, ho, _⟩ := b.he.ex
  obtain ⟨cur, hcur, _⟩ := b.hb.ex
  rcases hk with ((rfl | rfl | rfl) | hk) | hk
  · exact lt_of_block b.ha
  · exact lt_of_block hcur
  · exact lt_of_block b.hc
  · exact (ho.lt k hk).2
  · exact (b.hi.lt k hk).2
/-- A change of other blocks. -/
theorem frame (b : BodAt w h s) {F : List Nat} {w' : World} (hf : Fr F w w') (hn : ∀ k, k ∈ h.foot → k ∉ F) : BodAt w' h s := by
  obtain ⟨xs, ho, hx⟩ := b.he.ex
  obtain ⟨cur, hcur, hr⟩ := b.hb.ex
  refine ⟨hf.same b.ha (hn _ (by simp [Hp.foot])), hf.same b.hc (hn _ (by simp [Hp.foot])), ⟨cur, hf.same hcur (hn _ (by simp [Hp.foot])), hr⟩, ⟨xs, hf.row ho (fun g hg => hn _ (by simp [Hp.foot, hg])), hx⟩, hf.row b.hi (fun g hg => hn _ (by simp [Hp.foot, hg]))⟩
end BodAt
end Go.Proofs.YtcjeckjmoponkaaGreatDoor.Dl
/- Appending to a row that a call owns: the row lies where it lay, or in a new block. -/
namespace Go.Proofs.YtcjeckjmoponkaaGreatDoor.Dl
open Go.RowKit Go.Sort
set_option linter.unusedVariables false
set_option linter.unusedSimpArgs false

theorem ownsRow_mono {w : World} {base base' e size n : Nat} {v : Value} {xs : List Value} (h : w.ownsRow base e size v n xs) (hb : base' ≤ base) : w.ownsRow base' e size v n xs := by
  refine ⟨h.1, ?_⟩
  rcases h.2 with h' | ⟨g, cap, cur, hv, hg, r⟩
  · exact .inl h'
  · exact .inr ⟨g, cap, cur, hv, Nat.le_trans hb hg, r⟩

/-- Where a row lies behind an append. -/
def Near (w : World) (v v' : Value) : Prop := ∀ g, v'.ownBlock = some g → v.ownBlock = some g ∨ w.heap.size ≤ g

theorem wpList_append_row {P : Program} (w : World) {ops : Array Oper} {rest : List Oper} {o : Oper} {a : Act} {Q : Exit → Act → World → Prop}
    (hg : o.guard = none) (s x : Operand) (t : TypeId) (hop : o.op = Op.call { callee := Callee.builtin Builtin.append, args := #[s, x], argTypes := #[t, t] })
    (e : TypeId) (i : TypeInfo) (z : Value) (size bytes : Nat) (h1 : P.underlying t = some (.slice e)) (h2 : P.info? e = some i) (h3 : i.zero = some z) (h4 : i.size = size) (h5 : i.bytes = bytes) (h6 : z.cells.size = size) (h7 : 0 < size)
    (base : Nat) (v : Value) (n : Nat) (xs : List Value) (hs : a.eval s = v) (hown : w.ownsRow base e size v n xs) (hbase : base ≤ w.heap.size)
    (ad : Addr) (m c : Nat) (news : List Value) (hx : a.eval x = .slice (some ad) m c) (hn : news.length = m * size) (hc : ∀ j u, news[j]? = some u → w.cell? (ad.add j) = some u) (h1c : ∀ u ∈ news, u.oneCell' = true)
    (hm : 0 < m) (b1 : n + m ≤ maxLen) (b2 : (n + m) * bytes ≤ 140737488355328)
    (h : ∀ v' w', w'.ownsRow base e size v' (n + m) (xs ++ news) → Fr v.ownBlock.toList w w' → Near w v v' → wpList P ops Q rest (a.put o.dst v') w') :
    wpList P ops Q (o :: rest) a w := by
  rcases hown.2 with ⟨rfl, rfl⟩ | ⟨g, cap, cur, rfl, hbg, hgg, hnc, hcm, hcs, htake⟩
  · have hxs : xs = [] := List.eq_nil_of_length_eq_zero (by simpa using hown.1)
    subst hxs
    refine wpList_append_grows w hg s x t hop e i z size bytes h1 h2 h3 h4 h5 h6 h7 none 0 0 [] hs (fun _ => ⟨rfl, rfl⟩) (by simp) (fun b hb => by cases hb) ad m c news hx hn hc h1c (by omega) b1 b2 ?_
    intro v' w' ho hgr
    exact h v' w' (ownsRow_mono ho hbase) (fr_grown hgr) (fun g hg' => .inr (ho.lt g hg').1)
  · by_cases hroom : n + m ≤ cap
    · refine wpList_append_fits w hg s x t hop base e i size h1 h2 h4 g n cap xs hs hown ad m c news hx hn hc h1c hroom ?_
      intro w' ho hgr
      exact h _ w' ho (fr_grown hgr) (fun g' hg' => .inl hg')
    · have holds := hown.cells (g := g) rfl
      refine wpList_append_grows w hg s x t hop e i z size bytes h1 h2 h3 h4 h5 h6 h7 (some ⟨g, 0, none⟩) n cap xs hs (fun hb => by cases hb) hown.1 (fun b hb => by cases hb; exact holds) ad m c news hx hn hc h1c (by omega) b1 b2 ?_
      intro v' w' ho hgr
      exact h v' w' (ownsRow_mono ho hbase) ((fr_grown hgr).mono (fun _ hx => by simp at hx)) (fun g' hg' => .inr (ho.lt g' hg').1)
end Go.Proofs.YtcjeckjmoponkaaGreatDoor.Dl
/- The comparison of two elements of a heap. -/
namespace Go.Proofs.YtcjeckjmoponkaaGreatDoor.Dl
open Go.RowKit Go.Sort
set_option linter.unusedVariables false
set_option linter.unusedSimpArgs false

def cmpI (a b : Int) : Int := if a < b then -1 else if b < a then 1 else 0
def orI (a b : Int) : Int := if a = 0 then b else a
theorem cmpK_or (K : Nat → Kvn) (x y : Nat) : orI (cmpI (K x).key (K y).key) (cmpI (K x).num (K y).num) = cmpK K x y := by
  unfold orI cmpI cmpK
  repeat' split
  all_goals omega

set_option maxHeartbeats 400000 in
theorem cmpT_any (a b : Int) (w : World) : Calls Tryz.prog 181 #[.int .u64 a, .int .u64 b] w fun e w' => e = .returned (.int .i64 (cmpI a b)) ∧ w' = w := by
  by_cases h1 : a < b
  · have he := Lib.hid (show cmpI a b = -1 by unfold cmpI; rw [if_pos h1])
    go_enter Tryz.func181, Tryz.ntmps181
    go_wp2_with go_in
    go_ret
    exact ⟨by rw [he.out]; rfl, rfl⟩
  · by_cases h2 : b < a
    · have he := Lib.hid (show cmpI a b = 1 by unfold cmpI; rw [if_neg h1, if_pos h2])
      go_enter Tryz.func181, Tryz.ntmps181
      go_wp2_with go_in
      go_ret
      exact ⟨by rw [he.out]; rfl, rfl⟩
    · have he := Lib.hid (show cmpI a b = 0 by unfold cmpI; rw [if_neg h1, if_neg h2])
      go_enter Tryz.func181, Tryz.ntmps181
      go_wp2_with go_in
      go_ret
      exact ⟨by rw [he.out]; rfl, rfl⟩

set_option maxHeartbeats 400000 in
theorem cmpU_any (a b : Int) (w : World) : Calls Tryz.prog 236 #[.int .u64 a, .int .u64 b] w fun e w' => e = .returned (.int .i64 (cmpI a b)) ∧ w' = w := by
  by_cases h1 : a < b
  · have he := Lib.hid (show cmpI a b = -1 by unfold cmpI; rw [if_pos h1])
    go_enter Tryz.func236, Tryz.ntmps236
    go_wp2_with go_in
    go_ret
    exact ⟨by rw [he.out]; rfl, rfl⟩
  · by_cases h2 : b < a
    · have he := Lib.hid (show cmpI a b = 1 by unfold cmpI; rw [if_neg h1, if_pos h2])
      go_enter Tryz.func236, Tryz.ntmps236
      go_wp2_with go_in
      go_ret
      exact ⟨by rw [he.out]; rfl, rfl⟩
    · have he := Lib.hid (show cmpI a b = 0 by unfold cmpI; rw [if_neg h1, if_neg h2])
      go_enter Tryz.func236, Tryz.ntmps236
      go_wp2_with go_in
      go_ret
      exact ⟨by rw [he.out]; rfl, rfl⟩

set_option maxHeartbeats 800000 in
theorem or_any (B cap : Nat) (x y : Int) (w : World) (c0 : w.cell? ⟨B, 0, none⟩ = some (.int .i64 x)) (c1 : w.cell? ⟨B, 1, none⟩ = some (.int .i64 y)) :
    Calls Tryz.prog 180 #[.slice (some ⟨B, 0, none⟩) 2 cap] w fun e w' => e = .returned (.int .i64 (orI x y)) ∧ w' = w := by
  go_enter Tryz.func180, Tryz.ntmps180
  go_wp2_with fail
  go_loop [8] (fun i => ∃ k : Nat, k ≤ 2 ∧ (0 < k → x = 0) ∧ (1 < k → y = 0) ∧ i = .int .i64 k) (fun i => 2 - (intOf i).toNat)
  case atStart => exact ⟨0, by omega, by omega, by omega, rfl⟩
  case round =>
    obtain ⟨k, hk, hx, hy, rfl⟩ := hrel
    rcases (by omega : k = 0 ∨ k = 1 ∨ k = 2) with rfl | rfl | rfl
    · clear hx hy
      by_cases h : x = 0
      · subst h
        go_wp2_with fail
        go_round
        case rel => exact ⟨1, by omega, by simp, by omega, by go_num⟩
        case measure => simp [intOf]
      · have q : (x != 0) = true := by simp [h]
        have he := Lib.hid (show orI x y = x by unfold orI; rw [if_neg h])
        clear h
        go_wp2_with fail
        go_ret
        exact ⟨by rw [he.out]; rfl, rfl⟩
    · obtain rfl := hx (by omega)
      clear hx hy
      by_cases h : y = 0
      · subst h
        go_wp2_with fail
        go_round
        case rel => exact ⟨2, by omega, by simp, by simp, by go_num⟩
        case measure => simp [intOf]
      · have q : (y != 0) = true := by simp [h]
        have he := Lib.hid (show orI 0 y = y by unfold orI; rw [if_pos rfl])
        clear h
        go_wp2_with fail
        go_ret
        exact ⟨by rw [he.out]; rfl, rfl⟩
    · obtain rfl := hx (by omega)
      obtain rfl := hy (by omega)
      go_wp2_with fail
      go_ret
      exact ⟨rfl, rfl⟩

set_option maxHeartbeats 1600000 in
set_option maxRecDepth 100000 in
/-- (element).compare: blocks are made. -/
theorem compare_any (a b : Kvn) (i j : Int) (w : World) :
    Calls Tryz.prog 222 #[.agg #[.int .u64 a.key, .int .i64 a.val, .int .u64 a.num, .int .i64 i], .agg #[.int .u64 b.key, .int .i64 b.val, .int .u64 b.num, .int .i64 j]] w fun e w' =>
      e = .returned (.int .i64 (orI (cmpI a.key b.key) (cmpI a.num b.num))) ∧ ∃ q os, w' = grow (w.drewN q) os := by
  have c54 := fun w => cmpT_any a.key b.key w
  have c55 := fun w => cmpU_any a.num b.num w
  generalize cmpI a.key b.key = r1 at c54 ⊢
  generalize cmpI a.num b.num = r2 at c55 ⊢
  obtain ⟨ak, av, an⟩ := a
  obtain ⟨bk, bv, bn⟩ := b
  have d54 := Lib.hid c54
  have d55 := Lib.hid c55
  clear c54 c55
  go_enter Tryz.func222, Tryz.ntmps222
  go_wp2_with fail
  refine wp_region_still_tail 10 (by kernel_rfl) (by kernel_rfl) ?_
  simp only [List.take_succ_cons, List.take_zero, List.drop_succ_cons, List.drop_zero]
  change wpStill _ _ (World.drew _) (fun a' => wpList _ _ _ _ a' (World.drew _)) _ _
  repeat (first | still_step | still_call (d54.out _) | still_call (d55.out _))
  refine wpStill_nil ?_
  go_wp2_with fail
  refine Calls.mono (or_any _ _ r1 r2 _ ?c0 ?c1) ?_
  case c0 => exact cell_new _ _ _ _ _ _ (by simp) rfl
  case c1 => exact cell_new _ _ _ _ _ _ (by simp) rfl
  rintro e w' ⟨rfl, rfl⟩
  go_wp2_with fail
  go_ret
  exact ⟨rfl, 1, _, by rw [alloc_eq_grow, alloc_eq_grow, alloc_eq_grow, grow_grow, grow_grow]; rfl⟩
end Go.Proofs.YtcjeckjmoponkaaGreatDoor.Dl
/- The two closures over a heap's body: what compares two handles, and what is told where a handle lies. -/
namespace Go.Proofs.YtcjeckjmoponkaaGreatDoor.Dl
open Go.RowKit Go.Sort
open BodAt (row_ne row_row_ne)
set_option linter.unusedVariables false
set_option linter.unusedSimpArgs false

/-- What a body with an element says of its cells. -/
structure Cellsy (w : World) (h : Hp) (s : Bd) (g cap : Nat) : Prop where
  ve : h.ve = .slice (some ⟨g, 0, none⟩) s.n cap
  glt : g < w.heap.size
  blt : h.bb < w.heap.size
  clt : h.cb < w.heap.size
  nle : s.n ≤ 9223372036854775807
  c : w.cell? ⟨h.cb, 0, none⟩ = some (.pointer (some ⟨h.bb, 0, none⟩))
  b0 : w.cell? ⟨h.bb, 0, none⟩ = some (.slice (some ⟨g, 0, none⟩) s.n cap)
  e0 : ∀ x, x < s.n → w.cell? ⟨g, x * 4, none⟩ = some (.int .u64 (s.K x).key)
  e1 : ∀ x, x < s.n → w.cell? ⟨g, x * 4 + 1, none⟩ = some (.int .i64 (s.K x).val)
  e2 : ∀ x, x < s.n → w.cell? ⟨g, x * 4 + 2, none⟩ = some (.int .u64 (s.K x).num)
  e3 : ∀ x, x < s.n → w.cell? ⟨g, x * 4 + 3, none⟩ = some (.int .i64 (s.X x))
  fr : ∀ j, w.frozen? ⟨g, j, none⟩ = false

theorem BodAt.cellsy {w : World} {h : Hp} {s : Bd} (b : BodAt w h s) (hn : 0 < s.n) : ∃ g cap, Cellsy w h s g cap := by
  obtain ⟨xs, ho, hx⟩ := b.he.ex
  obtain ⟨cur, hcur, hs, h0, _⟩ := b.hb.ex
  rcases ho.2 with ⟨_, h1⟩ | ⟨g, cap, cu, hv, _, hg, hnc, hcm, hcs, htake⟩
  · omega
  · have hl : xs.length = s.n * 4 := ho.1
    have cell : ∀ j v, xs[j]? = some v → w.cell? ⟨g, j, none⟩ = some v := fun j v hv => by
      refine cells_cell hg ?_
      rw [← htake, List.getElem?_take] at hv
      split at hv
      · simpa using hv
      · cases hv
    unfold maxLen at hcm
    rw [hv] at h0
    exact ⟨g, cap, hv, lt_of_block hg, lt_of_block hcur, lt_of_block b.hc, by omega, cell_of_one b.hc, cells_cell hcur h0, fun x hxn => cell _ _ (hx x hxn).1, fun x hxn => cell _ _ (hx x hxn).2.1, fun x hxn => cell _ _ (hx x hxn).2.2.1, fun x hxn => cell _ _ (hx x hxn).2.2.2, fun j => cells_free hg j⟩

set_option maxHeartbeats 1600000 in
set_option maxRecDepth 100000 in
theorem cmpC_any {w : World} {h : Hp} {s : Bd} (b : BodAt w h s) (x y : Nat) (hx : x < s.n) (hy : y < s.n) :
    Calls Tryz.prog 221 #[encN x, encN y, .pointer (some ⟨h.cb, 0, none⟩)] w fun e w' => e = .returned (.int .i64 (cmpK s.K x y)) ∧ ∃ q os, w' = grow (w.drewN q) os := by
  obtain ⟨g, cap, C⟩ := b.cellsy (by omega)
  have hc : ∀ m os, (grow (w.drewN m) os).cell? ⟨h.cb, 0, none⟩ = some (.pointer (some ⟨h.bb, 0, none⟩)) := fun m os => cell_grown C.clt C.c m os
  have hb0 : ∀ m os, (grow (w.drewN m) os).cell? ⟨h.bb, 0, none⟩ = some (.slice (some ⟨g, 0, none⟩) s.n cap) := fun m os => cell_grown C.blt C.b0 m os
  have x0 : ∀ m os, (grow (w.drewN m) os).cell? ⟨g, x * 4, none⟩ = some (.int .u64 (s.K x).key) := fun m os => cell_grown C.glt (C.e0 x hx) m os
  have x1 : ∀ m os, (grow (w.drewN m) os).cell? ⟨g, x * 4 + 1, none⟩ = some (.int .i64 (s.K x).val) := fun m os => cell_grown C.glt (C.e1 x hx) m os
  have x2 : ∀ m os, (grow (w.drewN m) os).cell? ⟨g, x * 4 + 2, none⟩ = some (.int .u64 (s.K x).num) := fun m os => cell_grown C.glt (C.e2 x hx) m os
  have x3 : ∀ m os, (grow (w.drewN m) os).cell? ⟨g, x * 4 + 3, none⟩ = some (.int .i64 (s.X x)) := fun m os => cell_grown C.glt (C.e3 x hx) m os
  have y0 : ∀ m os, (grow (w.drewN m) os).cell? ⟨g, y * 4, none⟩ = some (.int .u64 (s.K y).key) := fun m os => cell_grown C.glt (C.e0 y hy) m os
  have y1 : ∀ m os, (grow (w.drewN m) os).cell? ⟨g, y * 4 + 1, none⟩ = some (.int .i64 (s.K y).val) := fun m os => cell_grown C.glt (C.e1 y hy) m os
  have y2 : ∀ m os, (grow (w.drewN m) os).cell? ⟨g, y * 4 + 2, none⟩ = some (.int .u64 (s.K y).num) := fun m os => cell_grown C.glt (C.e2 y hy) m os
  have y3 : ∀ m os, (grow (w.drewN m) os).cell? ⟨g, y * 4 + 3, none⟩ = some (.int .i64 (s.X y)) := fun m os => cell_grown C.glt (C.e3 y hy) m os
  have hn := C.nle
  have hxi : (x : Int) < (s.n : Int) := by omega
  have hyi : (y : Int) < (s.n : Int) := by omega
  have hcmp := Lib.hid (fun w => compare_any (s.K x) (s.K y) (s.X x) (s.X y) w)
  have hE := Lib.hid (cmpK_or s.K x y)
  clear C b
  unfold encN
  have mixed : Tryz.prog.follows .mixedOrders = true := by kernel_rfl
  go_enter Tryz.func221, Tryz.ntmps221
  go_wp2_with fail
  go_quiet_grown ((go_at_call 222; refine Calls.grown_of (hcmp.out _)))
  go_wp2_with fail
  go_ret
  exact ⟨by rw [← hE.out]; rfl, _, _, rfl⟩

theorem foot_rows (h : Hp) : ∀ k, k ∈ h.rows → k ∈ h.foot := by
  intro k hk
  simp only [Hp.rows, Hp.foot, List.mem_append] at *
  rcases hk with hk | hk
  · exact .inl (.inr hk)
  · exact .inr hk

theorem ElAt.ne {w : World} {ve : Value} {n : Nat} {K : Nat → Kvn} {X : Nat → Int} (he : ElAt w ve n K X) {c : Nat} {y : Array Value} {u : TypeId} (hc : w.heap[c]? = some (.cells y u (0, 0))) (hn : 356 ≠ u) : ∀ g, ve.ownBlock = some g → g ≠ c := by
  obtain ⟨xs, ho, _⟩ := he.ex
  exact BodAt.row_ne ho hc hn

/-- The index of an element is written. -/
theorem BodAt.setX {w : World} {h : Hp} {s : Bd} (b : BodAt w h s) {g cap x : Nat} (hv : h.ve = .slice (some ⟨g, 0, none⟩) s.n cap) (hx : x < s.n) (i : Int) :
    BodAt (w.setCell ⟨g, x * 4 + 3, none⟩ (.int .i64 i)) h { s with X := upd s.X x i } ∧ Fr h.rows w (w.setCell ⟨g, x * 4 + 3, none⟩ (.int .i64 i)) := by
  have hg : h.ve.ownBlock = some g := by rw [hv]; rfl
  obtain ⟨xs, ho, hxs⟩ := b.he.ex
  obtain ⟨cur, hcur, hr⟩ := b.hb.ex
  have hfr : Fr [g] w (w.setCell ⟨g, x * 4 + 3, none⟩ (.int .i64 i)) := fr_setCell w ⟨g, x * 4 + 3, none⟩ _
  have na : h.a ≠ g := fun e => row_ne ho b.ha (by decide) g hg e.symm
  have nc : h.cb ≠ g := fun e => row_ne ho b.hc (by decide) g hg e.symm
  have nb : h.bb ≠ g := fun e => row_ne ho hcur (by decide) g hg e.symm
  have ni : ∀ k, h.vi.ownBlock = some k → k ∉ [g] := fun k hk e => row_row_ne ho b.hi (by decide) g k hg hk (by simpa using (List.mem_singleton.1 e).symm)
  refine ⟨⟨hfr.same b.ha (by simpa using na), hfr.same b.hc (by simpa using nc), ⟨cur, hfr.same hcur (by simpa using nb), hr⟩, ?_, hfr.row b.hi ni⟩, hfr.mono (fun k hk => .inl (by simp only [List.mem_cons, List.not_mem_nil, or_false] at hk; subst hk; simp [Hp.rows, hg]))⟩
  rw [hv] at ho
  have hst := (ho.stored (x * 4 + 3) (.int .i64 i)).1
  have hl := ho.1
  refine ⟨_, by rw [hv]; exact hst, fun k hk => ?_⟩
  obtain ⟨e0, e1, e2, e3⟩ := hxs k hk
  refine ⟨by rw [List.getElem?_set_ne (by omega)]; exact e0, by rw [List.getElem?_set_ne (by omega)]; exact e1, by rw [List.getElem?_set_ne (by omega)]; exact e2, ?_⟩
  by_cases e : k = x
  · subst e
    rw [List.getElem?_set_self (by omega)]
    simp [upd]
  · rw [List.getElem?_set_ne (by omega), e3]
    simp [upd, e]

/-- A handle is laid into the layout. -/
theorem BodAt.setI {w : World} {h : Hp} {s : Bd} (b : BodAt w h s) {g cap : Nat} (hv : h.vi = .slice (some ⟨g, 0, none⟩) s.its.length cap) (j x : Nat) :
    BodAt (w.setCell ⟨g, j, none⟩ (encN x)) h { s with its := s.its.set j x } ∧ Fr h.rows w (w.setCell ⟨g, j, none⟩ (encN x)) := by
  have hg : h.vi.ownBlock = some g := by rw [hv]; rfl
  obtain ⟨xs, ho, hxs⟩ := b.he.ex
  obtain ⟨cur, hcur, hr⟩ := b.hb.ex
  have hfr : Fr [g] w (w.setCell ⟨g, j, none⟩ (encN x)) := fr_setCell w ⟨g, j, none⟩ _
  have na : h.a ≠ g := fun e => row_ne b.hi b.ha (by decide) g hg e.symm
  have nc : h.cb ≠ g := fun e => row_ne b.hi b.hc (by decide) g hg e.symm
  have nb : h.bb ≠ g := fun e => row_ne b.hi hcur (by decide) g hg e.symm
  have ni : ∀ k, h.ve.ownBlock = some k → k ∉ [g] := fun k hk e => row_row_ne b.hi ho (by decide) g k hg hk (by simpa using (List.mem_singleton.1 e).symm)
  have hi := b.hi
  rw [hv] at hi
  have hst := (hi.stored j (encN x)).1
  refine ⟨⟨hfr.same b.ha (by simpa using na), hfr.same b.hc (by simpa using nc), ⟨cur, hfr.same hcur (by simpa using nb), hr⟩, ⟨xs, hfr.row ho ni, hxs⟩, ?_⟩, hfr.mono (fun k hk => .inl (by simp only [List.mem_cons, List.not_mem_nil, or_false] at hk; subst hk; simp [Hp.rows, hg]))⟩
  show World.ownsRow _ 0 3 1 h.vi (s.its.set j x).length ((s.its.set j x).map encN)
  rw [hv, List.length_set, List.map_set]
  exact hst

set_option maxHeartbeats 800000 in
theorem plC_any {w : World} {h : Hp} {s : Bd} (b : BodAt w h s) (x : Nat) (i : Int) (hx : x < s.n) :
    Calls Tryz.prog 223 #[encN x, .int .i64 i, .pointer (some ⟨h.cb, 0, none⟩)] w fun e w' => e = .returned (.tuple #[]) ∧ BodAt w' h { s with X := upd s.X x i } ∧ Fr h.rows w w' := by
  obtain ⟨g, cap, C⟩ := b.cellsy (by omega)
  have B := Lib.hid (b.setX C.ve hx i)
  have hc := C.c
  have hb0 := C.b0
  have hn := C.nle
  have hxi : (x : Int) < (s.n : Int) := by omega
  have e3 := C.e3 x hx
  have fr := C.fr (x * 4 + 3)
  clear C b
  unfold encN
  go_enter Tryz.func223, Tryz.ntmps223
  go_wp2_with fail
  go_end0
  exact ⟨rfl, B.out.1, B.out.2⟩
end Go.Proofs.YtcjeckjmoponkaaGreatDoor.Dl
/- The layout's own functions: an item is laid down, the first child found, an item rises or sinks. -/
namespace Go.Proofs.YtcjeckjmoponkaaGreatDoor.Dl
open Go.RowKit Go.Sort
open BodAt (row_ne row_row_ne)
set_option linter.unusedVariables false
set_option linter.unusedSimpArgs false

/-- What a layout with an item says of its cells. -/
structure Celli (w : World) (h : Hp) (s : Bd) (gi ci : Nat) : Prop where
  vi : h.vi = .slice (some ⟨gi, 0, none⟩) s.its.length ci
  nle : s.its.length ≤ 9223372036854775807
  blt : h.bb < w.heap.size
  glt : gi < w.heap.size
  b17 : w.cell? ⟨h.bb, 17, none⟩ = some (.slice (some ⟨gi, 0, none⟩) s.its.length ci)
  b18 : w.cell? ⟨h.bb, 18, none⟩ = some (cmpV h.cb)
  b19 : w.cell? ⟨h.bb, 19, none⟩ = some (plV h.cb)
  e : ∀ j, j < s.its.length → w.cell? ⟨gi, j, none⟩ = some (encN (s.its.getD j 0))
  fr : ∀ j, w.frozen? ⟨gi, j, none⟩ = false

theorem BodAt.celli {w : World} {h : Hp} {s : Bd} (b : BodAt w h s) (hn : 0 < s.its.length) : ∃ g cap, Celli w h s g cap := by
  obtain ⟨cur, hcur, hs, h0, hw, h17, h18, h19, h20⟩ := b.hb.ex
  have hi := b.hi
  rcases hi.2 with ⟨_, h1⟩ | ⟨g, cap, cu, hv, _, hg, hnc, hcm, hcs, htake⟩
  · omega
  · unfold maxLen at hcm
    rw [hv] at h17
    refine ⟨g, cap, hv, by omega, lt_of_block hcur, lt_of_block hg, cells_cell hcur h17, cells_cell hcur h18, cells_cell hcur h19, fun j hj => ?_, fun j => cells_free hg j⟩
    refine cells_cell hg ?_
    have h1 : (s.its.map encN)[j]? = some (encN (s.its.getD j 0)) := by simp [List.getElem?_map, hj]
    rw [← htake, List.getElem?_take] at h1
    split at h1
    · simpa using h1
    · cases h1

/-- One item's place. -/
def Bd.put (s : Bd) (x i : Nat) : Bd := { s with its := s.its.set i x, X := upd s.X x i }

set_option maxHeartbeats 800000 in
theorem put_any {w : World} {h : Hp} {s : Bd} (b : BodAt w h s) (x i : Nat) (hx : x < s.n) (hi : i < s.its.length) :
    Calls Tryz.prog 244 #[.pointer (some ⟨h.bb, 17, none⟩), encN x, encN i] w fun e w' => e = .returned (.tuple #[]) ∧ BodAt w' h (s.put x i) ∧ Fr h.rows w w' := by
  obtain ⟨g, cap, C⟩ := b.celli (by omega)
  obtain ⟨b1, f1⟩ := b.setI C.vi i x
  have hp := Lib.hid (plC_any b1 x i hx)
  have F1 := Lib.hid f1
  have hb17 := C.b17
  have hn := C.nle
  have hii : (i : Int) < (s.its.length : Int) := by omega
  have e := C.e i hi
  have fr := C.fr i
  have c19 : (w.setCell ⟨g, i, none⟩ (encN x)).cell? ⟨h.bb, 19, none⟩ = some (plV h.cb) := by
    obtain ⟨cur, hcur, _, _, _, _, _, h19, _⟩ := b1.hb.ex
    exact cells_cell hcur h19
  clear b1 f1 C b
  unfold encN plV at *
  go_enter Tryz.func244, Tryz.ntmps244
  go_wp2_with fail
  refine hp.out.mono ?_
  rintro e w' ⟨rfl, B, F⟩
  go_wp2_with fail
  go_end0
  exact ⟨rfl, B, F1.out.trans' F⟩

theorem BodAt.grown {w : World} {h : Hp} {s : Bd} (b : BodAt w h s) (n : Nat) (os : Array Obj) : BodAt (grow (w.drewN n) os) h s := b.frame (fr_grow w n os []) (fun _ _ => by simp)

set_option maxHeartbeats 3200000 in
set_option maxRecDepth 100000 in
theorem rise_any {w : World} {h : Hp} {s : Bd} (b : BodAt w h s) (i : Nat) (hi : i < s.its.length) (hn : s.its.Nodup) (hm : ∀ x, x ∈ s.its → x < s.n) (hp : Pre s.K s.its i) (hx : IdxEx s.X s.its i) :
    Calls Tryz.prog 238 #[.pointer (some ⟨h.bb, 17, none⟩), encN i] w fun e w' => ∃ (j : Nat) (L : List Nat) (X : Nat → Int), e = .returned (encN j) ∧ Risen s.K s.its i (s.its.getD i 0) L X j ∧ BodAt w' h { s with its := L, X := X } ∧ Fr h.rows w w' := by
  obtain ⟨g, cap, C⟩ := b.celli (by omega)
  have hS := Lib.hid (Rising.start hi hn hp hx)
  have hm' := Lib.hid hm
  have hb17 := C.b17
  have hnl := C.nle
  have hii : (i : Int) < (s.its.length : Int) := by omega
  have e0 := C.e i hi
  have hvi := Lib.hid C.vi
  have hB := Lib.hid b
  clear C b hn hm hp hx
  unfold encN at *
  generalize hx0 : s.its.getD i 0 = x at *
  have Hx0 := Lib.hid hx0
  clear hx0
  go_enter Tryz.func238, Tryz.ntmps238
  go_wp2_with fail
  go_loopw [1] (fun v wr => ∃ (k : Nat) (M : List Nat) (X : Nat → Int) (L : List Nat), v = .int .i64 k ∧ Rising s.K s.its i x M X k L ∧ BodAt wr h { s with its := M, X := X } ∧ Fr h.rows w wr) (fun v _ => (intOf v).toNat)
  case atStart => exact ⟨i, s.its, s.X, s.its, rfl, hS.out, hB.out, Fr.refl _ _⟩
  case round =>
    obtain ⟨k, M, X, L, rfl, hR, b, hF⟩ := hrel
    have hML : M.length = s.its.length := by rw [hR.hole.1, hR.perm.length_eq]
    have hkl : k < s.its.length := by rw [← hR.perm.length_eq]; exact hR.lt
    have hxn : x < s.n := hm'.out x (by rw [← hR.item]; exact hR.perm.mem_iff.1 (getD_mem _ _ hR.lt))
    have hput := Lib.hid (fun n os => put_any (b.grown n os) x k hxn (by show k < M.length; rw [hML]; exact hkl))
    have hF' := Lib.hid hF
    clear hF
    by_cases hk : 0 < k
    · obtain ⟨p, hp⟩ : ∃ p, p = (k - 1) / 4 := ⟨_, rfl⟩
      have hpk : p < k := by omega
      have hpI : ((k : Int) - 1) / 4 = (p : Int) := by omega
      have hpl : p < M.length := by omega
      have hpn : M.getD p 0 < s.n := hm'.out _ (by rw [hR.hole.2 p (by omega)]; exact hR.perm.mem_iff.1 (getD_mem _ _ (by have := hR.lt; omega)))
      obtain ⟨g2, cap2, C2⟩ := b.celli (by show 0 < M.length; omega)
      have hput2 := Lib.hid (fun n os => put_any (b.grown n os) (M.getD p 0) k hpn (by show k < M.length; rw [hML]; exact hkl))
      have hfg := Lib.hid (fun n os => hF'.out.trans' (fr_grow wr n os h.rows))
      obtain ⟨y, hy⟩ : ∃ y, M.getD p 0 = y := ⟨_, rfl⟩
      obtain ⟨c, hc⟩ : ∃ c, cmpK s.K x y = c := ⟨_, rfl⟩
      have hcmp : Hid (∀ n os, Calls Tryz.prog 221 #[encN x, encN y, .pointer (some ⟨h.cb, 0, none⟩)] (grow (wr.drewN n) os) fun e w' => e = .returned (.int .i64 c) ∧ ∃ q os', w' = grow ((grow (wr.drewN n) os).drewN q) os') :=
        Lib.hid (fun n os => by rw [← hc, ← hy]; exact cmpC_any (b.grown n os) x (M.getD p 0) hxn hpn)
      have cb17 : ∀ m os, (grow (wr.drewN m) os).cell? ⟨h.bb, 17, none⟩ = some (.slice (some ⟨g2, 0, none⟩) M.length cap2) := fun m os => cell_grown C2.blt C2.b17 m os
      have cb18 : ∀ m os, (grow (wr.drewN m) os).cell? ⟨h.bb, 18, none⟩ = some (cmpV h.cb) := fun m os => cell_grown C2.blt C2.b18 m os
      have cp : ∀ m os, (grow (wr.drewN m) os).cell? ⟨g2, p, none⟩ = some (encN y) := fun m os => by rw [← hy]; exact cell_grown C2.glt (C2.e p hpl) m os
      have hpli : (p : Int) < (M.length : Int) := by omega
      have hMn : M.length ≤ 9223372036854775807 := by omega
      have hki : (0 : Int) < (k : Int) := by omega
      have hks : (k : Int) ≤ 9223372036854775807 := by omega
      rw [hy] at hput2
      have HR := Lib.hid hR
      have Hc := Lib.hid hc
      have Hy := Lib.hid hy
      have Hp := Lib.hid hp
      have HML := Lib.hid hML
      have mixed : Tryz.prog.follows .mixedOrders = true := by kernel_rfl
      clear C2 b hR hc hy hML hp
      unfold cmpV encN at *
      by_cases hlt : c < 0
      · go_wp2_with fail
        go_quiet_grown ((go_at_call 221; refine Calls.grown_of (hcmp.out _ _)))
        go_wp2_with fail
        refine (hput2.out _ _).mono ?_
        rintro e w2 ⟨rfl, B2, F2⟩
        go_wp2_with fail
        go_roundw
        case rel =>
          have hst := HR.out.step hk (by rw [← Hp.out, Hy.out]; exact cmpK_neg.1 (by rw [Hc.out]; exact hlt))
          rw [← Hp.out, Hy.out] at hst
          exact ⟨p, M.set k y, upd X y k, mv L k p, rfl, hst, B2, (hfg.out _ _).trans' F2⟩
        case measure => simp [intOf]; omega
      · go_wp2_with fail
        go_quiet_grown ((go_at_call 221; refine Calls.grown_of (hcmp.out _ _)))
        go_wp2_with fail
        refine (hput.out _ _).mono ?_
        rintro e w2 ⟨rfl, B2, F2⟩
        go_wp2_with fail
        go_ret
        exact ⟨k, M.set k x, upd X x k, rfl, HR.out.done (fun _ => by rw [← Hp.out, Hy.out]; exact fun hl => by have := cmpK_neg.2 hl; rw [Hc.out] at this; omega), B2, (hfg.out _ _).trans' F2⟩
    · obtain rfl : k = 0 := by omega
      have hput0 := Lib.hid (put_any b x 0 hxn (by show 0 < M.length; rw [hML]; exact hkl))
      have HR := Lib.hid hR
      clear hput hR b
      unfold encN at *
      go_wp2_with fail
      refine hput0.out.mono ?_
      rintro e w2 ⟨rfl, B2, F2⟩
      go_wp2_with fail
      go_ret
      exact ⟨0, M.set 0 x, upd X x 0, rfl, HR.out.done (fun h => absurd h (by omega)), B2, hF'.out.trans' F2⟩
end Go.Proofs.YtcjeckjmoponkaaGreatDoor.Dl
/- The first child is found; an item sinks; an item settles. -/
namespace Go.Proofs.YtcjeckjmoponkaaGreatDoor.Dl
open Go.RowKit Go.Sort
open BodAt (row_ne row_row_ne)
set_option linter.unusedVariables false
set_option linter.unusedSimpArgs false

theorem grown_trans (w : World) (n m : Nat) (os os' : Array Obj) : grow ((grow (w.drewN n) os).drewN m) os' = grow (w.drewN (n + m)) (os ++ os') := by
  show grow (grow ((w.drewN n).drewN m) os) os' = _
  rw [grow_grow, World.drewN_drewN]

set_option maxHeartbeats 3200000 in
set_option maxRecDepth 100000 in
theorem firstChild_any {w : World} {h : Hp} {s : Bd} (b : BodAt w h s) (i : Nat) (hi : 4 * i + 1 < s.its.length) (hbig : s.its.length ≤ 2000) (hm : ∀ x, x ∈ s.its → x < s.n) :
    Calls Tryz.prog 246 #[.pointer (some ⟨h.bb, 17, none⟩), encN i] w fun e w' => ∃ c : Nat, e = .returned (encN c) ∧ First s.K s.its i c ∧ ∃ n os, w' = grow (w.drewN n) os := by
  obtain ⟨g, cap, C⟩ := b.celli (by omega)
  have hm' := Lib.hid hm
  have hB := Lib.hid b
  have HC := Lib.hid C
  have hnl := C.nle
  have hil : (4 : Int) * (i : Int) + 1 < (s.its.length : Int) := by omega
  have cb17 : ∀ m os, (grow (w.drewN m) os).cell? ⟨h.bb, 17, none⟩ = some (.slice (some ⟨g, 0, none⟩) s.its.length cap) := fun m os => cell_grown C.blt C.b17 m os
  have cb18 : ∀ m os, (grow (w.drewN m) os).cell? ⟨h.bb, 18, none⟩ = some (cmpV h.cb) := fun m os => cell_grown C.blt C.b18 m os
  have mixed : Tryz.prog.follows .mixedOrders = true := by kernel_rfl
  clear C b hm
  unfold encN cmpV at *
  go_enter Tryz.func246, Tryz.ntmps246
  go_wp2_with fail
  go_loopw [5, 6] (fun f c wr => ∃ (n : Nat) (os : Array Obj) (a k : Nat), wr = grow (w.drewN n) os ∧ f = .int .i64 a ∧ c = .int .i64 k ∧ 4 * i + 1 ≤ a ∧ a < k ∧ k ≤ 4 * i + 5 ∧ k ≤ s.its.length ∧ ∀ j, 4 * i + 1 ≤ j → j < k → ¬ ltK s.K (s.its.getD j 0) (s.its.getD a 0)) (fun _ c _ => s.its.length - (intOf c).toNat)
  case atStart => exact ⟨0, #[], 4 * i + 1, 4 * i + 2, by rw [grow_empty]; rfl, by go_num, by go_num, by omega, by omega, by omega, by omega, fun j h1 h2 => by rw [show j = 4 * i + 1 by omega]; exact ltK_irrefl _ _⟩
  case round =>
    obtain ⟨n, os, a, k, rfl, rfl, rfl, ha, hak, hk5, hkl, hmin⟩ := hrel
    have Hmin := Lib.hid hmin
    clear hmin
    by_cases hk : k < 4 * i + 5 ∧ k < s.its.length
    · obtain ⟨hka, hkb⟩ := hk
      obtain ⟨x, hx⟩ : ∃ x, s.its.getD k 0 = x := ⟨_, rfl⟩
      obtain ⟨y, hy⟩ : ∃ y, s.its.getD a 0 = y := ⟨_, rfl⟩
      obtain ⟨c, hc⟩ : ∃ c, cmpK s.K x y = c := ⟨_, rfl⟩
      have hxn : x < s.n := hm'.out x (by rw [← hx]; exact getD_mem _ _ hkb)
      have hyn : y < s.n := hm'.out y (by rw [← hy]; exact getD_mem _ _ (by omega))
      have hcmp : Hid (∀ m os', Calls Tryz.prog 221 #[.int .i64 x, .int .i64 y, .pointer (some ⟨h.cb, 0, none⟩)] (grow ((grow (w.drewN n) os).drewN m) os') fun e w' => e = .returned (.int .i64 c) ∧ ∃ q os'', w' = grow ((grow ((grow (w.drewN n) os).drewN m) os').drewN q) os'') :=
        Lib.hid (fun m os' => by rw [← hc]; exact cmpC_any ((hB.out.grown n os).grown m os') x y hxn hyn)
      have ck : ∀ m os', (grow ((grow (w.drewN n) os).drewN m) os').cell? ⟨g, k, none⟩ = some (.int .i64 x) := fun m os' => by rw [grown_trans, ← hx]; exact cell_grown HC.out.glt (HC.out.e k hkb) _ _
      have ca : ∀ m os', (grow ((grow (w.drewN n) os).drewN m) os').cell? ⟨g, a, none⟩ = some (.int .i64 y) := fun m os' => by rw [grown_trans, ← hy]; exact cell_grown HC.out.glt (HC.out.e a (by omega)) _ _
      have cb17' : ∀ m os', (grow ((grow (w.drewN n) os).drewN m) os').cell? ⟨h.bb, 17, none⟩ = some (.slice (some ⟨g, 0, none⟩) s.its.length cap) := fun m os' => by rw [grown_trans]; exact cb17 _ _
      have cb18' : ∀ m os', (grow ((grow (w.drewN n) os).drewN m) os').cell? ⟨h.bb, 18, none⟩ = some (.func (.func 221) #[] #[.pointer (some ⟨h.cb, 0, none⟩)]) := fun m os' => by rw [grown_trans]; exact cb18 _ _
      have hki : (k : Int) < (s.its.length : Int) := by omega
      have hai : (a : Int) < (s.its.length : Int) := by omega
      have Hx := Lib.hid hx
      have Hy := Lib.hid hy
      have Hc := Lib.hid hc
      clear hx hy hc
      by_cases hmm : 4 * i + 5 ≤ s.its.length
      all_goals by_cases hlt : c < 0
      all_goals
        go_wp2_with fail
        go_quiet_grown ((go_at_call 221; refine Calls.grown_of (hcmp.out _ _)))
        go_wp2_with fail
        go_roundw
        case measure => simp [intOf]; omega
        case rel =>
          first
            | exact ⟨_, _, k, k + 1, grown_trans _ _ _ _ _, rfl, by go_num, by omega, by omega, by omega, by omega, fun j h1 h2 => by
                have hl := cmpK_neg.1 (by rw [Hc.out]; exact hlt)
                rw [Hx.out]
                by_cases e : j = k
                · rw [e, Hx.out]; exact ltK_irrefl _ _
                · have := Hmin.out j h1 (by omega)
                  rw [Hy.out] at this
                  exact nlt_trans this (ltK_asymm hl)⟩
            | exact ⟨_, _, a, k + 1, grown_trans _ _ _ _ _, rfl, by go_num, by omega, by omega, by omega, by omega, fun j h1 h2 => by
                by_cases e : j = k
                · rw [e, Hx.out, Hy.out]; exact fun hl => by have := cmpK_neg.2 hl; rw [Hc.out] at this; omega
                · exact Hmin.out j h1 (by omega)⟩
    · have hend : First s.K s.its i a := ⟨by omega, by omega, by omega, fun j j0 hj hji => Hmin.out j (by omega) (by omega)⟩
      have HE := Lib.hid hend
      clear hend
      by_cases hmm : 4 * i + 5 ≤ s.its.length
      · obtain rfl : k = 4 * i + 5 := by omega
        clear hk
        go_wp2_with fail
        go_ret
        exact ⟨a, rfl, HE.out, _, _, rfl⟩
      · obtain rfl : k = s.its.length := by omega
        clear hk
        go_wp2_with fail
        go_ret
        exact ⟨a, rfl, HE.out, _, _, rfl⟩
end Go.Proofs.YtcjeckjmoponkaaGreatDoor.Dl
/- An item sinks; an item settles. -/
namespace Go.Proofs.YtcjeckjmoponkaaGreatDoor.Dl
open Go.RowKit Go.Sort
open BodAt (row_ne row_row_ne)
set_option linter.unusedVariables false
set_option linter.unusedSimpArgs false

set_option maxHeartbeats 3200000 in
set_option maxRecDepth 100000 in
theorem sink_any {w : World} {h : Hp} {s : Bd} (b : BodAt w h s) (i : Nat) (hi : i < s.its.length) (hbig : s.its.length ≤ 2000) (hn : s.its.Nodup) (hm : ∀ x, x ∈ s.its → x < s.n) (hp : Pre s.K s.its i) (hu : Up s.K s.its i) (hx : IdxEx s.X s.its i) :
    Calls Tryz.prog 245 #[.pointer (some ⟨h.bb, 17, none⟩), encN i] w fun e w' => ∃ (L : List Nat) (X : Nat → Int), e = .returned (.tuple #[]) ∧ Settled s.K s.its L X ∧ BodAt w' h { s with its := L, X := X } ∧ Fr h.rows w w' := by
  obtain ⟨g, cap, C⟩ := b.celli (by omega)
  have hS := Lib.hid (Sinking.start hi hn hp hu hx)
  have hm' := Lib.hid hm
  have hb17 := C.b17
  have hnl := C.nle
  have hii : (i : Int) < (s.its.length : Int) := by omega
  have e0 := C.e i hi
  have hB := Lib.hid b
  have mixed : Tryz.prog.follows .mixedOrders = true := by kernel_rfl
  clear C b hn hm hp hx hu
  unfold encN at *
  generalize hx0 : s.its.getD i 0 = x at *
  have Hx0 := Lib.hid hx0
  clear hx0
  go_enter Tryz.func245, Tryz.ntmps245
  go_wp2_with fail
  go_loopw [1] (fun v wr => ∃ (k : Nat) (M : List Nat) (X : Nat → Int) (L : List Nat), v = .int .i64 k ∧ Sinking s.K s.its x M X k L ∧ (∀ y, y ∈ M → y < s.n) ∧ BodAt wr h { s with its := M, X := X } ∧ Fr h.rows w wr) (fun v _ => s.its.length - (intOf v).toNat)
  case atStart => exact ⟨i, s.its, s.X, s.its, rfl, hS.out, hm'.out, hB.out, Fr.refl _ _⟩
  case round =>
    obtain ⟨k, M, X, L, rfl, hR, hMm, b, hF⟩ := hrel
    have HMm := Lib.hid hMm
    clear hMm
    have hML : M.length = s.its.length := by rw [hR.hole.1, hR.perm.length_eq]
    have hkl : k < s.its.length := by rw [← hR.perm.length_eq]; exact hR.lt
    have hxn : x < s.n := hm'.out x (by rw [← hR.item]; exact hR.perm.mem_iff.1 (getD_mem _ _ hR.lt))
    obtain ⟨g2, cap2, C2⟩ := b.celli (by show 0 < M.length; omega)
    have hput := Lib.hid (fun n os => put_any (b.grown n os) x k hxn (by show k < M.length; rw [hML]; exact hkl))
    have hF' := Lib.hid hF
    have b17 : wr.cell? ⟨h.bb, 17, none⟩ = some (.slice (some ⟨g2, 0, none⟩) M.length cap2) := C2.b17
    have hMi : M.length ≤ 2000 := by omega
    clear hF
    by_cases hk : 4 * k + 1 < M.length
    · have hki : (4 : Int) * (k : Int) + 1 < (M.length : Int) := by omega
      have hfirst := Lib.hid (firstChild_any b k hk (by show M.length ≤ 2000; omega) HMm.out)
      have HB := Lib.hid b
      have HR := Lib.hid hR
      have HC2 := Lib.hid C2
      have HML := Lib.hid hML
      clear C2 b hR hML
      unfold encN at *
      go_wp2_with fail
      refine hfirst.out.mono ?_
      rintro e w1 ⟨c, rfl, hFi, n1, os1, rfl⟩
      have hcl : c < M.length := hFi.lt
      have hck : k < c := by have := hFi.par; have := hFi.pos; omega
      have HFi := Lib.hid hFi
      clear hFi
      obtain ⟨y, hy⟩ : ∃ y, M.getD c 0 = y := ⟨_, rfl⟩
      obtain ⟨q, hq⟩ : ∃ q, cmpK s.K x y = q := ⟨_, rfl⟩
      have hyn : y < s.n := HMm.out y (by rw [← hy]; exact getD_mem _ _ hcl)
      have hcmp : Hid (∀ m os', Calls Tryz.prog 221 #[.int .i64 x, .int .i64 y, .pointer (some ⟨h.cb, 0, none⟩)] (grow ((grow (wr.drewN n1) os1).drewN m) os') fun e w' => e = .returned (.int .i64 q) ∧ ∃ q' os'', w' = grow ((grow ((grow (wr.drewN n1) os1).drewN m) os').drewN q') os'') :=
        Lib.hid (fun m os' => by rw [← hq]; exact cmpC_any ((HB.out.grown n1 os1).grown m os') x y hxn hyn)
      have hput2 := Lib.hid (fun m os' => put_any ((HB.out.grown n1 os1).grown m os') y k hyn (by show k < M.length; rw [HML.out]; exact hkl))
      have hput1 := Lib.hid (fun m os' => put_any ((HB.out.grown n1 os1).grown m os') x k hxn (by show k < M.length; rw [HML.out]; exact hkl))
      have hfg := Lib.hid (fun m os' => (hF'.out.trans' (fr_grow wr n1 os1 h.rows)).trans' (fr_grow (grow (wr.drewN n1) os1) m os' h.rows))
      have cc : ∀ m os', (grow ((grow (wr.drewN n1) os1).drewN m) os').cell? ⟨g2, c, none⟩ = some (.int .i64 y) := fun m os' => by rw [grown_trans, ← hy]; exact cell_grown HC2.out.glt (HC2.out.e c hcl) _ _
      have cb17 : ∀ m os', (grow ((grow (wr.drewN n1) os1).drewN m) os').cell? ⟨h.bb, 17, none⟩ = some (.slice (some ⟨g2, 0, none⟩) M.length cap2) := fun m os' => by rw [grown_trans]; exact cell_grown HC2.out.blt HC2.out.b17 _ _
      have cb18 : ∀ m os', (grow ((grow (wr.drewN n1) os1).drewN m) os').cell? ⟨h.bb, 18, none⟩ = some (.func (.func 221) #[] #[.pointer (some ⟨h.cb, 0, none⟩)]) := fun m os' => by rw [grown_trans]; exact cell_grown HC2.out.blt HC2.out.b18 _ _
      have hci : (c : Int) < (M.length : Int) := by omega
      have Hy := Lib.hid hy
      have Hq := Lib.hid hq
      clear hy hq
      unfold encN at *
      by_cases hlt : q ≤ 0
      · go_wp2_with fail
        go_quiet_grown ((go_at_call 221; refine Calls.grown_of (hcmp.out _ _)))
        go_wp2_with fail
        refine (hput1.out _ _).mono ?_
        rintro e w2 ⟨rfl, B2, F2⟩
        go_wp2_with fail
        go_end0
        exact ⟨M.set k x, upd X x k, rfl, HR.out.done (.inr ⟨c, HFi.out, by rw [Hy.out]; exact fun hl => by have := cmpK_pos.2 hl; rw [Hq.out] at this; omega⟩), B2, (hfg.out _ _).trans' F2⟩
      · go_wp2_with fail
        go_quiet_grown ((go_at_call 221; refine Calls.grown_of (hcmp.out _ _)))
        go_wp2_with fail
        refine (hput2.out _ _).mono ?_
        rintro e w2 ⟨rfl, B2, F2⟩
        go_wp2_with fail
        go_roundw
        case rel =>
          have hst := HR.out.step HFi.out (by rw [Hy.out]; exact cmpK_pos.1 (by rw [Hq.out]; omega))
          rw [Hy.out] at hst
          exact ⟨c, M.set k y, upd X y k, mv L k c, rfl, hst, fun z hz => by
            rcases List.mem_or_eq_of_mem_set hz with h1 | h1
            · exact HMm.out z h1
            · rw [h1]; exact hyn, B2, (hfg.out _ _).trans' F2⟩
        case measure => have := HML.out; simp [intOf]; omega
    · have HR := Lib.hid (hR.done (.inl (by omega)))
      have hki : (M.length : Int) ≤ (4 : Int) * (k : Int) + 1 := by omega
      have hput0 := Lib.hid (put_any b x k hxn (by show k < M.length; rw [hML]; exact hkl))
      clear hput hR b C2 hML
      unfold encN at *
      go_wp2_with fail
      refine hput0.out.mono ?_
      rintro e w2 ⟨rfl, B2, F2⟩
      go_wp2_with fail
      go_end0
      exact ⟨M.set k x, upd X x k, rfl, HR.out, B2, hF'.out.trans' F2⟩

set_option maxHeartbeats 800000 in
theorem settle_any {w : World} {h : Hp} {s : Bd} (b : BodAt w h s) (i : Nat) (hi : i < s.its.length) (hbig : s.its.length ≤ 2000) (hn : s.its.Nodup) (hm : ∀ x, x ∈ s.its → x < s.n) (hp : Pre s.K s.its i) (hx : IdxEx s.X s.its i) :
    Calls Tryz.prog 241 #[.pointer (some ⟨h.bb, 17, none⟩), encN i] w fun e w' => ∃ (L : List Nat) (X : Nat → Int), e = .returned (.tuple #[]) ∧ Settled s.K s.its L X ∧ BodAt w' h { s with its := L, X := X } ∧ Fr h.rows w w' := by
  have hr := Lib.hid (rise_any b i hi hn hm hp hx)
  have Hm := Lib.hid hm
  clear b hn hm hp hx
  unfold encN at *
  go_enter Tryz.func241, Tryz.ntmps241
  go_wp2_with fail
  refine hr.out.mono ?_
  rintro e w1 ⟨j, L, X, rfl, hR, B1, F1⟩
  have hs := sink_any B1 j hR.lt (by show L.length ≤ 2000; rw [hR.perm.length_eq]; omega) hR.nodup (fun x hx => Hm.out x (hR.perm.mem_iff.1 hx)) hR.pre hR.up (hR.idx.ex j)
  have HR := Lib.hid hR
  have HF := Lib.hid F1
  clear hR F1 B1
  unfold encN at *
  go_wp2_with fail
  refine hs.mono ?_
  rintro e w2 ⟨L2, X2, rfl, hS, B2, F2⟩
  go_wp2_with fail
  go_end0
  exact ⟨L2, X2, rfl, hS.trans HR.out.perm, B2, HF.out.trans' F2⟩
end Go.Proofs.YtcjeckjmoponkaaGreatDoor.Dl
/- The set of numbers: has, flip, lowestOut. -/
namespace Go.Proofs.YtcjeckjmoponkaaGreatDoor.Dl
open Go.RowKit Go.Sort
set_option linter.unusedVariables false
set_option linter.unusedSimpArgs false

/-- Is the number h in the set? -/
def bitOf (W : Nat → Nat) (h : Nat) : Bool := (W (h / 64)).testBit (h % 64)

theorem BlockAt.word {w : World} {bb cb : Nat} {ve vi : Value} {W : Nat → Nat} {p : Int} (b : BlockAt w bb cb ve vi W p) (i : Nat) (hi : i < 16) : w.cell? ⟨bb, 1 + i, none⟩ = some (.int .u64 (W i)) := by
  obtain ⟨cur, hcur, _, _, hw, _⟩ := b.ex
  exact cells_cell hcur (hw i hi)

set_option maxHeartbeats 800000 in
theorem has_low (n : Int) (p : Value) (w : World) (hn : n < 0) :
    Calls Tryz.prog 239 #[p, .int .i64 n] w fun e w' => e = .returned (.bool false) ∧ w = w' := by
  have h1 : decide ((0 : Int) ≤ n) = false := by simp; omega
  go_enter Tryz.func239, Tryz.ntmps239
  go_wp2_with fail
  go_ret
  exact ⟨rfl, rfl⟩
set_option maxHeartbeats 800000 in
theorem has_high (n : Int) (p : Value) (w : World) (hn : 1024 ≤ n) :
    Calls Tryz.prog 239 #[p, .int .i64 n] w fun e w' => e = .returned (.bool false) ∧ w = w' := by
  go_enter Tryz.func239, Tryz.ntmps239
  go_wp2_with fail
  go_ret
  exact ⟨rfl, rfl⟩
theorem bits_has (W j : Nat) (hW : W < 18446744073709551616) : (bits BinOp.and IntKind.u64 ((W : Int) / 2 ^ j) 1 == 1) = W.testBit j := by
  have e : ((W : Int) / 2 ^ j) = ((W / 2 ^ j : Nat) : Int) := by simp
  have hl : W / 2 ^ j < 18446744073709551616 := Nat.lt_of_le_of_lt (Nat.div_le_self _ _) hW
  rw [e, show (1 : Int) = ((1 : Nat) : Int) from rfl, bits_and_u64_nat _ 1 hl (by omega), Nat.and_one_is_mod, Nat.testBit_eq_decide_div_mod_eq]
  rw [Bool.eq_iff_iff]
  simp only [beq_iff_eq, decide_eq_true_eq]
  omega

set_option maxHeartbeats 800000 in
theorem has_in {w : World} {bb cb : Nat} {ve vi : Value} {W : Nat → Nat} {p : Int} (b : BlockAt w bb cb ve vi W p) (k : Nat) (hk : k < 1024) (hW : W (k / 64) < 18446744073709551616) :
    Calls Tryz.prog 239 #[.pointer (some ⟨bb, 1, none⟩), .int .i64 k] w fun e w' => e = .returned (.bool (bitOf W k)) ∧ w = w' := by
  have hc := b.word (k / 64) (by omega)
  have hk1 : (k : Int) < 1024 := by omega
  have hk0 : (0 : Int) ≤ (k : Int) := by omega
  have hq : (k : Int) / 64 < 16 := by omega
  clear b
  go_enter Tryz.func239, Tryz.ntmps239
  go_wp2_with fail
  have hb := bits_has (W (k / 64)) (k % 64) hW
  exact bodyPost_ret (results_tmp rfl _ _ _) rfl ⟨by unfold bitOf; rw [← hb]; rfl, rfl⟩

/-- The set with the number k turned. -/
def flipW (W : Nat → Nat) (k : Nat) : Nat → Nat := upd W (k / 64) (W (k / 64) ^^^ 2 ^ (k % 64))
theorem bitOf_flip (W : Nat → Nat) (k h : Nat) : bitOf (flipW W k) h = if h = k then !bitOf W k else bitOf W h := by
  unfold bitOf flipW upd
  by_cases e : h / 64 = k / 64
  · rw [if_pos e, Nat.testBit_xor, Nat.testBit_two_pow]
    by_cases e2 : h = k
    · subst e2; simp
    · have : ¬ k % 64 = h % 64 := by omega
      rw [if_neg e2, e]
      simp [this]
  · have : h ≠ k := by rintro rfl; exact e rfl
    rw [if_neg e, if_neg this]
theorem flipW_lt (W : Nat → Nat) (k : Nat) (hW : ∀ i, i < 16 → W i < 18446744073709551616) (hk : k < 1024) : ∀ i, i < 16 → flipW W k i < 18446744073709551616 := by
  intro i hi
  unfold flipW upd
  split
  · have h1 : W (k / 64) < 2 ^ 64 := hW _ (by omega)
    have h2 : 2 ^ (k % 64) < 2 ^ 64 := Nat.pow_lt_pow_right (by omega) (by omega)
    exact Nat.xor_lt_two_pow h1 h2
  · exact hW i hi

theorem flip_bits (W j : Nat) (hW : W < 18446744073709551616) (hj : j < 64) : bits BinOp.xor IntKind.u64 (W : Int) (IntKind.u64.wrap (2 ^ j)) = ((W ^^^ 2 ^ j : Nat) : Int) := by
  have h2 : 2 ^ j < 2 ^ 64 := Nat.pow_lt_pow_right (by omega) (by omega)
  have e : IntKind.u64.wrap (2 ^ j) = ((2 ^ j : Nat) : Int) := by
    rw [IntKind.wrap_u64, show ((2 : Int) ^ j) = ((2 ^ j : Nat) : Int) by simp]
    generalize 2 ^ j = q at h2 ⊢
    omega
  rw [e, bits_xor_u64_nat W _ hW (by omega)]

/-- A word of the body's own block is written. -/
theorem BlockAt.setW {w : World} {bb cb : Nat} {ve vi : Value} {W : Nat → Nat} {p : Int} (b : BlockAt w bb cb ve vi W p) (i x : Nat) (hi : i < 16) : BlockAt (w.setCell ⟨bb, 1 + i, none⟩ (.int .u64 x)) bb cb ve vi (upd W i x) p := by
  obtain ⟨cur, hcur, hs, h0, hw, h17, h18, h19, h20⟩ := b.ex
  refine ⟨_, cells_set hcur (1 + i) _, by simpa using hs, ?_, ?_, ?_, ?_, ?_, ?_⟩
  · rw [Array.getElem?_setIfInBounds_ne (by omega)]; exact h0
  · intro j hj
    unfold upd
    by_cases e : j = i
    · subst e; rw [Array.getElem?_setIfInBounds_self_of_lt (by omega)]; simp
    · rw [Array.getElem?_setIfInBounds_ne (by omega), if_neg e]; exact hw j hj
  all_goals (rw [Array.getElem?_setIfInBounds_ne (by omega)]; assumption)

/-- The body's own block is written. -/
theorem BodAt.block {w : World} {h : Hp} {s : Bd} (b : BodAt w h s) (o : Nat) (v : Value) {ve vi : Value} {W : Nat → Nat} {p : Int} (hb : BlockAt (w.setCell ⟨h.bb, o, none⟩ v) h.bb h.cb ve vi W p)
    (he : ElAt w ve s.n s.K s.X) (hi : w.ownsRow 0 3 1 vi s.its.length (s.its.map encN)) :
    BodAt (w.setCell ⟨h.bb, o, none⟩ v) { h with ve := ve, vi := vi } { s with W := W, pushed := p } ∧ Fr [h.bb] w (w.setCell ⟨h.bb, o, none⟩ v) := by
  obtain ⟨cur, hcur, _⟩ := b.hb.ex
  obtain ⟨xs, ho, hx⟩ := he.ex
  have hf : Fr [h.bb] w (w.setCell ⟨h.bb, o, none⟩ v) := fr_setCell w ⟨h.bb, o, none⟩ v
  have na : h.a ∉ [h.bb] := by simpa using BodAt.ne_types b.ha hcur (by decide)
  have nc : h.cb ∉ [h.bb] := by simpa using BodAt.ne_types b.hc hcur (by decide)
  exact ⟨⟨hf.same b.ha na, hf.same b.hc nc, hb, ⟨xs, hf.row ho (fun g hg => by simpa using BodAt.row_ne ho hcur (by decide) g hg), hx⟩, hf.row hi (fun g hg => by simpa using BodAt.row_ne hi hcur (by decide) g hg)⟩, hf⟩

set_option maxHeartbeats 800000 in
theorem flip_any {w : World} {h : Hp} {s : Bd} (b : BodAt w h s) (k : Nat) (hk : k < 1024) (hW : s.W (k / 64) < 18446744073709551616) :
    Calls Tryz.prog 226 #[.pointer (some ⟨h.bb, 1, none⟩), .int .i64 k] w fun e w' => e = .returned (.tuple #[]) ∧ BodAt w' h { s with W := flipW s.W k } ∧ Fr [h.bb] w w' := by
  have hc := b.hb.word (k / 64) (by omega)
  have hk1 : (k : Int) < 1024 := by omega
  have hk0 : (0 : Int) ≤ (k : Int) := by omega
  have hq : (k : Int) / 64 < 16 := by omega
  have hf : w.frozen? ⟨h.bb, 1 + k / 64, none⟩ = false := by obtain ⟨cur, hcur, _⟩ := b.hb.ex; exact cells_free hcur _
  have hfin := Lib.hid (b.block (1 + k / 64) (.int .u64 ((s.W (k / 64) ^^^ 2 ^ (k % 64) : Nat) : Int)) (b.hb.setW (k / 64) _ (by omega)) b.he b.hi)
  have hbits := Lib.hid (flip_bits (s.W (k / 64)) (k % 64) hW (by omega))
  clear b
  go_enter Tryz.func226, Tryz.ntmps226
  go_wp2_with fail
  go_region
  rw [hbits.out]
  go_end0
  exact ⟨rfl, hfin.out.1.frame (fr_drewN _ 1 []) (fun _ _ => by simp), hfin.out.2.trans (fr_drewN _ 1 []) (fun _ hx => by simp at hx)⟩

/-! ### lowestOut -/

/-- The library's table. -/
def Tab (w : World) : Prop := ∀ j, j < 64 → w.cell? ⟨1, j, none⟩ = some (.int .u8 (Lib.deBruijn64tab.getD j 0))
theorem Tab.lt {w : World} (h : Tab w) : 1 < w.heap.size := World.block_lt_of_cell? w _ (h 0 (by omega))
theorem Tab.fr {F : List Nat} {w w' : World} (h : Tab w) (hf : Fr F w w') (hn : 1 ∉ F) : Tab w' := fun j hj => hf.cell (h j hj) hn
theorem Tab.below {B : Nat} {w w' : World} (h : Tab w) (hb : Below B w w') (hB : 1 < B) : Tab w' := fun j hj => (hb.cell (p := ⟨1, j, none⟩) hB).trans (h j hj)
theorem Tab.drewN {w : World} (h : Tab w) (n : Nat) : Tab (w.drewN n) := h.fr (fr_drewN w n []) (by simp)

theorem tz64_key (x a : Nat) (hx : x < 18446744073709551616) (hx0 : x ≠ 0) (hlow : x &&& (18446744073709551616 - x) = a) :
    IntKind.u64.wrap (bits BinOp.and IntKind.u64 (x : Int) (IntKind.u64.wrap (-(x : Int))) * 285870213051353865) / 288230376151711744 = ((a * 285870213051353865 % 18446744073709551616 / 288230376151711744 : Nat) : Int) := by
  have e1 : IntKind.u64.wrap (-(x : Int)) = ((18446744073709551616 - x : Nat) : Int) := by rw [IntKind.wrap_u64]; omega
  rw [e1, bits_and_u64_nat x _ hx (by omega), hlow, IntKind.wrap_u64]
  omega

set_option maxHeartbeats 1000000 in
theorem tz64_core (x k idx : Nat) (w : World) (hx0 : ((x : Int) == 0) = false)
    (key : IntKind.u64.wrap (bits BinOp.and IntKind.u64 (x : Int) (IntKind.u64.wrap (-(x : Int))) * 285870213051353865) / 288230376151711744 = (idx : Int))
    (hi : idx < 64) (hk : k < 64) (hcell : w.cell? ⟨1, idx, none⟩ = some (.int .u8 k)) :
    Calls Tryz.prog 237 #[.int .u64 x] w fun e w' => e = .returned (.int .i64 k) ∧ w' = w := by
  go_enter Tryz.func237, Tryz.ntmps237
  go_wp2_with (simp only [key])
  go_ret
  exact ⟨rfl, rfl⟩
set_option maxHeartbeats 1000000 in
theorem tz64_zero (w : World) : Calls Tryz.prog 237 #[.int .u64 0] w fun e w' => e = .returned (.int .i64 64) ∧ w' = w := by
  go_enter Tryz.func237, Tryz.ntmps237
  go_wp2_with fail
  go_ret
  exact ⟨rfl, rfl⟩
theorem tz64_any (x : Nat) (hx : x < 18446744073709551616) (w : World) (hT : Tab w) :
    Calls Tryz.prog 237 #[.int .u64 x] w fun e w' => e = .returned (.int .i64 (Lib.ctz 64 x)) ∧ w' = w := by
  by_cases hx0 : x = 0
  · subst hx0
    exact tz64_zero w
  · obtain ⟨hlow, hk⟩ := Lib.lowest_bit 64 x hx0 hx
    obtain ⟨hi, htab⟩ := Lib.deBruijn64_at _ hk
    have hcell := hT _ hi
    rw [htab] at hcell
    exact tz64_core x _ _ w (by simp; omega) (tz64_key x _ hx hx0 hlow) hi hk hcell

theorem ctz_bits (x : Nat) (hx : x < 18446744073709551616) : (Lib.ctz 64 x = 64 ∧ x = 0) ∨ (Lib.ctz 64 x < 64 ∧ x.testBit (Lib.ctz 64 x) = true ∧ ∀ j, j < Lib.ctz 64 x → x.testBit j = false) := by
  by_cases h0 : x = 0
  · exact .inl ⟨by simp [Lib.ctz, h0], h0⟩
  · obtain ⟨m, hm, hk⟩ := Lib.ctzFrom_spec 64 x (by omega) hx
    have e : Lib.ctz 64 x = Lib.ctzFrom 64 x := by simp [Lib.ctz, h0]
    rw [e]
    refine .inr ⟨hk, ?_, fun j hj => ?_⟩
    · rw [show x.testBit (Lib.ctzFrom 64 x) = (2 ^ Lib.ctzFrom 64 x * (2 * m + 1)).testBit (Lib.ctzFrom 64 x) by rw [← hm]]
      rw [Nat.mul_comm, Nat.testBit_mul_two_pow]
      simp [Nat.testBit_zero]
    · rw [show x.testBit j = (2 ^ Lib.ctzFrom 64 x * (2 * m + 1)).testBit j by rw [← hm]]
      rw [Nat.mul_comm, Nat.testBit_mul_two_pow]
      simp; omega

/-- The other bits of a word. -/
def notW (x : Nat) : Nat := 18446744073709551615 - x
theorem not_bits (x : Nat) (hx : x < 18446744073709551616) : bits BinOp.xor IntKind.u64 IntKind.u64.max (x : Int) = ((notW x : Nat) : Int) := by
  have e : IntKind.u64.max = ((18446744073709551615 : Nat) : Int) := rfl
  rw [e, bits_xor_u64_nat _ x (by omega) hx]
  congr 1
  unfold notW
  apply Nat.eq_of_testBit_eq
  intro i
  have h1 : (18446744073709551615 : Nat) = 2 ^ 64 - 1 := by omega
  rw [Nat.testBit_xor, show 18446744073709551615 - x = 2 ^ 64 - (x + 1) by omega, Nat.testBit_two_pow_sub_succ (by omega), h1, Nat.testBit_two_pow_sub_one]
  by_cases hi : i < 64
  · simp [hi]
  · have : x.testBit i = false := Nat.testBit_lt_two_pow (Nat.lt_of_lt_of_le hx (by
      have := Nat.pow_le_pow_right (n := 2) (by omega) (show 64 ≤ i by omega)
      omega))
    simp [hi, this]
theorem notW_lt (x : Nat) : notW x < 18446744073709551616 := by unfold notW; omega

/-- The lowest number that is not in the set. -/
structure LowOut (W : Nat → Nat) (l : Nat) : Prop where
  le : l ≤ 1024
  out : l < 1024 → bitOf W l = false
  full : ∀ j, j < l → bitOf W j = true

theorem low_found {W : Nat → Nat} {i t : Nat} (hi : i < 16) (hW : W i < 18446744073709551616) (hfull : ∀ j, j < 64 * i → bitOf W j = true) (ht : Lib.ctz 64 (notW (W i)) = t) (hlt : t < 64) : LowOut W (i * 64 + t) := by
  unfold notW at ht
  have hb : ∀ j, j < 64 → (18446744073709551615 - W i).testBit j = !(W i).testBit j := fun j hj => by
    rw [show 18446744073709551615 - W i = 2 ^ 64 - (W i + 1) by omega, Nat.testBit_two_pow_sub_succ (by omega)]
    simp [hj]
  rcases ctz_bits (18446744073709551615 - W i) (by omega) with ⟨h1, _⟩ | ⟨h1, h2, h3⟩
  · omega
  · rw [ht] at h1 h2 h3
    refine ⟨by omega, fun _ => ?_, fun j hj => ?_⟩
    · unfold bitOf
      rw [show (i * 64 + t) / 64 = i by omega, show (i * 64 + t) % 64 = t by omega]
      rw [hb t hlt] at h2
      simpa using h2
    · by_cases hj2 : j < 64 * i
      · exact hfull j hj2
      · have h4 := h3 (j - 64 * i) (by omega)
        rw [hb _ (by omega)] at h4
        unfold bitOf
        rw [show j / 64 = i by omega, show j % 64 = j - 64 * i by omega]
        simpa using h4
theorem low_next {W : Nat → Nat} {i : Nat} (hW : W i < 18446744073709551616) (hfull : ∀ j, j < 64 * i → bitOf W j = true) (ht : ¬ Lib.ctz 64 (notW (W i)) < 64) : ∀ j, j < 64 * (i + 1) → bitOf W j = true := by
  unfold notW at ht
  intro j hj
  rcases ctz_bits (18446744073709551615 - W i) (by omega) with ⟨_, h1⟩ | ⟨h1, _⟩
  · by_cases hj2 : j < 64 * i
    · exact hfull j hj2
    · have hb : (18446744073709551615 - W i).testBit (j - 64 * i) = !(W i).testBit (j - 64 * i) := by
        rw [show 18446744073709551615 - W i = 2 ^ 64 - (W i + 1) by omega, Nat.testBit_two_pow_sub_succ (by omega)]
        simp; omega
      rw [h1] at hb
      unfold bitOf
      rw [show j / 64 = i by omega, show j % 64 = j - 64 * i by omega]
      simpa using hb.symm
  · exact absurd h1 ht

set_option maxHeartbeats 1600000 in
theorem lowestOut_any {w : World} {bb cb : Nat} {ve vi : Value} {W : Nat → Nat} {p : Int} (b : BlockAt w bb cb ve vi W p) (hW : ∀ i, i < 16 → W i < 18446744073709551616) (hT : Tab w) :
    Calls Tryz.prog 225 #[.pointer (some ⟨bb, 1, none⟩)] w fun e w' => ∃ l : Nat, e = .returned (.int .i64 l) ∧ LowOut W l ∧ ∃ n, w' = w.drewN n := by
  have hw := Lib.hid (fun i hi => b.word i hi)
  have HW := Lib.hid hW
  have HT := Lib.hid hT
  clear b hW hT
  go_enter Tryz.func225, Tryz.ntmps225
  go_wp2_with fail
  go_loopw [7] (fun v wr => ∃ i n : Nat, i ≤ 16 ∧ v = .int .i64 i ∧ wr = w.drewN n ∧ ∀ j, j < 64 * i → bitOf W j = true) (fun v _ => 16 - (intOf v).toNat)
  case atStart => exact ⟨0, 0, by omega, rfl, rfl, fun j hj => by omega⟩
  case round =>
    obtain ⟨i, n, hi, rfl, rfl, hfull⟩ := hrel
    have Hfull := Lib.hid hfull
    clear hfull
    by_cases hlt : i < 16
    · have hc := hw.out i hlt
      have hWi := HW.out i hlt
      have hli : (i : Int) < 16 := by omega
      have hnot := not_bits (W i) hWi
      have htz := Lib.hid (fun wx hx => tz64_any (notW (W i)) (notW_lt _) wx hx)
      obtain ⟨t, ht⟩ : ∃ t, Lib.ctz 64 (notW (W i)) = t := ⟨_, rfl⟩
      rw [ht] at htz
      have Ht := Lib.hid ht
      clear ht
      have HWi := Lib.hid hWi
      clear hWi
      by_cases hlt64 : t < 64
      · go_wp2_with fail
        go_quiet (fail)
        go_wp2_with fail
        refine (htz.out _ (HT.out.drewN _)).mono ?_
        rintro e w2 ⟨rfl, rfl⟩
        go_wp2_with fail
        go_ret
        exact ⟨i * 64 + t, by go_num, low_found hlt HWi.out Hfull.out Ht.out hlt64, _, rfl⟩
      · go_wp2_with fail
        go_quiet (fail)
        go_wp2_with fail
        refine (htz.out _ (HT.out.drewN _)).mono ?_
        rintro e w2 ⟨rfl, rfl⟩
        go_wp2_with fail
        go_roundw
        case rel => exact ⟨i + 1, _, by omega, by go_num, rfl, low_next HWi.out Hfull.out (by rw [Ht.out]; exact hlt64)⟩
        case measure => simp [intOf]; omega
    · obtain rfl : i = 16 := by omega
      go_wp2_with fail
      go_ret
      exact ⟨1024, rfl, ⟨by omega, by omega, fun j hj => Hfull.out j (by omega)⟩, n, rfl⟩
end Go.Proofs.YtcjeckjmoponkaaGreatDoor.Dl
/- A layout takes an item more. -/
namespace Go.Proofs.YtcjeckjmoponkaaGreatDoor.Dl
open Go.RowKit Go.Sort
open BodAt (row_ne row_row_ne)
set_option linter.unusedVariables false
set_option linter.unusedSimpArgs false

theorem BlockAt.setVi {w : World} {bb cb : Nat} {ve vi : Value} {W : Nat → Nat} {p : Int} (b : BlockAt w bb cb ve vi W p) (v : Value) : BlockAt (w.setCell ⟨bb, 17, none⟩ v) bb cb ve v W p := by
  obtain ⟨cur, hcur, hs, h0, hw, h17, h18, h19, h20⟩ := b.ex
  refine ⟨_, cells_set hcur 17 _, by simpa using hs, ?_, ?_, ?_, ?_, ?_, ?_⟩
  · rw [Array.getElem?_setIfInBounds_ne (by omega)]; exact h0
  · intro j hj
    rw [Array.getElem?_setIfInBounds_ne (by omega)]; exact hw j hj
  · rw [Array.getElem?_setIfInBounds_self_of_lt (by omega)]
  all_goals (rw [Array.getElem?_setIfInBounds_ne (by omega)]; assumption)
theorem BlockAt.setVe {w : World} {bb cb : Nat} {ve vi : Value} {W : Nat → Nat} {p : Int} (b : BlockAt w bb cb ve vi W p) (v : Value) : BlockAt (w.setCell ⟨bb, 0, none⟩ v) bb cb v vi W p := by
  obtain ⟨cur, hcur, hs, h0, hw, h17, h18, h19, h20⟩ := b.ex
  refine ⟨_, cells_set hcur 0 _, by simpa using hs, ?_, ?_, ?_, ?_, ?_, ?_⟩
  · rw [Array.getElem?_setIfInBounds_self_of_lt (by omega)]
  · intro j hj
    rw [Array.getElem?_setIfInBounds_ne (by omega)]; exact hw j hj
  all_goals (rw [Array.getElem?_setIfInBounds_ne (by omega)]; assumption)
theorem BlockAt.setP {w : World} {bb cb : Nat} {ve vi : Value} {W : Nat → Nat} {p : Int} (b : BlockAt w bb cb ve vi W p) (q : Int) : BlockAt (w.setCell ⟨bb, 20, none⟩ (.int .u64 q)) bb cb ve vi W q := by
  obtain ⟨cur, hcur, hs, h0, hw, h17, h18, h19, h20⟩ := b.ex
  refine ⟨_, cells_set hcur 20 _, by simpa using hs, ?_, ?_, ?_, ?_, ?_, ?_⟩
  · rw [Array.getElem?_setIfInBounds_ne (by omega)]; exact h0
  · intro j hj
    rw [Array.getElem?_setIfInBounds_ne (by omega)]; exact hw j hj
  · rw [Array.getElem?_setIfInBounds_ne (by omega)]; exact h17
  · rw [Array.getElem?_setIfInBounds_ne (by omega)]; exact h18
  · rw [Array.getElem?_setIfInBounds_ne (by omega)]; exact h19
  · rw [Array.getElem?_setIfInBounds_self_of_lt (by omega)]
theorem BlockAt.fr {w w' : World} {bb cb : Nat} {ve vi : Value} {W : Nat → Nat} {p : Int} {F : List Nat} (b : BlockAt w bb cb ve vi W p) (hf : Fr F w w') (hn : bb ∉ F) : BlockAt w' bb cb ve vi W p := by
  obtain ⟨cur, hcur, r⟩ := b.ex
  exact ⟨cur, hf.same hcur hn, r⟩

theorem row_not_mem {w : World} {base e size n : Nat} {v : Value} {xs : List Value} (ho : w.ownsRow base e size v n xs) {c : Nat} {y : Array Value} {u : TypeId} (hc : w.heap[c]? = some (.cells y u (0, 0))) (hn : e ≠ u) : c ∉ v.ownBlock.toList := by
  intro hm
  simp only [Option.mem_toList, Option.mem_def] at hm
  exact row_ne ho hc hn c hm rfl

/-- A new row for the layout, which lies where it lay or in a new block; and the field is written. -/
theorem BodAt.newI {w w' : World} {h : Hp} {s : Bd} (b : BodAt w h s) {v' : Value} {its' : List Nat} (ho : w'.ownsRow 0 3 1 v' its'.length (its'.map encN)) (hf : Fr h.vi.ownBlock.toList w w') :
    BodAt (w'.setCell ⟨h.bb, 17, none⟩ v') { h with vi := v' } { s with its := its' } ∧ Fr (h.bb :: h.vi.ownBlock.toList) w (w'.setCell ⟨h.bb, 17, none⟩ v') := by
  obtain ⟨cur, hcur, _⟩ := b.hb.ex
  obtain ⟨xs, hx, hxs⟩ := b.he.ex
  have na := row_not_mem b.hi b.ha (by decide)
  have nc := row_not_mem b.hi b.hc (by decide)
  have nb := row_not_mem b.hi hcur (by decide)
  have he' : w'.ownsRow 0 356 4 h.ve s.n xs := hf.row hx (fun g hg hm => by
    simp only [Option.mem_toList, Option.mem_def] at hm
    exact row_row_ne hx b.hi (by decide) g g hg hm rfl)
  have hcur' := hf.same hcur nb
  have f2 : Fr [h.bb] w' (w'.setCell ⟨h.bb, 17, none⟩ v') := fr_setCell w' ⟨h.bb, 17, none⟩ v'
  have n2 : h.a ∉ [h.bb] := by simpa using BodAt.ne_types b.ha hcur (by decide)
  have n3 : h.cb ∉ [h.bb] := by simpa using BodAt.ne_types b.hc hcur (by decide)
  refine ⟨⟨f2.same (hf.same b.ha na) n2, f2.same (hf.same b.hc nc) n3, (b.hb.fr hf nb).setVi v', ⟨xs, f2.row he' (fun g hg => by simpa using row_ne he' hcur' (by decide) g hg), hxs⟩, f2.row ho (fun g hg => by simpa using row_ne ho hcur' (by decide) g hg)⟩, ?_⟩
  exact (hf.mono (fun x hx => .inl (List.mem_cons_of_mem _ hx))).trans f2 (fun x hx => .inl (by simp only [List.mem_cons, List.not_mem_nil, or_false] at hx; subst hx; simp))

/-- A new row for the elements. -/
theorem BodAt.newE {w w' : World} {h : Hp} {s : Bd} (b : BodAt w h s) {v' : Value} {n' : Nat} {K' : Nat → Kvn} {X' : Nat → Int} (ho : ElAt w' v' n' K' X') (hf : Fr h.ve.ownBlock.toList w w') :
    BodAt (w'.setCell ⟨h.bb, 0, none⟩ v') { h with ve := v' } { s with n := n', K := K', X := X' } ∧ Fr (h.bb :: h.ve.ownBlock.toList) w (w'.setCell ⟨h.bb, 0, none⟩ v') := by
  obtain ⟨cur, hcur, _⟩ := b.hb.ex
  obtain ⟨xs, hx, hxs⟩ := b.he.ex
  obtain ⟨ys, hy, hys⟩ := ho.ex
  have na := row_not_mem hx b.ha (by decide)
  have nc := row_not_mem hx b.hc (by decide)
  have nb := row_not_mem hx hcur (by decide)
  have hi' : w'.ownsRow 0 3 1 h.vi s.its.length (s.its.map encN) := hf.row b.hi (fun g hg hm => by
    simp only [Option.mem_toList, Option.mem_def] at hm
    exact row_row_ne b.hi hx (by decide) g g hg hm rfl)
  have hcur' := hf.same hcur nb
  have f2 : Fr [h.bb] w' (w'.setCell ⟨h.bb, 0, none⟩ v') := fr_setCell w' ⟨h.bb, 0, none⟩ v'
  have n2 : h.a ∉ [h.bb] := by simpa using BodAt.ne_types b.ha hcur (by decide)
  have n3 : h.cb ∉ [h.bb] := by simpa using BodAt.ne_types b.hc hcur (by decide)
  refine ⟨⟨f2.same (hf.same b.ha na) n2, f2.same (hf.same b.hc nc) n3, (b.hb.fr hf nb).setVe v', ⟨ys, f2.row hy (fun g hg => by simpa using row_ne hy hcur' (by decide) g hg), hys⟩, f2.row hi' (fun g hg => by simpa using row_ne hi' hcur' (by decide) g hg)⟩, ?_⟩
  exact (hf.mono (fun x hx => .inl (List.mem_cons_of_mem _ hx))).trans f2 (fun x hx => .inl (by simp only [List.mem_cons, List.not_mem_nil, or_false] at hx; subst hx; simp))

/-- The blocks behind a call: those of before, or new ones. -/
structure Ext (n : Nat) (h h' : Hp) : Prop where
  a : h'.a = h.a
  bb : h'.bb = h.bb
  cb : h'.cb = h.cb
  ve : ∀ g, h'.ve.ownBlock = some g → h.ve.ownBlock = some g ∨ n ≤ g
  vi : ∀ g, h'.vi.ownBlock = some g → h.vi.ownBlock = some g ∨ n ≤ g
theorem Ext.refl (n : Nat) (h : Hp) : Ext n h h := ⟨rfl, rfl, rfl, fun _ hg => .inl hg, fun _ hg => .inl hg⟩
theorem Ext.trans {n m : Nat} {h h' h'' : Hp} (x : Ext n h h') (y : Ext m h' h'') (hnm : n ≤ m) : Ext n h h'' :=
  ⟨y.a.trans x.a, y.bb.trans x.bb, y.cb.trans x.cb, fun g hg => by
    rcases y.ve g hg with h1 | h1
    · exact x.ve g h1
    · exact .inr (by omega), fun g hg => by
    rcases y.vi g hg with h1 | h1
    · exact x.vi g h1
    · exact .inr (by omega)⟩
theorem Ext.foot {n : Nat} {h h' : Hp} (x : Ext n h h') : ∀ k, k ∈ h'.foot → k ∈ h.foot ∨ n ≤ k := by
  intro k hk
  simp only [Hp.foot, List.mem_append, List.mem_cons, List.not_mem_nil, or_false, Option.mem_toList, Option.mem_def] at hk ⊢
  rcases hk with ((h1 | h1 | h1) | h1) | h1
  · exact .inl (.inl (.inl (.inl (h1.trans x.a))))
  · exact .inl (.inl (.inl (.inr (.inl (h1.trans x.bb)))))
  · exact .inl (.inl (.inl (.inr (.inr (h1.trans x.cb)))))
  · rcases x.ve k h1 with h2 | h2
    · exact .inl (.inl (.inr h2))
    · exact .inr h2
  · rcases x.vi k h1 with h2 | h2
    · exact .inl (.inr h2)
    · exact .inr h2
theorem fr_foot {h h' : Hp} {n : Nat} {w0 w w' : World} (x : Ext n h h') (hn : w0.heap.size = n) (hf0 : Fr h.foot w0 w) (hf : Fr h'.foot w w') : Fr h.foot w0 w' :=
  hf0.trans hf (fun k hk => by subst hn; exact x.foot k hk)
theorem rows_foot (h : Hp) {w w' : World} (hf : Fr h.rows w w') : Fr h.foot w w' := hf.mono (fun k hk => .inl (foot_rows h k hk))
theorem bb_foot (h : Hp) {w w' : World} (hf : Fr [h.bb] w w') : Fr h.foot w w' := hf.mono (fun k hk => .inl (by simp only [List.mem_cons, List.not_mem_nil, or_false] at hk; subst hk; simp [Hp.foot]))
theorem bbvi_foot (h : Hp) {w w' : World} (hf : Fr (h.bb :: h.vi.ownBlock.toList) w w') : Fr h.foot w w' := hf.mono (fun k hk => .inl (by
  simp only [List.mem_cons, Option.mem_toList, Option.mem_def] at hk
  rcases hk with rfl | hk <;> simp [Hp.foot, *]))
theorem bbve_foot (h : Hp) {w w' : World} (hf : Fr (h.bb :: h.ve.ownBlock.toList) w w') : Fr h.foot w w' := hf.mono (fun k hk => .inl (by
  simp only [List.mem_cons, Option.mem_toList, Option.mem_def] at hk
  rcases hk with rfl | hk <;> simp [Hp.foot, *]))

theorem infoInt : (Tryz.prog.info? 3).map (fun i => (i.zero, i.size, i.bytes)) = some (some (.int .i64 0), 1, 8) := by kernel_rfl

theorem dn_last (K : Nat → Kvn) (L : List Nat) : Dn K L (L.length - 1) := fun j h0 hj hp => by omega
theorem pre_last {K : Nat → Kvn} {L : List Nat} (h : HeapO K L) (x : Nat) : Pre K (L ++ [x]) L.length := by
  have e : ∀ j, j < L.length → (L ++ [x]).getD j 0 = L.getD j 0 := fun j hj => by simp [List.getD_eq_getElem?_getD, List.getElem?_append_left hj]
  refine ⟨fun j h0 hj h1 h2 => ?_, fun j h0 hj h1 h2 => ?_⟩
  · simp only [List.length_append, List.length_cons, List.length_nil] at hj
    rw [e j (by omega), e _ (by omega)]
    exact h j h0 (by omega)
  · simp only [List.length_append, List.length_cons, List.length_nil] at hj
    omega
theorem idx_last {X : Nat → Int} {L : List Nat} (h : IdxAll X L) (x : Nat) : IdxEx X (L ++ [x]) L.length := by
  intro j hj hne
  simp only [List.length_append, List.length_cons, List.length_nil] at hj
  have : (L ++ [x]).getD j 0 = L.getD j 0 := by simp [List.getD_eq_getElem?_getD, List.getElem?_append_left (show j < L.length by omega)]
  rw [this]
  exact h j (by omega)

theorem one_new_cell (w : World) (v : Value) (t : TypeId) : ∀ (j : Nat) (u : Value), [v][j]? = some u → (w.alloc (.cells #[v] t)).cell? ((⟨w.heap.size, 0, none⟩ : Addr).add j) = some u := by
  intro j u hu
  match j with
  | 0 => simp at hu; subst hu; rw [Go.WideShapes.add_plain]; exact cell_new _ _ _ _ _ _ rfl rfl
  | j + 1 => simp at hu
theorem row_some {w : World} {base e size n : Nat} {v : Value} {xs : List Value} (h : w.ownsRow base e size v n xs) (hn : 0 < n) : ∃ g cap, v = .slice (some ⟨g, 0, none⟩) n cap ∧ n ≤ cap ∧ cap ≤ maxLen := by
  rcases h.2 with ⟨_, h'⟩ | ⟨g, cap, cur, hv, _, _, hnc, hcm, _⟩
  · omega
  · exact ⟨g, cap, hv, hnc, hcm⟩

set_option maxHeartbeats 1600000 in
set_option maxRecDepth 100000 in
theorem qpush_any {w : World} {h : Hp} {s : Bd} (b : BodAt w h s) (x : Nat) (hx : x < s.n) (hxi : x ∉ s.its) (hbig : s.its.length ≤ 1023) (hn : s.its.Nodup) (hm : ∀ x, x ∈ s.its → x < s.n) (ho : HeapO s.K s.its) (hX : IdxAll s.X s.its) :
    Calls Tryz.prog 227 #[.pointer (some ⟨h.bb, 17, none⟩), encN x] w fun e w' => ∃ (h' : Hp) (L : List Nat) (X : Nat → Int), e = .returned (.tuple #[]) ∧ Settled s.K (s.its ++ [x]) L X ∧ BodAt w' h' { s with its := L, X := X } ∧ Fr h.foot w w' ∧ Ext w.heap.size h h' := by
  obtain ⟨cur, hcur, _, _, _, h17, _⟩ := b.hb.ex
  have c17 := cells_cell hcur h17
  have f17 : w.frozen? ⟨h.bb, 17, none⟩ = false := cells_free hcur 17
  have blt := lt_of_block hcur
  obtain ⟨i0, hi0, hz0, hz1, hz2⟩ := info_parts infoInt
  have HB := Lib.hid b
  have hnod : Hid ((s.its ++ [x]).Nodup) := Lib.hid (by
    rw [List.nodup_append]
    exact ⟨hn, by simp, fun a ha c hc => by simp only [List.mem_cons, List.not_mem_nil, or_false] at hc; subst hc; exact fun e => hxi (e ▸ ha)⟩)
  have hmem : Hid (∀ y, y ∈ s.its ++ [x] → y < s.n) := Lib.hid (fun y hy => by
    rcases List.mem_append.1 hy with h1 | h1
    · exact hm y h1
    · simp only [List.mem_cons, List.not_mem_nil, or_false] at h1; subst h1; exact hx)
  have hpre := Lib.hid (pre_last ho x)
  have hidx := Lib.hid (idx_last hX x)
  have hlen := Lib.hid (show (s.its ++ [x]).length = s.its.length + 1 by simp)
  have hrow := Lib.hid b.hi
  have hdn : Hid (Dn s.K (s.its ++ [x]) s.its.length) := Lib.hid (by have := dn_last s.K (s.its ++ [x]); rwa [show (s.its ++ [x]).length - 1 = s.its.length by simp] at this)
  have hl0 : s.its.length ≤ 1023 := hbig
  clear hcur h17 b hxi hn hm ho hX
  unfold encN
  go_enter Tryz.func227, Tryz.ntmps227
  go_wp2_with (at_builtin; refine wpList_append_row _ rfl _ _ 36 rfl 3 i0 (.int .i64 0) 1 8 Tryz.underlying36 hi0 hz0 hz1 hz2 rfl (by decide) 0 h.vi s.its.length (s.its.map encN) rfl (hrow.out.alloc _) (Nat.zero_le _) ⟨w.heap.size, 0, none⟩ 1 1 [.int .i64 x] rfl rfl ?c1 ?c2 (by decide) ?c3 ?c4 ?_)
  case c1 => exact one_new_cell w _ _
  case c2 => simp [Value.oneCell']
  case c3 => unfold maxLen; omega
  case c4 => omega
  intro v' w1 hown hgr hnear
  have hown' : w1.ownsRow 0 3 1 v' (s.its ++ [x]).length ((s.its ++ [x]).map encN) := by
    rw [hlen.out, List.map_append]; exact hown
  obtain ⟨g', cap', hv', hle, hcm⟩ := row_some hown (by omega)
  have hf1 : Fr h.vi.ownBlock.toList w w1 := (fr_alloc w _ _).trans' hgr
  obtain ⟨B1, F1⟩ := HB.out.newI hown' hf1
  have hx1 : Ext w.heap.size h { h with vi := v' } := ⟨rfl, rfl, rfl, fun g hg => .inl hg, fun g hg => by
    rcases hnear g hg with h1 | h1
    · exact .inl h1
    · simp at h1; exact .inr (by omega)⟩
  have hr := rise_any B1 s.its.length (by show s.its.length < (s.its ++ [x]).length; rw [hlen.out]; omega) hnod.out hmem.out hpre.out hidx.out
  have nb : h.bb ∉ h.vi.ownBlock.toList := by obtain ⟨cur, hcur, _⟩ := HB.out.hb.ex; exact row_not_mem HB.out.hi hcur (by decide)
  have d17 := hf1.cell c17 nb
  have g17 : w1.frozen? ⟨h.bb, 17, none⟩ = false := by rw [hf1.frozen blt nb]; exact f17
  have e17 : (w1.setCell ⟨h.bb, 17, none⟩ v').cell? ⟨h.bb, 17, none⟩ = some v' := World.cell?_setCell_same _ _ _ d17
  have H1 := Lib.hid F1
  have HX := Lib.hid hx1
  have hnI : (s.its.length : Int) ≤ 1023 := by omega
  clear B1 F1 hx1 hown hown' hgr hnear hf1 c17 f17
  unfold encN at hr
  simp only at hr
  subst hv'
  go_wp2_with fail
  refine hr.mono ?_
  rintro e w2 ⟨j, L, X, rfl, hR, B2, F2⟩
  go_wp2_with fail
  go_end0
  exact ⟨_, L, X, rfl, hR.settled hdn.out, B2, fr_foot HX.out rfl (bbvi_foot h H1.out) (rows_foot _ F2), HX.out⟩
end Go.Proofs.YtcjeckjmoponkaaGreatDoor.Dl
/- slices.Delete of the last element. -/
namespace Go.Proofs.YtcjeckjmoponkaaGreatDoor.Dl
open Go.RowKit Go.Sort
set_option linter.unusedVariables false
set_option linter.unusedSimpArgs false

theorem infoInt' : (Tryz.prog.info? 3).map (fun i => (i.zero, i.size, i.bytes)) = some (some (.int .i64 0), 1, 8) := by kernel_rfl

set_option maxHeartbeats 3200000 in
set_option maxRecDepth 1000000 in
theorem delete_last (g n cap : Nat) (v0 : Value) (w : World) (hc : w.cell? ⟨g, n, none⟩ = some v0) (hf : w.frozen? ⟨g, n, none⟩ = false) (hcap : n + 1 ≤ cap) (hm : cap ≤ 9223372036854775807) :
    Calls Tryz.prog 240 #[.slice (some ⟨g, 0, none⟩) (n + 1) cap, .int .i64 n, .int .i64 (n + 1 : Nat)] w fun e w' => e = .returned (.slice (some ⟨g, 0, none⟩) n cap) ∧ w' = w.drew.setCell ⟨g, n, none⟩ (.int .i64 0) := by
  have hc' : ∀ j, j < 1 → (w.drew.cell? ⟨g, n + j, none⟩).isSome = true := by
    intro j hj
    obtain rfl : j = 0 := by omega
    show (w.cell? ⟨g, n, none⟩).isSome = true
    rw [hc]; rfl
  have hf' : ∀ j, j < 1 → w.drew.frozen? ⟨g, n + j, none⟩ = false := by
    intro j hj
    obtain rfl : j = 0 := by omega
    exact hf
  have hclear : ∀ ty c, (Builtin.clear_ #[36] ty #[.slice (some ⟨g, n, none⟩) 1 c]).run Tryz.prog w.drew = .ok (.tuple #[]) (w.drew.setCell ⟨g, n, none⟩ (.int .i64 0)) :=
    fun ty c => Lib.run_clear_slice w.drew _ _ ty _ Tryz.underlying36 Tryz.zeroValue3 rfl rfl g n 1 _ (by omega) hc' hf'
  obtain ⟨i0, hi0, hz0, hz1, hz2⟩ := info_parts infoInt'
  have hni : (n : Int) < (cap : Int) := by omega
  have hcapI : (cap : Int) ≤ 9223372036854775807 := by omega
  have q : ((n : Int) == ((n + 1 : Nat) : Int)) = false := by simp; omega
  clear hc hf hc' hf'
  go_enter Tryz.func240, Tryz.ntmps240
  go_wp2_with fail
  have l0 : (0 : Int) ≤ (n : Int) + 1 := by omega
  by_cases hcc : cap = n + 1
  · subst hcc
    have l1 : (n : Int) ≤ (n : Int) + 1 := by omega
    have l2 : (n : Int) + 1 ≤ (n : Int) + 1 := by omega
    go_region_law (refine step_append_room rfl (.tmp 22) (.tmp 25) 36 rfl 3 i0 1 Tryz.underlying36 hi0 hz1 g 0 n (n + 1) (by simp [Act.eval, Act.put]) ⟨g, 0, none⟩ 0 0 [] (by simp [Act.eval, Act.put]) rfl (by simp) (by simp) (by omega) (by simp) ?_; rw [show World.setCells w.drew g (0 + n * 1) [] = w.drew from rfl])
    go_wp2_with fail
    go_ret
    exact ⟨rfl, rfl⟩
  · have l1 : (n : Int) ≤ (cap : Int) := by omega
    have l2 : (n : Int) + 1 ≤ (cap : Int) := by omega
    have l3 : (n : Int) + 1 ≤ (n : Int) + 1 := by omega
    have l4 : ¬ cap = n + 1 := hcc
    go_region_law (refine step_append_room rfl (.tmp 22) (.tmp 25) 36 rfl 3 i0 1 Tryz.underlying36 hi0 hz1 g 0 n cap (by simp [Act.eval, Act.put]) ⟨g, n + 1, none⟩ 0 (cap - (n + 1)) [] (by simp [Act.eval, Act.put, hcc]) rfl (by simp) (by simp) (by omega) (by simp) ?_; rw [show World.setCells w.drew g (0 + n * 1) [] = w.drew from rfl])
    go_wp2_with fail
    go_ret
    exact ⟨rfl, rfl⟩
end Go.Proofs.YtcjeckjmoponkaaGreatDoor.Dl
/- A layout loses an item. -/
namespace Go.Proofs.YtcjeckjmoponkaaGreatDoor.Dl
open Go.RowKit Go.Sort
open BodAt (row_ne row_row_ne)
set_option linter.unusedVariables false
set_option linter.unusedSimpArgs false

theorem getD_dropLast (L : List Nat) (j : Nat) (hj : j < L.length - 1) : L.dropLast.getD j 0 = L.getD j 0 := by
  simp only [List.getD_eq_getElem?_getD, List.getElem?_dropLast]
  rw [if_pos hj]
theorem dropLast_last (L : List Nat) (h : 0 < L.length) : L.dropLast ++ [L.getD (L.length - 1) 0] = L := by
  have hne : L ≠ [] := by intro e; subst e; simp at h
  have := List.dropLast_concat_getLast hne
  rw [List.getLast_eq_getElem] at this
  simpa [List.getD_eq_getElem?_getD, List.getElem?_eq_getElem (show L.length - 1 < L.length by omega)] using this
theorem heapO_dropLast {K : Nat → Kvn} {L : List Nat} (h : HeapO K L) : HeapO K L.dropLast := by
  intro j h0 hj
  simp only [List.length_dropLast] at hj
  rw [getD_dropLast L j hj, getD_dropLast L _ (by omega)]
  exact h j h0 (by omega)
theorem idxAll_dropLast {X : Nat → Int} {L : List Nat} (h : IdxAll X L) : IdxAll X L.dropLast := by
  intro j hj
  simp only [List.length_dropLast] at hj
  rw [getD_dropLast L j hj]
  exact h j (by omega)
theorem set_perm (D : List Nat) (i f : Nat) (hi : i < D.length) : (D.getD i 0 :: D.set i f).Perm (f :: D) := by
  have e : D.getD i 0 = D[i] := by simp [List.getD_eq_getElem?_getD, hi]
  have e1 : D.set i f = D.take i ++ f :: D.drop (i + 1) := by rw [List.set_eq_take_append_cons_drop, if_pos hi]
  have e2 : D = D.take i ++ D[i] :: D.drop (i + 1) := by rw [← List.drop_eq_getElem_cons hi, List.take_append_drop]
  rw [e, e1]
  have h1 : (D[i] :: (D.take i ++ f :: D.drop (i + 1))).Perm (D[i] :: f :: (D.take i ++ D.drop (i + 1))) := List.Perm.cons _ List.perm_middle
  have h2 : (f :: (D.take i ++ D[i] :: D.drop (i + 1))).Perm (f :: D[i] :: (D.take i ++ D.drop (i + 1))) := List.Perm.cons _ List.perm_middle
  rw [← e2] at h2
  exact h1.trans ((List.Perm.swap _ _ _).trans h2.symm)
theorem snoc_perm (D : List Nat) (x : Nat) : (x :: D).Perm (D ++ [x]) := by
  have := (List.perm_append_comm (l₁ := [x]) (l₂ := D)); simpa using this

/-- What is left of a layout, the item x gone. -/
structure Removed (K : Nat → Kvn) (L0 : List Nat) (x : Nat) (L : List Nat) (X : Nat → Int) : Prop where
  perm : (x :: L).Perm L0
  heap : HeapO K L
  idx : IdxAll X L

theorem removed_last {K : Nat → Kvn} {L : List Nat} {X : Nat → Int} (h0 : 0 < L.length) (hh : HeapO K L) (hx : IdxAll X L) : Removed K L (L.getD (L.length - 1) 0) L.dropLast X := by
  refine ⟨?_, heapO_dropLast hh, idxAll_dropLast hx⟩
  have := snoc_perm L.dropLast (L.getD (L.length - 1) 0)
  rwa [dropLast_last L h0] at this
theorem removed_at {K : Nat → Kvn} {L M : List Nat} {X : Nat → Int} {i : Nat} (hi : i < L.length - 1) (hs : Settled K (L.dropLast.set i (L.getD (L.length - 1) 0)) M X) : Removed K L (L.getD i 0) M X := by
  refine ⟨?_, hs.heap, hs.idx⟩
  have hd : i < L.dropLast.length := by simpa using hi
  have h1 := set_perm L.dropLast i (L.getD (L.length - 1) 0) hd
  rw [getD_dropLast L i hi] at h1
  have h2 := snoc_perm L.dropLast (L.getD (L.length - 1) 0)
  rw [dropLast_last L (by omega)] at h2
  exact ((List.Perm.cons _ hs.perm).trans h1).trans h2
theorem set_nodup {L : List Nat} (hn : L.Nodup) {i : Nat} (hi : i < L.length - 1) : (L.dropLast.set i (L.getD (L.length - 1) 0)).Nodup := by
  have hd : i < L.dropLast.length := by simpa using hi
  have h1 := set_perm L.dropLast i (L.getD (L.length - 1) 0) hd
  have h2 := snoc_perm L.dropLast (L.getD (L.length - 1) 0)
  rw [dropLast_last L (by omega)] at h2
  have h3 := ((h1.trans h2).nodup_iff).2 hn
  exact (List.nodup_cons.1 h3).2

theorem ownsRow_pre {w : World} {base e size g n cap : Nat} {xs : List Value} (h : w.ownsRow base e size (.slice (some ⟨g, 0, none⟩) n cap) n xs) (m : Nat) (hm : m ≤ n) : w.ownsRow base e size (.slice (some ⟨g, 0, none⟩) m cap) m (xs.take (m * size)) := by
  have hle : m * size ≤ n * size := Nat.mul_le_mul_right _ hm
  refine ⟨by rw [List.length_take, h.1]; omega, ?_⟩
  rcases h.2 with ⟨h', _⟩ | ⟨g', cap', cur, h', hb, hg, hnc, hcm, hcs, htake⟩
  · simp at h'
  · simp only [Value.slice.injEq, Option.some.injEq, Addr.mk.injEq, and_true, true_and] at h'
    obtain ⟨rfl, rfl⟩ := h'
    refine .inr ⟨g, cap, cur, rfl, hb, hg, by omega, hcm, hcs, ?_⟩
    rw [← htake, List.take_take]
    congr 1
    omega

set_option maxHeartbeats 1600000 in
set_option maxRecDepth 100000 in
theorem removeAt_any {w : World} {h : Hp} {s : Bd} (b : BodAt w h s) (i : Nat) (hi : i < s.its.length) (hbig : s.its.length ≤ 2000) (hn : s.its.Nodup) (hm : ∀ x, x ∈ s.its → x < s.n) (ho : HeapO s.K s.its) (hX : IdxAll s.X s.its) :
    Calls Tryz.prog 230 #[.pointer (some ⟨h.bb, 17, none⟩), encN i] w fun e w' => ∃ (h' : Hp) (L : List Nat) (X : Nat → Int), e = .returned (.tuple #[]) ∧ Removed s.K s.its (s.its.getD i 0) L X ∧ BodAt w' h' { s with its := L, X := X } ∧ Fr h.foot w w' ∧ Ext w.heap.size h h' ∧ h'.ve = h.ve := by
  obtain ⟨n, hn1⟩ : ∃ n, s.its.length = n + 1 := ⟨s.its.length - 1, by omega⟩
  obtain ⟨g, cap, C⟩ := b.celli (by omega)
  have hi0 := b.hi
  rw [C.vi] at hi0
  obtain ⟨_, _, hv0, hle, hcm⟩ := row_some hi0 (by omega)
  simp only [Value.slice.injEq, Option.some.injEq, Addr.mk.injEq, and_true, true_and] at hv0
  obtain ⟨rfl, rfl⟩ := hv0
  unfold maxLen at hcm
  have en := C.e n (by omega)
  have fn := C.fr n
  have b17 := C.b17
  have blt := C.blt
  obtain ⟨cur, hcur, _⟩ := b.hb.ex
  have f17 : w.frozen? ⟨h.bb, 17, none⟩ = false := cells_free hcur 17
  have nb : h.bb ∉ h.vi.ownBlock.toList := row_not_mem b.hi hcur (by decide)
  have nbg : h.bb ≠ g := by rw [C.vi] at nb; simpa [Value.ownBlock] using nb
  have HB := Lib.hid b
  have HC := Lib.hid C
  have Hvi := Lib.hid C.vi
  -- the world behind slices.Delete
  have hdel := delete_last g n cap _ w en fn (by omega) (by omega)
  have hst := ((hi0.stored n (.int .i64 0)).1)
  rw [hn1] at hst
  have hpre := ownsRow_pre hst n (by omega)
  have hlist : (((s.its.map encN).set n (Value.int .i64 0)).take (n * 1)) = s.its.dropLast.map encN := by
    rw [Nat.mul_one, List.take_set_of_le (by omega), ← List.map_take, List.dropLast_eq_take, hn1]
    rfl
  rw [hlist] at hpre
  have hlen : s.its.dropLast.length = n := by rw [List.length_dropLast, hn1]; rfl
  have hfw : Fr h.vi.ownBlock.toList w (w.drew.setCell ⟨g, n, none⟩ (.int .i64 0)) := by
    rw [C.vi]
    exact (fr_drewN w 1 _).trans' (fr_setCell (w.drewN 1) ⟨g, n, none⟩ _)
  obtain ⟨W1, hW1⟩ : ∃ W1, w.drew.setCell ⟨g, n, none⟩ (.int .i64 0) = W1 := ⟨_, rfl⟩
  have hpre1 : W1.ownsRow 0 3 1 (.slice (some ⟨g, 0, none⟩) n cap) s.its.dropLast.length (s.its.dropLast.map encN) := by rw [hlen, ← hW1]; exact hpre
  rw [hW1] at hfw hdel
  obtain ⟨B1, F1⟩ := b.newI hpre1 hfw
  have hx1 : Ext w.heap.size h { h with vi := .slice (some ⟨g, 0, none⟩) n cap } := ⟨rfl, rfl, rfl, fun g hg => .inl hg, fun g' hg' => .inl (by rw [C.vi]; exact hg')⟩
  have d17 := hfw.cell b17 nb
  have g17 : W1.frozen? ⟨h.bb, 17, none⟩ = false := by rw [hfw.frozen blt nb]; exact f17
  have H1 := Lib.hid F1
  have HX := Lib.hid hx1
  have hnI : (n : Int) ≤ 1999 := by omega
  have hiI : (i : Int) ≤ (n : Int) := by omega
  obtain ⟨f, hf⟩ : ∃ f, s.its.getD n 0 = f := ⟨_, rfl⟩
  rw [hf] at en
  rw [hn1] at b17
  rw [show ((n + 1 : Nat) : Int) = (n : Int) + 1 by omega] at hdel
  have Hn1 := Lib.hid hn1
  by_cases hlast : i = n
  · subst hlast
    have hR : Hid (Removed s.K s.its (s.its.getD i 0) s.its.dropLast s.X) := Lib.hid (by have := removed_last (K := s.K) (X := s.X) (L := s.its) (by omega) ho hX; rwa [hn1] at this)
    have HB1 := Lib.hid B1
    clear B1 F1 hx1 hfw hpre1 hpre hst hlist hi0 C b hn hm ho hX hcur hf hn1 hlen hW1
    unfold encN at *
    go_enter Tryz.func230, Tryz.ntmps230
    go_wp2_with (go_at_call 240; refine hdel.mono ?_; rintro e w2 ⟨rfl, rfl⟩)
    refine bodyPost_ret (results_none rfl _ _ _) rfl ?_
    exact ⟨_, _, _, rfl, hR.out, HB1.out, bbvi_foot h H1.out, HX.out, rfl⟩
  · have hil : i < n := by omega
    have hfn : f < s.n := hm f (by rw [← hf]; exact getD_mem _ _ (by omega))
    obtain ⟨B2, F2⟩ := B1.setI (g := g) (cap := cap) (by rw [hlen]) i f
    have hset := settle_any B2 i (by show i < (s.its.dropLast.set i f).length; rw [List.length_set, hlen]; exact hil) (by show (s.its.dropLast.set i f).length ≤ 2000; rw [List.length_set, hlen]; omega)
      (by have := set_nodup hn (i := i) (by omega); rwa [hn1, Nat.add_sub_cancel, hf] at this)
      (fun y hy => by
        rcases List.mem_or_eq_of_mem_set hy with h1 | h1
        · exact hm y (List.dropLast_subset _ h1)
        · rw [h1]; exact hfn)
      (pre_of (heapO_dropLast ho) i f)
      (fun j hj hne => by
        have hj' : j < s.its.dropLast.length := by simpa using hj
        show s.X ((s.its.dropLast.set i f).getD j 0) = j
        rw [getD_set, if_neg (by omega)]
        exact idxAll_dropLast hX j hj')
    have hR : Hid (∀ L X, Settled s.K (s.its.dropLast.set i f) L X → Removed s.K s.its (s.its.getD i 0) L X) := Lib.hid (fun L X hs => removed_at (by omega) (by rw [hn1, Nat.add_sub_cancel, hf]; exact hs))
    have H2 := Lib.hid F2
    have hiI2 : (i : Int) < (n : Int) := by omega
    have ei : (W1.setCell ⟨h.bb, 17, none⟩ (.slice (some ⟨g, 0, none⟩) n cap)).cell? ⟨g, i, none⟩ = some (encN (s.its.dropLast.getD i 0)) := by
      obtain ⟨g2, c2, C2⟩ := B1.celli (by show 0 < s.its.dropLast.length; omega)
      have hv2 := C2.vi
      simp only [Value.slice.injEq, Option.some.injEq, Addr.mk.injEq, and_true, true_and] at hv2
      obtain ⟨rfl, _, rfl⟩ := hv2
      exact C2.e i (by show i < s.its.dropLast.length; omega)
    have fi : (W1.setCell ⟨h.bb, 17, none⟩ (.slice (some ⟨g, 0, none⟩) n cap)).frozen? ⟨g, i, none⟩ = false := by
      obtain ⟨g2, c2, C2⟩ := B1.celli (by show 0 < s.its.dropLast.length; omega)
      have hv2 := C2.vi
      simp only [Value.slice.injEq, Option.some.injEq, Addr.mk.injEq, and_true, true_and] at hv2
      obtain ⟨rfl, _, rfl⟩ := hv2
      exact C2.fr i
    clear B1 F1 B2 F2 hx1 hfw hpre1 hpre hst hlist hi0 C b hn hm ho hX hcur hf hn1 hlen hW1
    unfold encN at *
    go_enter Tryz.func230, Tryz.ntmps230
    go_wp2_with (first | (go_at_call 240; refine hdel.mono ?_; rintro e w2 ⟨rfl, rfl⟩) | (go_at_call 241; fail))
    refine hset.mono ?_
    rintro e w2 ⟨L, X, rfl, hS, B3, F3⟩
    go_wp2_with fail
    go_end0
    exact ⟨_, L, X, rfl, hR.out L X hS, B3, fr_foot HX.out rfl (bbvi_foot h H1.out) (rows_foot _ (H2.out.trans' F3)), HX.out, rfl⟩
end Go.Proofs.YtcjeckjmoponkaaGreatDoor.Dl
