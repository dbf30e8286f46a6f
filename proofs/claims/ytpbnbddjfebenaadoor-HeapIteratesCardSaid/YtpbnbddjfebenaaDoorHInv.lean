/- What ties a body to the elements that it stands for, and how the calls keep it. -/
import Derived.Test.YtpbnbddjfebenaaDoorHAbs
namespace Go.Proofs.YtpbnbddjfebenaaDoor
open Go.RowKit
set_option linter.unusedVariables false
set_option linter.unusedSimpArgs false

structure Inv (s : Bd) (S : List El) (P : Nat) : Prop where
  n_le : s.n ≤ 1024
  word : ∀ i, i < 16 → s.W i < 18446744073709551616
  bits : ∀ h, h < 1024 → (bitOf s.W h = true ↔ h ∈ hsOf S)
  perm : s.its.Perm (hsOf S)
  nums : S.Pairwise (fun a b => (s.K a.h).num < (s.K b.h).num)
  mem : ∀ e ∈ S, e.h < s.n ∧ (s.K e.h).key = e.k ∧ (s.K e.h).val = e.v ∧ (s.K e.h).num < s.pushed
  idx : IdxAll s.X s.its
  heap : HeapO s.K s.its
  p0 : 0 ≤ s.pushed
  p1 : s.pushed ≤ P

namespace Inv
variable {s : Bd} {S : List El} {P : Nat}
theorem keeps (h : Inv s S P) : Keeps s.K S := ⟨h.nums, fun e he => (h.mem e he).2.1⟩
theorem nodup (h : Inv s S P) : s.its.Nodup := (h.perm.nodup_iff).2 h.keeps.nodup
theorem ltn (h : Inv s S P) : ∀ x, x ∈ s.its → x < s.n := fun x hx => by
  obtain ⟨e, he, rfl⟩ := List.mem_map.1 (h.perm.mem_iff.1 hx)
  exact (h.mem e he).1
theorem len (h : Inv s S P) : s.its.length = S.length := by rw [h.perm.length_eq]; simp [hsOf]
theorem len_le (h : Inv s S P) : S.length ≤ 1024 := by
  have := List.Nodup.length_le_of_subset h.nodup (l₂ := List.range s.n) (fun x hx => List.mem_range.2 (h.ltn x hx))
  rw [List.length_range, h.len] at this
  have := h.n_le
  omega
theorem hlt (h : Inv s S P) : ∀ x, x ∈ hsOf S → x < s.n := fun x hx => h.ltn x (h.perm.mem_iff.2 hx)
end Inv

theorem lowOf_low {s : Bd} {S : List El} {P l : Nat} (h : Inv s S P) (hl : LowOut s.W l) (hlt : l < 1024) : lowOf (hsOf S) = l := by
  refine lowOf_eq (fun hm => ?_) (fun j hj => (h.bits j (by omega)).1 (hl.full j hj))
  have := (h.bits l hlt).2 hm
  rw [hl.out hlt] at this
  cases this
theorem low_le_n {s : Bd} {S : List El} {P l : Nat} (h : Inv s S P) (hl : LowOut s.W l) : l ≤ s.n := by
  by_cases hle : l ≤ s.n
  · exact hle
  · have := h.n_le
    have h1 := hl.full s.n (by omega)
    have hle2 := hl.le
    have := h.hlt s.n ((h.bits s.n (by omega)).1 h1)
    omega
theorem low_full {s : Bd} {S : List El} {P : Nat} (h : Inv s S P) (hl : LowOut s.W 1024) : S.length = 1024 := by
  have h1 : (List.range 1024) ⊆ hsOf S := fun j hj => (h.bits j (List.mem_range.1 hj)).1 (hl.full j (List.mem_range.1 hj))
  have := List.Nodup.length_le_of_subset List.nodup_range h1
  rw [List.length_range] at this
  simp only [hsOf, List.length_map] at this
  have := h.len_le
  omega
theorem low_room {s : Bd} {S : List El} {P l : Nat} (h : Inv s S P) (hl : LowOut s.W l) (hlt : l < 1024) : S.length < 1024 := by
  have hle := h.len_le
  rcases Nat.lt_or_ge S.length 1024 with h1 | h1
  · exact h1
  · exfalso
    -- all of the 1024 numbers are handles
    have hout := hl.out hlt
    have hnd := h.keeps.nodup
    have hsub : hsOf S ⊆ (List.range 1024).erase l := fun x hx => by
      have hx1 := h.hlt x hx
      have := h.n_le
      have hne : x ≠ l := by
        rintro rfl
        have := (h.bits x hlt).2 hx
        rw [hout] at this
        cases this
      exact (List.mem_erase_of_ne hne).2 (List.mem_range.2 (by omega))
    have h2 := List.Nodup.length_le_of_subset hnd hsub
    rw [List.length_erase_of_mem (List.mem_range.2 hlt), List.length_range] at h2
    simp only [hsOf, List.length_map] at h2
    omega

theorem ltK_congr {K K' : Nat → Kvn} {x y : Nat} (hx : K x = K' x) (hy : K y = K' y) : ltK K x y ↔ ltK K' x y := by
  unfold ltK; rw [hx, hy]
theorem heapO_congr {K K' : Nat → Kvn} {L : List Nat} (h : HeapO K L) (he : ∀ x, x ∈ L → K x = K' x) : HeapO K' L := fun j h0 hj => by
  rw [← ltK_congr (he _ (getD_mem L j hj)) (he _ (getD_mem L _ (by omega)))]; exact h j h0 hj
theorem idxAll_congr {X X' : Nat → Int} {L : List Nat} (h : IdxAll X L) (he : ∀ x, x ∈ L → X x = X' x) : IdxAll X' L := fun j hj => by
  rw [← he _ (getD_mem L j hj)]; exact h j hj

/-- The body behind a push, the layout settled. -/
theorem Inv.push {s : Bd} {S : List El} {P : Nat} (h : Inv s S P) {l : Nat} (hl : LowOut s.W l) (hlt : l < 1024) {k v : Int} {s' : Bd} {X0 : Nat → Int}
    (hn : s'.n = max s.n (l + 1)) (hKl : s'.K l = ⟨k, v, s.pushed⟩) (hK : ∀ x, x < s.n → x ≠ l → s'.K x = s.K x) (hW : s'.W = flipW s.W l) (hp : s'.pushed = s.pushed + 1)
    (hs : Settled s'.K (s.its ++ [l]) s'.its s'.X) : Inv s' (pushS S k v) (P + 1) := by
  have hlow := lowOf_low h hl hlt
  have hout : l ∉ hsOf S := fun hm => by
    have := (h.bits l hlt).2 hm
    rw [hl.out hlt] at this
    cases this
  have hne : ∀ e, e ∈ S → e.h ≠ l := fun e he hel => hout (by rw [← hel]; exact List.mem_map_of_mem he)
  have hKe : ∀ e, e ∈ S → s'.K e.h = s.K e.h := fun e he => hK _ (h.mem e he).1 (hne e he)
  have hpush : pushS S k v = S ++ [⟨l, v, k⟩] := by unfold pushS; rw [hlow]
  have hhs : hsOf (pushS S k v) = hsOf S ++ [l] := by rw [hs_push, hlow]
  refine ⟨by rw [hn]; have := h.n_le; omega, by rw [hW]; exact flipW_lt s.W l h.word hlt, ?_, ?_, ?_, ?_, hs.idx, hs.heap, by have := h.p0; omega, by have := h.p1; omega⟩
  · intro x hx
    rw [hW, bitOf_flip, hhs]
    by_cases e : x = l
    · subst e; rw [if_pos rfl, hl.out hlt]; simp
    · rw [if_neg e, h.bits x hx]; simp [e]
  · rw [hhs]
    exact hs.perm.trans (h.perm.append_right _)
  · rw [hpush, List.pairwise_append]
    refine ⟨h.nums.imp_of_mem (fun {a b} ha hb hab => by rw [hKe a ha, hKe b hb]; exact hab), List.pairwise_singleton _ _, ?_⟩
    intro a ha b hb
    simp only [List.mem_cons, List.not_mem_nil, or_false] at hb
    subst hb
    rw [hKe a ha, hKl]
    exact (h.mem a ha).2.2.2
  · intro e he
    rw [hpush] at he
    rcases List.mem_append.1 he with h1 | h1
    · have := h.mem e h1
      rw [hKe e h1, hn, hp]
      exact ⟨by omega, this.2.1, this.2.2.1, by omega⟩
    · simp only [List.mem_cons, List.not_mem_nil, or_false] at h1
      subst h1
      rw [hKl, hn, hp]
      exact ⟨by simp; omega, rfl, rfl, by simp; omega⟩

theorem pre_change {K K' : Nat → Kvn} {L : List Nat} {i : Nat} (h : HeapO K L) (hn : L.Nodup) (hi : i < L.length) (he : ∀ x, x ≠ L.getD i 0 → K' x = K x) : Pre K' L i := by
  have ne : ∀ j, j < L.length → j ≠ i → L.getD j 0 ≠ L.getD i 0 := fun j hj hji e => hji (getD_inj hn hj hi e)
  refine ⟨fun j h0 hj h1 h2 => ?_, fun j h0 hj h1 h2 => ?_⟩
  · rw [ltK_congr (he _ (ne j hj h1)) (he _ (ne _ (by omega) h2))]
    exact h j h0 hj
  · rw [ltK_congr (he _ (ne j hj (by omega))) (he _ (ne _ (by omega) (by omega)))]
    have hp := h j h0 hj
    rw [h1] at hp
    exact nlt_trans hp (h i h2 hi)

/-- The body behind a change of a key, the layout settled. -/
theorem Inv.change {s : Bd} {S : List El} {P : Nat} (h : Inv s S P) {x : Nat} {k : Int} {s' : Bd}
    (hn : s'.n = s.n) (hK : ∀ y, s'.K y = if y = x then ⟨k, (s.K x).val, (s.K x).num⟩ else s.K y) (hW : s'.W = s.W) (hp : s'.pushed = s.pushed)
    (hs : Settled s'.K s.its s'.its s'.X) : Inv s' (changeS S x k) P := by
  have hnum : ∀ y, (s'.K y).num = (s.K y).num := fun y => by rw [hK]; split <;> simp_all
  have hval : ∀ y, (s'.K y).val = (s.K y).val := fun y => by rw [hK]; split <;> simp_all
  refine ⟨by rw [hn]; exact h.n_le, by rw [hW]; exact h.word, by rw [hW, hs_change]; exact h.bits, by rw [hs_change]; exact hs.perm.trans h.perm, ?_, ?_, hs.idx, hs.heap, by rw [hp]; exact h.p0, by rw [hp]; exact h.p1⟩
  · unfold changeS
    rw [List.pairwise_map]
    refine h.nums.imp (fun {a b} hab => ?_)
    rw [hnum, hnum]
    have e1 : (if a.h = x then (⟨a.h, a.v, k⟩ : El) else a).h = a.h := by split <;> rfl
    have e2 : (if b.h = x then (⟨b.h, b.v, k⟩ : El) else b).h = b.h := by split <;> rfl
    rw [e1, e2]
    exact hab
  · intro e he
    obtain ⟨a, ha, rfl⟩ := List.mem_map.1 he
    have hm := h.mem a ha
    rw [hn, hp]
    by_cases e : a.h = x
    · rw [if_pos e]
      refine ⟨hm.1, ?_, by rw [hval]; exact hm.2.2.1, by rw [hnum]; exact hm.2.2.2⟩
      show (s'.K a.h).key = k
      rw [hK, if_pos e]
    · rw [if_neg e]
      refine ⟨hm.1, ?_, by rw [hval]; exact hm.2.2.1, by rw [hnum]; exact hm.2.2.2⟩
      rw [hK, if_neg e]
      exact hm.2.1

/-- The body behind a removal. -/
theorem Inv.remove {s : Bd} {S : List El} {P : Nat} (h : Inv s S P) {x : Nat} (hx : x ∈ hsOf S) {s' : Bd} {L : List Nat} {X : Nat → Int}
    (hn : s'.n = s.n) (hK : ∀ y, y ≠ x → s'.K y = s.K y) (hX : ∀ y, y ≠ x → s'.X y = X y) (hits : s'.its = L) (hW : s'.W = flipW s.W x) (hp : s'.pushed = s.pushed)
    (hr : Removed s.K s.its x L X) : Inv s' (removeS S x) P := by
  have hx1 : x < 1024 := by have := h.hlt x hx; have := h.n_le; omega
  have hnd : (x :: L).Nodup := (hr.perm.nodup_iff).2 h.nodup
  have hxL : x ∉ L := (List.nodup_cons.1 hnd).1
  have hne : ∀ y, y ∈ L → y ≠ x := fun y hy e => hxL (e ▸ hy)
  have hmem : ∀ e, e ∈ removeS S x → e ∈ S ∧ e.h ≠ x := fun e he => by
    have := List.mem_filter.1 he
    exact ⟨this.1, by simpa using this.2⟩
  refine ⟨by rw [hn]; exact h.n_le, by rw [hW]; exact flipW_lt s.W x h.word hx1, ?_, ?_, ?_, ?_, ?_, ?_, by rw [hp]; exact h.p0, by rw [hp]; exact h.p1⟩
  · intro y hy
    rw [hW, bitOf_flip, hs_remove]
    have hbx := (h.bits x hx1).2 hx
    by_cases e : y = x
    · subst e; rw [if_pos rfl, hbx]; simp
    · rw [if_neg e, h.bits y hy]; simp [e]
  · rw [hits, hs_remove]
    have h1 := (hr.perm.trans h.perm).filter (fun y => decide (y ≠ x))
    rw [List.filter_cons_of_neg (by simp)] at h1
    rw [List.filter_eq_self.2 (fun y hy => by simpa using hne y hy)] at h1
    exact h1
  · refine (h.nums.sublist List.filter_sublist).imp_of_mem (fun {a b} ha hb hab => ?_)
    rw [hK _ (hmem a ha).2, hK _ (hmem b hb).2]
    exact hab
  · intro e he
    have hm := hmem e he
    have := h.mem e hm.1
    rw [hK _ hm.2, hn, hp]
    exact this
  · rw [hits]
    exact idxAll_congr hr.idx (fun y hy => (hX y (hne y hy)).symm)
  · rw [hits]
    exact heapO_congr hr.heap (fun y hy => (hK y (hne y hy)).symm)
end Go.Proofs.YtpbnbddjfebenaaDoor
