/- What HeapHolds knows of the elements: pushed one after the other, values increasing; the table of those that are in. -/
import Derived.Test.YtpbnbddjfebenaaDoorLLow
import Derived.Test.YtpbnbddjfebenaaDoorLActs
import Derived.Test.YtpbnbddjfebenaaDoorLKnown
import Derived.Deep.LoopGhost
namespace Go.Proofs.YtpbnbddjfebenaaDoor
open Go.RowKit Go.Sort
set_option linter.unusedVariables false
set_option linter.unusedSimpArgs false

structure Hs (S : List El) (i : Nat) : Prop where
  vs : S.Pairwise (fun a b => a.v < b.v)
  vb : ∀ e ∈ S, 0 ≤ e.v ∧ e.v < i
  kb : ∀ e ∈ S, 0 ≤ e.k
  hb : ∀ x, x ∈ hsOf S → x < i
  len : S.length ≤ i

theorem Hs.nil : Hs [] 0 := ⟨List.Pairwise.nil, by simp, by simp, by simp [hsOf], by simp⟩
theorem Hs.more {S : List El} {i : Nat} (h : Hs S i) : Hs S (i + 1) := ⟨h.vs, fun e he => by have := h.vb e he; omega, h.kb, fun x hx => by have := h.hb x hx; omega, by have := h.len; omega⟩
theorem Hs.push {S : List El} {i : Nat} (h : Hs S i) (k : Int) (hk : 0 ≤ k) : Hs (pushS S k i) (i + 1) := by
  have hlen := h.len
  have hll : lowOf (hsOf S) ≤ i := by have := low_le (hsOf S); simp [hsOf] at this; simp [hsOf]; omega
  refine ⟨?_, ?_, ?_, ?_, by simp [pushS]; omega⟩
  · refine List.pairwise_append.2 ⟨h.vs, List.pairwise_singleton _ _, fun a ha b hb => ?_⟩
    simp at hb; subst hb
    exact (h.vb a ha).2
  · intro e he
    rcases List.mem_append.1 he with he | he
    · have := h.vb e he; omega
    · simp at he; subst he; exact ⟨by show (0 : Int) ≤ (i : Int); omega, by show (i : Int) < ((i + 1 : Nat) : Int); omega⟩
  · intro e he
    rcases List.mem_append.1 he with he | he
    · exact h.kb e he
    · simp at he; subst he; exact hk
  · intro x hx
    rw [hs_push] at hx
    rcases List.mem_append.1 hx with hx | hx
    · have := h.hb x hx; omega
    · simp at hx; omega
theorem mem_change {S : List El} {h : Nat} {k : Int} {e : El} (he : e ∈ changeS S h k) : ∃ e' ∈ S, e.h = e'.h ∧ e.v = e'.v ∧ (e.k = e'.k ∨ e.k = k) := by
  obtain ⟨e', he', rfl⟩ := List.mem_map.1 he
  refine ⟨e', he', ?_⟩
  by_cases q : e'.h = h
  · simp [q]
  · simp [q]
theorem Hs.change {S : List El} {i : Nat} (h : Hs S i) (x : Nat) (k : Int) (hk : 0 ≤ k) : Hs (changeS S x k) (i + 1) := by
  have hm := h.more
  refine ⟨?_, ?_, ?_, by rw [hs_change]; exact hm.hb, by have := hm.len; simpa [changeS] using this⟩
  · refine List.pairwise_map.2 (h.vs.imp fun {a b} hab => ?_)
    split <;> split <;> exact hab
  · intro e he
    obtain ⟨e', he', _, hv, _⟩ := mem_change he
    rw [hv]; exact hm.vb e' he'
  · intro e he
    obtain ⟨e', he', _, _, hk' | hk'⟩ := mem_change he
    · rw [hk']; exact h.kb e' he'
    · rw [hk']; exact hk
theorem Hs.remove0 {S : List El} {i : Nat} (h : Hs S i) (x : Nat) : Hs (removeS S x) i := by
  have hsub : (removeS S x).Sublist S := List.filter_sublist
  refine ⟨h.vs.sublist hsub, fun e he => h.vb e (hsub.subset he), fun e he => h.kb e (hsub.subset he), fun y hy => h.hb y ?_, by have := hsub.length_le; have := h.len; omega⟩
  obtain ⟨e, he, rfl⟩ := List.mem_map.1 hy
  exact List.mem_map_of_mem (hsub.subset he)

/-- The table of those that are in. -/
structure InOk (S : List El) (f : Nat → Int) : Prop where
  yes : ∀ e ∈ S, f e.h = e.v + 1
  no : ∀ x, x ∉ hsOf S → f x = 0
theorem InOk.nil : InOk [] (fun _ => 0) := ⟨by simp, fun _ _ => rfl⟩
theorem InOk.push {S : List El} {f : Nat → Int} (h : InOk S f) (k v : Int) : InOk (pushS S k v) (upd f (lowOf (hsOf S)) (v + 1)) := by
  refine ⟨fun e he => ?_, fun x hx => ?_⟩
  · rcases List.mem_append.1 he with he | he
    · have : e.h ≠ lowOf (hsOf S) := fun q => low_not (hsOf S) (q ▸ List.mem_map_of_mem he)
      unfold upd; rw [if_neg this]; exact h.yes e he
    · simp at he; subst he; simp [upd]
  · rw [hs_push] at hx
    simp at hx
    unfold upd; rw [if_neg hx.2]; exact h.no x hx.1
theorem InOk.change {S : List El} {f : Nat → Int} (h : InOk S f) (x : Nat) (k : Int) : InOk (changeS S x k) f := by
  refine ⟨fun e he => ?_, fun y hy => h.no y (by rwa [hs_change] at hy)⟩
  obtain ⟨e', he', hh, hv, _⟩ := mem_change he
  rw [hh, hv]; exact h.yes e' he'
theorem InOk.remove {S : List El} {f : Nat → Int} (h : InOk S f) (x : Nat) : InOk (removeS S x) (upd f x 0) := by
  refine ⟨fun e he => ?_, fun y hy => ?_⟩
  · obtain ⟨he, hne⟩ := List.mem_filter.1 he
    simp at hne
    unfold upd; rw [if_neg hne]; exact h.yes e he
  · unfold upd
    by_cases q : y = x
    · rw [if_pos q]
    · rw [if_neg q]
      refine h.no y fun hm => hy ?_
      rw [hs_remove]
      simp [hm, q]

/-- The first one in order. -/
theorem pop_first {S : List El} {i : Nat} (h : Hs S i) (hS : 0 < S.length) : ∃ e ∈ S, (order S).head? = some e.h ∧ ∀ e' ∈ removeS S e.h, e.k < e'.k ∨ (e.k = e'.k ∧ e.v + 1 ≤ e'.v + 1) := by
  have ib := isBest_best hS
  refine ⟨S[best S]'ib.lt, List.getElem_mem _, by rw [order_cons hS]; rfl, fun e' he' => ?_⟩
  obtain ⟨he, hne⟩ := List.mem_filter.1 he'
  obtain ⟨j, hj, rfl⟩ := List.getElem_of_mem he
  have h1 := ib.least j hj
  rcases Nat.lt_trichotomy j (best S) with q | q | q
  · exact .inl (ib.first j q)
  · subst q; simp at hne
  · have := List.pairwise_iff_getElem.1 h.vs _ _ ib.lt hj q
    omega

end Go.Proofs.YtpbnbddjfebenaaDoor
