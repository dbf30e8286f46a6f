/- What timers are, without any memory: elements in the order in which they were set, and how often each number was given back. -/
import Derived.Test.YthlbnlbkgiclpaaDoorHAbs
namespace Go.Proofs.YthlbnlbkgiclpaaDoor
set_option linter.unusedVariables false
set_option linter.unusedSimpArgs false

/-- The first element in order. -/
def fstE (S : List El) : Option El := if h : 0 < S.length then some (S[best S]'(isBest_best h).lt) else none
theorem fstE_nil : fstE [] = none := rfl
theorem fstE_some {S : List El} (h : 0 < S.length) : fstE S = some (S[best S]'(isBest_best h).lt) := by unfold fstE; rw [dif_pos h]
theorem fstE_none {S : List El} (h : fstE S = none) : S = [] := by
  cases S with
  | nil => rfl
  | cons e r => rw [fstE_some (by simp)] at h; simp at h
theorem fstE_mem {S : List El} {e : El} (h : fstE S = some e) : e ∈ S := by
  by_cases h0 : 0 < S.length
  · rw [fstE_some h0] at h
    rw [← Option.some.inj h]
    exact List.getElem_mem _
  · have : S = [] := List.eq_nil_of_length_eq_zero (by omega)
    subst this; simp [fstE_nil] at h
theorem fstE_least {S : List El} {e : El} (h : fstE S = some e) : ∀ f ∈ S, e.k ≤ f.k := by
  intro f hf
  have h0 : 0 < S.length := List.length_pos_of_mem hf
  rw [fstE_some h0] at h
  rw [← Option.some.inj h]
  obtain ⟨j, hj, rfl⟩ := List.getElem_of_mem hf
  exact (isBest_best h0).least j hj
theorem fstE_order (S : List El) : (order S).head? = (fstE S).map El.h := by
  by_cases h0 : 0 < S.length
  · rw [fstE_some h0, order_cons h0]; rfl
  · have : S = [] := List.eq_nil_of_length_eq_zero (by omega)
    subst this; rfl
theorem fstE_pos {S : List El} (h : 0 < S.length) : ∃ e, fstE S = some e := ⟨_, fstE_some h⟩

/-- What a name has been given back. -/
def bump (gs : List Nat) (x : Nat) : List Nat := gs.set x (gs.getD x 0 + 1)
theorem bump_len (gs : List Nat) (x : Nat) : (bump gs x).length = gs.length := by simp [bump]
theorem bump_get (gs : List Nat) (x y : Nat) (hx : x < gs.length) : (bump gs x).getD y 0 = gs.getD y 0 + (if y = x then 1 else 0) := by
  unfold bump
  simp only [List.getD_eq_getElem?_getD, List.getElem?_set]
  by_cases h : x = y
  · subst h; simp [hx]
  · have h' : ¬ y = x := fun q => h q.symm
    simp [h, h']

/-- A timer that has expired. -/
structure Du where
  n : Nat
  g : Nat
  o : Int
  k : Int

def dueOf (gs : List Nat) (e : El) : Du := ⟨e.h, gs.getD e.h 0, e.v, e.k⟩

/-- What expires at a time, what stays, and the generations then. -/
def expN : Nat → Int → List El → List Nat → List Du × List El × List Nat
  | 0, _, S, gs => ([], S, gs)
  | f + 1, now, S, gs =>
    match fstE S with
    | none => ([], S, gs)
    | some e => if e.k ≤ now then (dueOf gs e :: (expN f now (removeS S e.h) (bump gs e.h)).1, (expN f now (removeS S e.h) (bump gs e.h)).2) else ([], S, gs)
def expS (now : Int) (S : List El) (gs : List Nat) : List Du × List El × List Nat := expN S.length now S gs

theorem remove_lt {S : List El} {e : El} (h : e ∈ S) : (removeS S e.h).length < S.length := List.length_filter_lt_length_iff_exists.2 ⟨e, h, by simp⟩

theorem expN_fuel : ∀ (f g : Nat) (now : Int) (S : List El) (gs : List Nat), S.length ≤ f → S.length ≤ g → expN f now S gs = expN g now S gs
  | 0, g, now, S, gs, h, _ => by
    have : S = [] := List.eq_nil_of_length_eq_zero (by omega)
    subst this
    cases g with
    | zero => rfl
    | succ g => rfl
  | f + 1, 0, now, S, gs, _, h => by
    have : S = [] := List.eq_nil_of_length_eq_zero (by omega)
    subst this
    rfl
  | f + 1, g + 1, now, S, gs, h1, h2 => by
    unfold expN
    cases hf : fstE S with
    | none => rfl
    | some e =>
      have hlt := remove_lt (fstE_mem hf)
      simp only
      rw [expN_fuel f g now _ _ (by omega) (by omega)]
theorem expS_none {now : Int} {S : List El} {gs : List Nat} (h : fstE S = none) : expS now S gs = ([], S, gs) := by
  obtain rfl := fstE_none h
  rfl
theorem expS_late {now : Int} {S : List El} {gs : List Nat} {e : El} (h : fstE S = some e) (hk : ¬ e.k ≤ now) : expS now S gs = ([], S, gs) := by
  obtain ⟨n, hn⟩ : ∃ n, S.length = n + 1 := ⟨S.length - 1, by have := List.length_pos_of_mem (fstE_mem h); omega⟩
  unfold expS
  rw [hn]
  unfold expN
  rw [h]
  simp only
  rw [if_neg hk]
theorem expS_due {now : Int} {S : List El} {gs : List Nat} {e : El} (h : fstE S = some e) (hk : e.k ≤ now) :
    expS now S gs = (dueOf gs e :: (expS now (removeS S e.h) (bump gs e.h)).1, (expS now (removeS S e.h) (bump gs e.h)).2) := by
  obtain ⟨n, hn⟩ : ∃ n, S.length = n + 1 := ⟨S.length - 1, by have := List.length_pos_of_mem (fstE_mem h); omega⟩
  have hlt := remove_lt (fstE_mem h)
  have h1 : expS now S gs = expN (n + 1) now S gs := by unfold expS; rw [hn]
  rw [h1]
  unfold expN
  rw [h]
  simp only
  rw [if_pos hk, expN_fuel n (removeS S e.h).length now _ _ (by omega) (Nat.le_refl _)]
  rfl

theorem removeS_filter (S : List El) (x : Nat) (p : El → Bool) : (removeS S x).filter p = removeS (S.filter p) x := by
  unfold removeS
  rw [List.filter_filter, List.filter_filter]
  congr 1
  funext e
  exact Bool.and_comm _ _
/-- What stays is what is later. -/
theorem expS_rest : ∀ (n : Nat) (now : Int) (S : List El) (gs : List Nat), S.length = n → (hsOf S).Nodup → (expS now S gs).2.1 = S.filter fun e => decide (now < e.k)
  | n, now, S, gs, hn, hnd => by
    cases hf : fstE S with
    | none =>
      rw [expS_none hf]
      obtain rfl := fstE_none hf
      rfl
    | some e =>
      by_cases hk : e.k ≤ now
      · have hlt := remove_lt (fstE_mem hf)
        rw [expS_due hf hk]
        simp only
        have hnd' : (hsOf (removeS S e.h)).Nodup := by rw [hs_remove]; exact hnd.filter _
        rw [expS_rest (removeS S e.h).length now _ _ rfl hnd', removeS_filter]
        unfold removeS
        rw [List.filter_eq_self]
        intro f hf'
        obtain ⟨hm, hlt'⟩ := List.mem_filter.1 hf'
        simp only [decide_eq_true_eq] at hlt' ⊢
        intro q
        obtain ⟨i, hi, rfl⟩ := List.getElem_of_mem hm
        obtain ⟨j, hj, hje⟩ := List.getElem_of_mem (fstE_mem hf)
        have : i = j := (List.getElem_inj (xs := hsOf S) (h₀ := by simpa [hsOf] using hi) (h₁ := by simpa [hsOf] using hj) hnd).1 (by simp [hsOf, hje, q])
        subst this
        rw [hje] at hlt'
        omega
      · rw [expS_late hf hk]
        simp only
        symm
        rw [List.filter_eq_self]
        intro f hf'
        have := fstE_least hf f hf'
        simp only [decide_eq_true_eq]
        omega
  termination_by n => n
  decreasing_by omega

theorem filter_all {S : List El} {now : Int} (h : ∀ f ∈ S, now < f.k) : (S.filter fun e => decide (now < e.k)) = S := by
  rw [List.filter_eq_self]
  intro f hf
  simp only [decide_eq_true_eq]
  exact h f hf

/-- To expire at one time and then at a later one. -/
theorem expS_two : ∀ (n : Nat) (one two : Int) (S : List El) (gs : List Nat), S.length = n → one ≤ two →
    (expS two S gs).1 = (expS one S gs).1 ++ (expS two (expS one S gs).2.1 (expS one S gs).2.2).1 ∧ (expS two S gs).2 = (expS two (expS one S gs).2.1 (expS one S gs).2.2).2
  | n, one, two, S, gs, hn, ho => by
    cases hf : fstE S with
    | none => rw [expS_none (now := one) hf]; exact ⟨rfl, rfl⟩
    | some e =>
      by_cases hk : e.k ≤ one
      · have hlt := remove_lt (fstE_mem hf)
        have ih := expS_two (removeS S e.h).length one two (removeS S e.h) (bump gs e.h) rfl ho
        rw [expS_due (now := one) hf hk, expS_due (now := two) hf (by omega)]
        simp only
        exact ⟨by rw [ih.1]; rfl, ih.2⟩
      · rw [expS_late (now := one) hf hk]; exact ⟨rfl, rfl⟩
  termination_by n => n
  decreasing_by omega

theorem expS_le : ∀ (n : Nat) (now : Int) (S : List El) (gs : List Nat), S.length = n → ∀ d ∈ (expS now S gs).1, d.k ≤ now ∧ ∃ e ∈ S, e.k = d.k
  | n, now, S, gs, hn => by
    cases hf : fstE S with
    | none => rw [expS_none hf]; intro d hd; simp at hd
    | some e =>
      by_cases hk : e.k ≤ now
      · have hlt := remove_lt (fstE_mem hf)
        have ih := expS_le (removeS S e.h).length now (removeS S e.h) (bump gs e.h) rfl
        rw [expS_due hf hk]
        intro d hd
        rcases List.mem_cons.1 hd with rfl | hd
        · exact ⟨hk, e, fstE_mem hf, rfl⟩
        · obtain ⟨h1, e', he', h2⟩ := ih d hd
          exact ⟨h1, e', (List.mem_filter.1 he').1, h2⟩
      · rw [expS_late hf hk]; intro d hd; simp at hd
  termination_by n => n
  decreasing_by omega

theorem expS_sorted : ∀ (n : Nat) (now : Int) (S : List El) (gs : List Nat), S.length = n → (expS now S gs).1.Pairwise (fun a b => a.k ≤ b.k)
  | n, now, S, gs, hn => by
    cases hf : fstE S with
    | none => rw [expS_none hf]; exact List.Pairwise.nil
    | some e =>
      by_cases hk : e.k ≤ now
      · have hlt := remove_lt (fstE_mem hf)
        rw [expS_due hf hk]
        refine List.Pairwise.cons (fun d hd => ?_) (expS_sorted (removeS S e.h).length now (removeS S e.h) (bump gs e.h) rfl)
        obtain ⟨_, e', he', h2⟩ := expS_le _ now (removeS S e.h) (bump gs e.h) rfl d hd
        rw [← h2]
        exact fstE_least hf e' ((List.mem_filter.1 he').1)
      · rw [expS_late hf hk]; exact List.Pairwise.nil
  termination_by n => n
  decreasing_by omega
theorem expS_len : ∀ (n : Nat) (now : Int) (S : List El) (gs : List Nat), S.length = n → (expS now S gs).1.length ≤ n ∧ (expS now S gs).2.1.length ≤ n
  | n, now, S, gs, hn => by
    cases hf : fstE S with
    | none => rw [expS_none hf]; exact ⟨by simp, by simp [hn]⟩
    | some e =>
      by_cases hk : e.k ≤ now
      · have hlt := remove_lt (fstE_mem hf)
        have ih := expS_len (removeS S e.h).length now (removeS S e.h) (bump gs e.h) rfl
        rw [expS_due hf hk]
        simp only [List.length_cons]
        omega
      · rw [expS_late hf hk]; exact ⟨by simp, by simp [hn]⟩
  termination_by n => n
  decreasing_by omega
end Go.Proofs.YthlbnlbkgiclpaaDoor
