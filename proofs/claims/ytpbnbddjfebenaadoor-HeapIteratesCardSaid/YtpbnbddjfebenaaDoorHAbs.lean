/- What a heap is, without any memory: a list of elements in the order in which they were pushed. -/
import Derived.Test.YtpbnbddjfebenaaDoorHRem
namespace Go.Proofs.YtpbnbddjfebenaaDoor
set_option linter.unusedVariables false
set_option linter.unusedSimpArgs false

/-- An element: handle, value, key. -/
structure El where
  h : Nat
  v : Int
  k : Int
instance : Inhabited El := ⟨⟨0, 0, 0⟩⟩

def hsOf (S : List El) : List Nat := S.map El.h

/-- The lowest number that is not a handle. -/
def lowFrom (hs : List Nat) : Nat → Nat → Nat
  | 0, k => k
  | f + 1, k => if k ∈ hs then lowFrom hs f (k + 1) else k
def lowOf (hs : List Nat) : Nat := lowFrom hs hs.length 0
theorem lowFrom_eq (hs : List Nat) (l : Nat) (h1 : l ∉ hs) (h2 : ∀ j, j < l → j ∈ hs) : ∀ f k, k ≤ l → l ≤ k + f → lowFrom hs f k = l
  | 0, k, hk, hf => by unfold lowFrom; omega
  | f + 1, k, hk, hf => by
    unfold lowFrom
    by_cases e : k = l
    · subst e; rw [if_neg h1]
    · rw [if_pos (h2 k (by omega))]; exact lowFrom_eq hs l h1 h2 f (k + 1) (by omega) (by omega)
theorem lowOf_eq {hs : List Nat} {l : Nat} (h1 : l ∉ hs) (h2 : ∀ j, j < l → j ∈ hs) : lowOf hs = l := by
  have hl : l ≤ hs.length := by
    have := List.Nodup.length_le_of_subset (List.nodup_range (n := l)) (l₂ := hs) (fun j hj => h2 j (List.mem_range.1 hj))
    simpa using this
  exact lowFrom_eq hs l h1 h2 _ _ (by omega) (by omega)

def pushS (S : List El) (k v : Int) : List El := S ++ [⟨lowOf (hsOf S), v, k⟩]
def changeS (S : List El) (h : Nat) (k : Int) : List El := S.map fun e => if e.h = h then ⟨e.h, e.v, k⟩ else e
def removeS (S : List El) (h : Nat) : List El := S.filter fun e => decide (e.h ≠ h)

theorem hs_push (S : List El) (k v : Int) : hsOf (pushS S k v) = hsOf S ++ [lowOf (hsOf S)] := by simp [hsOf, pushS]
theorem hs_change (S : List El) (h : Nat) (k : Int) : hsOf (changeS S h k) = hsOf S := by
  simp only [hsOf, changeS, List.map_map]
  apply List.map_congr_left
  intro e _
  simp only [Function.comp_apply]
  split <;> rfl
theorem hs_remove (S : List El) (h : Nat) : hsOf (removeS S h) = (hsOf S).filter fun x => decide (x ≠ h) := by
  simp only [hsOf, removeS, List.filter_map]
  rfl

/-- The place of the element that comes first. -/
def bestFrom : List El → Nat → Nat → Int → Nat
  | [], _, b, _ => b
  | e :: r, i, b, k => if e.k < k then bestFrom r (i + 1) i e.k else bestFrom r (i + 1) b k
def best : List El → Nat
  | [] => 0
  | e :: r => bestFrom r 1 0 e.k

/-- b is the first place of the smallest key of S. -/
structure IsBest (S : List El) (b : Nat) : Prop where
  lt : b < S.length
  least : ∀ j (hj : j < S.length), (S[b]'lt).k ≤ S[j].k
  first : ∀ j (hj : j < b), (S[b]'lt).k < (S[j]'(by omega)).k

theorem isBest_step {S : List El} {i b : Nat} (hi : i < S.length) (hb : b < i) (l1 : ∀ j (hj : j < i), S[b].k ≤ S[j].k) (l2 : ∀ j (hj : j < b), S[b].k < S[j].k) : ∀ n, n = S.length - i → IsBest S (bestFrom (S.drop i) i b S[b].k) := by
  intro n
  induction n generalizing i b with
  | zero => intro h; omega
  | succ n ih =>
    intro h
    rw [List.drop_eq_getElem_cons hi]
    unfold bestFrom
    by_cases hlt : S[i].k < S[b].k
    · rw [if_pos hlt]
      by_cases hi2 : i + 1 < S.length
      · exact ih hi2 (b := i) (by omega) (fun j hj => by
          by_cases e : j = i
          · subst e; exact Int.le_refl _
          · have := l1 j (by omega); omega) (fun j hj => by have := l1 j hj; omega) (by omega)
      · have hd : S.drop (i + 1) = [] := List.drop_eq_nil_of_le (by omega)
        rw [hd]
        refine ⟨hi, fun j hj => ?_, fun j hj => ?_⟩
        · show S[i].k ≤ _
          by_cases e : j = i
          · subst e; exact Int.le_refl _
          · have := l1 j (by omega); omega
        · show S[i].k < _
          have := l1 j (by have : j < i := hj; omega); omega
    · rw [if_neg hlt]
      by_cases hi2 : i + 1 < S.length
      · exact ih hi2 (b := b) (by omega) (fun j hj => by
          by_cases e : j = i
          · subst e; omega
          · exact l1 j (by omega)) l2 (by omega)
      · have hd : S.drop (i + 1) = [] := List.drop_eq_nil_of_le (by omega)
        rw [hd]
        refine ⟨by show b < _; omega, fun j hj => ?_, fun j hj => ?_⟩
        · show S[b].k ≤ _
          by_cases e : j = i
          · subst e; omega
          · exact l1 j (by omega)
        · exact l2 j hj
theorem isBest_best {S : List El} (h : 0 < S.length) : IsBest S (best S) := by
  cases S with
  | nil => simp at h
  | cons e r =>
    unfold best
    by_cases h1 : 1 < (e :: r).length
    · have := isBest_step (S := e :: r) (i := 1) (b := 0) h1 (by omega) (fun j hj => by
        obtain rfl : j = 0 := by omega
        exact Int.le_refl _) (fun j hj => by omega) _ rfl
      exact this
    · have : r = [] := by simp at h1; exact h1
      subst this
      refine ⟨by simp [bestFrom], fun j hj => ?_, fun j hj => ?_⟩
      · obtain rfl : j = 0 := by simp at hj; omega
        exact Int.le_refl _
      · simp [bestFrom] at hj

/-- The handles in order. -/
def orderN : Nat → List El → List Nat
  | 0, _ => []
  | f + 1, S => if h : 0 < S.length then (S[best S]'(isBest_best h).lt).h :: orderN f (S.eraseIdx (best S)) else []
def order (S : List El) : List Nat := orderN S.length S
theorem order_nil : order [] = [] := rfl
theorem order_cons {S : List El} (h : 0 < S.length) : order S = (S[best S]'(isBest_best h).lt).h :: order (S.eraseIdx (best S)) := by
  obtain ⟨n, hn⟩ : ∃ n, S.length = n + 1 := ⟨S.length - 1, by omega⟩
  unfold order
  rw [hn]
  show (if h : 0 < S.length then _ else _) = _
  rw [dif_pos h]
  have hl : (S.eraseIdx (best S)).length = n := by rw [List.length_eraseIdx_of_lt (isBest_best h).lt, hn]; rfl
  rw [hl]

theorem eraseIdx_perm {α : Type} (L : List α) (i : Nat) (h : i < L.length) : (L[i] :: L.eraseIdx i).Perm L := by
  have e2 : L = L.take i ++ L[i] :: L.drop (i + 1) := by rw [← List.drop_eq_getElem_cons h, List.take_append_drop]
  have e1 : L.eraseIdx i = L.take i ++ L.drop (i + 1) := List.eraseIdx_eq_take_drop_succ L i
  rw [e1]
  have h1 : (L[i] :: (L.take i ++ L.drop (i + 1))).Perm (L.take i ++ L[i] :: L.drop (i + 1)) := List.perm_middle.symm
  rwa [← e2] at h1

theorem order_perm : ∀ (n : Nat) (S : List El), S.length = n → (order S).Perm (hsOf S)
  | 0, S, h => by have := List.eq_nil_of_length_eq_zero h; subst this; exact List.Perm.refl _
  | n + 1, S, h => by
    have h0 : 0 < S.length := by omega
    rw [order_cons h0]
    have hb := (isBest_best h0).lt
    have hl : (S.eraseIdx (best S)).length = n := by rw [List.length_eraseIdx_of_lt hb, h]; rfl
    have h1 := (eraseIdx_perm S (best S) hb).map El.h
    exact (List.Perm.cons _ (order_perm n _ hl)).trans h1

/-- The keys and numbers that a memory keeps of the elements. -/
structure Keeps (K : Nat → Kvn) (S : List El) : Prop where
  nums : S.Pairwise (fun a b => (K a.h).num < (K b.h).num)
  key : ∀ e ∈ S, (K e.h).key = e.k

theorem Keeps.sub {K : Nat → Kvn} {S T : List El} (h : Keeps K S) (hs : T.Sublist S) : Keeps K T := ⟨h.nums.sublist hs, fun e he => h.key e (hs.subset he)⟩
theorem Keeps.nodup {K : Nat → Kvn} {S : List El} (h : Keeps K S) : (hsOf S).Nodup := by
  unfold hsOf
  rw [List.nodup_iff_pairwise_ne, List.pairwise_map]
  exact h.nums.imp (fun {a b} hab he => by rw [he] at hab; omega)

theorem order_sorted {K : Nat → Kvn} : ∀ (n : Nat) (S : List El), S.length = n → Keeps K S → (order S).Pairwise (ltK K)
  | 0, S, h, _ => by have := List.eq_nil_of_length_eq_zero h; subst this; exact List.Pairwise.nil
  | n + 1, S, h, hk => by
    have h0 : 0 < S.length := by omega
    rw [order_cons h0]
    have hB := isBest_best h0
    have hl : (S.eraseIdx (best S)).length = n := by rw [List.length_eraseIdx_of_lt hB.lt, h]; rfl
    refine List.Pairwise.cons ?_ (order_sorted n _ hl (hk.sub (List.eraseIdx_sublist _ _)))
    intro x hx
    have hx' := (order_perm n _ hl).mem_iff.1 hx
    obtain ⟨e, he, rfl⟩ := List.mem_map.1 hx'
    obtain ⟨j, hj, rfl⟩ := List.getElem_of_mem he
    rw [List.getElem_eraseIdx]
    have hP := List.pairwise_iff_getElem.1 hk.nums
    have kb := hk.key _ (List.getElem_mem hB.lt)
    rw [List.length_eraseIdx_of_lt hB.lt] at hj
    unfold ltK
    split
    · rename_i hlt
      have := hB.first j hlt
      have kj := hk.key _ (List.getElem_mem (show j < S.length by omega))
      left; omega
    · rename_i hge
      have hle := hB.least (j + 1) (by omega)
      have kj := hk.key _ (List.getElem_mem (show j + 1 < S.length by omega))
      have hn := hP (best S) (j + 1) hB.lt (by omega) (by omega)
      rcases Int.lt_or_le (S[best S].k) (S[j + 1].k) with h1 | h1
      · left; omega
      · right; exact ⟨by omega, hn⟩

/-- Whatever holds the same handles in order is the order. -/
theorem order_unique {K : Nat → Kvn} {S : List El} (hk : Keeps K S) {L : List Nat} (hp : L.Perm (hsOf S)) (hs : L.Pairwise (fun a b => ¬ ltK K b a)) : L = order S := by
  have ho := order_sorted S.length S rfl hk
  have hop := order_perm S.length S rfl
  have hnd := hk.nodup
  refine List.Perm.eq_of_pairwise (le := fun a b => ¬ ltK K b a) ?_ hs (ho.imp fun {a b} h => ltK_asymm h) (hp.trans hop.symm)
  intro a b ha hb h1 h2
  have ha' := hp.mem_iff.1 ha
  have hb' := hop.mem_iff.1 hb
  -- equal keys and numbers: one handle
  obtain ⟨x, hx, rfl⟩ := List.mem_map.1 ha'
  obtain ⟨y, hy, rfl⟩ := List.mem_map.1 hb'
  obtain ⟨i, hi, rfl⟩ := List.getElem_of_mem hx
  obtain ⟨j, hj, rfl⟩ := List.getElem_of_mem hy
  have hP := List.pairwise_iff_getElem.1 hk.nums
  unfold ltK at h1 h2
  rcases Nat.lt_trichotomy i j with h | h | h
  · have := hP i j hi hj h; omega
  · subst h; rfl
  · have := hP j i hj hi h; omega

theorem heap_root {K : Nat → Kvn} {L : List Nat} (h : HeapO K L) : ∀ n j, j ≤ n → j < L.length → ¬ ltK K (L.getD j 0) (L.getD 0 0) := by
  intro n
  induction n with
  | zero =>
    intro j hj _
    obtain rfl : j = 0 := by omega
    exact ltK_irrefl _ _
  | succ n ih =>
    intro j hj hl
    by_cases h0 : j = 0
    · subst h0; exact ltK_irrefl _ _
    · exact nlt_trans (h j (by omega) hl) (ih ((j - 1) / 4) (by omega) (by omega))

/-- The root is the first one in order. -/
theorem root_order {K : Nat → Kvn} {S : List El} (hk : Keeps K S) {L : List Nat} (hp : L.Perm (hsOf S)) (hh : HeapO K L) (hl : 0 < L.length) : (order S).head? = some (L.getD 0 0) := by
  have hS : 0 < S.length := by have := hp.length_eq; simp [hsOf] at this; omega
  have hop := order_perm S.length S rfl
  have ho := order_sorted S.length S rfl hk
  obtain ⟨a, r, hr⟩ : ∃ a r, order S = a :: r := ⟨_, _, order_cons hS⟩
  rw [hr]
  have hmem : L.getD 0 0 ∈ order S := hop.mem_iff.2 (hp.mem_iff.1 (getD_mem L 0 hl))
  rw [hr] at hmem ho hop
  rcases List.mem_cons.1 hmem with e | e
  · rw [e]; rfl
  · have h1 := (List.pairwise_cons.1 ho).1 _ e
    have ha : a ∈ L := hp.mem_iff.2 (hop.mem_iff.1 (by simp))
    obtain ⟨j, hj, hja⟩ := List.getElem_of_mem ha
    have h2 := heap_root hh j j (Nat.le_refl _) hj
    have e3 : L.getD j 0 = a := by simp [List.getD_eq_getElem?_getD, hj, hja]
    rw [e3] at h2
    exact absurd h1 h2
theorem order_ne_nil {S : List El} (h : 0 < S.length) : order S ≠ [] := by rw [order_cons h]; simp
end Go.Proofs.YtpbnbddjfebenaaDoor
