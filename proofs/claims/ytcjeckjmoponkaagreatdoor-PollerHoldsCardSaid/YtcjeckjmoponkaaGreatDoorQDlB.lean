/- QDlB: HAbs, HInv, HGet, HMut, HMut2, HPush2, HPush3, HClone, HCopy, LRow, LIn, LLow, merged. -/
import Derived.Test.YtcjeckjmoponkaaGreatDoorQDlA
import Derived.Laws.EntriesVeiled
import Derived.Deep.DeepCutAuto
import Derived.Lib.SliceRun
import Derived.WideShapes
/- What a heap is, without any memory: a list of elements in the order in which they were pushed. -/
namespace Go.Proofs.YtcjeckjmoponkaaGreatDoor.Dl
set_option linter.unusedVariables false
set_option linter.unusedSimpArgs false

/-- An element: handle, value, key. -/
structure El where
  h : Nat
  v : Int
  k : Int
instance : Inhabited El := ⟨⟨0, 0, 0⟩⟩

def hsOf (S : List El) : List Nat := S.map El.h

/-- The lowest number that is not a handle. -/
def lowFrom (hs : List Nat) : Nat → Nat → Nat
  | 0, k => k
  | f + 1, k => if k ∈ hs then lowFrom hs f (k + 1) else k
def lowOf (hs : List Nat) : Nat := lowFrom hs hs.length 0
theorem lowFrom_eq (hs : List Nat) (l : Nat) (h1 : l ∉ hs) (h2 : ∀ j, j < l → j ∈ hs) : ∀ f k, k ≤ l → l ≤ k + f → lowFrom hs f k = l
  | 0, k, hk, hf => by unfold lowFrom; omega
  | f + 1, k, hk, hf => by
    unfold lowFrom
    by_cases e : k = l
    · subst e; rw [if_neg h1]
    · rw [if_pos (h2 k (by omega))]; exact lowFrom_eq hs l h1 h2 f (k + 1) (by omega) (by omega)
theorem lowOf_eq {hs : List Nat} {l : Nat} (h1 : l ∉ hs) (h2 : ∀ j, j < l → j ∈ hs) : lowOf hs = l := by
  have hl : l ≤ hs.length := by
    have := List.Nodup.length_le_of_subset (List.nodup_range (n := l)) (l₂ := hs) (fun j hj => h2 j (List.mem_range.1 hj))
    simpa using this
  exact lowFrom_eq hs l h1 h2 _ _ (by omega) (by omega)

def pushS (S : List El) (k v : Int) : List El := S ++ [⟨lowOf (hsOf S), v, k⟩]
def changeS (S : List El) (h : Nat) (k : Int) : List El := S.map fun e => if e.h = h then ⟨e.h, e.v, k⟩ else e
def removeS (S : List El) (h : Nat) : List El := S.filter fun e => decide (e.h ≠ h)

theorem hs_push (S : List El) (k v : Int) : hsOf (pushS S k v) = hsOf S ++ [lowOf (hsOf S)] := by simp [hsOf, pushS]
theorem hs_change (S : List El) (h : Nat) (k : Int) : hsOf (changeS S h k) = hsOf S := by
  simp only [hsOf, changeS, List.map_map]
  apply List.map_congr_left
  intro e _
  simp only [Function.comp_apply]
  split <;> rfl
theorem hs_remove (S : List El) (h : Nat) : hsOf (removeS S h) = (hsOf S).filter fun x => decide (x ≠ h) := by
  simp only [hsOf, removeS, List.filter_map]
  rfl

/-- The place of the element that comes first. -/
def bestFrom : List El → Nat → Nat → Int → Nat
  | [], _, b, _ => b
  | e :: r, i, b, k => if e.k < k then bestFrom r (i + 1) i e.k else bestFrom r (i + 1) b k
def best : List El → Nat
  | [] => 0
  | e :: r => bestFrom r 1 0 e.k

/-- b is the first place of the smallest key of S. -/
structure IsBest (S : List El) (b : Nat) : Prop where
  lt : b < S.length
  least : ∀ j (hj : j < S.length), (S[b]'lt).k ≤ S[j].k
  first : ∀ j (hj : j < b), (S[b]'lt).k < (S[j]'(by omega)).k

theorem isBest_step {S : List El} {i b : Nat} (hi : i < S.length) (hb : b < i) (l1 : ∀ j (hj : j < i), S[b].k ≤ S[j].k) (l2 : ∀ j (hj : j < b), S[b].k < S[j].k) : ∀ n, n = S.length - i → IsBest S (bestFrom (S.drop i) i b S[b].k) := by
  intro n
  induction n generalizing i b with
  | zero => intro h; omega
  | succ n ih =>
    intro h
    rw [List.drop_eq_getElem_cons hi]
    unfold bestFrom
    by_cases hlt : S[i].k < S[b].k
    · rw [if_pos hlt]
      by_cases hi2 : i + 1 < S.length
      · exact ih hi2 (b := i) (by omega) (fun j hj => by
          by_cases e : j = i
          · subst e; exact Int.le_refl _
          · have := l1 j (by omega); omega) (fun j hj => by have := l1 j hj; omega) (by omega)
      · have hd : S.drop (i + 1) = [] := List.drop_eq_nil_of_le (by omega)
        rw [hd]
        refine ⟨hi, fun j hj => ?_, fun j hj => ?_⟩
        · show S[i].k ≤ _
          by_cases e : j = i
          · subst e; exact Int.le_refl _
          · have := l1 j (by omega); omega
        · show S[i].k < _
          have := l1 j (by have : j < i := hj; omega); omega
    · rw [if_neg hlt]
      by_cases hi2 : i + 1 < S.length
      · exact ih hi2 (b := b) (by omega) (fun j hj => by
          by_cases e : j = i
          · subst e; omega
          · exact l1 j (by omega)) l2 (by omega)
      · have hd : S.drop (i + 1) = [] := List.drop_eq_nil_of_le (by omega)
        rw [hd]
        refine ⟨by show b < _; omega, fun j hj => ?_, fun j hj => ?_⟩
        · show S[b].k ≤ _
          by_cases e : j = i
          · subst e; omega
          · exact l1 j (by omega)
        · exact l2 j hj
theorem isBest_best {S : List El} (h : 0 < S.length) : IsBest S (best S) := by
  cases S with
  | nil => simp at h
  | cons e r =>
    unfold best
    by_cases h1 : 1 < (e :: r).length
    · have := isBest_step (S := e :: r) (i := 1) (b := 0) h1 (by omega) (fun j hj => by
        obtain rfl : j = 0 := by omega
        exact Int.le_refl _) (fun j hj => by omega) _ rfl
      exact this
    · have : r = [] := by simp at h1; exact h1
      subst this
      refine ⟨by simp [bestFrom], fun j hj => ?_, fun j hj => ?_⟩
      · obtain rfl : j = 0 := by simp at hj; omega
        exact Int.le_refl _
      · simp [bestFrom] at hj

/-- The handles in order. -/
def orderN : Nat → List El → List Nat
  | 0, _ => []
  | f + 1, S => if h : 0 < S.length then (S[best S]'(isBest_best h).lt).h :: orderN f (S.eraseIdx (best S)) else []
def order (S : List El) : List Nat := orderN S.length S
theorem order_nil : order [] = [] := rfl
theorem order_cons {S : List El} (h : 0 < S.length) : order S = (S[best S]'(isBest_best h).lt).h :: order (S.eraseIdx (best S)) := by
  obtain ⟨n, hn⟩ : ∃ n, S.length = n + 1 := ⟨S.length - 1, by omega⟩
  unfold order
  rw [hn]
  show (if h : 0 < S.length then _ else _) = _
  rw [dif_pos h]
  have hl : (S.eraseIdx (best S)).length = n := by rw [List.length_eraseIdx_of_lt (isBest_best h).lt, hn]; rfl
  rw [hl]

theorem eraseIdx_perm {α : Type} (L : List α) (i : Nat) (h : i < L.length) : (L[i] :: L.eraseIdx i).Perm L := by
  have e2 : L = L.take i ++ L[i] :: L.drop (i + 1) := by rw [← List.drop_eq_getElem_cons h, List.take_append_drop]
  have e1 : L.eraseIdx i = L.take i ++ L.drop (i + 1) := List.eraseIdx_eq_take_drop_succ L i
  rw [e1]
  have h1 : (L[i] :: (L.take i ++ L.drop (i + 1))).Perm (L.take i ++ L[i] :: L.drop (i + 1)) := List.perm_middle.symm
  rwa [← e2] at h1

theorem order_perm : ∀ (n : Nat) (S : List El), S.length = n → (order S).Perm (hsOf S)
  | 0, S, h => by have := List.eq_nil_of_length_eq_zero h; subst this; exact List.Perm.refl _
  | n + 1, S, h => by
    have h0 : 0 < S.length := by omega
    rw [order_cons h0]
    have hb := (isBest_best h0).lt
    have hl : (S.eraseIdx (best S)).length = n := by rw [List.length_eraseIdx_of_lt hb, h]; rfl
    have h1 := (eraseIdx_perm S (best S) hb).map El.h
    exact (List.Perm.cons _ (order_perm n _ hl)).trans h1

/-- The keys and numbers that a memory keeps of the elements. -/
structure Keeps (K : Nat → Kvn) (S : List El) : Prop where
  nums : S.Pairwise (fun a b => (K a.h).num < (K b.h).num)
  key : ∀ e ∈ S, (K e.h).key = e.k

theorem Keeps.sub {K : Nat → Kvn} {S T : List El} (h : Keeps K S) (hs : T.Sublist S) : Keeps K T := ⟨h.nums.sublist hs, fun e he => h.key e (hs.subset he)⟩
theorem Keeps.nodup {K : Nat → Kvn} {S : List El} (h : Keeps K S) : (hsOf S).Nodup := by
  unfold hsOf
  rw [List.nodup_iff_pairwise_ne, List.pairwise_map]
  exact h.nums.imp (fun {a b} hab he => by rw [he] at hab; omega)

theorem order_sorted {K : Nat → Kvn} : ∀ (n : Nat) (S : List El), S.length = n → Keeps K S → (order S).Pairwise (ltK K)
  | 0, S, h, _ => by have := List.eq_nil_of_length_eq_zero h; subst this; exact List.Pairwise.nil
  | n + 1, S, h, hk => by
    have h0 : 0 < S.length := by omega
    rw [order_cons h0]
    have hB := isBest_best h0
    have hl : (S.eraseIdx (best S)).length = n := by rw [List.length_eraseIdx_of_lt hB.lt, h]; rfl
    refine List.Pairwise.cons ?_ (order_sorted n _ hl (hk.sub (List.eraseIdx_sublist _ _)))
    intro x hx
    have hx' := (order_perm n _ hl).mem_iff.1 hx
    obtain ⟨e, he, rfl⟩ := List.mem_map.1 hx'
    obtain ⟨j, hj, rfl⟩ := List.getElem_of_mem he
    rw [List.getElem_eraseIdx]
    have hP := List.pairwise_iff_getElem.1 hk.nums
    have kb := hk.key _ (List.getElem_mem hB.lt)
    rw [List.length_eraseIdx_of_lt hB.lt] at hj
    unfold ltK
    split
    · rename_i hlt
      have := hB.first j hlt
      have kj := hk.key _ (List.getElem_mem (show j < S.length by omega))
      left; omega
    · rename_i hge
      have hle := hB.least (j + 1) (by omega)
      have kj := hk.key _ (List.getElem_mem (show j + 1 < S.length by omega))
      have hn := hP (best S) (j + 1) hB.lt (by omega) (by omega)
      rcases Int.lt_or_le (S[best S].k) (S[j + 1].k) with h1 | h1
      · left; omega
      · right; exact ⟨by omega, hn⟩

theorem heap_root {K : Nat → Kvn} {L : List Nat} (h : HeapO K L) : ∀ n j, j ≤ n → j < L.length → ¬ ltK K (L.getD j 0) (L.getD 0 0) := by
  intro n
  induction n with
  | zero =>
    intro j hj _
    obtain rfl : j = 0 := by omega
    exact ltK_irrefl _ _
  | succ n ih =>
    intro j hj hl
    by_cases h0 : j = 0
    · subst h0; exact ltK_irrefl _ _
    · exact nlt_trans (h j (by omega) hl) (ih ((j - 1) / 4) (by omega) (by omega))

/-- The root is the first one in order. -/
theorem root_order {K : Nat → Kvn} {S : List El} (hk : Keeps K S) {L : List Nat} (hp : L.Perm (hsOf S)) (hh : HeapO K L) (hl : 0 < L.length) : (order S).head? = some (L.getD 0 0) := by
  have hS : 0 < S.length := by have := hp.length_eq; simp [hsOf] at this; omega
  have hop := order_perm S.length S rfl
  have ho := order_sorted S.length S rfl hk
  obtain ⟨a, r, hr⟩ : ∃ a r, order S = a :: r := ⟨_, _, order_cons hS⟩
  rw [hr]
  have hmem : L.getD 0 0 ∈ order S := hop.mem_iff.2 (hp.mem_iff.1 (getD_mem L 0 hl))
  rw [hr] at hmem ho hop
  rcases List.mem_cons.1 hmem with e | e
  · rw [e]; rfl
  · have h1 := (List.pairwise_cons.1 ho).1 _ e
    have ha : a ∈ L := hp.mem_iff.2 (hop.mem_iff.1 (by simp))
    obtain ⟨j, hj, hja⟩ := List.getElem_of_mem ha
    have h2 := heap_root hh j j (Nat.le_refl _) hj
    have e3 : L.getD j 0 = a := by simp [List.getD_eq_getElem?_getD, hj, hja]
    rw [e3] at h2
    exact absurd h1 h2
end Go.Proofs.YtcjeckjmoponkaaGreatDoor.Dl
/- What ties a body to the elements that it stands for, and how the calls keep it. -/
namespace Go.Proofs.YtcjeckjmoponkaaGreatDoor.Dl
open Go.RowKit
set_option linter.unusedVariables false
set_option linter.unusedSimpArgs false

structure Inv (s : Bd) (S : List El) (P : Nat) : Prop where
  n_le : s.n ≤ 1024
  word : ∀ i, i < 16 → s.W i < 18446744073709551616
  bits : ∀ h, h < 1024 → (bitOf s.W h = true ↔ h ∈ hsOf S)
  perm : s.its.Perm (hsOf S)
  nums : S.Pairwise (fun a b => (s.K a.h).num < (s.K b.h).num)
  mem : ∀ e ∈ S, e.h < s.n ∧ (s.K e.h).key = e.k ∧ (s.K e.h).val = e.v ∧ (s.K e.h).num < s.pushed
  idx : IdxAll s.X s.its
  heap : HeapO s.K s.its
  p0 : 0 ≤ s.pushed
  p1 : s.pushed ≤ P

namespace Inv
variable {s : Bd} {S : List El} {P : Nat}
theorem keeps (h : Inv s S P) : Keeps s.K S := ⟨h.nums, fun e he => (h.mem e he).2.1⟩
theorem nodup (h : Inv s S P) : s.its.Nodup := (h.perm.nodup_iff).2 h.keeps.nodup
theorem ltn (h : Inv s S P) : ∀ x, x ∈ s.its → x < s.n := fun x hx => by
  obtain ⟨e, he, rfl⟩ := List.mem_map.1 (h.perm.mem_iff.1 hx)
  exact (h.mem e he).1
theorem len (h : Inv s S P) : s.its.length = S.length := by rw [h.perm.length_eq]; simp [hsOf]
theorem len_le (h : Inv s S P) : S.length ≤ 1024 := by
  have := List.Nodup.length_le_of_subset h.nodup (l₂ := List.range s.n) (fun x hx => List.mem_range.2 (h.ltn x hx))
  rw [List.length_range, h.len] at this
  have := h.n_le
  omega
theorem hlt (h : Inv s S P) : ∀ x, x ∈ hsOf S → x < s.n := fun x hx => h.ltn x (h.perm.mem_iff.2 hx)
end Inv

theorem lowOf_low {s : Bd} {S : List El} {P l : Nat} (h : Inv s S P) (hl : LowOut s.W l) (hlt : l < 1024) : lowOf (hsOf S) = l := by
  refine lowOf_eq (fun hm => ?_) (fun j hj => (h.bits j (by omega)).1 (hl.full j hj))
  have := (h.bits l hlt).2 hm
  rw [hl.out hlt] at this
  cases this
theorem low_le_n {s : Bd} {S : List El} {P l : Nat} (h : Inv s S P) (hl : LowOut s.W l) : l ≤ s.n := by
  by_cases hle : l ≤ s.n
  · exact hle
  · have := h.n_le
    have h1 := hl.full s.n (by omega)
    have hle2 := hl.le
    have := h.hlt s.n ((h.bits s.n (by omega)).1 h1)
    omega
theorem low_full {s : Bd} {S : List El} {P : Nat} (h : Inv s S P) (hl : LowOut s.W 1024) : S.length = 1024 := by
  have h1 : (List.range 1024) ⊆ hsOf S := fun j hj => (h.bits j (List.mem_range.1 hj)).1 (hl.full j (List.mem_range.1 hj))
  have := List.Nodup.length_le_of_subset List.nodup_range h1
  rw [List.length_range] at this
  simp only [hsOf, List.length_map] at this
  have := h.len_le
  omega
theorem ltK_congr {K K' : Nat → Kvn} {x y : Nat} (hx : K x = K' x) (hy : K y = K' y) : ltK K x y ↔ ltK K' x y := by
  unfold ltK; rw [hx, hy]
theorem heapO_congr {K K' : Nat → Kvn} {L : List Nat} (h : HeapO K L) (he : ∀ x, x ∈ L → K x = K' x) : HeapO K' L := fun j h0 hj => by
  rw [← ltK_congr (he _ (getD_mem L j hj)) (he _ (getD_mem L _ (by omega)))]; exact h j h0 hj
theorem idxAll_congr {X X' : Nat → Int} {L : List Nat} (h : IdxAll X L) (he : ∀ x, x ∈ L → X x = X' x) : IdxAll X' L := fun j hj => by
  rw [← he _ (getD_mem L j hj)]; exact h j hj

/-- The body behind a push, the layout settled. -/
theorem Inv.push {s : Bd} {S : List El} {P : Nat} (h : Inv s S P) {l : Nat} (hl : LowOut s.W l) (hlt : l < 1024) {k v : Int} {s' : Bd} {X0 : Nat → Int}
    (hn : s'.n = max s.n (l + 1)) (hKl : s'.K l = ⟨k, v, s.pushed⟩) (hK : ∀ x, x < s.n → x ≠ l → s'.K x = s.K x) (hW : s'.W = flipW s.W l) (hp : s'.pushed = s.pushed + 1)
    (hs : Settled s'.K (s.its ++ [l]) s'.its s'.X) : Inv s' (pushS S k v) (P + 1) := by
  have hlow := lowOf_low h hl hlt
  have hout : l ∉ hsOf S := fun hm => by
    have := (h.bits l hlt).2 hm
    rw [hl.out hlt] at this
    cases this
  have hne : ∀ e, e ∈ S → e.h ≠ l := fun e he hel => hout (by rw [← hel]; exact List.mem_map_of_mem he)
  have hKe : ∀ e, e ∈ S → s'.K e.h = s.K e.h := fun e he => hK _ (h.mem e he).1 (hne e he)
  have hpush : pushS S k v = S ++ [⟨l, v, k⟩] := by unfold pushS; rw [hlow]
  have hhs : hsOf (pushS S k v) = hsOf S ++ [l] := by rw [hs_push, hlow]
  refine ⟨by rw [hn]; have := h.n_le; omega, by rw [hW]; exact flipW_lt s.W l h.word hlt, ?_, ?_, ?_, ?_, hs.idx, hs.heap, by have := h.p0; omega, by have := h.p1; omega⟩
  · intro x hx
    rw [hW, bitOf_flip, hhs]
    by_cases e : x = l
    · subst e; rw [if_pos rfl, hl.out hlt]; simp
    · rw [if_neg e, h.bits x hx]; simp [e]
  · rw [hhs]
    exact hs.perm.trans (h.perm.append_right _)
  · rw [hpush, List.pairwise_append]
    refine ⟨h.nums.imp_of_mem (fun {a b} ha hb hab => by rw [hKe a ha, hKe b hb]; exact hab), List.pairwise_singleton _ _, ?_⟩
    intro a ha b hb
    simp only [List.mem_cons, List.not_mem_nil, or_false] at hb
    subst hb
    rw [hKe a ha, hKl]
    exact (h.mem a ha).2.2.2
  · intro e he
    rw [hpush] at he
    rcases List.mem_append.1 he with h1 | h1
    · have := h.mem e h1
      rw [hKe e h1, hn, hp]
      exact ⟨by omega, this.2.1, this.2.2.1, by omega⟩
    · simp only [List.mem_cons, List.not_mem_nil, or_false] at h1
      subst h1
      rw [hKl, hn, hp]
      exact ⟨by simp; omega, rfl, rfl, by simp; omega⟩

/-- The body behind a change of a key, the layout settled. -/
theorem Inv.change {s : Bd} {S : List El} {P : Nat} (h : Inv s S P) {x : Nat} {k : Int} {s' : Bd}
    (hn : s'.n = s.n) (hK : ∀ y, s'.K y = if y = x then ⟨k, (s.K x).val, (s.K x).num⟩ else s.K y) (hW : s'.W = s.W) (hp : s'.pushed = s.pushed)
    (hs : Settled s'.K s.its s'.its s'.X) : Inv s' (changeS S x k) P := by
  have hnum : ∀ y, (s'.K y).num = (s.K y).num := fun y => by rw [hK]; split <;> simp_all
  have hval : ∀ y, (s'.K y).val = (s.K y).val := fun y => by rw [hK]; split <;> simp_all
  refine ⟨by rw [hn]; exact h.n_le, by rw [hW]; exact h.word, by rw [hW, hs_change]; exact h.bits, by rw [hs_change]; exact hs.perm.trans h.perm, ?_, ?_, hs.idx, hs.heap, by rw [hp]; exact h.p0, by rw [hp]; exact h.p1⟩
  · unfold changeS
    rw [List.pairwise_map]
    refine h.nums.imp (fun {a b} hab => ?_)
    rw [hnum, hnum]
    have e1 : (if a.h = x then (⟨a.h, a.v, k⟩ : El) else a).h = a.h := by split <;> rfl
    have e2 : (if b.h = x then (⟨b.h, b.v, k⟩ : El) else b).h = b.h := by split <;> rfl
    rw [e1, e2]
    exact hab
  · intro e he
    obtain ⟨a, ha, rfl⟩ := List.mem_map.1 he
    have hm := h.mem a ha
    rw [hn, hp]
    by_cases e : a.h = x
    · rw [if_pos e]
      refine ⟨hm.1, ?_, by rw [hval]; exact hm.2.2.1, by rw [hnum]; exact hm.2.2.2⟩
      show (s'.K a.h).key = k
      rw [hK, if_pos e]
    · rw [if_neg e]
      refine ⟨hm.1, ?_, by rw [hval]; exact hm.2.2.1, by rw [hnum]; exact hm.2.2.2⟩
      rw [hK, if_neg e]
      exact hm.2.1

/-- The body behind a removal. -/
theorem Inv.remove {s : Bd} {S : List El} {P : Nat} (h : Inv s S P) {x : Nat} (hx : x ∈ hsOf S) {s' : Bd} {L : List Nat} {X : Nat → Int}
    (hn : s'.n = s.n) (hK : ∀ y, y ≠ x → s'.K y = s.K y) (hX : ∀ y, y ≠ x → s'.X y = X y) (hits : s'.its = L) (hW : s'.W = flipW s.W x) (hp : s'.pushed = s.pushed)
    (hr : Removed s.K s.its x L X) : Inv s' (removeS S x) P := by
  have hx1 : x < 1024 := by have := h.hlt x hx; have := h.n_le; omega
  have hnd : (x :: L).Nodup := (hr.perm.nodup_iff).2 h.nodup
  have hxL : x ∉ L := (List.nodup_cons.1 hnd).1
  have hne : ∀ y, y ∈ L → y ≠ x := fun y hy e => hxL (e ▸ hy)
  have hmem : ∀ e, e ∈ removeS S x → e ∈ S ∧ e.h ≠ x := fun e he => by
    have := List.mem_filter.1 he
    exact ⟨this.1, by simpa using this.2⟩
  refine ⟨by rw [hn]; exact h.n_le, by rw [hW]; exact flipW_lt s.W x h.word hx1, ?_, ?_, ?_, ?_, ?_, ?_, by rw [hp]; exact h.p0, by rw [hp]; exact h.p1⟩
  · intro y hy
    rw [hW, bitOf_flip, hs_remove]
    have hbx := (h.bits x hx1).2 hx
    by_cases e : y = x
    · subst e; rw [if_pos rfl, hbx]; simp
    · rw [if_neg e, h.bits y hy]; simp [e]
  · rw [hits, hs_remove]
    have h1 := (hr.perm.trans h.perm).filter (fun y => decide (y ≠ x))
    rw [List.filter_cons_of_neg (by simp)] at h1
    rw [List.filter_eq_self.2 (fun y hy => by simpa using hne y hy)] at h1
    exact h1
  · refine (h.nums.sublist List.filter_sublist).imp_of_mem (fun {a b} ha hb hab => ?_)
    rw [hK _ (hmem a ha).2, hK _ (hmem b hb).2]
    exact hab
  · intro e he
    have hm := hmem e he
    have := h.mem e hm.1
    rw [hK _ hm.2, hn, hp]
    exact this
  · rw [hits]
    exact idxAll_congr hr.idx (fun y hy => (hX y (hne y hy)).symm)
  · rw [hits]
    exact heapO_congr hr.heap (fun y hy => (hK y (hne y hy)).symm)
end Go.Proofs.YtcjeckjmoponkaaGreatDoor.Dl
/- The calls of a heap that change nothing: usable, find, Top, Get, Len. -/
namespace Go.Proofs.YtcjeckjmoponkaaGreatDoor.Dl
open Go.RowKit Go.Sort
open BodAt (row_ne row_row_ne)
set_option linter.unusedVariables false
set_option linter.unusedSimpArgs false

/-- A heap in memory that has the elements S; at most P were pushed. -/
structure HeapAt (w : World) (h : Hp) (S : List El) (P : Nat) : Prop where
  ex : ∃ s, BodAt w h s ∧ Inv s S P

def Hp.ptr (h : Hp) : Value := .pointer (some ⟨h.a, 0, none⟩)

theorem HeapAt.frame {w w' : World} {h : Hp} {S : List El} {P : Nat} {F : List Nat} (H : HeapAt w h S P) (hf : Fr F w w') (hn : ∀ k, k ∈ h.foot → k ∉ F) : HeapAt w' h S P := by
  obtain ⟨s, b, i⟩ := H.ex
  exact ⟨s, b.frame hf hn, i⟩
theorem HeapAt.lt_foot {w : World} {h : Hp} {S : List El} {P : Nat} (H : HeapAt w h S P) : ∀ k, k ∈ h.foot → k < w.heap.size := by
  obtain ⟨s, b, i⟩ := H.ex
  exact b.lt_foot
theorem HeapAt.len_le {w : World} {h : Hp} {S : List El} {P : Nat} (H : HeapAt w h S P) : S.length ≤ 1024 := by
  obtain ⟨s, b, i⟩ := H.ex
  exact i.len_le
theorem HeapAt.mono {w : World} {h : Hp} {S : List El} {P Q : Nat} (H : HeapAt w h S P) (hq : P ≤ Q) : HeapAt w h S Q := by
  obtain ⟨s, b, i⟩ := H.ex
  exact ⟨s, b, ⟨i.n_le, i.word, i.bits, i.perm, i.nums, i.mem, i.idx, i.heap, i.p0, by have := i.p1; omega⟩⟩
theorem HeapAt.hlt {w : World} {h : Hp} {S : List El} {P : Nat} (H : HeapAt w h S P) : ∀ x, x ∈ hsOf S → x < 1024 := by
  obtain ⟨s, b, i⟩ := H.ex
  exact fun x hx => by have := i.hlt x hx; have := i.n_le; omega

set_option maxHeartbeats 400000 in
theorem usable_yes (a bb : Nat) (w : World) (hc : w.cell? ⟨a, 0, none⟩ = some (.pointer (some ⟨bb, 0, none⟩))) : Calls Tryz.prog 219 #[.pointer (some ⟨a, 0, none⟩)] w fun e w' => e = .returned (.bool true) ∧ w = w' := by
  go_enter Tryz.func219, Tryz.ntmps219
  go_wp2_with fail
  go_ret
  exact ⟨rfl, rfl⟩

/-- Is n the handle of an element? -/
def isH (S : List El) (n : Int) : Prop := ∃ x : Nat, n = x ∧ x ∈ hsOf S

set_option maxHeartbeats 800000 in
theorem find_no {w : World} {h : Hp} {s : Bd} {S : List El} {P : Nat} (b : BodAt w h s) (i : Inv s S P) (n : Int) (hn : ¬ isH S n) :
    Calls Tryz.prog 229 #[h.ptr, .int .i64 n] w fun e w' => e = .returned (.tuple #[.pointer none, .int .i64 9]) ∧ w = w' := by
  have ha := cell_of_one b.ha
  have hu := Lib.hid (usable_yes h.a h.bb w ha)
  have hh : Hid (Calls Tryz.prog 239 #[.pointer (some ⟨h.bb, 1, none⟩), .int .i64 n] w fun e w' => e = .returned (.bool false) ∧ w = w') := by
    by_cases h1 : n < 0
    · exact has_low n _ w h1
    · by_cases h2 : 1024 ≤ n
      · exact has_high n _ w h2
      · obtain ⟨k, rfl⟩ : ∃ k : Nat, n = k := ⟨n.toNat, by omega⟩
        have := has_in b.hb k (by omega) (i.word _ (by omega))
        have hf : bitOf s.W k = false := by
          cases hb : bitOf s.W k with
          | false => rfl
          | true => exact absurd ⟨k, rfl, (i.bits k (by omega)).1 hb⟩ hn
        rw [hf] at this
        exact this
  clear b i hn
  unfold Hp.ptr
  go_enter Tryz.func229, Tryz.ntmps229
  go_wp2_with (first | (go_at_call 219; refine hu.out.mono ?_; rintro e w' ⟨rfl, rfl⟩) | (go_at_call 239; refine hh.out.mono ?_; rintro e w' ⟨rfl, rfl⟩))
  go_ret2
  exact ⟨rfl, rfl⟩

set_option maxHeartbeats 800000 in
theorem find_yes {w : World} {h : Hp} {s : Bd} {S : List El} {P : Nat} (b : BodAt w h s) (i : Inv s S P) (x : Nat) (hx : x ∈ hsOf S) :
    ∃ g cap, Cellsy w h s g cap ∧ Calls Tryz.prog 229 #[h.ptr, .int .i64 x] w fun e w' => e = .returned (.tuple #[.pointer (some ⟨g, x * 4, none⟩), .int .i64 0]) ∧ w = w' := by
  have hxn := i.hlt x hx
  have hn := i.n_le
  obtain ⟨g, cap, C⟩ := b.cellsy (by omega)
  refine ⟨g, cap, C, ?_⟩
  have ha := cell_of_one b.ha
  have hu := Lib.hid (usable_yes h.a h.bb w ha)
  have hh : Hid (Calls Tryz.prog 239 #[.pointer (some ⟨h.bb, 1, none⟩), .int .i64 x] w fun e w' => e = .returned (.bool true) ∧ w = w') := by
    have := has_in b.hb x (by omega) (i.word _ (by omega))
    rw [(i.bits x (by omega)).2 hx] at this
    exact this
  have hb0 := C.b0
  have hxi : (x : Int) < (s.n : Int) := by omega
  have hni : (s.n : Int) ≤ 1024 := by omega
  clear b i C
  unfold Hp.ptr
  go_enter Tryz.func229, Tryz.ntmps229
  go_wp2_with (first | (go_at_call 219; refine hu.out.mono ?_; rintro e w' ⟨rfl, rfl⟩) | (go_at_call 239; refine hh.out.mono ?_; rintro e w' ⟨rfl, rfl⟩))
  go_ret2
  exact ⟨rfl, rfl⟩

set_option maxHeartbeats 400000 in
theorem len_any {w : World} {h : Hp} {S : List El} {P : Nat} (H : HeapAt w h S P) : Calls Tryz.prog 228 #[h.ptr] w fun e w' => e = .returned (.int .i64 S.length) ∧ w = w' := by
  obtain ⟨s, b, i⟩ := H.ex
  have ha := cell_of_one b.ha
  have hu := Lib.hid (usable_yes h.a h.bb w ha)
  obtain ⟨cur, hcur, _, _, _, h17, _⟩ := b.hb.ex
  have c17 := cells_cell hcur h17
  have hl := i.len
  have hv : ∃ a c, h.vi = .slice a S.length c := by
    rw [← hl]
    rcases b.hi.2 with ⟨hv, h0⟩ | ⟨g, cap, cu, hv, _⟩
    · exact ⟨none, 0, by rw [hv, h0]⟩
    · exact ⟨_, _, hv⟩
  obtain ⟨a, c, hv⟩ := hv
  rw [hv] at c17
  clear b i H hcur h17 hl hv
  unfold Hp.ptr
  go_enter Tryz.func228, Tryz.ntmps228
  go_wp2_with (first | (go_at_call 219; refine hu.out.mono ?_; rintro e w' ⟨rfl, rfl⟩))
  go_ret
  exact ⟨rfl, rfl⟩

set_option maxHeartbeats 400000 in
theorem top_none {w : World} {h : Hp} {P : Nat} (H : HeapAt w h [] P) : Calls Tryz.prog 202 #[h.ptr] w fun e w' => e = .returned (.tuple #[.int .i64 0, .int .i64 9]) ∧ w = w' := by
  have hl := Lib.hid (len_any H)
  obtain ⟨s, b, i⟩ := H.ex
  have ha := cell_of_one b.ha
  have hu := Lib.hid (usable_yes h.a h.bb w ha)
  clear b i H
  unfold Hp.ptr at *
  go_enter Tryz.func202, Tryz.ntmps202
  go_wp2_with (first | (go_at_call 219; refine hu.out.mono ?_; rintro e w' ⟨rfl, rfl⟩) | (go_at_call 228; refine hl.out.mono ?_; rintro e w' ⟨rfl, rfl⟩))
  go_ret2
  exact ⟨rfl, rfl⟩

set_option maxHeartbeats 400000 in
theorem top_some {w : World} {h : Hp} {S : List El} {P : Nat} (H : HeapAt w h S P) {x : Nat} (hx : (order S).head? = some x) : Calls Tryz.prog 202 #[h.ptr] w fun e w' => e = .returned (.tuple #[.int .i64 x, .int .i64 0]) ∧ w = w' := by
  have hl := Lib.hid (len_any H)
  obtain ⟨s, b, i⟩ := H.ex
  have hS : 0 < S.length := by
    cases S with
    | nil => simp [order_nil] at hx
    | cons _ _ => simp
  have ha := cell_of_one b.ha
  have hu := Lib.hid (usable_yes h.a h.bb w ha)
  have hil := i.len
  obtain ⟨g, cap, C⟩ := b.celli (by omega)
  have hr := root_order i.keeps i.perm i.heap (by omega)
  rw [hx] at hr
  have e0 := C.e 0 (by omega)
  rw [← Option.some.inj hr] at e0
  have b17 := C.b17
  rw [hil] at b17
  have q : ((S.length : Int) == 0) = false := by simp; intro h0; simp [h0] at hS
  have hSi : (0 : Int) < (S.length : Int) := by omega
  clear b i H C hr hx hil
  unfold Hp.ptr encN at *
  go_enter Tryz.func202, Tryz.ntmps202
  go_wp2_with (first | (go_at_call 219; refine hu.out.mono ?_; rintro e w' ⟨rfl, rfl⟩) | (go_at_call 228; refine hl.out.mono ?_; rintro e w' ⟨rfl, rfl⟩))
  go_ret2
  exact ⟨rfl, rfl⟩

theorem get_no {w : World} {h : Hp} {S : List El} {P : Nat} (H : HeapAt w h S P) (n : Int) (hn : ¬ isH S n) : Calls Tryz.prog 203 #[h.ptr, .int .i64 n] w fun e w' => e = .returned (.tuple #[.int .u64 0, .int .i64 0, .int .i64 9]) ∧ w = w' := by
  obtain ⟨s, b, i⟩ := H.ex
  have hf := Lib.hid (find_no b i n hn)
  clear b i H hn
  unfold Hp.ptr at *
  go_enter Tryz.func203, Tryz.ntmps203
  go_wp2_with (first | (go_at_call 229; refine hf.out.mono ?_; rintro e w' ⟨rfl, rfl⟩))
  go_ret3
  exact ⟨rfl, rfl⟩

set_option maxHeartbeats 800000 in
theorem get_yes {w : World} {h : Hp} {S : List El} {P : Nat} (H : HeapAt w h S P) (e : El) (he : e ∈ S) : Calls Tryz.prog 203 #[h.ptr, .int .i64 e.h] w fun r w' => r = .returned (.tuple #[.int .u64 e.k, .int .i64 e.v, .int .i64 0]) ∧ ∃ n, w' = w.drewN n := by
  obtain ⟨s, b, i⟩ := H.ex
  obtain ⟨g, cap, C, hf⟩ := find_yes b i e.h (List.mem_map_of_mem he)
  have hm := i.mem e he
  have c0 := C.e0 e.h hm.1
  have c1 := C.e1 e.h hm.1
  rw [hm.2.1] at c0
  rw [hm.2.2.1] at c1
  have HF := Lib.hid hf
  clear b i H C hm he hf
  obtain ⟨x, v, k⟩ := e
  simp only at c0 c1 HF ⊢
  unfold Hp.ptr at *
  go_enter Tryz.func203, Tryz.ntmps203
  go_wp2_with (first | (go_at_call 229; refine HF.out.mono ?_; rintro e w' ⟨rfl, rfl⟩))
  go_quiet (fail)
  go_wp2_with fail
  go_ret3
  exact ⟨rfl, _, rfl⟩
end Go.Proofs.YtcjeckjmoponkaaGreatDoor.Dl
/- The calls of a heap that change it: Change, Remove, Push. -/
namespace Go.Proofs.YtcjeckjmoponkaaGreatDoor.Dl
open Go.RowKit Go.Sort
open BodAt (row_ne row_row_ne)
set_option linter.unusedVariables false
set_option linter.unusedSimpArgs false

/-- Cells of one element are written: the row behind it is told by a list. -/
theorem BodAt.setRow {w w' : World} {h : Hp} {s : Bd} (b : BodAt w h s) {g cap : Nat} (hv : h.ve = .slice (some ⟨g, 0, none⟩) s.n cap) (hf : Fr [g] w w') {ys : List Value} (ho : w'.ownsRow 0 356 4 (.slice (some ⟨g, 0, none⟩) s.n cap) s.n ys)
    {K' : Nat → Kvn} {X' : Nat → Int} (hy : ∀ x, x < s.n → ys[x * 4]? = some (.int .u64 (K' x).key) ∧ ys[x * 4 + 1]? = some (.int .i64 (K' x).val) ∧ ys[x * 4 + 2]? = some (.int .u64 (K' x).num) ∧ ys[x * 4 + 3]? = some (.int .i64 (X' x))) :
    BodAt w' h { s with K := K', X := X' } ∧ Fr h.rows w w' := by
  have hg : h.ve.ownBlock = some g := by rw [hv]; rfl
  obtain ⟨xs, hxo, _⟩ := b.he.ex
  obtain ⟨cur, hcur, hr⟩ := b.hb.ex
  have na : h.a ≠ g := fun e => row_ne hxo b.ha (by decide) g hg e.symm
  have nc : h.cb ≠ g := fun e => row_ne hxo b.hc (by decide) g hg e.symm
  have nb : h.bb ≠ g := fun e => row_ne hxo hcur (by decide) g hg e.symm
  have ni : ∀ k, h.vi.ownBlock = some k → k ∉ [g] := fun k hk e => row_row_ne hxo b.hi (by decide) g k hg hk (List.mem_singleton.1 e).symm
  exact ⟨⟨hf.same b.ha (by simpa using na), hf.same b.hc (by simpa using nc), ⟨cur, hf.same hcur (by simpa using nb), hr⟩, ⟨ys, by rw [hv]; exact ho, hy⟩, hf.row b.hi ni⟩,
    hf.mono (fun k hk => .inl (by simp only [List.mem_cons, List.not_mem_nil, or_false] at hk; subst hk; simp [Hp.rows, hg]))⟩

/-- An element is written. -/
theorem BodAt.setElem {w : World} {h : Hp} {s : Bd} (b : BodAt w h s) {g cap x : Nat} (hv : h.ve = .slice (some ⟨g, 0, none⟩) s.n cap) (hx : x < s.n) (q : Kvn) (i : Int) :
    BodAt ((((w.setCell ⟨g, x * 4, none⟩ (.int .u64 q.key)).setCell ⟨g, x * 4 + 1, none⟩ (.int .i64 q.val)).setCell ⟨g, x * 4 + 2, none⟩ (.int .u64 q.num)).setCell ⟨g, x * 4 + 3, none⟩ (.int .i64 i)) h { s with K := upd s.K x q, X := upd s.X x i } ∧
    Fr h.rows w ((((w.setCell ⟨g, x * 4, none⟩ (.int .u64 q.key)).setCell ⟨g, x * 4 + 1, none⟩ (.int .i64 q.val)).setCell ⟨g, x * 4 + 2, none⟩ (.int .u64 q.num)).setCell ⟨g, x * 4 + 3, none⟩ (.int .i64 i)) := by
  obtain ⟨xs, ho, hxs⟩ := b.he.ex
  rw [hv] at ho
  have hl := ho.1
  have o1 := (ho.stored (x * 4) (.int .u64 q.key)).1
  have o2 := (o1.stored (x * 4 + 1) (.int .i64 q.val)).1
  have o3 := (o2.stored (x * 4 + 2) (.int .u64 q.num)).1
  have o4 := (o3.stored (x * 4 + 3) (.int .i64 i)).1
  have fr : Fr [g] w ((((w.setCell ⟨g, x * 4, none⟩ (.int .u64 q.key)).setCell ⟨g, x * 4 + 1, none⟩ (.int .i64 q.val)).setCell ⟨g, x * 4 + 2, none⟩ (.int .u64 q.num)).setCell ⟨g, x * 4 + 3, none⟩ (.int .i64 i)) :=
    (((fr_setCell w ⟨g, x * 4, none⟩ _).trans' (fr_setCell _ ⟨g, x * 4 + 1, none⟩ _)).trans' (fr_setCell _ ⟨g, x * 4 + 2, none⟩ _)).trans' (fr_setCell _ ⟨g, x * 4 + 3, none⟩ _)
  refine b.setRow hv fr o4 (fun y hy => ?_)
  obtain ⟨e0, e1, e2, e3⟩ := hxs y hy
  simp only [List.getElem?_set, List.length_set]
  by_cases e : y = x
  · subst e
    simp [upd, hl, show y * 4 < s.n * 4 by omega, show y * 4 + 1 < s.n * 4 by omega, show y * 4 + 2 < s.n * 4 by omega, show y * 4 + 3 < s.n * 4 by omega]
  · simp only [upd, if_neg e]
    refine ⟨?_, ?_, ?_, ?_⟩
    · rw [if_neg (by omega), if_neg (by omega), if_neg (by omega), if_neg (by omega)]; exact e0
    · rw [if_neg (by omega), if_neg (by omega), if_neg (by omega), if_neg (by omega)]; exact e1
    · rw [if_neg (by omega), if_neg (by omega), if_neg (by omega), if_neg (by omega)]; exact e2
    · rw [if_neg (by omega), if_neg (by omega), if_neg (by omega), if_neg (by omega)]; exact e3

theorem mem_at {L : List Nat} {x : Nat} (h : x ∈ L) : ∃ i, i < L.length ∧ L.getD i 0 = x := by
  obtain ⟨i, hi, e⟩ := List.getElem_of_mem h
  exact ⟨i, hi, by simp [List.getD_eq_getElem?_getD, hi, e]⟩

end Go.Proofs.YtcjeckjmoponkaaGreatDoor.Dl
/- Remove and Push. -/
namespace Go.Proofs.YtcjeckjmoponkaaGreatDoor.Dl
open Go.RowKit Go.Sort
open BodAt (row_ne row_row_ne)
set_option linter.unusedVariables false
set_option linter.unusedSimpArgs false

set_option maxHeartbeats 1600000 in
set_option maxRecDepth 100000 in
theorem remove_yes {w : World} {h : Hp} {S : List El} {P : Nat} (H : HeapAt w h S P) (x : Nat) (hx : x ∈ hsOf S) :
    Calls Tryz.prog 204 #[h.ptr, .int .i64 x] w fun e w' => e = .returned (.int .i64 0) ∧ ∃ h', HeapAt w' h' (removeS S x) P ∧ Fr h.foot w w' ∧ Ext w.heap.size h h' := by
  obtain ⟨s, b, i⟩ := H.ex
  obtain ⟨g, cap, C, hf⟩ := find_yes b i x hx
  have hxn := i.hlt x hx
  have hx1 : x < 1024 := by have := i.n_le; omega
  obtain ⟨j, hj, hjx⟩ := mem_at (i.perm.mem_iff.2 hx)
  have hXj : s.X x = j := by rw [← hjx]; exact i.idx j hj
  have hlen := i.len
  have hle := i.len_le
  have ha1 : w.cell? ⟨h.a, 0, none⟩ = some (.pointer (some ⟨h.bb, 0, none⟩)) := cell_of_one b.ha
  have h3 : w.cell? ⟨g, x * 4 + 3, none⟩ = some (.int .i64 j) := by rw [← hXj]; exact C.e3 x hxn
  have hrem := Lib.hid (removeAt_any (b.frame (fr_drewN w 1 []) (fun _ _ => by simp)) j hj (by show s.its.length ≤ 2000; omega) i.nodup i.ltn i.heap i.idx)
  have hHF := Lib.hid hf
  have HI := Lib.hid i
  have Hve := Lib.hid C.ve
  have Hjx := Lib.hid hjx
  have Hx := Lib.hid hx
  have hb2 := Lib.hid b.lt_foot
  clear b i H hf C hXj hjx hx
  unfold Hp.ptr encN at *
  go_enter Tryz.func204, Tryz.ntmps204
  go_wp2_with (first | (go_at_call 229; refine hHF.out.mono ?_; rintro e w' ⟨rfl, rfl⟩))
  refine wp_region_still_tail 10 (by kernel_rfl) (by kernel_rfl) ?_
  simp only [List.take_succ_cons, List.take_zero, List.drop_succ_cons, List.drop_zero]
  change wpStill _ _ (World.drew _) (fun a' => wpList _ _ _ _ a' (World.drew _)) _ _
  repeat still_step
  refine wpStill_nil ?_
  go_wp2_with fail
  refine hrem.out.mono ?_
  rintro e w2 ⟨h', L, X, rfl, hR, B2, F2, hext, hve⟩
  have ha2 : w2.cell? ⟨h'.a, 0, none⟩ = some (.pointer (some ⟨h'.bb, 0, none⟩)) := cell_of_one B2.ha
  have hflip := Lib.hid (flip_any B2 x hx1 (HI.out.word _ (by omega)))
  have HR := Lib.hid hR
  have HF2 := Lib.hid F2
  have HX := Lib.hid hext
  have Hv := Lib.hid hve
  have ea := Lib.hid hext.a
  have eb := Lib.hid hext.bb
  rw [hext.a] at ha2
  rw [hext.bb] at ha2 hflip
  clear hR F2 B2 hext hve
  go_wp2_with fail
  refine hflip.out.mono ?_
  rintro e w3 ⟨rfl, B3, F3⟩
  have hv3 : h'.ve = .slice (some ⟨g, 0, none⟩) s.n cap := by rw [Hv.out]; exact Hve.out
  obtain ⟨g', cap', C3⟩ := B3.cellsy (by show 0 < s.n; omega)
  have hvv : (Value.slice (some ⟨g', 0, none⟩) s.n cap') = .slice (some ⟨g, 0, none⟩) s.n cap := C3.ve.symm.trans hv3
  simp only [Value.slice.injEq, Option.some.injEq, Addr.mk.injEq, and_true, true_and] at hvv
  obtain ⟨rfl, rfl⟩ := hvv
  obtain ⟨B4, F4⟩ := B3.setElem (x := x) C3.ve hxn ⟨0, 0, 0⟩ 0
  have d0 := C3.e0 x hxn
  have d1 := C3.e1 x hxn
  have d2 := C3.e2 x hxn
  have d3 := C3.e3 x hxn
  have r0 := C3.fr (x * 4)
  have r1 := C3.fr (x * 4 + 1)
  have r2 := C3.fr (x * 4 + 2)
  have r3 := C3.fr (x * 4 + 3)
  have HB4 := Lib.hid B4
  have HF3 := Lib.hid (bb_foot h' (by rw [eb.out]; exact F3))
  have HF4 := Lib.hid (rows_foot h' F4)
  clear B3 F3 B4 F4 C3 hv3
  go_wp2_with fail
  go_ret
  refine ⟨rfl, h', ⟨_, HB4.out, ?_⟩, ?_, ?_⟩
  · exact HI.out.remove Hx.out rfl (fun y hy => by simp [upd, hy]) (fun y hy => by simp [upd, hy]; rfl) rfl rfl rfl (by rw [← Hjx.out]; exact HR.out)
  · exact fr_foot HX.out rfl ((fr_drewN w 1 _).trans' HF2.out) (HF3.out.trans' HF4.out)
  · exact HX.out
end Go.Proofs.YtcjeckjmoponkaaGreatDoor.Dl
/- New and Push. -/
namespace Go.Proofs.YtcjeckjmoponkaaGreatDoor.Dl
open Go.RowKit Go.Sort
open BodAt (row_ne row_row_ne)
set_option linter.unusedVariables false
set_option linter.unusedSimpArgs false

def newCells (cb : Nat) : Array Value := #[.slice none 0 0, .int .u64 0, .int .u64 0, .int .u64 0, .int .u64 0, .int .u64 0, .int .u64 0, .int .u64 0, .int .u64 0, .int .u64 0, .int .u64 0, .int .u64 0, .int .u64 0, .int .u64 0, .int .u64 0, .int .u64 0, .int .u64 0, .slice none 0 0, cmpV cb, plV cb, .int .u64 0]

def Bd.empty : Bd := ⟨0, fun _ => default, fun _ => 0, [], fun _ => 0, 0⟩
theorem inv_empty : Inv Bd.empty [] 0 := by
  refine ⟨by show (0 : Nat) ≤ 1024; omega, fun i hi => by show (0 : Nat) < _; omega, fun h hh => ?_, List.Perm.refl _, List.Pairwise.nil, fun e he => (by cases he), fun j hj => (by simp [Bd.empty] at hj), fun j h0 hj => (by simp [Bd.empty] at hj), Int.le_refl _, Int.le_refl _⟩
  simp [bitOf, Bd.empty, hsOf]

set_option maxHeartbeats 1600000 in
set_option maxRecDepth 100000 in
theorem newBody_any (w : World) : Calls Tryz.prog 194 #[] w fun e w' => e = .returned (.pointer (some ⟨w.heap.size, 0, none⟩)) ∧ (w.alloc (.cells (newCells (w.heap.size + 1)) 363)).alloc (.cells #[.pointer (some ⟨w.heap.size, 0, none⟩)] 317) = w' := by
  unfold newCells cmpV plV
  go_enter Tryz.func194, Tryz.ntmps194
  go_wp2_with fail
  go_ret
  exact ⟨rfl, rfl⟩

theorem blockAt_new (w : World) (b cb : Nat) (h : w.heap[b]? = some (.cells (newCells cb) 363 (0, 0))) : BlockAt w b cb (.slice none 0 0) (.slice none 0 0) (fun _ => 0) 0 := by
  refine ⟨_, h, rfl, rfl, fun i hi => ?_, rfl, rfl, rfl, rfl⟩
  match i with
  | 0 | 1 | 2 | 3 | 4 | 5 | 6 | 7 | 8 | 9 | 10 | 11 | 12 | 13 | 14 | 15 => rfl
  | i + 16 => omega

/-- A new heap's blocks. -/
def hpNew (n : Nat) : Hp := ⟨n + 2, n, n + 1, .slice none 0 0, .slice none 0 0⟩
theorem foot_new (n : Nat) : ∀ k, k ∈ (hpNew n).foot → n ≤ k := by
  intro k hk
  simp [Hp.foot, hpNew, Value.ownBlock] at hk
  omega

set_option maxHeartbeats 800000 in
theorem new_any (w : World) : Calls Tryz.prog 147 #[] w fun e w' => e = .returned (hpNew w.heap.size).ptr ∧ HeapAt w' (hpNew w.heap.size) [] 0 ∧ Below w.heap.size w w' := by
  have hb := fun w => newBody_any w
  have HB := Lib.hid hb
  clear hb
  go_enter Tryz.func147, Tryz.ntmps147
  go_wp2_with (go_at_call 194; refine (HB.out _).mono ?_; rintro e w' ⟨rfl, rfl⟩)
  go_ret
  have h0 : ((w.alloc (.cells (newCells (w.heap.size + 1)) 363)).alloc (.cells #[.pointer (some ⟨w.heap.size, 0, none⟩)] 317)).heap[w.heap.size]? = some (.cells (newCells (w.heap.size + 1)) 363 (0, 0)) := by
    rw [Below.heap_alloc _ _ _ (by simp)]; exact block_new w _ _ rfl
  refine ⟨by simp [Hp.ptr, hpNew], ⟨Bd.empty, ⟨?_, ?_, ?_, ?_, ?_⟩, inv_empty⟩, ?_⟩
  · exact block_new _ _ _ (by simp [hpNew])
  · show ((World.alloc _ _).alloc _).heap[w.heap.size + 1]? = _
    rw [Below.heap_alloc _ _ _ (by simp)]
    exact block_new _ _ _ (by simp)
  · refine blockAt_new _ _ _ ?_
    show ((World.alloc _ _).alloc _).heap[w.heap.size]? = _
    rw [Below.heap_alloc _ _ _ (by simp; omega)]
    exact h0
  · exact ⟨[], World.ownsRow_nil _ _ _ _, fun h hh => by simp [Bd.empty] at hh⟩
  · exact World.ownsRow_nil _ _ _ _
  · exact (((Below.refl _ w).alloc (Nat.le_refl _) _).alloc (by simp) _).alloc (by simp; omega) _
end Go.Proofs.YtcjeckjmoponkaaGreatDoor.Dl
/- Push. -/
namespace Go.Proofs.YtcjeckjmoponkaaGreatDoor.Dl
open Go.RowKit Go.Sort
open BodAt (row_ne row_row_ne)
set_option linter.unusedVariables false
set_option linter.unusedSimpArgs false

theorem infoElem : (Tryz.prog.info? 356).map (fun i => (i.zero, i.size, i.bytes)) = some (some (.agg #[.int .u64 0, .int .i64 0, .int .u64 0, .int .i64 0]), 4, 32) := by kernel_rfl

theorem new_cells4 (w : World) (a b c d : Value) (t : TypeId) : ∀ (j : Nat) (u : Value), [a, b, c, d][j]? = some u → (w.alloc (.cells #[a, b, c, d] t)).cell? ((⟨w.heap.size, 0, none⟩ : Addr).add j) = some u := by
  intro j u hu
  rw [Go.WideShapes.add_plain, Nat.zero_add]
  refine cell_new _ _ _ _ _ _ rfl ?_
  rw [← hu]
  simp

theorem elAt_grow {w : World} {v : Value} {n : Nat} {xs : List Value} {K : Nat → Kvn} {X : Nat → Int} (ho : w.ownsRow 0 356 4 v (n + 1) (xs ++ [.int .u64 0, .int .i64 0, .int .u64 0, .int .i64 0])) (hl : xs.length = n * 4)
    (hx : ∀ h, h < n → xs[h * 4]? = some (.int .u64 (K h).key) ∧ xs[h * 4 + 1]? = some (.int .i64 (K h).val) ∧ xs[h * 4 + 2]? = some (.int .u64 (K h).num) ∧ xs[h * 4 + 3]? = some (.int .i64 (X h))) :
    ElAt w v (n + 1) (upd K n ⟨0, 0, 0⟩) (upd X n 0) := by
  refine ⟨_, ho, fun h hh => ?_⟩
  by_cases e : h = n
  · subst e
    refine ⟨?_, ?_, ?_, ?_⟩
    all_goals (rw [List.getElem?_append_right (by omega), hl]; simp [upd])
  · obtain ⟨e0, e1, e2, e3⟩ := hx h (by omega)
    refine ⟨?_, ?_, ?_, ?_⟩
    · rw [List.getElem?_append_left (by omega), e0]; simp [upd, e]
    · rw [List.getElem?_append_left (by omega), e1]; simp [upd, e]
    · rw [List.getElem?_append_left (by omega), e2]; simp [upd, e]
    · rw [List.getElem?_append_left (by omega), e3]; simp [upd, e]

/-- What a push leaves. -/
def Pushed (w : World) (h : Hp) (S : List El) (P : Nat) (k v : Int) (e : Ending) (w' : World) : Prop :=
  e = .returned (.tuple #[.int .i64 (lowOf (hsOf S)), .int .i64 0]) ∧ ∃ h', HeapAt w' h' (pushS S k v) (P + 1) ∧ Fr h.foot w w' ∧ Ext w.heap.size h h'

/-- Behind the room for the element. -/
structure Roomy (w : World) (h : Hp) (s : Bd) (l : Nat) (wx : World) (h1 : Hp) (K : Nat → Kvn) (X : Nat → Int) : Prop where
  b : BodAt wx h1 { s with n := max s.n (l + 1), K := K, X := X }
  fr : Fr h.foot w wx
  ext : Ext w.heap.size h h1
  K : ∀ x, x < s.n → x ≠ l → K x = s.K x
  X : ∀ x, x < s.n → x ≠ l → X x = s.X x

set_option maxHeartbeats 6400000 in
set_option maxRecDepth 100000 in
theorem push_any {w : World} {h : Hp} {S : List El} {P : Nat} (H : HeapAt w h S P) (k v : Int) (hS : S.length < 1024) (hT : Tab w) (hP : P < 9223372036854775807) :
    Calls Tryz.prog 199 #[h.ptr, .int .u64 k, .int .i64 v] w (Pushed w h S P k v) := by
  obtain ⟨s, b, i⟩ := H.ex
  have ha := cell_of_one b.ha
  have hu := Lib.hid (usable_yes h.a h.bb w ha)
  have hl := Lib.hid (lowestOut_any b.hb i.word hT)
  have HI := Lib.hid i
  have HS := Lib.hid hS
  have HB := Lib.hid b
  have hnle := i.n_le
  obtain ⟨cur, hcur, _, h0, _⟩ := b.hb.ex
  have c0 := cells_cell hcur h0
  have f0 : w.frozen? ⟨h.bb, 0, none⟩ = false := cells_free hcur 0
  have blt := lt_of_block hcur
  have hvs : ∃ a c, h.ve = .slice a s.n c := by
    obtain ⟨xs, ho, _⟩ := b.he.ex
    rcases ho.2 with ⟨hv, h0⟩ | ⟨g, cap, cu, hv, _⟩
    · exact ⟨none, 0, by rw [hv, h0]⟩
    · exact ⟨_, _, hv⟩
  obtain ⟨va, vc, hve⟩ := hvs
  rw [hve] at c0
  have Hve := Lib.hid hve
  clear b i H hS hT hcur h0 hve
  unfold Hp.ptr
  go_enter Tryz.func199, Tryz.ntmps199
  go_wp2_with (first | (go_at_call 219; refine hu.out.mono ?_; rintro e w' ⟨rfl, rfl⟩) | (go_at_call 225; fail))
  refine hl.out.mono ?_
  rintro e w' ⟨l, rfl, hL, m, rfl⟩
  have hl2 : l < 1024 := by
    by_cases hlt : l < 1024
    · exact hlt
    · have h1 := hL.le
      obtain rfl : l = 1024 := by omega
      have := low_full HI.out hL
      have := HS.out
      omega
  have hln := low_le_n HI.out hL
  have q : ((l : Int) == 1024) = false := by simp; omega
  have HL := Lib.hid hL
  clear hL
  obtain ⟨wm, hwm⟩ : ∃ wm, w.drewN m = wm := ⟨_, rfl⟩
  have hfm : Fr h.foot w wm := by rw [← hwm]; exact fr_drewN w m _
  have HBm : Hid (BodAt wm h s) := Lib.hid (HB.out.frame (F := []) (by rw [← hwm]; exact fr_drewN w m []) (fun _ _ => by simp))
  have hsz : w.heap.size = wm.heap.size := by rw [← hwm]; rfl
  have c0m : wm.cell? ⟨h.bb, 0, none⟩ = some (.slice va s.n vc) := by rw [← hwm, World.cell?_drewN]; exact c0
  have f0m : wm.frozen? ⟨h.bb, 0, none⟩ = false := by rw [← hwm, World.frozen?_drewN]; exact f0
  have bltm : h.bb < wm.heap.size := by omega
  have Hfm := Lib.hid hfm
  have Hsz := Lib.hid hsz
  rw [hwm]
  clear hwm hfm hsz c0 f0 blt
  go_upto_if 29 with (fail)
  go_cut [] (fun wx => ∃ W h1 K X, W = wx ∧ Roomy w h s l W h1 K X)
  case first =>
    by_cases hlen : l = s.n
    · subst hlen
      obtain ⟨i0, hi0, hz0, hz1, hz2⟩ := info_parts infoElem
      obtain ⟨xs, hown, hxs⟩ := HBm.out.he.ex
      rw [Hve.out] at hown
      have Hxs := Lib.hid hxs
      have Hown := Lib.hid hown
      have hxl := Lib.hid hown.1
      clear hown hxs
      go_wp2_with (at_builtin; refine wpList_append_row _ rfl _ _ 353 rfl 356 i0 (.agg #[.int .u64 0, .int .i64 0, .int .u64 0, .int .i64 0]) 4 32 Tryz.underlying353 hi0 hz0 hz1 hz2 rfl (by decide) 0 (.slice va s.n vc) s.n xs rfl (Hown.out.alloc _) (Nat.zero_le _) ⟨wm.heap.size, 0, none⟩ 1 1 [.int .u64 0, .int .i64 0, .int .u64 0, .int .i64 0] rfl rfl ?c1 ?c2 (by decide) ?c3 ?c4 ?_)
      case c1 => exact new_cells4 wm _ _ _ _ _
      case c2 => simp [Value.oneCell']
      case c3 => unfold maxLen; omega
      case c4 => omega
      intro v' w1 hown1 hgr hnear
      obtain ⟨g', cap', hv', hle, hcm⟩ := row_some hown1 (by omega)
      have hf1 : Fr h.ve.ownBlock.toList wm w1 := by rw [Hve.out]; exact (fr_alloc wm _ _).trans' hgr
      obtain ⟨B1, F1⟩ := HBm.out.newE (elAt_grow hown1 hxl.out Hxs.out) hf1
      have nb : h.bb ∉ h.ve.ownBlock.toList := by
        obtain ⟨cur, hcur, _⟩ := HBm.out.hb.ex
        obtain ⟨ys, ho, _⟩ := HBm.out.he.ex
        exact row_not_mem ho hcur (by decide)
      have c01 := hf1.cell c0m nb
      have f01 : w1.frozen? ⟨h.bb, 0, none⟩ = false := by rw [hf1.frozen bltm nb]; exact f0m
      have hx1 : Ext w.heap.size h { h with ve := v' } := ⟨rfl, rfl, rfl, fun g hg => by
        rcases hnear g hg with h1 | h1
        · left; rw [Hve.out]; exact h1
        · right; simp at h1; have := Hsz.out; omega, fun g hg => .inl hg⟩
      have hR : Roomy w h s s.n (w1.setCell ⟨h.bb, 0, none⟩ v') { h with ve := v' } (upd s.K s.n ⟨0, 0, 0⟩) (upd s.X s.n 0) := ⟨by
        have : max s.n (s.n + 1) = s.n + 1 := by omega
        rw [this]
        exact B1, Hfm.out.trans' (bbve_foot h F1), hx1, fun x hx hne => by simp [upd, hne], fun x hx hne => by simp [upd, hne]⟩
      have HR := Lib.hid hR
      clear hR hx1 B1 F1 hown1 hgr hnear hf1 nb
      subst hv'
      go_wp2_with fail
      go_meet
      exact ⟨_, _, _, _, rfl, HR.out⟩
    · have q2 : ((l : Int) == (s.n : Int)) = false := by simp; omega
      go_wp2_with fail
      go_meet
      exact ⟨_, h, s.K, s.X, rfl, ⟨by
        have : max s.n (l + 1) = s.n := by omega
        rw [this]
        exact HBm.out, Hfm.out, Ext.refl _ _, fun _ _ _ => rfl, fun _ _ _ => rfl⟩⟩
  case rest =>
    obtain ⟨wx, h1, K, X, rfl, hR⟩ := hcut
    have hB := hR.b
    have hbb := hR.ext.bb
    have hN : l < max s.n (l + 1) := by omega
    obtain ⟨g, cap, C⟩ := hB.cellsy (by show 0 < max s.n (l + 1); omega)
    obtain ⟨B3, F3⟩ := hB.setElem (x := l) C.ve hN ⟨k, v, s.pushed⟩ 0
    have c0x := C.b0
    have c20 : wx.cell? ⟨h.bb, 20, none⟩ = some (.int .u64 s.pushed) := by
      obtain ⟨cur, hcur, _, _, _, _, _, _, h20⟩ := hB.hb.ex
      rw [← hbb]
      exact cells_cell hcur h20
    have d0 := C.e0 l hN
    have d1 := C.e1 l hN
    have d2 := C.e2 l hN
    have d3 := C.e3 l hN
    have r0 := C.fr (l * 4)
    have r1 := C.fr (l * 4 + 1)
    have r2 := C.fr (l * 4 + 2)
    have r3 := C.fr (l * 4 + 3)
    rw [hbb] at c0x
    have hli : (l : Int) < ((max s.n (l + 1) : Nat) : Int) := by omega
    have hl0 : (0 : Int) ≤ (l : Int) := by omega
    have hmi : ((max s.n (l + 1) : Nat) : Int) ≤ 1024 := by omega
    obtain ⟨N, hNd⟩ : ∃ N, max s.n (l + 1) = N := ⟨_, rfl⟩
    simp only at c0x B3 F3
    rw [hNd] at c0x hli hmi
    have HR := Lib.hid hR
    have HN := Lib.hid hNd
    have HB3 := Lib.hid B3
    have HF3 := Lib.hid F3
    have Hbb := Lib.hid hbb
    clear hR hB C B3 F3 hbb hNd hN
    go_wp2_with fail
    go_region
    obtain ⟨W3, hW3⟩ : ∃ W3, (((wx.setCell ⟨g, l * 4, none⟩ (.int .u64 k)).setCell ⟨g, l * 4 + 1, none⟩ (.int .i64 v)).setCell ⟨g, l * 4 + 2, none⟩ (.int .u64 s.pushed)).setCell ⟨g, l * 4 + 3, none⟩ (.int .i64 0) = W3 := ⟨_, rfl⟩
    have hB3 := HB3.out
    have hF3 := HF3.out
    rw [hW3] at hB3 hF3
    rw [hW3]
    have e20 : W3.cell? ⟨h.bb, 20, none⟩ = some (.int .u64 s.pushed) := by
      obtain ⟨cur, hcur, _, _, _, _, _, _, h20⟩ := hB3.hb.ex
      rw [← Hbb.out]
      exact cells_cell hcur h20
    have f20 : W3.frozen? ⟨h.bb, 20, none⟩ = false := by
      obtain ⟨cur, hcur, _⟩ := hB3.hb.ex
      rw [← Hbb.out]
      exact cells_free hcur 20
    obtain ⟨hB4, hF4⟩ := hB3.block 20 (.int .u64 (s.pushed + 1)) (hB3.hb.setP _) hB3.he hB3.hi
    have hfd : Fr [] (W3.setCell ⟨h1.bb, 20, none⟩ (.int .u64 (s.pushed + 1))) ((W3.setCell ⟨h1.bb, 20, none⟩ (.int .u64 (s.pushed + 1))).drewN 1) := fr_drewN _ 1 []
    have hB4' := hB4.frame hfd (fun _ _ => by simp)
    have hW := HI.out.word
    have hflip := flip_any hB4' l hl2 (hW _ (by omega))
    rw [Hbb.out] at hflip
    have Hflip := Lib.hid hflip
    have HF4 := Lib.hid (hF4.trans' (hfd.mono (fun _ hx => by simp at hx)))
    have HFF := Lib.hid hF3
    have hp0 := HI.out.p0
    have hp1 : s.pushed < 9223372036854775807 := by have := HI.out.p1; omega
    clear hB3 hF3 hB4 hF4 hfd hB4' hflip hW3 HB3 HF3 c0x c20 d0 d1 d2 d3 r0 r1 r2 r3 hW
    go_wp2_with fail
    refine Hflip.out.mono ?_
    rintro e w5 ⟨rfl, B5, F5⟩
    have hout : l ∉ hsOf S := fun hm => by
      have := (HI.out.bits l hl2).2 hm
      rw [HL.out.out hl2] at this
      cases this
    have hits : l ∉ s.its := fun hm => hout (HI.out.perm.mem_iff.1 hm)
    have hlen := HI.out.len
    have hSl := HS.out
    have hq := qpush_any B5 l (by show l < max s.n (l + 1); omega) hits (by show s.its.length ≤ 1023; omega) HI.out.nodup (fun y hy => by have := HI.out.ltn y hy; show y < max s.n (l + 1); omega)
      (heapO_congr HI.out.heap (fun y hy => by
        have : y ≠ l := fun e => hits (e ▸ hy)
        simp [upd, this]
        exact (HR.out.K y (HI.out.ltn y hy) this).symm))
      (idxAll_congr HI.out.idx (fun y hy => by
        have : y ≠ l := fun e => hits (e ▸ hy)
        simp [upd, this]
        exact (HR.out.X y (HI.out.ltn y hy) this).symm))
    have hh : (⟨h1.a, h.bb, h1.cb, h1.ve, h1.vi⟩ : Hp) = h1 := by rw [← Hbb.out]
    have Hhh := Lib.hid hh
    clear hh
    have Hq := Lib.hid hq
    have HF5 := Lib.hid F5
    clear hq F5 B5 hlen hSl hits hout
    unfold encN at *
    go_wp2_with fail
    refine Hq.out.mono ?_
    rintro e w6 ⟨h', L, X2, rfl, hS2, B6, F6, E6⟩
    rw [Hhh.out] at F6 E6
    go_wp2_with fail
    go_ret2
    refine ⟨by rw [lowOf_low HI.out HL.out hl2]; rfl, h', ⟨_, B6, ?_⟩, ?_, ?_⟩
    · exact HI.out.push (X0 := X2) HL.out hl2 rfl (by simp [upd]) (fun y hy hne => by simp [upd, hne]; exact HR.out.K y hy hne) rfl rfl hS2
    · exact fr_foot HR.out.ext rfl HR.out.fr (((rows_foot h1 HFF.out).trans' (bb_foot h1 HF4.out)).trans' ((bb_foot h1 (by rw [Hbb.out]; exact HF5.out)).trans' F6))
    · refine HR.out.ext.trans E6 ?_
      have s1 := HR.out.fr.size
      have s2 := HFF.out.size
      have s3 := HF4.out.size
      have s4 := HF5.out.size
      rw [← Hbb.out] at s4
      omega
end Go.Proofs.YtcjeckjmoponkaaGreatDoor.Dl
/- slices.Clone of the layout and of the elements; Layout; Copy. -/
namespace Go.Proofs.YtcjeckjmoponkaaGreatDoor.Dl
open Go.RowKit Go.Sort
open BodAt (row_ne row_row_ne)
set_option linter.unusedVariables false
set_option linter.unusedSimpArgs false

theorem row_cells {w : World} {base e size n cap g : Nat} {xs : List Value} (h : w.ownsRow base e size (.slice (some ⟨g, 0, none⟩) n cap) n xs) : ∀ (j : Nat) (u : Value), xs[j]? = some u → w.cell? ((⟨g, 0, none⟩ : Addr).add j) = some u := h.cells rfl
/-- A list that lies as a heap: no handle comes before its parent's, in the order of S. -/
structure LayOf (S : List El) (L : List Nat) : Prop where
  perm : L.Perm (hsOf S)
  par : ∀ j, 0 < j → j < L.length → (order S).idxOf (L.getD ((j - 1) / 4) 0) < (order S).idxOf (L.getD j 0)

end Go.Proofs.YtcjeckjmoponkaaGreatDoor.Dl
/- Copy. -/
namespace Go.Proofs.YtcjeckjmoponkaaGreatDoor.Dl
open Go.RowKit Go.Sort
open BodAt (row_ne row_row_ne)
set_option linter.unusedVariables false
set_option linter.unusedSimpArgs false

end Go.Proofs.YtcjeckjmoponkaaGreatDoor.Dl
/- Rows of numbers: their cells, their slices' form. -/
namespace Go.Proofs.YtcjeckjmoponkaaGreatDoor.Dl
open Go.RowKit Go.Sort
set_option linter.unusedVariables false
set_option linter.unusedSimpArgs false

theorem row_at {w : World} {base n cap g : Nat} {L : List Nat} (h : w.ownsRow base 3 1 (.slice (some ⟨g, 0, none⟩) n cap) n (L.map encN)) (j : Nat) (hj : j < L.length) : w.cell? ⟨g, j, none⟩ = some (encN (L.getD j 0)) := by
  have h1 : (L.map encN)[j]? = some (encN (L.getD j 0)) := by simp [List.getElem?_map, hj]
  have := row_cells h j _ h1
  rwa [Go.WideShapes.add_plain, Nat.zero_add] at this

theorem row_form {w : World} {base e size n : Nat} {v : Value} {xs : List Value} (h : w.ownsRow base e size v n xs) : ∃ a n c, v = .slice a n c := by
  rcases h.2 with ⟨hv, _⟩ | ⟨g, cap, cu, hv, _⟩
  · exact ⟨none, 0, 0, hv⟩
  · exact ⟨_, _, _, hv⟩

end Go.Proofs.YtcjeckjmoponkaaGreatDoor.Dl
/- A heap inside a law's call: the blocks of the law's own that it leaves alone. -/
namespace Go.Proofs.YtcjeckjmoponkaaGreatDoor.Dl
open Go.RowKit Go.Sort
set_option linter.unusedVariables false
set_option linter.unusedSimpArgs false

/-- A heap at block a, made since w0; it has the elements S and owns no block of G. -/
structure HeapIn (w0 : World) (G : Nat → Prop) (w : World) (a : Nat) (S : List El) (P : Nat) : Prop where
  ex : ∃ h : Hp, h.a = a ∧ HeapAt w h S P ∧ (∀ k, k ∈ h.foot → w0.heap.size ≤ k) ∧ (∀ k, k ∈ h.foot → ¬ G k)
  lt : ∀ k, G k → k < w.heap.size
  below : Below w0.heap.size w0 w

/-- What a call leaves alone. -/
def Keep (G : Nat → Prop) (w w' : World) : Prop := ∀ k, G k → w'.heap[k]? = w.heap[k]?
theorem Keep.refl (G : Nat → Prop) (w : World) : Keep G w w := fun _ _ => rfl
theorem Keep.trans {G : Nat → Prop} {a b c : World} (h : Keep G a b) (k : Keep G b c) : Keep G a c := fun x hx => (k x hx).trans (h x hx)

def pt (a : Nat) : Value := .pointer (some ⟨a, 0, none⟩)

namespace HeapIn
variable {w0 w : World} {G : Nat → Prop} {a : Nat} {S : List El} {P : Nat}

theorem len_le (H : HeapIn w0 G w a S P) : S.length ≤ 1024 := by obtain ⟨h, _, HA, _⟩ := H.ex; exact HA.len_le
theorem hlt (H : HeapIn w0 G w a S P) : ∀ x, x ∈ hsOf S → x < 1024 := by obtain ⟨h, _, HA, _⟩ := H.ex; exact HA.hlt
theorem mono {Q : Nat} (H : HeapIn w0 G w a S P) (hq : P ≤ Q) : HeapIn w0 G w a S Q := by
  obtain ⟨h, ha, HA, h1, h2⟩ := H.ex
  exact ⟨⟨h, ha, HA.mono hq, h1, h2⟩, H.lt, H.below⟩
/-- The world has grown; the blocks left alone may be new ones, too. -/
theorem more {w' : World} {G' : Nat → Prop} (H : HeapIn w0 G w a S P) (hb : Below w.heap.size w w') (hG : ∀ k, G' k → G k ∨ (w.heap.size ≤ k ∧ k < w'.heap.size)) : HeapIn w0 G' w' a S P := by
  obtain ⟨h, ha, HA, h1, h2⟩ := H.ex
  refine ⟨⟨h, ha, HA.frame (Fr.of_below hb []) (fun _ _ => by simp), h1, fun k hk hg => ?_⟩, fun k hk => ?_, H.below.trans (hb.mono H.below.size)⟩
  · rcases hG k hg with h' | h'
    · exact h2 k hk h'
    · have := HA.lt_foot k hk; omega
  · rcases hG k hk with h' | h'
    · have := H.lt k h'; have := hb.size; omega
    · exact h'.2
theorem grown {w' : World} (H : HeapIn w0 G w a S P) (hb : Below w.heap.size w w') : HeapIn w0 G w' a S P := H.more hb fun _ h => .inl h
theorem less {G' : Nat → Prop} (H : HeapIn w0 G w a S P) (hG : ∀ k, G' k → G k) : HeapIn w0 G' w a S P := H.more (Below.refl _ _) fun k h => .inl (hG k h)
theorem alloc (H : HeapIn w0 G w a S P) (o : Obj) : HeapIn w0 G (w.alloc o) a S P := H.grown ((Below.refl _ _).alloc (Nat.le_refl _) _)
theorem drew (H : HeapIn w0 G w a S P) (n : Nat) : HeapIn w0 G (w.drewN n) a S P := H.grown ((fr_drewN w n []).below (fun _ hx => by simp at hx) (Nat.le_refl _))
theorem keep {w' : World} (H : HeapIn w0 G w a S P) (hb : Below w.heap.size w w') : Keep G w w' := fun k hk => hb.block k (H.lt k hk)
/-- A block of the law's own is written. -/
theorem write {w' : World} {F : List Nat} (H : HeapIn w0 G w a S P) (hf : Fr F w w') (hF : ∀ k, k ∈ F → G k ∧ w0.heap.size ≤ k) : HeapIn w0 G w' a S P := by
  obtain ⟨h, ha, HA, h1, h2⟩ := H.ex
  exact ⟨⟨h, ha, HA.frame hf (fun k hk hm => h2 k hk (hF k hm).1), h1, h2⟩, fun k hk => Nat.lt_of_lt_of_le (H.lt k hk) hf.size, H.below.trans (hf.below (fun x hx => (hF x hx).2) H.below.size)⟩
theorem changed {w' : World} {S' : List El} {P' : Nat} (H : HeapIn w0 G w a S P) {h h' : Hp} (ha : h.a = a) (h1 : ∀ k, k ∈ h.foot → w0.heap.size ≤ k) (h2 : ∀ k, k ∈ h.foot → ¬ G k) (HA : HeapAt w' h' S' P') (hf : Fr h.foot w w') (hx : Ext w.heap.size h h') : HeapIn w0 G w' a S' P' ∧ Keep G w w' := by
  refine ⟨⟨⟨h', hx.a.trans ha, HA, fun k hk => ?_, fun k hk hg => ?_⟩, fun k hk => Nat.lt_of_lt_of_le (H.lt k hk) hf.size, H.below.trans (hf.below h1 H.below.size)⟩, fun k hk => hf.block k (H.lt k hk) (fun hm => h2 k hm hk)⟩
  · rcases hx.foot k hk with h' | h'
    · exact h1 k h'
    · have := H.below.size; omega
  · rcases hx.foot k hk with h' | h'
    · exact h2 k h' hg
    · have := H.lt k hg; omega
end HeapIn

theorem ptr_of {h : Hp} {a : Nat} (ha : h.a = a) : h.ptr = pt a := by subst ha; rfl

variable {w0 w : World} {G : Nat → Prop} {a : Nat} {S : List El} {P : Nat}

theorem new_in (w0 w : World) (G : Nat → Prop) (hG : ∀ k, G k → k < w.heap.size) (hb : Below w0.heap.size w0 w) :
    Calls Tryz.prog 147 #[] w fun e w' => ∃ a, e = .returned (pt a) ∧ HeapIn w0 G w' a [] 0 ∧ Below w.heap.size w w' := by
  refine (new_any w).mono ?_
  rintro e w' ⟨rfl, HA, hb'⟩
  refine ⟨_, by rw [ptr_of rfl], ⟨⟨_, rfl, HA, fun k hk => ?_, fun k hk hg => ?_⟩, fun k hk => Nat.lt_of_lt_of_le (hG k hk) hb'.size, hb.trans (hb'.mono hb.size)⟩, hb'⟩
  · have := foot_new _ k hk; have := hb.size; omega
  · have := foot_new _ k hk; have := hG k hg; omega

theorem push_in (H : HeapIn w0 G w a S P) (k v : Int) (hS : S.length < 1024) (hT : Tab w0) (hP : P < 9223372036854775807) :
    Calls Tryz.prog 199 #[pt a, .int .u64 k, .int .i64 v] w fun e w' => e = .returned (.tuple #[.int .i64 (lowOf (hsOf S)), .int .i64 0]) ∧ HeapIn w0 G w' a (pushS S k v) (P + 1) ∧ Keep G w w' := by
  obtain ⟨h, ha, HA, h1, h2⟩ := H.ex
  have hp := push_any HA k v hS (hT.below H.below hT.lt) hP
  rw [ptr_of ha] at hp
  refine hp.mono ?_
  rintro e w' ⟨rfl, h', HA', hf, hx⟩
  exact ⟨rfl, H.changed ha h1 h2 HA' hf hx⟩
theorem top_none_in (H : HeapIn w0 G w a [] P) : Calls Tryz.prog 202 #[pt a] w fun e w' => e = .returned (.tuple #[.int .i64 0, .int .i64 9]) ∧ w = w' := by
  obtain ⟨h, ha, HA, h1, h2⟩ := H.ex
  have hp := top_none HA
  rwa [ptr_of ha] at hp
theorem top_some_in (H : HeapIn w0 G w a S P) {x : Nat} (hx : (order S).head? = some x) : Calls Tryz.prog 202 #[pt a] w fun e w' => e = .returned (.tuple #[.int .i64 x, .int .i64 0]) ∧ w = w' := by
  obtain ⟨h, ha, HA, h1, h2⟩ := H.ex
  have hp := top_some HA hx
  rwa [ptr_of ha] at hp
theorem get_no_in (H : HeapIn w0 G w a S P) (n : Int) (hn : ¬ isH S n) : Calls Tryz.prog 203 #[pt a, .int .i64 n] w fun e w' => e = .returned (.tuple #[.int .u64 0, .int .i64 0, .int .i64 9]) ∧ w = w' := by
  obtain ⟨h, ha, HA, h1, h2⟩ := H.ex
  have hp := get_no HA n hn
  rwa [ptr_of ha] at hp
theorem get_yes_in (H : HeapIn w0 G w a S P) (e : El) (he : e ∈ S) : Calls Tryz.prog 203 #[pt a, .int .i64 e.h] w fun r w' => r = .returned (.tuple #[.int .u64 e.k, .int .i64 e.v, .int .i64 0]) ∧ HeapIn w0 G w' a S P ∧ Keep G w w' ∧ ∃ n, w' = w.drewN n := by
  obtain ⟨h, ha, HA, h1, h2⟩ := H.ex
  have hp := get_yes HA e he
  rw [ptr_of ha] at hp
  refine hp.mono ?_
  rintro r w' ⟨rfl, n, rfl⟩
  have hb : Below w.heap.size w (w.drewN n) := (fr_drewN w n []).below (fun _ hx => by simp at hx) (Nat.le_refl _)
  exact ⟨rfl, H.grown hb, H.keep hb, n, rfl⟩
theorem remove_yes_in (H : HeapIn w0 G w a S P) (x : Nat) (hx : x ∈ hsOf S) : Calls Tryz.prog 204 #[pt a, .int .i64 x] w fun e w' => e = .returned (.int .i64 0) ∧ HeapIn w0 G w' a (removeS S x) P ∧ Keep G w w' := by
  obtain ⟨h, ha, HA, h1, h2⟩ := H.ex
  have hp := remove_yes HA x hx
  rw [ptr_of ha] at hp
  refine hp.mono ?_
  rintro r w' ⟨rfl, h', HA', hf, hx⟩
  exact ⟨rfl, H.changed ha h1 h2 HA' hf hx⟩
end Go.Proofs.YtcjeckjmoponkaaGreatDoor.Dl
/- The lowest free handle; handles are different. -/
namespace Go.Proofs.YtcjeckjmoponkaaGreatDoor.Dl
open Go.RowKit Go.Sort
set_option linter.unusedVariables false
set_option linter.unusedSimpArgs false

theorem low_ex (hs : List Nat) : ∃ l, l ∉ hs ∧ (∀ j, j < l → j ∈ hs) ∧ l ≤ hs.length := by
  have h1 : ∃ l, l ∉ hs ∧ l ≤ hs.length := by
    refine Classical.byContradiction fun hn => ?_
    have := List.Nodup.length_le_of_subset (List.nodup_range (n := hs.length + 1)) (l₂ := hs) (fun j hj => Classical.byContradiction fun hm => hn ⟨j, hm, by have := List.mem_range.1 hj; omega⟩)
    rw [List.length_range] at this
    omega
  obtain ⟨l, ⟨hl, hle⟩, hmin⟩ := exists_least h1
  exact ⟨l, hl, fun j hj => Classical.byContradiction fun hm => by have := hmin j ⟨hm, by omega⟩; omega, hle⟩
theorem low_le (hs : List Nat) : lowOf hs ≤ hs.length := by obtain ⟨l, h1, h2, h3⟩ := low_ex hs; rw [lowOf_eq h1 h2]; exact h3

theorem HeapIn.nodup {w0 w : World} {G : Nat → Prop} {a : Nat} {S : List El} {P : Nat} (H : HeapIn w0 G w a S P) : (hsOf S).Nodup := by
  obtain ⟨h, _, HA, _⟩ := H.ex
  obtain ⟨s, b, i⟩ := HA.ex
  exact i.keeps.nodup

end Go.Proofs.YtcjeckjmoponkaaGreatDoor.Dl
