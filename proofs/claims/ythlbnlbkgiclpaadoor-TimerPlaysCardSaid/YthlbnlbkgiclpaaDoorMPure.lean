/- The reference's list and the timers that are set: what each call does to both, without any memory. -/
import Derived.Test.YthlbnlbkgiclpaaDoorMSet2
namespace Go.Proofs.YthlbnlbkgiclpaaDoor
open Go.RowKit Go.Sort
set_option linter.unusedVariables false
set_option linter.unusedSimpArgs false

def elOf (e : Tm) : El := ⟨e.n, e.o, e.k⟩
theorem alive_append (L M : List Tm) : alive (L ++ M) = alive L ++ alive M := by unfold alive; rw [List.filter_append]
theorem ofN_append (L M : List Tm) (x : Int) : ofN (L ++ M) x = ofN L x ++ ofN M x := by unfold ofN; rw [List.filter_append]

/-- The reference's list, the timers that are set in their order, and the generations. -/
structure Rel (L : List Tm) (S : List El) (gs : List Nat) : Prop where
  map : (alive L).map elOf = S
  gen : ∀ e ∈ alive L, e.g = gs.getD e.n 0
  cnt : ∀ x : Nat, (ofN L x).length = gs.getD x 0 + (if x ∈ hsOf S then 1 else 0)
theorem Rel.nums {L : List Tm} {S : List El} {gs : List Nat} (R : Rel L S gs) : numsM L = hsOf S := by
  unfold numsM hsOf
  rw [← R.map, List.map_map]
  rfl
theorem Rel.len {L : List Tm} {S : List El} {gs : List Nat} (R : Rel L S gs) : (alive L).length = S.length := by
  rw [← R.map, List.length_map]
theorem rel_nil : Rel [] [] [] := ⟨rfl, fun e he => by simp [alive] at he, fun x => by simp [ofN, hsOf]⟩

theorem rel_set {L : List Tm} {S : List El} {gs : List Nat} (R : Rel L S gs) (k o : Int) : Rel (setM L k o) (pushS S k o) (setG gs (lowOf (hsOf S))) := by
  have hn := R.nums
  have hlow : (ofN L (lowOf (hsOf S) : Nat)).length = gs.getD (lowOf (hsOf S)) 0 := by
    rw [R.cnt, if_neg (low_not _)]; omega
  refine ⟨?_, ?_, ?_⟩
  · unfold setM
    rw [alive_append, List.map_append, R.map, hn]
    rfl
  · intro e he
    unfold setM at he
    rw [alive_append] at he
    rw [setG_get]
    rcases List.mem_append.1 he with h | h
    · exact R.gen e h
    · have : e = ⟨lowOf (hsOf S), (ofN L (lowOf (hsOf S) : Nat)).length, o, k, false⟩ := by
        rw [hn] at h
        simpa [alive] using h
      subst this
      exact hlow
  · intro x
    unfold setM
    rw [ofN_append, List.length_append, R.cnt, setG_get, hs_push, hn]
    by_cases hx : x = lowOf (hsOf S)
    · subst hx
      rw [if_neg (low_not _)]
      simp [ofN]
    · have h1 : (ofN [⟨lowOf (hsOf S), (ofN L (lowOf (hsOf S) : Nat)).length, o, k, false⟩] (x : Int)) = [] := by
        unfold ofN
        rw [List.filter_cons_of_neg (by simp; omega)]
        rfl
      rw [h1]
      simp [hx]

theorem ofN_set_len : ∀ (L : List Tm) (i : Nat) (e e1 : Tm) (x : Int), L[i]? = some e → e1.n = e.n → (ofN (L.set i e1) x).length = (ofN L x).length
  | [], i, e, e1, x, h, _ => by simp at h
  | y :: L, 0, e, e1, x, h, hn => by
    simp at h; subst h
    simp only [List.set_cons_zero, ofN, List.filter_cons, hn]
    split <;> rfl
  | y :: L, i + 1, e, e1, x, h, hn => by
    have := ofN_set_len L i e e1 x (by simpa using h) hn
    unfold ofN at this ⊢
    simp only [List.set_cons_succ, List.filter_cons]
    split <;> simp [this]

theorem alive_mem {L : List Tm} {i : Nat} {e : Tm} (h : L[i]? = some e) (hg : e.gone = false) : e ∈ alive L := by
  unfold alive
  exact List.mem_filter.2 ⟨List.mem_of_getElem? h, by simp [hg]⟩
theorem alive_stop : ∀ (L : List Tm) (i : Nat) (e : Tm), L[i]? = some e → e.gone = false → (numsM L).Nodup → alive (L.set i ⟨e.n, e.g, e.o, e.k, true⟩) = (alive L).filter fun f => decide (f.n ≠ e.n)
  | [], i, e, h, _, _ => by simp at h
  | y :: L, 0, e, h, hg, hnd => by
    simp at h; subst h
    have h1 : alive (y :: L) = y :: alive L := by unfold alive; rw [List.filter_cons_of_pos (by simp [hg])]
    unfold numsM at hnd
    rw [h1] at hnd ⊢
    rw [List.filter_cons_of_neg (by simp)]
    have h2 : alive ((y :: L).set 0 ⟨y.n, y.g, y.o, y.k, true⟩) = alive L := by
      unfold alive; rw [List.set_cons_zero, List.filter_cons_of_neg (by simp)]
    rw [h2]
    symm
    rw [List.filter_eq_self]
    intro f hf
    simp only [decide_eq_true_eq]
    intro q
    exact (List.nodup_cons.1 hnd).1 (by rw [← q]; exact List.mem_map_of_mem hf)
  | y :: L, i + 1, e, h, hg, hnd => by
    have hi : L[i]? = some e := by simpa using h
    have hm := alive_mem hi hg
    rw [List.set_cons_succ]
    cases hy : y.gone with
    | true =>
      have h1 : ∀ M, alive (y :: M) = alive M := fun M => by unfold alive; rw [List.filter_cons_of_neg (by simp [hy])]
      unfold numsM at hnd
      rw [h1] at hnd
      rw [h1, h1]
      exact alive_stop L i e hi hg hnd
    | false =>
      have h1 : ∀ M, alive (y :: M) = y :: alive M := fun M => by unfold alive; rw [List.filter_cons_of_pos (by simp [hy])]
      unfold numsM at hnd
      rw [h1] at hnd
      have hnd2 := List.nodup_cons.1 hnd
      rw [h1, h1, List.filter_cons_of_pos, alive_stop L i e hi hg hnd2.2]
      simp only [decide_eq_true_eq]
      intro q
      exact hnd2.1 (by rw [q]; exact List.mem_map_of_mem hm)
theorem rel_stop {L : List Tm} {S : List El} {gs : List Nat} (R : Rel L S gs) (hnd : (hsOf S).Nodup) {i : Nat} {e : Tm} (hi : L[i]? = some e) (hg : e.gone = false) (hl : e.n < gs.length) : Rel (L.set i ⟨e.n, e.g, e.o, e.k, true⟩) (removeS S e.n) (bump gs e.n) := by
  have hnd2 : (numsM L).Nodup := by rw [R.nums]; exact hnd
  have ha := alive_stop L i e hi hg hnd2
  have hmem : e.n ∈ hsOf S := by rw [← R.nums]; exact List.mem_map_of_mem (alive_mem hi hg)
  refine ⟨?_, ?_, ?_⟩
  · rw [ha, ← R.map]
    unfold removeS
    rw [List.filter_map]
    rfl
  · intro f hf
    rw [ha] at hf
    obtain ⟨h1, h2⟩ := List.mem_filter.1 hf
    simp only [decide_eq_true_eq] at h2
    rw [bump_get gs e.n f.n hl, if_neg h2, R.gen f h1]
    rfl
  · intro x
    rw [ofN_set_len L i e ⟨e.n, e.g, e.o, e.k, true⟩ x hi rfl, R.cnt, bump_get gs e.n x hl]
    have hx : x ∈ hsOf (removeS S e.n) ↔ x ∈ hsOf S ∧ x ≠ e.n := by
      unfold hsOf removeS
      simp only [List.mem_map, List.mem_filter, decide_eq_true_eq]
      constructor
      · rintro ⟨f, ⟨h1, h2⟩, rfl⟩; exact ⟨⟨f, h1, rfl⟩, h2⟩
      · rintro ⟨⟨f, h1, rfl⟩, h2⟩; exact ⟨f, ⟨h1, h2⟩, rfl⟩
    by_cases q : x = e.n
    · subst q
      rw [if_pos hmem, if_pos rfl, if_neg (fun h => (hx.1 h).2 rfl)]
    · rw [if_neg q]
      by_cases q2 : x ∈ hsOf S
      · rw [if_pos q2, if_pos (hx.2 ⟨q2, q⟩)]
      · rw [if_neg q2, if_neg (fun h => q2 (hx.1 h).1)]
theorem alive_reset : ∀ (L : List Tm) (i : Nat) (e : Tm) (k : Int), L[i]? = some e → e.gone = false → (numsM L).Nodup → alive (L.set i ⟨e.n, e.g, e.o, k, e.gone⟩) = (alive L).map fun f => if f.n = e.n then ⟨f.n, f.g, f.o, k, f.gone⟩ else f
  | [], i, e, k, h, _, _ => by simp at h
  | y :: L, 0, e, k, h, hg, hnd => by
    simp at h; subst h
    have h1 : alive (y :: L) = y :: alive L := by unfold alive; rw [List.filter_cons_of_pos (by simp [hg])]
    unfold numsM at hnd
    rw [h1] at hnd ⊢
    have h2 : alive ((y :: L).set 0 ⟨y.n, y.g, y.o, k, y.gone⟩) = ⟨y.n, y.g, y.o, k, y.gone⟩ :: alive L := by
      unfold alive; rw [List.set_cons_zero, List.filter_cons_of_pos (by simp [hg])]
    rw [h2, List.map_cons, if_pos rfl]
    congr 1
    symm
    refine (List.map_congr_left (fun f hf => ?_)).trans (List.map_id _)
    rw [if_neg]
    · rfl
    · intro q
      exact (List.nodup_cons.1 hnd).1 (by rw [← q]; exact List.mem_map_of_mem hf)
  | y :: L, i + 1, e, k, h, hg, hnd => by
    have hi : L[i]? = some e := by simpa using h
    have hm := alive_mem hi hg
    rw [List.set_cons_succ]
    cases hy : y.gone with
    | true =>
      have h1 : ∀ M, alive (y :: M) = alive M := fun M => by unfold alive; rw [List.filter_cons_of_neg (by simp [hy])]
      unfold numsM at hnd
      rw [h1] at hnd
      rw [h1, h1]
      exact alive_reset L i e k hi hg hnd
    | false =>
      have h1 : ∀ M, alive (y :: M) = y :: alive M := fun M => by unfold alive; rw [List.filter_cons_of_pos (by simp [hy])]
      unfold numsM at hnd
      rw [h1] at hnd
      have hnd2 := List.nodup_cons.1 hnd
      rw [h1, h1, List.map_cons, alive_reset L i e k hi hg hnd2.2, if_neg]
      intro q
      exact hnd2.1 (by rw [q]; exact List.mem_map_of_mem hm)
theorem rel_reset {L : List Tm} {S : List El} {gs : List Nat} (R : Rel L S gs) (hnd : (hsOf S).Nodup) {i : Nat} {e : Tm} (hi : L[i]? = some e) (hg : e.gone = false) (k : Int) : Rel (L.set i ⟨e.n, e.g, e.o, k, e.gone⟩) (changeS S e.n k) gs := by
  have hnd2 : (numsM L).Nodup := by rw [R.nums]; exact hnd
  have ha := alive_reset L i e k hi hg hnd2
  refine ⟨?_, ?_, ?_⟩
  · rw [ha, ← R.map]
    unfold changeS
    rw [List.map_map, List.map_map]
    refine List.map_congr_left (fun f hf => ?_)
    by_cases q : f.n = e.n
    · simp [elOf, q]
    · simp [elOf, q]
  · intro f hf
    rw [ha] at hf
    obtain ⟨f0, h1, rfl⟩ := List.mem_map.1 hf
    have := R.gen f0 h1
    by_cases q : f0.n = e.n
    · rw [if_pos q]; exact this
    · rw [if_neg q]; exact this
  · intro x
    rw [ofN_set_len L i e ⟨e.n, e.g, e.o, k, e.gone⟩ x hi rfl, R.cnt, hs_change]

/-- What first says of the timers that are set. -/
theorem rel_none {L : List Tm} {S : List El} {gs : List Nat} (R : Rel L S gs) (h : NoneM L L.length) : S = [] := by
  rw [← R.map]
  have : alive L = [] := by
    unfold alive
    rw [List.filter_eq_nil_iff]
    intro e he
    obtain ⟨j, hj, rfl⟩ := List.getElem_of_mem he
    simp [h j _ hj (List.getElem?_eq_getElem hj)]
  rw [this]; rfl
/-- Where an element of the list stands among those that are set. -/
theorem alive_at : ∀ (L : List Tm) (b : Nat) (e : Tm), L[b]? = some e → e.gone = false → (alive L)[(alive (L.take b)).length]? = some e ∧ ∀ j f, (alive L)[j]? = some f → ∃ i, L[i]? = some f ∧ f.gone = false ∧ (j < (alive (L.take b)).length → i < b)
  | [], b, e, h, _ => by simp at h
  | y :: L, 0, e, h, hg => by
    simp at h; subst h
    refine ⟨by simp [alive, hg], fun j f hf => ?_⟩
    have hm := List.mem_filter.1 (List.mem_of_getElem? hf)
    obtain ⟨i, hi, rfl⟩ := List.getElem_of_mem hm.1
    exact ⟨i, List.getElem?_eq_getElem hi, by simpa using hm.2, fun q => by simp [alive] at q⟩
  | y :: L, b + 1, e, h, hg => by
    have hb : L[b]? = some e := by simpa using h
    obtain ⟨h1, h2⟩ := alive_at L b e hb hg
    cases hy : y.gone with
    | true =>
      have h3 : ∀ M, alive (y :: M) = alive M := fun M => by unfold alive; rw [List.filter_cons_of_neg (by simp [hy])]
      rw [List.take_succ_cons, h3, h3]
      refine ⟨h1, fun j f hf => ?_⟩
      obtain ⟨i, q1, q2, q3⟩ := h2 j f hf
      exact ⟨i + 1, by simpa using q1, q2, fun q => by have := q3 q; omega⟩
    | false =>
      have h3 : ∀ M, alive (y :: M) = y :: alive M := fun M => by unfold alive; rw [List.filter_cons_of_pos (by simp [hy])]
      rw [List.take_succ_cons, h3, h3]
      refine ⟨by simpa using h1, fun j f hf => ?_⟩
      cases j with
      | zero =>
        simp at hf; subst hf
        exact ⟨0, rfl, hy, fun _ => by omega⟩
      | succ j =>
        obtain ⟨i, q1, q2, q3⟩ := h2 j f (by simpa using hf)
        exact ⟨i + 1, by simpa using q1, q2, fun q => by have := q3 (by simpa using q); omega⟩
theorem isBest_eqM {T : List El} {b c : Nat} (hb : IsBest T b) (hc : IsBest T c) : b = c := by
  rcases Nat.lt_trichotomy b c with h | h | h
  · have h1 := hc.first b h
    have h2 := hb.least c hc.lt
    omega
  · exact h
  · have h1 := hb.first c h
    have h2 := hc.least b hb.lt
    omega
theorem rel_best {L : List Tm} {S : List El} {gs : List Nat} (R : Rel L S gs) {b : Nat} {e : Tm} (h : BestM L L.length b e) : fstE S = some (elOf e) := by
  obtain ⟨hb, he, hg, hle⟩ := h
  obtain ⟨h1, h2⟩ := alive_at L b e he hg
  generalize hp : (alive (L.take b)).length = p at h1 h2
  have hS : S[p]? = some (elOf e) := by rw [← R.map, List.getElem?_map, h1]; rfl
  obtain ⟨hpl, hpe⟩ := List.getElem?_eq_some_iff.1 hS
  have hall : ∀ j (hj : j < S.length), e.k ≤ (S[j]).k ∧ (j < p → e.k < (S[j]).k) := by
    intro j hj
    have hj2 : S[j]? = some S[j] := List.getElem?_eq_getElem hj
    generalize S[j] = x at hj2 ⊢
    rw [← R.map, List.getElem?_map] at hj2
    cases hf : (alive L)[j]? with
    | none => rw [hf] at hj2; simp at hj2
    | some f =>
      rw [hf] at hj2
      simp only [Option.map_some, Option.some.injEq] at hj2
      obtain ⟨i, q1, q2, q3⟩ := h2 j f hf
      have hil : i < L.length := (List.getElem?_eq_some_iff.1 q1).1
      obtain ⟨r1, r2⟩ := hle i f hil q1 q2
      have hk : f.k = x.k := congrArg El.k hj2
      rw [← hk]
      exact ⟨r1, fun q => r2 (q3 q)⟩
  have hB : IsBest S p := ⟨hpl, fun j hj => by rw [hpe]; exact (hall j hj).1, fun j hj => by rw [hpe]; exact (hall j (by omega)).2 hj⟩
  have h0 : 0 < S.length := by omega
  rw [fstE_some h0]
  have hbe : best S = p := isBest_eqM (isBest_best h0) hB
  congr 1
  rw [← hpe]
  congr 1
theorem rel_next {L : List Tm} {S : List El} {gs : List Nat} (R : Rel L S gs) {v : Int} (h : NextM L v) : v = nextK S := by
  rcases h with ⟨rfl, hN⟩ | ⟨b, e, rfl, hB⟩
  · rw [rel_none R hN]; rfl
  · unfold nextK
    rw [rel_best R hB]
    rfl
end Go.Proofs.YthlbnlbkgiclpaaDoor
