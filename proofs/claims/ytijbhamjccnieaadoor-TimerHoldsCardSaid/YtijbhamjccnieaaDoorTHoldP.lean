/- What TimerHolds knows of names, and of two timers side by side. -/
import Derived.Test.YtijbhamjccnieaaDoorTConst
import Derived.Test.YtijbhamjccnieaaDoorTActs
namespace Go.Proofs.YtijbhamjccnieaaDoor
open Go.RowKit Go.Sort
set_option linter.unusedVariables false
set_option linter.unusedSimpArgs false

/-- How many names with a number were given so far. -/
def cnt (S : List El) (gs : List Nat) (x : Nat) : Nat := gs.getD x 0 + (if x ∈ hsOf S then 1 else 0)
theorem cnt_change (S : List El) (gs : List Nat) (h : Nat) (k : Int) (x : Nat) : cnt (changeS S h k) gs x = cnt S gs x := by unfold cnt; rw [hs_change]
theorem cnt_remove (S : List El) (gs : List Nat) (h : Nat) (hh : h ∈ hsOf S) (hl : h < gs.length) (x : Nat) : cnt (removeS S h) (bump gs h) x = cnt S gs x := by
  unfold cnt
  rw [bump_get gs h x hl, hs_remove]
  by_cases hx : x = h
  · subst hx
    rw [if_pos rfl, if_neg (by simp), if_pos hh]
  · rw [if_neg hx]
    have : (x ∈ (hsOf S).filter fun y => decide (y ≠ h)) ↔ x ∈ hsOf S := by simp [hx]
    by_cases h1 : x ∈ hsOf S
    · rw [if_pos h1, if_pos (this.2 h1)]
    · rw [if_neg h1, if_neg (fun q => h1 (this.1 q))]
theorem cnt_push (S : List El) (gs : List Nat) (k v : Int) (x : Nat) : cnt (pushS S k v) (setG gs (lowOf (hsOf S))) x = cnt S gs x + (if x = lowOf (hsOf S) then 1 else 0) := by
  unfold cnt
  rw [setG_get, hs_push]
  have hlow := low_not (hsOf S)
  by_cases hx : x = lowOf (hsOf S)
  · rw [hx, if_pos (by simp), if_neg hlow, if_pos rfl]
  · rw [if_neg hx]
    have : (x ∈ hsOf S ++ [lowOf (hsOf S)]) ↔ x ∈ hsOf S := by simp [hx]
    by_cases h1 : x ∈ hsOf S
    · rw [if_pos h1, if_pos (this.2 h1)]
    · rw [if_neg h1, if_neg (fun q => h1 (this.1 q))]
theorem cnt_exp : ∀ (n : Nat) (now : Int) (S : List El) (gs : List Nat), S.length = n → (∀ x, x ∈ hsOf S → x < gs.length) → ∀ x, cnt (expS now S gs).2.1 (expS now S gs).2.2 x = cnt S gs x
  | n, now, S, gs, hn, hl, x => by
    cases hf : fstE S with
    | none => rw [expS_none hf]
    | some e =>
      by_cases hk : e.k ≤ now
      · have hm := fstE_mem hf
        have hlt := remove_lt hm
        have hh : e.h ∈ hsOf S := List.mem_map_of_mem hm
        rw [expS_due hf hk]
        simp only
        rw [cnt_exp (removeS S e.h).length now (removeS S e.h) (bump gs e.h) rfl (fun y hy => by
          rw [bump_len]
          rw [hs_remove] at hy
          exact hl y (List.mem_filter.1 hy).1) x, cnt_remove S gs e.h hh (hl _ hh) x]
      · rw [expS_late hf hk]
  termination_by n => n
  decreasing_by omega

/-- The names that were given. -/
def NamesOk (L : List (Nat × Nat)) (S : List El) (gs : List Nat) : Prop := ∀ y ∈ L, y.2 < cnt S gs y.1
theorem NamesOk.same {L : List (Nat × Nat)} {S S' : List El} {gs gs' : List Nat} (h : NamesOk L S gs) (hc : ∀ x, cnt S' gs' x = cnt S gs x) : NamesOk L S' gs' := fun y hy => by rw [hc]; exact h y hy
theorem NamesOk.new {L : List (Nat × Nat)} {S : List El} {gs : List Nat} (h : NamesOk L S gs) : ∀ y ∈ L, y ≠ (lowOf (hsOf S), gs.getD (lowOf (hsOf S)) 0) := fun y hy q => by
  have := h y hy
  rw [q] at this
  simp only [cnt, if_neg (low_not (hsOf S))] at this
  omega
theorem NamesOk.push {L : List (Nat × Nat)} {S : List El} {gs : List Nat} (h : NamesOk L S gs) (k v : Int) : NamesOk (L ++ [(lowOf (hsOf S), gs.getD (lowOf (hsOf S)) 0)]) (pushS S k v) (setG gs (lowOf (hsOf S))) := fun y hy => by
  rw [cnt_push]
  rcases List.mem_append.1 hy with hy | hy
  · have := h y hy; omega
  · simp at hy
    subst hy
    simp only [cnt, if_neg (low_not (hsOf S))]
    simp

/-- A slice of names. -/
def cellsN : List (Nat × Nat) → List Value
  | [] => []
  | y :: L => .int .i64 y.1 :: .int .i64 y.2 :: cellsN L
theorem cellsN_append : ∀ (S T : List (Nat × Nat)), cellsN (S ++ T) = cellsN S ++ cellsN T
  | [], T => rfl
  | e :: S, T => by show _ :: _ :: cellsN (S ++ T) = _; rw [cellsN_append S T]; rfl
theorem cellsN_get : ∀ (S : List (Nat × Nat)) (j : Nat) (e : Nat × Nat), S[j]? = some e → (cellsN S)[j * 2]? = some (.int .i64 e.1) ∧ (cellsN S)[j * 2 + 1]? = some (.int .i64 e.2)
  | [], j, e, h => by simp at h
  | x :: S, 0, e, h => by simp at h; subst h; exact ⟨rfl, rfl⟩
  | x :: S, j + 1, e, h => by
    have := cellsN_get S j e (by simpa using h)
    rw [show (j + 1) * 2 = j * 2 + 1 + 1 by omega]
    simpa [cellsN] using this
def RowN (w : World) (base : Nat) (s : Value) (L : List (Nat × Nat)) : Prop := w.ownsRow base 53 2 s L.length (cellsN L)
theorem RowN.cells {w : World} {base n cap g : Nat} {L : List (Nat × Nat)} (h : RowN w base (.slice (some ⟨g, 0, none⟩) n cap) L) (j : Nat) (e : Nat × Nat) (hj : L[j]? = some e) :
    w.cell? ⟨g, j * 2, none⟩ = some (.int .i64 e.1) ∧ w.cell? ⟨g, j * 2 + 1, none⟩ = some (.int .i64 e.2) := by
  have hn : n = L.length := by
    rcases h.2 with ⟨h', _⟩ | ⟨_, _, _, h', _⟩
    · simp at h'
    · simp at h'; exact h'.2.1
  subst hn
  have hr := row_cells h
  obtain ⟨h0, h1⟩ := cellsN_get L j e hj
  have a0 := hr _ _ h0
  have a1 := hr _ _ h1
  rw [Go.WideShapes.add_plain, Nat.zero_add] at a0 a1
  exact ⟨a0, a1⟩
theorem RowN.below {w w' : World} {base : Nat} {s : Value} {D : List (Nat × Nat)} (h : RowN w base s D) (hb : Below w.heap.size w w') : RowN w' base s D := (Fr.of_below hb []).row h (fun _ _ => by simp)
theorem RowN.keep {w w' : World} {base : Nat} {s : Value} {D : List (Nat × Nat)} (h : RowN w base s D) (hk : ∀ g, s.ownBlock = some g → w'.heap[g]? = w.heap[g]?) : RowN w' base s D := by
  refine ⟨h.1, ?_⟩
  rcases h.2 with h' | ⟨g, cap, cur, rfl, hb, hg, r⟩
  · exact .inl h'
  · exact .inr ⟨g, cap, cur, rfl, hb, (hk g rfl).trans hg, r⟩
theorem infoID : (Tryd.prog.info? 53).map (fun i => (i.zero, i.size, i.bytes)) = some (some (.agg #[.int .i64 0, .int .i64 0]), 2, 16) := by kernel_rfl
theorem new_cells2 (w : World) (a b : Value) (t : TypeId) : ∀ (j : Nat) (u : Value), [a, b][j]? = some u → (w.alloc (.cells #[a, b] t)).cell? ((⟨w.heap.size, 0, none⟩ : Addr).add j) = some u := by
  intro j u hu
  rw [Go.WideShapes.add_plain, Nat.zero_add]
  exact cell_new _ _ _ _ _ _ rfl (by simpa using hu)
theorem nextK_gt {S : List El} {x : Int} (h : ∀ e ∈ S, x < e.k) (hx : x < 18446744073709551615) : decide (nextK S ≤ x) = false := by
  simp only [decide_eq_false_iff_not, Int.not_le]
  cases hf : fstE S with
  | none => rw [nextK_none hf]; exact hx
  | some e => rw [nextK_some hf]; exact h e (fstE_mem hf)
/-- What TimerHolds asks of the two ways to expire. -/
structure TwoWays (lo hi : Int) (S : List El) (gs : List Nat) (A B ALL : List Du) (Sa : List El) (ga : List Nat) (Sb : List El) (gb : List Nat) : Prop where
  all : ALL = A ++ B
  n1 : decide (nextK Sa ≤ lo) = false
  n2 : decide (nextK Sb ≤ hi) = false
  sorted : ALL.Pairwise (fun a b => a.k ≤ b.k)
  len : ALL.length ≤ S.length
theorem two_ways {lo hi : Int} {S : List El} {gs : List Nat} (hle : lo ≤ hi) (hhi : hi < 18446744073709551615) (hnd : (hsOf S).Nodup) :
    TwoWays lo hi S gs (expS lo S gs).1 (expS hi (expS lo S gs).2.1 (expS lo S gs).2.2).1 (expS hi S gs).1 (expS lo S gs).2.1 (expS lo S gs).2.2 (expS hi S gs).2.1 (expS hi S gs).2.2 := by
  obtain ⟨h1, h2⟩ := expS_two S.length lo hi S gs rfl hle
  refine ⟨h1, nextK_gt (fun e he => ?_) (by omega), nextK_gt (fun e he => ?_) hhi, expS_sorted _ _ _ _ rfl, (expS_len _ _ _ _ rfl).1⟩
  · rw [expS_rest S.length lo S gs rfl hnd] at he
    simpa using (List.mem_filter.1 he).2
  · rw [expS_rest S.length hi S gs rfl hnd] at he
    simpa using (List.mem_filter.1 he).2
theorem low_snd (S : List El) : lowOf (hsOf S) ≤ S.length := by have := low_le (hsOf S); simpa [hsOf] using this
end Go.Proofs.YtijbhamjccnieaaDoor
