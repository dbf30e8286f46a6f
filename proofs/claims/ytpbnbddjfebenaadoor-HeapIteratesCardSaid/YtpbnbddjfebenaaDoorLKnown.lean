/- The examples of the chapter hold: the contract of known. -/
import Derived.Test.YtpbnbddjfebenaaDoorLInAll
namespace Go.Proofs.YtpbnbddjfebenaaDoor
open Go.RowKit Go.Sort
set_option linter.unusedVariables false
set_option linter.unusedSimpArgs false

theorem idxOf_head {α : Type} [BEq α] [LawfulBEq α] (a b : α) (r : List α) (h : (a :: r).idxOf b = 0) : b = a := by
  rw [List.idxOf_cons] at h
  by_cases e : a == b
  · exact (eq_of_beq e).symm
  · rw [cond_eq_ite, if_neg e] at h; omega

/-- A layout's first handle is the first one in order. -/
theorem LayOf.head {S : List El} {L : List Nat} (h : LayOf S L) (h0 : 0 < L.length) : (order S).head? = some (L.getD 0 0) := by
  have hS : 0 < S.length := by have := h.perm.length_eq; simp [hsOf] at this; omega
  have hop := order_perm S.length S rfl
  have hle : ∀ n j, j ≤ n → j < L.length → (order S).idxOf (L.getD 0 0) ≤ (order S).idxOf (L.getD j 0) := by
    intro n
    induction n with
    | zero => intro j hj _; obtain rfl : j = 0 := by omega
              exact Nat.le_refl _
    | succ n ih =>
      intro j hj hl
      by_cases e : j = 0
      · subst e; exact Nat.le_refl _
      · have h1 := h.par j (by omega) hl
        have h2 := ih ((j - 1) / 4) (by omega) (by omega)
        omega
  obtain ⟨a, r, hr⟩ : ∃ a r, order S = a :: r := ⟨_, _, order_cons hS⟩
  have ha : a ∈ L := h.perm.mem_iff.2 (hop.mem_iff.1 (by rw [hr]; simp))
  obtain ⟨j, hj, hja⟩ := List.getElem_of_mem ha
  have e3 : L.getD j 0 = a := by simp [List.getD_eq_getElem?_getD, hj, hja]
  have h3 := hle j j (Nat.le_refl _) hj
  rw [e3, hr] at h3
  have e4 : (a :: r).idxOf a = 0 := by simp
  rw [hr]
  have e5 := idxOf_head a (L.getD 0 0) r (by omega)
  rw [e5]
  rfl

theorem LayOf.len {S : List El} {L : List Nat} (h : LayOf S L) : L.length = S.length := by have := h.perm.length_eq; simpa [hsOf] using this
theorem LayOf.lt {S : List El} {L : List Nat} (h : LayOf S L) (hb : ∀ x, x ∈ hsOf S → x < 1024) (j : Nat) (hj : j < L.length) : L.getD j 0 < 1024 := hb _ (h.perm.mem_iff.1 (getD_mem L j hj))

def k3 : List El := [⟨0, 50, 5⟩, ⟨1, 30, 3⟩, ⟨2, 51, 5⟩]
def k4 : List El := [⟨0, 50, 5⟩, ⟨1, 30, 3⟩, ⟨2, 51, 1⟩]
def k6 : List El := [⟨1, 30, 3⟩, ⟨2, 51, 5⟩]
def k7 : List El := [⟨1, 30, 3⟩, ⟨2, 51, 5⟩, ⟨0, 90, 9⟩]

theorem row3 (w : World) (a b c : Nat) : (w.alloc (.cells #[.int .i64 a, .int .i64 b, .int .i64 c] 3)).ownsRow 0 3 1 (.slice (some ⟨w.heap.size, 0, none⟩) 3 3) 3 ([a, b, c].map encN) :=
  World.ownsRow_lit w _ 3 (Nat.zero_le _) (by unfold maxLen; omega) rfl

set_option maxHeartbeats 3200000 in
theorem known_any (w : World) (hT : Tab w) :
    Calls Tryd.prog 4 #[] w fun e w' => e = .returned (.bool true) ∧ Below w.heap.size w w' := by
  go_enter Tryd.func4, Tryd.ntmps4
  go_wp2_with (first | (go_at_call 5; fail))
  refine (new_in w w (fun _ => False) (fun _ h => h.elim) (Below.refl _ _)).mono ?_
  rintro e w1 ⟨a, rfl, H1, _⟩
  unfold pt
  go_wp2_with (first | (go_at_call 9; fail))
  refine (top_none_in H1).mono ?_
  rintro e w' ⟨rfl, rfl⟩
  go_wp2_with (first | (go_at_call 12; fail))
  refine (pushes_in H1 5 50 (by decide) hT (by omega) 0 rfl).mono ?_
  rintro e w2 ⟨rfl, H2, _⟩
  go_wp2_with (first | (go_at_call 12; fail))
  refine (pushes_in H2 3 30 (by decide) hT (by omega) 1 rfl).mono ?_
  rintro e w3 ⟨rfl, H3, _⟩
  go_wp2_with (first | (go_at_call 12; fail))
  refine (pushes_in H3 5 51 (by decide) hT (by omega) 2 rfl).mono ?_
  rintro e w4 ⟨rfl, H4, _⟩
  have H5 : HeapIn w (fun _ => False) w4 a k3 3 := H4
  clear H4 H3 H2 H1
  go_wp2_with (first | (go_at_call 9; fail))
  refine (top_some_in H5 (x := 1) (by decide +kernel)).mono ?_
  rintro e w' ⟨rfl, rfl⟩
  go_wp2_with (first | (go_at_call 13; fail))
  refine (layout_in H5).mono ?_
  rintro e w5 ⟨v', L, rfl, hL, hrow, hb⟩
  have H6 := H5.grown hb
  have hl3 : L.length = 3 := hL.len
  have hhd : L.getD 0 0 = 1 := by have := hL.head (by omega); have h2 : (order k3).head? = some 1 := by decide +kernel
                                  rw [h2] at this; exact (Option.some.inj this).symm
  obtain ⟨g, cap, rfl, _, _⟩ := row_some hrow (by omega)
  have hc := row_at hrow 0 (by omega)
  rw [hhd] at hc
  rw [hl3]
  clear hrow hL
  unfold encN at hc
  go_wp2_with (first | (go_at_call 14; fail))
  refine (allOf_in (H6.alloc _) _ (row3 w5 1 0 2)).mono ?_
  rintro e w6 ⟨rfl, hb6⟩
  have H7 := (H6.alloc _).grown hb6
  clear H6 H5 hb hb6 hc
  go_wp2_with (first | (go_at_call 10; fail))
  refine (change_yes_in H7 2 1 (by decide)).mono ?_
  rintro e w7 ⟨rfl, H8, _⟩
  have H9 : HeapIn w (fun _ => False) w7 a k4 3 := H8
  clear H8 H7
  go_wp2_with (first | (go_at_call 14; fail))
  refine (allOf_in (H9.alloc _) _ (row3 w7 2 1 0)).mono ?_
  rintro e w8 ⟨rfl, hb8⟩
  have H10 := (H9.alloc _).grown hb8
  clear H9 hb8
  go_wp2_with (first | (go_at_call 10; fail))
  refine (change_yes_in H10 2 5 (by decide)).mono ?_
  rintro e w9 ⟨rfl, H11, _⟩
  have H12 : HeapIn w (fun _ => False) w9 a k3 3 := H11
  clear H11 H10
  go_wp2_with (first | (go_at_call 14; fail))
  refine (allOf_in (H12.alloc _) _ (row3 w9 1 0 2)).mono ?_
  rintro e w10 ⟨rfl, hb10⟩
  have H13 := (H12.alloc _).grown hb10
  clear H12 hb10
  go_wp2_with (first | (go_at_call 15; fail))
  refine (remove_yes_in H13 0 (by decide)).mono ?_
  rintro e w11 ⟨rfl, H14, _⟩
  have H15 : HeapIn w (fun _ => False) w11 a k6 3 := H14
  clear H14 H13
  go_wp2_with (first | (go_at_call 16; fail))
  refine (get_no_in H15 0 (by rintro ⟨x, hx, hm⟩; have e0 : hsOf k6 = [1, 2] := rfl; rw [e0] at hm; simp at hm; omega)).mono ?_
  rintro e w' ⟨rfl, rfl⟩
  go_wp2_with (first | (go_at_call 12; fail))
  refine (pushes_in H15 9 90 (by decide) hT (by omega) 0 rfl).mono ?_
  rintro e w12 ⟨rfl, H16, _⟩
  have H17 : HeapIn w (fun _ => False) w12 a k7 4 := H16
  clear H16 H15
  go_wp2_with (first | (go_at_call 16; fail))
  refine (get_yes_in H17 ⟨0, 90, 9⟩ (by simp [k7])).mono ?_
  rintro e w13 ⟨rfl, H18, _, n, rfl⟩
  go_wp2_with fail
  go_ret
  exact ⟨rfl, H18.below⟩
end Go.Proofs.YtpbnbddjfebenaaDoor
