/- PollerHolds: what a round of the second loop needs. -/
import Derived.Test.YtcjeckjmoponkaaGreatDoorUHn
namespace Go.Proofs.YtcjeckjmoponkaaGreatDoor
open Go.RowKit Go.Sort
set_option linter.unusedVariables false
set_option linter.unusedSimpArgs false
theorem whe_seat {x : Px} {i : Nat} {s : Sp} (hi : i < x.z.S.length) (hs : seatOf x.z.L i = some s) : wheC x ((i : Nat) : Int) = (namC x.T s.1, s.2, 0) := by
  have e : whC x.z ((i : Nat) : Int) = (s, 0) := by unfold whC; rw [numI_at hi]; simp only [hs]
  unfold wheC
  rw [e, if_neg (by simp)]
theorem whe_none {x : Px} {i : Nat} (hi : i < x.z.S.length) (hs : seatOf x.z.L i = none) : wheC x ((i : Nat) : Int) = ((0, 0), 0, 8) := by
  have e : whC x.z ((i : Nat) : Int) = ((0, 0), 8) := by unfold whC; rw [numI_at hi]; simp only [hs]
  unfold wheC
  rw [e, if_pos (by simp)]
theorem st_at {z : Zt} {i : Nat} (hi : i < z.S.length) : stC z ((i : Nat) : Int) = (z.S.getD i 0, 0) := by unfold stC; rw [numI_at hi]
theorem st_two {z : Zt} (hz : ZK z) {i : Nat} (hi : i < z.S.length) : z.S.getD i 0 = 2 ↔ seatOf z.L i ≠ none := by
  have h := hz.st i z.S[i] (List.getElem?_eq_getElem hi)
  rw [getD_at (List.getElem?_eq_getElem hi), h, ne_eq, seatOf_none, Classical.not_not]
theorem rsn_at {x : Px} {i : Nat} (hi : i < x.z.S.length) (h1 : x.z.S.getD i 0 = 1) : rsnC x ((i : Nat) : Int) = (x.R.getD i 0, 0) := by
  unfold rsnC
  rw [st_at hi, h1, if_neg (by simp), if_neg (by simp)]
  simp
/-- What a round of the second loop needs of its task. -/
theorem rd_of {x x' : Px} {X : List Int} {why N K : Int} {B B' : Nat} (h : PI x B) (h' : PI x' B') (hS : SO x x' X why N K) {i : Nat} (hi : i < x.z.S.length) :
    (((i : Nat) : Int) ∈ X ∧ (wheC x ((i : Nat) : Int)).2.2 = 0 ∧ stC x'.z ((i : Nat) : Int) = (1, 0) ∧ rsnC x' ((i : Nat) : Int) = (why, 0) ∧ (why = 2 → chkC x' (wheC x ((i : Nat) : Int)).1.1 (wheC x ((i : Nat) : Int)).1.2 (wheC x ((i : Nat) : Int)).2.1 = 12) ∧ (why = 3 → (wheC x ((i : Nat) : Int)).1 = (N, K) ∧ chkC x' N K (wheC x ((i : Nat) : Int)).2.1 = 9) ∧ (wheC x' ((i : Nat) : Int)).2.2 ≠ 0) ∨
    (((i : Nat) : Int) ∉ X ∧ (∃ s, stC x'.z ((i : Nat) : Int) = (s, 0) ∧ ((wheC x ((i : Nat) : Int)).2.2 = 0 → s = 2)) ∧ ((wheC x' ((i : Nat) : Int)).2.2 = 0 → chkC x' (wheC x' ((i : Nat) : Int)).1.1 (wheC x' ((i : Nat) : Int)).1.2 (wheC x' ((i : Nat) : Int)).2.1 = 0)) := by
  have hi' : i < x'.z.S.length := by rw [hS.ln]; exact hi
  by_cases hX : ((i : Nat) : Int) ∈ X
  · left
    obtain ⟨h1, h2⟩ := (hS.wok i hi).1 hX
    obtain ⟨s, hs⟩ := Option.ne_none_iff_exists'.1 h1
    obtain ⟨r1, r2⟩ := hS.rdy i hi hX
    have e := whe_seat hi hs
    have e' := whe_none hi' h2
    refine ⟨hX, by rw [e], by rw [st_at hi', r1], by rw [rsn_at hi' r1, r2], fun hw => ?_, fun hw => ?_, by rw [e']; simp⟩
    · rw [e]; exact hS.tim hw i s hX hs
    · rw [e]; exact hS.clo hw i s hX hs
  · right
    refine ⟨hX, ⟨_, st_at hi', fun h0 => ?_⟩, fun h0 => ?_⟩
    · rw [st_two h'.zk hi']
      intro hn
      refine hX ((hS.wok i hi).2 ⟨fun e => ?_, hn⟩)
      rw [whe_none hi e] at h0
      simp at h0
    · cases hs : seatOf x'.z.L i with
      | none => rw [whe_none hi' hs] at h0; simp at h0
      | some s => rw [whe_seat hi' hs]; exact h'.chk hs
theorem SO.nk {x x' : Px} {X : List Int} {why : Int} {N0 K0 : Int} (h : SO x x' X why N0 K0) (hw : why ≠ 3) (N K : Int) : SO x x' X why N K :=
  ⟨h.ln, h.wok, h.rdy, h.tim, fun e => absurd e hw, h.num⟩
theorem mix_dropH {P : Program} {ops : Array Oper} {Q : Exit → Act → World → Prop} {S : World → Prop} {K : Act → World → Prop} {l : List (Bool × Oper)} {o : Oper} {a : Act} {w : World} (hS : S w) (hw : Region.wanted o (yielded ops a.tmps) = false) (h : wpMix P ops Q S K l (a.put o.dst undef) w) : wpMix P ops Q S K ((true, o) :: l) a w := ⟨hS, undef, .inr ⟨hw, rfl⟩, h⟩
end Go.Proofs.YtcjeckjmoponkaaGreatDoor
