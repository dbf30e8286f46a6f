/- PollerWakes: the law's four lists in memory. -/
import Derived.Test.YtdbkbaealfcmoaaGreatDoorUWkQ
namespace Go.Proofs.YtdbkbaealfcmoaaGreatDoor
open Go.RowKit Go.Sort
set_option linter.unusedVariables false
set_option linter.unusedSimpArgs false
/-- The law's blocks: the array, and the lists'. -/
def WBs (aw : Nat) (vs : Nat → Value) : Nat → Prop := fun j => j = aw ∨ ∃ i, i < 4 ∧ (vs i).ownBlock = some j
structure WLm (w wr : World) (aw : Nat) (vs : Nat → Value) (f : Nat → Sp) (k : Nat) : Prop where
  A : wr.heap[aw]? = some (.cells #[vs 0, vs 1, vs 2, vs 3] 91 (0, 0))
  R : ∀ i, i < 4 → Row TI wr w.heap.size (vs i) (cat (qs f (spP i) k))
  N : ∀ i j g, i < 4 → j < 4 → i ≠ j → (vs i).ownBlock = some g → (vs j).ownBlock ≠ some g
def updV (vs : Nat → Value) (m : Nat) (v : Value) : Nat → Value := fun j => if j = m then v else vs j
section
variable {w0 w wr w2 : World} {aw p : Nat} {vs : Nat → Value} {f : Nat → Sp} {k : Nat} {x : Px} {G P : Nat}
theorem WLm.keep (h : WLm w wr aw vs f k) (hk : Keep (WBs aw vs) wr w2) : WLm w w2 aw vs f k :=
  ⟨(hk aw (.inl rfl)).trans h.A, fun i hi => row_same (h.R i hi) (fun g hg => hk g (.inr ⟨i, hi, hg⟩)), h.N⟩
theorem WLm.below (h : WLm w wr aw vs f k) (hb : Below wr.heap.size wr w2) : WLm w w2 aw vs f k :=
  ⟨(hb.block _ (lt_of_block h.A)).trans h.A, fun i hi => (h.R i hi).below hb, h.N⟩
theorem LSt.write2 {Bs Bs' : Nat → Prop} {F : List Nat} (h : LSt w0 w Bs p x G P) (hf : Fr F w w2) (hF : ∀ k ∈ F, Bs k) (hB : ∀ k, Bs' k → Bs k ∨ (w.heap.size ≤ k ∧ k < w2.heap.size)) : LSt w0 w2 Bs' p x G P := by
  obtain ⟨O, hu, hn⟩ := h.ex
  have h0 := h.below.size
  have hz := hf.size
  refine ⟨⟨O, hu.fr hf (fun k hk => ⟨(h.lt k (hF k hk)).1, hn k (hF k hk)⟩), fun k hk ho => ?_⟩, fun k hk => ?_⟩
  · rcases hB k hk with h1 | h1
    · exact hn k h1 ho
    · have := (hu.lt ho).2; omega
  · rcases hB k hk with h1 | h1
    · have := h.lt k h1; omega
    · omega
theorem qs_next (f : Nat → Sp) (s : Sp) (k : Nat) : cat (qs f s (k + 1)) = if f k = s then cat (qs f s k) ++ [((k : Nat) : Int)] else cat (qs f s k) := by
  rw [qs_succ]
  split
  · rw [cat_app]; rfl
  · rw [List.append_nil]
theorem spP_ne {i j : Nat} (hi : i < 4) (hj : j < 4) (h : i ≠ j) : spP i ≠ spP j := by
  intro e
  unfold spP at e
  simp only [Prod.mk.injEq] at e
  omega
/-- One task more in a list. -/
theorem WLm.put {w5 : World} {m : Nat} {v' : Value} (h : WLm w wr aw vs f k) (hL : LSt w wr (WBs aw vs) p x G P) (hm : m < 4) (hfk : f k = spP m)
    (hr : Row TI w5 w.heap.size v' (cat (qs f (spP m) k) ++ [((k : Nat) : Int)])) (hF : Fr (vs m).ownBlock.toList wr w5) (hN : Near wr (vs m) v') :
    WLm w (w5.setCell ⟨aw, m, none⟩ v') aw (updV vs m v') f (k + 1) ∧ LSt w (w5.setCell ⟨aw, m, none⟩ v') (WBs aw (updV vs m v')) p x G P := by
  have hne : aw ∉ (vs m).ownBlock.toList := fun hc => by
    simp only [Option.mem_toList] at hc
    exact (h.R m hm).ne h.A (by decide) aw hc rfl
  have hA5 := hF.same h.A hne
  have hfr := fr_setCell w5 ⟨aw, m, none⟩ v'
  have hne5 : ∀ g, v'.ownBlock = some g → g ≠ aw := hr.ne hA5 (by decide)
  have hfrT : Fr ((vs m).ownBlock.toList ++ [aw]) wr (w5.setCell ⟨aw, m, none⟩ v') := (hF.mono (G := (vs m).ownBlock.toList ++ [aw]) (fun y hy => .inl (List.mem_append_left _ hy))).trans hfr (fun y hy => .inl (List.mem_append_right _ hy))
  have hlt : ∀ i g, i < 4 → (vs i).ownBlock = some g → g < wr.heap.size := fun i g hi hg => ((h.R i hi).lt g hg).2
  refine ⟨⟨?_, fun i hi => ?_, fun i j g hi hj hij hg => ?_⟩, hL.write2 hfrT (fun y hy => ?_) (fun y hy => ?_)⟩
  · have hs := cells_set hA5 m v'
    have : m = 0 ∨ m = 1 ∨ m = 2 ∨ m = 3 := by omega
    rcases this with rfl | rfl | rfl | rfl <;> exact hs
  · by_cases e : i = m
    · subst e
      have hv : updV vs i v' i = v' := by unfold updV; rw [if_pos rfl]
      rw [hv, qs_next, if_pos hfk]
      exact hr.fr hfr (fun g hg hc => by simp only [List.mem_singleton] at hc; exact hne5 g hg hc)
    · have hv : updV vs m v' i = vs i := by unfold updV; rw [if_neg e]
      rw [hv, qs_next, if_neg (by rw [hfk]; exact fun q => spP_ne hm hi (Ne.symm e) q)]
      refine (h.R i hi).fr hfrT (fun g hg hc => ?_)
      rcases List.mem_append.1 hc with hc | hc
      · simp only [Option.mem_toList] at hc
        exact h.N i m g hi hm e hg hc
      · simp only [List.mem_singleton] at hc
        subst hc
        exact (h.R i hi).ne h.A (by decide) g hg rfl
  · unfold updV at hg ⊢
    by_cases e : i = m
    · rw [if_pos e] at hg
      rw [if_neg (by omega)]
      intro hc
      rcases hN g hg with h1 | h1
      · exact h.N m j g hm hj (by omega) h1 hc
      · have := hlt j g hj hc; omega
    · rw [if_neg e] at hg
      split
      · intro hc
        rcases hN g hc with h1 | h1
        · exact h.N i m g hi hm e hg h1
        · have := hlt i g hi hg; omega
      · exact h.N i j g hi hj hij hg
  · rcases List.mem_append.1 hy with hc | hc
    · simp only [Option.mem_toList] at hc
      exact .inr ⟨m, hm, hc⟩
    · simp only [List.mem_singleton] at hc
      exact .inl hc
  · rcases hy with rfl | ⟨i, hi, hg⟩
    · exact .inl (.inl rfl)
    · unfold updV at hg
      split at hg
      · rcases hN y hg with h1 | h1
        · exact .inl (.inr ⟨m, hm, h1⟩)
        · exact .inr ⟨h1, Nat.lt_of_lt_of_le (hr.lt y hg).2 hfr.size⟩
      · exact .inl (.inr ⟨i, hi, hg⟩)
end
/-- A list of the law's own beside the four. -/
structure ApS (w wr : World) (aw : Nat) (vs : Nat → Value) (f : Nat → Sp) (c p : Nat) (x : Px) (G P : Nat) (v : Value) (X : List Int) : Prop where
  L : LSt w wr (fun j => WBs aw vs j ∨ v.ownBlock = some j) p x G P
  M : WLm w wr aw vs f c
  R : Row TI wr w.heap.size v X
  N : ∀ g, v.ownBlock = some g → ¬ WBs aw vs g
theorem ApS.put {w wr w2 : World} {aw c p : Nat} {vs : Nat → Value} {f : Nat → Sp} {x : Px} {G P : Nat} {v v' : Value} {X Y : List Int} (h : ApS w wr aw vs f c p x G P v X) (hr : Row TI w2 w.heap.size v' (X ++ Y)) (hF : Fr v.ownBlock.toList wr w2) (hN : Near wr v v') : ApS w w2 aw vs f c p x G P v' (X ++ Y) := by
  have hlt : ∀ g, WBs aw vs g → g < wr.heap.size := fun g hg => (h.L.lt g (.inl hg)).2
  have hk : Keep (WBs aw vs) wr w2 := fun g hg => hF.block g (hlt g hg) (fun hc => by
    simp only [Option.mem_toList] at hc
    exact h.N g hc hg)
  refine ⟨h.L.write2 hF (fun k hk => ?_) (fun k hk => ?_), h.M.keep hk, hr, fun g hg hw => ?_⟩
  · simp only [Option.mem_toList] at hk
    exact .inr hk
  · rcases hk with hk | hk
    · exact .inl (.inl hk)
    · rcases hN k hk with h1 | h1
      · exact .inl (.inr h1)
      · exact .inr ⟨h1, (hr.lt k hk).2⟩
  · rcases hN g hg with h1 | h1
    · exact h.N g h1 hw
    · have := hlt g hw; omega
theorem ApS.src {w wr : World} {aw c p : Nat} {vs : Nat → Value} {f : Nat → Sp} {x : Px} {G P : Nat} {v : Value} {X : List Int} (h : ApS w wr aw vs f c p x G P v X) {i : Nat} (hi : i < 4) : Src TI wr (vs i) (cat (qs f (spP i) c)) := (h.M.R i hi).src TI_ok
theorem ApS.below {w wr w2 : World} {aw c p : Nat} {vs : Nat → Value} {f : Nat → Sp} {x : Px} {G P : Nat} {v : Value} {X : List Int} (h : ApS w wr aw vs f c p x G P v X) (hb : Below wr.heap.size wr w2) : ApS w w2 aw vs f c p x G P v X := ⟨h.L.grown hb, h.M.below hb, h.R.below hb, h.N⟩
theorem all4 (f : Nat → Sp) (c : Nat) : (((([] ++ cat (qs f (spP 0) c)) ++ cat (qs f (spP 1) c)) ++ cat (qs f (spP 2) c)) ++ cat (qs f (spP 3) c)) = cat (wlL f c spots4) := by
  rw [show spP 0 = ((0, 0) : Sp) by kernel_rfl, show spP 1 = ((0, 1) : Sp) by kernel_rfl, show spP 2 = ((1, 0) : Sp) by kernel_rfl, show spP 3 = ((1, 1) : Sp) by kernel_rfl]
  unfold wlL spots4
  simp [cat]
theorem all4_len (f : Nat → Sp) (c i : Nat) : (cat (qs f (spP i) c)).length ≤ c := by have := qs_len f (spP i) c; simpa [cat] using this
end Go.Proofs.YtdbkbaealfcmoaaGreatDoor
