/- The reference of the timers: Expire. -/
import Derived.Test.YthlbnlbkgiclpaaDoorMPure
namespace Go.Proofs.YthlbnlbkgiclpaaDoor
open Go.RowKit Go.Sort
set_option linter.unusedVariables false
set_option linter.unusedSimpArgs false

theorem mpassed_yes (k now : Int) (hn : now < 18446744073709551615) (h : k ≤ now) (w : World) : Calls Tryd.prog 78 #[.int .u64 k, .int .u64 now] w fun e w' => e = .returned (.bool true) ∧ w = w' := by
  have q0 : (now != 18446744073709551615) = true := by simp; omega
  have q1 : (k != 18446744073709551615) = true := by simp; omega
  go_enter Tryd.func78, Tryd.ntmps78
  go_wp2_with fail
  go_ret
  exact ⟨by simp [h], rfl⟩
theorem mpassed_no (k now : Int) (hn : now < 18446744073709551615) (h : ¬ k ≤ now) (w : World) : Calls Tryd.prog 78 #[.int .u64 k, .int .u64 now] w fun e w' => e = .returned (.bool false) ∧ w = w' := by
  have q0 : (now != 18446744073709551615) = true := by simp; omega
  have q3 : decide (k ≤ now) = false := by simp; omega
  by_cases hk : k = 18446744073709551615
  · have q1 : (k != 18446744073709551615) = false := by simp [hk]
    clear hk
    go_enter Tryd.func78, Tryd.ntmps78
    go_wp2_with fail
    go_ret
    exact ⟨rfl, rfl⟩
  · have q1 : (k != 18446744073709551615) = true := by simp [hk]
    clear hk
    go_enter Tryd.func78, Tryd.ntmps78
    go_wp2_with fail
    go_ret
    exact ⟨rfl, rfl⟩

/-- Between two rounds. -/
structure MExpR (w : World) (B : Nat) (now : Int) (S : List El) (gs : List Nat) (n : Nat) (wr : World) (s v : Value) (L1 : List Tm) (S1 : List El) (gs1 : List Nat) (D1 : List Du) : Prop where
  box : BoxM wr B s
  res : BoxM wr (w.heap.size + 1) (.slice none 0 0)
  row : RowM wr w.heap.size s L1
  dues : RowD wr w.heap.size v D1
  rel : Rel L1 S1 gs1
  nd : (hsOf S1).Nodup
  lt : ∀ x ∈ hsOf S1, x < gs1.length
  out : D1 ++ (expS now S1 gs1).1 = (expS now S gs).1
  rest : (expS now S1 gs1).2 = (expS now S gs).2
  below : Below w.heap.size w wr
  len : L1.length = n
  ne : w.heap.size + 1 < B
/-- A call that makes memory leaves it. -/
theorem MExpR.grown {w wr w' : World} {B n : Nat} {now : Int} {S S1 : List El} {gs gs1 : List Nat} {s v : Value} {L1 : List Tm} {D1 : List Du} (R : MExpR w B now S gs n wr s v L1 S1 gs1 D1) (hb : Below wr.heap.size wr w') : MExpR w B now S gs n w' s v L1 S1 gs1 D1 :=
  ⟨R.box.below hb R.box.lt, R.res.below hb R.res.lt, R.row.below hb, R.dues.below hb, R.rel, R.nd, R.lt, R.out, R.rest, R.below.trans (hb.mono R.below.size), R.len, R.ne⟩

theorem RowD.boxM {w : World} {b base : Nat} {s x : Value} {D : List Du} (h : RowD w base s D) (hb : BoxM w b x) (u : Value) : RowD (w.setCell ⟨b, 0, none⟩ u) base s D := by
  have hf : Fr [b] w (w.setCell ⟨b, 0, none⟩ u) := fr_setCell w ⟨b, 0, none⟩ u
  refine hf.row h (fun g hg => ?_)
  have := BodAt.row_ne h hb (by decide) g hg
  simpa using this
theorem rows_ne {w : World} {b b' : Nat} {s v : Value} {L : List Tm} {D : List Du} (h : RowM w b s L) (hd : RowD w b' v D) {g : Nat} (hs : s.ownBlock = some g) : v.ownBlock ≠ some g := by
  intro q
  rcases h.2 with ⟨rfl, _⟩ | ⟨g', cap, cur, rfl, hb, hg, r⟩
  · simp [Value.ownBlock] at hs
  · simp [Value.ownBlock] at hs
    subst hs
    exact BodAt.row_ne hd hg (by decide) _ q rfl
theorem hs_remove_nd {S : List El} (h : (hsOf S).Nodup) (x : Nat) : (hsOf (removeS S x)).Nodup := by
  unfold hsOf removeS at *
  exact h.sublist (List.filter_sublist.map _)
theorem hs_remove_mem {S : List El} {x y : Nat} (h : y ∈ hsOf (removeS S x)) : y ∈ hsOf S := by
  unfold hsOf removeS at *
  exact (List.filter_sublist.map El.h).subset h
/-- One round: one more has been appended, and the reference's timer is marked. -/
theorem MExpR.round {w w5 w6 : World} {B n : Nat} {now : Int} {S S1 : List El} {gs gs1 : List Nat} {v v' : Value} {L1 : List Tm} {D1 : List Du} {g cap b : Nat} {e : Tm}
    (R : MExpR w B now S gs n w5 (.slice (some ⟨g, 0, none⟩) L1.length cap) v L1 S1 gs1 D1) (he : BestM L1 L1.length b e) (hk : e.k ≤ now)
    (hgrow : w5.grownBy w6 v.ownBlock) (hd : RowD w6 w.heap.size v' (D1 ++ [⟨e.n, e.g, e.o, e.k⟩])) :
    MExpR w B now S gs n (w6.setCell ⟨g, b * 5 + 4, none⟩ (.bool true)) (.slice (some ⟨g, 0, none⟩) L1.length cap) v' (L1.set b ⟨e.n, e.g, e.o, e.k, true⟩) (removeS S1 e.n) (bump gs1 e.n) (D1 ++ [⟨e.n, e.g, e.o, e.k⟩])
    ∧ (removeS S1 e.n).length < S1.length := by
  have hf := rel_best R.rel he
  have hm := fstE_mem hf
  have hx : e.n ∈ hsOf S1 := List.mem_map_of_mem (f := El.h) hm
  have hne := rows_ne R.row R.dues (g := g) rfl
  have hgl : g < w5.heap.size := (R.row.lt g rfl).2
  have row6 : RowM w6 w.heap.size (.slice (some ⟨g, 0, none⟩) L1.length cap) L1 := R.row.keep (fun k hk => by
    simp [Value.ownBlock] at hk; subst hk
    exact hgrow.block g hgl (fun q => hne q.symm))
  have box6 : BoxM w6 B (.slice (some ⟨g, 0, none⟩) L1.length cap) := R.box.grown hgrow (fun q => BodAt.row_ne R.dues R.box (by decide) _ q.symm rfl)
  have res6 : BoxM w6 (w.heap.size + 1) (.slice none 0 0) := R.res.grown hgrow (fun q => BodAt.row_ne R.dues R.res (by decide) _ q.symm rfl)
  have below6 : Below w.heap.size w w6 := R.below.grown hgrow R.below.size (fun q hq => (R.dues.lt q hq).1)
  obtain ⟨hst, _⟩ := World.ownsRow.stored row6 (b * 5 + 4) (.bool true)
  have hgB : g ≠ B := by simpa using BodAt.row_ne row6 box6 (by decide) g rfl
  have hgr : g ≠ w.heap.size + 1 := by simpa using BodAt.row_ne row6 res6 (by decide) g rfl
  have hne6 := fun q => rows_ne row6 hd (g := g) rfl q
  have hfr : Fr [g] w6 (w6.setCell ⟨g, b * 5 + 4, none⟩ (.bool true)) := fr_setCell w6 ⟨g, b * 5 + 4, none⟩ _
  have hgen : e.g = gs1.getD e.n 0 := R.rel.gen e (alive_mem he.2.1 he.2.2.1)
  have hdue := expS_due (gs := gs1) hf hk
  have hd1 : dueOf gs1 (elOf e) = ⟨e.n, e.g, e.o, e.k⟩ := by rw [hgen]; rfl
  have ho := R.out
  have hre := R.rest
  rw [hdue] at ho hre
  simp only [hd1] at ho hre
  refine ⟨⟨box6.other (Ne.symm hgB) _ _, res6.other (Ne.symm hgr) _ _, ?_, ?_, rel_stop R.rel R.nd he.2.1 he.2.2.1 (R.lt _ hx), hs_remove_nd R.nd _, fun x hx' => by rw [bump_len]; exact R.lt x (hs_remove_mem hx'), ?_, hre, ?_, by rw [List.length_set]; exact R.len, R.ne⟩, remove_lt hm⟩
  · unfold RowM
    rw [List.length_set, ← cellsM_gone L1 b e he.2.1]
    exact hst
  · refine hfr.row hd (fun q hq hm => ?_)
    simp at hm; subst hm
    exact hne6 hq
  · rw [← ho]; simp [elOf]
  · exact below_boxM below6 (R.row.lt g rfl).1 _ _

end Go.Proofs.YthlbnlbkgiclpaaDoor
