/- join: two tickets become neighbours. -/
import Derived.Test.YtcdimopiaanfbaaDoorDQ
namespace Go.Proofs.YtcdimopiaanfbaaDoor
open Go.RowKit Go.Sort Go.MapKept
set_option linter.unusedVariables false
set_option linter.unusedSimpArgs false

/-- A store into a cell of the body. -/
theorem BAt.set {w : World} {b m F E g n : Nat} {f : Nat → Option Lk} (h : BAt w b m F E g n f) (o : Nat) (v : Value) (F' E' g' : Nat) (hv : (#[encT F, encT E, .map (some m), encT g] : Array Value).setIfInBounds o v = #[encT F', encT E', .map (some m), encT g']) :
    BAt (w.setCell ⟨b, o, none⟩ v) b m F' E' g' n f := by
  refine ⟨?_, h.m.same (Below.heap_setCell _ _ _ _ (fun e => h.bm e.symm))⟩
  have := cells_set h.b o v
  rw [hv] at this
  exact this
/-- The link with a ticket is written, behind other blocks of one's own. -/
theorem BAt.put {w w' : World} {b m F E g n : Nat} {f : Nat → Option Lk} (h : BAt w b m F E g n f) {n' : Nat} {f' : Nat → Option Lk} (hm : LinkMap w' m n' f') (hf : Fr [m] w w') : BAt w' b m F E g n' f' :=
  ⟨hf.same h.b (by simp; exact h.bm), hm⟩

/-- The world behind a new block that has a link. -/
structure NewLk (w W : World) (v : Int) (b' a' : Nat) : Prop where
  b : Below w.heap.size w W
  size : W.heap.size = w.heap.size + 1
  c : W.heap[w.heap.size]? = some (.cells #[.int .i64 v, .int .u64 ((b' : Nat) : Int), .int .u64 ((a' : Nat) : Int)] 123 (0, 0))
theorem newLk (w : World) (v : Int) (b' a' : Nat) : ∃ W, w.alloc (.cells #[.int .i64 v, .int .u64 ((b' : Nat) : Int), .int .u64 ((a' : Nat) : Int)] 123) = W ∧ NewLk w W v b' a' :=
  ⟨_, rfl, below_alloc _ _, by simp, block_new _ _ _ rfl⟩

theorem joinF_p {f : Nat → Option Lk} {p q : Nat} {x : Lk} (hp : p ≠ 0) (hq : q = 0) (hx : f p = some x) : joinF f p q = updL f p (some (setA q x)) := by unfold joinF; simp [hp, hq, hx]
theorem joinF_q {f : Nat → Option Lk} {p q : Nat} {x : Lk} (hp : p = 0) (hq : q ≠ 0) (hx : f q = some x) : joinF f p q = updL f q (some (setB p x)) := by unfold joinF; simp [hp, hq, hx]
theorem joinF_pq {f : Nat → Option Lk} {p q : Nat} {x y : Lk} (hp : p ≠ 0) (hq : q ≠ 0) (hx : f p = some x) (hy : f q = some y) (hpq : p ≠ q) : joinF f p q = updL (updL f p (some (setA q x))) q (some (setB p y)) := by
  unfold joinF
  simp only [hp, hq, if_false, hx, Option.map_some]
  have : updL f p (some (setA q x)) q = some y := by unfold updL; rw [if_neg (fun e => hpq e.symm)]; exact hy
  rw [this]; rfl
theorem fr2 {b m k : Nat} {w w' : World} (h : Fr [k] w w') (hk : k = b ∨ k = m) : Fr [b, m] w w' := h.mono fun x hx => by
  simp at hx
  subst hx
  rcases hk with h | h <;> simp [h]

set_option maxRecDepth 100000 in
set_option maxHeartbeats 3200000 in
theorem fiJoin_any {w : World} {b m F E g n : Nat} {f : Nat → Option Lk} (h : BAt w b m F E g n f) (p q : Nat) (hp : p ≠ 0 → (f p).isSome) (hq : q ≠ 0 → (f q).isSome) (hpq : p ≠ q ∨ p = 0) :
    Calls Tryd.prog 74 #[.pointer (some ⟨b, 0, none⟩), .int .u64 ((p : Nat) : Int), .int .u64 ((q : Nat) : Int)] w fun e w' => e = .returned (.tuple #[]) ∧ BAt w' b m (if p = 0 then q else F) (if q = 0 then p else E) g n (joinF f p q) ∧ Fr [b, m] w w' := by
  have HH := Lib.hid h
  have fr := h.free
  have c2 := h.c2
  have hlb := h.lb
  have c0 := h.c0
  have c1 := h.c1
  have f0 := fr 0
  have f1 := fr 1
  by_cases hp0 : p = 0
  · have hpd : (((p : Nat) : Int) == 0) = true := by simp [hp0]
    have b1 := h.set 0 (.int .u64 ((q : Nat) : Int)) q E g rfl
    have r1 := fr2 (m := m) (fr_setCell w ⟨b, 0, none⟩ (.int .u64 ((q : Nat) : Int))) (.inl rfl)
    have d1 := b1.c1
    have d2 := b1.c2
    have g1 := b1.free 1
    by_cases hq0 : q = 0
    · have hqd : (((q : Nat) : Int) == 0) = true := by simp [hq0]
      have b2 := Lib.hid (b1.set 1 (.int .u64 ((p : Nat) : Int)) q p g rfl)
      have hfr := Lib.hid (r1.trans' (fr2 (fr_setCell (w.setCell ⟨b, 0, none⟩ (.int .u64 ((q : Nat) : Int))) ⟨b, 1, none⟩ (.int .u64 ((p : Nat) : Int))) (.inl rfl)))
      have hj : joinF f p q = f := by unfold joinF; simp [hp0, hq0]
      rw [if_pos hp0, if_pos hq0, hj]
      clear h b1 r1 hp hq hp0 hq0 hj hpq
      go_enter Tryd.func74, Tryd.ntmps74
      go_wp2
      go_end0
      exact ⟨rfl, b2.out, hfr.out⟩
    · have hqd : (((q : Nat) : Int) == 0) = false := by simp [hq0]
      obtain ⟨y, hy⟩ := Option.isSome_iff_exists.1 (hq hq0)
      rw [if_pos hp0, if_neg hq0, joinF_q hp0 hq0 hy]
      have HY := Lib.hid hy
      have B1 := Lib.hid b1
      have R1 := Lib.hid r1
      clear h b1 r1 hp hq hp0 hq0 hpq hy g1 d1
      have l1 := B1.out.m.look_yes HY.out false
      simp only [Bool.false_eq_true, if_false] at l1
      unfold encT Lk.enc at l1
      go_enter Tryd.func74, Tryd.ntmps74
      go_wp2_with fail
      have hws : (w.setCell ⟨b, 0, none⟩ (.int .u64 ((q : Nat) : Int))).heap.size = w.heap.size := by simp [World.setCell]
      generalize w.setCell ⟨b, 0, none⟩ (.int .u64 ((q : Nat) : Int)) = w1 at *
      obtain ⟨W, hW, hN⟩ := newLk w1 y.v p y.a
      rw [hW]
      have BW := B1.out.grown hN.b
      have cW := BW.c2
      have k0 := cells_cell (o := 0) hN.c rfl
      have k1 := cells_cell (o := 1) hN.c rfl
      have k2 := cells_cell (o := 2) hN.c rfl
      have HBW := Lib.hid BW
      have HN := Lib.hid hN
      rw [hws] at k0 k1 k2
      clear hW hN BW l1 d2 c0 c1 c2 f0 f1 fr hws
      go_still_tail 6, (by kernel_rfl)
      change wpList _ _ _ _ _ (W.drewN 1)
      go_wp2_with (at_mapUpdate; refine wpList_put rfl _ _ _ rfl (HBW.out.grown (w' := W.drewN 1) ((fr_drewN W 1 []).below (fun _ hx => by simp at hx) (Nat.le_refl _))).m q (setB p y) rfl rfl rfl ?_; intro w3 hm3 hf3 hs3)
      rw [HY.out] at hm3
      go_end0
      have hd : Below W.heap.size W (W.drewN 1) := (fr_drewN W 1 []).below (fun _ hx => by simp at hx) (Nat.le_refl _)
      exact ⟨rfl, (HBW.out.grown hd).put hm3 hf3, (R1.out.trans' (Fr.of_below HN.out.b _)).trans' ((Fr.of_below hd _).trans' (fr2 hf3 (.inr rfl)))⟩
  · have hpd : (((p : Nat) : Int) == 0) = false := by simp [hp0]
    obtain ⟨x, hx⟩ := Option.isSome_iff_exists.1 (hp hp0)
    have l1 := h.m.look_yes hx false
    simp only [Bool.false_eq_true, if_false] at l1
    unfold encT Lk.enc at l1
    have HX := Lib.hid hx
    obtain ⟨W, hW, hN⟩ := newLk w x.v x.b q
    have BW := h.grown hN.b
    have cW := BW.c2
    have k0 := cells_cell (o := 0) hN.c rfl
    have k1 := cells_cell (o := 1) hN.c rfl
    have k2 := cells_cell (o := 2) hN.c rfl
    have HBW := Lib.hid BW
    have HN := Lib.hid hN
    have HW := Lib.hid hW
    by_cases hq0 : q = 0
    · have hqd : (((q : Nat) : Int) == 0) = true := by simp [hq0]
      rw [if_neg hp0, if_pos hq0, joinF_p hp0 hq0 hx]
      clear h hp hq hp0 hq0 hpq hW hN BW hx
      go_enter Tryd.func74, Tryd.ntmps74
      go_wp2_with fail
      rw [HW.out]
      clear l1 c0 c1 c2 f0 f1 fr
      go_still_tail 6, (by kernel_rfl)
      change wpList _ _ _ _ _ (W.drewN 1)
      have hd : Hid (Below W.heap.size W (W.drewN 1)) := Lib.hid ((fr_drewN W 1 []).below (fun _ hx => by simp at hx) (Nat.le_refl _))
      go_wp2_with (at_mapUpdate; refine wpList_put rfl _ _ _ rfl (HBW.out.grown hd.out).m p (setA q x) rfl rfl rfl ?_; intro w3 hm3 hf3 hs3; refine Hid.out ?_)
      rw [HX.out] at hm3
      have B3 := (HBW.out.grown hd.out).put hm3 hf3
      have R3 := Lib.hid ((Fr.of_below HN.out.b [b, m]).trans' ((Fr.of_below hd.out _).trans' (fr2 hf3 (.inr rfl))))
      have c1 := B3.c1
      have f1 := B3.free 1
      have B4 := Lib.hid (B3.set 1 (.int .u64 ((p : Nat) : Int)) F p g rfl)
      clear B3 hm3 hf3 hs3 k0 k1 k2 cW
      refine Lib.hid ?_
      go_wp2_with fail
      go_end0
      exact ⟨rfl, B4.out, R3.out.trans' (fr2 (fr_setCell w3 ⟨b, 1, none⟩ _) (.inl rfl))⟩
    · have hqd : (((q : Nat) : Int) == 0) = false := by simp [hq0]
      obtain ⟨y, hy⟩ := Option.isSome_iff_exists.1 (hq hq0)
      have hne : p ≠ q := by rcases hpq with h | h; exact h; exact absurd h hp0
      rw [if_neg hp0, if_neg hq0, joinF_pq hp0 hq0 hx hy hne]
      have HY : Hid (updL f p (some (setA q x)) q = some y) := Lib.hid (by unfold updL; rw [if_neg (fun e => hne e.symm)]; exact hy)
      clear h hp hq hp0 hq0 hpq hW hN BW hx hy hne
      go_enter Tryd.func74, Tryd.ntmps74
      go_wp2_with fail
      rw [HW.out]
      clear l1 c0 c1 c2 f0 f1 fr
      go_still_tail 6, (by kernel_rfl)
      change wpList _ _ _ _ _ (W.drewN 1)
      have hd : Hid (Below W.heap.size W (W.drewN 1)) := Lib.hid ((fr_drewN W 1 []).below (fun _ hx => by simp at hx) (Nat.le_refl _))
      go_wp2_with (at_mapUpdate; refine wpList_put rfl _ _ _ rfl (HBW.out.grown hd.out).m p (setA q x) rfl rfl rfl ?_; intro w3 hm3 hf3 hs3; refine Hid.out ?_)
      rw [HX.out] at hm3
      have B3 := (HBW.out.grown hd.out).put hm3 hf3
      have R3 := Lib.hid ((Fr.of_below HN.out.b [b, m]).trans' ((Fr.of_below hd.out _).trans' (fr2 hf3 (.inr rfl))))
      have c2 := B3.c2
      have l1 := B3.m.look_yes HY.out false
      simp only [Bool.false_eq_true, if_false] at l1
      unfold encT Lk.enc at l1
      have HB3 := Lib.hid B3
      clear B3 hm3 hf3 hs3 k0 k1 k2 cW
      refine Lib.hid ?_
      go_wp2_with fail
      obtain ⟨W4, hW, hN⟩ := newLk w3 y.v p y.a
      rw [hW]
      have BW := HB3.out.grown hN.b
      have cW := BW.c2
      have k0 := cells_cell (o := 0) hN.c rfl
      have k1 := cells_cell (o := 1) hN.c rfl
      have k2 := cells_cell (o := 2) hN.c rfl
      have HBW4 := Lib.hid BW
      have HN4 := Lib.hid hN
      clear hW hN BW l1 c2
      go_still_tail 6, (by kernel_rfl)
      change wpList _ _ _ _ _ (W4.drewN 1)
      have hd4 : Hid (Below W4.heap.size W4 (W4.drewN 1)) := Lib.hid ((fr_drewN W4 1 []).below (fun _ hx => by simp at hx) (Nat.le_refl _))
      go_wp2_with (at_mapUpdate; refine wpList_put rfl _ _ _ rfl (HBW4.out.grown hd4.out).m q (setB p y) rfl rfl rfl ?_; intro w5 hm5 hf5 hs5)
      rw [HY.out] at hm5
      go_end0
      exact ⟨rfl, (HBW4.out.grown hd4.out).put hm5 hf5, R3.out.trans' ((Fr.of_below HN4.out.b _).trans' ((Fr.of_below hd4.out _).trans' (fr2 hf5 (.inr rfl))))⟩
end Go.Proofs.YtcdimopiaanfbaaDoor
