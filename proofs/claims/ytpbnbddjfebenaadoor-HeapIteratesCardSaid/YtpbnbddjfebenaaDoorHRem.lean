/- A layout loses an item. -/
import Derived.Test.YtpbnbddjfebenaaDoorHPush
import Derived.Test.YtpbnbddjfebenaaDoorHDel
namespace Go.Proofs.YtpbnbddjfebenaaDoor
open Go.RowKit Go.Sort
open BodAt (row_ne row_row_ne)
set_option linter.unusedVariables false
set_option linter.unusedSimpArgs false

theorem getD_dropLast (L : List Nat) (j : Nat) (hj : j < L.length - 1) : L.dropLast.getD j 0 = L.getD j 0 := by
  simp only [List.getD_eq_getElem?_getD, List.getElem?_dropLast]
  rw [if_pos hj]
theorem dropLast_last (L : List Nat) (h : 0 < L.length) : L.dropLast ++ [L.getD (L.length - 1) 0] = L := by
  have hne : L ≠ [] := by intro e; subst e; simp at h
  have := List.dropLast_concat_getLast hne
  rw [List.getLast_eq_getElem] at this
  simpa [List.getD_eq_getElem?_getD, List.getElem?_eq_getElem (show L.length - 1 < L.length by omega)] using this
theorem heapO_dropLast {K : Nat → Kvn} {L : List Nat} (h : HeapO K L) : HeapO K L.dropLast := by
  intro j h0 hj
  simp only [List.length_dropLast] at hj
  rw [getD_dropLast L j hj, getD_dropLast L _ (by omega)]
  exact h j h0 (by omega)
theorem idxAll_dropLast {X : Nat → Int} {L : List Nat} (h : IdxAll X L) : IdxAll X L.dropLast := by
  intro j hj
  simp only [List.length_dropLast] at hj
  rw [getD_dropLast L j hj]
  exact h j (by omega)
theorem nodup_dropLast {L : List Nat} (h : L.Nodup) : L.dropLast.Nodup := h.sublist (List.dropLast_sublist L)
theorem set_perm (D : List Nat) (i f : Nat) (hi : i < D.length) : (D.getD i 0 :: D.set i f).Perm (f :: D) := by
  have e : D.getD i 0 = D[i] := by simp [List.getD_eq_getElem?_getD, hi]
  have e1 : D.set i f = D.take i ++ f :: D.drop (i + 1) := by rw [List.set_eq_take_append_cons_drop, if_pos hi]
  have e2 : D = D.take i ++ D[i] :: D.drop (i + 1) := by rw [← List.drop_eq_getElem_cons hi, List.take_append_drop]
  rw [e, e1]
  have h1 : (D[i] :: (D.take i ++ f :: D.drop (i + 1))).Perm (D[i] :: f :: (D.take i ++ D.drop (i + 1))) := List.Perm.cons _ List.perm_middle
  have h2 : (f :: (D.take i ++ D[i] :: D.drop (i + 1))).Perm (f :: D[i] :: (D.take i ++ D.drop (i + 1))) := List.Perm.cons _ List.perm_middle
  rw [← e2] at h2
  exact h1.trans ((List.Perm.swap _ _ _).trans h2.symm)
theorem snoc_perm (D : List Nat) (x : Nat) : (x :: D).Perm (D ++ [x]) := by
  have := (List.perm_append_comm (l₁ := [x]) (l₂ := D)); simpa using this

/-- What is left of a layout, the item x gone. -/
structure Removed (K : Nat → Kvn) (L0 : List Nat) (x : Nat) (L : List Nat) (X : Nat → Int) : Prop where
  perm : (x :: L).Perm L0
  heap : HeapO K L
  idx : IdxAll X L

theorem removed_last {K : Nat → Kvn} {L : List Nat} {X : Nat → Int} (h0 : 0 < L.length) (hh : HeapO K L) (hx : IdxAll X L) : Removed K L (L.getD (L.length - 1) 0) L.dropLast X := by
  refine ⟨?_, heapO_dropLast hh, idxAll_dropLast hx⟩
  have := snoc_perm L.dropLast (L.getD (L.length - 1) 0)
  rwa [dropLast_last L h0] at this
theorem removed_at {K : Nat → Kvn} {L M : List Nat} {X : Nat → Int} {i : Nat} (hi : i < L.length - 1) (hs : Settled K (L.dropLast.set i (L.getD (L.length - 1) 0)) M X) : Removed K L (L.getD i 0) M X := by
  refine ⟨?_, hs.heap, hs.idx⟩
  have hd : i < L.dropLast.length := by simpa using hi
  have h1 := set_perm L.dropLast i (L.getD (L.length - 1) 0) hd
  rw [getD_dropLast L i hi] at h1
  have h2 := snoc_perm L.dropLast (L.getD (L.length - 1) 0)
  rw [dropLast_last L (by omega)] at h2
  exact ((List.Perm.cons _ hs.perm).trans h1).trans h2
theorem set_nodup {L : List Nat} (hn : L.Nodup) {i : Nat} (hi : i < L.length - 1) : (L.dropLast.set i (L.getD (L.length - 1) 0)).Nodup := by
  have hd : i < L.dropLast.length := by simpa using hi
  have h1 := set_perm L.dropLast i (L.getD (L.length - 1) 0) hd
  have h2 := snoc_perm L.dropLast (L.getD (L.length - 1) 0)
  rw [dropLast_last L (by omega)] at h2
  have h3 := ((h1.trans h2).nodup_iff).2 hn
  exact (List.nodup_cons.1 h3).2

theorem ownsRow_pre {w : World} {base e size g n cap : Nat} {xs : List Value} (h : w.ownsRow base e size (.slice (some ⟨g, 0, none⟩) n cap) n xs) (m : Nat) (hm : m ≤ n) : w.ownsRow base e size (.slice (some ⟨g, 0, none⟩) m cap) m (xs.take (m * size)) := by
  have hle : m * size ≤ n * size := Nat.mul_le_mul_right _ hm
  refine ⟨by rw [List.length_take, h.1]; omega, ?_⟩
  rcases h.2 with ⟨h', _⟩ | ⟨g', cap', cur, h', hb, hg, hnc, hcm, hcs, htake⟩
  · simp at h'
  · simp only [Value.slice.injEq, Option.some.injEq, Addr.mk.injEq, and_true, true_and] at h'
    obtain ⟨rfl, rfl⟩ := h'
    refine .inr ⟨g, cap, cur, rfl, hb, hg, by omega, hcm, hcs, ?_⟩
    rw [← htake, List.take_take]
    congr 1
    omega

set_option maxHeartbeats 1600000 in
set_option maxRecDepth 100000 in
theorem removeAt_any {w : World} {h : Hp} {s : Bd} (b : BodAt w h s) (i : Nat) (hi : i < s.its.length) (hbig : s.its.length ≤ 2000) (hn : s.its.Nodup) (hm : ∀ x, x ∈ s.its → x < s.n) (ho : HeapO s.K s.its) (hX : IdxAll s.X s.its) :
    Calls Tryd.prog 35 #[.pointer (some ⟨h.bb, 17, none⟩), encN i] w fun e w' => ∃ (h' : Hp) (L : List Nat) (X : Nat → Int), e = .returned (.tuple #[]) ∧ Removed s.K s.its (s.its.getD i 0) L X ∧ BodAt w' h' { s with its := L, X := X } ∧ Fr h.foot w w' ∧ Ext w.heap.size h h' ∧ h'.ve = h.ve := by
  obtain ⟨n, hn1⟩ : ∃ n, s.its.length = n + 1 := ⟨s.its.length - 1, by omega⟩
  obtain ⟨g, cap, C⟩ := b.celli (by omega)
  have hi0 := b.hi
  rw [C.vi] at hi0
  obtain ⟨_, _, hv0, hle, hcm⟩ := row_some hi0 (by omega)
  simp only [Value.slice.injEq, Option.some.injEq, Addr.mk.injEq, and_true, true_and] at hv0
  obtain ⟨rfl, rfl⟩ := hv0
  unfold maxLen at hcm
  have en := C.e n (by omega)
  have fn := C.fr n
  have b17 := C.b17
  have blt := C.blt
  obtain ⟨cur, hcur, _⟩ := b.hb.ex
  have f17 : w.frozen? ⟨h.bb, 17, none⟩ = false := cells_free hcur 17
  have nb : h.bb ∉ h.vi.ownBlock.toList := row_not_mem b.hi hcur (by decide)
  have nbg : h.bb ≠ g := by rw [C.vi] at nb; simpa [Value.ownBlock] using nb
  have HB := Lib.hid b
  have HC := Lib.hid C
  have Hvi := Lib.hid C.vi
  -- the world behind slices.Delete
  have hdel := delete_last g n cap _ w en fn (by omega) (by omega)
  have hst := ((hi0.stored n (.int .i64 0)).1)
  rw [hn1] at hst
  have hpre := ownsRow_pre hst n (by omega)
  have hlist : (((s.its.map encN).set n (Value.int .i64 0)).take (n * 1)) = s.its.dropLast.map encN := by
    rw [Nat.mul_one, List.take_set_of_le (by omega), ← List.map_take, List.dropLast_eq_take, hn1]
    rfl
  rw [hlist] at hpre
  have hlen : s.its.dropLast.length = n := by rw [List.length_dropLast, hn1]; rfl
  have hfw : Fr h.vi.ownBlock.toList w (w.drew.setCell ⟨g, n, none⟩ (.int .i64 0)) := by
    rw [C.vi]
    exact (fr_drewN w 1 _).trans' (fr_setCell (w.drewN 1) ⟨g, n, none⟩ _)
  obtain ⟨W1, hW1⟩ : ∃ W1, w.drew.setCell ⟨g, n, none⟩ (.int .i64 0) = W1 := ⟨_, rfl⟩
  have hpre1 : W1.ownsRow 0 3 1 (.slice (some ⟨g, 0, none⟩) n cap) s.its.dropLast.length (s.its.dropLast.map encN) := by rw [hlen, ← hW1]; exact hpre
  rw [hW1] at hfw hdel
  obtain ⟨B1, F1⟩ := b.newI hpre1 hfw
  have hx1 : Ext w.heap.size h { h with vi := .slice (some ⟨g, 0, none⟩) n cap } := ⟨rfl, rfl, rfl, fun g hg => .inl hg, fun g' hg' => .inl (by rw [C.vi]; exact hg')⟩
  have d17 := hfw.cell b17 nb
  have g17 : W1.frozen? ⟨h.bb, 17, none⟩ = false := by rw [hfw.frozen blt nb]; exact f17
  have H1 := Lib.hid F1
  have HX := Lib.hid hx1
  have hnI : (n : Int) ≤ 1999 := by omega
  have hiI : (i : Int) ≤ (n : Int) := by omega
  obtain ⟨f, hf⟩ : ∃ f, s.its.getD n 0 = f := ⟨_, rfl⟩
  rw [hf] at en
  rw [hn1] at b17
  rw [show ((n + 1 : Nat) : Int) = (n : Int) + 1 by omega] at hdel
  have Hn1 := Lib.hid hn1
  by_cases hlast : i = n
  · subst hlast
    have hR : Hid (Removed s.K s.its (s.its.getD i 0) s.its.dropLast s.X) := Lib.hid (by have := removed_last (K := s.K) (X := s.X) (L := s.its) (by omega) ho hX; rwa [hn1] at this)
    have HB1 := Lib.hid B1
    clear B1 F1 hx1 hfw hpre1 hpre hst hlist hi0 C b hn hm ho hX hcur hf hn1 hlen hW1
    unfold encN at *
    go_enter Tryd.func35, Tryd.ntmps35
    go_wp2_with (go_at_call 47; refine hdel.mono ?_; rintro e w2 ⟨rfl, rfl⟩)
    refine bodyPost_ret (results_none rfl _ _ _) rfl ?_
    exact ⟨_, _, _, rfl, hR.out, HB1.out, bbvi_foot h H1.out, HX.out, rfl⟩
  · have hil : i < n := by omega
    have hfn : f < s.n := hm f (by rw [← hf]; exact getD_mem _ _ (by omega))
    obtain ⟨B2, F2⟩ := B1.setI (g := g) (cap := cap) (by rw [hlen]) i f
    have hset := settle_any B2 i (by show i < (s.its.dropLast.set i f).length; rw [List.length_set, hlen]; exact hil) (by show (s.its.dropLast.set i f).length ≤ 2000; rw [List.length_set, hlen]; omega)
      (by have := set_nodup hn (i := i) (by omega); rwa [hn1, Nat.add_sub_cancel, hf] at this)
      (fun y hy => by
        rcases List.mem_or_eq_of_mem_set hy with h1 | h1
        · exact hm y (List.dropLast_subset _ h1)
        · rw [h1]; exact hfn)
      (pre_of (heapO_dropLast ho) i f)
      (fun j hj hne => by
        have hj' : j < s.its.dropLast.length := by simpa using hj
        show s.X ((s.its.dropLast.set i f).getD j 0) = j
        rw [getD_set, if_neg (by omega)]
        exact idxAll_dropLast hX j hj')
    have hR : Hid (∀ L X, Settled s.K (s.its.dropLast.set i f) L X → Removed s.K s.its (s.its.getD i 0) L X) := Lib.hid (fun L X hs => removed_at (by omega) (by rw [hn1, Nat.add_sub_cancel, hf]; exact hs))
    have H2 := Lib.hid F2
    have hiI2 : (i : Int) < (n : Int) := by omega
    have ei : (W1.setCell ⟨h.bb, 17, none⟩ (.slice (some ⟨g, 0, none⟩) n cap)).cell? ⟨g, i, none⟩ = some (encN (s.its.dropLast.getD i 0)) := by
      obtain ⟨g2, c2, C2⟩ := B1.celli (by show 0 < s.its.dropLast.length; omega)
      have hv2 := C2.vi
      simp only [Value.slice.injEq, Option.some.injEq, Addr.mk.injEq, and_true, true_and] at hv2
      obtain ⟨rfl, _, rfl⟩ := hv2
      exact C2.e i (by show i < s.its.dropLast.length; omega)
    have fi : (W1.setCell ⟨h.bb, 17, none⟩ (.slice (some ⟨g, 0, none⟩) n cap)).frozen? ⟨g, i, none⟩ = false := by
      obtain ⟨g2, c2, C2⟩ := B1.celli (by show 0 < s.its.dropLast.length; omega)
      have hv2 := C2.vi
      simp only [Value.slice.injEq, Option.some.injEq, Addr.mk.injEq, and_true, true_and] at hv2
      obtain ⟨rfl, _, rfl⟩ := hv2
      exact C2.fr i
    clear B1 F1 B2 F2 hx1 hfw hpre1 hpre hst hlist hi0 C b hn hm ho hX hcur hf hn1 hlen hW1
    unfold encN at *
    go_enter Tryd.func35, Tryd.ntmps35
    go_wp2_with (first | (go_at_call 47; refine hdel.mono ?_; rintro e w2 ⟨rfl, rfl⟩) | (go_at_call 29; fail))
    refine hset.mono ?_
    rintro e w2 ⟨L, X, rfl, hS, B3, F3⟩
    go_wp2_with fail
    go_end0
    exact ⟨_, L, X, rfl, hR.out L X hS, B3, fr_foot HX.out rfl (bbvi_foot h H1.out) (rows_foot _ (H2.out.trans' F3)), HX.out, rfl⟩
end Go.Proofs.YtpbnbddjfebenaaDoor
