/- The calls of a heap that change it: Change, Remove, Push. -/
import Derived.Test.YtpbnbddjfebenaaDoorHGet
namespace Go.Proofs.YtpbnbddjfebenaaDoor
open Go.RowKit Go.Sort
open BodAt (row_ne row_row_ne)
set_option linter.unusedVariables false
set_option linter.unusedSimpArgs false

/-- Cells of one element are written: the row behind it is told by a list. -/
theorem BodAt.setRow {w w' : World} {h : Hp} {s : Bd} (b : BodAt w h s) {g cap : Nat} (hv : h.ve = .slice (some ⟨g, 0, none⟩) s.n cap) (hf : Fr [g] w w') {ys : List Value} (ho : w'.ownsRow 0 80 4 (.slice (some ⟨g, 0, none⟩) s.n cap) s.n ys)
    {K' : Nat → Kvn} {X' : Nat → Int} (hy : ∀ x, x < s.n → ys[x * 4]? = some (.int .u64 (K' x).key) ∧ ys[x * 4 + 1]? = some (.int .i64 (K' x).val) ∧ ys[x * 4 + 2]? = some (.int .u64 (K' x).num) ∧ ys[x * 4 + 3]? = some (.int .i64 (X' x))) :
    BodAt w' h { s with K := K', X := X' } ∧ Fr h.rows w w' := by
  have hg : h.ve.ownBlock = some g := by rw [hv]; rfl
  obtain ⟨xs, hxo, _⟩ := b.he.ex
  obtain ⟨cur, hcur, hr⟩ := b.hb.ex
  have na : h.a ≠ g := fun e => row_ne hxo b.ha (by decide) g hg e.symm
  have nc : h.cb ≠ g := fun e => row_ne hxo b.hc (by decide) g hg e.symm
  have nb : h.bb ≠ g := fun e => row_ne hxo hcur (by decide) g hg e.symm
  have ni : ∀ k, h.vi.ownBlock = some k → k ∉ [g] := fun k hk e => row_row_ne hxo b.hi (by decide) g k hg hk (List.mem_singleton.1 e).symm
  exact ⟨⟨hf.same b.ha (by simpa using na), hf.same b.hc (by simpa using nc), ⟨cur, hf.same hcur (by simpa using nb), hr⟩, ⟨ys, by rw [hv]; exact ho, hy⟩, hf.row b.hi ni⟩,
    hf.mono (fun k hk => .inl (by simp only [List.mem_cons, List.not_mem_nil, or_false] at hk; subst hk; simp [Hp.rows, hg]))⟩

/-- The key of an element is written. -/
theorem BodAt.setKey {w : World} {h : Hp} {s : Bd} (b : BodAt w h s) {g cap x : Nat} (hv : h.ve = .slice (some ⟨g, 0, none⟩) s.n cap) (hx : x < s.n) (k : Int) :
    BodAt (w.setCell ⟨g, x * 4, none⟩ (.int .u64 k)) h { s with K := upd s.K x ⟨k, (s.K x).val, (s.K x).num⟩ } ∧ Fr h.rows w (w.setCell ⟨g, x * 4, none⟩ (.int .u64 k)) := by
  obtain ⟨xs, ho, hxs⟩ := b.he.ex
  rw [hv] at ho
  have hl := ho.1
  refine b.setRow hv (fr_setCell w ⟨g, x * 4, none⟩ _) (ho.stored (x * 4) (.int .u64 k)).1 (X' := s.X) (fun y hy => ?_)
  obtain ⟨e0, e1, e2, e3⟩ := hxs y hy
  by_cases e : y = x
  · subst e
    refine ⟨by rw [List.getElem?_set_self (by omega)]; simp [upd], by rw [List.getElem?_set_ne (by omega), e1]; simp [upd], by rw [List.getElem?_set_ne (by omega), e2]; simp [upd], by rw [List.getElem?_set_ne (by omega), e3]⟩
  · refine ⟨by rw [List.getElem?_set_ne (by omega), e0]; simp [upd, e], by rw [List.getElem?_set_ne (by omega), e1]; simp [upd, e], by rw [List.getElem?_set_ne (by omega), e2]; simp [upd, e], by rw [List.getElem?_set_ne (by omega), e3]⟩

/-- An element is written. -/
theorem BodAt.setElem {w : World} {h : Hp} {s : Bd} (b : BodAt w h s) {g cap x : Nat} (hv : h.ve = .slice (some ⟨g, 0, none⟩) s.n cap) (hx : x < s.n) (q : Kvn) (i : Int) :
    BodAt ((((w.setCell ⟨g, x * 4, none⟩ (.int .u64 q.key)).setCell ⟨g, x * 4 + 1, none⟩ (.int .i64 q.val)).setCell ⟨g, x * 4 + 2, none⟩ (.int .u64 q.num)).setCell ⟨g, x * 4 + 3, none⟩ (.int .i64 i)) h { s with K := upd s.K x q, X := upd s.X x i } ∧
    Fr h.rows w ((((w.setCell ⟨g, x * 4, none⟩ (.int .u64 q.key)).setCell ⟨g, x * 4 + 1, none⟩ (.int .i64 q.val)).setCell ⟨g, x * 4 + 2, none⟩ (.int .u64 q.num)).setCell ⟨g, x * 4 + 3, none⟩ (.int .i64 i)) := by
  obtain ⟨xs, ho, hxs⟩ := b.he.ex
  rw [hv] at ho
  have hl := ho.1
  have o1 := (ho.stored (x * 4) (.int .u64 q.key)).1
  have o2 := (o1.stored (x * 4 + 1) (.int .i64 q.val)).1
  have o3 := (o2.stored (x * 4 + 2) (.int .u64 q.num)).1
  have o4 := (o3.stored (x * 4 + 3) (.int .i64 i)).1
  have fr : Fr [g] w ((((w.setCell ⟨g, x * 4, none⟩ (.int .u64 q.key)).setCell ⟨g, x * 4 + 1, none⟩ (.int .i64 q.val)).setCell ⟨g, x * 4 + 2, none⟩ (.int .u64 q.num)).setCell ⟨g, x * 4 + 3, none⟩ (.int .i64 i)) :=
    (((fr_setCell w ⟨g, x * 4, none⟩ _).trans' (fr_setCell _ ⟨g, x * 4 + 1, none⟩ _)).trans' (fr_setCell _ ⟨g, x * 4 + 2, none⟩ _)).trans' (fr_setCell _ ⟨g, x * 4 + 3, none⟩ _)
  refine b.setRow hv fr o4 (fun y hy => ?_)
  obtain ⟨e0, e1, e2, e3⟩ := hxs y hy
  simp only [List.getElem?_set, List.length_set]
  by_cases e : y = x
  · subst e
    simp [upd, hl, show y * 4 < s.n * 4 by omega, show y * 4 + 1 < s.n * 4 by omega, show y * 4 + 2 < s.n * 4 by omega, show y * 4 + 3 < s.n * 4 by omega]
  · simp only [upd, if_neg e]
    refine ⟨?_, ?_, ?_, ?_⟩
    · rw [if_neg (by omega), if_neg (by omega), if_neg (by omega), if_neg (by omega)]; exact e0
    · rw [if_neg (by omega), if_neg (by omega), if_neg (by omega), if_neg (by omega)]; exact e1
    · rw [if_neg (by omega), if_neg (by omega), if_neg (by omega), if_neg (by omega)]; exact e2
    · rw [if_neg (by omega), if_neg (by omega), if_neg (by omega), if_neg (by omega)]; exact e3

theorem mem_at {L : List Nat} {x : Nat} (h : x ∈ L) : ∃ i, i < L.length ∧ L.getD i 0 = x := by
  obtain ⟨i, hi, e⟩ := List.getElem_of_mem h
  exact ⟨i, hi, by simp [List.getD_eq_getElem?_getD, hi, e]⟩

set_option maxHeartbeats 800000 in
theorem change_no {w : World} {h : Hp} {S : List El} {P : Nat} (H : HeapAt w h S P) (n k : Int) (hn : ¬ isH S n) : Calls Tryd.prog 10 #[h.ptr, .int .i64 n, .int .u64 k] w fun e w' => e = .returned (.int .i64 9) ∧ w = w' := by
  obtain ⟨s, b, i⟩ := H.ex
  have hf := Lib.hid (find_no b i n hn)
  clear b i H hn
  unfold Hp.ptr at *
  go_enter Tryd.func10, Tryd.ntmps10
  go_wp2_with (first | (go_at_call 28; refine hf.out.mono ?_; rintro e w' ⟨rfl, rfl⟩))
  go_ret
  exact ⟨rfl, rfl⟩

set_option maxHeartbeats 1600000 in
set_option maxRecDepth 100000 in
theorem change_yes {w : World} {h : Hp} {S : List El} {P : Nat} (H : HeapAt w h S P) (x : Nat) (k : Int) (hx : x ∈ hsOf S) :
    Calls Tryd.prog 10 #[h.ptr, .int .i64 x, .int .u64 k] w fun e w' => e = .returned (.int .i64 0) ∧ HeapAt w' h (changeS S x k) P ∧ Fr h.foot w w' := by
  obtain ⟨s, b, i⟩ := H.ex
  obtain ⟨g, cap, C, hf⟩ := find_yes b i x hx
  have hxn := i.hlt x hx
  obtain ⟨j, hj, hjx⟩ := mem_at (i.perm.mem_iff.2 hx)
  obtain ⟨B1, F1⟩ := b.setKey C.ve hxn k
  have hXj : s.X x = j := by rw [← hjx]; exact i.idx j hj
  have hlen := i.len
  have hle := i.len_le
  have hc0 := C.e0 x hxn
  have hfr := C.fr (x * 4)
  obtain ⟨W1, hW1⟩ : ∃ W1, w.setCell ⟨g, x * 4, none⟩ (.int .u64 k) = W1 := ⟨_, rfl⟩
  rw [hW1] at B1 F1
  have ha1 : W1.cell? ⟨h.a, 0, none⟩ = some (.pointer (some ⟨h.bb, 0, none⟩)) := cell_of_one B1.ha
  obtain ⟨g', cap', C1⟩ := B1.cellsy (by show 0 < s.n; omega)
  have hvv : (Value.slice (some ⟨g', 0, none⟩) s.n cap') = .slice (some ⟨g, 0, none⟩) s.n cap := C1.ve.symm.trans C.ve
  simp only [Value.slice.injEq, Option.some.injEq, Addr.mk.injEq, and_true, true_and] at hvv
  obtain ⟨rfl, rfl⟩ := hvv
  have h3 : W1.cell? ⟨g', x * 4 + 3, none⟩ = some (.int .i64 j) := by rw [← hXj]; exact C1.e3 x hxn
  have hset := Lib.hid (settle_any (B1.frame (fr_drewN W1 1 []) (fun _ _ => by simp)) j hj (by show s.its.length ≤ 2000; omega) i.nodup i.ltn (pre_change i.heap i.nodup hj (fun y hy => by rw [hjx] at hy; simp [upd, hy])) (i.idx.ex j))
  have hinv : Hid (∀ L X, Settled (upd s.K x ⟨k, (s.K x).val, (s.K x).num⟩) s.its L X → Inv { s with K := upd s.K x ⟨k, (s.K x).val, (s.K x).num⟩, its := L, X := X } (changeS S x k) P) :=
    Lib.hid (fun L X hs => i.change rfl (fun y => rfl) rfl rfl hs)
  have HF := Lib.hid hf
  have HF1 := Lib.hid (rows_foot h F1)
  have HW1 := Lib.hid hW1
  clear b i H hf B1 F1 C C1 hW1 hXj hjx hx
  unfold Hp.ptr encN at *
  go_enter Tryd.func10, Tryd.ntmps10
  go_wp2_with (first | (go_at_call 28; refine HF.out.mono ?_; rintro e w' ⟨rfl, rfl⟩))
  rw [HW1.out]
  refine wp_region_still_tail 10 (by kernel_rfl) (by kernel_rfl) ?_
  simp only [List.take_succ_cons, List.take_zero, List.drop_succ_cons, List.drop_zero]
  change wpStill _ _ (World.drew _) (fun a' => wpList _ _ _ _ a' (World.drew _)) _ _
  repeat still_step
  refine wpStill_nil ?_
  go_wp2_with fail
  refine hset.out.mono ?_
  rintro e w2 ⟨L, X, rfl, hS, B2, F2⟩
  go_wp2_with fail
  go_ret
  exact ⟨rfl, ⟨_, B2, hinv.out L X hS⟩, (HF1.out.trans' (fr_drewN W1 1 _)).trans' (rows_foot h F2)⟩
end Go.Proofs.YtpbnbddjfebenaaDoor
