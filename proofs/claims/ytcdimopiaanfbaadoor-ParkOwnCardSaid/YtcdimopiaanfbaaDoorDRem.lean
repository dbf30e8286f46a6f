/- Remove and Pop. -/
import Derived.Test.YtcdimopiaanfbaaDoorDFind
namespace Go.Proofs.YtcdimopiaanfbaaDoor
open Go.RowKit Go.Sort Go.MapKept
set_option linter.unusedVariables false
set_option linter.unusedSimpArgs false

theorem fiRemove_nil {w : World} {v : Value} (h : NoQ w v) (t : Int) : Calls Tryd.prog 48 #[v, .int .u64 t] w fun e w' => e = .returned (.tuple #[.int .i64 0, .int .i64 1]) ∧ Grn w w' := by
  have hu := Lib.hid (fiFind_nil h t)
  obtain ⟨a, rfl⟩ := h.form
  clear h
  go_enter Tryd.func48, Tryd.ntmps48
  go_wp2_with (go_at_call 73; refine hu.out.mono ?_; rintro e w2 ⟨rfl, hg⟩)
  go_ret2
  exact ⟨rfl, hg.alloc _⟩
theorem fiRemove_no {w : World} {q b m g : Nat} {L : Qu} (h : QAt w q b m L g) (t : Nat) (hx : lks 0 0 L t = none) : Calls Tryd.prog 48 #[.pointer (some ⟨q, 0, none⟩), .int .u64 ((t : Nat) : Int)] w fun e w' => e = .returned (.tuple #[.int .i64 0, .int .i64 9]) ∧ Grn w w' := by
  have hu := Lib.hid (fiFind_no h t hx)
  clear h
  go_enter Tryd.func48, Tryd.ntmps48
  go_wp2_with (go_at_call 73; refine hu.out.mono ?_; rintro e w2 ⟨rfl, hg⟩)
  go_ret2
  exact ⟨rfl, hg.alloc _⟩

set_option maxRecDepth 100000 in
set_option maxHeartbeats 3200000 in
theorem fiRemove_yes {w : World} {q b m g t : Nat} {v : Int} {A B : Qu} (h : QAt w q b m (A ++ (t, v) :: B) g) : Calls Tryd.prog 48 #[.pointer (some ⟨q, 0, none⟩), .int .u64 ((t : Nat) : Int)] w fun e w' => e = .returned (.tuple #[.int .i64 v, .int .i64 0]) ∧ QAt w' q b m (A ++ B) g ∧ Fr [b, m] w w' := by
  have hat := lks_at h.inc
  have hu := Lib.hid (fiFind_yes h t hat)
  have HH := Lib.hid h
  have HAT := Lib.hid hat
  obtain ⟨p, hp⟩ : ∃ p, p = lst 0 A := ⟨_, rfl⟩
  obtain ⟨n, hn⟩ : ∃ n, n = hdd 0 B := ⟨_, rfl⟩
  simp only [← hp, ← hn] at hu
  have HP := Lib.hid hp
  have HN := Lib.hid hn
  clear h hat hp hn
  go_enter Tryd.func48, Tryd.ntmps48
  go_wp2_with (go_at_call 73; fail)
  refine hu.out.mono ?_
  rintro e w2 ⟨rfl, hg2⟩
  obtain ⟨W, hW, hNL⟩ := newLk w2 v p n
  have h2 := HH.out.grown hg2.below
  have c := h2.cq
  have c2 := h2.body.c2
  have hql := h2.lq
  have hbl := h2.lb
  have H3 := Lib.hid (h2.grown hNL.b)
  have HW := Lib.hid hW
  have HNL := Lib.hid hNL
  have HB := Lib.hid (hg2.below.trans (hNL.b.mono hg2.below.size))
  clear hW hNL h2
  go_wp2_with (at_delete; rw [HW.out]; refine wpList_drop rfl _ _ rfl H3.out.m t HAT.out rfl rfl ?_; intro w4 hm4 hf4 hs4; refine Hid.out ?_)
  clear c c2 hql hbl
  have hne : w2.heap.size ≠ b ∧ w2.heap.size ≠ m := by have := H3.out.out HNL.out.c (by decide); simpa using this
  have e4 := hf4.same HNL.out.c (by simp [hne.2])
  have hB4 := Lib.hid (H3.out.body.put hm4 hf4)
  have c := cells_cell (o := 0) (hf4.same H3.out.q (by simp; exact H3.out.qm)) rfl
  have k0 := cells_cell (o := 0) e4 rfl
  have k1 := cells_cell (o := 1) e4 rfl
  have k2 := cells_cell (o := 2) e4 rfl
  have HE4 := Lib.hid e4
  have HF4 := Lib.hid hf4
  have HQ4 := Lib.hid (hf4.same H3.out.q (by simp; exact H3.out.qm))
  have hj := Lib.hid (fiJoin_any (hB4.out.grown (w' := w4.drewN 1) ((fr_drewN w4 1 []).below (fun _ hx => by simp at hx) (Nat.le_refl _))) p n (fun h0 => ?_) (fun h0 => ?_) ?_)
  rotate_left
  · rw [HP.out]; exact rem_some_p H3.out.inc (by rw [← HP.out]; exact h0)
  · rw [HN.out]; exact rem_some_q H3.out.inc (by rw [← HN.out]; exact h0)
  · rw [HP.out, HN.out]; exact rem_ne H3.out.inc
  clear e4 hf4 hm4 hs4
  generalize hz : w2.heap.size = z at *
  clear hz
  refine Lib.hid ?_
  go_wp2_with fail
  go_still_tail 8, (by kernel_rfl)
  change wpList _ _ _ _ _ (w4.drewN 1)
  go_wp2_with (go_at_call 74; fail)
  refine hj.out.mono ?_
  rintro e w5 ⟨rfl, hB5, hf5⟩
  have k0 := cells_cell (o := 0) (hf5.same ((fr_drewN w4 1 [b, m]).same HE4.out (by simp [hne])) (by simp [hne])) rfl
  have hfin : Hid (QAt w5 q b m (A ++ B) g) := Lib.hid (by
    have hle := H3.out.le
    have hbb := hB5.b
    have hmm := hB5.m
    have h0 := H3.out.inc
    rw [HP.out, HN.out, remove_first h0, remove_last h0] at hbb
    refine ⟨hf5.same ((fr_drewN w4 1 [b, m]).same HQ4.out (by simp [H3.out.qb, H3.out.qm])) (by simp [H3.out.qb, H3.out.qm]), hbb, ?_, ?_, ?_⟩
    · rw [HP.out, HN.out] at hmm
      have hl : (A ++ (t, v) :: B).length - 1 = (A ++ B).length := by simp
      rw [hl] at hmm
      exact hmm.congr (fun k => (remove_links h0 k).symm)
    · obtain ⟨i1, i2, i3⟩ := (inc_append 0 A _).1 h0
      exact (inc_append 0 A B).2 ⟨i1, i3.mono (by omega)⟩
    · refine Nat.le_trans ?_ hle
      have hp' := H3.out.inc
      rw [← remove_last h0]
      split
      · rw [lst_append]; exact ((inc_append 0 A _).1 h0).2.le
      · exact Nat.le_refl _)
  have hfr : Hid (Fr [b, m] w w5) := Lib.hid (((Fr.of_below HB.out [b, m]).trans' (HF4.out.mono (fun x hx => .inl (by simp at hx; simp [hx])))).trans' ((fr_drewN w4 1 [b, m]).trans' hf5))
  clear hB5 hf5
  go_wp2_with fail
  go_ret2
  exact ⟨rfl, hfin.out, hfr.out⟩
end Go.Proofs.YtcdimopiaanfbaaDoor
