/- Copy. -/
import Derived.Test.YtpbnbddjfebenaaDoorHClone
namespace Go.Proofs.YtpbnbddjfebenaaDoor
open Go.RowKit Go.Sort
open BodAt (row_ne row_row_ne)
set_option linter.unusedVariables false
set_option linter.unusedSimpArgs false

/-- The sixteen words of a body, written one after the other. -/
def words (w : World) (bb : Nat) (x : Nat → Nat) : World := ((((((((((((((((w.setCell ⟨bb, 1, none⟩ (.int .u64 (x 0))).setCell ⟨bb, 2, none⟩ (.int .u64 (x 1))).setCell ⟨bb, 3, none⟩ (.int .u64 (x 2))).setCell ⟨bb, 4, none⟩ (.int .u64 (x 3))).setCell ⟨bb, 5, none⟩ (.int .u64 (x 4))).setCell ⟨bb, 6, none⟩ (.int .u64 (x 5))).setCell ⟨bb, 7, none⟩ (.int .u64 (x 6))).setCell ⟨bb, 8, none⟩ (.int .u64 (x 7))).setCell ⟨bb, 9, none⟩ (.int .u64 (x 8))).setCell ⟨bb, 10, none⟩ (.int .u64 (x 9))).setCell ⟨bb, 11, none⟩ (.int .u64 (x 10))).setCell ⟨bb, 12, none⟩ (.int .u64 (x 11))).setCell ⟨bb, 13, none⟩ (.int .u64 (x 12))).setCell ⟨bb, 14, none⟩ (.int .u64 (x 13))).setCell ⟨bb, 15, none⟩ (.int .u64 (x 14))).setCell ⟨bb, 16, none⟩ (.int .u64 (x 15)))
theorem BlockAt.words {w : World} {bb cb : Nat} {ve vi : Value} {W : Nat → Nat} {p : Int} (b : BlockAt w bb cb ve vi W p) (x : Nat → Nat) : BlockAt (words w bb x) bb cb ve vi x p := by
  have b1 := b.setW 0 (x 0) (by omega)
  have b2 := b1.setW 1 (x 1) (by omega)
  have b3 := b2.setW 2 (x 2) (by omega)
  have b4 := b3.setW 3 (x 3) (by omega)
  have b5 := b4.setW 4 (x 4) (by omega)
  have b6 := b5.setW 5 (x 5) (by omega)
  have b7 := b6.setW 6 (x 6) (by omega)
  have b8 := b7.setW 7 (x 7) (by omega)
  have b9 := b8.setW 8 (x 8) (by omega)
  have b10 := b9.setW 9 (x 9) (by omega)
  have b11 := b10.setW 10 (x 10) (by omega)
  have b12 := b11.setW 11 (x 11) (by omega)
  have b13 := b12.setW 12 (x 12) (by omega)
  have b14 := b13.setW 13 (x 13) (by omega)
  have b15 := b14.setW 14 (x 14) (by omega)
  have b16 := b15.setW 15 (x 15) (by omega)
  obtain ⟨cur, h1, h2, h3, h4, h5⟩ := b16.ex
  refine ⟨cur, h1, h2, h3, fun i hi => ?_, h5⟩
  rw [h4 i hi]
  match i with
  | 0 => rfl
  | 1 => rfl
  | 2 => rfl
  | 3 => rfl
  | 4 => rfl
  | 5 => rfl
  | 6 => rfl
  | 7 => rfl
  | 8 => rfl
  | 9 => rfl
  | 10 => rfl
  | 11 => rfl
  | 12 => rfl
  | 13 => rfl
  | 14 => rfl
  | 15 => rfl
  | i + 16 => omega
theorem fr_words (w : World) (bb : Nat) (x : Nat → Nat) : Fr [bb] w (words w bb x) := by
  unfold words
  refine (((((((((((((((fr_setCell _ ⟨bb, 1, none⟩ _).trans' (fr_setCell _ ⟨bb, 2, none⟩ _)).trans' (fr_setCell _ ⟨bb, 3, none⟩ _)).trans' (fr_setCell _ ⟨bb, 4, none⟩ _)).trans' (fr_setCell _ ⟨bb, 5, none⟩ _)).trans' (fr_setCell _ ⟨bb, 6, none⟩ _)).trans' (fr_setCell _ ⟨bb, 7, none⟩ _)).trans' (fr_setCell _ ⟨bb, 8, none⟩ _)).trans' (fr_setCell _ ⟨bb, 9, none⟩ _)).trans' (fr_setCell _ ⟨bb, 10, none⟩ _)).trans' (fr_setCell _ ⟨bb, 11, none⟩ _)).trans' (fr_setCell _ ⟨bb, 12, none⟩ _)).trans' (fr_setCell _ ⟨bb, 13, none⟩ _)).trans' (fr_setCell _ ⟨bb, 14, none⟩ _)).trans' (fr_setCell _ ⟨bb, 15, none⟩ _)).trans' (fr_setCell _ ⟨bb, 16, none⟩ _)

theorem elAt_cells {w : World} {v : Value} {n : Nat} {K : Nat → Kvn} {X : Nat → Int} {xs : List Value} (ho : w.ownsRow 0 80 4 v n xs)
    (hx : ∀ h, h < n → xs[h * 4]? = some (.int .u64 (K h).key) ∧ xs[h * 4 + 1]? = some (.int .i64 (K h).val) ∧ xs[h * 4 + 2]? = some (.int .u64 (K h).num) ∧ xs[h * 4 + 3]? = some (.int .i64 (X h))) : ∀ u ∈ xs, u.oneCell' = true := by
  intro u hu
  obtain ⟨j, hj, rfl⟩ := List.getElem_of_mem hu
  have hl := ho.1
  obtain ⟨e0, e1, e2, e3⟩ := hx (j / 4) (by omega)
  have hj' : xs[j]? = some xs[j] := List.getElem?_eq_getElem hj
  rcases (by omega : j = j / 4 * 4 ∨ j = j / 4 * 4 + 1 ∨ j = j / 4 * 4 + 2 ∨ j = j / 4 * 4 + 3) with h | h | h | h
  · rw [← h, hj'] at e0; rw [Option.some.inj e0]; rfl
  · rw [← h, hj'] at e1; rw [Option.some.inj e1]; rfl
  · rw [← h, hj'] at e2; rw [Option.some.inj e2]; rfl
  · rw [← h, hj'] at e3; rw [Option.some.inj e3]; rfl

set_option maxHeartbeats 6400000 in
set_option maxRecDepth 100000 in
theorem copy_any {w : World} {h : Hp} {S : List El} {P : Nat} (H : HeapAt w h S P) : Calls Tryd.prog 22 #[h.ptr] w fun e w' => ∃ h', e = .returned h'.ptr ∧ HeapAt w' h' S P ∧ Below w.heap.size w w' ∧ ∀ k, k ∈ h'.foot → w.heap.size ≤ k := by
  obtain ⟨s, b, i⟩ := H.ex
  have ha := cell_of_one b.ha
  have hu := Lib.hid (usable_yes h.a h.bb w ha)
  have hnb := Lib.hid (fun w => newBody_any w)
  have HB := Lib.hid b
  have HI := Lib.hid i
  obtain ⟨xs, hxo, hxs⟩ := b.he.ex
  have HXO := Lib.hid hxo
  have HXS := Lib.hid hxs
  have HF := Lib.hid b.lt_foot
  clear b i H hxo hxs ha
  unfold Hp.ptr
  go_enter Tryd.func22, Tryd.ntmps22
  go_wp2_with (first | (go_at_call 24; refine hu.out.mono ?_; rintro e w' ⟨rfl, rfl⟩) | (go_at_call 17; fail))
  refine (hnb.out _).mono ?_
  rintro e w0 ⟨rfl, hw0⟩
  have hb0 : Below w.heap.size w w0 := by rw [← hw0]; exact ((Below.refl _ w).alloc (Nat.le_refl _) _).alloc (by simp) _
  have hbb : w0.heap[w.heap.size]? = some (.cells (newCells (w.heap.size + 1)) 74 (0, 0)) := by rw [← hw0, Below.heap_alloc _ _ _ (by simp)]; exact block_new w _ _ rfl
  have hcb : w0.heap[w.heap.size + 1]? = some (.cells #[.pointer (some ⟨w.heap.size, 0, none⟩)] 51 (0, 0)) := by rw [← hw0]; exact block_new _ _ _ (by simp)
  have B0 := HB.out.frame (Fr.of_below hb0 []) (fun _ _ => by simp)
  have hsz0 : w.heap.size + 2 ≤ w0.heap.size := by have := lt_of_block hcb; omega
  clear hw0
  have HB0 := Lib.hid B0
  obtain ⟨cur, hcur, _, h0, _⟩ := B0.hb.ex
  have a0 := cell_of_one B0.ha
  have c0 := cells_cell hcur h0
  obtain ⟨xs', hxo', hxs'⟩ := B0.he.ex
  have hce := Lib.hid (cloneE_any hxo' (by have := HI.out.n_le; omega) (elAt_cells hxo' hxs'))
  have HXS' := Lib.hid hxs'
  have Hbb := Lib.hid hbb
  have Hcb := Lib.hid hcb
  have Hb0 := Lib.hid hb0
  generalize hve : h.ve = ve at *
  clear B0 hcur h0 hxo' hxs' hbb hcb hb0 hve
  go_wp2_with fail
  refine hce.out.mono ?_
  rintro e w1 ⟨v1, rfl, ho1, hb1⟩
  obtain ⟨N, hN⟩ : ∃ N, w.heap.size = N := ⟨_, rfl⟩
  have B1 := HB0.out.frame (Fr.of_below hb1 []) (fun _ _ => by simp)
  have hbb1 : w1.heap[w.heap.size]? = some (.cells (newCells (w.heap.size + 1)) 74 (0, 0)) := (hb1.block _ (by omega)).trans Hbb.out
  have hcb1 : w1.heap[w.heap.size + 1]? = some (.cells #[.pointer (some ⟨w.heap.size, 0, none⟩)] 51 (0, 0)) := (hb1.block _ (by omega)).trans Hcb.out
  have hnf : ∀ k, k ∈ h.foot → k ∉ [w.heap.size] := fun k hk e => by have := HF.out k hk; simp at e; omega
  have BN1 := blockAt_new w1 _ _ hbb1
  have hv1 : ∃ a c, v1 = .slice a s.n c := by
    rcases ho1.2 with ⟨hv, h0⟩ | ⟨g, cap, cu, hv, _⟩
    · exact ⟨none, 0, by rw [hv, h0]⟩
    · exact ⟨_, _, hv⟩
  have HO1 := Lib.hid ho1
  have Hb1 := Lib.hid hb1
  have f4 : Fr [w.heap.size] w1 (w1.setCell ⟨w.heap.size, 0, none⟩ v1) := fr_setCell w1 ⟨w.heap.size, 0, none⟩ v1
  have B4 := B1.frame f4 hnf
  have BN4 := BN1.setVe v1
  have hbbn : w.heap.size < w1.heap.size := lt_of_block hbb1
  have cN0 := cells_cell hbb1 (show (newCells (w.heap.size + 1))[0]? = some (.slice none 0 0) from rfl)
  have fN0 : w1.frozen? ⟨w.heap.size, 0, none⟩ = false := cells_free hbb1 0
  have HB4 := Lib.hid B4
  have HBN4 := Lib.hid BN4
  have hcb4 : Hid ((w1.setCell ⟨w.heap.size, 0, none⟩ v1).heap[w.heap.size + 1]? = some (.cells #[.pointer (some ⟨w.heap.size, 0, none⟩)] 51 (0, 0))) := Lib.hid (f4.same hcb1 (by simp))
  have HF4 := Lib.hid f4
  obtain ⟨va1, vc1, hv1⟩ := hv1
  have Hnf := Lib.hid hnf
  clear B1 BN1 hbb1 hcb1 ho1 hb1 B4 BN4 f4 hnf
  subst hv1
  have HNN := Lib.hid hN
  rw [hN] at hcb4 HBN4 HB4 HF4 cN0 fN0 Hnf hbbn ⊢
  clear hN
  go_upto_region 5 with (fail)
  obtain ⟨W4, hW4⟩ : ∃ W4, w1.setCell ⟨N, 0, none⟩ (.slice va1 s.n vc1) = W4 := ⟨_, rfl⟩
  rw [hW4] at HB4 HBN4 hcb4 HF4 ⊢
  clear hW4 cN0 fN0
  have a4 := cell_of_one HB4.out.ha
  have r1 : W4.cell? ⟨h.bb, 1, none⟩ = some (.int .u64 (s.W 0)) := HB4.out.hb.word 0 (by omega)
  have r2 : W4.cell? ⟨h.bb, 2, none⟩ = some (.int .u64 (s.W 1)) := HB4.out.hb.word 1 (by omega)
  have r3 : W4.cell? ⟨h.bb, 3, none⟩ = some (.int .u64 (s.W 2)) := HB4.out.hb.word 2 (by omega)
  have r4 : W4.cell? ⟨h.bb, 4, none⟩ = some (.int .u64 (s.W 3)) := HB4.out.hb.word 3 (by omega)
  have r5 : W4.cell? ⟨h.bb, 5, none⟩ = some (.int .u64 (s.W 4)) := HB4.out.hb.word 4 (by omega)
  have r6 : W4.cell? ⟨h.bb, 6, none⟩ = some (.int .u64 (s.W 5)) := HB4.out.hb.word 5 (by omega)
  have r7 : W4.cell? ⟨h.bb, 7, none⟩ = some (.int .u64 (s.W 6)) := HB4.out.hb.word 6 (by omega)
  have r8 : W4.cell? ⟨h.bb, 8, none⟩ = some (.int .u64 (s.W 7)) := HB4.out.hb.word 7 (by omega)
  have r9 : W4.cell? ⟨h.bb, 9, none⟩ = some (.int .u64 (s.W 8)) := HB4.out.hb.word 8 (by omega)
  have r10 : W4.cell? ⟨h.bb, 10, none⟩ = some (.int .u64 (s.W 9)) := HB4.out.hb.word 9 (by omega)
  have r11 : W4.cell? ⟨h.bb, 11, none⟩ = some (.int .u64 (s.W 10)) := HB4.out.hb.word 10 (by omega)
  have r12 : W4.cell? ⟨h.bb, 12, none⟩ = some (.int .u64 (s.W 11)) := HB4.out.hb.word 11 (by omega)
  have r13 : W4.cell? ⟨h.bb, 13, none⟩ = some (.int .u64 (s.W 12)) := HB4.out.hb.word 12 (by omega)
  have r14 : W4.cell? ⟨h.bb, 14, none⟩ = some (.int .u64 (s.W 13)) := HB4.out.hb.word 13 (by omega)
  have r15 : W4.cell? ⟨h.bb, 15, none⟩ = some (.int .u64 (s.W 14)) := HB4.out.hb.word 14 (by omega)
  have r16 : W4.cell? ⟨h.bb, 16, none⟩ = some (.int .u64 (s.W 15)) := HB4.out.hb.word 15 (by omega)
  have n1 : W4.cell? ⟨N, 1, none⟩ = some (.int .u64 (0 : Nat)) := HBN4.out.word 0 (by omega)
  have n2 : W4.cell? ⟨N, 2, none⟩ = some (.int .u64 (0 : Nat)) := HBN4.out.word 1 (by omega)
  have n3 : W4.cell? ⟨N, 3, none⟩ = some (.int .u64 (0 : Nat)) := HBN4.out.word 2 (by omega)
  have n4 : W4.cell? ⟨N, 4, none⟩ = some (.int .u64 (0 : Nat)) := HBN4.out.word 3 (by omega)
  have n5 : W4.cell? ⟨N, 5, none⟩ = some (.int .u64 (0 : Nat)) := HBN4.out.word 4 (by omega)
  have n6 : W4.cell? ⟨N, 6, none⟩ = some (.int .u64 (0 : Nat)) := HBN4.out.word 5 (by omega)
  have n7 : W4.cell? ⟨N, 7, none⟩ = some (.int .u64 (0 : Nat)) := HBN4.out.word 6 (by omega)
  have n8 : W4.cell? ⟨N, 8, none⟩ = some (.int .u64 (0 : Nat)) := HBN4.out.word 7 (by omega)
  have n9 : W4.cell? ⟨N, 9, none⟩ = some (.int .u64 (0 : Nat)) := HBN4.out.word 8 (by omega)
  have n10 : W4.cell? ⟨N, 10, none⟩ = some (.int .u64 (0 : Nat)) := HBN4.out.word 9 (by omega)
  have n11 : W4.cell? ⟨N, 11, none⟩ = some (.int .u64 (0 : Nat)) := HBN4.out.word 10 (by omega)
  have n12 : W4.cell? ⟨N, 12, none⟩ = some (.int .u64 (0 : Nat)) := HBN4.out.word 11 (by omega)
  have n13 : W4.cell? ⟨N, 13, none⟩ = some (.int .u64 (0 : Nat)) := HBN4.out.word 12 (by omega)
  have n14 : W4.cell? ⟨N, 14, none⟩ = some (.int .u64 (0 : Nat)) := HBN4.out.word 13 (by omega)
  have n15 : W4.cell? ⟨N, 15, none⟩ = some (.int .u64 (0 : Nat)) := HBN4.out.word 14 (by omega)
  have n16 : W4.cell? ⟨N, 16, none⟩ = some (.int .u64 (0 : Nat)) := HBN4.out.word 15 (by omega)
  have fz : ∀ o, W4.frozen? ⟨N, o, none⟩ = false := by obtain ⟨cur, hcur, _⟩ := HBN4.out.ex; exact fun o => cells_free hcur o
  have z1 := fz 1
  have z2 := fz 2
  have z3 := fz 3
  have z4 := fz 4
  have z5 := fz 5
  have z6 := fz 6
  have z7 := fz 7
  have z8 := fz 8
  have z9 := fz 9
  have z10 := fz 10
  have z11 := fz 11
  have z12 := fz 12
  have z13 := fz 13
  have z14 := fz 14
  have z15 := fz 15
  have z16 := fz 16
  clear fz
  go_upto_region 6 with (fail)
  obtain ⟨W5, hW5⟩ : ∃ W5, ((((((((((((((((W4.setCell ⟨N, 1, none⟩ (.int .u64 (s.W 0))).setCell ⟨N, 2, none⟩ (.int .u64 (s.W 1))).setCell ⟨N, 3, none⟩ (.int .u64 (s.W 2))).setCell ⟨N, 4, none⟩ (.int .u64 (s.W 3))).setCell ⟨N, 5, none⟩ (.int .u64 (s.W 4))).setCell ⟨N, 6, none⟩ (.int .u64 (s.W 5))).setCell ⟨N, 7, none⟩ (.int .u64 (s.W 6))).setCell ⟨N, 8, none⟩ (.int .u64 (s.W 7))).setCell ⟨N, 9, none⟩ (.int .u64 (s.W 8))).setCell ⟨N, 10, none⟩ (.int .u64 (s.W 9))).setCell ⟨N, 11, none⟩ (.int .u64 (s.W 10))).setCell ⟨N, 12, none⟩ (.int .u64 (s.W 11))).setCell ⟨N, 13, none⟩ (.int .u64 (s.W 12))).setCell ⟨N, 14, none⟩ (.int .u64 (s.W 13))).setCell ⟨N, 15, none⟩ (.int .u64 (s.W 14))).setCell ⟨N, 16, none⟩ (.int .u64 (s.W 15))) = W5 := ⟨_, rfl⟩
  rw [hW5]
  have f5 : Fr [N] W4 W5 := by rw [← hW5]; exact fr_words W4 N s.W
  have BN5 : BlockAt W5 N (N + 1) (.slice va1 s.n vc1) (.slice none 0 0) s.W 0 := by rw [← hW5]; exact HBN4.out.words s.W
  have B5 := HB4.out.frame f5 Hnf.out
  have hcb5 := f5.same hcb4.out (by simp)
  clear hW5 a4 r1 r2 r3 r4 r5 r6 r7 r8 r9 r10 r11 r12 r13 r14 r15 r16 n1 n2 n3 n4 n5 n6 n7 n8 n9 n10 n11 n12 n13 n14 n15 n16 z1 z2 z3 z4 z5 z6 z7 z8 z9 z10 z11 z12 z13 z14 z15 z16
  have a5 := cell_of_one B5.ha
  obtain ⟨cur5, hcur5, _, _, _, h175, _⟩ := B5.hb.ex
  have c175 := cells_cell hcur5 h175
  have hci := Lib.hid (cloneI_any B5.hi (by have := HI.out.len; have := HI.out.len_le; omega))
  have HB5 := Lib.hid B5
  have HBN5 := Lib.hid BN5
  have HF5 := Lib.hid f5
  have Hcb5 := Lib.hid hcb5
  generalize hvi : h.vi = vi at *
  clear B5 BN5 f5 hcb5 hcur5 h175 hvi
  go_wp2_with fail
  refine hci.out.mono ?_
  rintro e w6 ⟨v2, rfl, ho2, hb6⟩
  have s5 : W5.heap.size = w1.heap.size ∨ True := .inr trivial
  have hN5 : N < W5.heap.size := by obtain ⟨cur, hc, _⟩ := HBN5.out.ex; exact lt_of_block hc
  have B6 := HB5.out.frame (Fr.of_below hb6 []) (fun _ _ => by simp)
  have BN6 := HBN5.out.fr (Fr.of_below hb6 []) (by simp)
  have hcb6 := (Fr.of_below hb6 []).same Hcb5.out (by simp)
  have hv2 : ∃ a c, v2 = .slice a s.its.length c := by
    rcases ho2.2 with ⟨hv, h0⟩ | ⟨g, cap, cu, hv, _⟩
    · exact ⟨none, 0, by rw [hv, h0]⟩
    · exact ⟨_, _, hv⟩
  have f7 : Fr [N] w6 (w6.setCell ⟨N, 17, none⟩ v2) := fr_setCell w6 ⟨N, 17, none⟩ v2
  have B7 := B6.frame f7 Hnf.out
  have BN7 := BN6.setVi v2
  have f8 : Fr [N] (w6.setCell ⟨N, 17, none⟩ v2) ((w6.setCell ⟨N, 17, none⟩ v2).setCell ⟨N, 20, none⟩ (.int .u64 s.pushed)) := fr_setCell _ ⟨N, 20, none⟩ _
  have BN8 := BN7.setP s.pushed
  have HBN8 := Lib.hid BN8
  have Hcb8 := Lib.hid (f8.same (f7.same hcb6 (by simp)) (by simp))
  obtain ⟨cn, hcn, _, _, _, hn17, _, _, hn20⟩ := BN6.ex
  have m17 := cells_cell hcn hn17
  have m20 := cells_cell hcn hn20
  have y17 : w6.frozen? ⟨N, 17, none⟩ = false := cells_free hcn 17
  have y20 : w6.frozen? ⟨N, 20, none⟩ = false := cells_free hcn 20
  have a6 := cell_of_one B6.ha
  have c20 : w6.cell? ⟨h.bb, 20, none⟩ = some (.int .u64 s.pushed) := by
    obtain ⟨cur, hc, _, _, _, _, _, _, h20⟩ := B6.hb.ex
    exact cells_cell hc h20
  have hne1 : ¬ h.a = N := fun e => Hnf.out h.a (by simp [Hp.foot]) (by simp [e])
  have hne2 : ¬ h.bb = N := fun e => Hnf.out h.bb (by simp [Hp.foot]) (by simp [e])
  have HO2 := Lib.hid ho2
  have Hb6 := Lib.hid hb6
  have HF7 := Lib.hid (f7.trans' f8)
  obtain ⟨va2, vc2, hv2⟩ := hv2
  clear B6 BN6 hcb6 ho2 hb6 f7 B7 BN7 f8 BN8 hcn hn17 hn20 a5 c175
  subst hv2
  go_wp2_with fail
  go_ret
  have hFt : Fr [N] w1 (((w6.setCell ⟨N, 17, none⟩ (.slice va2 s.its.length vc2)).setCell ⟨N, 20, none⟩ (.int .u64 s.pushed)).alloc (.cells #[.pointer (some ⟨N, 0, none⟩)] 54)) :=
    (((HF4.out.trans' HF5.out).trans' (Fr.of_below Hb6.out _)).trans' HF7.out).trans' (fr_alloc _ _ _)
  have hF2 : Fr [N] w6 (((w6.setCell ⟨N, 17, none⟩ (.slice va2 s.its.length vc2)).setCell ⟨N, 20, none⟩ (.int .u64 s.pushed)).alloc (.cells #[.pointer (some ⟨N, 0, none⟩)] 54)) := HF7.out.trans' (fr_alloc _ _ _)
  have hNN := HNN.out
  refine ⟨⟨w6.heap.size, N, N + 1, .slice va1 s.n vc1, .slice va2 s.its.length vc2⟩, rfl, ⟨s, ⟨?_, ?_, ?_, ?_, ?_⟩, HI.out⟩, ?_, ?_⟩
  · exact block_new _ _ _ (by simp)
  · show (World.alloc _ _).heap[N + 1]? = _
    rw [Below.heap_alloc _ _ _ (lt_of_block Hcb8.out)]
    exact Hcb8.out
  · exact HBN8.out.fr (fr_alloc _ _ []) (by simp)
  · exact ⟨xs', ownsRow_mono (hFt.row HO1.out (fun g hg hm => by
      have := (HO1.out.lt g hg).1
      simp at hm; omega)) (Nat.zero_le _), HXS'.out⟩
  · exact ownsRow_mono (hF2.row HO2.out (fun g hg hm => by
      have := (HO2.out.lt g hg).1
      simp at hm; omega)) (Nat.zero_le _)
  · have h1 : Below w.heap.size w w1 := Hb0.out.trans (Hb1.out.mono (by omega))
    exact h1.trans (hFt.below (fun x hx => by simp at hx; omega) h1.size)
  · intro k hk
    simp only [Hp.foot, List.mem_append, List.mem_cons, List.not_mem_nil, or_false, Option.mem_toList, Option.mem_def] at hk
    have hw6 : W5.heap.size ≤ w6.heap.size := Hb6.out.size
    rcases hk with ((h1 | h1 | h1) | h1) | h1
    · omega
    · omega
    · omega
    · have := (HO1.out.lt k h1).1; omega
    · have := (HO2.out.lt k h1).1; omega
end Go.Proofs.YtpbnbddjfebenaaDoor
