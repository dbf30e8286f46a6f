/- Place. -/
import Derived.Test.YtopkikdbhapfmaaDPush
import Derived.LoopTactic
import Derived.Deep.LoopGhost
namespace Go.Proofs.Ytopkikdbhapfmaa
open Go.RowKit Go.Sort Go.MapKept
set_option linter.unusedVariables false
set_option linter.unusedSimpArgs false

theorem fiPlace_nil {w : World} {v : Value} (h : NoQ w v) (t : Int) : Calls Try.prog 21 #[v, .int .u64 t] w fun e w' => e = .returned (.tuple #[.int .i64 0, .int .i64 1]) ∧ Grn w w' := by
  have hu := Lib.hid (fiFind_nil h t)
  obtain ⟨a, rfl⟩ := h.form
  clear h
  go_enter Try.func21, Try.ntmps21
  go_wp2_with (go_at_call 32; refine hu.out.mono ?_; rintro e w2 ⟨rfl, hg⟩)
  go_ret2
  exact ⟨rfl, hg.alloc _⟩
theorem fiPlace_no {w : World} {q b m g : Nat} {L : Qu} (h : QAt w q b m L g) (t : Nat) (hx : lks 0 0 L t = none) : Calls Try.prog 21 #[.pointer (some ⟨q, 0, none⟩), .int .u64 ((t : Nat) : Int)] w fun e w' => e = .returned (.tuple #[.int .i64 0, .int .i64 9]) ∧ Grn w w' := by
  have hu := Lib.hid (fiFind_no h t hx)
  clear h
  go_enter Try.func21, Try.ntmps21
  go_wp2_with (go_at_call 32; refine hu.out.mono ?_; rintro e w2 ⟨rfl, hg⟩)
  go_ret2
  exact ⟨rfl, hg.alloc _⟩

/-- The link at a place. -/
def lkAt (L : Qu) (j : Nat) : Lk := ⟨(L.getD j (0, 0)).2, lst 0 (L.take j), hdd 0 (L.drop (j + 1))⟩
theorem qu_split {L : Qu} {j : Nat} (hj : j < L.length) : L = L.take j ++ ((L.getD j (0, 0)).1, (L.getD j (0, 0)).2) :: L.drop (j + 1) := by
  have : L.getD j (0, 0) = L[j] := by simp [List.getD, hj]
  rw [this]
  conv => lhs; rw [← List.take_append_drop j L, List.drop_eq_getElem_cons hj]
theorem lks_get {L : Qu} (h : Inc 0 L) {j : Nat} (hj : j < L.length) : lks 0 0 L (L.getD j (0, 0)).1 = some (lkAt L j) := by
  have h1 := qu_split hj
  have h' := h
  rw [h1] at h'
  have := lks_at h'
  rw [← h1] at this
  exact this
theorem lst_take {L : Qu} {j : Nat} (hj : j < L.length) : lst 0 (L.take (j + 1)) = (L.getD j (0, 0)).1 := by
  rw [List.take_succ_eq_append_getElem hj, lst_append]
  simp [List.getD, hj, lst]
theorem lst_pos {L : Qu} (h : Inc 0 L) {j : Nat} (hj : j < L.length) : 0 < (L.getD j (0, 0)).1 := by
  have h1 : L.getD j (0, 0) = L[j] := by simp [List.getD, hj]
  rw [h1]
  exact (h.mem (List.getElem_mem hj)).1

set_option maxHeartbeats 3200000 in
theorem fiPlace_yes {w : World} {q b m g : Nat} {L : Qu} (h : QAt w q b m L g) (hg : g ≤ 1000000000) {n : Nat} (hn : n < L.length) : Calls Try.prog 21 #[.pointer (some ⟨q, 0, none⟩), .int .u64 (((L.getD n (0, 0)).1 : Nat) : Int)] w fun e w' => e = .returned (.tuple #[.int .i64 ((n : Nat) : Int), .int .i64 0]) ∧ Grn w w' := by
  have hu := Lib.hid (fiFind_yes h _ (lks_get h.inc hn))
  have hnI : ((n : Nat) : Int) ≤ 1000000000 := by have := h.inc.len; have := h.le; omega
  have HH := Lib.hid h
  have HN := Lib.hid hn
  generalize (L.getD n (0, 0)).1 = t at *
  clear h hn hg
  go_enter Try.func21, Try.ntmps21
  go_wp2_with (go_at_call 32; fail)
  refine hu.out.mono ?_
  rintro e w2 ⟨rfl, hg2⟩
  obtain ⟨W, hW, hNL⟩ := newLk w2 (lkAt L n).v (lkAt L n).b (lkAt L n).a
  have HW := Lib.hid hW
  have HG2 := Lib.hid (hg2.trans (show Grn w2 W by rw [← hW]; exact (Grn.refl _).alloc _))
  obtain ⟨z, hz⟩ : ∃ z, z = w2.heap.size := ⟨_, rfl⟩
  have hc := hNL.c
  rw [← hz] at hc
  have HC := Lib.hid hc
  have HZ : Hid (w.heap.size ≤ z) := Lib.hid (by rw [hz]; exact hg2.below.size)
  have HZ2 := Lib.hid hz
  clear hW hNL hg2 hu hz hc
  go_wp2_with fail
  rw [HW.out, ← HZ2.out]
  go_loopw [8] (fun i wr => ∃ j : Nat, j ≤ n ∧ i = .int .i64 (((n - j : Nat) : Nat) : Int) ∧ Hid (wr.heap[z]? = some (.cells #[.int .i64 (lkAt L j).v, .int .u64 (((lkAt L j).b : Nat) : Int), .int .u64 (((lkAt L j).a : Nat) : Int)] 75 (0, 0))) ∧ Hid (Grn w wr)) (fun i _ => n - (intOf i).toNat)
  case atStart => exact ⟨n, Nat.le_refl _, by simp, HC, HG2⟩
  case round =>
    obtain ⟨j, hj, rfl, hc, hgr⟩ := hrel
    have k1 := cells_cell (o := 1) hc.out rfl
    have k0 := cells_cell (o := 0) hc.out rfl
    have k2 := cells_cell (o := 2) hc.out rfl
    have hzl := lt_of_block hc.out
    have h2 := HH.out.grown hgr.out.below
    by_cases h0 : j = 0
    · subst h0
      have e0 : (lkAt L 0).b = 0 := rfl
      rw [e0] at k1
      clear h2 e0 hc
      go_wp2_with fail
      go_ret2
      exact ⟨rfl, hgr.out⟩
    · obtain ⟨i, rfl⟩ : ∃ i, j = i + 1 := ⟨j - 1, by omega⟩
      have hiL : i < L.length := by have := HN.out; omega
      have hl := h2.m.look_yes (lks_get HH.out.inc hiL) false
      have eT : (lkAt L (i + 1)).b = (L.getD i (0, 0)).1 := lst_take hiL
      have hT := lst_pos HH.out.inc hiL
      rw [eT] at k1
      simp only [Bool.false_eq_true, if_false] at hl
      unfold encT Lk.enc at hl
      have l1 := LinkMap.look_yes (w := wr.drew) (h2.m.same rfl) (lks_get HH.out.inc hiL) false
      simp only [Bool.false_eq_true, if_false] at l1
      unfold encT Lk.enc at l1
      generalize (L.getD i (0, 0)).1 = T at *
      have hTd : (((T : Nat) : Int) == 0) = false := by simp; omega
      have hTI : (0 : Int) < ((T : Nat) : Int) := by omega
      have c := h2.cq
      have c2 := h2.body.c2
      have hjI : ((n - (i + 1) : Nat) : Int) ≤ 1000000000 := by omega
      have hjI0 : (0 : Int) ≤ ((n - (i + 1) : Nat) : Int) := by omega
      have HJ : Hid (((n - (i + 1) : Nat) : Int) + 1 = ((n - i : Nat) : Int)) := Lib.hid (by omega)
      have HJL : Hid (i + 1 ≤ n) := Lib.hid hj
      have HC2 := Lib.hid hc.out
      clear h2 eT hc hT hj
      generalize ((n - (i + 1) : Nat) : Int) = P at *
      go_wp2_with fail
      go_still_tail 10, (by kernel_rfl)
      change wpList _ _ _ _ _ (wr.drewN 1)
      have z0 : wr.frozen? ⟨z, 0, none⟩ = false := cells_free HC2.out 0
      have z1 : wr.frozen? ⟨z, 1, none⟩ = false := cells_free HC2.out 1
      have z2 : wr.frozen? ⟨z, 2, none⟩ = false := cells_free HC2.out 2
      go_wp2_with fail
      have hs0 := cells_set (cells_set (cells_set (w := wr.drewN 1) HC2.out 0 (.int .i64 (lkAt L i).v)) 1 (.int .u64 (((lkAt L i).b : Nat) : Int))) 2 (.int .u64 (((lkAt L i).a : Nat) : Int))
      have hz0 := HZ.out
      have hgs := ((((hgr.out.drew 1).set ⟨z, 0, none⟩ (.int .i64 (lkAt L i).v) hz0).set ⟨z, 1, none⟩ (.int .u64 (((lkAt L i).b : Nat) : Int)) hz0).set ⟨z, 2, none⟩ (.int .u64 (((lkAt L i).a : Nat) : Int)) hz0)
      have hjj := HJ.out
      have hjl := HJL.out
      go_roundw
      case rel => exact ⟨i, by omega, by rw [hjj], Lib.hid hs0, Lib.hid hgs⟩
      case measure => simp [intOf]; omega
end Go.Proofs.Ytopkikdbhapfmaa
