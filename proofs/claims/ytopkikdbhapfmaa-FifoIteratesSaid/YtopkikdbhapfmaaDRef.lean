/- The reference: Front, Place. -/
import Derived.Test.YtopkikdbhapfmaaDRow
namespace Go.Proofs.Ytopkikdbhapfmaa
open Go.RowKit Go.Sort Go.MapKept
set_option linter.unusedVariables false
set_option linter.unusedSimpArgs false

/-- A queue of the reference. -/
def rq (v : Value) (g : Nat) : Value := .agg #[v, .int .u64 ((g : Nat) : Int)]
theorem grn_alloc (w : World) (o : Obj) : Grn w (w.alloc o) := (Grn.refl w).alloc o

set_option maxHeartbeats 800000 in
theorem refFront_empty {w : World} {v : Value} {g : Nat} (h : SrcR w v []) : Calls Try.prog 12 #[rq v g] w fun e w' => e = .returned (.tuple #[.int .i64 0, .int .u64 0, .int .i64 9]) ∧ Grn w w' := by
  obtain ⟨a, c, rfl, hc1, hc2⟩ := h.form
  clear h
  unfold rq
  simp only [List.length_nil] at *
  have hg := Lib.hid (grn_alloc w (.cells #[.slice a 0 c, .int .u64 ((g : Nat) : Int)] 29))
  go_enter Try.func12, Try.ntmps12
  go_wp2_with fail
  go_ret3
  exact ⟨rfl, hg.out⟩
set_option maxHeartbeats 1600000 in
theorem refFront_yes {w : World} {v : Value} {g t : Nat} {x : Int} {L : Qu} (h : SrcR w v ((t, x) :: L)) (hn : L.length ≤ 1000000) : Calls Try.prog 12 #[rq v g] w fun e w' => e = .returned (.tuple #[.int .i64 x, .int .u64 ((t : Nat) : Int), .int .i64 0]) ∧ Grn w w' := by
  rcases h with ⟨_, h0⟩ | ⟨b, off, c, rfl, h2, h3, h4, h5⟩
  · cases h0
  · obtain ⟨k0, k1⟩ := h5 0 _ rfl
    rw [Nat.zero_mul, Nat.add_zero] at k0 k1
    obtain ⟨N, hN⟩ : ∃ N, N = ((t, x) :: L).length := ⟨_, rfl⟩
    rw [← hN] at h2 ⊢
    have hN1 : (1 : Int) ≤ (N : Int) := by simp at hN; omega
    have hN2 : (N : Int) ≤ 1000001 := by simp at hN; omega
    have hN3 : ((N : Int) == 0) = false := by simp; omega
    have hN4 : (0 : Int) < (N : Int) := by omega
    have hbs : b < (w.alloc (.cells #[.slice (some ⟨b, off, none⟩) N c, .int .u64 ((g : Nat) : Int)] 29)).heap.size := by simp; omega
    have hb := below_alloc w (.cells #[.slice (some ⟨b, off, none⟩) N c, .int .u64 ((g : Nat) : Int)] 29)
    have k0 := (hb.cell (p := ⟨b, off, none⟩) h4).trans k0
    have k1 := (hb.cell (p := ⟨b, off + 1, none⟩) h4).trans k1
    have kc0 : (w.alloc (.cells #[.slice (some ⟨b, off, none⟩) N c, .int .u64 ((g : Nat) : Int)] 29)).cell? ⟨w.heap.size, 0, none⟩ = _ := cell_new _ _ _ _ _ _ rfl rfl
    have hg := Lib.hid (grn_alloc w (.cells #[.slice (some ⟨b, off, none⟩) N c, .int .u64 ((g : Nat) : Int)] 29))
    have hsz : w.heap.size < (w.alloc (.cells #[.slice (some ⟨b, off, none⟩) N c, .int .u64 ((g : Nat) : Int)] 29)).heap.size := by simp
    clear hN h5 hb
    unfold rq
    go_enter Try.func12, Try.ntmps12
    obtain ⟨W, hW⟩ : ∃ W, w.alloc (.cells #[.slice (some ⟨b, off, none⟩) N c, .int .u64 ((g : Nat) : Int)] 29) = W := ⟨_, rfl⟩
    rw [hW] at hbs k0 k1 kc0 hg hsz
    go_wp2_with fail
    clear hW
    generalize w.heap.size = B at *
    go_quiet (fail)
    go_wp2
    go_ret3
    exact ⟨rfl, hg.out.drew _⟩

/-- The ticket at place k. -/
def tkt (L : Qu) (k : Nat) : Nat := (L.getD k (0, 0)).1
theorem SrcR.tick {w : World} {a : Option Addr} {n c : Nat} {L : Qu} (h : SrcR w (.slice a n c) L) (k : Nat) (hk : k < L.length) : ∃ b off, a = some ⟨b, off, none⟩ ∧ b < w.heap.size ∧ w.cell? ⟨b, off + k * 2, none⟩ = some (.int .i64 (L.getD k (0, 0)).2) ∧ w.cell? ⟨b, off + k * 2 + 1, none⟩ = some (.int .u64 ((tkt L k : Nat) : Int)) := by
  rcases h with ⟨_, rfl⟩ | ⟨b, off, c', he, h2, h3, h4, h5⟩
  · simp at hk
  · simp only [Value.slice.injEq] at he
    have := h5 k (L.getD k (0, 0)) (by simp [List.getD, hk])
    exact ⟨b, off, he.1, h4, this.1, this.2⟩

theorem inc_pairwise {p : Nat} {L : Qu} (h : Inc p L) : L.Pairwise fun a b => a.1 < b.1 := by
  induction L generalizing p with
  | nil => exact List.Pairwise.nil
  | cons x r ih =>
    obtain ⟨t, v⟩ := x
    exact List.Pairwise.cons (fun y hy => (h.2.mem hy).1) (ih h.2)

set_option maxHeartbeats 1600000 in
theorem refPlace_any {w : World} {v : Value} {g t : Nat} {L : Qu} (h : SrcR w v L) (hl : L.length ≤ 1000000) (n : Nat) (hn : n ≤ L.length) (h1 : ∀ j, j < n → tkt L j ≠ t) (r1 r2 : Int) (h2 : (n < L.length ∧ tkt L n = t ∧ r1 = ((n : Nat) : Int) ∧ r2 = 0) ∨ (n = L.length ∧ r1 = 0 ∧ r2 = 9)) :
    Calls Try.prog 27 #[rq v g, .int .u64 ((t : Nat) : Int)] w fun e w' => e = .returned (.tuple #[.int .i64 r1, .int .i64 r2]) ∧ Grn w w' := by
  obtain ⟨a, c, rfl, hc1, hc2⟩ := h.form
  obtain ⟨N, hN⟩ : ∃ N, N = L.length := ⟨_, rfl⟩
  have HH := Lib.hid h
  have HN := Lib.hid hN
  have H1 := Lib.hid h1
  have H2 := Lib.hid h2
  rw [← hN] at hl hn H2 hc1 HH ⊢
  clear h hN h1 h2
  obtain ⟨W, hW⟩ : ∃ W, w.alloc (.cells #[.slice a N c, .int .u64 ((g : Nat) : Int)] 29) = W := ⟨_, rfl⟩
  have HW := Lib.hid hW
  have hg : Hid (Grn w W) := Lib.hid (by rw [← hW]; exact grn_alloc _ _)
  have kc0 : W.cell? ⟨w.heap.size, 0, none⟩ = some (.slice a N c) := by rw [← hW]; exact cell_new _ _ _ _ _ _ rfl rfl
  have hsz : w.heap.size < W.heap.size := by rw [← hW]; simp
  clear hW
  unfold rq
  go_enter Try.func27, Try.ntmps27
  go_wp2_with fail
  rw [HW.out]
  generalize hB : w.heap.size = B at *
  have HB := Lib.hid hB
  clear hB
  go_loopw [6] (fun i wr => ∃ k : Nat, k ≤ n ∧ i = .int .i64 ((k : Nat) : Int) ∧ wr = W) (fun i _ => n - (intOf i).toNat)
  case atStart => exact ⟨0, by omega, rfl, rfl⟩
  case round =>
    obtain ⟨k, hk, rfl, rfl⟩ := hrel
    by_cases hkN : k < N
    · obtain ⟨b, off, rfl, hbl, _, k1⟩ := HH.out.tick k (by rw [← HN.out]; exact hkN)
      have k1 := (hg.out.below.cell (p := ⟨b, off + k * 2 + 1, none⟩) hbl).trans k1
      have hbl2 : b < wr.heap.size := by have := HB.out; omega
      have g1 : (k : Int) < (N : Int) := by omega
      have g2 : (0 : Int) ≤ (k : Int) := by omega
      have g3 : (N : Int) ≤ 1000000 := by omega
      by_cases hkn : k < n
      · have hne := H1.out k hkn
        have g4 : (((tkt L k : Nat) : Int) == ((t : Nat) : Int)) = false := by simp; omega
        generalize tkt L k = T at *
        clear hne
        go_wp2_with fail
        go_roundw
        case rel => exact ⟨k + 1, by omega, by go_num, trivial⟩
        case measure => simp [intOf]; omega
      · obtain rfl : k = n := by omega
        obtain ⟨hT, rfl, rfl⟩ : tkt L k = t ∧ r1 = ((k : Nat) : Int) ∧ r2 = 0 := by
          rcases H2.out with ⟨_, h2, h3, h4⟩ | ⟨h2, _⟩
          · exact ⟨h2, h3, h4⟩
          · omega
        rw [hT] at k1
        clear hT
        have g4 : (((t : Nat) : Int) == ((t : Nat) : Int)) = true := by simp
        go_wp2_with fail
        go_ret2
        exact ⟨rfl, hg.out⟩
    · obtain rfl : k = n := by omega
      obtain rfl : k = N := by omega
      obtain ⟨rfl, rfl⟩ : r1 = 0 ∧ r2 = 9 := by
        rcases H2.out with ⟨h2, _⟩ | ⟨_, h3, h4⟩
        · omega
        · exact ⟨h3, h4⟩
      go_wp2_with fail
      go_ret2
      exact ⟨rfl, hg.out⟩

theorem refPlace_yes {w : World} {v : Value} {g n : Nat} {L : Qu} (h : SrcR w v L) (hl : L.length ≤ 1000000) (hi : Inc 0 L) (hn : n < L.length) :
    Calls Try.prog 27 #[rq v g, .int .u64 ((tkt L n : Nat) : Int)] w fun e w' => e = .returned (.tuple #[.int .i64 ((n : Nat) : Int), .int .i64 0]) ∧ Grn w w' := by
  refine refPlace_any (g := g) (t := tkt L n) h hl n (by omega) (fun j hj he => ?_) _ _ (.inl ⟨hn, rfl, rfl, rfl⟩)
  · have hp := (List.pairwise_iff_getElem.1 (inc_pairwise hi)) j n (by omega) hn hj
    have e1 : tkt L j = (L[j]'(by omega)).1 := by simp [tkt, List.getD, show j < L.length by omega]
    have e2 : tkt L n = L[n].1 := by simp [tkt, List.getD, hn]
    omega
theorem refPlace_no {w : World} {v : Value} {g t : Nat} {L : Qu} (h : SrcR w v L) (hl : L.length ≤ 1000000) (hn : t ∉ L.map Prod.fst) :
    Calls Try.prog 27 #[rq v g, .int .u64 ((t : Nat) : Int)] w fun e w' => e = .returned (.tuple #[.int .i64 0, .int .i64 9]) ∧ Grn w w' := by
  refine refPlace_any (g := g) (t := t) h hl L.length (Nat.le_refl _) (fun j hj he => hn ?_) _ _ (.inr ⟨rfl, rfl, rfl⟩)
  · refine List.mem_map.2 ⟨L[j], List.getElem_mem hj, ?_⟩
    rw [← he]
    simp [tkt, List.getD, hj]
end Go.Proofs.Ytopkikdbhapfmaa
