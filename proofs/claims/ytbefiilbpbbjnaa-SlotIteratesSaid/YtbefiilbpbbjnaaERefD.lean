/- The reference: Open, Files. -/
import Derived.Test.YtbefiilbpbbjnaaERefC
namespace Go.Proofs.Ytbefiilbpbbjnaa
open Go.RowKit Go.Sort
set_option linter.unusedVariables false
set_option linter.unusedSimpArgs false

theorem cnt_take {L : Fds} {q : Nat} {f : Fd} (h : L[q]? = some f) (n : Nat) : cnt n (L.take (q + 1)) = cnt n (L.take q) + (if f.n = n then 1 else 0) := by
  obtain ⟨hl, hf⟩ := List.getElem?_eq_some_iff.1 h
  rw [List.take_succ_eq_append_getElem hl, cnt_append, hf, cnt_cons]
  rfl
/-- What At says of each number, in the table of P. -/
theorem ref_at {w : World} {v : Value} {m k : Nat} {P : Tab} {L : Fds} {p : Pl} (h : Src TF w v L) (hl : L.length ≤ 1000) (hR : Rel P L) (hp : P[k]? = some p) :
    Calls Try.prog 31 #[rt m v, .int .i64 ((k : Nat) : Int)] w fun e w' => (∃ r : Int, e = .returned (.int .i64 r) ∧ ((p.o = false ∧ r = -1) ∨ (p.o = true ∧ ∃ i : Nat, r = ((i : Nat) : Int) ∧ L[i]? = some ⟨k, p.g, p.v, false⟩))) ∧ Grn w w' := by
  rcases ho : p.o with _ | _
  · refine (refAt_no h hl (fun f hf e => hR.no k p hp ho f hf (by omega))).mono ?_
    rintro e w' ⟨rfl, hg⟩
    exact ⟨⟨_, rfl, .inl ⟨rfl, rfl⟩⟩, hg⟩
  · obtain ⟨A, B, hL, hA, hB⟩ := hR.op k p hp ho
    rw [hL] at h hl
    refine (refAt_yes h hl hA rfl rfl).mono ?_
    rintro e w' ⟨rfl, hg⟩
    exact ⟨⟨_, rfl, .inr ⟨rfl, A.length, rfl, by rw [hL]; exact mid_at A B _⟩⟩, hg⟩

set_option maxRecDepth 100000 in
set_option maxHeartbeats 6400000 in
theorem refFiles_any {w : World} {v : Value} {m : Nat} {P : Tab} {L : Fds} (h : Src TF w v L) (hl : L.length ≤ 1000) (hR : Rel P L) (hm : P.length = m) (hm2 : m ≤ 128) :
    Calls Try.prog 13 #[rt m v] w fun e w' => ∃ v', e = .returned v' ∧ Row TF w' w.heap.size v' (ents 0 P) ∧ Below w.heap.size w w' := by
  obtain ⟨a, c, rfl, _, _⟩ := h.form
  obtain ⟨N, hN⟩ : ∃ N, N = L.length := ⟨_, rfl⟩
  have HN := Lib.hid hN
  rw [← hN] at h hl ⊢
  have HH := Lib.hid h
  have HR := Lib.hid hR
  have HM := Lib.hid hm
  obtain ⟨W, hW⟩ : ∃ W, w.alloc (.cells #[.int .i64 ((m : Nat) : Int), .slice a N c] 30) = W := ⟨_, rfl⟩
  have hgW : Grn w W := by rw [← hW]; exact (Grn.refl w).alloc _
  have HB0 : Hid (W.heap[w.heap.size]? = some (.cells #[.int .i64 ((m : Nat) : Int), .slice a N c] 30 (0, 0))) := Lib.hid (by rw [← hW]; exact block_new _ _ _ rfl)
  have HW := Lib.hid hW
  have HG := Lib.hid hgW
  have hws : w.heap.size + 1 ≤ W.heap.size := by rw [← hW]; simp
  have HWS := Lib.hid hws
  have b0 := cells_cell (o := 0) HB0.out rfl
  have hbl := lt_of_block HB0.out
  have q1 : (m : Int) ≤ 128 := by omega
  have q2 : (N : Int) ≤ 1000 := by omega
  clear h hN hR hm hW hgW hws
  unfold rt at *
  go_enter Try.func13, Try.ntmps13
  go_wp2_with fail
  rw [HW.out]
  clear HW
  go_loopw [3, 4] (fun s i wr => ∃ k : Nat, k ≤ m ∧ i = .int .i64 ((k : Nat) : Int) ∧ Hid (Row TF wr W.heap.size s (ents 0 (P.take k)) ∧ Below W.heap.size W wr)) (fun _ i _ => m - (intOf i).toNat)
  case atStart => exact ⟨0, Nat.zero_le _, rfl, Lib.hid ⟨Row.nil _ _, Below.refl _ _⟩⟩
  case round =>
    obtain ⟨k, hk, rfl, HJ⟩ := hrel
    obtain ⟨sa, sc, rfl, _, _⟩ := HJ.out.1.form
    have k1 := (HJ.out.2.block _ (lt_of_block HB0.out)).trans HB0.out
    have e0 := cells_cell (o := 0) k1 rfl
    have e1 : wr.cell? ⟨w.heap.size, 1, none⟩ = some (.slice a N c) := cells_cell k1 rfl
    have e2 := lt_of_block k1
    have g2 : (0 : Int) ≤ (k : Int) := by omega
    clear b0 hbl k1
    by_cases hkm : k < m
    · have g1 : (k : Int) < (m : Int) := by omega
      obtain ⟨p, hp⟩ : ∃ p, P[k]? = some p := ⟨_, List.getElem?_eq_getElem (by rw [HM.out]; exact hkm)⟩
      have HTK := Lib.hid (ents_take hp)
      have hsrc : Src TF wr (.slice a N c) L := (HH.out.grown HG.out.below).grown HJ.out.2
      have HAT := Lib.hid (ref_at (m := m) hsrc (by rw [← HN.out]; exact hl) HR.out hp)
      unfold rt at HAT
      obtain ⟨E, hE⟩ : ∃ E, E = (ents 0 (P.take k)).length := ⟨_, rfl⟩
      have hE2 : E ≤ 128 := by have := ents_le 0 (P.take k); rw [List.length_take] at this; omega
      rw [← hE] at HJ ⊢
      have HE := Lib.hid hE
      clear hsrc hp hE
      go_wp2_with (go_at_call 31; fail)
      refine HAT.out.mono ?_
      rintro e w2 ⟨⟨r, rfl, hr⟩, hg2⟩
      have k1 := (hg2.below.block _ (by exact e2)).trans ((HJ.out.2.block _ (lt_of_block HB0.out)).trans HB0.out)
      have e1 : w2.cell? ⟨w.heap.size, 1, none⟩ = some (.slice a N c) := cells_cell k1 rfl
      have e2 := lt_of_block k1
      have HJ2 : Hid (Row TF w2 W.heap.size (.slice sa E sc) (ents 0 (P.take k)) ∧ Below W.heap.size W w2) := Lib.hid ⟨HJ.out.1.below hg2.below, HJ.out.2.trans (hg2.below.mono HJ.out.2.size)⟩
      have e0 := cells_cell (o := 0) k1 rfl
      clear hg2 HJ HAT k1
      rcases hr with ⟨hpo, rfl⟩ | ⟨hpo, i, rfl, hi⟩
      · have HX : Hid (ents 0 (P.take (k + 1)) = ents 0 (P.take k)) := Lib.hid (by rw [HTK.out, hpo]; simp)
        clear hpo HTK
        go_wp2_with fail
        go_roundw
        case rel => exact ⟨k + 1, by omega, by go_num, by rw [HX.out]; exact HJ2⟩
        case measure => simp [intOf]; omega
      · have HX : Hid (ents 0 (P.take (k + 1)) = ents 0 (P.take k) ++ [⟨k, p.g, p.v, false⟩]) := Lib.hid (by rw [HTK.out, hpo]; simp)
        have hiN : i < N := by rw [HN.out]; exact (List.getElem?_eq_some_iff.1 hi).1
        have hsrc : Src TF w2 (.slice a N c) L := (HH.out.grown HG.out.below).grown HJ2.out.2
        obtain ⟨gs, offs, cs, hvs, hgls, hcs⟩ := hsrc.at hi
        rw [← HN.out] at hvs
        simp only [Value.slice.injEq] at hvs
        obtain ⟨rfl, -, -⟩ := hvs
        have s0 : w2.cell? ⟨gs, offs + i * 4, none⟩ = some (.int .i64 ((k : Nat) : Int)) := hcs 0 _ rfl
        have s1 : w2.cell? ⟨gs, offs + i * 4 + 1, none⟩ = some (.int .i64 ((p.g : Nat) : Int)) := hcs 1 _ rfl
        have s2 : w2.cell? ⟨gs, offs + i * 4 + 2, none⟩ = some (.int .i64 p.v) := hcs 2 _ rfl
        have s3 : w2.cell? ⟨gs, offs + i * 4 + 3, none⟩ = some (.bool false) := hcs 3 _ rfl
        have g3 : (0 : Int) ≤ (i : Int) := by omega
        have g4 : (i : Int) < (N : Int) := by omega
        clear hcs hsrc hi hpo HTK
        have HSR := Lib.hid (src_new TF_ok w2 (⟨k, p.g, p.v, false⟩ : Fd) #[.int .i64 ((k : Nat) : Int), .int .i64 ((p.g : Nat) : Int), .int .i64 p.v, .bool false] rfl)
        have HR2 := Lib.hid (HJ2.out.1.below (below_alloc w2 (.cells #[.int .i64 ((k : Nat) : Int), .int .i64 ((p.g : Nat) : Int), .int .i64 p.v, .bool false] 47)))
        have HB2 := Lib.hid (HJ2.out.2.trans ((below_alloc w2 (.cells #[.int .i64 ((k : Nat) : Int), .int .i64 ((p.g : Nat) : Int), .int .i64 p.v, .bool false] 47)).mono HJ2.out.2.size))
        have HLN : Hid ((ents 0 (P.take k)).length + ([⟨k, p.g, p.v, false⟩] : Fds).length ≤ 1000000) := Lib.hid (by rw [← HE.out]; simp; omega)
        generalize p.g = pg at *
        generalize p.v = pv at *
        go_wp2_with (at_builtin; refine wpList_append_g TF_ok rfl (.tmp 17) (.tmp 23) rfl rfl rfl HR2.out HB2.out.size HSR.out HLN.out (fun v' w4 hr hf _ => ?_))
        have hf' : Fr (Value.slice sa E sc).ownBlock.toList (w2.alloc (.cells #[.int .i64 ((k : Nat) : Int), .int .i64 ((pg : Nat) : Int), .int .i64 pv, .bool false] 47)) w4 := hf
        have HFIN : Hid (Row TF w4 W.heap.size v' (ents 0 (P.take (k + 1))) ∧ Below W.heap.size W w4) := Lib.hid ⟨by rw [HX.out]; exact hr, HB2.out.trans (hf'.below (fun q hq => (HR2.out.lt q (by simpa using hq)).1) HB2.out.size)⟩
        clear hr hf hf' s0 s1 s2 s3 HSR HR2 HB2 HJ2
        go_wp2_with fail
        go_roundw
        case rel => exact ⟨k + 1, by omega, by go_num, HFIN⟩
        case measure => simp [intOf]; omega
    · obtain rfl : k = m := by omega
      go_wp2_with fail
      go_ret
      refine ⟨_, rfl, ?_, HG.out.below.trans (HJ.out.2.mono HG.out.below.size)⟩
      have h0 := HJ.out.1
      have e : P.take k = P := by rw [← HM.out, List.take_length]
      rw [e] at h0 ⊢
      exact h0.lower (by have := HWS.out; omega)
end Go.Proofs.Ytbefiilbpbbjnaa
