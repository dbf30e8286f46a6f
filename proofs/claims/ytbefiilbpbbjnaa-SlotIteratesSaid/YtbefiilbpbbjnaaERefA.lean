/- The reference: New, Copy, At, Find, Get, Name. -/
import Derived.Test.YtbefiilbpbbjnaaEHold
namespace Go.Proofs.Ytbefiilbpbbjnaa
open Go.RowKit Go.Sort
set_option linter.unusedVariables false
set_option linter.unusedSimpArgs false

def TF : GT Fd := ⟨28, 47, 4, encF⟩
theorem infoFile : (Try.prog.info? 47).map (fun i => (i.zero, i.size, i.bytes)) = some (some (.agg #[.int .i64 0, .int .i64 0, .int .i64 0, .bool false]), 4, 32) := by kernel_rfl
theorem TF_ok : TF.Ok := by
  obtain ⟨i, h1, h2, h3, h4⟩ := info_parts infoFile
  exact ⟨encF_len, encF_one, by decide, Try.underlying28, ⟨i, _, h1, h2, h3, by simp only [h4]; omega, rfl⟩⟩
theorem Src.files {w : World} {v : Value} {L : Fds} (h : Src TF w v L) : SrcF w v L := h
/-- A table of the reference. -/
def rt (m : Nat) (v : Value) : Value := .agg #[.int .i64 ((m : Nat) : Int), v]

set_option maxHeartbeats 800000 in
theorem refNew_bad (w : World) (c : Int) (h : c < 1 ∨ 128 < c) : Calls Try.prog 10 #[.int .i64 c] w fun e w' => e = .returned (.tuple #[rt 0 (.slice none 0 0), .int .i64 2]) ∧ Grn w w' := by
  unfold rt
  by_cases h1 : c < 1
  · go_enter Try.func10, Try.ntmps10
    go_wp2_with fail
    refine bodyPost_ret (v := .tuple #[.agg #[.int .i64 0, .slice none 0 0], .int .i64 2]) (by simp [results, Try.results10, go_sem]) rfl ⟨rfl, ?_⟩
    exact (Grn.refl w).alloc _
  · have h2 : 128 < c := by omega
    have h3 : decide (c < 1) = false := by simp; omega
    go_enter Try.func10, Try.ntmps10
    go_wp2_with fail
    refine bodyPost_ret (v := .tuple #[.agg #[.int .i64 0, .slice none 0 0], .int .i64 2]) (by simp [results, Try.results10, go_sem]) rfl ⟨rfl, ?_⟩
    exact (Grn.refl w).alloc _
set_option maxHeartbeats 800000 in
theorem refNew_ok (w : World) (c : Nat) (h1 : 1 ≤ c) (h2 : c ≤ 128) : Calls Try.prog 10 #[.int .i64 ((c : Nat) : Int)] w fun e w' => e = .returned (.tuple #[rt c (.slice none 0 0), .int .i64 0]) ∧ Grn w w' := by
  unfold rt
  have e1 : (1 : Int) ≤ (c : Int) := by omega
  have e2 : (c : Int) ≤ 128 := by omega
  have e3 : decide ((c : Int) < 1) = false := by simp; omega
  have e4 : decide ((128 : Int) < (c : Int)) = false := by simp; omega
  go_enter Try.func10, Try.ntmps10
  go_wp2_with fail
  refine bodyPost_ret (v := .tuple #[.agg #[.int .i64 ((c : Nat) : Int), .slice none 0 0], .int .i64 0]) (by simp [results, Try.results10, go_sem]) rfl ⟨rfl, ?_⟩
  exact (Grn.refl w).alloc _

set_option maxRecDepth 100000 in
set_option maxHeartbeats 3200000 in
theorem refCopy_any {w : World} {v : Value} {m : Nat} {L : Fds} (h : Src TF w v L) (hl : L.length ≤ 1000) :
    Calls Try.prog 40 #[rt m v] w fun e w' => ∃ v', e = .returned (rt m v') ∧ Row TF w' w.heap.size v' L ∧ Below w.heap.size w w' := by
  obtain ⟨a, c, rfl, _, _⟩ := h.form
  obtain ⟨N, hN⟩ : ∃ N, N = L.length := ⟨_, rfl⟩
  rw [← hN] at h hl ⊢
  have HL : Hid (([] : Fds).length + L.length ≤ 1000000) := Lib.hid (by simp; omega)
  have HH := Lib.hid h
  clear h hN
  unfold rt
  obtain ⟨W, hW⟩ : ∃ W, (w.alloc (.cells #[.int .i64 ((m : Nat) : Int), .slice a N c] 30)).alloc (.cells #[.int .i64 0, .slice none 0 0] 30) = W := ⟨_, rfl⟩
  have hgW : Grn w W := by rw [← hW]; exact ((Grn.refl w).alloc _).alloc _
  have HWS : Hid (W.heap.size = w.heap.size + 2) := Lib.hid (by rw [← hW]; simp)
  have HB0 : Hid (W.heap[w.heap.size]? = some (.cells #[.int .i64 ((m : Nat) : Int), .slice a N c] 30 (0, 0))) := Lib.hid (by rw [← hW]; exact ((below_alloc _ _).block _ (by simp)).trans (block_new _ _ _ rfl))
  have HB1 : Hid (W.heap[w.heap.size + 1]? = some (.cells #[.int .i64 0, .slice none 0 0] 30 (0, 0))) := Lib.hid (by rw [← hW]; exact block_new _ _ _ (by simp))
  have HW := Lib.hid hW
  have HG := Lib.hid hgW
  clear hW hgW
  go_enter Try.func40, Try.ntmps40
  go_wp2_with fail
  rw [HW.out]
  clear HW
  have hsW : w.heap.size + 2 ≤ W.heap.size := by have := HWS.out; omega
  have hld : ∀ W', Below W.heap.size W W' → W'.cell? ⟨w.heap.size, 0, none⟩ = some (.int .i64 ((m : Nat) : Int)) ∧ W'.cell? ⟨w.heap.size, 1, none⟩ = some (.slice a N c) ∧ w.heap.size < W'.heap.size := fun W' hb => by
    have k := (hb.block _ (lt_of_block HB0.out)).trans HB0.out
    exact ⟨cells_cell k rfl, cells_cell k rfl, lt_of_block k⟩
  have HS : Hid (Below W.heap.size W W.drew) := Lib.hid (Below.refl _ _).drew
  refine wp_region_mix (fun W' => Below W.heap.size W W') 6 [(true, 0), (true, 1), (true, 2), (true, 3), (false, 4), (false, 5)] (by kernel_rfl) (by kernel_rfl) (fun _ _ _ d _ h => by cases d <;> exact h) ?_
  simp only [List.map_cons, List.map_nil, List.getD_cons_zero, List.getD_cons_succ, List.drop_succ_cons, List.drop_zero]
  refine mix_take (.pointer (some ⟨w.heap.size, 0, none⟩)) HS.out rfl (fun W' hS => by go_simp) ?_
  simp only [Act.put, List.setIfInBounds_toArray, List.set_cons_zero, List.set_cons_succ]
  refine mix_take (.int .i64 ((m : Nat) : Int)) HS.out rfl (fun W' hS => by obtain ⟨h0, h1, h2⟩ := hld W' hS; go_simp) ?_
  simp only [Act.put, List.setIfInBounds_toArray, List.set_cons_zero, List.set_cons_succ]
  refine mix_take (.pointer (some ⟨w.heap.size, 1, none⟩)) HS.out rfl (fun W' hS => by go_simp) ?_
  simp only [Act.put, List.setIfInBounds_toArray, List.set_cons_zero, List.set_cons_succ]
  refine mix_take (.slice a N c) HS.out rfl (fun W' hS => by obtain ⟨h0, h1, h2⟩ := hld W' hS; go_simp) ?_
  simp only [Act.put, List.setIfInBounds_toArray, List.set_cons_zero, List.set_cons_succ]
  have hsrc : Src TF W.drew (.slice a N c) L := (HH.out.grown HG.out.below).grown HS.out
  refine mix_step rfl (fun K hK => ?_)
  refine wp_append_g TF_ok (v := .slice none 0 0) (X := []) (base := W.heap.size) (.const (.slice none 0 0)) (.tmp 6) rfl rfl rfl (Row.nil _ _) HS.out.size hsrc HL.out (fun v' w4 hr hf _ => ?_)
  have hB4 : Below W.heap.size W w4 := HS.out.trans (hf.below (fun x hx => by simp [Value.ownBlock] at hx) HS.out.size)
  refine hK _ _ hB4 ?_
  clear hK
  simp only [Act.put, List.setIfInBounds_toArray, List.set_cons_zero, List.set_cons_succ]
  obtain ⟨va, vc, rfl, _, _⟩ := hr.form
  rw [List.nil_append] at hr ⊢
  have HR := Lib.hid hr
  have HB := Lib.hid hB4
  clear hr hf hB4 hsrc
  generalize L.length = M at *
  refine mix_by (.agg #[.int .i64 ((m : Nat) : Int), .slice va M vc]) rfl (by go_simp) HB.out ?_
  simp only [Act.put, List.setIfInBounds_toArray, List.set_cons_zero, List.set_cons_succ]
  refine mix_nil ?_
  have hx := (HB.out.block _ (lt_of_block HB1.out)).trans HB1.out
  have y0 := cells_cell (o := 0) hx rfl
  have y1 := cells_cell (o := 1) hx rfl
  have z0 := cells_free hx 0
  have z1 := cells_free hx 1
  have hxl := lt_of_block hx
  have hput := cells_set (cells_set hx 0 (.int .i64 ((m : Nat) : Int))) 1 (.slice va M vc)
  have p0 := cells_cell (o := 0) hput rfl
  have p1 := cells_cell (o := 1) hput rfl
  have hfr := (fr_setCell w4 ⟨w.heap.size + 1, 0, none⟩ (.int .i64 ((m : Nat) : Int))).trans' (fr_setCell _ ⟨w.heap.size + 1, 1, none⟩ (.slice va M vc))
  have HF := Lib.hid hfr
  clear hput hfr hx
  go_wp2_with fail
  refine bodyPost_ret (v := .agg #[.int .i64 ((m : Nat) : Int), .slice va M vc]) (by simp [results, Try.results40, go_sem, p0, p1]) rfl ⟨_, rfl, ?_, ?_⟩
  · exact (HR.out.fr HF.out (fun g hg hm => by have := (HR.out.lt g hg).1; simp at hm; omega)).lower (by omega)
  · exact (HG.out.below.trans (HB.out.mono HG.out.below.size)).trans (HF.out.below (fun y hy => by simp at hy; omega) (by have := HB.out.size; omega))

set_option maxRecDepth 100000 in
set_option maxHeartbeats 3200000 in
theorem refAt_any {w : World} {v : Value} {m : Nat} {L : Fds} {Nn : Int} (h : Src TF w v L) (hl : L.length ≤ 1000) (n : Nat) (hn : n ≤ L.length) (h1 : ∀ j f, j < n → L[j]? = some f → ((f.n : Nat) : Int) = Nn → f.c = true) (r : Int)
    (h2 : (∃ f, L[n]? = some f ∧ ((f.n : Nat) : Int) = Nn ∧ f.c = false ∧ r = ((n : Nat) : Int)) ∨ (n = L.length ∧ r = -1)) :
    Calls Try.prog 31 #[rt m v, .int .i64 Nn] w fun e w' => e = .returned (.int .i64 r) ∧ Grn w w' := by
  obtain ⟨a, c, rfl, _, _⟩ := h.form
  obtain ⟨N, hN⟩ : ∃ N, N = L.length := ⟨_, rfl⟩
  have H2 := Lib.hid h2
  have HN := Lib.hid hN
  rw [← hN] at h hl hn ⊢
  have HH := Lib.hid h
  have H1 := Lib.hid h1
  clear h hN h1 h2
  unfold rt
  obtain ⟨W, hW⟩ : ∃ W, w.alloc (.cells #[.int .i64 ((m : Nat) : Int), .slice a N c] 30) = W := ⟨_, rfl⟩
  have hgW : Grn w W := by rw [← hW]; exact (Grn.refl w).alloc _
  have HB0 : Hid (W.heap[w.heap.size]? = some (.cells #[.int .i64 ((m : Nat) : Int), .slice a N c] 30 (0, 0))) := Lib.hid (by rw [← hW]; exact block_new _ _ _ rfl)
  have b0 : W.cell? ⟨w.heap.size, 0, none⟩ = some (.int .i64 ((m : Nat) : Int)) := cells_cell HB0.out rfl
  have b1 : W.cell? ⟨w.heap.size, 1, none⟩ = some (.slice a N c) := cells_cell HB0.out rfl
  have hbl := lt_of_block HB0.out
  have HW := Lib.hid hW
  have HG := Lib.hid hgW
  have HS := Lib.hid (HH.out.grown hgW.below)
  have q1 : (N : Int) ≤ 1000 := by omega
  clear hW hgW
  go_enter Try.func31, Try.ntmps31
  go_wp2_with fail
  rw [HW.out]
  generalize w.heap.size = B at *
  go_loopw [5] (fun i wr => ∃ k : Nat, k ≤ n ∧ i = .int .i64 ((k : Nat) : Int) ∧ wr = W) (fun i _ => n - (intOf i).toNat)
  case atStart => exact ⟨0, by omega, rfl, rfl⟩
  case round =>
    obtain ⟨k, hk, rfl, rfl⟩ := hrel
    have g2 : (0 : Int) ≤ (k : Int) := by omega
    by_cases hkN : k < N
    · have g1 : (k : Int) < (N : Int) := by omega
      obtain ⟨f, hf⟩ : ∃ f, L[k]? = some f := ⟨_, List.getElem?_eq_getElem (by rw [← HN.out]; exact hkN)⟩
      obtain ⟨gb, off, cb, hv, hgl, hc⟩ := HS.out.at hf
      rw [← HN.out] at hv
      simp only [Value.slice.injEq] at hv
      obtain ⟨rfl, -, -⟩ := hv
      have k0 : wr.cell? ⟨gb, off + k * 4, none⟩ = some (.int .i64 ((f.n : Nat) : Int)) := hc 0 _ rfl
      have k3 : wr.cell? ⟨gb, off + k * 4 + 3, none⟩ = some (.bool f.c) := hc 3 _ rfl
      have HF := Lib.hid hf
      clear hc hf
      by_cases hkn : k < n
      · have h1 := H1.out k f hkn HF.out
        by_cases he : ((f.n : Nat) : Int) = Nn
        · rw [h1 he] at k3
          rw [he] at k0
          have e1 : (Nn == Nn) = true := by simp
          clear h1 he
          go_wp2_with fail
          go_roundw
          case rel => exact ⟨k + 1, by omega, by go_num, trivial⟩
          case measure => simp [intOf]; omega
        · have e1 : (((f.n : Nat) : Int) == Nn) = false := by simpa using he
          clear h1 he
          generalize f.n = fn at *
          go_wp2_with fail
          go_roundw
          case rel => exact ⟨k + 1, by omega, by go_num, trivial⟩
          case measure => simp [intOf]; omega
      · obtain rfl : k = n := by omega
        rcases H2.out with ⟨f', hf', he, hc, rfl⟩ | ⟨hn', _⟩
        · obtain rfl : f' = f := by rw [HF.out] at hf'; exact (Option.some.inj hf').symm
          rw [he] at k0
          rw [hc] at k3
          have e1 : (Nn == Nn) = true := by simp
          clear he hc hf'
          go_wp2_with fail
          go_ret
          exact ⟨rfl, HG.out⟩
        · have := HN.out; omega
    · obtain rfl : k = n := by omega
      obtain rfl : k = N := by omega
      obtain rfl : r = -1 := by
        rcases H2.out with ⟨f', hf', _⟩ | ⟨_, h⟩
        · have := (List.getElem?_eq_some_iff.1 hf').1; have := HN.out; omega
        · exact h
      go_wp2_with fail
      go_ret
      exact ⟨rfl, HG.out⟩
theorem refAt_yes {w : World} {v : Value} {m : Nat} {A B : Fds} {f : Fd} {Nn : Int} (h : Src TF w v (A ++ f :: B)) (hl : (A ++ f :: B).length ≤ 1000) (hA : clo f.n A) (hc : f.c = false) (hN : Nn = ((f.n : Nat) : Int)) :
    Calls Try.prog 31 #[rt m v, .int .i64 Nn] w fun e w' => e = .returned (.int .i64 ((A.length : Nat) : Int)) ∧ Grn w w' :=
  refAt_any h hl A.length (by simp) (fun j g hj hg he => by
    rw [List.getElem?_append_left hj] at hg
    exact hA g (List.mem_of_getElem? hg) (by omega)) _ (.inl ⟨f, mid_at A B f, hN.symm, hc, rfl⟩)
theorem refAt_no {w : World} {v : Value} {m : Nat} {L : Fds} {Nn : Int} (h : Src TF w v L) (hl : L.length ≤ 1000) (hc : ∀ f ∈ L, ((f.n : Nat) : Int) = Nn → f.c = true) :
    Calls Try.prog 31 #[rt m v, .int .i64 Nn] w fun e w' => e = .returned (.int .i64 (-1)) ∧ Grn w w' :=
  refAt_any h hl L.length (Nat.le_refl _) (fun j g hj hg he => hc g (List.mem_of_getElem? hg) he) _ (.inr ⟨rfl, rfl⟩)
end Go.Proofs.Ytbefiilbpbbjnaa
