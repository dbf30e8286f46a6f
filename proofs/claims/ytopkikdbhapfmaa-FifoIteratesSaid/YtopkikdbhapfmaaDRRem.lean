/- The reference: Remove. -/
import Derived.Test.YtopkikdbhapfmaaDRPush
namespace Go.Proofs.Ytopkikdbhapfmaa
open Go.RowKit Go.Sort Go.MapKept
set_option linter.unusedVariables false
set_option linter.unusedSimpArgs false

set_option maxRecDepth 100000 in
set_option maxHeartbeats 1600000 in
theorem refRemove_no {w : World} {v : Value} {g t : Nat} {L : Qu} (h : SrcR w v L) (hl : L.length ≤ 1000000) (hn : t ∉ L.map Prod.fst) :
    Calls Try.prog 26 #[rq v g, .int .u64 ((t : Nat) : Int)] w fun e w' => e = .returned (.tuple #[rq v g, .int .i64 0, .int .i64 9]) ∧ Below w.heap.size w w' := by
  obtain ⟨a, c, rfl, hc1, hc2⟩ := h.form
  obtain ⟨W, hW⟩ : ∃ W, (w.alloc (.cells #[.slice a L.length c, .int .u64 ((g : Nat) : Int)] 29)).alloc (.cells #[.slice none 0 0, .int .u64 0] 29) = W := ⟨_, rfl⟩
  have hb : Below w.heap.size w W := by rw [← hW]; exact (below_alloc _ _).trans ((below_alloc _ _).mono (by simp))
  have HP := Lib.hid (refPlace_no (g := g) (h.grown hb) hl hn)
  have HB := Lib.hid hb
  have HS : Hid (W.heap.size = w.heap.size + 2) := Lib.hid (by rw [← hW]; simp)
  have H0 : Hid (W.heap[w.heap.size]? = some (.cells #[.slice a L.length c, .int .u64 ((g : Nat) : Int)] 29 (0, 0))) := Lib.hid (by
    rw [← hW]; exact ((below_alloc _ _).block _ (by simp)).trans (heap_alloc_new w _))
  have H1 : Hid (W.heap[w.heap.size + 1]? = some (.cells #[.slice none 0 0, .int .u64 0] 29 (0, 0))) := Lib.hid (by
    rw [← hW]; exact block_new _ _ _ (by simp))
  have k0 := cells_cell (o := 0) H0.out rfl
  have k1 := cells_cell (o := 1) H0.out rfl
  have s0 : w.heap.size < W.heap.size := by have := HS.out; omega
  generalize L.length = N at *
  unfold rq at *
  have HW := Lib.hid hW
  clear h hb hn hW
  go_enter Try.func26, Try.ntmps26
  go_wp2_with (at_builtin; fail)
  rw [HW.out]
  clear HW
  go_wp2_with (go_at_call 27; fail)
  refine HP.out.mono ?_
  rintro e w1 ⟨rfl, hg⟩
  have hb1 := hg.below
  have H01 := Lib.hid ((hb1.block w.heap.size (by have := HS.out; omega)).trans H0.out)
  have H11 := Lib.hid ((hb1.block (w.heap.size + 1) (by have := HS.out; omega)).trans H1.out)
  have k0 := cells_cell (o := 0) H01.out rfl
  have k1 := cells_cell (o := 1) H01.out rfl
  have r0 := cells_cell (o := 0) H11.out rfl
  have r1 := cells_cell (o := 1) H11.out rfl
  have z0 := cells_free H11.out 0
  have z1 := cells_free H11.out 1
  have l1 : w.heap.size + 1 < w1.heap.size := lt_of_block H11.out
  have HB1 := Lib.hid (HB.out.trans (hb1.mono HB.out.size))
  clear hb1 hg
  have hput := cells_put2 H11.out (.slice a N c) (.int .u64 ((g : Nat) : Int))
  have HFR := Lib.hid (fr_put2 w1 (w.heap.size + 1) (.slice a N c) (.int .u64 ((g : Nat) : Int)))
  go_wp2_with fail
  refine bodyPost_ret (v := .tuple #[.agg #[.slice a N c, .int .u64 ((g : Nat) : Int)], .int .i64 0, .int .i64 9]) (by simp [results, Try.results26, go_sem, cells_cell hput (o := 0) rfl, cells_cell hput (o := 1) rfl]) rfl ⟨rfl, ?_⟩
  exact HB1.out.trans (HFR.out.below (fun y hy => by simp at hy; omega) HB1.out.size)

theorem SrcR.rest {w : World} {b off N c n : Nat} {L : Qu} (h : SrcR w (.slice (some ⟨b, off, none⟩) N c) L) (hN : N = L.length) (hn : n < N) :
    SrcR w (.slice (if c = n + 1 then some ⟨b, off, none⟩ else some ⟨b, off + (n + 1) * 2, none⟩) (N - (n + 1)) (c - (n + 1))) (L.drop (n + 1)) := by
  rcases h with ⟨h0, _⟩ | ⟨b', off', c', he, h2, h3, h4, h5⟩
  · simp at h0
  · simp only [Value.slice.injEq, Option.some.injEq, Addr.mk.injEq] at he
    obtain ⟨⟨rfl, rfl, _⟩, _, rfl⟩ := he
    have hl : (L.drop (n + 1)).length = N - (n + 1) := by rw [List.length_drop, hN]
    by_cases hc : c = n + 1
    · rw [if_pos hc]
      refine .inr ⟨b, off, c - (n + 1), by rw [hl], by omega, by omega, h4, fun j e he => ?_⟩
      have : L.drop (n + 1) = [] := List.drop_eq_nil_of_le (by omega)
      rw [this] at he
      simp at he
    · rw [if_neg hc]
      refine .inr ⟨b, off + (n + 1) * 2, c - (n + 1), by rw [hl], by omega, by omega, h4, fun j e he => ?_⟩
      rw [List.getElem?_drop] at he
      have := h5 _ _ he
      rw [show off + (n + 1) * 2 + j * 2 = off + (n + 1 + j) * 2 by omega]
      exact this

set_option maxRecDepth 100000 in
set_option maxHeartbeats 3200000 in
theorem refRemove_yes {w : World} {v : Value} {g t : Nat} {x : Int} {A B : Qu} (h : SrcR w v (A ++ (t, x) :: B)) (hl : (A ++ (t, x) :: B).length ≤ 1000) (hi : Inc 0 (A ++ (t, x) :: B)) :
    Calls Try.prog 26 #[rq v g, .int .u64 ((t : Nat) : Int)] w fun e w' => ∃ v', e = .returned (.tuple #[rq v' g, .int .i64 x, .int .i64 0]) ∧ RowR w' w.heap.size v' (A ++ B) ∧ Below w.heap.size w w' := by
  obtain ⟨a, c, rfl, hc1, hc2⟩ := h.form
  obtain ⟨W, hW⟩ : ∃ W, (w.alloc (.cells #[.slice a (A ++ (t, x) :: B).length c, .int .u64 ((g : Nat) : Int)] 29)).alloc (.cells #[.slice none 0 0, .int .u64 0] 29) = W := ⟨_, rfl⟩
  have hb : Below w.heap.size w W := by rw [← hW]; exact (below_alloc _ _).trans ((below_alloc _ _).mono (by simp))
  have hn : A.length < (A ++ (t, x) :: B).length := by simp
  have ht : tkt (A ++ (t, x) :: B) A.length = t := by simp [tkt, List.getD]
  have HP := refPlace_yes (g := g) (n := A.length) (h.grown hb) (by omega) hi hn
  rw [ht] at HP
  have HP := Lib.hid HP
  obtain ⟨b, off, hae, hbl, kv, _⟩ := h.tick A.length hn
  subst hae
  have kv : w.cell? ⟨b, off + A.length * 2, none⟩ = some (.int .i64 x) := by rw [kv]; simp [List.getD]
  have HH := Lib.hid h
  have HB := Lib.hid hb
  have HS : Hid (W.heap.size = w.heap.size + 2) := Lib.hid (by rw [← hW]; simp)
  have H0 : Hid (W.heap[w.heap.size]? = some (.cells #[.slice (some ⟨b, off, none⟩) (A ++ (t, x) :: B).length c, .int .u64 ((g : Nat) : Int)] 29 (0, 0))) := Lib.hid (by
    rw [← hW]; exact ((below_alloc _ _).block _ (by simp)).trans (heap_alloc_new w _))
  have H1 : Hid (W.heap[w.heap.size + 1]? = some (.cells #[.slice none 0 0, .int .u64 0] 29 (0, 0))) := Lib.hid (by
    rw [← hW]; exact block_new _ _ _ (by simp))
  have k0 := cells_cell (o := 0) H0.out rfl
  have k1 := cells_cell (o := 1) H0.out rfl
  have s0 : w.heap.size < W.heap.size := by have := HS.out; omega
  have HNL : Hid ((A ++ (t, x) :: B).length = A.length + 1 + B.length) := Lib.hid (by simp; omega)
  have HLA : Hid (((A ++ (t, x) :: B).drop 0).take (A.length - 0) = A) := Lib.hid (by simp)
  have HLB : Hid ((A ++ (t, x) :: B).drop (A.length + 1) = B) := Lib.hid (by
    rw [show A ++ (t, x) :: B = (A ++ [(t, x)]) ++ B by simp, List.drop_left' (by simp)])
  obtain ⟨N, hN⟩ : ∃ N, N = (A ++ (t, x) :: B).length := ⟨_, rfl⟩
  have HN := Lib.hid hN
  rw [← hN] at HNL HH HP H0 k0 k1 hW hc1 hl hn ⊢
  obtain ⟨n, hn1⟩ : ∃ n, n = A.length := ⟨_, rfl⟩
  have Hn := Lib.hid hn1
  rw [← hn1] at HNL HLA HLB HP kv hn
  unfold rq at *
  have HW := Lib.hid hW
  clear h hb hW hN ht hn1
  go_enter Try.func26, Try.ntmps26
  go_wp2_with (at_builtin; fail)
  rw [HW.out]
  clear HW
  go_wp2_with (go_at_call 27; fail)
  refine HP.out.mono ?_
  rintro e w1 ⟨rfl, hg⟩
  have hb1 := hg.below
  have H01 := Lib.hid ((hb1.block w.heap.size (by have := HS.out; omega)).trans H0.out)
  have H11 := Lib.hid ((hb1.block (w.heap.size + 1) (by have := HS.out; omega)).trans H1.out)
  have HB1 := Lib.hid (HB.out.trans (hb1.mono HB.out.size))
  have hs1 : Hid (w.heap.size + 1 < w1.heap.size) := Lib.hid (lt_of_block H11.out)
  clear hb1 hg k0 k1 H0 H1 HB s0 HS HP
  go_wp2_with fail
  have hld : ∀ W', Below (w.heap.size + 1) w1 W' → W'.cell? ⟨w.heap.size, 0, none⟩ = some (.slice (some ⟨b, off, none⟩) N c) ∧ W'.cell? ⟨w.heap.size, 1, none⟩ = some (.int .u64 ((g : Nat) : Int)) ∧ W'.cell? ⟨b, off + n * 2, none⟩ = some (.int .i64 x) := fun W' hb =>
    ⟨cells_cell ((hb.block _ (by omega)).trans H01.out) rfl, cells_cell ((hb.block _ (by omega)).trans H01.out) rfl,
      (hb.cell (p := ⟨b, off + n * 2, none⟩) (show b < w.heap.size + 1 by omega)).trans ((HB1.out.cell (p := ⟨b, off + n * 2, none⟩) hbl).trans kv)⟩
  have n0 : (0 : Int) ≤ (n : Int) := by omega
  have n1 : (n : Int) < (N : Int) := by omega
  have n2 : (N : Int) ≤ 1000 := by omega
  have n3 : (N : Int) ≤ (c : Int) := by omega
  obtain ⟨PT, hPT⟩ : ∃ PT : Option Addr, (if c = n + 1 then some ⟨b, off, none⟩ else some ⟨b, off + (n + 1) * 2, none⟩) = PT := ⟨_, rfl⟩
  have HPT := Lib.hid hPT
  clear hPT
  have EW : Hid (IntKind.i64.wrap ((n : Int) + 1) = (n : Int) + 1) := Lib.hid (by rw [IntKind.wrap_i64]; omega)
  refine wp_region_float (fun W' => Below (w.heap.size + 1) w1 W') 21 [0, 1, 2, 3, 5, 6, 7, 8, 9, 11, 12, 14, 15, 16, 17, 18, 19] [4, 10, 13, 20] (by kernel_rfl) (by kernel_rfl) (fun _ _ _ d _ h => by cases d <;> exact h) (Below.refl _ _).drew ?_
  simp only [List.map_cons, List.map_nil, List.getD_cons_zero, List.getD_cons_succ, List.drop_succ_cons, List.drop_zero]
  refine takes_by (.pointer (some ⟨w.heap.size, 0, none⟩)) rfl (fun W' _ => by go_simp) ?_
  simp only [Act.put, List.setIfInBounds_toArray, List.set_cons_zero, List.set_cons_succ]
  refine takes_by (.slice (some ⟨b, off, none⟩) N c) rfl (fun W' hS => by obtain ⟨h0, h1, h2⟩ := hld W' hS; go_simp) ?_
  simp only [Act.put, List.setIfInBounds_toArray, List.set_cons_zero, List.set_cons_succ]
  refine takes_move (.tmp 7) (.int .i64 (n : Int)) rfl rfl rfl ?_
  simp only [Act.put, List.setIfInBounds_toArray, List.set_cons_zero, List.set_cons_succ]
  refine takes_by (.slice (some ⟨b, off, none⟩) n c) rfl (fun W' hS => by go_simp; intro hq; omega) ?_
  simp only [Act.put, List.setIfInBounds_toArray, List.set_cons_zero, List.set_cons_succ]
  refine takes_by (.pointer (some ⟨w.heap.size, 0, none⟩)) rfl (fun W' _ => by go_simp) ?_
  simp only [Act.put, List.setIfInBounds_toArray, List.set_cons_zero, List.set_cons_succ]
  refine takes_by (.slice (some ⟨b, off, none⟩) N c) rfl (fun W' hS => by obtain ⟨h0, h1, h2⟩ := hld W' hS; go_simp) ?_
  simp only [Act.put, List.setIfInBounds_toArray, List.set_cons_zero, List.set_cons_succ]
  refine takes_move (.tmp 7) (.int .i64 (n : Int)) rfl rfl rfl ?_
  simp only [Act.put, List.setIfInBounds_toArray, List.set_cons_zero, List.set_cons_succ]
  refine takes_by (.int .i64 ((n : Int) + 1)) rfl (fun W' _ => by go_simp; exact EW.out) ?_
  simp only [Act.put, List.setIfInBounds_toArray, List.set_cons_zero, List.set_cons_succ]
  refine takes_by (.slice PT (N - (n + 1)) (c - (n + 1))) rfl (fun W' hS => by rw [← HPT.out]; go_simp; intro hq; omega) ?_
  simp only [Act.put, List.setIfInBounds_toArray, List.set_cons_zero, List.set_cons_succ]
  refine takes_by (.pointer (some ⟨w.heap.size, 1, none⟩)) rfl (fun W' _ => by go_simp) ?_
  simp only [Act.put, List.setIfInBounds_toArray, List.set_cons_zero, List.set_cons_succ]
  refine takes_by (.int .u64 ((g : Nat) : Int)) rfl (fun W' hS => by obtain ⟨h0, h1, h2⟩ := hld W' hS; go_simp) ?_
  simp only [Act.put, List.setIfInBounds_toArray, List.set_cons_zero, List.set_cons_succ]
  refine takes_by (.pointer (some ⟨w.heap.size, 0, none⟩)) rfl (fun W' _ => by go_simp) ?_
  simp only [Act.put, List.setIfInBounds_toArray, List.set_cons_zero, List.set_cons_succ]
  refine takes_by (.slice (some ⟨b, off, none⟩) N c) rfl (fun W' hS => by obtain ⟨h0, h1, h2⟩ := hld W' hS; go_simp) ?_
  simp only [Act.put, List.setIfInBounds_toArray, List.set_cons_zero, List.set_cons_succ]
  refine takes_move (.tmp 7) (.int .i64 (n : Int)) rfl rfl rfl ?_
  simp only [Act.put, List.setIfInBounds_toArray, List.set_cons_zero, List.set_cons_succ]
  refine takes_by (.pointer (some ⟨b, off + n * 2, none⟩)) rfl (fun W' hS => by go_simp) ?_
  simp only [Act.put, List.setIfInBounds_toArray, List.set_cons_zero, List.set_cons_succ]
  refine takes_by (.pointer (some ⟨b, off + n * 2, none⟩)) rfl (fun W' hS => by go_simp) ?_
  simp only [Act.put, List.setIfInBounds_toArray, List.set_cons_zero, List.set_cons_succ]
  refine takes_by (.int .i64 x) rfl (fun W' hS => by obtain ⟨h0, h1, h2⟩ := hld W' hS; go_simp) ?_
  simp only [Act.put, List.setIfInBounds_toArray, List.set_cons_zero, List.set_cons_succ]
  unfold wpTakes
  have hbd : Below w1.heap.size w1 w1.drew := (Below.refl _ _).drew
  have hsD : w1.drew.heap.size = w1.heap.size := rfl
  have hsW : w.heap.size + 1 ≤ w1.heap.size := by have := hs1.out; omega
  refine mids_step rfl (fun K hK => ?_)
  refine wp_append_r (v := .slice none 0 0) (vx := .slice (some ⟨b, off, none⟩) n c) (M := A) (.const (.slice none 0 0)) (.tmp 22) rfl rfl rfl (RowR.nil w1.drew w1.heap.size) (by rw [hsD]; exact Nat.le_refl _) ?g1 (by simp; have := Hn.out; have := HNL.out; omega) ?_
  case g1 =>
    rw [← HLA.out]
    exact ((HH.out.grown HB1.out).grown hbd).part 0 n (Nat.zero_le _) (by have := HN.out; omega) (by have := HN.out; omega) _ (fun b' off' he => by
      simp only [Option.some.injEq, Addr.mk.injEq] at he
      obtain ⟨rfl, rfl, _⟩ := he
      simp)
  intro v1 w4 ho1 hf1 hn1
  have hB4 : Below w1.heap.size w1 w4 := hbd.trans (hf1.below (fun x hx => by simp [Value.ownBlock] at hx) (by rw [hsD]; exact Nat.le_refl _))
  rw [List.nil_append] at ho1
  have HO4 := Lib.hid ho1
  refine hK _ _ (hB4.mono hsW) ?_
  clear hK ho1 hf1 hn1
  simp only [Act.put, List.setIfInBounds_toArray, List.set_cons_zero, List.set_cons_succ]
  refine mids_step rfl (fun K hK => ?_)
  refine wp_append_r (v := v1) (vx := .slice PT (N - (n + 1)) (c - (n + 1))) (M := B) (.tmp 23) (.tmp 28) rfl rfl rfl HO4.out hB4.size ?g2 (by have := Hn.out; have := HNL.out; omega) ?_
  case g2 =>
    rw [← HLB.out, ← HPT.out]
    exact ((HH.out.grown HB1.out).grown hB4).rest HN.out hn
  intro v2 w5 ho2 hf2 hn2
  have hB5 : Below w1.heap.size w1 w5 := hB4.trans (hf2.below (fun x hx => (World.ownsRow.lt HO4.out x (by simpa using hx)).1) hB4.size)
  obtain ⟨va, vc, rfl, _, _⟩ := ho2.form
  have HO5 := Lib.hid ho2
  have HB5 := Lib.hid hB5
  refine hK _ _ (hB5.mono hsW) ?_
  clear hK ho2 hf2 hn2
  generalize (A ++ B).length = n3 at *
  simp only [Act.put, List.setIfInBounds_toArray, List.set_cons_zero, List.set_cons_succ]
  refine mids_by (.agg #[.slice va n3 vc, .int .u64 ((g : Nat) : Int)]) rfl (by go_simp) (hB5.mono hsW) ?_
  simp only [Act.put, List.setIfInBounds_toArray, List.set_cons_zero, List.set_cons_succ]
  have hcc := Lib.hid ((hB5.block (w.heap.size + 1) (by have := hs1.out; omega)).trans H11.out)
  have gc0 := cells_cell (o := 0) hcc.out rfl
  have gc1 := cells_cell (o := 1) hcc.out rfl
  have gz0 := cells_free hcc.out 0
  have gz1 := cells_free hcc.out 1
  have hl4 : w.heap.size + 1 < w5.heap.size := lt_of_block hcc.out
  clear hB5 hB4 hbd hsD
  refine mids_step rfl (fun K hK => ?_)
  go_simp
  have hput := cells_put2 hcc.out (.slice va n3 vc) (.int .u64 ((g : Nat) : Int))
  have hfr := fr_put2 w5 (w.heap.size + 1) (.slice va n3 vc) (.int .u64 ((g : Nat) : Int))
  have hB6 : Below (w.heap.size + 1) w1 ((w5.setCell ⟨w.heap.size + 1, 0, none⟩ (.slice va n3 vc)).setCell ⟨w.heap.size + 1, 1, none⟩ (.int .u64 ((g : Nat) : Int))) :=
    (HB5.out.mono hsW).trans (hfr.below (fun y hy => by simp at hy; omega) (by omega))
  refine hK _ _ hB6 ?_
  clear hK gc0 gc1 gz0 gz1
  generalize ((w5.setCell ⟨w.heap.size + 1, 0, none⟩ (.slice va n3 vc)).setCell ⟨w.heap.size + 1, 1, none⟩ (.int .u64 ((g : Nat) : Int))) = W6 at *
  have kp0 := cells_cell (o := 0) hput rfl
  have kp1 := cells_cell (o := 1) hput rfl
  have HFR := Lib.hid hfr
  have HB6 := Lib.hid hB6
  unfold wpMids
  clear hput hfr hB6 hld
  go_wp2_with fail
  refine bodyPost_ret (v := .tuple #[.agg #[.slice va n3 vc, .int .u64 ((g : Nat) : Int)], .int .i64 x, .int .i64 0]) (by simp [results, Try.results26, go_sem, kp0, kp1]) rfl ⟨_, rfl, ?_, ?_⟩
  · refine RowR.lower (HO5.out.fr HFR.out (fun g' hg' hm => ?_)) (show w.heap.size ≤ w1.heap.size by omega)
    have := (World.ownsRow.lt HO5.out g' hg').1
    simp at hm
    have := hs1.out
    omega
  · exact HB1.out.trans (HB6.out.mono (by omega))
end Go.Proofs.Ytopkikdbhapfmaa
