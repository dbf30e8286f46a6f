/- The reference: Push. -/
import Derived.Test.YtopkikdbhapfmaaDRef
import Derived.Test.YtopkikdbhapfmaaDFloat
namespace Go.Proofs.Ytopkikdbhapfmaa
open Go.RowKit Go.Sort Go.MapKept
set_option linter.unusedVariables false
set_option linter.unusedSimpArgs false

theorem cells_put2 {w : World} {b : Nat} {u0 u1 : Value} {t : TypeId} (h : w.heap[b]? = some (.cells #[u0, u1] t (0, 0))) (x y : Value) : ((w.setCell ⟨b, 0, none⟩ x).setCell ⟨b, 1, none⟩ y).heap[b]? = some (.cells #[x, y] t (0, 0)) := by
  have := cells_set (cells_set h 0 x) 1 y
  simpa using this
theorem fr_put2 (w : World) (b : Nat) (x y : Value) : Fr [b] w ((w.setCell ⟨b, 0, none⟩ x).setCell ⟨b, 1, none⟩ y) := (fr_setCell w ⟨b, 0, none⟩ x).trans' (fr_setCell _ ⟨b, 1, none⟩ y)

set_option maxRecDepth 100000 in
set_option maxHeartbeats 3200000 in
theorem refPush_yes {w : World} {v : Value} {g : Nat} {L : Qu} (h : SrcR w v L) (hl : L.length ≤ 1000) (hg : g ≤ 1000000000) (x : Int) :
    Calls Try.prog 24 #[rq v g, .int .i64 x] w fun e w' => ∃ v', e = .returned (.tuple #[rq v' (g + 1), .int .u64 ((g + 1 : Nat) : Int), .int .i64 0]) ∧ RowR w' w.heap.size v' (L ++ [(g + 1, x)]) ∧ Below w.heap.size w w' := by
  obtain ⟨a, c, rfl, hc1, hc2⟩ := h.form
  obtain ⟨N, hN⟩ : ∃ N, N = L.length := ⟨_, rfl⟩
  obtain ⟨G, hG⟩ : ∃ G, G = g + 1 := ⟨_, rfl⟩
  have hGI : ((G : Nat) : Int) = ((g : Nat) : Int) + 1 := by omega
  rw [← hG]
  have HGI := Lib.hid hGI
  have HH := Lib.hid h
  have HN := Lib.hid hN
  rw [← hN] at hl hc1 HH ⊢
  clear h hN hG hGI
  have hgI : ((g : Nat) : Int) ≤ 1000000000 := by omega
  have hgI0 : (0 : Int) ≤ ((g : Nat) : Int) := by omega
  have hlI : ((N : Nat) : Int) ≤ 1000 := by omega
  have EW : Hid (IntKind.u64.wrap (((g : Nat) : Int) + 1) = ((g : Nat) : Int) + 1) := Lib.hid (by rw [IntKind.wrap_u64]; omega)
  unfold rq
  go_enter Try.func24, Try.ntmps24
  go_wp2_with fail
  obtain ⟨W, hW⟩ : ∃ W, W = (w.alloc (.cells #[.slice a N c, .int .u64 ((g : Nat) : Int)] 29)).alloc (.cells #[.slice none 0 0, .int .u64 0] 29) := ⟨_, rfl⟩
  have HWS : Hid (W.heap.size = w.heap.size + 2) := Lib.hid (by rw [hW]; simp)
  have HWB : Hid (Below w.heap.size w W) := Lib.hid (by rw [hW]; exact (below_alloc _ _).trans ((below_alloc _ _).mono (by simp)))
  have HW0 : Hid (W.heap[w.heap.size]? = some (.cells #[.slice a N c, .int .u64 ((g : Nat) : Int)] 29 (0, 0))) := Lib.hid (by
    rw [hW]; exact ((below_alloc _ _).block _ (by simp)).trans (heap_alloc_new w _))
  have HW1 : Hid (W.heap[w.heap.size + 1]? = some (.cells #[.slice none 0 0, .int .u64 0] 29 (0, 0))) := Lib.hid (by
    rw [hW]; exact block_new _ _ _ (by simp))
  rw [← hW]
  clear hW
  have hld : ∀ W', Below (w.heap.size + 1) W W' → W'.cell? ⟨w.heap.size, 0, none⟩ = some (.slice a N c) ∧ W'.cell? ⟨w.heap.size, 1, none⟩ = some (.int .u64 ((g : Nat) : Int)) := fun W' hb =>
    ⟨cells_cell ((hb.block _ (by omega)).trans HW0.out) rfl, cells_cell ((hb.block _ (by omega)).trans HW0.out) rfl⟩
  refine wp_region_float3 (fun W' => Below (w.heap.size + 1) W W') 18 [0, 1, 3, 4, 5, 6, 7, 10, 11, 12, 14, 15, 16] 2 8 [9, 13, 17] [] (by kernel_rfl) (by kernel_rfl) (fun _ _ _ d _ h => by cases d <;> exact h) (Below.refl _ _).drew _ (fun a' w' h' => h') ?_
  simp only [List.map_cons, List.map_nil, List.getD_cons_zero, List.getD_cons_succ, List.drop_succ_cons, List.drop_zero]
  refine takes_by (.pointer (some ⟨w.heap.size, 0, none⟩)) rfl (fun W' _ => by go_simp) ?_
  simp only [Act.put, List.setIfInBounds_toArray, List.set_cons_zero, List.set_cons_succ]
  refine takes_by (.slice a N c) rfl (fun W' hS => by obtain ⟨h0, h1⟩ := hld W' hS; go_simp) ?_
  simp only [Act.put, List.setIfInBounds_toArray, List.set_cons_zero, List.set_cons_succ]
  refine takes_move (.tmp 1) (.int .i64 x) rfl rfl rfl ?_
  simp only [Act.put, List.setIfInBounds_toArray, List.set_cons_zero, List.set_cons_succ]
  refine takes_by (.pointer (some ⟨w.heap.size, 1, none⟩)) rfl (fun W' _ => by go_simp) ?_
  simp only [Act.put, List.setIfInBounds_toArray, List.set_cons_zero, List.set_cons_succ]
  refine takes_by (.int .u64 ((g : Nat) : Int)) rfl (fun W' hS => by obtain ⟨h0, h1⟩ := hld W' hS; go_simp) ?_
  simp only [Act.put, List.setIfInBounds_toArray, List.set_cons_zero, List.set_cons_succ]
  refine takes_by (.int .u64 (((g : Nat) : Int) + 1)) rfl (fun W' _ => by go_simp; exact EW.out) ?_
  simp only [Act.put, List.setIfInBounds_toArray, List.set_cons_zero, List.set_cons_succ]
  refine takes_by (.agg #[.int .i64 x, .int .u64 (((g : Nat) : Int) + 1)]) rfl (fun W' _ => by go_simp) ?_
  simp only [Act.put, List.setIfInBounds_toArray, List.set_cons_zero, List.set_cons_succ]
  refine takes_by (.pointer (some ⟨w.heap.size, 1, none⟩)) rfl (fun W' _ => by go_simp) ?_
  simp only [Act.put, List.setIfInBounds_toArray, List.set_cons_zero, List.set_cons_succ]
  refine takes_by (.int .u64 ((g : Nat) : Int)) rfl (fun W' hS => by obtain ⟨h0, h1⟩ := hld W' hS; go_simp) ?_
  simp only [Act.put, List.setIfInBounds_toArray, List.set_cons_zero, List.set_cons_succ]
  refine takes_by (.int .u64 (((g : Nat) : Int) + 1)) rfl (fun W' _ => by go_simp; exact EW.out) ?_
  simp only [Act.put, List.setIfInBounds_toArray, List.set_cons_zero, List.set_cons_succ]
  refine takes_by (.pointer (some ⟨w.heap.size, 1, none⟩)) rfl (fun W' _ => by go_simp) ?_
  simp only [Act.put, List.setIfInBounds_toArray, List.set_cons_zero, List.set_cons_succ]
  refine takes_by (.int .u64 ((g : Nat) : Int)) rfl (fun W' hS => by obtain ⟨h0, h1⟩ := hld W' hS; go_simp) ?_
  simp only [Act.put, List.setIfInBounds_toArray, List.set_cons_zero, List.set_cons_succ]
  refine takes_by (.int .u64 (((g : Nat) : Int) + 1)) rfl (fun W' _ => by go_simp; exact EW.out) ?_
  simp only [Act.put, List.setIfInBounds_toArray, List.set_cons_zero, List.set_cons_succ]
  unfold wpTakes
  have hbd : Below W.heap.size W W.drew := (Below.refl _ _).drew
  have hsD : W.drew.heap.size = W.heap.size := rfl
  have hsW : w.heap.size + 1 ≤ W.heap.size := by have := HWS.out; omega
  rw [← HGI.out]
  refine And.intro ?_ ?_
  focus
    refine mids_step rfl (fun K hK => ?_)
    refine wp_append_r (v := .slice none 0 0) (.const (.slice none 0 0)) (.tmp 13) rfl rfl rfl (RowR.nil W.drew W.heap.size) (by rw [hsD]; exact Nat.le_refl _) ((HH.out.grown HWB.out).grown hbd) (by have := HN.out; simp; omega) ?_
    intro v1 w1 ho1 hf1 hn1
    have hB1 : Below W.heap.size W w1 := hbd.trans (hf1.below (fun x hx => by simp [Value.ownBlock] at hx) (by rw [hsD]; exact Nat.le_refl _))
    rw [List.nil_append] at ho1
    refine hK _ _ (hB1.mono hsW) ?_
    clear hK
    simp only [Act.put, List.setIfInBounds_toArray, List.set_cons_zero, List.set_cons_succ]
    refine mids_step rfl (fun K hK => ?_)
    go_simp
    have hba := below_alloc w1 (.cells #[.int .i64 x, .int .u64 ((G : Nat) : Int)] 46)
    have HO3 := Lib.hid (ho1.below hba)
    have HS3 := Lib.hid (src_pair w1 x G)
    have HB3 := Lib.hid (hB1.trans (hba.mono hB1.size))
    refine hK _ _ (HB3.out.mono hsW) ?_
    clear hK hB1 ho1 hf1 hn1 hba
    generalize w1.alloc (.cells #[.int .i64 x, .int .u64 ((G : Nat) : Int)] 46) = W3 at *
    generalize w1.heap.size = Bk at *
  rotate_left
  focus
    refine mids_step rfl (fun K hK => ?_)
    go_simp
    have hba := below_alloc W.drew (.cells #[.int .i64 x, .int .u64 ((G : Nat) : Int)] 46)
    have hB1 := hbd.trans (hba.mono (Nat.le_refl _))
    refine hK _ _ (hB1.mono hsW) ?_
    clear hK
    have hsr := src_pair W.drew x G
    refine mids_step rfl (fun K hK => ?_)
    refine wp_append_r (v := .slice none 0 0) (.const (.slice none 0 0)) (.tmp 13) rfl rfl rfl (RowR.nil _ W.heap.size) hB1.size ((HH.out.grown HWB.out).grown hB1) (by have := HN.out; simp; omega) ?_
    intro v1 w1 ho1 hf1 hn1
    have hb2 : Below (W.drew.alloc (.cells #[.int .i64 x, .int .u64 ((G : Nat) : Int)] 46)).heap.size (W.drew.alloc (.cells #[.int .i64 x, .int .u64 ((G : Nat) : Int)] 46)) w1 := hf1.below (fun x hx => by simp [Value.ownBlock] at hx) (Nat.le_refl _)
    rw [List.nil_append] at ho1
    have HO3 := Lib.hid ho1
    have HS3 := Lib.hid (hsr.grown hb2)
    have HB3 := Lib.hid (hB1.trans (hb2.mono hB1.size))
    refine hK _ _ (HB3.out.mono hsW) ?_
    clear hK hB1 ho1 hf1 hn1 hb2 hba hsr
    rw [hsD] at HS3
    generalize W.heap.size = Bk at HS3
    generalize w1 = W3 at *
  all_goals
    refine mids_step rfl (fun K hK => ?_)
    refine wp_append_r (v := v1) (.tmp 14) (.tmp 20) rfl rfl rfl HO3.out HB3.out.size HS3.out (by have := HN.out; simp; omega) ?_
    intro v2 w4 ho4 hf4 hn4
    have hB4 : Below W.heap.size W w4 := HB3.out.trans (hf4.below (fun x hx => (World.ownsRow.lt HO3.out x (by simpa using hx)).1) HB3.out.size)
    obtain ⟨va, vc, rfl, _, _⟩ := ho4.form
    have HO4 := Lib.hid ho4
    have HB4 := Lib.hid hB4
    refine hK _ _ (hB4.mono hsW) ?_
    clear hK ho4 hf4 hn4
    generalize (L ++ [(G, x)]).length = n2 at *
    simp only [Act.put, List.setIfInBounds_toArray, List.set_cons_zero, List.set_cons_succ]
    refine mids_by (.agg #[.slice va n2 vc, .int .u64 ((G : Nat) : Int)]) rfl (by go_simp) (hB4.mono hsW) ?_
    simp only [Act.put, List.setIfInBounds_toArray, List.set_cons_zero, List.set_cons_succ]
    have hcc := Lib.hid ((hB4.block (w.heap.size + 1) (by have := HWS.out; omega)).trans HW1.out)
    have gc0 := cells_cell (o := 0) hcc.out rfl
    have gc1 := cells_cell (o := 1) hcc.out rfl
    have gz0 := cells_free hcc.out 0
    have gz1 := cells_free hcc.out 1
    have hl4 : w.heap.size + 1 < w4.heap.size := lt_of_block hcc.out
    clear hB4
    refine mids_step rfl (fun K hK => ?_)
    go_simp
    have hput := cells_put2 hcc.out (.slice va n2 vc) (.int .u64 ((G : Nat) : Int))
    have hfr := fr_put2 w4 (w.heap.size + 1) (.slice va n2 vc) (.int .u64 ((G : Nat) : Int))
    have hB6 : Below (w.heap.size + 1) W ((w4.setCell ⟨w.heap.size + 1, 0, none⟩ (.slice va n2 vc)).setCell ⟨w.heap.size + 1, 1, none⟩ (.int .u64 ((G : Nat) : Int))) :=
      (HB4.out.mono hsW).trans (hfr.below (fun y hy => by simp at hy; omega) (by omega))
    refine hK _ _ hB6 ?_
    clear hK gc0 gc1 gz0 gz1
    generalize ((w4.setCell ⟨w.heap.size + 1, 0, none⟩ (.slice va n2 vc)).setCell ⟨w.heap.size + 1, 1, none⟩ (.int .u64 ((G : Nat) : Int))) = W6 at *
    have kp0 := cells_cell (o := 0) hput rfl
    have kp1 := cells_cell (o := 1) hput rfl
    have HFR := Lib.hid hfr
    have HB6 := Lib.hid hB6
    unfold wpMids
    refine ⟨hB6, ?_⟩
    unfold wpTakes
    clear hput hfr hB6
    go_wp2_with fail
    refine bodyPost_ret (v := .tuple #[.agg #[.slice va n2 vc, .int .u64 ((G : Nat) : Int)], .int .u64 ((G : Nat) : Int), .int .i64 0]) (by simp [results, Try.results24, go_sem, kp0, kp1]) rfl ⟨_, rfl, ?_, ?_⟩
    · refine RowR.lower (HO4.out.fr HFR.out (fun g' hg' hm => ?_)) (show w.heap.size ≤ W.heap.size by omega)
      have := (World.ownsRow.lt HO4.out g' hg').1
      simp at hm
      have := HWS.out
      omega
    · exact HWB.out.trans (HB6.out.mono (by omega))
end Go.Proofs.Ytopkikdbhapfmaa
