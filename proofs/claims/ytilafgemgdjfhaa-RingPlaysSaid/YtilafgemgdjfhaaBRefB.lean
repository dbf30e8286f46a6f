/- Skip of the reference. -/
import Derived.Test.YtilafgemgdjfhaaBRefA
namespace Go.Proofs.Ytilafgemgdjfhaa
open Go.RowKit Go.Sort
set_option linter.unusedVariables false
set_option linter.unusedSimpArgs false

/-- What 'b[n:]' is of a row of bytes. -/
theorem slice_from {w : World} {b0 : Nat} {va : Option Addr} {vc : Nat} {B : List UInt8} (h : RowB w b0 (.slice va B.length vc) B) (n : Nat) (hn : n ≤ B.length) (hB : B.length ≤ 100000) : ∃ vx : Value,
    (∀ (x y : Nat) (ρ : Operand → Value) (o : Oper) (W : World), o.op = .slice 24 (.tmp x) (some (.tmp y)) none none → ρ (.tmp x) = .slice va B.length vc → ρ (.tmp y) = .int .i64 n → (execOp ρ o).run Try.prog W = .ok (.value vx) W) ∧
    ∀ W, Below w.heap.size w W → SrcA W vx (B.drop n) := by
  have hn2 : (n : Int) ≤ (B.length : Int) := by omega
  have hn0 : (0 : Int) ≤ (n : Int) := by omega
  rcases h.2 with ⟨hv, h0⟩ | ⟨g, cap, cu, hv, hb, hh, h1, h2, h3, h4⟩
  · simp only [Value.slice.injEq] at hv
    obtain ⟨rfl, _, rfl⟩ := hv
    have hB0 : B = [] := List.eq_nil_of_length_eq_zero h0
    subst hB0
    obtain rfl : n = 0 := by simpa using hn
    refine ⟨.slice none 0 0, fun x y ρ o W ho e1 e2 => ?_, fun W hW => .inl ⟨rfl, rfl⟩⟩
    unfold execOp
    rw [ho]
    simp [go_sem, e1, e2]
  · simp only [Value.slice.injEq, true_and] at hv
    obtain ⟨rfl, rfl⟩ := hv
    have hc2 : (B.length : Int) ≤ (vc : Int) := by omega
    have hl : Lies w g 0 B := fun i u hi => by
      have := row_cells h i (encB u) (by simp [hi])
      rwa [Go.WideShapes.add_plain] at this
    have hgl := (h.lt g rfl).2
    by_cases hc : n = vc
    · refine ⟨.slice (some ⟨g, 0, none⟩) 0 0, fun x y ρ o W ho e1 e2 => ?_, fun W hW => ?_⟩
      · unfold execOp
        rw [ho]
        have e3 : B.length = vc := by omega
        subst hc
        rw [e3] at e1
        simp [go_sem, e1, e2, hn0]
      · rw [List.drop_eq_nil_of_le (by omega)]
        exact SrcA.empty W _ _
    · have hc3 : (n : Int) < (vc : Int) := by omega
      have hc4 : ¬ vc = n := by omega
      refine ⟨.slice (some ⟨g, 0 + n, none⟩) (B.drop n).length (vc - n), fun x y ρ o W ho e1 e2 => ?_, fun W hW => ?_⟩
      · unfold execOp
        rw [ho]
        simp [go_sem, e1, e2, hn0, hn2, hc2, hc4]
      · exact SrcA.lies ((hl.same (hW.block g hgl)).drop n)

set_option maxHeartbeats 400000 in
theorem refSkip_neg (c : Nat) (va : Option Addr) (vl vc : Nat) (m : Int) (h : m < 0) (w : World) : Calls Try.prog 18 #[rv c (.slice va vl vc), .int .i64 m] w fun e w' => e = .returned (.tuple #[rv c (.slice va vl vc), .int .i64 0, .int .i64 2]) ∧ Below w.heap.size w w' := by
  unfold rv
  go_enter Try.func18, Try.ntmps18
  go_wp2_with fail
  refine bodyPost_ret (v := .tuple #[rv c (.slice va vl vc), .int .i64 0, .int .i64 2]) (by simp [results, Try.results18, go_sem, rv]) rfl ⟨rfl, ?_⟩
  exact ((Below.refl _ _).alloc (Nat.le_refl _) _).alloc (by simp) _

/-- What the reference's Skip returns. -/
def SkipR (w : World) (c n : Nat) (B : List UInt8) (e : Ending) (w' : World) : Prop := ∃ v, e = .returned (.tuple #[rv c v, .int .i64 n, .int .i64 0]) ∧ RowB w' w.heap.size v (B.drop n) ∧ Below w.heap.size w w'

set_option maxRecDepth 100000 in
set_option maxHeartbeats 1600000 in
theorem refSkip_at (c : Nat) {b0 : Nat} {va : Option Addr} {vc : Nat} {B : List UInt8} (w : World) (hB : RowB w b0 (.slice va B.length vc) B) (hBl : B.length ≤ 4096) (m : Int) (n : Nat) (hm : (m = n ∧ n ≤ B.length) ∨ ((B.length : Int) < m ∧ n = B.length)) :
    Calls Try.prog 18 #[rv c (.slice va B.length vc), .int .i64 m] w (SkipR w c n B) := by
  obtain ⟨vx, hsl, hsrc⟩ := slice_from hB n (by omega) (by omega)
  have HSL := Lib.hid hsl
  have HSrc := Lib.hid hsrc
  have e1 : (B.length : Int) ≤ 4096 := by omega
  have hdl : (B.drop n).length ≤ 4096 := by simp; omega
  unfold rv
  clear hB hBl hsl hsrc
  obtain ⟨Z, hZ⟩ : ∃ Z, Z = B.drop n := ⟨_, rfl⟩
  unfold SkipR
  rw [← hZ] at HSrc hdl ⊢
  clear hZ
  obtain ⟨l, hl⟩ : ∃ l, l = B.length := ⟨_, rfl⟩
  rw [← hl] at HSL hm e1 ⊢
  clear hl
  rcases hm with ⟨rfl, hm⟩ | ⟨hm, rfl⟩
  · have b0 : decide ((n : Int) < 0) = false := by simp
    have b1 : decide ((l : Int) < (n : Int)) = false := by simp; omega
    have e2 : (n : Int) ≤ 4096 := by omega
    go_enter Try.func18, Try.ntmps18
    go_wp2_with fail
    have hbelow : Below w.heap.size w ((w.alloc (.cells #[.int .i64 c, .slice va l vc] 32)).alloc (.cells #[.int .i64 0, .slice none 0 0] 32)).drew := (((Below.refl _ _).alloc (Nat.le_refl _) _).alloc (by simp) _).drew
    refine wp_region_float (fun W => Below w.heap.size w W ∧ W.cell? ⟨w.heap.size, 0, none⟩ = some (.int .i64 c) ∧ W.cell? ⟨w.heap.size, 1, none⟩ = some (.slice va l vc)) 10 [0, 1, 2, 3, 4, 5, 8] [6, 7, 9] (by kernel_rfl) (by kernel_rfl) (fun _ _ _ d _ h => by cases d <;> exact h) ⟨hbelow, by simp, by simp⟩ ?_
    simp only [List.map_cons, List.map_nil, List.getD_cons_zero, List.getD_cons_succ, List.drop_succ_cons, List.drop_zero]
    refine takes_by (.pointer (some ⟨w.heap.size, 0, none⟩)) rfl (fun W _ => by go_simp) ?_
    simp only [Act.put, List.setIfInBounds_toArray, List.set_cons_zero, List.set_cons_succ]
    refine takes_by (.int .i64 c) rfl (fun W hS => by have h1 := hS.2.1; go_simp) ?_
    simp only [Act.put, List.setIfInBounds_toArray, List.set_cons_zero, List.set_cons_succ]
    refine takes_by (.pointer (some ⟨w.heap.size, 1, none⟩)) rfl (fun W _ => by go_simp) ?_
    simp only [Act.put, List.setIfInBounds_toArray, List.set_cons_zero, List.set_cons_succ]
    refine takes_by (.slice va l vc) rfl (fun W hS => by have h1 := hS.2.2; go_simp) ?_
    simp only [Act.put, List.setIfInBounds_toArray, List.set_cons_zero, List.set_cons_succ]
    refine takes_move (.tmp 7) (.int .i64 n) rfl rfl rfl ?_
    simp only [Act.put, List.setIfInBounds_toArray, List.set_cons_zero, List.set_cons_succ]
    refine takes_by vx rfl (fun W hS => HSL.out _ _ _ _ W rfl rfl rfl) ?_
    simp only [Act.put, List.setIfInBounds_toArray, List.set_cons_zero, List.set_cons_succ]
    refine takes_move (.tmp 7) (.int .i64 n) rfl rfl rfl ?_
    simp only [Act.put, List.setIfInBounds_toArray, List.set_cons_zero, List.set_cons_succ]
    unfold wpTakes
    unfold wpMids
    refine step_append_src (X := []) rfl (.const (.slice none 0 0)) (.tmp 25) rfl rfl rfl (World.ownsRow_nil _ (w.heap.size + 2) _ _) (by simp) (HSrc.out _ hbelow) (by simp; omega) ?_
    intro v' w5 ho hf hn
    have hB5 : Below (w.heap.size + 2) _ w5 := hf.below (fun y hy => by cases (show y ∈ ([] : List Nat) from hy)) (by simp)
    have c0 : w5.cell? ⟨w.heap.size, 0, none⟩ = some (.int .i64 c) := (hB5.cell (p := ⟨w.heap.size, 0, none⟩) (by simp)).trans (by simp)
    have c1 : w5.cell? ⟨w.heap.size, 1, none⟩ = some (.slice va l vc) := (hB5.cell (p := ⟨w.heap.size, 1, none⟩) (by simp)).trans (by simp)
    have c2 : w5.cell? ⟨w.heap.size + 1, 0, none⟩ = some (.int .i64 0) := (hB5.cell (p := ⟨w.heap.size + 1, 0, none⟩) (by simp)).trans (by simp)
    have c3 : w5.cell? ⟨w.heap.size + 1, 1, none⟩ = some (.slice none 0 0) := (hB5.cell (p := ⟨w.heap.size + 1, 1, none⟩) (by simp)).trans (by simp)
    have k2 : w5.frozen? ⟨w.heap.size + 1, 0, none⟩ = false := (hB5.frozen (p := ⟨w.heap.size + 1, 0, none⟩) (by simp)).trans (by simp)
    have k3 : w5.frozen? ⟨w.heap.size + 1, 1, none⟩ = false := (hB5.frozen (p := ⟨w.heap.size + 1, 1, none⟩) (by simp)).trans (by simp)
    have hz5 : w.heap.size + 1 < w5.heap.size := by have := hB5.size; simp at this; omega
    have hBw : Below w.heap.size w w5 := hbelow.trans (hB5.mono (by omega))
    rw [List.nil_append] at ho
    obtain ⟨va', vc', rfl⟩ := row_formB ho
    have HO := Lib.hid ho
    have HBw := Lib.hid hBw
    refine ⟨⟨hBw, c0, c1⟩, ?_⟩
    simp only [Act.put, List.setIfInBounds_toArray, List.set_cons_zero, List.set_cons_succ]
    refine mids_by (.agg #[.int .i64 c, .slice va' Z.length vc']) rfl (by go_simp) ⟨HBw.out, c0, c1⟩ ?_
    simp only [Act.put, List.setIfInBounds_toArray, List.set_cons_zero, List.set_cons_succ]
    clear ho hf hn hB5 hbelow hBw
    refine mids_step rfl (fun K hK => ?_)
    go_simp
    refine hK _ _ ?_ ?_
    · refine ⟨(HBw.out.setCell (Nat.le_succ _) _).setCell (Nat.le_succ _) _, ?_, ?_⟩
      · go_simp
      · go_simp
    unfold wpMids
    clear hK
    go_wp2_with fail
    refine bodyPost_ret (v := .tuple #[rv c (.slice va' Z.length vc'), .int .i64 n, .int .i64 0]) (by simp [results, Try.results18, go_sem, rv, c2, c3, k2, k3, hz5]) rfl ⟨_, rfl, ?_, ?_⟩
    · have hne : ∀ g, (Value.slice va' Z.length vc').ownBlock = some g → g ∉ [w.heap.size + 1] := fun g hg => by have := (HO.out.lt g hg).1; simp; omega
      exact RowB.lower ((fr_setCell _ _ _).row ((fr_setCell _ _ _).row HO.out hne) hne) (by omega)
    · exact (HBw.out.setCell (by simp) _).setCell (by simp) _
  · have b0 : decide (m < 0) = false := by simp; omega
    go_enter Try.func18, Try.ntmps18
    go_wp2_with fail
    have hbelow : Below w.heap.size w ((w.alloc (.cells #[.int .i64 c, .slice va n vc] 32)).alloc (.cells #[.int .i64 0, .slice none 0 0] 32)).drew := (((Below.refl _ _).alloc (Nat.le_refl _) _).alloc (by simp) _).drew
    refine wp_region_float (fun W => Below w.heap.size w W ∧ W.cell? ⟨w.heap.size, 0, none⟩ = some (.int .i64 c) ∧ W.cell? ⟨w.heap.size, 1, none⟩ = some (.slice va n vc)) 10 [0, 1, 2, 3, 4, 5, 8] [6, 7, 9] (by kernel_rfl) (by kernel_rfl) (fun _ _ _ d _ h => by cases d <;> exact h) ⟨hbelow, by simp, by simp⟩ ?_
    simp only [List.map_cons, List.map_nil, List.getD_cons_zero, List.getD_cons_succ, List.drop_succ_cons, List.drop_zero]
    refine takes_by (.pointer (some ⟨w.heap.size, 0, none⟩)) rfl (fun W _ => by go_simp) ?_
    simp only [Act.put, List.setIfInBounds_toArray, List.set_cons_zero, List.set_cons_succ]
    refine takes_by (.int .i64 c) rfl (fun W hS => by have h1 := hS.2.1; go_simp) ?_
    simp only [Act.put, List.setIfInBounds_toArray, List.set_cons_zero, List.set_cons_succ]
    refine takes_by (.pointer (some ⟨w.heap.size, 1, none⟩)) rfl (fun W _ => by go_simp) ?_
    simp only [Act.put, List.setIfInBounds_toArray, List.set_cons_zero, List.set_cons_succ]
    refine takes_by (.slice va n vc) rfl (fun W hS => by have h1 := hS.2.2; go_simp) ?_
    simp only [Act.put, List.setIfInBounds_toArray, List.set_cons_zero, List.set_cons_succ]
    refine takes_move (.tmp 7) (.int .i64 n) rfl rfl rfl ?_
    simp only [Act.put, List.setIfInBounds_toArray, List.set_cons_zero, List.set_cons_succ]
    refine takes_by vx rfl (fun W hS => HSL.out _ _ _ _ W rfl rfl rfl) ?_
    simp only [Act.put, List.setIfInBounds_toArray, List.set_cons_zero, List.set_cons_succ]
    refine takes_move (.tmp 7) (.int .i64 n) rfl rfl rfl ?_
    simp only [Act.put, List.setIfInBounds_toArray, List.set_cons_zero, List.set_cons_succ]
    unfold wpTakes
    unfold wpMids
    refine step_append_src (X := []) rfl (.const (.slice none 0 0)) (.tmp 25) rfl rfl rfl (World.ownsRow_nil _ (w.heap.size + 2) _ _) (by simp) (HSrc.out _ hbelow) (by simp; omega) ?_
    intro v' w5 ho hf hn
    have hB5 : Below (w.heap.size + 2) _ w5 := hf.below (fun y hy => by cases (show y ∈ ([] : List Nat) from hy)) (by simp)
    have c0 : w5.cell? ⟨w.heap.size, 0, none⟩ = some (.int .i64 c) := (hB5.cell (p := ⟨w.heap.size, 0, none⟩) (by simp)).trans (by simp)
    have c1 : w5.cell? ⟨w.heap.size, 1, none⟩ = some (.slice va n vc) := (hB5.cell (p := ⟨w.heap.size, 1, none⟩) (by simp)).trans (by simp)
    have c2 : w5.cell? ⟨w.heap.size + 1, 0, none⟩ = some (.int .i64 0) := (hB5.cell (p := ⟨w.heap.size + 1, 0, none⟩) (by simp)).trans (by simp)
    have c3 : w5.cell? ⟨w.heap.size + 1, 1, none⟩ = some (.slice none 0 0) := (hB5.cell (p := ⟨w.heap.size + 1, 1, none⟩) (by simp)).trans (by simp)
    have k2 : w5.frozen? ⟨w.heap.size + 1, 0, none⟩ = false := (hB5.frozen (p := ⟨w.heap.size + 1, 0, none⟩) (by simp)).trans (by simp)
    have k3 : w5.frozen? ⟨w.heap.size + 1, 1, none⟩ = false := (hB5.frozen (p := ⟨w.heap.size + 1, 1, none⟩) (by simp)).trans (by simp)
    have hz5 : w.heap.size + 1 < w5.heap.size := by have := hB5.size; simp at this; omega
    have hBw : Below w.heap.size w w5 := hbelow.trans (hB5.mono (by omega))
    rw [List.nil_append] at ho
    obtain ⟨va', vc', rfl⟩ := row_formB ho
    have HO := Lib.hid ho
    have HBw := Lib.hid hBw
    refine ⟨⟨hBw, c0, c1⟩, ?_⟩
    simp only [Act.put, List.setIfInBounds_toArray, List.set_cons_zero, List.set_cons_succ]
    refine mids_by (.agg #[.int .i64 c, .slice va' Z.length vc']) rfl (by go_simp) ⟨HBw.out, c0, c1⟩ ?_
    simp only [Act.put, List.setIfInBounds_toArray, List.set_cons_zero, List.set_cons_succ]
    clear ho hf hn hB5 hbelow hBw
    refine mids_step rfl (fun K hK => ?_)
    go_simp
    refine hK _ _ ?_ ?_
    · refine ⟨(HBw.out.setCell (Nat.le_succ _) _).setCell (Nat.le_succ _) _, ?_, ?_⟩
      · go_simp
      · go_simp
    unfold wpMids
    clear hK
    go_wp2_with fail
    refine bodyPost_ret (v := .tuple #[rv c (.slice va' Z.length vc'), .int .i64 n, .int .i64 0]) (by simp [results, Try.results18, go_sem, rv, c2, c3, k2, k3, hz5]) rfl ⟨_, rfl, ?_, ?_⟩
    · have hne : ∀ g, (Value.slice va' Z.length vc').ownBlock = some g → g ∉ [w.heap.size + 1] := fun g hg => by have := (HO.out.lt g hg).1; simp; omega
      exact RowB.lower ((fr_setCell _ _ _).row ((fr_setCell _ _ _).row HO.out hne) hne) (by omega)
    · exact (HBw.out.setCell (by simp) _).setCell (by simp) _
end Go.Proofs.Ytilafgemgdjfhaa
