/- QTaskB: FReady, FSame, FVals, FNew, merged. -/
import Derived.Test.YtcjeckjmoponkaaGreatDoorQTaskA
import Derived.Test.YtcjeckjmoponkaaGreatDoorQRow
import Derived.Test.YtcjeckjmoponkaaGreatDoorQFifoB
import Derived.Deep.QuietTactic
import Derived.BigQuiet
import Derived.LoopTactic
import Derived.Deep.LoopGhost
import Derived.Test.YtcjeckjmoponkaaGreatDoorQMix
/- Ready: the run set as a slice. -/
namespace Go.Proofs.YtcjeckjmoponkaaGreatDoor
open Go.RowKit Go.Sort Go.Shelf Go.MapKept
set_option linter.unusedVariables false
set_option linter.unusedSimpArgs false
attribute [local go_sem] Oper.semAt_some

end Go.Proofs.YtcjeckjmoponkaaGreatDoor
/- The reference's Same, of two slices with the same numbers. -/
namespace Go.Proofs.YtcjeckjmoponkaaGreatDoor
open Go.RowKit Go.Sort
set_option linter.unusedVariables false
set_option linter.unusedSimpArgs false

theorem Src.int {w : World} {v : Value} {X : List Int} (h : Src TI w v X) {j : Nat} (hj : j < X.length) : ∃ g off c, v = .slice (some ⟨g, off, none⟩) X.length c ∧ X.length ≤ c ∧ c ≤ maxLen ∧ g < w.heap.size ∧ w.cell? ⟨g, off + j, none⟩ = some (.int .i64 X[j]) := by
  rcases h with ⟨_, rfl⟩ | ⟨g, off, c, h1, h2, h3, h4, h5⟩
  · simp at hj
  · have := h5 j _ (List.getElem?_eq_getElem hj) 0 (.int .i64 X[j]) rfl
    exact ⟨g, off, c, h1, h2, h3, h4, by simpa [TI] using this⟩

set_option maxRecDepth 100000 in
set_option maxHeartbeats 3200000 in
theorem same_yes {w : World} {v u : Value} {X : List Int} (h1 : Src TI w v X) (h2 : Src TI w u X) (hl : X.length ≤ 1000000) :
    Calls Tryz.prog 36 #[v, u] w fun e w' => e = .returned (.bool true) ∧ Grn w w' := by
  obtain ⟨va, vc, rfl, hv1, hv2⟩ := h1.form
  obtain ⟨ua, uc, rfl, hu1, hu2⟩ := h2.form
  have H1 := Lib.hid h1
  have H2 := Lib.hid h2
  obtain ⟨N, hN⟩ : ∃ N, N = X.length := ⟨_, rfl⟩
  have HN := Lib.hid hN
  rw [← hN] at H1 H2 hl hv1 hu1 ⊢
  have g1 : ((N : Nat) : Int) ≤ 1000000 := by omega
  clear h1 h2 hN
  go_enter Tryz.func36, Tryz.ntmps36
  go_wp2
  go_loopw [5] (fun i wr => ∃ k : Nat, k ≤ N ∧ i = .int .i64 (k : Nat) ∧ Hid (Grn w wr)) (fun i _ => N - (intOf i).toNat)
  case atStart => exact ⟨0, Nat.zero_le _, rfl, Lib.hid (Grn.refl _)⟩
  case round =>
    obtain ⟨k, hk, rfl, hg⟩ := hrel
    by_cases hlt : k < N
    · have hkX : k < X.length := by rw [← HN.out]; exact hlt
      obtain ⟨a, o1, c1, e1, _, _, l1, k1⟩ := Src.int (H1.out.grown hg.out.below) hkX
      obtain ⟨b, o2, c2, e2, _, _, l2, k2⟩ := Src.int (H2.out.grown hg.out.below) hkX
      simp only [Value.slice.injEq] at e1 e2
      obtain ⟨rfl, _, rfl⟩ := e1
      obtain ⟨rfl, _, rfl⟩ := e2
      have q3 : (k : Int) < (N : Int) := by omega
      generalize X[k] = x at *
      clear H1 H2 HN hkX
      go_wp2_with fail
      go_quiet (fail)
      have HG := Lib.hid (hg.out.drew nq)
      go_wp2_with fail
      go_roundw
      case rel => exact ⟨k + 1, by omega, by go_num, HG⟩
      case measure => simp [intOf]; omega
    · obtain rfl : k = N := by omega
      clear H1 H2
      go_wp2_with fail
      go_ret
      exact ⟨rfl, hg.out⟩
end Go.Proofs.YtcjeckjmoponkaaGreatDoor
/- Rows of integers beside a table of tasks; tasks that are parked, counted. -/
namespace Go.Proofs.YtcjeckjmoponkaaGreatDoor
open Go.RowKit Go.Sort
set_option linter.unusedVariables false
set_option linter.unusedSimpArgs false

section
variable {P : Ks} {Q : Qu} {n g : Nat} {p : Ck} {tg : Int}
theorem stepP_len (tg : Int) (g : Nat) : (stepP P n tg g).length = P.length := by simp [stepP]
end
end Go.Proofs.YtcjeckjmoponkaaGreatDoor
/- New, Clone, Copy. -/
namespace Go.Proofs.YtcjeckjmoponkaaGreatDoor
open Go.RowKit Go.Sort Go.MapKept
set_option linter.unusedVariables false
set_option linter.unusedSimpArgs false

theorem wp_made {P : Program} {o : Oper} {a : Act} {w w' : World} {K : Act → World → Prop} {Q : Exit → Act → World → Prop} (l c : Operand) (t : TypeId) (hop : o.op = Op.makeSlice t l c) {x y v : Value} (hl : a.eval l = x) (hc : a.eval c = y)
    (hrun : (Instr.makeSlice t x y).run P w = .ok v w') (h : K (a.put o.dst v) w') : Oper.wp P o a w K Q := by
  unfold Oper.wp
  simp [execOp, hop, hl, hc, hrun, Result.andThen]
  exact h

/-- The new cells. -/
theorem row_made {w : World} {base b n : Nat} (h : w.ownsRow base 306 2 (.slice (some ⟨b, 0, none⟩) n n) n (madeCells (Value.agg #[.int .i64 0, .int .u64 0]).cells (n * 2)).toList) : Row TC w base (.slice (some ⟨b, 0, none⟩) n n) (List.replicate n ⟨0, 0⟩) := by
  unfold Row
  rw [List.length_replicate, flt_replicate (e := TC.enc) (s := 2) n ⟨0, 0⟩ TC_ok.len (by decide)]
  exact h

/-- What is known of the new cells and the new queue. -/
structure NewAt (w W : World) (c x q b m : Nat) : Prop where
  r : Row TC W w.heap.size (.slice (some ⟨x, 0, none⟩) c c) (List.replicate c ⟨0, 0⟩)
  qa : QAt W q b m [] 0
  bq : w.heap.size ≤ q
  bb : w.heap.size ≤ b
  bm : w.heap.size ≤ m
  below : Below w.heap.size w W

set_option maxRecDepth 100000 in
set_option maxHeartbeats 3200000 in
theorem tkNew_ok (w : World) (hmv : MvAt w) (c : Nat) (h1 : 1 ≤ c) (h2 : c ≤ 64) : Calls Tryz.prog 85 #[.int .i64 ((c : Nat) : Int)] w fun e w' => ∃ l, e = .returned (.tuple #[.pointer (some ⟨l.t, 0, none⟩), .int .i64 0]) ∧ KAt w.heap.size w' l (List.replicate c ⟨0, 0⟩) [] 0 ∧ Below w.heap.size w w' := by
  have e1 : (1 : Int) ≤ (c : Int) := by omega
  have e2 : (c : Int) ≤ 64 := by omega
  have e3 : decide ((c : Int) < 1) = false := by simp; omega
  have e4 : decide ((64 : Int) < (c : Int)) = false := by simp; omega
  obtain ⟨i0, hi0, hz0, hz1, hz2⟩ := info_parts infoCell
  have hmake := fun (W : World) (base : Nat) (hb : base ≤ W.heap.size) => run_make_full (P := Tryz.prog) W base 249 306 i0 (.agg #[.int .i64 0, .int .u64 0]) 2 Tryz.underlying249 hi0 hz0 hz1 .i64 .i64 c (by rw [show i0.bytes = 16 from hz2]; omega) (by unfold maxLen; omega) hb
  have HM := Lib.hid hmake
  have HMV := Lib.hid hmv
  have HC := Lib.hid (And.intro h1 h2)
  clear hmake hmv h1 h2
  go_enter Tryz.func85, Tryz.ntmps85
  go_wp2_with fail
  have hbd : Below w.heap.size w w.drew := (Below.refl _ _).drew
  refine wp_region_float3 (fun W' => Below w.heap.size w W') 3 [0] 1 2 [] [] (by kernel_rfl) (by kernel_rfl) (fun _ _ _ d _ h => by cases d <;> exact h) hbd _ (fun a' w' h' => h') ?_
  simp only [List.map_cons, List.map_nil, List.getD_cons_zero, List.getD_cons_succ, List.drop_succ_cons, List.drop_zero]
  refine takes_move (.tmp 0) (.int .i64 ((c : Nat) : Int)) rfl rfl rfl ?_
  simp only [Act.put, List.setIfInBounds_toArray, List.set_cons_zero, List.set_cons_succ]
  unfold wpTakes
  refine And.intro ?_ ?_
  focus
    refine mids_step rfl (fun K hK => ?_)
    obtain ⟨w1, hrun, r1, r2⟩ := HM.out w.drew w.heap.size (Nat.le_refl _)
    have hb1 : Below w.heap.size w w1 := hbd.grown r2 (Nat.le_refl _) (by intro k hk; cases hk)
    refine wp_made (.tmp 10) (.tmp 10) 249 rfl rfl rfl hrun ?_
    refine hK _ _ hb1 ?_
    clear hK
    simp only [Act.put, List.setIfInBounds_toArray, List.set_cons_zero, List.set_cons_succ]
    refine mids_step rfl (fun K hK => ?_)
    go_simp
    go_wp2_with (go_at_call 133; fail)
    refine (fiNew_any w1).mono ?_
    rintro e w2 ⟨q, b, m, rfl, hq, hg, k1, k2, k3⟩
    have hb2 : Below w.heap.size w w2 := hb1.trans (hg.below.mono hb1.size)
    refine hK _ _ hb2 ?_
    clear hK
    have hs := hb1.size
    have HN : Hid (NewAt w w2 c w.heap.size q b m) := Lib.hid ⟨(row_made r1).below hg.below, hq, by omega, by omega, by omega, hb2⟩
    clear r1 r2 hrun hq hg k1 k2 k3 hs hb1
    generalize w2 = W at *
    unfold wpMids
    refine ⟨hb2, ?_⟩
    unfold wpTakes
    clear hb2 HM
    go_wp2_with fail
    go_ret2
    have hba := fun o => below_alloc W o
    have hlen : (List.replicate c (⟨0, 0⟩ : Ck)).length = c := List.length_replicate ..
    refine ⟨⟨W.heap.size, w.heap.size, c, q, b, m⟩, rfl, ⟨?_, ?_, HN.out.qa.grown (hba _), by rw [hlen]; exact HC.out.1, by rw [hlen]; exact HC.out.2, (HMV.out.below HN.out.below HMV.out.lt).below (hba _) (Nat.lt_of_lt_of_le HMV.out.lt HN.out.below.size), HMV.out.lt, HN.out.below.size, HN.out.bq, HN.out.bb, HN.out.bm⟩, HN.out.below.trans ((hba _).mono HN.out.below.size)⟩
    · rw [hlen]; exact block_new _ _ _ rfl
    · rw [hlen]; exact HN.out.r.below (hba _)
  focus
    refine mids_step rfl (fun K hK => ?_)
    go_simp
    go_wp2_with (go_at_call 133; fail)
    refine (fiNew_any w.drew).mono ?_
    rintro e w1 ⟨q, b, m, rfl, hq, hg, k1, k2, k3⟩
    have hb1 : Below w.heap.size w w1 := hbd.trans hg.below
    refine hK _ _ hb1 ?_
    clear hK
    refine mids_step rfl (fun K hK => ?_)
    obtain ⟨w2, hrun, r1, r2⟩ := HM.out w1 w.heap.size hb1.size
    have hb3 : Below w1.heap.size w1 w2 := (Below.refl _ w1).grown r2 (Nat.le_refl _) (by intro k hk; cases hk)
    have hb2 : Below w.heap.size w w2 := hb1.trans (hb3.mono hb1.size)
    refine wp_made (.tmp 10) (.tmp 10) 249 rfl rfl rfl hrun ?_
    refine hK _ _ hb2 ?_
    clear hK
    simp only [Act.put, List.setIfInBounds_toArray, List.set_cons_zero, List.set_cons_succ]
    have HN : Hid (NewAt w w2 c w1.heap.size q b m) := Lib.hid ⟨row_made r1, hq.grown hb3, k1, k2, k3, hb2⟩
    clear r1 r2 hrun hq hg k1 k2 k3 hb1 hb3
    generalize w2 = W at *
    unfold wpMids
    refine ⟨hb2, ?_⟩
    unfold wpTakes
    clear hb2 HM
    go_wp2_with fail
    go_ret2
    have hba := fun o => below_alloc W o
    have hlen : (List.replicate c (⟨0, 0⟩ : Ck)).length = c := List.length_replicate ..
    refine ⟨⟨W.heap.size, w1.heap.size, c, q, b, m⟩, rfl, ⟨?_, ?_, HN.out.qa.grown (hba _), by rw [hlen]; exact HC.out.1, by rw [hlen]; exact HC.out.2, (HMV.out.below HN.out.below HMV.out.lt).below (hba _) (Nat.lt_of_lt_of_le HMV.out.lt HN.out.below.size), HMV.out.lt, HN.out.below.size, HN.out.bq, HN.out.bb, HN.out.bm⟩, HN.out.below.trans ((hba _).mono HN.out.below.size)⟩
    · rw [hlen]; exact block_new _ _ _ rfl
    · rw [hlen]; exact HN.out.r.below (hba _)

end Go.Proofs.YtcjeckjmoponkaaGreatDoor
