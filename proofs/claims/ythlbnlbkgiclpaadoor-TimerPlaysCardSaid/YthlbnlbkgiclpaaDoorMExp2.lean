/- The reference of the timers: Expire, the walk. -/
import Derived.Test.YthlbnlbkgiclpaaDoorMExp
import Derived.Test.YthlbnlbkgiclpaaDoorBFloat
import Derived.Laws.AppendOwn
namespace Go.Proofs.YthlbnlbkgiclpaaDoor
open Go.RowKit Go.Sort
set_option linter.unusedVariables false
set_option linter.unusedSimpArgs false

theorem wp_append_due {w : World} {o : Oper} {a : Act} {K : Act → World → Prop} {Q : Exit → Act → World → Prop} (s x : Operand)
    (ho : o.op = .call { callee := .builtin .append, args := #[s, x], argTypes := #[104, 104] }) {base : Nat} {v : Value} {D : List Du} (hs : a.eval s = v) (n g o' k : Int) (q : Nat) (hx : a.eval x = .slice (some ⟨q, 0, none⟩) 1 1)
    (hown : RowD w base v D) (hbase : base ≤ w.heap.size) (hc : ∀ j u, [Value.int .i64 n, .int .i64 g, .int .i64 o', .int .u64 k][j]? = some u → w.cell? ((⟨q, 0, none⟩ : Addr).add j) = some u) (hl : D.length ≤ 90000)
    (h : ∀ v' w', w'.ownsRow base 108 4 v' (D.length + 1) (cellsD D ++ [.int .i64 n, .int .i64 g, .int .i64 o', .int .u64 k]) → w.grownBy w' v.ownBlock → K (a.put o.dst v') w') : Oper.wp Tryd.prog o a w K Q := by
  obtain ⟨i0, hi0, hz0, hz1, hz2⟩ := info_parts infoDue
  obtain ⟨v', w', hrun, h1, h2, _⟩ := run_append_own (P := Tryd.prog) w base 104 o.type 108 i0 (.agg #[.int .i64 0, .int .i64 0, .int .i64 0, .int .u64 0]) 4 32 Tryd.underlying104 hi0 hz0 hz1 hz2 rfl (by decide) v _ _ hown ⟨q, 0, none⟩ 1 1 [.int .i64 n, .int .i64 g, .int .i64 o', .int .u64 k] rfl hc (by intro u hu; simp at hu; rcases hu with rfl | rfl | rfl | rfl <;> rfl) (by unfold maxLen; omega) (by omega) hbase
  unfold Oper.wp
  simp [execOp, ho, resolve, invoke, builtin, hs, hx, hrun, Result.andThen]
  exact h v' w' h1 h2

set_option maxRecDepth 100000 in
set_option maxHeartbeats 3200000 in
theorem mexpire_any {w : World} {s : Value} {L : List Tm} {S : List El} {gs : List Nat} (h : RowM w 0 s L) (hl : L.length ≤ 90000) (R : Rel L S gs) (hnd : (hsOf S).Nodup) (hlt : ∀ x ∈ hsOf S, x < gs.length) (now : Int) (hn : now < 18446744073709551615) :
    Calls Tryd.prog 52 #[.agg #[s], .int .u64 now] w fun e w' => ∃ s' v L', e = .returned (.tuple #[.agg #[s'], v]) ∧ RowM w' w.heap.size s' L' ∧ RowD w' w.heap.size v (expS now S gs).1 ∧ Rel L' (expS now S gs).2.1 (expS now S gs).2.2 ∧ L'.length = L.length ∧ Below w.heap.size w w' := by
  have hb : Below w.heap.size w ((w.alloc (.cells #[s] 51)).alloc (.cells #[.slice none 0 0] 51)) := ((Below.refl _ _).alloc (Nat.le_refl _) _).alloc (by simp) _
  have h2 := h.below hb
  have hcopy := Lib.hid (mcopy_any h2 (by omega))
  have hr0 : BoxM ((w.alloc (.cells #[s] 51)).alloc (.cells #[.slice none 0 0] 51)) (w.heap.size + 1) (.slice none 0 0) := block_new _ _ _ (by simp)
  have hs0 : ((w.alloc (.cells #[s] 51)).alloc (.cells #[.slice none 0 0] 51)).heap.size = w.heap.size + 2 := by simp
  obtain ⟨i0, hi0, hz0, hz1, hz2⟩ := info_parts infoDue
  have HB := Lib.hid hb
  have HR := Lib.hid hr0
  obtain ⟨a0, n0, c0, rfl⟩ := row_form h
  clear hb hr0 h2 h
  go_enter Tryd.func52, Tryd.ntmps52
  go_wp2_with (go_at_call 77; fail)
  refine hcopy.out.mono ?_
  rintro e w3 ⟨s', rfl, hrow, hb3⟩
  have hs3 := hb3.size
  have hr3 := HR.out.below hb3 (by omega)
  have hB3 := HB.out.trans (hb3.mono HB.out.size)
  have hst : MExpR w w3.heap.size now S gs L.length (w3.alloc (.cells #[s'] 51)) s' (.slice none 0 0) L S gs [] :=
    ⟨BoxM.new w3 s', hr3.alloc _, (hrow.below ((Below.refl _ _).alloc (Nat.le_refl _) _)).mono (by omega), World.ownsRow_nil _ _ _ _, R, hnd, hlt, rfl, rfl, hB3.alloc (by omega) _, rfl, by omega⟩
  have HST := Lib.hid hst
  have hc0 := hst.box.cell
  have hfst := Lib.hid (mfirst_any (hst.row.mono (Nat.zero_le _)) (by omega))
  obtain ⟨a1, n1, c1, rfl⟩ := row_form hrow
  clear hrow hb3 hr3 hB3 hst hcopy HB HR
  go_wp2_with (go_at_call 56; fail)
  refine hfst.out.mono ?_
  rintro e w4 ⟨r, rfl, hF, hg4⟩
  have HST4 := Lib.hid (HST.out.grown hg4.below)
  have hwB : w.heap.size ≤ w3.heap.size := by omega
  clear hg4 HST hfst hc0
  go_wp2_with fail
  generalize w3.heap.size = B at *
  go_loopg [7, 8] S.length (fun m v i wr => ∃ s1 L1 S1 gs1 D1 r1, S1.length = m ∧ i = .int .i64 r1 ∧ FirstM L1 L1.length r1 ∧ MExpR w B now S gs L.length wr s1 v L1 S1 gs1 D1)
  case atStart => exact ⟨_, L, S, gs, [], r, rfl, rfl, hF, HST4.out⟩
  case round =>
    clear HST4 hF
    obtain ⟨s1, L1, S1, gs1, D1, r1, rfl, rfl, hF, HR⟩ := hrel
    have Hlen := Lib.hid HR.len
    have hLl : L1.length ≤ 90000 := by have := HR.len; omega
    have c0 := HR.box.cell
    have hdl : D1.length ≤ 90000 := by
      have h1 := congrArg List.length HR.out
      have h2 := (expS_len S.length now S gs rfl).1
      have h3 := R.len
      have h4 : (alive L).length ≤ L.length := List.length_filter_le _ _
      simp only [List.length_append] at h1
      omega
    have Hend : Hid ((expS now S1 gs1) = ([], S1, gs1) → ∀ (a2 : Option Addr) (n2 c2 : Nat), s1 = .slice a2 n2 c2 → RowM (wr.setCell ⟨w.heap.size + 1, 0, none⟩ s1) w.heap.size s1 L1 ∧ RowD (wr.setCell ⟨w.heap.size + 1, 0, none⟩ s1) w.heap.size u7 (expS now S gs).1 ∧ Rel L1 (expS now S gs).2.1 (expS now S gs).2.2 ∧ L1.length = L.length ∧ Below w.heap.size w (wr.setCell ⟨w.heap.size + 1, 0, none⟩ s1)) := Lib.hid (fun hq a2 n2 c2 _ => by
      have ho := HR.out
      have hre := HR.rest
      rw [hq] at ho hre
      simp only [List.append_nil] at ho hre
      rw [← ho, ← hre]
      exact ⟨HR.row.box HR.res _, HR.dues.boxM HR.res _, HR.rel, HR.len, below_boxM HR.below (by omega) 0 _⟩)
    rcases hF with ⟨rfl, hN⟩ | ⟨b, e, rfl, hB⟩
    · have hS := rel_none HR.rel hN
      subst hS
      have Hf := Hend.out (expS_none fstE_nil)
      have r0 := HR.res.cell
      have rf := HR.res.free
      obtain ⟨a2, n2, c2, rfl⟩ := row_form HR.row
      have HF := Lib.hid (Hf a2 n2 c2 rfl)
      have hq := World.cell?_setCell_same _ _ (.slice a2 n2 c2) r0
      clear HR hN Hend Hf
      go_wp2_with fail
      obtain ⟨f1, f2, f3, f4, f5⟩ := HF.out
      exact bodyPost_ret (v := .tuple #[.agg #[.slice a2 n2 c2], u7]) (by simp [results, Tryd.results52, go_sem, hq]) rfl ⟨_, _, L1, rfl, f1, f2, f3, f4, f5⟩
    · have hf := rel_best HR.rel hB
      obtain ⟨g, cap, hs1, _, _⟩ := row_some HR.row (by have := hB.1; omega)
      obtain ⟨f0, f1, f2, f3, f4⟩ := (hs1 ▸ HR.row).cells b e hB.2.1
      subst hs1
      have hbi : (b : Int) < (L1.length : Int) := by have := hB.1; omega
      have hb0 : (0 : Int) ≤ (b : Int) := by omega
      by_cases hk : e.k ≤ now
      · have hps := Lib.hid (fun w => mpassed_yes e.k now hn hk w)
        have HR5 := Lib.hid (HR.grown (w' := wr.drew) ((Below.refl _ _).drew))
        have HB := Lib.hid hB
        have HK := Lib.hid hk
        obtain ⟨va, vc, rfl⟩ := slice_form HR.dues
        have hbn : b < L1.length := hB.1
        obtain ⟨en, hen⟩ : ∃ x : Int, (e.n : Int) = x := ⟨_, rfl⟩
        obtain ⟨eg, heg⟩ : ∃ x : Int, (e.g : Int) = x := ⟨_, rfl⟩
        obtain ⟨eo, heo⟩ : ∃ x : Int, e.o = x := ⟨_, rfl⟩
        obtain ⟨ek, hek⟩ : ∃ x : Int, e.k = x := ⟨_, rfl⟩
        rw [hen] at f0
        rw [heg] at f1
        rw [heo] at f2
        rw [hek] at f3
        rw [hek] at hps
        have HE := Lib.hid (And.intro hen (And.intro heg (And.intro heo hek)))
        clear HR hB hf Hend hk hen heg heo hek f4
        go_wp2_with (go_at_call 78; refine (hps.out _).mono ?_; rintro e' w5 ⟨rfl, rfl⟩)
        have c0' := c0
        refine wp_region_float (fun W => W.cell? ⟨B, 0, none⟩ = some (.slice (some ⟨g, 0, none⟩) L1.length cap) ∧ W.cell? ⟨g, b * 5, none⟩ = some (.int .i64 en) ∧ W.cell? ⟨g, b * 5 + 1, none⟩ = some (.int .i64 eg) ∧ W.cell? ⟨g, b * 5 + 2, none⟩ = some (.int .i64 eo) ∧ W.cell? ⟨g, b * 5 + 3, none⟩ = some (.int .u64 ek)) 22 [0, 1, 2, 3, 4, 5, 6, 7, 8, 9, 10, 11, 12, 13, 14, 15, 16, 17, 18, 19] [20, 21] (by kernel_rfl) (by kernel_rfl) (fun _ _ _ d _ h => by cases d <;> exact h) ⟨c0, f0, f1, f2, f3⟩ ?_
        simp only [List.map_cons, List.map_nil, List.getD_cons_zero, List.getD_cons_succ, List.drop_succ_cons, List.drop_zero]
        refine takes_move (.tmp 7) (.slice va D1.length vc) rfl rfl rfl ?_
        simp only [Act.put, List.setIfInBounds_toArray, List.set_cons_zero, List.set_cons_succ]
        refine takes_by (.pointer (some ⟨B, 0, none⟩)) rfl (fun W hS => by obtain ⟨s1, s2, s3, s4, s5⟩ := hS; go_simp) ?_
        simp only [Act.put, List.setIfInBounds_toArray, List.set_cons_zero, List.set_cons_succ]
        refine takes_by (.slice (some ⟨g, 0, none⟩) L1.length cap) rfl (fun W hS => by obtain ⟨s1, s2, s3, s4, s5⟩ := hS; go_simp) ?_
        simp only [Act.put, List.setIfInBounds_toArray, List.set_cons_zero, List.set_cons_succ]
        refine takes_move (.tmp 8) (.int .i64 b) rfl rfl rfl ?_
        simp only [Act.put, List.setIfInBounds_toArray, List.set_cons_zero, List.set_cons_succ]
        refine takes_by (.pointer (some ⟨g, b * 5, none⟩)) rfl (fun W hS => by obtain ⟨s1, s2, s3, s4, s5⟩ := hS; go_simp) ?_
        simp only [Act.put, List.setIfInBounds_toArray, List.set_cons_zero, List.set_cons_succ]
        refine takes_by (.pointer (some ⟨g, b * 5, none⟩)) rfl (fun W hS => by obtain ⟨s1, s2, s3, s4, s5⟩ := hS; go_simp) ?_
        simp only [Act.put, List.setIfInBounds_toArray, List.set_cons_zero, List.set_cons_succ]
        refine takes_by (.agg #[.int .i64 en, .int .i64 eg]) rfl (fun W hS => by obtain ⟨s1, s2, s3, s4, s5⟩ := hS; go_simp) ?_
        simp only [Act.put, List.setIfInBounds_toArray, List.set_cons_zero, List.set_cons_succ]
        refine takes_by (.pointer (some ⟨B, 0, none⟩)) rfl (fun W hS => by obtain ⟨s1, s2, s3, s4, s5⟩ := hS; go_simp) ?_
        simp only [Act.put, List.setIfInBounds_toArray, List.set_cons_zero, List.set_cons_succ]
        refine takes_by (.slice (some ⟨g, 0, none⟩) L1.length cap) rfl (fun W hS => by obtain ⟨s1, s2, s3, s4, s5⟩ := hS; go_simp) ?_
        simp only [Act.put, List.setIfInBounds_toArray, List.set_cons_zero, List.set_cons_succ]
        refine takes_move (.tmp 8) (.int .i64 b) rfl rfl rfl ?_
        simp only [Act.put, List.setIfInBounds_toArray, List.set_cons_zero, List.set_cons_succ]
        refine takes_by (.pointer (some ⟨g, b * 5, none⟩)) rfl (fun W hS => by obtain ⟨s1, s2, s3, s4, s5⟩ := hS; go_simp) ?_
        simp only [Act.put, List.setIfInBounds_toArray, List.set_cons_zero, List.set_cons_succ]
        refine takes_by (.pointer (some ⟨g, b * 5 + 2, none⟩)) rfl (fun W hS => by obtain ⟨s1, s2, s3, s4, s5⟩ := hS; go_simp) ?_
        simp only [Act.put, List.setIfInBounds_toArray, List.set_cons_zero, List.set_cons_succ]
        refine takes_by (.int .i64 eo) rfl (fun W hS => by obtain ⟨s1, s2, s3, s4, s5⟩ := hS; go_simp) ?_
        simp only [Act.put, List.setIfInBounds_toArray, List.set_cons_zero, List.set_cons_succ]
        refine takes_by (.pointer (some ⟨B, 0, none⟩)) rfl (fun W hS => by obtain ⟨s1, s2, s3, s4, s5⟩ := hS; go_simp) ?_
        simp only [Act.put, List.setIfInBounds_toArray, List.set_cons_zero, List.set_cons_succ]
        refine takes_by (.slice (some ⟨g, 0, none⟩) L1.length cap) rfl (fun W hS => by obtain ⟨s1, s2, s3, s4, s5⟩ := hS; go_simp) ?_
        simp only [Act.put, List.setIfInBounds_toArray, List.set_cons_zero, List.set_cons_succ]
        refine takes_move (.tmp 8) (.int .i64 b) rfl rfl rfl ?_
        simp only [Act.put, List.setIfInBounds_toArray, List.set_cons_zero, List.set_cons_succ]
        refine takes_by (.pointer (some ⟨g, b * 5, none⟩)) rfl (fun W hS => by obtain ⟨s1, s2, s3, s4, s5⟩ := hS; go_simp) ?_
        simp only [Act.put, List.setIfInBounds_toArray, List.set_cons_zero, List.set_cons_succ]
        refine takes_by (.pointer (some ⟨g, b * 5 + 3, none⟩)) rfl (fun W hS => by obtain ⟨s1, s2, s3, s4, s5⟩ := hS; go_simp) ?_
        simp only [Act.put, List.setIfInBounds_toArray, List.set_cons_zero, List.set_cons_succ]
        refine takes_by (.int .u64 ek) rfl (fun W hS => by obtain ⟨s1, s2, s3, s4, s5⟩ := hS; go_simp) ?_
        simp only [Act.put, List.setIfInBounds_toArray, List.set_cons_zero, List.set_cons_succ]
        refine takes_by (.agg #[.int .i64 en, .int .i64 eg, .int .i64 eo, .int .u64 ek]) rfl (fun W hS => by obtain ⟨s1, s2, s3, s4, s5⟩ := hS; go_simp) ?_
        simp only [Act.put, List.setIfInBounds_toArray, List.set_cons_zero, List.set_cons_succ]
        unfold wpTakes
        obtain ⟨d0, d1, d2, d3, d4⟩ : wr.drew.cell? ⟨B, 0, none⟩ = some (.slice (some ⟨g, 0, none⟩) L1.length cap) ∧ wr.drew.cell? ⟨g, b * 5, none⟩ = some (.int .i64 en) ∧ wr.drew.cell? ⟨g, b * 5 + 1, none⟩ = some (.int .i64 eg) ∧ wr.drew.cell? ⟨g, b * 5 + 2, none⟩ = some (.int .i64 eo) ∧ wr.drew.cell? ⟨g, b * 5 + 3, none⟩ = some (.int .u64 ek) := ⟨c0, f0, f1, f2, f3⟩
        clear c0 f0 f1 f2 f3 c0'
        generalize wr.drew = w5 at *
        have hgl5 := (HR5.out.row.lt g rfl).2
        have hBl5 := HR5.out.box.lt
        refine mids_step rfl (fun K hK => ?_)
        go_simp
        refine hK _ _ ⟨by go_simp, by go_simp, by go_simp, by go_simp, by go_simp⟩ ?_
        clear hK d0 d1 d2 d3 d4
        have HR6 := Lib.hid (HR5.out.grown ((Below.refl _ _).alloc (Nat.le_refl _) (.cells #[.int .i64 en, .int .i64 eg, .int .i64 eo, .int .u64 ek] 108)))
        refine mids_step rfl (fun K hK => ?_)
        refine wp_append_due (.tmp 27) (.tmp 47) rfl rfl en eg eo ek w5.heap.size rfl HR6.out.dues (by have := HR5.out.below.size; simp; omega) (new_cells4 w5 _ _ _ _ _) hdl ?_
        intro v' w6 hown' hgrow
        obtain ⟨q0, q1, q2, q3⟩ := HE.out
        subst q0
        subst q1
        subst q2
        subst q3
        have hd : RowD w6 w.heap.size v' (D1 ++ [⟨e.n, e.g, e.o, e.k⟩]) := by
          unfold RowD
          rw [cellsD_append]
          simpa [cellsD] using hown'
        obtain ⟨HRn, hless⟩ := HR6.out.round HB.out HK.out hgrow hd
        have hne := rows_ne HR6.out.row HR6.out.dues (g := g) rfl
        have row6 : RowM w6 w.heap.size (.slice (some ⟨g, 0, none⟩) L1.length cap) L1 := HR6.out.row.keep (fun k hk => by
          simp [Value.ownBlock] at hk; subst hk
          exact hgrow.block g (HR6.out.row.lt g rfl).2 (fun q => hne q.symm))
        have box6 : BoxM w6 B (.slice (some ⟨g, 0, none⟩) L1.length cap) := HR6.out.box.grown hgrow (fun q => BodAt.row_ne HR6.out.dues HR6.out.box (by decide) _ q.symm rfl)
        have k0 := box6.cell
        obtain ⟨_, _, _, _, k4⟩ := row6.cells b e HB.out.2.1
        have kf : w6.frozen? ⟨g, b * 5 + 4, none⟩ = false := World.ownsRow.frozenAt row6 _
        have k7 := HRn.box.cell
        have hfst := Lib.hid (mfirst_any (HRn.row.mono (Nat.zero_le _)) (by rw [List.length_set]; omega))
        have Hn := Lib.hid HRn
        have Hless := Lib.hid hless
        obtain ⟨v1, v2, v3, rfl⟩ := row_form hown'
        obtain ⟨r0, r1', r2, r3, _⟩ := row6.cells b e HB.out.2.1
        refine hK _ _ ⟨k0, r0, r1', r2, r3⟩ ?_
        clear HRn hless hd hown' hgrow row6 box6 HR6 HR5 hK r0 r1' r2 r3
        simp only [Act.put, List.setIfInBounds_toArray, List.set_cons_zero, List.set_cons_succ]
        unfold wpMids
        rw [List.length_set] at hfst
        go_wp2_with (go_at_call 56; fail)
        refine hfst.out.mono ?_
        rintro e' w8 ⟨r, rfl, hF, hg8⟩
        have H8 := Lib.hid (Hn.out.grown hg8.below)
        have HF8 := Lib.hid hF
        clear hg8 hF
        go_wp2_with fail
        go_roundg (removeS S1 e.n).length
        case measure => exact Hless.out
        case rel => exact ⟨_, _, _, _, _, _, rfl, rfl, by rw [List.length_set]; exact HF8.out, H8.out⟩
      · have hps := Lib.hid (fun w => mpassed_no e.k now hn hk w)
        have Hf := Hend.out (expS_late hf hk)
        have r0 := HR.res.cell
        have rf := HR.res.free
        have HF := Lib.hid (Hf _ _ _ rfl)
        have hq := World.cell?_setCell_same _ _ (.slice (some ⟨g, 0, none⟩) L1.length cap) r0
        clear HR hB Hend Hf hf
        go_wp2_with (go_at_call 78; refine (hps.out _).mono ?_; rintro e' w5 ⟨rfl, rfl⟩)
        obtain ⟨f1, f2, f3, f4, f5⟩ := HF.out
        exact bodyPost_ret (v := .tuple #[.agg #[.slice (some ⟨g, 0, none⟩) L1.length cap], u7]) (by simp [results, Tryd.results52, go_sem, hq]) rfl ⟨_, _, L1, rfl, f1, f2, f3, f4, f5⟩

theorem mpassed_never (k : Int) (w : World) : Calls Tryd.prog 78 #[.int .u64 k, .int .u64 18446744073709551615] w fun e w' => e = .returned (.bool false) ∧ w = w' := by
  go_enter Tryd.func78, Tryd.ntmps78
  go_wp2_with fail
  all_goals (go_ret; exact ⟨rfl, rfl⟩)

set_option maxRecDepth 100000 in
set_option maxHeartbeats 3200000 in
theorem mexpire_never {w : World} {s : Value} {L : List Tm} (h : RowM w 0 s L) (hl : L.length ≤ 90000) :
    Calls Tryd.prog 52 #[.agg #[s], .int .u64 18446744073709551615] w fun e w' => ∃ s', e = .returned (.tuple #[.agg #[s'], .slice none 0 0]) ∧ RowM w' w.heap.size s' L ∧ Below w.heap.size w w' := by
  have hb : Below w.heap.size w ((w.alloc (.cells #[s] 51)).alloc (.cells #[.slice none 0 0] 51)) := ((Below.refl _ _).alloc (Nat.le_refl _) _).alloc (by simp) _
  have h2 := h.below hb
  have hcopy := Lib.hid (mcopy_any h2 (by omega))
  have hr0 : BoxM ((w.alloc (.cells #[s] 51)).alloc (.cells #[.slice none 0 0] 51)) (w.heap.size + 1) (.slice none 0 0) := block_new _ _ _ (by simp)
  have hs0 : ((w.alloc (.cells #[s] 51)).alloc (.cells #[.slice none 0 0] 51)).heap.size = w.heap.size + 2 := by simp
  have HB := Lib.hid hb
  have HR := Lib.hid hr0
  obtain ⟨a0, n0, c0, rfl⟩ := row_form h
  clear hb hr0 h2 h
  go_enter Tryd.func52, Tryd.ntmps52
  go_wp2_with (go_at_call 77; fail)
  refine hcopy.out.mono ?_
  rintro e w3 ⟨s', rfl, hrow, hb3⟩
  have hs3 := hb3.size
  have hr3 := HR.out.below hb3 (by omega)
  have hB3 := HB.out.trans (hb3.mono HB.out.size)
  have hrow3 := (hrow.below (w' := w3.alloc (.cells #[s'] 51)) ((Below.refl _ _).alloc (Nat.le_refl _) _)).mono (base' := w.heap.size) (by omega)
  have hbox3 := BoxM.new w3 s'
  have hres3 := hr3.alloc (.cells #[s'] 51)
  have hbl3 := hB3.alloc (by omega) (.cells #[s'] 51)
  have hc0 := hbox3.cell
  have hfst := Lib.hid (mfirst_any (hrow3.mono (Nat.zero_le _)) (by omega))
  have HROW := Lib.hid hrow3
  have HBOX := Lib.hid hbox3
  have HRES := Lib.hid hres3
  have HBL := Lib.hid hbl3
  obtain ⟨a1, n1, c1, rfl⟩ := row_form hrow
  clear hrow hb3 hr3 hB3 hcopy HB HR hrow3 hbox3 hres3 hbl3
  go_wp2_with (go_at_call 56; fail)
  refine hfst.out.mono ?_
  rintro e w4 ⟨r, rfl, hF, hg4⟩
  have HROW4 := Lib.hid (HROW.out.below hg4.below)
  have HBOX4 := Lib.hid (HBOX.out.below hg4.below HBOX.out.lt)
  have HRES4 := Lib.hid (HRES.out.below hg4.below HRES.out.lt)
  have HBL4 := Lib.hid (HBL.out.trans (hg4.below.mono HBL.out.size))
  have hwB : w.heap.size + 1 < w3.heap.size := by omega
  clear hg4 HROW HBOX HRES HBL hfst hc0
  go_wp2_with fail
  generalize w3.heap.size = B at *
  go_loopw [7, 8] (fun vv i wr => ∃ r1, vv = .slice none 0 0 ∧ i = .int .i64 r1 ∧ FirstM L L.length r1 ∧ wr = w4) (fun _ _ _ => 0)
  case atStart => exact ⟨r, rfl, rfl, hF, rfl⟩
  case round =>
    clear hF
    obtain ⟨r1, rfl, rfl, hF, rfl⟩ := hrel
    have c0 := HBOX4.out.cell
    have r0 := HRES4.out.cell
    have rf := HRES4.out.free
    have hfin : Hid (RowM (wr.setCell ⟨w.heap.size + 1, 0, none⟩ (.slice a1 n1 c1)) w.heap.size (.slice a1 n1 c1) L ∧ Below w.heap.size w (wr.setCell ⟨w.heap.size + 1, 0, none⟩ (.slice a1 n1 c1))) := Lib.hid ⟨HROW4.out.box HRES4.out _, below_boxM HBL4.out (by omega) 0 _⟩
    have hq := World.cell?_setCell_same _ _ (.slice a1 n1 c1) r0
    rcases hF with ⟨rfl, hN⟩ | ⟨b, e, rfl, hB⟩
    · clear hN
      go_wp2_with fail
      exact bodyPost_ret (v := .tuple #[.agg #[.slice a1 n1 c1], .slice none 0 0]) (by simp [results, Tryd.results52, go_sem, hq]) rfl ⟨_, rfl, hfin.out.1, hfin.out.2⟩
    · obtain ⟨g, cap, hs1, _, _⟩ := row_some HROW4.out (by have := hB.1; omega)
      have hn1 : n1 = L.length := by simp at hs1; exact hs1.2.1
      obtain ⟨f0, f1, f2, f3, f4⟩ := (hs1 ▸ HROW4.out).cells b e hB.2.1
      simp only [Value.slice.injEq] at hs1
      obtain ⟨rfl, rfl, rfl⟩ := hs1
      have hbi : (b : Int) < (L.length : Int) := by have := hB.1; omega
      have hb0 : (0 : Int) ≤ (b : Int) := by omega
      have hps := Lib.hid (fun w => mpassed_never e.k w)
      obtain ⟨ek, hek⟩ : ∃ x : Int, e.k = x := ⟨_, rfl⟩
      rw [hek] at f3 hps
      clear hB hn1 f0 f1 f2 f4 hek
      go_wp2_with (go_at_call 78; refine (hps.out _).mono ?_; rintro e' w5 ⟨rfl, rfl⟩)
      exact bodyPost_ret (v := .tuple #[.agg #[.slice (some ⟨g, 0, none⟩) L.length c1], .slice none 0 0]) (by simp [results, Tryd.results52, go_sem, hq]) rfl ⟨_, rfl, hfin.out.1, hfin.out.2⟩
end Go.Proofs.YthlbnlbkgiclpaaDoor
