/- TimerPlays: do, Copy; and do's cases together. -/
import Derived.Test.YthlbnlbkgiclpaaDoorPDo3
import Derived.Test.YthlbnlbkgiclpaaDoorPDo4
import Derived.Test.YthlbnlbkgiclpaaDoorTCopy
namespace Go.Proofs.YthlbnlbkgiclpaaDoor
open Go.RowKit Go.Sort
set_option linter.unusedVariables false
set_option linter.unusedSimpArgs false

/-- Other timers were called, that do not hold do's own blocks. -/
theorem DoW.other {w0 w W w2 : World} {G : Nat → Prop} {a c : Nat} {s : Value} {S S2 : List El} {gs gs2 : List Nat} {P P2 : Nat} {L : List Tm} {x0 x1 x2 x3 x4 : Int} (D : DoW w0 w W G a s S gs P L x0 x1 x2 x3 x4) (T2 : TmIn w0 (GQ G s w.heap.size) w2 c S2 gs2 P2) (K : Keep (GQ G s w.heap.size) W w2) : DoW w0 w w2 G c s S2 gs2 P2 L x0 x1 x2 x3 x4 := by
  have h7 := (K (w.heap.size + 2) (.inr ⟨by omega, by omega⟩)).trans D.q7
  have hl := lt_of_block h7
  exact ⟨T2, D.row.keep (fun g hg => K g (.inl (.inr hg))), (K _ (.inr ⟨by omega, by omega⟩)).trans D.q4, (K _ (.inr ⟨by omega, by omega⟩)).trans D.q5, h7, D.sl, D.w0s, fun k hk => (K k (.inl (.inl hk))).trans (D.keep k hk), by omega, D.gw⟩

/-- The copy, while the old timers are called. -/
theorem copy_aside {w0 w2 w4 : World} {G' : Nat → Prop} {c n : Nat} {S : List El} {gs : List Nat} {P : Nat} (TC : TmIn w0 (fun k => k < n) w2 c S gs P) (hb4 : Below w0.heap.size w0 w4) (K : ∀ k, n ≤ k → k < w2.heap.size → w4.heap[k]? = w2.heap[k]?) (hG : ∀ k, G' k → k < n) : TmIn w0 G' w4 c S gs P := by
  have hb2 := TC.below
  have hs : w2.heap.size ≤ w4.heap.size := by
    obtain ⟨_, _, _, B⟩ := TC.ex
    have h1 := B.alt
    have h2 : ¬ c < n := B.na
    have h3 := K (w2.heap.size - 1) (by omega) (by omega)
    rw [Array.getElem?_eq_getElem (by omega : w2.heap.size - 1 < w2.heap.size)] at h3
    have := lt_of_block h3
    omega
  obtain ⟨F, hF, hk⟩ := TC.foot
  refine hk w0 G' w4 (hb4.os.trans hb2.os.symm) (hb4.tape.trans hb2.tape.symm) (hb4.output.trans hb2.output.symm) hs (fun k hk' => K k (by have := (hF k hk').2.2; omega) (hF k hk').2.1) hb4 (fun k hk' => ⟨(hF k hk').1, fun hg => (hF k hk').2.2 (hG k hg)⟩) (fun k hk' => ?_)
  obtain ⟨_, _, _, B⟩ := TC.ex
  have h1 := B.alt
  have h2 : ¬ c < n := B.na
  have := hG k hk'
  omega

set_option maxRecDepth 100000 in
set_option maxHeartbeats 3200000 in
/-- Set, whether it is refused or not, leaves timers. -/
theorem tset_some {w0 w : World} {G : Nat → Prop} {a : Nat} {S : List El} {gs : List Nat} {P : Nat} (T : TmIn w0 G w a S gs P) (k o : Int) (hk : k ≠ never) (hT : Tab w0) (hP : P < 9223372036854775807) :
    Calls Tryd.prog 44 #[pt a, .int .u64 k, .int .i64 o] w fun e w' => ∃ v, e = .returned v ∧ Below w0.heap.size w0 w' ∧ Keep G w w' ∧ ∃ x y e, v = .tuple #[.agg #[x, y], e] := by
  by_cases hS : S.length < 1024
  · refine (tset_any T k o hk hS hT hP).mono ?_
    rintro e w' ⟨rfl, T2, K⟩
    exact ⟨_, rfl, T2.below, K, _, _, _, rfl⟩
  · refine (tset_full T k o hk (by have := T.len_le; omega) hT).mono ?_
    rintro e w' ⟨rfl, g⟩
    exact ⟨_, rfl, (T.grown g.below).below, T.keep g.below, _, _, _, rfl⟩

set_option maxRecDepth 100000 in
set_option maxHeartbeats 3200000 in
theorem do_copy {w0 w : World} {G : Nat → Prop} {a : Nat} {s : Value} {S : List El} {gs : List Nat} {P : Nat} {L : List Tm} (R : PlR w0 G w a s S gs P L) (hP : P ≤ 80000) (hT : Tab w0) (x0 x1 x2 x3 x4 : Int) (h0 : x0 ≠ 0) (h1 : x0 ≠ 1) (h2 : x0 ≠ 2) (h3 : x0 ≠ 3) :
    Calls Tryd.prog 15 #[pt a, .agg #[s], .agg #[.int .i64 x0, .int .i64 x1, .int .u64 x2, .int .i64 x3, .int .i64 x4]] w (DoR w0 w G P L.length) := by
  have D0 := R.start x0 x1 x2 x3 x4
  obtain ⟨W, hW⟩ : ∃ W, (((w.alloc (.cells #[s] 51)).alloc (.cells #[.int .i64 x0, .int .i64 x1, .int .u64 x2, .int .i64 x3, .int .i64 x4] 55)).alloc (.cells #[.slice none 0 0] 51)) = W := ⟨_, rfl⟩
  rw [hW] at D0
  have HW := Lib.hid hW
  have HD := Lib.hid D0
  have HREL := Lib.hid R.rel
  have hcp := Lib.hid (tcopy_in D0.T)
  have m0 := cells_cell D0.q5 (o := 0) rfl
  have ml := lt_of_block D0.q5
  obtain ⟨sa, sn, sc, rfl⟩ := row_form R.row
  have b0 : (x0 == 0) = false := by simpa using h0
  have b1 : (x0 == 1) = false := by simpa using h1
  have b2 : (x0 == 2) = false := by simpa using h2
  have b3 : (x0 == 3) = false := by simpa using h3
  clear D0 R hW
  unfold pt at *
  go_enter Tryd.func15, Tryd.ntmps15
  go_wp2_with fail
  rw [HW.out]
  go_wp2_with (go_at_call 53; fail)
  refine hcp.out.mono ?_
  rintro e w2 ⟨c, rfl, hb2, TC⟩
  have HTC := Lib.hid TC
  have T2 : TmIn w0 (fun k => GQ G (.slice sa sn sc) w.heap.size k ∨ (W.heap.size ≤ k ∧ k < w2.heap.size)) w2 a S gs P := HD.out.T.more hb2 (fun k hk => hk)
  have hex := Lib.hid (texpire_any T2 18446744073709551614 (by unfold never; omega) (by omega))
  have HK2 := Lib.hid (HD.out.T.keep hb2)
  clear TC T2 hb2 hcp
  unfold pt at *
  go_wp2_with (go_at_call 46; fail)
  refine hex.out.mono ?_
  rintro e w3 ⟨v, rfl, hv, T3, K3, _, hs3⟩
  have hst := Lib.hid (tset_some (T3.less (fun k hk => .inl hk)) 0 1 (by unfold never; omega) hT (by omega))
  have HK3 := Lib.hid K3
  clear T3 K3 hv hex
  unfold pt at *
  go_wp2_with (go_at_call 44; fail)
  refine hst.out.mono ?_
  rintro e w4 ⟨v4, rfl, hb4, K4, x, y, e4, rfl⟩
  have TC4 : TmIn w0 (GQ G (.slice sa sn sc) w.heap.size) w4 c S gs P := copy_aside HTC.out hb4 (fun k hk hl => (K4 k (.inr ⟨hk, hl⟩)).trans (HK3.out k (.inr ⟨hk, hl⟩))) (fun k hk => HD.out.T.glt k hk)
  have D4 := HD.out.other TC4 (fun k hk => ((K4 k (.inl hk)).trans (HK3.out k (.inl hk))).trans (HK2.out k hk))
  have HFIN := Lib.hid ((D4.grown (Below.refl _ _).drew).fin' HREL.out)
  have e11 := cells_cell D4.q4 (o := 0) rfl
  have l11 := lt_of_block D4.q4
  have e7 : w4.cell? ⟨w.heap.size + 1 + 1, 0, none⟩ = some (.slice none 0 0) := cells_cell D4.q7 (o := 0) rfl
  have f7 : w4.frozen? ⟨w.heap.size + 1 + 1, 0, none⟩ = false := cells_free D4.q7 0
  have l7 : w.heap.size + 1 + 1 < w4.heap.size := lt_of_block D4.q7
  have n3 : ¬ w.heap.size = w.heap.size + 1 + 1 := by omega
  clear D4 TC4 K4 hb4 hst HD HTC HK2 HK3 m0 ml
  unfold pt at *
  go_wp2_with fail
  refine wp_region_float (fun X => X.cell? ⟨w.heap.size, 0, none⟩ = some (.slice sa sn sc)) 4 [0, 1] [2, 3] (by kernel_rfl) (by kernel_rfl) (fun _ _ _ d _ h => by cases d <;> exact h) e11 ?_
  simp only [List.map_cons, List.map_nil, List.getD_cons_zero, List.getD_cons_succ, List.drop_succ_cons, List.drop_zero]
  refine takes_move (.tmp 23) (.pointer (some ⟨c, 0, none⟩)) rfl rfl rfl ?_
  simp only [Act.put, List.setIfInBounds_toArray, List.set_cons_zero, List.set_cons_succ]
  refine takes_by (.agg #[.slice sa sn sc]) rfl (fun X hS => by have s1 : X.cell? _ = _ := hS; go_simp) ?_
  simp only [Act.put, List.setIfInBounds_toArray, List.set_cons_zero, List.set_cons_succ]
  unfold wpTakes
  refine mids_by (.pointer (some ⟨c, 0, none⟩)) rfl (by go_simp) e11 ?_
  simp only [Act.put, List.setIfInBounds_toArray, List.set_cons_zero, List.set_cons_succ]
  refine mids_step rfl (fun K hK => ?_)
  go_simp
  refine hK _ _ ?_ ?_
  · go_simp
  unfold wpMids
  clear hK e11
  have hq := World.cell?_setCell_same w4 _ (.slice sa sn sc) e7
  go_wp2_with fail
  exact bodyPost_ret (v := .tuple #[.pointer (some ⟨c, 0, none⟩), .agg #[.slice sa sn sc], .bool true]) (by simp [results, Tryd.results15, go_sem, hq]) rfl ⟨c, _, _, _, _, _, rfl, HFIN.out.1, HFIN.out.2, Nat.le_succ _, Nat.le_succ _⟩

theorem isT_elt {S : List El} {gs : List Nat} {n g : Int} (h : isT S gs n g) : ∃ e ∈ S, n = e.h ∧ g = (gs.getD e.h 0 : Nat) := by
  obtain ⟨x, hn, hx, hg⟩ := h
  obtain ⟨e, he, rfl⟩ := List.mem_map.1 hx
  exact ⟨e, he, hn, hg⟩
theorem rel_no {L : List Tm} {S : List El} {gs : List Nat} (R : Rel L S gs) {n g : Int} (h : ¬ isT S gs n g) : ∀ e ∈ L, ¬ ((e.n : Int) = n ∧ (e.g : Int) = g ∧ e.gone = false) := by
  rintro e he ⟨h1, h2, h3⟩
  obtain ⟨h4, h5⟩ := rel_el R he h3
  exact h ⟨e.n, h1.symm, List.mem_map_of_mem (f := El.h) h4, by rw [← h5]; exact h2.symm⟩

set_option maxRecDepth 100000 in
set_option maxHeartbeats 3200000 in
/-- do returns true, whatever the call is. -/
theorem do_any {w0 w : World} {G : Nat → Prop} {a : Nat} {s : Value} {S : List El} {gs : List Nat} {P : Nat} {L : List Tm} (R : PlR w0 G w a s S gs P L) (hl : L.length ≤ 80000) (hP : P ≤ 80000) (hT : Tab w0) (x0 x1 x2 x3 x4 : Int) (hx2 : x2 ≤ never) :
    Calls Tryd.prog 15 #[pt a, .agg #[s], .agg #[.int .i64 x0, .int .i64 x1, .int .u64 x2, .int .i64 x3, .int .i64 x4]] w (DoR w0 w G P L.length) := by
  by_cases h0 : x0 = 0
  · subst h0
    by_cases hk : x2 = never
    · subst hk
      exact do_set_no R hl x1 never x3 x4 2 (fun W G' a T => tset_never T x1) (fun W s h => mset_never h x1)
    · by_cases hS : S.length < 1024
      · exact do_set_ok R hl hP hT x1 x2 x3 x4 hk hS
      · have hS' : S.length = 1024 := by have := R.T.len_le; omega
        exact do_set_no R hl x1 x2 x3 x4 7 (fun W G' a T => tset_full T x2 x1 hk hS' hT) (fun W s h => mset_full h (by omega) (by rw [R.rel.len]; omega) x2 x1 hk)
  by_cases h1 : x0 = 1
  · subst h1
    by_cases hk : x2 = never
    · subst hk
      exact do_reset_no R hl x1 never x3 x4 2 (fun W G' a T => treset_never T x3 x4) (fun W s h => mreset_never h x3 x4)
    · by_cases hi : isT S gs x3 x4
      · obtain ⟨e, he, h3, h4⟩ := isT_elt hi
        exact do_reset_ok R hl x1 x2 x3 x4 hP hk e he h3 h4
      · exact do_reset_no R hl x1 x2 x3 x4 9 (fun W G' a T => treset_no T x3 x4 x2 hk hi) (fun W s h => mreset_no h (by omega) x3 x4 x2 hk (rel_no R.rel hi))
  by_cases h2 : x0 = 2
  · subst h2
    by_cases hi : isT S gs x3 x4
    · obtain ⟨e, he, h3, h4⟩ := isT_elt hi
      exact do_stop_ok R hl x1 x2 x3 x4 hP e he h3 h4
    · exact do_stop_no R hl x1 x2 x3 x4 9 (fun W G' a T => tstop_no T x3 x4 hi) (fun W s h => mstop_no h (by omega) x3 x4 (rel_no R.rel hi))
  by_cases h3 : x0 = 3
  · subst h3
    by_cases hk : x2 = never
    · exact do_exp_never R hl x1 x2 x3 x4 hk
    · exact do_exp_any R hl hP x1 x2 x3 x4 hk (by omega)
  exact do_copy R hP hT x0 x1 x2 x3 x4 h0 h1 h2 h3
end Go.Proofs.YthlbnlbkgiclpaaDoor
