/- The walk of FifoPlays. -/
import Derived.Test.YtopkikdbhapfmaaDDo
import Derived.Test.YtopkikdbhapfmaaDEnd
namespace Go.Proofs.Ytopkikdbhapfmaa
open Go.RowKit Go.Sort Go.MapKept
set_option linter.unusedVariables false
set_option linter.unusedSimpArgs false

set_option maxRecDepth 100000 in
set_option maxHeartbeats 6400000 in
theorem fifoPlays_walk (sa : Option Addr) (len cap : Nat) (w : World) (hr : IsActs6 w sa len cap) :
    Calls Try.prog 3 #[.slice sa len cap] w fun e w' => e = .returned (.bool true) ∧ Below w.heap.size w w' := by
  by_cases hl : 60 < len
  · have hk := Lib.hid (known_any w)
    go_enter Try.func3, Try.ntmps3
    go_wp2_with (go_at_call 8; refine hk.out.mono ?_; rintro e w1 ⟨rfl, hb⟩)
    go_ret
    exact ⟨rfl, hb⟩
  · go_enter Try.func3, Try.ntmps3
    go_wp2_with (go_at_call 9; fail)
    refine (fiNew_any w).mono ?_
    rintro e w1 ⟨q, b, m, rfl, hq, hg, h1, h2, h3⟩
    have K1 := KQ.mk hq hg.below h1 h2 h3
    obtain ⟨W, hW⟩ : ∃ W, w1.alloc (.cells #[.slice none 0 0, .int .u64 0] 29) = W := ⟨_, rfl⟩
    have hbox : W.heap[w1.heap.size]? = some (.cells #[.slice none 0 0, .int .u64 0] 29 (0, 0)) := by rw [← hW]; exact heap_alloc_new w1 _
    have HT : Hid (w.heap.size ≤ w1.heap.size) := Lib.hid hg.below.size
    have hd : DSt w W q b m (.slice none 0 0) [] 0 := by rw [← hW]; exact ⟨K1.grown (below_alloc _ _), RowR.nil _ _⟩
    have HS : Hid (DSt w ((W.setCell ⟨w1.heap.size, 0, none⟩ (.slice none 0 0)).setCell ⟨w1.heap.size, 1, none⟩ (.int .u64 0)) q b m (.slice none 0 0) [] 0 ∧ ((W.setCell ⟨w1.heap.size, 0, none⟩ (.slice none 0 0)).setCell ⟨w1.heap.size, 1, none⟩ (.int .u64 0)).heap[w1.heap.size]? = some (.cells #[.slice none 0 0, .int .u64 ((0 : Nat) : Int)] 29 (0, 0))) := Lib.hid
      ⟨hd.put hbox (by decide) (by decide) (by decide) HT.out (fr_put2 _ _ _ _), cells_put2 hbox _ _⟩
    have k0 := cells_cell (o := 0) hbox rfl
    have k1 := cells_cell (o := 1) hbox rfl
    have z0 := cells_free hbox 0
    have z1 := cells_free hbox 1
    have lT := lt_of_block hbox
    clear hq hg h1 h2 h3 K1 hd hbox
    go_wp2_with fail
    clear hW k0 k1 z0 z1 lT
    generalize hW0 : (W.setCell ⟨w1.heap.size, 0, none⟩ (.slice none 0 0)).setCell ⟨w1.heap.size, 1, none⟩ (.int .u64 0) = W0
    rw [hW0] at HS
    clear hW0
    generalize hT : w1.heap.size = T
    rw [hT] at HS HT
    clear hT
    go_loopw [3, 24] (fun qv i wr => ∃ (k g q b m : Nat) (v : Value) (L : Qu), k ≤ len ∧ g ≤ k ∧ qv = .pointer (some ⟨q, 0, none⟩) ∧ i = .int .i64 ((k : Nat) : Int) ∧ Hid (DSt w wr q b m v L g ∧ wr.heap[T]? = some (.cells #[v, .int .u64 ((g : Nat) : Int)] 29 (0, 0)))) (fun _ i _ => len - (intOf i).toNat)
    case atStart => exact ⟨0, 0, q, b, m, _, [], Nat.zero_le _, Nat.le_refl _, rfl, rfl, HS⟩
    case round =>
      clear HS
      obtain ⟨k, g, q, b, m, v, L, hk, hgk, rfl, rfl, HD⟩ := hrel
      by_cases hlt : k < len
      · rcases hr with h0 | ⟨ab, off, rfl, _, hblt, hcs⟩
        · omega
        · obtain ⟨x0, x1, x2, c0, c1, c2, _, _, w3'⟩ := hcs k hlt
          have hbw := HD.out.1.K.below
          have c0 : wr.cell? ⟨ab, off + k * 3, none⟩ = some (.int .i64 x0) := (hbw.cell (p := ⟨ab, off + k * 3, none⟩) hblt).trans c0
          have c1 : wr.cell? ⟨ab, off + k * 3 + 1, none⟩ = some (.int .i64 x1) := (hbw.cell (p := ⟨ab, off + k * 3 + 1, none⟩) hblt).trans c1
          have c2 : wr.cell? ⟨ab, off + k * 3 + 2, none⟩ = some (.int .u64 x2) := (hbw.cell (p := ⟨ab, off + k * 3 + 2, none⟩) hblt).trans c2
          obtain ⟨y0, y1⟩ := bounds_u64 w3'
          obtain ⟨X, rfl⟩ : ∃ X : Nat, x2 = X := ⟨x2.toNat, by omega⟩
          obtain ⟨va, vc, rfl, _, _⟩ := HD.out.1.R.form
          clear hcs hbw w3' y1
          have D1 := HD.out.1.grown (below_alloc wr (.cells #[.int .i64 x0, .int .i64 x1, .int .u64 ((X : Nat) : Int)] 31))
          have hbox1 := ((below_alloc wr (.cells #[.int .i64 x0, .int .i64 x1, .int .u64 ((X : Nat) : Int)] 31)).block T (lt_of_block HD.out.2)).trans HD.out.2
          have k0 := cells_cell (o := 0) hbox1 rfl
          have k1 := cells_cell (o := 1) hbox1 rfl
          have HDO := Lib.hid (do_any D1 (by omega) x0 x1 X)
          have HX1 := Lib.hid hbox1
          have HO1 := Lib.hid (D1.K.Q.out hbox1 (by decide))
          have HTl : Hid (w.heap.size ≤ T) := HT
          clear D1 hbox1 HD
          unfold rq at HDO
          go_wp2_with (go_at_call 10; fail)
          refine HDO.out.mono ?_
          rintro e w2 ⟨hFr, q', b', m', v', L', g', rfl, hD, hg'⟩
          obtain ⟨ua, uc, rfl, _, _⟩ := hD.R.form
          have hbox2 := hFr.same HX1.out HO1.out
          have k0 := cells_cell (o := 0) hbox2 rfl
          have k1 := cells_cell (o := 1) hbox2 rfl
          have z0 := cells_free hbox2 0
          have z1 := cells_free hbox2 1
          have lT := lt_of_block hbox2
          have hput := Lib.hid (cells_put2 hbox2 (.slice ua L'.length uc) (.int .u64 ((g' : Nat) : Int)))
          have HD3 := Lib.hid (hD.put hbox2 (by decide) (by decide) (by decide) HTl.out (fr_put2 w2 T (.slice ua L'.length uc) (.int .u64 ((g' : Nat) : Int))))
          obtain ⟨n, hn⟩ : ∃ n, n = L'.length := ⟨_, rfl⟩
          have HN := Lib.hid hn
          rw [← hn] at hput HD3
          rw [← hn]
          clear hD hFr hbox2 HDO HX1 HO1 hn
          unfold rq
          go_wp2_with (go_at_call 11; fail)
          generalize hW3 : (w2.setCell ⟨T, 0, none⟩ (.slice ua n uc)).setCell ⟨T, 1, none⟩ (.int .u64 ((g' : Nat) : Int)) = W3
          rw [hW3] at hput HD3
          clear hW3 k0 k1 z0 z1 lT
          obtain ⟨x, t, c, hf1, hf2⟩ := fronts HD3.out (by omega)
          have HF2 := Lib.hid hf2
          refine (hf1 W3 (Below.refl _ _)).mono ?_
          rintro e w4 ⟨rfl, hg4⟩
          have hb4 := hg4.below
          have hbox4 := (hb4.block T (lt_of_block hput.out)).trans hput.out
          have HB4 := Lib.hid hb4
          have HX4 := Lib.hid hbox4
          have k0 := cells_cell (o := 0) hbox4 rfl
          have k1 := cells_cell (o := 1) hbox4 rfl
          have lT := lt_of_block hbox4
          clear hf1 hf2 hg4 hb4 hbox4
          go_wp2_with (go_at_call 12; fail)
          refine (HF2.out w4 HB4.out).mono ?_
          rintro e w5 ⟨rfl, hg5⟩
          have hb5 := hg5.below
          have hbox5 := (hb5.block T (lt_of_block HX4.out)).trans HX4.out
          have HD5 := Lib.hid ((HD3.out.grown HB4.out).grown hb5)
          have HX5 := Lib.hid hbox5
          clear hg5 hb5 hbox5 HX4 HB4 HF2 HD3 k0 k1 lT hput
          go_wp2_with fail
          have hld : ∀ W', Below w5.heap.size w5 W' → W'.cell? ⟨T, 0, none⟩ = some (.slice ua n uc) ∧ T < W'.heap.size := fun W' hb =>
            ⟨cells_cell ((hb.block T (lt_of_block HX5.out)).trans HX5.out) rfl, Nat.lt_of_lt_of_le (lt_of_block HX5.out) hb.size⟩
          refine wp_region_float2 (fun W' => Below w5.heap.size w5 W') 29 [0, 1, 2, 3, 5, 6, 7] [4] [8, 9, 10, 11, 12, 13, 14, 15, 16, 17, 18, 19, 20, 21, 22, 23, 24, 25, 26, 27, 28] (by kernel_rfl) (by kernel_rfl) (fun _ _ _ d _ h => by cases d <;> exact h) (Below.refl _ _).drew ?_
          simp only [List.map_cons, List.map_nil, List.getD_cons_zero, List.getD_cons_succ, List.drop_succ_cons, List.drop_zero]
          refine takes_move (.tmp 7) (.bool true) rfl rfl rfl ?_
          simp only [Act.put, List.setIfInBounds_toArray, List.set_cons_zero, List.set_cons_succ]
          refine takes_by (.bool false) rfl (fun W' hS => by go_simp) ?_
          simp only [Act.put, List.setIfInBounds_toArray, List.set_cons_zero, List.set_cons_succ]
          refine takes_move (.tmp 49) (.bool false) rfl rfl rfl ?_
          simp only [Act.put, List.setIfInBounds_toArray, List.set_cons_zero, List.set_cons_succ]
          refine takes_move (.tmp 3) (.pointer (some ⟨q', 0, none⟩)) rfl rfl rfl ?_
          simp only [Act.put, List.setIfInBounds_toArray, List.set_cons_zero, List.set_cons_succ]
          refine takes_by (.pointer (some ⟨T, 0, none⟩)) rfl (fun W' hS => by go_simp) ?_
          simp only [Act.put, List.setIfInBounds_toArray, List.set_cons_zero, List.set_cons_succ]
          refine takes_by (.slice ua n uc) rfl (fun W' hS => by obtain ⟨h0, h1⟩ := hld W' hS; go_simp) ?_
          simp only [Act.put, List.setIfInBounds_toArray, List.set_cons_zero, List.set_cons_succ]
          refine takes_by (.int .i64 ((n : Nat) : Int)) rfl (fun W' hS => by go_simp) ?_
          simp only [Act.put, List.setIfInBounds_toArray, List.set_cons_zero, List.set_cons_succ]
          unfold wpTakes
          have hB6 : Below w5.heap.size w5 w5.drew := (Below.refl _ _).drew
          have HL := fiLen_any (HD5.out.grown hB6).K.Q
          rw [← HN.out] at HL
          refine mids_call 13 #[.pointer (some ⟨q', 0, none⟩)] rfl (by go_simp) HL ?_
          rintro e w6 ⟨rfl, rfl⟩
          refine ⟨_, rfl, hB6, ?_⟩
          simp only [Act.put, List.setIfInBounds_toArray, List.set_cons_zero, List.set_cons_succ]
          unfold wpMids
          refine ⟨hB6, ?_⟩
          refine takes_by (.bool false) rfl (fun W' hS => by go_simp) ?_
          simp only [Act.put, List.setIfInBounds_toArray, List.set_cons_zero, List.set_cons_succ]
          refine takes_by (.bool false) rfl (fun W' hS => by go_simp) ?_
          simp only [Act.put, List.setIfInBounds_toArray, List.set_cons_zero, List.set_cons_succ]
          refine takes_move (.tmp 57) (.bool false) rfl rfl rfl ?_
          simp only [Act.put, List.setIfInBounds_toArray, List.set_cons_zero, List.set_cons_succ]
          refine takes_move (.tmp 8) (.int .i64 x) rfl rfl rfl ?_
          simp only [Act.put, List.setIfInBounds_toArray, List.set_cons_zero, List.set_cons_succ]
          refine takes_move (.tmp 11) (.int .i64 x) rfl rfl rfl ?_
          simp only [Act.put, List.setIfInBounds_toArray, List.set_cons_zero, List.set_cons_succ]
          refine takes_by (.bool false) rfl (fun W' hS => by go_simp) ?_
          simp only [Act.put, List.setIfInBounds_toArray, List.set_cons_zero, List.set_cons_succ]
          refine takes_by (.bool false) rfl (fun W' hS => by go_simp) ?_
          simp only [Act.put, List.setIfInBounds_toArray, List.set_cons_zero, List.set_cons_succ]
          refine takes_move (.tmp 62) (.bool false) rfl rfl rfl ?_
          simp only [Act.put, List.setIfInBounds_toArray, List.set_cons_zero, List.set_cons_succ]
          refine takes_move (.tmp 9) (.int .u64 ((t : Nat) : Int)) rfl rfl rfl ?_
          simp only [Act.put, List.setIfInBounds_toArray, List.set_cons_zero, List.set_cons_succ]
          refine takes_move (.tmp 12) (.int .u64 ((t : Nat) : Int)) rfl rfl rfl ?_
          simp only [Act.put, List.setIfInBounds_toArray, List.set_cons_zero, List.set_cons_succ]
          refine takes_by (.bool false) rfl (fun W' hS => by go_simp) ?_
          simp only [Act.put, List.setIfInBounds_toArray, List.set_cons_zero, List.set_cons_succ]
          refine takes_by (.bool false) rfl (fun W' hS => by go_simp) ?_
          simp only [Act.put, List.setIfInBounds_toArray, List.set_cons_zero, List.set_cons_succ]
          refine takes_move (.tmp 67) (.bool false) rfl rfl rfl ?_
          simp only [Act.put, List.setIfInBounds_toArray, List.set_cons_zero, List.set_cons_succ]
          refine takes_move (.tmp 10) (.int .i64 c) rfl rfl rfl ?_
          simp only [Act.put, List.setIfInBounds_toArray, List.set_cons_zero, List.set_cons_succ]
          refine takes_move (.tmp 13) (.int .i64 c) rfl rfl rfl ?_
          simp only [Act.put, List.setIfInBounds_toArray, List.set_cons_zero, List.set_cons_succ]
          refine takes_by (.bool false) rfl (fun W' hS => by go_simp) ?_
          simp only [Act.put, List.setIfInBounds_toArray, List.set_cons_zero, List.set_cons_succ]
          refine takes_by (.bool false) rfl (fun W' hS => by go_simp) ?_
          simp only [Act.put, List.setIfInBounds_toArray, List.set_cons_zero, List.set_cons_succ]
          refine takes_move (.tmp 72) (.bool false) rfl rfl rfl ?_
          simp only [Act.put, List.setIfInBounds_toArray, List.set_cons_zero, List.set_cons_succ]
          refine takes_move (.tmp 3) (.pointer (some ⟨q', 0, none⟩)) rfl rfl rfl ?_
          simp only [Act.put, List.setIfInBounds_toArray, List.set_cons_zero, List.set_cons_succ]
          refine takes_by (.pointer (some ⟨T, 0, none⟩)) rfl (fun W' hS => by go_simp) ?_
          simp only [Act.put, List.setIfInBounds_toArray, List.set_cons_zero, List.set_cons_succ]
          refine takes_by (.slice ua n uc) rfl (fun W' hS => by obtain ⟨h0, h1⟩ := hld W' hS; go_simp) ?_
          simp only [Act.put, List.setIfInBounds_toArray, List.set_cons_zero, List.set_cons_succ]
          unfold wpTakes
          have HD6 := Lib.hid (HD5.out.grown hB6)
          have HX6 : Hid (w5.drew.heap[T]? = _) := Lib.hid HX5.out
          obtain ⟨W6, hW6⟩ : ∃ X, w5.drew = X := ⟨_, rfl⟩
          rw [hW6] at HD6 HX6 ⊢
          clear hW6 hB6 hld HL
          go_wp2_with (go_at_call 14; fail)
          have hsrc := HD6.out.R.src
          refine (lawAll_any (HD6.out.K.Q.alls (by omega)) hsrc).mono ?_
          rintro e w7 ⟨rfl, hb7⟩
          have hfin : Hid (DSt w w7 q' b' m' (.slice ua n uc) L' g' ∧ w7.heap[T]? = some (.cells #[.slice ua n uc, .int .u64 ((g' : Nat) : Int)] 29 (0, 0))) := Lib.hid ⟨HD6.out.grown hb7, (hb7.block T (lt_of_block HX6.out)).trans HX6.out⟩
          clear hb7 hsrc HD6 HX6 HD5 HX5
          go_wp2_with fail
          go_roundw
          case rel => exact ⟨k + 1, g', q', b', m', _, L', by omega, by omega, rfl, by go_num, hfin⟩
          case measure => simp [intOf]; omega
      · obtain rfl : k = len := by omega
        clear hr
        go_wp2_with (go_at_call 8; fail)
        refine (known_any _).mono ?_
        rintro e w4 ⟨rfl, hb⟩
        go_wp2_with fail
        go_ret
        exact ⟨rfl, HD.out.1.K.below.trans (hb.mono HD.out.1.K.below.size)⟩
end Go.Proofs.Ytopkikdbhapfmaa
