/- The walk of TaskOwn. -/
import Derived.Test.YtifdpdghjfcaaaaDoorFPlays
namespace Go.Proofs.YtifdpdghjfcaaaaDoor
open Go.RowKit Go.Sort
set_option linter.unusedVariables false
set_option linter.unusedSimpArgs false

set_option maxRecDepth 100000 in
set_option maxHeartbeats 12800000 in
theorem taskOwn_walk (c : Int) (sa : Option Addr) (len cap : Nat) (w : World) (hc : (Lit.int .i64 c).wf = true) (hr : IsActs8 w sa len cap) (hmv : MvAt w) :
    Calls Tryd.prog 4 #[.int .i64 c, .slice sa len cap] w fun e w' => e = .returned (.bool true) ∧ Below w.heap.size w w' := by
  clear hc
  by_cases hbad : 80 < len ∨ c < 1 ∨ 64 < c
  · have hk := Lib.hid (known_any w hmv)
    clear hr hmv
    go_enter Tryd.func4, Tryd.ntmps4
    by_cases h1 : 80 < len
    · have h1' : (80 : Int) < (len : Int) := by omega
      go_wp2_with (go_at_call 8; refine hk.out.mono ?_; rintro e w1 ⟨rfl, hb⟩)
      go_ret
      exact ⟨rfl, hb⟩
    · have h1' : decide ((80 : Int) < (len : Int)) = false := by simp; omega
      by_cases h2 : c < 1
      · go_wp2_with (go_at_call 8; refine hk.out.mono ?_; rintro e w1 ⟨rfl, hb⟩)
        go_ret
        exact ⟨rfl, hb⟩
      · have h2' : decide (c < 1) = false := by simp; omega
        have h3' : 64 < c := by omega
        go_wp2_with (go_at_call 8; refine hk.out.mono ?_; rintro e w1 ⟨rfl, hb⟩)
        go_ret
        exact ⟨rfl, hb⟩
  · obtain ⟨n, rfl⟩ : ∃ n : Nat, c = ((n : Nat) : Int) := ⟨c.toNat, by omega⟩
    have HN : Hid (1 ≤ n ∧ n ≤ 64 ∧ len ≤ 80) := Lib.hid (by omega)
    have HMV := Lib.hid hmv
    have g1 : decide (((n : Nat) : Int) < 1) = false := by simp; omega
    have g2 : decide ((64 : Int) < ((n : Nat) : Int)) = false := by simp; omega
    have g3 : decide ((80 : Int) < ((len : Nat) : Int)) = false := by simp; omega
    clear hbad hmv
    go_enter Tryd.func4, Tryd.ntmps4
    go_wp2_with (go_at_call 9; fail)
    refine (tkNew_ok w HMV.out n HN.out.1 HN.out.2.1).mono ?_
    rintro e w1 ⟨l, rfl, hT, hb1⟩
    have HK1 := Lib.hid (ks_new (Below.refl _ _) HMV.out.lt hT hb1)
    clear hT hb1 g1 g2 g3
    go_wp2_with (go_at_call 10; fail)
    have hrn := refNew_ok w1 n HN.out.1 HN.out.2.1
    unfold rk at hrn
    refine hrn.mono ?_
    rintro e w2 ⟨s, rfl, hs, hb2⟩
    obtain ⟨s1, s2, s3, rfl⟩ := row_form hs
    have hba := below_alloc w2 (.cells #[.slice s1 s2 s3, .slice none 0 0] 30)
    have HS := Lib.hid (And.intro (est_new HK1.out hs hb2 hba) (block_new w2 (.cells #[.slice s1 s2 s3, .slice none 0 0] 30) _ rfl))
    have HTl : Hid (w.heap.size ≤ w2.heap.size) := Lib.hid (Nat.le_trans HK1.out.below.size hb2.size)
    clear hs hb2 hba hrn HK1
    go_upto_region 5 with (fail)
    generalize w2.alloc (.cells #[.slice s1 s2 s3, .slice none 0 0] 30) = W at *
    generalize w2.heap.size = T at *
    go_wp2_with fail
    go_loopw [5, 44] (fun tv i wr => ∃ (k g : Nat) (l : Tl) (P : Ks) (Q : Qu) (s r : Value), k ≤ len ∧ tv = .pointer (some ⟨l.t, 0, none⟩) ∧ i = .int .i64 ((k : Nat) : Int) ∧ Hid (ESt w wr l P Q g s r n k ∧ wr.heap[T]? = some (.cells #[s, r] 30 (0, 0)))) (fun _ i _ => len - (intOf i).toNat)
    case atStart => exact ⟨0, 0, l, _, [], _, _, Nat.zero_le _, rfl, rfl, HS⟩
    case round =>
      clear HS
      obtain ⟨k, g, l, P, Q, s, r, hk, rfl, rfl, HD⟩ := hrel
      by_cases hlt : k < len
      · rcases hr with h0 | ⟨ab, off, rfl, _, hblt, hcs⟩
        · omega
        · obtain ⟨x0, x1, c0, c1, _, _⟩ := hcs k hlt
          have hbw := HD.out.1.K.below
          have c0 : wr.cell? ⟨ab, off + k * 2, none⟩ = some (.int .i64 x0) := (hbw.cell (p := ⟨ab, off + k * 2, none⟩) hblt).trans c0
          have c1 : wr.cell? ⟨ab, off + k * 2 + 1, none⟩ = some (.int .i64 x1) := (hbw.cell (p := ⟨ab, off + k * 2 + 1, none⟩) hblt).trans c1
          obtain ⟨p1, p2, p3, rfl⟩ := row_form HD.out.1.rs
          obtain ⟨r1, r2, r3, rfl⟩ := row_form HD.out.1.rr
          clear hcs hbw
          have hba := below_alloc wr (.cells #[.int .i64 x0, .int .i64 x1] 34)
          have D1 := HD.out.1.grown hba
          have hbox1 := (hba.block T (lt_of_block HD.out.2)).trans HD.out.2
          have k0 := cells_cell (o := 0) hbox1 rfl
          have k1 : (wr.alloc (.cells #[.int .i64 x0, .int .i64 x1] 34)).cell? ⟨T, 1, none⟩ = some (.slice r1 r2 r3) := cells_cell hbox1 rfl
          have tl := lt_of_block hbox1
          have HDO := Lib.hid (do_any D1 (by have := HN.out.2.2; omega) x0 x1)
          have HX1 := Lib.hid hbox1
          have HO1 := Lib.hid (D1.K.K.out hbox1 (by decide) (by decide))
          clear D1 hbox1 HD hba
          unfold rk at HDO
          go_wp2_with (go_at_call 11; fail)
          clear k0 k1 tl
          refine HDO.out.mono ?_
          rintro e w3 ⟨hFr, l', P', Q', g', s', r', rfl, hD⟩
          obtain ⟨u1, u2, u3, rfl⟩ := row_form hD.rs
          obtain ⟨v1, v2, v3, rfl⟩ := row_form hD.rr
          have hbox2 := hFr.same HX1.out HO1.out
          have k0 := cells_cell (o := 0) hbox2 rfl
          have k1 : w3.cell? ⟨T, 1, none⟩ = some (.slice r1 r2 r3) := cells_cell hbox2 rfl
          have z0 := cells_free hbox2 0
          have z1 := cells_free hbox2 1
          have lT := lt_of_block hbox2
          have hf5 := (fr_setCell w3 ⟨T, 0, none⟩ (.slice u1 u2 u3)).trans' (fr_setCell _ ⟨T, 1, none⟩ (.slice v1 v2 v3))
          have HD5 := Lib.hid (hD.put hbox2 (by decide) (by decide) (by decide) (by decide) (by decide) HTl.out hf5)
          have HX5 : Hid (((w3.setCell ⟨T, 0, none⟩ (.slice u1 u2 u3)).setCell ⟨T, 1, none⟩ (.slice v1 v2 v3)).heap[T]? = some (.cells #[.slice u1 u2 u3, .slice v1 v2 v3] 30 (0, 0))) := Lib.hid (by simpa using cells_set (cells_set hbox2 0 (.slice u1 u2 u3)) 1 (.slice v1 v2 v3))
          clear hD hFr hbox2 HDO HX1 HO1 hf5
          unfold rk
          go_upto_region 11 with (fail)
          generalize (w3.setCell ⟨T, 0, none⟩ (.slice u1 u2 u3)).setCell ⟨T, 1, none⟩ (.slice v1 v2 v3) = w5 at *
          clear k0 k1 z0 z1 lT
          go_wp2_with (go_at_call 13; fail)
          refine (tkReady_yes HD5.out.K.K (by have := HD5.out.g; have := HN.out.2.2; omega)).mono ?_
          rintro e w6 ⟨u, rfl, hrow, hb6⟩
          obtain ⟨xa, xc, rfl, -, -⟩ := hrow.form
          obtain ⟨Y, hY⟩ : ∃ Y, Y = Q'.map Prod.snd := ⟨_, rfl⟩
          rw [← hY] at hrow ⊢
          obtain ⟨M, hM⟩ : ∃ M, M = Y.length := ⟨_, rfl⟩
          rw [← hM] at hrow ⊢
          have HR6 := Lib.hid (And.intro hrow hM)
          have HM : Hid (M ≤ 1000) := Lib.hid (by have := HD5.out.K.K.ql; have := HD5.out.g; have := HN.out.2.2; rw [hM, hY, List.length_map]; omega)
          have HB6 := Lib.hid hb6
          clear hrow hM hY hb6
          go_wp2_with fail
          go_loopw [60] (fun i wr => ∃ (j : Nat) (Y : List Int), j ≤ M ∧ i = .int .i64 ((j : Nat) : Int) ∧ Hid (Row TI wr w5.heap.size (.slice xa M xc) Y ∧ M = Y.length ∧ Below w5.heap.size w5 wr)) (fun i _ => M - (intOf i).toNat)
          case atStart => exact ⟨0, Y, Nat.zero_le _, rfl, Lib.hid ⟨HR6.out.1, HR6.out.2, HB6.out⟩⟩
          case round =>
            clear HR6 HB6
            obtain ⟨j, Y, hj, rfl, HE⟩ := hrel
            have hMI : ((M : Nat) : Int) ≤ 1000 := by have := HM.out; omega
            by_cases hlt2 : j < M
            · have hjY : j < Y.length := by rw [← HE.out.2.1]; exact hlt2
              obtain ⟨xb, xe, hv, hxl, hal, hfr, hcell⟩ := HE.out.1.at TI_ok (List.getElem?_eq_getElem hjY)
              simp only [Value.slice.injEq] at hv
              obtain ⟨rfl, -, rfl⟩ := hv
              have cx := hcell 0 _ rfl
              have cx : wr.cell? ⟨xb, j, none⟩ = some (.int .i64 Y[j]) := by simpa [TI] using cx
              have fx := hfr j
              have hjI : ((j : Nat) : Int) < ((M : Nat) : Int) := by omega
              have hf := fr_setCell wr ⟨xb, j, none⟩ (.int .i64 (-1))
              have hset : Row TI (wr.setCell ⟨xb, j, none⟩ (.int .i64 (-1))) w5.heap.size (.slice (some ⟨xb, 0, none⟩) M xc) (Y.set j (-1)) := by
                have h := HE.out.1
                rw [HE.out.2.1] at h ⊢
                have := Row.set TI_ok h (j := j) (i := 0) (x := Y[j]) (y := -1) (u := .int .i64 (-1)) (List.getElem?_eq_getElem hjY) (by decide) rfl
                simpa [TI] using this
              have HE2 : Hid (Row TI (wr.setCell ⟨xb, j, none⟩ (.int .i64 (-1))) w5.heap.size (.slice (some ⟨xb, 0, none⟩) M xc) (Y.set j (-1)) ∧ M = (Y.set j (-1)).length ∧ Below w5.heap.size w5 (wr.setCell ⟨xb, j, none⟩ (.int .i64 (-1)))) := Lib.hid
                ⟨hset, by rw [List.length_set]; exact HE.out.2.1, HE.out.2.2.trans (hf.below (B := w5.heap.size) (fun y hy => by simp at hy; omega) HE.out.2.2.size)⟩
              generalize Y[j] = q at *
              clear hset hf hcell hfr HE hjY
              go_wp2_with fail
              go_roundw
              case rel => exact ⟨j + 1, _, by omega, by go_num, HE2⟩
              case measure => simp [intOf]; omega
            · obtain rfl : j = M := by omega
              have HFIN : Hid (ESt w wr l' P' Q' g' (.slice u1 u2 u3) (.slice v1 v2 v3) n (k + 1) ∧ wr.heap[T]? = some (.cells #[.slice u1 u2 u3, .slice v1 v2 v3] 30 (0, 0))) := Lib.hid ⟨HD5.out.grown HE.out.2.2, (HE.out.2.2.block T (lt_of_block HX5.out)).trans HX5.out⟩
              clear HE HD5 HX5
              go_wp2_with fail
              go_roundw
              case rel => exact ⟨k + 1, g', l', P', Q', _, _, by omega, rfl, by go_num, HFIN⟩
              case measure => simp [intOf]; omega
      · obtain rfl : k = len := by omega
        clear hr
        obtain ⟨p1, p2, p3, rfl⟩ := row_form HD.out.1.rs
        obtain ⟨r1, r2, r3, rfl⟩ := row_form HD.out.1.rr
        have k0 := cells_cell (o := 0) HD.out.2 rfl
        have k1 : wr.cell? ⟨T, 1, none⟩ = some (.slice r1 r2 r3) := cells_cell HD.out.2 rfl
        have lT := lt_of_block HD.out.2
        go_wp2_with (go_at_call 12; fail)
        have hlk := looks_any HD.out.1 (by have := HN.out.2.2; omega)
        unfold rk at hlk
        refine hlk.mono ?_
        rintro e w6 ⟨rfl, hb6⟩
        have HD6 := Lib.hid (HD.out.1.grown hb6)
        clear hlk hb6 HD k0 k1 lT
        go_wp2_with (go_at_call 8; fail)
        refine (known_any _ HD6.out.K.K.mv).mono ?_
        rintro e w4 ⟨rfl, hb⟩
        go_wp2_with fail
        go_ret
        exact ⟨rfl, HD6.out.K.below.trans (hb.mono HD6.out.K.below.size)⟩
end Go.Proofs.YtifdpdghjfcaaaaDoor
