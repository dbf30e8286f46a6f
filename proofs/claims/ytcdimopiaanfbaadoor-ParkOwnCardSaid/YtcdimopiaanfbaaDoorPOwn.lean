/- The walk of ParkOwn. -/
import Derived.Test.YtcdimopiaanfbaaDoorPPlay
namespace Go.Proofs.YtcdimopiaanfbaaDoor
open Go.RowKit Go.Sort
set_option linter.unusedVariables false
set_option linter.unusedSimpArgs false

set_option maxRecDepth 100000 in
set_option maxHeartbeats 12800000 in
theorem parkOwn_walk (c : Int) (sa : Option Addr) (len cap : Nat) (w : World) (hc : (Lit.int .i64 c).wf = true) (hr : IsActs9 w sa len cap) (hmv : MvAt w) :
    Calls Tryd.prog 4 #[.int .i64 c, .slice sa len cap] w fun e w' => e = .returned (.bool true) ∧ Below w.heap.size w w' := by
  clear hc
  by_cases hbad : 80 < len ∨ c < 1 ∨ 64 < c
  · have hk := Lib.hid (known_any w hmv)
    clear hr hmv
    go_enter Tryd.func4, Tryd.ntmps4
    by_cases h1 : 80 < len
    · have h1' : (80 : Int) < (len : Int) := by omega
      go_wp2_with (go_at_call 8; refine hk.out.mono ?_; rintro e w1 ⟨rfl, hb⟩)
      go_ret
      exact ⟨rfl, hb⟩
    · have h1' : decide ((80 : Int) < (len : Int)) = false := by simp; omega
      by_cases h2 : c < 1
      · go_wp2_with (go_at_call 8; refine hk.out.mono ?_; rintro e w1 ⟨rfl, hb⟩)
        go_ret
        exact ⟨rfl, hb⟩
      · have h2' : decide (c < 1) = false := by simp; omega
        have h3' : 64 < c := by omega
        go_wp2_with (go_at_call 8; refine hk.out.mono ?_; rintro e w1 ⟨rfl, hb⟩)
        go_ret
        exact ⟨rfl, hb⟩
  · obtain ⟨n, rfl⟩ : ∃ n : Nat, c = ((n : Nat) : Int) := ⟨c.toNat, by omega⟩
    have HN : Hid (1 ≤ n ∧ n ≤ 64 ∧ len ≤ 80) := Lib.hid (by omega)
    have HMV := Lib.hid hmv
    have g1 : decide (((n : Nat) : Int) < 1) = false := by simp; omega
    have g2 : decide ((64 : Int) < ((n : Nat) : Int)) = false := by simp; omega
    have g3 : decide ((80 : Int) < ((len : Nat) : Int)) = false := by simp; omega
    clear hbad hmv
    go_enter Tryd.func4, Tryd.ntmps4
    go_wp2_with (go_at_call 9; fail)
    refine (pkNew_ok (B := w.heap.size) (S := fun x => w.heap.size ≤ x) w HMV.out (Nat.le_refl _) HMV.out.lt (fun x hx => hx) (fun x hx => hx) n HN.out.1 HN.out.2.1).mono ?_
    rintro e w1 ⟨l, rfl, hL, hb1⟩
    have HK1 := Lib.hid (kl_new (Below.refl _ _) hL hb1)
    clear hL hb1 g1 g2 g3
    go_wp2_with (go_at_call 10; fail)
    have hrn := g9New_ok w1 n HN.out.1 HN.out.2.1
    unfold rlv at hrn
    refine hrn.mono ?_
    rintro e w2 ⟨s, r, x, rfl, hs, hb2⟩
    obtain ⟨s1, s2, s3, r1, r2, r3, x1, x2, x3, rfl, rfl, rfl⟩ := rl_form hs
    have hba := below_alloc w2 (.cells #[.slice s1 s2 s3, .slice r1 r2 r3, .slice x1 x2 x3] 33)
    have hE0 : E9 w w2 l (Z0 n) 0 (.slice s1 s2 s3) (.slice r1 r2 r3) (.slice x1 x2 x3) 0 := ⟨HK1.out.grown hb2, hs.lower HK1.out.below.size, Nat.zero_le _⟩
    have HS := Lib.hid (And.intro (hE0.grown hba) (block_new w2 (.cells #[.slice s1 s2 s3, .slice r1 r2 r3, .slice x1 x2 x3] 33) _ rfl))
    have HTl : Hid (w.heap.size ≤ w2.heap.size) := Lib.hid (Nat.le_trans HK1.out.below.size hb2.size)
    clear hs hb2 hba hrn HK1 hE0
    go_upto_region 5 with (fail)
    generalize w2.alloc (.cells #[.slice s1 s2 s3, .slice r1 r2 r3, .slice x1 x2 x3] 33) = W at *
    generalize w2.heap.size = T at *
    go_wp2_with fail
    go_loopw [5, 47] (fun tv i wr => ∃ (k G : Nat) (l : Ll) (z : Zt) (s r x : Value), k ≤ len ∧ tv = .pointer (some ⟨l.a, 0, none⟩) ∧ i = .int .i64 ((k : Nat) : Int) ∧ Hid (E9 w wr l z G s r x k ∧ wr.heap[T]? = some (.cells #[s, r, x] 33 (0, 0)))) (fun _ i _ => len - (intOf i).toNat)
    case atStart => exact ⟨0, 0, l, _, _, _, _, Nat.zero_le _, rfl, rfl, HS⟩
    case round =>
      clear HS
      obtain ⟨k, G, l, z, s, r, x, hk, rfl, rfl, HD⟩ := hrel
      by_cases hlt : k < len
      · rcases hr with h0 | ⟨ab, off, rfl, _, hblt, hcs⟩
        · omega
        · obtain ⟨a0, a1, a2, a3, c0, c1, c2, c3, -⟩ := hcs k hlt
          have hbw := HD.out.1.K.below
          have c0 : wr.cell? ⟨ab, off + k * 4, none⟩ = some (.int .i64 a0) := (hbw.cell (p := ⟨ab, off + k * 4, none⟩) hblt).trans c0
          have c1 : wr.cell? ⟨ab, off + k * 4 + 1, none⟩ = some (.int .i64 a1) := (hbw.cell (p := ⟨ab, off + k * 4 + 1, none⟩) hblt).trans c1
          have c2 : wr.cell? ⟨ab, off + k * 4 + 2, none⟩ = some (.int .i64 a2) := (hbw.cell (p := ⟨ab, off + k * 4 + 2, none⟩) hblt).trans c2
          have c3 : wr.cell? ⟨ab, off + k * 4 + 3, none⟩ = some (.int .i64 a3) := (hbw.cell (p := ⟨ab, off + k * 4 + 3, none⟩) hblt).trans c3
          obtain ⟨p1, p2, p3, r1, r2, r3, x1, x2, x3, rfl, rfl, rfl⟩ := rl_form HD.out.1.R
          clear hcs hbw
          have hba := below_alloc wr (.cells #[.int .i64 a0, .int .i64 a1, .int .i64 a2, .int .i64 a3] 40)
          have D1 := HD.out.1.grown hba
          have hbox1 := (hba.block T (lt_of_block HD.out.2)).trans HD.out.2
          have k0 : (wr.alloc (.cells #[.int .i64 a0, .int .i64 a1, .int .i64 a2, .int .i64 a3] 40)).cell? ⟨T, 0, none⟩ = some (.slice p1 p2 p3) := cells_cell hbox1 rfl
          have k1 : (wr.alloc (.cells #[.int .i64 a0, .int .i64 a1, .int .i64 a2, .int .i64 a3] 40)).cell? ⟨T, 1, none⟩ = some (.slice r1 r2 r3) := cells_cell hbox1 rfl
          have k2 : (wr.alloc (.cells #[.int .i64 a0, .int .i64 a1, .int .i64 a2, .int .i64 a3] 40)).cell? ⟨T, 2, none⟩ = some (.slice x1 x2 x3) := cells_cell hbox1 rfl
          have tl := lt_of_block hbox1
          have HAC := Lib.hid (block_new wr (.cells #[.int .i64 a0, .int .i64 a1, .int .i64 a2, .int .i64 a3] 40) _ rfl)
          have HDO := Lib.hid (do9_any D1 (by have := HN.out.2.2; omega) a0 a1 a2 a3)
          have HX1 := Lib.hid hbox1
          have HTW : Hid (T ≠ wr.heap.size) := Lib.hid (by have := lt_of_block HD.out.2; omega)
          clear D1 hbox1 HD hba
          unfold rlv at HDO
          go_wp2_with (go_at_call 11; fail)
          clear k0 k1 k2 tl
          refine HDO.out.mono ?_
          rintro e w3 ⟨hFr, l', z', G', s', r', x', rfl, hD⟩
          obtain ⟨u1, u2, u3, v1, v2, v3, y1, y2, y3, rfl, rfl, rfl⟩ := rl_form hD.R
          have hbox2 := hFr.block HX1.out (by decide) (by decide)
          replace HAC := Lib.hid (hFr.block HAC.out (by decide) (by decide))
          have k0 : w3.cell? ⟨T, 0, none⟩ = some (.slice p1 p2 p3) := cells_cell hbox2 rfl
          have k1 : w3.cell? ⟨T, 1, none⟩ = some (.slice r1 r2 r3) := cells_cell hbox2 rfl
          have k2 : w3.cell? ⟨T, 2, none⟩ = some (.slice x1 x2 x3) := cells_cell hbox2 rfl
          have z0 := cells_free hbox2 0
          have z1 := cells_free hbox2 1
          have z2 := cells_free hbox2 2
          have lT := lt_of_block hbox2
          have hf5 := ((fr_setCell w3 ⟨T, 0, none⟩ (.slice u1 u2 u3)).trans' (fr_setCell _ ⟨T, 1, none⟩ (.slice v1 v2 v3))).trans' (fr_setCell _ ⟨T, 2, none⟩ (.slice y1 y2 y3))
          have HD5 := Lib.hid (hD.put hbox2 HTl.out hf5)
          have HX5 : Hid ((((w3.setCell ⟨T, 0, none⟩ (.slice u1 u2 u3)).setCell ⟨T, 1, none⟩ (.slice v1 v2 v3)).setCell ⟨T, 2, none⟩ (.slice y1 y2 y3)).heap[T]? = some (.cells #[.slice u1 u2 u3, .slice v1 v2 v3, .slice y1 y2 y3] 33 (0, 0))) := Lib.hid (by simpa using cells_set (cells_set (cells_set hbox2 0 (.slice u1 u2 u3)) 1 (.slice v1 v2 v3)) 2 (.slice y1 y2 y3))
          replace HAC := Lib.hid (hf5.same HAC.out (by have := HTW.out; simp; omega))
          clear hD hFr hbox2 HDO HX1 hf5 HTW
          unfold rlv
          go_upto_region 11 with (fail)
          generalize ((w3.setCell ⟨T, 0, none⟩ (.slice u1 u2 u3)).setCell ⟨T, 1, none⟩ (.slice v1 v2 v3)).setCell ⟨T, 2, none⟩ (.slice y1 y2 y3) = w5 at *
          generalize wr.heap.size = ka at *
          clear k0 k1 k2 z0 z1 z2 lT
          have b2 : w5.cell? ⟨ka, 2, none⟩ = some (.int .i64 a2) := cells_cell HAC.out rfl
          have bl := lt_of_block HAC.out
          have HGB : Hid (G' ≤ 10000) := Lib.hid (HD5.out.gb (by have := HN.out.2.2; omega))
          have HZK := Lib.hid HD5.out.K.K.zk
          clear b2 bl
          go_wp2_with (go_at_call 13; fail)
          refine (pkReady_any HD5.out.K.K (by have := HGB.out; omega)).mono ?_
          rintro e w6 ⟨u, rfl, hrow, hb6⟩
          obtain ⟨xa, xc, rfl, -, -⟩ := hrow.form
          obtain ⟨Y, hY⟩ : ∃ Y, Y = z'.R := ⟨_, rfl⟩
          rw [← hY] at hrow ⊢
          obtain ⟨M, hM⟩ : ∃ M, M = Y.length := ⟨_, rfl⟩
          rw [← hM] at hrow ⊢
          have HM : Hid (M ≤ 64) := Lib.hid (by have := HZK.out.r; rw [hM, hY]; omega)
          have HAC6 := Lib.hid (box_below hb6 HAC.out)
          have b2 : w6.cell? ⟨ka, 2, none⟩ = some (.int .i64 a2) := cells_cell HAC6.out rfl
          have b3 : w6.cell? ⟨ka, 3, none⟩ = some (.int .i64 a3) := cells_cell HAC6.out rfl
          have bl := lt_of_block HAC6.out
          have HL6 := Lib.hid (HD5.out.K.K.grown hb6)
          have HR6 := Lib.hid (And.intro hrow hM)
          have HB6 := Lib.hid hb6
          clear hrow hM hY hb6
          go_wp2_with (go_at_call 14; fail)
          refine (pkWaiting_any HL6.out (by have := HGB.out; omega) (a2, a3)).mono ?_
          rintro e w7 ⟨u, rfl, hrow2, hb7⟩
          clear b2 b3 bl
          obtain ⟨ya, yc, rfl, -, -⟩ := hrow2.form
          have hXW : (waC z' (a2, a3)).1.length ≤ 64 := by
            rw [waC_wt]
            have := wtC_len z' (a2, a3)
            have := HZK.out.l
            simp [cat]
            omega
          generalize (waC z' (a2, a3)).1 = Y2 at *
          generalize (waC z' (a2, a3)).2 = cd at *
          obtain ⟨M2, hM2⟩ : ∃ M2, M2 = Y2.length := ⟨_, rfl⟩
          rw [← hM2] at hrow2 hXW ⊢
          have HM2 := Lib.hid hXW
          have HLT : Hid (∀ g, (Value.slice xa M xc).ownBlock = some g → g < w6.heap.size) := Lib.hid (fun g hg => (HR6.out.1.lt g hg).2)
          have HGE : Hid (∀ g, (Value.slice ya M2 yc).ownBlock = some g → w6.heap.size ≤ g) := Lib.hid (fun g hg => (hrow2.lt g hg).1)
          have HR7 : Hid (Row TI w7 w5.heap.size (.slice xa M xc) Y ∧ M = Y.length ∧ Below w5.heap.size w5 w7 ∧ Row TI w7 w5.heap.size (.slice ya M2 yc) Y2) := Lib.hid ⟨HR6.out.1.below hb7, HR6.out.2, HB6.out.trans (hb7.mono HB6.out.size), hrow2.lower HB6.out.size⟩
          have HM2L := Lib.hid hM2
          clear hrow2 hb7 hM2 hXW HR6 HB6 HL6 HAC6
          go_wp2_with fail
          go_loopw [70] (fun i wr => ∃ (j : Nat) (Y : List Int), j ≤ M ∧ i = .int .i64 ((j : Nat) : Int) ∧ Hid (Row TI wr w5.heap.size (.slice xa M xc) Y ∧ M = Y.length ∧ Below w5.heap.size w5 wr ∧ Row TI wr w5.heap.size (.slice ya M2 yc) Y2)) (fun i _ => M - (intOf i).toNat)
          case atStart => exact ⟨0, Y, Nat.zero_le _, rfl, HR7⟩
          case round =>
            clear HR7
            obtain ⟨j, Y, hj, rfl, HE⟩ := hrel
            have hMI : ((M : Nat) : Int) ≤ 64 := by have := HM.out; omega
            by_cases hlt2 : j < M
            · have hjY : j < Y.length := by rw [← HE.out.2.1]; exact hlt2
              obtain ⟨xb, xe, hv, hxl, hal, hfr, hcell⟩ := HE.out.1.at TI_ok (List.getElem?_eq_getElem hjY)
              simp only [Value.slice.injEq] at hv
              obtain ⟨rfl, -, rfl⟩ := hv
              have cx := hcell 0 _ rfl
              have cx : wr.cell? ⟨xb, j, none⟩ = some (.int .i64 Y[j]) := by simpa [TI] using cx
              have fx := hfr j
              have hjI : ((j : Nat) : Int) < ((M : Nat) : Int) := by omega
              have hf := fr_setCell wr ⟨xb, j, none⟩ (.int .i64 (-1))
              have hset : Row TI (wr.setCell ⟨xb, j, none⟩ (.int .i64 (-1))) w5.heap.size (.slice (some ⟨xb, 0, none⟩) M xc) (Y.set j (-1)) := by
                have h := HE.out.1
                rw [HE.out.2.1] at h ⊢
                have := Row.set TI_ok h (j := j) (i := 0) (x := Y[j]) (y := -1) (u := .int .i64 (-1)) (List.getElem?_eq_getElem hjY) (by decide) rfl
                simpa [TI] using this
              have hother : Row TI (wr.setCell ⟨xb, j, none⟩ (.int .i64 (-1))) w5.heap.size (.slice ya M2 yc) Y2 := HE.out.2.2.2.fr hf (fun g hg hm => by
                have h1 := HGE.out g hg
                have h2 := HLT.out xb rfl
                simp at hm
                omega)
              have HE2 : Hid (Row TI (wr.setCell ⟨xb, j, none⟩ (.int .i64 (-1))) w5.heap.size (.slice (some ⟨xb, 0, none⟩) M xc) (Y.set j (-1)) ∧ M = (Y.set j (-1)).length ∧ Below w5.heap.size w5 (wr.setCell ⟨xb, j, none⟩ (.int .i64 (-1))) ∧ Row TI (wr.setCell ⟨xb, j, none⟩ (.int .i64 (-1))) w5.heap.size (.slice ya M2 yc) Y2) := Lib.hid
                ⟨hset, by rw [List.length_set]; exact HE.out.2.1, HE.out.2.2.1.trans (hf.below (B := w5.heap.size) (fun y hy => by simp at hy; omega) HE.out.2.2.1.size), hother⟩
              generalize Y[j] = q at *
              clear hset hf hcell hfr HE hjY hother
              go_wp2_with fail
              go_roundw
              case rel => exact ⟨j + 1, _, by omega, by go_num, HE2⟩
              case measure => simp [intOf]; omega
            · obtain rfl : j = M := by omega
              have HF7 : Hid (Row TI wr w5.heap.size (.slice ya M2 yc) Y2 ∧ M2 = Y2.length ∧ Below w5.heap.size w5 wr) := Lib.hid ⟨HE.out.2.2.2, HM2L.out, HE.out.2.2.1⟩
              clear HE HLT HGE HM2L
              go_wp2_with fail
              go_loopw [79] (fun i wr => ∃ (j : Nat) (Y : List Int), j ≤ M2 ∧ i = .int .i64 ((j : Nat) : Int) ∧ Hid (Row TI wr w5.heap.size (.slice ya M2 yc) Y ∧ M2 = Y.length ∧ Below w5.heap.size w5 wr)) (fun i _ => M2 - (intOf i).toNat)
              case atStart => exact ⟨0, Y2, Nat.zero_le _, rfl, HF7⟩
              case round =>
                clear HF7
                obtain ⟨j2, Y3, hj2, rfl, HE⟩ := hrel
                have hMI2 : ((M2 : Nat) : Int) ≤ 64 := by have := HM2.out; omega
                by_cases hlt3 : j2 < M2
                · have hjY : j2 < Y3.length := by rw [← HE.out.2.1]; exact hlt3
                  obtain ⟨xb, xe, hv, hxl, hal, hfr, hcell⟩ := HE.out.1.at TI_ok (List.getElem?_eq_getElem hjY)
                  simp only [Value.slice.injEq] at hv
                  obtain ⟨rfl, -, rfl⟩ := hv
                  have cx := hcell 0 _ rfl
                  have cx : wr.cell? ⟨xb, j2, none⟩ = some (.int .i64 Y3[j2]) := by simpa [TI] using cx
                  have fx := hfr j2
                  have hjI : ((j2 : Nat) : Int) < ((M2 : Nat) : Int) := by omega
                  have hf := fr_setCell wr ⟨xb, j2, none⟩ (.int .i64 (-1))
                  have hset : Row TI (wr.setCell ⟨xb, j2, none⟩ (.int .i64 (-1))) w5.heap.size (.slice (some ⟨xb, 0, none⟩) M2 yc) (Y3.set j2 (-1)) := by
                    have h := HE.out.1
                    rw [HE.out.2.1] at h ⊢
                    have := Row.set TI_ok h (j := j2) (i := 0) (x := Y3[j2]) (y := -1) (u := .int .i64 (-1)) (List.getElem?_eq_getElem hjY) (by decide) rfl
                    simpa [TI] using this
                  have HE2 : Hid (Row TI (wr.setCell ⟨xb, j2, none⟩ (.int .i64 (-1))) w5.heap.size (.slice (some ⟨xb, 0, none⟩) M2 yc) (Y3.set j2 (-1)) ∧ M2 = (Y3.set j2 (-1)).length ∧ Below w5.heap.size w5 (wr.setCell ⟨xb, j2, none⟩ (.int .i64 (-1)))) := Lib.hid
                    ⟨hset, by rw [List.length_set]; exact HE.out.2.1, HE.out.2.2.trans (hf.below (B := w5.heap.size) (fun y hy => by simp at hy; omega) HE.out.2.2.size)⟩
                  generalize Y3[j2] = q at *
                  clear hset hf hcell hfr HE hjY
                  go_wp2_with fail
                  go_roundw
                  case rel => exact ⟨j2 + 1, _, by omega, by go_num, HE2⟩
                  case measure => simp [intOf]; omega
                · obtain rfl : j2 = M2 := by omega
                  have HFIN : Hid (E9 w wr l' z' G' (.slice u1 u2 u3) (.slice v1 v2 v3) (.slice y1 y2 y3) (k + 1) ∧ wr.heap[T]? = some (.cells #[.slice u1 u2 u3, .slice v1 v2 v3, .slice y1 y2 y3] 33 (0, 0))) := Lib.hid ⟨HD5.out.grown HE.out.2.2, (HE.out.2.2.block T (lt_of_block HX5.out)).trans HX5.out⟩
                  clear HE HD5 HX5 HAC
                  go_wp2_with fail
                  go_roundw
                  case rel => exact ⟨k + 1, G', l', z', _, _, _, by omega, rfl, by go_num, HFIN⟩
                  case measure => simp [intOf]; omega
      · obtain rfl : k = len := by omega
        clear hr
        obtain ⟨p1, p2, p3, r1, r2, r3, x1, x2, x3, rfl, rfl, rfl⟩ := rl_form HD.out.1.R
        go_wp2_with fail
        have hld : ∀ W', Below wr.heap.size wr W' → W'.cell? ⟨T, 0, none⟩ = some (.slice p1 p2 p3) ∧ W'.cell? ⟨T, 1, none⟩ = some (.slice r1 r2 r3) ∧ W'.cell? ⟨T, 2, none⟩ = some (.slice x1 x2 x3) ∧ T < W'.heap.size := fun W' hb => by
          have e0 := (hb.block _ (lt_of_block HD.out.2)).trans HD.out.2
          exact ⟨cells_cell e0 rfl, cells_cell e0 rfl, cells_cell e0 rfl, lt_of_block e0⟩
        have HS : Hid (Below wr.heap.size wr wr.drew) := Lib.hid (Below.refl _ _).drew
        refine wp_region_mix (fun W' => Below wr.heap.size wr W') 7 [(true, 0), (true, 1), (false, 2), (false, 3), (false, 4), (false, 5), (false, 6)] (by kernel_rfl) (by kernel_rfl) (fun _ _ _ d _ h => by cases d <;> exact h) ?_
        simp only [List.map_cons, List.map_nil, List.getD_cons_zero, List.getD_cons_succ, List.drop_succ_cons, List.drop_zero]
        refine mix_move (.tmp 5) (.pointer (some ⟨l.a, 0, none⟩)) rfl HS.out rfl rfl ?_
        simp only [Act.put, List.setIfInBounds_toArray, List.set_cons_zero, List.set_cons_succ]
        refine mix_take (.agg #[.slice p1 p2 p3, .slice r1 r2 r3, .slice x1 x2 x3]) HS.out rfl (fun W' hS => by obtain ⟨l0, l1, l2, l3⟩ := hld W' hS; go_simp) ?_
        simp only [Act.put, List.setIfInBounds_toArray, List.set_cons_zero, List.set_cons_succ]
        refine mix_step rfl (fun K hK => ?_)
        go_simp
        go_wp2_with (go_at_call 15; fail)
        refine (spot_any wr.drew 0 0).mono ?_
        rintro e w3 ⟨rfl, hg⟩
        have HS2 := Lib.hid (HS.out.trans (hg.below.mono HS.out.size))
        refine hK _ _ HS2.out ?_
        clear hK hg hld HS
        refine mix_step rfl (fun K hK => ?_)
        go_simp
        go_wp2_with (go_at_call 12; fail)
        have HD3 := Lib.hid (HD.out.1.grown HS2.out)
        have hlk := looks9_any HD3.out.K.K HD3.out.R (by have := HD3.out.gb (by have := HN.out.2.2; omega); omega) 0 0
        unfold rlv at hlk
        refine hlk.mono ?_
        rintro e w6 ⟨rfl, hb6⟩
        have HS3 := Lib.hid (HS2.out.trans (hb6.mono HS2.out.size))
        have HD6 := Lib.hid (HD3.out.grown hb6)
        refine hK _ _ HS3.out ?_
        clear hK hlk hb6 HD3 HD HS2
        refine mix_moved (.tmp 90) (.bool true) rfl rfl rfl HS3.out ?_
        simp only [Act.put, List.setIfInBounds_toArray, List.set_cons_zero, List.set_cons_succ]
        refine mix_step rfl (fun K hK => ?_)
        go_simp
        go_wp2_with (go_at_call 8; fail)
        refine (known_any _ HD6.out.K.K.mv).mono ?_
        rintro e w4 ⟨rfl, hb⟩
        refine hK _ _ (HS3.out.trans (hb.mono HS3.out.size)) ?_
        clear hK
        refine mix_by (.bool true) rfl (by go_simp) (HS3.out.trans (hb.mono HS3.out.size)) ?_
        simp only [Act.put, List.setIfInBounds_toArray, List.set_cons_zero, List.set_cons_succ]
        refine mix_nil ?_
        go_wp2_with fail
        go_ret
        exact ⟨rfl, HD6.out.K.below.trans (hb.mono HD6.out.K.below.size)⟩
end Go.Proofs.YtcdimopiaanfbaaDoor
