/- The walk of TaskPlays. -/
import Derived.Test.YtifdpdghjfcaaaaDoorFDoAny
import Derived.Test.YtifdpdghjfcaaaaDoorFLook
import Derived.Test.YtifdpdghjfcaaaaDoorFEnd
namespace Go.Proofs.YtifdpdghjfcaaaaDoor
open Go.RowKit Go.Sort
set_option linter.unusedVariables false
set_option linter.unusedSimpArgs false

theorem sts_new (n : Nat) : sts (List.replicate n ⟨0, 0⟩) = List.replicate n 0 := by simp [sts]
theorem est_new {w0 w1 w2 w : World} {l : Tl} {s : Value} {n : Nat} (hK : KS w0 w1 l (List.replicate n ⟨0, 0⟩) [] 0) (hr : Row TI w2 w1.heap.size s (List.replicate n 0)) (hb : Below w1.heap.size w1 w2) (hb2 : Below w2.heap.size w2 w) :
    ESt w0 w l (List.replicate n ⟨0, 0⟩) [] 0 s (.slice none 0 0) n 0 :=
  ⟨(hK.grown hb).grown hb2, by rw [sts_new]; exact (hr.lower hK.below.size).below hb2, Row.nil _ _, by simp, Nat.le_refl _⟩

set_option maxRecDepth 100000 in
set_option maxHeartbeats 12800000 in
theorem taskPlays_walk (c : Int) (sa : Option Addr) (len cap : Nat) (w : World) (hc : (Lit.int .i64 c).wf = true) (hr : IsActs8 w sa len cap) (hmv : MvAt w) :
    Calls Tryd.prog 3 #[.int .i64 c, .slice sa len cap] w fun e w' => e = .returned (.bool true) ∧ Below w.heap.size w w' := by
  clear hc
  by_cases hl : 80 < len
  · have hk := Lib.hid (known_any w hmv)
    have h1' : (80 : Int) < (len : Int) := by omega
    clear hr hmv
    go_enter Tryd.func3, Tryd.ntmps3
    go_wp2_with (go_at_call 8; refine hk.out.mono ?_; rintro e w1 ⟨rfl, hb⟩)
    go_ret
    exact ⟨rfl, hb⟩
  have g3 : decide ((80 : Int) < ((len : Nat) : Int)) = false := decide_eq_false (by omega)
  by_cases hm : c < 1 ∨ 64 < c
  · have hn := Lib.hid (tkNew_bad w c hm)
    have hf := Lib.hid (refNew_bad w c hm)
    have HM := Lib.hid hmv
    clear hm hr hmv
    unfold rk at hf
    go_enter Tryd.func3, Tryd.ntmps3
    go_wp2_with (go_at_call 9; refine hn.out.mono ?_; rintro e w1 ⟨rfl, hx⟩; have hx2 := hx.symm; clear hx; subst hx2)
    go_wp2_with (go_at_call 10; fail)
    refine hf.out.mono ?_
    rintro e w1 ⟨rfl, hg⟩
    have HB := Lib.hid (hg.below.trans ((below_alloc w1 (.cells #[.slice none 0 0, .slice none 0 0] 30)).mono hg.below.size))
    clear hg
    go_wp2_with (go_at_call 8; fail)
    refine (known_any _ (HM.out.below HB.out HM.out.lt)).mono ?_
    rintro e w4 ⟨rfl, hb⟩
    go_wp2_with fail
    go_ret
    exact ⟨rfl, HB.out.trans (hb.mono HB.out.size)⟩
  · obtain ⟨n, rfl⟩ : ∃ n : Nat, c = ((n : Nat) : Int) := ⟨c.toNat, by omega⟩
    have HN : Hid (1 ≤ n ∧ n ≤ 64 ∧ len ≤ 80) := Lib.hid (by omega)
    have HMV := Lib.hid hmv
    clear hm hmv hl
    go_enter Tryd.func3, Tryd.ntmps3
    go_wp2_with (go_at_call 9; fail)
    refine (tkNew_ok w HMV.out n HN.out.1 HN.out.2.1).mono ?_
    rintro e w1 ⟨l, rfl, hT, hb1⟩
    have HK1 := Lib.hid (ks_new (Below.refl _ _) HMV.out.lt hT hb1)
    clear hT hb1
    go_wp2_with (go_at_call 10; fail)
    have hrn := refNew_ok w1 n HN.out.1 HN.out.2.1
    unfold rk at hrn
    refine hrn.mono ?_
    rintro e w2 ⟨s, rfl, hs, hb2⟩
    obtain ⟨s1, s2, s3, rfl⟩ := row_form hs
    have hba := below_alloc w2 (.cells #[.slice s1 s2 s3, .slice none 0 0] 30)
    have HS := Lib.hid (And.intro (est_new HK1.out hs hb2 hba) (block_new w2 (.cells #[.slice s1 s2 s3, .slice none 0 0] 30) _ rfl))
    have HTl : Hid (w.heap.size ≤ w2.heap.size) := Lib.hid (Nat.le_trans HK1.out.below.size hb2.size)
    clear hs hb2 hba hrn HK1
    go_upto_region 5 with (fail)
    generalize w2.alloc (.cells #[.slice s1 s2 s3, .slice none 0 0] 30) = W at *
    generalize w2.heap.size = T at *
    go_wp2_with fail
    go_loopw [5, 41] (fun tv i wr => ∃ (k g : Nat) (l : Tl) (P : Ks) (Q : Qu) (s r : Value), k ≤ len ∧ tv = .pointer (some ⟨l.t, 0, none⟩) ∧ i = .int .i64 ((k : Nat) : Int) ∧ Hid (ESt w wr l P Q g s r n k ∧ wr.heap[T]? = some (.cells #[s, r] 30 (0, 0)))) (fun _ i _ => len - (intOf i).toNat)
    case atStart => exact ⟨0, 0, l, _, [], _, _, Nat.zero_le _, rfl, rfl, HS⟩
    case round =>
      clear HS
      obtain ⟨k, g, l, P, Q, s, r, hk, rfl, rfl, HD⟩ := hrel
      by_cases hlt : k < len
      · rcases hr with h0 | ⟨ab, off, rfl, _, hblt, hcs⟩
        · omega
        · obtain ⟨x0, x1, c0, c1, _, _⟩ := hcs k hlt
          have hbw := HD.out.1.K.below
          have c0 : wr.cell? ⟨ab, off + k * 2, none⟩ = some (.int .i64 x0) := (hbw.cell (p := ⟨ab, off + k * 2, none⟩) hblt).trans c0
          have c1 : wr.cell? ⟨ab, off + k * 2 + 1, none⟩ = some (.int .i64 x1) := (hbw.cell (p := ⟨ab, off + k * 2 + 1, none⟩) hblt).trans c1
          obtain ⟨p1, p2, p3, rfl⟩ := row_form HD.out.1.rs
          obtain ⟨r1, r2, r3, rfl⟩ := row_form HD.out.1.rr
          clear hcs hbw
          have hba := below_alloc wr (.cells #[.int .i64 x0, .int .i64 x1] 34)
          have D1 := HD.out.1.grown hba
          have hbox1 := (hba.block T (lt_of_block HD.out.2)).trans HD.out.2
          have k0 := cells_cell (o := 0) hbox1 rfl
          have k1 : (wr.alloc (.cells #[.int .i64 x0, .int .i64 x1] 34)).cell? ⟨T, 1, none⟩ = some (.slice r1 r2 r3) := cells_cell hbox1 rfl
          have tl := lt_of_block hbox1
          have HDO := Lib.hid (do_any D1 (by have := HN.out.2.2; omega) x0 x1)
          have HX1 := Lib.hid hbox1
          have HO1 := Lib.hid (D1.K.K.out hbox1 (by decide) (by decide))
          clear D1 hbox1 HD hba
          unfold rk at HDO
          go_wp2_with (go_at_call 11; fail)
          clear k0 k1 tl
          refine HDO.out.mono ?_
          rintro e w3 ⟨hFr, l', P', Q', g', s', r', rfl, hD⟩
          obtain ⟨u1, u2, u3, rfl⟩ := row_form hD.rs
          obtain ⟨v1, v2, v3, rfl⟩ := row_form hD.rr
          have hbox2 := hFr.same HX1.out HO1.out
          have k0 := cells_cell (o := 0) hbox2 rfl
          have k1 : w3.cell? ⟨T, 1, none⟩ = some (.slice r1 r2 r3) := cells_cell hbox2 rfl
          have z0 := cells_free hbox2 0
          have z1 := cells_free hbox2 1
          have lT := lt_of_block hbox2
          have hf5 := (fr_setCell w3 ⟨T, 0, none⟩ (.slice u1 u2 u3)).trans' (fr_setCell _ ⟨T, 1, none⟩ (.slice v1 v2 v3))
          have HD5 := Lib.hid (hD.put hbox2 (by decide) (by decide) (by decide) (by decide) (by decide) HTl.out hf5)
          have HX5 : Hid (((w3.setCell ⟨T, 0, none⟩ (.slice u1 u2 u3)).setCell ⟨T, 1, none⟩ (.slice v1 v2 v3)).heap[T]? = some (.cells #[.slice u1 u2 u3, .slice v1 v2 v3] 30 (0, 0))) := Lib.hid (by simpa using cells_set (cells_set hbox2 0 (.slice u1 u2 u3)) 1 (.slice v1 v2 v3))
          clear hD hFr hbox2 HDO HX1 HO1 hf5
          unfold rk
          go_upto_region 14 with (fail)
          generalize (w3.setCell ⟨T, 0, none⟩ (.slice u1 u2 u3)).setCell ⟨T, 1, none⟩ (.slice v1 v2 v3) = w5 at *
          clear k0 k1 z0 z1 lT
          have k0 := cells_cell (o := 0) HX5.out rfl
          have k1 : w5.cell? ⟨T, 1, none⟩ = some (.slice v1 v2 v3) := cells_cell HX5.out rfl
          have lT := lt_of_block HX5.out
          go_wp2_with (go_at_call 12; fail)
          have hlk := looks_any HD5.out (by have := HN.out.2.2; omega)
          unfold rk at hlk
          refine hlk.mono ?_
          rintro e w6 ⟨rfl, hb6⟩
          have HFIN : Hid (ESt w w6 l' P' Q' g' (.slice u1 u2 u3) (.slice v1 v2 v3) n (k + 1) ∧ w6.heap[T]? = some (.cells #[.slice u1 u2 u3, .slice v1 v2 v3] 30 (0, 0))) := Lib.hid ⟨HD5.out.grown hb6, (hb6.block T (lt_of_block HX5.out)).trans HX5.out⟩
          clear hlk hb6 HD5 HX5 k0 k1 lT
          go_wp2_with fail
          go_roundw
          case rel => exact ⟨k + 1, g', l', P', Q', _, _, by omega, rfl, by go_num, HFIN⟩
          case measure => simp [intOf]; omega
      · obtain rfl : k = len := by omega
        clear hr
        go_wp2_with (go_at_call 8; fail)
        refine (known_any _ HD.out.1.K.K.mv).mono ?_
        rintro e w4 ⟨rfl, hb⟩
        go_wp2_with fail
        go_ret
        exact ⟨rfl, HD.out.1.K.below.trans (hb.mono HD.out.1.K.below.size)⟩
end Go.Proofs.YtifdpdghjfcaaaaDoor
