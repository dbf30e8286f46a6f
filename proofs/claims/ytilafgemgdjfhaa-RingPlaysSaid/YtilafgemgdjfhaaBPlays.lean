/- The walk of RingPlays. -/
import Derived.Test.YtilafgemgdjfhaaBPst
import Derived.Deep.DeepCutAuto
import Derived.Deep.CutBlock
namespace Go.Proofs.Ytilafgemgdjfhaa
open Go.RowKit Go.Sort
set_option linter.unusedVariables false
set_option linter.unusedSimpArgs false

/-- No call has more than 6000 bytes, among the first k ones. -/
def Short (w : World) (a : Option Addr) (k : Nat) : Prop := ∀ b off, a = some ⟨b, off, none⟩ → ∀ j, j < k → ∀ pa pl pc, w.cell? ⟨b, off + j * 4 + 3, none⟩ = some (.slice pa pl pc) → pl ≤ 6000

set_option maxRecDepth 1000000 in
set_option maxHeartbeats 8000000 in
theorem ringPlays_walk (cI : Int) (a : Option Addr) (len cap : Nat) (w : World) (_ : (Lit.int .i64 cI).wf = true) (hr : IsActs4 w a len cap) :
    Calls Try.prog 3 #[.int .i64 cI, .slice a len cap] w fun e w' => e = .returned (.bool true) ∧ Below w.heap.size w w' := by
  have hlm : (len : Int) ≤ 9223372036854775807 := by
    rcases hr with ⟨_, h⟩ | ⟨_, _, _, h, _⟩
    · unfold maxLen at h; omega
    · omega
  have HR := Lib.hid hr
  have HK := Lib.hid (known_any w)
  have HKA : Hid (∀ W, Calls Try.prog 8 #[] W fun e w' => e = .returned (.bool true) ∧ Below W.heap.size W w') := Lib.hid (fun W => known_any W)
  clear hr
  by_cases hl : 60 < len
  · have hl2 : (60 : Int) < (len : Int) := by omega
    go_enter Try.func3, Try.ntmps3
    go_wp2_with (go_at_call 8; refine HK.out.mono ?_; rintro e w1 ⟨rfl, hb⟩)
    go_ret
    exact ⟨rfl, hb⟩
  · have hl2 : decide ((60 : Int) < (len : Int)) = false := by simp; omega
    have hl3 : (len : Int) ≤ 60 := by omega
    go_enter Try.func3, Try.ntmps3
    go_wp2_with fail
    go_loop [5] (fun i => ∃ k : Nat, k ≤ len ∧ i = .int .i64 k ∧ Hid (Short w a k)) (fun i => len - (intOf i).toNat)
    case atStart => exact ⟨0, Nat.zero_le _, rfl, Lib.hid (fun _ _ _ j hj => absurd hj (Nat.not_lt_zero _))⟩
    case round =>
      obtain ⟨k, hk, rfl, HSh⟩ := hrel
      by_cases hkl : k < len
      · obtain ⟨b, off, rfl, hlb, hbl, hcs⟩ : ∃ b off, a = some ⟨b, off, none⟩ ∧ len ≤ 9223372036854775807 ∧ b < w.heap.size ∧ ∀ i, i < len → ∃ (x0 x1 x2 : Int) (pa : Option Addr) (pl pc : Nat) (M : List UInt8),
            w.cell? ⟨b, off + i * 4, none⟩ = some (.int .i64 x0) ∧ w.cell? ⟨b, off + i * 4 + 1, none⟩ = some (.int .i64 x1) ∧ w.cell? ⟨b, off + i * 4 + 2, none⟩ = some (.int .i64 x2) ∧ w.cell? ⟨b, off + i * 4 + 3, none⟩ = some (.slice pa pl pc) ∧
            (Lit.int .i64 x0).wf = true ∧ (Lit.int .i64 x1).wf = true ∧ (Lit.int .i64 x2).wf = true ∧ M.length = pl ∧ pl ≤ maxLen ∧ SrcP w pa pl pc M := by
          rcases HR.out with ⟨h, _⟩ | h
          · omega
          · exact h
        obtain ⟨_, _, _, pa, pl, pc, M, _, _, _, c3, _, _, _, _, hpm, _⟩ := hcs k hkl
        have hk2 : (k : Int) < (len : Int) := by omega
        have hpl2 : (pl : Int) ≤ 9223372036854775807 := by unfold maxLen at hpm; omega
        clear hcs
        by_cases hp : 6000 < pl
        · have hp2 : (6000 : Int) < (pl : Int) := by omega
          go_wp2_with (go_at_call 8; refine HK.out.mono ?_; rintro e w1 ⟨rfl, hb⟩)
          go_ret
          exact ⟨rfl, hb⟩
        · have hp2 : decide ((6000 : Int) < (pl : Int)) = false := by simp; omega
          have HSh2 : Hid (Short w (some ⟨b, off, none⟩) (k + 1)) := Lib.hid (fun b' off' e j hj pa' pl' pc' hc => by
            simp only [Option.some.injEq, Addr.mk.injEq, and_true] at e
            obtain ⟨rfl, rfl⟩ := e
            by_cases hjk : j = k
            · subst hjk
              rw [c3] at hc
              simp only [Option.some.injEq, Value.slice.injEq] at hc
              omega
            · exact HSh.out b off rfl j (by omega) pa' pl' pc' hc)
          clear HSh
          go_wp2_with fail
          go_round
          case rel => exact ⟨k + 1, by omega, by go_num, HSh2⟩
          case measure => simp [intOf]; omega
      · obtain rfl : len = k := by omega
        have hkk : decide ((len : Int) < (len : Int)) = false := by simp
        by_cases hc : cI < 1 ∨ 4096 < cI
        · have hn := Lib.hid (new_bad w cI hc)
          have hf := Lib.hid (refNew_bad w cI hc)
          clear hc
          go_wp2_with (first | (go_at_call 9; refine hn.out.mono ?_; rintro e w1 ⟨rfl, rfl⟩) | (go_at_call 10; fail))
          refine hf.out.mono ?_
          rintro e w1 ⟨rfl, hb⟩
          have HB := Lib.hid hb
          clear hb
          go_wp2_with (go_at_call 8; refine (HKA.out _).mono ?_; rintro e w2 ⟨rfl, hb2⟩)
          go_ret
          exact ⟨rfl, (HB.out.alloc HB.out.size _).trans (hb2.mono (by have := HB.out.size; simp; omega))⟩
        · obtain ⟨c, rfl⟩ : ∃ c : Nat, cI = c := ⟨cI.toNat, by omega⟩
          have hc1 : (1 : Int) ≤ (c : Int) := by omega
          have hc2 : (c : Int) ≤ 4096 := by omega
          have hn := Lib.hid (new_ok (w0 := w) (w := w) (G := fun _ => False) c (by omega) (by omega) (Below.refl _ _) (fun _ h => h.elim))
          clear hc
          go_wp2_with (go_at_call 9; fail)
          refine hn.out.mono ?_
          rintro e w1 ⟨a1, rfl, R1, _⟩
          have hf := Lib.hid (refNew_ok w1 c (by omega) (by omega))
          have HR1 := Lib.hid R1
          clear R1 hn
          unfold pt rv at *
          go_wp2_with (go_at_call 10; fail)
          refine hf.out.mono ?_
          rintro e w2 ⟨rfl, hb2⟩
          have hst : PSt w (w2.alloc (.cells #[.int .i64 c, .slice none 0 0] 32)) a1 c w2.heap.size w2.heap.size [] [] none 0 (.slice none 0 0) [] := by
            have h1 := HR1.out.grown hb2
            refine ⟨h1.more ((Below.refl _ _).alloc (Nat.le_refl _) _) (fun k hk => ?_), block_new _ _ _ rfl, World.ownsRow_nil _ _ _ _, World.ownsRow_nil _ _ _ _, fun k hk => by simp [Value.ownBlock] at hk, h1.below.size, by simp⟩
            rcases hk with rfl | hk | hk | rfl
            · exact .inr ⟨Nat.le_refl _, by simp⟩
            · simp [Value.ownBlock] at hk
            · simp [Value.ownBlock] at hk
            · exact .inr ⟨Nat.le_refl _, by simp⟩
          have HST := Lib.hid hst
          clear hst hf hb2
          go_wp2_with fail
          generalize w2.alloc (.cells #[.int .i64 c, .slice none 0 0] 32) = w3 at *
          generalize w2.heap.size = t at *
          go_loopw [6, 80] (fun p i wr => ∃ k a1 B va vc, k ≤ len ∧ i = .int .i64 (k : Nat) ∧ p = .pointer (some ⟨a1, 0, none⟩) ∧ Hid (PSt w wr a1 c t t B B va vc (.slice none 0 0) [])) (fun _ i _ => len - (intOf i).toNat)
          case atStart => exact ⟨0, a1, [], none, 0, Nat.zero_le _, rfl, rfl, HST⟩
          case round =>
            clear HST HR1
            obtain ⟨k, a1, B, va, vc, hk, rfl, rfl, HS⟩ := hrel
            by_cases hkl : k < len
            · obtain ⟨b, off, rfl, hlb, hbl, hcs⟩ : ∃ b off, a = some ⟨b, off, none⟩ ∧ len ≤ 9223372036854775807 ∧ b < w.heap.size ∧ ∀ i, i < len → ∃ (x0 x1 x2 : Int) (pa : Option Addr) (pl pc : Nat) (M : List UInt8),
                  w.cell? ⟨b, off + i * 4, none⟩ = some (.int .i64 x0) ∧ w.cell? ⟨b, off + i * 4 + 1, none⟩ = some (.int .i64 x1) ∧ w.cell? ⟨b, off + i * 4 + 2, none⟩ = some (.int .i64 x2) ∧ w.cell? ⟨b, off + i * 4 + 3, none⟩ = some (.slice pa pl pc) ∧
                  (Lit.int .i64 x0).wf = true ∧ (Lit.int .i64 x1).wf = true ∧ (Lit.int .i64 x2).wf = true ∧ M.length = pl ∧ pl ≤ maxLen ∧ SrcP w pa pl pc M := by
                rcases HR.out with ⟨h, _⟩ | h
                · omega
                · exact h
              obtain ⟨x0, x1, x2, pa, pl, pc, M, c0, c1, c2, c3, w0, w1', w2', hMl, hpm, hsp⟩ := hcs k hkl
              have hpl : pl ≤ 6000 := HSh.out b off rfl k hkl pa pl pc c3
              have hbw := HS.out.rg.below
              have c0 : wr.cell? ⟨b, off + k * 4, none⟩ = some (.int .i64 x0) := (hbw.cell (p := ⟨b, off + k * 4, none⟩) hbl).trans c0
              have c1 : wr.cell? ⟨b, off + k * 4 + 1, none⟩ = some (.int .i64 x1) := (hbw.cell (p := ⟨b, off + k * 4 + 1, none⟩) hbl).trans c1
              have c2 : wr.cell? ⟨b, off + k * 4 + 2, none⟩ = some (.int .i64 x2) := (hbw.cell (p := ⟨b, off + k * 4 + 2, none⟩) hbl).trans c2
              have c3 : wr.cell? ⟨b, off + k * 4 + 3, none⟩ = some (.slice pa pl pc) := (hbw.cell (p := ⟨b, off + k * 4 + 3, none⟩) hbl).trans c3
              have hbr : b < wr.heap.size := Nat.lt_of_lt_of_le hbl hbw.size
              have hk2 : (k : Int) < (len : Int) := by omega
              have hSA := Lib.hid (HS.out.act (.cells #[.int .i64 x0, .int .i64 x1, .int .i64 x2, .slice pa pl pc] 26))
              have hX1 : Hid ((Lit.int .i64 x1).wf = true) := Lib.hid w1'
              have hX2 : Hid ((Lit.int .i64 x2).wf = true) := Lib.hid w2'
              have HSP := Lib.hid (And.intro hMl (And.intro hpl hsp))
              clear hcs w0 w1' w2' hMl hsp hbw
              have hti : t < wr.heap.size := lt_of_block HS.out.w8
              clear HS
              go_upto_block 4 with (fail)
              go_cut [6] (fun p wx => ∃ a1' B' va' vc', p = .pointer (some ⟨a1', 0, none⟩) ∧ Hid (PSt w wx a1' c t t B' B' va' vc' (.slice none 0 0) []))
              case first =>
                have hsz : wr.heap.size < (wr.alloc (.cells #[.int .i64 x0, .int .i64 x1, .int .i64 x2, .slice pa pl pc] 26)).heap.size := by simp
                have hne0 : t ≠ wr.heap.size := by omega
                have hne1 : (t == wr.heap.size) = false := by simp; omega
                by_cases q0 : x0 = 0
                · as_aux_lemma =>
                  subst q0
                  have hsrc := Lib.hid (srcA_of (W := wr.alloc (.cells #[.int .i64 0, .int .i64 x1, .int .i64 x2, .slice pa pl pc] 26)) HSP.out.2.2 HSP.out.1 (hSA.out.rg.below))
                  have hM6 : ([] : List UInt8).length + M.length ≤ 1000000 := by have := HSP.out; simp; omega
                  go_wp2_with (at_builtin; refine wpList_append_src (v := .slice none 0 0) (X := []) rfl (.const (.slice none 0 0)) (.tmp 100) rfl rfl rfl (World.ownsRow_nil _ (wr.heap.size + 1) _ _) (by simp) hsrc.out hM6 ?_)
                  intro v' w5 ho hf hn
                  have hb5 := hf.below (B := _) (fun y hy => by cases (show y ∈ ([] : List Nat) from hy)) (Nat.le_refl _)
                  have hS5 := hSA.out.newp hb5 ho (by simp)
                  obtain ⟨xa, xc, rfl⟩ := row_formB ho
                  have a3 : w5.cell? ⟨wr.heap.size, 3, none⟩ = some (.slice pa pl pc) := (hb5.cell (p := ⟨wr.heap.size, 3, none⟩) hsz).trans (by simp)
                  have c80 := cells_cell hS5.w8 (o := 0) rfl
                  have c81 := cells_cell hS5.w8 (o := 1) rfl
                  have htl5 := lt_of_block hS5.w8
                  have hql5 : wr.heap.size < w5.heap.size := Nat.lt_of_lt_of_le hsz hb5.size
                  obtain ⟨n, hn⟩ : ∃ n, n = min M.length (c - B.length) := ⟨_, rfl⟩
                  have hw5 := write_in hS5.rg (srcB_row hS5.prow (fun k hk => .inr (.inr (.inl hk)))) (by have := HSP.out; omega)
                  rw [← hn] at hw5
                  have HW5 := Lib.hid hw5
                  have HS5 := Lib.hid hS5
                  have HN := Lib.hid hn
                  have gn : (n : Int) ≤ 6000 := by have := HSP.out; omega
                  clear hw5 hS5 hb5 hf hn ho hSA hsrc hM6
                  unfold pt at *
                  go_wp2_with (go_at_call 11; fail)
                  refine HW5.out.mono ?_
                  rintro e w6 ⟨rfl, A6⟩
                  have hS6 := HS5.out.aft A6
                  have hq6 := A6.keep wr.heap.size (.inr (.inr (.inr rfl)))
                  have a3 : w6.cell? ⟨wr.heap.size, 3, none⟩ = some (.slice pa pl pc) := (World.cell?_of_block hq6).trans a3
                  have hql6 : wr.heap.size < w6.heap.size := Nat.lt_of_lt_of_le hql5 A6.size
                  have c80 := cells_cell hS6.w8 (o := 0) rfl
                  have c81 := cells_cell hS6.w8 (o := 1) rfl
                  have htl6 := lt_of_block hS6.w8
                  have hfw := Lib.hid (refWrite_at c (by omega) w6 hS6.row (by have := HS5.out.rg.bl; omega) pa pl pc M HSP.out.1 HSP.out.2.1 (srcP_grown HSP.out.2.2 hS6.rg.below) n HN.out)
                  have HS6 := Lib.hid hS6
                  clear hS6 A6 hq6 HW5 HS5 htl5 hql5
                  unfold rv at *
                  go_wp2_with (go_at_call 12; fail)
                  refine hfw.out.mono ?_
                  rintro e w7 ⟨v2, rfl, hr2, hb7⟩
                  obtain ⟨v2a, v2c, rfl⟩ := row_formB hr2
                  have hb7l : (B ++ M.take n).length ≤ 4096 := by have := HS6.out.rg.bl; omega
                  obtain ⟨B2, hB2⟩ : ∃ B2, B2 = B ++ M.take n := ⟨_, rfl⟩
                  rw [← hB2] at hr2 hb7l HS6
                  rw [← hB2]
                  have hS7 := HS6.out.grown hb7
                  have hql7 : wr.heap.size < w7.heap.size := Nat.lt_of_lt_of_le hql6 hb7.size
                  have a3 : w7.cell? ⟨wr.heap.size, 3, none⟩ = some (.slice pa pl pc) := (hb7.cell (p := ⟨wr.heap.size, 3, none⟩) hql6).trans a3
                  have c80 := cells_cell hS7.w8 (o := 0) rfl
                  have c81 := cells_cell hS7.w8 (o := 1) rfl
                  have f80 := cells_free hS7.w8 0
                  have f81 := cells_free hS7.w8 1
                  have htl7 := lt_of_block hS7.w8
                  have hbA : Below w7.heap.size w7 (w7.alloc (.cells #[.int .i64 c, .slice v2a B2.length v2c] 32)) := (Below.refl _ _).alloc (Nat.le_refl _) _
                  have hst1 := row_str (hS7.grown hbA).prow
                  have hst2 := conv_srcP HSP.out.2.2 HSP.out.1 (hS7.grown hbA).rg.below
                  have hfin := Lib.hid ((HS6.out.newref hb7 hr2 hb7l rfl).grown (wr' := ((w7.setCell ⟨t, 0, none⟩ (.int .i64 c)).setCell ⟨t, 1, none⟩ (.slice v2a B2.length v2c)).alloc (.cells #[.int .i64 c, .slice v2a B2.length v2c] 32)) ((Below.refl _ _).alloc (Nat.le_refl _) _))
                  have hbn : (strB M != strB M) = false := by have := beq_selfB (strB M); simp [bne, this]
                  have hnn : ((n : Int) != (n : Int)) = false := by simp
                  have gM : (M.length : Int) ≤ 6000 := by have := HSP.out; omega
                  have gB2 : (B2.length : Int) ≤ 4096 := by omega
                  generalize strB M = S at *
                  clear hS7 hbA hr2 HS6 hb7 hB2 hfw hb7l
                  unfold rv
                  go_wp2_with fail
                  clear hst1 hst2 hbn hnn c80 c81 f80 f81 a3
                  generalize wr.heap.size = q at *
                  generalize (((w7.setCell ⟨t, 0, none⟩ (.int .i64 c)).setCell ⟨t, 1, none⟩ (.slice v2a B2.length v2c)).alloc (.cells #[.int .i64 c, .slice v2a B2.length v2c] 32)) = wq at *
                  go_loopw [18, 135] (fun _ ix wr' => ∃ (j : Nat) (M' : List UInt8), ix = .int .i64 (j : Nat) ∧ j ≤ M.length ∧ Hid (M'.length = M.length) ∧ Hid (PSt w wr' a1 c t q B2 B2 v2a v2c (.slice xa M'.length xc) M')) (fun _ ix _ => M.length - (intOf ix).toNat)
                  case atStart => exact ⟨0, M, rfl, Nat.zero_le _, Lib.hid rfl, hfin⟩
                  case round =>
                    obtain ⟨j, M', rfl, hj, hML, HP⟩ := hrel
                    clear hfin
                    by_cases hjl : j < M.length
                    · have hjl2 : (j : Int) < (M.length : Int) := by omega
                      obtain ⟨g, cap', hv, _, _⟩ := row_some HP.out.prow (by have := hML.out; omega)
                      simp only [Value.slice.injEq, true_and] at hv
                      obtain ⟨rfl, rfl⟩ := hv
                      obtain ⟨hcj, hfj, hgj⟩ := row_at HP.out.prow (j := j) (by have := hML.out; omega)
                      obtain ⟨z, hz⟩ : ∃ z : Nat, z = (M'[j]'(by have := hML.out; omega)).toNat := ⟨_, rfl⟩
                      have hz2 : (z : Int) ≤ 255 := by rw [hz]; have := (M'[j]'(by have := hML.out; omega)).toNat_lt; omega
                      rw [← hz] at hcj
                      have hwz : (Lit.int .u8 (((z : Int) + 1) % 256)).wf = true := by
                        have e1 : IntKind.u8.min = 0 := rfl
                        have e2 : IntKind.u8.max = 255 := rfl
                        simp [Lit.wf, e1, e2]; omega
                      have HP2 := Lib.hid (HP.out.inc (i := j) (y := byt (((z : Int) + 1) % 256)) (by have := hML.out; omega) rfl)
                      rw [encB_byt hwz] at HP2
                      have hML2 : Hid ((M'.set j (byt (((z : Int) + 1) % 256))).length = M.length) := Lib.hid (by rw [List.length_set]; exact hML.out)
                      clear hz hn hwz
                      go_wp2_with fail
                      go_roundw
                      case rel => first | exact ⟨j + 1, _, by go_num, by omega, hML2, HP2⟩ | ((repeat apply Exists.intro); exact ⟨⟨j + 1, _, by go_num, by omega, hML2, HP2⟩, rfl⟩)
                      case measure => simp [intOf]; omega
                    · have hjl2 : decide ((j : Int) < (M.length : Int)) = false := by simp; omega
                      have HD := Lib.hid HP.out.drop
                      clear HP
                      go_wp2_with fail
                      go_meet
                      exact ⟨a1, B2, v2a, v2c, rfl, HD⟩
                · have r0 : (x0 == 0) = false := by simpa using q0
                  by_cases q1 : x0 = 1
                  · as_aux_lemma =>
                    subst q1
                    clear r0 q0
                    have a2 : (wr.alloc (.cells #[.int .i64 1, .int .i64 x1, .int .i64 x2, .slice pa pl pc] 26)).cell? ⟨wr.heap.size, 2, none⟩ = some (.int .i64 x2) := by simp
                    have HSA := hSA
                    by_cases hm : x2 < 0
                    · have hrs := Lib.hid (readNeg_in hSA.out.rg x2 hm)
                      have hfs := Lib.hid (refRead_neg c va B.length vc x2 hm (wr.alloc (.cells #[.int .i64 1, .int .i64 x1, .int .i64 x2, .slice pa pl pc] 26)))
                      have c80 := cells_cell hSA.out.w8 (o := 0) rfl
                      have c81 := cells_cell hSA.out.w8 (o := 1) rfl
                      have htl0 := lt_of_block hSA.out.w8
                      clear hSA a2
                      unfold pt rv at *
                      go_wp2_with (go_at_call 13; refine hrs.out.mono ?_; rintro e w5 ⟨rfl, rfl⟩)
                      go_wp2_with (go_at_call 14; fail)
                      refine hfs.out.mono ?_
                      rintro e w5 ⟨rfl, hb5⟩
                      have hS5 := HSA.out.grown hb5
                      have c80 := cells_cell hS5.w8 (o := 0) rfl
                      have c81 := cells_cell hS5.w8 (o := 1) rfl
                      have f80 := cells_free hS5.w8 0
                      have f81 := cells_free hS5.w8 1
                      have htl5 := lt_of_block hS5.w8
                      have hst1 := conv_nil (w5.alloc (.cells #[.int .i64 c, .slice va B.length vc] 32))
                      have hbn : (strB [] != strB []) = false := by have := beq_selfB (strB []); simp [bne, this]
                      generalize strB [] = S at *
                      have hfin := Lib.hid ((hS5.renew rfl).grown (wr' := ((w5.setCell ⟨t, 0, none⟩ (.int .i64 c)).setCell ⟨t, 1, none⟩ (.slice va B.length vc)).alloc (.cells #[.int .i64 c, .slice va B.length vc] 32)) ((Below.refl _ _).alloc (Nat.le_refl _) _)).drop
                      clear hS5 hrs hfs HSA hb5
                      go_wp2_with fail
                      generalize (((w5.setCell ⟨t, 0, none⟩ (.int .i64 c)).setCell ⟨t, 1, none⟩ (.slice va B.length vc)).alloc (.cells #[.int .i64 c, .slice va B.length vc] 32)) = wq at *
                      go_loopw [24, 175] (fun _ ix wr' => ix = .int .i64 0 ∧ Hid (PSt w wr' a1 c t t B B va vc (.slice none 0 0) [])) (fun _ _ _ => 0)
                      case atStart => exact ⟨rfl, hfin⟩
                      case round =>
                        obtain ⟨rfl, HP⟩ := hrel
                        clear hfin
                        go_wp2_with fail
                        go_meet
                        exact ⟨a1, B, va, vc, rfl, HP⟩
                    · obtain ⟨m, rfl⟩ : ∃ m : Nat, x2 = m := ⟨x2.toNat, by omega⟩
                      have hmm : (m : Int) ≤ 9223372036854775807 := by
                        have h := hX2.out
                        have e1 : IntKind.i64.max = 9223372036854775807 := rfl
                        simp [Lit.wf, e1] at h; omega
                      have hrs := read_in hSA.out.rg (m : Int) (by omega)
                      rw [Int.toNat_natCast] at hrs
                      have HRS := Lib.hid hrs
                      clear hSA a2 hrs hm
                      unfold pt at *
                      go_wp2_with (go_at_call 13; fail)
                      refine HRS.out.mono ?_
                      rintro e w5 ⟨v, rfl, hr5, A5, R5⟩
                      have hS5 := HSA.out.readp A5 hr5 (Nat.le_refl _) R5
                      have hq5 := A5.keep wr.heap.size (.inr (.inr (.inr rfl)))
                      have a2 : w5.cell? ⟨wr.heap.size, 2, none⟩ = some (.int .i64 m) := (World.cell?_of_block hq5).trans (by simp)
                      have hql5 : wr.heap.size < w5.heap.size := Nat.lt_of_lt_of_le hsz A5.size
                      have c80 := cells_cell hS5.w8 (o := 0) rfl
                      have c81 := cells_cell hS5.w8 (o := 1) rfl
                      have htl5 := lt_of_block hS5.w8
                      have hfs := Lib.hid (refRead_ok c w5 hS5.row hS5.bl m hmm)
                      obtain ⟨xa, xc, rfl⟩ := row_formB hr5
                      have gbl : B.length ≤ 4096 := hS5.bl
                      have HS5 := Lib.hid hS5
                      obtain ⟨MM, hMM⟩ : ∃ MM, MM = B.take m := ⟨_, rfl⟩
                      have gM : (MM.length : Int) ≤ 4096 := by rw [hMM]; simp; omega
                      rw [← hMM] at HS5
                      rw [← hMM]
                      have HMM := Lib.hid hMM
                      clear hS5 A5 R5 hr5 HSA hq5 HRS hMM
                      unfold rv at *
                      go_wp2_with (go_at_call 14; fail)
                      refine hfs.out.mono ?_
                      rintro e w7 ⟨v2, v1, rfl, hr2, hr1, hb7⟩
                      rw [← HMM.out] at hr1
                      obtain ⟨v2a, v2c, rfl⟩ := row_formB hr2
                      obtain ⟨ya, yc, rfl⟩ := row_formB hr1
                      have hB2l : (B.drop m).length ≤ 4096 := by simp; omega
                      obtain ⟨B2, hB2⟩ : ∃ B2, B2 = B.drop m := ⟨_, rfl⟩
                      rw [← hB2] at hr2 hB2l HS5
                      rw [← hB2]
                      have hS7 := HS5.out.grown hb7
                      have c80 := cells_cell hS7.w8 (o := 0) rfl
                      have c81 := cells_cell hS7.w8 (o := 1) rfl
                      have f80 := cells_free hS7.w8 0
                      have f81 := cells_free hS7.w8 1
                      have htl7 := lt_of_block hS7.w8
                      have hbA : Below w7.heap.size w7 (w7.alloc (.cells #[.int .i64 c, .slice v2a B2.length v2c] 32)) := (Below.refl _ _).alloc (Nat.le_refl _) _
                      have hst1 := row_str (hS7.grown hbA).prow
                      have hst2 := row_str (hr1.grown hbA)
                      have hbn : (strB MM != strB MM) = false := by have := beq_selfB (strB MM); simp [bne, this]
                      generalize strB MM = S at *
                      have hfin := Lib.hid ((HS5.out.newref hb7 hr2 hB2l rfl).grown (wr' := ((w7.setCell ⟨t, 0, none⟩ (.int .i64 c)).setCell ⟨t, 1, none⟩ (.slice v2a B2.length v2c)).alloc (.cells #[.int .i64 c, .slice v2a B2.length v2c] 32)) ((Below.refl _ _).alloc (Nat.le_refl _) _))
                      clear hS7 hr2 hr1 HS5 hb7 hB2 hfs hB2l hbA HMM
                      unfold rv
                      go_wp2_with fail
                      clear hst1 hst2 hbn c80 c81 f80 f81 a2
                      generalize wr.heap.size = q at *
                      generalize (((w7.setCell ⟨t, 0, none⟩ (.int .i64 c)).setCell ⟨t, 1, none⟩ (.slice v2a B2.length v2c)).alloc (.cells #[.int .i64 c, .slice v2a B2.length v2c] 32)) = wq at *
                      go_loopw [24, 175] (fun _ ix wr' => ∃ (j : Nat) (M' : List UInt8), ix = .int .i64 (j : Nat) ∧ j ≤ MM.length ∧ Hid (M'.length = MM.length) ∧ Hid (PSt w wr' a1 c t q B2 B2 v2a v2c (.slice xa M'.length xc) M')) (fun _ ix _ => MM.length - (intOf ix).toNat)
                      case atStart => exact ⟨0, MM, rfl, Nat.zero_le _, Lib.hid rfl, hfin⟩
                      case round =>
                        obtain ⟨j, M', rfl, hj, hML, HP⟩ := hrel
                        clear hfin
                        by_cases hjl : j < MM.length
                        · have hjl2 : (j : Int) < (MM.length : Int) := by omega
                          obtain ⟨g, cap', hv, _, _⟩ := row_some HP.out.prow (by have := hML.out; omega)
                          simp only [Value.slice.injEq, true_and] at hv
                          obtain ⟨rfl, rfl⟩ := hv
                          obtain ⟨hcj, hfj, hgj⟩ := row_at HP.out.prow (j := j) (by have := hML.out; omega)
                          obtain ⟨z, hz⟩ : ∃ z : Nat, z = (M'[j]'(by have := hML.out; omega)).toNat := ⟨_, rfl⟩
                          have hz2 : (z : Int) ≤ 255 := by rw [hz]; have := (M'[j]'(by have := hML.out; omega)).toNat_lt; omega
                          rw [← hz] at hcj
                          have hwz : (Lit.int .u8 (((z : Int) + 1) % 256)).wf = true := by
                            have e1 : IntKind.u8.min = 0 := rfl
                            have e2 : IntKind.u8.max = 255 := rfl
                            simp [Lit.wf, e1, e2]; omega
                          have HP2 := Lib.hid (HP.out.inc (i := j) (y := byt (((z : Int) + 1) % 256)) (by have := hML.out; omega) rfl)
                          rw [encB_byt hwz] at HP2
                          have hML2 : Hid ((M'.set j (byt (((z : Int) + 1) % 256))).length = MM.length) := Lib.hid (by rw [List.length_set]; exact hML.out)
                          clear hz hwz
                          go_wp2_with fail
                          go_roundw
                          case rel => first | exact ⟨j + 1, _, by go_num, by omega, hML2, HP2⟩ | ((repeat apply Exists.intro); exact ⟨⟨j + 1, _, by go_num, by omega, hML2, HP2⟩, rfl⟩)
                          case measure => simp [intOf]; omega
                        · have hjl2 : decide ((j : Int) < (MM.length : Int)) = false := by simp; omega
                          have HD := Lib.hid HP.out.drop
                          clear HP
                          go_wp2_with fail
                          go_meet
                          exact ⟨a1, B2, v2a, v2c, rfl, HD⟩
                  have r1 : (x0 == 1) = false := by simpa using q1
                  by_cases q2 : x0 = 2
                  · as_aux_lemma =>
                    subst q2
                    clear r0 r1 q0 q1
                    have a1' : (wr.alloc (.cells #[.int .i64 2, .int .i64 x1, .int .i64 x2, .slice pa pl pc] 26)).cell? ⟨wr.heap.size, 1, none⟩ = some (.int .i64 x1) := by simp
                    have a2 : (wr.alloc (.cells #[.int .i64 2, .int .i64 x1, .int .i64 x2, .slice pa pl pc] 26)).cell? ⟨wr.heap.size, 2, none⟩ = some (.int .i64 x2) := by simp
                    have HSA := hSA
                    by_cases hm : x1 < 0 ∨ x2 < 0
                    · have hrs := Lib.hid (peekNeg_in hSA.out.rg x1 x2 hm)
                      have hfs := Lib.hid (refPeek_neg c (.slice va B.length vc) x1 x2 hm (wr.alloc (.cells #[.int .i64 2, .int .i64 x1, .int .i64 x2, .slice pa pl pc] 26)))
                      have c80 := cells_cell hSA.out.w8 (o := 0) rfl
                      have c81 := cells_cell hSA.out.w8 (o := 1) rfl
                      have htl0 := lt_of_block hSA.out.w8
                      clear hSA a2 a1' hm
                      unfold pt rv at *
                      go_wp2_with (go_at_call 15; refine hrs.out.mono ?_; rintro e w5 ⟨rfl, rfl⟩)
                      go_wp2_with (go_at_call 16; fail)
                      refine hfs.out.mono ?_
                      rintro e w5 ⟨rfl, hb5⟩
                      have hfin := Lib.hid (HSA.out.grown hb5).drop
                      have hst1 := conv_nil w5
                      have hbn : (strB [] != strB []) = false := by have := beq_selfB (strB []); simp [bne, this]
                      generalize strB [] = S at *
                      clear hrs hfs HSA hb5
                      go_wp2_with fail
                      go_loopw [29, 217] (fun _ ix wr' => ix = .int .i64 0 ∧ Hid (PSt w wr' a1 c t t B B va vc (.slice none 0 0) [])) (fun _ _ _ => 0)
                      case atStart => exact ⟨rfl, hfin⟩
                      case round =>
                        obtain ⟨rfl, HP⟩ := hrel
                        clear hfin
                        go_wp2_with fail
                        go_meet
                        exact ⟨a1, B, va, vc, rfl, HP⟩
                    · obtain ⟨o, rfl⟩ : ∃ o : Nat, x1 = o := ⟨x1.toNat, by omega⟩
                      obtain ⟨m, rfl⟩ : ∃ m : Nat, x2 = m := ⟨x2.toNat, by omega⟩
                      have hoo : (o : Int) ≤ 9223372036854775807 := by
                        have h := hX1.out
                        have e1 : IntKind.i64.max = 9223372036854775807 := rfl
                        simp [Lit.wf, e1] at h; omega
                      have hmm : (m : Int) ≤ 9223372036854775807 := by
                        have h := hX2.out
                        have e1 : IntKind.i64.max = 9223372036854775807 := rfl
                        simp [Lit.wf, e1] at h; omega
                      have hrs := peek_in hSA.out.rg (o : Int) (m : Int) (by omega) (by omega)
                      rw [Int.toNat_natCast, Int.toNat_natCast] at hrs
                      have HRS := Lib.hid hrs
                      clear hSA a2 a1' hrs hm
                      unfold pt at *
                      go_wp2_with (go_at_call 15; fail)
                      refine HRS.out.mono ?_
                      rintro e w5 ⟨v, rfl, hr5, hb5⟩
                      have hS5 := HSA.out.newp hb5 hr5 (Nat.le_refl _)
                      have a1' : w5.cell? ⟨wr.heap.size, 1, none⟩ = some (.int .i64 o) := (hb5.cell (p := ⟨wr.heap.size, 1, none⟩) hsz).trans (by simp)
                      have a2 : w5.cell? ⟨wr.heap.size, 2, none⟩ = some (.int .i64 m) := (hb5.cell (p := ⟨wr.heap.size, 2, none⟩) hsz).trans (by simp)
                      have hql5 : wr.heap.size < w5.heap.size := Nat.lt_of_lt_of_le hsz hb5.size
                      have c80 := cells_cell hS5.w8 (o := 0) rfl
                      have c81 := cells_cell hS5.w8 (o := 1) rfl
                      have htl5 := lt_of_block hS5.w8
                      have hfs := Lib.hid (refPeek_ok c w5 hS5.row hS5.bl o m hoo hmm)
                      obtain ⟨xa, xc, rfl⟩ := row_formB hr5
                      have gbl : B.length ≤ 4096 := hS5.bl
                      have HS5 := Lib.hid hS5
                      obtain ⟨MM, hMM⟩ : ∃ MM, MM = (B.drop o).take m := ⟨_, rfl⟩
                      have gM : (MM.length : Int) ≤ 4096 := by rw [hMM]; simp; omega
                      rw [← hMM] at HS5
                      rw [← hMM]
                      have HMM := Lib.hid hMM
                      clear hS5 hr5 HSA HRS hb5 hMM
                      unfold rv at *
                      go_wp2_with (go_at_call 16; fail)
                      refine hfs.out.mono ?_
                      rintro e w7 ⟨v1, rfl, hr1, hb7⟩
                      rw [← HMM.out] at hr1
                      obtain ⟨ya, yc, rfl⟩ := row_formB hr1
                      have hS7 := HS5.out.grown hb7
                      have hst1 := row_str hS7.prow
                      have hst2 := row_str hr1
                      have hbn : (strB MM != strB MM) = false := by have := beq_selfB (strB MM); simp [bne, this]
                      generalize strB MM = S at *
                      have hfin := Lib.hid hS7
                      clear hS7 hr1 HS5 hb7 hfs HMM c80 c81 a1' a2
                      go_wp2_with fail
                      clear hst1 hst2 hbn
                      generalize wr.heap.size = q at *
                      go_loopw [29, 217] (fun _ ix wr' => ∃ (j : Nat) (M' : List UInt8), ix = .int .i64 (j : Nat) ∧ j ≤ MM.length ∧ Hid (M'.length = MM.length) ∧ Hid (PSt w wr' a1 c t q B B va vc (.slice xa M'.length xc) M')) (fun _ ix _ => MM.length - (intOf ix).toNat)
                      case atStart => exact ⟨0, MM, rfl, Nat.zero_le _, Lib.hid rfl, hfin⟩
                      case round =>
                        obtain ⟨j, M', rfl, hj, hML, HP⟩ := hrel
                        clear hfin
                        by_cases hjl : j < MM.length
                        · have hjl2 : (j : Int) < (MM.length : Int) := by omega
                          obtain ⟨g, cap', hv, _, _⟩ := row_some HP.out.prow (by have := hML.out; omega)
                          simp only [Value.slice.injEq, true_and] at hv
                          obtain ⟨rfl, rfl⟩ := hv
                          obtain ⟨hcj, hfj, hgj⟩ := row_at HP.out.prow (j := j) (by have := hML.out; omega)
                          obtain ⟨z, hz⟩ : ∃ z : Nat, z = (M'[j]'(by have := hML.out; omega)).toNat := ⟨_, rfl⟩
                          have hz2 : (z : Int) ≤ 255 := by rw [hz]; have := (M'[j]'(by have := hML.out; omega)).toNat_lt; omega
                          rw [← hz] at hcj
                          have hwz : (Lit.int .u8 (((z : Int) + 1) % 256)).wf = true := by
                            have e1 : IntKind.u8.min = 0 := rfl
                            have e2 : IntKind.u8.max = 255 := rfl
                            simp [Lit.wf, e1, e2]; omega
                          have HP2 := Lib.hid (HP.out.inc (i := j) (y := byt (((z : Int) + 1) % 256)) (by have := hML.out; omega) rfl)
                          rw [encB_byt hwz] at HP2
                          have hML2 : Hid ((M'.set j (byt (((z : Int) + 1) % 256))).length = MM.length) := Lib.hid (by rw [List.length_set]; exact hML.out)
                          clear hz hwz
                          go_wp2_with fail
                          go_roundw
                          case rel => first | exact ⟨j + 1, _, by go_num, by omega, hML2, HP2⟩ | ((repeat apply Exists.intro); exact ⟨⟨j + 1, _, by go_num, by omega, hML2, HP2⟩, rfl⟩)
                          case measure => simp [intOf]; omega
                        · have hjl2 : decide ((j : Int) < (MM.length : Int)) = false := by simp; omega
                          have HD := Lib.hid HP.out.drop
                          clear HP
                          go_wp2_with fail
                          go_meet
                          exact ⟨a1, B, va, vc, rfl, HD⟩
                  have r2 : (x0 == 2) = false := by simpa using q2
                  by_cases q3 : x0 = 3
                  · as_aux_lemma =>
                    subst q3
                    clear r0 r1 r2 q0 q1 q2
                    have a2 : (wr.alloc (.cells #[.int .i64 3, .int .i64 x1, .int .i64 x2, .slice pa pl pc] 26)).cell? ⟨wr.heap.size, 2, none⟩ = some (.int .i64 x2) := by simp
                    have HSA := hSA
                    by_cases hm : x2 < 0
                    · have hrs := Lib.hid (skipNeg_in hSA.out.rg x2 hm)
                      have hfs := Lib.hid (refSkip_neg c va B.length vc x2 hm (wr.alloc (.cells #[.int .i64 3, .int .i64 x1, .int .i64 x2, .slice pa pl pc] 26)))
                      have c80 := cells_cell hSA.out.w8 (o := 0) rfl
                      have c81 := cells_cell hSA.out.w8 (o := 1) rfl
                      have htl0 := lt_of_block hSA.out.w8
                      clear hSA a2
                      unfold pt rv at *
                      go_wp2_with (go_at_call 17; refine hrs.out.mono ?_; rintro e w5 ⟨rfl, rfl⟩)
                      go_wp2_with (go_at_call 18; fail)
                      refine hfs.out.mono ?_
                      rintro e w5 ⟨rfl, hb5⟩
                      have hS5 := HSA.out.grown hb5
                      have c80 := cells_cell hS5.w8 (o := 0) rfl
                      have c81 := cells_cell hS5.w8 (o := 1) rfl
                      have f80 := cells_free hS5.w8 0
                      have f81 := cells_free hS5.w8 1
                      have htl5 := lt_of_block hS5.w8
                      have hfin := Lib.hid ((hS5.renew rfl).grown (wr' := ((w5.setCell ⟨t, 0, none⟩ (.int .i64 c)).setCell ⟨t, 1, none⟩ (.slice va B.length vc)).alloc (.cells #[.int .i64 c, .slice va B.length vc] 32)) ((Below.refl _ _).alloc (Nat.le_refl _) _)).drop
                      clear hS5 hrs hfs HSA hb5
                      go_wp2_with fail
                      go_meet
                      exact ⟨a1, B, va, vc, rfl, hfin⟩
                    · have hrs := Lib.hid (skip_in hSA.out.rg x2 (by omega))
                      clear hSA a2
                      unfold pt at *
                      go_wp2_with (go_at_call 17; fail)
                      refine hrs.out.mono ?_
                      rintro e w5 ⟨rfl, A5⟩
                      have hS5 := HSA.out.aft A5
                      have hq5 := A5.keep wr.heap.size (.inr (.inr (.inr rfl)))
                      have a2 : w5.cell? ⟨wr.heap.size, 2, none⟩ = some (.int .i64 x2) := (World.cell?_of_block hq5).trans (by simp)
                      have hql5 : wr.heap.size < w5.heap.size := Nat.lt_of_lt_of_le hsz A5.size
                      have c80 := cells_cell hS5.w8 (o := 0) rfl
                      have c81 := cells_cell hS5.w8 (o := 1) rfl
                      have htl5 := lt_of_block hS5.w8
                      have hfs := Lib.hid (refSkip_at c w5 hS5.row hS5.bl x2 (min x2.toNat B.length) (by omega))
                      have HS5 := Lib.hid hS5
                      have hdm : Hid (B.drop (min x2.toNat B.length) = B.drop x2.toNat) := Lib.hid (drop_min B x2.toNat)
                      have hnl : min x2.toNat B.length ≤ B.length := Nat.min_le_right _ _
                      have gbl : B.length ≤ 4096 := hS5.bl
                      generalize min x2.toNat B.length = n at *
                      have gn : (n : Int) ≤ 4096 := by omega
                      have hnn : ((n : Int) != (n : Int)) = false := by simp
                      clear hS5 A5 HSA hq5 hrs
                      unfold rv at *
                      go_wp2_with (go_at_call 18; fail)
                      refine hfs.out.mono ?_
                      rintro e w7 ⟨v2, rfl, hr2, hb7⟩
                      rw [hdm.out] at hr2
                      obtain ⟨v2a, v2c, rfl⟩ := row_formB hr2
                      have hB2l : (B.drop x2.toNat).length ≤ 4096 := by simp; omega
                      obtain ⟨B2, hB2⟩ : ∃ B2, B2 = B.drop x2.toNat := ⟨_, rfl⟩
                      rw [← hB2] at hr2 hB2l HS5
                      rw [← hB2]
                      have hS7 := HS5.out.grown hb7
                      have c80 := cells_cell hS7.w8 (o := 0) rfl
                      have c81 := cells_cell hS7.w8 (o := 1) rfl
                      have f80 := cells_free hS7.w8 0
                      have f81 := cells_free hS7.w8 1
                      have htl7 := lt_of_block hS7.w8
                      have hfin := Lib.hid ((HS5.out.newref hb7 hr2 hB2l rfl).grown (wr' := ((w7.setCell ⟨t, 0, none⟩ (.int .i64 c)).setCell ⟨t, 1, none⟩ (.slice v2a B2.length v2c)).alloc (.cells #[.int .i64 c, .slice v2a B2.length v2c] 32)) ((Below.refl _ _).alloc (Nat.le_refl _) _)).drop
                      clear hS7 hr2 HS5 hb7 hB2 hfs hB2l hdm
                      unfold rv
                      go_wp2_with fail
                      go_meet
                      exact ⟨a1, B2, v2a, v2c, rfl, hfin⟩
                  have r3 : (x0 == 3) = false := by simpa using q3
                  by_cases q4 : x0 = 4
                  · as_aux_lemma =>
                    subst q4
                    clear r0 r1 r2 r3 q0 q1 q2 q3
                    have hrs := Lib.hid (reset_in hSA.out.rg)
                    have HSA := hSA
                    clear hSA
                    unfold pt at *
                    go_wp2_with (go_at_call 19; fail)
                    refine hrs.out.mono ?_
                    rintro e w5 ⟨rfl, A5⟩
                    have hS5 := HSA.out.aft A5
                    have c81 := cells_cell hS5.w8 (o := 1) rfl
                    have f81 := cells_free hS5.w8 1
                    have htl5 := lt_of_block hS5.w8
                    have hfin := Lib.hid (hS5.clear rfl).drop
                    clear hS5 A5 HSA hrs
                    go_wp2_with fail
                    go_meet
                    exact ⟨a1, [], none, 0, rfl, hfin⟩
                  have r4 : (x0 == 4) = false := by simpa using q4
                  as_aux_lemma =>
                  clear q0 q1 q2 q3 q4
                  have HSA := hSA
                  have hcp := Lib.hid (copy_in hSA.out.rg)
                  clear hSA
                  unfold pt at *
                  go_wp2_with (go_at_call 20; fail)
                  refine hcp.out.mono ?_
                  rintro e w5 ⟨a', rfl, hb5, hR'⟩
                  have HS5 := Lib.hid (HSA.out.grown hb5)
                  have HR' := Lib.hid hR'
                  obtain ⟨s, hs⟩ : ∃ s, s = (wr.alloc (.cells #[.int .i64 x0, .int .i64 x1, .int .i64 x2, .slice pa pl pc] 26)).heap.size := ⟨_, rfl⟩
                  rw [← hs] at HR'
                  have hold : Hid (RgIn w (fun k => (k = t ∨ (Value.slice va B.length vc).ownBlock = some k ∨ (Value.slice none 0 0).ownBlock = some k ∨ k = wr.heap.size) ∨ (s ≤ k ∧ k < w5.heap.size)) w5 a1 c B) := Lib.hid (HSA.out.rg.more hb5 (fun k hk => by rw [hs] at hk; exact hk))
                  have hall : Hid (∀ k, (k = t ∨ (Value.slice va B.length vc).ownBlock = some k ∨ (Value.slice none 0 0).ownBlock = some k ∨ k = wr.heap.size) → k < s) := Lib.hid (fun k hk => by rw [hs]; exact HSA.out.rg.lt k hk)
                  have hsk := Lib.hid (skip_in hold.out 1 (by omega))
                  clear hb5 hR' hs HSA hcp hold
                  unfold pt at *
                  go_wp2_with (go_at_call 17; fail)
                  refine hsk.out.mono ?_
                  rintro e w6 ⟨rfl, A6⟩
                  have HS6 := Lib.hid (HS5.out.aft (A6.less (fun k hk => .inl hk)))
                  have hbB : Below w6.heap.size w6 (w6.alloc (.cells #[.int .u8 111, .int .u8 108, .int .u8 100] 5 (3, 4))) := (Below.refl _ _).alloc (Nat.le_refl _) _
                  have hold2 : RgIn w (fun k => ((k = t ∨ (Value.slice va B.length vc).ownBlock = some k ∨ (Value.slice none 0 0).ownBlock = some k ∨ k = wr.heap.size) ∨ (s ≤ k ∧ k < w5.heap.size)) ∨ k = w6.heap.size) (w6.alloc (.cells #[.int .u8 111, .int .u8 108, .int .u8 100] 5 (3, 4))) a1 c (B.drop (1 : Int).toNat) := A6.rg.more hbB (fun k hk => by
                    rcases hk with hk | rfl
                    · exact .inl hk
                    · exact .inr ⟨Nat.le_refl _, by simp⟩)
                  have HS6 := Lib.hid (HS6.out.grown hbB)
                  have HK6 : Hid ((∀ k, s ≤ k → k < w5.heap.size → (w6.alloc (.cells #[.int .u8 111, .int .u8 108, .int .u8 100] 5 (3, 4))).heap[k]? = w5.heap[k]?) ∧ w5.heap.size ≤ (w6.alloc (.cells #[.int .u8 111, .int .u8 108, .int .u8 100] 5 (3, 4))).heap.size) := Lib.hid ⟨fun k h1 h2 => (hbB.block k (Nat.lt_of_lt_of_le h2 A6.size)).trans (A6.keep k (.inr ⟨h1, h2⟩)), Nat.le_trans A6.size hbB.size⟩
                  have hwr := Lib.hid (write_in hold2 (ao := some ⟨w6.heap.size, 0, none⟩) (L := 3) (lc := 3) (P := [111, 108, 100]) (.inr ⟨w6.heap.size, 0, rfl, rfl, Nat.le_refl _, by unfold maxLen; omega, lies_old w6, .inr (.inr rfl)⟩) (by simp))
                  have kc := Lib.run_convert_bytes_const (P := Try.prog) w6 24 5 #[.int .u8 111, .int .u8 108, .int .u8 100] 3 3 Try.underlying24 Try.underlying5
                  have hsz6 := A6.size
                  clear A6 hold2 HS5 hsk
                  unfold pt at *
                  go_wp2_with (go_at_call 11; fail)
                  refine hwr.out.mono ?_
                  rintro e w8 ⟨rfl, A8⟩
                  have HR8 := HR'.out.left (fun k h1 h2 => (A8.keep k (.inl (.inr ⟨h1, h2⟩))).trans (HK6.out.1 k h1 h2)) A8.rg.below (Nat.le_trans HK6.out.2 A8.size)
                  have hfin := Lib.hid (((HS6.out.aft (A8.less (fun k hk => .inl (.inl hk)))).swap HR8 hall.out).drop)
                  clear HR8 A8 kc hbB hwr
                  go_wp2_with fail
                  go_meet
                  exact ⟨a', B, va, vc, rfl, hfin⟩
              case rest => as_aux_lemma =>
                obtain ⟨a1', B', va', vc', rfl, HS⟩ := hcut
                clear hSA c0 c1 c2 c3 hX1 hX2 HSP
                have c80 := cells_cell HS.out.w8 (o := 0) rfl
                have c81 := cells_cell HS.out.w8 (o := 1) rfl
                have htl := lt_of_block HS.out.w8
                have hbl' := HS.out.rg.bl
                have hl1 : Hid (∀ q, Calls Try.prog 21 #[.pointer (some ⟨a1', 0, none⟩)] (wc.drewN q) fun e w' => e = .returned (.int .i64 B'.length) ∧ w' = wc.drewN q) := Lib.hid (fun q => (len_in (HS.out.rg.grown (drew_below wc q))).mono fun _ _ h => ⟨h.1, h.2.symm⟩)
                have hl2 : Hid (∀ q, Calls Try.prog 22 #[.pointer (some ⟨a1', 0, none⟩)] (wc.drewN q) fun e w' => e = .returned (.int .i64 c) ∧ w' = wc.drewN q) := Lib.hid (fun q => (cap_in (HS.out.rg.grown (drew_below wc q))).mono fun _ _ h => ⟨h.1, h.2.symm⟩)
                have hl3 : Hid (∀ q, Calls Try.prog 23 #[.pointer (some ⟨a1', 0, none⟩)] (wc.drewN q) fun e w' => e = .returned (.int .i64 ((c - B'.length : Nat) : Int)) ∧ w' = wc.drewN q) := Lib.hid (fun q => (free_in (HS.out.rg.grown (drew_below wc q))).mono fun _ _ h => ⟨h.1, h.2.symm⟩)
                have HG : Hid (∀ q, PSt w (wc.drewN q) a1' c t t B' B' va' vc' (.slice none 0 0) []) := Lib.hid (fun q => HS.out.grown (drew_below wc q))
                clear HS
                obtain ⟨l, hl⟩ : ∃ l, l = B'.length := ⟨_, rfl⟩
                obtain ⟨f, hf⟩ : ∃ f, f = c - l := ⟨_, rfl⟩
                rw [← hl] at hl1 hl3 hbl' c81
                rw [← hf] at hl3
                have g1 : (l : Int) ≤ (c : Int) := by omega
                have g3 : ((l : Int) != (l : Int)) = false := by simp
                have g4 : ((c : Int) != (c : Int)) = false := by simp
                have g5 : ((f : Int) != (c : Int) - (l : Int)) = false := by simp; omega
                clear hl hf
                go_wp2_with fail
                go_quiet (first
                  | (go_at_call 21; exact Calls.quiet_of_same (hl1.out _))
                  | (go_at_call 22; exact Calls.quiet_of_same (hl2.out _))
                  | (go_at_call 23; exact Calls.quiet_of_same (hl3.out _)))
                have HG2 := Lib.hid (HG.out nq)
                clear HG hl1 hl2 hl3
                go_wp2_with fail
                go_roundw
                case rel => exact ⟨k + 1, a1', B', va', vc', by omega, by go_num, rfl, HG2⟩
                case measure => simp [intOf]; omega
            · as_aux_lemma =>
              obtain rfl : len = k := by omega
              have hkk2 : decide ((len : Int) < (len : Int)) = false := by simp
              have hbl := HS.out.rg.bl
              have hrd := read_in HS.out.rg 5000 (by omega)
              rw [List.take_of_length_le (by show _ ≤ 5000; omega)] at hrd
              have HRD := Lib.hid hrd
              clear hrd
              unfold pt at *
              go_wp2_with (go_at_call 13; fail)
              refine HRD.out.mono ?_
              rintro e w4 ⟨v, rfl, hrow, hA, _⟩
              have hS4 := HS.out.aft hA
              have c81 := cells_cell hS4.w8 (o := 1) rfl
              have htl := lt_of_block hS4.w8
              have hst1 := row_str hrow
              have hst2 := row_str hS4.row
              have hbq := beq_selfB (strB B)
              have HB4 := Lib.hid hS4.rg.below
              obtain ⟨xa, xc, rfl⟩ := row_formB hrow
              generalize strB B = S at *
              clear hS4 hA hrow HS
              go_wp2_with (go_at_call 8; refine (HKA.out _).mono ?_; rintro e w5 ⟨rfl, hb5⟩)
              go_ret
              exact ⟨rfl, HB4.out.trans (hb5.mono HB4.out.size)⟩
end Go.Proofs.Ytilafgemgdjfhaa
