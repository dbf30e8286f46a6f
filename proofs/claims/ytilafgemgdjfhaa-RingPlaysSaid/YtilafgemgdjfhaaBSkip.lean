/- Write of nothing, too long; Skip; Reset. -/
import Derived.Test.YtilafgemgdjfhaaBWrite
namespace Go.Proofs.Ytilafgemgdjfhaa
open Go.RowKit Go.Sort
set_option linter.unusedVariables false
set_option linter.unusedSimpArgs false

section
variable {w0 w : World} {G : Nat → Prop} {a bb cc cp c f : Nat} {xs B : List UInt8}

set_option maxHeartbeats 800000 in
theorem write_long (R : RgB w0 G w a bb cc cp c f xs B) {ao : Option Addr} {L lc : Nat} (hL : 65536 < L) (hm : L ≤ maxLen) :
    Calls Try.prog 11 #[pt a, .slice ao L lc] w fun e w' => e = .returned (.tuple #[.int .i64 0, .int .i64 5]) ∧ w = w' := by
  have hu := Lib.hid (usable_yes a bb w R.ca)
  have e1 : (65536 : Int) < (L : Int) := by omega
  have e3 : (L : Int) ≤ 9223372036854775807 := by unfold maxLen at hm; omega
  clear R
  unfold pt
  go_enter Try.func11, Try.ntmps11
  go_wp2_with (go_at_call 27; refine hu.out.mono ?_; rintro e w' ⟨rfl, rfl⟩)
  go_ret2
  exact ⟨rfl, rfl⟩

set_option maxRecDepth 100000 in
set_option maxHeartbeats 1600000 in
theorem write_none (R : RgB w0 G w a bb cc cp c f xs B) :
    Calls Try.prog 11 #[pt a, .slice none 0 0] w fun e w' => e = .returned (.tuple #[.int .i64 0, .int .i64 0]) ∧ RgB w0 G w' a bb cc cp c f xs B ∧ Keep G w w' ∧ Fr [bb, cc] w w' := by
  have hpc := Lib.hid (pieces_in R B.length 0 (by have := R.cyc.bl; omega))
  have hp0 : hd c (wr c (f + B.length)) 0 = 0 := by unfold hd; omega
  rw [hp0] at hpc
  generalize wr c (f + B.length) = v at *
  have hu := Lib.hid (usable_yes a bb w R.ca)
  have hfr := Lib.hid (free_any R)
  have HR := Lib.hid R
  have ca := R.ca
  have c2 := R.c2
  have alt := R.alt
  have blt := R.blt
  obtain ⟨q, hq⟩ : ∃ q, q = c - B.length := ⟨_, rfl⟩
  rw [← hq] at hfr
  have e4 : (q : Int) ≤ 4096 := by have := R.cyc.top; omega
  have e5 : (B.length : Int) ≤ 4096 := by have := R.cyc.top; have := R.cyc.bl; omega
  have hmin : min (0 : Int) (q : Int) = 0 := by omega
  clear hq R hp0
  unfold pt at *
  go_enter Try.func11, Try.ntmps11
  go_wp2_with (first | (go_at_call 27; refine hu.out.mono ?_; rintro e w' ⟨rfl, rfl⟩) | (go_at_call 23; refine hfr.out.mono ?_; rintro e w' ⟨rfl, rfl⟩) | (go_at_call 28; fail))
  refine hpc.out.mono ?_
  rintro e w1 ⟨a1, a2, k, rfl, q1, q2, rfl⟩
  have R1 := Lib.hid (HR.out.drew k)
  have F1 := Lib.hid (fr_drewN w k [bb, cc])
  have C2 := R1.out.c2
  have kf : (w.drewN k).frozen? ⟨bb, 2, none⟩ = false := cells_free R1.out.tb 2
  have hbl : bb < (w.drewN k).heap.size := R1.out.blt
  clear q1 q2 c2
  generalize w.drewN k = W at *
  go_wp2_with (first
    | (with_reducible refine wpList_copy_nothing rfl (.tmp 38) (.tmp 39) 24 24 rfl 5 Try.underlying24 sizeU8 a1 none 0 0 0 0 rfl rfl rfl ?_)
    | (with_reducible refine wpList_copy_nothing rfl (.tmp 41) (.tmp 44) 24 24 rfl 5 Try.underlying24 sizeU8 a2 none _ _ _ _ rfl rfl rfl ?_))
  go_ret2
  obtain ⟨r, hr, hl⟩ := R1.out.tc
  exact ⟨rfl, HR.out.counted F1.out R1.out.tb hr hl R1.out.cyc rfl⟩

/-- The places were written, then the first place and the number of bytes. -/
theorem RgB.skipped {w3 : World} {xs' B' : List UInt8} {r : List Value} {z : Int} {f' : Nat} (R : RgB w0 G w a bb cc cp c f xs B) (hf : Fr [bb, cc] w w3) (hb : w3.heap[bb]? = some (.cells #[.slice (some ⟨cc, 0, none⟩) c cp, .int .i64 f, .int .i64 B.length] 64 (0, 0)))
    (hc : w3.heap[cc]? = some (.cells (xs'.map encB ++ r).toArray 5 (0, 0))) (hl : (xs'.map encB ++ r).length = cp) (hy : Cyc c xs' f' B') (hz : z = B'.length) :
    RgB w0 G ((w3.setCell ⟨bb, 1, none⟩ (.int .i64 f')).setCell ⟨bb, 2, none⟩ (.int .i64 z)).drew a bb cc cp c f' xs' B' ∧ Keep G w ((w3.setCell ⟨bb, 1, none⟩ (.int .i64 f')).setCell ⟨bb, 2, none⟩ (.int .i64 z)).drew ∧ Fr [bb, cc] w ((w3.setCell ⟨bb, 1, none⟩ (.int .i64 f')).setCell ⟨bb, 2, none⟩ (.int .i64 z)).drew := by
  have hf' : Fr [bb, cc] w ((w3.setCell ⟨bb, 1, none⟩ (.int .i64 f')).setCell ⟨bb, 2, none⟩ (.int .i64 z)).drew :=
    ((hf.trans' ((fr_setCell w3 ⟨bb, 1, none⟩ _).mono (fun x hx => by simp at hx; exact .inl (by simp [hx])))).trans' ((fr_setCell _ ⟨bb, 2, none⟩ _).mono (fun x hx => by simp at hx; exact .inl (by simp [hx])))).trans' (fr_drewN _ 1 _)
  subst hz
  obtain ⟨h1, h2⟩ := R.turn hf' (by
    show ((w3.setCell ⟨bb, 1, none⟩ (.int .i64 f')).setCell ⟨bb, 2, none⟩ (.int .i64 B'.length)).heap[bb]? = _
    rw [cells_set (cells_set hb 1 _) 2 _]; rfl) ⟨r, (by
    show ((w3.setCell ⟨bb, 1, none⟩ (.int .i64 f')).setCell ⟨bb, 2, none⟩ (.int .i64 B'.length)).heap[cc]? = _
    exact cells_set_other (cells_set_other hc R.cb _ _) R.cb _ _), hl⟩ hy
  exact ⟨h1, h2, hf'⟩

set_option maxHeartbeats 800000 in
theorem skip_neg (R : RgB w0 G w a bb cc cp c f xs B) (m : Int) (hm : m < 0) :
    Calls Try.prog 17 #[pt a, .int .i64 m] w fun e w' => e = .returned (.tuple #[.int .i64 0, .int .i64 2]) ∧ w = w' := by
  have hu := Lib.hid (usable_yes a bb w R.ca)
  clear R
  unfold pt
  go_enter Try.func17, Try.ntmps17
  go_wp2_with (go_at_call 27; refine hu.out.mono ?_; rintro e w' ⟨rfl, rfl⟩)
  go_ret2
  exact ⟨rfl, rfl⟩

set_option maxRecDepth 100000 in
set_option maxHeartbeats 3200000 in
theorem skip_at (R : RgB w0 G w a bb cc cp c f xs B) (m : Int) (hm : 0 ≤ m) (n : Nat) (hn : (n : Int) = min m (B.length : Int)) :
    Calls Try.prog 17 #[pt a, .int .i64 m] w fun e w' => ∃ xs' f', e = .returned (.tuple #[.int .i64 n, .int .i64 0]) ∧ RgB w0 G w' a bb cc cp c f' xs' (B.drop n) ∧ Keep G w w' ∧ Fr [bb, cc] w w' := by
  have hnb : n ≤ B.length := by omega
  have hcy := Lib.hid (R.cyc.skip n hnb)
  have hbl := R.cyc.bl
  have hct := R.cyc.top
  have hfl := R.cyc.fl
  have hpc := Lib.hid (pieces_in R 0 n (by omega))
  have hpp := hd_or c f n
  have hw0 : wr c (f + 0) = f := by unfold wr; rw [if_pos (by omega)]; rfl
  rw [hw0] at hpc
  have em : Hid (((f : Int) + (n : Int)).tmod (c : Int) = ((wr c (f + n) : Nat) : Int)) := Lib.hid (by rw [Int.tmod_eq_emod_of_nonneg (by omega)]; exact wr_int (by omega))
  generalize wr c (f + n) = f' at *
  generalize hd c f n = p at *
  obtain ⟨t, ht⟩ : ∃ t, t = n - p := ⟨_, rfl⟩
  rw [← ht] at hpc hcy
  have hu := Lib.hid (usable_yes a bb w R.ca)
  have HR := Lib.hid R
  have ca := R.ca
  have c2 := R.c2
  have alt := R.alt
  have blt := R.blt
  obtain ⟨q, hq⟩ : ∃ q, q = B.length := ⟨_, rfl⟩
  rw [← hq] at hn c2 hbl
  have e3 : (q : Int) ≤ 4096 := by omega
  have e5 : (n : Int) ≤ (q : Int) := by omega
  have e6 : (f : Int) < (c : Int) := by omega
  have e7 : (c : Int) ≤ 4096 := by omega
  have e8 : (1 : Int) ≤ (c : Int) := by omega
  have hfit : Hid (f + p ≤ c ∧ t ≤ c) := Lib.hid (by omega)
  have hH : Hid (q = B.length) := Lib.hid hq
  have hlq : m ≤ (q : Int) ∧ m = (n : Int) ∨ (q : Int) < m ∧ n = q := by omega
  obtain ⟨r, hr, hrl⟩ := R.tc
  have HG := Lib.hid hr
  have HRL := Lib.hid hrl
  have EM := em.out
  clear hn hq R hpp hbl hct hfl hr hrl hnb ht em hw0
  unfold pt at *
  rcases hlq with ⟨g1, rfl⟩ | ⟨g1, rfl⟩
  all_goals (
    go_enter Try.func17, Try.ntmps17
    go_wp2_with (first | (go_at_call 27; refine hu.out.mono ?_; rintro e w' ⟨rfl, rfl⟩) | (go_at_call 28; fail))
    refine hpc.out.mono ?_
    rintro e w1 ⟨a1, a2, k, rfl, q1, q2, rfl⟩
    have G1 := Lib.hid (show (w.drewN k).heap[cc]? = some (Obj.cells (List.map encB xs ++ r).toArray 5 (0, 0)) from HG.out)
    have R1 := Lib.hid (HR.out.drew k)
    have F1 := Lib.hid (fr_drewN w k [bb, cc])
    have z1 : List.replicate p (Value.int .u8 0) = (List.replicate p (0 : UInt8)).map encB := by rw [List.map_replicate]; rfl
    have z2 : List.replicate t (Value.int .u8 0) = (List.replicate t (0 : UInt8)).map encB := by rw [List.map_replicate]; rfl
    have Z1 := Lib.hid z1
    have Z2 := Lib.hid z2
    have Q1 := Lib.hid q1
    have Q2 := Lib.hid q2
    clear z1 z2 c2 q1 q2
    generalize w.drewN k = W at *
    go_wp2_with (with_reducible refine wpList_clear_fr rfl rfl (.tmp 33) 24 rfl 5 (.int .u8 0) Try.underlying24 Try.zeroValue5 rfl rfl a1 p p rfl cc f (xs.map encB ++ r) 5 G1.out Q1.out ?_ ?_)
    · rw [HRL.out]; have := hfit.out; have := R1.out.ccp; omega
    intro w2 HG2 HF2
    have X2 : Hid (splice (xs.map encB ++ r) f (List.replicate p (Value.int .u8 0)) = (splice xs f (List.replicate p 0)).map encB ++ r) := Lib.hid (by rw [Z1.out]; exact splice_map _ _ _ _ _ (by have := hfit.out; have := R1.out.cyc.len; simp; omega))
    have G2 := Lib.hid (X2.out ▸ HG2.out)
    have L2 : Hid (((splice xs f (List.replicate p 0)).map encB ++ r).length = cp) := Lib.hid (by
      rw [← X2.out]
      exact (length_splice _ _ _ (by rw [HRL.out]; have := hfit.out; have := R1.out.ccp; simp; omega)).trans HRL.out)
    clear HG2
    go_wp2_with (with_reducible refine wpList_clear_fr rfl rfl (.tmp 34) 24 rfl 5 (.int .u8 0) Try.underlying24 Try.zeroValue5 rfl rfl a2 t t rfl cc 0 ((splice xs f (List.replicate p 0)).map encB ++ r) 5 G2.out Q2.out ?_ ?_)
    · rw [L2.out]; have := hfit.out; have := R1.out.ccp; omega
    intro w3 HG3 HF3
    have X3 : Hid (splice ((splice xs f (List.replicate p 0)).map encB ++ r) 0 (List.replicate t (Value.int .u8 0)) = (splice (splice xs f (List.replicate p 0)) 0 (List.replicate t 0)).map encB ++ r) := Lib.hid (by
      rw [Z2.out]
      have h1 := length_splice xs f (List.replicate p (0 : UInt8)) (by have := hfit.out; have := R1.out.cyc.len; simp; omega)
      exact splice_map _ _ _ _ _ (by rw [h1]; have := hfit.out; have := R1.out.cyc.len; simp; omega))
    have G3 := Lib.hid (X3.out ▸ HG3.out)
    have L3 : Hid (((splice (splice xs f (List.replicate p 0)) 0 (List.replicate t 0)).map encB ++ r).length = cp) := Lib.hid (by
      rw [← X3.out]
      exact (length_splice _ _ _ (by rw [L2.out]; have := hfit.out; have := R1.out.ccp; simp; omega)).trans L2.out)
    have hcb := Lib.hid R1.out.cb
    have D3 := Lib.hid (HF3.out.same (HF2.out.same R1.out.tb (by simp; exact fun h => hcb.out h.symm)) (by simp; exact fun h => hcb.out h.symm))
    have k0 := cells_cell D3.out (o := 0) rfl
    have k1 := cells_cell D3.out (o := 1) rfl
    have k2 := cells_cell D3.out (o := 2) rfl
    have kf1 : w3.frozen? ⟨bb, 1, none⟩ = false := cells_free D3.out 1
    have kf : w3.frozen? ⟨bb, 2, none⟩ = false := cells_free D3.out 2
    have blt3 := lt_of_block D3.out
    have FF := Lib.hid ((F1.out.trans' (HF2.out.mono (fun x hx => by simp at hx; exact .inl (by simp [hx])))).trans' (HF3.out.mono (fun x hx => by simp at hx; exact .inl (by simp [hx]))))
    rw [← hH.out] at k2
    clear HG3
    go_wp2_with fail
    go_region
    simp only [Exit.inBlock, Exit.then]
    go_at_K
    go_wp2_with fail
    go_ret2
    exact ⟨_, _, rfl, HR.out.skipped FF.out D3.out G3.out L3.out hcy.out (by have := hH.out; simp; omega)⟩)
end
end Go.Proofs.Ytilafgemgdjfhaa
