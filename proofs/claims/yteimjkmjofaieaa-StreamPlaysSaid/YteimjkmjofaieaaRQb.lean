/- Ring buffers (layer 4) as they are used by a buffered stream. -/
import Derived.Test.YteimjkmjofaieaaRQa

namespace Go.Proofs.Yteimjkmjofaieaa
namespace Rg
open Go.RowKit Go.Sort
set_option linter.unusedVariables false
set_option linter.unusedSimpArgs false
set_option maxRecDepth 100000

theorem infoU8 : (Try.prog.info? 5).map (fun i => (i.zero, i.size, i.bytes)) = some (some (.int .u8 0), 1, 1) := by kernel_rfl
theorem sizeU8 : (Try.prog.info? 5).map (·.size) = some 1 := by kernel_rfl

/-- The bytes P lie behind an address. -/
def Lies (w : World) (b off : Nat) (P : List UInt8) : Prop := ∀ i u, P[i]? = some u → w.cell? ⟨b, off + i, none⟩ = some (encB u)
theorem Lies.same {w w' : World} {b off : Nat} {P : List UInt8} (h : Lies w b off P) (hb : w'.heap[b]? = w.heap[b]?) : Lies w' b off P := fun i u hi => by
  rw [World.cell?_of_block (show w'.heap[(⟨b, off + i, none⟩ : Addr).block]? = _ from hb)]; exact h i u hi
theorem Lies.fr {w w' : World} {F : List Nat} {b off : Nat} {P : List UInt8} (h : Lies w b off P) (hf : Fr F w w') (hb : b ∉ F) : Lies w' b off P := fun i u hi => hf.cell (h i u hi) hb
theorem Lies.map {w : World} {b off : Nat} {P : List UInt8} (h : Lies w b off P) : ∀ j v, (P.map encB)[j]? = some v → w.cell? ((⟨b, off, none⟩ : Addr).add j) = some v := fun j v hj => by
  rw [List.getElem?_map] at hj
  obtain ⟨u, hu, rfl⟩ := Option.map_eq_some_iff.1 hj
  rw [Go.WideShapes.add_plain]
  exact h j u hu
theorem Lies.take {w : World} {b off : Nat} {P : List UInt8} (h : Lies w b off P) (n : Nat) : Lies w b off (P.take n) := fun i u hi => by
  rw [List.getElem?_take] at hi
  split at hi
  · exact h i u hi
  · cases hi
theorem Lies.drop {w : World} {b off : Nat} {P : List UInt8} (h : Lies w b off P) (n : Nat) : Lies w b (off + n) (P.drop n) := fun i u hi => by
  rw [List.getElem?_drop] at hi
  have := h (n + i) u hi
  rwa [← Nat.add_assoc] at this

section
variable {w0 w : World} {G : Nat → Prop} {a bb cc cp c f : Nat} {xs B : List UInt8}

theorem RgB.grown {w' : World} (R : RgB w0 G w a bb cc cp c f xs B) (hb : Below w.heap.size w w') : RgB w0 G w' a bb cc cp c f xs B := R.more hb fun _ h => .inl h
theorem RgB.drew (R : RgB w0 G w a bb cc cp c f xs B) (n : Nat) : RgB w0 G (w.drewN n) a bb cc cp c f xs B := R.grown (drew_below w n)

theorem pieces_in (R : RgB w0 G w a bb cc cp c f xs B) (o n : Nat) (h : o + n ≤ c) :
    Calls Try.prog 89 #[.pointer (some ⟨bb, 0, none⟩), .int .i64 o, .int .i64 n] w (PcR w cc (wr c (f + o)) (hd c (wr c (f + o)) n) (n - hd c (wr c (f + o)) n)) := by
  have h3 := R.cyc.fl
  have h5 := R.cyc.pos
  have ho := hd_or c (wr c (f + o)) n
  by_cases hn : n = 0 ∧ o = c
  · obtain ⟨rfl, rfl⟩ := hn
    refine pieces_at R.c0 R.c1 h3 R.cyc.top R.ccp R.cpm o 0 _ _ _ h (by rw [Int.tmod_eq_emod_of_nonneg (by omega)]; exact wr_int (by omega)) (wr_lt (by omega)) (by omega) rfl
  · refine pieces_at R.c0 R.c1 h3 R.cyc.top R.ccp R.cpm o n _ _ _ h (by rw [Int.tmod_eq_emod_of_nonneg (by omega)]; exact wr_int (by omega)) (wr_lt (by omega)) (by omega) rfl

/-- The places were written, then the number of bytes. -/
theorem RgB.counted {w3 : World} {xs' B' : List UInt8} {r : List Value} {z : Int} (R : RgB w0 G w a bb cc cp c f xs B) (hf : Fr [bb, cc] w w3) (hb : w3.heap[bb]? = some (.cells #[.slice (some ⟨cc, 0, none⟩) c cp, .int .i64 f, .int .i64 B.length] 133 (0, 0)))
    (hc : w3.heap[cc]? = some (.cells (xs'.map encB ++ r).toArray 5 (0, 0))) (hl : (xs'.map encB ++ r).length = cp) (hy : Cyc c xs' f B') (hz : z = B'.length) :
    RgB w0 G (w3.setCell ⟨bb, 2, none⟩ (.int .i64 z)) a bb cc cp c f xs' B' ∧ Keep G w (w3.setCell ⟨bb, 2, none⟩ (.int .i64 z)) ∧ Fr [bb, cc] w (w3.setCell ⟨bb, 2, none⟩ (.int .i64 z)) := by
  have hf' : Fr [bb, cc] w (w3.setCell ⟨bb, 2, none⟩ (.int .i64 z)) := hf.trans' ((fr_setCell w3 ⟨bb, 2, none⟩ _).mono (fun x hx => by simp at hx; exact .inl (by simp [hx])))
  subst hz
  obtain ⟨h1, h2⟩ := R.turn hf' (by rw [cells_set hb 2 _]; rfl) ⟨r, cells_set_other hc R.cb _ _, hl⟩ hy
  exact ⟨h1, h2, hf'⟩

set_option maxRecDepth 100000 in
set_option maxHeartbeats 3200000 in
theorem write_some (R : RgB w0 G w a bb cc cp c f xs B) {b off lc : Nat} (P : List UInt8) (hP : P.length ≤ 65536) (hlc : P.length ≤ lc) (hlm : lc ≤ maxLen) (hsrc : Lies w b off P) (hbc : b ≠ cc) (hbb : b ≠ bb) :
    Calls Try.prog 81 #[pt a, .slice (some ⟨b, off, none⟩) P.length lc] w fun e w' => ∃ xs', e = .returned (.tuple #[.int .i64 ((min P.length (c - B.length) : Nat) : Int), .int .i64 0]) ∧ RgB w0 G w' a bb cc cp c f xs' (B ++ P.take (min P.length (c - B.length))) ∧ Keep G w w' ∧ Fr [bb, cc] w w' := by
  obtain ⟨n, hn⟩ : ∃ n, n = min P.length (c - B.length) := ⟨_, rfl⟩
  have hcy := Lib.hid (R.cyc.write n hn)
  have hbl := R.cyc.bl
  have hct := R.cyc.top
  have hfl := R.cyc.fl
  have hpc := Lib.hid (pieces_in R B.length n (by omega))
  have hvv := wr_lt (c := c) (x := f + B.length) (by omega)
  have hpp := hd_or c (wr c (f + B.length)) n
  rw [← hn]
  generalize wr c (f + B.length) = v at *
  generalize hd c v n = p at *
  obtain ⟨t, ht⟩ : ∃ t, t = n - p := ⟨_, rfl⟩
  rw [← ht] at hpc
  have hu := Lib.hid (usable_yes a bb w R.ca)
  have hfr := Lib.hid (free_any R)
  have HR := Lib.hid R
  have ca := R.ca
  have c2 := R.c2
  have alt := R.alt
  have blt := R.blt
  have e3 : (lc : Int) ≤ 9223372036854775807 := by unfold maxLen at hlm; omega
  obtain ⟨q, hq⟩ : ∃ q, q = c - B.length := ⟨_, rfl⟩
  rw [← hq] at hn hfr
  have e4 : (q : Int) ≤ 4096 := by omega
  have hS := Lib.hid hsrc
  obtain ⟨L, hL⟩ : ∃ L, L = P.length := ⟨_, rfl⟩
  rw [← hL] at hn hP hlc ⊢
  have e1 : (L : Int) ≤ 65536 := by omega
  have e2 : (L : Int) ≤ (lc : Int) := by omega
  have hnL : n ≤ L := by omega
  have hnq : n ≤ q := by omega
  have hpn : p ≤ n := by omega
  have f1 : (p : Int) ≤ (L : Int) := by omega
  have f2 : (p : Int) ≤ (lc : Int) := by omega
  have f3 : (n : Int) ≤ 4096 := by omega
  have f4 : (B.length : Int) + (n : Int) ≤ 4096 := by omega
  have hfit : Hid (v + p ≤ c ∧ t ≤ c) := Lib.hid (by omega)
  have hH : Hid (L = P.length ∧ t = n - p ∧ p ≤ n ∧ n ≤ L) := Lib.hid ⟨hL, ht, hpn, hnL⟩
  have hlq : (L : Int) ≤ (q : Int) ∧ n = L ∨ (q : Int) < (L : Int) ∧ n = q := by omega
  have hpl : (p : Int) < (lc : Int) ∨ p = lc := by omega
  obtain ⟨r, hr, hrl⟩ := R.tc
  have HG := Lib.hid hr
  have HRL := Lib.hid hrl
  have HB := Lib.hid (And.intro hbc hbb)
  clear hn hq hL R hsrc ht hP hlc hpp hvv hfl hct hbl hnL hnq hpn hlm hr hrl hbc hbb
  unfold pt at *
  rcases hlq with ⟨g1, rfl⟩ | ⟨g1, rfl⟩ <;> rcases hpl with g2 | rfl
  all_goals (
    go_enter Try.func81, Try.ntmps81
    go_wp2_with (first | (go_at_call 83; refine hu.out.mono ?_; rintro e w' ⟨rfl, rfl⟩) | (go_at_call 80; refine hfr.out.mono ?_; rintro e w' ⟨rfl, rfl⟩) | (go_at_call 89; fail)))
  all_goals (
    refine hpc.out.mono ?_
    rintro e w1 ⟨a1, a2, k, rfl, q1, q2, rfl⟩
    have G1 := Lib.hid (show (w.drewN k).heap[cc]? = some (Obj.cells (List.map encB xs ++ r).toArray 5 (0, 0)) from HG.out)
    have R1 := Lib.hid (HR.out.drew k)
    have S1 := Lib.hid (show Lies (w.drewN k) b off P from hS.out.same rfl)
    have F1 := Lib.hid (fr_drewN w k [bb, cc])
    have C2 := R1.out.c2
    obtain ⟨cs1, hcs1⟩ : ∃ cs, cs = ((P.take n).take p).map encB := ⟨_, rfl⟩
    obtain ⟨cs2, hcs2⟩ : ∃ cs, cs = ((P.take n).drop p).map encB := ⟨_, rfl⟩
    have l1 : cs1.length = p := by have := hH.out; rw [hcs1]; simp; omega
    have l2 : cs2.length = t := by have := hH.out; rw [hcs2]; simp; omega
    have H1 := Lib.hid hcs1
    have H2 := Lib.hid hcs2
    have Q1 := Lib.hid q1
    have Q2 := Lib.hid q2
    clear hcs1 hcs2 c2 q1 q2
    generalize w.drewN k = W at *
    go_wp2_with (with_reducible refine wpList_copy_fr rfl (.tmp 38) (.tmp 39) 29 29 rfl 5 Try.underlying29 sizeU8 a1 (some ⟨b, off, none⟩) p p _ _ rfl rfl cc v (xs.map encB ++ r) 5 G1.out cs1 ?_ ?_ ?_ ?_ ?_)
    · rw [l1]; exact (Nat.min_eq_right (by have := hH.out; omega)).symm
    · intro h0; exact ⟨Q1.out (by rw [l1] at h0; exact h0), _, rfl, by rw [H1.out]; exact ((S1.out.take n).take p).map⟩
    · rw [l1, HRL.out]; have := hfit.out; have := R1.out.ccp; omega
    · rw [H1.out]; exact encB_one _
    intro w2 HG2 HF2
    have S2 := Lib.hid (S1.out.fr HF2.out (by simp; exact HB.out.1))
    have X2 : Hid (splice (xs.map encB ++ r) v cs1 = (splice xs v ((P.take n).take p)).map encB ++ r) := Lib.hid (by rw [H1.out]; exact splice_map _ _ _ _ _ (by have := hfit.out; have := R1.out.cyc.len; have := hH.out; simp; omega))
    have G2 := Lib.hid (X2.out ▸ HG2.out)
    have L2 : Hid (((splice xs v ((P.take n).take p)).map encB ++ r).length = cp) := Lib.hid (by
      have h1 := length_splice xs v ((P.take n).take p) (by have := hfit.out; have := R1.out.cyc.len; have := hH.out; simp; omega)
      have h2 := HRL.out
      simp only [List.length_append, List.length_map] at h2 ⊢
      rw [h1]; exact h2)
    clear HG2
    go_wp2_with (with_reducible refine wpList_copy_fr rfl (.tmp 41) (.tmp 44) 29 29 rfl 5 Try.underlying29 sizeU8 a2 _ t t _ _ rfl rfl cc 0 ((splice xs v ((P.take n).take p)).map encB ++ r) 5 G2.out cs2 ?_ ?_ ?_ ?_ ?_)
    · rw [l2]; exact (Nat.min_eq_right (by have := hH.out; omega)).symm
    · intro h0; exact ⟨Q2.out (by rw [l2] at h0; exact h0), _, rfl, by rw [H2.out]; first | exact ((S2.out.take n).drop p).map | (exfalso; rw [l2] at h0; have := hH.out; omega)⟩
    · rw [l2, L2.out]; have := hfit.out; have := R1.out.ccp; omega
    · rw [H2.out]; exact encB_one _
    intro w3 HG3 HF3
    have X3 : Hid (splice ((splice xs v ((P.take n).take p)).map encB ++ r) 0 cs2 = (splice (splice xs v ((P.take n).take p)) 0 ((P.take n).drop p)).map encB ++ r) := Lib.hid (by
      rw [H2.out]
      have h1 := length_splice xs v ((P.take n).take p) (by have := hfit.out; have := R1.out.cyc.len; have := hH.out; simp; omega)
      exact splice_map _ _ _ _ _ (by rw [h1]; have := hfit.out; have := R1.out.cyc.len; have := hH.out; simp; omega))
    have G3 := Lib.hid (X3.out ▸ HG3.out)
    have L3 : Hid (((splice (splice xs v ((P.take n).take p)) 0 ((P.take n).drop p)).map encB ++ r).length = cp) := Lib.hid (by
      rw [← X3.out]
      exact (length_splice _ _ _ (by rw [l2, L2.out]; have := hfit.out; have := R1.out.ccp; omega)).trans L2.out)
    have hcb := Lib.hid R1.out.cb
    have D3 := Lib.hid (HF3.out.same (HF2.out.same R1.out.tb (by simp; exact fun h => hcb.out h.symm)) (by simp; exact fun h => hcb.out h.symm))
    have k2 := cells_cell D3.out (o := 2) rfl
    have kf : w3.frozen? ⟨bb, 2, none⟩ = false := cells_free D3.out 2
    have blt3 := lt_of_block D3.out
    have FF := Lib.hid ((F1.out.trans' (HF2.out.mono (fun x hx => by simp at hx; exact .inl (by simp [hx])))).trans' (HF3.out.mono (fun x hx => by simp at hx; exact .inl (by simp [hx]))))
    clear HG3 C2
    go_wp2_with fail
    go_ret2
    exact ⟨_, rfl, HR.out.counted FF.out D3.out G3.out L3.out hcy.out (by have := hH.out; simp; omega)⟩)
end

section
variable {w0 w : World} {G : Nat → Prop} {a bb cc cp c f : Nat} {xs B : List UInt8}

set_option maxHeartbeats 800000 in
theorem write_long (R : RgB w0 G w a bb cc cp c f xs B) {ao : Option Addr} {L lc : Nat} (hL : 65536 < L) (hm : L ≤ maxLen) :
    Calls Try.prog 81 #[pt a, .slice ao L lc] w fun e w' => e = .returned (.tuple #[.int .i64 0, .int .i64 5]) ∧ w = w' := by
  have hu := Lib.hid (usable_yes a bb w R.ca)
  have e1 : (65536 : Int) < (L : Int) := by omega
  have e3 : (L : Int) ≤ 9223372036854775807 := by unfold maxLen at hm; omega
  clear R
  unfold pt
  go_enter Try.func81, Try.ntmps81
  go_wp2_with (go_at_call 83; refine hu.out.mono ?_; rintro e w' ⟨rfl, rfl⟩)
  go_ret2
  exact ⟨rfl, rfl⟩

set_option maxRecDepth 100000 in
set_option maxHeartbeats 1600000 in
theorem write_none (R : RgB w0 G w a bb cc cp c f xs B) :
    Calls Try.prog 81 #[pt a, .slice none 0 0] w fun e w' => e = .returned (.tuple #[.int .i64 0, .int .i64 0]) ∧ RgB w0 G w' a bb cc cp c f xs B ∧ Keep G w w' ∧ Fr [bb, cc] w w' := by
  have hpc := Lib.hid (pieces_in R B.length 0 (by have := R.cyc.bl; omega))
  have hp0 : hd c (wr c (f + B.length)) 0 = 0 := by unfold hd; omega
  rw [hp0] at hpc
  generalize wr c (f + B.length) = v at *
  have hu := Lib.hid (usable_yes a bb w R.ca)
  have hfr := Lib.hid (free_any R)
  have HR := Lib.hid R
  have ca := R.ca
  have c2 := R.c2
  have alt := R.alt
  have blt := R.blt
  obtain ⟨q, hq⟩ : ∃ q, q = c - B.length := ⟨_, rfl⟩
  rw [← hq] at hfr
  have e4 : (q : Int) ≤ 4096 := by have := R.cyc.top; omega
  have e5 : (B.length : Int) ≤ 4096 := by have := R.cyc.top; have := R.cyc.bl; omega
  have hmin : min (0 : Int) (q : Int) = 0 := by omega
  clear hq R hp0
  unfold pt at *
  go_enter Try.func81, Try.ntmps81
  go_wp2_with (first | (go_at_call 83; refine hu.out.mono ?_; rintro e w' ⟨rfl, rfl⟩) | (go_at_call 80; refine hfr.out.mono ?_; rintro e w' ⟨rfl, rfl⟩) | (go_at_call 89; fail))
  refine hpc.out.mono ?_
  rintro e w1 ⟨a1, a2, k, rfl, q1, q2, rfl⟩
  have R1 := Lib.hid (HR.out.drew k)
  have F1 := Lib.hid (fr_drewN w k [bb, cc])
  have C2 := R1.out.c2
  have kf : (w.drewN k).frozen? ⟨bb, 2, none⟩ = false := cells_free R1.out.tb 2
  have hbl : bb < (w.drewN k).heap.size := R1.out.blt
  clear q1 q2 c2
  generalize w.drewN k = W at *
  go_wp2_with (first
    | (with_reducible refine wpList_copy_nothing rfl (.tmp 38) (.tmp 39) 29 29 rfl 5 Try.underlying29 sizeU8 a1 none 0 0 0 0 rfl rfl rfl ?_)
    | (with_reducible refine wpList_copy_nothing rfl (.tmp 41) (.tmp 44) 29 29 rfl 5 Try.underlying29 sizeU8 a2 none _ _ _ _ rfl rfl rfl ?_))
  go_ret2
  obtain ⟨r, hr, hl⟩ := R1.out.tc
  exact ⟨rfl, HR.out.counted F1.out R1.out.tb hr hl R1.out.cyc rfl⟩

/-- The places were written, then the first place and the number of bytes. -/
theorem RgB.skipped {w3 : World} {xs' B' : List UInt8} {r : List Value} {z : Int} {f' : Nat} (R : RgB w0 G w a bb cc cp c f xs B) (hf : Fr [bb, cc] w w3) (hb : w3.heap[bb]? = some (.cells #[.slice (some ⟨cc, 0, none⟩) c cp, .int .i64 f, .int .i64 B.length] 133 (0, 0)))
    (hc : w3.heap[cc]? = some (.cells (xs'.map encB ++ r).toArray 5 (0, 0))) (hl : (xs'.map encB ++ r).length = cp) (hy : Cyc c xs' f' B') (hz : z = B'.length) :
    RgB w0 G ((w3.setCell ⟨bb, 1, none⟩ (.int .i64 f')).setCell ⟨bb, 2, none⟩ (.int .i64 z)).drew a bb cc cp c f' xs' B' ∧ Keep G w ((w3.setCell ⟨bb, 1, none⟩ (.int .i64 f')).setCell ⟨bb, 2, none⟩ (.int .i64 z)).drew ∧ Fr [bb, cc] w ((w3.setCell ⟨bb, 1, none⟩ (.int .i64 f')).setCell ⟨bb, 2, none⟩ (.int .i64 z)).drew := by
  have hf' : Fr [bb, cc] w ((w3.setCell ⟨bb, 1, none⟩ (.int .i64 f')).setCell ⟨bb, 2, none⟩ (.int .i64 z)).drew :=
    ((hf.trans' ((fr_setCell w3 ⟨bb, 1, none⟩ _).mono (fun x hx => by simp at hx; exact .inl (by simp [hx])))).trans' ((fr_setCell _ ⟨bb, 2, none⟩ _).mono (fun x hx => by simp at hx; exact .inl (by simp [hx])))).trans' (fr_drewN _ 1 _)
  subst hz
  obtain ⟨h1, h2⟩ := R.turn hf' (by
    show ((w3.setCell ⟨bb, 1, none⟩ (.int .i64 f')).setCell ⟨bb, 2, none⟩ (.int .i64 B'.length)).heap[bb]? = _
    rw [cells_set (cells_set hb 1 _) 2 _]; rfl) ⟨r, (by
    show ((w3.setCell ⟨bb, 1, none⟩ (.int .i64 f')).setCell ⟨bb, 2, none⟩ (.int .i64 B'.length)).heap[cc]? = _
    exact cells_set_other (cells_set_other hc R.cb _ _) R.cb _ _), hl⟩ hy
  exact ⟨h1, h2, hf'⟩

set_option maxHeartbeats 800000 in
theorem skip_neg (R : RgB w0 G w a bb cc cp c f xs B) (m : Int) (hm : m < 0) :
    Calls Try.prog 85 #[pt a, .int .i64 m] w fun e w' => e = .returned (.tuple #[.int .i64 0, .int .i64 2]) ∧ w = w' := by
  have hu := Lib.hid (usable_yes a bb w R.ca)
  clear R
  unfold pt
  go_enter Try.func85, Try.ntmps85
  go_wp2_with (go_at_call 83; refine hu.out.mono ?_; rintro e w' ⟨rfl, rfl⟩)
  go_ret2
  exact ⟨rfl, rfl⟩

set_option maxRecDepth 100000 in
set_option maxHeartbeats 3200000 in
theorem skip_at (R : RgB w0 G w a bb cc cp c f xs B) (m : Int) (hm : 0 ≤ m) (n : Nat) (hn : (n : Int) = min m (B.length : Int)) :
    Calls Try.prog 85 #[pt a, .int .i64 m] w fun e w' => ∃ xs' f', e = .returned (.tuple #[.int .i64 n, .int .i64 0]) ∧ RgB w0 G w' a bb cc cp c f' xs' (B.drop n) ∧ Keep G w w' ∧ Fr [bb, cc] w w' := by
  have hnb : n ≤ B.length := by omega
  have hcy := Lib.hid (R.cyc.skip n hnb)
  have hbl := R.cyc.bl
  have hct := R.cyc.top
  have hfl := R.cyc.fl
  have hpc := Lib.hid (pieces_in R 0 n (by omega))
  have hpp := hd_or c f n
  have hw0 : wr c (f + 0) = f := by unfold wr; rw [if_pos (by omega)]; rfl
  rw [hw0] at hpc
  have em : Hid (((f : Int) + (n : Int)).tmod (c : Int) = ((wr c (f + n) : Nat) : Int)) := Lib.hid (by rw [Int.tmod_eq_emod_of_nonneg (by omega)]; exact wr_int (by omega))
  generalize wr c (f + n) = f' at *
  generalize hd c f n = p at *
  obtain ⟨t, ht⟩ : ∃ t, t = n - p := ⟨_, rfl⟩
  rw [← ht] at hpc hcy
  have hu := Lib.hid (usable_yes a bb w R.ca)
  have HR := Lib.hid R
  have ca := R.ca
  have c2 := R.c2
  have alt := R.alt
  have blt := R.blt
  obtain ⟨q, hq⟩ : ∃ q, q = B.length := ⟨_, rfl⟩
  rw [← hq] at hn c2 hbl
  have e3 : (q : Int) ≤ 4096 := by omega
  have e5 : (n : Int) ≤ (q : Int) := by omega
  have e6 : (f : Int) < (c : Int) := by omega
  have e7 : (c : Int) ≤ 4096 := by omega
  have e8 : (1 : Int) ≤ (c : Int) := by omega
  have hfit : Hid (f + p ≤ c ∧ t ≤ c) := Lib.hid (by omega)
  have hH : Hid (q = B.length) := Lib.hid hq
  have hlq : m ≤ (q : Int) ∧ m = (n : Int) ∨ (q : Int) < m ∧ n = q := by omega
  obtain ⟨r, hr, hrl⟩ := R.tc
  have HG := Lib.hid hr
  have HRL := Lib.hid hrl
  have EM := em.out
  clear hn hq R hpp hbl hct hfl hr hrl hnb ht em hw0
  unfold pt at *
  rcases hlq with ⟨g1, rfl⟩ | ⟨g1, rfl⟩
  all_goals (
    go_enter Try.func85, Try.ntmps85
    go_wp2_with (first | (go_at_call 83; refine hu.out.mono ?_; rintro e w' ⟨rfl, rfl⟩) | (go_at_call 89; fail))
    refine hpc.out.mono ?_
    rintro e w1 ⟨a1, a2, k, rfl, q1, q2, rfl⟩
    have G1 := Lib.hid (show (w.drewN k).heap[cc]? = some (Obj.cells (List.map encB xs ++ r).toArray 5 (0, 0)) from HG.out)
    have R1 := Lib.hid (HR.out.drew k)
    have F1 := Lib.hid (fr_drewN w k [bb, cc])
    have z1 : List.replicate p (Value.int .u8 0) = (List.replicate p (0 : UInt8)).map encB := by rw [List.map_replicate]; rfl
    have z2 : List.replicate t (Value.int .u8 0) = (List.replicate t (0 : UInt8)).map encB := by rw [List.map_replicate]; rfl
    have Z1 := Lib.hid z1
    have Z2 := Lib.hid z2
    have Q1 := Lib.hid q1
    have Q2 := Lib.hid q2
    clear z1 z2 c2 q1 q2
    generalize w.drewN k = W at *
    go_wp2_with (with_reducible refine wpList_clear_fr rfl rfl (.tmp 33) 29 rfl 5 (.int .u8 0) Try.underlying29 Try.zeroValue5 rfl rfl a1 p p rfl cc f (xs.map encB ++ r) 5 G1.out Q1.out ?_ ?_)
    · rw [HRL.out]; have := hfit.out; have := R1.out.ccp; omega
    intro w2 HG2 HF2
    have X2 : Hid (splice (xs.map encB ++ r) f (List.replicate p (Value.int .u8 0)) = (splice xs f (List.replicate p 0)).map encB ++ r) := Lib.hid (by rw [Z1.out]; exact splice_map _ _ _ _ _ (by have := hfit.out; have := R1.out.cyc.len; simp; omega))
    have G2 := Lib.hid (X2.out ▸ HG2.out)
    have L2 : Hid (((splice xs f (List.replicate p 0)).map encB ++ r).length = cp) := Lib.hid (by
      rw [← X2.out]
      exact (length_splice _ _ _ (by rw [HRL.out]; have := hfit.out; have := R1.out.ccp; simp; omega)).trans HRL.out)
    clear HG2
    go_wp2_with (with_reducible refine wpList_clear_fr rfl rfl (.tmp 34) 29 rfl 5 (.int .u8 0) Try.underlying29 Try.zeroValue5 rfl rfl a2 t t rfl cc 0 ((splice xs f (List.replicate p 0)).map encB ++ r) 5 G2.out Q2.out ?_ ?_)
    · rw [L2.out]; have := hfit.out; have := R1.out.ccp; omega
    intro w3 HG3 HF3
    have X3 : Hid (splice ((splice xs f (List.replicate p 0)).map encB ++ r) 0 (List.replicate t (Value.int .u8 0)) = (splice (splice xs f (List.replicate p 0)) 0 (List.replicate t 0)).map encB ++ r) := Lib.hid (by
      rw [Z2.out]
      have h1 := length_splice xs f (List.replicate p (0 : UInt8)) (by have := hfit.out; have := R1.out.cyc.len; simp; omega)
      exact splice_map _ _ _ _ _ (by rw [h1]; have := hfit.out; have := R1.out.cyc.len; simp; omega))
    have G3 := Lib.hid (X3.out ▸ HG3.out)
    have L3 : Hid (((splice (splice xs f (List.replicate p 0)) 0 (List.replicate t 0)).map encB ++ r).length = cp) := Lib.hid (by
      rw [← X3.out]
      exact (length_splice _ _ _ (by rw [L2.out]; have := hfit.out; have := R1.out.ccp; simp; omega)).trans L2.out)
    have hcb := Lib.hid R1.out.cb
    have D3 := Lib.hid (HF3.out.same (HF2.out.same R1.out.tb (by simp; exact fun h => hcb.out h.symm)) (by simp; exact fun h => hcb.out h.symm))
    have k0 := cells_cell D3.out (o := 0) rfl
    have k1 := cells_cell D3.out (o := 1) rfl
    have k2 := cells_cell D3.out (o := 2) rfl
    have kf1 : w3.frozen? ⟨bb, 1, none⟩ = false := cells_free D3.out 1
    have kf : w3.frozen? ⟨bb, 2, none⟩ = false := cells_free D3.out 2
    have blt3 := lt_of_block D3.out
    have FF := Lib.hid ((F1.out.trans' (HF2.out.mono (fun x hx => by simp at hx; exact .inl (by simp [hx])))).trans' (HF3.out.mono (fun x hx => by simp at hx; exact .inl (by simp [hx]))))
    rw [← hH.out] at k2
    clear HG3
    go_wp2_with fail
    go_region
    simp only [Exit.inBlock, Exit.then]
    go_at_K
    go_wp2_with fail
    go_ret2
    exact ⟨_, _, rfl, HR.out.skipped FF.out D3.out G3.out L3.out hcy.out (by have := hH.out; simp; omega)⟩)
end
end Rg
end Go.Proofs.Yteimjkmjofaieaa
