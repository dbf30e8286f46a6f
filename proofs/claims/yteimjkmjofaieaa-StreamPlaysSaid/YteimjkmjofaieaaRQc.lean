/- Ring buffers (layer 4) as they are used by a buffered stream. -/
import Derived.Test.YteimjkmjofaieaaRQb
import Derived.Deep.RegionHeld3
namespace Go.Proofs.Yteimjkmjofaieaa
namespace Rg
open Go.RowKit Go.Sort
set_option linter.unusedVariables false
set_option linter.unusedSimpArgs false
set_option maxRecDepth 100000

/-- New memory that holds some bytes. -/
def RowB (w : World) (base : Nat) (v : Value) (L : List UInt8) : Prop := w.ownsRow base 5 1 v L.length (L.map encB)

theorem made_heap {w : World} {base gp n : Nat} {ys : List Value} (h : w.ownsRow base 5 1 (.slice (some ⟨gp, 0, none⟩) n n) n ys) : w.heap[gp]? = some (.cells ys.toArray 5 (0, 0)) := by
  rcases h.2 with ⟨h', _⟩ | ⟨g, cap, cur, hv, _, hh, _, _, hcs, htake⟩
  · cases h'
  · simp only [Value.slice.injEq, Option.some.injEq, Addr.mk.injEq, and_true, true_and] at hv
    obtain ⟨rfl, rfl⟩ := hv
    rw [hh]
    have : cur.toList = ys := by rw [← htake, List.take_of_length_le (by simp; omega)]
    rw [← this]
theorem made_eq (n : Nat) : (madeCells #[Value.int .u8 0] n).toList = (List.replicate n (0 : UInt8)).map encB := by
  rw [List.map_replicate]
  exact toList_madeCells_one _ _
theorem row_of {w : World} {base gp n : Nat} {L : List UInt8} (hb : base ≤ gp) (h : w.heap[gp]? = some (.cells (L.map encB).toArray 5 (0, 0))) (hn : L.length = n) (hm : n ≤ maxLen) : RowB w base (.slice (some ⟨gp, 0, none⟩) n n) L := by
  subst hn
  exact ⟨by simp, .inr ⟨gp, L.length, _, rfl, hb, h, Nat.le_refl _, hm, by simp, by simp [List.take_of_length_le]⟩⟩
theorem lies_row {w : World} {cc : Nat} {xs : List UInt8} {r : List Value} {t : TypeId} (h : w.heap[cc]? = some (.cells (xs.map encB ++ r).toArray t (0, 0))) : Lies w cc 0 xs := fun i u hi => by
  have hl := (List.getElem?_eq_some_iff.1 hi).1
  refine cells_cell h ?_
  simp only [List.getElem?_toArray, Nat.zero_add]
  rw [List.getElem?_append_left (by simpa using hl), List.getElem?_map, hi]
  rfl

section
variable {w0 w : World} {G : Nat → Prop} {a bb cc cp c f : Nat} {xs B : List UInt8}

set_option maxHeartbeats 800000 in
theorem peek_neg (R : RgB w0 G w a bb cc cp c f xs B) (o m : Int) (h : o < 0 ∨ m < 0) :
    Calls Try.prog 84 #[pt a, .int .i64 o, .int .i64 m] w fun e w' => e = .returned (.tuple #[.slice none 0 0, .int .i64 2]) ∧ w = w' := by
  have hu := Lib.hid (usable_yes a bb w R.ca)
  clear R
  unfold pt
  by_cases h1 : o < 0
  · go_enter Try.func84, Try.ntmps84
    go_wp2_with (go_at_call 83; refine hu.out.mono ?_; rintro e w' ⟨rfl, rfl⟩)
    go_ret2
    exact ⟨rfl, rfl⟩
  · have h2 : m < 0 := by omega
    have h3 : 0 ≤ o := by omega
    go_enter Try.func84, Try.ntmps84
    go_wp2_with (go_at_call 83; refine hu.out.mono ?_; rintro e w' ⟨rfl, rfl⟩)
    go_ret2
    exact ⟨rfl, rfl⟩

set_option maxHeartbeats 800000 in
theorem peek_out (R : RgB w0 G w a bb cc cp c f xs B) (o m : Int) (ho : (B.length : Int) ≤ o) (hm : 0 ≤ m) :
    Calls Try.prog 84 #[pt a, .int .i64 o, .int .i64 m] w fun e w' => e = .returned (.tuple #[.slice none 0 0, .int .i64 0]) ∧ w = w' := by
  have hu := Lib.hid (usable_yes a bb w R.ca)
  have ca := R.ca
  have c2 := R.c2
  have alt := R.alt
  have blt := R.blt
  have h3 : 0 ≤ o := by omega
  have h4 : decide (o < 0) = false := by simp; omega
  have h5 : decide (m < 0) = false := by simp; omega
  clear R
  unfold pt
  go_enter Try.func84, Try.ntmps84
  go_wp2_with (go_at_call 83; refine hu.out.mono ?_; rintro e w' ⟨rfl, rfl⟩)
  go_ret2
  exact ⟨rfl, rfl⟩

set_option maxRecDepth 100000 in
set_option maxHeartbeats 3200000 in
theorem peek_at (R : RgB w0 G w a bb cc cp c f xs B) (o : Nat) (m : Int) (ho : o < B.length) (hm : 0 ≤ m) (n : Nat) (hn : (n : Int) = min m ((B.length : Int) - o)) :
    Calls Try.prog 84 #[pt a, .int .i64 o, .int .i64 m] w fun e w' => ∃ v, e = .returned (.tuple #[v, .int .i64 0]) ∧ RowB w' w.heap.size v ((B.drop o).take n) ∧ Below w.heap.size w w' := by
  have hpk := Lib.hid (R.cyc.peek o n (by omega))
  have hbl := R.cyc.bl
  have hct := R.cyc.top
  have hfl := R.cyc.fl
  have hvv := wr_lt (c := c) (x := f + o) (by omega)
  have hpp := hd_or c (wr c (f + o)) n
  have hlenR : Hid (((B.drop o).take n).length = n) := Lib.hid (by simp; omega)
  have hpc := Lib.hid (fun (W : World) (RW : RgB w0 G W a bb cc cp c f xs B) => pieces_in RW o n (by omega))
  generalize wr c (f + o) = v at *
  generalize hd c v n = p at *
  obtain ⟨t, ht⟩ : ∃ t, t = n - p := ⟨_, rfl⟩
  rw [← ht] at hpc hpk
  have hu := Lib.hid (usable_yes a bb w R.ca)
  have HR := Lib.hid R
  have ca := R.ca
  have c2 := R.c2
  have alt := R.alt
  have blt := R.blt
  obtain ⟨q, hq⟩ : ∃ q, q = B.length := ⟨_, rfl⟩
  rw [← hq] at hn c2 hbl ho
  have e1 : (o : Int) < (q : Int) := by omega
  have e2 : decide ((q : Int) ≤ (o : Int)) = false := by simp; omega
  have e3 : (q : Int) ≤ 4096 := by omega
  have e5 : (n : Int) ≤ 4096 := by omega
  have hfit : Hid (v + p ≤ c ∧ t ≤ c ∧ t = n - p ∧ p ≤ n ∧ n ≤ 4096) := Lib.hid (by omega)
  have hH : Hid (q = B.length) := Lib.hid hq
  have hlq : m ≤ (q : Int) - (o : Int) ∧ m = (n : Int) ∨ (q : Int) - (o : Int) < m ∧ (q : Int) - (o : Int) = (n : Int) := by omega
  have hpn : (p : Int) < (n : Int) ∨ p = n := by omega
  obtain ⟨i0, hi0, hz0, hz1, hz2⟩ := info_parts infoU8
  clear hn hq R hpp hbl hct hfl ht ho hvv
  unfold pt at *
  rcases hlq with ⟨g1, rfl⟩ | ⟨g1, g3⟩ <;> rcases hpn with g2 | g2
  all_goals (
    go_enter Try.func84, Try.ntmps84
    go_wp2_with (first
      | (go_at_call 83; refine hu.out.mono ?_; rintro e w' ⟨rfl, rfl⟩)
      | (with_reducible refine wpList_make_full _ rfl (.tmp 39) (.tmp 39) 29 rfl w.heap.size 5 i0 (.int .u8 0) 1 Try.underlying29 hi0 hz0 hz1 _ _ _ _ n rfl rfl rfl rfl ?_ ?_ (Nat.le_refl _) ?_))
    · have := hfit.out; rw [hz2]; omega
    · have := hfit.out; unfold maxLen; omega
    intro W1 hown hgrow
    have F1 := Lib.hid (show Fr [] w W1 from (fr_grown hgrow).mono (by simp))
    have HG1 : Hid (W1.heap[w.heap.size]? = some (.cells ((List.replicate n (0 : UInt8)).map encB).toArray 5 (0, 0))) := Lib.hid (by rw [← made_eq]; exact made_heap hown)
    have HR1 := Lib.hid (HR.out.grown (F1.out.below (fun x hx => by simp at hx) (Nat.le_refl _)))
    have hpc1 := Lib.hid (hpc.out W1 HR1.out)
    have ca1 := HR1.out.ca
    have c21 := HR1.out.c2
    rw [← hH.out] at c21
    have alt1 := HR1.out.alt
    have blt1 := HR1.out.blt
    clear hown hgrow ca c2 alt blt
    go_wp2_with (go_at_call 89; fail)
    refine hpc1.out.mono ?_
    rintro e w1 ⟨a1, a2, k, rfl, q1, q2, rfl⟩
    have hcs : cc ≠ w.heap.size := by have := HR.out.clt; omega
    have HCS := Lib.hid hcs
    obtain ⟨r, hr, hrl⟩ := HR1.out.tc
    have S1 : Hid (Lies (W1.drewN k) cc 0 xs) := Lib.hid (lies_row (r := r) hr)
    have F2 : Hid (Fr [w.heap.size] w (W1.drewN k)) := Lib.hid ((F1.out.mono (by simp)).trans' (fr_drewN _ _ _))
    have G1 : Hid ((W1.drewN k).heap[w.heap.size]? = some (.cells ((List.replicate n (0 : UInt8)).map encB ++ []).toArray 5 (0, 0))) := Lib.hid (by rw [List.append_nil]; exact HG1.out)
    obtain ⟨cs1, hcs1⟩ : ∃ cs, cs = ((xs.drop v).take p).map encB := ⟨_, rfl⟩
    obtain ⟨cs2, hcs2⟩ : ∃ cs, cs = (xs.take t).map encB := ⟨_, rfl⟩
    have hxl := HR1.out.cyc.len
    have l1 : cs1.length = p := by have := hfit.out; rw [hcs1]; simp; omega
    have l2 : cs2.length = t := by have := hfit.out; rw [hcs2]; simp; omega
    have H1 := Lib.hid hcs1
    have H2 := Lib.hid hcs2
    have Q1 := Lib.hid q1
    have Q2 := Lib.hid q2
    have hLn : Hid (((xs.drop v).take p).length = p ∧ (xs.take t).length = t) := Lib.hid (by have := hfit.out; constructor <;> simp <;> omega)
    clear hcs1 hcs2 q1 q2 hr hrl hxl hcs HG1 ca1 c21 alt1 blt1
    generalize W1.drewN k = W at *
    generalize hgp : w.heap.size = gp at *
    have HGP := Lib.hid hgp
    clear hgp
    obtain ⟨Z1, hZ1⟩ : ∃ Z, Z = (List.replicate n (0 : UInt8)).map encB ++ [] := ⟨_, rfl⟩
    have HZ1 := Lib.hid hZ1
    rw [← hZ1] at G1
    clear hZ1
    go_wp2_with (with_reducible refine wpList_copy_fr rfl (.tmp 49) (.tmp 50) 29 29 rfl 5 Try.underlying29 sizeU8 (some ⟨gp, 0, none⟩) a1 _ _ _ _ rfl rfl gp 0 Z1 5 G1.out cs1 ?_ ?_ ?_ ?_ ?_)
    · rw [l1]; have := hfit.out; first | exact (Nat.min_eq_left (by omega)).symm | (simp; omega)
    · intro h0; first | exact ⟨rfl, _, Q1.out (by omega), by rw [H1.out]; have := ((S1.out.drop v).take p).map; rwa [Nat.zero_add] at this⟩ | exact ⟨_, Q1.out (by omega), by rw [H1.out]; have := ((S1.out.drop v).take p).map; rwa [Nat.zero_add] at this⟩
    · rw [HZ1.out]; have := hfit.out; simp; omega
    · rw [H1.out]; exact encB_one _
    intro w2 HG2 HF2
    have X2 : Hid (splice Z1 0 cs1 = (splice (List.replicate n (0 : UInt8)) 0 ((xs.drop v).take p)).map encB ++ []) := Lib.hid (by rw [HZ1.out, H1.out]; exact splice_map _ _ _ _ _ (by have := hfit.out; have := hLn.out.1; simp; omega))
    have G2 := Lib.hid (X2.out ▸ HG2.out)
    have S2 := Lib.hid (S1.out.fr HF2.out (by simp; exact HCS.out))
    have L2 : Hid ((splice (List.replicate n (0 : UInt8)) 0 ((xs.drop v).take p)).length = n) := Lib.hid (by rw [length_splice _ _ _ (by have := hfit.out; have := hLn.out.1; simp; omega)]; simp)
    obtain ⟨Z2, hZ2⟩ : ∃ Z, Z = (splice (List.replicate n (0 : UInt8)) 0 ((xs.drop v).take p)).map encB ++ [] := ⟨_, rfl⟩
    have HZ2 := Lib.hid hZ2
    rw [← hZ2] at G2
    clear HG2 hZ2 X2
    go_wp2_with (with_reducible refine wpList_copy_fr rfl (.tmp 54) (.tmp 55) 29 29 rfl 5 Try.underlying29 sizeU8 _ a2 _ _ _ _ rfl rfl gp p Z2 5 G2.out cs2 ?_ ?_ ?_ ?_ ?_)
    · have := hfit.out; rw [l2]; first | exact (Nat.min_eq_left (by omega)).symm | (simp; omega)
    · intro h0
      first
        | exact ⟨_, Q2.out (by have := hfit.out; omega), by rw [H2.out]; exact (S2.out.take t).map⟩
        | (exfalso; have := hfit.out; omega)
    · rw [l2, HZ2.out]; have := hfit.out; have := L2.out; simp; omega
    · rw [H2.out]; exact encB_one _
    intro w3 HG3 HF3
    have X3 : Hid (splice Z2 p cs2 = ((B.drop o).take n).map encB) := Lib.hid (by
      rw [HZ2.out, H2.out, splice_map _ _ _ _ _ (by rw [L2.out]; have := hfit.out; have := hLn.out.2; omega), hpk.out, List.append_nil])
    have G3 : Hid (w3.heap[gp]? = some (.cells (((B.drop o).take n).map encB).toArray 5 (0, 0))) := Lib.hid (by
      have h := HG3.out
      first | rw [X3.out] at h | rw [← g2, X3.out] at h
      exact h)
    have FF := Lib.hid ((F2.out.trans' HF2.out).trans' HF3.out)
    clear HG3
    go_wp2_with fail
    go_ret2
    exact ⟨_, rfl, row_of (by rw [HGP.out]; exact Nat.le_refl _) G3.out hlenR.out (by have := hfit.out; unfold maxLen; omega), FF.out.below (fun x hx => by simp at hx; have := HGP.out; omega) (Nat.le_refl _)⟩)

/-- Peek, whatever is asked for. -/
theorem peek_ok (R : RgB w0 G w a bb cc cp c f xs B) (o m : Int) (ho : 0 ≤ o) (hm : 0 ≤ m) :
    Calls Try.prog 84 #[pt a, .int .i64 o, .int .i64 m] w fun e w' => ∃ v, e = .returned (.tuple #[v, .int .i64 0]) ∧ RowB w' w.heap.size v ((B.drop o.toNat).take m.toNat) ∧ Below w.heap.size w w' := by
  by_cases h : (B.length : Int) ≤ o
  · refine (peek_out R o m h hm).mono ?_
    rintro e w' ⟨rfl, rfl⟩
    have : (B.drop o.toNat).take m.toNat = [] := by rw [List.drop_eq_nil_of_le (by omega)]; simp
    rw [this]
    exact ⟨_, rfl, World.ownsRow_nil _ _ _ _, Below.refl _ _⟩
  · obtain ⟨k, rfl⟩ : ∃ k : Nat, o = k := ⟨o.toNat, by omega⟩
    refine (peek_at R k m (by omega) hm (min m.toNat (B.length - k)) (by omega)).mono ?_
    rintro e w' ⟨v, rfl, h1, h2⟩
    have : (B.drop (k : Int).toNat).take m.toNat = (B.drop k).take (min m.toNat (B.length - k)) := by
      rw [Int.toNat_natCast]
      by_cases hq : m.toNat ≤ B.length - k
      · rw [Nat.min_eq_left hq]
      · rw [Nat.min_eq_right (by omega), List.take_of_length_le (by simp; omega), List.take_of_length_le (by simp)]
    rw [this]
    exact ⟨_, rfl, h1, h2⟩
end

section
variable {w0 w : World} {G : Nat → Prop} {a bb cc cp c f : Nat} {xs B : List UInt8}

theorem drop_min {α : Type} (L : List α) (m : Nat) : L.drop (min m L.length) = L.drop m := by
  by_cases h : m ≤ L.length
  · rw [Nat.min_eq_left h]
  · rw [Nat.min_eq_right (by omega), List.drop_eq_nil_of_le (Nat.le_refl _), List.drop_eq_nil_of_le (by omega)]

theorem skip_ok (R : RgB w0 G w a bb cc cp c f xs B) (m : Int) (hm : 0 ≤ m) :
    Calls Try.prog 85 #[pt a, .int .i64 m] w fun e w' => ∃ xs' f', e = .returned (.tuple #[.int .i64 ((min m.toNat B.length : Nat) : Int), .int .i64 0]) ∧ RgB w0 G w' a bb cc cp c f' xs' (B.drop m.toNat) ∧ Keep G w w' ∧ Fr [bb, cc] w w' := by
  have := skip_at R m hm (min m.toNat B.length) (by omega)
  rwa [drop_min] at this

set_option maxHeartbeats 800000 in
theorem read_neg (R : RgB w0 G w a bb cc cp c f xs B) (m : Int) (hm : m < 0) :
    Calls Try.prog 73 #[pt a, .int .i64 m] w fun e w' => e = .returned (.tuple #[.slice none 0 0, .int .i64 2]) ∧ w = w' := by
  have hu := Lib.hid (peek_neg R 0 m (.inr hm))
  clear R
  unfold pt at *
  go_enter Try.func73, Try.ntmps73
  go_wp2_with (go_at_call 84; refine hu.out.mono ?_; rintro e w' ⟨rfl, rfl⟩)
  go_ret2
  exact ⟨rfl, rfl⟩

theorem row_formB {w : World} {base : Nat} {v : Value} {L : List UInt8} (h : RowB w base v L) : ∃ ao lc, v = .slice ao L.length lc := by
  rcases h.2 with ⟨hv, hn⟩ | ⟨g, cap, cu, hv, _⟩
  · exact ⟨none, 0, by rw [hv, hn]⟩
  · exact ⟨_, _, hv⟩

set_option maxHeartbeats 1600000 in
theorem read_ok (R : RgB w0 G w a bb cc cp c f xs B) (m : Int) (hm : 0 ≤ m) :
    Calls Try.prog 73 #[pt a, .int .i64 m] w fun e w' => ∃ v xs' f', e = .returned (.tuple #[v, .int .i64 0]) ∧ RowB w' w.heap.size v (B.take m.toNat) ∧ RgB w0 G w' a bb cc cp c f' xs' (B.drop m.toNat) ∧ Keep G w w' ∧ Fr [bb, cc] w w' := by
  have hu := Lib.hid (peek_ok R 0 m (Int.le_refl _) hm)
  have HR := Lib.hid R
  have hle : (B.take m.toNat).length ≤ 4096 := by have := R.cyc.bl; have := R.cyc.top; simp; omega
  clear R
  unfold pt at *
  go_enter Try.func73, Try.ntmps73
  go_wp2_with (go_at_call 84; fail)
  refine hu.out.mono ?_
  rintro e w1 ⟨v, rfl, hrow, hb⟩
  have hR1 := HR.out.grown hb
  have hsk := Lib.hid (skip_ok hR1 ((B.take m.toNat).length : Int) (by omega))
  have hsz := hb.size
  have he : Hid (B.drop (((B.take m.toNat).length : Nat) : Int).toNat = B.drop m.toNat) := Lib.hid (by
    rw [Int.toNat_natCast, List.length_take, drop_min])
  rw [he.out] at hsk
  have hb2 : Hid (bb < w.heap.size ∧ cc < w.heap.size) := Lib.hid ⟨HR.out.blt, HR.out.clt⟩
  have HB := Lib.hid hb
  have Hrow := Lib.hid hrow
  obtain ⟨va, vc, rfl⟩ := row_formB hrow
  rw [show List.drop (0 : Int).toNat B = B from rfl] at *
  generalize (B.take m.toNat).length = l at *
  clear hR1 hb hrow he
  unfold pt at *
  go_wp2_with (go_at_call 85; fail)
  refine hsk.out.mono ?_
  rintro e w2 ⟨xs', f', rfl, R2, K2, F2⟩
  have H2 := Lib.hid R2
  have HK := Lib.hid K2
  have HF := Lib.hid F2
  clear R2 K2 F2
  go_wp2_with fail
  go_ret2
  refine ⟨_, _, _, rfl, HF.out.row Hrow.out (fun g hg => ?_), H2.out, fun k hk => (HK.out k hk).trans (HB.out.block k (HR.out.lt k hk)), (Fr.of_below HB.out _).trans' HF.out⟩
  have := (Hrow.out.lt g hg).1
  have := hb2.out
  simp
  omega

set_option maxHeartbeats 800000 in
theorem reset_any (R : RgB w0 G w a bb cc cp c f xs B) :
    Calls Try.prog 108 #[pt a] w fun e w' => ∃ xs' f', e = .returned (.int .i64 0) ∧ RgB w0 G w' a bb cc cp c f' xs' [] ∧ Keep G w w' ∧ Fr [bb, cc] w w' := by
  have hu := Lib.hid (len_any R)
  have hsk := Lib.hid (skip_ok R (B.length : Int) (by omega))
  rw [show B.drop (B.length : Int).toNat = [] by rw [Int.toNat_natCast, List.drop_length]] at hsk
  generalize B.length = l at *
  clear R
  unfold pt at *
  go_enter Try.func108, Try.ntmps108
  go_wp2_with (first | (go_at_call 72; refine hu.out.mono ?_; rintro e w' ⟨rfl, rfl⟩) | (go_at_call 85; fail))
  refine hsk.out.mono ?_
  rintro e w2 ⟨xs', f', rfl, R2, K2, F2⟩
  have H2 := Lib.hid R2
  have HK := Lib.hid K2
  have HF := Lib.hid F2
  clear R2 K2 F2
  go_wp2_with fail
  go_ret
  exact ⟨_, _, rfl, H2.out, HK.out, HF.out⟩
end

set_option maxHeartbeats 400000 in
theorem new_bad (w : World) (c : Int) (h : c < 1 ∨ 4096 < c) : Calls Try.prog 65 #[.int .i64 c] w fun e w' => e = .returned (.tuple #[.pointer none, .int .i64 2]) ∧ w = w' := by
  by_cases h1 : c < 1
  · go_enter Try.func65, Try.ntmps65
    go_wp2_with fail
    go_ret2
    exact ⟨rfl, rfl⟩
  · have h2 : 4096 < c := by omega
    have h3 : decide (c < 1) = false := by simp; omega
    go_enter Try.func65, Try.ntmps65
    go_wp2_with fail
    go_ret2
    exact ⟨rfl, rfl⟩

set_option maxHeartbeats 1600000 in
theorem new_ok {w0 w : World} {G : Nat → Prop} (c : Nat) (h1 : 1 ≤ c) (h2 : c ≤ 4096) (hb : Below w0.heap.size w0 w) (hG : ∀ k, G k → k < w.heap.size) :
    Calls Try.prog 65 #[.int .i64 c] w fun e w' => ∃ a, e = .returned (.tuple #[pt a, .int .i64 0]) ∧ RgIn w0 G w' a c [] ∧ Below w.heap.size w w' := by
  have e1 : (1 : Int) ≤ (c : Int) := by omega
  have e2 : (c : Int) ≤ 4096 := by omega
  have e3 : decide ((c : Int) < 1) = false := by simp; omega
  have e4 : decide ((4096 : Int) < (c : Int)) = false := by simp; omega
  obtain ⟨i0, hi0, hz0, hz1, hz2⟩ := info_parts infoU8
  go_enter Try.func65, Try.ntmps65
  go_wp2_with (with_reducible refine wpList_make_full _ rfl (.tmp 10) (.tmp 10) 29 rfl w.heap.size 5 i0 (.int .u8 0) 1 Try.underlying29 hi0 hz0 hz1 _ _ _ _ c rfl rfl rfl rfl ?_ ?_ (Nat.le_refl _) ?_)
  · rw [hz2]; omega
  · unfold maxLen; omega
  intro W hown hgrow
  have HF : Hid (Fr [] w W) := Lib.hid ((fr_grown hgrow).mono (by simp))
  have HG1 : Hid (W.heap[w.heap.size]? = some (.cells ((List.replicate c (0 : UInt8)).map encB).toArray 5 (0, 0))) := Lib.hid (by rw [← made_eq]; exact made_heap hown)
  clear hown hgrow
  go_wp2_with fail
  go_ret2
  have hb1 : Below w.heap.size w W := HF.out.below (fun x hx => by simp at hx) (Nat.le_refl _)
  have hb2 : Below w.heap.size w ((W.alloc (.cells #[.slice (some ⟨w.heap.size, 0, none⟩) c c, .int .i64 0, .int .i64 0] 133)).alloc (.cells #[.pointer (some ⟨W.heap.size, 0, none⟩)] 135)) := (hb1.alloc hb1.size _).alloc (by have := hb1.size; simp; omega) _
  have hlt := lt_of_block HG1.out
  refine ⟨W.heap.size + 1, rfl, ⟨W.heap.size, w.heap.size, c, 0, List.replicate c 0, ?_⟩, hb2⟩
  have hws := hb1.size
  have hw0 := hb.size
  have hs2 := hb2.size
  refine ⟨block_new _ _ _ (by simp), (fr_alloc _ _ []).same (block_new _ _ _ rfl) (by simp), ⟨[], ?_, by simp⟩, Nat.le_refl _, by unfold maxLen; omega, Cyc.new h1 h2, fun h => ?_, fun h => ?_, fun h => ?_, by omega, by omega, hw0, fun k hk => ?_, hb.trans (hb2.mono hw0)⟩
  · rw [List.append_nil]; exact (fr_alloc _ _ []).same ((fr_alloc _ _ []).same HG1.out (by simp)) (by simp)
  · have := hG _ h; omega
  · have := hG _ h; omega
  · have := hG _ h; omega
  · have := hG k hk; omega

section
variable {w0 w : World} {G : Nat → Prop} {a bb cc cp c f : Nat} {xs B : List UInt8}

theorem RgB.rowB (R : RgB w0 G w a bb cc cp c f xs B) : RowB w 0 (.slice (some ⟨cc, 0, none⟩) c cp) xs := by
  obtain ⟨r, hr, hl⟩ := R.tc
  have h1 := R.cyc.len
  subst h1
  exact ⟨by simp, .inr ⟨cc, cp, _, rfl, Nat.zero_le _, hr, R.ccp, R.cpm, by simpa using hl, by simp [List.take_append_of_le_length, List.take_of_length_le]⟩⟩

theorem row_whole {w : World} {base g n cap : Nat} {L : List UInt8} (h : RowB w base (.slice (some ⟨g, 0, none⟩) n cap) L) : n = L.length ∧ base ≤ g ∧ n ≤ cap ∧ cap ≤ maxLen ∧ ∃ r, w.heap[g]? = some (.cells (L.map encB ++ r).toArray 5 (0, 0)) ∧ (L.map encB ++ r).length = cap := by
  rcases h.2 with ⟨h', _⟩ | ⟨g', cap', cur, hv, hb, hh, hnc, hcm, hcs, htake⟩
  · cases h'
  · simp only [Value.slice.injEq, Option.some.injEq, Addr.mk.injEq, and_true] at hv
    obtain ⟨rfl, rfl, rfl⟩ := hv
    refine ⟨rfl, hb, hnc, hcm, cur.toList.drop (L.length * 1), ?_, ?_⟩
    · rw [← htake, List.take_append_drop, hh]
    · rw [← htake, List.take_append_drop]; simpa using hcs

theorem copy_mem {w0 w wc : World} {va : Option Addr} {vc l : Nat} (h0 : Below w0.heap.size w0 w) (hb : Below w.heap.size w wc) (hrow : RowB wc w.heap.size (.slice va xs.length vc) xs) (hcy : Cyc c xs f B) (hl : l = B.length) :
    Below w.heap.size w ((wc.alloc (.cells #[.slice va xs.length vc, .int .i64 f, .int .i64 l] 133)).alloc (.cells #[.pointer (some ⟨wc.heap.size, 0, none⟩)] 135)) ∧
    RgIn w0 (fun k => k < w.heap.size) ((wc.alloc (.cells #[.slice va xs.length vc, .int .i64 f, .int .i64 l] 133)).alloc (.cells #[.pointer (some ⟨wc.heap.size, 0, none⟩)] 135)) (wc.heap.size + 1) c B := by
  subst hl
  have hs := hb.size
  have h0s := h0.size
  have hb2 : Below w.heap.size w ((wc.alloc (.cells #[.slice va xs.length vc, .int .i64 f, .int .i64 B.length] 133)).alloc (.cells #[.pointer (some ⟨wc.heap.size, 0, none⟩)] 135)) := (hb.alloc hs _).alloc (by simp; omega) _
  obtain ⟨g, cap, hv, _, _⟩ := row_some hrow (by have := hcy.len; have := hcy.pos; omega)
  simp only [Value.slice.injEq, true_and] at hv
  obtain ⟨rfl, rfl⟩ := hv
  obtain ⟨_, hg, hnc, hcm, r, hr, hrl⟩ := row_whole hrow
  have hlt := lt_of_block hr
  have hcl := hcy.len
  refine ⟨hb2, wc.heap.size, g, vc, f, xs, block_new _ _ _ (by simp), ?_, ⟨r, (fr_alloc _ _ []).same ((fr_alloc _ _ []).same hr (by simp)) (by simp), hrl⟩, by omega, hcm, hcy, ?_, ?_, ?_, by omega, by omega, by omega, fun k hk => ?_, h0.trans (hb2.mono h0s)⟩
  · rw [← hcl]; exact (fr_alloc _ _ []).same (block_new _ _ _ rfl) (by simp)
  · show ¬ (_ < _); omega
  · show ¬ (_ < _); omega
  · show ¬ (_ < _); omega
  · have : k < w.heap.size := hk
    have := hb2.size
    omega

end
end Rg
end Go.Proofs.Yteimjkmjofaieaa
