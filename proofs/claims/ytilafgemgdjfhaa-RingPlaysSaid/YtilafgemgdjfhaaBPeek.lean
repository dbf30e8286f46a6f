/- Peek. -/
import Derived.Test.YtilafgemgdjfhaaBSkip
namespace Go.Proofs.Ytilafgemgdjfhaa
open Go.RowKit Go.Sort
set_option linter.unusedVariables false
set_option linter.unusedSimpArgs false

/-- New memory that holds some bytes. -/
def RowB (w : World) (base : Nat) (v : Value) (L : List UInt8) : Prop := w.ownsRow base 5 1 v L.length (L.map encB)

theorem made_heap {w : World} {base gp n : Nat} {ys : List Value} (h : w.ownsRow base 5 1 (.slice (some ⟨gp, 0, none⟩) n n) n ys) : w.heap[gp]? = some (.cells ys.toArray 5 (0, 0)) := by
  rcases h.2 with ⟨h', _⟩ | ⟨g, cap, cur, hv, _, hh, _, _, hcs, htake⟩
  · cases h'
  · simp only [Value.slice.injEq, Option.some.injEq, Addr.mk.injEq, and_true, true_and] at hv
    obtain ⟨rfl, rfl⟩ := hv
    rw [hh]
    have : cur.toList = ys := by rw [← htake, List.take_of_length_le (by simp; omega)]
    rw [← this]
theorem made_eq (n : Nat) : (madeCells #[Value.int .u8 0] n).toList = (List.replicate n (0 : UInt8)).map encB := by
  rw [List.map_replicate]
  exact toList_madeCells_one _ _
theorem row_of {w : World} {base gp n : Nat} {L : List UInt8} (hb : base ≤ gp) (h : w.heap[gp]? = some (.cells (L.map encB).toArray 5 (0, 0))) (hn : L.length = n) (hm : n ≤ maxLen) : RowB w base (.slice (some ⟨gp, 0, none⟩) n n) L := by
  subst hn
  exact ⟨by simp, .inr ⟨gp, L.length, _, rfl, hb, h, Nat.le_refl _, hm, by simp, by simp [List.take_of_length_le]⟩⟩
theorem lies_row {w : World} {cc : Nat} {xs : List UInt8} {r : List Value} {t : TypeId} (h : w.heap[cc]? = some (.cells (xs.map encB ++ r).toArray t (0, 0))) : Lies w cc 0 xs := fun i u hi => by
  have hl := (List.getElem?_eq_some_iff.1 hi).1
  refine cells_cell h ?_
  simp only [List.getElem?_toArray, Nat.zero_add]
  rw [List.getElem?_append_left (by simpa using hl), List.getElem?_map, hi]
  rfl

section
variable {w0 w : World} {G : Nat → Prop} {a bb cc cp c f : Nat} {xs B : List UInt8}

set_option maxHeartbeats 800000 in
theorem peek_neg (R : RgB w0 G w a bb cc cp c f xs B) (o m : Int) (h : o < 0 ∨ m < 0) :
    Calls Try.prog 15 #[pt a, .int .i64 o, .int .i64 m] w fun e w' => e = .returned (.tuple #[.slice none 0 0, .int .i64 2]) ∧ w = w' := by
  have hu := Lib.hid (usable_yes a bb w R.ca)
  clear R
  unfold pt
  by_cases h1 : o < 0
  · go_enter Try.func15, Try.ntmps15
    go_wp2_with (go_at_call 27; refine hu.out.mono ?_; rintro e w' ⟨rfl, rfl⟩)
    go_ret2
    exact ⟨rfl, rfl⟩
  · have h2 : m < 0 := by omega
    have h3 : 0 ≤ o := by omega
    go_enter Try.func15, Try.ntmps15
    go_wp2_with (go_at_call 27; refine hu.out.mono ?_; rintro e w' ⟨rfl, rfl⟩)
    go_ret2
    exact ⟨rfl, rfl⟩

set_option maxHeartbeats 800000 in
theorem peek_out (R : RgB w0 G w a bb cc cp c f xs B) (o m : Int) (ho : (B.length : Int) ≤ o) (hm : 0 ≤ m) :
    Calls Try.prog 15 #[pt a, .int .i64 o, .int .i64 m] w fun e w' => e = .returned (.tuple #[.slice none 0 0, .int .i64 0]) ∧ w = w' := by
  have hu := Lib.hid (usable_yes a bb w R.ca)
  have ca := R.ca
  have c2 := R.c2
  have alt := R.alt
  have blt := R.blt
  have h3 : 0 ≤ o := by omega
  have h4 : decide (o < 0) = false := by simp; omega
  have h5 : decide (m < 0) = false := by simp; omega
  clear R
  unfold pt
  go_enter Try.func15, Try.ntmps15
  go_wp2_with (go_at_call 27; refine hu.out.mono ?_; rintro e w' ⟨rfl, rfl⟩)
  go_ret2
  exact ⟨rfl, rfl⟩

set_option maxRecDepth 100000 in
set_option maxHeartbeats 3200000 in
theorem peek_at (R : RgB w0 G w a bb cc cp c f xs B) (o : Nat) (m : Int) (ho : o < B.length) (hm : 0 ≤ m) (n : Nat) (hn : (n : Int) = min m ((B.length : Int) - o)) :
    Calls Try.prog 15 #[pt a, .int .i64 o, .int .i64 m] w fun e w' => ∃ v, e = .returned (.tuple #[v, .int .i64 0]) ∧ RowB w' w.heap.size v ((B.drop o).take n) ∧ Below w.heap.size w w' := by
  have hpk := Lib.hid (R.cyc.peek o n (by omega))
  have hbl := R.cyc.bl
  have hct := R.cyc.top
  have hfl := R.cyc.fl
  have hvv := wr_lt (c := c) (x := f + o) (by omega)
  have hpp := hd_or c (wr c (f + o)) n
  have hlenR : Hid (((B.drop o).take n).length = n) := Lib.hid (by simp; omega)
  have hpc := Lib.hid (fun (W : World) (RW : RgB w0 G W a bb cc cp c f xs B) => pieces_in RW o n (by omega))
  generalize wr c (f + o) = v at *
  generalize hd c v n = p at *
  obtain ⟨t, ht⟩ : ∃ t, t = n - p := ⟨_, rfl⟩
  rw [← ht] at hpc hpk
  have hu := Lib.hid (usable_yes a bb w R.ca)
  have HR := Lib.hid R
  have ca := R.ca
  have c2 := R.c2
  have alt := R.alt
  have blt := R.blt
  obtain ⟨q, hq⟩ : ∃ q, q = B.length := ⟨_, rfl⟩
  rw [← hq] at hn c2 hbl ho
  have e1 : (o : Int) < (q : Int) := by omega
  have e2 : decide ((q : Int) ≤ (o : Int)) = false := by simp; omega
  have e3 : (q : Int) ≤ 4096 := by omega
  have e5 : (n : Int) ≤ 4096 := by omega
  have hfit : Hid (v + p ≤ c ∧ t ≤ c ∧ t = n - p ∧ p ≤ n ∧ n ≤ 4096) := Lib.hid (by omega)
  have hH : Hid (q = B.length) := Lib.hid hq
  have hlq : m ≤ (q : Int) - (o : Int) ∧ m = (n : Int) ∨ (q : Int) - (o : Int) < m ∧ (q : Int) - (o : Int) = (n : Int) := by omega
  have hpn : (p : Int) < (n : Int) ∨ p = n := by omega
  obtain ⟨i0, hi0, hz0, hz1, hz2⟩ := info_parts infoU8
  clear hn hq R hpp hbl hct hfl ht ho hvv
  unfold pt at *
  rcases hlq with ⟨g1, rfl⟩ | ⟨g1, g3⟩ <;> rcases hpn with g2 | g2
  all_goals (
    go_enter Try.func15, Try.ntmps15
    go_wp2_with (first
      | (go_at_call 27; refine hu.out.mono ?_; rintro e w' ⟨rfl, rfl⟩)
      | (with_reducible refine wpList_make_full _ rfl (.tmp 39) (.tmp 39) 24 rfl w.heap.size 5 i0 (.int .u8 0) 1 Try.underlying24 hi0 hz0 hz1 _ _ _ _ n rfl rfl rfl rfl ?_ ?_ (Nat.le_refl _) ?_))
    · have := hfit.out; rw [hz2]; omega
    · have := hfit.out; unfold maxLen; omega
    intro W1 hown hgrow
    have F1 := Lib.hid (show Fr [] w W1 from (fr_grown hgrow).mono (by simp))
    have HG1 : Hid (W1.heap[w.heap.size]? = some (.cells ((List.replicate n (0 : UInt8)).map encB).toArray 5 (0, 0))) := Lib.hid (by rw [← made_eq]; exact made_heap hown)
    have HR1 := Lib.hid (HR.out.grown (F1.out.below (fun x hx => by simp at hx) (Nat.le_refl _)))
    have hpc1 := Lib.hid (hpc.out W1 HR1.out)
    have ca1 := HR1.out.ca
    have c21 := HR1.out.c2
    rw [← hH.out] at c21
    have alt1 := HR1.out.alt
    have blt1 := HR1.out.blt
    clear hown hgrow ca c2 alt blt
    go_wp2_with (go_at_call 28; fail)
    refine hpc1.out.mono ?_
    rintro e w1 ⟨a1, a2, k, rfl, q1, q2, rfl⟩
    have hcs : cc ≠ w.heap.size := by have := HR.out.clt; omega
    have HCS := Lib.hid hcs
    obtain ⟨r, hr, hrl⟩ := HR1.out.tc
    have S1 : Hid (Lies (W1.drewN k) cc 0 xs) := Lib.hid (lies_row (r := r) hr)
    have F2 : Hid (Fr [w.heap.size] w (W1.drewN k)) := Lib.hid ((F1.out.mono (by simp)).trans' (fr_drewN _ _ _))
    have G1 : Hid ((W1.drewN k).heap[w.heap.size]? = some (.cells ((List.replicate n (0 : UInt8)).map encB ++ []).toArray 5 (0, 0))) := Lib.hid (by rw [List.append_nil]; exact HG1.out)
    obtain ⟨cs1, hcs1⟩ : ∃ cs, cs = ((xs.drop v).take p).map encB := ⟨_, rfl⟩
    obtain ⟨cs2, hcs2⟩ : ∃ cs, cs = (xs.take t).map encB := ⟨_, rfl⟩
    have hxl := HR1.out.cyc.len
    have l1 : cs1.length = p := by have := hfit.out; rw [hcs1]; simp; omega
    have l2 : cs2.length = t := by have := hfit.out; rw [hcs2]; simp; omega
    have H1 := Lib.hid hcs1
    have H2 := Lib.hid hcs2
    have Q1 := Lib.hid q1
    have Q2 := Lib.hid q2
    have hLn : Hid (((xs.drop v).take p).length = p ∧ (xs.take t).length = t) := Lib.hid (by have := hfit.out; constructor <;> simp <;> omega)
    clear hcs1 hcs2 q1 q2 hr hrl hxl hcs HG1 ca1 c21 alt1 blt1
    generalize W1.drewN k = W at *
    generalize hgp : w.heap.size = gp at *
    have HGP := Lib.hid hgp
    clear hgp
    obtain ⟨Z1, hZ1⟩ : ∃ Z, Z = (List.replicate n (0 : UInt8)).map encB ++ [] := ⟨_, rfl⟩
    have HZ1 := Lib.hid hZ1
    rw [← hZ1] at G1
    clear hZ1
    go_wp2_with (with_reducible refine wpList_copy_fr rfl (.tmp 49) (.tmp 50) 24 24 rfl 5 Try.underlying24 sizeU8 (some ⟨gp, 0, none⟩) a1 _ _ _ _ rfl rfl gp 0 Z1 5 G1.out cs1 ?_ ?_ ?_ ?_ ?_)
    · rw [l1]; have := hfit.out; first | exact (Nat.min_eq_left (by omega)).symm | (simp; omega)
    · intro h0; first | exact ⟨rfl, _, Q1.out (by omega), by rw [H1.out]; have := ((S1.out.drop v).take p).map; rwa [Nat.zero_add] at this⟩ | exact ⟨_, Q1.out (by omega), by rw [H1.out]; have := ((S1.out.drop v).take p).map; rwa [Nat.zero_add] at this⟩
    · rw [HZ1.out]; have := hfit.out; simp; omega
    · rw [H1.out]; exact encB_one _
    intro w2 HG2 HF2
    have X2 : Hid (splice Z1 0 cs1 = (splice (List.replicate n (0 : UInt8)) 0 ((xs.drop v).take p)).map encB ++ []) := Lib.hid (by rw [HZ1.out, H1.out]; exact splice_map _ _ _ _ _ (by have := hfit.out; have := hLn.out.1; simp; omega))
    have G2 := Lib.hid (X2.out ▸ HG2.out)
    have S2 := Lib.hid (S1.out.fr HF2.out (by simp; exact HCS.out))
    have L2 : Hid ((splice (List.replicate n (0 : UInt8)) 0 ((xs.drop v).take p)).length = n) := Lib.hid (by rw [length_splice _ _ _ (by have := hfit.out; have := hLn.out.1; simp; omega)]; simp)
    obtain ⟨Z2, hZ2⟩ : ∃ Z, Z = (splice (List.replicate n (0 : UInt8)) 0 ((xs.drop v).take p)).map encB ++ [] := ⟨_, rfl⟩
    have HZ2 := Lib.hid hZ2
    rw [← hZ2] at G2
    clear HG2 hZ2 X2
    go_wp2_with (with_reducible refine wpList_copy_fr rfl (.tmp 54) (.tmp 55) 24 24 rfl 5 Try.underlying24 sizeU8 _ a2 _ _ _ _ rfl rfl gp p Z2 5 G2.out cs2 ?_ ?_ ?_ ?_ ?_)
    · have := hfit.out; rw [l2]; first | exact (Nat.min_eq_left (by omega)).symm | (simp; omega)
    · intro h0
      first
        | exact ⟨_, Q2.out (by have := hfit.out; omega), by rw [H2.out]; exact (S2.out.take t).map⟩
        | (exfalso; have := hfit.out; omega)
    · rw [l2, HZ2.out]; have := hfit.out; have := L2.out; simp; omega
    · rw [H2.out]; exact encB_one _
    intro w3 HG3 HF3
    have X3 : Hid (splice Z2 p cs2 = ((B.drop o).take n).map encB) := Lib.hid (by
      rw [HZ2.out, H2.out, splice_map _ _ _ _ _ (by rw [L2.out]; have := hfit.out; have := hLn.out.2; omega), hpk.out, List.append_nil])
    have G3 : Hid (w3.heap[gp]? = some (.cells (((B.drop o).take n).map encB).toArray 5 (0, 0))) := Lib.hid (by
      have h := HG3.out
      first | rw [X3.out] at h | rw [← g2, X3.out] at h
      exact h)
    have FF := Lib.hid ((F2.out.trans' HF2.out).trans' HF3.out)
    clear HG3
    go_wp2_with fail
    go_ret2
    exact ⟨_, rfl, row_of (by rw [HGP.out]; exact Nat.le_refl _) G3.out hlenR.out (by have := hfit.out; unfold maxLen; omega), FF.out.below (fun x hx => by simp at hx; have := HGP.out; omega) (Nat.le_refl _)⟩)

/-- Peek, whatever is asked for. -/
theorem peek_ok (R : RgB w0 G w a bb cc cp c f xs B) (o m : Int) (ho : 0 ≤ o) (hm : 0 ≤ m) :
    Calls Try.prog 15 #[pt a, .int .i64 o, .int .i64 m] w fun e w' => ∃ v, e = .returned (.tuple #[v, .int .i64 0]) ∧ RowB w' w.heap.size v ((B.drop o.toNat).take m.toNat) ∧ Below w.heap.size w w' := by
  by_cases h : (B.length : Int) ≤ o
  · refine (peek_out R o m h hm).mono ?_
    rintro e w' ⟨rfl, rfl⟩
    have : (B.drop o.toNat).take m.toNat = [] := by rw [List.drop_eq_nil_of_le (by omega)]; simp
    rw [this]
    exact ⟨_, rfl, World.ownsRow_nil _ _ _ _, Below.refl _ _⟩
  · obtain ⟨k, rfl⟩ : ∃ k : Nat, o = k := ⟨o.toNat, by omega⟩
    refine (peek_at R k m (by omega) hm (min m.toNat (B.length - k)) (by omega)).mono ?_
    rintro e w' ⟨v, rfl, h1, h2⟩
    have : (B.drop (k : Int).toNat).take m.toNat = (B.drop k).take (min m.toNat (B.length - k)) := by
      rw [Int.toNat_natCast]
      by_cases hq : m.toNat ≤ B.length - k
      · rw [Nat.min_eq_left hq]
      · rw [Nat.min_eq_right (by omega), List.take_of_length_le (by simp; omega), List.take_of_length_le (by simp)]
    rw [this]
    exact ⟨_, rfl, h1, h2⟩
end
end Go.Proofs.Ytilafgemgdjfhaa
