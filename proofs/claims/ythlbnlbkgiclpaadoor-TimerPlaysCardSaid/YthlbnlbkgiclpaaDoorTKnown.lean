/- The examples of the chapter hold: the contract of the law's known. -/
import Derived.Test.YthlbnlbkgiclpaaDoorTCopy
namespace Go.Proofs.YthlbnlbkgiclpaaDoor
open Go.RowKit Go.Sort
set_option linter.unusedVariables false
set_option linter.unusedSimpArgs false

variable {w0 w : World} {G : Nat → Prop} {a bb hp : Nat} {vg : Value} {S : List El} {gs : List Nat} {P : Nat}

set_option maxHeartbeats 400000 in
theorem tid_any (n g : Int) (w : World) : Calls Tryd.prog 43 #[.int .i64 n, .int .i64 g] w fun e w' => e = .returned (.agg #[.int .i64 n, .int .i64 g]) ∧ Grn w w' := by
  go_enter Tryd.func43, Tryd.ntmps43
  go_wp2_with fail
  exact bodyPost_ret (v := .agg #[.int .i64 n, .int .i64 g]) (by simp [results, Tryd.results43, go_sem]) rfl ⟨rfl, (Grn.refl w).alloc _⟩

set_option maxRecDepth 100000 in
set_option maxHeartbeats 1600000 in
theorem tsets_in (T : TmIn w0 G w a S gs P) (k o : Int) (hk : k ≠ never) (hS : S.length < 1024) (hT : Tab w0) (hP : P < 9223372036854775807) (l z : Nat) (hl : lowOf (hsOf S) = l) (hz : gs.getD l 0 = z) :
    Calls Tryd.prog 42 #[pt a, .int .u64 k, .int .i64 o, .agg #[.int .i64 l, .int .i64 z]] w fun e w' => e = .returned (.bool true) ∧ TmIn w0 G w' a (pushS S k o) (setG gs l) (P + 1) ∧ Keep G w w' := by
  obtain ⟨W, hW⟩ : ∃ W, w.alloc (.cells #[.int .i64 l, .int .i64 z] 53) = W := ⟨_, rfl⟩
  have hgW : Grn w W := by rw [← hW]; exact (Grn.refl w).alloc _
  have T1 : TmIn w0 (GR G w.heap.size) W a S gs P := T.more hgW.below (fun j hj => by
    rcases hj with h | h
    · exact .inl h
    · subst h; exact .inr ⟨Nat.le_refl _, by rw [← hW]; simp⟩)
  have K1 := Lib.hid (T.keep hgW.below)
  have hset := tset_any T1 k o hk hS hT hP
  rw [hl, hz] at hset
  have r0 : W.heap[w.heap.size]? = some (.cells #[.int .i64 l, .int .i64 z] 53 (0, 0)) := by rw [← hW]; exact block_new _ _ _ rfl
  have Hset := Lib.hid hset
  have HW := Lib.hid hW
  have Hr0 := Lib.hid r0
  clear T T1 hset hl hz hgW hW r0 hk hS
  unfold pt at *
  go_enter Tryd.func42, Tryd.ntmps42
  go_wp2_with fail
  rw [HW.out]
  go_wp2_with (go_at_call 44; fail)
  refine Hset.out.mono ?_
  rintro e w2 ⟨rfl, T2, K2⟩
  have hr2 := (K2 w.heap.size (.inr rfl)).trans Hr0.out
  have c0 := cells_cell (o := 0) hr2 rfl
  have c1 := cells_cell (o := 1) hr2 rfl
  have hlt := lt_of_block hr2
  simp only [List.getElem_toArray, List.getElem_cons_zero, List.getElem_cons_succ] at c0 c1
  have HT2 := Lib.hid (T2.less (G' := G) fun k h => .inl h)
  have HK2 := Lib.hid (K1.out.trans (fun j hj => K2 j (.inl hj)))
  clear T2 K2 hr2
  go_wp2_with fail
  go_ret
  exact ⟨by simp, HT2.out.alloc _, HK2.out.trans (HT2.out.keep ((Below.refl _ _).alloc (Nat.le_refl _) _))⟩

def t3 : List El := [⟨0, 1, 5⟩, ⟨1, 2, 3⟩, ⟨2, 3, 5⟩]
def t4 : List El := [⟨0, 1, 5⟩, ⟨1, 2, 5⟩, ⟨2, 3, 5⟩]
def d5 : List Du := [⟨0, 0, 1, 5⟩, ⟨1, 0, 2, 5⟩, ⟨2, 0, 3, 5⟩]

theorem rowD3 (w : World) : RowD (w.alloc (.cells #[.int .i64 0, .int .i64 0, .int .i64 1, .int .u64 5, .int .i64 1, .int .i64 0, .int .i64 2, .int .u64 5, .int .i64 2, .int .i64 0, .int .i64 3, .int .u64 5] 108)) 0 (.slice (some ⟨w.heap.size, 0, none⟩) 3 3) d5 :=
  World.ownsRow_lit w _ 3 (Nat.zero_le _) (by unfold maxLen; omega) rfl

theorem gv_nil {v : Value} : ∀ k, (fun _ : Nat => False) k → GV (fun _ => False) v k := fun _ h => h.elim

set_option maxRecDepth 100000 in
set_option maxHeartbeats 6400000 in
theorem tknown_any (w : World) (hT : Tab w) :
    Calls Tryd.prog 13 #[] w fun e w' => e = .returned (.bool true) ∧ Below w.heap.size w w' := by
  have hid := Lib.hid tid_any
  go_enter Tryd.func13, Tryd.ntmps13
  go_wp2_with (first | (go_at_call 14; fail))
  refine (tnew_in w w (fun _ => False) (fun _ h => h.elim) (Below.refl _ _)).mono ?_
  rintro e w1 ⟨a, rfl, T1, _⟩
  unfold pt
  go_wp2_with (first | (go_at_call 43; refine (hid.out _ _ _).mono ?_; rintro e w2 ⟨rfl, g2⟩) | (go_at_call 42; fail))
  refine (tsets_in (T1.grown g2.below) 5 1 (by decide) (by decide) hT (by omega) 0 0 rfl rfl).mono ?_
  rintro e w3 ⟨rfl, T3, _⟩
  clear T1 g2
  go_wp2_with (first | (go_at_call 43; refine (hid.out _ _ _).mono ?_; rintro e w4 ⟨rfl, g4⟩) | (go_at_call 42; fail))
  refine (tsets_in (T3.grown g4.below) 3 2 (by decide) (by decide) hT (by omega) 1 0 rfl rfl).mono ?_
  rintro e w5 ⟨rfl, T5, _⟩
  clear T3 g4
  go_wp2_with (first | (go_at_call 43; refine (hid.out _ _ _).mono ?_; rintro e w6 ⟨rfl, g6⟩) | (go_at_call 42; fail))
  refine (tsets_in (T5.grown g6.below) 5 3 (by decide) (by decide) hT (by omega) 2 0 rfl rfl).mono ?_
  rintro e w7 ⟨rfl, T7', _⟩
  have T7 : TmIn w (fun _ => False) w7 a t3 [0, 0, 0] 3 := T7'
  clear T5 g6 T7'
  go_wp2_with (first | (go_at_call 44; fail))
  refine (tset_never T7 4).mono ?_
  rintro e w8 ⟨rfl, g8⟩
  have T8 := (T7.grown g8.below)
  clear T7 g8
  go_wp2_with (first | (go_at_call 18; fail))
  refine (tnext_in (T8.alloc _)).mono ?_
  rintro e w9 ⟨rfl, g9⟩
  have T9 := (T8.alloc _).grown g9.below
  clear T8 g9
  have e3 : nextK t3 = 3 := by decide +kernel
  rw [e3]
  go_wp2_with (first | (go_at_call 43; refine (hid.out _ _ _).mono ?_; rintro e w10 ⟨rfl, g10⟩) | (go_at_call 45; fail))
  refine (treset_yes (T9.grown g10.below) ⟨1, 2, 3⟩ (by simp [t3]) 5 (by decide)).mono ?_
  rintro e w11 ⟨rfl, T11', _⟩
  have T11 : TmIn w (fun _ => False) w11 a t4 [0, 0, 0] 3 := T11'
  clear T9 g10 T11'
  go_wp2_with (first | (go_at_call 46; fail))
  refine (texpire_any T11 4 (by decide) (by omega)).mono ?_
  rintro e w12 ⟨v, rfl, hrow, T12', _, _⟩
  have x4 : expS 4 t4 [0, 0, 0] = ([], t4, [0, 0, 0]) := expS_late (e := ⟨0, 1, 5⟩) (by rfl) (by decide)
  rw [x4] at hrow T12'
  have T12 := T12'.less (G' := fun _ => False) gv_nil
  obtain ⟨va, vc, rfl⟩ := slice_form hrow
  clear T11 T12' hrow x4
  go_wp2_with (first | (go_at_call 46; fail))
  refine (texpire_any T12 5 (by decide) (by omega)).mono ?_
  rintro e w13 ⟨v, rfl, hrow, T13', _, _⟩
  have x5 : expS 5 t4 [0, 0, 0] = (d5, [], [1, 1, 1]) := by rfl
  rw [x5] at hrow T13'
  have T13 := T13'.less (G' := fun _ => False) gv_nil
  have hrow13 := hrow.mono (Nat.zero_le _)
  obtain ⟨va, vc, rfl⟩ := slice_form hrow
  have Hrow := Lib.hid hrow13
  clear T12 T13' hrow hrow13 x5
  have e5 : d5.length = 3 := rfl
  rw [e5]
  clear e5
  have gx := Grn.refl w13
  go_wp2_with (first | (go_at_call 43; refine (hid.out _ _ _).mono ?_; rintro e w14 ⟨rfl, g14⟩; have gx := gx.trans g14))
  have hb14 : Below w13.heap.size w13 (w14.alloc (.cells #[.int .i64 0, .int .i64 0, .int .i64 1, .int .u64 5, .int .i64 1, .int .i64 0, .int .i64 2, .int .u64 5, .int .i64 2, .int .i64 0, .int .i64 3, .int .u64 5] 108)) := (gx.alloc _).below
  refine (tsame_any (D := d5) (Hrow.out.below hb14) (rowD3 w14) (by decide)).mono ?_
  rintro e w15 ⟨rfl, n, rfl⟩
  have T15 := (T13.grown hb14).drew n
  clear T13 Hrow hb14 g14 gx
  generalize w14.alloc (.cells #[.int .i64 0, .int .i64 0, .int .i64 1, .int .u64 5, .int .i64 1, .int .i64 0, .int .i64 2, .int .u64 5, .int .i64 2, .int .i64 0, .int .i64 3, .int .u64 5] 108) = w15 at *
  go_wp2_with (first | (go_at_call 43; refine (hid.out _ _ _).mono ?_; rintro e w16 ⟨rfl, g16⟩) | (go_at_call 42; fail))
  refine (tsets_in (T15.grown g16.below) 9 7 (by decide) (by decide) hT (by omega) 0 1 rfl rfl).mono ?_
  rintro e w17 ⟨rfl, T17', _⟩
  have T17 : TmIn w (fun _ => False) w17 a [⟨0, 7, 9⟩] [1, 1, 1] 4 := T17'
  clear T15 g16 T17'
  go_wp2_with (first | (go_at_call 43; refine (hid.out _ _ _).mono ?_; rintro e w18 ⟨rfl, g18⟩) | (go_at_call 48; fail))
  refine (tstop_no (T17.grown g18.below) 0 0 (fun ⟨x, hx, hm, hg⟩ => by
    obtain rfl : x = 0 := by omega
    simp at hg)).mono ?_
  rintro e w19 ⟨rfl, g19⟩
  have T19 := (T17.grown g18.below).grown g19.below
  clear T17 g18 g19
  go_wp2_with (first | (go_at_call 43; refine (hid.out _ _ _).mono ?_; rintro e w20 ⟨rfl, g20⟩) | (go_at_call 48; fail))
  refine (tstop_yes (T19.grown g20.below) ⟨0, 7, 9⟩ (by simp) (by omega)).mono ?_
  rintro e w21 ⟨rfl, T21', _⟩
  have T21 : TmIn w (fun _ => False) w21 a [] [2, 1, 1] 4 := T21'
  clear T19 g20 T21'
  go_wp2_with (first | (go_at_call 43; refine (hid.out _ _ _).mono ?_; rintro e w22 ⟨rfl, g22⟩) | (go_at_call 48; fail))
  refine (tstop_no (T21.grown g22.below) 0 1 (fun ⟨x, hx, hm, hg⟩ => by simp [hsOf] at hm)).mono ?_
  rintro e w23 ⟨rfl, g23⟩
  have T23 := (T21.grown g22.below).grown g23.below
  clear T21 g22 g23
  go_wp2_with fail
  go_ret
  exact ⟨rfl, T23.below⟩
end Go.Proofs.YthlbnlbkgiclpaaDoor
