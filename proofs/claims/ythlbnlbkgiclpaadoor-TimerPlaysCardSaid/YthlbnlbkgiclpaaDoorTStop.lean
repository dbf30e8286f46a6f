/- Stop and Reset of timers; the body's own remove. -/
import Derived.Test.YthlbnlbkgiclpaaDoorTChg
namespace Go.Proofs.YthlbnlbkgiclpaaDoor
open Go.RowKit Go.Sort
set_option linter.unusedVariables false
set_option linter.unusedSimpArgs false

variable {w0 w : World} {G : Nat → Prop} {a bb hp : Nat} {vg : Value} {S : List El} {gs : List Nat} {P : Nat}

set_option maxHeartbeats 1600000 in
theorem tremove_in (B : TmB w0 G w a bb hp vg S gs P) (hp' : TmP S gs P) (x : Nat) (hx : x ∈ hsOf S) (hP : P ≤ 9223372036854775807) :
    Calls Tryd.prog 75 #[.pointer (some ⟨bb, 0, none⟩), .int .i64 x] w fun e w' => e = .returned (.tuple #[]) ∧ TmB w0 G w' a bb hp vg (removeS S x) (bump gs x) P ∧ Keep G w w' := by
  have hxl := hp'.lt x hx
  have hgx := hp'.gb x
  rw [if_pos hx] at hgx
  obtain ⟨g, cap, rfl, _, hcm⟩ := row_some B.tg (by omega)
  have hr := Lib.hid (remove_yes_in B.H x hx)
  have cb := B.cb
  have hgl := B.gl
  have HB := Lib.hid B
  have h1 : (x : Int) < (gs.length : Int) := by omega
  have h2 : (0 : Int) ≤ (x : Int) := by omega
  have h3 : (gs.length : Int) ≤ 1024 := by omega
  have h4 : ((gs.getD x 0 : Nat) : Int) + 1 ≤ 9223372036854775807 := by omega
  clear B hp' hx hgx
  unfold pt at *
  go_enter Tryd.func75, Tryd.ntmps75
  go_wp2_with (go_at_call 24; fail)
  refine hr.out.mono ?_
  rintro e w2 ⟨rfl, H2, K2⟩
  obtain ⟨B2, K2'⟩ := HB.out.heap H2 K2
  have cg := B2.cg
  have hc := row_at (L := gs) (ownsRow_mono B2.tg (Nat.zero_le _)) x hxl
  have fr := World.ownsRow.frozenAt B2.tg x
  obtain ⟨B3, K3⟩ := B2.bumpG x
  have H3 := Lib.hid B3
  have HK := Lib.hid (K2'.trans K3)
  unfold encN at hc
  have f4 : (0 : Int) ≤ ((gs.getD x 0 : Nat) : Int) := by omega
  generalize gs.getD x 0 = z at *
  clear H2 K2 K2' B2 B3 K3
  go_wp2_with fail
  go_end0
  exact ⟨rfl, H3.out, HK.out⟩

theorem isT_dec (T : TmIn w0 G w a S gs P) (n g : Int) : (¬ isH S n) ∨ (∃ e ∈ S, n = e.h ∧ g ≠ (gs.getD e.h 0 : Nat)) ∨ (∃ e ∈ S, n = e.h ∧ g = (gs.getD e.h 0 : Nat)) := by
  by_cases h : isH S n
  · obtain ⟨x, rfl, hx⟩ := h
    obtain ⟨e, he, rfl⟩ := El_of hx
    by_cases hg : g = (gs.getD e.h 0 : Nat)
    · exact .inr (.inr ⟨e, he, rfl, hg⟩)
    · exact .inr (.inl ⟨e, he, rfl, hg⟩)
  · exact .inl h
theorem isT_el {S : List El} {gs : List Nat} {n g : Int} (h : isT S gs n g) : ∃ e ∈ S, n = e.h ∧ g = (gs.getD e.h 0 : Nat) := by
  obtain ⟨x, rfl, hx, hg⟩ := h
  obtain ⟨e, he, rfl⟩ := El_of hx
  exact ⟨e, he, rfl, hg⟩

/-- Get of a name that is none. -/
theorem tget_no (T : TmIn w0 G w a S gs P) (n g : Int) (hn : ¬ isT S gs n g) :
    Calls Tryd.prog 57 #[pt a, .agg #[.int .i64 n, .int .i64 g]] w fun e w' => e = .returned (.tuple #[.int .u64 0, .int .i64 0, .int .i64 9]) ∧ Grn w w' := by
  rcases isT_dec T n g with h | ⟨e, he, rfl, hg⟩ | ⟨e, he, rfl, hg⟩
  · exact tget_none T n g h
  · exact (tget_mem T e g he).mono fun r w' ⟨_, h2, h3⟩ => ⟨h2 (Ne.symm hg), h3⟩
  · exact absurd ⟨_, rfl, List.mem_map_of_mem he, hg⟩ hn
theorem tget_yes (T : TmIn w0 G w a S gs P) (e : El) (he : e ∈ S) :
    Calls Tryd.prog 57 #[pt a, .agg #[.int .i64 e.h, .int .i64 (gs.getD e.h 0 : Nat)]] w fun r w' => r = .returned (.tuple #[.int .u64 e.k, .int .i64 e.v, .int .i64 0]) ∧ Grn w w' :=
  (tget_mem T e _ he).mono fun r w' ⟨h1, _, h3⟩ => ⟨h1 rfl, h3⟩

set_option maxHeartbeats 1600000 in
theorem tstop_no (T : TmIn w0 G w a S gs P) (n g : Int) (hn : ¬ isT S gs n g) :
    Calls Tryd.prog 48 #[pt a, .agg #[.int .i64 n, .int .i64 g]] w fun e w' => e = .returned (.int .i64 9) ∧ Grn w w' := by
  have hg := Lib.hid (tget_no (T.grown ((Grn.refl w).alloc (.cells #[.int .i64 n, .int .i64 g] 53)).below) n g hn)
  clear T hn
  unfold pt at *
  go_enter Tryd.func48, Tryd.ntmps48
  go_wp2_with (go_at_call 57; refine hg.out.mono ?_; rintro e w2 ⟨rfl, hg2⟩)
  go_ret
  exact ⟨rfl, ((Grn.refl w).alloc _).trans hg2⟩

set_option maxRecDepth 100000 in
set_option maxHeartbeats 1600000 in
theorem tstop_yes (T : TmIn w0 G w a S gs P) (e : El) (he : e ∈ S) (hP : P ≤ 9223372036854775807) :
    Calls Tryd.prog 48 #[pt a, .agg #[.int .i64 e.h, .int .i64 (gs.getD e.h 0 : Nat)]] w fun r w' => r = .returned (.int .i64 0) ∧ TmIn w0 G w' a (removeS S e.h) (bump gs e.h) P ∧ Keep G w w' := by
  obtain ⟨W, hW⟩ : ∃ W, w.alloc (.cells #[.int .i64 e.h, .int .i64 (gs.getD e.h 0 : Nat)] 53) = W := ⟨_, rfl⟩
  have hgW : Grn w W := by rw [← hW]; exact (Grn.refl w).alloc _
  have K1 := T.keep hgW.below
  have T1 := T.grown hgW.below
  have hg := Lib.hid (tget_yes T1 e he)
  have r0 : W.heap[w.heap.size]? = some (.cells #[.int .i64 e.h, .int .i64 (gs.getD e.h 0 : Nat)] 53 (0, 0)) := by rw [← hW]; exact block_new _ _ _ rfl
  have hx : Hid (e.h ∈ hsOf S) := Lib.hid (List.mem_map_of_mem he)
  have HT := Lib.hid T1
  have HK := Lib.hid K1
  have HW := Lib.hid hW
  clear T T1 K1 hgW hW he
  obtain ⟨eh, ev, ek⟩ := e
  simp only at *
  generalize gs.getD eh 0 = z at *
  unfold pt at *
  have c0 := cells_cell (o := 0) r0 rfl
  have c1 := cells_cell (o := 1) r0 rfl
  go_enter Tryd.func48, Tryd.ntmps48
  go_wp2_with fail
  rw [HW.out]
  go_wp2_with (go_at_call 57; fail)
  refine hg.out.mono ?_
  rintro e w2 ⟨rfl, hg2⟩
  have hb2 := hg2.below
  have T2 := HT.out.grown hb2
  have K2 := Lib.hid (HK.out.trans (HT.out.keep hb2))
  have r2 := (hb2.block _ (lt_of_block r0)).trans r0
  obtain ⟨bb, hp, vg, B2⟩ := T2.ex
  have d0 := cells_cell (o := 0) r2 rfl
  have ca := B2.ca
  have hrem := Lib.hid (fun m => tremove_in (B2.drew m) T2.p eh hx.out hP)
  have Hp := Lib.hid (T2.p.remove eh hx.out)
  have HT2 := Lib.hid T2
  clear T2 B2 r2 r0 c0 c1 hb2 hg2
  go_wp2_with fail
  go_still_tail 6, (by kernel_rfl)
  change wpList _ _ _ _ _ (w2.drewN 1)
  go_wp2_with (go_at_call 75; fail)
  refine (hrem.out 1).mono ?_
  rintro e w3 ⟨rfl, B3, K3⟩
  have hfin := Lib.hid (⟨⟨_, _, _, B3⟩, Hp.out⟩ : TmIn w0 G w3 a (removeS S eh) (bump gs eh) P)
  have K4 := Lib.hid (K2.out.trans (K3 : Keep G w2 w3))
  clear B3 K3
  go_wp2_with fail
  go_ret
  exact ⟨rfl, hfin.out, K4.out⟩

set_option maxHeartbeats 1600000 in
theorem treset_never (T : TmIn w0 G w a S gs P) (n g : Int) :
    Calls Tryd.prog 45 #[pt a, .agg #[.int .i64 n, .int .i64 g], .int .u64 never] w fun e w' => e = .returned (.int .i64 2) ∧ Grn w w' := by
  obtain ⟨bb, hp, vg, B⟩ := T.ex
  have hu := Lib.hid (usable_in (B.grown ((Grn.refl w).alloc (.cells #[.int .i64 n, .int .i64 g] 53)).below))
  clear T B
  unfold pt never at *
  go_enter Tryd.func45, Tryd.ntmps45
  go_wp2_with (go_at_call 54; refine hu.out.mono ?_; rintro e w2 ⟨rfl, rfl⟩)
  go_ret
  exact ⟨rfl, (Grn.refl w).alloc _⟩

set_option maxHeartbeats 1600000 in
theorem treset_no (T : TmIn w0 G w a S gs P) (n g k : Int) (hk : k ≠ never) (hn : ¬ isT S gs n g) :
    Calls Tryd.prog 45 #[pt a, .agg #[.int .i64 n, .int .i64 g], .int .u64 k] w fun e w' => e = .returned (.int .i64 9) ∧ Grn w w' := by
  have T1 := T.grown ((Grn.refl w).alloc (.cells #[.int .i64 n, .int .i64 g] 53)).below
  have hg := Lib.hid (tget_no T1 n g hn)
  obtain ⟨bb, hp, vg, B⟩ := T1.ex
  have hu := Lib.hid (usable_in B)
  have q : (k == 18446744073709551615) = false := by simpa [never] using hk
  clear T T1 B hn hk
  unfold pt at *
  go_enter Tryd.func45, Tryd.ntmps45
  go_wp2_with (first | (go_at_call 54; refine hu.out.mono ?_; rintro e w2 ⟨rfl, rfl⟩) | (go_at_call 57; refine hg.out.mono ?_; rintro e w2 ⟨rfl, hg2⟩))
  go_ret
  exact ⟨rfl, ((Grn.refl w).alloc _).trans hg2⟩

set_option maxRecDepth 100000 in
set_option maxHeartbeats 1600000 in
theorem treset_yes (T : TmIn w0 G w a S gs P) (e : El) (he : e ∈ S) (k : Int) (hk : k ≠ never) :
    Calls Tryd.prog 45 #[pt a, .agg #[.int .i64 e.h, .int .i64 (gs.getD e.h 0 : Nat)], .int .u64 k] w fun r w' => r = .returned (.int .i64 0) ∧ TmIn w0 G w' a (changeS S e.h k) gs P ∧ Keep G w w' := by
  obtain ⟨W, hW⟩ : ∃ W, w.alloc (.cells #[.int .i64 e.h, .int .i64 (gs.getD e.h 0 : Nat)] 53) = W := ⟨_, rfl⟩
  have hgW : Grn w W := by rw [← hW]; exact (Grn.refl w).alloc _
  have K1 := T.keep hgW.below
  have T1 := T.grown hgW.below
  have hg := Lib.hid (tget_yes T1 e he)
  have hu : Hid (Calls Tryd.prog 54 #[.pointer (some ⟨a, 0, none⟩)] W fun e w' => e = .returned (.bool true) ∧ W = w') := by
    obtain ⟨bb, hp, vg, B⟩ := T1.ex
    exact usable_in B
  have r0 : W.heap[w.heap.size]? = some (.cells #[.int .i64 e.h, .int .i64 (gs.getD e.h 0 : Nat)] 53 (0, 0)) := by rw [← hW]; exact block_new _ _ _ rfl
  have hx : Hid (e.h ∈ hsOf S) := Lib.hid (List.mem_map_of_mem he)
  have q : (k == 18446744073709551615) = false := by simpa [never] using hk
  have HT := Lib.hid T1
  have HK := Lib.hid K1
  have HW := Lib.hid hW
  clear T T1 K1 hgW hW he hk
  obtain ⟨eh, ev, ek⟩ := e
  simp only at *
  generalize gs.getD eh 0 = z at *
  unfold pt at *
  have c0 := cells_cell (o := 0) r0 rfl
  have c1 := cells_cell (o := 1) r0 rfl
  go_enter Tryd.func45, Tryd.ntmps45
  go_wp2_with fail
  rw [HW.out]
  go_wp2_with (first | (go_at_call 54; refine hu.out.mono ?_; rintro e w2 ⟨rfl, rfl⟩) | (go_at_call 57; fail))
  refine hg.out.mono ?_
  rintro e w2 ⟨rfl, hg2⟩
  have hb2 := hg2.below
  have T2 := HT.out.grown hb2
  have K2 := Lib.hid (HK.out.trans (HT.out.keep hb2))
  have r2 := (hb2.block _ (lt_of_block r0)).trans r0
  obtain ⟨bb, hp, vg, B2⟩ := T2.ex
  have d0 := cells_cell (o := 0) r2 rfl
  have ca := B2.ca
  have cb := B2.cb
  have hch := Lib.hid (change_yes_in (B2.drew 1).H eh k hx.out)
  have Hp := Lib.hid (T2.p.change eh k)
  have HB2 := Lib.hid (B2.drew 1)
  clear T2 B2 r2 r0 c0 c1 hb2 hg2
  unfold pt at *
  go_wp2_with fail
  go_still_tail 10, (by kernel_rfl)
  change wpList _ _ _ _ _ (w2.drewN 1)
  go_wp2_with (go_at_call 11; fail)
  refine hch.out.mono ?_
  rintro e w3 ⟨rfl, H3, K3⟩
  obtain ⟨B3, K3'⟩ := HB2.out.heap H3 K3
  have hfin := Lib.hid (⟨⟨_, _, _, B3⟩, Hp.out⟩ : TmIn w0 G w3 a (changeS S eh k) gs P)
  have K4 := Lib.hid (K2.out.trans (K3' : Keep G w2 w3))
  clear B3 K3 K3' H3
  go_wp2_with fail
  go_ret
  exact ⟨rfl, hfin.out, K4.out⟩
end Go.Proofs.YthlbnlbkgiclpaaDoor
