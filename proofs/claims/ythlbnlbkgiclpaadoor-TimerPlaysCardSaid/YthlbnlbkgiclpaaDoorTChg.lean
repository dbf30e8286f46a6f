/- The calls that change timers: New, Set, Reset, Stop. -/
import Derived.Test.YthlbnlbkgiclpaaDoorTLook
import Derived.StillTailTactics
namespace Go.Proofs.YthlbnlbkgiclpaaDoor
open Go.RowKit Go.Sort
set_option linter.unusedVariables false
set_option linter.unusedSimpArgs false

variable {w0 w : World} {G : Nat → Prop} {a bb hp : Nat} {vg : Value} {S : List El} {gs : List Nat} {P : Nat}

set_option maxHeartbeats 1600000 in
theorem tnew_in (w0 w : World) (G : Nat → Prop) (hG : ∀ k, G k → k < w.heap.size) (hb : Below w0.heap.size w0 w) :
    Calls Tryd.prog 14 #[] w fun e w' => ∃ a, e = .returned (pt a) ∧ TmIn w0 G w' a [] [] 0 ∧ Below w.heap.size w w' := by
  have hn := Lib.hid (new_in w0 w G hG hb)
  have HG := Lib.hid hG
  clear hG hb
  unfold pt at *
  go_enter Tryd.func14, Tryd.ntmps14
  go_wp2_with (go_at_call 6; fail)
  refine hn.out.mono ?_
  rintro e w1 ⟨hp, rfl, H, hb1⟩
  have hW : Hid (TmIn w0 G ((w1.alloc (.cells #[.pointer (some ⟨hp, 0, none⟩), .slice none 0 0] 112)).alloc (.cells #[.pointer (some ⟨w1.heap.size, 0, none⟩)] 114)) (w1.heap.size + 1) [] [] 0) := by
    have hb2 : Below w1.heap.size w1 ((w1.alloc (.cells #[.pointer (some ⟨hp, 0, none⟩), .slice none 0 0] 112)).alloc (.cells #[.pointer (some ⟨w1.heap.size, 0, none⟩)] 114)) := ((Below.refl _ _).alloc (Nat.le_refl _) _).alloc (by simp) _
    have hs1 := hb1.size
    have hs0 := H.below.size
    refine ⟨⟨w1.heap.size, hp, .slice none 0 0, ⟨H.more hb2 (fun k hk => ?_), block_new _ _ _ (by simp), ?_, World.ownsRow_nil _ _ _ _, fun h => ?_, fun h => ?_, fun g hg => by simp [Value.ownBlock] at hg, by omega, hs0, by simp⟩⟩, TmP.nil⟩
    · rcases hk with h | h | h | h
      · exact .inl h
      · subst h; exact .inr ⟨by omega, by simp⟩
      · subst h; exact .inr ⟨by omega, by simp; omega⟩
      · simp [Value.ownBlock] at h
    · exact ((Below.refl _ _).alloc (Nat.le_refl _) _ : Below _ (w1.alloc _) _).block w1.heap.size (by simp) |>.trans (block_new _ _ _ rfl)
    · have := HG.out _ h; omega
    · have := HG.out _ h; omega
  have HB : Hid (Below w.heap.size w ((w1.alloc (.cells #[.pointer (some ⟨hp, 0, none⟩), .slice none 0 0] 112)).alloc (.cells #[.pointer (some ⟨w1.heap.size, 0, none⟩)] 114))) := Lib.hid ((hb1.alloc hb1.size _).alloc (by have := hb1.size; simp; omega) _)
  clear H hb1
  go_wp2_with fail
  go_ret
  exact ⟨_, rfl, hW.out, HB.out⟩

def never : Int := 18446744073709551615

set_option maxHeartbeats 800000 in
theorem tset_never (T : TmIn w0 G w a S gs P) (o : Int) : Calls Tryd.prog 44 #[pt a, .int .u64 never, .int .i64 o] w fun e w' => e = .returned (.tuple #[.agg #[.int .i64 0, .int .i64 0], .int .i64 2]) ∧ Grn w w' := by
  obtain ⟨bb, hp, vg, B⟩ := T.ex
  have B1 := B.grown ((Grn.refl w).alloc (.cells #[.int .i64 0, .int .i64 0] 53)).below
  have hu := Lib.hid (usable_in B1)
  clear T B B1
  unfold pt never at *
  go_enter Tryd.func44, Tryd.ntmps44
  go_wp2_with (first | (go_at_call 54; refine hu.out.mono ?_; rintro e w' ⟨rfl, rfl⟩))
  exact bodyPost_ret (v := .tuple #[.agg #[.int .i64 0, .int .i64 0], .int .i64 2]) (by simp [results, Tryd.results44, go_sem]) rfl ⟨rfl, (Grn.refl w).alloc _⟩

set_option maxHeartbeats 1600000 in
theorem tset_full (T : TmIn w0 G w a S gs P) (k o : Int) (hk : k ≠ never) (hS : S.length = 1024) (hT : Tab w0) : Calls Tryd.prog 44 #[pt a, .int .u64 k, .int .i64 o] w fun e w' => e = .returned (.tuple #[.agg #[.int .i64 0, .int .i64 0], .int .i64 7]) ∧ Grn w w' := by
  obtain ⟨bb, hp, vg, B⟩ := T.ex
  obtain ⟨W, hW⟩ : ∃ W, w.alloc (.cells #[.int .i64 0, .int .i64 0] 53) = W := ⟨_, rfl⟩
  have hgW : Grn w W := by rw [← hW]; exact (Grn.refl w).alloc _
  have B1 := B.grown hgW.below
  have hu := Lib.hid (usable_in B1)
  have hp' : Hid (Calls Tryd.prog 12 #[pt hp, .int .u64 k, .int .i64 o] W fun e w' => e = .returned (.tuple #[.int .i64 0, .int .i64 7]) ∧ ∃ m, w' = W.drewN m) := by
    obtain ⟨h, ha, HA, h1, h2⟩ := B1.H.ex
    have := push_full HA k o hS (hT.below B1.H.below hT.lt)
    rwa [ptr_of ha] at this
  have ca := B1.ca
  have cb := B1.cb
  have al := B1.alt
  have bl := B1.blt
  have r0 : W.heap[w.heap.size]? = some (.cells #[.int .i64 0, .int .i64 0] 53 (0, 0)) := by rw [← hW]; exact block_new _ _ _ rfl
  have q : (k == 18446744073709551615) = false := by simpa [never] using hk
  have HgW := Lib.hid hgW
  have HW := Lib.hid hW
  clear T B B1 hgW hW hk hS
  unfold pt at *
  go_enter Tryd.func44, Tryd.ntmps44
  go_wp2_with fail
  rw [HW.out]
  go_wp2_with (first | (go_at_call 54; refine hu.out.mono ?_; rintro e w' ⟨rfl, rfl⟩) | (go_at_call 12; fail))
  refine hp'.out.mono ?_
  rintro e w2 ⟨rfl, m, rfl⟩
  have f0 := cells_free r0 0
  have f1 := cells_free r0 1
  have c0 := cells_cell (o := 0) r0 rfl
  have c1 := cells_cell (o := 1) r0 rfl
  have Hr2 := Lib.hid (set2 (w := W.drewN m) r0 (.int .i64 0) (.int .i64 0))
  clear r0
  go_wp2_with fail
  have s0 := cells_cell (o := 0) Hr2.out rfl
  have s1 := cells_cell (o := 1) Hr2.out rfl
  have hfin : Grn w (((W.drewN m).setCell ⟨w.heap.size, 0, none⟩ (.int .i64 0)).setCell ⟨w.heap.size, 1, none⟩ (.int .i64 0)) := (((HgW.out.drew m).set ⟨w.heap.size, 0, none⟩ _ (Nat.le_refl _)).set ⟨w.heap.size, 1, none⟩ _ (Nat.le_refl _))
  generalize (((W.drewN m).setCell ⟨w.heap.size, 0, none⟩ (.int .i64 0)).setCell ⟨w.heap.size, 1, none⟩ (.int .i64 0)) = w3 at *
  exact bodyPost_ret (v := .tuple #[.agg #[.int .i64 0, .int .i64 0], .int .i64 7]) (by simp [results, Tryd.results44, go_sem, s0, s1]) rfl ⟨rfl, hfin⟩

/-- The law's own blocks, and a result's. -/
def GR (G : Nat → Prop) (r : Nat) : Nat → Prop := fun k => G k ∨ k = r
theorem TmB.res {r : Nat} (B : TmB w0 (GR G r) w a bb hp vg S gs P) (hr : w0.heap.size ≤ r) (x y : Value) : TmB w0 G ((w.setCell ⟨r, 0, none⟩ x).setCell ⟨r, 1, none⟩ y) a bb hp vg S gs P := by
  have f1 : Fr [r] w (w.setCell ⟨r, 0, none⟩ x) := fr_setCell w ⟨r, 0, none⟩ x
  have f2 : Fr [r] (w.setCell ⟨r, 0, none⟩ x) ((w.setCell ⟨r, 0, none⟩ x).setCell ⟨r, 1, none⟩ y) := fr_setCell _ ⟨r, 1, none⟩ y
  exact (B.write (f1.trans' f2) (fun k hk => by simp at hk; subst hk; exact ⟨.inr rfl, hr⟩)).less fun k h => .inl h
theorem Keep.res {r : Nat} {w w' : World} (K : Keep G w w') (hr : ¬ G r) (x y : Value) : Keep G w ((w'.setCell ⟨r, 0, none⟩ x).setCell ⟨r, 1, none⟩ y) := by
  intro k hk
  have hne : k ≠ r := fun e => hr (e ▸ hk)
  rw [Below.heap_setCell _ _ _ _ (by simpa using hne), Below.heap_setCell _ _ _ _ (by simpa using hne)]
  exact K k hk

theorem slice_form {w : World} {base e size n : Nat} {v : Value} {xs : List Value} (h : w.ownsRow base e size v n xs) : ∃ a c, v = .slice a n c := by
  rcases h.2 with ⟨rfl, rfl⟩ | ⟨g, cap, cu, rfl, _⟩
  · exact ⟨_, _, rfl⟩
  · exact ⟨_, _, rfl⟩

set_option maxRecDepth 100000 in
set_option maxHeartbeats 3200000 in
theorem tset_any (T : TmIn w0 G w a S gs P) (k o : Int) (hk : k ≠ never) (hS : S.length < 1024) (hT : Tab w0) (hP : P < 9223372036854775807) :
    Calls Tryd.prog 44 #[pt a, .int .u64 k, .int .i64 o] w fun e w' => e = .returned (.tuple #[.agg #[.int .i64 (lowOf (hsOf S)), .int .i64 (gs.getD (lowOf (hsOf S)) 0 : Nat)], .int .i64 0]) ∧
      TmIn w0 G w' a (pushS S k o) (setG gs (lowOf (hsOf S))) (P + 1) ∧ Keep G w w' := by
  have hp1 := T.p.push k o
  have hll := T.p.low_le
  have hl1 : lowOf (hsOf S) < 1024 := by have := low_le (hsOf S); simp only [hsOf, List.length_map] at this; simp only [hsOf]; omega
  have hget := setG_get gs (lowOf (hsOf S)) (lowOf (hsOf S))
  obtain ⟨bb, hp, vg, B⟩ := T.ex
  have hrG : ¬ G w.heap.size := fun h => by have := B.H.lt _ (.inl h); omega
  have hr0 : w0.heap.size ≤ w.heap.size := B.H.below.size
  obtain ⟨W, hW⟩ : ∃ W, w.alloc (.cells #[.int .i64 0, .int .i64 0] 53) = W := ⟨_, rfl⟩
  have hgW : Grn w W := by rw [← hW]; exact (Grn.refl w).alloc _
  have B1 : TmB w0 (GR G w.heap.size) W a bb hp vg S gs P := B.more hgW.below (fun j hj => by
    rcases hj with h | h
    · exact .inl h
    · subst h; exact .inr ⟨Nat.le_refl _, by rw [← hW]; simp⟩)
  have K1 : Keep G w W := fun j hj => hgW.below.block j (B.H.lt j (.inl hj))
  have hu := Lib.hid (usable_in B1)
  have hpush := Lib.hid (push_in B1.H k o hS hT hP)
  have ca := B1.ca
  have cb := B1.cb
  have al := B1.alt
  have bl := B1.blt
  have r0 : W.heap[w.heap.size]? = some (.cells #[.int .i64 0, .int .i64 0] 53 (0, 0)) := by rw [← hW]; exact block_new _ _ _ rfl
  have q : (k == 18446744073709551615) = false := by simpa [never] using hk
  have HB := Lib.hid B1
  have HK1 := Lib.hid K1
  have HW := Lib.hid hW
  have Hp1 := Lib.hid hp1
  have Hget := Lib.hid hget
  clear T B B1 hgW hW hk hS K1 hp1 hget
  generalize lowOf (hsOf S) = l at *
  obtain ⟨z, hz⟩ : ∃ z, gs.getD l 0 = z := ⟨_, rfl⟩
  have Hz := Lib.hid hz
  clear hz
  unfold pt at *
  go_enter Tryd.func44, Tryd.ntmps44
  go_wp2_with fail
  rw [HW.out]
  go_wp2_with (first | (go_at_call 54; refine hu.out.mono ?_; rintro e w' ⟨rfl, rfl⟩) | (go_at_call 12; fail))
  refine hpush.out.mono ?_
  rintro e w2 ⟨rfl, H2, K2⟩
  obtain ⟨B2, K2'⟩ := HB.out.heap H2 K2
  have r2 := (K2 w.heap.size (.inl (.inr rfl))).trans r0
  have cb2 := B2.cb
  have cg2 := B2.cg
  have bl2 := B2.blt
  have HB2 := Lib.hid B2
  have HK2 := Lib.hid (HK1.out.trans (fun j hj => K2' j (.inl hj)))
  have hgl := B2.gl
  obtain ⟨va, vc, rfl⟩ := slice_form B2.tg
  clear H2 K2 K2' B2 ca cb al r0 HB bl
  by_cases hlen : l = gs.length
  · subst hlen
    have hset : setG gs gs.length = gs ++ [0] := by unfold setG; rw [if_pos rfl]
    obtain ⟨i0, hi0, hz0, hz1, hz2⟩ := info_parts infoInt
    have fb2 := cells_free HB2.out.tb 1
    go_wp2_with (at_builtin; refine wpList_append_row _ rfl _ _ 35 rfl 3 i0 (.int .i64 0) 1 8 Tryd.underlying35 hi0 hz0 hz1 hz2 rfl (by decide) w0.heap.size (.slice va gs.length vc) gs.length (gs.map encN) rfl (HB2.out.tg.alloc _) ?c0 ⟨w2.heap.size, 0, none⟩ 1 1 [.int .i64 0] rfl rfl ?c1 ?c2 (by decide) ?c3 ?c4 ?_)
    case c0 => have := HB2.out.H.below.size; simp; omega
    case c1 => exact cell_one_new _ _ _
    case c2 => simp [Value.oneCell']
    case c3 => unfold maxLen; omega
    case c4 => omega
    intro v' w3 hown hf hnear
    have hba : Below w2.heap.size w2 (w2.alloc (.cells #[.int .i64 0] 3)) := (Below.refl _ _).alloc (Nat.le_refl _) _
    have B3 := HB2.out.grown hba
    have nb : bb ∉ (Value.slice va gs.length vc).ownBlock.toList := fun hm => B3.gbb bb (by simpa using hm) rfl
    have tb3 := hf.same B3.tb nb
    have c3 := cells_cell (o := 1) tb3 rfl
    have f3 := cells_free tb3 1
    obtain ⟨B4, K4'⟩ := B3.newG (v' := v') (gs' := gs ++ [0]) hf hnear (by simpa [encN] using hown) (by simp; omega)
    rw [hset] at Hget Hp1
    have K4 : Keep G w (w3.setCell ⟨bb, 1, none⟩ v') := (HK2.out.trans (fun j hj => hba.block j (HB2.out.H.lt j (.inl (.inl hj))))).trans (fun j hj => K4' j (.inl hj))
    have r4 := (K4' w.heap.size (.inr rfl)).trans ((hba.block _ (lt_of_block r2)).trans r2)
    obtain ⟨va', vc', rfl⟩ := slice_form hown
    have hname := Lib.hid (name_in B4 gs.length (by simp))
    rw [Hget.out, Hz.out] at hname
    have HB4 := Lib.hid B4
    have HK4 := Lib.hid K4
    have R4 := Lib.hid r4
    clear B4 K4 r4 hown hf hnear tb3 nb B3 K4' r2 hba
    go_wp2_with (go_at_call 73; fail)
    refine hname.out.mono ?_
    rintro e w5 ⟨rfl, hg5⟩
    have hb5 := hg5.below
    have B5 := Lib.hid (HB4.out.grown hb5)
    have K5 := Lib.hid (HK4.out.trans (fun j hj => hb5.block j (HB4.out.H.lt j (.inl (.inl hj)))))
    have r5 := (hb5.block _ (lt_of_block R4.out)).trans R4.out
    have f0 := cells_free r5 0
    have f1 := cells_free r5 1
    have c0 := cells_cell (o := 0) r5 rfl
    have c1 := cells_cell (o := 1) r5 rfl
    have Hr5 := Lib.hid (set2 r5 (.int .i64 gs.length) (.int .i64 z))
    clear hg5 hb5 r5
    go_wp2_with fail
    have s0 := cells_cell (o := 0) Hr5.out rfl
    have s1 := cells_cell (o := 1) Hr5.out rfl
    have hfin := B5.out.res hr0 (.int .i64 gs.length) (.int .i64 z)
    have hkeep := K5.out.res hrG (.int .i64 gs.length) (.int .i64 z)
    generalize ((w5.setCell ⟨w.heap.size, 0, none⟩ (.int .i64 gs.length)).setCell ⟨w.heap.size, 1, none⟩ (.int .i64 z)) = w6 at *
    exact bodyPost_ret (v := .tuple #[.agg #[.int .i64 gs.length, .int .i64 z], .int .i64 0]) (by simp [results, Tryd.results44, go_sem, s0, s1]) rfl ⟨by rw [Hz.out], by rw [hset]; exact ⟨⟨_, _, _, hfin⟩, Hp1.out⟩, hkeep⟩
  · have hset : setG gs l = gs := by unfold setG; rw [if_neg hlen]
    have q2 : ((l : Int) == (gs.length : Int)) = false := by simp; omega
    have hll' : l < gs.length := by omega
    rw [hset] at Hget Hp1
    have B4 := HB2.out
    have K4 := HK2.out
    have r4 := r2
    have hname := Lib.hid (name_in B4 l (by omega))
    rw [Hz.out] at hname
    have HB4 := Lib.hid B4
    have HK4 := Lib.hid K4
    have R4 := Lib.hid r4
    clear B4 K4 r4 r2
    go_wp2_with (go_at_call 73; fail)
    refine hname.out.mono ?_
    rintro e w5 ⟨rfl, hg5⟩
    have hb5 := hg5.below
    have B5 := Lib.hid (HB4.out.grown hb5)
    have K5 := Lib.hid (HK4.out.trans (fun j hj => hb5.block j (HB4.out.H.lt j (.inl (.inl hj)))))
    have r5 := (hb5.block _ (lt_of_block R4.out)).trans R4.out
    have f0 := cells_free r5 0
    have f1 := cells_free r5 1
    have c0 := cells_cell (o := 0) r5 rfl
    have c1 := cells_cell (o := 1) r5 rfl
    have Hr5 := Lib.hid (set2 r5 (.int .i64 l) (.int .i64 z))
    clear hg5 hb5 r5
    go_wp2_with fail
    have s0 := cells_cell (o := 0) Hr5.out rfl
    have s1 := cells_cell (o := 1) Hr5.out rfl
    have hfin := B5.out.res hr0 (.int .i64 l) (.int .i64 z)
    have hkeep := K5.out.res hrG (.int .i64 l) (.int .i64 z)
    generalize ((w5.setCell ⟨w.heap.size, 0, none⟩ (.int .i64 l)).setCell ⟨w.heap.size, 1, none⟩ (.int .i64 z)) = w6 at *
    exact bodyPost_ret (v := .tuple #[.agg #[.int .i64 l, .int .i64 z], .int .i64 0]) (by simp [results, Tryd.results44, go_sem, s0, s1]) rfl ⟨by rw [Hz.out], by rw [hset]; exact ⟨⟨_, _, _, hfin⟩, Hp1.out⟩, hkeep⟩
end Go.Proofs.YthlbnlbkgiclpaaDoor
