/- The walk of TimerHolds. -/
import Derived.Test.YtijbhamjccnieaaDoorTHoldP
import Derived.OpenShut
import Derived.Laws.AppendOwnNone
import Derived.Test.YtijbhamjccnieaaDoorTDuo
namespace Go.Proofs.YtijbhamjccnieaaDoor
open Go.RowKit Go.Sort
set_option linter.unusedVariables false
set_option linter.unusedSimpArgs false

def NoH : Nat → Prop := fun _ => False

structure HoR (w wr : World) (a : Nat) (v : Value) (S : List El) (gs : List Nat) (P : Nat) (L : List (Nat × Nat)) (k : Nat) : Prop where
  T : TmIn w (GV NoH v) wr a S gs P
  row : RowN wr w.heap.size v L
  ok : NamesOk L S gs
  len : S.length ≤ k
  hP : P ≤ k
  ll : L.length ≤ k
theorem HoR.step {w wr W w2 : World} {a : Nat} {v : Value} {S S2 : List El} {gs gs2 : List Nat} {P k : Nat} {L : List (Nat × Nat)} (R : HoR w wr a v S gs P L k) (hb : Below wr.heap.size wr W) (T2 : TmIn w (GV NoH v) w2 a S2 gs2 P) (K : Keep (GV NoH v) W w2) (hc : ∀ x, cnt S2 gs2 x = cnt S gs x) (hl : S2.length ≤ S.length) : HoR w w2 a v S2 gs2 P L (k + 1) :=
  ⟨T2, (R.row.below hb).keep (fun g hg => K g (.inr hg)), R.ok.same hc, by have := R.len; omega, by have := R.hP; omega, by have := R.ll; omega⟩
theorem HoR.grow {w wr w2 : World} {a : Nat} {v : Value} {S : List El} {gs : List Nat} {P k : Nat} {L : List (Nat × Nat)} (R : HoR w wr a v S gs P L k) (hb : Below wr.heap.size wr w2) : HoR w w2 a v S gs P L (k + 1) :=
  ⟨R.T.grown hb, R.row.below hb, R.ok, by have := R.len; omega, by have := R.hP; omega, by have := R.ll; omega⟩
theorem HoR.grow0 {w wr w2 : World} {a : Nat} {v : Value} {S : List El} {gs : List Nat} {P k : Nat} {L : List (Nat × Nat)} (R : HoR w wr a v S gs P L k) (hb : Below wr.heap.size wr w2) : HoR w w2 a v S gs P L k :=
  ⟨R.T.grown hb, R.row.below hb, R.ok, R.len, R.hP, R.ll⟩
theorem change_len (S : List El) (h : Nat) (k : Int) : (changeS S h k).length = S.length := by simp [changeS]
theorem push_len' (S : List El) (k v : Int) : (pushS S k v).length = S.length + 1 := by simp [pushS]

theorem wpList_unguard {P : Program} {ops : Array Oper} {Q : Exit → Act → World → Prop} {a : Act} {w : World} {rest : List Oper} {o : Oper} (hw : Region.wanted o (yielded ops a.tmps) = true) (h : wpList P ops Q ({ o with guard := none } :: rest) a w) : wpList P ops Q (o :: rest) a w := by
  unfold wpList at h ⊢
  rw [if_pos hw]
  have hn : Region.wanted { o with guard := none } (yielded ops a.tmps) = true := by simp [Region.wanted]
  rw [if_pos hn] at h
  exact h

set_option maxRecDepth 100000 in
set_option maxHeartbeats 6400000 in
theorem timerHolds_walk (sa : Option Addr) (len cap : Nat) (one two : Int) (w : World) (hr : IsTActs w sa len cap) (ho1 : (Lit.int .u64 one).wf = true) (ho2 : (Lit.int .u64 two).wf = true) (hT : Tab w) :
    Calls Tryd.prog 8 #[.slice sa len cap, .int .u64 one, .int .u64 two] w fun e w' => e = .returned (.bool true) ∧ Below w.heap.size w w' := by
  obtain ⟨a0, a1⟩ := bounds_u64 ho1
  obtain ⟨b0, b1⟩ := bounds_u64 ho2
  clear ho1 ho2
  by_cases hl : 60 < len
  · have hk := Lib.hid (tknown_any w hT)
    have hli : (60 : Int) < (len : Int) := by omega
    go_enter Tryd.func8, Tryd.ntmps8
    go_wp2_with (go_at_call 17; refine hk.out.mono ?_; rintro e w1 ⟨rfl, hb⟩)
    go_ret
    exact ⟨rfl, hb⟩
  · have hli : decide ((60 : Int) < (len : Int)) = false := by simp; omega
    have hl60 : (len : Int) ≤ 60 := by omega
    obtain ⟨i0, hi0, hz0, hz1, hz2⟩ := info_parts infoID
    go_enter Tryd.func8, Tryd.ntmps8
    go_wp2_with (first | (go_at_call 18; fail))
    refine (tnew_in w w NoH (fun _ h => h.elim) (Below.refl _ _)).mono ?_
    rintro e w1 ⟨a, rfl, T1, hb1⟩
    have hst : Hid (HoR w w1 a (.slice none 0 0) [] [] 0 [] 0) := Lib.hid ⟨T1.less (fun k h => by
      rcases h with h | h
      · exact h
      · simp [Value.ownBlock] at h), World.ownsRow_nil _ _ _ _, fun y hy => by simp at hy, Nat.le_refl _, Nat.le_refl _, Nat.le_refl _⟩
    clear T1 hb1
    unfold pt
    go_wp2_with fail
    go_loopw [8, 31] (fun v i wr => ∃ (k : Nat) (S : List El) (gs : List Nat) (P : Nat) (L : List (Nat × Nat)), k ≤ len ∧ i = .int .i64 k ∧ HoR w wr a v S gs P L k) (fun _ i _ => len - (intOf i).toNat)
    case atStart => exact ⟨0, [], [], 0, [], Nat.zero_le _, rfl, hst.out⟩
    case round =>
      clear hst
      obtain ⟨k, S, gs, P, L, hk, rfl, R⟩ := hrel
      obtain ⟨va, vc, rfl⟩ := slice_form R.row
      have HR := Lib.hid R
      by_cases hlt : k < len
      · rcases hr with h0 | ⟨ab, off, rfl, _, hblt, hcs⟩
        · omega
        · obtain ⟨x0, x1, x2, x3, x4, c0, c1, c2, c3, c4, _, _, y2, _, _⟩ := hcs k hlt
          have hbw := R.T.below
          have c0 : wr.cell? ⟨ab, off + k * 5, none⟩ = some (.int .i64 x0) := (hbw.cell (p := ⟨ab, off + k * 5, none⟩) hblt).trans c0
          have c1 : wr.cell? ⟨ab, off + k * 5 + 1, none⟩ = some (.int .i64 x1) := (hbw.cell (p := ⟨ab, off + k * 5 + 1, none⟩) hblt).trans c1
          have c2 : wr.cell? ⟨ab, off + k * 5 + 2, none⟩ = some (.int .u64 x2) := (hbw.cell (p := ⟨ab, off + k * 5 + 2, none⟩) hblt).trans c2
          have c3 : wr.cell? ⟨ab, off + k * 5 + 3, none⟩ = some (.int .i64 x3) := (hbw.cell (p := ⟨ab, off + k * 5 + 3, none⟩) hblt).trans c3
          have c4 : wr.cell? ⟨ab, off + k * 5 + 4, none⟩ = some (.int .i64 x4) := (hbw.cell (p := ⟨ab, off + k * 5 + 4, none⟩) hblt).trans c4
          obtain ⟨y20, y21⟩ := bounds_u64 y2
          have hki : (k : Int) < (len : Int) := by omega
          have hbA : Below wr.heap.size wr (wr.alloc (.cells #[.int .i64 x0, .int .i64 x1, .int .u64 x2, .int .i64 x3, .int .i64 x4] 55)) := (Below.refl _ _).alloc (Nat.le_refl _) _
          have TA := Lib.hid (HR.out.T.grown hbA)
          have HbA := Lib.hid hbA
          clear hcs hbw R y2 hbA
          by_cases hx0 : x0 = 0
          · subst hx0
            by_cases hx : x2 = never
            · subst hx
              have hset := Lib.hid (tset_never TA.out x1)
              unfold pt never at *
              go_wp2_with (go_at_call 25; refine hset.out.mono ?_; rintro e w2 ⟨rfl, g2⟩)
              have hnx := Lib.hid (HR.out.grow (HbA.out.trans ((g2.alloc (.cells #[.int .i64 0, .int .i64 0] 53)).below.mono HbA.out.size)))
              go_roundw
              case rel => exact ⟨k + 1, S, gs, P, L, by omega, by go_num, hnx.out⟩
              case measure => simp [intOf]; omega
            · have hset := tset_any TA.out x2 x1 hx (by have := HR.out.len; omega) hT (by have := HR.out.hP; omega)
              have hnew := HR.out.ok.new
              have hok := HR.out.ok.push x2 x1
              have q : (x2 == 18446744073709551615) = false := by simpa [never] using hx
              have Hset := Lib.hid hset
              have Hnew := Lib.hid hnew
              have Hok := Lib.hid hok
              clear hset hnew hok hx
              generalize lowOf (hsOf S) = l at *
              generalize gs.getD l 0 = z at *
              unfold pt at *
              go_wp2_with (go_at_call 25; refine Hset.out.mono ?_; rintro e w2 ⟨rfl, T2, K2⟩)
              have hgW : Grn w2 (w2.alloc (.cells #[.int .i64 l, .int .i64 z] 53)) := (Grn.refl _).alloc _
              have r0 : (w2.alloc (.cells #[.int .i64 l, .int .i64 z] 53)).heap[w2.heap.size]? = some (.cells #[.int .i64 l, .int .i64 z] 53 (0, 0)) := block_new _ _ _ rfl
              have T3 := T2.grown hgW.below
              have row3 : RowN (w2.alloc (.cells #[.int .i64 l, .int .i64 z] 53)) w.heap.size (.slice va L.length vc) L := ((HR.out.row.below HbA.out).keep (fun g hg => K2 g (.inr hg))).below hgW.below
              have HT3 := Lib.hid T3
              have Hrow3 := Lib.hid row3
              have Hr0 := Lib.hid r0
              have hLl : L.length ≤ 60 := by have := HR.out.ll; omega
              have hLi : (L.length : Int) ≤ 60 := by omega
              clear T2 K2 T3 row3 hgW r0
              generalize w2.alloc (.cells #[.int .i64 l, .int .i64 z] 53) = W2 at *
              generalize w2.heap.size = r at *
              go_loopw [52] (fun i wr2 => ∃ j : Nat, j ≤ L.length ∧ i = .int .i64 j ∧ Grn W2 wr2) (fun i _ => L.length - (intOf i).toNat)
              case atStart => exact ⟨0, Nat.zero_le _, rfl, Grn.refl _⟩
              case round =>
                obtain ⟨j, hj, rfl, hg⟩ := hrel
                have Hg := Lib.hid hg
                have d0 := cells_cell (o := 0) ((hg.below.block r (lt_of_block Hr0.out)).trans Hr0.out) rfl
                have d1 := cells_cell (o := 1) ((hg.below.block r (lt_of_block Hr0.out)).trans Hr0.out) rfl
                simp only [List.getElem_toArray, List.getElem_cons_zero, List.getElem_cons_succ] at d0 d1
                have hrl : r < wr.heap.size := Nat.lt_of_lt_of_le (lt_of_block Hr0.out) hg.below.size
                have row4 := Hrow3.out.below hg.below
                clear hg
                by_cases hlt2 : j < L.length
                · obtain ⟨y, hy⟩ : ∃ y, L[j]? = some y := ⟨_, List.getElem?_eq_getElem hlt2⟩
                  obtain ⟨g, vc2, h1, _, _⟩ := row_some row4 (by omega)
                  simp only [Value.slice.injEq, true_and] at h1
                  obtain ⟨rfl, rfl⟩ := h1
                  obtain ⟨e0, e1⟩ := row4.cells j y hy
                  have hne := Hnew.out y (List.mem_of_getElem? hy)
                  obtain ⟨yn, yg⟩ := y
                  simp only at e0 e1
                  have hji : (j : Int) < (L.length : Int) := by omega
                  have hj0 : (0 : Int) ≤ (j : Int) := by omega
                  have hnext := Lib.hid (fun o => Hg.out.alloc o)
                  by_cases hyn : l = yn
                  · subst hyn
                    have qz : ((z : Int) == (yg : Int)) = false := by
                      simp
                      intro q
                      exact hne (by simp; omega)
                    clear hne hy row4
                    go_wp2_with fail
                    go_roundw
                    case rel => exact ⟨j + 1, by omega, by go_num, hnext.out _⟩
                    case measure => simp [intOf]; omega
                  · have qz : ((l : Int) == (yn : Int)) = false := by simp; omega
                    clear hne hy row4
                    go_wp2_with fail
                    go_roundw
                    case rel => exact ⟨j + 1, by omega, by go_num, hnext.out _⟩
                    case measure => simp [intOf]; omega
                · obtain rfl : j = L.length := by omega
                  have T5 := Lib.hid (HT3.out.grown Hg.out.below)
                  have hown0 : Hid (wr.ownsRow w.heap.size 53 2 (.slice va L.length vc) L.length (cellsN L)) := Lib.hid row4
                  have hsz := Lib.hid (HT3.out.grown Hg.out.below).below.size
                  clear row4 hrl
                  go_wp2_with (at_builtin; refine wpList_append_row _ rfl _ _ 85 rfl 53 i0 (.agg #[.int .i64 0, .int .i64 0]) 2 16 Tryd.underlying85 hi0 hz0 hz1 hz2 rfl (by decide) w.heap.size (.slice va L.length vc) L.length (cellsN L) rfl (hown0.out.alloc _) ?c0 ⟨wr.heap.size, 0, none⟩ 1 1 [.int .i64 l, .int .i64 z] rfl ?c5 ?c1 ?c2 (by decide) ?c3 ?c4 ?_)
                  case c0 => have := hsz.out; simp; omega
                  case c5 => rfl
                  case c1 => exact new_cells2 wr _ _ _
                  case c2 => simp [Value.oneCell']
                  case c3 => unfold maxLen; omega
                  case c4 => omega
                  intro v' w4 hown hf hnear
                  have T6 : TmIn w (GV NoH v') w4 a (pushS S x2 x1) (setG gs l) (P + 1) := (T5.out.alloc _).grab hf (fun k hk => ⟨.inr (by simpa using hk), (hown0.out.lt k (by simpa using hk)).1⟩) (fun k hk => by
                    rcases hk with h | h
                    · exact h.elim
                    · rcases hnear k h with h' | h'
                      · exact .inl (.inr h')
                      · exact .inr ⟨h', (hown.lt k h).2⟩)
                  have hnx : Hid (HoR w w4 a v' (pushS S x2 x1) (setG gs l) (P + 1) (L ++ [(l, z)]) (k + 1)) := Lib.hid ⟨T6, by
                    unfold RowN
                    rw [cellsN_append]
                    simpa [cellsN] using hown, Hok.out, by rw [push_len']; have := HR.out.len; omega, by have := HR.out.hP; omega, by have := HR.out.ll; simp; omega⟩
                  obtain ⟨va', vc', hv'⟩ := slice_form hown
                  subst hv'
                  have hLe : (L ++ [(l, z)]).length = L.length + 1 := by simp
                  clear T6 hown hf hnear
                  go_wp2_with fail
                  go_roundw
                  case rel => exact ⟨k + 1, _, _, _, _, by omega, by go_num, hnx.out⟩
                  case measure => simp [intOf]; omega
          · by_cases hx1 : x0 = 1
            · subst hx1
              by_cases hx : x2 = never
              · subst hx
                have hset := Lib.hid (treset_never TA.out x3 x4)
                unfold pt never at *
                go_wp2_with (go_at_call 30; refine hset.out.mono ?_; rintro e w2 ⟨rfl, g2⟩)
                have hnx := Lib.hid (HR.out.grow (HbA.out.trans (g2.below.mono HbA.out.size)))
                go_roundw
                case rel => exact ⟨k + 1, S, gs, P, L, by omega, by go_num, hnx.out⟩
                case measure => simp [intOf]; omega
              · by_cases ht : isT S gs x3 x4
                · obtain ⟨e, he, rfl, rfl⟩ := isT_el ht
                  have hset := Lib.hid (treset_yes TA.out e he x2 hx)
                  have Hc := Lib.hid (cnt_change S gs e.h x2)
                  have Hl := Lib.hid (Nat.le_of_eq (change_len S e.h x2))
                  clear ht hx he
                  generalize gs.getD e.h 0 = z at *
                  unfold pt at *
                  go_wp2_with (go_at_call 30; refine hset.out.mono ?_; rintro e' w2 ⟨rfl, T2, K2⟩)
                  have hnx := Lib.hid (HR.out.step HbA.out T2 K2 Hc.out Hl.out)
                  go_roundw
                  case rel => exact ⟨k + 1, _, gs, P, L, by omega, by go_num, hnx.out⟩
                  case measure => simp [intOf]; omega
                · have hset := Lib.hid (treset_no TA.out x3 x4 x2 hx ht)
                  clear ht hx
                  unfold pt at *
                  go_wp2_with (go_at_call 30; refine hset.out.mono ?_; rintro e' w2 ⟨rfl, g2⟩)
                  have hnx := Lib.hid (HR.out.grow (HbA.out.trans (g2.below.mono HbA.out.size)))
                  go_roundw
                  case rel => exact ⟨k + 1, S, gs, P, L, by omega, by go_num, hnx.out⟩
                  case measure => simp [intOf]; omega
            · by_cases hx2 : x0 = 2
              · subst hx2
                by_cases ht : isT S gs x3 x4
                · obtain ⟨e, he, rfl, rfl⟩ := isT_el ht
                  have hset := Lib.hid (tstop_yes TA.out e he (by have := HR.out.hP; omega))
                  have Hc := Lib.hid (cnt_remove S gs e.h (List.mem_map_of_mem he) (HR.out.T.p.lt _ (List.mem_map_of_mem he)))
                  have Hl := Lib.hid (Nat.le_of_lt (remove_lt he))
                  clear ht he
                  generalize gs.getD e.h 0 = z at *
                  unfold pt at *
                  go_wp2_with (go_at_call 27; refine hset.out.mono ?_; rintro e' w2 ⟨rfl, T2, K2⟩)
                  have hnx := Lib.hid (HR.out.step HbA.out T2 K2 Hc.out Hl.out)
                  go_roundw
                  case rel => exact ⟨k + 1, _, _, P, L, by omega, by go_num, hnx.out⟩
                  case measure => simp [intOf]; omega
                · have hset := Lib.hid (tstop_no TA.out x3 x4 ht)
                  clear ht
                  unfold pt at *
                  go_wp2_with (go_at_call 27; refine hset.out.mono ?_; rintro e' w2 ⟨rfl, g2⟩)
                  have hnx := Lib.hid (HR.out.grow (HbA.out.trans (g2.below.mono HbA.out.size)))
                  go_roundw
                  case rel => exact ⟨k + 1, S, gs, P, L, by omega, by go_num, hnx.out⟩
                  case measure => simp [intOf]; omega
              · by_cases hx3 : x0 = 3
                · subst hx3
                  obtain ⟨W, hW⟩ : ∃ W, wr.alloc (.cells #[.int .i64 3, .int .i64 x1, .int .u64 x2, .int .i64 x3, .int .i64 x4] 55) = W := ⟨_, rfl⟩
                  rw [hW] at HbA TA
                  have r0 : W.heap[wr.heap.size]? = some (.cells #[.int .i64 3, .int .i64 x1, .int .u64 x2, .int .i64 x3, .int .i64 x4] 55 (0, 0)) := by rw [← hW]; exact block_new _ _ _ rfl
                  have TG2 : TmIn w (GR (GV NoH (.slice va L.length vc)) wr.heap.size) W a S gs P := HR.out.T.more HbA.out (fun j hj => by
                    rcases hj with h | h
                    · exact .inl h
                    · subst h; exact .inr ⟨Nat.le_refl _, lt_of_block r0⟩)
                  have e0 := cells_cell (o := 0) r0 rfl
                  have e2 := cells_cell (o := 2) r0 rfl
                  simp only [List.getElem_toArray, List.getElem_cons_zero, List.getElem_cons_succ] at e0 e2
                  have HW := Lib.hid hW
                  have Hr0 := Lib.hid r0
                  have hrW := lt_of_block r0
                  by_cases hx : x2 = never
                  · subst hx
                    have hset := Lib.hid (texpire_never TA.out)
                    clear hW TG2 r0
                    unfold pt never at *
                    go_wp2_with (go_at_call 31; fail)
                    rw [HW.out]
                    refine hset.out.mono ?_
                    rintro e' w2 ⟨rfl, g2⟩
                    have hnx := Lib.hid (HR.out.grow (HbA.out.trans (g2.below.mono HbA.out.size)))
                    clear g2
                    go_wp2_with fail
                    go_loopw [85] (fun i wr2 => i = .int .i64 0 ∧ wr2 = w2) (fun _ _ => 0)
                    case atStart => exact ⟨rfl, rfl⟩
                    case round =>
                      obtain ⟨rfl, rfl⟩ := hrel
                      go_wp2_with fail
                      go_roundw
                      case rel => exact ⟨k + 1, S, gs, P, L, by omega, by go_num, hnx.out⟩
                      case measure => simp [intOf]; omega
                  · have hset := Lib.hid (texpire_any TG2 x2 hx (by have := HR.out.hP; omega))
                    have Hc := Lib.hid (cnt_exp S.length x2 S gs rfl HR.out.T.p.lt)
                    have Hl := Lib.hid (expS_len S.length x2 S gs rfl)
                    have Hle := Lib.hid (expS_le S.length x2 S gs rfl)
                    have hSl := HR.out.len
                    clear hW TG2 r0 hx
                    unfold pt at *
                    go_wp2_with (go_at_call 31; fail)
                    rw [HW.out]
                    refine hset.out.mono ?_
                    rintro e' w2 ⟨v3, rfl, r3, T3, K3, _⟩
                    have hnx := Lib.hid (HR.out.step HbA.out (T3.less (G' := GV NoH (.slice va L.length vc)) (fun k h => .inl (.inl h))) (fun k hk => K3 k (.inl hk)) Hc.out Hl.out.2)
                    have hr2 := (K3 wr.heap.size (.inr rfl)).trans Hr0.out
                    have Hr2 := Lib.hid hr2
                    have hDl := Hl.out.1
                    have HleD := Lib.hid Hle.out
                    obtain ⟨va3, vc3, hv3⟩ := slice_form r3
                    subst hv3
                    have Hrow := Lib.hid r3
                    clear r3 T3 K3 hr2 Hc Hl Hle hset
                    generalize (expS x2 S gs).1 = D at *
                    have hDi : (D.length : Int) ≤ 60 := by omega
                    go_wp2_with fail
                    generalize wr.heap.size = r at *
                    go_loopw [85] (fun i wr2 => ∃ j : Nat, j ≤ D.length ∧ i = .int .i64 j ∧ Grn w2 wr2) (fun i _ => D.length - (intOf i).toNat)
                    case atStart => exact ⟨0, Nat.zero_le _, rfl, Grn.refl _⟩
                    case round =>
                      obtain ⟨j, hj, rfl, hg⟩ := hrel
                      have Hg := Lib.hid hg
                      have d2 := cells_cell (o := 2) ((hg.below.block r (lt_of_block Hr2.out)).trans Hr2.out) rfl
                      simp only [List.getElem_toArray, List.getElem_cons_zero, List.getElem_cons_succ] at d2
                      have hrl : r < wr.heap.size := Nat.lt_of_lt_of_le (lt_of_block Hr2.out) hg.below.size
                      have row4 := Hrow.out.below hg.below
                      clear hg
                      by_cases hlt2 : j < D.length
                      · obtain ⟨d, hd⟩ : ∃ d, D[j]? = some d := ⟨_, List.getElem?_eq_getElem hlt2⟩
                        obtain ⟨g, vc2, h1, _, _⟩ := row_some row4 (by omega)
                        simp only [Value.slice.injEq, true_and] at h1
                        obtain ⟨rfl, rfl⟩ := h1
                        obtain ⟨f0, f1, f2, f3⟩ := row4.cells j d hd
                        have hdk := (HleD.out d (List.mem_of_getElem? hd)).1
                        obtain ⟨dn, dg, dow, dk⟩ := d
                        simp only at f0 f1 f2 f3 hdk
                        have hji : (j : Int) < (D.length : Int) := by omega
                        have hj0 : (0 : Int) ≤ (j : Int) := by omega
                        have hnext := Lib.hid (fun o => Hg.out.alloc o)
                        have hdf : decide (x2 < dk) = false := by simp; omega
                        clear hd row4
                        go_wp2_with fail
                        go_roundw
                        case rel => exact ⟨j + 1, by omega, by go_num, hnext.out _⟩
                        case measure => simp [intOf]; omega
                      · obtain rfl : j = D.length := by omega
                        clear row4
                        go_wp2_with fail
                        go_roundw
                        case rel => exact ⟨k + 1, _, _, P, L, by omega, by go_num, hnx.out.grow0 Hg.out.below⟩
                        case measure => simp [intOf]; omega
                · have q0 : (x0 == 0) = false := by simp [hx0]
                  have q1 : (x0 == 1) = false := by simp [hx1]
                  have q2 : (x0 == 2) = false := by simp [hx2]
                  have q3 : (x0 == 3) = false := by simp [hx3]
                  go_wp2_with fail
                  go_roundw
                  case rel => exact ⟨k + 1, S, gs, P, L, by omega, by go_num, HR.out.grow HbA.out⟩
                  case measure => simp [intOf]; omega
      · obtain rfl : k = len := by omega
        have hS60 : S.length ≤ 60 := by have := HR.out.len; omega
        have hP60 : P ≤ 60 := by have := HR.out.hP; omega
        have T0 := Lib.hid (HR.out.T.less (G' := NoH) (fun k h => h.elim))
        clear hr HR R
        have hcase : one < two ∨ one = two ∨ two < one := by omega
        rcases hcase with hle | hle | hle
        · generalize one = lo at *
          generalize two = hi at *
          by_cases hnv : hi = never
          · have hex := Lib.hid (texpire_never T0.out)
            subst hnv
            unfold pt never at *
            go_wp2_with (go_at_call 31; refine hex.out.mono ?_; rintro e w2 ⟨rfl, g2⟩)
            have hT2 := Lib.hid (T0.out.grown g2.below)
            have hkn := Lib.hid (tknown_any w2 (hT.below hT2.out.below hT.lt))
            clear g2
            go_wp2_with (go_at_call 17; refine hkn.out.mono ?_; rintro e w3 ⟨rfl, h3⟩)
            go_ret
            exact ⟨rfl, hT2.out.below.trans (h3.mono hT2.out.below.size)⟩
          · have q : (hi == 18446744073709551615) = false := by simpa [never] using hnv
            have hcp := Lib.hid (tcopy_in T0.out)
            have hln : lo ≠ never := by intro q; unfold never at *; omega
            have htw := Lib.hid (two_ways (gs := gs) (S := S) (Int.le_of_lt hle) (by unfold never at hnv; omega) T0.out.nodup)
            have e2 := Lib.hid (expS_two S.length lo hi S gs rfl (Int.le_of_lt hle)).2
            unfold pt at *
            go_wp2_with (go_at_call 32; fail)
            refine hcp.out.mono ?_
            rintro e w2 ⟨c, rfl, hbc, C2⟩
            have D2 := duo_of_copy T0.out hbc C2
            have hx1 := Lib.hid (texpire_duo D2 lo hln (by omega))
            have hb12 : S.length ≤ 60 := hS60
            have hs2 := C2.below.size
            clear hcp D2 C2 hbc
            unfold pt at *
            go_wp2_with (go_at_call 31; fail)
            refine hx1.out.mono ?_
            rintro e w3 ⟨v1, rfl, row1, D3, _, hnil1⟩
            have hx2 := Lib.hid (texpire_duo D3.swap hi hnv (by omega))
            have HR1 := Lib.hid row1
            have hA3 := Lib.hid (fun g hg => (row1.lt g hg).2)
            obtain ⟨va1, vc1, hv1⟩ := slice_form row1
            clear row1 D3 hx1
            subst hv1
            unfold pt at *
            go_wp2_with (go_at_call 31; fail)
            refine hx2.out.mono ?_
            rintro e w4 ⟨v2, rfl, row2, D4, K4, hnil2⟩
            have HR2 := Lib.hid row2
            have HR1' := Lib.hid (HR1.out.keep (fun g hg => K4 g (.inr hg)))
            obtain ⟨va2, vc2, hv2⟩ := slice_form row2
            have hs34 := Lib.hid D4.lt
            have hnx := Lib.hid (tnext_in D4.swap.left)
            have HD4 := Lib.hid D4
            clear row2 D4 K4 hx2
            subst hv2
            unfold pt at *
            go_wp2_with (go_at_call 22; fail)
            refine hnx.out.mono ?_
            rintro e w5 ⟨rfl, g5⟩
            have D5 := HD4.out.swap.grown g5.below
            have hx3 := Lib.hid (texpire_duo D5 hi hnv (by omega))
            have HR2b := Lib.hid (HR2.out.below g5.below)
            have HR1b := Lib.hid (HR1'.out.below g5.below)
            have hn1 := htw.out.n1
            clear D5 g5 hnx
            unfold pt at *
            go_wp2_with (go_at_call 31; fail)
            refine hx3.out.mono ?_
            rintro e w6 ⟨v3, rfl, row3, D6, K6, hnil3⟩
            have HR2c := Lib.hid (HR2b.out.keep (fun g hg => K6 g (.inr hg)))
            have HR1c := Lib.hid (HR1b.out.keep (fun g hg => K6 g (.inl (.inr hg))))
            have hsb := Lib.hid e2.out
            have hnx2 := Lib.hid (tnext_in D6.left)
            have HD6 := Lib.hid D6
            have Hrow3 := Lib.hid row3
            have Hnil3 := Lib.hid hnil3
            clear row3 D6 K6 hx3 hnil3 hnil1 hnil2 HR2 HR1 HR1' HR2b HR1b HD4 hs34
            unfold pt at *
            go_wp2_with (go_at_call 22; fail)
            refine hnx2.out.mono ?_
            rintro e w7 ⟨rfl, g7⟩
            have hn2 := htw.out.n2
            rw [hsb.out] at hn2
            have D7 := HD6.out.grown g7.below
            have hl1 := tlen_in D7.left
            have hl2 := tlen_in D7.swap.left
            rw [hsb.out] at hl2
            have Hl1 := Lib.hid hl1
            have Hl2 := Lib.hid hl2
            have HD7 := Lib.hid D7
            have D7below := D7.below
            have HA := Lib.hid (HR1c.out.below g7.below)
            have HALL := Lib.hid (HR2c.out.below g7.below)
            have HB := Lib.hid (Hrow3.out.below g7.below)
            have D7b := Lib.hid D7below
            clear hl1 hl2 D7 D7below g7 hsb hnx2 HR1c HR2c Hrow3
            unfold pt at *
            go_wp2_with (go_at_call 20; fail)
            refine Hl1.out.mono ?_
            rintro e w8 ⟨rfl, rfl⟩
            go_wp2_with (go_at_call 20; fail)
            refine Hl2.out.mono ?_
            rintro e w8 ⟨rfl, rfl⟩
            have hall := Lib.hid htw.out.all
            have hsrt := Lib.hid htw.out.sorted
            have hAl := htw.out.len
            have hBl := D7b
            clear htw e2 hn1 hn2 Hl1 Hl2
            generalize (expS lo S gs).1 = A at *
            generalize (expS hi (expS lo S gs).2.1 (expS lo S gs).2.2).1 = B at *
            generalize (expS hi S gs).1 = ALL at *
            generalize (expS hi (expS lo S gs).2.1 (expS lo S gs).2.2).2.1.length = nl at *
            obtain ⟨i1, hi1, hy0, hy1, hy2⟩ := info_parts infoDue
            have hABl : A.length + B.length ≤ 60 := by have := congrArg List.length hall.out; simp only [List.length_append] at this; omega
            by_cases hBn : B = []
            · have hv3 := Hnil3.out hBn
              subst hv3
              have hAA : Hid (ALL = A) := Lib.hid (by rw [hall.out, hBn, List.append_nil])
              clear hBn
              go_wp2_with (at_builtin; refine wpList_unguard rfl ?_; refine wpList_append_own_none rfl _ _ 77 rfl w2.heap.size 82 i1 4 Tryd.underlying77 hi1 (.slice va1 A.length vc1) A.length (cellsD A) rfl HA.out rfl ?_)
              have hA' : RowD w7 0 (.slice va1 A.length vc1) ALL := by
                have := HA.out.mono (Nat.zero_le _)
                rw [hAA.out]
                exact this
              have hsame := Lib.hid (tsame_any hA' (HALL.out.mono (Nat.zero_le _)) (by omega))
              have hA0 := Lib.hid (HALL.out.mono (Nat.zero_le _))
              clear hA' HA HALL HB
              refine hsame.out.mono ?_
              rintro e w8 ⟨rfl, n8, rfl⟩
              have hRow := Lib.hid ((Fr.of_below ((fr_drewN w7 n8 []).below (fun _ hx => by simp at hx) (Nat.le_refl _)) []).row hA0.out (fun _ _ => by simp) : RowD (w7.drewN n8) 0 (.slice va2 ALL.length vc2) ALL)
              have hBw := Lib.hid ((hBl.out.trans ((fr_drewN w7 n8 []).below (fun _ hx => by simp at hx) hBl.out.size)) : Below w.heap.size w (w7.drewN n8))
              clear hA0
              generalize w7.drewN n8 = W at *
              have hkn := Lib.hid (fun n => tknown_any (W.drewN n) (hT.below (hBw.out.trans ((fr_drewN W n []).below (fun _ hx => by simp at hx) hBw.out.size)) hT.lt))
              go_wp2_with fail
              go_loopw [21] (fun v wr2 => ∃ m n : Nat, (m = 0 ∨ m + 1 ≤ ALL.length) ∧ v = .int .i64 ((m : Int) + 1) ∧ wr2 = W.drewN n) (fun v _ => ALL.length + 1 - (intOf v).toNat)
              case atStart => exact ⟨0, 0, .inl rfl, rfl, rfl⟩
              case round =>
                obtain ⟨m, n', hm, rfl, rfl⟩ := hrel
                by_cases hlt3 : m + 1 < ALL.length
                · obtain ⟨e0, he0⟩ : ∃ e0, ALL[m]? = some e0 := ⟨_, List.getElem?_eq_getElem (by omega)⟩
                  obtain ⟨e1, he1⟩ : ∃ e1, ALL[m + 1]? = some e1 := ⟨_, List.getElem?_eq_getElem hlt3⟩
                  have hk1 : e0.k ≤ e1.k := by
                    obtain ⟨l0, q0⟩ := List.getElem?_eq_some_iff.1 he0
                    obtain ⟨l1, q1⟩ := List.getElem?_eq_some_iff.1 he1
                    have := List.pairwise_iff_getElem.1 hsrt.out m (m + 1) l0 l1 (by omega)
                    rwa [q0, q1] at this
                  obtain ⟨g, vc9, h1, _, _⟩ := row_some hRow.out (by omega)
                  simp only [Value.slice.injEq, true_and] at h1
                  obtain ⟨rfl, rfl⟩ := h1
                  obtain ⟨_, _, _, f0⟩ := RowD.cells hRow.out m e0 he0
                  obtain ⟨_, _, _, f1⟩ := RowD.cells hRow.out (m + 1) e1 he1
                  obtain ⟨_, _, _, k0⟩ := e0
                  obtain ⟨_, _, _, k1⟩ := e1
                  simp only at f0 f1 hk1
                  have hq : decide (k1 < k0) = false := by simp; omega
                  have hmi : (m : Int) + 1 < (ALL.length : Int) := by omega
                  have hm0 : (0 : Int) ≤ (m : Int) := by omega
                  have hAi : (ALL.length : Int) ≤ 60 := by omega
                  clear he0 he1
                  go_wp2_with fail
                  go_quiet (fail)
                  go_wp2_with fail
                  go_roundw
                  case rel => exact ⟨m + 1, _, .inr (by omega), by go_num, rfl⟩
                  case measure => simp [intOf]; omega
                · have hmi : (ALL.length : Int) ≤ (m : Int) + 1 := by omega
                  go_wp2_with (go_at_call 17; refine (hkn.out _).mono ?_; rintro e w9 ⟨rfl, h9⟩)
                  go_ret
                  exact ⟨rfl, (hBw.out.trans ((fr_drewN W n' []).below (fun _ hx => by simp at hx) hBw.out.size)).trans (h9.mono (Nat.le_trans hBw.out.size (Nat.le_refl _)))⟩
            · have hBp : 0 < B.length := by
                cases B with
                | nil => exact absurd rfl hBn
                | cons _ _ => simp
              obtain ⟨g3, vc3, hv3, _, _⟩ := row_some HB.out hBp
              subst hv3
              have hA0 := Lib.hid (HA.out.mono (Nat.zero_le _))
              have hBc := Lib.hid (row_cells HB.out)
              clear hBn
              go_wp2_with (at_builtin; refine wpList_unguard rfl ?_; refine wpList_append_row _ rfl _ _ 77 rfl 82 i1 (.agg #[.int .i64 0, .int .i64 0, .int .i64 0, .int .u64 0]) 4 32 Tryd.underlying77 hi1 hy0 hy1 hy2 rfl (by decide) 0 (.slice va1 A.length vc1) A.length (cellsD A) rfl hA0.out (Nat.zero_le _) ⟨g3, 0, none⟩ B.length vc3 (cellsD B) rfl (cellsD_len B) ?c1 (cellsD_one B) ?c6 ?c3 ?c4 ?_)
              case c1 => exact hBc.out
              case c6 => exact hBp
              case c3 => unfold maxLen; omega
              case c4 => omega
              intro v' w8 hown hf hnear
              have hAB : RowD w8 0 v' ALL := by
                unfold RowD
                rw [hall.out, cellsD_append, List.length_append]
                exact hown
              have hALL8 : RowD w8 0 (.slice va2 ALL.length vc2) ALL := hf.row (HALL.out.mono (Nat.zero_le _)) (fun g hg hm => by
                have h1 := hA3.out g (by simpa using hm)
                have h2 := (HALL.out.lt g hg).1
                omega)
              have hB8 : Below w.heap.size w w8 := hBl.out.trans (hf.below (fun x hx => by
                have := (HA.out.lt x (by simpa using hx)).1
                omega) hBl.out.size)
              obtain ⟨va', vc', hv'⟩ := slice_form hown
              subst hv'
              have hsame := Lib.hid (tsame_any hAB hALL8 (by omega))
              have hA0 := Lib.hid hALL8
              have hB8' := Lib.hid hB8
              clear hAB hALL8 hB8 hown hf hnear HA HALL HB hA3
              go_wp2_with (go_at_call 33; fail)
              refine hsame.out.mono ?_
              rintro e w9 ⟨rfl, n8, rfl⟩
              have hRow := Lib.hid ((Fr.of_below ((fr_drewN w8 n8 []).below (fun _ hx => by simp at hx) (Nat.le_refl _)) []).row hA0.out (fun _ _ => by simp) : RowD (w8.drewN n8) 0 (.slice va2 ALL.length vc2) ALL)
              have hBw := Lib.hid ((hB8'.out.trans ((fr_drewN w8 n8 []).below (fun _ hx => by simp at hx) hB8'.out.size)) : Below w.heap.size w (w8.drewN n8))
              clear hA0
              generalize w8.drewN n8 = W at *
              have hkn := Lib.hid (fun n => tknown_any (W.drewN n) (hT.below (hBw.out.trans ((fr_drewN W n []).below (fun _ hx => by simp at hx) hBw.out.size)) hT.lt))
              go_wp2_with fail
              go_loopw [21] (fun v wr2 => ∃ m n : Nat, (m = 0 ∨ m + 1 ≤ ALL.length) ∧ v = .int .i64 ((m : Int) + 1) ∧ wr2 = W.drewN n) (fun v _ => ALL.length + 1 - (intOf v).toNat)
              case atStart => exact ⟨0, 0, .inl rfl, rfl, rfl⟩
              case round =>
                obtain ⟨m, n', hm, rfl, rfl⟩ := hrel
                by_cases hlt3 : m + 1 < ALL.length
                · obtain ⟨e0, he0⟩ : ∃ e0, ALL[m]? = some e0 := ⟨_, List.getElem?_eq_getElem (by omega)⟩
                  obtain ⟨e1, he1⟩ : ∃ e1, ALL[m + 1]? = some e1 := ⟨_, List.getElem?_eq_getElem hlt3⟩
                  have hk1 : e0.k ≤ e1.k := by
                    obtain ⟨l0, q0⟩ := List.getElem?_eq_some_iff.1 he0
                    obtain ⟨l1, q1⟩ := List.getElem?_eq_some_iff.1 he1
                    have := List.pairwise_iff_getElem.1 hsrt.out m (m + 1) l0 l1 (by omega)
                    rwa [q0, q1] at this
                  obtain ⟨g, vc9, h1, _, _⟩ := row_some hRow.out (by omega)
                  simp only [Value.slice.injEq, true_and] at h1
                  obtain ⟨rfl, rfl⟩ := h1
                  obtain ⟨_, _, _, f0⟩ := RowD.cells hRow.out m e0 he0
                  obtain ⟨_, _, _, f1⟩ := RowD.cells hRow.out (m + 1) e1 he1
                  obtain ⟨_, _, _, k0⟩ := e0
                  obtain ⟨_, _, _, k1⟩ := e1
                  simp only at f0 f1 hk1
                  have hq : decide (k1 < k0) = false := by simp; omega
                  have hmi : (m : Int) + 1 < (ALL.length : Int) := by omega
                  have hm0 : (0 : Int) ≤ (m : Int) := by omega
                  have hAi : (ALL.length : Int) ≤ 60 := by omega
                  clear he0 he1
                  go_wp2_with fail
                  go_quiet (fail)
                  go_wp2_with fail
                  go_roundw
                  case rel => exact ⟨m + 1, _, .inr (by omega), by go_num, rfl⟩
                  case measure => simp [intOf]; omega
                · have hmi : (ALL.length : Int) ≤ (m : Int) + 1 := by omega
                  go_wp2_with (go_at_call 17; refine (hkn.out _).mono ?_; rintro e w9 ⟨rfl, h9⟩)
                  go_ret
                  exact ⟨rfl, (hBw.out.trans ((fr_drewN W n' []).below (fun _ hx => by simp at hx) hBw.out.size)).trans (h9.mono (Nat.le_trans hBw.out.size (Nat.le_refl _)))⟩
        · subst hle
          generalize one = lo at *
          by_cases hnv : lo = never
          · have hex := Lib.hid (texpire_never T0.out)
            subst hnv
            unfold pt never at *
            go_wp2_with (go_at_call 31; refine hex.out.mono ?_; rintro e w2 ⟨rfl, g2⟩)
            have hT2 := Lib.hid (T0.out.grown g2.below)
            have hkn := Lib.hid (tknown_any w2 (hT.below hT2.out.below hT.lt))
            clear g2
            go_wp2_with (go_at_call 17; refine hkn.out.mono ?_; rintro e w3 ⟨rfl, h3⟩)
            go_ret
            exact ⟨rfl, hT2.out.below.trans (h3.mono hT2.out.below.size)⟩
          · have q : (lo == 18446744073709551615) = false := by simpa [never] using hnv
            have hcp := Lib.hid (tcopy_in T0.out)
            have hln : lo ≠ never := by intro q; unfold never at *; omega
            have htw := Lib.hid (two_ways (gs := gs) (S := S) (Int.le_refl lo) (by unfold never at hnv; omega) T0.out.nodup)
            have e2 := Lib.hid (expS_two S.length lo lo S gs rfl (Int.le_refl lo)).2
            unfold pt at *
            go_wp2_with (go_at_call 32; fail)
            refine hcp.out.mono ?_
            rintro e w2 ⟨c, rfl, hbc, C2⟩
            have D2 := duo_of_copy T0.out hbc C2
            have hx1 := Lib.hid (texpire_duo D2 lo hln (by omega))
            have hb12 : S.length ≤ 60 := hS60
            have hs2 := C2.below.size
            clear hcp D2 C2 hbc
            unfold pt at *
            go_wp2_with (go_at_call 31; fail)
            refine hx1.out.mono ?_
            rintro e w3 ⟨v1, rfl, row1, D3, _, hnil1⟩
            have hx2 := Lib.hid (texpire_duo D3.swap lo hnv (by omega))
            have HR1 := Lib.hid row1
            have hA3 := Lib.hid (fun g hg => (row1.lt g hg).2)
            obtain ⟨va1, vc1, hv1⟩ := slice_form row1
            clear row1 D3 hx1
            subst hv1
            unfold pt at *
            go_wp2_with (go_at_call 31; fail)
            refine hx2.out.mono ?_
            rintro e w4 ⟨v2, rfl, row2, D4, K4, hnil2⟩
            have HR2 := Lib.hid row2
            have HR1' := Lib.hid (HR1.out.keep (fun g hg => K4 g (.inr hg)))
            obtain ⟨va2, vc2, hv2⟩ := slice_form row2
            have hs34 := Lib.hid D4.lt
            have hnx := Lib.hid (tnext_in D4.swap.left)
            have HD4 := Lib.hid D4
            clear row2 D4 K4 hx2
            subst hv2
            unfold pt at *
            go_wp2_with (go_at_call 22; fail)
            refine hnx.out.mono ?_
            rintro e w5 ⟨rfl, g5⟩
            have D5 := HD4.out.swap.grown g5.below
            have hx3 := Lib.hid (texpire_duo D5 lo hnv (by omega))
            have HR2b := Lib.hid (HR2.out.below g5.below)
            have HR1b := Lib.hid (HR1'.out.below g5.below)
            have hn1 := htw.out.n1
            clear D5 g5 hnx
            unfold pt at *
            go_wp2_with (go_at_call 31; fail)
            refine hx3.out.mono ?_
            rintro e w6 ⟨v3, rfl, row3, D6, K6, hnil3⟩
            have HR2c := Lib.hid (HR2b.out.keep (fun g hg => K6 g (.inr hg)))
            have HR1c := Lib.hid (HR1b.out.keep (fun g hg => K6 g (.inl (.inr hg))))
            have hsb := Lib.hid e2.out
            have hnx2 := Lib.hid (tnext_in D6.left)
            have HD6 := Lib.hid D6
            have Hrow3 := Lib.hid row3
            have Hnil3 := Lib.hid hnil3
            clear row3 D6 K6 hx3 hnil3 hnil1 hnil2 HR2 HR1 HR1' HR2b HR1b HD4 hs34
            unfold pt at *
            go_wp2_with (go_at_call 22; fail)
            refine hnx2.out.mono ?_
            rintro e w7 ⟨rfl, g7⟩
            have hn2 := htw.out.n2
            rw [hsb.out] at hn2
            have D7 := HD6.out.grown g7.below
            have hl1 := tlen_in D7.left
            have hl2 := tlen_in D7.swap.left
            rw [hsb.out] at hl2
            have Hl1 := Lib.hid hl1
            have Hl2 := Lib.hid hl2
            have HD7 := Lib.hid D7
            have D7below := D7.below
            have HA := Lib.hid (HR1c.out.below g7.below)
            have HALL := Lib.hid (HR2c.out.below g7.below)
            have HB := Lib.hid (Hrow3.out.below g7.below)
            have D7b := Lib.hid D7below
            clear hl1 hl2 D7 D7below g7 hsb hnx2 HR1c HR2c Hrow3
            unfold pt at *
            go_wp2_with (go_at_call 20; fail)
            refine Hl1.out.mono ?_
            rintro e w8 ⟨rfl, rfl⟩
            go_wp2_with (go_at_call 20; fail)
            refine Hl2.out.mono ?_
            rintro e w8 ⟨rfl, rfl⟩
            have hall := Lib.hid htw.out.all
            have hsrt := Lib.hid htw.out.sorted
            have hAl := htw.out.len
            have hBl := D7b
            clear htw e2 hn1 hn2 Hl1 Hl2
            generalize (expS lo S gs).1 = A at *
            generalize (expS lo (expS lo S gs).2.1 (expS lo S gs).2.2).1 = B at *
            generalize (expS lo (expS lo S gs).2.1 (expS lo S gs).2.2).2.1.length = nl at *
            obtain ⟨i1, hi1, hy0, hy1, hy2⟩ := info_parts infoDue
            have hABl : A.length + B.length ≤ 60 := by have := congrArg List.length hall.out; simp only [List.length_append] at this; omega
            by_cases hBn : B = []
            · have hv3 := Hnil3.out hBn
              subst hv3
              have hAA : Hid (A = A) := Lib.hid rfl
              clear hBn
              go_wp2_with (at_builtin; refine wpList_unguard rfl ?_; refine wpList_append_own_none rfl _ _ 77 rfl w2.heap.size 82 i1 4 Tryd.underlying77 hi1 (.slice va1 A.length vc1) A.length (cellsD A) rfl HA.out rfl ?_)
              have hA' : RowD w7 0 (.slice va1 A.length vc1) A := by
                have := HA.out.mono (Nat.zero_le _)
                exact this
              have hsame := Lib.hid (tsame_any hA' (HALL.out.mono (Nat.zero_le _)) (by omega))
              have hA0 := Lib.hid (HALL.out.mono (Nat.zero_le _))
              clear hA' HA HALL HB
              refine hsame.out.mono ?_
              rintro e w8 ⟨rfl, n8, rfl⟩
              have hRow := Lib.hid ((Fr.of_below ((fr_drewN w7 n8 []).below (fun _ hx => by simp at hx) (Nat.le_refl _)) []).row hA0.out (fun _ _ => by simp) : RowD (w7.drewN n8) 0 (.slice va2 A.length vc2) A)
              have hBw := Lib.hid ((hBl.out.trans ((fr_drewN w7 n8 []).below (fun _ hx => by simp at hx) hBl.out.size)) : Below w.heap.size w (w7.drewN n8))
              clear hA0
              generalize w7.drewN n8 = W at *
              have hkn := Lib.hid (fun n => tknown_any (W.drewN n) (hT.below (hBw.out.trans ((fr_drewN W n []).below (fun _ hx => by simp at hx) hBw.out.size)) hT.lt))
              go_wp2_with fail
              go_loopw [21] (fun v wr2 => ∃ m n : Nat, (m = 0 ∨ m + 1 ≤ A.length) ∧ v = .int .i64 ((m : Int) + 1) ∧ wr2 = W.drewN n) (fun v _ => A.length + 1 - (intOf v).toNat)
              case atStart => exact ⟨0, 0, .inl rfl, rfl, rfl⟩
              case round =>
                obtain ⟨m, n', hm, rfl, rfl⟩ := hrel
                by_cases hlt3 : m + 1 < A.length
                · obtain ⟨e0, he0⟩ : ∃ e0, A[m]? = some e0 := ⟨_, List.getElem?_eq_getElem (by omega)⟩
                  obtain ⟨e1, he1⟩ : ∃ e1, A[m + 1]? = some e1 := ⟨_, List.getElem?_eq_getElem hlt3⟩
                  have hk1 : e0.k ≤ e1.k := by
                    obtain ⟨l0, q0⟩ := List.getElem?_eq_some_iff.1 he0
                    obtain ⟨l1, q1⟩ := List.getElem?_eq_some_iff.1 he1
                    have := List.pairwise_iff_getElem.1 hsrt.out m (m + 1) l0 l1 (by omega)
                    rwa [q0, q1] at this
                  obtain ⟨g, vc9, h1, _, _⟩ := row_some hRow.out (by omega)
                  simp only [Value.slice.injEq, true_and] at h1
                  obtain ⟨rfl, rfl⟩ := h1
                  obtain ⟨_, _, _, f0⟩ := RowD.cells hRow.out m e0 he0
                  obtain ⟨_, _, _, f1⟩ := RowD.cells hRow.out (m + 1) e1 he1
                  obtain ⟨_, _, _, k0⟩ := e0
                  obtain ⟨_, _, _, k1⟩ := e1
                  simp only at f0 f1 hk1
                  have hq : decide (k1 < k0) = false := by simp; omega
                  have hmi : (m : Int) + 1 < (A.length : Int) := by omega
                  have hm0 : (0 : Int) ≤ (m : Int) := by omega
                  have hAi : (A.length : Int) ≤ 60 := by omega
                  clear he0 he1
                  go_wp2_with fail
                  go_quiet (fail)
                  go_wp2_with fail
                  go_roundw
                  case rel => exact ⟨m + 1, _, .inr (by omega), by go_num, rfl⟩
                  case measure => simp [intOf]; omega
                · have hmi : (A.length : Int) ≤ (m : Int) + 1 := by omega
                  go_wp2_with (go_at_call 17; refine (hkn.out _).mono ?_; rintro e w9 ⟨rfl, h9⟩)
                  go_ret
                  exact ⟨rfl, (hBw.out.trans ((fr_drewN W n' []).below (fun _ hx => by simp at hx) hBw.out.size)).trans (h9.mono (Nat.le_trans hBw.out.size (Nat.le_refl _)))⟩
            · exact absurd (List.eq_nil_of_length_eq_zero (by have := congrArg List.length hall.out; simp only [List.length_append] at this; omega)) hBn
        · generalize two = lo at *
          generalize one = hi at *
          by_cases hnv : hi = never
          · have hex := Lib.hid (texpire_never T0.out)
            subst hnv
            unfold pt never at *
            go_wp2_with (go_at_call 31; refine hex.out.mono ?_; rintro e w2 ⟨rfl, g2⟩)
            have hT2 := Lib.hid (T0.out.grown g2.below)
            have hkn := Lib.hid (tknown_any w2 (hT.below hT2.out.below hT.lt))
            clear g2
            go_wp2_with (go_at_call 17; refine hkn.out.mono ?_; rintro e w3 ⟨rfl, h3⟩)
            go_ret
            exact ⟨rfl, hT2.out.below.trans (h3.mono hT2.out.below.size)⟩
          · have q : (hi == 18446744073709551615) = false := by simpa [never] using hnv
            have hcp := Lib.hid (tcopy_in T0.out)
            have hln : lo ≠ never := by intro q; unfold never at *; omega
            have htw := Lib.hid (two_ways (gs := gs) (S := S) (Int.le_of_lt hle) (by unfold never at hnv; omega) T0.out.nodup)
            have e2 := Lib.hid (expS_two S.length lo hi S gs rfl (Int.le_of_lt hle)).2
            unfold pt at *
            go_wp2_with (go_at_call 32; fail)
            refine hcp.out.mono ?_
            rintro e w2 ⟨c, rfl, hbc, C2⟩
            have D2 := duo_of_copy T0.out hbc C2
            have hx1 := Lib.hid (texpire_duo D2 lo hln (by omega))
            have hb12 : S.length ≤ 60 := hS60
            have hs2 := C2.below.size
            clear hcp D2 C2 hbc
            unfold pt at *
            go_wp2_with (go_at_call 31; fail)
            refine hx1.out.mono ?_
            rintro e w3 ⟨v1, rfl, row1, D3, _, hnil1⟩
            have hx2 := Lib.hid (texpire_duo D3.swap hi hnv (by omega))
            have HR1 := Lib.hid row1
            have hA3 := Lib.hid (fun g hg => (row1.lt g hg).2)
            obtain ⟨va1, vc1, hv1⟩ := slice_form row1
            clear row1 D3 hx1
            subst hv1
            unfold pt at *
            go_wp2_with (go_at_call 31; fail)
            refine hx2.out.mono ?_
            rintro e w4 ⟨v2, rfl, row2, D4, K4, hnil2⟩
            have HR2 := Lib.hid row2
            have HR1' := Lib.hid (HR1.out.keep (fun g hg => K4 g (.inr hg)))
            obtain ⟨va2, vc2, hv2⟩ := slice_form row2
            have hs34 := Lib.hid D4.lt
            have hnx := Lib.hid (tnext_in D4.swap.left)
            have HD4 := Lib.hid D4
            clear row2 D4 K4 hx2
            subst hv2
            unfold pt at *
            go_wp2_with (go_at_call 22; fail)
            refine hnx.out.mono ?_
            rintro e w5 ⟨rfl, g5⟩
            have D5 := HD4.out.swap.grown g5.below
            have hx3 := Lib.hid (texpire_duo D5 hi hnv (by omega))
            have HR2b := Lib.hid (HR2.out.below g5.below)
            have HR1b := Lib.hid (HR1'.out.below g5.below)
            have hn1 := htw.out.n1
            clear D5 g5 hnx
            unfold pt at *
            go_wp2_with (go_at_call 31; fail)
            refine hx3.out.mono ?_
            rintro e w6 ⟨v3, rfl, row3, D6, K6, hnil3⟩
            have HR2c := Lib.hid (HR2b.out.keep (fun g hg => K6 g (.inr hg)))
            have HR1c := Lib.hid (HR1b.out.keep (fun g hg => K6 g (.inl (.inr hg))))
            have hsb := Lib.hid e2.out
            have hnx2 := Lib.hid (tnext_in D6.left)
            have HD6 := Lib.hid D6
            have Hrow3 := Lib.hid row3
            have Hnil3 := Lib.hid hnil3
            clear row3 D6 K6 hx3 hnil3 hnil1 hnil2 HR2 HR1 HR1' HR2b HR1b HD4 hs34
            unfold pt at *
            go_wp2_with (go_at_call 22; fail)
            refine hnx2.out.mono ?_
            rintro e w7 ⟨rfl, g7⟩
            have hn2 := htw.out.n2
            rw [hsb.out] at hn2
            have D7 := HD6.out.grown g7.below
            have hl1 := tlen_in D7.left
            have hl2 := tlen_in D7.swap.left
            rw [hsb.out] at hl2
            have Hl1 := Lib.hid hl1
            have Hl2 := Lib.hid hl2
            have HD7 := Lib.hid D7
            have D7below := D7.below
            have HA := Lib.hid (HR1c.out.below g7.below)
            have HALL := Lib.hid (HR2c.out.below g7.below)
            have HB := Lib.hid (Hrow3.out.below g7.below)
            have D7b := Lib.hid D7below
            clear hl1 hl2 D7 D7below g7 hsb hnx2 HR1c HR2c Hrow3
            unfold pt at *
            go_wp2_with (go_at_call 20; fail)
            refine Hl1.out.mono ?_
            rintro e w8 ⟨rfl, rfl⟩
            go_wp2_with (go_at_call 20; fail)
            refine Hl2.out.mono ?_
            rintro e w8 ⟨rfl, rfl⟩
            have hall := Lib.hid htw.out.all
            have hsrt := Lib.hid htw.out.sorted
            have hAl := htw.out.len
            have hBl := D7b
            clear htw e2 hn1 hn2 Hl1 Hl2
            generalize (expS lo S gs).1 = A at *
            generalize (expS hi (expS lo S gs).2.1 (expS lo S gs).2.2).1 = B at *
            generalize (expS hi S gs).1 = ALL at *
            generalize (expS hi (expS lo S gs).2.1 (expS lo S gs).2.2).2.1.length = nl at *
            obtain ⟨i1, hi1, hy0, hy1, hy2⟩ := info_parts infoDue
            have hABl : A.length + B.length ≤ 60 := by have := congrArg List.length hall.out; simp only [List.length_append] at this; omega
            by_cases hBn : B = []
            · have hv3 := Hnil3.out hBn
              subst hv3
              have hAA : Hid (ALL = A) := Lib.hid (by rw [hall.out, hBn, List.append_nil])
              clear hBn
              go_wp2_with (at_builtin; refine wpList_unguard rfl ?_; refine wpList_append_own_none rfl _ _ 77 rfl w2.heap.size 82 i1 4 Tryd.underlying77 hi1 (.slice va1 A.length vc1) A.length (cellsD A) rfl HA.out rfl ?_)
              have hA' : RowD w7 0 (.slice va1 A.length vc1) ALL := by
                have := HA.out.mono (Nat.zero_le _)
                rw [hAA.out]
                exact this
              have hsame := Lib.hid (tsame_any hA' (HALL.out.mono (Nat.zero_le _)) (by omega))
              have hA0 := Lib.hid (HALL.out.mono (Nat.zero_le _))
              clear hA' HA HALL HB
              refine hsame.out.mono ?_
              rintro e w8 ⟨rfl, n8, rfl⟩
              have hRow := Lib.hid ((Fr.of_below ((fr_drewN w7 n8 []).below (fun _ hx => by simp at hx) (Nat.le_refl _)) []).row hA0.out (fun _ _ => by simp) : RowD (w7.drewN n8) 0 (.slice va2 ALL.length vc2) ALL)
              have hBw := Lib.hid ((hBl.out.trans ((fr_drewN w7 n8 []).below (fun _ hx => by simp at hx) hBl.out.size)) : Below w.heap.size w (w7.drewN n8))
              clear hA0
              generalize w7.drewN n8 = W at *
              have hkn := Lib.hid (fun n => tknown_any (W.drewN n) (hT.below (hBw.out.trans ((fr_drewN W n []).below (fun _ hx => by simp at hx) hBw.out.size)) hT.lt))
              go_wp2_with fail
              go_loopw [21] (fun v wr2 => ∃ m n : Nat, (m = 0 ∨ m + 1 ≤ ALL.length) ∧ v = .int .i64 ((m : Int) + 1) ∧ wr2 = W.drewN n) (fun v _ => ALL.length + 1 - (intOf v).toNat)
              case atStart => exact ⟨0, 0, .inl rfl, rfl, rfl⟩
              case round =>
                obtain ⟨m, n', hm, rfl, rfl⟩ := hrel
                by_cases hlt3 : m + 1 < ALL.length
                · obtain ⟨e0, he0⟩ : ∃ e0, ALL[m]? = some e0 := ⟨_, List.getElem?_eq_getElem (by omega)⟩
                  obtain ⟨e1, he1⟩ : ∃ e1, ALL[m + 1]? = some e1 := ⟨_, List.getElem?_eq_getElem hlt3⟩
                  have hk1 : e0.k ≤ e1.k := by
                    obtain ⟨l0, q0⟩ := List.getElem?_eq_some_iff.1 he0
                    obtain ⟨l1, q1⟩ := List.getElem?_eq_some_iff.1 he1
                    have := List.pairwise_iff_getElem.1 hsrt.out m (m + 1) l0 l1 (by omega)
                    rwa [q0, q1] at this
                  obtain ⟨g, vc9, h1, _, _⟩ := row_some hRow.out (by omega)
                  simp only [Value.slice.injEq, true_and] at h1
                  obtain ⟨rfl, rfl⟩ := h1
                  obtain ⟨_, _, _, f0⟩ := RowD.cells hRow.out m e0 he0
                  obtain ⟨_, _, _, f1⟩ := RowD.cells hRow.out (m + 1) e1 he1
                  obtain ⟨_, _, _, k0⟩ := e0
                  obtain ⟨_, _, _, k1⟩ := e1
                  simp only at f0 f1 hk1
                  have hq : decide (k1 < k0) = false := by simp; omega
                  have hmi : (m : Int) + 1 < (ALL.length : Int) := by omega
                  have hm0 : (0 : Int) ≤ (m : Int) := by omega
                  have hAi : (ALL.length : Int) ≤ 60 := by omega
                  clear he0 he1
                  go_wp2_with fail
                  go_quiet (fail)
                  go_wp2_with fail
                  go_roundw
                  case rel => exact ⟨m + 1, _, .inr (by omega), by go_num, rfl⟩
                  case measure => simp [intOf]; omega
                · have hmi : (ALL.length : Int) ≤ (m : Int) + 1 := by omega
                  go_wp2_with (go_at_call 17; refine (hkn.out _).mono ?_; rintro e w9 ⟨rfl, h9⟩)
                  go_ret
                  exact ⟨rfl, (hBw.out.trans ((fr_drewN W n' []).below (fun _ hx => by simp at hx) hBw.out.size)).trans (h9.mono (Nat.le_trans hBw.out.size (Nat.le_refl _)))⟩
            · have hBp : 0 < B.length := by
                cases B with
                | nil => exact absurd rfl hBn
                | cons _ _ => simp
              obtain ⟨g3, vc3, hv3, _, _⟩ := row_some HB.out hBp
              subst hv3
              have hA0 := Lib.hid (HA.out.mono (Nat.zero_le _))
              have hBc := Lib.hid (row_cells HB.out)
              clear hBn
              go_wp2_with (at_builtin; refine wpList_unguard rfl ?_; refine wpList_append_row _ rfl _ _ 77 rfl 82 i1 (.agg #[.int .i64 0, .int .i64 0, .int .i64 0, .int .u64 0]) 4 32 Tryd.underlying77 hi1 hy0 hy1 hy2 rfl (by decide) 0 (.slice va1 A.length vc1) A.length (cellsD A) rfl hA0.out (Nat.zero_le _) ⟨g3, 0, none⟩ B.length vc3 (cellsD B) rfl (cellsD_len B) ?c1 (cellsD_one B) ?c6 ?c3 ?c4 ?_)
              case c1 => exact hBc.out
              case c6 => exact hBp
              case c3 => unfold maxLen; omega
              case c4 => omega
              intro v' w8 hown hf hnear
              have hAB : RowD w8 0 v' ALL := by
                unfold RowD
                rw [hall.out, cellsD_append, List.length_append]
                exact hown
              have hALL8 : RowD w8 0 (.slice va2 ALL.length vc2) ALL := hf.row (HALL.out.mono (Nat.zero_le _)) (fun g hg hm => by
                have h1 := hA3.out g (by simpa using hm)
                have h2 := (HALL.out.lt g hg).1
                omega)
              have hB8 : Below w.heap.size w w8 := hBl.out.trans (hf.below (fun x hx => by
                have := (HA.out.lt x (by simpa using hx)).1
                omega) hBl.out.size)
              obtain ⟨va', vc', hv'⟩ := slice_form hown
              subst hv'
              have hsame := Lib.hid (tsame_any hAB hALL8 (by omega))
              have hA0 := Lib.hid hALL8
              have hB8' := Lib.hid hB8
              clear hAB hALL8 hB8 hown hf hnear HA HALL HB hA3
              go_wp2_with (go_at_call 33; fail)
              refine hsame.out.mono ?_
              rintro e w9 ⟨rfl, n8, rfl⟩
              have hRow := Lib.hid ((Fr.of_below ((fr_drewN w8 n8 []).below (fun _ hx => by simp at hx) (Nat.le_refl _)) []).row hA0.out (fun _ _ => by simp) : RowD (w8.drewN n8) 0 (.slice va2 ALL.length vc2) ALL)
              have hBw := Lib.hid ((hB8'.out.trans ((fr_drewN w8 n8 []).below (fun _ hx => by simp at hx) hB8'.out.size)) : Below w.heap.size w (w8.drewN n8))
              clear hA0
              generalize w8.drewN n8 = W at *
              have hkn := Lib.hid (fun n => tknown_any (W.drewN n) (hT.below (hBw.out.trans ((fr_drewN W n []).below (fun _ hx => by simp at hx) hBw.out.size)) hT.lt))
              go_wp2_with fail
              go_loopw [21] (fun v wr2 => ∃ m n : Nat, (m = 0 ∨ m + 1 ≤ ALL.length) ∧ v = .int .i64 ((m : Int) + 1) ∧ wr2 = W.drewN n) (fun v _ => ALL.length + 1 - (intOf v).toNat)
              case atStart => exact ⟨0, 0, .inl rfl, rfl, rfl⟩
              case round =>
                obtain ⟨m, n', hm, rfl, rfl⟩ := hrel
                by_cases hlt3 : m + 1 < ALL.length
                · obtain ⟨e0, he0⟩ : ∃ e0, ALL[m]? = some e0 := ⟨_, List.getElem?_eq_getElem (by omega)⟩
                  obtain ⟨e1, he1⟩ : ∃ e1, ALL[m + 1]? = some e1 := ⟨_, List.getElem?_eq_getElem hlt3⟩
                  have hk1 : e0.k ≤ e1.k := by
                    obtain ⟨l0, q0⟩ := List.getElem?_eq_some_iff.1 he0
                    obtain ⟨l1, q1⟩ := List.getElem?_eq_some_iff.1 he1
                    have := List.pairwise_iff_getElem.1 hsrt.out m (m + 1) l0 l1 (by omega)
                    rwa [q0, q1] at this
                  obtain ⟨g, vc9, h1, _, _⟩ := row_some hRow.out (by omega)
                  simp only [Value.slice.injEq, true_and] at h1
                  obtain ⟨rfl, rfl⟩ := h1
                  obtain ⟨_, _, _, f0⟩ := RowD.cells hRow.out m e0 he0
                  obtain ⟨_, _, _, f1⟩ := RowD.cells hRow.out (m + 1) e1 he1
                  obtain ⟨_, _, _, k0⟩ := e0
                  obtain ⟨_, _, _, k1⟩ := e1
                  simp only at f0 f1 hk1
                  have hq : decide (k1 < k0) = false := by simp; omega
                  have hmi : (m : Int) + 1 < (ALL.length : Int) := by omega
                  have hm0 : (0 : Int) ≤ (m : Int) := by omega
                  have hAi : (ALL.length : Int) ≤ 60 := by omega
                  clear he0 he1
                  go_wp2_with fail
                  go_quiet (fail)
                  go_wp2_with fail
                  go_roundw
                  case rel => exact ⟨m + 1, _, .inr (by omega), by go_num, rfl⟩
                  case measure => simp [intOf]; omega
                · have hmi : (ALL.length : Int) ≤ (m : Int) + 1 := by omega
                  go_wp2_with (go_at_call 17; refine (hkn.out _).mono ?_; rintro e w9 ⟨rfl, h9⟩)
                  go_ret
                  exact ⟨rfl, (hBw.out.trans ((fr_drewN W n' []).below (fun _ hx => by simp at hx) hBw.out.size)).trans (h9.mono (Nat.le_trans hBw.out.size (Nat.le_refl _)))⟩
end Go.Proofs.YtijbhamjccnieaaDoor
