/- The walk of TimerResets. -/
import Derived.Test.YtijbhamjccnieaaDoorTConst
import Derived.OpenShut
namespace Go.Proofs.YtijbhamjccnieaaDoor
open Go.RowKit Go.Sort
set_option linter.unusedVariables false
set_option linter.unusedSimpArgs false

/-- What a walk is told of a slice of integers that came in. -/
def IsRow (k : IntKind) (w : World) (a : Option Addr) (len cap : Nat) (zs : List Int) : Prop :=
  (a = none ∧ len = 0 ∧ cap = 0 ∧ zs = []) ∨
  ∃ x, a = some x ∧ len ≤ cap ∧ cap ≤ maxLen ∧ zs.length = cap ∧ (∀ i, i < zs.length → w.cell? (x.add i) = some (.int k (zs.getD i 0))) ∧ ∀ n ∈ zs, (Lit.int k n).wf = true

theorem row_plain {w : World} {a : Option Addr} {len cap : Nat} {zs : List Int} (h : IsRow .u64 w a len cap zs) (h0 : 0 < len) : ∃ b off, a = some ⟨b, off, none⟩ ∧ b < w.heap.size ∧ ∀ i, i < len → w.cell? ⟨b, off + i, none⟩ = some (.int .u64 (zs.getD i 0)) := by
  rcases h with ⟨rfl, rfl, rfl, rfl⟩ | ⟨x, rfl, hl, hm, hz, hcell, hwz⟩
  · omega
  · obtain ⟨b, off, spot⟩ := x
    have hc := hcell 0 (by omega)
    have hspot : spot = none := by simpa [Addr.add] using World.cell?_spot hc
    subst hspot
    refine ⟨b, off, rfl, World.block_lt_of_cell? w _ hc, fun i hi => ?_⟩
    have := hcell i (by omega)
    rwa [Go.WideShapes.add_plain] at this

def NoG : Nat → Prop := fun _ => False

/-- Between two rounds of the first loop. -/
structure ResR (w wr : World) (a : Nat) (at' : Int) (v : Value) (S : List El) (P k : Nat) : Prop where
  T : TmIn w (GV NoG v) wr a S (zerosG S.length) P
  row : RowD wr w.heap.size v (wantD at' S)
  hs : ResS S S.length
  len : S.length ≤ k
  hP : P ≤ k

structure Res2 (w wr : World) (a : Nat) (at' : Int) (v : Value) (S : List El) (m P j : Nat) : Prop where
  T : TmIn w (GV NoG v) wr a S (zerosG m) P
  row : RowD wr w.heap.size v (wantD at' S)
  hs : ResS S m
  done : ∀ (i : Nat) (e : El), S[i]? = some e → m - j ≤ i → e.k = at'

theorem Res2.next {w wr wr2 : World} {a : Nat} {at' : Int} {v : Value} {S : List El} {m P j : Nat} (R : Res2 w wr a at' v S m P j) (hj : j < m) (e : El) (he : e.h = m - 1 - j) (T : TmIn w (GV NoG v) wr2 a (changeS S e.h at') (zerosG m) P) (K : Keep (GV NoG v) wr wr2) : Res2 w wr2 a at' v (changeS S e.h at') m P (j + 1) := by
  refine ⟨T, by rw [wantD_change]; exact R.row.keep (fun g hg => K g (.inr hg)), R.hs.change _ _, fun i f hf hi => ?_⟩
  obtain ⟨f', hf', hh, _, h1, h2⟩ := change_get hf
  have hfi := R.hs.get hf'
  by_cases hq : f'.h = e.h
  · exact h1 hq
  · rw [h2 hq]
    exact R.done i f' hf' (by omega)
theorem expS_early {now : Int} {S : List El} {gs : List Nat} (h : ∀ e ∈ S, now < e.k) : expS now S gs = ([], S, gs) := by
  cases hf : fstE S with
  | none => exact expS_none hf
  | some e => exact expS_late hf (by have := h e (fstE_mem hf); omega)
theorem wantD_const {at' : Int} {S : List El} {m : Nat} (h : ∀ e ∈ S, e.k = at') : S.map (dueOf (zerosG m)) = wantD at' S := by
  unfold wantD
  refine List.map_congr_left (fun e he => ?_)
  unfold dueOf
  rw [zerosG_get, h e he]

theorem wantD_push (at' : Int) (S : List El) (k v : Int) : wantD at' (pushS S k v) = wantD at' S ++ [⟨lowOf (hsOf S), 0, v, at'⟩] := by unfold wantD pushS; rw [List.map_append]; rfl
theorem push_len (S : List El) (k v : Int) : (pushS S k v).length = S.length + 1 := by simp [pushS]

set_option maxRecDepth 100000 in
set_option maxHeartbeats 3200000 in
theorem timerResets_walk (sa : Option Addr) (len cap : Nat) (zs : List Int) (at' : Int) (w : World) (hr : IsRow .u64 w sa len cap zs) (ha : (Lit.int .u64 at').wf = true) (hT : Tab w) :
    Calls Tryd.prog 7 #[.slice sa len cap, .int .u64 at'] w fun e w' => e = .returned (.bool true) ∧ Below w.heap.size w w' := by
  obtain ⟨ha0, ha1⟩ := bounds_u64 ha
  clear ha
  by_cases hl : 60 < len
  · have hk := Lib.hid (tknown_any w hT)
    have hli : (60 : Int) < (len : Int) := by omega
    go_enter Tryd.func7, Tryd.ntmps7
    go_wp2_with (go_at_call 17; refine hk.out.mono ?_; rintro e w1 ⟨rfl, hb⟩)
    go_ret
    exact ⟨rfl, hb⟩
  by_cases hn : at' = never
  · have hk := Lib.hid (tknown_any w hT)
    have q : (at' == 18446744073709551615) = true := by simp [hn, never]
    have hli : decide ((60 : Int) < (len : Int)) = false := by simp; omega
    clear hn
    go_enter Tryd.func7, Tryd.ntmps7
    go_wp2_with (go_at_call 17; refine hk.out.mono ?_; rintro e w1 ⟨rfl, hb⟩)
    go_ret
    exact ⟨rfl, hb⟩
  · have q : (at' == 18446744073709551615) = false := by simpa [never] using hn
    have hli : decide ((60 : Int) < (len : Int)) = false := by simp; omega
    have hl60 : (len : Int) ≤ 60 := by omega
    have Hn := Lib.hid hn
    clear hn
    obtain ⟨i0, hi0, hz0, hz1, hz2⟩ := info_parts infoDue
    go_enter Tryd.func7, Tryd.ntmps7
    go_wp2_with (first | (go_at_call 18; fail))
    refine (tnew_in w w NoG (fun _ h => h.elim) (Below.refl _ _)).mono ?_
    rintro e w1 ⟨a, rfl, T1, hb1⟩
    have hst : Hid (ResR w w1 a at' (.slice none 0 0) [] 0 0) := Lib.hid ⟨T1.less (fun k h => by
      rcases h with h | h
      · exact h
      · simp [Value.ownBlock] at h), World.ownsRow_nil _ _ _ _, ⟨rfl⟩, Nat.le_refl _, Nat.le_refl _⟩
    clear T1 hb1
    unfold pt
    go_wp2_with fail
    go_loopw [6, 25] (fun v i wr => ∃ (k : Nat) (S : List El) (P : Nat), k ≤ len ∧ i = .int .i64 k ∧ ResR w wr a at' v S P k) (fun _ i _ => len - (intOf i).toNat)
    case atStart => exact ⟨0, [], 0, Nat.zero_le _, rfl, hst.out⟩
    case round =>
      clear hst
      obtain ⟨k, S, P, hk, rfl, R⟩ := hrel
      obtain ⟨va, vc, rfl⟩ := slice_form R.row
      have hD : (wantD at' S).length = S.length := by simp [wantD]
      rw [hD] at R ⊢
      have HD := Lib.hid hD
      clear hD
      have HR := Lib.hid R
      by_cases hlt : k < len
      · obtain ⟨b, off, rfl, hbl, hcs⟩ := row_plain hr (by omega)
        have hc : wr.cell? ⟨b, off + k, none⟩ = some (.int .u64 (zs.getD k 0)) := (R.T.below.cell (p := ⟨b, off + k, none⟩) hbl).trans (hcs k hlt)
        have hki : (k : Int) < (len : Int) := by omega
        have hk0 : (0 : Int) ≤ (k : Int) := by omega
        clear R hcs
        generalize zs.getD k 0 = x at *
        by_cases hx : x = never
        · subst hx
          have hset := Lib.hid (tset_never HR.out.T k)
          unfold pt never at *
          go_wp2_with (go_at_call 25; refine hset.out.mono ?_; rintro e w2 ⟨rfl, g2⟩)
          have hR2 : Hid (ResR w (w2.alloc (.cells #[.int .i64 0, .int .i64 0] 53)) a at' (.slice va S.length vc) S P (k + 1)) := Lib.hid ⟨HR.out.T.grown (g2.alloc _).below, HR.out.row.below (g2.alloc _).below, HR.out.hs, by have := HR.out.len; omega, by have := HR.out.hP; omega⟩
          go_roundw
          case rel => exact ⟨k + 1, S, P, by omega, by go_num, hR2.out⟩
          case measure => simp [intOf]; omega
        · have q2 : (x == 18446744073709551615) = false := by simpa [never] using hx
          have hset := tset_any HR.out.T x k hx (by have := HR.out.len; omega) hT (by have := HR.out.hP; omega)
          rw [HR.out.hs.hs, low_range', zerosG_get, zerosG_set] at hset
          have Hset := Lib.hid hset
          clear hset hx
          unfold pt at *
          go_wp2_with (go_at_call 25; fail)
          refine Hset.out.mono ?_
          rintro e w2 ⟨rfl, T2, K2⟩
          have hgW : Grn w2 (w2.alloc (.cells #[.int .i64 S.length, .int .i64 0] 53)) := (Grn.refl _).alloc _
          have T3 := T2.grown hgW.below
          have row3 : RowD (w2.alloc (.cells #[.int .i64 S.length, .int .i64 0] 53)) w.heap.size (.slice va S.length vc) (wantD at' S) := (HR.out.row.keep (fun g hg => K2 g (.inr hg))).below hgW.below
          have HT3 := Lib.hid T3
          have Hsz := Lib.hid T3.below.size
          have hSl : S.length ≤ 60 := by have := HR.out.len; omega
          have hown0 : Hid ((w2.alloc (.cells #[.int .i64 S.length, .int .i64 0] 53)).ownsRow w.heap.size 82 4 (.slice va S.length vc) S.length (cellsD (wantD at' S))) := Lib.hid (by have := row3; unfold RowD at this; rwa [HD.out] at this)
          clear T2 K2 T3 row3 hgW
          go_wp2_with (at_builtin; refine wpList_append_row _ rfl _ _ 77 rfl 82 i0 (.agg #[.int .i64 0, .int .i64 0, .int .i64 0, .int .u64 0]) 4 32 Tryd.underlying77 hi0 hz0 hz1 hz2 rfl (by decide) w.heap.size (.slice va S.length vc) S.length (cellsD (wantD at' S)) rfl (hown0.out.alloc _) ?c0 ⟨w2.heap.size + 1, 0, none⟩ 1 1 [.int .i64 S.length, .int .i64 0, .int .i64 k, .int .u64 at'] rfl ?c5 ?c1 ?c2 (by decide) ?c3 ?c4 ?_)
          case c0 => have := Hsz.out; simp at this ⊢; omega
          case c5 => rfl
          case c1 =>
            have := new_cells4 (w2.alloc (.cells #[.int .i64 S.length, .int .i64 0] 53)) (.int .i64 S.length) (.int .i64 0) (.int .i64 k) (.int .u64 at') 82
            simpa using this
          case c2 => simp [Value.oneCell']
          case c3 => unfold maxLen; omega
          case c4 => omega
          intro v' w4 hown hf hnear
          have T4 : TmIn w (GV NoG v') w4 a (pushS S x k) (zerosG (S.length + 1)) (P + 1) := (HT3.out.alloc _).grab hf (fun k hk => ⟨.inr (by simpa using hk), (hown0.out.lt k (by simpa using hk)).1⟩) (fun k hk => by
            rcases hk with h | h
            · exact h.elim
            · rcases hnear k h with h' | h'
              · exact .inl (.inr h')
              · exact .inr ⟨h', (hown.lt k h).2⟩)
          have hR4 : Hid (ResR w w4 a at' v' (pushS S x k) (P + 1) (k + 1)) := Lib.hid ⟨by rw [push_len]; exact T4, by
            unfold RowD
            rw [wantD_push, cellsD_append, HR.out.hs.hs, low_range']
            simpa [cellsD, HD.out] using hown, by rw [push_len]; exact HR.out.hs.push x k, by rw [push_len]; have := HR.out.len; omega, by have := HR.out.hP; omega⟩
          obtain ⟨va', vc', rfl⟩ := slice_form hown
          clear T4 hown hf hnear
          go_wp2_with fail
          go_roundw
          case rel => exact ⟨k + 1, _, _, by omega, by go_num, hR4.out⟩
          case measure => simp [intOf]; omega
      · obtain rfl : k = len := by omega
        clear hr
        have hm60 : S.length ≤ 60 := by have := HR.out.len; omega
        have hmi : (S.length : Int) ≤ 60 := by omega
        have hst2 : Hid (Res2 w wr a at' (.slice va S.length vc) S S.length P 0) := Lib.hid ⟨HR.out.T, HR.out.row, HR.out.hs, fun i e he hi => by have := (List.getElem?_eq_some_iff.1 he).1; omega⟩
        have hP : P ≤ 60 := by have := HR.out.hP; omega
        clear HR R
        go_wp2_with fail
        generalize S.length = m at *
        go_loopw [53] (fun i wr2 => ∃ (j : Nat) (S' : List El), j ≤ m ∧ i = .int .i64 j ∧ Res2 w wr2 a at' (.slice va m vc) S' m P j) (fun i _ => m - (intOf i).toNat)
        case atStart => exact ⟨0, S, Nat.zero_le _, rfl, hst2.out⟩
        case round =>
          clear hst2
          obtain ⟨j, S', hj, rfl, R2⟩ := hrel
          have HR2 := Lib.hid R2
          have hSl := R2.hs.len
          by_cases hlt2 : j < m
          · obtain ⟨e, he⟩ : ∃ e, S'[m - 1 - j]? = some e := ⟨_, List.getElem?_eq_getElem (by omega)⟩
            have heh := R2.hs.get he
            have hem : e ∈ S' := List.mem_of_getElem? he
            obtain ⟨g, vc2, h1, _, _⟩ := row_some R2.row (by simp [wantD]; omega)
            have hD2 : (wantD at' S').length = m := by simp [wantD, hSl]
            rw [hD2] at h1
            simp only [Value.slice.injEq, true_and] at h1
            obtain ⟨rfl, rfl⟩ := h1
            obtain ⟨c0, c1, _, _⟩ := R2.row.cells (m - 1 - j) ⟨e.h, 0, e.v, at'⟩ (by unfold wantD; rw [List.getElem?_map, he]; rfl)
            simp only at c0 c1
            have hres := treset_yes R2.T e hem at' Hn.out
            rw [zerosG_get] at hres
            have Heh := Lib.hid heh
            obtain ⟨q2, hq2⟩ : ∃ q2 : Nat, m - 1 - j = q2 := ⟨_, rfl⟩
            rw [hq2] at heh
            rw [hq2, heh] at c0
            rw [hq2] at c1
            rw [heh] at hres
            have hqi : (m : Int) - 1 - (j : Int) = (q2 : Int) := by omega
            have hq0 : (0 : Int) ≤ (q2 : Int) := by omega
            have hqm : (q2 : Int) < (m : Int) := by omega
            have hji : (j : Int) < (m : Int) := by omega
            have Hres := Lib.hid hres
            have Hq2 := Lib.hid heh
            clear hres heh hq2 R2 he hem hD2 hSl
            unfold pt at Hres
            go_wp2_with (go_at_call 30; fail)
            refine Hres.out.mono ?_
            rintro e' w2 ⟨rfl, T2, K2⟩
            have hnx : Hid (Res2 w w2 a at' (.slice (some ⟨g, 0, none⟩) m vc) (changeS S' q2 at') m P (j + 1)) := Lib.hid (by
              have h0 := T2
              rw [← Hq2.out] at h0 ⊢
              exact HR2.out.next hlt2 e Heh.out h0 K2)
            clear T2 K2
            go_wp2_with fail
            go_roundw
            case rel => exact ⟨j + 1, _, by omega, by go_num, hnx.out⟩
            case measure => simp [intOf]; omega
          · obtain rfl : j = m := by omega
            have hall : ∀ e ∈ S', e.k = at' := fun e he => by
              obtain ⟨i, hi, rfl⟩ := List.getElem_of_mem he
              exact R2.done i _ (List.getElem?_eq_getElem hi) (by omega)
            have hD2 : (wantD at' S').length = j := by simp [wantD, hSl]
            have HD2 := Lib.hid hD2
            have hexp : Hid (∀ W, TmIn w (GV NoG (.slice va j vc)) W a S' (zerosG j) P → RowD W w.heap.size (.slice va j vc) (wantD at' S') →
                Calls Tryd.prog 31 #[.pointer (some ⟨a, 0, none⟩), .int .u64 at'] W fun e w' => ∃ v3 gs3, e = .returned v3 ∧ RowD w' 0 v3 (wantD at' S') ∧ RowD w' 0 (.slice va j vc) (wantD at' S') ∧ TmIn w NoG w' a [] gs3 P) := Lib.hid (fun W T R => by
              obtain ⟨x1, x2⟩ := expS_const at' S' (zerosG j) hall T.nodup T.p.lt
              rw [wantD_const hall] at x1
              refine (texpire_any T at' Hn.out (by omega)).mono ?_
              rintro e w' ⟨v3, rfl, r3, T3, K3⟩
              rw [x1] at r3
              rw [x2] at T3
              exact ⟨v3, _, rfl, r3.mono (Nat.zero_le _), (R.keep (fun g hg => K3 g (.inr hg))).mono (Nat.zero_le _), T3.less (fun k h => h.elim)⟩)
            have TT := Lib.hid HR2.out.T
            have RR := Lib.hid HR2.out.row
            have hearly := Lib.hid (fun (h : at' - 1 < at') => expS_early (now := at' - 1) (gs := zerosG j) (fun e he => by rw [hall e he]; exact h))
            clear R2 HR2 hall hD2 hSl
            by_cases hpos : 0 < at'
            · have hexp1 := texpire_any TT.out (at' - 1) (by have := ha1; unfold never; omega) (by omega)
              rw [hearly.out (by omega)] at hexp1
              have Hexp1 := Lib.hid hexp1
              have hw1 : (0 : Int) ≤ at' - 1 := by omega
              have hw2 : at' - 1 ≤ 18446744073709551615 := by omega
              clear hexp1
              unfold pt at Hexp1
              go_wp2_with (go_at_call 31; fail)
              refine Hexp1.out.mono ?_
              rintro e w4 ⟨v2, rfl, r2, T4, K4⟩
              obtain ⟨va2, vc2, rfl⟩ := slice_form r2
              have RR := Lib.hid (RR.out.keep (fun g hg => K4 g (.inr hg)))
              have TT := Lib.hid (T4.less (G' := GV NoG (.slice va j vc)) (fun k h => .inl h))
              clear r2 T4 K4
              go_wp2_with (go_at_call 31; fail)
              refine (hexp.out _ TT.out RR.out).mono ?_
              rintro e w5 ⟨v3, gs3, rfl, r3, r3', T3⟩
              obtain ⟨va3, vc3, rfl⟩ := slice_form r3
              have hsame := Lib.hid (tsame_any r3 r3' (by rw [HD2.out]; omega))
              have T5 := Lib.hid T3
              rw [HD2.out]
              clear r3 r3' T3
              go_wp2_with (go_at_call 33; fail)
              rw [HD2.out] at hsame
              refine hsame.out.mono ?_
              rintro e w6 ⟨rfl, n6, rfl⟩
              have hlen := Lib.hid (tlen_in (T5.out.drew n6))
              have hkn := Lib.hid (tknown_any (w5.drewN n6) (hT.below (T5.out.drew n6).below hT.lt))
              unfold pt at hlen
              go_wp2_with (first | (go_at_call 20; refine hlen.out.mono ?_; rintro e w7 ⟨rfl, rfl⟩) | (go_at_call 17; refine hkn.out.mono ?_; rintro e w8 ⟨rfl, h8⟩))
              go_ret
              exact ⟨rfl, (T5.out.drew n6).below.trans (h8.mono (T5.out.drew n6).below.size)⟩
            · have hw1 : decide (0 < at') = false := by simp; omega
              go_wp2_with (go_at_call 31; fail)
              refine (hexp.out _ TT.out RR.out).mono ?_
              rintro e w5 ⟨v3, gs3, rfl, r3, r3', T3⟩
              obtain ⟨va3, vc3, rfl⟩ := slice_form r3
              have hsame := Lib.hid (tsame_any r3 r3' (by rw [HD2.out]; omega))
              have T5 := Lib.hid T3
              rw [HD2.out]
              clear r3 r3' T3
              go_wp2_with (go_at_call 33; fail)
              rw [HD2.out] at hsame
              refine hsame.out.mono ?_
              rintro e w6 ⟨rfl, n6, rfl⟩
              have hlen := Lib.hid (tlen_in (T5.out.drew n6))
              have hkn := Lib.hid (tknown_any (w5.drewN n6) (hT.below (T5.out.drew n6).below hT.lt))
              unfold pt at hlen
              go_wp2_with (first | (go_at_call 20; refine hlen.out.mono ?_; rintro e w7 ⟨rfl, rfl⟩) | (go_at_call 17; refine hkn.out.mono ?_; rintro e w8 ⟨rfl, h8⟩))
              go_ret
              exact ⟨rfl, (T5.out.drew n6).below.trans (h8.mono (T5.out.drew n6).below.size)⟩
end Go.Proofs.YtijbhamjccnieaaDoor
