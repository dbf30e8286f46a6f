/- The walk of FifoHolds. -/
import Derived.Test.YtopkikdbhapfmaaDHold
import Derived.Test.YtopkikdbhapfmaaDEnd
namespace Go.Proofs.Ytopkikdbhapfmaa
open Go.RowKit Go.Sort Go.MapKept
set_option linter.unusedVariables false
set_option linter.unusedSimpArgs false

set_option maxRecDepth 100000 in
set_option maxHeartbeats 6400000 in
theorem fifoHolds_walk (sa : Option Addr) (len cap : Nat) (w : World) (hr : IsActs6 w sa len cap) :
    Calls Try.prog 7 #[.slice sa len cap] w fun e w' => e = .returned (.bool true) ∧ Below w.heap.size w w' := by
  by_cases hl : 60 < len
  · have hk := Lib.hid (known_any w)
    go_enter Try.func7, Try.ntmps7
    go_wp2_with (go_at_call 8; refine hk.out.mono ?_; rintro e w1 ⟨rfl, hb⟩)
    go_ret
    exact ⟨rfl, hb⟩
  · go_enter Try.func7, Try.ntmps7
    go_wp2_with (go_at_call 9; fail)
    refine (fiNew_any w).mono ?_
    rintro e w1 ⟨q, b, m, rfl, hq, hg, h1, h2, h3⟩
    have K1 := Lib.hid (KQ.mk hq hg.below h1 h2 h3)
    clear hq hg h1 h2 h3
    go_wp2_with fail
    have HST : Hid (∀ cur, cur = Array.replicate 64 (Value.bool false) → HSt w (w1.alloc (.cells cur 59)) q b m w1.heap.size [] (fun _ => false) 0 0 0) := Lib.hid fun cur hc =>
      ⟨K1.out.grown (below_alloc _ _), tabG_new w1 cur hc, K1.out.below.size, rfl, fun _ _ => rfl, fun e he => by simp at he, Nat.le_refl _, Nat.le_refl _, by omega⟩
    clear K1
    generalize w1.heap.size = B at *
    go_loopw [5, 6, 31] (fun a p i wr => ∃ (k A P : Nat) (L : Qu) (f : Nat → Bool), k ≤ len ∧ a = .int .u64 ((A : Nat) : Int) ∧ p = .int .u64 ((P : Nat) : Int) ∧ i = .int .i64 ((k : Nat) : Int) ∧ Hid (HSt w wr q b m B L f A P k)) (fun _ _ i _ => len - (intOf i).toNat)
    case atStart => exact ⟨0, 0, 0, _, _, Nat.zero_le _, rfl, rfl, rfl, Lib.hid (HST.out _ rfl)⟩
    case round =>
      obtain ⟨k, A, P, L, f, hk, rfl, rfl, rfl, HS⟩ := hrel
      have hAk := HS.out.hA
      have hPA := HS.out.hPA
      have hk61 := HS.out.hk
      have i1 : (0 : Int) ≤ (A : Int) := by omega
      have i2 : (A : Int) ≤ 60 := by omega
      have i3 : (0 : Int) ≤ (P : Int) := by omega
      have i4 : (P : Int) ≤ 60 := by omega
      have i5 : IntKind.i64.wrap (A : Int) = (A : Int) := by rw [IntKind.wrap_i64]; omega
      by_cases hlt : k < len
      · rcases hr with h0 | ⟨ab, off, rfl, _, hblt, hcs⟩
        · omega
        · obtain ⟨x0, x1, x2, c0, c1, c2, _, _, w3'⟩ := hcs k hlt
          have hbw := HS.out.K.below
          have c0 : wr.cell? ⟨ab, off + k * 3, none⟩ = some (.int .i64 x0) := (hbw.cell (p := ⟨ab, off + k * 3, none⟩) hblt).trans c0
          have c1 : wr.cell? ⟨ab, off + k * 3 + 1, none⟩ = some (.int .i64 x1) := (hbw.cell (p := ⟨ab, off + k * 3 + 1, none⟩) hblt).trans c1
          have c2 : wr.cell? ⟨ab, off + k * 3 + 2, none⟩ = some (.int .u64 x2) := (hbw.cell (p := ⟨ab, off + k * 3 + 2, none⟩) hblt).trans c2
          obtain ⟨y0, y1⟩ := bounds_u64 w3'
          obtain ⟨X, rfl⟩ : ∃ X : Nat, x2 = X := ⟨x2.toNat, by omega⟩
          have hk60 : k < 60 := by omega
          clear hcs hbw w3' HST y1
          by_cases hx0 : x0 = 0
          · subst hx0
            go_wp2_with (go_at_call 17; fail)
            have hS2 := HS.out.grown (below_alloc _ (.cells #[.int .i64 0, .int .i64 x1, .int .u64 ((X : Nat) : Int)] 31))
            have HP := fiPush_yes hS2.K.Q (by have := hS2.len; omega) (by omega) ((A + 1 : Nat) : Int)
            rw [show (((A + 1 : Nat) : Nat) : Int) = (A : Int) + 1 by omega] at HP
            refine HP.mono ?_
            rintro e w2 ⟨rfl, hq2, hf2⟩
            obtain ⟨L2, HS2⟩ : ∃ L2, Hid (HSt w w2 q b m B L2 f (A + 1) P (k + 1)) := ⟨_, Lib.hid (hS2.push (by rw [show (((A + 1 : Nat) : Nat) : Int) = (A : Int) + 1 by omega]; exact hq2) hf2 hk60)⟩
            clear hS2 HP hq2 hf2 HS

            go_wp2_with (go_at_call 11; fail)
            have hA2 := HS2.out.hA
            have hk2 := HS2.out.hk
            rcases L2 with _ | ⟨⟨t2, v2⟩, R2⟩
            · refine (fiFront_empty HS2.out.K.Q).mono ?_
              rintro e w3 ⟨rfl, rfl⟩
              go_wp2_with fail
              go_roundw
              case rel => exact ⟨k + 1, _, _, _, _, by omega, by go_num, by go_num, by go_num, HS2⟩
              case measure => simp [intOf]; omega
            · refine (fiFront_yes HS2.out.K.Q).mono ?_
              rintro e w3 ⟨rfl, hg3⟩
              have HS3 := Lib.hid (HS2.out.grown hg3.below)
              have HP : Hid (Calls Try.prog 21 #[.pointer (some ⟨q, 0, none⟩), .int .u64 ((t2 : Nat) : Int)] w3 fun e w' => e = .returned (.tuple #[.int .i64 0, .int .i64 0]) ∧ Grn w3 w') := Lib.hid (fiPlace_yes (n := 0) HS3.out.K.Q (by omega) (by simp))
              clear hg3 HS2
              go_wp2_with (go_at_call 21; refine HP.out.mono ?_; rintro e w4 ⟨rfl, hg4⟩; have HS4 := Lib.hid (HS3.out.grown hg4.below); clear hg4)
              go_roundw
              case rel => exact ⟨k + 1, _, _, _, _, by omega, by go_num, by go_num, by go_num, HS4⟩
              case measure => simp [intOf]; omega
          · by_cases hx1 : x0 = 1
            · subst hx1
              go_wp2_with (go_at_call 16; fail)
              have HS2 := Lib.hid (HS.out.grown (below_alloc _ (.cells #[.int .i64 1, .int .i64 x1, .int .u64 ((X : Nat) : Int)] 31)))
              rcases L with _ | ⟨⟨t, v⟩, R⟩
              · refine (fiPop_empty HS2.out.K.Q).mono ?_
                rintro e w2 ⟨rfl, rfl⟩
                have HS2 := Lib.hid (HS2.out.more hk60)
                go_wp2_with fail
                go_roundw
                case rel => exact ⟨k + 1, _, _, _, _, by omega, by go_num, by go_num, by go_num, HS2⟩
                case measure => simp [intOf]; omega
              · refine (fiPop_yes HS2.out.K.Q).mono ?_
                rintro e w2 ⟨rfl, hq2, hf2⟩
                obtain ⟨m1, m2, m3, m4, rfl⟩ := HS2.out.mem (List.mem_cons_self ..)
                have ht := HS2.out.tab.keep (hf2.block _ HS2.out.tab.lt HS2.out.nf)
                have tc := ht.cell t (by omega)
                rw [m4] at tc
                have tf := ht.free t
                obtain ⟨L2, HS2⟩ : ∃ L2, Hid (HSt w (w2.setCell ⟨B, t, none⟩ (.bool true)) q b m B L2 (setT f t) A t (k + 1)) := ⟨_, Lib.hid (HS2.out.pop hq2 hf2 hk60)⟩
                clear hq2 hf2 HS ht m4
                have g1 : (1 : Int) ≤ (t : Int) := by omega
                have g2 : (t : Int) ≤ (A : Int) := by omega
                have g3 : (P : Int) < (t : Int) := by omega
                have g4 : (t : Int) < 64 := by omega
                have g5 : (t : Int) ≤ 60 := by omega
                have g6 : IntKind.i64.wrap (t : Int) = (t : Int) := by rw [IntKind.wrap_i64]; omega
                have g7 : ((t : Int) != (t : Int)) = false := by simp
                go_wp2_with (go_at_call 11; fail)
                have hA2 := HS2.out.hA
                have hk2 := HS2.out.hk
                rcases L2 with _ | ⟨⟨t2, v2⟩, R2⟩
                · refine (fiFront_empty HS2.out.K.Q).mono ?_
                  rintro e w3 ⟨rfl, rfl⟩
                  go_wp2_with fail
                  go_roundw
                  case rel => exact ⟨k + 1, _, _, _, _, by omega, by go_num, by go_num, by go_num, HS2⟩
                  case measure => simp [intOf]; omega
                · refine (fiFront_yes HS2.out.K.Q).mono ?_
                  rintro e w3 ⟨rfl, hg3⟩
                  have HS3 := Lib.hid (HS2.out.grown hg3.below)
                  have HP : Hid (Calls Try.prog 21 #[.pointer (some ⟨q, 0, none⟩), .int .u64 ((t2 : Nat) : Int)] w3 fun e w' => e = .returned (.tuple #[.int .i64 0, .int .i64 0]) ∧ Grn w3 w') := Lib.hid (fiPlace_yes (n := 0) HS3.out.K.Q (by omega) (by simp))
                  clear hg3 HS2
                  go_wp2_with (go_at_call 21; refine HP.out.mono ?_; rintro e w4 ⟨rfl, hg4⟩; have HS4 := Lib.hid (HS3.out.grown hg4.below); clear hg4)
                  go_roundw
                  case rel => exact ⟨k + 1, _, _, _, _, by omega, by go_num, by go_num, by go_num, HS4⟩
                  case measure => simp [intOf]; omega
            · by_cases hx2 : x0 = 2
              · subst hx2
                go_wp2_with (go_at_call 20; fail)
                have HS2 := Lib.hid (HS.out.grown (below_alloc _ (.cells #[.int .i64 2, .int .i64 x1, .int .u64 ((X : Nat) : Int)] 31)))
                have HC : Hid ((wr.alloc (.cells #[.int .i64 2, .int .i64 x1, .int .u64 ((X : Nat) : Int)] 31)).heap[wr.heap.size]? = some (.cells #[.int .i64 2, .int .i64 x1, .int .u64 ((X : Nat) : Int)] 31 (0, 0))) := Lib.hid (block_new _ _ _ rfl)
                by_cases hx : 1 ≤ X ∧ X ≤ A ∧ f X = false
                · obtain ⟨m2, m3, m4⟩ := hx
                  obtain ⟨Xs, Ys, hXY, hS3⟩ := HS2.out.rem m2 m3 m4
                  subst hXY
                  have hrest := Lib.hid hS3
                  refine (fiRemove_yes HS2.out.K.Q).mono ?_
                  rintro e w2 ⟨rfl, hq2, hf2⟩
                  have ht := HS2.out.tab.keep (hf2.block _ HS2.out.tab.lt HS2.out.nf)
                  have tc := ht.cell X (by omega)
                  rw [m4] at tc
                  have tf := ht.free X
                  have ca := cells_cell (o := 2) (hf2.same HC.out (HS2.out.K.Q.out HC.out (by decide))) rfl
                  obtain ⟨L2, HS2⟩ : ∃ L2, Hid (HSt w (w2.setCell ⟨B, X, none⟩ (.bool true)) q b m B L2 (setT f X) A P (k + 1)) := ⟨_, Lib.hid (hrest.out w2 hq2 hf2 hk60)⟩
                  clear hq2 hf2 HS ht m4 hS3 hrest
                  have g1 : (1 : Int) ≤ (X : Int) := by omega
                  have g2 : (X : Int) ≤ (A : Int) := by omega
                  have g4 : (X : Int) < 64 := by omega
                  have g5 : (X : Int) ≤ 60 := by omega
                  have g6 : IntKind.i64.wrap (X : Int) = (X : Int) := by rw [IntKind.wrap_i64]; omega
                  have g7 : ((X : Int) != (X : Int)) = false := by simp
                  go_wp2_with (go_at_call 11; fail)
                  have hA2 := HS2.out.hA
                  have hk2 := HS2.out.hk
                  rcases L2 with _ | ⟨⟨t2, v2⟩, R2⟩
                  · refine (fiFront_empty HS2.out.K.Q).mono ?_
                    rintro e w3 ⟨rfl, rfl⟩
                    go_wp2_with fail
                    go_roundw
                    case rel => exact ⟨k + 1, _, _, _, _, by omega, by go_num, by go_num, by go_num, HS2⟩
                    case measure => simp [intOf]; omega
                  · refine (fiFront_yes HS2.out.K.Q).mono ?_
                    rintro e w3 ⟨rfl, hg3⟩
                    have HS3 := Lib.hid (HS2.out.grown hg3.below)
                    have HP : Hid (Calls Try.prog 21 #[.pointer (some ⟨q, 0, none⟩), .int .u64 ((t2 : Nat) : Int)] w3 fun e w' => e = .returned (.tuple #[.int .i64 0, .int .i64 0]) ∧ Grn w3 w') := Lib.hid (fiPlace_yes (n := 0) HS3.out.K.Q (by omega) (by simp))
                    clear hg3 HS2
                    go_wp2_with (go_at_call 21; refine HP.out.mono ?_; rintro e w4 ⟨rfl, hg4⟩; have HS4 := Lib.hid (HS3.out.grown hg4.below); clear hg4)
                    go_roundw
                    case rel => exact ⟨k + 1, _, _, _, _, by omega, by go_num, by go_num, by go_num, HS4⟩
                    case measure => simp [intOf]; omega
                · refine (fiRemove_no HS2.out.K.Q X (HS2.out.no hx)).mono ?_
                  rintro e w2 ⟨rfl, hg2⟩
                  have HS2 := Lib.hid ((HS2.out.grown hg2.below).more hk60)
                  clear hg2 hx
                  go_wp2_with fail
                  go_roundw
                  case rel => exact ⟨k + 1, _, _, _, _, by omega, by go_num, by go_num, by go_num, HS2⟩
                  case measure => simp [intOf]; omega
              · have q0 : (x0 == 0) = false := by simp [hx0]
                have q1 : (x0 == 1) = false := by simp [hx1]
                have q2 : (x0 == 2) = false := by simp [hx2]
                obtain ⟨L2, HS2⟩ : ∃ L2, Hid (HSt w (wr.alloc (.cells #[.int .i64 x0, .int .i64 x1, .int .u64 ((X : Nat) : Int)] 31)) q b m B L2 f A P (k + 1)) := ⟨_, Lib.hid ((HS.out.grown (below_alloc _ _)).more hk60)⟩
                clear HS

                go_wp2_with (go_at_call 11; fail)
                have hA2 := HS2.out.hA
                have hk2 := HS2.out.hk
                rcases L2 with _ | ⟨⟨t2, v2⟩, R2⟩
                · refine (fiFront_empty HS2.out.K.Q).mono ?_
                  rintro e w3 ⟨rfl, rfl⟩
                  go_wp2_with fail
                  go_roundw
                  case rel => exact ⟨k + 1, _, _, _, _, by omega, by go_num, by go_num, by go_num, HS2⟩
                  case measure => simp [intOf]; omega
                · refine (fiFront_yes HS2.out.K.Q).mono ?_
                  rintro e w3 ⟨rfl, hg3⟩
                  have HS3 := Lib.hid (HS2.out.grown hg3.below)
                  have HP : Hid (Calls Try.prog 21 #[.pointer (some ⟨q, 0, none⟩), .int .u64 ((t2 : Nat) : Int)] w3 fun e w' => e = .returned (.tuple #[.int .i64 0, .int .i64 0]) ∧ Grn w3 w') := Lib.hid (fiPlace_yes (n := 0) HS3.out.K.Q (by omega) (by simp))
                  clear hg3 HS2
                  go_wp2_with (go_at_call 21; refine HP.out.mono ?_; rintro e w4 ⟨rfl, hg4⟩; have HS4 := Lib.hid (HS3.out.grown hg4.below); clear hg4)
                  go_roundw
                  case rel => exact ⟨k + 1, _, _, _, _, by omega, by go_num, by go_num, by go_num, HS4⟩
                  case measure => simp [intOf]; omega
      · obtain rfl : k = len := by omega
        clear hr HST
        go_wp2_with fail
        go_loopw [21] (fun t wr2 => ∃ T : Nat, 1 ≤ T ∧ T ≤ A + 1 ∧ t = .int .u64 ((T : Nat) : Int) ∧ Hid (KQ w wr2 q b m (partQ f T (A + 1 - T)) A ∧ TabG wr2 B f)) (fun t _ => A + 1 - (intOf t).toNat)
        case atStart => exact ⟨1, by omega, by omega, rfl, Lib.hid ⟨by have := HS.out.K; rw [HS.out.hL] at this; exact this, HS.out.tab⟩⟩
        case round =>
          obtain ⟨T, hT1, hT2, rfl, HE⟩ := hrel
          clear HS
          have t1 : (0 : Int) ≤ (T : Int) := by omega
          have t2 : (T : Int) ≤ 61 := by omega
          have t3 : (T : Int) < 64 := by omega
          have t4 : IntKind.i64.wrap (T : Int) = (T : Int) := by rw [IntKind.wrap_i64]; omega
          by_cases hTA : T ≤ A
          · have t5 : (T : Int) ≤ (A : Int) := by omega
            have tc := HE.out.2.cell T (by omega)
            have hp : partQ f T (A + 1 - T) = (if f T then [] else [(T, (T : Int))]) ++ partQ f (T + 1) (A + 1 - (T + 1)) := by
              rw [show A + 1 - T = A + 1 - (T + 1) + 1 by omega, partQ_first]
            rw [hp] at HE
            clear hp
            by_cases hfT : f T = true
            · rw [hfT] at tc HE
              clear hfT
              go_wp2_with fail
              go_roundw
              case rel => exact ⟨T + 1, by omega, by omega, by go_num, Lib.hid ⟨by have := HE.out.1; simpa using this, HE.out.2⟩⟩
              case measure => simp [intOf]; omega
            · have hfT : f T = false := by simpa using hfT
              rw [hfT] at tc HE
              clear hfT
              have HP := Lib.hid (pops_yes (by have := HE.out.1.Q; simpa using this) : Calls Try.prog 18 #[.pointer (some ⟨q, 0, none⟩), .int .i64 ((T : Nat) : Int), .int .u64 ((T : Nat) : Int)] _ fun e w' => e = .returned (.bool true) ∧ QAt w' q b m (partQ f (T + 1) (A + 1 - (T + 1))) A ∧ Fr [b, m] _ w')
              go_wp2_with (go_at_call 18; refine HP.out.mono ?_; rintro e w2 ⟨rfl, hq2, hf2⟩; have HQ2 := Lib.hid hq2; have HF2 := Lib.hid hf2; clear hq2 hf2)
              go_roundw
              case rel => exact ⟨T + 1, by omega, by omega, by go_num, Lib.hid ⟨HE.out.1.step HQ2.out HF2.out, HE.out.2.keep (HF2.out.block _ HE.out.2.lt (by obtain ⟨cur, h1, _⟩ := HE.out.2.ex; exact HE.out.1.Q.out h1 (by decide)))⟩⟩
              case measure => simp [intOf]; omega
          · obtain rfl : T = A + 1 := by omega
            have t5 : (A : Int) < ((A + 1 : Nat) : Int) := by omega
            have HE : Hid (KQ w wr q b m [] A) := Lib.hid (by have := HE.out.1; rw [Nat.sub_self] at this; exact this)
            have HL : Hid (Calls Try.prog 13 #[.pointer (some ⟨q, 0, none⟩)] wr fun e w' => e = .returned (.int .i64 0) ∧ w' = wr) := Lib.hid (fiLen_any HE.out.Q)
            go_wp2_with (first | (go_at_call 13; refine HL.out.mono ?_; rintro e w' ⟨rfl, rfl⟩) | (go_at_call 8; fail))
            refine (known_any _).mono ?_
            rintro e w4 ⟨rfl, hb⟩
            go_wp2_with fail
            go_ret
            exact ⟨rfl, HE.out.below.trans (hb.mono HE.out.below.size)⟩
end Go.Proofs.Ytopkikdbhapfmaa
