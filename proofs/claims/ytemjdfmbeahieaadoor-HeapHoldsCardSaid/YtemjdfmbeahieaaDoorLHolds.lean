/- The walk of HeapHolds. -/
import Derived.Test.YtemjdfmbeahieaaDoorLOrd
namespace Go.Proofs.YtemjdfmbeahieaaDoor
open Go.RowKit Go.Sort
set_option linter.unusedVariables false
set_option linter.unusedSimpArgs false

def OnlyB (b : Nat) : Nat → Prop := fun k => k = b

/-- The state of the law after k calls. -/
structure HSt (w wr : World) (a b : Nat) (S : List El) (f : Nat → Int) (k P : Nat) : Prop where
  H : HeapIn w (OnlyB b) wr a S P
  hs : Hs S k
  ok : InOk S f
  tab : TabF wr b f
  hP : P ≤ k
  hk : k ≤ 60

theorem HSt.alloc {w wr : World} {a b : Nat} {S : List El} {f : Nat → Int} {k P : Nat} (h : HSt w wr a b S f k P) (o : Obj) : HSt w (wr.alloc o) a b S f k P :=
  ⟨h.H.alloc o, h.hs, h.ok, h.tab.below ((Below.refl _ _).alloc (Nat.le_refl _) _), h.hP, h.hk⟩
theorem HSt.more {w wr : World} {a b : Nat} {S : List El} {f : Nat → Int} {k P : Nat} (h : HSt w wr a b S f k P) (hk : k < 60) : HSt w wr a b S f (k + 1) P :=
  ⟨h.H, h.hs.more, h.ok, h.tab, by have := h.hP; omega, by omega⟩
theorem HSt.hlt {w wr : World} {a b : Nat} {S : List El} {f : Nat → Int} {k P : Nat} (h : HSt w wr a b S f k P) {x : Nat} (hx : x ∈ hsOf S) : x < 60 := by have := h.hs.hb x hx; have := h.hk; omega

theorem HSt.grown {w wr w' : World} {a b : Nat} {S : List El} {f : Nat → Int} {k P : Nat} (h : HSt w wr a b S f k P) (hb : Below wr.heap.size wr w') : HSt w w' a b S f k P :=
  ⟨h.H.grown hb, h.hs, h.ok, h.tab.below hb, h.hP, h.hk⟩

/-- A call, and then the table is written. -/
theorem HSt.set {w wr w' : World} {a b : Nat} {S S' : List El} {f : Nat → Int} {k k' P P' : Nat} (h : HSt w wr a b S f k P) (H' : HeapIn w (OnlyB b) w' a S' P') (K : Keep (OnlyB b) wr w') (hb : w.heap.size ≤ b) (hs : Hs S' k') {x : Nat} {v : Int} (hx : x < 64) (ok : InOk S' (upd f x v)) (hP : P' ≤ k') (hk : k' ≤ 60) :
    HSt w (w'.setCell ⟨b, x, none⟩ (.int .i64 v)) a b S' (upd f x v) k' P' := by
  have ht := h.tab.keep (K b rfl)
  refine ⟨H'.write (F := [b]) (fr_setCell w' ⟨b, x, none⟩ _) (fun y hy => ?_), hs, ok, ht.set x hx v, hP, hk⟩
  simp at hy; subst hy; exact ⟨rfl, hb⟩

theorem tab_new (w : World) (cur : Array Value) (h : cur = Array.replicate 64 (.int .i64 0)) : TabF (w.alloc (.cells cur 59)) w.heap.size (fun _ => 0) :=
  ⟨cur, block_new _ _ _ rfl, by rw [h]; simp, fun x hx => by rw [h]; simp [hx]⟩
theorem keep_cell {w w' : World} {b : Nat} (h : w'.heap[b]? = w.heap[b]?) (o : Nat) : w'.cell? ⟨b, o, none⟩ = w.cell? ⟨b, o, none⟩ := by unfold World.cell?; simp [h]

set_option maxRecDepth 100000 in
set_option maxHeartbeats 6400000 in
theorem heapHolds_walk (sa : Option Addr) (len cap : Nat) (w : World) (hr : IsActs w sa len cap) (hT : Tab w) :
    Calls Tryd.prog 7 #[.slice sa len cap] w fun e w' => e = .returned (.bool true) ∧ Below w.heap.size w w' := by
  by_cases hl : 60 < len
  · have hk := Lib.hid (known_any w hT)
    go_enter Tryd.func7, Tryd.ntmps7
    go_wp2_with (go_at_call 8; refine hk.out.mono ?_; rintro e w1 ⟨rfl, hb⟩)
    go_ret
    exact ⟨rfl, hb⟩
  · go_enter Tryd.func7, Tryd.ntmps7
    go_wp2_with (first | (go_at_call 9; fail))
    refine (new_in w w (fun _ => False) (fun _ h => h.elim) (Below.refl _ _)).mono ?_
    rintro e w1 ⟨a, rfl, H1, _⟩
    unfold pt
    go_wp2_with fail
    have hst : ∀ cur, cur = Array.replicate 64 (Value.int .i64 0) → HSt w (w1.alloc (.cells cur 59)) a w1.heap.size [] (fun _ => 0) 0 0 := fun cur hc =>
      ⟨H1.more ((Below.refl _ _).alloc (Nat.le_refl _) _) (fun k hk => .inr (by unfold OnlyB at hk; subst hk; simp)), Hs.nil, InOk.nil, tab_new w1 cur hc, Nat.le_refl _, by omega⟩
    have HST := Lib.hid hst
    have hwb : w.heap.size ≤ w1.heap.size := H1.below.size
    clear hst H1
    generalize w1.heap.size = b at *
    go_loopw [27] (fun i wr => ∃ (k : Nat) (S : List El) (f : Nat → Int) (P : Nat), k ≤ len ∧ i = .int .i64 k ∧ HSt w wr a b S f k P) (fun i _ => len - (intOf i).toNat)
    case atStart => exact ⟨0, _, _, _, Nat.zero_le _, rfl, HST.out _ rfl⟩
    case round =>
      obtain ⟨k, S, f, P, hk, rfl, hS⟩ := hrel
      by_cases hlt : k < len
      · rcases hr with h0 | ⟨ab, off, rfl, _, hblt, hcs⟩
        · omega
        · obtain ⟨x0, x1, x2, x3, c0, c1, c2, c3, _, _, _, w3'⟩ := hcs k hlt
          have hbw := hS.H.below
          have c0 : wr.cell? ⟨ab, off + k * 4, none⟩ = some (.int .i64 x0) := (hbw.cell (p := ⟨ab, off + k * 4, none⟩) hblt).trans c0
          have c1 : wr.cell? ⟨ab, off + k * 4 + 1, none⟩ = some (.int .i64 x1) := (hbw.cell (p := ⟨ab, off + k * 4 + 1, none⟩) hblt).trans c1
          have c2 : wr.cell? ⟨ab, off + k * 4 + 2, none⟩ = some (.int .i64 x2) := (hbw.cell (p := ⟨ab, off + k * 4 + 2, none⟩) hblt).trans c2
          have c3 : wr.cell? ⟨ab, off + k * 4 + 3, none⟩ = some (.int .u64 x3) := (hbw.cell (p := ⟨ab, off + k * 4 + 3, none⟩) hblt).trans c3
          obtain ⟨y0, y1⟩ := bounds_u64 w3'
          have HS := Lib.hid hS
          have hk60 : k < 60 := by omega
          have hlS := hS.hs.len
          clear hcs hS hbw w3'
          by_cases hx0 : x0 = 0
          · subst hx0
            go_wp2_with (go_at_call 16; fail)
            have hS2 := HS.out.alloc (Obj.cells #[.int .i64 0, .int .i64 x1, .int .i64 x2, .int .u64 x3] 32)
            refine (push_in hS2.H x3 k (by omega) hT (by have := hS2.hP; omega)).mono ?_
            rintro e w2 ⟨rfl, H2, K2⟩
            have hl60 : lowOf (hsOf S) ≤ k := by have := low_le (hsOf S); simp only [hsOf, List.length_map] at this; simp only [hsOf]; omega
            have hrel2 := Lib.hid (hS2.set H2 K2 hwb (hS2.hs.push x3 y0) (x := lowOf (hsOf S)) (v := k + 1) (by omega) (hS2.ok.push x3 k) (by have := hS2.hP; omega) (by omega))
            have ht2 := hS2.tab.keep (K2 b rfl)
            have tc := ht2.cell (lowOf (hsOf S)) (by omega)
            have tf := ht2.free (lowOf (hsOf S))
            rw [hS2.ok.no _ (low_not _)] at tc
            clear hS2 H2 K2 ht2
            generalize lowOf (hsOf S) = l at *
            have f1 : (0 : Int) ≤ (l : Int) := by omega
            have f2 : (l : Int) ≤ 63 := by omega
            have f3 : (l : Int) < 64 := by omega
            have f4 : (k : Int) < 60 := by omega
            go_wp2_with fail
            go_roundw
            case rel => exact ⟨k + 1, _, _, _, by omega, by go_num, hrel2.out⟩
            case measure => simp [intOf]; omega
          · by_cases hx1 : x0 = 1
            · subst hx1
              by_cases hh : isH S x1
              · obtain ⟨x, rfl, hx⟩ := hh
                go_wp2_with (go_at_call 15; fail)
                have hS2 := HS.out.alloc (Obj.cells #[.int .i64 1, .int .i64 x, .int .i64 x2, .int .u64 x3] 32)
                refine (change_yes_in hS2.H x x3 hx).mono ?_
                rintro e w2 ⟨rfl, H2, K2⟩
                have hrel2 : Hid (HSt w w2 a b (changeS S x x3) f (k + 1) P) := Lib.hid ⟨H2, hS2.hs.change x x3 y0, hS2.ok.change x x3, hS2.tab.keep (K2 b rfl), by have := hS2.hP; omega, by omega⟩
                clear hS2 H2 K2
                go_wp2_with fail
                go_roundw
                case rel => exact ⟨k + 1, _, _, _, by omega, by go_num, hrel2.out⟩
                case measure => simp [intOf]; omega
              · go_wp2_with (go_at_call 15; fail)
                have hS2 := Lib.hid (HS.out.alloc (Obj.cells #[.int .i64 1, .int .i64 x1, .int .i64 x2, .int .u64 x3] 32))
                refine (change_no_in hS2.out.H x1 x3 hh).mono ?_
                rintro e w2 ⟨rfl, rfl⟩
                go_wp2_with fail
                go_roundw
                case rel => exact ⟨k + 1, _, _, _, by omega, by go_num, hS2.out.more hk60⟩
                case measure => simp [intOf]; omega
            · by_cases hx2 : x0 = 2
              · subst hx2
                by_cases hh : isH S x1
                · obtain ⟨x, rfl, hx⟩ := hh
                  go_wp2_with (go_at_call 18; fail)
                  have hS2 := HS.out.alloc (Obj.cells #[.int .i64 2, .int .i64 x, .int .i64 x2, .int .u64 x3] 32)
                  have H3 : HeapIn w (fun y => y = b ∨ y = wr.heap.size) (wr.alloc (Obj.cells #[.int .i64 2, .int .i64 x, .int .i64 x2, .int .u64 x3] 32)) a S P :=
                    HS.out.H.more ((Below.refl _ _).alloc (Nat.le_refl _) _) (fun y hy => by
                      rcases hy with h | h
                      · exact .inl h
                      · exact .inr (by subst h; simp))
                  refine (remove_yes_in H3 x hx).mono ?_
                  rintro e w2 ⟨rfl, H2, K2⟩
                  have hx60 := HS.out.hlt hx
                  have hrel2 := Lib.hid (hS2.set (H2.less (fun _ h => .inl h)) (fun y hy => K2 y (.inl hy)) hwb (hS2.hs.remove0 x).more (x := x) (v := 0) (by omega) (hS2.ok.remove x) (by have := hS2.hP; omega) (by omega))
                  have ca : w2.cell? ⟨wr.heap.size, 1, none⟩ = some (.int .i64 x) := (keep_cell (K2 _ (.inr rfl)) 1).trans (cell_new _ _ _ _ _ _ rfl rfl)
                  have ht2 := hS2.tab.keep (K2 b (.inl rfl))
                  have tc := ht2.cell x (by omega)
                  have tf := ht2.free x
                  have hfx : (f x == 0) = false := by
                    obtain ⟨e, he, rfl⟩ := List.mem_map.1 hx
                    have := hS2.hs.vb e he
                    rw [hS2.ok.yes e he]
                    simp; omega
                  clear hS2 H2 H3 K2 ht2
                  generalize hfg : f x = y at tc hfx
                  have f1 : (0 : Int) ≤ (x : Int) := by omega
                  have f2 : (x : Int) ≤ 63 := by omega
                  have f3 : (x : Int) < 64 := by omega
                  go_wp2_with fail
                  go_roundw
                  case rel => exact ⟨k + 1, _, _, _, by omega, by go_num, hrel2.out⟩
                  case measure => simp [intOf]; omega
                · go_wp2_with (go_at_call 18; fail)
                  have hS2 := Lib.hid (HS.out.alloc (Obj.cells #[.int .i64 2, .int .i64 x1, .int .i64 x2, .int .u64 x3] 32))
                  refine (remove_no_in hS2.out.H x1 hh).mono ?_
                  rintro e w2 ⟨rfl, rfl⟩
                  go_wp2_with fail
                  go_roundw
                  case rel => exact ⟨k + 1, _, _, _, by omega, by go_num, hS2.out.more hk60⟩
                  case measure => simp [intOf]; omega
              · have q0 : (x0 == 0) = false := by simp [hx0]
                have q1 : (x0 == 1) = false := by simp [hx1]
                have q2 : (x0 == 2) = false := by simp [hx2]
                go_wp2_with fail
                go_roundw
                case rel => exact ⟨k + 1, _, _, _, by omega, by go_num, (HS.out.alloc _).more hk60⟩
                case measure => simp [intOf]; omega
      · obtain rfl : k = len := by omega
        clear hr
        have HS0 := Lib.hid hS
        clear hS
        go_wp2_with fail
        go_loopg [9, 10] S.length (fun m kk o wr2 => ∃ (S : List El) (f : Nat → Int) (K O : Int), S.length = m ∧ kk = .int .u64 K ∧ o = .int .i64 O ∧ HSt w wr2 a b S f k P ∧ ∀ e ∈ S, K < e.k ∨ (K = e.k ∧ O ≤ e.v + 1))
        case atStart => exact ⟨S, f, 0, 0, rfl, rfl, rfl, HS0.out, fun e he => by have := HS0.out.hs.kb e he; have := HS0.out.hs.vb e he; omega⟩
        case round =>
          clear HS0 HST
          obtain ⟨S, f, K, O, rfl, rfl, rfl, hS, hord⟩ := hrel
          have HS := Lib.hid hS
          by_cases h0 : S.length = 0
          · obtain rfl := List.eq_nil_of_length_eq_zero h0
            have hz := Lib.hid (fun x (hx : x < 64) => hS.tab.cell x hx)
            have hz0 := Lib.hid (fun x => hS.ok.no x (by simp [hsOf]))
            clear hS hord
            go_wp2_with (go_at_call 17; refine (len_in HS.out.H).mono ?_; rintro e w' ⟨rfl, rfl⟩)
            have HK := Lib.hid (known_any wr (hT.below HS.out.H.below hT.lt))
            have HB := Lib.hid HS.out.H.below
            clear HS
            go_loopw [17] (fun i wr3 => ∃ j : Nat, j ≤ 64 ∧ i = .int .i64 j ∧ wr3 = wr) (fun i _ => 64 - (intOf i).toNat)
            case atStart => exact ⟨0, by omega, rfl, rfl⟩
            case round =>
              obtain ⟨j, hj, rfl, rfl⟩ := hrel
              by_cases hj2 : j < 64
              · have tc := hz.out j hj2
                rw [hz0.out j] at tc
                have g1 : (0 : Int) ≤ (j : Int) := by omega
                have g2 : (j : Int) < 64 := by omega
                go_wp2_with fail
                go_roundw
                case rel => exact ⟨j + 1, by omega, by go_num, trivial⟩
                case measure => simp [intOf]; omega
              · obtain rfl : j = 64 := by omega
                go_wp2_with (go_at_call 8; refine HK.out.mono ?_; rintro e w6 ⟨rfl, hb6⟩)
                go_ret
                exact ⟨rfl, HB.out.trans (hb6.mono HB.out.size)⟩
          · obtain ⟨e, he, hhd, hrest⟩ := pop_first hS.hs (by omega)
            obtain ⟨x, v, kx⟩ := e
            simp only at hhd hrest
            have hx : x ∈ hsOf S := List.mem_map_of_mem he
            have hvb := hS.hs.vb _ he
            have hx60 := hS.hlt hx
            have hkl := hS.hk
            simp only at hvb
            have hl0 : (0 : Int) < (S.length : Int) := by omega
            have Hrest := Lib.hid hrest
            have Ho := hord _ he
            simp only at Ho
            clear hord hrest hS
            go_wp2_with (first | (go_at_call 17; refine (len_in HS.out.H).mono ?_; rintro e w' ⟨rfl, rfl⟩) | (go_at_call 14; refine (top_some_in HS.out.H hhd).mono ?_; rintro e' w' ⟨rfl, rfl⟩) | (go_at_call 20; fail))
            refine (layout_in HS.out.H).mono ?_
            rintro e' w2 ⟨v', L, rfl, hL, hrow, hb2⟩
            have HS2 := Lib.hid (HS.out.grown hb2)
            have hl := hL.len
            have hhd2 : L.getD 0 0 = x := by
              have := hL.head (by omega)
              rw [hhd] at this
              exact (Option.some.inj this).symm
            obtain ⟨g, cap', rfl, _, _⟩ := row_some hrow (by omega)
            have hc := row_at hrow 0 (by omega)
            rw [hhd2] at hc
            unfold encN at hc
            have tc : w2.cell? ⟨b, x, none⟩ = some (.int .i64 (v + 1)) := by
              have := HS2.out.tab.cell x (by omega)
              rwa [HS2.out.ok.yes _ he] at this
            clear hrow hL hhd hhd2
            rw [hl]
            clear hl
            have f1 : (0 : Int) ≤ (x : Int) := by omega
            have f2 : (x : Int) ≤ 63 := by omega
            have f3 : (x : Int) < 64 := by omega
            have f4 : 0 ≤ v := by omega
            have f5 : v < 60 := by omega
            have f6 : (v + 1 == 0) = false := by simp; omega
            go_wp2_with (first | (go_at_call 17; refine (len_in HS2.out.H).mono ?_; rintro e w' ⟨rfl, rfl⟩) | (go_at_call 19; fail))
            refine (get_yes_in HS2.out.H ⟨x, v, kx⟩ he).mono ?_
            rintro e' w3 ⟨rfl, H3, K3, _⟩
            have tc3 := (keep_cell (K3 b rfl) x).trans tc
            have tail : ∀ w4, HeapIn w (OnlyB b) w4 a (removeS S x) P → Keep (OnlyB b) w3 w4 → Hid (w4.cell? ⟨b, x, none⟩ = some (.int .i64 (v + 1)) ∧ w4.frozen? ⟨b, x, none⟩ = false ∧ ∀ n, HSt w ((w4.setCell ⟨b, x, none⟩ (.int .i64 0)).drewN n) a b (removeS S x) (upd f x 0) k P) := by
              intro w4 H4 K4
              refine ⟨(keep_cell (K4 b rfl) x).trans tc3, ?_, fun n => ?_⟩
              · exact ((HS2.out.tab.keep (K3 b rfl)).keep (K4 b rfl)).free x
              · exact (HS2.out.set H4 (K3.trans K4) hwb (HS2.out.hs.remove0 x) (x := x) (v := 0) (by omega) (HS2.out.ok.remove x) HS2.out.hP HS2.out.hk).grown ((fr_drewN _ n []).below (fun _ hx => by simp at hx) (Nat.le_refl _))
            have hless : (removeS S x).length < S.length := List.length_filter_lt_length_iff_exists.2 ⟨_, he, by simp⟩
            have H3' := Lib.hid (remove_yes_in H3 x hx)
            clear H3 K3 HS HS2 hc
            rcases Ho with Ho | ⟨rfl, Ho⟩
            · have g1 : (K == kx) = false := by simp; omega
              have g2 : (kx == K) = false := by simp; omega
              have g3 : K ≤ kx := by omega
              go_wp2_with (go_at_call 18; refine H3'.out.mono ?_; rintro e' w4 ⟨rfl, H4, K4⟩)
              obtain ⟨t1, t2, t3⟩ := tail w4 H4 K4
              have T3 := Lib.hid t3
              clear tail H4 K4 H3' t3
              go_wp2_with fail
              go_region
              simp only [Exit.inBlock, Exit.then]
              go_at_K
              go_wp2_with fail
              go_roundg (removeS S x).length
              case measure => exact hless
              case rel => exact ⟨removeS S x, _, kx, v + 1, rfl, rfl, rfl, T3.out 1, Hrest.out⟩
            · have g3 : O ≤ v + 1 := by omega
              go_wp2_with (go_at_call 18; refine H3'.out.mono ?_; rintro e' w4 ⟨rfl, H4, K4⟩)
              obtain ⟨t1, t2, t3⟩ := tail w4 H4 K4
              have T3 := Lib.hid t3
              clear tail H4 K4 H3' t3
              go_wp2_with fail
              go_region
              simp only [Exit.inBlock, Exit.then]
              go_at_K
              go_wp2_with fail
              go_roundg (removeS S x).length
              case measure => exact hless
              case rel => exact ⟨removeS S x, _, K, v + 1, rfl, rfl, rfl, T3.out 1, Hrest.out⟩
end Go.Proofs.YtemjdfmbeahieaaDoor
