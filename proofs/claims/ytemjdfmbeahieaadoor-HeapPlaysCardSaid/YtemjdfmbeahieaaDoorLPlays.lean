/- The walk of HeapPlays. -/
import Derived.Test.YtemjdfmbeahieaaDoorLLooks
namespace Go.Proofs.YtemjdfmbeahieaaDoor
open Go.RowKit Go.Sort
set_option linter.unusedVariables false
set_option linter.unusedSimpArgs false

/-- The state of the law: heap, reference, and the reference's box b4 in G. -/
structure PlSt (w wr : World) (a : Nat) (S : List El) (P : Nat) (s : Value) (b : Nat) : Prop where
  D : ∃ G, DoSt w wr G a S P s ∧ G b
  box : BoxR wr b s
  hb : w.heap.size ≤ b

set_option maxRecDepth 100000 in
set_option maxHeartbeats 3200000 in
theorem heapPlays_walk (sa : Option Addr) (len cap : Nat) (w : World) (hr : IsActs w sa len cap) (hT : Tab w) :
    Calls Tryd.prog 3 #[.slice sa len cap] w fun e w' => e = .returned (.bool true) ∧ Below w.heap.size w w' := by
  by_cases hl : 60 < len
  · have hk := Lib.hid (known_any w hT)
    go_enter Tryd.func3, Tryd.ntmps3
    go_wp2_with (go_at_call 8; refine hk.out.mono ?_; rintro e w1 ⟨rfl, hb⟩)
    go_ret
    exact ⟨rfl, hb⟩
  · go_enter Tryd.func3, Tryd.ntmps3
    go_wp2_with (first | (go_at_call 9; fail))
    refine (new_in w w (fun _ => False) (fun _ h => h.elim) (Below.refl _ _)).mono ?_
    rintro e w1 ⟨a, rfl, H1, _⟩
    unfold pt
    go_wp2_with fail
    have hb1 : Below w1.heap.size w1 (w1.alloc (.cells #[.slice none 0 0] 28)) := (Below.refl _ _).alloc (Nat.le_refl _) _
    have hst : PlSt w (w1.alloc (.cells #[.slice none 0 0] 28)) a [] 0 (.slice none 0 0) w1.heap.size :=
      ⟨⟨fun k => k = w1.heap.size, ⟨H1.more hb1 (fun k hk => .inr (by subst hk; simp)), World.ownsRow_nil _ _ _ _, fun g hg => by simp [Value.ownBlock] at hg⟩, rfl⟩, BoxR.new _ _, H1.below.size⟩
    have HST := Lib.hid hst
    clear hst hb1 H1
    generalize w1.alloc (.cells #[.slice none 0 0] 28) = w2 at *
    generalize w1.heap.size = b at *
    go_loopw [3, 18] (fun p i wr => ∃ (k a : Nat) (S : List El) (P : Nat) (s : Value), k ≤ len ∧ i = .int .i64 k ∧ p = .pointer (some ⟨a, 0, none⟩) ∧ PlSt w wr a S P s b ∧ S.length ≤ k ∧ P ≤ k) (fun _ i _ => len - (intOf i).toNat)
    case atStart => exact ⟨0, a, [], 0, _, Nat.zero_le _, rfl, rfl, HST.out, Nat.le_refl _, Nat.le_refl _⟩
    case round =>
      clear HST
      obtain ⟨k, a, S, P, s, hk, rfl, rfl, hS, hSk, hPk⟩ := hrel
      obtain ⟨G, D, hGb⟩ := hS.D
      have hbox := hS.box
      have hwb := hS.hb
      have hbw := D.H.below
      obtain ⟨a1, n1, c1, rfl⟩ := row_form D.row
      by_cases hlt : k < len
      · rcases hr with h0 | ⟨ab, off, rfl, _, hblt, hcs⟩
        · omega
        · obtain ⟨x0, x1, x2, x3, c0, c1', c2, c3, _, _, _, _⟩ := hcs k hlt
          have c0 : wr.cell? ⟨ab, off + k * 4, none⟩ = some (.int .i64 x0) := (hbw.cell (p := ⟨ab, off + k * 4, none⟩) hblt).trans c0
          have c1' : wr.cell? ⟨ab, off + k * 4 + 1, none⟩ = some (.int .i64 x1) := (hbw.cell (p := ⟨ab, off + k * 4 + 1, none⟩) hblt).trans c1'
          have c2 : wr.cell? ⟨ab, off + k * 4 + 2, none⟩ = some (.int .i64 x2) := (hbw.cell (p := ⟨ab, off + k * 4 + 2, none⟩) hblt).trans c2
          have c3 : wr.cell? ⟨ab, off + k * 4 + 3, none⟩ = some (.int .u64 x3) := (hbw.cell (p := ⟨ab, off + k * 4 + 3, none⟩) hblt).trans c3
          have cb := hbox.cell
          have hbl2 := hbox.lt
          have hbne : (b == wr.heap.size) = false := by simp; omega
          have hbne2 : b ≠ wr.heap.size := by omega
          have bA : Below wr.heap.size wr (wr.alloc (.cells #[.int .i64 x0, .int .i64 x1, .int .i64 x2, .int .u64 x3] 32)) := (Below.refl _ _).alloc (Nat.le_refl _) _
          have DA : DoSt w (wr.alloc (.cells #[.int .i64 x0, .int .i64 x1, .int .i64 x2, .int .u64 x3] 32)) G a S P (.slice a1 n1 c1) := ⟨D.H.grown bA, D.row.below bA, D.own⟩
          have hboxA := Lib.hid (hbox.alloc (.cells #[.int .i64 x0, .int .i64 x1, .int .i64 x2, .int .u64 x3] 32))
          have cbA := hboxA.out.cell
          have hdo := Lib.hid (do_any DA hT (by omega) (by omega) x0 x1 x2 x3)
          clear hS D hbw hcs hbox bA DA
          go_wp2_with (go_at_call 10; fail)
          refine hdo.out.mono ?_
          rintro e W ⟨a', S', s', G', P', rfl, D', hsub, hkeep, hP', hS'⟩
          have hboxW : BoxR W b (.slice a1 n1 c1) := (hkeep b hGb).trans hboxA.out
          obtain ⟨a2, n2, c2', rfl⟩ := row_form D'.row
          have cbW := hboxW.cell
          have fbW := hboxW.free
          have hf : Fr [b] W (W.setCell ⟨b, 0, none⟩ (.slice a2 n2 c2')) := fr_setCell W ⟨b, 0, none⟩ _
          have D2 : DoSt w (W.setCell ⟨b, 0, none⟩ (.slice a2 n2 c2')) G' a' S' P' (.slice a2 n2 c2') := ⟨D'.H.write hf (fun y hy => by simp at hy; subst hy; exact ⟨hsub _ hGb, hwb⟩), D'.row.box hboxW _, D'.own⟩
          have hbox2 := Lib.hid (hboxW.set (.slice a2 n2 c2'))
          have hlook := Lib.hid (looks_any D2 (by omega))
          have c2b := hbox2.out.cell
          have HD2 := Lib.hid D2
          have hGb' := Lib.hid (hsub _ hGb)
          clear D' D2 hboxW hf hdo hkeep hsub hboxA
          go_wp2_with (go_at_call 11; fail)
          refine hlook.out.mono ?_
          rintro e W3 ⟨rfl, hb3⟩
          have hfin : Hid (PlSt w W3 a' S' P' (.slice a2 n2 c2') b) := ⟨⟨G', ⟨HD2.out.H.grown hb3, HD2.out.row.below hb3, HD2.out.own⟩, hGb'.out⟩, hbox2.out.below hb3 hbox2.out.lt, hwb⟩
          go_wp2_with fail
          go_roundw
          case rel => exact ⟨k + 1, a', S', P', _, by omega, by go_num, rfl, hfin.out, by omega, by omega⟩
          case measure => simp [intOf]; omega
      · obtain rfl : k = len := by omega
        have HB := Lib.hid hbw
        have HK := Lib.hid (known_any wr (hT.below hbw hT.lt))
        clear hS D hbw hbox
        go_wp2_with (go_at_call 8; refine HK.out.mono ?_; rintro e w6 ⟨rfl, hb6⟩)
        go_ret
        exact ⟨rfl, HB.out.trans (hb6.mono HB.out.size)⟩
end Go.Proofs.YtemjdfmbeahieaaDoor
