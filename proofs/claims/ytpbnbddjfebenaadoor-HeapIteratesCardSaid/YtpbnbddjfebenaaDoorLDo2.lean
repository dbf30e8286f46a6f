/- The law's own function do: Change and Remove. -/
import Derived.Test.YtpbnbddjfebenaaDoorLDo
namespace Go.Proofs.YtpbnbddjfebenaaDoor
open Go.RowKit Go.Sort
set_option linter.unusedVariables false
set_option linter.unusedSimpArgs false

theorem len_change (S : List El) (x : Nat) (k : Int) : (changeS S x k).length ≤ S.length + 1 := by simp [changeS]
theorem len_remove (S : List El) (x : Nat) : (removeS S x).length ≤ S.length + 1 := Nat.le_trans (List.length_filter_le _ _) (Nat.le_succ _)

set_option maxRecDepth 100000 in
set_option maxHeartbeats 3200000 in
theorem do_change_yes {w0 w : World} {G : Nat → Prop} {a : Nat} {S : List El} {P : Nat} {s : Value} (D0 : DoSt w0 w G a S P s) (hT : Tab w0) (hS : S.length < 1024) (hP : P < 9223372036854775807) (x : Nat) (hx : x ∈ hsOf S) (x2 x3 : Int) :
    Calls Tryd.prog 6 #[.pointer (some ⟨a, 0, none⟩), .agg #[s], .agg #[.int .i64 1, .int .i64 x, .int .i64 x2, .int .u64 x3]] w fun e w' => DoPost w0 w G S P e w' := by
  have D := Lib.hid (D0.start #[.int .i64 1, .int .i64 x, .int .i64 x2, .int .u64 x3])
  obtain ⟨a1, n1, c1, rfl⟩ := row_form D0.row
  clear D0
  have hnd := D.out.H.nodup
  go_enter Tryd.func6, Tryd.ntmps6
  go_wp2_with (go_at_call 10; fail)
  refine (change_yes_in D.out.H x x3 hx).mono ?_
  rintro e W4 ⟨rfl, H4, K4⟩
  have D4 := Lib.hid (D.out.call H4 K4)
  have c4 := D4.out.b4.cell
  have k1 := cells_cell (o := 1) D4.out.act rfl
  have k3 := cells_cell (o := 3) D4.out.act rfl
  have href := Lib.hid (rchange_yes D4.out.row (by omega) hnd x x3 hx)
  clear D H4 K4
  go_wp2_with (go_at_call 19; fail)
  refine href.out.mono ?_
  rintro e W5 ⟨s', rfl, row5, hb5⟩
  obtain ⟨a2, n2, c2, rfl⟩ := row_form row5
  have hb6 : Below W4.heap.size W4 (W5.alloc (.cells #[.slice a2 n2 c2] 28)) := hb5.alloc hb5.size _
  have D6 := D4.out.more hb6
  have row6 : RowR (W5.alloc (.cells #[.slice a2 n2 c2] 28)) W4.heap.size (.slice a2 n2 c2) (changeS S x x3) := row5.below ((Below.refl _ _).alloc (Nat.le_refl _) _)
  have hfin := Lib.hid (D6.fin (row6.mono (Nat.zero_le _)) (fun g hg => Or.inr (row6.lt g hg)) (.slice a2 n2 c2))
  have hsub := Lib.hid D6.sub
  have c7 := D6.b7.cell
  have f7 := D6.b7.free
  have hq := World.cell?_setCell_same _ _ (.slice a2 n2 c2) c7
  clear D6 row6 row5 hb6 hb5 D4 href hnd hx
  go_wp2_with fail
  go_region
  simp only [Exit.inBlock, Exit.then]
  go_at_K
  go_wp2_with fail
  exact bodyPost_ret (v := .tuple #[.pointer (some ⟨a, 0, none⟩), .agg #[.slice a2 n2 c2], .bool true]) (by simp [results, Tryd.results6, go_sem, hq]) rfl
    ⟨_, _, _, _, _, rfl, (hfin.out 1).1, hsub.out, (hfin.out 1).2, by omega, len_change _ _ _⟩

set_option maxRecDepth 100000 in
set_option maxHeartbeats 3200000 in
theorem do_change_no {w0 w : World} {G : Nat → Prop} {a : Nat} {S : List El} {P : Nat} {s : Value} (D0 : DoSt w0 w G a S P s) (hT : Tab w0) (hS : S.length < 1024) (hP : P < 9223372036854775807) (x1 : Int) (hx : ¬ isH S x1) (x2 x3 : Int) :
    Calls Tryd.prog 6 #[.pointer (some ⟨a, 0, none⟩), .agg #[s], .agg #[.int .i64 1, .int .i64 x1, .int .i64 x2, .int .u64 x3]] w fun e w' => DoPost w0 w G S P e w' := by
  have D := Lib.hid (D0.start #[.int .i64 1, .int .i64 x1, .int .i64 x2, .int .u64 x3])
  obtain ⟨a1, n1, c1, rfl⟩ := row_form D0.row
  clear D0
  go_enter Tryd.func6, Tryd.ntmps6
  go_wp2_with (go_at_call 10; fail)
  refine (change_no_in D.out.H x1 x3 hx).mono ?_
  rintro e W4 ⟨rfl, rfl⟩
  have href := Lib.hid (rchange_no D.out.row (by omega) x1 x3 hx)
  go_wp2_with (go_at_call 19; fail)
  refine href.out.mono ?_
  rintro e W5 ⟨rfl, hb5⟩
  have hb6 := hb5.alloc (o := .cells #[.slice a1 n1 c1] 28) hb5.size
  have D6 := D.out.more hb6
  have hfin := Lib.hid (D6.fin D6.row D6.own (.slice a1 n1 c1))
  have hsub := Lib.hid D6.sub
  have c7 := D6.b7.cell
  have f7 := D6.b7.free
  have hq := World.cell?_setCell_same _ _ (.slice a1 n1 c1) c7
  clear D6 hb6 hb5 D href hx
  go_wp2_with fail
  go_region
  simp only [Exit.inBlock, Exit.then]
  go_at_K
  go_wp2_with fail
  exact bodyPost_ret (v := .tuple #[.pointer (some ⟨a, 0, none⟩), .agg #[.slice a1 n1 c1], .bool true]) (by simp [results, Tryd.results6, go_sem, hq]) rfl
    ⟨_, _, _, _, _, rfl, (hfin.out 1).1, hsub.out, (hfin.out 1).2, by omega, by omega⟩

set_option maxRecDepth 100000 in
set_option maxHeartbeats 3200000 in
theorem do_remove_yes {w0 w : World} {G : Nat → Prop} {a : Nat} {S : List El} {P : Nat} {s : Value} (D0 : DoSt w0 w G a S P s) (hT : Tab w0) (hS : S.length < 1024) (hP : P < 9223372036854775807) (x : Nat) (hx : x ∈ hsOf S) (x2 x3 : Int) :
    Calls Tryd.prog 6 #[.pointer (some ⟨a, 0, none⟩), .agg #[s], .agg #[.int .i64 2, .int .i64 x, .int .i64 x2, .int .u64 x3]] w fun e w' => DoPost w0 w G S P e w' := by
  have D := Lib.hid (D0.start #[.int .i64 2, .int .i64 x, .int .i64 x2, .int .u64 x3])
  obtain ⟨a1, n1, c1, rfl⟩ := row_form D0.row
  clear D0
  have hnd := D.out.H.nodup
  go_enter Tryd.func6, Tryd.ntmps6
  go_wp2_with (go_at_call 15; fail)
  refine (remove_yes_in D.out.H x hx).mono ?_
  rintro e W4 ⟨rfl, H4, K4⟩
  have D4 := Lib.hid (D.out.call H4 K4)
  have c4 := D4.out.b4.cell
  have k1 := cells_cell (o := 1) D4.out.act rfl
  have k3 := cells_cell (o := 3) D4.out.act rfl
  have href := Lib.hid (rremove_yes D4.out.row (by omega) hnd x hx)
  clear D H4 K4
  go_wp2_with (go_at_call 20; fail)
  refine href.out.mono ?_
  rintro e W5 ⟨s', rfl, row5, hb5⟩
  obtain ⟨a2, n2, c2, rfl⟩ := row_form row5
  have hb6 : Below W4.heap.size W4 (W5.alloc (.cells #[.slice a2 n2 c2] 28)) := hb5.alloc hb5.size _
  have D6 := D4.out.more hb6
  have row6 : RowR (W5.alloc (.cells #[.slice a2 n2 c2] 28)) W4.heap.size (.slice a2 n2 c2) (removeS S x) := row5.below ((Below.refl _ _).alloc (Nat.le_refl _) _)
  have hfin := Lib.hid (D6.fin (row6.mono (Nat.zero_le _)) (fun g hg => Or.inr (row6.lt g hg)) (.slice a2 n2 c2))
  have hsub := Lib.hid D6.sub
  have c7 := D6.b7.cell
  have f7 := D6.b7.free
  have hq := World.cell?_setCell_same _ _ (.slice a2 n2 c2) c7
  clear D6 row6 row5 hb6 hb5 D4 href hnd hx
  go_wp2_with fail
  go_region
  simp only [Exit.inBlock, Exit.then]
  go_at_K
  go_wp2_with fail
  exact bodyPost_ret (v := .tuple #[.pointer (some ⟨a, 0, none⟩), .agg #[.slice a2 n2 c2], .bool true]) (by simp [results, Tryd.results6, go_sem, hq]) rfl
    ⟨_, _, _, _, _, rfl, (hfin.out 1).1, hsub.out, (hfin.out 1).2, by omega, len_remove _ _⟩

set_option maxRecDepth 100000 in
set_option maxHeartbeats 3200000 in
theorem do_remove_no {w0 w : World} {G : Nat → Prop} {a : Nat} {S : List El} {P : Nat} {s : Value} (D0 : DoSt w0 w G a S P s) (hT : Tab w0) (hS : S.length < 1024) (hP : P < 9223372036854775807) (x1 : Int) (hx : ¬ isH S x1) (x2 x3 : Int) :
    Calls Tryd.prog 6 #[.pointer (some ⟨a, 0, none⟩), .agg #[s], .agg #[.int .i64 2, .int .i64 x1, .int .i64 x2, .int .u64 x3]] w fun e w' => DoPost w0 w G S P e w' := by
  have D := Lib.hid (D0.start #[.int .i64 2, .int .i64 x1, .int .i64 x2, .int .u64 x3])
  obtain ⟨a1, n1, c1, rfl⟩ := row_form D0.row
  clear D0
  go_enter Tryd.func6, Tryd.ntmps6
  go_wp2_with (go_at_call 15; fail)
  refine (remove_no_in D.out.H x1 hx).mono ?_
  rintro e W4 ⟨rfl, rfl⟩
  have href := Lib.hid (rremove_no D.out.row (by omega) x1 hx)
  go_wp2_with (go_at_call 20; fail)
  refine href.out.mono ?_
  rintro e W5 ⟨rfl, hb5⟩
  have hb6 := hb5.alloc (o := .cells #[.slice a1 n1 c1] 28) hb5.size
  have D6 := D.out.more hb6
  have hfin := Lib.hid (D6.fin D6.row D6.own (.slice a1 n1 c1))
  have hsub := Lib.hid D6.sub
  have c7 := D6.b7.cell
  have f7 := D6.b7.free
  have hq := World.cell?_setCell_same _ _ (.slice a1 n1 c1) c7
  clear D6 hb6 hb5 D href hx
  go_wp2_with fail
  go_region
  simp only [Exit.inBlock, Exit.then]
  go_at_K
  go_wp2_with fail
  exact bodyPost_ret (v := .tuple #[.pointer (some ⟨a, 0, none⟩), .agg #[.slice a1 n1 c1], .bool true]) (by simp [results, Tryd.results6, go_sem, hq]) rfl
    ⟨_, _, _, _, _, rfl, (hfin.out 1).1, hsub.out, (hfin.out 1).2, by omega, by omega⟩
end Go.Proofs.YtpbnbddjfebenaaDoor
