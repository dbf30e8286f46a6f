/- The law's own function do: taking the top, and the copy; all of do. -/
import Derived.Test.YtpbnbddjfebenaaDoorLDo2
namespace Go.Proofs.YtpbnbddjfebenaaDoor
open Go.RowKit Go.Sort
set_option linter.unusedVariables false
set_option linter.unusedSimpArgs false

set_option maxRecDepth 100000 in
set_option maxHeartbeats 3200000 in
theorem do_pop_none {w0 w : World} {G : Nat → Prop} {a : Nat} {P : Nat} {s : Value} (D0 : DoSt w0 w G a [] P s) (x1 x2 x3 : Int) :
    Calls Tryd.prog 6 #[.pointer (some ⟨a, 0, none⟩), .agg #[s], .agg #[.int .i64 3, .int .i64 x1, .int .i64 x2, .int .u64 x3]] w fun e w' => DoPost w0 w G [] P e w' := by
  have D := Lib.hid (D0.start #[.int .i64 3, .int .i64 x1, .int .i64 x2, .int .u64 x3])
  obtain ⟨a1, n1, c1, rfl⟩ := row_form D0.row
  clear D0
  go_enter Tryd.func6, Tryd.ntmps6
  go_wp2_with (go_at_call 9; fail)
  refine (top_none_in D.out.H).mono ?_
  rintro e W4 ⟨rfl, rfl⟩
  have href := Lib.hid (rtop_none D.out.row)
  go_wp2_with (go_at_call 21; fail)
  refine href.out.mono ?_
  rintro e W5 ⟨rfl, hb5⟩
  have D6 := D.out.more hb5
  have hfin := Lib.hid (D6.fin D6.row D6.own (.slice a1 n1 c1))
  have hsub := Lib.hid D6.sub
  have c4 := D6.b4.cell
  have c7 := D6.b7.cell
  have f7 := D6.b7.free
  have hq := World.cell?_setCell_same _ _ (.slice a1 n1 c1) c7
  clear D6 hb5 D href
  go_wp2_with fail
  go_region
  simp only [Exit.inBlock, Exit.then]
  go_at_K
  go_wp2_with fail
  exact bodyPost_ret (v := .tuple #[.pointer (some ⟨a, 0, none⟩), .agg #[.slice a1 n1 c1], .bool true]) (by simp [results, Tryd.results6, go_sem, hq]) rfl
    ⟨_, _, _, _, _, rfl, (hfin.out 1).1, hsub.out, (hfin.out 1).2, by omega, by omega⟩

set_option maxRecDepth 100000 in
set_option maxHeartbeats 3200000 in
theorem do_pop_some {w0 w : World} {G : Nat → Prop} {a : Nat} {S : List El} {P : Nat} {s : Value} (D0 : DoSt w0 w G a S P s) (hS : S.length < 1024) {x : Nat} (hx : (order S).head? = some x) (hm : x ∈ hsOf S) (x1 x2 x3 : Int) :
    Calls Tryd.prog 6 #[.pointer (some ⟨a, 0, none⟩), .agg #[s], .agg #[.int .i64 3, .int .i64 x1, .int .i64 x2, .int .u64 x3]] w fun e w' => DoPost w0 w G S P e w' := by
  have D := Lib.hid (D0.start #[.int .i64 3, .int .i64 x1, .int .i64 x2, .int .u64 x3])
  have hnd := D0.H.nodup
  obtain ⟨a1, n1, c1, rfl⟩ := row_form D0.row
  clear D0
  go_enter Tryd.func6, Tryd.ntmps6
  go_wp2_with (go_at_call 9; fail)
  refine (top_some_in D.out.H hx).mono ?_
  rintro e W4 ⟨rfl, rfl⟩
  have href := Lib.hid (rtop_some D.out.row (by omega) hx)
  go_wp2_with (go_at_call 21; fail)
  refine href.out.mono ?_
  rintro e W5 ⟨rfl, hb5⟩
  have D5 := Lib.hid (D.out.more hb5)
  have s5 := Lib.hid (fun k hk => D5.out.sub k hk)
  clear hb5 D href hx
  go_wp2_with (go_at_call 15; fail)
  refine (remove_yes_in D5.out.H x hm).mono ?_
  rintro e W6 ⟨rfl, H6, K6⟩
  have D6 := Lib.hid (D5.out.call H6 K6)
  have c4 := D6.out.b4.cell
  have href := Lib.hid (rremove_yes D6.out.row (by omega) hnd x hm)
  clear D5 H6 K6
  go_wp2_with (go_at_call 20; fail)
  refine href.out.mono ?_
  rintro e W7 ⟨s', rfl, row7, hb7⟩
  obtain ⟨a2, n2, c2, rfl⟩ := row_form row7
  have hb8 : Below W6.heap.size W6 (W7.alloc (.cells #[.slice a2 n2 c2] 28)) := hb7.alloc hb7.size _
  have D8 := D6.out.more hb8
  have row8 : RowR (W7.alloc (.cells #[.slice a2 n2 c2] 28)) W6.heap.size (.slice a2 n2 c2) (removeS S x) := row7.below ((Below.refl _ _).alloc (Nat.le_refl _) _)
  have hfin := Lib.hid (D8.fin (row8.mono (Nat.zero_le _)) (fun g hg => Or.inr (row8.lt g hg)) (.slice a2 n2 c2))
  have hsub := Lib.hid D8.sub
  have c7 := D8.b7.cell
  have f7 := D8.b7.free
  have hq := World.cell?_setCell_same _ _ (.slice a2 n2 c2) c7
  clear D8 row8 row7 hb8 hb7 D6 href hnd hm s5
  go_wp2_with fail
  go_region
  simp only [Exit.inBlock, Exit.then]
  go_at_K
  go_wp2_with fail
  exact bodyPost_ret (v := .tuple #[.pointer (some ⟨a, 0, none⟩), .agg #[.slice a2 n2 c2], .bool true]) (by simp [results, Tryd.results6, go_sem, hq]) rfl
    ⟨_, _, _, _, _, rfl, (hfin.out 1).1, hsub.out, (hfin.out 1).2, by omega, len_remove _ _⟩
end Go.Proofs.YtpbnbddjfebenaaDoor
