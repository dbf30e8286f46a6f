/- The law's own function do: the copy; all of do. -/
import Derived.Test.YtpbnbddjfebenaaDoorLDo3
namespace Go.Proofs.YtpbnbddjfebenaaDoor
open Go.RowKit Go.Sort
set_option linter.unusedVariables false
set_option linter.unusedSimpArgs false

/-- What a heap's blocks hold is all that counts. -/
theorem HeapAt.keep {w w' : World} {h : Hp} {S : List El} {P : Nat} (H : HeapAt w h S P) (ho : w'.os = w.os) (ht : w'.tape = w.tape) (hp : w'.output = w.output) (hs : w.heap.size ≤ w'.heap.size) (hk : ∀ k, k ∈ h.foot → w'.heap[k]? = w.heap[k]?) : HeapAt w' h S P := by
  have hf : Fr ((List.range w.heap.size).filter fun k => decide (k ∉ h.foot)) w w' := by
    refine ⟨ho, ht, hp, hs, fun k hk' hn => hk k ?_⟩
    simp only [List.mem_filter, List.mem_range, decide_eq_true_eq, not_and, Classical.not_not] at hn
    exact hn hk'
  exact H.frame hf (fun k hk' hm => by
    simp only [List.mem_filter, List.mem_range, decide_eq_true_eq] at hm
    exact hm.2 hk')

theorem zero_in (S : List El) (k v : Int) : 0 ∈ hsOf (pushS S k v) := by
  rw [hs_push]
  by_cases h : 0 ∈ hsOf S
  · exact List.mem_append_left _ h
  · have : lowOf (hsOf S) = 0 := lowOf_eq h (fun j hj => by omega)
    rw [this]
    simp

set_option maxRecDepth 100000 in
set_option maxHeartbeats 3200000 in
theorem do_copy {w0 w : World} {G : Nat → Prop} {a : Nat} {S : List El} {P : Nat} {s : Value} (D0 : DoSt w0 w G a S P s) (hT : Tab w0) (hS : S.length < 1024) (hP : P < 9223372036854775807) (x0 x1 x2 x3 : Int)
    (q0 : (x0 == 0) = false) (q1 : (x0 == 1) = false) (q2 : (x0 == 2) = false) (q3 : (x0 == 3) = false) :
    Calls Tryd.prog 6 #[.pointer (some ⟨a, 0, none⟩), .agg #[s], .agg #[.int .i64 x0, .int .i64 x1, .int .i64 x2, .int .u64 x3]] w fun e w' => DoPost w0 w G S P e w' := by
  have D := Lib.hid (D0.start #[.int .i64 x0, .int .i64 x1, .int .i64 x2, .int .u64 x3])
  obtain ⟨a1, n1, c1, rfl⟩ := row_form D0.row
  clear D0
  go_enter Tryd.func6, Tryd.ntmps6
  go_wp2_with (go_at_call 22; fail)
  refine (copy_in D.out.H).mono ?_
  rintro e W4 ⟨a', rfl, hb4, h, h', hha, hha', hA, hA', hfo, hfo'⟩
  have D4 := Lib.hid (D.out.more hb4)
  have D4' := Lib.hid (D.out.call (S' := S) (P' := P) (a' := a') (W' := W4) ⟨⟨h', hha', hA', fun k hk => Nat.le_trans D.out.H.below.size (hfo' k hk), fun k hk hg => by have := D.out.H.lt k hg; have := hfo' k hk; omega⟩, fun k hk => Nat.lt_of_lt_of_le (D.out.H.lt k hk) hb4.size, D.out.H.below.trans (hb4.mono D.out.H.below.size)⟩ (fun k hk => hb4.block k (D.out.H.lt k hk)))
  have hin : Hid (∀ k, k ∈ h'.foot → _ ≤ k ∧ k < W4.heap.size) := fun k hk => ⟨hfo' k hk, hA'.lt_foot k hk⟩
  have HA' := Lib.hid hA'
  clear hA hA' hfo hfo' hb4 hha
  unfold pt
  go_wp2_with (go_at_call 11; fail)
  refine (push_in D4.out.H 0 1 hS hT hP).mono ?_
  rintro e W5 ⟨rfl, H5, K5⟩
  generalize lowOf (hsOf S) = l
  go_wp2_with (go_at_call 15; fail)
  refine (remove_yes_in H5 0 (zero_in _ _ _)).mono ?_
  rintro e W6 ⟨rfl, H6, K6⟩
  have hs46 : W4.heap.size ≤ W6.heap.size := by
    have h1 := hin.out h'.a (by simp [Hp.foot])
    have h2 := H6.lt (W4.heap.size - 1) (.inr ⟨by omega, by omega⟩)
    omega
  have hA6 : HeapAt W6 h' S P := HA'.out.keep (H6.below.os.trans D4.out.H.below.os.symm) (H6.below.tape.trans D4.out.H.below.tape.symm) (H6.below.output.trans D4.out.H.below.output.symm) hs46 (fun k hk => (K5.trans K6) k (.inr (hin.out k hk)))
  have D6 := D4'.out.call (S' := S) (P' := P) (a' := a') (W' := W6) ⟨⟨h', hha', hA6, fun k hk => Nat.le_trans D.out.H.below.size (hin.out k hk).1, fun k hk hg => by have := D.out.H.lt k hg; have := (hin.out k hk).1; omega⟩, fun k hk => Nat.lt_of_lt_of_le (D4'.out.H.lt k hk) hs46, H6.below⟩ (fun k hk => (K5.trans K6) k (.inl hk))
  have hfin := Lib.hid (D6.fin D6.row D6.own (.slice a1 n1 c1))
  have hsub := Lib.hid D6.sub
  have c4 := D6.b4.cell
  have c7 := D6.b7.cell
  have f7 := D6.b7.free
  have hq := World.cell?_setCell_same _ _ (.slice a1 n1 c1) c7
  clear D6 D4 D4' HA' hA6 H6 K6 H5 K5 hin D
  go_wp2_with fail
  go_region
  simp only [Exit.inBlock, Exit.then]
  go_at_K
  go_wp2_with fail
  exact bodyPost_ret (v := .tuple #[.pointer (some ⟨a', 0, none⟩), .agg #[.slice a1 n1 c1], .bool true]) (by simp [results, Tryd.results6, go_sem, hq]) rfl
    ⟨_, _, _, _, _, rfl, (hfin.out 1).1, hsub.out, (hfin.out 1).2, by omega, by omega⟩

theorem do_any {w0 w : World} {G : Nat → Prop} {a : Nat} {S : List El} {P : Nat} {s : Value} (D : DoSt w0 w G a S P s) (hT : Tab w0) (hS : S.length < 1024) (hP : P < 9223372036854775807) (x0 x1 x2 x3 : Int) :
    Calls Tryd.prog 6 #[.pointer (some ⟨a, 0, none⟩), .agg #[s], .agg #[.int .i64 x0, .int .i64 x1, .int .i64 x2, .int .u64 x3]] w fun e w' => DoPost w0 w G S P e w' := by
  by_cases h0 : x0 = 0
  · subst h0; exact do_push D hT hS hP x1 x2 x3
  by_cases h1 : x0 = 1
  · subst h1
    by_cases h : isH S x1
    · obtain ⟨x, rfl, hx⟩ := h
      exact do_change_yes D hT hS hP x hx x2 x3
    · exact do_change_no D hT hS hP x1 h x2 x3
  by_cases h2 : x0 = 2
  · subst h2
    by_cases h : isH S x1
    · obtain ⟨x, rfl, hx⟩ := h
      exact do_remove_yes D hT hS hP x hx x2 x3
    · exact do_remove_no D hT hS hP x1 h x2 x3
  by_cases h3 : x0 = 3
  · subst h3
    by_cases h : S.length = 0
    · obtain rfl := List.eq_nil_of_length_eq_zero h
      exact do_pop_none D x1 x2 x3
    · cases ho : order S with
      | nil => exact absurd ho (order_ne_nil (by omega))
      | cons x r =>
        refine do_pop_some D hS (x := x) (by rw [ho]; rfl) ?_ x1 x2 x3
        exact (order_perm S.length S rfl).mem_iff.1 (by rw [ho]; simp)
  exact do_copy D hT hS hP x0 x1 x2 x3 (by simp [h0]) (by simp [h1]) (by simp [h2]) (by simp [h3])
end Go.Proofs.YtpbnbddjfebenaaDoor
