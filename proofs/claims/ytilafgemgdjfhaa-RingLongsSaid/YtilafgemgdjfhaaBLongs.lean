/- The walk of RingLongs. -/
import Derived.Test.YtilafgemgdjfhaaBKnown
namespace Go.Proofs.Ytilafgemgdjfhaa
open Go.RowKit Go.Sort
set_option linter.unusedVariables false
set_option linter.unusedSimpArgs false

theorem lies_zero {w : World} {g n : Nat} (h : w.heap[g]? = some (.cells ((List.replicate n (0 : UInt8)).map encB).toArray 5 (0, 0))) : Lies w g 0 (List.replicate n 0) := by
  refine lies_row (r := []) (t := 5) ?_
  rw [List.append_nil]; exact h

set_option maxRecDepth 100000 in
set_option maxHeartbeats 3200000 in
theorem ringLongs_in (n c : Nat) (h1 : 65530 ≤ n) (h2 : n ≤ 65540) (h3 : 1 ≤ c) (h4 : c ≤ 4096) (w : World) :
    Calls Try.prog 4 #[.int .i64 n, .int .i64 c] w fun e w' => e = .returned (.bool true) ∧ Below w.heap.size w w' := by
  have b1 : decide ((n : Int) < 65530) = false := by simp; omega
  have b2 : decide ((65540 : Int) < (n : Int)) = false := by simp; omega
  have b3 : decide ((c : Int) < 1) = false := by simp; omega
  have b4 : decide ((4096 : Int) < (c : Int)) = false := by simp; omega
  have e1 : (65530 : Int) ≤ (n : Int) := by omega
  have e2 : (n : Int) ≤ 65540 := by omega
  have e3 : (1 : Int) ≤ (c : Int) := by omega
  have e4 : (c : Int) ≤ 4096 := by omega
  have hN := Lib.hid (And.intro h1 (And.intro h2 (And.intro h3 h4)))
  obtain ⟨i0, hi0, hz0, hz1, hz2⟩ := info_parts infoU8
  have hcc : ((c : Int) == (c : Int)) = true := by simp
  clear h1 h2 h3 h4
  go_enter Try.func4, Try.ntmps4
  go_wp2_with (go_at_call 9; fail)
  refine (new_ok (w0 := w) (w := w) (G := fun _ => False) c hN.out.2.2.1 hN.out.2.2.2 (Below.refl _ _) (fun _ h => h.elim)).mono ?_
  rintro e w1 ⟨a, rfl, R1, _⟩
  have H1 := Lib.hid R1
  clear R1
  unfold pt
  go_wp2_with (with_reducible refine wpList_make_full _ rfl (.tmp 37) (.tmp 37) 24 rfl w1.heap.size 5 i0 (.int .u8 0) 1 Try.underlying24 hi0 hz0 hz1 _ _ _ _ n rfl rfl rfl rfl ?_ ?_ (Nat.le_refl _) ?_)
  · rw [hz2]; have := hN.out; omega
  · have := hN.out; unfold maxLen; omega
  intro W hown hgrow
  have HF : Hid (Fr [] w1 W) := Lib.hid ((fr_grown hgrow).mono (by simp))
  have HG1 : Hid (W.heap[w1.heap.size]? = some (.cells ((List.replicate n (0 : UInt8)).map encB).toArray 5 (0, 0))) := Lib.hid (by rw [← made_eq]; exact made_heap hown)
  have H2 : Hid (RgIn w (fun k => k = w1.heap.size) W a c []) := Lib.hid (H1.out.more (HF.out.below (fun x hx => by simp at hx) (Nat.le_refl _)) (fun k hk => by right; subst hk; exact ⟨Nat.le_refl _, lt_of_block HG1.out⟩))
  clear hown hgrow
  have hgt : (65536 : Int) < (n : Int) ∨ (n : Int) ≤ 65536 := by omega
  rcases hgt with hg | hg
  · have hw := Lib.hid (writeLong_in H2.out (ao := some ⟨w1.heap.size, 0, none⟩) (L := n) (lc := n) (by omega) (by unfold maxLen; omega))
    have hl := Lib.hid (len_in H2.out)
    have hk := Lib.hid (known_any W)
    unfold pt at *
    go_wp2_with (first | (go_at_call 11; refine hw.out.mono ?_; rintro e w4 ⟨rfl, rfl⟩) | (go_at_call 21; refine hl.out.mono ?_; rintro e w4 ⟨rfl, rfl⟩) | (go_at_call 8; refine hk.out.mono ?_; rintro e w4 ⟨rfl, hb⟩))
    go_ret
    exact ⟨rfl, H2.out.below.trans (hb.mono H2.out.below.size)⟩
  · have hd : decide ((65536 : Int) < (n : Int)) = false := by simp; omega
    have hmin : min (List.replicate n (0 : UInt8)).length (c - ([] : List UInt8).length) = c := by have := hN.out; simp; omega
    have hw := write_in H2.out (ao := some ⟨w1.heap.size, 0, none⟩) (L := n) (lc := n) (P := List.replicate n 0) (.inr ⟨_, _, rfl, by simp, Nat.le_refl _, by unfold maxLen; omega, lies_zero HG1.out, .inr rfl⟩) (by simp; omega)
    rw [hmin] at hw
    have HW := Lib.hid hw
    have hlen : Hid (([] ++ (List.replicate n (0 : UInt8)).take c).length = c) := Lib.hid (by have := hN.out; simp; omega)
    clear hw hmin
    unfold pt at *
    go_wp2_with (go_at_call 11; fail)
    refine HW.out.mono ?_
    rintro e w4 ⟨rfl, A4⟩
    have hf := free_in A4.rg
    rw [hlen.out, Nat.sub_self] at hf
    have HFr := Lib.hid hf
    have H4 := Lib.hid A4.rg
    have hk := Lib.hid (known_any w4)
    clear A4 hf
    unfold pt at *
    go_wp2_with (first | (go_at_call 23; refine HFr.out.mono ?_; rintro e w5 ⟨rfl, rfl⟩) | (go_at_call 8; refine hk.out.mono ?_; rintro e w5 ⟨rfl, hb⟩))
    go_ret
    exact ⟨rfl, H4.out.below.trans (hb.mono H4.out.below.size)⟩

set_option maxRecDepth 100000 in
set_option maxHeartbeats 1600000 in
theorem ringLongs_out (n c : Int) (h : n < 65530 ∨ 65540 < n ∨ c < 1 ∨ 4096 < c) (w : World) :
    Calls Try.prog 4 #[.int .i64 n, .int .i64 c] w fun e w' => e = .returned (.bool true) ∧ Below w.heap.size w w' := by
  have hk := Lib.hid (known_any w)
  rcases (by omega : n < 65530 ∨ (65530 ≤ n ∧ 65540 < n) ∨ (65530 ≤ n ∧ n ≤ 65540 ∧ c < 1) ∨ (65530 ≤ n ∧ n ≤ 65540 ∧ 1 ≤ c ∧ 4096 < c)) with h1 | ⟨f1, h1⟩ | ⟨f1, f2, h1⟩ | ⟨f1, f2, f3, h1⟩
  all_goals (
    clear h
    go_enter Try.func4, Try.ntmps4
    go_wp2_with (go_at_call 8; refine hk.out.mono ?_; rintro e w5 ⟨rfl, hb⟩)
    go_ret
    exact ⟨rfl, hb⟩)

theorem ringLongs_walk (n c : Int) (w : World) (_ : (Lit.int .i64 n).wf = true) (_ : (Lit.int .i64 c).wf = true) :
    Calls Try.prog 4 #[.int .i64 n, .int .i64 c] w fun e w' => e = .returned (.bool true) ∧ Below w.heap.size w w' := by
  by_cases h : n < 65530 ∨ 65540 < n ∨ c < 1 ∨ 4096 < c
  · exact ringLongs_out n c h w
  · obtain ⟨m, rfl⟩ : ∃ m : Nat, n = m := ⟨n.toNat, by omega⟩
    obtain ⟨d, rfl⟩ : ∃ d : Nat, c = d := ⟨c.toNat, by omega⟩
    exact ringLongs_in m d (by omega) (by omega) (by omega) (by omega) w
end Go.Proofs.Ytilafgemgdjfhaa
