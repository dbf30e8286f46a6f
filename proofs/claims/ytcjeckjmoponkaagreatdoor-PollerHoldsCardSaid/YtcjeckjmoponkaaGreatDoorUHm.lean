/- PollerHolds in memory: who is in a list, Where, the law's tables. -/
import Derived.Test.YtcjeckjmoponkaaGreatDoorUHs
import Derived.Test.YtcjeckjmoponkaaGreatDoorUWh
import Derived.Test.YtcjeckjmoponkaaGreatDoorUKnown
namespace Go.Proofs.YtcjeckjmoponkaaGreatDoor
open Go.RowKit Go.Sort
set_option linter.unusedVariables false
set_option linter.unusedSimpArgs false
theorem take_none {X : List Int} {n : Int} {k : Nat} (h : n ∉ X.take k) (hk : k < X.length) (hn : X[k] ≠ n) : n ∉ X.take (k + 1) := by
  rw [List.take_add_one, List.getElem?_eq_getElem hk]
  simp only [Option.toList_some, List.mem_append, List.mem_singleton, not_or]
  exact ⟨h, fun e => hn e.symm⟩
set_option maxRecDepth 100000 in
set_option maxHeartbeats 3200000 in
theorem has_any {w : World} {v : Value} {X : List Int} (h : Src TI w v X) (hl : X.length ≤ 1000000) (n : Int) : Calls Tryz.prog 37 #[v, .int .i64 n] w fun e w' => e = .returned (.bool (decide (n ∈ X))) ∧ Below w.heap.size w w' := by
  obtain ⟨a, c, rfl, hv1, hv2⟩ := h.form
  have HS := Lib.hid h
  obtain ⟨N, hN⟩ : ∃ N, N = X.length := ⟨_, rfl⟩
  have HN := Lib.hid hN
  rw [← hN] at HS hl hv1 ⊢
  have g1 : ((N : Nat) : Int) ≤ 1000000 := by omega
  clear h hN
  go_enter Tryz.func37, Tryz.ntmps37
  go_wp2
  go_loopw [9] (fun i wr => ∃ k : Nat, k ≤ N ∧ i = .int .i64 (k : Nat) ∧ wr = w ∧ Hid (n ∉ X.take k)) (fun i _ => N - (intOf i).toNat)
  case atStart => exact ⟨0, Nat.zero_le _, rfl, rfl, Lib.hid (by simp)⟩
  case round =>
    obtain ⟨k, hk, rfl, rfl, hg⟩ := hrel
    by_cases hlt : k < N
    · have hkX : k < X.length := by rw [← HN.out]; exact hlt
      obtain ⟨a, o1, c1, e1, _, _, l1, k1⟩ := Src.int HS.out hkX
      simp only [Value.slice.injEq] at e1
      obtain ⟨rfl, _, rfl⟩ := e1
      have q3 : (k : Int) < (N : Int) := by omega
      have HX : Hid (X[k] = n → n ∈ X) := Lib.hid (fun e => e ▸ List.getElem_mem hkX)
      have HT : Hid (X[k] ≠ n → n ∉ X.take (k + 1)) := Lib.hid (take_none hg.out hkX)
      generalize X[k] = x at *
      clear HS HN hkX hg
      by_cases hx : x = n
      · subst hx
        go_wp2_with fail
        go_ret
        exact ⟨by rw [decide_eq_true (by simpa using HX.out)]; rfl, Below.refl _ _⟩
      · have d1 : decide (x = n) = false := by simpa using hx
        go_wp2_with fail
        go_roundw
        case rel => exact ⟨k + 1, by omega, by go_num, by first | rfl | trivial, Lib.hid (HT.out hx)⟩
        case measure => simp [intOf]; omega
    · obtain rfl : k = N := by omega
      have hn : n ∉ X := by have := hg.out; rw [HN.out, List.take_length] at this; exact this
      have HNO := Lib.hid hn
      clear HS hg hn
      go_wp2_with fail
      go_ret
      exact ⟨by rw [decide_eq_false HNO.out]; rfl, Below.refl _ _⟩
set_option maxRecDepth 100000 in
set_option maxHeartbeats 1600000 in
theorem reason_any {w0 w : World} {Bs : Nat → Prop} {p : Nat} {x : Px} {G P : Nat} (h : LSt w0 w Bs p x G P) {i y r : Int} (hr : rsnC x i = (r, 0)) : Calls Tryz.prog 35 #[.pointer (some ⟨p, 0, none⟩), .int .i64 i, .int .i64 y] w fun e w' => e = .returned (.bool (decide (r = y))) ∧ Below w.heap.size w w' := by
  have HS := Lib.hid (ls_reason h i)
  rw [hr] at HS
  simp only at HS
  clear h hr
  go_enter Tryz.func35, Tryz.ntmps35
  by_cases hq : r = y
  · subst hq
    go_wp2_with (go_at_call 23; fail)
    refine HS.out.mono ?_
    rintro e w1 ⟨rfl, hg⟩
    have HG := Lib.hid hg
    clear hg
    go_wp2_with fail
    go_ret
    exact ⟨by first | rfl | (simp; done) | (rw [decide_eq_true rfl]; rfl), HG.out⟩
  · have d1 : decide (r = y) = false := by simpa using hq
    rw [d1]
    go_wp2_with (go_at_call 23; fail)
    refine HS.out.mono ?_
    rintro e w1 ⟨rfl, hg⟩
    have HG := Lib.hid hg
    clear hg
    go_wp2_with fail
    go_ret
    exact ⟨rfl, HG.out⟩
theorem ls_where {w0 w : World} {Bs : Nat → Prop} {p : Nat} {x : Px} {G P : Nat} (h : LSt w0 w Bs p x G P) (i : Int) : Calls Tryz.prog 25 #[.pointer (some ⟨p, 0, none⟩), .int .i64 i] w fun e w' => e = .returned (.tuple #[.agg #[.int .i64 (wheC x i).1.1, .int .i64 (wheC x i).1.2], .int .i64 (wheC x i).2.1, .int .i64 (wheC x i).2.2]) ∧ Below w.heap.size w w' := by
  by_cases hc : (whC x.z i).2 = 0
  · obtain ⟨O, ⟨_, _, _, _, _, _, _, _, _, hu⟩, _⟩ := h.ex
    have e : (wheC x i).2.2 = 0 := by unfold wheC; rw [if_neg (by simp [hc])]
    rw [e]
    exact poWhere_ok hu hc
  · have e : wheC x i = ((0, 0), 0, (whC x.z i).2) := by unfold wheC; rw [if_pos hc]
    rw [e]
    exact ls_where_bad h hc
/-- A table of the law. -/
structure TabC (w : World) (b t n : Nat) (f : Nat → Value) : Prop where
  ex : ∃ cur, w.heap[b]? = some (.cells cur t (0, 0)) ∧ cur.size = n ∧ ∀ j, j < n → cur[j]? = some (f j)
def updC (f : Nat → Value) (x : Nat) (v : Value) : Nat → Value := fun j => if j = x then v else f j
section
variable {w w' : World} {b t n : Nat} {f : Nat → Value}
theorem TabC.cell (h : TabC w b t n f) {x : Nat} (hx : x < n) : w.cell? ⟨b, x, none⟩ = some (f x) := by
  obtain ⟨cur, h1, _, h2⟩ := h.ex
  exact cells_cell h1 (h2 x hx)
theorem TabC.free (h : TabC w b t n f) (x : Nat) : w.frozen? ⟨b, x, none⟩ = false := by
  obtain ⟨cur, h1, _⟩ := h.ex
  exact cells_free h1 x
theorem TabC.keep (h : TabC w b t n f) (hk : w'.heap[b]? = w.heap[b]?) : TabC w' b t n f := by
  obtain ⟨cur, h1, h2⟩ := h.ex
  exact ⟨cur, hk.trans h1, h2⟩
theorem TabC.set (h : TabC w b t n f) (x : Nat) (v : Value) : TabC (w.setCell ⟨b, x, none⟩ v) b t n (updC f x v) := by
  obtain ⟨cur, h1, hs, h2⟩ := h.ex
  refine ⟨_, cells_set h1 x _, by simpa using hs, fun y hy => ?_⟩
  unfold updC
  by_cases q : y = x
  · subst q; rw [if_pos rfl]; simp [hs, hy]
  · rw [if_neg q, Array.getElem?_setIfInBounds_ne (fun e => q e.symm)]; exact h2 y hy
theorem TabC.lt (h : TabC w b t n f) : b < w.heap.size := by
  obtain ⟨cur, h1, _⟩ := h.ex
  exact lt_of_block h1
theorem TabC.grown (h : TabC w b t n f) (hb : Below w.heap.size w w') : TabC w' b t n f := h.keep (hb.block b h.lt)
end
end Go.Proofs.YtcjeckjmoponkaaGreatDoor
