/- A poller that a law holds, the law's own blocks apart: every call. -/
import Derived.Test.YtcjeckjmoponkaaGreatDoorUNin
namespace Go.Proofs.YtcjeckjmoponkaaGreatDoor
open Go.RowKit Go.Sort
set_option linter.unusedVariables false
set_option linter.unusedSimpArgs false

/-- A poller, and blocks that are not its own. -/
structure LSt (w0 w : World) (Bs : Nat → Prop) (p : Nat) (x : Px) (G P : Nat) : Prop where
  ex : ∃ O, UAt w0 w O p x G P ∧ ∀ k, Bs k → ¬ O k
  lt : ∀ k, Bs k → w0.heap.size ≤ k ∧ k < w.heap.size
/-- What a call leaves. -/
structure LPost (w0 w : World) (Bs : Nat → Prop) (p : Nat) (x' : Px) (G P : Nat) (w' : World) : Prop where
  st : LSt w0 w' Bs p x' G P
  keep : Keep Bs w w'
  size : w.heap.size ≤ w'.heap.size
section
variable {w0 w w' : World} {Bs : Nat → Prop} {p : Nat} {x x' : Px} {G P G' P' : Nat}
theorem LSt.below (h : LSt w0 w Bs p x G P) : Below w0.heap.size w0 w := by obtain ⟨O, hu, _⟩ := h.ex; exact hu.below
theorem LSt.zk (h : LSt w0 w Bs p x G P) : ZK x.z := by obtain ⟨O, hu, _⟩ := h.ex; exact hu.zk
theorem LSt.grown (h : LSt w0 w Bs p x G P) (hb : Below w.heap.size w w') : LSt w0 w' Bs p x G P := by
  obtain ⟨O, hu, hn⟩ := h.ex
  exact ⟨⟨O, hu.grown hb, hn⟩, fun k hk => ⟨(h.lt k hk).1, Nat.lt_of_lt_of_le (h.lt k hk).2 hb.size⟩⟩
/-- New blocks are the law's. -/
theorem LSt.more {Bs' : Nat → Prop} (h : LSt w0 w Bs p x G P) (hb : Below w.heap.size w w') (hB : ∀ k, Bs' k → Bs k ∨ (w.heap.size ≤ k ∧ k < w'.heap.size)) : LSt w0 w' Bs' p x G P := by
  obtain ⟨O, hu, hn⟩ := h.ex
  have hz := hb.size
  have h0 := h.below.size
  refine ⟨⟨O, hu.grown hb, fun k hk ho => ?_⟩, fun k hk => ?_⟩
  · rcases hB k hk with h1 | h1
    · exact hn k h1 ho
    · have := (hu.lt ho).2; omega
  · rcases hB k hk with h1 | h1
    · have := h.lt k h1; omega
    · omega
theorem LSt.less {Bs' : Nat → Prop} (h : LSt w0 w Bs p x G P) (hB : ∀ k, Bs' k → Bs k) : LSt w0 w Bs' p x G P := h.more (Below.refl _ _) fun k hk => .inl (hB k hk)
/-- The law writes. -/
theorem LSt.write {F : List Nat} (h : LSt w0 w Bs p x G P) (hf : Fr F w w') (hF : ∀ k ∈ F, Bs k) : LSt w0 w' Bs p x G P := by
  obtain ⟨O, hu, hn⟩ := h.ex
  exact ⟨⟨O, hu.fr hf (fun k hk => ⟨(h.lt k (hF k hk)).1, hn k (hF k hk)⟩), hn⟩, fun k hk => ⟨(h.lt k hk).1, Nat.lt_of_lt_of_le (h.lt k hk).2 hf.size⟩⟩
theorem LSt.mono (h : LSt w0 w Bs p x G P) (hG : G ≤ G') (hP : P ≤ P') : LSt w0 w Bs p x G' P' := by
  obtain ⟨O, hu, hn⟩ := h.ex
  exact ⟨⟨O, hu.mono hG hP, hn⟩, h.lt⟩
theorem LPost.of_step {O : Nat → Prop} (h : LSt w0 w Bs p x G P) (hn : ∀ k, Bs k → ¬ O k) (hs : StepU w0 w O p x' G' P' w') : LPost w0 w Bs p x' G' P' w' := by
  obtain ⟨O', h1, h2, h3, h4⟩ := hs
  refine ⟨⟨⟨O', h1, fun k hk ho => ?_⟩, fun k hk => ⟨(h.lt k hk).1, Nat.lt_of_lt_of_le (h.lt k hk).2 h4⟩⟩, fun k hk => h2.out k (h.lt k hk).2 (hn k hk), h4⟩
  rcases h3 k ho with h5 | h5
  · exact hn k hk h5
  · have := (h.lt k hk).2; omega
/-- What a call that wakes leaves. -/
structure LWoke (w0 w : World) (Bs : Nat → Prop) (p : Nat) (X : List Int) (x' : Px) (G P : Nat) (w' : World) (v : Value) : Prop where
  st : LSt w0 w' (fun k => Bs k ∨ v.ownBlock = some k) p x' G P
  keep : Keep Bs w w'
  size : w.heap.size ≤ w'.heap.size
  row : Row TI w' w.heap.size v X
theorem LWoke.of_woke {O : Nat → Prop} {X : List Int} {v : Value} (h : LSt w0 w Bs p x G P) (hn : ∀ k, Bs k → ¬ O k) (hs : WokeU w0 w O p X x' G' P' w' v) : LWoke w0 w Bs p X x' G' P' w' v := by
  obtain ⟨hr, O', h1, h2, h3, h4, h5⟩ := hs
  have h0 := h.below.size
  refine ⟨⟨⟨O', h1, fun k hk ho => ?_⟩, fun k hk => ?_⟩, fun k hk => h2.out k (h.lt k hk).2 (hn k hk), h4, hr⟩
  · rcases hk with hk | hk
    · rcases h3 k ho with h6 | h6
      · exact hn k hk h6
      · have := (h.lt k hk).2; omega
    · exact h5 k hk ho
  · rcases hk with hk | hk
    · exact ⟨(h.lt k hk).1, Nat.lt_of_lt_of_le (h.lt k hk).2 h4⟩
    · have := hr.lt k hk; omega
theorem ls_start (h : LSt w0 w Bs p x G P) (hG : G ≤ 800000) (N : Int) : Calls Tryz.prog 28 #[.pointer (some ⟨p, 0, none⟩), .int .i64 N] w fun e w' => e = .returned (.int .i64 (staC x N).1) ∧ LPost w0 w Bs p (staC x N).2 (G + 1) P w' := by
  obtain ⟨O, ⟨_, _, _, _, _, _, _, _, _, hu⟩, hn⟩ := h.ex
  exact (poStart_any hu (by omega) N).mono (fun e w' q => ⟨q.1, LPost.of_step h hn q.2⟩)
theorem ls_finish (h : LSt w0 w Bs p x G P) (hG : G ≤ 800000) (N : Int) : Calls Tryz.prog 29 #[.pointer (some ⟨p, 0, none⟩), .int .i64 N] w fun e w' => e = .returned (.int .i64 (finC x N).1) ∧ LPost w0 w Bs p (finC x N).2 (G + 1) P w' := by
  obtain ⟨O, ⟨_, _, _, _, _, _, _, _, _, hu⟩, hn⟩ := h.ex
  exact (poFinish_any hu (by omega) N).mono (fun e w' q => ⟨q.1, LPost.of_step h hn q.2⟩)
theorem ls_turn (h : LSt w0 w Bs p x G P) (hG : G ≤ 800000) (N : Int) : Calls Tryz.prog 30 #[.pointer (some ⟨p, 0, none⟩), .int .i64 N] w fun e w' => e = .returned (.int .i64 (turC x N).1) ∧ LPost w0 w Bs p (turC x N).2 (G + 1) P w' := by
  obtain ⟨O, ⟨_, _, _, _, _, _, _, _, _, hu⟩, hn⟩ := h.ex
  exact (poTurn_any hu (by omega) N).mono (fun e w' q => ⟨q.1, LPost.of_step h hn q.2⟩)
theorem ls_open (h : LSt w0 w Bs p x G P) (y : Int) : Calls Tryz.prog 13 #[.pointer (some ⟨p, 0, none⟩), .int .i64 y] w fun e w' => e = .returned (.tuple #[.agg #[.int .i64 (opnC x y).1.1, .int .i64 (opnC x y).1.2], .int .i64 (opnC x y).2.1]) ∧ LPost w0 w Bs p (opnC x y).2.2 G P w' := by
  obtain ⟨O, ⟨_, _, _, _, _, _, _, _, _, hu⟩, hn⟩ := h.ex
  exact (poOpen_any hu y).mono (fun e w' q => ⟨q.1, LPost.of_step h hn q.2⟩)
theorem ls_wait (h : LSt w0 w Bs p x G P) (hG : G ≤ 800000) (i N K D : Int) : Calls Tryz.prog 27 #[.pointer (some ⟨p, 0, none⟩), .int .i64 i, .agg #[.int .i64 N, .int .i64 K], .int .i64 D] w fun e w' => e = .returned (.int .i64 (waiC x i N K D).1) ∧ LPost w0 w Bs p (waiC x i N K D).2 (G + 1) P w' := by
  obtain ⟨O, ⟨_, _, _, _, _, _, _, _, _, hu⟩, hn⟩ := h.ex
  exact (poWait_any hu (by omega) i N K D).mono (fun e w' q => ⟨q.1, LPost.of_step h hn q.2⟩)
theorem ls_signal (h : LSt w0 w Bs p x G P) (hG : G ≤ 800000) (N K D : Int) : Calls Tryz.prog 20 #[.pointer (some ⟨p, 0, none⟩), .agg #[.int .i64 N, .int .i64 K], .int .i64 D] w fun e w' => e = .returned (.tuple #[.int .i64 (sigC x N K D).1, .int .i64 (sigC x N K D).2.1]) ∧ LPost w0 w Bs p (sigC x N K D).2.2 (G + 1) P w' := by
  obtain ⟨O, ⟨_, _, _, _, _, _, _, _, _, hu⟩, hn⟩ := h.ex
  exact (poSignal_any hu (by omega) N K D).mono (fun e w' q => ⟨q.1, LPost.of_step h hn q.2⟩)
theorem ls_signalAll (h : LSt w0 w Bs p x G P) (hG : G ≤ 800000) (N K D : Int) : Calls Tryz.prog 21 #[.pointer (some ⟨p, 0, none⟩), .agg #[.int .i64 N, .int .i64 K], .int .i64 D] w fun e w' => ∃ v, e = .returned (.tuple #[v, .int .i64 (sgaC x N K D).2.1]) ∧ LWoke w0 w Bs p (sgaC x N K D).1 (sgaC x N K D).2.2 (G + (sgaC x N K D).1.length) P w' v := by
  obtain ⟨O, ⟨_, _, _, _, _, _, _, _, _, hu⟩, hn⟩ := h.ex
  exact (poSignalAll_any hu (by omega) N K D).mono (fun e w' ⟨v, q1, q2⟩ => ⟨v, q1, LWoke.of_woke h hn q2⟩)
theorem ls_deadline (h : LSt w0 w Bs p x G P) (hG : G ≤ 800000) (hT : Dl.Tab w0) (hP : P ≤ 1000000) (N K D : Int) {tt : Int} (htt : tt ≤ Dl.never) : Calls Tryz.prog 19 #[.pointer (some ⟨p, 0, none⟩), .agg #[.int .i64 N, .int .i64 K], .int .i64 D, .int .u64 tt] w fun e w' => ∃ v, e = .returned (.tuple #[v, .int .i64 (dlnC x N K D tt).2.1]) ∧ LWoke w0 w Bs p (dlnC x N K D tt).1 (dlnC x N K D tt).2.2 (G + (dlnC x N K D tt).1.length) (P + 1) w' v := by
  obtain ⟨O, ⟨_, _, _, _, _, _, _, _, _, hu⟩, hn⟩ := h.ex
  exact (poDeadline_any hu (by omega) hT (by omega) N K D htt).mono (fun e w' ⟨v, q1, q2⟩ => ⟨v, q1, LWoke.of_woke h hn q2⟩)
theorem ls_close (h : LSt w0 w Bs p x G P) (hG : G ≤ 800000) (hT : Dl.Tab w0) (hP : P ≤ 1000000) (hH : ∀ (n : Nat) (q : Sl.Pl), x.T[n]? = some q → q.g ≤ 1000000) (N K : Int) : Calls Tryz.prog 15 #[.pointer (some ⟨p, 0, none⟩), .agg #[.int .i64 N, .int .i64 K]] w fun e w' => ∃ v, e = .returned (.tuple #[v, .int .i64 (cloC x N K).2.1]) ∧ LWoke w0 w Bs p (cloC x N K).1 (cloC x N K).2.2 (G + (cloC x N K).1.length) (P + 2) w' v := by
  obtain ⟨O, ⟨_, _, _, _, _, _, _, _, _, hu⟩, hn⟩ := h.ex
  exact (poClose_any hu (by omega) hT (by omega) hH N K).mono (fun e w' ⟨v, q1, q2⟩ => ⟨v, q1, LWoke.of_woke h hn q2⟩)
theorem ls_adv_ok (h : LSt w0 w Bs p x G P) (hG : G ≤ 800000) (hP : P ≤ 1000000) {tt : Int} (htt : tt < Dl.never) (hl : x.now ≤ tt) : Calls Tryz.prog 22 #[.pointer (some ⟨p, 0, none⟩), .int .u64 tt] w fun e w' => ∃ L v, e = .returned (.tuple #[v, .int .i64 0]) ∧ Dl.IsLap x.now tt x.f L ∧ LWoke w0 w Bs p ((x.at' tt).wakes L).1 ((x.at' tt).wakes L).2 (G + ((x.at' tt).wakes L).1.length) P w' v := by
  obtain ⟨O, ⟨_, _, _, _, _, _, _, _, _, hu⟩, hn⟩ := h.ex
  exact (poAdvance_ok hu (by omega) (by omega) htt hl).mono (fun e w' ⟨L, v, q1, q2, q3⟩ => ⟨L, v, q1, q2, LWoke.of_woke h hn q3⟩)
theorem LPost.of_below (h : LSt w0 w Bs p x G P) (hb : Below w.heap.size w w') : LPost w0 w Bs p x G P w' := ⟨h.grown hb, fun k hk => hb.block k (h.lt k hk).2, hb.size⟩
theorem ls_adv_never (h : LSt w0 w Bs p x G P) : Calls Tryz.prog 22 #[.pointer (some ⟨p, 0, none⟩), .int .u64 Dl.never] w fun e w' => e = .returned (.tuple #[.slice none 0 0, .int .i64 2]) ∧ Below w.heap.size w w' := by
  obtain ⟨O, ⟨_, _, _, _, _, _, _, _, _, hu⟩, hn⟩ := h.ex
  exact poAdvance_never hu
theorem ls_adv_early (h : LSt w0 w Bs p x G P) {tt : Int} (hn : tt ≠ Dl.never) (hl : tt < x.now) : Calls Tryz.prog 22 #[.pointer (some ⟨p, 0, none⟩), .int .u64 tt] w fun e w' => e = .returned (.tuple #[.slice none 0 0, .int .i64 3]) ∧ Below w.heap.size w w' := by
  obtain ⟨O, ⟨_, _, _, _, _, _, _, _, _, hu⟩, _⟩ := h.ex
  exact poAdvance_early hu hn hl
theorem ls_state (h : LSt w0 w Bs p x G P) (N : Int) : Calls Tryz.prog 24 #[.pointer (some ⟨p, 0, none⟩), .int .i64 N] w fun e w' => e = .returned (.tuple #[.int .i64 (stC x.z N).1, .int .i64 (stC x.z N).2]) ∧ Below w.heap.size w w' := by
  obtain ⟨O, ⟨_, _, _, _, _, _, _, _, _, hu⟩, _⟩ := h.ex
  exact poState_any hu N
theorem ls_reason (h : LSt w0 w Bs p x G P) (N : Int) : Calls Tryz.prog 23 #[.pointer (some ⟨p, 0, none⟩), .int .i64 N] w fun e w' => e = .returned (.tuple #[.int .i64 (rsnC x N).1, .int .i64 (rsnC x N).2]) ∧ Below w.heap.size w w' := by
  obtain ⟨O, ⟨_, _, _, _, _, _, _, _, _, hu⟩, _⟩ := h.ex
  exact poReason_any hu N
theorem ls_check (h : LSt w0 w Bs p x G P) (N K D : Int) : Calls Tryz.prog 26 #[.pointer (some ⟨p, 0, none⟩), .agg #[.int .i64 N, .int .i64 K], .int .i64 D] w fun e w' => e = .returned (.int .i64 (chkC x N K D)) ∧ Below w.heap.size w w' := by
  obtain ⟨O, ⟨_, _, _, _, _, _, _, _, _, hu⟩, _⟩ := h.ex
  exact poCheck_any hu N K D
theorem ls_where_bad (h : LSt w0 w Bs p x G P) {i : Int} (hc : (whC x.z i).2 ≠ 0) : Calls Tryz.prog 25 #[.pointer (some ⟨p, 0, none⟩), .int .i64 i] w fun e w' => e = .returned (.tuple #[.agg #[.int .i64 0, .int .i64 0], .int .i64 0, .int .i64 (whC x.z i).2]) ∧ Below w.heap.size w w' := by
  obtain ⟨O, ⟨_, _, _, _, _, _, _, _, _, hu⟩, _⟩ := h.ex
  exact poWhere_bad hu hc
theorem ls_new (hb : Below w0.heap.size w0 w) (hmv : MvAt w) (hg0 : 0 < w0.heap.size) (hB : ∀ k, Bs k → w0.heap.size ≤ k ∧ k < w.heap.size) (c : Nat) (h1 : 1 ≤ c) (h2 : c ≤ 64) {nw : Int} (hn : nw < Dl.never) : Calls Tryz.prog 9 #[.int .i64 ((c : Nat) : Int), .int .u64 nw] w fun e w' => ∃ p, e = .returned (.tuple #[.pointer (some ⟨p, 0, none⟩), .int .i64 0]) ∧ LSt w0 w' Bs p (X0 c nw) 0 0 ∧ Below w.heap.size w w' := by
  refine (poNew_ok hb hmv hg0 c h1 h2 hn).mono ?_
  rintro e w' ⟨p, O, q1, q2, q3, q4⟩
  exact ⟨p, q1, ⟨⟨O, q2, fun k hk ho => by have := q3 k ho; have := (hB k hk).2; omega⟩, fun k hk => ⟨(hB k hk).1, Nat.lt_of_lt_of_le (hB k hk).2 q4.size⟩⟩, q4⟩
end
end Go.Proofs.YtcjeckjmoponkaaGreatDoor
