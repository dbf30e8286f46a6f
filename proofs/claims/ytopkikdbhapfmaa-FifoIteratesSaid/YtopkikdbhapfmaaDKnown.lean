/- The law's own pushes, pops, places; known. -/
import Derived.Test.YtopkikdbhapfmaaDAll
namespace Go.Proofs.Ytopkikdbhapfmaa
open Go.RowKit Go.Sort Go.MapKept
set_option linter.unusedVariables false
set_option linter.unusedSimpArgs false

/-- A queue that a law has made. -/
structure KQ (w0 w : World) (q b m : Nat) (L : Qu) (g : Nat) : Prop where
  Q : QAt w q b m L g
  below : Below w0.heap.size w0 w
  lq : w0.heap.size ≤ q
  lb : w0.heap.size ≤ b
  lm : w0.heap.size ≤ m
section
variable {w0 w w' : World} {q b m g g' : Nat} {L L' : Qu}
theorem KQ.step (h : KQ w0 w q b m L g) (hq : QAt w' q b m L' g') (hf : Fr [b, m] w w') : KQ w0 w' q b m L' g' :=
  ⟨hq, h.below.trans (hf.below (fun x hx => by
    have := h.lb; have := h.lm
    simp at hx
    rcases hx with rfl | rfl <;> assumption) h.below.size), h.lq, h.lb, h.lm⟩
theorem KQ.grown (h : KQ w0 w q b m L g) (hb : Below w.heap.size w w') : KQ w0 w' q b m L g := ⟨h.Q.grown hb, h.below.trans (hb.mono h.below.size), h.lq, h.lb, h.lm⟩
theorem QAt.alls (h : QAt w q b m L g) (hg : g ≤ 1000000000) : AllsAt w (.pointer (some ⟨q, 0, none⟩)) L := fun w' hb => fiAll_any (h.grown hb) hg [] (fun x hx => by cases hx)
theorem NoQ.alls {v : Value} (h : NoQ w v) : AllsAt w v [] := fun w' hb => fiAll_nil (h.grown hb) [] (fun x hx => by cases hx)
end

theorem pops_yes {w : World} {q b m g t : Nat} {v : Int} {L : Qu} (h : QAt w q b m ((t, v) :: L) g) : Calls Try.prog 18 #[.pointer (some ⟨q, 0, none⟩), .int .i64 v, .int .u64 ((t : Nat) : Int)] w fun e w' => e = .returned (.bool true) ∧ QAt w' q b m L g ∧ Fr [b, m] w w' := by
  have hp := Lib.hid (fiPop_yes h)
  clear h
  go_enter Try.func18, Try.ntmps18
  go_wp2_with (go_at_call 16; refine hp.out.mono ?_; rintro e w2 ⟨rfl, hq, hf⟩)
  go_ret
  exact ⟨rfl, hq, hf⟩
theorem pushes_yes {w : World} {q b m g : Nat} {L : Qu} (h : QAt w q b m L g) (hl : L.length < 4096) (hg : g ≤ 1000000000) (x : Int) : Calls Try.prog 19 #[.pointer (some ⟨q, 0, none⟩), .int .i64 x, .int .u64 ((g + 1 : Nat) : Int)] w fun e w' => e = .returned (.bool true) ∧ QAt w' q b m (L ++ [(g + 1, x)]) (g + 1) ∧ Fr [b, m] w w' := by
  have hp := Lib.hid (fiPush_yes h hl hg x)
  clear h hl hg
  obtain ⟨G, hG⟩ : ∃ G, G = g + 1 := ⟨_, rfl⟩
  rw [← hG] at hp ⊢
  clear hG
  go_enter Try.func19, Try.ntmps19
  go_wp2_with (go_at_call 17; refine hp.out.mono ?_; rintro e w2 ⟨rfl, hq, hf⟩)
  go_ret
  exact ⟨rfl, hq, hf⟩
theorem places_yes {w : World} {q b m g : Nat} {L : Qu} (h : QAt w q b m L g) (hg : g ≤ 1000000000) {n : Nat} (hn : n < L.length) : Calls Try.prog 23 #[.pointer (some ⟨q, 0, none⟩), .int .u64 (((L.getD n (0, 0)).1 : Nat) : Int), .int .i64 ((n : Nat) : Int)] w fun e w' => e = .returned (.bool true) ∧ Grn w w' := by
  have hp := Lib.hid (fiPlace_yes h hg hn)
  clear h hn hg
  generalize (L.getD n (0, 0)).1 = t at *
  go_enter Try.func23, Try.ntmps23
  go_wp2_with (go_at_call 21; refine hp.out.mono ?_; rintro e w2 ⟨rfl, hg2⟩)
  go_ret
  exact ⟨rfl, hg2⟩

set_option maxRecDepth 100000 in
set_option maxHeartbeats 3200000 in
theorem known_any (w : World) : Calls Try.prog 8 #[] w fun e w' => e = .returned (.bool true) ∧ Below w.heap.size w w' := by
  go_enter Try.func8, Try.ntmps8
  go_wp2_with (go_at_call 9; fail)
  refine (fiNew_any w).mono ?_
  rintro e w1 ⟨q, b, m, rfl, hq, hg, h1, h2, h3⟩
  have K1 := Lib.hid (KQ.mk hq hg.below h1 h2 h3)
  clear hq hg h1 h2 h3
  go_wp2_with (go_at_call 16; fail)
  refine (fiPop_empty K1.out.Q).mono ?_
  rintro e w2 ⟨rfl, rfl⟩
  go_wp2_with (go_at_call 19; fail)
  refine (pushes_yes K1.out.Q (by decide) (by decide) 7).mono ?_
  rintro e w2 ⟨rfl, hq, hf⟩
  have K2 := Lib.hid (K1.out.step hq hf)
  clear hq hf
  go_wp2_with (go_at_call 19; fail)
  refine (pushes_yes K2.out.Q (by decide) (by decide) 8).mono ?_
  rintro e w3 ⟨rfl, hq, hf⟩
  have K3 := Lib.hid (K2.out.step hq hf)
  clear hq hf
  go_wp2_with (go_at_call 19; fail)
  refine (pushes_yes K3.out.Q (by decide) (by decide) 9).mono ?_
  rintro e w4 ⟨rfl, hq, hf⟩
  have K4 := Lib.hid (K3.out.step hq hf)
  clear hq hf
  go_wp2_with (go_at_call 11; fail)
  refine (fiFront_yes (t := 1) (v := 7) (L := [(2, 8), (3, 9)]) K4.out.Q).mono ?_
  rintro e w5 ⟨rfl, hg⟩
  have K5 := Lib.hid (K4.out.grown hg.below)
  clear hg
  go_wp2_with (go_at_call 23; fail)
  refine (places_yes K5.out.Q (by decide) (n := 2) (by decide)).mono ?_
  rintro e w6 ⟨rfl, hg⟩
  have K6 := Lib.hid (K5.out.grown hg.below)
  clear hg
  go_wp2_with (go_at_call 20; fail)
  refine (fiRemove_yes (A := [(1, 7)]) (t := 2) (v := 8) (B := [(3, 9)]) K6.out.Q).mono ?_
  rintro e w7 ⟨rfl, hq, hf⟩
  have K7 := Lib.hid (K6.out.step hq hf)
  clear hq hf
  go_wp2_with (go_at_call 23; fail)
  refine (places_yes K7.out.Q (by decide) (n := 1) (by decide)).mono ?_
  rintro e w8 ⟨rfl, hg⟩
  have K8 := Lib.hid (K7.out.grown hg.below)
  clear hg
  go_wp2_with (go_at_call 20; fail)
  refine (fiRemove_no K8.out.Q 2 (by rfl)).mono ?_
  rintro e w9 ⟨rfl, hg⟩
  have K9 := Lib.hid (K8.out.grown hg.below)
  clear hg
  go_wp2_with (go_at_call 18; fail)
  refine (pops_yes (t := 1) (v := 7) (L := [(3, 9)]) K9.out.Q).mono ?_
  rintro e w10 ⟨rfl, hq, hf⟩
  have K10 := Lib.hid (K9.out.step hq hf)
  clear hq hf
  go_wp2_with (go_at_call 19; fail)
  refine (pushes_yes K10.out.Q (by decide) (by decide) 5).mono ?_
  rintro e w11 ⟨rfl, hq, hf⟩
  have K11 := Lib.hid (K10.out.step hq hf)
  clear hq hf
  go_wp2_with (first | (go_at_call 13; refine (fiLen_any K11.out.Q).mono ?_; rintro e w12 ⟨rfl, rfl⟩) | (go_at_call 14; fail))
  have hb := below_alloc w12 (.cells #[.int .i64 9, .int .u64 3, .int .i64 5, .int .u64 4] 46)
  have K12 := K11.out.grown hb
  refine (lawAll_any (L := [(3, 9), (4, 5)]) (K12.Q.alls (by decide)) (.inr ⟨w12.heap.size, 0, 2, rfl, by decide, by decide, by simp, fun j e he => ?_⟩)).mono ?_
  · match j with
    | 0 => simp at he; subst he; exact ⟨cell_new _ _ _ _ _ _ rfl rfl, cell_new _ _ _ _ _ _ rfl rfl⟩
    | 1 => simp at he; subst he; exact ⟨cell_new _ _ _ _ _ _ rfl rfl, cell_new _ _ _ _ _ _ rfl rfl⟩
    | j + 2 => simp at he
  rintro e w13 ⟨rfl, hb2⟩
  have HF := Lib.hid (K12.grown hb2).below
  clear K12 hb hb2
  go_wp2_with fail
  go_ret
  exact ⟨rfl, HF.out⟩
end Go.Proofs.Ytopkikdbhapfmaa
