/- Calls of a lot that ask its table of tasks, or a queue. -/
import Derived.Test.YtcdimopiaanfbaaDoorPSpec
import Derived.Deep.QuietTactic
import Derived.BigQuiet
namespace Go.Proofs.YtcdimopiaanfbaaDoor
open Go.RowKit Go.Sort Go.MapKept
set_option linter.unusedVariables false
set_option linter.unusedSimpArgs false

/-- A pointer that is no lot. -/
def NoL (w : World) (v : Value) : Prop := v = .pointer none ∨ ∃ q, v = .pointer (some ⟨q, 0, none⟩) ∧ w.heap[q]? = some (.cells #[.pointer none, .map none, .map none] 53 (0, 0))
theorem NoL.grown {w w' : World} {v : Value} (h : NoL w v) (hb : Below w.heap.size w w') : NoL w' v := by
  rcases h with h | ⟨q, h1, h2⟩
  · exact .inl h
  · exact .inr ⟨q, h1, (hb.block _ (lt_of_block h2)).trans h2⟩
theorem NoL.form {w : World} {v : Value} (h : NoL w v) : ∃ a, v = .pointer a := by
  rcases h with h | ⟨q, h1, h2⟩
  · exact ⟨_, h⟩
  · exact ⟨_, h1⟩
theorem noK_nil (w : World) : NoK w (.pointer none) := .inl rfl
theorem pkTable_no {w : World} {v : Value} (h : NoL w v) : Calls Tryd.prog 42 #[v] w fun e w' => e = .returned (.pointer none) ∧ w' = w := by
  rcases h with rfl | ⟨q, rfl, h2⟩
  · go_enter Tryd.func42, Tryd.ntmps42
    go_wp2
    go_ret
    exact ⟨rfl, rfl⟩
  · have k := cells_cell (o := 0) h2 rfl
    clear h2
    go_enter Tryd.func42, Tryd.ntmps42
    go_wp2
    go_ret
    exact ⟨rfl, rfl⟩
section
variable {B : Nat} {S : Nat → Prop} {w w' : World} {l : Ll} {P P' : Ks} {Q Q' : Qu} {g g' : Nat} {f : Sp → Option Qd} {pl : Int → Option Pl} {z : Zt} {G : Nat} {s : Sp}
theorem pkTable_yes (h : LAt B S w l P Q g f pl) : Calls Tryd.prog 42 #[.pointer (some ⟨l.a, 0, none⟩)] w fun e w' => e = .returned (.pointer (some ⟨l.t.t, 0, none⟩)) ∧ w' = w := by
  have k := h.ca0
  clear h
  go_enter Tryd.func42, Tryd.ntmps42
  go_wp2
  go_ret
  exact ⟨rfl, rfl⟩
theorem pkValid_yes (w : World) (hs : SpOk s) : Calls Tryd.prog 68 #[.agg #[.int .i64 s.1, .int .i64 s.2]] w fun e w' => e = .returned (.bool true) ∧ Grn w w' := by
  obtain ⟨a, b⟩ := s
  obtain ⟨h1, h2, h3⟩ := hs
  simp only at h1 h2 h3 ⊢
  have h4 : a < 128 := by omega
  rcases h3 with rfl | rfl
  · go_enter Tryd.func68, Tryd.ntmps68
    go_wp2
    go_ret
    exact ⟨rfl, (Grn.refl w).alloc _⟩
  · go_enter Tryd.func68, Tryd.ntmps68
    go_wp2
    go_ret
    exact ⟨rfl, (Grn.refl w).alloc _⟩
theorem pkValid_no (w : World) (hs : ¬ SpOk s) : Calls Tryd.prog 68 #[.agg #[.int .i64 s.1, .int .i64 s.2]] w fun e w' => e = .returned (.bool false) ∧ Grn w w' := by
  obtain ⟨a, b⟩ := s
  unfold SpOk at hs
  simp only at hs ⊢
  by_cases h1 : a < 0
  · have h2 : decide (0 ≤ a) = false := decide_eq_false (by omega)
    clear hs
    go_enter Tryd.func68, Tryd.ntmps68
    go_wp2
    go_ret
    exact ⟨rfl, (Grn.refl w).alloc _⟩
  · have h1' : 0 ≤ a := by omega
    by_cases h2 : 128 ≤ a
    · have h3 : decide (a < 128) = false := decide_eq_false (by omega)
      clear hs h1
      go_enter Tryd.func68, Tryd.ntmps68
      go_wp2
      go_ret
      exact ⟨rfl, (Grn.refl w).alloc _⟩
    · have h3 : a < 128 := by omega
      have h4 : (b == 0) = false := by simp; omega
      have h5 : (b == 1) = false := by simp; omega
      clear hs h1 h2
      go_enter Tryd.func68, Tryd.ntmps68
      go_wp2
      go_ret
      exact ⟨rfl, (Grn.refl w).alloc _⟩

theorem pkQueue_nil {v : Value} (h : NoL w v) (s : Sp) : Calls Tryd.prog 44 #[v, .agg #[.int .i64 s.1, .int .i64 s.2]] w fun e w' => e = .returned (.tuple #[.pointer none, .int .i64 1]) ∧ Grn w w' := by
  have ht := Lib.hid (pkTable_no (h.grown (below_alloc w (.cells #[.int .i64 s.1, .int .i64 s.2] 38))))
  obtain ⟨a, rfl⟩ := h.form
  clear h
  go_enter Tryd.func44, Tryd.ntmps44
  go_wp2_with (go_at_call 42; refine ht.out.mono ?_; rintro e w2 ⟨rfl, rfl⟩)
  go_ret2
  exact ⟨rfl, (Grn.refl w).alloc _⟩
theorem pkQueue_bad (h : LAt B S w l P Q g f pl) (hs : ¬ SpOk s) : Calls Tryd.prog 44 #[.pointer (some ⟨l.a, 0, none⟩), .agg #[.int .i64 s.1, .int .i64 s.2]] w fun e w' => e = .returned (.tuple #[.pointer none, .int .i64 2]) ∧ Grn w w' := by
  have ht := Lib.hid (pkTable_yes (h.grown (below_alloc w (.cells #[.int .i64 s.1, .int .i64 s.2] 38))))
  have hv := Lib.hid (pkValid_no (s := s) (w.alloc (.cells #[.int .i64 s.1, .int .i64 s.2] 38)) hs)
  clear h hs
  generalize s.1 = a at *
  generalize s.2 = b at *
  go_enter Tryd.func44, Tryd.ntmps44
  go_wp2_with (first | (go_at_call 42; refine ht.out.mono ?_; rintro e w2 ⟨rfl, rfl⟩) | (go_at_call 68; refine hv.out.mono ?_; rintro e w2 ⟨rfl, hg⟩))
  go_ret2
  exact ⟨rfl, ((Grn.refl w).alloc _).trans hg⟩
theorem grn_map {w w' : World} {m n : Nat} {κ ν : Type} [DecidableEq κ] {T : GM κ ν} {f : κ → Option ν} (h : MapAt T w m n f) (hg : Grn w w') : MapAt T w' m n f := h.same (hg.below.block _ h.lt)
set_option maxHeartbeats 800000 in
theorem pkQueue_some (h : LAt B S w l P Q g f pl) (hs : SpOk s) {d : Qd} (hd : f s = some d) : Calls Tryd.prog 44 #[.pointer (some ⟨l.a, 0, none⟩), .agg #[.int .i64 s.1, .int .i64 s.2]] w fun e w' => e = .returned (.tuple #[.pointer (some ⟨d.q, 0, none⟩), .int .i64 0]) ∧ Grn w w' := by
  obtain ⟨n, hm⟩ := h.mq
  have HH := Lib.hid h
  have ht := Lib.hid (pkTable_yes (h.grown (below_alloc w (.cells #[.int .i64 s.1, .int .i64 s.2] 38))))
  have hv := Lib.hid (pkValid_yes (s := s) (w.alloc (.cells #[.int .i64 s.1, .int .i64 s.2] 38)) hs)
  have hlk : Hid (∀ W, Below w.heap.size w W → (Instr.lookup 50 (.map (some l.mq)) (.agg #[.int .i64 s.1, .int .i64 s.2]) false).run Tryd.prog W = .ok (.pointer (some ⟨d.q, 0, none⟩)) W) := Lib.hid (fun W hW => by
    have := MapAt.look_yes TQ_ok (hm.same (hW.block _ hm.lt)) (k := s) (by simp only [hd]; rfl) false
    simpa [TQ, encS] using this)
  clear h hs hm hd
  generalize s.1 = a at *
  generalize s.2 = b at *
  go_enter Tryd.func44, Tryd.ntmps44
  go_wp2_with (first | (go_at_call 42; refine ht.out.mono ?_; rintro e w2 ⟨rfl, rfl⟩) | (go_at_call 68; fail))
  have hx0 := block_new w (.cells #[.int .i64 a, .int .i64 b] 38) _ rfl
  refine hv.out.mono ?_
  rintro e w2 ⟨rfl, hg⟩
  have hx := (hg.below.block _ (lt_of_block hx0)).trans hx0
  have hg2 := ((Grn.refl w).alloc (.cells #[.int .i64 a, .int .i64 b] 38)).trans hg
  have c1 := (HH.out.grown hg2.below).ca1
  have x0 := cells_cell (o := 0) hx rfl
  have x1 := cells_cell (o := 1) hx rfl
  have xl := lt_of_block hx
  have al := (HH.out.grown hg2.below).lt
  have HG := Lib.hid hg2
  have l1 := fun n => hlk.out (w2.drewN n) ((hg2.drew n).below)
  clear hx hx0 hg hg2 ht hv
  generalize w.heap.size = k at *
  go_wp2_with fail
  go_quiet (fail)
  go_wp2
  go_ret2
  exact ⟨rfl, HG.out.drew _⟩
set_option maxHeartbeats 800000 in
theorem pkQueue_none (h : LAt B S w l P Q g f pl) (hs : SpOk s) (hd : f s = none) : Calls Tryd.prog 44 #[.pointer (some ⟨l.a, 0, none⟩), .agg #[.int .i64 s.1, .int .i64 s.2]] w fun e w' => e = .returned (.tuple #[.pointer none, .int .i64 0]) ∧ Grn w w' := by
  obtain ⟨n, hm⟩ := h.mq
  have HH := Lib.hid h
  have ht := Lib.hid (pkTable_yes (h.grown (below_alloc w (.cells #[.int .i64 s.1, .int .i64 s.2] 38))))
  have hv := Lib.hid (pkValid_yes (s := s) (w.alloc (.cells #[.int .i64 s.1, .int .i64 s.2] 38)) hs)
  have hlk : Hid (∀ W, Below w.heap.size w W → (Instr.lookup 50 (.map (some l.mq)) (.agg #[.int .i64 s.1, .int .i64 s.2]) false).run Tryd.prog W = .ok (.pointer none) W) := Lib.hid (fun W hW => by
    have := MapAt.look_no TQ_ok (hm.same (hW.block _ hm.lt)) (k := s) (by simp only [hd]; rfl) false
    simpa [TQ, encS] using this)
  clear h hs hm hd
  generalize s.1 = a at *
  generalize s.2 = b at *
  go_enter Tryd.func44, Tryd.ntmps44
  go_wp2_with (first | (go_at_call 42; refine ht.out.mono ?_; rintro e w2 ⟨rfl, rfl⟩) | (go_at_call 68; fail))
  have hx0 := block_new w (.cells #[.int .i64 a, .int .i64 b] 38) _ rfl
  refine hv.out.mono ?_
  rintro e w2 ⟨rfl, hg⟩
  have hx := (hg.below.block _ (lt_of_block hx0)).trans hx0
  have hg2 := ((Grn.refl w).alloc (.cells #[.int .i64 a, .int .i64 b] 38)).trans hg
  have c1 := (HH.out.grown hg2.below).ca1
  have x0 := cells_cell (o := 0) hx rfl
  have x1 := cells_cell (o := 1) hx rfl
  have xl := lt_of_block hx
  have al := (HH.out.grown hg2.below).lt
  have HG := Lib.hid hg2
  have l1 := fun n => hlk.out (w2.drewN n) ((hg2.drew n).below)
  clear hx hx0 hg hg2 ht hv
  generalize w.heap.size = k at *
  go_wp2_with fail
  go_quiet (fail)
  go_wp2
  go_ret2
  exact ⟨rfl, HG.out.drew _⟩

theorem pkLen_yes (h : LS B S w l z G) : Calls Tryd.prog 25 #[.pointer (some ⟨l.a, 0, none⟩)] w fun e w' => e = .returned (.int .i64 ((z.S.length : Nat) : Int)) ∧ w' = w := by
  obtain ⟨P, Q, g, f, pl, hA, hZ, hg, h1, h2⟩ := h
  have ht := Lib.hid (pkTable_yes hA)
  have hu := Lib.hid (tkLen_yes hA.k)
  rw [← sts_len, ← h1] at hu
  clear hA hZ h1 h2
  generalize z.S.length = n at *
  go_enter Tryd.func25, Tryd.ntmps25
  go_wp2_with (first | (go_at_call 42; refine ht.out.mono ?_; rintro e w2 ⟨rfl, rfl⟩) | (go_at_call 57; refine hu.out.mono ?_; rintro e w2 ⟨rfl, rfl⟩))
  go_ret
  exact ⟨rfl, rfl⟩
theorem pkState_any (h : LS B S w l z G) (N : Int) : Calls Tryd.prog 20 #[.pointer (some ⟨l.a, 0, none⟩), .int .i64 N] w fun e w' => e = .returned (.tuple #[.int .i64 (stC z N).1, .int .i64 (stC z N).2]) ∧ w' = w := by
  obtain ⟨P, Q, g, f, pl, hA, hZ, hg, h1, h2⟩ := h
  have ht := Lib.hid (pkTable_yes hA)
  have hu : Hid (Calls Tryd.prog 50 #[.pointer (some ⟨l.t.t, 0, none⟩), .int .i64 N] w fun e w' => e = .returned (.tuple #[.int .i64 (stC z N).1, .int .i64 (stC z N).2]) ∧ w' = w) := Lib.hid (by
    rcases numI_or z N with ⟨e, hn⟩ | ⟨i, rfl, hi, e⟩
    · unfold stC; rw [e]
      exact tkState_bad hA.k (by rw [h1, sts_len] at hn; exact hn)
    · unfold stC; rw [e]
      have hi2 : i < P.length := by rw [h1, sts_len] at hi; exact hi
      have hp := List.getElem?_eq_getElem hi2
      have := tkState_yes hA.k hp
      have e2 : z.S.getD i 0 = P[i].s := by rw [h1]; simp [sts, hi2]
      rw [← e2] at this
      exact this)
  clear hA hZ h1 h2
  generalize (stC z N).1 = x at *
  generalize (stC z N).2 = y at *
  go_enter Tryd.func20, Tryd.ntmps20
  go_wp2_with (first | (go_at_call 42; refine ht.out.mono ?_; rintro e w2 ⟨rfl, rfl⟩) | (go_at_call 50; refine hu.out.mono ?_; rintro e w2 ⟨rfl, rfl⟩))
  go_ret2
  exact ⟨rfl, rfl⟩
theorem step_ls (h : LAt B S w l P Q g f pl) (hZ : ZOk P Q f pl z.L G) (hg : g ≤ G) (h1 : z.S = sts P) (h2 : z.R = vls Q) {i : Nat} {p : Ck} (hp : P[i]? = some p) (hs : p.s ≠ 2) {tg : Int} (ht : tg ≠ 2) (hk : KAt B w' l.t (stepP P i tg g) (stepQ Q i tg g) (stepG tg g)) (hf : Fr l.t.F w w') :
    LS B S w' l (z.step i tg) (G + 1) ∧ FrL S w w' := by
  refine ⟨⟨_, _, _, f, pl, h.tasks hf hk, (hZ.step hp hs ht g).mono (by omega), ?_, ?_, ?_⟩, h.frk hf⟩
  · unfold stepG; split <;> omega
  · show z.S.set i tg = _
    rw [sts_step, h1]
  · show woR _ z.R ++ _ = _
    rw [vls_step, h2]
theorem pkStart_any (h : LS B S w l z G) (hG : G ≤ 800000000) (N : Int) : Calls Tryd.prog 21 #[.pointer (some ⟨l.a, 0, none⟩), .int .i64 N] w fun e w' => e = .returned (.int .i64 (stepC 0 z N).1) ∧ LS B S w' l (stepC 0 z N).2 (G + 1) ∧ FrL S w w' := by
  have HH := Lib.hid h
  obtain ⟨P, Q, g, f, pl, hA, hZ, hg, h1, h2⟩ := h
  have ht := Lib.hid (pkTable_yes hA)
  have hu : Hid (Calls Tryd.prog 51 #[.pointer (some ⟨l.t.t, 0, none⟩), .int .i64 N] w fun e w' => e = .returned (.int .i64 (stepC 0 z N).1) ∧ LS B S w' l (stepC 0 z N).2 (G + 1) ∧ FrL S w w') := Lib.hid (by
    rcases numI_or z N with ⟨e, hn⟩ | ⟨i, rfl, hi, e⟩
    · unfold stepC; rw [e]
      refine (tkStart_bad hA.k (by rw [h1, sts_len] at hn; exact hn)).mono ?_
      rintro e w' ⟨rfl, rfl⟩
      exact ⟨rfl, HH.out.mono (by omega), FrL.refl _ _⟩
    · unfold stepC; rw [e]
      have hi2 : i < P.length := by rw [h1, sts_len] at hi; exact hi
      have hp := List.getElem?_eq_getElem hi2
      have e2 : z.S.getD i 0 = P[i].s := by rw [h1]; simp [sts, hi2]
      simp only [e2]
      by_cases hs : P[i].s = frOf 0
      · rw [if_pos hs]
        refine (tkStart_yes hA.k hZ.rk (by omega) hp hs).mono ?_
        rintro e w' ⟨rfl, hk, hf⟩
        obtain ⟨a, b⟩ := step_ls hA hZ hg h1 h2 hp (by rw [hs]; decide) (tg := tgOf 0) (by decide) hk hf
        exact ⟨rfl, a, b⟩
      · rw [if_neg hs]
        refine (tkStart_state hA.k hp (fun e => hs e.symm)).mono ?_
        rintro e w' ⟨rfl, hgr⟩
        exact ⟨rfl, (HH.out.grown hgr.below).mono (by omega), FrL.of_below S hgr.below⟩)
  clear hA hZ h1 h2 hg
  obtain ⟨x, hx⟩ : ∃ x, x = (stepC 0 z N).1 := ⟨_, rfl⟩
  rw [← hx] at hu ⊢
  clear hx
  go_enter Tryd.func21, Tryd.ntmps21
  go_wp2_with (first | (go_at_call 42; refine ht.out.mono ?_; rintro e w2 ⟨rfl, rfl⟩) | (go_at_call 51; fail))
  refine hu.out.mono ?_
  rintro e w2 ⟨rfl, a, b⟩
  go_wp2_with fail
  go_ret
  exact ⟨rfl, a, b⟩
theorem pkFinish_any (h : LS B S w l z G) (hG : G ≤ 800000000) (N : Int) : Calls Tryd.prog 22 #[.pointer (some ⟨l.a, 0, none⟩), .int .i64 N] w fun e w' => e = .returned (.int .i64 (stepC 3 z N).1) ∧ LS B S w' l (stepC 3 z N).2 (G + 1) ∧ FrL S w w' := by
  have HH := Lib.hid h
  obtain ⟨P, Q, g, f, pl, hA, hZ, hg, h1, h2⟩ := h
  have ht := Lib.hid (pkTable_yes hA)
  have hu : Hid (Calls Tryd.prog 52 #[.pointer (some ⟨l.t.t, 0, none⟩), .int .i64 N] w fun e w' => e = .returned (.int .i64 (stepC 3 z N).1) ∧ LS B S w' l (stepC 3 z N).2 (G + 1) ∧ FrL S w w') := Lib.hid (by
    rcases numI_or z N with ⟨e, hn⟩ | ⟨i, rfl, hi, e⟩
    · unfold stepC; rw [e]
      refine (tkFinish_bad hA.k (by rw [h1, sts_len] at hn; exact hn)).mono ?_
      rintro e w' ⟨rfl, rfl⟩
      exact ⟨rfl, HH.out.mono (by omega), FrL.refl _ _⟩
    · unfold stepC; rw [e]
      have hi2 : i < P.length := by rw [h1, sts_len] at hi; exact hi
      have hp := List.getElem?_eq_getElem hi2
      have e2 : z.S.getD i 0 = P[i].s := by rw [h1]; simp [sts, hi2]
      simp only [e2]
      by_cases hs : P[i].s = frOf 3
      · rw [if_pos hs]
        refine (tkFinish_yes hA.k hZ.rk (by omega) hp hs).mono ?_
        rintro e w' ⟨rfl, hk, hf⟩
        obtain ⟨a, b⟩ := step_ls hA hZ hg h1 h2 hp (by rw [hs]; decide) (tg := tgOf 3) (by decide) hk hf
        exact ⟨rfl, a, b⟩
      · rw [if_neg hs]
        refine (tkFinish_state hA.k hp (fun e => hs e.symm)).mono ?_
        rintro e w' ⟨rfl, hgr⟩
        exact ⟨rfl, (HH.out.grown hgr.below).mono (by omega), FrL.of_below S hgr.below⟩)
  clear hA hZ h1 h2 hg
  obtain ⟨x, hx⟩ : ∃ x, x = (stepC 3 z N).1 := ⟨_, rfl⟩
  rw [← hx] at hu ⊢
  clear hx
  go_enter Tryd.func22, Tryd.ntmps22
  go_wp2_with (first | (go_at_call 42; refine ht.out.mono ?_; rintro e w2 ⟨rfl, rfl⟩) | (go_at_call 52; fail))
  refine hu.out.mono ?_
  rintro e w2 ⟨rfl, a, b⟩
  go_wp2_with fail
  go_ret
  exact ⟨rfl, a, b⟩
theorem pkTurn_any (h : LS B S w l z G) (hG : G ≤ 800000000) (N : Int) : Calls Tryd.prog 23 #[.pointer (some ⟨l.a, 0, none⟩), .int .i64 N] w fun e w' => e = .returned (.int .i64 (stepC 4 z N).1) ∧ LS B S w' l (stepC 4 z N).2 (G + 1) ∧ FrL S w w' := by
  have HH := Lib.hid h
  obtain ⟨P, Q, g, f, pl, hA, hZ, hg, h1, h2⟩ := h
  have ht := Lib.hid (pkTable_yes hA)
  have hu : Hid (Calls Tryd.prog 53 #[.pointer (some ⟨l.t.t, 0, none⟩), .int .i64 N] w fun e w' => e = .returned (.int .i64 (stepC 4 z N).1) ∧ LS B S w' l (stepC 4 z N).2 (G + 1) ∧ FrL S w w') := Lib.hid (by
    rcases numI_or z N with ⟨e, hn⟩ | ⟨i, rfl, hi, e⟩
    · unfold stepC; rw [e]
      refine (tkTurn_bad hA.k (by rw [h1, sts_len] at hn; exact hn)).mono ?_
      rintro e w' ⟨rfl, rfl⟩
      exact ⟨rfl, HH.out.mono (by omega), FrL.refl _ _⟩
    · unfold stepC; rw [e]
      have hi2 : i < P.length := by rw [h1, sts_len] at hi; exact hi
      have hp := List.getElem?_eq_getElem hi2
      have e2 : z.S.getD i 0 = P[i].s := by rw [h1]; simp [sts, hi2]
      simp only [e2]
      by_cases hs : P[i].s = frOf 4
      · rw [if_pos hs]
        refine (tkTurn_yes hA.k hZ.rk (by omega) hp hs).mono ?_
        rintro e w' ⟨rfl, hk, hf⟩
        obtain ⟨a, b⟩ := step_ls hA hZ hg h1 h2 hp (by rw [hs]; decide) (tg := tgOf 4) (by decide) hk hf
        exact ⟨rfl, a, b⟩
      · rw [if_neg hs]
        refine (tkTurn_state hA.k hp (fun e => hs e.symm)).mono ?_
        rintro e w' ⟨rfl, hgr⟩
        exact ⟨rfl, (HH.out.grown hgr.below).mono (by omega), FrL.of_below S hgr.below⟩)
  clear hA hZ h1 h2 hg
  obtain ⟨x, hx⟩ : ∃ x, x = (stepC 4 z N).1 := ⟨_, rfl⟩
  rw [← hx] at hu ⊢
  clear hx
  go_enter Tryd.func23, Tryd.ntmps23
  go_wp2_with (first | (go_at_call 42; refine ht.out.mono ?_; rintro e w2 ⟨rfl, rfl⟩) | (go_at_call 53; fail))
  refine hu.out.mono ?_
  rintro e w2 ⟨rfl, a, b⟩
  go_wp2_with fail
  go_ret
  exact ⟨rfl, a, b⟩
set_option maxHeartbeats 800000 in
theorem pkWhere_any (h : LS B S w l z G) (N : Int) : Calls Tryd.prog 19 #[.pointer (some ⟨l.a, 0, none⟩), .int .i64 N] w fun e w' => e = .returned (.tuple #[.agg #[.int .i64 (whC z N).1.1, .int .i64 (whC z N).1.2], .int .i64 (whC z N).2]) ∧ Grn w w' := by
  have HH := Lib.hid h
  have hb := below_alloc w (.cells #[.int .i64 0, .int .i64 0] 38)
  have hst := Lib.hid (pkState_any (h.grown hb) N)
  obtain ⟨P, Q, g, f, pl, hA, hZ, hg, h1, h2⟩ := h.grown hb
  obtain ⟨n, hm⟩ := hA.mp
  have hx0 := block_new w (.cells #[.int .i64 0, .int .i64 0] 38) _ rfl
  have x0 := cells_cell (o := 0) hx0 rfl
  have x1 := cells_cell (o := 1) hx0 rfl
  have f0 := cells_free hx0 0
  have f1 := cells_free hx0 1
  have xl := lt_of_block hx0
  have c2 := hA.ca2
  have al := hA.lt
  rcases numI_or z N with ⟨e, hn⟩ | ⟨i, rfl, hi, e⟩
  · unfold stC at hst; unfold whC
    simp only [e] at hst ⊢
    clear hA hZ h1 h2 hm hx0 hb
    go_enter Tryd.func19, Tryd.ntmps19
    go_wp2_with (go_at_call 20; refine hst.out.mono ?_; rintro e w2 ⟨rfl, rfl⟩)
    refine bodyPost_ret (v := .tuple #[.agg #[.int .i64 0, .int .i64 0], .int .i64 2]) (by simp [results, Tryd.results19, go_sem]) rfl ?_
    exact ⟨rfl, ((Grn.refl w).alloc _)⟩
  · unfold stC at hst
    simp only [e] at hst
    cases hs : seatOf z.L i with
    | none =>
      unfold whC
      simp only [e, hs]
      have hf : pl ((i : Nat) : Int) = none := hZ.p0 _ (fun j e2 => by have e3 : i = j := (by omega); subst e3; exact seatOf_none.1 hs)
      have l1 := MapAt.look_no TP_ok hm hf true
      simp only [if_true] at l1
      unfold TP at l1
      simp only at l1
      clear hA hZ h1 h2 hm hb e hs hf
      generalize z.S.getD i 0 = y at *
      go_enter Tryd.func19, Tryd.ntmps19
      go_wp2_with (go_at_call 20; refine hst.out.mono ?_; rintro e w2 ⟨rfl, rfl⟩)
      refine bodyPost_ret (v := .tuple #[.agg #[.int .i64 0, .int .i64 0], .int .i64 8]) (by simp [results, Tryd.results19, go_sem]) rfl ?_
      exact ⟨rfl, (((Grn.refl w).alloc _).alloc _)⟩
    | some s =>
      unfold whC
      simp only [e, hs]
      obtain ⟨k, d, hf, -, -⟩ := hZ.p1 i s ((seatOf_some hZ.nd).1 hs)
      have l1 := MapAt.look_yes TP_ok hm hf true
      simp only [if_true] at l1
      unfold TP Pl.enc at l1
      simp only at l1
      obtain ⟨a, b⟩ := s
      simp only at l1 ⊢
      clear hA hZ h1 h2 hm hb e hs hf
      generalize z.S.getD i 0 = y at *
      go_enter Tryd.func19, Tryd.ntmps19
      go_wp2_with (go_at_call 20; refine hst.out.mono ?_; rintro e w2 ⟨rfl, rfl⟩)
      refine bodyPost_ret (v := .tuple #[.agg #[.int .i64 a, .int .i64 b], .int .i64 0]) (by simp [results, Tryd.results19, go_sem]) rfl ?_
      exact ⟨rfl, ((Grn.refl w).alloc _).alloc _⟩
end
end Go.Proofs.YtcdimopiaanfbaaDoor
