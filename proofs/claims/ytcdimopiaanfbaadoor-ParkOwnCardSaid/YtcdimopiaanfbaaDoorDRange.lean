/- A range over the values of a queue. -/
import Derived.Test.YtcdimopiaanfbaaDoorDIt
namespace Go.Proofs.YtcdimopiaanfbaaDoor
open Go.RowKit Go.Sort Go.Shelf Go.MapKept
set_option linter.unusedVariables false
set_option linter.unusedSimpArgs false
attribute [local go_sem] Oper.semAt_some

/-- How the body of a round over the values may be left. -/
def roundK (Fs : List Nat) (B : Nat) (I : Nat → World → Prop) (Ix : Code → Nat → World → Prop) (k : Nat) (W : World) : Exit → Act → World → Prop
  | .normal, _, W' => KeepsFrom B W W' ∧ Lets Fs B W W' ∧ I k W'
  | .ret, _, W' => KeepsFrom B W W' ∧ Ix .ret k W'
  | .exit id, _, W' => KeepsFrom B W W' ∧ Ix (.exit id) k W'
  | .goto t, _, W' => KeepsFrom B W W' ∧ Ix (.goto t) k W'
  | .panic _, _, _ => False
  | .outgrown, _, _ => False

theorem grownBy_of_below {A B : World} (h : Below A.heap.size A B) : A.grownBy B none := ⟨h.os, h.tape, h.output, h.size, fun k hk _ => h.block k hk⟩

/-- A range over the values of a queue. -/
theorem range_vals {n : Nat} {g : Operand} {ps : Array Tmp} {assign body : Code} {Q : Exit → Act → World → Prop} {a : Act} {w : World} {B : Nat} {Fs : List Nat} {L : Qu}
    (h1 : 3 ≤ n) (hg : a.eval g = seqV B) (hS : SeqAt w Fs B L) (hps : ps.size = 2)
    (I : Nat → World → Prop) (Ix : Code → Nat → World → Prop) (hI : OwnFrom w.heap.size I) (hIx : ∀ c, OwnFrom w.heap.size (Ix c)) (h0 : I 0 w)
    (hround : ∀ (l k : Nat) (x : Nat × Int) (W : World), w.heap.size ≤ l → L[k]? = some x → Lets Fs w.heap.size w W → I k W →
      assign.wpIn (Fence.wide.inRound l) (n - 1 - 1) Tryd.prog (Exit.then (fun a' W' => W' = W ∧ ∀ W2, Lets Fs w.heap.size w W2 → I k W2 → body.wpIn (Fence.wide.inRound l) (n - 1 - 1) Tryd.prog (roundK Fs w.heap.size I Ix (k + 1) W2) a' W2) (fun _ _ _ => False))
        { tmps := (ps.zip #[.int .u64 ((x.1 : Nat) : Int), .int .i64 x.2]).foldl (fun t (p, v) => t.setIfInBounds p v) a.tmps, defers := [] } W)
    (hdone : ∀ (D : Nat) (W : World), w.heap.size ≤ D → I L.length W → W.heap[D]? = some (.deferred (some [])) → Q .normal { a with defers := { target := .collected D, args := #[] } :: a.defers } W)
    (hstop : ∀ (D : Nat) (c : Code) (k : Nat) (W : World), w.heap.size ≤ D → k ≤ L.length → Ix c k W → W.heap[D]? = some (.deferred (some [])) → c.wpIn Fence.wide n Tryd.prog Q { a with defers := { target := .collected D, args := #[] } :: a.defers } W) :
    (Code.rangeFunc g ps assign body).wpIn Fence.wide n Tryd.prog Q a w := by
  refine wpIn_rangeFunc ?_
  intro fn hfn
  obtain ⟨rec, hrec⟩ : ∃ rec : LoopState → Option Code → Loop, rec = fun st pe => { state := st, pending := pe, fn, tmps := a.tmps, params := ps, assign, body, defers := w.heap.size } := ⟨_, rfl⟩
  obtain ⟨W1, hW1⟩ : ∃ W1, (w.alloc (.deferred (some []))).alloc (.loop (rec .ready none)) = W1 := ⟨_, rfl⟩
  have hs1 : W1.heap.size = w.heap.size + 2 := by rw [← hW1]; simp
  have hL1 : W1.heap[w.heap.size + 1]? = some (.loop (rec .ready none)) := by
    have := World.alloc_heap_new (w.alloc (.deferred (some []))) (.loop (rec .ready none))
    rw [World.size_alloc] at this
    rwa [← hW1]
  have hb01 : Lets Fs w.heap.size w W1 := by rw [← hW1]; exact Lets.of_below ((below_alloc _ _).trans ((below_alloc _ _).mono (by simp))) (Nat.le_refl _)
  have hK1 : W1.heap[w.heap.size]? = some (.deferred (some [])) := by
    rw [← hW1]; exact (Below.heap_alloc _ _ _ (by simp)).trans (World.alloc_heap_new w _)
  have hI1 : I 0 W1 := by rw [← hW1]; exact hI.alloc _ (hI.alloc _ h0)
  refine ⟨w.heap.size + 1, [{ target := .collected w.heap.size, args := #[] }], W1, { target := .fn (.func 71) #[.pointer (some ⟨B, 0, none⟩)], args := #[.func (.yield (w.heap.size + 1)) #[] #[]] }, W1, 71,
    #[.func (.yield (w.heap.size + 1)) #[] #[], .pointer (some ⟨B, 0, none⟩)], W1, ?_, ?_, ?_, ?_, fun _ => by omega, ?_⟩
  · rw [← hW1, hrec]; exact run_enterLoop_outer _ _ _ _ _
  · simp only [resolve, hg, seqV]
    simp [go_sem]
  · intro f' hf'; trivial
  · have eg := enters_of Tryd.func71 (by kernel_rfl) rfl
    simp [invoke, go_sem, eg #[.func (.yield (w.heap.size + 1)) #[] #[], .pointer (some ⟨B, 0, none⟩)] W1]
  · have hlo : ∀ {A A' : World}, Below A.heap.size A A' → ∀ (k : Nat) (o : Obj), A.heap[k]? = some o → A'.heap[k]? = some o := fun h k o ho => (h.block k (lt_of_block ho)).trans ho
    refine (it_in Fence.wide (n - 1) trivial rfl (by omega) (w.heap.size + 1) B w.heap.size Fs L w hS rfl
      (fun k W => I k W ∧ W.heap[w.heap.size + 1]? = some (.loop (rec .ready none)) ∧ W.heap[w.heap.size]? = some (.deferred (some [])))
      (fun k W => ∃ c, Ix c k W ∧ W.heap[w.heap.size + 1]? = some (.loop (rec .done (some c))) ∧ W.heap[w.heap.size]? = some (.deferred (some [])))
      (fun k A A' h hb => ⟨hI k A A' none h.1 (grownBy_of_below hb) (fun r e => by cases e), hlo hb _ _ h.2.1, hlo hb _ _ h.2.2⟩) ?_ W1 hb01 ⟨hI1, hL1, hK1⟩).mono ?_
    · rintro k x W ⟨hi, hl, hk⟩ hp hbW
      have hlt : w.heap.size + 1 < W.heap.size := lt_of_block hl
      have hy := run_yield (P := Tryd.prog) (args := #[.int .u64 ((x.1 : Nat) : Int), .int .i64 x.2]) hl (by rw [hrec]; simp [hps])
      rw [hrec] at hy
      refine ⟨fn, _, assign, body, hy, roundIn_of_wpIn hfn (wpIn_mono (hround _ k x W (by omega) hp hbW hi) ?_)⟩
      clear hy
      intro e a' W' hpost
      cases e with
      | normal => ?_
      | _ => exact hpost.elim
      obtain ⟨hWW, hbody⟩ := hpost
      rw [hWW]
      refine ⟨_, run_beginRound hl (by rw [hrec]), ?_⟩
      obtain ⟨rb, hrb⟩ : ∃ rb, rb = ({ rec .ready none with state := .busy } : Loop) := ⟨_, rfl⟩
      rw [← hrb]
      have hl2 : (W.putObj (w.heap.size + 1) (.loop rb)).heap[w.heap.size + 1]? = some (.loop rb) := World.putObj_heap_same hlt
      have hk2 : (W.putObj (w.heap.size + 1) (.loop rb)).heap[w.heap.size]? = some (.deferred (some [])) := (World.putObj_heap_other (by omega)).trans hk
      have hw2 : Lets Fs w.heap.size W (W.putObj (w.heap.size + 1) (.loop rb)) := Lets.of_below (belowK_b (w := w) (Nat.le_refl _) W _ _ _ (by omega) hl rfl rfl) (Nat.le_refl _)
      refine wpIn_mono (hbody _ (hbW.trans hw2) (hI.putObj _ hi (by omega) hl rfl)) ?_
      have fin : ∀ (jump : Option Code) (W3 : World), KeepsFrom w.heap.size (W.putObj (w.heap.size + 1) (.loop rb)) W3 →
          (Instr.endRound (w.heap.size + 1) jump).run Tryd.prog W3 = .ok (.bool jump.isNone) (W3.putObj (w.heap.size + 1) (.loop (rec (if jump.isNone then .ready else .done) jump))) ∧
          W3.heap[w.heap.size + 1]? = some (.loop rb) ∧
          (W3.putObj (w.heap.size + 1) (.loop (rec (if jump.isNone then .ready else .done) jump))).heap[w.heap.size + 1]? = some (.loop (rec (if jump.isNone then .ready else .done) jump)) ∧
          (W3.putObj (w.heap.size + 1) (.loop (rec (if jump.isNone then .ready else .done) jump))).heap[w.heap.size]? = some (.deferred (some [])) := fun jump W3 hk3 => by
        have hl3 := hk3.same _ _ (by omega) hl2 rfl
        have hend := run_endRound (P := Tryd.prog) jump hl3
        refine ⟨?_, hl3, World.putObj_heap_same (lt_of_block hl3), (World.putObj_heap_other (by omega)).trans (hk3.same _ _ (Nat.le_refl _) hk2 rfl)⟩
        rw [hend, hrb, hrec]
      rintro e a3 W3 hp3
      cases e with
      | normal =>
        obtain ⟨hk3, hkp3, hi3⟩ := hp3
        obtain ⟨hr, hl3, hl4, hk4⟩ := fin none W3 hk3
        exact ⟨_, _, hr, .inl ⟨rfl, ⟨hI.putObj _ hi3 (by omega) hl3 rfl, hl4, hk4⟩, (hw2.trans hkp3).trans (Lets.of_below (belowK_b (w := w) (Nat.le_refl _) W3 _ _ _ (by omega) hl3 rfl rfl) (Nat.le_refl _))⟩⟩
      | ret =>
        obtain ⟨hk3, hi3⟩ := hp3
        obtain ⟨hr, hl3, hl4, hk4⟩ := fin (some .ret) W3 hk3
        exact ⟨_, _, hr, .inr ⟨rfl, .ret, (hIx _).putObj _ hi3 (by omega) hl3 rfl, hl4, hk4⟩⟩
      | exit id =>
        obtain ⟨hk3, hi3⟩ := hp3
        obtain ⟨hr, hl3, hl4, hk4⟩ := fin (some (.exit id)) W3 hk3
        exact ⟨_, _, hr, .inr ⟨rfl, .exit id, (hIx _).putObj _ hi3 (by omega) hl3 rfl, hl4, hk4⟩⟩
      | goto t =>
        obtain ⟨hk3, hi3⟩ := hp3
        obtain ⟨hr, hl3, hl4, hk4⟩ := fin (some (.goto t)) W3 hk3
        exact ⟨_, _, hr, .inr ⟨rfl, .goto t, (hIx _).putObj _ hi3 (by omega) hl3 rfl, hl4, hk4⟩⟩
      | panic ch => exact hp3.elim
      | outgrown => exact hp3.elim
    · rintro e W2 ⟨⟨v, rfl⟩, (⟨hi, hl, hk⟩ | ⟨k, hkle, c, hi, hl, hk⟩)⟩
      · obtain ⟨o', he⟩ : ∃ o', (Instr.endLoop (w.heap.size + 1)).run Tryd.prog W2 = .ok none (W2.putObj (w.heap.size + 1) o') := ⟨_, by
          have := run_endLoop (P := Tryd.prog) hl (by rw [hrec]; simp)
          rw [hrec] at this
          exact this⟩
        exact ⟨none, _, he, hdone _ _ (Nat.le_refl _) (hI.putObj _ hi (by omega) hl rfl) ((World.putObj_heap_other (by omega)).trans hk)⟩
      · obtain ⟨o', he⟩ : ∃ o', (Instr.endLoop (w.heap.size + 1)).run Tryd.prog W2 = .ok (some c) (W2.putObj (w.heap.size + 1) o') := ⟨_, by
          have := run_endLoop (P := Tryd.prog) hl (by rw [hrec]; simp)
          rw [hrec] at this
          exact this⟩
        exact ⟨some c, _, he, hstop _ c k _ (Nat.le_refl _) hkle ((hIx c).putObj _ hi (by omega) hl rfl) ((World.putObj_heap_other (by omega)).trans hk)⟩
end Go.Proofs.YtcdimopiaanfbaaDoor
