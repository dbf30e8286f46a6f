/- FifoIterates: the state of its second loop; a range in a turn. -/
import Derived.Test.YtopkikdbhapfmaaDDo
namespace Go.Proofs.Ytopkikdbhapfmaa
open Go.RowKit Go.Sort Go.Shelf Go.MapKept
set_option linter.unusedVariables false
set_option linter.unusedSimpArgs false
attribute [local go_sem] Oper.semAt_some

/-- The law's state in its second loop: the queue, the sequence at B over L, the reference's list in the box T, the turn's box u, the marks of the ranges. -/
structure TS (w W : World) (q b m B T u : Nat) (Lq L : Qu) (gq g : Nat) (v : Value) (turn many : Int) (Ms : List Nat) : Prop where
  K : KQ w W q b m Lq gq
  S : SeqAt W [] B L
  R : RowR W w.heap.size v L
  bx : W.heap[T]? = some (.cells #[v, .int .u64 ((g : Nat) : Int)] 29 (0, 0))
  bm : W.heap[w.heap.size]? = some (.cells #[.int .i64 many] 3 (0, 0))
  bq : W.heap[w.heap.size + 1]? = some (.cells #[.bool false] 4 (0, 0))
  bu : W.heap[u]? = some (.cells #[.int .i64 turn] 3 (0, 0))
  ms : ∀ D, D ∈ Ms → W.heap[D]? = some (.deferred (some [])) ∧ w.heap.size + 1 < D
section
variable {w W W' : World} {q b m B T u gq g gq' : Nat} {Lq L Lq' : Qu} {v : Value} {turn many : Int} {Ms : List Nat}
theorem SeqAt.grown (h : SeqAt W [] B L) (hb : Below W.heap.size W W') : SeqAt W' [] B L := h.more hb (fun x hx => by cases hx)
theorem TS.grown (h : TS w W q b m B T u Lq L gq g v turn many Ms) (hb : Below W.heap.size W W') : TS w W' q b m B T u Lq L gq g v turn many Ms :=
  ⟨h.K.grown hb, h.S.grown hb, h.R.below hb, (hb.block _ (lt_of_block h.bx)).trans h.bx, (hb.block _ (lt_of_block h.bm)).trans h.bm, (hb.block _ (lt_of_block h.bq)).trans h.bq, (hb.block _ (lt_of_block h.bu)).trans h.bu,
    fun D hD => ⟨(hb.block _ (lt_of_block (h.ms D hD).1)).trans (h.ms D hD).1, (h.ms D hD).2⟩⟩
theorem TS.mark (h : TS w W q b m B T u Lq L gq g v turn many Ms) (hb : Below W.heap.size W W') {D : Nat} (hD : W.heap.size ≤ D) (hK : W'.heap[D]? = some (.deferred (some []))) : TS w W' q b m B T u Lq L gq g v turn many (D :: Ms) := by
  have h' := h.grown hb
  refine ⟨h'.K, h'.S, h'.R, h'.bx, h'.bm, h'.bq, h'.bu, fun k hk => ?_⟩
  rcases List.mem_cons.1 hk with rfl | hk
  · exact ⟨hK, by have := lt_of_block h.bq; omega⟩
  · exact h'.ms k hk
theorem TS.next (h : TS w W q b m B T u Lq L gq g v turn many Ms) (t : Int) : TS w (W.alloc (.cells #[.int .i64 t] 3)) q b m B T W.heap.size Lq L gq g v t many Ms := by
  have h' := h.grown (below_alloc W (.cells #[.int .i64 t] 3))
  exact ⟨h'.K, h'.S, h'.R, h'.bx, h'.bm, h'.bq, block_new _ _ _ rfl, h'.ms⟩
theorem SeqAt.queue (h : SeqAt W [] B L) (hK : KQ w W q b m Lq gq) (hf : Fr [b, m] W W') : SeqAt W' [] B L := by
  obtain ⟨v, h1, h2, h3⟩ := h.ex
  refine ⟨by have := hf.size; have := h.lt; omega, by simp, h.len, v, hf.same h1 (hK.Q.out h1 (by decide)), ?_, fun g hg hm => by cases hm⟩
  refine hf.row h2 (fun g hg => ?_)
  have e1 := row_ne h2 hK.Q.b (by decide) g hg
  have e2 : g ≠ m := by
    rcases h2.2 with ⟨rfl, _⟩ | ⟨g', cap, cu, rfl, _, hh, _⟩
    · simp [Value.ownBlock] at hg
    · simp [Value.ownBlock] at hg
      subst hg
      exact hK.Q.m.ne hh
  simp [e1, e2]
theorem TS.queue (h : TS w W q b m B T u Lq L gq g v turn many Ms) (hq : QAt W' q b m Lq' gq') (hf : Fr [b, m] W W') : TS w W' q b m B T u Lq' L gq' g v turn many Ms := by
  have hs : ∀ {k : Nat} {y : Array Value} {u : TypeId}, W.heap[k]? = some (.cells y u (0, 0)) → u ≠ 65 → W'.heap[k]? = some (.cells y u (0, 0)) := fun hc hu => hf.same hc (h.K.Q.out hc hu)
  refine ⟨h.K.step hq hf, h.S.queue h.K hf, row_keep h.K h.R hf, hs h.bx (by decide), hs h.bm (by decide), hs h.bq (by decide), hs h.bu (by decide), fun D hD => ⟨hf.same (h.ms D hD).1 ?_, (h.ms D hD).2⟩⟩
  have h1 := (h.ms D hD).1
  have hb := h.K.Q.b
  obtain ⟨M, es, _, hm, _⟩ := h.K.Q.m
  intro hm2
  simp only [List.mem_cons, List.not_mem_nil, or_false] at hm2
  rcases hm2 with rfl | rfl
  · rw [hb] at h1; cases h1
  · rw [hm] at h1; cases h1
theorem TS.pop (h : TS w W q b m B T u Lq L gq g v turn many Ms) : Calls Try.prog 16 #[.pointer (some ⟨q, 0, none⟩)] W fun e W' => ∃ r L', e = .returned r ∧ TS w W' q b m B T u L' L gq g v turn many Ms := by
  rcases Lq with _ | ⟨⟨t, x⟩, R⟩
  · refine (fiPop_empty h.K.Q).mono ?_
    rintro e w' ⟨rfl, rfl⟩
    exact ⟨_, _, rfl, h⟩
  · refine (fiPop_yes h.K.Q).mono ?_
    rintro e w' ⟨rfl, hq, hf⟩
    exact ⟨_, _, rfl, h.queue hq hf⟩
theorem TS.push (h : TS w W q b m B T u Lq L gq g v turn many Ms) (hg : gq ≤ 900) (x : Int) : Calls Try.prog 17 #[.pointer (some ⟨q, 0, none⟩), .int .i64 x] W fun e W' => ∃ r L', e = .returned r ∧ TS w W' q b m B T u L' L (gq + 1) g v turn many Ms := by
  have hl : Lq.length ≤ gq := by have := h.K.Q.inc.len; have := h.K.Q.le; omega
  refine (fiPush_yes h.K.Q (by omega) (by omega) x).mono ?_
  rintro e w' ⟨rfl, hq, hf⟩
  exact ⟨_, _, rfl, h.queue hq hf⟩
end

/-- How the body of a round may be left: kk is the block of k. -/
def turnK (kk id : Nat) (turn many : Int) (k : Nat) (W : World) : Exit → Act → World → Prop
  | .normal, _, W' => W' = W.setCell ⟨kk, 0, none⟩ (.int .i64 (((k : Nat) : Int) + 1)) ∧ (turn ≠ 0 ∨ ((k : Nat) : Int) + 1 < many)
  | .exit j, _, W' => W' = W.setCell ⟨kk, 0, none⟩ (.int .i64 (((k : Nat) : Int) + 1)) ∧ j = id ∧ turn = 0 ∧ many ≤ ((k : Nat) : Int) + 1
  | _, _, _ => False

theorem range_turn {assign body : Code} {Q : Exit → Act → World → Prop} {a : Act} {w1 : World} {g : Operand} {id : Nat} (p1 p2 d1 d2 : Tmp) (B : Nat) (L : Qu) (turn many : Int) (hg : a.eval g = seqV B) (hS : SeqAt w1 [] B L)
    (hassign : ∀ (l : Nat) (t v : Value) (W : World) (K : Act → World → Prop), K { tmps := (((a.tmps.setIfInBounds p1 t).setIfInBounds p2 v).setIfInBounds d1 t).setIfInBounds d2 v, defers := [] } W → assign.wpIn (Fence.wide.inRound l) 4 Try.prog (Exit.then K (fun _ _ _ => False)) { tmps := (a.tmps.setIfInBounds p1 t).setIfInBounds p2 v, defers := [] } W)
    (hbody : ∀ (l k : Nat) (x : Nat × Int) (W : World), L[k]? = some x → Below w1.heap.size w1 W → W.heap[w1.heap.size]? = some (.cells #[.int .i64 ((k : Nat) : Int)] 3 (0, 0)) → (k = 0 ∨ turn ≠ 0 ∨ ((k : Nat) : Int) < many) →
      body.wpIn (Fence.wide.inRound l) 4 Try.prog (turnK w1.heap.size id turn many k W) { tmps := (((a.tmps.setIfInBounds p1 (.int .u64 ((x.1 : Nat) : Int))).setIfInBounds p2 (.int .i64 x.2)).setIfInBounds d1 (.int .u64 ((x.1 : Nat) : Int))).setIfInBounds d2 (.int .i64 x.2), defers := [] } W)
    (hout : ∀ (D k : Nat) (W : World), w1.heap.size + 1 ≤ D → k ≤ L.length → (turn = 0 → min (L.length : Int) (max 1 many) = ((k : Nat) : Int)) → (turn ≠ 0 → k = L.length) → W.heap[w1.heap.size]? = some (.cells #[.int .i64 ((k : Nat) : Int)] 3 (0, 0)) → Below w1.heap.size w1 W → W.heap[D]? = some (.deferred (some [])) →
      Q .normal { a with defers := { target := .collected D, args := #[] } :: a.defers } W) :
    (Code.rangeFunc g #[p1, p2] assign body).wpIn Fence.wide 6 Try.prog (Exit.inBlock id Q) a (w1.alloc (.cells #[.int .i64 0] 3)) := by
  have hbi := below_alloc w1 (.cells #[.int .i64 0] 3)
  have hlt : ∀ (k : Nat) (W' : World), W'.heap[w1.heap.size]? = some (.cells #[.int .i64 ((k : Nat) : Int)] 3 (0, 0)) → (W'.setCell ⟨w1.heap.size, 0, none⟩ (.int .i64 (((k : Nat) : Int) + 1))).heap[w1.heap.size]? = some (.cells #[.int .i64 ((k + 1 : Nat) : Int)] 3 (0, 0)) := fun k W' h => by
    have := cells_set h 0 (.int .i64 (((k : Nat) : Int) + 1))
    simpa using this
  refine range_vals (n := 6) (B := B) (Fs := [w1.heap.size]) (L := L) (by omega) hg (hS.more hbi (fun x hx => by simp at hx; omega)) rfl
    (fun k W' => (Below w1.heap.size w1 W' ∧ W'.heap[w1.heap.size]? = some (.cells #[.int .i64 ((k : Nat) : Int)] 3 (0, 0))) ∧ (k = 0 ∨ turn ≠ 0 ∨ ((k : Nat) : Int) < many))
    (fun c k W' => (Below w1.heap.size w1 W' ∧ W'.heap[w1.heap.size]? = some (.cells #[.int .i64 ((k : Nat) : Int)] 3 (0, 0))) ∧ c = .exit id ∧ turn = 0 ∧ ((k : Nat) : Int) = max 1 many) ?hI ?hIx ?h0 ?round ?done ?stop
  case hI =>
    rintro k A A' row ⟨⟨hb, h1⟩, h2⟩ hg hr
    exact ⟨⟨hb.grown hg hb.size (fun r e => by have := (hr r e).1; simp at this; omega), (hg.block _ (lt_of_block h1) (fun e => by have := (hr _ e.symm).1; simp at this; omega)).trans h1⟩, h2⟩
  case hIx =>
    rintro c k A A' row ⟨⟨hb, h1⟩, h2⟩ hg hr
    exact ⟨⟨hb.grown hg hb.size (fun r e => by have := (hr r e).1; simp at this; omega), (hg.block _ (lt_of_block h1) (fun e => by have := (hr _ e.symm).1; simp at this; omega)).trans h1⟩, h2⟩
  case h0 => exact ⟨⟨hbi, block_new _ _ _ rfl⟩, .inl rfl⟩
  case round =>
    rintro l k x W' hl hp hlets ⟨⟨hbw, hcell⟩, hk⟩
    have hz : ((#[p1, p2] : Array Tmp).zip #[Value.int .u64 ((x.1 : Nat) : Int), .int .i64 x.2]).foldl (fun t (p, v) => t.setIfInBounds p v) a.tmps = (a.tmps.setIfInBounds p1 (.int .u64 ((x.1 : Nat) : Int))).setIfInBounds p2 (.int .i64 x.2) := by simp
    rw [hz]
    refine hassign l (.int .u64 ((x.1 : Nat) : Int)) (.int .i64 x.2) W' _ ?_
    refine ⟨rfl, ?_⟩
    rintro W2 hlets2 ⟨⟨hbw2, hcell2⟩, hk2⟩
    refine wpIn_mono (hbody l k x W2 hp hbw2 hcell2 hk2) ?_
    intro e a' W3 hpost
    have hf := fr_setCell W2 ⟨w1.heap.size, 0, none⟩ (.int .i64 (((k : Nat) : Int) + 1))
    have hkf := (KeepsOthers.setCell W2 ⟨w1.heap.size, 0, none⟩ (.int .i64 (((k : Nat) : Int) + 1))).from (w1.alloc (.cells #[.int .i64 0] 3)).heap.size
    have hbf := hbw2.trans (hf.below (fun x hx => by simp at hx; omega) hbw2.size)
    cases e with
    | normal =>
      obtain ⟨rfl, h2⟩ := hpost
      exact ⟨hkf, Lets.of_fr hf (by have := hlets2.size; omega), ⟨hbf, hlt _ _ hcell2⟩, by omega⟩
    | exit j =>
      obtain ⟨rfl, rfl, h2, h3⟩ := hpost
      refine ⟨hkf, ⟨hbf, hlt _ _ hcell2⟩, rfl, h2, ?_⟩
      rcases hk2 with h | h | h <;> omega
    | _ => exact hpost.elim
  case done =>
    rintro D W' hD ⟨⟨hbw, hcell⟩, hk⟩ hK
    refine hout D _ W' (by simpa using hD) (Nat.le_refl _) (fun ht => ?_) (fun _ => rfl) hcell hbw hK
    rcases hk with h | h | h <;> omega
  case stop =>
    rintro D c k W' hD hkl ⟨⟨hbw, hcell⟩, rfl, h1, h2⟩ hK
    have := hout D k W' (by simpa using hD) hkl (fun _ => by omega) (fun h => absurd h1 h) hcell hbw hK
    refine wpIn_exit ?_
    simpa [Exit.inBlock] using this
end Go.Proofs.Ytopkikdbhapfmaa
