/- SlotIterates: the state of its second loop; a range in a turn. -/
import Derived.Test.YtbefiilbpbbjnaaEDo
import Derived.Test.YtbefiilbpbbjnaaEAll
import Derived.Test.YtbefiilbpbbjnaaEMix
namespace Go.Proofs.Ytbefiilbpbbjnaa
open Go.RowKit Go.Sort Go.Shelf
set_option linter.unusedVariables false
set_option linter.unusedSimpArgs false
attribute [local go_sem] Oper.semAt_some

theorem run_min2 {P : Program} (w : World) (ts : Array TypeId) (ty : TypeId) (X Y Z : Int) (hz : min X Y = Z) : (Builtin.min_ ts ty #[.int .i64 X, .int .i64 Y]).run P w = .ok (.int .i64 Z) w := by
  have e : (if Y < X then Y else X) = Z := by split <;> omega
  simp [Builtin.min_, Builtin.min2, e]
theorem wpList_min {P : Program} {w : World} {ops : Array Oper} {rest : List Oper} {o : Oper} {a : Act} {Q : Exit → Act → World → Prop} (hgd : o.guard = none) (x y : Operand) (ts : Array TypeId)
    (ho : o.op = .call { callee := .builtin .min, args := #[x, y], argTypes := ts }) (X Y Z : Int) (hx : a.eval x = .int .i64 X) (hy : a.eval y = .int .i64 Y) (hz : min X Y = Z)
    (h : wpList P ops Q rest (a.put o.dst (.int .i64 Z)) w) : wpList P ops Q (o :: rest) a w := by
  refine wpList_plain hgd fun K hK => ?_
  have hrun := run_min2 (P := P) w ts o.type X Y Z hz
  unfold Oper.wp
  simp [execOp, ho, resolve, invoke, builtin, hx, hy, hrun, Result.andThen]
  exact hK _ _ h
theorem run_max2 {P : Program} (w : World) (ts : Array TypeId) (ty : TypeId) (X Y Z : Int) (hz : max X Y = Z) : (Builtin.max_ ts ty #[.int .i64 X, .int .i64 Y]).run P w = .ok (.int .i64 Z) w := by
  have e : (if X < Y then Y else X) = Z := by split <;> omega
  simp [Builtin.max_, Builtin.max2, e]
theorem wpList_max {P : Program} {w : World} {ops : Array Oper} {rest : List Oper} {o : Oper} {a : Act} {Q : Exit → Act → World → Prop} (hgd : o.guard = none) (x y : Operand) (ts : Array TypeId)
    (ho : o.op = .call { callee := .builtin .max, args := #[x, y], argTypes := ts }) (X Y Z : Int) (hx : a.eval x = .int .i64 X) (hy : a.eval y = .int .i64 Y) (hz : max X Y = Z)
    (h : wpList P ops Q rest (a.put o.dst (.int .i64 Z)) w) : wpList P ops Q (o :: rest) a w := by
  refine wpList_plain hgd fun K hK => ?_
  have hrun := run_max2 (P := P) w ts o.type X Y Z hz
  unfold Oper.wp
  simp [execOp, ho, resolve, invoke, builtin, hx, hy, hrun, Result.andThen]
  exact hK _ _ h
theorem wpList_unguard {P : Program} {ops : Array Oper} {Q : Exit → Act → World → Prop} {a : Act} {w : World} {rest : List Oper} {o : Oper} (hw : Region.wanted o (yielded ops a.tmps) = true) (h : wpList P ops Q ({ o with guard := none } :: rest) a w) : wpList P ops Q (o :: rest) a w := by
  unfold wpList at h ⊢
  rw [if_pos hw]
  have hn : Region.wanted { o with guard := none } (yielded ops a.tmps) = true := by simp [Region.wanted]
  rw [if_pos hn] at h
  exact h

theorem SeqAt.off {w W : World} {F0 F : List Nat} {B : Nat} {P : Tab} (h : SeqAt w F0 B P) (hb : Below w.heap.size w W) (hF : ∀ x ∈ F, x ∈ F0 ∨ w.heap.size ≤ x) : SeqAt W F B P := by
  obtain ⟨a, c, h1, h2⟩ := h.ex
  refine ⟨by have := hb.size; have := h.lt; omega, fun hm => ?_, h.len, a, c, (hb.block _ h.lt).trans h1, ?_⟩
  · rcases hF _ hm with h' | h'
    · exact h.nB h'
    · have := h.lt; omega
  rcases h2 with h2 | ⟨g, h2, h3, h4⟩
  · exact .inl h2
  · exact .inr ⟨g, h2, h3.same (hb.block _ h3.lt), fun hm => by
      rcases hF _ hm with h' | h'
      · exact h4 h'
      · have := h3.lt; omega⟩
theorem SeqAt.fr {w W : World} {F : List Nat} {B : Nat} {P : Tab} (h : SeqAt w F B P) (hf : Fr F w W) : SeqAt W F B P := by
  obtain ⟨a, c, h1, h2⟩ := h.ex
  refine ⟨by have := hf.size; have := h.lt; omega, h.nB, h.len, a, c, hf.same h1 h.nB, ?_⟩
  rcases h2 with h2 | ⟨g, h2, h3, h4⟩
  · exact .inl h2
  · exact .inr ⟨g, h2, h3.same (hf.block _ h3.lt h4), h4⟩

/-- The law's state in its second loop: the table over P2, the sequence at B over P, the reference's list in the box T, the turn's box u, the marks of the ranges. -/
structure TS (w W : World) (t g c B T u : Nat) (P2 P : Tab) (v : Value) (turn many : Int) (Ms : List Nat) : Prop where
  K : KT w W t g c P2
  S : SeqAt W [g] B P
  R : Row TF W w.heap.size v (ents 0 P)
  bx : W.heap[T]? = some (.cells #[v] 28 (0, 0))
  bm : W.heap[w.heap.size]? = some (.cells #[.int .i64 many] 3 (0, 0))
  bq : W.heap[w.heap.size + 1]? = some (.cells #[.bool false] 4 (0, 0))
  bu : W.heap[u]? = some (.cells #[.int .i64 turn] 3 (0, 0))
  ms : ∀ D, D ∈ Ms → W.heap[D]? = some (.deferred (some [])) ∧ w.heap.size + 1 < D
section
variable {w W W' : World} {t g c B T u : Nat} {P2 P2' P : Tab} {v : Value} {turn many : Int} {Ms : List Nat}
theorem TS.grown (h : TS w W t g c B T u P2 P v turn many Ms) (hb : Below W.heap.size W W') : TS w W' t g c B T u P2 P v turn many Ms :=
  ⟨h.K.grown hb, h.S.off hb (fun x hx => .inl hx), h.R.below hb, (hb.block _ (lt_of_block h.bx)).trans h.bx, (hb.block _ (lt_of_block h.bm)).trans h.bm, (hb.block _ (lt_of_block h.bq)).trans h.bq, (hb.block _ (lt_of_block h.bu)).trans h.bu,
    fun D hD => ⟨(hb.block _ (lt_of_block (h.ms D hD).1)).trans (h.ms D hD).1, (h.ms D hD).2⟩⟩
theorem TS.mark (h : TS w W t g c B T u P2 P v turn many Ms) (hb : Below W.heap.size W W') {D : Nat} (hD : W.heap.size ≤ D) (hK : W'.heap[D]? = some (.deferred (some []))) : TS w W' t g c B T u P2 P v turn many (D :: Ms) := by
  have h' := h.grown hb
  refine ⟨h'.K, h'.S, h'.R, h'.bx, h'.bm, h'.bq, h'.bu, fun k hk => ?_⟩
  rcases List.mem_cons.1 hk with rfl | hk
  · exact ⟨hK, by have := lt_of_block h.bq; omega⟩
  · exact h'.ms k hk
theorem TS.next (h : TS w W t g c B T u P2 P v turn many Ms) (x : Int) : TS w (W.alloc (.cells #[.int .i64 x] 3)) t g c B T W.heap.size P2 P v x many Ms := by
  have h' := h.grown (below_alloc W (.cells #[.int .i64 x] 3))
  exact ⟨h'.K, h'.S, h'.R, h'.bx, h'.bm, h'.bq, block_new _ _ _ rfl, h'.ms⟩
theorem TS.table (h : TS w W t g c B T u P2 P v turn many Ms) (hT : TAt W' t g c P2') (hf : Fr [g] W W') : TS w W' t g c B T u P2' P v turn many Ms := by
  have hs : ∀ {k : Nat} {y : Array Value} {u : TypeId}, W.heap[k]? = some (.cells y u (0, 0)) → u ≠ 79 → W'.heap[k]? = some (.cells y u (0, 0)) := fun hc hu => hf.same hc (h.K.T.out hc hu)
  refine ⟨h.K.step hT hf, h.S.fr hf, row_keep h.K.T h.R hf, hs h.bx (by decide), hs h.bm (by decide), hs h.bq (by decide), hs h.bu (by decide), fun D hD => ⟨hf.same (h.ms D hD).1 ?_, (h.ms D hD).2⟩⟩
  have h1 := (h.ms D hD).1
  obtain ⟨cur, hb, _⟩ := h.K.T.r.ex
  intro hm2
  simp only [List.mem_cons, List.not_mem_nil, or_false] at hm2
  subst hm2
  rw [hb] at h1
  cases h1
/-- Open: behind it the lowest number is open. -/
theorem TS.open (h : TS w W t g c B T u P2 P v turn many Ms) (x : Int) : Calls Try.prog 16 #[.pointer (some ⟨t, 0, none⟩), .int .i64 x] W fun e W' => ∃ r P2' G y, e = .returned r ∧ P2'[0]? = some ⟨true, G, y⟩ ∧ TS w W' t g c B T u P2' P v turn many Ms := by
  have hlen := h.K.T.n1
  obtain ⟨p0, hp0⟩ : ∃ p0, P2[0]? = some p0 := ⟨_, List.getElem?_eq_getElem (by omega)⟩
  by_cases hf : free P2 < P2.length
  · obtain ⟨p, hp, hpo⟩ := free_lt hf
    refine (slOpen_yes h.K.T rfl hp x).mono ?_
    rintro e W' ⟨rfl, hT, hfr⟩
    by_cases h0 : free P2 = 0
    · refine ⟨_, _, p.g, x, rfl, ?_, h.table hT hfr⟩
      rw [set_get hp, if_pos h0]
    · have ho := free_before (by omega) hp0
      obtain ⟨o, G, y⟩ := p0
      simp only at ho
      subst ho
      refine ⟨_, _, G, y, rfl, ?_, h.table hT hfr⟩
      rw [set_get hp, if_neg h0, hp0]
  · have hff : free P2 = P2.length := by have := free_le P2; omega
    have ho := free_before (by omega) hp0
    obtain ⟨o, G, y⟩ := p0
    simp only at ho
    subst ho
    refine (slOpen_full h.K.T hff x).mono ?_
    rintro e W' ⟨rfl, hg⟩
    exact ⟨_, P2, G, y, rfl, hp0, h.grown hg.below⟩
end

/-- How the body of a round may be left: kk is the block of k. -/
def turnK (kk id : Nat) (turn many : Int) (k : Nat) (W : World) : Exit → Act → World → Prop
  | .normal, _, W' => (∃ nq, W' = (W.drewN nq).setCell ⟨kk, 0, none⟩ (.int .i64 (((k : Nat) : Int) + 1))) ∧ (turn ≠ 0 ∨ ((k : Nat) : Int) + 1 < many)
  | .exit j, _, W' => (∃ nq, W' = (W.drewN nq).setCell ⟨kk, 0, none⟩ (.int .i64 (((k : Nat) : Int) + 1))) ∧ j = id ∧ turn = 0 ∧ many ≤ ((k : Nat) : Int) + 1
  | _, _, _ => False

theorem range_turn {assign body : Code} {Q : Exit → Act → World → Prop} {a : Act} {w1 : World} {g : Operand} {id : Nat} {F0 : List Nat} (p1 p2 d1 d2 : Tmp) (B : Nat) (P : Tab) (turn many : Int) (hg : a.eval g = seqV B) (hS : SeqAt w1 F0 B P)
    (hassign : ∀ (l : Nat) (n G v : Int) (W : World) (K : Act → World → Prop), K { tmps := (((a.tmps.setIfInBounds p1 (.agg #[.int .i64 n, .int .i64 G])).setIfInBounds p2 (.int .i64 v)).setIfInBounds d1 (.pointer (some ⟨W.heap.size, 0, none⟩))).setIfInBounds d2 (.int .i64 v), defers := [] } (W.alloc (.cells #[.int .i64 n, .int .i64 G] 34)) → assign.wpIn (Fence.wide.inRound l) 4 Try.prog (Exit.then K (fun _ _ _ => False)) { tmps := (a.tmps.setIfInBounds p1 (.agg #[.int .i64 n, .int .i64 G])).setIfInBounds p2 (.int .i64 v), defers := [] } W)
    (hbody : ∀ (l k b : Nat) (x : Fd) (W : World), (ents 0 P)[k]? = some x → Below w1.heap.size w1 W → W.heap[w1.heap.size]? = some (.cells #[.int .i64 ((k : Nat) : Int)] 3 (0, 0)) → w1.heap.size + 3 ≤ b → W.heap[b]? = some (.cells #[.int .i64 ((x.n : Nat) : Int), .int .i64 ((x.g : Nat) : Int)] 34 (0, 0)) → (k = 0 ∨ turn ≠ 0 ∨ ((k : Nat) : Int) < many) →
      body.wpIn (Fence.wide.inRound l) 4 Try.prog (turnK w1.heap.size id turn many k W) { tmps := (((a.tmps.setIfInBounds p1 (.agg #[.int .i64 ((x.n : Nat) : Int), .int .i64 ((x.g : Nat) : Int)])).setIfInBounds p2 (.int .i64 x.v)).setIfInBounds d1 (.pointer (some ⟨b, 0, none⟩))).setIfInBounds d2 (.int .i64 x.v), defers := [] } W)
    (hout : ∀ (D k : Nat) (W : World), w1.heap.size + 1 ≤ D → k ≤ (ents 0 P).length → (turn = 0 → min ((ents 0 P).length : Int) (max 1 many) = ((k : Nat) : Int)) → (turn ≠ 0 → k = (ents 0 P).length) → W.heap[w1.heap.size]? = some (.cells #[.int .i64 ((k : Nat) : Int)] 3 (0, 0)) → Below w1.heap.size w1 W → W.heap[D]? = some (.deferred (some [])) →
      Q .normal { a with defers := { target := .collected D, args := #[] } :: a.defers } W) :
    (Code.rangeFunc g #[p1, p2] assign body).wpIn Fence.wide 6 Try.prog (Exit.inBlock id Q) a (w1.alloc (.cells #[.int .i64 0] 3)) := by
  have hbi := below_alloc w1 (.cells #[.int .i64 0] 3)
  refine range_vals (n := 6) (B := B) (Fs := [w1.heap.size]) (P := P) (by omega) hg (hS.off hbi (fun x hx => by simp at hx; omega)) rfl
    (fun k W' => (Below w1.heap.size w1 W' ∧ W'.heap[w1.heap.size]? = some (.cells #[.int .i64 ((k : Nat) : Int)] 3 (0, 0))) ∧ (k = 0 ∨ turn ≠ 0 ∨ ((k : Nat) : Int) < many))
    (fun c k W' => (Below w1.heap.size w1 W' ∧ W'.heap[w1.heap.size]? = some (.cells #[.int .i64 ((k : Nat) : Int)] 3 (0, 0))) ∧ c = .exit id ∧ turn = 0 ∧ ((k : Nat) : Int) = max 1 many) ?hI ?hIx ?h0 ?round ?done ?stop
  case hI =>
    rintro k A A' row ⟨⟨hb, h1⟩, h2⟩ hg hr
    exact ⟨⟨hb.grown hg hb.size (fun r e => by have := (hr r e).1; simp at this; omega), (hg.block _ (lt_of_block h1) (fun e => by have := (hr _ e.symm).1; simp at this; omega)).trans h1⟩, h2⟩
  case hIx =>
    rintro c k A A' row ⟨⟨hb, h1⟩, h2⟩ hg hr
    exact ⟨⟨hb.grown hg hb.size (fun r e => by have := (hr r e).1; simp at this; omega), (hg.block _ (lt_of_block h1) (fun e => by have := (hr _ e.symm).1; simp at this; omega)).trans h1⟩, h2⟩
  case h0 => exact ⟨⟨hbi, block_new _ _ _ rfl⟩, .inl rfl⟩
  case round =>
    rintro l k x W' hl hs2 hp hlets ⟨⟨hbw, hcell⟩, hk⟩
    have hz : ((#[p1, p2] : Array Tmp).zip #[Value.agg #[.int .i64 ((x.n : Nat) : Int), .int .i64 ((x.g : Nat) : Int)], .int .i64 x.v]).foldl (fun t (p, v) => t.setIfInBounds p v) a.tmps = (a.tmps.setIfInBounds p1 (.agg #[.int .i64 ((x.n : Nat) : Int), .int .i64 ((x.g : Nat) : Int)])).setIfInBounds p2 (.int .i64 x.v) := by simp
    rw [hz]
    refine hassign l _ _ _ W' _ ?_
    refine ⟨below_alloc _ _, ?_⟩
    rintro W2 hsame hlets2 ⟨⟨hbw2, hcell2⟩, hk2⟩
    have hs3 : w1.heap.size + 3 ≤ W'.heap.size := by simpa using hs2
    have hX : W2.heap[W'.heap.size]? = some (.cells #[.int .i64 ((x.n : Nat) : Int), .int .i64 ((x.g : Nat) : Int)] 34 (0, 0)) := (hsame _ (by simp; omega)).trans (block_new _ _ _ rfl)
    refine wpIn_mono (hbody l k W'.heap.size x W2 hp hbw2 hcell2 hs3 hX hk2) ?_
    intro e a' W3 hpost
    have fin : ∀ nq, W3 = (W2.drewN nq).setCell ⟨w1.heap.size, 0, none⟩ (.int .i64 (((k : Nat) : Int) + 1)) → KeepsFrom (w1.alloc (.cells #[.int .i64 0] 3)).heap.size W2 W3 ∧ Lets [w1.heap.size] (w1.alloc (.cells #[.int .i64 0] 3)).heap.size W2 W3 ∧ Below w1.heap.size w1 W3 ∧ W3.heap[w1.heap.size]? = some (.cells #[.int .i64 ((k + 1 : Nat) : Int)] 3 (0, 0)) := fun nq e => by
      have hd0 := fr_drewN W2 nq [w1.heap.size]
      have hf := hd0.trans' (fr_setCell (W2.drewN nq) ⟨w1.heap.size, 0, none⟩ (.int .i64 (((k : Nat) : Int) + 1)))
      have hc := cells_set (w := W2.drewN nq) (b := w1.heap.size) hcell2 0 (.int .i64 (((k : Nat) : Int) + 1))
      rw [← e] at hf hc
      refine ⟨keepsFrom_fr hf (fun y hy => ⟨_, by simp at hy; subst hy; exact hcell2, rfl⟩), Lets.of_fr hf (by have := hlets2.size; omega), hbw2.trans (hf.below (fun x hx => by simp at hx; omega) hbw2.size), ?_⟩
      simpa using hc
    cases e with
    | normal =>
      obtain ⟨⟨nq, e⟩, h2⟩ := hpost
      obtain ⟨f1, f2, f3, f4⟩ := fin nq e
      exact ⟨f1, f2, ⟨f3, f4⟩, by omega⟩
    | exit j =>
      obtain ⟨⟨nq, e⟩, rfl, h2, h3⟩ := hpost
      obtain ⟨f1, f2, f3, f4⟩ := fin nq e
      refine ⟨f1, ⟨f3, f4⟩, rfl, h2, ?_⟩
      rcases hk2 with h | h | h <;> omega
    | _ => exact hpost.elim
  case done =>
    rintro D W' hD ⟨⟨hbw, hcell⟩, hk⟩ hK
    refine hout D _ W' (by simpa using hD) (Nat.le_refl _) (fun ht => ?_) (fun _ => rfl) hcell hbw hK
    rcases hk with h | h | h <;> omega
  case stop =>
    rintro D c k W' hD hkl ⟨⟨hbw, hcell⟩, rfl, h1, h2⟩ hK
    have := hout D k W' (by simpa using hD) hkl (fun _ => by omega) (fun h => absurd h1 h) hcell hbw hK
    refine wpIn_exit ?_
    simpa [Exit.inBlock] using this
end Go.Proofs.Ytbefiilbpbbjnaa
