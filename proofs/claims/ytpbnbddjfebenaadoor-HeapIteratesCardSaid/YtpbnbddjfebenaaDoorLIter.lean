/- The walk of HeapIterates. -/
import Derived.Test.YtpbnbddjfebenaaDoorLDo4
import Derived.RangeFuncNested
import Derived.RangeFuncLeaves
import Derived.LoopNIn
import Derived.LoopN
namespace Go.Proofs.YtpbnbddjfebenaaDoor
open Go.RowKit Go.Sort Go.Shelf
set_option linter.unusedVariables false
set_option linter.unusedSimpArgs false
attribute [local go_sem] Oper.semAt_some

theorem run_max2 {P : Program} (w : World) (ts : Array TypeId) (ty : TypeId) (X Y Z : Int) (hz : max X Y = Z) : (Builtin.max_ ts ty #[.int .i64 X, .int .i64 Y]).run P w = .ok (.int .i64 Z) w := by
  have e : (if X < Y then Y else X) = Z := by split <;> omega
  simp [Builtin.max_, Builtin.max2, e]
theorem wpList_max {P : Program} {w : World} {ops : Array Oper} {rest : List Oper} {o : Oper} {a : Act} {Q : Exit → Act → World → Prop} (hgd : o.guard = none) (x y : Operand) (ts : Array TypeId)
    (ho : o.op = .call { callee := .builtin .max, args := #[x, y], argTypes := ts }) (X Y Z : Int) (hx : a.eval x = .int .i64 X) (hy : a.eval y = .int .i64 Y) (hz : max X Y = Z)
    (h : wpList P ops Q rest (a.put o.dst (.int .i64 Z)) w) : wpList P ops Q (o :: rest) a w := by
  refine wpList_plain hgd fun K hK => ?_
  have hrun := run_max2 (P := P) w ts o.type X Y Z hz
  unfold Oper.wp
  simp [execOp, ho, resolve, invoke, builtin, hx, hy, hrun, Result.andThen]
  exact hK _ _ h
theorem run_min2 {P : Program} (w : World) (ts : Array TypeId) (ty : TypeId) (X Y Z : Int) (hz : min X Y = Z) : (Builtin.min_ ts ty #[.int .i64 X, .int .i64 Y]).run P w = .ok (.int .i64 Z) w := by
  have e : (if Y < X then Y else X) = Z := by split <;> omega
  simp [Builtin.min_, Builtin.min2, e]
theorem wpList_min {P : Program} {w : World} {ops : Array Oper} {rest : List Oper} {o : Oper} {a : Act} {Q : Exit → Act → World → Prop} (hgd : o.guard = none) (x y : Operand) (ts : Array TypeId)
    (ho : o.op = .call { callee := .builtin .min, args := #[x, y], argTypes := ts }) (X Y Z : Int) (hx : a.eval x = .int .i64 X) (hy : a.eval y = .int .i64 Y) (hz : min X Y = Z)
    (h : wpList P ops Q rest (a.put o.dst (.int .i64 Z)) w) : wpList P ops Q (o :: rest) a w := by
  refine wpList_plain hgd fun K hK => ?_
  have hrun := run_min2 (P := P) w ts o.type X Y Z hz
  unfold Oper.wp
  simp [execOp, ho, resolve, invoke, builtin, hx, hy, hrun, Result.andThen]
  exact hK _ _ h
theorem wpList_unguard {P : Program} {ops : Array Oper} {Q : Exit → Act → World → Prop} {a : Act} {w : World} {rest : List Oper} {o : Oper} (hw : Region.wanted o (yielded ops a.tmps) = true) (h : wpList P ops Q ({ o with guard := none } :: rest) a w) : wpList P ops Q (o :: rest) a w := by
  unfold wpList at h ⊢
  rw [if_pos hw]
  have hn : Region.wanted { o with guard := none } (yielded ops a.tmps) = true := by simp [Region.wanted]
  rw [if_pos hn] at h
  exact h
/-- What the body of a function that ranges over a function must achieve: it does not panic. -/
def postM (P : Program) (fn : Func) (R : Ending → World → Prop) : Exit → Act → World → Prop
  | .normal, a, w | .ret, a, w => LeavesInM Fence.wide 6 P fn a.tmps R a.defers .returning w
  | _, _, _ => False
theorem postM_le {P : Program} {fn : Func} {R : Ending → World → Prop} : ∀ e a w, postM P fn R e a w → bodyPostM Fence.wide 6 P fn R e a w
  | .normal, _, _, h => h
  | .ret, _, _, h => h
  | .panic _, _, _, h => h.elim
  | .outgrown, _, _, h => h.elim
  | .exit _, _, _, h => h.elim
  | .goto _, _, _, h => h.elim
theorem calls_marks {P : Program} {f : FuncId} {fn : Func} {c : Code} {args : Array Value} {w : World} {R : Ending → World → Prop} (hf : P.funcs[f]? = some fn) (hb : fn.body = some c)
    (h : c.wp P (postM P fn R) { tmps := args ++ Array.replicate (fn.ntmps - args.size) undef, defers := [] } w) : Calls P f args w R :=
  (callsIn_wide (n := 6)).1 (callsIn_of_wp_marks hf hb trivial (wpIn_wide.2 (wp_mono h postM_le)) rfl)

/-- The law's state at the head of its first loop: b is the block of the reference. -/
structure ItSt (w wr : World) (a : Nat) (S : List El) (P : Nat) (s : Value) (b : Nat) (many : Int) : Prop where
  D : ∃ G, DoSt w wr G a S P s ∧ G b ∧ G w.heap.size ∧ G (w.heap.size + 1)
  box : BoxR wr b s
  bm : wr.heap[w.heap.size]? = some (.cells #[.int .i64 many] 3 (0, 0))
  bq : wr.heap[w.heap.size + 1]? = some (.cells #[.bool false] 4 (0, 0))
  hb : w.heap.size + 2 ≤ b

theorem row_keep {w w' : World} {base e size n : Nat} {v : Value} {xs : List Value} (h : w.ownsRow base e size v n xs) (hk : ∀ g, v.ownBlock = some g → w'.heap[g]? = w.heap[g]?) : w'.ownsRow base e size v n xs := by
  refine ⟨h.1, ?_⟩
  rcases h.2 with h' | ⟨g, cap, cur, rfl, hb, hg, r⟩
  · exact .inl h'
  · exact .inr ⟨g, cap, cur, rfl, hb, (hk g rfl).trans hg, r⟩
theorem keeps_set {B c j : Nat} (W : World) (v : Value) (hc : c < B) : KeepsFrom B W (W.setCell ⟨c, j, none⟩ v) :=
  ⟨by simp [World.setCell], fun k o hB hk _ => (Below.heap_setCell _ _ _ _ (by simp; omega)).trans hk⟩
theorem prefix_snoc {L pre : List Nat} {x : Nat} (h : pre <+: L) (hl : pre.length < L.length) : pre ++ [x] <+: L ↔ x = L.getD pre.length 0 := by
  obtain ⟨r, rfl⟩ := h
  cases r with
  | nil => simp at hl
  | cons y r => simp [List.prefix_append_right_inj]

/-- The law's state in its second loop: x9 is the block of the wanted handles, B the sequence's, u the turn's, Ms the marks of the ranges. -/
structure TSt (w W : World) (a : Nat) (S : List El) (P : Nat) (L : List Nat) (v : Value) (x9 B u : Nat) (turn many : Int) (Ms : List Nat) : Prop where
  H : ∃ (G : Nat → Prop) (Bs : List Nat), HeapIn w G W a S P ∧ SeqIn Bs B L W ∧ (∀ k, k ∈ Bs → G k) ∧ G x9 ∧ (∀ g, v.ownBlock = some g → G g) ∧ G w.heap.size ∧ G (w.heap.size + 1) ∧ G u ∧ (∀ k, k ∈ Ms → G k)
  row : W.ownsRow 0 3 1 v L.length (L.map encN)
  b9 : W.heap[x9]? = some (.cells #[v] 35 (0, 0))
  bm : W.heap[w.heap.size]? = some (.cells #[.int .i64 many] 3 (0, 0))
  bq : W.heap[w.heap.size + 1]? = some (.cells #[.bool false] 4 (0, 0))
  bu : W.heap[u]? = some (.cells #[.int .i64 turn] 3 (0, 0))
  ms : ∀ k, k ∈ Ms → W.heap[k]? = some (.deferred (some [])) ∧ w.heap.size + 1 < k

theorem TSt.below {w W : World} {a : Nat} {S : List El} {P : Nat} {L : List Nat} {v : Value} {x9 B u : Nat} {turn many : Int} {Ms : List Nat} (T : TSt w W a S P L v x9 B u turn many Ms) : Below w.heap.size w W := by
  obtain ⟨G, Bs, H, _⟩ := T.H
  exact H.below
theorem TSt.grown {w W W' : World} {a : Nat} {S : List El} {P : Nat} {L : List Nat} {v : Value} {x9 B u : Nat} {turn many : Int} {Ms : List Nat} (T : TSt w W a S P L v x9 B u turn many Ms) (hb : Below W.heap.size W W') : TSt w W' a S P L v x9 B u turn many Ms := by
  obtain ⟨G, Bs, H, hS, r⟩ := T.H
  exact ⟨⟨G, Bs, H.grown hb, hS.fr (Fr.of_below hb []) (fun _ _ => by simp), r⟩, (Fr.of_below hb []).row T.row (fun _ _ => by simp), (hb.block _ (lt_of_block T.b9)).trans T.b9, (hb.block _ (lt_of_block T.bm)).trans T.bm, (hb.block _ (lt_of_block T.bq)).trans T.bq, (hb.block _ (lt_of_block T.bu)).trans T.bu,
    fun k hk => ⟨(hb.block _ (lt_of_block (T.ms k hk).1)).trans (T.ms k hk).1, (T.ms k hk).2⟩⟩
/-- A range has left its mark. -/
theorem TSt.mark {w W W' : World} {a : Nat} {S : List El} {P : Nat} {L : List Nat} {v : Value} {x9 B u : Nat} {turn many : Int} {Ms : List Nat} (T : TSt w W a S P L v x9 B u turn many Ms) (hb : Below W.heap.size W W') {D : Nat} (hD : W.heap.size ≤ D) (hK : W'.heap[D]? = some (.deferred (some []))) :
    TSt w W' a S P L v x9 B u turn many (D :: Ms) := by
  have T' := T.grown hb
  obtain ⟨G, Bs, H, hS, r1, r2, r3, r4, r5, r6, r7⟩ := T.H
  have hl := lt_of_block T.bq
  refine ⟨⟨fun k => G k ∨ (W.heap.size ≤ k ∧ k < W'.heap.size), Bs, H.more hb (fun k hk => hk), hS.fr (Fr.of_below hb []) (fun _ _ => by simp), fun k hk => .inl (r1 k hk), .inl r2, fun g hg => .inl (r3 g hg), .inl r4, .inl r5, .inl r6, fun k hk => ?_⟩, T'.row, T'.b9, T'.bm, T'.bq, T'.bu, fun k hk => ?_⟩
  · rcases List.mem_cons.1 hk with rfl | hk
    · exact .inr ⟨hD, lt_of_block hK⟩
    · exact .inl (r7 k hk)
  · rcases List.mem_cons.1 hk with rfl | hk
    · exact ⟨hK, by omega⟩
    · exact T'.ms k hk
/-- The next turn's box. -/
theorem TSt.turn {w W : World} {a : Nat} {S : List El} {P : Nat} {L : List Nat} {v : Value} {x9 B u : Nat} {turn many : Int} {Ms : List Nat} (T : TSt w W a S P L v x9 B u turn many Ms) (t : Int) : TSt w (W.alloc (.cells #[.int .i64 t] 3)) a S P L v x9 B W.heap.size t many Ms := by
  have hb : Below W.heap.size W (W.alloc (.cells #[.int .i64 t] 3)) := (Below.refl _ _).alloc (Nat.le_refl _) _
  have T' := T.grown hb
  obtain ⟨G, Bs, H, hS, r1, r2, r3, r4, r5, r6, r7⟩ := T.H
  exact ⟨⟨fun k => G k ∨ (W.heap.size ≤ k ∧ k < (W.alloc (.cells #[.int .i64 t] 3)).heap.size), Bs, H.more hb (fun k hk => hk), hS.fr (Fr.of_below hb []) (fun _ _ => by simp), fun k hk => .inl (r1 k hk), .inl r2, fun g hg => .inl (r3 g hg), .inl r4, .inl r5, .inr ⟨Nat.le_refl _, by simp⟩, fun k hk => .inl (r7 k hk)⟩, T'.row, T'.b9, T'.bm, T'.bq, block_new _ _ _ rfl, T'.ms⟩

theorem TSt.start {w wr wo wa : World} {a b : Nat} {S : List El} {P : Nat} {s v : Value} {B : Nat} {Bs : List Nat} {many : Int} (I : ItSt w wr a S P s b many)
    (hrow : wo.ownsRow wr.heap.size 3 1 v (order S).length ((order S).map encN)) (hbo : Below wr.heap.size wr wo) (hS : SeqIn Bs B (order S) wa)
    (hBs : ∀ k, k ∈ Bs → (wo.alloc (.cells #[v] 35)).heap.size ≤ k ∧ k < wa.heap.size) (hba : Below (wo.alloc (.cells #[v] 35)).heap.size (wo.alloc (.cells #[v] 35)) wa) :
    TSt w (wa.alloc (.cells #[.int .i64 0] 3)) a S P (order S) v wo.heap.size B wa.heap.size 0 many [] := by
  obtain ⟨G, D, hGb, hGm, hGq⟩ := I.D
  have hA : Below wo.heap.size wo (wo.alloc (.cells #[v] 35)) := (Below.refl _ _).alloc (Nat.le_refl _) _
  have hU : Below wa.heap.size wa (wa.alloc (.cells #[.int .i64 0] 3)) := (Below.refl _ _).alloc (Nat.le_refl _) _
  have s1 := hbo.size
  have s2 : wo.heap.size + 1 ≤ wa.heap.size := by simpa using hba.size
  have s3 : (wa.alloc (.cells #[.int .i64 0] 3)).heap.size = wa.heap.size + 1 := by simp
  have h1 : Below wo.heap.size wo wa := hA.trans (hba.mono hA.size)
  have h2 : Below wo.heap.size wo (wa.alloc (.cells #[.int .i64 0] 3)) := h1.trans (hU.mono (by omega))
  have h3 : Below wr.heap.size wr (wa.alloc (.cells #[.int .i64 0] 3)) := hbo.trans (h2.mono s1)
  have hr2 := (Fr.of_below h2 []).row hrow (fun _ _ => by simp)
  refine ⟨⟨fun k => G k ∨ (wr.heap.size ≤ k ∧ k < (wa.alloc (.cells #[.int .i64 0] 3)).heap.size), Bs, D.H.more h3 (fun k hk => hk), hS.fr (Fr.of_below hU []) (fun _ _ => by simp), fun k hk => .inr ?_, .inr ?_, fun g hg => .inr ?_, .inl hGm, .inl hGq, .inr ?_, fun k hk => by cases hk⟩, ownsRow_mono hr2 (Nat.zero_le _), ?_, (h3.block _ (lt_of_block I.bm)).trans I.bm, (h3.block _ (lt_of_block I.bq)).trans I.bq, block_new _ _ _ rfl, fun k hk => by cases hk⟩
  · have := hBs k hk; simp at this; rw [s3]; omega
  · rw [s3]; omega
  · have h := hr2.lt g hg; rw [s3]; rw [s3] at h; omega
  · rw [s3]; omega
  · exact (hU.block _ (by omega)).trans ((hba.block _ (by simp)).trans (block_new _ _ _ rfl))

/-- The heap was called. -/
theorem TSt.step {w W W' : World} {G : Nat → Prop} {Bs : List Nat} {a : Nat} {S S' : List El} {P P' : Nat} {L : List Nat} {v : Value} {x9 B u : Nat} {turn many : Int} {Ms : List Nat} (T : TSt w W a S P L v x9 B u turn many Ms)
    (hS : SeqIn Bs B L W) (hG : (∀ k, k ∈ Bs → G k) ∧ G x9 ∧ (∀ g, v.ownBlock = some g → G g) ∧ G w.heap.size ∧ G (w.heap.size + 1) ∧ G u ∧ (∀ k, k ∈ Ms → G k)) (H : HeapIn w G W' a S' P') (K : Keep G W W') : TSt w W' a S' P' L v x9 B u turn many Ms := by
  obtain ⟨g1, g2, g3, g4, g5, g6, g7⟩ := hG
  obtain ⟨v', e1, e2, e3⟩ := hS.ex
  refine ⟨⟨G, Bs, H, ⟨hS.len, hS.mem, v', (K _ (g1 _ hS.mem)).trans e1, ?_, e3⟩, g1, g2, g3, g4, g5, g6, g7⟩, ?_, (K _ g2).trans T.b9, (K _ g4).trans T.bm, (K _ g5).trans T.bq, (K _ g6).trans T.bu, fun k hk => ⟨(K _ (g7 k hk)).trans (T.ms k hk).1, (T.ms k hk).2⟩⟩
  · exact row_keep e2 (fun g hg => K g (g1 g (e3 g hg)))
  · exact row_keep T.row (fun g hg => K g (g3 g hg))
theorem TSt.push {w W : World} {a : Nat} {S : List El} {P : Nat} {L : List Nat} {v : Value} {x9 B u : Nat} {turn many : Int} {Ms : List Nat} (T : TSt w W a S P L v x9 B u turn many Ms) (hT : Tab w) (hl : S.length < 1024) (hP : P < 9223372036854775807) (k y : Int) :
    Calls Tryd.prog 11 #[pt a, .int .u64 k, .int .i64 y] W fun e W' => (∃ m : Nat, e = .returned (.tuple #[.int .i64 m, .int .i64 0])) ∧ TSt w W' a (pushS S k y) (P + 1) L v x9 B u turn many Ms := by
  obtain ⟨G, Bs, H, hS, hG⟩ := T.H
  refine (push_in H k y hl hT hP).mono ?_
  rintro e W' ⟨rfl, H', K⟩
  exact ⟨⟨_, rfl⟩, T.step hS hG H' K⟩
theorem TSt.change {w W : World} {a : Nat} {S : List El} {P : Nat} {L : List Nat} {v : Value} {x9 B u : Nat} {turn many : Int} {Ms : List Nat} (T : TSt w W a S P L v x9 B u turn many Ms) (x : Nat) (k : Int) (hx : x ∈ hsOf S) :
    Calls Tryd.prog 10 #[pt a, .int .i64 x, .int .u64 k] W fun e W' => e = .returned (.int .i64 0) ∧ TSt w W' a (changeS S x k) P L v x9 B u turn many Ms := by
  obtain ⟨G, Bs, H, hS, hG⟩ := T.H
  refine (change_yes_in H x k hx).mono ?_
  rintro e W' ⟨rfl, H', K⟩
  exact ⟨rfl, T.step hS hG H' K⟩
theorem TSt.top {w W : World} {a : Nat} {S : List El} {P : Nat} {L : List Nat} {v : Value} {x9 B u : Nat} {turn many : Int} {Ms : List Nat} (T : TSt w W a S P L v x9 B u turn many Ms) :
    (S.length = 0 ∧ Calls Tryd.prog 9 #[pt a] W fun e w' => e = .returned (.tuple #[.int .i64 0, .int .i64 9]) ∧ W = w') ∨
    (∃ x : Nat, x ∈ hsOf S ∧ Calls Tryd.prog 9 #[pt a] W fun e w' => e = .returned (.tuple #[.int .i64 x, .int .i64 0]) ∧ W = w') := by
  obtain ⟨G, Bs, H, hS, hG⟩ := T.H
  cases ho : order S with
  | nil =>
    have hl := (order_perm S.length S rfl).length_eq
    rw [ho] at hl
    simp only [hsOf, List.length_map, List.length_nil] at hl
    have : S = [] := List.length_eq_zero_iff.1 hl.symm
    subst this
    exact .inl ⟨rfl, top_none_in H⟩
  | cons x r =>
    have hm : x ∈ hsOf S := (order_perm S.length S rfl).mem_iff.1 (by rw [ho]; simp)
    exact .inr ⟨x, hm, top_some_in H (by rw [ho]; rfl)⟩
theorem len_changeS (S : List El) (x : Nat) (k : Int) : (changeS S x k).length = S.length := by simp [changeS]
theorem len_pushS (S : List El) (k y : Int) : (pushS S k y).length = S.length + 1 := by simp [pushS]

/-- What the loop over the sequence knows after the handles pre: kk is the block of k. -/
def KI (L : List Nat) (kk : Nat) (w : World) (turn many : Int) (pre : List Nat) (W : World) : Prop :=
  (pre <+: L ∧ (pre = [] ∨ turn ≠ 0 ∨ (pre.length : Int) < many)) ∧ W.heap[kk]? = some (.cells #[.int .i64 (pre.length : Nat)] 3 (0, 0)) ∧ Below kk w W
/-- .. and where it is left. -/
def KX (id : Nat) (L : List Nat) (kk : Nat) (w : World) (turn many : Int) (c : Code) (pre : List Nat) (W : World) : Prop :=
  (¬ pre <+: L) ∨ ((c = .exit id ∧ turn = 0 ∧ (pre.length : Int) = max 1 many ∧ pre <+: L) ∧ W.heap[kk]? = some (.cells #[.int .i64 (pre.length : Nat)] 3 (0, 0)) ∧ Below kk w W)

theorem ownFrom_block {β : Type} {B k : Nat} {o : β → Obj} (hk : k < B) : OwnFrom B (fun (s : β) W => W.heap[k]? = some (o s)) := fun s W W' row hs hg hr =>
  (hg.block k (Array.getElem?_eq_some_iff.1 hs).1 (fun e => by have := (hr k e.symm).1; omega)).trans hs
theorem ownFrom_or {β : Type} {B : Nat} {p : β → Prop} {I : β → World → Prop} (h : OwnFrom B I) : OwnFrom B (fun s W => p s ∨ I s W) := fun s W W' row hs hg hr => by
  rcases hs with hs | hs
  · exact .inl hs
  · exact .inr (h s W W' row hs hg hr)

theorem range_seq {assign body : Code} {Q : Exit → Act → World → Prop} {a : Act} {w : World} {g : Operand} {id : Nat} (p d : Tmp) (B kk : Nat) (L : List Nat) (turn many : Int) (hg : a.eval g = seqV B) (hB : B < kk) (hk : kk < w.heap.size) (hS : SeqAt kk B L w)
    (h0 : w.heap[kk]? = some (.cells #[.int .i64 0] 3 (0, 0)))
    (hassign : ∀ (l : Nat) (x : Nat) (W : World) (K : Act → World → Prop), K { tmps := (a.tmps.setIfInBounds p (encN x)).setIfInBounds d (encN x), defers := [] } W → assign.wpIn (Fence.wide.inRound l) 4 Tryd.prog (Exit.then K (fun _ _ _ => False)) { tmps := a.tmps.setIfInBounds p (encN x), defers := [] } W)
    (hbody : ∀ (l : Nat) (pre : List Nat) (x : Nat) (W : World), KI L kk w turn many pre W → pre.length < L.length → body.wpIn (Fence.wide.inRound l) 4 Tryd.prog (ownPostG w.heap.size (Below kk) (KI L kk w turn many) (KX id L kk w turn many) (pre ++ [x]) W) { tmps := (a.tmps.setIfInBounds p (encN x)).setIfInBounds d (encN x), defers := [] } W)
    (hout : ∀ (D k : Nat) (W : World), w.heap.size ≤ D → k ≤ L.length → (turn = 0 → min (L.length : Int) (max 1 many) = (k : Int)) → (turn ≠ 0 → k = L.length) → W.heap[kk]? = some (.cells #[.int .i64 (k : Nat)] 3 (0, 0)) → Below kk w W → W.heap[D]? = some (.deferred (some [])) → Q .normal { a with defers := { target := .collected D, args := #[] } :: a.defers } W) :
    (Code.rangeFunc g #[p] assign body).wpIn Fence.wide 6 Tryd.prog (Exit.inBlock id Q) a w := by
  refine wpIn_rangeFunc_ownG rfl (by omega) (gf := 41) (lb := #[.pointer (some ⟨B, 0, none⟩)]) hg trivial (enters_of Tryd.func41 (by kernel_rfl) rfl)
    (values_stops Fence.wide 5 trivial rfl (by omega) B kk L w hB (by omega) hS) belowK_t (belowK_b (by omega)) (Below.refl _ _) (fun _ => rfl)
    (KI L kk w turn many) (KX id L kk w turn many)
    ((ownFrom_pure _ _).and ((ownFrom_block hk).and (ownFrom_below (by omega) (by omega))))
    (fun c => ownFrom_or ((ownFrom_pure _ _).and ((ownFrom_block hk).and (ownFrom_below (by omega) (by omega)))))
    ⟨⟨List.nil_prefix, .inl rfl⟩, h0, Below.refl _ _⟩
    (fun x => { tmps := (a.tmps.setIfInBounds p (encN x)).setIfInBounds d (encN x), defers := [] })
    (fun l x W K hK => by simpa using hassign l x W K hK) hbody (fun D xs W hD hxs hI hK => ?_)
    (fun D c pre W hD hp hX hK => ?_)
  · subst hxs
    obtain ⟨⟨_, hI1⟩, hI2, hI3⟩ := hI
    simp only [Exit.inBlock]
    refine hout D _ W hD (Nat.le_refl _) (fun ht => ?_) (fun _ => rfl) hI2 hI3 hK
    rcases hI1 with h | h | h
    · rw [h]; simp only [List.length_nil]; omega
    · exact absurd ht h
    · omega
  · rcases hX with hX | ⟨⟨rfl, h1, h2, h3⟩, h4, h5⟩
    · exact absurd hp hX
    · have hl := h3.length_le
      have := hout D _ W hD hl (fun _ => by omega) (fun h => absurd h1 h) h4 h5 hK
      refine wpIn_exit ?_
      simpa [Exit.inBlock] using this

set_option maxRecDepth 1000000 in
set_option maxHeartbeats 8000000 in
theorem heapIterates_walk (sa : Option Addr) (len cap : Nat) (many : Int) (w : World) (hr : IsActs w sa len cap) (hm : (Lit.int .i64 many).wf = true) (hT : Tab w) :
    Calls Tryd.prog 3 #[.slice sa len cap, .int .i64 many] w fun e w' => e = .returned (.bool true) ∧ Below w.heap.size w w' := by
  have hkno := Lib.hid (fun W (h : Below w.heap.size w W) => known_any W (hT.below h hT.lt))
  have hb2 : Below w.heap.size w ((w.alloc (.cells #[.int .i64 many] 3)).alloc (.cells #[.bool false] 4)) := ((Below.refl _ _).alloc (Nat.le_refl _) _).alloc (by simp) _
  have hq2 : ((w.alloc (.cells #[.int .i64 many] 3)).alloc (.cells #[.bool false] 4)).heap[w.heap.size + 1]? = some (.cells #[.bool false] 4 (0, 0)) := block_new _ _ _ (by simp)
  have hm2 : ((w.alloc (.cells #[.int .i64 many] 3)).alloc (.cells #[.bool false] 4)).heap[w.heap.size]? = some (.cells #[.int .i64 many] 3 (0, 0)) := (fr_alloc _ _ []).same (block_new _ _ _ rfl) (by simp)
  by_cases hl : 60 < len
  · have hli : (60 : Int) < (len : Int) := by omega
    refine calls_marks Tryd.func3 rfl ?_
    simp only [Tryd.ntmps3, List.size_toArray, List.length_cons, List.length_nil, Nat.reduceAdd, Nat.reduceSub, Array.replicate_succ, Array.replicate_zero, List.push_toArray, List.append_toArray, List.nil_append, List.cons_append]
    have HB2 := Lib.hid hb2
    have HQ2 := Lib.hid hq2
    have hk2 := Lib.hid (hkno.out _ hb2)
    clear hb2 hkno hq2 hm2
    go_wp2_with (go_at_call 4; refine hk2.out.mono ?_; rintro e w1 ⟨rfl, hb⟩; have z0 := (hb.block _ (lt_of_block HQ2.out)).trans HQ2.out; have z1 := cells_cell z0 (o := 0) rfl; have z2 := cells_free z0 0; have z3 := lt_of_block z0)
    refine ⟨.bool true, by simp [results, Tryd.results3, go_sem, World.cell?_setCell_same w1 _ (.bool true) z1], rfl, ?_⟩
    exact (HB2.out.trans (hb.mono HB2.out.size)).setCell (by simp) _
  · have hli : decide ((60 : Int) < (len : Int)) = false := by simp; omega
    have hl60 : (len : Int) ≤ 60 := by omega
    have HR := Lib.hid hr
    have hnew := Lib.hid (new_in w _ (fun k => k = w.heap.size ∨ k = w.heap.size + 1) (fun k hk => by rcases hk with rfl | rfl <;> (simp; try omega)) hb2)
    have HB2 := Lib.hid hb2
    have HQ2 := Lib.hid hq2
    have HM2 := Lib.hid hm2
    clear hr hb2 hq2 hm2
    refine calls_marks Tryd.func3 rfl ?_
    simp only [Tryd.ntmps3, List.size_toArray, List.length_cons, List.length_nil, Nat.reduceAdd, Nat.reduceSub, Array.replicate_succ, Array.replicate_zero, List.push_toArray, List.append_toArray, List.nil_append, List.cons_append]
    unfold pt at *
    go_wp2_with (go_at_call 5; refine hnew.out.mono ?_; rintro e w1 ⟨a, rfl, H1, hb1⟩)
    have hs1 := hb1.size
    have hst : ItSt w (w1.alloc (.cells #[.slice none 0 0] 28)) a [] 0 (.slice none 0 0) w1.heap.size many := by
      have hbA : Below w1.heap.size w1 (w1.alloc (.cells #[.slice none 0 0] 28)) := (Below.refl _ _).alloc (Nat.le_refl _) _
      have f1 := (hb1.block _ (lt_of_block HM2.out)).trans HM2.out
      have f2 := (hb1.block _ (lt_of_block HQ2.out)).trans HQ2.out
      refine ⟨⟨fun k => (k = w.heap.size ∨ k = w.heap.size + 1) ∨ k = w1.heap.size, ⟨H1.more hbA (fun k hk => ?_), World.ownsRow_nil _ _ _ _, fun g hg => by simp [Value.ownBlock] at hg⟩, .inr rfl, .inl (.inl rfl), .inl (.inr rfl)⟩, BoxR.new _ _, (hbA.block _ (lt_of_block f1)).trans f1, (hbA.block _ (lt_of_block f2)).trans f2, by simp at hs1; omega⟩
      rcases hk with hk | rfl
      · exact .inl hk
      · exact .inr (by simp)
    have HST := Lib.hid hst
    clear hst H1 hb1 hs1 HM2 HQ2 HB2 hnew
    generalize w1.alloc (.cells #[.slice none 0 0] 28) = w2 at *
    generalize w1.heap.size = b at *
    go_loopw [5, 26] (fun p i wr => ∃ (k a : Nat) (S : List El) (P : Nat) (s : Value), k ≤ len ∧ i = .int .i64 (k : Nat) ∧ p = .pointer (some ⟨a, 0, none⟩) ∧ Hid (ItSt w wr a S P s b many) ∧ S.length ≤ k ∧ P ≤ k) (fun _ i _ => len - (intOf i).toNat)
    case atStart => exact ⟨0, a, [], 0, _, Nat.zero_le _, rfl, rfl, HST, Nat.le_refl _, Nat.le_refl _⟩
    case round =>
      clear HST
      obtain ⟨k, a, S, P, s, hk, rfl, rfl, HS, hSk, hPk⟩ := hrel
      obtain ⟨G, D, hGb, hGm, hGq⟩ := HS.out.D
      have hbox := HS.out.box
      have hwb := HS.out.hb
      have hbw := D.H.below
      obtain ⟨a1, n1, c1, rfl⟩ := row_form D.row
      by_cases hlt : k < len
      · obtain ⟨ab, off, rfl, hblt, hcs⟩ : ∃ ab off, sa = some ⟨ab, off, none⟩ ∧ ab < w.heap.size ∧ ∀ i, i < len → ∃ x0 x1 x2 x3 : Int,
            w.cell? ⟨ab, off + i * 4, none⟩ = some (.int .i64 x0) ∧ w.cell? ⟨ab, off + i * 4 + 1, none⟩ = some (.int .i64 x1) ∧ w.cell? ⟨ab, off + i * 4 + 2, none⟩ = some (.int .i64 x2) ∧ w.cell? ⟨ab, off + i * 4 + 3, none⟩ = some (.int .u64 x3) := by
          rcases HR.out with h0 | ⟨ab, off, rfl, _, hblt, hcs⟩
          · omega
          · refine ⟨ab, off, rfl, hblt, fun i hi => ?_⟩
            obtain ⟨x0, x1, x2, x3, c0, c1', c2, c3, _⟩ := hcs i hi
            exact ⟨x0, x1, x2, x3, c0, c1', c2, c3⟩
        obtain ⟨x0, x1, x2, x3, c0, c1', c2, c3⟩ := hcs k hlt
        have c0 : wr.cell? ⟨ab, off + k * 4, none⟩ = some (.int .i64 x0) := (hbw.cell (p := ⟨ab, off + k * 4, none⟩) hblt).trans c0
        have c1' : wr.cell? ⟨ab, off + k * 4 + 1, none⟩ = some (.int .i64 x1) := (hbw.cell (p := ⟨ab, off + k * 4 + 1, none⟩) hblt).trans c1'
        have c2 : wr.cell? ⟨ab, off + k * 4 + 2, none⟩ = some (.int .i64 x2) := (hbw.cell (p := ⟨ab, off + k * 4 + 2, none⟩) hblt).trans c2
        have c3 : wr.cell? ⟨ab, off + k * 4 + 3, none⟩ = some (.int .u64 x3) := (hbw.cell (p := ⟨ab, off + k * 4 + 3, none⟩) hblt).trans c3
        have hbr : ab < wr.heap.size := Nat.lt_of_lt_of_le hblt hbw.size
        have cb := hbox.cell
        have hbl2 := hbox.lt
        have hk2 : (k : Int) < (len : Int) := by omega
        have hbne : (b == wr.heap.size) = false := by simp; omega
        have hbne2 : b ≠ wr.heap.size := by omega
        have bA : Below wr.heap.size wr (wr.alloc (.cells #[.int .i64 x0, .int .i64 x1, .int .i64 x2, .int .u64 x3] 32)) := (Below.refl _ _).alloc (Nat.le_refl _) _
        have DA : DoSt w (wr.alloc (.cells #[.int .i64 x0, .int .i64 x1, .int .i64 x2, .int .u64 x3] 32)) G a S P (.slice a1 n1 c1) := ⟨D.H.grown bA, D.row.below bA, D.own⟩
        have hboxA := Lib.hid (hbox.alloc (.cells #[.int .i64 x0, .int .i64 x1, .int .i64 x2, .int .u64 x3] 32))
        have hmA := Lib.hid ((bA.block _ (lt_of_block HS.out.bm)).trans HS.out.bm)
        have hqA := Lib.hid ((bA.block _ (lt_of_block HS.out.bq)).trans HS.out.bq)
        have cbA := hboxA.out.cell
        have hdo := Lib.hid (do_any DA hT (by omega) (by omega) x0 x1 x2 x3)
        clear HS D hbw hcs hbox bA DA
        go_wp2_with (go_at_call 6; refine hdo.out.mono ?_; rintro e W ⟨a', S', s', G', P', rfl, D', hsub, hkeep, hP', hS'⟩; have hboxW : BoxR W b (.slice a1 n1 c1) := (hkeep b hGb).trans hboxA.out; obtain ⟨a2, n2, c2', rfl⟩ := row_form D'.row; have cbW := hboxW.cell; have fbW := hboxW.free; have lbW := hboxW.lt)
        have hf : Fr [b] W (W.setCell ⟨b, 0, none⟩ (.slice a2 n2 c2')) := fr_setCell W ⟨b, 0, none⟩ _
        have hfin : Hid (ItSt w (W.setCell ⟨b, 0, none⟩ (.slice a2 n2 c2')) a' S' P' (.slice a2 n2 c2') b many) := Lib.hid (by
          have f1 := (hkeep _ hGm).trans hmA.out
          have f2 := (hkeep _ hGq).trans hqA.out
          exact ⟨⟨G', ⟨D'.H.write hf (fun y hy => by simp at hy; subst hy; exact ⟨hsub _ hGb, by omega⟩), D'.row.box hboxW _, D'.own⟩, hsub _ hGb, hsub _ hGm, hsub _ hGq⟩, hboxW.set _, hf.same f1 (by simp; omega), hf.same f2 (by simp; omega), hwb⟩)
        go_roundw
        case rel => exact ⟨k + 1, a', S', P', _, by omega, by go_num, rfl, hfin, by omega, by omega⟩
        case measure => simp [intOf]; omega
      · obtain rfl : k = len := by omega
        have hkk : decide ((k : Int) < (k : Int)) = false := by simp
        have cb := hbox.cell
        have hbl2 := hbox.lt
        have hord := Lib.hid (rorder_any D.row (by omega))
        have hall : Hid (∀ X, Below wr.heap.size wr X → Calls Tryd.prog 8 #[.pointer (some ⟨a, 0, none⟩)] X fun e w' => ∃ B Bs, e = .returned (seqV B) ∧ SeqIn Bs B (order S) w' ∧ (∀ k, k ∈ Bs → X.heap.size ≤ k ∧ k < w'.heap.size) ∧ Below X.heap.size X w') := Lib.hid (fun X h => all_in (D.H.grown h))
        have hsn := seq_nil
        have HD := Lib.hid D
        clear D
        go_wp2_with (first | (go_at_call 7; refine hord.out.mono ?_; rintro e wo ⟨v, rfl, hrow, hbo⟩; obtain ⟨va, vn, vc, rfl⟩ := row_form hrow; have hbo2 : Below wr.heap.size wr (wo.alloc (.cells #[.slice va vn vc] 35)) := hbo.alloc hbo.size _) | (go_at_call 8; refine (hall.out _ hbo2).mono ?_; rintro e wa ⟨B, Bs, rfl, hS, hBs, hba⟩; unfold seqV))
        have hvn : vn = (order S).length := by
          rcases hrow.2 with ⟨h', h0⟩ | ⟨_, _, _, h', _⟩
          · simp at h'; omega
          · simp at h'; exact h'.2.1
        subst hvn
        have HLn : Hid ((order S).length ≤ 60) := Lib.hid (by
          have := (order_perm S.length S rfl).length_eq
          simp only [hsOf, List.length_map] at this
          omega)
        have HSn : Hid (S.length ≤ 60 ∧ P ≤ 60) := Lib.hid (by omega)
        have HT := Lib.hid (TSt.start HS.out hrow hbo hS hBs hba)
        clear hrow hS hBs hba hbo2 hbo HS hbw hord hall HD hbox cb hbl2
        refine wp_loop_rounds 3 ?_
        generalize order S = L at *
        generalize wa.alloc (.cells #[.int .i64 0] 3) = V at *
        generalize wa.heap.size = u at *
        generalize wo.heap.size = x9 at *
        rw [rounds_succ]
        have cu := cells_cell HT.out.bu (o := 0) rfl
        have lu := lt_of_block HT.out.bu
        go_wp2_with fail
        have hV5 : Below V.heap.size V (V.alloc (.cells #[.int .i64 0] 3)) := (Below.refl _ _).alloc (Nat.le_refl _) _
        have hkk0 : (V.alloc (.cells #[.int .i64 0] 3)).heap[V.heap.size]? = some (.cells #[.int .i64 0] 3 (0, 0)) := block_new _ _ _ rfl
        have hSq : SeqAt V.heap.size B L (V.alloc (.cells #[.int .i64 0] 3)) ∧ B < V.heap.size := by
          obtain ⟨G, Bs, H, hS, r⟩ := HT.out.H
          exact ⟨hS.at.below hV5 hS.lt, hS.lt⟩
        refine (wpIn_wide (n := 6)).1 ?_
        refine range_seq 50 13 B V.heap.size L 0 many rfl hSq.2 (by simp) hSq.1 hkk0 ?assign0 ?body0 ?out0
        case assign0 =>
          intro l x W K hK
          unfold encN at *
          gi_wp2
          exact hK
        case body0 =>
          rintro l pre x W ⟨⟨hpl, hpm⟩, hkc, hbk⟩ hlt
          simp only [List.setIfInBounds_toArray, List.set_cons_zero, List.set_cons_succ]
          have k0 := cells_cell hkc (o := 0) rfl
          have k1 := cells_free hkc 0
          have k2 := lt_of_block hkc
          have TW := HT.out.grown (hV5.trans hbk)
          have i9 := cells_cell TW.b9 (o := 0) rfl
          have iu := cells_cell TW.bu (o := 0) rfl
          have im := cells_cell TW.bm (o := 0) rfl
          have iq := cells_cell TW.bq (o := 0) rfl
          have fq := cells_free TW.bq 0
          have l1 := lt_of_block TW.bm
          have l2 := lt_of_block TW.bq
          have l3 := lt_of_block TW.b9
          have l4 := lt_of_block TW.bu
          have m1 := lt_of_block HT.out.bm
          have m2 := lt_of_block HT.out.bq
          have m3 := lt_of_block HT.out.b9
          have m4 := lt_of_block HT.out.bu
          have n1 : ¬ w.heap.size = V.heap.size := by omega
          have n2 : ¬ w.heap.size + 1 = V.heap.size := by omega
          have n3 : ¬ x9 = V.heap.size := by omega
          have n4 : ¬ u = V.heap.size := by omega
          have n1' : ¬ V.heap.size = w.heap.size := by omega
          have n2' : ¬ V.heap.size = w.heap.size + 1 := by omega
          have n3' : ¬ V.heap.size = x9 := by omega
          have n4' : ¬ V.heap.size = u := by omega
          have HTW := Lib.hid TW
          have HBK := Lib.hid hbk
          have HKC := Lib.hid hkc
          have HPL := Lib.hid hpl
          have HPM := Lib.hid hpm
          obtain ⟨ga, c1, h1, _, _⟩ := row_some TW.row (by omega)
          simp only [Value.slice.injEq, true_and] at h1
          obtain ⟨rfl, rfl⟩ := h1
          have ea := row_at TW.row pre.length hlt
          have hps := Lib.hid (prefix_snoc (x := x) hpl hlt)
          have e2 : (pre.length : Int) < (L.length : Int) := by omega
          have e4 : (pre.length : Int) ≤ 60 := by have := HLn.out; omega
          have e5 : (0 : Int) ≤ (pre.length : Int) := by omega
          have e6 : decide ((L.length : Int) ≤ (pre.length : Int)) = false := by simp; omega
          clear TW hbk hkc hpl hpm hlt
          unfold encN at *
          generalize L.getD pre.length 0 = y at *
          by_cases hx : x = y
          · subst hx
            have e3 : ((x : Int) != (x : Int)) = false := by simp
            by_cases hmk : many ≤ (pre.length : Int) + 1
            · have hmk2 : decide (many ≤ (pre.length : Int) + 1) = true := by simp; omega
              have HMX : Hid ((((pre ++ [x]).length : Nat) : Int) = max 1 many) := Lib.hid (by
                have hln : (pre ++ [x]).length = pre.length + 1 := by simp
                rcases HPM.out with h | h | h
                · have h0 : pre.length = 0 := by rw [h]; rfl
                  omega
                · exact absurd rfl h
                · omega)
              gi_wp2
              exact ⟨keeps_set _ _ (by simp), .inr ⟨⟨rfl, rfl, HMX.out, hps.out.2 trivial⟩, by have := cells_set HKC.out 0 (.int .i64 ((pre.length : Int) + 1)); simpa using this, HBK.out.setCell (by simp) _⟩⟩
            · have hmk2 : decide (many ≤ (pre.length : Int) + 1) = false := by simp; omega
              gi_wp2
              exact ⟨keeps_set _ _ (by simp), (Below.refl _ _).setCell (by simp) _, ⟨hps.out.2 trivial, .inr (.inr (by simp; omega))⟩, by have := cells_set HKC.out 0 (.int .i64 ((pre.length : Int) + 1)); simpa using this, HBK.out.setCell (by simp) _⟩
          · have e3 : ((x : Int) != (y : Int)) = true := by simp; omega
            gi_wp2
            exact ⟨keeps_set _ _ (by simp; omega), .inl (fun h => hx (hps.out.1 h))⟩
        rintro D0 kq W hD hkl h0 h1 hkc hbk hK
        have hkb := lt_of_block hkc
        have HTW := Lib.hid (HT.out.mark (hV5.trans hbk) (D := D0) (by simp at hD; omega) hK)
        clear hV5 hkk0 hSq cu lu HT hbk hK
        have k0 := cells_cell hkc (o := 0) rfl
        have i9 := cells_cell HTW.out.b9 (o := 0) rfl
        have iu := cells_cell HTW.out.bu (o := 0) rfl
        have im := cells_cell HTW.out.bm (o := 0) rfl
        have l1 := lt_of_block HTW.out.bm
        have l3 := lt_of_block HTW.out.b9
        have l4 := lt_of_block HTW.out.bu
        have hTOP := Lib.hid HTW.out.top
        clear hkc hD
        generalize V.heap.size = kk at *

        have HMX : Hid (max 1 many = max 1 many) := Lib.hid rfl
        have HMN := Lib.hid (h0 rfl)
        clear h0 h1
        unfold pt at hTOP
        obtain ⟨Z, hZ⟩ : ∃ Z, Z = max 1 many := ⟨_, rfl⟩
        rw [← hZ] at HMN
        have HMX : Hid (max 1 many = Z) := Lib.hid hZ.symm
        clear hZ
        go_wp2_with (first | (with_reducible refine wpList_unguard (o := ⟨some 79, _, _, _, _, _⟩) rfl ?_; refine wpList_max rfl (.const (.int .i64 1)) (.tmp 78) _ rfl _ _ _ rfl rfl HMX.out ?_) | (with_reducible refine wpList_unguard (o := ⟨some 80, _, _, _, _, _⟩) rfl ?_; refine wpList_min rfl (.tmp 77) (.tmp 79) _ rfl _ _ _ rfl rfl HMN.out ?_) | (go_at_call 9; fail))
        rcases hTOP.out with ⟨hS0, hc⟩ | ⟨x, hx, hc⟩
        · refine hc.mono ?_
          rintro e w' ⟨rfl, hw⟩
          subst hw
          clear hc hTOP k0 i9 iu im l1 l3 l4
          go_wp2_with (go_at_call 11; fail)
          refine (HTW.out.push hT (by have := HSn.out; omega) (by have := HSn.out; omega) 0 0).mono ?_
          rintro e W3 ⟨⟨m, rfl⟩, hTN⟩
          have HSm : Hid ((pushS S 0 0).length ≤ 61 ∧ P + 1 ≤ 61 ∧ 1 ≤ (pushS S 0 0).length) := Lib.hid (by have := HSn.out; rw [len_pushS]; omega)
          have cu3 := cells_cell hTN.bu (o := 0) rfl
          have lu3 := lt_of_block hTN.bu
          have HTN := Lib.hid hTN
          clear hTN
          go_wp2_with fail
          have HT := Lib.hid (HTN.out.turn 1)
          clear HTN cu3 lu3 HSn
          have HSn := HSm
          clear HSm
          generalize W3.alloc (.cells #[.int .i64 1] 3) = V at *
          generalize W3.heap.size = u at *
          generalize pushS S 0 0 = S at *
          generalize P + 1 = P at *
          rw [rounds_succ]
          have cu := cells_cell HT.out.bu (o := 0) rfl
          have lu := lt_of_block HT.out.bu
          go_wp2_with fail
          have hV5 : Below V.heap.size V (V.alloc (.cells #[.int .i64 0] 3)) := (Below.refl _ _).alloc (Nat.le_refl _) _
          have hkk0 : (V.alloc (.cells #[.int .i64 0] 3)).heap[V.heap.size]? = some (.cells #[.int .i64 0] 3 (0, 0)) := block_new _ _ _ rfl
          have hSq : SeqAt V.heap.size B L (V.alloc (.cells #[.int .i64 0] 3)) ∧ B < V.heap.size := by
            obtain ⟨G, Bs, H, hS, r⟩ := HT.out.H
            exact ⟨hS.at.below hV5 hS.lt, hS.lt⟩
          refine (wpIn_wide (n := 6)).1 ?_
          refine range_seq 50 13 B V.heap.size L 1 many rfl hSq.2 (by simp) hSq.1 hkk0 ?assign1a ?body1a ?out1a
          case assign1a =>
            intro l x W K hK
            unfold encN at *
            gi_wp2
            exact hK
          case body1a =>
            rintro l pre x W ⟨⟨hpl, hpm⟩, hkc, hbk⟩ hlt
            simp only [List.setIfInBounds_toArray, List.set_cons_zero, List.set_cons_succ]
            have k0 := cells_cell hkc (o := 0) rfl
            have k1 := cells_free hkc 0
            have k2 := lt_of_block hkc
            have TW := HT.out.grown (hV5.trans hbk)
            have i9 := cells_cell TW.b9 (o := 0) rfl
            have iu := cells_cell TW.bu (o := 0) rfl
            have im := cells_cell TW.bm (o := 0) rfl
            have iq := cells_cell TW.bq (o := 0) rfl
            have fq := cells_free TW.bq 0
            have l1 := lt_of_block TW.bm
            have l2 := lt_of_block TW.bq
            have l3 := lt_of_block TW.b9
            have l4 := lt_of_block TW.bu
            have m1 := lt_of_block HT.out.bm
            have m2 := lt_of_block HT.out.bq
            have m3 := lt_of_block HT.out.b9
            have m4 := lt_of_block HT.out.bu
            have n1 : ¬ w.heap.size = V.heap.size := by omega
            have n2 : ¬ w.heap.size + 1 = V.heap.size := by omega
            have n3 : ¬ x9 = V.heap.size := by omega
            have n4 : ¬ u = V.heap.size := by omega
            have n1' : ¬ V.heap.size = w.heap.size := by omega
            have n2' : ¬ V.heap.size = w.heap.size + 1 := by omega
            have n3' : ¬ V.heap.size = x9 := by omega
            have n4' : ¬ V.heap.size = u := by omega
            have HTW := Lib.hid TW
            have HBK := Lib.hid hbk
            have HKC := Lib.hid hkc
            have HPL := Lib.hid hpl
            have HPM := Lib.hid hpm
            obtain ⟨ga, c1, h1, _, _⟩ := row_some TW.row (by omega)
            simp only [Value.slice.injEq, true_and] at h1
            obtain ⟨rfl, rfl⟩ := h1
            have ea := row_at TW.row pre.length hlt
            have hps := Lib.hid (prefix_snoc (x := x) hpl hlt)
            have e2 : (pre.length : Int) < (L.length : Int) := by omega
            have e4 : (pre.length : Int) ≤ 60 := by have := HLn.out; omega
            have e5 : (0 : Int) ≤ (pre.length : Int) := by omega
            have e6 : decide ((L.length : Int) ≤ (pre.length : Int)) = false := by simp; omega
            clear TW hbk hkc hpl hpm hlt
            unfold encN at *
            generalize L.getD pre.length 0 = y at *
            by_cases hx : x = y
            · subst hx
              have e3 : ((x : Int) != (x : Int)) = false := by simp
              gi_wp2
              exact ⟨keeps_set _ _ (by simp), (Below.refl _ _).setCell (by simp) _, ⟨hps.out.2 trivial, .inr (.inl (by omega))⟩, by have := cells_set HKC.out 0 (.int .i64 ((pre.length : Int) + 1)); simpa using this, HBK.out.setCell (by simp) _⟩
            · have e3 : ((x : Int) != (y : Int)) = true := by simp; omega
              gi_wp2
              exact ⟨keeps_set _ _ (by simp; omega), .inl (fun h => hx (hps.out.1 h))⟩
          rintro D1 kq W hD hkl h0 h1 hkc hbk hK
          have hkb := lt_of_block hkc
          have HTW := Lib.hid (HT.out.mark (hV5.trans hbk) (D := D1) (by simp at hD; omega) hK)
          have hDD : Hid (D0 < D1) := Lib.hid (by have := lt_of_block (HT.out.ms D0 (by simp)).1; simp at hD; omega)
          clear hV5 hkk0 hSq cu lu HT hbk hK
          have k0 := cells_cell hkc (o := 0) rfl
          have i9 := cells_cell HTW.out.b9 (o := 0) rfl
          have iu := cells_cell HTW.out.bu (o := 0) rfl
          have im := cells_cell HTW.out.bm (o := 0) rfl
          have l1 := lt_of_block HTW.out.bm
          have l3 := lt_of_block HTW.out.b9
          have l4 := lt_of_block HTW.out.bu
          have hTOP := Lib.hid HTW.out.top
          clear hkc hD
          generalize V.heap.size = kk at *

          have hk1 := h1 (by omega)
          subst hk1
          clear h0 h1
          unfold pt at hTOP
          go_wp2_with (go_at_call 9; fail)
          rcases hTOP.out with ⟨hS0, hc⟩ | ⟨x, hx, hc⟩
          · exact absurd hS0 (by have := HSn.out; omega)
          have HX := Lib.hid hx
          clear hx hTOP
          refine hc.mono ?_
          rintro e w' ⟨rfl, hw⟩
          subst hw
          clear hc
          have hCH := Lib.hid (HTW.out.change x 18446744073709551615 HX.out)
          unfold pt at hCH
          go_wp2_with (go_at_call 10; fail)
          refine hCH.out.mono ?_
          rintro e WC ⟨rfl, hTC⟩
          have HTC := Lib.hid hTC
          clear hTC hCH HTW k0 i9 iu im l1 l3 l4
          go_wp2_with (go_at_call 11; fail)
          refine (HTC.out.push hT (by have := HSn.out; rw [len_changeS]; omega) (by have := HSn.out; omega) 0 0).mono ?_
          rintro e W3 ⟨⟨m, rfl⟩, hTN⟩
          have HSm : Hid ((pushS (changeS S x 18446744073709551615) 0 0).length ≤ 62 ∧ P + 1 ≤ 62 ∧ 1 ≤ (pushS (changeS S x 18446744073709551615) 0 0).length) := Lib.hid (by have := HSn.out; rw [len_pushS]; rw [len_changeS]; omega)
          have cu3 := cells_cell hTN.bu (o := 0) rfl
          have lu3 := lt_of_block hTN.bu
          have HTN := Lib.hid hTN
          clear hTN
          go_wp2_with fail
          have HT := Lib.hid (HTN.out.turn 2)
          clear HTN cu3 lu3 HSn
          have HSn := HSm
          clear HSm
          generalize W3.alloc (.cells #[.int .i64 2] 3) = V at *
          generalize W3.heap.size = u at *
          generalize pushS (changeS S x 18446744073709551615) 0 0 = S at *
          generalize P + 1 = P at *
          rw [rounds_succ]
          have cu := cells_cell HT.out.bu (o := 0) rfl
          have lu := lt_of_block HT.out.bu
          have hkn := Lib.hid (hkno.out _ HT.out.below)
          go_wp2_with (go_at_call 4; fail)
          refine hkn.out.mono ?_
          rintro e w4 ⟨rfl, hb⟩
          have z0 := (hb.block _ (lt_of_block HT.out.bq)).trans HT.out.bq
          have z1 := cells_cell z0 (o := 0) rfl
          have z2 := cells_free z0 0
          have z3 := lt_of_block z0
          have Z0 := Lib.hid z0
          have d1 := HT.out.ms D0 (by simp)
          have d2 := HT.out.ms D1 (by simp)
          have E1 := Lib.hid (And.intro ((hb.block _ (lt_of_block d1.1)).trans d1.1) d1.2)
          have E2 := Lib.hid (And.intro ((hb.block _ (lt_of_block d2.1)).trans d2.1) d2.2)
          have EB := Lib.hid (HT.out.below.trans (hb.mono HT.out.below.size))
          clear z0 d1 d2 hb hkn cu lu HT
          go_wp2_with fail
          have HTF : Below w.heap.size w (w4.setCell ⟨w.heap.size + 1, 0, none⟩ (.bool true)) := EB.out.setCell (by simp) _
          have ht0 : (w4.setCell ⟨w.heap.size + 1, 0, none⟩ (.bool true)).heap[w.heap.size + 1]? = some (.cells #[.bool true] 4 (0, 0)) := by have := cells_set Z0.out 0 (.bool true); simpa using this
          have kd2 := (fr_setCell w4 ⟨w.heap.size + 1, 0, none⟩ (.bool true)).same E2.out.1 (by simp only [List.mem_singleton]; have := E2.out.2; omega)
          have kd1 := (fr_setCell w4 ⟨w.heap.size + 1, 0, none⟩ (.bool true)).same E1.out.1 (by simp only [List.mem_singleton]; have := E1.out.2; omega)
          generalize w4.setCell ⟨w.heap.size + 1, 0, none⟩ (.bool true) = WF at *
          refine ⟨by simp, .inl ⟨_, _, rfl, run_takeDeferred kd2, ?_⟩⟩
          have ht1 : (WF.putObj D1 (.deferred none)).heap[w.heap.size + 1]? = some (.cells #[.bool true] 4 (0, 0)) := (World.putObj_heap_other (by have := E2.out.2; omega)).trans ht0
          replace kd1 : (WF.putObj D1 (.deferred none)).heap[D0]? = some (.deferred (some [])) := (World.putObj_heap_other (by have := hDD.out; omega)).trans kd1
          replace HTF : Below w.heap.size w (WF.putObj D1 (.deferred none)) := HTF.trans (belowK_b (w := w) (Nat.le_refl _) _ D1 _ _ (by have := E2.out.2; omega) kd2 rfl rfl)
          refine ⟨by simp, .inl ⟨_, _, rfl, run_takeDeferred kd1, ?_⟩⟩
          have ht2 : ((WF.putObj D1 (.deferred none)).putObj D0 (.deferred none)).heap[w.heap.size + 1]? = some (.cells #[.bool true] 4 (0, 0)) := (World.putObj_heap_other (by have := E1.out.2; omega)).trans ht1
          replace HTF : Below w.heap.size w ((WF.putObj D1 (.deferred none)).putObj D0 (.deferred none)) := HTF.trans (belowK_b (w := w) (Nat.le_refl _) _ D0 _ _ (by have := E1.out.2; omega) kd1 rfl rfl)
          exact ⟨.bool true, by simp [results, Tryd.results3, go_sem, cells_cell ht2 (o := 0) rfl], rfl, HTF⟩
        · have HX := Lib.hid hx
          clear hx hTOP
          refine hc.mono ?_
          rintro e w' ⟨rfl, hw⟩
          subst hw
          clear hc
          have hCH := Lib.hid (HTW.out.change x 18446744073709551615 HX.out)
          unfold pt at hCH
          go_wp2_with (go_at_call 10; fail)
          refine hCH.out.mono ?_
          rintro e WC ⟨rfl, hTC⟩
          have HTC := Lib.hid hTC
          clear hTC hCH HTW k0 i9 iu im l1 l3 l4
          go_wp2_with (go_at_call 11; fail)
          refine (HTC.out.push hT (by have := HSn.out; rw [len_changeS]; omega) (by have := HSn.out; omega) 0 0).mono ?_
          rintro e W3 ⟨⟨m, rfl⟩, hTN⟩
          have HSm : Hid ((pushS (changeS S x 18446744073709551615) 0 0).length ≤ 61 ∧ P + 1 ≤ 61 ∧ 1 ≤ (pushS (changeS S x 18446744073709551615) 0 0).length) := Lib.hid (by have := HSn.out; rw [len_pushS]; rw [len_changeS]; omega)
          have cu3 := cells_cell hTN.bu (o := 0) rfl
          have lu3 := lt_of_block hTN.bu
          have HTN := Lib.hid hTN
          clear hTN
          go_wp2_with fail
          have HT := Lib.hid (HTN.out.turn 1)
          clear HTN cu3 lu3 HSn
          have HSn := HSm
          clear HSm
          generalize W3.alloc (.cells #[.int .i64 1] 3) = V at *
          generalize W3.heap.size = u at *
          generalize pushS (changeS S x 18446744073709551615) 0 0 = S at *
          generalize P + 1 = P at *
          rw [rounds_succ]
          have cu := cells_cell HT.out.bu (o := 0) rfl
          have lu := lt_of_block HT.out.bu
          go_wp2_with fail
          have hV5 : Below V.heap.size V (V.alloc (.cells #[.int .i64 0] 3)) := (Below.refl _ _).alloc (Nat.le_refl _) _
          have hkk0 : (V.alloc (.cells #[.int .i64 0] 3)).heap[V.heap.size]? = some (.cells #[.int .i64 0] 3 (0, 0)) := block_new _ _ _ rfl
          have hSq : SeqAt V.heap.size B L (V.alloc (.cells #[.int .i64 0] 3)) ∧ B < V.heap.size := by
            obtain ⟨G, Bs, H, hS, r⟩ := HT.out.H
            exact ⟨hS.at.below hV5 hS.lt, hS.lt⟩
          refine (wpIn_wide (n := 6)).1 ?_
          refine range_seq 50 13 B V.heap.size L 1 many rfl hSq.2 (by simp) hSq.1 hkk0 ?assign1b ?body1b ?out1b
          case assign1b =>
            intro l x W K hK
            unfold encN at *
            gi_wp2
            exact hK
          case body1b =>
            rintro l pre x W ⟨⟨hpl, hpm⟩, hkc, hbk⟩ hlt
            simp only [List.setIfInBounds_toArray, List.set_cons_zero, List.set_cons_succ]
            have k0 := cells_cell hkc (o := 0) rfl
            have k1 := cells_free hkc 0
            have k2 := lt_of_block hkc
            have TW := HT.out.grown (hV5.trans hbk)
            have i9 := cells_cell TW.b9 (o := 0) rfl
            have iu := cells_cell TW.bu (o := 0) rfl
            have im := cells_cell TW.bm (o := 0) rfl
            have iq := cells_cell TW.bq (o := 0) rfl
            have fq := cells_free TW.bq 0
            have l1 := lt_of_block TW.bm
            have l2 := lt_of_block TW.bq
            have l3 := lt_of_block TW.b9
            have l4 := lt_of_block TW.bu
            have m1 := lt_of_block HT.out.bm
            have m2 := lt_of_block HT.out.bq
            have m3 := lt_of_block HT.out.b9
            have m4 := lt_of_block HT.out.bu
            have n1 : ¬ w.heap.size = V.heap.size := by omega
            have n2 : ¬ w.heap.size + 1 = V.heap.size := by omega
            have n3 : ¬ x9 = V.heap.size := by omega
            have n4 : ¬ u = V.heap.size := by omega
            have n1' : ¬ V.heap.size = w.heap.size := by omega
            have n2' : ¬ V.heap.size = w.heap.size + 1 := by omega
            have n3' : ¬ V.heap.size = x9 := by omega
            have n4' : ¬ V.heap.size = u := by omega
            have HTW := Lib.hid TW
            have HBK := Lib.hid hbk
            have HKC := Lib.hid hkc
            have HPL := Lib.hid hpl
            have HPM := Lib.hid hpm
            obtain ⟨ga, c1, h1, _, _⟩ := row_some TW.row (by omega)
            simp only [Value.slice.injEq, true_and] at h1
            obtain ⟨rfl, rfl⟩ := h1
            have ea := row_at TW.row pre.length hlt
            have hps := Lib.hid (prefix_snoc (x := x) hpl hlt)
            have e2 : (pre.length : Int) < (L.length : Int) := by omega
            have e4 : (pre.length : Int) ≤ 60 := by have := HLn.out; omega
            have e5 : (0 : Int) ≤ (pre.length : Int) := by omega
            have e6 : decide ((L.length : Int) ≤ (pre.length : Int)) = false := by simp; omega
            clear TW hbk hkc hpl hpm hlt
            unfold encN at *
            generalize L.getD pre.length 0 = y at *
            by_cases hx : x = y
            · subst hx
              have e3 : ((x : Int) != (x : Int)) = false := by simp
              gi_wp2
              exact ⟨keeps_set _ _ (by simp), (Below.refl _ _).setCell (by simp) _, ⟨hps.out.2 trivial, .inr (.inl (by omega))⟩, by have := cells_set HKC.out 0 (.int .i64 ((pre.length : Int) + 1)); simpa using this, HBK.out.setCell (by simp) _⟩
            · have e3 : ((x : Int) != (y : Int)) = true := by simp; omega
              gi_wp2
              exact ⟨keeps_set _ _ (by simp; omega), .inl (fun h => hx (hps.out.1 h))⟩
          rintro D1 kq W hD hkl h0 h1 hkc hbk hK
          have hkb := lt_of_block hkc
          have HTW := Lib.hid (HT.out.mark (hV5.trans hbk) (D := D1) (by simp at hD; omega) hK)
          have hDD : Hid (D0 < D1) := Lib.hid (by have := lt_of_block (HT.out.ms D0 (by simp)).1; simp at hD; omega)
          clear hV5 hkk0 hSq cu lu HT hbk hK
          have k0 := cells_cell hkc (o := 0) rfl
          have i9 := cells_cell HTW.out.b9 (o := 0) rfl
          have iu := cells_cell HTW.out.bu (o := 0) rfl
          have im := cells_cell HTW.out.bm (o := 0) rfl
          have l1 := lt_of_block HTW.out.bm
          have l3 := lt_of_block HTW.out.b9
          have l4 := lt_of_block HTW.out.bu
          have hTOP := Lib.hid HTW.out.top
          clear hkc hD
          generalize V.heap.size = kk at *

          have hk1 := h1 (by omega)
          subst hk1
          clear h0 h1
          unfold pt at hTOP
          go_wp2_with (go_at_call 9; fail)
          rcases hTOP.out with ⟨hS0, hc⟩ | ⟨x, hx, hc⟩
          · exact absurd hS0 (by have := HSn.out; omega)
          have HX := Lib.hid hx
          clear hx hTOP
          refine hc.mono ?_
          rintro e w' ⟨rfl, hw⟩
          subst hw
          clear hc
          have hCH := Lib.hid (HTW.out.change x 18446744073709551615 HX.out)
          unfold pt at hCH
          go_wp2_with (go_at_call 10; fail)
          refine hCH.out.mono ?_
          rintro e WC ⟨rfl, hTC⟩
          have HTC := Lib.hid hTC
          clear hTC hCH HTW k0 i9 iu im l1 l3 l4
          go_wp2_with (go_at_call 11; fail)
          refine (HTC.out.push hT (by have := HSn.out; rw [len_changeS]; omega) (by have := HSn.out; omega) 0 0).mono ?_
          rintro e W3 ⟨⟨m, rfl⟩, hTN⟩
          have HSm : Hid ((pushS (changeS S x 18446744073709551615) 0 0).length ≤ 62 ∧ P + 1 ≤ 62 ∧ 1 ≤ (pushS (changeS S x 18446744073709551615) 0 0).length) := Lib.hid (by have := HSn.out; rw [len_pushS]; rw [len_changeS]; omega)
          have cu3 := cells_cell hTN.bu (o := 0) rfl
          have lu3 := lt_of_block hTN.bu
          have HTN := Lib.hid hTN
          clear hTN
          go_wp2_with fail
          have HT := Lib.hid (HTN.out.turn 2)
          clear HTN cu3 lu3 HSn
          have HSn := HSm
          clear HSm
          generalize W3.alloc (.cells #[.int .i64 2] 3) = V at *
          generalize W3.heap.size = u at *
          generalize pushS (changeS S x 18446744073709551615) 0 0 = S at *
          generalize P + 1 = P at *
          rw [rounds_succ]
          have cu := cells_cell HT.out.bu (o := 0) rfl
          have lu := lt_of_block HT.out.bu
          have hkn := Lib.hid (hkno.out _ HT.out.below)
          go_wp2_with (go_at_call 4; fail)
          refine hkn.out.mono ?_
          rintro e w4 ⟨rfl, hb⟩
          have z0 := (hb.block _ (lt_of_block HT.out.bq)).trans HT.out.bq
          have z1 := cells_cell z0 (o := 0) rfl
          have z2 := cells_free z0 0
          have z3 := lt_of_block z0
          have Z0 := Lib.hid z0
          have d1 := HT.out.ms D0 (by simp)
          have d2 := HT.out.ms D1 (by simp)
          have E1 := Lib.hid (And.intro ((hb.block _ (lt_of_block d1.1)).trans d1.1) d1.2)
          have E2 := Lib.hid (And.intro ((hb.block _ (lt_of_block d2.1)).trans d2.1) d2.2)
          have EB := Lib.hid (HT.out.below.trans (hb.mono HT.out.below.size))
          clear z0 d1 d2 hb hkn cu lu HT
          go_wp2_with fail
          have HTF : Below w.heap.size w (w4.setCell ⟨w.heap.size + 1, 0, none⟩ (.bool true)) := EB.out.setCell (by simp) _
          have ht0 : (w4.setCell ⟨w.heap.size + 1, 0, none⟩ (.bool true)).heap[w.heap.size + 1]? = some (.cells #[.bool true] 4 (0, 0)) := by have := cells_set Z0.out 0 (.bool true); simpa using this
          have kd2 := (fr_setCell w4 ⟨w.heap.size + 1, 0, none⟩ (.bool true)).same E2.out.1 (by simp only [List.mem_singleton]; have := E2.out.2; omega)
          have kd1 := (fr_setCell w4 ⟨w.heap.size + 1, 0, none⟩ (.bool true)).same E1.out.1 (by simp only [List.mem_singleton]; have := E1.out.2; omega)
          generalize w4.setCell ⟨w.heap.size + 1, 0, none⟩ (.bool true) = WF at *
          refine ⟨by simp, .inl ⟨_, _, rfl, run_takeDeferred kd2, ?_⟩⟩
          have ht1 : (WF.putObj D1 (.deferred none)).heap[w.heap.size + 1]? = some (.cells #[.bool true] 4 (0, 0)) := (World.putObj_heap_other (by have := E2.out.2; omega)).trans ht0
          replace kd1 : (WF.putObj D1 (.deferred none)).heap[D0]? = some (.deferred (some [])) := (World.putObj_heap_other (by have := hDD.out; omega)).trans kd1
          replace HTF : Below w.heap.size w (WF.putObj D1 (.deferred none)) := HTF.trans (belowK_b (w := w) (Nat.le_refl _) _ D1 _ _ (by have := E2.out.2; omega) kd2 rfl rfl)
          refine ⟨by simp, .inl ⟨_, _, rfl, run_takeDeferred kd1, ?_⟩⟩
          have ht2 : ((WF.putObj D1 (.deferred none)).putObj D0 (.deferred none)).heap[w.heap.size + 1]? = some (.cells #[.bool true] 4 (0, 0)) := (World.putObj_heap_other (by have := E1.out.2; omega)).trans ht1
          replace HTF : Below w.heap.size w ((WF.putObj D1 (.deferred none)).putObj D0 (.deferred none)) := HTF.trans (belowK_b (w := w) (Nat.le_refl _) _ D0 _ _ (by have := E1.out.2; omega) kd1 rfl rfl)
          exact ⟨.bool true, by simp [results, Tryd.results3, go_sem, cells_cell ht2 (o := 0) rfl], rfl, HTF⟩
end Go.Proofs.YtpbnbddjfebenaaDoor
