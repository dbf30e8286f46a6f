/- The walk of RopeParts. -/
import Derived.Test.YtkdbkamjaaehfaaCKn2
import Derived.Test.YtkdbkamjaaehfaaCEnd
import Derived.Test.YtkdbkamjaaehfaaCHPure
import Derived.Test.YtkdbkamjaaehfaaCBump
import Derived.Test.YtkdbkamjaaehfaaCRound
namespace Go.Proofs.Ytkdbkamjaaehfaa
open Go.RowKit Go.Sort Go.Shelf
attribute [local go_sem] Oper.semAt_some
set_option linter.unusedVariables false
set_option linter.unusedSimpArgs false

theorem run_max2 {P : Program} (w : World) (ts : Array TypeId) (ty : TypeId) (X Y Z : Int) (hz : max X Y = Z) : (Builtin.max_ ts ty #[.int .i64 X, .int .i64 Y]).run P w = .ok (.int .i64 Z) w := by
  have e : (if X < Y then Y else X) = Z := by split <;> omega
  simp [Builtin.max_, Builtin.max2, e]
theorem wpList_max {P : Program} {w : World} {ops : Array Oper} {rest : List Oper} {o : Oper} {a : Act} {Q : Exit → Act → World → Prop} (hgd : o.guard = none) (x y : Operand) (ts : Array TypeId)
    (ho : o.op = .call { callee := .builtin .max, args := #[x, y], argTypes := ts }) (X Y Z : Int) (hx : a.eval x = .int .i64 X) (hy : a.eval y = .int .i64 Y) (hz : max X Y = Z)
    (h : wpList P ops Q rest (a.put o.dst (.int .i64 Z)) w) : wpList P ops Q (o :: rest) a w := by
  refine wpList_plain hgd fun K hK => ?_
  have hrun := run_max2 (P := P) w ts o.type X Y Z hz
  unfold Oper.wp
  simp [execOp, ho, resolve, invoke, builtin, hx, hy, hrun, Result.andThen]
  exact hK _ _ h
theorem wpList_unguard {P : Program} {ops : Array Oper} {Q : Exit → Act → World → Prop} {a : Act} {w : World} {rest : List Oper} {o : Oper} (hw : Region.wanted o (yielded ops a.tmps) = true) (h : wpList P ops Q ({ o with guard := none } :: rest) a w) : wpList P ops Q (o :: rest) a w := by
  unfold wpList at h ⊢
  rw [if_pos hw]
  have hn : Region.wanted { o with guard := none } (yielded ops a.tmps) = true := by simp [Region.wanted]
  rw [if_pos hn] at h
  exact h
/-- A range that the body may leave by a break. -/
theorem range_parts_ex {n : Nat} {g : Operand} {ps : Array Tmp} {assign body : Code} {Q : Exit → Act → World → Prop} {a : Act} {w : World} {B id : Nat} {Fs : List Nat} {Ps : Parts}
    (h1 : 3 ≤ n) (hg : a.eval g = seqV B) (hS : SeqAt w Fs B Ps) (hps : ps.size = 1)
    (I J : Nat → World → Prop) (hI : OwnFrom w.heap.size I) (hJ : OwnFrom w.heap.size J) (h0 : I 0 w) (hIJ : ∀ W, I Ps.length W → J Ps.length W)
    (hround : ∀ (l k : Nat) (v : Value) (p : List UInt8) (W : World), w.heap.size ≤ l → Ps[k]? = some p → RowB W w.heap.size v p → Lets Fs w.heap.size w W → I k W →
      assign.wpIn (Fence.wide.inRound l) (n - 1 - 1) Try.prog (Exit.then (fun a' W' => W' = W ∧ ∀ W2, RowB W2 w.heap.size v p → Lets Fs w.heap.size w W2 → I k W2 → body.wpIn (Fence.wide.inRound l) (n - 1 - 1) Try.prog (roundK Fs w.heap.size I (fun c k W => c = .exit id ∧ J k W) (k + 1) W2) a' W2) (fun _ _ _ => False))
        { tmps := (ps.zip #[v]).foldl (fun t (p, v) => t.setIfInBounds p v) a.tmps, defers := [] } W)
    (hout : ∀ (D k : Nat) (W : World), w.heap.size ≤ D → k ≤ Ps.length → J k W → W.heap[D]? = some (.deferred (some [])) → Q .normal { a with defers := { target := .collected D, args := #[] } :: a.defers } W) :
    (Code.rangeFunc g ps assign body).wpIn Fence.wide n Try.prog (Exit.inBlock id Q) a w := by
  refine range_parts h1 hg hS hps I (fun c k W => c = .exit id ∧ J k W) hI (fun c s W W' row h hg hr => ⟨h.1, hJ s W W' row h.2 hg hr⟩) h0 hround ?_ ?_
  · intro D W hD hi hk
    simp only [Exit.inBlock]
    exact hout D _ W hD (Nat.le_refl _) (hIJ W hi) hk
  · rintro D c k W hD hk ⟨rfl, hj⟩ hK
    have := hout D k W hD hk hj hK
    refine wpIn_exit ?_
    simpa [Exit.inBlock] using this
theorem SeqAt.later {w W : World} {B : Nat} {Ps : Parts} (S : SeqAt w [] B Ps) (hb : Below w.heap.size w W) (F : List Nat) (hF : ∀ x ∈ F, w.heap.size ≤ x) : SeqAt W F B Ps := by
  obtain ⟨h1, h2, v, u, h3, h4, h5, h6⟩ := S
  obtain ⟨vd, ve, hv, r1, r2⟩ := h4.ex
  simp only [Value.agg.injEq, Array.mk.injEq, List.cons.injEq, and_true] at hv
  obtain ⟨rfl, rfl⟩ := hv
  exact ⟨by have := hb.size; omega, fun hm => by have := hF _ hm; omega, v, u, (hb.block _ h1).trans h3, h4.grown hb, fun g hg hm => by have := hF _ hm; have := (r1.lt g hg).2; omega, fun g hg hm => by have := hF _ hm; have := (r2.lt g hg).2; omega⟩

theorem SeqAt.fr0 {w W : World} {F : List Nat} {B : Nat} {Ps : Parts} (S : SeqAt w F B Ps) (h : Fr F w W) : SeqAt W [] B Ps := by
  obtain ⟨h1, h2, v, u, h3, h4, h5, h6⟩ := S
  refine ⟨by have := h.size; omega, fun hm => (by cases hm), v, u, h.same h3 h2, ?_, fun _ _ hm => (by cases hm), fun _ _ hm => (by cases hm)⟩
  obtain ⟨vd, ve, hv, r1, r2⟩ := h4.ex
  simp only [Value.agg.injEq, Array.mk.injEq, List.cons.injEq, and_true] at hv
  obtain ⟨rfl, rfl⟩ := hv
  exact ⟨⟨_, _, rfl, h.row r1 h5, h.row r2 h6⟩, h4.ne, h4.len, h4.size⟩

set_option maxRecDepth 100000 in
set_option maxHeartbeats 6400000 in
theorem ropeParts_walk0 {w : World} {vp : Value} {n1 : Int} {Ps : Parts} (h : SrcV w vp (Ps.map encS)) :
    Calls Try.prog 4 #[vp, .int .i64 n1] w fun e w' => e = .returned (.bool true) ∧ Below w.heap.size w w' := by
  have HP := Lib.hid h
  obtain ⟨pa, pc, hpf, hpc1, hpc2⟩ := h.formS
  generalize hPN : Ps.length = N at *
  subst hpf
  have HPN := Lib.hid hPN
  have hN2 : (N : Int) ≤ 9223372036854775807 := by unfold maxLen at hpc2; omega
  clear h hPN
  have hsn := seq_nil
  refine calls_marks Try.func4 rfl ?_
  simp only [Try.ntmps4, List.size_toArray, List.length_cons, List.length_nil, Nat.reduceAdd, Nat.reduceSub, Array.replicate_succ, Array.replicate_zero, List.push_toArray, List.append_toArray, List.nil_append, List.cons_append]
  have HT : Hid (Below w.heap.size w w) := Lib.hid (Below.refl _ _)
  have HC : Hid (Below w.heap.size w w) := Lib.hid (Below.refl _ _)
  go_wp2_with (go_at_call 8; fail)
  obtain ⟨W0, hW0⟩ : ∃ x, x = ((w.alloc (.cells #[.int .i64 n1] 3)).alloc (.cells #[.bool false] 4)) := ⟨_, rfl⟩
  have HBn : Below w.heap.size w W0 := by rw [hW0]; exact (below_alloc _ _).trans ((below_alloc _ _).mono (by simp))
  have HBB : Hid (Below w.heap.size w W0) := Lib.hid (HC.out.trans (HBn.mono HC.out.size))
  have Ymany : Hid (W0.heap[w.heap.size]? = some (.cells #[.int .i64 n1] 3 (0, 0))) := Lib.hid (by rw [hW0]; exact ((below_alloc _ _).block _ (by first | (simp; done) | (simp; omega))).trans (heap_alloc_new _ _))
  have Yres : Hid (W0.heap[w.heap.size + 1]? = some (.cells #[.bool false] 4 (0, 0))) := Lib.hid (by rw [hW0]; exact (by have := heap_alloc_new (w.alloc (.cells #[.int .i64 n1] 3)) (.cells #[.bool false] 4); simpa using this))
  have HTn : Hid (Below w.heap.size w W0) := Lib.hid (HT.out.trans (HBB.out.mono HT.out.size))
  rw [← hW0]
  clear hW0 HC HT HBn HBB
  have Xmany := Ymany
  have Xres := Yres
  have HT := HTn
  clear HTn Ymany Yres
  have HC : Hid (Below W0.heap.size W0 W0) := Lib.hid (Below.refl _ _)
  refine (small_any (HP.out.grown HT.out)).mono ?_
  rintro e w' ⟨(⟨rfl, hk, hl⟩ | rfl), rfl⟩
  case' inr =>
    have kres0W0 : W0.cell? ⟨w.heap.size + 1, 0, none⟩ = some (.bool false) := cells_cell ((HC.out.block _ (lt_of_block Xres.out)).trans Xres.out) rfl
    have zres0W0 : W0.frozen? ⟨w.heap.size + 1, 0, none⟩ = false := cells_free ((HC.out.block _ (lt_of_block Xres.out)).trans Xres.out) _
    have lresW0 : w.heap.size + 1 < W0.heap.size := lt_of_block ((HC.out.block _ (lt_of_block Xres.out)).trans Xres.out)
    go_wp2_with (go_at_call 9; fail)
    refine (known_any _).mono ?_
    rintro e w1 ⟨rfl, hb⟩
    have HC2 : Hid (Below W0.heap.size W0 w1) := Lib.hid (HC.out.trans ((hb).mono HC.out.size))
    clear HC
    have HC := HC2
    clear HC2
    clear hb
    have kres0w1 : w1.cell? ⟨w.heap.size + 1, 0, none⟩ = some (.bool false) := cells_cell ((HC.out.block _ (lt_of_block Xres.out)).trans Xres.out) rfl
    have zres0w1 : w1.frozen? ⟨w.heap.size + 1, 0, none⟩ = false := cells_free ((HC.out.block _ (lt_of_block Xres.out)).trans Xres.out) _
    have lresw1 : w.heap.size + 1 < w1.heap.size := lt_of_block ((HC.out.block _ (lt_of_block Xres.out)).trans Xres.out)
    go_wp2_with fail
    have HTF : Below w.heap.size w (w1.setCell ⟨w.heap.size + 1, 0, none⟩ (.bool true)) := ((HT.out.trans (HC.out.mono HT.out.size))).trans ((Below.refl _ _).setCell (p := ⟨w.heap.size + 1, 0, none⟩) (by simp) _)
    have ht0 : (w1.setCell ⟨w.heap.size + 1, 0, none⟩ (.bool true)).heap[w.heap.size + 1]? = some (.cells #[.bool true] 4 (0, 0)) := by have := cells_set ((HC.out.block _ (lt_of_block Xres.out)).trans Xres.out) 0 (.bool true); simpa using this
    generalize w1.setCell ⟨w.heap.size + 1, 0, none⟩ (.bool true) = WF at *
    exact ⟨.bool true, by simp [results, Try.results4, go_sem, cells_cell ht0 (o := 0) rfl], rfl, HTF⟩
  have HK1 := Lib.hid (And.intro hk hl)
  clear hk hl
  rcases (by omega : (60 : Int) < (N : Int) ∨ (N : Int) ≤ 60) with gN | gN
  case' inl =>
    have kres0W0 : W0.cell? ⟨w.heap.size + 1, 0, none⟩ = some (.bool false) := cells_cell ((HC.out.block _ (lt_of_block Xres.out)).trans Xres.out) rfl
    have zres0W0 : W0.frozen? ⟨w.heap.size + 1, 0, none⟩ = false := cells_free ((HC.out.block _ (lt_of_block Xres.out)).trans Xres.out) _
    have lresW0 : w.heap.size + 1 < W0.heap.size := lt_of_block ((HC.out.block _ (lt_of_block Xres.out)).trans Xres.out)
    go_wp2_with (go_at_call 9; fail)
    refine (known_any _).mono ?_
    rintro e w1 ⟨rfl, hb⟩
    have HC2 : Hid (Below W0.heap.size W0 w1) := Lib.hid (HC.out.trans ((hb).mono HC.out.size))
    clear HC
    have HC := HC2
    clear HC2
    clear hb
    have kres0w1 : w1.cell? ⟨w.heap.size + 1, 0, none⟩ = some (.bool false) := cells_cell ((HC.out.block _ (lt_of_block Xres.out)).trans Xres.out) rfl
    have zres0w1 : w1.frozen? ⟨w.heap.size + 1, 0, none⟩ = false := cells_free ((HC.out.block _ (lt_of_block Xres.out)).trans Xres.out) _
    have lresw1 : w.heap.size + 1 < w1.heap.size := lt_of_block ((HC.out.block _ (lt_of_block Xres.out)).trans Xres.out)
    go_wp2_with fail
    have HTF : Below w.heap.size w (w1.setCell ⟨w.heap.size + 1, 0, none⟩ (.bool true)) := ((HT.out.trans (HC.out.mono HT.out.size))).trans ((Below.refl _ _).setCell (p := ⟨w.heap.size + 1, 0, none⟩) (by simp) _)
    have ht0 : (w1.setCell ⟨w.heap.size + 1, 0, none⟩ (.bool true)).heap[w.heap.size + 1]? = some (.cells #[.bool true] 4 (0, 0)) := by have := cells_set ((HC.out.block _ (lt_of_block Xres.out)).trans Xres.out) 0 (.bool true); simpa using this
    generalize w1.setCell ⟨w.heap.size + 1, 0, none⟩ (.bool true) = WF at *
    exact ⟨.bool true, by simp [results, Try.results4, go_sem, cells_cell ht0 (o := 0) rfl], rfl, HTF⟩
  obtain ⟨ep, hep⟩ : ∃ ep, ep = errC (full Ps).length Ps.flatten.length := ⟨_, rfl⟩
  obtain ⟨A, hA⟩ : ∃ A, A = newP Ps := ⟨_, rfl⟩
  have be1 := errC_small Ps
  rw [← hep] at be1
  have hmade := Lib.hid (fun (W : World) (hW : SrcV W (.slice pa N pc) (Ps.map encS)) => made_any hW (by have := HK1.out; omega) (by have := HK1.out; omega))
  have href := Lib.hid (fun (W : World) (hW : SrcV W (.slice pa N pc) (Ps.map encS)) => refNew_any hW (by have := HK1.out; omega) (by have := HK1.out; omega))
  rw [← hep, ← hA] at hmade href
  clear hep hA
  obtain ⟨q, hq⟩ : ∃ q, q = A.length := ⟨_, rfl⟩
  have HQ1 := Lib.hid hq
  clear hq
  go_wp2_with (go_at_call 14; fail)
  refine (hmade.out _ (HP.out.grown (HT.out.trans (HC.out.mono HT.out.size)))).mono ?_
  rintro e w1 ⟨vr, rfl, Qr, hb⟩
  have HC2 : Hid (Below W0.heap.size W0 w1) := Lib.hid (HC.out.trans ((hb).mono HC.out.size))
  clear HC
  have HC := HC2
  clear HC2
  clear hb
  obtain ⟨xr0, xr1, xr2, xr3, xr4, xr5, hvr⟩ := Qr.shape
  subst hvr
  have Qr := Lib.hid (Qr.lower (Nat.zero_le _))
  go_wp2_with (go_at_call 11; fail)
  obtain ⟨W1, hW1⟩ : ∃ x, x = (w1.alloc (.cells #[.slice xr0 xr1 xr2, .slice xr3 xr4 xr5] 29)) := ⟨_, rfl⟩
  have HBn : Below w1.heap.size w1 W1 := by rw [hW1]; exact below_alloc _ _
  have HBB : Hid (Below W0.heap.size W0 W1) := Lib.hid (HC.out.trans (HBn.mono HC.out.size))
  have Ymany : Hid (W1.heap[w.heap.size]? = some (.cells #[.int .i64 n1] 3 (0, 0))) := Lib.hid ((HBB.out.block _ (lt_of_block Xmany.out)).trans Xmany.out)
  have Yres : Hid (W1.heap[w.heap.size + 1]? = some (.cells #[.bool false] 4 (0, 0))) := Lib.hid ((HBB.out.block _ (lt_of_block Xres.out)).trans Xres.out)
  have Yr : Hid (W1.heap[w1.heap.size]? = some (.cells #[.slice xr0 xr1 xr2, .slice xr3 xr4 xr5] 29 (0, 0))) := Lib.hid (by rw [hW1]; exact heap_alloc_new _ _)
  have SRr : Hid (RopeAt W1 0 (.agg #[.slice xr0 xr1 xr2, .slice xr3 xr4 xr5]) (A)) := Lib.hid (((Qr.out)).grown HBn)
  have HTn : Hid (Below w.heap.size w W1) := Lib.hid (HT.out.trans (HBB.out.mono HT.out.size))
  rw [← hW1]
  clear hW1 HC HT HBn HBB Xmany Xres
  have Xmany := Ymany
  have Xres := Yres
  have Xr := Yr
  have Rr := SRr
  have HT := HTn
  clear HTn Ymany Yres Yr SRr
  have HC : Hid (Below W1.heap.size W1 W1) := Lib.hid (Below.refl _ _)
  refine (href.out _ (HP.out.grown (HT.out.trans (HC.out.mono HT.out.size)))).mono ?_
  rintro e w2 ⟨uv, rfl, Qv, hb⟩
  have HC2 : Hid (Below W1.heap.size W1 w2) := Lib.hid (HC.out.trans ((hb).mono HC.out.size))
  clear HC
  have HC := HC2
  clear HC2
  clear hb
  unfold rf
  obtain ⟨y0, y2, hvv, _, _⟩ := (RowV.src Qv).formS
  rw [← HQ1.out] at hvv
  subst hvv
  have Qv := Lib.hid (RowV.lower Qv (Nat.zero_le _))
  have kr0w2 : w2.cell? ⟨w1.heap.size, 0, none⟩ = some (.slice xr0 xr1 xr2) := cells_cell ((HC.out.block _ (lt_of_block Xr.out)).trans Xr.out) rfl
  have zr0w2 : w2.frozen? ⟨w1.heap.size, 0, none⟩ = false := cells_free ((HC.out.block _ (lt_of_block Xr.out)).trans Xr.out) _
  have kr1w2 : w2.cell? ⟨w1.heap.size, 1, none⟩ = some (.slice xr3 xr4 xr5) := cells_cell ((HC.out.block _ (lt_of_block Xr.out)).trans Xr.out) rfl
  have zr1w2 : w2.frozen? ⟨w1.heap.size, 1, none⟩ = false := cells_free ((HC.out.block _ (lt_of_block Xr.out)).trans Xr.out) _
  have lrw2 : w1.heap.size < w2.heap.size := lt_of_block ((HC.out.block _ (lt_of_block Xr.out)).trans Xr.out)
  go_wp2_with (go_at_call 15; fail)
  obtain ⟨W2, hW2⟩ : ∃ x, x = (w2.alloc (.cells #[.slice y0 q y2] 34)) := ⟨_, rfl⟩
  have HBn : Below w2.heap.size w2 W2 := by rw [hW2]; exact below_alloc _ _
  have HBB : Hid (Below W1.heap.size W1 W2) := Lib.hid (HC.out.trans (HBn.mono HC.out.size))
  have Ymany : Hid (W2.heap[w.heap.size]? = some (.cells #[.int .i64 n1] 3 (0, 0))) := Lib.hid ((HBB.out.block _ (lt_of_block Xmany.out)).trans Xmany.out)
  have Yres : Hid (W2.heap[w.heap.size + 1]? = some (.cells #[.bool false] 4 (0, 0))) := Lib.hid ((HBB.out.block _ (lt_of_block Xres.out)).trans Xres.out)
  have Yr : Hid (W2.heap[w1.heap.size]? = some (.cells #[.slice xr0 xr1 xr2, .slice xr3 xr4 xr5] 29 (0, 0))) := Lib.hid ((HBB.out.block _ (lt_of_block Xr.out)).trans Xr.out)
  have SRr : Hid (RopeAt W2 0 (.agg #[.slice xr0 xr1 xr2, .slice xr3 xr4 xr5]) (A)) := Lib.hid ((Rr.out).grown HBB.out)
  have Yv : Hid (W2.heap[w2.heap.size]? = some (.cells #[.slice y0 q y2] 34 (0, 0))) := Lib.hid (by rw [hW2]; exact heap_alloc_new _ _)
  have SRv : Hid (RowS W2 0 (.slice y0 q y2) (A)) := Lib.hid (RowV.grown ((Qv.out)) HBn)
  have HTn : Hid (Below w.heap.size w W2) := Lib.hid (HT.out.trans (HBB.out.mono HT.out.size))
  rw [← hW2]
  clear hW2 HC HT HBn HBB Xmany Xres Xr Rr
  have Xmany := Ymany
  have Xres := Yres
  have Xr := Yr
  have Xv := Yv
  have Rr := SRr
  have Rv := SRv
  have HT := HTn
  clear HTn Ymany Yres Yr Yv SRr SRv
  have HC : Hid (Below W2.heap.size W2 W2) := Lib.hid (Below.refl _ _)
  refine (parts_any (Rr.out.grown HC.out) [] (fun _ hh => (by cases hh)) (fun _ _ _ => ⟨fun _ _ hh => (by cases hh), fun _ _ hh => (by cases hh)⟩)).mono ?_
  rintro e w3 ⟨B, rfl, hS, hb⟩
  have HC2 : Hid (Below W2.heap.size W2 w3) := Lib.hid (HC.out.trans ((hb).mono HC.out.size))
  clear HC
  have HC := HC2
  clear HC2
  clear hb
  have HSQ := Lib.hid hS
  clear hS hmade href
  unfold seqV
  go_wp2_with fail
  refine wp_loop_rounds 3 ?_
  rw [rounds_succ]
  go_wp2_with fail
  have lmany := lt_of_block ((HC.out.block _ (lt_of_block Xmany.out)).trans Xmany.out)
  have o7 : Hid (w.heap.size ≤ w3.heap.size) := Lib.hid (HT.out.trans (HC.out.mono HT.out.size)).size
  obtain ⟨W3, hW3⟩ : ∃ x, x = ((w3.alloc (.cells #[.int .i64 0] 3)).alloc (.cells #[.int .i64 0] 3)) := ⟨_, rfl⟩
  have HBn : Below w3.heap.size w3 W3 := by rw [hW3]; exact (below_alloc _ _).trans ((below_alloc _ _).mono (by simp))
  have HBB : Hid (Below W2.heap.size W2 W3) := Lib.hid (HC.out.trans (HBn.mono HC.out.size))
  have Ymany : Hid (W3.heap[w.heap.size]? = some (.cells #[.int .i64 n1] 3 (0, 0))) := Lib.hid ((HBB.out.block _ (lt_of_block Xmany.out)).trans Xmany.out)
  have Yres : Hid (W3.heap[w.heap.size + 1]? = some (.cells #[.bool false] 4 (0, 0))) := Lib.hid ((HBB.out.block _ (lt_of_block Xres.out)).trans Xres.out)
  have Yr : Hid (W3.heap[w1.heap.size]? = some (.cells #[.slice xr0 xr1 xr2, .slice xr3 xr4 xr5] 29 (0, 0))) := Lib.hid ((HBB.out.block _ (lt_of_block Xr.out)).trans Xr.out)
  have Yv : Hid (W3.heap[w2.heap.size]? = some (.cells #[.slice y0 q y2] 34 (0, 0))) := Lib.hid ((HBB.out.block _ (lt_of_block Xv.out)).trans Xv.out)
  have SRr : Hid (RopeAt W3 0 (.agg #[.slice xr0 xr1 xr2, .slice xr3 xr4 xr5]) (A)) := Lib.hid ((Rr.out).grown HBB.out)
  have SRv : Hid (RowS W3 0 (.slice y0 q y2) (A)) := Lib.hid (RowV.grown (Rv.out) HBB.out)
  have Yt : Hid (W3.heap[w3.heap.size]? = some (.cells #[.int .i64 0] 3 (0, 0))) := Lib.hid (by rw [hW3]; exact ((below_alloc _ _).block _ (by first | (simp; done) | (simp; omega))).trans (heap_alloc_new _ _))
  have Yk : Hid (W3.heap[w3.heap.size + 1]? = some (.cells #[.int .i64 0] 3 (0, 0))) := Lib.hid (by rw [hW3]; exact (by have := heap_alloc_new (w3.alloc (.cells #[.int .i64 0] 3)) (.cells #[.int .i64 0] 3); simpa using this))
  have HTn : Hid (Below w.heap.size w W3) := Lib.hid (HT.out.trans (HBB.out.mono HT.out.size))
  have HBk := Lib.hid HBn
  rw [← hW3]
  clear hW3 HC HT HBn HBB Xmany Xres Xr Xv Rr Rv
  have Xmany := Ymany
  have Xres := Yres
  have Xr := Yr
  have Xv := Yv
  have Xt := Yt
  have Xk := Yk
  have Rr := SRr
  have Rv := SRv
  have HT := HTn
  clear HTn Ymany Yres Yr Yv Yt Yk SRr SRv
  have HC : Hid (Below W3.heap.size W3 W3) := Lib.hid (Below.refl _ _)
  have HAL := Lib.hid Rr.out.len
  have HS1 := Lib.hid (HSQ.out.later HBk.out [w3.heap.size + 1] (fun x hx => by simp at hx; omega))
  have ln1 := lt_of_block Xk.out
  refine (wpIn_wide (n := 6)).1 ?_
  refine range_parts_ex (n := 6) (B := B) (Fs := [w3.heap.size + 1]) (Ps := A) (by omega) rfl HS1.out rfl (fun k W' => Fr [w3.heap.size + 1] W3 W' ∧ W'.heap[w3.heap.size + 1]? = some (.cells #[.int .i64 (k : Nat)] 3 (0, 0)) ∧ (k = 0 ∨ (k : Int) < n1)) (fun k W' => Fr [w3.heap.size + 1] W3 W' ∧ W'.heap[w3.heap.size + 1]? = some (.cells #[.int .i64 (k : Nat)] 3 (0, 0)) ∧ ((k : Nat) : Int) = min (q : Int) (max 1 n1)) ?hI1 ?hJ1 ?h01 ?hx1 ?round1 ?done1
  case hI1 =>
    rintro k E E' row ⟨hf, h1, h2⟩ hg hr
    exact ⟨hf.trans (fr_grown hg) (fun x hx => .inr (hr x (by simpa using hx)).1), (hg.block _ (lt_of_block h1) (fun e => by have := (hr _ e.symm).1; omega)).trans h1, h2⟩
  case hJ1 =>
    rintro k E E' row ⟨hf, h1, h2⟩ hg hr
    exact ⟨hf.trans (fr_grown hg) (fun x hx => .inr (hr x (by simpa using hx)).1), (hg.block _ (lt_of_block h1) (fun e => by have := (hr _ e.symm).1; omega)).trans h1, h2⟩
  case h01 => exact ⟨Fr.refl _ _, Xk.out, .inl rfl⟩
  case hx1 =>
    rintro W' ⟨hf, h1, h2⟩
    exact ⟨hf, h1, by have := HQ1.out; omega⟩
  case' round1 =>
    rintro l k v p W' hl hp hrow hlets hI
    have hkl : k < A.length := (List.getElem?_eq_some_iff.1 hp).1
    have hk2 : (k : Int) ≤ 2000 := by have := HAL.out; omega
    have hkq : (k : Int) < (q : Int) := by have := HQ1.out; omega
    have hkn : k < q := by omega
    have e6 : decide ((q : Int) ≤ (k : Int)) = false := by simp; omega
    have HP2 := Lib.hid hp
    clear hp hrow hI hlets
    gi_wp2
    refine ⟨trivial, ?_⟩
    rintro W2 hrow hlets ⟨hf, h1, hkm⟩
    have HF2 := Lib.hid hf
    have HC1 := Lib.hid h1
    have HL2 := Lib.hid hlets
    have HKM := Lib.hid hkm
    obtain ⟨S, hS⟩ : ∃ S, S = strB p := ⟨_, rfl⟩
    have hcv : ∀ n, (convert 26 9 v).run Try.prog (W2.drewN n) = .ok (.string S) (W2.drewN n) := fun n => by
      rw [hS]
      exact row_str (RowV.grown hrow ((fr_drewN W2 n []).below (fun x hx => by cases hx) (Nat.le_refl _)))
    have hrv := hf.row Rv.out (fun g hg hm => row_ne Rv.out Xk.out (by decide) g hg (List.mem_singleton.1 hm))
    obtain ⟨g, rfl, hgl, hce⟩ := RowV.elem hrv k (.string S) (by rw [List.getElem?_map, HP2.out, hS]; rfl)
    have c1 : W2.cell? ⟨w3.heap.size + 1, 0, none⟩ = some (.int .i64 (k : Nat)) := cells_cell h1 rfl
    have z1 : W2.frozen? ⟨w3.heap.size + 1, 0, none⟩ = false := cells_free h1 _
    have l1 : w3.heap.size + 1 < W2.heap.size := lt_of_block h1
    have ct : W2.cell? ⟨w3.heap.size, 0, none⟩ = some (.int .i64 0) := cells_cell (hf.same Xt.out (by simp only [List.mem_singleton]; omega)) rfl
    have cm : W2.cell? ⟨w.heap.size, 0, none⟩ = some (.int .i64 n1) := cells_cell (hf.same Xmany.out (by simp only [List.mem_singleton]; omega)) rfl
    have cv : W2.cell? ⟨w2.heap.size, 0, none⟩ = some (.slice (some ⟨g, 0, none⟩) q y2) := cells_cell (hf.same Xv.out (by simp only [List.mem_singleton]; exact ne_types Xv.out Xk.out (by decide))) rfl
    have lt2 := World.block_lt_of_cell? W2 _ ct
    have lm2 := World.block_lt_of_cell? W2 _ cm
    have lv2 := World.block_lt_of_cell? W2 _ cv
    have hbs := beq_selfB S
    have hbn : (S != S) = false := by simp [bne, hbs]
    clear hrow hlets hf h1 hkm hrv hS
    gi_wp2
    refine wpIn_region_quiet_round (F := Fence.wide) rfl (by kernel_rfl) (by kernel_rfl) (by kernel_rfl) ?_
    repeat (quiet_step_in (fail))
    refine wpQuietIn_nil ?_
    intro _ hw'
    obtain ⟨nq, hw''⟩ := hw'
    subst hw''
    have hf0 : Fr [w3.heap.size + 1] W2 (W2.drewN nq) := fr_drewN W2 nq _
    have kf0 : KeepsFrom W3.heap.size W2 (W2.drewN nq) := keepsFrom_fr (F := []) (fr_drewN W2 nq _) (fun x hx => by cases hx)
    have d1 : (W2.drewN nq).heap[w3.heap.size + 1]? = some (.cells #[.int .i64 (k : Nat)] 3 (0, 0)) := HC1.out
    have c1' : (W2.drewN nq).cell? ⟨w3.heap.size + 1, 0, none⟩ = some (.int .i64 (k : Nat)) := c1
    have z1' : (W2.drewN nq).frozen? ⟨w3.heap.size + 1, 0, none⟩ = false := z1
    have l1' : w3.heap.size + 1 < (W2.drewN nq).heap.size := l1
    have ct' : (W2.drewN nq).cell? ⟨w3.heap.size, 0, none⟩ = some (.int .i64 0) := ct
    have cm' : (W2.drewN nq).cell? ⟨w.heap.size, 0, none⟩ = some (.int .i64 n1) := cm
    have lt2' := World.block_lt_of_cell? _ _ ct'
    have lm2' := World.block_lt_of_cell? _ _ cm'
    have n1' : ¬ w3.heap.size = w3.heap.size + 1 := by omega
    have n2' : ¬ w.heap.size = w3.heap.size + 1 := by omega
    clear c1 z1 l1 ct cm cv lt2 lm2 lv2 hce hgl hcv
    generalize W2.drewN nq = W3 at *
    have HD1 := Lib.hid d1
    have HFN := Lib.hid (HF2.out.trans' hf0)
    have HKF := Lib.hid kf0
    have HF0 := Lib.hid hf0
    clear d1 hf0 kf0
    simp only [Exit.then]
    go_at_K
    by_cases hmk : n1 ≤ (k : Int) + 1
    · have hmk2 : decide (n1 ≤ (k : Int) + 1) = true := by simp; omega
      gi_wp2
      have hfr := fr_setCell W3 ⟨w3.heap.size + 1, 0, none⟩ (.int .i64 ((k : Int) + 1))
      have hkc : (W3.setCell ⟨w3.heap.size + 1, 0, none⟩ (.int .i64 ((k : Int) + 1))).heap[w3.heap.size + 1]? = some (.cells #[.int .i64 ((k + 1 : Nat) : Int)] 3 (0, 0)) := by have := cells_set HD1.out 0 (.int .i64 ((k : Int) + 1)); simpa using this
      have hkk := HKF.out.trans ((KeepsOthers.setCell W3 ⟨w3.heap.size + 1, 0, none⟩ (.int .i64 ((k : Int) + 1))).from _)
      exact ⟨hkk, rfl, HFN.out.trans' hfr, hkc, by have := HKM.out; omega⟩
    · have hmk2 : decide (n1 ≤ (k : Int) + 1) = false := by simp; omega
      gi_wp2
      have hfr := fr_setCell W3 ⟨w3.heap.size + 1, 0, none⟩ (.int .i64 ((k : Int) + 1))
      have hkc : (W3.setCell ⟨w3.heap.size + 1, 0, none⟩ (.int .i64 ((k : Int) + 1))).heap[w3.heap.size + 1]? = some (.cells #[.int .i64 ((k + 1 : Nat) : Int)] 3 (0, 0)) := by have := cells_set HD1.out 0 (.int .i64 ((k : Int) + 1)); simpa using this
      have hkk := HKF.out.trans ((KeepsOthers.setCell W3 ⟨w3.heap.size + 1, 0, none⟩ (.int .i64 ((k : Int) + 1))).from _)
      exact ⟨hkk, Lets.of_fr (HF0.out.trans' hfr) HL2.out.size, HFN.out.trans' hfr, hkc, .inr (by omega)⟩
  rintro D1 kq1 V1 hD1 hkA1 ⟨hf, h1, hkx1⟩ hK1
  have HSQ1 := Lib.hid (HS1.out.fr0 hf)
  have hDs1 : Hid (w.heap.size + 1 < D1) := Lib.hid (Nat.lt_of_lt_of_le (lt_of_block Xres.out) hD1)
  have Ymany : Hid (V1.heap[w.heap.size]? = some (.cells #[.int .i64 n1] 3 (0, 0))) := Lib.hid (hf.same ((HC.out.block _ (lt_of_block Xmany.out)).trans Xmany.out) (by simp only [List.mem_singleton]; exact (by omega)))
  have Yres : Hid (V1.heap[w.heap.size + 1]? = some (.cells #[.bool false] 4 (0, 0))) := Lib.hid (hf.same ((HC.out.block _ (lt_of_block Xres.out)).trans Xres.out) (by simp only [List.mem_singleton]; exact ne_types Xres.out Xk.out (by decide)))
  have Yr : Hid (V1.heap[w1.heap.size]? = some (.cells #[.slice xr0 xr1 xr2, .slice xr3 xr4 xr5] 29 (0, 0))) := Lib.hid (hf.same ((HC.out.block _ (lt_of_block Xr.out)).trans Xr.out) (by simp only [List.mem_singleton]; exact ne_types Xr.out Xk.out (by decide)))
  have Yv : Hid (V1.heap[w2.heap.size]? = some (.cells #[.slice y0 q y2] 34 (0, 0))) := Lib.hid (hf.same ((HC.out.block _ (lt_of_block Xv.out)).trans Xv.out) (by simp only [List.mem_singleton]; exact ne_types Xv.out Xk.out (by decide)))
  have Yt : Hid (V1.heap[w3.heap.size]? = some (.cells #[.int .i64 0] 3 (0, 0))) := Lib.hid (hf.same ((HC.out.block _ (lt_of_block Xt.out)).trans Xt.out) (by simp only [List.mem_singleton]; exact (by omega)))
  have SRv : Hid (RowS V1 0 (.slice y0 q y2) (A)) := Lib.hid (hf.row (RowV.grown (Rv.out) HC.out) (fun g hg hm => row_ne (RowV.grown (Rv.out) HC.out) Xk.out (by decide) g hg (List.mem_singleton.1 hm)))
  have HTn : Hid (Below w.heap.size w V1) := Lib.hid ((HT.out.trans (HC.out.mono HT.out.size)).trans (hf.below (fun x hx => by simp only [List.mem_singleton] at hx; subst hx; have := o7.out; omega) (HT.out.trans (HC.out.mono HT.out.size)).size))
  clear HC HT Xmany Xres Xr Xv Xt Xk Rr Rv
  have Xmany := Ymany
  have Xres := Yres
  have Xr := Yr
  have Xv := Yv
  have Xt := Yt
  have Xk : Hid (V1.heap[w3.heap.size + 1]? = some (.cells #[.int .i64 (kq1 : Nat)] 3 (0, 0))) := Lib.hid h1
  have Rv := SRv
  have HT := HTn
  clear HTn Ymany Yres Yr Yv Yt SRv
  have HC : Hid (Below V1.heap.size V1 V1) := Lib.hid (Below.refl _ _)
  have K1 := Lib.hid hK1
  clear hf h1 hK1 HS1 hD1
  simp only [Exit.then]
  go_at_K
  obtain ⟨Z, hZ⟩ : ∃ Z, Z = max 1 n1 := ⟨_, rfl⟩
  have HMX : Hid (max 1 n1 = Z) := Lib.hid hZ.symm
  have HMN : Hid (min (q : Int) Z = (kq1 : Nat)) := Lib.hid (by omega)
  clear hZ hkx1
  have kt0V1 : V1.cell? ⟨w3.heap.size, 0, none⟩ = some (.int .i64 0) := cells_cell ((HC.out.block _ (lt_of_block Xt.out)).trans Xt.out) rfl
  have zt0V1 : V1.frozen? ⟨w3.heap.size, 0, none⟩ = false := cells_free ((HC.out.block _ (lt_of_block Xt.out)).trans Xt.out) _
  have ltV1 : w3.heap.size < V1.heap.size := lt_of_block ((HC.out.block _ (lt_of_block Xt.out)).trans Xt.out)
  have kk0V1 : V1.cell? ⟨w3.heap.size + 1, 0, none⟩ = some (.int .i64 (kq1 : Nat)) := cells_cell ((HC.out.block _ (lt_of_block Xk.out)).trans Xk.out) rfl
  have zk0V1 : V1.frozen? ⟨w3.heap.size + 1, 0, none⟩ = false := cells_free ((HC.out.block _ (lt_of_block Xk.out)).trans Xk.out) _
  have lkV1 : w3.heap.size + 1 < V1.heap.size := lt_of_block ((HC.out.block _ (lt_of_block Xk.out)).trans Xk.out)
  have kv0V1 : V1.cell? ⟨w2.heap.size, 0, none⟩ = some (.slice y0 q y2) := cells_cell ((HC.out.block _ (lt_of_block Xv.out)).trans Xv.out) rfl
  have zv0V1 : V1.frozen? ⟨w2.heap.size, 0, none⟩ = false := cells_free ((HC.out.block _ (lt_of_block Xv.out)).trans Xv.out) _
  have lvV1 : w2.heap.size < V1.heap.size := lt_of_block ((HC.out.block _ (lt_of_block Xv.out)).trans Xv.out)
  have kmany0V1 : V1.cell? ⟨w.heap.size, 0, none⟩ = some (.int .i64 n1) := cells_cell ((HC.out.block _ (lt_of_block Xmany.out)).trans Xmany.out) rfl
  have zmany0V1 : V1.frozen? ⟨w.heap.size, 0, none⟩ = false := cells_free ((HC.out.block _ (lt_of_block Xmany.out)).trans Xmany.out) _
  have lmanyV1 : w.heap.size < V1.heap.size := lt_of_block ((HC.out.block _ (lt_of_block Xmany.out)).trans Xmany.out)
  go_wp2_with (first | (with_reducible refine wpList_unguard (o := ⟨some 79, _, _, _, _, _⟩) rfl ?_; refine wpList_max rfl (.const (.int .i64 1)) (.tmp 78) _ rfl _ _ _ rfl rfl HMX.out ?_) | (with_reducible refine wpList_unguard (o := ⟨some 80, _, _, _, _, _⟩) rfl ?_; refine wpList_min rfl (.tmp 77) (.tmp 79) _ rfl _ _ _ rfl rfl HMN.out ?_))
  clear Xt Xk
  obtain ⟨W4, hW4⟩ : ∃ x, x = (V1.alloc (.cells #[.int .i64 1] 3)) := ⟨_, rfl⟩
  have HBn : Below V1.heap.size V1 W4 := by rw [hW4]; exact below_alloc _ _
  have HBB : Hid (Below V1.heap.size V1 W4) := Lib.hid (HC.out.trans (HBn.mono HC.out.size))
  have Ymany : Hid (W4.heap[w.heap.size]? = some (.cells #[.int .i64 n1] 3 (0, 0))) := Lib.hid ((HBB.out.block _ (lt_of_block Xmany.out)).trans Xmany.out)
  have Yres : Hid (W4.heap[w.heap.size + 1]? = some (.cells #[.bool false] 4 (0, 0))) := Lib.hid ((HBB.out.block _ (lt_of_block Xres.out)).trans Xres.out)
  have Yr : Hid (W4.heap[w1.heap.size]? = some (.cells #[.slice xr0 xr1 xr2, .slice xr3 xr4 xr5] 29 (0, 0))) := Lib.hid ((HBB.out.block _ (lt_of_block Xr.out)).trans Xr.out)
  have Yv : Hid (W4.heap[w2.heap.size]? = some (.cells #[.slice y0 q y2] 34 (0, 0))) := Lib.hid ((HBB.out.block _ (lt_of_block Xv.out)).trans Xv.out)
  have SRv : Hid (RowS W4 0 (.slice y0 q y2) (A)) := Lib.hid (RowV.grown (Rv.out) HBB.out)
  have SK1 : Hid (W4.heap[D1]? = some (.deferred (some []))) := Lib.hid (((HBB.out.block _ (lt_of_block (K1.out))).trans (K1.out)))
  have Yt : Hid (W4.heap[V1.heap.size]? = some (.cells #[.int .i64 1] 3 (0, 0))) := Lib.hid (by rw [hW4]; exact heap_alloc_new _ _)
  have HTn : Hid (Below w.heap.size w W4) := Lib.hid (HT.out.trans (HBB.out.mono HT.out.size))
  have HBt := Lib.hid HBn
  rw [← hW4]
  clear hW4 HC HT HBn HBB Xmany Xres Xr Xv Rv K1
  have Xmany := Ymany
  have Xres := Yres
  have Xr := Yr
  have Xv := Yv
  have Xt := Yt
  have Rv := SRv
  have K1 := SK1
  have HT := HTn
  clear HTn Ymany Yres Yr Yv Yt SRv SK1
  have HC : Hid (Below W4.heap.size W4 W4) := Lib.hid (Below.refl _ _)
  rw [rounds_succ]
  have kt0W4 : W4.cell? ⟨V1.heap.size, 0, none⟩ = some (.int .i64 1) := cells_cell ((HC.out.block _ (lt_of_block Xt.out)).trans Xt.out) rfl
  have zt0W4 : W4.frozen? ⟨V1.heap.size, 0, none⟩ = false := cells_free ((HC.out.block _ (lt_of_block Xt.out)).trans Xt.out) _
  have ltW4 : V1.heap.size < W4.heap.size := lt_of_block ((HC.out.block _ (lt_of_block Xt.out)).trans Xt.out)
  go_wp2_with fail
  have lmany2 := lt_of_block Xmany.out
  have ld1w := lt_of_block K1.out
  have lt2w := lt_of_block Xt.out
  clear o7
  have o7 : Hid (w.heap.size ≤ W4.heap.size) := Lib.hid HT.out.size
  have HSW := HSQ1.out.later HBt.out [] (fun _ hh => (by cases hh))
  obtain ⟨W5, hW5⟩ : ∃ x, x = (W4.alloc (.cells #[.int .i64 0] 3)) := ⟨_, rfl⟩
  have HBn : Below W4.heap.size W4 W5 := by rw [hW5]; exact below_alloc _ _
  have HBB : Hid (Below W4.heap.size W4 W5) := Lib.hid (HC.out.trans (HBn.mono HC.out.size))
  have Ymany : Hid (W5.heap[w.heap.size]? = some (.cells #[.int .i64 n1] 3 (0, 0))) := Lib.hid ((HBB.out.block _ (lt_of_block Xmany.out)).trans Xmany.out)
  have Yres : Hid (W5.heap[w.heap.size + 1]? = some (.cells #[.bool false] 4 (0, 0))) := Lib.hid ((HBB.out.block _ (lt_of_block Xres.out)).trans Xres.out)
  have Yr : Hid (W5.heap[w1.heap.size]? = some (.cells #[.slice xr0 xr1 xr2, .slice xr3 xr4 xr5] 29 (0, 0))) := Lib.hid ((HBB.out.block _ (lt_of_block Xr.out)).trans Xr.out)
  have Yv : Hid (W5.heap[w2.heap.size]? = some (.cells #[.slice y0 q y2] 34 (0, 0))) := Lib.hid ((HBB.out.block _ (lt_of_block Xv.out)).trans Xv.out)
  have Yt : Hid (W5.heap[V1.heap.size]? = some (.cells #[.int .i64 1] 3 (0, 0))) := Lib.hid ((HBB.out.block _ (lt_of_block Xt.out)).trans Xt.out)
  have SRv : Hid (RowS W5 0 (.slice y0 q y2) (A)) := Lib.hid (RowV.grown (Rv.out) HBB.out)
  have SK1 : Hid (W5.heap[D1]? = some (.deferred (some []))) := Lib.hid (((HBB.out.block _ (lt_of_block (K1.out))).trans (K1.out)))
  have Yk : Hid (W5.heap[W4.heap.size]? = some (.cells #[.int .i64 0] 3 (0, 0))) := Lib.hid (by rw [hW5]; exact heap_alloc_new _ _)
  have HTn : Hid (Below w.heap.size w W5) := Lib.hid (HT.out.trans (HBB.out.mono HT.out.size))
  have HBk2 := Lib.hid HBn
  rw [← hW5]
  clear hW5 HC HT HBn HBB Xmany Xres Xr Xv Xt Rv K1
  have Xmany := Ymany
  have Xres := Yres
  have Xr := Yr
  have Xv := Yv
  have Xt := Yt
  have Xk := Yk
  have Rv := SRv
  have K1 := SK1
  have HT := HTn
  clear HTn Ymany Yres Yr Yv Yt Yk SRv SK1
  have HC : Hid (Below W5.heap.size W5 W5) := Lib.hid (Below.refl _ _)
  have HS2 := Lib.hid (HSW.later HBk2.out [W4.heap.size] (fun x hx => by simp at hx; omega))
  clear HSW
  have ln2 := lt_of_block Xk.out
  refine (wpIn_wide (n := 6)).1 ?_
  refine range_parts_ex (n := 6) (B := B) (Fs := [W4.heap.size]) (Ps := A) (by omega) rfl HS2.out rfl (fun k W' => Fr [W4.heap.size] W5 W' ∧ W'.heap[W4.heap.size]? = some (.cells #[.int .i64 (k : Nat)] 3 (0, 0)) ∧ True) (fun k W' => Fr [W4.heap.size] W5 W' ∧ W'.heap[W4.heap.size]? = some (.cells #[.int .i64 (k : Nat)] 3 (0, 0)) ∧ k = q) ?hI2 ?hJ2 ?h02 ?hx2 ?round2 ?done2
  case hI2 =>
    rintro k E E' row ⟨hf, h1, h2⟩ hg hr
    exact ⟨hf.trans (fr_grown hg) (fun x hx => .inr (hr x (by simpa using hx)).1), (hg.block _ (lt_of_block h1) (fun e => by have := (hr _ e.symm).1; omega)).trans h1, h2⟩
  case hJ2 =>
    rintro k E E' row ⟨hf, h1, h2⟩ hg hr
    exact ⟨hf.trans (fr_grown hg) (fun x hx => .inr (hr x (by simpa using hx)).1), (hg.block _ (lt_of_block h1) (fun e => by have := (hr _ e.symm).1; omega)).trans h1, h2⟩
  case h02 => exact ⟨Fr.refl _ _, Xk.out, trivial⟩
  case hx2 =>
    rintro W' ⟨hf, h1, h2⟩
    exact ⟨hf, h1, by have := HQ1.out; omega⟩
  case' round2 =>
    rintro l k v p W' hl hp hrow hlets hI
    have hkl : k < A.length := (List.getElem?_eq_some_iff.1 hp).1
    have hk2 : (k : Int) ≤ 2000 := by have := HAL.out; omega
    have hkq : (k : Int) < (q : Int) := by have := HQ1.out; omega
    have hkn : k < q := by omega
    have e6 : decide ((q : Int) ≤ (k : Int)) = false := by simp; omega
    have HP2 := Lib.hid hp
    clear hp hrow hI hlets
    gi_wp2
    refine ⟨trivial, ?_⟩
    rintro W2 hrow hlets ⟨hf, h1, hkm⟩
    have HF2 := Lib.hid hf
    have HC1 := Lib.hid h1
    have HL2 := Lib.hid hlets
    have HKM := Lib.hid hkm
    obtain ⟨S, hS⟩ : ∃ S, S = strB p := ⟨_, rfl⟩
    have hcv : ∀ n, (convert 26 9 v).run Try.prog (W2.drewN n) = .ok (.string S) (W2.drewN n) := fun n => by
      rw [hS]
      exact row_str (RowV.grown hrow ((fr_drewN W2 n []).below (fun x hx => by cases hx) (Nat.le_refl _)))
    have hrv := hf.row Rv.out (fun g hg hm => row_ne Rv.out Xk.out (by decide) g hg (List.mem_singleton.1 hm))
    obtain ⟨g, rfl, hgl, hce⟩ := RowV.elem hrv k (.string S) (by rw [List.getElem?_map, HP2.out, hS]; rfl)
    have c1 : W2.cell? ⟨W4.heap.size, 0, none⟩ = some (.int .i64 (k : Nat)) := cells_cell h1 rfl
    have z1 : W2.frozen? ⟨W4.heap.size, 0, none⟩ = false := cells_free h1 _
    have l1 : W4.heap.size < W2.heap.size := lt_of_block h1
    have ct : W2.cell? ⟨V1.heap.size, 0, none⟩ = some (.int .i64 1) := cells_cell (hf.same Xt.out (by simp only [List.mem_singleton]; omega)) rfl
    have cm : W2.cell? ⟨w.heap.size, 0, none⟩ = some (.int .i64 n1) := cells_cell (hf.same Xmany.out (by simp only [List.mem_singleton]; omega)) rfl
    have cv : W2.cell? ⟨w2.heap.size, 0, none⟩ = some (.slice (some ⟨g, 0, none⟩) q y2) := cells_cell (hf.same Xv.out (by simp only [List.mem_singleton]; exact ne_types Xv.out Xk.out (by decide))) rfl
    have lt2 := World.block_lt_of_cell? W2 _ ct
    have lm2 := World.block_lt_of_cell? W2 _ cm
    have lv2 := World.block_lt_of_cell? W2 _ cv
    have hbs := beq_selfB S
    have hbn : (S != S) = false := by simp [bne, hbs]
    clear hrow hlets hf h1 hkm hrv hS
    gi_wp2
    refine wpIn_region_quiet_round (F := Fence.wide) rfl (by kernel_rfl) (by kernel_rfl) (by kernel_rfl) ?_
    repeat (quiet_step_in (fail))
    refine wpQuietIn_nil ?_
    intro _ hw'
    obtain ⟨nq, hw''⟩ := hw'
    subst hw''
    have hf0 : Fr [W4.heap.size] W2 (W2.drewN nq) := fr_drewN W2 nq _
    have kf0 : KeepsFrom W5.heap.size W2 (W2.drewN nq) := keepsFrom_fr (F := []) (fr_drewN W2 nq _) (fun x hx => by cases hx)
    have d1 : (W2.drewN nq).heap[W4.heap.size]? = some (.cells #[.int .i64 (k : Nat)] 3 (0, 0)) := HC1.out
    have c1' : (W2.drewN nq).cell? ⟨W4.heap.size, 0, none⟩ = some (.int .i64 (k : Nat)) := c1
    have z1' : (W2.drewN nq).frozen? ⟨W4.heap.size, 0, none⟩ = false := z1
    have l1' : W4.heap.size < (W2.drewN nq).heap.size := l1
    have ct' : (W2.drewN nq).cell? ⟨V1.heap.size, 0, none⟩ = some (.int .i64 1) := ct
    have cm' : (W2.drewN nq).cell? ⟨w.heap.size, 0, none⟩ = some (.int .i64 n1) := cm
    have lt2' := World.block_lt_of_cell? _ _ ct'
    have lm2' := World.block_lt_of_cell? _ _ cm'
    have n1' : ¬ V1.heap.size = W4.heap.size := by omega
    have n2' : ¬ w.heap.size = W4.heap.size := by omega
    clear c1 z1 l1 ct cm cv lt2 lm2 lv2 hce hgl hcv
    generalize W2.drewN nq = W3 at *
    have HD1 := Lib.hid d1
    have HFN := Lib.hid (HF2.out.trans' hf0)
    have HKF := Lib.hid kf0
    have HF0 := Lib.hid hf0
    clear d1 hf0 kf0
    simp only [Exit.then]
    go_at_K
    gi_wp2
    have hfr := fr_setCell W3 ⟨W4.heap.size, 0, none⟩ (.int .i64 ((k : Int) + 1))
    have hkc : (W3.setCell ⟨W4.heap.size, 0, none⟩ (.int .i64 ((k : Int) + 1))).heap[W4.heap.size]? = some (.cells #[.int .i64 ((k + 1 : Nat) : Int)] 3 (0, 0)) := by have := cells_set HD1.out 0 (.int .i64 ((k : Int) + 1)); simpa using this
    have hkk := HKF.out.trans ((KeepsOthers.setCell W3 ⟨W4.heap.size, 0, none⟩ (.int .i64 ((k : Int) + 1))).from _)
    exact ⟨hkk, Lets.of_fr (HF0.out.trans' hfr) HL2.out.size, HFN.out.trans' hfr, hkc⟩
  rintro D2 kq2 V2 hD2 hkA2 ⟨hf, h1, hkx2⟩ hK2
  have HSQ2 := Lib.hid (HS2.out.fr0 hf)
  have hDs2 : Hid (w.heap.size + 1 < D2) := Lib.hid (Nat.lt_of_lt_of_le (lt_of_block Xres.out) hD2)
  have l12 : Hid (D1 < D2) := Lib.hid (by have := HBk2.out.size; omega)
  have Ymany : Hid (V2.heap[w.heap.size]? = some (.cells #[.int .i64 n1] 3 (0, 0))) := Lib.hid (hf.same ((HC.out.block _ (lt_of_block Xmany.out)).trans Xmany.out) (by simp only [List.mem_singleton]; exact (by omega)))
  have Yres : Hid (V2.heap[w.heap.size + 1]? = some (.cells #[.bool false] 4 (0, 0))) := Lib.hid (hf.same ((HC.out.block _ (lt_of_block Xres.out)).trans Xres.out) (by simp only [List.mem_singleton]; exact ne_types Xres.out Xk.out (by decide)))
  have Yr : Hid (V2.heap[w1.heap.size]? = some (.cells #[.slice xr0 xr1 xr2, .slice xr3 xr4 xr5] 29 (0, 0))) := Lib.hid (hf.same ((HC.out.block _ (lt_of_block Xr.out)).trans Xr.out) (by simp only [List.mem_singleton]; exact ne_types Xr.out Xk.out (by decide)))
  have Yv : Hid (V2.heap[w2.heap.size]? = some (.cells #[.slice y0 q y2] 34 (0, 0))) := Lib.hid (hf.same ((HC.out.block _ (lt_of_block Xv.out)).trans Xv.out) (by simp only [List.mem_singleton]; exact ne_types Xv.out Xk.out (by decide)))
  have Yt : Hid (V2.heap[V1.heap.size]? = some (.cells #[.int .i64 1] 3 (0, 0))) := Lib.hid (hf.same ((HC.out.block _ (lt_of_block Xt.out)).trans Xt.out) (by simp only [List.mem_singleton]; exact (by omega)))
  have SRv : Hid (RowS V2 0 (.slice y0 q y2) (A)) := Lib.hid (hf.row (RowV.grown (Rv.out) HC.out) (fun g hg hm => row_ne (RowV.grown (Rv.out) HC.out) Xk.out (by decide) g hg (List.mem_singleton.1 hm)))
  have SK1 : Hid (V2.heap[D1]? = some (.deferred (some []))) := Lib.hid ((hf.same (((HC.out.block _ (lt_of_block (K1.out))).trans (K1.out))) (by simp only [List.mem_singleton]; omega)))
  have HTn : Hid (Below w.heap.size w V2) := Lib.hid ((HT.out.trans (HC.out.mono HT.out.size)).trans (hf.below (fun x hx => by simp only [List.mem_singleton] at hx; subst hx; have := o7.out; omega) (HT.out.trans (HC.out.mono HT.out.size)).size))
  clear HC HT Xmany Xres Xr Xv Xt Xk Rv K1
  have Xmany := Ymany
  have Xres := Yres
  have Xr := Yr
  have Xv := Yv
  have Xt := Yt
  have Xk : Hid (V2.heap[W4.heap.size]? = some (.cells #[.int .i64 (kq2 : Nat)] 3 (0, 0))) := Lib.hid h1
  have Rv := SRv
  have K1 := SK1
  have HT := HTn
  clear HTn Ymany Yres Yr Yv Yt SRv SK1
  have HC : Hid (Below V2.heap.size V2 V2) := Lib.hid (Below.refl _ _)
  have K2 := Lib.hid hK2
  clear hf h1 hK2 HS2 hD2
  simp only [Exit.then]
  go_at_K
  have hkx2' := hkx2.symm
  subst hkx2'
  have kt0V2 : V2.cell? ⟨V1.heap.size, 0, none⟩ = some (.int .i64 1) := cells_cell ((HC.out.block _ (lt_of_block Xt.out)).trans Xt.out) rfl
  have zt0V2 : V2.frozen? ⟨V1.heap.size, 0, none⟩ = false := cells_free ((HC.out.block _ (lt_of_block Xt.out)).trans Xt.out) _
  have ltV2 : V1.heap.size < V2.heap.size := lt_of_block ((HC.out.block _ (lt_of_block Xt.out)).trans Xt.out)
  have kk0V2 : V2.cell? ⟨W4.heap.size, 0, none⟩ = some (.int .i64 (q : Nat)) := cells_cell ((HC.out.block _ (lt_of_block Xk.out)).trans Xk.out) rfl
  have zk0V2 : V2.frozen? ⟨W4.heap.size, 0, none⟩ = false := cells_free ((HC.out.block _ (lt_of_block Xk.out)).trans Xk.out) _
  have lkV2 : W4.heap.size < V2.heap.size := lt_of_block ((HC.out.block _ (lt_of_block Xk.out)).trans Xk.out)
  have kv0V2 : V2.cell? ⟨w2.heap.size, 0, none⟩ = some (.slice y0 q y2) := cells_cell ((HC.out.block _ (lt_of_block Xv.out)).trans Xv.out) rfl
  have zv0V2 : V2.frozen? ⟨w2.heap.size, 0, none⟩ = false := cells_free ((HC.out.block _ (lt_of_block Xv.out)).trans Xv.out) _
  have lvV2 : w2.heap.size < V2.heap.size := lt_of_block ((HC.out.block _ (lt_of_block Xv.out)).trans Xv.out)
  have kmany0V2 : V2.cell? ⟨w.heap.size, 0, none⟩ = some (.int .i64 n1) := cells_cell ((HC.out.block _ (lt_of_block Xmany.out)).trans Xmany.out) rfl
  have zmany0V2 : V2.frozen? ⟨w.heap.size, 0, none⟩ = false := cells_free ((HC.out.block _ (lt_of_block Xmany.out)).trans Xmany.out) _
  have lmanyV2 : w.heap.size < V2.heap.size := lt_of_block ((HC.out.block _ (lt_of_block Xmany.out)).trans Xmany.out)
  go_wp2_with fail
  clear Xt Xk
  obtain ⟨W6, hW6⟩ : ∃ x, x = (V2.alloc (.cells #[.int .i64 2] 3)) := ⟨_, rfl⟩
  have HBn : Below V2.heap.size V2 W6 := by rw [hW6]; exact below_alloc _ _
  have HBB : Hid (Below V2.heap.size V2 W6) := Lib.hid (HC.out.trans (HBn.mono HC.out.size))
  have Ymany : Hid (W6.heap[w.heap.size]? = some (.cells #[.int .i64 n1] 3 (0, 0))) := Lib.hid ((HBB.out.block _ (lt_of_block Xmany.out)).trans Xmany.out)
  have Yres : Hid (W6.heap[w.heap.size + 1]? = some (.cells #[.bool false] 4 (0, 0))) := Lib.hid ((HBB.out.block _ (lt_of_block Xres.out)).trans Xres.out)
  have Yr : Hid (W6.heap[w1.heap.size]? = some (.cells #[.slice xr0 xr1 xr2, .slice xr3 xr4 xr5] 29 (0, 0))) := Lib.hid ((HBB.out.block _ (lt_of_block Xr.out)).trans Xr.out)
  have Yv : Hid (W6.heap[w2.heap.size]? = some (.cells #[.slice y0 q y2] 34 (0, 0))) := Lib.hid ((HBB.out.block _ (lt_of_block Xv.out)).trans Xv.out)
  have SRv : Hid (RowS W6 0 (.slice y0 q y2) (A)) := Lib.hid (RowV.grown (Rv.out) HBB.out)
  have SK1 : Hid (W6.heap[D1]? = some (.deferred (some []))) := Lib.hid (((HBB.out.block _ (lt_of_block (K1.out))).trans (K1.out)))
  have SK2 : Hid (W6.heap[D2]? = some (.deferred (some []))) := Lib.hid (((HBB.out.block _ (lt_of_block (K2.out))).trans (K2.out)))
  have Yt : Hid (W6.heap[V2.heap.size]? = some (.cells #[.int .i64 2] 3 (0, 0))) := Lib.hid (by rw [hW6]; exact heap_alloc_new _ _)
  have HTn : Hid (Below w.heap.size w W6) := Lib.hid (HT.out.trans (HBB.out.mono HT.out.size))
  rw [← hW6]
  clear hW6 HC HT HBn HBB Xmany Xres Xr Xv Rv K1 K2
  have Xmany := Ymany
  have Xres := Yres
  have Xr := Yr
  have Xv := Yv
  have Xt := Yt
  have Rv := SRv
  have K1 := SK1
  have K2 := SK2
  have HT := HTn
  clear HTn Ymany Yres Yr Yv Yt SRv SK1 SK2
  have HC : Hid (Below W6.heap.size W6 W6) := Lib.hid (Below.refl _ _)
  rw [rounds_succ]
  have kt0W6 : W6.cell? ⟨V2.heap.size, 0, none⟩ = some (.int .i64 2) := cells_cell ((HC.out.block _ (lt_of_block Xt.out)).trans Xt.out) rfl
  have zt0W6 : W6.frozen? ⟨V2.heap.size, 0, none⟩ = false := cells_free ((HC.out.block _ (lt_of_block Xt.out)).trans Xt.out) _
  have ltW6 : V2.heap.size < W6.heap.size := lt_of_block ((HC.out.block _ (lt_of_block Xt.out)).trans Xt.out)
  go_wp2_with (go_at_call 9; fail)
  refine (known_any _).mono ?_
  rintro e w4 ⟨rfl, hb⟩
  have HC2 : Hid (Below W6.heap.size W6 w4) := Lib.hid (HC.out.trans ((hb).mono HC.out.size))
  clear HC
  have HC := HC2
  clear HC2
  clear hb
  have kres0w4 : w4.cell? ⟨w.heap.size + 1, 0, none⟩ = some (.bool false) := cells_cell ((HC.out.block _ (lt_of_block Xres.out)).trans Xres.out) rfl
  have zres0w4 : w4.frozen? ⟨w.heap.size + 1, 0, none⟩ = false := cells_free ((HC.out.block _ (lt_of_block Xres.out)).trans Xres.out) _
  have lresw4 : w.heap.size + 1 < w4.heap.size := lt_of_block ((HC.out.block _ (lt_of_block Xres.out)).trans Xres.out)
  go_wp2_with fail
  have HTF : Below w.heap.size w (w4.setCell ⟨w.heap.size + 1, 0, none⟩ (.bool true)) := ((HT.out.trans (HC.out.mono HT.out.size))).trans ((Below.refl _ _).setCell (p := ⟨w.heap.size + 1, 0, none⟩) (by simp) _)
  have ht0 : (w4.setCell ⟨w.heap.size + 1, 0, none⟩ (.bool true)).heap[w.heap.size + 1]? = some (.cells #[.bool true] 4 (0, 0)) := by have := cells_set ((HC.out.block _ (lt_of_block Xres.out)).trans Xres.out) 0 (.bool true); simpa using this
  have kd2 := (fr_setCell w4 ⟨w.heap.size + 1, 0, none⟩ (.bool true)).same ((HC.out.block _ (lt_of_block K2.out)).trans K2.out) (by simp only [List.mem_singleton]; have := hDs2.out; omega)
  have kd1 := (fr_setCell w4 ⟨w.heap.size + 1, 0, none⟩ (.bool true)).same ((HC.out.block _ (lt_of_block K1.out)).trans K1.out) (by simp only [List.mem_singleton]; have := hDs1.out; omega)
  generalize w4.setCell ⟨w.heap.size + 1, 0, none⟩ (.bool true) = WF at *
  refine ⟨by simp, .inl ⟨_, _, rfl, run_takeDeferred kd2, ?_⟩⟩
  have ht1 : (WF.putObj D2 (.deferred none)).heap[w.heap.size + 1]? = some (.cells #[.bool true] 4 (0, 0)) := (World.putObj_heap_other (by have := hDs2.out; omega)).trans ht0
  replace kd1 : (WF.putObj D2 (.deferred none)).heap[D1]? = some (.deferred (some [])) := (World.putObj_heap_other (by have := l12.out; omega)).trans kd1
  replace HTF : Below w.heap.size w (WF.putObj D2 (.deferred none)) := HTF.trans (belowK_b (w := w) (Nat.le_refl _) _ D2 _ _ (by have := hDs2.out; omega) kd2 rfl rfl)
  refine ⟨by simp, .inl ⟨_, _, rfl, run_takeDeferred kd1, ?_⟩⟩
  have ht2 : ((WF.putObj D2 (.deferred none)).putObj D1 (.deferred none)).heap[w.heap.size + 1]? = some (.cells #[.bool true] 4 (0, 0)) := (World.putObj_heap_other (by have := hDs1.out; omega)).trans ht1
  replace HTF : Below w.heap.size w ((WF.putObj D2 (.deferred none)).putObj D1 (.deferred none)) := HTF.trans (belowK_b (w := w) (Nat.le_refl _) _ D1 _ _ (by have := hDs1.out; omega) kd1 rfl rfl)
  exact ⟨.bool true, by simp [results, Try.results4, go_sem, cells_cell ht2 (o := 0) rfl], rfl, HTF⟩

theorem ropeParts_walk (a : Option Addr) (len cap : Nat) (n1 : Int) (w : World) (h : StrsIn w a len cap) (hw1 : (Lit.int .i64 n1).wf = true) :
    Calls Try.prog 4 #[.slice a len cap, .int .i64 n1] w fun e w' => e = .returned (.bool true) ∧ Below w.heap.size w w' := by
  obtain ⟨Ss, _, h1⟩ := h
  exact ropeParts_walk0 h1
end Go.Proofs.Ytkdbkamjaaehfaa
