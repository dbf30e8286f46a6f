/- Parts: the iterator, and a range over it. -/
import Derived.Test.YtkdbkamjaaehfaaCJoin
import Derived.RangeFuncBox
import Derived.RangeFuncLeaves
import Derived.RangeFuncNested
import Derived.Shelf.Abstract
import Derived.OwnWalkIn
import Derived.TacticsInMore
import Derived.LoopNIn
import Derived.LoopIn
namespace Go.Proofs.Ytkdbkamjaaehfaa
open Go.RowKit Go.Sort Go.Shelf
set_option linter.unusedVariables false
set_option linter.unusedSimpArgs false
attribute [local go_sem] Oper.semAt_some

/-- The iterator over the parts of the rope in block B. -/
def seqV (B : Nat) : Value := .func (.func 28) #[] #[.pointer (some ⟨B, 0, none⟩)]
/-- Below n0, only the blocks of F have changed. -/
structure Lets (F : List Nat) (n0 : Nat) (w w' : World) : Prop where
  size : w.heap.size ≤ w'.heap.size
  block : ∀ k, k < n0 → k ∉ F → w'.heap[k]? = w.heap[k]?
theorem Lets.refl (F : List Nat) (n0 : Nat) (w : World) : Lets F n0 w w := ⟨Nat.le_refl _, fun _ _ _ => rfl⟩
theorem Lets.trans {F : List Nat} {n0 : Nat} {a b c : World} (h : Lets F n0 a b) (k : Lets F n0 b c) : Lets F n0 a c := ⟨Nat.le_trans h.size k.size, fun x hx hn => (k.block x hx hn).trans (h.block x hx hn)⟩
theorem Lets.of_below {F : List Nat} {n n0 : Nat} {w w' : World} (h : Below n w w') (hn : n0 ≤ n) : Lets F n0 w w' := ⟨h.size, fun k hk _ => h.block k (by omega)⟩
theorem Lets.of_fr {F : List Nat} {n0 : Nat} {w w' : World} (h : Fr F w w') (hn : n0 ≤ w.heap.size) : Lets F n0 w w' := ⟨h.size, fun k hk hF => h.block k (by omega) hF⟩
/-- Block B holds a rope; none of it lies in a block of F. -/
structure SeqAt (w : World) (F : List Nat) (B : Nat) (Ps : Parts) : Prop where
  lt : B < w.heap.size
  nB : B ∉ F
  ex : ∃ v u, w.heap[B]? = some (.cells #[v, u] 29 (0, 0)) ∧ RopeAt w 0 (.agg #[v, u]) Ps ∧ (∀ g, v.ownBlock = some g → g ∉ F) ∧ (∀ g, u.ownBlock = some g → g ∉ F)

set_option maxHeartbeats 400000 in
theorem parts_any {w : World} {b : Nat} {v : Value} {Ps : Parts} (R : RopeAt w b v Ps) (F : List Nat) (hF1 : ∀ x ∈ F, x < w.heap.size) (hF2 : ∀ x u, v = .agg #[x, u] → (∀ g, x.ownBlock = some g → g ∉ F) ∧ (∀ g, u.ownBlock = some g → g ∉ F)) :
    Calls Try.prog 15 #[v] w fun e w' => ∃ B, e = .returned (seqV B) ∧ SeqAt w' F B Ps ∧ Below w.heap.size w w' := by
  obtain ⟨x1, x2, x3, x4, x5, x6, rfl⟩ := R.shape
  have HR := Lib.hid R
  have HF1 := Lib.hid hF1
  have HF2 := Lib.hid (hF2 _ _ rfl)
  clear R hF1 hF2
  go_enter Try.func15, Try.ntmps15
  go_wp2_with fail
  go_ret
  exact ⟨w.heap.size, rfl, ⟨by simp, fun h => Nat.lt_irrefl _ (HF1.out _ h), _, _, heap_alloc_new w _, (HR.out.grown (below_alloc _ _)).lower (Nat.zero_le _), HF2.out.1, HF2.out.2⟩, below_alloc _ _⟩
/-- A law's own rope: what was made before a block has no part of it there. -/
theorem RopeAt.not_in {w : World} {b : Nat} {v : Value} {Ps : Parts} (R : RopeAt w b v Ps) (F : List Nat) (hF : ∀ x ∈ F, w.heap.size ≤ x ∨ x < b) : ∀ x u, v = .agg #[x, u] → (∀ g, x.ownBlock = some g → g ∉ F) ∧ (∀ g, u.ownBlock = some g → g ∉ F) := by
  obtain ⟨vd, ve, rfl, h1, h2⟩ := R.ex
  intro x u he
  simp only [Value.agg.injEq, Array.mk.injEq, List.cons.injEq, and_true] at he
  obtain ⟨rfl, rfl⟩ := he
  refine ⟨fun g hg hm => ?_, fun g hg hm => ?_⟩
  · have := h1.lt g hg; have := hF g hm; omega
  · have := h2.lt g hg; have := hF g hm; omega

/-- A slice reads as it did where its block does. -/
theorem SrcV.sameAt {w w' : World} {v : Value} {xs : List Value} (h : SrcV w v xs) (hs : ∀ a n c, v = .slice (some a) n c → w'.heap[a.block]? = w.heap[a.block]?) : SrcV w' v xs := by
  rcases h with h | ⟨ad, c, h1, h2, h3, h4, h5⟩
  · exact .inl h
  · exact .inr ⟨ad, c, h1, h2, h3, fun j u hu => (World.cell?_of_block (by have := hs ad _ _ h1; unfold Addr.add; split <;> exact this)).trans (h4 j u hu), h5⟩
/-- What is handed to a round: the bytes of a part. -/
theorem part_flat {Ps : Parts} (k : Nat) (h : k < Ps.length) : (Ps.flatten.drop (Ps.take k).flatten.length).take ((Ps.take (k + 1)).flatten.length - (Ps.take k).flatten.length) = Ps[k] := by
  conv => lhs; arg 2; arg 2; rw [← List.take_append_drop k Ps, List.flatten_append]
  rw [List.drop_left, flat_take_succ Ps k h, List.length_append, Nat.add_sub_cancel_left, List.drop_eq_getElem_cons h, List.flatten_cons, List.take_left]

set_option maxRecDepth 100000 in
set_option maxHeartbeats 2000000 in
theorem it_in (F : Fence) (n : Nat) (h7 : F.fn 28) (h8 : F = Fence.wide) (hro : F.round = none) (hn : 1 ≤ n) (l B n0 : Nat) (Fs : List Nat) (Ps : Parts) (w0 : World) (hS : SeqAt w0 Fs B Ps) (hn0 : n0 = w0.heap.size) (J Jx : Nat → World → Prop)
    (hJ : ∀ k A B, J k A → Below A.heap.size A B → J k B)
    (hY : ∀ k v W p, J k W → Ps[k]? = some p → RowB W n0 v p → Lets Fs n0 w0 W → YieldAt F (n - 1) Try.prog l #[v] W fun e W' =>
      (e = .returned (.bool true) ∧ J (k + 1) W' ∧ Lets Fs n0 W W') ∨ (e = .returned (.bool false) ∧ Jx (k + 1) W'))
    (W : World) (hW : Lets Fs n0 w0 W) (h0 : J 0 W) :
    CallsIn F n Try.prog 28 #[.func (.yield l) #[] #[], .pointer (some ⟨B, 0, none⟩)] W fun e W' => (∃ v, e = .returned v) ∧ (J Ps.length W' ∨ ∃ k, k ≤ Ps.length ∧ Jx k W') := by
  subst h8
  have t1 : Fence.wide.fn 29 := trivial
  obtain ⟨vd0, ve0, hB0, R0, hnd, hne0⟩ := hS.ex
  obtain ⟨vd, ve, hf0, hd, he⟩ := R0.ex
  simp only [Value.agg.injEq, List.size_toArray, Array.mk.injEq, List.cons.injEq, and_true] at hf0
  obtain ⟨rfl, rfl⟩ := hf0
  have hsz := R0.size
  have hln := R0.len
  have hne := R0.ne
  obtain ⟨da, dc, hf, hd1, hd2⟩ := hd.form
  obtain ⟨ea, ec, hf2, he1, he2⟩ := he.form
  obtain ⟨fl, hfl⟩ : ∃ fl, fl = Ps.flatten.length := ⟨_, rfl⟩
  obtain ⟨N, hN⟩ : ∃ N, N = Ps.length := ⟨_, rfl⟩
  rw [← hfl] at hf hd1 hsz
  rw [ends_length, ← hN] at hf2 he1
  subst hf hf2
  have HD := Lib.hid hd
  have HE := Lib.hid he
  have HFL := Lib.hid hfl
  have HNE := Lib.hid hN
  have HLN := Lib.hid hln
  have HPE := Lib.hid hne
  have HS := Lib.hid hS
  have HB0 := Lib.hid hB0
  have HW := Lib.hid hW
  have HN0 := Lib.hid hn0
  have HND := Lib.hid hnd
  have HNU := Lib.hid hne0
  have HJ := Lib.hid hJ
  have HY := Lib.hid hY
  have H0 := Lib.hid h0
  obtain ⟨T, hT⟩ : ∃ T : Nat → Nat, ∀ k, T k = (Ps.take k).flatten.length := ⟨fun k => (Ps.take k).flatten.length, fun _ => rfl⟩
  have HT := Lib.hid hT
  have HT0 : Hid (T 0 = 0) := Lib.hid (by rw [hT]; simp)
  have b3 : (fl : Int) ≤ 65536 := by omega
  have b4 : (fl : Int) ≤ (dc : Int) := by omega
  have b5 : (N : Int) ≤ 1024 := by omega
  have b6 : (dc : Int) ≤ 9223372036854775807 := by unfold maxLen at hd2; omega
  have hBl : B < W.heap.size := by have := hS.lt; have := hW.size; omega
  have hce : ∀ W', Lets Fs n0 w0 W' → W'.cell? ⟨B, 0, none⟩ = some (.slice da fl dc) ∧ W'.cell? ⟨B, 1, none⟩ = some (.slice ea N ec) := fun W' hb =>
    ⟨cells_cell ((hb.block B (by rw [HN0.out]; exact HS.out.lt) HS.out.nB).trans HB0.out) rfl, cells_cell ((hb.block B (by rw [HN0.out]; exact HS.out.lt) HS.out.nB).trans HB0.out) rfl⟩
  have HCE := Lib.hid hce
  have c1 := (hce W hW).2
  clear hd he R0 hT hfl hN hln hd1 hne hS hB0 hW hn0 hJ hY h0 hce hnd hne0
  refine callsIn_of_wp Try.func28 rfl h7 ?_ hro
  simp only [Try.ntmps28, List.size_toArray, List.length_cons, List.length_nil, Nat.reduceAdd, Nat.reduceSub, Array.replicate_succ, Array.replicate_zero, List.push_toArray, List.append_toArray, List.nil_append, List.cons_append]
  gi_wp2
  gi_loopw [3, 9] (fun st i wr => ∃ k : Nat, k ≤ N ∧ st = .int .i64 ((T k : Nat) : Int) ∧ i = .int .i64 (k : Nat) ∧ Hid (J k wr) ∧ Hid (Lets Fs n0 w0 wr))
    (fun _ i _ => N - (intOf i).toNat)
  case atStart => exact ⟨0, Nat.zero_le _, by rw [HT0.out]; rfl, rfl, H0, HW⟩
  case round =>
    obtain ⟨k, hk, rfl, rfl, hJs, hnx⟩ := hrel
    by_cases hlt : k < N
    · have hltP : k < Ps.length := by rw [← HNE.out]; exact hlt
      have hge := ends_get 0 Ps k hltP
      rw [Nat.zero_add, ← HT.out] at hge
      obtain ⟨g, rfl, hgl, hge2⟩ := HE.out.at k _ hge
      have hcg : wr.cell? ⟨g, k, none⟩ = some (.int .i64 ((T (k + 1) : Nat) : Int)) := (World.cell?_of_block (a := ⟨g, k, none⟩) (hnx.out.block g (by rw [HN0.out]; exact hgl) (HNU.out g rfl))).trans hge2
      have hT1 : T k < T (k + 1) := by
        rw [HT.out, HT.out, flat_take_succ Ps k hltP, List.length_append]
        have := HPE.out _ (List.getElem_mem hltP)
        have : 0 < (Ps[k]).length := List.length_pos_iff.2 this
        omega
      have hT2 : T (k + 1) ≤ fl := by rw [HT.out, HFL.out]; exact flat_le _ _
      obtain ⟨gd, hgd, hgdl⟩ : ∃ g, da = some ⟨g, 0, none⟩ ∧ g < w0.heap.size := by
        rcases HD.out.2 with ⟨h, _⟩ | ⟨g, cap, cu, h, _, hh, _⟩
        · simp only [Value.slice.injEq] at h
          omega
        · simp only [Value.slice.injEq] at h
          exact ⟨g, h.1, lt_of_block hh⟩
      subst hgd
      have c0 := (HCE.out wr hnx.out).1
      have c1 := (HCE.out wr hnx.out).2
      have hsrc : SrcV wr (.slice (some ⟨gd, T k, none⟩) (T (k + 1) - T k) (dc - T k)) ((Ps[k]).map encB) := by
        have h1 := row_part (HD.out) (T k) (T (k + 1)) (by omega) (by rw [← HFL.out]; exact hT2) (.slice (some ⟨gd, T k, none⟩) (T (k + 1) - T k) (dc - T k)) (.inl ⟨gd, rfl, by omega, rfl⟩)
        rw [HT.out k, HT.out (k + 1), part_flat k hltP] at h1
        rw [HT.out k, HT.out (k + 1)]
        exact h1.sameAt (fun a' n' c' hv => by
          simp only [Value.slice.injEq, Option.some.injEq] at hv
          obtain ⟨rfl, _, _⟩ := hv
          exact hnx.out.block gd (by rw [HN0.out]; exact hgdl) (HND.out gd rfl))
      have hcl := Lib.hid (clone_any hsrc (by
        have := HFL.out
        have h1 := part_flat k hltP
        rw [← h1, List.length_take, List.length_drop]; omega))
      have hp := Lib.hid (List.getElem?_eq_getElem hltP)
      generalize Ps[k] = p at *
      have q1 : ((T k : Nat) : Int) < ((T (k + 1) : Nat) : Int) := by omega
      have q2 : ((T (k + 1) : Nat) : Int) ≤ (fl : Int) := by omega
      have q3 : (k : Int) < (N : Int) := by omega
      have hgdw : gd < wr.heap.size := by have := hnx.out.size; omega
      have hgw : g < wr.heap.size := by have := hnx.out.size; omega
      have hBw : B < wr.heap.size := by have := hnx.out.size; have := HS.out.lt; omega
      clear hge hge2 hsrc hgl hgdl hT1 hT2
      generalize hA : T k = sa at *
      generalize hZ : T (k + 1) = sz at *
      have HZ := Lib.hid hZ
      clear hA hZ
      gi_wp2_with (gi_at_call 29; refine (callsIn_wide.2 hcl.out).mono ?_; rintro e w2 ⟨v2, rfl, ho2, hb2⟩; obtain ⟨fn, tmps, assign, body, hy, hR⟩ := HY.out k v2 w2 p (HJ.out _ _ _ hJs.out hb2) hp.out (RowV.lower ho2 (by have := hnx.out.size; have := HN0.out; omega)) (hnx.out.trans (Lets.of_below hb2 (by have := hnx.out.size; have := HN0.out; omega))))
      refine hR.mono ?_
      rintro e W3 (⟨rfl, hJ3, hk3⟩ | ⟨rfl, hJx3⟩)
      · gi_wp2
        go_roundw
        case rel => exact ⟨k + 1, by omega, by rw [HZ.out], by go_num, Lib.hid hJ3, Lib.hid ((hnx.out.trans (Lets.of_below hb2 (by have := hnx.out.size; have := HN0.out; omega))).trans hk3)⟩
        case measure => simp [intOf]; omega
      · gi_wp2
        refine bodyPost_ret (results_none rfl _ _ _) rfl ?_
        exact ⟨⟨_, rfl⟩, .inr ⟨k + 1, by have := HNE.out; omega, hJx3⟩⟩
    · obtain rfl : k = N := by omega
      gi_wp2
      go_end0
      exact ⟨⟨_, rfl⟩, .inl (by rw [← HNE.out]; exact hJs.out)⟩

/-- How the body of a round over the parts may be left. -/
def roundK (Fs : List Nat) (B : Nat) (I : Nat → World → Prop) (Ix : Code → Nat → World → Prop) (k : Nat) (W : World) : Exit → Act → World → Prop
  | .normal, _, W' => KeepsFrom B W W' ∧ Lets Fs B W W' ∧ I k W'
  | .ret, _, W' => KeepsFrom B W W' ∧ Ix .ret k W'
  | .exit id, _, W' => KeepsFrom B W W' ∧ Ix (.exit id) k W'
  | .goto t, _, W' => KeepsFrom B W W' ∧ Ix (.goto t) k W'
  | .panic _, _, _ => False
  | .outgrown, _, _ => False

theorem grownBy_of_below {A B : World} (h : Below A.heap.size A B) : A.grownBy B none := ⟨h.os, h.tape, h.output, h.size, fun k hk _ => h.block k hk⟩

/-- A range over the parts of a rope. -/
theorem range_parts {n : Nat} {g : Operand} {ps : Array Tmp} {assign body : Code} {Q : Exit → Act → World → Prop} {a : Act} {w : World} {B : Nat} {Fs : List Nat} {Ps : Parts}
    (h1 : 3 ≤ n) (hg : a.eval g = seqV B) (hS : SeqAt w Fs B Ps) (hps : ps.size = 1)
    (I : Nat → World → Prop) (Ix : Code → Nat → World → Prop) (hI : OwnFrom w.heap.size I) (hIx : ∀ c, OwnFrom w.heap.size (Ix c)) (h0 : I 0 w)
    (hround : ∀ (l k : Nat) (v : Value) (p : List UInt8) (W : World), w.heap.size ≤ l → Ps[k]? = some p → RowB W w.heap.size v p → Lets Fs w.heap.size w W → I k W →
      assign.wpIn (Fence.wide.inRound l) (n - 1 - 1) Try.prog (Exit.then (fun a' W' => W' = W ∧ ∀ W2, RowB W2 w.heap.size v p → Lets Fs w.heap.size w W2 → I k W2 → body.wpIn (Fence.wide.inRound l) (n - 1 - 1) Try.prog (roundK Fs w.heap.size I Ix (k + 1) W2) a' W2) (fun _ _ _ => False))
        { tmps := (ps.zip #[v]).foldl (fun t (p, v) => t.setIfInBounds p v) a.tmps, defers := [] } W)
    (hdone : ∀ (D : Nat) (W : World), w.heap.size ≤ D → I Ps.length W → W.heap[D]? = some (.deferred (some [])) → Q .normal { a with defers := { target := .collected D, args := #[] } :: a.defers } W)
    (hstop : ∀ (D : Nat) (c : Code) (k : Nat) (W : World), w.heap.size ≤ D → k ≤ Ps.length → Ix c k W → W.heap[D]? = some (.deferred (some [])) → c.wpIn Fence.wide n Try.prog Q { a with defers := { target := .collected D, args := #[] } :: a.defers } W) :
    (Code.rangeFunc g ps assign body).wpIn Fence.wide n Try.prog Q a w := by
  refine wpIn_rangeFunc ?_
  intro fn hfn
  obtain ⟨rec, hrec⟩ : ∃ rec : LoopState → Option Code → Loop, rec = fun st pe => { state := st, pending := pe, fn, tmps := a.tmps, params := ps, assign, body, defers := w.heap.size } := ⟨_, rfl⟩
  obtain ⟨W1, hW1⟩ : ∃ W1, (w.alloc (.deferred (some []))).alloc (.loop (rec .ready none)) = W1 := ⟨_, rfl⟩
  have hs1 : W1.heap.size = w.heap.size + 2 := by rw [← hW1]; simp
  have hL1 : W1.heap[w.heap.size + 1]? = some (.loop (rec .ready none)) := by
    have := World.alloc_heap_new (w.alloc (.deferred (some []))) (.loop (rec .ready none))
    rw [World.size_alloc] at this
    rwa [← hW1]
  have hb01 : Lets Fs w.heap.size w W1 := by rw [← hW1]; exact Lets.of_below ((below_alloc _ _).trans ((below_alloc _ _).mono (by simp))) (Nat.le_refl _)
  have hK1 : W1.heap[w.heap.size]? = some (.deferred (some [])) := by
    rw [← hW1]; exact (Below.heap_alloc _ _ _ (by simp)).trans (World.alloc_heap_new w _)
  have hI1 : I 0 W1 := by rw [← hW1]; exact hI.alloc _ (hI.alloc _ h0)
  refine ⟨w.heap.size + 1, [{ target := .collected w.heap.size, args := #[] }], W1, { target := .fn (.func 28) #[.pointer (some ⟨B, 0, none⟩)], args := #[.func (.yield (w.heap.size + 1)) #[] #[]] }, W1, 28,
    #[.func (.yield (w.heap.size + 1)) #[] #[], .pointer (some ⟨B, 0, none⟩)], W1, ?_, ?_, ?_, ?_, fun _ => by omega, ?_⟩
  · rw [← hW1, hrec]; exact run_enterLoop_outer _ _ _ _ _
  · simp only [resolve, hg, seqV]
    simp [go_sem]
  · intro f' hf'; trivial
  · have eg := enters_of Try.func28 (by kernel_rfl) rfl
    simp [invoke, go_sem, eg #[.func (.yield (w.heap.size + 1)) #[] #[], .pointer (some ⟨B, 0, none⟩)] W1]
  · have hlo : ∀ {A A' : World}, Below A.heap.size A A' → ∀ (k : Nat) (o : Obj), A.heap[k]? = some o → A'.heap[k]? = some o := fun h k o ho => (h.block k (lt_of_block ho)).trans ho
    refine (it_in Fence.wide (n - 1) trivial rfl rfl (by omega) (w.heap.size + 1) B w.heap.size Fs Ps w hS rfl
      (fun k W => I k W ∧ W.heap[w.heap.size + 1]? = some (.loop (rec .ready none)) ∧ W.heap[w.heap.size]? = some (.deferred (some [])))
      (fun k W => ∃ c, Ix c k W ∧ W.heap[w.heap.size + 1]? = some (.loop (rec .done (some c))) ∧ W.heap[w.heap.size]? = some (.deferred (some [])))
      (fun k A A' h hb => ⟨hI k A A' none h.1 (grownBy_of_below hb) (fun r e => by cases e), hlo hb _ _ h.2.1, hlo hb _ _ h.2.2⟩) ?_ W1 hb01 ⟨hI1, hL1, hK1⟩).mono ?_
    · rintro k v W p ⟨hi, hl, hk⟩ hp hrow hbW
      have hlt : w.heap.size + 1 < W.heap.size := lt_of_block hl
      have hy := run_yield (P := Try.prog) (args := #[v]) hl (by rw [hrec]; simp [hps])
      rw [hrec] at hy
      refine ⟨fn, _, assign, body, hy, roundIn_of_wpIn hfn (wpIn_mono (hround _ k v p W (by omega) hp hrow hbW hi) ?_)⟩
      clear hy
      intro e a' W' hpost
      cases e with
      | normal => ?_
      | _ => exact hpost.elim
      obtain ⟨hWW, hbody⟩ := hpost
      rw [hWW]
      refine ⟨_, run_beginRound hl (by rw [hrec]), ?_⟩
      obtain ⟨rb, hrb⟩ : ∃ rb, rb = ({ rec .ready none with state := .busy } : Loop) := ⟨_, rfl⟩
      rw [← hrb]
      have hl2 : (W.putObj (w.heap.size + 1) (.loop rb)).heap[w.heap.size + 1]? = some (.loop rb) := World.putObj_heap_same hlt
      have hk2 : (W.putObj (w.heap.size + 1) (.loop rb)).heap[w.heap.size]? = some (.deferred (some [])) := (World.putObj_heap_other (by omega)).trans hk
      have hw2 : Lets Fs w.heap.size W (W.putObj (w.heap.size + 1) (.loop rb)) := Lets.of_below (belowK_b (w := w) (Nat.le_refl _) W _ _ _ (by omega) hl rfl rfl) (Nat.le_refl _)
      have hrow2 : RowB (W.putObj (w.heap.size + 1) (.loop rb)) w.heap.size v p := ownsRow_putObj hrow _ hl rfl
      refine wpIn_mono (hbody _ hrow2 (hbW.trans hw2) (hI.putObj _ hi (by omega) hl rfl)) ?_
      have fin : ∀ (jump : Option Code) (W3 : World), KeepsFrom w.heap.size (W.putObj (w.heap.size + 1) (.loop rb)) W3 →
          (Instr.endRound (w.heap.size + 1) jump).run Try.prog W3 = .ok (.bool jump.isNone) (W3.putObj (w.heap.size + 1) (.loop (rec (if jump.isNone then .ready else .done) jump))) ∧
          W3.heap[w.heap.size + 1]? = some (.loop rb) ∧
          (W3.putObj (w.heap.size + 1) (.loop (rec (if jump.isNone then .ready else .done) jump))).heap[w.heap.size + 1]? = some (.loop (rec (if jump.isNone then .ready else .done) jump)) ∧
          (W3.putObj (w.heap.size + 1) (.loop (rec (if jump.isNone then .ready else .done) jump))).heap[w.heap.size]? = some (.deferred (some [])) := fun jump W3 hk3 => by
        have hl3 := hk3.same _ _ (by omega) hl2 rfl
        have hend := run_endRound (P := Try.prog) jump hl3
        refine ⟨?_, hl3, World.putObj_heap_same (lt_of_block hl3), (World.putObj_heap_other (by omega)).trans (hk3.same _ _ (Nat.le_refl _) hk2 rfl)⟩
        rw [hend, hrb, hrec]
      rintro e a3 W3 hp3
      cases e with
      | normal =>
        obtain ⟨hk3, hkp3, hi3⟩ := hp3
        obtain ⟨hr, hl3, hl4, hk4⟩ := fin none W3 hk3
        exact ⟨_, _, hr, .inl ⟨rfl, ⟨hI.putObj _ hi3 (by omega) hl3 rfl, hl4, hk4⟩, (hw2.trans hkp3).trans (Lets.of_below (belowK_b (w := w) (Nat.le_refl _) W3 _ _ _ (by omega) hl3 rfl rfl) (Nat.le_refl _))⟩⟩
      | ret =>
        obtain ⟨hk3, hi3⟩ := hp3
        obtain ⟨hr, hl3, hl4, hk4⟩ := fin (some .ret) W3 hk3
        exact ⟨_, _, hr, .inr ⟨rfl, .ret, (hIx _).putObj _ hi3 (by omega) hl3 rfl, hl4, hk4⟩⟩
      | exit id =>
        obtain ⟨hk3, hi3⟩ := hp3
        obtain ⟨hr, hl3, hl4, hk4⟩ := fin (some (.exit id)) W3 hk3
        exact ⟨_, _, hr, .inr ⟨rfl, .exit id, (hIx _).putObj _ hi3 (by omega) hl3 rfl, hl4, hk4⟩⟩
      | goto t =>
        obtain ⟨hk3, hi3⟩ := hp3
        obtain ⟨hr, hl3, hl4, hk4⟩ := fin (some (.goto t)) W3 hk3
        exact ⟨_, _, hr, .inr ⟨rfl, .goto t, (hIx _).putObj _ hi3 (by omega) hl3 rfl, hl4, hk4⟩⟩
      | panic ch => exact hp3.elim
      | outgrown => exact hp3.elim
    · rintro e W2 ⟨⟨v, rfl⟩, (⟨hi, hl, hk⟩ | ⟨k, hkle, c, hi, hl, hk⟩)⟩
      · obtain ⟨o', he⟩ : ∃ o', (Instr.endLoop (w.heap.size + 1)).run Try.prog W2 = .ok none (W2.putObj (w.heap.size + 1) o') := ⟨_, by
          have := run_endLoop (P := Try.prog) hl (by rw [hrec]; simp)
          rw [hrec] at this
          exact this⟩
        exact ⟨none, _, he, hdone _ _ (Nat.le_refl _) (hI.putObj _ hi (by omega) hl rfl) ((World.putObj_heap_other (by omega)).trans hk)⟩
      · obtain ⟨o', he⟩ : ∃ o', (Instr.endLoop (w.heap.size + 1)).run Try.prog W2 = .ok (some c) (W2.putObj (w.heap.size + 1) o') := ⟨_, by
          have := run_endLoop (P := Try.prog) hl (by rw [hrec]; simp)
          rw [hrec] at this
          exact this⟩
        exact ⟨some c, _, he, hstop _ c k _ (Nat.le_refl _) hkle ((hIx c).putObj _ hi (by omega) hl rfl) ((World.putObj_heap_other (by omega)).trans hk)⟩
end Go.Proofs.Ytkdbkamjaaehfaa
