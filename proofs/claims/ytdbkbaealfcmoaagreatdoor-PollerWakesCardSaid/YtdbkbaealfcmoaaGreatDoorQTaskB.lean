/- QTaskB: FReady, FSame, FVals, FNew, merged. -/
import Derived.Test.YtdbkbaealfcmoaaGreatDoorQTaskA
import Derived.Test.YtdbkbaealfcmoaaGreatDoorQRow
import Derived.Test.YtdbkbaealfcmoaaGreatDoorQFifoB
import Derived.Deep.QuietTactic
import Derived.BigQuiet
import Derived.LoopTactic
import Derived.Deep.LoopGhost
import Derived.Test.YtdbkbaealfcmoaaGreatDoorQMix
/- Ready: the run set as a slice. -/
namespace Go.Proofs.YtdbkbaealfcmoaaGreatDoor
open Go.RowKit Go.Sort Go.Shelf Go.MapKept
set_option linter.unusedVariables false
set_option linter.unusedSimpArgs false
attribute [local go_sem] Oper.semAt_some

theorem tkReady_nil {w : World} {v : Value} (h : NoK w v) : Calls Tryz.prog 138 #[v] w fun e w' => e = .returned (.slice none 0 0) ∧ w' = w := by
  have hu := Lib.hid (tkUsable_no h)
  obtain ⟨a, rfl⟩ := h.form
  clear h
  go_enter Tryz.func138, Tryz.ntmps138
  go_wp2_with (go_at_call 186; refine hu.out.mono ?_; rintro e w2 ⟨rfl, rfl⟩)
  go_ret
  exact ⟨rfl, rfl⟩

set_option maxRecDepth 100000 in
set_option maxHeartbeats 3200000 in
theorem tkReady_yes {B : Nat} {w : World} {l : Tl} {P : Ks} {Q : Qu} {g : Nat} (h : KAt B w l P Q g) (hg : g ≤ 1000000) :
    Calls Tryz.prog 138 #[.pointer (some ⟨l.t, 0, none⟩)] w fun e w' => ∃ v, e = .returned v ∧ Row TI w' w.heap.size v (Q.map Prod.snd) ∧ Below w.heap.size w w' := by
  have hu := Lib.hid (tkUsable_yes h)
  have hw0 := below_alloc w (.cells #[.slice none 0 0] 36)
  have HK0 := Lib.hid (h.grown hw0)
  have HQL := Lib.hid (Nat.le_trans h.ql hg)
  have HGG := Lib.hid hg
  clear h hw0 hg
  refine calls_marks Tryz.func138 rfl ?_
  simp only [Tryz.ntmps138, List.size_toArray, List.length_cons, List.length_nil, Nat.reduceAdd, Nat.reduceSub, Array.replicate_succ, Array.replicate_zero, List.push_toArray, List.append_toArray, List.nil_append, List.cons_append]
  have c1 := HK0.out.ct1
  go_wp2_with (first | (go_at_call 186; refine hu.out.mono ?_; rintro e w2 ⟨rfl, rfl⟩) | (go_at_call 187; fail))
  have hz0 := block_new w2 (.cells #[.slice none 0 0] 36) _ rfl
  refine (fiAll_any HK0.out.qa (by have := HGG.out; omega) [w2.heap.size] (by simp)).mono ?_
  rintro e w1 ⟨X, rfl, hS1, hb1⟩
  have HS1 := Lib.hid hS1
  have HZ1 := Lib.hid ((hb1.block _ (lt_of_block hz0)).trans hz0)
  have HB1 := Lib.hid ((below_alloc w2 (.cells #[.slice none 0 0] 36)).trans (hb1.mono (by simp)))
  have HL1 : Hid (w2.heap.size < w1.heap.size) := Lib.hid (by have := hb1.size; simp at this; omega)
  clear hS1 hb1 hz0 hu c1
  generalize hz : w2.heap.size = z at *
  have HZE := Lib.hid hz
  clear hz
  unfold seqV
  go_wp2_with fail
  refine (wpIn_wide (n := 6)).1 ?_
  refine range_vals (n := 6) (B := X) (Fs := [z]) (L := Q) (by omega) rfl HS1.out rfl
    (fun k W' => Below z w1 W' ∧ ∃ v, W'.heap[z]? = some (.cells #[v] 36 (0, 0)) ∧ Row TI W' w1.heap.size v ((Q.map Prod.snd).take k))
    (fun _ _ _ => False) ?hI ?hIx ?h0 ?round ?done ?stop
  case hI =>
    rintro k A A' row ⟨hb, v, h1, h2⟩ hg hr
    refine ⟨hb.grown hg (by have := hb.size; have := HL1.out; omega) (fun r e => by have := (hr r e).1; have := HL1.out; omega), v, (hg.block _ (lt_of_block h1) (fun e => by have := (hr _ e.symm).1; have := HL1.out; omega)).trans h1, h2.own hg hr⟩
  case hIx => exact fun _ _ _ _ _ h _ _ => h
  case h0 => exact ⟨Below.refl _ _, _, HZ1.out, Row.nil _ _⟩
  case stop => exact fun _ _ _ _ _ _ h _ => h.elim
  case done =>
    rintro D W' hD ⟨hbw, v, hcell, hout⟩ hK
    rw [← List.length_map (f := Prod.snd), List.take_length] at hout
    have HK := Lib.hid hK
    have HD := Lib.hid hD
    have c0 := cells_cell (o := 0) hcell rfl
    have hzl := lt_of_block hcell
    obtain ⟨va, vn, vc, rfl⟩ := row_form hout
    have HOUT := Lib.hid hout
    have HBW := Lib.hid (HB1.out.trans hbw)
    clear hbw hcell hout hK hD
    simp only [Exit.inBlock, Exit.then]
    go_at_K
    go_wp2_with fail
    have hKF := HK.out
    refine ⟨by simp, .inl ⟨_, _, rfl, run_takeDeferred hKF, ?_⟩⟩
    refine ⟨.slice va vn vc, by simp [results, Tryz.results138, go_sem], _, rfl, ?_, ?_⟩
    · rw [HZE.out]
      refine Row.own (B := D) (row := some D) ((HOUT.out.lower (Nat.le_of_lt HL1.out))) (grownBy_putObj' _ _ _) (fun r e => ?_)
      cases e
      exact ⟨Nat.le_refl _, _, hKF, rfl⟩
    · rw [HZE.out]
      exact HBW.out.trans ((belowK_b (w := w1) (Nat.le_refl _) W' D _ _ HD.out hKF rfl rfl).mono (Nat.le_of_lt HL1.out))
  case round =>
    rintro l2 n x W' hl hp hlets ⟨hbw, v, hcell, hout⟩
    gi_wp2
    refine ⟨trivial, ?_⟩
    clear hbw hcell hout hlets
    rintro W2 hlets ⟨hbw, v, hcell, hout⟩
    obtain ⟨va, vn, vc, rfl⟩ := row_form hout
    have c0 := cells_cell (o := 0) hcell rfl
    have f0 := cells_free hcell 0
    have hzl := lt_of_block hcell
    have hnl := (List.getElem?_eq_some_iff.1 hp).1
    have hxn := (List.getElem?_eq_some_iff.1 hp).2
    have htk : Hid ((Q.map Prod.snd).take (n + 1) = (Q.map Prod.snd).take n ++ [x.2]) := Lib.hid (by
      rw [List.take_succ_eq_append_getElem (by simpa using hnl)]
      congr 2
      rw [List.getElem_map, hxn])
    have hba := below_alloc W2 (.cells #[.int .i64 x.2] 3)
    have hrowA := Lib.hid (hout.below hba)
    have HOBJ := Lib.hid hout.obj
    have HB := Lib.hid hbw
    have HC := Lib.hid hcell
    have HL := Lib.hid hlets
    have HN := Lib.hid hnl
    clear hbw hcell hout hlets hp hnl hxn
    gi_wp2_with (gi_at_builtin; refine wpListIn_append_g TI_ok rfl (.tmp 16) (.tmp 18) rfl rfl rfl hrowA.out (by have := HL.out.size; simp; omega) (src_new TI_ok W2 x.2 #[.int .i64 x.2] rfl) (by have := HQL.out; have := HN.out; simp; omega) ?_)
    intro v' w3 ho hf hn
    rw [← htk.out] at ho
    obtain ⟨va', vn', vc', rfl⟩ := row_form ho
    have hC0 := (hba.block _ hzl).trans HC.out
    obtain ⟨g1, g2, g3⟩ := boxed_append hC0 (by decide) hrowA.out ho hf HL1.out
    have hfr := ((Fr.of_below hba (z :: (Value.slice va vn vc).ownBlock.toList)).trans' (hf.mono (fun y hy => .inl (List.mem_cons_of_mem _ hy)))).trans' ((fr_setCell w3 ⟨z, 0, none⟩ (.slice va' vn' vc')).mono (fun y hy => .inl (by simp at hy; subst hy; exact List.mem_cons_self)))
    have hold : ∀ y ∈ z :: (Value.slice va vn vc).ownBlock.toList, y = z ∨ w1.heap.size ≤ y := fun y hy => by
      rcases List.mem_cons.1 hy with h | h
      · exact .inl h
      · exact .inr (hrowA.out.lt y (by simpa using h)).1
    have HG2 := Lib.hid g2
    have HG3 := Lib.hid g3
    have HKF : Hid (KeepsFrom w1.heap.size W2 (w3.setCell ⟨z, 0, none⟩ (.slice va' vn' vc'))) := Lib.hid (keepsFrom_fr hfr (fun y hy => by
      rcases List.mem_cons.1 hy with rfl | h
      · exact ⟨_, HC.out, rfl⟩
      · exact HOBJ.out y (by simpa using h)))
    have HLT : Hid (Lets [z] w1.heap.size W2 (w3.setCell ⟨z, 0, none⟩ (.slice va' vn' vc'))) := Lib.hid ⟨hfr.size, fun k hk hn => hfr.block k (by have := HL.out.size; omega) (fun hm => by
      rcases hold k hm with h | h
      · exact hn (by simp [h])
      · omega)⟩
    have HBB : Hid (Below z w1 (w3.setCell ⟨z, 0, none⟩ (.slice va' vn' vc'))) := Lib.hid (HB.out.trans (hfr.below (fun y hy => by rcases hold y hy with h | h <;> have := HL1.out <;> omega) (by omega)))
    have c0 := cells_cell (o := 0) g1 rfl
    have f0 := cells_free g1 0
    have hzl := lt_of_block g1
    clear ho hf hn hC0 g1 g2 g3 hfr hold hba hrowA
    gi_wp2
    exact ⟨HKF.out, HLT.out, HBB.out, _, HG2.out, HG3.out⟩
end Go.Proofs.YtdbkbaealfcmoaaGreatDoor
/- The reference's Same, of two slices with the same numbers. -/
namespace Go.Proofs.YtdbkbaealfcmoaaGreatDoor
open Go.RowKit Go.Sort
set_option linter.unusedVariables false
set_option linter.unusedSimpArgs false

theorem Src.int {w : World} {v : Value} {X : List Int} (h : Src TI w v X) {j : Nat} (hj : j < X.length) : ∃ g off c, v = .slice (some ⟨g, off, none⟩) X.length c ∧ X.length ≤ c ∧ c ≤ maxLen ∧ g < w.heap.size ∧ w.cell? ⟨g, off + j, none⟩ = some (.int .i64 X[j]) := by
  rcases h with ⟨_, rfl⟩ | ⟨g, off, c, h1, h2, h3, h4, h5⟩
  · simp at hj
  · have := h5 j _ (List.getElem?_eq_getElem hj) 0 (.int .i64 X[j]) rfl
    exact ⟨g, off, c, h1, h2, h3, h4, by simpa [TI] using this⟩

set_option maxRecDepth 100000 in
set_option maxHeartbeats 3200000 in
theorem same_yes {w : World} {v u : Value} {X : List Int} (h1 : Src TI w v X) (h2 : Src TI w u X) (hl : X.length ≤ 1000000) :
    Calls Tryz.prog 36 #[v, u] w fun e w' => e = .returned (.bool true) ∧ Grn w w' := by
  obtain ⟨va, vc, rfl, hv1, hv2⟩ := h1.form
  obtain ⟨ua, uc, rfl, hu1, hu2⟩ := h2.form
  have H1 := Lib.hid h1
  have H2 := Lib.hid h2
  obtain ⟨N, hN⟩ : ∃ N, N = X.length := ⟨_, rfl⟩
  have HN := Lib.hid hN
  rw [← hN] at H1 H2 hl hv1 hu1 ⊢
  have g1 : ((N : Nat) : Int) ≤ 1000000 := by omega
  clear h1 h2 hN
  go_enter Tryz.func36, Tryz.ntmps36
  go_wp2
  go_loopw [5] (fun i wr => ∃ k : Nat, k ≤ N ∧ i = .int .i64 (k : Nat) ∧ Hid (Grn w wr)) (fun i _ => N - (intOf i).toNat)
  case atStart => exact ⟨0, Nat.zero_le _, rfl, Lib.hid (Grn.refl _)⟩
  case round =>
    obtain ⟨k, hk, rfl, hg⟩ := hrel
    by_cases hlt : k < N
    · have hkX : k < X.length := by rw [← HN.out]; exact hlt
      obtain ⟨a, o1, c1, e1, _, _, l1, k1⟩ := Src.int (H1.out.grown hg.out.below) hkX
      obtain ⟨b, o2, c2, e2, _, _, l2, k2⟩ := Src.int (H2.out.grown hg.out.below) hkX
      simp only [Value.slice.injEq] at e1 e2
      obtain ⟨rfl, _, rfl⟩ := e1
      obtain ⟨rfl, _, rfl⟩ := e2
      have q3 : (k : Int) < (N : Int) := by omega
      generalize X[k] = x at *
      clear H1 H2 HN hkX
      go_wp2_with fail
      go_quiet (fail)
      have HG := Lib.hid (hg.out.drew nq)
      go_wp2_with fail
      go_roundw
      case rel => exact ⟨k + 1, by omega, by go_num, HG⟩
      case measure => simp [intOf]; omega
    · obtain rfl : k = N := by omega
      clear H1 H2
      go_wp2_with fail
      go_ret
      exact ⟨rfl, hg.out⟩
end Go.Proofs.YtdbkbaealfcmoaaGreatDoor
/- Rows of integers beside a table of tasks; tasks that are parked, counted. -/
namespace Go.Proofs.YtdbkbaealfcmoaaGreatDoor
open Go.RowKit Go.Sort
set_option linter.unusedVariables false
set_option linter.unusedSimpArgs false

theorem KAt.row_out {B b : Nat} {w : World} {l : Tl} {P : Ks} {Q : Qu} {g : Nat} {v : Value} {X : List Int} (h : KAt B w l P Q g) (hr : Row TI w b v X) : ∀ y, v.ownBlock = some y → y ∉ l.F ∧ y ≠ l.t ∧ y ≠ l.c ∧ y ≠ l.q ∧ y ≠ l.b ∧ y ≠ l.m := by
  rcases hr.2 with ⟨rfl, _⟩ | ⟨y, cap, cu, rfl, _, hh, _⟩
  · intro y hy; cases hy
  · intro y' hy
    cases hy
    have h1 := h.out hh (by decide) (by decide)
    have h2 := h1
    simp [Tl.F] at h2
    exact ⟨h1, ne_types hh h.t (by decide), h2.1, ne_types hh h.qa.q (by decide), h2.2.1, h2.2.2⟩
/-- A row outlives a call. -/
theorem KAt.row_keep {B b : Nat} {w w' : World} {l : Tl} {P : Ks} {Q : Qu} {g : Nat} {v : Value} {X : List Int} (h : KAt B w l P Q g) (hr : Row TI w b v X) (hf : Fr l.F w w') : Row TI w' b v X :=
  hr.fr hf (fun y hy => (h.row_out hr y hy).1)
/-- How many tasks are parked. -/
def cnt2 (P : Ks) : Nat := P.countP fun p => decide (p.s = 2)
section
variable {P : Ks} {Q : Qu} {n g : Nat} {p : Ck} {tg : Int}
theorem cnt2_step (hp : P[n]? = some p) (tg : Int) (g : Nat) : cnt2 (stepP P n tg g) = (cnt2 P - if p.s = 2 then 1 else 0) + if tg = 2 then 1 else 0 := by
  obtain ⟨hl, he⟩ := List.getElem?_eq_some_iff.1 hp
  unfold cnt2 stepP
  rw [List.countP_set hl, he]
  simp
theorem cnt2_pos (hp : P[n]? = some p) (hs : p.s = 2) : 0 < cnt2 P := by
  unfold cnt2
  exact List.countP_pos_iff.2 ⟨p, List.mem_of_getElem? hp, by simpa using hs⟩
theorem cnt2_new (n : Nat) : cnt2 (List.replicate n ⟨0, 0⟩) = 0 := by
  unfold cnt2
  rw [List.countP_eq_zero]
  intro p hp
  rw [(List.mem_replicate.1 hp).2]
  decide
theorem stepP_len (tg : Int) (g : Nat) : (stepP P n tg g).length = P.length := by simp [stepP]
/-- A task comes in at the end. -/
theorem stepQ_in (hR : Rk P Q) (hp : P[n]? = some p) (hs : p.s ≠ 1) : stepQ Q n 1 g = Q ++ [(g + 1, ((n : Nat) : Int))] := by
  unfold stepQ
  rw [hR.none hp hs]
  rfl
/-- The first task leaves. -/
theorem stepQ_first {t : Nat} {v : Int} (hR : Rk P ((t, v) :: Q)) (hi : Inc 0 ((t, v) :: Q)) : ∃ n, v = ((n : Nat) : Int) ∧ P[n]? = some ⟨1, t⟩ ∧ wo n ((t, v) :: Q) = Q := by
  obtain ⟨n, h1, h2⟩ := hR.qu (t, v) List.mem_cons_self
  simp only at h1 h2
  refine ⟨n, h1, h2, ?_⟩
  subst h1
  have : wo n ((t, ((n : Nat) : Int)) :: Q) = wo n Q := by unfold wo; rw [List.filter_cons]; simp
  rw [this]
  exact wo_same fun x hx e => by
    have h3 := hR.fun (List.mem_cons_of_mem _ hx) e h2
    have h4 : t = x.1 := (Ck.mk.inj h3).2
    have := (hi.2.mem hx).1
    omega
end
/-- A slice of integers that is written out. -/
theorem src_lit (w : World) (X : List Int) (cs : Array Value) (hc : cs.toList = X.map fun x => .int .i64 x) (hl : X.length ≤ 1000) : Src TI (w.alloc (.cells cs 3)) (.slice (some ⟨w.heap.size, 0, none⟩) X.length X.length) X := by
  refine .inr ⟨w.heap.size, 0, X.length, rfl, Nat.le_refl _, by unfold maxLen; omega, by simp, fun j x hx i u hu => ?_⟩
  have hi : i = 0 ∧ u = .int .i64 x := by
    match i with
    | 0 => simp [TI] at hu; exact ⟨rfl, hu.symm⟩
    | i + 1 => simp [TI] at hu
  obtain ⟨rfl, rfl⟩ := hi
  refine cell_new _ _ _ _ _ _ rfl ?_
  rw [← Array.getElem?_toList, hc]
  simp [TI, hx]

end Go.Proofs.YtdbkbaealfcmoaaGreatDoor
/- New, Clone, Copy. -/
namespace Go.Proofs.YtdbkbaealfcmoaaGreatDoor
open Go.RowKit Go.Sort Go.MapKept
set_option linter.unusedVariables false
set_option linter.unusedSimpArgs false

set_option maxHeartbeats 400000 in
theorem tkNew_bad (w : World) (c : Int) (h : c < 1 ∨ 64 < c) : Calls Tryz.prog 85 #[.int .i64 c] w fun e w' => e = .returned (.tuple #[.pointer none, .int .i64 2]) ∧ w' = w := by
  by_cases h1 : c < 1
  · go_enter Tryz.func85, Tryz.ntmps85
    go_wp2_with fail
    go_ret2
    exact ⟨rfl, rfl⟩
  · have h2 : 64 < c := by omega
    have h3 : decide (c < 1) = false := by simp; omega
    go_enter Tryz.func85, Tryz.ntmps85
    go_wp2_with fail
    go_ret2
    exact ⟨rfl, rfl⟩

theorem wp_made {P : Program} {o : Oper} {a : Act} {w w' : World} {K : Act → World → Prop} {Q : Exit → Act → World → Prop} (l c : Operand) (t : TypeId) (hop : o.op = Op.makeSlice t l c) {x y v : Value} (hl : a.eval l = x) (hc : a.eval c = y)
    (hrun : (Instr.makeSlice t x y).run P w = .ok v w') (h : K (a.put o.dst v) w') : Oper.wp P o a w K Q := by
  unfold Oper.wp
  simp [execOp, hop, hl, hc, hrun, Result.andThen]
  exact h

/-- The new cells. -/
theorem row_made {w : World} {base b n : Nat} (h : w.ownsRow base 306 2 (.slice (some ⟨b, 0, none⟩) n n) n (madeCells (Value.agg #[.int .i64 0, .int .u64 0]).cells (n * 2)).toList) : Row TC w base (.slice (some ⟨b, 0, none⟩) n n) (List.replicate n ⟨0, 0⟩) := by
  unfold Row
  rw [List.length_replicate, flt_replicate (e := TC.enc) (s := 2) n ⟨0, 0⟩ TC_ok.len (by decide)]
  exact h

/-- What is known of the new cells and the new queue. -/
structure NewAt (w W : World) (c x q b m : Nat) : Prop where
  r : Row TC W w.heap.size (.slice (some ⟨x, 0, none⟩) c c) (List.replicate c ⟨0, 0⟩)
  qa : QAt W q b m [] 0
  bq : w.heap.size ≤ q
  bb : w.heap.size ≤ b
  bm : w.heap.size ≤ m
  below : Below w.heap.size w W

set_option maxRecDepth 100000 in
set_option maxHeartbeats 3200000 in
theorem tkNew_ok (w : World) (hmv : MvAt w) (c : Nat) (h1 : 1 ≤ c) (h2 : c ≤ 64) : Calls Tryz.prog 85 #[.int .i64 ((c : Nat) : Int)] w fun e w' => ∃ l, e = .returned (.tuple #[.pointer (some ⟨l.t, 0, none⟩), .int .i64 0]) ∧ KAt w.heap.size w' l (List.replicate c ⟨0, 0⟩) [] 0 ∧ Below w.heap.size w w' := by
  have e1 : (1 : Int) ≤ (c : Int) := by omega
  have e2 : (c : Int) ≤ 64 := by omega
  have e3 : decide ((c : Int) < 1) = false := by simp; omega
  have e4 : decide ((64 : Int) < (c : Int)) = false := by simp; omega
  obtain ⟨i0, hi0, hz0, hz1, hz2⟩ := info_parts infoCell
  have hmake := fun (W : World) (base : Nat) (hb : base ≤ W.heap.size) => run_make_full (P := Tryz.prog) W base 249 306 i0 (.agg #[.int .i64 0, .int .u64 0]) 2 Tryz.underlying249 hi0 hz0 hz1 .i64 .i64 c (by rw [show i0.bytes = 16 from hz2]; omega) (by unfold maxLen; omega) hb
  have HM := Lib.hid hmake
  have HMV := Lib.hid hmv
  have HC := Lib.hid (And.intro h1 h2)
  clear hmake hmv h1 h2
  go_enter Tryz.func85, Tryz.ntmps85
  go_wp2_with fail
  have hbd : Below w.heap.size w w.drew := (Below.refl _ _).drew
  refine wp_region_float3 (fun W' => Below w.heap.size w W') 3 [0] 1 2 [] [] (by kernel_rfl) (by kernel_rfl) (fun _ _ _ d _ h => by cases d <;> exact h) hbd _ (fun a' w' h' => h') ?_
  simp only [List.map_cons, List.map_nil, List.getD_cons_zero, List.getD_cons_succ, List.drop_succ_cons, List.drop_zero]
  refine takes_move (.tmp 0) (.int .i64 ((c : Nat) : Int)) rfl rfl rfl ?_
  simp only [Act.put, List.setIfInBounds_toArray, List.set_cons_zero, List.set_cons_succ]
  unfold wpTakes
  refine And.intro ?_ ?_
  focus
    refine mids_step rfl (fun K hK => ?_)
    obtain ⟨w1, hrun, r1, r2⟩ := HM.out w.drew w.heap.size (Nat.le_refl _)
    have hb1 : Below w.heap.size w w1 := hbd.grown r2 (Nat.le_refl _) (by intro k hk; cases hk)
    refine wp_made (.tmp 10) (.tmp 10) 249 rfl rfl rfl hrun ?_
    refine hK _ _ hb1 ?_
    clear hK
    simp only [Act.put, List.setIfInBounds_toArray, List.set_cons_zero, List.set_cons_succ]
    refine mids_step rfl (fun K hK => ?_)
    go_simp
    go_wp2_with (go_at_call 133; fail)
    refine (fiNew_any w1).mono ?_
    rintro e w2 ⟨q, b, m, rfl, hq, hg, k1, k2, k3⟩
    have hb2 : Below w.heap.size w w2 := hb1.trans (hg.below.mono hb1.size)
    refine hK _ _ hb2 ?_
    clear hK
    have hs := hb1.size
    have HN : Hid (NewAt w w2 c w.heap.size q b m) := Lib.hid ⟨(row_made r1).below hg.below, hq, by omega, by omega, by omega, hb2⟩
    clear r1 r2 hrun hq hg k1 k2 k3 hs hb1
    generalize w2 = W at *
    unfold wpMids
    refine ⟨hb2, ?_⟩
    unfold wpTakes
    clear hb2 HM
    go_wp2_with fail
    go_ret2
    have hba := fun o => below_alloc W o
    have hlen : (List.replicate c (⟨0, 0⟩ : Ck)).length = c := List.length_replicate ..
    refine ⟨⟨W.heap.size, w.heap.size, c, q, b, m⟩, rfl, ⟨?_, ?_, HN.out.qa.grown (hba _), by rw [hlen]; exact HC.out.1, by rw [hlen]; exact HC.out.2, (HMV.out.below HN.out.below HMV.out.lt).below (hba _) (Nat.lt_of_lt_of_le HMV.out.lt HN.out.below.size), HMV.out.lt, HN.out.below.size, HN.out.bq, HN.out.bb, HN.out.bm⟩, HN.out.below.trans ((hba _).mono HN.out.below.size)⟩
    · rw [hlen]; exact block_new _ _ _ rfl
    · rw [hlen]; exact HN.out.r.below (hba _)
  focus
    refine mids_step rfl (fun K hK => ?_)
    go_simp
    go_wp2_with (go_at_call 133; fail)
    refine (fiNew_any w.drew).mono ?_
    rintro e w1 ⟨q, b, m, rfl, hq, hg, k1, k2, k3⟩
    have hb1 : Below w.heap.size w w1 := hbd.trans hg.below
    refine hK _ _ hb1 ?_
    clear hK
    refine mids_step rfl (fun K hK => ?_)
    obtain ⟨w2, hrun, r1, r2⟩ := HM.out w1 w.heap.size hb1.size
    have hb3 : Below w1.heap.size w1 w2 := (Below.refl _ w1).grown r2 (Nat.le_refl _) (by intro k hk; cases hk)
    have hb2 : Below w.heap.size w w2 := hb1.trans (hb3.mono hb1.size)
    refine wp_made (.tmp 10) (.tmp 10) 249 rfl rfl rfl hrun ?_
    refine hK _ _ hb2 ?_
    clear hK
    simp only [Act.put, List.setIfInBounds_toArray, List.set_cons_zero, List.set_cons_succ]
    have HN : Hid (NewAt w w2 c w1.heap.size q b m) := Lib.hid ⟨row_made r1, hq.grown hb3, k1, k2, k3, hb2⟩
    clear r1 r2 hrun hq hg k1 k2 k3 hb1 hb3
    generalize w2 = W at *
    unfold wpMids
    refine ⟨hb2, ?_⟩
    unfold wpTakes
    clear hb2 HM
    go_wp2_with fail
    go_ret2
    have hba := fun o => below_alloc W o
    have hlen : (List.replicate c (⟨0, 0⟩ : Ck)).length = c := List.length_replicate ..
    refine ⟨⟨W.heap.size, w1.heap.size, c, q, b, m⟩, rfl, ⟨?_, ?_, HN.out.qa.grown (hba _), by rw [hlen]; exact HC.out.1, by rw [hlen]; exact HC.out.2, (HMV.out.below HN.out.below HMV.out.lt).below (hba _) (Nat.lt_of_lt_of_le HMV.out.lt HN.out.below.size), HMV.out.lt, HN.out.below.size, HN.out.bq, HN.out.bb, HN.out.bm⟩, HN.out.below.trans ((hba _).mono HN.out.below.size)⟩
    · rw [hlen]; exact block_new _ _ _ rfl
    · rw [hlen]; exact HN.out.r.below (hba _)

set_option maxHeartbeats 1600000 in
set_option maxRecDepth 100000 in
theorem ceClone_any {w : World} {B g c : Nat} {P : Ks} (h : Row TC w B (.slice (some ⟨g, 0, none⟩) P.length c) P) (n1 : 1 ≤ P.length) (n2 : P.length ≤ 64) :
    Calls Tryz.prog 189 #[.slice (some ⟨g, 0, none⟩) P.length c] w fun e w' => ∃ g' c', e = .returned (.slice (some ⟨g', 0, none⟩) P.length c') ∧ Row TC w' w.heap.size (.slice (some ⟨g', 0, none⟩) P.length c') P ∧ Below w.heap.size w w' := by
  have q22 : ∀ (w : World) (a : Option Addr) (n c n' c' : Nat), (binOp .eql 249 (.slice a n c) (.slice none n' c')).run Tryz.prog w = .ok (.bool a.isNone) w := fun w a n c n' c' => Lib.run_eql_slice_nil w _ _ a n c n' c' Tryz.underlying249
  have hsrc := Lib.hid (Row.src TC_ok h)
  obtain ⟨N, hN⟩ : ∃ N, N = P.length := ⟨_, rfl⟩
  have HN := Lib.hid hN
  rw [← hN] at n1 n2 hsrc ⊢
  have hemp : Hid (Row TC (w.alloc (.cells #[] 306)) w.heap.size (.slice (some ⟨w.heap.size, 0, none⟩) 0 0) ([] : Ks)) := Lib.hid (World.ownsRow_made w #[] 0 (Nat.le_refl _) (Nat.zero_le _) (by simp))
  clear h hN
  go_enter Tryz.func189, Tryz.ntmps189
  go_wp2_with (at_builtin; refine wpList_append_g TC_ok rfl (.tmp 5) (.tmp 6) rfl rfl rfl hemp.out (by simp) (hsrc.out.grown (below_alloc w _)) (by have := HN.out; simp; omega) ?_)
  intro v' w1 hown hf hnear
  have hb : Below w.heap.size w w1 := (below_alloc w _).trans (hf.below (fun x hx => by simp [Value.ownBlock] at hx; omega) (by simp))
  obtain ⟨g', c', rfl, -, -⟩ := row_some hown (by rw [← HN.out]; omega)
  rw [← HN.out] at hown
  have HR := Lib.hid hown
  have HB := Lib.hid hb
  clear hown hf hnear hb
  rw [← HN.out]
  go_wp2_with fail
  go_ret
  exact ⟨_, _, rfl, HR.out, HB.out⟩

theorem tkCopy_nil {w : World} {v : Value} (h : NoK w v) : Calls Tryz.prog 143 #[v] w fun e w' => e = .returned (.pointer none) ∧ w' = w := by
  have hu := Lib.hid (tkUsable_no h)
  obtain ⟨a, rfl⟩ := h.form
  clear h
  go_enter Tryz.func143, Tryz.ntmps143
  go_wp2_with (go_at_call 186; refine hu.out.mono ?_; rintro e w2 ⟨rfl, rfl⟩)
  go_ret
  exact ⟨rfl, rfl⟩
set_option maxHeartbeats 1600000 in
set_option maxRecDepth 100000 in
theorem tkCopy_yes {B : Nat} {w : World} {l : Tl} {P : Ks} {Q : Qu} {g : Nat} (h : KAt B w l P Q g) (hB : B ≤ w.heap.size) :
    Calls Tryz.prog 143 #[.pointer (some ⟨l.t, 0, none⟩)] w fun e w' => ∃ l', e = .returned (.pointer (some ⟨l'.t, 0, none⟩)) ∧ KAt w.heap.size w' l' P Q g ∧ Below w.heap.size w w' := by
  have hu := Lib.hid (tkUsable_yes h)
  have HH := Lib.hid h
  have HBB := Lib.hid hB
  obtain ⟨N, hN⟩ : ∃ N, N = P.length := ⟨_, rfl⟩
  have HN := Lib.hid hN
  have k0 := h.ct0
  rw [← hN] at k0
  clear h hN hB
  go_enter Tryz.func143, Tryz.ntmps143
  go_wp2_with (go_at_call 186; refine hu.out.mono ?_; rintro e w2 ⟨rfl, rfl⟩)
  have hld : ∀ W', Below w2.heap.size w2 W' → W'.cell? ⟨l.t, 0, none⟩ = some (.slice (some ⟨l.c, 0, none⟩) N l.cc) ∧ W'.cell? ⟨l.t, 1, none⟩ = some (.pointer (some ⟨l.q, 0, none⟩)) := fun W' hb => by
    have := (HH.out.grown hb).ct0
    rw [← HN.out] at this
    exact ⟨this, (HH.out.grown hb).ct1⟩
  have HS : Hid (Below w2.heap.size w2 w2.drew) := Lib.hid (Below.refl _ _).drew
  clear k0 hu
  refine wp_region_mix (fun W' => Below w2.heap.size w2 W') 10 [(true, 0), (true, 1), (true, 2), (true, 3), (true, 5), (true, 6), (true, 7), (true, 8), (false, 4), (false, 9)] (by kernel_rfl) (by kernel_rfl) (fun _ _ _ d _ h => by cases d <;> exact h) ?_
  simp only [List.map_cons, List.map_nil, List.getD_cons_zero, List.getD_cons_succ, List.drop_succ_cons, List.drop_zero]
  refine mix_move (.tmp 0) (.pointer (some ⟨l.t, 0, none⟩)) rfl HS.out rfl rfl ?_
  simp only [Act.put, List.setIfInBounds_toArray, List.set_cons_zero, List.set_cons_succ]
  refine mix_take (.pointer (some ⟨l.t, 0, none⟩)) HS.out rfl (fun W' hS => by go_simp) ?_
  simp only [Act.put, List.setIfInBounds_toArray, List.set_cons_zero, List.set_cons_succ]
  refine mix_take (.pointer (some ⟨l.t, 0, none⟩)) HS.out rfl (fun W' hS => by go_simp) ?_
  simp only [Act.put, List.setIfInBounds_toArray, List.set_cons_zero, List.set_cons_succ]
  refine mix_take (.slice (some ⟨l.c, 0, none⟩) N l.cc) HS.out rfl (fun W' hS => by obtain ⟨l0, l1⟩ := hld W' hS; go_simp) ?_
  simp only [Act.put, List.setIfInBounds_toArray, List.set_cons_zero, List.set_cons_succ]
  refine mix_move (.tmp 0) (.pointer (some ⟨l.t, 0, none⟩)) rfl HS.out rfl rfl ?_
  simp only [Act.put, List.setIfInBounds_toArray, List.set_cons_zero, List.set_cons_succ]
  refine mix_take (.pointer (some ⟨l.t, 0, none⟩)) HS.out rfl (fun W' hS => by go_simp) ?_
  simp only [Act.put, List.setIfInBounds_toArray, List.set_cons_zero, List.set_cons_succ]
  refine mix_take (.pointer (some ⟨l.t, 1, none⟩)) HS.out rfl (fun W' hS => by go_simp) ?_
  simp only [Act.put, List.setIfInBounds_toArray, List.set_cons_zero, List.set_cons_succ]
  refine mix_take (.pointer (some ⟨l.q, 0, none⟩)) HS.out rfl (fun W' hS => by obtain ⟨l0, l1⟩ := hld W' hS; go_simp) ?_
  simp only [Act.put, List.setIfInBounds_toArray, List.set_cons_zero, List.set_cons_succ]
  clear hld
  refine mix_step rfl (fun K hK => ?_)
  go_simp
  go_wp2_with (go_at_call 189; fail)
  have hcl := ceClone_any (HH.out.grown HS.out).r HH.out.n1 HH.out.n2
  rw [← HN.out] at hcl
  refine hcl.mono ?_
  rintro e w3 ⟨g', c', rfl, hr, hb⟩
  have HS3 := Lib.hid (HS.out.trans (hb.mono HS.out.size))
  have HR := Lib.hid hr
  refine hK _ _ HS3.out ?_
  clear hK hcl hr hb
  refine mix_step rfl (fun K hK => ?_)
  go_simp
  go_wp2_with (go_at_call 142; fail)
  refine (fiCopy_yes (HH.out.grown HS3.out).qa).mono ?_
  rintro e w4 ⟨q', b', m', rfl, hq, hg, k1, k2, k3⟩
  have HS4 := Lib.hid (HS3.out.trans (hg.below.mono HS3.out.size))
  have HR4 := Lib.hid (HR.out.below hg.below)
  have HQ := Lib.hid hq
  have HL := Lib.hid (And.intro k1 (And.intro k2 k3))
  refine hK _ _ HS4.out ?_
  clear hK hq hg k1 k2 k3
  refine mix_nil ?_
  go_wp2_with fail
  go_ret
  have hba := fun o => below_alloc w4 o
  have hs3 : w2.heap.size ≤ w3.heap.size := HS3.out.size
  have hrl : Row TC w4 w2.heap.size (.slice (some ⟨g', 0, none⟩) N c') P := HR4.out
  have hg0 : 0 < w2.heap.size := Nat.lt_of_lt_of_le HH.out.g0 HBB.out
  refine ⟨⟨w4.heap.size, g', c', q', b', m'⟩, rfl, ⟨?_, ?_, HQ.out.grown (hba _), HH.out.n1, HH.out.n2, HH.out.mv.below (HS4.out.trans ((hba _).mono HS4.out.size)) HH.out.mv.lt, hg0, HS4.out.size, Nat.le_trans hs3 HL.out.1, Nat.le_trans hs3 HL.out.2.1, Nat.le_trans hs3 HL.out.2.2⟩, HS4.out.trans ((hba _).mono HS4.out.size)⟩
  · rw [← HN.out]; exact block_new _ _ _ rfl
  · rw [← HN.out]; exact hrl.below (hba _)
end Go.Proofs.YtdbkbaealfcmoaaGreatDoor
