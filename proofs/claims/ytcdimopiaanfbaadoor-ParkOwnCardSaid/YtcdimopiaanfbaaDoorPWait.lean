/- Ready and Waiting of a lot. -/
import Derived.Test.YtcdimopiaanfbaaDoorPCall
import Derived.Test.YtcdimopiaanfbaaDoorFReady
namespace Go.Proofs.YtcdimopiaanfbaaDoor
open Go.RowKit Go.Sort Go.Shelf Go.MapKept
set_option linter.unusedVariables false
set_option linter.unusedSimpArgs false
attribute [local go_sem] Oper.semAt_some

section
variable {B : Nat} {S : Nat → Prop} {w w' : World} {l : Ll} {z : Zt} {G : Nat} {s : Sp}
theorem pkReady_any (h : LS B S w l z G) (hG : G ≤ 1000000) : Calls Tryd.prog 13 #[.pointer (some ⟨l.a, 0, none⟩)] w fun e w' => ∃ v, e = .returned v ∧ Row TI w' w.heap.size v z.R ∧ Below w.heap.size w w' := by
  obtain ⟨P, Q, g, f, pl, hA, hZ, hg, h1, h2⟩ := h
  have ht := Lib.hid (pkTable_yes hA)
  have hu := Lib.hid (tkReady_yes hA.k (by omega))
  rw [h2]
  unfold vls
  clear hA hZ h1 h2 hg
  go_enter Tryd.func13, Tryd.ntmps13
  go_wp2_with (first | (go_at_call 42; refine ht.out.mono ?_; rintro e w2 ⟨rfl, rfl⟩) | (go_at_call 43; fail))
  refine hu.out.mono ?_
  rintro e w2 ⟨v, rfl, hr, hb⟩
  obtain ⟨va, vn, vc, rfl⟩ := row_form hr
  have HR := Lib.hid (And.intro hr hb)
  clear hr hb
  go_wp2_with fail
  go_ret
  exact ⟨_, rfl, HR.out⟩

/-- A queue, or none. -/
def QV (w : World) (v : Value) (L : Qu) : Prop := (∃ q b m g, v = .pointer (some ⟨q, 0, none⟩) ∧ QAt w q b m L g ∧ g ≤ 1000000000) ∨ (v = .pointer none ∧ L = [])
theorem QV.grown {v : Value} {L : Qu} (h : QV w v L) (hb : Below w.heap.size w w') : QV w' v L := by
  rcases h with ⟨q, b, m, g, e, hq, hg⟩ | h
  · exact .inl ⟨q, b, m, g, e, hq.grown hb, hg⟩
  · exact .inr h
theorem QV.len {v : Value} {L : Qu} (h : QV w v L) : L.length ≤ 1000000000 := by
  rcases h with ⟨q, b, m, g, e, hq, hg⟩ | ⟨e, rfl⟩
  · have := hq.inc.len; have := hq.le; omega
  · simp
theorem qv_all {v : Value} {L : Qu} (h : QV w v L) (F : List Nat) (hF : ∀ x ∈ F, x < w.heap.size) : Calls Tryd.prog 45 #[v] w fun e w' => ∃ B, e = .returned (seqV B) ∧ SeqAt w' F B L ∧ Below w.heap.size w w' := by
  rcases h with ⟨q, b, m, g, rfl, hq, hg⟩ | ⟨rfl, rfl⟩
  · exact fiAll_any hq hg F hF
  · exact fiAll_nil (.inl rfl) F hF
theorem pkQueue_qv (h : LS B S w l z G) (hG : G ≤ 1000000) (hs : SpOk s) : Calls Tryd.prog 44 #[.pointer (some ⟨l.a, 0, none⟩), .agg #[.int .i64 s.1, .int .i64 s.2]] w fun e w' => ∃ a L, e = .returned (.tuple #[.pointer a, .int .i64 0]) ∧ QV w' (.pointer a) L ∧ L.map Prod.snd = cat (wt s z.L) ∧ Grn w w' := by
  obtain ⟨P, Q, g, f, pl, hA, hZ, hg, h1, h2⟩ := h
  cases hf : f s with
  | none =>
    refine (pkQueue_none hA hs hf).mono ?_
    rintro e w' ⟨rfl, hgr⟩
    exact ⟨_, [], rfl, .inr ⟨rfl, rfl⟩, by rw [hZ.q0 s hf]; rfl, hgr⟩
  | some d =>
    refine (pkQueue_some hA hs hf).mono ?_
    rintro e w' ⟨rfl, hgr⟩
    obtain ⟨a, b, c⟩ := hZ.qf s d hf
    exact ⟨_, d.L, rfl, .inl ⟨d.q, d.b, d.m, d.g, rfl, (hA.qs s d hf).grown hgr.below, by omega⟩, b, hgr⟩

set_option maxRecDepth 100000 in
set_option maxHeartbeats 3200000 in
theorem pkWaiting_yes (h : LS B S w l z G) (hG : G ≤ 1000000) (hs : SpOk s) :
    Calls Tryd.prog 14 #[.pointer (some ⟨l.a, 0, none⟩), .agg #[.int .i64 s.1, .int .i64 s.2]] w fun e w' => ∃ v, e = .returned (.tuple #[v, .int .i64 0]) ∧ Row TI w' w.heap.size v (cat (wt s z.L)) ∧ Below w.heap.size w w' := by
  have hq := Lib.hid (pkQueue_qv (h.grown (below_alloc w (.cells #[.int .i64 s.1, .int .i64 s.2] 38))) hG hs)
  have hln : Hid ((wt s z.L).length ≤ 64) := Lib.hid (by have := h.zk.l; unfold wt; rw [List.length_map]; exact Nat.le_trans (List.length_filter_le _ _) this)
  clear h hs
  generalize s.1 = sa at *
  generalize s.2 = sb at *
  generalize wt s z.L = WT at *
  refine calls_marks Tryd.func14 rfl ?_
  simp only [Tryd.ntmps14, List.size_toArray, List.length_cons, List.length_nil, Nat.reduceAdd, Nat.reduceSub, Array.replicate_succ, Array.replicate_zero, List.push_toArray, List.append_toArray, List.nil_append, List.cons_append]
  go_wp2_with (go_at_call 44; fail)
  refine hq.out.mono ?_
  rintro e w2 ⟨qa, Q, rfl, hv, hL, hgq⟩
  have HL0 := Lib.hid hL
  have HV0 := Lib.hid (hv.grown (below_alloc w2 (.cells #[.slice none 0 0] 28)))
  have HQL : Hid (Q.length ≤ 64) := Lib.hid (by have := congrArg List.length hL; simp [cat] at this; have := hln.out; omega)
  have HB2 := Lib.hid (((Grn.refl w).alloc (.cells #[.int .i64 sa, .int .i64 sb] 38)).trans hgq).below
  clear hv hL hgq hq
  go_wp2_with (go_at_call 45; fail)
  have hz0 := block_new w2 (.cells #[.slice none 0 0] 28) _ rfl
  refine (qv_all HV0.out [w2.heap.size] (by simp)).mono ?_
  rintro e w1 ⟨X, rfl, hS1, hb1⟩
  have HS1 := Lib.hid hS1
  have HZ1 := Lib.hid ((hb1.block _ (lt_of_block hz0)).trans hz0)
  have HB1 := Lib.hid ((below_alloc w2 (.cells #[.slice none 0 0] 28)).trans (hb1.mono (by simp)))
  have HL1 : Hid (w2.heap.size < w1.heap.size) := Lib.hid (by have := hb1.size; simp at this; omega)
  have HWB := Lib.hid (HB2.out.trans (HB1.out.mono HB2.out.size))
  have HWS := Lib.hid HB2.out.size
  clear hS1 hb1 hz0 HV0 hln HB2
  generalize hz : w2.heap.size = z at *
  have HZE := Lib.hid hz
  clear hz
  unfold seqV
  go_wp2_with fail
  refine (wpIn_wide (n := 6)).1 ?_
  refine range_vals (n := 6) (B := X) (Fs := [z]) (L := Q) (by omega) rfl HS1.out rfl
    (fun k W' => Below z w1 W' ∧ ∃ v, W'.heap[z]? = some (.cells #[v] 28 (0, 0)) ∧ Row TI W' w1.heap.size v ((Q.map Prod.snd).take k))
    (fun _ _ _ => False) ?hI ?hIx ?h0 ?round ?done ?stop
  case hI =>
    rintro k A A' row ⟨hb, v, h1, h2⟩ hg hr
    refine ⟨hb.grown hg (by have := hb.size; have := HL1.out; omega) (fun r e => by have := (hr r e).1; have := HL1.out; omega), v, (hg.block _ (lt_of_block h1) (fun e => by have := (hr _ e.symm).1; have := HL1.out; omega)).trans h1, h2.own hg hr⟩
  case hIx => exact fun _ _ _ _ _ h _ _ => h
  case h0 => exact ⟨Below.refl _ _, _, HZ1.out, Row.nil _ _⟩
  case stop => exact fun _ _ _ _ _ _ h _ => h.elim
  case done =>
    rintro D W' hD ⟨hbw, v, hcell, hout⟩ hK
    rw [← List.length_map (f := Prod.snd), List.take_length, HL0.out] at hout
    have HK := Lib.hid hK
    have HD := Lib.hid hD
    have c0 := cells_cell (o := 0) hcell rfl
    have hzl := lt_of_block hcell
    obtain ⟨va, vn, vc, rfl⟩ := row_form hout
    have HOUT := Lib.hid hout
    have HBW := Lib.hid (HWB.out.trans (hbw.mono HWS.out))
    clear hbw hcell hout hK hD
    simp only [Exit.inBlock, Exit.then]
    go_at_K
    go_wp2_with fail
    have hKF := HK.out
    have hlw : w.heap.size ≤ w1.heap.size := HWB.out.size
    refine ⟨by simp, .inl ⟨_, _, rfl, run_takeDeferred hKF, ?_⟩⟩
    refine ⟨.tuple #[.slice va vn vc, .int .i64 0], by simp [results, Tryd.results14, go_sem], _, rfl, ?_, ?_⟩
    · refine Row.own (B := D) (row := some D) (HOUT.out.lower hlw) (grownBy_putObj' _ _ _) (fun r e => ?_)
      cases e
      exact ⟨Nat.le_refl _, _, hKF, rfl⟩
    · exact HBW.out.trans ((belowK_b (w := w1) (Nat.le_refl _) W' D _ _ HD.out hKF rfl rfl).mono hlw)
  case round =>
    rintro l2 n x W' hl hp hlets ⟨hbw, v, hcell, hout⟩
    gi_wp2
    refine ⟨trivial, ?_⟩
    clear hbw hcell hout hlets
    rintro W2 hlets ⟨hbw, v, hcell, hout⟩
    obtain ⟨va, vn, vc, rfl⟩ := row_form hout
    have c0 := cells_cell (o := 0) hcell rfl
    have f0 := cells_free hcell 0
    have hzl := lt_of_block hcell
    have hnl := (List.getElem?_eq_some_iff.1 hp).1
    have hxn := (List.getElem?_eq_some_iff.1 hp).2
    have htk : Hid ((Q.map Prod.snd).take (n + 1) = (Q.map Prod.snd).take n ++ [x.2]) := Lib.hid (by
      rw [List.take_succ_eq_append_getElem (by simpa using hnl)]
      congr 2
      rw [List.getElem_map, hxn])
    have hba := below_alloc W2 (.cells #[.int .i64 x.2] 3)
    have hrowA := Lib.hid (hout.below hba)
    have HOBJ := Lib.hid hout.obj
    have HB := Lib.hid hbw
    have HC := Lib.hid hcell
    have HL := Lib.hid hlets
    have HN := Lib.hid hnl
    clear hbw hcell hout hlets hp hnl hxn
    gi_wp2_with (gi_at_builtin; refine wpListIn_append_g TI_ok rfl (.tmp 24) (.tmp 26) rfl rfl rfl hrowA.out (by have := HL.out.size; simp; omega) (src_new TI_ok W2 x.2 #[.int .i64 x.2] rfl) (by have := HQL.out; have := HN.out; simp; omega) ?_)
    intro v' w3 ho hf hn
    rw [← htk.out] at ho
    obtain ⟨va', vn', vc', rfl⟩ := row_form ho
    have hC0 := (hba.block _ hzl).trans HC.out
    obtain ⟨g1, g2, g3⟩ := boxed_append hC0 (by decide) hrowA.out ho hf HL1.out
    have hfr := ((Fr.of_below hba (z :: (Value.slice va vn vc).ownBlock.toList)).trans' (hf.mono (fun y hy => .inl (List.mem_cons_of_mem _ hy)))).trans' ((fr_setCell w3 ⟨z, 0, none⟩ (.slice va' vn' vc')).mono (fun y hy => .inl (by simp at hy; subst hy; exact List.mem_cons_self)))
    have hold : ∀ y ∈ z :: (Value.slice va vn vc).ownBlock.toList, y = z ∨ w1.heap.size ≤ y := fun y hy => by
      rcases List.mem_cons.1 hy with h | h
      · exact .inl h
      · exact .inr (hrowA.out.lt y (by simpa using h)).1
    have HG2 := Lib.hid g2
    have HG3 := Lib.hid g3
    have HKF : Hid (KeepsFrom w1.heap.size W2 (w3.setCell ⟨z, 0, none⟩ (.slice va' vn' vc'))) := Lib.hid (keepsFrom_fr hfr (fun y hy => by
      rcases List.mem_cons.1 hy with rfl | h
      · exact ⟨_, HC.out, rfl⟩
      · exact HOBJ.out y (by simpa using h)))
    have HLT : Hid (Lets [z] w1.heap.size W2 (w3.setCell ⟨z, 0, none⟩ (.slice va' vn' vc'))) := Lib.hid ⟨hfr.size, fun k hk hn => hfr.block k (by have := HL.out.size; omega) (fun hm => by
      rcases hold k hm with h | h
      · exact hn (by simp [h])
      · omega)⟩
    have HBB : Hid (Below z w1 (w3.setCell ⟨z, 0, none⟩ (.slice va' vn' vc'))) := Lib.hid (HB.out.trans (hfr.below (fun y hy => by rcases hold y hy with h | h <;> have := HL1.out <;> omega) (by omega)))
    have c0 := cells_cell (o := 0) g1 rfl
    have f0 := cells_free g1 0
    have hzl := lt_of_block g1
    clear ho hf hn hC0 g1 g2 g3 hfr hold hba hrowA
    gi_wp2
    exact ⟨HKF.out, HLT.out, HBB.out, _, HG2.out, HG3.out⟩
theorem pkWaiting_bad (h : LS B S w l z G) (hs : ¬ SpOk s) :
    Calls Tryd.prog 14 #[.pointer (some ⟨l.a, 0, none⟩), .agg #[.int .i64 s.1, .int .i64 s.2]] w fun e w' => e = .returned (.tuple #[.slice none 0 0, .int .i64 2]) ∧ Grn w w' := by
  obtain ⟨P, Q, g, f, pl, hA, -⟩ := h
  have hq := Lib.hid (pkQueue_bad (hA.grown (below_alloc w (.cells #[.int .i64 s.1, .int .i64 s.2] 38))) hs)
  clear hA hs
  generalize s.1 = sa at *
  generalize s.2 = sb at *
  go_enter Tryd.func14, Tryd.ntmps14
  go_wp2_with (go_at_call 44; refine hq.out.mono ?_; rintro e w2 ⟨rfl, hg⟩)
  go_ret2
  exact ⟨rfl, ((Grn.refl w).alloc _).trans hg⟩
theorem pkWaiting_any (h : LS B S w l z G) (hG : G ≤ 1000000) (s : Sp) :
    Calls Tryd.prog 14 #[.pointer (some ⟨l.a, 0, none⟩), .agg #[.int .i64 s.1, .int .i64 s.2]] w fun e w' => ∃ v, e = .returned (.tuple #[v, .int .i64 (waC z s).2]) ∧ Row TI w' w.heap.size v (waC z s).1 ∧ Below w.heap.size w w' := by
  unfold waC
  by_cases hs : SpOk s
  · rw [if_pos hs]; exact pkWaiting_yes h hG hs
  · rw [if_neg hs]
    refine (pkWaiting_bad h hs).mono ?_
    rintro e w' ⟨rfl, hg⟩
    exact ⟨_, rfl, Row.nil _ _, hg.below⟩
end
end Go.Proofs.YtcdimopiaanfbaaDoor
