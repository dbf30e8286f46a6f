/- Ready: the run set as a slice. -/
import Derived.Test.YtcdimopiaanfbaaDoorFMem
import Derived.Test.YtcdimopiaanfbaaDoorGRange
import Derived.Test.YtcdimopiaanfbaaDoorDMarks
namespace Go.Proofs.YtcdimopiaanfbaaDoor
open Go.RowKit Go.Sort Go.Shelf Go.MapKept
set_option linter.unusedVariables false
set_option linter.unusedSimpArgs false
attribute [local go_sem] Oper.semAt_some

theorem tkReady_nil {w : World} {v : Value} (h : NoK w v) : Calls Tryd.prog 43 #[v] w fun e w' => e = .returned (.slice none 0 0) ∧ w' = w := by
  have hu := Lib.hid (tkUsable_no h)
  obtain ⟨a, rfl⟩ := h.form
  clear h
  go_enter Tryd.func43, Tryd.ntmps43
  go_wp2_with (go_at_call 67; refine hu.out.mono ?_; rintro e w2 ⟨rfl, rfl⟩)
  go_ret
  exact ⟨rfl, rfl⟩

set_option maxRecDepth 100000 in
set_option maxHeartbeats 3200000 in
theorem tkReady_yes {B : Nat} {w : World} {l : Tl} {P : Ks} {Q : Qu} {g : Nat} (h : KAt B w l P Q g) (hg : g ≤ 1000000) :
    Calls Tryd.prog 43 #[.pointer (some ⟨l.t, 0, none⟩)] w fun e w' => ∃ v, e = .returned v ∧ Row TI w' w.heap.size v (Q.map Prod.snd) ∧ Below w.heap.size w w' := by
  have hu := Lib.hid (tkUsable_yes h)
  have hw0 := below_alloc w (.cells #[.slice none 0 0] 28)
  have HK0 := Lib.hid (h.grown hw0)
  have HQL := Lib.hid (Nat.le_trans h.ql hg)
  have HGG := Lib.hid hg
  clear h hw0 hg
  refine calls_marks Tryd.func43 rfl ?_
  simp only [Tryd.ntmps43, List.size_toArray, List.length_cons, List.length_nil, Nat.reduceAdd, Nat.reduceSub, Array.replicate_succ, Array.replicate_zero, List.push_toArray, List.append_toArray, List.nil_append, List.cons_append]
  have c1 := HK0.out.ct1
  go_wp2_with (first | (go_at_call 67; refine hu.out.mono ?_; rintro e w2 ⟨rfl, rfl⟩) | (go_at_call 45; fail))
  have hz0 := block_new w2 (.cells #[.slice none 0 0] 28) _ rfl
  refine (fiAll_any HK0.out.qa (by have := HGG.out; omega) [w2.heap.size] (by simp)).mono ?_
  rintro e w1 ⟨X, rfl, hS1, hb1⟩
  have HS1 := Lib.hid hS1
  have HZ1 := Lib.hid ((hb1.block _ (lt_of_block hz0)).trans hz0)
  have HB1 := Lib.hid ((below_alloc w2 (.cells #[.slice none 0 0] 28)).trans (hb1.mono (by simp)))
  have HL1 : Hid (w2.heap.size < w1.heap.size) := Lib.hid (by have := hb1.size; simp at this; omega)
  clear hS1 hb1 hz0 hu c1
  generalize hz : w2.heap.size = z at *
  have HZE := Lib.hid hz
  clear hz
  unfold seqV
  go_wp2_with fail
  refine (wpIn_wide (n := 6)).1 ?_
  refine range_vals (n := 6) (B := X) (Fs := [z]) (L := Q) (by omega) rfl HS1.out rfl
    (fun k W' => Below z w1 W' ∧ ∃ v, W'.heap[z]? = some (.cells #[v] 28 (0, 0)) ∧ Row TI W' w1.heap.size v ((Q.map Prod.snd).take k))
    (fun _ _ _ => False) ?hI ?hIx ?h0 ?round ?done ?stop
  case hI =>
    rintro k A A' row ⟨hb, v, h1, h2⟩ hg hr
    refine ⟨hb.grown hg (by have := hb.size; have := HL1.out; omega) (fun r e => by have := (hr r e).1; have := HL1.out; omega), v, (hg.block _ (lt_of_block h1) (fun e => by have := (hr _ e.symm).1; have := HL1.out; omega)).trans h1, h2.own hg hr⟩
  case hIx => exact fun _ _ _ _ _ h _ _ => h
  case h0 => exact ⟨Below.refl _ _, _, HZ1.out, Row.nil _ _⟩
  case stop => exact fun _ _ _ _ _ _ h _ => h.elim
  case done =>
    rintro D W' hD ⟨hbw, v, hcell, hout⟩ hK
    rw [← List.length_map (f := Prod.snd), List.take_length] at hout
    have HK := Lib.hid hK
    have HD := Lib.hid hD
    have c0 := cells_cell (o := 0) hcell rfl
    have hzl := lt_of_block hcell
    obtain ⟨va, vn, vc, rfl⟩ := row_form hout
    have HOUT := Lib.hid hout
    have HBW := Lib.hid (HB1.out.trans hbw)
    clear hbw hcell hout hK hD
    simp only [Exit.inBlock, Exit.then]
    go_at_K
    go_wp2_with fail
    have hKF := HK.out
    refine ⟨by simp, .inl ⟨_, _, rfl, run_takeDeferred hKF, ?_⟩⟩
    refine ⟨.slice va vn vc, by simp [results, Tryd.results43, go_sem], _, rfl, ?_, ?_⟩
    · rw [HZE.out]
      refine Row.own (B := D) (row := some D) ((HOUT.out.lower (Nat.le_of_lt HL1.out))) (grownBy_putObj' _ _ _) (fun r e => ?_)
      cases e
      exact ⟨Nat.le_refl _, _, hKF, rfl⟩
    · rw [HZE.out]
      exact HBW.out.trans ((belowK_b (w := w1) (Nat.le_refl _) W' D _ _ HD.out hKF rfl rfl).mono (Nat.le_of_lt HL1.out))
  case round =>
    rintro l2 n x W' hl hp hlets ⟨hbw, v, hcell, hout⟩
    gi_wp2
    refine ⟨trivial, ?_⟩
    clear hbw hcell hout hlets
    rintro W2 hlets ⟨hbw, v, hcell, hout⟩
    obtain ⟨va, vn, vc, rfl⟩ := row_form hout
    have c0 := cells_cell (o := 0) hcell rfl
    have f0 := cells_free hcell 0
    have hzl := lt_of_block hcell
    have hnl := (List.getElem?_eq_some_iff.1 hp).1
    have hxn := (List.getElem?_eq_some_iff.1 hp).2
    have htk : Hid ((Q.map Prod.snd).take (n + 1) = (Q.map Prod.snd).take n ++ [x.2]) := Lib.hid (by
      rw [List.take_succ_eq_append_getElem (by simpa using hnl)]
      congr 2
      rw [List.getElem_map, hxn])
    have hba := below_alloc W2 (.cells #[.int .i64 x.2] 3)
    have hrowA := Lib.hid (hout.below hba)
    have HOBJ := Lib.hid hout.obj
    have HB := Lib.hid hbw
    have HC := Lib.hid hcell
    have HL := Lib.hid hlets
    have HN := Lib.hid hnl
    clear hbw hcell hout hlets hp hnl hxn
    gi_wp2_with (gi_at_builtin; refine wpListIn_append_g TI_ok rfl (.tmp 16) (.tmp 18) rfl rfl rfl hrowA.out (by have := HL.out.size; simp; omega) (src_new TI_ok W2 x.2 #[.int .i64 x.2] rfl) (by have := HQL.out; have := HN.out; simp; omega) ?_)
    intro v' w3 ho hf hn
    rw [← htk.out] at ho
    obtain ⟨va', vn', vc', rfl⟩ := row_form ho
    have hC0 := (hba.block _ hzl).trans HC.out
    obtain ⟨g1, g2, g3⟩ := boxed_append hC0 (by decide) hrowA.out ho hf HL1.out
    have hfr := ((Fr.of_below hba (z :: (Value.slice va vn vc).ownBlock.toList)).trans' (hf.mono (fun y hy => .inl (List.mem_cons_of_mem _ hy)))).trans' ((fr_setCell w3 ⟨z, 0, none⟩ (.slice va' vn' vc')).mono (fun y hy => .inl (by simp at hy; subst hy; exact List.mem_cons_self)))
    have hold : ∀ y ∈ z :: (Value.slice va vn vc).ownBlock.toList, y = z ∨ w1.heap.size ≤ y := fun y hy => by
      rcases List.mem_cons.1 hy with h | h
      · exact .inl h
      · exact .inr (hrowA.out.lt y (by simpa using h)).1
    have HG2 := Lib.hid g2
    have HG3 := Lib.hid g3
    have HKF : Hid (KeepsFrom w1.heap.size W2 (w3.setCell ⟨z, 0, none⟩ (.slice va' vn' vc'))) := Lib.hid (keepsFrom_fr hfr (fun y hy => by
      rcases List.mem_cons.1 hy with rfl | h
      · exact ⟨_, HC.out, rfl⟩
      · exact HOBJ.out y (by simpa using h)))
    have HLT : Hid (Lets [z] w1.heap.size W2 (w3.setCell ⟨z, 0, none⟩ (.slice va' vn' vc'))) := Lib.hid ⟨hfr.size, fun k hk hn => hfr.block k (by have := HL.out.size; omega) (fun hm => by
      rcases hold k hm with h | h
      · exact hn (by simp [h])
      · omega)⟩
    have HBB : Hid (Below z w1 (w3.setCell ⟨z, 0, none⟩ (.slice va' vn' vc'))) := Lib.hid (HB.out.trans (hfr.below (fun y hy => by rcases hold y hy with h | h <;> have := HL1.out <;> omega) (by omega)))
    have c0 := cells_cell (o := 0) g1 rfl
    have f0 := cells_free g1 0
    have hzl := lt_of_block g1
    clear ho hf hn hC0 g1 g2 g3 hfr hold hba hrowA
    gi_wp2
    exact ⟨HKF.out, HLT.out, HBB.out, _, HG2.out, HG3.out⟩
end Go.Proofs.YtcdimopiaanfbaaDoor
