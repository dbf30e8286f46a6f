/- PPlay: PLook, PPlays, merged. -/
import Derived.Test.YtcdimopiaanfbaaDoorPDos
import Derived.Deep.CutBlock
import Derived.Deep.RegionWith
import Derived.LoopTactic
import Derived.Deep.LoopGhost
import Derived.Test.YtcdimopiaanfbaaDoorPEnd
/- The law's looks: a lot has the states, the run set and the queues of the reference's. -/
namespace Go.Proofs.YtcdimopiaanfbaaDoor
open Go.RowKit Go.Sort
set_option linter.unusedVariables false
set_option linter.unusedSimpArgs false

/-- A slice with one element is a row. -/
theorem row_one {α : Type} {T : GT α} (hT : T.Ok) (w : World) (x : α) (cs : Array Value) (hcs : cs.toList = T.enc x) : Row T (w.alloc (.cells cs T.te)) w.heap.size (.slice (some ⟨w.heap.size, 0, none⟩) 1 1) [x] := by
  have hl : cs.size = T.s := by
    have := hT.len x
    rw [← hcs] at this
    simpa using this
  refine ⟨by rw [flt_len hT.len], .inr ⟨w.heap.size, 1, cs, rfl, Nat.le_refl _, heap_alloc_new w _, Nat.le_refl _, by unfold maxLen; omega, by rw [hl, Nat.one_mul], ?_⟩⟩
  have : flt T.enc [x] = T.enc x := by show T.enc x ++ [] = _; rw [List.append_nil]
  rw [this, hcs]
  refine List.take_of_length_le ?_
  rw [hT.len]
  simp
set_option maxRecDepth 100000 in
set_option maxHeartbeats 12800000 in
theorem looks9_any {B b : Nat} {S : Nat → Prop} {w : World} {l : Ll} {z : Zt} {G : Nat} {s r x : Value} (h : LS B S w l z G) (hR : RL w b s r x z) (hG : G ≤ 1000000) (t1 t2 : Int) :
    Calls Tryd.prog 12 #[.pointer (some ⟨l.a, 0, none⟩), rlv s r x, .agg #[.int .i64 t1, .int .i64 t2]] w fun e w' => e = .returned (.bool true) ∧ Below w.heap.size w w' := by
  obtain ⟨sa, sn, sc, ra, rn, rc, xa, xn, xc, rfl, rfl, rfl⟩ := rl_form hR
  obtain ⟨W, hW⟩ : ∃ W, (w.alloc (.cells #[.slice sa sn sc, .slice ra rn rc, .slice xa xn xc] 33)).alloc (.cells #[.int .i64 t1, .int .i64 t2] 38) = W := ⟨_, rfl⟩
  have HB : Hid (Below w.heap.size w W) := Lib.hid (by rw [← hW]; exact (((Grn.refl w).alloc _).alloc _).below)
  have HX : Hid (W.heap[w.heap.size]? = some (.cells #[.slice sa sn sc, .slice ra rn rc, .slice xa xn xc] 33 (0, 0))) := Lib.hid (by rw [← hW]; exact ((below_alloc _ _).block _ (by simp)).trans (block_new _ _ _ rfl))
  have HY : Hid (W.heap[w.heap.size + 1]? = some (.cells #[.int .i64 t1, .int .i64 t2] 38 (0, 0))) := Lib.hid (by rw [← hW]; exact block_new _ _ _ (by simp))
  have HL := Lib.hid (h.grown HB.out)
  have HR := Lib.hid (hR.below HB.out)
  have HZ := Lib.hid h.zk
  have hsn : z.S.length = sn := by obtain ⟨a, c, e, _, _⟩ := hR.s.form; simp at e; exact e.2.1.symm
  have HSN := Lib.hid hsn
  have HGB := Lib.hid hG
  have hn64 : ((sn : Nat) : Int) ≤ 64 := by have := h.zk.n2; omega
  have hx64 : Hid (z.L.length ≤ 64) := Lib.hid h.zk.l
  have HW := Lib.hid hW
  clear h hR hG hW hsn
  unfold rlv
  go_enter Tryd.func12, Tryd.ntmps12
  go_wp2_with fail
  rw [HW.out]
  clear HW
  generalize hzz : w.heap.size = zz at *
  have HZZ := Lib.hid hzz
  clear hzz
  have hld : ∀ W', Below W.heap.size W W' → W'.cell? ⟨zz, 0, none⟩ = some (.slice sa sn sc) ∧ W'.cell? ⟨zz, 1, none⟩ = some (.slice ra rn rc) ∧ W'.cell? ⟨zz, 2, none⟩ = some (.slice xa xn xc) ∧ zz < W'.heap.size := fun W' hb => by
    have e0 := (hb.block _ (lt_of_block HX.out)).trans HX.out
    exact ⟨cells_cell e0 rfl, cells_cell e0 rfl, cells_cell e0 rfl, lt_of_block e0⟩
  have HS : Hid (Below W.heap.size W W.drew) := Lib.hid (Below.refl _ _).drew
  refine wp_region_mix (fun W' => Below W.heap.size W W') 15 [(true, 0), (true, 2), (true, 3), (true, 4), (true, 5), (false, 1), (false, 6), (false, 7), (true, 8), (true, 10), (true, 11), (true, 12), (false, 9), (false, 13), (false, 14)] (by kernel_rfl) (by kernel_rfl) (fun _ _ _ d _ h => by cases d <;> exact h) ?_
  simp only [List.map_cons, List.map_nil, List.getD_cons_zero, List.getD_cons_succ, List.drop_succ_cons, List.drop_zero]
  refine mix_move (.tmp 0) (.pointer (some ⟨l.a, 0, none⟩)) rfl HS.out rfl rfl ?_
  simp only [Act.put, List.setIfInBounds_toArray, List.set_cons_zero, List.set_cons_succ]
  refine mix_take (.pointer (some ⟨zz, 0, none⟩)) HS.out rfl (fun W' hS => by go_simp) ?_
  simp only [Act.put, List.setIfInBounds_toArray, List.set_cons_zero, List.set_cons_succ]
  refine mix_take (.pointer (some ⟨zz, 0, none⟩)) HS.out rfl (fun W' hS => by go_simp) ?_
  simp only [Act.put, List.setIfInBounds_toArray, List.set_cons_zero, List.set_cons_succ]
  refine mix_take (.slice sa sn sc) HS.out rfl (fun W' hS => by obtain ⟨l0, l1, l2, l3⟩ := hld W' hS; go_simp) ?_
  simp only [Act.put, List.setIfInBounds_toArray, List.set_cons_zero, List.set_cons_succ]
  refine mix_take (.int .i64 ((sn : Nat) : Int)) HS.out rfl (fun W' hS => by go_simp) ?_
  simp only [Act.put, List.setIfInBounds_toArray, List.set_cons_zero, List.set_cons_succ]
  refine mix_step rfl (fun K hK => ?_)
  go_simp
  go_wp2_with (go_at_call 25; fail)
  have hln := pkLen_yes (HL.out.grown HS.out)
  rw [HSN.out] at hln
  refine hln.mono ?_
  rintro e wz ⟨rfl, he⟩
  have he := he.symm
  subst he
  refine hK _ _ HS.out ?_
  clear hK hln
  refine mix_by (.bool false) rfl (by go_simp) HS.out ?_
  simp only [Act.put, List.setIfInBounds_toArray, List.set_cons_zero, List.set_cons_succ]
  refine mix_moved (.tmp 29) (.bool false) rfl rfl rfl HS.out ?_
  simp only [Act.put, List.setIfInBounds_toArray, List.set_cons_zero, List.set_cons_succ]
  refine mix_move (.tmp 0) (.pointer (some ⟨l.a, 0, none⟩)) rfl HS.out rfl rfl ?_
  simp only [Act.put, List.setIfInBounds_toArray, List.set_cons_zero, List.set_cons_succ]
  refine mix_take (.pointer (some ⟨zz, 0, none⟩)) HS.out rfl (fun W' hS => by go_simp) ?_
  simp only [Act.put, List.setIfInBounds_toArray, List.set_cons_zero, List.set_cons_succ]
  refine mix_take (.pointer (some ⟨zz, 1, none⟩)) HS.out rfl (fun W' hS => by go_simp) ?_
  simp only [Act.put, List.setIfInBounds_toArray, List.set_cons_zero, List.set_cons_succ]
  refine mix_take (.slice ra rn rc) HS.out rfl (fun W' hS => by obtain ⟨l0, l1, l2, l3⟩ := hld W' hS; go_simp) ?_
  simp only [Act.put, List.setIfInBounds_toArray, List.set_cons_zero, List.set_cons_succ]
  refine mix_step rfl (fun K hK => ?_)
  go_simp
  go_wp2_with (go_at_call 13; fail)
  refine (pkReady_any (HL.out.grown HS.out) HGB.out).mono ?_
  rintro e wz ⟨u, rfl, hr, hb⟩
  obtain ⟨ua, un, uc, rfl⟩ := row_form hr
  have HS := Lib.hid (HS.out.trans (hb.mono HS.out.size))
  have HU := Lib.hid (hr.src TI_ok)
  clear hr hb
  refine hK _ _ HS.out ?_
  clear hK
  refine mix_step rfl (fun K hK => ?_)
  go_simp
  go_wp2_with (go_at_call 29; fail)
  refine (same_yes HU.out ((HR.out.below HS.out).r.src TI_ok) (by have := HZ.out.r; omega)).mono ?_
  rintro e wz ⟨rfl, hg⟩
  have HS := Lib.hid (HS.out.trans (hg.below.mono HS.out.size))
  clear hg HU
  refine hK _ _ HS.out ?_
  clear hK
  refine mix_by (.bool false) rfl (by go_simp) HS.out ?_
  simp only [Act.put, List.setIfInBounds_toArray, List.set_cons_zero, List.set_cons_succ]
  refine mix_nil ?_
  clear hld
  replace HX := Lib.hid (box_below HS.out HX.out)
  replace HY := Lib.hid (box_below HS.out HY.out)
  replace HL := Lib.hid (HL.out.grown HS.out)
  replace HR := Lib.hid (HR.out.below HS.out)
  replace HB := Lib.hid (HB.out.trans (HS.out.mono (by have h1 := HB.out.size; have h2 := HZZ.out; omega)))
  clear HS
  have hnq := neq_spot_same
  have x0 : wz.cell? ⟨zz, 0, none⟩ = some (.slice sa sn sc) := cells_cell HX.out rfl
  have x1 : wz.cell? ⟨zz, 1, none⟩ = some (.slice ra rn rc) := cells_cell HX.out rfl
  have x2 : wz.cell? ⟨zz, 2, none⟩ = some (.slice xa xn xc) := cells_cell HX.out rfl
  have xl := lt_of_block HX.out
  go_wp2_with fail
  go_loopw [7] (fun i wr => ∃ (j : Nat), j ≤ sn + 2 ∧ i = .int .i64 (((j : Nat) : Int) - 1) ∧ Hid (Below wz.heap.size wz wr)) (fun i _ => sn + 2 - (intOf i + 1).toNat)
  case atStart => exact ⟨0, Nat.zero_le _, rfl, Lib.hid (Below.refl _ _)⟩
  case round =>
    clear x0 x1 x2 xl
    obtain ⟨j, hj, rfl, HD⟩ := hrel
    replace HX := Lib.hid (box_below HD.out HX.out)
    replace HY := Lib.hid (box_below HD.out HY.out)
    replace HL := Lib.hid (HL.out.grown HD.out)
    replace HR := Lib.hid (HR.out.below HD.out)
    replace HB := Lib.hid (HB.out.trans (HD.out.mono (by have h1 := HB.out.size; have h2 := HZZ.out; omega)))
    have x0 : wr.cell? ⟨zz, 0, none⟩ = some (.slice sa sn sc) := cells_cell HX.out rfl
    have x1 : wr.cell? ⟨zz, 1, none⟩ = some (.slice ra rn rc) := cells_cell HX.out rfl
    have x2 : wr.cell? ⟨zz, 2, none⟩ = some (.slice xa xn xc) := cells_cell HX.out rfl
    have xl := lt_of_block HX.out
    by_cases hlt : j ≤ sn + 1
    · obtain ⟨q, hq⟩ : ∃ q : Int, q = ((j : Nat) : Int) - 1 := ⟨_, rfl⟩
      have hq1 : q ≤ (sn : Int) := by omega
      have hq0 : -1 ≤ q := by omega
      have HQ := Lib.hid hq
      rw [← hq]
      clear hq
      go_wp2_with (go_at_call 20; fail)
      refine (pkState_any HL.out q).mono ?_
      rintro e w2 ⟨rfl, he⟩
      have he := he.symm
      subst he
      go_wp2_with (go_at_call 39; fail)
      have hst := g8State HR.out.s HR.out.r HZ.out.n2 q
      unfold rk at hst
      refine hst.mono ?_
      rintro e w2 ⟨rfl, hg⟩
      clear hst x0 x1 x2 xl
      generalize (stC z q).1 = y1 at *
      generalize (stC z q).2 = y2 at *
      have HD2 := Lib.hid (HD.out.trans (hg.below.mono HD.out.size))
      replace HX := Lib.hid (box_below hg.below HX.out)
      replace HY := Lib.hid (box_below hg.below HY.out)
      replace HL := Lib.hid (HL.out.grown hg.below)
      replace HR := Lib.hid (HR.out.below hg.below)
      replace HB := Lib.hid (HB.out.trans (hg.below.mono (by have h1 := HB.out.size; have h2 := HZZ.out; omega)))
      clear hg HD
      go_wp2_with (go_at_call 19; fail)
      refine (pkWhere_any HL.out q).mono ?_
      rintro e w3 ⟨rfl, hg⟩
      obtain ⟨p1, p2, y3, hwh⟩ : ∃ p1 p2 y3, whC z q = ((p1, p2), y3) := ⟨_, _, _, rfl⟩
      have HWH := Lib.hid hwh
      rw [hwh]
      simp only
      clear hwh
      have HD3 := Lib.hid (HD2.out.trans (hg.below.mono HD2.out.size))
      replace HX := Lib.hid (box_below hg.below HX.out)
      replace HY := Lib.hid (box_below hg.below HY.out)
      replace HL := Lib.hid (HL.out.grown hg.below)
      replace HR := Lib.hid (HR.out.below hg.below)
      replace HB := Lib.hid (HB.out.trans (hg.below.mono (by have h1 := HB.out.size; have h2 := HZZ.out; omega)))
      have hba := below_alloc w3 (.cells #[.int .i64 p1, .int .i64 p2] 38)
      have HP := Lib.hid (block_new w3 (.cells #[.int .i64 p1, .int .i64 p2] 38) _ rfl)
      have HD4 := Lib.hid (HD3.out.trans (hba.mono HD3.out.size))
      have x0 : w3.cell? ⟨zz, 0, none⟩ = some (.slice sa sn sc) := cells_cell HX.out rfl
      have x1 : w3.cell? ⟨zz, 1, none⟩ = some (.slice ra rn rc) := cells_cell HX.out rfl
      have x2 : w3.cell? ⟨zz, 2, none⟩ = some (.slice xa xn xc) := cells_cell HX.out rfl
      have xl := lt_of_block HX.out
      replace HX := Lib.hid (box_below hba HX.out)
      replace HY := Lib.hid (box_below hba HY.out)
      replace HL := Lib.hid (HL.out.grown hba)
      replace HR := Lib.hid (HR.out.below hba)
      replace HB := Lib.hid (HB.out.trans (hba.mono (by have h1 := HB.out.size; have h2 := HZZ.out; omega)))
      clear hg hba HD2 HD3
      go_wp2_with (go_at_call 40; fail)
      have hw9 := g9Where_any HR.out HZ.out q
      rw [HWH.out] at hw9
      unfold rlv at hw9
      refine hw9.mono ?_
      rintro e w5 ⟨rfl, hb⟩
      clear hw9 x0 x1 x2 xl
      have HD5 := Lib.hid (HD4.out.trans (hb.mono HD4.out.size))
      replace HX := Lib.hid (box_below hb HX.out)
      replace HY := Lib.hid (box_below hb HY.out)
      replace HP := Lib.hid (box_below hb HP.out)
      replace HL := Lib.hid (HL.out.grown hb)
      replace HR := Lib.hid (HR.out.below hb)
      replace HB := Lib.hid (HB.out.trans (hb.mono (by have h1 := HB.out.size; have h2 := HZZ.out; omega)))
      have hbb := below_alloc w5 (.cells #[.int .i64 p1, .int .i64 p2] 38)
      have p0 : w5.cell? ⟨w3.heap.size, 0, none⟩ = some (.int .i64 p1) := cells_cell HP.out rfl
      have p1' : w5.cell? ⟨w3.heap.size, 1, none⟩ = some (.int .i64 p2) := cells_cell HP.out rfl
      have pl := lt_of_block HP.out
      have HD6 := Lib.hid (HD5.out.trans (hbb.mono HD5.out.size))
      clear hb hbb HD4 HD5 HL HR HX HY HB
      generalize w3.heap.size = kp at *
      go_wp2_with fail
      go_roundw
      case rel => exact ⟨j + 1, by omega, by have := HQ.out; go_num, HD6⟩
      case measure => simp [intOf]; have := HQ.out; omega
    · obtain rfl : j = sn + 2 := by omega
      have hcond : decide (((sn + 2 : Nat) : Int) - 1 ≤ ((sn : Nat) : Int)) = false := decide_eq_false (by omega)
      have y0 : wr.cell? ⟨zz + 1, 0, none⟩ = some (.int .i64 t1) := cells_cell HY.out rfl
      have y1 : wr.cell? ⟨zz + 1, 1, none⟩ = some (.int .i64 t2) := cells_cell HY.out rfl
      have yl := lt_of_block HY.out
      have HO : Hid (Row TSe (wr.alloc (.cells #[.int .i64 0, .int .i64 t1, .int .i64 t2] 90)) wr.heap.size (.slice (some ⟨wr.heap.size, 0, none⟩) 1 1) [(0, (t1, t2))]) := Lib.hid (row_one TSe_ok wr (0, (t1, t2)) #[.int .i64 0, .int .i64 t1, .int .i64 t2] rfl)
      have hba := below_alloc wr (.cells #[.int .i64 0, .int .i64 t1, .int .i64 t2] 90)
      have HSL := Lib.hid ((HR.out.l.src TSe_ok).grown hba)
      clear HD
      go_wp2_with (at_builtin; refine wpList_append_g TSe_ok rfl (.tmp 92) (.tmp 94) rfl rfl rfl HO.out (by simp) HSL.out (by have := hx64.out; simp; omega) ?_)
      intro v' wq ho hf hnr
      obtain ⟨va, vn, vc, rfl⟩ := row_form ho
      have hbq : Below wr.heap.size wr wq := hba.trans (hf.below (fun y hy => (HO.out.lt y (by simpa using hy)).1) hba.size)
      have HA : Hid (Row TSe wq wr.heap.size (.slice va vn vc) ((0, (t1, t2)) :: z.L)) := Lib.hid ho
      have hvn : vn = ((0, (t1, t2)) :: z.L).length := by obtain ⟨a, c, e, _, _⟩ := ho.form; simp at e ⊢; exact e.2.1
      replace HX := Lib.hid (box_below hbq HX.out)
      replace HL := Lib.hid (HL.out.grown hbq)
      replace HR := Lib.hid (HR.out.below hbq)
      replace HB := Lib.hid (HB.out.trans (hbq.mono (by have h1 := HB.out.size; have h2 := HZZ.out; omega)))
      clear ho hf hnr hbq hba HSL HO x0 x1 x2 xl y0 y1 yl
      have HVN := Lib.hid hvn
      have hv65 : ((vn : Nat) : Int) ≤ 65 := by have := hx64.out; rw [hvn]; simp; omega
      clear hvn hcond hj hlt
      generalize hA : (0, (t1, t2)) :: z.L = A at *
      clear hA
      go_wp2_with fail
      go_loopw [98] (fun i wr => ∃ (k : Nat), k ≤ vn ∧ i = .int .i64 ((k : Nat) : Int) ∧ Hid (Below wq.heap.size wq wr)) (fun i _ => vn - (intOf i).toNat)
      case atStart => exact ⟨0, Nat.zero_le _, rfl, Lib.hid (Below.refl _ _)⟩
      case round =>
        obtain ⟨k, hk, rfl, HD⟩ := hrel
        replace HX := Lib.hid (box_below HD.out HX.out)
        replace HL := Lib.hid (HL.out.grown HD.out)
        replace HR := Lib.hid (HR.out.below HD.out)
        replace HB := Lib.hid (HB.out.trans (HD.out.mono (by have h1 := HB.out.size; have h2 := HZZ.out; omega)))
        by_cases hlt : k < vn
        · have hkL : k < A.length := by rw [← HVN.out]; exact hlt
          have hkI : (k : Int) < (vn : Int) := by omega
          obtain ⟨g, rfl, hxn, hgl, c0, c1, c2⟩ := (HA.out.below HD.out).seat hkL
          generalize A[k] = q at *
          obtain ⟨qn, q1, q2⟩ := q
          simp only at c0 c1 c2
          clear hxn hkL
          have hbe := below_alloc wr (.cells #[.int .i64 ((qn : Nat) : Int), .int .i64 q1, .int .i64 q2] 90)
          have HE := Lib.hid (block_new wr (.cells #[.int .i64 ((qn : Nat) : Int), .int .i64 q1, .int .i64 q2] 90) _ rfl)
          have HD1 := Lib.hid (HD.out.trans (hbe.mono HD.out.size))
          replace HX := Lib.hid (box_below hbe HX.out)
          replace HL := Lib.hid (HL.out.grown hbe)
          replace HR := Lib.hid (HR.out.below hbe)
          replace HB := Lib.hid (HB.out.trans (hbe.mono (by have h1 := HB.out.size; have h2 := HZZ.out; omega)))
          clear hbe HD
          go_wp2_with (go_at_call 14; fail)
          refine (pkWaiting_any HL.out HGB.out (q1, q2)).mono ?_
          rintro e w5 ⟨v1, rfl, hr1, hb⟩
          obtain ⟨v1a, v1n, v1c, rfl⟩ := row_form hr1
          clear c0 c1 c2 hgl
          have HXW : Hid ((waC z (q1, q2)).1.length ≤ 64) := Lib.hid (by
            rw [waC_wt]
            have := wtC_len z (q1, q2)
            have := hx64.out
            simp [cat]
            omega)
          have HD2 := Lib.hid (HD1.out.trans (hb.mono HD1.out.size))
          replace HX := Lib.hid (box_below hb HX.out)
          replace HE := Lib.hid (box_below hb HE.out)
          replace HL := Lib.hid (HL.out.grown hb)
          replace HR := Lib.hid (HR.out.below hb)
          replace HB := Lib.hid (HB.out.trans (hb.mono (by have h1 := HB.out.size; have h2 := HZZ.out; omega)))
          clear hb HD1
          have e1 : w5.cell? ⟨wr.heap.size, 1, none⟩ = some (.int .i64 q1) := cells_cell HE.out rfl
          have e2 : w5.cell? ⟨wr.heap.size, 2, none⟩ = some (.int .i64 q2) := cells_cell HE.out rfl
          have el := lt_of_block HE.out
          have x0 : w5.cell? ⟨zz, 0, none⟩ = some (.slice sa sn sc) := cells_cell HX.out rfl
          have x1 : w5.cell? ⟨zz, 1, none⟩ = some (.slice ra rn rc) := cells_cell HX.out rfl
          have x2 : w5.cell? ⟨zz, 2, none⟩ = some (.slice xa xn xc) := cells_cell HX.out rfl
          have xl := lt_of_block HX.out
          go_wp2_with (go_at_call 41; fail)
          have hw9 := g9Waiting_any HR.out HZ.out (q1, q2)
          unfold rlv at hw9
          refine hw9.mono ?_
          rintro e w6 ⟨v2, rfl, hr2, hb⟩
          obtain ⟨v2a, v2n, v2c, rfl⟩ := row_form hr2
          have HS1 := Lib.hid ((hr1.below hb).src TI_ok)
          have HS2 := Lib.hid (hr2.src TI_ok)
          have HD3 := Lib.hid (HD2.out.trans (hb.mono HD2.out.size))
          generalize (waC z (q1, q2)).1 = X at *
          generalize (waC z (q1, q2)).2 = cd at *
          clear hb hr1 hr2 hw9 e1 e2 el x0 x1 x2 xl HD2 HE
          go_wp2_with (go_at_call 29; fail)
          refine (same_yes HS1.out HS2.out (by have := HXW.out; omega)).mono ?_
          rintro e w7 ⟨rfl, hg⟩
          have HD4 := Lib.hid (HD3.out.trans (hg.below.mono HD3.out.size))
          clear hg HD3 HS1 HS2 HL HR HX HB
          go_wp2_with fail
          go_roundw
          case rel => exact ⟨k + 1, by omega, by go_num, HD4⟩
          case measure => simp [intOf]; omega
        · obtain rfl : k = vn := by omega
          go_wp2_with fail
          go_ret
          exact ⟨rfl, by first | exact HB.out | (rw [HZZ.out]; exact HB.out)⟩
end Go.Proofs.YtcdimopiaanfbaaDoor
/- The walk of ParkPlays. -/
namespace Go.Proofs.YtcdimopiaanfbaaDoor
open Go.RowKit Go.Sort
set_option linter.unusedVariables false
set_option linter.unusedSimpArgs false

set_option maxHeartbeats 1600000 in
theorem g9New_no (w : World) (c : Int) (h : c < 1 ∨ 64 < c) : Calls Tryd.prog 10 #[.int .i64 c] w fun e w' => e = .returned (.tuple #[rlv (.slice none 0 0) (.slice none 0 0) (.slice none 0 0), .int .i64 2]) ∧ Below w.heap.size w w' := by
  have hu := Lib.hid (refNew_bad (w.alloc (.cells #[.slice none 0 0, .slice none 0 0, .slice none 0 0] 33)) c h)
  have HX0 := Lib.hid (block_new w (.cells #[.slice none 0 0, .slice none 0 0, .slice none 0 0] 33) _ rfl)
  have HB0 := Lib.hid (below_alloc w (.cells #[.slice none 0 0, .slice none 0 0, .slice none 0 0] 33))
  clear h
  unfold rk at hu
  go_enter Tryd.func10, Tryd.ntmps10
  go_wp2_with (go_at_call 31; fail)
  refine hu.out.mono ?_
  rintro e w1 ⟨rfl, hg⟩
  have HG := Lib.hid (HB0.out.trans (hg.below.mono HB0.out.size))
  have HX1 := Lib.hid (box_below hg.below HX0.out)
  have ha := below_alloc w1 (.cells #[.slice none 0 0, .slice none 0 0] 30)
  have hx := box_below ha HX1.out
  have x0 := cells_cell (o := 0) HX1.out rfl
  have x1 : w1.cell? ⟨w.heap.size, 1, none⟩ = some (.slice none 0 0) := cells_cell HX1.out rfl
  have x2 : w1.cell? ⟨w.heap.size, 2, none⟩ = some (.slice none 0 0) := cells_cell HX1.out rfl
  have f0 := cells_free HX1.out 0
  have f1 := cells_free HX1.out 1
  have f2 := cells_free HX1.out 2
  have xl := lt_of_block HX1.out
  have hf := ((fr_setCell w1 ⟨w.heap.size, 0, none⟩ (.slice none 0 0)).trans' (fr_setCell _ ⟨w.heap.size, 1, none⟩ (.slice none 0 0))).trans' (fr_setCell _ ⟨w.heap.size, 2, none⟩ (.slice none 0 0))
  have hset := cells_set (cells_set (cells_set HX1.out 0 (.slice none 0 0)) 1 (.slice none 0 0)) 2 (.slice none 0 0)
  have hb5 := below_alloc ((((w1.setCell ⟨w.heap.size, 0, none⟩ (.slice none 0 0)).setCell ⟨w.heap.size, 1, none⟩ (.slice none 0 0)).setCell ⟨w.heap.size, 2, none⟩ (.slice none 0 0))) (.cells #[.slice none 0 0, .slice none 0 0] 30)
  have HY5 := Lib.hid (box_below hb5 hset)
  have hb4 := HG.out.trans (hf.below (B := w.heap.size) (fun x hx => by simp at hx; omega) (by omega))
  have HB5 := Lib.hid (hb4.trans (hb5.mono hb4.size))
  clear ha hx hf hset hb4 hb5 HG HX1
  generalize hzz : w.heap.size = zz at *
  go_wp2_with fail
  have hy2 := HY5.out
  simp at hy2
  refine bodyPost_ret (v := .tuple #[.agg #[.slice none 0 0, .slice none 0 0, .slice none 0 0], .int .i64 2]) (by simp [results, Tryd.results10, go_sem, cells_cell (o := 0) hy2 rfl, cells_cell (o := 1) hy2 rfl, cells_cell (o := 2) hy2 rfl]) rfl ?_
  try rw [hzz]
  exact ⟨rfl, HB5.out⟩

theorem LS.mv {B : Nat} {S : Nat → Prop} {w : World} {l : Ll} {z : Zt} {G : Nat} (h : LS B S w l z G) : MvAt w := by
  obtain ⟨P, Q, g, f, pl, hA, r⟩ := h
  exact hA.k.mv
theorem RL.lower {w : World} {b b' : Nat} {s r x : Value} {z : Zt} (h : RL w b s r x z) (hb : b' ≤ b) : RL w b' s r x z := ⟨h.s.lower hb, h.r.lower hb, h.l.lower hb⟩
theorem E9.grown {w0 w w' : World} {l : Ll} {z : Zt} {G k : Nat} {s r x : Value} (h : E9 w0 w l z G s r x k) (hb : Below w.heap.size w w') : E9 w0 w' l z G s r x k := ⟨h.K.grown hb, h.R.below hb, h.g⟩
theorem E9.put {w0 w w' : World} {l : Ll} {z : Zt} {G k : Nat} {s r x : Value} (h : E9 w0 w l z G s r x k) {T : Nat} {y : Array Value} (hc : w.heap[T]? = some (.cells y 33 (0, 0))) (hT : w0.heap.size ≤ T) (hf : Fr [T] w w') : E9 w0 w' l z G s r x k :=
  ⟨h.K.put hc (by decide) hT hf, h.R.fr hf (fun k hk => by simp at hk; subst hk; exact ⟨_, _, hc, by decide, by decide⟩), h.g⟩
theorem E9.gb {w0 w : World} {l : Ll} {z : Zt} {G k : Nat} {s r x : Value} (h : E9 w0 w l z G s r x k) (hk : k ≤ 100) : G ≤ 10000 := by have := h.g; omega

set_option maxRecDepth 100000 in
set_option maxHeartbeats 12800000 in
theorem parkPlays_walk (c : Int) (sa : Option Addr) (len cap : Nat) (w : World) (hc : (Lit.int .i64 c).wf = true) (hr : IsActs9 w sa len cap) (hmv : MvAt w) :
    Calls Tryd.prog 3 #[.int .i64 c, .slice sa len cap] w fun e w' => e = .returned (.bool true) ∧ Below w.heap.size w w' := by
  clear hc
  by_cases hl : 80 < len
  · have hk := Lib.hid (known_any w hmv)
    have h1' : (80 : Int) < (len : Int) := by omega
    clear hr hmv
    go_enter Tryd.func3, Tryd.ntmps3
    go_wp2_with (go_at_call 8; refine hk.out.mono ?_; rintro e w1 ⟨rfl, hb⟩)
    go_ret
    exact ⟨rfl, hb⟩
  have g3 : decide ((80 : Int) < ((len : Nat) : Int)) = false := decide_eq_false (by omega)
  by_cases hm : c < 1 ∨ 64 < c
  · have hn := Lib.hid (pkNew_bad w c hm)
    have hf := Lib.hid (g9New_no w c hm)
    have HM := Lib.hid hmv
    clear hm hr hmv
    unfold rlv at hf
    go_enter Tryd.func3, Tryd.ntmps3
    go_wp2_with (go_at_call 9; refine hn.out.mono ?_; rintro e w1 ⟨rfl, hx⟩; have hx2 := hx.symm; clear hx; subst hx2)
    go_wp2_with (go_at_call 10; fail)
    refine hf.out.mono ?_
    rintro e w1 ⟨rfl, hg⟩
    have HB := Lib.hid (hg.trans ((below_alloc w1 (.cells #[.slice none 0 0, .slice none 0 0, .slice none 0 0] 33)).mono hg.size))
    clear hg
    go_wp2_with (go_at_call 8; fail)
    refine (known_any _ (HM.out.below HB.out HM.out.lt)).mono ?_
    rintro e w4 ⟨rfl, hb⟩
    go_wp2_with fail
    go_ret
    exact ⟨rfl, HB.out.trans (hb.mono HB.out.size)⟩
  · obtain ⟨n, rfl⟩ : ∃ n : Nat, c = ((n : Nat) : Int) := ⟨c.toNat, by omega⟩
    have HN : Hid (1 ≤ n ∧ n ≤ 64 ∧ len ≤ 80) := Lib.hid (by omega)
    have HMV := Lib.hid hmv
    clear hm hmv hl
    go_enter Tryd.func3, Tryd.ntmps3
    go_wp2_with (go_at_call 9; fail)
    refine (pkNew_ok (B := w.heap.size) (S := fun x => w.heap.size ≤ x) w HMV.out (Nat.le_refl _) HMV.out.lt (fun x hx => hx) (fun x hx => hx) n HN.out.1 HN.out.2.1).mono ?_
    rintro e w1 ⟨l, rfl, hL, hb1⟩
    have HK1 := Lib.hid (kl_new (Below.refl _ _) hL hb1)
    clear hL hb1
    go_wp2_with (go_at_call 10; fail)
    have hrn := g9New_ok w1 n HN.out.1 HN.out.2.1
    unfold rlv at hrn
    refine hrn.mono ?_
    rintro e w2 ⟨s, r, x, rfl, hs, hb2⟩
    obtain ⟨s1, s2, s3, r1, r2, r3, x1, x2, x3, rfl, rfl, rfl⟩ := rl_form hs
    have hba := below_alloc w2 (.cells #[.slice s1 s2 s3, .slice r1 r2 r3, .slice x1 x2 x3] 33)
    have hE0 : E9 w w2 l (Z0 n) 0 (.slice s1 s2 s3) (.slice r1 r2 r3) (.slice x1 x2 x3) 0 := ⟨HK1.out.grown hb2, hs.lower HK1.out.below.size, Nat.zero_le _⟩
    have HS := Lib.hid (And.intro (hE0.grown hba) (block_new w2 (.cells #[.slice s1 s2 s3, .slice r1 r2 r3, .slice x1 x2 x3] 33) _ rfl))
    have HTl : Hid (w.heap.size ≤ w2.heap.size) := Lib.hid (Nat.le_trans HK1.out.below.size hb2.size)
    clear hs hb2 hba hrn HK1 hE0
    go_upto_region 5 with (fail)
    generalize w2.alloc (.cells #[.slice s1 s2 s3, .slice r1 r2 r3, .slice x1 x2 x3] 33) = W at *
    generalize w2.heap.size = T at *
    go_wp2_with fail
    go_loopw [5, 41] (fun tv i wr => ∃ (k G : Nat) (l : Ll) (z : Zt) (s r x : Value), k ≤ len ∧ tv = .pointer (some ⟨l.a, 0, none⟩) ∧ i = .int .i64 ((k : Nat) : Int) ∧ Hid (E9 w wr l z G s r x k ∧ wr.heap[T]? = some (.cells #[s, r, x] 33 (0, 0)))) (fun _ i _ => len - (intOf i).toNat)
    case atStart => exact ⟨0, 0, l, _, _, _, _, Nat.zero_le _, rfl, rfl, HS⟩
    case round =>
      clear HS
      obtain ⟨k, G, l, z, s, r, x, hk, rfl, rfl, HD⟩ := hrel
      by_cases hlt : k < len
      · rcases hr with h0 | ⟨ab, off, rfl, _, hblt, hcs⟩
        · omega
        · obtain ⟨a0, a1, a2, a3, c0, c1, c2, c3, -⟩ := hcs k hlt
          have hbw := HD.out.1.K.below
          have c0 : wr.cell? ⟨ab, off + k * 4, none⟩ = some (.int .i64 a0) := (hbw.cell (p := ⟨ab, off + k * 4, none⟩) hblt).trans c0
          have c1 : wr.cell? ⟨ab, off + k * 4 + 1, none⟩ = some (.int .i64 a1) := (hbw.cell (p := ⟨ab, off + k * 4 + 1, none⟩) hblt).trans c1
          have c2 : wr.cell? ⟨ab, off + k * 4 + 2, none⟩ = some (.int .i64 a2) := (hbw.cell (p := ⟨ab, off + k * 4 + 2, none⟩) hblt).trans c2
          have c3 : wr.cell? ⟨ab, off + k * 4 + 3, none⟩ = some (.int .i64 a3) := (hbw.cell (p := ⟨ab, off + k * 4 + 3, none⟩) hblt).trans c3
          obtain ⟨p1, p2, p3, r1, r2, r3, x1, x2, x3, rfl, rfl, rfl⟩ := rl_form HD.out.1.R
          clear hcs hbw
          have hba := below_alloc wr (.cells #[.int .i64 a0, .int .i64 a1, .int .i64 a2, .int .i64 a3] 40)
          have D1 := HD.out.1.grown hba
          have hbox1 := (hba.block T (lt_of_block HD.out.2)).trans HD.out.2
          have k0 : (wr.alloc (.cells #[.int .i64 a0, .int .i64 a1, .int .i64 a2, .int .i64 a3] 40)).cell? ⟨T, 0, none⟩ = some (.slice p1 p2 p3) := cells_cell hbox1 rfl
          have k1 : (wr.alloc (.cells #[.int .i64 a0, .int .i64 a1, .int .i64 a2, .int .i64 a3] 40)).cell? ⟨T, 1, none⟩ = some (.slice r1 r2 r3) := cells_cell hbox1 rfl
          have k2 : (wr.alloc (.cells #[.int .i64 a0, .int .i64 a1, .int .i64 a2, .int .i64 a3] 40)).cell? ⟨T, 2, none⟩ = some (.slice x1 x2 x3) := cells_cell hbox1 rfl
          have tl := lt_of_block hbox1
          have HAC := Lib.hid (block_new wr (.cells #[.int .i64 a0, .int .i64 a1, .int .i64 a2, .int .i64 a3] 40) _ rfl)
          have HDO := Lib.hid (do9_any D1 (by have := HN.out.2.2; omega) a0 a1 a2 a3)
          have HX1 := Lib.hid hbox1
          have HTW : Hid (T ≠ wr.heap.size) := Lib.hid (by have := lt_of_block HD.out.2; omega)
          clear D1 hbox1 HD hba
          unfold rlv at HDO
          go_wp2_with (go_at_call 11; fail)
          clear k0 k1 k2 tl
          refine HDO.out.mono ?_
          rintro e w3 ⟨hFr, l', z', G', s', r', x', rfl, hD⟩
          obtain ⟨u1, u2, u3, v1, v2, v3, y1, y2, y3, rfl, rfl, rfl⟩ := rl_form hD.R
          have hbox2 := hFr.block HX1.out (by decide) (by decide)
          replace HAC := Lib.hid (hFr.block HAC.out (by decide) (by decide))
          have k0 : w3.cell? ⟨T, 0, none⟩ = some (.slice p1 p2 p3) := cells_cell hbox2 rfl
          have k1 : w3.cell? ⟨T, 1, none⟩ = some (.slice r1 r2 r3) := cells_cell hbox2 rfl
          have k2 : w3.cell? ⟨T, 2, none⟩ = some (.slice x1 x2 x3) := cells_cell hbox2 rfl
          have z0 := cells_free hbox2 0
          have z1 := cells_free hbox2 1
          have z2 := cells_free hbox2 2
          have lT := lt_of_block hbox2
          have hf5 := ((fr_setCell w3 ⟨T, 0, none⟩ (.slice u1 u2 u3)).trans' (fr_setCell _ ⟨T, 1, none⟩ (.slice v1 v2 v3))).trans' (fr_setCell _ ⟨T, 2, none⟩ (.slice y1 y2 y3))
          have HD5 := Lib.hid (hD.put hbox2 HTl.out hf5)
          have HX5 : Hid ((((w3.setCell ⟨T, 0, none⟩ (.slice u1 u2 u3)).setCell ⟨T, 1, none⟩ (.slice v1 v2 v3)).setCell ⟨T, 2, none⟩ (.slice y1 y2 y3)).heap[T]? = some (.cells #[.slice u1 u2 u3, .slice v1 v2 v3, .slice y1 y2 y3] 33 (0, 0))) := Lib.hid (by simpa using cells_set (cells_set (cells_set hbox2 0 (.slice u1 u2 u3)) 1 (.slice v1 v2 v3)) 2 (.slice y1 y2 y3))
          replace HAC := Lib.hid (hf5.same HAC.out (by have := HTW.out; simp; omega))
          clear hD hFr hbox2 HDO HX1 hf5 HTW
          unfold rlv
          go_upto_region 14 with (fail)
          generalize ((w3.setCell ⟨T, 0, none⟩ (.slice u1 u2 u3)).setCell ⟨T, 1, none⟩ (.slice v1 v2 v3)).setCell ⟨T, 2, none⟩ (.slice y1 y2 y3) = w5 at *
          generalize wr.heap.size = ka at *
          clear k0 k1 k2 z0 z1 z2 lT
          have k0 : w5.cell? ⟨T, 0, none⟩ = some (.slice u1 u2 u3) := cells_cell HX5.out rfl
          have k1 : w5.cell? ⟨T, 1, none⟩ = some (.slice v1 v2 v3) := cells_cell HX5.out rfl
          have k2 : w5.cell? ⟨T, 2, none⟩ = some (.slice y1 y2 y3) := cells_cell HX5.out rfl
          have lT := lt_of_block HX5.out
          have b2 : w5.cell? ⟨ka, 2, none⟩ = some (.int .i64 a2) := cells_cell HAC.out rfl
          have b3 : w5.cell? ⟨ka, 3, none⟩ = some (.int .i64 a3) := cells_cell HAC.out rfl
          have bl := lt_of_block HAC.out
          go_wp2_with (go_at_call 12; fail)
          have hlk := looks9_any HD5.out.K.K HD5.out.R (by have := HD5.out.gb (by have := HN.out.2.2; omega); omega) a2 a3
          unfold rlv at hlk
          refine hlk.mono ?_
          rintro e w6 ⟨rfl, hb6⟩
          have HFIN : Hid (E9 w w6 l' z' G' (.slice u1 u2 u3) (.slice v1 v2 v3) (.slice y1 y2 y3) (k + 1) ∧ w6.heap[T]? = some (.cells #[.slice u1 u2 u3, .slice v1 v2 v3, .slice y1 y2 y3] 33 (0, 0))) := Lib.hid ⟨HD5.out.grown hb6, (hb6.block T (lt_of_block HX5.out)).trans HX5.out⟩
          clear hlk hb6 HD5 HX5 k0 k1 k2 lT b2 b3 bl HAC
          go_wp2_with fail
          go_roundw
          case rel => exact ⟨k + 1, G', l', z', _, _, _, by omega, rfl, by go_num, HFIN⟩
          case measure => simp [intOf]; omega
      · obtain rfl : k = len := by omega
        clear hr
        go_wp2_with (go_at_call 8; fail)
        refine (known_any _ HD.out.1.K.K.mv).mono ?_
        rintro e w4 ⟨rfl, hb⟩
        go_wp2_with fail
        go_ret
        exact ⟨rfl, HD.out.1.K.below.trans (hb.mono HD.out.1.K.below.size)⟩
end Go.Proofs.YtcdimopiaanfbaaDoor
