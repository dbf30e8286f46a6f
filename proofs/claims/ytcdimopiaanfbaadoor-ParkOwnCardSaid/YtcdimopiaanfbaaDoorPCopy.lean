/- Copy. -/
import Derived.Test.YtcdimopiaanfbaaDoorPNew
import Derived.Test.YtcdimopiaanfbaaDoorEMix
import Derived.LoopTactic
import Derived.Deep.LoopGhost
namespace Go.Proofs.YtcdimopiaanfbaaDoor
open Go.RowKit Go.Sort Go.MapKept
set_option linter.unusedVariables false
set_option linter.unusedSimpArgs false

theorem make_hint (W : World) (n : Nat) : (Instr.makeMap 50 (some (.int .i64 ((n : Nat) : Int)))).run Tryd.prog W = .ok (.map (some W.heap.size)) (W.alloc (.map #[] 0)) := by
  have h : Tryd.prog.underlying 50 = some _ := Tryd.underlying50
  simp [Instr.makeMap, run_underlying h, asInt, asIntOf, Result.andThen]
section
variable {B : Nat} {S : Nat → Prop} {w w' : World} {l : Ll} {P : Ks} {Q : Qu} {g i k : Nat} {f : Sp → Option Qd} {pl : Int → Option Pl} {z : Zt} {G : Nat} {s : Sp} {p : Ck}
set_option maxRecDepth 100000 in
set_option maxHeartbeats 6400000 in
theorem pkCopy_yes (h : LS B S w l z G) (hB0 : 0 < w.heap.size) :
    Calls Tryd.prog 26 #[.pointer (some ⟨l.a, 0, none⟩)] w fun e w' => ∃ l', e = .returned (.pointer (some ⟨l'.a, 0, none⟩)) ∧ LS w.heap.size (fun x => w.heap.size ≤ x) w' l' z G ∧ Below w.heap.size w w' := by
  obtain ⟨P, Q, g, f, pl, hA, hZ, hg, h1, h2⟩ := h
  obtain ⟨n, hm⟩ := hA.mq
  have ht := Lib.hid (pkTable_yes hA)
  have c1 := hA.ca1
  have al := hA.lt
  have hln := MapAt.len TQ_ok hm
  have hmk := make_hint w n
  simp only [TQ] at hln
  have HA := Lib.hid hA
  have HZ := Lib.hid (And.intro hZ (And.intro hg (And.intro h1 (And.intro h2 hB0))))
  have HBW : Hid (B ≤ w.heap.size) := Lib.hid (Nat.le_of_lt (Nat.lt_of_le_of_lt (hA.sl _ hA.sa.1) hA.lt))
  have hb1 := below_alloc w (.map #[] 0)
  have HB1 := Lib.hid hb1
  have HM1 := Lib.hid (hm.same (hb1.block _ hm.lt))
  have HM0 := Lib.hid (mapAt_made TQ w)
  clear hA hZ hg h1 h2 hm hb1 hB0
  go_enter Tryd.func26, Tryd.ntmps26
  go_wp2_with (first | (go_at_call 42; refine ht.out.mono ?_; rintro e w2 ⟨rfl, rfl⟩) | (at_range; refine wpList_rangeG TQ_ok rfl _ rfl HM1.out rfl ?_; intro w3 left cnt hit hlf hb3 hs3))
  go_frame
  have HI3 : Hid (ItAt TQ w3 l.mq (w2.heap.size + 1) (fun s => (f s).map (·.q)) left cnt) := Lib.hid (by simpa using hit)
  have hc3 : CpAt w2 w2.heap.size f w3 left (fun _ => none) := by
    refine ⟨⟨0, HM0.out.same (hb3.block _ (by simp))⟩, fun _ _ => rfl, fun s _ => ?_, fun s d' hd => (by cases hd), fun s s' d d' hd => (by cases hd), ?_⟩
    · cases hs : f s with
      | none => exact .inr rfl
      | some d => left; rw [hlf]; simp [hs]
    · have := hb3.size; simp at this; omega
  have HC3 := Lib.hid hc3
  have HB3 : Hid (Below w2.heap.size w2 w3) := Lib.hid (HB1.out.trans (hb3.mono (by simp)))
  have hsz : (w2.alloc (.map #[] 0)).heap.size = w2.heap.size + 1 := by simp
  try rw [hsz]
  clear hit hlf hb3 hs3 hc3 c1 al hln hmk ht hsz HM0 HM1 HB1
  generalize hzz : w2.heap.size = zz at *
  have HZZ := Lib.hid hzz
  have ZL : Hid (∀ W, Below zz w2 W → zz ≤ W.heap.size) := Lib.hid (fun W h => by have := h.size; omega)
  clear hzz
  go_loopw [] (fun wr => ∃ left cnt f', Hid (ItAt TQ wr l.mq (zz + 1) (fun s => (f s).map (·.q)) left cnt) ∧ Hid (CpAt w2 zz f wr left f') ∧ Hid (Below zz w2 wr)) (fun wr => itLeft wr l.mq (zz + 1))
  case atStart => exact ⟨_, _, _, HI3, HC3, HB3⟩
  case round =>
    clear HI3 HC3 HB3
    obtain ⟨left, cnt, f', HI, HC, HB⟩ := hrel
    go_wp2_with (at_next; refine wpList_nextG TQ_ok rfl _ rfl HI.out rfl ?_ ?_)
    · intro hl0
      have HL0 := Lib.hid hl0
      have HBw : Hid (Below w2.heap.size w2 wr) := Lib.hid (by rw [HZZ.out]; exact HB.out)
      have HAr := Lib.hid (HA.out.grown HBw.out)
      have hld : ∀ W', Below wr.heap.size wr W' → W'.cell? ⟨l.a, 0, none⟩ = some (.pointer (some ⟨l.t.t, 0, none⟩)) ∧ W'.cell? ⟨l.a, 2, none⟩ = some (.map (some l.mp)) := fun W' hb => ⟨(HAr.out.grown hb).ca0, (HAr.out.grown hb).ca2⟩
      have HS : Hid (Below wr.heap.size wr wr.drew) := Lib.hid (Below.refl _ _).drew
      have HB' := HB
      clear hl0 HI HB
      go_wp2_with fail
      refine wp_region_mix (fun W' => Below wr.heap.size wr W') 11 [(true, 0), (true, 1), (true, 2), (true, 3), (true, 5), (true, 6), (true, 7), (true, 8), (true, 9), (false, 4), (false, 10)] (by kernel_rfl) (by kernel_rfl) (fun _ _ _ d _ h => by cases d <;> exact h) ?_
      simp only [List.map_cons, List.map_nil, List.getD_cons_zero, List.getD_cons_succ, List.drop_succ_cons, List.drop_zero]
      refine mix_move (.tmp 0) (.pointer (some ⟨l.a, 0, none⟩)) rfl HS.out rfl rfl ?_
      simp only [Act.put, List.setIfInBounds_toArray, List.set_cons_zero, List.set_cons_succ]
      refine mix_take (.pointer (some ⟨l.a, 0, none⟩)) HS.out rfl (fun W' hS => by go_simp) ?_
      simp only [Act.put, List.setIfInBounds_toArray, List.set_cons_zero, List.set_cons_succ]
      refine mix_take (.pointer (some ⟨l.a, 0, none⟩)) HS.out rfl (fun W' hS => by go_simp) ?_
      simp only [Act.put, List.setIfInBounds_toArray, List.set_cons_zero, List.set_cons_succ]
      refine mix_take (.pointer (some ⟨l.t.t, 0, none⟩)) HS.out rfl (fun W' hS => by obtain ⟨l0, l1⟩ := hld W' hS; go_simp) ?_
      simp only [Act.put, List.setIfInBounds_toArray, List.set_cons_zero, List.set_cons_succ]
      refine mix_move (.tmp 3) (.map (some zz)) rfl HS.out rfl rfl ?_
      simp only [Act.put, List.setIfInBounds_toArray, List.set_cons_zero, List.set_cons_succ]
      refine mix_move (.tmp 0) (.pointer (some ⟨l.a, 0, none⟩)) rfl HS.out rfl rfl ?_
      simp only [Act.put, List.setIfInBounds_toArray, List.set_cons_zero, List.set_cons_succ]
      refine mix_take (.pointer (some ⟨l.a, 0, none⟩)) HS.out rfl (fun W' hS => by go_simp) ?_
      simp only [Act.put, List.setIfInBounds_toArray, List.set_cons_zero, List.set_cons_succ]
      refine mix_take (.pointer (some ⟨l.a, 2, none⟩)) HS.out rfl (fun W' hS => by go_simp) ?_
      simp only [Act.put, List.setIfInBounds_toArray, List.set_cons_zero, List.set_cons_succ]
      refine mix_take (.map (some l.mp)) HS.out rfl (fun W' hS => by obtain ⟨l0, l1⟩ := hld W' hS; go_simp) ?_
      simp only [Act.put, List.setIfInBounds_toArray, List.set_cons_zero, List.set_cons_succ]
      clear hld
      refine mix_step rfl (fun K hK => ?_)
      go_simp
      go_wp2_with (go_at_call 59; fail)
      refine (tkCopy_yes (HAr.out.grown HS.out).k (by have := HBW.out; have := HZZ.out; have := HBw.out.size; have := HS.out.size; omega)).mono ?_
      rintro e w3 ⟨t', rfl, hk3, hb3⟩
      have HS3 := Lib.hid (HS.out.trans (hb3.mono HS.out.size))
      have HK3 := Lib.hid (And.intro hk3 hb3)
      refine hK _ _ HS3.out ?_
      clear hK hk3 hb3
      refine mix_step rfl (fun K hK => ?_)
      go_simp
      go_wp2_with (go_at_call 60; fail)
      obtain ⟨np, hmp⟩ := (HAr.out.grown HS3.out).mp
      refine (pclone_any hmp).mono ?_
      rintro e w4 ⟨rfl, hmp4, hg4, hs4⟩
      have HS4 := Lib.hid (HS3.out.trans (hg4.below.mono HS3.out.size))
      have HM4 := Lib.hid (And.intro hmp4 (And.intro hg4 hs4))
      refine hK _ _ HS4.out ?_
      clear hK hmp hmp4 hg4 hs4
      refine mix_nil ?_
      go_wp2_with fail
      go_ret
      obtain ⟨hZ, hg, h1, h2, hB0⟩ := HZ.out
      have hzz := HZZ.out
      subst hzz
      refine ⟨⟨w4.heap.size, t', w2.heap.size, w3.heap.size⟩, rfl, ?_, ?_⟩
      · exact copy_done (w0 := w2) hB0 hZ hg h1 h2 HC.out (fun k => HL0.out k.1 k.2) (Nat.le_refl _) HS.out HK3.out.1 HK3.out.2 HM4.out.1 HM4.out.2.1.below HM4.out.2.2
      · exact (HB'.out.trans (HS4.out.mono HB'.out.size)).trans ((below_alloc _ _).mono (HB'.out.trans (HS4.out.mono HB'.out.size)).size)
    · intro ka kb x w4 left' cnt' d hd hqx hlk hit' hleft0 hcnt hfr hsz hen
      subst hqx
      have hleft : ∀ j : Sp, left' j = (left j && !decide (j = (ka, kb))) := fun j => by
        obtain ⟨ja, jb⟩ := j
        rw [hleft0]
        by_cases h1 : ja = ka <;> by_cases h2 : jb = kb <;> simp [h1, h2]
      have e1 : TQ.k (ka, kb) = .agg #[.int .i64 ka, .int .i64 kb] := rfl
      have e2 : TQ.v d.q = .pointer (some ⟨d.q, 0, none⟩) := rfl
      rw [e1, e2] at hen ⊢
      clear e1 e2
      obtain ⟨i1, i2, i3, i4, hri⟩ := HI.out.iter
      have hC4 := HC.out.same hfr (fun x hx o ho => by
        simp at hx
        subst hx
        rw [hri] at ho
        cases ho
        exact ⟨(fun _ _ e => by cases e), (fun _ _ e => by cases e)⟩)
      have HB4 : Hid (Below zz w2 w4) := Lib.hid (HB.out.trans (hfr.below (fun x hx => by simp at hx; omega) (ZL.out _ HB.out)))
      have HC4 := Lib.hid hC4
      have HI4 := Lib.hid hit'
      have HLF := Lib.hid (And.intro hleft hcnt)
      have HMS := Lib.hid HI.out.itLeft
      have HD := Lib.hid hd
      have hb5 := below_alloc w4 (.cells #[.int .i64 ka, .int .i64 kb] 38)
      have HX5 := Lib.hid (block_new w4 (.cells #[.int .i64 ka, .int .i64 kb] 38) _ rfl)
      have HC5 := Lib.hid (HC4.out.grown hb5)
      have HB5 := Lib.hid (HB4.out.trans (hb5.mono (ZL.out _ HB4.out)))
      have HI5 := Lib.hid (HI4.out.same (hb5.block _ HI4.out.lt.1) (hb5.block _ HI4.out.lt.2.1))
      clear hlk hit' hleft hleft0 hcnt hsz hri hC4 hd hb5 HC HI
      go_wp2_with fail
      clear hen
      generalize w4.alloc (.cells #[.int .i64 ka, .int .i64 kb] 38) = w5 at *
      have hld : ∀ W', Below w5.heap.size w5 W' → W'.cell? ⟨w4.heap.size, 0, none⟩ = some (.int .i64 ka) ∧ W'.cell? ⟨w4.heap.size, 1, none⟩ = some (.int .i64 kb) := fun W' hb => by
        have h := (hb.block _ (lt_of_block HX5.out)).trans HX5.out
        exact ⟨cells_cell h rfl, cells_cell h rfl⟩
      have HS : Hid (Below w5.heap.size w5 w5.drew) := Lib.hid (Below.refl _ _).drew
      refine wp_region_mix (fun W' => Below w5.heap.size w5 W') 4 [(true, 0), (true, 1), (true, 2), (false, 3)] (by kernel_rfl) (by kernel_rfl) (fun _ _ _ d _ h => by cases d <;> exact h) ?_
      simp only [List.map_cons, List.map_nil, List.getD_cons_zero, List.getD_cons_succ, List.drop_succ_cons, List.drop_zero]
      refine mix_move (.tmp 3) (.map (some zz)) rfl HS.out rfl rfl ?_
      simp only [Act.put, List.setIfInBounds_toArray, List.set_cons_zero, List.set_cons_succ]
      refine mix_take (.agg #[.int .i64 ka, .int .i64 kb]) HS.out rfl (fun W' hS => by obtain ⟨l0, l1⟩ := hld W' hS; go_simp) ?_
      simp only [Act.put, List.setIfInBounds_toArray, List.set_cons_zero, List.set_cons_succ]
      refine mix_move (.tmp 5) (.pointer (some ⟨d.q, 0, none⟩)) rfl HS.out rfl rfl ?_
      simp only [Act.put, List.setIfInBounds_toArray, List.set_cons_zero, List.set_cons_succ]
      clear hld
      refine mix_step rfl (fun K hK => ?_)
      go_simp
      go_wp2_with (go_at_call 58; fail)
      have hqd := (HA.out.grown (w' := w5.drew) (by rw [HZZ.out]; exact HB5.out.trans (HS.out.mono (ZL.out _ HB5.out)))).qs _ d HD.out
      refine (fiCopy_yes hqd).mono ?_
      rintro e w6 ⟨q', b', m', rfl, hq6, hg6, k1, k2, k3⟩
      have HS6 := Lib.hid (HS.out.trans (hg6.below.mono HS.out.size))
      have HQ6 := Lib.hid (And.intro hq6 (And.intro hg6 (And.intro k1 (And.intro k2 k3))))
      refine hK _ _ HS6.out ?_
      clear hK hqd hq6 hg6 k1 k2 k3
      refine mix_nil ?_
      obtain ⟨n6, hm6⟩ := (HC5.out.grown HS6.out).mp
      have HM6 := Lib.hid hm6
      clear hm6
      go_wp2_with (at_mapUpdate; refine wpList_putG TQ_ok rfl _ _ _ rfl HM6.out (ka, kb) q' rfl rfl rfl ?_; intro w7 hm7 hf7 hs7; refine Hid.out ?_)
      have HC7 := Lib.hid (HC5.out.put HD.out HQ6.out.1 ((Grn.refl w5).drew 1 |>.trans HQ6.out.2.1) HQ6.out.2.2.1 HQ6.out.2.2.2.1 HQ6.out.2.2.2.2 hm7 hf7 HLF.out.1)
      have hi6 := HI5.out.same (HS6.out.block _ HI5.out.lt.1) (HS6.out.block _ HI5.out.lt.2.1)
      have hlm := HA.out.lmq
      have HI7 := Lib.hid (hi6.same (hf7.block _ hi6.lt.1 (by rw [← HZZ.out]; simp; omega)) (hf7.block _ hi6.lt.2.1 (by simp)))
      have HB7 : Hid (Below zz w2 w7) := Lib.hid ((HB5.out.trans (HS6.out.mono (ZL.out _ HB5.out))).trans (hf7.below (fun x hx => by simp at hx; omega) (ZL.out _ (HB5.out.trans (HS6.out.mono (ZL.out _ HB5.out))))))
      clear hm7 hf7 hs7 hi6 hlm HM6 HQ6 HS6 HS HC5 HB5 HI5 HX5 HC4 HB4 HI4 HB
      refine Lib.hid ?_
      go_wp2_with fail
      go_roundw
      case rel => exact ⟨_, _, _, HI7, HC7, HB7⟩
      case measure => rw [HI7.out.itLeft, HMS.out]; exact HLF.out.2
end
end Go.Proofs.YtcdimopiaanfbaaDoor
