/- All who wait at a spot are woken, their reasons set. -/
import Derived.Test.YtcjeckjmoponkaaGreatDoorUCall
import Derived.LoopTactic
import Derived.Deep.LoopGhost
namespace Go.Proofs.YtcjeckjmoponkaaGreatDoor
open Go.RowKit Go.Sort
set_option linter.unusedVariables false
set_option linter.unusedSimpArgs false
section
variable {w0 w w' : World} {O : Nat → Prop} {p t g c d r rc : Nat} {l : Ll} {OL OD : Nat → Prop} {x : Px} {G P : Nat}
theorem UB.p0 (h : UB w0 w O p t g c d r rc l OL OD x G P) : w.cell? ⟨p, 0, none⟩ = some (.pointer (some ⟨t, 0, none⟩)) := cells_cell h.hp rfl
theorem UB.p1 (h : UB w0 w O p t g c d r rc l OL OD x G P) : w.cell? ⟨p, 1, none⟩ = some (.pointer (some ⟨l.a, 0, none⟩)) := cells_cell h.hp rfl
theorem UB.p2 (h : UB w0 w O p t g c d r rc l OL OD x G P) : w.cell? ⟨p, 2, none⟩ = some (.pointer (some ⟨d, 0, none⟩)) := cells_cell h.hp rfl
theorem UB.p3 (h : UB w0 w O p t g c d r rc l OL OD x G P) : w.cell? ⟨p, 3, none⟩ = some (.slice (some ⟨r, 0, none⟩) x.R.length rc) := cells_cell h.hp rfl
set_option maxRecDepth 100000 in
set_option maxHeartbeats 1600000 in
theorem poWake_any (h : UB w0 w O p t g c d r rc l OL OD x G P) (hG : G ≤ 900000) (N D y : Int) :
    Calls Tryz.prog 63 #[.pointer (some ⟨p, 0, none⟩), .agg #[.int .i64 N, .int .i64 D], .int .i64 y] w fun e w' => ∃ v O', e = .returned v ∧ Row TI w' w.heap.size v (x.wake (N, D) y).1 ∧ UAt w0 w' O' p (x.wake (N, D) y).2 (G + (x.wake (N, D) y).1.length) P ∧ FrO O w w' ∧
      (∀ k, O' k → O k ∨ w.heap.size ≤ k) ∧ (∀ g, v.ownBlock = some g → ¬ O' g) ∧ w.heap.size ≤ w'.heap.size := by
  have HOL : Hid (∀ k, OL k → k < w.heap.size) := Lib.hid (fun k hk => (h.ol k hk).2.1)
  have HOP : Hid (∀ k, O k → k < w.heap.size) := Lib.hid (fun k hk => (h.lt hk).2)
  obtain ⟨W, hW, hg, hs, hb0⟩ := alloc1 w (.cells #[.int .i64 N, .int .i64 D] 132)
  have HU := Lib.hid (h.grn hg)
  have HW := Lib.hid hW
  have HG := Lib.hid hg
  have HG0 := Lib.hid hG
  have HZ := Lib.hid (wake_S x.z (N, D))
  have HX64 : Hid ((wkaC x.z (N, D)).1.length ≤ 64) := Lib.hid (by have := wake_num HU.out.zk (N, D); have := HU.out.zk.l; omega)
  have HIN := Lib.hid (wake_in h.zk (N, D))
  have HZ := Lib.hid (wake_S x.z (N, D))
  have HX64 : Hid ((wkaC x.z (N, D)).1.length ≤ 64) := Lib.hid (by have := wake_num HU.out.zk (N, D); have := HU.out.zk.l; omega)
  have hWA : Hid (∀ V, UB w0 V O p t g c d r rc l OL OD x G P → Calls Tryz.prog 115 #[.pointer (some ⟨l.a, 0, none⟩), .agg #[.int .i64 N, .int .i64 D]] V fun e w' => ∃ v, e = .returned (.tuple #[v, .int .i64 (wkaC x.z (N, D)).2.1]) ∧ Row TI w' V.heap.size v (wkaC x.z (N, D)).1 ∧
      LS w0.heap.size (fun k => OL k ∨ V.heap.size ≤ k) w' l (wkaC x.z (N, D)).2.2 (G + (wkaC x.z (N, D)).1.length) ∧ FrL (fun k => OL k ∨ V.heap.size ≤ k) V w') := Lib.hid (fun V hu => by
    have := pkWakeAll_len hu.hl HG0.out (N, D)
    rw [wns_num] at this
    exact this)
  unfold Px.wake
  simp only
  generalize (wkaC x.z (N, D)).1 = xs at *
  generalize (wkaC x.z (N, D)).2.1 = code at *
  generalize (wkaC x.z (N, D)).2.2 = z' at *
  have HS0 := Lib.hid hs
  have HB := Lib.hid hb0
  clear h hg hs hb0 hW hG
  go_enter Tryz.func63, Tryz.ntmps63
  go_upto_region 1 with (fail)
  rw [HW.out]
  generalize hb : w.heap.size = b at *
  have Hb := Lib.hid hb
  clear hb
  refine wp_region_mix (fun W' => W'.heap[p]? = some (.cells #[.pointer (some ⟨t, 0, none⟩), .pointer (some ⟨l.a, 0, none⟩), .pointer (some ⟨d, 0, none⟩), .slice (some ⟨r, 0, none⟩) x.R.length rc] 68 (0, 0)) ∧ W'.heap[b]? = some (.cells #[.int .i64 N, .int .i64 D] 132 (0, 0))) 10 [(true, 0), (true, 1), (true, 2), (true, 3), (true, 4), (false, 5), (true, 6), (true, 7), (true, 8), (true, 9)] (by kernel_rfl) (by kernel_rfl) (fun _ _ _ d _ h => by cases d <;> exact h) ?_
  have HD : Hid (Below W.heap.size W W.drew) := Lib.hid ((Grn.refl W).drew 1).below
  have HS : Hid (W.drew.heap[p]? = some (.cells #[.pointer (some ⟨t, 0, none⟩), .pointer (some ⟨l.a, 0, none⟩), .pointer (some ⟨d, 0, none⟩), .slice (some ⟨r, 0, none⟩) x.R.length rc] 68 (0, 0)) ∧ W.drew.heap[b]? = some (.cells #[.int .i64 N, .int .i64 D] 132 (0, 0))) := Lib.hid ⟨(HD.out.block _ (lt_of_block HU.out.hp)).trans HU.out.hp, (HD.out.block _ (lt_of_block HB.out)).trans HB.out⟩
  simp only [List.map_cons, List.map_nil, List.getD_cons_zero, List.getD_cons_succ, List.drop_succ_cons, List.drop_zero]
  generalize W.drew = V at *
  refine mix_move (.tmp 0) (.pointer (some ⟨p, 0, none⟩)) rfl HS.out rfl rfl ?_
  simp only [Act.put, List.setIfInBounds_toArray, List.set_cons_zero, List.set_cons_succ]
  refine mix_take (.pointer (some ⟨p, 0, none⟩)) HS.out rfl (fun W' hS => by go_simp) ?_
  simp only [Act.put, List.setIfInBounds_toArray, List.set_cons_zero, List.set_cons_succ]
  refine mix_take (.pointer (some ⟨p, 1, none⟩)) HS.out rfl (fun W' hS => by go_simp) ?_
  simp only [Act.put, List.setIfInBounds_toArray, List.set_cons_zero, List.set_cons_succ]
  refine mix_take (.pointer (some ⟨l.a, 0, none⟩)) HS.out rfl (fun W' hS => by
    have e1 := hS.1
    obtain ⟨l0, l1, l2, l3⟩ := four e1
    go_simp) ?_
  simp only [Act.put, List.setIfInBounds_toArray, List.set_cons_zero, List.set_cons_succ]
  refine mix_take (.agg #[.int .i64 N, .int .i64 D]) HS.out rfl (fun W' hS => by
    have e1 := hS.2
    obtain ⟨l0, l1⟩ := two e1
    go_simp) ?_
  simp only [Act.put, List.setIfInBounds_toArray, List.set_cons_zero, List.set_cons_succ]
  have HU2 := Lib.hid (HU.out.grown HD.out)
  have hWA2 := Lib.hid (hWA.out V HU2.out)
  refine mix_step rfl (fun K1 hK => ?_)
  go_simp
  go_wp2_with (go_at_call 115; fail)
  refine hWA2.out.mono ?_
  rintro e w1 ⟨v, rfl, hr, hl, hf⟩
  obtain ⟨hu, hfo, hsub, hnl⟩ := HU2.out.lot rfl hl hf HZ.out
  obtain ⟨va, vc, rfl, hv1, hv2⟩ := hr.form
  have hnv := row_notL hr (by decide) (by decide) (by decide) (by decide) (by decide)
  have HBW : Hid (w1.heap[b]? = some (.cells #[.int .i64 N, .int .i64 D] 132 (0, 0))) := Lib.hid (hfo.block HS.out.2 (fun hc => by have := HOL.out b hc; omega))
  have HS1 := Lib.hid (And.intro hu.hp HBW.out)
  refine hK _ _ HS1.out ?_
  clear hK K1
  refine mix_move (.tmp 17) (.tuple #[.slice va xs.length vc, .int .i64 code]) rfl HS1.out rfl rfl ?_
  simp only [Act.put, List.setIfInBounds_toArray, List.set_cons_zero, List.set_cons_succ]
  refine mix_take (.slice va xs.length vc) HS1.out rfl (fun W' hS => by go_simp) ?_
  simp only [Act.put, List.setIfInBounds_toArray, List.set_cons_zero, List.set_cons_succ]
  refine mix_take (.int .i64 code) HS1.out rfl (fun W' hS => by go_simp) ?_
  simp only [Act.put, List.setIfInBounds_toArray, List.set_cons_zero, List.set_cons_succ]
  refine mix_take (.slice va xs.length vc) HS1.out rfl (fun W' hS => by go_simp) ?_
  simp only [Act.put, List.setIfInBounds_toArray, List.set_cons_zero, List.set_cons_succ]
  refine mix_nil ?_
  have HE : Hid (Below w.heap.size w V) := Lib.hid (HG.out.below.trans (HD.out.mono HG.out.below.size))
  have HFO : Hid (FrO O w w1 ∧ w.heap.size ≤ w1.heap.size) := Lib.hid ⟨(FrO.of_below HE.out).trans (HU2.out.frl hfo) (fun k hk => .inl hk), Nat.le_trans HE.out.size hf.size⟩
  have HSUB : Hid (∀ k, OP p t g r (OMore OL V w1) OD k → O k ∨ w.heap.size ≤ k) := Lib.hid (fun k hk => (hsub k hk).elim .inl (fun h => .inr (Nat.le_trans HE.out.size h)))
  have HNV : Hid (∀ g', (Value.slice va xs.length vc).ownBlock = some g' → ¬ OP p t g r (OMore OL V w1) OD g' ∧ V.heap.size ≤ g') := Lib.hid (fun g' hg' => ⟨hnl g' (hr.lt g' hg').1 (hnv g' hg'), (hr.lt g' hg').1⟩)
  have HR := Lib.hid (hr.lower HE.out.size)
  have HN : Hid (x.R.length = x.z.S.length) := Lib.hid HU2.out.rl
  have HU1 := Lib.hid hu
  generalize hOL : OMore OL V w1 = OL1 at *
  generalize hO1 : OP p t g r OL1 OD = O1 at *
  clear hu hfo hsub hnl hnv hr hl hf HU HU2 HD hOL hO1 hWA hWA2 HB HW hv1 hv2 HS0 HBW HS1 HS HZ
  go_wp2_with fail
  go_loopw [22] (fun i wr => ∃ k : Nat, k ≤ xs.length ∧ i = .int .i64 ((k : Nat) : Int) ∧ Hid (UB w0 wr O1 p t g c d r rc l OL1 OD { x with z := z', R := setR x.R (xs.take k) y } (G + xs.length) P) ∧ Hid (Row TI wr w.heap.size (.slice va xs.length vc) xs) ∧ Hid (FrO O w wr ∧ w.heap.size ≤ wr.heap.size)) (fun i _ => xs.length - (intOf i).toNat)
  case atStart => exact ⟨0, Nat.zero_le _, rfl, HU1, HR, HFO⟩
  case round =>
    obtain ⟨k, hk, rfl, HUr, HRr, HFr⟩ := hrel
    clear HU1 HR HFO
    by_cases hlt : k < xs.length
    · obtain ⟨a, o1, c1, e1, q1, q2, l1, k1⟩ := Src.int (HRr.out.src TI_ok) hlt
      clear q1 q2
      simp only [Value.slice.injEq] at e1
      obtain ⟨rfl, -, rfl⟩ := e1
      have q3 : (k : Int) < (xs.length : Int) := by omega
      have hNI : ((xs.length : Nat) : Int) ≤ 64 := by have := HX64.out; omega
      obtain ⟨n, hn, hn2⟩ := HIN.out xs[k] (List.getElem_mem hlt)
      have HNX := Lib.hid (setR_next (R := x.R) (y := y) hlt)
      have hRl := HUr.out.p3
      simp only [setR_len] at hRl
      have HRr2 := HUr.out.hr
      have hnl : n < (setR x.R (xs.take k) y).length := by rw [setR_len, HN.out]; exact hn2
      have hnr : n < x.R.length := by rw [HN.out]; exact hn2
      obtain ⟨g2, c2, hg2, _, lg2, fz, kk⟩ := Row.at TRs_ok HRr2 (List.getElem?_eq_getElem hnl)
      simp only [Value.slice.injEq, Option.some.injEq, Addr.mk.injEq] at hg2
      obtain ⟨⟨rfl, -, -⟩, -, rfl⟩ := hg2
      have kr := kk 0 _ rfl
      have fz0 := fz n
      have hoff : n * TRs.s + 0 = n := by show n * 1 + 0 = n; omega
      rw [hoff] at kr
      have hput := Lib.hid (HUr.out.put hnl y)
      have hput2 : Hid (Fr [r] wr (wr.setCell ⟨r, n, none⟩ (.int .i64 y))) := Lib.hid (fr_setCell wr ⟨r, n, none⟩ (.int .i64 y))
      rw [hn] at k1
      clear kk fz HRr2 hoff
      go_wp2_with fail
      go_roundw
      case measure => simp [intOf]; omega
      refine ⟨k + 1, hlt, by go_num, Lib.hid ?_, Lib.hid ?_, Lib.hid ⟨HFr.out.1.trans (HUr.out.frr hput2.out) HSUB.out, Nat.le_trans HFr.out.2 hput2.out.size⟩⟩
      · have h1 := HNX.out
        rw [hn] at h1
        rw [h1]
        exact hput.out
      · refine HRr.out.fr hput2.out (fun g' hg' hm => ?_)
        simp only [List.mem_singleton] at hm
        exact (HNV.out g' hg').1 ((HUr.out.o g').2 (.inr (.inr (.inr (.inl hm)))))
    · obtain rfl : k = xs.length := by omega
      have hU := HUr.out
      rw [List.take_length] at hU
      have HUe := Lib.hid hU
      clear hU HUr
      go_wp2_with fail
      go_ret
      exact ⟨_, O1, rfl, HRr.out, HUe.out.at, HFr.out.1, HSUB.out, fun g' hg' => (HNV.out g' hg').1, HFr.out.2⟩
end
end Go.Proofs.YtcjeckjmoponkaaGreatDoor
