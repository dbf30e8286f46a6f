/- PDos: PDo0, PDoStart, PDoFinish, PDoTurn, PDoPark, PDoWake, PDoWakeAll, PDoLeave, PDoCopy, PDoAny, merged. -/
import Derived.Test.YtcdimopiaanfbaaDoorPRefs
import Derived.Test.YtcdimopiaanfbaaDoorPKnown
import Derived.Test.YtcdimopiaanfbaaDoorPWake
import Derived.Test.YtcdimopiaanfbaaDoorPPark
import Derived.Test.YtcdimopiaanfbaaDoorPLeave
import Derived.Test.YtcdimopiaanfbaaDoorPCopy
import Derived.Deep.CutBlock
import Derived.Deep.RegionWith
/- The law's do: a lot and the reference's side by side. -/
namespace Go.Proofs.YtcdimopiaanfbaaDoor
open Go.RowKit Go.Sort
set_option linter.unusedVariables false
set_option linter.unusedSimpArgs false

section
variable {B B' : Nat} {S S2 S3 : Nat → Prop} {w w' w'' : World} {l : Ll} {P : Ks} {Q : Qu} {g : Nat} {f : Sp → Option Qd} {pl : Int → Option Pl} {z : Zt} {G : Nat}
/-- A lot that nobody has touched, its blocks in another set. -/
theorem LAt.move (h : LAt B S w l P Q g f pl) (hf : FrL S2 w w') (hd : ∀ x, x < w.heap.size → S x → ¬ S2 x) (hm : 0 < w.heap.size → ¬ S2 0) (h3 : ∀ x, x < w.heap.size → S x → S3 x) (hsl : ∀ x, S3 x → B' ≤ x) (hup : ∀ x, w'.heap.size ≤ x → S3 x) (hB : B' ≤ B) (h0 : 0 < B') : LAt B' S3 w' l P Q g f pl := by
  have h' := h.keep hf hd hm
  refine ⟨h'.a, h'.k.lower hB h0, h'.mq, h'.mp, h'.qs, h'.ap, fun s d hs => ?_, h.n1, h.n2, h.n3, ⟨h3 _ h.lt h.sa.1, h3 _ h.lmq h.sa.2.1, h3 _ h.lmp h.sa.2.2⟩, ⟨h3 _ h.k.lt h.st.1, h3 _ h.k.lc h.st.2.1, h3 _ h.k.qa.lq h.st.2.2.1, h3 _ h.k.qa.lb h.st.2.2.2.1, h3 _ h.k.qa.lm h.st.2.2.2.2⟩, hsl, hup⟩
  have hq := h.qs s d hs
  obtain ⟨a, b, c, e⟩ := h.nq s d hs
  exact ⟨a, h3 _ hq.lq b, h3 _ hq.lb c, h3 _ hq.lm e⟩
theorem LS.move (h : LS B S w l z G) (hf : FrL S2 w w') (hd : ∀ x, x < w.heap.size → S x → ¬ S2 x) (hm : 0 < w.heap.size → ¬ S2 0) (h3 : ∀ x, x < w.heap.size → S x → S3 x) (hsl : ∀ x, S3 x → B' ≤ x) (hup : ∀ x, w'.heap.size ≤ x → S3 x) (hB : B' ≤ B) (h0 : 0 < B') : LS B' S3 w' l z G := by
  obtain ⟨P, Q, g, f, pl, hA, r⟩ := h
  exact ⟨P, Q, g, f, pl, hA.move hf hd hm h3 hsl hup hB h0, r⟩
theorem LS.g0 (h : LS B S w l z G) : 0 < B := by
  obtain ⟨P, Q, g, f, pl, hA, r⟩ := h
  exact hA.k.g0
/-- Blocks that are new are written. -/
theorem FrL.fresh {F : List Nat} (h : FrL S w w') (hf : Fr F w' w'') (hF : ∀ x ∈ F, w.heap.size ≤ x) : FrL S w w'' :=
  ⟨hf.os.trans h.os, hf.tape.trans h.tape, hf.output.trans h.output, Nat.le_trans h.size hf.size, fun k hk hn => (hf.block k (Nat.lt_of_lt_of_le hk h.size) (fun hm => by have := hF k hm; omega)).trans (h.out k hk hn), fun k y u hc h1 h2 =>
    (hf.block k (Nat.lt_of_lt_of_le (lt_of_block hc) h.size) (fun hm => by have := hF k hm; have := lt_of_block hc; omega)).trans (h.cel k y u hc h1 h2)⟩
end
/-- A lot that the law has made, and the reference's. -/
structure E9 (w0 w : World) (l : Ll) (z : Zt) (G : Nat) (s r x : Value) (k : Nat) : Prop where
  K : KL w0 w l z G
  R : RL w w0.heap.size s r x z
  g : G ≤ 70 * k
/-- What the law's do returns. -/
def DoPost9 (w0 w : World) (k : Nat) (e : Ending) (w' : World) : Prop := FrL (fun x => w0.heap.size ≤ x) w w' ∧ ∃ l' z' G' s' r' x', e = .returned (.tuple #[.pointer (some ⟨l'.a, 0, none⟩), rlv s' r' x', .bool true]) ∧ E9 w0 w' l' z' G' s' r' x' (k + 1)
/-- The blocks that do begins with. -/
theorem do_blocks9 (w : World) (o0 o1 o2 : Obj) : ∃ W, ((w.alloc o0).alloc o1).alloc o2 = W ∧ Below w.heap.size w W ∧ W.heap.size = w.heap.size + 3 ∧ W.heap[w.heap.size]? = some o0 ∧ W.heap[w.heap.size + 1]? = some o1 ∧ W.heap[w.heap.size + 2]? = some o2 := by
  have e0 := heap_alloc_new w o0
  have e1 : ((w.alloc o0).alloc o1).heap[w.heap.size + 1]? = some o1 := block_new _ _ _ (by simp)
  have e2 : (((w.alloc o0).alloc o1).alloc o2).heap[w.heap.size + 2]? = some o2 := block_new _ _ _ (by simp)
  refine ⟨_, rfl, (below_alloc _ _).trans (((below_alloc _ _).mono (by simp)).trans ((below_alloc _ _).mono (by simp; omega))), by simp, ?_, ?_, e2⟩
  · exact ((below_alloc _ _).block _ (by simp; omega)).trans (((below_alloc _ _).block _ (by simp)).trans e0)
  · exact ((below_alloc _ _).block _ (by simp)).trans e1
/-- A block of the law's own is written. -/
theorem KL.put {w0 w w' : World} {l : Ll} {z : Zt} {G : Nat} (h : KL w0 w l z G) {k : Nat} {y : Array Value} {u : TypeId} (hc : w.heap[k]? = some (.cells y u (0, 0))) (hn : u ≠ 53 ∧ u ≠ 112 ∧ u ≠ 138 ∧ u ≠ 117 ∧ u ≠ 128) (hk : w0.heap.size ≤ k) (hf : Fr [k] w w') : KL w0 w' l z G :=
  h.fr hf (fun x hx => by simp at hx; subst hx; exact ⟨hk, _, _, hc, hn⟩)
end Go.Proofs.YtcdimopiaanfbaaDoor
/- The law's do: Start. -/
namespace Go.Proofs.YtcdimopiaanfbaaDoor
open Go.RowKit Go.Sort
set_option linter.unusedVariables false
set_option linter.unusedSimpArgs false

set_option maxRecDepth 100000 in
set_option maxHeartbeats 12800000 in
theorem do9_Start {w0 w : World} {l : Ll} {z : Zt} {G k : Nat} {s r x : Value} (h : E9 w0 w l z G s r x k) (hk : k < 100) (N f d : Int) :
    Calls Tryd.prog 11 #[.pointer (some ⟨l.a, 0, none⟩), rlv s r x, .agg #[.int .i64 0, .int .i64 N, .int .i64 f, .int .i64 d]] w (DoPost9 w0 w k) := by
  obtain ⟨sa, sn, sc, ra, rn, rc, xa, xn, xc, rfl, rfl, rfl⟩ := rl_form h.R
  obtain ⟨W, hW, hb, hs, h0, h1, h2⟩ := do_blocks9 w (.cells #[.slice sa sn sc, .slice ra rn rc, .slice xa xn xc] 33) (.cells #[.int .i64 0, .int .i64 N, .int .i64 f, .int .i64 d] 40) (.cells #[.slice none 0 0, .slice none 0 0, .slice none 0 0] 33)
  have HK := Lib.hid (h.K.grown hb)
  have HR := Lib.hid (h.R.below hb)
  have HF := Lib.hid (FrL.of_below (fun x => w0.heap.size ≤ x) hb)
  have HG : Hid (G ≤ 70 * k ∧ k < 100) := Lib.hid ⟨h.g, hk⟩
  have HWS : Hid (w0.heap.size ≤ w.heap.size ∧ W.heap.size = w.heap.size + 3) := Lib.hid ⟨h.K.below.size, hs⟩
  have H0 := Lib.hid h0
  have H1 := Lib.hid h1
  have H2 := Lib.hid h2
  have HW := Lib.hid hW
  obtain ⟨z2, code, hzc⟩ : ∃ z2 code, stepC 0 z N = (code, z2) := ⟨_, _, rfl⟩
  have hpk : Hid (Calls Tryd.prog 21 #[.pointer (some ⟨l.a, 0, none⟩), .int .i64 N] W fun e w' => e = .returned (.int .i64 code) ∧ LS w0.heap.size (fun x => w0.heap.size ≤ x) w' l z2 (G + 1) ∧ FrL (fun x => w0.heap.size ≤ x) W w') := Lib.hid (by
    have := pkStart_any HK.out.K (by have := HG.out; omega) N
    rw [hzc] at this
    exact this)
  have hrf : Hid (∀ {W : World} {s r x : Value}, w0.heap.size ≤ W.heap.size → RL W w0.heap.size s r x z → Calls Tryd.prog 32 #[rlv s r x, .int .i64 N] W (RAns W w0.heap.size z2 code)) := Lib.hid (fun hb hr => by
    have := g9Start_any hr hb HK.out.K.zk N
    have e : stepC 0 z N = chC 0 1 z N := rfl
    rw [← e, hzc] at this
    exact this)
  clear h hk hb hs h0 h1 h2 hW
  unfold rlv
  go_enter Tryd.func11, Tryd.ntmps11
  go_wp2_with fail
  rw [HW.out]
  clear HW
  generalize hzz : w.heap.size = zz at *
  have HZZ := Lib.hid hzz
  clear hzz
  have a0 := cells_cell (o := 0) H1.out rfl
  have a1 : W.cell? ⟨zz + 1, 1, none⟩ = some (.int .i64 N) := cells_cell H1.out rfl
  have a2 : W.cell? ⟨zz + 1, 2, none⟩ = some (.int .i64 f) := cells_cell H1.out rfl
  have a3 : W.cell? ⟨zz + 1, 3, none⟩ = some (.int .i64 d) := cells_cell H1.out rfl
  have al := lt_of_block H1.out
  go_wp2_with (go_at_call 21; fail)
  refine hpk.out.mono ?_
  rintro e w1 ⟨rfl, hL, hF⟩
  clear a0 a1 a2 a3 al
  clear hpk hzc
  replace H0 := Lib.hid (hF.block H0.out (by decide) (by decide))
  replace H1 := Lib.hid (hF.block H1.out (by decide) (by decide))
  replace H2 := Lib.hid (hF.block H2.out (by decide) (by decide))
  replace HR := Lib.hid (HR.out.frl hF)
  replace HF := Lib.hid (HF.out.trans hF)
  replace HK := Lib.hid (HK.out.did hL hF)
  clear hL hF
  have a0 := cells_cell (o := 0) H1.out rfl
  have a1 : w1.cell? ⟨zz + 1, 1, none⟩ = some (.int .i64 N) := cells_cell H1.out rfl
  have a2 : w1.cell? ⟨zz + 1, 2, none⟩ = some (.int .i64 f) := cells_cell H1.out rfl
  have a3 : w1.cell? ⟨zz + 1, 3, none⟩ = some (.int .i64 d) := cells_cell H1.out rfl
  have al := lt_of_block H1.out
  have x0 := cells_cell (o := 0) H0.out rfl
  have x1 : w1.cell? ⟨zz, 1, none⟩ = some (.slice ra rn rc) := cells_cell H0.out rfl
  have x2 : w1.cell? ⟨zz, 2, none⟩ = some (.slice xa xn xc) := cells_cell H0.out rfl
  have xl := lt_of_block H0.out
  go_wp2_with (go_at_call 32; fail)
  have hr9 := hrf.out (by have h1 := HK.out.below.size; exact h1) HR.out
  unfold rlv at hr9
  refine hr9.mono ?_
  rintro e w2 ⟨s', r', x', rfl, hr, hb⟩
  obtain ⟨pa, pn, pc, qa, qn, qc, oa, on, oc, rfl, rfl, rfl⟩ := rl_form hr
  unfold rlv
  clear a0 a1 a2 a3 al
  clear x0 x1 x2 xl
  clear hr9 hrf
  have HR := Lib.hid hr
  replace H0 := Lib.hid (box_below hb H0.out)
  replace H1 := Lib.hid (box_below hb H1.out)
  replace H2 := Lib.hid (box_below hb H2.out)
  replace HF := Lib.hid (HF.out.trans (FrL.of_below _ hb))
  replace HK := Lib.hid (HK.out.grown hb)
  have hba := below_alloc w2 (.cells #[.slice pa pn pc, .slice qa qn qc, .slice oa on oc] 33)
  have HV := Lib.hid (block_new w2 (.cells #[.slice pa pn pc, .slice qa qn qc, .slice oa on oc] 33) _ rfl)
  have HVZ : Hid (zz + 2 < w2.heap.size) := Lib.hid (lt_of_block H2.out)
  replace H0 := Lib.hid (box_below hba H0.out)
  replace H1 := Lib.hid (box_below hba H1.out)
  replace H2 := Lib.hid (box_below hba H2.out)
  replace HR := Lib.hid (HR.out.below hba)
  replace HF := Lib.hid (HF.out.trans (FrL.of_below _ hba))
  replace HK := Lib.hid (HK.out.grown hba)
  clear hb hr hba
  have HG2 : Hid (G + 1 ≤ 70 * (k + 1)) := Lib.hid (by have := HG.out; omega)
  go_wp2_with fail
  generalize hvv : w2.heap.size = vv at *
  generalize hX3 : w2.alloc (.cells #[.slice pa pn pc, .slice qa qn qc, .slice oa on oc] 33) = X3 at *
  clear hvv hX3
  refine wp_region_mix (fun W' => Fr [zz + 2] X3 W') 7 [(true, 0), (true, 1), (true, 2), (true, 3), (true, 4), (false, 5), (false, 6)] (by kernel_rfl) (by kernel_rfl) (fun _ _ _ d _ h => by cases d <;> exact h) ?_
  have hld : ∀ W', Fr [zz + 2] X3 W' → W'.cell? ⟨vv, 0, none⟩ = some (.slice pa pn pc) ∧ W'.cell? ⟨vv, 1, none⟩ = some (.slice qa qn qc) ∧ W'.cell? ⟨vv, 2, none⟩ = some (.slice oa on oc) ∧ vv < W'.heap.size := fun W' hb => by
    have e0 := hb.same HV.out (by have := HVZ.out; simp; omega)
    exact ⟨cells_cell e0 rfl, cells_cell e0 rfl, cells_cell e0 rfl, lt_of_block e0⟩
  have HS : Hid (Fr [zz + 2] X3 X3.drew) := Lib.hid (fr_drewN X3 1 _)
  simp only [List.map_cons, List.map_nil, List.getD_cons_zero, List.getD_cons_succ, List.drop_succ_cons, List.drop_zero]
  refine mix_move (.tmp 0) (.pointer (some ⟨l.a, 0, none⟩)) rfl HS.out rfl rfl ?_
  simp only [Act.put, List.setIfInBounds_toArray, List.set_cons_zero, List.set_cons_succ]
  refine mix_take (.agg #[.slice pa pn pc, .slice qa qn qc, .slice oa on oc]) HS.out rfl (fun W' hS => by obtain ⟨l0, l1, l2, l3⟩ := hld W' hS; go_simp) ?_
  simp only [Act.put, List.setIfInBounds_toArray, List.set_cons_zero, List.set_cons_succ]
  refine mix_move (.tmp 9) (.int .i64 code) rfl HS.out rfl rfl ?_
  simp only [Act.put, List.setIfInBounds_toArray, List.set_cons_zero, List.set_cons_succ]
  refine mix_move (.tmp 11) (.int .i64 code) rfl HS.out rfl rfl ?_
  simp only [Act.put, List.setIfInBounds_toArray, List.set_cons_zero, List.set_cons_succ]
  refine mix_take (.bool true) HS.out rfl (fun W' hS => by go_simp) ?_
  simp only [Act.put, List.setIfInBounds_toArray, List.set_cons_zero, List.set_cons_succ]
  refine mix_by (.pointer (some ⟨l.a, 0, none⟩)) rfl (by go_simp) HS.out ?_
  simp only [Act.put, List.setIfInBounds_toArray, List.set_cons_zero, List.set_cons_succ]
  have D : Below X3.heap.size X3 X3.drew := ((Grn.refl X3).drew 1).below
  have c2 := (D.block _ (lt_of_block H2.out)).trans H2.out
  have HK4 := Lib.hid (HK.out.grown D)
  have HR4 := Lib.hid (HR.out.below D)
  have HF4 := Lib.hid (HF.out.trans (FrL.of_below _ D))
  clear D hld
  generalize X3.drew = V6 at *
  have y0 := cells_cell (o := 0) c2 rfl
  have y1 : V6.cell? ⟨zz + 2, 1, none⟩ = some (.slice none 0 0) := cells_cell c2 rfl
  have y2 : V6.cell? ⟨zz + 2, 2, none⟩ = some (.slice none 0 0) := cells_cell c2 rfl
  have z0 := cells_free c2 0
  have z1 := cells_free c2 1
  have z2' := cells_free c2 2
  have hxl := lt_of_block c2
  have hf := ((fr_setCell V6 ⟨zz + 2, 0, none⟩ (.slice pa pn pc)).trans' (fr_setCell _ ⟨zz + 2, 1, none⟩ (.slice qa qn qc))).trans' (fr_setCell _ ⟨zz + 2, 2, none⟩ (.slice oa on oc))
  have hc := cells_set (cells_set (cells_set c2 0 (.slice pa pn pc)) 1 (.slice qa qn qc)) 2 (.slice oa on oc)
  have HE2 : Hid (E9 w0 _ l z2 (G + 1) (.slice pa pn pc) (.slice qa qn qc) (.slice oa on oc) (k + 1)) := Lib.hid ⟨HK4.out.put c2 (by decide) (by have := HWS.out.1; omega) hf, HR4.out.fr hf (fun k hk => by simp at hk; subst hk; exact ⟨_, _, c2, by decide, by decide⟩), HG2.out⟩
  have HE1 := Lib.hid (HF4.out.fresh hf (fun x hx => by have := HZZ.out; simp at hx; omega))
  have HS2 := Lib.hid (HS.out.trans' hf)
  have HC := Lib.hid hc
  clear hf hc c2 HS HK4 HR4 HF4
  refine mix_step rfl (fun K hK => ?_)
  go_simp
  refine hK _ _ HS2.out ?_
  clear hK
  refine mix_nil ?_
  go_wp2_with fail
  have hc := HC.out
  simp at hc
  refine bodyPost_ret (v := .tuple #[.pointer (some ⟨l.a, 0, none⟩), .agg #[.slice pa pn pc, .slice qa qn qc, .slice oa on oc], .bool true]) (by simp [results, Tryd.results11, go_sem, cells_cell (o := 0) hc rfl, cells_cell (o := 1) hc rfl, cells_cell (o := 2) hc rfl]) rfl ?_
  exact ⟨HE1.out, l, _, _, _, _, _, rfl, HE2.out⟩
end Go.Proofs.YtcdimopiaanfbaaDoor
/- The law's do: Finish. -/
namespace Go.Proofs.YtcdimopiaanfbaaDoor
open Go.RowKit Go.Sort
set_option linter.unusedVariables false
set_option linter.unusedSimpArgs false

set_option maxRecDepth 100000 in
set_option maxHeartbeats 12800000 in
theorem do9_Finish {w0 w : World} {l : Ll} {z : Zt} {G k : Nat} {s r x : Value} (h : E9 w0 w l z G s r x k) (hk : k < 100) (N f d : Int) :
    Calls Tryd.prog 11 #[.pointer (some ⟨l.a, 0, none⟩), rlv s r x, .agg #[.int .i64 1, .int .i64 N, .int .i64 f, .int .i64 d]] w (DoPost9 w0 w k) := by
  obtain ⟨sa, sn, sc, ra, rn, rc, xa, xn, xc, rfl, rfl, rfl⟩ := rl_form h.R
  obtain ⟨W, hW, hb, hs, h0, h1, h2⟩ := do_blocks9 w (.cells #[.slice sa sn sc, .slice ra rn rc, .slice xa xn xc] 33) (.cells #[.int .i64 1, .int .i64 N, .int .i64 f, .int .i64 d] 40) (.cells #[.slice none 0 0, .slice none 0 0, .slice none 0 0] 33)
  have HK := Lib.hid (h.K.grown hb)
  have HR := Lib.hid (h.R.below hb)
  have HF := Lib.hid (FrL.of_below (fun x => w0.heap.size ≤ x) hb)
  have HG : Hid (G ≤ 70 * k ∧ k < 100) := Lib.hid ⟨h.g, hk⟩
  have HWS : Hid (w0.heap.size ≤ w.heap.size ∧ W.heap.size = w.heap.size + 3) := Lib.hid ⟨h.K.below.size, hs⟩
  have H0 := Lib.hid h0
  have H1 := Lib.hid h1
  have H2 := Lib.hid h2
  have HW := Lib.hid hW
  obtain ⟨z2, code, hzc⟩ : ∃ z2 code, stepC 3 z N = (code, z2) := ⟨_, _, rfl⟩
  have hpk : Hid (Calls Tryd.prog 22 #[.pointer (some ⟨l.a, 0, none⟩), .int .i64 N] W fun e w' => e = .returned (.int .i64 code) ∧ LS w0.heap.size (fun x => w0.heap.size ≤ x) w' l z2 (G + 1) ∧ FrL (fun x => w0.heap.size ≤ x) W w') := Lib.hid (by
    have := pkFinish_any HK.out.K (by have := HG.out; omega) N
    rw [hzc] at this
    exact this)
  have hrf : Hid (∀ {W : World} {s r x : Value}, w0.heap.size ≤ W.heap.size → RL W w0.heap.size s r x z → Calls Tryd.prog 33 #[rlv s r x, .int .i64 N] W (RAns W w0.heap.size z2 code)) := Lib.hid (fun hb hr => by
    have := g9Finish_any hr hb HK.out.K.zk N
    have e : stepC 3 z N = chC 1 0 z N := rfl
    rw [← e, hzc] at this
    exact this)
  clear h hk hb hs h0 h1 h2 hW
  unfold rlv
  go_enter Tryd.func11, Tryd.ntmps11
  go_wp2_with fail
  rw [HW.out]
  clear HW
  generalize hzz : w.heap.size = zz at *
  have HZZ := Lib.hid hzz
  clear hzz
  have a0 := cells_cell (o := 0) H1.out rfl
  have a1 : W.cell? ⟨zz + 1, 1, none⟩ = some (.int .i64 N) := cells_cell H1.out rfl
  have a2 : W.cell? ⟨zz + 1, 2, none⟩ = some (.int .i64 f) := cells_cell H1.out rfl
  have a3 : W.cell? ⟨zz + 1, 3, none⟩ = some (.int .i64 d) := cells_cell H1.out rfl
  have al := lt_of_block H1.out
  go_wp2_with (go_at_call 22; fail)
  refine hpk.out.mono ?_
  rintro e w1 ⟨rfl, hL, hF⟩
  clear a0 a1 a2 a3 al
  clear hpk hzc
  replace H0 := Lib.hid (hF.block H0.out (by decide) (by decide))
  replace H1 := Lib.hid (hF.block H1.out (by decide) (by decide))
  replace H2 := Lib.hid (hF.block H2.out (by decide) (by decide))
  replace HR := Lib.hid (HR.out.frl hF)
  replace HF := Lib.hid (HF.out.trans hF)
  replace HK := Lib.hid (HK.out.did hL hF)
  clear hL hF
  have a0 := cells_cell (o := 0) H1.out rfl
  have a1 : w1.cell? ⟨zz + 1, 1, none⟩ = some (.int .i64 N) := cells_cell H1.out rfl
  have a2 : w1.cell? ⟨zz + 1, 2, none⟩ = some (.int .i64 f) := cells_cell H1.out rfl
  have a3 : w1.cell? ⟨zz + 1, 3, none⟩ = some (.int .i64 d) := cells_cell H1.out rfl
  have al := lt_of_block H1.out
  have x0 := cells_cell (o := 0) H0.out rfl
  have x1 : w1.cell? ⟨zz, 1, none⟩ = some (.slice ra rn rc) := cells_cell H0.out rfl
  have x2 : w1.cell? ⟨zz, 2, none⟩ = some (.slice xa xn xc) := cells_cell H0.out rfl
  have xl := lt_of_block H0.out
  go_wp2_with (go_at_call 33; fail)
  have hr9 := hrf.out (by have h1 := HK.out.below.size; exact h1) HR.out
  unfold rlv at hr9
  refine hr9.mono ?_
  rintro e w2 ⟨s', r', x', rfl, hr, hb⟩
  obtain ⟨pa, pn, pc, qa, qn, qc, oa, on, oc, rfl, rfl, rfl⟩ := rl_form hr
  unfold rlv
  clear a0 a1 a2 a3 al
  clear x0 x1 x2 xl
  clear hr9 hrf
  have HR := Lib.hid hr
  replace H0 := Lib.hid (box_below hb H0.out)
  replace H1 := Lib.hid (box_below hb H1.out)
  replace H2 := Lib.hid (box_below hb H2.out)
  replace HF := Lib.hid (HF.out.trans (FrL.of_below _ hb))
  replace HK := Lib.hid (HK.out.grown hb)
  have hba := below_alloc w2 (.cells #[.slice pa pn pc, .slice qa qn qc, .slice oa on oc] 33)
  have HV := Lib.hid (block_new w2 (.cells #[.slice pa pn pc, .slice qa qn qc, .slice oa on oc] 33) _ rfl)
  have HVZ : Hid (zz + 2 < w2.heap.size) := Lib.hid (lt_of_block H2.out)
  replace H0 := Lib.hid (box_below hba H0.out)
  replace H1 := Lib.hid (box_below hba H1.out)
  replace H2 := Lib.hid (box_below hba H2.out)
  replace HR := Lib.hid (HR.out.below hba)
  replace HF := Lib.hid (HF.out.trans (FrL.of_below _ hba))
  replace HK := Lib.hid (HK.out.grown hba)
  clear hb hr hba
  have HG2 : Hid (G + 1 ≤ 70 * (k + 1)) := Lib.hid (by have := HG.out; omega)
  go_wp2_with fail
  generalize hvv : w2.heap.size = vv at *
  generalize hX3 : w2.alloc (.cells #[.slice pa pn pc, .slice qa qn qc, .slice oa on oc] 33) = X3 at *
  clear hvv hX3
  refine wp_region_mix (fun W' => Fr [zz + 2] X3 W') 7 [(true, 0), (true, 1), (true, 2), (true, 3), (true, 4), (false, 5), (false, 6)] (by kernel_rfl) (by kernel_rfl) (fun _ _ _ d _ h => by cases d <;> exact h) ?_
  have hld : ∀ W', Fr [zz + 2] X3 W' → W'.cell? ⟨vv, 0, none⟩ = some (.slice pa pn pc) ∧ W'.cell? ⟨vv, 1, none⟩ = some (.slice qa qn qc) ∧ W'.cell? ⟨vv, 2, none⟩ = some (.slice oa on oc) ∧ vv < W'.heap.size := fun W' hb => by
    have e0 := hb.same HV.out (by have := HVZ.out; simp; omega)
    exact ⟨cells_cell e0 rfl, cells_cell e0 rfl, cells_cell e0 rfl, lt_of_block e0⟩
  have HS : Hid (Fr [zz + 2] X3 X3.drew) := Lib.hid (fr_drewN X3 1 _)
  simp only [List.map_cons, List.map_nil, List.getD_cons_zero, List.getD_cons_succ, List.drop_succ_cons, List.drop_zero]
  refine mix_move (.tmp 0) (.pointer (some ⟨l.a, 0, none⟩)) rfl HS.out rfl rfl ?_
  simp only [Act.put, List.setIfInBounds_toArray, List.set_cons_zero, List.set_cons_succ]
  refine mix_take (.agg #[.slice pa pn pc, .slice qa qn qc, .slice oa on oc]) HS.out rfl (fun W' hS => by obtain ⟨l0, l1, l2, l3⟩ := hld W' hS; go_simp) ?_
  simp only [Act.put, List.setIfInBounds_toArray, List.set_cons_zero, List.set_cons_succ]
  refine mix_move (.tmp 12) (.int .i64 code) rfl HS.out rfl rfl ?_
  simp only [Act.put, List.setIfInBounds_toArray, List.set_cons_zero, List.set_cons_succ]
  refine mix_move (.tmp 14) (.int .i64 code) rfl HS.out rfl rfl ?_
  simp only [Act.put, List.setIfInBounds_toArray, List.set_cons_zero, List.set_cons_succ]
  refine mix_take (.bool true) HS.out rfl (fun W' hS => by go_simp) ?_
  simp only [Act.put, List.setIfInBounds_toArray, List.set_cons_zero, List.set_cons_succ]
  refine mix_by (.pointer (some ⟨l.a, 0, none⟩)) rfl (by go_simp) HS.out ?_
  simp only [Act.put, List.setIfInBounds_toArray, List.set_cons_zero, List.set_cons_succ]
  have D : Below X3.heap.size X3 X3.drew := ((Grn.refl X3).drew 1).below
  have c2 := (D.block _ (lt_of_block H2.out)).trans H2.out
  have HK4 := Lib.hid (HK.out.grown D)
  have HR4 := Lib.hid (HR.out.below D)
  have HF4 := Lib.hid (HF.out.trans (FrL.of_below _ D))
  clear D hld
  generalize X3.drew = V6 at *
  have y0 := cells_cell (o := 0) c2 rfl
  have y1 : V6.cell? ⟨zz + 2, 1, none⟩ = some (.slice none 0 0) := cells_cell c2 rfl
  have y2 : V6.cell? ⟨zz + 2, 2, none⟩ = some (.slice none 0 0) := cells_cell c2 rfl
  have z0 := cells_free c2 0
  have z1 := cells_free c2 1
  have z2' := cells_free c2 2
  have hxl := lt_of_block c2
  have hf := ((fr_setCell V6 ⟨zz + 2, 0, none⟩ (.slice pa pn pc)).trans' (fr_setCell _ ⟨zz + 2, 1, none⟩ (.slice qa qn qc))).trans' (fr_setCell _ ⟨zz + 2, 2, none⟩ (.slice oa on oc))
  have hc := cells_set (cells_set (cells_set c2 0 (.slice pa pn pc)) 1 (.slice qa qn qc)) 2 (.slice oa on oc)
  have HE2 : Hid (E9 w0 _ l z2 (G + 1) (.slice pa pn pc) (.slice qa qn qc) (.slice oa on oc) (k + 1)) := Lib.hid ⟨HK4.out.put c2 (by decide) (by have := HWS.out.1; omega) hf, HR4.out.fr hf (fun k hk => by simp at hk; subst hk; exact ⟨_, _, c2, by decide, by decide⟩), HG2.out⟩
  have HE1 := Lib.hid (HF4.out.fresh hf (fun x hx => by have := HZZ.out; simp at hx; omega))
  have HS2 := Lib.hid (HS.out.trans' hf)
  have HC := Lib.hid hc
  clear hf hc c2 HS HK4 HR4 HF4
  refine mix_step rfl (fun K hK => ?_)
  go_simp
  refine hK _ _ HS2.out ?_
  clear hK
  refine mix_nil ?_
  go_wp2_with fail
  have hc := HC.out
  simp at hc
  refine bodyPost_ret (v := .tuple #[.pointer (some ⟨l.a, 0, none⟩), .agg #[.slice pa pn pc, .slice qa qn qc, .slice oa on oc], .bool true]) (by simp [results, Tryd.results11, go_sem, cells_cell (o := 0) hc rfl, cells_cell (o := 1) hc rfl, cells_cell (o := 2) hc rfl]) rfl ?_
  exact ⟨HE1.out, l, _, _, _, _, _, rfl, HE2.out⟩
end Go.Proofs.YtcdimopiaanfbaaDoor
/- The law's do: Turn. -/
namespace Go.Proofs.YtcdimopiaanfbaaDoor
open Go.RowKit Go.Sort
set_option linter.unusedVariables false
set_option linter.unusedSimpArgs false

set_option maxRecDepth 100000 in
set_option maxHeartbeats 12800000 in
theorem do9_Turn {w0 w : World} {l : Ll} {z : Zt} {G k : Nat} {s r x : Value} (h : E9 w0 w l z G s r x k) (hk : k < 100) (N f d : Int) :
    Calls Tryd.prog 11 #[.pointer (some ⟨l.a, 0, none⟩), rlv s r x, .agg #[.int .i64 2, .int .i64 N, .int .i64 f, .int .i64 d]] w (DoPost9 w0 w k) := by
  obtain ⟨sa, sn, sc, ra, rn, rc, xa, xn, xc, rfl, rfl, rfl⟩ := rl_form h.R
  obtain ⟨W, hW, hb, hs, h0, h1, h2⟩ := do_blocks9 w (.cells #[.slice sa sn sc, .slice ra rn rc, .slice xa xn xc] 33) (.cells #[.int .i64 2, .int .i64 N, .int .i64 f, .int .i64 d] 40) (.cells #[.slice none 0 0, .slice none 0 0, .slice none 0 0] 33)
  have HK := Lib.hid (h.K.grown hb)
  have HR := Lib.hid (h.R.below hb)
  have HF := Lib.hid (FrL.of_below (fun x => w0.heap.size ≤ x) hb)
  have HG : Hid (G ≤ 70 * k ∧ k < 100) := Lib.hid ⟨h.g, hk⟩
  have HWS : Hid (w0.heap.size ≤ w.heap.size ∧ W.heap.size = w.heap.size + 3) := Lib.hid ⟨h.K.below.size, hs⟩
  have H0 := Lib.hid h0
  have H1 := Lib.hid h1
  have H2 := Lib.hid h2
  have HW := Lib.hid hW
  obtain ⟨z2, code, hzc⟩ : ∃ z2 code, stepC 4 z N = (code, z2) := ⟨_, _, rfl⟩
  have hpk : Hid (Calls Tryd.prog 23 #[.pointer (some ⟨l.a, 0, none⟩), .int .i64 N] W fun e w' => e = .returned (.int .i64 code) ∧ LS w0.heap.size (fun x => w0.heap.size ≤ x) w' l z2 (G + 1) ∧ FrL (fun x => w0.heap.size ≤ x) W w') := Lib.hid (by
    have := pkTurn_any HK.out.K (by have := HG.out; omega) N
    rw [hzc] at this
    exact this)
  have hrf : Hid (∀ {W : World} {s r x : Value}, w0.heap.size ≤ W.heap.size → RL W w0.heap.size s r x z → Calls Tryd.prog 34 #[rlv s r x, .int .i64 N] W (RAns W w0.heap.size z2 code)) := Lib.hid (fun hb hr => by
    have := g9Turn_any hr hb HK.out.K.zk N
    have e : stepC 4 z N = chC 1 1 z N := rfl
    rw [← e, hzc] at this
    exact this)
  clear h hk hb hs h0 h1 h2 hW
  unfold rlv
  go_enter Tryd.func11, Tryd.ntmps11
  go_wp2_with fail
  rw [HW.out]
  clear HW
  generalize hzz : w.heap.size = zz at *
  have HZZ := Lib.hid hzz
  clear hzz
  have a0 := cells_cell (o := 0) H1.out rfl
  have a1 : W.cell? ⟨zz + 1, 1, none⟩ = some (.int .i64 N) := cells_cell H1.out rfl
  have a2 : W.cell? ⟨zz + 1, 2, none⟩ = some (.int .i64 f) := cells_cell H1.out rfl
  have a3 : W.cell? ⟨zz + 1, 3, none⟩ = some (.int .i64 d) := cells_cell H1.out rfl
  have al := lt_of_block H1.out
  go_wp2_with (go_at_call 23; fail)
  refine hpk.out.mono ?_
  rintro e w1 ⟨rfl, hL, hF⟩
  clear a0 a1 a2 a3 al
  clear hpk hzc
  replace H0 := Lib.hid (hF.block H0.out (by decide) (by decide))
  replace H1 := Lib.hid (hF.block H1.out (by decide) (by decide))
  replace H2 := Lib.hid (hF.block H2.out (by decide) (by decide))
  replace HR := Lib.hid (HR.out.frl hF)
  replace HF := Lib.hid (HF.out.trans hF)
  replace HK := Lib.hid (HK.out.did hL hF)
  clear hL hF
  have a0 := cells_cell (o := 0) H1.out rfl
  have a1 : w1.cell? ⟨zz + 1, 1, none⟩ = some (.int .i64 N) := cells_cell H1.out rfl
  have a2 : w1.cell? ⟨zz + 1, 2, none⟩ = some (.int .i64 f) := cells_cell H1.out rfl
  have a3 : w1.cell? ⟨zz + 1, 3, none⟩ = some (.int .i64 d) := cells_cell H1.out rfl
  have al := lt_of_block H1.out
  have x0 := cells_cell (o := 0) H0.out rfl
  have x1 : w1.cell? ⟨zz, 1, none⟩ = some (.slice ra rn rc) := cells_cell H0.out rfl
  have x2 : w1.cell? ⟨zz, 2, none⟩ = some (.slice xa xn xc) := cells_cell H0.out rfl
  have xl := lt_of_block H0.out
  go_wp2_with (go_at_call 34; fail)
  have hr9 := hrf.out (by have h1 := HK.out.below.size; exact h1) HR.out
  unfold rlv at hr9
  refine hr9.mono ?_
  rintro e w2 ⟨s', r', x', rfl, hr, hb⟩
  obtain ⟨pa, pn, pc, qa, qn, qc, oa, on, oc, rfl, rfl, rfl⟩ := rl_form hr
  unfold rlv
  clear a0 a1 a2 a3 al
  clear x0 x1 x2 xl
  clear hr9 hrf
  have HR := Lib.hid hr
  replace H0 := Lib.hid (box_below hb H0.out)
  replace H1 := Lib.hid (box_below hb H1.out)
  replace H2 := Lib.hid (box_below hb H2.out)
  replace HF := Lib.hid (HF.out.trans (FrL.of_below _ hb))
  replace HK := Lib.hid (HK.out.grown hb)
  have hba := below_alloc w2 (.cells #[.slice pa pn pc, .slice qa qn qc, .slice oa on oc] 33)
  have HV := Lib.hid (block_new w2 (.cells #[.slice pa pn pc, .slice qa qn qc, .slice oa on oc] 33) _ rfl)
  have HVZ : Hid (zz + 2 < w2.heap.size) := Lib.hid (lt_of_block H2.out)
  replace H0 := Lib.hid (box_below hba H0.out)
  replace H1 := Lib.hid (box_below hba H1.out)
  replace H2 := Lib.hid (box_below hba H2.out)
  replace HR := Lib.hid (HR.out.below hba)
  replace HF := Lib.hid (HF.out.trans (FrL.of_below _ hba))
  replace HK := Lib.hid (HK.out.grown hba)
  clear hb hr hba
  have HG2 : Hid (G + 1 ≤ 70 * (k + 1)) := Lib.hid (by have := HG.out; omega)
  go_wp2_with fail
  generalize hvv : w2.heap.size = vv at *
  generalize hX3 : w2.alloc (.cells #[.slice pa pn pc, .slice qa qn qc, .slice oa on oc] 33) = X3 at *
  clear hvv hX3
  refine wp_region_mix (fun W' => Fr [zz + 2] X3 W') 7 [(true, 0), (true, 1), (true, 2), (true, 3), (true, 4), (false, 5), (false, 6)] (by kernel_rfl) (by kernel_rfl) (fun _ _ _ d _ h => by cases d <;> exact h) ?_
  have hld : ∀ W', Fr [zz + 2] X3 W' → W'.cell? ⟨vv, 0, none⟩ = some (.slice pa pn pc) ∧ W'.cell? ⟨vv, 1, none⟩ = some (.slice qa qn qc) ∧ W'.cell? ⟨vv, 2, none⟩ = some (.slice oa on oc) ∧ vv < W'.heap.size := fun W' hb => by
    have e0 := hb.same HV.out (by have := HVZ.out; simp; omega)
    exact ⟨cells_cell e0 rfl, cells_cell e0 rfl, cells_cell e0 rfl, lt_of_block e0⟩
  have HS : Hid (Fr [zz + 2] X3 X3.drew) := Lib.hid (fr_drewN X3 1 _)
  simp only [List.map_cons, List.map_nil, List.getD_cons_zero, List.getD_cons_succ, List.drop_succ_cons, List.drop_zero]
  refine mix_move (.tmp 0) (.pointer (some ⟨l.a, 0, none⟩)) rfl HS.out rfl rfl ?_
  simp only [Act.put, List.setIfInBounds_toArray, List.set_cons_zero, List.set_cons_succ]
  refine mix_take (.agg #[.slice pa pn pc, .slice qa qn qc, .slice oa on oc]) HS.out rfl (fun W' hS => by obtain ⟨l0, l1, l2, l3⟩ := hld W' hS; go_simp) ?_
  simp only [Act.put, List.setIfInBounds_toArray, List.set_cons_zero, List.set_cons_succ]
  refine mix_move (.tmp 15) (.int .i64 code) rfl HS.out rfl rfl ?_
  simp only [Act.put, List.setIfInBounds_toArray, List.set_cons_zero, List.set_cons_succ]
  refine mix_move (.tmp 17) (.int .i64 code) rfl HS.out rfl rfl ?_
  simp only [Act.put, List.setIfInBounds_toArray, List.set_cons_zero, List.set_cons_succ]
  refine mix_take (.bool true) HS.out rfl (fun W' hS => by go_simp) ?_
  simp only [Act.put, List.setIfInBounds_toArray, List.set_cons_zero, List.set_cons_succ]
  refine mix_by (.pointer (some ⟨l.a, 0, none⟩)) rfl (by go_simp) HS.out ?_
  simp only [Act.put, List.setIfInBounds_toArray, List.set_cons_zero, List.set_cons_succ]
  have D : Below X3.heap.size X3 X3.drew := ((Grn.refl X3).drew 1).below
  have c2 := (D.block _ (lt_of_block H2.out)).trans H2.out
  have HK4 := Lib.hid (HK.out.grown D)
  have HR4 := Lib.hid (HR.out.below D)
  have HF4 := Lib.hid (HF.out.trans (FrL.of_below _ D))
  clear D hld
  generalize X3.drew = V6 at *
  have y0 := cells_cell (o := 0) c2 rfl
  have y1 : V6.cell? ⟨zz + 2, 1, none⟩ = some (.slice none 0 0) := cells_cell c2 rfl
  have y2 : V6.cell? ⟨zz + 2, 2, none⟩ = some (.slice none 0 0) := cells_cell c2 rfl
  have z0 := cells_free c2 0
  have z1 := cells_free c2 1
  have z2' := cells_free c2 2
  have hxl := lt_of_block c2
  have hf := ((fr_setCell V6 ⟨zz + 2, 0, none⟩ (.slice pa pn pc)).trans' (fr_setCell _ ⟨zz + 2, 1, none⟩ (.slice qa qn qc))).trans' (fr_setCell _ ⟨zz + 2, 2, none⟩ (.slice oa on oc))
  have hc := cells_set (cells_set (cells_set c2 0 (.slice pa pn pc)) 1 (.slice qa qn qc)) 2 (.slice oa on oc)
  have HE2 : Hid (E9 w0 _ l z2 (G + 1) (.slice pa pn pc) (.slice qa qn qc) (.slice oa on oc) (k + 1)) := Lib.hid ⟨HK4.out.put c2 (by decide) (by have := HWS.out.1; omega) hf, HR4.out.fr hf (fun k hk => by simp at hk; subst hk; exact ⟨_, _, c2, by decide, by decide⟩), HG2.out⟩
  have HE1 := Lib.hid (HF4.out.fresh hf (fun x hx => by have := HZZ.out; simp at hx; omega))
  have HS2 := Lib.hid (HS.out.trans' hf)
  have HC := Lib.hid hc
  clear hf hc c2 HS HK4 HR4 HF4
  refine mix_step rfl (fun K hK => ?_)
  go_simp
  refine hK _ _ HS2.out ?_
  clear hK
  refine mix_nil ?_
  go_wp2_with fail
  have hc := HC.out
  simp at hc
  refine bodyPost_ret (v := .tuple #[.pointer (some ⟨l.a, 0, none⟩), .agg #[.slice pa pn pc, .slice qa qn qc, .slice oa on oc], .bool true]) (by simp [results, Tryd.results11, go_sem, cells_cell (o := 0) hc rfl, cells_cell (o := 1) hc rfl, cells_cell (o := 2) hc rfl]) rfl ?_
  exact ⟨HE1.out, l, _, _, _, _, _, rfl, HE2.out⟩
end Go.Proofs.YtcdimopiaanfbaaDoor
/- The law's do: Park. -/
namespace Go.Proofs.YtcdimopiaanfbaaDoor
open Go.RowKit Go.Sort
set_option linter.unusedVariables false
set_option linter.unusedSimpArgs false

set_option maxRecDepth 100000 in
set_option maxHeartbeats 12800000 in
theorem do9_Park {w0 w : World} {l : Ll} {z : Zt} {G k : Nat} {s r x : Value} (h : E9 w0 w l z G s r x k) (hk : k < 100) (N f d : Int) :
    Calls Tryd.prog 11 #[.pointer (some ⟨l.a, 0, none⟩), rlv s r x, .agg #[.int .i64 3, .int .i64 N, .int .i64 f, .int .i64 d]] w (DoPost9 w0 w k) := by
  obtain ⟨sa, sn, sc, ra, rn, rc, xa, xn, xc, rfl, rfl, rfl⟩ := rl_form h.R
  obtain ⟨W, hW, hb, hs, h0, h1, h2⟩ := do_blocks9 w (.cells #[.slice sa sn sc, .slice ra rn rc, .slice xa xn xc] 33) (.cells #[.int .i64 3, .int .i64 N, .int .i64 f, .int .i64 d] 40) (.cells #[.slice none 0 0, .slice none 0 0, .slice none 0 0] 33)
  have HK := Lib.hid (h.K.grown hb)
  have HR := Lib.hid (h.R.below hb)
  have HF := Lib.hid (FrL.of_below (fun x => w0.heap.size ≤ x) hb)
  have HG : Hid (G ≤ 70 * k ∧ k < 100) := Lib.hid ⟨h.g, hk⟩
  have HWS : Hid (w0.heap.size ≤ w.heap.size ∧ W.heap.size = w.heap.size + 3) := Lib.hid ⟨h.K.below.size, hs⟩
  have H0 := Lib.hid h0
  have H1 := Lib.hid h1
  have H2 := Lib.hid h2
  have HW := Lib.hid hW
  obtain ⟨z2, code, hzc⟩ : ∃ z2 code, pkC z N (f, d) = (code, z2) := ⟨_, _, rfl⟩
  have hpk : Hid (Calls Tryd.prog 24 #[.pointer (some ⟨l.a, 0, none⟩), .int .i64 N, .agg #[.int .i64 f, .int .i64 d]] W fun e w' => e = .returned (.int .i64 code) ∧ LS w0.heap.size (fun x => w0.heap.size ≤ x) w' l z2 (G + 1) ∧ FrL (fun x => w0.heap.size ≤ x) W w') := Lib.hid (by
    have := pkPark_any HK.out.K (by have := HG.out; omega) N (f, d)
    rw [hzc] at this
    exact this)
  have hrf : Hid (∀ {W : World} {s r x : Value}, w0.heap.size ≤ W.heap.size → RL W w0.heap.size s r x z → Calls Tryd.prog 35 #[rlv s r x, .int .i64 N, .agg #[.int .i64 f, .int .i64 d]] W (RAns W w0.heap.size z2 code)) := Lib.hid (fun hb hr => by
    have := g9Park_any hr hb HK.out.K.zk N (f, d)
    have e : pkC z N (f, d) = pkC z N (f, d) := rfl
    rw [← e, hzc] at this
    exact this)
  clear h hk hb hs h0 h1 h2 hW
  unfold rlv
  go_enter Tryd.func11, Tryd.ntmps11
  go_wp2_with fail
  rw [HW.out]
  clear HW
  generalize hzz : w.heap.size = zz at *
  have HZZ := Lib.hid hzz
  clear hzz
  have a0 := cells_cell (o := 0) H1.out rfl
  have a1 : W.cell? ⟨zz + 1, 1, none⟩ = some (.int .i64 N) := cells_cell H1.out rfl
  have a2 : W.cell? ⟨zz + 1, 2, none⟩ = some (.int .i64 f) := cells_cell H1.out rfl
  have a3 : W.cell? ⟨zz + 1, 3, none⟩ = some (.int .i64 d) := cells_cell H1.out rfl
  have al := lt_of_block H1.out
  go_wp2_with (go_at_call 24; fail)
  refine hpk.out.mono ?_
  rintro e w1 ⟨rfl, hL, hF⟩
  clear a0 a1 a2 a3 al
  clear hpk hzc
  replace H0 := Lib.hid (hF.block H0.out (by decide) (by decide))
  replace H1 := Lib.hid (hF.block H1.out (by decide) (by decide))
  replace H2 := Lib.hid (hF.block H2.out (by decide) (by decide))
  replace HR := Lib.hid (HR.out.frl hF)
  replace HF := Lib.hid (HF.out.trans hF)
  replace HK := Lib.hid (HK.out.did hL hF)
  clear hL hF
  have a0 := cells_cell (o := 0) H1.out rfl
  have a1 : w1.cell? ⟨zz + 1, 1, none⟩ = some (.int .i64 N) := cells_cell H1.out rfl
  have a2 : w1.cell? ⟨zz + 1, 2, none⟩ = some (.int .i64 f) := cells_cell H1.out rfl
  have a3 : w1.cell? ⟨zz + 1, 3, none⟩ = some (.int .i64 d) := cells_cell H1.out rfl
  have al := lt_of_block H1.out
  have x0 := cells_cell (o := 0) H0.out rfl
  have x1 : w1.cell? ⟨zz, 1, none⟩ = some (.slice ra rn rc) := cells_cell H0.out rfl
  have x2 : w1.cell? ⟨zz, 2, none⟩ = some (.slice xa xn xc) := cells_cell H0.out rfl
  have xl := lt_of_block H0.out
  go_wp2_with (go_at_call 35; fail)
  have hr9 := hrf.out (by have h1 := HK.out.below.size; exact h1) HR.out
  unfold rlv at hr9
  refine hr9.mono ?_
  rintro e w2 ⟨s', r', x', rfl, hr, hb⟩
  obtain ⟨pa, pn, pc, qa, qn, qc, oa, on, oc, rfl, rfl, rfl⟩ := rl_form hr
  unfold rlv
  clear a0 a1 a2 a3 al
  clear x0 x1 x2 xl
  clear hr9 hrf
  have HR := Lib.hid hr
  replace H0 := Lib.hid (box_below hb H0.out)
  replace H1 := Lib.hid (box_below hb H1.out)
  replace H2 := Lib.hid (box_below hb H2.out)
  replace HF := Lib.hid (HF.out.trans (FrL.of_below _ hb))
  replace HK := Lib.hid (HK.out.grown hb)
  have hba := below_alloc w2 (.cells #[.slice pa pn pc, .slice qa qn qc, .slice oa on oc] 33)
  have HV := Lib.hid (block_new w2 (.cells #[.slice pa pn pc, .slice qa qn qc, .slice oa on oc] 33) _ rfl)
  have HVZ : Hid (zz + 2 < w2.heap.size) := Lib.hid (lt_of_block H2.out)
  replace H0 := Lib.hid (box_below hba H0.out)
  replace H1 := Lib.hid (box_below hba H1.out)
  replace H2 := Lib.hid (box_below hba H2.out)
  replace HR := Lib.hid (HR.out.below hba)
  replace HF := Lib.hid (HF.out.trans (FrL.of_below _ hba))
  replace HK := Lib.hid (HK.out.grown hba)
  clear hb hr hba
  have HG2 : Hid (G + 1 ≤ 70 * (k + 1)) := Lib.hid (by have := HG.out; omega)
  go_wp2_with fail
  generalize hvv : w2.heap.size = vv at *
  generalize hX3 : w2.alloc (.cells #[.slice pa pn pc, .slice qa qn qc, .slice oa on oc] 33) = X3 at *
  clear hvv hX3
  refine wp_region_mix (fun W' => Fr [zz + 2] X3 W') 7 [(true, 0), (true, 1), (true, 2), (true, 3), (true, 4), (false, 5), (false, 6)] (by kernel_rfl) (by kernel_rfl) (fun _ _ _ d _ h => by cases d <;> exact h) ?_
  have hld : ∀ W', Fr [zz + 2] X3 W' → W'.cell? ⟨vv, 0, none⟩ = some (.slice pa pn pc) ∧ W'.cell? ⟨vv, 1, none⟩ = some (.slice qa qn qc) ∧ W'.cell? ⟨vv, 2, none⟩ = some (.slice oa on oc) ∧ vv < W'.heap.size := fun W' hb => by
    have e0 := hb.same HV.out (by have := HVZ.out; simp; omega)
    exact ⟨cells_cell e0 rfl, cells_cell e0 rfl, cells_cell e0 rfl, lt_of_block e0⟩
  have HS : Hid (Fr [zz + 2] X3 X3.drew) := Lib.hid (fr_drewN X3 1 _)
  simp only [List.map_cons, List.map_nil, List.getD_cons_zero, List.getD_cons_succ, List.drop_succ_cons, List.drop_zero]
  refine mix_move (.tmp 0) (.pointer (some ⟨l.a, 0, none⟩)) rfl HS.out rfl rfl ?_
  simp only [Act.put, List.setIfInBounds_toArray, List.set_cons_zero, List.set_cons_succ]
  refine mix_take (.agg #[.slice pa pn pc, .slice qa qn qc, .slice oa on oc]) HS.out rfl (fun W' hS => by obtain ⟨l0, l1, l2, l3⟩ := hld W' hS; go_simp) ?_
  simp only [Act.put, List.setIfInBounds_toArray, List.set_cons_zero, List.set_cons_succ]
  refine mix_move (.tmp 18) (.int .i64 code) rfl HS.out rfl rfl ?_
  simp only [Act.put, List.setIfInBounds_toArray, List.set_cons_zero, List.set_cons_succ]
  refine mix_move (.tmp 20) (.int .i64 code) rfl HS.out rfl rfl ?_
  simp only [Act.put, List.setIfInBounds_toArray, List.set_cons_zero, List.set_cons_succ]
  refine mix_take (.bool true) HS.out rfl (fun W' hS => by go_simp) ?_
  simp only [Act.put, List.setIfInBounds_toArray, List.set_cons_zero, List.set_cons_succ]
  refine mix_by (.pointer (some ⟨l.a, 0, none⟩)) rfl (by go_simp) HS.out ?_
  simp only [Act.put, List.setIfInBounds_toArray, List.set_cons_zero, List.set_cons_succ]
  have D : Below X3.heap.size X3 X3.drew := ((Grn.refl X3).drew 1).below
  have c2 := (D.block _ (lt_of_block H2.out)).trans H2.out
  have HK4 := Lib.hid (HK.out.grown D)
  have HR4 := Lib.hid (HR.out.below D)
  have HF4 := Lib.hid (HF.out.trans (FrL.of_below _ D))
  clear D hld
  generalize X3.drew = V6 at *
  have y0 := cells_cell (o := 0) c2 rfl
  have y1 : V6.cell? ⟨zz + 2, 1, none⟩ = some (.slice none 0 0) := cells_cell c2 rfl
  have y2 : V6.cell? ⟨zz + 2, 2, none⟩ = some (.slice none 0 0) := cells_cell c2 rfl
  have z0 := cells_free c2 0
  have z1 := cells_free c2 1
  have z2' := cells_free c2 2
  have hxl := lt_of_block c2
  have hf := ((fr_setCell V6 ⟨zz + 2, 0, none⟩ (.slice pa pn pc)).trans' (fr_setCell _ ⟨zz + 2, 1, none⟩ (.slice qa qn qc))).trans' (fr_setCell _ ⟨zz + 2, 2, none⟩ (.slice oa on oc))
  have hc := cells_set (cells_set (cells_set c2 0 (.slice pa pn pc)) 1 (.slice qa qn qc)) 2 (.slice oa on oc)
  have HE2 : Hid (E9 w0 _ l z2 (G + 1) (.slice pa pn pc) (.slice qa qn qc) (.slice oa on oc) (k + 1)) := Lib.hid ⟨HK4.out.put c2 (by decide) (by have := HWS.out.1; omega) hf, HR4.out.fr hf (fun k hk => by simp at hk; subst hk; exact ⟨_, _, c2, by decide, by decide⟩), HG2.out⟩
  have HE1 := Lib.hid (HF4.out.fresh hf (fun x hx => by have := HZZ.out; simp at hx; omega))
  have HS2 := Lib.hid (HS.out.trans' hf)
  have HC := Lib.hid hc
  clear hf hc c2 HS HK4 HR4 HF4
  refine mix_step rfl (fun K hK => ?_)
  go_simp
  refine hK _ _ HS2.out ?_
  clear hK
  refine mix_nil ?_
  go_wp2_with fail
  have hc := HC.out
  simp at hc
  refine bodyPost_ret (v := .tuple #[.pointer (some ⟨l.a, 0, none⟩), .agg #[.slice pa pn pc, .slice qa qn qc, .slice oa on oc], .bool true]) (by simp [results, Tryd.results11, go_sem, cells_cell (o := 0) hc rfl, cells_cell (o := 1) hc rfl, cells_cell (o := 2) hc rfl]) rfl ?_
  exact ⟨HE1.out, l, _, _, _, _, _, rfl, HE2.out⟩
end Go.Proofs.YtcdimopiaanfbaaDoor
/- The law's do: Wake. -/
namespace Go.Proofs.YtcdimopiaanfbaaDoor
open Go.RowKit Go.Sort
set_option linter.unusedVariables false
set_option linter.unusedSimpArgs false

set_option maxRecDepth 100000 in
set_option maxHeartbeats 12800000 in
theorem do9_Wake {w0 w : World} {l : Ll} {z : Zt} {G k : Nat} {s r x : Value} (h : E9 w0 w l z G s r x k) (hk : k < 100) (N f d : Int) :
    Calls Tryd.prog 11 #[.pointer (some ⟨l.a, 0, none⟩), rlv s r x, .agg #[.int .i64 4, .int .i64 N, .int .i64 f, .int .i64 d]] w (DoPost9 w0 w k) := by
  obtain ⟨sa, sn, sc, ra, rn, rc, xa, xn, xc, rfl, rfl, rfl⟩ := rl_form h.R
  obtain ⟨W, hW, hb, hs, h0, h1, h2⟩ := do_blocks9 w (.cells #[.slice sa sn sc, .slice ra rn rc, .slice xa xn xc] 33) (.cells #[.int .i64 4, .int .i64 N, .int .i64 f, .int .i64 d] 40) (.cells #[.slice none 0 0, .slice none 0 0, .slice none 0 0] 33)
  have HK := Lib.hid (h.K.grown hb)
  have HR := Lib.hid (h.R.below hb)
  have HF := Lib.hid (FrL.of_below (fun x => w0.heap.size ≤ x) hb)
  have HG : Hid (G ≤ 70 * k ∧ k < 100) := Lib.hid ⟨h.g, hk⟩
  have HWS : Hid (w0.heap.size ≤ w.heap.size ∧ W.heap.size = w.heap.size + 3) := Lib.hid ⟨h.K.below.size, hs⟩
  have H0 := Lib.hid h0
  have H1 := Lib.hid h1
  have H2 := Lib.hid h2
  have HW := Lib.hid hW
  obtain ⟨n, code, z2, hzc⟩ : ∃ n code z2, wkC z (f, d) = (n, code, z2) := ⟨_, _, _, rfl⟩
  have hpk : Hid (Calls Tryd.prog 16 #[.pointer (some ⟨l.a, 0, none⟩), .agg #[.int .i64 f, .int .i64 d]] W fun e w' => e = .returned (.tuple #[.int .i64 n, .int .i64 code]) ∧ LS w0.heap.size (fun x => w0.heap.size ≤ x) w' l z2 (G + 1) ∧ FrL (fun x => w0.heap.size ≤ x) W w') := Lib.hid (by
    have := pkWake_any HK.out.K (by have := HG.out; omega) (f, d)
    rw [hzc] at this
    exact this)
  have hrf : Hid (∀ {W : World} {s r x : Value}, w0.heap.size ≤ W.heap.size → RL W w0.heap.size s r x z → Calls Tryd.prog 36 #[rlv s r x, .agg #[.int .i64 f, .int .i64 d]] W (KAns W w0.heap.size n code z2)) := Lib.hid (fun hb hr => by
    have := g9Wake_any hr hb HK.out.K.zk (f, d)
    rw [hzc] at this
    exact this)
  clear h hk hb hs h0 h1 h2 hW
  unfold rlv
  go_enter Tryd.func11, Tryd.ntmps11
  go_wp2_with fail
  rw [HW.out]
  clear HW
  generalize hzz : w.heap.size = zz at *
  have HZZ := Lib.hid hzz
  clear hzz
  have a0 := cells_cell (o := 0) H1.out rfl
  have a1 : W.cell? ⟨zz + 1, 1, none⟩ = some (.int .i64 N) := cells_cell H1.out rfl
  have a2 : W.cell? ⟨zz + 1, 2, none⟩ = some (.int .i64 f) := cells_cell H1.out rfl
  have a3 : W.cell? ⟨zz + 1, 3, none⟩ = some (.int .i64 d) := cells_cell H1.out rfl
  have al := lt_of_block H1.out
  go_wp2_with (go_at_call 16; fail)
  refine hpk.out.mono ?_
  rintro e w1 ⟨rfl, hL, hF⟩
  clear a0 a1 a2 a3 al
  clear hpk hzc
  replace H0 := Lib.hid (hF.block H0.out (by decide) (by decide))
  replace H1 := Lib.hid (hF.block H1.out (by decide) (by decide))
  replace H2 := Lib.hid (hF.block H2.out (by decide) (by decide))
  replace HR := Lib.hid (HR.out.frl hF)
  replace HF := Lib.hid (HF.out.trans hF)
  replace HK := Lib.hid (HK.out.did hL hF)
  clear hL hF
  have a0 := cells_cell (o := 0) H1.out rfl
  have a1 : w1.cell? ⟨zz + 1, 1, none⟩ = some (.int .i64 N) := cells_cell H1.out rfl
  have a2 : w1.cell? ⟨zz + 1, 2, none⟩ = some (.int .i64 f) := cells_cell H1.out rfl
  have a3 : w1.cell? ⟨zz + 1, 3, none⟩ = some (.int .i64 d) := cells_cell H1.out rfl
  have al := lt_of_block H1.out
  have x0 := cells_cell (o := 0) H0.out rfl
  have x1 : w1.cell? ⟨zz, 1, none⟩ = some (.slice ra rn rc) := cells_cell H0.out rfl
  have x2 : w1.cell? ⟨zz, 2, none⟩ = some (.slice xa xn xc) := cells_cell H0.out rfl
  have xl := lt_of_block H0.out
  go_wp2_with (go_at_call 36; fail)
  have hr9 := hrf.out (by have h1 := HK.out.below.size; exact h1) HR.out
  unfold rlv at hr9
  refine hr9.mono ?_
  rintro e w2 ⟨s', r', x', rfl, hr, hb⟩
  obtain ⟨pa, pn, pc, qa, qn, qc, oa, on, oc, rfl, rfl, rfl⟩ := rl_form hr
  unfold rlv
  clear a0 a1 a2 a3 al
  clear x0 x1 x2 xl
  clear hr9 hrf
  have HR := Lib.hid hr
  replace H0 := Lib.hid (box_below hb H0.out)
  replace H1 := Lib.hid (box_below hb H1.out)
  replace H2 := Lib.hid (box_below hb H2.out)
  replace HF := Lib.hid (HF.out.trans (FrL.of_below _ hb))
  replace HK := Lib.hid (HK.out.grown hb)
  have hba := below_alloc w2 (.cells #[.slice pa pn pc, .slice qa qn qc, .slice oa on oc] 33)
  have HV := Lib.hid (block_new w2 (.cells #[.slice pa pn pc, .slice qa qn qc, .slice oa on oc] 33) _ rfl)
  have HVZ : Hid (zz + 2 < w2.heap.size) := Lib.hid (lt_of_block H2.out)
  replace H0 := Lib.hid (box_below hba H0.out)
  replace H1 := Lib.hid (box_below hba H1.out)
  replace H2 := Lib.hid (box_below hba H2.out)
  replace HR := Lib.hid (HR.out.below hba)
  replace HF := Lib.hid (HF.out.trans (FrL.of_below _ hba))
  replace HK := Lib.hid (HK.out.grown hba)
  clear hb hr hba
  have HG2 : Hid (G + 1 ≤ 70 * (k + 1)) := Lib.hid (by have := HG.out; omega)
  go_wp2_with fail
  generalize hvv : w2.heap.size = vv at *
  generalize hX3 : w2.alloc (.cells #[.slice pa pn pc, .slice qa qn qc, .slice oa on oc] 33) = X3 at *
  clear hvv hX3
  refine wp_region_mix (fun W' => Fr [zz + 2] X3 W') 12 [(true, 0), (true, 1), (true, 2), (true, 3), (true, 4), (true, 5), (true, 6), (true, 7), (true, 8), (true, 9), (false, 10), (false, 11)] (by kernel_rfl) (by kernel_rfl) (fun _ _ _ d _ h => by cases d <;> exact h) ?_
  have hld : ∀ W', Fr [zz + 2] X3 W' → W'.cell? ⟨vv, 0, none⟩ = some (.slice pa pn pc) ∧ W'.cell? ⟨vv, 1, none⟩ = some (.slice qa qn qc) ∧ W'.cell? ⟨vv, 2, none⟩ = some (.slice oa on oc) ∧ vv < W'.heap.size := fun W' hb => by
    have e0 := hb.same HV.out (by have := HVZ.out; simp; omega)
    exact ⟨cells_cell e0 rfl, cells_cell e0 rfl, cells_cell e0 rfl, lt_of_block e0⟩
  have HS : Hid (Fr [zz + 2] X3 X3.drew) := Lib.hid (fr_drewN X3 1 _)
  simp only [List.map_cons, List.map_nil, List.getD_cons_zero, List.getD_cons_succ, List.drop_succ_cons, List.drop_zero]
  refine mix_move (.tmp 0) (.pointer (some ⟨l.a, 0, none⟩)) rfl HS.out rfl rfl ?_
  simp only [Act.put, List.setIfInBounds_toArray, List.set_cons_zero, List.set_cons_succ]
  refine mix_take (.agg #[.slice pa pn pc, .slice qa qn qc, .slice oa on oc]) HS.out rfl (fun W' hS => by obtain ⟨l0, l1, l2, l3⟩ := hld W' hS; go_simp) ?_
  simp only [Act.put, List.setIfInBounds_toArray, List.set_cons_zero, List.set_cons_succ]
  refine mix_move (.tmp 21) (.int .i64 n) rfl HS.out rfl rfl ?_
  simp only [Act.put, List.setIfInBounds_toArray, List.set_cons_zero, List.set_cons_succ]
  refine mix_move (.tmp 24) (.int .i64 n) rfl HS.out rfl rfl ?_
  simp only [Act.put, List.setIfInBounds_toArray, List.set_cons_zero, List.set_cons_succ]
  refine mix_take (.bool true) HS.out rfl (fun W' hS => by go_simp) ?_
  simp only [Act.put, List.setIfInBounds_toArray, List.set_cons_zero, List.set_cons_succ]
  refine mix_move (.tmp 136) (.bool true) rfl HS.out rfl rfl ?_
  simp only [Act.put, List.setIfInBounds_toArray, List.set_cons_zero, List.set_cons_succ]
  refine mix_move (.tmp 22) (.int .i64 code) rfl HS.out rfl rfl ?_
  simp only [Act.put, List.setIfInBounds_toArray, List.set_cons_zero, List.set_cons_succ]
  refine mix_move (.tmp 25) (.int .i64 code) rfl HS.out rfl rfl ?_
  simp only [Act.put, List.setIfInBounds_toArray, List.set_cons_zero, List.set_cons_succ]
  refine mix_take (.bool true) HS.out rfl (fun W' hS => by go_simp) ?_
  simp only [Act.put, List.setIfInBounds_toArray, List.set_cons_zero, List.set_cons_succ]
  refine mix_take (.bool true) HS.out rfl (fun W' hS => by go_simp) ?_
  simp only [Act.put, List.setIfInBounds_toArray, List.set_cons_zero, List.set_cons_succ]
  refine mix_by (.pointer (some ⟨l.a, 0, none⟩)) rfl (by go_simp) HS.out ?_
  simp only [Act.put, List.setIfInBounds_toArray, List.set_cons_zero, List.set_cons_succ]
  have D : Below X3.heap.size X3 X3.drew := ((Grn.refl X3).drew 1).below
  have c2 := (D.block _ (lt_of_block H2.out)).trans H2.out
  have HK4 := Lib.hid (HK.out.grown D)
  have HR4 := Lib.hid (HR.out.below D)
  have HF4 := Lib.hid (HF.out.trans (FrL.of_below _ D))
  clear D hld
  generalize X3.drew = V6 at *
  have y0 := cells_cell (o := 0) c2 rfl
  have y1 : V6.cell? ⟨zz + 2, 1, none⟩ = some (.slice none 0 0) := cells_cell c2 rfl
  have y2 : V6.cell? ⟨zz + 2, 2, none⟩ = some (.slice none 0 0) := cells_cell c2 rfl
  have z0 := cells_free c2 0
  have z1 := cells_free c2 1
  have z2' := cells_free c2 2
  have hxl := lt_of_block c2
  have hf := ((fr_setCell V6 ⟨zz + 2, 0, none⟩ (.slice pa pn pc)).trans' (fr_setCell _ ⟨zz + 2, 1, none⟩ (.slice qa qn qc))).trans' (fr_setCell _ ⟨zz + 2, 2, none⟩ (.slice oa on oc))
  have hc := cells_set (cells_set (cells_set c2 0 (.slice pa pn pc)) 1 (.slice qa qn qc)) 2 (.slice oa on oc)
  have HE2 : Hid (E9 w0 _ l z2 (G + 1) (.slice pa pn pc) (.slice qa qn qc) (.slice oa on oc) (k + 1)) := Lib.hid ⟨HK4.out.put c2 (by decide) (by have := HWS.out.1; omega) hf, HR4.out.fr hf (fun k hk => by simp at hk; subst hk; exact ⟨_, _, c2, by decide, by decide⟩), HG2.out⟩
  have HE1 := Lib.hid (HF4.out.fresh hf (fun x hx => by have := HZZ.out; simp at hx; omega))
  have HS2 := Lib.hid (HS.out.trans' hf)
  have HC := Lib.hid hc
  clear hf hc c2 HS HK4 HR4 HF4
  refine mix_step rfl (fun K hK => ?_)
  go_simp
  refine hK _ _ HS2.out ?_
  clear hK
  refine mix_nil ?_
  go_wp2_with fail
  have hc := HC.out
  simp at hc
  refine bodyPost_ret (v := .tuple #[.pointer (some ⟨l.a, 0, none⟩), .agg #[.slice pa pn pc, .slice qa qn qc, .slice oa on oc], .bool true]) (by simp [results, Tryd.results11, go_sem, cells_cell (o := 0) hc rfl, cells_cell (o := 1) hc rfl, cells_cell (o := 2) hc rfl]) rfl ?_
  exact ⟨HE1.out, l, _, _, _, _, _, rfl, HE2.out⟩
end Go.Proofs.YtcdimopiaanfbaaDoor
/- The law's do: WakeAll. -/
namespace Go.Proofs.YtcdimopiaanfbaaDoor
open Go.RowKit Go.Sort
set_option linter.unusedVariables false
set_option linter.unusedSimpArgs false

set_option maxRecDepth 100000 in
set_option maxHeartbeats 12800000 in
theorem do9_WakeAll {w0 w : World} {l : Ll} {z : Zt} {G k : Nat} {s r x : Value} (h : E9 w0 w l z G s r x k) (hk : k < 100) (N f d : Int) :
    Calls Tryd.prog 11 #[.pointer (some ⟨l.a, 0, none⟩), rlv s r x, .agg #[.int .i64 5, .int .i64 N, .int .i64 f, .int .i64 d]] w (DoPost9 w0 w k) := by
  obtain ⟨sa, sn, sc, ra, rn, rc, xa, xn, xc, rfl, rfl, rfl⟩ := rl_form h.R
  obtain ⟨W, hW, hb, hs, h0, h1, h2⟩ := do_blocks9 w (.cells #[.slice sa sn sc, .slice ra rn rc, .slice xa xn xc] 33) (.cells #[.int .i64 5, .int .i64 N, .int .i64 f, .int .i64 d] 40) (.cells #[.slice none 0 0, .slice none 0 0, .slice none 0 0] 33)
  have HK := Lib.hid (h.K.grown hb)
  have HR := Lib.hid (h.R.below hb)
  have HF := Lib.hid (FrL.of_below (fun x => w0.heap.size ≤ x) hb)
  have HG : Hid (G ≤ 70 * k ∧ k < 100) := Lib.hid ⟨h.g, hk⟩
  have HWS : Hid (w0.heap.size ≤ w.heap.size ∧ W.heap.size = w.heap.size + 3) := Lib.hid ⟨h.K.below.size, hs⟩
  have H0 := Lib.hid h0
  have H1 := Lib.hid h1
  have H2 := Lib.hid h2
  have HW := Lib.hid hW
  obtain ⟨X, code, z2, hzc⟩ : ∃ X code z2, wkaC z (f, d) = (X, code, z2) := ⟨_, _, _, rfl⟩
  have hXL : Hid (X.length ≤ 64) := Lib.hid (by
    have h1 := wkaC_wt z (f, d)
    rw [hzc] at h1
    simp only [Prod.mk.injEq] at h1
    rw [h1.1]
    have := wtC_len z (f, d)
    have := HK.out.K.zk.l
    simp [cat]
    omega)
  have hpk : Hid (Calls Tryd.prog 17 #[.pointer (some ⟨l.a, 0, none⟩), .agg #[.int .i64 f, .int .i64 d]] W fun e w' => ∃ v, e = .returned (.tuple #[v, .int .i64 code]) ∧ Row TI w' W.heap.size v X ∧ LS w0.heap.size (fun x => w0.heap.size ≤ x) w' l z2 (G + 64) ∧ FrL (fun x => w0.heap.size ≤ x) W w') := Lib.hid (by
    have := pkWakeAll_any HK.out.K (by have := HG.out; omega) (f, d)
    rw [hzc] at this
    exact this)
  have hrf : Hid (∀ {W : World} {s r x : Value}, w0.heap.size ≤ W.heap.size → RL W w0.heap.size s r x z → Calls Tryd.prog 37 #[rlv s r x, .agg #[.int .i64 f, .int .i64 d]] W (AAns W w0.heap.size X code z2)) := Lib.hid (fun hb hr => by
    have := g9WakeAll_any hr hb HK.out.K.zk HK.out.K.zr (f, d)
    rw [hzc] at this
    exact this)
  clear h hk hb hs h0 h1 h2 hW
  unfold rlv
  go_enter Tryd.func11, Tryd.ntmps11
  go_wp2_with fail
  rw [HW.out]
  clear HW
  generalize hzz : w.heap.size = zz at *
  have HZZ := Lib.hid hzz
  clear hzz
  have a0 := cells_cell (o := 0) H1.out rfl
  have a1 : W.cell? ⟨zz + 1, 1, none⟩ = some (.int .i64 N) := cells_cell H1.out rfl
  have a2 : W.cell? ⟨zz + 1, 2, none⟩ = some (.int .i64 f) := cells_cell H1.out rfl
  have a3 : W.cell? ⟨zz + 1, 3, none⟩ = some (.int .i64 d) := cells_cell H1.out rfl
  have al := lt_of_block H1.out
  go_wp2_with (go_at_call 17; fail)
  refine hpk.out.mono ?_
  rintro e w1 ⟨v1, rfl, hv1, hL, hF⟩
  obtain ⟨v1a, v1n, v1c, rfl⟩ := row_form hv1
  clear a0 a1 a2 a3 al
  clear hpk hzc
  replace H0 := Lib.hid (hF.block H0.out (by decide) (by decide))
  replace H1 := Lib.hid (hF.block H1.out (by decide) (by decide))
  replace H2 := Lib.hid (hF.block H2.out (by decide) (by decide))
  replace HR := Lib.hid (HR.out.frl hF)
  replace HF := Lib.hid (HF.out.trans hF)
  replace HK := Lib.hid (HK.out.did hL hF)
  clear hL hF
  have a0 := cells_cell (o := 0) H1.out rfl
  have a1 : w1.cell? ⟨zz + 1, 1, none⟩ = some (.int .i64 N) := cells_cell H1.out rfl
  have a2 : w1.cell? ⟨zz + 1, 2, none⟩ = some (.int .i64 f) := cells_cell H1.out rfl
  have a3 : w1.cell? ⟨zz + 1, 3, none⟩ = some (.int .i64 d) := cells_cell H1.out rfl
  have al := lt_of_block H1.out
  have x0 := cells_cell (o := 0) H0.out rfl
  have x1 : w1.cell? ⟨zz, 1, none⟩ = some (.slice ra rn rc) := cells_cell H0.out rfl
  have x2 : w1.cell? ⟨zz, 2, none⟩ = some (.slice xa xn xc) := cells_cell H0.out rfl
  have xl := lt_of_block H0.out
  go_wp2_with (go_at_call 37; fail)
  have hr9 := hrf.out (by have h1 := HK.out.below.size; exact h1) HR.out
  unfold rlv at hr9
  refine hr9.mono ?_
  rintro e w2 ⟨s', r', x', v2, rfl, hr, hv2, hb⟩
  obtain ⟨pa, pn, pc, qa, qn, qc, oa, on, oc, rfl, rfl, rfl⟩ := rl_form hr
  obtain ⟨v2a, v2n, v2c, rfl⟩ := row_form hv2
  have HS1 := Lib.hid ((hv1.below hb).src TI_ok)
  have HS2 := Lib.hid (hv2.src TI_ok)
  unfold rlv
  clear a0 a1 a2 a3 al
  clear x0 x1 x2 xl
  clear hr9 hrf hv1 hv2
  have HR := Lib.hid hr
  replace H0 := Lib.hid (box_below hb H0.out)
  replace H1 := Lib.hid (box_below hb H1.out)
  replace H2 := Lib.hid (box_below hb H2.out)
  replace HF := Lib.hid (HF.out.trans (FrL.of_below _ hb))
  replace HK := Lib.hid (HK.out.grown hb)
  have hba := below_alloc w2 (.cells #[.slice pa pn pc, .slice qa qn qc, .slice oa on oc] 33)
  have HV := Lib.hid (block_new w2 (.cells #[.slice pa pn pc, .slice qa qn qc, .slice oa on oc] 33) _ rfl)
  have HVZ : Hid (zz + 2 < w2.heap.size) := Lib.hid (lt_of_block H2.out)
  replace H0 := Lib.hid (box_below hba H0.out)
  replace H1 := Lib.hid (box_below hba H1.out)
  replace H2 := Lib.hid (box_below hba H2.out)
  replace HR := Lib.hid (HR.out.below hba)
  replace HF := Lib.hid (HF.out.trans (FrL.of_below _ hba))
  replace HK := Lib.hid (HK.out.grown hba)
  replace HS1 := Lib.hid (HS1.out.grown hba)
  replace HS2 := Lib.hid (HS2.out.grown hba)
  clear hb hr hba
  have HG2 : Hid (G + 64 ≤ 70 * (k + 1)) := Lib.hid (by have := HG.out; omega)
  go_wp2_with fail
  generalize hvv : w2.heap.size = vv at *
  generalize hX3 : w2.alloc (.cells #[.slice pa pn pc, .slice qa qn qc, .slice oa on oc] 33) = X3 at *
  clear hvv hX3
  refine wp_region_mix (fun W' => Fr [zz + 2] X3 W') 12 [(true, 0), (true, 1), (true, 2), (true, 3), (false, 4), (true, 5), (true, 6), (true, 7), (true, 8), (true, 9), (false, 10), (false, 11)] (by kernel_rfl) (by kernel_rfl) (fun _ _ _ d _ h => by cases d <;> exact h) ?_
  have hld : ∀ W', Fr [zz + 2] X3 W' → W'.cell? ⟨vv, 0, none⟩ = some (.slice pa pn pc) ∧ W'.cell? ⟨vv, 1, none⟩ = some (.slice qa qn qc) ∧ W'.cell? ⟨vv, 2, none⟩ = some (.slice oa on oc) ∧ vv < W'.heap.size := fun W' hb => by
    have e0 := hb.same HV.out (by have := HVZ.out; simp; omega)
    exact ⟨cells_cell e0 rfl, cells_cell e0 rfl, cells_cell e0 rfl, lt_of_block e0⟩
  have HS : Hid (Fr [zz + 2] X3 X3.drew) := Lib.hid (fr_drewN X3 1 _)
  simp only [List.map_cons, List.map_nil, List.getD_cons_zero, List.getD_cons_succ, List.drop_succ_cons, List.drop_zero]
  refine mix_move (.tmp 0) (.pointer (some ⟨l.a, 0, none⟩)) rfl HS.out rfl rfl ?_
  simp only [Act.put, List.setIfInBounds_toArray, List.set_cons_zero, List.set_cons_succ]
  refine mix_take (.agg #[.slice pa pn pc, .slice qa qn qc, .slice oa on oc]) HS.out rfl (fun W' hS => by obtain ⟨l0, l1, l2, l3⟩ := hld W' hS; go_simp) ?_
  simp only [Act.put, List.setIfInBounds_toArray, List.set_cons_zero, List.set_cons_succ]
  refine mix_move (.tmp 26) (.slice v1a v1n v1c) rfl HS.out rfl rfl ?_
  simp only [Act.put, List.setIfInBounds_toArray, List.set_cons_zero, List.set_cons_succ]
  refine mix_move (.tmp 29) (.slice v2a v2n v2c) rfl HS.out rfl rfl ?_
  simp only [Act.put, List.setIfInBounds_toArray, List.set_cons_zero, List.set_cons_succ]
  refine mix_step rfl (fun K hK => ?_)
  go_simp
  go_wp2_with (go_at_call 29; fail)
  have hdr : Below X3.heap.size X3 X3.drew := ((Grn.refl X3).drew 1).below
  refine (same_yes (HS1.out.grown hdr) (HS2.out.grown hdr) (by have := hXL.out; omega)).mono ?_
  rintro e w5 ⟨rfl, hg⟩
  have hd5 : Below X3.heap.size X3 w5 := hdr.trans (hg.below.mono hdr.size)
  replace HS := Lib.hid (Fr.of_below hd5 [zz + 2])
  refine hK _ _ HS.out ?_
  clear hK hg hdr
  refine mix_move (.tmp 163) (.bool true) rfl HS.out rfl rfl ?_
  simp only [Act.put, List.setIfInBounds_toArray, List.set_cons_zero, List.set_cons_succ]
  refine mix_move (.tmp 27) (.int .i64 code) rfl HS.out rfl rfl ?_
  simp only [Act.put, List.setIfInBounds_toArray, List.set_cons_zero, List.set_cons_succ]
  refine mix_move (.tmp 30) (.int .i64 code) rfl HS.out rfl rfl ?_
  simp only [Act.put, List.setIfInBounds_toArray, List.set_cons_zero, List.set_cons_succ]
  refine mix_take (.bool true) HS.out rfl (fun W' hS => by go_simp) ?_
  simp only [Act.put, List.setIfInBounds_toArray, List.set_cons_zero, List.set_cons_succ]
  refine mix_take (.bool true) HS.out rfl (fun W' hS => by go_simp) ?_
  simp only [Act.put, List.setIfInBounds_toArray, List.set_cons_zero, List.set_cons_succ]
  refine mix_by (.pointer (some ⟨l.a, 0, none⟩)) rfl (by go_simp) HS.out ?_
  simp only [Act.put, List.setIfInBounds_toArray, List.set_cons_zero, List.set_cons_succ]
  have D : Below X3.heap.size X3 w5 := hd5
  have c2 := (D.block _ (lt_of_block H2.out)).trans H2.out
  have HK4 := Lib.hid (HK.out.grown D)
  have HR4 := Lib.hid (HR.out.below D)
  have HF4 := Lib.hid (HF.out.trans (FrL.of_below _ D))
  clear D hld
  generalize w5 = V6 at *
  have y0 := cells_cell (o := 0) c2 rfl
  have y1 : V6.cell? ⟨zz + 2, 1, none⟩ = some (.slice none 0 0) := cells_cell c2 rfl
  have y2 : V6.cell? ⟨zz + 2, 2, none⟩ = some (.slice none 0 0) := cells_cell c2 rfl
  have z0 := cells_free c2 0
  have z1 := cells_free c2 1
  have z2' := cells_free c2 2
  have hxl := lt_of_block c2
  have hf := ((fr_setCell V6 ⟨zz + 2, 0, none⟩ (.slice pa pn pc)).trans' (fr_setCell _ ⟨zz + 2, 1, none⟩ (.slice qa qn qc))).trans' (fr_setCell _ ⟨zz + 2, 2, none⟩ (.slice oa on oc))
  have hc := cells_set (cells_set (cells_set c2 0 (.slice pa pn pc)) 1 (.slice qa qn qc)) 2 (.slice oa on oc)
  have HE2 : Hid (E9 w0 _ l z2 (G + 64) (.slice pa pn pc) (.slice qa qn qc) (.slice oa on oc) (k + 1)) := Lib.hid ⟨HK4.out.put c2 (by decide) (by have := HWS.out.1; omega) hf, HR4.out.fr hf (fun k hk => by simp at hk; subst hk; exact ⟨_, _, c2, by decide, by decide⟩), HG2.out⟩
  have HE1 := Lib.hid (HF4.out.fresh hf (fun x hx => by have := HZZ.out; simp at hx; omega))
  have HS2 := Lib.hid (HS.out.trans' hf)
  have HC := Lib.hid hc
  clear hf hc c2 HS HK4 HR4 HF4
  refine mix_step rfl (fun K hK => ?_)
  go_simp
  refine hK _ _ HS2.out ?_
  clear hK
  refine mix_nil ?_
  go_wp2_with fail
  have hc := HC.out
  simp at hc
  refine bodyPost_ret (v := .tuple #[.pointer (some ⟨l.a, 0, none⟩), .agg #[.slice pa pn pc, .slice qa qn qc, .slice oa on oc], .bool true]) (by simp [results, Tryd.results11, go_sem, cells_cell (o := 0) hc rfl, cells_cell (o := 1) hc rfl, cells_cell (o := 2) hc rfl]) rfl ?_
  exact ⟨HE1.out, l, _, _, _, _, _, rfl, HE2.out⟩
end Go.Proofs.YtcdimopiaanfbaaDoor
/- The law's do: Leave. -/
namespace Go.Proofs.YtcdimopiaanfbaaDoor
open Go.RowKit Go.Sort
set_option linter.unusedVariables false
set_option linter.unusedSimpArgs false

set_option maxRecDepth 100000 in
set_option maxHeartbeats 12800000 in
theorem do9_Leave {w0 w : World} {l : Ll} {z : Zt} {G k : Nat} {s r x : Value} (h : E9 w0 w l z G s r x k) (hk : k < 100) (N f d : Int) :
    Calls Tryd.prog 11 #[.pointer (some ⟨l.a, 0, none⟩), rlv s r x, .agg #[.int .i64 6, .int .i64 N, .int .i64 f, .int .i64 d]] w (DoPost9 w0 w k) := by
  obtain ⟨sa, sn, sc, ra, rn, rc, xa, xn, xc, rfl, rfl, rfl⟩ := rl_form h.R
  obtain ⟨W, hW, hb, hs, h0, h1, h2⟩ := do_blocks9 w (.cells #[.slice sa sn sc, .slice ra rn rc, .slice xa xn xc] 33) (.cells #[.int .i64 6, .int .i64 N, .int .i64 f, .int .i64 d] 40) (.cells #[.slice none 0 0, .slice none 0 0, .slice none 0 0] 33)
  have HK := Lib.hid (h.K.grown hb)
  have HR := Lib.hid (h.R.below hb)
  have HF := Lib.hid (FrL.of_below (fun x => w0.heap.size ≤ x) hb)
  have HG : Hid (G ≤ 70 * k ∧ k < 100) := Lib.hid ⟨h.g, hk⟩
  have HWS : Hid (w0.heap.size ≤ w.heap.size ∧ W.heap.size = w.heap.size + 3) := Lib.hid ⟨h.K.below.size, hs⟩
  have H0 := Lib.hid h0
  have H1 := Lib.hid h1
  have H2 := Lib.hid h2
  have HW := Lib.hid hW
  obtain ⟨q1, q2, code, z2, hzc⟩ : ∃ q1 q2 code z2, lvC z N = ((q1, q2), code, z2) := ⟨_, _, _, _, rfl⟩
  have hpk : Hid (Calls Tryd.prog 18 #[.pointer (some ⟨l.a, 0, none⟩), .int .i64 N] W fun e w' => e = .returned (.tuple #[.agg #[.int .i64 q1, .int .i64 q2], .int .i64 code]) ∧ LS w0.heap.size (fun x => w0.heap.size ≤ x) w' l z2 (G + 1) ∧ FrL (fun x => w0.heap.size ≤ x) W w') := Lib.hid (by
    have := pkLeave_any HK.out.K (by have := HG.out; omega) N
    rw [hzc] at this
    exact this)
  have hrf : Hid (∀ {W : World} {s r x : Value}, w0.heap.size ≤ W.heap.size → RL W w0.heap.size s r x z → Calls Tryd.prog 38 #[rlv s r x, .int .i64 N] W (LAns W w0.heap.size (q1, q2) code z2)) := Lib.hid (fun hb hr => by
    have := g9Leave_any hr hb HK.out.K.zk N
    rw [hzc] at this
    exact this)
  clear h hk hb hs h0 h1 h2 hW
  unfold rlv
  go_enter Tryd.func11, Tryd.ntmps11
  go_wp2_with fail
  rw [HW.out]
  clear HW
  generalize hzz : w.heap.size = zz at *
  have HZZ := Lib.hid hzz
  clear hzz
  have a0 := cells_cell (o := 0) H1.out rfl
  have a1 : W.cell? ⟨zz + 1, 1, none⟩ = some (.int .i64 N) := cells_cell H1.out rfl
  have a2 : W.cell? ⟨zz + 1, 2, none⟩ = some (.int .i64 f) := cells_cell H1.out rfl
  have a3 : W.cell? ⟨zz + 1, 3, none⟩ = some (.int .i64 d) := cells_cell H1.out rfl
  have al := lt_of_block H1.out
  go_wp2_with (go_at_call 18; fail)
  refine hpk.out.mono ?_
  rintro e w1 ⟨rfl, hL, hF⟩
  clear a0 a1 a2 a3 al
  clear hpk hzc
  replace H0 := Lib.hid (hF.block H0.out (by decide) (by decide))
  replace H1 := Lib.hid (hF.block H1.out (by decide) (by decide))
  replace H2 := Lib.hid (hF.block H2.out (by decide) (by decide))
  replace HR := Lib.hid (HR.out.frl hF)
  replace HF := Lib.hid (HF.out.trans hF)
  replace HK := Lib.hid (HK.out.did hL hF)
  clear hL hF
  have a0 := cells_cell (o := 0) H1.out rfl
  have a1 : w1.cell? ⟨zz + 1, 1, none⟩ = some (.int .i64 N) := cells_cell H1.out rfl
  have a2 : w1.cell? ⟨zz + 1, 2, none⟩ = some (.int .i64 f) := cells_cell H1.out rfl
  have a3 : w1.cell? ⟨zz + 1, 3, none⟩ = some (.int .i64 d) := cells_cell H1.out rfl
  have al := lt_of_block H1.out
  have x0 := cells_cell (o := 0) H0.out rfl
  have x1 : w1.cell? ⟨zz, 1, none⟩ = some (.slice ra rn rc) := cells_cell H0.out rfl
  have x2 : w1.cell? ⟨zz, 2, none⟩ = some (.slice xa xn xc) := cells_cell H0.out rfl
  have xl := lt_of_block H0.out
  have hbq := below_alloc w1 (.cells #[.int .i64 q1, .int .i64 q2] 38)
  have HQ := Lib.hid (block_new w1 (.cells #[.int .i64 q1, .int .i64 q2] 38) _ rfl)
  have HQL : Hid (zz + 2 < w1.heap.size) := Lib.hid (lt_of_block H2.out)
  replace H0 := Lib.hid (box_below hbq H0.out)
  replace H1 := Lib.hid (box_below hbq H1.out)
  replace H2 := Lib.hid (box_below hbq H2.out)
  replace HR := Lib.hid (HR.out.below hbq)
  replace HF := Lib.hid (HF.out.trans (FrL.of_below _ hbq))
  replace HK := Lib.hid (HK.out.grown hbq)
  clear hbq
  go_wp2_with (go_at_call 38; fail)
  have hr9 := hrf.out (by have h1 := HK.out.below.size; exact h1) HR.out
  unfold rlv at hr9
  refine hr9.mono ?_
  rintro e w2 ⟨s', r', x', rfl, hr, hb⟩
  obtain ⟨pa, pn, pc, qa, qn, qc, oa, on, oc, rfl, rfl, rfl⟩ := rl_form hr
  unfold rlv
  clear a0 a1 a2 a3 al
  clear x0 x1 x2 xl
  clear hr9 hrf
  have HR := Lib.hid hr
  replace H0 := Lib.hid (box_below hb H0.out)
  replace H1 := Lib.hid (box_below hb H1.out)
  replace H2 := Lib.hid (box_below hb H2.out)
  replace HF := Lib.hid (HF.out.trans (FrL.of_below _ hb))
  replace HK := Lib.hid (HK.out.grown hb)
  have hba := below_alloc w2 (.cells #[.slice pa pn pc, .slice qa qn qc, .slice oa on oc] 33)
  have HV := Lib.hid (block_new w2 (.cells #[.slice pa pn pc, .slice qa qn qc, .slice oa on oc] 33) _ rfl)
  have HVZ : Hid (zz + 2 < w2.heap.size) := Lib.hid (lt_of_block H2.out)
  replace H0 := Lib.hid (box_below hba H0.out)
  replace H1 := Lib.hid (box_below hba H1.out)
  replace H2 := Lib.hid (box_below hba H2.out)
  replace HR := Lib.hid (HR.out.below hba)
  replace HF := Lib.hid (HF.out.trans (FrL.of_below _ hba))
  replace HK := Lib.hid (HK.out.grown hba)
  replace HQ := Lib.hid (box_below hba (box_below hb HQ.out))
  clear hb hr hba
  have hbu := below_alloc (w2.alloc (.cells #[.slice pa pn pc, .slice qa qn qc, .slice oa on oc] 33)) (.cells #[.int .i64 q1, .int .i64 q2] 38)
  have HU := Lib.hid (block_new (w2.alloc (.cells #[.slice pa pn pc, .slice qa qn qc, .slice oa on oc] 33)) (.cells #[.int .i64 q1, .int .i64 q2] 38) (w2.heap.size + 1) (by simp))
  replace HQ := Lib.hid (box_below hbu HQ.out)
  replace HV := Lib.hid (box_below hbu HV.out)
  replace H0 := Lib.hid (box_below hbu H0.out)
  replace H1 := Lib.hid (box_below hbu H1.out)
  replace H2 := Lib.hid (box_below hbu H2.out)
  replace HR := Lib.hid (HR.out.below hbu)
  replace HF := Lib.hid (HF.out.trans (FrL.of_below _ hbu))
  replace HK := Lib.hid (HK.out.grown hbu)
  clear hbu
  have HG2 : Hid (G + 1 ≤ 70 * (k + 1)) := Lib.hid (by have := HG.out; omega)
  go_wp2_with fail
  generalize hvv : w2.heap.size = vv at *
  generalize hq3 : w1.heap.size = kq at *
  generalize hX3 : (w2.alloc (.cells #[.slice pa pn pc, .slice qa qn qc, .slice oa on oc] 33)).alloc (.cells #[.int .i64 q1, .int .i64 q2] 38) = X3 at *
  clear hvv hX3 hq3
  refine wp_region_mix (fun W' => Fr [zz + 2] X3 W') 12 [(true, 0), (true, 1), (true, 2), (true, 3), (true, 4), (true, 5), (true, 6), (true, 7), (true, 8), (true, 9), (false, 10), (false, 11)] (by kernel_rfl) (by kernel_rfl) (fun _ _ _ d _ h => by cases d <;> exact h) ?_
  have hlq : ∀ W', Fr [zz + 2] X3 W' → W'.cell? ⟨kq, 0, none⟩ = some (.int .i64 q1) ∧ W'.cell? ⟨kq, 1, none⟩ = some (.int .i64 q2) ∧ kq < W'.heap.size := fun W' hb => by
    have e0 := hb.same HQ.out (by have := HQL.out; simp; omega)
    exact ⟨cells_cell e0 rfl, cells_cell e0 rfl, lt_of_block e0⟩
  have hlu : ∀ W', Fr [zz + 2] X3 W' → W'.cell? ⟨vv + 1, 0, none⟩ = some (.int .i64 q1) ∧ W'.cell? ⟨vv + 1, 1, none⟩ = some (.int .i64 q2) ∧ vv + 1 < W'.heap.size := fun W' hb => by
    have e0 := hb.same HU.out (by have := HVZ.out; simp; omega)
    exact ⟨cells_cell e0 rfl, cells_cell e0 rfl, lt_of_block e0⟩
  have hld : ∀ W', Fr [zz + 2] X3 W' → W'.cell? ⟨vv, 0, none⟩ = some (.slice pa pn pc) ∧ W'.cell? ⟨vv, 1, none⟩ = some (.slice qa qn qc) ∧ W'.cell? ⟨vv, 2, none⟩ = some (.slice oa on oc) ∧ vv < W'.heap.size := fun W' hb => by
    have e0 := hb.same HV.out (by have := HVZ.out; simp; omega)
    exact ⟨cells_cell e0 rfl, cells_cell e0 rfl, cells_cell e0 rfl, lt_of_block e0⟩
  have HS : Hid (Fr [zz + 2] X3 X3.drew) := Lib.hid (fr_drewN X3 1 _)
  simp only [List.map_cons, List.map_nil, List.getD_cons_zero, List.getD_cons_succ, List.drop_succ_cons, List.drop_zero]
  refine mix_move (.tmp 0) (.pointer (some ⟨l.a, 0, none⟩)) rfl HS.out rfl rfl ?_
  simp only [Act.put, List.setIfInBounds_toArray, List.set_cons_zero, List.set_cons_succ]
  refine mix_take (.agg #[.slice pa pn pc, .slice qa qn qc, .slice oa on oc]) HS.out rfl (fun W' hS => by obtain ⟨l0, l1, l2, l3⟩ := hld W' hS; go_simp) ?_
  simp only [Act.put, List.setIfInBounds_toArray, List.set_cons_zero, List.set_cons_succ]
  refine mix_take (.agg #[.int .i64 q1, .int .i64 q2]) HS.out rfl (fun W' hS => by obtain ⟨u0, u1, u2⟩ := hlq W' hS; go_simp) ?_
  simp only [Act.put, List.setIfInBounds_toArray, List.set_cons_zero, List.set_cons_succ]
  refine mix_take (.agg #[.int .i64 q1, .int .i64 q2]) HS.out rfl (fun W' hS => by obtain ⟨u0, u1, u2⟩ := hlu W' hS; go_simp) ?_
  simp only [Act.put, List.setIfInBounds_toArray, List.set_cons_zero, List.set_cons_succ]
  refine mix_take (.bool true) HS.out rfl (fun W' hS => by go_simp) ?_
  simp only [Act.put, List.setIfInBounds_toArray, List.set_cons_zero, List.set_cons_succ]
  refine mix_move (.tmp 190) (.bool true) rfl HS.out rfl rfl ?_
  simp only [Act.put, List.setIfInBounds_toArray, List.set_cons_zero, List.set_cons_succ]
  refine mix_move (.tmp 32) (.int .i64 code) rfl HS.out rfl rfl ?_
  simp only [Act.put, List.setIfInBounds_toArray, List.set_cons_zero, List.set_cons_succ]
  refine mix_move (.tmp 35) (.int .i64 code) rfl HS.out rfl rfl ?_
  simp only [Act.put, List.setIfInBounds_toArray, List.set_cons_zero, List.set_cons_succ]
  refine mix_take (.bool true) HS.out rfl (fun W' hS => by go_simp) ?_
  simp only [Act.put, List.setIfInBounds_toArray, List.set_cons_zero, List.set_cons_succ]
  refine mix_take (.bool true) HS.out rfl (fun W' hS => by go_simp) ?_
  simp only [Act.put, List.setIfInBounds_toArray, List.set_cons_zero, List.set_cons_succ]
  refine mix_by (.pointer (some ⟨l.a, 0, none⟩)) rfl (by go_simp) HS.out ?_
  simp only [Act.put, List.setIfInBounds_toArray, List.set_cons_zero, List.set_cons_succ]
  have D : Below X3.heap.size X3 X3.drew := ((Grn.refl X3).drew 1).below
  have c2 := (D.block _ (lt_of_block H2.out)).trans H2.out
  have HK4 := Lib.hid (HK.out.grown D)
  have HR4 := Lib.hid (HR.out.below D)
  have HF4 := Lib.hid (HF.out.trans (FrL.of_below _ D))
  clear D hld hlq hlu
  generalize X3.drew = V6 at *
  have y0 := cells_cell (o := 0) c2 rfl
  have y1 : V6.cell? ⟨zz + 2, 1, none⟩ = some (.slice none 0 0) := cells_cell c2 rfl
  have y2 : V6.cell? ⟨zz + 2, 2, none⟩ = some (.slice none 0 0) := cells_cell c2 rfl
  have z0 := cells_free c2 0
  have z1 := cells_free c2 1
  have z2' := cells_free c2 2
  have hxl := lt_of_block c2
  have hf := ((fr_setCell V6 ⟨zz + 2, 0, none⟩ (.slice pa pn pc)).trans' (fr_setCell _ ⟨zz + 2, 1, none⟩ (.slice qa qn qc))).trans' (fr_setCell _ ⟨zz + 2, 2, none⟩ (.slice oa on oc))
  have hc := cells_set (cells_set (cells_set c2 0 (.slice pa pn pc)) 1 (.slice qa qn qc)) 2 (.slice oa on oc)
  have HE2 : Hid (E9 w0 _ l z2 (G + 1) (.slice pa pn pc) (.slice qa qn qc) (.slice oa on oc) (k + 1)) := Lib.hid ⟨HK4.out.put c2 (by decide) (by have := HWS.out.1; omega) hf, HR4.out.fr hf (fun k hk => by simp at hk; subst hk; exact ⟨_, _, c2, by decide, by decide⟩), HG2.out⟩
  have HE1 := Lib.hid (HF4.out.fresh hf (fun x hx => by have := HZZ.out; simp at hx; omega))
  have HS2 := Lib.hid (HS.out.trans' hf)
  have HC := Lib.hid hc
  clear hf hc c2 HS HK4 HR4 HF4
  refine mix_step rfl (fun K hK => ?_)
  go_simp
  refine hK _ _ HS2.out ?_
  clear hK
  refine mix_nil ?_
  go_wp2_with fail
  have hc := HC.out
  simp at hc
  refine bodyPost_ret (v := .tuple #[.pointer (some ⟨l.a, 0, none⟩), .agg #[.slice pa pn pc, .slice qa qn qc, .slice oa on oc], .bool true]) (by simp [results, Tryd.results11, go_sem, cells_cell (o := 0) hc rfl, cells_cell (o := 1) hc rfl, cells_cell (o := 2) hc rfl]) rfl ?_
  exact ⟨HE1.out, l, _, _, _, _, _, rfl, HE2.out⟩
end Go.Proofs.YtcdimopiaanfbaaDoor
/- The law's do: Copy. -/
namespace Go.Proofs.YtcdimopiaanfbaaDoor
open Go.RowKit Go.Sort
set_option linter.unusedVariables false
set_option linter.unusedSimpArgs false

set_option maxRecDepth 100000 in
set_option maxHeartbeats 12800000 in
theorem do9_copy {w0 w : World} {l : Ll} {z : Zt} {G k : Nat} {s r x : Value} (h : E9 w0 w l z G s r x k) (hk : k < 100) (x0 : Int) (e0 : (x0 == 0) = false) (e1 : (x0 == 1) = false) (e2 : (x0 == 2) = false) (e3 : (x0 == 3) = false) (e4 : (x0 == 4) = false) (e5 : (x0 == 5) = false) (e6 : (x0 == 6) = false) (N f d : Int) :
    Calls Tryd.prog 11 #[.pointer (some ⟨l.a, 0, none⟩), rlv s r x, .agg #[.int .i64 x0, .int .i64 N, .int .i64 f, .int .i64 d]] w (DoPost9 w0 w k) := by
  obtain ⟨sa, sn, sc, ra, rn, rc, xa, xn, xc, rfl, rfl, rfl⟩ := rl_form h.R
  obtain ⟨W, hW, hb, hs, h0, h1, h2⟩ := do_blocks9 w (.cells #[.slice sa sn sc, .slice ra rn rc, .slice xa xn xc] 33) (.cells #[.int .i64 x0, .int .i64 N, .int .i64 f, .int .i64 d] 40) (.cells #[.slice none 0 0, .slice none 0 0, .slice none 0 0] 33)
  have HK := Lib.hid (h.K.grown hb)
  have HR := Lib.hid (h.R.below hb)
  have HF := Lib.hid (FrL.of_below (fun x => w0.heap.size ≤ x) hb)
  have HG : Hid (G ≤ 70 * k ∧ k < 100) := Lib.hid ⟨h.g, hk⟩
  have HWS : Hid (w0.heap.size ≤ w.heap.size ∧ W.heap.size = w.heap.size + 3) := Lib.hid ⟨h.K.below.size, hs⟩
  have H0 := Lib.hid h0
  have H1 := Lib.hid h1
  have H2 := Lib.hid h2
  have HW := Lib.hid hW
  have hcp := Lib.hid (pkCopy_yes HK.out.K (by have h1 := HK.out.K.g0; have h2 := HK.out.below.size; omega))
  have HG0 : Hid (0 < w0.heap.size) := Lib.hid HK.out.K.g0
  clear h hk hb hs h0 h1 h2 hW
  unfold rlv
  go_enter Tryd.func11, Tryd.ntmps11
  go_wp2_with fail
  rw [HW.out]
  clear HW
  generalize hzz : w.heap.size = zz at *
  have HZZ := Lib.hid hzz
  clear hzz
  have a0 := cells_cell (o := 0) H1.out rfl
  have a1 : W.cell? ⟨zz + 1, 1, none⟩ = some (.int .i64 N) := cells_cell H1.out rfl
  have a2 : W.cell? ⟨zz + 1, 2, none⟩ = some (.int .i64 f) := cells_cell H1.out rfl
  have a3 : W.cell? ⟨zz + 1, 3, none⟩ = some (.int .i64 d) := cells_cell H1.out rfl
  have al := lt_of_block H1.out
  go_wp2_with (go_at_call 26; fail)
  refine hcp.out.mono ?_
  rintro e wb ⟨l', rfl, hC, hb⟩
  clear hcp e0 e1 e2 e3 e4 e5 e6
  have HSZ : Hid (w0.heap.size ≤ W.heap.size ∧ W.heap.size ≤ wb.heap.size) := Lib.hid ⟨HK.out.below.size, hb.size⟩
  obtain ⟨SO, hSO⟩ : ∃ SO : Nat → Prop, SO = fun x => w0.heap.size ≤ x ∧ ¬ (W.heap.size ≤ x ∧ x < wb.heap.size) := ⟨_, rfl⟩
  have HO1 : Hid (LS w0.heap.size SO wb l z G) := Lib.hid (HK.out.K.move (S2 := fun _ => False) (FrL.of_below _ hb) (fun _ _ _ h => h) (fun _ h => h) (fun x hx hs => by rw [hSO]; exact ⟨hs, fun h => by omega⟩) (fun x hx => by rw [hSO] at hx; exact hx.1) (fun x hx => by rw [hSO]; have h1 := HSZ.out; exact ⟨by omega, fun h => by omega⟩) (Nat.le_refl _) HG0.out)
  have HB := Lib.hid (HK.out.below.trans (hb.mono HK.out.below.size))
  replace H0 := Lib.hid (box_below hb H0.out)
  replace H1 := Lib.hid (box_below hb H1.out)
  replace H2 := Lib.hid (box_below hb H2.out)
  replace HR := Lib.hid (HR.out.below hb)
  replace HF := Lib.hid (HF.out.trans (FrL.of_below _ hb))
  have HN0 := Lib.hid hC
  clear a0 a1 a2 a3 al
  clear hb hC HK
  have a0 := cells_cell (o := 0) H1.out rfl
  have a1 : wb.cell? ⟨zz + 1, 1, none⟩ = some (.int .i64 N) := cells_cell H1.out rfl
  have a2 : wb.cell? ⟨zz + 1, 2, none⟩ = some (.int .i64 f) := cells_cell H1.out rfl
  have a3 : wb.cell? ⟨zz + 1, 3, none⟩ = some (.int .i64 d) := cells_cell H1.out rfl
  have al := lt_of_block H1.out
  go_wp2_with (go_at_call 17; fail)
  refine (pkWakeAll_any HO1.out (by have := HG.out; omega) (f, d)).mono ?_
  rintro e wc ⟨v1, rfl, -, hL, hF⟩
  generalize (wkaC z (f, d)).2.2 = z1 at hL
  generalize (wkaC z (f, d)).2.1 = cd1 at *
  clear a0 a1 a2 a3 al
  replace H0 := Lib.hid (hF.block H0.out (by decide) (by decide))
  replace H1 := Lib.hid (hF.block H1.out (by decide) (by decide))
  replace H2 := Lib.hid (hF.block H2.out (by decide) (by decide))
  replace HR := Lib.hid (HR.out.frl hF)
  replace HF := Lib.hid (HF.out.trans (hF.map (fun x hx => by rw [hSO] at hx; exact hx.1)))
  replace HB := Lib.hid (HB.out.trans (hF.below (fun x hx => by rw [hSO] at hx; exact hx.1) HB.out.size))
  have HN1 : Hid (LS w0.heap.size (fun x => (W.heap.size ≤ x ∧ x < wb.heap.size) ∨ wc.heap.size ≤ x) wc l' z G) := Lib.hid (HN0.out.move hF (fun x hx hs => by rw [hSO]; intro h; have h1 := HSZ.out; exact h.2 ⟨hs, hx⟩) (fun _ h => by rw [hSO] at h; have h1 := HG0.out; have h2 := h.1; omega) (fun x hx hs => by exact .inl ⟨hs, hx⟩) (fun x hx => by have h1 := HSZ.out; have h2 := hF.size; omega) (fun x hx => by exact .inr hx) HSZ.out.1 HG0.out)
  have HZ1 : Hid (wb.heap.size ≤ wc.heap.size) := Lib.hid hF.size
  have HO2 := Lib.hid hL
  clear hF hL
  go_wp2_with (go_at_call 21; fail)
  refine (pkStart_any HO2.out (by have := HG.out; omega) 0).mono ?_
  rintro e wd ⟨rfl, hL, hF⟩
  generalize (stepC 0 z1 0).2 = z3 at hL
  generalize (stepC 0 z1 0).1 = cd2 at *
  replace H0 := Lib.hid (hF.block H0.out (by decide) (by decide))
  replace H1 := Lib.hid (hF.block H1.out (by decide) (by decide))
  replace H2 := Lib.hid (hF.block H2.out (by decide) (by decide))
  replace HR := Lib.hid (HR.out.frl hF)
  replace HF := Lib.hid (HF.out.trans (hF.map (fun x hx => by rw [hSO] at hx; exact hx.1)))
  replace HB := Lib.hid (HB.out.trans (hF.below (fun x hx => by rw [hSO] at hx; exact hx.1) HB.out.size))
  have HN2 : Hid (LS w0.heap.size (fun x => (W.heap.size ≤ x ∧ x < wb.heap.size) ∨ wd.heap.size ≤ x) wd l' z G) := Lib.hid (HN1.out.move hF (fun x hx hs => by rw [hSO]; intro h; have h1 := HSZ.out; rcases hs with hs | hs; exact h.2 hs; omega) (fun _ h => by rw [hSO] at h; have h1 := HG0.out; have h2 := h.1; omega) (fun x hx hs => by rcases hs with hs | hs; exact .inl hs; omega) (fun x hx => by have h1 := HSZ.out; have h2 := hF.size; have h3 := HZ1.out; omega) (fun x hx => by exact .inr hx) (Nat.le_refl _) HG0.out)
  have HZ2 : Hid (wb.heap.size ≤ wd.heap.size) := Lib.hid (Nat.le_trans HZ1.out hF.size)
  have HO3 := Lib.hid hL
  clear hF hL
  go_wp2_with (go_at_call 15; fail)
  refine (spot_any wd 0 0).mono ?_
  rintro e we ⟨rfl, hg⟩
  replace H0 := Lib.hid (box_below hg.below H0.out)
  replace H1 := Lib.hid (box_below hg.below H1.out)
  replace H2 := Lib.hid (box_below hg.below H2.out)
  replace HR := Lib.hid (HR.out.below hg.below)
  replace HF := Lib.hid (HF.out.trans (FrL.of_below _ hg.below))
  replace HB := Lib.hid (HB.out.trans (hg.below.mono HB.out.size))
  have HO4 := Lib.hid (HO3.out.grown hg.below)
  have HN3 : Hid (LS w0.heap.size (fun x => (W.heap.size ≤ x ∧ x < wb.heap.size) ∨ we.heap.size ≤ x) we l' z G) := Lib.hid (HN2.out.move (S2 := fun _ => False) (FrL.of_below _ hg.below) (fun _ _ _ h => h) (fun _ h => h) (fun x hx hs => by rcases hs with hs | hs; exact .inl hs; omega) (fun x hx => by have h1 := HSZ.out; have h2 := hg.below.size; have h3 := HZ2.out; omega) (fun x hx => .inr hx) (Nat.le_refl _) HG0.out)
  have HZ3 : Hid (wb.heap.size ≤ we.heap.size) := Lib.hid (Nat.le_trans HZ2.out hg.below.size)
  clear hg
  go_wp2_with (go_at_call 24; fail)
  refine (pkPark_any HO4.out (by have := HG.out; omega) 0 (0, 0)).mono ?_
  rintro e X3 ⟨rfl, -, hF⟩
  generalize (pkC z3 0 (0, 0)).1 = cd3 at *
  replace H0 := Lib.hid (hF.block H0.out (by decide) (by decide))
  replace H1 := Lib.hid (hF.block H1.out (by decide) (by decide))
  replace H2 := Lib.hid (hF.block H2.out (by decide) (by decide))
  replace HR := Lib.hid (HR.out.frl hF)
  replace HF := Lib.hid (HF.out.trans (hF.map (fun x hx => by rw [hSO] at hx; exact hx.1)))
  replace HB := Lib.hid (HB.out.trans (hF.below (fun x hx => by rw [hSO] at hx; exact hx.1) HB.out.size))
  have HN4 : Hid (LS w0.heap.size (fun x => w0.heap.size ≤ x) X3 l' z G) := Lib.hid (HN3.out.move hF (fun x hx hs => by rw [hSO]; intro h; have h1 := HSZ.out; rcases hs with hs | hs; exact h.2 hs; omega) (fun _ h => by rw [hSO] at h; have h1 := HG0.out; have h2 := h.1; omega) (fun x hx hs => by have h3 := HSZ.out; have h4 := HZ3.out; omega) (fun x hx => by exact hx) (fun x hx => by have h3 := HSZ.out; have h4 := HZ3.out; have h2 := hF.size; omega) (Nat.le_refl _) HG0.out)
  have HK : Hid (KL w0 X3 l' z G) := Lib.hid ⟨HN4.out, HB.out⟩
  have HG2 : Hid (G ≤ 70 * (k + 1)) := Lib.hid (by have := HG.out; omega)
  clear hF HN0 HN1 HN2 HN3 HN4 HO1 HO2 HO3 HO4 HZ1 HZ2 HZ3 HSZ HB hSO
  go_wp2_with fail
  refine wp_region_mix (fun W' => Fr [zz + 2] X3 W') 4 [(true, 0), (true, 1), (false, 2), (false, 3)] (by kernel_rfl) (by kernel_rfl) (fun _ _ _ d _ h => by cases d <;> exact h) ?_
  have hld : ∀ W', Fr [zz + 2] X3 W' → W'.cell? ⟨zz, 0, none⟩ = some (.slice sa sn sc) ∧ W'.cell? ⟨zz, 1, none⟩ = some (.slice ra rn rc) ∧ W'.cell? ⟨zz, 2, none⟩ = some (.slice xa xn xc) ∧ zz < W'.heap.size := fun W' hb => by
    have e0 := hb.same H0.out (by simp)
    exact ⟨cells_cell e0 rfl, cells_cell e0 rfl, cells_cell e0 rfl, lt_of_block e0⟩
  have HS : Hid (Fr [zz + 2] X3 X3.drew) := Lib.hid (fr_drewN X3 1 _)
  simp only [List.map_cons, List.map_nil, List.getD_cons_zero, List.getD_cons_succ, List.drop_succ_cons, List.drop_zero]
  refine mix_move (.tmp 36) (.pointer (some ⟨l'.a, 0, none⟩)) rfl HS.out rfl rfl ?_
  simp only [Act.put, List.setIfInBounds_toArray, List.set_cons_zero, List.set_cons_succ]
  refine mix_take (.agg #[.slice sa sn sc, .slice ra rn rc, .slice xa xn xc]) HS.out rfl (fun W' hS => by obtain ⟨l0, l1, l2, l3⟩ := hld W' hS; go_simp) ?_
  simp only [Act.put, List.setIfInBounds_toArray, List.set_cons_zero, List.set_cons_succ]
  refine mix_by (.pointer (some ⟨l'.a, 0, none⟩)) rfl (by go_simp) HS.out ?_
  simp only [Act.put, List.setIfInBounds_toArray, List.set_cons_zero, List.set_cons_succ]
  have D : Below X3.heap.size X3 X3.drew := ((Grn.refl X3).drew 1).below
  have c2 := (D.block _ (lt_of_block H2.out)).trans H2.out
  have HK4 := Lib.hid (HK.out.grown D)
  have HR4 := Lib.hid (HR.out.below D)
  have HF4 := Lib.hid (HF.out.trans (FrL.of_below _ D))
  clear D hld
  generalize X3.drew = V6 at *
  have y0 := cells_cell (o := 0) c2 rfl
  have y1 : V6.cell? ⟨zz + 2, 1, none⟩ = some (.slice none 0 0) := cells_cell c2 rfl
  have y2 : V6.cell? ⟨zz + 2, 2, none⟩ = some (.slice none 0 0) := cells_cell c2 rfl
  have z0 := cells_free c2 0
  have z1 := cells_free c2 1
  have z2' := cells_free c2 2
  have hxl := lt_of_block c2
  have hf := ((fr_setCell V6 ⟨zz + 2, 0, none⟩ (.slice sa sn sc)).trans' (fr_setCell _ ⟨zz + 2, 1, none⟩ (.slice ra rn rc))).trans' (fr_setCell _ ⟨zz + 2, 2, none⟩ (.slice xa xn xc))
  have hc := cells_set (cells_set (cells_set c2 0 (.slice sa sn sc)) 1 (.slice ra rn rc)) 2 (.slice xa xn xc)
  have HE2 : Hid (E9 w0 _ l' z G (.slice sa sn sc) (.slice ra rn rc) (.slice xa xn xc) (k + 1)) := Lib.hid ⟨HK4.out.put c2 (by decide) (by have := HWS.out.1; omega) hf, HR4.out.fr hf (fun k hk => by simp at hk; subst hk; exact ⟨_, _, c2, by decide, by decide⟩), HG2.out⟩
  have HE1 := Lib.hid (HF4.out.fresh hf (fun x hx => by have := HZZ.out; simp at hx; omega))
  have HS2 := Lib.hid (HS.out.trans' hf)
  have HC := Lib.hid hc
  clear hf hc c2 HS HK4 HR4 HF4
  refine mix_step rfl (fun K hK => ?_)
  go_simp
  refine hK _ _ HS2.out ?_
  clear hK
  refine mix_nil ?_
  go_wp2_with fail
  have hc := HC.out
  simp at hc
  refine bodyPost_ret (v := .tuple #[.pointer (some ⟨l'.a, 0, none⟩), .agg #[.slice sa sn sc, .slice ra rn rc, .slice xa xn xc], .bool true]) (by simp [results, Tryd.results11, go_sem, cells_cell (o := 0) hc rfl, cells_cell (o := 1) hc rfl, cells_cell (o := 2) hc rfl]) rfl ?_
  exact ⟨HE1.out, l', _, _, _, _, _, rfl, HE2.out⟩
end Go.Proofs.YtcdimopiaanfbaaDoor
/- The law's do: any call. -/
namespace Go.Proofs.YtcdimopiaanfbaaDoor
open Go.RowKit Go.Sort
set_option linter.unusedVariables false
set_option linter.unusedSimpArgs false
theorem do9_any {w0 w : World} {l : Ll} {z : Zt} {G k : Nat} {s r x : Value} (h : E9 w0 w l z G s r x k) (hk : k < 100) (c N f d : Int) :
    Calls Tryd.prog 11 #[.pointer (some ⟨l.a, 0, none⟩), rlv s r x, .agg #[.int .i64 c, .int .i64 N, .int .i64 f, .int .i64 d]] w (DoPost9 w0 w k) := by
  by_cases h0 : c = 0
  · subst h0; exact do9_Start h hk N f d
  by_cases h1 : c = 1
  · subst h1; exact do9_Finish h hk N f d
  by_cases h2 : c = 2
  · subst h2; exact do9_Turn h hk N f d
  by_cases h3 : c = 3
  · subst h3; exact do9_Park h hk N f d
  by_cases h4 : c = 4
  · subst h4; exact do9_Wake h hk N f d
  by_cases h5 : c = 5
  · subst h5; exact do9_WakeAll h hk N f d
  by_cases h6 : c = 6
  · subst h6; exact do9_Leave h hk N f d
  exact do9_copy h hk c (by simpa using h0) (by simpa using h1) (by simpa using h2) (by simpa using h3) (by simpa using h4) (by simpa using h5) (by simpa using h6) N f d
end Go.Proofs.YtcdimopiaanfbaaDoor
