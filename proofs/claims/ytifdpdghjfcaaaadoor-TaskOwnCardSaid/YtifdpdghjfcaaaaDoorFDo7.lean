/- The law's do: Copy. -/
import Derived.Test.YtifdpdghjfcaaaaDoorFDo0
import Derived.Deep.CutBlock
import Derived.Deep.RegionWith
namespace Go.Proofs.YtifdpdghjfcaaaaDoor
open Go.RowKit Go.Sort
set_option linter.unusedVariables false
set_option linter.unusedSimpArgs false

theorem KAt.F_lt {B : Nat} {w : World} {l : Tl} {P : Ks} {Q : Qu} {g : Nat} (h : KAt B w l P Q g) : ∀ x ∈ l.F, x < w.heap.size := fun x hx => by
  have := h.lc; have := h.qa.lb; have := h.qa.lm
  simp [Tl.F] at hx
  omega
/-- Another table is left alone. -/
theorem KS.apart {w0 w w' : World} {l l' : Tl} {P : Ks} {Q : Qu} {g s : Nat} (h : KS w0 w l' P Q g) (h1 : s ≤ l'.t) (h2 : s ≤ l'.c) (h3 : s ≤ l'.q) (h4 : s ≤ l'.b) (h5 : s ≤ l'.m) (hl : ∀ x ∈ l.F, x < s) (hle : ∀ x ∈ l.F, w0.heap.size ≤ x) (hf : Fr l.F w w') : KS w0 w' l' P Q g :=
  ⟨h.K.same hf hle (fun hm => by have := hl _ hm; omega) (fun hm => by have := hl _ hm; omega) (fun hm => by have := hl _ hm; omega) (fun hm => by have := hl _ hm; omega) (fun hm => by have := hl _ hm; omega), h.R, h.below.trans (hf.below hle h.below.size)⟩

set_option maxRecDepth 100000 in
set_option maxHeartbeats 12800000 in
theorem do_copy {w0 w : World} {l : Tl} {P : Ks} {Q : Qu} {g n k : Nat} {s r : Value} (h : ESt w0 w l P Q g s r n k) (hk : k < 700) (x0 x1 : Int) (e0 : (x0 == 0) = false) (e1 : (x0 == 1) = false) (e2 : (x0 == 2) = false) (e3 : (x0 == 3) = false) (e4 : (x0 == 4) = false) (e5 : (x0 == 5) = false) :
    Calls Tryd.prog 11 #[.pointer (some ⟨l.t, 0, none⟩), rk s r, .agg #[.int .i64 x0, .int .i64 x1]] w (DoPost w0 w l n k) := by
  obtain ⟨sa, sn, sc, rfl⟩ := row_form h.rs
  obtain ⟨ra, rn, rc, rfl⟩ := row_form h.rr
  obtain ⟨W, hW, hb, hs, h0, h1, h2⟩ := do_blocks w (.cells #[.slice sa sn sc, .slice ra rn rc] 30) (.cells #[.int .i64 x0, .int .i64 x1] 34) (.cells #[.slice none 0 0, .slice none 0 0] 30)
  have HD := Lib.hid (h.grown hb)
  have HB := Lib.hid hb
  have H0 := Lib.hid h0
  have H1 := Lib.hid h1
  have H2 := Lib.hid h2
  have HW0 := Lib.hid h.K.below.size
  have HW := Lib.hid hW
  have HSW := Lib.hid hs
  clear h hb h0 h1 h2 hW hs
  unfold rk
  go_enter Tryd.func11, Tryd.ntmps11
  go_wp2_with fail
  rw [HW.out]
  clear HW
  have hld : ∀ W', Below W.heap.size W W' → W'.cell? ⟨w.heap.size, 0, none⟩ = some (.slice sa sn sc) ∧ W'.cell? ⟨w.heap.size, 1, none⟩ = some (.slice ra rn rc) ∧ w.heap.size < W'.heap.size := fun W' hb => by
    have e0 := (hb.block _ (lt_of_block H0.out)).trans H0.out
    exact ⟨cells_cell e0 rfl, cells_cell e0 rfl, lt_of_block e0⟩
  have HS : Hid (Below W.heap.size W W.drew) := Lib.hid (Below.refl _ _).drew
  refine wp_region_mix (fun W' => Below W.heap.size W W') 3 [(true, 0), (false, 1), (false, 2)] (by kernel_rfl) (by kernel_rfl) (fun _ _ _ d _ h => by cases d <;> exact h) ?_
  simp only [List.map_cons, List.map_nil, List.getD_cons_zero, List.getD_cons_succ, List.drop_succ_cons, List.drop_zero]
  refine mix_take (.agg #[.slice sa sn sc, .slice ra rn rc]) HS.out rfl (fun W' hS => by obtain ⟨l0, l1, l2⟩ := hld W' hS; go_simp) ?_
  simp only [Act.put, List.setIfInBounds_toArray, List.set_cons_zero, List.set_cons_succ]
  refine mix_step rfl (fun K hK => ?_)
  go_simp
  have hba := below_alloc W.drew (.cells #[.slice none 0 0, .slice none 0 0] 30)
  have HS1 := Lib.hid (HS.out.trans (hba.mono HS.out.size))
  refine hK _ _ HS1.out ?_
  clear hK hba
  refine mix_by (.int .i64 0) rfl (by go_simp) HS1.out ?_
  simp only [Act.put, List.setIfInBounds_toArray, List.set_cons_zero, List.set_cons_succ]
  refine mix_nil ?_
  clear HS1 HS hld
  go_upto_region 2 with (fail)
  obtain ⟨X, hX, hXB, hX3⟩ : ∃ X, (W.alloc (.cells #[.slice sa sn sc, .slice ra rn rc] 30)).drew = X ∧ Below W.heap.size W X ∧ X.heap[W.heap.size]? = some (.cells #[.slice sa sn sc, .slice ra rn rc] 30 (0, 0)) :=
    ⟨_, rfl, (((Grn.refl W).alloc _).drew 1).below, heap_alloc_new W _⟩
  rw [hX]
  rw [hX] at *
  have HD := Lib.hid (HD.out.grown hXB)
  have HF := Lib.hid ((Fr.of_below HB.out l.F).trans' (Fr.of_below hXB l.F))
  have H0 := Lib.hid ((hXB.block _ (lt_of_block H0.out)).trans H0.out)
  have H1 := Lib.hid ((hXB.block _ (lt_of_block H1.out)).trans H1.out)
  have H2 := Lib.hid ((hXB.block _ (lt_of_block H2.out)).trans H2.out)
  have H3 := Lib.hid hX3
  have k10 := cells_cell (o := 0) H1.out rfl
  have k11 : X.cell? ⟨w.heap.size + 1, 1, none⟩ = some (.int .i64 x1) := cells_cell H1.out rfl
  have s1 := lt_of_block H1.out
  clear hX hXB hX3 HB
  go_wp2_with (go_at_call 22; fail)
  refine (tkCopy_yes HD.out.K.K HD.out.K.below.size).mono ?_
  rintro e wa ⟨l', rfl, hC, hb⟩
  have HLT : Hid (∀ x ∈ l.F, x < X.heap.size) := Lib.hid HD.out.K.K.F_lt
  have HBS : Hid (X.heap.size ≤ l'.t ∧ X.heap.size ≤ l'.c ∧ X.heap.size ≤ l'.q ∧ X.heap.size ≤ l'.b ∧ X.heap.size ≤ l'.m) := Lib.hid ⟨hC.bt, hC.bc, hC.bq, hC.bb, hC.bm⟩
  have HC : Hid (KS w0 wa l' P Q g) := Lib.hid ⟨hC.lower HD.out.K.below.size HD.out.K.K.g0, HD.out.K.R, HD.out.K.below.trans (hb.mono HD.out.K.below.size)⟩
  have H0 := Lib.hid ((hb.block _ (lt_of_block H0.out)).trans H0.out)
  have H1 := Lib.hid ((hb.block _ (lt_of_block H1.out)).trans H1.out)
  have H2 := Lib.hid ((hb.block _ (lt_of_block H2.out)).trans H2.out)
  have H3 := Lib.hid ((hb.block _ (lt_of_block H3.out)).trans H3.out)
  have HD := Lib.hid (HD.out.grown hb)
  have HF := Lib.hid (HF.out.trans' (Fr.of_below hb _))
  clear hC hb k10 k11 s1
  have HLE := Lib.hid HD.out.K.le
  go_wp2_with (go_at_call 16; fail)
  refine (tkStart_any HD.out.K (by have := HD.out.g; omega) 0).mono ?_
  rintro e wb ⟨⟨cd1, rfl⟩, hf, P1, Q1, g1, hK1, hg1, -⟩
  have n0 := HD.out.K.K.out H0.out (by decide) (by decide)
  have n2 := HD.out.K.K.out H2.out (by decide) (by decide)
  have hrs := HD.out.K.K.row_keep HD.out.rs hf
  have hrr := HD.out.K.K.row_keep HD.out.rr hf
  have H0 := Lib.hid (hf.same H0.out n0)
  have H2 := Lib.hid (hf.same H2.out n2)
  have HC := Lib.hid (HC.out.apart HBS.out.1 HBS.out.2.1 HBS.out.2.2.1 HBS.out.2.2.2.1 HBS.out.2.2.2.2 HLT.out HLE.out hf)
  have HF := Lib.hid (HF.out.trans' hf)
  have HRS := Lib.hid (And.intro hrs hrr)
  have HK1 := Lib.hid hK1
  have HG1 : Hid (g1 < 4096) := Lib.hid (by have := HD.out.g; omega)
  have HLG := Lib.hid (And.intro HD.out.len HD.out.g)
  clear hf n0 n2 hrs hrr hK1 hg1 HD
  go_wp2_with (go_at_call 17; fail)
  refine (tkPark_any HK1.out HG1.out 0).mono ?_
  rintro e w2 ⟨⟨cd2, rfl⟩, hf, P2, Q2, g2, -, -, -⟩
  have n0 := HK1.out.K.out H0.out (by decide) (by decide)
  have n2 := HK1.out.K.out H2.out (by decide) (by decide)
  have hrs := HK1.out.K.row_keep HRS.out.1 hf
  have hrr := HK1.out.K.row_keep HRS.out.2 hf
  have H0 := Lib.hid (hf.same H0.out n0)
  have H2 := Lib.hid (hf.same H2.out n2)
  have HC := Lib.hid (HC.out.apart HBS.out.1 HBS.out.2.1 HBS.out.2.2.1 HBS.out.2.2.2.1 HBS.out.2.2.2.2 HLT.out HLE.out hf)
  have HF := Lib.hid (HF.out.trans' hf)
  have HD3 : Hid (ESt w0 w2 l' P Q g (.slice sa sn sc) (.slice ra rn rc) n (k + 1)) := Lib.hid ⟨HC.out, hrs, hrr, HLG.out.1, by have := HLG.out.2; omega⟩
  clear hf n0 n2 hrs hrr HK1 HC HRS HLG HBS HLT HLE HG1
  go_upto_region 8 with (fail)
  refine wp_region_mix (fun W' => Fr [w.heap.size + 1 + 1] w2 W') 4 [(true, 0), (true, 1), (false, 2), (false, 3)] (by kernel_rfl) (by kernel_rfl) (fun _ _ _ d _ h => by cases d <;> exact h) ?_
  have hld : ∀ W', Fr [w.heap.size + 1 + 1] w2 W' → W'.cell? ⟨w.heap.size, 0, none⟩ = some (.slice sa sn sc) ∧ W'.cell? ⟨w.heap.size, 1, none⟩ = some (.slice ra rn rc) ∧ w.heap.size < W'.heap.size := fun W' hb => by
    have e0 := hb.same H0.out (by simp; omega)
    exact ⟨cells_cell e0 rfl, cells_cell e0 rfl, lt_of_block e0⟩
  have HS1 : Hid (Fr [w.heap.size + 1 + 1] w2 w2.drew) := Lib.hid (fr_drewN w2 1 _)
  simp only [List.map_cons, List.map_nil, List.getD_cons_zero, List.getD_cons_succ, List.drop_succ_cons, List.drop_zero]
  refine mix_move (.tmp 16) (.pointer (some ⟨l'.t, 0, none⟩)) rfl HS1.out rfl rfl ?_
  simp only [Act.put, List.setIfInBounds_toArray, List.set_cons_zero, List.set_cons_succ]
  refine mix_take (.agg #[.slice sa sn sc, .slice ra rn rc]) HS1.out rfl (fun W' hS => by obtain ⟨l0, l1, l2⟩ := hld W' hS; go_simp) ?_
  simp only [Act.put, List.setIfInBounds_toArray, List.set_cons_zero, List.set_cons_succ]
  refine mix_by (.pointer (some ⟨l'.t, 0, none⟩)) rfl (by go_simp) HS1.out ?_
  simp only [Act.put, List.setIfInBounds_toArray, List.set_cons_zero, List.set_cons_succ]
  have D : Below w2.heap.size w2 w2.drew := ((Grn.refl w2).drew 1).below
  have c2 := (D.block _ (lt_of_block H2.out)).trans H2.out
  have HD4 := Lib.hid (HD3.out.grown D)
  have HF4 := Lib.hid (HF.out.trans' (Fr.of_below D _))
  clear D hld
  generalize w2.drew = V6 at *
  have y0 := cells_cell (o := 0) c2 rfl
  have y1 : V6.cell? ⟨w.heap.size + 1 + 1, 1, none⟩ = some (.slice none 0 0) := cells_cell c2 rfl
  have z0 := cells_free c2 0
  have z1 := cells_free c2 1
  have hxl := lt_of_block c2
  have hf := (fr_setCell V6 ⟨w.heap.size + 1 + 1, 0, none⟩ (.slice sa sn sc)).trans' (fr_setCell _ ⟨w.heap.size + 1 + 1, 1, none⟩ (.slice ra rn rc))
  have hc := cells_set (cells_set c2 0 (.slice sa sn sc)) 1 (.slice ra rn rc)
  have HE2 := Lib.hid (HD4.out.put c2 (by decide) (by decide) (by decide) (by decide) (by decide) (by have := HW0.out; omega) hf)
  have HE1 := Lib.hid (HF4.out.trans hf (fun x hx => .inr (by simp at hx; omega)))
  have HS2 := Lib.hid (HS1.out.trans' hf)
  have HC := Lib.hid hc
  clear hf hc c2 HS1 HD4 HF4
  refine mix_step rfl (fun K hK => ?_)
  go_simp
  refine hK _ _ HS2.out ?_
  clear hK
  refine mix_nil ?_
  go_wp2_with fail
  have hc := HC.out
  simp at hc
  exact bodyPost_ret (v := .tuple #[.pointer (some ⟨l'.t, 0, none⟩), .agg #[.slice sa sn sc, .slice ra rn rc], .bool true]) (by simp [results, Tryd.results11, go_sem, cells_cell (o := 0) hc rfl, cells_cell (o := 1) hc rfl]) rfl ⟨HE1.out, l', _, _, _, _, _, rfl, HE2.out⟩
end Go.Proofs.YtifdpdghjfcaaaaDoor
