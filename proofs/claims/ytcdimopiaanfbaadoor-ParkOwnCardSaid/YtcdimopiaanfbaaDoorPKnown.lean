/- known: the examples of the chapter. -/
import Derived.Test.YtcdimopiaanfbaaDoorPNil
import Derived.Test.YtcdimopiaanfbaaDoorFSame
namespace Go.Proofs.YtcdimopiaanfbaaDoor
open Go.RowKit Go.Sort Go.MapKept
set_option linter.unusedVariables false
set_option linter.unusedSimpArgs false

/-- A lot that a law has made. -/
structure KL (w0 w : World) (l : Ll) (z : Zt) (G : Nat) : Prop where
  K : LS w0.heap.size (fun x => w0.heap.size ≤ x) w l z G
  below : Below w0.heap.size w0 w
section
variable {w0 w w' : World} {l : Ll} {z z' : Zt} {G G' : Nat} {s : Sp}
theorem KL.grown (h : KL w0 w l z G) (hb : Below w.heap.size w w') : KL w0 w' l z G := ⟨h.K.grown hb, h.below.trans (hb.mono h.below.size)⟩
theorem KL.did (h : KL w0 w l z G) (hL : LS w0.heap.size (fun x => w0.heap.size ≤ x) w' l z' G') (hF : FrL (fun x => w0.heap.size ≤ x) w w') : KL w0 w' l z' G' := ⟨hL, h.below.trans (hF.below (fun x hx => hx) h.below.size)⟩
theorem KL.fr {F : List Nat} (h : KL w0 w l z G) (hf : Fr F w w') (hF : ∀ x ∈ F, w0.heap.size ≤ x ∧ NotL w x) : KL w0 w' l z G := ⟨h.K.fr hf hF, h.below.trans (hf.below (fun x hx => (hF x hx).1) h.below.size)⟩
theorem KL.mono (h : KL w0 w l z G) (hG : G ≤ G') : KL w0 w l z G' := ⟨h.K.mono hG, h.below⟩
theorem box_below {w w' : World} {b : Nat} {o : Obj} (hb : Below w.heap.size w w') (h : w.heap[b]? = some o) : w'.heap[b]? = some o := (hb.block _ (lt_of_block h)).trans h
theorem spot_any (w : World) (a b : Int) : Calls Tryd.prog 15 #[.int .i64 a, .int .i64 b] w fun e w' => e = .returned (.agg #[.int .i64 a, .int .i64 b]) ∧ Grn w w' := by
  go_enter Tryd.func15, Tryd.ntmps15
  go_wp2
  refine bodyPost_ret (v := .agg #[.int .i64 a, .int .i64 b]) (by simp [results, Tryd.results15, go_sem]) rfl ?_
  exact ⟨rfl, (Grn.refl w).alloc _⟩
theorem waits_yes {B : Nat} {S : Nat → Prop} (h : LS B S w l z G) (hG : G ≤ 1000000) (hs : SpOk s) {u : Value} (hu : Src TI w u (cat (wt s z.L))) : Calls Tryd.prog 28 #[.pointer (some ⟨l.a, 0, none⟩), .agg #[.int .i64 s.1, .int .i64 s.2], u] w fun e w' => e = .returned (.bool true) ∧ Below w.heap.size w w' := by
  have hb0 := below_alloc w (.cells #[.int .i64 s.1, .int .i64 s.2] 38)
  have hq := Lib.hid (pkWaiting_yes (h.grown hb0) hG hs)
  have hn := Nat.le_trans (wt_len s z.L) h.zk.l
  have hn2 : (cat (wt s z.L)).length ≤ 64 := by simp [cat]; omega
  have HU := Lib.hid (hu.grown hb0)
  obtain ⟨ua, uc, rfl, -, -⟩ := hu.form
  have HB := Lib.hid hb0
  clear h hs hu hn hb0
  generalize cat (wt s z.L) = X at *
  generalize s.1 = sa at *
  generalize s.2 = sb at *
  have HN := Lib.hid hn2
  clear hn2
  generalize hln : X.length = n at *
  have HLN := Lib.hid hln
  clear hln
  go_enter Tryd.func28, Tryd.ntmps28
  go_wp2_with (go_at_call 14; fail)
  refine hq.out.mono ?_
  rintro e w1 ⟨v, rfl, hr, hb⟩
  obtain ⟨va, vc, rfl, -, -⟩ := hr.form
  rw [HLN.out] at hr ⊢
  have HR := Lib.hid (hr.src TI_ok)
  have HU1 := Lib.hid (HU.out.grown hb)
  have HB1 := Lib.hid (HB.out.trans (hb.mono HB.out.size))
  clear hr hb hq HU HB
  go_wp2_with (go_at_call 29; fail)
  refine (same_yes HR.out HU1.out (by rw [HLN.out]; have := HN.out; omega)).mono ?_
  rintro e w2 ⟨rfl, hg⟩
  have HB2 := Lib.hid (HB1.out.trans (hg.below.mono HB1.out.size))
  clear hg
  go_wp2_with fail
  go_ret
  exact ⟨rfl, HB2.out⟩
end
theorem kl_new {w0 w w' : World} {l : Ll} {z : Zt} {G : Nat} (hb : Below w0.heap.size w0 w) (h : LS w0.heap.size (fun x => w0.heap.size ≤ x) w' l z G) (hb' : Below w.heap.size w w') : KL w0 w' l z G := ⟨h, hb.trans (hb'.mono hb.size)⟩
theorem neq_spot_same (w : World) (a b : Int) : (binOp .neq 38 (.agg #[.int .i64 a, .int .i64 b]) (.agg #[.int .i64 a, .int .i64 b])).run Tryd.prog w = .ok (.bool false) w := by
  have h1 : Tryd.prog.underlying 38 = some _ := Tryd.underlying38
  simp [go_sem, h1]

set_option maxRecDepth 100000 in
set_option maxHeartbeats 12800000 in
theorem known_any (w : World) (hmv : MvAt w) : Calls Tryd.prog 8 #[] w fun e w' => e = .returned (.bool true) ∧ Below w.heap.size w w' := by
  have HN3 := Lib.hid (pkNew_ok (B := w.heap.size) (S := fun x => w.heap.size ≤ x) w hmv (Nat.le_refl _) hmv.lt (fun x hx => hx) (fun x hx => hx) 3 (by omega) (by omega))
  have hnq := neq_spot_same
  clear hmv
  go_enter Tryd.func8, Tryd.ntmps8
  go_wp2_with (go_at_call 9; fail)
  refine HN3.out.mono ?_
  rintro e v0 ⟨l, rfl, hL, hb⟩
  have K0 : Hid (KL w v0 l ⟨[0, 0, 0], [], []⟩ 0) := Lib.hid (kl_new (Below.refl _ _) hL hb)
  clear HN3 hL hb
  go_wp2_with (go_at_call 21; fail)
  have hc := pkStart_any K0.out.K (by omega) 0
  rw [show stepC 0 ⟨[0, 0, 0], [], []⟩ 0 = (0, ⟨[1, 0, 0], [0], []⟩) by kernel_rfl] at hc
  simp only at hc
  refine hc.mono ?_
  rintro e v1 ⟨rfl, hL, hF⟩
  have K1 : Hid (KL w v1 l ⟨[1, 0, 0], [0], []⟩ 1) := Lib.hid (K0.out.did hL hF)
  clear hc hL hF K0
  go_wp2_with (go_at_call 21; fail)
  have hc := pkStart_any K1.out.K (by omega) 1
  rw [show stepC 0 ⟨[1, 0, 0], [0], []⟩ 1 = (0, ⟨[1, 1, 0], [0, 1], []⟩) by kernel_rfl] at hc
  simp only at hc
  refine hc.mono ?_
  rintro e v2 ⟨rfl, hL, hF⟩
  have K2 : Hid (KL w v2 l ⟨[1, 1, 0], [0, 1], []⟩ 2) := Lib.hid (K1.out.did hL hF)
  clear hc hL hF K1
  go_wp2_with (go_at_call 21; fail)
  have hc := pkStart_any K2.out.K (by omega) 2
  rw [show stepC 0 ⟨[1, 1, 0], [0, 1], []⟩ 2 = (0, ⟨[1, 1, 1], [0, 1, 2], []⟩) by kernel_rfl] at hc
  simp only at hc
  refine hc.mono ?_
  rintro e v3 ⟨rfl, hL, hF⟩
  have K3 : Hid (KL w v3 l ⟨[1, 1, 1], [0, 1, 2], []⟩ 3) := Lib.hid (K2.out.did hL hF)
  clear hc hL hF K2
  go_wp2_with (go_at_call 15; fail)
  have hc := spot_any v3 5 0
  refine hc.mono ?_
  rintro e v4 ⟨rfl, hg⟩
  have K4 := Lib.hid (K3.out.grown hg.below)
  clear hc hg K3
  go_wp2_with (go_at_call 15; fail)
  have hc := spot_any v4 5 1
  refine hc.mono ?_
  rintro e v5 ⟨rfl, hg⟩
  have K5 := Lib.hid (K4.out.grown hg.below)
  clear hc hg K4
  go_wp2_with (go_at_call 24; fail)
  have hba0 := below_alloc v5 (.cells #[.int .i64 5, .int .i64 0] 38)
  have R := Lib.hid (block_new v5 (.cells #[.int .i64 5, .int .i64 0] 38) _ rfl)
  have K6 := Lib.hid (K5.out.grown hba0)
  clear hba0
  have hba1 := below_alloc (v5.alloc (.cells #[.int .i64 5, .int .i64 0] 38)) (.cells #[.int .i64 5, .int .i64 1] 38)
  have R := Lib.hid (box_below hba1 R.out)
  have W : Hid (((v5.alloc (.cells #[.int .i64 5, .int .i64 0] 38)).alloc (.cells #[.int .i64 5, .int .i64 1] 38)).heap[v5.heap.size + 1]? = some (.cells #[.int .i64 5, .int .i64 1] 38 (0, 0))) := Lib.hid (block_new (v5.alloc (.cells #[.int .i64 5, .int .i64 0] 38)) (.cells #[.int .i64 5, .int .i64 1] 38) _ (by simp))
  have K6 := Lib.hid (K6.out.grown hba1)
  clear hba1
  clear K5
  generalize ((v5.alloc (.cells #[.int .i64 5, .int .i64 0] 38)).alloc (.cells #[.int .i64 5, .int .i64 1] 38)) = u6 at *
  generalize v5.heap.size = z6 at *
  have hc := pkPark_any K6.out.K (by omega) 1 ((5, 0) : Sp)
  rw [show pkC ⟨[1, 1, 1], [0, 1, 2], []⟩ 1 ((5, 0) : Sp) = (0, ⟨[1, 2, 1], [0, 2], [(1, (5, 0))]⟩) by kernel_rfl] at hc
  simp only at hc
  refine hc.mono ?_
  rintro e v7 ⟨rfl, hL, hF⟩
  have K7 : Hid (KL w v7 l ⟨[1, 2, 1], [0, 2], [(1, (5, 0))]⟩ 4) := Lib.hid (K6.out.did hL hF)
  have R := Lib.hid (hF.block R.out (by decide) (by decide))
  have W := Lib.hid (hF.block W.out (by decide) (by decide))
  clear hc hL hF K6
  have fR0 := cells_cell (o := 0) R.out rfl
  have fR1 := cells_cell (o := 1) R.out rfl
  have fRl := lt_of_block R.out
  have fW0 := cells_cell (o := 0) W.out rfl
  have fW1 := cells_cell (o := 1) W.out rfl
  have fWl := lt_of_block W.out
  go_wp2_with (go_at_call 24; fail)
  clear fR0 fR1 fRl fW0 fW1 fWl
  have hc := pkPark_any K7.out.K (by omega) 0 ((5, 0) : Sp)
  rw [show pkC ⟨[1, 2, 1], [0, 2], [(1, (5, 0))]⟩ 0 ((5, 0) : Sp) = (0, ⟨[2, 2, 1], [2], [(1, (5, 0)), (0, (5, 0))]⟩) by kernel_rfl] at hc
  simp only at hc
  refine hc.mono ?_
  rintro e v8 ⟨rfl, hL, hF⟩
  have K8 : Hid (KL w v8 l ⟨[2, 2, 1], [2], [(1, (5, 0)), (0, (5, 0))]⟩ 5) := Lib.hid (K7.out.did hL hF)
  have R := Lib.hid (hF.block R.out (by decide) (by decide))
  have W := Lib.hid (hF.block W.out (by decide) (by decide))
  clear hc hL hF K7
  have fR0 := cells_cell (o := 0) R.out rfl
  have fR1 := cells_cell (o := 1) R.out rfl
  have fRl := lt_of_block R.out
  have fW0 := cells_cell (o := 0) W.out rfl
  have fW1 := cells_cell (o := 1) W.out rfl
  have fWl := lt_of_block W.out
  go_wp2_with (go_at_call 24; fail)
  clear fR0 fR1 fRl fW0 fW1 fWl
  have hc := pkPark_any K8.out.K (by omega) 2 ((5, 1) : Sp)
  rw [show pkC ⟨[2, 2, 1], [2], [(1, (5, 0)), (0, (5, 0))]⟩ 2 ((5, 1) : Sp) = (0, ⟨[2, 2, 2], [], [(1, (5, 0)), (0, (5, 0)), (2, (5, 1))]⟩) by kernel_rfl] at hc
  simp only at hc
  refine hc.mono ?_
  rintro e v9 ⟨rfl, hL, hF⟩
  have K9 : Hid (KL w v9 l ⟨[2, 2, 2], [], [(1, (5, 0)), (0, (5, 0)), (2, (5, 1))]⟩ 6) := Lib.hid (K8.out.did hL hF)
  have R := Lib.hid (hF.block R.out (by decide) (by decide))
  have W := Lib.hid (hF.block W.out (by decide) (by decide))
  clear hc hL hF K8
  have fR0 := cells_cell (o := 0) R.out rfl
  have fR1 := cells_cell (o := 1) R.out rfl
  have fRl := lt_of_block R.out
  have fW0 := cells_cell (o := 0) W.out rfl
  have fW1 := cells_cell (o := 1) W.out rfl
  have fWl := lt_of_block W.out
  go_wp2_with (go_at_call 28; fail)
  clear fR0 fR1 fRl fW0 fW1 fWl
  have hba := below_alloc v9 (.cells #[.int .i64 1, .int .i64 0] 3)
  have R := Lib.hid (box_below hba R.out)
  have W := Lib.hid (box_below hba W.out)
  have HL : Hid (Src TI (v9.alloc (.cells #[.int .i64 1, .int .i64 0] 3)) (.slice (some ⟨v9.heap.size, 0, none⟩) 2 2) [1, 0]) := Lib.hid (src_lit v9 [1, 0] _ rfl (by decide))
  have K10 := Lib.hid (K9.out.grown hba)
  clear hba K9
  generalize v9.alloc (.cells #[.int .i64 1, .int .i64 0] 3) = u10 at *
  generalize v9.heap.size = z10 at *
  have hc := waits_yes (s := (5, 0)) K10.out.K (by omega) ⟨by decide, by decide, .inl rfl⟩ HL.out
  simp only at hc
  refine hc.mono ?_
  rintro e v11 ⟨rfl, hg⟩
  have K11 := Lib.hid (K10.out.grown hg)
  have R := Lib.hid (box_below hg R.out)
  have W := Lib.hid (box_below hg W.out)
  clear hc hg K10 HL
  have fR0 := cells_cell (o := 0) R.out rfl
  have fR1 := cells_cell (o := 1) R.out rfl
  have fRl := lt_of_block R.out
  have fW0 := cells_cell (o := 0) W.out rfl
  have fW1 := cells_cell (o := 1) W.out rfl
  have fWl := lt_of_block W.out
  go_wp2_with (go_at_call 16; fail)
  clear fR0 fR1 fRl fW0 fW1 fWl
  have hc := pkWake_any K11.out.K (by omega) ((5, 0) : Sp)
  rw [show wkC ⟨[2, 2, 2], [], [(1, (5, 0)), (0, (5, 0)), (2, (5, 1))]⟩ ((5, 0) : Sp) = (1, 0, ⟨[2, 1, 2], [1], [(0, (5, 0)), (2, (5, 1))]⟩) by kernel_rfl] at hc
  simp only at hc
  refine hc.mono ?_
  rintro e v12 ⟨rfl, hL, hF⟩
  have K12 : Hid (KL w v12 l ⟨[2, 1, 2], [1], [(0, (5, 0)), (2, (5, 1))]⟩ 7) := Lib.hid (K11.out.did hL hF)
  have R := Lib.hid (hF.block R.out (by decide) (by decide))
  have W := Lib.hid (hF.block W.out (by decide) (by decide))
  clear hc hL hF K11
  have fR0 := cells_cell (o := 0) R.out rfl
  have fR1 := cells_cell (o := 1) R.out rfl
  have fRl := lt_of_block R.out
  have fW0 := cells_cell (o := 0) W.out rfl
  have fW1 := cells_cell (o := 1) W.out rfl
  have fWl := lt_of_block W.out
  go_wp2_with (go_at_call 19; fail)
  clear fR0 fR1 fRl fW0 fW1 fWl
  have hc := pkWhere_any K12.out.K 0
  rw [show whC ⟨[2, 1, 2], [1], [(0, (5, 0)), (2, (5, 1))]⟩ 0 = ((5, 0), 0) by kernel_rfl] at hc
  simp only at hc
  refine hc.mono ?_
  rintro e v13 ⟨rfl, hg⟩
  have K13 := Lib.hid (K12.out.grown hg.below)
  have R := Lib.hid (box_below hg.below R.out)
  have W := Lib.hid (box_below hg.below W.out)
  clear hc hg K12
  have fR0 := cells_cell (o := 0) R.out rfl
  have fR1 := cells_cell (o := 1) R.out rfl
  have fRl := lt_of_block R.out
  have fW0 := cells_cell (o := 0) W.out rfl
  have fW1 := cells_cell (o := 1) W.out rfl
  have fWl := lt_of_block W.out
  go_wp2_with (go_at_call 19; fail)
  clear fR0 fR1 fRl fW0 fW1 fWl
  have hba0 := below_alloc v13 (.cells #[.int .i64 5, .int .i64 0] 38)
  have R := Lib.hid (box_below hba0 R.out)
  have W := Lib.hid (box_below hba0 W.out)
  have B6 := Lib.hid (block_new v13 (.cells #[.int .i64 5, .int .i64 0] 38) _ rfl)
  have K14 := Lib.hid (K13.out.grown hba0)
  clear hba0
  clear K13
  generalize (v13.alloc (.cells #[.int .i64 5, .int .i64 0] 38)) = u14 at *
  generalize v13.heap.size = z14 at *
  have hc := pkWhere_any K14.out.K 1
  rw [show whC ⟨[2, 1, 2], [1], [(0, (5, 0)), (2, (5, 1))]⟩ 1 = ((0, 0), 8) by kernel_rfl] at hc
  simp only at hc
  refine hc.mono ?_
  rintro e v15 ⟨rfl, hg⟩
  have K15 := Lib.hid (K14.out.grown hg.below)
  have R := Lib.hid (box_below hg.below R.out)
  have W := Lib.hid (box_below hg.below W.out)
  have B6 := Lib.hid (box_below hg.below B6.out)
  clear hc hg K14
  have fR0 := cells_cell (o := 0) R.out rfl
  have fR1 := cells_cell (o := 1) R.out rfl
  have fRl := lt_of_block R.out
  have fW0 := cells_cell (o := 0) W.out rfl
  have fW1 := cells_cell (o := 1) W.out rfl
  have fWl := lt_of_block W.out
  have fB60 := cells_cell (o := 0) B6.out rfl
  have fB61 := cells_cell (o := 1) B6.out rfl
  have fB6l := lt_of_block B6.out
  go_wp2_with (go_at_call 18; fail)
  clear fR0 fR1 fRl fW0 fW1 fWl fB60 fB61 fB6l
  have hba0 := below_alloc v15 (.cells #[.int .i64 0, .int .i64 0] 38)
  have R := Lib.hid (box_below hba0 R.out)
  have W := Lib.hid (box_below hba0 W.out)
  have B6 := Lib.hid (box_below hba0 B6.out)
  have B8 := Lib.hid (block_new v15 (.cells #[.int .i64 0, .int .i64 0] 38) _ rfl)
  have K16 := Lib.hid (K15.out.grown hba0)
  clear hba0
  clear K15
  generalize (v15.alloc (.cells #[.int .i64 0, .int .i64 0] 38)) = u16 at *
  generalize v15.heap.size = z16 at *
  have hc := pkLeave_any K16.out.K (by omega) 0
  rw [show lvC ⟨[2, 1, 2], [1], [(0, (5, 0)), (2, (5, 1))]⟩ 0 = ((5, 0), 0, ⟨[1, 1, 2], [1, 0], [(2, (5, 1))]⟩) by kernel_rfl] at hc
  simp only at hc
  refine hc.mono ?_
  rintro e v17 ⟨rfl, hL, hF⟩
  have K17 : Hid (KL w v17 l ⟨[1, 1, 2], [1, 0], [(2, (5, 1))]⟩ 8) := Lib.hid (K16.out.did hL hF)
  have R := Lib.hid (hF.block R.out (by decide) (by decide))
  have W := Lib.hid (hF.block W.out (by decide) (by decide))
  have B6 := Lib.hid (hF.block B6.out (by decide) (by decide))
  have B8 := Lib.hid (hF.block B8.out (by decide) (by decide))
  clear hc hL hF K16
  have fR0 := cells_cell (o := 0) R.out rfl
  have fR1 := cells_cell (o := 1) R.out rfl
  have fRl := lt_of_block R.out
  have fW0 := cells_cell (o := 0) W.out rfl
  have fW1 := cells_cell (o := 1) W.out rfl
  have fWl := lt_of_block W.out
  have fB60 := cells_cell (o := 0) B6.out rfl
  have fB61 := cells_cell (o := 1) B6.out rfl
  have fB6l := lt_of_block B6.out
  have fB80 := cells_cell (o := 0) B8.out rfl
  have fB81 := cells_cell (o := 1) B8.out rfl
  have fB8l := lt_of_block B8.out
  go_wp2_with (go_at_call 16; fail)
  clear fR0 fR1 fRl fW0 fW1 fWl fB60 fB61 fB6l fB80 fB81 fB8l
  have hba0 := below_alloc v17 (.cells #[.int .i64 5, .int .i64 0] 38)
  have R := Lib.hid (box_below hba0 R.out)
  have W := Lib.hid (box_below hba0 W.out)
  have B6 := Lib.hid (box_below hba0 B6.out)
  have B8 := Lib.hid (box_below hba0 B8.out)
  have B10 := Lib.hid (block_new v17 (.cells #[.int .i64 5, .int .i64 0] 38) _ rfl)
  have K18 := Lib.hid (K17.out.grown hba0)
  clear hba0
  clear K17
  generalize (v17.alloc (.cells #[.int .i64 5, .int .i64 0] 38)) = u18 at *
  generalize v17.heap.size = z18 at *
  have hc := pkWake_any K18.out.K (by omega) ((5, 0) : Sp)
  rw [show wkC ⟨[1, 1, 2], [1, 0], [(2, (5, 1))]⟩ ((5, 0) : Sp) = (0, 9, ⟨[1, 1, 2], [1, 0], [(2, (5, 1))]⟩) by kernel_rfl] at hc
  simp only at hc
  refine hc.mono ?_
  rintro e v19 ⟨rfl, hL, hF⟩
  have K19 : Hid (KL w v19 l ⟨[1, 1, 2], [1, 0], [(2, (5, 1))]⟩ 9) := Lib.hid (K18.out.did hL hF)
  have R := Lib.hid (hF.block R.out (by decide) (by decide))
  have W := Lib.hid (hF.block W.out (by decide) (by decide))
  have B6 := Lib.hid (hF.block B6.out (by decide) (by decide))
  have B8 := Lib.hid (hF.block B8.out (by decide) (by decide))
  have B10 := Lib.hid (hF.block B10.out (by decide) (by decide))
  clear hc hL hF K18
  have fR0 := cells_cell (o := 0) R.out rfl
  have fR1 := cells_cell (o := 1) R.out rfl
  have fRl := lt_of_block R.out
  have fW0 := cells_cell (o := 0) W.out rfl
  have fW1 := cells_cell (o := 1) W.out rfl
  have fWl := lt_of_block W.out
  have fB60 := cells_cell (o := 0) B6.out rfl
  have fB61 := cells_cell (o := 1) B6.out rfl
  have fB6l := lt_of_block B6.out
  have fB80 := cells_cell (o := 0) B8.out rfl
  have fB81 := cells_cell (o := 1) B8.out rfl
  have fB8l := lt_of_block B8.out
  have fB100 := cells_cell (o := 0) B10.out rfl
  have fB101 := cells_cell (o := 1) B10.out rfl
  have fB10l := lt_of_block B10.out
  go_wp2_with (go_at_call 13; fail)
  clear fR0 fR1 fRl fW0 fW1 fWl fB60 fB61 fB6l fB80 fB81 fB8l fB100 fB101 fB10l
  refine (pkReady_any K19.out.K (by omega)).mono ?_
  rintro e v20 ⟨u, rfl, hr, hg⟩
  obtain ⟨ua, un, uc, rfl⟩ := row_form hr
  have K20 := Lib.hid (K19.out.grown hg)
  have RR := Lib.hid hr
  have R := Lib.hid (box_below hg R.out)
  have W := Lib.hid (box_below hg W.out)
  have B6 := Lib.hid (box_below hg B6.out)
  have B8 := Lib.hid (box_below hg B8.out)
  have B10 := Lib.hid (box_below hg B10.out)
  clear hr hg K19
  have fR0 := cells_cell (o := 0) R.out rfl
  have fR1 := cells_cell (o := 1) R.out rfl
  have fRl := lt_of_block R.out
  have fW0 := cells_cell (o := 0) W.out rfl
  have fW1 := cells_cell (o := 1) W.out rfl
  have fWl := lt_of_block W.out
  have fB60 := cells_cell (o := 0) B6.out rfl
  have fB61 := cells_cell (o := 1) B6.out rfl
  have fB6l := lt_of_block B6.out
  have fB80 := cells_cell (o := 0) B8.out rfl
  have fB81 := cells_cell (o := 1) B8.out rfl
  have fB8l := lt_of_block B8.out
  have fB100 := cells_cell (o := 0) B10.out rfl
  have fB101 := cells_cell (o := 1) B10.out rfl
  have fB10l := lt_of_block B10.out
  go_wp2_with (go_at_call 29; fail)
  clear fR0 fR1 fRl fW0 fW1 fWl fB60 fB61 fB6l fB80 fB81 fB8l fB100 fB101 fB10l
  have hba := below_alloc v20 (.cells #[.int .i64 1, .int .i64 0] 3)
  have R := Lib.hid (box_below hba R.out)
  have W := Lib.hid (box_below hba W.out)
  have B6 := Lib.hid (box_below hba B6.out)
  have B8 := Lib.hid (box_below hba B8.out)
  have B10 := Lib.hid (box_below hba B10.out)
  have RR := Lib.hid (RR.out.below hba)
  have HL : Hid (Src TI (v20.alloc (.cells #[.int .i64 1, .int .i64 0] 3)) (.slice (some ⟨v20.heap.size, 0, none⟩) 2 2) [1, 0]) := Lib.hid (src_lit v20 [1, 0] _ rfl (by decide))
  have K21 := Lib.hid (K20.out.grown hba)
  clear hba K20
  generalize v20.alloc (.cells #[.int .i64 1, .int .i64 0] 3) = u21 at *
  generalize v20.heap.size = z21 at *
  refine (same_yes (RR.out.src TI_ok) HL.out (by decide)).mono ?_
  rintro e v22 ⟨rfl, hg⟩
  have K22 := Lib.hid (K21.out.grown hg.below)
  have R := Lib.hid (box_below hg.below R.out)
  have W := Lib.hid (box_below hg.below W.out)
  have B6 := Lib.hid (box_below hg.below B6.out)
  have B8 := Lib.hid (box_below hg.below B8.out)
  have B10 := Lib.hid (box_below hg.below B10.out)
  clear hg K21 HL RR
  have fR0 := cells_cell (o := 0) R.out rfl
  have fR1 := cells_cell (o := 1) R.out rfl
  have fRl := lt_of_block R.out
  have fW0 := cells_cell (o := 0) W.out rfl
  have fW1 := cells_cell (o := 1) W.out rfl
  have fWl := lt_of_block W.out
  have fB60 := cells_cell (o := 0) B6.out rfl
  have fB61 := cells_cell (o := 1) B6.out rfl
  have fB6l := lt_of_block B6.out
  have fB80 := cells_cell (o := 0) B8.out rfl
  have fB81 := cells_cell (o := 1) B8.out rfl
  have fB8l := lt_of_block B8.out
  have fB100 := cells_cell (o := 0) B10.out rfl
  have fB101 := cells_cell (o := 1) B10.out rfl
  have fB10l := lt_of_block B10.out
  go_wp2_with (go_at_call 17; fail)
  clear fR0 fR1 fRl fW0 fW1 fWl fB60 fB61 fB6l fB80 fB81 fB8l fB100 fB101 fB10l
  have hc := pkWakeAll_any K22.out.K (by omega) ((5, 1) : Sp)
  rw [show wkaC ⟨[1, 1, 2], [1, 0], [(2, (5, 1))]⟩ ((5, 1) : Sp) = ([2], 0, ⟨[1, 1, 1], [1, 0, 2], []⟩) by kernel_rfl] at hc
  simp only at hc
  refine hc.mono ?_
  rintro e v23 ⟨u, rfl, hr, hL, hF⟩
  have K23 : Hid (KL w v23 l ⟨[1, 1, 1], [1, 0, 2], []⟩ 73) := Lib.hid (K22.out.did hL hF)
  have R := Lib.hid (hF.block R.out (by decide) (by decide))
  have W := Lib.hid (hF.block W.out (by decide) (by decide))
  have B6 := Lib.hid (hF.block B6.out (by decide) (by decide))
  have B8 := Lib.hid (hF.block B8.out (by decide) (by decide))
  have B10 := Lib.hid (hF.block B10.out (by decide) (by decide))
  obtain ⟨ua, un, uc, rfl⟩ := row_form hr
  have RD := Lib.hid hr
  clear hr
  clear hc hL hF K22
  have fR0 := cells_cell (o := 0) R.out rfl
  have fR1 := cells_cell (o := 1) R.out rfl
  have fRl := lt_of_block R.out
  have fW0 := cells_cell (o := 0) W.out rfl
  have fW1 := cells_cell (o := 1) W.out rfl
  have fWl := lt_of_block W.out
  have fB60 := cells_cell (o := 0) B6.out rfl
  have fB61 := cells_cell (o := 1) B6.out rfl
  have fB6l := lt_of_block B6.out
  have fB80 := cells_cell (o := 0) B8.out rfl
  have fB81 := cells_cell (o := 1) B8.out rfl
  have fB8l := lt_of_block B8.out
  have fB100 := cells_cell (o := 0) B10.out rfl
  have fB101 := cells_cell (o := 1) B10.out rfl
  have fB10l := lt_of_block B10.out
  go_wp2_with (go_at_call 17; fail)
  clear fR0 fR1 fRl fW0 fW1 fWl fB60 fB61 fB6l fB80 fB81 fB8l fB100 fB101 fB10l
  have hc := pkWakeAll_any K23.out.K (by omega) ((5, 1) : Sp)
  rw [show wkaC ⟨[1, 1, 1], [1, 0, 2], []⟩ ((5, 1) : Sp) = ([], 0, ⟨[1, 1, 1], [1, 0, 2], []⟩) by kernel_rfl] at hc
  simp only at hc
  refine hc.mono ?_
  rintro e v24 ⟨u2, rfl, hr, hL, hF⟩
  have K24 : Hid (KL w v24 l ⟨[1, 1, 1], [1, 0, 2], []⟩ 137) := Lib.hid (K23.out.did hL hF)
  have R := Lib.hid (hF.block R.out (by decide) (by decide))
  have W := Lib.hid (hF.block W.out (by decide) (by decide))
  have B6 := Lib.hid (hF.block B6.out (by decide) (by decide))
  have B8 := Lib.hid (hF.block B8.out (by decide) (by decide))
  have B10 := Lib.hid (hF.block B10.out (by decide) (by decide))
  have RD := Lib.hid (hF.row RD.out (by decide) (by decide))
  obtain ⟨ub, uk, rfl, -, -⟩ := hr.form
  simp only [List.length_nil]
  clear hr
  clear hc hL hF K23
  have fR0 := cells_cell (o := 0) R.out rfl
  have fR1 := cells_cell (o := 1) R.out rfl
  have fRl := lt_of_block R.out
  have fW0 := cells_cell (o := 0) W.out rfl
  have fW1 := cells_cell (o := 1) W.out rfl
  have fWl := lt_of_block W.out
  have fB60 := cells_cell (o := 0) B6.out rfl
  have fB61 := cells_cell (o := 1) B6.out rfl
  have fB6l := lt_of_block B6.out
  have fB80 := cells_cell (o := 0) B8.out rfl
  have fB81 := cells_cell (o := 1) B8.out rfl
  have fB8l := lt_of_block B8.out
  have fB100 := cells_cell (o := 0) B10.out rfl
  have fB101 := cells_cell (o := 1) B10.out rfl
  have fB10l := lt_of_block B10.out
  go_wp2_with (go_at_call 29; fail)
  clear fR0 fR1 fRl fW0 fW1 fWl fB60 fB61 fB6l fB80 fB81 fB8l fB100 fB101 fB10l
  have hba := below_alloc v24 (.cells #[.int .i64 2] 3)
  have R := Lib.hid (box_below hba R.out)
  have W := Lib.hid (box_below hba W.out)
  have B6 := Lib.hid (box_below hba B6.out)
  have B8 := Lib.hid (box_below hba B8.out)
  have B10 := Lib.hid (box_below hba B10.out)
  have RD := Lib.hid (RD.out.below hba)
  have HL : Hid (Src TI (v24.alloc (.cells #[.int .i64 2] 3)) (.slice (some ⟨v24.heap.size, 0, none⟩) 1 1) [2]) := Lib.hid (src_lit v24 [2] _ rfl (by decide))
  have K25 := Lib.hid (K24.out.grown hba)
  clear hba K24
  generalize v24.alloc (.cells #[.int .i64 2] 3) = u25 at *
  generalize v24.heap.size = z25 at *
  refine (same_yes (RD.out.src TI_ok) HL.out (by decide)).mono ?_
  rintro e v26 ⟨rfl, hg⟩
  have K26 := Lib.hid (K25.out.grown hg.below)
  have R := Lib.hid (box_below hg.below R.out)
  have W := Lib.hid (box_below hg.below W.out)
  have B6 := Lib.hid (box_below hg.below B6.out)
  have B8 := Lib.hid (box_below hg.below B8.out)
  have B10 := Lib.hid (box_below hg.below B10.out)
  clear hg K25 HL RD
  have fR0 := cells_cell (o := 0) R.out rfl
  have fR1 := cells_cell (o := 1) R.out rfl
  have fRl := lt_of_block R.out
  have fW0 := cells_cell (o := 0) W.out rfl
  have fW1 := cells_cell (o := 1) W.out rfl
  have fWl := lt_of_block W.out
  have fB60 := cells_cell (o := 0) B6.out rfl
  have fB61 := cells_cell (o := 1) B6.out rfl
  have fB6l := lt_of_block B6.out
  have fB80 := cells_cell (o := 0) B8.out rfl
  have fB81 := cells_cell (o := 1) B8.out rfl
  have fB8l := lt_of_block B8.out
  have fB100 := cells_cell (o := 0) B10.out rfl
  have fB101 := cells_cell (o := 1) B10.out rfl
  have fB10l := lt_of_block B10.out
  go_wp2_with (go_at_call 15; fail)
  clear fR0 fR1 fRl fW0 fW1 fWl fB60 fB61 fB6l fB80 fB81 fB8l fB100 fB101 fB10l
  have hc := spot_any v26 128 0
  refine hc.mono ?_
  rintro e v27 ⟨rfl, hg⟩
  have K27 := Lib.hid (K26.out.grown hg.below)
  have R := Lib.hid (box_below hg.below R.out)
  have W := Lib.hid (box_below hg.below W.out)
  have B6 := Lib.hid (box_below hg.below B6.out)
  have B8 := Lib.hid (box_below hg.below B8.out)
  have B10 := Lib.hid (box_below hg.below B10.out)
  clear hc hg K26
  have fR0 := cells_cell (o := 0) R.out rfl
  have fR1 := cells_cell (o := 1) R.out rfl
  have fRl := lt_of_block R.out
  have fW0 := cells_cell (o := 0) W.out rfl
  have fW1 := cells_cell (o := 1) W.out rfl
  have fWl := lt_of_block W.out
  have fB60 := cells_cell (o := 0) B6.out rfl
  have fB61 := cells_cell (o := 1) B6.out rfl
  have fB6l := lt_of_block B6.out
  have fB80 := cells_cell (o := 0) B8.out rfl
  have fB81 := cells_cell (o := 1) B8.out rfl
  have fB8l := lt_of_block B8.out
  have fB100 := cells_cell (o := 0) B10.out rfl
  have fB101 := cells_cell (o := 1) B10.out rfl
  have fB10l := lt_of_block B10.out
  go_wp2_with (go_at_call 24; fail)
  clear fR0 fR1 fRl fW0 fW1 fWl fB60 fB61 fB6l fB80 fB81 fB8l fB100 fB101 fB10l
  have hc := pkPark_any K27.out.K (by omega) 1 ((128, 0) : Sp)
  rw [show pkC ⟨[1, 1, 1], [1, 0, 2], []⟩ 1 ((128, 0) : Sp) = (2, ⟨[1, 1, 1], [1, 0, 2], []⟩) by kernel_rfl] at hc
  simp only at hc
  refine hc.mono ?_
  rintro e v28 ⟨rfl, hL, hF⟩
  have K28 : Hid (KL w v28 l ⟨[1, 1, 1], [1, 0, 2], []⟩ 138) := Lib.hid (K27.out.did hL hF)
  have R := Lib.hid (hF.block R.out (by decide) (by decide))
  have W := Lib.hid (hF.block W.out (by decide) (by decide))
  have B6 := Lib.hid (hF.block B6.out (by decide) (by decide))
  have B8 := Lib.hid (hF.block B8.out (by decide) (by decide))
  have B10 := Lib.hid (hF.block B10.out (by decide) (by decide))
  clear hc hL hF K27
  have fR0 := cells_cell (o := 0) R.out rfl
  have fR1 := cells_cell (o := 1) R.out rfl
  have fRl := lt_of_block R.out
  have fW0 := cells_cell (o := 0) W.out rfl
  have fW1 := cells_cell (o := 1) W.out rfl
  have fWl := lt_of_block W.out
  have fB60 := cells_cell (o := 0) B6.out rfl
  have fB61 := cells_cell (o := 1) B6.out rfl
  have fB6l := lt_of_block B6.out
  have fB80 := cells_cell (o := 0) B8.out rfl
  have fB81 := cells_cell (o := 1) B8.out rfl
  have fB8l := lt_of_block B8.out
  have fB100 := cells_cell (o := 0) B10.out rfl
  have fB101 := cells_cell (o := 1) B10.out rfl
  have fB10l := lt_of_block B10.out
  go_wp2_with (go_at_call 24; fail)
  clear fR0 fR1 fRl fW0 fW1 fWl fB60 fB61 fB6l fB80 fB81 fB8l fB100 fB101 fB10l
  have hc := pkPark_any K28.out.K (by omega) 3 ((5, 0) : Sp)
  rw [show pkC ⟨[1, 1, 1], [1, 0, 2], []⟩ 3 ((5, 0) : Sp) = (2, ⟨[1, 1, 1], [1, 0, 2], []⟩) by kernel_rfl] at hc
  simp only at hc
  refine hc.mono ?_
  rintro e v29 ⟨rfl, hL, hF⟩
  have K29 : Hid (KL w v29 l ⟨[1, 1, 1], [1, 0, 2], []⟩ 139) := Lib.hid (K28.out.did hL hF)
  have R := Lib.hid (hF.block R.out (by decide) (by decide))
  have W := Lib.hid (hF.block W.out (by decide) (by decide))
  have B6 := Lib.hid (hF.block B6.out (by decide) (by decide))
  have B8 := Lib.hid (hF.block B8.out (by decide) (by decide))
  have B10 := Lib.hid (hF.block B10.out (by decide) (by decide))
  clear hc hL hF K28
  go_wp2_with fail
  go_ret
  exact ⟨rfl, K29.out.below⟩
end Go.Proofs.YtcdimopiaanfbaaDoor
