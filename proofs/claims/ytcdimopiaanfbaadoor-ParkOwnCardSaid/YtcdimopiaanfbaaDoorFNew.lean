/- New, Clone, Copy. -/
import Derived.Test.YtcdimopiaanfbaaDoorFMem
import Derived.Test.YtcdimopiaanfbaaDoorDCopy
import Derived.Test.YtcdimopiaanfbaaDoorDFloat
import Derived.Test.YtcdimopiaanfbaaDoorEMix
namespace Go.Proofs.YtcdimopiaanfbaaDoor
open Go.RowKit Go.Sort Go.MapKept
set_option linter.unusedVariables false
set_option linter.unusedSimpArgs false

set_option maxHeartbeats 400000 in
theorem tkNew_bad (w : World) (c : Int) (h : c < 1 ∨ 64 < c) : Calls Tryd.prog 30 #[.int .i64 c] w fun e w' => e = .returned (.tuple #[.pointer none, .int .i64 2]) ∧ w' = w := by
  by_cases h1 : c < 1
  · go_enter Tryd.func30, Tryd.ntmps30
    go_wp2_with fail
    go_ret2
    exact ⟨rfl, rfl⟩
  · have h2 : 64 < c := by omega
    have h3 : decide (c < 1) = false := by simp; omega
    go_enter Tryd.func30, Tryd.ntmps30
    go_wp2_with fail
    go_ret2
    exact ⟨rfl, rfl⟩

theorem wp_made {P : Program} {o : Oper} {a : Act} {w w' : World} {K : Act → World → Prop} {Q : Exit → Act → World → Prop} (l c : Operand) (t : TypeId) (hop : o.op = Op.makeSlice t l c) {x y v : Value} (hl : a.eval l = x) (hc : a.eval c = y)
    (hrun : (Instr.makeSlice t x y).run P w = .ok v w') (h : K (a.put o.dst v) w') : Oper.wp P o a w K Q := by
  unfold Oper.wp
  simp [execOp, hop, hl, hc, hrun, Result.andThen]
  exact h

/-- The new cells. -/
theorem row_made {w : World} {base b n : Nat} (h : w.ownsRow base 138 2 (.slice (some ⟨b, 0, none⟩) n n) n (madeCells (Value.agg #[.int .i64 0, .int .u64 0]).cells (n * 2)).toList) : Row TC w base (.slice (some ⟨b, 0, none⟩) n n) (List.replicate n ⟨0, 0⟩) := by
  unfold Row
  rw [List.length_replicate, flt_replicate (e := TC.enc) (s := 2) n ⟨0, 0⟩ TC_ok.len (by decide)]
  exact h

/-- What is known of the new cells and the new queue. -/
structure NewAt (w W : World) (c x q b m : Nat) : Prop where
  r : Row TC W w.heap.size (.slice (some ⟨x, 0, none⟩) c c) (List.replicate c ⟨0, 0⟩)
  qa : QAt W q b m [] 0
  bq : w.heap.size ≤ q
  bb : w.heap.size ≤ b
  bm : w.heap.size ≤ m
  below : Below w.heap.size w W

set_option maxRecDepth 100000 in
set_option maxHeartbeats 3200000 in
theorem tkNew_ok (w : World) (hmv : MvAt w) (c : Nat) (h1 : 1 ≤ c) (h2 : c ≤ 64) : Calls Tryd.prog 30 #[.int .i64 ((c : Nat) : Int)] w fun e w' => ∃ l, e = .returned (.tuple #[.pointer (some ⟨l.t, 0, none⟩), .int .i64 0]) ∧ KAt w.heap.size w' l (List.replicate c ⟨0, 0⟩) [] 0 ∧ Below w.heap.size w w' := by
  have e1 : (1 : Int) ≤ (c : Int) := by omega
  have e2 : (c : Int) ≤ 64 := by omega
  have e3 : decide ((c : Int) < 1) = false := by simp; omega
  have e4 : decide ((64 : Int) < (c : Int)) = false := by simp; omega
  obtain ⟨i0, hi0, hz0, hz1, hz2⟩ := info_parts infoCell
  have hmake := fun (W : World) (base : Nat) (hb : base ≤ W.heap.size) => run_make_full (P := Tryd.prog) W base 110 138 i0 (.agg #[.int .i64 0, .int .u64 0]) 2 Tryd.underlying110 hi0 hz0 hz1 .i64 .i64 c (by rw [show i0.bytes = 16 from hz2]; omega) (by unfold maxLen; omega) hb
  have HM := Lib.hid hmake
  have HMV := Lib.hid hmv
  have HC := Lib.hid (And.intro h1 h2)
  clear hmake hmv h1 h2
  go_enter Tryd.func30, Tryd.ntmps30
  go_wp2_with fail
  have hbd : Below w.heap.size w w.drew := (Below.refl _ _).drew
  refine wp_region_float3 (fun W' => Below w.heap.size w W') 3 [0] 1 2 [] [] (by kernel_rfl) (by kernel_rfl) (fun _ _ _ d _ h => by cases d <;> exact h) hbd _ (fun a' w' h' => h') ?_
  simp only [List.map_cons, List.map_nil, List.getD_cons_zero, List.getD_cons_succ, List.drop_succ_cons, List.drop_zero]
  refine takes_move (.tmp 0) (.int .i64 ((c : Nat) : Int)) rfl rfl rfl ?_
  simp only [Act.put, List.setIfInBounds_toArray, List.set_cons_zero, List.set_cons_succ]
  unfold wpTakes
  refine And.intro ?_ ?_
  focus
    refine mids_step rfl (fun K hK => ?_)
    obtain ⟨w1, hrun, r1, r2⟩ := HM.out w.drew w.heap.size (Nat.le_refl _)
    have hb1 : Below w.heap.size w w1 := hbd.grown r2 (Nat.le_refl _) (by intro k hk; cases hk)
    refine wp_made (.tmp 10) (.tmp 10) 110 rfl rfl rfl hrun ?_
    refine hK _ _ hb1 ?_
    clear hK
    simp only [Act.put, List.setIfInBounds_toArray, List.set_cons_zero, List.set_cons_succ]
    refine mids_step rfl (fun K hK => ?_)
    go_simp
    go_wp2_with (go_at_call 55; fail)
    refine (fiNew_any w1).mono ?_
    rintro e w2 ⟨q, b, m, rfl, hq, hg, k1, k2, k3⟩
    have hb2 : Below w.heap.size w w2 := hb1.trans (hg.below.mono hb1.size)
    refine hK _ _ hb2 ?_
    clear hK
    have hs := hb1.size
    have HN : Hid (NewAt w w2 c w.heap.size q b m) := Lib.hid ⟨(row_made r1).below hg.below, hq, by omega, by omega, by omega, hb2⟩
    clear r1 r2 hrun hq hg k1 k2 k3 hs hb1
    generalize w2 = W at *
    unfold wpMids
    refine ⟨hb2, ?_⟩
    unfold wpTakes
    clear hb2 HM
    go_wp2_with fail
    go_ret2
    have hba := fun o => below_alloc W o
    have hlen : (List.replicate c (⟨0, 0⟩ : Ck)).length = c := List.length_replicate ..
    refine ⟨⟨W.heap.size, w.heap.size, c, q, b, m⟩, rfl, ⟨?_, ?_, HN.out.qa.grown (hba _), by rw [hlen]; exact HC.out.1, by rw [hlen]; exact HC.out.2, (HMV.out.below HN.out.below HMV.out.lt).below (hba _) (Nat.lt_of_lt_of_le HMV.out.lt HN.out.below.size), HMV.out.lt, HN.out.below.size, HN.out.bq, HN.out.bb, HN.out.bm⟩, HN.out.below.trans ((hba _).mono HN.out.below.size)⟩
    · rw [hlen]; exact block_new _ _ _ rfl
    · rw [hlen]; exact HN.out.r.below (hba _)
  focus
    refine mids_step rfl (fun K hK => ?_)
    go_simp
    go_wp2_with (go_at_call 55; fail)
    refine (fiNew_any w.drew).mono ?_
    rintro e w1 ⟨q, b, m, rfl, hq, hg, k1, k2, k3⟩
    have hb1 : Below w.heap.size w w1 := hbd.trans hg.below
    refine hK _ _ hb1 ?_
    clear hK
    refine mids_step rfl (fun K hK => ?_)
    obtain ⟨w2, hrun, r1, r2⟩ := HM.out w1 w.heap.size hb1.size
    have hb3 : Below w1.heap.size w1 w2 := (Below.refl _ w1).grown r2 (Nat.le_refl _) (by intro k hk; cases hk)
    have hb2 : Below w.heap.size w w2 := hb1.trans (hb3.mono hb1.size)
    refine wp_made (.tmp 10) (.tmp 10) 110 rfl rfl rfl hrun ?_
    refine hK _ _ hb2 ?_
    clear hK
    simp only [Act.put, List.setIfInBounds_toArray, List.set_cons_zero, List.set_cons_succ]
    have HN : Hid (NewAt w w2 c w1.heap.size q b m) := Lib.hid ⟨row_made r1, hq.grown hb3, k1, k2, k3, hb2⟩
    clear r1 r2 hrun hq hg k1 k2 k3 hb1 hb3
    generalize w2 = W at *
    unfold wpMids
    refine ⟨hb2, ?_⟩
    unfold wpTakes
    clear hb2 HM
    go_wp2_with fail
    go_ret2
    have hba := fun o => below_alloc W o
    have hlen : (List.replicate c (⟨0, 0⟩ : Ck)).length = c := List.length_replicate ..
    refine ⟨⟨W.heap.size, w1.heap.size, c, q, b, m⟩, rfl, ⟨?_, ?_, HN.out.qa.grown (hba _), by rw [hlen]; exact HC.out.1, by rw [hlen]; exact HC.out.2, (HMV.out.below HN.out.below HMV.out.lt).below (hba _) (Nat.lt_of_lt_of_le HMV.out.lt HN.out.below.size), HMV.out.lt, HN.out.below.size, HN.out.bq, HN.out.bb, HN.out.bm⟩, HN.out.below.trans ((hba _).mono HN.out.below.size)⟩
    · rw [hlen]; exact block_new _ _ _ rfl
    · rw [hlen]; exact HN.out.r.below (hba _)

set_option maxHeartbeats 1600000 in
set_option maxRecDepth 100000 in
theorem ceClone_any {w : World} {B g c : Nat} {P : Ks} (h : Row TC w B (.slice (some ⟨g, 0, none⟩) P.length c) P) (n1 : 1 ≤ P.length) (n2 : P.length ≤ 64) :
    Calls Tryd.prog 77 #[.slice (some ⟨g, 0, none⟩) P.length c] w fun e w' => ∃ g' c', e = .returned (.slice (some ⟨g', 0, none⟩) P.length c') ∧ Row TC w' w.heap.size (.slice (some ⟨g', 0, none⟩) P.length c') P ∧ Below w.heap.size w w' := by
  have q22 : ∀ (w : World) (a : Option Addr) (n c n' c' : Nat), (binOp .eql 110 (.slice a n c) (.slice none n' c')).run Tryd.prog w = .ok (.bool a.isNone) w := fun w a n c n' c' => Lib.run_eql_slice_nil w _ _ a n c n' c' Tryd.underlying110
  have hsrc := Lib.hid (Row.src TC_ok h)
  obtain ⟨N, hN⟩ : ∃ N, N = P.length := ⟨_, rfl⟩
  have HN := Lib.hid hN
  rw [← hN] at n1 n2 hsrc ⊢
  have hemp : Hid (Row TC (w.alloc (.cells #[] 138)) w.heap.size (.slice (some ⟨w.heap.size, 0, none⟩) 0 0) ([] : Ks)) := Lib.hid (World.ownsRow_made w #[] 0 (Nat.le_refl _) (Nat.zero_le _) (by simp))
  clear h hN
  go_enter Tryd.func77, Tryd.ntmps77
  go_wp2_with (at_builtin; refine wpList_append_g TC_ok rfl (.tmp 5) (.tmp 6) rfl rfl rfl hemp.out (by simp) (hsrc.out.grown (below_alloc w _)) (by have := HN.out; simp; omega) ?_)
  intro v' w1 hown hf hnear
  have hb : Below w.heap.size w w1 := (below_alloc w _).trans (hf.below (fun x hx => by simp [Value.ownBlock] at hx; omega) (by simp))
  obtain ⟨g', c', rfl, -, -⟩ := row_some hown (by rw [← HN.out]; omega)
  rw [← HN.out] at hown
  have HR := Lib.hid hown
  have HB := Lib.hid hb
  clear hown hf hnear hb
  rw [← HN.out]
  go_wp2_with fail
  go_ret
  exact ⟨_, _, rfl, HR.out, HB.out⟩

theorem tkCopy_nil {w : World} {v : Value} (h : NoK w v) : Calls Tryd.prog 59 #[v] w fun e w' => e = .returned (.pointer none) ∧ w' = w := by
  have hu := Lib.hid (tkUsable_no h)
  obtain ⟨a, rfl⟩ := h.form
  clear h
  go_enter Tryd.func59, Tryd.ntmps59
  go_wp2_with (go_at_call 67; refine hu.out.mono ?_; rintro e w2 ⟨rfl, rfl⟩)
  go_ret
  exact ⟨rfl, rfl⟩
set_option maxHeartbeats 1600000 in
set_option maxRecDepth 100000 in
theorem tkCopy_yes {B : Nat} {w : World} {l : Tl} {P : Ks} {Q : Qu} {g : Nat} (h : KAt B w l P Q g) (hB : B ≤ w.heap.size) :
    Calls Tryd.prog 59 #[.pointer (some ⟨l.t, 0, none⟩)] w fun e w' => ∃ l', e = .returned (.pointer (some ⟨l'.t, 0, none⟩)) ∧ KAt w.heap.size w' l' P Q g ∧ Below w.heap.size w w' := by
  have hu := Lib.hid (tkUsable_yes h)
  have HH := Lib.hid h
  have HBB := Lib.hid hB
  obtain ⟨N, hN⟩ : ∃ N, N = P.length := ⟨_, rfl⟩
  have HN := Lib.hid hN
  have k0 := h.ct0
  rw [← hN] at k0
  clear h hN hB
  go_enter Tryd.func59, Tryd.ntmps59
  go_wp2_with (go_at_call 67; refine hu.out.mono ?_; rintro e w2 ⟨rfl, rfl⟩)
  have hld : ∀ W', Below w2.heap.size w2 W' → W'.cell? ⟨l.t, 0, none⟩ = some (.slice (some ⟨l.c, 0, none⟩) N l.cc) ∧ W'.cell? ⟨l.t, 1, none⟩ = some (.pointer (some ⟨l.q, 0, none⟩)) := fun W' hb => by
    have := (HH.out.grown hb).ct0
    rw [← HN.out] at this
    exact ⟨this, (HH.out.grown hb).ct1⟩
  have HS : Hid (Below w2.heap.size w2 w2.drew) := Lib.hid (Below.refl _ _).drew
  clear k0 hu
  refine wp_region_mix (fun W' => Below w2.heap.size w2 W') 10 [(true, 0), (true, 1), (true, 2), (true, 3), (true, 5), (true, 6), (true, 7), (true, 8), (false, 4), (false, 9)] (by kernel_rfl) (by kernel_rfl) (fun _ _ _ d _ h => by cases d <;> exact h) ?_
  simp only [List.map_cons, List.map_nil, List.getD_cons_zero, List.getD_cons_succ, List.drop_succ_cons, List.drop_zero]
  refine mix_move (.tmp 0) (.pointer (some ⟨l.t, 0, none⟩)) rfl HS.out rfl rfl ?_
  simp only [Act.put, List.setIfInBounds_toArray, List.set_cons_zero, List.set_cons_succ]
  refine mix_take (.pointer (some ⟨l.t, 0, none⟩)) HS.out rfl (fun W' hS => by go_simp) ?_
  simp only [Act.put, List.setIfInBounds_toArray, List.set_cons_zero, List.set_cons_succ]
  refine mix_take (.pointer (some ⟨l.t, 0, none⟩)) HS.out rfl (fun W' hS => by go_simp) ?_
  simp only [Act.put, List.setIfInBounds_toArray, List.set_cons_zero, List.set_cons_succ]
  refine mix_take (.slice (some ⟨l.c, 0, none⟩) N l.cc) HS.out rfl (fun W' hS => by obtain ⟨l0, l1⟩ := hld W' hS; go_simp) ?_
  simp only [Act.put, List.setIfInBounds_toArray, List.set_cons_zero, List.set_cons_succ]
  refine mix_move (.tmp 0) (.pointer (some ⟨l.t, 0, none⟩)) rfl HS.out rfl rfl ?_
  simp only [Act.put, List.setIfInBounds_toArray, List.set_cons_zero, List.set_cons_succ]
  refine mix_take (.pointer (some ⟨l.t, 0, none⟩)) HS.out rfl (fun W' hS => by go_simp) ?_
  simp only [Act.put, List.setIfInBounds_toArray, List.set_cons_zero, List.set_cons_succ]
  refine mix_take (.pointer (some ⟨l.t, 1, none⟩)) HS.out rfl (fun W' hS => by go_simp) ?_
  simp only [Act.put, List.setIfInBounds_toArray, List.set_cons_zero, List.set_cons_succ]
  refine mix_take (.pointer (some ⟨l.q, 0, none⟩)) HS.out rfl (fun W' hS => by obtain ⟨l0, l1⟩ := hld W' hS; go_simp) ?_
  simp only [Act.put, List.setIfInBounds_toArray, List.set_cons_zero, List.set_cons_succ]
  clear hld
  refine mix_step rfl (fun K hK => ?_)
  go_simp
  go_wp2_with (go_at_call 77; fail)
  have hcl := ceClone_any (HH.out.grown HS.out).r HH.out.n1 HH.out.n2
  rw [← HN.out] at hcl
  refine hcl.mono ?_
  rintro e w3 ⟨g', c', rfl, hr, hb⟩
  have HS3 := Lib.hid (HS.out.trans (hb.mono HS.out.size))
  have HR := Lib.hid hr
  refine hK _ _ HS3.out ?_
  clear hK hcl hr hb
  refine mix_step rfl (fun K hK => ?_)
  go_simp
  go_wp2_with (go_at_call 58; fail)
  refine (fiCopy_yes (HH.out.grown HS3.out).qa).mono ?_
  rintro e w4 ⟨q', b', m', rfl, hq, hg, k1, k2, k3⟩
  have HS4 := Lib.hid (HS3.out.trans (hg.below.mono HS3.out.size))
  have HR4 := Lib.hid (HR.out.below hg.below)
  have HQ := Lib.hid hq
  have HL := Lib.hid (And.intro k1 (And.intro k2 k3))
  refine hK _ _ HS4.out ?_
  clear hK hq hg k1 k2 k3
  refine mix_nil ?_
  go_wp2_with fail
  go_ret
  have hba := fun o => below_alloc w4 o
  have hs3 : w2.heap.size ≤ w3.heap.size := HS3.out.size
  have hrl : Row TC w4 w2.heap.size (.slice (some ⟨g', 0, none⟩) N c') P := HR4.out
  have hg0 : 0 < w2.heap.size := Nat.lt_of_lt_of_le HH.out.g0 HBB.out
  refine ⟨⟨w4.heap.size, g', c', q', b', m'⟩, rfl, ⟨?_, ?_, HQ.out.grown (hba _), HH.out.n1, HH.out.n2, HH.out.mv.below (HS4.out.trans ((hba _).mono HS4.out.size)) HH.out.mv.lt, hg0, HS4.out.size, Nat.le_trans hs3 HL.out.1, Nat.le_trans hs3 HL.out.2.1, Nat.le_trans hs3 HL.out.2.2⟩, HS4.out.trans ((hba _).mono HS4.out.size)⟩
  · rw [← HN.out]; exact block_new _ _ _ rfl
  · rw [← HN.out]; exact hrl.below (hba _)
end Go.Proofs.YtcdimopiaanfbaaDoor
