/- The law's own function parts: the parts of a rope, and that Parts, Len and Bytes agree. -/
import Derived.Test.YtkdbkamjaaehfaaCIt
import Derived.Test.YtkdbkamjaaehfaaCRefT
namespace Go.Proofs.Ytkdbkamjaaehfaa
open Go.RowKit Go.Sort Go.Shelf
set_option linter.unusedVariables false
set_option linter.unusedSimpArgs false
attribute [local go_sem] Oper.semAt_some

theorem seq_nil (B : Nat) (w : World) : (binOp .eql 42 (.func (.func 28) #[] #[.pointer (some ⟨B, 0, none⟩)]) .nilFunc).run Try.prog w = .ok (.bool false) w := by kernel_rfl

theorem wpListIn_append_v {F : Fence} {m : Nat} {P : Program} {t e : TypeId} {bytes : Nat} (hS : Slc P t e bytes) (hby : bytes ≤ 24) {w : World} {ops : Array Oper} {rest : List Oper} {o : Oper} {a : Act} {Q : Exit → Act → World → Prop} (hgd : o.guard = none) (s x : Operand)
    (ho : o.op = .call { callee := .builtin .append, args := #[s, x], argTypes := #[t, t] }) {base : Nat} {v vx : Value} {xs ms : List Value} (hs : a.eval s = v) (hx : a.eval x = vx)
    (hown : RowV w e base v xs) (hbase : base ≤ w.heap.size) (hrow : SrcV w vx ms) (h1 : ∀ u ∈ ms, u.oneCell' = true) (h63 : xs.length + ms.length ≤ 1000000)
    (h : ∀ v' w', RowV w' e base v' (xs ++ ms) → Fr v.ownBlock.toList w w' → Near w v v' → wpListIn F m P ops Q rest (a.put o.dst v') w') : wpListIn F m P ops Q (o :: rest) a w := by
  refine wpListIn_plain hgd fun K hK => ?_
  obtain ⟨v', w', hrun, r1, r2, r3⟩ := run_append_v hS hby w hown hbase hrow h1 h63 o.type
  unfold Oper.wpIn
  refine ⟨?_, ?_⟩
  · simp [Oper.about, ho, resolve, Target.leads, Sem.run_pure]
  · rw [Oper.semAt_plain F _ _ (by rw [ho]; intro c hc'; cases hc')]
    simp [execOp, ho, resolve, invoke, builtin, hs, hx, hrun, Result.andThen]
    exact hK _ _ (h v' w' r1 r2 r3)

/-- A byte of a row is written. -/
theorem rowB_set {w : World} {b n c g : Nat} {L : List UInt8} (h : RowB w b (.slice (some ⟨g, 0, none⟩) n c) L) (k : Nat) (hk : k < L.length) (z : Int) (hz0 : 0 ≤ z) (hz : z < 256) : ∃ L', L'.length = L.length ∧ RowB (w.setCell ⟨g, k, none⟩ (.int .u8 z)) b (.slice (some ⟨g, 0, none⟩) n c) L' := by
  refine ⟨L.set k (UInt8.ofNat z.toNat), by simp, ?_⟩
  have he : Value.int .u8 z = encB (UInt8.ofNat z.toNat) := by
    unfold encB
    congr 1
    simp
    omega
  rcases h.2 with ⟨hv, _⟩ | ⟨g', cap, cur, hv, hb, hh, h1, h2, h3, h4⟩
  · cases hv
  · simp only [Value.slice.injEq, Option.some.injEq, Addr.mk.injEq, and_true] at hv
    obtain ⟨rfl, rfl, rfl⟩ := hv
    rw [List.length_map] at h1 h4 ⊢
    refine ⟨by simp, .inr ⟨g, c, cur.setIfInBounds k (.int .u8 z), by simp, hb, cells_set hh k _, by simpa using h1, h2, by simpa using h3, ?_⟩⟩
    rw [Array.toList_setIfInBounds, List.length_map, List.length_set, List.take_set, h4, List.map_set, he]
theorem RowB.at {w : World} {b n c : Nat} {a : Option Addr} {L : List UInt8} (h : RowB w b (.slice a n c) L) (k : Nat) (hk : k < L.length) : ∃ g, a = some ⟨g, 0, none⟩ ∧ g < w.heap.size ∧ w.cell? ⟨g, k, none⟩ = some (.int .u8 ((L[k].toNat : Nat) : Int)) ∧ w.frozen? ⟨g, k, none⟩ = false := by
  rcases h.2 with ⟨hv, hn⟩ | ⟨g, cap, cur, hv, hb, hh, _⟩
  · rw [List.length_map] at hn; omega
  · simp only [Value.slice.injEq] at hv
    obtain ⟨rfl, rfl, rfl⟩ := hv
    have := row_cells h k (encB L[k]) (by simp [hk])
    rw [Go.WideShapes.add_plain, Nat.zero_add] at this
    exact ⟨g, rfl, lt_of_block hh, this, cells_free hh _⟩
theorem keepsFrom_fr {F : List Nat} {B : Nat} {W W' : World} (h : Fr F W W') (hc : ∀ x ∈ F, ∃ o : Obj, W.heap[x]? = some o ∧ o.isCells = true) : KeepsFrom B W W' := by
  refine ⟨h.size, fun k o _ hk ho => ?_⟩
  by_cases hm : k ∈ F
  · obtain ⟨o', h1, h2⟩ := hc k hm
    rw [hk] at h1
    simp only [Option.some.injEq] at h1
    subst h1
    rw [ho] at h2
    cases h2
  · exact h.same hk hm
theorem row_cells_obj {w : World} {e : TypeId} {b : Nat} {v : Value} {xs : List Value} (h : RowV w e b v xs) : ∀ g, v.ownBlock = some g → ∃ o : Obj, w.heap[g]? = some o ∧ o.isCells = true := by
  intro g hg
  rcases h.2 with ⟨rfl, _⟩ | ⟨g', cap, cur, rfl, _, hh, _⟩
  · simp [Value.ownBlock] at hg
  · simp [Value.ownBlock] at hg
    subst hg
    exact ⟨_, hh, rfl⟩
/-- What the body of a function that ranges over a function must achieve: it does not panic. -/
def postM (P : Program) (fn : Func) (R : Ending → World → Prop) : Exit → Act → World → Prop
  | .normal, a, w | .ret, a, w => LeavesInM Fence.wide 6 P fn a.tmps R a.defers .returning w
  | _, _, _ => False
theorem postM_le {P : Program} {fn : Func} {R : Ending → World → Prop} : ∀ e a w, postM P fn R e a w → bodyPostM Fence.wide 6 P fn R e a w
  | .normal, _, _, h => h
  | .ret, _, _, h => h
  | .panic _, _, _, h => h.elim
  | .outgrown, _, _, h => h.elim
  | .exit _, _, _, h => h.elim
  | .goto _, _, _, h => h.elim
theorem calls_marks {P : Program} {f : FuncId} {fn : Func} {c : Code} {args : Array Value} {w : World} {R : Ending → World → Prop} (hf : P.funcs[f]? = some fn) (hb : fn.body = some c)
    (h : c.wp P (postM P fn R) { tmps := args ++ Array.replicate (fn.ntmps - args.size) undef, defers := [] } w) : Calls P f args w R :=
  (callsIn_wide (n := 6)).1 (callsIn_of_wp_marks hf hb trivial (wpIn_wide.2 (wp_mono h postM_le)) rfl)
/-- The parts that have come are in the law's own box b. -/
structure BoxS (w : World) (b base : Nat) (Ps : Parts) : Prop where
  ex : ∃ v, w.heap[b]? = some (.cells #[v] 34 (0, 0)) ∧ RowS w base v Ps

set_option maxRecDepth 100000 in
set_option maxHeartbeats 3200000 in
theorem lawParts_any {w : World} {b : Nat} {v : Value} {Ps : Parts} (R : RopeAt w b v Ps) :
    Calls Try.prog 12 #[v] w fun e w' => ∃ u, e = .returned (.tuple #[rf u, .bool true]) ∧ RowS w' w.heap.size u Ps ∧ Below w.heap.size w w' := by
  obtain ⟨x1, x2, x3, x4, x5, x6, hv⟩ := R.shape
  subst hv
  have HR := Lib.hid R
  clear R
  have hsn := seq_nil
  refine calls_marks Try.func12 rfl ?_
  simp only [Try.ntmps12, List.size_toArray, List.length_cons, List.length_nil, Nat.reduceAdd, Nat.reduceSub, Array.replicate_succ, Array.replicate_zero, List.push_toArray, List.append_toArray, List.nil_append, List.cons_append]
  go_wp2_with (go_at_call 15; fail)
  obtain ⟨W, hW⟩ : ∃ W, W = ((w.alloc (.cells #[.slice x1 x2 x3, .slice x4 x5 x6] 29)).alloc (.cells #[.slice none 0 0] 34)).alloc (.cells #[.slice none 0 0] 34) := ⟨_, rfl⟩
  have HWS : Hid (W.heap.size = w.heap.size + 3) := Lib.hid (by rw [hW]; simp)
  have HWB : Hid (Below w.heap.size w W) := Lib.hid (by rw [hW]; exact below3 _ _ _ _)
  have HW0 : Hid (W.heap[w.heap.size]? = some (.cells #[.slice x1 x2 x3, .slice x4 x5 x6] 29 (0, 0))) := Lib.hid (by
    rw [hW]; exact ((below_alloc _ _).block _ (by simp; omega)).trans (((below_alloc _ _).block _ (by simp)).trans (heap_alloc_new w _)))
  have HW1 : Hid (W.heap[w.heap.size + 1]? = some (.cells #[.slice none 0 0] 34 (0, 0))) := Lib.hid (by
    rw [hW]; refine ((below_alloc _ _).block _ (by simp)).trans ?_; have := heap_alloc_new (w.alloc (.cells #[.slice x1 x2 x3, .slice x4 x5 x6] 29)) (.cells #[.slice none 0 0] 34); simpa using this)
  have HW2 : Hid (W.heap[w.heap.size + 1 + 1]? = some (.cells #[.slice none 0 0] 34 (0, 0))) := Lib.hid (by
    rw [hW]; have := heap_alloc_new ((w.alloc (.cells #[.slice x1 x2 x3, .slice x4 x5 x6] 29)).alloc (.cells #[.slice none 0 0] 34)) (.cells #[.slice none 0 0] 34); simpa using this)
  rw [← hW]
  clear hW
  have HRW := Lib.hid (HR.out.grown HWB.out)
  refine (parts_any HRW.out [w.heap.size + 1 + 1] (fun x hx => by have := HWS.out; simp at hx; omega) ?_).mono ?_
  · exact HR.out.not_in _ (fun x hx => by simp at hx; omega)
  rintro e w1 ⟨B, rfl, hS1, hb1⟩
  have HS1 := Lib.hid hS1
  have HB1 := Lib.hid hb1
  have hw1 : w.heap.size + 3 ≤ w1.heap.size := by have := hb1.size; have := HWS.out; omega
  have HC0 := Lib.hid ((hb1.block w.heap.size (by have := HWS.out; omega)).trans HW0.out)
  have HC1 := Lib.hid ((hb1.block (w.heap.size + 1) (by have := HWS.out; omega)).trans HW1.out)
  have HC2 := Lib.hid ((hb1.block (w.heap.size + 1 + 1) (by have := HWS.out; omega)).trans HW2.out)
  have HBW := Lib.hid (HWB.out.trans (hb1.mono HWB.out.size))
  clear hS1 hb1
  unfold seqV
  go_wp2_with fail
  refine (wpIn_wide (n := 6)).1 ?_
  refine range_parts (n := 6) (B := B) (Fs := [w.heap.size + 1 + 1]) (Ps := Ps) (by omega) rfl HS1.out rfl
    (fun k W' => Below (w.heap.size + 2) w1 W' ∧ ∃ va vn vc, W'.heap[w.heap.size + 1 + 1]? = some (.cells #[.slice va vn vc] 34 (0, 0)) ∧ RowS W' w1.heap.size (.slice va vn vc) (Ps.take k))
    (fun _ _ _ => False) ?hI ?hIx ?h0 ?round ?done ?stop
  case hI =>
    rintro k A A' row ⟨hb, va, vn, vc, h1, h2⟩ hg hr
    refine ⟨hb.grown hg (by have := hb.size; omega) (fun r e => by have := (hr r e).1; omega), va, vn, vc, (hg.block _ (lt_of_block h1) (fun e => by have := (hr _ e.symm).1; omega)).trans h1, ?_⟩
    refine World.ownsRow.kept h2 hg ?_
    cases hq : (Value.slice va vn vc).ownBlock with
    | none => exact .inl rfl
    | some g =>
      right
      intro e
      obtain ⟨o, ho, hc⟩ := (hr g e.symm).2
      obtain ⟨o', ho', hc'⟩ := row_cells_obj h2 g hq
      rw [ho] at ho'
      simp only [Option.some.injEq] at ho'
      subst ho'
      rw [hc] at hc'
      cases hc'
  case hIx => exact fun _ _ _ _ _ h _ _ => h
  case h0 => exact ⟨Below.refl _ _, none, 0, 0, HC2.out, World.ownsRow_nil _ _ _ _⟩
  case stop => exact fun _ _ _ _ _ _ h _ => h.elim
  case done =>
    rintro D W' hD ⟨hbw, va, vn, vc, hcell, hout⟩ hK
    rw [List.take_length] at hout
    have HK := Lib.hid hK
    have HOUT := Lib.hid hout
    have HCELL := Lib.hid hcell
    have HBw := Lib.hid (HBW.out.trans (hbw.mono (Nat.le_add_right _ 2)))
    have hwl : w.heap.size + 3 ≤ W'.heap.size := by have := hbw.size; omega
    have hD2 : D < W'.heap.size := lt_of_block hK
    have HD := Lib.hid (And.intro hD hD2)
    have c0 := Lib.hid ((hbw.block w.heap.size (by omega)).trans HC0.out)
    have c1 := Lib.hid ((hbw.block (w.heap.size + 1) (by omega)).trans HC1.out)
    have HRW2 := Lib.hid (HR.out.grown HBw.out)
    have ca : W'.cell? ⟨w.heap.size, 0, none⟩ = some (.slice x1 x2 x3) := cells_cell c0.out rfl
    have cb : W'.cell? ⟨w.heap.size, 1, none⟩ = some (.slice x4 x5 x6) := cells_cell c0.out rfl
    obtain ⟨m, hm⟩ : ∃ m, m = Ps.flatten.length := ⟨_, rfl⟩
    have HML := Lib.hid hm
    have hmI : (m : Int) ≤ 65536 := by have := HR.out.size; omega
    clear hout hcell hbw hK hD hD2 hm
    simp only [Exit.inBlock, Exit.then]
    go_at_K
    go_wp2_with (go_at_call 22; fail)
    refine (bytes_any HRW2.out).mono ?_
    rintro e w5 ⟨v5, rfl, ho5, hb5⟩
    have HO5 := Lib.hid ho5
    have HB5 := Lib.hid hb5
    obtain ⟨ba, bc, hvf, hbc1, hbc2⟩ := ho5.form
    rw [← HML.out] at hvf hbc1
    subst hvf
    obtain ⟨S, hS⟩ : ∃ S, S = strB Ps.flatten := ⟨_, rfl⟩
    have HSS := Lib.hid hS
    have hvn : vn = Ps.length := by
      obtain ⟨_, _, hf, _⟩ := (RowV.src HOUT.out).formS
      simp only [Value.slice.injEq] at hf
      exact hf.2.1
    have HSRC := Lib.hid ((RowV.src HOUT.out).grown HB5.out)
    have HRW5 := Lib.hid (HRW2.out.grown HB5.out)
    have hk24 := HR.out.len
    have hs24 := HR.out.size
    have hld : ∀ W'', Below w5.heap.size w5 W'' → W''.cell? ⟨w.heap.size + 1 + 1, 0, none⟩ = some (.slice va vn vc) ∧ W''.cell? ⟨w.heap.size, 0, none⟩ = some (.slice x1 x2 x3) ∧ W''.cell? ⟨w.heap.size, 1, none⟩ = some (.slice x4 x5 x6) ∧ (convert 26 9 (.slice ba m bc)).run Try.prog W'' = .ok (.string S) W'' := fun W'' hb =>
      ⟨cells_cell ((hb.block _ (by have := HB5.out.size; omega)).trans ((HB5.out.block _ (by omega)).trans HCELL.out)) rfl, below_cells hb _ _ (below_cells HB5.out _ _ ca), below_cells hb _ _ (below_cells HB5.out _ _ cb), by rw [HSS.out]; exact row_str (RowV.grown HO5.out hb)⟩
    clear ho5 hb5 hS hvn
    go_wp2_with fail
    refine wp_region_phases (fun W'' => Below w5.heap.size w5 W'') 11 [([0, 1, 2], [3, 4, 5]), ([6, 8], [7, 9, 10])] (by kernel_rfl) (by kernel_rfl) (fun _ _ _ d _ h => by cases d <;> exact h) (Below.refl _ _).drew ?_
    unfold wpPhases
    simp only [List.map_cons, List.map_nil, List.getD_cons_zero, List.getD_cons_succ, List.drop_succ_cons, List.drop_zero]
    refine takes_move (.tmp 8) (.slice ba m bc) rfl rfl rfl ?_
    simp only [Act.put, List.setIfInBounds_toArray, List.set_cons_zero, List.set_cons_succ]
    refine takes_convert (.tmp 38) 26 9 (.slice ba m bc) (.string S) rfl rfl rfl (fun W'' hS => (hld W'' hS).2.2.2) ?_
    simp only [Act.put, List.setIfInBounds_toArray, List.set_cons_zero, List.set_cons_succ]
    refine takes_by (.agg #[.slice va vn vc]) rfl (fun W'' hS => by obtain ⟨h0, h1, h2, h3⟩ := hld W'' hS; go_simp) ?_
    simp only [Act.put, List.setIfInBounds_toArray, List.set_cons_zero, List.set_cons_succ]
    unfold wpTakes
    refine mids_call 19 #[rf (.slice va vn vc)] rfl (by unfold rf; go_simp) (refText_any (HSRC.out.grown (w' := w5.drew) (Below.refl _ _).drew) (by omega) (by omega)) ?_
    rintro e w6 ⟨rfl, hb6⟩
    rw [← HSS.out]
    have HS6 := Lib.hid ((Below.refl w5.heap.size w5).drew.trans (hb6.mono (by simp)))
    refine ⟨_, rfl, HS6.out, ?_⟩
    clear hb6
    simp only [Act.put, List.setIfInBounds_toArray, List.set_cons_zero, List.set_cons_succ]
    refine mids_by (.bool false) rfl (by go_simp) HS6.out ?_
    simp only [Act.put, List.setIfInBounds_toArray, List.set_cons_zero, List.set_cons_succ]
    refine mids_by (.bool false) rfl (by go_simp) HS6.out ?_
    simp only [Act.put, List.setIfInBounds_toArray, List.set_cons_zero, List.set_cons_succ]
    unfold wpMids
    refine ⟨fun W'' => Below w5.heap.size w5 W'', fun _ h => h, HS6.out, ?_⟩
    unfold wpPhases
    simp only [List.map_cons, List.map_nil, List.getD_cons_zero, List.getD_cons_succ, List.drop_succ_cons, List.drop_zero]
    refine takes_by (.agg #[.slice x1 x2 x3, .slice x4 x5 x6]) rfl (fun W'' hS => by obtain ⟨h0, h1, h2, h3⟩ := hld W'' hS; go_simp) ?_
    simp only [Act.put, List.setIfInBounds_toArray, List.set_cons_zero, List.set_cons_succ]
    refine takes_by (.agg #[.slice va vn vc]) rfl (fun W'' hS => by obtain ⟨h0, h1, h2, h3⟩ := hld W'' hS; go_simp) ?_
    simp only [Act.put, List.setIfInBounds_toArray, List.set_cons_zero, List.set_cons_succ]
    unfold wpTakes
    refine mids_call 23 #[.agg #[.slice x1 x2 x3, .slice x4 x5 x6]] rfl (by go_simp) (len_any (HRW5.out.grown HS6.out)) ?_
    rw [← HML.out]
    rintro e w7 ⟨rfl, hb7⟩
    have HS7 := Lib.hid (HS6.out.trans (hb7.mono HS6.out.size))
    refine ⟨_, rfl, HS7.out, ?_⟩
    clear hb7
    simp only [Act.put, List.setIfInBounds_toArray, List.set_cons_zero, List.set_cons_succ]
    refine mids_call 27 #[rf (.slice va vn vc)] rfl (by unfold rf; go_simp) (refLen_any (HSRC.out.grown HS7.out) (by omega) (by omega)) ?_
    rw [← HML.out]
    rintro e w8 ⟨rfl, hb8⟩
    have HS8 := Lib.hid (HS7.out.trans (hb8.mono HS7.out.size))
    refine ⟨_, rfl, HS8.out, ?_⟩
    clear hb8
    simp only [Act.put, List.setIfInBounds_toArray, List.set_cons_zero, List.set_cons_succ]
    refine mids_by (.bool false) rfl (by go_simp) HS8.out ?_
    simp only [Act.put, List.setIfInBounds_toArray, List.set_cons_zero, List.set_cons_succ]
    unfold wpMids
    refine ⟨fun W'' => Below w5.heap.size w5 W'', fun _ h => h, HS8.out, ?_⟩
    unfold wpPhases
    clear HS6 HS7 hld
    go_wp2_with fail
    have HO8 := Lib.hid (RowV.grown HO5.out HS8.out)
    have hw8 : w5.heap.size ≤ w8.heap.size := HS8.out.size
    have hw5 : W'.heap.size ≤ w5.heap.size := HB5.out.size
    go_loopw [53] (fun i wr => ∃ j, j ≤ m ∧ i = .int .i64 (j : Nat) ∧ Hid (∃ L', L'.length = m ∧ RowB wr W'.heap.size (.slice ba m bc) L') ∧ Hid (Fr (Value.slice ba m bc).ownBlock.toList w8 wr)) (fun i _ => m - (intOf i).toNat)
    case atStart => exact ⟨0, Nat.zero_le _, rfl, Lib.hid ⟨_, HML.out.symm, HO8.out⟩, Lib.hid (Fr.refl _ _)⟩
    case round =>
      obtain ⟨j, hjm, rfl, HL, HF⟩ := hrel
      obtain ⟨L', hL1, hL2⟩ := HL.out
      by_cases hjt : j < m
      · obtain ⟨g, hge, hgl', hcx, hfx⟩ := RowB.at hL2 j (by omega)
        subst hge
        have hx2 : ((L'[j].toNat : Nat) : Int) ≤ 255 := by have := L'[j].toNat_lt; omega
        have HXS2 := Lib.hid (fun z (h0 : 0 ≤ z) (h1 : z < 256) => rowB_set hL2 j (by omega) z h0 h1)
        generalize L'[j].toNat = x at *
        have hji : (j : Int) < (m : Int) := by omega
        have hbcI : (m : Int) ≤ (bc : Int) := by omega
        clear hL2 HL
        go_wp2_with fail
        obtain ⟨L2, hL3, hL4⟩ := HXS2.out (((x : Int) + 1) % 256) (by omega) (by omega)
        have hfs : Fr [g] wr (wr.setCell ⟨g, j, none⟩ (.int .u8 (((x : Int) + 1) % 256))) := fr_setCell wr ⟨g, j, none⟩ _
        go_roundw
        case rel => exact ⟨j + 1, by omega, by go_num, Lib.hid ⟨L2, by omega, hL4⟩, Lib.hid (HF.out.trans' hfs)⟩
        case measure => simp [intOf]; omega
      · obtain rfl : j = m := by omega
        have hfb : Below W'.heap.size w8 wr := HF.out.below (fun x hx => (HO8.out.lt x (by simpa using hx)).1) (by omega)
        have HBR := Lib.hid (HB5.out.trans ((HS8.out.mono hw5).trans hfb))
        have hrs : W'.heap.size ≤ wr.heap.size := HBR.out.size
        have ca9 := below_cells HBR.out _ _ ca
        have cb9 := below_cells HBR.out _ _ cb
        have c29 := Lib.hid ((HBR.out.block _ (by omega)).trans HCELL.out)
        have c19 := Lib.hid ((HBR.out.block _ (by omega)).trans c1.out)
        clear HL hL2 hfb
        have HRW9 := Lib.hid (HRW2.out.grown HBR.out)
        have HSR9 := Lib.hid ((RowV.src HOUT.out).grown HBR.out)
        have q0 : wr.cell? ⟨w.heap.size + 1, 0, none⟩ = some (.slice none 0 0) := cells_cell c19.out rfl
        have hld : ∀ W'', Fr [w.heap.size + 1] wr W'' → W''.cell? ⟨w.heap.size + 1 + 1, 0, none⟩ = some (.slice va vn vc) ∧ W''.cell? ⟨w.heap.size, 0, none⟩ = some (.slice x1 x2 x3) ∧ W''.cell? ⟨w.heap.size, 1, none⟩ = some (.slice x4 x5 x6) := fun W'' hb =>
          ⟨cells_cell (hb.same c29.out (by simp)) rfl, hb.cell ca9 (by simp), hb.cell cb9 (by simp)⟩
        go_wp2_with fail
        refine wp_region_phases (fun W'' => Fr [w.heap.size + 1] wr W'') 8 [([0, 1, 4], [2]), ([3], [5]), ([6], [7])] (by kernel_rfl) (by kernel_rfl) (fun _ _ _ d _ h => by cases d <;> exact h) (fr_drewN wr 1 _) ?_
        unfold wpPhases
        simp only [List.map_cons, List.map_nil, List.getD_cons_zero, List.getD_cons_succ, List.drop_succ_cons, List.drop_zero]
        refine takes_by (.agg #[.slice va vn vc]) rfl (fun W'' hS => by obtain ⟨h0, h1, h2⟩ := hld W'' hS; go_simp) ?_
        simp only [Act.put, List.setIfInBounds_toArray, List.set_cons_zero, List.set_cons_succ]
        refine takes_by (.agg #[.slice x1 x2 x3, .slice x4 x5 x6]) rfl (fun W'' hS => by obtain ⟨h0, h1, h2⟩ := hld W'' hS; go_simp) ?_
        simp only [Act.put, List.setIfInBounds_toArray, List.set_cons_zero, List.set_cons_succ]
        refine takes_by (.agg #[.slice va vn vc]) rfl (fun W'' hS => by obtain ⟨h0, h1, h2⟩ := hld W'' hS; go_simp) ?_
        simp only [Act.put, List.setIfInBounds_toArray, List.set_cons_zero, List.set_cons_succ]
        unfold wpTakes
        refine mids_call 22 #[.agg #[.slice x1 x2 x3, .slice x4 x5 x6]] rfl (by go_simp) (bytes_any (HRW9.out.grown (w' := wr.drew) (Below.refl _ _).drew)) ?_
        rintro e wa ⟨va2, rfl, hoa, hba⟩
        have HBA : Hid (Below wr.heap.size wr wa) := Lib.hid ((Below.refl wr.heap.size wr).drew.trans (hba.mono (by simp)))
        have HOA := Lib.hid hoa
        refine ⟨_, rfl, Fr.of_below HBA.out _, ?_⟩
        clear hba hoa
        simp only [Act.put, List.setIfInBounds_toArray, List.set_cons_zero, List.set_cons_succ]
        unfold wpMids
        have hwa : w.heap.size + 3 ≤ wr.heap.size := by omega
        have hcva : ∀ W'', Fr [w.heap.size + 1] wa W'' → (convert 26 9 va2).run Try.prog W'' = .ok (.string S) W'' := fun W'' hb => by
          rw [HSS.out]
          exact row_str (hb.row HOA.out (fun g hg hm => by have := (HOA.out.lt g hg).1; simp at hm this; omega))
        refine ⟨fun W'' => Fr [w.heap.size + 1] wa W'', fun _ h => (Fr.of_below HBA.out _).trans' h, Fr.refl _ _, ?_⟩
        unfold wpPhases
        simp only [List.map_cons, List.map_nil, List.getD_cons_zero, List.getD_cons_succ, List.drop_succ_cons, List.drop_zero]
        refine takes_convert (.tmp 65) 26 9 va2 (.string S) rfl rfl rfl hcva ?_
        simp only [Act.put, List.setIfInBounds_toArray, List.set_cons_zero, List.set_cons_succ]
        unfold wpTakes
        refine mids_call 19 #[rf (.slice va vn vc)] rfl (by unfold rf; go_simp) (refText_any (HSR9.out.grown HBA.out) (by omega) (by have := HR.out.len; have := (RowV.src HOUT.out).formS; omega)) ?_
        rintro e wb ⟨rfl, hbb⟩
        rw [← HSS.out]
        have HBB := Lib.hid (HBA.out.trans (hbb.mono HBA.out.size))
        have HAB := Lib.hid hbb
        refine ⟨_, rfl, Fr.of_below hbb _, ?_⟩
        clear hbb
        simp only [Act.put, List.setIfInBounds_toArray, List.set_cons_zero, List.set_cons_succ]
        unfold wpMids
        have cc9 := Lib.hid ((HBB.out.block _ (by omega)).trans c19.out)
        have qb0 : wb.cell? ⟨w.heap.size + 1, 0, none⟩ = some (.slice none 0 0) := cells_cell cc9.out rfl
        have qbz : wb.frozen? ⟨w.heap.size + 1, 0, none⟩ = false := cells_free cc9.out _
        have qbl : w.heap.size + 1 < wb.heap.size := lt_of_block cc9.out
        refine ⟨fun W'' => Fr [w.heap.size + 1] wa W'', fun _ h => h, Fr.of_below HAB.out _, ?_⟩
        unfold wpPhases
        simp only [List.map_cons, List.map_nil, List.getD_cons_zero, List.getD_cons_succ, List.drop_succ_cons, List.drop_zero]
        refine takes_by (.bool true) rfl (fun W'' _ => by go_simp) ?_
        simp only [Act.put, List.setIfInBounds_toArray, List.set_cons_zero, List.set_cons_succ]
        unfold wpTakes
        refine mids_step rfl (fun K hK => ?_)
        go_simp
        have hfF : Fr [w.heap.size + 1] wa (wb.setCell ⟨w.heap.size + 1, 0, none⟩ (.slice va vn vc)) := (Fr.of_below HAB.out _).trans' (fr_setCell wb ⟨w.heap.size + 1, 0, none⟩ _)
        refine hK _ _ hfF ?_
        clear hK hld hcva
        unfold wpMids
        refine ⟨fun W'' => Fr [w.heap.size + 1] wa W'', fun _ h => h, hfF, ?_⟩
        unfold wpPhases
        go_wp2_with fail
        have hFF : Fr [w.heap.size + 1] W' (wb.setCell ⟨w.heap.size + 1, 0, none⟩ (.slice va vn vc)) := (Fr.of_below (HBR.out.trans (HBB.out.mono (by omega))) _).trans' (fr_setCell wb ⟨w.heap.size + 1, 0, none⟩ _)
        have ht := one_cell_set (y := .slice va vn vc) cc9.out
        generalize wb.setCell ⟨w.heap.size + 1, 0, none⟩ (.slice va vn vc) = WF at *
        have hKF : WF.heap[D]? = some (.deferred (some [])) := hFF.same HK.out (by have := HD.out; simp; omega)
        refine ⟨by simp, .inl ⟨_, _, rfl, run_takeDeferred hKF, ?_⟩⟩
        have hne : w.heap.size + 1 ≠ D := by have := HD.out; omega
        have htF : (WF.putObj D (.deferred none)).heap[w.heap.size + 1]? = some (.cells #[.slice va vn vc] 34 (0, 0)) := (World.putObj_heap_other hne).trans ht
        refine ⟨.tuple #[.agg #[.slice va vn vc], .bool true], by simp [results, Try.results12, go_sem, cells_cell htF (o := 0) rfl], _, rfl, ?_, ?_⟩
        · have hr : RowS WF w1.heap.size (.slice va vn vc) Ps := hFF.row HOUT.out (fun g hg hm => by have := (HOUT.out.lt g hg).1; simp at hm; omega)
          exact RowV.lower (ownsRow_putObj hr _ hKF rfl) (by omega)
        · exact (HBw.out.trans (hFF.below (fun x hx => by simp at hx; omega) HBw.out.size)).trans (belowK_b (w := w) (Nat.le_refl _) WF D _ _ (by have := HD.out; omega) hKF rfl rfl)
  case round =>
    rintro l k v p W' hl hp hrow hlets ⟨hbw, va, vn, vc, hcell, hout⟩
    have hpm : p ∈ Ps := List.mem_of_getElem? hp
    have hpl : 0 < p.length := List.length_pos_iff.2 (HR.out.ne p hpm)
    have hpL : p.length ≤ 65536 := by
      have hkP := (List.getElem?_eq_some_iff.1 hp)
      obtain ⟨hk1, hk2⟩ := hkP
      have := flat_le' Ps k hk1
      have := HR.out.size
      rw [hk2] at *
      omega
    obtain ⟨pa, pc, hpf, hpc, hpm2⟩ := hrow.form
    subst hpf
    obtain ⟨g, rfl, _⟩ := RowB.at hrow 0 hpl
    gi_wp2
    refine ⟨trivial, ?_⟩
    clear hrow hlets hbw hcell hout
    rintro W2 hrow hlets ⟨hbw, va, vn, vc, hcell, hout⟩
    have hkP : k < Ps.length := (List.getElem?_eq_some_iff.1 hp).1
    have hpk : Ps[k] = p := (List.getElem?_eq_some_iff.1 hp).2
    have hvn : vn = k := by
      obtain ⟨_, _, hf, _⟩ := (RowV.src hout).formS
      simp only [Value.slice.injEq] at hf
      rw [hf.2.1, List.length_take]
      omega
    have hk24 := HR.out.len
    have HTK : Hid (Ps.take (k + 1) = Ps.take k ++ [p]) := Lib.hid (by rw [List.take_succ_eq_append_getElem hkP, hpk])
    have HXS : Hid ((Ps.take (k + 1)).map encS = (Ps.take k).map encS ++ [.string (strB p)]) := Lib.hid (by rw [HTK.out, List.map_append]; rfl)
    have HROW := Lib.hid hrow
    have HOUT := Lib.hid hout
    have HCELL := Lib.hid hcell
    have HLETS := Lib.hid hlets
    have HBW2 := Lib.hid hbw
    have hcv := row_str hrow
    obtain ⟨S, hS⟩ : ∃ S, S = strB p := ⟨_, rfl⟩
    rw [← hS] at hcv HXS
    have HSS := Lib.hid hS
    have hgl : g < W2.heap.size := (RowB.at hrow 0 hpl).elim fun g' h => by
      have := h.1
      simp only [Option.some.injEq, Addr.mk.injEq, and_true] at this
      rw [this]; exact h.2.1
    have hgw : w1.heap.size ≤ g := (hrow.lt g rfl).1
    have k2 : W2.cell? ⟨w.heap.size + 1 + 1, 0, none⟩ = some (.slice va vn vc) := cells_cell hcell rfl
    have kz2 : W2.frozen? ⟨w.heap.size + 1 + 1, 0, none⟩ = false := cells_free hcell _
    have kl2 : w.heap.size + 1 + 1 < W2.heap.size := lt_of_block hcell
    have HVN := Lib.hid hvn
    obtain ⟨m, hm⟩ : ∃ m, m = p.length := ⟨_, rfl⟩
    rw [← hm] at hcv hpl hpL hpc HROW ⊢
    have HML := Lib.hid hm
    have hmI : (m : Int) ≤ 65536 := by omega
    have hmc : (m : Int) ≤ (pc : Int) := by omega
    have hba := below_alloc W2 (.cells #[.string S] 9)
    have hrowA := Lib.hid (RowV.grown hout hba)
    clear hrow hout hcell hlets hbw hS hpk hp hkP hm hvn
    gi_wp2_with (gi_at_builtin; refine wpListIn_append_v slcS (by decide) rfl (.tmp 18) (.tmp 21) rfl rfl rfl hrowA.out (by have := HLETS.out.size; simp; omega) (src_one W2 9 (.string S)) (by intro u hu; simp at hu; subst hu; rfl) (by have := HOUT.out.1; rw [List.length_map, List.length_take]; simp; omega) ?_)
    intro v' w3 ho hf hn
    have hoS : RowS w3 w1.heap.size v' (Ps.take (k + 1)) := by
      unfold RowS
      rw [HXS.out]
      first | exact ho | (rw [List.map_take]; exact ho)
    obtain ⟨g1, g2, g3⟩ := out_appended ((hba.block _ kl2).trans HCELL.out) hrowA.out hoS hf (by omega)
    obtain ⟨va', vc', hvf, _, _⟩ := (RowV.src hoS).formS
    generalize hvl : (Ps.take (k + 1)).length = vn' at *
    subst hvf
    have hfr3 : Fr ((w.heap.size + 1 + 1) :: (Value.slice va vn vc).ownBlock.toList) W2 (w3.setCell ⟨w.heap.size + 1 + 1, 0, none⟩ (.slice va' vn' vc')) :=
      ((Fr.of_below hba _).trans' (hf.mono (fun x hx => .inl (List.mem_cons_of_mem _ hx)))).trans' ((fr_setCell w3 ⟨w.heap.size + 1 + 1, 0, none⟩ _).mono (fun x hx => .inl (by simp at hx; subst hx; exact List.mem_cons_self)))
    have G1 := Lib.hid g1
    have G2 := Lib.hid g2
    have G3 := Lib.hid g3
    have HFR3 := Lib.hid hfr3
    have hc3 : w3.cell? ⟨w.heap.size + 1 + 1, 0, none⟩ = some (.slice va vn vc) := cells_cell g1 rfl
    have hz3 : w3.frozen? ⟨w.heap.size + 1 + 1, 0, none⟩ = false := cells_free g1 _
    have hl3 : w.heap.size + 1 + 1 < w3.heap.size := lt_of_block g1
    clear ho hf hn hoS g1 g2 g3 hfr3 hba hcv hvl
    gi_wp2
    generalize hW3 : w3.setCell ⟨w.heap.size + 1 + 1, 0, none⟩ (.slice va' vn' vc') = W3 at G2 G3 HFR3 ⊢
    have hgv : ∀ g', (Value.slice va vn vc).ownBlock = some g' → g' ≠ g := fun g' hg' => row_row_ne HOUT.out HROW.out (by decide) g' g hg' rfl
    have hgn : g ∉ ((w.heap.size + 1 + 1) :: (Value.slice va vn vc).ownBlock.toList) := fun hm => by
      rcases List.mem_cons.1 hm with h | h
      · omega
      · exact hgv g (by simpa using h) rfl
    have HROW3 : Hid (RowB W3 w1.heap.size (.slice (some ⟨g, 0, none⟩) m pc) p) := Lib.hid (HFR3.out.row HROW.out (fun g' hg' => by
      simp only [Value.ownBlock, Option.some.injEq] at hg'
      subst hg'
      exact hgn))
    have HKF3 : Hid (KeepsFrom w1.heap.size W2 W3) := Lib.hid (keepsFrom_fr HFR3.out (fun x hx => by
      rcases List.mem_cons.1 hx with rfl | h
      · exact ⟨_, HCELL.out, rfl⟩
      · exact row_cells_obj HOUT.out x (by simpa using h)))
    have hgl3 : g < W3.heap.size := by have := HFR3.out.size; omega
    clear hW3 hc3 hz3 hl3 k2 kz2 hgv hgn
    gi_loopw [26] (fun i wr => ∃ j, j ≤ m ∧ i = .int .i64 (j : Nat) ∧ Hid (∃ L', L'.length = m ∧ RowB wr w1.heap.size (.slice (some ⟨g, 0, none⟩) m pc) L') ∧ Hid (Fr [g] W3 wr) ∧ Hid (KeepsFrom w1.heap.size W3 wr)) (fun i _ => m - (intOf i).toNat)
    case atStart => exact ⟨0, Nat.zero_le _, rfl, Lib.hid ⟨p, HML.out.symm, HROW3.out⟩, Lib.hid (Fr.refl _ _), Lib.hid (KeepsFrom.refl _ _)⟩
    case round =>
      obtain ⟨j, hjm, rfl, HL, HF, HK⟩ := hrel
      obtain ⟨L', hL1, hL2⟩ := HL.out
      have HL2 := Lib.hid hL2
      by_cases hjt : j < m
      · obtain ⟨g', hge, hgl', hcx, hfx⟩ := RowB.at hL2 j (by omega)
        simp only [Option.some.injEq, Addr.mk.injEq, and_true] at hge
        subst hge
        have hx2 : ((L'[j].toNat : Nat) : Int) ≤ 255 := by have := L'[j].toNat_lt; omega
        have hxs := fun z (h0 : 0 ≤ z) (h1 : z < 256) => rowB_set hL2 j (by omega) z h0 h1
        have HXS2 := Lib.hid hxs
        generalize L'[j].toNat = x at *
        have hji : (j : Int) < (m : Int) := by omega
        clear hxs hL2
        gi_wp2
        obtain ⟨L2, hL3, hL4⟩ := HXS2.out (((x : Int) + 1) % 256) (by omega) (by omega)
        have hfs : Fr [g] wr (wr.setCell ⟨g, j, none⟩ (.int .u8 (((x : Int) + 1) % 256))) := fr_setCell wr ⟨g, j, none⟩ _
        go_roundw
        case rel => exact ⟨j + 1, by omega, by go_num, Lib.hid ⟨L2, by omega, hL4⟩, Lib.hid (HF.out.trans' hfs), Lib.hid (HK.out.trans ((KeepsOthers.setCell wr ⟨g, j, none⟩ _).from _))⟩
        case measure => simp [intOf]; omega
      · obtain rfl : j = m := by omega
        gi_wp2
        have hbb : Below (w.heap.size + 2) w1 W2 := HBW2.out
        have hb23 : Below (w.heap.size + 2) W2 W3 := HFR3.out.below (fun x hx => by
          rcases List.mem_cons.1 hx with rfl | h
          · omega
          · have := (HOUT.out.lt x (by simpa using h)).1; omega) (by omega)
        have hb34 : Below (w.heap.size + 2) W3 wr := HF.out.below (fun x hx => by simp at hx; omega) (by have := HFR3.out.size; omega)
        refine ⟨HKF3.out.trans HK.out, ?_, hbb.trans (hb23.trans hb34), va', vn', vc', ?_, ?_⟩
        · refine ⟨Nat.le_trans HFR3.out.size HF.out.size, fun x hx hn => ?_⟩
          refine (HF.out.block x (by have := HFR3.out.size; have := HLETS.out.size; omega) (by simp; omega)).trans (HFR3.out.block x (by have := HLETS.out.size; omega) (fun hm => ?_))
          rcases List.mem_cons.1 hm with rfl | h
          · exact hn (by simp)
          · have := (HOUT.out.lt x (by simpa using h)).1; omega
        · exact HF.out.same G2.out (by simp; omega)
        · exact HF.out.row G3.out (fun g' hg' hm => by
            simp at hm
            subst hm
            exact row_row_ne G3.out HROW3.out (by decide) _ _ hg' rfl rfl)
end Go.Proofs.Ytkdbkamjaaehfaa
