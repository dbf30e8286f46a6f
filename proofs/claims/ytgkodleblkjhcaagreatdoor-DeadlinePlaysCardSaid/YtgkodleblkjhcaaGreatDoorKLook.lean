/- KLook: JLook, merged. -/
import Derived.Test.YtgkodleblkjhcaaGreatDoorKRef
/- looks: the deadlines against the reference's. -/
namespace Go.Proofs.YtgkodleblkjhcaaGreatDoor
open Go.RowKit Go.Sort
set_option linter.unusedVariables false
set_option linter.unusedSimpArgs false

theorem lap_of {now tt : Int} {f : Nat → Int} {L O : List (Int × Nat)} (R : ROK f L) (h : InsO now tt L O L.length) (ht : tt < never) : IsLap now tt f O :=
  ⟨h.ord, fun x => by rw [h.mem, List.take_length, R.mem]; constructor
                      · rintro ⟨⟨a, b, c⟩, d, e⟩; exact ⟨a, b, by omega, by omega⟩
                      · rintro ⟨a, b, c, d⟩; exact ⟨⟨a, b, by omega⟩, by omega, by omega⟩⟩
theorem ROK.ndL {f : Nat → Int} {L : List (Int × Nat)} (R : ROK f L) : L.Nodup := (List.pairwise_map.1 R.nd).imp (fun hne e => hne (by rw [e]))
theorem run_append_xl (w : World) {base b2 n : Nat} {v vx : Value} {xs : List Value} {M : List (Int × Nat)} (hown : w.ownsRow base 60 3 v n xs) (hbase : base ≤ w.heap.size) (hx : RowL w b2 vx M) (h63 : n + M.length ≤ 1000000) (ty : TypeId) :
    ∃ v' w', (Builtin.append_ #[30, 30] ty #[v, vx]).run Tryz.prog w = .ok v' w' ∧ w'.ownsRow base 60 3 v' (n + M.length) (xs ++ M.flatMap encL) ∧ Fr v.ownBlock.toList w w' := by
  obtain ⟨i0, hi0, hz0, hz1, hz2⟩ := info_parts infoLapse
  rcases hx.2 with ⟨rfl, hm⟩ | ⟨g, cx, cur, rfl, _, hg, hn, hc, hcs, htake⟩
  · have hM : M = [] := List.eq_nil_of_length_eq_zero hm
    subst hM
    exact ⟨v, w, run_append_owned_none w base 30 ty 60 i0 3 Tryz.underlying30 hi0 v _ _ hown, by simpa using hown, Fr.refl _ _⟩
  · have hb : (n + M.length) * 24 ≤ 140737488355328 := by omega
    obtain ⟨v', w', hrun, ho, hg', _, hat⟩ := run_append_own_at (P := Tryz.prog) w base 30 ty 60 i0 _ 3 24 Tryz.underlying30 hi0 hz0 hz1 hz2 rfl (by decide) v _ _ hown ⟨g, 0, none⟩ M.length cx (M.flatMap encL) hx.1
      (fun j u hu => by
        rw [Go.WideShapes.add_plain]
        refine cells_cell hg ?_
        simp only [Nat.zero_add]
        rw [← htake] at hu
        rw [List.getElem?_take] at hu
        split at hu
        · simpa using hu
        · simp at hu) (flat_oneL M) (by unfold maxLen; omega) hb hbase
    exact ⟨v', w', hrun, ho, fr_grown hg'⟩
theorem wpList_append_xl {w : World} {ops : Array Oper} {rest : List Oper} {o : Oper} {a : Act} {Q : Exit → Act → World → Prop} (hgd : o.guard = none) (s x : Operand)
    (ho : o.op = .call { callee := .builtin .append, args := #[s, x], argTypes := #[30, 30] }) {base b2 n : Nat} {v vx : Value} {xs : List Value} {M : List (Int × Nat)} (hs : a.eval s = v) (hx : a.eval x = vx)
    (hown : w.ownsRow base 60 3 v n xs) (hbase : base ≤ w.heap.size) (hrow : RowL w b2 vx M) (h63 : n + M.length ≤ 1000000)
    (h : ∀ v' w', w'.ownsRow base 60 3 v' (n + M.length) (xs ++ M.flatMap encL) → Fr v.ownBlock.toList w w' → wpList Tryz.prog ops Q rest (a.put o.dst v') w') : wpList Tryz.prog ops Q (o :: rest) a w := by
  obtain ⟨v', w', hrun, h1, h2⟩ := run_append_xl w hown hbase hrow h63 o.type
  refine wpList_plain hgd fun K hK => ?_
  unfold Oper.wp
  simp [execOp, ho, resolve, invoke, builtin, hs, hx, hrun, Result.andThen]
  exact hK _ _ (h v' w' h1 h2)
theorem look_ent (x y : Int) (L : List (Int × Nat)) (k : Nat) (hk : k < 1 + L.length) : ∃ ex ey et : Int, ([Value.int .i64 x, .int .i64 y, .int .u64 0] ++ L.flatMap encL)[k * 3]? = some (.int .i64 ex) ∧ ([Value.int .i64 x, .int .i64 y, .int .u64 0] ++ L.flatMap encL)[k * 3 + 1]? = some (.int .i64 ey) ∧ ([Value.int .i64 x, .int .i64 y, .int .u64 0] ++ L.flatMap encL)[k * 3 + 2]? = some (.int .u64 et) := by
  match k with
  | 0 => exact ⟨x, y, 0, rfl, rfl, rfl⟩
  | j + 1 =>
    obtain ⟨e, he⟩ : ∃ e, L[j]? = some e := ⟨_, List.getElem?_eq_getElem (by omega)⟩
    refine ⟨((e.2 / 2 : Nat) : Int), ((e.2 % 2 : Nat) : Int), e.1, ?_, ?_, ?_⟩
    · rw [List.getElem?_append_right (by simp; omega), show (j + 1) * 3 - [Value.int .i64 x, .int .i64 y, .int .u64 0].length = j * 3 + 0 by simp; omega]
      exact (flat_get encL3 L j e he 0 (by omega)).trans rfl
    · rw [List.getElem?_append_right (by simp; omega), show (j + 1) * 3 + 1 - [Value.int .i64 x, .int .i64 y, .int .u64 0].length = j * 3 + 1 by simp; omega]
      exact (flat_get encL3 L j e he 1 (by omega)).trans rfl
    · rw [List.getElem?_append_right (by simp; omega), show (j + 1) * 3 + 2 - [Value.int .i64 x, .int .i64 y, .int .u64 0].length = j * 3 + 2 by simp; omega]
      exact (flat_get encL3 L j e he 2 (by omega)).trans rfl

section
variable {w0 w : World} {G : Nat → Prop} {a P base : Nat} {s : Value} {L : List (Int × Nat)} {f : Nat → Int} {now : Int}
set_option maxRecDepth 100000 in
set_option maxHeartbeats 6400000 in
theorem looks_any (J : JAt w0 G w a now f P) (h : RowL w base s L) (R : ROK f L) (x y : Int) :
    Calls Tryz.prog 9 #[pt a, rdv now s, .agg #[.int .i64 x, .int .i64 y]] w fun e w' => e = .returned (.bool true) ∧ Below w.heap.size w w' := by
  obtain ⟨va, vc, rfl⟩ := slice_form h
  unfold rdv
  obtain ⟨W, hW⟩ : ∃ W, (w.alloc (.cells #[.int .u64 now, .slice va L.length vc] 32)).alloc (.cells #[.int .i64 x, .int .i64 y] 37) = W := ⟨_, rfl⟩
  have hbW : Below w.heap.size w W := by rw [← hW]; exact ((Below.refl _ _).alloc (Nat.le_refl _) _).alloc (by simp) _
  have hX : W.heap[w.heap.size]? = some (.cells #[.int .u64 now, .slice va L.length vc] 32 (0, 0)) := by rw [← hW]; exact (((Below.refl _ _).alloc (Nat.le_refl _) _ : Below (w.alloc _).heap.size (w.alloc _) _).block _ (by simp)).trans (block_new _ _ _ rfl)
  have hY : W.heap[w.heap.size + 1]? = some (.cells #[.int .i64 x, .int .i64 y] 37 (0, 0)) := by rw [← hW]; exact block_new _ _ _ (by simp)
  obtain ⟨wd, hwd⟩ : ∃ wd, W.drew = wd := ⟨_, rfl⟩
  have hbd : Below W.heap.size W wd := by rw [← hwd]; exact (Below.refl _ _).drew
  have mixed : Tryz.prog.follows .mixedOrders = true := by kernel_rfl
  have hle := J.le
  have HJ := Lib.hid (J.grown (hbW.trans (hbd.mono hbW.size)))
  have HB := Lib.hid (hbW.trans (hbd.mono hbW.size))
  have HR := Lib.hid ((h.below hbW).below hbd)
  have HK := Lib.hid R
  have HX := Lib.hid ((hbd.block _ (lt_of_block hX)).trans hX)
  have HY := Lib.hid ((hbd.block _ (lt_of_block hY)).trans hY)
  have HLE := Lib.hid hle
  have HW := Lib.hid hW
  have HWD := Lib.hid hwd
  have HL := Lib.hid R.len
  have HN := Lib.hid J.nn
  obtain ⟨A, hA⟩ : ∃ A, w.heap.size = A := ⟨_, rfl⟩
  obtain ⟨B, hB⟩ : ∃ B, w.heap.size + 1 = B := ⟨_, rfl⟩
  have HAB := Lib.hid (And.intro hA hB)
  rw [hA] at HX
  rw [hB] at HY
  clear J h R hW hbW hX hY hbd hwd hle hA hB
  unfold pt
  go_enter Tryz.func9, Tryz.ntmps9
  go_upto_region 1 with (fail)
  rw [HW.out, HAB.out.2, HAB.out.1]
  have hS : Hid (wd.cell? ⟨A, 0, none⟩ = some (.int .u64 now) ∧ wd.cell? ⟨A, 1, none⟩ = some (.slice va L.length vc)) := Lib.hid ⟨cells_cell (o := 0) HX.out rfl, cells_cell (o := 1) HX.out rfl⟩
  refine wp_region_mix (fun W' => W'.cell? ⟨A, 0, none⟩ = some (.int .u64 now) ∧ W'.cell? ⟨A, 1, none⟩ = some (.slice va L.length vc)) 11 [(true, 0), (true, 2), (true, 3), (false, 1), (true, 4), (true, 5), (true, 6), (true, 8), (false, 7), (false, 9), (true, 10)] mixed (by kernel_rfl) (fun _ _ _ d _ h => by cases d <;> exact h) ?_
  rw [HWD.out]
  clear HW HWD
  simp only [List.map_cons, List.map_nil, List.getD_cons_zero, List.getD_cons_succ, List.drop_succ_cons, List.drop_zero]
  have hnow := Lib.hid (jNow_yes HJ.out)
  have hnx := Lib.hid (jNext_yes HJ.out)
  unfold pt at hnow hnx
  refine mix_move (.tmp 0) (.pointer (some ⟨a, 0, none⟩)) rfl hS.out rfl rfl ?_
  simp only [Act.put, List.setIfInBounds_toArray, List.set_cons_zero, List.set_cons_succ]
  refine mix_take (.pointer (some ⟨A, 0, none⟩)) hS.out rfl (fun W' hS => by go_simp) ?_
  simp only [Act.put, List.setIfInBounds_toArray, List.set_cons_zero, List.set_cons_succ]
  refine mix_take (.int .u64 now) hS.out rfl (fun W' hS => by obtain ⟨l0, l1⟩ := hS; go_simp) ?_
  simp only [Act.put, List.setIfInBounds_toArray, List.set_cons_zero, List.set_cons_succ]
  refine mix_step rfl (fun K hK => ?_)
  go_simp
  go_wp2_with (go_at_call 27; fail)
  refine hnow.out.mono ?_
  rintro e w3 ⟨rfl, rfl⟩
  refine hK _ _ hS.out ?_
  clear hK K hnow
  refine mix_take (.bool false) hS.out rfl (fun W' hS => by go_simp) ?_
  simp only [Act.put, List.setIfInBounds_toArray, List.set_cons_zero, List.set_cons_succ]
  refine mix_move (.tmp 21) (.bool false) rfl hS.out rfl rfl ?_
  simp only [Act.put, List.setIfInBounds_toArray, List.set_cons_zero, List.set_cons_succ]
  refine mix_move (.tmp 0) (.pointer (some ⟨a, 0, none⟩)) rfl hS.out rfl rfl ?_
  simp only [Act.put, List.setIfInBounds_toArray, List.set_cons_zero, List.set_cons_succ]
  refine mix_take (.agg #[.int .u64 now, .slice va L.length vc]) hS.out rfl (fun W' hS => by obtain ⟨l0, l1⟩ := hS; go_simp) ?_
  simp only [Act.put, List.setIfInBounds_toArray, List.set_cons_zero, List.set_cons_succ]
  refine mix_step rfl (fun K hK => ?_)
  go_simp
  go_wp2_with (go_at_call 18; fail)
  refine hnx.out.mono ?_
  rintro e w4 ⟨vn, rfl, hin, hg4⟩
  have hvn := hin.unique (next_of (now := now) HK.out HLE.out)
  subst hvn
  have HS4 : Hid (w4.cell? ⟨A, 0, none⟩ = some (.int .u64 now) ∧ w4.cell? ⟨A, 1, none⟩ = some (.slice va L.length vc)) := Lib.hid (by
    have hx := (hg4.below.block _ (lt_of_block HX.out)).trans HX.out
    exact ⟨cells_cell (o := 0) hx rfl, cells_cell (o := 1) hx rfl⟩)
  have hrn := Lib.hid (rnext_any (HR.out.below hg4.below) HL.out HN.out)
  have HG4 := Lib.hid hg4.below
  refine hK _ _ HS4.out ?_
  clear hK K hnx hS hin hg4
  unfold rdv at hrn
  refine mix_step rfl (fun K hK => ?_)
  go_simp
  go_wp2_with (go_at_call 24; fail)
  refine hrn.out.mono ?_
  rintro e w5 ⟨rfl, hb5⟩
  have HG5 := Lib.hid (HG4.out.trans (hb5.mono HG4.out.size))
  have HX5 := Lib.hid ((HG5.out.block _ (lt_of_block HX.out)).trans HX.out)
  refine hK _ _ ⟨cells_cell (o := 0) HX5.out rfl, cells_cell (o := 1) HX5.out rfl⟩ ?_
  clear hK K hrn hb5 HS4 HG4
  refine mix_take (.bool false) ⟨cells_cell (o := 0) HX5.out rfl, cells_cell (o := 1) HX5.out rfl⟩ rfl (fun W' hS => by go_simp) ?_
  simp only [Act.put, List.setIfInBounds_toArray, List.set_cons_zero, List.set_cons_succ]
  refine mix_nil ?_
  have HR5 := Lib.hid (HR.out.below HG5.out)
  have HJ5 := Lib.hid (HJ.out.grown HG5.out)
  have HY5 := Lib.hid ((HG5.out.block _ (lt_of_block HY.out)).trans HY.out)
  have HB5 := Lib.hid (HB.out.trans (HG5.out.mono HB.out.size))
  clear HJ HR HX HY HB HG5
  have y0 := cells_cell (o := 0) HY5.out rfl
  have y1 := cells_cell (o := 1) HY5.out rfl
  have x1 := cells_cell (o := 1) HX5.out rfl
  have hb8 : Below w5.heap.size w5 (w5.alloc (.cells #[.int .i64 x, .int .i64 y, .int .u64 0] 60)) := (Below.refl _ _).alloc (Nat.le_refl _) _
  have hown : (w5.alloc (.cells #[.int .i64 x, .int .i64 y, .int .u64 0] 60)).ownsRow w5.heap.size 60 3 (.slice (some ⟨w5.heap.size, 0, none⟩) 1 1) 1 [.int .i64 x, .int .i64 y, .int .u64 0] := World.ownsRow_lit w5 #[.int .i64 x, .int .i64 y, .int .u64 0] 1 (Nat.le_refl _) (by unfold maxLen; omega) rfl
  have x1' := cells_cell (o := 1) ((hb8.block _ (lt_of_block HX5.out)).trans HX5.out) rfl
  have HO8 := Lib.hid hown
  have HB8 := Lib.hid hb8
  have HR8 := Lib.hid (HR5.out.below hb8)
  clear hb8 hown
  go_wp2_with (at_builtin; refine wpList_append_xl rfl (.tmp 31) (.tmp 33) rfl rfl rfl HO8.out ?_ HR8.out ?_ ?_)
  · simp
  · have := HL.out; omega
  intro v' w6 h6 hf6
  obtain ⟨g6, c6, hv6, hc6, hm6⟩ := row_some h6 (by omega)
  obtain ⟨n, hn⟩ : ∃ n, 1 + L.length = n := ⟨_, rfl⟩
  rw [hn] at h6 hv6 hc6
  subst hv6
  have hb6 : Below w5.heap.size w5 w6 := HB8.out.trans (hf6.below (fun g hg => (HO8.out.lt g (by simpa using hg)).1) HB8.out.size)
  have HJ6 := Lib.hid (HJ5.out.grown hb6)
  have HR6 := Lib.hid (HR5.out.below hb6)
  have HX6 := Lib.hid ((hb6.block _ (lt_of_block HX5.out)).trans HX5.out)
  have HB6 := Lib.hid (HB5.out.trans (hb6.mono HB5.out.size))
  have H6 := Lib.hid h6
  have HNN := Lib.hid hn
  have hni : (n : Int) ≤ 257 := by have := HL.out; omega
  clear h6 hf6 hb6 hn hc6 hm6 HO8 HB8 HR8 HJ5 HR5 HX5 HB5 HY5 y0 y1 x1 x1'
  go_wp2_with fail
  go_loopw [36] (fun i wr => ∃ k : Nat, k ≤ n ∧ i = .int .i64 k ∧ Below w6.heap.size w6 wr) (fun i _ => n - (intOf i).toNat)
  case atStart => exact ⟨0, Nat.zero_le _, rfl, Below.refl _ _⟩
  case round =>
    obtain ⟨k, hk, rfl, hbr⟩ := hrel
    by_cases hlt : k < n
    · obtain ⟨ex, ey, et, e0, e1, e2⟩ := look_ent x y L k (by have := HNN.out; omega)
      have hrc : ∀ j u, ([Value.int .i64 x, .int .i64 y, .int .u64 0] ++ L.flatMap encL)[j]? = some u → wr.cell? ⟨g6, j, none⟩ = some u := fun j u hu => by
        have := row_cells H6.out j u hu
        rw [Go.WideShapes.add_plain, Nat.zero_add] at this
        exact (hbr.cell (p := ⟨g6, j, none⟩) (H6.out.lt g6 rfl).2).trans this
      have a0 := hrc _ _ e0
      have a1 := hrc _ _ e1
      have a2 := hrc _ _ e2
      obtain ⟨D, hD⟩ : ∃ D, wr.heap.size = D := ⟨_, rfl⟩
      obtain ⟨w7, hw7⟩ : ∃ w7, wr.alloc (.cells #[.int .i64 ex, .int .i64 ey, .int .u64 et] 60) = w7 := ⟨_, rfl⟩
      have hb7 : Below wr.heap.size wr w7 := by rw [← hw7]; exact (Below.refl _ _).alloc (Nat.le_refl _) _
      have HD7 : Hid (w7.heap[D]? = some (.cells #[.int .i64 ex, .int .i64 ey, .int .u64 et] 60 (0, 0))) := Lib.hid (by rw [← hw7, ← hD]; exact block_new _ _ _ rfl)
      have HB7 := Lib.hid (hbr.trans (hb7.mono hbr.size))
      have HW7 := Lib.hid (And.intro hw7 hD)
      have hki : (k : Int) < (n : Int) := by omega
      have HLT := Lib.hid hlt
      clear hrc e0 e1 e2 hb7 hw7 hD hbr hlt hk
      go_upto_region 6 with (fail)
      rw [HW7.out.1, HW7.out.2]
      clear HW7 a0 a1 a2
      cases hok : okS ex ey with
      | true =>
        obtain ⟨q, r, hq, hr, rfl, rfl⟩ := okS_yes hok
        have HBk := HB7
        have HDk := HD7
        have hc := Lib.hid (jGet_yes (HJ6.out.grown HBk.out) hq hr)
        unfold pt plc at hc
        have z0 := cells_cell (o := 0) HDk.out rfl
        have z1 := cells_cell (o := 1) HDk.out rfl
        have xx := (HBk.out.block _ (lt_of_block HX6.out)).trans HX6.out
        have x0 := cells_cell (o := 0) xx rfl
        have x1 := cells_cell (o := 1) xx rfl
        go_wp2_with (go_at_call 21; fail)
        refine hc.out.mono ?_
        rintro e w10 ⟨rfl, hg⟩
        have HDn := Lib.hid ((hg.below.block _ (lt_of_block HDk.out)).trans HDk.out)
        have HBn := Lib.hid (HBk.out.trans (hg.below.mono HBk.out.size))
        clear hc z0 z1 xx x0 x1 hg HBk HDk
        have HBk := HBn
        have HDk := HDn
        clear HBn HDn
        have hc := Lib.hid (rget_yes (now := now) (HR6.out.below HBk.out) HK.out hq hr)
        unfold rdv at hc
        have z0 := cells_cell (o := 0) HDk.out rfl
        have z1 := cells_cell (o := 1) HDk.out rfl
        have xx := (HBk.out.block _ (lt_of_block HX6.out)).trans HX6.out
        have x0 := cells_cell (o := 0) xx rfl
        have x1 := cells_cell (o := 1) xx rfl
        go_wp2_with (go_at_call 28; fail)
        refine hc.out.mono ?_
        rintro e w11 ⟨rfl, hg⟩
        have HDn := Lib.hid ((hg.below.block _ (lt_of_block HDk.out)).trans HDk.out)
        have HBn := Lib.hid (HBk.out.trans (hg.below.mono HBk.out.size))
        clear hc z0 z1 xx x0 x1 hg HBk HDk
        have HBk := HBn
        have HDk := HDn
        clear HBn HDn
        have hc := Lib.hid (jPassed_yes (HJ6.out.grown HBk.out) hq hr)
        unfold pt plc at hc
        have z0 := cells_cell (o := 0) HDk.out rfl
        have z1 := cells_cell (o := 1) HDk.out rfl
        have xx := (HBk.out.block _ (lt_of_block HX6.out)).trans HX6.out
        have x0 := cells_cell (o := 0) xx rfl
        have x1 := cells_cell (o := 1) xx rfl
        go_wp2_with (go_at_call 17; fail)
        refine hc.out.mono ?_
        rintro e w12 ⟨rfl, hg⟩
        have HDn := Lib.hid ((hg.below.block _ (lt_of_block HDk.out)).trans HDk.out)
        have HBn := Lib.hid (HBk.out.trans (hg.below.mono HBk.out.size))
        clear hc z0 z1 xx x0 x1 hg HBk HDk
        have HBk := HBn
        have HDk := HDn
        clear HBn HDn
        have hc := Lib.hid (rpassed_yes (HR6.out.below HBk.out) HK.out HN.out hq hr)
        unfold rdv at hc
        have z0 := cells_cell (o := 0) HDk.out rfl
        have z1 := cells_cell (o := 1) HDk.out rfl
        have xx := (HBk.out.block _ (lt_of_block HX6.out)).trans HX6.out
        have x0 := cells_cell (o := 0) xx rfl
        have x1 := cells_cell (o := 1) xx rfl
        go_wp2_with (go_at_call 29; fail)
        refine hc.out.mono ?_
        rintro e w13 ⟨rfl, hg⟩
        have HDn := Lib.hid ((hg.below.block _ (lt_of_block HDk.out)).trans HDk.out)
        have HBn := Lib.hid (HBk.out.trans (hg.below.mono HBk.out.size))
        clear hc z0 z1 xx x0 x1 hg HBk HDk
        have HBk := HBn
        have HDk := HDn
        clear HBn HDn
        go_wp2_with fail
        go_roundw
        case rel => exact ⟨k + 1, by have := HLT.out; omega, by go_num, HBk.out⟩
        case measure => simp [intOf]; have := HLT.out; omega
      | false =>
        have HBk := HB7
        have HDk := HD7
        have hc := Lib.hid (jGet_no (HJ6.out.grown HBk.out) hok)
        unfold pt at hc
        have z0 := cells_cell (o := 0) HDk.out rfl
        have z1 := cells_cell (o := 1) HDk.out rfl
        have xx := (HBk.out.block _ (lt_of_block HX6.out)).trans HX6.out
        have x0 := cells_cell (o := 0) xx rfl
        have x1 := cells_cell (o := 1) xx rfl
        go_wp2_with (go_at_call 21; fail)
        refine hc.out.mono ?_
        rintro e w10 ⟨rfl, hg⟩
        have HDn := Lib.hid ((hg.below.block _ (lt_of_block HDk.out)).trans HDk.out)
        have HBn := Lib.hid (HBk.out.trans (hg.below.mono HBk.out.size))
        clear hc z0 z1 xx x0 x1 hg HBk HDk
        have HBk := HBn
        have HDk := HDn
        clear HBn HDn
        have hc := Lib.hid (rget_no (now := now) (HR6.out.below HBk.out) hok)
        unfold rdv at hc
        have z0 := cells_cell (o := 0) HDk.out rfl
        have z1 := cells_cell (o := 1) HDk.out rfl
        have xx := (HBk.out.block _ (lt_of_block HX6.out)).trans HX6.out
        have x0 := cells_cell (o := 0) xx rfl
        have x1 := cells_cell (o := 1) xx rfl
        go_wp2_with (go_at_call 28; fail)
        refine hc.out.mono ?_
        rintro e w11 ⟨rfl, hg⟩
        have HDn := Lib.hid ((hg.below.block _ (lt_of_block HDk.out)).trans HDk.out)
        have HBn := Lib.hid (HBk.out.trans (hg.below.mono HBk.out.size))
        clear hc z0 z1 xx x0 x1 hg HBk HDk
        have HBk := HBn
        have HDk := HDn
        clear HBn HDn
        have hc := Lib.hid (jPassed_no (HJ6.out.grown HBk.out) hok)
        unfold pt at hc
        have z0 := cells_cell (o := 0) HDk.out rfl
        have z1 := cells_cell (o := 1) HDk.out rfl
        have xx := (HBk.out.block _ (lt_of_block HX6.out)).trans HX6.out
        have x0 := cells_cell (o := 0) xx rfl
        have x1 := cells_cell (o := 1) xx rfl
        go_wp2_with (go_at_call 17; fail)
        refine hc.out.mono ?_
        rintro e w12 ⟨rfl, hg⟩
        have HDn := Lib.hid ((hg.below.block _ (lt_of_block HDk.out)).trans HDk.out)
        have HBn := Lib.hid (HBk.out.trans (hg.below.mono HBk.out.size))
        clear hc z0 z1 xx x0 x1 hg HBk HDk
        have HBk := HBn
        have HDk := HDn
        clear HBn HDn
        have hc := Lib.hid (rpassed_no (now := now) (HR6.out.below HBk.out) hok)
        unfold rdv at hc
        have z0 := cells_cell (o := 0) HDk.out rfl
        have z1 := cells_cell (o := 1) HDk.out rfl
        have xx := (HBk.out.block _ (lt_of_block HX6.out)).trans HX6.out
        have x0 := cells_cell (o := 0) xx rfl
        have x1 := cells_cell (o := 1) xx rfl
        go_wp2_with (go_at_call 29; fail)
        refine hc.out.mono ?_
        rintro e w13 ⟨rfl, hg⟩
        have HDn := Lib.hid ((hg.below.block _ (lt_of_block HDk.out)).trans HDk.out)
        have HBn := Lib.hid (HBk.out.trans (hg.below.mono HBk.out.size))
        clear hc z0 z1 xx x0 x1 hg HBk HDk
        have HBk := HBn
        have HDk := HDn
        clear HBn HDn
        go_wp2_with fail
        go_roundw
        case rel => exact ⟨k + 1, by have := HLT.out; omega, by go_num, HBk.out⟩
        case measure => simp [intOf]; have := HLT.out; omega
    · obtain rfl : k = n := by omega
      have HF := Lib.hid (HB6.out.trans (hbr.mono HB6.out.size))
      go_wp2_with fail
      go_ret
      exact ⟨rfl, HF.out⟩
end
end Go.Proofs.YtgkodleblkjhcaaGreatDoor
