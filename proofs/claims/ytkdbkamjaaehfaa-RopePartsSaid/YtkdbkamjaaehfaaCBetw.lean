/- between: the bytes of a rope from one place on up to another one, as a rope. -/
import Derived.Test.YtkdbkamjaaehfaaCCut
namespace Go.Proofs.Ytkdbkamjaaehfaa
open Go.RowKit Go.Sort
set_option linter.unusedVariables false
set_option linter.unusedSimpArgs false

theorem run_min2 {P : Program} (w : World) (ts : Array TypeId) (ty : TypeId) (X Y Z : Int) (hz : min X Y = Z) : (Builtin.min_ ts ty #[.int .i64 X, .int .i64 Y]).run P w = .ok (.int .i64 Z) w := by
  have e : (if Y < X then Y else X) = Z := by split <;> omega
  simp [Builtin.min_, Builtin.min2, e]

theorem wpList_min {P : Program} {w : World} {ops : Array Oper} {rest : List Oper} {o : Oper} {a : Act} {Q : Exit → Act → World → Prop} (hgd : o.guard = none) (x y : Operand) (ts : Array TypeId)
    (ho : o.op = .call { callee := .builtin .min, args := #[x, y], argTypes := ts }) (X Y Z : Int) (hx : a.eval x = .int .i64 X) (hy : a.eval y = .int .i64 Y) (hz : min X Y = Z)
    (h : wpList P ops Q rest (a.put o.dst (.int .i64 Z)) w) : wpList P ops Q (o :: rest) a w := by
  refine wpList_plain hgd fun K hK => ?_
  have hrun := run_min2 (P := P) w ts o.type X Y Z hz
  unfold Oper.wp
  simp [execOp, ho, resolve, invoke, builtin, hx, hy, hrun, Result.andThen]
  exact hK _ _ h

theorem RowN.at {w : World} {b n c : Nat} {a : Option Addr} {L : List Nat} (h : RowN w b (.slice a n c) L) (k x : Nat) (hk : L[k]? = some x) : ∃ g, a = some ⟨g, 0, none⟩ ∧ g < w.heap.size ∧ w.cell? ⟨g, k, none⟩ = some (.int .i64 (x : Nat)) := by
  have hl : k < L.length := by
    rcases Nat.lt_or_ge k L.length with h' | h'
    · exact h'
    · rw [List.getElem?_eq_none h'] at hk; cases hk
  obtain ⟨g, cap, hv, _, _⟩ := row_some h (by rw [List.length_map]; omega)
  simp only [Value.slice.injEq] at hv
  obtain ⟨rfl, rfl, rfl⟩ := hv
  have := row_cells h k (encN x) (by simp [hk])
  rw [Go.WideShapes.add_plain, Nat.zero_add] at this
  have h2 := World.block_lt_of_cell? w _ this
  exact ⟨g, rfl, h2, this⟩

/-- A part of a row. -/
theorem row_part {w : World} {b n c : Nat} {a : Option Addr} {L : List UInt8} (h : RowB w b (.slice a n c) L) (i j : Nat) (hij : i ≤ j) (hj : j ≤ L.length) (v : Value)
    (hv : (∃ g, a = some ⟨g, 0, none⟩ ∧ i < c ∧ v = .slice (some ⟨g, i, none⟩) (j - i) (c - i)) ∨ (i = c ∧ ∃ x, v = .slice x 0 0 ∧ (x = none ∨ ∃ y, x = some y))) : SrcV w v (((L.drop i).take (j - i)).map encB) := by
  obtain ⟨_, _, hf, h1, h2⟩ := h.form
  simp only [Value.slice.injEq] at hf
  obtain ⟨rfl, rfl, rfl⟩ := hf
  rcases hv with ⟨g, rfl, hic, rfl⟩ | ⟨rfl, x, rfl, hx⟩
  · have hl : (((L.drop i).take (j - i)).map encB).length = j - i := by simp; omega
    refine .inr ⟨⟨g, i, none⟩, c - i, by rw [hl], by omega, by omega, fun k u hu => ?_, fun _ => rfl⟩
    rw [Go.WideShapes.add_plain]
    have hu2 : (L.map encB)[i + k]? = some u := by
      rw [List.getElem?_map, List.getElem?_take] at hu
      rw [List.getElem?_map]
      split at hu
      · rwa [List.getElem?_drop] at hu
      · simp at hu
    have h' : w.ownsRow b 5 1 (.slice (some ⟨g, 0, none⟩) L.length c) L.length (L.map encB) := by
      have := h
      unfold RowB RowV at this
      rwa [List.length_map] at this
    have := row_cells h' (i + k) u hu2
    rwa [Go.WideShapes.add_plain, Nat.zero_add] at this
  · have hl : ((L.drop i).take (j - i)).map encB = [] := by
      have : j - i = 0 := by omega
      rw [this]; rfl
    rw [hl]
    rcases hx with rfl | ⟨y, rfl⟩
    · exact SrcV.nil _
    · exact .inr ⟨y, 0, rfl, Nat.le_refl _, Nat.zero_le _, fun k u hu => by simp at hu, fun h => by simp at h⟩

/-- Concat of one slice. -/
theorem cat_one {w : World} {vp : Value} {X : List UInt8} (h : SrcV w vp (X.map encB)) (hl : X.length ≤ 200000) :
    Calls Try.prog 26 #[.slice (some ⟨w.heap.size, 0, none⟩) 1 1] (w.alloc (.cells #[vp] 26)) fun e w' => ∃ v, e = .returned v ∧ RowB w' (w.heap.size + 1) v X ∧ Below w.heap.size w w' := by
  refine (catB_parts (Ps := [X]) (src_one w 26 vp) ⟨rfl, fun i v p h1 h2 => ?_⟩ (by simpa using hl) (by simp)).mono ?_
  · match i with
    | 0 =>
      simp at h1 h2
      subst h1 h2
      exact h.grown (below_alloc _ _)
    | i + 1 => simp at h1
  · rintro e w' ⟨v, rfl, ho, hb⟩
    refine ⟨v, rfl, ?_, (below_alloc _ _).trans (hb.mono (by simp))⟩
    simpa using ho

set_option maxRecDepth 100000 in
set_option maxHeartbeats 1600000 in
theorem between_any {w : World} {b : Nat} {v : Value} {Ps : Parts} (R : RopeAt w b v Ps) (f t : Nat) (hft : f ≤ t) (ht : t ≤ Ps.flatten.length) :
    Calls Try.prog 30 #[v, .int .i64 f, .int .i64 t] w fun e w' => ∃ v', e = .returned v' ∧ RopeAt w' w.heap.size v' (cutP f t 0 Ps) ∧ Below w.heap.size w w' := by
  obtain ⟨vd, ve, rfl, hd, he⟩ := R.ex
  have hsz := R.size
  have hln := R.len
  obtain ⟨da, dc, hf, hd1, hd2⟩ := hd.form
  obtain ⟨ea, ec, hf2, he1, he2⟩ := he.form
  obtain ⟨fl, hfl⟩ : ∃ fl, fl = Ps.flatten.length := ⟨_, rfl⟩
  obtain ⟨N, hN⟩ : ∃ N, N = Ps.length := ⟨_, rfl⟩
  rw [← hfl] at hf hd1 ht hsz
  rw [ends_length, ← hN] at hf2 he1
  subst hf hf2
  have HD := Lib.hid hd
  have HE := Lib.hid he
  have HFL := Lib.hid hfl
  have HNE := Lib.hid hN
  have HLN := Lib.hid hln
  have HFT := Lib.hid hft
  obtain ⟨T, hT⟩ : ∃ T : Nat → Nat, ∀ k, T k = (Ps.take k).flatten.length := ⟨fun k => (Ps.take k).flatten.length, fun _ => rfl⟩
  obtain ⟨S, hS⟩ : ∃ S : Nat → Nat, ∀ k, S k = startK f t Ps k := ⟨fun k => startK f t Ps k, fun _ => rfl⟩
  have HT := Lib.hid hT
  have HS := Lib.hid hS
  have hS0 : Hid (S 0 = f) := Lib.hid (by rw [hS]; unfold startK; simp)
  have b1 : (f : Int) ≤ (t : Int) := by omega
  have b2 : (t : Int) ≤ (fl : Int) := by omega
  have b3 : (fl : Int) ≤ 65536 := by omega
  have b4 : (fl : Int) ≤ (dc : Int) := by omega
  have b5 : (N : Int) ≤ 1024 := by omega
  have b6 : (dc : Int) ≤ 9223372036854775807 := by unfold maxLen at hd2; omega
  clear hd he R hT hS hfl hN hft hln hd1
  go_enter Try.func30, Try.ntmps30
  go_wp2_with fail
  obtain ⟨W, hW⟩ : ∃ W, W = (w.alloc (.cells #[.slice da fl dc, .slice ea N ec] 29)).alloc (.cells #[.slice none 0 0, .slice none 0 0] 29) := ⟨_, rfl⟩
  have HWS : Hid (W.heap.size = w.heap.size + 2) := Lib.hid (by rw [hW]; simp)
  have HWB : Hid (Below w.heap.size w W) := Lib.hid (by rw [hW]; exact (below_alloc _ _).trans ((below_alloc _ _).mono (by simp)))
  have HW0 : Hid (W.heap[w.heap.size]? = some (.cells #[.slice da fl dc, .slice ea N ec] 29 (0, 0))) := Lib.hid (by
    rw [hW]; exact ((below_alloc _ _).block _ (by simp)).trans (heap_alloc_new w _))
  have HW1 : Hid (W.heap[w.heap.size + 1]? = some (.cells #[.slice none 0 0, .slice none 0 0] 29 (0, 0))) := Lib.hid (by
    rw [hW]; have := heap_alloc_new (w.alloc (.cells #[.slice da fl dc, .slice ea N ec] 29)) (.cells #[.slice none 0 0, .slice none 0 0] 29); simpa using this)
  rw [← hW]
  clear hW
  have cw0 : W.cell? ⟨w.heap.size, 0, none⟩ = some (.slice da fl dc) := cells_cell HW0.out rfl
  have cw1 : W.cell? ⟨w.heap.size, 1, none⟩ = some (.slice ea N ec) := cells_cell HW0.out rfl
  go_wp2_with fail
  go_loopw [7, 8, 15] (fun ve st i wr => ∃ k, k ≤ N ∧ Hid (RowN wr W.heap.size ve (ends 0 (cutP f t 0 (Ps.take k)))) ∧ st = .int .i64 ((S k : Nat) : Int) ∧ i = .int .i64 (k : Nat) ∧ Hid (Below W.heap.size W wr)) (fun _ _ i _ => N - (intOf i).toNat)
  case atStart => exact ⟨0, Nat.zero_le _, Lib.hid (World.ownsRow_nil _ _ _ _), by rw [hS0.out], rfl, Lib.hid (Below.refl _ _)⟩
  case round =>
    obtain ⟨k, hkl, hrow, rfl, rfl, hbw⟩ := hrel
    obtain ⟨va, vc, hvf, _, _⟩ := hrow.out.form
    have hvn : (ends 0 (cutP f t 0 (Ps.take k))).length ≤ 1024 := by rw [ends_length]; have := cutP_len f t 0 (Ps.take k); have := HLN.out; rw [List.length_take] at *; omega
    generalize hvq : (ends 0 (cutP f t 0 (Ps.take k))).length = vn at *
    have HVQ := Lib.hid hvq
    clear hvq
    subst hvf
    by_cases hlt : k < N
    · have hltP : k < Ps.length := by rw [← HNE.out]; exact hlt
      have hge := ends_get 0 Ps k hltP
      rw [Nat.zero_add, ← HT.out] at hge
      obtain ⟨g, rfl, hgl, hge2⟩ := HE.out.at k _ hge
      have hcg := below_cells hbw.out _ _ (below_cells HWB.out _ _ hge2)
      have hgl2 : g < wr.heap.size := by have := hbw.out.size; have := HWB.out.size; omega
      have hTl : T (k + 1) ≤ 65536 := by rw [HT.out]; have := flat_le Ps (k + 1); have := HFL.out; omega
      obtain ⟨m, hm⟩ : ∃ m, m = min (T (k + 1)) t := ⟨_, rfl⟩
      have hmin : Hid (min ((T (k + 1) : Nat) : Int) (t : Int) = (m : Int)) := Lib.hid (by omega)
      have HM : Hid (m = min ((Ps.take (k + 1)).flatten.length) t) := Lib.hid (by rw [hm, HT.out])
      have hcp := cut_part f t HFT.out Ps k hltP
      rw [← HM.out, ← HS.out, ← HS.out] at hcp
      have hSk : Hid (f ≤ S k) := Lib.hid (by rw [HS.out]; unfold startK; omega)
      have hes := ends_snoc f t HFT.out Ps k hltP
      rw [← HM.out, ← HS.out] at hes
      have HCP := Lib.hid hcp
      have HES := Lib.hid hes
      have hmt : (m : Int) ≤ (t : Int) := by omega
      clear hge hge2 hgl hm hcp hes
      generalize T (k + 1) = e at *
      have hkl2 : (k : Int) < (N : Int) := by omega
      have he2 : (e : Int) ≤ 65536 := by omega
      by_cases hc : S k < m
      · have hci : (S k : Int) < (m : Int) := by omega
        have hsf : (f : Int) ≤ (S k : Int) := by have := hSk.out; omega
        have HC := Lib.hid hc
        clear hc
        go_wp2_with (first
          | (with_reducible refine wpList_min rfl (.tmp 19) (.tmp 20) _ rfl _ _ _ rfl rfl hmin.out ?_)
          | (at_builtin; refine wpList_append_v slcN (by decide) rfl (.tmp 25) (.tmp 29) rfl rfl rfl (RowV.grown hrow.out (below_alloc _ _)) (by have := hbw.out.size; simp; omega) (src_one _ _ (.int .i64 ((m : Int) - (f : Int)))) (by intro u hu; simp at hu; subst hu; rfl) (by have := HVQ.out; simp; omega) ?_))
        intro v' w' ho' hf' hn'
        have HO' : Hid (RowN w' W.heap.size v' (ends 0 (cutP f t 0 (Ps.take (k + 1))))) := Lib.hid (by
          rw [HES.out HC.out]
          unfold RowN
          rw [List.map_append]
          have : List.map encN [m - f] = [.int .i64 ((m : Int) - (f : Int))] := by
            have := HC.out
            have := hSk.out
            simp only [List.map_cons, List.map_nil, encN, List.cons.injEq, Value.int.injEq, true_and, and_true]
            omega
          rw [this]
          exact ho')
        have HB' : Hid (Below W.heap.size W w') := Lib.hid ((hbw.out.trans ((below_alloc _ _).mono hbw.out.size)).trans (hf'.below (fun x hx => (hrow.out.lt x (by simpa using hx)).1) (by have := hbw.out.size; simp; omega)))
        have hS2 : Hid (S (k + 1) = m) := Lib.hid (HCP.out.1 HC.out).2
        clear ho' hf' hn'
        go_wp2_with fail
        go_roundw
        case rel => exact ⟨k + 1, by omega, HO', by rw [hS2.out], by go_num, HB'⟩
        case measure => simp [intOf]; omega
      · have hci : (m : Int) ≤ (S k : Int) := by omega
        have HC := Lib.hid hc
        have hS2 : Hid (S (k + 1) = S k) := Lib.hid (HCP.out.2 HC.out).2
        have hS3 : Hid (cutP f t 0 (Ps.take (k + 1)) = cutP f t 0 (Ps.take k)) := Lib.hid (HCP.out.2 HC.out).1
        clear hc
        go_wp2_with (with_reducible refine wpList_min rfl (.tmp 19) (.tmp 20) _ rfl _ _ _ rfl rfl hmin.out ?_)
        go_roundw
        case rel => exact ⟨k + 1, by omega, by rw [hS3.out]; exact hrow, by rw [hS2.out], by go_num, hbw⟩
        case measure => simp [intOf]; omega
    · obtain rfl : k = N := by omega
      have hEN : Hid (cutP f t 0 (Ps.take k) = cutP f t 0 Ps) := Lib.hid (by rw [HNE.out, List.take_length])
      have cx0 := below_cells hbw.out _ _ cw0
      have cc1 := Lib.hid ((hbw.out.block (w.heap.size + 1) (by have := HWS.out; omega)).trans HW1.out)
      have HDW := Lib.hid (RowV.grown (RowV.grown HD.out HWB.out) hbw.out)
      have hdn : (da = none ∧ f = 0 ∧ t = 0 ∧ fl = 0 ∧ dc = 0) ∨ ∃ g, da = some ⟨g, 0, none⟩ ∧ g < w.heap.size := by
        rcases HD.out.2 with ⟨h, _⟩ | ⟨g, cap, cu, h, _, hh, _⟩
        · simp only [Value.slice.injEq] at h
          obtain ⟨h1, h2, h3⟩ := h
          exact .inl ⟨h1, by omega, by omega, h2, h3⟩
        · simp only [Value.slice.injEq] at h
          exact .inr ⟨g, h.1, lt_of_block hh⟩
      have hwb : w.heap.size < wr.heap.size := by have := hbw.out.size; have := HWS.out; omega
      have hwb1 : w.heap.size + 1 < wr.heap.size := by have := hbw.out.size; have := HWS.out; omega
      obtain ⟨X, hX⟩ : ∃ X, X = (Ps.flatten.drop f).take (t - f) := ⟨_, rfl⟩
      have hXl : X.length ≤ 200000 := by rw [hX]; simp; omega
      have hXc : Hid ((cutP f t 0 Ps).flatten = X) := Lib.hid (by rw [cutP_flat, Nat.sub_zero, Nat.sub_zero, List.drop_take, ← hX])
      have hXd : X.length = t - f := by rw [hX, List.length_take, List.length_drop]; have := HFL.out; omega
      have HCL : Hid ((cutP f t 0 Ps).length ≤ 1024 ∧ (cutP f t 0 Ps).flatten.length ≤ 65536) := Lib.hid ⟨by have := cutP_len f t 0 Ps; have := HLN.out; omega, by rw [hXc.out]; omega⟩
      have hcases : ∃ x n c', SrcV wr (.slice x n c') (X.map encB) ∧ ((da = none ∧ f = 0 ∧ t = 0 ∧ fl = 0 ∧ dc = 0 ∧ x = none ∧ n = 0 ∧ c' = 0) ∨ (∃ g, da = some ⟨g, 0, none⟩ ∧ f = dc ∧ t = dc ∧ fl = dc ∧ x = some ⟨g, 0, none⟩ ∧ n = 0 ∧ c' = 0) ∨ (∃ g, da = some ⟨g, 0, none⟩ ∧ (f : Int) < (dc : Int) ∧ x = some ⟨g, f, none⟩ ∧ n = t - f ∧ c' = dc - f)) := by
        have hf1 := HFT.out
        have hf2 := HFL.out
        rcases hdn with ⟨h1, h2, h3, h4, h5⟩ | ⟨g, hg, hgl⟩
        · refine ⟨none, 0, 0, ?_, .inl ⟨h1, h2, h3, h4, h5, rfl, rfl, rfl⟩⟩
          rw [hX]
          exact row_part HDW.out f t hf1 (by omega) _ (.inr ⟨by omega, none, rfl, .inl rfl⟩)
        · by_cases hfd : f = dc
          · refine ⟨some ⟨g, 0, none⟩, 0, 0, ?_, .inr (.inl ⟨g, hg, hfd, by omega, by omega, rfl, rfl, rfl⟩)⟩
            rw [hX]
            exact row_part HDW.out f t hf1 (by omega) _ (.inr ⟨by omega, _, rfl, .inr ⟨_, rfl⟩⟩)
          · refine ⟨some ⟨g, f, none⟩, t - f, dc - f, ?_, .inr (.inr ⟨g, hg, by omega, rfl, rfl, rfl⟩)⟩
            rw [hX]
            exact row_part HDW.out f t hf1 (by omega) _ (.inl ⟨g, hg, by omega, rfl⟩)
      obtain ⟨x, n, c', hsrc, hcs⟩ := hcases
      have hcat := Lib.hid (cat_one hsrc hXl)
      clear hsrc hX hXl hdn hXd
      rcases hcs with ⟨rfl, rfl, rfl, rfl, rfl, rfl, rfl, rfl⟩ | ⟨g, rfl, rfl, rfl, rfl, rfl, rfl, rfl⟩ | ⟨g, rfl, hfd, rfl, rfl, rfl⟩
      all_goals go_wp2_with (go_at_call 26; fail)
      all_goals (
        refine hcat.out.mono ?_
        rintro e w2 ⟨v2, rfl, ho2, hb2⟩
        have HO2 := Lib.hid ho2
        have HB2 := Lib.hid hb2
        have hcc2 := Lib.hid ((hb2.block (w.heap.size + 1) hwb1).trans cc1.out)
        have gc0 : w2.cell? ⟨w.heap.size + 1, 0, none⟩ = some (.slice none 0 0) := cells_cell hcc2.out rfl
        have gc1 : w2.cell? ⟨w.heap.size + 1, 1, none⟩ = some (.slice none 0 0) := cells_cell hcc2.out rfl
        have gz0 : w2.frozen? ⟨w.heap.size + 1, 0, none⟩ = false := cells_free hcc2.out _
        have gz1 : w2.frozen? ⟨w.heap.size + 1, 1, none⟩ = false := cells_free hcc2.out _
        have hlt2 : w.heap.size + 1 < w2.heap.size := lt_of_block hcc2.out
        obtain ⟨v2a, v2c, hf2, _, _⟩ := ho2.form
        clear ho2 hb2 hcat
        generalize X.length = xl at *
        subst hf2
        go_wp2_with fail
        generalize hWF : World.setCell _ _ _ = WF
        have ht : WF.heap[w.heap.size + 1]? = some (.cells #[.slice v2a xl v2c, .slice va vn vc] 29 (0, 0)) := by rw [← hWF]; exact two_cells hcc2.out
        have hfr : Fr [w.heap.size + 1] w2 WF := by rw [← hWF]; exact two_fr _ _ _ _
        have hb3 : Below w.heap.size w2 WF := by rw [← hWF]; exact two_below (by omega) _ _
        clear hWF
        refine bodyPost_ret (v := .agg #[.slice v2a xl v2c, .slice va vn vc]) (by simp [results, Try.results30, go_sem, cells_cell ht (o := 0) rfl, cells_cell ht (o := 1) rfl]) rfl ⟨_, rfl, ⟨⟨_, _, rfl, RowV.lower (hfr.row (base := wr.heap.size + 1) ?_ ?_) (by omega), RowV.lower (hfr.row ?_ ?_) (b := W.heap.size) (by have := HWS.out; omega)⟩, cutP_ne _ _ _ _, ?_, ?_⟩, ?_⟩
        · rw [hXc.out]; exact HO2.out
        · intro g hg hm
          have := (HO2.out.lt g hg).1
          simp at hm
          omega
        · have := RowV.grown hrow.out HB2.out
          rwa [hEN.out] at this
        · intro g hg hm
          have := (hrow.out.lt g hg).1
          have := HWS.out
          simp at hm
          omega
        · exact HCL.out.1
        · exact HCL.out.2
        · exact (HWB.out.trans (hbw.out.mono HWB.out.size)).trans ((HB2.out.mono (by omega)).trans hb3))
end Go.Proofs.Ytkdbkamjaaehfaa
