/- Join. -/
import Derived.Test.YtkdbkamjaaehfaaCTake
namespace Go.Proofs.Ytkdbkamjaaehfaa
open Go.RowKit Go.Sort
set_option linter.unusedVariables false
set_option linter.unusedSimpArgs false

theorem row_two (w : World) (e : TypeId) (x y : Value) : SrcV (w.alloc (.cells #[x, y] e)) (.slice (some ⟨w.heap.size, 0, none⟩) 2 2) [x, y] := (row_made w e [x, y] (by unfold maxLen; simp)).src
theorem rows_two {w : World} {x y : Value} {X Y : List Value} (hx : SrcV w x X) (hy : SrcV w y Y) : Rows w [x, y] [X, Y] := by
  refine ⟨rfl, fun i v p h1 h2 => ?_⟩
  match i with
  | 0 => simp at h1 h2; subst h1 h2; exact hx
  | 1 => simp at h1 h2; subst h1 h2; exact hy
  | i + 2 => simp at h1
theorem catB_two {w : World} {x y : Value} {X Y : List UInt8} (hx : SrcV w x (X.map encB)) (hy : SrcV w y (Y.map encB)) (hl : X.length + Y.length ≤ 200000) :
    Calls Try.prog 26 #[.slice (some ⟨w.heap.size, 0, none⟩) 2 2] (w.alloc (.cells #[x, y] 26)) fun e w' => ∃ v, e = .returned v ∧ RowB w' (w.heap.size + 1) v (X ++ Y) ∧ Below w.heap.size w w' := by
  refine (catB_parts (Ps := [X, Y]) (row_two w 26 x y) (rows_two (hx.grown (below_alloc _ _)) (hy.grown (below_alloc _ _))) (by simpa using hl) (by simp)).mono ?_
  rintro e w' ⟨v, rfl, ho, hb⟩
  refine ⟨v, rfl, ?_, (below_alloc _ _).trans (hb.mono (by simp))⟩
  simpa using ho
theorem catN_two {w : World} {x y : Value} {X Y : List Nat} (hx : SrcV w x (X.map encN)) (hy : SrcV w y (Y.map encN)) (hl : X.length + Y.length ≤ 200000) :
    Calls Try.prog 32 #[.slice (some ⟨w.heap.size, 0, none⟩) 2 2] (w.alloc (.cells #[x, y] 27)) fun e w' => ∃ v, e = .returned v ∧ RowN w' (w.heap.size + 1) v (X ++ Y) ∧ Below w.heap.size w w' ∧ w.heap.size + 1 ≤ w'.heap.size := by
  refine (catN_any (Ps := [X.map encN, Y.map encN]) (row_two w 27 x y) (rows_two (hx.grown (below_alloc _ _)) (hy.grown (below_alloc _ _))) (fun p hp u hu => ?_) (by simpa using hl) (by simp)).mono ?_
  · simp at hp
    rcases hp with rfl | rfl
    · exact encN_one X u hu
    · exact encN_one Y u hu
  rintro e w' ⟨v, rfl, ho, hb⟩
  refine ⟨v, rfl, ?_, (below_alloc _ _).trans (hb.mono (by simp)), by have := hb.size; simpa using this⟩
  unfold RowN
  rw [List.map_append]
  simpa using ho

/-- A cell of a row is written. -/
theorem row_set {w : World} {b n c g : Nat} {L : List Nat} (h : RowN w b (.slice (some ⟨g, 0, none⟩) n c) L) (k x : Nat) (hk : k < L.length) : RowN (w.setCell ⟨g, k, none⟩ (.int .i64 (x : Nat))) b (.slice (some ⟨g, 0, none⟩) n c) (L.set k x) := by
  rcases h.2 with ⟨hv, _⟩ | ⟨g', cap, cur, hv, hb, hh, h1, h2, h3, h4⟩
  · cases hv
  · simp only [Value.slice.injEq, Option.some.injEq, Addr.mk.injEq, and_true] at hv
    obtain ⟨rfl, rfl, rfl⟩ := hv
    rw [List.length_map] at h1 h4 ⊢
    refine ⟨by simp, .inr ⟨g, c, cur.setIfInBounds k (.int .i64 (x : Nat)), by simp, hb, cells_set hh k _, by simpa using h1, h2, by simpa using h3, ?_⟩⟩
    rw [Array.toList_setIfInBounds, List.length_map, List.length_set, List.take_set, h4, List.map_set]
    rfl

/-- The ends of the second rope, as far as they have been moved. -/
def movedL (fl : Nat) (A B : List Nat) (j : Nat) : List Nat := A ++ ((B.take j).map (fun x => x + fl) ++ B.drop j)
theorem movedL_len (fl : Nat) (A B : List Nat) (j : Nat) : (movedL fl A B j).length = A.length + B.length := by
  unfold movedL; simp; omega
theorem movedL_get (fl : Nat) (A B : List Nat) (j : Nat) (h : j < B.length) : (movedL fl A B j)[A.length + j]? = some B[j] := by
  unfold movedL
  rw [List.getElem?_append_right (by omega), List.getElem?_append_right (by simp; omega), List.getElem?_drop]
  simp
  rw [show j + (j - min j B.length) = j by omega]
  exact List.getElem?_eq_getElem h
theorem movedL_set (fl : Nat) (A B : List Nat) (j : Nat) (h : j < B.length) : (movedL fl A B j).set (A.length + j) (B[j] + fl) = movedL fl A B (j + 1) := by
  unfold movedL
  rw [List.set_append_right _ _ (by omega), Nat.add_sub_cancel_left, List.set_append_right _ _ (by simp; omega)]
  congr 1
  rw [List.take_succ_eq_append_getElem h, List.map_append, List.append_assoc]
  congr 1
  have : j - (List.map (fun x => x + fl) (List.take j B)).length = 0 := by simp; omega
  rw [this, List.drop_eq_getElem_cons h]
  rfl
theorem movedL_all (Ps Qs : Parts) : movedL Ps.flatten.length (ends 0 Ps) (ends 0 Qs) Qs.length = ends 0 (Ps ++ Qs) := by
  unfold movedL
  rw [ends_append, ← ends_length 0 Qs, List.take_length, List.drop_length, List.append_nil, ends_shift]
theorem ends_le : ∀ (s : Nat) (Ps : Parts), ∀ x ∈ ends s Ps, x ≤ s + Ps.flatten.length
  | _, [], x, h => by simp [ends] at h
  | s, p :: r, x, h => by
    simp only [ends, List.mem_cons] at h
    simp only [List.flatten_cons, List.length_append]
    rcases h with rfl | h
    · omega
    · have := ends_le (s + p.length) r x h
      omega

set_option maxRecDepth 100000 in
set_option maxHeartbeats 1600000 in
theorem join_any {w : World} {b c : Nat} {v u : Value} {Ps Qs : Parts} (R : RopeAt w b v Ps) (S : RopeAt w c u Qs) :
    Calls Try.prog 20 #[v, u] w fun e w' => ∃ v', e = .returned (.tuple #[v', .int .i64 (errC (full (Ps ++ Qs)).length (Ps ++ Qs).flatten.length)]) ∧ RopeAt w' w.heap.size v' (newP (Ps ++ Qs)) ∧ Below w.heap.size w w' := by
  have hfull : full (Ps ++ Qs) = Ps ++ Qs := full_of _ (fun p hp => by rcases List.mem_append.1 hp with h | h; exact R.ne p h; exact S.ne p h)
  obtain ⟨vd, ve, rfl, hd, he⟩ := R.ex
  obtain ⟨ud, ue, rfl, hd', he'⟩ := S.ex
  obtain ⟨da, dc, hf, hd1, hd2⟩ := hd.form
  obtain ⟨ea, ec, hf2, he1, he2⟩ := he.form
  obtain ⟨da', dc', hf', hd1', hd2'⟩ := hd'.form
  obtain ⟨ea', ec', hf2', he1', he2'⟩ := he'.form
  obtain ⟨fl, hfl⟩ : ∃ fl, fl = Ps.flatten.length := ⟨_, rfl⟩
  obtain ⟨el, hel⟩ : ∃ el, el = Ps.length := ⟨_, rfl⟩
  obtain ⟨fl', hfl'⟩ : ∃ fl', fl' = Qs.flatten.length := ⟨_, rfl⟩
  obtain ⟨el', hel'⟩ : ∃ el', el' = Qs.length := ⟨_, rfl⟩
  rw [← hfl] at hf
  rw [ends_length, ← hel] at hf2
  rw [← hfl'] at hf'
  rw [ends_length, ← hel'] at hf2'
  subst hf hf2 hf' hf2'
  have hb1 : fl ≤ 65536 := by rw [hfl]; exact R.size
  have hb2 : fl' ≤ 65536 := by rw [hfl']; exact S.size
  have hb3 : el ≤ 1024 := by rw [hel]; exact R.len
  have hb4 : el' ≤ 1024 := by rw [hel']; exact S.len
  have i1 : (fl : Int) ≤ 65536 := by omega
  have i2 : (fl' : Int) ≤ 65536 := by omega
  have i3 : (el : Int) ≤ 1024 := by omega
  have i4 : (el' : Int) ≤ 1024 := by omega
  have hw1 : IntKind.i64.wrap ((el : Int) + (el' : Int)) = (el : Int) + (el' : Int) := by rw [IntKind.wrap_i64]; omega
  have hw2 : IntKind.i64.wrap ((fl : Int) + (fl' : Int)) = (fl : Int) + (fl' : Int) := by rw [IntKind.wrap_i64]; omega
  have HFU := Lib.hid hfull
  have HR := Lib.hid R
  have HS := Lib.hid S
  have HD := Lib.hid hd
  have HE := Lib.hid he
  have HD' := Lib.hid hd'
  have HE' := Lib.hid he'
  have HFL := Lib.hid hfl
  have HEL := Lib.hid hel
  have HFL' := Lib.hid hfl'
  have HEL' := Lib.hid hel'
  have HER : Hid (errC (full (Ps ++ Qs)).length (Ps ++ Qs).flatten.length = errC (el + el') (fl + fl')) := Lib.hid (by
    rw [hfull, List.length_append, List.flatten_append, List.length_append, ← hfl, ← hfl', ← hel, ← hel'])
  have HNP : Hid ((errC (el + el') (fl + fl') = 0 → newP (Ps ++ Qs) = Ps ++ Qs) ∧ (errC (el + el') (fl + fl') ≠ 0 → newP (Ps ++ Qs) = [])) := Lib.hid (by
    unfold newP
    rw [HER.out, hfull]
    exact ⟨fun h => if_pos h, fun h => if_neg h⟩)
  clear hd he R hd' he' S hfl hel hfl' hel' hd1 hd1' he1 he1' hfull
  go_enter Try.func20, Try.ntmps20
  go_wp2_with fail
  obtain ⟨W, hW⟩ : ∃ W, W = ((w.alloc (.cells #[.slice da fl dc, .slice ea el ec] 29)).alloc (.cells #[.slice da' fl' dc', .slice ea' el' ec'] 29)).alloc (.cells #[.slice none 0 0, .slice none 0 0] 29) := ⟨_, rfl⟩
  have HWS : Hid (W.heap.size = w.heap.size + 3) := Lib.hid (by rw [hW]; simp)
  have HWB : Hid (Below w.heap.size w W) := Lib.hid (by rw [hW]; exact below3 _ _ _ _)
  have HW0 : Hid (W.heap[w.heap.size]? = some (.cells #[.slice da fl dc, .slice ea el ec] 29 (0, 0))) := Lib.hid (by
    rw [hW]; exact ((below_alloc _ _).block _ (by simp; omega)).trans (((below_alloc _ _).block _ (by simp)).trans (heap_alloc_new w _)))
  have HW1 : Hid (W.heap[w.heap.size + 1]? = some (.cells #[.slice da' fl' dc', .slice ea' el' ec'] 29 (0, 0))) := Lib.hid (by
    rw [hW]; refine ((below_alloc _ _).block _ (by simp)).trans ?_; have := heap_alloc_new (w.alloc (.cells #[.slice da fl dc, .slice ea el ec] 29)) (.cells #[.slice da' fl' dc', .slice ea' el' ec'] 29); simpa using this)
  have HW2 : Hid (W.heap[w.heap.size + 1 + 1]? = some (.cells #[.slice none 0 0, .slice none 0 0] 29 (0, 0))) := Lib.hid (by
    rw [hW]; have := heap_alloc_new ((w.alloc (.cells #[.slice da fl dc, .slice ea el ec] 29)).alloc (.cells #[.slice da' fl' dc', .slice ea' el' ec'] 29)) (.cells #[.slice none 0 0, .slice none 0 0] 29); simpa using this)
  rw [← hW]
  clear hW
  have HRW := Lib.hid (HR.out.grown HWB.out)
  have HSW := Lib.hid (HS.out.grown HWB.out)
  have hld : ∀ W', Below W.heap.size W W' → W'.cell? ⟨w.heap.size, 0, none⟩ = some (.slice da fl dc) ∧ W'.cell? ⟨w.heap.size, 1, none⟩ = some (.slice ea el ec) ∧ W'.cell? ⟨w.heap.size + 1, 0, none⟩ = some (.slice da' fl' dc') ∧ W'.cell? ⟨w.heap.size + 1, 1, none⟩ = some (.slice ea' el' ec') := fun W' hb =>
    ⟨cells_cell ((hb.block _ (by have := HWS.out; omega)).trans HW0.out) rfl, cells_cell ((hb.block _ (by have := HWS.out; omega)).trans HW0.out) rfl, cells_cell ((hb.block _ (by have := HWS.out; omega)).trans HW1.out) rfl, cells_cell ((hb.block _ (by have := HWS.out; omega)).trans HW1.out) rfl⟩
  refine wp_region_float (fun W' => Below W.heap.size W W') 13 [0, 1, 2, 3, 4, 5, 6, 7, 9] [8, 10, 11, 12] (by kernel_rfl) (by kernel_rfl) (fun _ _ _ d _ h => by cases d <;> exact h) (Below.refl _ _).drew ?_
  simp only [List.map_cons, List.map_nil, List.getD_cons_zero, List.getD_cons_succ, List.drop_succ_cons, List.drop_zero]
  refine takes_by (.pointer (some ⟨w.heap.size, 1, none⟩)) rfl (fun W' _ => by go_simp) ?_
  simp only [Act.put, List.setIfInBounds_toArray, List.set_cons_zero, List.set_cons_succ]
  refine takes_by (.slice ea el ec) rfl (fun W' hS => by obtain ⟨h0, h1, h2, h3⟩ := hld W' hS; go_simp) ?_
  simp only [Act.put, List.setIfInBounds_toArray, List.set_cons_zero, List.set_cons_succ]
  refine takes_by (.int .i64 el) rfl (fun W' hS => by go_simp) ?_
  simp only [Act.put, List.setIfInBounds_toArray, List.set_cons_zero, List.set_cons_succ]
  refine takes_by (.pointer (some ⟨w.heap.size + 1, 1, none⟩)) rfl (fun W' _ => by go_simp) ?_
  simp only [Act.put, List.setIfInBounds_toArray, List.set_cons_zero, List.set_cons_succ]
  refine takes_by (.slice ea' el' ec') rfl (fun W' hS => by obtain ⟨h0, h1, h2, h3⟩ := hld W' hS; go_simp) ?_
  simp only [Act.put, List.setIfInBounds_toArray, List.set_cons_zero, List.set_cons_succ]
  refine takes_by (.int .i64 el') rfl (fun W' hS => by go_simp) ?_
  simp only [Act.put, List.setIfInBounds_toArray, List.set_cons_zero, List.set_cons_succ]
  refine takes_by (.int .i64 ((el + el' : Nat) : Int)) rfl (fun W' hS => by go_simp) ?_
  simp only [Act.put, List.setIfInBounds_toArray, List.set_cons_zero, List.set_cons_succ]
  refine takes_by (.agg #[.slice da fl dc, .slice ea el ec]) rfl (fun W' hS => by obtain ⟨h0, h1, h2, h3⟩ := hld W' hS; go_simp) ?_
  simp only [Act.put, List.setIfInBounds_toArray, List.set_cons_zero, List.set_cons_succ]
  refine takes_by (.agg #[.slice da' fl' dc', .slice ea' el' ec']) rfl (fun W' hS => by obtain ⟨h0, h1, h2, h3⟩ := hld W' hS; go_simp) ?_
  simp only [Act.put, List.setIfInBounds_toArray, List.set_cons_zero, List.set_cons_succ]
  unfold wpTakes
  refine mids_call 23 #[.agg #[.slice da fl dc, .slice ea el ec]] rfl (by go_simp) (len_any (HRW.out.grown (w' := W.drew) (Below.refl _ _).drew)) ?_
  rw [← HFL.out]
  rintro e w1 ⟨rfl, hb1'⟩
  have HS1 := Lib.hid ((Below.refl W.heap.size W).drew.trans (hb1'.mono (by simp)))
  refine ⟨_, rfl, HS1.out, ?_⟩
  clear hb1'
  simp only [Act.put, List.setIfInBounds_toArray, List.set_cons_zero, List.set_cons_succ]
  refine mids_call 23 #[.agg #[.slice da' fl' dc', .slice ea' el' ec']] rfl (by go_simp) (len_any (HSW.out.grown HS1.out)) ?_
  rw [← HFL'.out]
  rintro e w2 ⟨rfl, hb2'⟩
  have HS2 := Lib.hid (HS1.out.trans (hb2'.mono HS1.out.size))
  refine ⟨_, rfl, HS2.out, ?_⟩
  clear hb2'
  simp only [Act.put, List.setIfInBounds_toArray, List.set_cons_zero, List.set_cons_succ]
  refine mids_by (.int .i64 ((fl + fl' : Nat) : Int)) rfl (by go_simp) HS2.out ?_
  simp only [Act.put, List.setIfInBounds_toArray, List.set_cons_zero, List.set_cons_succ]
  refine mids_call 25 #[.int .i64 ((el + el' : Nat) : Int), .int .i64 ((fl + fl' : Nat) : Int)] rfl (by go_simp) (check_any w2 (el + el') (fl + fl')) ?_
  rintro e w3 ⟨rfl, rfl⟩
  refine ⟨_, rfl, HS2.out, ?_⟩
  simp only [Act.put, List.setIfInBounds_toArray, List.set_cons_zero, List.set_cons_succ]
  unfold wpMids
  clear hw1 hw2
  have hor := errC_or (el + el') (fl + fl')
  generalize errC (el + el') (fl + fl') = cd at *
  have cx0 := (hld _ HS2.out).1
  have cx1 := (hld _ HS2.out).2.1
  have cx2 := (hld _ HS2.out).2.2.1
  have cx3 := (hld _ HS2.out).2.2.2
  have hcc := Lib.hid ((HS2.out.block (w.heap.size + 1 + 1) (by have := HWS.out; omega)).trans HW2.out)
  have hws2 : w.heap.size + 3 ≤ w2.heap.size := by have := HS2.out.size; have := HWS.out; omega
  rcases hor with rfl | rfl | ⟨rfl, hm1, hm2⟩
  case' inr.inr =>
    have hcat := Lib.hid (catN_two (RowV.src (RowV.grown HE.out (HWB.out.trans (HS2.out.mono HWB.out.size)))) (RowV.src (RowV.grown HE'.out (HWB.out.trans (HS2.out.mono HWB.out.size)))) (by rw [ends_length, ends_length, ← HEL.out, ← HEL'.out]; omega))
    have HM1 := Lib.hid hm1
    have HM2 := Lib.hid hm2
    clear hm1 hm2
    go_wp2_with (go_at_call 32; fail)
    refine hcat.out.mono ?_
    rintro e w4 ⟨v4, rfl, ho4, hb4, hsz4⟩
    have HB0 := Lib.hid hsz4
    clear hsz4
    obtain ⟨n, hn⟩ : ∃ n, n = el + el' := ⟨_, rfl⟩
    obtain ⟨va, vc, hf4, hvc, hvm⟩ := ho4.form
    rw [List.length_append, ends_length, ends_length, ← HEL.out, ← HEL'.out, ← hn] at hf4 hvc
    subst hf4
    have HO4 : Hid (RowN w4 (w2.heap.size + 1) (.slice va n vc) (movedL fl (ends 0 Ps) (ends 0 Qs) 0)) := Lib.hid (by
      have : movedL fl (ends 0 Ps) (ends 0 Qs) 0 = ends 0 Ps ++ ends 0 Qs := by unfold movedL; simp
      rw [this]; exact ho4)
    have HB4 := Lib.hid hb4
    have HNN := Lib.hid hn
    have hn1 : (n : Int) ≤ 2048 := by omega
    have HS4 := Lib.hid (HS2.out.trans (hb4.mono HS2.out.size))
    have dx0 := (hld _ HS4.out).1
    have dx1 := (hld _ HS4.out).2.1
    clear ho4 hb4 hcat hn cx0 cx1 cx2 cx3
    go_wp2_with fail
    have hws4 := HB4.out.size
    go_loopw [8] (fun i wr => ∃ j q, j ≤ el' ∧ Hid (q = el + j) ∧ i = .int .i64 (q : Nat) ∧ Hid (RowN wr (w2.heap.size + 1) (.slice va n vc) (movedL fl (ends 0 Ps) (ends 0 Qs) j)) ∧ Hid (Below (w2.heap.size + 1) w4 wr)) (fun i _ => el' - ((intOf i).toNat - el))
    case atStart => exact ⟨0, el, Nat.zero_le _, Lib.hid rfl, rfl, HO4, Lib.hid (Below.refl _ _)⟩
    case round =>
      obtain ⟨j, q, hj, HQ, rfl, hrow, hbw⟩ := hrel
      have HSW2 := Lib.hid (HS2.out.trans ((HB4.out.trans (hbw.out.mono (by omega))).mono HS2.out.size))
      by_cases hlt : j < el'
      · have hjQ : j < (ends 0 Qs).length := by rw [ends_length, ← HEL'.out]; exact hlt
        have hget := movedL_get fl (ends 0 Ps) (ends 0 Qs) j hjQ
        have hset := movedL_set fl (ends 0 Ps) (ends 0 Qs) j hjQ
        have hx := ends_le 0 Qs _ (List.getElem_mem hjQ)
        rw [ends_length, ← HEL.out, ← HQ.out] at hget hset
        generalize (ends 0 Qs)[j] = x at *
        obtain ⟨g, rfl, hgl, hcell⟩ := hrow.out.at _ _ hget
        have HSET := Lib.hid hset
        have hx2 : (x : Int) ≤ 65536 := by have := HFL'.out; omega
        have q2 : (q : Int) < (n : Int) := by have := HNN.out; have := HQ.out; omega
        have hld2 : ∀ W', Below wr.heap.size wr W' → W'.cell? ⟨w.heap.size, 0, none⟩ = some (.slice da fl dc) ∧ W'.cell? ⟨w.heap.size, 1, none⟩ = some (.slice ea el ec) ∧ W'.cell? ⟨g, q, none⟩ = some (.int .i64 (x : Nat)) := fun W' hb =>
          ⟨(hld _ (HSW2.out.trans (hb.mono HSW2.out.size))).1, (hld _ (HSW2.out.trans (hb.mono HSW2.out.size))).2.1, below_cells hb _ _ hcell⟩
        have hw3 : IntKind.i64.wrap ((x : Int) + (fl : Int)) = (x : Int) + (fl : Int) := by rw [IntKind.wrap_i64]; omega
        clear hget hset hx hjQ
        go_wp2_with fail
        refine wp_region_float (fun W' => Below wr.heap.size wr W') 7 [0, 1, 2, 3, 4] [5, 6] (by kernel_rfl) (by kernel_rfl) (fun _ _ _ d _ h => by cases d <;> exact h) (Below.refl _ _).drew ?_
        simp only [List.map_cons, List.map_nil, List.getD_cons_zero, List.getD_cons_succ, List.drop_succ_cons, List.drop_zero]
        refine takes_move (.tmp 7) (.slice (some ⟨g, 0, none⟩) n vc) rfl rfl rfl ?_
        simp only [Act.put, List.setIfInBounds_toArray, List.set_cons_zero, List.set_cons_succ]
        refine takes_move (.tmp 8) (.int .i64 (q : Nat)) rfl rfl rfl ?_
        simp only [Act.put, List.setIfInBounds_toArray, List.set_cons_zero, List.set_cons_succ]
        refine takes_by (.pointer (some ⟨g, q, none⟩)) rfl (fun W' _ => by go_simp) ?_
        simp only [Act.put, List.setIfInBounds_toArray, List.set_cons_zero, List.set_cons_succ]
        refine takes_by (.int .i64 (x : Nat)) rfl (fun W' hS => by obtain ⟨h0, h1, h2⟩ := hld2 W' hS; go_simp) ?_
        simp only [Act.put, List.setIfInBounds_toArray, List.set_cons_zero, List.set_cons_succ]
        refine takes_by (.agg #[.slice da fl dc, .slice ea el ec]) rfl (fun W' hS => by obtain ⟨h0, h1, h2⟩ := hld2 W' hS; go_simp) ?_
        simp only [Act.put, List.setIfInBounds_toArray, List.set_cons_zero, List.set_cons_succ]
        unfold wpTakes
        refine mids_call 23 #[.agg #[.slice da fl dc, .slice ea el ec]] rfl (by go_simp) (len_any (HRW.out.grown (HSW2.out.trans ((Below.refl wr.heap.size wr).drew.mono HSW2.out.size)))) ?_
        rw [← HFL.out]
        rintro e w5 ⟨rfl, hb5⟩
        have HS5 : Hid (Below wr.heap.size wr w5) := Lib.hid ((Below.refl wr.heap.size wr).drew.trans (hb5.mono (by simp)))
        refine ⟨_, rfl, HS5.out, ?_⟩
        clear hb5
        simp only [Act.put, List.setIfInBounds_toArray, List.set_cons_zero, List.set_cons_succ]
        refine mids_by (.int .i64 ((x + fl : Nat) : Int)) rfl (by go_simp) HS5.out ?_
        simp only [Act.put, List.setIfInBounds_toArray, List.set_cons_zero, List.set_cons_succ]
        unfold wpMids
        have hrow5 := Lib.hid (RowV.grown hrow.out HS5.out)
        have kc := (hld2 _ HS5.out).2.2
        have kz : w5.frozen? ⟨g, q, none⟩ = false := by
          have := (HS5.out.frozen (p := ⟨g, q, none⟩) hgl)
          rw [this]
          obtain ⟨g', cap, hv, _, _⟩ := row_some hrow.out (by have := HQ.out; have := HEL.out; have := HEL'.out; rw [List.length_map, movedL_len, ends_length, ends_length]; omega)
          rcases hrow.out.2 with ⟨hv, _⟩ | ⟨g', cap', cur, hv, hb, hh, _⟩
          · cases hv
          · simp only [Value.slice.injEq, Option.some.injEq, Addr.mk.injEq, and_true] at hv
            obtain ⟨rfl, _, _⟩ := hv
            exact cells_free hh _
        have hgl5 : g < w5.heap.size := by have := HS5.out.size; omega
        have hgb : Hid (w2.heap.size + 1 ≤ g) := Lib.hid (hrow.out.lt g rfl).1
        have hk5 := row_set hrow5.out q (x + fl) (by have := HQ.out; have := HEL.out; have := HEL'.out; rw [movedL_len, ends_length, ends_length]; omega)
        rw [HSET.out] at hk5
        have HK5 := Lib.hid hk5
        clear hld2 hcell hk5 hw3
        go_wp2_with fail
        go_roundw
        case rel => exact ⟨j + 1, q + 1, by omega, Lib.hid (by have := HQ.out; omega), by go_num, HK5, Lib.hid (hbw.out.trans ((HS5.out.mono (by have := hbw.out.size; have := HB0.out; omega)).trans ((Below.refl _ _).setCell (p := ⟨g, q, none⟩) hgb.out _)))⟩
        case measure => have := HQ.out; simp [intOf]; omega
      · obtain rfl : j = el' := by omega
        obtain rfl : q = n := by have := HQ.out; have := HNN.out; omega
        have HROW : Hid (RowN wr (w2.heap.size + 1) (.slice va q vc) (ends 0 (Ps ++ Qs))) := Lib.hid (by
          have := hrow.out
          rwa [HEL'.out, HFL.out, movedL_all] at this)
        have ex0 := (hld _ HSW2.out).1
        have ex1 := (hld _ HSW2.out).2.1
        have ex2 := (hld _ HSW2.out).2.2.1
        have ex3 := (hld _ HSW2.out).2.2.2
        have HWW := Lib.hid (HWB.out.trans (HSW2.out.mono HWB.out.size))
        have hcat := Lib.hid (catB_two (RowV.src (RowV.grown HD.out HWW.out)) (RowV.src (RowV.grown HD'.out HWW.out)) (by rw [← HFL.out, ← HFL'.out]; omega))
        clear hld
        go_wp2_with (go_at_call 26; fail)
        refine hcat.out.mono ?_
        rintro e w7 ⟨v7, rfl, ho7, hb7⟩
        have HO7 := Lib.hid ho7
        have HB7 := Lib.hid hb7
        have hs1 := HSW2.out.size
        have hcc7 := Lib.hid ((hb7.block (w.heap.size + 1 + 1) (by have := HWS.out; omega)).trans ((HSW2.out.block (w.heap.size + 1 + 1) (by have := HWS.out; omega)).trans HW2.out))
        have gc0 : w7.cell? ⟨w.heap.size + 1 + 1, 0, none⟩ = some (.slice none 0 0) := cells_cell hcc7.out rfl
        have gc1 : w7.cell? ⟨w.heap.size + 1 + 1, 1, none⟩ = some (.slice none 0 0) := cells_cell hcc7.out rfl
        have gz0 : w7.frozen? ⟨w.heap.size + 1 + 1, 0, none⟩ = false := cells_free hcc7.out _
        have gz1 : w7.frozen? ⟨w.heap.size + 1 + 1, 1, none⟩ = false := cells_free hcc7.out _
        have hlt7 : w.heap.size + 1 + 1 < w7.heap.size := lt_of_block hcc7.out
        obtain ⟨v7a, v7c, hf7, _, _⟩ := ho7.form
        clear ho7 hb7 hcat
        generalize (Ps.flatten ++ Qs.flatten).length = xl at *
        subst hf7
        go_wp2_with fail
        generalize hWF : World.setCell _ _ _ = WF
        have ht : WF.heap[w.heap.size + 1 + 1]? = some (.cells #[.slice v7a xl v7c, .slice va q vc] 29 (0, 0)) := by rw [← hWF]; exact two_cells hcc7.out
        have hfr : Fr [w.heap.size + 1 + 1] w7 WF := by rw [← hWF]; exact two_fr _ _ _ _
        have hb3 : Below w.heap.size w7 WF := by rw [← hWF]; exact two_below (by omega) _ _
        clear hWF
        have hw1 := HWW.out.size
        have hw3 := HWS.out
        refine bodyPost_ret (v := .tuple #[.agg #[.slice v7a xl v7c, .slice va q vc], .int .i64 0]) (by simp [results, Try.results20, go_sem, cells_cell ht (o := 0) rfl, cells_cell ht (o := 1) rfl]) rfl ⟨_, by rw [HER.out], ?_, ?_⟩
        · rw [HNP.out.1 (by trivial)]
          refine ⟨⟨_, _, rfl, RowV.lower (hfr.row (base := wr.heap.size + 1) ?_ ?_) (by omega), RowV.lower (hfr.row ?_ ?_) (b := w2.heap.size + 1) (by omega)⟩, fun p hp => ?_, ?_, ?_⟩
          · rw [List.flatten_append]; exact HO7.out
          · intro g hg hm
            have := (HO7.out.lt g hg).1
            simp at hm
            omega
          · exact RowV.grown HROW.out HB7.out
          · intro g hg hm
            have := (HROW.out.lt g hg).1
            simp at hm
            omega
          · rcases List.mem_append.1 hp with h | h
            · exact HR.out.ne p h
            · exact HS.out.ne p h
          · rw [List.length_append, ← HEL.out, ← HEL'.out]; exact HM1.out
          · rw [List.flatten_append, List.length_append, ← HFL.out, ← HFL'.out]; exact HM2.out
        · exact HWW.out.trans ((HB7.out.mono (by omega)).trans hb3)
  all_goals (
    have gc0 : w2.cell? ⟨w.heap.size + 1 + 1, 0, none⟩ = some (.slice none 0 0) := cells_cell hcc.out rfl
    have gc1 : w2.cell? ⟨w.heap.size + 1 + 1, 1, none⟩ = some (.slice none 0 0) := cells_cell hcc.out rfl
    have gz0 : w2.frozen? ⟨w.heap.size + 1 + 1, 0, none⟩ = false := cells_free hcc.out _
    have gz1 : w2.frozen? ⟨w.heap.size + 1 + 1, 1, none⟩ = false := cells_free hcc.out _
    go_wp2_with fail
    generalize hWF : World.setCell _ _ _ = WF
    have ht : WF.heap[w.heap.size + 1 + 1]? = some (.cells #[.slice none 0 0, .slice none 0 0] 29 (0, 0)) := by rw [← hWF]; exact two_cells hcc.out
    have hb3 : Below w.heap.size w2 WF := by rw [← hWF]; exact two_below (by omega) _ _
    clear hWF
    refine bodyPost_ret (by simp [results, Try.results20, go_sem, cells_cell ht (o := 0) rfl, cells_cell ht (o := 1) rfl]; rfl) rfl ⟨zeroRope, by rw [HER.out]; rfl, ?_, ?_⟩
    · rw [HNP.out.2 (by decide)]; exact RopeAt.zero _ _
    · exact HWB.out.trans ((HS2.out.mono HWB.out.size).trans hb3))
end Go.Proofs.Ytkdbkamjaaehfaa
