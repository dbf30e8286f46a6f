/- A slice of integers of a law's own that may begin inside its block; what is parked at one spot alone. -/
import Derived.Test.YtcdimopiaanfbaaDoorPQPure
namespace Go.Proofs.YtcdimopiaanfbaaDoor
open Go.RowKit Go.Sort
set_option linter.unusedVariables false
set_option linter.unusedSimpArgs false

theorem wpList_unguard {P : Program} {ops : Array Oper} {Q : Exit → Act → World → Prop} {a : Act} {w : World} {rest : List Oper} {o : Oper} (hw : Region.wanted o (yielded ops a.tmps) = true) (h : wpList P ops Q ({ o with guard := none } :: rest) a w) : wpList P ops Q (o :: rest) a w := by
  unfold wpList at h ⊢
  rw [if_pos hw]
  have hn : Region.wanted { o with guard := none } (yielded ops a.tmps) = true := by simp [Region.wanted]
  rw [if_pos hn] at h
  exact h

/-- The block of a slice. -/
def blk : Value → List Nat
  | .slice (some a) _ _ => [a.block]
  | _ => []
def OR (w : World) (B : Nat) (v : Value) (X : List Int) : Prop :=
  (v = .slice none 0 0 ∧ X = []) ∨ ∃ g off c cu, v = .slice (some ⟨g, off, none⟩) X.length c ∧ B ≤ g ∧ w.heap[g]? = some (.cells cu 3 (0, 0)) ∧ X.length ≤ c ∧ c ≤ maxLen ∧ off + c ≤ cu.size ∧ ∀ j x, X[j]? = some x → cu[off + j]? = some (.int .i64 x)
section
variable {w w' : World} {B : Nat} {v : Value} {X : List Int} {S : Nat → Prop}
theorem OR.nil (w : World) (B : Nat) : OR w B (.slice none 0 0) [] := .inl ⟨rfl, rfl⟩
theorem OR.form (h : OR w B v X) : ∃ a c, v = .slice a X.length c ∧ X.length ≤ c ∧ c ≤ maxLen := by
  rcases h with ⟨rfl, rfl⟩ | ⟨g, off, c, cu, rfl, _, _, h1, h2, _⟩
  · exact ⟨none, 0, rfl, Nat.le_refl _, Nat.zero_le _⟩
  · exact ⟨_, c, rfl, h1, h2⟩
theorem OR.src (h : OR w B v X) : Src TI w v X := by
  rcases h with ⟨rfl, rfl⟩ | ⟨g, off, c, cu, rfl, hB, hh, h1, h2, h3, h4⟩
  · exact .inl ⟨rfl, rfl⟩
  · refine .inr ⟨g, off, c, rfl, h1, h2, lt_of_block hh, fun j x hx i u hu => ?_⟩
    match i with
    | 0 =>
      simp [TI] at hu
      subst hu
      have := h4 j x hx
      have e : off + j * TI.s + 0 = off + j := by simp [TI]
      rw [e]
      exact cells_cell hh this
    | i + 1 => simp [TI] at hu
theorem OR.of_row (h : Row TI w B v X) : OR w B v X := by
  rcases h.2 with ⟨rfl, hn⟩ | ⟨g, cap, cu, rfl, hb, hh, h1, h2, h3, h4⟩
  · exact .inl ⟨rfl, List.eq_nil_of_length_eq_zero hn⟩
  · refine .inr ⟨g, 0, cap, cu, rfl, hb, hh, h1, h2, by rw [h3]; simp [TI], fun j x hx => ?_⟩
    have h5 := flt_get TI_ok.len hx (j := 0) (u := .int .i64 x) rfl
    rw [← h4] at h5
    rw [List.getElem?_take] at h5
    split at h5
    · simpa [TI] using h5
    · cases h5
theorem OR.frl (h : OR w B v X) (hf : FrL S w w') : OR w' B v X := by
  rcases h with h | ⟨g, off, c, cu, e, hB, hh, r⟩
  · exact .inl h
  · exact .inr ⟨g, off, c, cu, e, hB, hf.block hh (by decide) (by decide), r⟩
theorem OR.fr {F : List Nat} (h : OR w B v X) (hf : Fr F w w') (hn : ∀ x ∈ Proofs.YtcdimopiaanfbaaDoor.blk v, x ∉ F) : OR w' B v X := by
  rcases h with h | ⟨g, off, c, cu, e, hB, hh, r⟩
  · exact .inl h
  · exact .inr ⟨g, off, c, cu, e, hB, hf.same hh (hn g (by rw [e]; simp [Proofs.YtcdimopiaanfbaaDoor.blk])), r⟩
theorem OR.below (h : OR w B v X) (hb : Below w.heap.size w w') : OR w' B v X := by
  rcases h with h | ⟨g, off, c, cu, e, hB, hh, r⟩
  · exact .inl h
  · exact .inr ⟨g, off, c, cu, e, hB, (hb.block _ (lt_of_block hh)).trans hh, r⟩
theorem OR.blk (h : OR w B v X) : ∀ x ∈ blk v, B ≤ x ∧ x < w.heap.size ∧ ∃ cu, w.heap[x]? = some (.cells cu 3 (0, 0)) := by
  rcases h with ⟨rfl, rfl⟩ | ⟨g, off, c, cu, rfl, hB, hh, r⟩
  · intro x hx; cases hx
  · intro x hx
    simp [Proofs.YtcdimopiaanfbaaDoor.blk] at hx
    subst hx
    exact ⟨hB, lt_of_block hh, cu, hh⟩
theorem OR.tail {a : Option Addr} {n c : Nat} {x : Int} (h : OR w B (.slice a n c) (x :: X)) : ∃ g off, a = some ⟨g, off, none⟩ ∧ n = X.length + 1 ∧ 1 ≤ c ∧ g < w.heap.size ∧ w.cell? ⟨g, off, none⟩ = some (.int .i64 x) ∧ OR w B (.slice (some ⟨g, off + 1, none⟩) X.length (c - 1)) X := by
  rcases h with ⟨_, h⟩ | ⟨g, off, c', cu, e, hB, hh, h1, h2, h3, h4⟩
  · cases h
  · simp only [Value.slice.injEq, List.length_cons] at e h1
    obtain ⟨rfl, rfl, rfl⟩ := e
    refine ⟨g, off, rfl, rfl, by omega, lt_of_block hh, cells_cell hh (by have := h4 0 x rfl; simpa using this), .inr ⟨g, off + 1, c - 1, cu, rfl, hB, hh, by omega, by omega, by omega, fun j y hy => ?_⟩⟩
    have := h4 (j + 1) y (by simpa using hy)
    rw [show off + 1 + j = off + (j + 1) by omega]
    exact this
theorem OR.shut {g off : Nat} {x : Int} (h : OR w B (.slice (some ⟨g, off, none⟩) 1 1) [x]) : OR w B (.slice (some ⟨g, off, none⟩) 0 0) [] := by
  rcases h with ⟨_, h⟩ | ⟨g', off', c', cu, e, hB, hh, h1, h2, h3, h4⟩
  · cases h
  · simp only [Value.slice.injEq, Option.some.injEq, Addr.mk.injEq, and_true] at e
    obtain ⟨⟨rfl, rfl⟩, -, rfl⟩ := e
    exact .inr ⟨g, off, 0, cu, rfl, hB, hh, Nat.le_refl _, Nat.zero_le _, by omega, fun j y hy => by simp at hy⟩
theorem wpList_append_or {ops : Array Oper} {rest : List Oper} {o : Oper} {a : Act} {Q : Exit → Act → World → Prop} (hgd : o.guard = none) (s x : Operand)
    (ho : o.op = .call { callee := .builtin .append, args := #[s, x], argTypes := #[28, 28] }) (hs : a.eval s = v) {b : Nat} {y : Int} (hx : a.eval x = .slice (some ⟨b, 0, none⟩) 1 1) (h0 : OR w B v X) (hB : B ≤ w.heap.size)
    (hy : w.cell? ⟨b, 0, none⟩ = some (.int .i64 y)) (h63 : X.length + 1 ≤ 1000000)
    (h : ∀ v' w', OR w' B v' (X ++ [y]) → Fr (blk v) w w' → wpList Tryd.prog ops Q rest (a.put o.dst v') w') : wpList Tryd.prog ops Q (o :: rest) a w := by
  obtain ⟨i0, z, hi0, hz0, hz1, hz2, hz3⟩ := TI_ok.info
  have hnews : ∀ (j : Nat) (u : Value), [Value.int .i64 y][j]? = some u → w.cell? ((⟨b, 0, none⟩ : Addr).add j) = some u := fun j u hu => by
    match j with
    | 0 => simp at hu; subst hu; rw [Go.WideShapes.add_plain]; exact hy
    | j + 1 => simp at hu
  rcases h0 with ⟨rfl, rfl⟩ | ⟨g, off, c, cu, rfl, hbg, hh, h1, h2, h3, h4⟩
  · refine wpList_append_grows w hgd s x 28 ho 3 i0 z 1 i0.bytes TI_ok.und hi0 hz0 hz1 rfl hz3 (by decide) none 0 0 [] hs (fun _ => ⟨rfl, rfl⟩) (by simp) (fun b hb => by cases hb) ⟨b, 0, none⟩ 1 1 [Value.int .i64 y] hx rfl hnews (by simp [Value.oneCell']) (by omega) (by unfold maxLen; omega) (by omega) ?_
    intro v' w' how hgr
    exact h v' w' (OR.of_row (X := [y]) (show Row TI w' B v' [y] from ownsRow_mono how hB)) (fr_grown hgr)
  · by_cases hroom : X.length + 1 ≤ c
    · refine wpList_plain hgd fun K hK => ?_
      have hst := run_storeCells_at Tryd.prog g (off + X.length) 3 [Value.int .i64 y] 0 cu w hh (by simp; omega) (by simp [Value.oneCell'])
      simp only [Nat.add_zero] at hst
      have hf := run_firstCells_some (P := Tryd.prog) w 1 1 ⟨b, 0, none⟩ 1 1 [Value.int .i64 y] rfl hnews
      have hz1' : i0.size = 1 := hz1
      have hrun : (Builtin.append_ #[28, 28] o.type #[.slice (some ⟨g, off, none⟩) X.length c, .slice (some ⟨b, 0, none⟩) 1 1]).run Tryd.prog w = .ok (.slice (some ⟨g, off, none⟩) (X.length + 1) c) (w.setRow g (cu.toList.take (off + X.length) ++ [Value.int .i64 y] ++ cu.toList.drop (off + X.length + 1)).toArray) := by
        have hu := TI_ok.und
        simp only [TI] at hu
        simp [Builtin.append_, run_underlying hu, sizeOf, typeInfo, show Tryd.prog.info? 3 = some i0 from hi0, hz1', Builtin.lenOf, hroom, hf, Go.WideShapes.add_plain, hst]
      unfold Oper.wp
      simp [execOp, ho, resolve, invoke, builtin, hs, hx, hrun, Result.andThen]
      refine hK _ _ (h _ _ (.inr ⟨g, off, c, _, by simp, hbg, setRow_heap w g cu _ 3 _ hh, by simp; omega, h2, by simp; omega, fun j u hu => ?_⟩) ⟨rfl, rfl, rfl, by simp, fun k _ hk => setRow_other w g k _ (fun e => hk (by simp [blk, e]))⟩)
      rw [← Array.getElem?_toList]
      simp only [List.append_assoc]
      by_cases hj : j < X.length
      · rw [List.getElem?_append_left hj] at hu
        rw [List.getElem?_append_left (by simp; omega), List.getElem?_take, if_pos (by omega)]
        have := h4 j u hu
        simpa using this
      · rw [List.getElem?_append_right (by omega)] at hu
        have hj0 : j = X.length := by
          have := (List.getElem?_eq_some_iff.1 hu).1
          simp at this
          omega
        subst hj0
        simp at hu
        subst hu
        rw [List.getElem?_append_right (by simp; omega)]
        have : off + X.length - (cu.toList.take (off + X.length)).length = 0 := by simp; omega
        rw [this]
        rfl
    · refine wpList_append_grows w hgd s x 28 ho 3 i0 z 1 i0.bytes TI_ok.und hi0 hz0 hz1 rfl hz3 (by decide) (some ⟨g, off, none⟩) X.length c (flt TI.enc X) hs (fun hb => by cases hb) (by rw [flt_len TI_ok.len]; rfl) (fun b' hb => ?_) ⟨b, 0, none⟩ 1 1 [Value.int .i64 y] hx rfl hnews (by simp [Value.oneCell']) (by omega) (by unfold maxLen; omega) ?_ ?_
      · cases hb
        intro j u hu
        obtain ⟨x', hx', hc⟩ := flt_at TI_ok.len TI_ok.pos hu
        rw [Go.WideShapes.add_plain]
        have e1 : j / TI.s = j := by simp [TI]
        have e2 : j % TI.s = 0 := by simp [TI, Nat.mod_one]
        rw [e1] at hx'
        rw [e2] at hc
        simp [TI] at hc
        subst hc
        exact cells_cell hh (h4 j x' hx')
      · have : (X.length + 1) * i0.bytes ≤ 1000000 * 100 := Nat.mul_le_mul h63 hz2
        omega
      · intro v' w' how hgr
        have hr : Row TI w' B v' (X ++ [y]) := by
          unfold Row
          rw [List.length_append, flt_append]
          exact ownsRow_mono how hB
        exact h v' w' (OR.of_row hr) ((fr_grown hgr).mono (fun _ hx => by simp at hx))
end
theorem KL.or {w0 w w' : World} {l : Ll} {z : Zt} {G : Nat} {v : Value} {X : List Int} (h : KL w0 w l z G) (hr : OR w w0.heap.size v X) (hf : Fr (blk v) w w') : KL w0 w' l z G := by
  refine h.fr hf (fun x hx => ?_)
  obtain ⟨h1, _, cu, h2⟩ := hr.blk x hx
  exact ⟨h1, _, _, h2, by decide, by decide, by decide, by decide, by decide⟩

/-- What ParkHolds knows between its calls. -/
structure HL (w0 w : World) (l : Ll) (z : Zt) (G : Nat) (one : Sp) (q : Value) : Prop where
  K : KL w0 w l z G
  ao : ∀ x ∈ z.L, x.2 = one
  q : OR w w0.heap.size q (cat (wt one z.L))
section
variable {w0 w w' : World} {l : Ll} {z z' : Zt} {G G' : Nat} {one two : Sp} {q : Value}
theorem wt_all (h : ∀ x ∈ z.L, x.2 = one) : wt one z.L = z.L.map Prod.fst := by
  unfold wt
  rw [List.filter_eq_self.2 (fun x hx => by simpa using h x hx)]
theorem wt_none (h : ∀ x ∈ z.L, x.2 = one) (hne : one ≠ two) : wt two z.L = [] := by
  unfold wt
  rw [List.filter_eq_nil_iff.2 (fun x hx => by have := h x hx; simp; rw [this]; exact hne)]
  rfl
theorem HL.grown (h : HL w0 w l z G one q) (hb : Below w.heap.size w w') : HL w0 w' l z G one q := ⟨h.K.grown hb, h.ao, h.q.below hb⟩
theorem HL.mono (h : HL w0 w l z G one q) (hG : G ≤ G') : HL w0 w l z G' one q := ⟨h.K.mono hG, h.ao, h.q⟩
theorem stepC_L (c : Nat) (z : Zt) (N : Int) : (stepC c z N).2.L = z.L := by
  unfold stepC
  cases numI z N with
  | none => rfl
  | some i => simp only; split <;> rfl
theorem stepC_len (c : Nat) (z : Zt) (N : Int) : (stepC c z N).2.S.length = z.S.length := by
  unfold stepC
  cases numI z N with
  | none => rfl
  | some i => simp only; split <;> simp [Zt.step]
theorem HL.step (h : HL w0 w l z G one q) (c : Nat) (N : Int) (hL : LS w0.heap.size (fun x => w0.heap.size ≤ x) w' l (stepC c z N).2 G') (hF : FrL (fun x => w0.heap.size ≤ x) w w') : HL w0 w' l (stepC c z N).2 G' one q :=
  ⟨h.K.did hL hF, by rw [stepC_L]; exact h.ao, by rw [stepC_L]; exact h.q.frl hF⟩
theorem pkC_or (z : Zt) (N : Int) (hs : SpOk one) : (∃ C : Int, C ≠ 0 ∧ pkC z N one = (C, z)) ∨ ∃ i : Nat, N = ((i : Nat) : Int) ∧ pkC z N one = (0, z.park i one) := by
  unfold pkC
  rcases numI_or z N with ⟨e, _⟩ | ⟨i, rfl, hi, e⟩
  · rw [e]; exact .inl ⟨2, by decide, rfl⟩
  · rw [e]
    simp only [if_pos hs]
    by_cases h1 : z.S.getD i 0 = 1
    · rw [if_pos h1]; exact .inr ⟨i, rfl, rfl⟩
    · rw [if_neg h1]; exact .inl ⟨8, by decide, rfl⟩
theorem park_wt (z : Zt) (i : Nat) (one : Sp) : cat (wt one (z.park i one).L) = cat (wt one z.L) ++ [((i : Nat) : Int)] := by
  show cat (wt one (z.L ++ [(i, one)])) = _
  rw [wt_append, cat_append]
  simp [wt, cat]
theorem wkC_or (z : Zt) (hs : SpOk one) : (wt one z.L = [] ∧ wkC z one = (0, 9, z)) ∨ ∃ i ns, wt one z.L = i :: ns ∧ wkC z one = (((i : Nat) : Int), 0, z.leave i) := by
  unfold wkC
  rw [if_pos hs]
  cases hw : wt one z.L with
  | nil => exact .inl ⟨rfl, rfl⟩
  | cons i ns => exact .inr ⟨i, ns, rfl, rfl⟩
theorem leave_wt (hn : (z.L.map Prod.fst).Nodup) {i : Nat} {ns : List Nat} (h : wt one z.L = i :: ns) : wt one (z.leave i).L = ns := by
  show wt one (woL i z.L) = _
  rw [wt_woL, h]
  have h1 := wt_nodup (s := one) hn
  rw [h, List.nodup_cons] at h1
  rw [List.filter_cons]
  simp only [ne_eq, not_true_eq_false, decide_false, Bool.false_eq_true, if_false]
  exact List.filter_eq_self.2 fun x hx => by
    have : x ≠ i := fun e => h1.1 (e ▸ hx)
    simpa using this
theorem leave_ao (h : ∀ x ∈ z.L, x.2 = one) (i : Nat) : ∀ x ∈ (z.leave i).L, x.2 = one := fun x hx => h x (mem_woL.1 hx).1
theorem leave_wt2 (z : Zt) (i : Nat) (one : Sp) : cat (wt one (z.leave i).L) = woR ((i : Nat) : Int) (cat (wt one z.L)) := by
  show cat (wt one (woL i z.L)) = _
  rw [wt_woL, cat_filter]
  rfl
theorem lvC_or (hz : ZK z) (h : ∀ x ∈ z.L, x.2 = one) (N : Int) : (∃ C : Int, C ≠ 0 ∧ lvC z N = ((0, 0), C, z)) ∨ ∃ i : Nat, N = ((i : Nat) : Int) ∧ lvC z N = (one, 0, z.leave i) := by
  by_cases hc : (whC z N).2 = 0
  · obtain ⟨i, rfl, hm⟩ := whC_ok hz hc
    right
    refine ⟨i, rfl, ?_⟩
    have e := h _ hm
    simp only at e
    rw [e] at hm
    exact lvC_in hz hm
  · left
    refine ⟨_, hc, ?_⟩
    unfold lvC
    rw [if_neg hc]
/-- Who is parked waits. -/
theorem HL.parked (h : HL w0 w l z G one q) {i : Nat} (hi : i < z.S.length) : (z.S.getD i 0 == 2) = decide (((i : Nat) : Int) ∈ cat (wt one z.L)) := by
  have h1 := h.K.K.zk.st i _ (List.getElem?_eq_getElem hi)
  have h2 : z.S.getD i 0 = z.S[i] := by simp [hi]
  rw [h2, wt_all h.ao]
  have h3 : ((i : Nat) : Int) ∈ cat (z.L.map Prod.fst) ↔ i ∈ z.L.map Prod.fst := by
    unfold cat
    constructor
    · intro hm
      obtain ⟨j, hj, e⟩ := List.mem_map.1 hm
      have : j = i := by omega
      subst this
      exact hj
    · intro hm; exact List.mem_map.2 ⟨i, hm, rfl⟩
  rw [Bool.eq_iff_iff]
  simp only [beq_iff_eq, decide_eq_true_eq]
  rw [h3, h1]
end
end Go.Proofs.YtcdimopiaanfbaaDoor
