/- At, Close, New. -/
import Derived.Test.YtbefiilbpbbjnaaECall
namespace Go.Proofs.Ytbefiilbpbbjnaa
open Go.RowKit Go.Sort
set_option linter.unusedVariables false
set_option linter.unusedSimpArgs false

set_option maxHeartbeats 800000 in
theorem slAt_no {w : World} {t g c : Nat} {N : Int} {P : Tab} (h : TAt w t g c P) (hn : NoN P N) :
    Calls Try.prog 17 #[.pointer (some ⟨t, 0, none⟩), .int .i64 N] w fun e w' => e = .returned (.tuple #[.agg #[.int .i64 0, .int .i64 0], .int .i64 9]) ∧ Grn w w' := by
  have hu := Lib.hid (slTaken_no (h.grown (below_alloc w (.cells #[.int .i64 0, .int .i64 0] 34))) hn)
  clear h hn
  go_enter Try.func17, Try.ntmps17
  go_wp2_with (go_at_call 38; refine hu.out.mono ?_; rintro e w2 ⟨rfl, rfl⟩)
  refine bodyPost_ret (v := .tuple #[.agg #[.int .i64 0, .int .i64 0], .int .i64 9]) (by simp [results, Try.results17, go_sem]) rfl ⟨rfl, ?_⟩
  exact (Grn.refl w).alloc _
set_option maxHeartbeats 800000 in
theorem slAt_nil {w : World} {u : Value} (h : NoT w u) (N : Int) :
    Calls Try.prog 17 #[u, .int .i64 N] w fun e w' => e = .returned (.tuple #[.agg #[.int .i64 0, .int .i64 0], .int .i64 1]) ∧ Grn w w' := by
  have hu := Lib.hid (slTaken_nil (h.grown (below_alloc w (.cells #[.int .i64 0, .int .i64 0] 34))) N)
  obtain ⟨a, rfl⟩ := h.form
  clear h
  go_enter Try.func17, Try.ntmps17
  go_wp2_with (go_at_call 38; refine hu.out.mono ?_; rintro e w2 ⟨rfl, rfl⟩)
  refine bodyPost_ret (v := .tuple #[.agg #[.int .i64 0, .int .i64 0], .int .i64 1]) (by simp [results, Try.results17, go_sem]) rfl ⟨rfl, ?_⟩
  exact (Grn.refl w).alloc _
set_option maxHeartbeats 800000 in
theorem slAt_yes {w : World} {t g c n G : Nat} {v : Int} {P : Tab} (h : TAt w t g c P) (hp : P[n]? = some ⟨true, G, v⟩) :
    Calls Try.prog 17 #[.pointer (some ⟨t, 0, none⟩), .int .i64 ((n : Nat) : Int)] w fun e w' => e = .returned (.tuple #[.agg #[.int .i64 ((n : Nat) : Int), .int .i64 ((G : Nat) : Int)], .int .i64 0]) ∧ Grn w w' := by
  obtain ⟨W, hW⟩ : ∃ W, w.alloc (.cells #[.int .i64 0, .int .i64 0] 34) = W := ⟨_, rfl⟩
  have hg : Grn w W := by rw [← hW]; exact (Grn.refl w).alloc _
  have hT := h.grown hg.below
  have hB : W.heap[w.heap.size]? = some (.cells #[.int .i64 0, .int .i64 0] 34 (0, 0)) := by rw [← hW]; exact block_new _ _ _ rfl
  have r0 := hT.r.c0 hp
  have r1 := hT.r.c1 hp
  have r2 := hT.r.c2 hp
  simp only at r0 r1 r2
  have HN := Lib.hid (slName_any W true ((G : Nat) : Int) v ((n : Nat) : Int))
  have hu := Lib.hid (slTaken_yes hT hp rfl)
  have HG := Lib.hid hg
  have HW := Lib.hid hW
  have HB := Lib.hid hB
  clear h hp hg hT hB hW
  go_enter Try.func17, Try.ntmps17
  go_wp2_with (go_at_call 38; fail)
  rw [HW.out]
  generalize hb : w.heap.size = b at *
  have Hb := Lib.hid hb
  clear hb
  go_wp2_with (go_at_call 38; fail)
  refine hu.out.mono ?_
  rintro e w2 ⟨rfl, rfl⟩
  go_wp2_with (go_at_call 35; fail)
  refine HN.out.mono ?_
  rintro e w3 ⟨rfl, hg3⟩
  have hB3 := (hg3.below.block _ (lt_of_block HB.out)).trans HB.out
  have b0 := cells_cell (o := 0) hB3 rfl
  have b1 := cells_cell (o := 1) hB3 rfl
  have z0 := cells_free hB3 0
  have z1 := cells_free hB3 1
  have hbl := lt_of_block hB3
  have HG3 := Lib.hid (HG.out.trans hg3)
  have hput := (cells_set (cells_set hB3 0 (.int .i64 ((n : Nat) : Int))) 1 (.int .i64 ((G : Nat) : Int)))
  have p0 := cells_cell (o := 0) hput rfl
  have p1 := cells_cell (o := 1) hput rfl
  clear hg3 hB3 hput r0 r1 r2
  go_wp2_with fail
  refine bodyPost_ret (v := .tuple #[.agg #[.int .i64 ((n : Nat) : Int), .int .i64 ((G : Nat) : Int)], .int .i64 0]) (by simp [results, Try.results17, go_sem, p0, p1]) rfl ⟨rfl, ?_⟩
  exact (HG3.out.set _ _ (by rw [Hb.out]; exact Nat.le_refl _)).set _ _ (by rw [Hb.out]; exact Nat.le_refl _)

set_option maxHeartbeats 800000 in
theorem slClose_bad {w : World} {a : Option Addr} {N k code : Int} (h : FindsAt w (.pointer a) N k code) (hc : code ≠ 0) :
    Calls Try.prog 19 #[.pointer a, .agg #[.int .i64 N, .int .i64 k]] w fun e w' => e = .returned (.tuple #[.int .i64 0, .int .i64 code]) ∧ Grn w w' := by
  have hu := Lib.hid (h _ (below_alloc w (.cells #[.int .i64 N, .int .i64 k] 34)))
  have h0 : (code == 0) = false := by simpa using hc
  have HC := Lib.hid hc
  clear h hc
  go_enter Try.func19, Try.ntmps19
  go_wp2_with (go_at_call 39; refine hu.out.mono ?_; rintro e w2 ⟨rfl, hg⟩)
  go_ret2
  exact ⟨rfl, ((Grn.refl w).alloc _).trans hg⟩
set_option maxHeartbeats 1600000 in
theorem slClose_yes {w : World} {t g c n G : Nat} {v : Int} {P : Tab} (h : TAt w t g c P) (hp : P[n]? = some ⟨true, G, v⟩) (hG : G ≤ 1000000) :
    Calls Try.prog 19 #[.pointer (some ⟨t, 0, none⟩), .agg #[.int .i64 ((n : Nat) : Int), .int .i64 ((G : Nat) : Int)]] w fun e w' => e = .returned (.tuple #[.int .i64 v, .int .i64 0]) ∧ TAt w' t g c (P.set n ⟨false, G + 1, 0⟩) ∧ Fr [g] w w' := by
  have hT := h.grown (below_alloc w (.cells #[.int .i64 ((n : Nat) : Int), .int .i64 ((G : Nat) : Int)] 34))
  have hu := Lib.hid (slFind_yes hT hp)
  have HT := Lib.hid hT
  have HP := Lib.hid hp
  have q1 : (0 : Int) ≤ (G : Int) := by omega
  have q2 : (G : Int) ≤ 1000000 := by omega
  clear h hT hp
  go_enter Try.func19, Try.ntmps19
  go_wp2_with (go_at_call 39; fail)
  refine hu.out.mono ?_
  rintro e w2 ⟨rfl, hg⟩
  have hT2 := HT.out.grown hg.below
  have r0 := hT2.r.c0 HP.out
  have r1 := hT2.r.c1 HP.out
  have r2 := hT2.r.c2 HP.out
  have f0 := hT2.r.free (n * 3)
  have f1 := hT2.r.free (n * 3 + 1)
  have f2 := hT2.r.free (n * 3 + 2)
  have hgl := hT2.lg
  have HG := Lib.hid (((Grn.refl w).alloc _).trans hg)
  have hf := ((fr_setCell w2 ⟨g, n * 3, none⟩ (.bool false)).trans' (fr_setCell _ ⟨g, n * 3 + 1, none⟩ (.int .i64 (((G + 1 : Nat) : Nat) : Int)))).trans' (fr_setCell _ ⟨g, n * 3 + 2, none⟩ (.int .i64 0))
  have HF := Lib.hid ((Fr.of_below HG.out.below [g]).trans' hf)
  have hT3 := hT2.step (hT2.r.put3 HP.out false (G + 1) 0) (by simp) hf
  rw [show (((G + 1 : Nat) : Nat) : Int) = ((G : Nat) : Int) + 1 by omega] at hT3 HF
  have HT2 := Lib.hid hT3
  clear hg hT2 hf hT3
  go_wp2_with fail
  go_ret2
  exact ⟨rfl, HT2.out, HF.out⟩

/-- The cells of the elements, one after the other. -/
def flt {α : Type} (e : α → List Value) : List α → List Value
  | [] => []
  | x :: r => e x ++ flt e r
section
variable {α : Type} {e : α → List Value} {s : Nat}
theorem flt_append (e : α → List Value) (A B : List α) : flt e (A ++ B) = flt e A ++ flt e B := by
  induction A with
  | nil => rfl
  | cons x r ih => show e x ++ flt e (r ++ B) = _; rw [ih, ← List.append_assoc]; rfl
theorem flt_len (h : ∀ x, (e x).length = s) (L : List α) : (flt e L).length = L.length * s := by
  induction L with
  | nil => simp [flt]
  | cons x r ih => show (e x ++ flt e r).length = _; rw [List.length_append, ih, h, List.length_cons, Nat.add_mul]; omega
theorem flt_get (h : ∀ x, (e x).length = s) {L : List α} {i j : Nat} {x : α} {u : Value} (hx : L[i]? = some x) (hu : (e x)[j]? = some u) : (flt e L)[i * s + j]? = some u := by
  induction L generalizing i with
  | nil => simp at hx
  | cons y r ih =>
    show (e y ++ flt e r)[i * s + j]? = _
    cases i with
    | zero =>
      simp at hx
      subst hx
      have := (List.getElem?_eq_some_iff.1 hu).1
      rw [Nat.zero_mul, Nat.zero_add, List.getElem?_append_left this]
      exact hu
    | succ i =>
      rw [List.getElem?_append_right (by rw [h, Nat.add_mul]; omega), h, Nat.add_mul]
      have := ih (i := i) (by simpa using hx)
      rw [show i * s + 1 * s + j - s = i * s + j by omega]
      exact this
/-- A cell belongs to an element. -/
theorem flt_at (h : ∀ x, (e x).length = s) (hs : 0 < s) {L : List α} {j : Nat} {u : Value} (hu : (flt e L)[j]? = some u) : ∃ x, L[j / s]? = some x ∧ (e x)[j % s]? = some u := by
  have hl : j < L.length * s := by rw [← flt_len h L]; exact (List.getElem?_eq_some_iff.1 hu).1
  have hk : j / s < L.length := Nat.div_lt_of_lt_mul (by rw [Nat.mul_comm]; exact hl)
  refine ⟨L[j / s], List.getElem?_eq_getElem hk, ?_⟩
  have hm : j % s < (e L[j / s]).length := by rw [h]; exact Nat.mod_lt _ hs
  have := flt_get h (List.getElem?_eq_getElem hk) (List.getElem?_eq_getElem hm)
  rw [show j / s * s + j % s = j by rw [Nat.mul_comm]; exact Nat.div_add_mod j s, hu] at this
  rw [List.getElem?_eq_getElem hm, ← this]
theorem flt_replicate (n : Nat) (x : α) (h : ∀ x, (e x).length = s) (hs : 0 < s) : flt e (List.replicate n x) = (madeCells (e x).toArray (n * s)).toList := by
  refine List.ext_getElem? fun j => ?_
  by_cases hj : j < n * s
  · have hl : (flt e (List.replicate n x)).length = n * s := by rw [flt_len h, List.length_replicate]
    obtain ⟨u, hu⟩ : ∃ u, (flt e (List.replicate n x))[j]? = some u := ⟨_, List.getElem?_eq_getElem (by rw [hl]; exact hj)⟩
    obtain ⟨y, hy, hyu⟩ := flt_at h hs hu
    rw [List.getElem?_replicate] at hy
    split at hy
    · cases hy
      rw [hu]
      have hm : j % s < (e x).length := by rw [h]; exact Nat.mod_lt _ hs
      unfold madeCells
      have h3 := List.getElem?_eq_some_iff.1 hyu
      simp [hj, h]
      rw [List.getElem?_eq_getElem hm]
      simp [h3.2]
    · cases hy
  · rw [List.getElem?_eq_none (by rw [flt_len h, List.length_replicate]; omega), List.getElem?_eq_none (by simp [size_madeCells]; omega)]
end
theorem encP_len (p : Pl) : (encP p).length = 3 := rfl
/-- A row that is owned has the places. -/
theorem prow_own {w : World} {base n g c : Nat} {P : Tab} (h : w.ownsRow base 79 3 (.slice (some ⟨g, 0, none⟩) n c) n (flt encP P)) : PRow w g P := by
  rcases h.2 with ⟨h0, _⟩ | ⟨g', cap, cur, he, hb, hh, h1, h2, h3, h4⟩
  · simp at h0
  · simp only [Value.slice.injEq, Option.some.injEq, Addr.mk.injEq] at he
    obtain ⟨⟨rfl, _⟩, _, _⟩ := he
    refine ⟨cur, hh, fun i p hp j u hu => ?_⟩
    have := flt_get encP_len hp hu
    rw [← h4, List.getElem?_take] at this
    split at this
    · simpa using this
    · cases this
theorem infoPlace : (Try.prog.info? 79).map (fun i => (i.zero, i.size, i.bytes)) = some (some (.agg #[.bool false, .int .i64 0, .int .i64 0]), 3, 24) := by kernel_rfl
theorem info_parts {P : Program} {e : TypeId} {x : Option Value × Nat × Nat} (h : (P.info? e).map (fun i => (i.zero, i.size, i.bytes)) = some x) : ∃ i, P.info? e = some i ∧ i.zero = x.1 ∧ i.size = x.2.1 ∧ i.bytes = x.2.2 := by
  cases hi : P.info? e with
  | none => rw [hi] at h; simp at h
  | some i => rw [hi] at h; simp at h; exact ⟨i, rfl, by rw [← h], by rw [← h], by rw [← h]⟩

set_option maxHeartbeats 400000 in
theorem slNew_bad (w : World) (c : Int) (h : c < 1 ∨ 128 < c) : Calls Try.prog 9 #[.int .i64 c] w fun e w' => e = .returned (.tuple #[.pointer none, .int .i64 2]) ∧ w' = w := by
  by_cases h1 : c < 1
  · go_enter Try.func9, Try.ntmps9
    go_wp2_with fail
    go_ret2
    exact ⟨rfl, rfl⟩
  · have h2 : 128 < c := by omega
    have h3 : decide (c < 1) = false := by simp; omega
    go_enter Try.func9, Try.ntmps9
    go_wp2_with fail
    go_ret2
    exact ⟨rfl, rfl⟩
set_option maxHeartbeats 1600000 in
theorem slNew_ok (w : World) (c : Nat) (h1 : 1 ≤ c) (h2 : c ≤ 128) : Calls Try.prog 9 #[.int .i64 ((c : Nat) : Int)] w fun e w' => ∃ t g, e = .returned (.tuple #[.pointer (some ⟨t, 0, none⟩), .int .i64 0]) ∧ TAt w' t g c (List.replicate c ⟨false, 0, 0⟩) ∧ Below w.heap.size w w' ∧ w.heap.size ≤ t ∧ w.heap.size ≤ g := by
  have e1 : (1 : Int) ≤ (c : Int) := by omega
  have e2 : (c : Int) ≤ 128 := by omega
  have e3 : decide ((c : Int) < 1) = false := by simp; omega
  have e4 : decide ((128 : Int) < (c : Int)) = false := by simp; omega
  obtain ⟨i0, hi0, hz0, hz1, hz2⟩ := info_parts infoPlace
  go_enter Try.func9, Try.ntmps9
  go_wp2_with (with_reducible refine wpList_make_full _ rfl (.tmp 10) (.tmp 10) 52 rfl w.heap.size 79 i0 (.agg #[.bool false, .int .i64 0, .int .i64 0]) 3 Try.underlying52 hi0 hz0 hz1 _ _ _ _ c rfl rfl rfl rfl ?_ ?_ (Nat.le_refl _) ?_)
  · omega
  · unfold maxLen; omega
  intro W hown hgrow
  have HF : Hid (Fr [] w W) := Lib.hid ((fr_grown hgrow).mono (by simp))
  have HO : Hid (PRow W w.heap.size (List.replicate c ⟨false, 0, 0⟩)) := Lib.hid (by
    refine prow_own (base := w.heap.size) (n := c) (c := c) ?_
    rw [flt_replicate c _ encP_len (by omega)]
    exact hown)
  clear hown hgrow
  go_wp2_with fail
  go_ret2
  have hb1 : Below w.heap.size w W := HF.out.below (fun x hx => by simp at hx) (Nat.le_refl _)
  have hws := hb1.size
  refine ⟨W.heap.size, w.heap.size, rfl, ⟨?_, HO.out.same (Below.heap_alloc _ _ _ HO.out.lt), by simp, by unfold maxLen; omega, by simpa using h1, by simpa using h2⟩, hb1.alloc hb1.size _, hws, Nat.le_refl _⟩
  rw [List.length_replicate]
  exact block_new _ _ _ rfl
end Go.Proofs.Ytbefiilbpbbjnaa
