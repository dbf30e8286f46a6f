/- A table in memory; usable, name, New, taken, find. -/
import Derived.Test.YtbefiilbpbbjnaaEPure
import Derived.Deep.QuietTactic
import Derived.BigQuiet
import Derived.RegionTactic
namespace Go.Proofs.Ytbefiilbpbbjnaa
open Go.RowKit Go.Sort
set_option linter.unusedVariables false
set_option linter.unusedSimpArgs false

theorem below_alloc (w : World) (o : Obj) : Below w.heap.size w (w.alloc o) := ((Grn.refl w).alloc o).below

/-- The cells of a place. -/
def encP (p : Pl) : List Value := [.bool p.o, .int .i64 ((p.g : Nat) : Int), .int .i64 p.v]
/-- The places in block g. -/
structure PRow (w : World) (g : Nat) (P : Tab) : Prop where
  ex : ∃ cur, w.heap[g]? = some (.cells cur 79 (0, 0)) ∧ ∀ i p, P[i]? = some p → ∀ j u, (encP p)[j]? = some u → cur[i * 3 + j]? = some u

theorem encP_lt {p : Pl} {j : Nat} {u : Value} (h : (encP p)[j]? = some u) : j < 3 := (List.getElem?_eq_some_iff.1 h).1
section
variable {w w' : World} {g : Nat} {P : Tab} {i : Nat} {p : Pl}
theorem PRow.same (h : PRow w g P) (hs : w'.heap[g]? = w.heap[g]?) : PRow w' g P := by
  obtain ⟨cur, h1, h2⟩ := h.ex
  exact ⟨cur, hs.trans h1, h2⟩
theorem PRow.lt (h : PRow w g P) : g < w.heap.size := by
  obtain ⟨cur, h1, _⟩ := h.ex
  exact lt_of_block h1
theorem PRow.at (h : PRow w g P) (hp : P[i]? = some p) (j : Nat) {u : Value} (hu : (encP p)[j]? = some u) : w.cell? ⟨g, i * 3 + j, none⟩ = some u := by
  obtain ⟨cur, h1, h2⟩ := h.ex
  exact cells_cell h1 (h2 i p hp j u hu)
theorem PRow.c0 (h : PRow w g P) (hp : P[i]? = some p) : w.cell? ⟨g, i * 3, none⟩ = some (.bool p.o) := h.at hp 0 rfl
theorem PRow.c1 (h : PRow w g P) (hp : P[i]? = some p) : w.cell? ⟨g, i * 3 + 1, none⟩ = some (.int .i64 ((p.g : Nat) : Int)) := h.at hp 1 rfl
theorem PRow.c2 (h : PRow w g P) (hp : P[i]? = some p) : w.cell? ⟨g, i * 3 + 2, none⟩ = some (.int .i64 p.v) := h.at hp 2 rfl
theorem PRow.free (h : PRow w g P) (o : Nat) : w.frozen? ⟨g, o, none⟩ = false := by
  obtain ⟨cur, h1, _⟩ := h.ex
  exact cells_free h1 o
theorem PRow.put (h : PRow w g P) (hp : P[i]? = some p) (j : Nat) (hj : j < 3) (v : Value) (p' : Pl) (he : encP p' = (encP p).set j v) : PRow (w.setCell ⟨g, i * 3 + j, none⟩ v) g (P.set i p') := by
  obtain ⟨cur, h1, h2⟩ := h.ex
  refine ⟨_, cells_set h1 (i * 3 + j) v, fun k q hq l u hu => ?_⟩
  have hl3 := encP_lt hu
  rw [set_get hp] at hq
  split at hq
  · rename_i e
    subst e
    cases hq
    rw [he, List.getElem?_set] at hu
    split at hu
    · rename_i e
      subst e
      have : i * 3 + j < cur.size := by
        have := (Array.getElem?_eq_some_iff.1 (h2 i p hp j _ (List.getElem?_eq_getElem (show j < (encP p).length from hj)))).1
        exact this
      have h3 : j < (encP p).length := hj
      simp [h3] at hu
      subst hu
      simp [this]
    · rename_i e
      rw [Array.getElem?_setIfInBounds_ne (by omega)]
      exact h2 i p hp l u hu
  · rename_i e
    rw [Array.getElem?_setIfInBounds_ne (by omega)]
    exact h2 k q hq l u hu
theorem PRow.put3 (h : PRow w g P) (hp : P[i]? = some p) (o : Bool) (G : Nat) (v : Int) : PRow (((w.setCell ⟨g, i * 3, none⟩ (.bool o)).setCell ⟨g, i * 3 + 1, none⟩ (.int .i64 ((G : Nat) : Int))).setCell ⟨g, i * 3 + 2, none⟩ (.int .i64 v)) g (P.set i ⟨o, G, v⟩) := by
  have hl := (List.getElem?_eq_some_iff.1 hp).1
  have k0 := h.put hp 0 (by omega) (.bool o) ⟨o, p.g, p.v⟩ rfl
  have e0 : (P.set i ⟨o, p.g, p.v⟩)[i]? = some ⟨o, p.g, p.v⟩ := by simp [hl]
  have k1 := k0.put e0 1 (by omega) (.int .i64 ((G : Nat) : Int)) ⟨o, G, p.v⟩ rfl
  rw [List.set_set] at k1
  have e1 : (P.set i ⟨o, G, p.v⟩)[i]? = some ⟨o, G, p.v⟩ := by simp [hl]
  have k2 := k1.put e1 2 (by omega) (.int .i64 v) ⟨o, G, v⟩ rfl
  rw [List.set_set] at k2
  exact k2
theorem PRow.put02 (h : PRow w g P) (hp : P[i]? = some p) (o : Bool) (v : Int) : PRow ((w.setCell ⟨g, i * 3, none⟩ (.bool o)).setCell ⟨g, i * 3 + 2, none⟩ (.int .i64 v)) g (P.set i ⟨o, p.g, v⟩) := by
  have hl := (List.getElem?_eq_some_iff.1 hp).1
  have k0 := h.put hp 0 (by omega) (.bool o) ⟨o, p.g, p.v⟩ rfl
  have e0 : (P.set i ⟨o, p.g, p.v⟩)[i]? = some ⟨o, p.g, p.v⟩ := by simp [hl]
  have k1 := k0.put e0 2 (by omega) (.int .i64 v) ⟨o, p.g, v⟩ rfl
  rw [List.set_set] at k1
  exact k1
theorem PRow.put2 (h : PRow w g P) (hp : P[i]? = some p) (v : Int) : PRow (w.setCell ⟨g, i * 3 + 2, none⟩ (.int .i64 v)) g (P.set i ⟨p.o, p.g, v⟩) := h.put hp 2 (by omega) (.int .i64 v) ⟨p.o, p.g, v⟩ rfl
end

/-- The table at block t: its places lie in block g. -/
structure TAt (w : World) (t g c : Nat) (P : Tab) : Prop where
  t : w.heap[t]? = some (.cells #[.slice (some ⟨g, 0, none⟩) P.length c] 54 (0, 0))
  r : PRow w g P
  c1 : P.length ≤ c
  c2 : c ≤ maxLen
  n1 : 1 ≤ P.length
  n2 : P.length ≤ 128
section
variable {w w' : World} {t g c : Nat} {P : Tab}
theorem TAt.same (h : TAt w t g c P) (h1 : w'.heap[t]? = w.heap[t]?) (h2 : w'.heap[g]? = w.heap[g]?) : TAt w' t g c P := ⟨h1.trans h.t, h.r.same h2, h.c1, h.c2, h.n1, h.n2⟩
theorem TAt.lt (h : TAt w t g c P) : t < w.heap.size := lt_of_block h.t
theorem TAt.lg (h : TAt w t g c P) : g < w.heap.size := h.r.lt
theorem TAt.below {B : Nat} (h : TAt w t g c P) (hb : Below B w w') (h1 : t < B) (h2 : g < B) : TAt w' t g c P := h.same (hb.block _ h1) (hb.block _ h2)
theorem TAt.grown (h : TAt w t g c P) (hb : Below w.heap.size w w') : TAt w' t g c P := h.below hb h.lt h.lg
theorem TAt.fr {F : List Nat} (h : TAt w t g c P) (hf : Fr F w w') (h1 : t ∉ F) (h2 : g ∉ F) : TAt w' t g c P := h.same (hf.block _ h.lt h1) (hf.block _ h.lg h2)
theorem TAt.ne (h : TAt w t g c P) : t ≠ g := by
  obtain ⟨cur, h1, _⟩ := h.r.ex
  exact ne_types h.t h1 (by decide)
/-- A block of another type is not the places'. -/
theorem TAt.out (h : TAt w t g c P) {k : Nat} {y : Array Value} {u : TypeId} (hc : w.heap[k]? = some (.cells y u (0, 0))) (hu : u ≠ 79) : k ∉ [g] := by
  obtain ⟨cur, h1, _⟩ := h.r.ex
  simpa using ne_types hc h1 hu
theorem TAt.ct (h : TAt w t g c P) : w.cell? ⟨t, 0, none⟩ = some (.slice (some ⟨g, 0, none⟩) P.length c) := cells_cell h.t rfl
/-- The places have changed. -/
theorem TAt.step {P' : Tab} (h : TAt w t g c P) (hr : PRow w' g P') (hl : P'.length = P.length) (hf : Fr [g] w w') : TAt w' t g c P' :=
  ⟨by rw [hl]; exact hf.same h.t (by simpa using h.ne), hr, by rw [hl]; exact h.c1, h.c2, by rw [hl]; exact h.n1, by rw [hl]; exact h.n2⟩
end

/-- A pointer that is no table. -/
def NoT (w : World) (v : Value) : Prop := v = .pointer none ∨ ∃ q, v = .pointer (some ⟨q, 0, none⟩) ∧ w.heap[q]? = some (.cells #[.slice none 0 0] 54 (0, 0))
theorem NoT.grown {w w' : World} {v : Value} (h : NoT w v) (hb : Below w.heap.size w w') : NoT w' v := by
  rcases h with h | ⟨q, h1, h2⟩
  · exact .inl h
  · exact .inr ⟨q, h1, (hb.block _ (lt_of_block h2)).trans h2⟩
theorem NoT.form {w : World} {v : Value} (h : NoT w v) : ∃ a, v = .pointer a := by
  rcases h with h | ⟨q, h1, h2⟩
  · exact ⟨_, h⟩
  · exact ⟨_, h1⟩

theorem slUsable_yes {w : World} {t g c : Nat} {P : Tab} (h : TAt w t g c P) : Calls Try.prog 32 #[.pointer (some ⟨t, 0, none⟩)] w fun e w' => e = .returned (.bool true) ∧ w' = w := by
  have k := h.ct
  clear h
  generalize P.length = n at *
  go_enter Try.func32, Try.ntmps32
  go_wp2
  go_ret
  exact ⟨rfl, rfl⟩
theorem slUsable_no {w : World} {v : Value} (h : NoT w v) : Calls Try.prog 32 #[v] w fun e w' => e = .returned (.bool false) ∧ w' = w := by
  rcases h with rfl | ⟨q, rfl, h2⟩
  · go_enter Try.func32, Try.ntmps32
    go_wp2
    go_ret
    exact ⟨rfl, rfl⟩
  · have k := cells_cell (o := 0) h2 rfl
    clear h2
    go_enter Try.func32, Try.ntmps32
    go_wp2
    go_ret
    exact ⟨rfl, rfl⟩
theorem slName_any (w : World) (o : Bool) (G v N : Int) : Calls Try.prog 35 #[.agg #[.bool o, .int .i64 G, .int .i64 v], .int .i64 N] w fun e w' => e = .returned (.agg #[.int .i64 N, .int .i64 G]) ∧ Grn w w' := by
  go_enter Try.func35, Try.ntmps35
  go_wp2
  refine bodyPost_ret (v := .agg #[.int .i64 N, .int .i64 G]) (by simp [results, Try.results35, go_sem]) rfl ⟨rfl, ?_⟩
  exact ((Grn.refl w).alloc _).alloc _

theorem slTaken_nil {w : World} {v : Value} (h : NoT w v) (N : Int) : Calls Try.prog 38 #[v, .int .i64 N] w fun e w' => e = .returned (.tuple #[.pointer none, .int .i64 1]) ∧ w' = w := by
  have hu := Lib.hid (slUsable_no h)
  obtain ⟨a, rfl⟩ := h.form
  clear h
  go_enter Try.func38, Try.ntmps38
  go_wp2_with (go_at_call 32; refine hu.out.mono ?_; rintro e w2 ⟨rfl, rfl⟩)
  go_ret2
  exact ⟨rfl, rfl⟩
theorem slTaken_yes {w : World} {t g c n : Nat} {P : Tab} {p : Pl} (h : TAt w t g c P) (hp : P[n]? = some p) (ho : p.o = true) :
    Calls Try.prog 38 #[.pointer (some ⟨t, 0, none⟩), .int .i64 ((n : Nat) : Int)] w fun e w' => e = .returned (.tuple #[.pointer (some ⟨g, n * 3, none⟩), .int .i64 0]) ∧ w' = w := by
  have hu := Lib.hid (slUsable_yes h)
  have k := h.ct
  have k0 := h.r.c0 hp
  rw [ho] at k0
  have hl := (List.getElem?_eq_some_iff.1 hp).1
  have hn2 := h.n2
  have hgl := h.lg
  clear h hp ho
  generalize P.length = m at *
  have q1 : (0 : Int) ≤ (n : Int) := by omega
  have q2 : (n : Int) < (m : Int) := by omega
  have q3 : (n : Int) ≤ 128 := by omega
  have q4 : (m : Int) ≤ 128 := by omega
  go_enter Try.func38, Try.ntmps38
  go_wp2_with (go_at_call 32; refine hu.out.mono ?_; rintro e w2 ⟨rfl, rfl⟩)
  go_ret2
  exact ⟨rfl, rfl⟩
theorem slTaken_no {w : World} {t g c : Nat} {P : Tab} {N : Int} (h : TAt w t g c P) (hn : NoN P N) :
    Calls Try.prog 38 #[.pointer (some ⟨t, 0, none⟩), .int .i64 N] w fun e w' => e = .returned (.tuple #[.pointer none, .int .i64 9]) ∧ w' = w := by
  have hu := Lib.hid (slUsable_yes h)
  have k := h.ct
  have hn2 := h.n2
  have hgl := h.lg
  by_cases h0 : N < 0
  · clear h hn
    generalize P.length = m at *
    go_enter Try.func38, Try.ntmps38
    go_wp2_with (go_at_call 32; refine hu.out.mono ?_; rintro e w2 ⟨rfl, rfl⟩)
    go_ret2
    exact ⟨rfl, rfl⟩
  · obtain ⟨n, rfl⟩ : ∃ n : Nat, N = n := ⟨N.toNat, by omega⟩
    by_cases h1 : n < P.length
    · have k0 := h.r.c0 (List.getElem?_eq_getElem h1)
      rw [hn n _ rfl (List.getElem?_eq_getElem h1)] at k0
      clear h hn
      generalize P.length = m at *
      have q1 : (0 : Int) ≤ (n : Int) := by omega
      have q2 : (n : Int) < (m : Int) := by omega
      have q3 : (n : Int) ≤ 128 := by omega
      have q4 : (m : Int) ≤ 128 := by omega
      clear h1 h0
      go_enter Try.func38, Try.ntmps38
      go_wp2_with (go_at_call 32; refine hu.out.mono ?_; rintro e w2 ⟨rfl, rfl⟩)
      go_ret2
      exact ⟨rfl, rfl⟩
    · clear h hn
      generalize P.length = m at *
      have q1 : (0 : Int) ≤ (n : Int) := by omega
      have q2 : (m : Int) ≤ (n : Int) := by omega
      have q4 : (m : Int) ≤ 128 := by omega
      clear h1 h0
      go_enter Try.func38, Try.ntmps38
      go_wp2_with (go_at_call 32; refine hu.out.mono ?_; rintro e w2 ⟨rfl, rfl⟩)
      go_ret2
      exact ⟨rfl, rfl⟩
end Go.Proofs.Ytbefiilbpbbjnaa
