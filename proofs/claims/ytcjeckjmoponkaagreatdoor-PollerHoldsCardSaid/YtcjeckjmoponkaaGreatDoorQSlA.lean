/- QSlA: EPure, EMem, ECall, EMore, EOpen, ECopy, merged. -/
import Derived.Test.YtcjeckjmoponkaaGreatDoorQMix
import Derived.Deep.QuietTactic
import Derived.BigQuiet
import Derived.RegionTactic
import Derived.StillTailTactics
import Derived.OwnWalk
import Derived.Test.YtcjeckjmoponkaaGreatDoorQRow
import Derived.Lib.SliceRun
/- Places and descriptors as lists: what opening, closing and setting make of them. -/
namespace Go.Proofs.YtcjeckjmoponkaaGreatDoor.Sl
set_option linter.unusedVariables false
set_option linter.unusedSimpArgs false

/-- A place of a table: whether it is open, its generation, its value. -/
structure Pl where
  o : Bool
  g : Nat
  v : Int
/-- A descriptor of the reference: its number, its generation, its value, whether it is closed. -/
structure Fd where
  n : Nat
  g : Nat
  v : Int
  c : Bool
abbrev Tab := List Pl
abbrev Fds := List Fd

/-- How many descriptors had a number. -/
def cnt (n : Nat) (L : Fds) : Nat := (L.filter fun f => f.n == n).length
/-- No open one has the number. -/
def clo (n : Nat) (L : Fds) : Prop := ∀ f ∈ L, f.n = n → f.c = true

theorem cnt_append (n : Nat) (A B : Fds) : cnt n (A ++ B) = cnt n A + cnt n B := by simp [cnt]
theorem cnt_cons (n : Nat) (f : Fd) (B : Fds) : cnt n (f :: B) = (if f.n = n then 1 else 0) + cnt n B := by
  unfold cnt
  rw [List.filter_cons]
  by_cases h : f.n = n <;> simp [h]; omega
theorem clo_append {n : Nat} {A B : Fds} : clo n (A ++ B) ↔ clo n A ∧ clo n B := by
  unfold clo
  constructor
  · intro h; exact ⟨fun f hf => h f (List.mem_append_left _ hf), fun f hf => h f (List.mem_append_right _ hf)⟩
  · rintro ⟨h1, h2⟩ f hf
    rcases List.mem_append.1 hf with h | h
    · exact h1 f h
    · exact h2 f h
theorem clo_cons {n : Nat} {f : Fd} {B : Fds} : clo n (f :: B) ↔ (f.n = n → f.c = true) ∧ clo n B := by
  unfold clo
  constructor
  · intro h; exact ⟨h f (List.mem_cons_self ..), fun x hx => h x (List.mem_cons_of_mem _ hx)⟩
  · rintro ⟨h1, h2⟩ x hx
    rcases List.mem_cons.1 hx with rfl | h
    · exact h1
    · exact h2 x h
theorem clo_nil (n : Nat) : clo n [] := fun _ h => by cases h

/-- The table P is that of the descriptors L. -/
structure Rel (P : Tab) (L : Fds) : Prop where
  lt : ∀ f ∈ L, f.n < P.length
  cl : ∀ f ∈ L, f.c = true → ∀ p, P[f.n]? = some p → f.g < p.g
  op : ∀ n p, P[n]? = some p → p.o = true → ∃ A B, L = A ++ ⟨n, p.g, p.v, false⟩ :: B ∧ clo n A ∧ clo n B
  no : ∀ n p, P[n]? = some p → p.o = false → clo n L
  ct : ∀ n p, P[n]? = some p → cnt n L = p.g + (if p.o then 1 else 0)

theorem set_get {P : Tab} {n : Nat} {p : Pl} (hp : P[n]? = some p) (x : Pl) (k : Nat) : (P.set n x)[k]? = if n = k then some x else P[k]? := by
  have hl := (List.getElem?_eq_some_iff.1 hp).1
  rw [List.getElem?_set]
  by_cases h : n = k
  · subst h; simp [hl]
  · simp [h]

theorem Rel.open {P : Tab} {L : Fds} (h : Rel P L) {n : Nat} {p : Pl} (hp : P[n]? = some p) (ho : p.o = false) (v : Int) : Rel (P.set n ⟨true, p.g, v⟩) (L ++ [⟨n, p.g, v, false⟩]) := by
  have hl := (List.getElem?_eq_some_iff.1 hp).1
  refine ⟨fun f hf => ?_, fun f hf hc q hq => ?_, fun k q hq hqo => ?_, fun k q hq hqo => ?_, fun k q hq => ?_⟩
  · rw [List.length_set]
    rcases List.mem_append.1 hf with hf | hf
    · exact h.lt f hf
    · simp at hf; subst hf; exact hl
  · rw [set_get hp] at hq
    rcases List.mem_append.1 hf with hf | hf
    · split at hq
      · rename_i e
        cases hq
        exact h.cl f hf hc p (by rw [← e]; exact hp)
      · exact h.cl f hf hc q hq
    · simp at hf; subst hf; cases hc
  · rw [set_get hp] at hq
    split at hq
    · rename_i e
      subst e
      cases hq
      exact ⟨L, [], rfl, h.no n p hp ho, clo_nil n⟩
    · rename_i e
      obtain ⟨A, B, rfl, hA, hB⟩ := h.op k q hq hqo
      refine ⟨A, B ++ [⟨n, p.g, v, false⟩], by simp, hA, clo_append.2 ⟨hB, clo_cons.2 ⟨fun e' => absurd e' e, clo_nil k⟩⟩⟩
  · rw [set_get hp] at hq
    split at hq
    · cases hq; cases hqo
    · rename_i e
      exact clo_append.2 ⟨h.no k q hq hqo, clo_cons.2 ⟨fun e' => absurd e' e, clo_nil k⟩⟩
  · rw [set_get hp] at hq
    rw [cnt_append, cnt_cons]
    split at hq
    · rename_i e
      subst e
      cases hq
      have := h.ct n p hp
      simp only [ho] at this
      have h0 : cnt n [] = 0 := rfl
      simp [this, h0]
    · rename_i e
      have h0 : cnt k [] = 0 := rfl
      simp [e, h0, h.ct k q hq]

/-- What the descriptor's change makes of the table: x is the new one, q its place. -/
theorem Rel.change {P : Tab} {A B : Fds} {n g : Nat} {v : Int} (h : Rel P (A ++ ⟨n, g, v, false⟩ :: B)) (hp : P[n]? = some ⟨true, g, v⟩) (hA : clo n A) (hB : clo n B) (v' : Int) (c : Bool) :
    Rel (P.set n (if c then ⟨false, g + 1, 0⟩ else ⟨true, g, v'⟩)) (A ++ ⟨n, g, v', c⟩ :: B) := by
  have hl := (List.getElem?_eq_some_iff.1 hp).1
  have hsub : ∀ f, f ∈ A ++ ⟨n, g, v', c⟩ :: B → f = ⟨n, g, v', c⟩ ∨ f ∈ A ∨ f ∈ B := fun f hf => by
    rcases List.mem_append.1 hf with hf | hf
    · exact .inr (.inl hf)
    · rcases List.mem_cons.1 hf with hf | hf
      · exact .inl hf
      · exact .inr (.inr hf)
  have hin : ∀ f, f ∈ A ∨ f ∈ B → f ∈ A ++ ⟨n, g, v, false⟩ :: B := fun f hf => by
    rcases hf with hf | hf
    · exact List.mem_append_left _ hf
    · exact List.mem_append_right _ (List.mem_cons_of_mem _ hf)
  have hcnt : ∀ k, cnt k (A ++ ⟨n, g, v', c⟩ :: B) = cnt k (A ++ ⟨n, g, v, false⟩ :: B) := fun k => by
    rw [cnt_append, cnt_append, cnt_cons, cnt_cons]
  have hoth : ∀ k, n ≠ k → clo k (A ++ ⟨n, g, v, false⟩ :: B) → clo k (A ++ ⟨n, g, v', c⟩ :: B) := fun k hk h0 => by
    obtain ⟨h1, h2⟩ := clo_append.1 h0
    exact clo_append.2 ⟨h1, clo_cons.2 ⟨fun e => absurd e hk, (clo_cons.1 h2).2⟩⟩
  refine ⟨fun f hf => ?_, fun f hf hc q hq => ?_, fun k q hq hqo => ?_, fun k q hq hqo => ?_, fun k q hq => ?_⟩
  · rw [List.length_set]
    rcases hsub f hf with rfl | hf
    · exact hl
    · exact h.lt f (hin f hf)
  · rw [set_get hp] at hq
    rcases hsub f hf with rfl | hf
    · simp only at hc
      subst hc
      simp at hq
      subst hq
      exact Nat.lt_succ_self g
    · split at hq
      · rename_i e
        have := h.cl f (hin f hf) hc ⟨true, g, v⟩ (by rw [← e]; exact hp)
        cases hq
        simp only at this
        split
        · show f.g < g + 1
          omega
        · exact this
      · exact h.cl f (hin f hf) hc q hq
  · rw [set_get hp] at hq
    split at hq
    · rename_i e
      subst e
      cases c
      · simp at hq
        subst hq
        exact ⟨A, B, rfl, hA, hB⟩
      · simp at hq
        subst hq
        cases hqo
    · rename_i e
      obtain ⟨A', B', hL, hA', hB'⟩ := h.op k q hq hqo
      -- the entry lies in A or in B
      rw [List.append_eq_append_iff] at hL
      rcases hL with ⟨D, h1, h2⟩ | ⟨D, h1, h2⟩
      · cases D with
        | nil =>
          simp at h2
          exact absurd h2.1.1.symm (fun e' => e e'.symm)
        | cons x D =>
          rw [List.cons_append, List.cons.injEq] at h2
          obtain ⟨rfl, h2⟩ := h2
          subst h1 h2
          obtain ⟨c1, c2⟩ := clo_append.1 hA'
          refine ⟨A ++ ⟨n, g, v', c⟩ :: D, B', by simp, clo_append.2 ⟨c1, clo_cons.2 ⟨fun e' => absurd e' e, (clo_cons.1 c2).2⟩⟩, hB'⟩
      · cases D with
        | nil =>
          simp at h2
          exact absurd h2.1.1 (fun e' => e e'.symm)
        | cons x D =>
          rw [List.cons_append, List.cons.injEq] at h2
          obtain ⟨rfl, h2⟩ := h2
          subst h1 h2
          obtain ⟨c1, c2⟩ := clo_append.1 hB'
          refine ⟨A', D ++ ⟨n, g, v', c⟩ :: B, by simp, hA', clo_append.2 ⟨c1, clo_cons.2 ⟨fun e' => absurd e' e, (clo_cons.1 c2).2⟩⟩⟩
  · rw [set_get hp] at hq
    split at hq
    · rename_i e
      subst e
      cases c
      · simp at hq
        subst hq
        cases hqo
      · exact clo_append.2 ⟨hA, clo_cons.2 ⟨fun _ => rfl, hB⟩⟩
    · rename_i e
      exact hoth k e (h.no k q hq hqo)
  · rw [set_get hp] at hq
    rw [hcnt]
    split at hq
    · rename_i e
      subst e
      have := h.ct n _ hp
      cases c
      · simp at hq this
        subst hq
        simpa using this
      · simp at hq this
        subst hq
        simpa using this
    · exact h.ct k q hq

/-- The lowest place that is free. -/
def free (P : Tab) : Nat := P.findIdx fun p => !p.o
theorem free_lt {P : Tab} (h : free P < P.length) : ∃ p, P[free P]? = some p ∧ p.o = false := by
  have h1 : (!(P[free P]).o) = true := List.findIdx_getElem (w := h)
  exact ⟨_, List.getElem?_eq_getElem h, by simpa using h1⟩
theorem free_before {P : Tab} {k : Nat} {p : Pl} (hk : k < free P) (hp : P[k]? = some p) : p.o = true := by
  have hl := List.getElem?_eq_some_iff.1 hp
  have := List.not_of_lt_findIdx hk
  rw [hl.2] at this
  simpa using this
theorem free_at {P : Tab} {n : Nat} {p : Pl} (hp : P[n]? = some p) (ho : p.o = false) (hb : ∀ k, k < n → ∀ q, P[k]? = some q → q.o = true) : free P = n := by
  obtain ⟨hn, _⟩ := List.getElem?_eq_some_iff.1 hp
  rcases Nat.lt_trichotomy (free P) n with h | h | h
  · obtain ⟨q, hq, hqo⟩ := free_lt (P := P) (by omega)
    rw [hb _ h q hq] at hqo
    cases hqo
  · exact h
  · rw [free_before h hp] at ho; cases ho

/-- No open descriptor has this name. -/
def NoFd (P : Tab) (N G : Int) : Prop := ∀ n p, N = ((n : Nat) : Int) → P[n]? = some p → p.o = true → G ≠ ((p.g : Nat) : Int)
/-- No open descriptor has this number. -/
def NoN (P : Tab) (N : Int) : Prop := ∀ n p, N = ((n : Nat) : Int) → P[n]? = some p → p.o = false
theorem NoN.fd {P : Tab} {N : Int} (h : NoN P N) (G : Int) : NoFd P N G := fun n p e hp ho => by rw [h n p e hp] at ho; cases ho
theorem n_cases (P : Tab) (N : Int) : (∃ (n g : Nat) (v : Int), N = ((n : Nat) : Int) ∧ P[n]? = some ⟨true, g, v⟩) ∨ NoN P N := by
  by_cases h : NoN P N
  · exact .inr h
  · left
    unfold NoN at h
    simp only [Classical.not_forall] at h
    obtain ⟨n, ⟨o, g, v⟩, e, hp, ho⟩ := h
    simp only [Bool.not_eq_false] at ho
    subst ho
    exact ⟨n, g, v, e, hp⟩
end Go.Proofs.YtcjeckjmoponkaaGreatDoor.Sl
/- A table in memory; usable, name, New, taken, find. -/
namespace Go.Proofs.YtcjeckjmoponkaaGreatDoor.Sl
open Go.RowKit Go.Sort
set_option linter.unusedVariables false
set_option linter.unusedSimpArgs false

theorem below_alloc (w : World) (o : Obj) : Below w.heap.size w (w.alloc o) := ((Grn.refl w).alloc o).below

/-- The cells of a place. -/
def encP (p : Pl) : List Value := [.bool p.o, .int .i64 ((p.g : Nat) : Int), .int .i64 p.v]
/-- The places in block g. -/
structure PRow (w : World) (g : Nat) (P : Tab) : Prop where
  ex : ∃ cur, w.heap[g]? = some (.cells cur 204 (0, 0)) ∧ ∀ i p, P[i]? = some p → ∀ j u, (encP p)[j]? = some u → cur[i * 3 + j]? = some u

theorem encP_lt {p : Pl} {j : Nat} {u : Value} (h : (encP p)[j]? = some u) : j < 3 := (List.getElem?_eq_some_iff.1 h).1
section
variable {w w' : World} {g : Nat} {P : Tab} {i : Nat} {p : Pl}
theorem PRow.same (h : PRow w g P) (hs : w'.heap[g]? = w.heap[g]?) : PRow w' g P := by
  obtain ⟨cur, h1, h2⟩ := h.ex
  exact ⟨cur, hs.trans h1, h2⟩
theorem PRow.lt (h : PRow w g P) : g < w.heap.size := by
  obtain ⟨cur, h1, _⟩ := h.ex
  exact lt_of_block h1
theorem PRow.at (h : PRow w g P) (hp : P[i]? = some p) (j : Nat) {u : Value} (hu : (encP p)[j]? = some u) : w.cell? ⟨g, i * 3 + j, none⟩ = some u := by
  obtain ⟨cur, h1, h2⟩ := h.ex
  exact cells_cell h1 (h2 i p hp j u hu)
theorem PRow.c0 (h : PRow w g P) (hp : P[i]? = some p) : w.cell? ⟨g, i * 3, none⟩ = some (.bool p.o) := h.at hp 0 rfl
theorem PRow.c1 (h : PRow w g P) (hp : P[i]? = some p) : w.cell? ⟨g, i * 3 + 1, none⟩ = some (.int .i64 ((p.g : Nat) : Int)) := h.at hp 1 rfl
theorem PRow.c2 (h : PRow w g P) (hp : P[i]? = some p) : w.cell? ⟨g, i * 3 + 2, none⟩ = some (.int .i64 p.v) := h.at hp 2 rfl
theorem PRow.free (h : PRow w g P) (o : Nat) : w.frozen? ⟨g, o, none⟩ = false := by
  obtain ⟨cur, h1, _⟩ := h.ex
  exact cells_free h1 o
theorem PRow.put (h : PRow w g P) (hp : P[i]? = some p) (j : Nat) (hj : j < 3) (v : Value) (p' : Pl) (he : encP p' = (encP p).set j v) : PRow (w.setCell ⟨g, i * 3 + j, none⟩ v) g (P.set i p') := by
  obtain ⟨cur, h1, h2⟩ := h.ex
  refine ⟨_, cells_set h1 (i * 3 + j) v, fun k q hq l u hu => ?_⟩
  have hl3 := encP_lt hu
  rw [set_get hp] at hq
  split at hq
  · rename_i e
    subst e
    cases hq
    rw [he, List.getElem?_set] at hu
    split at hu
    · rename_i e
      subst e
      have : i * 3 + j < cur.size := by
        have := (Array.getElem?_eq_some_iff.1 (h2 i p hp j _ (List.getElem?_eq_getElem (show j < (encP p).length from hj)))).1
        exact this
      have h3 : j < (encP p).length := hj
      simp [h3] at hu
      subst hu
      simp [this]
    · rename_i e
      rw [Array.getElem?_setIfInBounds_ne (by omega)]
      exact h2 i p hp l u hu
  · rename_i e
    rw [Array.getElem?_setIfInBounds_ne (by omega)]
    exact h2 k q hq l u hu
theorem PRow.put3 (h : PRow w g P) (hp : P[i]? = some p) (o : Bool) (G : Nat) (v : Int) : PRow (((w.setCell ⟨g, i * 3, none⟩ (.bool o)).setCell ⟨g, i * 3 + 1, none⟩ (.int .i64 ((G : Nat) : Int))).setCell ⟨g, i * 3 + 2, none⟩ (.int .i64 v)) g (P.set i ⟨o, G, v⟩) := by
  have hl := (List.getElem?_eq_some_iff.1 hp).1
  have k0 := h.put hp 0 (by omega) (.bool o) ⟨o, p.g, p.v⟩ rfl
  have e0 : (P.set i ⟨o, p.g, p.v⟩)[i]? = some ⟨o, p.g, p.v⟩ := by simp [hl]
  have k1 := k0.put e0 1 (by omega) (.int .i64 ((G : Nat) : Int)) ⟨o, G, p.v⟩ rfl
  rw [List.set_set] at k1
  have e1 : (P.set i ⟨o, G, p.v⟩)[i]? = some ⟨o, G, p.v⟩ := by simp [hl]
  have k2 := k1.put e1 2 (by omega) (.int .i64 v) ⟨o, G, v⟩ rfl
  rw [List.set_set] at k2
  exact k2
theorem PRow.put02 (h : PRow w g P) (hp : P[i]? = some p) (o : Bool) (v : Int) : PRow ((w.setCell ⟨g, i * 3, none⟩ (.bool o)).setCell ⟨g, i * 3 + 2, none⟩ (.int .i64 v)) g (P.set i ⟨o, p.g, v⟩) := by
  have hl := (List.getElem?_eq_some_iff.1 hp).1
  have k0 := h.put hp 0 (by omega) (.bool o) ⟨o, p.g, p.v⟩ rfl
  have e0 : (P.set i ⟨o, p.g, p.v⟩)[i]? = some ⟨o, p.g, p.v⟩ := by simp [hl]
  have k1 := k0.put e0 2 (by omega) (.int .i64 v) ⟨o, p.g, v⟩ rfl
  rw [List.set_set] at k1
  exact k1
theorem PRow.put2 (h : PRow w g P) (hp : P[i]? = some p) (v : Int) : PRow (w.setCell ⟨g, i * 3 + 2, none⟩ (.int .i64 v)) g (P.set i ⟨p.o, p.g, v⟩) := h.put hp 2 (by omega) (.int .i64 v) ⟨p.o, p.g, v⟩ rfl
end

/-- The table at block t: its places lie in block g. -/
structure TAt (w : World) (t g c : Nat) (P : Tab) : Prop where
  t : w.heap[t]? = some (.cells #[.slice (some ⟨g, 0, none⟩) P.length c] 174 (0, 0))
  r : PRow w g P
  c1 : P.length ≤ c
  c2 : c ≤ maxLen
  n1 : 1 ≤ P.length
  n2 : P.length ≤ 128
section
variable {w w' : World} {t g c : Nat} {P : Tab}
theorem TAt.same (h : TAt w t g c P) (h1 : w'.heap[t]? = w.heap[t]?) (h2 : w'.heap[g]? = w.heap[g]?) : TAt w' t g c P := ⟨h1.trans h.t, h.r.same h2, h.c1, h.c2, h.n1, h.n2⟩
theorem TAt.lt (h : TAt w t g c P) : t < w.heap.size := lt_of_block h.t
theorem TAt.lg (h : TAt w t g c P) : g < w.heap.size := h.r.lt
theorem TAt.below {B : Nat} (h : TAt w t g c P) (hb : Below B w w') (h1 : t < B) (h2 : g < B) : TAt w' t g c P := h.same (hb.block _ h1) (hb.block _ h2)
theorem TAt.grown (h : TAt w t g c P) (hb : Below w.heap.size w w') : TAt w' t g c P := h.below hb h.lt h.lg
theorem TAt.fr {F : List Nat} (h : TAt w t g c P) (hf : Fr F w w') (h1 : t ∉ F) (h2 : g ∉ F) : TAt w' t g c P := h.same (hf.block _ h.lt h1) (hf.block _ h.lg h2)
theorem TAt.ne (h : TAt w t g c P) : t ≠ g := by
  obtain ⟨cur, h1, _⟩ := h.r.ex
  exact ne_types h.t h1 (by decide)
/-- A block of another type is not the places'. -/
theorem TAt.out (h : TAt w t g c P) {k : Nat} {y : Array Value} {u : TypeId} (hc : w.heap[k]? = some (.cells y u (0, 0))) (hu : u ≠ 204) : k ∉ [g] := by
  obtain ⟨cur, h1, _⟩ := h.r.ex
  simpa using ne_types hc h1 hu
theorem TAt.ct (h : TAt w t g c P) : w.cell? ⟨t, 0, none⟩ = some (.slice (some ⟨g, 0, none⟩) P.length c) := cells_cell h.t rfl
/-- The places have changed. -/
theorem TAt.step {P' : Tab} (h : TAt w t g c P) (hr : PRow w' g P') (hl : P'.length = P.length) (hf : Fr [g] w w') : TAt w' t g c P' :=
  ⟨by rw [hl]; exact hf.same h.t (by simpa using h.ne), hr, by rw [hl]; exact h.c1, h.c2, by rw [hl]; exact h.n1, by rw [hl]; exact h.n2⟩
end

/-- A pointer that is no table. -/
def NoT (w : World) (v : Value) : Prop := v = .pointer none ∨ ∃ q, v = .pointer (some ⟨q, 0, none⟩) ∧ w.heap[q]? = some (.cells #[.slice none 0 0] 174 (0, 0))
theorem NoT.grown {w w' : World} {v : Value} (h : NoT w v) (hb : Below w.heap.size w w') : NoT w' v := by
  rcases h with h | ⟨q, h1, h2⟩
  · exact .inl h
  · exact .inr ⟨q, h1, (hb.block _ (lt_of_block h2)).trans h2⟩
theorem NoT.form {w : World} {v : Value} (h : NoT w v) : ∃ a, v = .pointer a := by
  rcases h with h | ⟨q, h1, h2⟩
  · exact ⟨_, h⟩
  · exact ⟨_, h1⟩

theorem slUsable_yes {w : World} {t g c : Nat} {P : Tab} (h : TAt w t g c P) : Calls Tryz.prog 108 #[.pointer (some ⟨t, 0, none⟩)] w fun e w' => e = .returned (.bool true) ∧ w' = w := by
  have k := h.ct
  clear h
  generalize P.length = n at *
  go_enter Tryz.func108, Tryz.ntmps108
  go_wp2
  go_ret
  exact ⟨rfl, rfl⟩
theorem slName_any (w : World) (o : Bool) (G v N : Int) : Calls Tryz.prog 111 #[.agg #[.bool o, .int .i64 G, .int .i64 v], .int .i64 N] w fun e w' => e = .returned (.agg #[.int .i64 N, .int .i64 G]) ∧ Grn w w' := by
  go_enter Tryz.func111, Tryz.ntmps111
  go_wp2
  refine bodyPost_ret (v := .agg #[.int .i64 N, .int .i64 G]) (by simp [results, Tryz.results111, go_sem]) rfl ⟨rfl, ?_⟩
  exact ((Grn.refl w).alloc _).alloc _

theorem slTaken_yes {w : World} {t g c n : Nat} {P : Tab} {p : Pl} (h : TAt w t g c P) (hp : P[n]? = some p) (ho : p.o = true) :
    Calls Tryz.prog 130 #[.pointer (some ⟨t, 0, none⟩), .int .i64 ((n : Nat) : Int)] w fun e w' => e = .returned (.tuple #[.pointer (some ⟨g, n * 3, none⟩), .int .i64 0]) ∧ w' = w := by
  have hu := Lib.hid (slUsable_yes h)
  have k := h.ct
  have k0 := h.r.c0 hp
  rw [ho] at k0
  have hl := (List.getElem?_eq_some_iff.1 hp).1
  have hn2 := h.n2
  have hgl := h.lg
  clear h hp ho
  generalize P.length = m at *
  have q1 : (0 : Int) ≤ (n : Int) := by omega
  have q2 : (n : Int) < (m : Int) := by omega
  have q3 : (n : Int) ≤ 128 := by omega
  have q4 : (m : Int) ≤ 128 := by omega
  go_enter Tryz.func130, Tryz.ntmps130
  go_wp2_with (go_at_call 108; refine hu.out.mono ?_; rintro e w2 ⟨rfl, rfl⟩)
  go_ret2
  exact ⟨rfl, rfl⟩
theorem slTaken_no {w : World} {t g c : Nat} {P : Tab} {N : Int} (h : TAt w t g c P) (hn : NoN P N) :
    Calls Tryz.prog 130 #[.pointer (some ⟨t, 0, none⟩), .int .i64 N] w fun e w' => e = .returned (.tuple #[.pointer none, .int .i64 9]) ∧ w' = w := by
  have hu := Lib.hid (slUsable_yes h)
  have k := h.ct
  have hn2 := h.n2
  have hgl := h.lg
  by_cases h0 : N < 0
  · clear h hn
    generalize P.length = m at *
    go_enter Tryz.func130, Tryz.ntmps130
    go_wp2_with (go_at_call 108; refine hu.out.mono ?_; rintro e w2 ⟨rfl, rfl⟩)
    go_ret2
    exact ⟨rfl, rfl⟩
  · obtain ⟨n, rfl⟩ : ∃ n : Nat, N = n := ⟨N.toNat, by omega⟩
    by_cases h1 : n < P.length
    · have k0 := h.r.c0 (List.getElem?_eq_getElem h1)
      rw [hn n _ rfl (List.getElem?_eq_getElem h1)] at k0
      clear h hn
      generalize P.length = m at *
      have q1 : (0 : Int) ≤ (n : Int) := by omega
      have q2 : (n : Int) < (m : Int) := by omega
      have q3 : (n : Int) ≤ 128 := by omega
      have q4 : (m : Int) ≤ 128 := by omega
      clear h1 h0
      go_enter Tryz.func130, Tryz.ntmps130
      go_wp2_with (go_at_call 108; refine hu.out.mono ?_; rintro e w2 ⟨rfl, rfl⟩)
      go_ret2
      exact ⟨rfl, rfl⟩
    · clear h hn
      generalize P.length = m at *
      have q1 : (0 : Int) ≤ (n : Int) := by omega
      have q2 : (m : Int) ≤ (n : Int) := by omega
      have q4 : (m : Int) ≤ 128 := by omega
      clear h1 h0
      go_enter Tryz.func130, Tryz.ntmps130
      go_wp2_with (go_at_call 108; refine hu.out.mono ?_; rintro e w2 ⟨rfl, rfl⟩)
      go_ret2
      exact ⟨rfl, rfl⟩
end Go.Proofs.YtcjeckjmoponkaaGreatDoor.Sl
/- find, Get, Set, At, Close, New. -/
namespace Go.Proofs.YtcjeckjmoponkaaGreatDoor.Sl
open Go.RowKit Go.Sort
set_option linter.unusedVariables false
set_option linter.unusedSimpArgs false

theorem neq_fd_same (w : World) (n g : Int) : (binOp .neq 47 (.agg #[.int .i64 n, .int .i64 g]) (.agg #[.int .i64 n, .int .i64 g])).run Tryz.prog w = .ok (.bool false) w := by
  have h1 : Tryz.prog.underlying 47 = some _ := Tryz.underlying47
  simp [go_sem, h1]
theorem neq_fd_other (w : World) (n g g' : Int) (h : g ≠ g') : (binOp .neq 47 (.agg #[.int .i64 n, .int .i64 g]) (.agg #[.int .i64 n, .int .i64 g'])).run Tryz.prog w = .ok (.bool true) w := by
  have h1 : Tryz.prog.underlying 47 = some _ := Tryz.underlying47
  simp [go_sem, h1, h]

theorem cell_gr {w : World} {a : Addr} {v : Value} (h : a.block < w.heap.size) (k : w.cell? a = some v) (m : Nat) (os : Array Obj) : (grow (w.drewN m) os).cell? a = some v :=
  (grn_grow w m os).below.cell h ▸ k

set_option maxRecDepth 100000 in
set_option maxHeartbeats 1600000 in
theorem slFind_open {w : World} {t g c n G : Nat} {v k : Int} {P : Tab} (h : TAt w t g c P) (hp : P[n]? = some ⟨true, G, v⟩) (r : Value)
    (hr : (k = ((G : Nat) : Int) ∧ r = .tuple #[.pointer (some ⟨g, n * 3, none⟩), .int .i64 0]) ∨ (k ≠ ((G : Nat) : Int) ∧ r = .tuple #[.pointer none, .int .i64 9])) :
    Calls Tryz.prog 112 #[.pointer (some ⟨t, 0, none⟩), .agg #[.int .i64 ((n : Nat) : Int), .int .i64 k]] w fun e w' => e = .returned r ∧ Grn w w' := by
  obtain ⟨W, hW⟩ : ∃ W, w.alloc (.cells #[.int .i64 ((n : Nat) : Int), .int .i64 k] 47) = W := ⟨_, rfl⟩
  have hg : Grn w W := by rw [← hW]; exact (Grn.refl w).alloc _
  have hT := h.grown hg.below
  have hB : W.heap[w.heap.size]? = some (.cells #[.int .i64 ((n : Nat) : Int), .int .i64 k] 47 (0, 0)) := by rw [← hW]; exact block_new _ _ _ rfl
  have b0 := cells_cell (o := 0) hB rfl
  have hbl := lt_of_block hB
  have B0 := cell_gr (a := ⟨w.heap.size, 0, none⟩) hbl b0
  have B1 := cell_gr (a := ⟨w.heap.size, 1, none⟩) hbl (cells_cell (o := 1) hB rfl)
  have R0 := cell_gr (a := ⟨g, n * 3, none⟩) hT.lg (hT.r.c0 hp)
  have R1 := cell_gr (a := ⟨g, n * 3 + 1, none⟩) hT.lg (hT.r.c1 hp)
  have R2 := cell_gr (a := ⟨g, n * 3 + 2, none⟩) hT.lg (hT.r.c2 hp)
  simp only at R0 R1 R2
  have hu := Lib.hid (slTaken_yes hT hp rfl)
  have HN := Lib.hid (fun m os => slName_any (grow (W.drewN m) os) true ((G : Nat) : Int) v ((n : Nat) : Int))
  have HG := Lib.hid hg
  have HW := Lib.hid hW
  have HR := Lib.hid hr
  have mixed : Tryz.prog.follows .mixedOrders = true := by kernel_rfl
  clear h hp hg hT hB hW hr
  go_enter Tryz.func112, Tryz.ntmps112
  go_wp2_with (go_at_call 130; fail)
  rw [HW.out]
  generalize w.heap.size = b at *
  go_wp2_with (go_at_call 130; fail)
  refine hu.out.mono ?_
  rintro e w2 ⟨rfl, rfl⟩
  go_wp2_with fail
  rcases HR.out with ⟨e, hr⟩ | ⟨e, hr⟩
  · subst e hr
    have hq := fun W => neq_fd_same W ((n : Nat) : Int) ((G : Nat) : Int)
    clear HR
    go_quiet_grown ((go_at_call 111; refine Calls.grown_of (HN.out _ _)))
    go_wp2_with fail
    go_ret2
    exact ⟨rfl, HG.out.trans ⟨_, _, rfl⟩⟩
  · subst hr
    have hq := fun W => neq_fd_other W ((n : Nat) : Int) ((G : Nat) : Int) k (fun h => e h.symm)
    have He := Lib.hid e
    clear HR e
    go_quiet_grown ((go_at_call 111; refine Calls.grown_of (HN.out _ _)))
    go_wp2_with fail
    go_ret2
    exact ⟨rfl, HG.out.trans ⟨_, _, rfl⟩⟩

theorem slFind_yes {w : World} {t g c n G : Nat} {v : Int} {P : Tab} (h : TAt w t g c P) (hp : P[n]? = some ⟨true, G, v⟩) :
    Calls Tryz.prog 112 #[.pointer (some ⟨t, 0, none⟩), .agg #[.int .i64 ((n : Nat) : Int), .int .i64 ((G : Nat) : Int)]] w fun e w' => e = .returned (.tuple #[.pointer (some ⟨g, n * 3, none⟩), .int .i64 0]) ∧ Grn w w' :=
  slFind_open h hp _ (.inl ⟨rfl, rfl⟩)
theorem slFind_no {w : World} {t g c : Nat} {N k : Int} {P : Tab} (h : TAt w t g c P) (hn : NoFd P N k) :
    Calls Tryz.prog 112 #[.pointer (some ⟨t, 0, none⟩), .agg #[.int .i64 N, .int .i64 k]] w fun e w' => e = .returned (.tuple #[.pointer none, .int .i64 9]) ∧ Grn w w' := by
  rcases n_cases P N with ⟨n, G, v, rfl, hp⟩ | h0
  · exact slFind_open h hp _ (.inr ⟨hn n _ rfl hp rfl, rfl⟩)
  · have hu := Lib.hid (slTaken_no (h.grown (below_alloc w (.cells #[.int .i64 N, .int .i64 k] 47))) h0)
    clear h hn h0
    go_enter Tryz.func112, Tryz.ntmps112
    go_wp2_with (go_at_call 130; refine hu.out.mono ?_; rintro e w2 ⟨rfl, rfl⟩)
    go_ret2
    exact ⟨rfl, (Grn.refl w).alloc _⟩
/-- The code of find, with a pointer to a place or without one. -/
def FindsAt (w : World) (u : Value) (N k : Int) (code : Int) : Prop := ∀ w', Below w.heap.size w w' → Calls Tryz.prog 112 #[u, .agg #[.int .i64 N, .int .i64 k]] w' fun e w'' => e = .returned (.tuple #[.pointer none, .int .i64 code]) ∧ Grn w' w''
theorem finds_no {w : World} {t g c : Nat} {N k : Int} {P : Tab} (h : TAt w t g c P) (hn : NoFd P N k) : FindsAt w (.pointer (some ⟨t, 0, none⟩)) N k 9 := fun w' hb => slFind_no (h.grown hb) hn
set_option maxHeartbeats 800000 in
theorem slGet_bad {w : World} {a : Option Addr} {N k code : Int} (h : FindsAt w (.pointer a) N k code) (hc : code ≠ 0) :
    Calls Tryz.prog 65 #[.pointer a, .agg #[.int .i64 N, .int .i64 k]] w fun e w' => e = .returned (.tuple #[.int .i64 0, .int .i64 code]) ∧ Grn w w' := by
  have hu := Lib.hid (h _ (below_alloc w (.cells #[.int .i64 N, .int .i64 k] 47)))
  have h0 : (code == 0) = false := by simpa using hc
  have HC := Lib.hid hc
  clear h hc
  go_enter Tryz.func65, Tryz.ntmps65
  go_wp2_with (go_at_call 112; refine hu.out.mono ?_; rintro e w2 ⟨rfl, hg⟩)
  go_ret2
  exact ⟨rfl, ((Grn.refl w).alloc _).trans hg⟩
set_option maxHeartbeats 800000 in
theorem slGet_yes {w : World} {t g c n G : Nat} {v : Int} {P : Tab} (h : TAt w t g c P) (hp : P[n]? = some ⟨true, G, v⟩) :
    Calls Tryz.prog 65 #[.pointer (some ⟨t, 0, none⟩), .agg #[.int .i64 ((n : Nat) : Int), .int .i64 ((G : Nat) : Int)]] w fun e w' => e = .returned (.tuple #[.int .i64 v, .int .i64 0]) ∧ Grn w w' := by
  have hT := h.grown (below_alloc w (.cells #[.int .i64 ((n : Nat) : Int), .int .i64 ((G : Nat) : Int)] 47))
  have hu := Lib.hid (slFind_yes hT hp)
  have HT := Lib.hid hT
  have HP := Lib.hid hp
  clear h hT hp
  go_enter Tryz.func65, Tryz.ntmps65
  go_wp2_with (go_at_call 112; fail)
  refine hu.out.mono ?_
  rintro e w2 ⟨rfl, hg⟩
  have k2 := (HT.out.grown hg.below).r.c2 HP.out
  have HG := Lib.hid (((Grn.refl w).alloc _).trans hg)
  clear hg
  go_wp2_with fail
  go_ret2
  exact ⟨rfl, HG.out⟩
end Go.Proofs.YtcjeckjmoponkaaGreatDoor.Sl
/- At, Close, New. -/
namespace Go.Proofs.YtcjeckjmoponkaaGreatDoor.Sl
open Go.RowKit Go.Sort
set_option linter.unusedVariables false
set_option linter.unusedSimpArgs false

set_option maxHeartbeats 800000 in
theorem slAt_no {w : World} {t g c : Nat} {N : Int} {P : Tab} (h : TAt w t g c P) (hn : NoN P N) :
    Calls Tryz.prog 72 #[.pointer (some ⟨t, 0, none⟩), .int .i64 N] w fun e w' => e = .returned (.tuple #[.agg #[.int .i64 0, .int .i64 0], .int .i64 9]) ∧ Grn w w' := by
  have hu := Lib.hid (slTaken_no (h.grown (below_alloc w (.cells #[.int .i64 0, .int .i64 0] 47))) hn)
  clear h hn
  go_enter Tryz.func72, Tryz.ntmps72
  go_wp2_with (go_at_call 130; refine hu.out.mono ?_; rintro e w2 ⟨rfl, rfl⟩)
  refine bodyPost_ret (v := .tuple #[.agg #[.int .i64 0, .int .i64 0], .int .i64 9]) (by simp [results, Tryz.results72, go_sem]) rfl ⟨rfl, ?_⟩
  exact (Grn.refl w).alloc _
set_option maxHeartbeats 800000 in
theorem slAt_yes {w : World} {t g c n G : Nat} {v : Int} {P : Tab} (h : TAt w t g c P) (hp : P[n]? = some ⟨true, G, v⟩) :
    Calls Tryz.prog 72 #[.pointer (some ⟨t, 0, none⟩), .int .i64 ((n : Nat) : Int)] w fun e w' => e = .returned (.tuple #[.agg #[.int .i64 ((n : Nat) : Int), .int .i64 ((G : Nat) : Int)], .int .i64 0]) ∧ Grn w w' := by
  obtain ⟨W, hW⟩ : ∃ W, w.alloc (.cells #[.int .i64 0, .int .i64 0] 47) = W := ⟨_, rfl⟩
  have hg : Grn w W := by rw [← hW]; exact (Grn.refl w).alloc _
  have hT := h.grown hg.below
  have hB : W.heap[w.heap.size]? = some (.cells #[.int .i64 0, .int .i64 0] 47 (0, 0)) := by rw [← hW]; exact block_new _ _ _ rfl
  have r0 := hT.r.c0 hp
  have r1 := hT.r.c1 hp
  have r2 := hT.r.c2 hp
  simp only at r0 r1 r2
  have HN := Lib.hid (slName_any W true ((G : Nat) : Int) v ((n : Nat) : Int))
  have hu := Lib.hid (slTaken_yes hT hp rfl)
  have HG := Lib.hid hg
  have HW := Lib.hid hW
  have HB := Lib.hid hB
  clear h hp hg hT hB hW
  go_enter Tryz.func72, Tryz.ntmps72
  go_wp2_with (go_at_call 130; fail)
  rw [HW.out]
  generalize hb : w.heap.size = b at *
  have Hb := Lib.hid hb
  clear hb
  go_wp2_with (go_at_call 130; fail)
  refine hu.out.mono ?_
  rintro e w2 ⟨rfl, rfl⟩
  go_wp2_with (go_at_call 111; fail)
  refine HN.out.mono ?_
  rintro e w3 ⟨rfl, hg3⟩
  have hB3 := (hg3.below.block _ (lt_of_block HB.out)).trans HB.out
  have b0 := cells_cell (o := 0) hB3 rfl
  have b1 := cells_cell (o := 1) hB3 rfl
  have z0 := cells_free hB3 0
  have z1 := cells_free hB3 1
  have hbl := lt_of_block hB3
  have HG3 := Lib.hid (HG.out.trans hg3)
  have hput := (cells_set (cells_set hB3 0 (.int .i64 ((n : Nat) : Int))) 1 (.int .i64 ((G : Nat) : Int)))
  have p0 := cells_cell (o := 0) hput rfl
  have p1 := cells_cell (o := 1) hput rfl
  clear hg3 hB3 hput r0 r1 r2
  go_wp2_with fail
  refine bodyPost_ret (v := .tuple #[.agg #[.int .i64 ((n : Nat) : Int), .int .i64 ((G : Nat) : Int)], .int .i64 0]) (by simp [results, Tryz.results72, go_sem, p0, p1]) rfl ⟨rfl, ?_⟩
  exact (HG3.out.set _ _ (by rw [Hb.out]; exact Nat.le_refl _)).set _ _ (by rw [Hb.out]; exact Nat.le_refl _)

set_option maxHeartbeats 800000 in
theorem slClose_bad {w : World} {a : Option Addr} {N k code : Int} (h : FindsAt w (.pointer a) N k code) (hc : code ≠ 0) :
    Calls Tryz.prog 61 #[.pointer a, .agg #[.int .i64 N, .int .i64 k]] w fun e w' => e = .returned (.tuple #[.int .i64 0, .int .i64 code]) ∧ Grn w w' := by
  have hu := Lib.hid (h _ (below_alloc w (.cells #[.int .i64 N, .int .i64 k] 47)))
  have h0 : (code == 0) = false := by simpa using hc
  have HC := Lib.hid hc
  clear h hc
  go_enter Tryz.func61, Tryz.ntmps61
  go_wp2_with (go_at_call 112; refine hu.out.mono ?_; rintro e w2 ⟨rfl, hg⟩)
  go_ret2
  exact ⟨rfl, ((Grn.refl w).alloc _).trans hg⟩
set_option maxHeartbeats 1600000 in
theorem slClose_yes {w : World} {t g c n G : Nat} {v : Int} {P : Tab} (h : TAt w t g c P) (hp : P[n]? = some ⟨true, G, v⟩) (hG : G ≤ 1000000) :
    Calls Tryz.prog 61 #[.pointer (some ⟨t, 0, none⟩), .agg #[.int .i64 ((n : Nat) : Int), .int .i64 ((G : Nat) : Int)]] w fun e w' => e = .returned (.tuple #[.int .i64 v, .int .i64 0]) ∧ TAt w' t g c (P.set n ⟨false, G + 1, 0⟩) ∧ Fr [g] w w' := by
  have hT := h.grown (below_alloc w (.cells #[.int .i64 ((n : Nat) : Int), .int .i64 ((G : Nat) : Int)] 47))
  have hu := Lib.hid (slFind_yes hT hp)
  have HT := Lib.hid hT
  have HP := Lib.hid hp
  have q1 : (0 : Int) ≤ (G : Int) := by omega
  have q2 : (G : Int) ≤ 1000000 := by omega
  clear h hT hp
  go_enter Tryz.func61, Tryz.ntmps61
  go_wp2_with (go_at_call 112; fail)
  refine hu.out.mono ?_
  rintro e w2 ⟨rfl, hg⟩
  have hT2 := HT.out.grown hg.below
  have r0 := hT2.r.c0 HP.out
  have r1 := hT2.r.c1 HP.out
  have r2 := hT2.r.c2 HP.out
  have f0 := hT2.r.free (n * 3)
  have f1 := hT2.r.free (n * 3 + 1)
  have f2 := hT2.r.free (n * 3 + 2)
  have hgl := hT2.lg
  have HG := Lib.hid (((Grn.refl w).alloc _).trans hg)
  have hf := ((fr_setCell w2 ⟨g, n * 3, none⟩ (.bool false)).trans' (fr_setCell _ ⟨g, n * 3 + 1, none⟩ (.int .i64 (((G + 1 : Nat) : Nat) : Int)))).trans' (fr_setCell _ ⟨g, n * 3 + 2, none⟩ (.int .i64 0))
  have HF := Lib.hid ((Fr.of_below HG.out.below [g]).trans' hf)
  have hT3 := hT2.step (hT2.r.put3 HP.out false (G + 1) 0) (by simp) hf
  rw [show (((G + 1 : Nat) : Nat) : Int) = ((G : Nat) : Int) + 1 by omega] at hT3 HF
  have HT2 := Lib.hid hT3
  clear hg hT2 hf hT3
  go_wp2_with fail
  go_ret2
  exact ⟨rfl, HT2.out, HF.out⟩

theorem encP_len (p : Pl) : (encP p).length = 3 := rfl
/-- A row that is owned has the places. -/
theorem prow_own {w : World} {base n g c : Nat} {P : Tab} (h : w.ownsRow base 204 3 (.slice (some ⟨g, 0, none⟩) n c) n (flt encP P)) : PRow w g P := by
  rcases h.2 with ⟨h0, _⟩ | ⟨g', cap, cur, he, hb, hh, h1, h2, h3, h4⟩
  · simp at h0
  · simp only [Value.slice.injEq, Option.some.injEq, Addr.mk.injEq] at he
    obtain ⟨⟨rfl, _⟩, _, _⟩ := he
    refine ⟨cur, hh, fun i p hp j u hu => ?_⟩
    have := flt_get encP_len hp hu
    rw [← h4, List.getElem?_take] at this
    split at this
    · simpa using this
    · cases this
theorem infoPlace : (Tryz.prog.info? 204).map (fun i => (i.zero, i.size, i.bytes)) = some (some (.agg #[.bool false, .int .i64 0, .int .i64 0]), 3, 24) := by kernel_rfl
set_option maxHeartbeats 1600000 in
theorem slNew_ok (w : World) (c : Nat) (h1 : 1 ≤ c) (h2 : c ≤ 128) : Calls Tryz.prog 40 #[.int .i64 ((c : Nat) : Int)] w fun e w' => ∃ t g, e = .returned (.tuple #[.pointer (some ⟨t, 0, none⟩), .int .i64 0]) ∧ TAt w' t g c (List.replicate c ⟨false, 0, 0⟩) ∧ Below w.heap.size w w' ∧ w.heap.size ≤ t ∧ w.heap.size ≤ g := by
  have e1 : (1 : Int) ≤ (c : Int) := by omega
  have e2 : (c : Int) ≤ 128 := by omega
  have e3 : decide ((c : Int) < 1) = false := by simp; omega
  have e4 : decide ((128 : Int) < (c : Int)) = false := by simp; omega
  obtain ⟨i0, hi0, hz0, hz1, hz2⟩ := info_parts infoPlace
  go_enter Tryz.func40, Tryz.ntmps40
  go_wp2_with (with_reducible refine wpList_make_full _ rfl (.tmp 10) (.tmp 10) 172 rfl w.heap.size 204 i0 (.agg #[.bool false, .int .i64 0, .int .i64 0]) 3 Tryz.underlying172 hi0 hz0 hz1 _ _ _ _ c rfl rfl rfl rfl ?_ ?_ (Nat.le_refl _) ?_)
  · omega
  · unfold maxLen; omega
  intro W hown hgrow
  have HF : Hid (Fr [] w W) := Lib.hid ((fr_grown hgrow).mono (by simp))
  have HO : Hid (PRow W w.heap.size (List.replicate c ⟨false, 0, 0⟩)) := Lib.hid (by
    refine prow_own (base := w.heap.size) (n := c) (c := c) ?_
    rw [flt_replicate c _ encP_len (by omega)]
    exact hown)
  clear hown hgrow
  go_wp2_with fail
  go_ret2
  have hb1 : Below w.heap.size w W := HF.out.below (fun x hx => by simp at hx) (Nat.le_refl _)
  have hws := hb1.size
  refine ⟨W.heap.size, w.heap.size, rfl, ⟨?_, HO.out.same (Below.heap_alloc _ _ _ HO.out.lt), by simp, by unfold maxLen; omega, by simpa using h1, by simpa using h2⟩, hb1.alloc hb1.size _, hws, Nat.le_refl _⟩
  rw [List.length_replicate]
  exact block_new _ _ _ rfl
end Go.Proofs.YtcjeckjmoponkaaGreatDoor.Sl
/- Open. -/
namespace Go.Proofs.YtcjeckjmoponkaaGreatDoor.Sl
open Go.RowKit Go.Sort
set_option linter.unusedVariables false
set_option linter.unusedSimpArgs false

theorem slFree_any (w : World) (o : Bool) (G v : Int) : Calls Tryz.prog 110 #[.agg #[.bool o, .int .i64 G, .int .i64 v]] w fun e w' => e = .returned (.bool !o) ∧ Grn w w' := by
  go_enter Tryz.func110, Tryz.ntmps110
  go_wp2
  go_ret
  exact ⟨rfl, (Grn.refl w).alloc _⟩

theorem free_le (P : Tab) : free P ≤ P.length := List.findIdx_le_length
theorem free_step {P : Tab} {k : Nat} {p : Pl} (hk : k ≤ free P) (hp : P[k]? = some p) : (p.o = true → k + 1 ≤ free P) ∧ (p.o = false → free P = k) := by
  refine ⟨fun ho => ?_, fun ho => free_at hp ho fun j hj q hq => free_before (by omega) hq⟩
  rcases Nat.lt_or_ge k (free P) with h | h
  · exact h
  · have hl := (List.getElem?_eq_some_iff.1 hp).1
    obtain rfl : k = free P := by omega
    obtain ⟨q, hq, hqo⟩ := free_lt hl
    rw [hp] at hq
    cases hq
    rw [ho] at hqo
    cases hqo

/-- What IndexFunc says. -/
def idx (P : Tab) : Int := if free P < P.length then ((free P : Nat) : Int) else -1

set_option maxHeartbeats 1600000 in
theorem plIndex_any {w : World} {t g c : Nat} {P : Tab} (h : TAt w t g c P) :
    Calls Tryz.prog 109 #[.slice (some ⟨g, 0, none⟩) P.length c, .func (.func 110) #[] #[]] w fun e w' => e = .returned (.int .i64 (idx P)) ∧ Grn w w' := by
  have hn2 := h.n2
  have HH := Lib.hid h
  obtain ⟨N, hN⟩ : ∃ N, N = P.length := ⟨_, rfl⟩
  rw [← hN] at hn2 ⊢
  have HN := Lib.hid hN
  clear h hN
  have q4 : (N : Int) ≤ 128 := by omega
  go_enter Tryz.func109, Tryz.ntmps109
  go_wp2_with fail
  go_loopw [8] (fun i wr => ∃ k : Nat, k ≤ N ∧ k ≤ free P ∧ i = .int .i64 ((k : Nat) : Int) ∧ Hid (Grn w wr)) (fun i _ => N - (intOf i).toNat)
  case atStart => exact ⟨0, Nat.zero_le _, Nat.zero_le _, rfl, Lib.hid (Grn.refl w)⟩
  case round =>
    obtain ⟨k, hk, hkf, rfl, hg⟩ := hrel
    by_cases hlt : k < N
    · have hkL : k < P.length := by rw [← HN.out]; exact hlt
      have hp : P[k]? = some P[k] := List.getElem?_eq_getElem hkL
      have hT := HH.out.grown hg.out.below
      have r0 := hT.r.c0 hp
      have r1 := hT.r.c1 hp
      have r2 := hT.r.c2 hp
      have hgl := hT.lg
      have q1 : (0 : Int) ≤ (k : Int) := by omega
      have q2 : (k : Int) < (N : Int) := by omega
      have HST := Lib.hid (free_step hkf hp)
      generalize hpp : P[k] = p at *
      have HPP := Lib.hid hpp
      have HP := Lib.hid hp
      clear hT hpp hp
      obtain ⟨o, G, v⟩ := p
      simp only at r0 r1 r2
      go_wp2_with (go_at_call 110; fail)
      refine (slFree_any wr o ((G : Nat) : Int) v).mono ?_
      rintro e w2 ⟨rfl, hg2⟩
      have HG2 := Lib.hid (hg.out.trans hg2)
      clear hg2 hg
      cases o with
      | true =>
        go_wp2_with fail
        go_roundw
        case rel => exact ⟨k + 1, by omega, (by have := HST.out.1; simpa using this), by go_num, HG2⟩
        case measure => simp [intOf]; omega
      | false =>
        have hf : free P = k := by have := HST.out.2; simpa using this
        have hI : Hid (idx P = ((k : Nat) : Int)) := Lib.hid (by unfold idx; rw [hf, if_pos hkL])
        clear hf hkf
        go_wp2_with fail
        go_ret
        exact ⟨by rw [hI.out]; rfl, HG2.out⟩
    · obtain rfl : k = N := by omega
      have hI : Hid (idx P = -1) := Lib.hid (by unfold idx; rw [if_neg (by rw [← HN.out]; omega)])
      clear hkf
      go_wp2_with fail
      go_ret
      exact ⟨by rw [hI.out]; rfl, hg.out⟩

set_option maxHeartbeats 1600000 in
theorem slOpen_full {w : World} {t g c : Nat} {P : Tab} (h : TAt w t g c P) (hf : free P = P.length) (x : Int) :
    Calls Tryz.prog 60 #[.pointer (some ⟨t, 0, none⟩), .int .i64 x] w fun e w' => e = .returned (.tuple #[.agg #[.int .i64 0, .int .i64 0], .int .i64 7]) ∧ Grn w w' := by
  have hb := below_alloc w (.cells #[.int .i64 0, .int .i64 0] 47)
  have hT := h.grown hb
  have hu := Lib.hid (slUsable_yes hT)
  have hi := plIndex_any hT
  rw [show idx P = -1 by unfold idx; rw [if_neg (by omega)]] at hi
  have HI := Lib.hid hi
  have k := hT.ct
  have HB : Hid ((w.alloc (.cells #[.int .i64 0, .int .i64 0] 47)).heap[w.heap.size]? = some (.cells #[.int .i64 0, .int .i64 0] 47 (0, 0))) := Lib.hid (block_new _ _ _ rfl)
  generalize P.length = N at *
  clear h hf hT hb hi
  go_enter Tryz.func60, Tryz.ntmps60
  go_wp2_with (first | (go_at_call 108; refine hu.out.mono ?_; rintro e w2 ⟨rfl, rfl⟩) | (go_at_call 109; fail))
  refine HI.out.mono ?_
  rintro e w3 ⟨rfl, hg⟩
  have hB3 := (hg.below.block _ (lt_of_block HB.out)).trans HB.out
  have b0 := cells_cell (o := 0) hB3 rfl
  have b1 := cells_cell (o := 1) hB3 rfl
  have z0 := cells_free hB3 0
  have z1 := cells_free hB3 1
  have hbl := lt_of_block hB3
  have hput := (cells_set (cells_set hB3 0 (.int .i64 0)) 1 (.int .i64 0))
  have p0 := cells_cell (o := 0) hput rfl
  have p1 := cells_cell (o := 1) hput rfl
  have HG := Lib.hid (((Grn.refl w).alloc _).trans hg)
  clear hg hB3 hput
  go_wp2_with fail
  refine bodyPost_ret (v := .tuple #[.agg #[.int .i64 0, .int .i64 0], .int .i64 7]) (by simp [results, Tryz.results60, go_sem, p0, p1]) rfl ⟨rfl, ?_⟩
  exact (HG.out.set _ _ (Nat.le_refl _)).set _ _ (Nat.le_refl _)
set_option maxRecDepth 100000 in
set_option maxHeartbeats 3200000 in
theorem slOpen_yes {w : World} {t g c n : Nat} {P : Tab} {p : Pl} (h : TAt w t g c P) (hf : free P = n) (hp : P[n]? = some p) (x : Int) :
    Calls Tryz.prog 60 #[.pointer (some ⟨t, 0, none⟩), .int .i64 x] w fun e w' => e = .returned (.tuple #[.agg #[.int .i64 ((n : Nat) : Int), .int .i64 ((p.g : Nat) : Int)], .int .i64 0]) ∧ TAt w' t g c (P.set n ⟨true, p.g, x⟩) ∧ Fr [g] w w' := by
  have hb := below_alloc w (.cells #[.int .i64 0, .int .i64 0] 47)
  have hT := h.grown hb
  have hu := Lib.hid (slUsable_yes hT)
  have hi := plIndex_any hT
  have hl := (List.getElem?_eq_some_iff.1 hp).1
  rw [show idx P = ((n : Nat) : Int) by unfold idx; rw [hf, if_pos hl]] at hi
  have HI := Lib.hid hi
  have k := hT.ct
  have HT := Lib.hid hT
  have HP := Lib.hid hp
  have hn2 := h.n2
  have HB : Hid ((w.alloc (.cells #[.int .i64 0, .int .i64 0] 47)).heap[w.heap.size]? = some (.cells #[.int .i64 0, .int .i64 0] 47 (0, 0))) := Lib.hid (block_new _ _ _ rfl)
  have HGW := Lib.hid ((Grn.refl w).alloc (.cells #[.int .i64 0, .int .i64 0] 47))
  obtain ⟨N, hN⟩ : ∃ N, N = P.length := ⟨_, rfl⟩
  rw [← hN] at hi hl k hn2 HI
  have HN := Lib.hid hN
  have q1 : (0 : Int) ≤ (n : Int) := by omega
  have q2 : (n : Int) < (N : Int) := by omega
  have q4 : (N : Int) ≤ 128 := by omega
  clear h hf hT hb hi hp hN
  go_enter Tryz.func60, Tryz.ntmps60
  go_wp2_with (first | (go_at_call 108; refine hu.out.mono ?_; rintro e w2 ⟨rfl, rfl⟩) | (go_at_call 109; fail))
  refine HI.out.mono ?_
  rintro e w3 ⟨rfl, hg⟩
  have hB3 := (hg.below.block _ (lt_of_block HB.out)).trans HB.out
  have hT3 := HT.out.grown hg.below
  have k := hT3.ct
  rw [← HN.out] at k
  have hgl := hT3.lg
  have r0 := hT3.r.c0 HP.out
  have r1 := hT3.r.c1 HP.out
  have r2 := hT3.r.c2 HP.out
  have f0 := hT3.r.free (n * 3)
  have f2 := hT3.r.free (n * 3 + 2)
  have hne : g ≠ w.heap.size := by have := hT3.out hB3 (by decide); intro e; exact this (by simp [e])
  have HNE := Lib.hid hne
  have hput := hT3.r.put02 HP.out true x
  have hfr := (fr_setCell w3 ⟨g, n * 3, none⟩ (.bool true)).trans' (fr_setCell _ ⟨g, n * 3 + 2, none⟩ (.int .i64 x))
  have HG := Lib.hid (HGW.out.trans hg)
  obtain ⟨W4, hW4⟩ : ∃ X, X = (w3.setCell ⟨g, n * 3, none⟩ (.bool true)).setCell ⟨g, n * 3 + 2, none⟩ (.int .i64 x) := ⟨_, rfl⟩
  rw [← hW4] at hput hfr
  have HT4 := Lib.hid (hT3.step hput (by simp) hfr)
  have HF4 := Lib.hid hfr
  have HB4 := Lib.hid (hfr.same hB3 (by simpa using fun e => hne e.symm))
  have HW4 := Lib.hid hW4
  clear hg hB3 hT3 hput hfr hW4 hne
  have hl' := (List.getElem?_eq_some_iff.1 HP.out).1
  have hp4 : (P.set n ⟨true, p.g, x⟩)[n]? = some ⟨true, p.g, x⟩ := by rw [set_get HP.out]; simp
  have s0 := HT4.out.r.c0 hp4
  have s1 := HT4.out.r.c1 hp4
  have s2 := HT4.out.r.c2 hp4
  simp only at s0 s1 s2
  have HS := Lib.hid (And.intro s0 (And.intro s1 s2))
  clear s0 s1 s2 hp4 hl' hl
  go_wp2_with (go_at_call 111; fail)
  rw [← HW4.out]
  refine (slName_any W4 true ((p.g : Nat) : Int) x ((n : Nat) : Int)).mono ?_
  rintro e w5 ⟨rfl, hg5⟩
  have hB5 := (hg5.below.block _ (lt_of_block HB4.out)).trans HB4.out
  have b0 := cells_cell (o := 0) hB5 rfl
  have b1 := cells_cell (o := 1) hB5 rfl
  have z0 := cells_free hB5 0
  have z1 := cells_free hB5 1
  have hbl := lt_of_block hB5
  have hput := (cells_set (cells_set hB5 0 (.int .i64 ((n : Nat) : Int))) 1 (.int .i64 ((p.g : Nat) : Int)))
  have p0 := cells_cell (o := 0) hput rfl
  have p1 := cells_cell (o := 1) hput rfl
  have hf5 := (fr_setCell w5 ⟨w.heap.size, 0, none⟩ (.int .i64 ((n : Nat) : Int))).trans' (fr_setCell _ ⟨w.heap.size, 1, none⟩ (.int .i64 ((p.g : Nat) : Int)))
  have HT5 := Lib.hid ((HT4.out.grown hg5.below).fr hf5 (by have := ne_types (HT4.out.grown hg5.below).t hB5 (by decide); simpa using this) (by simpa using HNE.out))
  have HF5 := Lib.hid (((((Fr.of_below HG.out.below [g]).trans' HF4.out).trans' (Fr.of_below hg5.below [g])).trans hf5 (fun y hy => .inr (by simp at hy; omega))))
  clear hg5 hB5 hput hf5 r0 r1 r2 f0 f2 k hgl
  go_wp2_with fail
  refine bodyPost_ret (v := .tuple #[.agg #[.int .i64 ((n : Nat) : Int), .int .i64 ((p.g : Nat) : Int)], .int .i64 0]) (by simp [results, Tryz.results60, go_sem, p0, p1]) rfl ⟨rfl, ?_, ?_⟩
  · exact HT5.out
  · exact HF5.out
end Go.Proofs.YtcjeckjmoponkaaGreatDoor.Sl
/- Clone, Copy, All. -/
namespace Go.Proofs.YtcjeckjmoponkaaGreatDoor.Sl
open Go.RowKit Go.Sort
set_option linter.unusedVariables false
set_option linter.unusedSimpArgs false

end Go.Proofs.YtcjeckjmoponkaaGreatDoor.Sl
