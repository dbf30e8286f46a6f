/- QTaskA: FPure, FMem, FDo, FCall, merged. -/
import Derived.Test.YtcjeckjmoponkaaGreatDoorQFifoA
import Derived.Test.YtcjeckjmoponkaaGreatDoorQRow
import Derived.StillTailTactics
import Derived.Deep.QuietTactic
import Derived.BigQuiet
import Derived.Deep.CutBlock
import Derived.Deep.RegionWith
/- Tables of tasks as lists: states with tickets, and the run set as a queue. -/
namespace Go.Proofs.YtcjeckjmoponkaaGreatDoor
set_option linter.unusedVariables false
set_option linter.unusedSimpArgs false

/-- A task: its state, and its ticket in the run set. -/
structure Ck where
  s : Int
  k : Nat
abbrev Ks := List Ck

/-- The run set has just the tasks that are ready. -/
structure Rk (P : Ks) (Q : Qu) : Prop where
  rd : ∀ i p, P[i]? = some p → p.s = 1 → (p.k, ((i : Nat) : Int)) ∈ Q
  qu : ∀ x ∈ Q, ∃ i : Nat, x.2 = ((i : Nat) : Int) ∧ P[i]? = some ⟨1, x.1⟩

/-- The run set without a task. -/
def wo (n : Nat) (Q : Qu) : Qu := Q.filter fun x => decide (x.2 ≠ ((n : Nat) : Int))
theorem mem_wo {n : Nat} {Q : Qu} {x : Nat × Int} : x ∈ wo n Q ↔ x ∈ Q ∧ x.2 ≠ ((n : Nat) : Int) := by simp [wo, List.mem_filter]
theorem wo_append (n : Nat) (A B : Qu) : wo n (A ++ B) = wo n A ++ wo n B := List.filter_append _ _
theorem wo_same {n : Nat} {Q : Qu} (h : ∀ x ∈ Q, x.2 ≠ ((n : Nat) : Int)) : wo n Q = Q := List.filter_eq_self.2 fun x hx => by simpa using h x hx
/-- What a call makes of the table, where the task goes to a state. -/
def stepP (P : Ks) (i : Nat) (tg : Int) (g : Nat) : Ks := P.set i ⟨tg, if tg = 1 then g + 1 else 0⟩
def stepQ (Q : Qu) (i : Nat) (tg : Int) (g : Nat) : Qu := wo i Q ++ if tg = 1 then [(g + 1, ((i : Nat) : Int))] else []
def stepG (tg : Int) (g : Nat) : Nat := if tg = 1 then g + 1 else g

section
variable {P : Ks} {Q : Qu} {i k g : Nat} {s tg : Int}
theorem setK {p : Ck} (hp : P[i]? = some p) (x : Ck) (j : Nat) : (P.set i x)[j]? = if i = j then some x else P[j]? := by
  have hl := (List.getElem?_eq_some_iff.1 hp).1
  rw [List.getElem?_set]
  by_cases h : i = j
  · subst h; simp [hl]
  · simp [h]
theorem Rk.fun (h : Rk P Q) {x : Nat × Int} (hx : x ∈ Q) {p : Ck} (hi : x.2 = ((i : Nat) : Int)) (hp : P[i]? = some p) : p = ⟨1, x.1⟩ := by
  obtain ⟨j, h1, h2⟩ := h.qu x hx
  have : i = j := by omega
  subst this
  rw [h2] at hp
  exact (Option.some.inj hp).symm
/-- A task that is not ready is not there. -/
theorem Rk.none (h : Rk P Q) {p : Ck} (hp : P[i]? = some p) (hs : p.s ≠ 1) : wo i Q = Q := wo_same fun x hx e => hs (by rw [h.fun hx e hp])
/-- A task that is ready is there once. -/
theorem Rk.split (h : Rk P Q) (hq : Inc 0 Q) (hp : P[i]? = some ⟨1, k⟩) : ∃ A B, Q = A ++ (k, ((i : Nat) : Int)) :: B ∧ wo i Q = A ++ B := by
  obtain ⟨A, B, rfl⟩ := List.append_of_mem (show (k, ((i : Nat) : Int)) ∈ Q from h.rd i _ hp rfl)
  obtain ⟨hA, hk, hB⟩ := (inc_append 0 A _).1 hq
  refine ⟨A, B, rfl, ?_⟩
  have e1 : wo i A = A := wo_same fun x hx e => by
    have h1 := h.fun (List.mem_append_left _ hx) e hp
    have := (hA.mem hx).2
    have h2 : k = x.1 := (Ck.mk.inj h1).2
    omega
  have e2 : wo i B = B := wo_same fun x hx e => by
    have h1 := h.fun (List.mem_append_right _ (List.mem_cons_of_mem _ hx)) e hp
    have := (hB.mem hx).1
    have h2 : k = x.1 := (Ck.mk.inj h1).2
    omega
  rw [wo_append, e1]
  have : wo i ((k, ((i : Nat) : Int)) :: B) = wo i B := by unfold wo; rw [List.filter_cons]; simp
  rw [this, e2]
theorem Rk.step (h : Rk P Q) {p : Ck} (hp : P[i]? = some p) (tg : Int) (g : Nat) : Rk (stepP P i tg g) (stepQ Q i tg g) := by
  refine ⟨fun j q hq hs => ?_, fun x hx => ?_⟩
  · unfold stepP at hq
    rw [setK hp] at hq
    unfold stepQ
    split at hq
    · rename_i e
      subst e
      cases hq
      simp only at hs ⊢
      subst hs
      simp
    · rename_i e
      exact List.mem_append_left _ (mem_wo.2 ⟨h.rd j q hq hs, by simp only; omega⟩)
  · unfold stepQ at hx
    unfold stepP
    rcases List.mem_append.1 hx with hx | hx
    · obtain ⟨h1, h2⟩ := mem_wo.1 hx
      obtain ⟨j, h3, h4⟩ := h.qu x h1
      refine ⟨j, h3, ?_⟩
      rw [setK hp, if_neg (by omega)]
      exact h4
    · split at hx
      · rename_i e
        simp at hx
        subst hx e
        exact ⟨i, rfl, by rw [setK hp, if_pos rfl]; simp⟩
      · cases hx
end
theorem rk_new (n : Nat) : Rk (List.replicate n ⟨0, 0⟩) [] := by
  refine ⟨fun i p hp hs => ?_, fun x hx => by cases hx⟩
  rw [List.getElem?_replicate] at hp
  split at hp
  · cases hp; cases hs
  · cases hp
theorem Rk.nodup {P : Ks} {Q : Qu} (h : Rk P Q) {p : Nat} (hq : Inc p Q) : (Q.map Prod.snd).Nodup := by
  have hh : ∀ x ∈ Q, ∃ i : Nat, x.2 = ((i : Nat) : Int) ∧ P[i]? = some ⟨1, x.1⟩ := h.qu
  clear h
  induction Q generalizing p with
  | nil => exact List.nodup_nil
  | cons x r ih =>
    obtain ⟨t, v⟩ := x
    rw [List.map_cons, List.nodup_cons]
    refine ⟨fun hm => ?_, ih hq.2 (fun y hy => hh y (List.mem_cons_of_mem _ hy))⟩
    obtain ⟨y, hy, e⟩ := List.mem_map.1 hm
    obtain ⟨i, h1, h2⟩ := hh (t, v) List.mem_cons_self
    obtain ⟨j, h3, h4⟩ := hh y (List.mem_cons_of_mem _ hy)
    have e1 : y.2 = v := e
    have e2 : v = ((i : Nat) : Int) := h1
    have : i = j := by omega
    subst this
    rw [h2] at h4
    have e3 : t = y.1 := (Ck.mk.inj (Option.some.inj h4)).2
    have := (hq.2.mem hy).1
    omega
/-- A list without doubles of numbers below n is not longer than n. -/
theorem nodup_len : ∀ (n : Nat) (l : List Int), l.Nodup → (∀ x ∈ l, ∃ i : Nat, x = ((i : Nat) : Int) ∧ i < n) → l.length ≤ n
  | 0, [], _, _ => Nat.le_refl _
  | 0, x :: l, _, h => by obtain ⟨i, _, hi⟩ := h x List.mem_cons_self; omega
  | n + 1, l, hn, h => by
    by_cases hm : ((n : Nat) : Int) ∈ l
    · have h1 := nodup_len n (l.erase ((n : Nat) : Int)) (hn.erase _) (fun x hx => by
        obtain ⟨i, e, hi⟩ := h x (List.mem_of_mem_erase hx)
        refine ⟨i, e, ?_⟩
        have : x ≠ ((n : Nat) : Int) := fun e2 => by rw [e2] at hx; exact (List.Nodup.mem_erase_iff hn).1 hx |>.1 rfl
        omega)
      rw [List.length_erase_of_mem hm] at h1
      omega
    · have h1 := nodup_len n l hn (fun x hx => by
        obtain ⟨i, e, hi⟩ := h x hx
        refine ⟨i, e, ?_⟩
        have : i ≠ n := fun e2 => by subst e2; rw [e] at hx; exact hm hx
        omega)
      omega
theorem Rk.len {P : Ks} {Q : Qu} (h : Rk P Q) (hq : Inc 0 Q) : Q.length ≤ P.length := by
  have := nodup_len P.length (Q.map Prod.snd) (h.nodup hq) (fun x hx => by
    obtain ⟨y, hy, rfl⟩ := List.mem_map.1 hx
    obtain ⟨i, h1, h2⟩ := h.qu y hy
    exact ⟨i, h1, (List.getElem?_eq_some_iff.1 h2).1⟩)
  simpa using this
end Go.Proofs.YtcjeckjmoponkaaGreatDoor
/- A table of tasks in memory; usable, find, Len, State, Next. -/
namespace Go.Proofs.YtcjeckjmoponkaaGreatDoor
open Go.RowKit Go.Sort Go.MapKept
set_option linter.unusedVariables false
set_option linter.unusedSimpArgs false

def encK (p : Ck) : List Value := [.int .i64 p.s, .int .u64 ((p.k : Nat) : Int)]
def TC : GT Ck := ⟨249, 306, 2, encK⟩
theorem infoCell : (Tryz.prog.info? 306).map (fun i => (i.zero, i.size, i.bytes)) = some (some (.agg #[.int .i64 0, .int .u64 0]), 2, 16) := by kernel_rfl
theorem TC_ok : TC.Ok := by
  refine ⟨fun _ => rfl, fun x u hu => ?_, by decide, Tryz.underlying249, ?_⟩
  · simp only [TC, encK, List.mem_cons, List.not_mem_nil, or_false] at hu
    rcases hu with rfl | rfl <;> rfl
  · obtain ⟨i, h1, h2, h3, h4⟩ := info_parts infoCell
    exact ⟨i, _, h1, h2, h3, by rw [h4]; decide, by decide⟩

/-- What the calls ask for. -/
def mvs : List Int := [0, 1, 1, 2, 2, 1, 1, 0, 1, 1]
def MvAt (w : World) : Prop := ∀ j x, mvs[j]? = some x → w.cell? ⟨0, j, none⟩ = some (.int .i64 x)
theorem MvAt.lt {w : World} (h : MvAt w) : 0 < w.heap.size := World.block_lt_of_cell? w _ (h 0 0 rfl)
theorem MvAt.same {w w' : World} (h : MvAt w) (hs : w'.heap[0]? = w.heap[0]?) : MvAt w' := fun j x hx => (World.cell?_of_block (a := ⟨0, j, none⟩) hs).trans (h j x hx)
theorem MvAt.below {B : Nat} {w w' : World} (h : MvAt w) (hb : Below B w w') (hl : 0 < B) : MvAt w' := h.same (hb.block _ hl)

/-- Where a table lies. -/
structure Tl where
  t : Nat
  c : Nat
  cc : Nat
  q : Nat
  b : Nat
  m : Nat
def Tl.F (l : Tl) : List Nat := [l.c, l.b, l.m]
/-- The table at l, all of it from B on. -/
structure KAt (B : Nat) (w : World) (l : Tl) (P : Ks) (Q : Qu) (g : Nat) : Prop where
  t : w.heap[l.t]? = some (.cells #[.slice (some ⟨l.c, 0, none⟩) P.length l.cc, .pointer (some ⟨l.q, 0, none⟩)] 251 (0, 0))
  r : Row TC w B (.slice (some ⟨l.c, 0, none⟩) P.length l.cc) P
  qa : QAt w l.q l.b l.m Q g
  n1 : 1 ≤ P.length
  n2 : P.length ≤ 64
  mv : MvAt w
  g0 : 0 < B
  bt : B ≤ l.t
  bq : B ≤ l.q
  bb : B ≤ l.b
  bm : B ≤ l.m
section
variable {B : Nat} {w w' : World} {l : Tl} {P P' : Ks} {Q Q' : Qu} {g g' i k : Nat} {s : Int}
theorem KAt.lt (h : KAt B w l P Q g) : l.t < w.heap.size := lt_of_block h.t
theorem KAt.bc (h : KAt B w l P Q g) : B ≤ l.c := (h.r.lt _ rfl).1
theorem KAt.lc (h : KAt B w l P Q g) : l.c < w.heap.size := (h.r.lt _ rfl).2
theorem KAt.cblock (h : KAt B w l P Q g) : ∃ cu, w.heap[l.c]? = some (.cells cu 306 (0, 0)) := by
  rcases h.r.2 with ⟨h0, _⟩ | ⟨g', cap, cu, hv, _, hh, _⟩
  · simp at h0
  · simp only [Value.slice.injEq, Option.some.injEq, Addr.mk.injEq] at hv
    obtain ⟨⟨rfl, _⟩, _, _⟩ := hv
    exact ⟨cu, hh⟩
theorem KAt.cap (h : KAt B w l P Q g) : P.length ≤ l.cc ∧ l.cc ≤ maxLen := by
  obtain ⟨a, c, hv, h1, h2⟩ := h.r.form
  simp only [Value.slice.injEq] at hv
  rw [hv.2.2]
  exact ⟨h1, h2⟩
theorem KAt.at (h : KAt B w l P Q g) {p : Ck} (hp : P[i]? = some p) (j : Nat) {u : Value} (hu : (encK p)[j]? = some u) : w.cell? ⟨l.c, i * 2 + j, none⟩ = some u := by
  obtain ⟨g', c, hv, _, _, _, h2⟩ := h.r.at TC_ok hp
  simp only [Value.slice.injEq, Option.some.injEq, Addr.mk.injEq] at hv
  obtain ⟨⟨rfl, _⟩, _, _⟩ := hv
  exact h2 j u hu
theorem KAt.c0 (h : KAt B w l P Q g) {p : Ck} (hp : P[i]? = some p) : w.cell? ⟨l.c, i * 2, none⟩ = some (.int .i64 p.s) := h.at hp 0 rfl
theorem KAt.c1 (h : KAt B w l P Q g) {p : Ck} (hp : P[i]? = some p) : w.cell? ⟨l.c, i * 2 + 1, none⟩ = some (.int .u64 ((p.k : Nat) : Int)) := h.at hp 1 rfl
theorem KAt.free (h : KAt B w l P Q g) (o : Nat) : w.frozen? ⟨l.c, o, none⟩ = false := by
  obtain ⟨cu, hc⟩ := h.cblock
  exact cells_free hc o
theorem KAt.ct0 (h : KAt B w l P Q g) : w.cell? ⟨l.t, 0, none⟩ = some (.slice (some ⟨l.c, 0, none⟩) P.length l.cc) := cells_cell h.t rfl
theorem KAt.ct1 (h : KAt B w l P Q g) : w.cell? ⟨l.t, 1, none⟩ = some (.pointer (some ⟨l.q, 0, none⟩)) := cells_cell h.t rfl
/-- A block of another type is none of those that may change. -/
theorem KAt.out (h : KAt B w l P Q g) {x : Nat} {y : Array Value} {u : TypeId} (hc : w.heap[x]? = some (.cells y u (0, 0))) (h1 : u ≠ 306) (h2 : u ≠ 292) : x ∉ l.F := by
  obtain ⟨cu, hcc⟩ := h.cblock
  have e1 := ne_types hc hcc h1
  have e2 := h.qa.out hc h2
  simp at e2
  simp [Tl.F, e1, e2]
theorem KAt.same (h : KAt B w l P Q g) {F : List Nat} (hf : Fr F w w') (h0 : ∀ x ∈ F, B ≤ x) (h1 : l.t ∉ F) (h2 : l.c ∉ F) (h3 : l.q ∉ F) (h4 : l.b ∉ F) (h5 : l.m ∉ F) : KAt B w' l P Q g :=
  ⟨(hf.block _ h.lt h1).trans h.t, h.r.fr hf (fun y hy => by cases hy; exact h2), h.qa.fr hf h3 h4 h5, h.n1, h.n2, h.mv.same (hf.block _ h.mv.lt (fun hm => by have := h0 _ hm; have := h.g0; omega)), h.g0, h.bt, h.bq, h.bb, h.bm⟩
theorem KAt.grown (h : KAt B w l P Q g) (hb : Below w.heap.size w w') : KAt B w' l P Q g :=
  h.same (F := []) (Fr.of_below hb []) (fun x hx => by cases hx) (by simp) (by simp) (by simp) (by simp) (by simp)
theorem KAt.lower {B' : Nat} (h : KAt B w l P Q g) (hb : B' ≤ B) (h0 : 0 < B') : KAt B' w l P Q g :=
  ⟨h.t, h.r.lower hb, h.qa, h.n1, h.n2, h.mv, h0, Nat.le_trans hb h.bt, Nat.le_trans hb h.bq, Nat.le_trans hb h.bb, Nat.le_trans hb h.bm⟩
/-- The run set has changed. -/
theorem KAt.queue (h : KAt B w l P Q g) (hq : QAt w' l.q l.b l.m Q' g') (hf : Fr [l.b, l.m] w w') : KAt B w' l P Q' g' := by
  obtain ⟨cu, hcc⟩ := h.cblock
  have h1 := h.qa.out h.t (by decide)
  have h2 := h.qa.out hcc (by decide)
  have h3 : 0 ∉ [l.b, l.m] := by have := h.bb; have := h.bm; have := h.g0; simp; omega
  exact ⟨(hf.block _ h.lt h1).trans h.t, h.r.fr hf (fun y hy => by cases hy; exact h2), hq, h.n1, h.n2, h.mv.same (hf.block _ h.mv.lt h3), h.g0, h.bt, h.bq, h.bb, h.bm⟩
/-- A cell of a task is written. -/
theorem KAt.put (h : KAt B w l P Q g) {p y : Ck} (hp : P[i]? = some p) (j : Nat) (hj : j < 2) (v : Value) (he : encK y = (encK p).set j v) : KAt B (w.setCell ⟨l.c, i * 2 + j, none⟩ v) l (P.set i y) Q g := by
  obtain ⟨cu, hcc⟩ := h.cblock
  have hf := fr_setCell w ⟨l.c, i * 2 + j, none⟩ v
  have e1 := ne_types h.t hcc (by decide)
  have e2 := ne_types h.qa.q hcc (by decide)
  have e3 := ne_types h.qa.b hcc (by decide)
  have e4 := h.qa.m.ne hcc
  have e5 : 0 ≠ l.c := by have := h.bc; have := h.g0; omega
  have hr := Row.set TC_ok h.r hp (i := j) (u := v) hj he
  refine ⟨by rw [List.length_set]; exact (hf.block _ h.lt (by simpa using e1)).trans h.t, by rw [List.length_set]; exact hr, h.qa.fr hf (by simpa using e2) (by simpa using e3) (by simpa using e4.symm), by rw [List.length_set]; exact h.n1, by rw [List.length_set]; exact h.n2, h.mv.same (hf.block _ h.mv.lt (by simpa using e5)), h.g0, h.bt, h.bq, h.bb, h.bm⟩
theorem KAt.put0 (h : KAt B w l P Q g) {p : Ck} (hp : P[i]? = some p) (s : Int) : KAt B (w.setCell ⟨l.c, i * 2, none⟩ (.int .i64 s)) l (P.set i ⟨s, p.k⟩) Q g := h.put hp 0 (by omega) _ rfl
theorem KAt.put1 (h : KAt B w l P Q g) {p : Ck} (hp : P[i]? = some p) (k : Nat) : KAt B (w.setCell ⟨l.c, i * 2 + 1, none⟩ (.int .u64 ((k : Nat) : Int))) l (P.set i ⟨p.s, k⟩) Q g := h.put hp 1 (by omega) _ rfl
/-- Both cells of a task are written. -/
theorem KAt.put2 (h : KAt B w l P Q g) {p : Ck} (hp : P[i]? = some p) (s : Int) (k : Nat) : KAt B ((w.setCell ⟨l.c, i * 2, none⟩ (.int .i64 s)).setCell ⟨l.c, i * 2 + 1, none⟩ (.int .u64 ((k : Nat) : Int))) l (P.set i ⟨s, k⟩) Q g := by
  have hl := (List.getElem?_eq_some_iff.1 hp).1
  have h1 := (h.put0 hp s).put1 (i := i) (p := ⟨s, p.k⟩) (by simp [hl]) k
  rwa [List.set_set] at h1
theorem KAt.frc (w : World) (l : Tl) (o : Nat) (v : Value) : Fr l.F w (w.setCell ⟨l.c, o, none⟩ v) := (fr_setCell w ⟨l.c, o, none⟩ v).mono fun x hx => .inl (by simp at hx; simp [Tl.F, hx])
theorem frq {w w' : World} {l : Tl} (h : Fr [l.b, l.m] w w') : Fr l.F w w' := h.mono fun x hx => .inl (by simp at hx; simp [Tl.F, hx])
end

/-- A pointer that is no table. -/
def NoK (w : World) (v : Value) : Prop := v = .pointer none ∨ ∃ q, v = .pointer (some ⟨q, 0, none⟩) ∧ w.heap[q]? = some (.cells #[.slice none 0 0, .pointer none] 251 (0, 0))
theorem NoK.grown {w w' : World} {v : Value} (h : NoK w v) (hb : Below w.heap.size w w') : NoK w' v := by
  rcases h with h | ⟨q, h1, h2⟩
  · exact .inl h
  · exact .inr ⟨q, h1, (hb.block _ (lt_of_block h2)).trans h2⟩
theorem NoK.form {w : World} {v : Value} (h : NoK w v) : ∃ a, v = .pointer a := by
  rcases h with h | ⟨q, h1, h2⟩
  · exact ⟨_, h⟩
  · exact ⟨_, h1⟩

theorem tkUsable_yes {B : Nat} {w : World} {l : Tl} {P : Ks} {Q : Qu} {g : Nat} (h : KAt B w l P Q g) : Calls Tryz.prog 186 #[.pointer (some ⟨l.t, 0, none⟩)] w fun e w' => e = .returned (.bool true) ∧ w' = w := by
  have k := h.ct0
  clear h
  generalize P.length = n at *
  go_enter Tryz.func186, Tryz.ntmps186
  go_wp2
  go_ret
  exact ⟨rfl, rfl⟩
section
variable {B : Nat} {w : World} {l : Tl} {P : Ks} {Q : Qu} {g : Nat}
theorem tkFind_yes (h : KAt B w l P Q g) {n : Nat} (hn : n < P.length) :
    Calls Tryz.prog 183 #[.pointer (some ⟨l.t, 0, none⟩), .int .i64 ((n : Nat) : Int)] w fun e w' => e = .returned (.tuple #[.pointer (some ⟨l.c, n * 2, none⟩), .int .i64 0]) ∧ w' = w := by
  have hu := Lib.hid (tkUsable_yes h)
  have k := h.ct0
  have hn2 := h.n2
  have hcl := h.lc
  clear h
  generalize P.length = m at *
  have q1 : (0 : Int) ≤ (n : Int) := by omega
  have q2 : (n : Int) < (m : Int) := by omega
  have q3 : (n : Int) ≤ 64 := by omega
  have q4 : (m : Int) ≤ 64 := by omega
  clear hn hn2
  go_enter Tryz.func183, Tryz.ntmps183
  go_wp2_with (go_at_call 186; refine hu.out.mono ?_; rintro e w2 ⟨rfl, rfl⟩)
  go_ret2
  exact ⟨rfl, rfl⟩
/-- A number of no task. -/
def NoI (P : Ks) (N : Int) : Prop := N < 0 ∨ ((P.length : Nat) : Int) ≤ N
theorem tkFind_bad (h : KAt B w l P Q g) {N : Int} (hn : NoI P N) :
    Calls Tryz.prog 183 #[.pointer (some ⟨l.t, 0, none⟩), .int .i64 N] w fun e w' => e = .returned (.tuple #[.pointer none, .int .i64 2]) ∧ w' = w := by
  have hu := Lib.hid (tkUsable_yes h)
  have k := h.ct0
  have hn2 := h.n2
  have hcl := h.lc
  clear h
  unfold NoI at hn
  generalize P.length = m at *
  have q4 : (m : Int) ≤ 64 := by omega
  by_cases h0 : N < 0
  · clear hn
    go_enter Tryz.func183, Tryz.ntmps183
    go_wp2_with (go_at_call 186; refine hu.out.mono ?_; rintro e w2 ⟨rfl, rfl⟩)
    go_ret2
    exact ⟨rfl, rfl⟩
  · have q1 : (0 : Int) ≤ N := by omega
    have q2 : (m : Int) ≤ N := by omega
    clear hn h0
    go_enter Tryz.func183, Tryz.ntmps183
    go_wp2_with (go_at_call 186; refine hu.out.mono ?_; rintro e w2 ⟨rfl, rfl⟩)
    go_ret2
    exact ⟨rfl, rfl⟩

theorem tkState_yes (h : KAt B w l P Q g) {n : Nat} {p : Ck} (hp : P[n]? = some p) :
    Calls Tryz.prog 129 #[.pointer (some ⟨l.t, 0, none⟩), .int .i64 ((n : Nat) : Int)] w fun e w' => e = .returned (.tuple #[.int .i64 p.s, .int .i64 0]) ∧ w' = w := by
  have hu := Lib.hid (tkFind_yes h (List.getElem?_eq_some_iff.1 hp).1)
  have k := h.c0 hp
  clear h hp
  go_enter Tryz.func129, Tryz.ntmps129
  go_wp2_with (go_at_call 183; refine hu.out.mono ?_; rintro e w2 ⟨rfl, rfl⟩)
  go_ret2
  exact ⟨rfl, rfl⟩
theorem tkState_bad (h : KAt B w l P Q g) {N : Int} (hn : NoI P N) :
    Calls Tryz.prog 129 #[.pointer (some ⟨l.t, 0, none⟩), .int .i64 N] w fun e w' => e = .returned (.tuple #[.int .i64 0, .int .i64 2]) ∧ w' = w := by
  have hu := Lib.hid (tkFind_bad h hn)
  clear h hn
  go_enter Tryz.func129, Tryz.ntmps129
  go_wp2_with (go_at_call 183; refine hu.out.mono ?_; rintro e w2 ⟨rfl, rfl⟩)
  go_ret2
  exact ⟨rfl, rfl⟩
end
end Go.Proofs.YtcjeckjmoponkaaGreatDoor
/- do, where a call is refused. -/
namespace Go.Proofs.YtcjeckjmoponkaaGreatDoor
open Go.RowKit Go.Sort Go.MapKept
set_option linter.unusedVariables false
set_option linter.unusedSimpArgs false

theorem neq_mv_same (w : World) (a b : Int) : (binOp .neq 346 (.agg #[.int .i64 a, .int .i64 b]) (.agg #[.int .i64 a, .int .i64 b])).run Tryz.prog w = .ok (.bool false) w := by
  have h1 : Tryz.prog.underlying 346 = some _ := Tryz.underlying346
  simp [go_sem, h1]
theorem neq_mv_other (w : World) (a b a' : Int) (h : a ≠ a') : (binOp .neq 346 (.agg #[.int .i64 a, .int .i64 b]) (.agg #[.int .i64 a', .int .i64 b])).run Tryz.prog w = .ok (.bool true) w := by
  have h1 : Tryz.prog.underlying 346 = some _ := Tryz.underlying346
  simp [go_sem, h1, h]

section
variable {B : Nat} {w : World} {l : Tl} {P : Ks} {Q : Qu} {g : Nat}
theorem tkDo_bad (h : KAt B w l P Q g) {N : Int} (hn : NoI P N) (c : Int) : Calls Tryz.prog 184 #[.pointer (some ⟨l.t, 0, none⟩), .int .i64 c, .int .i64 N] w fun e w' => e = .returned (.int .i64 2) ∧ w' = w := by
  have hu := Lib.hid (tkFind_bad h hn)
  clear h hn
  go_enter Tryz.func184, Tryz.ntmps184
  go_wp2_with (go_at_call 183; refine hu.out.mono ?_; rintro e w2 ⟨rfl, rfl⟩)
  go_ret
  exact ⟨rfl, rfl⟩
theorem newMv (w : World) (fr tg : Int) : ∃ W, w.alloc (.cells #[.int .i64 fr, .int .i64 tg] 346) = W ∧ Below w.heap.size w W ∧ Grn w W ∧ W.heap[w.heap.size]? = some (.cells #[.int .i64 fr, .int .i64 tg] 346 (0, 0)) :=
  ⟨_, rfl, below_alloc _ _, (Grn.refl w).alloc _, heap_alloc_new w _⟩
set_option maxRecDepth 100000 in
set_option maxHeartbeats 1600000 in
theorem tkDo_state (h : KAt B w l P Q g) {n c : Nat} {p : Ck} {fr tg : Int} (hp : P[n]? = some p) (hf : mvs[c * 2]? = some fr) (ht : mvs[c * 2 + 1]? = some tg) (hc : c < 5) (hs : fr ≠ p.s) :
    Calls Tryz.prog 184 #[.pointer (some ⟨l.t, 0, none⟩), .int .i64 ((c : Nat) : Int), .int .i64 ((n : Nat) : Int)] w fun e w' => e = .returned (.int .i64 8) ∧ Grn w w' := by
  have hu := Lib.hid (tkFind_yes h (List.getElem?_eq_some_iff.1 hp).1)
  have g0 := h.mv _ _ hf
  have g1 := h.mv _ _ ht
  have gl := h.mv.lt
  have q1 : (0 : Int) ≤ (c : Int) := by omega
  have q2 : (c : Int) < 5 := by omega
  have hq := fun W => neq_mv_other W fr tg p.s hs
  obtain ⟨W, hW, hb, hg, hx⟩ := newMv w fr tg
  have hK := h.grown hb
  have k0 := hK.c0 hp
  have lc := hK.lc
  have x0 := cells_cell (o := 0) hx rfl
  have x1 := cells_cell (o := 1) hx rfl
  have xl := lt_of_block hx
  have HW := Lib.hid hW
  have HG := Lib.hid hg
  clear h hp hf ht hc hs hW hb hg hx hK
  go_enter Tryz.func184, Tryz.ntmps184
  go_wp2_with (go_at_call 183; refine hu.out.mono ?_; rintro e w2 ⟨rfl, rfl⟩)
  rw [HW.out]
  generalize w2.heap.size = z at *
  go_quiet (fail)
  go_wp2
  go_ret
  exact ⟨rfl, HG.out.drew _⟩

/-- What do returns where the task is in the state that the call asks for. -/
def Did (B : Nat) (w : World) (l : Tl) (P : Ks) (Q : Qu) (g n : Nat) (tg : Int) (e : Ending) (w' : World) : Prop :=
  e = .returned (.int .i64 0) ∧ KAt B w' l (stepP P n tg g) (stepQ Q n tg g) (stepG tg g) ∧ Fr l.F w w'

set_option maxRecDepth 100000 in
set_option maxHeartbeats 3200000 in
/-- Not ready before, ready then. -/
theorem tkDo_in (h : KAt B w l P Q g) (hR : Rk P Q) (hg : g ≤ 900000000) {n c : Nat} {p : Ck} {fr : Int} (hp : P[n]? = some p) (hf : mvs[c * 2]? = some fr) (ht : mvs[c * 2 + 1]? = some 1) (hc : c < 5) (hs : fr = p.s) (h1 : p.s ≠ 1) :
    Calls Tryz.prog 184 #[.pointer (some ⟨l.t, 0, none⟩), .int .i64 ((c : Nat) : Int), .int .i64 ((n : Nat) : Int)] w (Did B w l P Q g n 1) := by
  have HQL := Lib.hid (show Q.length < 4096 by have := hR.len h.qa.inc; have := h.n2; omega)
  have hu := Lib.hid (tkFind_yes h (List.getElem?_eq_some_iff.1 hp).1)
  have g0 := h.mv _ _ hf
  have g1 := h.mv _ _ ht
  have gl := h.mv.lt
  have q1 : (0 : Int) ≤ (c : Int) := by omega
  have q2 : (c : Int) < 5 := by omega
  have hwo := Lib.hid (hR.none hp h1)
  rw [← hs] at h1
  have hq := fun W => neq_mv_same W fr 1
  obtain ⟨W, hW, hb, hgr, hx⟩ := newMv w fr 1
  have hK := h.grown hb
  have k0 := hK.c0 hp
  rw [← hs] at k0
  have lc := hK.lc
  have x0 := cells_cell (o := 0) hx rfl
  have x1 := cells_cell (o := 1) hx rfl
  have xl := lt_of_block hx
  have HW := Lib.hid hW
  have HG := Lib.hid hgr
  have HK := Lib.hid hK
  have HX := Lib.hid hx
  have HP := Lib.hid hp
  have HGG := Lib.hid hg
  have e1 : (fr == 1) = false := by simpa using h1
  clear h hp hf ht hc hs hW hb hgr hx hK hR h1 hg
  go_enter Tryz.func184, Tryz.ntmps184
  go_wp2_with (go_at_call 183; refine hu.out.mono ?_; rintro e w2 ⟨rfl, rfl⟩)
  rw [HW.out]
  clear HW
  generalize hz : w2.heap.size = z at *
  have HZ := Lib.hid hz
  clear hz
  go_quiet (fail)
  have hdb := ((Grn.refl W).drew nq).below
  have hK2 := HK.out.grown hdb
  have hX2 := (hdb.block _ (lt_of_block HX.out)).trans HX.out
  have hG2 := HG.out.drew nq
  generalize W.drewN nq = V at *
  have HF2 := Lib.hid (Fr.of_below hG2.below l.F)
  clear hdb HK HX HG hG2 x0 x1 xl k0 lc
  have x0 := cells_cell (o := 0) hX2 rfl
  have x1 := cells_cell (o := 1) hX2 rfl
  have xl := lt_of_block hX2
  have lc := hK2.lc
  have k0 := hK2.c0 HP.out
  have k1 := hK2.c1 HP.out
  have f0 := hK2.free (n * 2)
  have f1 := hK2.free (n * 2 + 1)
  have hcz := hK2.out hX2 (by decide) (by decide)
  have hK3 : KAt B ((V.setCell ⟨l.c, n * 2, none⟩ (.int .i64 1)).setCell ⟨l.c, n * 2 + 1, none⟩ (.int .u64 0)) l (P.set n ⟨1, 0⟩) Q g := hK2.put2 HP.out 1 0
  have hfr3 : Fr l.F V ((V.setCell ⟨l.c, n * 2, none⟩ (.int .i64 1)).setCell ⟨l.c, n * 2 + 1, none⟩ (.int .u64 0)) := (KAt.frc V l (n * 2) (.int .i64 1)).trans' (KAt.frc _ l (n * 2 + 1) (.int .u64 ((0 : Nat) : Int)))
  have hX3 := hfr3.same hX2 hcz
  have HK3 := Lib.hid hK3
  have HX3 := Lib.hid hX3
  have HF3 := Lib.hid (HF2.out.trans' hfr3)
  clear hK2 hX2 hcz hK3 hfr3 hX3
  go_upto_region 10 with (fail)
  generalize (V.setCell ⟨l.c, n * 2, none⟩ (.int .i64 1)).setCell ⟨l.c, n * 2 + 1, none⟩ (.int .u64 0) = V3 at *
  clear x0 x1 xl lc k0 k1 f0 f1
  have x0 := cells_cell (o := 0) HX3.out rfl
  have x1 := cells_cell (o := 1) HX3.out rfl
  have xl := lt_of_block HX3.out
  have c1 := HK3.out.ct1
  have lc := HK3.out.lc
  go_wp2_with (go_at_call 134; fail)
  refine (fiPush_yes HK3.out.qa HQL.out (by have := HGG.out; omega) ((n : Nat) : Int)).mono ?_
  rintro e w6 ⟨rfl, hq6, hf6⟩
  have hK6 := HK3.out.queue hq6 hf6
  have hP6 : (P.set n ⟨1, 0⟩)[n]? = some ⟨1, 0⟩ := by rw [setK HP.out, if_pos rfl]
  have k1 := hK6.c1 hP6
  have f1 := hK6.free (n * 2 + 1)
  have lc := hK6.lc
  have hK7 := hK6.put1 hP6 (g + 1)
  rw [List.set_set] at hK7
  have HK7 := Lib.hid hK7
  have HF7 := Lib.hid ((HF3.out.trans' (frq hf6)).trans' (KAt.frc w6 l (n * 2 + 1) (.int .u64 ((g + 1 : Nat) : Int))))
  clear hq6 hf6 hK6 hP6 hK7 x0 x1 xl c1 HK3 HX3 HF3
  go_wp2_with fail
  go_ret
  refine ⟨rfl, ?_, HF7.out⟩
  have := HK7.out
  unfold stepP stepQ stepG
  rw [hwo.out]
  exact this
set_option maxRecDepth 100000 in
set_option maxHeartbeats 3200000 in
/-- Ready before, not ready then. -/
theorem tkDo_out (h : KAt B w l P Q g) (hR : Rk P Q) (hg : g ≤ 900000000) {n c k : Nat} {tg : Int} (ht : mvs[c * 2 + 1]? = some tg) (h1 : tg ≠ 1) (hp : P[n]? = some ⟨1, k⟩) (hf : mvs[c * 2]? = some 1) (hc : c < 5) :
    Calls Tryz.prog 184 #[.pointer (some ⟨l.t, 0, none⟩), .int .i64 ((c : Nat) : Int), .int .i64 ((n : Nat) : Int)] w (Did B w l P Q g n tg) := by
  have hu := Lib.hid (tkFind_yes h (List.getElem?_eq_some_iff.1 hp).1)
  have g0 := h.mv _ _ hf
  have g1 := h.mv _ _ ht
  have gl := h.mv.lt
  have q1 : (0 : Int) ≤ (c : Int) := by omega
  have q2 : (c : Int) < 5 := by omega
  obtain ⟨A, R, rfl, hwo⟩ := hR.split h.qa.inc hp
  have hwo := Lib.hid hwo
  have hq := fun W => neq_mv_same W 1 tg
  obtain ⟨W, hW, hb, hgr, hx⟩ := newMv w 1 tg
  have hK := h.grown hb
  have k0 := hK.c0 hp
  have lc := hK.lc
  have x0 := cells_cell (o := 0) hx rfl
  have x1 := cells_cell (o := 1) hx rfl
  have xl := lt_of_block hx
  have HW := Lib.hid hW
  have HG := Lib.hid hgr
  have HK := Lib.hid hK
  have HX := Lib.hid hx
  have HP := Lib.hid hp
  have HGG := Lib.hid hg
  have e1 : (tg == 1) = false := by simpa using h1
  clear h hp hf ht hc hW hb hgr hx hK hR hg h1
  go_enter Tryz.func184, Tryz.ntmps184
  go_wp2_with (go_at_call 183; refine hu.out.mono ?_; rintro e w2 ⟨rfl, rfl⟩)
  rw [HW.out]
  clear HW
  generalize hz : w2.heap.size = z at *
  have HZ := Lib.hid hz
  clear hz
  go_quiet (fail)
  have hdb := ((Grn.refl W).drew nq).below
  have hK2 := HK.out.grown hdb
  have hX2 := (hdb.block _ (lt_of_block HX.out)).trans HX.out
  have hG2 := HG.out.drew nq
  generalize W.drewN nq = V at *
  have HF0 := Lib.hid (Fr.of_below hG2.below l.F)
  have HK0 := Lib.hid hK2
  have HX0 := Lib.hid hX2
  clear hdb HK HX HG hG2 x0 x1 xl k0 lc hK2 hX2
  have x0 := cells_cell (o := 0) HX0.out rfl
  have x1 := cells_cell (o := 1) HX0.out rfl
  have xl := lt_of_block HX0.out
  have lc := HK0.out.lc
  have k1 := HK0.out.c1 HP.out
  have c1 := HK0.out.ct1
  go_wp2_with fail
  go_still_tail 8, (by kernel_rfl)
  change wpList _ _ _ _ _ (V.drewN 1)
  have hd1 := ((Grn.refl V).drew 1).below
  go_wp2_with (go_at_call 174; fail)
  refine (fiRemove_yes (HK0.out.grown hd1).qa).mono ?_
  rintro e w4 ⟨rfl, hq4, hf4⟩
  have hK4 := (HK0.out.grown hd1).queue hq4 hf4
  have hcz := (HK0.out.grown hd1).qa.out ((hd1.block _ (lt_of_block HX0.out)).trans HX0.out) (by decide)
  have hX4 := hf4.same ((hd1.block _ (lt_of_block HX0.out)).trans HX0.out) hcz
  have HF2 := Lib.hid ((HF0.out.trans' (Fr.of_below hd1 _)).trans' (frq hf4))
  clear hd1 hq4 hf4 hcz x0 x1 xl lc k1 c1 HK0 HX0 HF0
  have hK2 := hK4
  have hX2 := hX4
  clear hK4 hX4
  generalize w4 = V at *
  have x0 := cells_cell (o := 0) hX2 rfl
  have x1 := cells_cell (o := 1) hX2 rfl
  have xl := lt_of_block hX2
  have lc := hK2.lc
  have k0 := hK2.c0 HP.out
  have k1 := hK2.c1 HP.out
  have f0 := hK2.free (n * 2)
  have f1 := hK2.free (n * 2 + 1)
  have hcz := hK2.out hX2 (by decide) (by decide)
  have hK3 : KAt B ((V.setCell ⟨l.c, n * 2, none⟩ (.int .i64 tg)).setCell ⟨l.c, n * 2 + 1, none⟩ (.int .u64 0)) l (P.set n ⟨tg, 0⟩) (A ++ R) g := hK2.put2 HP.out tg 0
  have hfr3 : Fr l.F V ((V.setCell ⟨l.c, n * 2, none⟩ (.int .i64 tg)).setCell ⟨l.c, n * 2 + 1, none⟩ (.int .u64 0)) := (KAt.frc V l (n * 2) (.int .i64 tg)).trans' (KAt.frc _ l (n * 2 + 1) (.int .u64 ((0 : Nat) : Int)))
  have hX3 := hfr3.same hX2 hcz
  have HK3 := Lib.hid hK3
  have HX3 := Lib.hid hX3
  have HF3 := Lib.hid (HF2.out.trans' hfr3)
  clear hK2 hX2 hcz hK3 hfr3 hX3
  go_upto_region 10 with (fail)
  generalize (V.setCell ⟨l.c, n * 2, none⟩ (.int .i64 tg)).setCell ⟨l.c, n * 2 + 1, none⟩ (.int .u64 0) = V3 at *
  clear x0 x1 xl lc k0 k1 f0 f1
  have x0 := cells_cell (o := 0) HX3.out rfl
  have x1 := cells_cell (o := 1) HX3.out rfl
  have xl := lt_of_block HX3.out
  go_wp2_with fail
  go_ret
  refine ⟨rfl, ?_, HF3.out⟩
  have := HK3.out
  have h1 : tg ≠ 1 := fun h => by simp [h] at e1
  unfold stepP stepQ stepG
  rw [hwo.out, if_neg h1, if_neg h1, if_neg h1, List.append_nil]
  exact this
set_option maxRecDepth 100000 in
set_option maxHeartbeats 3200000 in
/-- Ready before, and then. -/
theorem tkDo_turn (h : KAt B w l P Q g) (hR : Rk P Q) (hg : g ≤ 900000000) {n c k : Nat} (ht : mvs[c * 2 + 1]? = some 1) (hp : P[n]? = some ⟨1, k⟩) (hf : mvs[c * 2]? = some 1) (hc : c < 5) :
    Calls Tryz.prog 184 #[.pointer (some ⟨l.t, 0, none⟩), .int .i64 ((c : Nat) : Int), .int .i64 ((n : Nat) : Int)] w (Did B w l P Q g n 1) := by
  have HQL := Lib.hid (show Q.length < 4096 by have := hR.len h.qa.inc; have := h.n2; omega)
  have hu := Lib.hid (tkFind_yes h (List.getElem?_eq_some_iff.1 hp).1)
  have g0 := h.mv _ _ hf
  have g1 := h.mv _ _ ht
  have gl := h.mv.lt
  have q1 : (0 : Int) ≤ (c : Int) := by omega
  have q2 : (c : Int) < 5 := by omega
  obtain ⟨A, R, rfl, hwo⟩ := hR.split h.qa.inc hp
  have hwo := Lib.hid hwo
  have hq := fun W => neq_mv_same W 1 1
  obtain ⟨W, hW, hb, hgr, hx⟩ := newMv w 1 1
  have hK := h.grown hb
  have k0 := hK.c0 hp
  have lc := hK.lc
  have x0 := cells_cell (o := 0) hx rfl
  have x1 := cells_cell (o := 1) hx rfl
  have xl := lt_of_block hx
  have HW := Lib.hid hW
  have HG := Lib.hid hgr
  have HK := Lib.hid hK
  have HX := Lib.hid hx
  have HP := Lib.hid hp
  have HGG := Lib.hid hg
  clear h hp hf ht hc hW hb hgr hx hK hR hg
  go_enter Tryz.func184, Tryz.ntmps184
  go_wp2_with (go_at_call 183; refine hu.out.mono ?_; rintro e w2 ⟨rfl, rfl⟩)
  rw [HW.out]
  clear HW
  generalize hz : w2.heap.size = z at *
  have HZ := Lib.hid hz
  clear hz
  go_quiet (fail)
  have hdb := ((Grn.refl W).drew nq).below
  have hK2 := HK.out.grown hdb
  have hX2 := (hdb.block _ (lt_of_block HX.out)).trans HX.out
  have hG2 := HG.out.drew nq
  generalize W.drewN nq = V at *
  have HF0 := Lib.hid (Fr.of_below hG2.below l.F)
  have HK0 := Lib.hid hK2
  have HX0 := Lib.hid hX2
  clear hdb HK HX HG hG2 x0 x1 xl k0 lc hK2 hX2
  have x0 := cells_cell (o := 0) HX0.out rfl
  have x1 := cells_cell (o := 1) HX0.out rfl
  have xl := lt_of_block HX0.out
  have lc := HK0.out.lc
  have k1 := HK0.out.c1 HP.out
  have c1 := HK0.out.ct1
  go_wp2_with fail
  go_still_tail 8, (by kernel_rfl)
  change wpList _ _ _ _ _ (V.drewN 1)
  have hd1 := ((Grn.refl V).drew 1).below
  go_wp2_with (go_at_call 174; fail)
  refine (fiRemove_yes (HK0.out.grown hd1).qa).mono ?_
  rintro e w4 ⟨rfl, hq4, hf4⟩
  have hK4 := (HK0.out.grown hd1).queue hq4 hf4
  have hcz := (HK0.out.grown hd1).qa.out ((hd1.block _ (lt_of_block HX0.out)).trans HX0.out) (by decide)
  have hX4 := hf4.same ((hd1.block _ (lt_of_block HX0.out)).trans HX0.out) hcz
  have HF2 := Lib.hid ((HF0.out.trans' (Fr.of_below hd1 _)).trans' (frq hf4))
  clear hd1 hq4 hf4 hcz x0 x1 xl lc k1 c1 HK0 HX0 HF0
  have hK2 := hK4
  have hX2 := hX4
  clear hK4 hX4
  generalize w4 = V at *
  have x0 := cells_cell (o := 0) hX2 rfl
  have x1 := cells_cell (o := 1) hX2 rfl
  have xl := lt_of_block hX2
  have lc := hK2.lc
  have k0 := hK2.c0 HP.out
  have k1 := hK2.c1 HP.out
  have f0 := hK2.free (n * 2)
  have f1 := hK2.free (n * 2 + 1)
  have hcz := hK2.out hX2 (by decide) (by decide)
  have hK3 : KAt B ((V.setCell ⟨l.c, n * 2, none⟩ (.int .i64 1)).setCell ⟨l.c, n * 2 + 1, none⟩ (.int .u64 0)) l (P.set n ⟨1, 0⟩) (A ++ R) g := hK2.put2 HP.out 1 0
  have hfr3 : Fr l.F V ((V.setCell ⟨l.c, n * 2, none⟩ (.int .i64 1)).setCell ⟨l.c, n * 2 + 1, none⟩ (.int .u64 0)) := (KAt.frc V l (n * 2) (.int .i64 1)).trans' (KAt.frc _ l (n * 2 + 1) (.int .u64 ((0 : Nat) : Int)))
  have hX3 := hfr3.same hX2 hcz
  have HK3 := Lib.hid hK3
  have HX3 := Lib.hid hX3
  have HF3 := Lib.hid (HF2.out.trans' hfr3)
  clear hK2 hX2 hcz hK3 hfr3 hX3
  go_upto_region 10 with (fail)
  generalize (V.setCell ⟨l.c, n * 2, none⟩ (.int .i64 1)).setCell ⟨l.c, n * 2 + 1, none⟩ (.int .u64 0) = V3 at *
  clear x0 x1 xl lc k0 k1 f0 f1
  have x0 := cells_cell (o := 0) HX3.out rfl
  have x1 := cells_cell (o := 1) HX3.out rfl
  have xl := lt_of_block HX3.out
  have c1 := HK3.out.ct1
  have lc := HK3.out.lc
  go_wp2_with (go_at_call 134; fail)
  refine (fiPush_yes HK3.out.qa (by have := HQL.out; simp at this ⊢; omega) (by have := HGG.out; omega) ((n : Nat) : Int)).mono ?_
  rintro e w6 ⟨rfl, hq6, hf6⟩
  have hK6 := HK3.out.queue hq6 hf6
  have hP6 : (P.set n ⟨1, 0⟩)[n]? = some ⟨1, 0⟩ := by rw [setK HP.out, if_pos rfl]
  have k1 := hK6.c1 hP6
  have f1 := hK6.free (n * 2 + 1)
  have lc := hK6.lc
  have hK7 := hK6.put1 hP6 (g + 1)
  rw [List.set_set] at hK7
  have HK7 := Lib.hid hK7
  have HF7 := Lib.hid ((HF3.out.trans' (frq hf6)).trans' (KAt.frc w6 l (n * 2 + 1) (.int .u64 ((g + 1 : Nat) : Int))))
  clear hq6 hf6 hK6 hP6 hK7 x0 x1 xl c1 HK3 HX3 HF3
  go_wp2_with fail
  go_ret
  refine ⟨rfl, ?_, HF7.out⟩
  have := HK7.out
  unfold stepP stepQ stepG
  rw [hwo.out]
  exact this
end
end Go.Proofs.YtcjeckjmoponkaaGreatDoor
/- Start, Park, Wake, Finish, Turn. -/
namespace Go.Proofs.YtcjeckjmoponkaaGreatDoor
open Go.RowKit Go.Sort Go.MapKept
set_option linter.unusedVariables false
set_option linter.unusedSimpArgs false

/-- The state that a call asks for, and the one that it leads to. -/
def frOf : Nat → Int
  | 0 => 0
  | 1 => 1
  | 2 => 2
  | _ => 1
def tgOf : Nat → Int
  | 0 => 1
  | 1 => 2
  | 2 => 1
  | 3 => 0
  | _ => 1
theorem frOf_at : ∀ c, c < 5 → mvs[c * 2]? = some (frOf c)
  | 0, _ | 1, _ | 2, _ | 3, _ | 4, _ => rfl
  | c + 5, h => by omega
theorem tgOf_at : ∀ c, c < 5 → mvs[c * 2 + 1]? = some (tgOf c)
  | 0, _ | 1, _ | 2, _ | 3, _ | 4, _ => rfl
  | c + 5, h => by omega
theorem fr_tg : ∀ c, c < 5 → frOf c ≠ 1 → tgOf c = 1
  | 0, _, _ => rfl
  | 1, _, h => absurd rfl h
  | 2, _, _ => rfl
  | 3, _, h => absurd rfl h
  | 4, _, h => absurd rfl h
  | c + 5, h, _ => by omega
section
variable {B : Nat} {w : World} {l : Tl} {P : Ks} {Q : Qu} {g n c : Nat} {p : Ck}
theorem tkDo_yes (h : KAt B w l P Q g) (hR : Rk P Q) (hg : g ≤ 900000000) (hc : c < 5) (hp : P[n]? = some p) (hs : p.s = frOf c) :
    Calls Tryz.prog 184 #[.pointer (some ⟨l.t, 0, none⟩), .int .i64 ((c : Nat) : Int), .int .i64 ((n : Nat) : Int)] w (Did B w l P Q g n (tgOf c)) := by
  have hf := frOf_at c hc
  have ht := tgOf_at c hc
  by_cases h1 : frOf c = 1
  · obtain ⟨s, k⟩ := p
    simp only at hs
    rw [h1] at hs hf
    subst hs
    by_cases h2 : tgOf c = 1
    · rw [h2] at ht ⊢
      exact tkDo_turn h hR hg ht hp hf hc
    · exact tkDo_out h hR hg ht h2 hp hf hc
  · have h2 := fr_tg c hc h1
    rw [h2] at ht ⊢
    exact tkDo_in h hR hg hp hf ht hc hs.symm (by rw [hs]; exact h1)
end
theorem tkStart_bad {B : Nat} {w : World} {l : Tl} {P : Ks} {Q : Qu} {g : Nat} (h : KAt B w l P Q g) {N : Int} (hn : NoI P N) : Calls Tryz.prog 135 #[.pointer (some ⟨l.t, 0, none⟩), .int .i64 N] w (fun e w' => e = .returned (.int .i64 2) ∧ w' = w) := by
  have hu : Hid (Calls Tryz.prog 184 #[.pointer (some ⟨l.t, 0, none⟩), .int .i64 0, .int .i64 N] w (fun e w' => e = .returned (.int .i64 2) ∧ w' = w)) := Lib.hid (tkDo_bad h hn 0)
  clear h hn
  go_enter Tryz.func135, Tryz.ntmps135
  go_wp2_with (go_at_call 184; refine hu.out.mono ?_; rintro e w2 ⟨rfl, rfl⟩)
  go_ret
  exact ⟨rfl, rfl⟩
theorem tkStart_state {B : Nat} {w : World} {l : Tl} {P : Ks} {Q : Qu} {g n : Nat} {p : Ck} (h : KAt B w l P Q g) (hp : P[n]? = some p) (hs : frOf 0 ≠ p.s) : Calls Tryz.prog 135 #[.pointer (some ⟨l.t, 0, none⟩), .int .i64 ((n : Nat) : Int)] w (fun e w' => e = .returned (.int .i64 8) ∧ Grn w w') := by
  have hu : Hid (Calls Tryz.prog 184 #[.pointer (some ⟨l.t, 0, none⟩), .int .i64 0, .int .i64 ((n : Nat) : Int)] w (fun e w' => e = .returned (.int .i64 8) ∧ Grn w w')) := Lib.hid (tkDo_state (c := 0) h hp (frOf_at 0 (by omega)) (tgOf_at 0 (by omega)) (by omega) hs)
  clear h hp hs
  go_enter Tryz.func135, Tryz.ntmps135
  go_wp2_with (go_at_call 184; refine hu.out.mono ?_; rintro e w2 ⟨rfl, hd⟩)
  go_ret
  exact ⟨rfl, hd⟩
theorem tkStart_yes {B : Nat} {w : World} {l : Tl} {P : Ks} {Q : Qu} {g n : Nat} {p : Ck} (h : KAt B w l P Q g) (hR : Rk P Q) (hg : g ≤ 900000000) (hp : P[n]? = some p) (hs : p.s = frOf 0) : Calls Tryz.prog 135 #[.pointer (some ⟨l.t, 0, none⟩), .int .i64 ((n : Nat) : Int)] w (Did B w l P Q g n (tgOf 0)) := by
  have hu : Hid (Calls Tryz.prog 184 #[.pointer (some ⟨l.t, 0, none⟩), .int .i64 0, .int .i64 ((n : Nat) : Int)] w (Did B w l P Q g n (tgOf 0))) := Lib.hid (tkDo_yes (c := 0) h hR hg (by omega) hp hs)
  clear h hR hg hp hs
  go_enter Tryz.func135, Tryz.ntmps135
  go_wp2_with (go_at_call 184; fail)
  refine hu.out.mono ?_
  rintro e w2 ⟨rfl, hd⟩
  go_wp2_with fail
  go_ret
  exact ⟨rfl, hd⟩
theorem tkPark_bad {B : Nat} {w : World} {l : Tl} {P : Ks} {Q : Qu} {g : Nat} (h : KAt B w l P Q g) {N : Int} (hn : NoI P N) : Calls Tryz.prog 132 #[.pointer (some ⟨l.t, 0, none⟩), .int .i64 N] w (fun e w' => e = .returned (.int .i64 2) ∧ w' = w) := by
  have hu : Hid (Calls Tryz.prog 184 #[.pointer (some ⟨l.t, 0, none⟩), .int .i64 1, .int .i64 N] w (fun e w' => e = .returned (.int .i64 2) ∧ w' = w)) := Lib.hid (tkDo_bad h hn 1)
  clear h hn
  go_enter Tryz.func132, Tryz.ntmps132
  go_wp2_with (go_at_call 184; refine hu.out.mono ?_; rintro e w2 ⟨rfl, rfl⟩)
  go_ret
  exact ⟨rfl, rfl⟩
theorem tkPark_state {B : Nat} {w : World} {l : Tl} {P : Ks} {Q : Qu} {g n : Nat} {p : Ck} (h : KAt B w l P Q g) (hp : P[n]? = some p) (hs : frOf 1 ≠ p.s) : Calls Tryz.prog 132 #[.pointer (some ⟨l.t, 0, none⟩), .int .i64 ((n : Nat) : Int)] w (fun e w' => e = .returned (.int .i64 8) ∧ Grn w w') := by
  have hu : Hid (Calls Tryz.prog 184 #[.pointer (some ⟨l.t, 0, none⟩), .int .i64 1, .int .i64 ((n : Nat) : Int)] w (fun e w' => e = .returned (.int .i64 8) ∧ Grn w w')) := Lib.hid (tkDo_state (c := 1) h hp (frOf_at 1 (by omega)) (tgOf_at 1 (by omega)) (by omega) hs)
  clear h hp hs
  go_enter Tryz.func132, Tryz.ntmps132
  go_wp2_with (go_at_call 184; refine hu.out.mono ?_; rintro e w2 ⟨rfl, hd⟩)
  go_ret
  exact ⟨rfl, hd⟩
theorem tkPark_yes {B : Nat} {w : World} {l : Tl} {P : Ks} {Q : Qu} {g n : Nat} {p : Ck} (h : KAt B w l P Q g) (hR : Rk P Q) (hg : g ≤ 900000000) (hp : P[n]? = some p) (hs : p.s = frOf 1) : Calls Tryz.prog 132 #[.pointer (some ⟨l.t, 0, none⟩), .int .i64 ((n : Nat) : Int)] w (Did B w l P Q g n (tgOf 1)) := by
  have hu : Hid (Calls Tryz.prog 184 #[.pointer (some ⟨l.t, 0, none⟩), .int .i64 1, .int .i64 ((n : Nat) : Int)] w (Did B w l P Q g n (tgOf 1))) := Lib.hid (tkDo_yes (c := 1) h hR hg (by omega) hp hs)
  clear h hR hg hp hs
  go_enter Tryz.func132, Tryz.ntmps132
  go_wp2_with (go_at_call 184; fail)
  refine hu.out.mono ?_
  rintro e w2 ⟨rfl, hd⟩
  go_wp2_with fail
  go_ret
  exact ⟨rfl, hd⟩
theorem tkWake_yes {B : Nat} {w : World} {l : Tl} {P : Ks} {Q : Qu} {g n : Nat} {p : Ck} (h : KAt B w l P Q g) (hR : Rk P Q) (hg : g ≤ 900000000) (hp : P[n]? = some p) (hs : p.s = frOf 2) : Calls Tryz.prog 173 #[.pointer (some ⟨l.t, 0, none⟩), .int .i64 ((n : Nat) : Int)] w (Did B w l P Q g n (tgOf 2)) := by
  have hu : Hid (Calls Tryz.prog 184 #[.pointer (some ⟨l.t, 0, none⟩), .int .i64 2, .int .i64 ((n : Nat) : Int)] w (Did B w l P Q g n (tgOf 2))) := Lib.hid (tkDo_yes (c := 2) h hR hg (by omega) hp hs)
  clear h hR hg hp hs
  go_enter Tryz.func173, Tryz.ntmps173
  go_wp2_with (go_at_call 184; fail)
  refine hu.out.mono ?_
  rintro e w2 ⟨rfl, hd⟩
  go_wp2_with fail
  go_ret
  exact ⟨rfl, hd⟩
theorem tkFinish_bad {B : Nat} {w : World} {l : Tl} {P : Ks} {Q : Qu} {g : Nat} (h : KAt B w l P Q g) {N : Int} (hn : NoI P N) : Calls Tryz.prog 136 #[.pointer (some ⟨l.t, 0, none⟩), .int .i64 N] w (fun e w' => e = .returned (.int .i64 2) ∧ w' = w) := by
  have hu : Hid (Calls Tryz.prog 184 #[.pointer (some ⟨l.t, 0, none⟩), .int .i64 3, .int .i64 N] w (fun e w' => e = .returned (.int .i64 2) ∧ w' = w)) := Lib.hid (tkDo_bad h hn 3)
  clear h hn
  go_enter Tryz.func136, Tryz.ntmps136
  go_wp2_with (go_at_call 184; refine hu.out.mono ?_; rintro e w2 ⟨rfl, rfl⟩)
  go_ret
  exact ⟨rfl, rfl⟩
theorem tkFinish_state {B : Nat} {w : World} {l : Tl} {P : Ks} {Q : Qu} {g n : Nat} {p : Ck} (h : KAt B w l P Q g) (hp : P[n]? = some p) (hs : frOf 3 ≠ p.s) : Calls Tryz.prog 136 #[.pointer (some ⟨l.t, 0, none⟩), .int .i64 ((n : Nat) : Int)] w (fun e w' => e = .returned (.int .i64 8) ∧ Grn w w') := by
  have hu : Hid (Calls Tryz.prog 184 #[.pointer (some ⟨l.t, 0, none⟩), .int .i64 3, .int .i64 ((n : Nat) : Int)] w (fun e w' => e = .returned (.int .i64 8) ∧ Grn w w')) := Lib.hid (tkDo_state (c := 3) h hp (frOf_at 3 (by omega)) (tgOf_at 3 (by omega)) (by omega) hs)
  clear h hp hs
  go_enter Tryz.func136, Tryz.ntmps136
  go_wp2_with (go_at_call 184; refine hu.out.mono ?_; rintro e w2 ⟨rfl, hd⟩)
  go_ret
  exact ⟨rfl, hd⟩
theorem tkFinish_yes {B : Nat} {w : World} {l : Tl} {P : Ks} {Q : Qu} {g n : Nat} {p : Ck} (h : KAt B w l P Q g) (hR : Rk P Q) (hg : g ≤ 900000000) (hp : P[n]? = some p) (hs : p.s = frOf 3) : Calls Tryz.prog 136 #[.pointer (some ⟨l.t, 0, none⟩), .int .i64 ((n : Nat) : Int)] w (Did B w l P Q g n (tgOf 3)) := by
  have hu : Hid (Calls Tryz.prog 184 #[.pointer (some ⟨l.t, 0, none⟩), .int .i64 3, .int .i64 ((n : Nat) : Int)] w (Did B w l P Q g n (tgOf 3))) := Lib.hid (tkDo_yes (c := 3) h hR hg (by omega) hp hs)
  clear h hR hg hp hs
  go_enter Tryz.func136, Tryz.ntmps136
  go_wp2_with (go_at_call 184; fail)
  refine hu.out.mono ?_
  rintro e w2 ⟨rfl, hd⟩
  go_wp2_with fail
  go_ret
  exact ⟨rfl, hd⟩
theorem tkTurn_bad {B : Nat} {w : World} {l : Tl} {P : Ks} {Q : Qu} {g : Nat} (h : KAt B w l P Q g) {N : Int} (hn : NoI P N) : Calls Tryz.prog 137 #[.pointer (some ⟨l.t, 0, none⟩), .int .i64 N] w (fun e w' => e = .returned (.int .i64 2) ∧ w' = w) := by
  have hu : Hid (Calls Tryz.prog 184 #[.pointer (some ⟨l.t, 0, none⟩), .int .i64 4, .int .i64 N] w (fun e w' => e = .returned (.int .i64 2) ∧ w' = w)) := Lib.hid (tkDo_bad h hn 4)
  clear h hn
  go_enter Tryz.func137, Tryz.ntmps137
  go_wp2_with (go_at_call 184; refine hu.out.mono ?_; rintro e w2 ⟨rfl, rfl⟩)
  go_ret
  exact ⟨rfl, rfl⟩
theorem tkTurn_state {B : Nat} {w : World} {l : Tl} {P : Ks} {Q : Qu} {g n : Nat} {p : Ck} (h : KAt B w l P Q g) (hp : P[n]? = some p) (hs : frOf 4 ≠ p.s) : Calls Tryz.prog 137 #[.pointer (some ⟨l.t, 0, none⟩), .int .i64 ((n : Nat) : Int)] w (fun e w' => e = .returned (.int .i64 8) ∧ Grn w w') := by
  have hu : Hid (Calls Tryz.prog 184 #[.pointer (some ⟨l.t, 0, none⟩), .int .i64 4, .int .i64 ((n : Nat) : Int)] w (fun e w' => e = .returned (.int .i64 8) ∧ Grn w w')) := Lib.hid (tkDo_state (c := 4) h hp (frOf_at 4 (by omega)) (tgOf_at 4 (by omega)) (by omega) hs)
  clear h hp hs
  go_enter Tryz.func137, Tryz.ntmps137
  go_wp2_with (go_at_call 184; refine hu.out.mono ?_; rintro e w2 ⟨rfl, hd⟩)
  go_ret
  exact ⟨rfl, hd⟩
theorem tkTurn_yes {B : Nat} {w : World} {l : Tl} {P : Ks} {Q : Qu} {g n : Nat} {p : Ck} (h : KAt B w l P Q g) (hR : Rk P Q) (hg : g ≤ 900000000) (hp : P[n]? = some p) (hs : p.s = frOf 4) : Calls Tryz.prog 137 #[.pointer (some ⟨l.t, 0, none⟩), .int .i64 ((n : Nat) : Int)] w (Did B w l P Q g n (tgOf 4)) := by
  have hu : Hid (Calls Tryz.prog 184 #[.pointer (some ⟨l.t, 0, none⟩), .int .i64 4, .int .i64 ((n : Nat) : Int)] w (Did B w l P Q g n (tgOf 4))) := Lib.hid (tkDo_yes (c := 4) h hR hg (by omega) hp hs)
  clear h hR hg hp hs
  go_enter Tryz.func137, Tryz.ntmps137
  go_wp2_with (go_at_call 184; fail)
  refine hu.out.mono ?_
  rintro e w2 ⟨rfl, hd⟩
  go_wp2_with fail
  go_ret
  exact ⟨rfl, hd⟩
end Go.Proofs.YtcjeckjmoponkaaGreatDoor
