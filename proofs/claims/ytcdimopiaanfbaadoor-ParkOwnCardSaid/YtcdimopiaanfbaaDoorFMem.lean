/- A table of tasks in memory; usable, find, Len, State, Next. -/
import Derived.Test.YtcdimopiaanfbaaDoorFPure
import Derived.Test.YtcdimopiaanfbaaDoorGRow
import Derived.Test.YtcdimopiaanfbaaDoorDPush
namespace Go.Proofs.YtcdimopiaanfbaaDoor
open Go.RowKit Go.Sort Go.MapKept
set_option linter.unusedVariables false
set_option linter.unusedSimpArgs false

def encK (p : Ck) : List Value := [.int .i64 p.s, .int .u64 ((p.k : Nat) : Int)]
def TC : GT Ck := ⟨110, 138, 2, encK⟩
theorem infoCell : (Tryd.prog.info? 138).map (fun i => (i.zero, i.size, i.bytes)) = some (some (.agg #[.int .i64 0, .int .u64 0]), 2, 16) := by kernel_rfl
theorem TC_ok : TC.Ok := by
  refine ⟨fun _ => rfl, fun x u hu => ?_, by decide, Tryd.underlying110, ?_⟩
  · simp only [TC, encK, List.mem_cons, List.not_mem_nil, or_false] at hu
    rcases hu with rfl | rfl <;> rfl
  · obtain ⟨i, h1, h2, h3, h4⟩ := info_parts infoCell
    exact ⟨i, _, h1, h2, h3, by rw [h4]; decide, by decide⟩

/-- What the calls ask for. -/
def mvs : List Int := [0, 1, 1, 2, 2, 1, 1, 0, 1, 1]
def MvAt (w : World) : Prop := ∀ j x, mvs[j]? = some x → w.cell? ⟨0, j, none⟩ = some (.int .i64 x)
theorem MvAt.lt {w : World} (h : MvAt w) : 0 < w.heap.size := World.block_lt_of_cell? w _ (h 0 0 rfl)
theorem MvAt.same {w w' : World} (h : MvAt w) (hs : w'.heap[0]? = w.heap[0]?) : MvAt w' := fun j x hx => (World.cell?_of_block (a := ⟨0, j, none⟩) hs).trans (h j x hx)
theorem MvAt.below {B : Nat} {w w' : World} (h : MvAt w) (hb : Below B w w') (hl : 0 < B) : MvAt w' := h.same (hb.block _ hl)

/-- Where a table lies. -/
structure Tl where
  t : Nat
  c : Nat
  cc : Nat
  q : Nat
  b : Nat
  m : Nat
def Tl.F (l : Tl) : List Nat := [l.c, l.b, l.m]
/-- The table at l, all of it from B on. -/
structure KAt (B : Nat) (w : World) (l : Tl) (P : Ks) (Q : Qu) (g : Nat) : Prop where
  t : w.heap[l.t]? = some (.cells #[.slice (some ⟨l.c, 0, none⟩) P.length l.cc, .pointer (some ⟨l.q, 0, none⟩)] 112 (0, 0))
  r : Row TC w B (.slice (some ⟨l.c, 0, none⟩) P.length l.cc) P
  qa : QAt w l.q l.b l.m Q g
  n1 : 1 ≤ P.length
  n2 : P.length ≤ 64
  mv : MvAt w
  g0 : 0 < B
  bt : B ≤ l.t
  bq : B ≤ l.q
  bb : B ≤ l.b
  bm : B ≤ l.m
section
variable {B : Nat} {w w' : World} {l : Tl} {P P' : Ks} {Q Q' : Qu} {g g' i k : Nat} {s : Int}
theorem KAt.lt (h : KAt B w l P Q g) : l.t < w.heap.size := lt_of_block h.t
theorem KAt.bc (h : KAt B w l P Q g) : B ≤ l.c := (h.r.lt _ rfl).1
theorem KAt.lc (h : KAt B w l P Q g) : l.c < w.heap.size := (h.r.lt _ rfl).2
theorem KAt.cblock (h : KAt B w l P Q g) : ∃ cu, w.heap[l.c]? = some (.cells cu 138 (0, 0)) := by
  rcases h.r.2 with ⟨h0, _⟩ | ⟨g', cap, cu, hv, _, hh, _⟩
  · simp at h0
  · simp only [Value.slice.injEq, Option.some.injEq, Addr.mk.injEq] at hv
    obtain ⟨⟨rfl, _⟩, _, _⟩ := hv
    exact ⟨cu, hh⟩
theorem KAt.cap (h : KAt B w l P Q g) : P.length ≤ l.cc ∧ l.cc ≤ maxLen := by
  obtain ⟨a, c, hv, h1, h2⟩ := h.r.form
  simp only [Value.slice.injEq] at hv
  rw [hv.2.2]
  exact ⟨h1, h2⟩
theorem KAt.at (h : KAt B w l P Q g) {p : Ck} (hp : P[i]? = some p) (j : Nat) {u : Value} (hu : (encK p)[j]? = some u) : w.cell? ⟨l.c, i * 2 + j, none⟩ = some u := by
  obtain ⟨g', c, hv, _, _, _, h2⟩ := h.r.at TC_ok hp
  simp only [Value.slice.injEq, Option.some.injEq, Addr.mk.injEq] at hv
  obtain ⟨⟨rfl, _⟩, _, _⟩ := hv
  exact h2 j u hu
theorem KAt.c0 (h : KAt B w l P Q g) {p : Ck} (hp : P[i]? = some p) : w.cell? ⟨l.c, i * 2, none⟩ = some (.int .i64 p.s) := h.at hp 0 rfl
theorem KAt.c1 (h : KAt B w l P Q g) {p : Ck} (hp : P[i]? = some p) : w.cell? ⟨l.c, i * 2 + 1, none⟩ = some (.int .u64 ((p.k : Nat) : Int)) := h.at hp 1 rfl
theorem KAt.free (h : KAt B w l P Q g) (o : Nat) : w.frozen? ⟨l.c, o, none⟩ = false := by
  obtain ⟨cu, hc⟩ := h.cblock
  exact cells_free hc o
theorem KAt.ct0 (h : KAt B w l P Q g) : w.cell? ⟨l.t, 0, none⟩ = some (.slice (some ⟨l.c, 0, none⟩) P.length l.cc) := cells_cell h.t rfl
theorem KAt.ct1 (h : KAt B w l P Q g) : w.cell? ⟨l.t, 1, none⟩ = some (.pointer (some ⟨l.q, 0, none⟩)) := cells_cell h.t rfl
/-- A block of another type is none of those that may change. -/
theorem KAt.out (h : KAt B w l P Q g) {x : Nat} {y : Array Value} {u : TypeId} (hc : w.heap[x]? = some (.cells y u (0, 0))) (h1 : u ≠ 138) (h2 : u ≠ 128) : x ∉ l.F := by
  obtain ⟨cu, hcc⟩ := h.cblock
  have e1 := ne_types hc hcc h1
  have e2 := h.qa.out hc h2
  simp at e2
  simp [Tl.F, e1, e2]
/-- Old blocks are none of those. -/
theorem KAt.old (h : KAt B w l P Q g) {x : Nat} (hx : x < B) : x ∉ l.F := by
  have := h.bc; have := h.bb; have := h.bm
  simp [Tl.F]
  omega
theorem KAt.same (h : KAt B w l P Q g) {F : List Nat} (hf : Fr F w w') (h0 : ∀ x ∈ F, B ≤ x) (h1 : l.t ∉ F) (h2 : l.c ∉ F) (h3 : l.q ∉ F) (h4 : l.b ∉ F) (h5 : l.m ∉ F) : KAt B w' l P Q g :=
  ⟨(hf.block _ h.lt h1).trans h.t, h.r.fr hf (fun y hy => by cases hy; exact h2), h.qa.fr hf h3 h4 h5, h.n1, h.n2, h.mv.same (hf.block _ h.mv.lt (fun hm => by have := h0 _ hm; have := h.g0; omega)), h.g0, h.bt, h.bq, h.bb, h.bm⟩
theorem KAt.grown (h : KAt B w l P Q g) (hb : Below w.heap.size w w') : KAt B w' l P Q g :=
  h.same (F := []) (Fr.of_below hb []) (fun x hx => by cases hx) (by simp) (by simp) (by simp) (by simp) (by simp)
theorem KAt.lower {B' : Nat} (h : KAt B w l P Q g) (hb : B' ≤ B) (h0 : 0 < B') : KAt B' w l P Q g :=
  ⟨h.t, h.r.lower hb, h.qa, h.n1, h.n2, h.mv, h0, Nat.le_trans hb h.bt, Nat.le_trans hb h.bq, Nat.le_trans hb h.bb, Nat.le_trans hb h.bm⟩
theorem KAt.ql (h : KAt B w l P Q g) : Q.length ≤ g := by have := h.qa.inc.len; have := h.qa.le; omega
/-- The run set has changed. -/
theorem KAt.queue (h : KAt B w l P Q g) (hq : QAt w' l.q l.b l.m Q' g') (hf : Fr [l.b, l.m] w w') : KAt B w' l P Q' g' := by
  obtain ⟨cu, hcc⟩ := h.cblock
  have h1 := h.qa.out h.t (by decide)
  have h2 := h.qa.out hcc (by decide)
  have h3 : 0 ∉ [l.b, l.m] := by have := h.bb; have := h.bm; have := h.g0; simp; omega
  exact ⟨(hf.block _ h.lt h1).trans h.t, h.r.fr hf (fun y hy => by cases hy; exact h2), hq, h.n1, h.n2, h.mv.same (hf.block _ h.mv.lt h3), h.g0, h.bt, h.bq, h.bb, h.bm⟩
/-- A cell of a task is written. -/
theorem KAt.put (h : KAt B w l P Q g) {p y : Ck} (hp : P[i]? = some p) (j : Nat) (hj : j < 2) (v : Value) (he : encK y = (encK p).set j v) : KAt B (w.setCell ⟨l.c, i * 2 + j, none⟩ v) l (P.set i y) Q g := by
  obtain ⟨cu, hcc⟩ := h.cblock
  have hf := fr_setCell w ⟨l.c, i * 2 + j, none⟩ v
  have e1 := ne_types h.t hcc (by decide)
  have e2 := ne_types h.qa.q hcc (by decide)
  have e3 := ne_types h.qa.b hcc (by decide)
  have e4 := h.qa.m.ne hcc
  have e5 : 0 ≠ l.c := by have := h.bc; have := h.g0; omega
  have hr := Row.set TC_ok h.r hp (i := j) (u := v) hj he
  refine ⟨by rw [List.length_set]; exact (hf.block _ h.lt (by simpa using e1)).trans h.t, by rw [List.length_set]; exact hr, h.qa.fr hf (by simpa using e2) (by simpa using e3) (by simpa using e4.symm), by rw [List.length_set]; exact h.n1, by rw [List.length_set]; exact h.n2, h.mv.same (hf.block _ h.mv.lt (by simpa using e5)), h.g0, h.bt, h.bq, h.bb, h.bm⟩
theorem KAt.put0 (h : KAt B w l P Q g) {p : Ck} (hp : P[i]? = some p) (s : Int) : KAt B (w.setCell ⟨l.c, i * 2, none⟩ (.int .i64 s)) l (P.set i ⟨s, p.k⟩) Q g := h.put hp 0 (by omega) _ rfl
theorem KAt.put1 (h : KAt B w l P Q g) {p : Ck} (hp : P[i]? = some p) (k : Nat) : KAt B (w.setCell ⟨l.c, i * 2 + 1, none⟩ (.int .u64 ((k : Nat) : Int))) l (P.set i ⟨p.s, k⟩) Q g := h.put hp 1 (by omega) _ rfl
/-- Both cells of a task are written. -/
theorem KAt.put2 (h : KAt B w l P Q g) {p : Ck} (hp : P[i]? = some p) (s : Int) (k : Nat) : KAt B ((w.setCell ⟨l.c, i * 2, none⟩ (.int .i64 s)).setCell ⟨l.c, i * 2 + 1, none⟩ (.int .u64 ((k : Nat) : Int))) l (P.set i ⟨s, k⟩) Q g := by
  have hl := (List.getElem?_eq_some_iff.1 hp).1
  have h1 := (h.put0 hp s).put1 (i := i) (p := ⟨s, p.k⟩) (by simp [hl]) k
  rwa [List.set_set] at h1
theorem KAt.frc (w : World) (l : Tl) (o : Nat) (v : Value) : Fr l.F w (w.setCell ⟨l.c, o, none⟩ v) := (fr_setCell w ⟨l.c, o, none⟩ v).mono fun x hx => .inl (by simp at hx; simp [Tl.F, hx])
theorem frq {w w' : World} {l : Tl} (h : Fr [l.b, l.m] w w') : Fr l.F w w' := h.mono fun x hx => .inl (by simp at hx; simp [Tl.F, hx])
end

/-- A pointer that is no table. -/
def NoK (w : World) (v : Value) : Prop := v = .pointer none ∨ ∃ q, v = .pointer (some ⟨q, 0, none⟩) ∧ w.heap[q]? = some (.cells #[.slice none 0 0, .pointer none] 112 (0, 0))
theorem NoK.grown {w w' : World} {v : Value} (h : NoK w v) (hb : Below w.heap.size w w') : NoK w' v := by
  rcases h with h | ⟨q, h1, h2⟩
  · exact .inl h
  · exact .inr ⟨q, h1, (hb.block _ (lt_of_block h2)).trans h2⟩
theorem NoK.form {w : World} {v : Value} (h : NoK w v) : ∃ a, v = .pointer a := by
  rcases h with h | ⟨q, h1, h2⟩
  · exact ⟨_, h⟩
  · exact ⟨_, h1⟩

theorem tkUsable_yes {B : Nat} {w : World} {l : Tl} {P : Ks} {Q : Qu} {g : Nat} (h : KAt B w l P Q g) : Calls Tryd.prog 67 #[.pointer (some ⟨l.t, 0, none⟩)] w fun e w' => e = .returned (.bool true) ∧ w' = w := by
  have k := h.ct0
  clear h
  generalize P.length = n at *
  go_enter Tryd.func67, Tryd.ntmps67
  go_wp2
  go_ret
  exact ⟨rfl, rfl⟩
theorem tkUsable_no {w : World} {v : Value} (h : NoK w v) : Calls Tryd.prog 67 #[v] w fun e w' => e = .returned (.bool false) ∧ w' = w := by
  rcases h with rfl | ⟨q, rfl, h2⟩
  · go_enter Tryd.func67, Tryd.ntmps67
    go_wp2
    go_ret
    exact ⟨rfl, rfl⟩
  · have k := cells_cell (o := 0) h2 rfl
    clear h2
    go_enter Tryd.func67, Tryd.ntmps67
    go_wp2
    go_ret
    exact ⟨rfl, rfl⟩

theorem tkFind_nil {w : World} {v : Value} (h : NoK w v) (N : Int) : Calls Tryd.prog 75 #[v, .int .i64 N] w fun e w' => e = .returned (.tuple #[.pointer none, .int .i64 1]) ∧ w' = w := by
  have hu := Lib.hid (tkUsable_no h)
  obtain ⟨a, rfl⟩ := h.form
  clear h
  go_enter Tryd.func75, Tryd.ntmps75
  go_wp2_with (go_at_call 67; refine hu.out.mono ?_; rintro e w2 ⟨rfl, rfl⟩)
  go_ret2
  exact ⟨rfl, rfl⟩
section
variable {B : Nat} {w : World} {l : Tl} {P : Ks} {Q : Qu} {g : Nat}
theorem tkFind_yes (h : KAt B w l P Q g) {n : Nat} (hn : n < P.length) :
    Calls Tryd.prog 75 #[.pointer (some ⟨l.t, 0, none⟩), .int .i64 ((n : Nat) : Int)] w fun e w' => e = .returned (.tuple #[.pointer (some ⟨l.c, n * 2, none⟩), .int .i64 0]) ∧ w' = w := by
  have hu := Lib.hid (tkUsable_yes h)
  have k := h.ct0
  have hn2 := h.n2
  have hcl := h.lc
  clear h
  generalize P.length = m at *
  have q1 : (0 : Int) ≤ (n : Int) := by omega
  have q2 : (n : Int) < (m : Int) := by omega
  have q3 : (n : Int) ≤ 64 := by omega
  have q4 : (m : Int) ≤ 64 := by omega
  clear hn hn2
  go_enter Tryd.func75, Tryd.ntmps75
  go_wp2_with (go_at_call 67; refine hu.out.mono ?_; rintro e w2 ⟨rfl, rfl⟩)
  go_ret2
  exact ⟨rfl, rfl⟩
/-- A number of no task. -/
def NoI (P : Ks) (N : Int) : Prop := N < 0 ∨ ((P.length : Nat) : Int) ≤ N
theorem noI_or (P : Ks) (N : Int) : NoI P N ∨ ∃ n : Nat, N = ((n : Nat) : Int) ∧ n < P.length := by
  by_cases h : N < 0
  · exact .inl (.inl h)
  · by_cases h2 : ((P.length : Nat) : Int) ≤ N
    · exact .inl (.inr h2)
    · exact .inr ⟨N.toNat, by omega, by omega⟩
theorem tkFind_bad (h : KAt B w l P Q g) {N : Int} (hn : NoI P N) :
    Calls Tryd.prog 75 #[.pointer (some ⟨l.t, 0, none⟩), .int .i64 N] w fun e w' => e = .returned (.tuple #[.pointer none, .int .i64 2]) ∧ w' = w := by
  have hu := Lib.hid (tkUsable_yes h)
  have k := h.ct0
  have hn2 := h.n2
  have hcl := h.lc
  clear h
  unfold NoI at hn
  generalize P.length = m at *
  have q4 : (m : Int) ≤ 64 := by omega
  by_cases h0 : N < 0
  · clear hn
    go_enter Tryd.func75, Tryd.ntmps75
    go_wp2_with (go_at_call 67; refine hu.out.mono ?_; rintro e w2 ⟨rfl, rfl⟩)
    go_ret2
    exact ⟨rfl, rfl⟩
  · have q1 : (0 : Int) ≤ N := by omega
    have q2 : (m : Int) ≤ N := by omega
    clear hn h0
    go_enter Tryd.func75, Tryd.ntmps75
    go_wp2_with (go_at_call 67; refine hu.out.mono ?_; rintro e w2 ⟨rfl, rfl⟩)
    go_ret2
    exact ⟨rfl, rfl⟩

theorem tkLen_yes (h : KAt B w l P Q g) : Calls Tryd.prog 57 #[.pointer (some ⟨l.t, 0, none⟩)] w fun e w' => e = .returned (.int .i64 ((P.length : Nat) : Int)) ∧ w' = w := by
  have hu := Lib.hid (tkUsable_yes h)
  have k := h.ct0
  clear h
  generalize P.length = m at *
  go_enter Tryd.func57, Tryd.ntmps57
  go_wp2_with (go_at_call 67; refine hu.out.mono ?_; rintro e w2 ⟨rfl, rfl⟩)
  go_ret
  exact ⟨rfl, rfl⟩
theorem tkLen_nil {v : Value} (h : NoK w v) : Calls Tryd.prog 57 #[v] w fun e w' => e = .returned (.int .i64 0) ∧ w' = w := by
  have hu := Lib.hid (tkUsable_no h)
  obtain ⟨a, rfl⟩ := h.form
  clear h
  go_enter Tryd.func57, Tryd.ntmps57
  go_wp2_with (go_at_call 67; refine hu.out.mono ?_; rintro e w2 ⟨rfl, rfl⟩)
  go_ret
  exact ⟨rfl, rfl⟩

theorem tkState_yes (h : KAt B w l P Q g) {n : Nat} {p : Ck} (hp : P[n]? = some p) :
    Calls Tryd.prog 50 #[.pointer (some ⟨l.t, 0, none⟩), .int .i64 ((n : Nat) : Int)] w fun e w' => e = .returned (.tuple #[.int .i64 p.s, .int .i64 0]) ∧ w' = w := by
  have hu := Lib.hid (tkFind_yes h (List.getElem?_eq_some_iff.1 hp).1)
  have k := h.c0 hp
  clear h hp
  go_enter Tryd.func50, Tryd.ntmps50
  go_wp2_with (go_at_call 75; refine hu.out.mono ?_; rintro e w2 ⟨rfl, rfl⟩)
  go_ret2
  exact ⟨rfl, rfl⟩
theorem tkState_bad (h : KAt B w l P Q g) {N : Int} (hn : NoI P N) :
    Calls Tryd.prog 50 #[.pointer (some ⟨l.t, 0, none⟩), .int .i64 N] w fun e w' => e = .returned (.tuple #[.int .i64 0, .int .i64 2]) ∧ w' = w := by
  have hu := Lib.hid (tkFind_bad h hn)
  clear h hn
  go_enter Tryd.func50, Tryd.ntmps50
  go_wp2_with (go_at_call 75; refine hu.out.mono ?_; rintro e w2 ⟨rfl, rfl⟩)
  go_ret2
  exact ⟨rfl, rfl⟩
theorem tkState_nil {v : Value} (h : NoK w v) (N : Int) :
    Calls Tryd.prog 50 #[v, .int .i64 N] w fun e w' => e = .returned (.tuple #[.int .i64 0, .int .i64 1]) ∧ w' = w := by
  have hu := Lib.hid (tkFind_nil h N)
  obtain ⟨a, rfl⟩ := h.form
  clear h
  go_enter Tryd.func50, Tryd.ntmps50
  go_wp2_with (go_at_call 75; refine hu.out.mono ?_; rintro e w2 ⟨rfl, rfl⟩)
  go_ret2
  exact ⟨rfl, rfl⟩

end
end Go.Proofs.YtcdimopiaanfbaaDoor
