/- A buffered stream without any memory: what its calls answer and leave; a ring buffer and a stream in memory. -/
import Derived.Test.YteimjkmjofaieaaRQc
import Derived.Test.YteimjkmjofaieaaCLen
import Derived.Test.YteimjkmjofaieaaEMix
namespace Go.Proofs.Yteimjkmjofaieaa
open Go.RowKit Go.Sort
set_option linter.unusedVariables false
set_option linter.unusedSimpArgs false
set_option maxRecDepth 100000

/-- A stream as it can be seen. -/
structure Ft where
  c : Nat
  S : List UInt8
  wr : Int
  rd : Int
def Ft.new (c : Nat) : Ft := ⟨c, [], 0, 0⟩
/-- A number that fits. -/
def I64 (i : Int) : Prop := -9223372036854775808 ≤ i ∧ i ≤ 9223372036854775807
structure Ft.Ok (x : Ft) : Prop where
  pos : 1 ≤ x.c
  top : x.c ≤ 4096
  le : x.S.length ≤ x.c
  no : x.rd ≠ 0 → x.S = []
  wr : I64 x.wr
  rd : I64 x.rd
theorem Ft.Ok.new {c : Nat} (h1 : 1 ≤ c) (h2 : c ≤ 4096) : (Ft.new c).Ok := ⟨h1, h2, Nat.zero_le _, fun _ => rfl, by simp [Ft.new, I64], by simp [Ft.new, I64]⟩
/-- The first that is not 0. -/
def orI (a b : Int) : Int := if a = 0 then b else a
theorem orI_fits {a b : Int} (ha : I64 a) (hb : I64 b) : I64 (orI a b) := by unfold orI; split <;> assumption
/-- How many bytes are taken in. -/
def Ft.n (x : Ft) (L : List UInt8) : Nat := min L.length (x.c - x.S.length)
def wrC (x : Ft) (L : List UInt8) : Nat × Int × Ft := if x.rd ≠ 0 then (0, x.rd, x) else if x.wr ≠ 0 then (0, 14, x) else if L.length = 0 then (0, 0, x) else if x.c - x.S.length = 0 then (0, 16, x)
  else (x.n L, 0, { x with S := x.S ++ L.take (x.n L) })
def rdC (x : Ft) (n : Int) : List UInt8 × Int × Ft := if n < 0 then ([], 2, x) else if n = 0 then ([], 0, x) else if x.S.length = 0 then ([], orI x.rd (orI x.wr 16), x)
  else (x.S.take n.toNat, 0, { x with S := x.S.drop n.toNat })
def cwC (x : Ft) (e : Int) : Int × Ft := if e = 0 then (2, x) else if x.wr ≠ 0 then (8, x) else (0, { x with wr := e })
def crC (x : Ft) (e : Int) : Int × Ft := if e = 0 then (2, x) else if x.rd ≠ 0 then (8, x) else (0, { x with rd := e, S := [] })
theorem wrC_ok {x : Ft} {L : List UInt8} (h : x.Ok) : (wrC x L).2.2.Ok ∧ I64 (wrC x L).2.1 := by
  unfold wrC
  split
  · exact ⟨h, h.rd⟩
  · rename_i hr
    split
    · exact ⟨h, by simp [I64]⟩
    · split
      · exact ⟨h, by simp [I64]⟩
      · split
        · exact ⟨h, by simp [I64]⟩
        · refine ⟨⟨h.pos, h.top, ?_, fun q => absurd q hr, h.wr, h.rd⟩, by simp [I64]⟩
          have := h.le
          unfold Ft.n
          simp only [List.length_append, List.length_take]
          omega
theorem rdC_ok {x : Ft} {n : Int} (h : x.Ok) : (rdC x n).2.2.Ok ∧ I64 (rdC x n).2.1 := by
  unfold rdC
  repeat' split
  all_goals first
    | exact ⟨h, orI_fits h.rd (orI_fits h.wr (by simp [I64]))⟩
    | exact ⟨h, by simp [I64]⟩
    | exact ⟨⟨h.pos, h.top, by have := h.le; simp only [List.length_drop]; omega, fun q => by have := h.no q; simp [this], h.wr, h.rd⟩, by simp [I64]⟩
theorem cwC_ok {x : Ft} {e : Int} (h : x.Ok) (he : I64 e) : (cwC x e).2.Ok := by
  unfold cwC
  repeat' split
  all_goals first
    | exact h
    | exact ⟨h.pos, h.top, h.le, h.no, he, h.rd⟩
theorem crC_ok {x : Ft} {e : Int} (h : x.Ok) (he : I64 e) : (crC x e).2.Ok := by
  unfold crC
  repeat' split
  all_goals first
    | exact h
    | exact ⟨h.pos, h.top, Nat.zero_le _, fun _ => rfl, h.wr, he⟩
theorem wrC_cap (x : Ft) (L : List UInt8) : (wrC x L).2.2.c = x.c := by unfold wrC; repeat' split
                                                                        all_goals rfl
theorem rdC_cap (x : Ft) (n : Int) : (rdC x n).2.2.c = x.c := by unfold rdC; repeat' split
                                                                 all_goals rfl

/-- A world with nothing in it that prints what w prints. -/
def bare (w : World) : World := { w with heap := #[] }
theorem bare_below (w : World) : Below (bare w).heap.size (bare w) w := ⟨rfl, rfl, rfl, by simp [bare], fun k hk => by simp [bare] at hk⟩
/-- A ring buffer in memory: its blocks a, bb, cc. -/
def RAt (w : World) (a bb cc c : Nat) (B : List UInt8) : Prop := ∃ cp f xs, Rg.RgB (bare w) (fun _ => False) w a bb cc cp c f xs B
/-- The same ring buffer, of whatever law. -/
theorem RAt.of {w0 w : World} {G : Nat → Prop} {a bb cc cp c f : Nat} {xs B : List UInt8} (R : Rg.RgB w0 G w a bb cc cp c f xs B) : RAt w a bb cc c B :=
  ⟨cp, f, xs, R.ta, R.tb, R.tc, R.ccp, R.cpm, R.cyc, by simp, by simp, by simp, by simp [bare], by simp [bare], by simp [bare], by simp, bare_below w⟩
theorem RAt.lt {w : World} {a bb cc c : Nat} {B : List UInt8} (h : RAt w a bb cc c B) : a < w.heap.size ∧ bb < w.heap.size ∧ cc < w.heap.size := by
  obtain ⟨cp, f, xs, R⟩ := h
  exact ⟨R.alt, R.blt, R.clt⟩
theorem RAt.fr {w w' : World} {a bb cc c : Nat} {B : List UInt8} {F : List Nat} (h : RAt w a bb cc c B) (hf : Fr F w w') (ha : a ∉ F) (hb : bb ∉ F) (hc : cc ∉ F) : RAt w' a bb cc c B := by
  obtain ⟨cp, f, xs, R⟩ := h
  obtain ⟨r, hr, hl⟩ := R.tc
  exact ⟨cp, f, xs, hf.same R.ta ha, hf.same R.tb hb, ⟨r, hf.same hr hc, hl⟩, R.ccp, R.cpm, R.cyc, by simp, by simp, by simp, by simp [bare], by simp [bare], by simp [bare], by simp, bare_below w'⟩
theorem RAt.grown {w w' : World} {a bb cc c : Nat} {B : List UInt8} (h : RAt w a bb cc c B) (hf : Below w.heap.size w w') : RAt w' a bb cc c B := h.fr (Fr.of_below hf []) (by simp) (by simp) (by simp)

/-- The blocks of a stream: its body, its ring buffer, the body of that one, its cells. -/
structure Fb where
  b : Nat
  a : Nat
  bb : Nat
  cc : Nat
/-- The blocks that its calls change. -/
def Fb.F (k : Fb) : List Nat := [k.b, k.bb, k.cc]
/-- A stream in memory. -/
structure FAt (w : World) (m : Nat) (k : Fb) (x : Ft) : Prop where
  ok : x.Ok
  me : w.heap[m]? = some (.cells #[pt k.b] 119 (0, 0))
  bd : w.heap[k.b]? = some (.cells #[pt k.a, .int .i64 x.rd, .int .i64 x.wr] 117 (0, 0))
  rg : RAt w k.a k.bb k.cc x.c x.S
theorem FAt.lt {w : World} {m : Nat} {k : Fb} {x : Ft} (h : FAt w m k x) : m < w.heap.size ∧ k.b < w.heap.size ∧ k.a < w.heap.size ∧ k.bb < w.heap.size ∧ k.cc < w.heap.size := ⟨lt_of_block h.me, lt_of_block h.bd, h.rg.lt⟩
theorem FAt.inF {w : World} {m : Nat} {k : Fb} {x : Ft} (h : FAt w m k x) : ∀ i ∈ k.F, i < w.heap.size := by
  have := h.lt
  intro i hi
  simp only [Fb.F, List.mem_cons, List.not_mem_nil, or_false] at hi
  omega
/-- The blocks that change are of three types. -/
theorem FAt.not {w : World} {m : Nat} {k : Fb} {x : Ft} (h : FAt w m k x) {i : Nat} {cs : Array Value} {t : TypeId} (hi : w.heap[i]? = some (.cells cs t (0, 0))) (h1 : t ≠ 117) (h2 : t ≠ 133) (h3 : t ≠ 5) : i ∉ k.F := by
  obtain ⟨cp, f, xs, R⟩ := h.rg
  obtain ⟨r, hr, _⟩ := R.tc
  simp only [Fb.F, List.mem_cons, List.not_mem_nil, or_false, not_or]
  exact ⟨ne_types hi h.bd h1, ne_types hi R.tb h2, ne_types hi hr h3⟩
theorem FAt.m_not {w : World} {m : Nat} {k : Fb} {x : Ft} (h : FAt w m k x) : m ∉ k.F := h.not h.me (by decide) (by decide) (by decide)
/-- What is kept where other blocks change. -/
theorem FAt.fr {w w' : World} {m : Nat} {k : Fb} {x : Ft} {F : List Nat} (h : FAt w m k x) (hf : Fr F w w') (hm : m ∉ F) (hb : k.b ∉ F) (ha : k.a ∉ F) (hbb : k.bb ∉ F) (hc : k.cc ∉ F) : FAt w' m k x :=
  ⟨h.ok, hf.same h.me hm, hf.same h.bd hb, h.rg.fr hf ha hbb hc⟩
theorem FAt.grown {w w' : World} {m : Nat} {k : Fb} {x : Ft} (h : FAt w m k x) (hf : Below w.heap.size w w') : FAt w' m k x := h.fr (Fr.of_below hf []) (by simp) (by simp) (by simp) (by simp) (by simp)
/-- A block of another type changes. -/
theorem FAt.box {w w' : World} {m i : Nat} {k : Fb} {x : Ft} {cs : Array Value} {t : TypeId} (h : FAt w m k x) (hi : w.heap[i]? = some (.cells cs t (0, 0))) (hf : Fr [i] w w') (h1 : t ≠ 117) (h2 : t ≠ 133) (h3 : t ≠ 5) (h4 : t ≠ 119) (h5 : t ≠ 135) : FAt w' m k x := by
  obtain ⟨cp, f, xs, R⟩ := h.rg
  obtain ⟨r, hr, _⟩ := R.tc
  exact h.fr hf (by simpa using ne_types h.me hi (fun q => h4 q.symm)) (by simpa using ne_types h.bd hi (fun q => h1 q.symm)) (by simpa using ne_types R.ta hi (fun q => h5 q.symm)) (by simpa using ne_types R.tb hi (fun q => h2 q.symm)) (by simpa using ne_types hr hi (fun q => h3 q.symm))
/-- Another stream is kept. -/
theorem FAt.other {w w' : World} {m m2 : Nat} {k k2 : Fb} {x y : Ft} (h : FAt w m k x) (h2 : FAt w m2 k2 y) (hb : k2.b ≠ k.b) (hbb : k2.bb ≠ k.bb) (hc : k2.cc ≠ k.cc) (hf : Fr k.F w w') : FAt w' m2 k2 y := by
  obtain ⟨cp, f, xs, R⟩ := h.rg
  obtain ⟨r, hr, _⟩ := R.tc
  obtain ⟨cp2, f2, xs2, R2⟩ := h2.rg
  obtain ⟨r2, hr2, _⟩ := R2.tc
  refine h2.fr hf (h.not h2.me (by decide) (by decide) (by decide)) ?_ (h.not R2.ta (by decide) (by decide) (by decide)) ?_ ?_
  · simp only [Fb.F, List.mem_cons, List.not_mem_nil, or_false, not_or]
    exact ⟨hb, ne_types h2.bd R.tb (by decide), ne_types h2.bd hr (by decide)⟩
  · simp only [Fb.F, List.mem_cons, List.not_mem_nil, or_false, not_or]
    exact ⟨ne_types R2.tb h.bd (by decide), hbb, ne_types R2.tb hr (by decide)⟩
  · simp only [Fb.F, List.mem_cons, List.not_mem_nil, or_false, not_or]
    exact ⟨ne_types hr2 h.bd (by decide), ne_types hr2 R.tb (by decide), hc⟩
/-- The ring buffer has changed. -/
theorem FAt.ring {w w' : World} {m : Nat} {k : Fb} {x : Ft} {B : List UInt8} (h : FAt w m k x) (hf : Fr [k.bb, k.cc] w w') (hr : RAt w' k.a k.bb k.cc x.c B) (hok : Ft.Ok { x with S := B }) : FAt w' m k { x with S := B } ∧ Fr k.F w w' := by
  obtain ⟨cp, f, xs, R⟩ := h.rg
  obtain ⟨r, hrr, _⟩ := R.tc
  have hsub : ∀ i, i ∈ [k.bb, k.cc] → i ∈ k.F ∨ w.heap.size ≤ i := fun i hi => .inl (by simp only [Fb.F, List.mem_cons, List.not_mem_nil, or_false] at hi ⊢; exact .inr hi)
  have hb : k.b ∉ [k.bb, k.cc] := by
    simp only [List.mem_cons, List.not_mem_nil, or_false, not_or]
    exact ⟨ne_types h.bd R.tb (by decide), ne_types h.bd hrr (by decide)⟩
  have hm : m ∉ [k.bb, k.cc] := by
    simp only [List.mem_cons, List.not_mem_nil, or_false, not_or]
    exact ⟨ne_types h.me R.tb (by decide), ne_types h.me hrr (by decide)⟩
  exact ⟨⟨hok, hf.same h.me hm, hf.same h.bd hb, hr⟩, hf.mono hsub⟩
/-- The body has changed. -/
theorem FAt.body {w w' : World} {m : Nat} {k : Fb} {x : Ft} {r s : Int} (h : FAt w m k x) (hf : Fr [k.b] w w') (hb : w'.heap[k.b]? = some (.cells #[pt k.a, .int .i64 r, .int .i64 s] 117 (0, 0))) (hok : Ft.Ok { x with rd := r, wr := s }) : FAt w' m k { x with rd := r, wr := s } ∧ Fr k.F w w' := by
  obtain ⟨cp, f, xs, R⟩ := h.rg
  obtain ⟨q, hrr, _⟩ := R.tc
  refine ⟨⟨hok, hf.same h.me (by simpa using ne_types h.me h.bd (by decide)), hb, h.rg.fr hf (by simpa using ne_types R.ta h.bd (by decide)) (by simpa using ne_types R.tb h.bd (by decide)) (by simpa using ne_types hrr h.bd (by decide))⟩, hf.mono fun i hi => .inl ?_⟩
  simp only [Fb.F, List.mem_cons, List.not_mem_nil, or_false] at hi ⊢
  exact .inl hi
/-- A pointer that is no stream. -/
def NoF (w : World) (v : Value) : Prop := v = .pointer none ∨ ∃ q, v = pt q ∧ w.heap[q]? = some (.cells #[.pointer none] 119 (0, 0))
theorem NoF.grown {w w' : World} {v : Value} (h : NoF w v) (hb : Below w.heap.size w w') : NoF w' v := by
  rcases h with h | ⟨q, h1, h2⟩
  · exact .inl h
  · exact .inr ⟨q, h1, (hb.block _ (lt_of_block h2)).trans h2⟩
end Go.Proofs.Yteimjkmjofaieaa
