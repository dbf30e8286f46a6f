/- Lots in memory: the map of queues by spots, the map of places by tasks, the table of tasks. -/
import Derived.Test.YtcdimopiaanfbaaDoorGMap
import Derived.Test.YtcdimopiaanfbaaDoorFCall
import Derived.Test.YtcdimopiaanfbaaDoorFBoth
namespace Go.Proofs.YtcdimopiaanfbaaDoor
open Go.RowKit Go.Sort Go.MapKept
set_option linter.unusedVariables false
set_option linter.unusedSimpArgs false

/-- A spot: a descriptor and a direction. -/
abbrev Sp := Int × Int
def encS (s : Sp) : Value := .agg #[.int .i64 s.1, .int .i64 s.2]
theorem encS_inj {a b : Sp} (h : encS a = encS b) : a = b := by
  unfold encS at h
  simp at h
  exact Prod.ext h.1 h.2
/-- A place: a spot and a ticket. -/
structure Pl where
  s : Sp
  k : Nat
def Pl.enc (p : Pl) : Value := .agg #[.int .i64 p.s.1, .int .i64 p.s.2, .int .u64 ((p.k : Nat) : Int)]
def TQ : GM Sp Nat := ⟨50, 38, 94, encS, fun q => .pointer (some ⟨q, 0, none⟩), .pointer none⟩
def TP : GM Int Pl := ⟨51, 3, 104, fun k => .int .i64 k, Pl.enc, .agg #[.int .i64 0, .int .i64 0, .int .u64 0]⟩

theorem eq_spot (w : World) (a b : Sp) : (Op.equal 38 (encS a) (encS b)).run Tryd.prog w = .ok (decide (a = b)) w := by
  have h1 : Tryd.prog.underlying 38 = some _ := Tryd.underlying38
  have h2 : Tryd.prog.underlying 3 = some _ := Tryd.underlying3
  have h3 : Tryd.prog.underlying 36 = some _ := Tryd.underlying36
  obtain ⟨a1, a2⟩ := a
  obtain ⟨b1, b2⟩ := b
  unfold encS
  show (Op.equalIn 10000 38 _ _).run Tryd.prog w = _
  by_cases e1 : a1 = b1
  · by_cases e2 : a2 = b2
    · simp [go_sem, h1, h2, h3, e1, e2]
    · simp [go_sem, h1, h2, h3, e1, e2]
  · simp [go_sem, h1, h2, h3, e1]
theorem chk_spot (w : World) (e : Bool) (a b : Int) : (Instr.checkKey e 10000 38 (.agg #[.int .i64 a, .int .i64 b])).run Tryd.prog w = .ok () w := by kernel_rfl
theorem ask_spot (w : World) (k : Sp) : ∀ (l : List MapEntry) (M : List (Sp × Nat)) (i : Nat), GEnt TQ l M → (Instr.findAsking 38 (encS k) l i).run Tryd.prog w = .ok ((gix M k i).map fun p => (p.1, TQ.v p.2)) w
  | [], [], i, _ => by simp [Instr.findAsking, gix]
  | e :: l, (t, x) :: M, i, h => by
    unfold GEnt at h
    simp only [List.map_cons, List.cons.injEq, Prod.mk.injEq] at h
    obtain ⟨⟨h1, h2⟩, h3⟩ := h
    have h4 : e.key = encS t := h1
    simp only [Instr.findAsking, Sem.run_bind, h4, eq_spot, Result.andThen]
    by_cases hk : t = k
    · subst hk
      simp [gix, h2]
    · have : ¬ k = t := fun e => hk e.symm
      simp only [this, decide_false, Bool.false_eq_true, if_false]
      rw [ask_spot w k l M (i + 1) h3]
      simp [gix, hk]
  | [], _ :: _, _, h => by simp [GEnt] at h
  | _ :: _, [], _, h => by simp [GEnt] at h
theorem TQ_ok : TQ.Ok := by
  refine ⟨Tryd.underlying50, fun w k l M h => ?_, fun w e k => chk_spot w e k.1 k.2, fun k => ?_, fun w => by kernel_rfl⟩
  · have h1 : Tryd.prog.underlying 38 = some _ := Tryd.underlying38
    show (Instr.findKey 38 (encS k) l).run Tryd.prog w = _
    cases l with
    | nil =>
      cases M with
      | nil => simp [Instr.findKey, run_underlying h1, Result.andThen, Instr.findNow, gix]
      | cons _ _ => simp [GEnt] at h
    | cons e l =>
      have h2 := ask_spot w k (e :: l) M 0 h
      simp [Instr.findKey, run_underlying h1, Result.andThen, Instr.findNow, Instr.sameNow, h2]
  · simp [TQ, encS, Instr.sameBits]
theorem now_int (k : Int) : ∀ (l : List MapEntry) (M : List (Int × Pl)) (i : Nat), GEnt TP l M → Instr.findNow (.int .i64) (.int .i64 k) l i = some ((gix M k i).map fun p => (p.1, TP.v p.2))
  | [], [], i, _ => rfl
  | e :: l, (t, x) :: M, i, h => by
    unfold GEnt at h
    simp only [List.map_cons, List.cons.injEq, Prod.mk.injEq] at h
    obtain ⟨⟨h1, h2⟩, h3⟩ := h
    have h4 : e.key = .int .i64 t := h1
    by_cases hk : t = k
    · subst hk
      simp [Instr.findNow, Instr.sameNow, h4, gix, h2]
    · have h5 : ¬ k = t := fun e => hk e.symm
      have := now_int k l M (i + 1) h3
      have h6 : (k == t) = false := by simpa using h5
      simp [Instr.findNow, Instr.sameNow, h4, gix, hk, h6, this]
  | [], _ :: _, _, h => by simp [GEnt] at h
  | _ :: _, [], _, h => by simp [GEnt] at h
theorem TP_ok : TP.Ok := by
  have h1 : Tryd.prog.underlying 3 = some (.int .i64) := Tryd.underlying3
  refine ⟨Tryd.underlying51, fun w k l M h => ?_, fun w e k => ?_, fun k => ?_, fun w => by kernel_rfl⟩
  · show (Instr.findKey 3 (.int .i64 k) l).run Tryd.prog w = _
    simp [Instr.findKey, run_underlying h1, Result.andThen, now_int k l M 0 h]
  · exact MapKept.run_checkKey (n := 9999) (k := .int .i64 k) h1 (show MapKept.IsKey (.int .i64) (.int .i64 k) from rfl) e
  · simp [TP, Instr.sameBits]

/-- A queue at a spot. -/
structure Qd where
  q : Nat
  b : Nat
  m : Nat
  L : Qu
  g : Nat
/-- Where a lot lies. -/
structure Ll where
  a : Nat
  t : Tl
  mq : Nat
  mp : Nat
/-- The lot at l; what it may change lies in S. -/
structure LAt (B : Nat) (S : Nat → Prop) (w : World) (l : Ll) (P : Ks) (Q : Qu) (g : Nat) (f : Sp → Option Qd) (pl : Int → Option Pl) : Prop where
  a : w.heap[l.a]? = some (.cells #[.pointer (some ⟨l.t.t, 0, none⟩), .map (some l.mq), .map (some l.mp)] 53 (0, 0))
  k : KAt B w l.t P Q g
  mq : ∃ n, MapAt TQ w l.mq n (fun s => (f s).map (·.q))
  mp : ∃ n, MapAt TP w l.mp n pl
  qs : ∀ s d, f s = some d → QAt w d.q d.b d.m d.L d.g
  ap : ∀ s s' d d', f s = some d → f s' = some d' → s ≠ s' → d.b ≠ d'.b ∧ d.m ≠ d'.m
  nq : ∀ s d, f s = some d → (d.b ≠ l.t.b ∧ d.m ≠ l.t.m ∧ d.m ≠ l.mq ∧ d.m ≠ l.mp) ∧ S d.q ∧ S d.b ∧ S d.m
  n1 : l.mq ≠ l.mp
  n2 : l.mq ≠ l.t.m
  n3 : l.mp ≠ l.t.m
  sa : S l.a ∧ S l.mq ∧ S l.mp
  st : S l.t.t ∧ S l.t.c ∧ S l.t.q ∧ S l.t.b ∧ S l.t.m
  sl : ∀ x, S x → B ≤ x
  up : ∀ x, w.heap.size ≤ x → S x

/-- What a call of a lot leaves alone. -/
structure FrL (S : Nat → Prop) (w w' : World) : Prop where
  os : w'.os = w.os
  tape : w'.tape = w.tape
  output : w'.output = w.output
  size : w.heap.size ≤ w'.heap.size
  out : ∀ k, k < w.heap.size → ¬ S k → w'.heap[k]? = w.heap[k]?
  cel : ∀ (k : Nat) (y : Array Value) (u : TypeId), w.heap[k]? = some (.cells y u (0, 0)) → u ≠ 138 → u ≠ 128 → w'.heap[k]? = w.heap[k]?
section
variable {S : Nat → Prop} {w w' w'' : World}
theorem FrL.refl (S : Nat → Prop) (w : World) : FrL S w w := ⟨rfl, rfl, rfl, Nat.le_refl _, fun _ _ _ => rfl, fun _ _ _ _ _ _ => rfl⟩
theorem FrL.trans (h : FrL S w w') (k : FrL S w' w'') : FrL S w w'' :=
  ⟨k.os.trans h.os, k.tape.trans h.tape, k.output.trans h.output, Nat.le_trans h.size k.size, fun i hi hn => (k.out i (Nat.lt_of_lt_of_le hi h.size) hn).trans (h.out i hi hn), fun i y u hc h1 h2 =>
    (k.cel i y u ((h.cel i y u hc h1 h2).trans hc) h1 h2).trans (h.cel i y u hc h1 h2)⟩
theorem FrL.of_below (S : Nat → Prop) (h : Below w.heap.size w w') : FrL S w w' :=
  ⟨h.os, h.tape, h.output, h.size, fun k hk _ => h.block k hk, fun k y u hc _ _ => h.block k (lt_of_block hc)⟩
theorem FrL.of_fr {F : List Nat} (h : Fr F w w') (h1 : ∀ x ∈ F, S x) (h2 : ∀ x ∈ F, ∀ (y : Array Value) (u : TypeId), w.heap[x]? = some (.cells y u (0, 0)) → u = 138 ∨ u = 128) : FrL S w w' :=
  ⟨h.os, h.tape, h.output, h.size, fun k hk hn => h.block k hk (fun hm => hn (h1 k hm)), fun k y u hc e1 e2 => h.block k (lt_of_block hc) (fun hm => by
    rcases h2 k hm y u hc with h | h
    · exact e1 h
    · exact e2 h)⟩
theorem FrL.below {B : Nat} (h : FrL S w w') (hS : ∀ x, S x → B ≤ x) (hB : B ≤ w.heap.size) : Below B w w' :=
  ⟨h.os, h.tape, h.output, h.size, fun k hk => h.out k (by omega) (fun hs => by have := hS k hs; omega)⟩
theorem FrL.block (h : FrL S w w') {k : Nat} {y : Array Value} {u : TypeId} (hc : w.heap[k]? = some (.cells y u (0, 0))) (h1 : u ≠ 138) (h2 : u ≠ 128) : w'.heap[k]? = some (.cells y u (0, 0)) := (h.cel k y u hc h1 h2).trans hc
theorem FrL.row {α : Type} {T : GT α} {b : Nat} {v : Value} {X : List α} (h : FrL S w w') (hr : Row T w b v X) (h1 : T.te ≠ 138) (h2 : T.te ≠ 128) : Row T w' b v X := by
  rcases hr.2 with h' | ⟨g, cap, cur, rfl, hb, hh, r⟩
  · exact ⟨hr.1, .inl h'⟩
  · exact ⟨hr.1, .inr ⟨g, cap, cur, rfl, hb, h.block hh h1 h2, r⟩⟩
theorem FrL.map {S' : Nat → Prop} (h : FrL S w w') (hs : ∀ x, S x → S' x) : FrL S' w w' := ⟨h.os, h.tape, h.output, h.size, fun k hk hn => h.out k hk (fun e => hn (hs k e)), h.cel⟩
end
section
variable {B : Nat} {S : Nat → Prop} {w w' : World} {l : Ll} {P P' : Ks} {Q Q' : Qu} {g g' : Nat} {f f' : Sp → Option Qd} {pl pl' : Int → Option Pl}
theorem LAt.lt (h : LAt B S w l P Q g f pl) : l.a < w.heap.size := lt_of_block h.a
theorem LAt.ca0 (h : LAt B S w l P Q g f pl) : w.cell? ⟨l.a, 0, none⟩ = some (.pointer (some ⟨l.t.t, 0, none⟩)) := cells_cell h.a rfl
theorem LAt.ca1 (h : LAt B S w l P Q g f pl) : w.cell? ⟨l.a, 1, none⟩ = some (.map (some l.mq)) := cells_cell h.a rfl
theorem LAt.ca2 (h : LAt B S w l P Q g f pl) : w.cell? ⟨l.a, 2, none⟩ = some (.map (some l.mp)) := cells_cell h.a rfl
theorem LAt.lmq (h : LAt B S w l P Q g f pl) : l.mq < w.heap.size := by obtain ⟨n, h⟩ := h.mq; exact h.lt
theorem LAt.lmp (h : LAt B S w l P Q g f pl) : l.mp < w.heap.size := by obtain ⟨n, h⟩ := h.mp; exact h.lt
/-- The world has only grown. -/
theorem LAt.grown (h : LAt B S w l P Q g f pl) (hb : Below w.heap.size w w') : LAt B S w' l P Q g f pl := by
  obtain ⟨n, hq⟩ := h.mq
  obtain ⟨n', hp⟩ := h.mp
  exact ⟨(hb.block _ h.lt).trans h.a, h.k.grown hb, ⟨n, hq.same (hb.block _ hq.lt)⟩, ⟨n', hp.same (hb.block _ hp.lt)⟩, fun s d hd => (h.qs s d hd).grown hb, h.ap, h.nq, h.n1, h.n2, h.n3, h.sa, h.st, h.sl, fun x hx => h.up x (Nat.le_trans hb.size hx)⟩
/-- Nothing of the lot's has changed. -/
theorem LAt.keep {S2 : Nat → Prop} (h : LAt B S w l P Q g f pl) (hf : FrL S2 w w') (hd : ∀ x, x < w.heap.size → S x → ¬ S2 x) (hm : 0 < w.heap.size → ¬ S2 0) : LAt B S w' l P Q g f pl := by
  obtain ⟨n, hq⟩ := h.mq
  obtain ⟨n', hp⟩ := h.mp
  have hs : ∀ x, x < w.heap.size → S x → w'.heap[x]? = w.heap[x]? := fun x hx hxs => hf.out x hx (hd x hx hxs)
  have hk := h.k
  obtain ⟨t1, t2, t3, t4, t5⟩ := h.st
  refine ⟨(hs _ h.lt h.sa.1).trans h.a, ?_, ⟨n, hq.same (hs _ hq.lt h.sa.2.1)⟩, ⟨n', hp.same (hs _ hp.lt h.sa.2.2)⟩, fun s d hd => ?_, h.ap, h.nq, h.n1, h.n2, h.n3, h.sa, h.st, h.sl, fun x hx => h.up x (Nat.le_trans hf.size hx)⟩
  · refine ⟨(hs _ hk.lt t1).trans hk.t, ?_, hk.qa.same (hs _ hk.qa.lq t3) (hs _ hk.qa.lb t4) (hs _ hk.qa.lm t5), hk.n1, hk.n2, hk.mv.same (hf.out _ hk.mv.lt (hm hk.mv.lt)), hk.g0, hk.bt, hk.bq, hk.bb, hk.bm⟩
    rcases hk.r.2 with ⟨h0, _⟩ | ⟨g', cap, cu, hv, hb, hh, r⟩
    · simp at h0
    · refine ⟨hk.r.1, .inr ⟨g', cap, cu, hv, hb, (hs _ (lt_of_block hh) ?_).trans hh, r⟩⟩
      simp only [Value.slice.injEq, Option.some.injEq, Addr.mk.injEq] at hv
      rw [← hv.1.1]; exact t2
  · have hq := h.qs s d hd
    obtain ⟨_, s1, s2, s3⟩ := h.nq s d hd
    exact hq.same (hs _ hq.lq s1) (hs _ hq.lb s2) (hs _ hq.lm s3)
theorem LAt.frk (h : LAt B S w l P Q g f pl) (hf : Fr l.t.F w w') : FrL S w w' := by
  refine FrL.of_fr hf (fun x hx => ?_) (fun x hx y u hc => ?_)
  · simp [Tl.F] at hx
    rcases hx with rfl | rfl | rfl
    · exact h.st.2.1
    · exact h.st.2.2.2.1
    · exact h.st.2.2.2.2
  · by_cases h1 : u = 138
    · exact .inl h1
    · by_cases h2 : u = 128
      · exact .inr h2
      · exact absurd hx (h.k.out hc h1 h2)
theorem LAt.frq (h : LAt B S w l P Q g f pl) {s : Sp} {d : Qd} (hd : f s = some d) (hf : Fr [d.b, d.m] w w') : FrL S w w' := by
  have hq := h.qs s d hd
  refine FrL.of_fr hf (fun x hx => ?_) (fun x hx y u hc => ?_)
  · simp at hx
    rcases hx with rfl | rfl
    · exact (h.nq s d hd).2.2.1
    · exact (h.nq s d hd).2.2.2
  · by_cases h2 : u = 128
    · exact .inr h2
    · exact absurd hx (hq.out hc h2)
theorem LAt.frmq (h : LAt B S w l P Q g f pl) (hf : Fr [l.mq] w w') : FrL S w w' := by
  obtain ⟨n, hq⟩ := h.mq
  refine FrL.of_fr hf (fun x hx => by simp at hx; subst hx; exact h.sa.2.1) (fun x hx y u hc => ?_)
  simp at hx; subst hx
  exact absurd rfl (hq.ne hc)
theorem LAt.frmp (h : LAt B S w l P Q g f pl) (hf : Fr [l.mp] w w') : FrL S w w' := by
  obtain ⟨n, hq⟩ := h.mp
  refine FrL.of_fr hf (fun x hx => by simp at hx; subst hx; exact h.sa.2.2) (fun x hx y u hc => ?_)
  simp at hx; subst hx
  exact absurd rfl (hq.ne hc)
/-- The table of tasks has changed. -/
theorem LAt.tasks (h : LAt B S w l P Q g f pl) (hf : Fr l.t.F w w') (hk : KAt B w' l.t P' Q' g') : LAt B S w' l P' Q' g' f pl := by
  obtain ⟨n, hq⟩ := h.mq
  obtain ⟨n', hp⟩ := h.mp
  obtain ⟨cu, hc⟩ := h.k.cblock
  have e1 : l.mq ∉ l.t.F := by have := hq.ne hc; have := hq.ne h.k.qa.b; have := h.n2; simp [Tl.F]; omega
  have e2 : l.mp ∉ l.t.F := by have := hp.ne hc; have := hp.ne h.k.qa.b; have := h.n3; simp [Tl.F]; omega
  refine ⟨hf.same h.a (h.k.out h.a (by decide) (by decide)), hk, ⟨n, hq.same (hf.block _ hq.lt e1)⟩, ⟨n', hp.same (hf.block _ hp.lt e2)⟩, fun s d hd => ?_, h.ap, h.nq, h.n1, h.n2, h.n3, h.sa, h.st, h.sl, fun x hx => h.up x (Nat.le_trans hf.size hx)⟩
  have hqd := h.qs s d hd
  obtain ⟨⟨d1, d2, d3, d4⟩, _⟩ := h.nq s d hd
  refine hqd.fr hf ?_ ?_ ?_
  · exact h.k.out hqd.q (by decide) (by decide)
  · have e3 := ne_types hqd.b hc (by decide); have e4 := h.k.qa.m.ne hqd.b; simp [Tl.F]; omega
  · have e3 := hqd.m.ne hc; have e4 := hqd.m.ne h.k.qa.b; simp [Tl.F]; omega
/-- A queue has changed. -/
theorem LAt.queue (h : LAt B S w l P Q g f pl) {s : Sp} {d : Qd} (hd : f s = some d) {L' : Qu} {k' : Nat} (hf : Fr [d.b, d.m] w w') (hq' : QAt w' d.q d.b d.m L' k') : LAt B S w' l P Q g (updG f s (some ⟨d.q, d.b, d.m, L', k'⟩)) pl := by
  obtain ⟨n, hq⟩ := h.mq
  obtain ⟨n', hp⟩ := h.mp
  obtain ⟨cu, hc⟩ := h.k.cblock
  have hqd := h.qs s d hd
  obtain ⟨⟨d1, d2, d3, d4⟩, s1, s2, s3⟩ := h.nq s d hd
  have hk : KAt B w' l.t P Q g := by
    refine h.k.same hf (fun x hx => ?_) ?_ ?_ ?_ ?_ ?_
    · simp at hx; rcases hx with rfl | rfl
      · exact h.sl _ s2
      · exact h.sl _ s3
    · exact hqd.out h.k.t (by decide)
    · exact hqd.out hc (by decide)
    · exact hqd.out h.k.qa.q (by decide)
    · have := hqd.m.ne h.k.qa.b; simp; omega
    · have := h.k.qa.m.ne hqd.b; simp; omega
  have hmap : ∀ t, ((updG f s (some ⟨d.q, d.b, d.m, L', k'⟩)) t).map (·.q) = (f t).map (·.q) := fun t => by
    unfold updG
    by_cases e : t = s
    · subst e; simp [hd]
    · simp [e]
  have e1 : l.mq ∉ [d.b, d.m] := by have := hq.ne hqd.b; simp; omega
  have e2 : l.mp ∉ [d.b, d.m] := by have := hp.ne hqd.b; simp; omega
  have cases' : ∀ t x, updG f s (some ⟨d.q, d.b, d.m, L', k'⟩) t = some x → (t = s ∧ x = ⟨d.q, d.b, d.m, L', k'⟩) ∨ (t ≠ s ∧ f t = some x) := fun t x hx => by
    unfold updG at hx
    by_cases e : t = s
    · rw [if_pos e] at hx; cases hx; exact .inl ⟨e, rfl⟩
    · rw [if_neg e] at hx; exact .inr ⟨e, hx⟩
  refine ⟨hf.same h.a (hqd.out h.a (by decide)), hk, ⟨n, (hq.same (hf.block _ hq.lt e1)).congr hmap⟩, ⟨n', hp.same (hf.block _ hp.lt e2)⟩, fun t x hx => ?_, fun t t' x x' hx hx' hne => ?_, fun t x hx => ?_, h.n1, h.n2, h.n3, h.sa, h.st, h.sl, fun x hx => h.up x (Nat.le_trans hf.size hx)⟩
  · rcases cases' t x hx with ⟨_, rfl⟩ | ⟨e, hx⟩
    · exact hq'
    · have hqx := h.qs t x hx
      obtain ⟨a1, a2⟩ := h.ap t s x d hx hd e
      refine hqx.fr hf (hqd.out hqx.q (by decide)) ?_ ?_
      · have := hqd.m.ne hqx.b; simp; omega
      · have := hqx.m.ne hqd.b; simp; omega
  · rcases cases' t x hx with ⟨e1, e2⟩ | ⟨e, hy⟩
    · rcases cases' t' x' hx' with ⟨e3, e4⟩ | ⟨e', hy'⟩
      · exact absurd (e1.trans e3.symm) hne
      · subst e2
        exact h.ap s t' d x' hd hy' (by rw [← e1]; exact hne)
    · rcases cases' t' x' hx' with ⟨e3, e4⟩ | ⟨e', hy'⟩
      · subst e4
        exact h.ap t s x d hy hd (by rw [← e3]; exact hne)
      · exact h.ap t t' x x' hy hy' hne
  · rcases cases' t x hx with ⟨rfl, rfl⟩ | ⟨e, hx⟩
    · exact ⟨⟨d1, d2, d3, d4⟩, s1, s2, s3⟩
    · exact h.nq t x hx
/-- The map of places has changed. -/
theorem LAt.places (h : LAt B S w l P Q g f pl) (hf : Fr [l.mp] w w') {n' : Nat} (hp' : MapAt TP w' l.mp n' pl') : LAt B S w' l P Q g f pl' := by
  obtain ⟨n, hq⟩ := h.mq
  obtain ⟨n0, hp⟩ := h.mp
  obtain ⟨cu, hc⟩ := h.k.cblock
  have ns := h.n1
  have n3 := h.n3
  have o : ∀ {k : Nat} {y : Array Value} {u : TypeId}, w.heap[k]? = some (.cells y u (0, 0)) → k ∉ [l.mp] := fun hc => by have := hp.ne hc; simpa using this
  refine ⟨hf.same h.a (o h.a), h.k.same hf (fun x hx => by simp at hx; subst hx; exact h.sl _ h.sa.2.2) (o h.k.t) (o hc) (o h.k.qa.q) (o h.k.qa.b) (by simp; omega), ⟨n, hq.same (hf.block _ hq.lt (by simp; omega))⟩, ⟨n', hp'⟩, fun s d hd => ?_, h.ap, h.nq, h.n1, h.n2, h.n3, h.sa, h.st, h.sl, fun x hx => h.up x (Nat.le_trans hf.size hx)⟩
  have hqd := h.qs s d hd
  obtain ⟨⟨d1, d2, d3, d4⟩, _⟩ := h.nq s d hd
  exact hqd.fr hf (o hqd.q) (o hqd.b) (by simp; omega)
/-- The map of queues has changed. -/
theorem LAt.queues (h : LAt B S w l P Q g f pl) (hf : Fr [l.mq] w w') {n' : Nat} (hq' : MapAt TQ w' l.mq n' (fun s => (f' s).map (·.q))) (hsub : ∀ s d, f' s = some d → f s = some d ∨ (QAt w' d.q d.b d.m d.L d.g ∧ ((d.b ≠ l.t.b ∧ d.m ≠ l.t.m ∧ d.m ≠ l.mq ∧ d.m ≠ l.mp) ∧ S d.q ∧ S d.b ∧ S d.m)))
    (hap : ∀ s s' d d', f' s = some d → f' s' = some d' → s ≠ s' → d.b ≠ d'.b ∧ d.m ≠ d'.m) : LAt B S w' l P Q g f' pl := by
  obtain ⟨n, hq⟩ := h.mq
  obtain ⟨n0, hp⟩ := h.mp
  obtain ⟨cu, hc⟩ := h.k.cblock
  have ns := h.n1
  have n2 := h.n2
  have o : ∀ {k : Nat} {y : Array Value} {u : TypeId}, w.heap[k]? = some (.cells y u (0, 0)) → k ∉ [l.mq] := fun hc => by have := hq.ne hc; simpa using this
  refine ⟨hf.same h.a (o h.a), h.k.same hf (fun x hx => by simp at hx; subst hx; exact h.sl _ h.sa.2.1) (o h.k.t) (o hc) (o h.k.qa.q) (o h.k.qa.b) (by simp; omega), ⟨n', hq'⟩, ⟨n0, hp.same (hf.block _ hp.lt (by simp; omega))⟩, fun s d hd => ?_, hap, fun s d hd => ?_, h.n1, h.n2, h.n3, h.sa, h.st, h.sl, fun x hx => h.up x (Nat.le_trans hf.size hx)⟩
  · rcases hsub s d hd with hd | ⟨hd, _⟩
    · have hqd := h.qs s d hd
      obtain ⟨⟨d1, d2, d3, d4⟩, _⟩ := h.nq s d hd
      exact hqd.fr hf (o hqd.q) (o hqd.b) (by simp; omega)
    · exact hd
  · rcases hsub s d hd with hd | ⟨_, hd⟩
    · exact h.nq s d hd
    · exact hd
/-- A block of none of a lot's types. -/
def NotL (w : World) (x : Nat) : Prop := ∃ y u, w.heap[x]? = some (.cells y u (0, 0)) ∧ u ≠ 53 ∧ u ≠ 112 ∧ u ≠ 138 ∧ u ≠ 117 ∧ u ≠ 128
theorem LAt.fr {F : List Nat} (h : LAt B S w l P Q g f pl) (hf : Fr F w w') (hF : ∀ x ∈ F, B ≤ x ∧ NotL w x) : LAt B S w' l P Q g f pl := by
  obtain ⟨n, hq⟩ := h.mq
  obtain ⟨n0, hp⟩ := h.mp
  obtain ⟨cu, hc⟩ := h.k.cblock
  have om : ∀ {m : Nat}, (∀ (k : Nat) (y : Array Value) (u : TypeId), w.heap[k]? = some (.cells y u (0, 0)) → k ≠ m) → m ∉ F := fun hm hx => by
    obtain ⟨_, y, u, e, _⟩ := hF _ hx
    exact hm _ y u e rfl
  have oc : ∀ {k : Nat} {y : Array Value} {v : TypeId}, w.heap[k]? = some (.cells y v (0, 0)) → (v = 53 ∨ v = 112 ∨ v = 138 ∨ v = 117 ∨ v = 128) → k ∉ F := fun hk hv hx => by
    obtain ⟨_, y, u, e, e1, e2, e3, e4, e5⟩ := hF _ hx
    rw [hk] at e
    simp only [Option.some.injEq, Obj.cells.injEq] at e
    rw [e.2.1] at hv
    rcases hv with rfl | rfl | rfl | rfl | rfl
    · exact e1 rfl
    · exact e2 rfl
    · exact e3 rfl
    · exact e4 rfl
    · exact e5 rfl
  refine ⟨hf.same h.a (oc h.a (.inl rfl)), h.k.same hf (fun x hx => (hF x hx).1) (oc h.k.t (.inr (.inl rfl))) (oc hc (.inr (.inr (.inl rfl)))) (oc h.k.qa.q (.inr (.inr (.inr (.inl rfl))))) (oc h.k.qa.b (.inr (.inr (.inr (.inr rfl))))) (om (fun k y u e => h.k.qa.m.ne e)),
    ⟨n, hq.same (hf.block _ hq.lt (om (fun k y u e => hq.ne e)))⟩, ⟨n0, hp.same (hf.block _ hp.lt (om (fun k y u e => hp.ne e)))⟩, fun s d hd => ?_, h.ap, h.nq, h.n1, h.n2, h.n3, h.sa, h.st, h.sl, fun x hx => h.up x (Nat.le_trans hf.size hx)⟩
  have hqd := h.qs s d hd
  exact hqd.fr hf (oc hqd.q (.inr (.inr (.inr (.inl rfl))))) (oc hqd.b (.inr (.inr (.inr (.inr rfl))))) (om (fun k y u e => hqd.m.ne e))
theorem FrL.box (S : Nat → Prop) {x : Nat} {y : Array Value} {u : TypeId} (hc : w.heap[x]? = some (.cells y u (0, 0))) : NotL w x ↔ (u ≠ 53 ∧ u ≠ 112 ∧ u ≠ 138 ∧ u ≠ 117 ∧ u ≠ 128) :=
  ⟨fun ⟨y', u', e, h⟩ => by rw [hc] at e; simp only [Option.some.injEq, Obj.cells.injEq] at e; rw [e.2.1]; exact h, fun h => ⟨y, u, hc, h⟩⟩
end
end Go.Proofs.YtcdimopiaanfbaaDoor
