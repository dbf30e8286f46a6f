/- QParkA: PMem, PPure, PSpec, PCall, PWait, PPark, merged. -/
import Derived.Test.YtcjeckjmoponkaaGreatDoorQRow
import Derived.Test.YtcjeckjmoponkaaGreatDoorQTaskA
import Derived.Test.YtcjeckjmoponkaaGreatDoorQTaskR
import Derived.Deep.QuietTactic
import Derived.BigQuiet
import Derived.Test.YtcjeckjmoponkaaGreatDoorQTaskB
import Derived.StillTailTactics
/- Lots in memory: the map of queues by spots, the map of places by tasks, the table of tasks. -/
namespace Go.Proofs.YtcjeckjmoponkaaGreatDoor
open Go.RowKit Go.Sort Go.MapKept
set_option linter.unusedVariables false
set_option linter.unusedSimpArgs false

/-- A spot: a descriptor and a direction. -/
abbrev Sp := Int × Int
def encS (s : Sp) : Value := .agg #[.int .i64 s.1, .int .i64 s.2]
/-- A place: a spot and a ticket. -/
structure Pl where
  s : Sp
  k : Nat
def Pl.enc (p : Pl) : Value := .agg #[.int .i64 p.s.1, .int .i64 p.s.2, .int .u64 ((p.k : Nat) : Int)]
def TQ : GM Sp Nat := ⟨153, 132, 219, encS, fun q => .pointer (some ⟨q, 0, none⟩), .pointer none⟩
def TP : GM Int Pl := ⟨154, 3, 239, fun k => .int .i64 k, Pl.enc, .agg #[.int .i64 0, .int .i64 0, .int .u64 0]⟩

theorem eq_spot (w : World) (a b : Sp) : (Op.equal 132 (encS a) (encS b)).run Tryz.prog w = .ok (decide (a = b)) w := by
  have h1 : Tryz.prog.underlying 132 = some _ := Tryz.underlying132
  have h2 : Tryz.prog.underlying 3 = some _ := Tryz.underlying3
  have h3 : Tryz.prog.underlying 48 = some _ := Tryz.underlying48
  obtain ⟨a1, a2⟩ := a
  obtain ⟨b1, b2⟩ := b
  unfold encS
  show (Op.equalIn 10000 132 _ _).run Tryz.prog w = _
  by_cases e1 : a1 = b1
  · by_cases e2 : a2 = b2
    · simp [go_sem, h1, h2, h3, e1, e2]
    · simp [go_sem, h1, h2, h3, e1, e2]
  · simp [go_sem, h1, h2, h3, e1]
theorem chk_spot (w : World) (e : Bool) (a b : Int) : (Instr.checkKey e 10000 132 (.agg #[.int .i64 a, .int .i64 b])).run Tryz.prog w = .ok () w := by kernel_rfl
theorem ask_spot (w : World) (k : Sp) : ∀ (l : List MapEntry) (M : List (Sp × Nat)) (i : Nat), GEnt TQ l M → (Instr.findAsking 132 (encS k) l i).run Tryz.prog w = .ok ((gix M k i).map fun p => (p.1, TQ.v p.2)) w
  | [], [], i, _ => by simp [Instr.findAsking, gix]
  | e :: l, (t, x) :: M, i, h => by
    unfold GEnt at h
    simp only [List.map_cons, List.cons.injEq, Prod.mk.injEq] at h
    obtain ⟨⟨h1, h2⟩, h3⟩ := h
    have h4 : e.key = encS t := h1
    simp only [Instr.findAsking, Sem.run_bind, h4, eq_spot, Result.andThen]
    by_cases hk : t = k
    · subst hk
      simp [gix, h2]
    · have : ¬ k = t := fun e => hk e.symm
      simp only [this, decide_false, Bool.false_eq_true, if_false]
      rw [ask_spot w k l M (i + 1) h3]
      simp [gix, hk]
  | [], _ :: _, _, h => by simp [GEnt] at h
  | _ :: _, [], _, h => by simp [GEnt] at h
theorem TQ_ok : TQ.Ok := by
  refine ⟨Tryz.underlying153, fun w k l M h => ?_, fun w e k => chk_spot w e k.1 k.2, fun k => ?_, fun w => by kernel_rfl⟩
  · have h1 : Tryz.prog.underlying 132 = some _ := Tryz.underlying132
    show (Instr.findKey 132 (encS k) l).run Tryz.prog w = _
    cases l with
    | nil =>
      cases M with
      | nil => simp [Instr.findKey, run_underlying h1, Result.andThen, Instr.findNow, gix]
      | cons _ _ => simp [GEnt] at h
    | cons e l =>
      have h2 := ask_spot w k (e :: l) M 0 h
      simp [Instr.findKey, run_underlying h1, Result.andThen, Instr.findNow, Instr.sameNow, h2]
  · simp [TQ, encS, Instr.sameBits]
theorem now_int (k : Int) : ∀ (l : List MapEntry) (M : List (Int × Pl)) (i : Nat), GEnt TP l M → Instr.findNow (.int .i64) (.int .i64 k) l i = some ((gix M k i).map fun p => (p.1, TP.v p.2))
  | [], [], i, _ => rfl
  | e :: l, (t, x) :: M, i, h => by
    unfold GEnt at h
    simp only [List.map_cons, List.cons.injEq, Prod.mk.injEq] at h
    obtain ⟨⟨h1, h2⟩, h3⟩ := h
    have h4 : e.key = .int .i64 t := h1
    by_cases hk : t = k
    · subst hk
      simp [Instr.findNow, Instr.sameNow, h4, gix, h2]
    · have h5 : ¬ k = t := fun e => hk e.symm
      have := now_int k l M (i + 1) h3
      have h6 : (k == t) = false := by simpa using h5
      simp [Instr.findNow, Instr.sameNow, h4, gix, hk, h6, this]
  | [], _ :: _, _, h => by simp [GEnt] at h
  | _ :: _, [], _, h => by simp [GEnt] at h
theorem TP_ok : TP.Ok := by
  have h1 : Tryz.prog.underlying 3 = some (.int .i64) := Tryz.underlying3
  refine ⟨Tryz.underlying154, fun w k l M h => ?_, fun w e k => ?_, fun k => ?_, fun w => by kernel_rfl⟩
  · show (Instr.findKey 3 (.int .i64 k) l).run Tryz.prog w = _
    simp [Instr.findKey, run_underlying h1, Result.andThen, now_int k l M 0 h]
  · exact MapKept.run_checkKey (n := 9999) (k := .int .i64 k) h1 (show MapKept.IsKey (.int .i64) (.int .i64 k) from rfl) e
  · simp [TP, Instr.sameBits]

/-- A queue at a spot. -/
structure Qd where
  q : Nat
  b : Nat
  m : Nat
  L : Qu
  g : Nat
/-- Where a lot lies. -/
structure Ll where
  a : Nat
  t : Tl
  mq : Nat
  mp : Nat
/-- The lot at l; what it may change lies in S. -/
structure LAt (B : Nat) (S : Nat → Prop) (w : World) (l : Ll) (P : Ks) (Q : Qu) (g : Nat) (f : Sp → Option Qd) (pl : Int → Option Pl) : Prop where
  a : w.heap[l.a]? = some (.cells #[.pointer (some ⟨l.t.t, 0, none⟩), .map (some l.mq), .map (some l.mp)] 156 (0, 0))
  k : KAt B w l.t P Q g
  mq : ∃ n, MapAt TQ w l.mq n (fun s => (f s).map (·.q))
  mp : ∃ n, MapAt TP w l.mp n pl
  qs : ∀ s d, f s = some d → QAt w d.q d.b d.m d.L d.g
  ap : ∀ s s' d d', f s = some d → f s' = some d' → s ≠ s' → d.b ≠ d'.b ∧ d.m ≠ d'.m
  nq : ∀ s d, f s = some d → (d.b ≠ l.t.b ∧ d.m ≠ l.t.m ∧ d.m ≠ l.mq ∧ d.m ≠ l.mp) ∧ S d.q ∧ S d.b ∧ S d.m
  n1 : l.mq ≠ l.mp
  n2 : l.mq ≠ l.t.m
  n3 : l.mp ≠ l.t.m
  sa : S l.a ∧ S l.mq ∧ S l.mp
  st : S l.t.t ∧ S l.t.c ∧ S l.t.q ∧ S l.t.b ∧ S l.t.m
  sl : ∀ x, S x → B ≤ x
  up : ∀ x, w.heap.size ≤ x → S x

/-- What a call of a lot leaves alone. -/
structure FrL (S : Nat → Prop) (w w' : World) : Prop where
  os : w'.os = w.os
  tape : w'.tape = w.tape
  output : w'.output = w.output
  size : w.heap.size ≤ w'.heap.size
  out : ∀ k, k < w.heap.size → ¬ S k → w'.heap[k]? = w.heap[k]?
  cel : ∀ (k : Nat) (y : Array Value) (u : TypeId), w.heap[k]? = some (.cells y u (0, 0)) → u ≠ 306 → u ≠ 292 → w'.heap[k]? = w.heap[k]?
section
variable {S : Nat → Prop} {w w' w'' : World}
theorem FrL.refl (S : Nat → Prop) (w : World) : FrL S w w := ⟨rfl, rfl, rfl, Nat.le_refl _, fun _ _ _ => rfl, fun _ _ _ _ _ _ => rfl⟩
theorem FrL.trans (h : FrL S w w') (k : FrL S w' w'') : FrL S w w'' :=
  ⟨k.os.trans h.os, k.tape.trans h.tape, k.output.trans h.output, Nat.le_trans h.size k.size, fun i hi hn => (k.out i (Nat.lt_of_lt_of_le hi h.size) hn).trans (h.out i hi hn), fun i y u hc h1 h2 =>
    (k.cel i y u ((h.cel i y u hc h1 h2).trans hc) h1 h2).trans (h.cel i y u hc h1 h2)⟩
theorem FrL.of_below (S : Nat → Prop) (h : Below w.heap.size w w') : FrL S w w' :=
  ⟨h.os, h.tape, h.output, h.size, fun k hk _ => h.block k hk, fun k y u hc _ _ => h.block k (lt_of_block hc)⟩
theorem FrL.of_fr {F : List Nat} (h : Fr F w w') (h1 : ∀ x ∈ F, S x) (h2 : ∀ x ∈ F, ∀ (y : Array Value) (u : TypeId), w.heap[x]? = some (.cells y u (0, 0)) → u = 306 ∨ u = 292) : FrL S w w' :=
  ⟨h.os, h.tape, h.output, h.size, fun k hk hn => h.block k hk (fun hm => hn (h1 k hm)), fun k y u hc e1 e2 => h.block k (lt_of_block hc) (fun hm => by
    rcases h2 k hm y u hc with h | h
    · exact e1 h
    · exact e2 h)⟩
theorem FrL.below {B : Nat} (h : FrL S w w') (hS : ∀ x, S x → B ≤ x) (hB : B ≤ w.heap.size) : Below B w w' :=
  ⟨h.os, h.tape, h.output, h.size, fun k hk => h.out k (by omega) (fun hs => by have := hS k hs; omega)⟩
theorem FrL.block (h : FrL S w w') {k : Nat} {y : Array Value} {u : TypeId} (hc : w.heap[k]? = some (.cells y u (0, 0))) (h1 : u ≠ 306) (h2 : u ≠ 292) : w'.heap[k]? = some (.cells y u (0, 0)) := (h.cel k y u hc h1 h2).trans hc
theorem FrL.row {α : Type} {T : GT α} {b : Nat} {v : Value} {X : List α} (h : FrL S w w') (hr : Row T w b v X) (h1 : T.te ≠ 306) (h2 : T.te ≠ 292) : Row T w' b v X := by
  rcases hr.2 with h' | ⟨g, cap, cur, rfl, hb, hh, r⟩
  · exact ⟨hr.1, .inl h'⟩
  · exact ⟨hr.1, .inr ⟨g, cap, cur, rfl, hb, h.block hh h1 h2, r⟩⟩
theorem FrL.map {S' : Nat → Prop} (h : FrL S w w') (hs : ∀ x, S x → S' x) : FrL S' w w' := ⟨h.os, h.tape, h.output, h.size, fun k hk hn => h.out k hk (fun e => hn (hs k e)), h.cel⟩
end
section
variable {B : Nat} {S : Nat → Prop} {w w' : World} {l : Ll} {P P' : Ks} {Q Q' : Qu} {g g' : Nat} {f f' : Sp → Option Qd} {pl pl' : Int → Option Pl}
theorem LAt.lt (h : LAt B S w l P Q g f pl) : l.a < w.heap.size := lt_of_block h.a
theorem LAt.ca0 (h : LAt B S w l P Q g f pl) : w.cell? ⟨l.a, 0, none⟩ = some (.pointer (some ⟨l.t.t, 0, none⟩)) := cells_cell h.a rfl
theorem LAt.ca1 (h : LAt B S w l P Q g f pl) : w.cell? ⟨l.a, 1, none⟩ = some (.map (some l.mq)) := cells_cell h.a rfl
theorem LAt.ca2 (h : LAt B S w l P Q g f pl) : w.cell? ⟨l.a, 2, none⟩ = some (.map (some l.mp)) := cells_cell h.a rfl
theorem LAt.lmq (h : LAt B S w l P Q g f pl) : l.mq < w.heap.size := by obtain ⟨n, h⟩ := h.mq; exact h.lt
theorem LAt.lmp (h : LAt B S w l P Q g f pl) : l.mp < w.heap.size := by obtain ⟨n, h⟩ := h.mp; exact h.lt
/-- The world has only grown. -/
theorem LAt.grown (h : LAt B S w l P Q g f pl) (hb : Below w.heap.size w w') : LAt B S w' l P Q g f pl := by
  obtain ⟨n, hq⟩ := h.mq
  obtain ⟨n', hp⟩ := h.mp
  exact ⟨(hb.block _ h.lt).trans h.a, h.k.grown hb, ⟨n, hq.same (hb.block _ hq.lt)⟩, ⟨n', hp.same (hb.block _ hp.lt)⟩, fun s d hd => (h.qs s d hd).grown hb, h.ap, h.nq, h.n1, h.n2, h.n3, h.sa, h.st, h.sl, fun x hx => h.up x (Nat.le_trans hb.size hx)⟩
/-- Nothing of the lot's has changed. -/
theorem LAt.keep {S2 : Nat → Prop} (h : LAt B S w l P Q g f pl) (hf : FrL S2 w w') (hd : ∀ x, x < w.heap.size → S x → ¬ S2 x) (hm : 0 < w.heap.size → ¬ S2 0) : LAt B S w' l P Q g f pl := by
  obtain ⟨n, hq⟩ := h.mq
  obtain ⟨n', hp⟩ := h.mp
  have hs : ∀ x, x < w.heap.size → S x → w'.heap[x]? = w.heap[x]? := fun x hx hxs => hf.out x hx (hd x hx hxs)
  have hk := h.k
  obtain ⟨t1, t2, t3, t4, t5⟩ := h.st
  refine ⟨(hs _ h.lt h.sa.1).trans h.a, ?_, ⟨n, hq.same (hs _ hq.lt h.sa.2.1)⟩, ⟨n', hp.same (hs _ hp.lt h.sa.2.2)⟩, fun s d hd => ?_, h.ap, h.nq, h.n1, h.n2, h.n3, h.sa, h.st, h.sl, fun x hx => h.up x (Nat.le_trans hf.size hx)⟩
  · refine ⟨(hs _ hk.lt t1).trans hk.t, ?_, hk.qa.same (hs _ hk.qa.lq t3) (hs _ hk.qa.lb t4) (hs _ hk.qa.lm t5), hk.n1, hk.n2, hk.mv.same (hf.out _ hk.mv.lt (hm hk.mv.lt)), hk.g0, hk.bt, hk.bq, hk.bb, hk.bm⟩
    rcases hk.r.2 with ⟨h0, _⟩ | ⟨g', cap, cu, hv, hb, hh, r⟩
    · simp at h0
    · refine ⟨hk.r.1, .inr ⟨g', cap, cu, hv, hb, (hs _ (lt_of_block hh) ?_).trans hh, r⟩⟩
      simp only [Value.slice.injEq, Option.some.injEq, Addr.mk.injEq] at hv
      rw [← hv.1.1]; exact t2
  · have hq := h.qs s d hd
    obtain ⟨_, s1, s2, s3⟩ := h.nq s d hd
    exact hq.same (hs _ hq.lq s1) (hs _ hq.lb s2) (hs _ hq.lm s3)
theorem LAt.frk (h : LAt B S w l P Q g f pl) (hf : Fr l.t.F w w') : FrL S w w' := by
  refine FrL.of_fr hf (fun x hx => ?_) (fun x hx y u hc => ?_)
  · simp [Tl.F] at hx
    rcases hx with rfl | rfl | rfl
    · exact h.st.2.1
    · exact h.st.2.2.2.1
    · exact h.st.2.2.2.2
  · by_cases h1 : u = 306
    · exact .inl h1
    · by_cases h2 : u = 292
      · exact .inr h2
      · exact absurd hx (h.k.out hc h1 h2)
theorem LAt.frq (h : LAt B S w l P Q g f pl) {s : Sp} {d : Qd} (hd : f s = some d) (hf : Fr [d.b, d.m] w w') : FrL S w w' := by
  have hq := h.qs s d hd
  refine FrL.of_fr hf (fun x hx => ?_) (fun x hx y u hc => ?_)
  · simp at hx
    rcases hx with rfl | rfl
    · exact (h.nq s d hd).2.2.1
    · exact (h.nq s d hd).2.2.2
  · by_cases h2 : u = 292
    · exact .inr h2
    · exact absurd hx (hq.out hc h2)
theorem LAt.frmq (h : LAt B S w l P Q g f pl) (hf : Fr [l.mq] w w') : FrL S w w' := by
  obtain ⟨n, hq⟩ := h.mq
  refine FrL.of_fr hf (fun x hx => by simp at hx; subst hx; exact h.sa.2.1) (fun x hx y u hc => ?_)
  simp at hx; subst hx
  exact absurd rfl (hq.ne hc)
theorem LAt.frmp (h : LAt B S w l P Q g f pl) (hf : Fr [l.mp] w w') : FrL S w w' := by
  obtain ⟨n, hq⟩ := h.mp
  refine FrL.of_fr hf (fun x hx => by simp at hx; subst hx; exact h.sa.2.2) (fun x hx y u hc => ?_)
  simp at hx; subst hx
  exact absurd rfl (hq.ne hc)
/-- The table of tasks has changed. -/
theorem LAt.tasks (h : LAt B S w l P Q g f pl) (hf : Fr l.t.F w w') (hk : KAt B w' l.t P' Q' g') : LAt B S w' l P' Q' g' f pl := by
  obtain ⟨n, hq⟩ := h.mq
  obtain ⟨n', hp⟩ := h.mp
  obtain ⟨cu, hc⟩ := h.k.cblock
  have e1 : l.mq ∉ l.t.F := by have := hq.ne hc; have := hq.ne h.k.qa.b; have := h.n2; simp [Tl.F]; omega
  have e2 : l.mp ∉ l.t.F := by have := hp.ne hc; have := hp.ne h.k.qa.b; have := h.n3; simp [Tl.F]; omega
  refine ⟨hf.same h.a (h.k.out h.a (by decide) (by decide)), hk, ⟨n, hq.same (hf.block _ hq.lt e1)⟩, ⟨n', hp.same (hf.block _ hp.lt e2)⟩, fun s d hd => ?_, h.ap, h.nq, h.n1, h.n2, h.n3, h.sa, h.st, h.sl, fun x hx => h.up x (Nat.le_trans hf.size hx)⟩
  have hqd := h.qs s d hd
  obtain ⟨⟨d1, d2, d3, d4⟩, _⟩ := h.nq s d hd
  refine hqd.fr hf ?_ ?_ ?_
  · exact h.k.out hqd.q (by decide) (by decide)
  · have e3 := ne_types hqd.b hc (by decide); have e4 := h.k.qa.m.ne hqd.b; simp [Tl.F]; omega
  · have e3 := hqd.m.ne hc; have e4 := hqd.m.ne h.k.qa.b; simp [Tl.F]; omega
/-- A queue has changed. -/
theorem LAt.queue (h : LAt B S w l P Q g f pl) {s : Sp} {d : Qd} (hd : f s = some d) {L' : Qu} {k' : Nat} (hf : Fr [d.b, d.m] w w') (hq' : QAt w' d.q d.b d.m L' k') : LAt B S w' l P Q g (updG f s (some ⟨d.q, d.b, d.m, L', k'⟩)) pl := by
  obtain ⟨n, hq⟩ := h.mq
  obtain ⟨n', hp⟩ := h.mp
  obtain ⟨cu, hc⟩ := h.k.cblock
  have hqd := h.qs s d hd
  obtain ⟨⟨d1, d2, d3, d4⟩, s1, s2, s3⟩ := h.nq s d hd
  have hk : KAt B w' l.t P Q g := by
    refine h.k.same hf (fun x hx => ?_) ?_ ?_ ?_ ?_ ?_
    · simp at hx; rcases hx with rfl | rfl
      · exact h.sl _ s2
      · exact h.sl _ s3
    · exact hqd.out h.k.t (by decide)
    · exact hqd.out hc (by decide)
    · exact hqd.out h.k.qa.q (by decide)
    · have := hqd.m.ne h.k.qa.b; simp; omega
    · have := h.k.qa.m.ne hqd.b; simp; omega
  have hmap : ∀ t, ((updG f s (some ⟨d.q, d.b, d.m, L', k'⟩)) t).map (·.q) = (f t).map (·.q) := fun t => by
    unfold updG
    by_cases e : t = s
    · subst e; simp [hd]
    · simp [e]
  have e1 : l.mq ∉ [d.b, d.m] := by have := hq.ne hqd.b; simp; omega
  have e2 : l.mp ∉ [d.b, d.m] := by have := hp.ne hqd.b; simp; omega
  have cases' : ∀ t x, updG f s (some ⟨d.q, d.b, d.m, L', k'⟩) t = some x → (t = s ∧ x = ⟨d.q, d.b, d.m, L', k'⟩) ∨ (t ≠ s ∧ f t = some x) := fun t x hx => by
    unfold updG at hx
    by_cases e : t = s
    · rw [if_pos e] at hx; cases hx; exact .inl ⟨e, rfl⟩
    · rw [if_neg e] at hx; exact .inr ⟨e, hx⟩
  refine ⟨hf.same h.a (hqd.out h.a (by decide)), hk, ⟨n, (hq.same (hf.block _ hq.lt e1)).congr hmap⟩, ⟨n', hp.same (hf.block _ hp.lt e2)⟩, fun t x hx => ?_, fun t t' x x' hx hx' hne => ?_, fun t x hx => ?_, h.n1, h.n2, h.n3, h.sa, h.st, h.sl, fun x hx => h.up x (Nat.le_trans hf.size hx)⟩
  · rcases cases' t x hx with ⟨_, rfl⟩ | ⟨e, hx⟩
    · exact hq'
    · have hqx := h.qs t x hx
      obtain ⟨a1, a2⟩ := h.ap t s x d hx hd e
      refine hqx.fr hf (hqd.out hqx.q (by decide)) ?_ ?_
      · have := hqd.m.ne hqx.b; simp; omega
      · have := hqx.m.ne hqd.b; simp; omega
  · rcases cases' t x hx with ⟨e1, e2⟩ | ⟨e, hy⟩
    · rcases cases' t' x' hx' with ⟨e3, e4⟩ | ⟨e', hy'⟩
      · exact absurd (e1.trans e3.symm) hne
      · subst e2
        exact h.ap s t' d x' hd hy' (by rw [← e1]; exact hne)
    · rcases cases' t' x' hx' with ⟨e3, e4⟩ | ⟨e', hy'⟩
      · subst e4
        exact h.ap t s x d hy hd (by rw [← e3]; exact hne)
      · exact h.ap t t' x x' hy hy' hne
  · rcases cases' t x hx with ⟨rfl, rfl⟩ | ⟨e, hx⟩
    · exact ⟨⟨d1, d2, d3, d4⟩, s1, s2, s3⟩
    · exact h.nq t x hx
/-- The map of places has changed. -/
theorem LAt.places (h : LAt B S w l P Q g f pl) (hf : Fr [l.mp] w w') {n' : Nat} (hp' : MapAt TP w' l.mp n' pl') : LAt B S w' l P Q g f pl' := by
  obtain ⟨n, hq⟩ := h.mq
  obtain ⟨n0, hp⟩ := h.mp
  obtain ⟨cu, hc⟩ := h.k.cblock
  have ns := h.n1
  have n3 := h.n3
  have o : ∀ {k : Nat} {y : Array Value} {u : TypeId}, w.heap[k]? = some (.cells y u (0, 0)) → k ∉ [l.mp] := fun hc => by have := hp.ne hc; simpa using this
  refine ⟨hf.same h.a (o h.a), h.k.same hf (fun x hx => by simp at hx; subst hx; exact h.sl _ h.sa.2.2) (o h.k.t) (o hc) (o h.k.qa.q) (o h.k.qa.b) (by simp; omega), ⟨n, hq.same (hf.block _ hq.lt (by simp; omega))⟩, ⟨n', hp'⟩, fun s d hd => ?_, h.ap, h.nq, h.n1, h.n2, h.n3, h.sa, h.st, h.sl, fun x hx => h.up x (Nat.le_trans hf.size hx)⟩
  have hqd := h.qs s d hd
  obtain ⟨⟨d1, d2, d3, d4⟩, _⟩ := h.nq s d hd
  exact hqd.fr hf (o hqd.q) (o hqd.b) (by simp; omega)
/-- The map of queues has changed. -/
theorem LAt.queues (h : LAt B S w l P Q g f pl) (hf : Fr [l.mq] w w') {n' : Nat} (hq' : MapAt TQ w' l.mq n' (fun s => (f' s).map (·.q))) (hsub : ∀ s d, f' s = some d → f s = some d ∨ (QAt w' d.q d.b d.m d.L d.g ∧ ((d.b ≠ l.t.b ∧ d.m ≠ l.t.m ∧ d.m ≠ l.mq ∧ d.m ≠ l.mp) ∧ S d.q ∧ S d.b ∧ S d.m)))
    (hap : ∀ s s' d d', f' s = some d → f' s' = some d' → s ≠ s' → d.b ≠ d'.b ∧ d.m ≠ d'.m) : LAt B S w' l P Q g f' pl := by
  obtain ⟨n, hq⟩ := h.mq
  obtain ⟨n0, hp⟩ := h.mp
  obtain ⟨cu, hc⟩ := h.k.cblock
  have ns := h.n1
  have n2 := h.n2
  have o : ∀ {k : Nat} {y : Array Value} {u : TypeId}, w.heap[k]? = some (.cells y u (0, 0)) → k ∉ [l.mq] := fun hc => by have := hq.ne hc; simpa using this
  refine ⟨hf.same h.a (o h.a), h.k.same hf (fun x hx => by simp at hx; subst hx; exact h.sl _ h.sa.2.1) (o h.k.t) (o hc) (o h.k.qa.q) (o h.k.qa.b) (by simp; omega), ⟨n', hq'⟩, ⟨n0, hp.same (hf.block _ hp.lt (by simp; omega))⟩, fun s d hd => ?_, hap, fun s d hd => ?_, h.n1, h.n2, h.n3, h.sa, h.st, h.sl, fun x hx => h.up x (Nat.le_trans hf.size hx)⟩
  · rcases hsub s d hd with hd | ⟨hd, _⟩
    · have hqd := h.qs s d hd
      obtain ⟨⟨d1, d2, d3, d4⟩, _⟩ := h.nq s d hd
      exact hqd.fr hf (o hqd.q) (o hqd.b) (by simp; omega)
    · exact hd
  · rcases hsub s d hd with hd | ⟨_, hd⟩
    · exact h.nq s d hd
    · exact hd
/-- A block of none of a lot's types. -/
def NotL (w : World) (x : Nat) : Prop := ∃ y u, w.heap[x]? = some (.cells y u (0, 0)) ∧ u ≠ 156 ∧ u ≠ 251 ∧ u ≠ 306 ∧ u ≠ 285 ∧ u ≠ 292
theorem LAt.fr {F : List Nat} (h : LAt B S w l P Q g f pl) (hf : Fr F w w') (hF : ∀ x ∈ F, B ≤ x ∧ NotL w x) : LAt B S w' l P Q g f pl := by
  obtain ⟨n, hq⟩ := h.mq
  obtain ⟨n0, hp⟩ := h.mp
  obtain ⟨cu, hc⟩ := h.k.cblock
  have om : ∀ {m : Nat}, (∀ (k : Nat) (y : Array Value) (u : TypeId), w.heap[k]? = some (.cells y u (0, 0)) → k ≠ m) → m ∉ F := fun hm hx => by
    obtain ⟨_, y, u, e, _⟩ := hF _ hx
    exact hm _ y u e rfl
  have oc : ∀ {k : Nat} {y : Array Value} {v : TypeId}, w.heap[k]? = some (.cells y v (0, 0)) → (v = 156 ∨ v = 251 ∨ v = 306 ∨ v = 285 ∨ v = 292) → k ∉ F := fun hk hv hx => by
    obtain ⟨_, y, u, e, e1, e2, e3, e4, e5⟩ := hF _ hx
    rw [hk] at e
    simp only [Option.some.injEq, Obj.cells.injEq] at e
    rw [e.2.1] at hv
    rcases hv with rfl | rfl | rfl | rfl | rfl
    · exact e1 rfl
    · exact e2 rfl
    · exact e3 rfl
    · exact e4 rfl
    · exact e5 rfl
  refine ⟨hf.same h.a (oc h.a (.inl rfl)), h.k.same hf (fun x hx => (hF x hx).1) (oc h.k.t (.inr (.inl rfl))) (oc hc (.inr (.inr (.inl rfl)))) (oc h.k.qa.q (.inr (.inr (.inr (.inl rfl))))) (oc h.k.qa.b (.inr (.inr (.inr (.inr rfl))))) (om (fun k y u e => h.k.qa.m.ne e)),
    ⟨n, hq.same (hf.block _ hq.lt (om (fun k y u e => hq.ne e)))⟩, ⟨n0, hp.same (hf.block _ hp.lt (om (fun k y u e => hp.ne e)))⟩, fun s d hd => ?_, h.ap, h.nq, h.n1, h.n2, h.n3, h.sa, h.st, h.sl, fun x hx => h.up x (Nat.le_trans hf.size hx)⟩
  have hqd := h.qs s d hd
  exact hqd.fr hf (oc hqd.q (.inr (.inr (.inr (.inl rfl))))) (oc hqd.b (.inr (.inr (.inr (.inr rfl))))) (om (fun k y u e => hqd.m.ne e))
theorem FrL.box (S : Nat → Prop) {x : Nat} {y : Array Value} {u : TypeId} (hc : w.heap[x]? = some (.cells y u (0, 0))) : NotL w x ↔ (u ≠ 156 ∧ u ≠ 251 ∧ u ≠ 306 ∧ u ≠ 285 ∧ u ≠ 292) :=
  ⟨fun ⟨y', u', e, h⟩ => by rw [hc] at e; simp only [Option.some.injEq, Obj.cells.injEq] at e; rw [e.2.1]; exact h, fun h => ⟨y, u, hc, h⟩⟩
end
end Go.Proofs.YtcjeckjmoponkaaGreatDoor
/- Lots as lists: the states, the run set, and the parked tasks in the order in which they were parked. -/
namespace Go.Proofs.YtcjeckjmoponkaaGreatDoor
open Go.RowKit Go.Sort Go.MapKept
set_option linter.unusedVariables false
set_option linter.unusedSimpArgs false

abbrev Seats := List (Nat × Sp)
/-- Who waits at a spot. -/
def wt (s : Sp) (L : Seats) : List Nat := (L.filter fun x => decide (x.2 = s)).map Prod.fst
def SpOk (s : Sp) : Prop := 0 ≤ s.1 ∧ s.1 ≤ 127 ∧ (s.2 = 0 ∨ s.2 = 1)
def cat (l : List Nat) : List Int := l.map fun n => ((n : Nat) : Int)
/-- The seats without a task. -/
def woL (i : Nat) (L : Seats) : Seats := L.filter fun x => decide (x.1 ≠ i)
/-- A lot as it can be seen. -/
structure Zt where
  S : List Int
  R : List Int
  L : Seats
/-- A task goes to a state. -/
def Zt.step (z : Zt) (i : Nat) (tg : Int) : Zt := ⟨z.S.set i tg, woR ((i : Nat) : Int) z.R ++ (if tg = 1 then [((i : Nat) : Int)] else []), z.L⟩
def Zt.park (z : Zt) (i : Nat) (s : Sp) : Zt := ⟨z.S.set i 2, woR ((i : Nat) : Int) z.R, z.L ++ [(i, s)]⟩
def Zt.leave (z : Zt) (i : Nat) : Zt := ⟨z.S.set i 1, woR ((i : Nat) : Int) z.R ++ [((i : Nat) : Int)], woL i z.L⟩
def Zt.leaves (z : Zt) (l : List Nat) : Zt := l.foldl Zt.leave z

/-- The queues, the places and the table belong to the seats. -/
structure ZOk (P : Ks) (Q : Qu) (f : Sp → Option Qd) (pl : Int → Option Pl) (L : Seats) (G : Nat) : Prop where
  rk : Rk P Q
  st : ∀ i p, P[i]? = some p → (p.s = 2 ↔ i ∈ L.map Prod.fst)
  inP : ∀ i ∈ L.map Prod.fst, i < P.length
  nd : (L.map Prod.fst).Nodup
  qf : ∀ s d, f s = some d → d.L ≠ [] ∧ d.L.map Prod.snd = cat (wt s L) ∧ d.g ≤ G
  q0 : ∀ s, f s = none → wt s L = []
  p1 : ∀ i s, (i, s) ∈ L → ∃ k d, pl ((i : Nat) : Int) = some ⟨s, k⟩ ∧ f s = some d ∧ (k, ((i : Nat) : Int)) ∈ d.L
  p0 : ∀ N : Int, (∀ i : Nat, N = ((i : Nat) : Int) → i ∉ L.map Prod.fst) → pl N = none
  sp : ∀ x ∈ L, SpOk x.2

theorem mem_wt {s : Sp} {L : Seats} {i : Nat} : i ∈ wt s L ↔ (i, s) ∈ L := by
  simp [wt]
theorem cat_append (a b : List Nat) : cat (a ++ b) = cat a ++ cat b := by simp [cat]
theorem wt_append (s : Sp) (a b : Seats) : wt s (a ++ b) = wt s a ++ wt s b := by simp [wt]
theorem wt_nodup {s : Sp} {L : Seats} (h : (L.map Prod.fst).Nodup) : (wt s L).Nodup := h.sublist ((List.filter_sublist).map _)
theorem cat_nodup {l : List Nat} (h : l.Nodup) : (cat l).Nodup := by
  unfold cat
  rw [List.Nodup, List.pairwise_map]
  exact h.imp (fun h e => h (by omega))
theorem cat_filter (i : Nat) (l : List Nat) : cat (l.filter fun x => decide (x ≠ i)) = (cat l).filter fun x => decide (x ≠ ((i : Nat) : Int)) := by
  induction l with
  | nil => rfl
  | cons x r ih =>
    by_cases e : x = i
    · subst e
      simp [cat] at ih ⊢
      exact ih
    · have e2 : ((x : Nat) : Int) ≠ ((i : Nat) : Int) := by omega
      simp [cat, e, e2] at ih ⊢
      exact ih
theorem wt_woL (s : Sp) (i : Nat) (L : Seats) : wt s (woL i L) = (wt s L).filter fun x => decide (x ≠ i) := by
  unfold wt woL
  rw [List.filter_filter, List.filter_map, List.filter_filter]
  congr 1
  refine List.filter_congr fun x _ => ?_
  simp [Bool.and_comm]
theorem woL_map (i : Nat) (L : Seats) : (woL i L).map Prod.fst = (L.map Prod.fst).filter fun x => decide (x ≠ i) := by
  unfold woL
  rw [List.filter_map]
  rfl
theorem mem_woL {i : Nat} {L : Seats} {x : Nat × Sp} : x ∈ woL i L ↔ x ∈ L ∧ x.1 ≠ i := by simp [woL]
theorem seat_one {L : Seats} (h : (L.map Prod.fst).Nodup) {i : Nat} {s t : Sp} (h1 : (i, s) ∈ L) (h2 : (i, t) ∈ L) : s = t := by
  induction L with
  | nil => cases h1
  | cons x r ih =>
    simp only [List.map_cons, List.nodup_cons] at h
    rcases List.mem_cons.1 h1 with e1 | k1
    · rcases List.mem_cons.1 h2 with e2 | k2
      · rw [← e1] at e2; cases e2; rfl
      · rw [← e1] at h
        exact absurd (show i ∈ r.map Prod.fst from List.mem_map.2 ⟨(i, t), k2, rfl⟩) h.1
    · rcases List.mem_cons.1 h2 with e2 | k2
      · rw [← e2] at h
        exact absurd (show i ∈ r.map Prod.fst from List.mem_map.2 ⟨(i, s), k1, rfl⟩) h.1
      · exact ih h.2 k1 k2
theorem filter_split {a b : List Int} {i : Int} (h : (a ++ i :: b).Nodup) : (a ++ i :: b).filter (fun x => decide (x ≠ i)) = a ++ b := by
  rw [List.nodup_append] at h
  obtain ⟨h1, h2, h3⟩ := h
  rw [List.nodup_cons] at h2
  rw [List.filter_append, List.filter_cons]
  simp only [ne_eq, not_true_eq_false, decide_false, Bool.false_eq_true, if_false]
  congr 1
  · refine List.filter_eq_self.2 fun x hx => ?_
    simpa using h3 x hx i List.mem_cons_self
  · refine List.filter_eq_self.2 fun x hx => ?_
    have : x ≠ i := fun e => h2.1 (e ▸ hx)
    simpa using this

section
variable {P : Ks} {Q : Qu} {f : Sp → Option Qd} {pl : Int → Option Pl} {L : Seats} {G g i k : Nat} {s : Sp} {p : Ck} {tg : Int}
theorem ZOk.mono {G' : Nat} (h : ZOk P Q f pl L G) (hG : G ≤ G') : ZOk P Q f pl L G' :=
  ⟨h.rk, h.st, h.inP, h.nd, fun s d hd => by obtain ⟨a, b, c⟩ := h.qf s d hd; exact ⟨a, b, Nat.le_trans c hG⟩, h.q0, h.p1, h.p0, h.sp⟩
theorem ZOk.step (h : ZOk P Q f pl L G) (hp : P[i]? = some p) (h1 : p.s ≠ 2) (h2 : tg ≠ 2) (g : Nat) : ZOk (stepP P i tg g) (stepQ Q i tg g) f pl L G := by
  refine ⟨h.rk.step hp tg g, fun j q hq => ?_, fun j hj => by rw [stepP_len]; exact h.inP j hj, h.nd, h.qf, h.q0, h.p1, h.p0, h.sp⟩
  unfold stepP at hq
  rw [setK hp] at hq
  split at hq
  · rename_i e
    subst e
    cases hq
    have := h.st i p hp
    simp only
    constructor
    · intro e; exact absurd e h2
    · intro e; exact absurd (this.2 e) h1
  · exact h.st j q hq
theorem ZOk.park (h : ZOk P Q f pl L G) (hp : P[i]? = some p) (h1 : p.s ≠ 2) (hs : SpOk s) {d : Qd} (hd : f s = some d ∨ (f s = none ∧ d.L = [])) {G' : Nat} (hG : G ≤ G') (hk : k ≤ G') (g : Nat) :
    ZOk (stepP P i 2 g) (stepQ Q i 2 g) (updG f s (some ⟨d.q, d.b, d.m, d.L ++ [(k, ((i : Nat) : Int))], k⟩)) (updG pl ((i : Nat) : Int) (some ⟨s, k⟩)) (L ++ [(i, s)]) G' := by
  have hni : i ∉ L.map Prod.fst := fun hm => h1 ((h.st i p hp).2 hm)
  have hdl : d.L.map Prod.snd = cat (wt s L) := by
    rcases hd with hd | ⟨hd, e⟩
    · exact (h.qf s d hd).2.1
    · rw [e, h.q0 s hd]; rfl
  refine ⟨h.rk.step hp 2 g, fun j q hq => ?_, fun j hj => ?_, ?_, fun t x hx => ?_, fun t hx => ?_, fun j t hj => ?_, fun N hN => ?_, fun x hx => ?_⟩
  · unfold stepP at hq
    rw [setK hp] at hq
    split at hq
    · rename_i e
      subst e
      cases hq
      simp
    · rename_i e
      rw [h.st j q hq]
      simp
      omega
  · rw [stepP_len]
    rw [List.map_append] at hj
    rcases List.mem_append.1 hj with hj | hj
    · exact h.inP j hj
    · simp at hj
      subst hj
      exact (List.getElem?_eq_some_iff.1 hp).1
  · rw [List.map_append, List.nodup_append]
    refine ⟨h.nd, by simp, ?_⟩
    intro a ha b hb e
    simp at hb
    exact hni (by rw [← hb, ← e]; exact ha)
  · unfold updG at hx
    rw [wt_append, cat_append]
    by_cases e : t = s
    · rw [if_pos e] at hx
      cases hx
      subst e
      refine ⟨by simp, ?_, hk⟩
      simp only [List.map_append, hdl]
      simp [wt, cat]
    · rw [if_neg e] at hx
      obtain ⟨a, b, c⟩ := h.qf t x hx
      refine ⟨a, ?_, Nat.le_trans c hG⟩
      rw [b]
      simp [wt, cat, Ne.symm e]
  · unfold updG at hx
    by_cases e : t = s
    · rw [if_pos e] at hx; cases hx
    · rw [if_neg e] at hx
      rw [wt_append, h.q0 t hx]
      simp [wt, Ne.symm e]
  · unfold updG
    rcases List.mem_append.1 hj with hj | hj
    · have hne : j ≠ i := fun e => hni (by rw [← e]; exact List.mem_map.2 ⟨_, hj, rfl⟩)
      obtain ⟨kk, x, a, b, c⟩ := h.p1 j t hj
      rw [if_neg (by omega)]
      by_cases e : t = s
      · rw [if_pos e]
        subst e
        rcases hd with hd | ⟨hd, _⟩
        · rw [hd] at b
          cases b
          exact ⟨kk, _, a, rfl, List.mem_append_left _ c⟩
        · rw [hd] at b; cases b
      · rw [if_neg e]
        exact ⟨kk, x, a, b, c⟩
    · simp at hj
      obtain ⟨rfl, rfl⟩ := hj
      rw [if_pos rfl, if_pos rfl]
      exact ⟨k, _, rfl, rfl, by simp⟩
  · unfold updG
    rw [if_neg (fun e => hN i e (by simp))]
    exact h.p0 N fun j e hm => hN j e (by rw [List.map_append]; exact List.mem_append_left _ hm)
  · rcases List.mem_append.1 hx with hx | hx
    · exact h.sp x hx
    · simp at hx; subst hx; exact hs
theorem ZOk.leave (h : ZOk P Q f pl L G) (hm : (i, s) ∈ L) {d : Qd} (hd : f s = some d) {A R : Qu} (hL : d.L = A ++ (k, ((i : Nat) : Int)) :: R) (g : Nat) :
    ZOk (stepP P i 1 g) (stepQ Q i 1 g) (updG f s (if A ++ R = [] then none else some ⟨d.q, d.b, d.m, A ++ R, d.g⟩)) (updG pl ((i : Nat) : Int) none) (woL i L) G := by
  have hi : i ∈ L.map Prod.fst := List.mem_map.2 ⟨_, hm, rfl⟩
  have hp := List.getElem?_eq_getElem (h.inP i hi)
  have hwd : (A ++ R).map Prod.snd = cat (wt s (woL i L)) := by
    have h1 := (h.qf s d hd).2.1
    have h2 := cat_nodup (wt_nodup (s := s) h.nd)
    rw [wt_woL, cat_filter, ← h1, hL]
    rw [← h1, hL] at h2
    simp only [List.map_append, List.map_cons] at h2 ⊢
    rw [filter_split h2]
  have hwo : ∀ t, t ≠ s → wt t (woL i L) = wt t L := fun t e => by
    rw [wt_woL]
    refine List.filter_eq_self.2 fun x hx => ?_
    have : x ≠ i := fun e2 => e (seat_one h.nd (mem_wt.1 (e2 ▸ hx)) hm)
    simpa using this
  refine ⟨h.rk.step hp 1 g, fun j q hq => ?_, fun j hj => ?_, ?_, fun t x hx => ?_, fun t hx => ?_, fun j t hj => ?_, fun N hN => ?_, fun x hx => h.sp x (mem_woL.1 hx).1⟩
  · unfold stepP at hq
    rw [setK hp] at hq
    rw [woL_map]
    split at hq
    · rename_i e
      subst e
      cases hq
      simp
    · rename_i e
      rw [h.st j q hq]
      have : j ≠ i := fun e2 => e e2.symm
      rw [List.mem_filter]
      simp [this]
  · rw [stepP_len]
    rw [woL_map] at hj
    exact h.inP j (List.mem_filter.1 hj).1
  · rw [woL_map]; exact h.nd.sublist List.filter_sublist
  · unfold updG at hx
    by_cases e : t = s
    · rw [if_pos e] at hx
      split at hx
      · cases hx
      · rename_i hne
        cases hx
        subst e
        exact ⟨hne, hwd, (h.qf t d hd).2.2⟩
    · rw [if_neg e] at hx
      rw [hwo t e]
      exact h.qf t x hx
  · unfold updG at hx
    by_cases e : t = s
    · rw [if_pos e] at hx
      split at hx
      · rename_i he
        subst e
        rw [he] at hwd
        have : cat (wt t (woL i L)) = [] := hwd.symm
        unfold cat at this
        exact List.map_eq_nil_iff.1 this
      · cases hx
    · rw [if_neg e] at hx
      rw [hwo t e]
      exact h.q0 t hx
  · obtain ⟨hj, hne⟩ := mem_woL.1 hj
    simp only at hne
    obtain ⟨kk, x, a, b, c⟩ := h.p1 j t hj
    unfold updG
    rw [if_neg (by omega)]
    by_cases e : t = s
    · rw [if_pos e]
      subst e
      rw [hd] at b
      cases b
      rw [hL] at c
      have hc : (kk, ((j : Nat) : Int)) ∈ A ++ R := by
        rcases List.mem_append.1 c with c | c
        · exact List.mem_append_left _ c
        · rcases List.mem_cons.1 c with c | c
          · simp at c; omega
          · exact List.mem_append_right _ c
      rw [if_neg (fun e => by rw [e] at hc; cases hc)]
      exact ⟨kk, _, a, rfl, hc⟩
    · rw [if_neg e]
      exact ⟨kk, x, a, b, c⟩
  · unfold updG
    by_cases e : N = ((i : Nat) : Int)
    · rw [if_pos e]
    · rw [if_neg e]
      refine h.p0 N fun j e2 hm2 => hN j e2 ?_
      rw [woL_map, List.mem_filter]
      exact ⟨hm2, by simp; omega⟩
end

/-- A lot in memory that can be seen as z; G bounds its tickets. -/
def LS (B : Nat) (S : Nat → Prop) (w : World) (l : Ll) (z : Zt) (G : Nat) : Prop :=
  ∃ P Q g f pl, LAt B S w l P Q g f pl ∧ ZOk P Q f pl z.L G ∧ g ≤ G ∧ z.S = sts P ∧ z.R = vls Q
/-- What is true of every lot. -/
structure ZK (z : Zt) : Prop where
  n1 : 1 ≤ z.S.length
  n2 : z.S.length ≤ 64
  r : z.R.length ≤ 64
  l : z.L.length ≤ 64
  nd : (z.L.map Prod.fst).Nodup
  inS : ∀ i ∈ z.L.map Prod.fst, i < z.S.length
  st : ∀ i x, z.S[i]? = some x → (x = 2 ↔ i ∈ z.L.map Prod.fst)
  sp : ∀ x ∈ z.L, SpOk x.2
section
variable {B : Nat} {S : Nat → Prop} {w w' : World} {l : Ll} {z : Zt} {G G' : Nat}
theorem LS.zk (h : LS B S w l z G) : ZK z := by
  obtain ⟨P, Q, g, f, pl, hA, hZ, hg, h1, h2⟩ := h
  have e1 : z.S.length = P.length := by rw [h1, sts_len]
  have e2 : z.R.length ≤ P.length := by rw [h2]; unfold vls; rw [List.length_map]; exact hZ.rk.len hA.k.qa.inc
  have hn1 := hA.k.n1
  have hn2 := hA.k.n2
  have hl : (cat (z.L.map Prod.fst)).length ≤ P.length := nodup_len _ _ (cat_nodup hZ.nd) (fun x hx => by
    unfold cat at hx
    obtain ⟨i, hi, rfl⟩ := List.mem_map.1 hx
    exact ⟨i, rfl, hZ.inP i hi⟩)
  refine ⟨by omega, by omega, by omega, by simp [cat] at hl; omega, hZ.nd, fun i hi => by rw [e1]; exact hZ.inP i hi, fun i x hx => ?_, hZ.sp⟩
  rw [h1] at hx
  unfold sts at hx
  rw [List.getElem?_map] at hx
  cases hp : P[i]? with
  | none => rw [hp] at hx; cases hx
  | some p => rw [hp] at hx; cases hx; exact hZ.st i p hp
theorem LS.grown (h : LS B S w l z G) (hb : Below w.heap.size w w') : LS B S w' l z G := by
  obtain ⟨P, Q, g, f, pl, hA, r⟩ := h
  exact ⟨P, Q, g, f, pl, hA.grown hb, r⟩
theorem LS.mono (h : LS B S w l z G) (hG : G ≤ G') : LS B S w l z G' := by
  obtain ⟨P, Q, g, f, pl, hA, hZ, hg, r⟩ := h
  exact ⟨P, Q, g, f, pl, hA, hZ.mono hG, Nat.le_trans hg hG, r⟩
theorem LS.keep {S2 : Nat → Prop} (h : LS B S w l z G) (hf : FrL S2 w w') (hd : ∀ x, x < w.heap.size → S x → ¬ S2 x) (hm : 0 < w.heap.size → ¬ S2 0) : LS B S w' l z G := by
  obtain ⟨P, Q, g, f, pl, hA, r⟩ := h
  exact ⟨P, Q, g, f, pl, hA.keep hf hd hm, r⟩
theorem LS.fr {F : List Nat} (h : LS B S w l z G) (hf : Fr F w w') (hF : ∀ x ∈ F, B ≤ x ∧ NotL w x) : LS B S w' l z G := by
  obtain ⟨P, Q, g, f, pl, hA, r⟩ := h
  exact ⟨P, Q, g, f, pl, hA.fr hf hF, r⟩
end
end Go.Proofs.YtcjeckjmoponkaaGreatDoor
/- What the calls of a lot answer, and what they make of it. -/
namespace Go.Proofs.YtcjeckjmoponkaaGreatDoor
open Go.RowKit Go.Sort Go.MapKept
set_option linter.unusedVariables false
set_option linter.unusedSimpArgs false

instance (s : Sp) : Decidable (SpOk s) := inferInstanceAs (Decidable (0 ≤ s.1 ∧ s.1 ≤ 127 ∧ (s.2 = 0 ∨ s.2 = 1)))
/-- The number of a task, if there is one. -/
def numI (z : Zt) (N : Int) : Option Nat := if 0 ≤ N ∧ N < ((z.S.length : Nat) : Int) then some N.toNat else none
def seatOf (L : Seats) (i : Nat) : Option Sp := (L.find? fun x => decide (x.1 = i)).map Prod.snd
def stC (z : Zt) (N : Int) : Int × Int := match numI z N with
  | none => (0, 2)
  | some i => (z.S.getD i 0, 0)
def whC (z : Zt) (N : Int) : Sp × Int := match numI z N with
  | none => ((0, 0), 2)
  | some i => match seatOf z.L i with
    | none => ((0, 0), 8)
    | some s => (s, 0)
def stepC (c : Nat) (z : Zt) (N : Int) : Int × Zt := match numI z N with
  | none => (2, z)
  | some i => if z.S.getD i 0 = frOf c then (0, z.step i (tgOf c)) else (8, z)
def pkC (z : Zt) (N : Int) (s : Sp) : Int × Zt := match numI z N with
  | none => (2, z)
  | some i => if SpOk s then (if z.S.getD i 0 = 1 then (0, z.park i s) else (8, z)) else (2, z)
def lvC (z : Zt) (N : Int) : Sp × Int × Zt := if (whC z N).2 = 0 then ((whC z N).1, 0, z.leave N.toNat) else ((0, 0), (whC z N).2, z)
def waC (z : Zt) (s : Sp) : List Int × Int := if SpOk s then (cat (wt s z.L), 0) else ([], 2)
def wkC (z : Zt) (s : Sp) : Int × Int × Zt := if SpOk s then (match wt s z.L with
  | [] => (0, 9, z)
  | i :: _ => (((i : Nat) : Int), 0, z.leave i)) else (0, 2, z)
def wkaC (z : Zt) (s : Sp) : List Int × Int × Zt := if SpOk s then (cat (wt s z.L), 0, z.leaves (wt s z.L)) else ([], 2, z)

theorem numI_or (z : Zt) (N : Int) : (numI z N = none ∧ (N < 0 ∨ ((z.S.length : Nat) : Int) ≤ N)) ∨ ∃ i : Nat, N = ((i : Nat) : Int) ∧ i < z.S.length ∧ numI z N = some i := by
  unfold numI
  by_cases h : 0 ≤ N ∧ N < ((z.S.length : Nat) : Int)
  · exact .inr ⟨N.toNat, by omega, by omega, by rw [if_pos h]⟩
  · exact .inl ⟨by rw [if_neg h], by omega⟩
theorem numI_at {z : Zt} {i : Nat} (h : i < z.S.length) : numI z ((i : Nat) : Int) = some i := by
  unfold numI
  rw [if_pos (by omega)]
  simp
theorem seatOf_some {L : Seats} (h : (L.map Prod.fst).Nodup) {i : Nat} {s : Sp} : seatOf L i = some s ↔ (i, s) ∈ L := by
  induction L with
  | nil => simp [seatOf]
  | cons x r ih =>
    simp only [List.map_cons, List.nodup_cons] at h
    obtain ⟨j, t⟩ := x
    unfold seatOf
    rw [List.find?_cons]
    by_cases e : j = i
    · subst e
      simp only [decide_true, Option.map_some, Option.some.injEq, List.mem_cons, Prod.mk.injEq, true_and]
      constructor
      · rintro rfl; exact .inl rfl
      · rintro (h2 | h2)
        · exact h2.symm
        · exact absurd (show j ∈ r.map Prod.fst from List.mem_map.2 ⟨(j, s), h2, rfl⟩) h.1
    · have e2 : ¬ i = j := fun h => e h.symm
      simp only [e, decide_false, List.mem_cons, Prod.mk.injEq, e2, false_and, false_or]
      exact ih h.2
theorem seatOf_none {L : Seats} {i : Nat} : seatOf L i = none ↔ i ∉ L.map Prod.fst := by
  induction L with
  | nil => simp [seatOf]
  | cons x r ih =>
    obtain ⟨j, t⟩ := x
    unfold seatOf at ih ⊢
    rw [List.find?_cons]
    by_cases e : j = i
    · subst e; simp
    · have e2 : ¬ i = j := fun h => e h.symm
      simp only [e, decide_false, ih, List.map_cons, List.mem_cons, e2, false_or]
theorem leaves_L (l : List Nat) : ∀ z : Zt, ∀ x, x ∈ (z.leaves l).L ↔ x ∈ z.L ∧ x.1 ∉ l := by
  induction l with
  | nil => intro z x; simp [Zt.leaves]
  | cons i r ih =>
    intro z x
    show x ∈ ((z.leave i).leaves r).L ↔ _
    rw [ih]
    show (x ∈ woL i z.L ∧ _) ↔ _
    rw [mem_woL]
    simp [and_assoc]
theorem leaves_append (z : Zt) (a b : List Nat) : z.leaves (a ++ b) = (z.leaves a).leaves b := by simp [Zt.leaves, List.foldl_append]
theorem leaves_len (l : List Nat) : ∀ z : Zt, (z.leaves l).S.length = z.S.length := by
  induction l with
  | nil => intro z; rfl
  | cons i r ih => intro z; show ((z.leave i).leaves r).S.length = _; rw [ih]; simp [Zt.leave]
end Go.Proofs.YtcjeckjmoponkaaGreatDoor
/- Calls of a lot that ask its table of tasks, or a queue. -/
namespace Go.Proofs.YtcjeckjmoponkaaGreatDoor
open Go.RowKit Go.Sort Go.MapKept
set_option linter.unusedVariables false
set_option linter.unusedSimpArgs false

/-- A pointer that is no lot. -/
def NoL (w : World) (v : Value) : Prop := v = .pointer none ∨ ∃ q, v = .pointer (some ⟨q, 0, none⟩) ∧ w.heap[q]? = some (.cells #[.pointer none, .map none, .map none] 156 (0, 0))
theorem NoL.grown {w w' : World} {v : Value} (h : NoL w v) (hb : Below w.heap.size w w') : NoL w' v := by
  rcases h with h | ⟨q, h1, h2⟩
  · exact .inl h
  · exact .inr ⟨q, h1, (hb.block _ (lt_of_block h2)).trans h2⟩
theorem NoL.form {w : World} {v : Value} (h : NoL w v) : ∃ a, v = .pointer a := by
  rcases h with h | ⟨q, h1, h2⟩
  · exact ⟨_, h⟩
  · exact ⟨_, h1⟩
section
variable {B : Nat} {S : Nat → Prop} {w w' : World} {l : Ll} {P P' : Ks} {Q Q' : Qu} {g g' : Nat} {f : Sp → Option Qd} {pl : Int → Option Pl} {z : Zt} {G : Nat} {s : Sp}
theorem pkTable_yes (h : LAt B S w l P Q g f pl) : Calls Tryz.prog 128 #[.pointer (some ⟨l.a, 0, none⟩)] w fun e w' => e = .returned (.pointer (some ⟨l.t.t, 0, none⟩)) ∧ w' = w := by
  have k := h.ca0
  clear h
  go_enter Tryz.func128, Tryz.ntmps128
  go_wp2
  go_ret
  exact ⟨rfl, rfl⟩
theorem pkValid_yes (w : World) (hs : SpOk s) : Calls Tryz.prog 170 #[.agg #[.int .i64 s.1, .int .i64 s.2]] w fun e w' => e = .returned (.bool true) ∧ Grn w w' := by
  obtain ⟨a, b⟩ := s
  obtain ⟨h1, h2, h3⟩ := hs
  simp only at h1 h2 h3 ⊢
  have h4 : a < 128 := by omega
  rcases h3 with rfl | rfl
  · go_enter Tryz.func170, Tryz.ntmps170
    go_wp2
    go_ret
    exact ⟨rfl, (Grn.refl w).alloc _⟩
  · go_enter Tryz.func170, Tryz.ntmps170
    go_wp2
    go_ret
    exact ⟨rfl, (Grn.refl w).alloc _⟩
theorem pkValid_no (w : World) (hs : ¬ SpOk s) : Calls Tryz.prog 170 #[.agg #[.int .i64 s.1, .int .i64 s.2]] w fun e w' => e = .returned (.bool false) ∧ Grn w w' := by
  obtain ⟨a, b⟩ := s
  unfold SpOk at hs
  simp only at hs ⊢
  by_cases h1 : a < 0
  · have h2 : decide (0 ≤ a) = false := decide_eq_false (by omega)
    clear hs
    go_enter Tryz.func170, Tryz.ntmps170
    go_wp2
    go_ret
    exact ⟨rfl, (Grn.refl w).alloc _⟩
  · have h1' : 0 ≤ a := by omega
    by_cases h2 : 128 ≤ a
    · have h3 : decide (a < 128) = false := decide_eq_false (by omega)
      clear hs h1
      go_enter Tryz.func170, Tryz.ntmps170
      go_wp2
      go_ret
      exact ⟨rfl, (Grn.refl w).alloc _⟩
    · have h3 : a < 128 := by omega
      have h4 : (b == 0) = false := by simp; omega
      have h5 : (b == 1) = false := by simp; omega
      clear hs h1 h2
      go_enter Tryz.func170, Tryz.ntmps170
      go_wp2
      go_ret
      exact ⟨rfl, (Grn.refl w).alloc _⟩

theorem pkQueue_bad (h : LAt B S w l P Q g f pl) (hs : ¬ SpOk s) : Calls Tryz.prog 118 #[.pointer (some ⟨l.a, 0, none⟩), .agg #[.int .i64 s.1, .int .i64 s.2]] w fun e w' => e = .returned (.tuple #[.pointer none, .int .i64 2]) ∧ Grn w w' := by
  have ht := Lib.hid (pkTable_yes (h.grown (below_alloc w (.cells #[.int .i64 s.1, .int .i64 s.2] 132))))
  have hv := Lib.hid (pkValid_no (s := s) (w.alloc (.cells #[.int .i64 s.1, .int .i64 s.2] 132)) hs)
  clear h hs
  generalize s.1 = a at *
  generalize s.2 = b at *
  go_enter Tryz.func118, Tryz.ntmps118
  go_wp2_with (first | (go_at_call 128; refine ht.out.mono ?_; rintro e w2 ⟨rfl, rfl⟩) | (go_at_call 170; refine hv.out.mono ?_; rintro e w2 ⟨rfl, hg⟩))
  go_ret2
  exact ⟨rfl, ((Grn.refl w).alloc _).trans hg⟩
set_option maxHeartbeats 800000 in
theorem pkQueue_some (h : LAt B S w l P Q g f pl) (hs : SpOk s) {d : Qd} (hd : f s = some d) : Calls Tryz.prog 118 #[.pointer (some ⟨l.a, 0, none⟩), .agg #[.int .i64 s.1, .int .i64 s.2]] w fun e w' => e = .returned (.tuple #[.pointer (some ⟨d.q, 0, none⟩), .int .i64 0]) ∧ Grn w w' := by
  obtain ⟨n, hm⟩ := h.mq
  have HH := Lib.hid h
  have ht := Lib.hid (pkTable_yes (h.grown (below_alloc w (.cells #[.int .i64 s.1, .int .i64 s.2] 132))))
  have hv := Lib.hid (pkValid_yes (s := s) (w.alloc (.cells #[.int .i64 s.1, .int .i64 s.2] 132)) hs)
  have hlk : Hid (∀ W, Below w.heap.size w W → (Instr.lookup 153 (.map (some l.mq)) (.agg #[.int .i64 s.1, .int .i64 s.2]) false).run Tryz.prog W = .ok (.pointer (some ⟨d.q, 0, none⟩)) W) := Lib.hid (fun W hW => by
    have := MapAt.look_yes TQ_ok (hm.same (hW.block _ hm.lt)) (k := s) (by simp only [hd]; rfl) false
    simpa [TQ, encS] using this)
  clear h hs hm hd
  generalize s.1 = a at *
  generalize s.2 = b at *
  go_enter Tryz.func118, Tryz.ntmps118
  go_wp2_with (first | (go_at_call 128; refine ht.out.mono ?_; rintro e w2 ⟨rfl, rfl⟩) | (go_at_call 170; fail))
  have hx0 := block_new w (.cells #[.int .i64 a, .int .i64 b] 132) _ rfl
  refine hv.out.mono ?_
  rintro e w2 ⟨rfl, hg⟩
  have hx := (hg.below.block _ (lt_of_block hx0)).trans hx0
  have hg2 := ((Grn.refl w).alloc (.cells #[.int .i64 a, .int .i64 b] 132)).trans hg
  have c1 := (HH.out.grown hg2.below).ca1
  have x0 := cells_cell (o := 0) hx rfl
  have x1 := cells_cell (o := 1) hx rfl
  have xl := lt_of_block hx
  have al := (HH.out.grown hg2.below).lt
  have HG := Lib.hid hg2
  have l1 := fun n => hlk.out (w2.drewN n) ((hg2.drew n).below)
  clear hx hx0 hg hg2 ht hv
  generalize w.heap.size = k at *
  go_wp2_with fail
  go_quiet (fail)
  go_wp2
  go_ret2
  exact ⟨rfl, HG.out.drew _⟩
set_option maxHeartbeats 800000 in
theorem pkQueue_none (h : LAt B S w l P Q g f pl) (hs : SpOk s) (hd : f s = none) : Calls Tryz.prog 118 #[.pointer (some ⟨l.a, 0, none⟩), .agg #[.int .i64 s.1, .int .i64 s.2]] w fun e w' => e = .returned (.tuple #[.pointer none, .int .i64 0]) ∧ Grn w w' := by
  obtain ⟨n, hm⟩ := h.mq
  have HH := Lib.hid h
  have ht := Lib.hid (pkTable_yes (h.grown (below_alloc w (.cells #[.int .i64 s.1, .int .i64 s.2] 132))))
  have hv := Lib.hid (pkValid_yes (s := s) (w.alloc (.cells #[.int .i64 s.1, .int .i64 s.2] 132)) hs)
  have hlk : Hid (∀ W, Below w.heap.size w W → (Instr.lookup 153 (.map (some l.mq)) (.agg #[.int .i64 s.1, .int .i64 s.2]) false).run Tryz.prog W = .ok (.pointer none) W) := Lib.hid (fun W hW => by
    have := MapAt.look_no TQ_ok (hm.same (hW.block _ hm.lt)) (k := s) (by simp only [hd]; rfl) false
    simpa [TQ, encS] using this)
  clear h hs hm hd
  generalize s.1 = a at *
  generalize s.2 = b at *
  go_enter Tryz.func118, Tryz.ntmps118
  go_wp2_with (first | (go_at_call 128; refine ht.out.mono ?_; rintro e w2 ⟨rfl, rfl⟩) | (go_at_call 170; fail))
  have hx0 := block_new w (.cells #[.int .i64 a, .int .i64 b] 132) _ rfl
  refine hv.out.mono ?_
  rintro e w2 ⟨rfl, hg⟩
  have hx := (hg.below.block _ (lt_of_block hx0)).trans hx0
  have hg2 := ((Grn.refl w).alloc (.cells #[.int .i64 a, .int .i64 b] 132)).trans hg
  have c1 := (HH.out.grown hg2.below).ca1
  have x0 := cells_cell (o := 0) hx rfl
  have x1 := cells_cell (o := 1) hx rfl
  have xl := lt_of_block hx
  have al := (HH.out.grown hg2.below).lt
  have HG := Lib.hid hg2
  have l1 := fun n => hlk.out (w2.drewN n) ((hg2.drew n).below)
  clear hx hx0 hg hg2 ht hv
  generalize w.heap.size = k at *
  go_wp2_with fail
  go_quiet (fail)
  go_wp2
  go_ret2
  exact ⟨rfl, HG.out.drew _⟩

theorem pkState_any (h : LS B S w l z G) (N : Int) : Calls Tryz.prog 70 #[.pointer (some ⟨l.a, 0, none⟩), .int .i64 N] w fun e w' => e = .returned (.tuple #[.int .i64 (stC z N).1, .int .i64 (stC z N).2]) ∧ w' = w := by
  obtain ⟨P, Q, g, f, pl, hA, hZ, hg, h1, h2⟩ := h
  have ht := Lib.hid (pkTable_yes hA)
  have hu : Hid (Calls Tryz.prog 129 #[.pointer (some ⟨l.t.t, 0, none⟩), .int .i64 N] w fun e w' => e = .returned (.tuple #[.int .i64 (stC z N).1, .int .i64 (stC z N).2]) ∧ w' = w) := Lib.hid (by
    rcases numI_or z N with ⟨e, hn⟩ | ⟨i, rfl, hi, e⟩
    · unfold stC; rw [e]
      exact tkState_bad hA.k (by rw [h1, sts_len] at hn; exact hn)
    · unfold stC; rw [e]
      have hi2 : i < P.length := by rw [h1, sts_len] at hi; exact hi
      have hp := List.getElem?_eq_getElem hi2
      have := tkState_yes hA.k hp
      have e2 : z.S.getD i 0 = P[i].s := by rw [h1]; simp [sts, hi2]
      rw [← e2] at this
      exact this)
  clear hA hZ h1 h2
  generalize (stC z N).1 = x at *
  generalize (stC z N).2 = y at *
  go_enter Tryz.func70, Tryz.ntmps70
  go_wp2_with (first | (go_at_call 128; refine ht.out.mono ?_; rintro e w2 ⟨rfl, rfl⟩) | (go_at_call 129; refine hu.out.mono ?_; rintro e w2 ⟨rfl, rfl⟩))
  go_ret2
  exact ⟨rfl, rfl⟩
theorem step_ls (h : LAt B S w l P Q g f pl) (hZ : ZOk P Q f pl z.L G) (hg : g ≤ G) (h1 : z.S = sts P) (h2 : z.R = vls Q) {i : Nat} {p : Ck} (hp : P[i]? = some p) (hs : p.s ≠ 2) {tg : Int} (ht : tg ≠ 2) (hk : KAt B w' l.t (stepP P i tg g) (stepQ Q i tg g) (stepG tg g)) (hf : Fr l.t.F w w') :
    LS B S w' l (z.step i tg) (G + 1) ∧ FrL S w w' := by
  refine ⟨⟨_, _, _, f, pl, h.tasks hf hk, (hZ.step hp hs ht g).mono (by omega), ?_, ?_, ?_⟩, h.frk hf⟩
  · unfold stepG; split <;> omega
  · show z.S.set i tg = _
    rw [sts_step, h1]
  · show woR _ z.R ++ _ = _
    rw [vls_step, h2]
theorem pkStart_any (h : LS B S w l z G) (hG : G ≤ 800000000) (N : Int) : Calls Tryz.prog 75 #[.pointer (some ⟨l.a, 0, none⟩), .int .i64 N] w fun e w' => e = .returned (.int .i64 (stepC 0 z N).1) ∧ LS B S w' l (stepC 0 z N).2 (G + 1) ∧ FrL S w w' := by
  have HH := Lib.hid h
  obtain ⟨P, Q, g, f, pl, hA, hZ, hg, h1, h2⟩ := h
  have ht := Lib.hid (pkTable_yes hA)
  have hu : Hid (Calls Tryz.prog 135 #[.pointer (some ⟨l.t.t, 0, none⟩), .int .i64 N] w fun e w' => e = .returned (.int .i64 (stepC 0 z N).1) ∧ LS B S w' l (stepC 0 z N).2 (G + 1) ∧ FrL S w w') := Lib.hid (by
    rcases numI_or z N with ⟨e, hn⟩ | ⟨i, rfl, hi, e⟩
    · unfold stepC; rw [e]
      refine (tkStart_bad hA.k (by rw [h1, sts_len] at hn; exact hn)).mono ?_
      rintro e w' ⟨rfl, rfl⟩
      exact ⟨rfl, HH.out.mono (by omega), FrL.refl _ _⟩
    · unfold stepC; rw [e]
      have hi2 : i < P.length := by rw [h1, sts_len] at hi; exact hi
      have hp := List.getElem?_eq_getElem hi2
      have e2 : z.S.getD i 0 = P[i].s := by rw [h1]; simp [sts, hi2]
      simp only [e2]
      by_cases hs : P[i].s = frOf 0
      · rw [if_pos hs]
        refine (tkStart_yes hA.k hZ.rk (by omega) hp hs).mono ?_
        rintro e w' ⟨rfl, hk, hf⟩
        obtain ⟨a, b⟩ := step_ls hA hZ hg h1 h2 hp (by rw [hs]; decide) (tg := tgOf 0) (by decide) hk hf
        exact ⟨rfl, a, b⟩
      · rw [if_neg hs]
        refine (tkStart_state hA.k hp (fun e => hs e.symm)).mono ?_
        rintro e w' ⟨rfl, hgr⟩
        exact ⟨rfl, (HH.out.grown hgr.below).mono (by omega), FrL.of_below S hgr.below⟩)
  clear hA hZ h1 h2 hg
  obtain ⟨x, hx⟩ : ∃ x, x = (stepC 0 z N).1 := ⟨_, rfl⟩
  rw [← hx] at hu ⊢
  clear hx
  go_enter Tryz.func75, Tryz.ntmps75
  go_wp2_with (first | (go_at_call 128; refine ht.out.mono ?_; rintro e w2 ⟨rfl, rfl⟩) | (go_at_call 135; fail))
  refine hu.out.mono ?_
  rintro e w2 ⟨rfl, a, b⟩
  go_wp2_with fail
  go_ret
  exact ⟨rfl, a, b⟩
theorem pkFinish_any (h : LS B S w l z G) (hG : G ≤ 800000000) (N : Int) : Calls Tryz.prog 76 #[.pointer (some ⟨l.a, 0, none⟩), .int .i64 N] w fun e w' => e = .returned (.int .i64 (stepC 3 z N).1) ∧ LS B S w' l (stepC 3 z N).2 (G + 1) ∧ FrL S w w' := by
  have HH := Lib.hid h
  obtain ⟨P, Q, g, f, pl, hA, hZ, hg, h1, h2⟩ := h
  have ht := Lib.hid (pkTable_yes hA)
  have hu : Hid (Calls Tryz.prog 136 #[.pointer (some ⟨l.t.t, 0, none⟩), .int .i64 N] w fun e w' => e = .returned (.int .i64 (stepC 3 z N).1) ∧ LS B S w' l (stepC 3 z N).2 (G + 1) ∧ FrL S w w') := Lib.hid (by
    rcases numI_or z N with ⟨e, hn⟩ | ⟨i, rfl, hi, e⟩
    · unfold stepC; rw [e]
      refine (tkFinish_bad hA.k (by rw [h1, sts_len] at hn; exact hn)).mono ?_
      rintro e w' ⟨rfl, rfl⟩
      exact ⟨rfl, HH.out.mono (by omega), FrL.refl _ _⟩
    · unfold stepC; rw [e]
      have hi2 : i < P.length := by rw [h1, sts_len] at hi; exact hi
      have hp := List.getElem?_eq_getElem hi2
      have e2 : z.S.getD i 0 = P[i].s := by rw [h1]; simp [sts, hi2]
      simp only [e2]
      by_cases hs : P[i].s = frOf 3
      · rw [if_pos hs]
        refine (tkFinish_yes hA.k hZ.rk (by omega) hp hs).mono ?_
        rintro e w' ⟨rfl, hk, hf⟩
        obtain ⟨a, b⟩ := step_ls hA hZ hg h1 h2 hp (by rw [hs]; decide) (tg := tgOf 3) (by decide) hk hf
        exact ⟨rfl, a, b⟩
      · rw [if_neg hs]
        refine (tkFinish_state hA.k hp (fun e => hs e.symm)).mono ?_
        rintro e w' ⟨rfl, hgr⟩
        exact ⟨rfl, (HH.out.grown hgr.below).mono (by omega), FrL.of_below S hgr.below⟩)
  clear hA hZ h1 h2 hg
  obtain ⟨x, hx⟩ : ∃ x, x = (stepC 3 z N).1 := ⟨_, rfl⟩
  rw [← hx] at hu ⊢
  clear hx
  go_enter Tryz.func76, Tryz.ntmps76
  go_wp2_with (first | (go_at_call 128; refine ht.out.mono ?_; rintro e w2 ⟨rfl, rfl⟩) | (go_at_call 136; fail))
  refine hu.out.mono ?_
  rintro e w2 ⟨rfl, a, b⟩
  go_wp2_with fail
  go_ret
  exact ⟨rfl, a, b⟩
theorem pkTurn_any (h : LS B S w l z G) (hG : G ≤ 800000000) (N : Int) : Calls Tryz.prog 77 #[.pointer (some ⟨l.a, 0, none⟩), .int .i64 N] w fun e w' => e = .returned (.int .i64 (stepC 4 z N).1) ∧ LS B S w' l (stepC 4 z N).2 (G + 1) ∧ FrL S w w' := by
  have HH := Lib.hid h
  obtain ⟨P, Q, g, f, pl, hA, hZ, hg, h1, h2⟩ := h
  have ht := Lib.hid (pkTable_yes hA)
  have hu : Hid (Calls Tryz.prog 137 #[.pointer (some ⟨l.t.t, 0, none⟩), .int .i64 N] w fun e w' => e = .returned (.int .i64 (stepC 4 z N).1) ∧ LS B S w' l (stepC 4 z N).2 (G + 1) ∧ FrL S w w') := Lib.hid (by
    rcases numI_or z N with ⟨e, hn⟩ | ⟨i, rfl, hi, e⟩
    · unfold stepC; rw [e]
      refine (tkTurn_bad hA.k (by rw [h1, sts_len] at hn; exact hn)).mono ?_
      rintro e w' ⟨rfl, rfl⟩
      exact ⟨rfl, HH.out.mono (by omega), FrL.refl _ _⟩
    · unfold stepC; rw [e]
      have hi2 : i < P.length := by rw [h1, sts_len] at hi; exact hi
      have hp := List.getElem?_eq_getElem hi2
      have e2 : z.S.getD i 0 = P[i].s := by rw [h1]; simp [sts, hi2]
      simp only [e2]
      by_cases hs : P[i].s = frOf 4
      · rw [if_pos hs]
        refine (tkTurn_yes hA.k hZ.rk (by omega) hp hs).mono ?_
        rintro e w' ⟨rfl, hk, hf⟩
        obtain ⟨a, b⟩ := step_ls hA hZ hg h1 h2 hp (by rw [hs]; decide) (tg := tgOf 4) (by decide) hk hf
        exact ⟨rfl, a, b⟩
      · rw [if_neg hs]
        refine (tkTurn_state hA.k hp (fun e => hs e.symm)).mono ?_
        rintro e w' ⟨rfl, hgr⟩
        exact ⟨rfl, (HH.out.grown hgr.below).mono (by omega), FrL.of_below S hgr.below⟩)
  clear hA hZ h1 h2 hg
  obtain ⟨x, hx⟩ : ∃ x, x = (stepC 4 z N).1 := ⟨_, rfl⟩
  rw [← hx] at hu ⊢
  clear hx
  go_enter Tryz.func77, Tryz.ntmps77
  go_wp2_with (first | (go_at_call 128; refine ht.out.mono ?_; rintro e w2 ⟨rfl, rfl⟩) | (go_at_call 137; fail))
  refine hu.out.mono ?_
  rintro e w2 ⟨rfl, a, b⟩
  go_wp2_with fail
  go_ret
  exact ⟨rfl, a, b⟩
set_option maxHeartbeats 800000 in
theorem pkWhere_any (h : LS B S w l z G) (N : Int) : Calls Tryz.prog 71 #[.pointer (some ⟨l.a, 0, none⟩), .int .i64 N] w fun e w' => e = .returned (.tuple #[.agg #[.int .i64 (whC z N).1.1, .int .i64 (whC z N).1.2], .int .i64 (whC z N).2]) ∧ Grn w w' := by
  have HH := Lib.hid h
  have hb := below_alloc w (.cells #[.int .i64 0, .int .i64 0] 132)
  have hst := Lib.hid (pkState_any (h.grown hb) N)
  obtain ⟨P, Q, g, f, pl, hA, hZ, hg, h1, h2⟩ := h.grown hb
  obtain ⟨n, hm⟩ := hA.mp
  have hx0 := block_new w (.cells #[.int .i64 0, .int .i64 0] 132) _ rfl
  have x0 := cells_cell (o := 0) hx0 rfl
  have x1 := cells_cell (o := 1) hx0 rfl
  have f0 := cells_free hx0 0
  have f1 := cells_free hx0 1
  have xl := lt_of_block hx0
  have c2 := hA.ca2
  have al := hA.lt
  rcases numI_or z N with ⟨e, hn⟩ | ⟨i, rfl, hi, e⟩
  · unfold stC at hst; unfold whC
    simp only [e] at hst ⊢
    clear hA hZ h1 h2 hm hx0 hb
    go_enter Tryz.func71, Tryz.ntmps71
    go_wp2_with (go_at_call 70; refine hst.out.mono ?_; rintro e w2 ⟨rfl, rfl⟩)
    refine bodyPost_ret (v := .tuple #[.agg #[.int .i64 0, .int .i64 0], .int .i64 2]) (by simp [results, Tryz.results71, go_sem]) rfl ?_
    exact ⟨rfl, ((Grn.refl w).alloc _)⟩
  · unfold stC at hst
    simp only [e] at hst
    cases hs : seatOf z.L i with
    | none =>
      unfold whC
      simp only [e, hs]
      have hf : pl ((i : Nat) : Int) = none := hZ.p0 _ (fun j e2 => by have e3 : i = j := (by omega); subst e3; exact seatOf_none.1 hs)
      have l1 := MapAt.look_no TP_ok hm hf true
      simp only [if_true] at l1
      unfold TP at l1
      simp only at l1
      clear hA hZ h1 h2 hm hb e hs hf
      generalize z.S.getD i 0 = y at *
      go_enter Tryz.func71, Tryz.ntmps71
      go_wp2_with (go_at_call 70; refine hst.out.mono ?_; rintro e w2 ⟨rfl, rfl⟩)
      refine bodyPost_ret (v := .tuple #[.agg #[.int .i64 0, .int .i64 0], .int .i64 8]) (by simp [results, Tryz.results71, go_sem]) rfl ?_
      exact ⟨rfl, (((Grn.refl w).alloc _).alloc _)⟩
    | some s =>
      unfold whC
      simp only [e, hs]
      obtain ⟨k, d, hf, -, -⟩ := hZ.p1 i s ((seatOf_some hZ.nd).1 hs)
      have l1 := MapAt.look_yes TP_ok hm hf true
      simp only [if_true] at l1
      unfold TP Pl.enc at l1
      simp only at l1
      obtain ⟨a, b⟩ := s
      simp only at l1 ⊢
      clear hA hZ h1 h2 hm hb e hs hf
      generalize z.S.getD i 0 = y at *
      go_enter Tryz.func71, Tryz.ntmps71
      go_wp2_with (go_at_call 70; refine hst.out.mono ?_; rintro e w2 ⟨rfl, rfl⟩)
      refine bodyPost_ret (v := .tuple #[.agg #[.int .i64 a, .int .i64 b], .int .i64 0]) (by simp [results, Tryz.results71, go_sem]) rfl ?_
      exact ⟨rfl, ((Grn.refl w).alloc _).alloc _⟩
end
end Go.Proofs.YtcjeckjmoponkaaGreatDoor
/- Ready and Waiting of a lot. -/
namespace Go.Proofs.YtcjeckjmoponkaaGreatDoor
open Go.RowKit Go.Sort Go.Shelf Go.MapKept
set_option linter.unusedVariables false
set_option linter.unusedSimpArgs false
attribute [local go_sem] Oper.semAt_some

section
variable {B : Nat} {S : Nat → Prop} {w w' : World} {l : Ll} {z : Zt} {G : Nat} {s : Sp}
/-- A queue, or none. -/
def QV (w : World) (v : Value) (L : Qu) : Prop := (∃ q b m g, v = .pointer (some ⟨q, 0, none⟩) ∧ QAt w q b m L g ∧ g ≤ 1000000000) ∨ (v = .pointer none ∧ L = [])
theorem QV.grown {v : Value} {L : Qu} (h : QV w v L) (hb : Below w.heap.size w w') : QV w' v L := by
  rcases h with ⟨q, b, m, g, e, hq, hg⟩ | h
  · exact .inl ⟨q, b, m, g, e, hq.grown hb, hg⟩
  · exact .inr h
theorem QV.len {v : Value} {L : Qu} (h : QV w v L) : L.length ≤ 1000000000 := by
  rcases h with ⟨q, b, m, g, e, hq, hg⟩ | ⟨e, rfl⟩
  · have := hq.inc.len; have := hq.le; omega
  · simp
theorem qv_all {v : Value} {L : Qu} (h : QV w v L) (F : List Nat) (hF : ∀ x ∈ F, x < w.heap.size) : Calls Tryz.prog 187 #[v] w fun e w' => ∃ B, e = .returned (seqV B) ∧ SeqAt w' F B L ∧ Below w.heap.size w w' := by
  rcases h with ⟨q, b, m, g, rfl, hq, hg⟩ | ⟨rfl, rfl⟩
  · exact fiAll_any hq hg F hF
  · exact fiAll_nil (.inl rfl) F hF
theorem pkQueue_qv (h : LS B S w l z G) (hG : G ≤ 1000000) (hs : SpOk s) : Calls Tryz.prog 118 #[.pointer (some ⟨l.a, 0, none⟩), .agg #[.int .i64 s.1, .int .i64 s.2]] w fun e w' => ∃ a L, e = .returned (.tuple #[.pointer a, .int .i64 0]) ∧ QV w' (.pointer a) L ∧ L.map Prod.snd = cat (wt s z.L) ∧ Grn w w' := by
  obtain ⟨P, Q, g, f, pl, hA, hZ, hg, h1, h2⟩ := h
  cases hf : f s with
  | none =>
    refine (pkQueue_none hA hs hf).mono ?_
    rintro e w' ⟨rfl, hgr⟩
    exact ⟨_, [], rfl, .inr ⟨rfl, rfl⟩, by rw [hZ.q0 s hf]; rfl, hgr⟩
  | some d =>
    refine (pkQueue_some hA hs hf).mono ?_
    rintro e w' ⟨rfl, hgr⟩
    obtain ⟨a, b, c⟩ := hZ.qf s d hf
    exact ⟨_, d.L, rfl, .inl ⟨d.q, d.b, d.m, d.g, rfl, (hA.qs s d hf).grown hgr.below, by omega⟩, b, hgr⟩

set_option maxRecDepth 100000 in
set_option maxHeartbeats 3200000 in
theorem pkWaiting_yes (h : LS B S w l z G) (hG : G ≤ 1000000) (hs : SpOk s) :
    Calls Tryz.prog 168 #[.pointer (some ⟨l.a, 0, none⟩), .agg #[.int .i64 s.1, .int .i64 s.2]] w fun e w' => ∃ v, e = .returned (.tuple #[v, .int .i64 0]) ∧ Row TI w' w.heap.size v (cat (wt s z.L)) ∧ Below w.heap.size w w' := by
  have hq := Lib.hid (pkQueue_qv (h.grown (below_alloc w (.cells #[.int .i64 s.1, .int .i64 s.2] 132))) hG hs)
  have hln : Hid ((wt s z.L).length ≤ 64) := Lib.hid (by have := h.zk.l; unfold wt; rw [List.length_map]; exact Nat.le_trans (List.length_filter_le _ _) this)
  clear h hs
  generalize s.1 = sa at *
  generalize s.2 = sb at *
  generalize wt s z.L = WT at *
  refine calls_marks Tryz.func168 rfl ?_
  simp only [Tryz.ntmps168, List.size_toArray, List.length_cons, List.length_nil, Nat.reduceAdd, Nat.reduceSub, Array.replicate_succ, Array.replicate_zero, List.push_toArray, List.append_toArray, List.nil_append, List.cons_append]
  go_wp2_with (go_at_call 118; fail)
  refine hq.out.mono ?_
  rintro e w2 ⟨qa, Q, rfl, hv, hL, hgq⟩
  have HL0 := Lib.hid hL
  have HV0 := Lib.hid (hv.grown (below_alloc w2 (.cells #[.slice none 0 0] 36)))
  have HQL : Hid (Q.length ≤ 64) := Lib.hid (by have := congrArg List.length hL; simp [cat] at this; have := hln.out; omega)
  have HB2 := Lib.hid (((Grn.refl w).alloc (.cells #[.int .i64 sa, .int .i64 sb] 132)).trans hgq).below
  clear hv hL hgq hq
  go_wp2_with (go_at_call 187; fail)
  have hz0 := block_new w2 (.cells #[.slice none 0 0] 36) _ rfl
  refine (qv_all HV0.out [w2.heap.size] (by simp)).mono ?_
  rintro e w1 ⟨X, rfl, hS1, hb1⟩
  have HS1 := Lib.hid hS1
  have HZ1 := Lib.hid ((hb1.block _ (lt_of_block hz0)).trans hz0)
  have HB1 := Lib.hid ((below_alloc w2 (.cells #[.slice none 0 0] 36)).trans (hb1.mono (by simp)))
  have HL1 : Hid (w2.heap.size < w1.heap.size) := Lib.hid (by have := hb1.size; simp at this; omega)
  have HWB := Lib.hid (HB2.out.trans (HB1.out.mono HB2.out.size))
  have HWS := Lib.hid HB2.out.size
  clear hS1 hb1 hz0 HV0 hln HB2
  generalize hz : w2.heap.size = z at *
  have HZE := Lib.hid hz
  clear hz
  unfold seqV
  go_wp2_with fail
  refine (wpIn_wide (n := 6)).1 ?_
  refine range_vals (n := 6) (B := X) (Fs := [z]) (L := Q) (by omega) rfl HS1.out rfl
    (fun k W' => Below z w1 W' ∧ ∃ v, W'.heap[z]? = some (.cells #[v] 36 (0, 0)) ∧ Row TI W' w1.heap.size v ((Q.map Prod.snd).take k))
    (fun _ _ _ => False) ?hI ?hIx ?h0 ?round ?done ?stop
  case hI =>
    rintro k A A' row ⟨hb, v, h1, h2⟩ hg hr
    refine ⟨hb.grown hg (by have := hb.size; have := HL1.out; omega) (fun r e => by have := (hr r e).1; have := HL1.out; omega), v, (hg.block _ (lt_of_block h1) (fun e => by have := (hr _ e.symm).1; have := HL1.out; omega)).trans h1, h2.own hg hr⟩
  case hIx => exact fun _ _ _ _ _ h _ _ => h
  case h0 => exact ⟨Below.refl _ _, _, HZ1.out, Row.nil _ _⟩
  case stop => exact fun _ _ _ _ _ _ h _ => h.elim
  case done =>
    rintro D W' hD ⟨hbw, v, hcell, hout⟩ hK
    rw [← List.length_map (f := Prod.snd), List.take_length, HL0.out] at hout
    have HK := Lib.hid hK
    have HD := Lib.hid hD
    have c0 := cells_cell (o := 0) hcell rfl
    have hzl := lt_of_block hcell
    obtain ⟨va, vn, vc, rfl⟩ := row_form hout
    have HOUT := Lib.hid hout
    have HBW := Lib.hid (HWB.out.trans (hbw.mono HWS.out))
    clear hbw hcell hout hK hD
    simp only [Exit.inBlock, Exit.then]
    go_at_K
    go_wp2_with fail
    have hKF := HK.out
    have hlw : w.heap.size ≤ w1.heap.size := HWB.out.size
    refine ⟨by simp, .inl ⟨_, _, rfl, run_takeDeferred hKF, ?_⟩⟩
    refine ⟨.tuple #[.slice va vn vc, .int .i64 0], by simp [results, Tryz.results168, go_sem], _, rfl, ?_, ?_⟩
    · refine Row.own (B := D) (row := some D) (HOUT.out.lower hlw) (grownBy_putObj' _ _ _) (fun r e => ?_)
      cases e
      exact ⟨Nat.le_refl _, _, hKF, rfl⟩
    · exact HBW.out.trans ((belowK_b (w := w1) (Nat.le_refl _) W' D _ _ HD.out hKF rfl rfl).mono hlw)
  case round =>
    rintro l2 n x W' hl hp hlets ⟨hbw, v, hcell, hout⟩
    gi_wp2
    refine ⟨trivial, ?_⟩
    clear hbw hcell hout hlets
    rintro W2 hlets ⟨hbw, v, hcell, hout⟩
    obtain ⟨va, vn, vc, rfl⟩ := row_form hout
    have c0 := cells_cell (o := 0) hcell rfl
    have f0 := cells_free hcell 0
    have hzl := lt_of_block hcell
    have hnl := (List.getElem?_eq_some_iff.1 hp).1
    have hxn := (List.getElem?_eq_some_iff.1 hp).2
    have htk : Hid ((Q.map Prod.snd).take (n + 1) = (Q.map Prod.snd).take n ++ [x.2]) := Lib.hid (by
      rw [List.take_succ_eq_append_getElem (by simpa using hnl)]
      congr 2
      rw [List.getElem_map, hxn])
    have hba := below_alloc W2 (.cells #[.int .i64 x.2] 3)
    have hrowA := Lib.hid (hout.below hba)
    have HOBJ := Lib.hid hout.obj
    have HB := Lib.hid hbw
    have HC := Lib.hid hcell
    have HL := Lib.hid hlets
    have HN := Lib.hid hnl
    clear hbw hcell hout hlets hp hnl hxn
    gi_wp2_with (gi_at_builtin; refine wpListIn_append_g TI_ok rfl (.tmp 24) (.tmp 26) rfl rfl rfl hrowA.out (by have := HL.out.size; simp; omega) (src_new TI_ok W2 x.2 #[.int .i64 x.2] rfl) (by have := HQL.out; have := HN.out; simp; omega) ?_)
    intro v' w3 ho hf hn
    rw [← htk.out] at ho
    obtain ⟨va', vn', vc', rfl⟩ := row_form ho
    have hC0 := (hba.block _ hzl).trans HC.out
    obtain ⟨g1, g2, g3⟩ := boxed_append hC0 (by decide) hrowA.out ho hf HL1.out
    have hfr := ((Fr.of_below hba (z :: (Value.slice va vn vc).ownBlock.toList)).trans' (hf.mono (fun y hy => .inl (List.mem_cons_of_mem _ hy)))).trans' ((fr_setCell w3 ⟨z, 0, none⟩ (.slice va' vn' vc')).mono (fun y hy => .inl (by simp at hy; subst hy; exact List.mem_cons_self)))
    have hold : ∀ y ∈ z :: (Value.slice va vn vc).ownBlock.toList, y = z ∨ w1.heap.size ≤ y := fun y hy => by
      rcases List.mem_cons.1 hy with h | h
      · exact .inl h
      · exact .inr (hrowA.out.lt y (by simpa using h)).1
    have HG2 := Lib.hid g2
    have HG3 := Lib.hid g3
    have HKF : Hid (KeepsFrom w1.heap.size W2 (w3.setCell ⟨z, 0, none⟩ (.slice va' vn' vc'))) := Lib.hid (keepsFrom_fr hfr (fun y hy => by
      rcases List.mem_cons.1 hy with rfl | h
      · exact ⟨_, HC.out, rfl⟩
      · exact HOBJ.out y (by simpa using h)))
    have HLT : Hid (Lets [z] w1.heap.size W2 (w3.setCell ⟨z, 0, none⟩ (.slice va' vn' vc'))) := Lib.hid ⟨hfr.size, fun k hk hn => hfr.block k (by have := HL.out.size; omega) (fun hm => by
      rcases hold k hm with h | h
      · exact hn (by simp [h])
      · omega)⟩
    have HBB : Hid (Below z w1 (w3.setCell ⟨z, 0, none⟩ (.slice va' vn' vc'))) := Lib.hid (HB.out.trans (hfr.below (fun y hy => by rcases hold y hy with h | h <;> have := HL1.out <;> omega) (by omega)))
    have c0 := cells_cell (o := 0) g1 rfl
    have f0 := cells_free g1 0
    have hzl := lt_of_block g1
    clear ho hf hn hC0 g1 g2 g3 hfr hold hba hrowA
    gi_wp2
    exact ⟨HKF.out, HLT.out, HBB.out, _, HG2.out, HG3.out⟩
theorem pkWaiting_bad (h : LS B S w l z G) (hs : ¬ SpOk s) :
    Calls Tryz.prog 168 #[.pointer (some ⟨l.a, 0, none⟩), .agg #[.int .i64 s.1, .int .i64 s.2]] w fun e w' => e = .returned (.tuple #[.slice none 0 0, .int .i64 2]) ∧ Grn w w' := by
  obtain ⟨P, Q, g, f, pl, hA, -⟩ := h
  have hq := Lib.hid (pkQueue_bad (hA.grown (below_alloc w (.cells #[.int .i64 s.1, .int .i64 s.2] 132))) hs)
  clear hA hs
  generalize s.1 = sa at *
  generalize s.2 = sb at *
  go_enter Tryz.func168, Tryz.ntmps168
  go_wp2_with (go_at_call 118; refine hq.out.mono ?_; rintro e w2 ⟨rfl, hg⟩)
  go_ret2
  exact ⟨rfl, ((Grn.refl w).alloc _).trans hg⟩
theorem pkWaiting_any (h : LS B S w l z G) (hG : G ≤ 1000000) (s : Sp) :
    Calls Tryz.prog 168 #[.pointer (some ⟨l.a, 0, none⟩), .agg #[.int .i64 s.1, .int .i64 s.2]] w fun e w' => ∃ v, e = .returned (.tuple #[v, .int .i64 (waC z s).2]) ∧ Row TI w' w.heap.size v (waC z s).1 ∧ Below w.heap.size w w' := by
  unfold waC
  by_cases hs : SpOk s
  · rw [if_pos hs]; exact pkWaiting_yes h hG hs
  · rw [if_neg hs]
    refine (pkWaiting_bad h hs).mono ?_
    rintro e w' ⟨rfl, hg⟩
    exact ⟨_, rfl, Row.nil _ _, hg.below⟩
end
end Go.Proofs.YtcjeckjmoponkaaGreatDoor
/- Park. -/
namespace Go.Proofs.YtcjeckjmoponkaaGreatDoor
open Go.RowKit Go.Sort Go.MapKept
set_option linter.unusedVariables false
set_option linter.unusedSimpArgs false

theorem updG_same {κ ν : Type} [DecidableEq κ] (f : κ → Option ν) (k : κ) (x : Option ν) : updG f k x k = x := by simp [updG]
theorem updG_twice {κ ν : Type} [DecidableEq κ] (f : κ → Option ν) (k : κ) (x y : Option ν) : updG (updG f k x) k y = updG f k y := by
  funext j
  unfold updG
  by_cases h : j = k <;> simp [h]
theorem wt_len (s : Sp) (L : Seats) : (wt s L).length ≤ L.length := by unfold wt; rw [List.length_map]; exact List.length_filter_le _ _
section
variable {B : Nat} {S : Nat → Prop} {w w' : World} {l : Ll} {P : Ks} {Q : Qu} {g i : Nat} {f : Sp → Option Qd} {pl : Int → Option Pl} {z : Zt} {G : Nat} {s : Sp} {p : Ck}
theorem ZOk.dl {L : Seats} (h : ZOk P Q f pl L G) (hl : P.length ≤ 64) {d : Qd} (hd : f s = some d) : d.L.length ≤ 64 := by
  have h1 := congrArg List.length (h.qf s d hd).2.1
  have h2 := wt_len s L
  have h3 : (cat (L.map Prod.fst)).length ≤ P.length := nodup_len _ _ (cat_nodup h.nd) (fun x hx => by
    unfold cat at hx
    obtain ⟨i, hi, rfl⟩ := List.mem_map.1 hx
    exact ⟨i, rfl, h.inP i hi⟩)
  simp [cat] at h1 h3
  omega
/-- A new queue at a spot. -/
theorem LAt.newQueue {w2 w3 : World} (hA : LAt B S w l P Q g f pl) (hf : f s = none) {q b m n : Nat} (hq : QAt w2 q b m [] 0) (hg : Grn w w2) (k1 : w.heap.size ≤ q) (k2 : w.heap.size ≤ b) (k3 : w.heap.size ≤ m)
    (hm : MapAt TQ w3 l.mq n (updG (fun s => (f s).map (·.q)) s (some q))) (hfr : Fr [l.mq] w2 w3) : LAt B S w3 l P Q g (updG f s (some ⟨q, b, m, [], 0⟩)) pl := by
  have hA2 := hA.grown hg.below
  have cases' : ∀ t x, updG f s (some ⟨q, b, m, [], 0⟩) t = some x → (t = s ∧ x = ⟨q, b, m, [], 0⟩) ∨ (t ≠ s ∧ f t = some x) := fun t x hx => by
    unfold updG at hx
    by_cases e : t = s
    · rw [if_pos e] at hx; cases hx; exact .inl ⟨e, rfl⟩
    · rw [if_neg e] at hx; exact .inr ⟨e, hx⟩
  have hlm := hA.lmq
  have hlp := hA.lmp
  have htb := hA.k.qa.lb
  have htm := hA.k.qa.lm
  refine hA2.queues hfr (hm.congr (fun t => ?_)) (fun t x hx => ?_) (fun t t' x x' hx hx' hne => ?_)
  · unfold updG
    by_cases e : t = s <;> simp [e]
  · rcases cases' t x hx with ⟨e, rfl⟩ | ⟨e, hx⟩
    · refine .inr ⟨hq.fr hfr ?_ ?_ ?_, ⟨by simp only; omega, by simp only; omega, by simp only; omega, by simp only; omega⟩, hA.up _ k1, hA.up _ k2, hA.up _ k3⟩ <;> simp <;> omega
    · exact .inl hx
  · rcases cases' t x hx with ⟨e1, e2⟩ | ⟨e, hy⟩
    · rcases cases' t' x' hx' with ⟨e3, e4⟩ | ⟨e', hy'⟩
      · exact absurd (e1.trans e3.symm) hne
      · subst e2
        have h1 := (hA.qs t' x' hy').lb
        have h2 := (hA.qs t' x' hy').lm
        simp only
        omega
    · rcases cases' t' x' hx' with ⟨e3, e4⟩ | ⟨e', hy'⟩
      · subst e4
        have h1 := (hA.qs t x hy).lb
        have h2 := (hA.qs t x hy).lm
        simp only
        omega
      · exact hA.ap t t' x x' hy hy' hne

set_option maxRecDepth 100000 in
set_option maxHeartbeats 3200000 in
theorem pkPark_some (h : LAt B S w l P Q g f pl) (hZ : ZOk P Q f pl z.L G) (hg : g ≤ G) (hG : G ≤ 1000000) (hs : SpOk s) {d : Qd} (hd : f s = some d) (hp : P[i]? = some p) (hs1 : p.s = 1) :
    Calls Tryz.prog 74 #[.pointer (some ⟨l.a, 0, none⟩), .int .i64 ((i : Nat) : Int), .agg #[.int .i64 s.1, .int .i64 s.2]] w fun e w' => e = .returned (.int .i64 0) ∧ LAt B S w' l (stepP P i 2 g) (stepQ Q i 2 g) g (updG f s (some ⟨d.q, d.b, d.m, d.L ++ [(d.g + 1, ((i : Nat) : Int))], d.g + 1⟩)) (updG pl ((i : Nat) : Int) (some ⟨s, d.g + 1⟩)) ∧ FrL S w w' := by
  have hb0 := below_alloc w (.cells #[.int .i64 s.1, .int .i64 s.2] 132)
  have hx0 := block_new w (.cells #[.int .i64 s.1, .int .i64 s.2] 132) _ rfl
  have HX0 := Lib.hid hx0
  have HA0 := Lib.hid (h.grown hb0)
  have HF0 := Lib.hid (FrL.of_below S hb0)
  have hq := Lib.hid (pkQueue_some HA0.out hs hd)
  have HZ := Lib.hid hZ
  have HD := Lib.hid hd
  have HP := Lib.hid hp
  have HS1 := Lib.hid hs1
  have HGG := Lib.hid (And.intro hg hG)
  have HDL := Lib.hid (hZ.dl h.k.n2 hd)
  have HDG := Lib.hid (hZ.qf s d hd).2.2
  obtain ⟨sa, sb⟩ := s
  simp only at hq HX0 HA0 HF0 ⊢
  clear h hZ hg hG hs hd hp hs1 hb0 hx0
  go_enter Tryz.func74, Tryz.ntmps74
  go_wp2_with (go_at_call 118; fail)
  refine hq.out.mono ?_
  rintro e w1 ⟨rfl, hg1⟩
  have HA1 := Lib.hid (HA0.out.grown hg1.below)
  have HF1 := Lib.hid (HF0.out.trans (FrL.of_below S hg1.below))
  have HX1 := Lib.hid ((hg1.below.block _ (lt_of_block HX0.out)).trans HX0.out)
  have c0 := HA1.out.ca0
  have al := HA1.out.lt
  clear hg1 hq HX0 HA0 HF0
  generalize w.heap.size = zz at *
  go_wp2_with (go_at_call 132; fail)
  refine (tkPark_yes HA1.out.k HZ.out.rk (by have := HGG.out; omega) HP.out HS1.out).mono ?_
  rintro e w2 ⟨rfl, hk2, hf2⟩
  have HA2 := Lib.hid (HA1.out.tasks hf2 hk2)
  have HF2 := Lib.hid (HF1.out.trans (HA1.out.frk hf2))
  have HX2 := Lib.hid ((HA1.out.frk hf2).block HX1.out (by decide) (by decide))
  clear hk2 hf2 c0 al HA1 HF1 HX1
  go_wp2_with (go_at_call 134; fail)
  refine (fiPush_yes (HA2.out.qs _ d HD.out) (by have := HDL.out; omega) (by have := HDG.out; have := HGG.out; omega) ((i : Nat) : Int)).mono ?_
  rintro e w4 ⟨rfl, hq4, hf4⟩
  have HA4 := Lib.hid (HA2.out.queue HD.out hf4 hq4)
  have HF4 := Lib.hid (HF2.out.trans (HA2.out.frq HD.out hf4))
  have HX4 := Lib.hid ((HA2.out.frq HD.out hf4).block HX2.out (by decide) (by decide))
  clear hq4 hf4 HA2 HF2 HX2
  have c2 := HA4.out.ca2
  have al := HA4.out.lt
  have x0 := cells_cell (o := 0) HX4.out rfl
  have x1 := cells_cell (o := 1) HX4.out rfl
  have xl := lt_of_block HX4.out
  go_wp2_with fail
  go_still_tail 8, (by kernel_rfl)
  change wpList _ _ _ _ _ (w4.drewN 1)
  obtain ⟨n2, hm⟩ := HA4.out.mp
  have HM : Hid (MapAt TP (w4.drewN 1) l.mp n2 pl) := Lib.hid (hm.same rfl)
  clear hm
  go_wp2_with (at_mapUpdate; refine wpList_putG TP_ok rfl _ _ _ rfl HM.out ((i : Nat) : Int) ⟨(sa, sb), d.g + 1⟩ rfl rfl rfl ?_; intro w6 hm6 hf6 hs6; refine Hid.out ?_)
  have hd1 : Grn w4 (w4.drewN 1) := (Grn.refl w4).drew 1
  have hA41 := HA4.out.grown hd1.below
  have HA6 := Lib.hid (hA41.places hf6 hm6)
  have HF6 := Lib.hid (HF4.out.trans ((FrL.of_below S hd1.below).trans (hA41.frmp hf6)))
  clear hm6 hf6 hs6 hd1 hA41 HM c2 al x0 x1 xl HA4 HF4 HX4
  refine Lib.hid ?_
  go_wp2_with fail
  go_ret
  exact ⟨rfl, HA6.out, HF6.out⟩
set_option maxRecDepth 100000 in
set_option maxHeartbeats 3200000 in
theorem pkPark_none (h : LAt B S w l P Q g f pl) (hZ : ZOk P Q f pl z.L G) (hg : g ≤ G) (hG : G ≤ 1000000) (hs : SpOk s) (hd : f s = none) (hp : P[i]? = some p) (hs1 : p.s = 1) :
    Calls Tryz.prog 74 #[.pointer (some ⟨l.a, 0, none⟩), .int .i64 ((i : Nat) : Int), .agg #[.int .i64 s.1, .int .i64 s.2]] w fun e w' => e = .returned (.int .i64 0) ∧ (∃ q b m, LAt B S w' l (stepP P i 2 g) (stepQ Q i 2 g) g (updG f s (some ⟨q, b, m, [] ++ [(0 + 1, ((i : Nat) : Int))], 0 + 1⟩)) (updG pl ((i : Nat) : Int) (some ⟨s, 0 + 1⟩))) ∧ FrL S w w' := by
  have hb0 := below_alloc w (.cells #[.int .i64 s.1, .int .i64 s.2] 132)
  have hx0 := block_new w (.cells #[.int .i64 s.1, .int .i64 s.2] 132) _ rfl
  have HX0 := Lib.hid hx0
  have HA0 := Lib.hid (h.grown hb0)
  have HF0 := Lib.hid (FrL.of_below S hb0)
  have hq := Lib.hid (pkQueue_none HA0.out hs hd)
  have HZ := Lib.hid hZ
  have HD := Lib.hid hd
  have HP := Lib.hid hp
  have HS1 := Lib.hid hs1
  have HGG := Lib.hid (And.intro hg hG)
  obtain ⟨sa, sb⟩ := s
  simp only at hq HX0 HA0 HF0 ⊢
  clear h hZ hg hG hs hd hp hs1 hb0 hx0
  go_enter Tryz.func74, Tryz.ntmps74
  go_wp2_with (go_at_call 118; fail)
  refine hq.out.mono ?_
  rintro e w1 ⟨rfl, hg1⟩
  have HA1 := Lib.hid (HA0.out.grown hg1.below)
  have HF1 := Lib.hid (HF0.out.trans (FrL.of_below S hg1.below))
  have HX1 := Lib.hid ((hg1.below.block _ (lt_of_block HX0.out)).trans HX0.out)
  have c0 := HA1.out.ca0
  have al := HA1.out.lt
  clear hg1 hq HX0 HA0 HF0
  generalize w.heap.size = zz at *
  go_wp2_with (go_at_call 132; fail)
  refine (tkPark_yes HA1.out.k HZ.out.rk (by have := HGG.out; omega) HP.out HS1.out).mono ?_
  rintro e w2 ⟨rfl, hk2, hf2⟩
  have HA2 := Lib.hid (HA1.out.tasks hf2 hk2)
  have HF2 := Lib.hid (HF1.out.trans (HA1.out.frk hf2))
  have HX2 := Lib.hid ((HA1.out.frk hf2).block HX1.out (by decide) (by decide))
  clear hk2 hf2 c0 al HA1 HF1 HX1
  go_wp2_with (go_at_call 133; fail)
  refine (fiNew_any w2).mono ?_
  rintro e w3 ⟨q, b, m, rfl, hq3, hg3, k1, k2, k3⟩
  have HA2b := Lib.hid (HA2.out.grown hg3.below)
  have HX3 := Lib.hid ((hg3.below.block _ (lt_of_block HX2.out)).trans HX2.out)
  have HQ3 := Lib.hid (And.intro hq3 (And.intro hg3 (And.intro k1 (And.intro k2 k3))))
  have HF3 := Lib.hid (HF2.out.trans (FrL.of_below S hg3.below))
  clear hq3 hg3 k1 k2 k3
  have c1 := HA2b.out.ca1
  have al := HA2b.out.lt
  have x0 := cells_cell (o := 0) HX3.out rfl
  have x1 := cells_cell (o := 1) HX3.out rfl
  have xl := lt_of_block HX3.out
  go_wp2_with fail
  go_still_tail 6, (by kernel_rfl)
  change wpList _ _ _ _ _ (w3.drewN 1)
  obtain ⟨n, hm⟩ := HA2b.out.mq
  have HM : Hid (MapAt TQ (w3.drewN 1) l.mq n (fun t => (f t).map (·.q))) := Lib.hid (hm.same rfl)
  clear hm
  go_wp2_with (at_mapUpdate; refine wpList_putG TQ_ok rfl _ _ _ rfl HM.out (sa, sb) q rfl rfl rfl ?_; intro w4 hm4 hf4 hs4; refine Hid.out ?_)
  have hd1 : Grn w3 (w3.drewN 1) := (Grn.refl w3).drew 1
  have hq31 := HQ3.out.1.grown hd1.below
  have HA4 := Lib.hid (HA2.out.newQueue HD.out hq31 (HQ3.out.2.1.trans hd1) HQ3.out.2.2.1 HQ3.out.2.2.2.1 HQ3.out.2.2.2.2 hm4 hf4)
  have hA31 := HA2b.out.grown hd1.below
  have HF4 := Lib.hid (HF3.out.trans ((FrL.of_below S hd1.below).trans (hA31.frmq hf4)))
  have HX4 := Lib.hid ((hA31.frmq hf4).block ((hd1.below.block _ (lt_of_block HX3.out)).trans HX3.out) (by decide) (by decide))
  clear hm4 hf4 hs4 hd1 hq31 hA31 HM HA2 HF2 HX2 HQ3 HF3 HX3 HA2b c1 al x0 x1 xl
  refine Lib.hid ?_
  go_wp2_with (go_at_call 134; fail)
  refine (fiPush_yes (HA4.out.qs _ _ (updG_same _ _ _)) (by simp) (by simp) ((i : Nat) : Int)).mono ?_
  rintro e w5 ⟨rfl, hq5, hf5⟩
  have hA5 := HA4.out.queue (updG_same _ _ _) hf5 hq5
  rw [updG_twice] at hA5
  have HF5 := Lib.hid (HF4.out.trans (HA4.out.frq (updG_same _ _ _) hf5))
  have HX5 := Lib.hid ((HA4.out.frq (updG_same _ _ _) hf5).block HX4.out (by decide) (by decide))
  have HA5 := Lib.hid hA5
  clear hq5 hf5 hA5 HA4 HF4 HX4
  generalize w5 = w4 at *
  have HA4 := HA5
  have HF4 := HF5
  have HX4 := HX5
  clear HA5 HF5 HX5
  have c2 := HA4.out.ca2
  have al := HA4.out.lt
  have x0 := cells_cell (o := 0) HX4.out rfl
  have x1 := cells_cell (o := 1) HX4.out rfl
  have xl := lt_of_block HX4.out
  go_wp2_with fail
  go_still_tail 8, (by kernel_rfl)
  change wpList _ _ _ _ _ (w4.drewN 1)
  obtain ⟨n2, hm⟩ := HA4.out.mp
  have HM : Hid (MapAt TP (w4.drewN 1) l.mp n2 pl) := Lib.hid (hm.same rfl)
  clear hm
  go_wp2_with (at_mapUpdate; refine wpList_putG TP_ok rfl _ _ _ rfl HM.out ((i : Nat) : Int) ⟨(sa, sb), 0 + 1⟩ rfl rfl rfl ?_; intro w6 hm6 hf6 hs6; refine Hid.out ?_)
  have hd1 : Grn w4 (w4.drewN 1) := (Grn.refl w4).drew 1
  have hA41 := HA4.out.grown hd1.below
  have HA6 := Lib.hid (hA41.places hf6 hm6)
  have HF6 := Lib.hid (HF4.out.trans ((FrL.of_below S hd1.below).trans (hA41.frmp hf6)))
  clear hm6 hf6 hs6 hd1 hA41 HM c2 al x0 x1 xl HA4 HF4 HX4
  refine Lib.hid ?_
  go_wp2_with fail
  go_ret
  exact ⟨rfl, ⟨_, _, _, HA6.out⟩, HF6.out⟩

theorem pkQueue_ok (h : LAt B S w l P Q g f pl) (hs : SpOk s) : ∃ a, Calls Tryz.prog 118 #[.pointer (some ⟨l.a, 0, none⟩), .agg #[.int .i64 s.1, .int .i64 s.2]] w fun e w' => e = .returned (.tuple #[.pointer a, .int .i64 0]) ∧ Grn w w' := by
  cases hf : f s with
  | none => exact ⟨_, pkQueue_none h hs hf⟩
  | some d => exact ⟨_, pkQueue_some h hs hf⟩
theorem pkPark_err (h : LAt B S w l P Q g f pl) (hs : SpOk s) {C : Int} (hC : C ≠ 0) (N : Int) (hu : ∀ W, LAt B S W l P Q g f pl → Calls Tryz.prog 132 #[.pointer (some ⟨l.t.t, 0, none⟩), .int .i64 N] W fun e w' => e = .returned (.int .i64 C) ∧ Grn W w') :
    Calls Tryz.prog 74 #[.pointer (some ⟨l.a, 0, none⟩), .int .i64 N, .agg #[.int .i64 s.1, .int .i64 s.2]] w fun e w' => e = .returned (.int .i64 C) ∧ Grn w w' := by
  have hb0 := below_alloc w (.cells #[.int .i64 s.1, .int .i64 s.2] 132)
  have HA0 := Lib.hid (h.grown hb0)
  obtain ⟨qa, hq⟩ := pkQueue_ok HA0.out hs
  have hq := Lib.hid hq
  have hu := Lib.hid hu
  have e1 : (C != 0) = true := by simpa using hC
  generalize s.1 = sa at *
  generalize s.2 = sb at *
  clear h hs hC hb0
  go_enter Tryz.func74, Tryz.ntmps74
  go_wp2_with (go_at_call 118; fail)
  refine hq.out.mono ?_
  rintro e w1 ⟨rfl, hg1⟩
  have HA1 := Lib.hid (HA0.out.grown hg1.below)
  have HG1 := Lib.hid (((Grn.refl w).alloc (.cells #[.int .i64 sa, .int .i64 sb] 132)).trans hg1)
  have c0 := HA1.out.ca0
  have al := HA1.out.lt
  clear hg1 hq HA0
  go_wp2_with (go_at_call 132; fail)
  refine (hu.out _ HA1.out).mono ?_
  rintro e w2 ⟨rfl, hg2⟩
  go_wp2_with fail
  go_ret
  exact ⟨rfl, HG1.out.trans hg2⟩
theorem pkPark_bad (h : LAt B S w l P Q g f pl) (hs : ¬ SpOk s) (N : Int) :
    Calls Tryz.prog 74 #[.pointer (some ⟨l.a, 0, none⟩), .int .i64 N, .agg #[.int .i64 s.1, .int .i64 s.2]] w fun e w' => e = .returned (.int .i64 2) ∧ Grn w w' := by
  have hq := Lib.hid (pkQueue_bad (h.grown (below_alloc w (.cells #[.int .i64 s.1, .int .i64 s.2] 132))) hs)
  generalize s.1 = sa at *
  generalize s.2 = sb at *
  clear h hs
  go_enter Tryz.func74, Tryz.ntmps74
  go_wp2_with (go_at_call 118; refine hq.out.mono ?_; rintro e w2 ⟨rfl, hg⟩)
  go_ret
  exact ⟨rfl, ((Grn.refl w).alloc _).trans hg⟩
theorem pkPark_any (h : LS B S w l z G) (hG : G ≤ 1000000) (N : Int) (s : Sp) : Calls Tryz.prog 74 #[.pointer (some ⟨l.a, 0, none⟩), .int .i64 N, .agg #[.int .i64 s.1, .int .i64 s.2]] w fun e w' => e = .returned (.int .i64 (pkC z N s).1) ∧ LS B S w' l (pkC z N s).2 (G + 1) ∧ FrL S w w' := by
  have HH := Lib.hid h
  obtain ⟨P, Q, g, f, pl, hA, hZ, hg, h1, h2⟩ := h
  have fin : ∀ C : Int, (Calls Tryz.prog 74 #[.pointer (some ⟨l.a, 0, none⟩), .int .i64 N, .agg #[.int .i64 s.1, .int .i64 s.2]] w fun e w' => e = .returned (.int .i64 C) ∧ Grn w w') →
      Calls Tryz.prog 74 #[.pointer (some ⟨l.a, 0, none⟩), .int .i64 N, .agg #[.int .i64 s.1, .int .i64 s.2]] w fun e w' => e = .returned (.int .i64 C) ∧ LS B S w' l z (G + 1) ∧ FrL S w w' := fun C h => h.mono (by
    rintro e w' ⟨rfl, hgr⟩
    exact ⟨rfl, (HH.out.grown hgr.below).mono (by omega), FrL.of_below S hgr.below⟩)
  by_cases hs : SpOk s
  · rcases numI_or z N with ⟨e, hn⟩ | ⟨i, rfl, hi, e⟩
    · unfold pkC; rw [e]
      refine fin 2 (pkPark_err hA hs (by decide) N (fun W hW => (tkPark_bad hW.k (by rw [h1, sts_len] at hn; exact hn)).mono ?_))
      rintro e w' ⟨rfl, rfl⟩; exact ⟨rfl, Grn.refl _⟩
    · have hi2 : i < P.length := by rw [h1, sts_len] at hi; exact hi
      have hp := List.getElem?_eq_getElem hi2
      have e2 : z.S.getD i 0 = P[i].s := by rw [h1]; simp [sts, hi2]
      unfold pkC; simp only [e, if_pos hs, e2]
      by_cases hs1 : P[i].s = 1
      · rw [if_pos hs1]
        have fin2 : ∀ w' d, LAt B S w' l (stepP P i 2 g) (stepQ Q i 2 g) g (updG f s (some ⟨d.q, d.b, d.m, d.L ++ [(d.g + 1, ((i : Nat) : Int))], d.g + 1⟩)) (updG pl ((i : Nat) : Int) (some ⟨s, d.g + 1⟩)) → (f s = some d ∨ (f s = none ∧ d.L = [])) → d.g ≤ G → LS B S w' l (z.park i s) (G + 1) := fun w' d hL hd hdg =>
          ⟨_, _, _, _, _, hL, hZ.park hp (by rw [hs1]; decide) hs hd (by omega) (by omega) g, by omega, by show z.S.set i 2 = _; rw [sts_step, h1], by show woR _ z.R = _; rw [vls_step, h2]; simp⟩
        cases hf : f s with
        | some d =>
          refine (pkPark_some hA hZ hg hG hs hf hp hs1).mono ?_
          rintro e w' ⟨rfl, hL, hF⟩
          exact ⟨rfl, fin2 w' d hL (.inl hf) (hZ.qf s d hf).2.2, hF⟩
        | none =>
          refine (pkPark_none hA hZ hg hG hs hf hp hs1).mono ?_
          rintro e w' ⟨rfl, ⟨q, b, m, hL⟩, hF⟩
          exact ⟨rfl, fin2 w' ⟨q, b, m, [], 0⟩ hL (.inr ⟨hf, rfl⟩) (Nat.zero_le _), hF⟩
      · rw [if_neg hs1]
        exact fin 8 (pkPark_err hA hs (by decide) _ (fun W hW => tkPark_state hW.k hp (fun e => hs1 e.symm)))
  · have : pkC z N s = (2, z) := by
      unfold pkC
      rcases numI_or z N with ⟨e, hn⟩ | ⟨i, rfl, hi, e⟩
      · rw [e]
      · simp only [e, if_neg hs]
    rw [this]
    exact fin 2 (pkPark_bad hA hs N)
end
end Go.Proofs.YtcjeckjmoponkaaGreatDoor
