/- A poller in memory: its blocks, and what a call of one of its parts leaves of the others. -/
import Derived.Test.YtcjeckjmoponkaaGreatDoorUPure
namespace Go.Proofs.YtcjeckjmoponkaaGreatDoor
open Go.RowKit Go.Sort
set_option linter.unusedVariables false
set_option linter.unusedSimpArgs false

/-- What a call leaves alone: all but the blocks of O. -/
structure FrO (O : Nat → Prop) (w w' : World) : Prop where
  os : w'.os = w.os
  tape : w'.tape = w.tape
  output : w'.output = w.output
  out : ∀ k, k < w.heap.size → ¬ O k → w'.heap[k]? = w.heap[k]?
theorem FrO.refl (O : Nat → Prop) (w : World) : FrO O w w := ⟨rfl, rfl, rfl, fun _ _ _ => rfl⟩
theorem FrO.lt {O : Nat → Prop} {w w' : World} (h : FrO O w w') {k : Nat} (hk : k < w.heap.size) (hn : ¬ O k) : k < w'.heap.size := by
  have h1 := h.out k hk hn
  rw [Array.getElem?_eq_getElem hk] at h1
  exact (Array.getElem?_eq_some_iff.1 h1).1
theorem FrO.trans {O O' : Nat → Prop} {w w' w'' : World} (h : FrO O w w') (k : FrO O' w' w'') (hs : ∀ j, O' j → O j ∨ w.heap.size ≤ j) : FrO O w w'' :=
  ⟨k.os.trans h.os, k.tape.trans h.tape, k.output.trans h.output, fun j hj hn => (k.out j (h.lt hj hn) (fun ho => (hs j ho).elim hn (fun h' => by omega))).trans (h.out j hj hn)⟩
theorem FrO.mono {O O' : Nat → Prop} {w w' : World} (h : FrO O w w') (hs : ∀ j, O j → O' j ∨ w.heap.size ≤ j) : FrO O' w w' :=
  ⟨h.os, h.tape, h.output, fun j hj hn => h.out j hj (fun ho => (hs j ho).elim hn (fun h' => by omega))⟩
theorem FrO.of_below {O : Nat → Prop} {w w' : World} (h : Below w.heap.size w w') : FrO O w w' := ⟨h.os, h.tape, h.output, fun k hk _ => h.block k hk⟩
theorem FrO.of_fr {O : Nat → Prop} {F : List Nat} {w w' : World} (h : Fr F w w') (hs : ∀ x ∈ F, O x ∨ w.heap.size ≤ x) : FrO O w w' :=
  ⟨h.os, h.tape, h.output, fun j hj hn => h.block j hj (fun ho => (hs j ho).elim hn (fun h' => by omega))⟩
theorem FrO.of_frl {S O : Nat → Prop} {w w' : World} (h : FrL S w w') (hs : ∀ x, S x → O x ∨ w.heap.size ≤ x) : FrO O w w' :=
  ⟨h.os, h.tape, h.output, fun j hj hn => h.out j hj (fun ho => (hs j ho).elim hn (fun h' => by omega))⟩
theorem FrO.row {O : Nat → Prop} {w w' : World} {α : Type} {T : GT α} {b : Nat} {v : Value} {X : List α} (h : FrO O w w') (hr : Row T w b v X) (hn : ∀ g, v.ownBlock = some g → ¬ O g) : Row T w' b v X := by
  refine ⟨hr.1, ?_⟩
  rcases hr.2 with h' | ⟨g, cap, cur, rfl, hb, hg, r⟩
  · exact .inl h'
  · exact .inr ⟨g, cap, cur, rfl, hb, (h.out g (lt_of_block hg) (hn g rfl)).trans hg, r⟩
theorem FrO.block {O : Nat → Prop} {w w' : World} (h : FrO O w w') {k : Nat} {o : Obj} (hk : w.heap[k]? = some o) (hn : ¬ O k) : w'.heap[k]? = some o := (h.out k (lt_of_block hk) hn).trans hk
theorem row_same {w w' : World} {α : Type} {T : GT α} {b : Nat} {v : Value} {X : List α} (hr : Row T w b v X) (hn : ∀ g, v.ownBlock = some g → w'.heap[g]? = w.heap[g]?) : Row T w' b v X := by
  refine ⟨hr.1, ?_⟩
  rcases hr.2 with h' | ⟨g, cap, cur, rfl, hb, hg, r⟩
  · exact .inl h'
  · exact .inr ⟨g, cap, cur, rfl, hb, (hn g rfl).trans hg, r⟩

/-- A lot that others leave alone, its blocks in another set. -/
theorem LAt.over {B B' : Nat} {S S3 : Nat → Prop} {w w' : World} {l : Ll} {P : Ks} {Q : Qu} {g : Nat} {f : Sp → Option Qd} {pl : Int → Option Pl} (h : LAt B S w l P Q g f pl)
    (hs : ∀ x, x < w.heap.size → S x → w'.heap[x]? = w.heap[x]?) (hm : w'.heap[0]? = w.heap[0]?) (h3 : ∀ x, x < w.heap.size → S x → S3 x) (hsl : ∀ x, S3 x → B' ≤ x) (hup : ∀ x, w'.heap.size ≤ x → S3 x) (hB : B' ≤ B) (h0 : 0 < B') : LAt B' S3 w' l P Q g f pl := by
  obtain ⟨n, hq⟩ := h.mq
  obtain ⟨n', hp⟩ := h.mp
  have hk := h.k
  obtain ⟨t1, t2, t3, t4, t5⟩ := h.st
  refine ⟨(hs _ h.lt h.sa.1).trans h.a, ?_, ⟨n, hq.same (hs _ hq.lt h.sa.2.1)⟩, ⟨n', hp.same (hs _ hp.lt h.sa.2.2)⟩, fun s d hd => ?_, h.ap, fun s d hd => ?_, h.n1, h.n2, h.n3, ⟨h3 _ h.lt h.sa.1, h3 _ h.lmq h.sa.2.1, h3 _ h.lmp h.sa.2.2⟩, ⟨h3 _ h.k.lt t1, h3 _ h.k.lc t2, h3 _ h.k.qa.lq t3, h3 _ h.k.qa.lb t4, h3 _ h.k.qa.lm t5⟩, hsl, hup⟩
  · refine KAt.lower ?_ hB h0
    refine ⟨(hs _ hk.lt t1).trans hk.t, ?_, hk.qa.same (hs _ hk.qa.lq t3) (hs _ hk.qa.lb t4) (hs _ hk.qa.lm t5), hk.n1, hk.n2, hk.mv.same hm, hk.g0, hk.bt, hk.bq, hk.bb, hk.bm⟩
    exact row_same hk.r (fun g' hg' => by
      simp only [Value.ownBlock, Option.some.injEq] at hg'
      subst hg'
      exact hs _ hk.lc t2)
  · have hq := h.qs s d hd
    obtain ⟨_, s1, s2, s3⟩ := h.nq s d hd
    exact hq.same (hs _ hq.lq s1) (hs _ hq.lb s2) (hs _ hq.lm s3)
  · have hq := h.qs s d hd
    obtain ⟨a, b, c, e⟩ := h.nq s d hd
    exact ⟨a, h3 _ hq.lq b, h3 _ hq.lb c, h3 _ hq.lm e⟩
theorem LS.over {B B' : Nat} {S S3 : Nat → Prop} {w w' : World} {l : Ll} {z : Zt} {G : Nat} (h : LS B S w l z G)
    (hs : ∀ x, x < w.heap.size → S x → w'.heap[x]? = w.heap[x]?) (hm : w'.heap[0]? = w.heap[0]?) (h3 : ∀ x, x < w.heap.size → S x → S3 x) (hsl : ∀ x, S3 x → B' ≤ x) (hup : ∀ x, w'.heap.size ≤ x → S3 x) (hB : B' ≤ B) (h0 : 0 < B') : LS B' S3 w' l z G := by
  obtain ⟨P, Q, g, f, pl, hA, r⟩ := h
  exact ⟨P, Q, g, f, pl, hA.over hs hm h3 hsl hup hB h0, r⟩
theorem LS.gm {B : Nat} {S : Nat → Prop} {w : World} {l : Ll} {z : Zt} {G : Nat} (h : LS B S w l z G) : 0 < B := by
  obtain ⟨P, Q, g, f, pl, hA, r⟩ := h
  exact hA.k.g0
theorem LS.sl {B : Nat} {S : Nat → Prop} {w : World} {l : Ll} {z : Zt} {G : Nat} (h : LS B S w l z G) : ∀ x, S x → B ≤ x := by
  obtain ⟨P, Q, g, f, pl, hA, r⟩ := h
  exact hA.sl
theorem LS.la {B : Nat} {S : Nat → Prop} {w : World} {l : Ll} {z : Zt} {G : Nat} (h : LS B S w l z G) : S l.a ∧ l.a < w.heap.size := by
  obtain ⟨P, Q, g, f, pl, hA, r⟩ := h
  exact ⟨hA.sa.1, hA.lt⟩
theorem LAt.sub {B : Nat} {S : Nat → Prop} {w : World} {l : Ll} {P : Ks} {Q : Qu} {g : Nat} {f : Sp → Option Qd} {pl : Int → Option Pl} (h : LAt B S w l P Q g f pl) : LAt B (fun x => S x ∧ ¬ NotL w x) w l P Q g f pl := by
  obtain ⟨n, hq⟩ := h.mq
  obtain ⟨n0, hp⟩ := h.mp
  obtain ⟨cu, hc⟩ := h.k.cblock
  have om : ∀ {m : Nat}, (∀ (k : Nat) (y : Array Value) (u : TypeId), w.heap[k]? = some (.cells y u (0, 0)) → k ≠ m) → ¬ NotL w m := fun hm hx => by
    obtain ⟨y, u, e, _⟩ := hx
    exact hm _ y u e rfl
  have oc : ∀ {k : Nat} {y : Array Value} {v : TypeId}, w.heap[k]? = some (.cells y v (0, 0)) → (v = 156 ∨ v = 251 ∨ v = 306 ∨ v = 285 ∨ v = 292) → ¬ NotL w k := fun hk hv hx => by
    obtain ⟨y, u, e, e1, e2, e3, e4, e5⟩ := hx
    rw [hk] at e
    simp only [Option.some.injEq, Obj.cells.injEq] at e
    rw [e.2.1] at hv
    rcases hv with rfl | rfl | rfl | rfl | rfl
    · exact e1 rfl
    · exact e2 rfl
    · exact e3 rfl
    · exact e4 rfl
    · exact e5 rfl
  refine ⟨h.a, h.k, h.mq, h.mp, h.qs, h.ap, fun s d hd => ?_, h.n1, h.n2, h.n3, ⟨⟨h.sa.1, oc h.a (.inl rfl)⟩, ⟨h.sa.2.1, om (fun k y u e => hq.ne e)⟩, ⟨h.sa.2.2, om (fun k y u e => hp.ne e)⟩⟩,
    ⟨⟨h.st.1, oc h.k.t (.inr (.inl rfl))⟩, ⟨h.st.2.1, oc hc (.inr (.inr (.inl rfl)))⟩, ⟨h.st.2.2.1, oc h.k.qa.q (.inr (.inr (.inr (.inl rfl))))⟩, ⟨h.st.2.2.2.1, oc h.k.qa.b (.inr (.inr (.inr (.inr rfl))))⟩, ⟨h.st.2.2.2.2, om (fun k y u e => h.k.qa.m.ne e)⟩⟩,
    fun x hx => h.sl x hx.1, fun x hx => ⟨h.up x hx, fun ⟨y, u, e, _⟩ => by have := lt_of_block e; omega⟩⟩
  have hqd := h.qs s d hd
  obtain ⟨a, b, c, e⟩ := h.nq s d hd
  exact ⟨a, ⟨b, oc hqd.q (.inr (.inr (.inr (.inl rfl))))⟩, ⟨c, oc hqd.b (.inr (.inr (.inr (.inr rfl))))⟩, ⟨e, om (fun k y u e => hqd.m.ne e)⟩⟩
theorem LS.sub {B : Nat} {S : Nat → Prop} {w : World} {l : Ll} {z : Zt} {G : Nat} (h : LS B S w l z G) : LS B (fun x => S x ∧ ¬ NotL w x) w l z G := by
  obtain ⟨P, Q, g, f, pl, hA, r⟩ := h
  exact ⟨P, Q, g, f, pl, hA.sub, r⟩
theorem row_notL {α : Type} {T : GT α} {w : World} {b : Nat} {v : Value} {X : List α} (h : Row T w b v X) (h1 : T.te ≠ 156) (h2 : T.te ≠ 251) (h3 : T.te ≠ 306) (h4 : T.te ≠ 285) (h5 : T.te ≠ 292) : ∀ g, v.ownBlock = some g → NotL w g := by
  intro g hg
  rcases h.2 with ⟨h0, _⟩ | ⟨g', cap, cu, hv, _, hh, _⟩
  · rw [h0] at hg; simp [Value.ownBlock] at hg
  · rw [hv] at hg
    simp only [Value.ownBlock, Option.some.injEq] at hg
    subst hg
    exact ⟨cu, _, hh, h1, h2, h3, h4, h5⟩
/-- Deadlines that others leave alone, all that is not theirs guarded. -/
theorem jat_over {w0 w w' : World} {OD : Nat → Prop} {d : Nat} {now : Int} {f : Nat → Int} {P : Nat} (J : Dl.JAt w0 (fun k => k < w.heap.size ∧ ¬ OD k) w d now f P) (h1 : w'.os = w.os) (h2 : w'.tape = w.tape) (h3 : w'.output = w.output)
    (hs : ∀ k, k < w.heap.size → OD k → w'.heap[k]? = w.heap[k]?) (hz : w.heap.size ≤ w'.heap.size) (hb : Below w0.heap.size w0 w') : Dl.JAt w0 (fun k => k < w'.heap.size ∧ ¬ OD k) w' d now f P := by
  obtain ⟨F, f1, f2⟩ := J.foot
  have hod : ∀ k, F k → OD k := fun k hk => by
    obtain ⟨a, b, c⟩ := f1 k hk
    by_cases h : OD k
    · exact h
    · exact absurd ⟨b, h⟩ c
  exact f2 w0 _ w' h1 h2 h3 hz (fun k hk => hs k (f1 k hk).2.1 (hod k hk)) hb (fun k hk => ⟨(f1 k hk).1, fun hc => hc.2 (hod k hk)⟩) (fun k hk => hk.1)

/-- Rows of reasons. -/
def TRs : GT Int := ⟨66, 76, 1, fun x => [.int .i64 x]⟩
theorem infoReason : (Tryz.prog.info? 76).map (fun i => (i.zero, i.size, i.bytes)) = some (some (.int .i64 0), 1, 8) := by kernel_rfl
theorem TRs_ok : TRs.Ok := by
  refine ⟨fun _ => rfl, fun x u hu => ?_, by decide, Tryz.underlying66, ?_⟩
  · simp only [TRs, List.mem_cons, List.not_mem_nil, or_false] at hu
    subst hu; rfl
  · obtain ⟨i, h1, h2, h3, h4⟩ := info_parts infoReason
    exact ⟨i, _, h1, h2, h3, by rw [h4]; decide, by decide⟩

structure UB (w0 w : World) (O : Nat → Prop) (p t g c d r rc : Nat) (l : Ll) (OL OD : Nat → Prop) (x : Px) (G P : Nat) : Prop where
  hp : w.heap[p]? = some (.cells #[.pointer (some ⟨t, 0, none⟩), .pointer (some ⟨l.a, 0, none⟩), .pointer (some ⟨d, 0, none⟩), .slice (some ⟨r, 0, none⟩) x.R.length rc] 68 (0, 0))
  ht : Sl.TAt w t g c x.T
  hl : LS w0.heap.size (fun k => OL k ∨ w.heap.size ≤ k) w l x.z G
  hd : Dl.JAt w0 (fun k => k < w.heap.size ∧ ¬ OD k) w d x.now x.f P
  hr : Row TRs w w0.heap.size (.slice (some ⟨r, 0, none⟩) x.R.length rc) x.R
  rl : x.R.length = x.z.S.length
  tl : x.T.length = 128
  b : w0.heap.size ≤ p ∧ w0.heap.size ≤ t ∧ w0.heap.size ≤ g
  o : ∀ k, O k ↔ (k = p ∨ k = t ∨ k = g ∨ k = r ∨ OL k ∨ OD k)
  ol : ∀ k, OL k → w0.heap.size ≤ k ∧ k < w.heap.size ∧ ¬ OD k ∧ k ≠ p ∧ k ≠ t ∧ k ≠ g ∧ k ≠ r
  od : ∀ k, OD k → w0.heap.size ≤ k ∧ k < w.heap.size ∧ k ≠ p ∧ k ≠ t ∧ k ≠ g ∧ k ≠ r
/-- A poller in memory: O has its blocks. -/
def UAt (w0 w : World) (O : Nat → Prop) (p : Nat) (x : Px) (G P : Nat) : Prop := ∃ t g c d r rc l OL OD, UB w0 w O p t g c d r rc l OL OD x G P
section
variable {w0 w w' : World} {O : Nat → Prop} {p t g c d r rc : Nat} {l : Ll} {OL OD : Nat → Prop} {x : Px} {G P : Nat}
theorem UB.rlt (h : UB w0 w O p t g c d r rc l OL OD x G P) : w0.heap.size ≤ r ∧ r < w.heap.size := h.hr.lt _ rfl
theorem UB.lt (h : UB w0 w O p t g c d r rc l OL OD x G P) {k : Nat} (hk : O k) : w0.heap.size ≤ k ∧ k < w.heap.size := by
  obtain ⟨b1, b2, b3⟩ := h.b
  rcases (h.o k).1 hk with rfl | rfl | rfl | rfl | h' | h'
  · exact ⟨b1, lt_of_block h.hp⟩
  · exact ⟨b2, h.ht.lt⟩
  · exact ⟨b3, h.ht.lg⟩
  · exact h.rlt
  · exact ⟨(h.ol k h').1, (h.ol k h').2.1⟩
  · exact ⟨(h.od k h').1, (h.od k h').2.1⟩
theorem UB.rblock (h : UB w0 w O p t g c d r rc l OL OD x G P) : ∃ cu, w.heap[r]? = some (.cells cu 76 (0, 0)) := by
  rcases h.hr.2 with ⟨h0, _⟩ | ⟨g', cap, cu, hv, _, hh, _⟩
  · simp at h0
  · simp only [Value.slice.injEq, Option.some.injEq, Addr.mk.injEq] at hv
    obtain ⟨⟨rfl, _⟩, _, _⟩ := hv
    exact ⟨cu, hh⟩
theorem UB.nes (h : UB w0 w O p t g c d r rc l OL OD x G P) : p ≠ t ∧ p ≠ g ∧ p ≠ r ∧ t ≠ g ∧ t ≠ r ∧ g ≠ r := by
  obtain ⟨cu, hr⟩ := h.rblock
  obtain ⟨cg, hg, _⟩ := h.ht.r.ex
  have ht := h.ht.t
  have hp := h.hp
  refine ⟨?_, ?_, ?_, ?_, ?_, ?_⟩ <;> rintro rfl
  · rw [hp] at ht; simp only [Option.some.injEq, Obj.cells.injEq] at ht; exact absurd ht.2.1 (by decide)
  · rw [hp] at hg; simp only [Option.some.injEq, Obj.cells.injEq] at hg; exact absurd hg.2.1 (by decide)
  · rw [hp] at hr; simp only [Option.some.injEq, Obj.cells.injEq] at hr; exact absurd hr.2.1 (by decide)
  · rw [ht] at hg; simp only [Option.some.injEq, Obj.cells.injEq] at hg; exact absurd hg.2.1 (by decide)
  · rw [ht] at hr; simp only [Option.some.injEq, Obj.cells.injEq] at hr; exact absurd hr.2.1 (by decide)
  · rw [hg] at hr; simp only [Option.some.injEq, Obj.cells.injEq] at hr; exact absurd hr.2.1 (by decide)
theorem UB.gm (h : UB w0 w O p t g c d r rc l OL OD x G P) : 0 < w0.heap.size := h.hl.gm
theorem UB.zk (h : UB w0 w O p t g c d r rc l OL OD x G P) : ZK x.z := h.hl.zk
theorem UB.below (h : UB w0 w O p t g c d r rc l OL OD x G P) : Below w0.heap.size w0 w := h.hd.below
theorem UB.moves (h : UB w0 w O p t g c d r rc l OL OD x G P) (hb : Below w0.heap.size w0 w') : w'.heap[0]? = w.heap[0]? := (hb.block _ h.gm).trans (h.below.block _ h.gm).symm
theorem UB.la (h : UB w0 w O p t g c d r rc l OL OD x G P) : OL l.a := by
  obtain ⟨a, b⟩ := h.hl.la
  rcases a with a | a
  · exact a
  · omega
/-- Others do something. -/
theorem UB.keep {Z : Nat → Prop} (h : UB w0 w O p t g c d r rc l OL OD x G P) (hf : FrO Z w w') (hz : w.heap.size ≤ w'.heap.size) (hb : Below w0.heap.size w0 w') (hd : ∀ k, O k → ¬ Z k) : UB w0 w' O p t g c d r rc l OL OD x G P := by
  have hs : ∀ k, O k → w'.heap[k]? = w.heap[k]? := fun k hk => hf.out k (h.lt hk).2 (hd k hk)
  have ho := fun k => (h.o k).2
  refine ⟨(hs p (ho p (.inl rfl))).trans h.hp, h.ht.same (hs t (ho t (.inr (.inl rfl)))) (hs g (ho g (.inr (.inr (.inl rfl))))), ?_, ?_, ?_, h.rl, h.tl, h.b, h.o, ?_, ?_⟩
  · refine h.hl.over (fun k hk hS => ?_) (h.moves hb) (fun k hk hS => ?_) (fun k hk => ?_) (fun k hk => .inr hk) (Nat.le_refl _) h.gm
    · rcases hS with h' | h'
      · exact hs k (ho k (.inr (.inr (.inr (.inr (.inl h'))))))
      · omega
    · rcases hS with h' | h'
      · exact .inl h'
      · omega
    · rcases hk with h' | h'
      · exact (h.ol k h').1
      · have := hb.size; omega
  · exact jat_over h.hd hf.os hf.tape hf.output (fun k _ hk => hs k (ho k (.inr (.inr (.inr (.inr (.inr hk))))))) hz hb
  · exact row_same h.hr (fun g' hg' => by
      simp only [Value.ownBlock, Option.some.injEq] at hg'
      subst hg'
      exact hs _ (ho _ (.inr (.inr (.inr (.inl rfl))))))
  · intro k hk; have := h.ol k hk; exact ⟨this.1, by omega, this.2.2⟩
  · intro k hk; have := h.od k hk; exact ⟨this.1, by omega, this.2.2⟩
/-- The own blocks after a call. -/
def OP (p t g r : Nat) (OL OD : Nat → Prop) : Nat → Prop := fun k => k = p ∨ k = t ∨ k = g ∨ k = r ∨ OL k ∨ OD k
def OMore (O : Nat → Prop) (w w' : World) : Nat → Prop := fun k => k < w'.heap.size ∧ (O k ∨ w.heap.size ≤ k) ∧ ¬ NotL w' k
/-- A call of the lot. -/
theorem UB.lot {l' : Ll} {z' : Zt} {G' : Nat} (h : UB w0 w O p t g c d r rc l OL OD x G P) (hla : l' = l) (hl : LS w0.heap.size (fun k => OL k ∨ w.heap.size ≤ k) w' l' z' G') (hf : FrL (fun k => OL k ∨ w.heap.size ≤ k) w w') (hS : z'.S.length = x.z.S.length) :
    UB w0 w' (OP p t g r (OMore OL w w') OD) p t g c d r rc l (OMore OL w w') OD { x with z := z' } G' P ∧ FrO OL w w' ∧ (∀ k, OP p t g r (OMore OL w w') OD k → O k ∨ w.heap.size ≤ k) ∧ ∀ k, w.heap.size ≤ k → NotL w' k → ¬ OP p t g r (OMore OL w w') OD k := by
  subst hla
  have hfo : FrO OL w w' := FrO.of_frl hf (fun k hk => hk)
  have hb : Below w0.heap.size w0 w' := by
    have hb1 := h.below
    exact ⟨hf.os.trans hb1.os, hf.tape.trans hb1.tape, hf.output.trans hb1.output, Nat.le_trans hb1.size hf.size, fun k hk => (hf.out k (Nat.lt_of_lt_of_le hk hb1.size) (fun hS => by
      rcases hS with h' | h'
      · have := (h.ol k h').1; omega
      · have := hb1.size; omega)).trans (hb1.block k hk)⟩
  have hs : ∀ k, k < w.heap.size → ¬ OL k → w'.heap[k]? = w.heap[k]? := fun k hk hn => hfo.out k hk hn
  obtain ⟨n1, n2, n3, n4, n5, n6⟩ := h.nes
  obtain ⟨b1, b2, b3⟩ := h.b
  have q1 : ¬ OL p := fun h' => (h.ol p h').2.2.2.1 rfl
  have q2 : ¬ OL t := fun h' => (h.ol t h').2.2.2.2.1 rfl
  have q3 : ¬ OL g := fun h' => (h.ol g h').2.2.2.2.2.1 rfl
  have q4 : ¬ OL r := fun h' => (h.ol r h').2.2.2.2.2.2 rfl
  refine ⟨⟨(hs p (lt_of_block h.hp) q1).trans h.hp, h.ht.same (hs t h.ht.lt q2) (hs g h.ht.lg q3), ?_, ?_, ?_, h.rl.trans hS.symm, h.tl, h.b, fun k => Iff.rfl, ?_, ?_⟩, hfo, ?_, ?_⟩
  · refine hl.sub.over (fun k hk hS => rfl) rfl (fun k hk hS => ?_) (fun k hk => ?_) (fun k hk => .inr hk) (Nat.le_refl _) h.gm
    · exact .inl ⟨hk, hS.1, hS.2⟩
    · rcases hk with h' | h'
      · exact hl.sl k h'.2.1
      · have := hb.size; omega
  · exact jat_over h.hd hf.os hf.tape hf.output (fun k hk hD => hs k hk (fun h' => (h.ol k h').2.2.1 hD)) hf.size hb
  · exact row_same h.hr (fun g' hg' => by
      simp only [Value.ownBlock, Option.some.injEq] at hg'
      subst hg'
      exact hs _ h.rlt.2 q4)
  · rintro k ⟨hk, h' | h', -⟩
    · have := h.ol k h'; exact ⟨this.1, hk, this.2.2⟩
    · have := h.below.size
      have := lt_of_block h.hp
      have := h.ht.lt
      have := h.ht.lg
      have := h.rlt.2
      refine ⟨by omega, hk, fun hD => ?_, by omega, by omega, by omega, by omega⟩
      have := (h.od k hD).2.1
      omega
  · intro k hk
    have := h.od k hk
    have := hf.size
    exact ⟨by omega, by omega, by omega⟩
  · intro k hk
    rw [h.o k]
    rcases hk with h' | h' | h' | h' | h' | h'
    · exact .inl (.inl h')
    · exact .inl (.inr (.inl h'))
    · exact .inl (.inr (.inr (.inl h')))
    · exact .inl (.inr (.inr (.inr (.inl h'))))
    · rcases h'.2.1 with h'' | h''
      · exact .inl (.inr (.inr (.inr (.inr (.inl h'')))))
      · exact .inr h''
    · exact .inl (.inr (.inr (.inr (.inr (.inr h')))))
  · intro k hk hn hc
    have := lt_of_block h.hp
    have := h.ht.lt
    have := h.ht.lg
    have := h.rlt.2
    rcases hc with h' | h' | h' | h' | h' | h'
    · omega
    · omega
    · omega
    · omega
    · exact h'.2.2 hn
    · have := (h.od k h').2.1; omega
/-- A call of the deadlines; what V has is not theirs. -/
theorem UB.dls {V : Nat → Prop} {now' : Int} {f' : Nat → Int} {P' : Nat} (h : UB w0 w O p t g c d r rc l OL OD x G P) (hd : Dl.JAt w0 (fun k => (k < w.heap.size ∧ ¬ OD k) ∨ V k) w' d now' f' P') (hk : ∀ k, k < w.heap.size → ¬ OD k → w'.heap[k]? = w.heap[k]?) :
    ∃ OD', UB w0 w' (OP p t g r OL OD') p t g c d r rc l OL OD' { x with now := now', f := f' } G P' ∧ FrO OD w w' ∧ (∀ k, OP p t g r OL OD' k → O k ∨ w.heap.size ≤ k) ∧ (∀ k, w.heap.size ≤ k → V k → ¬ OD' k) := by
  have hb := hd.below
  have hb1 := h.below
  have hfo : FrO OD w w' := ⟨hb.os.trans hb1.os.symm, hb.tape.trans hb1.tape.symm, hb.output.trans hb1.output.symm, hk⟩
  obtain ⟨n1, n2, n3, n4, n5, n6⟩ := h.nes
  obtain ⟨b1, b2, b3⟩ := h.b
  have q1 : ¬ OD p := fun h' => (h.od p h').2.2.1 rfl
  have q2 : ¬ OD t := fun h' => (h.od t h').2.2.2.1 rfl
  have q3 : ¬ OD g := fun h' => (h.od g h').2.2.2.2.1 rfl
  have q4 : ¬ OD r := fun h' => (h.od r h').2.2.2.2.2 rfl
  have q5 : ∀ k, OL k → ¬ OD k := fun k h' => (h.ol k h').2.2.1
  have lp := lt_of_block h.hp
  have lt1 := h.ht.lt
  have lg := h.ht.lg
  have lr := h.rlt.2
  refine ⟨fun k => k < w'.heap.size ∧ (OD k ∨ w.heap.size ≤ k) ∧ ¬ (w.heap.size ≤ k ∧ V k) ∧ w0.heap.size ≤ k, ⟨(hk p lp q1).trans h.hp, h.ht.same (hk t lt1 q2) (hk g lg q3), ?_, ?_, ?_, h.rl, h.tl, h.b, fun k => Iff.rfl, ?_, ?_⟩, hfo, ?_, ?_⟩
  · refine h.hl.over (fun k hk' hS => ?_) (h.moves hb) (fun k hk' hS => ?_) (fun k hk' => ?_) (fun k hk' => .inr hk') (Nat.le_refl _) h.gm
    · rcases hS with h' | h'
      · exact hk k hk' (q5 k h')
      · omega
    · rcases hS with h' | h'
      · exact .inl h'
      · omega
    · rcases hk' with h' | h'
      · exact (h.ol k h').1
      · have := hb.size; omega
  · obtain ⟨F, f1, f2⟩ := hd.foot
    refine f2 w0 _ w' rfl rfl rfl (Nat.le_refl _) (fun _ _ => rfl) hb (fun k hF => ?_) (fun k hk => hk.1)
    obtain ⟨a, b, c⟩ := f1 k hF
    refine ⟨a, fun hc => hc.2 ⟨b, ?_, fun hv => c (.inr hv.2), a⟩⟩
    by_cases hD : OD k
    · exact .inl hD
    · by_cases hw : k < w.heap.size
      · exact absurd (.inl ⟨hw, hD⟩) c
      · exact .inr (by omega)
  · exact row_same h.hr (fun g' hg' => by
      simp only [Value.ownBlock, Option.some.injEq] at hg'
      subst hg'
      exact hk _ lr q4)
  · intro k hk'
    have h1 := h.ol k hk'
    refine ⟨h1.1, hfo.lt h1.2.1 (q5 k hk'), fun hc => ?_, h1.2.2.2⟩
    rcases hc.2.1 with h' | h'
    · exact h1.2.2.1 h'
    · omega
  · rintro k ⟨a, h' | h', e, f⟩
    · have := h.od k h'; exact ⟨this.1, a, this.2.2⟩
    · exact ⟨f, a, by omega, by omega, by omega, by omega⟩
  · intro k hk'
    rw [h.o k]
    rcases hk' with h' | h' | h' | h' | h' | h'
    · exact .inl (.inl h')
    · exact .inl (.inr (.inl h'))
    · exact .inl (.inr (.inr (.inl h')))
    · exact .inl (.inr (.inr (.inr (.inl h'))))
    · exact .inl (.inr (.inr (.inr (.inr (.inl h')))))
    · rcases h'.2.1 with h'' | h''
      · exact .inl (.inr (.inr (.inr (.inr (.inr h'')))))
      · exact .inr h''
  · intro k h1 h2 hc
    exact hc.2.2.1 ⟨h1, h2⟩
theorem UB.out0 (h : UB w0 w O p t g c d r rc l OL OD x G P) {F : List Nat} (hf : Fr F w w') (hF : ∀ k ∈ F, w0.heap.size ≤ k) : Below w0.heap.size w0 w' := h.below.trans (hf.below hF h.below.size)
/-- A call of the table of descriptors. -/
theorem UB.tab {T' : Sl.Tab} (h : UB w0 w O p t g c d r rc l OL OD x G P) (ht : Sl.TAt w' t g c T') (hf : Fr [g] w w') (hl : T'.length = x.T.length) : UB w0 w' O p t g c d r rc l OL OD { x with T := T' } G P := by
  obtain ⟨n1, n2, n3, n4, n5, n6⟩ := h.nes
  have hs : ∀ k, k < w.heap.size → k ≠ g → w'.heap[k]? = w.heap[k]? := fun k hk hn => hf.block k hk (by simpa using hn)
  have hb := h.out0 hf (fun k hk => by simp only [List.mem_singleton] at hk; rw [hk]; exact h.b.2.2)
  refine ⟨(hs p (lt_of_block h.hp) n2).trans h.hp, ht, ?_, ?_, ?_, h.rl, hl.trans h.tl, h.b, h.o, ?_, ?_⟩
  · refine h.hl.over (fun k hk hS => ?_) (h.moves hb) (fun k hk hS => ?_) (fun k hk => ?_) (fun k hk => .inr hk) (Nat.le_refl _) h.gm
    · rcases hS with h' | h'
      · exact hs k hk (h.ol k h').2.2.2.2.2.1
      · omega
    · rcases hS with h' | h'
      · exact .inl h'
      · omega
    · rcases hk with h' | h'
      · exact (h.ol k h').1
      · have := hb.size; omega
  · exact jat_over h.hd hf.os hf.tape hf.output (fun k hk hD => hs k hk (h.od k hD).2.2.2.2.1) hf.size hb
  · exact row_same h.hr (fun g' hg' => by
      simp only [Value.ownBlock, Option.some.injEq] at hg'
      subst hg'
      exact hs _ h.rlt.2 (Ne.symm n6))
  · intro k hk; have h1 := h.ol k hk; have := hf.size; exact ⟨by omega, by omega, h1.2.2⟩
  · intro k hk; have := h.od k hk; have := hf.size; exact ⟨by omega, by omega, by omega⟩
/-- A reason is set. -/
theorem UB.put (h : UB w0 w O p t g c d r rc l OL OD x G P) {i : Nat} (hi : i < x.R.length) (y : Int) : UB w0 (w.setCell ⟨r, i, none⟩ (.int .i64 y)) O p t g c d r rc l OL OD { x with R := x.R.set i y } G P := by
  obtain ⟨n1, n2, n3, n4, n5, n6⟩ := h.nes
  have hf := fr_setCell w ⟨r, i, none⟩ (.int .i64 y)
  have hs : ∀ k, k < w.heap.size → k ≠ r → (w.setCell ⟨r, i, none⟩ (.int .i64 y)).heap[k]? = w.heap[k]? := fun k hk hn => hf.block k hk (by simpa using hn)
  have hb := h.out0 hf (fun k hk => by simp only [List.mem_singleton] at hk; rw [hk]; exact h.rlt.1)
  have hsz := hf.size
  have hR : (x.R.set i y).length = x.R.length := by simp
  have hrow := h.hr.set TRs_ok (j := i) (i := 0) (y := y) (u := .int .i64 y) (List.getElem?_eq_getElem hi) (by decide) rfl
  have hrow' : Row TRs (w.setCell ⟨r, i, none⟩ (.int .i64 y)) w0.heap.size (.slice (some ⟨r, 0, none⟩) x.R.length rc) (x.R.set i y) := by
    have e : i * TRs.s + 0 = i := by show i * 1 + 0 = i; omega
    rw [e] at hrow
    exact hrow
  generalize hw : w.setCell ⟨r, i, none⟩ (.int .i64 y) = w' at *
  refine ⟨by rw [hR]; exact (hs p (lt_of_block h.hp) n3).trans h.hp, h.ht.same (hs t h.ht.lt n5) (hs g h.ht.lg n6), ?_, ?_, ?_, hR.trans h.rl, h.tl, h.b, h.o, ?_, ?_⟩
  · refine h.hl.over (fun k hk hS => ?_) (h.moves hb) (fun k hk hS => ?_) (fun k hk => ?_) (fun k hk => .inr hk) (Nat.le_refl _) h.gm
    · rcases hS with h' | h'
      · exact hs k hk (h.ol k h').2.2.2.2.2.2
      · omega
    · rcases hS with h' | h'
      · exact .inl h'
      · omega
    · rcases hk with h' | h'
      · exact (h.ol k h').1
      · have := hb.size; omega
  · exact jat_over h.hd hf.os hf.tape hf.output (fun k hk hD => hs k hk (h.od k hD).2.2.2.2.2) hf.size hb
  · simp only [hR]; exact hrow'
  · intro k hk; have h1 := h.ol k hk; exact ⟨by omega, by omega, h1.2.2⟩
  · intro k hk; have := h.od k hk; exact ⟨by omega, by omega, by omega⟩
theorem UB.frg (h : UB w0 w O p t g c d r rc l OL OD x G P) (hf : Fr [g] w w') : FrO O w w' := FrO.of_fr hf (fun k hk => by simp only [List.mem_singleton] at hk; exact .inl ((h.o k).2 (.inr (.inr (.inl hk)))))
theorem UB.frr (h : UB w0 w O p t g c d r rc l OL OD x G P) (hf : Fr [r] w w') : FrO O w w' := FrO.of_fr hf (fun k hk => by simp only [List.mem_singleton] at hk; exact .inl ((h.o k).2 (.inr (.inr (.inr (.inl hk))))))
theorem UB.frl (h : UB w0 w O p t g c d r rc l OL OD x G P) (hf : FrO OL w w') : FrO O w w' := hf.mono (fun k hk => .inl ((h.o k).2 (.inr (.inr (.inr (.inr (.inl hk)))))))
theorem UB.frd (h : UB w0 w O p t g c d r rc l OL OD x G P) (hf : FrO OD w w') : FrO O w w' := hf.mono (fun k hk => .inl ((h.o k).2 (.inr (.inr (.inr (.inr (.inr hk)))))))
theorem UB.at (h : UB w0 w O p t g c d r rc l OL OD x G P) : UAt w0 w O p x G P := ⟨t, g, c, d, r, rc, l, OL, OD, h⟩
theorem UB.grown (h : UB w0 w O p t g c d r rc l OL OD x G P) (hb : Below w.heap.size w w') : UB w0 w' O p t g c d r rc l OL OD x G P :=
  h.keep (FrO.of_below (O := fun _ => False) hb) hb.size (h.below.trans (hb.mono h.below.size)) (fun _ _ hc => hc)
theorem UB.mono {G' P' : Nat} (h : UB w0 w O p t g c d r rc l OL OD x G P) (hG : G ≤ G') (hP : P ≤ P') : UB w0 w O p t g c d r rc l OL OD x G' P' :=
  ⟨h.hp, h.ht, h.hl.mono hG, h.hd.mono hP, h.hr, h.rl, h.tl, h.b, h.o, h.ol, h.od⟩
end
section
variable {w0 w w' : World} {O : Nat → Prop} {p : Nat} {x : Px} {G P : Nat}
theorem UAt.lt (h : UAt w0 w O p x G P) {k : Nat} (hk : O k) : w0.heap.size ≤ k ∧ k < w.heap.size := by
  obtain ⟨_, _, _, _, _, _, _, _, _, h⟩ := h; exact h.lt hk
theorem UAt.own (h : UAt w0 w O p x G P) : O p := by
  obtain ⟨_, _, _, _, _, _, _, _, _, h⟩ := h; exact (h.o p).2 (.inl rfl)
theorem UAt.below (h : UAt w0 w O p x G P) : Below w0.heap.size w0 w := by
  obtain ⟨_, _, _, _, _, _, _, _, _, h⟩ := h; exact h.below
theorem UAt.zk (h : UAt w0 w O p x G P) : ZK x.z := by
  obtain ⟨_, _, _, _, _, _, _, _, _, h⟩ := h; exact h.zk
theorem UAt.grown (h : UAt w0 w O p x G P) (hb : Below w.heap.size w w') : UAt w0 w' O p x G P := by
  obtain ⟨_, _, _, _, _, _, _, _, _, h⟩ := h; exact (h.grown hb).at
theorem UAt.mono {G' P' : Nat} (h : UAt w0 w O p x G P) (hG : G ≤ G') (hP : P ≤ P') : UAt w0 w O p x G' P' := by
  obtain ⟨_, _, _, _, _, _, _, _, _, h⟩ := h; exact (h.mono hG hP).at
theorem UAt.fr {F : List Nat} (h : UAt w0 w O p x G P) (hf : Fr F w w') (hF : ∀ k ∈ F, w0.heap.size ≤ k ∧ ¬ O k) : UAt w0 w' O p x G P := by
  obtain ⟨_, _, _, _, _, _, _, _, _, h⟩ := h
  exact (h.keep (FrO.of_fr (O := fun k => k ∈ F) hf (fun k hk => .inl hk)) hf.size (h.out0 hf (fun k hk => (hF k hk).1)) (fun k hk hc => (hF k hc).2 hk)).at
end
end Go.Proofs.YtcjeckjmoponkaaGreatDoor
