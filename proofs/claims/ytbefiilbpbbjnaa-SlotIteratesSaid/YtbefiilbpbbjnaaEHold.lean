/- SlotHolds: its state. -/
import Derived.Test.YtbefiilbpbbjnaaETri
import Derived.Test.YtbefiilbpbbjnaaEKnown2
namespace Go.Proofs.Ytbefiilbpbbjnaa
open Go.RowKit Go.Sort
set_option linter.unusedVariables false
set_option linter.unusedSimpArgs false

theorem eql_fd_ne (w : World) (n g n' g' : Int) (h : ¬(n = n' ∧ g = g')) : (binOp .eql 34 (.agg #[.int .i64 n, .int .i64 g]) (.agg #[.int .i64 n', .int .i64 g'])).run Try.prog w = .ok (.bool false) w := by
  have h1 : Try.prog.underlying 34 = some _ := Try.underlying34
  by_cases e : n = n'
  · have e2 : g ≠ g' := fun e2 => h ⟨e, e2⟩
    simp [go_sem, h1, e, e2]
  · simp [go_sem, h1, e]

theorem Rel.get {P : Tab} {L : Fds} (h : Rel P L) {f : Fd} (hf : f ∈ L) : (f.c = true → NoFd P ((f.n : Nat) : Int) ((f.g : Nat) : Int)) ∧ (f.c = false → P[f.n]? = some ⟨true, f.g, f.v⟩) := by
  refine ⟨fun hc n p e hp ho => ?_, fun hc => ?_⟩
  · obtain rfl : n = f.n := by omega
    have := h.cl f hf hc p hp
    omega
  · have hl := h.lt f hf
    have hp : P[f.n]? = some P[f.n] := List.getElem?_eq_getElem hl
    rw [hp]
    generalize P[f.n] = p at hp
    obtain ⟨o, g, v⟩ := p
    cases o with
    | false => have := h.no f.n _ hp rfl f hf rfl; rw [hc] at this; cases this
    | true =>
      obtain ⟨A, B, hL, hA, hB⟩ := h.op f.n _ hp rfl
      rw [hL] at hf
      rcases List.mem_append.1 hf with h1 | h1
      · have := hA f h1 rfl; rw [hc] at this; cases this
      · rcases List.mem_cons.1 h1 with h1 | h1
        · rw [h1]
        · have := hB f h1 rfl; rw [hc] at this; cases this
/-- The name of a place that is free was never given. -/
theorem Rel.fresh {P : Tab} {L : Fds} (h : Rel P L) {n : Nat} {p : Pl} (hp : P[n]? = some p) (ho : p.o = false) {f : Fd} (hf : f ∈ L) : ¬(((n : Nat) : Int) = ((f.n : Nat) : Int) ∧ ((p.g : Nat) : Int) = ((f.g : Nat) : Int)) := by
  rintro ⟨e1, e2⟩
  obtain rfl : n = f.n := by omega
  have hc := h.no f.n p hp ho f hf rfl
  have := h.cl f hf hc p hp
  omega
/-- Of two that have the name, one that is open is the one. -/
theorem Rel.only {P : Tab} {A B : Fds} {n g : Nat} {v : Int} (hA : clo n A) (hB : clo n B) {j : Nat} {f : Fd} (hj : (A ++ ⟨n, g, v, false⟩ :: B)[j]? = some f) (hn : j ≠ A.length) (hfn : f.n = n) : f.c = true := by
  rcases Nat.lt_trichotomy j A.length with h | h | h
  · rw [List.getElem?_append_left h] at hj
    exact hA f (List.mem_of_getElem? hj) hfn
  · exact absurd h hn
  · rw [List.getElem?_append_right (by omega)] at hj
    obtain ⟨k, hk⟩ : ∃ k, j - A.length = k + 1 := ⟨j - A.length - 1, by omega⟩
    rw [hk] at hj
    exact hB f (List.mem_of_getElem? (by simpa using hj)) hfn

theorem Row.cong {α : Type} {T : GT α} {w : World} {base : Nat} {v : Value} {X Y : List α} (h : Row T w base v X) (hl : X.length = Y.length) (he : flt T.enc X = flt T.enc Y) : Row T w base v Y := by
  unfold Row at *
  rwa [← hl, ← he]
theorem flt_mid {α : Type} (e : α → List Value) (A B : List α) (x y : α) (h : e x = e y) : flt e (A ++ x :: B) = flt e (A ++ y :: B) := by
  rw [flt_append, flt_append]
  show _ ++ (e x ++ flt e B) = _ ++ (e y ++ flt e B)
  rw [h]
theorem Row.mid {α : Type} {T : GT α} {w : World} {base : Nat} {v : Value} {A B : List α} {x y : α} (h : Row T w base v (A ++ x :: B)) (he : T.enc x = T.enc y) : Row T w base v (A ++ y :: B) :=
  h.cong (by simp) (flt_mid _ _ _ _ _ he)

/-- The state of the law after k calls. -/
structure HSt (w wr : World) (t g m : Nat) (P : Tab) (L : Fds) (s1 s2 s3 : Value) (k : Nat) : Prop where
  K : KT w wr t g m P
  rel : Rel P L
  pl : P.length = m
  r1 : Row TN wr w.heap.size s1 L
  r2 : Row TV wr w.heap.size s2 L
  r3 : Row TC wr w.heap.size s3 L
  ln : L.length ≤ k
  hk : k ≤ 60
section
variable {w wr w' : World} {t g m k : Nat} {P P' : Tab} {L : Fds} {s1 s2 s3 : Value}
theorem HSt.grown (h : HSt w wr t g m P L s1 s2 s3 k) (hb : Below wr.heap.size wr w') : HSt w w' t g m P L s1 s2 s3 k :=
  ⟨h.K.grown hb, h.rel, h.pl, h.r1.below hb, h.r2.below hb, h.r3.below hb, h.ln, h.hk⟩
theorem HSt.more (h : HSt w wr t g m P L s1 s2 s3 k) (hk : k < 60) : HSt w wr t g m P L s1 s2 s3 (k + 1) := ⟨h.K, h.rel, h.pl, h.r1, h.r2, h.r3, by have := h.ln; omega, by omega⟩
theorem KT.row {α : Type} {T : GT α} {base : Nat} {v : Value} {X : List α} (h : KT w wr t g m P) (hr : Row T wr base v X) (hn : T.te ≠ 79) (hf : Fr [g] wr w') : Row T w' base v X := by
  obtain ⟨cur, h1, _⟩ := h.T.r.ex
  exact hr.fr hf (fun g' hg hm => hr.ne h1 hn g' hg (by simpa using hm))
theorem HSt.gen (h : HSt w wr t g m P L s1 s2 s3 k) {n : Nat} {p : Pl} (hp : P[n]? = some p) : p.g ≤ 60 := by
  have := h.rel.gen_le hp
  have := h.ln
  have := h.hk
  omega
/-- The open descriptor with a name. -/
theorem HSt.find (h : HSt w wr t g m P L s1 s2 s3 k) {n G : Nat} {v : Int} (hp : P[n]? = some ⟨true, G, v⟩) : ∃ A B, L = A ++ ⟨n, G, v, false⟩ :: B ∧ clo n A ∧ clo n B := h.rel.op n _ hp rfl
end
/-- An array's cells are those of a table that a law has made: it outlives what is written there. -/
theorem KT.other {w wr w' : World} {t g m : Nat} {P : Tab} {α : Type} {T : GT α} {base : Nat} {v : Value} {X : List α} (h : KT w wr t g m P) (hr : Row T wr base v X) (hb : w.heap.size ≤ base) (h1 : T.te ≠ 79) (h2 : T.te ≠ 54) (hf : Fr v.ownBlock.toList wr w') : KT w w' t g m P := by
  obtain ⟨cur, hc, _⟩ := h.T.r.ex
  refine ⟨h.T.fr hf (fun hm => ?_) (fun hm => ?_), h.below.trans (hf.below (fun y hy => ?_) h.below.size), h.lt, h.lg⟩
  · exact hr.ne h.T.t h2 t (by simpa using hm) rfl
  · exact hr.ne hc h1 g (by simpa using hm) rfl
  · have := (hr.lt y (by simpa using hy)).1
    omega
theorem KT.three {w wr w' : World} {t g m : Nat} {P : Tab} {v1 v2 v3 : Value} {L1 L2 L3 : Fds} (h : KT w wr t g m P) (r1 : Row TN wr w.heap.size v1 L1) (r2 : Row TV wr w.heap.size v2 L2) (r3 : Row TC wr w.heap.size v3 L3)
    (hf : Fr (v1.ownBlock.toList ++ (v2.ownBlock.toList ++ v3.ownBlock.toList)) wr w') : KT w w' t g m P := by
  obtain ⟨cur, hc, _⟩ := h.T.r.ex
  have key : ∀ x, x ∈ v1.ownBlock.toList ++ (v2.ownBlock.toList ++ v3.ownBlock.toList) → w.heap.size ≤ x ∧ x ≠ t ∧ x ≠ g := fun x hx => by
    simp only [List.mem_append, Option.mem_toList] at hx
    rcases hx with hx | hx | hx
    · exact ⟨(r1.lt x hx).1, r1.ne h.T.t (by decide) x hx, r1.ne hc (by decide) x hx⟩
    · exact ⟨(r2.lt x hx).1, r2.ne h.T.t (by decide) x hx, r2.ne hc (by decide) x hx⟩
    · exact ⟨(r3.lt x hx).1, r3.ne h.T.t (by decide) x hx, r3.ne hc (by decide) x hx⟩
  exact ⟨h.T.fr hf (fun hm => (key t hm).2.1 rfl) (fun hm => (key g hm).2.2 rfl), h.below.trans (hf.below (fun x hx => (key x hx).1) h.below.size), h.lt, h.lg⟩
theorem mid_get {α : Type} (A B : List α) (x y : α) {j : Nat} (hj : j ≠ A.length) : (A ++ x :: B)[j]? = (A ++ y :: B)[j]? := by
  rcases Nat.lt_trichotomy j A.length with h | h | h
  · rw [List.getElem?_append_left h, List.getElem?_append_left h]
  · exact absurd h hj
  · rw [List.getElem?_append_right (by omega), List.getElem?_append_right (by omega)]
    obtain ⟨k, hk⟩ : ∃ k, j - A.length = k + 1 := ⟨j - A.length - 1, by omega⟩
    rw [hk]
    simp
theorem mid_at {α : Type} (A B : List α) (x : α) : (A ++ x :: B)[A.length]? = some x := by simp
theorem mid_set {α : Type} (A B : List α) (x y : α) : (A ++ x :: B).set A.length y = A ++ y :: B := by simp
/-- The list while its one changed element is looked for. -/
def midL (A B : Fds) (x y : Fd) (j : Nat) : Fds := if A.length < j then A ++ y :: B else A ++ x :: B
theorem midL_len (A B : Fds) (x y : Fd) (j : Nat) : (midL A B x y j).length = (A ++ x :: B).length := by unfold midL; split <;> simp
theorem midL_other {A B : Fds} {x y : Fd} {j : Nat} (hj : j ≠ A.length) : (midL A B x y j)[j]? = (A ++ x :: B)[j]? := by
  unfold midL
  split
  · exact (mid_get A B x y hj).symm
  · rfl
theorem midL_next {A B : Fds} {x y : Fd} {j : Nat} (hj : j ≠ A.length) : midL A B x y (j + 1) = midL A B x y j := by
  unfold midL
  by_cases h : A.length < j
  · rw [if_pos h, if_pos (by omega)]
  · rw [if_neg h, if_neg (by omega)]
theorem midL_at (A B : Fds) (x y : Fd) : midL A B x y A.length = A ++ x :: B ∧ midL A B x y (A.length + 1) = A ++ y :: B := by
  unfold midL
  exact ⟨if_neg (Nat.lt_irrefl _), if_pos (Nat.lt_succ_self _)⟩
end Go.Proofs.Ytbefiilbpbbjnaa
