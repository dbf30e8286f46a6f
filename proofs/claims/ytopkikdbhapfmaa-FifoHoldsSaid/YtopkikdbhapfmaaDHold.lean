/- FifoHolds: the queue as the tickets that are not gone, and the table of those that are. -/
import Derived.Test.YtopkikdbhapfmaaDKnown
namespace Go.Proofs.Ytopkikdbhapfmaa
open Go.RowKit Go.Sort Go.MapKept
set_option linter.unusedVariables false
set_option linter.unusedSimpArgs false

/-- The tickets s .. s+n-1 that are not gone; each value is its ticket. -/
def partQ (f : Nat → Bool) (s n : Nat) : Qu := ((List.range' s n).filter fun t => !f t).map fun t => (t, (t : Int))
theorem partQ_zero (f : Nat → Bool) (s : Nat) : partQ f s 0 = [] := rfl
theorem partQ_first (f : Nat → Bool) (s n : Nat) : partQ f s (n + 1) = (if f s then [] else [(s, (s : Int))]) ++ partQ f (s + 1) n := by
  unfold partQ
  rw [List.range'_succ, List.filter_cons]
  by_cases h : f s <;> simp [h]
theorem partQ_add (f : Nat → Bool) (s n m : Nat) : partQ f s (n + m) = partQ f s n ++ partQ f (s + n) m := by
  induction n generalizing s with
  | zero => simp [partQ]
  | succ n ih =>
    rw [show n + 1 + m = n + m + 1 by omega, partQ_first, partQ_first, ih, List.append_assoc, show s + 1 + n = s + (n + 1) by omega]
theorem partQ_last (f : Nat → Bool) (s n : Nat) : partQ f s (n + 1) = partQ f s n ++ (if f (s + n) then [] else [(s + n, ((s + n : Nat) : Int))]) := by
  rw [partQ_add, partQ_first, partQ_zero, List.append_nil]
theorem mem_partQ {f : Nat → Bool} {s n : Nat} {e : Nat × Int} : e ∈ partQ f s n ↔ s ≤ e.1 ∧ e.1 < s + n ∧ f e.1 = false ∧ e.2 = (e.1 : Int) := by
  unfold partQ
  obtain ⟨t, v⟩ := e
  simp only [List.mem_map, List.mem_filter, List.mem_range'_1, Bool.not_eq_true', Prod.mk.injEq]
  constructor
  · rintro ⟨a, ⟨⟨h1, h2⟩, h3⟩, rfl, rfl⟩
    exact ⟨h1, h2, h3, rfl⟩
  · rintro ⟨h1, h2, h3, h4⟩
    exact ⟨t, ⟨⟨h1, h2⟩, h3⟩, rfl, h4.symm⟩
def setT (f : Nat → Bool) (t : Nat) : Nat → Bool := fun j => if j = t then true else f j
theorem partQ_other {f : Nat → Bool} {t s n : Nat} (h : t < s ∨ s + n ≤ t) : partQ (setT f t) s n = partQ f s n := by
  unfold partQ
  congr 1
  refine List.filter_congr fun x hx => ?_
  simp only [List.mem_range'_1] at hx
  have : x ≠ t := by omega
  simp [setT, this]
theorem partQ_split {f : Nat → Bool} {t n : Nat} (h1 : 1 ≤ t) (h2 : t ≤ n) (hf : f t = false) :
    partQ f 1 n = partQ f 1 (t - 1) ++ (t, (t : Int)) :: partQ f (t + 1) (n - t) ∧ partQ (setT f t) 1 n = partQ f 1 (t - 1) ++ partQ f (t + 1) (n - t) := by
  have key : ∀ g : Nat → Bool, partQ g 1 n = partQ g 1 (t - 1) ++ ((if g t then [] else [(t, (t : Int))]) ++ partQ g (t + 1) (n - t)) := fun g => by
    conv => lhs; rw [show n = (t - 1) + ((n - t) + 1) by omega, partQ_add, show 1 + (t - 1) = t by omega, partQ_first]
  refine ⟨?_, ?_⟩
  · rw [key, hf]; simp
  · rw [key, partQ_other (by omega), partQ_other (by omega)]; simp [setT]

/-- A table of 64 marks in memory. -/
structure TabG (w : World) (b : Nat) (f : Nat → Bool) : Prop where
  ex : ∃ cur, w.heap[b]? = some (.cells cur 59 (0, 0)) ∧ cur.size = 64 ∧ ∀ x, x < 64 → cur[x]? = some (.bool (f x))
section
variable {w w' : World} {b : Nat} {f : Nat → Bool}
theorem TabG.cell (h : TabG w b f) (x : Nat) (hx : x < 64) : w.cell? ⟨b, x, none⟩ = some (.bool (f x)) := by
  obtain ⟨cur, h1, _, h2⟩ := h.ex
  exact cells_cell h1 (h2 x hx)
theorem TabG.free (h : TabG w b f) (x : Nat) : w.frozen? ⟨b, x, none⟩ = false := by
  obtain ⟨cur, h1, _⟩ := h.ex
  exact cells_free h1 x
theorem TabG.keep (h : TabG w b f) (hk : w'.heap[b]? = w.heap[b]?) : TabG w' b f := by
  obtain ⟨cur, h1, h2⟩ := h.ex
  exact ⟨cur, hk.trans h1, h2⟩
theorem TabG.set (h : TabG w b f) (x : Nat) (hx : x < 64) : TabG (w.setCell ⟨b, x, none⟩ (.bool true)) b (setT f x) := by
  obtain ⟨cur, h1, hs, h2⟩ := h.ex
  refine ⟨_, cells_set h1 x _, by simpa using hs, fun y hy => ?_⟩
  unfold setT
  by_cases q : y = x
  · subst q; rw [if_pos rfl]; simp [hs, hy]
  · rw [if_neg q, Array.getElem?_setIfInBounds_ne (fun e => q e.symm)]; exact h2 y hy
theorem TabG.lt (h : TabG w b f) : b < w.heap.size := World.block_lt_of_cell? w _ (h.cell 0 (by omega))
theorem TabG.grown (h : TabG w b f) (hb : Below w.heap.size w w') : TabG w' b f := h.keep (hb.block b h.lt)
end
theorem tabG_new (w : World) (cur : Array Value) (h : cur = Array.replicate 64 (.bool false)) : TabG (w.alloc (.cells cur 59)) w.heap.size (fun _ => false) :=
  ⟨cur, block_new _ _ _ rfl, by rw [h]; simp, fun x hx => by rw [h]; simp [hx]⟩

/-- The state of the law after k calls: A values were added, the last that came out had ticket P. -/
structure HSt (w wr : World) (q b m B : Nat) (L : Qu) (f : Nat → Bool) (A P k : Nat) : Prop where
  K : KQ w wr q b m L A
  tab : TabG wr B f
  hB : w.heap.size ≤ B
  hL : L = partQ f 1 A
  hf : ∀ t, A < t → f t = false
  hP : ∀ e ∈ L, P < e.1
  hPA : P ≤ A
  hA : A ≤ k
  hk : k ≤ 60
section
variable {w wr w' : World} {q b m B A P k : Nat} {L : Qu} {f : Nat → Bool}
theorem HSt.grown (h : HSt w wr q b m B L f A P k) (hb : Below wr.heap.size wr w') : HSt w w' q b m B L f A P k :=
  ⟨h.K.grown hb, h.tab.grown hb, h.hB, h.hL, h.hf, h.hP, h.hPA, h.hA, h.hk⟩
theorem HSt.more (h : HSt w wr q b m B L f A P k) (hk : k < 60) : HSt w wr q b m B L f A P (k + 1) :=
  ⟨h.K, h.tab, h.hB, h.hL, h.hf, h.hP, h.hPA, by have := h.hA; omega, by omega⟩
theorem HSt.nf (h : HSt w wr q b m B L f A P k) : B ∉ [b, m] := by
  obtain ⟨cur, h1, _⟩ := h.tab.ex
  exact h.K.Q.out h1 (by decide)
theorem HSt.len (h : HSt w wr q b m B L f A P k) : L.length ≤ A := by have := h.K.Q.inc.len; have := h.K.Q.le; omega
theorem HSt.mem (h : HSt w wr q b m B L f A P k) {t : Nat} {v : Int} (hm : (t, v) ∈ L) : P < t ∧ 1 ≤ t ∧ t ≤ A ∧ f t = false ∧ v = (t : Int) := by
  have h1 := h.hP _ hm
  rw [h.hL] at hm
  obtain ⟨a, b, c, d⟩ := mem_partQ.1 hm
  exact ⟨h1, a, by simp only at b; omega, c, d⟩
/-- A queue outlives a mark in the table. -/
theorem KQ.mark {g : Nat} (h : KQ w wr q b m L g) (ht : TabG wr B f) (hB : w.heap.size ≤ B) (x : Nat) (v : Value) : KQ w (wr.setCell ⟨B, x, none⟩ v) q b m L g := by
  obtain ⟨cur, h1, _⟩ := ht.ex
  have hf := fr_setCell wr ⟨B, x, none⟩ v
  refine ⟨h.Q.fr hf ?_ ?_ ?_, h.below.trans (hf.below (fun y hy => ?_) h.below.size), h.lq, h.lb, h.lm⟩
  · simpa using ne_types h.Q.q h1 (by decide)
  · simpa using ne_types h.Q.b h1 (by decide)
  · simpa using (h.Q.m.ne h1).symm
  · simp at hy; subst hy; exact hB
theorem HSt.push (h : HSt w wr q b m B L f A P k) (hq : QAt w' q b m (L ++ [(A + 1, ((A + 1 : Nat) : Int))]) (A + 1)) (hf : Fr [b, m] wr w') (hk : k < 60) :
    HSt w w' q b m B (L ++ [(A + 1, ((A + 1 : Nat) : Int))]) f (A + 1) P (k + 1) := by
  refine ⟨h.K.step hq hf, h.tab.keep (hf.block _ h.tab.lt h.nf), h.hB, ?_, fun t ht => h.hf t (by omega), fun e he => ?_, by have := h.hPA; omega, by have := h.hA; omega, by omega⟩
  · rw [h.hL, partQ_last, Nat.add_comm 1 A, h.hf (A + 1) (by omega)]; simp
  · rcases List.mem_append.1 he with he | he
    · exact h.hP e he
    · simp at he; subst he; have := h.hPA; show P < A + 1; omega
theorem HSt.pop {t : Nat} {v : Int} {R : Qu} (h : HSt w wr q b m B ((t, v) :: R) f A P k) (hq : QAt w' q b m R A) (hf : Fr [b, m] wr w') (hk : k < 60) :
    HSt w (w'.setCell ⟨B, t, none⟩ (.bool true)) q b m B R (setT f t) A t (k + 1) := by
  obtain ⟨m1, m2, m3, m4, m5⟩ := h.mem (List.mem_cons_self ..)
  have ht := h.tab.keep (hf.block _ h.tab.lt h.nf)
  have hs := partQ_split (n := A) m2 m3 m4
  have hnil : partQ f 1 (t - 1) = [] := by
    have e := h.hL
    rw [hs.1] at e
    cases hp : partQ f 1 (t - 1) with
    | nil => rfl
    | cons x r =>
      rw [hp] at e
      have hx : x ∈ partQ f 1 (t - 1) := by rw [hp]; exact List.mem_cons_self ..
      have e1 := (List.cons.inj e).1
      rw [← e1] at hx
      have := (mem_partQ.1 hx).2.1
      simp only at this
      omega
  have e := h.hL
  rw [hs.1, hnil] at e
  have hR : R = partQ f (t + 1) (A - t) := by simpa using (List.cons.inj e).2
  refine ⟨(h.K.step hq hf).mark ht h.hB t _, ht.set t (by have := h.hA; omega), h.hB, ?_, fun x hx => ?_, fun e he => ?_, m3, by have := h.hA; omega, by omega⟩
  · rw [hs.2, hnil, hR]; rfl
  · have : x ≠ t := by omega
    simp [setT, this, h.hf x hx]
  · rw [hR] at he
    have := (mem_partQ.1 he).1
    omega
theorem HSt.rem {t : Nat} (h : HSt w wr q b m B L f A P k) (m2 : 1 ≤ t) (m3 : t ≤ A) (m4 : f t = false) : ∃ X Y, L = X ++ (t, (t : Int)) :: Y ∧
    ∀ w', QAt w' q b m (X ++ Y) A → Fr [b, m] wr w' → k < 60 → HSt w (w'.setCell ⟨B, t, none⟩ (.bool true)) q b m B (X ++ Y) (setT f t) A P (k + 1) := by
  have hs := partQ_split (n := A) m2 m3 m4
  have hL := h.hL
  rw [hs.1] at hL
  refine ⟨_, _, hL, fun w' hq hf hk => ?_⟩
  have ht := h.tab.keep (hf.block _ h.tab.lt h.nf)
  refine ⟨(h.K.step hq hf).mark ht h.hB t _, ht.set t (by have := h.hA; omega), h.hB, hs.2.symm, fun x hx => ?_, fun e he => h.hP e ?_, h.hPA, by have := h.hA; omega, by omega⟩
  · have : x ≠ t := by omega
    simp [setT, this, h.hf x hx]
  · rw [hL]
    rcases List.mem_append.1 he with he | he
    · exact List.mem_append_left _ he
    · exact List.mem_append_right _ (List.mem_cons_of_mem _ he)
theorem HSt.no {t : Nat} (h : HSt w wr q b m B L f A P k) (hn : ¬(1 ≤ t ∧ t ≤ A ∧ f t = false)) : lks 0 0 L t = none := lks_none fun hm => by
  obtain ⟨e, he, rfl⟩ := List.mem_map.1 hm
  obtain ⟨t, v⟩ := e
  obtain ⟨_, m2, m3, m4, _⟩ := h.mem he
  exact hn ⟨m2, m3, m4⟩
end
end Go.Proofs.Ytopkikdbhapfmaa
