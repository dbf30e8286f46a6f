/- Maps in memory, of keys and elements of any types: what a look-up, a store, a deletion, len and a range over them make. -/
import Derived.Test.YteimjkmjofaieaaBMem
import Derived.MapKept
import Derived.StillTailTactics
import Derived.Maps.RangeWalk
namespace Go.Proofs.Yteimjkmjofaieaa
open Go.RowKit Go.Sort Go.MapKept
set_option linter.unusedVariables false
set_option linter.unusedSimpArgs false
set_option linter.unusedSectionVars false

/-- How keys and elements of a type of maps lie in memory. -/
structure GM (κ ν : Type) where
  tm : TypeId
  tk : TypeId
  te : TypeId
  k : κ → Value
  v : ν → Value
  z : Value
section
variable {κ ν : Type} [DecidableEq κ]
def gfnd : List (κ × ν) → κ → Option ν
  | [], _ => none
  | (t, x) :: r, k => if t = k then some x else gfnd r k
def gix : List (κ × ν) → κ → Nat → Option (Nat × ν)
  | [], _, _ => none
  | (t, x) :: r, k, i => if t = k then some (i, x) else gix r k (i + 1)
def updG (f : κ → Option ν) (k : κ) (x : Option ν) : κ → Option ν := fun j => if j = k then x else f j
theorem gfnd_none {M : List (κ × ν)} {k : κ} (h : ∀ p ∈ M, p.1 ≠ k) : gfnd M k = none := by
  induction M with
  | nil => rfl
  | cons x r ih =>
    obtain ⟨t, y⟩ := x
    show (if t = k then _ else _) = none
    rw [if_neg (h (t, y) (by simp))]
    exact ih fun p hp => h p (by simp [hp])
theorem gfnd_at {M : List (κ × ν)} (hn : (M.map Prod.fst).Nodup) {j : Nat} {k : κ} {x : ν} (h : M[j]? = some (k, x)) : gfnd M k = some x := by
  induction M generalizing j with
  | nil => simp at h
  | cons y r ih =>
    obtain ⟨t, z⟩ := y
    simp only [List.map_cons, List.nodup_cons] at hn
    show (if t = k then some z else gfnd r k) = some x
    cases j with
    | zero => simp at h; rw [if_pos h.1, h.2]
    | succ j =>
      simp at h
      rw [if_neg ?_]
      · exact ih hn.2 h
      · rintro rfl
        exact hn.1 (List.mem_map.2 ⟨_, List.mem_of_getElem? h, rfl⟩)
theorem gfnd_mem {M : List (κ × ν)} {k : κ} {x : ν} (h : gfnd M k = some x) : (k, x) ∈ M := by
  induction M with
  | nil => cases h
  | cons y r ih =>
    obtain ⟨t, z⟩ := y
    change (if t = k then some z else gfnd r k) = some x at h
    by_cases e : t = k
    · rw [if_pos e] at h; cases h; subst e; exact List.mem_cons_self
    · rw [if_neg e] at h; exact List.mem_cons_of_mem _ (ih h)
theorem gfnd_append (M N : List (κ × ν)) (k : κ) : gfnd (M ++ N) k = (gfnd M k).or (gfnd N k) := by
  induction M with
  | nil => rfl
  | cons y r ih =>
    obtain ⟨t, z⟩ := y
    show (if t = k then some z else gfnd (r ++ N) k) = (if t = k then some z else gfnd r k).or (gfnd N k)
    rw [ih]
    split <;> rfl
theorem gfnd_set {M : List (κ × ν)} (hn : (M.map Prod.fst).Nodup) {j : Nat} {k : κ} {x y : ν} (h : M[j]? = some (k, x)) : ∀ i, gfnd (M.set j (k, y)) i = updG (gfnd M) k (some y) i := by
  induction M generalizing j with
  | nil => simp at h
  | cons z r ih =>
    obtain ⟨t, u⟩ := z
    simp only [List.map_cons, List.nodup_cons] at hn
    intro i
    cases j with
    | zero =>
      simp at h
      obtain ⟨rfl, rfl⟩ := h
      show (if t = i then some y else gfnd r i) = if i = t then some y else (if t = i then some u else gfnd r i)
      by_cases e : i = t
      · subst e; simp
      · rw [if_neg (Ne.symm e), if_neg e, if_neg (Ne.symm e)]
    | succ j =>
      simp at h
      have htk : t ≠ k := fun e => hn.1 (List.mem_map.2 ⟨_, List.mem_of_getElem? h, e.symm⟩)
      show (if t = i then some u else gfnd (r.set j (k, y)) i) = if i = k then some y else (if t = i then some u else gfnd r i)
      rw [ih hn.2 h i]
      unfold updG
      by_cases h1 : t = i
      · subst h1; simp [htk]
      · simp [h1]
theorem gfnd_erase {M : List (κ × ν)} (hn : (M.map Prod.fst).Nodup) {j : Nat} {k : κ} {x : ν} (h : M[j]? = some (k, x)) : ∀ i, gfnd (M.eraseIdx j) i = updG (gfnd M) k none i := by
  induction M generalizing j with
  | nil => simp at h
  | cons z r ih =>
    obtain ⟨t, u⟩ := z
    simp only [List.map_cons, List.nodup_cons] at hn
    intro i
    cases j with
    | zero =>
      simp at h
      obtain ⟨rfl, rfl⟩ := h
      show gfnd r i = if i = t then none else (if t = i then some u else gfnd r i)
      by_cases h1 : i = t
      · subst h1
        rw [if_pos rfl]
        exact gfnd_none fun p hp e => hn.1 (List.mem_map.2 ⟨p, hp, e⟩)
      · rw [if_neg h1, if_neg (Ne.symm h1)]
    | succ j =>
      simp at h
      have htk : t ≠ k := fun e => hn.1 (List.mem_map.2 ⟨_, List.mem_of_getElem? h, e.symm⟩)
      show (if t = i then some u else gfnd (r.eraseIdx j) i) = if i = k then none else (if t = i then some u else gfnd r i)
      rw [ih hn.2 h i]
      unfold updG
      by_cases h1 : t = i
      · subst h1; simp [htk]
      · simp [h1]
theorem gix_spec (M : List (κ × ν)) (k : κ) (i : Nat) : (gix M k i = none ∧ ∀ p ∈ M, p.1 ≠ k) ∨ ∃ j x, gix M k i = some (i + j, x) ∧ M[j]? = some (k, x) := by
  induction M generalizing i with
  | nil => exact .inl ⟨rfl, fun p hp => by cases hp⟩
  | cons y r ih =>
    obtain ⟨t, z⟩ := y
    by_cases e : t = k
    · subst e
      exact .inr ⟨0, z, by show (if t = t then _ else _) = _; rw [if_pos rfl]; rfl, rfl⟩
    · rcases ih (i + 1) with ⟨h1, h2⟩ | ⟨j, x, h1, h2⟩
      · refine .inl ⟨by show (if t = k then _ else _) = _; rw [if_neg e]; exact h1, fun p hp => ?_⟩
        rcases List.mem_cons.1 hp with rfl | hp
        · exact e
        · exact h2 p hp
      · exact .inr ⟨j + 1, x, by show (if t = k then _ else _) = _; rw [if_neg e, h1]; congr 2; omega, h2⟩

/-- The entries of a map. -/
def GEnt (T : GM κ ν) (es : List MapEntry) (M : List (κ × ν)) : Prop := es.map (fun e => (e.key, e.val)) = M.map fun p => (T.k p.1, T.v p.2)
/-- What is known of the types. -/
structure GM.Ok (T : GM κ ν) : Prop where
  und : Try.prog.underlying T.tm = some (.map T.tk T.te)
  find : ∀ (w : World) (k : κ) (l : List MapEntry) (M : List (κ × ν)), GEnt T l M → (Instr.findKey T.tk (T.k k) l).run Try.prog w = .ok ((gix M k 0).map fun p => (p.1, T.v p.2)) w
  chk : ∀ (w : World) (e : Bool) (k : κ), (Instr.checkKey e 10000 T.tk (T.k k)).run Try.prog w = .ok () w
  same : ∀ k, Instr.sameBits 10000 (T.k k) (T.k k) = true
  zero : ∀ w : World, (zeroValue T.te).run Try.prog w = .ok T.z w
theorem GEnt.at {T : GM κ ν} {es : List MapEntry} {M : List (κ × ν)} (h : GEnt T es M) {j : Nat} {e : MapEntry} (he : es[j]? = some e) : ∃ p, M[j]? = some p ∧ e.key = T.k p.1 ∧ e.val = T.v p.2 := by
  have h1 : (es.map fun e => (e.key, e.val))[j]? = some (e.key, e.val) := by rw [List.getElem?_map, he]; rfl
  rw [h, List.getElem?_map] at h1
  cases hp : M[j]? with
  | none => rw [hp] at h1; cases h1
  | some p =>
    rw [hp] at h1
    simp only [Option.map_some, Option.some.injEq, Prod.mk.injEq] at h1
    exact ⟨p, rfl, h1.1.symm, h1.2.symm⟩
theorem GEnt.len {T : GM κ ν} {es : List MapEntry} {M : List (κ × ν)} (h : GEnt T es M) : es.length = M.length := by
  have := congrArg List.length h
  simpa using this
theorem GEnt.at' {T : GM κ ν} {es : List MapEntry} {M : List (κ × ν)} (h : GEnt T es M) {j : Nat} {p : κ × ν} (hp : M[j]? = some p) : ∃ e, es[j]? = some e ∧ e.key = T.k p.1 ∧ e.val = T.v p.2 := by
  have hl : j < es.length := by rw [h.len]; exact (List.getElem?_eq_some_iff.1 hp).1
  obtain ⟨p', h1, h2, h3⟩ := h.at (List.getElem?_eq_getElem hl)
  rw [hp] at h1
  cases h1
  exact ⟨_, List.getElem?_eq_getElem hl, h2, h3⟩

/-- Block m is a map of n elements. -/
def MapAt (T : GM κ ν) (w : World) (m n : Nat) (f : κ → Option ν) : Prop :=
  ∃ (M : List (κ × ν)) (es : Array MapEntry) (clock : Nat), w.heap[m]? = some (.map es clock) ∧ GEnt T es.toList M ∧ (M.map Prod.fst).Nodup ∧ M.length = n ∧ (∀ k, f k = gfnd M k) ∧ (∀ e ∈ es.toList, e.born < clock) ∧ (es.toList.map (·.born)).Nodup

variable {T : GM κ ν} {w w' : World} {m n : Nat} {f : κ → Option ν}
theorem MapAt.lt (h : MapAt T w m n f) : m < w.heap.size := by
  obtain ⟨M, es, clock, hb, _⟩ := h
  exact lt_of_block hb
theorem MapAt.same (h : MapAt T w m n f) (hs : w'.heap[m]? = w.heap[m]?) : MapAt T w' m n f := by
  obtain ⟨M, es, clock, hb, r⟩ := h
  exact ⟨M, es, clock, hs.trans hb, r⟩
theorem MapAt.congr {g : κ → Option ν} (h : MapAt T w m n f) (hs : ∀ k, g k = f k) : MapAt T w m n g := by
  obtain ⟨M, es, clock, hb, h1, h2, h3, h4, h5, h6⟩ := h
  exact ⟨M, es, clock, hb, h1, h2, h3, fun k => (hs k).trans (h4 k), h5, h6⟩
theorem MapAt.ne (h : MapAt T w m n f) {k : Nat} {y : Array Value} {u : TypeId} {z : Nat × Nat} (hc : w.heap[k]? = some (.cells y u z)) : k ≠ m := by
  rintro rfl
  obtain ⟨M, es, clock, hb, _⟩ := h
  rw [hb] at hc
  cases hc
theorem mapAt_made (T : GM κ ν) (w : World) : MapAt T (w.alloc (.map #[] 0)) w.heap.size 0 (fun _ => none) := ⟨[], #[], 0, heap_alloc_new w _, rfl, List.nodup_nil, rfl, fun _ => rfl, by simp, by simp⟩

/-- What the search for a key gives. -/
theorem gfind_key (hT : T.Ok) (w : World) {es : Array MapEntry} {M : List (κ × ν)} (h : GEnt T es.toList M) (hn : (M.map Prod.fst).Nodup) (k : κ) :
    ((Instr.findKey T.tk (T.k k) es.toList).run Try.prog w = .ok none w ∧ (∀ p ∈ M, p.1 ≠ k) ∧ gfnd M k = none) ∨
    ∃ j x e, (Instr.findKey T.tk (T.k k) es.toList).run Try.prog w = .ok (some (j, T.v x)) w ∧ M[j]? = some (k, x) ∧ es.toList[j]? = some e ∧ e.key = T.k k ∧ gfnd M k = some x := by
  have h0 := hT.find w k es.toList M h
  rcases gix_spec M k 0 with ⟨h1, h2⟩ | ⟨j, x, h1, h2⟩
  · rw [h1] at h0
    exact .inl ⟨h0, h2, gfnd_none h2⟩
  · rw [h1, Nat.zero_add] at h0
    obtain ⟨e, he, hk, _⟩ := h.at' h2
    exact .inr ⟨j, x, e, h0, h2, he, hk, gfnd_at hn h2⟩

theorem MapAt.look_yes (hT : T.Ok) (h : MapAt T w m n f) {k : κ} {x : ν} (hf : f k = some x) (c : Bool) :
    (Instr.lookup T.tm (.map (some m)) (T.k k) c).run Try.prog w = .ok (if c then .tuple #[T.v x, .bool true] else T.v x) w := by
  obtain ⟨M, es, clock, hb, h1, h2, h3, h4, h5, h6⟩ := h
  rcases gfind_key hT w h1 h2 k with ⟨r1, _, r2⟩ | ⟨j, y, e, r1, _, _, _, r2⟩
  · rw [h4, r2] at hf; cases hf
  · rw [h4, r2] at hf
    obtain rfl := Option.some.inj hf
    simp [Instr.lookup, run_underlying hT.und, MapKept.run_getObj_map hb, hT.chk, r1, Result.andThen]
theorem MapAt.look_no (hT : T.Ok) (h : MapAt T w m n f) {k : κ} (hf : f k = none) (c : Bool) :
    (Instr.lookup T.tm (.map (some m)) (T.k k) c).run Try.prog w = .ok (if c then .tuple #[T.z, .bool false] else T.z) w := by
  obtain ⟨M, es, clock, hb, h1, h2, h3, h4, h5, h6⟩ := h
  rcases gfind_key hT w h1 h2 k with ⟨r1, _, r2⟩ | ⟨j, y, e, r1, _, _, _, r2⟩
  · simp [Instr.lookup, run_underlying hT.und, MapKept.run_getObj_map hb, hT.chk, r1, hT.zero, Result.andThen]
  · rw [h4, r2] at hf; cases hf
theorem MapAt.len (hT : T.Ok) (h : MapAt T w m n f) (ty : TypeId) : (Builtin.len_ #[T.tm] ty #[.map (some m)]).run Try.prog w = .ok (.int .i64 ((n : Nat) : Int)) w := by
  obtain ⟨M, es, clock, hb, h1, h2, h3, h4, h5, h6⟩ := h
  have : es.size = n := by have := h1.len; simp at this; omega
  simp [Builtin.len_, run_underlying hT.und, MapKept.run_getObj_map hb, goInt, Result.andThen, this]

theorem fr_blockG (w : World) (m : Nat) (o : Obj) : Fr [m] w { w with heap := w.heap.setIfInBounds m o } :=
  ⟨rfl, rfl, rfl, by simp, fun k _ hn => by simp at hn; simp [Ne.symm hn]⟩

theorem MapAt.put (hT : T.Ok) (h : MapAt T w m n f) (k : κ) (x : ν) : ∃ w', (Instr.mapUpdate T.tm (.map (some m)) (T.k k) (T.v x)).run Try.prog w = .ok () w' ∧ MapAt T w' m (if (f k).isSome then n else n + 1) (updG f k (some x)) ∧ Fr [m] w w' ∧ w'.heap.size = w.heap.size ∧ w'.drawn = w.drawn := by
  obtain ⟨M, es, clock, hb, h1, h2, h3, h4, h5, h6⟩ := h
  have hlt := lt_of_block hb
  rcases gfind_key hT w h1 h2 k with ⟨r1, r0, r2⟩ | ⟨j, y, e, r1, r3, r4, r5, r2⟩
  · refine ⟨{ w with heap := w.heap.setIfInBounds m (.map (es.push { key := T.k k, val := T.v x, born := clock }) (clock + 1)) }, ?_, ⟨M ++ [(k, x)], _, _, (MapKept.heap_set hb).1, ?_, ?_, ?_, ?_, ?_, ?_⟩, fr_blockG _ _ _, by simp, rfl⟩
    · simp [Instr.mapUpdate, run_underlying hT.und, MapKept.run_getObj_map hb, hT.chk, r1, MapKept.run_setObj_map _ hb, Result.andThen]
    · unfold GEnt at h1 ⊢
      simp [h1]
    · rw [List.map_append, List.nodup_append]
      refine ⟨h2, by simp, ?_⟩
      intro a ha b hb e
      obtain ⟨p, hp, rfl⟩ := List.mem_map.1 ha
      simp at hb
      exact r0 p hp (e.trans hb)
    · rw [h4, r2]; simp [h3]
    · intro i
      rw [gfnd_append]
      unfold updG
      rw [h4]
      by_cases hi : i = k
      · subst hi; simp [r2, gfnd]
      · simp [hi, gfnd, Ne.symm hi]
    · intro e he
      simp at he
      rcases he with he | rfl
      · have := h5 e (by simpa using he); omega
      · simp
    · rw [Array.toList_push, List.map_append, List.nodup_append]
      refine ⟨h6, by simp, ?_⟩
      intro a ha b hb e
      obtain ⟨p, hp, rfl⟩ := List.mem_map.1 ha
      simp at hb
      have := h5 p hp
      omega
  · have hst : ∀ w : World, (Instr.keyThatStays (T.k k) (T.k k)).run Try.prog w = .ok (T.k k) w := fun w => by simp [Instr.keyThatStays, hT.same k]
    have hj : es[j]? = some e := by simpa using r4
    have hjl : j < es.size := (Array.getElem?_eq_some_iff.1 hj).1
    have hml : j < M.length := (List.getElem?_eq_some_iff.1 r3).1
    have hborn : (es.modify j fun e => { e with key := T.k k, val := T.v x }).toList.map (·.born) = es.toList.map (·.born) := by
      apply List.ext_getElem?
      intro i
      simp only [List.getElem?_map, Array.getElem?_toList, Array.getElem?_modify]
      split
      · cases es[i]? <;> rfl
      · rfl
    refine ⟨{ w with heap := w.heap.setIfInBounds m (.map (es.modify j fun e => { e with key := T.k k, val := T.v x }) clock) }, ?_, ⟨M.set j (k, x), _, _, (MapKept.heap_set hb).1, ?_, ?_, ?_, ?_, ?_, ?_⟩, fr_blockG _ _ _, by simp, rfl⟩
    · simp [Instr.mapUpdate, run_underlying hT.und, MapKept.run_getObj_map hb, hT.chk, r1, hj, r5, hst, MapKept.run_setObj_map _ hb, Result.andThen]
    · unfold GEnt at h1 ⊢
      apply List.ext_getElem?
      intro i
      have hi := congrArg (fun l => l[i]?) h1
      simp only [List.getElem?_map, Array.getElem?_toList, Array.getElem?_modify, List.getElem?_set] at hi ⊢
      by_cases hij : j = i
      · subst hij
        simp [hml, hjl]
      · simp only [hij, if_false]
        exact hi
    · have : (M.set j (k, x)).map Prod.fst = M.map Prod.fst := by
        rw [List.map_set]
        apply List.ext_getElem?
        intro i
        rw [List.getElem?_set]
        split
        · rename_i hij
          subst hij
          rw [List.getElem?_map, r3]
          simp [hml]
        · rfl
      rw [this]; exact h2
    · rw [h4, r2]; simp [h3]
    · intro i
      rw [gfnd_set h2 r3]
      unfold updG
      rw [h4]
    · intro e' he'
      have : e'.born ∈ es.toList.map (·.born) := by rw [← hborn]; exact List.mem_map_of_mem he'
      obtain ⟨e2, h7, h8⟩ := List.mem_map.1 this
      rw [← h8]
      exact h5 e2 h7
    · rw [hborn]; exact h6
theorem geraseIdx_map {α β : Type} (f : α → β) (l : List α) (j : Nat) : (l.map f).eraseIdx j = (l.eraseIdx j).map f := by
  induction l generalizing j with
  | nil => rfl
  | cons x r ih => cases j with
    | zero => rfl
    | succ j => simp [ih]
theorem MapAt.drop (hT : T.Ok) (h : MapAt T w m n f) (k : κ) {x : ν} (hf : f k = some x) (ty : TypeId) : ∃ w', (Builtin.delete_ #[T.tm, T.tk] ty #[.map (some m), T.k k]).run Try.prog w = .ok (.tuple #[]) w' ∧ MapAt T w' m (n - 1) (updG f k none) ∧ Fr [m] w w' ∧ w'.heap.size = w.heap.size := by
  obtain ⟨M, es, clock, hb, h1, h2, h3, h4, h5, h6⟩ := h
  rcases gfind_key hT w h1 h2 k with ⟨r1, r0, r2⟩ | ⟨j, y, e, r1, r3, r4, r5, r2⟩
  · rw [h4, r2] at hf; cases hf
  · have hjl : j < es.size := by have := (List.getElem?_eq_some_iff.1 r4).1; simpa using this
    have he : (es.eraseIdxIfInBounds j).toList = es.toList.eraseIdx j := by
      unfold Array.eraseIdxIfInBounds
      rw [dif_pos hjl]
      simp
    refine ⟨{ w with heap := w.heap.setIfInBounds m (.map (es.eraseIdxIfInBounds j) clock) }, ?_, ⟨M.eraseIdx j, _, _, (MapKept.heap_set hb).1, ?_, ?_, ?_, ?_, ?_, ?_⟩, fr_blockG _ _ _, by simp⟩
    · simp [Builtin.delete_, run_underlying hT.und, MapKept.run_getObj_map hb, hT.chk, r1, MapKept.run_setObj_map _ hb, Result.andThen]
    · unfold GEnt at h1 ⊢
      rw [he, ← geraseIdx_map, h1, geraseIdx_map]
    · rw [← geraseIdx_map]; exact h2.sublist (List.eraseIdx_sublist _ _)
    · have := (List.getElem?_eq_some_iff.1 r3).1
      rw [List.length_eraseIdx, if_pos this, h3]
    · intro i
      rw [gfnd_erase h2 r3]
      unfold updG
      rw [h4]
    · intro e' he'
      rw [he] at he'
      exact h5 e' (List.mem_of_mem_eraseIdx he')
    · rw [he, ← geraseIdx_map]
      exact h6.sublist (List.eraseIdx_sublist _ _)

variable {ops : Array Oper} {rest : List Oper} {o : Oper} {a : Act} {Q : Exit → Act → World → Prop}
theorem wpList_putG (hT : T.Ok) (hg : o.guard = none) (vm vk vx : Operand) (hop : o.op = Op.mapUpdate T.tm vm vk vx) (h : MapAt T w m n f) (k : κ) (x : ν) (hm : a.eval vm = .map (some m)) (hk : a.eval vk = T.k k) (hx : a.eval vx = T.v x)
    (hK : ∀ w', MapAt T w' m (if (f k).isSome then n else n + 1) (updG f k (some x)) → Fr [m] w w' → w'.heap.size = w.heap.size → wpList Try.prog ops Q rest (a.put o.dst undef) w') : wpList Try.prog ops Q (o :: rest) a w := by
  refine wpList_plain hg fun K' hK' => ?_
  obtain ⟨w', hrun, r1, r2, r3, _⟩ := h.put hT k x
  unfold Oper.wp
  simp [execOp, hop, hm, hk, hx, hrun, Result.andThen]
  exact hK' _ _ (hK w' r1 r2 r3)
theorem wpList_dropG (hT : T.Ok) (hg : o.guard = none) (vm vk : Operand) (hop : o.op = Op.call { callee := Callee.builtin Builtin.delete, args := #[vm, vk], argTypes := #[T.tm, T.tk] }) (h : MapAt T w m n f) (k : κ) {x : ν} (hf : f k = some x) (hm : a.eval vm = .map (some m)) (hk : a.eval vk = T.k k)
    (hK : ∀ w', MapAt T w' m (n - 1) (updG f k none) → Fr [m] w w' → w'.heap.size = w.heap.size → wpList Try.prog ops Q rest (a.put o.dst (.tuple #[])) w') : wpList Try.prog ops Q (o :: rest) a w := by
  refine wpList_plain hg fun K' hK' => ?_
  obtain ⟨w', hrun, r1, r2, r3⟩ := h.drop hT k hf o.type
  unfold Oper.wp
  simp [execOp, hop, resolve, invoke, builtin, hm, hk, hrun, Result.andThen]
  exact hK' _ _ (hK w' r1 r2 r3)

/-- An iterator in block r over the map in block m; left: the keys that are still to come. -/
def ItAt (T : GM κ ν) (w : World) (m r : Nat) (f : κ → Option ν) (left : κ → Bool) (cnt : Nat) : Prop :=
  ∃ (M : List (κ × ν)) (es : Array MapEntry) (clock since c0 : Nat) (seen : Array Nat), w.heap[m]? = some (.map es clock) ∧ GEnt T es.toList M ∧ (M.map Prod.fst).Nodup ∧ (∀ k, f k = gfnd M k) ∧ (es.toList.map (·.born)).Nodup ∧
    w.heap[r]? = some (.mapIter (some m) since seen c0) ∧ (∀ e : MapEntry, e ∈ es.toList → e.born < since) ∧ since ≤ c0 ∧ since ≤ clock ∧ cnt = (leftOf es seen).size ∧ ∀ k, left k = true ↔ ∃ (j : Nat) (x : ν) (e : MapEntry), M[j]? = some (k, x) ∧ es.toList[j]? = some e ∧ seen.contains e.born = false
theorem ItAt.same {r : Nat} {left : κ → Bool} {cnt : Nat} (h : ItAt T w m r f left cnt) (h1 : w'.heap[m]? = w.heap[m]?) (h2 : w'.heap[r]? = w.heap[r]?) : ItAt T w' m r f left cnt := by
  obtain ⟨M, es, clock, since, c0, seen, a1, a2, a3, a4, a5, a6, r⟩ := h
  exact ⟨M, es, clock, since, c0, seen, h1.trans a1, a2, a3, a4, a5, h2.trans a6, r⟩
theorem ItAt.lt {r : Nat} {left : κ → Bool} {cnt : Nat} (h : ItAt T w m r f left cnt) : m < w.heap.size ∧ r < w.heap.size ∧ m ≠ r := by
  obtain ⟨M, es, clock, since, c0, seen, a1, a2, a3, a4, a5, a6, _⟩ := h
  refine ⟨lt_of_block a1, lt_of_block a6, ?_⟩
  rintro rfl
  rw [a1] at a6
  cases a6
theorem ItAt.out {r : Nat} {left : κ → Bool} {cnt : Nat} (h : ItAt T w m r f left cnt) {k : Nat} {y : Array Value} {u : TypeId} {z : Nat × Nat} (hc : w.heap[k]? = some (.cells y u z)) : k ≠ m ∧ k ≠ r := by
  obtain ⟨M, es, clock, since, c0, seen, a1, a2, a3, a4, a5, a6, _⟩ := h
  constructor
  · rintro rfl; rw [a1] at hc; cases hc
  · rintro rfl; rw [a6] at hc; cases hc
theorem ItAt.outM {r : Nat} {left : κ → Bool} {cnt : Nat} (h : ItAt T w m r f left cnt) {k : Nat} {y : Array MapEntry} {u : Nat} (hc : w.heap[k]? = some (.map y u)) : k ≠ r := by
  obtain ⟨M, es, clock, since, c0, seen, a1, a2, a3, a4, a5, a6, _⟩ := h
  rintro rfl; rw [a6] at hc; cases hc

theorem ItAt.iter {r : Nat} {left : κ → Bool} {cnt : Nat} (h : ItAt T w m r f left cnt) : ∃ a b c d, w.heap[r]? = some (.mapIter a b c d) := by
  obtain ⟨M, es, clock, since, c0, seen, a1, a2, a3, a4, a5, a6, _⟩ := h
  exact ⟨_, _, _, _, a6⟩
theorem wpList_rangeG (hT : T.Ok) (hg : o.guard = none) (vm : Operand) (hop : o.op = Op.range T.tm vm) (h : MapAt T w m n f) (hm : a.eval vm = .map (some m))
    (hK : ∀ w' left cnt, ItAt T w' m w.heap.size f left cnt → (∀ k, left k = true ↔ (f k).isSome = true) → Below w.heap.size w w' → w'.heap.size = w.heap.size + 1 → wpList Try.prog ops Q rest (a.put o.dst (.pointer (some ⟨w.heap.size, 0, none⟩))) w') : wpList Try.prog ops Q (o :: rest) a w := by
  refine wpList_plain hg fun K' hK' => ?_
  obtain ⟨M, es, clock, hb, h1, h2, h3, h4, h5, h6⟩ := h
  have hlt := lt_of_block hb
  have hb' : (w.alloc (.mapIter (some m) clock #[] clock)).heap[m]? = some (.map es clock) := by rw [heap_alloc_old w _ hlt, hb]
  have hit : ∃ left cnt, ItAt T (w.alloc (.mapIter (some m) clock #[] clock)) m w.heap.size f left cnt ∧ (∀ k, left k = true ↔ (f k).isSome = true) := by
    refine ⟨fun k => (f k).isSome, _, ⟨M, es, clock, clock, clock, #[], hb', h1, h2, h4, h6, heap_alloc_new w _, h5, Nat.le_refl _, Nat.le_refl _, rfl, fun k => ⟨fun hk => ?_, fun ⟨j, x, e, g1, g2, g3⟩ => ?_⟩⟩, fun k => Iff.rfl⟩
    · obtain ⟨x, hx⟩ := Option.isSome_iff_exists.1 hk
      rw [h4] at hx
      obtain ⟨j, hj⟩ := List.getElem?_of_mem (gfnd_mem hx)
      obtain ⟨e, he, _, _⟩ := h1.at' hj
      exact ⟨j, x, e, hj, he, by simp⟩
    · show (f k).isSome = true
      rw [h4, gfnd_at h2 g1]; rfl
  obtain ⟨left, cnt, hit, hl⟩ := hit
  unfold Oper.wp
  simp [execOp, hop, hm, Instr.range, run_underlying hT.und, MapKept.run_getObj_map hb, newObj, Result.andThen]
  exact hK' _ _ (hK _ left cnt hit hl ((Below.refl _ _).alloc (Nat.le_refl _) _) (by simp))
theorem wpList_nextG (hT : T.Ok) (hg : o.guard = none) (it : Operand) (hop : o.op = Op.next it false) {r cnt : Nat} {left : κ → Bool} (h : ItAt T w m r f left cnt) (hit : a.eval it = .pointer (some ⟨r, 0, none⟩))
    (hDone : (∀ k, left k = false) → wpList Try.prog ops Q rest (a.put o.dst (.tuple #[.bool false])) w)
    (hMore : ∀ k x w' left' cnt', f k = some x → left k = true → ItAt T w' m r f left' cnt' → (∀ j, left' j = (left j && !decide (j = k))) → cnt' < cnt → Fr [r] w w' → w'.heap.size = w.heap.size →
      (Instr.entry (.pointer (some ⟨r, 0, none⟩))).run Try.prog w' = .ok (.tuple #[T.k k, T.v x]) w' → wpList Try.prog ops Q rest (a.put o.dst (.tuple #[.bool true, T.k k, T.v x])) w') : wpList Try.prog ops Q (o :: rest) a w := by
  refine wpList_plain hg fun K' hK' => ?_
  obtain ⟨M, es, clock, since, c0, seen, a1, a2, a3, a4, a5, a6, a7, a8, a9, a10, a11⟩ := h
  unfold Oper.wp
  rcases run_next_at (P := Try.prog) w o.type r m since c0 seen es clock a6 a1 a7 a8 with ⟨h0, hrun⟩ | ⟨e, he, w1, hw1, hrun⟩
  · simp [execOp, hop, hit, hrun, Result.andThen]
    refine hK' _ _ (hDone fun k => ?_)
    cases hk : left k with
    | false => rfl
    | true =>
      obtain ⟨j, x, e, g1, g2, g3⟩ := (a11 k).1 hk
      have := all_seen es seen h0 e (List.mem_of_getElem? g2)
      rw [g3] at this
      cases this
  · obtain ⟨m1, m2⟩ := mem_left he
    obtain ⟨j, hj⟩ := List.getElem?_of_mem m1
    obtain ⟨⟨k, x⟩, hp, hk, hv⟩ := a2.at hj
    simp only at hk hv
    have hheap : w1.heap = w.heap := by rcases hw1 with rfl | rfl <;> rfl
    have hmr : m ≠ r := fun e => by rw [e] at a1; rw [a1] at a6; cases a6
    have hr : r < w.heap.size := lt_of_block a6
    have e1 : (ChangeMaps.setBlock w1 r (.mapIter (some m) since (seen.push e.born) clock)).heap[m]? = some (.map es clock) := by
      show (w1.heap.setIfInBounds r _)[m]? = _
      rw [hheap]; simp [Ne.symm hmr, a1]
    have e2 : (ChangeMaps.setBlock w1 r (.mapIter (some m) since (seen.push e.born) clock)).heap[r]? = some (.mapIter (some m) since (seen.push e.born) clock) := by
      show (w1.heap.setIfInBounds r _)[r]? = _
      rw [hheap]; simp [hr]
    have hen := run_entry_at (P := Try.prog) _ r m since seen es clock e e2 e1 m1 a5
    rw [hk, hv] at hrun hen
    simp [execOp, hop, hit, hrun, Result.andThen]
    refine hK' _ _ (hMore k x _ (fun i => left i && !decide (i = k)) _ (by rw [a4]; exact gfnd_at a3 hp) ((a11 k).2 ⟨j, x, e, hp, hj, m2⟩) ⟨M, es, clock, since, clock, seen.push e.born, e1, a2, a3, a4, a5, e2, a7, a9, a9, rfl, fun i => ?_⟩ (fun i => rfl) ?_ ?_ ?_ hen)
    · simp only [Bool.and_eq_true, Bool.not_eq_true', decide_eq_false_iff_not]
      rw [a11]
      constructor
      · rintro ⟨⟨j2, x2, e', g1, g2, g3⟩, hne⟩
        refine ⟨j2, x2, e', g1, g2, ?_⟩
        rw [contains_push, g3, Bool.false_or]
        cases hb : e'.born == e.born with
        | false => rfl
        | true =>
          have := born_inj a5 (List.mem_of_getElem? g2) m1 (beq_iff_eq.1 hb)
          subst this
          have h7 : (M.map Prod.fst)[j2]? = some i := by rw [List.getElem?_map, g1]; rfl
          have hjj : j2 = j := by
            have l1 := (List.getElem?_eq_some_iff.1 g2)
            have l2 := (List.getElem?_eq_some_iff.1 hj)
            have n1 : (es.toList.map (·.born))[j2]? = (es.toList.map (·.born))[j]? := by simp only [List.getElem?_map, g2, hj]
            exact (List.getElem?_inj (by simpa using l1.1) a5).1 n1
          subst hjj
          rw [g1] at hp
          cases hp
          exact absurd rfl hne
      · rintro ⟨j2, x2, e', g1, g2, g3⟩
        rw [contains_push] at g3
        simp only [Bool.or_eq_false_iff] at g3
        refine ⟨⟨j2, x2, e', g1, g2, g3.1⟩, ?_⟩
        rintro rfl
        have hjj : j2 = j := by
          have n1 : (M.map Prod.fst)[j2]? = (M.map Prod.fst)[j]? := by simp only [List.getElem?_map, g1, hp, Option.map_some]
          exact (List.getElem?_inj (by simpa using (List.getElem?_eq_some_iff.1 g1).1) a3).1 n1
        subst hjj
        rw [g2] at hj
        cases hj
        simp at g3
    · rw [a10]; exact left_shrinks es seen e he
    · refine ⟨?_, ?_, ?_, ?_, ?_⟩
      · rcases hw1 with rfl | rfl <;> rfl
      · rcases hw1 with rfl | rfl <;> rfl
      · rcases hw1 with rfl | rfl <;> rfl
      · show _ ≤ (w1.heap.setIfInBounds r _).size; rw [hheap]; simp
      · intro i hi hn
        show (w1.heap.setIfInBounds r _)[i]? = _
        rw [hheap]
        simp at hn
        simp [Ne.symm hn]
    · show (w1.heap.setIfInBounds r _).size = _; rw [hheap]; simp
end
end Go.Proofs.Yteimjkmjofaieaa
