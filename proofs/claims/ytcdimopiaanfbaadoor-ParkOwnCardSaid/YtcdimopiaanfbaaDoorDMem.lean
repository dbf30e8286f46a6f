/- Links in memory: a map from tickets to links; what a look-up, a store, a deletion and len make of it; a queue in memory. -/
import Derived.Test.YtcdimopiaanfbaaDoorDPure
import Derived.MapKept
import Derived.Maps.OwnSet
import Derived.Maps.OwnOps
import Derived.StillTailTactics
namespace Go.Proofs.YtcdimopiaanfbaaDoor
open Go.RowKit Go.Sort Go.MapKept
set_option linter.unusedVariables false
set_option linter.unusedSimpArgs false

theorem below_alloc (w : World) (o : Obj) : Below w.heap.size w (w.alloc o) := (Below.refl _ _).alloc (Nat.le_refl _) _
def encT (t : Nat) : Value := .int .u64 ((t : Nat) : Int)
def Lk.enc (x : Lk) : Value := .agg #[.int .i64 x.v, .int .u64 ((x.b : Nat) : Int), .int .u64 ((x.a : Nat) : Int)]
theorem encT_inj {a b : Nat} (h : encT a = encT b) : a = b := by
  unfold encT at h
  simp only [Value.int.injEq, true_and] at h
  omega

theorem eraseIdx_map' {α β : Type} (f : α → β) (l : List α) (j : Nat) : (l.map f).eraseIdx j = (l.eraseIdx j).map f := by
  induction l generalizing j with
  | nil => rfl
  | cons x r ih => cases j with
    | zero => rfl
    | succ j => simp [ih]
/-- What stands at a key. -/
def fnd : List (Nat × Lk) → Nat → Option Lk
  | [], _ => none
  | (t, x) :: r, k => if k = t then some x else fnd r k

/-- The entries of a map. -/
def Entries (es : Array MapEntry) (M : List (Nat × Lk)) : Prop := es.toList.map (fun e => (e.key, e.val)) = M.map fun p => (encT p.1, p.2.enc)

theorem Entries.at {es : Array MapEntry} {M : List (Nat × Lk)} (h : Entries es M) (j : Nat) (e : MapEntry) (he : es.toList[j]? = some e) : ∃ p, M[j]? = some p ∧ e.key = encT p.1 ∧ e.val = p.2.enc := by
  have h1 : (es.toList.map fun e => (e.key, e.val))[j]? = some (e.key, e.val) := by rw [List.getElem?_map, he]; rfl
  rw [h, List.getElem?_map] at h1
  cases hp : M[j]? with
  | none => rw [hp] at h1; cases h1
  | some p =>
    rw [hp] at h1
    simp only [Option.map_some, Option.some.injEq, Prod.mk.injEq] at h1
    exact ⟨p, rfl, h1.1.symm, h1.2.symm⟩
theorem Entries.len {es : Array MapEntry} {M : List (Nat × Lk)} (h : Entries es M) : es.size = M.length := by
  have := congrArg List.length h
  simpa using this
theorem Entries.keys {es : Array MapEntry} {M : List (Nat × Lk)} (h : Entries es M) : ∀ x ∈ es.toList, IsKey (.int .u64) x.key := by
  intro x hx
  obtain ⟨j, hj⟩ := List.getElem?_of_mem hx
  obtain ⟨p, _, hk, _⟩ := h.at j x hj
  rw [hk]
  exact rfl
theorem fnd_none {M : List (Nat × Lk)} {k : Nat} (h : ∀ p ∈ M, p.1 ≠ k) : fnd M k = none := by
  induction M with
  | nil => rfl
  | cons x r ih =>
    obtain ⟨t, y⟩ := x
    show (if k = t then _ else _) = none
    rw [if_neg (fun e => h (t, y) (by simp) e.symm)]
    exact ih fun p hp => h p (by simp [hp])
theorem fnd_at {M : List (Nat × Lk)} (hn : (M.map Prod.fst).Nodup) {j k : Nat} {x : Lk} (h : M[j]? = some (k, x)) : fnd M k = some x := by
  induction M generalizing j with
  | nil => simp at h
  | cons y r ih =>
    obtain ⟨t, z⟩ := y
    simp only [List.map_cons, List.nodup_cons] at hn
    show (if k = t then some z else fnd r k) = some x
    cases j with
    | zero => simp at h; rw [if_pos h.1.symm, h.2]
    | succ j =>
      simp at h
      rw [if_neg ?_]
      · exact ih hn.2 h
      · rintro rfl
        exact hn.1 (List.mem_map.2 ⟨_, List.mem_of_getElem? h, rfl⟩)
theorem fnd_append (M N : List (Nat × Lk)) (k : Nat) : fnd (M ++ N) k = (fnd M k).or (fnd N k) := by
  induction M with
  | nil => rfl
  | cons y r ih =>
    obtain ⟨t, z⟩ := y
    show (if k = t then some z else fnd (r ++ N) k) = (if k = t then some z else fnd r k).or (fnd N k)
    rw [ih]
    split <;> rfl
theorem fnd_set {M : List (Nat × Lk)} (hn : (M.map Prod.fst).Nodup) {j k : Nat} {x y : Lk} (h : M[j]? = some (k, x)) : ∀ i, fnd (M.set j (k, y)) i = updL (fnd M) k (some y) i := by
  induction M generalizing j with
  | nil => simp at h
  | cons z r ih =>
    obtain ⟨t, u⟩ := z
    simp only [List.map_cons, List.nodup_cons] at hn
    intro i
    cases j with
    | zero =>
      simp at h
      obtain ⟨rfl, rfl⟩ := h
      show (if i = t then some y else fnd r i) = if i = t then some y else (if i = t then some u else fnd r i)
      split <;> rfl
    | succ j =>
      simp at h
      have htk : t ≠ k := fun e => hn.1 (List.mem_map.2 ⟨_, List.mem_of_getElem? h, e.symm⟩)
      show (if i = t then some u else fnd (r.set j (k, y)) i) = if i = k then some y else (if i = t then some u else fnd r i)
      rw [ih hn.2 h i]
      unfold updL
      by_cases h1 : i = t
      · subst h1; simp [htk]
      · simp [h1]
theorem fnd_erase {M : List (Nat × Lk)} (hn : (M.map Prod.fst).Nodup) {j k : Nat} {x : Lk} (h : M[j]? = some (k, x)) : ∀ i, fnd (M.eraseIdx j) i = updL (fnd M) k none i := by
  induction M generalizing j with
  | nil => simp at h
  | cons z r ih =>
    obtain ⟨t, u⟩ := z
    simp only [List.map_cons, List.nodup_cons] at hn
    intro i
    cases j with
    | zero =>
      simp at h
      obtain ⟨rfl, rfl⟩ := h
      show fnd r i = if i = t then none else (if i = t then some u else fnd r i)
      by_cases h1 : i = t
      · subst h1
        rw [if_pos rfl]
        exact fnd_none fun p hp e => hn.1 (List.mem_map.2 ⟨p, hp, e⟩)
      · simp [h1]
    | succ j =>
      simp at h
      have htk : t ≠ k := fun e => hn.1 (List.mem_map.2 ⟨_, List.mem_of_getElem? h, e.symm⟩)
      show (if i = t then some u else fnd (r.eraseIdx j) i) = if i = k then none else (if i = t then some u else fnd r i)
      rw [ih hn.2 h i]
      unfold updL
      by_cases h1 : i = t
      · subst h1; simp [htk]
      · simp [h1]

/-- Block m is a map of n links. -/
def LinkMap (w : World) (m n : Nat) (f : Nat → Option Lk) : Prop :=
  ∃ (M : List (Nat × Lk)) (es : Array MapEntry) (clock : Nat), w.heap[m]? = some (.map es clock) ∧ Entries es M ∧ (M.map Prod.fst).Nodup ∧ M.length = n ∧ ∀ k, f k = fnd M k

theorem LinkMap.lt {w : World} {m n : Nat} {f : Nat → Option Lk} (h : LinkMap w m n f) : m < w.heap.size := by
  obtain ⟨M, es, clock, hb, _⟩ := h
  exact lt_of_block hb
theorem LinkMap.same {w w' : World} {m n : Nat} {f : Nat → Option Lk} (h : LinkMap w m n f) (hs : w'.heap[m]? = w.heap[m]?) : LinkMap w' m n f := by
  obtain ⟨M, es, clock, hb, r⟩ := h
  exact ⟨M, es, clock, hs.trans hb, r⟩
theorem LinkMap.congr {w : World} {m n : Nat} {f g : Nat → Option Lk} (h : LinkMap w m n f) (hs : ∀ k, g k = f k) : LinkMap w m n g := by
  obtain ⟨M, es, clock, hb, h1, h2, h3, h4⟩ := h
  exact ⟨M, es, clock, hb, h1, h2, h3, fun k => (hs k).trans (h4 k)⟩
theorem LinkMap.ne {w : World} {m n : Nat} {f : Nat → Option Lk} (h : LinkMap w m n f) {k : Nat} {y : Array Value} {u : TypeId} {z : Nat × Nat} (hc : w.heap[k]? = some (.cells y u z)) : k ≠ m := by
  rintro rfl
  obtain ⟨M, es, clock, hb, _⟩ := h
  rw [hb] at hc
  cases hc
theorem linkMap_made (w : World) : LinkMap (w.alloc (.map #[] 0)) w.heap.size 0 (fun _ => none) := ⟨[], #[], 0, heap_alloc_new w _, rfl, List.nodup_nil, rfl, fun _ => rfl⟩

theorem isKeyT (k : Nat) : IsKey (.int .u64) (encT k) := rfl
theorem zeroLk (w : World) : (zeroValue 123).run Tryd.prog w = .ok (Lk.enc ⟨0, 0, 0⟩) w := by kernel_rfl

/-- What the search for a key gives. -/
theorem find_key {w : World} {es : Array MapEntry} {M : List (Nat × Lk)} (h : Entries es M) (hn : (M.map Prod.fst).Nodup) (k : Nat) :
    ((Instr.findKey 67 (encT k) es.toList).run Tryd.prog w = .ok none w ∧ (∀ p ∈ M, p.1 ≠ k) ∧ fnd M k = none) ∨
    ∃ j x e, (Instr.findKey 67 (encT k) es.toList).run Tryd.prog w = .ok (some (j, x.enc)) w ∧ M[j]? = some (k, x) ∧ es.toList[j]? = some e ∧ e.key = encT k ∧ fnd M k = some x := by
  rcases findNow_spec (isKeyT k) es.toList 0 h.keys with ⟨h1, h2⟩ | ⟨j, e, h1, h2, h3⟩
  · have h4 : ∀ p ∈ M, p.1 ≠ k := fun p hp e => by
      obtain ⟨j, hj⟩ := List.getElem?_of_mem hp
      have hlt : j < es.toList.length := by have := (List.getElem?_eq_some_iff.1 hj).1; have := h.len; simp; omega
      obtain ⟨p', hp', hk, _⟩ := h.at j es.toList[j] (List.getElem?_eq_getElem hlt)
      rw [hj] at hp'
      simp only [Option.some.injEq] at hp'
      subst hp'
      rw [e] at hk
      exact h2 _ (List.getElem_mem hlt) hk
    exact .inl ⟨MapKept.run_findKey Tryd.underlying67 h1, h4, fnd_none h4⟩
  · obtain ⟨⟨t, x⟩, hp, hk, hv⟩ := h.at j e h2
    have : t = k := encT_inj (hk.symm.trans h3)
    subst this
    refine .inr ⟨j, x, e, ?_, hp, h2, h3, fnd_at hn hp⟩
    rw [← hv]
    simpa using run_findKey (w := w) Tryd.underlying67 h1

section
variable {w : World} {m n : Nat} {f : Nat → Option Lk}

theorem LinkMap.look_yes (h : LinkMap w m n f) {k : Nat} {x : Lk} (hf : f k = some x) (c : Bool) :
    (Instr.lookup 126 (.map (some m)) (encT k) c).run Tryd.prog w = .ok (if c then .tuple #[x.enc, .bool true] else x.enc) w := by
  obtain ⟨M, es, clock, hb, h1, h2, h3, h4⟩ := h
  rcases find_key (w := w) h1 h2 k with ⟨r1, _, r2⟩ | ⟨j, y, e, r1, _, _, _, r2⟩
  · rw [h4, r2] at hf; cases hf
  · rw [h4, r2] at hf
    obtain rfl := Option.some.inj hf
    simp [Instr.lookup, run_underlying Tryd.underlying126, MapKept.run_getObj_map hb, MapKept.run_checkKey Tryd.underlying67 (isKeyT k), r1, Result.andThen]
theorem LinkMap.look_no (h : LinkMap w m n f) {k : Nat} (hf : f k = none) (c : Bool) :
    (Instr.lookup 126 (.map (some m)) (encT k) c).run Tryd.prog w = .ok (if c then .tuple #[Lk.enc ⟨0, 0, 0⟩, .bool false] else Lk.enc ⟨0, 0, 0⟩) w := by
  obtain ⟨M, es, clock, hb, h1, h2, h3, h4⟩ := h
  rcases find_key (w := w) h1 h2 k with ⟨r1, _, r2⟩ | ⟨j, y, e, r1, _, _, _, r2⟩
  · simp [Instr.lookup, run_underlying Tryd.underlying126, MapKept.run_getObj_map hb, MapKept.run_checkKey Tryd.underlying67 (isKeyT k), r1, zeroLk, Result.andThen]
    all_goals rfl
  · rw [h4, r2] at hf; cases hf
theorem LinkMap.len (h : LinkMap w m n f) (ty : TypeId) : (Builtin.len_ #[126] ty #[.map (some m)]).run Tryd.prog w = .ok (.int .i64 ((n : Nat) : Int)) w := by
  obtain ⟨M, es, clock, hb, h1, h2, h3, h4⟩ := h
  have : es.size = n := h1.len.trans h3
  simp [Builtin.len_, run_underlying Tryd.underlying126, MapKept.run_getObj_map hb, goInt, Result.andThen, this]

theorem fr_block (w : World) (m : Nat) (o : Obj) : Fr [m] w { w with heap := w.heap.setIfInBounds m o } :=
  ⟨rfl, rfl, rfl, by simp, fun k _ hn => by simp at hn; simp [Ne.symm hn]⟩

theorem LinkMap.put (h : LinkMap w m n f) (k : Nat) (x : Lk) : ∃ w', (Instr.mapUpdate 126 (.map (some m)) (encT k) x.enc).run Tryd.prog w = .ok () w' ∧ LinkMap w' m (if (f k).isSome then n else n + 1) (updL f k (some x)) ∧ Fr [m] w w' ∧ w'.heap.size = w.heap.size ∧ w'.drawn = w.drawn := by
  obtain ⟨M, es, clock, hb, h1, h2, h3, h4⟩ := h
  have hlt := lt_of_block hb
  rcases find_key (w := w) h1 h2 k with ⟨r1, r0, r2⟩ | ⟨j, y, e, r1, r3, r4, r5, r2⟩
  · refine ⟨{ w with heap := w.heap.setIfInBounds m (.map (es.push { key := encT k, val := x.enc, born := clock }) (clock + 1)) }, ?_, ⟨M ++ [(k, x)], _, _, (MapKept.heap_set hb).1, ?_, ?_, ?_, ?_⟩, fr_block _ _ _, by simp, rfl⟩
    · simp [Instr.mapUpdate, run_underlying Tryd.underlying126, MapKept.run_getObj_map hb, MapKept.run_checkKey Tryd.underlying67 (isKeyT k), r1, MapKept.run_setObj_map _ hb, Result.andThen]
    · unfold Entries at h1 ⊢
      simp [h1]
    · rw [List.map_append, List.nodup_append]
      refine ⟨h2, by simp, ?_⟩
      intro a ha b hb e
      obtain ⟨p, hp, rfl⟩ := List.mem_map.1 ha
      simp at hb
      exact r0 p hp (e.trans hb)
    · rw [h4, r2]; simp [h3]
    · intro i
      rw [fnd_append]
      unfold updL
      rw [h4]
      by_cases hi : i = k
      · subst hi; simp [r2, fnd]
      · simp [hi, fnd]
  · have hst := MapKept.run_keyThatStays (P := Tryd.prog) (w := w) (isKeyT k)
    have hj : es[j]? = some e := by simpa using r4
    refine ⟨{ w with heap := w.heap.setIfInBounds m (.map (es.modify j fun e => { e with key := encT k, val := x.enc }) clock) }, ?_, ⟨M.set j (k, x), _, _, (MapKept.heap_set hb).1, ?_, ?_, ?_, ?_⟩, fr_block _ _ _, by simp, rfl⟩
    · simp [Instr.mapUpdate, run_underlying Tryd.underlying126, MapKept.run_getObj_map hb, MapKept.run_checkKey Tryd.underlying67 (isKeyT k), r1, hj, r5, hst, MapKept.run_setObj_map _ hb, Result.andThen]
    · unfold Entries at h1 ⊢
      have hjl : j < es.size := (Array.getElem?_eq_some_iff.1 hj).1
      apply List.ext_getElem?
      intro i
      have hi := congrArg (fun l => l[i]?) h1
      simp only [List.getElem?_map, Array.getElem?_toList, Array.getElem?_modify, List.getElem?_set] at hi ⊢
      by_cases hij : j = i
      · subst hij
        have : j < M.length := (List.getElem?_eq_some_iff.1 r3).1
        simp [this, hjl]
      · simp only [hij, if_false]
        exact hi
    · have : (M.set j (k, x)).map Prod.fst = M.map Prod.fst := by
        rw [List.map_set]
        apply List.ext_getElem?
        intro i
        rw [List.getElem?_set]
        split
        · rename_i hij
          subst hij
          have hl : j < M.length := (List.getElem?_eq_some_iff.1 r3).1
          rw [List.getElem?_map, r3]
          simp [hl]
        · rfl
      rw [this]; exact h2
    · rw [h4, r2]; simp [h3]
    · intro i
      rw [fnd_set h2 r3]
      unfold updL
      rw [h4]
theorem LinkMap.drop (h : LinkMap w m n f) (k : Nat) {x : Lk} (hf : f k = some x) (ty : TypeId) : ∃ w', (Builtin.delete_ #[126, 67] ty #[.map (some m), encT k]).run Tryd.prog w = .ok (.tuple #[]) w' ∧ LinkMap w' m (n - 1) (updL f k none) ∧ Fr [m] w w' ∧ w'.heap.size = w.heap.size := by
  obtain ⟨M, es, clock, hb, h1, h2, h3, h4⟩ := h
  rcases find_key (w := w) h1 h2 k with ⟨r1, r0, r2⟩ | ⟨j, y, e, r1, r3, r4, r5, r2⟩
  · rw [h4, r2] at hf; cases hf
  · refine ⟨{ w with heap := w.heap.setIfInBounds m (.map (es.eraseIdxIfInBounds j) clock) }, ?_, ⟨M.eraseIdx j, _, _, (MapKept.heap_set hb).1, ?_, ?_, ?_, ?_⟩, fr_block _ _ _, by simp⟩
    · simp [Builtin.delete_, run_underlying Tryd.underlying126, MapKept.run_getObj_map hb, MapKept.run_checkKey Tryd.underlying67 (isKeyT k), r1, MapKept.run_setObj_map _ hb, Result.andThen]
    · have hjl : j < es.size := by have := (List.getElem?_eq_some_iff.1 r4).1; simpa using this
      unfold Entries at h1 ⊢
      have he : (es.eraseIdxIfInBounds j).toList = es.toList.eraseIdx j := by
        unfold Array.eraseIdxIfInBounds
        rw [dif_pos hjl]
        simp
      rw [he, ← eraseIdx_map', h1, eraseIdx_map']
    · rw [← eraseIdx_map']; exact h2.sublist (List.eraseIdx_sublist _ _)
    · have := (List.getElem?_eq_some_iff.1 r3).1
      rw [List.length_eraseIdx, if_pos this, h3]
    · intro i
      rw [fnd_erase h2 r3]
      unfold updL
      rw [h4]
end

section
variable {w : World} {ops : Array Oper} {rest : List Oper} {o : Oper} {a : Act} {Q : Exit → Act → World → Prop} {m n : Nat} {f : Nat → Option Lk}

theorem wpList_put (hg : o.guard = none) (vm vk vx : Operand) (hop : o.op = Op.mapUpdate 126 vm vk vx) (h : LinkMap w m n f) (k : Nat) (x : Lk) (hm : a.eval vm = .map (some m)) (hk : a.eval vk = encT k) (hx : a.eval vx = x.enc)
    (hK : ∀ w', LinkMap w' m (if (f k).isSome then n else n + 1) (updL f k (some x)) → Fr [m] w w' → w'.heap.size = w.heap.size → wpList Tryd.prog ops Q rest (a.put o.dst undef) w') : wpList Tryd.prog ops Q (o :: rest) a w := by
  refine wpList_plain hg fun K' hK' => ?_
  obtain ⟨w', hrun, r1, r2, r3, _⟩ := h.put k x
  unfold Oper.wp
  simp [execOp, hop, hm, hk, hx, hrun, Result.andThen]
  exact hK' _ _ (hK w' r1 r2 r3)
theorem wpList_drop (hg : o.guard = none) (vm vk : Operand) (hop : o.op = Op.call { callee := Callee.builtin Builtin.delete, args := #[vm, vk], argTypes := #[126, 67] }) (h : LinkMap w m n f) (k : Nat) {x : Lk} (hf : f k = some x) (hm : a.eval vm = .map (some m)) (hk : a.eval vk = encT k)
    (hK : ∀ w', LinkMap w' m (n - 1) (updL f k none) → Fr [m] w w' → w'.heap.size = w.heap.size → wpList Tryd.prog ops Q rest (a.put o.dst (.tuple #[])) w') : wpList Tryd.prog ops Q (o :: rest) a w := by
  refine wpList_plain hg fun K' hK' => ?_
  obtain ⟨w', hrun, r1, r2, r3⟩ := h.drop k hf o.type
  unfold Oper.wp
  simp [execOp, hop, resolve, invoke, builtin, hm, hk, hrun, Result.andThen]
  exact hK' _ _ (hK w' r1 r2 r3)
theorem wpList_look (hg : o.guard = none) (vm vk : Operand) (c : Bool) (hop : o.op = Op.lookup 126 vm vk c) (h : LinkMap w m n f) (k : Nat) {x : Lk} (hf : f k = some x) (hm : a.eval vm = .map (some m)) (hk : a.eval vk = encT k)
    (hK : wpList Tryd.prog ops Q rest (a.put o.dst (if c then .tuple #[x.enc, .bool true] else x.enc)) w) : wpList Tryd.prog ops Q (o :: rest) a w := by
  refine wpList_plain hg fun K' hK' => ?_
  unfold Oper.wp
  simp [execOp, hop, hm, hk, h.look_yes hf c, Result.andThen]
  exact hK' _ _ hK
end
end Go.Proofs.YtcdimopiaanfbaaDoor
