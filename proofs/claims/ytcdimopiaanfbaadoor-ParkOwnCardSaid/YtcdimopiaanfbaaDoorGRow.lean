/- Rows of elements of several cells that a call owns; what is appended to them. Of no type of its own. -/
import Derived.Test.YtcdimopiaanfbaaDoorBMem
import Derived.Maps.AppendAt
import Derived.Laws.OwnMore
import Derived.Lib.AppendZeros
namespace Go.Proofs.YtcdimopiaanfbaaDoor
open Go.RowKit Go.Sort
set_option linter.unusedVariables false
set_option linter.unusedSimpArgs false

/-- The cells of the elements, one after the other. -/
def flt {α : Type} (e : α → List Value) : List α → List Value
  | [] => []
  | x :: r => e x ++ flt e r
section
variable {α : Type} {e : α → List Value} {s : Nat}
theorem flt_append (e : α → List Value) (A B : List α) : flt e (A ++ B) = flt e A ++ flt e B := by
  induction A with
  | nil => rfl
  | cons x r ih => show e x ++ flt e (r ++ B) = _; rw [ih, ← List.append_assoc]; rfl
theorem flt_len (h : ∀ x, (e x).length = s) (L : List α) : (flt e L).length = L.length * s := by
  induction L with
  | nil => simp [flt]
  | cons x r ih => show (e x ++ flt e r).length = _; rw [List.length_append, ih, h, List.length_cons, Nat.add_mul]; omega
theorem flt_get (h : ∀ x, (e x).length = s) {L : List α} {i j : Nat} {x : α} {u : Value} (hx : L[i]? = some x) (hu : (e x)[j]? = some u) : (flt e L)[i * s + j]? = some u := by
  induction L generalizing i with
  | nil => simp at hx
  | cons y r ih =>
    show (e y ++ flt e r)[i * s + j]? = _
    cases i with
    | zero =>
      simp at hx
      subst hx
      have := (List.getElem?_eq_some_iff.1 hu).1
      rw [Nat.zero_mul, Nat.zero_add, List.getElem?_append_left this]
      exact hu
    | succ i =>
      rw [List.getElem?_append_right (by rw [h, Nat.add_mul]; omega), h, Nat.add_mul]
      have := ih (i := i) (by simpa using hx)
      rw [show i * s + 1 * s + j - s = i * s + j by omega]
      exact this
/-- A cell belongs to an element. -/
theorem flt_at (h : ∀ x, (e x).length = s) (hs : 0 < s) {L : List α} {j : Nat} {u : Value} (hu : (flt e L)[j]? = some u) : ∃ x, L[j / s]? = some x ∧ (e x)[j % s]? = some u := by
  have hl : j < L.length * s := by rw [← flt_len h L]; exact (List.getElem?_eq_some_iff.1 hu).1
  have hk : j / s < L.length := Nat.div_lt_of_lt_mul (by rw [Nat.mul_comm]; exact hl)
  refine ⟨L[j / s], List.getElem?_eq_getElem hk, ?_⟩
  have hm : j % s < (e L[j / s]).length := by rw [h]; exact Nat.mod_lt _ hs
  have := flt_get h (List.getElem?_eq_getElem hk) (List.getElem?_eq_getElem hm)
  rw [show j / s * s + j % s = j by rw [Nat.mul_comm]; exact Nat.div_add_mod j s, hu] at this
  rw [List.getElem?_eq_getElem hm, ← this]
theorem flt_replicate (n : Nat) (x : α) (h : ∀ x, (e x).length = s) (hs : 0 < s) : flt e (List.replicate n x) = (madeCells (e x).toArray (n * s)).toList := by
  refine List.ext_getElem? fun j => ?_
  by_cases hj : j < n * s
  · have hl : (flt e (List.replicate n x)).length = n * s := by rw [flt_len h, List.length_replicate]
    obtain ⟨u, hu⟩ : ∃ u, (flt e (List.replicate n x))[j]? = some u := ⟨_, List.getElem?_eq_getElem (by rw [hl]; exact hj)⟩
    obtain ⟨y, hy, hyu⟩ := flt_at h hs hu
    rw [List.getElem?_replicate] at hy
    split at hy
    · cases hy
      rw [hu]
      have hm : j % s < (e x).length := by rw [h]; exact Nat.mod_lt _ hs
      unfold madeCells
      have h3 := List.getElem?_eq_some_iff.1 hyu
      simp [hj, h]
      rw [List.getElem?_eq_getElem hm]
      simp [h3.2]
    · cases hy
  · rw [List.getElem?_eq_none (by rw [flt_len h, List.length_replicate]; omega), List.getElem?_eq_none (by simp [size_madeCells]; omega)]
end
theorem flt_one {α : Type} {e : α → List Value} (h : ∀ x, ∀ u ∈ e x, u.oneCell' = true) : ∀ (L : List α), ∀ u ∈ flt e L, u.oneCell' = true
  | [], u, hu => by simp [flt] at hu
  | x :: L, u, hu => by
    rcases List.mem_append.1 (show u ∈ e x ++ flt e L from hu) with hu | hu
    · exact h x u hu
    · exact flt_one h L u hu
theorem info_parts {P : Program} {e : TypeId} {x : Option Value × Nat × Nat} (h : (P.info? e).map (fun i => (i.zero, i.size, i.bytes)) = some x) : ∃ i, P.info? e = some i ∧ i.zero = x.1 ∧ i.size = x.2.1 ∧ i.bytes = x.2.2 := by
  cases hi : P.info? e with
  | none => rw [hi] at h; simp at h
  | some i => rw [hi] at h; simp at h; exact ⟨i, rfl, by rw [← h], by rw [← h], by rw [← h]⟩

/-- How a type of elements lies in memory. -/
structure GT (α : Type) where
  ts : TypeId
  te : TypeId
  s : Nat
  enc : α → List Value
/-- What is known of it. -/
structure GT.Ok {α : Type} (T : GT α) : Prop where
  len : ∀ x, (T.enc x).length = T.s
  one : ∀ x, ∀ u ∈ T.enc x, u.oneCell' = true
  pos : 0 < T.s
  und : Tryd.prog.underlying T.ts = some (.slice T.te)
  info : ∃ i z, Tryd.prog.info? T.te = some i ∧ i.zero = some z ∧ i.size = T.s ∧ i.bytes ≤ 100 ∧ z.cells.size = T.s

variable {α : Type} {T : GT α}
def Row (T : GT α) (w : World) (base : Nat) (v : Value) (X : List α) : Prop := w.ownsRow base T.te T.s v X.length (flt T.enc X)
/-- A slice that has the elements X. -/
def Src (T : GT α) (w : World) (v : Value) (X : List α) : Prop :=
  (v = .slice none 0 0 ∧ X = []) ∨ ∃ g off c, v = .slice (some ⟨g, off, none⟩) X.length c ∧ X.length ≤ c ∧ c ≤ maxLen ∧ g < w.heap.size ∧ ∀ j x, X[j]? = some x → ∀ i u, (T.enc x)[i]? = some u → w.cell? ⟨g, off + j * T.s + i, none⟩ = some u
section
variable {w w' : World} {base : Nat} {v : Value} {X : List α}
theorem Row.nil (w : World) (base : Nat) : Row T w base (.slice none 0 0) [] := World.ownsRow_nil w base T.te T.s
theorem Row.below (h : Row T w base v X) (hb : Below w.heap.size w w') : Row T w' base v X := (Fr.of_below hb []).row h (fun _ _ => by simp)
theorem Row.fr {F : List Nat} (h : Row T w base v X) (hf : Fr F w w') (hn : ∀ g, v.ownBlock = some g → g ∉ F) : Row T w' base v X := hf.row h hn
theorem Row.lower {b' : Nat} (h : Row T w base v X) (hb : b' ≤ base) : Row T w b' v X := ownsRow_mono h hb
theorem Row.form (h : Row T w base v X) : ∃ a c, v = .slice a X.length c ∧ X.length ≤ c ∧ c ≤ maxLen := by
  rcases h.2 with ⟨rfl, hn⟩ | ⟨g, cap, cu, rfl, hb, hh, h1, h2, h3, h4⟩
  · exact ⟨none, 0, by rw [hn], by omega, Nat.zero_le _⟩
  · exact ⟨_, cap, rfl, h1, h2⟩
theorem Row.lt (h : Row T w base v X) (g : Nat) (hg : v.ownBlock = some g) : base ≤ g ∧ g < w.heap.size := World.ownsRow.lt h g hg
theorem Row.ne (h : Row T w base v X) {c : Nat} {y : Array Value} {u : TypeId} (hc : w.heap[c]? = some (.cells y u (0, 0))) (hn : T.te ≠ u) : ∀ g, v.ownBlock = some g → g ≠ c := row_ne h hc hn
theorem Row.src (hT : T.Ok) (h : Row T w base v X) : Src T w v X := by
  rcases h.2 with ⟨rfl, hn⟩ | ⟨g, cap, cu, rfl, hb, hh, h1, h2, h3, h4⟩
  · exact .inl ⟨rfl, List.eq_nil_of_length_eq_zero hn⟩
  · refine .inr ⟨g, 0, cap, rfl, h1, h2, (World.ownsRow.lt h g rfl).2, fun j x hx i u hu => ?_⟩
    have c0 := World.ownsRow.cells h rfl _ _ (flt_get hT.len hx hu)
    rw [Go.WideShapes.add_plain, Nat.zero_add] at c0
    rw [Nat.zero_add]
    exact c0
theorem Src.form (h : Src T w v X) : ∃ a c, v = .slice a X.length c ∧ X.length ≤ c ∧ c ≤ maxLen := by
  rcases h with ⟨rfl, rfl⟩ | ⟨g, off, c, rfl, h1, h2, _⟩
  · exact ⟨none, 0, rfl, Nat.le_refl _, Nat.zero_le _⟩
  · exact ⟨_, c, rfl, h1, h2⟩
theorem Src.grown (h : Src T w v X) (hb : Below w.heap.size w w') : Src T w' v X := by
  rcases h with h | ⟨g, off, c, h1, h2, h3, h4, h5⟩
  · exact .inl h
  · exact .inr ⟨g, off, c, h1, h2, h3, by have := hb.size; omega, fun j x hx i u hu => (hb.cell (p := ⟨g, off + j * T.s + i, none⟩) h4).trans (h5 j x hx i u hu)⟩
theorem Src.fr {F : List Nat} (h : Src T w v X) (hf : Fr F w w') (hn : ∀ g, v.ownBlock = some g → g ∉ F) : Src T w' v X := by
  rcases h with h | ⟨g, off, c, h1, h2, h3, h4, h5⟩
  · exact .inl h
  · exact .inr ⟨g, off, c, h1, h2, h3, by have := hf.size; omega, fun j x hx i u hu => hf.cell (p := ⟨g, off + j * T.s + i, none⟩) (h5 j x hx i u hu) (hn g (by rw [h1]; rfl))⟩
theorem Src.at (h : Src T w v X) {j : Nat} {x : α} (hx : X[j]? = some x) : ∃ g off c, v = .slice (some ⟨g, off, none⟩) X.length c ∧ g < w.heap.size ∧ ∀ i u, (T.enc x)[i]? = some u → w.cell? ⟨g, off + j * T.s + i, none⟩ = some u := by
  rcases h with ⟨_, rfl⟩ | ⟨g, off, c, h1, h2, h3, h4, h5⟩
  · simp at hx
  · exact ⟨g, off, c, h1, h4, fun i u hu => h5 j x hx i u hu⟩
/-- An element in a row. -/
theorem Row.at (hT : T.Ok) (h : Row T w base v X) {j : Nat} {x : α} (hx : X[j]? = some x) : ∃ g c, v = .slice (some ⟨g, 0, none⟩) X.length c ∧ base ≤ g ∧ g < w.heap.size ∧ (∀ o, w.frozen? ⟨g, o, none⟩ = false) ∧ ∀ i u, (T.enc x)[i]? = some u → w.cell? ⟨g, j * T.s + i, none⟩ = some u := by
  rcases h.2 with ⟨_, hn⟩ | ⟨g, cap, cu, rfl, hb, hh, h1, h2, h3, h4⟩
  · have : X = [] := List.eq_nil_of_length_eq_zero hn
    subst this
    simp at hx
  · refine ⟨g, cap, rfl, hb, lt_of_block hh, fun o => cells_free hh o, fun i u hu => ?_⟩
    have c0 := World.ownsRow.cells h rfl _ _ (flt_get hT.len hx hu)
    rwa [Go.WideShapes.add_plain, Nat.zero_add] at c0
/-- One cell of an element is written. -/
theorem Row.set (hT : T.Ok) {g c : Nat} (h : Row T w base (.slice (some ⟨g, 0, none⟩) X.length c) X) {j i : Nat} {x y : α} {u : Value} (hx : X[j]? = some x) (hi : i < T.s) (he : T.enc y = (T.enc x).set i u) : Row T (w.setCell ⟨g, j * T.s + i, none⟩ u) base (.slice (some ⟨g, 0, none⟩) X.length c) (X.set j y) := by
  have hjl := (List.getElem?_eq_some_iff.1 hx).1
  rcases h.2 with ⟨h0, _⟩ | ⟨g', cap, cu, hv, hb, hh, h1, h2, h3, h4⟩
  · simp at h0
  · simp only [Value.slice.injEq, Option.some.injEq, Addr.mk.injEq] at hv
    obtain ⟨⟨rfl, _⟩, _, rfl⟩ := hv
    unfold Row
    rw [List.length_set]
    refine ⟨by rw [flt_len hT.len, List.length_set], .inr ⟨g, c, _, rfl, hb, cells_set hh _ u, h1, h2, by simpa using h3, ?_⟩⟩
    have hlen : (flt T.enc X).length = X.length * T.s := flt_len hT.len X
    refine List.ext_getElem? fun k => ?_
    have hk4 := congrArg (fun l : List Value => l[k]?) h4
    simp only [List.getElem?_take] at hk4
    rw [List.getElem?_take]
    have hcl : cu.size = c * T.s := h3
    have hmul : (j + 1) * T.s ≤ X.length * T.s := Nat.mul_le_mul_right _ hjl
    have hmul2 : X.length * T.s ≤ c * T.s := Nat.mul_le_mul_right _ h1
    rw [Nat.add_mul] at hmul
    by_cases hk : k < X.length * T.s
    · rw [if_pos hk] at hk4 ⊢
      obtain ⟨q, hq⟩ : ∃ q, (flt T.enc (X.set j y))[k]? = some q := ⟨_, List.getElem?_eq_getElem (by rw [flt_len hT.len, List.length_set]; exact hk)⟩
      obtain ⟨z, hz, hzq⟩ := flt_at hT.len hT.pos hq
      have hdm : k / T.s * T.s + k % T.s = k := by rw [Nat.mul_comm]; exact Nat.div_add_mod k T.s
      rw [List.getElem?_set] at hz
      rw [hq]
      simp only [Array.toList_setIfInBounds, List.getElem?_set, Array.length_toList, Array.getElem?_toList] at hk4 ⊢
      split at hz
      · rename_i e
        simp [hjl] at hz
        subst hz
        rw [he, List.getElem?_set] at hzq
        split at hzq
        · rename_i e2
          have hil : i < (T.enc x).length := by rw [hT.len]; exact hi
          simp [hil] at hzq
          subst hzq
          have : j * T.s + i = k := by rw [← hdm, ← e, ← e2]
          rw [if_pos this]
          simp
          omega
        · rename_i e2
          rw [if_neg (fun h' => e2 (by rw [← h', Nat.mul_comm, Nat.mul_add_mod, Nat.mod_eq_of_lt hi]))]
          rw [hk4]
          have := flt_get hT.len hx hzq
          rwa [e, hdm] at this
      · rename_i e
        rw [if_neg (fun h' => e (by rw [← h', Nat.mul_comm, Nat.mul_add_div hT.pos, Nat.div_eq_of_lt hi, Nat.add_zero]))]
        rw [hk4]
        have := flt_get hT.len hz hzq
        rwa [hdm] at this
    · rw [if_neg hk]
      symm
      exact List.getElem?_eq_none (by rw [flt_len hT.len, List.length_set]; omega)
end

theorem run_append_g (hT : T.Ok) (w : World) {base : Nat} {v vx : Value} {X M : List α} (hown : Row T w base v X) (hbase : base ≤ w.heap.size) (hx : Src T w vx M) (h63 : X.length + M.length ≤ 1000000) (ty : TypeId) :
    ∃ v' w', (Builtin.append_ #[T.ts, T.ts] ty #[v, vx]).run Tryd.prog w = .ok v' w' ∧ Row T w' base v' (X ++ M) ∧ Fr v.ownBlock.toList w w' ∧ Near w v v' := by
  obtain ⟨i0, z, hi0, hz0, hz1, hz2, hz3⟩ := hT.info
  rcases hx with ⟨rfl, rfl⟩ | ⟨g, off, cx, rfl, _, _, _, hcells⟩
  · exact ⟨v, w, run_append_owned_none w base T.ts ty T.te i0 T.s hT.und hi0 v _ _ hown, by simpa using hown, Fr.refl _ _, fun g hg => .inl hg⟩
  · have hb : (X.length + M.length) * i0.bytes ≤ 140737488355328 := by
      have : (X.length + M.length) * i0.bytes ≤ 1000000 * 100 := Nat.mul_le_mul h63 hz2
      omega
    obtain ⟨v', w', hrun, ho, hg, _, hat⟩ := run_append_own_at (P := Tryd.prog) w base T.ts ty T.te i0 _ T.s i0.bytes hT.und hi0 hz0 hz1 rfl hz3 hT.pos v _ _ hown ⟨g, off, none⟩ M.length cx (flt T.enc M) (flt_len hT.len _)
      (fun j u hu => by
        obtain ⟨x, hx, hc⟩ := flt_at hT.len hT.pos hu
        have := hcells _ _ hx _ _ hc
        rw [Go.WideShapes.add_plain]
        rwa [Nat.add_assoc, show j / T.s * T.s + j % T.s = j by rw [Nat.mul_comm]; exact Nat.div_add_mod j T.s] at this) (fun u hu => by
          obtain ⟨k, hk⟩ := List.getElem?_of_mem hu
          obtain ⟨x, _, hc⟩ := flt_at hT.len hT.pos hk
          exact hT.one x u (List.mem_of_getElem? hc)) (by unfold maxLen; omega) hb hbase
    refine ⟨v', w', hrun, ?_, fr_grown hg, fun x hx => ?_⟩
    · unfold Row
      rw [List.length_append, flt_append]
      exact ho
    · rcases hat with h | h
      · left; rw [← h]; exact hx
      · right; rw [h] at hx; simp at hx; omega
theorem wp_append_g (hT : T.Ok) {w : World} {o : Oper} {a : Act} {K : Act → World → Prop} {Q : Exit → Act → World → Prop} (s x : Operand)
    (ho : o.op = .call { callee := .builtin .append, args := #[s, x], argTypes := #[T.ts, T.ts] }) {base : Nat} {v vx : Value} {X M : List α} (hs : a.eval s = v) (hx : a.eval x = vx)
    (hown : Row T w base v X) (hbase : base ≤ w.heap.size) (hrow : Src T w vx M) (h63 : X.length + M.length ≤ 1000000)
    (h : ∀ v' w', Row T w' base v' (X ++ M) → Fr v.ownBlock.toList w w' → Near w v v' → K (a.put o.dst v') w') : Oper.wp Tryd.prog o a w K Q := by
  obtain ⟨v', w', hrun, h1, h2, h3⟩ := run_append_g hT w hown hbase hrow h63 o.type
  unfold Oper.wp
  simp [execOp, ho, resolve, invoke, builtin, hs, hx, hrun, Result.andThen]
  exact h v' w' h1 h2 h3
theorem wpList_append_g (hT : T.Ok) {w : World} {ops : Array Oper} {rest : List Oper} {o : Oper} {a : Act} {Q : Exit → Act → World → Prop} (hgd : o.guard = none) (s x : Operand)
    (ho : o.op = .call { callee := .builtin .append, args := #[s, x], argTypes := #[T.ts, T.ts] }) {base : Nat} {v vx : Value} {X M : List α} (hs : a.eval s = v) (hx : a.eval x = vx)
    (hown : Row T w base v X) (hbase : base ≤ w.heap.size) (hrow : Src T w vx M) (h63 : X.length + M.length ≤ 1000000)
    (h : ∀ v' w', Row T w' base v' (X ++ M) → Fr v.ownBlock.toList w w' → Near w v v' → wpList Tryd.prog ops Q rest (a.put o.dst v') w') : wpList Tryd.prog ops Q (o :: rest) a w := by
  refine wpList_plain hgd fun K hK => ?_
  exact wp_append_g hT s x ho hs hx hown hbase hrow h63 (fun v' w' h1 h2 h3 => hK _ _ (h v' w' h1 h2 h3))
/-- A slice with one element. -/
theorem src_new (hT : T.Ok) (w : World) (x : α) (cs : Array Value) (hcs : cs.toList = T.enc x) : Src T (w.alloc (.cells cs T.te)) (.slice (some ⟨w.heap.size, 0, none⟩) 1 1) [x] := by
  refine .inr ⟨w.heap.size, 0, 1, rfl, Nat.le_refl _, by unfold maxLen; omega, by simp, fun j y hy i u hu => ?_⟩
  match j with
  | 0 =>
    simp at hy
    subst hy
    rw [← hcs] at hu
    have : cs[i]? = some u := by simpa using hu
    rw [show 0 + 0 * T.s + i = i by omega]
    exact cell_new _ _ _ _ _ _ rfl this
  | j + 1 => simp at hy
end Go.Proofs.YtcdimopiaanfbaaDoor
