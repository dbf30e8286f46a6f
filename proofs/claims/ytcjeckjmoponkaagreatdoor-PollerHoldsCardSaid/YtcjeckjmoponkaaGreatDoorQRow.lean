/- QRow: GRow, GRange, GMap, merged. -/
import Derived.Test.YtcjeckjmoponkaaGreatDoorQMix
import Derived.Maps.AppendAt
import Derived.Laws.OwnMore
import Derived.Lib.AppendZeros
import Derived.Shelf.Abstract
import Derived.OwnWalkIn
import Derived.TacticsInMore
import Derived.RangeFuncBox
import Derived.RangeFuncLeaves
import Derived.MapKept
import Derived.StillTailTactics
import Derived.Maps.RangeWalk
/- Rows of elements of several cells that a call owns; what is appended to them. Of no type of its own. -/
namespace Go.Proofs.YtcjeckjmoponkaaGreatDoor
open Go.RowKit Go.Sort
set_option linter.unusedVariables false
set_option linter.unusedSimpArgs false

/-- The cells of the elements, one after the other. -/
def flt {α : Type} (e : α → List Value) : List α → List Value
  | [] => []
  | x :: r => e x ++ flt e r
section
variable {α : Type} {e : α → List Value} {s : Nat}
theorem flt_append (e : α → List Value) (A B : List α) : flt e (A ++ B) = flt e A ++ flt e B := by
  induction A with
  | nil => rfl
  | cons x r ih => show e x ++ flt e (r ++ B) = _; rw [ih, ← List.append_assoc]; rfl
theorem flt_len (h : ∀ x, (e x).length = s) (L : List α) : (flt e L).length = L.length * s := by
  induction L with
  | nil => simp [flt]
  | cons x r ih => show (e x ++ flt e r).length = _; rw [List.length_append, ih, h, List.length_cons, Nat.add_mul]; omega
theorem flt_get (h : ∀ x, (e x).length = s) {L : List α} {i j : Nat} {x : α} {u : Value} (hx : L[i]? = some x) (hu : (e x)[j]? = some u) : (flt e L)[i * s + j]? = some u := by
  induction L generalizing i with
  | nil => simp at hx
  | cons y r ih =>
    show (e y ++ flt e r)[i * s + j]? = _
    cases i with
    | zero =>
      simp at hx
      subst hx
      have := (List.getElem?_eq_some_iff.1 hu).1
      rw [Nat.zero_mul, Nat.zero_add, List.getElem?_append_left this]
      exact hu
    | succ i =>
      rw [List.getElem?_append_right (by rw [h, Nat.add_mul]; omega), h, Nat.add_mul]
      have := ih (i := i) (by simpa using hx)
      rw [show i * s + 1 * s + j - s = i * s + j by omega]
      exact this
/-- A cell belongs to an element. -/
theorem flt_at (h : ∀ x, (e x).length = s) (hs : 0 < s) {L : List α} {j : Nat} {u : Value} (hu : (flt e L)[j]? = some u) : ∃ x, L[j / s]? = some x ∧ (e x)[j % s]? = some u := by
  have hl : j < L.length * s := by rw [← flt_len h L]; exact (List.getElem?_eq_some_iff.1 hu).1
  have hk : j / s < L.length := Nat.div_lt_of_lt_mul (by rw [Nat.mul_comm]; exact hl)
  refine ⟨L[j / s], List.getElem?_eq_getElem hk, ?_⟩
  have hm : j % s < (e L[j / s]).length := by rw [h]; exact Nat.mod_lt _ hs
  have := flt_get h (List.getElem?_eq_getElem hk) (List.getElem?_eq_getElem hm)
  rw [show j / s * s + j % s = j by rw [Nat.mul_comm]; exact Nat.div_add_mod j s, hu] at this
  rw [List.getElem?_eq_getElem hm, ← this]
theorem flt_replicate (n : Nat) (x : α) (h : ∀ x, (e x).length = s) (hs : 0 < s) : flt e (List.replicate n x) = (madeCells (e x).toArray (n * s)).toList := by
  refine List.ext_getElem? fun j => ?_
  by_cases hj : j < n * s
  · have hl : (flt e (List.replicate n x)).length = n * s := by rw [flt_len h, List.length_replicate]
    obtain ⟨u, hu⟩ : ∃ u, (flt e (List.replicate n x))[j]? = some u := ⟨_, List.getElem?_eq_getElem (by rw [hl]; exact hj)⟩
    obtain ⟨y, hy, hyu⟩ := flt_at h hs hu
    rw [List.getElem?_replicate] at hy
    split at hy
    · cases hy
      rw [hu]
      have hm : j % s < (e x).length := by rw [h]; exact Nat.mod_lt _ hs
      unfold madeCells
      have h3 := List.getElem?_eq_some_iff.1 hyu
      simp [hj, h]
      rw [List.getElem?_eq_getElem hm]
      simp [h3.2]
    · cases hy
  · rw [List.getElem?_eq_none (by rw [flt_len h, List.length_replicate]; omega), List.getElem?_eq_none (by simp [size_madeCells]; omega)]
end
theorem info_parts {P : Program} {e : TypeId} {x : Option Value × Nat × Nat} (h : (P.info? e).map (fun i => (i.zero, i.size, i.bytes)) = some x) : ∃ i, P.info? e = some i ∧ i.zero = x.1 ∧ i.size = x.2.1 ∧ i.bytes = x.2.2 := by
  cases hi : P.info? e with
  | none => rw [hi] at h; simp at h
  | some i => rw [hi] at h; simp at h; exact ⟨i, rfl, by rw [← h], by rw [← h], by rw [← h]⟩

/-- How a type of elements lies in memory. -/
structure GT (α : Type) where
  ts : TypeId
  te : TypeId
  s : Nat
  enc : α → List Value
/-- What is known of it. -/
structure GT.Ok {α : Type} (T : GT α) : Prop where
  len : ∀ x, (T.enc x).length = T.s
  one : ∀ x, ∀ u ∈ T.enc x, u.oneCell' = true
  pos : 0 < T.s
  und : Tryz.prog.underlying T.ts = some (.slice T.te)
  info : ∃ i z, Tryz.prog.info? T.te = some i ∧ i.zero = some z ∧ i.size = T.s ∧ i.bytes ≤ 100 ∧ z.cells.size = T.s

variable {α : Type} {T : GT α}
def Row (T : GT α) (w : World) (base : Nat) (v : Value) (X : List α) : Prop := w.ownsRow base T.te T.s v X.length (flt T.enc X)
/-- A slice that has the elements X. -/
def Src (T : GT α) (w : World) (v : Value) (X : List α) : Prop :=
  (v = .slice none 0 0 ∧ X = []) ∨ ∃ g off c, v = .slice (some ⟨g, off, none⟩) X.length c ∧ X.length ≤ c ∧ c ≤ maxLen ∧ g < w.heap.size ∧ ∀ j x, X[j]? = some x → ∀ i u, (T.enc x)[i]? = some u → w.cell? ⟨g, off + j * T.s + i, none⟩ = some u
section
variable {w w' : World} {base : Nat} {v : Value} {X : List α}
theorem Row.nil (w : World) (base : Nat) : Row T w base (.slice none 0 0) [] := World.ownsRow_nil w base T.te T.s
theorem Row.below (h : Row T w base v X) (hb : Below w.heap.size w w') : Row T w' base v X := (Fr.of_below hb []).row h (fun _ _ => by simp)
theorem Row.fr {F : List Nat} (h : Row T w base v X) (hf : Fr F w w') (hn : ∀ g, v.ownBlock = some g → g ∉ F) : Row T w' base v X := hf.row h hn
theorem Row.lower {b' : Nat} (h : Row T w base v X) (hb : b' ≤ base) : Row T w b' v X := ownsRow_mono h hb
theorem Row.form (h : Row T w base v X) : ∃ a c, v = .slice a X.length c ∧ X.length ≤ c ∧ c ≤ maxLen := by
  rcases h.2 with ⟨rfl, hn⟩ | ⟨g, cap, cu, rfl, hb, hh, h1, h2, h3, h4⟩
  · exact ⟨none, 0, by rw [hn], by omega, Nat.zero_le _⟩
  · exact ⟨_, cap, rfl, h1, h2⟩
theorem Row.lt (h : Row T w base v X) (g : Nat) (hg : v.ownBlock = some g) : base ≤ g ∧ g < w.heap.size := World.ownsRow.lt h g hg
theorem Row.ne (h : Row T w base v X) {c : Nat} {y : Array Value} {u : TypeId} (hc : w.heap[c]? = some (.cells y u (0, 0))) (hn : T.te ≠ u) : ∀ g, v.ownBlock = some g → g ≠ c := row_ne h hc hn
theorem Row.src (hT : T.Ok) (h : Row T w base v X) : Src T w v X := by
  rcases h.2 with ⟨rfl, hn⟩ | ⟨g, cap, cu, rfl, hb, hh, h1, h2, h3, h4⟩
  · exact .inl ⟨rfl, List.eq_nil_of_length_eq_zero hn⟩
  · refine .inr ⟨g, 0, cap, rfl, h1, h2, (World.ownsRow.lt h g rfl).2, fun j x hx i u hu => ?_⟩
    have c0 := World.ownsRow.cells h rfl _ _ (flt_get hT.len hx hu)
    rw [Go.WideShapes.add_plain, Nat.zero_add] at c0
    rw [Nat.zero_add]
    exact c0
theorem Src.form (h : Src T w v X) : ∃ a c, v = .slice a X.length c ∧ X.length ≤ c ∧ c ≤ maxLen := by
  rcases h with ⟨rfl, rfl⟩ | ⟨g, off, c, rfl, h1, h2, _⟩
  · exact ⟨none, 0, rfl, Nat.le_refl _, Nat.zero_le _⟩
  · exact ⟨_, c, rfl, h1, h2⟩
theorem Src.grown (h : Src T w v X) (hb : Below w.heap.size w w') : Src T w' v X := by
  rcases h with h | ⟨g, off, c, h1, h2, h3, h4, h5⟩
  · exact .inl h
  · exact .inr ⟨g, off, c, h1, h2, h3, by have := hb.size; omega, fun j x hx i u hu => (hb.cell (p := ⟨g, off + j * T.s + i, none⟩) h4).trans (h5 j x hx i u hu)⟩
theorem Src.fr {F : List Nat} (h : Src T w v X) (hf : Fr F w w') (hn : ∀ g, v.ownBlock = some g → g ∉ F) : Src T w' v X := by
  rcases h with h | ⟨g, off, c, h1, h2, h3, h4, h5⟩
  · exact .inl h
  · exact .inr ⟨g, off, c, h1, h2, h3, by have := hf.size; omega, fun j x hx i u hu => hf.cell (p := ⟨g, off + j * T.s + i, none⟩) (h5 j x hx i u hu) (hn g (by rw [h1]; rfl))⟩
theorem Src.at (h : Src T w v X) {j : Nat} {x : α} (hx : X[j]? = some x) : ∃ g off c, v = .slice (some ⟨g, off, none⟩) X.length c ∧ g < w.heap.size ∧ ∀ i u, (T.enc x)[i]? = some u → w.cell? ⟨g, off + j * T.s + i, none⟩ = some u := by
  rcases h with ⟨_, rfl⟩ | ⟨g, off, c, h1, h2, h3, h4, h5⟩
  · simp at hx
  · exact ⟨g, off, c, h1, h4, fun i u hu => h5 j x hx i u hu⟩
/-- An element in a row. -/
theorem Row.at (hT : T.Ok) (h : Row T w base v X) {j : Nat} {x : α} (hx : X[j]? = some x) : ∃ g c, v = .slice (some ⟨g, 0, none⟩) X.length c ∧ base ≤ g ∧ g < w.heap.size ∧ (∀ o, w.frozen? ⟨g, o, none⟩ = false) ∧ ∀ i u, (T.enc x)[i]? = some u → w.cell? ⟨g, j * T.s + i, none⟩ = some u := by
  rcases h.2 with ⟨_, hn⟩ | ⟨g, cap, cu, rfl, hb, hh, h1, h2, h3, h4⟩
  · have : X = [] := List.eq_nil_of_length_eq_zero hn
    subst this
    simp at hx
  · refine ⟨g, cap, rfl, hb, lt_of_block hh, fun o => cells_free hh o, fun i u hu => ?_⟩
    have c0 := World.ownsRow.cells h rfl _ _ (flt_get hT.len hx hu)
    rwa [Go.WideShapes.add_plain, Nat.zero_add] at c0
/-- One cell of an element is written. -/
theorem Row.set (hT : T.Ok) {g c : Nat} (h : Row T w base (.slice (some ⟨g, 0, none⟩) X.length c) X) {j i : Nat} {x y : α} {u : Value} (hx : X[j]? = some x) (hi : i < T.s) (he : T.enc y = (T.enc x).set i u) : Row T (w.setCell ⟨g, j * T.s + i, none⟩ u) base (.slice (some ⟨g, 0, none⟩) X.length c) (X.set j y) := by
  have hjl := (List.getElem?_eq_some_iff.1 hx).1
  rcases h.2 with ⟨h0, _⟩ | ⟨g', cap, cu, hv, hb, hh, h1, h2, h3, h4⟩
  · simp at h0
  · simp only [Value.slice.injEq, Option.some.injEq, Addr.mk.injEq] at hv
    obtain ⟨⟨rfl, _⟩, _, rfl⟩ := hv
    unfold Row
    rw [List.length_set]
    refine ⟨by rw [flt_len hT.len, List.length_set], .inr ⟨g, c, _, rfl, hb, cells_set hh _ u, h1, h2, by simpa using h3, ?_⟩⟩
    have hlen : (flt T.enc X).length = X.length * T.s := flt_len hT.len X
    refine List.ext_getElem? fun k => ?_
    have hk4 := congrArg (fun l : List Value => l[k]?) h4
    simp only [List.getElem?_take] at hk4
    rw [List.getElem?_take]
    have hcl : cu.size = c * T.s := h3
    have hmul : (j + 1) * T.s ≤ X.length * T.s := Nat.mul_le_mul_right _ hjl
    have hmul2 : X.length * T.s ≤ c * T.s := Nat.mul_le_mul_right _ h1
    rw [Nat.add_mul] at hmul
    by_cases hk : k < X.length * T.s
    · rw [if_pos hk] at hk4 ⊢
      obtain ⟨q, hq⟩ : ∃ q, (flt T.enc (X.set j y))[k]? = some q := ⟨_, List.getElem?_eq_getElem (by rw [flt_len hT.len, List.length_set]; exact hk)⟩
      obtain ⟨z, hz, hzq⟩ := flt_at hT.len hT.pos hq
      have hdm : k / T.s * T.s + k % T.s = k := by rw [Nat.mul_comm]; exact Nat.div_add_mod k T.s
      rw [List.getElem?_set] at hz
      rw [hq]
      simp only [Array.toList_setIfInBounds, List.getElem?_set, Array.length_toList, Array.getElem?_toList] at hk4 ⊢
      split at hz
      · rename_i e
        simp [hjl] at hz
        subst hz
        rw [he, List.getElem?_set] at hzq
        split at hzq
        · rename_i e2
          have hil : i < (T.enc x).length := by rw [hT.len]; exact hi
          simp [hil] at hzq
          subst hzq
          have : j * T.s + i = k := by rw [← hdm, ← e, ← e2]
          rw [if_pos this]
          simp
          omega
        · rename_i e2
          rw [if_neg (fun h' => e2 (by rw [← h', Nat.mul_comm, Nat.mul_add_mod, Nat.mod_eq_of_lt hi]))]
          rw [hk4]
          have := flt_get hT.len hx hzq
          rwa [e, hdm] at this
      · rename_i e
        rw [if_neg (fun h' => e (by rw [← h', Nat.mul_comm, Nat.mul_add_div hT.pos, Nat.div_eq_of_lt hi, Nat.add_zero]))]
        rw [hk4]
        have := flt_get hT.len hz hzq
        rwa [hdm] at this
    · rw [if_neg hk]
      symm
      exact List.getElem?_eq_none (by rw [flt_len hT.len, List.length_set]; omega)
end

theorem run_append_g (hT : T.Ok) (w : World) {base : Nat} {v vx : Value} {X M : List α} (hown : Row T w base v X) (hbase : base ≤ w.heap.size) (hx : Src T w vx M) (h63 : X.length + M.length ≤ 1000000) (ty : TypeId) :
    ∃ v' w', (Builtin.append_ #[T.ts, T.ts] ty #[v, vx]).run Tryz.prog w = .ok v' w' ∧ Row T w' base v' (X ++ M) ∧ Fr v.ownBlock.toList w w' ∧ Near w v v' := by
  obtain ⟨i0, z, hi0, hz0, hz1, hz2, hz3⟩ := hT.info
  rcases hx with ⟨rfl, rfl⟩ | ⟨g, off, cx, rfl, _, _, _, hcells⟩
  · exact ⟨v, w, run_append_owned_none w base T.ts ty T.te i0 T.s hT.und hi0 v _ _ hown, by simpa using hown, Fr.refl _ _, fun g hg => .inl hg⟩
  · have hb : (X.length + M.length) * i0.bytes ≤ 140737488355328 := by
      have : (X.length + M.length) * i0.bytes ≤ 1000000 * 100 := Nat.mul_le_mul h63 hz2
      omega
    obtain ⟨v', w', hrun, ho, hg, _, hat⟩ := run_append_own_at (P := Tryz.prog) w base T.ts ty T.te i0 _ T.s i0.bytes hT.und hi0 hz0 hz1 rfl hz3 hT.pos v _ _ hown ⟨g, off, none⟩ M.length cx (flt T.enc M) (flt_len hT.len _)
      (fun j u hu => by
        obtain ⟨x, hx, hc⟩ := flt_at hT.len hT.pos hu
        have := hcells _ _ hx _ _ hc
        rw [Go.WideShapes.add_plain]
        rwa [Nat.add_assoc, show j / T.s * T.s + j % T.s = j by rw [Nat.mul_comm]; exact Nat.div_add_mod j T.s] at this) (fun u hu => by
          obtain ⟨k, hk⟩ := List.getElem?_of_mem hu
          obtain ⟨x, _, hc⟩ := flt_at hT.len hT.pos hk
          exact hT.one x u (List.mem_of_getElem? hc)) (by unfold maxLen; omega) hb hbase
    refine ⟨v', w', hrun, ?_, fr_grown hg, fun x hx => ?_⟩
    · unfold Row
      rw [List.length_append, flt_append]
      exact ho
    · rcases hat with h | h
      · left; rw [← h]; exact hx
      · right; rw [h] at hx; simp at hx; omega
theorem wp_append_g (hT : T.Ok) {w : World} {o : Oper} {a : Act} {K : Act → World → Prop} {Q : Exit → Act → World → Prop} (s x : Operand)
    (ho : o.op = .call { callee := .builtin .append, args := #[s, x], argTypes := #[T.ts, T.ts] }) {base : Nat} {v vx : Value} {X M : List α} (hs : a.eval s = v) (hx : a.eval x = vx)
    (hown : Row T w base v X) (hbase : base ≤ w.heap.size) (hrow : Src T w vx M) (h63 : X.length + M.length ≤ 1000000)
    (h : ∀ v' w', Row T w' base v' (X ++ M) → Fr v.ownBlock.toList w w' → Near w v v' → K (a.put o.dst v') w') : Oper.wp Tryz.prog o a w K Q := by
  obtain ⟨v', w', hrun, h1, h2, h3⟩ := run_append_g hT w hown hbase hrow h63 o.type
  unfold Oper.wp
  simp [execOp, ho, resolve, invoke, builtin, hs, hx, hrun, Result.andThen]
  exact h v' w' h1 h2 h3
theorem wpList_append_g (hT : T.Ok) {w : World} {ops : Array Oper} {rest : List Oper} {o : Oper} {a : Act} {Q : Exit → Act → World → Prop} (hgd : o.guard = none) (s x : Operand)
    (ho : o.op = .call { callee := .builtin .append, args := #[s, x], argTypes := #[T.ts, T.ts] }) {base : Nat} {v vx : Value} {X M : List α} (hs : a.eval s = v) (hx : a.eval x = vx)
    (hown : Row T w base v X) (hbase : base ≤ w.heap.size) (hrow : Src T w vx M) (h63 : X.length + M.length ≤ 1000000)
    (h : ∀ v' w', Row T w' base v' (X ++ M) → Fr v.ownBlock.toList w w' → Near w v v' → wpList Tryz.prog ops Q rest (a.put o.dst v') w') : wpList Tryz.prog ops Q (o :: rest) a w := by
  refine wpList_plain hgd fun K hK => ?_
  exact wp_append_g hT s x ho hs hx hown hbase hrow h63 (fun v' w' h1 h2 h3 => hK _ _ (h v' w' h1 h2 h3))
/-- A slice with one element. -/
theorem src_new (hT : T.Ok) (w : World) (x : α) (cs : Array Value) (hcs : cs.toList = T.enc x) : Src T (w.alloc (.cells cs T.te)) (.slice (some ⟨w.heap.size, 0, none⟩) 1 1) [x] := by
  refine .inr ⟨w.heap.size, 0, 1, rfl, Nat.le_refl _, by unfold maxLen; omega, by simp, fun j y hy i u hu => ?_⟩
  match j with
  | 0 =>
    simp at hy
    subst hy
    rw [← hcs] at hu
    have : cs[i]? = some u := by simpa using hu
    rw [show 0 + 0 * T.s + i = i by omega]
    exact cell_new _ _ _ _ _ _ rfl this
  | j + 1 => simp at hy
end Go.Proofs.YtcjeckjmoponkaaGreatDoor
/- Rows that a body of a range over a function appends to; rows of integers. -/
namespace Go.Proofs.YtcjeckjmoponkaaGreatDoor
open Go.RowKit Go.Sort Go.Shelf
set_option linter.unusedVariables false
set_option linter.unusedSimpArgs false
attribute [local go_sem] Oper.semAt_some

theorem keepsFrom_fr {F : List Nat} {B : Nat} {W W' : World} (h : Fr F W W') (hc : ∀ x ∈ F, ∃ o : Obj, W.heap[x]? = some o ∧ o.isCells = true) : KeepsFrom B W W' := by
  refine ⟨h.size, fun k o _ hk ho => ?_⟩
  by_cases hm : k ∈ F
  · obtain ⟨o', h1, h2⟩ := hc k hm
    rw [hk] at h1
    simp only [Option.some.injEq] at h1
    subst h1
    rw [ho] at h2
    cases h2
  · exact h.same hk hm
section
variable {α : Type} {T : GT α}
theorem Row.obj {w : World} {b : Nat} {v : Value} {X : List α} (h : Row T w b v X) : ∀ g, v.ownBlock = some g → ∃ o : Obj, w.heap[g]? = some o ∧ o.isCells = true := by
  intro g hg
  rcases h.2 with ⟨rfl, _⟩ | ⟨g', cap, cur, rfl, _, hh, _⟩
  · simp [Value.ownBlock] at hg
  · simp [Value.ownBlock] at hg
    subst hg
    exact ⟨_, hh, rfl⟩
/-- A row outlives what a loop's record does. -/
theorem Row.own {w w' : World} {b B : Nat} {v : Value} {X : List α} {row : Option Nat} (h : Row T w b v X) (hg : w.grownBy w' row) (hr : ∀ r, row = some r → B ≤ r ∧ ∃ o : Obj, w.heap[r]? = some o ∧ o.isCells = false) : Row T w' b v X := by
  refine World.ownsRow.kept h hg ?_
  cases hq : v.ownBlock with
  | none => exact .inl rfl
  | some g =>
    right
    intro e
    obtain ⟨o, ho, hc⟩ := (hr g e.symm).2
    obtain ⟨o', ho', hc'⟩ := h.obj g hq
    rw [ho] at ho'
    simp only [Option.some.injEq] at ho'
    subst ho'
    rw [hc] at hc'
    cases hc'
theorem wpListIn_append_g (hT : T.Ok) {F : Fence} {m : Nat} {w : World} {ops : Array Oper} {rest : List Oper} {o : Oper} {a : Act} {Q : Exit → Act → World → Prop} (hgd : o.guard = none) (s x : Operand)
    (ho : o.op = .call { callee := .builtin .append, args := #[s, x], argTypes := #[T.ts, T.ts] }) {base : Nat} {v vx : Value} {X M : List α} (hs : a.eval s = v) (hx : a.eval x = vx)
    (hown : Row T w base v X) (hbase : base ≤ w.heap.size) (hrow : Src T w vx M) (h63 : X.length + M.length ≤ 1000000)
    (h : ∀ v' w', Row T w' base v' (X ++ M) → Fr v.ownBlock.toList w w' → Near w v v' → wpListIn F m Tryz.prog ops Q rest (a.put o.dst v') w') : wpListIn F m Tryz.prog ops Q (o :: rest) a w := by
  refine wpListIn_plain hgd fun K hK => ?_
  obtain ⟨v', w', hrun, r1, r2, r3⟩ := run_append_g hT w hown hbase hrow h63 o.type
  unfold Oper.wpIn
  refine ⟨?_, ?_⟩
  · simp [Oper.about, ho, resolve, Target.leads, Sem.run_pure]
  · rw [Oper.semAt_plain F _ _ (by rw [ho]; intro c hc'; cases hc')]
    simp [execOp, ho, resolve, invoke, builtin, hs, hx, hrun, Result.andThen]
    exact hK _ _ (h v' w' r1 r2 r3)
end

def TI : GT Int := ⟨36, 3, 1, fun x => [.int .i64 x]⟩
theorem infoInt : (Tryz.prog.info? 3).map (fun i => (i.zero, i.size, i.bytes)) = some (some (.int .i64 0), 1, 8) := by kernel_rfl
theorem TI_ok : TI.Ok := by
  refine ⟨fun _ => rfl, fun x u hu => ?_, by decide, Tryz.underlying36, ?_⟩
  · simp only [TI, List.mem_cons, List.not_mem_nil, or_false] at hu
    subst hu; rfl
  · obtain ⟨i, h1, h2, h3, h4⟩ := info_parts infoInt
    exact ⟨i, _, h1, h2, h3, by rw [h4]; decide, by decide⟩
/-- A box with a slice that the loop appends to. -/
theorem boxed_append {α : Type} {T : GT α} {w w' : World} {z base : Nat} {v v' : Value} {X Y : List α} {t : TypeId} (hz : w.heap[z]? = some (.cells #[v] t (0, 0))) (ht : T.te ≠ t)
    (hX : Row T w base v X) (hY : Row T w' base v' Y) (hf : Fr v.ownBlock.toList w w') (hzl : z < base) :
    w'.heap[z]? = some (.cells #[v] t (0, 0)) ∧ (w'.setCell ⟨z, 0, none⟩ v').heap[z]? = some (.cells #[v'] t (0, 0)) ∧ Row T (w'.setCell ⟨z, 0, none⟩ v') base v' Y := by
  have h1 : w'.heap[z]? = some (.cells #[v] t (0, 0)) := hf.same hz (fun hm => by
    have hg : v.ownBlock = some z := by simpa using hm
    exact hX.ne hz ht z hg rfl)
  refine ⟨h1, by simpa using cells_set h1 0 v', hY.fr (fr_setCell _ _ _) (fun g hg hm => ?_)⟩
  have := (hY.lt g hg).1
  simp at hm
  omega
end Go.Proofs.YtcjeckjmoponkaaGreatDoor
/- Maps in memory, of keys and elements of any types: what a look-up, a store, a deletion, len and a range over them make. -/
namespace Go.Proofs.YtcjeckjmoponkaaGreatDoor
open Go.RowKit Go.Sort Go.MapKept
set_option linter.unusedVariables false
set_option linter.unusedSimpArgs false
set_option linter.unusedSectionVars false

/-- How keys and elements of a type of maps lie in memory. -/
structure GM (κ ν : Type) where
  tm : TypeId
  tk : TypeId
  te : TypeId
  k : κ → Value
  v : ν → Value
  z : Value
section
variable {κ ν : Type} [DecidableEq κ]
def gfnd : List (κ × ν) → κ → Option ν
  | [], _ => none
  | (t, x) :: r, k => if t = k then some x else gfnd r k
def gix : List (κ × ν) → κ → Nat → Option (Nat × ν)
  | [], _, _ => none
  | (t, x) :: r, k, i => if t = k then some (i, x) else gix r k (i + 1)
def updG (f : κ → Option ν) (k : κ) (x : Option ν) : κ → Option ν := fun j => if j = k then x else f j
theorem gfnd_none {M : List (κ × ν)} {k : κ} (h : ∀ p ∈ M, p.1 ≠ k) : gfnd M k = none := by
  induction M with
  | nil => rfl
  | cons x r ih =>
    obtain ⟨t, y⟩ := x
    show (if t = k then _ else _) = none
    rw [if_neg (h (t, y) (by simp))]
    exact ih fun p hp => h p (by simp [hp])
theorem gfnd_at {M : List (κ × ν)} (hn : (M.map Prod.fst).Nodup) {j : Nat} {k : κ} {x : ν} (h : M[j]? = some (k, x)) : gfnd M k = some x := by
  induction M generalizing j with
  | nil => simp at h
  | cons y r ih =>
    obtain ⟨t, z⟩ := y
    simp only [List.map_cons, List.nodup_cons] at hn
    show (if t = k then some z else gfnd r k) = some x
    cases j with
    | zero => simp at h; rw [if_pos h.1, h.2]
    | succ j =>
      simp at h
      rw [if_neg ?_]
      · exact ih hn.2 h
      · rintro rfl
        exact hn.1 (List.mem_map.2 ⟨_, List.mem_of_getElem? h, rfl⟩)
theorem gfnd_append (M N : List (κ × ν)) (k : κ) : gfnd (M ++ N) k = (gfnd M k).or (gfnd N k) := by
  induction M with
  | nil => rfl
  | cons y r ih =>
    obtain ⟨t, z⟩ := y
    show (if t = k then some z else gfnd (r ++ N) k) = (if t = k then some z else gfnd r k).or (gfnd N k)
    rw [ih]
    split <;> rfl
theorem gfnd_set {M : List (κ × ν)} (hn : (M.map Prod.fst).Nodup) {j : Nat} {k : κ} {x y : ν} (h : M[j]? = some (k, x)) : ∀ i, gfnd (M.set j (k, y)) i = updG (gfnd M) k (some y) i := by
  induction M generalizing j with
  | nil => simp at h
  | cons z r ih =>
    obtain ⟨t, u⟩ := z
    simp only [List.map_cons, List.nodup_cons] at hn
    intro i
    cases j with
    | zero =>
      simp at h
      obtain ⟨rfl, rfl⟩ := h
      show (if t = i then some y else gfnd r i) = if i = t then some y else (if t = i then some u else gfnd r i)
      by_cases e : i = t
      · subst e; simp
      · rw [if_neg (Ne.symm e), if_neg e, if_neg (Ne.symm e)]
    | succ j =>
      simp at h
      have htk : t ≠ k := fun e => hn.1 (List.mem_map.2 ⟨_, List.mem_of_getElem? h, e.symm⟩)
      show (if t = i then some u else gfnd (r.set j (k, y)) i) = if i = k then some y else (if t = i then some u else gfnd r i)
      rw [ih hn.2 h i]
      unfold updG
      by_cases h1 : t = i
      · subst h1; simp [htk]
      · simp [h1]
theorem gfnd_erase {M : List (κ × ν)} (hn : (M.map Prod.fst).Nodup) {j : Nat} {k : κ} {x : ν} (h : M[j]? = some (k, x)) : ∀ i, gfnd (M.eraseIdx j) i = updG (gfnd M) k none i := by
  induction M generalizing j with
  | nil => simp at h
  | cons z r ih =>
    obtain ⟨t, u⟩ := z
    simp only [List.map_cons, List.nodup_cons] at hn
    intro i
    cases j with
    | zero =>
      simp at h
      obtain ⟨rfl, rfl⟩ := h
      show gfnd r i = if i = t then none else (if t = i then some u else gfnd r i)
      by_cases h1 : i = t
      · subst h1
        rw [if_pos rfl]
        exact gfnd_none fun p hp e => hn.1 (List.mem_map.2 ⟨p, hp, e⟩)
      · rw [if_neg h1, if_neg (Ne.symm h1)]
    | succ j =>
      simp at h
      have htk : t ≠ k := fun e => hn.1 (List.mem_map.2 ⟨_, List.mem_of_getElem? h, e.symm⟩)
      show (if t = i then some u else gfnd (r.eraseIdx j) i) = if i = k then none else (if t = i then some u else gfnd r i)
      rw [ih hn.2 h i]
      unfold updG
      by_cases h1 : t = i
      · subst h1; simp [htk]
      · simp [h1]
theorem gix_spec (M : List (κ × ν)) (k : κ) (i : Nat) : (gix M k i = none ∧ ∀ p ∈ M, p.1 ≠ k) ∨ ∃ j x, gix M k i = some (i + j, x) ∧ M[j]? = some (k, x) := by
  induction M generalizing i with
  | nil => exact .inl ⟨rfl, fun p hp => by cases hp⟩
  | cons y r ih =>
    obtain ⟨t, z⟩ := y
    by_cases e : t = k
    · subst e
      exact .inr ⟨0, z, by show (if t = t then _ else _) = _; rw [if_pos rfl]; rfl, rfl⟩
    · rcases ih (i + 1) with ⟨h1, h2⟩ | ⟨j, x, h1, h2⟩
      · refine .inl ⟨by show (if t = k then _ else _) = _; rw [if_neg e]; exact h1, fun p hp => ?_⟩
        rcases List.mem_cons.1 hp with rfl | hp
        · exact e
        · exact h2 p hp
      · exact .inr ⟨j + 1, x, by show (if t = k then _ else _) = _; rw [if_neg e, h1]; congr 2; omega, h2⟩

/-- The entries of a map. -/
def GEnt (T : GM κ ν) (es : List MapEntry) (M : List (κ × ν)) : Prop := es.map (fun e => (e.key, e.val)) = M.map fun p => (T.k p.1, T.v p.2)
/-- What is known of the types. -/
structure GM.Ok (T : GM κ ν) : Prop where
  und : Tryz.prog.underlying T.tm = some (.map T.tk T.te)
  find : ∀ (w : World) (k : κ) (l : List MapEntry) (M : List (κ × ν)), GEnt T l M → (Instr.findKey T.tk (T.k k) l).run Tryz.prog w = .ok ((gix M k 0).map fun p => (p.1, T.v p.2)) w
  chk : ∀ (w : World) (e : Bool) (k : κ), (Instr.checkKey e 10000 T.tk (T.k k)).run Tryz.prog w = .ok () w
  same : ∀ k, Instr.sameBits 10000 (T.k k) (T.k k) = true
  zero : ∀ w : World, (zeroValue T.te).run Tryz.prog w = .ok T.z w
theorem GEnt.at {T : GM κ ν} {es : List MapEntry} {M : List (κ × ν)} (h : GEnt T es M) {j : Nat} {e : MapEntry} (he : es[j]? = some e) : ∃ p, M[j]? = some p ∧ e.key = T.k p.1 ∧ e.val = T.v p.2 := by
  have h1 : (es.map fun e => (e.key, e.val))[j]? = some (e.key, e.val) := by rw [List.getElem?_map, he]; rfl
  rw [h, List.getElem?_map] at h1
  cases hp : M[j]? with
  | none => rw [hp] at h1; cases h1
  | some p =>
    rw [hp] at h1
    simp only [Option.map_some, Option.some.injEq, Prod.mk.injEq] at h1
    exact ⟨p, rfl, h1.1.symm, h1.2.symm⟩
theorem GEnt.len {T : GM κ ν} {es : List MapEntry} {M : List (κ × ν)} (h : GEnt T es M) : es.length = M.length := by
  have := congrArg List.length h
  simpa using this
theorem GEnt.at' {T : GM κ ν} {es : List MapEntry} {M : List (κ × ν)} (h : GEnt T es M) {j : Nat} {p : κ × ν} (hp : M[j]? = some p) : ∃ e, es[j]? = some e ∧ e.key = T.k p.1 ∧ e.val = T.v p.2 := by
  have hl : j < es.length := by rw [h.len]; exact (List.getElem?_eq_some_iff.1 hp).1
  obtain ⟨p', h1, h2, h3⟩ := h.at (List.getElem?_eq_getElem hl)
  rw [hp] at h1
  cases h1
  exact ⟨_, List.getElem?_eq_getElem hl, h2, h3⟩

/-- Block m is a map of n elements. -/
def MapAt (T : GM κ ν) (w : World) (m n : Nat) (f : κ → Option ν) : Prop :=
  ∃ (M : List (κ × ν)) (es : Array MapEntry) (clock : Nat), w.heap[m]? = some (.map es clock) ∧ GEnt T es.toList M ∧ (M.map Prod.fst).Nodup ∧ M.length = n ∧ (∀ k, f k = gfnd M k) ∧ (∀ e ∈ es.toList, e.born < clock) ∧ (es.toList.map (·.born)).Nodup

variable {T : GM κ ν} {w w' : World} {m n : Nat} {f : κ → Option ν}
theorem MapAt.lt (h : MapAt T w m n f) : m < w.heap.size := by
  obtain ⟨M, es, clock, hb, _⟩ := h
  exact lt_of_block hb
theorem MapAt.same (h : MapAt T w m n f) (hs : w'.heap[m]? = w.heap[m]?) : MapAt T w' m n f := by
  obtain ⟨M, es, clock, hb, r⟩ := h
  exact ⟨M, es, clock, hs.trans hb, r⟩
theorem MapAt.congr {g : κ → Option ν} (h : MapAt T w m n f) (hs : ∀ k, g k = f k) : MapAt T w m n g := by
  obtain ⟨M, es, clock, hb, h1, h2, h3, h4, h5, h6⟩ := h
  exact ⟨M, es, clock, hb, h1, h2, h3, fun k => (hs k).trans (h4 k), h5, h6⟩
theorem MapAt.ne (h : MapAt T w m n f) {k : Nat} {y : Array Value} {u : TypeId} {z : Nat × Nat} (hc : w.heap[k]? = some (.cells y u z)) : k ≠ m := by
  rintro rfl
  obtain ⟨M, es, clock, hb, _⟩ := h
  rw [hb] at hc
  cases hc
theorem mapAt_made (T : GM κ ν) (w : World) : MapAt T (w.alloc (.map #[] 0)) w.heap.size 0 (fun _ => none) := ⟨[], #[], 0, heap_alloc_new w _, rfl, List.nodup_nil, rfl, fun _ => rfl, by simp, by simp⟩

/-- What the search for a key gives. -/
theorem gfind_key (hT : T.Ok) (w : World) {es : Array MapEntry} {M : List (κ × ν)} (h : GEnt T es.toList M) (hn : (M.map Prod.fst).Nodup) (k : κ) :
    ((Instr.findKey T.tk (T.k k) es.toList).run Tryz.prog w = .ok none w ∧ (∀ p ∈ M, p.1 ≠ k) ∧ gfnd M k = none) ∨
    ∃ j x e, (Instr.findKey T.tk (T.k k) es.toList).run Tryz.prog w = .ok (some (j, T.v x)) w ∧ M[j]? = some (k, x) ∧ es.toList[j]? = some e ∧ e.key = T.k k ∧ gfnd M k = some x := by
  have h0 := hT.find w k es.toList M h
  rcases gix_spec M k 0 with ⟨h1, h2⟩ | ⟨j, x, h1, h2⟩
  · rw [h1] at h0
    exact .inl ⟨h0, h2, gfnd_none h2⟩
  · rw [h1, Nat.zero_add] at h0
    obtain ⟨e, he, hk, _⟩ := h.at' h2
    exact .inr ⟨j, x, e, h0, h2, he, hk, gfnd_at hn h2⟩

theorem MapAt.look_yes (hT : T.Ok) (h : MapAt T w m n f) {k : κ} {x : ν} (hf : f k = some x) (c : Bool) :
    (Instr.lookup T.tm (.map (some m)) (T.k k) c).run Tryz.prog w = .ok (if c then .tuple #[T.v x, .bool true] else T.v x) w := by
  obtain ⟨M, es, clock, hb, h1, h2, h3, h4, h5, h6⟩ := h
  rcases gfind_key hT w h1 h2 k with ⟨r1, _, r2⟩ | ⟨j, y, e, r1, _, _, _, r2⟩
  · rw [h4, r2] at hf; cases hf
  · rw [h4, r2] at hf
    obtain rfl := Option.some.inj hf
    simp [Instr.lookup, run_underlying hT.und, MapKept.run_getObj_map hb, hT.chk, r1, Result.andThen]
theorem MapAt.look_no (hT : T.Ok) (h : MapAt T w m n f) {k : κ} (hf : f k = none) (c : Bool) :
    (Instr.lookup T.tm (.map (some m)) (T.k k) c).run Tryz.prog w = .ok (if c then .tuple #[T.z, .bool false] else T.z) w := by
  obtain ⟨M, es, clock, hb, h1, h2, h3, h4, h5, h6⟩ := h
  rcases gfind_key hT w h1 h2 k with ⟨r1, _, r2⟩ | ⟨j, y, e, r1, _, _, _, r2⟩
  · simp [Instr.lookup, run_underlying hT.und, MapKept.run_getObj_map hb, hT.chk, r1, hT.zero, Result.andThen]
  · rw [h4, r2] at hf; cases hf
theorem MapAt.len (hT : T.Ok) (h : MapAt T w m n f) (ty : TypeId) : (Builtin.len_ #[T.tm] ty #[.map (some m)]).run Tryz.prog w = .ok (.int .i64 ((n : Nat) : Int)) w := by
  obtain ⟨M, es, clock, hb, h1, h2, h3, h4, h5, h6⟩ := h
  have : es.size = n := by have := h1.len; simp at this; omega
  simp [Builtin.len_, run_underlying hT.und, MapKept.run_getObj_map hb, goInt, Result.andThen, this]

theorem fr_blockG (w : World) (m : Nat) (o : Obj) : Fr [m] w { w with heap := w.heap.setIfInBounds m o } :=
  ⟨rfl, rfl, rfl, by simp, fun k _ hn => by simp at hn; simp [Ne.symm hn]⟩

theorem MapAt.put (hT : T.Ok) (h : MapAt T w m n f) (k : κ) (x : ν) : ∃ w', (Instr.mapUpdate T.tm (.map (some m)) (T.k k) (T.v x)).run Tryz.prog w = .ok () w' ∧ MapAt T w' m (if (f k).isSome then n else n + 1) (updG f k (some x)) ∧ Fr [m] w w' ∧ w'.heap.size = w.heap.size ∧ w'.drawn = w.drawn := by
  obtain ⟨M, es, clock, hb, h1, h2, h3, h4, h5, h6⟩ := h
  have hlt := lt_of_block hb
  rcases gfind_key hT w h1 h2 k with ⟨r1, r0, r2⟩ | ⟨j, y, e, r1, r3, r4, r5, r2⟩
  · refine ⟨{ w with heap := w.heap.setIfInBounds m (.map (es.push { key := T.k k, val := T.v x, born := clock }) (clock + 1)) }, ?_, ⟨M ++ [(k, x)], _, _, (MapKept.heap_set hb).1, ?_, ?_, ?_, ?_, ?_, ?_⟩, fr_blockG _ _ _, by simp, rfl⟩
    · simp [Instr.mapUpdate, run_underlying hT.und, MapKept.run_getObj_map hb, hT.chk, r1, MapKept.run_setObj_map _ hb, Result.andThen]
    · unfold GEnt at h1 ⊢
      simp [h1]
    · rw [List.map_append, List.nodup_append]
      refine ⟨h2, by simp, ?_⟩
      intro a ha b hb e
      obtain ⟨p, hp, rfl⟩ := List.mem_map.1 ha
      simp at hb
      exact r0 p hp (e.trans hb)
    · rw [h4, r2]; simp [h3]
    · intro i
      rw [gfnd_append]
      unfold updG
      rw [h4]
      by_cases hi : i = k
      · subst hi; simp [r2, gfnd]
      · simp [hi, gfnd, Ne.symm hi]
    · intro e he
      simp at he
      rcases he with he | rfl
      · have := h5 e (by simpa using he); omega
      · simp
    · rw [Array.toList_push, List.map_append, List.nodup_append]
      refine ⟨h6, by simp, ?_⟩
      intro a ha b hb e
      obtain ⟨p, hp, rfl⟩ := List.mem_map.1 ha
      simp at hb
      have := h5 p hp
      omega
  · have hst : ∀ w : World, (Instr.keyThatStays (T.k k) (T.k k)).run Tryz.prog w = .ok (T.k k) w := fun w => by simp [Instr.keyThatStays, hT.same k]
    have hj : es[j]? = some e := by simpa using r4
    have hjl : j < es.size := (Array.getElem?_eq_some_iff.1 hj).1
    have hml : j < M.length := (List.getElem?_eq_some_iff.1 r3).1
    have hborn : (es.modify j fun e => { e with key := T.k k, val := T.v x }).toList.map (·.born) = es.toList.map (·.born) := by
      apply List.ext_getElem?
      intro i
      simp only [List.getElem?_map, Array.getElem?_toList, Array.getElem?_modify]
      split
      · cases es[i]? <;> rfl
      · rfl
    refine ⟨{ w with heap := w.heap.setIfInBounds m (.map (es.modify j fun e => { e with key := T.k k, val := T.v x }) clock) }, ?_, ⟨M.set j (k, x), _, _, (MapKept.heap_set hb).1, ?_, ?_, ?_, ?_, ?_, ?_⟩, fr_blockG _ _ _, by simp, rfl⟩
    · simp [Instr.mapUpdate, run_underlying hT.und, MapKept.run_getObj_map hb, hT.chk, r1, hj, r5, hst, MapKept.run_setObj_map _ hb, Result.andThen]
    · unfold GEnt at h1 ⊢
      apply List.ext_getElem?
      intro i
      have hi := congrArg (fun l => l[i]?) h1
      simp only [List.getElem?_map, Array.getElem?_toList, Array.getElem?_modify, List.getElem?_set] at hi ⊢
      by_cases hij : j = i
      · subst hij
        simp [hml, hjl]
      · simp only [hij, if_false]
        exact hi
    · have : (M.set j (k, x)).map Prod.fst = M.map Prod.fst := by
        rw [List.map_set]
        apply List.ext_getElem?
        intro i
        rw [List.getElem?_set]
        split
        · rename_i hij
          subst hij
          rw [List.getElem?_map, r3]
          simp [hml]
        · rfl
      rw [this]; exact h2
    · rw [h4, r2]; simp [h3]
    · intro i
      rw [gfnd_set h2 r3]
      unfold updG
      rw [h4]
    · intro e' he'
      have : e'.born ∈ es.toList.map (·.born) := by rw [← hborn]; exact List.mem_map_of_mem he'
      obtain ⟨e2, h7, h8⟩ := List.mem_map.1 this
      rw [← h8]
      exact h5 e2 h7
    · rw [hborn]; exact h6
theorem geraseIdx_map {α β : Type} (f : α → β) (l : List α) (j : Nat) : (l.map f).eraseIdx j = (l.eraseIdx j).map f := by
  induction l generalizing j with
  | nil => rfl
  | cons x r ih => cases j with
    | zero => rfl
    | succ j => simp [ih]
theorem MapAt.drop (hT : T.Ok) (h : MapAt T w m n f) (k : κ) {x : ν} (hf : f k = some x) (ty : TypeId) : ∃ w', (Builtin.delete_ #[T.tm, T.tk] ty #[.map (some m), T.k k]).run Tryz.prog w = .ok (.tuple #[]) w' ∧ MapAt T w' m (n - 1) (updG f k none) ∧ Fr [m] w w' ∧ w'.heap.size = w.heap.size := by
  obtain ⟨M, es, clock, hb, h1, h2, h3, h4, h5, h6⟩ := h
  rcases gfind_key hT w h1 h2 k with ⟨r1, r0, r2⟩ | ⟨j, y, e, r1, r3, r4, r5, r2⟩
  · rw [h4, r2] at hf; cases hf
  · have hjl : j < es.size := by have := (List.getElem?_eq_some_iff.1 r4).1; simpa using this
    have he : (es.eraseIdxIfInBounds j).toList = es.toList.eraseIdx j := by
      unfold Array.eraseIdxIfInBounds
      rw [dif_pos hjl]
      simp
    refine ⟨{ w with heap := w.heap.setIfInBounds m (.map (es.eraseIdxIfInBounds j) clock) }, ?_, ⟨M.eraseIdx j, _, _, (MapKept.heap_set hb).1, ?_, ?_, ?_, ?_, ?_, ?_⟩, fr_blockG _ _ _, by simp⟩
    · simp [Builtin.delete_, run_underlying hT.und, MapKept.run_getObj_map hb, hT.chk, r1, MapKept.run_setObj_map _ hb, Result.andThen]
    · unfold GEnt at h1 ⊢
      rw [he, ← geraseIdx_map, h1, geraseIdx_map]
    · rw [← geraseIdx_map]; exact h2.sublist (List.eraseIdx_sublist _ _)
    · have := (List.getElem?_eq_some_iff.1 r3).1
      rw [List.length_eraseIdx, if_pos this, h3]
    · intro i
      rw [gfnd_erase h2 r3]
      unfold updG
      rw [h4]
    · intro e' he'
      rw [he] at he'
      exact h5 e' (List.mem_of_mem_eraseIdx he')
    · rw [he, ← geraseIdx_map]
      exact h6.sublist (List.eraseIdx_sublist _ _)

variable {ops : Array Oper} {rest : List Oper} {o : Oper} {a : Act} {Q : Exit → Act → World → Prop}
theorem wpList_putG (hT : T.Ok) (hg : o.guard = none) (vm vk vx : Operand) (hop : o.op = Op.mapUpdate T.tm vm vk vx) (h : MapAt T w m n f) (k : κ) (x : ν) (hm : a.eval vm = .map (some m)) (hk : a.eval vk = T.k k) (hx : a.eval vx = T.v x)
    (hK : ∀ w', MapAt T w' m (if (f k).isSome then n else n + 1) (updG f k (some x)) → Fr [m] w w' → w'.heap.size = w.heap.size → wpList Tryz.prog ops Q rest (a.put o.dst undef) w') : wpList Tryz.prog ops Q (o :: rest) a w := by
  refine wpList_plain hg fun K' hK' => ?_
  obtain ⟨w', hrun, r1, r2, r3, _⟩ := h.put hT k x
  unfold Oper.wp
  simp [execOp, hop, hm, hk, hx, hrun, Result.andThen]
  exact hK' _ _ (hK w' r1 r2 r3)
theorem wpList_dropG (hT : T.Ok) (hg : o.guard = none) (vm vk : Operand) (hop : o.op = Op.call { callee := Callee.builtin Builtin.delete, args := #[vm, vk], argTypes := #[T.tm, T.tk] }) (h : MapAt T w m n f) (k : κ) {x : ν} (hf : f k = some x) (hm : a.eval vm = .map (some m)) (hk : a.eval vk = T.k k)
    (hK : ∀ w', MapAt T w' m (n - 1) (updG f k none) → Fr [m] w w' → w'.heap.size = w.heap.size → wpList Tryz.prog ops Q rest (a.put o.dst (.tuple #[])) w') : wpList Tryz.prog ops Q (o :: rest) a w := by
  refine wpList_plain hg fun K' hK' => ?_
  obtain ⟨w', hrun, r1, r2, r3⟩ := h.drop hT k hf o.type
  unfold Oper.wp
  simp [execOp, hop, resolve, invoke, builtin, hm, hk, hrun, Result.andThen]
  exact hK' _ _ (hK w' r1 r2 r3)

/-- An iterator in block r over the map in block m; left: the keys that are still to come. -/
def ItAt (T : GM κ ν) (w : World) (m r : Nat) (f : κ → Option ν) (left : κ → Bool) (cnt : Nat) : Prop :=
  ∃ (M : List (κ × ν)) (es : Array MapEntry) (clock since c0 : Nat) (seen : Array Nat), w.heap[m]? = some (.map es clock) ∧ GEnt T es.toList M ∧ (M.map Prod.fst).Nodup ∧ (∀ k, f k = gfnd M k) ∧ (es.toList.map (·.born)).Nodup ∧
    w.heap[r]? = some (.mapIter (some m) since seen c0) ∧ (∀ e : MapEntry, e ∈ es.toList → e.born < since) ∧ since ≤ c0 ∧ since ≤ clock ∧ cnt = (leftOf es seen).size ∧ ∀ k, left k = true ↔ ∃ (j : Nat) (x : ν) (e : MapEntry), M[j]? = some (k, x) ∧ es.toList[j]? = some e ∧ seen.contains e.born = false
theorem ItAt.same {r : Nat} {left : κ → Bool} {cnt : Nat} (h : ItAt T w m r f left cnt) (h1 : w'.heap[m]? = w.heap[m]?) (h2 : w'.heap[r]? = w.heap[r]?) : ItAt T w' m r f left cnt := by
  obtain ⟨M, es, clock, since, c0, seen, a1, a2, a3, a4, a5, a6, r⟩ := h
  exact ⟨M, es, clock, since, c0, seen, h1.trans a1, a2, a3, a4, a5, h2.trans a6, r⟩
theorem ItAt.lt {r : Nat} {left : κ → Bool} {cnt : Nat} (h : ItAt T w m r f left cnt) : m < w.heap.size ∧ r < w.heap.size ∧ m ≠ r := by
  obtain ⟨M, es, clock, since, c0, seen, a1, a2, a3, a4, a5, a6, _⟩ := h
  refine ⟨lt_of_block a1, lt_of_block a6, ?_⟩
  rintro rfl
  rw [a1] at a6
  cases a6
theorem ItAt.out {r : Nat} {left : κ → Bool} {cnt : Nat} (h : ItAt T w m r f left cnt) {k : Nat} {y : Array Value} {u : TypeId} {z : Nat × Nat} (hc : w.heap[k]? = some (.cells y u z)) : k ≠ m ∧ k ≠ r := by
  obtain ⟨M, es, clock, since, c0, seen, a1, a2, a3, a4, a5, a6, _⟩ := h
  constructor
  · rintro rfl; rw [a1] at hc; cases hc
  · rintro rfl; rw [a6] at hc; cases hc
end
end Go.Proofs.YtcjeckjmoponkaaGreatDoor
