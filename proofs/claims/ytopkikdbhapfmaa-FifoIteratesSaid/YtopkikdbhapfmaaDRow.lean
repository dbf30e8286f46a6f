/- Rows of the reference's values. -/
import Derived.Test.YtopkikdbhapfmaaDAll
namespace Go.Proofs.Ytopkikdbhapfmaa
open Go.RowKit Go.Sort Go.MapKept
set_option linter.unusedVariables false
set_option linter.unusedSimpArgs false

/-- A row of the reference's values that a call owns. -/
def RowR (w : World) (base : Nat) (s : Value) (D : Qu) : Prop := w.ownsRow base 46 2 s D.length (fl enV D)
theorem infoRefV : (Try.prog.info? 46).map (fun i => (i.zero, i.size, i.bytes)) = some (some (.agg #[.int .i64 0, .int .u64 0]), 2, 16) := by kernel_rfl
section
variable {w w' : World} {base : Nat} {s : Value} {D : Qu}
theorem RowR.nil (w : World) (base : Nat) : RowR w base (.slice none 0 0) [] := World.ownsRow_nil w base 46 2
theorem RowR.below (h : RowR w base s D) (hb : Below w.heap.size w w') : RowR w' base s D := (Fr.of_below hb []).row h (fun _ _ => by simp)
theorem RowR.fr {F : List Nat} (h : RowR w base s D) (hf : Fr F w w') (hn : ∀ g, s.ownBlock = some g → g ∉ F) : RowR w' base s D := hf.row h hn
theorem RowR.lower {b' : Nat} (h : RowR w base s D) (hb : b' ≤ base) : RowR w b' s D := ownsRow_mono h hb
theorem RowR.form (h : RowR w base s D) : ∃ a c, s = .slice a D.length c ∧ D.length ≤ c ∧ c ≤ maxLen := by
  rcases h.2 with ⟨rfl, hn⟩ | ⟨g, cap, cu, rfl, hb, hh, h1, h2, h3, h4⟩
  · exact ⟨none, 0, by rw [hn], by omega, Nat.zero_le _⟩
  · exact ⟨_, cap, rfl, h1, h2⟩
theorem RowR.src (h : RowR w base s D) : SrcR w s D := by
  rcases h.2 with ⟨rfl, hn⟩ | ⟨g, cap, cu, rfl, hb, hh, h1, h2, h3, h4⟩
  · exact .inl ⟨rfl, List.eq_nil_of_length_eq_zero hn⟩
  · refine .inr ⟨g, 0, cap, rfl, h1, h2, (World.ownsRow.lt h g rfl).2, fun j e he => ?_⟩
    obtain ⟨k0, k1⟩ := fl_get enV D j e he
    have c0 := World.ownsRow.cells h rfl _ _ k0
    have c1 := World.ownsRow.cells h rfl _ _ k1
    rw [Go.WideShapes.add_plain, Nat.zero_add] at c0 c1
    rw [Nat.zero_add]
    exact ⟨c0, c1⟩
/-- A row does not lie where something else lies. -/
theorem RowR.ne (h : RowR w base s D) {c : Nat} {y : Array Value} {u : TypeId} (hc : w.heap[c]? = some (.cells y u (0, 0))) (hn : 46 ≠ u) : ∀ g, s.ownBlock = some g → g ≠ c := row_ne h hc hn
theorem RowR.nmap {m n : Nat} {f : Nat → Option Lk} (h : RowR w base s D) (hm : LinkMap w m n f) : ∀ g, s.ownBlock = some g → g ≠ m := by
  intro g hg
  rcases h.2 with ⟨rfl, _⟩ | ⟨g', cap, cu, rfl, _, hh, _⟩
  · simp [Value.ownBlock] at hg
  · simp [Value.ownBlock] at hg
    subst hg
    exact hm.ne hh
theorem SrcR.same (h : SrcR w s D) (hs : ∀ a v, w.cell? a = some v → w'.cell? a = some v) (hz : w.heap.size ≤ w'.heap.size) : SrcR w' s D := by
  rcases h with h | ⟨g, off, c, h1, h2, h3, h4, h5⟩
  · exact .inl h
  · exact .inr ⟨g, off, c, h1, h2, h3, by omega, fun j e he => ⟨hs _ _ (h5 j e he).1, hs _ _ (h5 j e he).2⟩⟩
end
theorem enV_one (D : Qu) : ∀ u ∈ fl enV D, u.oneCell' = true := fl_one enV (fun _ => ⟨rfl, rfl⟩) D
theorem fl_at {h : Nat × Int → Value × Value} {D : Qu} {j : Nat} {u : Value} (hu : (fl h D)[j]? = some u) : ∃ e, D[j / 2]? = some e ∧ ((j % 2 = 0 ∧ u = (h e).1) ∨ (j % 2 = 1 ∧ u = (h e).2)) := by
  have hl : j < D.length * 2 := by
    rw [← fl_len h D]
    exact (List.getElem?_eq_some_iff.1 hu).1
  have hk : j / 2 < D.length := by omega
  refine ⟨D[j / 2], List.getElem?_eq_getElem hk, ?_⟩
  obtain ⟨k0, k1⟩ := fl_get h D (j / 2) D[j / 2] (List.getElem?_eq_getElem hk)
  rcases (by omega : j = j / 2 * 2 ∨ j = j / 2 * 2 + 1) with q | q
  · left
    rw [← q, hu] at k0
    exact ⟨by omega, Option.some.inj k0⟩
  · right
    rw [← q, hu] at k1
    exact ⟨by omega, Option.some.inj k1⟩

theorem run_append_r (w : World) {base : Nat} {v vx : Value} {X M : Qu} (hown : RowR w base v X) (hbase : base ≤ w.heap.size) (hx : SrcR w vx M) (h63 : X.length + M.length ≤ 1000000) (ty : TypeId) :
    ∃ v' w', (Builtin.append_ #[26, 26] ty #[v, vx]).run Try.prog w = .ok v' w' ∧ RowR w' base v' (X ++ M) ∧ Fr v.ownBlock.toList w w' ∧ Near w v v' := by
  obtain ⟨i0, hi0, hz0, hz1, hz2⟩ := info_parts infoRefV
  rcases hx with ⟨rfl, rfl⟩ | ⟨g, off, cx, rfl, _, _, _, hcells⟩
  · exact ⟨v, w, run_append_owned_none w base 26 ty 46 i0 2 Try.underlying26 hi0 v _ _ hown, by simpa using hown, Fr.refl _ _, fun g hg => .inl hg⟩
  · obtain ⟨v', w', hrun, ho, hg, _, hat⟩ := run_append_own_at (P := Try.prog) w base 26 ty 46 i0 _ 2 16 Try.underlying26 hi0 hz0 hz1 hz2 rfl (by decide) v _ _ hown ⟨g, off, none⟩ M.length cx (fl enV M) (fl_len _ _)
      (fun j u hu => by
        obtain ⟨e, he, hc⟩ := fl_at hu
        obtain ⟨c0, c1⟩ := hcells _ _ he
        rw [Go.WideShapes.add_plain]
        rcases hc with ⟨q, rfl⟩ | ⟨q, rfl⟩
        · rw [show off + j = off + j / 2 * 2 by omega]; exact c0
        · rw [show off + j = off + j / 2 * 2 + 1 by omega]; exact c1) (enV_one M) (by unfold maxLen; omega) (by omega) hbase
    refine ⟨v', w', hrun, ?_, fr_grown hg, fun x hx => ?_⟩
    · unfold RowR
      rw [List.length_append, fl_append]
      exact ho
    · rcases hat with h | h
      · left; rw [← h]; exact hx
      · right; rw [h] at hx; simp at hx; omega
theorem wp_append_r {w : World} {o : Oper} {a : Act} {K : Act → World → Prop} {Q : Exit → Act → World → Prop} (s x : Operand)
    (ho : o.op = .call { callee := .builtin .append, args := #[s, x], argTypes := #[26, 26] }) {base : Nat} {v vx : Value} {X M : Qu} (hs : a.eval s = v) (hx : a.eval x = vx)
    (hown : RowR w base v X) (hbase : base ≤ w.heap.size) (hrow : SrcR w vx M) (h63 : X.length + M.length ≤ 1000000)
    (h : ∀ v' w', RowR w' base v' (X ++ M) → Fr v.ownBlock.toList w w' → Near w v v' → K (a.put o.dst v') w') : Oper.wp Try.prog o a w K Q := by
  obtain ⟨v', w', hrun, h1, h2, h3⟩ := run_append_r w hown hbase hrow h63 o.type
  unfold Oper.wp
  simp [execOp, ho, resolve, invoke, builtin, hs, hx, hrun, Result.andThen]
  exact h v' w' h1 h2 h3
theorem src_pair (w : World) (v : Int) (t : Nat) : SrcR (w.alloc (.cells #[.int .i64 v, .int .u64 ((t : Nat) : Int)] 46)) (.slice (some ⟨w.heap.size, 0, none⟩) 1 1) [(t, v)] := by
  refine .inr ⟨w.heap.size, 0, 1, rfl, Nat.le_refl _, by unfold maxLen; omega, by simp, fun j e he => ?_⟩
  match j with
  | 0 =>
    simp at he
    subst he
    exact ⟨cell_new _ _ _ _ _ _ rfl rfl, cell_new _ _ _ _ _ _ rfl rfl⟩
  | j + 1 => simp at he
/-- A part of a slice. -/
theorem SrcR.part {w : World} {a : Option Addr} {n c : Nat} {L : Qu} (h : SrcR w (.slice a n c) L) (i j : Nat) (hij : i ≤ j) (hj : j ≤ L.length) (hlt : i < L.length) (v : Value)
    (hv : ∀ b off, a = some ⟨b, off, none⟩ → v = .slice (some ⟨b, off + i * 2, none⟩) (j - i) (c - i)) : SrcR w v ((L.drop i).take (j - i)) := by
  rcases h with ⟨_, rfl⟩ | ⟨b, off, c', he, h2, h3, h4, h5⟩
  · simp at hlt
  · simp only [Value.slice.injEq] at he
    obtain ⟨rfl, rfl, rfl⟩ := he
    have hl : ((L.drop i).take (j - i)).length = j - i := by simp; omega
    refine .inr ⟨b, off + i * 2, c - i, by rw [hl]; exact hv b off rfl, by omega, by omega, h4, fun k e he => ?_⟩
    rw [List.getElem?_take] at he
    split at he
    · rw [List.getElem?_drop] at he
      have := h5 _ _ he
      rw [show off + i * 2 + k * 2 = off + (i + k) * 2 by omega]
      exact this
    · simp at he
end Go.Proofs.Ytopkikdbhapfmaa
