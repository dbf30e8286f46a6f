/- append of one row of bytes onto another one that a law owns. -/
import Derived.Test.YtilafgemgdjfhaaBPeeks
import Derived.Maps.AppendAt
import Derived.Laws.OwnMore
import Derived.Deep.RegionLaw
namespace Go.Proofs.Ytilafgemgdjfhaa
open Go.RowKit Go.Sort
set_option linter.unusedVariables false
set_option linter.unusedSimpArgs false

/-- Bytes that came in: nil, none at all, or they lie in a block. -/
def SrcP (w : World) (ao : Option Addr) (L lc : Nat) (P : List UInt8) : Prop :=
  (ao = none ∧ L = 0 ∧ lc = 0) ∨ (L = 0 ∧ lc = 0 ∧ ∃ x, ao = some x) ∨ ∃ b off, ao = some ⟨b, off, none⟩ ∧ b < w.heap.size ∧ L ≤ lc ∧ lc ≤ maxLen ∧ 0 < lc ∧ Lies w b off P

theorem run_append_rowB (w : World) {base b2 : Nat} {v vx : Value} {X M : List UInt8} (hown : RowB w base v X) (hbase : base ≤ w.heap.size) (hx : RowB w b2 vx M) (h63 : X.length + M.length ≤ 100000) (ty : TypeId) :
    ∃ v' w', (Builtin.append_ #[24, 24] ty #[v, vx]).run Try.prog w = .ok v' w' ∧ RowB w' base v' (X ++ M) ∧ Fr v.ownBlock.toList w w' ∧ Near w v v' := by
  obtain ⟨i0, hi0, hz0, hz1, hz2⟩ := info_parts infoU8
  rcases hx.2 with ⟨rfl, hn⟩ | ⟨g, cap, cu, rfl, hb, hh, h1, h2, h3, h4⟩
  · have hM : M = [] := List.eq_nil_of_length_eq_zero hn
    subst hM
    exact ⟨v, w, run_append_owned_none w base 24 ty 5 i0 1 Try.underlying24 hi0 v _ _ hown, by simpa using hown, Fr.refl _ _, fun g hg => .inl hg⟩
  · obtain ⟨v', w', hrun, ho, hg, _, hat⟩ := run_append_own_at (P := Try.prog) w base 24 ty 5 i0 (.int .u8 0) 1 1 Try.underlying24 hi0 hz0 hz1 hz2 rfl (by decide) v _ _ hown ⟨g, 0, none⟩ M.length cap (M.map encB) (by simp) (row_cells hx) (encB_one M) (by unfold maxLen; omega) (by omega) hbase
    refine ⟨v', w', hrun, ?_, fr_grown hg, fun x hx => ?_⟩
    · unfold RowB
      rw [List.length_append, List.map_append]
      exact ho
    · rcases hat with h | h
      · left; rw [← h]; exact hx
      · right; rw [h] at hx; simp at hx; omega

theorem wpList_append_rowB {w : World} {ops : Array Oper} {rest : List Oper} {o : Oper} {a : Act} {Q : Exit → Act → World → Prop} (hgd : o.guard = none) (s x : Operand)
    (ho : o.op = .call { callee := .builtin .append, args := #[s, x], argTypes := #[24, 24] }) {base b2 : Nat} {v vx : Value} {X M : List UInt8} (hs : a.eval s = v) (hx : a.eval x = vx)
    (hown : RowB w base v X) (hbase : base ≤ w.heap.size) (hrow : RowB w b2 vx M) (h63 : X.length + M.length ≤ 100000)
    (h : ∀ v' w', RowB w' base v' (X ++ M) → Fr v.ownBlock.toList w w' → Near w v v' → wpList Try.prog ops Q rest (a.put o.dst v') w') : wpList Try.prog ops Q (o :: rest) a w := by
  refine wpList_plain hgd fun K hK => ?_
  obtain ⟨v', w', hrun, h1, h2, h3⟩ := run_append_rowB w hown hbase hrow h63 o.type
  unfold Oper.wp
  simp [execOp, ho, resolve, invoke, builtin, hs, hx, hrun, Result.andThen]
  exact hK _ _ (h v' w' h1 h2 h3)

theorem step_append_rowB {w : World} {ops : Array Oper} {o : Oper} {a : Act} {K : Act → World → Prop} {Q : Exit → Act → World → Prop} {E : Prop} (hw : Region.wanted o (yielded ops a.tmps) = true) (s x : Operand)
    (ho : o.op = .call { callee := .builtin .append, args := #[s, x], argTypes := #[24, 24] }) {base b2 : Nat} {v vx : Value} {X M : List UInt8} (hs : a.eval s = v) (hx : a.eval x = vx)
    (hown : RowB w base v X) (hbase : base ≤ w.heap.size) (hrow : RowB w b2 vx M) (h63 : X.length + M.length ≤ 100000)
    (h : ∀ v' w', RowB w' base v' (X ++ M) → Fr v.ownBlock.toList w w' → Near w v v' → K (a.put o.dst v') w') : if Region.wanted o (yielded ops a.tmps) = true then Oper.wp Try.prog o a w K Q else E := by
  rw [if_pos hw]
  obtain ⟨v', w', hrun, h1, h2, h3⟩ := run_append_rowB w hown hbase hrow h63 o.type
  unfold Oper.wp
  simp [execOp, ho, resolve, invoke, builtin, hs, hx, hrun, Result.andThen]
  exact h v' w' h1 h2 h3

/-- Blocks of the law's own are written, and new ones become the law's own. -/
theorem RgIn.writeMore {w0 w w' : World} {G G' : Nat → Prop} {a c : Nat} {B : List UInt8} {F : List Nat} (R : RgIn w0 G w a c B) (hf : Fr F w w') (hF : ∀ k, k ∈ F → G k ∧ w0.heap.size ≤ k) (hG : ∀ k, G' k → G k ∨ (w.heap.size ≤ k ∧ k < w'.heap.size)) : RgIn w0 G' w' a c B := by
  have hR := R.write hf hF
  obtain ⟨bb, cc, cp, f, xs, R⟩ := R
  obtain ⟨r, hr, hl⟩ := R.tc
  have ha := R.alt
  have hb := R.blt
  have hc := R.clt
  refine ⟨bb, cc, cp, f, xs, hf.same R.ta (fun h => R.na (hF _ h).1), hf.same R.tb (fun h => R.nb (hF _ h).1), ⟨r, hf.same hr (fun h => R.nc (hF _ h).1), hl⟩, R.ccp, R.cpm, R.cyc, fun h => ?_, fun h => ?_, fun h => ?_, R.ba, R.bb0, R.bc, fun k hk => ?_, R.below.trans (hf.below (fun x hx => (hF x hx).2) R.below.size)⟩
  · rcases hG _ h with h | h
    · exact R.na h
    · omega
  · rcases hG _ h with h | h
    · exact R.nb h
    · omega
  · rcases hG _ h with h | h
    · exact R.nc h
    · omega
  · rcases hG k hk with h | h
    · have := R.lt k h; have := hf.size; omega
    · exact h.2
end Go.Proofs.Ytilafgemgdjfhaa
