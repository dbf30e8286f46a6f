/- Rows that a body of a range over a function appends to; rows of integers. -/
import Derived.Test.YtcdimopiaanfbaaDoorGRow
import Derived.Shelf.Abstract
import Derived.OwnWalkIn
import Derived.TacticsInMore
import Derived.RangeFuncBox
import Derived.RangeFuncLeaves
namespace Go.Proofs.YtcdimopiaanfbaaDoor
open Go.RowKit Go.Sort Go.Shelf
set_option linter.unusedVariables false
set_option linter.unusedSimpArgs false
attribute [local go_sem] Oper.semAt_some

theorem keepsFrom_fr {F : List Nat} {B : Nat} {W W' : World} (h : Fr F W W') (hc : ∀ x ∈ F, ∃ o : Obj, W.heap[x]? = some o ∧ o.isCells = true) : KeepsFrom B W W' := by
  refine ⟨h.size, fun k o _ hk ho => ?_⟩
  by_cases hm : k ∈ F
  · obtain ⟨o', h1, h2⟩ := hc k hm
    rw [hk] at h1
    simp only [Option.some.injEq] at h1
    subst h1
    rw [ho] at h2
    cases h2
  · exact h.same hk hm
section
variable {α : Type} {T : GT α}
theorem Row.obj {w : World} {b : Nat} {v : Value} {X : List α} (h : Row T w b v X) : ∀ g, v.ownBlock = some g → ∃ o : Obj, w.heap[g]? = some o ∧ o.isCells = true := by
  intro g hg
  rcases h.2 with ⟨rfl, _⟩ | ⟨g', cap, cur, rfl, _, hh, _⟩
  · simp [Value.ownBlock] at hg
  · simp [Value.ownBlock] at hg
    subst hg
    exact ⟨_, hh, rfl⟩
/-- A row outlives what a loop's record does. -/
theorem Row.own {w w' : World} {b B : Nat} {v : Value} {X : List α} {row : Option Nat} (h : Row T w b v X) (hg : w.grownBy w' row) (hr : ∀ r, row = some r → B ≤ r ∧ ∃ o : Obj, w.heap[r]? = some o ∧ o.isCells = false) : Row T w' b v X := by
  refine World.ownsRow.kept h hg ?_
  cases hq : v.ownBlock with
  | none => exact .inl rfl
  | some g =>
    right
    intro e
    obtain ⟨o, ho, hc⟩ := (hr g e.symm).2
    obtain ⟨o', ho', hc'⟩ := h.obj g hq
    rw [ho] at ho'
    simp only [Option.some.injEq] at ho'
    subst ho'
    rw [hc] at hc'
    cases hc'
theorem wpListIn_append_g (hT : T.Ok) {F : Fence} {m : Nat} {w : World} {ops : Array Oper} {rest : List Oper} {o : Oper} {a : Act} {Q : Exit → Act → World → Prop} (hgd : o.guard = none) (s x : Operand)
    (ho : o.op = .call { callee := .builtin .append, args := #[s, x], argTypes := #[T.ts, T.ts] }) {base : Nat} {v vx : Value} {X M : List α} (hs : a.eval s = v) (hx : a.eval x = vx)
    (hown : Row T w base v X) (hbase : base ≤ w.heap.size) (hrow : Src T w vx M) (h63 : X.length + M.length ≤ 1000000)
    (h : ∀ v' w', Row T w' base v' (X ++ M) → Fr v.ownBlock.toList w w' → Near w v v' → wpListIn F m Tryd.prog ops Q rest (a.put o.dst v') w') : wpListIn F m Tryd.prog ops Q (o :: rest) a w := by
  refine wpListIn_plain hgd fun K hK => ?_
  obtain ⟨v', w', hrun, r1, r2, r3⟩ := run_append_g hT w hown hbase hrow h63 o.type
  unfold Oper.wpIn
  refine ⟨?_, ?_⟩
  · simp [Oper.about, ho, resolve, Target.leads, Sem.run_pure]
  · rw [Oper.semAt_plain F _ _ (by rw [ho]; intro c hc'; cases hc')]
    simp [execOp, ho, resolve, invoke, builtin, hs, hx, hrun, Result.andThen]
    exact hK _ _ (h v' w' r1 r2 r3)
end

def TI : GT Int := ⟨28, 3, 1, fun x => [.int .i64 x]⟩
theorem infoInt : (Tryd.prog.info? 3).map (fun i => (i.zero, i.size, i.bytes)) = some (some (.int .i64 0), 1, 8) := by kernel_rfl
theorem TI_ok : TI.Ok := by
  refine ⟨fun _ => rfl, fun x u hu => ?_, by decide, Tryd.underlying28, ?_⟩
  · simp only [TI, List.mem_cons, List.not_mem_nil, or_false] at hu
    subst hu; rfl
  · obtain ⟨i, h1, h2, h3, h4⟩ := info_parts infoInt
    exact ⟨i, _, h1, h2, h3, by rw [h4]; decide, by decide⟩
/-- A box with a slice that the loop appends to. -/
theorem boxed_append {α : Type} {T : GT α} {w w' : World} {z base : Nat} {v v' : Value} {X Y : List α} {t : TypeId} (hz : w.heap[z]? = some (.cells #[v] t (0, 0))) (ht : T.te ≠ t)
    (hX : Row T w base v X) (hY : Row T w' base v' Y) (hf : Fr v.ownBlock.toList w w') (hzl : z < base) :
    w'.heap[z]? = some (.cells #[v] t (0, 0)) ∧ (w'.setCell ⟨z, 0, none⟩ v').heap[z]? = some (.cells #[v'] t (0, 0)) ∧ Row T (w'.setCell ⟨z, 0, none⟩ v') base v' Y := by
  have h1 : w'.heap[z]? = some (.cells #[v] t (0, 0)) := hf.same hz (fun hm => by
    have hg : v.ownBlock = some z := by simpa using hm
    exact hX.ne hz ht z hg rfl)
  refine ⟨h1, by simpa using cells_set h1 0 v', hY.fr (fr_setCell _ _ _) (fun g hg hm => ?_)⟩
  have := (hY.lt g hg).1
  simp at hm
  omega
end Go.Proofs.YtcdimopiaanfbaaDoor
