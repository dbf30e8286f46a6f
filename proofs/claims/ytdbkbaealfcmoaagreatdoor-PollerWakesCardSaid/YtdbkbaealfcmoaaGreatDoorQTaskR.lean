/- QTaskR: FRefA, FRefB, FRefC, FBoth, merged. -/
import Derived.Test.YtdbkbaealfcmoaaGreatDoorQTaskB
import Derived.LoopTactic
import Derived.Deep.LoopGhost
import Derived.Test.YtdbkbaealfcmoaaGreatDoorQMix
import Derived.Deep.CutBlock
import Derived.Deep.RegionWith
import Derived.Test.YtdbkbaealfcmoaaGreatDoorQTaskA
/- The reference: New, State, Next, without. -/
namespace Go.Proofs.YtdbkbaealfcmoaaGreatDoor
open Go.RowKit Go.Sort
set_option linter.unusedVariables false
set_option linter.unusedSimpArgs false

/-- A reference's table. -/
def rk (s r : Value) : Value := .agg #[s, r]

theorem row_zero {w : World} {base b n : Nat} (h : w.ownsRow base 3 1 (.slice (some ⟨b, 0, none⟩) n n) n (madeCells #[Value.int .i64 0] n).toList) : Row TI w base (.slice (some ⟨b, 0, none⟩) n n) (List.replicate n 0) := by
  unfold Row
  rw [List.length_replicate, flt_replicate (e := TI.enc) (s := 1) n 0 TI_ok.len (by decide), Nat.mul_one]
  exact h
section
variable {w : World} {s r : Value} {S R : List Int}
end
end Go.Proofs.YtdbkbaealfcmoaaGreatDoor
/- The reference: without. -/
namespace Go.Proofs.YtdbkbaealfcmoaaGreatDoor
open Go.RowKit Go.Sort
set_option linter.unusedVariables false
set_option linter.unusedSimpArgs false

/-- A list without a number. -/
def woR (n : Int) (R : List Int) : List Int := R.filter fun x => decide (x ≠ n)
theorem woR_next {n : Int} {R : List Int} {k : Nat} (hk : k < R.length) : woR n (R.take (k + 1)) = woR n (R.take k) ++ if R[k] = n then [] else [R[k]] := by
  unfold woR
  rw [List.take_succ_eq_append_getElem hk, List.filter_append]
  congr 1
  by_cases h : R[k] = n
  · rw [if_pos h]; simp [h]
  · rw [if_neg h]; simp [h]
theorem woR_wo (n : Nat) (Q : Qu) : (wo n Q).map Prod.snd = woR ((n : Nat) : Int) (Q.map Prod.snd) := by
  unfold wo woR
  rw [List.filter_map]
  rfl

end Go.Proofs.YtdbkbaealfcmoaaGreatDoor
/- The reference: change. -/
namespace Go.Proofs.YtdbkbaealfcmoaaGreatDoor
open Go.RowKit Go.Sort
set_option linter.unusedVariables false
set_option linter.unusedSimpArgs false

/-- The two blocks that a call of the reference begins with. -/
theorem two_blocks (w : World) (o0 o1 : Obj) : ∃ W, (w.alloc o0).alloc o1 = W ∧ Below w.heap.size w W ∧ W.heap.size = w.heap.size + 2 ∧ W.heap[w.heap.size]? = some o0 ∧ W.heap[w.heap.size + 1]? = some o1 :=
  ⟨_, rfl, (((Grn.refl w).alloc _).alloc _).below, by simp, ((below_alloc _ _).block _ (by simp)).trans (block_new _ _ _ rfl), block_new _ _ _ (by simp)⟩

section
variable {w : World} {s r : Value} {S R : List Int}
end
end Go.Proofs.YtdbkbaealfcmoaaGreatDoor
/- The reference's Start, Park, Wake, Finish, Turn; what a table and the reference answer, side by side. -/
namespace Go.Proofs.YtdbkbaealfcmoaaGreatDoor
open Go.RowKit Go.Sort
set_option linter.unusedVariables false
set_option linter.unusedSimpArgs false

/-- What the reference returns: a table with the states S and the run set R. -/
def RefAns (w : World) (b : Nat) (S R : List Int) (code : Int) (e : Ending) (w' : World) : Prop :=
  ∃ s' r', e = .returned (.tuple #[rk s' r', .int .i64 code]) ∧ Row TI w' b s' S ∧ Row TI w' b r' R ∧ Below w.heap.size w w'
def sts (P : Ks) : List Int := P.map fun p => p.s
def vls (Q : Qu) : List Int := Q.map Prod.snd
theorem sts_len (P : Ks) : (sts P).length = P.length := by simp [sts]
theorem sts_get {P : Ks} {i : Nat} {p : Ck} (hp : P[i]? = some p) (hi : i < (sts P).length) : (sts P)[i] = p.s := by
  obtain ⟨hl, he⟩ := List.getElem?_eq_some_iff.1 hp
  simp [sts, he]
theorem sts_step (P : Ks) (i : Nat) (tg : Int) (g : Nat) : sts (stepP P i tg g) = (sts P).set i tg := by simp [sts, stepP, List.map_set]
theorem vls_step (Q : Qu) (i : Nat) (tg : Int) (g : Nat) : vls (stepQ Q i tg g) = woR ((i : Nat) : Int) (vls Q) ++ if tg = 1 then [((i : Nat) : Int)] else [] := by
  unfold vls stepQ
  rw [List.map_append, woR_wo]
  split <;> rfl

end Go.Proofs.YtdbkbaealfcmoaaGreatDoor
