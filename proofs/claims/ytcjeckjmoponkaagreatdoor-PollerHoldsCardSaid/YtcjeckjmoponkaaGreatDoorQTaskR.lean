/- QTaskR: FRefA, FRefB, FRefC, FBoth, merged. -/
import Derived.Test.YtcjeckjmoponkaaGreatDoorQTaskB
import Derived.LoopTactic
import Derived.Deep.LoopGhost
import Derived.Test.YtcjeckjmoponkaaGreatDoorQMix
import Derived.Deep.CutBlock
import Derived.Deep.RegionWith
import Derived.Test.YtcjeckjmoponkaaGreatDoorQTaskA
/- The reference: New, State, Next, without. -/
namespace Go.Proofs.YtcjeckjmoponkaaGreatDoor
open Go.RowKit Go.Sort
set_option linter.unusedVariables false
set_option linter.unusedSimpArgs false

/-- A reference's table. -/
def rk (s r : Value) : Value := .agg #[s, r]

theorem row_zero {w : World} {base b n : Nat} (h : w.ownsRow base 3 1 (.slice (some ⟨b, 0, none⟩) n n) n (madeCells #[Value.int .i64 0] n).toList) : Row TI w base (.slice (some ⟨b, 0, none⟩) n n) (List.replicate n 0) := by
  unfold Row
  rw [List.length_replicate, flt_replicate (e := TI.enc) (s := 1) n 0 TI_ok.len (by decide), Nat.mul_one]
  exact h
section
variable {w : World} {s r : Value} {S R : List Int}
end
end Go.Proofs.YtcjeckjmoponkaaGreatDoor
/- The reference: without. -/
namespace Go.Proofs.YtcjeckjmoponkaaGreatDoor
open Go.RowKit Go.Sort
set_option linter.unusedVariables false
set_option linter.unusedSimpArgs false

/-- A list without a number. -/
def woR (n : Int) (R : List Int) : List Int := R.filter fun x => decide (x ≠ n)
theorem woR_wo (n : Nat) (Q : Qu) : (wo n Q).map Prod.snd = woR ((n : Nat) : Int) (Q.map Prod.snd) := by
  unfold wo woR
  rw [List.filter_map]
  rfl

end Go.Proofs.YtcjeckjmoponkaaGreatDoor
/- The reference: change. -/
namespace Go.Proofs.YtcjeckjmoponkaaGreatDoor
open Go.RowKit Go.Sort
set_option linter.unusedVariables false
set_option linter.unusedSimpArgs false

section
variable {w : World} {s r : Value} {S R : List Int}
end
end Go.Proofs.YtcjeckjmoponkaaGreatDoor
/- The reference's Start, Park, Wake, Finish, Turn; what a table and the reference answer, side by side. -/
namespace Go.Proofs.YtcjeckjmoponkaaGreatDoor
open Go.RowKit Go.Sort
set_option linter.unusedVariables false
set_option linter.unusedSimpArgs false

def sts (P : Ks) : List Int := P.map fun p => p.s
def vls (Q : Qu) : List Int := Q.map Prod.snd
theorem sts_len (P : Ks) : (sts P).length = P.length := by simp [sts]
theorem sts_step (P : Ks) (i : Nat) (tg : Int) (g : Nat) : sts (stepP P i tg g) = (sts P).set i tg := by simp [sts, stepP, List.map_set]
theorem vls_step (Q : Qu) (i : Nat) (tg : Int) (g : Nat) : vls (stepQ Q i tg g) = woR ((i : Nat) : Int) (vls Q) ++ if tg = 1 then [((i : Nat) : Int)] else [] := by
  unfold vls stepQ
  rw [List.map_append, woR_wo]
  split <;> rfl

end Go.Proofs.YtcjeckjmoponkaaGreatDoor
