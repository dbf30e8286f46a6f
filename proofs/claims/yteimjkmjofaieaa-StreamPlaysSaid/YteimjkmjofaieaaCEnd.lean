/- What the ends of the proofs share: the program's own switch; texts and numbers that came in. -/
import Derived.Test.YteimjkmjofaieaaChecked
import Derived.Test.YteimjkmjofaieaaRows
import Derived.Test.YteimjkmjofaieaaCMem
import Derived.Deep.Strs
import Derived.ChangeSame
import Derived.ProofKit
import Derived.OpenShut
import Derived.ChangeOld
import Derived.Below
import Derived.Deep.Slices
namespace Go.Proofs.Yteimjkmjofaieaa
open Go.ChangeShapes Go.WideShapes Go.ChangeAt Go.RowKit
set_option linter.unusedVariables false
set_option linter.unusedSimpArgs false
theorem laidOut : laidOutB Try.prog = true := by kernel_rfl
theorem own : ownKnob Try.prog.godebug = none := by kernel_rfl

/-- Texts that came in. -/
def StrsIn (w : World) (a : Option Addr) (len cap : Nat) : Prop := ∃ Ss : List (List UInt8), Ss.length = len ∧ SrcV w (.slice a len cap) (Ss.map encS)
/-- Numbers that came in. -/
def NumsIn (w : World) (a : Option Addr) (len cap : Nat) : Prop := ∃ zs : List Int, zs.length = len ∧ SrcV w (.slice a len cap) (zs.map fun z => .int .i64 z) ∧ ∀ z ∈ zs, (Lit.int .i64 z).wf = true

theorem open_nums {H : Type} {enc : TypeId × Value → H} {W : World} {a : Option Addr} {len cap : Nat} {d : DataW H} {p : List MemPlace}
    (h : DataW.Trod enc Try.prog W 0 (fun _ => true) true 50 (.slice a len cap) d p) : NumsIn W a len cap := by
  obtain ⟨fuel, hf⟩ := h
  rcases open_ints Try.underlying50 Try.underlying3 (by kernel_rfl) hf with ⟨hcs, _⟩ | ⟨x, l, c, zs, hcs, _, hl, hm, hz, _, hcell, hwz⟩
  · simp [Value.cells] at hcs
    obtain ⟨rfl, rfl, rfl⟩ := hcs
    exact ⟨[], rfl, SrcV.nil _, by simp⟩
  · simp [Value.cells] at hcs
    obtain ⟨rfl, rfl, rfl⟩ := hcs
    have hz' : zs.length = cap := by simpa using hz
    refine ⟨zs.take len, by simp; omega, .inr ⟨x, cap, by simp; omega, by simp; omega, hm, fun j u hu => ?_, fun h0 => ?_⟩, fun z hzm => hwz z (List.mem_of_mem_take hzm)⟩
    · rw [List.getElem?_map, List.getElem?_take] at hu
      split at hu
      · rename_i hj
        have hjz : j < zs.length := by omega
        rw [List.getElem?_eq_getElem hjz] at hu
        simp only [Option.map_some, Option.some.injEq] at hu
        rw [hcell j hjz, ← hu]
        simp [List.getD, hjz]
      · cases hu
    · have h0' : 0 < len := by
        have : (List.map (fun z => Value.int .i64 z) (zs.take len)).length = len := by simp; omega
        omega
      have := hcell 0 (by omega)
      simpa [Addr.add] using World.cell?_spot this
end Go.Proofs.Yteimjkmjofaieaa
