/- MeetPlays, MeetSplits and MeetHolds, as their statements are opened. -/
import Derived.Test.YtophkjnniodegaaVEnds
import Derived.Test.YtophkjnniodegaaVSmall
namespace Go.Proofs.Ytophkjnniodegaa
open Go.ChangeShapes Go.WideShapes Go.ChangeAt Go.RowKit
set_option linter.unusedVariables false
theorem acts_src {w : World} {a : Option Addr} {len cap : Nat} (h : IsActs12 w a len cap) : ∃ l : List Ac, SrcA w (.slice a len cap) l ∧ ∀ x ∈ l, I64 x.n ∧ I64 x.wth := by
  obtain ⟨l, hl, hm, hc⟩ := h
  subst hl
  refine ⟨l, ⟨a, cap, rfl, hm, hc⟩, fun x hx => ?_⟩
  obtain ⟨i, hi, rfl⟩ := List.getElem_of_mem hx
  rcases hc with h0 | ⟨b, off, rfl, hb, hq⟩
  · omega
  · obtain ⟨_, _, _, _, _, _, _, _, _, _, h1, h2⟩ := hq i hi
    exact ⟨h1, h2⟩
/-- Bytes that came in. -/
def BytesIn (w : World) (a : Option Addr) (len cap : Nat) : Prop := ∃ L : List UInt8, L.length = len ∧ SrcV w (.slice a len cap) (L.map encB)
theorem open_bytes {H : Type} {enc : TypeId × Value → H} {W : World} {a : Option Addr} {len cap : Nat} {d : DataW H} {p : List MemPlace}
    (h : DataW.Trod enc Try.prog W 0 (fun _ => true) true 44 (.slice a len cap) d p) : BytesIn W a len cap := by
  obtain ⟨fuel, hf⟩ := h
  rcases open_ints Try.underlying44 Try.underlying5 (by kernel_rfl) hf with ⟨hcs, _⟩ | ⟨x, l, c, zs, hcs, _, hl, hm, hz, _, hcell, hwz⟩
  · simp [Value.cells] at hcs
    obtain ⟨rfl, rfl, rfl⟩ := hcs
    exact ⟨[], rfl, SrcV.nil _⟩
  · simp [Value.cells] at hcs
    obtain ⟨rfl, rfl, rfl⟩ := hcs
    have hz' : zs.length = cap := by simpa using hz
    have hby : ∀ z ∈ zs, encB (UInt8.ofNat z.toNat) = .int .u8 z := fun z hzm => by
      have h1 := hwz z hzm
      have e1 : IntKind.u8.min = 0 := rfl
      have e2 : IntKind.u8.max = 255 := rfl
      simp [Lit.wf, e1, e2] at h1
      unfold encB
      have : (UInt8.ofNat z.toNat).toNat = z.toNat := by simp; omega
      rw [this]
      congr 1
      omega
    refine ⟨(zs.take len).map fun z => UInt8.ofNat z.toNat, by simp; omega, .inr ⟨x, cap, by simp; omega, by simp; omega, hm, fun j u hu => ?_, fun h0 => ?_⟩⟩
    · rw [List.getElem?_map, List.getElem?_map, List.getElem?_take] at hu
      split at hu
      · rename_i hj
        have hjz : j < zs.length := by omega
        rw [List.getElem?_eq_getElem hjz] at hu
        simp only [Option.map_some, Option.some.injEq] at hu
        rw [hcell j hjz, ← hu, hby _ (List.getElem_mem _)]
        simp [List.getD, hjz]
      · cases hu
    · have h0' : 0 < len := by
        have : (List.map encB ((zs.take len).map fun z => UInt8.ofNat z.toNat)).length = len := by simp; omega
        omega
      have := hcell 0 (by omega)
      simpa [Addr.add] using World.cell?_spot this
end Go.Proofs.Ytophkjnniodegaa
