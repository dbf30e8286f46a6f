/- FlowPlays, FlowSplits and FlowHolds, as their statements are opened. -/
import Derived.Test.YtaallpbcgabdnaaXEnds
import Derived.Test.YtaallpbcgabdnaaXSmall
namespace Go.Proofs.Ytaallpbcgabdnaa
open Go.ChangeShapes Go.WideShapes Go.ChangeAt Go.RowKit
set_option linter.unusedVariables false
theorem acts_src {w : World} {a : Option Addr} {len cap : Nat} (h : IsActs13 w a len cap) : ∃ l : List Ac, SrcA w (.slice a len cap) l ∧ ∀ x ∈ l, I64 x.n ∧ I64 x.wth := by
  obtain ⟨l, hl, hm, hc⟩ := h
  subst hl
  refine ⟨l, ⟨a, cap, rfl, hm, hc⟩, fun x hx => ?_⟩
  obtain ⟨i, hi, rfl⟩ := List.getElem_of_mem hx
  rcases hc with h0 | ⟨b, off, rfl, hb, hq⟩
  · omega
  · obtain ⟨_, _, _, _, _, _, _, _, _, _, h1, h2⟩ := hq i hi
    exact ⟨h1, h2⟩
end Go.Proofs.Ytaallpbcgabdnaa
