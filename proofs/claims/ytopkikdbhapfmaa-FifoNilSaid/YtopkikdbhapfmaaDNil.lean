/- The walk of FifoNil. -/
import Derived.Test.YtopkikdbhapfmaaDKnown
namespace Go.Proofs.Ytopkikdbhapfmaa
open Go.RowKit Go.Sort Go.MapKept
set_option linter.unusedVariables false
set_option linter.unusedSimpArgs false

set_option maxRecDepth 100000 in
set_option maxHeartbeats 3200000 in
theorem fifoNil_walk (value ticket : Int) (w : World) (h1 : (Lit.int .i64 value).wf = true) (h2 : (Lit.int .u64 ticket).wf = true) :
    Calls Try.prog 6 #[.int .i64 value, .int .u64 ticket] w fun e w' => e = .returned (.bool true) ∧ Below w.heap.size w w' := by
  clear h1 h2
  obtain ⟨W, hW⟩ : ∃ W, (w.alloc (.cells #[.pointer none] 54)).alloc (.cells #[.pointer none, .pointer (some ⟨w.heap.size, 0, none⟩)] 24) = W := ⟨_, rfl⟩
  have HWB : Hid (Below w.heap.size w W) := Lib.hid (by rw [← hW]; exact (below_alloc _ _).trans ((below_alloc _ _).mono (by simp)))
  have HWS : Hid (W.heap.size = w.heap.size + 2) := Lib.hid (by rw [← hW]; simp)
  have HW0 : Hid (W.heap[w.heap.size]? = some (.cells #[.pointer none] 54 (0, 0))) := Lib.hid (by rw [← hW]; exact ((below_alloc _ _).block _ (by simp)).trans (block_new _ _ _ rfl))
  have HW1 : Hid (W.heap[w.heap.size + 1]? = some (.cells #[.pointer none, .pointer (some ⟨w.heap.size, 0, none⟩)] 24 (0, 0))) := Lib.hid (by rw [← hW]; exact block_new _ _ _ (by simp))
  have HW := Lib.hid hW
  clear hW
  go_enter Try.func6, Try.ntmps6
  go_wp2_with fail
  rw [HW.out]
  generalize hz : w.heap.size = z at *
  have HZ := Lib.hid hz
  go_loopw [25] (fun i wr => ∃ k : Nat, k ≤ 2 ∧ i = .int .i64 (k : Nat) ∧ Hid (Below W.heap.size W wr)) (fun i _ => 2 - (intOf i).toNat)
  case atStart => exact ⟨0, by omega, rfl, Lib.hid (Below.refl _ _)⟩
  case round =>
    obtain ⟨k, hk, rfl, hb⟩ := hrel
    have hl1 : z + 1 < wr.heap.size := by have := hb.out.size; have := HWS.out; omega
    by_cases hlt : k < 2
    · have e1 := (hb.out.block (z + 1) (by have := HWS.out; omega)).trans HW1.out
      have e0 := (hb.out.block z (by have := HWS.out; omega)).trans HW0.out
      obtain ⟨p, hp, hn⟩ : ∃ p, wr.cell? ⟨z + 1, k, none⟩ = some (.pointer p) ∧ NoQ wr (.pointer p) := by
        match k, hlt with
        | 0, _ => exact ⟨none, cells_cell e1 rfl, .inl rfl⟩
        | 1, _ => exact ⟨_, cells_cell e1 rfl, .inr ⟨z, rfl, e0⟩⟩
      have HN := Lib.hid hn
      have hkI : ((k : Nat) : Int) < 2 := by omega
      clear e0 e1 hn
      go_wp2_with (first | (go_at_call 17; refine (fiPush_nil HN.out value).mono ?_; rintro e w1 ⟨rfl, rfl⟩) | (go_at_call 16; refine (fiPop_nil HN.out).mono ?_; rintro e w1 ⟨rfl, rfl⟩) | (go_at_call 11; refine (fiFront_nil HN.out).mono ?_; rintro e w1 ⟨rfl, rfl⟩) | (go_at_call 20; fail))
      refine (fiRemove_nil HN.out ticket).mono ?_
      rintro e w2 ⟨rfl, hg2⟩
      have HN2 := Lib.hid (HN.out.grown hg2.below)
      have HB2 := Lib.hid (hb.out.trans (hg2.below.mono hb.out.size))
      clear hb hg2 HN
      go_wp2_with (go_at_call 21; fail)
      refine (fiPlace_nil HN2.out ticket).mono ?_
      rintro e w3 ⟨rfl, hg3⟩
      have HN3 := Lib.hid (HN2.out.grown hg3.below)
      have HB3 := Lib.hid (HB2.out.trans (hg3.below.mono HB2.out.size))
      clear hg3 HN2 HB2
      go_wp2_with (first | (go_at_call 13; refine (fiLen_nil HN3.out).mono ?_; rintro e w1 ⟨rfl, rfl⟩) | (go_at_call 22; refine (fiCopy_nil HN3.out).mono ?_; rintro e w1 ⟨rfl, rfl⟩) | (go_at_call 14; refine (lawAll_any HN3.out.alls (.inl ⟨rfl, rfl⟩)).mono ?_; rintro e w4 ⟨rfl, hb4⟩; have HB4 := Lib.hid (HB3.out.trans (hb4.mono HB3.out.size))))
      go_roundw
      case rel => exact ⟨k + 1, by omega, by go_num, HB4⟩
      case measure => simp [intOf]; omega
    · obtain rfl : k = 2 := by omega
      go_wp2_with (go_at_call 8; refine (known_any wr).mono ?_; rintro e w2 ⟨rfl, hb2⟩)
      go_ret
      have h0 := hb.out.trans (hb2.mono hb.out.size)
      have hsz : w.heap.size ≤ W.heap.size := by have := HWS.out; have := HZ.out; omega
      have hwb : Below w.heap.size w W := by have h := HWB.out; first | exact h | (rw [HZ.out]; exact h)
      exact ⟨rfl, hwb.trans (h0.mono hsz)⟩
end Go.Proofs.Ytopkikdbhapfmaa
