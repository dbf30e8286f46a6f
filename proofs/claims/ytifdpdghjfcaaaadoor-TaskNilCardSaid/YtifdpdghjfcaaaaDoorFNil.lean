/- The walk of TaskNil. -/
import Derived.Test.YtifdpdghjfcaaaaDoorFKnown
namespace Go.Proofs.YtifdpdghjfcaaaaDoor
open Go.RowKit Go.Sort
set_option linter.unusedVariables false
set_option linter.unusedSimpArgs false

set_option maxRecDepth 100000 in
set_option maxHeartbeats 6400000 in
theorem taskNil_walk (n : Int) (w : World) (h1 : (Lit.int .i64 n).wf = true) (hmv : MvAt w) :
    Calls Tryd.prog 5 #[.int .i64 n] w fun e w' => e = .returned (.bool true) ∧ Below w.heap.size w w' := by
  clear h1
  obtain ⟨W, hW⟩ : ∃ W, (w.alloc (.cells #[.slice none 0 0, .pointer none] 43)).alloc (.cells #[.pointer none, .pointer (some ⟨w.heap.size, 0, none⟩)] 24) = W := ⟨_, rfl⟩
  have HWB : Hid (Below w.heap.size w W) := Lib.hid (by rw [← hW]; exact (((Grn.refl w).alloc _).alloc _).below)
  have HWS : Hid (W.heap.size = w.heap.size + 2) := Lib.hid (by rw [← hW]; simp)
  have HW0 : Hid (W.heap[w.heap.size]? = some (.cells #[.slice none 0 0, .pointer none] 43 (0, 0))) := Lib.hid (by rw [← hW]; exact ((below_alloc _ _).block _ (by simp)).trans (block_new _ _ _ rfl))
  have HW1 : Hid (W.heap[w.heap.size + 1]? = some (.cells #[.pointer none, .pointer (some ⟨w.heap.size, 0, none⟩)] 24 (0, 0))) := Lib.hid (by rw [← hW]; exact block_new _ _ _ (by simp))
  have HW := Lib.hid hW
  have HM := Lib.hid hmv
  clear hW hmv
  go_enter Tryd.func5, Tryd.ntmps5
  go_wp2_with fail
  rw [HW.out]
  generalize hz : w.heap.size = z at *
  have HZ := Lib.hid hz
  go_loopw [15] (fun i wr => ∃ k : Nat, k ≤ 2 ∧ i = .int .i64 (k : Nat) ∧ Hid (Below W.heap.size W wr)) (fun i _ => 2 - (intOf i).toNat)
  case atStart => exact ⟨0, by omega, rfl, Lib.hid (Below.refl _ _)⟩
  case round =>
    obtain ⟨k, hk, rfl, hb⟩ := hrel
    have hl1 : z + 1 < wr.heap.size := by have := hb.out.size; have := HWS.out; omega
    by_cases hlt : k < 2
    · have e1 := (hb.out.block (z + 1) (by have := HWS.out; omega)).trans HW1.out
      have e0 := (hb.out.block z (by have := HWS.out; omega)).trans HW0.out
      obtain ⟨p, hp, hn⟩ : ∃ p, wr.cell? ⟨z + 1, k, none⟩ = some (.pointer p) ∧ NoK wr (.pointer p) := by
        match k, hlt with
        | 0, _ => exact ⟨none, cells_cell e1 rfl, .inl rfl⟩
        | 1, _ => exact ⟨_, cells_cell e1 rfl, .inr ⟨z, rfl, e0⟩⟩
      have hkI : ((k : Nat) : Int) < 2 := by omega
      have a1 := Lib.hid (tkState_nil hn n)
      have a2 := Lib.hid (tkNext_nil hn)
      have a3 := Lib.hid (tkStart_nil hn n)
      have a4 := Lib.hid (tkPark_nil hn n)
      have a5 := Lib.hid (tkWake_nil hn n)
      have a6 := Lib.hid (tkFinish_nil hn n)
      have a7 := Lib.hid (tkTurn_nil hn n)
      have a8 := Lib.hid (tkReady_nil hn)
      have a9 := Lib.hid (tkLen_nil hn)
      have a10 := Lib.hid (tkCopy_nil hn)
      clear e0 e1 hn
      go_wp2_with (first
        | (go_at_call 14; refine a1.out.mono ?_; rintro e w2 ⟨rfl, he⟩; have he := he.symm; subst he)
        | (go_at_call 15; refine a2.out.mono ?_; rintro e w2 ⟨rfl, he⟩; have he := he.symm; subst he)
        | (go_at_call 16; refine a3.out.mono ?_; rintro e w2 ⟨rfl, he⟩; have he := he.symm; subst he)
        | (go_at_call 17; refine a4.out.mono ?_; rintro e w2 ⟨rfl, he⟩; have he := he.symm; subst he)
        | (go_at_call 18; refine a5.out.mono ?_; rintro e w2 ⟨rfl, he⟩; have he := he.symm; subst he)
        | (go_at_call 19; refine a6.out.mono ?_; rintro e w2 ⟨rfl, he⟩; have he := he.symm; subst he)
        | (go_at_call 20; refine a7.out.mono ?_; rintro e w2 ⟨rfl, he⟩; have he := he.symm; subst he)
        | (go_at_call 13; refine a8.out.mono ?_; rintro e w2 ⟨rfl, he⟩; have he := he.symm; subst he)
        | (go_at_call 21; refine a9.out.mono ?_; rintro e w2 ⟨rfl, he⟩; have he := he.symm; subst he)
        | (go_at_call 22; refine a10.out.mono ?_; rintro e w2 ⟨rfl, he⟩; have he := he.symm; subst he))
      go_roundw
      case rel => exact ⟨k + 1, by omega, by go_num, hb⟩
      case measure => simp [intOf]; omega
    · obtain rfl : k = 2 := by omega
      have hwb : Below w.heap.size w W := by have h := HWB.out; first | exact h | (rw [HZ.out]; exact h)
      have hsz : w.heap.size ≤ W.heap.size := hwb.size
      have h0 := hwb.trans (hb.out.mono hsz)
      have hm : MvAt wr := HM.out.below h0 HM.out.lt
      have hkn := Lib.hid (known_any wr hm)
      have H0 := Lib.hid h0
      clear h0 hm hwb hsz hl1
      go_wp2_with (go_at_call 8; fail)
      refine hkn.out.mono ?_
      rintro e w2 ⟨rfl, hb2⟩
      go_wp2_with fail
      go_ret
      have h2 := H0.out.trans (hb2.mono H0.out.size)
      exact ⟨rfl, by first | exact h2 | (rw [← HZ.out]; exact h2)⟩
end Go.Proofs.YtifdpdghjfcaaaaDoor
