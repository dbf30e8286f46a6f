/- Read of the reference. -/
import Derived.Test.YtilafgemgdjfhaaBRefC
namespace Go.Proofs.Ytilafgemgdjfhaa
open Go.RowKit Go.Sort
set_option linter.unusedVariables false
set_option linter.unusedSimpArgs false

set_option maxHeartbeats 800000 in
theorem refRead_neg (c : Nat) (va : Option Addr) (vl vc : Nat) (m : Int) (h : m < 0) (w : World) : Calls Try.prog 14 #[rv c (.slice va vl vc), .int .i64 m] w fun e w' => e = .returned (.tuple #[rv c (.slice va vl vc), .slice none 0 0, .int .i64 2]) ∧ Below w.heap.size w w' := by
  have hp : Hid (∀ W, Calls Try.prog 16 #[rv c (.slice va vl vc), .int .i64 0, .int .i64 m] W fun e w' => e = .returned (.tuple #[.slice none 0 0, .int .i64 2]) ∧ Below W.heap.size W w') := Lib.hid (fun W => refPeek_neg c (.slice va vl vc) 0 m (.inr h) W)
  unfold rv at *
  go_enter Try.func14, Try.ntmps14
  go_wp2_with (go_at_call 16; fail)
  refine (hp.out _).mono ?_
  rintro e w1 ⟨rfl, hb⟩
  have hz := hb.size
  simp at hz
  have c0 : w1.cell? ⟨w.heap.size, 0, none⟩ = some (.int .i64 c) := (hb.cell (p := ⟨w.heap.size, 0, none⟩) (by simp <;> omega)).trans (by simp)
  have c1 : w1.cell? ⟨w.heap.size, 1, none⟩ = some (.slice va vl vc) := (hb.cell (p := ⟨w.heap.size, 1, none⟩) (by simp <;> omega)).trans (by simp)
  have c2 : w1.cell? ⟨w.heap.size + 1, 0, none⟩ = some (.int .i64 0) := (hb.cell (p := ⟨w.heap.size + 1, 0, none⟩) (by simp <;> omega)).trans (by simp)
  have c3 : w1.cell? ⟨w.heap.size + 1, 1, none⟩ = some (.slice none 0 0) := (hb.cell (p := ⟨w.heap.size + 1, 1, none⟩) (by simp <;> omega)).trans (by simp)
  have k2 : w1.frozen? ⟨w.heap.size + 1, 0, none⟩ = false := (hb.frozen (p := ⟨w.heap.size + 1, 0, none⟩) (by simp <;> omega)).trans (by simp)
  have k3 : w1.frozen? ⟨w.heap.size + 1, 1, none⟩ = false := (hb.frozen (p := ⟨w.heap.size + 1, 1, none⟩) (by simp <;> omega)).trans (by simp)
  have HB := Lib.hid hb
  have hz2 : w.heap.size < w1.heap.size := by omega
  have hz3 : w.heap.size + 1 < w1.heap.size := by omega
  clear hb hz
  go_wp2_with fail
  refine bodyPost_ret (v := .tuple #[rv c (.slice va vl vc), .slice none 0 0, .int .i64 2]) (by simp [results, Try.results14, go_sem, rv, c2, c3, k2, k3, hz3]) rfl ⟨by unfold rv; rfl, ?_⟩
  exact (((((Below.refl _ _).alloc (Nat.le_refl _) _).alloc (by simp) _).trans (HB.out.mono (by simp; omega))).setCell (Nat.le_succ _) _).setCell (Nat.le_succ _) _

/-- What the reference's Read returns. -/
def ReadR (w : World) (c : Nat) (B : List UInt8) (m : Nat) (e : Ending) (w' : World) : Prop := ∃ v v1, e = .returned (.tuple #[rv c v, v1, .int .i64 0]) ∧ RowB w' w.heap.size v (B.drop m) ∧ RowB w' w.heap.size v1 (B.take m) ∧ Below w.heap.size w w'

set_option maxRecDepth 100000 in
set_option maxHeartbeats 1600000 in
theorem refRead_ok (c : Nat) {b0 : Nat} {va : Option Addr} {vc : Nat} {B : List UInt8} (w : World) (hB : RowB w b0 (.slice va B.length vc) B) (hBl : B.length ≤ 4096) (m : Nat) (hm : (m : Int) ≤ 9223372036854775807) :
    Calls Try.prog 14 #[rv c (.slice va B.length vc), .int .i64 m] w (ReadR w c B m) := by
  have hp : Hid (∀ W, Below w.heap.size w W → Calls Try.prog 16 #[rv c (.slice va B.length vc), .int .i64 0, .int .i64 m] W fun e w' => ∃ v, e = .returned (.tuple #[v, .int .i64 0]) ∧ RowB w' W.heap.size v (B.take m) ∧ Below W.heap.size W w') := Lib.hid (fun W hW => refPeek_ok c W (hB.grown hW) hBl 0 m (by omega) hm)
  have hs : Hid (∀ W, Below w.heap.size w W → Calls Try.prog 18 #[rv c (.slice va B.length vc), .int .i64 m] W (SkipR W c (min m B.length) B)) := Lib.hid (fun W hW => refSkip_at c W (hB.grown hW) hBl (m : Int) (min m B.length) (by omega))
  have HD : Hid (B.drop (min m B.length) = B.drop m) := Lib.hid (drop_min B m)
  unfold rv at *
  clear hB hBl
  generalize B.length = l at *
  go_enter Try.func14, Try.ntmps14
  go_wp2_with (go_at_call 16; fail)
  have hb0 : Below w.heap.size w ((w.alloc (.cells #[.int .i64 c, .slice va l vc] 32)).alloc (.cells #[.int .i64 0, .slice none 0 0] 32)) := ((Below.refl _ _).alloc (Nat.le_refl _) _).alloc (by simp) _
  refine (hp.out _ hb0).mono ?_
  rintro e w1 ⟨v1, rfl, hr1, hb⟩
  have hz := hb.size
  simp at hz
  have c0 : w1.cell? ⟨w.heap.size, 0, none⟩ = some (.int .i64 c) := (hb.cell (p := ⟨w.heap.size, 0, none⟩) (by simp <;> omega)).trans (by simp)
  have c1 : w1.cell? ⟨w.heap.size, 1, none⟩ = some (.slice va l vc) := (hb.cell (p := ⟨w.heap.size, 1, none⟩) (by simp <;> omega)).trans (by simp)
  have c2 : w1.cell? ⟨w.heap.size + 1, 0, none⟩ = some (.int .i64 0) := (hb.cell (p := ⟨w.heap.size + 1, 0, none⟩) (by simp <;> omega)).trans (by simp)
  have c3 : w1.cell? ⟨w.heap.size + 1, 1, none⟩ = some (.slice none 0 0) := (hb.cell (p := ⟨w.heap.size + 1, 1, none⟩) (by simp <;> omega)).trans (by simp)
  have k2 : w1.frozen? ⟨w.heap.size + 1, 0, none⟩ = false := (hb.frozen (p := ⟨w.heap.size + 1, 0, none⟩) (by simp <;> omega)).trans (by simp)
  have k3 : w1.frozen? ⟨w.heap.size + 1, 1, none⟩ = false := (hb.frozen (p := ⟨w.heap.size + 1, 1, none⟩) (by simp <;> omega)).trans (by simp)
  have hbw1 : Below w.heap.size w w1 := hb0.trans (hb.mono (by simp; omega))
  have HW1 := Lib.hid hbw1
  have hsk := Lib.hid (hs.out w1 hbw1)
  have HR1 := Lib.hid hr1
  obtain ⟨v1a, v1c, rfl⟩ := row_formB hr1
  have hz2 : w.heap.size < w1.heap.size := by omega
  have hz3 : w.heap.size + 1 < w1.heap.size := by omega
  obtain ⟨M, hM⟩ : ∃ M, M = B.take m := ⟨_, rfl⟩
  rw [← hM] at HR1 ⊢
  have HM := Lib.hid hM
  clear hb hz hr1 hbw1 hM hb0
  go_wp2_with (go_at_call 18; fail)
  refine hsk.out.mono ?_
  rintro e w2 ⟨v2, rfl, hr2, hb⟩
  rw [HD.out] at hr2
  have hz := hb.size
  have d2 : w2.cell? ⟨w.heap.size + 1, 0, none⟩ = some (.int .i64 0) := (hb.cell (p := ⟨w.heap.size + 1, 0, none⟩) hz3).trans c2
  have d3 : w2.cell? ⟨w.heap.size + 1, 1, none⟩ = some (.slice none 0 0) := (hb.cell (p := ⟨w.heap.size + 1, 1, none⟩) hz3).trans c3
  have l2 : w2.frozen? ⟨w.heap.size + 1, 0, none⟩ = false := (hb.frozen (p := ⟨w.heap.size + 1, 0, none⟩) hz3).trans k2
  have l3 : w2.frozen? ⟨w.heap.size + 1, 1, none⟩ = false := (hb.frozen (p := ⟨w.heap.size + 1, 1, none⟩) hz3).trans k3
  have HR2 := Lib.hid hr2
  obtain ⟨v2a, v2c, rfl⟩ := row_formB hr2
  have HB2 := Lib.hid hb
  have hz4 : w.heap.size + 1 < w2.heap.size := by omega
  obtain ⟨D, hD⟩ : ∃ D, D = B.drop m := ⟨_, rfl⟩
  rw [← hD] at HR2 ⊢
  have HDD := Lib.hid hD
  clear hb hr2 hz hD c0 c1 c2 c3 k2 k3
  unfold rv
  go_wp2_with fail
  refine bodyPost_ret (v := .tuple #[rv c (.slice v2a D.length v2c), .slice v1a M.length v1c, .int .i64 0]) (by simp [results, Try.results14, go_sem, rv, d2, d3, l2, l3, hz4]) rfl ⟨_, _, rfl, ?_, ?_, ?_⟩
  · rw [← HDD.out]
    have hne : ∀ g, (Value.slice v2a D.length v2c).ownBlock = some g → g ∉ [w.heap.size + 1] := fun g hg => by have := (HR2.out.lt g hg).1; simp; omega
    exact RowB.lower (RowB.grown ((fr_setCell _ ⟨w.heap.size + 1, _, none⟩ _).row ((fr_setCell _ ⟨w.heap.size + 1, _, none⟩ _).row HR2.out hne) hne) ((Below.refl _ _).alloc (Nat.le_refl _) _)) (by omega)
  · rw [← HM.out]
    have hne : ∀ g, (Value.slice v1a M.length v1c).ownBlock = some g → g ∉ [w.heap.size + 1] := fun g hg => by have := (HR1.out.lt g hg).1; simp at this; simp; omega
    exact RowB.lower (RowB.grown ((fr_setCell _ ⟨w.heap.size + 1, _, none⟩ _).row ((fr_setCell _ ⟨w.heap.size + 1, _, none⟩ _).row (HR1.out.grown HB2.out) hne) hne) ((Below.refl _ _).alloc (Nat.le_refl _) _)) (by simp; omega)
  · exact (((HW1.out.trans (HB2.out.mono (by omega))).setCell (Nat.le_succ _) _).setCell (Nat.le_succ _) _).alloc (by simp; omega) _
end Go.Proofs.Ytilafgemgdjfhaa
