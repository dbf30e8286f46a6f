/- Nil and zero pollers; Where refused. -/
import Derived.Test.YtcjeckjmoponkaaGreatDoorUSev
namespace Go.Proofs.YtcjeckjmoponkaaGreatDoor
open Go.RowKit Go.Sort
set_option linter.unusedVariables false
set_option linter.unusedSimpArgs false
section
variable {w0 w w' : World} {O : Nat → Prop} {p t g c d r rc : Nat} {l : Ll} {OL OD : Nat → Prop} {x : Px} {G P : Nat}
set_option maxRecDepth 100000 in
set_option maxHeartbeats 1600000 in
theorem poWhere_bad (h : UB w0 w O p t g c d r rc l OL OD x G P) {i : Int} (hc : (whC x.z i).2 ≠ 0) : Calls Tryz.prog 25 #[.pointer (some ⟨p, 0, none⟩), .int .i64 i] w fun e w' => e = .returned (.tuple #[.agg #[.int .i64 0, .int .i64 0], .int .i64 0, .int .i64 (whC x.z i).2]) ∧ Below w.heap.size w w' := by
  have HWH : Hid (∀ V, UB w0 V O p t g c d r rc l OL OD x G P → Calls Tryz.prog 71 #[.pointer (some ⟨l.a, 0, none⟩), .int .i64 i] V fun e w' => e = .returned (.tuple #[.agg #[.int .i64 (whC x.z i).1.1, .int .i64 (whC x.z i).1.2], .int .i64 (whC x.z i).2]) ∧ Below V.heap.size V w') := Lib.hid (fun V hV => (pkWhere_any hV.hl i).mono (fun e w' q => ⟨q.1, q.2.below⟩))
  obtain ⟨code, hcode⟩ : ∃ y, y = (whC x.z i).2 := ⟨_, rfl⟩
  rw [← hcode] at HWH hc ⊢
  have q0 : (code != 0) = true := by simpa using hc
  generalize (whC x.z i).1.1 = s1 at *
  generalize (whC x.z i).1.2 = s2 at *
  clear hc hcode
  obtain ⟨W, hW, hg, hs, hb0⟩ := alloc1 w (.cells #[.int .i64 0, .int .i64 0] 47)
  have HOL : Hid (∀ k, OL k → k < w.heap.size) := Lib.hid (fun k hk => (h.ol k hk).2.1)
  have H0 := Lib.hid h
  have HU := Lib.hid (h.grn hg)
  have HW := Lib.hid hW
  have HG := Lib.hid hg.below
  have HB := Lib.hid hb0
  clear h hg hs hb0 hW
  go_enter Tryz.func25, Tryz.ntmps25
  go_upto_region 1 with (fail)
  rw [HW.out]
  obtain ⟨b, hb⟩ : ∃ b, b = w.heap.size := ⟨_, rfl⟩
  rw [← hb]
  rw [← hb] at HB
  have Hb := Lib.hid hb
  clear hb HW
  have HP := Lib.hid (HU.out.parts)
  go_wp2_with (go_at_call 59; fail)
  refine HP.out.mono ?_
  rintro e w1 ⟨rfl, hg1⟩
  have HG1 := Lib.hid (HG.out.trans (hg1.below.mono HG.out.size))
  have HB1 := Lib.hid (grn_at hg1 HB.out)
  have hf1 := field_po1 w1
  have HC := Lib.hid (HWH.out w1 (HU.out.grn hg1))
  clear hg1
  go_wp2_with (go_at_call 71; fail)
  refine HC.out.mono ?_
  rintro e w2 ⟨rfl, hg2⟩
  obtain ⟨W3, hW3, hg3, _, hb3⟩ := alloc1 w2 (.cells #[.int .i64 s1, .int .i64 s2] 132)
  have HW3 := Lib.hid hW3
  have HB3 := Lib.hid ((hg3.below.block _ (lt_of_block ((hg2.block _ (lt_of_block HB1.out)).trans HB1.out))).trans ((hg2.block _ (lt_of_block HB1.out)).trans HB1.out))
  have HG3 := Lib.hid (HG1.out.trans ((hg2.trans (hg3.below.mono hg2.size)).mono HG1.out.size))
  clear hW3 hg2 hg3 hb3 hf1
  go_upto_region 2 with (fail)
  rw [HW3.out]
  obtain ⟨b0, b1⟩ := two HB3.out
  have z0 := cells_free HB3.out 0
  have z1 := cells_free HB3.out 1
  have bl := lt_of_block HB3.out
  obtain ⟨p0, p1⟩ := two (set_two (A' := .int .i64 0) (B' := .int .i64 0) HB3.out)
  have HF4 : Hid (Fr [b] W3 ((W3.setCell ⟨b, 0, none⟩ (.int .i64 0)).setCell ⟨b, 1, none⟩ (.int .i64 0))) := Lib.hid ((fr_setCell W3 ⟨b, 0, none⟩ _).trans' (fr_setCell _ ⟨b, 1, none⟩ _))
  generalize w2.heap.size = b9 at *
  clear HW3
  go_wp2_with fail
  refine bodyPost_ret (v := .tuple #[.agg #[.int .i64 0, .int .i64 0], .int .i64 0, .int .i64 code]) (by simp [results, Tryz.results25, go_sem, p0, p1]) rfl ⟨rfl, ?_⟩
  exact HG3.out.trans (HF4.out.below (fun k hk => by simp only [List.mem_singleton] at hk; rw [hk, Hb.out]; exact Nat.le_refl _) HG3.out.size)
end
end Go.Proofs.YtcjeckjmoponkaaGreatDoor
