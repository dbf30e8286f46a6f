/- The law's own function known: the examples of the chapter. -/
import Derived.Test.YtkdbkamjaaehfaaCKnown
namespace Go.Proofs.Ytkdbkamjaaehfaa
open Go.RowKit Go.Sort
set_option linter.unusedVariables false
set_option linter.unusedSimpArgs false

def P0 : Parts := [[97, 98], [99, 100, 101]]

/-- A rope is as it was where only boxes are written. -/
theorem RopeAt.boxes {w w' : World} {F : List Nat} {b : Nat} {v : Value} {Ps : Parts} (R : RopeAt w b v Ps) (h : Fr F w w') (hF : ∀ x, x ∈ F → ∃ p q, w.heap[x]? = some (.cells #[p, q] 29 (0, 0))) : RopeAt w' b v Ps := by
  obtain ⟨vd, ve, h1, h2, h3⟩ := R.ex
  refine ⟨⟨vd, ve, h1, h.row h2 (fun g hg hm => ?_), h.row h3 (fun g hg hm => ?_)⟩, R.ne, R.len, R.size⟩
  · obtain ⟨p, q, hq⟩ := hF g hm
    exact row_ne h2 hq (by decide) g hg rfl
  · obtain ⟨p, q, hq⟩ := hF g hm
    exact row_ne h3 hq (by decide) g hg rfl
theorem len_is {w : World} {b : Nat} {v : Value} {Ps : Parts} (R : RopeAt w b v Ps) (n : Nat) (h : Ps.flatten.length = n) : Calls Try.prog 23 #[v] w fun e w' => e = .returned (.int .i64 (n : Nat)) ∧ Below w.heap.size w w' := by
  have := len_any R
  rwa [h] at this
theorem equal_is {w : World} {b c : Nat} {v u : Value} {Ps Qs : Parts} (R : RopeAt w b v Ps) (S : RopeAt w c u Qs) (q : Bool) (h : decide (Ps.flatten = Qs.flatten) = q) : Calls Try.prog 18 #[v, u] w fun e w' => e = .returned (.bool q) ∧ Below w.heap.size w w' := by
  have := equal_any R S
  rwa [h] at this
theorem take_is {w : World} {b : Nat} {v : Value} {Ps : Parts} (R : RopeAt w b v Ps) (n : Nat) (A B : Parts) (hA : firstP n Ps = A) (hB : restP n Ps = B) :
    Calls Try.prog 16 #[v, .int .i64 n] w fun e w' => ∃ v1 v2, e = .returned (.tuple #[v1, v2, .int .i64 0]) ∧ RopeAt w' w.heap.size v1 A ∧ RopeAt w' w.heap.size v2 B ∧ Below w.heap.size w w' := by
  have := take_ok R n
  rwa [hA, hB] at this
theorem made_is {w : World} {v : Value} (Ps : Parts) (h : SrcV w v (Ps.map encS)) (hn : Ps.flatten.length ≤ 100000) (hk : Ps.length ≤ 2000) (A : Parts) (hA : newP Ps = A) (he : errC (full Ps).length Ps.flatten.length = 0) :
    Calls Try.prog 14 #[v] w fun e w' => ∃ u, e = .returned (.tuple #[u, .int .i64 0]) ∧ RopeAt w' w.heap.size u A ∧ Below w.heap.size w w' := by
  have := made_any h hn hk
  rwa [hA, he] at this

set_option maxRecDepth 100000 in
set_option maxHeartbeats 6400000 in
theorem known_any (w : World) : Calls Try.prog 9 #[] w fun e w' => e = .returned (.bool true) ∧ Below w.heap.size w w' := by
  go_enter Try.func9, Try.ntmps9
  have HT : Hid (Below w.heap.size w w) := Lib.hid (Below.refl _ _)
  have HC : Hid (Below w.heap.size w w) := Lib.hid (Below.refl _ _)
  go_wp2_with (go_at_call 14; fail)
  refine (made_is [[97, 98], [], [99, 100, 101]] (row_made w 9 (([[97, 98], [], [99, 100, 101]] : Parts).map encS) (by decide)).src (by decide) (by decide) P0 (by decide) (by decide)).mono ?_
  rintro e w1 ⟨v1, rfl, Q1, hb⟩
  have HC2 : Hid (Below w.heap.size w w1) := Lib.hid (HC.out.trans (((below_alloc _ _).trans (hb.mono (by simp))).mono HC.out.size))
  clear HC
  have HC := HC2
  clear HC2
  clear hb
  obtain ⟨x10, x11, x12, x13, x14, x15, hv1⟩ := Q1.shape
  subst hv1
  have Q1 := Lib.hid (Q1.lower (Nat.zero_le _))
  have o1 : Hid (w.heap.size ≤ w1.heap.size) := Lib.hid HC.out.size
  go_wp2_with (go_at_call 23; fail)
  obtain ⟨W1, hW1⟩ : ∃ x, x = w1.alloc (.cells #[.slice x10 x11 x12, .slice x13 x14 x15] 29) := ⟨_, rfl⟩
  have HBn : Below w1.heap.size w1 W1 := by rw [hW1]; exact below_alloc _ _
  have HBB : Hid (Below w.heap.size w W1) := Lib.hid (HC.out.trans (HBn.mono HC.out.size))
  have Y1 : Hid (W1.heap[w1.heap.size]? = some (.cells #[.slice x10 x11 x12, .slice x13 x14 x15] 29 (0, 0))) := Lib.hid (by rw [hW1]; exact heap_alloc_new _ _)
  have S1 : Hid (RopeAt W1 0 (.agg #[.slice x10 x11 x12, .slice x13 x14 x15]) P0) := Lib.hid ((Q1.out).grown HBn)
  have HTn : Hid (Below w.heap.size w W1) := Lib.hid (HT.out.trans (HBB.out.mono HT.out.size))
  have HWzz : W1.heap.size = w1.heap.size + 1 := by rw [hW1]; simp
  rw [← hW1]
  clear hW1 HC HT HBn HBB
  have X1 := Y1
  have R1 := S1
  have HT := HTn
  clear HTn Y1 S1
  have HC : Hid (Below W1.heap.size W1 W1) := Lib.hid (Below.refl _ _)
  clear HWzz
  refine (len_is (R1.out.grown HC.out) 5 (by decide)).mono ?_
  rintro e w2 ⟨rfl, hb⟩
  have HC2 : Hid (Below W1.heap.size W1 w2) := Lib.hid (HC.out.trans ((hb).mono HC.out.size))
  clear HC
  have HC := HC2
  clear HC2
  clear hb
  have k10w2 : w2.cell? ⟨w1.heap.size, 0, none⟩ = some (.slice x10 x11 x12) := cells_cell ((HC.out.block _ (lt_of_block X1.out)).trans X1.out) rfl
  have z10w2 : w2.frozen? ⟨w1.heap.size, 0, none⟩ = false := cells_free ((HC.out.block _ (lt_of_block X1.out)).trans X1.out) _
  have k11w2 : w2.cell? ⟨w1.heap.size, 1, none⟩ = some (.slice x13 x14 x15) := cells_cell ((HC.out.block _ (lt_of_block X1.out)).trans X1.out) rfl
  have z11w2 : w2.frozen? ⟨w1.heap.size, 1, none⟩ = false := cells_free ((HC.out.block _ (lt_of_block X1.out)).trans X1.out) _
  have l1w2 : w1.heap.size < w2.heap.size := lt_of_block ((HC.out.block _ (lt_of_block X1.out)).trans X1.out)
  go_wp2_with (go_at_call 22; fail)
  refine (bytes_any (R1.out.grown HC.out)).mono ?_
  rintro e w3 ⟨vb, rfl, hob, hb⟩
  have HC2 : Hid (Below W1.heap.size W1 w3) := Lib.hid (HC.out.trans ((hb).mono HC.out.size))
  clear HC
  have HC := HC2
  clear HC2
  have hcv : (convert 26 9 vb).run Try.prog w3 = .ok (.string ⟨#[97, 98, 99, 100, 101]⟩) w3 := row_str hob
  clear hb hob
  have k10w3 : w3.cell? ⟨w1.heap.size, 0, none⟩ = some (.slice x10 x11 x12) := cells_cell ((HC.out.block _ (lt_of_block X1.out)).trans X1.out) rfl
  have z10w3 : w3.frozen? ⟨w1.heap.size, 0, none⟩ = false := cells_free ((HC.out.block _ (lt_of_block X1.out)).trans X1.out) _
  have k11w3 : w3.cell? ⟨w1.heap.size, 1, none⟩ = some (.slice x13 x14 x15) := cells_cell ((HC.out.block _ (lt_of_block X1.out)).trans X1.out) rfl
  have z11w3 : w3.frozen? ⟨w1.heap.size, 1, none⟩ = false := cells_free ((HC.out.block _ (lt_of_block X1.out)).trans X1.out) _
  have l1w3 : w1.heap.size < w3.heap.size := lt_of_block ((HC.out.block _ (lt_of_block X1.out)).trans X1.out)
  go_wp2_with (go_at_call 24; fail)
  refine (is_any (Ps := [[97, 98], [99, 100, 101]]) (R1.out.grown (HC.out.trans ((below_alloc _ _).mono HC.out.size))) (row_made w3 9 (([[97, 98], [99, 100, 101]] : Parts).map encS) (by decide)).src).mono ?_
  rintro e w4 ⟨rfl, hb⟩
  have HC2 : Hid (Below W1.heap.size W1 w4) := Lib.hid (HC.out.trans (((below_alloc _ _).trans (hb.mono (by simp))).mono HC.out.size))
  clear HC
  have HC := HC2
  clear HC2
  clear hb
  clear hcv
  have k10w4 : w4.cell? ⟨w1.heap.size, 0, none⟩ = some (.slice x10 x11 x12) := cells_cell ((HC.out.block _ (lt_of_block X1.out)).trans X1.out) rfl
  have z10w4 : w4.frozen? ⟨w1.heap.size, 0, none⟩ = false := cells_free ((HC.out.block _ (lt_of_block X1.out)).trans X1.out) _
  have k11w4 : w4.cell? ⟨w1.heap.size, 1, none⟩ = some (.slice x13 x14 x15) := cells_cell ((HC.out.block _ (lt_of_block X1.out)).trans X1.out) rfl
  have z11w4 : w4.frozen? ⟨w1.heap.size, 1, none⟩ = false := cells_free ((HC.out.block _ (lt_of_block X1.out)).trans X1.out) _
  have l1w4 : w1.heap.size < w4.heap.size := lt_of_block ((HC.out.block _ (lt_of_block X1.out)).trans X1.out)
  go_wp2_with (go_at_call 16; fail)
  refine (take_is (R1.out.grown HC.out) 3 [[97, 98], [99]] [[100, 101]] (by decide) (by decide)).mono ?_
  rintro e w5 ⟨v3, v4, rfl, Q3, Q4, hb⟩
  have HC2 : Hid (Below W1.heap.size W1 w5) := Lib.hid (HC.out.trans ((hb).mono HC.out.size))
  clear HC
  have HC := HC2
  clear HC2
  clear hb
  obtain ⟨x30, x31, x32, x33, x34, x35, hv3⟩ := Q3.shape
  subst hv3
  obtain ⟨x40, x41, x42, x43, x44, x45, hv4⟩ := Q4.shape
  subst hv4
  have Q3 := Lib.hid (Q3.lower (Nat.zero_le _))
  have Q4 := Lib.hid (Q4.lower (Nat.zero_le _))
  have k10w5 : w5.cell? ⟨w1.heap.size, 0, none⟩ = some (.slice x10 x11 x12) := cells_cell ((HC.out.block _ (lt_of_block X1.out)).trans X1.out) rfl
  have z10w5 : w5.frozen? ⟨w1.heap.size, 0, none⟩ = false := cells_free ((HC.out.block _ (lt_of_block X1.out)).trans X1.out) _
  have k11w5 : w5.cell? ⟨w1.heap.size, 1, none⟩ = some (.slice x13 x14 x15) := cells_cell ((HC.out.block _ (lt_of_block X1.out)).trans X1.out) rfl
  have z11w5 : w5.frozen? ⟨w1.heap.size, 1, none⟩ = false := cells_free ((HC.out.block _ (lt_of_block X1.out)).trans X1.out) _
  have l1w5 : w1.heap.size < w5.heap.size := lt_of_block ((HC.out.block _ (lt_of_block X1.out)).trans X1.out)
  have o3 : Hid (w1.heap.size < w5.heap.size) := Lib.hid (lt_of_block ((HC.out.block _ (lt_of_block X1.out)).trans X1.out))
  go_wp2_with (go_at_call 16; fail)
  obtain ⟨W5, hW5⟩ : ∃ x, x = (w5.alloc (.cells #[.slice x30 x31 x32, .slice x33 x34 x35] 29)).alloc (.cells #[.slice x40 x41 x42, .slice x43 x44 x45] 29) := ⟨_, rfl⟩
  have HBn : Below w5.heap.size w5 W5 := by rw [hW5]; exact (below_alloc _ _).trans ((below_alloc _ _).mono (by simp))
  have HBB : Hid (Below W1.heap.size W1 W5) := Lib.hid (HC.out.trans (HBn.mono HC.out.size))
  have Y1 : Hid (W5.heap[w1.heap.size]? = some (.cells #[.slice x10 x11 x12, .slice x13 x14 x15] 29 (0, 0))) := Lib.hid ((HBB.out.block _ (lt_of_block X1.out)).trans X1.out)
  have S1 : Hid (RopeAt W5 0 (.agg #[.slice x10 x11 x12, .slice x13 x14 x15]) P0) := Lib.hid (R1.out.grown HBB.out)
  have Y3 : Hid (W5.heap[w5.heap.size]? = some (.cells #[.slice x30 x31 x32, .slice x33 x34 x35] 29 (0, 0))) := Lib.hid (by rw [hW5]; exact ((below_alloc _ _).block _ (by simp)).trans (heap_alloc_new _ _))
  have Y4 : Hid (W5.heap[w5.heap.size + 1]? = some (.cells #[.slice x40 x41 x42, .slice x43 x44 x45] 29 (0, 0))) := Lib.hid (by rw [hW5]; exact (by have := heap_alloc_new (w5.alloc (.cells #[.slice x30 x31 x32, .slice x33 x34 x35] 29)) (.cells #[.slice x40 x41 x42, .slice x43 x44 x45] 29); simpa using this))
  have S3 : Hid (RopeAt W5 0 (.agg #[.slice x30 x31 x32, .slice x33 x34 x35]) [[97, 98], [99]]) := Lib.hid ((Q3.out).grown HBn)
  have S4 : Hid (RopeAt W5 0 (.agg #[.slice x40 x41 x42, .slice x43 x44 x45]) [[100, 101]]) := Lib.hid ((Q4.out).grown HBn)
  have HTn : Hid (Below w.heap.size w W5) := Lib.hid (HT.out.trans (HBB.out.mono HT.out.size))
  have HWzz : W5.heap.size = w5.heap.size + 1 + 1 := by rw [hW5]; simp
  rw [← hW5]
  clear hW5 HC HT HBn HBB X1 R1
  have X1 := Y1
  have X3 := Y3
  have X4 := Y4
  have R1 := S1
  have R3 := S3
  have R4 := S4
  have HT := HTn
  clear HTn Y1 Y3 Y4 S1 S3 S4
  have HC : Hid (Below W5.heap.size W5 W5) := Lib.hid (Below.refl _ _)
  clear HWzz
  go_wp2_with (go_at_call 16; fail)
  refine (take_is (R1.out.grown HC.out) 2 [[97, 98]] [[99, 100, 101]] (by decide) (by decide)).mono ?_
  rintro e w6 ⟨v5, v6, rfl, Q5, Q6, hb⟩
  have HC2 : Hid (Below W5.heap.size W5 w6) := Lib.hid (HC.out.trans ((hb).mono HC.out.size))
  clear HC
  have HC := HC2
  clear HC2
  clear hb
  obtain ⟨x50, x51, x52, x53, x54, x55, hv5⟩ := Q5.shape
  subst hv5
  obtain ⟨x60, x61, x62, x63, x64, x65, hv6⟩ := Q6.shape
  subst hv6
  have Q5 := Lib.hid (Q5.lower (Nat.zero_le _))
  have Q6 := Lib.hid (Q6.lower (Nat.zero_le _))
  have k10w6 : w6.cell? ⟨w1.heap.size, 0, none⟩ = some (.slice x10 x11 x12) := cells_cell ((HC.out.block _ (lt_of_block X1.out)).trans X1.out) rfl
  have z10w6 : w6.frozen? ⟨w1.heap.size, 0, none⟩ = false := cells_free ((HC.out.block _ (lt_of_block X1.out)).trans X1.out) _
  have k11w6 : w6.cell? ⟨w1.heap.size, 1, none⟩ = some (.slice x13 x14 x15) := cells_cell ((HC.out.block _ (lt_of_block X1.out)).trans X1.out) rfl
  have z11w6 : w6.frozen? ⟨w1.heap.size, 1, none⟩ = false := cells_free ((HC.out.block _ (lt_of_block X1.out)).trans X1.out) _
  have l1w6 : w1.heap.size < w6.heap.size := lt_of_block ((HC.out.block _ (lt_of_block X1.out)).trans X1.out)
  have k30w6 : w6.cell? ⟨w5.heap.size, 0, none⟩ = some (.slice x30 x31 x32) := cells_cell ((HC.out.block _ (lt_of_block X3.out)).trans X3.out) rfl
  have z30w6 : w6.frozen? ⟨w5.heap.size, 0, none⟩ = false := cells_free ((HC.out.block _ (lt_of_block X3.out)).trans X3.out) _
  have k31w6 : w6.cell? ⟨w5.heap.size, 1, none⟩ = some (.slice x33 x34 x35) := cells_cell ((HC.out.block _ (lt_of_block X3.out)).trans X3.out) rfl
  have z31w6 : w6.frozen? ⟨w5.heap.size, 1, none⟩ = false := cells_free ((HC.out.block _ (lt_of_block X3.out)).trans X3.out) _
  have l3w6 : w5.heap.size < w6.heap.size := lt_of_block ((HC.out.block _ (lt_of_block X3.out)).trans X3.out)
  have k40w6 : w6.cell? ⟨w5.heap.size + 1, 0, none⟩ = some (.slice x40 x41 x42) := cells_cell ((HC.out.block _ (lt_of_block X4.out)).trans X4.out) rfl
  have z40w6 : w6.frozen? ⟨w5.heap.size + 1, 0, none⟩ = false := cells_free ((HC.out.block _ (lt_of_block X4.out)).trans X4.out) _
  have k41w6 : w6.cell? ⟨w5.heap.size + 1, 1, none⟩ = some (.slice x43 x44 x45) := cells_cell ((HC.out.block _ (lt_of_block X4.out)).trans X4.out) rfl
  have z41w6 : w6.frozen? ⟨w5.heap.size + 1, 1, none⟩ = false := cells_free ((HC.out.block _ (lt_of_block X4.out)).trans X4.out) _
  have l4w6 : w5.heap.size + 1 < w6.heap.size := lt_of_block ((HC.out.block _ (lt_of_block X4.out)).trans X4.out)
  have OR : Hid (w.heap.size ≤ w1.heap.size ∧ w1.heap.size < w5.heap.size ∧ w5.heap.size + 1 < w6.heap.size) := Lib.hid ⟨o1.out, o3.out, lt_of_block ((HC.out.block _ (lt_of_block X4.out)).trans X4.out)⟩
  clear o1 o3
  go_wp2_with (go_at_call 24; fail)
  obtain ⟨W6, hW6⟩ : ∃ x, x = (w6.alloc (.cells #[.slice x50 x51 x52, .slice x53 x54 x55] 29)).alloc (.cells #[.slice x60 x61 x62, .slice x63 x64 x65] 29) := ⟨_, rfl⟩
  have HBn : Below w6.heap.size w6 W6 := by rw [hW6]; exact (below_alloc _ _).trans ((below_alloc _ _).mono (by simp))
  have HBB : Hid (Below W5.heap.size W5 W6) := Lib.hid (HC.out.trans (HBn.mono HC.out.size))
  have Y1 : Hid (W6.heap[w1.heap.size]? = some (.cells #[.slice x10 x11 x12, .slice x13 x14 x15] 29 (0, 0))) := Lib.hid ((HBB.out.block _ (lt_of_block X1.out)).trans X1.out)
  have Y3 : Hid (W6.heap[w5.heap.size]? = some (.cells #[.slice x30 x31 x32, .slice x33 x34 x35] 29 (0, 0))) := Lib.hid ((HBB.out.block _ (lt_of_block X3.out)).trans X3.out)
  have Y4 : Hid (W6.heap[w5.heap.size + 1]? = some (.cells #[.slice x40 x41 x42, .slice x43 x44 x45] 29 (0, 0))) := Lib.hid ((HBB.out.block _ (lt_of_block X4.out)).trans X4.out)
  have S1 : Hid (RopeAt W6 0 (.agg #[.slice x10 x11 x12, .slice x13 x14 x15]) P0) := Lib.hid (R1.out.grown HBB.out)
  have S3 : Hid (RopeAt W6 0 (.agg #[.slice x30 x31 x32, .slice x33 x34 x35]) [[97, 98], [99]]) := Lib.hid (R3.out.grown HBB.out)
  have S4 : Hid (RopeAt W6 0 (.agg #[.slice x40 x41 x42, .slice x43 x44 x45]) [[100, 101]]) := Lib.hid (R4.out.grown HBB.out)
  have Y5 : Hid (W6.heap[w6.heap.size]? = some (.cells #[.slice x50 x51 x52, .slice x53 x54 x55] 29 (0, 0))) := Lib.hid (by rw [hW6]; exact ((below_alloc _ _).block _ (by simp)).trans (heap_alloc_new _ _))
  have Y6 : Hid (W6.heap[w6.heap.size + 1]? = some (.cells #[.slice x60 x61 x62, .slice x63 x64 x65] 29 (0, 0))) := Lib.hid (by rw [hW6]; exact (by have := heap_alloc_new (w6.alloc (.cells #[.slice x50 x51 x52, .slice x53 x54 x55] 29)) (.cells #[.slice x60 x61 x62, .slice x63 x64 x65] 29); simpa using this))
  have S5 : Hid (RopeAt W6 0 (.agg #[.slice x50 x51 x52, .slice x53 x54 x55]) [[97, 98]]) := Lib.hid ((Q5.out).grown HBn)
  have S6 : Hid (RopeAt W6 0 (.agg #[.slice x60 x61 x62, .slice x63 x64 x65]) [[99, 100, 101]]) := Lib.hid ((Q6.out).grown HBn)
  have HTn : Hid (Below w.heap.size w W6) := Lib.hid (HT.out.trans (HBB.out.mono HT.out.size))
  have HWzz : W6.heap.size = w6.heap.size + 1 + 1 := by rw [hW6]; simp
  rw [← hW6]
  clear hW6 HC HT HBn HBB X1 X3 X4 R1 R3 R4
  have X1 := Y1
  have X3 := Y3
  have X4 := Y4
  have X5 := Y5
  have X6 := Y6
  have R1 := S1
  have R3 := S3
  have R4 := S4
  have R5 := S5
  have R6 := S6
  have HT := HTn
  clear HTn Y1 Y3 Y4 Y5 Y6 S1 S3 S4 S5 S6
  have HC : Hid (Below W6.heap.size W6 W6) := Lib.hid (Below.refl _ _)
  have HWz := Lib.hid HWzz
  clear HWzz
  refine (is_any (Ps := [[97, 98], [99]]) (R3.out.grown (HC.out.trans ((below_alloc _ _).mono HC.out.size))) (by rw [← HWz.out]; exact (row_made W6 9 (([[97, 98], [99]] : Parts).map encS) (by decide)).src)).mono ?_
  rintro e w7 ⟨rfl, hb⟩
  have HC2 : Hid (Below W6.heap.size W6 w7) := Lib.hid (HC.out.trans (((below_alloc _ _).trans (hb.mono (by simp))).mono HC.out.size))
  clear HC
  have HC := HC2
  clear HC2
  clear hb
  have k10w7 : w7.cell? ⟨w1.heap.size, 0, none⟩ = some (.slice x10 x11 x12) := cells_cell ((HC.out.block _ (lt_of_block X1.out)).trans X1.out) rfl
  have z10w7 : w7.frozen? ⟨w1.heap.size, 0, none⟩ = false := cells_free ((HC.out.block _ (lt_of_block X1.out)).trans X1.out) _
  have k11w7 : w7.cell? ⟨w1.heap.size, 1, none⟩ = some (.slice x13 x14 x15) := cells_cell ((HC.out.block _ (lt_of_block X1.out)).trans X1.out) rfl
  have z11w7 : w7.frozen? ⟨w1.heap.size, 1, none⟩ = false := cells_free ((HC.out.block _ (lt_of_block X1.out)).trans X1.out) _
  have l1w7 : w1.heap.size < w7.heap.size := lt_of_block ((HC.out.block _ (lt_of_block X1.out)).trans X1.out)
  have k30w7 : w7.cell? ⟨w5.heap.size, 0, none⟩ = some (.slice x30 x31 x32) := cells_cell ((HC.out.block _ (lt_of_block X3.out)).trans X3.out) rfl
  have z30w7 : w7.frozen? ⟨w5.heap.size, 0, none⟩ = false := cells_free ((HC.out.block _ (lt_of_block X3.out)).trans X3.out) _
  have k31w7 : w7.cell? ⟨w5.heap.size, 1, none⟩ = some (.slice x33 x34 x35) := cells_cell ((HC.out.block _ (lt_of_block X3.out)).trans X3.out) rfl
  have z31w7 : w7.frozen? ⟨w5.heap.size, 1, none⟩ = false := cells_free ((HC.out.block _ (lt_of_block X3.out)).trans X3.out) _
  have l3w7 : w5.heap.size < w7.heap.size := lt_of_block ((HC.out.block _ (lt_of_block X3.out)).trans X3.out)
  have k40w7 : w7.cell? ⟨w5.heap.size + 1, 0, none⟩ = some (.slice x40 x41 x42) := cells_cell ((HC.out.block _ (lt_of_block X4.out)).trans X4.out) rfl
  have z40w7 : w7.frozen? ⟨w5.heap.size + 1, 0, none⟩ = false := cells_free ((HC.out.block _ (lt_of_block X4.out)).trans X4.out) _
  have k41w7 : w7.cell? ⟨w5.heap.size + 1, 1, none⟩ = some (.slice x43 x44 x45) := cells_cell ((HC.out.block _ (lt_of_block X4.out)).trans X4.out) rfl
  have z41w7 : w7.frozen? ⟨w5.heap.size + 1, 1, none⟩ = false := cells_free ((HC.out.block _ (lt_of_block X4.out)).trans X4.out) _
  have l4w7 : w5.heap.size + 1 < w7.heap.size := lt_of_block ((HC.out.block _ (lt_of_block X4.out)).trans X4.out)
  have k50w7 : w7.cell? ⟨w6.heap.size, 0, none⟩ = some (.slice x50 x51 x52) := cells_cell ((HC.out.block _ (lt_of_block X5.out)).trans X5.out) rfl
  have z50w7 : w7.frozen? ⟨w6.heap.size, 0, none⟩ = false := cells_free ((HC.out.block _ (lt_of_block X5.out)).trans X5.out) _
  have k51w7 : w7.cell? ⟨w6.heap.size, 1, none⟩ = some (.slice x53 x54 x55) := cells_cell ((HC.out.block _ (lt_of_block X5.out)).trans X5.out) rfl
  have z51w7 : w7.frozen? ⟨w6.heap.size, 1, none⟩ = false := cells_free ((HC.out.block _ (lt_of_block X5.out)).trans X5.out) _
  have l5w7 : w6.heap.size < w7.heap.size := lt_of_block ((HC.out.block _ (lt_of_block X5.out)).trans X5.out)
  have k60w7 : w7.cell? ⟨w6.heap.size + 1, 0, none⟩ = some (.slice x60 x61 x62) := cells_cell ((HC.out.block _ (lt_of_block X6.out)).trans X6.out) rfl
  have z60w7 : w7.frozen? ⟨w6.heap.size + 1, 0, none⟩ = false := cells_free ((HC.out.block _ (lt_of_block X6.out)).trans X6.out) _
  have k61w7 : w7.cell? ⟨w6.heap.size + 1, 1, none⟩ = some (.slice x63 x64 x65) := cells_cell ((HC.out.block _ (lt_of_block X6.out)).trans X6.out) rfl
  have z61w7 : w7.frozen? ⟨w6.heap.size + 1, 1, none⟩ = false := cells_free ((HC.out.block _ (lt_of_block X6.out)).trans X6.out) _
  have l6w7 : w6.heap.size + 1 < w7.heap.size := lt_of_block ((HC.out.block _ (lt_of_block X6.out)).trans X6.out)
  clear HWz
  go_wp2_with (go_at_call 24; fail)
  refine (is_any (Ps := [[100, 101]]) (R4.out.grown (HC.out.trans ((below_alloc _ _).mono HC.out.size))) (row_made w7 9 (([[100, 101]] : Parts).map encS) (by decide)).src).mono ?_
  rintro e w8 ⟨rfl, hb⟩
  have HC2 : Hid (Below W6.heap.size W6 w8) := Lib.hid (HC.out.trans (((below_alloc _ _).trans (hb.mono (by simp))).mono HC.out.size))
  clear HC
  have HC := HC2
  clear HC2
  clear hb
  have k10w8 : w8.cell? ⟨w1.heap.size, 0, none⟩ = some (.slice x10 x11 x12) := cells_cell ((HC.out.block _ (lt_of_block X1.out)).trans X1.out) rfl
  have z10w8 : w8.frozen? ⟨w1.heap.size, 0, none⟩ = false := cells_free ((HC.out.block _ (lt_of_block X1.out)).trans X1.out) _
  have k11w8 : w8.cell? ⟨w1.heap.size, 1, none⟩ = some (.slice x13 x14 x15) := cells_cell ((HC.out.block _ (lt_of_block X1.out)).trans X1.out) rfl
  have z11w8 : w8.frozen? ⟨w1.heap.size, 1, none⟩ = false := cells_free ((HC.out.block _ (lt_of_block X1.out)).trans X1.out) _
  have l1w8 : w1.heap.size < w8.heap.size := lt_of_block ((HC.out.block _ (lt_of_block X1.out)).trans X1.out)
  have k30w8 : w8.cell? ⟨w5.heap.size, 0, none⟩ = some (.slice x30 x31 x32) := cells_cell ((HC.out.block _ (lt_of_block X3.out)).trans X3.out) rfl
  have z30w8 : w8.frozen? ⟨w5.heap.size, 0, none⟩ = false := cells_free ((HC.out.block _ (lt_of_block X3.out)).trans X3.out) _
  have k31w8 : w8.cell? ⟨w5.heap.size, 1, none⟩ = some (.slice x33 x34 x35) := cells_cell ((HC.out.block _ (lt_of_block X3.out)).trans X3.out) rfl
  have z31w8 : w8.frozen? ⟨w5.heap.size, 1, none⟩ = false := cells_free ((HC.out.block _ (lt_of_block X3.out)).trans X3.out) _
  have l3w8 : w5.heap.size < w8.heap.size := lt_of_block ((HC.out.block _ (lt_of_block X3.out)).trans X3.out)
  have k40w8 : w8.cell? ⟨w5.heap.size + 1, 0, none⟩ = some (.slice x40 x41 x42) := cells_cell ((HC.out.block _ (lt_of_block X4.out)).trans X4.out) rfl
  have z40w8 : w8.frozen? ⟨w5.heap.size + 1, 0, none⟩ = false := cells_free ((HC.out.block _ (lt_of_block X4.out)).trans X4.out) _
  have k41w8 : w8.cell? ⟨w5.heap.size + 1, 1, none⟩ = some (.slice x43 x44 x45) := cells_cell ((HC.out.block _ (lt_of_block X4.out)).trans X4.out) rfl
  have z41w8 : w8.frozen? ⟨w5.heap.size + 1, 1, none⟩ = false := cells_free ((HC.out.block _ (lt_of_block X4.out)).trans X4.out) _
  have l4w8 : w5.heap.size + 1 < w8.heap.size := lt_of_block ((HC.out.block _ (lt_of_block X4.out)).trans X4.out)
  have k50w8 : w8.cell? ⟨w6.heap.size, 0, none⟩ = some (.slice x50 x51 x52) := cells_cell ((HC.out.block _ (lt_of_block X5.out)).trans X5.out) rfl
  have z50w8 : w8.frozen? ⟨w6.heap.size, 0, none⟩ = false := cells_free ((HC.out.block _ (lt_of_block X5.out)).trans X5.out) _
  have k51w8 : w8.cell? ⟨w6.heap.size, 1, none⟩ = some (.slice x53 x54 x55) := cells_cell ((HC.out.block _ (lt_of_block X5.out)).trans X5.out) rfl
  have z51w8 : w8.frozen? ⟨w6.heap.size, 1, none⟩ = false := cells_free ((HC.out.block _ (lt_of_block X5.out)).trans X5.out) _
  have l5w8 : w6.heap.size < w8.heap.size := lt_of_block ((HC.out.block _ (lt_of_block X5.out)).trans X5.out)
  have k60w8 : w8.cell? ⟨w6.heap.size + 1, 0, none⟩ = some (.slice x60 x61 x62) := cells_cell ((HC.out.block _ (lt_of_block X6.out)).trans X6.out) rfl
  have z60w8 : w8.frozen? ⟨w6.heap.size + 1, 0, none⟩ = false := cells_free ((HC.out.block _ (lt_of_block X6.out)).trans X6.out) _
  have k61w8 : w8.cell? ⟨w6.heap.size + 1, 1, none⟩ = some (.slice x63 x64 x65) := cells_cell ((HC.out.block _ (lt_of_block X6.out)).trans X6.out) rfl
  have z61w8 : w8.frozen? ⟨w6.heap.size + 1, 1, none⟩ = false := cells_free ((HC.out.block _ (lt_of_block X6.out)).trans X6.out) _
  have l6w8 : w6.heap.size + 1 < w8.heap.size := lt_of_block ((HC.out.block _ (lt_of_block X6.out)).trans X6.out)
  go_wp2_with (go_at_call 24; fail)
  refine (is_any (Ps := [[97, 98]]) (R5.out.grown (HC.out.trans ((below_alloc _ _).mono HC.out.size))) (row_made w8 9 (([[97, 98]] : Parts).map encS) (by decide)).src).mono ?_
  rintro e w9 ⟨rfl, hb⟩
  have HC2 : Hid (Below W6.heap.size W6 w9) := Lib.hid (HC.out.trans (((below_alloc _ _).trans (hb.mono (by simp))).mono HC.out.size))
  clear HC
  have HC := HC2
  clear HC2
  clear hb
  have k10w9 : w9.cell? ⟨w1.heap.size, 0, none⟩ = some (.slice x10 x11 x12) := cells_cell ((HC.out.block _ (lt_of_block X1.out)).trans X1.out) rfl
  have z10w9 : w9.frozen? ⟨w1.heap.size, 0, none⟩ = false := cells_free ((HC.out.block _ (lt_of_block X1.out)).trans X1.out) _
  have k11w9 : w9.cell? ⟨w1.heap.size, 1, none⟩ = some (.slice x13 x14 x15) := cells_cell ((HC.out.block _ (lt_of_block X1.out)).trans X1.out) rfl
  have z11w9 : w9.frozen? ⟨w1.heap.size, 1, none⟩ = false := cells_free ((HC.out.block _ (lt_of_block X1.out)).trans X1.out) _
  have l1w9 : w1.heap.size < w9.heap.size := lt_of_block ((HC.out.block _ (lt_of_block X1.out)).trans X1.out)
  have k30w9 : w9.cell? ⟨w5.heap.size, 0, none⟩ = some (.slice x30 x31 x32) := cells_cell ((HC.out.block _ (lt_of_block X3.out)).trans X3.out) rfl
  have z30w9 : w9.frozen? ⟨w5.heap.size, 0, none⟩ = false := cells_free ((HC.out.block _ (lt_of_block X3.out)).trans X3.out) _
  have k31w9 : w9.cell? ⟨w5.heap.size, 1, none⟩ = some (.slice x33 x34 x35) := cells_cell ((HC.out.block _ (lt_of_block X3.out)).trans X3.out) rfl
  have z31w9 : w9.frozen? ⟨w5.heap.size, 1, none⟩ = false := cells_free ((HC.out.block _ (lt_of_block X3.out)).trans X3.out) _
  have l3w9 : w5.heap.size < w9.heap.size := lt_of_block ((HC.out.block _ (lt_of_block X3.out)).trans X3.out)
  have k40w9 : w9.cell? ⟨w5.heap.size + 1, 0, none⟩ = some (.slice x40 x41 x42) := cells_cell ((HC.out.block _ (lt_of_block X4.out)).trans X4.out) rfl
  have z40w9 : w9.frozen? ⟨w5.heap.size + 1, 0, none⟩ = false := cells_free ((HC.out.block _ (lt_of_block X4.out)).trans X4.out) _
  have k41w9 : w9.cell? ⟨w5.heap.size + 1, 1, none⟩ = some (.slice x43 x44 x45) := cells_cell ((HC.out.block _ (lt_of_block X4.out)).trans X4.out) rfl
  have z41w9 : w9.frozen? ⟨w5.heap.size + 1, 1, none⟩ = false := cells_free ((HC.out.block _ (lt_of_block X4.out)).trans X4.out) _
  have l4w9 : w5.heap.size + 1 < w9.heap.size := lt_of_block ((HC.out.block _ (lt_of_block X4.out)).trans X4.out)
  have k50w9 : w9.cell? ⟨w6.heap.size, 0, none⟩ = some (.slice x50 x51 x52) := cells_cell ((HC.out.block _ (lt_of_block X5.out)).trans X5.out) rfl
  have z50w9 : w9.frozen? ⟨w6.heap.size, 0, none⟩ = false := cells_free ((HC.out.block _ (lt_of_block X5.out)).trans X5.out) _
  have k51w9 : w9.cell? ⟨w6.heap.size, 1, none⟩ = some (.slice x53 x54 x55) := cells_cell ((HC.out.block _ (lt_of_block X5.out)).trans X5.out) rfl
  have z51w9 : w9.frozen? ⟨w6.heap.size, 1, none⟩ = false := cells_free ((HC.out.block _ (lt_of_block X5.out)).trans X5.out) _
  have l5w9 : w6.heap.size < w9.heap.size := lt_of_block ((HC.out.block _ (lt_of_block X5.out)).trans X5.out)
  have k60w9 : w9.cell? ⟨w6.heap.size + 1, 0, none⟩ = some (.slice x60 x61 x62) := cells_cell ((HC.out.block _ (lt_of_block X6.out)).trans X6.out) rfl
  have z60w9 : w9.frozen? ⟨w6.heap.size + 1, 0, none⟩ = false := cells_free ((HC.out.block _ (lt_of_block X6.out)).trans X6.out) _
  have k61w9 : w9.cell? ⟨w6.heap.size + 1, 1, none⟩ = some (.slice x63 x64 x65) := cells_cell ((HC.out.block _ (lt_of_block X6.out)).trans X6.out) rfl
  have z61w9 : w9.frozen? ⟨w6.heap.size + 1, 1, none⟩ = false := cells_free ((HC.out.block _ (lt_of_block X6.out)).trans X6.out) _
  have l6w9 : w6.heap.size + 1 < w9.heap.size := lt_of_block ((HC.out.block _ (lt_of_block X6.out)).trans X6.out)
  go_wp2_with (go_at_call 24; fail)
  refine (is_any (Ps := [[99, 100, 101]]) (R6.out.grown (HC.out.trans ((below_alloc _ _).mono HC.out.size))) (row_made w9 9 (([[99, 100, 101]] : Parts).map encS) (by decide)).src).mono ?_
  rintro e w10 ⟨rfl, hb⟩
  have HC2 : Hid (Below W6.heap.size W6 w10) := Lib.hid (HC.out.trans (((below_alloc _ _).trans (hb.mono (by simp))).mono HC.out.size))
  clear HC
  have HC := HC2
  clear HC2
  clear hb
  have k10w10 : w10.cell? ⟨w1.heap.size, 0, none⟩ = some (.slice x10 x11 x12) := cells_cell ((HC.out.block _ (lt_of_block X1.out)).trans X1.out) rfl
  have z10w10 : w10.frozen? ⟨w1.heap.size, 0, none⟩ = false := cells_free ((HC.out.block _ (lt_of_block X1.out)).trans X1.out) _
  have k11w10 : w10.cell? ⟨w1.heap.size, 1, none⟩ = some (.slice x13 x14 x15) := cells_cell ((HC.out.block _ (lt_of_block X1.out)).trans X1.out) rfl
  have z11w10 : w10.frozen? ⟨w1.heap.size, 1, none⟩ = false := cells_free ((HC.out.block _ (lt_of_block X1.out)).trans X1.out) _
  have l1w10 : w1.heap.size < w10.heap.size := lt_of_block ((HC.out.block _ (lt_of_block X1.out)).trans X1.out)
  have k30w10 : w10.cell? ⟨w5.heap.size, 0, none⟩ = some (.slice x30 x31 x32) := cells_cell ((HC.out.block _ (lt_of_block X3.out)).trans X3.out) rfl
  have z30w10 : w10.frozen? ⟨w5.heap.size, 0, none⟩ = false := cells_free ((HC.out.block _ (lt_of_block X3.out)).trans X3.out) _
  have k31w10 : w10.cell? ⟨w5.heap.size, 1, none⟩ = some (.slice x33 x34 x35) := cells_cell ((HC.out.block _ (lt_of_block X3.out)).trans X3.out) rfl
  have z31w10 : w10.frozen? ⟨w5.heap.size, 1, none⟩ = false := cells_free ((HC.out.block _ (lt_of_block X3.out)).trans X3.out) _
  have l3w10 : w5.heap.size < w10.heap.size := lt_of_block ((HC.out.block _ (lt_of_block X3.out)).trans X3.out)
  have k40w10 : w10.cell? ⟨w5.heap.size + 1, 0, none⟩ = some (.slice x40 x41 x42) := cells_cell ((HC.out.block _ (lt_of_block X4.out)).trans X4.out) rfl
  have z40w10 : w10.frozen? ⟨w5.heap.size + 1, 0, none⟩ = false := cells_free ((HC.out.block _ (lt_of_block X4.out)).trans X4.out) _
  have k41w10 : w10.cell? ⟨w5.heap.size + 1, 1, none⟩ = some (.slice x43 x44 x45) := cells_cell ((HC.out.block _ (lt_of_block X4.out)).trans X4.out) rfl
  have z41w10 : w10.frozen? ⟨w5.heap.size + 1, 1, none⟩ = false := cells_free ((HC.out.block _ (lt_of_block X4.out)).trans X4.out) _
  have l4w10 : w5.heap.size + 1 < w10.heap.size := lt_of_block ((HC.out.block _ (lt_of_block X4.out)).trans X4.out)
  have k50w10 : w10.cell? ⟨w6.heap.size, 0, none⟩ = some (.slice x50 x51 x52) := cells_cell ((HC.out.block _ (lt_of_block X5.out)).trans X5.out) rfl
  have z50w10 : w10.frozen? ⟨w6.heap.size, 0, none⟩ = false := cells_free ((HC.out.block _ (lt_of_block X5.out)).trans X5.out) _
  have k51w10 : w10.cell? ⟨w6.heap.size, 1, none⟩ = some (.slice x53 x54 x55) := cells_cell ((HC.out.block _ (lt_of_block X5.out)).trans X5.out) rfl
  have z51w10 : w10.frozen? ⟨w6.heap.size, 1, none⟩ = false := cells_free ((HC.out.block _ (lt_of_block X5.out)).trans X5.out) _
  have l5w10 : w6.heap.size < w10.heap.size := lt_of_block ((HC.out.block _ (lt_of_block X5.out)).trans X5.out)
  have k60w10 : w10.cell? ⟨w6.heap.size + 1, 0, none⟩ = some (.slice x60 x61 x62) := cells_cell ((HC.out.block _ (lt_of_block X6.out)).trans X6.out) rfl
  have z60w10 : w10.frozen? ⟨w6.heap.size + 1, 0, none⟩ = false := cells_free ((HC.out.block _ (lt_of_block X6.out)).trans X6.out) _
  have k61w10 : w10.cell? ⟨w6.heap.size + 1, 1, none⟩ = some (.slice x63 x64 x65) := cells_cell ((HC.out.block _ (lt_of_block X6.out)).trans X6.out) rfl
  have z61w10 : w10.frozen? ⟨w6.heap.size + 1, 1, none⟩ = false := cells_free ((HC.out.block _ (lt_of_block X6.out)).trans X6.out) _
  have l6w10 : w6.heap.size + 1 < w10.heap.size := lt_of_block ((HC.out.block _ (lt_of_block X6.out)).trans X6.out)
  go_wp2_with (go_at_call 16; fail)
  refine (take_is (R1.out.grown HC.out) 0 [] P0 (by decide) (by decide)).mono ?_
  rintro e w11 ⟨va, vb, rfl, Qa, Qb, hb⟩
  have HC2 : Hid (Below W6.heap.size W6 w11) := Lib.hid (HC.out.trans ((hb).mono HC.out.size))
  clear HC
  have HC := HC2
  clear HC2
  clear hb
  obtain ⟨xa0, xa1, xa2, xa3, xa4, xa5, hva⟩ := Qa.shape
  subst hva
  obtain ⟨xb0, xb1, xb2, xb3, xb4, xb5, hvb⟩ := Qb.shape
  subst hvb
  have Qa := Lib.hid (Qa.lower (Nat.zero_le _))
  have Qb := Lib.hid (Qb.lower (Nat.zero_le _))
  have k10w11 : w11.cell? ⟨w1.heap.size, 0, none⟩ = some (.slice x10 x11 x12) := cells_cell ((HC.out.block _ (lt_of_block X1.out)).trans X1.out) rfl
  have z10w11 : w11.frozen? ⟨w1.heap.size, 0, none⟩ = false := cells_free ((HC.out.block _ (lt_of_block X1.out)).trans X1.out) _
  have k11w11 : w11.cell? ⟨w1.heap.size, 1, none⟩ = some (.slice x13 x14 x15) := cells_cell ((HC.out.block _ (lt_of_block X1.out)).trans X1.out) rfl
  have z11w11 : w11.frozen? ⟨w1.heap.size, 1, none⟩ = false := cells_free ((HC.out.block _ (lt_of_block X1.out)).trans X1.out) _
  have l1w11 : w1.heap.size < w11.heap.size := lt_of_block ((HC.out.block _ (lt_of_block X1.out)).trans X1.out)
  have k30w11 : w11.cell? ⟨w5.heap.size, 0, none⟩ = some (.slice x30 x31 x32) := cells_cell ((HC.out.block _ (lt_of_block X3.out)).trans X3.out) rfl
  have z30w11 : w11.frozen? ⟨w5.heap.size, 0, none⟩ = false := cells_free ((HC.out.block _ (lt_of_block X3.out)).trans X3.out) _
  have k31w11 : w11.cell? ⟨w5.heap.size, 1, none⟩ = some (.slice x33 x34 x35) := cells_cell ((HC.out.block _ (lt_of_block X3.out)).trans X3.out) rfl
  have z31w11 : w11.frozen? ⟨w5.heap.size, 1, none⟩ = false := cells_free ((HC.out.block _ (lt_of_block X3.out)).trans X3.out) _
  have l3w11 : w5.heap.size < w11.heap.size := lt_of_block ((HC.out.block _ (lt_of_block X3.out)).trans X3.out)
  have k40w11 : w11.cell? ⟨w5.heap.size + 1, 0, none⟩ = some (.slice x40 x41 x42) := cells_cell ((HC.out.block _ (lt_of_block X4.out)).trans X4.out) rfl
  have z40w11 : w11.frozen? ⟨w5.heap.size + 1, 0, none⟩ = false := cells_free ((HC.out.block _ (lt_of_block X4.out)).trans X4.out) _
  have k41w11 : w11.cell? ⟨w5.heap.size + 1, 1, none⟩ = some (.slice x43 x44 x45) := cells_cell ((HC.out.block _ (lt_of_block X4.out)).trans X4.out) rfl
  have z41w11 : w11.frozen? ⟨w5.heap.size + 1, 1, none⟩ = false := cells_free ((HC.out.block _ (lt_of_block X4.out)).trans X4.out) _
  have l4w11 : w5.heap.size + 1 < w11.heap.size := lt_of_block ((HC.out.block _ (lt_of_block X4.out)).trans X4.out)
  have k50w11 : w11.cell? ⟨w6.heap.size, 0, none⟩ = some (.slice x50 x51 x52) := cells_cell ((HC.out.block _ (lt_of_block X5.out)).trans X5.out) rfl
  have z50w11 : w11.frozen? ⟨w6.heap.size, 0, none⟩ = false := cells_free ((HC.out.block _ (lt_of_block X5.out)).trans X5.out) _
  have k51w11 : w11.cell? ⟨w6.heap.size, 1, none⟩ = some (.slice x53 x54 x55) := cells_cell ((HC.out.block _ (lt_of_block X5.out)).trans X5.out) rfl
  have z51w11 : w11.frozen? ⟨w6.heap.size, 1, none⟩ = false := cells_free ((HC.out.block _ (lt_of_block X5.out)).trans X5.out) _
  have l5w11 : w6.heap.size < w11.heap.size := lt_of_block ((HC.out.block _ (lt_of_block X5.out)).trans X5.out)
  have k60w11 : w11.cell? ⟨w6.heap.size + 1, 0, none⟩ = some (.slice x60 x61 x62) := cells_cell ((HC.out.block _ (lt_of_block X6.out)).trans X6.out) rfl
  have z60w11 : w11.frozen? ⟨w6.heap.size + 1, 0, none⟩ = false := cells_free ((HC.out.block _ (lt_of_block X6.out)).trans X6.out) _
  have k61w11 : w11.cell? ⟨w6.heap.size + 1, 1, none⟩ = some (.slice x63 x64 x65) := cells_cell ((HC.out.block _ (lt_of_block X6.out)).trans X6.out) rfl
  have z61w11 : w11.frozen? ⟨w6.heap.size + 1, 1, none⟩ = false := cells_free ((HC.out.block _ (lt_of_block X6.out)).trans X6.out) _
  have l6w11 : w6.heap.size + 1 < w11.heap.size := lt_of_block ((HC.out.block _ (lt_of_block X6.out)).trans X6.out)
  go_wp2_with (go_at_call 16; fail)
  obtain ⟨W11, hW11⟩ : ∃ x, x = (((w11.setCell ⟨w5.heap.size, 0, none⟩ (.slice xa0 xa1 xa2)).setCell ⟨w5.heap.size, 1, none⟩ (.slice xa3 xa4 xa5)).setCell ⟨w5.heap.size + 1, 0, none⟩ (.slice xb0 xb1 xb2)).setCell ⟨w5.heap.size + 1, 1, none⟩ (.slice xb3 xb4 xb5) := ⟨_, rfl⟩
  have V1 : w11.heap[w1.heap.size]? = some (.cells #[.slice x10 x11 x12, .slice x13 x14 x15] 29 (0, 0)) := (HC.out.block _ (lt_of_block X1.out)).trans X1.out
  have V3 : w11.heap[w5.heap.size]? = some (.cells #[.slice x30 x31 x32, .slice x33 x34 x35] 29 (0, 0)) := (HC.out.block _ (lt_of_block X3.out)).trans X3.out
  have V4 : w11.heap[w5.heap.size + 1]? = some (.cells #[.slice x40 x41 x42, .slice x43 x44 x45] 29 (0, 0)) := (HC.out.block _ (lt_of_block X4.out)).trans X4.out
  have V5 : w11.heap[w6.heap.size]? = some (.cells #[.slice x50 x51 x52, .slice x53 x54 x55] 29 (0, 0)) := (HC.out.block _ (lt_of_block X5.out)).trans X5.out
  have V6 : w11.heap[w6.heap.size + 1]? = some (.cells #[.slice x60 x61 x62, .slice x63 x64 x65] 29 (0, 0)) := (HC.out.block _ (lt_of_block X6.out)).trans X6.out
  have hFr : Fr [w5.heap.size, w5.heap.size + 1] w11 W11 := by rw [hW11]; exact ((two_fr w11 (w5.heap.size) _ _).mono (fun x hx => .inl (by simp at hx; simp [hx]))).trans' ((two_fr _ (w5.heap.size + 1) _ _).mono (fun x hx => .inl (by simp at hx; simp [hx])))
  have hbx : ∀ x, x ∈ [w5.heap.size, w5.heap.size + 1] → ∃ p q, w11.heap[x]? = some (.cells #[p, q] 29 (0, 0)) := fun x hx => by simp at hx; rcases hx with rfl | rfl; exact ⟨_, _, V3⟩; exact ⟨_, _, V4⟩
  have Y1 : Hid (W11.heap[w1.heap.size]? = some (.cells #[.slice x10 x11 x12, .slice x13 x14 x15] 29 (0, 0))) := Lib.hid (hFr.same V1 (by have := OR.out; simp; omega))
  have Y5 : Hid (W11.heap[w6.heap.size]? = some (.cells #[.slice x50 x51 x52, .slice x53 x54 x55] 29 (0, 0))) := Lib.hid (hFr.same V5 (by have := OR.out; simp; omega))
  have Y6 : Hid (W11.heap[w6.heap.size + 1]? = some (.cells #[.slice x60 x61 x62, .slice x63 x64 x65] 29 (0, 0))) := Lib.hid (hFr.same V6 (by have := OR.out; simp; omega))
  have Y3 : Hid (W11.heap[w5.heap.size]? = some (.cells #[.slice xa0 xa1 xa2, .slice xa3 xa4 xa5] 29 (0, 0))) := Lib.hid (by rw [hW11]; exact (two_fr _ (w5.heap.size + 1) _ _).same (two_cells V3) (by have := OR.out; simp))
  have Y4 : Hid (W11.heap[w5.heap.size + 1]? = some (.cells #[.slice xb0 xb1 xb2, .slice xb3 xb4 xb5] 29 (0, 0))) := Lib.hid (by rw [hW11]; exact two_cells ((two_fr _ (w5.heap.size) _ _).same V4 (by have := OR.out; simp)))
  have S1 : Hid (RopeAt W11 0 (.agg #[.slice x10 x11 x12, .slice x13 x14 x15]) P0) := Lib.hid ((R1.out.grown HC.out).boxes hFr hbx)
  have S5 : Hid (RopeAt W11 0 (.agg #[.slice x50 x51 x52, .slice x53 x54 x55]) [[97, 98]]) := Lib.hid ((R5.out.grown HC.out).boxes hFr hbx)
  have S6 : Hid (RopeAt W11 0 (.agg #[.slice x60 x61 x62, .slice x63 x64 x65]) [[99, 100, 101]]) := Lib.hid ((R6.out.grown HC.out).boxes hFr hbx)
  have S3 : Hid (RopeAt W11 0 (.agg #[.slice xa0 xa1 xa2, .slice xa3 xa4 xa5]) []) := Lib.hid ((Qa.out).boxes hFr hbx)
  have S4 : Hid (RopeAt W11 0 (.agg #[.slice xb0 xb1 xb2, .slice xb3 xb4 xb5]) P0) := Lib.hid ((Qb.out).boxes hFr hbx)
  have HTn : Hid (Below w.heap.size w W11) := Lib.hid ((HT.out.trans (HC.out.mono HT.out.size)).trans (hFr.below (fun x hx => by have := OR.out; have := HT.out.size; simp at hx; omega) (HT.out.trans (HC.out.mono HT.out.size)).size))
  clear hFr hbx V1 V3 V4 V5 V6
  rw [← hW11]
  clear hW11 HC HT X1 X3 X4 X5 X6 R1 R3 R4 R5 R6
  have X1 := Y1
  have X3 := Y3
  have X4 := Y4
  have X5 := Y5
  have X6 := Y6
  have R1 := S1
  have R3 := S3
  have R4 := S4
  have R5 := S5
  have R6 := S6
  have HT := HTn
  clear HTn Y1 Y3 Y4 Y5 Y6 S1 S3 S4 S5 S6
  have HC : Hid (Below W11.heap.size W11 W11) := Lib.hid (Below.refl _ _)
  go_wp2_with (go_at_call 16; fail)
  refine (take_is (R1.out.grown HC.out) 9 P0 [] (by decide) (by decide)).mono ?_
  rintro e w12 ⟨vc, vd, rfl, Qc, Qd, hb⟩
  have HC2 : Hid (Below W11.heap.size W11 w12) := Lib.hid (HC.out.trans ((hb).mono HC.out.size))
  clear HC
  have HC := HC2
  clear HC2
  clear hb
  obtain ⟨xc0, xc1, xc2, xc3, xc4, xc5, hvc⟩ := Qc.shape
  subst hvc
  obtain ⟨xd0, xd1, xd2, xd3, xd4, xd5, hvd⟩ := Qd.shape
  subst hvd
  have Qc := Lib.hid (Qc.lower (Nat.zero_le _))
  have Qd := Lib.hid (Qd.lower (Nat.zero_le _))
  have k10w12 : w12.cell? ⟨w1.heap.size, 0, none⟩ = some (.slice x10 x11 x12) := cells_cell ((HC.out.block _ (lt_of_block X1.out)).trans X1.out) rfl
  have z10w12 : w12.frozen? ⟨w1.heap.size, 0, none⟩ = false := cells_free ((HC.out.block _ (lt_of_block X1.out)).trans X1.out) _
  have k11w12 : w12.cell? ⟨w1.heap.size, 1, none⟩ = some (.slice x13 x14 x15) := cells_cell ((HC.out.block _ (lt_of_block X1.out)).trans X1.out) rfl
  have z11w12 : w12.frozen? ⟨w1.heap.size, 1, none⟩ = false := cells_free ((HC.out.block _ (lt_of_block X1.out)).trans X1.out) _
  have l1w12 : w1.heap.size < w12.heap.size := lt_of_block ((HC.out.block _ (lt_of_block X1.out)).trans X1.out)
  have k30w12 : w12.cell? ⟨w5.heap.size, 0, none⟩ = some (.slice xa0 xa1 xa2) := cells_cell ((HC.out.block _ (lt_of_block X3.out)).trans X3.out) rfl
  have z30w12 : w12.frozen? ⟨w5.heap.size, 0, none⟩ = false := cells_free ((HC.out.block _ (lt_of_block X3.out)).trans X3.out) _
  have k31w12 : w12.cell? ⟨w5.heap.size, 1, none⟩ = some (.slice xa3 xa4 xa5) := cells_cell ((HC.out.block _ (lt_of_block X3.out)).trans X3.out) rfl
  have z31w12 : w12.frozen? ⟨w5.heap.size, 1, none⟩ = false := cells_free ((HC.out.block _ (lt_of_block X3.out)).trans X3.out) _
  have l3w12 : w5.heap.size < w12.heap.size := lt_of_block ((HC.out.block _ (lt_of_block X3.out)).trans X3.out)
  have k40w12 : w12.cell? ⟨w5.heap.size + 1, 0, none⟩ = some (.slice xb0 xb1 xb2) := cells_cell ((HC.out.block _ (lt_of_block X4.out)).trans X4.out) rfl
  have z40w12 : w12.frozen? ⟨w5.heap.size + 1, 0, none⟩ = false := cells_free ((HC.out.block _ (lt_of_block X4.out)).trans X4.out) _
  have k41w12 : w12.cell? ⟨w5.heap.size + 1, 1, none⟩ = some (.slice xb3 xb4 xb5) := cells_cell ((HC.out.block _ (lt_of_block X4.out)).trans X4.out) rfl
  have z41w12 : w12.frozen? ⟨w5.heap.size + 1, 1, none⟩ = false := cells_free ((HC.out.block _ (lt_of_block X4.out)).trans X4.out) _
  have l4w12 : w5.heap.size + 1 < w12.heap.size := lt_of_block ((HC.out.block _ (lt_of_block X4.out)).trans X4.out)
  have k50w12 : w12.cell? ⟨w6.heap.size, 0, none⟩ = some (.slice x50 x51 x52) := cells_cell ((HC.out.block _ (lt_of_block X5.out)).trans X5.out) rfl
  have z50w12 : w12.frozen? ⟨w6.heap.size, 0, none⟩ = false := cells_free ((HC.out.block _ (lt_of_block X5.out)).trans X5.out) _
  have k51w12 : w12.cell? ⟨w6.heap.size, 1, none⟩ = some (.slice x53 x54 x55) := cells_cell ((HC.out.block _ (lt_of_block X5.out)).trans X5.out) rfl
  have z51w12 : w12.frozen? ⟨w6.heap.size, 1, none⟩ = false := cells_free ((HC.out.block _ (lt_of_block X5.out)).trans X5.out) _
  have l5w12 : w6.heap.size < w12.heap.size := lt_of_block ((HC.out.block _ (lt_of_block X5.out)).trans X5.out)
  have k60w12 : w12.cell? ⟨w6.heap.size + 1, 0, none⟩ = some (.slice x60 x61 x62) := cells_cell ((HC.out.block _ (lt_of_block X6.out)).trans X6.out) rfl
  have z60w12 : w12.frozen? ⟨w6.heap.size + 1, 0, none⟩ = false := cells_free ((HC.out.block _ (lt_of_block X6.out)).trans X6.out) _
  have k61w12 : w12.cell? ⟨w6.heap.size + 1, 1, none⟩ = some (.slice x63 x64 x65) := cells_cell ((HC.out.block _ (lt_of_block X6.out)).trans X6.out) rfl
  have z61w12 : w12.frozen? ⟨w6.heap.size + 1, 1, none⟩ = false := cells_free ((HC.out.block _ (lt_of_block X6.out)).trans X6.out) _
  have l6w12 : w6.heap.size + 1 < w12.heap.size := lt_of_block ((HC.out.block _ (lt_of_block X6.out)).trans X6.out)
  go_wp2_with (go_at_call 16; fail)
  obtain ⟨W12, hW12⟩ : ∃ x, x = (((w12.setCell ⟨w6.heap.size, 0, none⟩ (.slice xc0 xc1 xc2)).setCell ⟨w6.heap.size, 1, none⟩ (.slice xc3 xc4 xc5)).setCell ⟨w6.heap.size + 1, 0, none⟩ (.slice xd0 xd1 xd2)).setCell ⟨w6.heap.size + 1, 1, none⟩ (.slice xd3 xd4 xd5) := ⟨_, rfl⟩
  have V1 : w12.heap[w1.heap.size]? = some (.cells #[.slice x10 x11 x12, .slice x13 x14 x15] 29 (0, 0)) := (HC.out.block _ (lt_of_block X1.out)).trans X1.out
  have V3 : w12.heap[w5.heap.size]? = some (.cells #[.slice xa0 xa1 xa2, .slice xa3 xa4 xa5] 29 (0, 0)) := (HC.out.block _ (lt_of_block X3.out)).trans X3.out
  have V4 : w12.heap[w5.heap.size + 1]? = some (.cells #[.slice xb0 xb1 xb2, .slice xb3 xb4 xb5] 29 (0, 0)) := (HC.out.block _ (lt_of_block X4.out)).trans X4.out
  have V5 : w12.heap[w6.heap.size]? = some (.cells #[.slice x50 x51 x52, .slice x53 x54 x55] 29 (0, 0)) := (HC.out.block _ (lt_of_block X5.out)).trans X5.out
  have V6 : w12.heap[w6.heap.size + 1]? = some (.cells #[.slice x60 x61 x62, .slice x63 x64 x65] 29 (0, 0)) := (HC.out.block _ (lt_of_block X6.out)).trans X6.out
  have hFr : Fr [w6.heap.size, w6.heap.size + 1] w12 W12 := by rw [hW12]; exact ((two_fr w12 (w6.heap.size) _ _).mono (fun x hx => .inl (by simp at hx; simp [hx]))).trans' ((two_fr _ (w6.heap.size + 1) _ _).mono (fun x hx => .inl (by simp at hx; simp [hx])))
  have hbx : ∀ x, x ∈ [w6.heap.size, w6.heap.size + 1] → ∃ p q, w12.heap[x]? = some (.cells #[p, q] 29 (0, 0)) := fun x hx => by simp at hx; rcases hx with rfl | rfl; exact ⟨_, _, V5⟩; exact ⟨_, _, V6⟩
  have Y1 : Hid (W12.heap[w1.heap.size]? = some (.cells #[.slice x10 x11 x12, .slice x13 x14 x15] 29 (0, 0))) := Lib.hid (hFr.same V1 (by have := OR.out; simp; omega))
  have Y3 : Hid (W12.heap[w5.heap.size]? = some (.cells #[.slice xa0 xa1 xa2, .slice xa3 xa4 xa5] 29 (0, 0))) := Lib.hid (hFr.same V3 (by have := OR.out; simp; omega))
  have Y4 : Hid (W12.heap[w5.heap.size + 1]? = some (.cells #[.slice xb0 xb1 xb2, .slice xb3 xb4 xb5] 29 (0, 0))) := Lib.hid (hFr.same V4 (by have := OR.out; simp; omega))
  have Y5 : Hid (W12.heap[w6.heap.size]? = some (.cells #[.slice xc0 xc1 xc2, .slice xc3 xc4 xc5] 29 (0, 0))) := Lib.hid (by rw [hW12]; exact (two_fr _ (w6.heap.size + 1) _ _).same (two_cells V5) (by have := OR.out; simp))
  have Y6 : Hid (W12.heap[w6.heap.size + 1]? = some (.cells #[.slice xd0 xd1 xd2, .slice xd3 xd4 xd5] 29 (0, 0))) := Lib.hid (by rw [hW12]; exact two_cells ((two_fr _ (w6.heap.size) _ _).same V6 (by have := OR.out; simp)))
  have S1 : Hid (RopeAt W12 0 (.agg #[.slice x10 x11 x12, .slice x13 x14 x15]) P0) := Lib.hid ((R1.out.grown HC.out).boxes hFr hbx)
  have S3 : Hid (RopeAt W12 0 (.agg #[.slice xa0 xa1 xa2, .slice xa3 xa4 xa5]) []) := Lib.hid ((R3.out.grown HC.out).boxes hFr hbx)
  have S4 : Hid (RopeAt W12 0 (.agg #[.slice xb0 xb1 xb2, .slice xb3 xb4 xb5]) P0) := Lib.hid ((R4.out.grown HC.out).boxes hFr hbx)
  have S5 : Hid (RopeAt W12 0 (.agg #[.slice xc0 xc1 xc2, .slice xc3 xc4 xc5]) P0) := Lib.hid ((Qc.out).boxes hFr hbx)
  have S6 : Hid (RopeAt W12 0 (.agg #[.slice xd0 xd1 xd2, .slice xd3 xd4 xd5]) []) := Lib.hid ((Qd.out).boxes hFr hbx)
  have HTn : Hid (Below w.heap.size w W12) := Lib.hid ((HT.out.trans (HC.out.mono HT.out.size)).trans (hFr.below (fun x hx => by have := OR.out; have := HT.out.size; simp at hx; omega) (HT.out.trans (HC.out.mono HT.out.size)).size))
  clear hFr hbx V1 V3 V4 V5 V6
  rw [← hW12]
  clear hW12 HC HT X1 X3 X4 X5 X6 R1 R3 R4 R5 R6
  have X1 := Y1
  have X3 := Y3
  have X4 := Y4
  have X5 := Y5
  have X6 := Y6
  have R1 := S1
  have R3 := S3
  have R4 := S4
  have R5 := S5
  have R6 := S6
  have HT := HTn
  clear HTn Y1 Y3 Y4 Y5 Y6 S1 S3 S4 S5 S6
  have HC : Hid (Below W12.heap.size W12 W12) := Lib.hid (Below.refl _ _)
  refine (take_bad (R1.out.grown HC.out) (-1) (by decide)).mono ?_
  rintro e w13 ⟨rfl, hb⟩
  have HC2 : Hid (Below W12.heap.size W12 w13) := Lib.hid (HC.out.trans ((hb).mono HC.out.size))
  clear HC
  have HC := HC2
  clear HC2
  clear hb
  unfold zeroRope
  have k10w13 : w13.cell? ⟨w1.heap.size, 0, none⟩ = some (.slice x10 x11 x12) := cells_cell ((HC.out.block _ (lt_of_block X1.out)).trans X1.out) rfl
  have z10w13 : w13.frozen? ⟨w1.heap.size, 0, none⟩ = false := cells_free ((HC.out.block _ (lt_of_block X1.out)).trans X1.out) _
  have k11w13 : w13.cell? ⟨w1.heap.size, 1, none⟩ = some (.slice x13 x14 x15) := cells_cell ((HC.out.block _ (lt_of_block X1.out)).trans X1.out) rfl
  have z11w13 : w13.frozen? ⟨w1.heap.size, 1, none⟩ = false := cells_free ((HC.out.block _ (lt_of_block X1.out)).trans X1.out) _
  have l1w13 : w1.heap.size < w13.heap.size := lt_of_block ((HC.out.block _ (lt_of_block X1.out)).trans X1.out)
  have k30w13 : w13.cell? ⟨w5.heap.size, 0, none⟩ = some (.slice xa0 xa1 xa2) := cells_cell ((HC.out.block _ (lt_of_block X3.out)).trans X3.out) rfl
  have z30w13 : w13.frozen? ⟨w5.heap.size, 0, none⟩ = false := cells_free ((HC.out.block _ (lt_of_block X3.out)).trans X3.out) _
  have k31w13 : w13.cell? ⟨w5.heap.size, 1, none⟩ = some (.slice xa3 xa4 xa5) := cells_cell ((HC.out.block _ (lt_of_block X3.out)).trans X3.out) rfl
  have z31w13 : w13.frozen? ⟨w5.heap.size, 1, none⟩ = false := cells_free ((HC.out.block _ (lt_of_block X3.out)).trans X3.out) _
  have l3w13 : w5.heap.size < w13.heap.size := lt_of_block ((HC.out.block _ (lt_of_block X3.out)).trans X3.out)
  have k40w13 : w13.cell? ⟨w5.heap.size + 1, 0, none⟩ = some (.slice xb0 xb1 xb2) := cells_cell ((HC.out.block _ (lt_of_block X4.out)).trans X4.out) rfl
  have z40w13 : w13.frozen? ⟨w5.heap.size + 1, 0, none⟩ = false := cells_free ((HC.out.block _ (lt_of_block X4.out)).trans X4.out) _
  have k41w13 : w13.cell? ⟨w5.heap.size + 1, 1, none⟩ = some (.slice xb3 xb4 xb5) := cells_cell ((HC.out.block _ (lt_of_block X4.out)).trans X4.out) rfl
  have z41w13 : w13.frozen? ⟨w5.heap.size + 1, 1, none⟩ = false := cells_free ((HC.out.block _ (lt_of_block X4.out)).trans X4.out) _
  have l4w13 : w5.heap.size + 1 < w13.heap.size := lt_of_block ((HC.out.block _ (lt_of_block X4.out)).trans X4.out)
  have k50w13 : w13.cell? ⟨w6.heap.size, 0, none⟩ = some (.slice xc0 xc1 xc2) := cells_cell ((HC.out.block _ (lt_of_block X5.out)).trans X5.out) rfl
  have z50w13 : w13.frozen? ⟨w6.heap.size, 0, none⟩ = false := cells_free ((HC.out.block _ (lt_of_block X5.out)).trans X5.out) _
  have k51w13 : w13.cell? ⟨w6.heap.size, 1, none⟩ = some (.slice xc3 xc4 xc5) := cells_cell ((HC.out.block _ (lt_of_block X5.out)).trans X5.out) rfl
  have z51w13 : w13.frozen? ⟨w6.heap.size, 1, none⟩ = false := cells_free ((HC.out.block _ (lt_of_block X5.out)).trans X5.out) _
  have l5w13 : w6.heap.size < w13.heap.size := lt_of_block ((HC.out.block _ (lt_of_block X5.out)).trans X5.out)
  have k60w13 : w13.cell? ⟨w6.heap.size + 1, 0, none⟩ = some (.slice xd0 xd1 xd2) := cells_cell ((HC.out.block _ (lt_of_block X6.out)).trans X6.out) rfl
  have z60w13 : w13.frozen? ⟨w6.heap.size + 1, 0, none⟩ = false := cells_free ((HC.out.block _ (lt_of_block X6.out)).trans X6.out) _
  have k61w13 : w13.cell? ⟨w6.heap.size + 1, 1, none⟩ = some (.slice xd3 xd4 xd5) := cells_cell ((HC.out.block _ (lt_of_block X6.out)).trans X6.out) rfl
  have z61w13 : w13.frozen? ⟨w6.heap.size + 1, 1, none⟩ = false := cells_free ((HC.out.block _ (lt_of_block X6.out)).trans X6.out) _
  have l6w13 : w6.heap.size + 1 < w13.heap.size := lt_of_block ((HC.out.block _ (lt_of_block X6.out)).trans X6.out)
  go_wp2_with (go_at_call 24; fail)
  obtain ⟨W13, hW13⟩ : ∃ x, x = (w13.alloc (.cells #[.slice none 0 0, .slice none 0 0] 29)).alloc (.cells #[.slice none 0 0, .slice none 0 0] 29) := ⟨_, rfl⟩
  have HBn : Below w13.heap.size w13 W13 := by rw [hW13]; exact (below_alloc _ _).trans ((below_alloc _ _).mono (by simp))
  have HBB : Hid (Below W12.heap.size W12 W13) := Lib.hid (HC.out.trans (HBn.mono HC.out.size))
  have Y1 : Hid (W13.heap[w1.heap.size]? = some (.cells #[.slice x10 x11 x12, .slice x13 x14 x15] 29 (0, 0))) := Lib.hid ((HBB.out.block _ (lt_of_block X1.out)).trans X1.out)
  have Y3 : Hid (W13.heap[w5.heap.size]? = some (.cells #[.slice xa0 xa1 xa2, .slice xa3 xa4 xa5] 29 (0, 0))) := Lib.hid ((HBB.out.block _ (lt_of_block X3.out)).trans X3.out)
  have Y4 : Hid (W13.heap[w5.heap.size + 1]? = some (.cells #[.slice xb0 xb1 xb2, .slice xb3 xb4 xb5] 29 (0, 0))) := Lib.hid ((HBB.out.block _ (lt_of_block X4.out)).trans X4.out)
  have Y5 : Hid (W13.heap[w6.heap.size]? = some (.cells #[.slice xc0 xc1 xc2, .slice xc3 xc4 xc5] 29 (0, 0))) := Lib.hid ((HBB.out.block _ (lt_of_block X5.out)).trans X5.out)
  have Y6 : Hid (W13.heap[w6.heap.size + 1]? = some (.cells #[.slice xd0 xd1 xd2, .slice xd3 xd4 xd5] 29 (0, 0))) := Lib.hid ((HBB.out.block _ (lt_of_block X6.out)).trans X6.out)
  have S1 : Hid (RopeAt W13 0 (.agg #[.slice x10 x11 x12, .slice x13 x14 x15]) P0) := Lib.hid (R1.out.grown HBB.out)
  have S3 : Hid (RopeAt W13 0 (.agg #[.slice xa0 xa1 xa2, .slice xa3 xa4 xa5]) []) := Lib.hid (R3.out.grown HBB.out)
  have S4 : Hid (RopeAt W13 0 (.agg #[.slice xb0 xb1 xb2, .slice xb3 xb4 xb5]) P0) := Lib.hid (R4.out.grown HBB.out)
  have S5 : Hid (RopeAt W13 0 (.agg #[.slice xc0 xc1 xc2, .slice xc3 xc4 xc5]) P0) := Lib.hid (R5.out.grown HBB.out)
  have S6 : Hid (RopeAt W13 0 (.agg #[.slice xd0 xd1 xd2, .slice xd3 xd4 xd5]) []) := Lib.hid (R6.out.grown HBB.out)
  have Y8 : Hid (W13.heap[w13.heap.size]? = some (.cells #[.slice none 0 0, .slice none 0 0] 29 (0, 0))) := Lib.hid (by rw [hW13]; exact ((below_alloc _ _).block _ (by simp)).trans (heap_alloc_new _ _))
  have Y9 : Hid (W13.heap[w13.heap.size + 1]? = some (.cells #[.slice none 0 0, .slice none 0 0] 29 (0, 0))) := Lib.hid (by rw [hW13]; exact (by have := heap_alloc_new (w13.alloc (.cells #[.slice none 0 0, .slice none 0 0] 29)) (.cells #[.slice none 0 0, .slice none 0 0] 29); simpa using this))
  have HTn : Hid (Below w.heap.size w W13) := Lib.hid (HT.out.trans (HBB.out.mono HT.out.size))
  have HWzz : W13.heap.size = w13.heap.size + 1 + 1 := by rw [hW13]; simp
  rw [← hW13]
  clear hW13 HC HT HBn HBB X1 X3 X4 X5 X6 R1 R3 R4 R5 R6
  have X1 := Y1
  have X3 := Y3
  have X4 := Y4
  have X5 := Y5
  have X6 := Y6
  have X8 := Y8
  have X9 := Y9
  have R1 := S1
  have R3 := S3
  have R4 := S4
  have R5 := S5
  have R6 := S6
  have HT := HTn
  clear HTn Y1 Y3 Y4 Y5 Y6 Y8 Y9 S1 S3 S4 S5 S6
  have HC : Hid (Below W13.heap.size W13 W13) := Lib.hid (Below.refl _ _)
  clear HWzz
  clear X8 X9
  refine (is_any (Ps := []) (R3.out.grown HC.out) (SrcV.nil _)).mono ?_
  rintro e w14 ⟨rfl, hb⟩
  have HC2 : Hid (Below W13.heap.size W13 w14) := Lib.hid (HC.out.trans ((hb).mono HC.out.size))
  clear HC
  have HC := HC2
  clear HC2
  clear hb
  have k10w14 : w14.cell? ⟨w1.heap.size, 0, none⟩ = some (.slice x10 x11 x12) := cells_cell ((HC.out.block _ (lt_of_block X1.out)).trans X1.out) rfl
  have z10w14 : w14.frozen? ⟨w1.heap.size, 0, none⟩ = false := cells_free ((HC.out.block _ (lt_of_block X1.out)).trans X1.out) _
  have k11w14 : w14.cell? ⟨w1.heap.size, 1, none⟩ = some (.slice x13 x14 x15) := cells_cell ((HC.out.block _ (lt_of_block X1.out)).trans X1.out) rfl
  have z11w14 : w14.frozen? ⟨w1.heap.size, 1, none⟩ = false := cells_free ((HC.out.block _ (lt_of_block X1.out)).trans X1.out) _
  have l1w14 : w1.heap.size < w14.heap.size := lt_of_block ((HC.out.block _ (lt_of_block X1.out)).trans X1.out)
  have k30w14 : w14.cell? ⟨w5.heap.size, 0, none⟩ = some (.slice xa0 xa1 xa2) := cells_cell ((HC.out.block _ (lt_of_block X3.out)).trans X3.out) rfl
  have z30w14 : w14.frozen? ⟨w5.heap.size, 0, none⟩ = false := cells_free ((HC.out.block _ (lt_of_block X3.out)).trans X3.out) _
  have k31w14 : w14.cell? ⟨w5.heap.size, 1, none⟩ = some (.slice xa3 xa4 xa5) := cells_cell ((HC.out.block _ (lt_of_block X3.out)).trans X3.out) rfl
  have z31w14 : w14.frozen? ⟨w5.heap.size, 1, none⟩ = false := cells_free ((HC.out.block _ (lt_of_block X3.out)).trans X3.out) _
  have l3w14 : w5.heap.size < w14.heap.size := lt_of_block ((HC.out.block _ (lt_of_block X3.out)).trans X3.out)
  have k40w14 : w14.cell? ⟨w5.heap.size + 1, 0, none⟩ = some (.slice xb0 xb1 xb2) := cells_cell ((HC.out.block _ (lt_of_block X4.out)).trans X4.out) rfl
  have z40w14 : w14.frozen? ⟨w5.heap.size + 1, 0, none⟩ = false := cells_free ((HC.out.block _ (lt_of_block X4.out)).trans X4.out) _
  have k41w14 : w14.cell? ⟨w5.heap.size + 1, 1, none⟩ = some (.slice xb3 xb4 xb5) := cells_cell ((HC.out.block _ (lt_of_block X4.out)).trans X4.out) rfl
  have z41w14 : w14.frozen? ⟨w5.heap.size + 1, 1, none⟩ = false := cells_free ((HC.out.block _ (lt_of_block X4.out)).trans X4.out) _
  have l4w14 : w5.heap.size + 1 < w14.heap.size := lt_of_block ((HC.out.block _ (lt_of_block X4.out)).trans X4.out)
  have k50w14 : w14.cell? ⟨w6.heap.size, 0, none⟩ = some (.slice xc0 xc1 xc2) := cells_cell ((HC.out.block _ (lt_of_block X5.out)).trans X5.out) rfl
  have z50w14 : w14.frozen? ⟨w6.heap.size, 0, none⟩ = false := cells_free ((HC.out.block _ (lt_of_block X5.out)).trans X5.out) _
  have k51w14 : w14.cell? ⟨w6.heap.size, 1, none⟩ = some (.slice xc3 xc4 xc5) := cells_cell ((HC.out.block _ (lt_of_block X5.out)).trans X5.out) rfl
  have z51w14 : w14.frozen? ⟨w6.heap.size, 1, none⟩ = false := cells_free ((HC.out.block _ (lt_of_block X5.out)).trans X5.out) _
  have l5w14 : w6.heap.size < w14.heap.size := lt_of_block ((HC.out.block _ (lt_of_block X5.out)).trans X5.out)
  have k60w14 : w14.cell? ⟨w6.heap.size + 1, 0, none⟩ = some (.slice xd0 xd1 xd2) := cells_cell ((HC.out.block _ (lt_of_block X6.out)).trans X6.out) rfl
  have z60w14 : w14.frozen? ⟨w6.heap.size + 1, 0, none⟩ = false := cells_free ((HC.out.block _ (lt_of_block X6.out)).trans X6.out) _
  have k61w14 : w14.cell? ⟨w6.heap.size + 1, 1, none⟩ = some (.slice xd3 xd4 xd5) := cells_cell ((HC.out.block _ (lt_of_block X6.out)).trans X6.out) rfl
  have z61w14 : w14.frozen? ⟨w6.heap.size + 1, 1, none⟩ = false := cells_free ((HC.out.block _ (lt_of_block X6.out)).trans X6.out) _
  have l6w14 : w6.heap.size + 1 < w14.heap.size := lt_of_block ((HC.out.block _ (lt_of_block X6.out)).trans X6.out)
  go_wp2_with (go_at_call 24; fail)
  refine (is_any (Ps := [[97, 98], [99, 100, 101]]) (R4.out.grown (HC.out.trans ((below_alloc _ _).mono HC.out.size))) (row_made w14 9 (([[97, 98], [99, 100, 101]] : Parts).map encS) (by decide)).src).mono ?_
  rintro e w15 ⟨rfl, hb⟩
  have HC2 : Hid (Below W13.heap.size W13 w15) := Lib.hid (HC.out.trans (((below_alloc _ _).trans (hb.mono (by simp))).mono HC.out.size))
  clear HC
  have HC := HC2
  clear HC2
  clear hb
  have k10w15 : w15.cell? ⟨w1.heap.size, 0, none⟩ = some (.slice x10 x11 x12) := cells_cell ((HC.out.block _ (lt_of_block X1.out)).trans X1.out) rfl
  have z10w15 : w15.frozen? ⟨w1.heap.size, 0, none⟩ = false := cells_free ((HC.out.block _ (lt_of_block X1.out)).trans X1.out) _
  have k11w15 : w15.cell? ⟨w1.heap.size, 1, none⟩ = some (.slice x13 x14 x15) := cells_cell ((HC.out.block _ (lt_of_block X1.out)).trans X1.out) rfl
  have z11w15 : w15.frozen? ⟨w1.heap.size, 1, none⟩ = false := cells_free ((HC.out.block _ (lt_of_block X1.out)).trans X1.out) _
  have l1w15 : w1.heap.size < w15.heap.size := lt_of_block ((HC.out.block _ (lt_of_block X1.out)).trans X1.out)
  have k30w15 : w15.cell? ⟨w5.heap.size, 0, none⟩ = some (.slice xa0 xa1 xa2) := cells_cell ((HC.out.block _ (lt_of_block X3.out)).trans X3.out) rfl
  have z30w15 : w15.frozen? ⟨w5.heap.size, 0, none⟩ = false := cells_free ((HC.out.block _ (lt_of_block X3.out)).trans X3.out) _
  have k31w15 : w15.cell? ⟨w5.heap.size, 1, none⟩ = some (.slice xa3 xa4 xa5) := cells_cell ((HC.out.block _ (lt_of_block X3.out)).trans X3.out) rfl
  have z31w15 : w15.frozen? ⟨w5.heap.size, 1, none⟩ = false := cells_free ((HC.out.block _ (lt_of_block X3.out)).trans X3.out) _
  have l3w15 : w5.heap.size < w15.heap.size := lt_of_block ((HC.out.block _ (lt_of_block X3.out)).trans X3.out)
  have k40w15 : w15.cell? ⟨w5.heap.size + 1, 0, none⟩ = some (.slice xb0 xb1 xb2) := cells_cell ((HC.out.block _ (lt_of_block X4.out)).trans X4.out) rfl
  have z40w15 : w15.frozen? ⟨w5.heap.size + 1, 0, none⟩ = false := cells_free ((HC.out.block _ (lt_of_block X4.out)).trans X4.out) _
  have k41w15 : w15.cell? ⟨w5.heap.size + 1, 1, none⟩ = some (.slice xb3 xb4 xb5) := cells_cell ((HC.out.block _ (lt_of_block X4.out)).trans X4.out) rfl
  have z41w15 : w15.frozen? ⟨w5.heap.size + 1, 1, none⟩ = false := cells_free ((HC.out.block _ (lt_of_block X4.out)).trans X4.out) _
  have l4w15 : w5.heap.size + 1 < w15.heap.size := lt_of_block ((HC.out.block _ (lt_of_block X4.out)).trans X4.out)
  have k50w15 : w15.cell? ⟨w6.heap.size, 0, none⟩ = some (.slice xc0 xc1 xc2) := cells_cell ((HC.out.block _ (lt_of_block X5.out)).trans X5.out) rfl
  have z50w15 : w15.frozen? ⟨w6.heap.size, 0, none⟩ = false := cells_free ((HC.out.block _ (lt_of_block X5.out)).trans X5.out) _
  have k51w15 : w15.cell? ⟨w6.heap.size, 1, none⟩ = some (.slice xc3 xc4 xc5) := cells_cell ((HC.out.block _ (lt_of_block X5.out)).trans X5.out) rfl
  have z51w15 : w15.frozen? ⟨w6.heap.size, 1, none⟩ = false := cells_free ((HC.out.block _ (lt_of_block X5.out)).trans X5.out) _
  have l5w15 : w6.heap.size < w15.heap.size := lt_of_block ((HC.out.block _ (lt_of_block X5.out)).trans X5.out)
  have k60w15 : w15.cell? ⟨w6.heap.size + 1, 0, none⟩ = some (.slice xd0 xd1 xd2) := cells_cell ((HC.out.block _ (lt_of_block X6.out)).trans X6.out) rfl
  have z60w15 : w15.frozen? ⟨w6.heap.size + 1, 0, none⟩ = false := cells_free ((HC.out.block _ (lt_of_block X6.out)).trans X6.out) _
  have k61w15 : w15.cell? ⟨w6.heap.size + 1, 1, none⟩ = some (.slice xd3 xd4 xd5) := cells_cell ((HC.out.block _ (lt_of_block X6.out)).trans X6.out) rfl
  have z61w15 : w15.frozen? ⟨w6.heap.size + 1, 1, none⟩ = false := cells_free ((HC.out.block _ (lt_of_block X6.out)).trans X6.out) _
  have l6w15 : w6.heap.size + 1 < w15.heap.size := lt_of_block ((HC.out.block _ (lt_of_block X6.out)).trans X6.out)
  go_wp2_with (go_at_call 24; fail)
  refine (is_any (Ps := [[97, 98], [99, 100, 101]]) (R5.out.grown (HC.out.trans ((below_alloc _ _).mono HC.out.size))) (row_made w15 9 (([[97, 98], [99, 100, 101]] : Parts).map encS) (by decide)).src).mono ?_
  rintro e w16 ⟨rfl, hb⟩
  have HC2 : Hid (Below W13.heap.size W13 w16) := Lib.hid (HC.out.trans (((below_alloc _ _).trans (hb.mono (by simp))).mono HC.out.size))
  clear HC
  have HC := HC2
  clear HC2
  clear hb
  have k10w16 : w16.cell? ⟨w1.heap.size, 0, none⟩ = some (.slice x10 x11 x12) := cells_cell ((HC.out.block _ (lt_of_block X1.out)).trans X1.out) rfl
  have z10w16 : w16.frozen? ⟨w1.heap.size, 0, none⟩ = false := cells_free ((HC.out.block _ (lt_of_block X1.out)).trans X1.out) _
  have k11w16 : w16.cell? ⟨w1.heap.size, 1, none⟩ = some (.slice x13 x14 x15) := cells_cell ((HC.out.block _ (lt_of_block X1.out)).trans X1.out) rfl
  have z11w16 : w16.frozen? ⟨w1.heap.size, 1, none⟩ = false := cells_free ((HC.out.block _ (lt_of_block X1.out)).trans X1.out) _
  have l1w16 : w1.heap.size < w16.heap.size := lt_of_block ((HC.out.block _ (lt_of_block X1.out)).trans X1.out)
  have k30w16 : w16.cell? ⟨w5.heap.size, 0, none⟩ = some (.slice xa0 xa1 xa2) := cells_cell ((HC.out.block _ (lt_of_block X3.out)).trans X3.out) rfl
  have z30w16 : w16.frozen? ⟨w5.heap.size, 0, none⟩ = false := cells_free ((HC.out.block _ (lt_of_block X3.out)).trans X3.out) _
  have k31w16 : w16.cell? ⟨w5.heap.size, 1, none⟩ = some (.slice xa3 xa4 xa5) := cells_cell ((HC.out.block _ (lt_of_block X3.out)).trans X3.out) rfl
  have z31w16 : w16.frozen? ⟨w5.heap.size, 1, none⟩ = false := cells_free ((HC.out.block _ (lt_of_block X3.out)).trans X3.out) _
  have l3w16 : w5.heap.size < w16.heap.size := lt_of_block ((HC.out.block _ (lt_of_block X3.out)).trans X3.out)
  have k40w16 : w16.cell? ⟨w5.heap.size + 1, 0, none⟩ = some (.slice xb0 xb1 xb2) := cells_cell ((HC.out.block _ (lt_of_block X4.out)).trans X4.out) rfl
  have z40w16 : w16.frozen? ⟨w5.heap.size + 1, 0, none⟩ = false := cells_free ((HC.out.block _ (lt_of_block X4.out)).trans X4.out) _
  have k41w16 : w16.cell? ⟨w5.heap.size + 1, 1, none⟩ = some (.slice xb3 xb4 xb5) := cells_cell ((HC.out.block _ (lt_of_block X4.out)).trans X4.out) rfl
  have z41w16 : w16.frozen? ⟨w5.heap.size + 1, 1, none⟩ = false := cells_free ((HC.out.block _ (lt_of_block X4.out)).trans X4.out) _
  have l4w16 : w5.heap.size + 1 < w16.heap.size := lt_of_block ((HC.out.block _ (lt_of_block X4.out)).trans X4.out)
  have k50w16 : w16.cell? ⟨w6.heap.size, 0, none⟩ = some (.slice xc0 xc1 xc2) := cells_cell ((HC.out.block _ (lt_of_block X5.out)).trans X5.out) rfl
  have z50w16 : w16.frozen? ⟨w6.heap.size, 0, none⟩ = false := cells_free ((HC.out.block _ (lt_of_block X5.out)).trans X5.out) _
  have k51w16 : w16.cell? ⟨w6.heap.size, 1, none⟩ = some (.slice xc3 xc4 xc5) := cells_cell ((HC.out.block _ (lt_of_block X5.out)).trans X5.out) rfl
  have z51w16 : w16.frozen? ⟨w6.heap.size, 1, none⟩ = false := cells_free ((HC.out.block _ (lt_of_block X5.out)).trans X5.out) _
  have l5w16 : w6.heap.size < w16.heap.size := lt_of_block ((HC.out.block _ (lt_of_block X5.out)).trans X5.out)
  have k60w16 : w16.cell? ⟨w6.heap.size + 1, 0, none⟩ = some (.slice xd0 xd1 xd2) := cells_cell ((HC.out.block _ (lt_of_block X6.out)).trans X6.out) rfl
  have z60w16 : w16.frozen? ⟨w6.heap.size + 1, 0, none⟩ = false := cells_free ((HC.out.block _ (lt_of_block X6.out)).trans X6.out) _
  have k61w16 : w16.cell? ⟨w6.heap.size + 1, 1, none⟩ = some (.slice xd3 xd4 xd5) := cells_cell ((HC.out.block _ (lt_of_block X6.out)).trans X6.out) rfl
  have z61w16 : w16.frozen? ⟨w6.heap.size + 1, 1, none⟩ = false := cells_free ((HC.out.block _ (lt_of_block X6.out)).trans X6.out) _
  have l6w16 : w6.heap.size + 1 < w16.heap.size := lt_of_block ((HC.out.block _ (lt_of_block X6.out)).trans X6.out)
  go_wp2_with (go_at_call 24; fail)
  refine (is_any (Ps := []) (R6.out.grown HC.out) (SrcV.nil _)).mono ?_
  rintro e w17 ⟨rfl, hb⟩
  have HC2 : Hid (Below W13.heap.size W13 w17) := Lib.hid (HC.out.trans ((hb).mono HC.out.size))
  clear HC
  have HC := HC2
  clear HC2
  clear hb
  have k10w17 : w17.cell? ⟨w1.heap.size, 0, none⟩ = some (.slice x10 x11 x12) := cells_cell ((HC.out.block _ (lt_of_block X1.out)).trans X1.out) rfl
  have z10w17 : w17.frozen? ⟨w1.heap.size, 0, none⟩ = false := cells_free ((HC.out.block _ (lt_of_block X1.out)).trans X1.out) _
  have k11w17 : w17.cell? ⟨w1.heap.size, 1, none⟩ = some (.slice x13 x14 x15) := cells_cell ((HC.out.block _ (lt_of_block X1.out)).trans X1.out) rfl
  have z11w17 : w17.frozen? ⟨w1.heap.size, 1, none⟩ = false := cells_free ((HC.out.block _ (lt_of_block X1.out)).trans X1.out) _
  have l1w17 : w1.heap.size < w17.heap.size := lt_of_block ((HC.out.block _ (lt_of_block X1.out)).trans X1.out)
  go_wp2_with (go_at_call 14; fail)
  refine (made_is [[97, 98, 99, 100, 101]] (row_made w17 9 (([[97, 98, 99, 100, 101]] : Parts).map encS) (by decide)).src (by decide) (by decide) [[97, 98, 99, 100, 101]] (by decide) (by decide)).mono ?_
  rintro e w18 ⟨vx, rfl, Qx, hb⟩
  have HC2 : Hid (Below W13.heap.size W13 w18) := Lib.hid (HC.out.trans (((below_alloc _ _).trans (hb.mono (by simp))).mono HC.out.size))
  clear HC
  have HC := HC2
  clear HC2
  clear hb
  obtain ⟨xx0, xx1, xx2, xx3, xx4, xx5, hvx⟩ := Qx.shape
  subst hvx
  have Qx := Lib.hid (Qx.lower (Nat.zero_le _))
  have k10w18 : w18.cell? ⟨w1.heap.size, 0, none⟩ = some (.slice x10 x11 x12) := cells_cell ((HC.out.block _ (lt_of_block X1.out)).trans X1.out) rfl
  have z10w18 : w18.frozen? ⟨w1.heap.size, 0, none⟩ = false := cells_free ((HC.out.block _ (lt_of_block X1.out)).trans X1.out) _
  have k11w18 : w18.cell? ⟨w1.heap.size, 1, none⟩ = some (.slice x13 x14 x15) := cells_cell ((HC.out.block _ (lt_of_block X1.out)).trans X1.out) rfl
  have z11w18 : w18.frozen? ⟨w1.heap.size, 1, none⟩ = false := cells_free ((HC.out.block _ (lt_of_block X1.out)).trans X1.out) _
  have l1w18 : w1.heap.size < w18.heap.size := lt_of_block ((HC.out.block _ (lt_of_block X1.out)).trans X1.out)
  go_wp2_with (go_at_call 14; fail)
  obtain ⟨W18, hW18⟩ : ∃ x, x = w18.alloc (.cells #[.slice xx0 xx1 xx2, .slice xx3 xx4 xx5] 29) := ⟨_, rfl⟩
  have HBn : Below w18.heap.size w18 W18 := by rw [hW18]; exact below_alloc _ _
  have HBB : Hid (Below W13.heap.size W13 W18) := Lib.hid (HC.out.trans (HBn.mono HC.out.size))
  have Y1 : Hid (W18.heap[w1.heap.size]? = some (.cells #[.slice x10 x11 x12, .slice x13 x14 x15] 29 (0, 0))) := Lib.hid ((HBB.out.block _ (lt_of_block X1.out)).trans X1.out)
  have Y3 : Hid (W18.heap[w5.heap.size]? = some (.cells #[.slice xa0 xa1 xa2, .slice xa3 xa4 xa5] 29 (0, 0))) := Lib.hid ((HBB.out.block _ (lt_of_block X3.out)).trans X3.out)
  have Y4 : Hid (W18.heap[w5.heap.size + 1]? = some (.cells #[.slice xb0 xb1 xb2, .slice xb3 xb4 xb5] 29 (0, 0))) := Lib.hid ((HBB.out.block _ (lt_of_block X4.out)).trans X4.out)
  have Y5 : Hid (W18.heap[w6.heap.size]? = some (.cells #[.slice xc0 xc1 xc2, .slice xc3 xc4 xc5] 29 (0, 0))) := Lib.hid ((HBB.out.block _ (lt_of_block X5.out)).trans X5.out)
  have Y6 : Hid (W18.heap[w6.heap.size + 1]? = some (.cells #[.slice xd0 xd1 xd2, .slice xd3 xd4 xd5] 29 (0, 0))) := Lib.hid ((HBB.out.block _ (lt_of_block X6.out)).trans X6.out)
  have S1 : Hid (RopeAt W18 0 (.agg #[.slice x10 x11 x12, .slice x13 x14 x15]) P0) := Lib.hid (R1.out.grown HBB.out)
  have S3 : Hid (RopeAt W18 0 (.agg #[.slice xa0 xa1 xa2, .slice xa3 xa4 xa5]) []) := Lib.hid (R3.out.grown HBB.out)
  have S4 : Hid (RopeAt W18 0 (.agg #[.slice xb0 xb1 xb2, .slice xb3 xb4 xb5]) P0) := Lib.hid (R4.out.grown HBB.out)
  have S5 : Hid (RopeAt W18 0 (.agg #[.slice xc0 xc1 xc2, .slice xc3 xc4 xc5]) P0) := Lib.hid (R5.out.grown HBB.out)
  have S6 : Hid (RopeAt W18 0 (.agg #[.slice xd0 xd1 xd2, .slice xd3 xd4 xd5]) []) := Lib.hid (R6.out.grown HBB.out)
  have Yx : Hid (W18.heap[w18.heap.size]? = some (.cells #[.slice xx0 xx1 xx2, .slice xx3 xx4 xx5] 29 (0, 0))) := Lib.hid (by rw [hW18]; exact heap_alloc_new _ _)
  have Sx : Hid (RopeAt W18 0 (.agg #[.slice xx0 xx1 xx2, .slice xx3 xx4 xx5]) [[97, 98, 99, 100, 101]]) := Lib.hid ((Qx.out).grown HBn)
  have HTn : Hid (Below w.heap.size w W18) := Lib.hid (HT.out.trans (HBB.out.mono HT.out.size))
  have HWzz : W18.heap.size = w18.heap.size + 1 := by rw [hW18]; simp
  rw [← hW18]
  clear hW18 HC HT HBn HBB X1 X3 X4 X5 X6 R1 R3 R4 R5 R6
  have X1 := Y1
  have X3 := Y3
  have X4 := Y4
  have X5 := Y5
  have X6 := Y6
  have Xx := Yx
  have R1 := S1
  have R3 := S3
  have R4 := S4
  have R5 := S5
  have R6 := S6
  have Rx := Sx
  have HT := HTn
  clear HTn Y1 Y3 Y4 Y5 Y6 Yx S1 S3 S4 S5 S6 Sx
  have HC : Hid (Below W18.heap.size W18 W18) := Lib.hid (Below.refl _ _)
  have HWz := Lib.hid HWzz
  clear HWzz
  refine (made_is [[97, 98, 99, 100, 102]] (by rw [← HWz.out]; exact (row_made W18 9 (([[97, 98, 99, 100, 102]] : Parts).map encS) (by decide)).src) (by decide) (by decide) [[97, 98, 99, 100, 102]] (by decide) (by decide)).mono ?_
  rintro e w19 ⟨vy, rfl, Qy, hb⟩
  have HC2 : Hid (Below W18.heap.size W18 w19) := Lib.hid (HC.out.trans (((below_alloc _ _).trans (hb.mono (by simp))).mono HC.out.size))
  clear HC
  have HC := HC2
  clear HC2
  clear hb
  obtain ⟨xy0, xy1, xy2, xy3, xy4, xy5, hvy⟩ := Qy.shape
  subst hvy
  have Qy := Lib.hid (Qy.lower (Nat.zero_le _))
  clear HWz
  have k10w19 : w19.cell? ⟨w1.heap.size, 0, none⟩ = some (.slice x10 x11 x12) := cells_cell ((HC.out.block _ (lt_of_block X1.out)).trans X1.out) rfl
  have z10w19 : w19.frozen? ⟨w1.heap.size, 0, none⟩ = false := cells_free ((HC.out.block _ (lt_of_block X1.out)).trans X1.out) _
  have k11w19 : w19.cell? ⟨w1.heap.size, 1, none⟩ = some (.slice x13 x14 x15) := cells_cell ((HC.out.block _ (lt_of_block X1.out)).trans X1.out) rfl
  have z11w19 : w19.frozen? ⟨w1.heap.size, 1, none⟩ = false := cells_free ((HC.out.block _ (lt_of_block X1.out)).trans X1.out) _
  have l1w19 : w1.heap.size < w19.heap.size := lt_of_block ((HC.out.block _ (lt_of_block X1.out)).trans X1.out)
  have kx0w19 : w19.cell? ⟨w18.heap.size, 0, none⟩ = some (.slice xx0 xx1 xx2) := cells_cell ((HC.out.block _ (lt_of_block Xx.out)).trans Xx.out) rfl
  have zx0w19 : w19.frozen? ⟨w18.heap.size, 0, none⟩ = false := cells_free ((HC.out.block _ (lt_of_block Xx.out)).trans Xx.out) _
  have kx1w19 : w19.cell? ⟨w18.heap.size, 1, none⟩ = some (.slice xx3 xx4 xx5) := cells_cell ((HC.out.block _ (lt_of_block Xx.out)).trans Xx.out) rfl
  have zx1w19 : w19.frozen? ⟨w18.heap.size, 1, none⟩ = false := cells_free ((HC.out.block _ (lt_of_block Xx.out)).trans Xx.out) _
  have lxw19 : w18.heap.size < w19.heap.size := lt_of_block ((HC.out.block _ (lt_of_block Xx.out)).trans Xx.out)
  go_wp2_with (go_at_call 18; fail)
  obtain ⟨W19, hW19⟩ : ∃ x, x = w19.alloc (.cells #[.slice xy0 xy1 xy2, .slice xy3 xy4 xy5] 29) := ⟨_, rfl⟩
  have HBn : Below w19.heap.size w19 W19 := by rw [hW19]; exact below_alloc _ _
  have HBB : Hid (Below W18.heap.size W18 W19) := Lib.hid (HC.out.trans (HBn.mono HC.out.size))
  have Y1 : Hid (W19.heap[w1.heap.size]? = some (.cells #[.slice x10 x11 x12, .slice x13 x14 x15] 29 (0, 0))) := Lib.hid ((HBB.out.block _ (lt_of_block X1.out)).trans X1.out)
  have Y3 : Hid (W19.heap[w5.heap.size]? = some (.cells #[.slice xa0 xa1 xa2, .slice xa3 xa4 xa5] 29 (0, 0))) := Lib.hid ((HBB.out.block _ (lt_of_block X3.out)).trans X3.out)
  have Y4 : Hid (W19.heap[w5.heap.size + 1]? = some (.cells #[.slice xb0 xb1 xb2, .slice xb3 xb4 xb5] 29 (0, 0))) := Lib.hid ((HBB.out.block _ (lt_of_block X4.out)).trans X4.out)
  have Y5 : Hid (W19.heap[w6.heap.size]? = some (.cells #[.slice xc0 xc1 xc2, .slice xc3 xc4 xc5] 29 (0, 0))) := Lib.hid ((HBB.out.block _ (lt_of_block X5.out)).trans X5.out)
  have Y6 : Hid (W19.heap[w6.heap.size + 1]? = some (.cells #[.slice xd0 xd1 xd2, .slice xd3 xd4 xd5] 29 (0, 0))) := Lib.hid ((HBB.out.block _ (lt_of_block X6.out)).trans X6.out)
  have Yx : Hid (W19.heap[w18.heap.size]? = some (.cells #[.slice xx0 xx1 xx2, .slice xx3 xx4 xx5] 29 (0, 0))) := Lib.hid ((HBB.out.block _ (lt_of_block Xx.out)).trans Xx.out)
  have S1 : Hid (RopeAt W19 0 (.agg #[.slice x10 x11 x12, .slice x13 x14 x15]) P0) := Lib.hid (R1.out.grown HBB.out)
  have S3 : Hid (RopeAt W19 0 (.agg #[.slice xa0 xa1 xa2, .slice xa3 xa4 xa5]) []) := Lib.hid (R3.out.grown HBB.out)
  have S4 : Hid (RopeAt W19 0 (.agg #[.slice xb0 xb1 xb2, .slice xb3 xb4 xb5]) P0) := Lib.hid (R4.out.grown HBB.out)
  have S5 : Hid (RopeAt W19 0 (.agg #[.slice xc0 xc1 xc2, .slice xc3 xc4 xc5]) P0) := Lib.hid (R5.out.grown HBB.out)
  have S6 : Hid (RopeAt W19 0 (.agg #[.slice xd0 xd1 xd2, .slice xd3 xd4 xd5]) []) := Lib.hid (R6.out.grown HBB.out)
  have Sx : Hid (RopeAt W19 0 (.agg #[.slice xx0 xx1 xx2, .slice xx3 xx4 xx5]) [[97, 98, 99, 100, 101]]) := Lib.hid (Rx.out.grown HBB.out)
  have Yy : Hid (W19.heap[w19.heap.size]? = some (.cells #[.slice xy0 xy1 xy2, .slice xy3 xy4 xy5] 29 (0, 0))) := Lib.hid (by rw [hW19]; exact heap_alloc_new _ _)
  have Sy : Hid (RopeAt W19 0 (.agg #[.slice xy0 xy1 xy2, .slice xy3 xy4 xy5]) [[97, 98, 99, 100, 102]]) := Lib.hid ((Qy.out).grown HBn)
  have HTn : Hid (Below w.heap.size w W19) := Lib.hid (HT.out.trans (HBB.out.mono HT.out.size))
  have HWzz : W19.heap.size = w19.heap.size + 1 := by rw [hW19]; simp
  rw [← hW19]
  clear hW19 HC HT HBn HBB X1 X3 X4 X5 X6 Xx R1 R3 R4 R5 R6 Rx
  have X1 := Y1
  have X3 := Y3
  have X4 := Y4
  have X5 := Y5
  have X6 := Y6
  have Xx := Yx
  have Xy := Yy
  have R1 := S1
  have R3 := S3
  have R4 := S4
  have R5 := S5
  have R6 := S6
  have Rx := Sx
  have Ry := Sy
  have HT := HTn
  clear HTn Y1 Y3 Y4 Y5 Y6 Yx Yy S1 S3 S4 S5 S6 Sx Sy
  have HC : Hid (Below W19.heap.size W19 W19) := Lib.hid (Below.refl _ _)
  clear HWzz
  refine (equal_is (R1.out.grown HC.out) (Rx.out.grown HC.out) true (by decide)).mono ?_
  rintro e w20 ⟨rfl, hb⟩
  have HC2 : Hid (Below W19.heap.size W19 w20) := Lib.hid (HC.out.trans ((hb).mono HC.out.size))
  clear HC
  have HC := HC2
  clear HC2
  clear hb
  have k10w20 : w20.cell? ⟨w1.heap.size, 0, none⟩ = some (.slice x10 x11 x12) := cells_cell ((HC.out.block _ (lt_of_block X1.out)).trans X1.out) rfl
  have z10w20 : w20.frozen? ⟨w1.heap.size, 0, none⟩ = false := cells_free ((HC.out.block _ (lt_of_block X1.out)).trans X1.out) _
  have k11w20 : w20.cell? ⟨w1.heap.size, 1, none⟩ = some (.slice x13 x14 x15) := cells_cell ((HC.out.block _ (lt_of_block X1.out)).trans X1.out) rfl
  have z11w20 : w20.frozen? ⟨w1.heap.size, 1, none⟩ = false := cells_free ((HC.out.block _ (lt_of_block X1.out)).trans X1.out) _
  have l1w20 : w1.heap.size < w20.heap.size := lt_of_block ((HC.out.block _ (lt_of_block X1.out)).trans X1.out)
  have ky0w20 : w20.cell? ⟨w19.heap.size, 0, none⟩ = some (.slice xy0 xy1 xy2) := cells_cell ((HC.out.block _ (lt_of_block Xy.out)).trans Xy.out) rfl
  have zy0w20 : w20.frozen? ⟨w19.heap.size, 0, none⟩ = false := cells_free ((HC.out.block _ (lt_of_block Xy.out)).trans Xy.out) _
  have ky1w20 : w20.cell? ⟨w19.heap.size, 1, none⟩ = some (.slice xy3 xy4 xy5) := cells_cell ((HC.out.block _ (lt_of_block Xy.out)).trans Xy.out) rfl
  have zy1w20 : w20.frozen? ⟨w19.heap.size, 1, none⟩ = false := cells_free ((HC.out.block _ (lt_of_block Xy.out)).trans Xy.out) _
  have lyw20 : w19.heap.size < w20.heap.size := lt_of_block ((HC.out.block _ (lt_of_block Xy.out)).trans Xy.out)
  go_wp2_with (go_at_call 18; fail)
  refine (equal_is (R1.out.grown HC.out) (Ry.out.grown HC.out) false (by decide)).mono ?_
  rintro e w21 ⟨rfl, hb⟩
  have HC2 : Hid (Below W19.heap.size W19 w21) := Lib.hid (HC.out.trans ((hb).mono HC.out.size))
  clear HC
  have HC := HC2
  clear HC2
  clear hb
  go_wp2_with fail
  go_ret
  exact ⟨rfl, HT.out.trans (HC.out.mono HT.out.size)⟩
end Go.Proofs.Ytkdbkamjaaehfaa
