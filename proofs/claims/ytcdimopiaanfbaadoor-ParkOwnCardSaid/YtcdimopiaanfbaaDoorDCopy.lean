/- Copy. -/
import Derived.Test.YtcdimopiaanfbaaDoorDPush
import Derived.Shelf.SlMaps.Clone
namespace Go.Proofs.YtcdimopiaanfbaaDoor
open Go.RowKit Go.Sort Go.MapKept
set_option linter.unusedVariables false
set_option linter.unusedSimpArgs false

set_option maxRecDepth 100000 in
set_option maxHeartbeats 1600000 in
theorem mclone_any {w : World} {m n : Nat} {f : Nat → Option Lk} (h : LinkMap w m n f) : Calls Tryd.prog 76 #[.map (some m)] w fun e w' => e = .returned (.map (some w.heap.size)) ∧ LinkMap w' w.heap.size n f ∧ Grn w w' ∧ w'.heap.size = w.heap.size + 1 := by
  obtain ⟨M, es, clock, hb, h1, h2, h3, h4⟩ := h
  have hq := fun w => Go.Proofs.run_eql_map_nil_sl (P := Tryd.prog) w 126 _ _ (some m) Tryd.underlying126
  go_enter Tryd.func76, Tryd.ntmps76
  go_wp2
  rw [run_callFunc_extern Tryd.func78 (by kernel_rfl) (by kernel_rfl) (by kernel_rfl) (e := Extern.MapsClone.clone) (by kernel_rfl), Go.Proofs.run_maps_clone_sl w 126 hb]
  simp only [Result.andThen]
  rw [Oper.upon_value]
  go_wp2
  rw [Go.Proofs.run_typeAssert_map_sl _ 126 20 _ _ _ Tryd.underlying126]
  simp only [Result.andThen]
  rw [Oper.upon_value]
  go_wp2
  go_ret
  exact ⟨rfl, ⟨M, es, clock, heap_alloc_new _ _, h1, h2, h3, h4⟩, (Grn.refl w).alloc _, by simp⟩

theorem fiCopy_nil {w : World} {v : Value} (h : NoQ w v) : Calls Tryd.prog 58 #[v] w fun e w' => e = .returned (.pointer none) ∧ w' = w := by
  have hu := Lib.hid (fiUsable_no h)
  obtain ⟨a, rfl⟩ := h.form
  clear h
  go_enter Tryd.func58, Tryd.ntmps58
  go_wp2_with (go_at_call 69; refine hu.out.mono ?_; rintro e w2 ⟨rfl, rfl⟩)
  go_ret
  exact ⟨rfl, rfl⟩
set_option maxRecDepth 100000 in
set_option maxHeartbeats 1600000 in
theorem fiCopy_yes {w : World} {q b m g : Nat} {L : Qu} (h : QAt w q b m L g) : Calls Tryd.prog 58 #[.pointer (some ⟨q, 0, none⟩)] w fun e w' => ∃ q' b' m', e = .returned (.pointer (some ⟨q', 0, none⟩)) ∧ QAt w' q' b' m' L g ∧ Grn w w' ∧ w.heap.size ≤ q' ∧ w.heap.size ≤ b' ∧ w.heap.size ≤ m' := by
  have hu := Lib.hid (fiUsable_yes h)
  have c := h.cq
  have c0 := h.body.c0
  have c1 := h.body.c1
  have c2 := h.body.c2
  have c3 := h.body.c3
  have HH := Lib.hid h
  obtain ⟨W, hW⟩ : ∃ W, w.alloc (.cells #[.int .u64 ((hdd 0 L : Nat) : Int), .int .u64 ((lst 0 L : Nat) : Int), .map (some m), .int .u64 ((g : Nat) : Int)] 128) = W := ⟨_, rfl⟩
  have HWB : Hid (Grn w W) := Lib.hid (by rw [← hW]; exact (Grn.refl w).alloc _)
  have HWC : Hid (W.heap[w.heap.size]? = some (.cells #[.int .u64 ((hdd 0 L : Nat) : Int), .int .u64 ((lst 0 L : Nat) : Int), .map (some m), .int .u64 ((g : Nat) : Int)] 128 (0, 0))) := Lib.hid (by rw [← hW]; exact block_new _ _ _ rfl)
  have hcl := Lib.hid (mclone_any (h.m.same (HWB.out.below.block _ h.lm)))
  have HWS : Hid (W.heap.size = w.heap.size + 1) := Lib.hid (by rw [← hW]; simp)
  have HW := Lib.hid hW
  clear h hW
  go_enter Tryd.func58, Tryd.ntmps58
  go_wp2_with (first | (go_at_call 69; refine hu.out.mono ?_; rintro e w2 ⟨rfl, rfl⟩) | (go_at_call 76; rw [HW.out]; refine hcl.out.mono ?_; rintro e w3 ⟨rfl, hm3, hg3, hs3⟩; refine Hid.out ?_))
  have hb3 := (hg3.below.block _ (lt_of_block HWC.out)).trans HWC.out
  have hlt := lt_of_block hb3
  have f2 := cells_free hb3 2
  have d2 := cells_cell (o := 2) hb3 rfl
  have hsz := HWS.out
  rw [hsz] at hm3
  have hset := cells_set hb3 2 (.map (some (w2.heap.size + 1)))
  have HSET := Lib.hid hset
  have HM3 := Lib.hid hm3
  have HG3 := Lib.hid ((HWB.out.trans hg3).set ⟨w2.heap.size, 2, none⟩ (.map (some (w2.heap.size + 1))) (Nat.le_refl _))
  have HS3 : Hid (w3.heap.size = w2.heap.size + 1 + 1) := Lib.hid (by rw [hs3, hsz])
  rw [hsz]
  clear c c0 c1 c2 c3 hb3 hset hm3 hg3 hs3 hsz
  refine Lib.hid ?_
  go_wp2
  go_ret
  have hn : LinkMap (w3.setCell ⟨w2.heap.size, 2, none⟩ (.map (some (w2.heap.size + 1)))) (w2.heap.size + 1) L.length (lks 0 0 L) := HM3.out.same (Below.heap_setCell _ _ _ _ (by simp))
  have h3 := HS3.out
  refine ⟨w3.heap.size, w2.heap.size, w2.heap.size + 1, ?_, ⟨?_, ?_, ?_, HH.out.inc, HH.out.le⟩, HG3.out.alloc _, by omega, Nat.le_refl _, by omega⟩
  · first | rfl | simp
  · exact block_new _ _ _ (by simp)
  · exact ((below_alloc _ _).block _ (lt_of_block HSET.out)).trans HSET.out
  · exact hn.same ((below_alloc _ _).block _ hn.lt)
end Go.Proofs.YtcdimopiaanfbaaDoor
