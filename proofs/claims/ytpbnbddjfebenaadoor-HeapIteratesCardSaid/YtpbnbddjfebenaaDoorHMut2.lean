/- Remove and Push. -/
import Derived.Test.YtpbnbddjfebenaaDoorHMut
namespace Go.Proofs.YtpbnbddjfebenaaDoor
open Go.RowKit Go.Sort
open BodAt (row_ne row_row_ne)
set_option linter.unusedVariables false
set_option linter.unusedSimpArgs false

set_option maxHeartbeats 800000 in
theorem remove_no {w : World} {h : Hp} {S : List El} {P : Nat} (H : HeapAt w h S P) (n : Int) (hn : ¬ isH S n) : Calls Tryd.prog 15 #[h.ptr, .int .i64 n] w fun e w' => e = .returned (.int .i64 9) ∧ w = w' := by
  obtain ⟨s, b, i⟩ := H.ex
  have hf := Lib.hid (find_no b i n hn)
  clear b i H hn
  unfold Hp.ptr at *
  go_enter Tryd.func15, Tryd.ntmps15
  go_wp2_with (first | (go_at_call 28; refine hf.out.mono ?_; rintro e w' ⟨rfl, rfl⟩))
  go_ret
  exact ⟨rfl, rfl⟩

set_option maxHeartbeats 1600000 in
set_option maxRecDepth 100000 in
theorem remove_yes {w : World} {h : Hp} {S : List El} {P : Nat} (H : HeapAt w h S P) (x : Nat) (hx : x ∈ hsOf S) :
    Calls Tryd.prog 15 #[h.ptr, .int .i64 x] w fun e w' => e = .returned (.int .i64 0) ∧ ∃ h', HeapAt w' h' (removeS S x) P ∧ Fr h.foot w w' ∧ Ext w.heap.size h h' := by
  obtain ⟨s, b, i⟩ := H.ex
  obtain ⟨g, cap, C, hf⟩ := find_yes b i x hx
  have hxn := i.hlt x hx
  have hx1 : x < 1024 := by have := i.n_le; omega
  obtain ⟨j, hj, hjx⟩ := mem_at (i.perm.mem_iff.2 hx)
  have hXj : s.X x = j := by rw [← hjx]; exact i.idx j hj
  have hlen := i.len
  have hle := i.len_le
  have ha1 : w.cell? ⟨h.a, 0, none⟩ = some (.pointer (some ⟨h.bb, 0, none⟩)) := cell_of_one b.ha
  have h3 : w.cell? ⟨g, x * 4 + 3, none⟩ = some (.int .i64 j) := by rw [← hXj]; exact C.e3 x hxn
  have hrem := Lib.hid (removeAt_any (b.frame (fr_drewN w 1 []) (fun _ _ => by simp)) j hj (by show s.its.length ≤ 2000; omega) i.nodup i.ltn i.heap i.idx)
  have hHF := Lib.hid hf
  have HI := Lib.hid i
  have Hve := Lib.hid C.ve
  have Hjx := Lib.hid hjx
  have Hx := Lib.hid hx
  have hb2 := Lib.hid b.lt_foot
  clear b i H hf C hXj hjx hx
  unfold Hp.ptr encN at *
  go_enter Tryd.func15, Tryd.ntmps15
  go_wp2_with (first | (go_at_call 28; refine hHF.out.mono ?_; rintro e w' ⟨rfl, rfl⟩))
  refine wp_region_still_tail 10 (by kernel_rfl) (by kernel_rfl) ?_
  simp only [List.take_succ_cons, List.take_zero, List.drop_succ_cons, List.drop_zero]
  change wpStill _ _ (World.drew _) (fun a' => wpList _ _ _ _ a' (World.drew _)) _ _
  repeat still_step
  refine wpStill_nil ?_
  go_wp2_with fail
  refine hrem.out.mono ?_
  rintro e w2 ⟨h', L, X, rfl, hR, B2, F2, hext, hve⟩
  have ha2 : w2.cell? ⟨h'.a, 0, none⟩ = some (.pointer (some ⟨h'.bb, 0, none⟩)) := cell_of_one B2.ha
  have hflip := Lib.hid (flip_any B2 x hx1 (HI.out.word _ (by omega)))
  have HR := Lib.hid hR
  have HF2 := Lib.hid F2
  have HX := Lib.hid hext
  have Hv := Lib.hid hve
  have ea := Lib.hid hext.a
  have eb := Lib.hid hext.bb
  rw [hext.a] at ha2
  rw [hext.bb] at ha2 hflip
  clear hR F2 B2 hext hve
  go_wp2_with fail
  refine hflip.out.mono ?_
  rintro e w3 ⟨rfl, B3, F3⟩
  have hv3 : h'.ve = .slice (some ⟨g, 0, none⟩) s.n cap := by rw [Hv.out]; exact Hve.out
  obtain ⟨g', cap', C3⟩ := B3.cellsy (by show 0 < s.n; omega)
  have hvv : (Value.slice (some ⟨g', 0, none⟩) s.n cap') = .slice (some ⟨g, 0, none⟩) s.n cap := C3.ve.symm.trans hv3
  simp only [Value.slice.injEq, Option.some.injEq, Addr.mk.injEq, and_true, true_and] at hvv
  obtain ⟨rfl, rfl⟩ := hvv
  obtain ⟨B4, F4⟩ := B3.setElem (x := x) C3.ve hxn ⟨0, 0, 0⟩ 0
  have d0 := C3.e0 x hxn
  have d1 := C3.e1 x hxn
  have d2 := C3.e2 x hxn
  have d3 := C3.e3 x hxn
  have r0 := C3.fr (x * 4)
  have r1 := C3.fr (x * 4 + 1)
  have r2 := C3.fr (x * 4 + 2)
  have r3 := C3.fr (x * 4 + 3)
  have HB4 := Lib.hid B4
  have HF3 := Lib.hid (bb_foot h' (by rw [eb.out]; exact F3))
  have HF4 := Lib.hid (rows_foot h' F4)
  clear B3 F3 B4 F4 C3 hv3
  go_wp2_with fail
  go_ret
  refine ⟨rfl, h', ⟨_, HB4.out, ?_⟩, ?_, ?_⟩
  · exact HI.out.remove Hx.out rfl (fun y hy => by simp [upd, hy]) (fun y hy => by simp [upd, hy]; rfl) rfl rfl rfl (by rw [← Hjx.out]; exact HR.out)
  · exact fr_foot HX.out rfl ((fr_drewN w 1 _).trans' HF2.out) (HF3.out.trans' HF4.out)
  · exact HX.out
end Go.Proofs.YtpbnbddjfebenaaDoor
