/- An item sinks; an item settles. -/
import Derived.Test.YtpbnbddjfebenaaDoorHSink
namespace Go.Proofs.YtpbnbddjfebenaaDoor
open Go.RowKit Go.Sort
open BodAt (row_ne row_row_ne)
set_option linter.unusedVariables false
set_option linter.unusedSimpArgs false

set_option maxHeartbeats 3200000 in
set_option maxRecDepth 100000 in
theorem sink_any {w : World} {h : Hp} {s : Bd} (b : BodAt w h s) (i : Nat) (hi : i < s.its.length) (hbig : s.its.length ≤ 2000) (hn : s.its.Nodup) (hm : ∀ x, x ∈ s.its → x < s.n) (hp : Pre s.K s.its i) (hu : Up s.K s.its i) (hx : IdxEx s.X s.its i) :
    Calls Tryd.prog 44 #[.pointer (some ⟨h.bb, 17, none⟩), encN i] w fun e w' => ∃ (L : List Nat) (X : Nat → Int), e = .returned (.tuple #[]) ∧ Settled s.K s.its L X ∧ BodAt w' h { s with its := L, X := X } ∧ Fr h.rows w w' := by
  obtain ⟨g, cap, C⟩ := b.celli (by omega)
  have hS := Lib.hid (Sinking.start hi hn hp hu hx)
  have hm' := Lib.hid hm
  have hb17 := C.b17
  have hnl := C.nle
  have hii : (i : Int) < (s.its.length : Int) := by omega
  have e0 := C.e i hi
  have hB := Lib.hid b
  have mixed : Tryd.prog.follows .mixedOrders = true := by kernel_rfl
  clear C b hn hm hp hx hu
  unfold encN at *
  generalize hx0 : s.its.getD i 0 = x at *
  have Hx0 := Lib.hid hx0
  clear hx0
  go_enter Tryd.func44, Tryd.ntmps44
  go_wp2_with fail
  go_loopw [1] (fun v wr => ∃ (k : Nat) (M : List Nat) (X : Nat → Int) (L : List Nat), v = .int .i64 k ∧ Sinking s.K s.its x M X k L ∧ (∀ y, y ∈ M → y < s.n) ∧ BodAt wr h { s with its := M, X := X } ∧ Fr h.rows w wr) (fun v _ => s.its.length - (intOf v).toNat)
  case atStart => exact ⟨i, s.its, s.X, s.its, rfl, hS.out, hm'.out, hB.out, Fr.refl _ _⟩
  case round =>
    obtain ⟨k, M, X, L, rfl, hR, hMm, b, hF⟩ := hrel
    have HMm := Lib.hid hMm
    clear hMm
    have hML : M.length = s.its.length := by rw [hR.hole.1, hR.perm.length_eq]
    have hkl : k < s.its.length := by rw [← hR.perm.length_eq]; exact hR.lt
    have hxn : x < s.n := hm'.out x (by rw [← hR.item]; exact hR.perm.mem_iff.1 (getD_mem _ _ hR.lt))
    obtain ⟨g2, cap2, C2⟩ := b.celli (by show 0 < M.length; omega)
    have hput := Lib.hid (fun n os => put_any (b.grown n os) x k hxn (by show k < M.length; rw [hML]; exact hkl))
    have hF' := Lib.hid hF
    have b17 : wr.cell? ⟨h.bb, 17, none⟩ = some (.slice (some ⟨g2, 0, none⟩) M.length cap2) := C2.b17
    have hMi : M.length ≤ 2000 := by omega
    clear hF
    by_cases hk : 4 * k + 1 < M.length
    · have hki : (4 : Int) * (k : Int) + 1 < (M.length : Int) := by omega
      have hfirst := Lib.hid (firstChild_any b k hk (by show M.length ≤ 2000; omega) HMm.out)
      have HB := Lib.hid b
      have HR := Lib.hid hR
      have HC2 := Lib.hid C2
      have HML := Lib.hid hML
      clear C2 b hR hML
      unfold encN at *
      go_wp2_with fail
      refine hfirst.out.mono ?_
      rintro e w1 ⟨c, rfl, hFi, n1, os1, rfl⟩
      have hcl : c < M.length := hFi.lt
      have hck : k < c := by have := hFi.par; have := hFi.pos; omega
      have HFi := Lib.hid hFi
      clear hFi
      obtain ⟨y, hy⟩ : ∃ y, M.getD c 0 = y := ⟨_, rfl⟩
      obtain ⟨q, hq⟩ : ∃ q, cmpK s.K x y = q := ⟨_, rfl⟩
      have hyn : y < s.n := HMm.out y (by rw [← hy]; exact getD_mem _ _ hcl)
      have hcmp : Hid (∀ m os', Calls Tryd.prog 36 #[.int .i64 x, .int .i64 y, .pointer (some ⟨h.cb, 0, none⟩)] (grow ((grow (wr.drewN n1) os1).drewN m) os') fun e w' => e = .returned (.int .i64 q) ∧ ∃ q' os'', w' = grow ((grow ((grow (wr.drewN n1) os1).drewN m) os').drewN q') os'') :=
        Lib.hid (fun m os' => by rw [← hq]; exact cmpC_any ((HB.out.grown n1 os1).grown m os') x y hxn hyn)
      have hput2 := Lib.hid (fun m os' => put_any ((HB.out.grown n1 os1).grown m os') y k hyn (by show k < M.length; rw [HML.out]; exact hkl))
      have hput1 := Lib.hid (fun m os' => put_any ((HB.out.grown n1 os1).grown m os') x k hxn (by show k < M.length; rw [HML.out]; exact hkl))
      have hfg := Lib.hid (fun m os' => (hF'.out.trans' (fr_grow wr n1 os1 h.rows)).trans' (fr_grow (grow (wr.drewN n1) os1) m os' h.rows))
      have cc : ∀ m os', (grow ((grow (wr.drewN n1) os1).drewN m) os').cell? ⟨g2, c, none⟩ = some (.int .i64 y) := fun m os' => by rw [grown_trans, ← hy]; exact cell_grown HC2.out.glt (HC2.out.e c hcl) _ _
      have cb17 : ∀ m os', (grow ((grow (wr.drewN n1) os1).drewN m) os').cell? ⟨h.bb, 17, none⟩ = some (.slice (some ⟨g2, 0, none⟩) M.length cap2) := fun m os' => by rw [grown_trans]; exact cell_grown HC2.out.blt HC2.out.b17 _ _
      have cb18 : ∀ m os', (grow ((grow (wr.drewN n1) os1).drewN m) os').cell? ⟨h.bb, 18, none⟩ = some (.func (.func 36) #[] #[.pointer (some ⟨h.cb, 0, none⟩)]) := fun m os' => by rw [grown_trans]; exact cell_grown HC2.out.blt HC2.out.b18 _ _
      have hci : (c : Int) < (M.length : Int) := by omega
      have Hy := Lib.hid hy
      have Hq := Lib.hid hq
      clear hy hq
      unfold encN at *
      by_cases hlt : q ≤ 0
      · go_wp2_with fail
        go_quiet_grown ((go_at_call 36; refine Calls.grown_of (hcmp.out _ _)))
        go_wp2_with fail
        refine (hput1.out _ _).mono ?_
        rintro e w2 ⟨rfl, B2, F2⟩
        go_wp2_with fail
        go_end0
        exact ⟨M.set k x, upd X x k, rfl, HR.out.done (.inr ⟨c, HFi.out, by rw [Hy.out]; exact fun hl => by have := cmpK_pos.2 hl; rw [Hq.out] at this; omega⟩), B2, (hfg.out _ _).trans' F2⟩
      · go_wp2_with fail
        go_quiet_grown ((go_at_call 36; refine Calls.grown_of (hcmp.out _ _)))
        go_wp2_with fail
        refine (hput2.out _ _).mono ?_
        rintro e w2 ⟨rfl, B2, F2⟩
        go_wp2_with fail
        go_roundw
        case rel =>
          have hst := HR.out.step HFi.out (by rw [Hy.out]; exact cmpK_pos.1 (by rw [Hq.out]; omega))
          rw [Hy.out] at hst
          exact ⟨c, M.set k y, upd X y k, mv L k c, rfl, hst, fun z hz => by
            rcases List.mem_or_eq_of_mem_set hz with h1 | h1
            · exact HMm.out z h1
            · rw [h1]; exact hyn, B2, (hfg.out _ _).trans' F2⟩
        case measure => have := HML.out; simp [intOf]; omega
    · have HR := Lib.hid (hR.done (.inl (by omega)))
      have hki : (M.length : Int) ≤ (4 : Int) * (k : Int) + 1 := by omega
      have hput0 := Lib.hid (put_any b x k hxn (by show k < M.length; rw [hML]; exact hkl))
      clear hput hR b C2 hML
      unfold encN at *
      go_wp2_with fail
      refine hput0.out.mono ?_
      rintro e w2 ⟨rfl, B2, F2⟩
      go_wp2_with fail
      go_end0
      exact ⟨M.set k x, upd X x k, rfl, HR.out, B2, hF'.out.trans' F2⟩

set_option maxHeartbeats 800000 in
theorem settle_any {w : World} {h : Hp} {s : Bd} (b : BodAt w h s) (i : Nat) (hi : i < s.its.length) (hbig : s.its.length ≤ 2000) (hn : s.its.Nodup) (hm : ∀ x, x ∈ s.its → x < s.n) (hp : Pre s.K s.its i) (hx : IdxEx s.X s.its i) :
    Calls Tryd.prog 29 #[.pointer (some ⟨h.bb, 17, none⟩), encN i] w fun e w' => ∃ (L : List Nat) (X : Nat → Int), e = .returned (.tuple #[]) ∧ Settled s.K s.its L X ∧ BodAt w' h { s with its := L, X := X } ∧ Fr h.rows w w' := by
  have hr := Lib.hid (rise_any b i hi hn hm hp hx)
  have Hm := Lib.hid hm
  clear b hn hm hp hx
  unfold encN at *
  go_enter Tryd.func29, Tryd.ntmps29
  go_wp2_with fail
  refine hr.out.mono ?_
  rintro e w1 ⟨j, L, X, rfl, hR, B1, F1⟩
  have hs := sink_any B1 j hR.lt (by show L.length ≤ 2000; rw [hR.perm.length_eq]; omega) hR.nodup (fun x hx => Hm.out x (hR.perm.mem_iff.1 hx)) hR.pre hR.up (hR.idx.ex j)
  have HR := Lib.hid hR
  have HF := Lib.hid F1
  clear hR F1 B1
  unfold encN at *
  go_wp2_with fail
  refine hs.mono ?_
  rintro e w2 ⟨L2, X2, rfl, hS, B2, F2⟩
  go_wp2_with fail
  go_end0
  exact ⟨L2, X2, rfl, hS.trans HR.out.perm, B2, HF.out.trans' F2⟩
end Go.Proofs.YtpbnbddjfebenaaDoor
