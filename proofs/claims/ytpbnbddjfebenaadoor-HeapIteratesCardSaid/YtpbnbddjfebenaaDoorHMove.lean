/- The layout's own functions: an item is laid down, the first child found, an item rises or sinks. -/
import Derived.Test.YtpbnbddjfebenaaDoorHClo
import Derived.Deep.DeepCutAuto
import Derived.Deep.LoopGhost
namespace Go.Proofs.YtpbnbddjfebenaaDoor
open Go.RowKit Go.Sort
open BodAt (row_ne row_row_ne)
set_option linter.unusedVariables false
set_option linter.unusedSimpArgs false

/-- What a layout with an item says of its cells. -/
structure Celli (w : World) (h : Hp) (s : Bd) (gi ci : Nat) : Prop where
  vi : h.vi = .slice (some ⟨gi, 0, none⟩) s.its.length ci
  nle : s.its.length ≤ 9223372036854775807
  blt : h.bb < w.heap.size
  glt : gi < w.heap.size
  b17 : w.cell? ⟨h.bb, 17, none⟩ = some (.slice (some ⟨gi, 0, none⟩) s.its.length ci)
  b18 : w.cell? ⟨h.bb, 18, none⟩ = some (cmpV h.cb)
  b19 : w.cell? ⟨h.bb, 19, none⟩ = some (plV h.cb)
  e : ∀ j, j < s.its.length → w.cell? ⟨gi, j, none⟩ = some (encN (s.its.getD j 0))
  fr : ∀ j, w.frozen? ⟨gi, j, none⟩ = false

theorem BodAt.celli {w : World} {h : Hp} {s : Bd} (b : BodAt w h s) (hn : 0 < s.its.length) : ∃ g cap, Celli w h s g cap := by
  obtain ⟨cur, hcur, hs, h0, hw, h17, h18, h19, h20⟩ := b.hb.ex
  have hi := b.hi
  rcases hi.2 with ⟨_, h1⟩ | ⟨g, cap, cu, hv, _, hg, hnc, hcm, hcs, htake⟩
  · omega
  · unfold maxLen at hcm
    rw [hv] at h17
    refine ⟨g, cap, hv, by omega, lt_of_block hcur, lt_of_block hg, cells_cell hcur h17, cells_cell hcur h18, cells_cell hcur h19, fun j hj => ?_, fun j => cells_free hg j⟩
    refine cells_cell hg ?_
    have h1 : (s.its.map encN)[j]? = some (encN (s.its.getD j 0)) := by simp [List.getElem?_map, hj]
    rw [← htake, List.getElem?_take] at h1
    split at h1
    · simpa using h1
    · cases h1

/-- One item's place. -/
def Bd.put (s : Bd) (x i : Nat) : Bd := { s with its := s.its.set i x, X := upd s.X x i }

theorem Bd.put_len (s : Bd) (x i : Nat) : (s.put x i).its.length = s.its.length := by simp [Bd.put]

set_option maxHeartbeats 800000 in
theorem put_any {w : World} {h : Hp} {s : Bd} (b : BodAt w h s) (x i : Nat) (hx : x < s.n) (hi : i < s.its.length) :
    Calls Tryd.prog 54 #[.pointer (some ⟨h.bb, 17, none⟩), encN x, encN i] w fun e w' => e = .returned (.tuple #[]) ∧ BodAt w' h (s.put x i) ∧ Fr h.rows w w' := by
  obtain ⟨g, cap, C⟩ := b.celli (by omega)
  obtain ⟨b1, f1⟩ := b.setI C.vi i x
  have hp := Lib.hid (plC_any b1 x i hx)
  have F1 := Lib.hid f1
  have hb17 := C.b17
  have hn := C.nle
  have hii : (i : Int) < (s.its.length : Int) := by omega
  have e := C.e i hi
  have fr := C.fr i
  have c19 : (w.setCell ⟨g, i, none⟩ (encN x)).cell? ⟨h.bb, 19, none⟩ = some (plV h.cb) := by
    obtain ⟨cur, hcur, _, _, _, _, _, h19, _⟩ := b1.hb.ex
    exact cells_cell hcur h19
  clear b1 f1 C b
  unfold encN plV at *
  go_enter Tryd.func54, Tryd.ntmps54
  go_wp2_with fail
  refine hp.out.mono ?_
  rintro e w' ⟨rfl, B, F⟩
  go_wp2_with fail
  go_end0
  exact ⟨rfl, B, F1.out.trans' F⟩

theorem BodAt.grown {w : World} {h : Hp} {s : Bd} (b : BodAt w h s) (n : Nat) (os : Array Obj) : BodAt (grow (w.drewN n) os) h s := b.frame (fr_grow w n os []) (fun _ _ => by simp)

set_option maxHeartbeats 3200000 in
set_option maxRecDepth 100000 in
theorem rise_any {w : World} {h : Hp} {s : Bd} (b : BodAt w h s) (i : Nat) (hi : i < s.its.length) (hn : s.its.Nodup) (hm : ∀ x, x ∈ s.its → x < s.n) (hp : Pre s.K s.its i) (hx : IdxEx s.X s.its i) :
    Calls Tryd.prog 45 #[.pointer (some ⟨h.bb, 17, none⟩), encN i] w fun e w' => ∃ (j : Nat) (L : List Nat) (X : Nat → Int), e = .returned (encN j) ∧ Risen s.K s.its i (s.its.getD i 0) L X j ∧ BodAt w' h { s with its := L, X := X } ∧ Fr h.rows w w' := by
  obtain ⟨g, cap, C⟩ := b.celli (by omega)
  have hS := Lib.hid (Rising.start hi hn hp hx)
  have hm' := Lib.hid hm
  have hb17 := C.b17
  have hnl := C.nle
  have hii : (i : Int) < (s.its.length : Int) := by omega
  have e0 := C.e i hi
  have hvi := Lib.hid C.vi
  have hB := Lib.hid b
  clear C b hn hm hp hx
  unfold encN at *
  generalize hx0 : s.its.getD i 0 = x at *
  have Hx0 := Lib.hid hx0
  clear hx0
  go_enter Tryd.func45, Tryd.ntmps45
  go_wp2_with fail
  go_loopw [1] (fun v wr => ∃ (k : Nat) (M : List Nat) (X : Nat → Int) (L : List Nat), v = .int .i64 k ∧ Rising s.K s.its i x M X k L ∧ BodAt wr h { s with its := M, X := X } ∧ Fr h.rows w wr) (fun v _ => (intOf v).toNat)
  case atStart => exact ⟨i, s.its, s.X, s.its, rfl, hS.out, hB.out, Fr.refl _ _⟩
  case round =>
    obtain ⟨k, M, X, L, rfl, hR, b, hF⟩ := hrel
    have hML : M.length = s.its.length := by rw [hR.hole.1, hR.perm.length_eq]
    have hkl : k < s.its.length := by rw [← hR.perm.length_eq]; exact hR.lt
    have hxn : x < s.n := hm'.out x (by rw [← hR.item]; exact hR.perm.mem_iff.1 (getD_mem _ _ hR.lt))
    have hput := Lib.hid (fun n os => put_any (b.grown n os) x k hxn (by show k < M.length; rw [hML]; exact hkl))
    have hF' := Lib.hid hF
    clear hF
    by_cases hk : 0 < k
    · obtain ⟨p, hp⟩ : ∃ p, p = (k - 1) / 4 := ⟨_, rfl⟩
      have hpk : p < k := by omega
      have hpI : ((k : Int) - 1) / 4 = (p : Int) := by omega
      have hpl : p < M.length := by omega
      have hpn : M.getD p 0 < s.n := hm'.out _ (by rw [hR.hole.2 p (by omega)]; exact hR.perm.mem_iff.1 (getD_mem _ _ (by have := hR.lt; omega)))
      obtain ⟨g2, cap2, C2⟩ := b.celli (by show 0 < M.length; omega)
      have hput2 := Lib.hid (fun n os => put_any (b.grown n os) (M.getD p 0) k hpn (by show k < M.length; rw [hML]; exact hkl))
      have hfg := Lib.hid (fun n os => hF'.out.trans' (fr_grow wr n os h.rows))
      obtain ⟨y, hy⟩ : ∃ y, M.getD p 0 = y := ⟨_, rfl⟩
      obtain ⟨c, hc⟩ : ∃ c, cmpK s.K x y = c := ⟨_, rfl⟩
      have hcmp : Hid (∀ n os, Calls Tryd.prog 36 #[encN x, encN y, .pointer (some ⟨h.cb, 0, none⟩)] (grow (wr.drewN n) os) fun e w' => e = .returned (.int .i64 c) ∧ ∃ q os', w' = grow ((grow (wr.drewN n) os).drewN q) os') :=
        Lib.hid (fun n os => by rw [← hc, ← hy]; exact cmpC_any (b.grown n os) x (M.getD p 0) hxn hpn)
      have cb17 : ∀ m os, (grow (wr.drewN m) os).cell? ⟨h.bb, 17, none⟩ = some (.slice (some ⟨g2, 0, none⟩) M.length cap2) := fun m os => cell_grown C2.blt C2.b17 m os
      have cb18 : ∀ m os, (grow (wr.drewN m) os).cell? ⟨h.bb, 18, none⟩ = some (cmpV h.cb) := fun m os => cell_grown C2.blt C2.b18 m os
      have cp : ∀ m os, (grow (wr.drewN m) os).cell? ⟨g2, p, none⟩ = some (encN y) := fun m os => by rw [← hy]; exact cell_grown C2.glt (C2.e p hpl) m os
      have hpli : (p : Int) < (M.length : Int) := by omega
      have hMn : M.length ≤ 9223372036854775807 := by omega
      have hki : (0 : Int) < (k : Int) := by omega
      have hks : (k : Int) ≤ 9223372036854775807 := by omega
      rw [hy] at hput2
      have HR := Lib.hid hR
      have Hc := Lib.hid hc
      have Hy := Lib.hid hy
      have Hp := Lib.hid hp
      have HML := Lib.hid hML
      have mixed : Tryd.prog.follows .mixedOrders = true := by kernel_rfl
      clear C2 b hR hc hy hML hp
      unfold cmpV encN at *
      by_cases hlt : c < 0
      · go_wp2_with fail
        go_quiet_grown ((go_at_call 36; refine Calls.grown_of (hcmp.out _ _)))
        go_wp2_with fail
        refine (hput2.out _ _).mono ?_
        rintro e w2 ⟨rfl, B2, F2⟩
        go_wp2_with fail
        go_roundw
        case rel =>
          have hst := HR.out.step hk (by rw [← Hp.out, Hy.out]; exact cmpK_neg.1 (by rw [Hc.out]; exact hlt))
          rw [← Hp.out, Hy.out] at hst
          exact ⟨p, M.set k y, upd X y k, mv L k p, rfl, hst, B2, (hfg.out _ _).trans' F2⟩
        case measure => simp [intOf]; omega
      · go_wp2_with fail
        go_quiet_grown ((go_at_call 36; refine Calls.grown_of (hcmp.out _ _)))
        go_wp2_with fail
        refine (hput.out _ _).mono ?_
        rintro e w2 ⟨rfl, B2, F2⟩
        go_wp2_with fail
        go_ret
        exact ⟨k, M.set k x, upd X x k, rfl, HR.out.done (fun _ => by rw [← Hp.out, Hy.out]; exact fun hl => by have := cmpK_neg.2 hl; rw [Hc.out] at this; omega), B2, (hfg.out _ _).trans' F2⟩
    · obtain rfl : k = 0 := by omega
      have hput0 := Lib.hid (put_any b x 0 hxn (by show 0 < M.length; rw [hML]; exact hkl))
      have HR := Lib.hid hR
      clear hput hR b
      unfold encN at *
      go_wp2_with fail
      refine hput0.out.mono ?_
      rintro e w2 ⟨rfl, B2, F2⟩
      go_wp2_with fail
      go_ret
      exact ⟨0, M.set 0 x, upd X x 0, rfl, HR.out.done (fun h => absurd h (by omega)), B2, hF'.out.trans' F2⟩
end Go.Proofs.YtpbnbddjfebenaaDoor
