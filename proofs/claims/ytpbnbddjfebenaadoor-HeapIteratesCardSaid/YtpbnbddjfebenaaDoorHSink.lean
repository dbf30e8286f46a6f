/- The first child is found; an item sinks; an item settles. -/
import Derived.Test.YtpbnbddjfebenaaDoorHMove
namespace Go.Proofs.YtpbnbddjfebenaaDoor
open Go.RowKit Go.Sort
open BodAt (row_ne row_row_ne)
set_option linter.unusedVariables false
set_option linter.unusedSimpArgs false

theorem grown_trans (w : World) (n m : Nat) (os os' : Array Obj) : grow ((grow (w.drewN n) os).drewN m) os' = grow (w.drewN (n + m)) (os ++ os') := by
  show grow (grow ((w.drewN n).drewN m) os) os' = _
  rw [grow_grow, World.drewN_drewN]

set_option maxHeartbeats 3200000 in
set_option maxRecDepth 100000 in
theorem firstChild_any {w : World} {h : Hp} {s : Bd} (b : BodAt w h s) (i : Nat) (hi : 4 * i + 1 < s.its.length) (hbig : s.its.length ≤ 2000) (hm : ∀ x, x ∈ s.its → x < s.n) :
    Calls Tryd.prog 53 #[.pointer (some ⟨h.bb, 17, none⟩), encN i] w fun e w' => ∃ c : Nat, e = .returned (encN c) ∧ First s.K s.its i c ∧ ∃ n os, w' = grow (w.drewN n) os := by
  obtain ⟨g, cap, C⟩ := b.celli (by omega)
  have hm' := Lib.hid hm
  have hB := Lib.hid b
  have HC := Lib.hid C
  have hnl := C.nle
  have hil : (4 : Int) * (i : Int) + 1 < (s.its.length : Int) := by omega
  have cb17 : ∀ m os, (grow (w.drewN m) os).cell? ⟨h.bb, 17, none⟩ = some (.slice (some ⟨g, 0, none⟩) s.its.length cap) := fun m os => cell_grown C.blt C.b17 m os
  have cb18 : ∀ m os, (grow (w.drewN m) os).cell? ⟨h.bb, 18, none⟩ = some (cmpV h.cb) := fun m os => cell_grown C.blt C.b18 m os
  have mixed : Tryd.prog.follows .mixedOrders = true := by kernel_rfl
  clear C b hm
  unfold encN cmpV at *
  go_enter Tryd.func53, Tryd.ntmps53
  go_wp2_with fail
  go_loopw [5, 6] (fun f c wr => ∃ (n : Nat) (os : Array Obj) (a k : Nat), wr = grow (w.drewN n) os ∧ f = .int .i64 a ∧ c = .int .i64 k ∧ 4 * i + 1 ≤ a ∧ a < k ∧ k ≤ 4 * i + 5 ∧ k ≤ s.its.length ∧ ∀ j, 4 * i + 1 ≤ j → j < k → ¬ ltK s.K (s.its.getD j 0) (s.its.getD a 0)) (fun _ c _ => s.its.length - (intOf c).toNat)
  case atStart => exact ⟨0, #[], 4 * i + 1, 4 * i + 2, by rw [grow_empty]; rfl, by go_num, by go_num, by omega, by omega, by omega, by omega, fun j h1 h2 => by rw [show j = 4 * i + 1 by omega]; exact ltK_irrefl _ _⟩
  case round =>
    obtain ⟨n, os, a, k, rfl, rfl, rfl, ha, hak, hk5, hkl, hmin⟩ := hrel
    have Hmin := Lib.hid hmin
    clear hmin
    by_cases hk : k < 4 * i + 5 ∧ k < s.its.length
    · obtain ⟨hka, hkb⟩ := hk
      obtain ⟨x, hx⟩ : ∃ x, s.its.getD k 0 = x := ⟨_, rfl⟩
      obtain ⟨y, hy⟩ : ∃ y, s.its.getD a 0 = y := ⟨_, rfl⟩
      obtain ⟨c, hc⟩ : ∃ c, cmpK s.K x y = c := ⟨_, rfl⟩
      have hxn : x < s.n := hm'.out x (by rw [← hx]; exact getD_mem _ _ hkb)
      have hyn : y < s.n := hm'.out y (by rw [← hy]; exact getD_mem _ _ (by omega))
      have hcmp : Hid (∀ m os', Calls Tryd.prog 36 #[.int .i64 x, .int .i64 y, .pointer (some ⟨h.cb, 0, none⟩)] (grow ((grow (w.drewN n) os).drewN m) os') fun e w' => e = .returned (.int .i64 c) ∧ ∃ q os'', w' = grow ((grow ((grow (w.drewN n) os).drewN m) os').drewN q) os'') :=
        Lib.hid (fun m os' => by rw [← hc]; exact cmpC_any ((hB.out.grown n os).grown m os') x y hxn hyn)
      have ck : ∀ m os', (grow ((grow (w.drewN n) os).drewN m) os').cell? ⟨g, k, none⟩ = some (.int .i64 x) := fun m os' => by rw [grown_trans, ← hx]; exact cell_grown HC.out.glt (HC.out.e k hkb) _ _
      have ca : ∀ m os', (grow ((grow (w.drewN n) os).drewN m) os').cell? ⟨g, a, none⟩ = some (.int .i64 y) := fun m os' => by rw [grown_trans, ← hy]; exact cell_grown HC.out.glt (HC.out.e a (by omega)) _ _
      have cb17' : ∀ m os', (grow ((grow (w.drewN n) os).drewN m) os').cell? ⟨h.bb, 17, none⟩ = some (.slice (some ⟨g, 0, none⟩) s.its.length cap) := fun m os' => by rw [grown_trans]; exact cb17 _ _
      have cb18' : ∀ m os', (grow ((grow (w.drewN n) os).drewN m) os').cell? ⟨h.bb, 18, none⟩ = some (.func (.func 36) #[] #[.pointer (some ⟨h.cb, 0, none⟩)]) := fun m os' => by rw [grown_trans]; exact cb18 _ _
      have hki : (k : Int) < (s.its.length : Int) := by omega
      have hai : (a : Int) < (s.its.length : Int) := by omega
      have Hx := Lib.hid hx
      have Hy := Lib.hid hy
      have Hc := Lib.hid hc
      clear hx hy hc
      by_cases hmm : 4 * i + 5 ≤ s.its.length
      all_goals by_cases hlt : c < 0
      all_goals
        go_wp2_with fail
        go_quiet_grown ((go_at_call 36; refine Calls.grown_of (hcmp.out _ _)))
        go_wp2_with fail
        go_roundw
        case measure => simp [intOf]; omega
        case rel =>
          first
            | exact ⟨_, _, k, k + 1, grown_trans _ _ _ _ _, rfl, by go_num, by omega, by omega, by omega, by omega, fun j h1 h2 => by
                have hl := cmpK_neg.1 (by rw [Hc.out]; exact hlt)
                rw [Hx.out]
                by_cases e : j = k
                · rw [e, Hx.out]; exact ltK_irrefl _ _
                · have := Hmin.out j h1 (by omega)
                  rw [Hy.out] at this
                  exact nlt_trans this (ltK_asymm hl)⟩
            | exact ⟨_, _, a, k + 1, grown_trans _ _ _ _ _, rfl, by go_num, by omega, by omega, by omega, by omega, fun j h1 h2 => by
                by_cases e : j = k
                · rw [e, Hx.out, Hy.out]; exact fun hl => by have := cmpK_neg.2 hl; rw [Hc.out] at this; omega
                · exact Hmin.out j h1 (by omega)⟩
    · have hend : First s.K s.its i a := ⟨by omega, by omega, by omega, fun j j0 hj hji => Hmin.out j (by omega) (by omega)⟩
      have HE := Lib.hid hend
      clear hend
      by_cases hmm : 4 * i + 5 ≤ s.its.length
      · obtain rfl : k = 4 * i + 5 := by omega
        clear hk
        go_wp2_with fail
        go_ret
        exact ⟨a, rfl, HE.out, _, _, rfl⟩
      · obtain rfl : k = s.its.length := by omega
        clear hk
        go_wp2_with fail
        go_ret
        exact ⟨a, rfl, HE.out, _, _, rfl⟩
end Go.Proofs.YtpbnbddjfebenaaDoor
