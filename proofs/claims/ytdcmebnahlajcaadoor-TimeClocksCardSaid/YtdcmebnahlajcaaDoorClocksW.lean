/- The walk of TimeClocks. -/
import Derived.Test.YtdcmebnahlajcaaDoorClock
import Derived.Test.YtdcmebnahlajcaaDoorActs
import Derived.Deep.DeepCutAuto
import Derived.Deep.LoopGhost
namespace Go.Proofs.YtdcmebnahlajcaaDoor
open Go.RowKit
set_option linter.unusedVariables false

theorem Clk.drewN {w : World} {N : Nat} {t : Int} (h : Clk w N t) (n : Nat) : Clk (w.drewN n) N t :=
  ⟨by simpa using h.lt, by rw [World.cell?_drewN]; exact h.c0, by rw [World.cell?_drewN]; exact h.c1, by rw [World.frozen?_drewN]; exact h.f0⟩

/-- Block N holds the reference's clock that shows t. -/
structure Box (w : World) (N : Nat) (t : Int) : Prop where
  lt : N < w.heap.size
  c0 : w.cell? ⟨N, 0, none⟩ = some (.int .u64 t)
  f0 : w.frozen? ⟨N, 0, none⟩ = false
theorem Box.other {w w' : World} {N M : Nat} {t : Int} (h : Box w N t) (ho : Only M w w') (hne : N ≠ M) : Box w' N t :=
  ⟨by rw [ho.size]; exact h.lt, by rw [ho.cell _ hne]; exact h.c0, by rw [ho.froz]; exact h.f0⟩
theorem Box.below {w w' : World} {N : Nat} {t : Int} (h : Box w N t) (hb : Below w.heap.size w w') : Box w' N t :=
  ⟨Nat.lt_of_lt_of_le h.lt hb.size, (hb.cell h.lt).trans h.c0, (hb.frozen h.lt).trans h.f0⟩
theorem Box.set {w : World} {N : Nat} {t : Int} (h : Box w N t) (u : Int) : Box (w.setCell ⟨N, 0, none⟩ (.int .u64 u)) N u :=
  ⟨by simpa using h.lt, World.cell?_setCell_same _ _ _ h.c0, by simpa using h.f0⟩
theorem box_new (w : World) (t : Int) : Box (w.alloc (.cells #[.int .u64 t] 44)) w.heap.size t := ⟨by simp, by simp, by simp⟩

/-- The loop's state after some calls. -/
structure St (w wr : World) (Nd N : Nat) (t : Int) : Prop where
  clk : Clk wr N t
  box : Box wr Nd t
  t0 : 0 ≤ t
  t1 : t < 18446744073709551615
  ne : N ≠ Nd
  hN : w.heap.size ≤ N
  hNd : w.heap.size ≤ Nd
  below : Below w.heap.size w wr

theorem pasT_in (t k : Int) (h0 : 0 ≤ t) (h1 : t < 18446744073709551615) (hk : 0 ≤ k) : 0 ≤ pasT t k ∧ pasT t k < 18446744073709551615 := by
  have := addT_bounds t k h0 (by omega) hk
  unfold pasT
  split <;> omega
theorem advT_in (t b : Int) (h0 : 0 ≤ t) (h1 : t < 18446744073709551615) (hb0 : 0 ≤ b) (hb : b ≤ 18446744073709551615) : 0 ≤ advT t b ∧ advT t b < 18446744073709551615 := by
  unfold advT
  repeat' split
  all_goals omega

theorem radv_at (t b : Int) (w : World) :
    Calls Tryd.prog 24 #[.agg #[.int .u64 t], .int .u64 b] w fun e w' => e = .returned (.tuple #[.agg #[.int .u64 (advT t b)], .int .i64 (advE t b)]) ∧ Below w.heap.size w w' := radv_any t b w
theorem rpas_at (t k : Int) (w : World) (ht0 : 0 ≤ t) (ht1 : t ≤ 18446744073709551615) (hk0 : 0 ≤ k) (hk1 : k ≤ 18446744073709551615) :
    Calls Tryd.prog 26 #[.agg #[.int .u64 t], .int .u64 k] w fun e w' => e = .returned (.tuple #[.agg #[.int .u64 (pasT t k)], .int .i64 (pasE t k)]) ∧ Below w.heap.size w w' := rpas_any t k w ht0 ht1 hk0 hk1

/-- The cells of the call that is being made. -/
theorem act_cells (wr w2 : World) (N : Nat) (x0 x1 x2 : Int) (hN : N < wr.heap.size) (ho : Only N (wr.alloc (Obj.cells #[.int .i64 x0, .int .u64 x1, .int .u64 x2] 48)) w2) :
    w2.cell? ⟨wr.heap.size, 1, none⟩ = some (.int .u64 x1) ∧ w2.cell? ⟨wr.heap.size, 2, none⟩ = some (.int .u64 x2) := by
  constructor
  · rw [ho.cell _ (by simp; omega)]; simp
  · rw [ho.cell _ (by simp; omega)]; simp

/-- A call that both clocks have made. -/
theorem St.step {w wr w1 w2 w3 : World} {Nd N : Nat} {t u : Int} (h : St w wr Nd N t) (u0 : 0 ≤ u) (u1 : u < 18446744073709551615) (hb1 : Below wr.heap.size wr w1) (hc2 : Clk w2 N u) (ho : Only N w1 w2) (hb3 : Below w2.heap.size w2 w3) :
    St w (w3.setCell ⟨Nd, 0, none⟩ (.int .u64 u)) Nd N u := by
  have hbox := ((h.box.below hb1).other ho h.ne.symm).below hb3
  have hs : w.heap.size ≤ wr.heap.size := h.below.size
  have h1 : w.heap.size ≤ w1.heap.size := Nat.le_trans hs hb1.size
  have h2 : w.heap.size ≤ w2.heap.size := by rw [ho.size]; exact h1
  have hb : Below w.heap.size w w3 := ((h.below.trans (hb1.mono hs)).trans (ho.below.mono h.hN)).trans (hb3.mono h2)
  have hset : Below Nd w3 (w3.setCell ⟨Nd, 0, none⟩ (.int .u64 u)) := (Only.set Nd w3 _).below
  exact ⟨(hc2.below hb3).other (Only.set Nd w3 _) h.ne, hbox.set u, u0, u1, h.ne, h.hN, h.hNd, hb.trans (hset.mono h.hNd)⟩

theorem St.drewN {w wr : World} {Nd N : Nat} {t : Int} (h : St w wr Nd N t) (n : Nat) : St w (wr.drewN n) Nd N t :=
  ⟨h.clk.drewN n, ⟨by simpa using h.box.lt, by rw [World.cell?_drewN]; exact h.box.c0, by rw [World.frozen?_drewN]; exact h.box.f0⟩, h.t0, h.t1, h.ne, h.hN, h.hNd, below_drewN h.below n⟩

/-- A copy that has been made, after which the old clock was used. -/
theorem St.fresh {w wr wa wd we : World} {Nd N : Nat} {t : Int} (h : St w wr Nd N t) (hb1 : Below wr.heap.size wr wa) (ho1 : Only N (wa.alloc (.cells #[.int .u64 t, .bool true] 56)) wd) (ho2 : Only N wd we) :
    St w we Nd wa.heap.size t := by
  have hlt := Nat.lt_of_lt_of_le h.clk.lt hb1.size
  have hld := Nat.lt_of_lt_of_le h.box.lt hb1.size
  have hs : w.heap.size ≤ wr.heap.size := h.below.size
  have h1 : w.heap.size ≤ wa.heap.size := Nat.le_trans hs hb1.size
  have hb : Below w.heap.size w (wa.alloc (.cells #[.int .u64 t, .bool true] 56)) := (h.below.trans (hb1.mono hs)).alloc h1 _
  exact ⟨((clk_new wa t).other ho1 (by omega)).other ho2 (by omega), (((h.box.below hb1).below (one_new wa _)).other ho1 h.ne.symm).other ho2 h.ne.symm, h.t0, h.t1, by omega, h1, h.hNd,
    (hb.trans (ho1.below.mono h.hN)).trans (ho2.below.mono h.hN)⟩

theorem pasE_zero (t : Int) (h : t < 18446744073709551615) : pasE t 0 = 0 := by
  unfold pasE addT
  rw [if_neg (by omega : ¬ 18446744073709551615 - t ≤ 0), if_neg (by omega)]

set_option maxHeartbeats 3200000 in
set_option maxRecDepth 100000 in
theorem clocks_walk (a : Int) (sa : Option Addr) (len cap : Nat) (w : World) (ha : (Lit.int .u64 a).wf = true) (hr : IsActs w sa len cap) (hv : Vars w) :
    Calls Tryd.prog 5 #[.int .u64 a, .slice sa len cap] w fun e w' => e = .returned (.bool true) ∧ Below w.heap.size w w' := by
  obtain ⟨a0, a1⟩ := bounds_u64 ha
  clear ha
  by_cases hl : 60 < len
  · go_enter Tryd.func5, Tryd.ntmps5
    go_wp2_with (first | (go_at_call 8; refine (known_any _ hv).mono ?_; rintro e w3 ⟨rfl, hb3⟩))
    go_ret
    exact ⟨rfl, hb3⟩
  · by_cases hN : a = 18446744073709551615
    · subst hN
      go_enter Tryd.func5, Tryd.ntmps5
      go_wp2_with (first | (go_at_call 21; refine (new_no _).mono ?_; rintro e w' ⟨rfl, rfl⟩) | (go_at_call 22; refine (rnew_no _).mono ?_; rintro e w1 ⟨rfl, hb1⟩) | (go_at_call 8; fail))
      have hb0 : Below w.heap.size w (w1.alloc (Obj.cells #[.int .u64 0] 44)) := hb1.alloc hb1.size _
      refine (known_any _ (hv.below hb0)).mono ?_
      rintro e w2 ⟨rfl, hb2⟩
      go_wp2_with fail
      go_ret
      exact ⟨rfl, hb0.trans (hb2.mono hb0.size)⟩
    · have q : (a == 18446744073709551615) = false := by simp [hN]
      have HV := Lib.hid hv
      have a2 : a < 18446744073709551615 := by omega
      clear hv hN
      go_enter Tryd.func5, Tryd.ntmps5
      go_wp2_with (first | (go_at_call 21; refine (new_ok _ _ q).mono ?_; rintro e w' ⟨rfl, rfl⟩) | (go_at_call 22; refine (rnew_ok _ _ q).mono ?_; rintro e w1 ⟨rfl, hb1⟩) | (go_at_call 8; fail))
      have hb0 : Below w.heap.size w w1 := (one_new w _).trans (hb1.mono (by simp))
      have hlt : w.heap.size < w1.heap.size := by have := hb1.size; simp at this; omega
      have hst : St w (w1.alloc (Obj.cells #[.int .u64 a] 44)) w1.heap.size w.heap.size a :=
        ⟨((clk_new w a).below hb1).below (one_new w1 _), box_new w1 a, a0, by omega, by omega, Nat.le_refl _, by omega, hb0.alloc (by omega) _⟩
      have HST := Lib.hid hst
      clear hst hb1
      go_loopw [5, 6, 8, 41] (fun c e f i wr => ∃ (k N : Nat) (t x : Int), k ≤ len ∧ i = .int .i64 k ∧ c = .pointer (some ⟨N, 0, none⟩) ∧ e = .int .i64 x ∧ f = .int .i64 x ∧ St w wr w1.heap.size N t) (fun _ _ _ i _ => len - (intOf i).toNat)
      case atStart => exact ⟨0, w.heap.size, a, 0, Nat.zero_le _, rfl, rfl, rfl, rfl, HST.out⟩
      case round =>
        obtain ⟨k, N, t, x, hk, rfl, rfl, rfl, rfl, hS⟩ := hrel
        have hbw := hS.below
        by_cases hlt2 : k < len
        · rcases hr with h0 | ⟨b, off, rfl, _, hblt, hcs⟩
          · omega
          · obtain ⟨x0, x1, x2, c0, c1, c2, w0, w1', w2'⟩ := hcs k hlt2
            have c0 : wr.cell? ⟨b, off + k * 3, none⟩ = some (.int .i64 x0) := (hbw.cell (p := ⟨b, off + k * 3, none⟩) hblt).trans c0
            have c1 : wr.cell? ⟨b, off + k * 3 + 1, none⟩ = some (.int .u64 x1) := (hbw.cell (p := ⟨b, off + k * 3 + 1, none⟩) hblt).trans c1
            have c2 : wr.cell? ⟨b, off + k * 3 + 2, none⟩ = some (.int .u64 x2) := (hbw.cell (p := ⟨b, off + k * 3 + 2, none⟩) hblt).trans c2
            obtain ⟨x10, x11⟩ := bounds_u64 w1'
            obtain ⟨x20, x21⟩ := bounds_u64 w2'
            have HS := Lib.hid hS
            clear hcs hS hbw w0 w1' w2' hb0
            by_cases hx0 : x0 = 0
            · subst hx0
              go_wp2_with (go_at_call 23; fail)
              have hwa := one_new wr (Obj.cells #[.int .i64 0, .int .u64 x1, .int .u64 x2] 48)
              refine (adv_any N t x1 _ (HS.out.clk.below hwa) x11).mono ?_
              rintro e w2 ⟨rfl, hk2, ho2⟩
              obtain ⟨ca1, ca2⟩ := act_cells wr w2 N 0 x1 x2 HS.out.clk.lt ho2
              have hbx2 := (HS.out.box.below hwa).other ho2 HS.out.ne.symm
              have hd2 := hbx2.c0
              go_wp2_with (go_at_call 24; refine (radv_at t x1 _).mono ?_; rintro e w3 ⟨rfl, hb3⟩; have hbx3 := hbx2.below hb3; have hd3 := hbx3.c0; have hf3 := hbx3.f0)
              obtain ⟨u0, u1⟩ := advT_in t x1 HS.out.t0 HS.out.t1 x10 x11
              have hs4 := HS.out.step u0 u1 hwa hk2 ho2 hb3
              have hq4 := hs4.box.c0
              have hk4 := Lib.hid (fun n => hs4.clk.drewN n)
              have HS4 := Lib.hid hs4
              have q6 : (advE t x1 != advE t x1) = false := by simp
              have q7 : (advT t x1 != advT t x1) = false := by simp
              clear hs4
              go_quiet ((go_at_call 28; exact Calls.quiet_of_same ((now_any _ _ _ (hk4.out _)).mono fun _ _ h => ⟨h.1, h.2.symm⟩)))
              go_wp2_with fail
              go_roundw
              case rel => exact ⟨k + 1, N, _, _, by omega, by go_num, rfl, rfl, rfl, HS4.out.drewN _⟩
              case measure => simp [intOf]; omega
            · have qx0 : (x0 == 0) = false := by simp [hx0]
              by_cases hx1 : x0 = 1
              · subst hx1
                clear hx0
                go_wp2_with (go_at_call 25; fail)
                have hwa := one_new wr (Obj.cells #[.int .i64 1, .int .u64 x1, .int .u64 x2] 48)
                have ht1 := HS.out.t1
                refine (pas_any N t x2 _ (HS.out.clk.below hwa) HS.out.t0 (by omega) x20 x21).mono ?_
                rintro e w2 ⟨rfl, hk2, ho2⟩
                obtain ⟨ca1, ca2⟩ := act_cells wr w2 N 1 x1 x2 HS.out.clk.lt ho2
                have hbx2 := (HS.out.box.below hwa).other ho2 HS.out.ne.symm
                have hd2 := hbx2.c0
                go_wp2_with (go_at_call 26; refine (rpas_at t x2 _ HS.out.t0 (by omega) x20 x21).mono ?_; rintro e w3 ⟨rfl, hb3⟩; have hbx3 := hbx2.below hb3; have hd3 := hbx3.c0; have hf3 := hbx3.f0)
                obtain ⟨u0, u1⟩ := pasT_in t x2 HS.out.t0 HS.out.t1 x20
                have hs4 := HS.out.step u0 u1 hwa hk2 ho2 hb3
                have hq4 := hs4.box.c0
                have hk4 := Lib.hid (fun n => hs4.clk.drewN n)
                have HS4 := Lib.hid hs4
                have q6 : (pasE t x2 != pasE t x2) = false := by simp
                have q7 : (pasT t x2 != pasT t x2) = false := by simp
                clear hs4
                go_quiet ((go_at_call 28; exact Calls.quiet_of_same ((now_any _ _ _ (hk4.out _)).mono fun _ _ h => ⟨h.1, h.2.symm⟩)))
                go_wp2_with fail
                go_roundw
                case rel => exact ⟨k + 1, N, _, _, by omega, by go_num, rfl, rfl, rfl, HS4.out.drewN _⟩
                case measure => simp [intOf]; omega
              · have qx1 : (x0 == 1) = false := by simp [hx1]
                clear hx0 hx1
                go_wp2_with (go_at_call 27; fail)
                have hwa := one_new wr (Obj.cells #[.int .i64 x0, .int .u64 x1, .int .u64 x2] 48)
                have ht1 := HS.out.t1
                have hck := HS.out.clk.below hwa
                refine (copy_any N t _ hck).mono ?_
                rintro e w2 ⟨rfl, rfl⟩
                go_wp2_with (go_at_call 25; fail)
                have hck2 := hck.below (one_new _ (Obj.cells #[.int .u64 t, .bool true] 56))
                have hp1 := pas_any N t 0 _ hck2 HS.out.t0 (by omega) (by omega) (by omega)
                rw [pasE_zero t ht1] at hp1
                refine hp1.mono ?_
                rintro e wd ⟨rfl, hkd, hod⟩
                obtain ⟨u0, u1⟩ := pasT_in t 0 HS.out.t0 HS.out.t1 (by omega)
                clear hp1
                go_wp2_with (go_at_call 25; refine (pas_any N _ 7 _ hkd u0 (by omega) (by omega) (by omega)).mono ?_; rintro e we ⟨rfl, hke, hoe⟩)
                have hs4 := HS.out.fresh hwa hod hoe
                have hq4 := hs4.box.c0
                have hk4 := Lib.hid (fun n => hs4.clk.drewN n)
                have HS4 := Lib.hid hs4
                have q7 : (t != t) = false := by simp
                clear hs4
                simp only [World.size_alloc] at hk4
                go_quiet ((go_at_call 28; exact Calls.quiet_of_same ((now_any _ _ _ (hk4.out _)).mono fun _ _ h => ⟨h.1, h.2.symm⟩)))
                go_wp2_with fail
                go_roundw
                case rel => exact ⟨k + 1, wr.heap.size + 1, t, 0, by omega, by go_num, rfl, rfl, rfl, by have h := HS4.out.drewN; simp only [World.size_alloc] at h; exact h _⟩
                case measure => simp [intOf]; omega
        · have hvr := HV.out.below hbw
          go_wp2_with (go_at_call 8; refine (known_any _ hvr).mono ?_; rintro e w6 ⟨rfl, hb6⟩)
          go_ret
          exact ⟨rfl, hbw.trans (hb6.mono hbw.size)⟩
end Go.Proofs.YtdcmebnahlajcaaDoor
