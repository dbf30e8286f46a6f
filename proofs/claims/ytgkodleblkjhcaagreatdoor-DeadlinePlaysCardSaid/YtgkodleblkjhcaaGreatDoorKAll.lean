/- KAll: JAll, merged. -/
import Derived.Test.YtgkodleblkjhcaaGreatDoorKLook
import Derived.OpenShut
/- The walk of DeadlineAll. -/
namespace Go.Proofs.YtgkodleblkjhcaaGreatDoor
open Go.RowKit Go.Sort
set_option linter.unusedVariables false
set_option linter.unusedSimpArgs false

/-- The law's own blocks: its box and the reference's list. -/
def GB (s : Value) (b : Nat) : Nat → Prop := fun j => j = b ∨ s.ownBlock = some j
structure AllSt (w wr : World) (a b : Nat) (s : Value) (f : Nat → Int) (L : List (Int × Nat)) (k : Nat) : Prop where
  J : JAt w (GB s b) wr a 0 f k
  box : wr.heap[b]? = some (.cells #[.int .u64 0, s] 32 (0, 0))
  row : RowL wr w.heap.size s L
  ok : ROK f L
  hb : w.heap.size ≤ b

set_option maxRecDepth 1000000 in
set_option maxHeartbeats 1600000 in
theorem all_known {first step to' : Int} {w : World} (hT : Tab w) (h : first < 1 ∨ 1000 < first ∨ 9 < step ∨ 4000 < to') :
    Calls Tryz.prog 4 #[.int .u64 first, .int .u64 step, .int .u64 to'] w fun e w' => e = .returned (.bool true) ∧ Below w.heap.size w w' := by
  have hk := Lib.hid (jknown_any w hT)
  by_cases h1 : first < 1
  · have d1 : decide (first < 1) = true := by simpa using h1
    clear h h1
    go_enter Tryz.func4, Tryz.ntmps4
    go_wp2_with (go_at_call 5; refine hk.out.mono ?_; rintro e w1 ⟨rfl, hb⟩)
    go_ret
    exact ⟨rfl, hb⟩
  · have d1 : decide (first < 1) = false := by simpa using h1
    by_cases h2 : 1000 < first
    · have d2 : decide (1000 < first) = true := by simpa using h2
      clear h h1 h2
      go_enter Tryz.func4, Tryz.ntmps4
      go_wp2_with (go_at_call 5; refine hk.out.mono ?_; rintro e w1 ⟨rfl, hb⟩)
      go_ret
      exact ⟨rfl, hb⟩
    · have d2 : decide (1000 < first) = false := by simpa using h2
      by_cases h3 : 9 < step
      · have d3 : decide (9 < step) = true := by simpa using h3
        clear h h1 h2 h3
        go_enter Tryz.func4, Tryz.ntmps4
        go_wp2_with (go_at_call 5; refine hk.out.mono ?_; rintro e w1 ⟨rfl, hb⟩)
        go_ret
        exact ⟨rfl, hb⟩
      · have d3 : decide (9 < step) = false := by simpa using h3
        have d4 : decide (4000 < to') = true := by simp; omega
        clear h h1 h2 h3
        go_enter Tryz.func4, Tryz.ntmps4
        go_wp2_with (go_at_call 5; refine hk.out.mono ?_; rintro e w1 ⟨rfl, hb⟩)
        go_ret
        exact ⟨rfl, hb⟩

set_option maxRecDepth 1000000 in
set_option maxHeartbeats 12800000 in
theorem all_main {first step to' : Int} {w : World} (hT : Tab w) (h1 : 1 ≤ first) (h2 : first ≤ 1000) (h0 : 0 ≤ step) (h3 : step ≤ 9) (h5 : 0 ≤ to') (h4 : to' ≤ 4000) :
    Calls Tryz.prog 4 #[.int .u64 first, .int .u64 step, .int .u64 to'] w fun e w' => e = .returned (.bool true) ∧ Below w.heap.size w w' := by
  have mixed : Tryz.prog.follows .mixedOrders = true := by kernel_rfl
  have d1 : decide (first < 1) = false := by simp; omega
  have d2 : decide (1000 < first) = false := by simp; omega
  have d3 : decide (9 < step) = false := by simp; omega
  have d4 : decide (4000 < to') = false := by simp; omega
  have hnew := Lib.hid (jNew_yes w w (fun _ => False) (fun _ h => h.elim) (Below.refl _ _) 0 (by decide))
  have HA := Lib.hid (And.intro h1 (And.intro h2 (And.intro h0 (And.intro h3 (And.intro h5 h4)))))
  have hsp := Lib.hid lspot_any
  go_enter Tryz.func4, Tryz.ntmps4
  go_wp2_with (go_at_call 6; fail)
  refine hnew.out.mono ?_
  rintro e w1 ⟨a, rfl, J1, b1⟩
  have HJ1 := Lib.hid J1
  have hrn := Lib.hid (rnew_yes w1 0 (by decide))
  unfold rdv at hrn
  clear J1 b1 hnew
  unfold pt
  go_wp2_with (go_at_call 7; fail)
  refine hrn.out.mono ?_
  rintro e w2 ⟨rfl, hb2⟩
  obtain ⟨b, hbn⟩ : ∃ b, w2.heap.size = b := ⟨_, rfl⟩
  obtain ⟨w3, hw3⟩ : ∃ w3, w2.alloc (.cells #[.int .u64 0, .slice none 0 0] 32) = w3 := ⟨_, rfl⟩
  have hb3 : Below w2.heap.size w2 w3 := by rw [← hw3]; exact (Below.refl _ _).alloc (Nat.le_refl _) _
  have hbx : w3.heap[b]? = some (.cells #[.int .u64 0, .slice none 0 0] 32 (0, 0)) := by rw [← hw3, ← hbn]; exact block_new _ _ _ rfl
  have HST : Hid (AllSt w w3 a b (.slice none 0 0) (fun _ => never) [] 0) := Lib.hid ⟨HJ1.out.more (hb2.trans (hb3.mono hb2.size)) (fun k hk => by
      rcases hk with hk | hk
      · subst hk; exact .inr ⟨by rw [← hbn]; exact hb2.size, lt_of_block hbx⟩
      · simp [Value.ownBlock] at hk), hbx, World.ownsRow_nil _ _ _ _, ROK.init, by rw [← hbn]; exact Nat.le_trans HJ1.out.below.size hb2.size⟩
  have HW3 := Lib.hid (And.intro hw3 hbn)
  clear hb2 hb3 hbx hw3 hbn HJ1 hrn
  go_upto_region 7 with (fail)
  rw [HW3.out.1, HW3.out.2]
  clear HW3
  go_wp2_with fail
  go_loopw [11] (fun i wr => ∃ (k : Nat) (s : Value) (f : Nat → Int) (L : List (Int × Nat)), k ≤ 256 ∧ i = .int .i64 k ∧ AllSt w wr a b s f L k) (fun i _ => 256 - (intOf i).toNat)
  case atStart => exact ⟨0, _, _, _, by omega, rfl, HST.out⟩
  case round =>
    obtain ⟨k, s, f, L, hk, rfl, hst⟩ := hrel
    clear HST
    have HS := Lib.hid hst
    by_cases hlt : k < 256
    · obtain ⟨q, hq⟩ : ∃ q, (255 - k) / 2 = q := ⟨_, rfl⟩
      obtain ⟨r, hr⟩ : ∃ r, (255 - k) % 2 = r := ⟨_, rfl⟩
      have hqr : q < 128 ∧ r < 2 := by omega
      have hki : (k : Int) < 256 := by omega
      have i1 : Int.tdiv (255 - (k : Int)) 2 = (q : Int) := by rw [Int.tdiv_eq_ediv_of_nonneg (by omega)]; omega
      have i2 : Int.tmod (255 - (k : Int)) 2 = (r : Int) := by rw [Int.tmod_eq_emod_of_nonneg (by omega)]; omega
      obtain ⟨c, hc⟩ : ∃ c, step * (k : Int) = c := ⟨_, rfl⟩
      have hc0 : 0 ≤ c ∧ c ≤ 2304 := by
        rw [← hc]
        have h1 := HA.out.2.2.1
        have h2 := HA.out.2.2.2.1
        exact ⟨Int.mul_nonneg h1 (by omega), by have := Int.mul_le_mul h2 (show (k : Int) ≤ 256 by omega) (by omega) (by omega); omega⟩
      obtain ⟨E, hE⟩ : ∃ E, wr.heap.size + 1 = E := ⟨_, rfl⟩
      obtain ⟨w4, hw4⟩ : ∃ w4, (wr.alloc (.cells #[.int .i64 (q : Int), .int .i64 (r : Int)] 37)).alloc (.cells #[.int .i64 (q : Int), .int .i64 (r : Int)] 37) = w4 := ⟨_, rfl⟩
      have hb4 : Below wr.heap.size wr w4 := by rw [← hw4]; exact ((Below.refl _ _).alloc (Nat.le_refl _) _).alloc (by simp) _
      have hE4 : w4.heap[E]? = some (.cells #[.int .i64 (q : Int), .int .i64 (r : Int)] 37 (0, 0)) := by rw [← hw4, ← hE]; exact block_new _ _ _ (by simp)
      have HJ4 : Hid (JAt w (fun j => GB s b j ∨ j = E) w4 a 0 f k) := Lib.hid (hst.J.more hb4 (fun j hj => by
        rcases hj with h | h
        · exact .inl h
        · subst h; exact .inr ⟨by omega, lt_of_block hE4⟩))
      have HR4 := Lib.hid (hst.row.below hb4)
      have HX4 := Lib.hid ((hb4.block _ (lt_of_block hst.box)).trans hst.box)
      have HE4 := Lib.hid hE4
      have HOK := Lib.hid hst.ok
      have HBB := Lib.hid hst.hb
      have HLT := Lib.hid hlt
      have HQR := Lib.hid hqr
      have HW4 := Lib.hid (And.intro hw4 hE)
      have HC0 := Lib.hid hc0
      have HC := Lib.hid hc
      obtain ⟨d, hd⟩ : ∃ d, first + c = d := ⟨_, rfl⟩
      have hdd : 1 ≤ d ∧ d ≤ 3304 := by have h1 := HA.out.1; have h2 := HA.out.2.1; omega
      have HD := Lib.hid hd
      have e1 : IntKind.u64.wrap (k : Int) = (k : Int) := by rw [IntKind.wrap_u64]; omega
      have e2 : IntKind.u64.wrap c = c := by rw [IntKind.wrap_u64]; omega
      have e3 : IntKind.u64.wrap (first + c) = d := by rw [IntKind.wrap_u64, hd]; omega
      have e4 : IntKind.i64.wrap (255 - (k : Int)) = 255 - (k : Int) := by rw [IntKind.wrap_i64]; omega
      have e5 : IntKind.i64.wrap (q : Int) = (q : Int) := by rw [IntKind.wrap_i64]; omega
      have e6 : IntKind.i64.wrap (r : Int) = (r : Int) := by rw [IntKind.wrap_i64]; omega
      have hset := Lib.hid (jSet_yes HJ4.out hqr.1 hqr.2 d (by unfold never; omega) hT (by omega))
      have hdn : decide (d ≤ 0) = false := by simp; omega
      rw [hdn] at hset
      clear hst hw4 hb4 hE4 hE hq hr hlt hk hqr HS hd
      go_upto_region 10 with (fail)
      go_upto_region 11 with (first | (go_at_call 10; refine (hsp.out _ _ _).mono ?_; rintro e w' ⟨rfl, rfl⟩))
      rw [HW4.out.1, HW4.out.2]
      have y0 := cells_cell (o := 0) HE4.out rfl
      have y1 := cells_cell (o := 1) HE4.out rfl
      unfold pt plc at hset
      go_wp2_with (go_at_call 11; fail)
      refine hset.out.mono ?_
      rintro e w5 ⟨rfl, J5, K5⟩
      have HJ5 := Lib.hid J5
      have hX5 := (K5 b (.inl (.inl rfl))).trans HX4.out
      have hE5 := (K5 E (.inr rfl)).trans HE4.out
      have hR5 : RowL w5 w.heap.size s L := ⟨HR4.out.1, by
        rcases HR4.out.2 with h' | ⟨g, cap, cur, rfl, hb, hg, r'⟩
        · exact .inl h'
        · exact .inr ⟨g, cap, cur, rfl, hb, (K5 g (.inl (.inr rfl))).trans hg, r'⟩⟩
      have HX5 := Lib.hid hX5
      obtain ⟨sa, sc, rfl⟩ := slice_form hR5
      have hrs := Lib.hid (rset_yes (now := 0) hR5 J5.below.size HOK.out (by decide) HQR.out.1 HQR.out.2 d (by unfold never; omega))
      rw [hdn] at hrs
      unfold rdv at hrs
      clear J5 K5 y0 y1 hset HJ4 HR4 HX4 HE4 HW4
      have x0 := cells_cell (o := 0) hX5 rfl
      have x1 := cells_cell (o := 1) hX5 rfl
      have y0 := cells_cell (o := 0) hE5 rfl
      have y1 := cells_cell (o := 1) hE5 rfl
      clear hX5 hE5 hR5
      go_wp2_with (go_at_call 12; fail)
      refine hrs.out.mono ?_
      rintro e w6 ⟨s', L', rfl, hr6, R6, hb6⟩
      obtain ⟨sa', sc', rfl⟩ := slice_form hr6
      obtain ⟨Z, hZ⟩ : ∃ Z, w6.heap.size = Z := ⟨_, rfl⟩
      obtain ⟨w7, hw7⟩ : ∃ w7, w6.alloc (.cells #[.int .u64 0, .slice sa' L'.length sc'] 32) = w7 := ⟨_, rfl⟩
      have hb7 : Below w6.heap.size w6 w7 := by rw [← hw7]; exact (Below.refl _ _).alloc (Nat.le_refl _) _
      have hZ7 : w7.heap[Z]? = some (.cells #[.int .u64 0, .slice sa' L'.length sc'] 32 (0, 0)) := by rw [← hw7, ← hZ]; exact block_new _ _ _ rfl
      have hb57 := hb6.trans (hb7.mono hb6.size)
      have hX7 := (hb57.block _ (lt_of_block HX5.out)).trans HX5.out
      have hff := (fr_setCell w7 ⟨b, 0, none⟩ (.int .u64 0)).trans' (fr_setCell _ ⟨b, 1, none⟩ (.slice sa' L'.length sc'))
      have hR7 := hr6.below hb7
      have HFIN : Hid (AllSt w ((w7.setCell ⟨b, 0, none⟩ (.int .u64 0)).setCell ⟨b, 1, none⟩ (.slice sa' L'.length sc')) a b (.slice sa' L'.length sc') (upd f (q * 2 + r) d) L' (k + 1)) := Lib.hid (by
        have hj := HJ5.out.more (G' := GB (.slice sa' L'.length sc') b) hb57 (fun g hg => by
          rcases hg with h | h
          · exact .inl (.inl (.inl h))
          · have := hr6.lt g h; exact .inr ⟨this.1, Nat.lt_of_lt_of_le this.2 hb7.size⟩)
        refine ⟨hj.write hff (fun g hg => ?_), set2 hX7 (.int .u64 0) (.slice sa' L'.length sc'), RowL.fr (ownsRow_mono hR7 HJ5.out.below.size) hff (fun g hg hm => ?_), R6, HBB.out⟩
        · simp at hg
          exact ⟨.inl hg, by rw [hg]; exact HBB.out⟩
        · simp at hm
          have h1 := (hr6.lt g hg).1
          have h2 := lt_of_block HX5.out
          omega)
      have HW7 := Lib.hid (And.intro hw7 hZ)
      clear x0 x1 y0 y1 hrs hr6 R6 hb6 hb7 hb57 hff hR7 hw7 hZ HX5 HJ5
      have f0 := cells_free hX7 0
      have f1 := cells_free hX7 1
      have x0 := cells_cell (o := 0) hX7 rfl
      have x1 := cells_cell (o := 1) hX7 rfl
      have z0 := cells_cell (o := 0) hZ7 rfl
      have z1 := cells_cell (o := 1) hZ7 rfl
      have hbl := lt_of_block hX7
      clear hX7 hZ7
      go_upto_region 13 with (fail)
      rw [HW7.out.1, HW7.out.2]
      go_wp2_with fail
      go_roundw
      case rel => exact ⟨k + 1, _, _, _, by have := HLT.out; omega, by go_num, HFIN.out⟩
      case measure => simp [intOf]; have := HLT.out; omega
    · obtain rfl : k = 256 := by omega
      have HR := Lib.hid hst.row
      have HX := Lib.hid hst.box
      have HOK := Lib.hid hst.ok
      have HBB := Lib.hid hst.hb
      have HJ := Lib.hid hst.J
      clear hst HS hlt hk
      have hadv := Lib.hid (jAdv_yes HJ.out (tt := to') (by have := HA.out.2.2.2.2.2; unfold never; omega) (by have := HA.out.2.2.2.2.1; omega) (by omega))
      unfold pt at hadv
      go_wp2_with (go_at_call 13; fail)
      refine hadv.out.mono ?_
      rintro e w5 ⟨v5, O5, rfl, hlap, hr5, J5, K5, hs5⟩
      have htt : to' < never := by have := HA.out.2.2.2.2.2; unfold never; omega
      have hX5 := (K5 b (.inl rfl)).trans HX.out
      have hR5 : RowL w5 w.heap.size s L := ⟨HR.out.1, by
        rcases HR.out.2 with h' | ⟨g, cap, cur, rfl, hb, hg, r'⟩
        · exact .inl h'
        · exact .inr ⟨g, cap, cur, rfl, hb, (K5 g (.inr rfl)).trans hg, r'⟩⟩
      have HJ5 := Lib.hid J5
      have HV5 := Lib.hid hr5
      have HLP := Lib.hid hlap
      have HTT := Lib.hid htt
      have HR5 := Lib.hid hR5
      obtain ⟨sa, sc, rfl⟩ := slice_form hR5
      have hra := Lib.hid (radv_yes (now := 0) hR5 HOK.out.ndL HOK.out.len (by decide) htt (by have := HA.out.2.2.2.2.1; omega))
      unfold rdv at hra
      clear J5 K5 hs5 hlap hr5 hadv htt hR5 HR HX HJ
      have x0 := cells_cell (o := 0) hX5 rfl
      have x1 := cells_cell (o := 1) hX5 rfl
      clear hX5
      go_wp2_with (go_at_call 14; fail)
      refine hra.out.mono ?_
      rintro e w6 ⟨v6, O6, rfl, hr6, hi6, hb6⟩
      have hO : O6 = O5 := (lap_of HOK.out hi6 HTT.out).unique HLP.out
      subst hO
      obtain ⟨p5, c5, rfl⟩ := slice_form HV5.out
      obtain ⟨p6, c6, rfl⟩ := slice_form hr6
      obtain ⟨on, hon⟩ : ∃ on, O6.length = on := ⟨_, rfl⟩
      rw [hon] at HV5 HJ5 hr6 ⊢
      obtain ⟨Z, hZ⟩ : ∃ Z, w6.heap.size = Z := ⟨_, rfl⟩
      obtain ⟨w7, hw7⟩ : ∃ w7, w6.alloc (.cells #[.int .u64 to', .slice sa L.length sc] 32) = w7 := ⟨_, rfl⟩
      obtain ⟨wd, hwd⟩ : ∃ wd, w7.drew = wd := ⟨_, rfl⟩
      have hb7 : Below w6.heap.size w6 w7 := by rw [← hw7]; exact (Below.refl _ _).alloc (Nat.le_refl _) _
      have hZ7 : w7.heap[Z]? = some (.cells #[.int .u64 to', .slice sa L.length sc] 32 (0, 0)) := by rw [← hw7, ← hZ]; exact block_new _ _ _ rfl
      have hbd : Below w7.heap.size w7 wd := by rw [← hwd]; exact (Below.refl _ _).drew
      have h6d := hb7.trans (hbd.mono hb7.size)
      have h5d := hb6.trans (h6d.mono hb6.size)
      have HJd := Lib.hid (HJ5.out.grown h5d)
      have HRd := Lib.hid (HR5.out.below h5d)
      have HVd := Lib.hid (HV5.out.below h5d)
      have HUd := Lib.hid (hr6.below h6d)
      have HZd := Lib.hid ((hbd.block _ (lt_of_block hZ7)).trans hZ7)
      have hS : Hid (wd.cell? ⟨Z, 0, none⟩ = some (.int .u64 to') ∧ wd.cell? ⟨Z, 1, none⟩ = some (.slice sa L.length sc)) := Lib.hid ⟨cells_cell (o := 0) HZd.out rfl, cells_cell (o := 1) HZd.out rfl⟩
      have hsm := Lib.hid (jsame_any HVd.out HUd.out (by have := HLP.out.len; omega))
      have HW7 := Lib.hid (And.intro hw7 (And.intro hZ hwd))
      clear hr6 hi6 hb6 hZ7 hb7 hbd h6d h5d hw7 hZ hwd x0 x1 hra HJ5 HR5 HV5 hon
      go_upto_region 18 with (fail)
      rw [HW7.out.1, HW7.out.2.1]
      refine wp_region_mix (fun W' => W'.cell? ⟨Z, 0, none⟩ = some (.int .u64 to') ∧ W'.cell? ⟨Z, 1, none⟩ = some (.slice sa L.length sc)) 17 [(true, 0), (true, 1), (false, 2), (true, 3), (true, 4), (true, 5), (true, 6), (true, 7), (true, 8), (true, 9), (true, 10), (false, 11), (false, 12), (true, 13), (true, 14), (false, 15), (true, 16)] mixed (by kernel_rfl) (fun _ _ _ d _ h => by cases d <;> exact h) ?_
      rw [HW7.out.2.2]
      simp only [List.map_cons, List.map_nil, List.getD_cons_zero, List.getD_cons_succ, List.drop_succ_cons, List.drop_zero]
      refine mix_move (.tmp 18) (.slice p5 on c5) rfl hS.out rfl rfl ?_
      simp only [Act.put, List.setIfInBounds_toArray, List.set_cons_zero, List.set_cons_succ]
      refine mix_move (.tmp 20) (.slice p6 on c6) rfl hS.out rfl rfl ?_
      simp only [Act.put, List.setIfInBounds_toArray, List.set_cons_zero, List.set_cons_succ]
      refine mix_step rfl (fun K hK => ?_)
      go_simp
      go_wp2_with (go_at_call 15; fail)
      refine hsm.out.mono ?_
      rintro e w8 ⟨rfl, n, rfl⟩
      have hb8 : Below wd.heap.size wd (wd.drewN n) := (fr_drewN wd n []).below (fun _ hx => by simp at hx) (Nat.le_refl _)
      obtain ⟨w8, hw8⟩ : ∃ w8, wd.drewN n = w8 := ⟨_, rfl⟩
      rw [hw8] at hb8
      have HB8 := Lib.hid hb8
      have HS8 : Hid (w8.cell? ⟨Z, 0, none⟩ = some (.int .u64 to') ∧ w8.cell? ⟨Z, 1, none⟩ = some (.slice sa L.length sc)) := Lib.hid (by
        have hz := (hb8.block _ (lt_of_block HZd.out)).trans HZd.out
        exact ⟨cells_cell (o := 0) hz rfl, cells_cell (o := 1) hz rfl⟩)
      refine hK _ _ (by rw [hw8]; exact HS8.out) ?_
      rw [hw8]
      clear hK K hw8 hb8 hsm hS
      refine mix_move (.tmp 111) (.bool true) rfl HS8.out rfl rfl ?_
      simp only [Act.put, List.setIfInBounds_toArray, List.set_cons_zero, List.set_cons_succ]
      refine mix_move (.tmp 8) (.int .i64 0) rfl HS8.out rfl rfl ?_
      simp only [Act.put, List.setIfInBounds_toArray, List.set_cons_zero, List.set_cons_succ]
      refine mix_move (.tmp 10) (.int .i64 0) rfl HS8.out rfl rfl ?_
      simp only [Act.put, List.setIfInBounds_toArray, List.set_cons_zero, List.set_cons_succ]
      refine mix_take (.bool true) HS8.out rfl (fun W' hS => by go_simp) ?_
      simp only [Act.put, List.setIfInBounds_toArray, List.set_cons_zero, List.set_cons_succ]
      refine mix_take (.bool true) HS8.out rfl (fun W' hS => by go_simp) ?_
      simp only [Act.put, List.setIfInBounds_toArray, List.set_cons_zero, List.set_cons_succ]
      refine mix_move (.tmp 116) (.bool true) rfl HS8.out rfl rfl ?_
      simp only [Act.put, List.setIfInBounds_toArray, List.set_cons_zero, List.set_cons_succ]
      refine mix_move (.tmp 7) (.pointer (some ⟨a, 0, none⟩)) rfl HS8.out rfl rfl ?_
      simp only [Act.put, List.setIfInBounds_toArray, List.set_cons_zero, List.set_cons_succ]
      refine mix_take (.agg #[.int .u64 to', .slice sa L.length sc]) HS8.out rfl (fun W' hS => by obtain ⟨l0, l1⟩ := hS; go_simp) ?_
      simp only [Act.put, List.setIfInBounds_toArray, List.set_cons_zero, List.set_cons_succ]
      obtain ⟨w9, hw9⟩ : ∃ w9, w8.alloc (.cells #[.int .i64 0, .int .i64 0] 37) = w9 := ⟨_, rfl⟩
      have hb9 : Below w8.heap.size w8 w9 := by rw [← hw9]; exact (Below.refl _ _).alloc (Nat.le_refl _) _
      have h9d := HB8.out.trans (hb9.mono HB8.out.size)
      have HS9 : Hid (w9.cell? ⟨Z, 0, none⟩ = some (.int .u64 to') ∧ w9.cell? ⟨Z, 1, none⟩ = some (.slice sa L.length sc)) := Lib.hid (by
        have hz := (h9d.block _ (lt_of_block HZd.out)).trans HZd.out
        exact ⟨cells_cell (o := 0) hz rfl, cells_cell (o := 1) hz rfl⟩)
      have HZ9 := Lib.hid ((h9d.block _ (lt_of_block HZd.out)).trans HZd.out)
      have HJ9 := Lib.hid (HJd.out.grown h9d)
      have hlk := Lib.hid (looks_any HJ9.out (HRd.out.below h9d) HOK.out 0 0)
      have HW9 := Lib.hid hw9
      unfold pt rdv at hlk
      clear hw9 hb9 h9d HB8 HZd HJd HRd HVd HUd
      refine mix_step rfl (fun K hK => ?_)
      go_simp
      go_wp2_with (go_at_call 10; fail)
      refine (hsp.out _ _ _).mono ?_
      rintro e w' ⟨rfl, rfl⟩
      refine hK _ _ (by rw [HW9.out]; exact HS9.out) ?_
      rw [HW9.out]
      clear hK K HS8
      refine mix_step rfl (fun K hK => ?_)
      go_simp
      go_wp2_with (go_at_call 9; fail)
      refine hlk.out.mono ?_
      rintro e w10 ⟨rfl, hb10⟩
      have HS10 : Hid (w10.cell? ⟨Z, 0, none⟩ = some (.int .u64 to') ∧ w10.cell? ⟨Z, 1, none⟩ = some (.slice sa L.length sc)) := Lib.hid (by
        have hz := (hb10.block _ (lt_of_block HZ9.out)).trans HZ9.out
        exact ⟨cells_cell (o := 0) hz rfl, cells_cell (o := 1) hz rfl⟩)
      have hbw := HJ9.out.below.trans (hb10.mono HJ9.out.below.size)
      have HBW := Lib.hid hbw
      have HZ10 := Lib.hid ((hb10.block _ (lt_of_block HZ9.out)).trans HZ9.out)
      have hkn := Lib.hid (jknown_any w10 (hT.below hbw hT.lt))
      refine hK _ _ HS10.out ?_
      clear hK K hlk hb10 hbw HJ9 HZ9 HS9
      refine mix_take (.bool true) HS10.out rfl (fun W' hS => by go_simp) ?_
      simp only [Act.put, List.setIfInBounds_toArray, List.set_cons_zero, List.set_cons_succ]
      refine mix_move (.tmp 122) (.bool true) rfl HS10.out rfl rfl ?_
      simp only [Act.put, List.setIfInBounds_toArray, List.set_cons_zero, List.set_cons_succ]
      refine mix_step rfl (fun K hK => ?_)
      go_simp
      go_wp2_with (go_at_call 5; fail)
      refine hkn.out.mono ?_
      rintro e w11 ⟨rfl, hb11⟩
      have hz := (hb11.block _ (lt_of_block HZ10.out)).trans HZ10.out
      have HF := Lib.hid (HBW.out.trans (hb11.mono HBW.out.size))
      refine hK _ _ ⟨cells_cell (o := 0) hz rfl, cells_cell (o := 1) hz rfl⟩ ?_
      clear hK K hkn hb11
      refine mix_take (.bool true) ⟨cells_cell (o := 0) hz rfl, cells_cell (o := 1) hz rfl⟩ rfl (fun W' hS => by go_simp) ?_
      simp only [Act.put, List.setIfInBounds_toArray, List.set_cons_zero, List.set_cons_succ]
      refine mix_nil ?_
      go_wp2_with fail
      go_ret
      exact ⟨rfl, HF.out⟩

theorem deadlineAll_walk (first step to' : Int) (w : World) (h1 : (Lit.int .u64 first).wf = true) (h2 : (Lit.int .u64 step).wf = true) (h3 : (Lit.int .u64 to').wf = true) (hT : Tab w) :
    Calls Tryz.prog 4 #[.int .u64 first, .int .u64 step, .int .u64 to'] w fun e w' => e = .returned (.bool true) ∧ Below w.heap.size w w' := by
  obtain ⟨a0, a1⟩ := Go.bounds_u64 h1
  obtain ⟨b0, b1⟩ := Go.bounds_u64 h2
  obtain ⟨c0, c1⟩ := Go.bounds_u64 h3
  by_cases h : first < 1 ∨ 1000 < first ∨ 9 < step ∨ 4000 < to'
  · exact all_known hT h
  · exact all_main hT (by omega) (by omega) b0 (by omega) c0 (by omega)
end Go.Proofs.YtgkodleblkjhcaaGreatDoor
