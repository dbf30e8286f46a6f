/- cmp.Or, Offer, Take, New, Copy. -/
import Derived.Test.YtophkjnniodegaaVEnd
import Derived.StillTail
import Derived.StillTailTactics
namespace Go.Proofs.Ytophkjnniodegaa
open Go.RowKit Go.Sort
set_option linter.unusedVariables false
set_option linter.unusedSimpArgs false
/-- The first that is not 0. -/
def orI (a b : Int) : Int := if a = 0 then b else a
set_option maxHeartbeats 1600000 in
theorem or3_any (B cap : Nat) (x y z : Int) (w : World) (c0 : w.cell? ⟨B, 0, none⟩ = some (.int .i64 x)) (c1 : w.cell? ⟨B, 1, none⟩ = some (.int .i64 y)) (c2 : w.cell? ⟨B, 2, none⟩ = some (.int .i64 z)) :
    Calls Try.prog 34 #[.slice (some ⟨B, 0, none⟩) 3 cap] w fun e w' => e = .returned (.int .i64 (orI x (orI y z))) ∧ w' = w := by
  go_enter Try.func34, Try.ntmps34
  go_wp2_with fail
  go_loop [8] (fun i => ∃ k : Nat, k ≤ 3 ∧ (0 < k → x = 0) ∧ (1 < k → y = 0) ∧ (2 < k → z = 0) ∧ i = .int .i64 k) (fun i => 3 - (intOf i).toNat)
  case atStart => exact ⟨0, by omega, by omega, by omega, by omega, rfl⟩
  case round =>
    obtain ⟨k, hk, hx, hy, hz, rfl⟩ := hrel
    rcases (by omega : k = 0 ∨ k = 1 ∨ k = 2 ∨ k = 3) with rfl | rfl | rfl | rfl
    · clear hx hy hz
      by_cases h : x = 0
      · subst h
        go_wp2_with fail
        go_round
        case rel => exact ⟨1, by omega, by simp, by omega, by omega, by go_num⟩
        case measure => simp [intOf]
      · have q : (x != 0) = true := by simp [h]
        have he := Lib.hid (show orI x (orI y z) = x by unfold orI; rw [if_neg h])
        clear h
        go_wp2_with fail
        go_ret
        exact ⟨by rw [he.out]; rfl, rfl⟩
    · obtain rfl := hx (by omega)
      clear hx hy hz
      by_cases h : y = 0
      · subst h
        go_wp2_with fail
        go_round
        case rel => exact ⟨2, by omega, by simp, by simp, by omega, by go_num⟩
        case measure => simp [intOf]
      · have q : (y != 0) = true := by simp [h]
        have he := Lib.hid (show orI 0 (orI y z) = y by unfold orI; rw [if_pos rfl, if_neg h])
        clear h
        go_wp2_with fail
        go_ret
        exact ⟨by rw [he.out]; rfl, rfl⟩
    · obtain rfl := hx (by omega)
      obtain rfl := hy (by omega)
      clear hx hy hz
      by_cases h : z = 0
      · subst h
        go_wp2_with fail
        go_round
        case rel => exact ⟨3, by omega, by simp, by simp, by simp, by go_num⟩
        case measure => simp [intOf]
      · have q : (z != 0) = true := by simp [h]
        have he := Lib.hid (show orI 0 (orI 0 z) = z by unfold orI; rw [if_pos rfl, if_pos rfl])
        clear h
        go_wp2_with fail
        go_ret
        exact ⟨by rw [he.out]; rfl, rfl⟩
    · obtain rfl := hx (by omega)
      obtain rfl := hy (by omega)
      obtain rfl := hz (by omega)
      go_wp2_with fail
      go_ret
      exact ⟨rfl, rfl⟩
section
variable {w : World} {m b : Nat} {x : Mt}

theorem mtOffer_any {c : Nat} {v : Value} {Ps : Parts} (h : MAt w m b x) (R : RopeAt w c v Ps) : Calls Try.prog 18 #[pt m, v] w fun e w' => e = .returned (.int .i64 (offC x Ps.flatten).1) ∧ MAt w' m b (offC x Ps.flatten).2 ∧ Fr [b] w w' := by
  obtain ⟨y1, y2, y3, y4, y5, y6, rfl⟩ := R.shape
  obtain ⟨W, hW⟩ : ∃ W, W = w.alloc (.cells #[.slice y1 y2 y3, .slice y4 y5 y6] 52) := ⟨_, rfl⟩
  have hwb : Below w.heap.size w W := by rw [hW]; exact below_alloc _ _
  have hx := h.grown hwb
  have HB := Lib.hid hwb
  have hby := Lib.hid (bytes_any (R.grown hwb))
  obtain ⟨v, h1, h2⟩ := hx.ex
  obtain ⟨va, vc, rfl, _, _⟩ := h2.form
  have k := cells_cell (o := 0) hx.me rfl
  have k0 := cells_cell (o := 0) h1 rfl
  have k1 := cells_cell (o := 1) h1 rfl
  have k2 := cells_cell (o := 2) h1 rfl
  have hr0 : W.cell? ⟨w.heap.size, 0, none⟩ = some (.slice y1 y2 y3) := by rw [hW]; exact cell_new _ _ _ _ _ _ rfl rfl
  have hr1 : W.cell? ⟨w.heap.size, 1, none⟩ = some (.slice y4 y5 y6) := by rw [hW]; exact cell_new _ _ _ _ _ _ rfl rfl
  have hu := Lib.hid (mtUsable_yes hx)
  have H := Lib.hid hx
  have H1 := Lib.hid h1
  have HL := Lib.hid R.size
  have HX := Lib.hid h.ok
  have HW := Lib.hid hW.symm
  obtain ⟨r, hr⟩ : ∃ r, r = x.rd := ⟨_, rfl⟩
  obtain ⟨s, hs⟩ : ∃ s, s = x.wr := ⟨_, rfl⟩
  have HR := Lib.hid hr
  have HS := Lib.hid hs
  clear hW R h2 h hx
  unfold offC
  cases hi : x.is with
  | true =>
    rw [if_pos rfl]
    rw [hi] at k2
    clear h1 hi hr hs
    unfold pt at *
    go_enter Try.func18, Try.ntmps18
    go_wp2_with fail
    rw [HW.out]
    go_wp2_with (go_at_call 32; refine hu.out.mono ?_; rintro e w' ⟨rfl, rfl⟩)
    go_ret
    exact ⟨rfl, H.out, Fr.of_below HB.out _⟩
  | false =>
    rw [if_neg (by simp)]
    rw [hi] at k2
    have HI := Lib.hid hi
    rw [← hr] at k0 ⊢
    by_cases hr0' : r = 0
    · rw [if_neg (by simp [hr0'])]
      rw [hr0'] at k0
      rw [← hs] at k1 ⊢
      by_cases hs0 : s = 0
      · rw [if_neg (by simp [hs0])]
        rw [hs0] at k1
        have HR0 := Lib.hid hr0'
        have HS0 := Lib.hid hs0
        clear h1 hi hr hs hr0' hs0
        unfold pt at *
        go_enter Try.func18, Try.ntmps18
        go_wp2_with fail
        rw [HW.out]
        go_wp2_with (first
          | (go_at_call 32; refine hu.out.mono ?_; rintro e w' ⟨rfl, rfl⟩)
          | (go_at_call 36; fail))
        refine hby.out.mono ?_
        rintro e w2 ⟨v2, rfl, hrow, hb2⟩
        have H2 := Lib.hid (H.out.grown hb2)
        have HB2 := Lib.hid hb2
        have HRW := Lib.hid hrow
        obtain ⟨vb, hv1, hv2⟩ := H2.out.ex
        rw [HI.out] at hv1
        obtain ⟨ra, rn, rc, rfl⟩ := row_form hrow
        have c2 := cells_cell (o := 2) hv1 rfl
        have c3 := cells_cell (o := 3) hv1 rfl
        have z2 := cells_free hv1 2
        have z3 := cells_free hv1 3
        have hl := lt_of_block hv1
        have HV1 := Lib.hid hv1
        obtain ⟨vba, vbc, rfl, _, _⟩ := hv2.form
        clear hv1 hv2 hb2 hrow
        go_wp2_with fail
        go_ret
        have e1 := cells_set (cells_set HV1.out 2 (.bool true)) 3 (.slice ra rn rc)
        have f1 : Fr [b] w2 _ := (fr_setCell w2 ⟨b, 2, none⟩ (.bool true)).trans' (fr_setCell (w2.setCell ⟨b, 2, none⟩ (.bool true)) ⟨b, 3, none⟩ (.slice ra rn rc))
        have hk0 : x.k = 0 := by have := HX.out.no HI.out; have h4 := HX.out.le; rw [this] at h4; simpa using h4
        have hok := (offC_ok (L := Ps.flatten) HX.out HL.out).1
        unfold offC at hok
        rw [if_neg (by simp [HI.out]), if_neg (by rw [← HR.out]; simp [HR0.out]), if_neg (by rw [← HS.out]; simp [HS0.out])] at hok
        have er := HR.out
        have es := HS.out
        subst er es
        refine ⟨rfl, H2.out.set f1 hok (v := .slice ra rn rc) (by simpa [hk0] using e1) (RowB.piece HRW.out), ?_⟩
        exact ((Fr.of_below HB.out [b]).trans' (Fr.of_below HB2.out [b])).trans' f1
      · rw [if_pos hs0]
        have q1 : (s != 0) = true := by simp [hs0]
        clear h1 hi hr hs hr0' hs0
        unfold pt at *
        go_enter Try.func18, Try.ntmps18
        go_wp2_with fail
        rw [HW.out]
        go_wp2_with (go_at_call 32; refine hu.out.mono ?_; rintro e w' ⟨rfl, rfl⟩)
        go_ret
        exact ⟨rfl, H.out, Fr.of_below HB.out _⟩
    · rw [if_pos hr0']
      have q1 : (r != 0) = true := by simp [hr0']
      clear h1 hi hr hs hr0'
      unfold pt at *
      go_enter Try.func18, Try.ntmps18
      go_wp2_with fail
      rw [HW.out]
      go_wp2_with (go_at_call 32; refine hu.out.mono ?_; rintro e w' ⟨rfl, rfl⟩)
      go_ret
      exact ⟨rfl, H.out, Fr.of_below HB.out _⟩
theorem mtOffer_no {c : Nat} {v u : Value} {Ps : Parts} (h : NoM w u) (R : RopeAt w c v Ps) : Calls Try.prog 18 #[u, v] w fun e w' => e = .returned (.int .i64 1) ∧ Below w.heap.size w w' := by
  obtain ⟨y1, y2, y3, y4, y5, y6, rfl⟩ := R.shape
  have hwb := below_alloc w (.cells #[.slice y1 y2 y3, .slice y4 y5 y6] 52)
  have hu := Lib.hid (mtUsable_no (h.grown hwb))
  obtain ⟨a, rfl⟩ : ∃ a, u = .pointer a := by rcases h with h | ⟨q, h, _⟩ <;> exact ⟨_, h⟩
  have HB := Lib.hid hwb
  clear h R hwb
  go_enter Try.func18, Try.ntmps18
  go_wp2_with (go_at_call 32; refine hu.out.mono ?_; rintro e w' ⟨rfl, rfl⟩)
  go_ret
  exact ⟨rfl, HB.out⟩
end
end Go.Proofs.Ytophkjnniodegaa
