/- The walk of MeetPlays. -/
import Derived.Test.YtophkjnniodegaaVDo
namespace Go.Proofs.Ytophkjnniodegaa
open Go.RowKit Go.Sort
set_option linter.unusedVariables false
set_option linter.unusedSimpArgs false

theorem do_any {w0 w : World} {m b : Nat} {x : Mt} (h : KM w0 w m b x) {pa : Option Addr} {pl pc : Nat} (ac : Ac) (hp : SrcV w0 (.slice pa pl pc) (ac.parts.map encS)) (hs : ac.Sm) (hw : I64 ac.wth) :
    Calls Try.prog 11 #[pt m, encM x, .agg #[.int .i64 ac.what, .int .i64 ac.n, .slice pa pl pc, .int .i64 ac.wth]] w fun e w' => ∃ m' b' y, e = .returned (.tuple #[pt m', encM y, .bool true]) ∧ KM w0 w' m' b' y ∧ Fr [b] w w' := by
  have hl : ac.parts.flatten.length ≤ 12000 := by
    have h1 := flat_small ac.parts hs.2
    have h2 : ac.parts.length * 400 ≤ 30 * 400 := Nat.mul_le_mul_right _ hs.1
    omega
  obtain ⟨what, n, parts, wth⟩ := ac
  simp only at *
  by_cases h0 : what = 0
  · rw [h0]; exact do_offer h hp hl hs.1 n wth
  · by_cases h1 : what = 1
    · rw [h1]; exact do_take h hp hl hs.1 n wth
    · by_cases h2 : what = 2
      · rw [h2]; exact do_result h hp hl hs.1 n wth
      · by_cases h3 : what = 3
        · rw [h3]; exact do_withdraw h hp hl hs.1 n wth
        · by_cases h4 : what = 4
          · rw [h4]; exact do_cw h hp hl hs.1 n wth hw
          · by_cases h5 : what = 5
            · rw [h5]; exact do_cr h hp hl hs.1 n wth hw
            · exact do_copy h hp hl hs.1 what n wth ⟨h0, h1, h2, h3, h4, h5⟩

set_option maxRecDepth 100000 in
set_option maxHeartbeats 6400000 in
theorem meetPlays_walk {w : World} {v : Value} {l : List Ac} (h : SrcA w v l) (hwf : ∀ a ∈ l, I64 a.wth) :
    Calls Try.prog 3 #[v] w fun e w' => e = .returned (.bool true) ∧ Below w.heap.size w w' := by
  have HA := Lib.hid h
  have HWF := Lib.hid hwf
  have hsm := Lib.hid (small_any h)
  obtain ⟨sa, sc, rfl, hlm, hcase⟩ := h
  obtain ⟨N, hN⟩ : ∃ N, N = l.length := ⟨_, rfl⟩
  have HNE := Lib.hid hN
  have HC := Lib.hid hcase
  rw [← hN] at hsm HA ⊢
  clear hlm hcase hN hwf
  go_enter Try.func3, Try.ntmps3
  go_wp2_with (go_at_call 8; fail)
  refine hsm.out.mono ?_
  rintro e w' ⟨(⟨rfl, hl80, hsm2⟩ | rfl), rfl⟩
  case' inr =>
    go_wp2_with (go_at_call 9; refine (known_any _).mono ?_; rintro e w9 ⟨rfl, hb⟩)
    go_ret
    exact ⟨rfl, hb⟩
  have HSM := Lib.hid hsm2
  have hN80 : (N : Int) ≤ 80 := by have := HNE.out; omega
  clear hsm2 hl80 hsm
  go_wp2_with (go_at_call 10; fail)
  refine (km_new w' w' (Below.refl _ _)).mono ?_
  rintro e W1 ⟨m, b, rfl, h1⟩
  have H1 := Lib.hid h1
  clear h1
  unfold pt
  go_wp2_with fail
  generalize hV : W1.alloc _ = V
  have HV : Hid (Below W1.heap.size W1 V) := Lib.hid (by rw [← hV]; exact below_alloc _ _)
  have HBX : Hid (V.heap[W1.heap.size]? = some (.cells (cellsM Mt.zero) 28 (0, 0))) := Lib.hid (by rw [← hV]; exact heap_alloc_new _ _)
  have HLO : Hid (w'.heap.size ≤ W1.heap.size) := Lib.hid H1.out.be.size
  have H2 := Lib.hid (H1.out.grow HV.out)
  clear hV H1
  generalize W1.heap.size = BX at *
  go_loopw [3, 22] (fun mv i wr => ∃ (k m b : Nat) (x : Mt), k ≤ N ∧ i = .int .i64 (k : Nat) ∧ mv = .pointer (some ⟨m, 0, none⟩) ∧ Hid (KM w' wr m b x) ∧ Hid (wr.heap[BX]? = some (.cells (cellsM x) 28 (0, 0)))) (fun _ i _ => N - (intOf i).toNat)
  case atStart => exact ⟨0, m, b, Mt.zero, Nat.zero_le _, rfl, rfl, H2, HBX⟩
  case round =>
    clear H2 HBX HV
    obtain ⟨k, m, b, x, hkl, rfl, rfl, HK, HX⟩ := hrel
    by_cases hlt : k < N
    · have hltP : k < l.length := by rw [← HNE.out]; exact hlt
      obtain ⟨lb, off, rfl, hbl, hac⟩ := HC.out.resolve_left (by omega)
      obtain ⟨pa, pl, pc, c0, c1, c2, c3, hs, hpl, hw0, hw1, hw2⟩ := hac k hltP
      have hcg := below_cells HK.out.be
      have k0 := hcg _ _ c0
      have k1 := hcg _ _ c1
      have k2 := hcg _ _ c2
      have k3 := hcg _ _ c3
      have hlbl : lb < wr.heap.size := Nat.lt_of_lt_of_le hbl HK.out.be.size
      obtain ⟨ac, hae⟩ : ∃ ac, ac = l[k] := ⟨_, rfl⟩
      rw [← hae] at k0 k1 k3 hs
      have HSS := Lib.hid hs
      have HSA : Hid ac.Sm := Lib.hid (by rw [hae]; exact HSM.out _ (List.getElem_mem _))
      have HWW : Hid (I64 ac.wth) := Lib.hid (by rw [hae]; exact HWF.out _ (List.getElem_mem _))
      have hkl2 : (k : Int) < (N : Int) := by omega
      have hx := HX.out
      unfold cellsM at hx
      have y0 := cells_cell (o := 0) hx rfl
      have y1 := cells_cell (o := 1) hx rfl
      have y2 := cells_cell (o := 2) hx rfl
      have y3 := cells_cell (o := 3) hx rfl
      have y4 := cells_cell (o := 4) hx rfl
      have hbx := lt_of_block hx
      clear hac c0 c1 c2 c3 hs hpl hw0 hw1 hw2 hcg hae hx
      go_wp2_with (go_at_call 11; fail)
      have ba := below_alloc wr (.cells #[.int .i64 ac.what, .int .i64 ac.n, .slice pa pl pc, .int .i64 ac.wth] 32)
      have hdo := do_any (HK.out.grow ba) ac HSS.out HSA.out HWW.out
      unfold pt encM cellsM at hdo
      refine hdo.mono ?_
      rintro e W3 ⟨m', b', y, rfl, hk3, hf3⟩
      have hnb : BX ∉ [b] := by
        obtain ⟨_, hb, _⟩ := HK.out.at'.ex
        simpa using ne_types HX.out hb (by decide)
      have HX3 := Lib.hid (hf3.same ((ba.block _ (lt_of_block HX.out)).trans HX.out) hnb)
      have H3 := Lib.hid hk3
      clear hdo hk3 hf3 hnb ba y0 y1 y2 y3 y4 HK HX hbx k0 k1 k2 k3
      have hx := HX3.out
      unfold cellsM at hx
      have y0 := cells_cell (o := 0) hx rfl
      have y1 := cells_cell (o := 1) hx rfl
      have y2 := cells_cell (o := 2) hx rfl
      have y3 := cells_cell (o := 3) hx rfl
      have y4 := cells_cell (o := 4) hx rfl
      have z0 := cells_free hx 0
      have z1 := cells_free hx 1
      have z2 := cells_free hx 2
      have z3 := cells_free hx 3
      have z4 := cells_free hx 4
      have hbx := lt_of_block hx
      clear hx
      go_wp2_with (go_at_call 12; fail)
      generalize hW4 : World.setCell _ _ _ = W4
      have hff : Fr [BX] W3 W4 := by rw [← hW4]; exact five_fr W3 _ _ _ _ _ _
      have HX4 : Hid (W4.heap[BX]? = some (.cells (cellsM y) 28 (0, 0))) := Lib.hid (by rw [← hW4]; exact five_cells (by have := HX3.out; unfold cellsM at this; exact this) _ _ _ _ _)
      have H4 := Lib.hid (km_box H3.out HX3.out hff HLO.out)
      clear hW4 hff H3 HX3 y0 y1 y2 y3 y4 z0 z1 z2 z3 z4 hbx
      obtain ⟨r, hr⟩ : ∃ r, r = strB y.rest := ⟨_, rfl⟩
      have hrs : ((y.rest.length : Nat) : Int) = ((r.size : Nat) : Int) := by rw [hr, strB_size]
      have hleft := mtLeft_any H4.out.at'
      have href := Lib.hid (fun W => refLeft_any H4.out.at'.ok W)
      rw [hrs] at hleft
      rw [← hr] at href
      have hr65 : (r.size : Int) ≤ 65536 := by rw [← hrs, H4.out.at'.ok.rest]; have := H4.out.at'.ok.small; omega
      clear hr hrs
      unfold pt at hleft
      refine hleft.mono ?_
      rintro e W5 ⟨rfl, hb⟩
      have H5 := Lib.hid (H4.out.grow hb)
      have HX5 := Lib.hid ((hb.block _ (lt_of_block HX4.out)).trans HX4.out)
      clear hb H4 HX4 hleft
      go_wp2_with (go_at_call 13; fail)
      have hcl := mtClosed_any H5.out.at'
      unfold pt at hcl
      refine hcl.mono ?_
      rintro e W6 ⟨rfl, hb⟩
      have H6 := Lib.hid (H5.out.grow hb)
      have HX6 := Lib.hid ((hb.block _ (lt_of_block HX5.out)).trans HX5.out)
      clear hb H5 HX5 hcl
      have hx := HX6.out
      unfold cellsM at hx
      have y0 := cells_cell (o := 0) hx rfl
      have y1 := cells_cell (o := 1) hx rfl
      have y2 := cells_cell (o := 2) hx rfl
      have y3 := cells_cell (o := 3) hx rfl
      have y4 := cells_cell (o := 4) hx rfl
      clear hx
      go_wp2_with (go_at_call 14; fail)
      clear y0 y1 y2 y3 y4
      have hr6 := href.out W6
      unfold encM cellsM at hr6
      refine hr6.mono ?_
      rintro e W7 ⟨rfl, hb⟩
      have H7 := Lib.hid (H6.out.grow hb)
      have HX7 := Lib.hid ((hb.block _ (lt_of_block HX6.out)).trans HX6.out)
      clear hb H6 HX6 hr6
      have hx := HX7.out
      unfold cellsM at hx
      have y0 := cells_cell (o := 0) hx rfl
      have y3 := cells_cell (o := 3) hx rfl
      have y4 := cells_cell (o := 4) hx rfl
      clear hx
      go_wp2_with fail
      clear y0 y3 y4
      go_roundw
      case rel => exact ⟨k + 1, m', b', y, by omega, by go_num, rfl, H7, HX7⟩
      case measure => simp [intOf]; omega
    · obtain rfl : k = N := by omega
      go_wp2_with (go_at_call 9; refine (known_any _).mono ?_; rintro e w9 ⟨rfl, hb⟩)
      go_ret
      exact ⟨rfl, HK.out.be.trans (hb.mono HK.out.be.size)⟩
end Go.Proofs.Ytophkjnniodegaa
