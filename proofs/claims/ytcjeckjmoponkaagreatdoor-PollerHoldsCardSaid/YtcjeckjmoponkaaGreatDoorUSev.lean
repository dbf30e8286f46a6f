/- Advance. -/
import Derived.Test.YtcjeckjmoponkaaGreatDoorUSix
namespace Go.Proofs.YtcjeckjmoponkaaGreatDoor
open Go.RowKit Go.Sort
set_option linter.unusedVariables false
set_option linter.unusedSimpArgs false
section
variable {w0 w w' : World} {O : Nat → Prop} {p t g c d r rc : Nat} {l : Ll} {OL OD : Nat → Prop} {x : Px} {G P : Nat}
set_option maxRecDepth 100000 in
set_option maxHeartbeats 1600000 in
theorem poAdvance_never (h : UB w0 w O p t g c d r rc l OL OD x G P) : Calls Tryz.prog 22 #[.pointer (some ⟨p, 0, none⟩), .int .u64 Dl.never] w fun e w' => e = .returned (.tuple #[.slice none 0 0, .int .i64 2]) ∧ Below w.heap.size w w' := by
  have HP := Lib.hid h.parts
  have HU := Lib.hid h
  clear h
  go_enter Tryz.func22, Tryz.ntmps22
  go_wp2_with (go_at_call 59; fail)
  refine HP.out.mono ?_
  rintro e w2 ⟨rfl, hg2⟩
  have HG := Lib.hid hg2.below
  have HU2 := Lib.hid (HU.out.grown hg2.below)
  have hf2 := field_po2 w2
  have HC := Lib.hid (Dl.jAdv_never HU2.out.hd)
  clear hg2
  go_wp2_with (go_at_call 69; fail)
  refine HC.out.mono ?_
  rintro e w3 ⟨rfl, rfl⟩
  go_wp2_with fail
  go_ret2
  exact ⟨rfl, HG.out⟩
set_option maxRecDepth 100000 in
set_option maxHeartbeats 1600000 in
theorem poAdvance_early (h : UB w0 w O p t g c d r rc l OL OD x G P) {tt : Int} (hn : tt ≠ Dl.never) (hl : tt < x.now) : Calls Tryz.prog 22 #[.pointer (some ⟨p, 0, none⟩), .int .u64 tt] w fun e w' => e = .returned (.tuple #[.slice none 0 0, .int .i64 3]) ∧ Below w.heap.size w w' := by
  have HP := Lib.hid h.parts
  have HU := Lib.hid h
  have HNN := Lib.hid (And.intro hn hl)
  clear hn hl
  clear h
  go_enter Tryz.func22, Tryz.ntmps22
  go_wp2_with (go_at_call 59; fail)
  refine HP.out.mono ?_
  rintro e w2 ⟨rfl, hg2⟩
  have HG := Lib.hid hg2.below
  have HU2 := Lib.hid (HU.out.grown hg2.below)
  have hf2 := field_po2 w2
  have HC := Lib.hid (Dl.jAdv_early HU2.out.hd HNN.out.1 HNN.out.2)
  clear hg2
  go_wp2_with (go_at_call 69; fail)
  refine HC.out.mono ?_
  rintro e w3 ⟨rfl, rfl⟩
  go_wp2_with fail
  go_ret2
  exact ⟨rfl, HG.out⟩
/-- The loop's round: what has been woken. -/
structure AvR (w0 w : World) (O : Nat → Prop) (p : Nat) (x1 : Px) (L : List (Int × Nat)) (G P : Nat) (wr : World) (vl lp : Value) (k : Nat) : Prop where
  ex : ∃ Ok, UAt w0 wr Ok p (x1.wakes (L.take k)).2 (G + (x1.wakes (L.take k)).1.length) P ∧ FrO O w wr ∧ (∀ j, Ok j → O j ∨ w.heap.size ≤ j) ∧ (∀ j, vl.ownBlock = some j → ¬ Ok j) ∧ ∀ j, lp.ownBlock = some j → ¬ Ok j
  rl : Dl.RowL wr w.heap.size lp L
  row : Row TI wr w.heap.size vl (x1.wakes (L.take k)).1
  sz : w.heap.size ≤ wr.heap.size
  num : (x1.wakes (L.take k)).2.z.L.length + (x1.wakes (L.take k)).1.length = x1.z.L.length
theorem rowl_same {w w' : World} {b : Nat} {v : Value} {L : List (Int × Nat)} (hr : Dl.RowL w b v L) (hn : ∀ g, v.ownBlock = some g → w'.heap[g]? = w.heap[g]?) : Dl.RowL w' b v L := by
  refine ⟨hr.1, ?_⟩
  rcases hr.2 with h' | ⟨g, cap, cur, rfl, hb, hg, r⟩
  · exact .inl h'
  · exact .inr ⟨g, cap, cur, rfl, hb, (hn g rfl).trans hg, r⟩
theorem rowl_block {w : World} {b : Nat} {v : Value} {L : List (Int × Nat)} (hr : Dl.RowL w b v L) : ∀ g, v.ownBlock = some g → ∃ cu, w.heap[g]? = some (.cells cu 142 (0, 0)) := by
  intro g hg
  rcases hr.2 with ⟨h0, _⟩ | ⟨g', cap, cu, hv, _, hh, _⟩
  · rw [h0] at hg; simp [Value.ownBlock] at hg
  · rw [hv] at hg
    simp only [Value.ownBlock, Option.some.injEq] at hg
    subst hg
    exact ⟨cu, hh⟩
theorem avr_step {Ok O2 : Nat → Prop} {x1 x2 : Px} {L : List (Int × Nat)} {G G2 P k : Nat} {wr W1 w4 w5 : World} {vl lp v' : Value} {X M : List Int}
    (hF : FrO O w wr) (hS : ∀ j, Ok j → O j ∨ w.heap.size ≤ j) (hvl : ∀ j, vl.ownBlock = some j → ¬ Ok j) (hlp : ∀ j, lp.ownBlock = some j → ¬ Ok j)
    (hrl : Dl.RowL wr w.heap.size lp L) (hrow : Row TI wr w.heap.size vl X) (hsz : w.heap.size ≤ wr.heap.size) (hw0 : w0.heap.size ≤ w.heap.size)
    (hb : Below wr.heap.size wr W1) (hU : UAt w0 w4 O2 p x2 G2 P) (hf4 : FrO Ok W1 w4) (hs4 : ∀ j, O2 j → Ok j ∨ W1.heap.size ≤ j) (hz4 : W1.heap.size ≤ w4.heap.size)
    (hr5 : Row TI w5 w.heap.size v' (X ++ M)) (hf5 : Fr vl.ownBlock.toList w4 w5) (hn5 : Near w4 vl v')
    (e1 : (x1.wakes (L.take (k + 1))).1 = X ++ M) (e2 : (x1.wakes (L.take (k + 1))).2 = x2) (e3 : G2 = G + (X ++ M).length) (e4 : x2.z.L.length + (X ++ M).length = x1.z.L.length) :
    AvR w0 w O p x1 L G P w5 v' lp (k + 1) := by
  have hz1 := hb.size
  have hvlt : ∀ j, vl.ownBlock = some j → w.heap.size ≤ j ∧ j < wr.heap.size := fun j hj => hrow.lt j hj
  have hnO2 : ∀ j, j < W1.heap.size → ¬ Ok j → ¬ O2 j := fun j h1 h2 h3 => (hs4 j h3).elim h2 (fun h => by omega)
  have hvO2 : ∀ j, vl.ownBlock = some j → ¬ O2 j := fun j hj => hnO2 j (by have := (hvlt j hj).2; omega) (hvl j hj)
  have hlt : ∀ j, lp.ownBlock = some j → j < wr.heap.size := fun j hj => (World.ownsRow.lt hrl j hj).2
  have hrl1 : Dl.RowL w4 w.heap.size lp L := rowl_same (hrl.below hb) (fun j hj => hf4.out j (by have := hlt j hj; omega) (hlp j hj))
  have hne : ∀ j, lp.ownBlock = some j → j ∉ vl.ownBlock.toList := fun j hj hm => by
    simp only [Option.mem_toList] at hm
    obtain ⟨cu, hc⟩ := rowl_block hrl j hj
    exact hrow.ne hc (by decide) j hm rfl
  rw [← e1] at hr5 e3 e4
  rw [← e2] at hU e4
  rw [e3] at hU
  refine ⟨⟨O2, hU.fr hf5 (fun j hj => ?_), ?_, ?_, ?_, ?_⟩, rowl_same hrl1 (fun j hj => hf5.block j (by have := hlt j hj; omega) (hne j hj)), hr5, ?_, e4⟩
  · simp only [Option.mem_toList] at hj
    exact ⟨by have := (hvlt j hj).1; omega, hvO2 j hj⟩
  · refine ((hF.trans (FrO.of_below (O := fun _ => False) hb) (fun _ h => h.elim)).trans hf4 hS).trans (FrO.of_fr (O := fun j => j ∈ vl.ownBlock.toList) hf5 (fun j hj => .inl hj)) (fun j hj => ?_)
    simp only [Option.mem_toList] at hj
    exact .inr (hvlt j hj).1
  · exact fun j hj => (hs4 j hj).elim (hS j) (fun h => .inr (by omega))
  · intro j hj
    rcases hn5 j hj with h | h
    · exact hvO2 j h
    · exact fun ho => by have := (hU.lt ho).2; omega
  · exact fun j hj => hnO2 j (by have := hlt j hj; omega) (hlp j hj)
  · have := hf5.size; omega
set_option maxRecDepth 100000 in
set_option maxHeartbeats 1600000 in
theorem poAdvance_ok (h : UB w0 w O p t g c d r rc l OL OD x G P) (hG : G ≤ 800000) (hP : P < 9223372036854775807) {tt : Int} (htt : tt < Dl.never) (hl : x.now ≤ tt) : Calls Tryz.prog 22 #[.pointer (some ⟨p, 0, none⟩), .int .u64 tt] w fun e w' => ∃ L u, e = .returned (.tuple #[u, .int .i64 0]) ∧ Dl.IsLap x.now tt x.f L ∧ WokeU w0 w O p ((x.at' tt).wakes L).1 ((x.at' tt).wakes L).2 (G + ((x.at' tt).wakes L).1.length) P w' u := by
  have HP := Lib.hid h.parts
  have HU := Lib.hid h
  have HGG := Lib.hid hG
  have HX := Lib.hid (And.intro htt (And.intro hl (Nat.le_of_lt hP)))
  have HZ64 : Hid (x.z.L.length ≤ 64) := Lib.hid h.zk.l
  have HW0 : Hid (w0.heap.size ≤ w.heap.size) := Lib.hid h.below.size
  clear h hG hP htt hl
  go_enter Tryz.func22, Tryz.ntmps22
  go_wp2_with (go_at_call 59; fail)
  refine HP.out.mono ?_
  rintro e w2 ⟨rfl, hg2⟩
  have HG := Lib.hid hg2.below
  have HU2 := Lib.hid (HU.out.grown hg2.below)
  have hf2 := field_po2 w2
  have HC := Lib.hid (Dl.jAdv_yes HU2.out.hd HX.out.1 HX.out.2.1 HX.out.2.2)
  clear hg2
  go_wp2_with (go_at_call 69; fail)
  refine HC.out.mono ?_
  rintro e w3 ⟨v, L, rfl, hlap, hrl, hj, hk, hz⟩
  obtain ⟨OD1, O1, hu, hfo, hsub, hv, hfd⟩ := HU.out.stepD2 (V := fun k => v.ownBlock = some k) HG.out hj hk
  obtain ⟨va, vc, rfl⟩ := Dl.slice_form hrl
  have HLAP := Lib.hid hlap
  have HLL := Lib.hid hlap.len
  have HR0 : Hid (AvR w0 w O p (x.at' tt) L G P w3 (.slice none 0 0) (.slice va L.length vc) 0) := Lib.hid ⟨⟨O1, hu.at, hfo, hsub, fun j hj => by simp [Value.ownBlock] at hj, fun j hj => hv j (World.ownsRow.lt hrl j hj).1 hj⟩, ownsRow_mono hrl HG.out.size, Row.nil w3 _, Nat.le_trans HG.out.size hz, rfl⟩
  clear hu hfo hsub hv hfd hrl hj hk hz hlap HU HU2 HC HP HX hf2
  go_wp2_with fail
  have hLI : ((L.length : Nat) : Int) ≤ 256 := by have := HLL.out; omega
  go_loopw [8, 24] (fun vl i wr => ∃ k : Nat, k ≤ L.length ∧ i = .int .i64 ((k : Nat) : Int) ∧ Hid (AvR w0 w O p (x.at' tt) L G P wr vl (.slice va L.length vc) k)) (fun _ i _ => L.length - (intOf i).toNat)
  case atStart => exact ⟨0, Nat.zero_le _, rfl, HR0⟩
  case round =>
    obtain ⟨k, hk, rfl, HR⟩ := hrel
    clear HR0
    by_cases hlt : k < L.length
    · have q3 : (k : Int) < (L.length : Int) := by omega
      have hrl := HR.out.rl
      obtain ⟨ga, rfl⟩ : ∃ ga, va = some ⟨ga, 0, none⟩ := by
        rcases hrl.2 with ⟨h0, h1⟩ | ⟨g', cap, cu, hv, _, hh, _⟩
        · omega
        · simp only [Value.slice.injEq] at hv
          exact ⟨g', hv.1⟩
      obtain ⟨c0, c1, c2⟩ := hrl.cells k L[k] (List.getElem?_eq_getElem hlt)
      have hgl := (World.ownsRow.lt hrl ga rfl).2
      obtain ⟨⟨tq, pq⟩, hLk⟩ : ∃ y, y = L[k] := ⟨_, rfl⟩
      rw [← hLk] at c0 c1 c2
      simp only at c0 c1 c2
      obtain ⟨qa, hqa⟩ : ∃ y, y = ((pq / 2 : Nat) : Int) := ⟨_, rfl⟩
      obtain ⟨qb, hqb⟩ : ∃ y, y = ((pq % 2 : Nat) : Int) := ⟨_, rfl⟩
      rw [← hqa] at c0
      rw [← hqb] at c1
      have HQ : Hid (spP pq = (qa, qb)) := Lib.hid (by rw [hqa, hqb]; rfl)
      clear hqa hqb
      obtain ⟨W1, hW1, hg1, hs1, hb1⟩ := alloc1 wr (.cells #[.int .i64 qa, .int .i64 qb, .int .u64 tq] 142)
      have HW1 := Lib.hid hW1
      have HB1 := Lib.hid hb1
      have HG1 := Lib.hid hg1.below
      have HLK := Lib.hid hLk
      clear hW1 hg1 hs1 hb1 hrl hLk
      go_upto_region 8 with (fail)
      rw [HW1.out]
      obtain ⟨Ok, hU, hF, hS, hvl, hlp⟩ := HR.out.ex
      have hnum := HR.out.num
      have HA := Lib.hid (And.intro hF (And.intro hS (And.intro hvl (And.intro hlp hnum))))
      have HX := Lib.hid (Px.wakes_next (x := x.at' tt) hlt)
      rw [← HLK.out] at HX
      simp only [HQ.out] at HX
      have HZK := Lib.hid hU.zk
      obtain ⟨t', g', c', d', r', rc', l', OL', OD', hu5⟩ := hU.grown HG1.out
      have HWK := Lib.hid (poWake_any hu5 (by have := HGG.out; have := HZ64.out; have : (x.at' tt).z.L.length = x.z.L.length := rfl; omega) qa qb 2)
      obtain ⟨b1, hb1⟩ : ∃ b, b = wr.heap.size := ⟨_, rfl⟩
      rw [← hb1]
      rw [← hb1] at HB1
      have f0 : W1.cell? ⟨b1, 0, none⟩ = some (.int .i64 qa) := cells_cell HB1.out rfl
      have f1 : W1.cell? ⟨b1, 1, none⟩ = some (.int .i64 qb) := cells_cell HB1.out rfl
      obtain ⟨va8, vc8, hvl8, y1, y2⟩ := HR.out.row.form
      have HROW := Lib.hid HR.out.row
      have HRL := Lib.hid HR.out.rl
      have HSZ := Lib.hid HR.out.sz
      clear hu5 hU hF hS hvl hlp hnum hb1 c0 c1 c2 y1 y2 HLK HR
      generalize hxw : (x.at' tt).wakes (L.take k) = xw at *
      obtain ⟨X, xk⟩ := xw
      simp only at HX HA HZK HWK HROW hvl8
      subst hvl8
      go_wp2_with (go_at_call 63; fail)
      refine HWK.out.mono ?_
      rintro e w4 ⟨u, O2, rfl, hr4, hU4, hf4, hs4, hn4, hz4⟩
      have hSRC := Lib.hid (hr4.src TI_ok)
      have HRO4 := Lib.hid (hf4.row (HROW.out.below HG1.out) HA.out.2.2.1)
      obtain ⟨va9, vc9, rfl, y1, y2⟩ := hr4.form
      have hbase : w.heap.size ≤ w4.heap.size := Nat.le_trans HSZ.out (Nat.le_trans HG1.out.size hz4)
      have hnw := wake_num HZK.out (qa, qb)
      have hL64 : X.length + (xk.wake (qa, qb) 2).1.length ≤ 1000000 := by
        have h1 := HA.out.2.2.2.2
        have h2 : (x.at' tt).z.L.length = x.z.L.length := rfl
        have h3 := HZ64.out
        have h4 : (xk.wake (qa, qb) 2).1.length = (wkaC xk.z (qa, qb)).1.length := rfl
        omega
      have HN4 : Hid ((xk.wake (qa, qb) 2).2.z.L.length + (X ++ (xk.wake (qa, qb) 2).1).length = (x.at' tt).z.L.length) := Lib.hid (by
        have h1 := HA.out.2.2.2.2
        have h4 : (xk.wake (qa, qb) 2).1.length = (wkaC xk.z (qa, qb)).1.length := rfl
        have h5 : (xk.wake (qa, qb) 2).2.z.L.length = (wkaC xk.z (qa, qb)).2.2.L.length := rfl
        rw [List.length_append]
        omega)
      have HALL := Lib.hid (And.intro hU4 (And.intro hf4 (And.intro hs4 hz4)))
      have HB := Lib.hid hbase
      have HL6 := Lib.hid hL64
      clear hU4 hf4 hs4 hz4 hn4 hr4 y1 y2 hnw hbase hL64 f0 f1 HWK
      go_wp2_with (at_builtin; refine wpList_append_g TI_ok rfl (.tmp 28) (.tmp 32) rfl rfl rfl HRO4.out HB.out hSRC.out HL6.out ?_)
      intro v' w5 hr5 hf5 hn5
      have HR5 : Hid (AvR w0 w O p (x.at' tt) L G P w5 v' (.slice (some ⟨ga, 0, none⟩) L.length vc) (k + 1)) := Lib.hid (avr_step HA.out.1 HA.out.2.1 HA.out.2.2.1 HA.out.2.2.2.1 HRL.out HROW.out HSZ.out HW0.out HG1.out HALL.out.1 HALL.out.2.1 HALL.out.2.2.1 HALL.out.2.2.2 hr5 hf5 hn5 (by rw [HX.out]) (by rw [HX.out]) (by rw [List.length_append, Nat.add_assoc]) HN4.out)
      clear hr5 hf5 hn5 HALL HROW HRL HRO4 hSRC HX HA hxw
      go_wp2_with fail
      go_roundw
      case rel => exact ⟨k + 1, hlt, by go_num, HR5⟩
      case measure => simp [intOf]; omega
    · obtain rfl : k = L.length := by omega
      have hR := HR.out
      obtain ⟨⟨Ok, h1, h2, h3, h4, h5⟩, h6, h7, h8, h9⟩ := hR
      rw [List.take_length] at h1 h7
      have HE := Lib.hid (⟨h7, Ok, h1, h2, h3, h8, h4⟩ : WokeU w0 w O p ((x.at' tt).wakes L).1 ((x.at' tt).wakes L).2 (G + ((x.at' tt).wakes L).1.length) P wr _)
      clear h1 h2 h3 h4 h5 h6 h7 h8 h9 HR
      go_wp2_with fail
      go_ret2
      exact ⟨L, _, rfl, HLAP.out, HE.out⟩
end
end Go.Proofs.YtcjeckjmoponkaaGreatDoor
