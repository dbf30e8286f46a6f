/- Write of the reference. -/
import Derived.Test.YtilafgemgdjfhaaBRefB
import Derived.Deep.RegionHeld3
namespace Go.Proofs.Ytilafgemgdjfhaa
open Go.RowKit Go.Sort
set_option linter.unusedVariables false
set_option linter.unusedSimpArgs false

/-- What the reference's Write returns. -/
def WriteR (w : World) (c n : Nat) (B : List UInt8) (e : Ending) (w' : World) : Prop := ∃ v, e = .returned (.tuple #[rv c v, .int .i64 n, .int .i64 0]) ∧ RowB w' w.heap.size v B ∧ Below w.heap.size w w'

/-- The reference's Write under way: block T holds the ring buffer that is built, with the bytes X. -/
structure WInv (w wz : World) (c T : Nat) (va : Option Addr) (vc : Nat) (X : List UInt8) : Prop where
  ct : wz.heap[T]? = some (.cells #[.int .i64 c, .slice va X.length vc] 32 (0, 0))
  row : RowB wz (w.heap.size + 2) (.slice va X.length vc) X
  t4 : wz.heap[w.heap.size + 1]? = some (.cells #[.int .i64 0, .slice none 0 0] 32 (0, 0))
  bl : Below w.heap.size w wz
  tT : w.heap.size + 2 ≤ T

theorem WInv.first {w w5 : World} {c vc' : Nat} {va' : Option Addr} {B : List UInt8} (ho : RowB w5 (w.heap.size + 2) (.slice va' B.length vc') B) {v : Value}
    (hB : Below ((w.alloc (.cells #[.int .i64 c, v] 32)).alloc (.cells #[.int .i64 0, .slice none 0 0] 32)).drew.heap.size ((w.alloc (.cells #[.int .i64 c, v] 32)).alloc (.cells #[.int .i64 0, .slice none 0 0] 32)).drew w5) :
    WInv w (w5.alloc (.cells #[.int .i64 c, .slice va' B.length vc'] 32)) c w5.heap.size va' vc' B := by
  have hs := hB.size
  simp at hs
  have h0 : Below w.heap.size w w5 := ((((Below.refl _ _).alloc (Nat.le_refl _) _).alloc (by simp) _).drew).trans (hB.mono (by simp; omega))
  refine ⟨block_new _ _ _ rfl, ho.grown ((Below.refl _ _).alloc (Nat.le_refl _) _), ?_, h0.alloc (by omega) _, by omega⟩
  refine (fr_alloc w5 _ []).same ((hB.block (w.heap.size + 1) (by simp)).trans ?_) (by simp)
  show (((w.alloc _).alloc _).heap)[w.heap.size + 1]? = _
  exact block_new _ _ _ (by simp)
theorem WInv.first' {w w5 : World} {c vc' : Nat} {va' : Option Addr} {B : List UInt8} (ho : RowB w5 (w.heap.size + 2) (.slice va' B.length vc') B) {v : Value} {W : World} (hB : Below W.heap.size W w5)
    (hW : W.heap = (((w.alloc (.cells #[.int .i64 c, v] 32)).alloc (.cells #[.int .i64 0, .slice none 0 0] 32)).alloc (.cells #[.int .i64 0, .slice none 0 0] 32)).heap) (hw : Below w.heap.size w W) :
    WInv w ((w5.setCell ⟨w.heap.size + 1 + 1, 0, none⟩ (.int .i64 c)).setCell ⟨w.heap.size + 1 + 1, 1, none⟩ (.slice va' B.length vc')) c (w.heap.size + 1 + 1) va' vc' B := by
  have hWs : W.heap.size = w.heap.size + 3 := by rw [hW]; simp
  have h2 : w5.heap[w.heap.size + 1 + 1]? = some (.cells #[.int .i64 0, .slice none 0 0] 32 (0, 0)) := by
    rw [hB.block _ (by omega), hW]
    exact block_new _ _ _ (by simp)
  have h1 : w5.heap[w.heap.size + 1]? = some (.cells #[.int .i64 0, .slice none 0 0] 32 (0, 0)) := by
    rw [hB.block _ (by omega), hW]
    exact (fr_alloc _ _ []).same (block_new _ _ _ (by simp)) (by simp)
  have hne : ∀ g, (Value.slice va' B.length vc').ownBlock = some g → g ∉ [w.heap.size + 1 + 1] := fun g hg => by
    have := row_ne ho h2 (by decide) g hg
    simpa using this
  refine ⟨cells_set (cells_set h2 0 _) 1 _, (fr_setCell _ _ _).row ((fr_setCell _ _ _).row ho hne) hne, cells_set_other (cells_set_other h1 (by omega) _ _) (by omega) _ _, ?_, Nat.le_refl _⟩
  exact ((hw.trans (hB.mono (by omega))).setCell (by show _ ≤ w.heap.size + 1 + 1; omega) _).setCell (by show _ ≤ w.heap.size + 1 + 1; omega) _

theorem WInv.step {w wr w6 : World} {c T gc gc' : Nat} {ga ga' : Option Addr} {X : List UInt8} {x : UInt8} (h : WInv w wr c T ga gc X) (ho : RowB w6 (w.heap.size + 2) (.slice ga' (X ++ [x]).length gc') (X ++ [x]))
    (hf : Fr (Value.slice ga X.length gc).ownBlock.toList (wr.drew.alloc (.cells #[.int .u8 ((x.toNat : Nat) : Int)] 5)) w6) :
    w6.heap[T]? = some (.cells #[.int .i64 c, .slice ga X.length gc] 32 (0, 0)) ∧ WInv w (w6.setCell ⟨T, 1, none⟩ (.slice ga' (X ++ [x]).length gc')) c T ga' gc' (X ++ [x]) := by
  have hnT : ∀ b (cs : Array Value), wr.heap[b]? = some (.cells cs 32 (0, 0)) → b ∉ (Value.slice ga X.length gc).ownBlock.toList := fun b cs hb hx => by
    have := row_ne h.row hb (by decide) b (by simpa using hx)
    exact this rfl
  have hT := hf.same ((fr_alloc _ _ []).same h.ct (by simp)) (hnT T _ h.ct)
  have h4 := hf.same ((fr_alloc _ _ []).same h.t4 (by simp)) (hnT _ _ h.t4)
  have hne : ∀ g, (Value.slice ga' (X ++ [x]).length gc').ownBlock = some g → g ∉ [T] := fun g hg => by
    have := row_ne ho hT (by decide) g hg
    simpa using this
  have htT := h.tT
  have hs := h.bl.size
  refine ⟨hT, cells_set hT 1 _, (fr_setCell _ _ _).row ho hne, cells_set_other h4 (by omega) _ _, ?_, htT⟩
  have hb : Below w.heap.size w (wr.drew.alloc (.cells #[.int .u8 ((x.toNat : Nat) : Int)] 5)) := h.bl.drew.alloc hs _
  exact (hb.trans (hf.below (fun y hy => by have := (h.row.lt y (by simpa using hy)).1; omega) (by simp; omega))).setCell (by show w.heap.size ≤ T; omega) _

set_option maxRecDepth 100000 in
set_option maxHeartbeats 3200000 in
theorem refWrite_at (c : Nat) (hc : c ≤ 4096) {b0 : Nat} {va : Option Addr} {vc : Nat} {B : List UInt8} (w : World) (hB : RowB w b0 (.slice va B.length vc) B) (hBl : B.length ≤ c) (ap : Option Addr) (Lp cp : Nat) (P : List UInt8) (hP : P.length = Lp) (hL : Lp ≤ 6000) (hs : SrcP w ap Lp cp P) (n : Nat) (hn : n = min P.length (c - B.length)) :
    Calls Try.prog 12 #[rv c (.slice va B.length vc), .slice ap Lp cp] w (WriteR w c n (B ++ P.take n)) := by
  have e1 : (c : Int) ≤ 4096 := by omega
  have e2 : (Lp : Int) ≤ 6000 := by omega
  have e3 : (B.length : Int) ≤ (c : Int) := by omega
  have b1 : decide ((65536 : Int) < (Lp : Int)) = false := by simp; omega
  have HB := Lib.hid hB
  have HS := Lib.hid hs
  have HP := Lib.hid hP
  have HN := Lib.hid (And.intro hn hBl)
  have HSrc : Hid (∀ W, Below w.heap.size w W → SrcA W (.slice va B.length vc) B) := Lib.hid (fun W hW => SrcA.row (hB.grown hW))
  have HW0 : Hid (Below w.heap.size w ((w.alloc (.cells #[.int .i64 c, .slice va B.length vc] 32)).alloc (.cells #[.int .i64 0, .slice none 0 0] 32)).drew) := Lib.hid ((((Below.refl _ _).alloc (Nat.le_refl _) _).alloc (by simp) _).drew)
  have hB6 : ([] : List UInt8).length + B.length ≤ 1000000 := by simp; omega
  unfold rv
  clear hB hs hP hn hBl
  go_enter Try.func12, Try.ntmps12
  go_wp2_with fail
  go_region_held3 (fun w' => w'.cell? ⟨w.heap.size, 0, none⟩ = some (.int .i64 c) ∧ w'.cell? ⟨w.heap.size, 1, none⟩ = some (.slice va B.length vc)) (first | go_keep | go_simp) ((refine step_append_src (X := []) (v := .slice none 0 0) rfl (.const (.slice none 0 0)) (.tmp 16) rfl rfl rfl (World.ownsRow_nil _ (w.heap.size + 2) _ _) (by simp) (HSrc.out _ (by first | exact HW0.out | exact HW0.out.alloc (by simp; omega) _)) hB6 ?_; intro v' w5 ho hf hn; rw [List.nil_append] at ho; obtain ⟨va', vc', rfl⟩ := row_formB ho; have hB5 := hf.below (B := _) (fun y hy => by cases (show y ∈ ([] : List Nat) from hy)) (Nat.le_refl _); have c0 := hB5.cell (p := ⟨w.heap.size, 0, none⟩) (by simp; try omega); have c1 := hB5.cell (p := ⟨w.heap.size, 1, none⟩) (by simp; try omega); have c2 := hB5.cell (p := ⟨w.heap.size + 1 + 1, 0, none⟩); have c3 := hB5.cell (p := ⟨w.heap.size + 1 + 1, 1, none⟩); have k2 := hB5.frozen (p := ⟨w.heap.size + 1 + 1, 0, none⟩); have k3 := hB5.frozen (p := ⟨w.heap.size + 1 + 1, 1, none⟩); simp at c0 c1 c2 c3 k2 k3; go_simp))
  case' refine_2.refine_3.refine_3.refine_3.refine_3.refine_1.refine_2.refine_3.refine_1.refine_2.refine_1.refine_2 =>
    have HI := Lib.hid (WInv.first ho hB5)
    clear c0 c1 c2 c3 k2 k3 hf hn hB5
    generalize w5.alloc (.cells #[.int .i64 c, .slice va' B.length vc'] 32) = wz at *
    generalize w5.heap.size = T at *
  case' refine_2.refine_3.refine_3.refine_3.refine_3.refine_2.refine_1.refine_2.refine_1.refine_2.refine_3.refine_1.refine_2 =>
    have HI := Lib.hid (WInv.first' ho hB5 rfl (((((Below.refl _ _).alloc (Nat.le_refl _) _).alloc (by simp) _).alloc (by simp; omega) _).drew))
    clear c0 c1 c2 c3 k2 k3 hf hn hB5
    generalize ((w5.setCell ⟨w.heap.size + 1 + 1, 0, none⟩ (.int .i64 c)).setCell ⟨w.heap.size + 1 + 1, 1, none⟩ (.slice va' B.length vc')) = wz at *
    generalize w.heap.size + 1 + 1 = T at *
  all_goals (
    clear hB6 HSrc HW0 ho
    go_wp2_with fail
    go_loopw [8] (fun i wr => ∃ k ga gc X, i = .int .i64 (k : Nat) ∧ k ≤ Lp ∧ Hid (X = B ++ P.take k) ∧ (X.length : Int) ≤ (c : Int) ∧ Hid (WInv w wr c T ga gc X)) (fun i _ => Lp - (intOf i).toNat)
    case atStart => exact ⟨0, va', vc', B, rfl, Nat.zero_le _, Lib.hid (by simp), e3, HI⟩
    case round =>
      obtain ⟨k, ga, gc, X, rfl, hk, HX, e5, HI⟩ := hrel
      have ct0 := cells_cell HI.out.ct (o := 0) rfl
      have ct1 := cells_cell HI.out.ct (o := 1) rfl
      have kt1 := cells_free HI.out.ct 1
      have hTl := lt_of_block HI.out.ct
      have t40 := cells_cell HI.out.t4 (o := 0) rfl
      have t41 := cells_cell HI.out.t4 (o := 1) rfl
      have kt40 := cells_free HI.out.t4 0
      have kt41 := cells_free HI.out.t4 1
      have hT4l := lt_of_block HI.out.t4
      have hXk : Hid (X.length = B.length + k) := Lib.hid (by rw [HX.out]; have := HP.out; simp; omega)
      have g0 : decide ((65536 : Int) < (Lp : Int)) = false := b1
      by_cases hkl : k < Lp
      · obtain ⟨b, off, rfl, hb, hl, hm, h0, hLie⟩ : ∃ b off, ap = some ⟨b, off, none⟩ ∧ b < w.heap.size ∧ Lp ≤ cp ∧ cp ≤ maxLen ∧ 0 < cp ∧ Lies w b off P := by
          rcases HS.out with ⟨_, h, _⟩ | ⟨h, _⟩ | h
          · omega
          · omega
          · exact h
        have hk2 : (k : Int) < (Lp : Int) := by omega
        by_cases hXc : X.length < c
        · have hXc2 : (X.length : Int) < (c : Int) := by omega
          obtain ⟨x, hx⟩ : ∃ x, x = P[k]'(by have := HP.out; omega) := ⟨_, rfl⟩
          have hcell : wr.cell? ⟨b, off + k, none⟩ = some (.int .u8 ((x.toNat : Nat) : Int)) := by
            rw [HI.out.bl.cell (p := ⟨b, off + k, none⟩) hb, hLie k x (by rw [hx]; simp)]
            rfl
          have hXn : Hid (X ++ [x] = B ++ P.take (k + 1)) := Lib.hid (by rw [HX.out, hx, List.append_assoc, List.take_succ_eq_append_getElem])
          have hbl : b < wr.heap.size := by have := HI.out.bl.size; omega
          have hbT : b ≠ T := by have := HI.out.tT; omega
          have hwT : w.heap.size + 2 ≤ wr.heap.size := by have := HI.out.tT; omega
          have hXl : X.length + [x].length ≤ 1000000 := by simp; omega
          clear hx hLie
          go_wp2_with fail
          refine wp_region_float (fun W => W.cell? ⟨T, 1, none⟩ = some (.slice ga X.length gc) ∧ W.cell? ⟨b, off + k, none⟩ = some (.int .u8 ((x.toNat : Nat) : Int))) 8 [0, 1, 2, 3, 4, 5] [6, 7] (by kernel_rfl) (by kernel_rfl) (fun _ _ _ d _ h => by cases d <;> exact h) ⟨ct1, hcell⟩ ?_
          simp only [List.map_cons, List.map_nil, List.getD_cons_zero, List.getD_cons_succ, List.drop_succ_cons, List.drop_zero]
          refine takes_by (.pointer (some ⟨T, 1, none⟩)) rfl (fun W _ => by go_simp) ?_
          simp only [Act.put, List.setIfInBounds_toArray, List.set_cons_zero, List.set_cons_succ]
          refine takes_by (.slice ga X.length gc) rfl (fun W hS => by have h1 := hS.1; go_simp) ?_
          simp only [Act.put, List.setIfInBounds_toArray, List.set_cons_zero, List.set_cons_succ]
          refine takes_move (.tmp 1) (.slice (some ⟨b, off, none⟩) Lp cp) rfl rfl rfl ?_
          simp only [Act.put, List.setIfInBounds_toArray, List.set_cons_zero, List.set_cons_succ]
          refine takes_move (.tmp 8) (.int .i64 k) rfl rfl rfl ?_
          simp only [Act.put, List.setIfInBounds_toArray, List.set_cons_zero, List.set_cons_succ]
          refine takes_by (.pointer (some ⟨b, off + k, none⟩)) rfl (fun W _ => by go_simp) ?_
          simp only [Act.put, List.setIfInBounds_toArray, List.set_cons_zero, List.set_cons_succ]
          refine takes_by (.int .u8 ((x.toNat : Nat) : Int)) rfl (fun W hS => by have h1 := hS.2; go_simp) ?_
          simp only [Act.put, List.setIfInBounds_toArray, List.set_cons_zero, List.set_cons_succ]
          unfold wpTakes
          refine mids_step rfl (fun K hK => ?_)
          go_simp
          refine hK _ _ ⟨by go_simp, by go_simp⟩ ?_
          clear hK
          refine mids_step rfl (fun K hK => ?_)
          have hrow := HI.out.row.grown (w' := wr.drew.alloc (.cells #[.int .u8 ((x.toNat : Nat) : Int)] 5)) ((Below.refl _ _).drew.alloc (Nat.le_refl _) _)
          refine wp_append_src (v := .slice ga X.length gc) (.tmp 32) (.tmp 37) rfl rfl rfl hrow (by simp; omega) (SrcA.row (row_one wr.drew x)) hXl ?_
          intro v' w6 ho hf hn
          obtain ⟨ga', gc', rfl⟩ := row_formB ho
          have hI6 := HI.out.step (x := x) ho hf
          have HI6 := Lib.hid hI6.1
          have HI7 := Lib.hid hI6.2
          refine hK _ _ ⟨cells_cell HI6.out (o := 1) rfl, ?_⟩ ?_
          · have h1 : (wr.drew.alloc (.cells #[.int .u8 ((x.toNat : Nat) : Int)] 5)).cell? ⟨b, off + k, none⟩ = some (.int .u8 ((x.toNat : Nat) : Int)) := by go_simp
            refine hf.cell h1 (fun hy => ?_)
            have := (HI.out.row.lt b (by simpa using hy)).1
            omega
          clear hK hrow hf hn ho hI6
          have ct1 := cells_cell HI6.out (o := 1) rfl
          have kt1 := cells_free HI6.out 1
          have hTl := lt_of_block HI6.out
          simp only [Act.put, List.setIfInBounds_toArray, List.set_cons_zero, List.set_cons_succ]
          unfold wpMids
          obtain ⟨Y, hY⟩ : ∃ Y, Y = X ++ [x] := ⟨_, rfl⟩
          have hYl : (Y.length : Int) ≤ (c : Int) := by rw [hY]; simp; omega
          rw [← hY] at hXn HI7 ⊢
          clear hY
          go_wp2_with fail
          go_roundw
          case rel => exact ⟨k + 1, ga', gc', Y, by go_num, by omega, hXn, hYl, HI7⟩
          case measure => simp [intOf]; omega
        · have hXc2 : decide ((X.length : Int) < (c : Int)) = false := by simp; omega
          have hkn : Hid (X = B ++ P.take n ∧ k = n) := Lib.hid (by
            have h1 := hXk.out
            have h2 := HP.out
            have h3 := HN.out
            have : k = n := by omega
            exact ⟨by rw [HX.out, this], this⟩)
          have HX2 : Hid (X = B ++ P.take n) := Lib.hid hkn.out.1
          have hkk : n = k := hkn.out.2.symm
          subst hkk
          clear hkn
          obtain ⟨hbW, hrowW, hTT⟩ : Hid (Below w.heap.size w wr) ∧ Hid (RowB wr (w.heap.size + 2) (.slice ga X.length gc) X) ∧ Hid (w.heap.size + 2 ≤ T) := ⟨Lib.hid HI.out.bl, Lib.hid HI.out.row, Lib.hid HI.out.tT⟩
          go_wp2_with fail
          refine bodyPost_ret (v := .tuple #[rv c (.slice ga X.length gc), .int .i64 n, .int .i64 0]) (by simp [results, Try.results12, go_sem, rv, t40, t41, kt40, kt41, hT4l]) rfl ⟨_, rfl, ?_, ?_⟩
          · rw [← HX2.out]
            have hne : ∀ g, (Value.slice ga X.length gc).ownBlock = some g → g ∉ [w.heap.size + 1] := fun g hg => by have := (hrowW.out.lt g hg).1; simp; omega
            exact RowB.lower ((fr_setCell _ _ _).row ((fr_setCell _ _ _).row hrowW.out hne) hne) (by omega)
          · exact (hbW.out.setCell (Nat.le_succ _) _).setCell (Nat.le_succ _) _
      · have hk2 : decide ((k : Int) < (Lp : Int)) = false := by simp; omega
        have hkn : Hid (X = B ++ P.take n ∧ k = n) := Lib.hid (by
          have h1 := hXk.out
          have h2 := HP.out
          have h3 := HN.out
          have : k = n := by omega
          exact ⟨by rw [HX.out, this], this⟩)
        have HX2 : Hid (X = B ++ P.take n) := Lib.hid hkn.out.1
        have hkk : n = k := hkn.out.2.symm
        subst hkk
        clear hkn
        obtain ⟨hbW, hrowW, hTT⟩ : Hid (Below w.heap.size w wr) ∧ Hid (RowB wr (w.heap.size + 2) (.slice ga X.length gc) X) ∧ Hid (w.heap.size + 2 ≤ T) := ⟨Lib.hid HI.out.bl, Lib.hid HI.out.row, Lib.hid HI.out.tT⟩
        go_wp2_with fail
        refine bodyPost_ret (v := .tuple #[rv c (.slice ga X.length gc), .int .i64 n, .int .i64 0]) (by simp [results, Try.results12, go_sem, rv, t40, t41, kt40, kt41, hT4l]) rfl ⟨_, rfl, ?_, ?_⟩
        · rw [← HX2.out]
          have hne : ∀ g, (Value.slice ga X.length gc).ownBlock = some g → g ∉ [w.heap.size + 1] := fun g hg => by have := (hrowW.out.lt g hg).1; simp; omega
          exact RowB.lower ((fr_setCell _ _ _).row ((fr_setCell _ _ _).row hrowW.out hne) hne) (by omega)
        · exact (hbW.out.setCell (Nat.le_succ _) _).setCell (Nat.le_succ _) _)
end Go.Proofs.Ytilafgemgdjfhaa
