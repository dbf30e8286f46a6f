/- The reference of the timers: Set where it sets. -/
import Derived.Test.YthlbnlbkgiclpaaDoorMSet
namespace Go.Proofs.YthlbnlbkgiclpaaDoor
open Go.RowKit Go.Sort
set_option linter.unusedVariables false
set_option linter.unusedSimpArgs false

theorem BoxM.set {w : World} {b : Nat} {s : Value} (h : BoxM w b s) (u : Value) : BoxM (w.setCell ⟨b, 0, none⟩ u) b u := cells_set h 0 u
theorem BoxM.grown {w w' : World} {b : Nat} {s : Value} {row : Option Nat} (h : BoxM w b s) (hg : w.grownBy w' row) (hne : some b ≠ row) : BoxM w' b s := (hg.block b h.lt hne).trans h
theorem IdM.grown {w w' : World} {b : Nat} {n g : Int} {row : Option Nat} (h : IdM w b n g) (hg : w.grownBy w' row) (hne : some b ≠ row) : IdM w' b n g := (hg.block b h.lt hne).trans h
theorem RowM.id {w : World} {b base : Nat} {s : Value} {n g : Int} {S : List Tm} (h : RowM w base s S) (hb : IdM w b n g) (j : Nat) (u : Value) : RowM (w.setCell ⟨b, j, none⟩ u) base s S := by
  have hf : Fr [b] w (w.setCell ⟨b, j, none⟩ u) := fr_setCell w ⟨b, j, none⟩ u
  refine hf.row h (fun g hg => ?_)
  have := BodAt.row_ne h hb (by decide) g hg
  simpa using this
theorem res_row {w1 : World} {b c base : Nat} {s0 s x : Value} {n0 g0 : Int} {S : List Tm} (h : BoxM w1 b s0) (hi : IdM w1 c n0 g0) (hne : c ≠ b) (hr : RowM w1 base x S) (n g : Int) :
    RowM (((w1.setCell ⟨b, 0, none⟩ s).setCell ⟨c, 0, none⟩ (.int .i64 n)).setCell ⟨c, 1, none⟩ (.int .i64 g)) base x S := by
  have i1 := hi.other hne 0 s
  have i2 : IdM ((w1.setCell ⟨b, 0, none⟩ s).setCell ⟨c, 0, none⟩ (.int .i64 n)) c n g0 := cells_set i1 0 _
  exact ((hr.box h s).id i1 0 _).id i2 1 _

set_option maxRecDepth 100000 in
set_option maxHeartbeats 3200000 in
theorem mset_any {w : World} {s : Value} {S : List Tm} (h : RowM w 0 s S) (hl : S.length ≤ 90000) (hf : (alive S).length < 1024) (k o : Int) (hk : k ≠ 18446744073709551615) :
    Calls Tryd.prog 49 #[.agg #[s], .int .u64 k, .int .i64 o] w fun e w' => ∃ s', e = .returned (.tuple #[.agg #[s'], .agg #[.int .i64 (lowOf (numsM S)), .int .i64 (ofN S (lowOf (numsM S))).length], .int .i64 0]) ∧ RowM w' w.heap.size s' (setM S k o) ∧ Below w.heap.size w w' := by
  obtain ⟨i0, hi0, hz0, hz1, hz2⟩ := info_parts infoM
  have hb : Below w.heap.size w (((w.alloc (.cells #[s] 51)).alloc (.cells #[.slice none 0 0] 51)).alloc (.cells #[.int .i64 0, .int .i64 0] 53)) := (((Below.refl _ _).alloc (Nat.le_refl _) _).alloc (by simp) _).alloc (by simp; omega) _
  have h2 := h.below hb
  have hlen := Lib.hid (mlen_any h2 (by omega))
  have hx0 := ((BoxM.new w s).alloc (.cells #[.slice none 0 0] 51)).alloc (.cells #[.int .i64 0, .int .i64 0] 53)
  have hr0 : BoxM (((w.alloc (.cells #[s] 51)).alloc (.cells #[.slice none 0 0] 51)).alloc (.cells #[.int .i64 0, .int .i64 0] 53)) (w.heap.size + 1) (.slice none 0 0) := BoxM.alloc (show BoxM ((w.alloc (.cells #[s] 51)).alloc (.cells #[.slice none 0 0] 51)) (w.heap.size + 1) (.slice none 0 0) from block_new _ _ _ (by simp)) _
  have hi0' : IdM (((w.alloc (.cells #[s] 51)).alloc (.cells #[.slice none 0 0] 51)).alloc (.cells #[.int .i64 0, .int .i64 0] 53)) (w.heap.size + 2) 0 0 := block_new _ _ _ (by simp)
  have hs0 : (((w.alloc (.cells #[s] 51)).alloc (.cells #[.slice none 0 0] 51)).alloc (.cells #[.int .i64 0, .int .i64 0] 53)).heap.size = w.heap.size + 3 := by simp
  obtain ⟨a0, n0, c0, rfl⟩ := row_form h
  have hfi : ((alive S).length : Int) < 1024 := by omega
  have hll : lowOf (numsM S) ≤ (alive S).length := by have := low_le (numsM S); simp only [numsM, List.length_map] at this; exact this
  have HB := Lib.hid hb
  have HX := Lib.hid hx0
  have HR := Lib.hid hr0
  have HI := Lib.hid hi0'
  have H2 := Lib.hid h2
  clear h hb hx0 hr0 hi0' h2
  have tk : (k == 18446744073709551615) = false := by simp [hk]
  go_enter Tryd.func49, Tryd.ntmps49
  go_wp2_with (go_at_call 17; fail)
  refine hlen.out.mono ?_
  rintro e w2 ⟨rfl, hg2⟩
  have hb2 := hg2.below
  have hs2 := hb2.size
  have H3 := Lib.hid (H2.out.below hb2)
  have HX3 := Lib.hid (HX.out.below hb2 (by omega))
  have HR3 := Lib.hid (HR.out.below hb2 (by omega))
  have HI3 := Lib.hid (HI.out.below hb2 (by omega))
  have HB3 := Lib.hid (HB.out.trans (hb2.mono HB.out.size))
  clear hb2 hg2 H2 HX HR HI HB hlen
  go_wp2_with fail
  generalize (((w.alloc (.cells #[.slice a0 n0 c0] 51)).alloc (.cells #[.slice none 0 0] 51)).alloc (.cells #[.int .i64 0, .int .i64 0] 53)) = W0 at *
  go_loopw [9] (fun i wr => ∃ j : Nat, j ≤ lowOf (numsM S) ∧ i = .int .i64 j ∧ Below w2.heap.size w2 wr) (fun i _ => 1024 - (intOf i).toNat)
  case atStart => exact ⟨0, Nat.zero_le _, rfl, Below.refl _ _⟩
  case round =>
    obtain ⟨j, hj, rfl, hbw⟩ := hrel
    have hwr := hbw.size
    have hx := HX3.out.below hbw (by omega)
    have hr := HR3.out.below hbw (by omega)
    have hid := HI3.out.below hbw (by omega)
    have hc1 := hx.cell
    have Hm := mmany_any (H3.out.below hbw) (by omega) j
    by_cases hlt : j < lowOf (numsM S)
    · have hBw := Lib.hid hbw
      rw [(anyN_iff S j).2 (low_allM _ _ hlt)] at Hm
      have HM := Lib.hid Hm
      have g2 : (j : Int) < 1024 := by omega
      clear hbw hx hr hid Hm
      go_wp2_with (go_at_call 76; fail)
      refine HM.out.mono ?_
      rintro e w1 ⟨rfl, hg1⟩
      have HG := Lib.hid hg1
      clear hg1
      go_wp2_with fail
      go_roundw
      case rel => exact ⟨j + 1, by omega, by go_num, hBw.out.trans (HG.out.below.mono hwr)⟩
      case measure => simp [intOf]; omega
    · have hjl : Hid (j = lowOf (numsM S)) := Lib.hid (by omega)
      have hf0 : anyN (ofN S j) = false := by
        cases q : anyN (ofN S j) with
        | false => rfl
        | true => exact absurd ((anyN_iff S j).1 q) (by rw [hjl.out]; exact low_not _)
      rw [hf0] at Hm
      have HM := Lib.hid Hm
      have hj0 : (j : Int) < 1024 := by omega
      clear hll hj hlt hf0 Hm
      have hB : Below w.heap.size w wr := HB3.out.trans (hbw.mono (by omega))
      have h1 := H3.out.below hbw
      clear hbw
      go_wp2_with (go_at_call 76; fail)
      refine HM.out.mono ?_
      rintro e w1 ⟨rfl, hg1⟩
      have hb1 := hg1.below
      have hs1 := hb1.size
      have hx1 := hx.below hb1 (by omega)
      have hr1 := hr.below hb1 (by omega)
      have hid1 := hid.below hb1 (by omega)
      have hc1' := hx1.cell
      have hcopy := Lib.hid (mcopy_any (h1.below hb1) (by omega))
      have hB1 := hB.trans (hb1.mono hB.size)
      obtain ⟨cnt, hcnt⟩ : ∃ cnt : Nat, cnt = (ofN S j).length := ⟨_, rfl⟩
      rw [← hcnt]
      have Hcnt := Lib.hid hcnt
      clear hx hr hB h1 HM hid hg1 hcnt
      go_wp2_with (go_at_call 77; fail)
      refine hcopy.out.mono ?_
      rintro e w3 ⟨s', rfl, hrow, hb3⟩
      have hs3 := hb3.size
      have hr3 := hr1.below hb3 (by omega)
      have hid3 := hid1.below hb3 (by omega)
      have hB3 := hB1.trans (hb3.mono hB1.size)
      obtain ⟨O, hO⟩ : ∃ O : Obj, O = .cells #[.int .i64 j, .int .i64 cnt, .int .i64 o, .int .u64 k, .bool false] 62 := ⟨_, rfl⟩
      have hbe : Below w3.heap.size w3 (((w3.alloc (.cells #[s'] 51)).alloc (.cells #[.int .i64 j, .int .i64 cnt] 53)).alloc O) := (((Below.refl _ _).alloc (Nat.le_refl _) _).alloc (by simp) _).alloc (by simp; omega) _
      have hrow5 : RowM (((w3.alloc (.cells #[s'] 51)).alloc (.cells #[.int .i64 j, .int .i64 cnt] 53)).alloc O) w.heap.size s' S := (hrow.below hbe).mono (by omega)
      have hbox5 := ((BoxM.new w3 s').alloc (.cells #[.int .i64 j, .int .i64 cnt] 53)).alloc O
      have hnew5 : IdM (((w3.alloc (.cells #[s'] 51)).alloc (.cells #[.int .i64 j, .int .i64 cnt] 53)).alloc O) (w3.heap.size + 1) j cnt := IdM.alloc (show IdM ((w3.alloc (.cells #[s'] 51)).alloc (.cells #[.int .i64 j, .int .i64 cnt] 53)) (w3.heap.size + 1) j cnt from block_new _ _ _ (by simp)) _
      have hr5 := hr3.below hbe (by omega)
      have hid5 := hid3.below hbe (by omega)
      have hB5 : Below w.heap.size w (((w3.alloc (.cells #[s'] 51)).alloc (.cells #[.int .i64 j, .int .i64 cnt] 53)).alloc O) := hB3.trans (hbe.mono (by omega))
      rw [hO] at hrow5 hbox5 hr5 hB5 hnew5 hid5
      have hown := Lib.hid hrow5
      have hnr : s'.ownBlock ≠ some w3.heap.size := fun q => by
        have := BodAt.row_ne hrow5 hbox5 (by decide) _ q
        exact this rfl
      have hnr1 : s'.ownBlock ≠ some (w3.heap.size + 1) := fun q => by
        have := BodAt.row_ne hrow5 hnew5 (by decide) _ q
        exact this rfl
      have hnr2 : s'.ownBlock ≠ some (w.heap.size + 1) := fun q => by
        have := BodAt.row_ne hrow5 hr5 (by decide) _ q
        exact this rfl
      have hnr3 : s'.ownBlock ≠ some (w.heap.size + 2) := fun q => by
        have := BodAt.row_ne hrow5 hid5 (by decide) _ q
        exact this rfl
      have hbase : ∀ q, s'.ownBlock = some q → w.heap.size ≤ q := fun q hq => by
        rcases hrow5.form with ⟨rfl, _⟩ | ⟨g, cap, rfl, hg⟩
        · simp [Value.ownBlock] at hq
        · simp [Value.ownBlock] at hq; subst hq; exact hg
      obtain ⟨a1, n1, c1, rfl⟩ := row_form hrow5
      have Hbox5 := Lib.hid hbox5
      have Hr5 := Lib.hid hr5
      have HB5 := Lib.hid hB5
      have Hnew5 := Lib.hid hnew5
      have Hid5 := Lib.hid hid5
      have hs5 : w.heap.size ≤ w3.heap.size := by omega
      have hs6 : w.heap.size + 3 ≤ w3.heap.size := by omega
      clear hrow5 hbox5 hr5 hB5 hrow hb3 hr3 hB3 hB1 hr1 hx1 hcopy hbe hb1 hO hnew5 hid5 hid1 hid3
      go_wp2_with (at_builtin; refine wpList_append_own _ rfl _ _ 49 rfl w.heap.size 62 i0 (.agg #[.int .i64 0, .int .i64 0, .int .i64 0, .int .u64 0, .bool false]) 5 40 Tryd.underlying49 hi0 hz0 hz1 hz2 rfl (by decide) _ _ _ rfl hown.out ⟨w3.heap.size + 2, 0, none⟩ 1 1 [.int .i64 j, .int .i64 cnt, .int .i64 o, .int .u64 k, .bool false] rfl ?qc1 ?qc2 ?qc3 ?qc4 ?qc5 ?qc6 ?_)
      case qc1 => rfl
      case qc2 =>
        have := new_cells5 ((w3.alloc (.cells #[.slice a1 n1 c1] 51)).alloc (.cells #[.int .i64 j, .int .i64 cnt] 53)) (.int .i64 j) (.int .i64 cnt) (.int .i64 o) (.int .u64 k) (.bool false) 62
        simpa using this
      case qc3 => intro u hu; simp at hu; rcases hu with rfl | rfl | rfl | rfl | rfl <;> rfl
      case qc4 => unfold maxLen; omega
      case qc5 => omega
      case qc6 => simp; omega
      intro v' w6 hown' hgrow hnil
      have t1 : BoxM w6 w3.heap.size (.slice a1 n1 c1) := Hbox5.out.grown hgrow (fun q => hnr q.symm)
      have t2 : BoxM w6 (w.heap.size + 1) (.slice none 0 0) := Hr5.out.grown hgrow (fun q => hnr2 q.symm)
      have t3 : IdM w6 (w3.heap.size + 1) j cnt := Hnew5.out.grown hgrow (fun q => hnr1 q.symm)
      have t4 : IdM w6 (w.heap.size + 2) 0 0 := Hid5.out.grown hgrow (fun q => hnr3 q.symm)
      have t5 : Below w.heap.size w w6 := HB5.out.grown hgrow (by simp; omega) (fun q hq => hbase q hq)
      have t6 : RowM w6 w.heap.size v' (setM S k o) := by
        unfold RowM
        rw [cells_setM, ← hjl.out, ← Hcnt.out]
        simpa [setM] using hown'
      obtain ⟨a2, n2, c2, rfl⟩ := row_form hown'
      have b1 := t1.cell
      have b2 := t1.free
      have u1 := t1.set (.slice a2 n2 c2)
      have u2 := t2.other (show w.heap.size + 1 ≠ w3.heap.size by omega) 0 (.slice a2 n2 c2)
      have u3 := t3.other (show w3.heap.size + 1 ≠ w3.heap.size by omega) 0 (.slice a2 n2 c2)
      have u4 := t4.other (show w.heap.size + 2 ≠ w3.heap.size by omega) 0 (.slice a2 n2 c2)
      have u5 := below_boxM t5 hs5 0 (.slice a2 n2 c2)
      have u6 := t6.box t1 (.slice a2 n2 c2)
      have d1 := u1.cell
      have d3 := u3.c0
      have d4 := u3.c1
      have e1 := u2.cell
      have e2 := u2.free
      have e3 := u4.c0
      have e4 := u4.c1
      have e5 := u4.free 0
      have e6 := u4.free 1
      have Hres := Lib.hid (res_stored (s := .slice a2 n2 c2) u2 u4 (by omega) u5 (by omega) (by omega) j cnt)
      have Hrow := Lib.hid (res_row (s := .slice a2 n2 c2) u2 u4 (by omega) u6 j cnt)
      clear t1 t2 t3 t4 t5 t6 u1 u2 u3 u4 u5 u6 hown' hgrow hnil hown Hbox5 Hr5 HB5 Hnew5 Hid5
      go_wp2_with fail
      go_region
      simp only [Exit.inBlock, Exit.then]
      go_at_K
      go_wp2_with fail
      obtain ⟨q0, q1, q2, q3⟩ := Hres.out
      refine bodyPost_ret (v := .tuple #[.agg #[.slice a2 n2 c2], .agg #[.int .i64 j, .int .i64 cnt], .int .i64 0]) (by simp [results, Tryd.results49, go_sem, q0, q1, q2]) rfl ⟨_, by rw [← hjl.out, ← Hcnt.out], Hrow.out.below ((fr_drewN _ 1 []).below (fun _ hx => by simp at hx) (Nat.le_refl _)), q3.trans ((fr_drewN _ 1 []).below (fun _ hx => by simp at hx) q3.size)⟩
end Go.Proofs.YthlbnlbkgiclpaaDoor
