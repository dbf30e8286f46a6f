/- The reference heap: Push. -/
import Derived.Test.YtpbnbddjfebenaaDoorRMut3
namespace Go.Proofs.YtpbnbddjfebenaaDoor
open Go.RowKit Go.Sort
set_option linter.unusedVariables false
set_option linter.unusedSimpArgs false

theorem low_all (hs : List Nat) (j : Nat) (hj : j < lowOf hs) : j ∈ hs := by
  obtain ⟨l, h1, h2, _⟩ := low_ex hs
  rw [lowOf_eq h1 h2] at hj
  exact h2 j hj
theorem cells_push (S : List El) (k v : Int) : cellsS (pushS S k v) = cellsS S ++ [.int .i64 (lowOf (hsOf S)), .int .i64 v, .int .u64 k] := by
  unfold pushS; rw [cellsS_append]; rfl
theorem new_cells3 (w : World) (a b c : Value) (t : TypeId) : ∀ (j : Nat) (u : Value), [a, b, c][j]? = some u → (w.alloc (.cells #[a, b, c] t)).cell? ((⟨w.heap.size, 0, none⟩ : Addr).add j) = some u := by
  intro j u h
  rw [Go.WideShapes.add_plain, Nat.zero_add]
  exact cell_new _ _ _ _ _ _ rfl (by simpa using h)

set_option maxRecDepth 100000 in
set_option maxHeartbeats 3200000 in
theorem rpush_any {w : World} {s : Value} {S : List El} (h : RowR w 0 s S) (hl : S.length < 1024) (k v : Int) :
    Calls Tryd.prog 18 #[.agg #[s], .int .u64 k, .int .i64 v] w fun e w' => ∃ s', e = .returned (.tuple #[.agg #[s'], .int .i64 (lowOf (hsOf S)), .int .i64 0]) ∧ RowR w' w.heap.size s' (pushS S k v) ∧ Below w.heap.size w w' := by
  obtain ⟨i0, hi0, hz0, hz1, hz2⟩ := info_parts infoREl
  have hb : Below w.heap.size w ((w.alloc (.cells #[s] 28)).alloc (.cells #[.slice none 0 0] 28)) := ((Below.refl _ _).alloc (Nat.le_refl _) _).alloc (by simp) _
  have h2 := h.below hb
  have hx0 := (BoxR.new w s).alloc (.cells #[.slice none 0 0] 28)
  have hr0 : BoxR ((w.alloc (.cells #[s] 28)).alloc (.cells #[.slice none 0 0] 28)) (w.heap.size + 1) (.slice none 0 0) := block_new _ _ _ (by simp)
  have hs0 : ((w.alloc (.cells #[s] 28)).alloc (.cells #[.slice none 0 0] 28)).heap.size = w.heap.size + 2 := by simp
  have HB := Lib.hid hb
  have HX := Lib.hid hx0
  have HR := Lib.hid hr0
  have H2 := Lib.hid h2
  have hf : ∃ a c, s = .slice a S.length c := by
    rcases h.form with ⟨rfl, rfl⟩ | ⟨g, cap, rfl, _⟩
    · exact ⟨_, _, rfl⟩
    · exact ⟨_, _, rfl⟩
  obtain ⟨a0, c0, rfl⟩ := hf
  have hli : (S.length : Int) < 1024 := by omega
  have hll : lowOf (hsOf S) ≤ S.length := by have := low_le (hsOf S); simp only [hsOf, List.length_map] at this; exact this
  clear hb hx0 hr0 h h2
  go_enter Tryd.func18, Tryd.ntmps18
  go_wp2_with fail
  generalize hw2 : (w.alloc (.cells #[.slice a0 S.length c0] 28)).alloc (.cells #[.slice none 0 0] 28) = w2 at *
  clear hw2
  go_loopw [9] (fun i wr => ∃ j : Nat, j ≤ lowOf (hsOf S) ∧ i = .int .i64 j ∧ Below w2.heap.size w2 wr) (fun i _ => 1024 - (intOf i).toNat)
  case atStart => exact ⟨0, Nat.zero_le _, rfl, Below.refl _ _⟩
  case round =>
    obtain ⟨j, hj, rfl, hbw⟩ := hrel
    have hwr := hbw.size
    have hx := HX.out.below hbw (by omega)
    have hr := HR.out.below hbw (by omega)
    have hc1 := hx.cell
    have Hat := Lib.hid (rat_any (H2.out.below hbw) (by omega) j)
    by_cases hlt : j < lowOf (hsOf S)
    · have hBw := Lib.hid hbw
      clear hbw hx hr
      go_wp2_with (go_at_call 39; fail)
      refine Hat.out.mono ?_
      rintro e w1 ⟨r, rfl, hat, hb1⟩
      obtain ⟨i, el, hi, rfl, hel⟩ := atR_yes hat ⟨j, rfl, low_all _ _ hlt⟩
      have g1 : (0 : Int) ≤ (i : Int) := by omega
      have g2 : (j : Int) < 1024 := by omega
      clear hat
      go_wp2_with fail
      go_roundw
      case rel => exact ⟨j + 1, by omega, by go_num, hBw.out.trans (hb1.mono hwr)⟩
      case measure => simp [intOf]; omega
    · have hjl : Hid (j = lowOf (hsOf S)) := Lib.hid (by omega)
      have hj0 : (j : Int) < 1024 := by omega
      clear hll hj hlt
      have hB : Below w.heap.size w wr := HB.out.trans (hbw.mono HB.out.size)
      have h1 := H2.out.below hbw
      clear hbw
      go_wp2_with (go_at_call 39; fail)
      refine Hat.out.mono ?_
      rintro e w1 ⟨r, rfl, hat, hb1⟩
      obtain rfl := atR_no hat (fun ⟨x, hx, hm⟩ => low_not (hsOf S) (by rw [← hjl.out]; have : x = j := by omega
                                                                        rw [← this]; exact hm))
      have hs1 := hb1.size
      have hx1 := hx.below hb1 (by omega)
      have hr1 := hr.below hb1 (by omega)
      have hc1' := hx1.cell
      have hcopy := Lib.hid (rcopy_any (h1.below hb1) (by omega))
      have hB1 := hB.trans (hb1.mono hB.size)
      clear hat hx hr hB h1 Hat
      go_wp2_with (go_at_call 23; fail)
      refine hcopy.out.mono ?_
      rintro e w3 ⟨s', rfl, hrow, hb3⟩
      have hs3 := hb3.size
      have hr3 := hr1.below hb3 (by omega)
      have hB3 := hB1.trans (hb3.mono hB1.size)
      obtain ⟨O, hO⟩ : ∃ O : Obj, O = .cells #[.int .i64 j, .int .i64 v, .int .u64 k] 64 := ⟨_, rfl⟩
      have hbe : Below w3.heap.size w3 ((w3.alloc (.cells #[s'] 28)).alloc O) := ((Below.refl _ _).alloc (Nat.le_refl _) _).alloc (by simp) _
      have hrow5 : RowR ((w3.alloc (.cells #[s'] 28)).alloc O) w.heap.size s' S := (hrow.below hbe).mono (by omega)
      have hbox5 := (BoxR.new w3 s').alloc O
      have hr5 := hr3.below hbe (by omega)
      have hB5 : Below w.heap.size w ((w3.alloc (.cells #[s'] 28)).alloc O) := hB3.trans (hbe.mono (by omega))
      rw [hO] at hrow5 hbox5 hr5 hB5
      have hown := Lib.hid hrow5
      have hnr : s'.ownBlock ≠ some w3.heap.size := fun q => by
        have := BodAt.row_ne hrow5 hbox5 (by decide) _ q
        exact this rfl
      have hnr' : s'.ownBlock ≠ some (w.heap.size + 1) := fun q => by
        have := BodAt.row_ne hrow5 hr5 (by decide) _ q
        exact this rfl
      have hbase : ∀ q, s'.ownBlock = some q → w.heap.size ≤ q := fun q hq => (hrow5.lt q hq).1
      obtain ⟨a1, n1, c1, rfl⟩ := row_form hrow5
      have Hbox5 := Lib.hid hbox5
      have Hr5 := Lib.hid hr5
      have HB5 := Lib.hid hB5
      have hs5 : w.heap.size ≤ w3.heap.size := by omega
      have f3 : Hid ([Value.int .i64 (j : Int), .int .i64 v, .int .u64 k].length = 1 * 3) := rfl
      clear hrow5 hbox5 hr5 hB5 hrow hb3 hr3 hB3 hB1 hr1 hx1 hcopy hbe hb1 hO
      go_wp2_with (at_builtin; refine wpList_append_own _ rfl _ _ 26 rfl w.heap.size 64 i0 (.agg #[.int .i64 0, .int .i64 0, .int .u64 0]) 3 24 Tryd.underlying26 hi0 hz0 hz1 hz2 rfl (by decide) _ _ _ rfl hown.out ⟨w3.heap.size + 1, 0, none⟩ 1 1 [.int .i64 j, .int .i64 v, .int .u64 k] rfl ?qc1 ?qc2 ?qc3 ?qc4 ?qc5 ?qc6 ?_)
      case qc1 => rfl
      case qc2 =>
        have := new_cells3 (w3.alloc (.cells #[.slice a1 n1 c1] 28)) (.int .i64 j) (.int .i64 v) (.int .u64 k) 64
        simpa using this
      case qc3 => intro u hu; simp at hu; rcases hu with rfl | rfl | rfl <;> rfl
      case qc4 => unfold maxLen; omega
      case qc5 => omega
      case qc6 => simp; omega
      intro v' w6 hown' hgrow hnil
      have t1 : BoxR w6 w3.heap.size (.slice a1 n1 c1) := Hbox5.out.grown hgrow (fun q => hnr q.symm)
      have t2 : BoxR w6 (w.heap.size + 1) (.slice none 0 0) := Hr5.out.grown hgrow (fun q => hnr' q.symm)
      have t4 : Below w.heap.size w w6 := HB5.out.grown hgrow (by simp; omega) (fun q hq => hbase q hq)
      have t3 : RowR w6 w.heap.size v' (pushS S k v) := by
        unfold RowR
        rw [cells_push, ← hjl.out]
        simpa [pushS] using hown'
      obtain ⟨a2, n2, c2, rfl⟩ := row_form hown'
      have b1 := t1.cell
      have b2 := t1.free
      have b3 := t2.cell
      have hne : w.heap.size + 1 ≠ w3.heap.size := by omega
      have t2' := t2.other hne 0 (.slice a2 n2 c2)
      have t1' := t1.set (.slice a2 n2 c2)
      have t3' := t3.box t1 (.slice a2 n2 c2)
      have t4' := below_box t4 hs5 0 (.slice a2 n2 c2)
      have b5 := t1'.cell
      have b6 := t2'.cell
      have b7 := t2'.free
      have t5 := Lib.hid (t3'.box t2' (.slice a2 n2 c2))
      have t6 := Lib.hid (below_box t4' (b := w.heap.size + 1) (by omega) 0 (.slice a2 n2 c2))
      have hq := World.cell?_setCell_same _ _ (.slice a2 n2 c2) b6
      clear t1 t2 t3 t4 t1' t2' t3' t4' hown' hgrow hnil hown Hbox5 Hr5 HB5
      go_wp2_with fail
      exact bodyPost_ret (v := .tuple #[.agg #[.slice a2 n2 c2], .int .i64 j, .int .i64 0]) (by simp [results, Tryd.results18, go_sem, hq]) rfl ⟨_, by rw [hjl.out], t5.out, t6.out⟩
end Go.Proofs.YtpbnbddjfebenaaDoor
