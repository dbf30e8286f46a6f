/- The reference heap: Order and Top. -/
import Derived.Test.YtpbnbddjfebenaaDoorRPush
namespace Go.Proofs.YtpbnbddjfebenaaDoor
open Go.RowKit Go.Sort
set_option linter.unusedVariables false
set_option linter.unusedSimpArgs false

/-- Writing a box leaves a row of numbers. -/
theorem row_box_int {w : World} {b base n : Nat} {s x : Value} {xs : List Value} (h : w.ownsRow base 3 1 s n xs) (hb : BoxR w b x) (u : Value) : (w.setCell ⟨b, 0, none⟩ u).ownsRow base 3 1 s n xs := by
  have hf : Fr [b] w (w.setCell ⟨b, 0, none⟩ u) := fr_setCell w ⟨b, 0, none⟩ u
  refine hf.row h (fun g hg => ?_)
  have := BodAt.row_ne h hb (by decide) g hg
  simpa using this

def keyAt (T : List El) (j : Nat) : Int := (T[j]?.map El.k).getD 0
theorem keyAt_eq {T : List El} {j : Nat} (h : j < T.length) : keyAt T j = T[j].k := by simp [keyAt, h]
theorem isBest_eq {T : List El} {b c : Nat} (hb : IsBest T b) (hc : IsBest T c) : b = c := by
  rcases Nat.lt_trichotomy b c with h | h | h
  · have h1 := hc.first b h
    have h2 := hb.least c hc.lt
    omega
  · exact h
  · have h1 := hb.first c h
    have h2 := hc.least b hb.lt
    omega
theorem best_of {T : List El} {b : Nat} (hb : b < T.length) (h1 : ∀ j, j < T.length → keyAt T b ≤ keyAt T j) (h2 : ∀ j, j < b → keyAt T b < keyAt T j) : best T = b := by
  refine isBest_eq (isBest_best (by omega)) ⟨hb, fun j hj => ?_, fun j hj => ?_⟩
  · have := h1 j hj; rwa [keyAt_eq hb, keyAt_eq hj] at this
  · have := h2 j hj; rwa [keyAt_eq hb, keyAt_eq (by omega)] at this

theorem order_best {T : List El} {b : Nat} {el : El} (hb : best T = b) (hel : T[b]? = some el) : order T = el.h :: order (T.eraseIdx b) := by
  subst hb
  obtain ⟨hl, e1⟩ := List.getElem?_eq_some_iff.1 hel
  rw [order_cons (by omega), e1]

set_option maxRecDepth 100000 in
set_option maxHeartbeats 6400000 in
theorem rorder_any {w : World} {s : Value} {S : List El} (h : RowR w 0 s S) (hl : S.length ≤ 1024) :
    Calls Tryd.prog 7 #[.agg #[s]] w fun e w' => ∃ v, e = .returned v ∧ w'.ownsRow w.heap.size 3 1 v (order S).length ((order S).map encN) ∧ Below w.heap.size w w' := by
  obtain ⟨i0, hi0, hz0, hi1, hz2⟩ := info_parts infoREl
  obtain ⟨j0, hj0, jz0, jz1, jz2⟩ := info_parts infoInt
  have hb : Below w.heap.size w (w.alloc (.cells #[s] 28)) := (Below.refl _ _).alloc (Nat.le_refl _) _
  have hcopy := Lib.hid (rcopy_any (h.below hb) hl)
  have HB := Lib.hid hb
  obtain ⟨a0, n0, c0, rfl⟩ := row_form h
  clear hb h
  go_enter Tryd.func7, Tryd.ntmps7
  go_wp2_with (go_at_call 23; fail)
  refine hcopy.out.mono ?_
  rintro e w3 ⟨s', rfl, hrow, hb3⟩
  have hs3 : w.heap.size + 1 ≤ w3.heap.size := by have := hb3.size; simpa using this
  have hB3 : Below w.heap.size w w3 := HB.out.trans (hb3.mono (by simp))
  have hrow4 : RowR (w3.alloc (.cells #[s'] 28)) w.heap.size s' S := (hrow.below ((Below.refl _ _).alloc (Nat.le_refl _) _)).mono (by simp)
  have hbox4 := BoxR.new w3 s'
  have hB4 : Below w.heap.size w (w3.alloc (.cells #[s'] 28)) := hB3.alloc (by omega) _
  have H4 := Lib.hid hrow4
  have X4 := Lib.hid hbox4
  have B4 := Lib.hid hB4
  obtain ⟨a1, n1, c1, rfl⟩ := row_form hrow4
  clear hrow hb3 hB3 hrow4 hbox4 hB4 hcopy HB
  go_wp2_with fail
  have hwB : w.heap.size ≤ w3.heap.size := by omega
  generalize w3.alloc (.cells #[.slice a1 n1 c1] 28) = w4 at *
  generalize w3.heap.size = B at *
  go_loopg [4] S.length (fun m v wr => ∃ (T : List El) (pre : List Nat) (sT : Value), T.length = m ∧ T.length ≤ 1024 ∧ pre ++ order T = order S ∧ BoxR wr B sT ∧ RowR wr w.heap.size sT T ∧ wr.ownsRow w.heap.size 3 1 v pre.length (pre.map encN) ∧ Below w.heap.size w wr)
  case atStart => exact ⟨S, [], _, rfl, hl, rfl, X4.out, H4.out, World.ownsRow_nil _ _ _ _, B4.out⟩
  case round =>
    obtain ⟨T, pre, sT, rfl, hTl, hord, hbox, hrow, hout, hbel⟩ := hrel
    clear H4 X4 B4
    have hc := hbox.cell
    have hordl : Hid (pre.length ≤ 1024) := by
      have h1 := congrArg List.length hord
      have h2 := (order_perm S.length S rfl).length_eq
      simp [hsOf] at h1 h2
      exact (by omega : pre.length ≤ 1024)
    by_cases h0 : T.length = 0
    · obtain rfl := List.eq_nil_of_length_eq_zero h0
      obtain ⟨rfl, _⟩ | ⟨g, cap, rfl, _⟩ := hrow.form
      · rw [order_nil, List.append_nil] at hord
        subst hord
        obtain ⟨a5, n5, c5, rfl⟩ := row_form hout
        have HO := Lib.hid hout
        have HB := Lib.hid hbel
        clear hout hbel hrow hbox
        go_wp2_with fail
        go_ret
        exact ⟨_, rfl, HO.out, HB.out⟩
      · rw [order_nil, List.append_nil] at hord
        subst hord
        obtain ⟨a5, n5, c5, rfl⟩ := row_form hout
        have HO := Lib.hid hout
        have HB := Lib.hid hbel
        clear hout hbel hrow hbox
        go_wp2_with fail
        go_ret
        exact ⟨_, rfl, HO.out, HB.out⟩
    · rcases hrow.form with ⟨_, h1⟩ | ⟨g, cap, rfl, hg1, hg2, hcap, hcm⟩
      · subst h1; simp at h0
      · have hT0 : (0 : Int) < (T.length : Int) := by omega
        have hTi : (T.length : Int) ≤ 1024 := by omega
        have HO := Lib.hid hout
        have HB := Lib.hid hbel
        have HX := Lib.hid hbox
        have HR := Lib.hid hrow
        have Hord := Lib.hid hord
        obtain ⟨a5, n5, c5, rfl⟩ := row_form hout
        clear hout hbel hbox hrow hord
        go_wp2_with fail
        go_loopw [5, 6] (fun b i wr2 => ∃ bn k n : Nat, b = .int .i64 bn ∧ i = .int .i64 k ∧ wr2 = wr.drewN n ∧ bn < k ∧ k ≤ T.length ∧ (∀ j, j < k → keyAt T bn ≤ keyAt T j) ∧ (∀ j, j < bn → keyAt T bn < keyAt T j)) (fun _ i _ => T.length - (intOf i).toNat)
        case atStart => exact ⟨0, 1, 0, rfl, rfl, rfl, by omega, by omega, fun j hj => by obtain rfl : j = 0 := by omega
                                                                                          exact Int.le_refl _, fun j hj => by omega⟩
        case round =>
          obtain ⟨bn, k, n, rfl, rfl, rfl, hbk, hk, l1, l2⟩ := hrel
          have L1 := Lib.hid l1
          have L2 := Lib.hid l2
          clear l1 l2
          have g0 : (0 : Int) ≤ (bn : Int) := by omega
          have g1 : (bn : Int) < (T.length : Int) := by omega
          have g2 : (0 : Int) ≤ (k : Int) := by omega
          by_cases hlt : k < T.length
          · have g3 : (k : Int) < (T.length : Int) := by omega
            obtain ⟨_, _, ck⟩ := HR.out.cells k T[k] (List.getElem?_eq_getElem hlt)
            obtain ⟨_, _, cb⟩ := HR.out.cells bn (T[bn]'(by omega)) (List.getElem?_eq_getElem (by omega))
            rw [← keyAt_eq] at ck cb
            by_cases hq : keyAt T k < keyAt T bn
            · have hrel2 : Hid ((∀ j, j < k + 1 → keyAt T k ≤ keyAt T j) ∧ (∀ j, j < k → keyAt T k < keyAt T j)) := by
                refine ⟨fun j hj => ?_, fun j hj => ?_⟩
                · by_cases e : j = k
                  · subst e; exact Int.le_refl _
                  · have := L1.out j (by omega); omega
                · have := L1.out j hj; omega
              generalize keyAt T k = x at ck hq
              generalize keyAt T bn = y at cb hq
              go_wp2_with fail
              go_quiet (fail)
              go_wp2_with fail
              go_roundw
              case rel => exact ⟨k, k + 1, _, rfl, by go_num, rfl, by omega, by omega, hrel2.out.1, hrel2.out.2⟩
              case measure => simp [intOf]; omega
            · have hrel2 : Hid (∀ j, j < k + 1 → keyAt T bn ≤ keyAt T j) := by
                intro j hj
                by_cases e : j = k
                · subst e; omega
                · exact L1.out j (by omega)
              have hq' : keyAt T bn ≤ keyAt T k := by omega
              clear hq
              generalize keyAt T k = x at ck hq'
              generalize keyAt T bn = y at cb hq'
              go_wp2_with fail
              go_quiet (fail)
              go_wp2_with fail
              go_roundw
              case rel => exact ⟨bn, k + 1, _, rfl, by go_num, rfl, by omega, by omega, hrel2.out, L2.out⟩
              case measure => simp [intOf]; omega
          · obtain rfl : k = T.length := by omega
            have hbest : Hid (best T = bn) := best_of (by omega) L1.out L2.out
            have hbd : Below wr.heap.size wr (wr.drewN n) := (fr_drewN wr n []).below (fun _ hx => by simp at hx) (Nat.le_refl _)
            have X5 := Lib.hid (HX.out.below hbd HX.out.lt)
            have R5 := Lib.hid (HR.out.below hbd)
            have O5 := Lib.hid ((fr_drewN wr n []).row HO.out (fun _ _ => by simp))
            have B5 := Lib.hid (HB.out.trans (hbd.mono HB.out.size))
            have hbl : bn < T.length := by omega
            obtain ⟨el, hel⟩ : ∃ el, T[bn]? = some el := ⟨_, List.getElem?_eq_getElem hbl⟩
            have hcons : Hid (order T = el.h :: order (T.eraseIdx bn)) := order_best hbest.out hel
            have hc5 := X5.out.cell
            obtain ⟨ch, _, _⟩ := R5.out.cells bn el hel
            clear HX HR HO HB hc hbd L1 L2 hbest
            generalize wr.drewN n = w5 at *
            go_wp2_with (at_builtin; refine wpList_append_own _ rfl _ _ 35 rfl w.heap.size 3 j0 (.int .i64 0) 1 8 Tryd.underlying35 hj0 jz0 jz1 jz2 rfl (by decide) _ _ _ rfl (O5.out.alloc _) ⟨w5.heap.size, 0, none⟩ 1 1 [.int .i64 el.h] rfl ?qc1 ?qc2 ?qc3 ?qc4 ?qc5 ?qc6 ?_)
            case qc1 => rfl
            case qc2 => exact cell_one_new _ _ _
            case qc3 => simp [Value.oneCell']
            case qc4 => have := hordl.out; unfold maxLen; omega
            case qc5 => have := hordl.out; omega
            case qc6 => have := B5.out.size; simp; omega
            intro v' w6 hown' hgrow hnil
            have hne1 : ∀ q, (Value.slice a5 n5 c5).ownBlock = some q → q ≠ B := fun q hq => BodAt.row_ne O5.out X5.out (by decide) q hq
            have hne2 : ∀ q, (Value.slice a5 n5 c5).ownBlock = some q → g ≠ q := fun q hq => BodAt.row_row_ne R5.out O5.out (by decide) g q rfl hq
            have t1 : BoxR w6 B (.slice (some ⟨g, 0, none⟩) T.length cap) := (X5.out.alloc _).grown hgrow (fun q => hne1 _ q.symm rfl)
            have t3 : RowR w6 w.heap.size (.slice (some ⟨g, 0, none⟩) T.length cap) T := World.ownsRow.kept (R5.out.below ((Below.refl _ _).alloc (Nat.le_refl _) _)) hgrow (.inr (fun q => hne2 g q.symm rfl))
            have t4 : Below w.heap.size w w6 := (B5.out.alloc B5.out.size _).grown hgrow (by have := B5.out.size; simp; omega) (fun q hq => (O5.out.lt q hq).1)
            have t5 : w6.ownsRow w.heap.size 3 1 v' (pre ++ [el.h]).length ((pre ++ [el.h]).map encN) := by simpa [encN] using hown'
            obtain ⟨a7, n7, c7, rfl⟩ := row_form hown'
            have b1 := t1.cell
            have b2 := t1.free
            -- where what stays begins
            have hcells := Lib.hid (row_cells t3)
            obtain ⟨A, hA, hnews⟩ : ∃ A : Addr, (if cap = bn + 1 then some (⟨g, 0, none⟩ : Addr) else some ⟨g, (bn + 1) * 3, none⟩) = some A ∧ Hid (∀ j u, (cellsS (T.drop (bn + 1)))[j]? = some u → w6.drew.cell? (A.add j) = some u) := by
              by_cases hc : cap = bn + 1
              · refine ⟨⟨g, 0, none⟩, by simp [hc], fun j u hu => ?_⟩
                have hd : T.drop (bn + 1) = [] := List.drop_eq_nil_of_le (by omega)
                rw [hd] at hu
                simp [cellsS] at hu
              · refine ⟨⟨g, (bn + 1) * 3, none⟩, by simp [hc], fun j u hu => ?_⟩
                rw [cellsS_drop T (bn + 1) (by omega)] at hu
                have := hcells.out _ _ hu
                rw [Go.WideShapes.add_plain, Nat.zero_add] at this
                rw [Go.WideShapes.add_plain]
                exact this
            have hpre : Hid (w6.drew.ownsRow w.heap.size 64 3 (.slice (some ⟨g, 0, none⟩) bn cap) bn (cellsS (T.take bn))) := by
              have := row_prefix t3 bn (by omega)
              rw [cellsS_take] at this
              exact this.drew
            have s1 : Hid ((cellsS (T.drop (bn + 1))).length = (T.length - (bn + 1)) * 3) := by
              have := cellsS_len (T.drop (bn + 1)); rw [List.length_drop] at this; exact this
            have s2 := Lib.hid (cellsS_one (T.drop (bn + 1)))
            have hic : bn ≤ cap := by omega
            have hil' : bn ≤ T.length := by omega
            have hwr : IntKind.i64.wrap ((bn : Int) + 1) = (bn : Int) + 1 := by rw [IntKind.wrap_i64]; omega
            have hp0 : (0 : Int) ≤ (bn : Int) + 1 := by omega
            have hp1 : (bn : Int) + 1 ≤ (T.length : Int) := by omega
            have hp2 : ((bn : Int) + 1).toNat = bn + 1 := by omega
            have her : T.eraseIdx bn = T.take bn ++ T.drop (bn + 1) := List.eraseIdx_eq_take_drop_succ T bn
            have hlen2 : bn + (T.length - (bn + 1)) = (T.eraseIdx bn).length := by rw [her, List.length_append, List.length_take, List.length_drop]; omega
            have hcs2 : cellsS (T.take bn) ++ cellsS (T.drop (bn + 1)) = cellsS (T.eraseIdx bn) := by rw [her, cellsS_append]
            have hne3 : ∀ q, (Value.slice a7 n7 c7).ownBlock = some q → q ≠ g := fun q hq => BodAt.row_row_ne t5 t3 (by decide) q g hq rfl
            have hgB : g ≠ B := BodAt.row_ne t3 t1 (by decide) g rfl
            have tail : Hid (∀ w7, w7.ownsRow w.heap.size 64 3 (.slice (some ⟨g, 0, none⟩) (bn + (T.length - (bn + 1))) cap) (bn + (T.length - (bn + 1))) (cellsS (T.take bn) ++ cellsS (T.drop (bn + 1))) → w6.drew.grownBy w7 (some g) →
                BoxR w7 B (.slice (some ⟨g, 0, none⟩) T.length cap) ∧ RowR w7 w.heap.size (.slice (some ⟨g, 0, none⟩) (bn + (T.length - (bn + 1))) cap) (T.eraseIdx bn) ∧ w7.ownsRow w.heap.size 3 1 (.slice a7 n7 c7) (pre ++ [el.h]).length ((pre ++ [el.h]).map encN) ∧ Below w.heap.size w w7) := by
              intro w7 ho hg
              refine ⟨BoxR.grown (w := w6.drew) t1 hg (fun q => hgB (Option.some.inj q).symm), ?_, ?_, ?_⟩
              · unfold RowR
                rw [← hlen2, ← hcs2]
                exact ho
              · exact World.ownsRow.kept (w := w6.drew) t5.drew hg (.inr (fun q => hne3 g q rfl))
              · exact (below_drewN t4 1).grown hg (by show w.heap.size ≤ w6.heap.size; exact t4.size) (fun q hq => by cases hq; exact hg1)
            have hTlen : Hid (T.length - 1 < T.length ∧ (T.eraseIdx bn).length = T.length - 1) := ⟨by omega, by rw [← hlen2]; omega⟩
            clear t1 t3 t4 t5 hown' hgrow hnil X5 R5 O5 B5 her hlen2 hcs2 hc5 ch hel hne1 hne2 hne3 hgB
            go_wp2_with fail
            go_region_law (refine step_append_fits rfl (.tmp 46) (.tmp 51) 26 rfl w.heap.size 64 i0 3 Tryd.underlying26 hi0 hi1 g bn cap (cellsS (T.take bn)) (by simp [Act.eval, Act.put]) hpre.out A (T.length - (bn + 1)) (cap - (bn + 1)) (cellsS (T.drop (bn + 1))) (by simp [Act.eval, Act.put]) s1.out hnews.out s2.out (by omega) ?_; intro w7 ho hg; obtain ⟨t1, t2, t3, t4⟩ := tail.out w7 ho hg; have b3 := t1.cell; have b4 := t1.free)
            all_goals
              have q1 := Lib.hid (t1.set (.slice (some ⟨g, 0, none⟩) (bn + (T.length - (bn + 1))) cap))
              have q2 := Lib.hid (t2.box t1 (.slice (some ⟨g, 0, none⟩) (bn + (T.length - (bn + 1))) cap))
              have q3 := Lib.hid (row_box_int t3 t1 (.slice (some ⟨g, 0, none⟩) (bn + (T.length - (bn + 1))) cap))
              have q4 := Lib.hid (below_box t4 hwB 0 (.slice (some ⟨g, 0, none⟩) (bn + (T.length - (bn + 1))) cap))
              clear t1 t2 t3 t4 ho hg tail hpre hnews hcells s1 s2
              simp only [Exit.inBlock, Exit.then]
              go_at_K
              go_wp2_with fail
              go_roundg (T.length - 1)
              case measure => exact hTlen.out.1
              case rel => exact ⟨T.eraseIdx bn, pre ++ [el.h], _, hTlen.out.2, by have := hTlen.out.2; omega, by rw [List.append_assoc, List.singleton_append, ← hcons.out]; exact Hord.out, q1.out, q2.out, q3.out, q4.out⟩

theorem rtop_none {w : World} {s : Value} (h : RowR w 0 s []) :
    Calls Tryd.prog 21 #[.agg #[s]] w fun e w' => e = .returned (.tuple #[.int .i64 0, .int .i64 9]) ∧ Below w.heap.size w w' := by
  have hb : Below w.heap.size w (w.alloc (.cells #[s] 28)) := (Below.refl _ _).alloc (Nat.le_refl _) _
  rcases h.form with ⟨rfl, _⟩ | ⟨g, cap, rfl, _⟩
  · clear h
    go_enter Tryd.func21, Tryd.ntmps21
    go_wp2_with fail
    go_ret2
    exact ⟨rfl, hb⟩
  · clear h
    simp only [List.length_nil] at *
    go_enter Tryd.func21, Tryd.ntmps21
    go_wp2_with fail
    go_ret2
    exact ⟨rfl, hb⟩

set_option maxHeartbeats 800000 in
theorem rtop_some {w : World} {s : Value} {S : List El} (h : RowR w 0 s S) (hl : S.length ≤ 1024) {x : Nat} (hx : (order S).head? = some x) :
    Calls Tryd.prog 21 #[.agg #[s]] w fun e w' => e = .returned (.tuple #[.int .i64 x, .int .i64 0]) ∧ Below w.heap.size w w' := by
  have hb : Below w.heap.size w (w.alloc (.cells #[s] 28)) := (Below.refl _ _).alloc (Nat.le_refl _) _
  have hS : 0 < S.length := by
    cases S with
    | nil => simp [order_nil] at hx
    | cons _ _ => simp
  have Ho := Lib.hid (rorder_any (h.below hb) hl)
  have HB := Lib.hid hb
  rcases h.form with ⟨_, rfl⟩ | ⟨g, cap, rfl, _⟩
  · simp at hS
  have hSi : ((S.length : Int) == 0) = false := by simp; intro q; subst q; simp at hS
  have hlen : 0 < (order S).length := by cases ho : order S with
    | nil => rw [ho] at hx; simp at hx
    | cons _ _ => simp
  have hx0 : (order S).getD 0 0 = x := by cases ho : order S with
    | nil => rw [ho] at hx; simp at hx
    | cons _ _ => rw [ho] at hx; simpa using hx
  clear h hb
  go_enter Tryd.func21, Tryd.ntmps21
  go_wp2_with (go_at_call 7; fail)
  refine Ho.out.mono ?_
  rintro e w1 ⟨v, rfl, hrow, hb1⟩
  obtain ⟨g1, cap1, rfl, _, _⟩ := row_some hrow (by omega)
  have hc := row_at hrow 0 (by omega)
  rw [hx0] at hc
  unfold encN at hc
  have hli : (0 : Int) < ((order S).length : Int) := by omega
  clear hrow hx hx0
  go_wp2_with fail
  go_ret2
  exact ⟨rfl, HB.out.trans (hb1.mono HB.out.size)⟩
end Go.Proofs.YtpbnbddjfebenaaDoor
