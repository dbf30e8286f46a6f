/- slices.Clone of the layout and of the elements; Layout; Copy. -/
import Derived.Test.YtpbnbddjfebenaaDoorHPush3
import Derived.Lib.SliceRun
namespace Go.Proofs.YtpbnbddjfebenaaDoor
open Go.RowKit Go.Sort
open BodAt (row_ne row_row_ne)
set_option linter.unusedVariables false
set_option linter.unusedSimpArgs false

theorem row_cells {w : World} {base e size n cap g : Nat} {xs : List Value} (h : w.ownsRow base e size (.slice (some ⟨g, 0, none⟩) n cap) n xs) : ∀ (j : Nat) (u : Value), xs[j]? = some u → w.cell? ((⟨g, 0, none⟩ : Addr).add j) = some u := h.cells rfl
theorem encN_one (L : List Nat) : ∀ u ∈ L.map encN, u.oneCell' = true := by
  intro u hu
  obtain ⟨x, _, rfl⟩ := List.mem_map.1 hu
  rfl

set_option maxHeartbeats 1600000 in
set_option maxRecDepth 100000 in
theorem cloneI_any {w : World} {v : Value} {L : List Nat} (ho : w.ownsRow 0 3 1 v L.length (L.map encN)) (hl : L.length ≤ 2000) :
    Calls Tryd.prog 33 #[v] w fun e w' => ∃ v', e = .returned v' ∧ w'.ownsRow w.heap.size 3 1 v' L.length (L.map encN) ∧ Below w.heap.size w w' := by
  obtain ⟨i0, hi, hz0, hz1, hz2⟩ := info_parts infoInt
  have q22 : ∀ (w : World) (a : Option Addr) (n c n' c' : Nat), (binOp .eql 35 (.slice a n c) (.slice none n' c')).run Tryd.prog w = .ok (.bool a.isNone) w := fun w a n c n' c' => Lib.run_eql_slice_nil w _ _ a n c n' c' Tryd.underlying35
  rcases ho.2 with ⟨rfl, hn⟩ | ⟨g, cap, cur, rfl, _⟩
  · have hL : L = [] := List.eq_nil_of_length_eq_zero hn
    subst hL
    clear ho
    go_enter Tryd.func33, Tryd.ntmps33
    go_wp2_with fail
    go_ret
    exact ⟨.slice none 0 0, rfl, World.ownsRow_nil _ _ _ _, Below.refl _ _⟩
  · have HO := Lib.hid ho
    clear ho
    go_enter Tryd.func33, Tryd.ntmps33
    go_wp2_with (at_builtin; refine wpList_append_own _ rfl _ _ 35 rfl w.heap.size 3 i0 (.int .i64 0) 1 8 Tryd.underlying35 hi hz0 hz1 hz2 rfl (by decide) _ _ _ rfl (World.ownsRow_made w #[] 0 (Nat.le_refl _) (Nat.zero_le _) (by simp)) ⟨g, 0, none⟩ L.length cap (L.map encN) rfl ?qc1 ?qc2 ?qc3 ?qc4 ?qc5 ?qc6 ?_)
    case qc1 => simp
    case qc2 => intro j u hj; rw [Go.WideShapes.add_plain]; have := row_cells HO.out j u hj; rw [Go.WideShapes.add_plain] at this; exact Lib.cell?_alloc_some _ this
    case qc3 => exact encN_one L
    case qc4 => rw [Nat.zero_add]; unfold maxLen; omega
    case qc5 => rw [Nat.zero_add]; omega
    case qc6 => simp
    intro v' w1 hown hgrow hnil
    go_wp2_with fail
    go_ret
    refine ⟨v', rfl, by simpa using hown, ?_⟩
    exact ((Below.refl _ w).alloc (Nat.le_refl _) _).grown hgrow (by simp) (by intro k hk; simp [Value.ownBlock] at hk; omega)

set_option maxHeartbeats 1600000 in
set_option maxRecDepth 100000 in
theorem cloneE_any {w : World} {v : Value} {n : Nat} {xs : List Value} (ho : w.ownsRow 0 80 4 v n xs) (hl : n ≤ 2000) (h1 : ∀ u ∈ xs, u.oneCell' = true) :
    Calls Tryd.prog 40 #[v] w fun e w' => ∃ v', e = .returned v' ∧ w'.ownsRow w.heap.size 80 4 v' n xs ∧ Below w.heap.size w w' := by
  obtain ⟨i0, hi, hz0, hz1, hz2⟩ := info_parts infoElem
  have q22 : ∀ (w : World) (a : Option Addr) (n c n' c' : Nat), (binOp .eql 66 (.slice a n c) (.slice none n' c')).run Tryd.prog w = .ok (.bool a.isNone) w := fun w a n c n' c' => Lib.run_eql_slice_nil w _ _ a n c n' c' Tryd.underlying66
  have hxl := Lib.hid ho.1
  rcases ho.2 with ⟨rfl, hn⟩ | ⟨g, cap, cur, rfl, _⟩
  · subst hn
    have hL : xs = [] := List.eq_nil_of_length_eq_zero (by have := hxl.out; omega)
    subst hL
    clear ho
    go_enter Tryd.func40, Tryd.ntmps40
    go_wp2_with fail
    go_ret
    exact ⟨.slice none 0 0, rfl, World.ownsRow_nil _ _ _ _, Below.refl _ _⟩
  · have HO := Lib.hid ho
    have H1 := Lib.hid h1
    clear ho h1
    go_enter Tryd.func40, Tryd.ntmps40
    go_wp2_with (at_builtin; refine wpList_append_own _ rfl _ _ 66 rfl w.heap.size 80 i0 (.agg #[.int .u64 0, .int .i64 0, .int .u64 0, .int .i64 0]) 4 32 Tryd.underlying66 hi hz0 hz1 hz2 rfl (by decide) _ _ _ rfl (World.ownsRow_made w #[] 0 (Nat.le_refl _) (Nat.zero_le _) (by simp)) ⟨g, 0, none⟩ n cap xs rfl ?qc1 ?qc2 ?qc3 ?qc4 ?qc5 ?qc6 ?_)
    case qc1 => exact hxl.out
    case qc2 => intro j u hj; rw [Go.WideShapes.add_plain]; have := row_cells HO.out j u hj; rw [Go.WideShapes.add_plain] at this; exact Lib.cell?_alloc_some _ this
    case qc3 => exact H1.out
    case qc4 => rw [Nat.zero_add]; unfold maxLen; omega
    case qc5 => rw [Nat.zero_add]; omega
    case qc6 => simp
    intro v' w1 hown hgrow hnil
    go_wp2_with fail
    go_ret
    refine ⟨v', rfl, by simpa using hown, ?_⟩
    exact ((Below.refl _ w).alloc (Nat.le_refl _) _).grown hgrow (by simp) (by intro k hk; simp [Value.ownBlock] at hk; omega)

/-- A list that lies as a heap: no handle comes before its parent's, in the order of S. -/
structure LayOf (S : List El) (L : List Nat) : Prop where
  perm : L.Perm (hsOf S)
  par : ∀ j, 0 < j → j < L.length → (order S).idxOf (L.getD ((j - 1) / 4) 0) < (order S).idxOf (L.getD j 0)

theorem idxOf_lt_of {R : Nat → Nat → Prop} {L : List Nat} (hs : L.Pairwise R) {a b : Nat} (ha : a ∈ L) (hb : b ∈ L) (hne : a ≠ b) (hn : ¬ R b a) : L.idxOf a < L.idxOf b := by
  have h1 := List.idxOf_lt_length_of_mem ha
  have h2 := List.idxOf_lt_length_of_mem hb
  have e1 : L[L.idxOf a] = a := List.getElem_idxOf h1
  have e2 : L[L.idxOf b] = b := List.getElem_idxOf h2
  rcases Nat.lt_trichotomy (L.idxOf a) (L.idxOf b) with h | h | h
  · exact h
  · exfalso
    apply hne
    rw [← e1, ← e2]
    simp only [h]
  · exfalso
    have := (List.pairwise_iff_getElem.1 hs) _ _ h2 h1 h
    rw [e1, e2] at this
    exact hn this

theorem layOf {s : Bd} {S : List El} {P : Nat} (i : Inv s S P) : LayOf S s.its := by
  have ho := order_sorted S.length S rfl i.keeps
  have hp := order_perm S.length S rfl
  refine ⟨i.perm, fun j h0 hj => ?_⟩
  refine idxOf_lt_of ho (hp.mem_iff.2 (i.perm.mem_iff.1 (getD_mem _ _ (by omega)))) (hp.mem_iff.2 (i.perm.mem_iff.1 (getD_mem _ _ hj))) (fun e => ?_) (i.heap j h0 hj)
  have := getD_inj i.nodup (show (j - 1) / 4 < s.its.length by omega) hj e
  omega

set_option maxHeartbeats 800000 in
theorem layout_any {w : World} {h : Hp} {S : List El} {P : Nat} (H : HeapAt w h S P) : Calls Tryd.prog 13 #[h.ptr] w fun e w' => ∃ v' L, e = .returned v' ∧ LayOf S L ∧ w'.ownsRow w.heap.size 3 1 v' L.length (L.map encN) ∧ Below w.heap.size w w' := by
  obtain ⟨s, b, i⟩ := H.ex
  have ha := cell_of_one b.ha
  have hu := Lib.hid (usable_yes h.a h.bb w ha)
  obtain ⟨cur, hcur, _, _, _, h17, _⟩ := b.hb.ex
  have c17 := cells_cell hcur h17
  have hc := Lib.hid (cloneI_any b.hi (by have := i.len; have := i.len_le; omega))
  have hL := Lib.hid (layOf i)
  generalize h.vi = v at *
  clear b i H hcur h17
  unfold Hp.ptr
  go_enter Tryd.func13, Tryd.ntmps13
  go_wp2_with (first | (go_at_call 24; refine hu.out.mono ?_; rintro e w' ⟨rfl, rfl⟩) | (go_at_call 33; fail))
  refine hc.out.mono ?_
  rintro e w1 ⟨v', rfl, ho, hb⟩
  go_wp2_with fail
  go_ret
  exact ⟨v', s.its, rfl, hL.out, ho, hb⟩
end Go.Proofs.YtpbnbddjfebenaaDoor
