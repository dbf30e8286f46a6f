/- The reference of the timers: first, Next. -/
import Derived.Test.YthlbnlbkgiclpaaDoorMMut
namespace Go.Proofs.YthlbnlbkgiclpaaDoor
open Go.RowKit Go.Sort
set_option linter.unusedVariables false
set_option linter.unusedSimpArgs false

/-- What first says of the first k timers. -/
def NoneM (L : List Tm) (k : Nat) : Prop := ∀ j e, j < k → L[j]? = some e → e.gone = true
def BestM (L : List Tm) (k b : Nat) (e : Tm) : Prop := b < k ∧ L[b]? = some e ∧ e.gone = false ∧ ∀ j e', j < k → L[j]? = some e' → e'.gone = false → e.k ≤ e'.k ∧ (j < b → e.k < e'.k)
def FirstM (L : List Tm) (k : Nat) (r : Int) : Prop := (r = -1 ∧ NoneM L k) ∨ ∃ (b : Nat) (e : Tm), r = b ∧ BestM L k b e
theorem NoneM.skip {L : List Tm} {k : Nat} {e : Tm} (h : NoneM L k) (he : L[k]? = some e) (hg : e.gone = true) : NoneM L (k + 1) := fun j e' hj hj' => by
  by_cases q : j = k
  · subst q; rw [he] at hj'; cases hj'; exact hg
  · exact h j e' (by omega) hj'
theorem BestM.skip {L : List Tm} {k b : Nat} {e x : Tm} (h : BestM L k b x) (he : L[k]? = some e) (hg : e.gone = true) : BestM L (k + 1) b x := by
  refine ⟨by have := h.1; omega, h.2.1, h.2.2.1, fun j e' hj hj' hg' => ?_⟩
  by_cases q : j = k
  · subst q; rw [he] at hj'; cases hj'; rw [hg] at hg'; cases hg'
  · exact h.2.2.2 j e' (by omega) hj' hg'
theorem FirstM.skip {L : List Tm} {k : Nat} {e : Tm} {r : Int} (h : FirstM L k r) (he : L[k]? = some e) (hg : e.gone = true) : FirstM L (k + 1) r := by
  rcases h with ⟨h1, h2⟩ | ⟨b, x, h1, h2⟩
  · exact .inl ⟨h1, h2.skip he hg⟩
  · exact .inr ⟨b, x, h1, h2.skip he hg⟩
theorem NoneM.one {L : List Tm} {k : Nat} {e : Tm} (h : NoneM L k) (he : L[k]? = some e) (hg : e.gone = false) : BestM L (k + 1) k e := by
  refine ⟨by omega, he, hg, fun j e' hj hj' hg' => ?_⟩
  by_cases q : j = k
  · subst q; rw [he] at hj'; cases hj'; exact ⟨Int.le_refl _, fun h => by omega⟩
  · rw [h j e' (by omega) hj'] at hg'; cases hg'
theorem BestM.lt {L : List Tm} {k b : Nat} {e x : Tm} (h : BestM L k b x) (he : L[k]? = some e) (hg : e.gone = false) (hlt : e.k < x.k) : BestM L (k + 1) k e := by
  refine ⟨by omega, he, hg, fun j e' hj hj' hg' => ?_⟩
  by_cases q : j = k
  · subst q; rw [he] at hj'; cases hj'; exact ⟨Int.le_refl _, fun h => by omega⟩
  · have := (h.2.2.2 j e' (by omega) hj' hg').1
    exact ⟨by omega, fun _ => by omega⟩
theorem BestM.ge {L : List Tm} {k b : Nat} {e x : Tm} (h : BestM L k b x) (he : L[k]? = some e) (hlt : ¬ e.k < x.k) : BestM L (k + 1) b x := by
  refine ⟨by have := h.1; omega, h.2.1, h.2.2.1, fun j e' hj hj' hg' => ?_⟩
  by_cases q : j = k
  · subst q; rw [he] at hj'; cases hj'; exact ⟨by omega, fun hb => by have := h.1; omega⟩
  · exact h.2.2.2 j e' (by omega) hj' hg'

set_option maxRecDepth 100000 in
set_option maxHeartbeats 3200000 in
theorem mfirst_any {w : World} {s : Value} {L : List Tm} (h : RowM w 0 s L) (hl : L.length ≤ 100000) :
    Calls Tryd.prog 56 #[.agg #[s]] w fun e w' => ∃ r, e = .returned (.int .i64 r) ∧ FirstM L L.length r ∧ Grn w w' := by
  obtain ⟨W, hW⟩ : ∃ W, w.alloc (.cells #[s] 51) = W := ⟨_, rfl⟩
  have hg : Grn w W := by rw [← hW]; exact (Grn.refl w).alloc _
  have HR := Lib.hid (h.below hg.below)
  have hbox : W.cell? ⟨w.heap.size, 0, none⟩ = some s := by rw [← hW]; exact cell_new _ _ _ _ _ _ rfl rfl
  obtain ⟨a, c, rfl⟩ := slice_form h
  have HW := Lib.hid hW
  have Hg := Lib.hid hg
  have hli : (L.length : Int) ≤ 100000 := by omega
  clear h hW hg
  go_enter Tryd.func56, Tryd.ntmps56
  go_wp2_with fail
  rw [HW.out]
  go_loopw [3, 4] (fun b i wr => ∃ (k m : Nat) (r : Int), k ≤ L.length ∧ i = .int .i64 k ∧ b = .int .i64 r ∧ wr = W.drewN m ∧ FirstM L k r) (fun _ i _ => L.length - (intOf i).toNat)
  case atStart => exact ⟨0, 0, -1, Nat.zero_le _, rfl, rfl, rfl, .inl ⟨rfl, fun j e hj => by omega⟩⟩
  case round =>
    obtain ⟨k, m, r, hk, rfl, rfl, rfl, hF⟩ := hrel
    by_cases hlt : k < L.length
    · obtain ⟨e, he⟩ : ∃ e, L[k]? = some e := ⟨_, List.getElem?_eq_getElem hlt⟩
      obtain ⟨gg, vc2, h1, _, _⟩ := row_some HR.out (by omega)
      simp only [Value.slice.injEq, true_and] at h1
      obtain ⟨rfl, rfl⟩ := h1
      obtain ⟨_, _, _, f3, f4⟩ := HR.out.cells k e he
      have hki : (k : Int) < (L.length : Int) := by omega
      have hk0 : (0 : Int) ≤ (k : Int) := by omega
      cases q2 : e.gone with
      | true =>
        have Hn := Lib.hid (hF.skip he q2)
        rw [q2] at f4
        clear hF he q2
        go_wp2_with fail
        go_quiet (fail)
        go_wp2_with fail
        go_roundw
        case rel => exact ⟨k + 1, _, r, by omega, by go_num, rfl, rfl, Hn.out⟩
        case measure => simp [intOf]; omega
      | false =>
        rw [q2] at f4
        rcases hF with ⟨rfl, hN⟩ | ⟨b, x, rfl, hB⟩
        · have Hn := Lib.hid (hN.one he q2)
          clear hN he q2
          go_wp2_with fail
          go_quiet (fail)
          go_wp2_with fail
          go_roundw
          case rel => exact ⟨k + 1, _, k, by omega, by go_num, rfl, rfl, .inr ⟨k, e, rfl, Hn.out⟩⟩
          case measure => simp [intOf]; omega
        · obtain ⟨_, _, _, x3, _⟩ := HR.out.cells b x hB.2.1
          have hbi : (b : Int) < (L.length : Int) := by have := hB.1; omega
          have hb0 : (0 : Int) ≤ (b : Int) := by omega
          have hbn : ¬ ((b : Int) < 0) := by omega
          by_cases hc : e.k < x.k
          · have Hn := Lib.hid (hB.lt he q2 hc)
            clear hB he q2
            go_wp2_with fail
            go_quiet (fail)
            go_wp2_with fail
            go_roundw
            case rel => exact ⟨k + 1, _, k, by omega, by go_num, rfl, rfl, .inr ⟨k, e, rfl, Hn.out⟩⟩
            case measure => simp [intOf]; omega
          · have Hn := Lib.hid (hB.ge he hc)
            clear hB he q2
            go_wp2_with fail
            go_quiet (fail)
            go_wp2_with fail
            go_roundw
            case rel => exact ⟨k + 1, _, b, by omega, by go_num, rfl, rfl, .inr ⟨b, x, rfl, Hn.out⟩⟩
            case measure => simp [intOf]; omega
    · obtain rfl : k = L.length := by omega
      have HF := Lib.hid hF
      clear hF
      go_wp2_with fail
      go_ret
      exact ⟨r, rfl, HF.out, Hg.out.drew _⟩

end Go.Proofs.YthlbnlbkgiclpaaDoor
