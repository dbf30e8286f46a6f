/- What the laws ask of All: the handles in order are a list's. -/
import Derived.Test.YtpbnbddjfebenaaDoorHAll
import Derived.Test.YtpbnbddjfebenaaDoorLRow
import Derived.Shelf.AbstractIn
namespace Go.Proofs.YtpbnbddjfebenaaDoor
open Go.RowKit Go.Sort Go.Shelf
set_option linter.unusedVariables false
set_option linter.unusedSimpArgs false
attribute [local go_sem] Oper.semAt_some

set_option maxHeartbeats 1600000 in
theorem same_any {w : World} {va vb : Value} {L : List Nat} (ha : w.ownsRow 0 3 1 va L.length (L.map encN)) (hb : w.ownsRow 0 3 1 vb L.length (L.map encN)) (hl : L.length ≤ 2000) :
    Calls Tryd.prog 34 #[va, vb] w fun e w' => e = .returned (.bool true) ∧ ∃ n, w' = w.drewN n := by
  have fa : ∃ a c, va = .slice a L.length c := by
    rcases ha.2 with ⟨hv, h0⟩ | ⟨g, cap, cu, hv, _⟩
    · exact ⟨none, 0, by rw [hv, h0]⟩
    · exact ⟨_, _, hv⟩
  have fb : ∃ a c, vb = .slice a L.length c := by
    rcases hb.2 with ⟨hv, h0⟩ | ⟨g, cap, cu, hv, _⟩
    · exact ⟨none, 0, by rw [hv, h0]⟩
    · exact ⟨_, _, hv⟩
  obtain ⟨a, ca, rfl⟩ := fa
  obtain ⟨b, cb, rfl⟩ := fb
  have HA := Lib.hid ha
  have HB := Lib.hid hb
  clear ha hb
  go_enter Tryd.func34, Tryd.ntmps34
  go_wp2_with fail
  go_loopw [5] (fun v wr => ∃ k n : Nat, k ≤ L.length ∧ v = .int .i64 k ∧ wr = w.drewN n) (fun v _ => L.length - (intOf v).toNat)
  case atStart => exact ⟨0, 0, Nat.zero_le _, rfl, rfl⟩
  case round =>
    obtain ⟨k, n, hk, rfl, rfl⟩ := hrel
    by_cases hlt : k < L.length
    · obtain ⟨ga, c1, h1, _, _⟩ := row_some HA.out (by omega)
      obtain ⟨gb, c2, h2, _, _⟩ := row_some HB.out (by omega)
      simp only [Value.slice.injEq, true_and] at h1 h2
      obtain ⟨rfl, rfl⟩ := h1
      obtain ⟨rfl, rfl⟩ := h2
      have ea := row_at HA.out k hlt
      have eb := row_at HB.out k hlt
      unfold encN at ea eb
      generalize L.getD k 0 = x at ea eb
      have q : ((x : Int) != (x : Int)) = false := by simp
      have hki : (k : Int) < (L.length : Int) := by omega
      go_wp2_with fail
      go_quiet (fail)
      go_wp2_with fail
      go_roundw
      case rel => exact ⟨k + 1, _, by omega, by go_num, rfl⟩
      case measure => simp [intOf]; omega
    · obtain rfl : k = L.length := by omega
      go_wp2_with fail
      go_ret
      exact ⟨rfl, _, rfl⟩

theorem seq_nil (B : Nat) (w : World) : (binOp .eql 38 (.func (.func 41) #[] #[.pointer (some ⟨B, 0, none⟩)]) .nilFunc).run Tryd.prog w = .ok (.bool false) w := by kernel_rfl

set_option maxRecDepth 100000 in
set_option maxHeartbeats 3000000 in
/-- The law's own function all, where All goes over L and the wanted list is L. -/
theorem allIs_in (p : Option Addr) (v : Value) (L : List Nat) (w : World) (hl : L.length ≤ 2000)
    (hall : Calls Tryd.prog 8 #[.pointer p] w fun e w' => ∃ B Bs, e = .returned (seqV B) ∧ SeqIn Bs B L w' ∧ Below w.heap.size w w')
    (hv : w.ownsRow 0 3 1 v L.length (L.map encN)) :
    CallsIn Fence.wide 6 Tryd.prog 14 #[.pointer p, v] w fun e W' => e = .returned (.bool true) ∧ Below w.heap.size w W' := by
  obtain ⟨i0, hi, hz0, hz1, hz2⟩ := info_parts infoInt
  have t1 : Fence.wide.fn 8 := trivial
  have t2 : Fence.wide.fn 34 := trivial
  have HV := Lib.hid hv
  have hvf := row_form hv
  have hvg : Hid (∀ g, v.ownBlock = some g → g < w.heap.size) := Lib.hid (fun g hg => (hv.lt g hg).2)
  clear hv
  obtain ⟨va, vn, vc, rfl⟩ := hvf
  have Hall := Lib.hid hall
  clear hall
  have hsn := seq_nil
  refine callsIn_of_wp_marks Tryd.func14 rfl trivial ?_ rfl
  simp only [Tryd.ntmps14, List.size_toArray, List.length_cons, List.length_nil, Nat.reduceAdd, Nat.reduceSub, Array.replicate_succ, Array.replicate_zero, List.push_toArray, List.append_toArray, List.nil_append, List.cons_append]
  gi_wp2_with (gi_at_call 8; refine (callsIn_wide.2 Hall.out).mono ?_; rintro e w1 ⟨B, Bs, rfl, hS, hb1⟩; unfold seqV)
  have hBl := hS.lt
  have hS1 := hS.at
  have bO := Boxed.new w1 35 (.slice none 0 0)
  have hs1 := hb1.size
  have hB0 : Below w.heap.size w (w1.alloc (.cells #[.slice none 0 0] 35)) := hb1.alloc hb1.size _
  have hB1 : Below w1.heap.size w1 (w1.alloc (.cells #[.slice none 0 0] 35)) := (Below.refl _ _).alloc (Nat.le_refl _) _
  have hmax : (2000 : Nat) ≤ maxLen := by unfold maxLen; omega
  refine wpIn_rangeFunc_ownG rfl (by omega) (gf := 41) (lb := #[.pointer (some ⟨B, 0, none⟩)]) rfl trivial (enters_of Tryd.func41 (by kernel_rfl) rfl)
    (values_stops Fence.wide 5 trivial rfl (by omega) B w1.heap.size L _ hBl (by simp) (hS1.below hB1 hBl)) belowK_t (belowK_b (by simp)) (Below.refl _ _) (fun _ => rfl)
    (fun pre W => (∃ v, Boxed W w1.heap.size 35 v ∧ W.ownsRow w1.heap.size 3 1 v pre.length (pre.map encN) ∧ True) ∧ Below w1.heap.size w1 W)
    (fun _ _ _ => False)
    (OwnFrom.and (Own.from (holdsRow_own w1.heap.size w1.heap.size 35 3 1 (fun pre : List Nat => pre.length) (fun pre => pre.map encN) (fun _ _ => True)) _) (ownFrom_below (Nat.le_refl _) (by simp)))
    (fun _ _ _ _ _ hs _ _ => hs)
    ⟨⟨_, bO, World.ownsRow_nil _ _ _ _, trivial⟩, hB1⟩
    (fun x => { tmps := #[.pointer p, .slice va vn vc, undef, undef, .bool false, .func (.func 41) #[] #[.pointer (some ⟨B, 0, none⟩)], .pointer (some ⟨w1.heap.size, 0, none⟩), encN x, .pointer p, .func (.func 41) #[] #[.pointer (some ⟨B, 0, none⟩)], .func (.func 41) #[] #[.pointer (some ⟨B, 0, none⟩)], .bool false, .func (.func 41) #[] #[.pointer (some ⟨B, 0, none⟩)], encN x, undef, undef, undef, undef, undef, undef, undef], defers := [] }) ?assign ?body ?done ?stop
  case assign =>
    intro l x W K hK
    unfold encN at *
    gi_wp2
    exact hK
  case body =>
    rintro l pre x W ⟨⟨v, hv, hrow, _⟩, hBW⟩ hlt
    have hc := hv.cell
    unfold encN at *
    gi_wp2_with (gi_at_builtin; refine wpListIn_append_own _ rfl _ _ 35 rfl w1.heap.size 3 i0 (.int .i64 0) 1 8 Tryd.underlying35 hi hz0 hz1 hz2 rfl (by decide) _ _ _ rfl (hrow.alloc _) ⟨W.heap.size, 0, none⟩ 1 1 [.int .i64 x] rfl rfl (cell_one_new _ _ _) (by simp [Value.oneCell']) (by omega) (by omega) (by have := hBW.size; simp; omega) ?_; intro v' w2 hown' hgrow _; obtain ⟨g', cap', rfl⟩ := ownsRow_succ hown'; obtain ⟨hv1, hv2, hr2, hk2, hb2⟩ := hv.appended (by decide) hrow hBW.size (Nat.le_refl _) hown' hgrow; have hc1 := hv1.cell; have hf1 := hv1.frozen)
    exact ⟨hk2.from _, hb2, ⟨_, hv2, by simpa using hr2, trivial⟩, hBW.trans hb2⟩
  case done =>
    rintro D ys W hD rfl ⟨⟨v, hv, hrow, _⟩, hBW⟩ hK
    have hc := hv.cell
    have hvW : W.ownsRow 0 3 1 (.slice va vn vc) ys.length (ys.map encN) := (Fr.of_below (hb1.trans (hBW.mono hs1)) []).row HV.out (fun _ _ => by simp)
    have hsame := (callsIn_wide (n := 5)).2 (same_any (ownsRow_mono hrow (Nat.zero_le _)) hvW hl)
    gi_wp2_with (gi_at_call 34; refine hsame.mono ?_; rintro e w2 ⟨rfl, n2, rfl⟩)
    have hK' : (W.drewN n2).heap[D]? = some (.deferred (some [])) := hK
    refine ⟨by simp, .inl ⟨_, _, rfl, run_takeDeferred hK', ?_⟩⟩
    refine ⟨_, results_tmp rfl _ _ _, rfl, ?_⟩
    have hD' : w1.heap.size ≤ D := by simp at hD; omega
    have hfin : Below w1.heap.size w1 (W.drewN n2) := hBW.trans (Fr.below (fr_drewN W n2 []) (fun _ hx => by simp at hx) hBW.size)
    exact hb1.trans ((hfin.trans (belowK_b (w := w1) (Nat.le_refl _) _ D _ _ hD' hK' rfl rfl)).mono hs1)
  case stop =>
    rintro D c pre W _ _ h _
    exact h.elim

theorem allIs (p : Option Addr) (v : Value) (L : List Nat) (w : World) (hl : L.length ≤ 2000)
    (hall : Calls Tryd.prog 8 #[.pointer p] w fun e w' => ∃ B Bs, e = .returned (seqV B) ∧ SeqIn Bs B L w' ∧ Below w.heap.size w w')
    (hv : w.ownsRow 0 3 1 v L.length (L.map encN)) :
    Calls Tryd.prog 14 #[.pointer p, v] w fun e W' => e = .returned (.bool true) ∧ Below w.heap.size w W' := callsIn_wide.1 (allIs_in p v L w hl hall hv)

/-- .. of a heap. -/
theorem allOf {w : World} {h : Hp} {S : List El} {P : Nat} (H : HeapAt w h S P) (v : Value) (hv : w.ownsRow 0 3 1 v (order S).length ((order S).map encN)) :
    Calls Tryd.prog 14 #[h.ptr, v] w fun e W' => e = .returned (.bool true) ∧ Below w.heap.size w W' := by
  refine allIs _ v (order S) w ?_ ((all_any H).mono fun e w' ⟨B, Bs, he, hS, _, hb⟩ => ⟨B, Bs, he, hS, hb⟩) hv
  have := (order_perm S.length S rfl).length_eq
  simp only [hsOf, List.length_map] at this
  have := H.len_le
  omega

set_option maxHeartbeats 800000 in
theorem all_nilHeap (p : Option Addr) (w : World) (hu : Calls Tryd.prog 24 #[.pointer p] w fun e w' => e = .returned (.bool false) ∧ w = w') :
    Calls Tryd.prog 8 #[.pointer p] w fun e w' => ∃ B Bs, e = .returned (seqV B) ∧ SeqIn Bs B [] w' ∧ Below w.heap.size w w' := by
  have Hu := Lib.hid hu
  clear hu
  have hv := Lib.hid (fun w => valuesF_any (.slice none 0 0) w ⟨none, 0, 0, rfl⟩)
  unfold seqV at *
  go_enter Tryd.func8, Tryd.ntmps8
  go_wp2_with (first | (go_at_call 24; refine Hu.out.mono ?_; rintro e w' ⟨rfl, rfl⟩) | (go_at_call 25; refine (hv.out _).mono ?_; rintro e w' ⟨rfl, rfl⟩))
  go_ret
  exact ⟨w.heap.size, [w.heap.size], rfl, ⟨by simp, by simp, .slice none 0 0, block_new _ _ _ rfl, World.ownsRow_nil _ _ _ _, fun g hg => by simp [Value.ownBlock] at hg⟩, (Below.refl _ _).alloc (Nat.le_refl _) _⟩
end Go.Proofs.YtpbnbddjfebenaaDoor
