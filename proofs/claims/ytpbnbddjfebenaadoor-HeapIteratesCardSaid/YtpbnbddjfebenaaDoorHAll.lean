/- All: the handles in order, as an iterator. -/
import Derived.Test.YtpbnbddjfebenaaDoorHSorted
import Derived.Test.YtpbnbddjfebenaaDoorLRow
import Derived.Deep.RegionHeld3
namespace Go.Proofs.YtpbnbddjfebenaaDoor
open Go.RowKit Go.Sort
set_option linter.unusedVariables false
set_option linter.unusedSimpArgs false

set_option maxHeartbeats 1600000 in
theorem sortedFunc_any {w : World} {h : Hp} {s : Bd} {S : List El} {P : Nat} (b : BodAt w h s) (i : Inv s S P) (B : Nat) (hB : B < w.heap.size) (hS : SeqAt w.heap.size B s.its w) :
    Calls Tryd.prog 42 #[seqV B, cmpV h.cb] w fun e w' => ∃ v, e = .returned v ∧ w'.ownsRow w.heap.size 3 1 v (order S).length ((order S).map encN) ∧ Below w.heap.size w w' := by
  have hc := Lib.hid (collect_any B s.its w hB hS)
  have HB := Lib.hid b
  have HI := Lib.hid i
  clear hS b i
  unfold seqV at *
  go_enter Tryd.func42, Tryd.ntmps42
  go_wp2_with fail
  refine hc.out.mono ?_
  rintro e w1 ⟨v, rfl, ho, hnil, hb⟩
  have hS : Hid (s.its = [] → S = []) := Lib.hid (fun h => by have := HI.out.len; rw [h] at this; exact List.eq_nil_of_length_eq_zero this.symm)
  by_cases hz : s.its = []
  · obtain rfl := hnil hz
    have hS0 := hS.out hz
    have Hb := Lib.hid hb
    have hs := fun w => sort_nil h.cb w
    have Hs := Lib.hid hs
    have HS0 := Lib.hid hS0
    clear hs hnil ho hb hz hS0
    unfold cmpV at *
    go_wp2_with fail
    refine (Hs.out _).mono ?_
    rintro e w2 ⟨rfl, rfl⟩
    go_wp2_with fail
    go_ret
    rw [HS0.out]
    exact ⟨_, rfl, World.ownsRow_nil _ _ _ _, Hb.out⟩
  · have hpos : 0 < s.its.length := by
      cases h : s.its with
      | nil => exact absurd h hz
      | cons _ _ => simp
    obtain ⟨g, cap, rfl, _, _⟩ := row_some ho hpos
    have hgl := (ho.lt g rfl).1
    have B1 := HB.out.frame (Fr.of_below hb []) (fun _ _ => by simp)
    have hgf : g ∉ h.foot := fun hm => by have := HB.out.lt_foot g hm; omega
    have hn : 0 < s.n := by have := HI.out.ltn _ (getD_mem s.its 0 hpos); omega
    have hs := Lib.hid (sortFunc_any B1 ho hgf (by have := HI.out.len; have := HI.out.len_le; omega) hn HI.out.ltn)
    have Hb := Lib.hid hb
    clear hnil ho hb hz B1 hgf
    unfold cmpV at *
    go_wp2_with fail
    refine hs.out.mono ?_
    rintro e w2 ⟨rfl, L', hp, hpw, ho2, hf2⟩
    have hu := order_unique HI.out.keeps (hp.trans HI.out.perm) hpw
    subst hu
    have HO := Lib.hid ho2
    have HF := Lib.hid hf2
    clear hp hpw ho2 hf2
    go_wp2_with fail
    go_ret
    exact ⟨_, rfl, HO.out, Hb.out.trans (HF.out.below (fun x hx => by simp only [List.mem_cons, List.not_mem_nil, or_false] at hx; omega) Hb.out.size)⟩

set_option maxHeartbeats 800000 in
theorem valuesF_any (v : Value) (w : World) (hv : ∃ a n c, v = .slice a n c) : Calls Tryd.prog 25 #[v] w fun e w' => e = .returned (seqV w.heap.size) ∧ w.alloc (.cells #[v] 35) = w' := by
  obtain ⟨a, n, c, rfl⟩ := hv
  unfold seqV
  go_enter Tryd.func25, Tryd.ntmps25
  go_wp2_with fail
  go_ret
  exact ⟨rfl, rfl⟩

set_option maxHeartbeats 3200000 in
set_option maxRecDepth 100000 in
theorem sorted_any {w : World} {h : Hp} {s : Bd} {S : List El} {P : Nat} (b : BodAt w h s) (i : Inv s S P) :
    Calls Tryd.prog 26 #[.pointer (some ⟨h.bb, 17, none⟩)] w fun e w' => ∃ v, e = .returned v ∧ w'.ownsRow w.heap.size 3 1 v (order S).length ((order S).map encN) ∧ Below w.heap.size w w' := by
  obtain ⟨cur, hcur, _, _, _, h17, h18, _⟩ := b.hb.ex
  have c17 := cells_cell hcur h17
  have c18 := cells_cell hcur h18
  have blt := lt_of_block hcur
  have hvals := Lib.hid (fun w => valuesF_any h.vi w (row_form b.hi))
  have HB := Lib.hid b
  have HI := Lib.hid i
  have hrow := Lib.hid b.hi
  have hsort : Hid (∀ W2, (w.alloc (.cells #[h.vi] 35)).drew = W2 → Calls Tryd.prog 42 #[seqV w.heap.size, cmpV h.cb] W2 fun e w' => ∃ v, e = .returned v ∧ w'.ownsRow w.heap.size 3 1 v (order S).length ((order S).map encN) ∧ Below w.heap.size w w') := by
    rintro W2 rfl
    have hb0 : Below w.heap.size w (w.alloc (.cells #[h.vi] 35)).drew := ((Below.refl _ w).alloc (Nat.le_refl _) _).drew
    have b2 := b.frame (Fr.of_below hb0 []) (fun _ _ => by simp)
    have hB : w.heap.size < (w.alloc (.cells #[h.vi] 35)).drew.heap.size := by show _ < (w.alloc _).heap.size; simp
    have hSeq : SeqAt (w.alloc (.cells #[h.vi] 35)).drew.heap.size w.heap.size s.its (w.alloc (.cells #[h.vi] 35)).drew := by
      refine ⟨by have := i.len; have := i.len_le; omega, h.vi, block_new w _ _ rfl, b.hi.alloc _, fun g hg => ?_⟩
      have := (b.hi.lt g hg).2
      show g < (w.alloc _).heap.size
      simp; omega
    refine Calls.mono (sortedFunc_any b2 i w.heap.size hB hSeq) ?_
    rintro e w' ⟨v, rfl, ho, hb⟩
    exact ⟨v, rfl, ownsRow_mono ho (by show _ ≤ (w.alloc _).heap.size; simp), hb0.trans (hb.mono (by show _ ≤ (w.alloc _).heap.size; simp))⟩
  clear b i hcur h17 h18
  generalize h.vi = vi at *
  unfold cmpV seqV at *
  go_enter Tryd.func26, Tryd.ntmps26
  go_wp2_with fail
  go_region_held3 (fun w' => w'.cell? ⟨h.bb, 17, none⟩ = some vi ∧ w'.cell? ⟨h.bb, 18, none⟩ = some (.func (.func 36) #[] #[.pointer (some ⟨h.cb, 0, none⟩)])) (go_keep) (first | (go_at_call 25; refine (hvals.out _).mono ?_; rintro e w' ⟨rfl, rfl⟩) | (go_at_call 42; refine (hsort.out _ rfl).mono ?_; rintro e w' ⟨v, rfl, ho, hb⟩; have k1 := (hb.cell (p := ⟨h.bb, 17, none⟩) blt).trans c17; have k2 := (hb.cell (p := ⟨h.bb, 18, none⟩) blt).trans c18))
  go_wp2_with fail
  go_ret
  exact ⟨v, rfl, ho, hb⟩

/-- The block B holds a slice that holds L; B and the slice's block are among Bs. -/
structure SeqIn (Bs : List Nat) (B : Nat) (L : List Nat) (W : World) : Prop where
  len : L.length ≤ 2000
  mem : B ∈ Bs
  ex : ∃ v, W.heap[B]? = some (.cells #[v] 35 (0, 0)) ∧ W.ownsRow 0 3 1 v L.length (L.map encN) ∧ ∀ g, v.ownBlock = some g → g ∈ Bs
theorem SeqIn.fr {Bs F : List Nat} {B : Nat} {L : List Nat} {W W' : World} (h : SeqIn Bs B L W) (hf : Fr F W W') (hn : ∀ k, k ∈ Bs → k ∉ F) : SeqIn Bs B L W' := by
  obtain ⟨v, h1, h2, h3⟩ := h.ex
  exact ⟨h.len, h.mem, v, hf.same h1 (hn B h.mem), hf.row h2 (fun g hg => hn g (h3 g hg)), h3⟩
theorem SeqIn.lt {Bs : List Nat} {B : Nat} {L : List Nat} {W : World} (h : SeqIn Bs B L W) : B < W.heap.size := by
  obtain ⟨v, h1, _⟩ := h.ex
  exact lt_of_block h1
theorem SeqIn.at {Bs : List Nat} {B : Nat} {L : List Nat} {W : World} (h : SeqIn Bs B L W) : SeqAt W.heap.size B L W := by
  obtain ⟨v, h1, h2, h3⟩ := h.ex
  exact ⟨h.len, v, h1, h2, fun g hg => (h2.lt g hg).2⟩

set_option maxHeartbeats 800000 in
theorem all_any {w : World} {h : Hp} {S : List El} {P : Nat} (H : HeapAt w h S P) :
    Calls Tryd.prog 8 #[h.ptr] w fun e w' => ∃ B Bs, e = .returned (seqV B) ∧ SeqIn Bs B (order S) w' ∧ (∀ k, k ∈ Bs → w.heap.size ≤ k ∧ k < w'.heap.size) ∧ Below w.heap.size w w' := by
  obtain ⟨s, b, i⟩ := H.ex
  have ha := cell_of_one b.ha
  have hu := Lib.hid (usable_yes h.a h.bb w ha)
  have hs := Lib.hid (sorted_any b i)
  have hl : Hid ((order S).length ≤ 2000) := Lib.hid (by
    have := (order_perm S.length S rfl).length_eq
    simp only [hsOf, List.length_map] at this
    have := i.len_le
    omega)
  clear b i H
  unfold Hp.ptr
  go_enter Tryd.func8, Tryd.ntmps8
  go_wp2_with (first | (go_at_call 24; refine hu.out.mono ?_; rintro e w' ⟨rfl, rfl⟩) | (go_at_call 26; fail))
  refine hs.out.mono ?_
  rintro e w1 ⟨v, rfl, ho, hb⟩
  have hv := Lib.hid (valuesF_any v w1 (row_form ho))
  have HO := Lib.hid ho
  have Hb := Lib.hid hb
  clear ho hb
  unfold seqV at *
  go_wp2_with fail
  refine hv.out.mono ?_
  rintro e w2 ⟨rfl, rfl⟩
  go_wp2_with fail
  go_ret
  refine ⟨w1.heap.size, w1.heap.size :: v.ownBlock.toList, rfl, ⟨hl.out, by simp, v, block_new _ _ _ rfl, ownsRow_mono (HO.out.alloc _) (Nat.zero_le _), fun g hg => by simp [hg]⟩, fun k hk => ?_, Hb.out.alloc Hb.out.size _⟩
  simp only [List.mem_cons, Option.mem_toList, Option.mem_def] at hk
  have := Hb.out.size
  rcases hk with rfl | hk
  · simp; omega
  · have := HO.out.lt k hk
    simp; omega
end Go.Proofs.YtpbnbddjfebenaaDoor
