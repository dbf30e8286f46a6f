/- KRef: JRefA, JRefB, JRefC, JRefD, JRefE, JRefF, JRefG, JRefH, merged. -/
import Derived.Test.YtgkodleblkjhcaaGreatDoorKSpot
import Derived.Laws.CopyRow
import Derived.Laws.CopyOwn
/- The reference: Get, Passed. -/
namespace Go.Proofs.YtgkodleblkjhcaaGreatDoor
open Go.RowKit Go.Sort
set_option linter.unusedVariables false
set_option linter.unusedSimpArgs false

/-- The list has the deadlines that are not never. -/
structure ROK (f : Nat → Int) (L : List (Int × Nat)) : Prop where
  nd : (L.map Prod.snd).Nodup
  mem : ∀ x : Int × Nat, x ∈ L ↔ (x.2 < 256 ∧ x.1 = f x.2 ∧ f x.2 ≠ never)
theorem ROK.len {f : Nat → Int} {L : List (Int × Nat)} (h : ROK f L) : L.length ≤ 256 := by
  have := List.Nodup.length_le_of_subset h.nd (l₂ := List.range 256) (fun j hj => by
    obtain ⟨x, hx, rfl⟩ := List.mem_map.1 hj
    simpa using ((h.mem x).1 hx).1)
  simpa using this
theorem ROK.none {f : Nat → Int} {L : List (Int × Nat)} (h : ROK f L) {p : Nat} (hp : p < 256) (hn : ∀ x ∈ L, x.2 ≠ p) : f p = never := by
  by_cases hf : f p = never
  · exact hf
  · exact absurd rfl (hn (f p, p) ((h.mem (f p, p)).2 ⟨hp, rfl, hf⟩))
theorem ROK.init : ROK (fun _ => never) [] := ⟨List.nodup_nil, fun x => by simp⟩
/-- The reference's deadlines as a value. -/
def rdv (now : Int) (s : Value) : Value := .agg #[.int .u64 now, s]

section
variable {w : World} {base : Nat} {s : Value} {L : List (Int × Nat)} {f : Nat → Int} {now : Int}
set_option maxRecDepth 100000 in
set_option maxHeartbeats 3200000 in
theorem rget_yes (h : RowL w base s L) (R : ROK f L) {q r : Nat} (hq : q < 128) (hr : r < 2) :
    Calls Tryz.prog 28 #[rdv now s, .agg #[.int .i64 q, .int .i64 r]] w fun e w' => e = .returned (.tuple #[.int .u64 (f (q * 2 + r)), .int .i64 0]) ∧ Grn w w' := by
  obtain ⟨va, vc, rfl⟩ := slice_form h
  unfold rdv
  obtain ⟨W, hW⟩ : ∃ W, (w.alloc (.cells #[.int .u64 now, .slice va L.length vc] 32)).alloc (.cells #[.int .i64 q, .int .i64 r] 37) = W := ⟨_, rfl⟩
  have hgW : Grn w W := by rw [← hW]; exact ((Grn.refl w).alloc _).alloc _
  have hX : W.heap[w.heap.size]? = some (.cells #[.int .u64 now, .slice va L.length vc] 32 (0, 0)) := by rw [← hW]; exact (((Below.refl _ _).alloc (Nat.le_refl _) _ : Below (w.alloc _).heap.size (w.alloc _) _).block _ (by simp)).trans (block_new _ _ _ rfl)
  have hY : W.heap[w.heap.size + 1]? = some (.cells #[.int .i64 q, .int .i64 r] 37 (0, 0)) := by rw [← hW]; exact block_new _ _ _ (by simp)
  have hrs := Lib.hid (rspot_any (q : Int) (r : Int) W)
  have hok := Lib.hid (show okS (q : Int) (r : Int) = true by simp [okS]; omega)
  have HG := Lib.hid hgW
  have HR := Lib.hid (h.below hgW.below)
  have HX := Lib.hid hX
  have HY := Lib.hid hY
  have HW := Lib.hid hW
  have HQ := Lib.hid (And.intro hq hr)
  have HLen := Lib.hid R.len
  have HROK := Lib.hid R
  have y0 := cells_cell (o := 0) hY rfl
  have y1 := cells_cell (o := 1) hY rfl
  obtain ⟨A, hA⟩ : ∃ A, w.heap.size = A := ⟨_, rfl⟩
  obtain ⟨B, hB⟩ : ∃ B, w.heap.size + 1 = B := ⟨_, rfl⟩
  rw [hA] at HX
  rw [hB] at HY y0 y1
  have HAB := Lib.hid (And.intro hA hB)
  clear h R hW hgW hX hY hq hr hA hB
  go_enter Tryz.func28, Tryz.ntmps28
  go_upto_region 1 with (fail)
  rw [HW.out, HAB.out.2, HAB.out.1]
  clear HAB HW
  go_wp2_with (go_at_call 33; fail)
  refine hrs.out.mono ?_
  rintro e w3 ⟨rfl, hg3⟩
  rw [hok.out]
  have HG3 := Lib.hid (HG.out.trans hg3)
  have HR3 := Lib.hid (HR.out.below hg3.below)
  have hX3 := (hg3.below.block _ (lt_of_block HX.out)).trans HX.out
  have hY3 := (hg3.below.block _ (lt_of_block HY.out)).trans HY.out
  have x0 := cells_cell (o := 0) hX3 rfl
  have x1 := cells_cell (o := 1) hX3 rfl
  have y0' := cells_cell (o := 0) hY3 rfl
  have y1' := cells_cell (o := 1) hY3 rfl
  clear y0 y1 hX3 hY3 hg3 hrs hok HG HR HX HY
  go_wp2_with fail
  go_loopw [6] (fun v wr => ∃ k n : Nat, k ≤ L.length ∧ v = .int .i64 k ∧ wr = w3.drewN n ∧ ∀ x ∈ L.take k, x.2 ≠ q * 2 + r) (fun v _ => L.length - (intOf v).toNat)
  case atStart => exact ⟨0, 0, Nat.zero_le _, rfl, rfl, by simp⟩
  case round =>
    obtain ⟨k, n, hk, rfl, rfl, hno⟩ := hrel
    by_cases hlt : k < L.length
    · obtain ⟨x, hx⟩ : ∃ x, L[k]? = some x := ⟨_, List.getElem?_eq_getElem hlt⟩
      obtain ⟨ga, c1, h1, _, _⟩ := row_some HR3.out (by omega)
      simp only [Value.slice.injEq, true_and] at h1
      obtain ⟨rfl, rfl⟩ := h1
      obtain ⟨a0, a1, a2⟩ := HR3.out.cells k x hx
      obtain ⟨pq, hpq⟩ : ∃ pq, ((x.2 / 2 : Nat) : Int) = pq := ⟨_, rfl⟩
      obtain ⟨pr, hpr⟩ : ∃ pr, ((x.2 % 2 : Nat) : Int) = pr := ⟨_, rfl⟩
      obtain ⟨zk, hzk⟩ : ∃ zk, x.1 = zk := ⟨_, rfl⟩
      rw [hpq] at a0
      rw [hpr] at a1
      rw [hzk] at a2
      have hki : (k : Int) < (L.length : Int) := by omega
      have hDi : (L.length : Int) ≤ 256 := by have := HLen.out; omega
      by_cases g1 : pq = (q : Int)
      · by_cases g2 : pr = (r : Int)
        · have hv := Lib.hid (show zk = f (q * 2 + r) by
            have h1 := ((HROK.out.mem x).1 (List.mem_of_getElem? hx)).2.1
            have h2 := HQ.out
            rw [show q * 2 + r = x.2 by omega, ← h1, hzk])
          have q1 : (pq == (q : Int)) = true := by simpa using g1
          have q2 : (pr == (r : Int)) = true := by simpa using g2
          have HF := Lib.hid (HG3.out.drew n)
          clear hx hpq hpr hzk hno g1 g2 hk hlt
          go_wp2_with fail
          go_quiet (fail)
          go_wp2_with fail
          go_ret2
          exact ⟨by first | rfl | (rw [← hv.out]; rfl), HG3.out.drew _⟩
        · have q1 : (pq == (q : Int)) = true := by simpa using g1
          have q2 : (pr == (r : Int)) = false := by simpa using g2
          have HNO : Hid (∀ y ∈ L.take (k + 1), y.2 ≠ q * 2 + r) := Lib.hid (fun y hy => by
            rw [take_snoc hx] at hy
            rcases List.mem_append.1 hy with h | h
            · exact hno y h
            · obtain rfl := List.mem_singleton.1 h
              have := HQ.out
              omega)
          have HLT := Lib.hid hlt
          clear hx hpq hpr hzk hno g1 g2 hk hlt
          go_wp2_with fail
          go_quiet (fail)
          go_wp2_with fail
          go_roundw
          case rel => exact ⟨k + 1, _, by have := HLT.out; omega, by go_num, rfl, HNO.out⟩
          case measure => simp [intOf]; have := HLT.out; omega
      · have q1 : (pq == (q : Int)) = false := by simpa using g1
        have HNO : Hid (∀ y ∈ L.take (k + 1), y.2 ≠ q * 2 + r) := Lib.hid (fun y hy => by
          rw [take_snoc hx] at hy
          rcases List.mem_append.1 hy with h | h
          · exact hno y h
          · obtain rfl := List.mem_singleton.1 h
            have := HQ.out
            omega)
        have HLT := Lib.hid hlt
        clear hx hpq hpr hzk hno g1 hk hlt
        go_wp2_with fail
        go_quiet (fail)
        go_wp2_with fail
        go_roundw
        case rel => exact ⟨k + 1, _, by have := HLT.out; omega, by go_num, rfl, HNO.out⟩
        case measure => simp [intOf]; have := HLT.out; omega
    · obtain rfl : k = L.length := by omega
      rw [List.take_length] at hno
      have hv := Lib.hid (HROK.out.none (p := q * 2 + r) (by have := HQ.out; omega) hno)
      have HF := Lib.hid (HG3.out.drew n)
      clear hno
      go_wp2_with fail
      go_ret2
      exact ⟨by rw [hv.out]; rfl, HF.out⟩

set_option maxRecDepth 100000 in
theorem rget_no (h : RowL w base s L) {x y : Int} (hok : okS x y = false) :
    Calls Tryz.prog 28 #[rdv now s, .agg #[.int .i64 x, .int .i64 y]] w fun e w' => e = .returned (.tuple #[.int .u64 0, .int .i64 2]) ∧ Grn w w' := by
  obtain ⟨va, vc, rfl⟩ := slice_form h
  unfold rdv
  obtain ⟨W, hW⟩ : ∃ W, (w.alloc (.cells #[.int .u64 now, .slice va L.length vc] 32)).alloc (.cells #[.int .i64 x, .int .i64 y] 37) = W := ⟨_, rfl⟩
  have hgW : Grn w W := by rw [← hW]; exact ((Grn.refl w).alloc _).alloc _
  have hY : W.heap[w.heap.size + 1]? = some (.cells #[.int .i64 x, .int .i64 y] 37 (0, 0)) := by rw [← hW]; exact block_new _ _ _ (by simp)
  have hrs := Lib.hid (rspot_any x y W)
  have HOK := Lib.hid hok
  have HG := Lib.hid hgW
  have HW := Lib.hid hW
  have y0 := cells_cell (o := 0) hY rfl
  have y1 := cells_cell (o := 1) hY rfl
  clear h hW hgW hY hok
  go_enter Tryz.func28, Tryz.ntmps28
  go_upto_region 1 with (fail)
  rw [HW.out]
  go_wp2_with (go_at_call 33; fail)
  refine hrs.out.mono ?_
  rintro e w3 ⟨rfl, hg3⟩
  rw [HOK.out]
  have HF := Lib.hid (HG.out.trans hg3)
  clear hg3 hrs
  go_wp2_with fail
  go_ret2
  exact ⟨rfl, HF.out⟩

theorem rpast (k : Int) {now : Int} (hn : now < never) (w : World) : Calls Tryz.prog 34 #[.int .u64 k, .int .u64 now] w fun e w' => e = .returned (.bool (decide (k ≤ now))) ∧ w = w' := by
  have q0 : (now != 18446744073709551615) = true := by unfold never at hn; simp; omega
  by_cases h : k ≤ now
  · have q1 : (k != 18446744073709551615) = true := by unfold never at hn; simp; omega
    have q3 : decide (k ≤ now) = true := by simpa using h
    rw [q3]
    go_enter Tryz.func34, Tryz.ntmps34
    go_wp2_with fail
    go_ret
    exact ⟨by first | rfl | rw [q3], rfl⟩
  · have q3 : decide (k ≤ now) = false := by simpa using h
    rw [q3]
    clear h
    by_cases hk : k = 18446744073709551615
    · have q1 : (k != 18446744073709551615) = false := by simp [hk]
      clear hk
      go_enter Tryz.func34, Tryz.ntmps34
      go_wp2_with fail
      go_ret
      exact ⟨rfl, rfl⟩
    · have q1 : (k != 18446744073709551615) = true := by simp [hk]
      clear hk
      go_enter Tryz.func34, Tryz.ntmps34
      go_wp2_with fail
      go_ret
      exact ⟨rfl, rfl⟩

set_option maxRecDepth 100000 in
set_option maxHeartbeats 800000 in
theorem rpassed_yes (h : RowL w base s L) (R : ROK f L) (hn : now < never) {q r : Nat} (hq : q < 128) (hr : r < 2) :
    Calls Tryz.prog 29 #[rdv now s, .agg #[.int .i64 q, .int .i64 r]] w fun e w' => e = .returned (.tuple #[.bool (decide (f (q * 2 + r) ≤ now)), .int .i64 0]) ∧ Grn w w' := by
  obtain ⟨va, vc, rfl⟩ := slice_form h
  unfold rdv
  obtain ⟨W, hW⟩ : ∃ W, (w.alloc (.cells #[.int .u64 now, .slice va L.length vc] 32)).alloc (.cells #[.int .i64 q, .int .i64 r] 37) = W := ⟨_, rfl⟩
  have hgW : Grn w W := by rw [← hW]; exact ((Grn.refl w).alloc _).alloc _
  have hX : W.heap[w.heap.size]? = some (.cells #[.int .u64 now, .slice va L.length vc] 32 (0, 0)) := by rw [← hW]; exact (((Below.refl _ _).alloc (Nat.le_refl _) _ : Below (w.alloc _).heap.size (w.alloc _) _).block _ (by simp)).trans (block_new _ _ _ rfl)
  have hY : W.heap[w.heap.size + 1]? = some (.cells #[.int .i64 q, .int .i64 r] 37 (0, 0)) := by rw [← hW]; exact block_new _ _ _ (by simp)
  have hget := Lib.hid (rget_yes (now := now) (h.below hgW.below) R hq hr)
  have hp := Lib.hid (fun w => rpast (f (q * 2 + r)) hn w)
  have HG := Lib.hid hgW
  have HX := Lib.hid hX
  have HW := Lib.hid hW
  have x0 := cells_cell (o := 0) hX rfl
  have x1 := cells_cell (o := 1) hX rfl
  have y0 := cells_cell (o := 0) hY rfl
  have y1 := cells_cell (o := 1) hY rfl
  unfold rdv at hget
  clear h R hW hgW hX hY hq hr hn
  go_enter Tryz.func29, Tryz.ntmps29
  go_upto_region 1 with (fail)
  rw [HW.out]
  go_wp2_with (go_at_call 28; fail)
  refine hget.out.mono ?_
  rintro e w3 ⟨rfl, hg3⟩
  have HF := Lib.hid (HG.out.trans hg3)
  have hX3 := (hg3.below.block _ (lt_of_block HX.out)).trans HX.out
  have x0' := cells_cell (o := 0) hX3 rfl
  clear x0 x1 y0 y1 hX3 hg3 hget HX HG HW
  go_wp2_with (go_at_call 34; refine (hp.out _).mono ?_; rintro e w4 ⟨rfl, rfl⟩)
  go_ret2
  exact ⟨rfl, HF.out⟩
set_option maxRecDepth 100000 in
theorem rpassed_no (h : RowL w base s L) {x y : Int} (hok : okS x y = false) :
    Calls Tryz.prog 29 #[rdv now s, .agg #[.int .i64 x, .int .i64 y]] w fun e w' => e = .returned (.tuple #[.bool false, .int .i64 2]) ∧ Grn w w' := by
  obtain ⟨va, vc, rfl⟩ := slice_form h
  unfold rdv
  obtain ⟨W, hW⟩ : ∃ W, (w.alloc (.cells #[.int .u64 now, .slice va L.length vc] 32)).alloc (.cells #[.int .i64 x, .int .i64 y] 37) = W := ⟨_, rfl⟩
  have hgW : Grn w W := by rw [← hW]; exact ((Grn.refl w).alloc _).alloc _
  have hX : W.heap[w.heap.size]? = some (.cells #[.int .u64 now, .slice va L.length vc] 32 (0, 0)) := by rw [← hW]; exact (((Below.refl _ _).alloc (Nat.le_refl _) _ : Below (w.alloc _).heap.size (w.alloc _) _).block _ (by simp)).trans (block_new _ _ _ rfl)
  have hY : W.heap[w.heap.size + 1]? = some (.cells #[.int .i64 x, .int .i64 y] 37 (0, 0)) := by rw [← hW]; exact block_new _ _ _ (by simp)
  have hget := Lib.hid (rget_no (now := now) (h.below hgW.below) hok)
  have HG := Lib.hid hgW
  have HW := Lib.hid hW
  have x0 := cells_cell (o := 0) hX rfl
  have x1 := cells_cell (o := 1) hX rfl
  have y0 := cells_cell (o := 0) hY rfl
  have y1 := cells_cell (o := 1) hY rfl
  unfold rdv at hget
  clear h hW hgW hX hY hok
  go_enter Tryz.func29, Tryz.ntmps29
  go_upto_region 1 with (fail)
  rw [HW.out]
  go_wp2_with (go_at_call 28; fail)
  refine hget.out.mono ?_
  rintro e w3 ⟨rfl, hg3⟩
  have HF := Lib.hid (HG.out.trans hg3)
  clear x0 x1 y0 y1 hg3 hget HG HW
  go_wp2_with fail
  go_ret2
  exact ⟨rfl, HF.out⟩
end
end Go.Proofs.YtgkodleblkjhcaaGreatDoor
/- The reference: Set, Clear. -/
namespace Go.Proofs.YtgkodleblkjhcaaGreatDoor
open Go.RowKit Go.Sort
set_option linter.unusedVariables false
set_option linter.unusedSimpArgs false

theorem set_snd {w : World} {b : Nat} {x y : Value} {t : TypeId} (h : w.heap[b]? = some (.cells #[x, y] t (0, 0))) (v : Value) : (w.setCell ⟨b, 1, none⟩ v).heap[b]? = some (.cells #[x, v] t (0, 0)) := by
  simpa using cells_set h 1 v
theorem ROK.set {f : Nat → Int} {L : List (Int × Nat)} (h : ROK f L) {p : Nat} (hp : p < 256) (d : Int) : ROK (upd f p d) (L.filter (fun e => decide (e.2 ≠ p)) ++ if d = never then [] else [(d, p)]) := by
  have hf : ∀ x, x ∈ L.filter (fun e => decide (e.2 ≠ p)) ↔ (x ∈ L ∧ x.2 ≠ p) := fun x => by rw [List.mem_filter]; simp
  constructor
  · rw [List.map_append]
    refine List.nodup_append.2 ⟨h.nd.sublist (List.filter_sublist.map _), by split <;> simp, fun a ha b hb => ?_⟩
    obtain ⟨x, hx, rfl⟩ := List.mem_map.1 ha
    have h1 := ((hf x).1 hx).2
    split at hb
    · simp at hb
    · simp at hb; omega
  · intro x
    rw [List.mem_append, hf, h.mem]
    unfold upd
    by_cases hx : x.2 = p
    · rw [if_pos hx]
      obtain ⟨x1, x2⟩ := x
      simp only at hx ⊢
      subst hx
      constructor
      · rintro (⟨_, h1⟩ | h1)
        · exact absurd rfl h1
        · split at h1
          · simp at h1
          · rename_i hd
            simp only [List.mem_singleton, Prod.mk.injEq, and_true] at h1
            subst h1
            exact ⟨hp, rfl, hd⟩
      · rintro ⟨_, h1, h2⟩
        subst h1
        rw [if_neg h2]
        exact .inr (List.mem_singleton_self _)
    · rw [if_neg hx]
      constructor
      · rintro (⟨h1, _⟩ | h1)
        · exact h1
        · split at h1
          · simp at h1
          · simp only [List.mem_singleton] at h1
            subst h1
            exact absurd rfl hx
      · intro h1; exact .inl ⟨h1, hx⟩

section
variable {w : World} {base : Nat} {s : Value} {L : List (Int × Nat)} {f : Nat → Int} {now : Int}
set_option maxRecDepth 100000 in
set_option maxHeartbeats 3200000 in
theorem rset_yes (h : RowL w base s L) (hb : base ≤ w.heap.size) (R : ROK f L) (hn : now < never) {q r : Nat} (hq : q < 128) (hr : r < 2) (d : Int) (hd : d ≤ never) :
    Calls Tryz.prog 12 #[rdv now s, .agg #[.int .i64 q, .int .i64 r], .int .u64 d] w fun e w' => ∃ s' L', e = .returned (.tuple #[rdv now s', .bool (decide (d ≤ now)), .int .i64 0]) ∧ RowL w' w.heap.size s' L' ∧ ROK (upd f (q * 2 + r) d) L' ∧ Below w.heap.size w w' := by
  obtain ⟨va, vc, rfl⟩ := slice_form h
  unfold rdv
  obtain ⟨W, hW⟩ : ∃ W, ((w.alloc (.cells #[.int .u64 now, .slice va L.length vc] 32)).alloc (.cells #[.int .i64 q, .int .i64 r] 37)).alloc (.cells #[.int .u64 0, .slice none 0 0] 32) = W := ⟨_, rfl⟩
  have hgW : Grn w W := by rw [← hW]; exact (((Grn.refl w).alloc _).alloc _).alloc _
  have al : ∀ (w : World) o, Below w.heap.size w (w.alloc o) := fun w o => (Below.refl _ _).alloc (Nat.le_refl _) _
  have hX : W.heap[w.heap.size]? = some (.cells #[.int .u64 now, .slice va L.length vc] 32 (0, 0)) := by rw [← hW]; exact ((al _ _).block _ (by simp; omega)).trans (((al _ _).block _ (by simp)).trans (block_new _ _ _ rfl))
  have hY : W.heap[w.heap.size + 1]? = some (.cells #[.int .i64 q, .int .i64 r] 37 (0, 0)) := by rw [← hW]; exact ((al _ _).block _ (by simp)).trans (block_new _ _ _ (by simp))
  have hZ : W.heap[w.heap.size + 1 + 1]? = some (.cells #[.int .u64 0, .slice none 0 0] 32 (0, 0)) := by rw [← hW]; exact block_new _ _ _ (by simp)
  have hrs := Lib.hid (rspot_any (q : Int) (r : Int) W)
  have hok := Lib.hid (show okS (q : Int) (r : Int) = true by simp [okS]; omega)
  have HG := Lib.hid hgW
  have HR := Lib.hid (h.below hgW.below)
  have HX := Lib.hid hX
  have HY := Lib.hid hY
  have HZ := Lib.hid hZ
  have HW := Lib.hid hW
  have HQ := Lib.hid (And.intro hq hr)
  have HLen := Lib.hid R.len
  have HROK := Lib.hid R
  have HN := Lib.hid hn
  have mixed : Tryz.prog.follows .mixedOrders = true := by kernel_rfl
  have y0 := cells_cell (o := 0) hY rfl
  have y1 := cells_cell (o := 1) hY rfl
  obtain ⟨A, hA⟩ : ∃ A, w.heap.size = A := ⟨_, rfl⟩
  obtain ⟨B, hB⟩ : ∃ B, w.heap.size + 1 = B := ⟨_, rfl⟩
  obtain ⟨C, hC⟩ : ∃ C, w.heap.size + 1 + 1 = C := ⟨_, rfl⟩
  have HABC := Lib.hid (And.intro hA (And.intro hB hC))
  rw [hA] at HX
  rw [hB] at HY y0 y1
  rw [hC] at HZ
  clear h R hW hgW hX hY hZ hq hr hA hB hC al hn
  go_enter Tryz.func12, Tryz.ntmps12
  go_upto_region 1 with (fail)
  rw [HW.out, HABC.out.2.2, HABC.out.2.1, HABC.out.1]
  clear HW
  go_wp2_with (go_at_call 33; fail)
  refine hrs.out.mono ?_
  rintro e w3 ⟨rfl, hg3⟩
  rw [hok.out]
  have HG3 := Lib.hid (HG.out.trans hg3)
  have HR3 := Lib.hid (HR.out.below hg3.below)
  have HX3 := Lib.hid ((hg3.below.block _ (lt_of_block HX.out)).trans HX.out)
  have HY3 := Lib.hid ((hg3.below.block _ (lt_of_block HY.out)).trans HY.out)
  have HZ3 := Lib.hid ((hg3.below.block _ (lt_of_block HZ.out)).trans HZ.out)
  have x0 := cells_cell (o := 0) HX3.out rfl
  clear y0 y1 hg3 hrs hok HG HR HX HY HZ
  go_upto_region 4 with (fail)
  obtain ⟨D, hD⟩ : ∃ D, w3.heap.size = D := ⟨_, rfl⟩
  obtain ⟨w4, hW4⟩ : ∃ w4, w3.alloc (.cells #[.int .u64 now, .slice none 0 0] 32) = w4 := ⟨_, rfl⟩
  have HB4 : Hid (Below w3.heap.size w3 w4) := Lib.hid (by rw [← hW4]; exact (Below.refl _ _).alloc (Nat.le_refl _) _)
  have HD4 : Hid (w4.heap[D]? = some (.cells #[.int .u64 now, .slice none 0 0] 32 (0, 0))) := Lib.hid (by rw [← hW4, ← hD]; exact block_new _ _ _ rfl)
  have HSZ4 : Hid (D + 1 = w4.heap.size) := Lib.hid (by rw [← hW4, ← hD]; simp)
  rw [hW4, hD]
  have HDD := Lib.hid hD
  clear hD hW4 x0
  go_wp2_with fail
  go_loopw [10] (fun i wr => ∃ (k : Nat) (v : Value), k ≤ L.length ∧ i = .int .i64 k ∧ Below w3.heap.size w3 wr ∧ wr.heap[D]? = some (.cells #[.int .u64 now, v] 32 (0, 0)) ∧ RowL wr (D + 1) v ((L.take k).filter (fun e => decide (e.2 ≠ q * 2 + r)))) (fun i _ => L.length - (intOf i).toNat)
  case atStart => exact ⟨0, .slice none 0 0, Nat.zero_le _, rfl, HB4.out, HD4.out, World.ownsRow_nil _ _ _ _⟩
  case round =>
    obtain ⟨k, v, hk, rfl, hbr, hdr, hrv⟩ := hrel
    have hxr := (hbr.block _ (lt_of_block HX3.out)).trans HX3.out
    have hyr := (hbr.block _ (lt_of_block HY3.out)).trans HY3.out
    have x0 := cells_cell (o := 0) hxr rfl
    have x1 := cells_cell (o := 1) hxr rfl
    have y0 := cells_cell (o := 0) hyr rfl
    have y1 := cells_cell (o := 1) hyr rfl
    have z1 := cells_cell (o := 1) hdr rfl
    have HBR := Lib.hid hbr
    have HDR := Lib.hid hdr
    have HRV := Lib.hid hrv
    have hDi : (L.length : Int) ≤ 256 := by have := HLen.out; omega
    by_cases hlt : k < L.length
    · obtain ⟨x, hx⟩ : ∃ x, L[k]? = some x := ⟨_, List.getElem?_eq_getElem hlt⟩
      have hrr := HR3.out.below hbr
      obtain ⟨ga, c1, h1, hgb, hgl⟩ := row_some hrr (by omega)
      simp only [Value.slice.injEq, true_and] at h1
      obtain ⟨rfl, rfl⟩ := h1
      have hgl2 := (hrr.lt ga rfl).2
      obtain ⟨a0, a1, a2⟩ := hrr.cells k x hx
      obtain ⟨pq, hpq⟩ : ∃ pq, ((x.2 / 2 : Nat) : Int) = pq := ⟨_, rfl⟩
      obtain ⟨pr, hpr⟩ : ∃ pr, ((x.2 % 2 : Nat) : Int) = pr := ⟨_, rfl⟩
      obtain ⟨zk, hzk⟩ : ∃ zk, x.1 = zk := ⟨_, rfl⟩
      rw [hpq] at a0
      rw [hpr] at a1
      rw [hzk] at a2
      have hki : (k : Int) < (L.length : Int) := by omega
      have HLT := Lib.hid hlt
      have hsn := filter_snoc (fun e : Int × Nat => decide (e.2 ≠ q * 2 + r)) hx
      have HSN := Lib.hid hsn
      have HP := Lib.hid (And.intro hpq (And.intro hpr hzk))
      clear hx hbr hdr hrv hxr hyr hlt hk hsn hrr hpq hpr hzk
      by_cases g1 : pq = (q : Int)
      · by_cases g2 : pr = (r : Int)
        · have k1 : decide (x.2 ≠ q * 2 + r) = false := by have h1 := HP.out; have h2 := HQ.out; simp; omega
          have q1 : (pq == (q : Int)) = true := by simpa using g1
          have q2 : (pr == (r : Int)) = true := by simpa using g2
          clear g1 g2
          go_wp2_with fail
          go_quiet (fail)
          go_wp2_with fail
          have HE : Hid (Below w3.heap.size w3 (wr.drewN nq) ∧ (wr.drewN nq).heap[D]? = some (.cells #[.int .u64 now, v] 32 (0, 0)) ∧ RowL (wr.drewN nq) (D + 1) v ((L.take (k + 1)).filter (fun e => decide (e.2 ≠ q * 2 + r)))) := Lib.hid (by
            have hb := (fr_drewN wr nq []).below (B := wr.heap.size) (fun _ hx => by simp at hx) (Nat.le_refl _)
            refine ⟨HBR.out.trans (hb.mono HBR.out.size), (hb.block _ (lt_of_block HDR.out)).trans HDR.out, ?_⟩
            rw [HSN.out, k1]
            simpa using HRV.out.below hb)
          go_roundw
          case rel => exact ⟨k + 1, v, by have := HLT.out; omega, by go_num, HE.out.1, HE.out.2.1, HE.out.2.2⟩
          case measure => simp [intOf]; have := HLT.out; omega
        · have k1 : decide (x.2 ≠ q * 2 + r) = true := by have h1 := HP.out; have h2 := HQ.out; simp; omega
          have q1 : (pq == (q : Int)) = true := by simpa using g1
          have q2 : (pr == (r : Int)) = false := by simpa using g2
          clear g1 g2
          have HGA := Lib.hid (And.intro hgl2 hgb)
          clear hgl hgb hgl2
          go_wp2_with fail
          go_quiet (fail)
          go_wp2_with fail
          obtain ⟨oa, oc, hov⟩ := slice_form HRV.out
          obtain ⟨on, hon⟩ : ∃ on, ((L.take k).filter (fun e : Int × Nat => decide (e.2 ≠ q * 2 + r))).length = on := ⟨_, rfl⟩
          rw [hon] at hov
          have HLN : Hid (((L.take k).filter (fun e : Int × Nat => decide (e.2 ≠ q * 2 + r))).length ≤ 256) := Lib.hid (by have h1 := List.length_filter_le (fun e : Int × Nat => decide (e.2 ≠ q * 2 + r)) (L.take k); have h2 := List.length_take_le' k L; have h3 := HLen.out; omega)
          obtain ⟨V, hV⟩ : ∃ V, (wr.drewN nq).drew = V := ⟨_, rfl⟩
          have hbV : Below wr.heap.size wr V := by rw [← hV]; exact ((fr_drewN wr nq []).below (fun _ hx => by simp at hx) (Nat.le_refl _)).drew
          have hDl := lt_of_block HDR.out
          have hV1 : V.cell? ⟨D, 1, none⟩ = some v := cells_cell (o := 1) ((hbV.block _ hDl).trans HDR.out) rfl
          have hV2 : V.cell? ⟨A, 1, none⟩ = some (.slice (some ⟨ga, 0, none⟩) L.length vc) := (hbV.cell (p := ⟨A, 1, none⟩) (lt_of_block ((HBR.out.block _ (lt_of_block HX3.out)).trans HX3.out))).trans x1
          have hV3 := (hbV.cell (p := ⟨ga, k * 3, none⟩) HGA.out.1).trans a0
          have hV4 := (hbV.cell (p := ⟨ga, k * 3 + 1, none⟩) HGA.out.1).trans a1
          have hV5 := (hbV.cell (p := ⟨ga, k * 3 + 2, none⟩) HGA.out.1).trans a2
          have HSV : Hid (V.cell? ⟨D, 1, none⟩ = some v ∧ V.cell? ⟨A, 1, none⟩ = some (.slice (some ⟨ga, 0, none⟩) L.length vc) ∧ V.cell? ⟨ga, k * 3, none⟩ = some (.int .i64 pq) ∧ V.cell? ⟨ga, k * 3 + 1, none⟩ = some (.int .i64 pr) ∧ V.cell? ⟨ga, k * 3 + 2, none⟩ = some (.int .u64 zk)) := Lib.hid ⟨hV1, hV2, hV3, hV4, hV5⟩
          have HRVV := Lib.hid (HRV.out.below hbV)
          have HDV := Lib.hid ((hbV.block _ hDl).trans HDR.out)
          have HBV := Lib.hid (HBR.out.trans (hbV.mono HBR.out.size))
          have HVV := Lib.hid hV
          have hAD : Hid (A < D ∧ ga < D) := Lib.hid (by have h1 := lt_of_block HX3.out; have h2 := (HR3.out.lt ga rfl).2; have h3 := HDD.out; omega)
          clear hbV hV hV1 hV2 hV3 hV4 hV5 hDl x0 x1 y0 y1 z1 a0 a1 a2
          refine wp_region_mix (fun W' => W'.cell? ⟨D, 1, none⟩ = some v ∧ W'.cell? ⟨A, 1, none⟩ = some (.slice (some ⟨ga, 0, none⟩) L.length vc) ∧ W'.cell? ⟨ga, k * 3, none⟩ = some (.int .i64 pq) ∧ W'.cell? ⟨ga, k * 3 + 1, none⟩ = some (.int .i64 pr) ∧ W'.cell? ⟨ga, k * 3 + 2, none⟩ = some (.int .u64 zk)) 9 [(true, 0), (true, 1), (true, 2), (true, 3), (true, 4), (true, 5), (true, 6), (false, 7), (false, 8)] mixed (by kernel_rfl) (fun _ _ _ d _ h => by cases d <;> exact h) ?_
          rw [HVV.out]
          subst hov
          simp only [List.map_cons, List.map_nil, List.getD_cons_zero, List.getD_cons_succ, List.drop_succ_cons, List.drop_zero]
          refine mix_take (.pointer (some ⟨D, 1, none⟩)) HSV.out rfl (fun W' hS => by go_simp) ?_
          simp only [Act.put, List.setIfInBounds_toArray, List.set_cons_zero, List.set_cons_succ]
          refine mix_take (.slice oa on oc) HSV.out rfl (fun W' hS => by obtain ⟨l1, l2, l3, l4, l5⟩ := hS; go_simp) ?_
          simp only [Act.put, List.setIfInBounds_toArray, List.set_cons_zero, List.set_cons_succ]
          refine mix_take (.pointer (some ⟨A, 1, none⟩)) HSV.out rfl (fun W' hS => by go_simp) ?_
          simp only [Act.put, List.setIfInBounds_toArray, List.set_cons_zero, List.set_cons_succ]
          refine mix_take (.slice (some ⟨ga, 0, none⟩) L.length vc) HSV.out rfl (fun W' hS => by obtain ⟨l1, l2, l3, l4, l5⟩ := hS; go_simp) ?_
          simp only [Act.put, List.setIfInBounds_toArray, List.set_cons_zero, List.set_cons_succ]
          refine mix_move (.tmp 10) (.int .i64 (k : Int)) rfl HSV.out rfl rfl ?_
          simp only [Act.put, List.setIfInBounds_toArray, List.set_cons_zero, List.set_cons_succ]
          refine mix_take (.pointer (some ⟨ga, k * 3, none⟩)) HSV.out rfl (fun W' hS => by go_simp) ?_
          simp only [Act.put, List.setIfInBounds_toArray, List.set_cons_zero, List.set_cons_succ]
          refine mix_take (.agg #[.int .i64 pq, .int .i64 pr, .int .u64 zk]) HSV.out rfl (fun W' hS => by obtain ⟨l1, l2, l3, l4, l5⟩ := hS; go_simp) ?_
          simp only [Act.put, List.setIfInBounds_toArray, List.set_cons_zero, List.set_cons_succ]
          refine mix_step rfl (fun K hK => ?_)
          go_simp
          have hb8 : Below V.heap.size V (V.alloc (.cells #[.int .i64 pq, .int .i64 pr, .int .u64 zk] 60)) := (Below.refl _ _).alloc (Nat.le_refl _) _
          have hc8 : ∀ {b o : Nat} {u : Value}, V.cell? ⟨b, o, none⟩ = some u → b ≤ D → (V.alloc (.cells #[.int .i64 pq, .int .i64 pr, .int .u64 zk] 60)).cell? ⟨b, o, none⟩ = some u := fun {b o u} h hle => (hb8.cell (p := ⟨b, o, none⟩) (by have := lt_of_block HDV.out; show b < _; omega)).trans h
          have HS8 := Lib.hid (And.intro (hc8 HSV.out.1 (Nat.le_refl _)) (And.intro (hc8 HSV.out.2.1 (by have := hAD.out; omega)) (And.intro (hc8 HSV.out.2.2.1 (by have := hAD.out; omega)) (And.intro (hc8 HSV.out.2.2.2.1 (by have := hAD.out; omega)) (hc8 HSV.out.2.2.2.2 (by have := hAD.out; omega))))))
          have HR8 := Lib.hid (HRVV.out.below hb8)
          have HD8 := Lib.hid ((hb8.block _ (lt_of_block HDV.out)).trans HDV.out)
          have HB8 := Lib.hid (HBV.out.trans (hb8.mono HBV.out.size))
          have HN8 := Lib.hid (rowL1 V pq pr zk x.2 HP.out.1 HP.out.2.1)
          clear hb8 hc8 HSV HRVV HDV HBV HVV
          refine hK _ _ HS8.out ?_
          clear hK K
          generalize V.alloc (.cells #[.int .i64 pq, .int .i64 pr, .int .u64 zk] 60) = V8 at *
          refine mix_step rfl (fun K hK => ?_)
          refine wp_append_ll (v := .slice oa on oc) (.tmp 34) (.tmp 40) rfl rfl rfl HR8.out (by have := lt_of_block HD8.out; omega) HN8.out (by have := HLN.out; simp only [List.length_cons, List.length_nil]; omega) ?_
          intro v' w9 h9 hf9 hn9
          obtain ⟨pa, pn, pc, rfl⟩ : ∃ a n c, v' = .slice a n c := by obtain ⟨a, c, h⟩ := slice_form h9; exact ⟨_, _, _, h⟩
          have hnot : ∀ g, g ≤ D → g ∉ (Value.slice oa on oc).ownBlock.toList := fun g hg hm => by have := (HR8.out.lt g (by simpa using hm)).1; omega
          have HS9 := Lib.hid (And.intro (hf9.cell HS8.out.1 (hnot D (Nat.le_refl _))) (And.intro (hf9.cell HS8.out.2.1 (hnot A (by have := hAD.out; omega))) (And.intro (hf9.cell HS8.out.2.2.1 (hnot ga (by have := hAD.out; omega))) (And.intro (hf9.cell HS8.out.2.2.2.1 (hnot ga (by have := hAD.out; omega))) (hf9.cell HS8.out.2.2.2.2 (hnot ga (by have := hAD.out; omega)))))))
          have HD9 := Lib.hid ((hf9.block _ (lt_of_block HD8.out) (hnot _ (Nat.le_refl _))).trans HD8.out)
          have hfs := fr_setCell w9 ⟨D, 1, none⟩ (.slice pa pn pc)
          have HE : Hid (Below w3.heap.size w3 (w9.setCell ⟨D, 1, none⟩ (.slice pa pn pc)) ∧ (w9.setCell ⟨D, 1, none⟩ (.slice pa pn pc)).heap[D]? = some (.cells #[.int .u64 now, .slice pa pn pc] 32 (0, 0)) ∧ RowL (w9.setCell ⟨D, 1, none⟩ (.slice pa pn pc)) (D + 1) (.slice pa pn pc) ((L.take (k + 1)).filter (fun e => decide (e.2 ≠ q * 2 + r)))) := Lib.hid (by
            refine ⟨(HB8.out.trans (hf9.below (fun g hm => by have := (HR8.out.lt g (by simpa using hm)).1; have := HDD.out; omega) HB8.out.size)).trans (hfs.below (fun g hm => by simp at hm; have := HDD.out; omega) (Nat.le_trans HB8.out.size hf9.size)), set_snd HD9.out (.slice pa pn pc), ?_⟩
            rw [HSN.out, k1]
            have hxe : (zk, x.2) = x := Prod.ext HP.out.2.2.symm rfl
            rw [hxe] at h9
            refine RowL.fr ?_ hfs (fun g hg hm => by have := (h9.lt g hg).1; simp at hm; omega)
            simpa using h9)
          refine hK _ _ HS9.out ?_
          clear hK K h9 hf9 hn9 hnot hfs HR8 HB8 HN8 HS8 HD8
          refine mix_nil ?_
          have f1 := cells_free HD9.out 1
          have e1 := cells_cell (o := 1) HD9.out rfl
          go_wp2_with fail
          go_roundw
          case rel => exact ⟨k + 1, .slice pa pn pc, by have := HLT.out; omega, by go_num, HE.out.1, HE.out.2.1, HE.out.2.2⟩
          case measure => simp [intOf]; have := HLT.out; omega
      · have k1 : decide (x.2 ≠ q * 2 + r) = true := by have h1 := HP.out; have h2 := HQ.out; simp; omega
        have q1 : (pq == (q : Int)) = false := by simpa using g1
        clear g1
        have HGA := Lib.hid (And.intro hgl2 hgb)
        clear hgl hgb hgl2
        go_wp2_with fail
        go_quiet (fail)
        go_wp2_with fail
        obtain ⟨oa, oc, hov⟩ := slice_form HRV.out
        obtain ⟨on, hon⟩ : ∃ on, ((L.take k).filter (fun e : Int × Nat => decide (e.2 ≠ q * 2 + r))).length = on := ⟨_, rfl⟩
        rw [hon] at hov
        have HLN : Hid (((L.take k).filter (fun e : Int × Nat => decide (e.2 ≠ q * 2 + r))).length ≤ 256) := Lib.hid (by have h1 := List.length_filter_le (fun e : Int × Nat => decide (e.2 ≠ q * 2 + r)) (L.take k); have h2 := List.length_take_le' k L; have h3 := HLen.out; omega)
        obtain ⟨V, hV⟩ : ∃ V, (wr.drewN nq).drew = V := ⟨_, rfl⟩
        have hbV : Below wr.heap.size wr V := by rw [← hV]; exact ((fr_drewN wr nq []).below (fun _ hx => by simp at hx) (Nat.le_refl _)).drew
        have hDl := lt_of_block HDR.out
        have hV1 : V.cell? ⟨D, 1, none⟩ = some v := cells_cell (o := 1) ((hbV.block _ hDl).trans HDR.out) rfl
        have hV2 : V.cell? ⟨A, 1, none⟩ = some (.slice (some ⟨ga, 0, none⟩) L.length vc) := (hbV.cell (p := ⟨A, 1, none⟩) (lt_of_block ((HBR.out.block _ (lt_of_block HX3.out)).trans HX3.out))).trans x1
        have hV3 := (hbV.cell (p := ⟨ga, k * 3, none⟩) HGA.out.1).trans a0
        have hV4 := (hbV.cell (p := ⟨ga, k * 3 + 1, none⟩) HGA.out.1).trans a1
        have hV5 := (hbV.cell (p := ⟨ga, k * 3 + 2, none⟩) HGA.out.1).trans a2
        have HSV : Hid (V.cell? ⟨D, 1, none⟩ = some v ∧ V.cell? ⟨A, 1, none⟩ = some (.slice (some ⟨ga, 0, none⟩) L.length vc) ∧ V.cell? ⟨ga, k * 3, none⟩ = some (.int .i64 pq) ∧ V.cell? ⟨ga, k * 3 + 1, none⟩ = some (.int .i64 pr) ∧ V.cell? ⟨ga, k * 3 + 2, none⟩ = some (.int .u64 zk)) := Lib.hid ⟨hV1, hV2, hV3, hV4, hV5⟩
        have HRVV := Lib.hid (HRV.out.below hbV)
        have HDV := Lib.hid ((hbV.block _ hDl).trans HDR.out)
        have HBV := Lib.hid (HBR.out.trans (hbV.mono HBR.out.size))
        have HVV := Lib.hid hV
        have hAD : Hid (A < D ∧ ga < D) := Lib.hid (by have h1 := lt_of_block HX3.out; have h2 := (HR3.out.lt ga rfl).2; have h3 := HDD.out; omega)
        clear hbV hV hV1 hV2 hV3 hV4 hV5 hDl x0 x1 y0 y1 z1 a0 a1 a2
        refine wp_region_mix (fun W' => W'.cell? ⟨D, 1, none⟩ = some v ∧ W'.cell? ⟨A, 1, none⟩ = some (.slice (some ⟨ga, 0, none⟩) L.length vc) ∧ W'.cell? ⟨ga, k * 3, none⟩ = some (.int .i64 pq) ∧ W'.cell? ⟨ga, k * 3 + 1, none⟩ = some (.int .i64 pr) ∧ W'.cell? ⟨ga, k * 3 + 2, none⟩ = some (.int .u64 zk)) 9 [(true, 0), (true, 1), (true, 2), (true, 3), (true, 4), (true, 5), (true, 6), (false, 7), (false, 8)] mixed (by kernel_rfl) (fun _ _ _ d _ h => by cases d <;> exact h) ?_
        rw [HVV.out]
        subst hov
        simp only [List.map_cons, List.map_nil, List.getD_cons_zero, List.getD_cons_succ, List.drop_succ_cons, List.drop_zero]
        refine mix_take (.pointer (some ⟨D, 1, none⟩)) HSV.out rfl (fun W' hS => by go_simp) ?_
        simp only [Act.put, List.setIfInBounds_toArray, List.set_cons_zero, List.set_cons_succ]
        refine mix_take (.slice oa on oc) HSV.out rfl (fun W' hS => by obtain ⟨l1, l2, l3, l4, l5⟩ := hS; go_simp) ?_
        simp only [Act.put, List.setIfInBounds_toArray, List.set_cons_zero, List.set_cons_succ]
        refine mix_take (.pointer (some ⟨A, 1, none⟩)) HSV.out rfl (fun W' hS => by go_simp) ?_
        simp only [Act.put, List.setIfInBounds_toArray, List.set_cons_zero, List.set_cons_succ]
        refine mix_take (.slice (some ⟨ga, 0, none⟩) L.length vc) HSV.out rfl (fun W' hS => by obtain ⟨l1, l2, l3, l4, l5⟩ := hS; go_simp) ?_
        simp only [Act.put, List.setIfInBounds_toArray, List.set_cons_zero, List.set_cons_succ]
        refine mix_move (.tmp 10) (.int .i64 (k : Int)) rfl HSV.out rfl rfl ?_
        simp only [Act.put, List.setIfInBounds_toArray, List.set_cons_zero, List.set_cons_succ]
        refine mix_take (.pointer (some ⟨ga, k * 3, none⟩)) HSV.out rfl (fun W' hS => by go_simp) ?_
        simp only [Act.put, List.setIfInBounds_toArray, List.set_cons_zero, List.set_cons_succ]
        refine mix_take (.agg #[.int .i64 pq, .int .i64 pr, .int .u64 zk]) HSV.out rfl (fun W' hS => by obtain ⟨l1, l2, l3, l4, l5⟩ := hS; go_simp) ?_
        simp only [Act.put, List.setIfInBounds_toArray, List.set_cons_zero, List.set_cons_succ]
        refine mix_step rfl (fun K hK => ?_)
        go_simp
        have hb8 : Below V.heap.size V (V.alloc (.cells #[.int .i64 pq, .int .i64 pr, .int .u64 zk] 60)) := (Below.refl _ _).alloc (Nat.le_refl _) _
        have hc8 : ∀ {b o : Nat} {u : Value}, V.cell? ⟨b, o, none⟩ = some u → b ≤ D → (V.alloc (.cells #[.int .i64 pq, .int .i64 pr, .int .u64 zk] 60)).cell? ⟨b, o, none⟩ = some u := fun {b o u} h hle => (hb8.cell (p := ⟨b, o, none⟩) (by have := lt_of_block HDV.out; show b < _; omega)).trans h
        have HS8 := Lib.hid (And.intro (hc8 HSV.out.1 (Nat.le_refl _)) (And.intro (hc8 HSV.out.2.1 (by have := hAD.out; omega)) (And.intro (hc8 HSV.out.2.2.1 (by have := hAD.out; omega)) (And.intro (hc8 HSV.out.2.2.2.1 (by have := hAD.out; omega)) (hc8 HSV.out.2.2.2.2 (by have := hAD.out; omega))))))
        have HR8 := Lib.hid (HRVV.out.below hb8)
        have HD8 := Lib.hid ((hb8.block _ (lt_of_block HDV.out)).trans HDV.out)
        have HB8 := Lib.hid (HBV.out.trans (hb8.mono HBV.out.size))
        have HN8 := Lib.hid (rowL1 V pq pr zk x.2 HP.out.1 HP.out.2.1)
        clear hb8 hc8 HSV HRVV HDV HBV HVV
        refine hK _ _ HS8.out ?_
        clear hK K
        generalize V.alloc (.cells #[.int .i64 pq, .int .i64 pr, .int .u64 zk] 60) = V8 at *
        refine mix_step rfl (fun K hK => ?_)
        refine wp_append_ll (v := .slice oa on oc) (.tmp 34) (.tmp 40) rfl rfl rfl HR8.out (by have := lt_of_block HD8.out; omega) HN8.out (by have := HLN.out; simp only [List.length_cons, List.length_nil]; omega) ?_
        intro v' w9 h9 hf9 hn9
        obtain ⟨pa, pn, pc, rfl⟩ : ∃ a n c, v' = .slice a n c := by obtain ⟨a, c, h⟩ := slice_form h9; exact ⟨_, _, _, h⟩
        have hnot : ∀ g, g ≤ D → g ∉ (Value.slice oa on oc).ownBlock.toList := fun g hg hm => by have := (HR8.out.lt g (by simpa using hm)).1; omega
        have HS9 := Lib.hid (And.intro (hf9.cell HS8.out.1 (hnot D (Nat.le_refl _))) (And.intro (hf9.cell HS8.out.2.1 (hnot A (by have := hAD.out; omega))) (And.intro (hf9.cell HS8.out.2.2.1 (hnot ga (by have := hAD.out; omega))) (And.intro (hf9.cell HS8.out.2.2.2.1 (hnot ga (by have := hAD.out; omega))) (hf9.cell HS8.out.2.2.2.2 (hnot ga (by have := hAD.out; omega)))))))
        have HD9 := Lib.hid ((hf9.block _ (lt_of_block HD8.out) (hnot _ (Nat.le_refl _))).trans HD8.out)
        have hfs := fr_setCell w9 ⟨D, 1, none⟩ (.slice pa pn pc)
        have HE : Hid (Below w3.heap.size w3 (w9.setCell ⟨D, 1, none⟩ (.slice pa pn pc)) ∧ (w9.setCell ⟨D, 1, none⟩ (.slice pa pn pc)).heap[D]? = some (.cells #[.int .u64 now, .slice pa pn pc] 32 (0, 0)) ∧ RowL (w9.setCell ⟨D, 1, none⟩ (.slice pa pn pc)) (D + 1) (.slice pa pn pc) ((L.take (k + 1)).filter (fun e => decide (e.2 ≠ q * 2 + r)))) := Lib.hid (by
          refine ⟨(HB8.out.trans (hf9.below (fun g hm => by have := (HR8.out.lt g (by simpa using hm)).1; have := HDD.out; omega) HB8.out.size)).trans (hfs.below (fun g hm => by simp at hm; have := HDD.out; omega) (Nat.le_trans HB8.out.size hf9.size)), set_snd HD9.out (.slice pa pn pc), ?_⟩
          rw [HSN.out, k1]
          have hxe : (zk, x.2) = x := Prod.ext HP.out.2.2.symm rfl
          rw [hxe] at h9
          refine RowL.fr ?_ hfs (fun g hg hm => by have := (h9.lt g hg).1; simp at hm; omega)
          simpa using h9)
        refine hK _ _ HS9.out ?_
        clear hK K h9 hf9 hn9 hnot hfs HR8 HB8 HN8 HS8 HD8
        refine mix_nil ?_
        have f1 := cells_free HD9.out 1
        have e1 := cells_cell (o := 1) HD9.out rfl
        go_wp2_with fail
        go_roundw
        case rel => exact ⟨k + 1, .slice pa pn pc, by have := HLT.out; omega, by go_num, HE.out.1, HE.out.2.1, HE.out.2.2⟩
        case measure => simp [intOf]; have := HLT.out; omega
    · obtain rfl : k = L.length := by omega
      rw [List.take_length] at hrv
      have HRW := Lib.hid hrv
      clear hlt hk hbr hdr hrv hxr hyr HRV
      obtain ⟨ra, rn, rc, rfl⟩ : ∃ ra rn rc, v = .slice ra rn rc := by obtain ⟨a, c, h⟩ := slice_form HRW.out; exact ⟨_, _, _, h⟩
      have HCr := Lib.hid ((HBR.out.block _ (lt_of_block HZ3.out)).trans HZ3.out)
      have HXr := Lib.hid ((HBR.out.block _ (lt_of_block HX3.out)).trans HX3.out)
      by_cases hdn : d = never
      · have qd : (d != 18446744073709551615) = false := by simp [hdn, never]
        have HDf := HDR
        have HXf := HXr
        have HCf := HCr
        have HBf := HBR
        have HRf := HRW
        have HKf : Hid (ROK (upd f (q * 2 + r) d) (L.filter (fun e => decide (e.2 ≠ q * 2 + r)))) := Lib.hid (by
          have := HROK.out.set (p := q * 2 + r) (by have := HQ.out; omega) d
          rwa [if_pos hdn, List.append_nil] at this)
        clear hdn HDR HXr HCr HRW
        go_wp2_with fail
        obtain ⟨W6, hW6⟩ : ∃ W6, wr.drew = W6 := ⟨_, rfl⟩
        have hb6 : Below wr.heap.size wr W6 := by rw [← hW6]; exact (Below.refl _ _).drew
        have HD6 := Lib.hid ((hb6.block _ (lt_of_block HDf.out)).trans HDf.out)
        have HX6 := Lib.hid ((hb6.block _ (lt_of_block HXf.out)).trans HXf.out)
        have HC6 := Lib.hid ((hb6.block _ (lt_of_block HCf.out)).trans HCf.out)
        have HR6 := Lib.hid (HRf.out.below hb6)
        have HB6 := Lib.hid (HBf.out.trans (hb6.mono HBf.out.size))
        have HW6 := Lib.hid hW6
        have hS6 : Hid (W6.cell? ⟨D, 0, none⟩ = some (.int .u64 now) ∧ W6.cell? ⟨D, 1, none⟩ = some (.slice ra rn rc) ∧ W6.cell? ⟨A, 0, none⟩ = some (.int .u64 now)) := Lib.hid ⟨cells_cell (o := 0) HD6.out rfl, cells_cell (o := 1) HD6.out rfl, cells_cell (o := 0) HX6.out rfl⟩
        have hp := Lib.hid (rpast d HN.out W6)
        clear hW6 hb6 HDf HXf HCf HRf HBf
        refine wp_region_mix (fun W' => W'.cell? ⟨D, 0, none⟩ = some (.int .u64 now) ∧ W'.cell? ⟨D, 1, none⟩ = some (.slice ra rn rc) ∧ W'.cell? ⟨A, 0, none⟩ = some (.int .u64 now)) 5 [(true, 0), (true, 1), (true, 2), (true, 3), (false, 4)] mixed (by kernel_rfl) (fun _ _ _ d _ h => by cases d <;> exact h) ?_
        rw [HW6.out]
        simp only [List.map_cons, List.map_nil, List.getD_cons_zero, List.getD_cons_succ, List.drop_succ_cons, List.drop_zero]
        refine mix_take (.agg #[.int .u64 now, (.slice ra rn rc)]) hS6.out rfl (fun W' hS => by obtain ⟨l0, l1, l2⟩ := hS; go_simp) ?_
        simp only [Act.put, List.setIfInBounds_toArray, List.set_cons_zero, List.set_cons_succ]
        refine mix_move (.tmp 2) (.int .u64 d) rfl hS6.out rfl rfl ?_
        simp only [Act.put, List.setIfInBounds_toArray, List.set_cons_zero, List.set_cons_succ]
        refine mix_take (.pointer (some ⟨A, 0, none⟩)) hS6.out rfl (fun W' hS => by go_simp) ?_
        simp only [Act.put, List.setIfInBounds_toArray, List.set_cons_zero, List.set_cons_succ]
        refine mix_take (.int .u64 now) hS6.out rfl (fun W' hS => by obtain ⟨l0, l1, l2⟩ := hS; go_simp) ?_
        simp only [Act.put, List.setIfInBounds_toArray, List.set_cons_zero, List.set_cons_succ]
        refine mix_step rfl (fun K hK => ?_)
        go_simp
        go_wp2_with (go_at_call 34; fail)
        refine hp.out.mono ?_
        rintro e W7 ⟨rfl, rfl⟩
        refine hK _ _ hS6.out ?_
        clear hK hp
        refine mix_nil ?_
        have f0 := cells_free HC6.out 0
        have f1 := cells_free HC6.out 1
        have e0 := cells_cell (o := 0) HC6.out rfl
        have e1 := cells_cell (o := 1) HC6.out rfl
        have hf := (fr_setCell W6 ⟨C, 0, none⟩ (.int .u64 now)).trans' (fr_setCell _ ⟨C, 1, none⟩ (.slice ra rn rc))
        have HC7 := Lib.hid (set2 HC6.out (.int .u64 now) (.slice ra rn rc))
        have HCD : Hid (w.heap.size ≤ C ∧ C < D) := Lib.hid (by have h1 := lt_of_block HZ3.out; have h2 := HDD.out; have h3 := HABC.out.2.2; omega)
        have HR7 := Lib.hid (RowL.fr HR6.out hf (fun g hg hm => by have := (HR6.out.lt g hg).1; have := HCD.out; simp at hm; omega))
        have HB7 := Lib.hid ((HG3.out.below.trans (HB6.out.mono HG3.out.below.size)).trans (hf.below (fun g hm => by simp at hm; have := HCD.out; omega) (Nat.le_trans HG3.out.below.size HB6.out.size)))
        have hcl := lt_of_block HC6.out
        clear hf HD6 HX6 HC6 HB6 HR6 hS6
        go_wp2_with fail
        have hy2 := HC7.out
        refine bodyPost_ret (v := .tuple #[.agg #[.int .u64 now, .slice ra rn rc], .bool (decide (d ≤ now)), .int .i64 0]) (by simp [results, Tryz.results12, go_sem, cells_cell (o := 0) hy2 rfl, cells_cell (o := 1) hy2 rfl]) rfl ?_
        exact ⟨_, _, rfl, ownsRow_mono HR7.out (by have := HCD.out; omega), HKf.out, HB7.out⟩
      · have qd : (d != 18446744073709551615) = true := by simpa [never] using hdn
        have hsl : Hid (((L.filter (fun e : Int × Nat => decide (e.2 ≠ q * 2 + r))).length) ≤ 256) := Lib.hid (by have h1 := List.length_filter_le (fun e : Int × Nat => decide (e.2 ≠ q * 2 + r)) L; have h3 := HLen.out; omega)
        have HKf : Hid (ROK (upd f (q * 2 + r) d) (L.filter (fun e => decide (e.2 ≠ q * 2 + r)) ++ [(d, q * 2 + r)])) := Lib.hid (by
          have := HROK.out.set (p := q * 2 + r) (by have := HQ.out; omega) d
          rwa [if_neg hdn] at this)
        have hb8 : Below wr.heap.size wr (wr.alloc (.cells #[.int .i64 (q : Int), .int .i64 (r : Int), .int .u64 d] 60)) := (Below.refl _ _).alloc (Nat.le_refl _) _
        have HR8 := Lib.hid (HRW.out.below hb8)
        have HD8 := Lib.hid ((hb8.block _ (lt_of_block HDR.out)).trans HDR.out)
        have HX8 := Lib.hid ((hb8.block _ (lt_of_block HXr.out)).trans HXr.out)
        have HC8 := Lib.hid ((hb8.block _ (lt_of_block HCr.out)).trans HCr.out)
        have HB8 := Lib.hid (HBR.out.trans (hb8.mono HBR.out.size))
        have HN8 := Lib.hid (rowL1 wr (q : Int) (r : Int) d (q * 2 + r) (by have := HQ.out; omega) (by have := HQ.out; omega))
        clear hdn hb8 HXr HCr HRW
        go_wp2_with (at_builtin; refine wpList_append_ll (v := .slice ra rn rc) rfl (.tmp 46) (.tmp 50) rfl rfl rfl HR8.out ?_ HN8.out ?_ ?_)
        · have h1 := lt_of_block HD8.out; omega
        · have := hsl.out; simp only [List.length_cons, List.length_nil]; omega
        intro v' w9 h9 hf9 hn9
        obtain ⟨pa, pn, pc, rfl⟩ : ∃ a n c, v' = .slice a n c := by obtain ⟨a, c, h⟩ := slice_form h9; exact ⟨_, _, _, h⟩
        have hnot : ∀ g, g ≤ D → g ∉ (Value.slice ra rn rc).ownBlock.toList := fun g hg hm => by have := (HR8.out.lt g (by simpa using hm)).1; omega
        have hACD : A ≤ D ∧ C < D := by have h1 := lt_of_block HX3.out; have h2 := lt_of_block HZ3.out; have h3 := HDD.out; omega
        have hfs := fr_setCell w9 ⟨D, 1, none⟩ (.slice pa pn pc)
        have HD9 := Lib.hid ((hf9.block _ (lt_of_block HD8.out) (hnot D (Nat.le_refl _))).trans HD8.out)
        have hX9 := (hf9.block _ (lt_of_block HX8.out) (hnot A hACD.1)).trans HX8.out
        have hC9 := (hf9.block _ (lt_of_block HC8.out) (hnot C (by omega))).trans HC8.out
        have hADn : A ≠ D := by have h1 := lt_of_block HX3.out; have h3 := HDD.out; omega
        obtain ⟨wf, hwf⟩ : ∃ wf, w9.setCell ⟨D, 1, none⟩ (.slice pa pn pc) = wf := ⟨_, rfl⟩
        have HDf : Hid (wf.heap[D]? = some (.cells #[.int .u64 now, .slice pa pn pc] 32 (0, 0))) := Lib.hid (by rw [← hwf]; exact set_snd HD9.out _)
        have HXf : Hid (wf.heap[A]? = some (.cells #[.int .u64 now, .slice va L.length vc] 32 (0, 0))) := Lib.hid (by rw [← hwf]; exact (hfs.block A (lt_of_block hX9) (by simp; omega)).trans hX9)
        have HCf : Hid (wf.heap[C]? = some (.cells #[.int .u64 0, .slice none 0 0] 32 (0, 0))) := Lib.hid (by rw [← hwf]; exact (hfs.block C (lt_of_block hC9) (by simp; omega)).trans hC9)
        have HRf : Hid (RowL wf (D + 1) (.slice pa pn pc) (L.filter (fun e => decide (e.2 ≠ q * 2 + r)) ++ [(d, q * 2 + r)])) := Lib.hid (by rw [← hwf]; exact RowL.fr (L := L.filter (fun e => decide (e.2 ≠ q * 2 + r)) ++ [(d, q * 2 + r)]) (by simpa using h9) hfs (fun g hg hm => by have := (h9.lt g hg).1; simp at hm; omega))
        have HBf : Hid (Below w3.heap.size w3 wf) := Lib.hid (by rw [← hwf]; exact (HB8.out.trans (hf9.below (fun g hm => by have := (HR8.out.lt g (by simpa using hm)).1; have := HDD.out; omega) HB8.out.size)).trans (hfs.below (fun g hm => by simp at hm; have := HDD.out; omega) (Nat.le_trans HB8.out.size hf9.size)))
        have HWf := Lib.hid hwf
        clear h9 hf9 hn9 hnot hACD hADn hfs hX9 hC9 hwf HR8 HD8 HX8 HC8 HB8 HN8 HDR
        have f1 := cells_free HD9.out 1
        have e1 := cells_cell (o := 1) HD9.out rfl
        go_wp2_with fail
        rw [HWf.out]
        clear f1 e1 HD9
        obtain ⟨W6, hW6⟩ : ∃ W6, wf.drew = W6 := ⟨_, rfl⟩
        have hb6 : Below wf.heap.size wf W6 := by rw [← hW6]; exact (Below.refl _ _).drew
        have HD6 := Lib.hid ((hb6.block _ (lt_of_block HDf.out)).trans HDf.out)
        have HX6 := Lib.hid ((hb6.block _ (lt_of_block HXf.out)).trans HXf.out)
        have HC6 := Lib.hid ((hb6.block _ (lt_of_block HCf.out)).trans HCf.out)
        have HR6 := Lib.hid (HRf.out.below hb6)
        have HB6 := Lib.hid (HBf.out.trans (hb6.mono HBf.out.size))
        have HW6 := Lib.hid hW6
        have hS6 : Hid (W6.cell? ⟨D, 0, none⟩ = some (.int .u64 now) ∧ W6.cell? ⟨D, 1, none⟩ = some (.slice pa pn pc) ∧ W6.cell? ⟨A, 0, none⟩ = some (.int .u64 now)) := Lib.hid ⟨cells_cell (o := 0) HD6.out rfl, cells_cell (o := 1) HD6.out rfl, cells_cell (o := 0) HX6.out rfl⟩
        have hp := Lib.hid (rpast d HN.out W6)
        clear hW6 hb6 HDf HXf HCf HRf HBf
        refine wp_region_mix (fun W' => W'.cell? ⟨D, 0, none⟩ = some (.int .u64 now) ∧ W'.cell? ⟨D, 1, none⟩ = some (.slice pa pn pc) ∧ W'.cell? ⟨A, 0, none⟩ = some (.int .u64 now)) 5 [(true, 0), (true, 1), (true, 2), (true, 3), (false, 4)] mixed (by kernel_rfl) (fun _ _ _ d _ h => by cases d <;> exact h) ?_
        rw [HW6.out]
        simp only [List.map_cons, List.map_nil, List.getD_cons_zero, List.getD_cons_succ, List.drop_succ_cons, List.drop_zero]
        refine mix_take (.agg #[.int .u64 now, (.slice pa pn pc)]) hS6.out rfl (fun W' hS => by obtain ⟨l0, l1, l2⟩ := hS; go_simp) ?_
        simp only [Act.put, List.setIfInBounds_toArray, List.set_cons_zero, List.set_cons_succ]
        refine mix_move (.tmp 2) (.int .u64 d) rfl hS6.out rfl rfl ?_
        simp only [Act.put, List.setIfInBounds_toArray, List.set_cons_zero, List.set_cons_succ]
        refine mix_take (.pointer (some ⟨A, 0, none⟩)) hS6.out rfl (fun W' hS => by go_simp) ?_
        simp only [Act.put, List.setIfInBounds_toArray, List.set_cons_zero, List.set_cons_succ]
        refine mix_take (.int .u64 now) hS6.out rfl (fun W' hS => by obtain ⟨l0, l1, l2⟩ := hS; go_simp) ?_
        simp only [Act.put, List.setIfInBounds_toArray, List.set_cons_zero, List.set_cons_succ]
        refine mix_step rfl (fun K hK => ?_)
        go_simp
        go_wp2_with (go_at_call 34; fail)
        refine hp.out.mono ?_
        rintro e W7 ⟨rfl, rfl⟩
        refine hK _ _ hS6.out ?_
        clear hK hp
        refine mix_nil ?_
        have f0 := cells_free HC6.out 0
        have f1 := cells_free HC6.out 1
        have e0 := cells_cell (o := 0) HC6.out rfl
        have e1 := cells_cell (o := 1) HC6.out rfl
        have hf := (fr_setCell W6 ⟨C, 0, none⟩ (.int .u64 now)).trans' (fr_setCell _ ⟨C, 1, none⟩ (.slice pa pn pc))
        have HC7 := Lib.hid (set2 HC6.out (.int .u64 now) (.slice pa pn pc))
        have HCD : Hid (w.heap.size ≤ C ∧ C < D) := Lib.hid (by have h1 := lt_of_block HZ3.out; have h2 := HDD.out; have h3 := HABC.out.2.2; omega)
        have HR7 := Lib.hid (RowL.fr HR6.out hf (fun g hg hm => by have := (HR6.out.lt g hg).1; have := HCD.out; simp at hm; omega))
        have HB7 := Lib.hid ((HG3.out.below.trans (HB6.out.mono HG3.out.below.size)).trans (hf.below (fun g hm => by simp at hm; have := HCD.out; omega) (Nat.le_trans HG3.out.below.size HB6.out.size)))
        have hcl := lt_of_block HC6.out
        clear hf HD6 HX6 HC6 HB6 HR6 hS6
        go_wp2_with fail
        have hy2 := HC7.out
        refine bodyPost_ret (v := .tuple #[.agg #[.int .u64 now, .slice pa pn pc], .bool (decide (d ≤ now)), .int .i64 0]) (by simp [results, Tryz.results12, go_sem, cells_cell (o := 0) hy2 rfl, cells_cell (o := 1) hy2 rfl]) rfl ?_
        exact ⟨_, _, rfl, ownsRow_mono HR7.out (by have := HCD.out; omega), HKf.out, HB7.out⟩
end
end Go.Proofs.YtgkodleblkjhcaaGreatDoor
/- The reference: Set of a spot that is not valid, Clear, Min, Next. -/
namespace Go.Proofs.YtgkodleblkjhcaaGreatDoor
open Go.RowKit Go.Sort
set_option linter.unusedVariables false
set_option linter.unusedSimpArgs false

section
variable {w : World} {base : Nat} {s : Value} {L : List (Int × Nat)} {f : Nat → Int} {now : Int}
set_option maxRecDepth 100000 in
set_option maxHeartbeats 3200000 in
theorem rset_no (h : RowL w base s L) (hb : base ≤ w.heap.size) {x y : Int} (hk : okS x y = false) (d : Int) :
    Calls Tryz.prog 12 #[rdv now s, .agg #[.int .i64 x, .int .i64 y], .int .u64 d] w fun e w' => e = .returned (.tuple #[rdv now s, .bool false, .int .i64 2]) ∧ Below w.heap.size w w' := by
  obtain ⟨va, vc, rfl⟩ := slice_form h
  unfold rdv
  obtain ⟨W, hW⟩ : ∃ W, ((w.alloc (.cells #[.int .u64 now, .slice va L.length vc] 32)).alloc (.cells #[.int .i64 x, .int .i64 y] 37)).alloc (.cells #[.int .u64 0, .slice none 0 0] 32) = W := ⟨_, rfl⟩
  have hgW : Grn w W := by rw [← hW]; exact (((Grn.refl w).alloc _).alloc _).alloc _
  have al : ∀ (w : World) o, Below w.heap.size w (w.alloc o) := fun w o => (Below.refl _ _).alloc (Nat.le_refl _) _
  have hX : W.heap[w.heap.size]? = some (.cells #[.int .u64 now, .slice va L.length vc] 32 (0, 0)) := by rw [← hW]; exact ((al _ _).block _ (by simp; omega)).trans (((al _ _).block _ (by simp)).trans (block_new _ _ _ rfl))
  have hY : W.heap[w.heap.size + 1]? = some (.cells #[.int .i64 x, .int .i64 y] 37 (0, 0)) := by rw [← hW]; exact ((al _ _).block _ (by simp)).trans (block_new _ _ _ (by simp))
  have hZ : W.heap[w.heap.size + 1 + 1]? = some (.cells #[.int .u64 0, .slice none 0 0] 32 (0, 0)) := by rw [← hW]; exact block_new _ _ _ (by simp)
  have hrs := Lib.hid (rspot_any x y W)
  have hok := Lib.hid hk
  have HG := Lib.hid hgW
  have HX := Lib.hid hX
  have HZ := Lib.hid hZ
  have HW := Lib.hid hW
  have y0 := cells_cell (o := 0) hY rfl
  have y1 := cells_cell (o := 1) hY rfl
  obtain ⟨A, hA⟩ : ∃ A, w.heap.size = A := ⟨_, rfl⟩
  obtain ⟨B, hB⟩ : ∃ B, w.heap.size + 1 = B := ⟨_, rfl⟩
  obtain ⟨C, hC⟩ : ∃ C, w.heap.size + 1 + 1 = C := ⟨_, rfl⟩
  have HABC := Lib.hid (And.intro hA (And.intro hB hC))
  rw [hA] at HX
  rw [hB] at y0 y1
  rw [hC] at HZ
  clear h hW hgW hX hY hZ hA hB hC al hk
  go_enter Tryz.func12, Tryz.ntmps12
  go_upto_region 1 with (fail)
  rw [HW.out, HABC.out.2.2, HABC.out.2.1, HABC.out.1]
  clear HW
  go_wp2_with (go_at_call 33; fail)
  refine hrs.out.mono ?_
  rintro e w3 ⟨rfl, hg3⟩
  rw [hok.out]
  have HG3 := Lib.hid (HG.out.trans hg3)
  have HX3 := Lib.hid ((hg3.below.block _ (lt_of_block HX.out)).trans HX.out)
  have HZ3 := Lib.hid ((hg3.below.block _ (lt_of_block HZ.out)).trans HZ.out)
  have x0 := cells_cell (o := 0) HX3.out rfl
  have x1 := cells_cell (o := 1) HX3.out rfl
  have f0 := cells_free HZ3.out 0
  have f1 := cells_free HZ3.out 1
  have e0 := cells_cell (o := 0) HZ3.out rfl
  have e1 := cells_cell (o := 1) HZ3.out rfl
  have hcl := lt_of_block HZ3.out
  have hf := (fr_setCell w3 ⟨C, 0, none⟩ (.int .u64 now)).trans' (fr_setCell _ ⟨C, 1, none⟩ (.slice va L.length vc))
  have HC7 := Lib.hid (set2 HZ3.out (.int .u64 now) (.slice va L.length vc))
  have HB7 := Lib.hid (HG3.out.below.trans (hf.below (fun g hm => by simp at hm; have := HABC.out.2.2; omega) HG3.out.below.size))
  clear y0 y1 hg3 hrs hok HG HX HZ hf HX3 HZ3
  go_wp2_with fail
  have hy2 := HC7.out
  refine bodyPost_ret (v := .tuple #[.agg #[.int .u64 now, .slice va L.length vc], .bool false, .int .i64 2]) (by simp [results, Tryz.results12, go_sem, cells_cell (o := 0) hy2 rfl, cells_cell (o := 1) hy2 rfl]) rfl ?_
  exact ⟨rfl, HB7.out⟩

set_option maxRecDepth 100000 in
set_option maxHeartbeats 3200000 in
theorem rclear_yes (h : RowL w base s L) (hb : base ≤ w.heap.size) (R : ROK f L) (hn : now < never) {q : Nat} (hq : q < 128) :
    Calls Tryz.prog 25 #[rdv now s, .int .i64 q] w fun e w' => ∃ s' L', e = .returned (.tuple #[rdv now s', .int .i64 0]) ∧ RowL w' w.heap.size s' L' ∧ ROK (clear f q) L' ∧ Below w.heap.size w w' := by
  obtain ⟨va, vc, rfl⟩ := slice_form h
  unfold rdv
  obtain ⟨W, hW⟩ : ∃ W, (w.alloc (.cells #[.int .u64 now, .slice va L.length vc] 32)).alloc (.cells #[.int .u64 0, .slice none 0 0] 32) = W := ⟨_, rfl⟩
  have hbW : Below w.heap.size w W := by rw [← hW]; exact ((Below.refl _ _).alloc (Nat.le_refl _) _).alloc (by simp) _
  have hX : W.heap[w.heap.size]? = some (.cells #[.int .u64 now, .slice va L.length vc] 32 (0, 0)) := by rw [← hW]; exact (((Below.refl _ _).alloc (Nat.le_refl _) _ : Below (w.alloc _).heap.size (w.alloc _) _).block _ (by simp)).trans (block_new _ _ _ rfl)
  have hY : W.heap[w.heap.size + 1]? = some (.cells #[.int .u64 0, .slice none 0 0] 32 (0, 0)) := by rw [← hW]; exact block_new _ _ _ (by simp)
  have x0 := cells_cell (o := 0) hX rfl
  have x1 := cells_cell (o := 1) hX rfl
  have hset := Lib.hid (rset_yes (h.below hbW) (Nat.le_trans hb hbW.size) R hn (r := 0) hq (by omega) never (Int.le_refl _))
  have HB := Lib.hid hbW
  have HY := Lib.hid hY
  have HW := Lib.hid hW
  have HQ := Lib.hid hq
  have HN := Lib.hid hn
  obtain ⟨C, hC⟩ : ∃ C, w.heap.size + 1 = C := ⟨_, rfl⟩
  have HC := Lib.hid hC
  rw [hC] at HY
  unfold rdv never at hset
  clear h R hW hbW hX hY hq hn hC
  go_enter Tryz.func25, Tryz.ntmps25
  go_upto_region 1 with (fail)
  rw [HW.out, HC.out]
  clear HW
  go_wp2_with (go_at_call 12; fail)
  refine hset.out.mono ?_
  rintro e w3 ⟨s1, L1, rfl, hr1, R1, hb1⟩
  obtain ⟨a1, c1, rfl⟩ := slice_form hr1
  obtain ⟨D, hD⟩ : ∃ D, w3.heap.size = D := ⟨_, rfl⟩
  obtain ⟨w4, hw4⟩ : ∃ w4, w3.alloc (.cells #[.int .u64 now, .slice a1 L1.length c1] 32) = w4 := ⟨_, rfl⟩
  have hb4 : Below w3.heap.size w3 w4 := by rw [← hw4]; exact (Below.refl _ _).alloc (Nat.le_refl _) _
  have hD4 : w4.heap[D]? = some (.cells #[.int .u64 now, .slice a1 L1.length c1] 32 (0, 0)) := by rw [← hw4, ← hD]; exact block_new _ _ _ rfl
  have hY4 := (hb4.block _ (lt_of_block ((hb1.block _ (lt_of_block HY.out)).trans HY.out))).trans ((hb1.block _ (lt_of_block HY.out)).trans HY.out)
  have hset2 := Lib.hid (rset_yes (hr1.below hb4) (Nat.le_trans hb1.size hb4.size) R1 HN.out (r := 1) HQ.out (by omega) never (Int.le_refl _))
  have HB4 := Lib.hid (HB.out.trans ((hb1.mono HB.out.size).trans (hb4.mono (Nat.le_trans HB.out.size hb1.size))))
  have HWS := Lib.hid (Nat.le_trans HB.out.size (Nat.le_trans hb1.size hb4.size))
  have HCD : Hid (C < D) := Lib.hid (by have := lt_of_block ((hb1.block _ (lt_of_block HY.out)).trans HY.out); omega)
  have HD4 := Lib.hid hD4
  have HY4 := Lib.hid hY4
  have HW4 := Lib.hid (And.intro hw4 hD)
  unfold rdv never at hset2
  clear hr1 R1 hb1 hb4 hD4 hY4 hw4 hD x0 x1 hset
  have x0 := cells_cell (o := 0) HD4.out rfl
  have x1 := cells_cell (o := 1) HD4.out rfl
  go_upto_region 2 with (fail)
  rw [HW4.out.1, HW4.out.2]
  go_wp2_with (go_at_call 12; fail)
  refine hset2.out.mono ?_
  rintro e w5 ⟨s2, L2, rfl, hr2, R2, hb5⟩
  obtain ⟨a2, c2, rfl⟩ := slice_form hr2
  have HD5 := Lib.hid ((hb5.block _ (lt_of_block HD4.out)).trans HD4.out)
  have HY5 := Lib.hid ((hb5.block _ (lt_of_block HY4.out)).trans HY4.out)
  have HR2 := Lib.hid hr2
  have HK2 : Hid (ROK (clear f q) L2) := Lib.hid R2
  have HB5 := Lib.hid (HB4.out.trans (hb5.mono HWS.out))
  have HDW : Hid (D < w4.heap.size) := Lib.hid (lt_of_block HD4.out)
  clear hr2 R2 hb5 x0 x1 hset2 HD4 HY4
  have f0 := cells_free HD5.out 0
  have f1 := cells_free HD5.out 1
  have e0 := cells_cell (o := 0) HD5.out rfl
  have e1 := cells_cell (o := 1) HD5.out rfl
  have hdl := lt_of_block HD5.out
  go_upto_region 5 with (fail)
  clear f0 f1 e0 e1 hdl
  obtain ⟨w6, hw6⟩ : ∃ w6, (w5.setCell ⟨D, 0, none⟩ (.int .u64 now)).setCell ⟨D, 1, none⟩ (.slice a2 L2.length c2) = w6 := ⟨_, rfl⟩
  have hf6 : Fr [D] w5 w6 := by rw [← hw6]; exact (fr_setCell w5 ⟨D, 0, none⟩ (.int .u64 now)).trans' (fr_setCell _ ⟨D, 1, none⟩ (.slice a2 L2.length c2))
  have hD6 : w6.heap[D]? = some (.cells #[.int .u64 now, .slice a2 L2.length c2] 32 (0, 0)) := by rw [← hw6]; exact set2 HD5.out (.int .u64 now) (.slice a2 L2.length c2)
  have hY6 := (hf6.block C (lt_of_block HY5.out) (by have := HCD.out; simp; omega)).trans HY5.out
  have hr6 := RowL.fr HR2.out hf6 (fun g hg hm => by have := (HR2.out.lt g hg).1; have := HDW.out; simp at hm; omega)
  have hf7 := (fr_setCell w6 ⟨C, 0, none⟩ (.int .u64 now)).trans' (fr_setCell _ ⟨C, 1, none⟩ (.slice a2 L2.length c2))
  have HC7 := Lib.hid (set2 hY6 (.int .u64 now) (.slice a2 L2.length c2))
  have HR7 := Lib.hid (RowL.fr hr6 hf7 (fun g hg hm => by have := (HR2.out.lt g hg).1; have := HDW.out; have := HCD.out; simp at hm; omega))
  have hb6 := hf6.below (B := w.heap.size) (fun g hm => by simp at hm; have := HC.out; have := HCD.out; omega) HB5.out.size
  have HB7 := Lib.hid ((HB5.out.trans hb6).trans (hf7.below (fun g hm => by simp at hm; have := HC.out; omega) (Nat.le_trans HB5.out.size hb6.size)))
  have HW6 := Lib.hid hw6
  have x0 := cells_cell (o := 0) hD6 rfl
  have x1 := cells_cell (o := 1) hD6 rfl
  have f0 := cells_free hY6 0
  have f1 := cells_free hY6 1
  have e0 := cells_cell (o := 0) hY6 rfl
  have e1 := cells_cell (o := 1) hY6 rfl
  have hcl := lt_of_block hY6
  clear hw6 hf6 hD6 hY6 hr6 hf7 hb6
  rw [HW6.out]
  go_wp2_with fail
  have hy2 := HC7.out
  refine bodyPost_ret (v := .tuple #[.agg #[.int .u64 now, .slice a2 L2.length c2], .int .i64 0]) (by simp [results, Tryz.results25, go_sem, cells_cell (o := 0) hy2 rfl, cells_cell (o := 1) hy2 rfl]) rfl ?_
  exact ⟨_, _, rfl, ownsRow_mono HR7.out HWS.out, HK2.out, HB7.out⟩

set_option maxRecDepth 100000 in
set_option maxHeartbeats 3200000 in
theorem rclear_no (h : RowL w base s L) (hb : base ≤ w.heap.size) {x : Int} (hk : okS x 0 = false) :
    Calls Tryz.prog 25 #[rdv now s, .int .i64 x] w fun e w' => e = .returned (.tuple #[rdv now s, .int .i64 2]) ∧ Below w.heap.size w w' := by
  obtain ⟨va, vc, rfl⟩ := slice_form h
  unfold rdv
  obtain ⟨W, hW⟩ : ∃ W, (w.alloc (.cells #[.int .u64 now, .slice va L.length vc] 32)).alloc (.cells #[.int .u64 0, .slice none 0 0] 32) = W := ⟨_, rfl⟩
  have hbW : Below w.heap.size w W := by rw [← hW]; exact ((Below.refl _ _).alloc (Nat.le_refl _) _).alloc (by simp) _
  have hX : W.heap[w.heap.size]? = some (.cells #[.int .u64 now, .slice va L.length vc] 32 (0, 0)) := by rw [← hW]; exact (((Below.refl _ _).alloc (Nat.le_refl _) _ : Below (w.alloc _).heap.size (w.alloc _) _).block _ (by simp)).trans (block_new _ _ _ rfl)
  have hY : W.heap[w.heap.size + 1]? = some (.cells #[.int .u64 0, .slice none 0 0] 32 (0, 0)) := by rw [← hW]; exact block_new _ _ _ (by simp)
  have x0 := cells_cell (o := 0) hX rfl
  have x1 := cells_cell (o := 1) hX rfl
  have hset := Lib.hid (rset_no (now := now) (h.below hbW) (Nat.le_trans hb hbW.size) hk never)
  have HB := Lib.hid hbW
  have HX := Lib.hid hX
  have HY := Lib.hid hY
  have HW := Lib.hid hW
  obtain ⟨C, hC⟩ : ∃ C, w.heap.size + 1 = C := ⟨_, rfl⟩
  obtain ⟨A, hA⟩ : ∃ A, w.heap.size = A := ⟨_, rfl⟩
  have HC := Lib.hid (And.intro hC hA)
  rw [hC] at HY
  rw [hA] at HX x0 x1
  unfold rdv never at hset
  clear h hW hbW hX hY hC hA hk
  go_enter Tryz.func25, Tryz.ntmps25
  go_upto_region 1 with (fail)
  rw [HW.out, HC.out.1, HC.out.2]
  clear HW
  go_wp2_with (go_at_call 12; fail)
  refine hset.out.mono ?_
  rintro e w3 ⟨rfl, hb1⟩
  obtain ⟨w4, hw4⟩ : ∃ w4, w3.alloc (.cells #[.int .u64 now, .slice va L.length vc] 32) = w4 := ⟨_, rfl⟩
  have hb4 : Below w3.heap.size w3 w4 := by rw [← hw4]; exact (Below.refl _ _).alloc (Nat.le_refl _) _
  have hb14 := hb1.trans (hb4.mono hb1.size)
  have hX4 := (hb14.block _ (lt_of_block HX.out)).trans HX.out
  have hY4 := (hb14.block _ (lt_of_block HY.out)).trans HY.out
  have hf7 := (fr_setCell w4 ⟨C, 0, none⟩ (.int .u64 now)).trans' (fr_setCell _ ⟨C, 1, none⟩ (.slice va L.length vc))
  have HC7 := Lib.hid (set2 hY4 (.int .u64 now) (.slice va L.length vc))
  have hb5 := HB.out.trans (hb14.mono HB.out.size)
  have HB7 := Lib.hid (hb5.trans (hf7.below (fun g hm => by simp at hm; have := HC.out.1; omega) hb5.size))
  have HW4 := Lib.hid hw4
  clear x0 x1
  have x0 := cells_cell (o := 0) hX4 rfl
  have x1 := cells_cell (o := 1) hX4 rfl
  have f0 := cells_free hY4 0
  have f1 := cells_free hY4 1
  have e0 := cells_cell (o := 0) hY4 rfl
  have e1 := cells_cell (o := 1) hY4 rfl
  have hcl := lt_of_block hY4
  clear hw4 hb4 hb14 hX4 hY4 hf7 hb5 hb1 hset
  go_upto_region 2 with (fail)
  rw [HW4.out]
  go_wp2_with fail
  have hy2 := HC7.out
  refine bodyPost_ret (v := .tuple #[.agg #[.int .u64 now, .slice va L.length vc], .int .i64 2]) (by simp [results, Tryz.results25, go_sem, cells_cell (o := 0) hy2 rfl, cells_cell (o := 1) hy2 rfl]) rfl ?_
  exact ⟨rfl, HB7.out⟩
end
end Go.Proofs.YtgkodleblkjhcaaGreatDoor
/- The reference: Min, Next. -/
namespace Go.Proofs.YtgkodleblkjhcaaGreatDoor
open Go.RowKit Go.Sort
set_option linter.unusedVariables false
set_option linter.unusedSimpArgs false

theorem foldl_min_le : ∀ (T : List Int) (a : Int), T.foldl min a ≤ a ∧ ∀ t ∈ T, T.foldl min a ≤ t
  | [], a => ⟨Int.le_refl _, fun t h => by simp at h⟩
  | x :: T, a => by
    obtain ⟨h1, h2⟩ := foldl_min_le T (min a x)
    refine ⟨by simp only [List.foldl_cons]; omega, fun t h => ?_⟩
    rcases List.mem_cons.1 h with rfl | h
    · simp only [List.foldl_cons]; omega
    · exact h2 t h
theorem foldl_min_mem : ∀ (T : List Int) (a : Int), T.foldl min a = a ∨ T.foldl min a ∈ T
  | [], a => .inl rfl
  | x :: T, a => by
    simp only [List.foldl_cons]
    rcases foldl_min_mem T (min a x) with h | h
    · by_cases hx : a ≤ x
      · left; rw [h]; omega
      · right; rw [h, show min a x = x by omega]; simp
    · exact .inr (List.mem_cons_of_mem _ h)
def TimR (w : World) (base : Nat) (v : Value) (T : List Int) : Prop := w.ownsRow base 23 1 v T.length (T.map fun t => .int .u64 t)
theorem TimR.below {w w' : World} {base : Nat} {v : Value} {T : List Int} (h : TimR w base v T) (hb : Below w.heap.size w w') : TimR w' base v T := (Fr.of_below hb []).row h (fun _ _ => by simp)
theorem TimR.at {w : World} {base : Nat} {v : Value} {T : List Int} (h : TimR w base v T) {k : Nat} {t : Int} (hk : T[k]? = some t) : ∃ g c, v = .slice (some ⟨g, 0, none⟩) T.length c ∧ w.cell? ⟨g, k, none⟩ = some (.int .u64 t) := by
  rcases h.2 with ⟨rfl, h0⟩ | ⟨g, cap, cur, rfl, hb, hg, hn, hc, hcs, htake⟩
  · have : T = [] := List.eq_nil_of_length_eq_zero h0
    subst this
    simp at hk
  · refine ⟨g, cap, rfl, cells_cell hg ?_⟩
    have h1 : (T.map fun t => Value.int .u64 t)[k]? = some (.int .u64 t) := by rw [List.getElem?_map, hk]; rfl
    rw [← htake, List.getElem?_take] at h1
    split at h1
    · simpa using h1
    · simp at h1
theorem TimR.form {w : World} {base : Nat} {v : Value} {T : List Int} (h : TimR w base v T) : ∃ a c, v = .slice a T.length c := by
  rcases h.2 with ⟨rfl, h0⟩ | ⟨g, cap, cur, rfl, _⟩
  · exact ⟨none, 0, by rw [h0]⟩
  · exact ⟨_, _, rfl⟩
theorem rmin_any {w : World} {base : Nat} {v : Value} {T : List Int} (h : TimR w base v T) (hl : T.length ≤ 256) :
    Calls Tryz.prog 46 #[v] w fun e w' => e = .returned (.int .u64 (T.foldl min never)) ∧ w = w' := by
  obtain ⟨va, vc, rfl⟩ := h.form
  have H := Lib.hid h
  have hDi : (T.length : Int) ≤ 256 := by omega
  clear h hl
  go_enter Tryz.func46, Tryz.ntmps46
  go_wp2_with fail
  go_loopw [3, 4] (fun o i wr => ∃ k : Nat, k ≤ T.length ∧ o = .int .u64 ((T.take k).foldl min never) ∧ i = .int .i64 k ∧ wr = w) (fun _ i _ => T.length - (intOf i).toNat)
  case atStart => exact ⟨0, Nat.zero_le _, rfl, rfl, rfl⟩
  case round =>
    obtain ⟨k, hk, rfl, rfl, rfl⟩ := hrel
    by_cases hlt : k < T.length
    · obtain ⟨x, hx⟩ : ∃ x, T[k]? = some x := ⟨_, List.getElem?_eq_getElem hlt⟩
      obtain ⟨g, c, h1, hc⟩ := H.out.at hx
      simp only [Value.slice.injEq, true_and] at h1
      obtain ⟨rfl, rfl⟩ := h1
      have hs : (T.take (k + 1)).foldl min never = min ((T.take k).foldl min never) x := by rw [take_snoc hx, List.foldl_append]; rfl
      have HS := Lib.hid hs
      obtain ⟨m, hm⟩ : ∃ m, (T.take k).foldl min never = m := ⟨_, rfl⟩
      rw [hm] at HS ⊢
      have hki : (k : Int) < (T.length : Int) := by omega
      have HLT := Lib.hid hlt
      clear hx hs hk hlt
      by_cases hlo : x < m
      · have d1 : decide (x < m) = true := by simpa using hlo
        have HM := Lib.hid (show x = min m x by omega)
        clear hlo hm
        go_wp2_with fail
        go_roundw
        case rel => exact ⟨k + 1, by have := HLT.out; omega, by rw [HS.out, ← HM.out], by go_num, by trivial⟩
        case measure => simp [intOf]; have := HLT.out; omega
      · have d1 : decide (x < m) = false := by simpa using hlo
        have HM := Lib.hid (show m = min m x by omega)
        clear hlo hm
        go_wp2_with fail
        go_roundw
        case rel => exact ⟨k + 1, by have := HLT.out; omega, by rw [HS.out, ← HM.out], by go_num, by trivial⟩
        case measure => simp [intOf]; have := HLT.out; omega
    · obtain rfl : k = T.length := by omega
      rw [List.take_length]
      go_wp2_with fail
      go_ret
      exact ⟨rfl, rfl⟩
theorem infoTime : (Tryz.prog.info? 23).map (fun i => (i.zero, i.size, i.bytes)) = some (some (.int .u64 0), 1, 8) := by kernel_rfl
/-- The times that have not passed. -/
def nowT (now : Int) (L : List (Int × Nat)) : List Int := (L.filter fun e => !decide (e.1 ≤ now)).map Prod.fst
theorem next_of {now : Int} {f : Nat → Int} {L : List (Int × Nat)} (R : ROK f L) (hle : ∀ p : Nat, p < 256 → f p ≤ never) : IsNext now f ((nowT now L).foldl min never) := by
  have hin : ∀ t, t ∈ nowT now L ↔ ∃ p : Nat, p < 256 ∧ t = f p ∧ now < f p ∧ f p ≠ never := fun t => by
    unfold nowT
    rw [List.mem_map]
    constructor
    · rintro ⟨x, hx, rfl⟩
      rw [List.mem_filter] at hx
      obtain ⟨a, b, c⟩ := (R.mem x).1 hx.1
      have := hx.2
      simp at this
      exact ⟨x.2, a, b, by omega, c⟩
    · rintro ⟨p, a, rfl, b, c⟩
      exact ⟨(f p, p), by rw [List.mem_filter]; exact ⟨(R.mem (f p, p)).2 ⟨a, rfl, c⟩, by simp; omega⟩, rfl⟩
  obtain ⟨h1, h2⟩ := foldl_min_le (nowT now L) never
  rcases foldl_min_mem (nowT now L) never with h | h
  · refine .inl ⟨h, fun p hp hn => ?_⟩
    refine Classical.byContradiction fun hc => ?_
    have := h2 _ ((hin (f p)).2 ⟨p, hp, rfl, hn, hc⟩)
    have := hle p hp
    omega
  · obtain ⟨p, a, b, c, d⟩ := (hin _).1 h
    refine .inr ⟨p, a, b, by omega, by have := hle p a; omega, fun q hq hn => ?_⟩
    by_cases hc : f q = never
    · omega
    · exact h2 _ ((hin (f q)).2 ⟨q, hq, rfl, hn, hc⟩)

section
variable {w : World} {base : Nat} {s : Value} {L : List (Int × Nat)} {f : Nat → Int} {now : Int}
set_option maxRecDepth 100000 in
set_option maxHeartbeats 3200000 in
theorem rnext_any (h : RowL w base s L) (hl : L.length ≤ 256) (hn : now < never) :
    Calls Tryz.prog 24 #[rdv now s] w fun e w' => e = .returned (.int .u64 ((nowT now L).foldl min never)) ∧ Below w.heap.size w w' := by
  obtain ⟨va, vc, rfl⟩ := slice_form h
  unfold rdv
  obtain ⟨W, hW⟩ : ∃ W, w.alloc (.cells #[.int .u64 now, .slice va L.length vc] 32) = W := ⟨_, rfl⟩
  have hbW : Below w.heap.size w W := by rw [← hW]; exact (Below.refl _ _).alloc (Nat.le_refl _) _
  have hX : W.heap[w.heap.size]? = some (.cells #[.int .u64 now, .slice va L.length vc] 32 (0, 0)) := by rw [← hW]; exact block_new _ _ _ rfl
  obtain ⟨it, hi0, hi1, hi2, hi3⟩ := info_parts infoTime
  have HP := Lib.hid (fun k w => rpast k hn w)
  have HB := Lib.hid hbW
  have HR := Lib.hid (h.below hbW)
  have HX := Lib.hid hX
  have HW := Lib.hid hW
  have hDi : (L.length : Int) ≤ 256 := by omega
  obtain ⟨A, hA⟩ : ∃ A, w.heap.size = A := ⟨_, rfl⟩
  have HA := Lib.hid hA
  rw [hA] at HX
  clear h hW hbW hX hn hA
  go_enter Tryz.func24, Tryz.ntmps24
  go_upto_region 1 with (fail)
  rw [HW.out, HA.out]
  go_wp2_with fail
  go_loopw [3, 4] (fun v i wr => ∃ k : Nat, k ≤ L.length ∧ i = .int .i64 k ∧ Below W.heap.size W wr ∧ TimR wr W.heap.size v (nowT now (L.take k))) (fun _ i _ => L.length - (intOf i).toNat)
  case atStart => exact ⟨0, Nat.zero_le _, rfl, Below.refl _ _, World.ownsRow_nil _ _ _ _⟩
  case round =>
    obtain ⟨k, hk, rfl, hbr, hrv⟩ := hrel
    have hxr := (hbr.block _ (lt_of_block HX.out)).trans HX.out
    have x0 := cells_cell (o := 0) hxr rfl
    have x1 := cells_cell (o := 1) hxr rfl
    by_cases hlt : k < L.length
    · obtain ⟨x, hx⟩ : ∃ x, L[k]? = some x := ⟨_, List.getElem?_eq_getElem hlt⟩
      have hrr := HR.out.below hbr
      obtain ⟨ga, c1, h1, _, _⟩ := row_some hrr (by omega)
      simp only [Value.slice.injEq, true_and] at h1
      obtain ⟨rfl, rfl⟩ := h1
      have hgl := (hrr.lt ga rfl).2
      obtain ⟨a0, a1, a2⟩ := hrr.cells k x hx
      obtain ⟨zk, hzk⟩ : ∃ zk, x.1 = zk := ⟨_, rfl⟩
      rw [hzk] at a2
      have hki : (k : Int) < (L.length : Int) := by omega
      have HLT := Lib.hid hlt
      have hsn : nowT now (L.take (k + 1)) = nowT now (L.take k) ++ if !decide (zk ≤ now) then [zk] else [] := by
        unfold nowT
        rw [filter_snoc _ hx, List.map_append, hzk]
        congr 1
        split <;> simp [hzk]
      have HSN := Lib.hid hsn
      have hlen2 : (nowT now (L.take k)).length ≤ 256 := by unfold nowT; rw [List.length_map]; have h1 := List.length_filter_le (fun e : Int × Nat => !decide (e.1 ≤ now)) (L.take k); have h2 := List.length_take_le' k L; omega
      have HLN := Lib.hid hlen2
      have HBR := Lib.hid hbr
      have HRV := Lib.hid hrv
      have HXR := Lib.hid hxr
      have hpz : ∀ b, decide (zk ≤ now) = b → Hid (∀ m, Calls Tryz.prog 34 #[.int .u64 zk, .int .u64 now] (wr.drewN m) fun e w' => e = .returned (.bool b) ∧ w' = wr.drewN m) := fun b hb => Lib.hid (fun m => by
        have := HP.out zk (wr.drewN m)
        rw [hb] at this
        exact this.mono fun e w' ⟨h1, h2⟩ => ⟨h1, h2.symm⟩)
      clear hx hrr hsn hlen2 hbr hrv hxr hk hlt hzk
      by_cases hp : zk ≤ now
      · have d1 : decide (zk ≤ now) = true := by simpa using hp
        have hpc := hpz _ d1
        clear hp hpz
        go_wp2_with fail
        go_quiet ((go_at_call 34; refine Calls.quiet_of_same (hpc.out _)))
        go_wp2_with fail
        have hb := (fr_drewN wr nq []).below (B := wr.heap.size) (fun _ hx => by simp at hx) (Nat.le_refl _)
        have HE := Lib.hid (And.intro (HBR.out.trans (hb.mono HBR.out.size)) (HRV.out.below hb))
        have hsn := HSN.out
        rw [d1] at hsn
        have HS2 := Lib.hid hsn
        clear hb hsn
        go_roundw
        case rel => exact ⟨k + 1, by have := HLT.out; omega, by go_num, HE.out.1, by rw [HS2.out]; simpa using HE.out.2⟩
        case measure => simp [intOf]; have := HLT.out; omega
      · have d1 : decide (zk ≤ now) = false := by simpa using hp
        have hpc := hpz _ d1
        clear hp hpz
        go_wp2_with fail
        go_quiet ((go_at_call 34; refine Calls.quiet_of_same (hpc.out _)))
        have hb := (fr_drewN wr nq []).below (B := wr.heap.size) (fun _ hx => by simp at hx) (Nat.le_refl _)
        obtain ⟨V, hV⟩ : ∃ V, wr.drewN nq = V := ⟨_, rfl⟩
        rw [hV] at hb ⊢
        have b2 := (hb.cell (p := ⟨ga, k * 3 + 2, none⟩) hgl).trans a2
        have b1 := (hb.cell (p := ⟨A, 1, none⟩) (lt_of_block HXR.out)).trans x1
        obtain ⟨oa, oc, hov⟩ := HRV.out.form
        obtain ⟨T, hT⟩ : ∃ T, nowT now (L.take k) = T := ⟨_, rfl⟩
        rw [hT] at HRV HLN HSN hov
        subst hov
        have HRVV := Lib.hid (HRV.out.below hb)
        have HBV := Lib.hid (HBR.out.trans (hb.mono HBR.out.size))
        have hb8 : Below V.heap.size V (V.alloc (.cells #[.int .u64 zk] 23)) := (Below.refl _ _).alloc (Nat.le_refl _) _
        have HR8 := Lib.hid (HRVV.out.below hb8)
        have HB8 := Lib.hid (HBV.out.trans (hb8.mono HBV.out.size))
        have hsn := HSN.out
        rw [d1] at hsn
        have HS2 := Lib.hid hsn
        clear hb hsn hb8 hT hV x0 x1 a0 a1 a2 hpc HRV HRVV HBV HSN
        go_wp2_with (at_builtin; refine wpList_append_row _ rfl _ _ 120 rfl 23 it (.int .u64 0) 1 8 Tryz.underlying120 hi0 hi1 hi2 hi3 rfl (by decide) W.heap.size (.slice oa T.length oc) T.length (T.map fun t => .int .u64 t) rfl HR8.out ?c0 ⟨V.heap.size, 0, none⟩ 1 1 [.int .u64 zk] rfl rfl ?c1 ?c2 (by decide) ?c3 ?c4 ?_)
        case c0 => exact HB8.out.size
        case c1 =>
          intro j u hu
          match j with
          | 0 => simp at hu; subst hu; exact cells_cell (block_new _ _ _ rfl) rfl
          | j + 1 => simp at hu
        case c2 => simp [Value.oneCell']
        case c3 => have := HLN.out; unfold maxLen; omega
        case c4 => have := HLN.out; omega
        intro v' w9 hown hf hnear
        have HE : Hid (Below W.heap.size W w9 ∧ TimR w9 W.heap.size v' (nowT now (L.take (k + 1)))) := Lib.hid (by
          refine ⟨HB8.out.trans (hf.below (fun g hg => (HR8.out.lt g (by simpa using hg)).1) HB8.out.size), ?_⟩
          rw [HS2.out]
          unfold TimR
          simp only [Bool.not_false, if_true, List.length_append, List.length_cons, List.length_nil, List.map_append, List.map_cons, List.map_nil]
          exact hown)
        clear hown hf hnear HR8 HB8 HS2
        go_wp2_with fail
        go_roundw
        case rel => exact ⟨k + 1, by have := HLT.out; omega, by go_num, HE.out.1, HE.out.2⟩
        case measure => simp [intOf]; have := HLT.out; omega
    · obtain rfl : k = L.length := by omega
      rw [List.take_length] at hrv
      have hmin := Lib.hid (rmin_any hrv (by unfold nowT; rw [List.length_map]; have h1 := List.length_filter_le (fun e : Int × Nat => !decide (e.1 ≤ now)) L; omega))
      have HF := Lib.hid (HB.out.trans (hbr.mono HB.out.size))
      obtain ⟨ra, rc, rfl⟩ := hrv.form
      clear hbr hrv hxr hlt hk
      go_wp2_with (go_at_call 46; fail)
      refine hmin.out.mono ?_
      rintro e w2 ⟨rfl, rfl⟩
      go_wp2_with fail
      go_ret
      exact ⟨rfl, HF.out⟩
end
end Go.Proofs.YtgkodleblkjhcaaGreatDoor
/- The reference: New, less. -/
namespace Go.Proofs.YtgkodleblkjhcaaGreatDoor
open Go.RowKit Go.Sort
set_option linter.unusedVariables false
set_option linter.unusedSimpArgs false

def lessB (a1 a2 a3 b1 b2 b3 : Int) : Bool := if a3 = b3 then (if a1 = b1 then decide (a2 < b2) else decide (a1 < b1)) else decide (a3 < b3)
theorem lessB_iff (x y : Int × Nat) : lessB ((x.2 / 2 : Nat) : Int) ((x.2 % 2 : Nat) : Int) x.1 ((y.2 / 2 : Nat) : Int) ((y.2 % 2 : Nat) : Int) y.1 = true ↔ ltL x y := by
  unfold lessB ltL
  by_cases h : x.1 = y.1
  · rw [if_pos h]
    split
    · rw [decide_eq_true_iff]; omega
    · rw [decide_eq_true_iff]; omega
  · rw [if_neg h]
    rw [decide_eq_true_iff]; omega
set_option maxRecDepth 100000 in
set_option maxHeartbeats 1600000 in
theorem rless_any (a1 a2 a3 b1 b2 b3 : Int) (w : World) : Calls Tryz.prog 42 #[.agg #[.int .i64 a1, .int .i64 a2, .int .u64 a3], .agg #[.int .i64 b1, .int .i64 b2, .int .u64 b3]] w fun e w' => e = .returned (.bool (lessB a1 a2 a3 b1 b2 b3)) ∧ Grn w w' := by
  have hg : Hid (Grn w ((w.alloc (.cells #[.int .i64 a1, .int .i64 a2, .int .u64 a3] 60)).alloc (.cells #[.int .i64 b1, .int .i64 b2, .int .u64 b3] 60))) := Lib.hid (((Grn.refl w).alloc _).alloc _)
  by_cases h3 : a3 = b3
  · by_cases h1 : a1 = b1
    · have e : Hid (lessB a1 a2 a3 b1 b2 b3 = decide (a2 < b2)) := Lib.hid (by unfold lessB; rw [if_pos h3, if_pos h1])
      have q3 : (a3 != b3) = false := by simp [h3]
      have q1 : (a1 != b1) = false := by simp [h1]
      clear h3 h1
      go_enter Tryz.func42, Tryz.ntmps42
      go_wp2_with fail
      go_ret
      exact ⟨by rw [e.out]; rfl, hg.out⟩
    · have e : Hid (lessB a1 a2 a3 b1 b2 b3 = decide (a1 < b1)) := Lib.hid (by unfold lessB; rw [if_pos h3, if_neg h1])
      have q3 : (a3 != b3) = false := by simp [h3]
      have q1 : (a1 != b1) = true := by simpa using h1
      clear h3 h1
      go_enter Tryz.func42, Tryz.ntmps42
      go_wp2_with fail
      go_ret
      exact ⟨by rw [e.out]; rfl, hg.out⟩
  · have e : Hid (lessB a1 a2 a3 b1 b2 b3 = decide (a3 < b3)) := Lib.hid (by unfold lessB; rw [if_neg h3])
    have q3 : (a3 != b3) = true := by simpa using h3
    clear h3
    go_enter Tryz.func42, Tryz.ntmps42
    go_wp2_with fail
    go_ret
    exact ⟨by rw [e.out]; rfl, hg.out⟩
theorem rnew_yes (w : World) (now : Int) (hn : now ≠ never) : Calls Tryz.prog 7 #[.int .u64 now] w fun e w' => e = .returned (.tuple #[rdv now (.slice none 0 0), .int .i64 0]) ∧ Below w.heap.size w w' := by
  have q : (now == 18446744073709551615) = false := by simpa [never] using hn
  have hb : Hid (Below w.heap.size w (w.alloc (.cells #[.int .u64 now, .slice none 0 0] 32))) := Lib.hid ((Below.refl _ _).alloc (Nat.le_refl _) _)
  unfold rdv
  clear hn
  go_enter Tryz.func7, Tryz.ntmps7
  go_wp2_with fail
  refine bodyPost_ret (v := .tuple #[.agg #[.int .u64 now, .slice none 0 0], .int .i64 0]) (by simp [results, Tryz.results7, go_sem]) rfl ?_
  exact ⟨rfl, hb.out⟩
theorem rnew_no (w : World) : Calls Tryz.prog 7 #[.int .u64 never] w fun e w' => e = .returned (.tuple #[rdv 0 (.slice none 0 0), .int .i64 2]) ∧ Below w.heap.size w w' := by
  have hb : Hid (Below w.heap.size w (w.alloc (.cells #[.int .u64 0, .slice none 0 0] 32))) := Lib.hid ((Below.refl _ _).alloc (Nat.le_refl _) _)
  unfold rdv never
  go_enter Tryz.func7, Tryz.ntmps7
  go_wp2_with fail
  refine bodyPost_ret (v := .tuple #[.agg #[.int .u64 0, .slice none 0 0], .int .i64 2]) (by simp [results, Tryz.results7, go_sem]) rfl ?_
  exact ⟨rfl, hb.out⟩
end Go.Proofs.YtgkodleblkjhcaaGreatDoor
/- A lapse put in at its place: lists, rows. -/
namespace Go.Proofs.YtgkodleblkjhcaaGreatDoor
open Go.RowKit Go.Sort
set_option linter.unusedVariables false
set_option linter.unusedSimpArgs false

theorem ins_ok {O : List (Int × Nat)} (hO : O.Pairwise ltL) {x : Int × Nat} (hx : x ∉ O) {j : Nat} (hlo : ∀ y ∈ O.take j, ltL y x) (hhi : ∀ y, O[j]? = some y → ¬ ltL y x) : (O.take j ++ x :: O.drop j).Pairwise ltL := by
  have hs := hO
  rw [← List.take_append_drop j O] at hs
  obtain ⟨h1, h2, h3⟩ := List.pairwise_append.1 hs
  refine List.pairwise_append.2 ⟨h1, List.pairwise_cons.2 ⟨fun y hy => ?_, h2⟩, fun a ha b hb => ?_⟩
  · cases hd : O.drop j with
    | nil => rw [hd] at hy; simp at hy
    | cons z r =>
      have hz : O[j]? = some z := by
        have : (O.drop j)[0]? = some z := by rw [hd]; rfl
        simpa using this
      have hzO : z ∈ O := List.mem_of_getElem? hz
      have hxz : ltL x z := by
        rcases ltL_tri x z with h | h | h
        · exact h
        · exact absurd (h ▸ hzO) hx
        · exact absurd h (hhi z hz)
      rw [hd] at hy h2
      rcases List.mem_cons.1 hy with rfl | hy
      · exact hxz
      · exact ltL_trans hxz ((List.pairwise_cons.1 h2).1 y hy)
  · rcases List.mem_cons.1 hb with rfl | hb
    · exact hlo a ha
    · exact h3 a ha b hb
theorem flat_set : ∀ (M : List (Int × Nat)) (j : Nat) (x : Int × Nat), j < M.length →
    (((M.flatMap encL).set (j * 3) (.int .i64 ((x.2 / 2 : Nat) : Int))).set (j * 3 + 1) (.int .i64 ((x.2 % 2 : Nat) : Int))).set (j * 3 + 2) (.int .u64 x.1) = (M.set j x).flatMap encL
  | [], j, x, h => by simp at h
  | y :: M, 0, x, h => rfl
  | y :: M, j + 1, x, h => by
    have ih := flat_set M j x (by simpa using h)
    rw [List.set_cons_succ, List.flatMap_cons, List.flatMap_cons, ← ih]
    rw [show (j + 1) * 3 = j * 3 + 3 by omega]
    rfl
theorem RowL.put {w : World} {base g n cap : Nat} {M : List (Int × Nat)} (h : RowL w base (.slice (some ⟨g, 0, none⟩) n cap) M) {j : Nat} (hj : j < M.length) (x : Int × Nat) :
    RowL (((w.setCell ⟨g, j * 3, none⟩ (.int .i64 ((x.2 / 2 : Nat) : Int))).setCell ⟨g, j * 3 + 1, none⟩ (.int .i64 ((x.2 % 2 : Nat) : Int))).setCell ⟨g, j * 3 + 2, none⟩ (.int .u64 x.1)) base (.slice (some ⟨g, 0, none⟩) n cap) (M.set j x) := by
  rcases h.2 with ⟨h', _⟩ | ⟨g', cap', cur, hv, hb, hg, hn, hc, hcs, htake⟩
  · simp at h'
  · simp at hv
    obtain ⟨rfl, rfl, rfl⟩ := hv
    refine ⟨by rw [flat_len encL3], .inr ⟨g, cap, _, by rw [List.length_set], hb, cells_set (cells_set (cells_set hg _ _) _ _) _ _, by rw [List.length_set]; exact hn, hc, by simpa using hcs, ?_⟩⟩
    have hs := flat_set M j x hj
    rw [← htake] at hs
    rw [← hs]
    simp only [Array.toList_setIfInBounds, List.length_set]
    rw [List.take_set, List.take_set, List.take_set]
theorem RowL.splice {w : World} {base g n cap : Nat} {M M' : List (Int × Nat)} (h : RowL w base (.slice (some ⟨g, 0, none⟩) n cap) M) (hl : M'.length = M.length) {A B C cs : List Value}
    (e : M.flatMap encL = A ++ B ++ C) (e' : M'.flatMap encL = A ++ cs ++ C) (hcs : cs.length = B.length) :
    ∃ cur, w.heap[g]? = some (.cells cur 60 (0, 0)) ∧ A.length + cs.length ≤ cur.size ∧ RowL (w.setRow g (cur.toList.take A.length ++ cs ++ cur.toList.drop (A.length + cs.length)).toArray) base (.slice (some ⟨g, 0, none⟩) n cap) M' := by
  rcases h.2 with ⟨h', _⟩ | ⟨g', cap', cur, hv, hb, hg, hn, hc, hsz, htake⟩
  · simp at h'
  · simp at hv
    obtain ⟨rfl, rfl, rfl⟩ := hv
    have hr : cur.toList = A ++ B ++ C ++ cur.toList.drop (M.length * 3) := by
      rw [← e, ← htake, List.take_append_drop]
    obtain ⟨R, hR⟩ : ∃ R, cur.toList.drop (M.length * 3) = R := ⟨_, rfl⟩
    rw [hR] at hr
    have hlen : A.length + cs.length ≤ cur.size := by
      have := congrArg List.length hr
      simp at this
      omega
    have h1 : cur.toList.take A.length = A := by rw [hr]; simp
    have h2 : cur.toList.drop (A.length + cs.length) = C ++ R := by rw [hr, hcs, ← List.length_append]; simp
    refine ⟨cur, hg, hlen, by rw [flat_len encL3], .inr ⟨g, cap, _, by rw [hl], hb, setRow_heap w g _ _ _ _ hg, by rw [hl]; exact hn, hc, ?_, ?_⟩⟩
    · rw [h1, h2]
      have := congrArg List.length hr
      simp at this ⊢
      omega
    · rw [h1, h2]
      have hf : (A ++ cs ++ C).length = M'.length * 3 := by rw [← e', flat_len encL3]
      simp only [List.toList_toArray]
      rw [← List.append_assoc, e', ← hf, List.take_left]
end Go.Proofs.YtgkodleblkjhcaaGreatDoor
/- The reference: Advance. -/
namespace Go.Proofs.YtgkodleblkjhcaaGreatDoor
open Go.RowKit Go.Sort
set_option linter.unusedVariables false
set_option linter.unusedSimpArgs false

theorem run_copy_row3 {P : Program} (w : World) (dT sT ty elem : TypeId) (g o dLen dCap : Nat) (a : Addr) (sLen sCap : Nat) (cur : Array Value) (t : TypeId) (cs : List Value)
    (hu : P.underlying dT = some (.slice elem)) (hs : (P.info? elem).map (·.size) = some 3)
    (hg : w.heap[g]? = some (.cells cur t (0, 0))) (hn : cs.length = Nat.min sLen dLen * 3)
    (hsrc : ∀ j v, cs[j]? = some v → w.cell? (a.add j) = some v) (hfit : o + cs.length ≤ cur.size) (h1 : ∀ v ∈ cs, v.oneCell' = true) :
    (Builtin.copy_ #[dT, sT] ty #[.slice (some ⟨g, o, none⟩) dLen dCap, .slice (some a) sLen sCap]).run P w =
      .ok (goInt (Nat.min sLen dLen)) (w.setRow g (cur.toList.take o ++ cs ++ cur.toList.drop (o + cs.length)).toArray) := by
  have hl := run_loadCells_list (P := P) w a cs hsrc
  have hst := run_storeCells_at P g o t cs 0 cur w hg (by simpa using hfit) h1
  cases hq : P.info? elem with
  | none => simp [hq] at hs
  | some i =>
    have hi : i.size = 3 := by simpa [hq] using hs
    simp [Builtin.copy_, run_underlying hu, Builtin.lenOf, Builtin.firstCells, sizeOf, typeInfo, hq, hi, ← hn, hl, hst]

theorem wpList_copy3 {w : World} {ops : Array Oper} {rest : List Oper} {o : Oper} {a : Act} {Q : Exit → Act → World → Prop} (hgd : o.guard = none) (d s : Operand)
    (ho : o.op = .call { callee := .builtin .copy, args := #[d, s], argTypes := #[30, 30] }) {g off dLen dCap sLen sCap : Nat} {ad : Addr} (hd : a.eval d = .slice (some ⟨g, off, none⟩) dLen dCap) (hs : a.eval s = .slice (some ad) sLen sCap)
    {cur : Array Value} (hg : w.heap[g]? = some (.cells cur 60 (0, 0))) {cs : List Value} (hn : cs.length = Nat.min sLen dLen * 3)
    (hsrc : ∀ j v, cs[j]? = some v → w.cell? (ad.add j) = some v) (hfit : off + cs.length ≤ cur.size) (h1 : ∀ v ∈ cs, v.oneCell' = true)
    (h : wpList Tryz.prog ops Q rest (a.put o.dst (goInt (Nat.min sLen dLen))) (w.setRow g (cur.toList.take off ++ cs ++ cur.toList.drop (off + cs.length)).toArray)) : wpList Tryz.prog ops Q (o :: rest) a w := by
  have hsz : (Tryz.prog.info? 60).map (·.size) = some 3 := by kernel_rfl
  have hrun := run_copy_row3 w 30 30 o.type 60 g off dLen dCap ad sLen sCap cur 60 cs Tryz.underlying30 hsz hg hn hsrc hfit h1
  refine wpList_plain hgd fun K hK => ?_
  unfold Oper.wp
  simp [execOp, ho, resolve, invoke, builtin, hd, hs, hrun, Result.andThen]
  rw [List.append_assoc] at h
  exact hK _ _ h

theorem flat_oneL (M : List (Int × Nat)) : ∀ v ∈ M.flatMap encL, v.oneCell' = true := fun u hu => by
  obtain ⟨x, _, hx⟩ := List.mem_flatMap.1 hu
  simp only [encL, List.mem_cons, List.not_mem_nil, or_false] at hx
  rcases hx with rfl | rfl | rfl <;> rfl
theorem RowL.shift {w : World} {base g n cap : Nat} {O : List (Int × Nat)} {b : Int × Nat} {j off : Nat} (h : RowL w base (.slice (some ⟨g, 0, none⟩) n cap) (O ++ [b])) (hj : j ≤ O.length) (ho : off = (j + 1) * 3 ∨ (off = 0 ∧ j = O.length)) :
    ∃ cur, w.heap[g]? = some (.cells cur 60 (0, 0)) ∧ off + ((O.drop j).flatMap encL).length ≤ cur.size ∧ RowL (w.setRow g (cur.toList.take off ++ (O.drop j).flatMap encL ++ cur.toList.drop (off + ((O.drop j).flatMap encL).length)).toArray) base (.slice (some ⟨g, 0, none⟩) n cap) ((O ++ [b]).take (j + 1) ++ O.drop j) := by
  rcases ho with rfl | ⟨rfl, hjo⟩
  · have := RowL.splice (M' := (O ++ [b]).take (j + 1) ++ O.drop j) (A := ((O ++ [b]).take (j + 1)).flatMap encL) (B := ((O ++ [b]).drop (j + 1)).flatMap encL) (C := []) (cs := (O.drop j).flatMap encL) h (by simp; omega) (by rw [List.append_nil, ← List.flatMap_append, List.take_append_drop]) (by rw [List.append_nil, List.flatMap_append]) (by rw [flat_len encL3, flat_len encL3]; simp)
    rwa [flat_len encL3 ((O ++ [b]).take (j + 1)), show ((O ++ [b]).take (j + 1)).length = j + 1 by simp; omega] at this
  · have hd : O.drop j = [] := by rw [hjo]; simp
    have := RowL.splice (M' := (O ++ [b]).take (j + 1) ++ O.drop j) (A := []) (B := []) (C := (O ++ [b]).flatMap encL) (cs := (O.drop j).flatMap encL) h (by simp; omega) (by simp) (by rw [hd, hjo, List.take_of_length_le (by simp)]; simp) (by rw [hd]; rfl)
    simpa using this
theorem shift_get {O : List (Int × Nat)} {b : Int × Nat} {j : Nat} (hj : j ≤ O.length) : ∃ z, ((O ++ [b]).take (j + 1) ++ O.drop j)[j]? = some z := ⟨_, List.getElem?_eq_getElem (by simp; omega)⟩
theorem shift_set {O : List (Int × Nat)} {b x : Int × Nat} {j : Nat} (hj : j ≤ O.length) : ((O ++ [b]).take (j + 1) ++ O.drop j).set j x = O.take j ++ x :: O.drop j := by
  have h1 : ((O ++ [b]).take (j + 1)).length = j + 1 := by simp; omega
  obtain ⟨z, hz⟩ : ∃ z, (O ++ [b])[j]? = some z := ⟨_, List.getElem?_eq_getElem (by simp; omega)⟩
  rw [take_snoc hz]
  rw [List.take_append_of_le_length hj, List.append_assoc]
  rw [List.set_append_right _ _ (by simp; omega)]
  congr 1
  rw [List.length_take, Nat.min_eq_left hj, Nat.sub_self]
  rfl
theorem shift_src {w : World} {base g n cap : Nat} {O : List (Int × Nat)} {b : Int × Nat} {j : Nat} (h : RowL w base (.slice (some ⟨g, 0, none⟩) n cap) (O ++ [b])) (hj : j ≤ O.length) : ∀ i v, ((O.drop j).flatMap encL)[i]? = some v → w.cell? ((⟨g, j * 3, none⟩ : Addr).add i) = some v := fun i v hv => by
  have hn : n = (O ++ [b]).length := by
    rcases h.2 with ⟨h', _⟩ | ⟨_, _, _, h', _⟩
    · simp at h'
    · simp only [Value.slice.injEq] at h'
      exact h'.2.1
  subst hn
  have hr := row_cells h
  have e0 : O.flatMap encL = (O.take j).flatMap encL ++ (O.drop j).flatMap encL := by rw [← List.flatMap_append, List.take_append_drop]
  have e : (O ++ [b]).flatMap encL = (O.take j).flatMap encL ++ ((O.drop j).flatMap encL ++ encL b) := by
    rw [List.flatMap_append, e0, List.append_assoc]
    simp
  have := hr (j * 3 + i) v (by
    rw [e, List.getElem?_append_right (by rw [flat_len encL3]; simp; omega), flat_len encL3, List.length_take, Nat.min_eq_left hj, Nat.add_sub_cancel_left]
    rw [List.getElem?_append_left (by exact (List.getElem?_eq_some_iff.1 hv).1)]
    exact hv)
  rw [Go.WideShapes.add_plain] at this ⊢
  simpa using this

section
variable {w : World} {base : Nat} {s : Value} {L : List (Int × Nat)} {f : Nat → Int} {now : Int}
set_option maxRecDepth 100000 in
theorem radv_never (h : RowL w base s L) : Calls Tryz.prog 14 #[rdv now s, .int .u64 never] w fun e w' => e = .returned (.tuple #[rdv now s, .slice none 0 0, .int .i64 2]) ∧ Below w.heap.size w w' := by
  obtain ⟨va, vc, rfl⟩ := slice_form h
  unfold rdv never
  have hb : Hid (Below w.heap.size w ((w.alloc (.cells #[.int .u64 now, .slice va L.length vc] 32)).alloc (.cells #[.int .u64 now, .slice va L.length vc] 32))) := Lib.hid (((Below.refl _ _).alloc (Nat.le_refl _) _).alloc (by simp) _)
  clear h
  go_enter Tryz.func14, Tryz.ntmps14
  go_wp2_with fail
  refine bodyPost_ret (v := .tuple #[.agg #[.int .u64 now, .slice va L.length vc], .slice none 0 0, .int .i64 2]) (by simp [results, Tryz.results14, go_sem]) rfl ?_
  exact ⟨rfl, hb.out⟩
set_option maxRecDepth 100000 in
theorem radv_early (h : RowL w base s L) {tt : Int} (hn : tt ≠ never) (hl : tt < now) : Calls Tryz.prog 14 #[rdv now s, .int .u64 tt] w fun e w' => e = .returned (.tuple #[rdv now s, .slice none 0 0, .int .i64 3]) ∧ Below w.heap.size w w' := by
  obtain ⟨va, vc, rfl⟩ := slice_form h
  unfold rdv
  have q : (tt == 18446744073709551615) = false := by simpa [never] using hn
  have d1 : decide (tt < now) = true := by simpa using hl
  have hb : Hid (Below w.heap.size w ((w.alloc (.cells #[.int .u64 now, .slice va L.length vc] 32)).alloc (.cells #[.int .u64 now, .slice va L.length vc] 32))) := Lib.hid (((Below.refl _ _).alloc (Nat.le_refl _) _).alloc (by simp) _)
  clear h hn hl
  go_enter Tryz.func14, Tryz.ntmps14
  go_wp2_with fail
  refine bodyPost_ret (v := .tuple #[.agg #[.int .u64 now, .slice va L.length vc], .slice none 0 0, .int .i64 3]) (by simp [results, Tryz.results14, go_sem]) rfl ?_
  exact ⟨rfl, hb.out⟩

/-- What Advance keeps: the lapses so far, in order. -/
structure InsO (now tt : Int) (L O : List (Int × Nat)) (k : Nat) : Prop where
  ord : O.Pairwise ltL
  mem : ∀ x, x ∈ O ↔ (x ∈ L.take k ∧ now < x.1 ∧ x.1 ≤ tt)
  len : O.length ≤ k
theorem InsO.skip {now tt : Int} {L O : List (Int × Nat)} {k : Nat} {x : Int × Nat} (h : InsO now tt L O k) (hx : L[k]? = some x) (hn : ¬ (now < x.1 ∧ x.1 ≤ tt)) : InsO now tt L O (k + 1) :=
  ⟨h.ord, fun y => by
    rw [h.mem, take_snoc hx, List.mem_append, List.mem_singleton]
    constructor
    · rintro ⟨a, b⟩; exact ⟨.inl a, b⟩
    · rintro ⟨a | rfl, b⟩
      · exact ⟨a, b⟩
      · exact absurd b hn, by have := h.len; omega⟩
theorem InsO.ins {now tt : Int} {L O : List (Int × Nat)} {k : Nat} {x : Int × Nat} (h : InsO now tt L O k) (hnd : L.Nodup) (hx : L[k]? = some x) (hy : now < x.1 ∧ x.1 ≤ tt) {j : Nat} (hlo : ∀ y ∈ O.take j, ltL y x) (hhi : ∀ y, O[j]? = some y → ¬ ltL y x) : InsO now tt L (O.take j ++ x :: O.drop j) (k + 1) := by
  have hnx : x ∉ O := fun hm => by
    have h1 := ((h.mem x).1 hm).1
    have h2 : (L.take (k + 1)).Nodup := hnd.sublist (List.take_sublist _ _)
    rw [take_snoc hx] at h2
    exact (List.nodup_append.1 h2).2.2 x h1 x (by simp) rfl
  refine ⟨ins_ok h.ord hnx hlo hhi, fun y => ?_, ?_⟩
  · have hp : y ∈ O.take j ++ x :: O.drop j ↔ (y = x ∨ y ∈ O) := by
      have h1 : y ∈ O ↔ (y ∈ O.take j ∨ y ∈ O.drop j) := by rw [← List.mem_append, List.take_append_drop]
      rw [List.mem_append, List.mem_cons, h1]
      constructor
      · rintro (a | a | a)
        · exact .inr (.inl a)
        · exact .inl a
        · exact .inr (.inr a)
      · rintro (a | a | a)
        · exact .inr (.inl a)
        · exact .inl a
        · exact .inr (.inr a)
    rw [hp, h.mem, take_snoc hx, List.mem_append, List.mem_singleton]
    constructor
    · rintro (rfl | ⟨a, b⟩)
      · exact ⟨.inr rfl, hy⟩
      · exact ⟨.inl a, b⟩
    · rintro ⟨a | rfl, b⟩
      · exact .inr ⟨a, b⟩
      · exact .inl rfl
  · have h1 := h.len
    have h2 : (O.take j ++ x :: O.drop j).length = O.length + 1 := by
      have := congrArg List.length (List.take_append_drop j O)
      simp only [List.length_append, List.length_cons] at this ⊢
      omega
    omega
end
end Go.Proofs.YtgkodleblkjhcaaGreatDoor
/- The reference: Advance. -/
namespace Go.Proofs.YtgkodleblkjhcaaGreatDoor
open Go.RowKit Go.Sort
set_option linter.unusedVariables false
set_option linter.unusedSimpArgs false

section
variable {w : World} {base : Nat} {s : Value} {L : List (Int × Nat)} {f : Nat → Int} {now : Int}
set_option maxRecDepth 100000 in
set_option maxHeartbeats 6400000 in
theorem radv_yes (h : RowL w base s L) (hnd : L.Nodup) (hl : L.length ≤ 256) {tt : Int} (hn : now < never) (ht : tt < never) (hle : now ≤ tt) :
    Calls Tryz.prog 14 #[rdv now s, .int .u64 tt] w fun e w' => ∃ v O, e = .returned (.tuple #[rdv tt s, v, .int .i64 0]) ∧ RowL w' w.heap.size v O ∧ InsO now tt L O L.length ∧ Below w.heap.size w w' := by
  obtain ⟨va, vc, rfl⟩ := slice_form h
  unfold rdv
  have q : (tt == 18446744073709551615) = false := by have : tt ≠ never := by omega
                                                      simpa [never] using this
  have d1 : decide (tt < now) = false := by simpa using hle
  obtain ⟨W, hW⟩ : ∃ W, (w.alloc (.cells #[.int .u64 now, .slice va L.length vc] 32)).alloc (.cells #[.int .u64 0, .slice none 0 0] 32) = W := ⟨_, rfl⟩
  have hbW : Below w.heap.size w W := by rw [← hW]; exact ((Below.refl _ _).alloc (Nat.le_refl _) _).alloc (by simp) _
  have hX : W.heap[w.heap.size]? = some (.cells #[.int .u64 now, .slice va L.length vc] 32 (0, 0)) := by rw [← hW]; exact (((Below.refl _ _).alloc (Nat.le_refl _) _ : Below (w.alloc _).heap.size (w.alloc _) _).block _ (by simp)).trans (block_new _ _ _ rfl)
  have hY : W.heap[w.heap.size + 1]? = some (.cells #[.int .u64 0, .slice none 0 0] 32 (0, 0)) := by rw [← hW]; exact block_new _ _ _ (by simp)
  have HP := Lib.hid (fun k w => rpast k hn w)
  have HQ := Lib.hid (fun k w => rpast k ht w)
  have HLS := Lib.hid rless_any
  have mixed : Tryz.prog.follows .mixedOrders = true := by kernel_rfl
  have HB := Lib.hid hbW
  have HR := Lib.hid (h.below hbW)
  have HW := Lib.hid hW
  have HND := Lib.hid hnd
  have hDi : (L.length : Int) ≤ 256 := by omega
  have HL := Lib.hid hl
  have x0' := cells_cell (o := 0) hX rfl
  obtain ⟨A, hA⟩ : ∃ A, w.heap.size = A := ⟨_, rfl⟩
  obtain ⟨C, hC⟩ : ∃ C, w.heap.size + 1 = C := ⟨_, rfl⟩
  have HA := Lib.hid (And.intro hA hC)
  rw [hA] at hX x0'
  rw [hC] at hY
  have HX := Lib.hid hX
  have HY := Lib.hid hY
  clear h hW hbW hX hY hn ht hle hA hC hnd hl
  go_enter Tryz.func14, Tryz.ntmps14
  go_upto_region 1 with (fail)
  rw [HW.out, HA.out.2, HA.out.1]
  go_wp2_with fail
  clear x0'
  go_loopw [7, 8, 9] (fun v i at' wr => ∃ (k : Nat) (O : List (Int × Nat)), k ≤ L.length ∧ i = .int .i64 k ∧ Below W.heap.size W wr ∧ RowL wr W.heap.size v O ∧ InsO now tt L O k) (fun _ i _ _ => L.length - (intOf i).toNat)
  case atStart => exact ⟨0, [], Nat.zero_le _, rfl, Below.refl _ _, World.ownsRow_nil _ _ _ _, ⟨List.Pairwise.nil, fun x => by simp, Nat.le_refl _⟩⟩
  case round =>
    obtain ⟨k, O, hk, rfl, hbr, hrv, hio⟩ := hrel
    have hxr := (hbr.block _ (lt_of_block HX.out)).trans HX.out
    have x0 := cells_cell (o := 0) hxr rfl
    have x1 := cells_cell (o := 1) hxr rfl
    by_cases hlt : k < L.length
    · obtain ⟨x, hx⟩ : ∃ x, L[k]? = some x := ⟨_, List.getElem?_eq_getElem hlt⟩
      have hrr := HR.out.below hbr
      obtain ⟨ga, c1, h1, _, _⟩ := row_some hrr (by omega)
      simp only [Value.slice.injEq, true_and] at h1
      obtain ⟨rfl, rfl⟩ := h1
      have hgl := (HR.out.lt ga rfl).2
      have hx3 := hrr.cells k x hx
      obtain ⟨pq, hpq⟩ : ∃ pq, ((x.2 / 2 : Nat) : Int) = pq := ⟨_, rfl⟩
      obtain ⟨pr, hpr⟩ : ∃ pr, ((x.2 % 2 : Nat) : Int) = pr := ⟨_, rfl⟩
      obtain ⟨zk, hzk⟩ : ∃ zk, x.1 = zk := ⟨_, rfl⟩
      rw [hpq, hpr, hzk] at hx3
      obtain ⟨a0, a1, a2⟩ := hx3
      have hki : (k : Int) < (L.length : Int) := by omega
      have HLT := Lib.hid hlt
      have HXL := Lib.hid hx
      have HPP := Lib.hid (And.intro hpq (And.intro hpr hzk))
      have HBR := Lib.hid hbr
      have HRV := Lib.hid hrv
      have HXR := Lib.hid hxr
      have HIO := Lib.hid hio
      have hpz : ∀ b, decide (zk ≤ now) = b → Hid (∀ m, Calls Tryz.prog 34 #[.int .u64 zk, .int .u64 now] (wr.drewN m) fun e w' => e = .returned (.bool b) ∧ w' = wr.drewN m) := fun b hb => Lib.hid (fun m => by
        have := HP.out zk (wr.drewN m)
        rw [hb] at this
        exact this.mono fun e w' ⟨h1, h2⟩ => ⟨h1, h2.symm⟩)
      have hqz : ∀ b, decide (zk ≤ tt) = b → Hid (∀ m, Calls Tryz.prog 34 #[.int .u64 zk, .int .u64 tt] (wr.drewN m) fun e w' => e = .returned (.bool b) ∧ w' = wr.drewN m) := fun b hb => Lib.hid (fun m => by
        have := HQ.out zk (wr.drewN m)
        rw [hb] at this
        exact this.mono fun e w' ⟨h1, h2⟩ => ⟨h1, h2.symm⟩)
      clear hx hrr hpq hpr hzk hbr hrv hxr hio hk hlt
      by_cases hp : zk ≤ now
      · have e1 : decide (zk ≤ now) = true := by simpa using hp
        have hpc := hpz _ e1
        have HSK := Lib.hid (HIO.out.skip HXL.out (by have := HPP.out.2.2; omega))
        clear hp hpz hqz HIO HXL
        go_wp2_with fail
        go_quiet ((go_at_call 34; refine Calls.quiet_of_same (hpc.out _)))
        go_wp2_with fail
        have hb := (fr_drewN wr nq []).below (B := wr.heap.size) (fun _ hx => by simp at hx) (Nat.le_refl _)
        have HE := Lib.hid (And.intro (HBR.out.trans (hb.mono HBR.out.size)) (HRV.out.below hb))
        clear hb
        go_roundw
        case rel => exact ⟨k + 1, O, by have := HLT.out; omega, by go_num, HE.out.1, HE.out.2, HSK.out⟩
        case measure => simp [intOf]; have := HLT.out; omega
      · have e1 : decide (zk ≤ now) = false := by simpa using hp
        have hpc := hpz _ e1
        by_cases hp2 : zk ≤ tt
        · have e2 : decide (zk ≤ tt) = true := by simpa using hp2
          have hqc := hqz _ e2
          have HIN := Lib.hid (show now < x.1 ∧ x.1 ≤ tt by have := HPP.out.2.2; omega)
          clear hp hp2 hpz hqz
          go_wp2_with fail
          go_quiet ((first | (go_at_call 34; first | (with_reducible refine Calls.quiet_of_same (hpc.out _)) | (with_reducible refine Calls.quiet_of_same (hqc.out _)))))
          go_wp2_with fail
          obtain ⟨wb, hwb⟩ : ∃ wb, wr.drewN nq = wb := ⟨_, rfl⟩
          have hb0 : Below wr.heap.size wr wb := by rw [← hwb]; exact (fr_drewN wr nq []).below (fun _ hx => by simp at hx) (Nat.le_refl _)
          rw [hwb]
          have hon := HIO.out.len
          have hkL := HLT.out
          have hLL := HL.out
          obtain ⟨oa, oc, hov⟩ := slice_form HRV.out
          obtain ⟨on, hone⟩ : ∃ on, O.length = on := ⟨_, rfl⟩
          rw [hone] at hov
          subst hov
          have HON := Lib.hid hone
          have hoi : (on : Int) ≤ 256 := by omega
          have HB0 := Lib.hid hb0
          have HRV0 := Lib.hid (HRV.out.below hb0)
          have HXR0 := Lib.hid ((hb0.block _ (lt_of_block HXR.out)).trans HXR.out)
          have HL3 : Hid (wb.cell? ⟨ga, k * 3, none⟩ = some (.int .i64 pq) ∧ wb.cell? ⟨ga, k * 3 + 1, none⟩ = some (.int .i64 pr) ∧ wb.cell? ⟨ga, k * 3 + 2, none⟩ = some (.int .u64 zk) ∧ ga < wb.heap.size) := Lib.hid (by
            have hg : ga < wr.heap.size := Nat.lt_of_lt_of_le hgl HBR.out.size
            exact ⟨(hb0.cell (p := ⟨ga, k * 3, none⟩) hg).trans a0, (hb0.cell (p := ⟨ga, k * 3 + 1, none⟩) hg).trans a1, (hb0.cell (p := ⟨ga, k * 3 + 2, none⟩) hg).trans a2, Nat.lt_of_lt_of_le hg hb0.size⟩)
          have HBR0 := Lib.hid (HBR.out.trans (hb0.mono HBR.out.size))
          clear hb0 hwb hon hkL hLL hone HRV HXR HBR HB0 x0 x1 a0 a1 a2 e1 e2 hpc hqc HP HQ
          go_loopw [9] (fun at' wi => ∃ j : Nat, j ≤ on ∧ at' = .int .i64 j ∧ Below wb.heap.size wb wi ∧ ∀ y ∈ O.take j, ltL y x) (fun at' _ => on - (intOf at').toNat)
          case atStart => exact ⟨0, Nat.zero_le _, rfl, Below.refl _ _, fun y hy => by simp at hy⟩
          case round =>
            obtain ⟨j, hj, rfl, hbi, hlo⟩ := hrel
            by_cases hjn : j < on
            · obtain ⟨y, hy⟩ : ∃ y, O[j]? = some y := ⟨_, List.getElem?_eq_getElem (by have := HON.out; omega)⟩
              have hro := HRV0.out.below hbi
              obtain ⟨go', c2, h2, _, _⟩ := row_some hro (by have := HON.out; omega)
              rw [HON.out] at h2
              simp only [Value.slice.injEq, true_and] at h2
              obtain ⟨rfl, rfl⟩ := h2
              have hol := (hro.lt go' rfl).2
              have hy3 := hro.cells j y hy
              obtain ⟨yq, hyq⟩ : ∃ yq, ((y.2 / 2 : Nat) : Int) = yq := ⟨_, rfl⟩
              obtain ⟨yr, hyr⟩ : ∃ yr, ((y.2 % 2 : Nat) : Int) = yr := ⟨_, rfl⟩
              obtain ⟨yk, hyk⟩ : ∃ yk, y.1 = yk := ⟨_, rfl⟩
              rw [hyq, hyr, hyk] at hy3
              have hlb := lessB_iff y x
              rw [hyq, hyr, hyk, HPP.out.1, HPP.out.2.1, HPP.out.2.2] at hlb
              have xl : A < wr.heap.size := Nat.lt_of_lt_of_le (lt_of_block HXR0.out) hbi.size
              have x1 : ∀ m os, (grow (wr.drewN m) os).cell? ⟨A, 1, none⟩ = some (.slice (some ⟨ga, 0, none⟩) L.length vc) := cell_grn xl (cells_cell (o := 1) ((hbi.block _ (lt_of_block HXR0.out)).trans HXR0.out) rfl)
              have gl : ga < wr.heap.size := Nat.lt_of_lt_of_le HL3.out.2.2.2 hbi.size
              have a0 : ∀ m os, (grow (wr.drewN m) os).cell? ⟨ga, k * 3, none⟩ = some (.int .i64 pq) := cell_grn gl ((hbi.cell (p := ⟨ga, k * 3, none⟩) HL3.out.2.2.2).trans HL3.out.1)
              have a1 : ∀ m os, (grow (wr.drewN m) os).cell? ⟨ga, k * 3 + 1, none⟩ = some (.int .i64 pr) := cell_grn gl ((hbi.cell (p := ⟨ga, k * 3 + 1, none⟩) HL3.out.2.2.2).trans HL3.out.2.1)
              have a2 : ∀ m os, (grow (wr.drewN m) os).cell? ⟨ga, k * 3 + 2, none⟩ = some (.int .u64 zk) := cell_grn gl ((hbi.cell (p := ⟨ga, k * 3 + 2, none⟩) HL3.out.2.2.2).trans HL3.out.2.2.1)
              have b0 : ∀ m os, (grow (wr.drewN m) os).cell? ⟨go', j * 3, none⟩ = some (.int .i64 yq) := cell_grn hol hy3.1
              have b1 : ∀ m os, (grow (wr.drewN m) os).cell? ⟨go', j * 3 + 1, none⟩ = some (.int .i64 yr) := cell_grn hol hy3.2.1
              have b2 : ∀ m os, (grow (wr.drewN m) os).cell? ⟨go', j * 3 + 2, none⟩ = some (.int .u64 yk) := cell_grn hol hy3.2.2
              have hji : (j : Int) < (on : Int) := by omega
              obtain ⟨lb, hlbe⟩ : ∃ lb, lessB yq yr yk pq pr zk = lb := ⟨_, rfl⟩
              rw [hlbe] at hlb
              have hls := Lib.hid (fun m os => rless_any yq yr yk pq pr zk (grow (wr.drewN m) os))
              rw [hlbe] at hls
              have HBI := Lib.hid hbi
              have HLO := Lib.hid hlo
              have HJN := Lib.hid hjn
              have HY := Lib.hid hy
              have HLB := Lib.hid hlb
              clear hy hro hyq hyr hyk hy3 hlb hlbe hbi hlo hjn xl gl hol
              cases lb with
              | true =>
                go_wp2_with fail
                refine wp_region_quiet_grown mixed (by kernel_rfl) ?_
                repeat (go_big_quiet_step ((go_at_call 42; refine Calls.grown_of (hls.out _ _))))
                refine wpQuiet_nil ?_
                intro _ hw'
                obtain ⟨⟨nq, osq⟩, hw''⟩ := hw'
                subst hw''
                go_wp2_with fail
                go_roundw
                case rel => exact ⟨j + 1, by have := HJN.out; omega, by go_num, HBI.out.trans (RowKit.Below.mono (Grn.below (w := wr) ⟨nq, osq, rfl⟩) HBI.out.size), fun z hz => by
                  rw [take_snoc HY.out] at hz
                  rcases List.mem_append.1 hz with h | h
                  · exact HLO.out z h
                  · rw [List.mem_singleton.1 h]; exact HLB.out.1 True.intro⟩
                case measure => simp [intOf]; have := HJN.out; omega
              | false =>
                go_wp2_with fail
                refine wp_region_quiet_grown mixed (by kernel_rfl) ?_
                repeat (go_big_quiet_step ((go_at_call 42; refine Calls.grown_of (hls.out _ _))))
                refine wpQuiet_nil ?_
                intro _ hw'
                obtain ⟨⟨nq, osq⟩, hw''⟩ := hw'
                subst hw''
                have hbi := HBI.out
                have hlo := HLO.out
                go_upto_region 13 with (fail)
                obtain ⟨V, hV⟩ : ∃ V, grow (wr.drewN nq) osq = V := ⟨_, rfl⟩
                have hbV : RowKit.Below wb.heap.size wb V := by rw [← hV]; exact hbi.trans (RowKit.Below.mono (Grn.below ⟨_, _, rfl⟩) hbi.size)
                rw [hV]
                have HHI : Hid (∀ z, O[j]? = some z → ¬ ltL z x) := Lib.hid (fun z hz => by rw [HY.out] at hz; obtain rfl := Option.some.inj hz; exact fun h => by simpa using HLB.out.2 h)
                have HINS := Lib.hid (HIO.out.ins HND.out HXL.out HIN.out hlo HHI.out)
                have hb8 : RowKit.Below V.heap.size V (V.alloc (.cells #[.int .i64 0, .int .i64 0, .int .u64 0] 60)) := (Below.refl _ _).alloc (Nat.le_refl _) _
                have hb9 := hbV.trans (hb8.mono hbV.size)
                have HR8 := Lib.hid (HRV0.out.below hb9)
                have HX8 := Lib.hid ((hb9.block _ (lt_of_block HXR0.out)).trans HXR0.out)
                have HB8 := Lib.hid (HBR0.out.trans (hb9.mono HBR0.out.size))
                have HL8 := Lib.hid (And.intro ((hb9.cell (p := ⟨ga, k * 3, none⟩) HL3.out.2.2.2).trans HL3.out.1) (And.intro ((hb9.cell (p := ⟨ga, k * 3 + 1, none⟩) HL3.out.2.2.2).trans HL3.out.2.1) ((hb9.cell (p := ⟨ga, k * 3 + 2, none⟩) HL3.out.2.2.2).trans HL3.out.2.2.1)))
                have HN8 := Lib.hid (rowL1 V 0 0 0 0 rfl rfl)
                have HJ := Lib.hid hj
                have hji : (j : Int) ≤ (on : Int) := by omega
                clear hV hbV hb8 hb9 hbi hlo HRV0 HXR0 HBR0 HL3 hj HHI HBI HLO HY HLB hls x1 a0 a1 a2 b0 b1 b2
                go_wp2_with (at_builtin; refine wpList_append_ll (v := .slice (some ⟨go', 0, none⟩) on oc) rfl (.tmp 63) (.tmp 65) rfl rfl rfl HR8.out ?_ HN8.out ?_ ?_)
                · exact HB8.out.size
                · have := HON.out; simp only [List.length_cons, List.length_nil]; omega
                intro v' w9 h9 hf9 hn9
                obtain ⟨g9, c9, hv9, hc9, hm9⟩ := row_some h9 (by rw [List.length_append]; exact Nat.succ_pos _)
                rw [show (O ++ [((0 : Int), (0 : Nat))]).length = on + 1 by rw [List.length_append, HON.out]; rfl] at hv9 hc9
                subst hv9
                have hgA : A < W.heap.size ∧ ga < W.heap.size := ⟨lt_of_block HX.out, hgl⟩
                have hnot : ∀ g, g < W.heap.size → g ∉ (Value.slice (some ⟨go', 0, none⟩) on oc).ownBlock.toList := fun g hg hm => by have := (HR8.out.lt g (by simpa using hm)).1; omega
                have HX9 := Lib.hid ((hf9.block _ (lt_of_block HX8.out) (hnot A hgA.1)).trans HX8.out)
                have HL9 := Lib.hid (And.intro (hf9.cell HL8.out.1 (hnot ga hgA.2)) (And.intro (hf9.cell HL8.out.2.1 (hnot ga hgA.2)) (hf9.cell HL8.out.2.2 (hnot ga hgA.2))))
                have HB9 := Lib.hid (HB8.out.trans (hf9.below (fun g hm => (HR8.out.lt g (by simpa using hm)).1) HB8.out.size))
                have HR9 := Lib.hid h9
                have hcc : (on : Int) + 1 ≤ (c9 : Int) := by omega
                have hcj : ¬ c9 = j := by omega
                have hj1 : (0 : Int) ≤ (j : Int) + 1 := by omega
                have hj2 : (j : Int) ≤ (on : Int) + 1 := by omega
                have hj3 : (j : Int) ≤ 256 := by omega
                have hwr : IntKind.i64.wrap ((j : Int) + 1) = (j : Int) + 1 := by rw [IntKind.wrap_i64]; omega
                obtain ⟨off, hoff⟩ : ∃ off, (if c9 = j + 1 then 0 else (j + 1) * 3) = off := ⟨_, rfl⟩
                have hadr : (if c9 = j + 1 then some (⟨g9, 0, none⟩ : Addr) else some ⟨g9, (j + 1) * 3, none⟩) = some ⟨g9, off, none⟩ := by rw [← hoff]; split <;> rfl
                have hcm : (c9 : Int) ≤ 9223372036854775807 := by unfold maxLen at hm9; omega
                clear h9 hf9 hn9 hnot hgA HX8 HL8 HB8 HR8 HN8
                go_wp2_with fail
                obtain ⟨wd, hwd⟩ : ∃ wd, w9.drew = wd := ⟨_, rfl⟩
                have hbd : RowKit.Below w9.heap.size w9 wd := by rw [← hwd]; exact (RowKit.Below.refl _ _).drew
                have HRD := Lib.hid (HR9.out.below hbd)
                have HXD := Lib.hid ((hbd.block _ (lt_of_block HX9.out)).trans HX9.out)
                have hgaw : ga < w9.heap.size := Nat.lt_of_lt_of_le hgl HB9.out.size
                have HLD := Lib.hid (And.intro ((hbd.cell (p := ⟨ga, k * 3, none⟩) hgaw).trans HL9.out.1) (And.intro ((hbd.cell (p := ⟨ga, k * 3 + 1, none⟩) hgaw).trans HL9.out.2.1) ((hbd.cell (p := ⟨ga, k * 3 + 2, none⟩) hgaw).trans HL9.out.2.2)))
                have HBD := Lib.hid (HB9.out.trans (hbd.mono HB9.out.size))
                have HWD := Lib.hid hwd
                clear hbd hwd hgaw HR9 HX9 HL9 HB9
                refine wp_region_mix (fun _ => True) 7 [(true, 0), (true, 1), (true, 2), (true, 3), (true, 4), (true, 5), (true, 6)] mixed (by kernel_rfl) (fun _ _ _ d _ h => by cases d <;> exact h) ?_
                rw [HWD.out]
                simp only [List.map_cons, List.map_nil, List.getD_cons_zero, List.getD_cons_succ, List.drop_succ_cons, List.drop_zero]
                refine mix_move (.tmp 7) (.slice (some ⟨g9, 0, none⟩) (on + 1) c9) rfl trivial rfl rfl ?_
                simp only [Act.put, List.setIfInBounds_toArray, List.set_cons_zero, List.set_cons_succ]
                refine mix_move (.tmp 9) (.int .i64 (j : Int)) rfl trivial rfl rfl ?_
                simp only [Act.put, List.setIfInBounds_toArray, List.set_cons_zero, List.set_cons_succ]
                refine mix_take (.int .i64 ((j : Int) + 1)) trivial rfl (fun W' hS => by (go_simp) <;> exact hwr) ?_
                simp only [Act.put, List.setIfInBounds_toArray, List.set_cons_zero, List.set_cons_succ]
                refine mix_take (.slice (some ⟨g9, off, none⟩) (on - j) (c9 - (j + 1))) trivial rfl (fun W' hS => by (go_simp) <;> simp [hj1, hadr]) ?_
                simp only [Act.put, List.setIfInBounds_toArray, List.set_cons_zero, List.set_cons_succ]
                refine mix_move (.tmp 7) (.slice (some ⟨g9, 0, none⟩) (on + 1) c9) rfl trivial rfl rfl ?_
                simp only [Act.put, List.setIfInBounds_toArray, List.set_cons_zero, List.set_cons_succ]
                refine mix_move (.tmp 9) (.int .i64 (j : Int)) rfl trivial rfl rfl ?_
                simp only [Act.put, List.setIfInBounds_toArray, List.set_cons_zero, List.set_cons_succ]
                refine mix_take (.slice (some ⟨g9, j * 3, none⟩) (on + 1 - j) (c9 - j)) trivial rfl (fun W' hS => by (go_simp) <;> simp [hj2, hcj]) ?_
                simp only [Act.put, List.setIfInBounds_toArray, List.set_cons_zero, List.set_cons_succ]
                refine mix_nil ?_
                have hjl : j ≤ O.length := by have := HON.out; have := HJ.out; omega
                have hol' : O.length = on := HON.out
                obtain ⟨cur, hcur, hfit, hr10⟩ := HRD.out.shift (j := j) (off := off) hjl (by
                  rw [← hoff]
                  by_cases hc : c9 = j + 1
                  · rw [if_pos hc]; exact .inr ⟨rfl, by omega⟩
                  · rw [if_neg hc]; exact .inl rfl)
                have hsrc := shift_src HRD.out hjl
                have HCUR := Lib.hid hcur
                have HFIT := Lib.hid hfit
                have HR10 := Lib.hid hr10
                have HSRC := Lib.hid hsrc
                clear hcur hfit hr10 hsrc hadr hoff hcj hwr
                refine wpList_copy3 rfl (.tmp 70) (.tmp 73) rfl rfl rfl HCUR.out ?_ HSRC.out HFIT.out (flat_oneL _) ?_
                · rw [flat_len encL3, List.length_drop, hol']
                  show _ = min _ _ * 3
                  omega
                obtain ⟨w10, hw10⟩ : ∃ w10, wd.setRow g9 (cur.toList.take off ++ (O.drop j).flatMap encL ++ cur.toList.drop (off + ((O.drop j).flatMap encL).length)).toArray = w10 := ⟨_, rfl⟩
                have hg9 := HRD.out.lt g9 rfl
                have hbs : RowKit.Below W.heap.size W w10 := by rw [← hw10]; exact below_setRow HBD.out hg9.1 _
                have hkp : ∀ b, b < W.heap.size → w10.heap[b]? = wd.heap[b]? := fun b hb => by rw [← hw10]; exact setRow_other _ _ _ _ (by omega)
                have hXT := (hkp A (lt_of_block HX.out)).trans HXD.out
                have hcl : ∀ {o : Nat} {u : Value}, wd.cell? ⟨ga, o, none⟩ = some u → w10.cell? ⟨ga, o, none⟩ = some u := fun {o u} hu => by
                  unfold World.cell? at hu ⊢
                  rw [show w10.heap[(⟨ga, o, none⟩ : Addr).block]? = wd.heap[(⟨ga, o, none⟩ : Addr).block]? from hkp ga hgl]
                  exact hu
                have a0 := hcl HLD.out.1
                have a1 := hcl HLD.out.2.1
                have a2 := hcl HLD.out.2.2
                have x1 := cells_cell (o := 1) hXT rfl
                have hr10 := HR10.out
                rw [hw10] at hr10
                obtain ⟨z, hz⟩ := shift_get (O := O) (b := ((0 : Int), (0 : Nat))) hjl
                obtain ⟨z0, z1, z2⟩ := hr10.cells j z hz
                have hfz : ∀ o, w10.frozen? ⟨g9, o, none⟩ = false := fun o => by rw [← hw10]; exact cells_free (setRow_heap wd g9 _ _ _ _ HCUR.out) o
                have f0 := hfz (j * 3)
                have f1 := hfz (j * 3 + 1)
                have f2 := hfz (j * 3 + 2)
                have hfin := hr10.put (j := j) (by have := (List.getElem?_eq_some_iff.1 hz).1; exact this) x
                rw [shift_set hjl, HPP.out.1, HPP.out.2.1, HPP.out.2.2] at hfin
                have hff := ((fr_setCell w10 ⟨g9, j * 3, none⟩ (.int .i64 pq)).trans' (fr_setCell _ ⟨g9, j * 3 + 1, none⟩ (.int .i64 pr))).trans' (fr_setCell _ ⟨g9, j * 3 + 2, none⟩ (.int .u64 zk))
                have HFIN := Lib.hid (And.intro (hbs.trans (hff.below (fun g hm => by simp at hm; have := hg9.1; omega) hbs.size)) hfin)
                have hjlt : (j : Int) < (on : Int) + 1 := by omega
                have HW10 := Lib.hid hw10
                clear hg9 hbs hkp hXT hcl hr10 hz hfz hfin hff hw10 hol' hjl
                rw [HW10.out]
                go_wp2_with fail
                go_roundw
                case rel => exact ⟨k + 1, _, by have := HLT.out; omega, by go_num, HFIN.out.1, HFIN.out.2, HINS.out⟩
                case measure => simp [intOf]; have := HLT.out; omega
            · have hq1 : decide ((j : Int) < (on : Int)) = false := by simp; omega
              go_wp2_with fail
              refine wp_region_quiet_grown mixed (by kernel_rfl) ?_
              repeat (go_big_quiet_step (fail))
              refine wpQuiet_nil ?_
              intro _ hw'
              obtain ⟨⟨nq, osq⟩, hw''⟩ := hw'
              subst hw''
              clear hq1
              go_upto_region 13 with (fail)
              obtain ⟨V, hV⟩ : ∃ V, grow (wr.drewN nq) osq = V := ⟨_, rfl⟩
              have hbV : RowKit.Below wb.heap.size wb V := by rw [← hV]; exact hbi.trans (RowKit.Below.mono (Grn.below ⟨_, _, rfl⟩) hbi.size)
              rw [hV]
              have HHI : Hid (∀ z, O[j]? = some z → ¬ ltL z x) := Lib.hid (fun z hz => by have h1 := HON.out; have h2 := (List.getElem?_eq_some_iff.1 hz).1; omega)
              have HINS := Lib.hid (HIO.out.ins HND.out HXL.out HIN.out hlo HHI.out)
              have hb8 : RowKit.Below V.heap.size V (V.alloc (.cells #[.int .i64 0, .int .i64 0, .int .u64 0] 60)) := (Below.refl _ _).alloc (Nat.le_refl _) _
              have hb9 := hbV.trans (hb8.mono hbV.size)
              have HR8 := Lib.hid (HRV0.out.below hb9)
              have HX8 := Lib.hid ((hb9.block _ (lt_of_block HXR0.out)).trans HXR0.out)
              have HB8 := Lib.hid (HBR0.out.trans (hb9.mono HBR0.out.size))
              have HL8 := Lib.hid (And.intro ((hb9.cell (p := ⟨ga, k * 3, none⟩) HL3.out.2.2.2).trans HL3.out.1) (And.intro ((hb9.cell (p := ⟨ga, k * 3 + 1, none⟩) HL3.out.2.2.2).trans HL3.out.2.1) ((hb9.cell (p := ⟨ga, k * 3 + 2, none⟩) HL3.out.2.2.2).trans HL3.out.2.2.1)))
              have HN8 := Lib.hid (rowL1 V 0 0 0 0 rfl rfl)
              have HJ := Lib.hid hj
              have hji : (j : Int) ≤ (on : Int) := by omega
              clear hV hbV hb8 hb9 hbi hlo HRV0 HXR0 HBR0 HL3 hj HHI hjn
              go_wp2_with (at_builtin; refine wpList_append_ll (v := .slice oa on oc) rfl (.tmp 63) (.tmp 65) rfl rfl rfl HR8.out ?_ HN8.out ?_ ?_)
              · exact HB8.out.size
              · have := HON.out; simp only [List.length_cons, List.length_nil]; omega
              intro v' w9 h9 hf9 hn9
              obtain ⟨g9, c9, hv9, hc9, hm9⟩ := row_some h9 (by rw [List.length_append]; exact Nat.succ_pos _)
              rw [show (O ++ [((0 : Int), (0 : Nat))]).length = on + 1 by rw [List.length_append, HON.out]; rfl] at hv9 hc9
              subst hv9
              have hgA : A < W.heap.size ∧ ga < W.heap.size := ⟨lt_of_block HX.out, hgl⟩
              have hnot : ∀ g, g < W.heap.size → g ∉ (Value.slice oa on oc).ownBlock.toList := fun g hg hm => by have := (HR8.out.lt g (by simpa using hm)).1; omega
              have HX9 := Lib.hid ((hf9.block _ (lt_of_block HX8.out) (hnot A hgA.1)).trans HX8.out)
              have HL9 := Lib.hid (And.intro (hf9.cell HL8.out.1 (hnot ga hgA.2)) (And.intro (hf9.cell HL8.out.2.1 (hnot ga hgA.2)) (hf9.cell HL8.out.2.2 (hnot ga hgA.2))))
              have HB9 := Lib.hid (HB8.out.trans (hf9.below (fun g hm => (HR8.out.lt g (by simpa using hm)).1) HB8.out.size))
              have HR9 := Lib.hid h9
              have hcc : (on : Int) + 1 ≤ (c9 : Int) := by omega
              have hcj : ¬ c9 = j := by omega
              have hj1 : (0 : Int) ≤ (j : Int) + 1 := by omega
              have hj2 : (j : Int) ≤ (on : Int) + 1 := by omega
              have hj3 : (j : Int) ≤ 256 := by omega
              have hwr : IntKind.i64.wrap ((j : Int) + 1) = (j : Int) + 1 := by rw [IntKind.wrap_i64]; omega
              obtain ⟨off, hoff⟩ : ∃ off, (if c9 = j + 1 then 0 else (j + 1) * 3) = off := ⟨_, rfl⟩
              have hadr : (if c9 = j + 1 then some (⟨g9, 0, none⟩ : Addr) else some ⟨g9, (j + 1) * 3, none⟩) = some ⟨g9, off, none⟩ := by rw [← hoff]; split <;> rfl
              have hcm : (c9 : Int) ≤ 9223372036854775807 := by unfold maxLen at hm9; omega
              clear h9 hf9 hn9 hnot hgA HX8 HL8 HB8 HR8 HN8
              go_wp2_with fail
              obtain ⟨wd, hwd⟩ : ∃ wd, w9.drew = wd := ⟨_, rfl⟩
              have hbd : RowKit.Below w9.heap.size w9 wd := by rw [← hwd]; exact (RowKit.Below.refl _ _).drew
              have HRD := Lib.hid (HR9.out.below hbd)
              have HXD := Lib.hid ((hbd.block _ (lt_of_block HX9.out)).trans HX9.out)
              have hgaw : ga < w9.heap.size := Nat.lt_of_lt_of_le hgl HB9.out.size
              have HLD := Lib.hid (And.intro ((hbd.cell (p := ⟨ga, k * 3, none⟩) hgaw).trans HL9.out.1) (And.intro ((hbd.cell (p := ⟨ga, k * 3 + 1, none⟩) hgaw).trans HL9.out.2.1) ((hbd.cell (p := ⟨ga, k * 3 + 2, none⟩) hgaw).trans HL9.out.2.2)))
              have HBD := Lib.hid (HB9.out.trans (hbd.mono HB9.out.size))
              have HWD := Lib.hid hwd
              clear hbd hwd hgaw HR9 HX9 HL9 HB9
              refine wp_region_mix (fun _ => True) 7 [(true, 0), (true, 1), (true, 2), (true, 3), (true, 4), (true, 5), (true, 6)] mixed (by kernel_rfl) (fun _ _ _ d _ h => by cases d <;> exact h) ?_
              rw [HWD.out]
              simp only [List.map_cons, List.map_nil, List.getD_cons_zero, List.getD_cons_succ, List.drop_succ_cons, List.drop_zero]
              refine mix_move (.tmp 7) (.slice (some ⟨g9, 0, none⟩) (on + 1) c9) rfl trivial rfl rfl ?_
              simp only [Act.put, List.setIfInBounds_toArray, List.set_cons_zero, List.set_cons_succ]
              refine mix_move (.tmp 9) (.int .i64 (j : Int)) rfl trivial rfl rfl ?_
              simp only [Act.put, List.setIfInBounds_toArray, List.set_cons_zero, List.set_cons_succ]
              refine mix_take (.int .i64 ((j : Int) + 1)) trivial rfl (fun W' hS => by (go_simp) <;> exact hwr) ?_
              simp only [Act.put, List.setIfInBounds_toArray, List.set_cons_zero, List.set_cons_succ]
              refine mix_take (.slice (some ⟨g9, off, none⟩) (on - j) (c9 - (j + 1))) trivial rfl (fun W' hS => by (go_simp) <;> simp [hj1, hadr]) ?_
              simp only [Act.put, List.setIfInBounds_toArray, List.set_cons_zero, List.set_cons_succ]
              refine mix_move (.tmp 7) (.slice (some ⟨g9, 0, none⟩) (on + 1) c9) rfl trivial rfl rfl ?_
              simp only [Act.put, List.setIfInBounds_toArray, List.set_cons_zero, List.set_cons_succ]
              refine mix_move (.tmp 9) (.int .i64 (j : Int)) rfl trivial rfl rfl ?_
              simp only [Act.put, List.setIfInBounds_toArray, List.set_cons_zero, List.set_cons_succ]
              refine mix_take (.slice (some ⟨g9, j * 3, none⟩) (on + 1 - j) (c9 - j)) trivial rfl (fun W' hS => by (go_simp) <;> simp [hj2, hcj]) ?_
              simp only [Act.put, List.setIfInBounds_toArray, List.set_cons_zero, List.set_cons_succ]
              refine mix_nil ?_
              have hjl : j ≤ O.length := by have := HON.out; have := HJ.out; omega
              have hol' : O.length = on := HON.out
              obtain ⟨cur, hcur, hfit, hr10⟩ := HRD.out.shift (j := j) (off := off) hjl (by
                rw [← hoff]
                by_cases hc : c9 = j + 1
                · rw [if_pos hc]; exact .inr ⟨rfl, by omega⟩
                · rw [if_neg hc]; exact .inl rfl)
              have hsrc := shift_src HRD.out hjl
              have HCUR := Lib.hid hcur
              have HFIT := Lib.hid hfit
              have HR10 := Lib.hid hr10
              have HSRC := Lib.hid hsrc
              clear hcur hfit hr10 hsrc hadr hoff hcj hwr
              refine wpList_copy3 rfl (.tmp 70) (.tmp 73) rfl rfl rfl HCUR.out ?_ HSRC.out HFIT.out (flat_oneL _) ?_
              · rw [flat_len encL3, List.length_drop, hol']
                show _ = min _ _ * 3
                omega
              obtain ⟨w10, hw10⟩ : ∃ w10, wd.setRow g9 (cur.toList.take off ++ (O.drop j).flatMap encL ++ cur.toList.drop (off + ((O.drop j).flatMap encL).length)).toArray = w10 := ⟨_, rfl⟩
              have hg9 := HRD.out.lt g9 rfl
              have hbs : RowKit.Below W.heap.size W w10 := by rw [← hw10]; exact below_setRow HBD.out hg9.1 _
              have hkp : ∀ b, b < W.heap.size → w10.heap[b]? = wd.heap[b]? := fun b hb => by rw [← hw10]; exact setRow_other _ _ _ _ (by omega)
              have hXT := (hkp A (lt_of_block HX.out)).trans HXD.out
              have hcl : ∀ {o : Nat} {u : Value}, wd.cell? ⟨ga, o, none⟩ = some u → w10.cell? ⟨ga, o, none⟩ = some u := fun {o u} hu => by
                unfold World.cell? at hu ⊢
                rw [show w10.heap[(⟨ga, o, none⟩ : Addr).block]? = wd.heap[(⟨ga, o, none⟩ : Addr).block]? from hkp ga hgl]
                exact hu
              have a0 := hcl HLD.out.1
              have a1 := hcl HLD.out.2.1
              have a2 := hcl HLD.out.2.2
              have x1 := cells_cell (o := 1) hXT rfl
              have hr10 := HR10.out
              rw [hw10] at hr10
              obtain ⟨z, hz⟩ := shift_get (O := O) (b := ((0 : Int), (0 : Nat))) hjl
              obtain ⟨z0, z1, z2⟩ := hr10.cells j z hz
              have hfz : ∀ o, w10.frozen? ⟨g9, o, none⟩ = false := fun o => by rw [← hw10]; exact cells_free (setRow_heap wd g9 _ _ _ _ HCUR.out) o
              have f0 := hfz (j * 3)
              have f1 := hfz (j * 3 + 1)
              have f2 := hfz (j * 3 + 2)
              have hfin := hr10.put (j := j) (by have := (List.getElem?_eq_some_iff.1 hz).1; exact this) x
              rw [shift_set hjl, HPP.out.1, HPP.out.2.1, HPP.out.2.2] at hfin
              have hff := ((fr_setCell w10 ⟨g9, j * 3, none⟩ (.int .i64 pq)).trans' (fr_setCell _ ⟨g9, j * 3 + 1, none⟩ (.int .i64 pr))).trans' (fr_setCell _ ⟨g9, j * 3 + 2, none⟩ (.int .u64 zk))
              have HFIN := Lib.hid (And.intro (hbs.trans (hff.below (fun g hm => by simp at hm; have := hg9.1; omega) hbs.size)) hfin)
              have hjlt : (j : Int) < (on : Int) + 1 := by omega
              have HW10 := Lib.hid hw10
              clear hg9 hbs hkp hXT hcl hr10 hz hfz hfin hff hw10 hol' hjl
              rw [HW10.out]
              go_wp2_with fail
              go_roundw
              case rel => exact ⟨k + 1, _, by have := HLT.out; omega, by go_num, HFIN.out.1, HFIN.out.2, HINS.out⟩
              case measure => simp [intOf]; have := HLT.out; omega
        · have e2 : decide (zk ≤ tt) = false := by simpa using hp2
          have hqc := hqz _ e2
          have HSK := Lib.hid (HIO.out.skip HXL.out (by have := HPP.out.2.2; omega))
          clear hp hp2 hpz hqz HIO HXL
          go_wp2_with fail
          go_quiet ((first | (go_at_call 34; first | (with_reducible refine Calls.quiet_of_same (hpc.out _)) | (with_reducible refine Calls.quiet_of_same (hqc.out _)))))
          go_wp2_with fail
          have hb := (fr_drewN wr nq []).below (B := wr.heap.size) (fun _ hx => by simp at hx) (Nat.le_refl _)
          have HE := Lib.hid (And.intro (HBR.out.trans (hb.mono HBR.out.size)) (HRV.out.below hb))
          clear hb
          go_roundw
          case rel => exact ⟨k + 1, O, by have := HLT.out; omega, by go_num, HE.out.1, HE.out.2, HSK.out⟩
          case measure => simp [intOf]; have := HLT.out; omega
    · obtain rfl : k = L.length := by omega
      have HRV := Lib.hid hrv
      have HIO := Lib.hid hio
      have HBR := Lib.hid hbr
      have HYR := Lib.hid ((hbr.block _ (lt_of_block HY.out)).trans HY.out)
      clear hrv hio hbr hxr hk hlt
      have f0 := cells_free HYR.out 0
      have f1 := cells_free HYR.out 1
      have c0 := cells_cell (o := 0) HYR.out rfl
      have c1 := cells_cell (o := 1) HYR.out rfl
      have hcl := lt_of_block HYR.out
      have hf := (fr_setCell wr ⟨C, 0, none⟩ (.int .u64 tt)).trans' (fr_setCell _ ⟨C, 1, none⟩ (.slice va L.length vc))
      have HC7 := Lib.hid (set2 HYR.out (.int .u64 tt) (.slice va L.length vc))
      have HR7 := Lib.hid (RowL.fr HRV.out hf (fun g hg hm => by have h1 := (HRV.out.lt g hg).1; have h2 := lt_of_block HY.out; simp at hm; omega))
      have hbb := HB.out.trans (HBR.out.mono HB.out.size)
      have HB7 := Lib.hid (hbb.trans (hf.below (fun g hm => by simp at hm; have := HA.out; omega) hbb.size))
      obtain ⟨ra, rc, hrf⟩ := slice_form HRV.out
      obtain ⟨rn, hrn⟩ : ∃ rn, O.length = rn := ⟨_, rfl⟩
      rw [hrn] at hrf
      subst hrf
      clear hf hbb hrn HRV HYR
      go_wp2_with fail
      have hy2 := HC7.out
      refine bodyPost_ret (v := .tuple #[.agg #[.int .u64 tt, .slice va L.length vc], .slice ra rn rc, .int .i64 0]) (by simp [results, Tryz.results14, go_sem, cells_cell (o := 0) hy2 rfl, cells_cell (o := 1) hy2 rfl]) rfl ?_
      exact ⟨_, O, rfl, ownsRow_mono HR7.out HB.out.size, HIO.out, HB7.out⟩
end
end Go.Proofs.YtgkodleblkjhcaaGreatDoor
