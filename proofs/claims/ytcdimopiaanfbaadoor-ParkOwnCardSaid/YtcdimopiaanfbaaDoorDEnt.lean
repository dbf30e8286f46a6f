/- entries: the values with their tickets, in order. -/
import Derived.Test.YtcdimopiaanfbaaDoorDCopy
import Derived.LoopTactic
import Derived.Deep.LoopGhost
namespace Go.Proofs.YtcdimopiaanfbaaDoor
open Go.RowKit Go.Sort Go.MapKept
set_option linter.unusedVariables false
set_option linter.unusedSimpArgs false

/-- Pairs, two cells each. -/
def fl (h : Nat × Int → Value × Value) : Qu → List Value
  | [] => []
  | x :: D => (h x).1 :: (h x).2 :: fl h D
theorem fl_append (h : Nat × Int → Value × Value) : ∀ (S T : Qu), fl h (S ++ T) = fl h S ++ fl h T
  | [], _ => rfl
  | e :: S, T => by show _ :: _ :: fl h (S ++ T) = _; rw [fl_append h S T]; rfl
theorem fl_len (h : Nat × Int → Value × Value) : ∀ S : Qu, (fl h S).length = S.length * 2
  | [] => rfl
  | e :: S => by show (fl h S).length + 1 + 1 = _; rw [fl_len h S, List.length_cons]; omega
theorem fl_get (h : Nat × Int → Value × Value) : ∀ (S : Qu) (j : Nat) (e : Nat × Int), S[j]? = some e → (fl h S)[j * 2]? = some (h e).1 ∧ (fl h S)[j * 2 + 1]? = some (h e).2
  | [], j, e, hj => by simp at hj
  | x :: S, 0, e, hj => by
    simp at hj
    subst hj
    exact ⟨rfl, rfl⟩
  | x :: S, j + 1, e, hj => by
    have := fl_get h S j e (by simpa using hj)
    show ((h x).1 :: (h x).2 :: fl h S)[(j + 1) * 2]? = _ ∧ _
    rw [show (j + 1) * 2 = j * 2 + 1 + 1 by omega]
    simpa [fl] using this
theorem fl_one (h : Nat × Int → Value × Value) (h1 : ∀ x, (h x).1.oneCell' = true ∧ (h x).2.oneCell' = true) : ∀ (S : Qu), ∀ u ∈ fl h S, u.oneCell' = true
  | [], u, hu => by simp [fl] at hu
  | e :: S, u, hu => by
    simp only [fl, List.mem_cons] at hu
    rcases hu with rfl | rfl | hu
    · exact (h1 e).1
    · exact (h1 e).2
    · exact fl_one h h1 S u hu
/-- A ticket and a value; a value and a ticket. -/
def enE (x : Nat × Int) : Value × Value := (encT x.1, .int .i64 x.2)
def enV (x : Nat × Int) : Value × Value := (.int .i64 x.2, encT x.1)

def RowE (w : World) (base : Nat) (s : Value) (D : Qu) : Prop := w.ownsRow base 121 2 s D.length (fl enE D)
theorem RowE.cells {w : World} {base n cap g : Nat} {D : Qu} (h : RowE w base (.slice (some ⟨g, 0, none⟩) n cap) D) (j : Nat) (e : Nat × Int) (hj : D[j]? = some e) :
    w.cell? ⟨g, j * 2, none⟩ = some (.int .u64 ((e.1 : Nat) : Int)) ∧ w.cell? ⟨g, j * 2 + 1, none⟩ = some (.int .i64 e.2) := by
  obtain ⟨h0, h1⟩ := fl_get enE D j e hj
  have hc : ∀ (k : Nat) (u : Value), (fl enE D)[k]? = some u → w.cell? ((⟨g, 0, none⟩ : Addr).add k) = some u := World.ownsRow.cells h rfl
  have k0 := hc _ _ h0
  have k1 := hc _ _ h1
  rw [Go.WideShapes.add_plain, Nat.zero_add] at k0 k1
  exact ⟨k0, k1⟩
theorem RowE.below {w w' : World} {base : Nat} {s : Value} {D : Qu} (h : RowE w base s D) (hb : Below w.heap.size w w') : RowE w' base s D := (Fr.of_below hb []).row h (fun _ _ => by simp)
theorem infoEntry : (Tryd.prog.info? 121).map (fun i => (i.zero, i.size, i.bytes)) = some (some (.agg #[.int .u64 0, .int .i64 0]), 2, 16) := by kernel_rfl
theorem new_cells2 (w : World) (u0 u1 : Value) (t : TypeId) : ∀ (j : Nat) (u : Value), [u0, u1][j]? = some u → (w.alloc (.cells #[u0, u1] t)).cell? ((⟨w.heap.size, 0, none⟩ : Addr).add j) = some u := by
  intro j u hu
  rw [Go.WideShapes.add_plain, Nat.zero_add]
  match j with
  | 0 => simp at hu; subst hu; exact cell_new _ _ _ _ _ _ rfl rfl
  | 1 => simp at hu; subst hu; exact cell_new _ _ _ _ _ _ rfl rfl
  | j + 2 => simp at hu

theorem hdd_drop {L : Qu} {k : Nat} (hk : k < L.length) : hdd 0 (L.drop k) = (L.getD k (0, 0)).1 := by
  rw [List.drop_eq_getElem_cons hk]
  simp [List.getD, hk, hdd]

set_option maxRecDepth 100000 in
set_option maxHeartbeats 3200000 in
theorem fiEntries_any {w : World} {q b m g : Nat} {L : Qu} (h : QAt w q b m L g) (hg : g ≤ 1000000000) :
    Calls Tryd.prog 70 #[.pointer (some ⟨b, 0, none⟩)] w fun e w' => ∃ v, e = .returned v ∧ RowE w' w.heap.size v L ∧ Below w.heap.size w w' := by
  obtain ⟨i0, hi0, hz0, hz1, hz2⟩ := info_parts infoEntry
  have c2 := h.body.c2
  have c0 := h.body.c0
  have hl := h.m.len
  have hlb := h.lb
  have hLen : L.length ≤ 1000000000 := by have := h.inc.len; have := h.le; omega
  have HH := Lib.hid h
  obtain ⟨N, hN⟩ : ∃ N, N = L.length := ⟨_, rfl⟩
  rw [← hN] at hl hLen
  have hNI : ((N : Nat) : Int) ≤ 1000000000 := by omega
  have HN := Lib.hid hN
  clear h hN hg
  go_enter Tryd.func70, Tryd.ntmps70
  go_wp2_with (at_make; refine wpList_make_own _ rfl _ _ 114 rfl w.heap.size 121 i0 _ 2 Tryd.underlying114 hi0 hz0 hz1 _ _ _ N rfl rfl rfl ?c0 ?c1 ?c2 ?_)
  case c0 => rw [hz2]; omega
  case c1 => unfold maxLen; omega
  case c2 => exact Nat.le_refl _
  intro w1 ho hgr
  have hb1 : Below w.heap.size w w1 := (fr_grown hgr).below (fun x hx => by simp at hx) (Nat.le_refl _)
  have hq1 := Lib.hid (HH.out.grown hb1)
  have HB1 := Lib.hid hb1
  have HO1 := Lib.hid ho
  have c0 := hq1.out.body.c0
  clear ho hgr hb1 c2 hl
  go_wp2_with fail
  go_loopg [3, 4] N (fun m' lv tk wr => ∃ (k : Nat) (va : Option Addr) (vc : Nat), k ≤ N ∧ m' = N - k ∧ lv = .slice va k vc ∧ tk = .int .u64 ((hdd 0 (L.drop k) : Nat) : Int) ∧ Hid (RowE wr w.heap.size (.slice va k vc) (L.take k)) ∧ Hid (Below w.heap.size w wr))
  case atStart => exact ⟨0, _, _, Nat.zero_le _, rfl, rfl, rfl, HO1, HB1⟩
  case round =>
    obtain ⟨k, va, vc, hk, rfl, rfl, rfl, hrow, hbw⟩ := hrel
    by_cases hlt : k < N
    · have hkL : k < L.length := by rw [← HN.out]; exact hlt
      have h2 := HH.out.grown hbw.out
      have l1 := h2.m.look_yes (lks_get HH.out.inc hkL) false
      simp only [Bool.false_eq_true, if_false] at l1
      unfold encT Lk.enc at l1
      have hT := lst_pos HH.out.inc hkL
      have eT := hdd_drop hkL
      have ev : (lkAt L k).v = (L.getD k (0, 0)).2 := rfl
      have ea : (lkAt L k).a = hdd 0 (L.drop (k + 1)) := rfl
      rw [ev, ea] at l1
      rw [eT]
      have HTK : Hid (L.take (k + 1) = L.take k ++ [((L.getD k (0, 0)).1, (L.getD k (0, 0)).2)]) := Lib.hid (by
        rw [List.take_succ_eq_append_getElem hkL]
        have : L.getD k (0, 0) = L[k] := by simp [List.getD, hkL]
        rw [this])
      have c2 := h2.body.c2
      have hbl := h2.lb
      generalize (L.getD k (0, 0)).1 = T at *
      generalize (L.getD k (0, 0)).2 = x at *
      generalize hA : hdd 0 (L.drop (k + 1)) = A at *
      have HA := Lib.hid hA
      clear hA
      generalize (lkAt L k).b = B' at *
      have hTI : (0 : Int) < ((T : Nat) : Int) := by omega
      have hTd : (((T : Nat) : Int) == 0) = false := by simp; omega
      have htl : (L.take k).length = k := by rw [List.length_take]; omega
      have HBW := Lib.hid hbw.out
      have HROW := Lib.hid hrow.out
      clear h2 hT eT ev ea hkL
      have hbl2 := hrow.out
      obtain ⟨W1, hW1⟩ : ∃ W1, wr.alloc (.cells #[.int .i64 x, .int .u64 ((B' : Nat) : Int), .int .u64 ((A : Nat) : Int)] 123) = W1 := ⟨_, rfl⟩
      have HW1 := Lib.hid hW1
      have HS1 : Hid (W1.heap.size = wr.heap.size + 1) := Lib.hid (by rw [← hW1]; simp)
      have HL1 : Hid (Below wr.heap.size wr W1) := Lib.hid (by rw [← hW1]; exact below_alloc _ _)
      have hlk : Hid (W1.heap[wr.heap.size]? = some (.cells #[.int .i64 x, .int .u64 ((B' : Nat) : Int), .int .u64 ((A : Nat) : Int)] 123 (0, 0))) := Lib.hid (by rw [← hW1]; exact block_new _ _ _ rfl)
      clear hbl2 hW1
      have hrw1 := Lib.hid (HROW.out.below HL1.out)
      go_wp2_with (at_builtin; rw [HW1.out]; refine wpList_append_row _ rfl _ _ 114 rfl 121 i0 (.agg #[.int .u64 0, .int .i64 0]) 2 16 Tryd.underlying114 hi0 hz0 hz1 hz2 rfl (by decide) w.heap.size (.slice va k vc) k (fl enE (L.take k)) rfl ?c5 ?c0 ⟨wr.heap.size + 1, 0, none⟩ 1 1 [.int .u64 ((T : Nat) : Int), .int .i64 x] rfl rfl ?c1 ?c2 (by decide) ?c3 ?c4 ?_)
      case c5 =>
        have h := World.ownsRow.alloc hrw1.out (.cells #[.int .u64 ((T : Nat) : Int), .int .i64 x] 121)
        unfold RowE at h
        rw [htl] at h
        exact h
      case c0 => have := HBW.out.size; have := HS1.out; simp; omega
      case c1 => rw [← HS1.out]; exact new_cells2 W1 _ _ _
      case c2 => simp [Value.oneCell']
      case c3 => unfold maxLen; omega
      case c4 => omega
      intro v' w4 hown hf hnear
      have hba : Below wr.heap.size wr (W1.alloc (.cells #[.int .u64 ((T : Nat) : Int), .int .i64 x] 121)) := HL1.out.trans ((below_alloc W1 _).mono HL1.out.size)
      have hFv : ∀ k', k' ∈ (Value.slice va k vc).ownBlock.toList → w.heap.size ≤ k' ∧ k' < wr.heap.size := fun k' hk' => World.ownsRow.lt HROW.out k' (by simpa using hk')
      have hlk4 := hf.same ((below_alloc W1 _).block _ (by have := HS1.out; omega) |>.trans hlk.out) (fun hm => by have := (hFv _ hm).2; omega)
      have hrow4 : RowE w4 w.heap.size v' (L.take (k + 1)) := by
        rw [HTK.out]
        unfold RowE
        rw [fl_append, List.length_append, htl]
        exact hown
      have hbw4 : Below w.heap.size w w4 := HBW.out.trans ((hba.mono HBW.out.size).trans (hf.below (fun x hx => (hFv x hx).1) (by have := hba.size; have := HBW.out.size; omega)))
      obtain ⟨va', vn', vc', rfl⟩ := row_form hrow4
      have hvn : vn' = k + 1 := by
        rcases hrow4.2 with ⟨hv, hn⟩ | ⟨g', cap, cu, hv, _⟩
        · rw [List.length_take] at hn; have := HN.out; omega
        · simp only [Value.slice.injEq] at hv
          rw [hv.2.1, List.length_take]; have := HN.out; omega
      subst hvn
      have k2 := cells_cell (o := 2) hlk4 rfl
      have hlt4 := lt_of_block hlk4
      have HR4 := Lib.hid hrow4
      have HB4 := Lib.hid hbw4
      clear hown hf hnear hba hFv hlk4 hrow4 hbw4 l1 c2 hbl hrow hbw
      go_wp2_with fail
      go_roundg (N - (k + 1))
      case measure => omega
      case rel => exact ⟨k + 1, va', vc', by omega, rfl, rfl, by rw [HA.out], HR4, HB4⟩
    · obtain rfl : k = N := by omega
      have e0 : hdd 0 (L.drop k) = 0 := by rw [HN.out, List.drop_length]; rfl
      rw [e0]
      have hfin := Lib.hid hrow.out
      have hb0 := Lib.hid hbw.out
      have eL : L.take k = L := by rw [HN.out, List.take_length]
      rw [eL] at hfin
      clear hrow hbw e0 eL
      go_wp2_with fail
      go_ret
      exact ⟨_, rfl, hfin.out, hb0.out⟩
end Go.Proofs.YtcdimopiaanfbaaDoor
