/- QFifoB: DCopy, DEnt, DIt, DRange, DMarks, merged. -/
import Derived.Test.YtcjeckjmoponkaaGreatDoorQFifoA
import Derived.Shelf.SlMaps.Clone
import Derived.LoopTactic
import Derived.Deep.LoopGhost
import Derived.RangeFuncBox
import Derived.RangeFuncLeaves
import Derived.RangeFuncNested
import Derived.Shelf.Abstract
import Derived.OwnWalkIn
import Derived.TacticsInMore
import Derived.LoopNIn
import Derived.LoopIn
/- Copy. -/
namespace Go.Proofs.YtcjeckjmoponkaaGreatDoor
open Go.RowKit Go.Sort Go.MapKept
set_option linter.unusedVariables false
set_option linter.unusedSimpArgs false

end Go.Proofs.YtcjeckjmoponkaaGreatDoor
/- entries: the values with their tickets, in order. -/
namespace Go.Proofs.YtcjeckjmoponkaaGreatDoor
open Go.RowKit Go.Sort Go.MapKept
set_option linter.unusedVariables false
set_option linter.unusedSimpArgs false

/-- Pairs, two cells each. -/
def fl (h : Nat × Int → Value × Value) : Qu → List Value
  | [] => []
  | x :: D => (h x).1 :: (h x).2 :: fl h D
theorem fl_append (h : Nat × Int → Value × Value) : ∀ (S T : Qu), fl h (S ++ T) = fl h S ++ fl h T
  | [], _ => rfl
  | e :: S, T => by show _ :: _ :: fl h (S ++ T) = _; rw [fl_append h S T]; rfl
theorem fl_get (h : Nat × Int → Value × Value) : ∀ (S : Qu) (j : Nat) (e : Nat × Int), S[j]? = some e → (fl h S)[j * 2]? = some (h e).1 ∧ (fl h S)[j * 2 + 1]? = some (h e).2
  | [], j, e, hj => by simp at hj
  | x :: S, 0, e, hj => by
    simp at hj
    subst hj
    exact ⟨rfl, rfl⟩
  | x :: S, j + 1, e, hj => by
    have := fl_get h S j e (by simpa using hj)
    show ((h x).1 :: (h x).2 :: fl h S)[(j + 1) * 2]? = _ ∧ _
    rw [show (j + 1) * 2 = j * 2 + 1 + 1 by omega]
    simpa [fl] using this
/-- A ticket and a value; a value and a ticket. -/
def enE (x : Nat × Int) : Value × Value := (encT x.1, .int .i64 x.2)
def RowE (w : World) (base : Nat) (s : Value) (D : Qu) : Prop := w.ownsRow base 352 2 s D.length (fl enE D)
theorem RowE.cells {w : World} {base n cap g : Nat} {D : Qu} (h : RowE w base (.slice (some ⟨g, 0, none⟩) n cap) D) (j : Nat) (e : Nat × Int) (hj : D[j]? = some e) :
    w.cell? ⟨g, j * 2, none⟩ = some (.int .u64 ((e.1 : Nat) : Int)) ∧ w.cell? ⟨g, j * 2 + 1, none⟩ = some (.int .i64 e.2) := by
  obtain ⟨h0, h1⟩ := fl_get enE D j e hj
  have hc : ∀ (k : Nat) (u : Value), (fl enE D)[k]? = some u → w.cell? ((⟨g, 0, none⟩ : Addr).add k) = some u := World.ownsRow.cells h rfl
  have k0 := hc _ _ h0
  have k1 := hc _ _ h1
  rw [Go.WideShapes.add_plain, Nat.zero_add] at k0 k1
  exact ⟨k0, k1⟩
theorem RowE.below {w w' : World} {base : Nat} {s : Value} {D : Qu} (h : RowE w base s D) (hb : Below w.heap.size w w') : RowE w' base s D := (Fr.of_below hb []).row h (fun _ _ => by simp)
theorem infoEntry : (Tryz.prog.info? 352).map (fun i => (i.zero, i.size, i.bytes)) = some (some (.agg #[.int .u64 0, .int .i64 0]), 2, 16) := by kernel_rfl
theorem new_cells2 (w : World) (u0 u1 : Value) (t : TypeId) : ∀ (j : Nat) (u : Value), [u0, u1][j]? = some u → (w.alloc (.cells #[u0, u1] t)).cell? ((⟨w.heap.size, 0, none⟩ : Addr).add j) = some u := by
  intro j u hu
  rw [Go.WideShapes.add_plain, Nat.zero_add]
  match j with
  | 0 => simp at hu; subst hu; exact cell_new _ _ _ _ _ _ rfl rfl
  | 1 => simp at hu; subst hu; exact cell_new _ _ _ _ _ _ rfl rfl
  | j + 2 => simp at hu

theorem hdd_drop {L : Qu} {k : Nat} (hk : k < L.length) : hdd 0 (L.drop k) = (L.getD k (0, 0)).1 := by
  rw [List.drop_eq_getElem_cons hk]
  simp [List.getD, hk, hdd]

set_option maxRecDepth 100000 in
set_option maxHeartbeats 3200000 in
theorem fiEntries_any {w : World} {q b m g : Nat} {L : Qu} (h : QAt w q b m L g) (hg : g ≤ 1000000000) :
    Calls Tryz.prog 217 #[.pointer (some ⟨b, 0, none⟩)] w fun e w' => ∃ v, e = .returned v ∧ RowE w' w.heap.size v L ∧ Below w.heap.size w w' := by
  obtain ⟨i0, hi0, hz0, hz1, hz2⟩ := info_parts infoEntry
  have c2 := h.body.c2
  have c0 := h.body.c0
  have hl := h.m.len
  have hlb := h.lb
  have hLen : L.length ≤ 1000000000 := by have := h.inc.len; have := h.le; omega
  have HH := Lib.hid h
  obtain ⟨N, hN⟩ : ∃ N, N = L.length := ⟨_, rfl⟩
  rw [← hN] at hl hLen
  have hNI : ((N : Nat) : Int) ≤ 1000000000 := by omega
  have HN := Lib.hid hN
  clear h hN hg
  go_enter Tryz.func217, Tryz.ntmps217
  go_wp2_with (at_make; refine wpList_make_own _ rfl _ _ 348 rfl w.heap.size 352 i0 _ 2 Tryz.underlying348 hi0 hz0 hz1 _ _ _ N rfl rfl rfl ?c0 ?c1 ?c2 ?_)
  case c0 => rw [hz2]; omega
  case c1 => unfold maxLen; omega
  case c2 => exact Nat.le_refl _
  intro w1 ho hgr
  have hb1 : Below w.heap.size w w1 := (fr_grown hgr).below (fun x hx => by simp at hx) (Nat.le_refl _)
  have hq1 := Lib.hid (HH.out.grown hb1)
  have HB1 := Lib.hid hb1
  have HO1 := Lib.hid ho
  have c0 := hq1.out.body.c0
  clear ho hgr hb1 c2 hl
  go_wp2_with fail
  go_loopg [3, 4] N (fun m' lv tk wr => ∃ (k : Nat) (va : Option Addr) (vc : Nat), k ≤ N ∧ m' = N - k ∧ lv = .slice va k vc ∧ tk = .int .u64 ((hdd 0 (L.drop k) : Nat) : Int) ∧ Hid (RowE wr w.heap.size (.slice va k vc) (L.take k)) ∧ Hid (Below w.heap.size w wr))
  case atStart => exact ⟨0, _, _, Nat.zero_le _, rfl, rfl, rfl, HO1, HB1⟩
  case round =>
    obtain ⟨k, va, vc, hk, rfl, rfl, rfl, hrow, hbw⟩ := hrel
    by_cases hlt : k < N
    · have hkL : k < L.length := by rw [← HN.out]; exact hlt
      have h2 := HH.out.grown hbw.out
      have l1 := h2.m.look_yes (lks_get HH.out.inc hkL) false
      simp only [Bool.false_eq_true, if_false] at l1
      unfold encT Lk.enc at l1
      have hT := lst_pos HH.out.inc hkL
      have eT := hdd_drop hkL
      have ev : (lkAt L k).v = (L.getD k (0, 0)).2 := rfl
      have ea : (lkAt L k).a = hdd 0 (L.drop (k + 1)) := rfl
      rw [ev, ea] at l1
      rw [eT]
      have HTK : Hid (L.take (k + 1) = L.take k ++ [((L.getD k (0, 0)).1, (L.getD k (0, 0)).2)]) := Lib.hid (by
        rw [List.take_succ_eq_append_getElem hkL]
        have : L.getD k (0, 0) = L[k] := by simp [List.getD, hkL]
        rw [this])
      have c2 := h2.body.c2
      have hbl := h2.lb
      generalize (L.getD k (0, 0)).1 = T at *
      generalize (L.getD k (0, 0)).2 = x at *
      generalize hA : hdd 0 (L.drop (k + 1)) = A at *
      have HA := Lib.hid hA
      clear hA
      generalize (lkAt L k).b = B' at *
      have hTI : (0 : Int) < ((T : Nat) : Int) := by omega
      have hTd : (((T : Nat) : Int) == 0) = false := by simp; omega
      have htl : (L.take k).length = k := by rw [List.length_take]; omega
      have HBW := Lib.hid hbw.out
      have HROW := Lib.hid hrow.out
      clear h2 hT eT ev ea hkL
      have hbl2 := hrow.out
      obtain ⟨W1, hW1⟩ : ∃ W1, wr.alloc (.cells #[.int .i64 x, .int .u64 ((B' : Nat) : Int), .int .u64 ((A : Nat) : Int)] 287) = W1 := ⟨_, rfl⟩
      have HW1 := Lib.hid hW1
      have HS1 : Hid (W1.heap.size = wr.heap.size + 1) := Lib.hid (by rw [← hW1]; simp)
      have HL1 : Hid (Below wr.heap.size wr W1) := Lib.hid (by rw [← hW1]; exact below_alloc _ _)
      have hlk : Hid (W1.heap[wr.heap.size]? = some (.cells #[.int .i64 x, .int .u64 ((B' : Nat) : Int), .int .u64 ((A : Nat) : Int)] 287 (0, 0))) := Lib.hid (by rw [← hW1]; exact block_new _ _ _ rfl)
      clear hbl2 hW1
      have hrw1 := Lib.hid (HROW.out.below HL1.out)
      go_wp2_with (at_builtin; rw [HW1.out]; refine wpList_append_row _ rfl _ _ 348 rfl 352 i0 (.agg #[.int .u64 0, .int .i64 0]) 2 16 Tryz.underlying348 hi0 hz0 hz1 hz2 rfl (by decide) w.heap.size (.slice va k vc) k (fl enE (L.take k)) rfl ?c5 ?c0 ⟨wr.heap.size + 1, 0, none⟩ 1 1 [.int .u64 ((T : Nat) : Int), .int .i64 x] rfl rfl ?c1 ?c2 (by decide) ?c3 ?c4 ?_)
      case c5 =>
        have h := World.ownsRow.alloc hrw1.out (.cells #[.int .u64 ((T : Nat) : Int), .int .i64 x] 352)
        unfold RowE at h
        rw [htl] at h
        exact h
      case c0 => have := HBW.out.size; have := HS1.out; simp; omega
      case c1 => rw [← HS1.out]; exact new_cells2 W1 _ _ _
      case c2 => simp [Value.oneCell']
      case c3 => unfold maxLen; omega
      case c4 => omega
      intro v' w4 hown hf hnear
      have hba : Below wr.heap.size wr (W1.alloc (.cells #[.int .u64 ((T : Nat) : Int), .int .i64 x] 352)) := HL1.out.trans ((below_alloc W1 _).mono HL1.out.size)
      have hFv : ∀ k', k' ∈ (Value.slice va k vc).ownBlock.toList → w.heap.size ≤ k' ∧ k' < wr.heap.size := fun k' hk' => World.ownsRow.lt HROW.out k' (by simpa using hk')
      have hlk4 := hf.same ((below_alloc W1 _).block _ (by have := HS1.out; omega) |>.trans hlk.out) (fun hm => by have := (hFv _ hm).2; omega)
      have hrow4 : RowE w4 w.heap.size v' (L.take (k + 1)) := by
        rw [HTK.out]
        unfold RowE
        rw [fl_append, List.length_append, htl]
        exact hown
      have hbw4 : Below w.heap.size w w4 := HBW.out.trans ((hba.mono HBW.out.size).trans (hf.below (fun x hx => (hFv x hx).1) (by have := hba.size; have := HBW.out.size; omega)))
      obtain ⟨va', vn', vc', rfl⟩ := row_form hrow4
      have hvn : vn' = k + 1 := by
        rcases hrow4.2 with ⟨hv, hn⟩ | ⟨g', cap, cu, hv, _⟩
        · rw [List.length_take] at hn; have := HN.out; omega
        · simp only [Value.slice.injEq] at hv
          rw [hv.2.1, List.length_take]; have := HN.out; omega
      subst hvn
      have k2 := cells_cell (o := 2) hlk4 rfl
      have hlt4 := lt_of_block hlk4
      have HR4 := Lib.hid hrow4
      have HB4 := Lib.hid hbw4
      clear hown hf hnear hba hFv hlk4 hrow4 hbw4 l1 c2 hbl hrow hbw
      go_wp2_with fail
      go_roundg (N - (k + 1))
      case measure => omega
      case rel => exact ⟨k + 1, va', vc', by omega, rfl, rfl, by rw [HA.out], HR4, HB4⟩
    · obtain rfl : k = N := by omega
      have e0 : hdd 0 (L.drop k) = 0 := by rw [HN.out, List.drop_length]; rfl
      rw [e0]
      have hfin := Lib.hid hrow.out
      have hb0 := Lib.hid hbw.out
      have eL : L.take k = L := by rw [HN.out, List.take_length]
      rw [eL] at hfin
      clear hrow hbw e0 eL
      go_wp2_with fail
      go_ret
      exact ⟨_, rfl, hfin.out, hb0.out⟩
end Go.Proofs.YtcjeckjmoponkaaGreatDoor
/- All: the iterator, and a range over it. -/
namespace Go.Proofs.YtcjeckjmoponkaaGreatDoor
open Go.RowKit Go.Sort Go.Shelf Go.MapKept
set_option linter.unusedVariables false
set_option linter.unusedSimpArgs false
attribute [local go_sem] Oper.semAt_some

/-- The iterator over the entries in block B. -/
def seqV (B : Nat) : Value := .func (.func 218) #[] #[.pointer (some ⟨B, 0, none⟩)]
/-- Below n0, only the blocks of F have changed. -/
structure Lets (F : List Nat) (n0 : Nat) (w w' : World) : Prop where
  size : w.heap.size ≤ w'.heap.size
  block : ∀ k, k < n0 → k ∉ F → w'.heap[k]? = w.heap[k]?
theorem Lets.refl (F : List Nat) (n0 : Nat) (w : World) : Lets F n0 w w := ⟨Nat.le_refl _, fun _ _ _ => rfl⟩
theorem Lets.trans {F : List Nat} {n0 : Nat} {a b c : World} (h : Lets F n0 a b) (k : Lets F n0 b c) : Lets F n0 a c := ⟨Nat.le_trans h.size k.size, fun x hx hn => (k.block x hx hn).trans (h.block x hx hn)⟩
theorem Lets.of_below {F : List Nat} {n n0 : Nat} {w w' : World} (h : Below n w w') (hn : n0 ≤ n) : Lets F n0 w w' := ⟨h.size, fun k hk _ => h.block k (by omega)⟩
theorem Lets.of_fr {F : List Nat} {n0 : Nat} {w w' : World} (h : Fr F w w') (hn : n0 ≤ w.heap.size) : Lets F n0 w w' := ⟨h.size, fun k hk hF => h.block k (by omega) hF⟩
/-- Block B holds a slice of entries; none of it lies in a block of F. -/
structure SeqAt (w : World) (F : List Nat) (B : Nat) (L : Qu) : Prop where
  lt : B < w.heap.size
  nB : B ∉ F
  len : L.length ≤ 1000000000
  ex : ∃ v, w.heap[B]? = some (.cells #[v] 348 (0, 0)) ∧ RowE w 0 v L ∧ (∀ g, v.ownBlock = some g → g ∉ F)

set_option maxHeartbeats 400000 in
theorem fiAll_any {w : World} {q b m g : Nat} {L : Qu} (h : QAt w q b m L g) (hg : g ≤ 1000000000) (F : List Nat) (hF : ∀ x ∈ F, x < w.heap.size) :
    Calls Tryz.prog 187 #[.pointer (some ⟨q, 0, none⟩)] w fun e w' => ∃ B, e = .returned (seqV B) ∧ SeqAt w' F B L ∧ Below w.heap.size w w' := by
  have hW := h.grown (below_alloc w (.cells #[.slice none 0 0] 348))
  have hlen : L.length ≤ 1000000000 := by have := h.inc.len; have := h.le; omega
  have hu := Lib.hid (fiUsable_yes hW)
  have he := Lib.hid (fiEntries_any hW hg)
  have c := hW.cq
  have HF := Lib.hid hF
  clear h hW
  go_enter Tryz.func187, Tryz.ntmps187
  go_wp2_with (first | (go_at_call 171; refine hu.out.mono ?_; rintro e w2 ⟨rfl, rfl⟩) | (go_at_call 217; fail))
  refine he.out.mono ?_
  rintro e w2 ⟨v, rfl, hr, hb⟩
  have hbl : w.heap.size < w2.heap.size := by have := hb.size; simp at this; omega
  have hB := (hb.block w.heap.size (by simp)).trans (block_new w (.cells #[.slice none 0 0] 348) _ rfl)
  have f0 := cells_free hB 0
  have c0 := cells_cell (o := 0) hB rfl
  have hset := cells_set hB 0 v
  have hne : ∀ g, v.ownBlock = some g → w.heap.size + 1 ≤ g := fun g hg' => by have := (World.ownsRow.lt hr g hg').1; simpa using this
  have hrow : RowE (w2.setCell ⟨w.heap.size, 0, none⟩ v) 0 v L := (fr_setCell w2 ⟨w.heap.size, 0, none⟩ v).row (ownsRow_mono hr (Nat.zero_le _)) (fun g hg' => by have := hne g hg'; simp; omega)
  have hbf : Below w.heap.size w (w2.setCell ⟨w.heap.size, 0, none⟩ v) := ((below_alloc w _).trans (hb.mono (by simp))).trans ((fr_setCell w2 ⟨w.heap.size, 0, none⟩ v).below (fun x hx => by simp at hx; omega) (by omega))
  have HS : Hid (SeqAt (w2.setCell ⟨w.heap.size, 0, none⟩ v) F w.heap.size L) := Lib.hid
    ⟨by simpa [World.setCell] using hbl, fun hm => Nat.lt_irrefl _ (HF.out _ hm), hlen, v, hset, hrow, fun g hg' hm => by have := hne g hg'; have := HF.out g hm; omega⟩
  have HBF := Lib.hid hbf
  obtain ⟨va, vn, vc, rfl⟩ := row_form hr
  clear hr hb hB hset hne hrow hbf
  go_wp2_with fail
  go_ret
  exact ⟨_, rfl, HS.out, HBF.out⟩
theorem fiAll_nil {w : World} {v : Value} (h : NoQ w v) (F : List Nat) (hF : ∀ x ∈ F, x < w.heap.size) :
    Calls Tryz.prog 187 #[v] w fun e w' => ∃ B, e = .returned (seqV B) ∧ SeqAt w' F B [] ∧ Below w.heap.size w w' := by
  have hu := Lib.hid (fiUsable_no (h.grown (below_alloc w (.cells #[.slice none 0 0] 348))))
  have HF := Lib.hid hF
  obtain ⟨a, rfl⟩ := h.form
  clear h
  go_enter Tryz.func187, Tryz.ntmps187
  go_wp2_with (go_at_call 171; refine hu.out.mono ?_; rintro e w2 ⟨rfl, rfl⟩)
  go_ret
  exact ⟨_, rfl, ⟨by simp, fun hm => Nat.lt_irrefl _ (HF.out _ hm), by simp, _, block_new _ _ _ rfl, World.ownsRow_nil _ _ _ _, fun g hg' => by cases hg'⟩, below_alloc _ _⟩

set_option maxRecDepth 100000 in
set_option maxHeartbeats 2000000 in
theorem it_in (F : Fence) (n : Nat) (h7 : F.fn 218) (hro : F.round = none) (hn : 1 ≤ n) (l B n0 : Nat) (Fs : List Nat) (L : Qu) (w0 : World) (hS : SeqAt w0 Fs B L) (hn0 : n0 = w0.heap.size) (J Jx : Nat → World → Prop)
    (hJ : ∀ k A B, J k A → Below A.heap.size A B → J k B)
    (hY : ∀ (k : Nat) (x : Nat × Int) W, J k W → L[k]? = some x → Lets Fs n0 w0 W → YieldAt F (n - 1) Tryz.prog l #[.int .u64 ((x.1 : Nat) : Int), .int .i64 x.2] W fun e W' =>
      (e = .returned (.bool true) ∧ J (k + 1) W' ∧ Lets Fs n0 W W') ∨ (e = .returned (.bool false) ∧ Jx (k + 1) W'))
    (W : World) (hW : Lets Fs n0 w0 W) (h0 : J 0 W) :
    CallsIn F n Tryz.prog 218 #[.func (.yield l) #[] #[], .pointer (some ⟨B, 0, none⟩)] W fun e W' => (∃ v, e = .returned v) ∧ (J L.length W' ∨ ∃ k, k ≤ L.length ∧ Jx k W') := by
  obtain ⟨v, hB, hrow, hg⟩ := hS.ex
  obtain ⟨va, vn, vc, rfl⟩ := row_form hrow
  have hvn : vn = L.length := by
    rcases hrow.2 with ⟨hv, hn⟩ | ⟨g', cap, cu, hv, _⟩
    · simp only [Value.slice.injEq] at hv; omega
    · simp only [Value.slice.injEq] at hv; exact hv.2.1
  subst hvn
  obtain ⟨N, hN⟩ : ∃ N, N = L.length := ⟨_, rfl⟩
  have hlen := hS.len
  rw [← hN] at hrow hg hB hlen
  have hNI : ((N : Nat) : Int) ≤ 1000000000 := by omega
  have HROW := Lib.hid hrow
  have HG := Lib.hid hg
  have HN := Lib.hid hN
  have HS := Lib.hid hS
  have HB := Lib.hid hB
  have HW := Lib.hid hW
  have HN0 := Lib.hid hn0
  have HJ := Lib.hid hJ
  have HY := Lib.hid hY
  have H0 := Lib.hid h0
  have hBl : B < W.heap.size := by have := hS.lt; have := hW.size; omega
  have c0 : W.cell? ⟨B, 0, none⟩ = some (.slice va N vc) := cells_cell ((hW.block B (by rw [hn0]; exact hS.lt) hS.nB).trans hB) rfl
  clear hrow hg hN hS hB hW hn0 hJ hY h0
  refine callsIn_of_wp Tryz.func218 rfl h7 ?_ hro
  simp only [Tryz.ntmps218, List.size_toArray, List.length_cons, List.length_nil, Nat.reduceAdd, Nat.reduceSub, Array.replicate_succ, Array.replicate_zero, List.push_toArray, List.append_toArray, List.nil_append, List.cons_append]
  gi_wp2
  gi_loopw [7] (fun i wr => ∃ k : Nat, k ≤ N ∧ i = .int .i64 (k : Nat) ∧ Hid (J k wr) ∧ Hid (Lets Fs n0 w0 wr))
    (fun i _ => N - (intOf i).toNat)
  case atStart => exact ⟨0, Nat.zero_le _, rfl, H0, HW⟩
  case round =>
    obtain ⟨k, hk, rfl, hJs, hnx⟩ := hrel
    by_cases hlt : k < N
    · have hkL : k < L.length := by rw [← HN.out]; exact hlt
      have hp : L[k]? = some L[k] := List.getElem?_eq_getElem hkL
      obtain ⟨g, rfl, hgl⟩ : ∃ g, va = some ⟨g, 0, none⟩ ∧ g < w0.heap.size := by
        rcases HROW.out.2 with ⟨hv, hn⟩ | ⟨g, cap, cu, hv, _, hh, _⟩
        · simp only [Value.slice.injEq] at hv; omega
        · simp only [Value.slice.injEq] at hv; exact ⟨g, hv.1, lt_of_block hh⟩
      obtain ⟨k0, k1⟩ := RowE.cells HROW.out k _ hp
      have hs : wr.heap[g]? = w0.heap[g]? := hnx.out.block g (by rw [HN0.out]; exact hgl) (HG.out g rfl)
      have k0 : wr.cell? ⟨g, k * 2, none⟩ = some (.int .u64 ((L[k].1 : Nat) : Int)) := (World.cell?_of_block (a := ⟨g, k * 2, none⟩) hs).trans k0
      have k1 : wr.cell? ⟨g, k * 2 + 1, none⟩ = some (.int .i64 L[k].2) := (World.cell?_of_block (a := ⟨g, k * 2 + 1, none⟩) hs).trans k1
      have hla := Lets.of_below (F := Fs) (n0 := n0) (below_alloc wr (.cells #[.int .u64 ((L[k].1 : Nat) : Int), .int .i64 L[k].2] 352)) (by have := hnx.out.size; have := HN0.out; omega)
      obtain ⟨fn, tmps, assign, body, hy, hR⟩ := HY.out k _ (wr.alloc (.cells #[.int .u64 ((L[k].1 : Nat) : Int), .int .i64 L[k].2] 352)) (HJ.out _ _ _ hJs.out (below_alloc _ _)) hp (hnx.out.trans hla)
      have hgw : g < wr.heap.size := by have := hnx.out.size; omega
      have q3 : (k : Int) < (N : Int) := by omega
      have HLA := Lib.hid (hnx.out.trans hla)
      generalize L[k].1 = T at *
      generalize L[k].2 = X at *
      clear hs hla hp hgl
      gi_wp2
      refine hR.mono ?_
      rintro e W3 (⟨rfl, hJ3, hk3⟩ | ⟨rfl, hJx3⟩)
      · gi_wp2
        go_roundw
        case rel => exact ⟨k + 1, by omega, by go_num, Lib.hid hJ3, Lib.hid (HLA.out.trans hk3)⟩
        case measure => simp [intOf]; omega
      · gi_wp2
        refine bodyPost_ret (results_none rfl _ _ _) rfl ?_
        exact ⟨⟨_, rfl⟩, .inr ⟨k + 1, by omega, hJx3⟩⟩
    · obtain rfl : k = N := by omega
      gi_wp2
      go_end0
      exact ⟨⟨_, rfl⟩, .inl (by rw [← HN.out]; exact hJs.out)⟩
end Go.Proofs.YtcjeckjmoponkaaGreatDoor
/- A range over the values of a queue. -/
namespace Go.Proofs.YtcjeckjmoponkaaGreatDoor
open Go.RowKit Go.Sort Go.Shelf Go.MapKept
set_option linter.unusedVariables false
set_option linter.unusedSimpArgs false
attribute [local go_sem] Oper.semAt_some

/-- How the body of a round over the values may be left. -/
def roundK (Fs : List Nat) (B : Nat) (I : Nat → World → Prop) (Ix : Code → Nat → World → Prop) (k : Nat) (W : World) : Exit → Act → World → Prop
  | .normal, _, W' => KeepsFrom B W W' ∧ Lets Fs B W W' ∧ I k W'
  | .ret, _, W' => KeepsFrom B W W' ∧ Ix .ret k W'
  | .exit id, _, W' => KeepsFrom B W W' ∧ Ix (.exit id) k W'
  | .goto t, _, W' => KeepsFrom B W W' ∧ Ix (.goto t) k W'
  | .panic _, _, _ => False
  | .outgrown, _, _ => False

theorem grownBy_of_below {A B : World} (h : Below A.heap.size A B) : A.grownBy B none := ⟨h.os, h.tape, h.output, h.size, fun k hk _ => h.block k hk⟩

/-- A range over the values of a queue. -/
theorem range_vals {n : Nat} {g : Operand} {ps : Array Tmp} {assign body : Code} {Q : Exit → Act → World → Prop} {a : Act} {w : World} {B : Nat} {Fs : List Nat} {L : Qu}
    (h1 : 3 ≤ n) (hg : a.eval g = seqV B) (hS : SeqAt w Fs B L) (hps : ps.size = 2)
    (I : Nat → World → Prop) (Ix : Code → Nat → World → Prop) (hI : OwnFrom w.heap.size I) (hIx : ∀ c, OwnFrom w.heap.size (Ix c)) (h0 : I 0 w)
    (hround : ∀ (l k : Nat) (x : Nat × Int) (W : World), w.heap.size ≤ l → L[k]? = some x → Lets Fs w.heap.size w W → I k W →
      assign.wpIn (Fence.wide.inRound l) (n - 1 - 1) Tryz.prog (Exit.then (fun a' W' => W' = W ∧ ∀ W2, Lets Fs w.heap.size w W2 → I k W2 → body.wpIn (Fence.wide.inRound l) (n - 1 - 1) Tryz.prog (roundK Fs w.heap.size I Ix (k + 1) W2) a' W2) (fun _ _ _ => False))
        { tmps := (ps.zip #[.int .u64 ((x.1 : Nat) : Int), .int .i64 x.2]).foldl (fun t (p, v) => t.setIfInBounds p v) a.tmps, defers := [] } W)
    (hdone : ∀ (D : Nat) (W : World), w.heap.size ≤ D → I L.length W → W.heap[D]? = some (.deferred (some [])) → Q .normal { a with defers := { target := .collected D, args := #[] } :: a.defers } W)
    (hstop : ∀ (D : Nat) (c : Code) (k : Nat) (W : World), w.heap.size ≤ D → k ≤ L.length → Ix c k W → W.heap[D]? = some (.deferred (some [])) → c.wpIn Fence.wide n Tryz.prog Q { a with defers := { target := .collected D, args := #[] } :: a.defers } W) :
    (Code.rangeFunc g ps assign body).wpIn Fence.wide n Tryz.prog Q a w := by
  refine wpIn_rangeFunc ?_
  intro fn hfn
  obtain ⟨rec, hrec⟩ : ∃ rec : LoopState → Option Code → Loop, rec = fun st pe => { state := st, pending := pe, fn, tmps := a.tmps, params := ps, assign, body, defers := w.heap.size } := ⟨_, rfl⟩
  obtain ⟨W1, hW1⟩ : ∃ W1, (w.alloc (.deferred (some []))).alloc (.loop (rec .ready none)) = W1 := ⟨_, rfl⟩
  have hs1 : W1.heap.size = w.heap.size + 2 := by rw [← hW1]; simp
  have hL1 : W1.heap[w.heap.size + 1]? = some (.loop (rec .ready none)) := by
    have := World.alloc_heap_new (w.alloc (.deferred (some []))) (.loop (rec .ready none))
    rw [World.size_alloc] at this
    rwa [← hW1]
  have hb01 : Lets Fs w.heap.size w W1 := by rw [← hW1]; exact Lets.of_below ((below_alloc _ _).trans ((below_alloc _ _).mono (by simp))) (Nat.le_refl _)
  have hK1 : W1.heap[w.heap.size]? = some (.deferred (some [])) := by
    rw [← hW1]; exact (Below.heap_alloc _ _ _ (by simp)).trans (World.alloc_heap_new w _)
  have hI1 : I 0 W1 := by rw [← hW1]; exact hI.alloc _ (hI.alloc _ h0)
  refine ⟨w.heap.size + 1, [{ target := .collected w.heap.size, args := #[] }], W1, { target := .fn (.func 218) #[.pointer (some ⟨B, 0, none⟩)], args := #[.func (.yield (w.heap.size + 1)) #[] #[]] }, W1, 218,
    #[.func (.yield (w.heap.size + 1)) #[] #[], .pointer (some ⟨B, 0, none⟩)], W1, ?_, ?_, ?_, ?_, fun _ => by omega, ?_⟩
  · rw [← hW1, hrec]; exact run_enterLoop_outer _ _ _ _ _
  · simp only [resolve, hg, seqV]
    simp [go_sem]
  · intro f' hf'; trivial
  · have eg := enters_of Tryz.func218 (by kernel_rfl) rfl
    simp [invoke, go_sem, eg #[.func (.yield (w.heap.size + 1)) #[] #[], .pointer (some ⟨B, 0, none⟩)] W1]
  · have hlo : ∀ {A A' : World}, Below A.heap.size A A' → ∀ (k : Nat) (o : Obj), A.heap[k]? = some o → A'.heap[k]? = some o := fun h k o ho => (h.block k (lt_of_block ho)).trans ho
    refine (it_in Fence.wide (n - 1) trivial rfl (by omega) (w.heap.size + 1) B w.heap.size Fs L w hS rfl
      (fun k W => I k W ∧ W.heap[w.heap.size + 1]? = some (.loop (rec .ready none)) ∧ W.heap[w.heap.size]? = some (.deferred (some [])))
      (fun k W => ∃ c, Ix c k W ∧ W.heap[w.heap.size + 1]? = some (.loop (rec .done (some c))) ∧ W.heap[w.heap.size]? = some (.deferred (some [])))
      (fun k A A' h hb => ⟨hI k A A' none h.1 (grownBy_of_below hb) (fun r e => by cases e), hlo hb _ _ h.2.1, hlo hb _ _ h.2.2⟩) ?_ W1 hb01 ⟨hI1, hL1, hK1⟩).mono ?_
    · rintro k x W ⟨hi, hl, hk⟩ hp hbW
      have hlt : w.heap.size + 1 < W.heap.size := lt_of_block hl
      have hy := run_yield (P := Tryz.prog) (args := #[.int .u64 ((x.1 : Nat) : Int), .int .i64 x.2]) hl (by rw [hrec]; simp [hps])
      rw [hrec] at hy
      refine ⟨fn, _, assign, body, hy, roundIn_of_wpIn hfn (wpIn_mono (hround _ k x W (by omega) hp hbW hi) ?_)⟩
      clear hy
      intro e a' W' hpost
      cases e with
      | normal => ?_
      | _ => exact hpost.elim
      obtain ⟨hWW, hbody⟩ := hpost
      rw [hWW]
      refine ⟨_, run_beginRound hl (by rw [hrec]), ?_⟩
      obtain ⟨rb, hrb⟩ : ∃ rb, rb = ({ rec .ready none with state := .busy } : Loop) := ⟨_, rfl⟩
      rw [← hrb]
      have hl2 : (W.putObj (w.heap.size + 1) (.loop rb)).heap[w.heap.size + 1]? = some (.loop rb) := World.putObj_heap_same hlt
      have hk2 : (W.putObj (w.heap.size + 1) (.loop rb)).heap[w.heap.size]? = some (.deferred (some [])) := (World.putObj_heap_other (by omega)).trans hk
      have hw2 : Lets Fs w.heap.size W (W.putObj (w.heap.size + 1) (.loop rb)) := Lets.of_below (belowK_b (w := w) (Nat.le_refl _) W _ _ _ (by omega) hl rfl rfl) (Nat.le_refl _)
      refine wpIn_mono (hbody _ (hbW.trans hw2) (hI.putObj _ hi (by omega) hl rfl)) ?_
      have fin : ∀ (jump : Option Code) (W3 : World), KeepsFrom w.heap.size (W.putObj (w.heap.size + 1) (.loop rb)) W3 →
          (Instr.endRound (w.heap.size + 1) jump).run Tryz.prog W3 = .ok (.bool jump.isNone) (W3.putObj (w.heap.size + 1) (.loop (rec (if jump.isNone then .ready else .done) jump))) ∧
          W3.heap[w.heap.size + 1]? = some (.loop rb) ∧
          (W3.putObj (w.heap.size + 1) (.loop (rec (if jump.isNone then .ready else .done) jump))).heap[w.heap.size + 1]? = some (.loop (rec (if jump.isNone then .ready else .done) jump)) ∧
          (W3.putObj (w.heap.size + 1) (.loop (rec (if jump.isNone then .ready else .done) jump))).heap[w.heap.size]? = some (.deferred (some [])) := fun jump W3 hk3 => by
        have hl3 := hk3.same _ _ (by omega) hl2 rfl
        have hend := run_endRound (P := Tryz.prog) jump hl3
        refine ⟨?_, hl3, World.putObj_heap_same (lt_of_block hl3), (World.putObj_heap_other (by omega)).trans (hk3.same _ _ (Nat.le_refl _) hk2 rfl)⟩
        rw [hend, hrb, hrec]
      rintro e a3 W3 hp3
      cases e with
      | normal =>
        obtain ⟨hk3, hkp3, hi3⟩ := hp3
        obtain ⟨hr, hl3, hl4, hk4⟩ := fin none W3 hk3
        exact ⟨_, _, hr, .inl ⟨rfl, ⟨hI.putObj _ hi3 (by omega) hl3 rfl, hl4, hk4⟩, (hw2.trans hkp3).trans (Lets.of_below (belowK_b (w := w) (Nat.le_refl _) W3 _ _ _ (by omega) hl3 rfl rfl) (Nat.le_refl _))⟩⟩
      | ret =>
        obtain ⟨hk3, hi3⟩ := hp3
        obtain ⟨hr, hl3, hl4, hk4⟩ := fin (some .ret) W3 hk3
        exact ⟨_, _, hr, .inr ⟨rfl, .ret, (hIx _).putObj _ hi3 (by omega) hl3 rfl, hl4, hk4⟩⟩
      | exit id =>
        obtain ⟨hk3, hi3⟩ := hp3
        obtain ⟨hr, hl3, hl4, hk4⟩ := fin (some (.exit id)) W3 hk3
        exact ⟨_, _, hr, .inr ⟨rfl, .exit id, (hIx _).putObj _ hi3 (by omega) hl3 rfl, hl4, hk4⟩⟩
      | goto t =>
        obtain ⟨hk3, hi3⟩ := hp3
        obtain ⟨hr, hl3, hl4, hk4⟩ := fin (some (.goto t)) W3 hk3
        exact ⟨_, _, hr, .inr ⟨rfl, .goto t, (hIx _).putObj _ hi3 (by omega) hl3 rfl, hl4, hk4⟩⟩
      | panic ch => exact hp3.elim
      | outgrown => exact hp3.elim
    · rintro e W2 ⟨⟨v, rfl⟩, (⟨hi, hl, hk⟩ | ⟨k, hkle, c, hi, hl, hk⟩)⟩
      · obtain ⟨o', he⟩ : ∃ o', (Instr.endLoop (w.heap.size + 1)).run Tryz.prog W2 = .ok none (W2.putObj (w.heap.size + 1) o') := ⟨_, by
          have := run_endLoop (P := Tryz.prog) hl (by rw [hrec]; simp)
          rw [hrec] at this
          exact this⟩
        exact ⟨none, _, he, hdone _ _ (Nat.le_refl _) (hI.putObj _ hi (by omega) hl rfl) ((World.putObj_heap_other (by omega)).trans hk)⟩
      · obtain ⟨o', he⟩ : ∃ o', (Instr.endLoop (w.heap.size + 1)).run Tryz.prog W2 = .ok (some c) (W2.putObj (w.heap.size + 1) o') := ⟨_, by
          have := run_endLoop (P := Tryz.prog) hl (by rw [hrec]; simp)
          rw [hrec] at this
          exact this⟩
        exact ⟨some c, _, he, hstop _ c k _ (Nat.le_refl _) hkle ((hIx c).putObj _ hi (by omega) hl rfl) ((World.putObj_heap_other (by omega)).trans hk)⟩
end Go.Proofs.YtcjeckjmoponkaaGreatDoor
/- What a function that ranges over a function must achieve. -/
namespace Go.Proofs.YtcjeckjmoponkaaGreatDoor
open Go.RowKit Go.Sort Go.Shelf Go.MapKept
set_option linter.unusedVariables false
set_option linter.unusedSimpArgs false

/-- What the body of a function that ranges over a function must achieve: it does not panic. -/
def postM (P : Program) (fn : Func) (R : Ending → World → Prop) : Exit → Act → World → Prop
  | .normal, a, w | .ret, a, w => LeavesInM Fence.wide 6 P fn a.tmps R a.defers .returning w
  | _, _, _ => False
theorem postM_le {P : Program} {fn : Func} {R : Ending → World → Prop} : ∀ e a w, postM P fn R e a w → bodyPostM Fence.wide 6 P fn R e a w
  | .normal, _, _, h => h
  | .ret, _, _, h => h
  | .panic _, _, _, h => h.elim
  | .outgrown, _, _, h => h.elim
  | .exit _, _, _, h => h.elim
  | .goto _, _, _, h => h.elim
theorem calls_marks {P : Program} {f : FuncId} {fn : Func} {c : Code} {args : Array Value} {w : World} {R : Ending → World → Prop} (hf : P.funcs[f]? = some fn) (hb : fn.body = some c)
    (h : c.wp P (postM P fn R) { tmps := args ++ Array.replicate (fn.ntmps - args.size) undef, defers := [] } w) : Calls P f args w R :=
  (callsIn_wide (n := 6)).1 (callsIn_of_wp_marks hf hb trivial (wpIn_wide.2 (wp_mono h postM_le)) rfl)

theorem SeqAt.more {w W : World} {F : List Nat} {B : Nat} {L : Qu} (h : SeqAt w [] B L) (hb : Below w.heap.size w W) (hF : ∀ x ∈ F, w.heap.size ≤ x) : SeqAt W F B L := by
  obtain ⟨v, h1, h2, _⟩ := h.ex
  refine ⟨by have := hb.size; have := h.lt; omega, fun hm => by have := hF _ hm; have := h.lt; omega, h.len, v, (hb.block _ h.lt).trans h1, RowE.below h2 hb, fun g hg hm => ?_⟩
  have := (World.ownsRow.lt h2 g hg).2
  have := hF g hm
  omega

end Go.Proofs.YtcjeckjmoponkaaGreatDoor
