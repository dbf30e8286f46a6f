/- The reference heap: At and Copy. -/
import Derived.Test.YtpbnbddjfebenaaDoorLKnown
import Derived.Test.YtpbnbddjfebenaaDoorLOrd
namespace Go.Proofs.YtpbnbddjfebenaaDoor
open Go.RowKit Go.Sort
set_option linter.unusedVariables false
set_option linter.unusedSimpArgs false

/-- The cells of the reference's elements. -/
def cellsE (e : El) : List Value := [.int .i64 e.h, .int .i64 e.v, .int .u64 e.k]
def cellsS : List El → List Value
  | [] => []
  | e :: S => .int .i64 e.h :: .int .i64 e.v :: .int .u64 e.k :: cellsS S

theorem cellsS_append : ∀ (S T : List El), cellsS (S ++ T) = cellsS S ++ cellsS T
  | [], T => rfl
  | e :: S, T => by show _ :: _ :: _ :: cellsS (S ++ T) = _; rw [cellsS_append S T]; rfl
theorem cellsS_len : ∀ S : List El, (cellsS S).length = S.length * 3
  | [] => rfl
  | e :: S => by show (cellsS S).length + 1 + 1 + 1 = _; rw [cellsS_len S, List.length_cons]; omega
theorem cellsS_one : ∀ (S : List El), ∀ u ∈ cellsS S, u.oneCell' = true
  | [], u, h => by simp [cellsS] at h
  | e :: S, u, h => by
    simp only [cellsS, List.mem_cons] at h
    rcases h with rfl | rfl | rfl | h
    · rfl
    · rfl
    · rfl
    · exact cellsS_one S u h
theorem cellsS_get : ∀ (S : List El) (j : Nat) (e : El), S[j]? = some e → (cellsS S)[j * 3]? = some (.int .i64 e.h) ∧ (cellsS S)[j * 3 + 1]? = some (.int .i64 e.v) ∧ (cellsS S)[j * 3 + 2]? = some (.int .u64 e.k)
  | [], j, e, h => by simp at h
  | x :: S, 0, e, h => by simp at h; subst h; exact ⟨rfl, rfl, rfl⟩
  | x :: S, j + 1, e, h => by
    have := cellsS_get S j e (by simpa using h)
    rw [show (j + 1) * 3 = j * 3 + 1 + 1 + 1 by omega]
    simpa [cellsS] using this

/-- A slice of the reference's elements. -/
def RowR (w : World) (base : Nat) (s : Value) (S : List El) : Prop := w.ownsRow base 64 3 s S.length (cellsS S)

theorem RowR.cells {w : World} {base n cap g : Nat} {S : List El} (h : RowR w base (.slice (some ⟨g, 0, none⟩) n cap) S) (j : Nat) (e : El) (hj : S[j]? = some e) :
    w.cell? ⟨g, j * 3, none⟩ = some (.int .i64 e.h) ∧ w.cell? ⟨g, j * 3 + 1, none⟩ = some (.int .i64 e.v) ∧ w.cell? ⟨g, j * 3 + 2, none⟩ = some (.int .u64 e.k) := by
  have hn : n = S.length := by
    rcases h.2 with ⟨h', _⟩ | ⟨_, _, _, h', _⟩
    · simp at h'
    · simp at h'; exact h'.2.1
  subst hn
  have hr := row_cells h
  obtain ⟨h0, h1, h2⟩ := cellsS_get S j e hj
  have a0 := hr _ _ h0
  have a1 := hr _ _ h1
  have a2 := hr _ _ h2
  rw [Go.WideShapes.add_plain, Nat.zero_add] at a0 a1 a2
  exact ⟨a0, a1, a2⟩
theorem RowR.form {w : World} {base : Nat} {s : Value} {S : List El} (h : RowR w base s S) : (s = .slice none 0 0 ∧ S = []) ∨ ∃ g cap, s = .slice (some ⟨g, 0, none⟩) S.length cap ∧ base ≤ g ∧ g < w.heap.size ∧ S.length ≤ cap ∧ cap ≤ maxLen := by
  have hlt := h.lt
  rcases h.2 with ⟨rfl, hn⟩ | ⟨g, cap, cur, rfl, hb, hg, h1, h2, _⟩
  · exact .inl ⟨rfl, List.eq_nil_of_length_eq_zero hn⟩
  · exact .inr ⟨g, cap, rfl, hb, (hlt g rfl).2, h1, h2⟩
theorem RowR.below {w w' : World} {base : Nat} {s : Value} {S : List El} (h : RowR w base s S) (hb : Below w.heap.size w w') : RowR w' base s S := (Fr.of_below hb []).row h (fun _ _ => by simp)
theorem RowR.keep {w w' : World} {base : Nat} {s : Value} {S : List El} (h : RowR w base s S) (hk : ∀ g, s.ownBlock = some g → w'.heap[g]? = w.heap[g]?) : RowR w' base s S := by
  refine ⟨h.1, ?_⟩
  rcases h.2 with h' | ⟨g, cap, cur, rfl, hb, hg, r⟩
  · exact .inl h'
  · exact .inr ⟨g, cap, cur, rfl, hb, (hk g rfl).trans hg, r⟩
theorem RowR.mono {w : World} {base base' : Nat} {s : Value} {S : List El} (h : RowR w base s S) (hb : base' ≤ base) : RowR w base' s S := ownsRow_mono h hb

/-- What At says. -/
def AtR (S : List El) (n r : Int) : Prop := (∃ (i : Nat) (e : El), S[i]? = some e ∧ r = i ∧ (e.h : Int) = n) ∨ (r = -1 ∧ ∀ e ∈ S, (e.h : Int) ≠ n)

set_option maxHeartbeats 1600000 in
theorem rat_any {w : World} {s : Value} {S : List El} (h : RowR w 0 s S) (hl : S.length ≤ 1024) (n : Int) :
    Calls Tryd.prog 39 #[.agg #[s], .int .i64 n] w fun e w' => ∃ r, e = .returned (.int .i64 r) ∧ AtR S n r ∧ Below w.heap.size w w' := by
  have hb : Below w.heap.size w (w.alloc (.cells #[s] 28)) := (Below.refl _ _).alloc (Nat.le_refl _) _
  have HR := Lib.hid (h.below hb)
  have hf : ∃ a c, s = .slice a S.length c := by
    rcases h.form with ⟨rfl, rfl⟩ | ⟨g, cap, rfl, _⟩
    · exact ⟨_, _, rfl⟩
    · exact ⟨_, _, rfl⟩
  obtain ⟨a, c, rfl⟩ := hf
  clear h
  go_enter Tryd.func39, Tryd.ntmps39
  go_wp2_with fail
  have hbox : (w.alloc (.cells #[.slice a S.length c] 28)).cell? ⟨w.heap.size, 0, none⟩ = some (.slice a S.length c) := cell_new _ _ _ _ _ _ rfl rfl
  generalize hw1 : w.alloc (.cells #[.slice a S.length c] 28) = w1 at *
  clear hw1
  have HB := Lib.hid hb
  clear hb
  go_loopw [5] (fun i wr => ∃ k : Nat, k ≤ S.length ∧ i = .int .i64 k ∧ (∃ m, wr = w1.drewN m) ∧ ∀ j e, j < k → S[j]? = some e → (e.h : Int) ≠ n) (fun i _ => S.length - (intOf i).toNat)
  case atStart => exact ⟨0, Nat.zero_le _, rfl, ⟨0, rfl⟩, fun j e hj => by omega⟩
  case round =>
    obtain ⟨k, hk, rfl, ⟨m, rfl⟩, hno⟩ := hrel
    have Hno := Lib.hid hno
    clear hno
    by_cases hlt : k < S.length
    · obtain ⟨x, hx⟩ : ∃ x, S[k]? = some x := ⟨_, List.getElem?_eq_getElem hlt⟩
      have g1 : (k : Int) < (S.length : Int) := by omega
      have g2 : (0 : Int) ≤ (k : Int) := by omega
      rcases HR.out.form with ⟨_, h0⟩ | ⟨g, cap, hs, _, _, _, _⟩
      · rw [h0] at hlt; simp at hlt
      · simp only [Value.slice.injEq, true_and] at hs
        obtain ⟨rfl, rfl⟩ := hs
        obtain ⟨c0, _, _⟩ := HR.out.cells k x hx
        by_cases hq : (x.h : Int) = n
        · have q : ((x.h : Int) == n) = true := by simp [hq]
          go_wp2_with fail
          go_ret
          exact ⟨k, rfl, .inl ⟨k, x, hx, rfl, hq⟩, (fr_drewN _ m []).below (fun _ hx => by simp at hx) HB.out.size |> HB.out.trans⟩
        · have q : ((x.h : Int) == n) = false := by simp [hq]
          go_wp2_with fail
          go_roundw
          case rel =>
            refine ⟨k + 1, by omega, by go_num, ⟨m, rfl⟩, fun j e hj he => ?_⟩
            by_cases hjk : j = k
            · subst hjk; rw [hx] at he; cases he; exact hq
            · exact Hno.out j e (by omega) he
          case measure => simp [intOf]; omega
    · obtain rfl : k = S.length := by omega
      go_wp2_with fail
      go_ret
      refine ⟨-1, rfl, .inr ⟨rfl, fun e he => ?_⟩, (fr_drewN _ m []).below (fun _ hx => by simp at hx) HB.out.size |> HB.out.trans⟩
      obtain ⟨j, hj, rfl⟩ := List.getElem_of_mem he
      exact Hno.out j _ hj (List.getElem?_eq_getElem hj)

theorem res_cell {w0 w1 : World} {bb base : Nat} {s u : Value} {cur : Array Value} {S : List El} (hh : w1.heap[bb]? = some (.cells cur 28 (0, 0))) (hbb : w0.heap.size ≤ bb) (hr : w1.ownsRow base 64 3 s S.length (cellsS S)) (hb : Below w0.heap.size w0 w1) :
    RowR (w1.setCell ⟨bb, 0, none⟩ u) base s S ∧ Below w0.heap.size w0 (w1.setCell ⟨bb, 0, none⟩ u) := by
  have hf : Fr [bb] w1 (w1.setCell ⟨bb, 0, none⟩ u) := fr_setCell w1 ⟨bb, 0, none⟩ u
  refine ⟨hf.row hr (fun g hg => ?_), hb.trans (hf.below (fun x hx => ?_) hb.size)⟩
  · have := BodAt.row_ne hr hh (by decide) g hg
    simpa using this
  · simp at hx; subst hx; exact hbb

theorem infoREl : (Tryd.prog.info? 64).map (fun i => (i.zero, i.size, i.bytes)) = some (some (.agg #[.int .i64 0, .int .i64 0, .int .u64 0]), 3, 24) := by kernel_rfl

set_option maxHeartbeats 1600000 in
set_option maxRecDepth 100000 in
theorem rcopy_any {w : World} {s : Value} {S : List El} (h : RowR w 0 s S) (hl : S.length ≤ 1024) :
    Calls Tryd.prog 23 #[.agg #[s]] w fun e w' => ∃ s', e = .returned (.agg #[s']) ∧ RowR w' w.heap.size s' S ∧ Below w.heap.size w w' := by
  obtain ⟨i0, hi, hz0, hz1, hz2⟩ := info_parts infoREl
  have hb : Below w.heap.size w ((w.alloc (.cells #[s] 28)).alloc (.cells #[.slice none 0 0] 28)) := ((Below.refl _ _).alloc (Nat.le_refl _) _).alloc (by simp) _
  have HR := Lib.hid (h.below hb)
  rcases h.form with ⟨rfl, rfl⟩ | ⟨g, cap, rfl, _⟩
  · clear h
    go_enter Tryd.func23, Tryd.ntmps23
    go_wp2_with fail
    refine bodyPost_ret (v := .agg #[.slice none 0 0]) (by simp [results, Tryd.results23, go_sem]) rfl ⟨_, rfl, World.ownsRow_nil _ _ _ _, hb⟩
  · clear h
    go_enter Tryd.func23, Tryd.ntmps23
    go_wp2_with (at_builtin; refine wpList_append_own _ rfl _ _ 26 rfl w.heap.size 64 i0 (.agg #[.int .i64 0, .int .i64 0, .int .u64 0]) 3 24 Tryd.underlying26 hi hz0 hz1 hz2 rfl (by decide) _ _ _ rfl (World.ownsRow_nil _ _ _ _) ⟨g, 0, none⟩ S.length cap (cellsS S) rfl ?qc1 ?qc2 ?qc3 ?qc4 ?qc5 ?qc6 ?_)
    case qc1 => exact cellsS_len S
    case qc2 => exact row_cells HR.out
    case qc3 => exact cellsS_one S
    case qc4 => rw [Nat.zero_add]; unfold maxLen; omega
    case qc5 => rw [Nat.zero_add]; omega
    case qc6 => simp; omega
    intro v' w1 hown hgrow hnil
    have hh : w1.heap[w.heap.size + 1]? = some (.cells #[.slice none 0 0] 28 (0, 0)) := (hgrow.block (w.heap.size + 1) (by simp) (by simp [Value.ownBlock])).trans (block_new _ _ _ (by simp))
    have hc := cells_cell (o := 0) hh rfl
    have hf := cells_free hh 0
    obtain ⟨a', n', c', rfl⟩ := row_form hown
    have hb1 : Below w.heap.size w w1 := hb.grown hgrow (by simp; omega) (fun k hk => by simp [Value.ownBlock] at hk)
    have Hfin := Lib.hid (res_cell hh (by omega) (u := .slice a' n' c') hown hb1)
    clear hown hgrow hb hb1 hnil hz0 hz1 hz2 hi
    go_wp2_with fail
    exact bodyPost_ret (v := .agg #[.slice a' n' c']) (by simp [results, Tryd.results23, go_sem, World.cell?_setCell_same _ _ _ hc]) rfl ⟨_, rfl, Hfin.out.1, Hfin.out.2⟩
end Go.Proofs.YtpbnbddjfebenaaDoor
