/- The reference of the timers: a list of all that ever were. Len, At, many, Copy. -/
import Derived.Test.YthlbnlbkgiclpaaDoorTConst
namespace Go.Proofs.YthlbnlbkgiclpaaDoor
open Go.RowKit Go.Sort
set_option linter.unusedVariables false
set_option linter.unusedSimpArgs false

structure Tm where
  n : Nat
  g : Nat
  o : Int
  k : Int
  gone : Bool

def cellsM : List Tm → List Value
  | [] => []
  | e :: S => .int .i64 e.n :: .int .i64 e.g :: .int .i64 e.o :: .int .u64 e.k :: .bool e.gone :: cellsM S
theorem cellsM_append : ∀ (S T : List Tm), cellsM (S ++ T) = cellsM S ++ cellsM T
  | [], T => rfl
  | e :: S, T => by show _ :: _ :: _ :: _ :: _ :: cellsM (S ++ T) = _; rw [cellsM_append S T]; rfl
theorem cellsM_len : ∀ S : List Tm, (cellsM S).length = S.length * 5
  | [] => rfl
  | e :: S => by show (cellsM S).length + 1 + 1 + 1 + 1 + 1 = _; rw [cellsM_len S, List.length_cons]; omega
theorem cellsM_one : ∀ (S : List Tm), ∀ u ∈ cellsM S, u.oneCell' = true
  | [], u, h => by simp [cellsM] at h
  | e :: S, u, h => by
    simp only [cellsM, List.mem_cons] at h
    rcases h with rfl | rfl | rfl | rfl | rfl | h
    · rfl
    · rfl
    · rfl
    · rfl
    · rfl
    · exact cellsM_one S u h
theorem cellsM_get : ∀ (S : List Tm) (j : Nat) (e : Tm), S[j]? = some e → (cellsM S)[j * 5]? = some (.int .i64 e.n) ∧ (cellsM S)[j * 5 + 1]? = some (.int .i64 e.g) ∧ (cellsM S)[j * 5 + 2]? = some (.int .i64 e.o) ∧ (cellsM S)[j * 5 + 3]? = some (.int .u64 e.k) ∧ (cellsM S)[j * 5 + 4]? = some (.bool e.gone)
  | [], j, e, h => by simp at h
  | x :: S, 0, e, h => by simp at h; subst h; exact ⟨rfl, rfl, rfl, rfl, rfl⟩
  | x :: S, j + 1, e, h => by
    have := cellsM_get S j e (by simpa using h)
    rw [show (j + 1) * 5 = j * 5 + 1 + 1 + 1 + 1 + 1 by omega]
    simpa [cellsM] using this

def RowM (w : World) (base : Nat) (s : Value) (L : List Tm) : Prop := w.ownsRow base 62 5 s L.length (cellsM L)
theorem RowM.cells {w : World} {base n cap g : Nat} {D : List Tm} (h : RowM w base (.slice (some ⟨g, 0, none⟩) n cap) D) (j : Nat) (e : Tm) (hj : D[j]? = some e) :
    w.cell? ⟨g, j * 5, none⟩ = some (.int .i64 e.n) ∧ w.cell? ⟨g, j * 5 + 1, none⟩ = some (.int .i64 e.g) ∧ w.cell? ⟨g, j * 5 + 2, none⟩ = some (.int .i64 e.o) ∧ w.cell? ⟨g, j * 5 + 3, none⟩ = some (.int .u64 e.k) ∧ w.cell? ⟨g, j * 5 + 4, none⟩ = some (.bool e.gone) := by
  have hn : n = D.length := by
    rcases h.2 with ⟨h', _⟩ | ⟨_, _, _, h', _⟩
    · simp at h'
    · simp at h'; exact h'.2.1
  subst hn
  have hr := row_cells h
  obtain ⟨h0, h1, h2, h3, h4⟩ := cellsM_get D j e hj
  have a0 := hr _ _ h0
  have a1 := hr _ _ h1
  have a2 := hr _ _ h2
  have a3 := hr _ _ h3
  have a4 := hr _ _ h4
  rw [Go.WideShapes.add_plain, Nat.zero_add] at a0 a1 a2 a3 a4
  exact ⟨a0, a1, a2, a3, a4⟩
theorem RowM.below {w w' : World} {base : Nat} {s : Value} {D : List Tm} (h : RowM w base s D) (hb : Below w.heap.size w w') : RowM w' base s D := (Fr.of_below hb []).row h (fun _ _ => by simp)
theorem RowM.keep {w w' : World} {base : Nat} {s : Value} {D : List Tm} (h : RowM w base s D) (hk : ∀ g, s.ownBlock = some g → w'.heap[g]? = w.heap[g]?) : RowM w' base s D := by
  refine ⟨h.1, ?_⟩
  rcases h.2 with h' | ⟨g, cap, cur, rfl, hb, hg, r⟩
  · exact .inl h'
  · exact .inr ⟨g, cap, cur, rfl, hb, (hk g rfl).trans hg, r⟩
theorem RowM.mono {w : World} {base base' : Nat} {s : Value} {D : List Tm} (h : RowM w base s D) (hb : base' ≤ base) : RowM w base' s D := ownsRow_mono h hb
theorem infoM : (Tryd.prog.info? 62).map (fun i => (i.zero, i.size, i.bytes)) = some (some (.agg #[.int .i64 0, .int .i64 0, .int .i64 0, .int .u64 0, .bool false]), 5, 40) := by kernel_rfl

def alive (L : List Tm) : List Tm := L.filter fun e => !e.gone
theorem alive_take {L : List Tm} {k : Nat} {e : Tm} (h : L[k]? = some e) : alive (L.take (k + 1)) = alive (L.take k) ++ (if e.gone then [] else [e]) := by
  rw [List.take_add_one, h]
  unfold alive
  rw [List.filter_append]
  cases hg : e.gone <;> simp [hg]

set_option maxHeartbeats 1600000 in
theorem mlen_any {w : World} {s : Value} {L : List Tm} (h : RowM w 0 s L) (hl : L.length ≤ 100000) :
    Calls Tryd.prog 17 #[.agg #[s]] w fun e w' => e = .returned (.int .i64 (alive L).length) ∧ Grn w w' := by
  obtain ⟨W, hW⟩ : ∃ W, w.alloc (.cells #[s] 51) = W := ⟨_, rfl⟩
  have hg : Grn w W := by rw [← hW]; exact (Grn.refl w).alloc _
  have HR := Lib.hid (h.below hg.below)
  have hbox : W.cell? ⟨w.heap.size, 0, none⟩ = some s := by rw [← hW]; exact cell_new _ _ _ _ _ _ rfl rfl
  obtain ⟨a, c, rfl⟩ := slice_form h
  have HW := Lib.hid hW
  have Hg := Lib.hid hg
  have hli : (L.length : Int) ≤ 100000 := by omega
  clear h hW hg
  go_enter Tryd.func17, Tryd.ntmps17
  go_wp2_with fail
  rw [HW.out]
  go_loopw [3, 4] (fun c i wr => ∃ k : Nat, k ≤ L.length ∧ i = .int .i64 k ∧ c = .int .i64 (alive (L.take k)).length ∧ wr = W) (fun _ i _ => L.length - (intOf i).toNat)
  case atStart => exact ⟨0, Nat.zero_le _, rfl, rfl, rfl⟩
  case round =>
    obtain ⟨k, hk, rfl, rfl, rfl⟩ := hrel
    by_cases hlt : k < L.length
    · obtain ⟨e, he⟩ : ∃ e, L[k]? = some e := ⟨_, List.getElem?_eq_getElem hlt⟩
      obtain ⟨g, vc2, h1, _, _⟩ := row_some HR.out (by omega)
      simp only [Value.slice.injEq, true_and] at h1
      obtain ⟨rfl, rfl⟩ := h1
      obtain ⟨_, _, _, _, f4⟩ := HR.out.cells k e he
      have hat := Lib.hid (alive_take he)
      have hki : (k : Int) < (L.length : Int) := by omega
      have hk0 : (0 : Int) ≤ (k : Int) := by omega
      have hcl : ((alive (L.take k)).length : Int) ≤ 100000 := by
        have h1 : (alive (L.take k)).length ≤ (L.take k).length := List.length_filter_le _ _
        rw [List.length_take] at h1
        omega
      have hc0 : (0 : Int) ≤ ((alive (L.take k)).length : Int) := by omega
      clear he
      obtain ⟨en, eg, eo, ek, egone⟩ := e
      simp only at f4 hat
      cases egone with
      | true =>
        go_wp2_with fail
        go_roundw
        case rel => exact ⟨k + 1, by omega, by go_num, by rw [hat.out]; simp, trivial⟩
        case measure => simp [intOf]; omega
      | false =>
        go_wp2_with fail
        go_roundw
        case rel => exact ⟨k + 1, by omega, by go_num, by rw [hat.out]; simp, trivial⟩
        case measure => simp [intOf]; omega
    · obtain rfl : k = L.length := by omega
      go_wp2_with fail
      go_ret
      exact ⟨by rw [List.take_length]; rfl, Hg.out⟩

/-- What At says. -/
def AtM (L : List Tm) (n g r : Int) : Prop := (∃ (i : Nat) (e : Tm), L[i]? = some e ∧ r = i ∧ (e.n : Int) = n ∧ (e.g : Int) = g ∧ e.gone = false) ∨ (r = -1 ∧ ∀ e ∈ L, ¬ ((e.n : Int) = n ∧ (e.g : Int) = g ∧ e.gone = false))

set_option maxRecDepth 100000 in
set_option maxHeartbeats 3200000 in
theorem mat_any {w : World} {s : Value} {L : List Tm} (h : RowM w 0 s L) (hl : L.length ≤ 100000) (n g : Int) :
    Calls Tryd.prog 58 #[.agg #[s], .agg #[.int .i64 n, .int .i64 g]] w fun e w' => ∃ r, e = .returned (.int .i64 r) ∧ AtM L n g r ∧ Grn w w' := by
  obtain ⟨W, hW⟩ : ∃ W, (w.alloc (.cells #[s] 51)).alloc (.cells #[.int .i64 n, .int .i64 g] 53) = W := ⟨_, rfl⟩
  have hg : Grn w W := by rw [← hW]; exact ((Grn.refl w).alloc _).alloc _
  have HR := Lib.hid (h.below hg.below)
  have hbox : W.cell? ⟨w.heap.size, 0, none⟩ = some s := by rw [← hW]; exact (fr_alloc _ _ []).cell (cell_new _ _ _ _ _ _ rfl rfl) (by simp)
  have hid0 : W.cell? ⟨w.heap.size + 1, 0, none⟩ = some (.int .i64 n) := by rw [← hW]; exact cell_new _ _ _ _ _ _ (by simp) rfl
  have hid1 : W.cell? ⟨w.heap.size + 1, 1, none⟩ = some (.int .i64 g) := by rw [← hW]; exact cell_new _ _ _ _ _ _ (by simp) rfl
  obtain ⟨a, c, rfl⟩ := slice_form h
  have HW := Lib.hid hW
  have Hg := Lib.hid hg
  have hli : (L.length : Int) ≤ 100000 := by omega
  clear h hW hg
  go_enter Tryd.func58, Tryd.ntmps58
  go_wp2_with fail
  rw [HW.out]
  go_loopw [5] (fun i wr => ∃ k m : Nat, k ≤ L.length ∧ i = .int .i64 k ∧ wr = W.drewN m ∧ ∀ j e, j < k → L[j]? = some e → ¬ ((e.n : Int) = n ∧ (e.g : Int) = g ∧ e.gone = false)) (fun i _ => L.length - (intOf i).toNat)
  case atStart => exact ⟨0, 0, Nat.zero_le _, rfl, rfl, fun j e hj => by omega⟩
  case round =>
    obtain ⟨k, m, hk, rfl, rfl, hno⟩ := hrel
    have Hno := Lib.hid hno
    clear hno
    by_cases hlt : k < L.length
    · obtain ⟨e, he⟩ : ∃ e, L[k]? = some e := ⟨_, List.getElem?_eq_getElem hlt⟩
      obtain ⟨gg, vc2, h1, _, _⟩ := row_some HR.out (by omega)
      simp only [Value.slice.injEq, true_and] at h1
      obtain ⟨rfl, rfl⟩ := h1
      obtain ⟨f0, f1, _, _, f4⟩ := HR.out.cells k e he
      have hki : (k : Int) < (L.length : Int) := by omega
      have hk0 : (0 : Int) ≤ (k : Int) := by omega
      have He := Lib.hid he
      have hstep : Hid (¬ ((e.n : Int) = n ∧ (e.g : Int) = g ∧ e.gone = false) → ∀ j e', j < k + 1 → L[j]? = some e' → ¬ ((e'.n : Int) = n ∧ (e'.g : Int) = g ∧ e'.gone = false)) := Lib.hid (fun hne j e' hj he' => by
        by_cases hjk : j = k
        · subst hjk; rw [He.out] at he'; cases he'; exact hne
        · exact Hno.out j e' (by omega) he')
      clear he
      by_cases q0 : (e.n : Int) = n
      · by_cases q1 : (e.g : Int) = g
        · cases q2 : e.gone with
          | false =>
            have hfin : Hid (AtM L n g k) := Lib.hid (.inl ⟨k, e, He.out, rfl, q0, q1, q2⟩)
            rw [q0] at f0
            rw [q1] at f1
            rw [q2] at f4
            clear hstep q0 q1 q2
            have t0 : (n == n) = true := by simp
            have t1 : (g == g) = true := by simp
            go_wp2_with fail
            go_quiet (fail)
            go_wp2_with fail
            go_ret
            exact ⟨k, rfl, hfin.out, (Hg.out.drew _).drew _⟩
          | true =>
            have hnext := Lib.hid (hstep.out (fun h => by rw [q2] at h; simp at h))
            rw [q0] at f0
            rw [q1] at f1
            rw [q2] at f4
            clear hstep q0 q1 q2
            have t0 : (n == n) = true := by simp
            have t1 : (g == g) = true := by simp
            go_wp2_with fail
            go_quiet (fail)
            go_wp2_with fail
            go_roundw
            case rel => exact ⟨k + 1, _, by omega, by go_num, rfl, hnext.out⟩
            case measure => simp [intOf]; omega
        · have hnext := Lib.hid (hstep.out (fun h => q1 h.2.1))
          have t1 : ((e.g : Int) == g) = false := by simp [q1]
          rw [q0] at f0
          have t0 : (n == n) = true := by simp
          clear hstep q0 q1
          generalize (e.g : Int) = eg at *
          go_wp2_with fail
          go_quiet (fail)
          go_wp2_with fail
          go_roundw
          case rel => exact ⟨k + 1, _, by omega, by go_num, rfl, hnext.out⟩
          case measure => simp [intOf]; omega
      · have hnext := Lib.hid (hstep.out (fun h => q0 h.1))
        have t0 : ((e.n : Int) == n) = false := by simp [q0]
        clear hstep q0
        go_wp2_with fail
        go_quiet (fail)
        go_wp2_with fail
        go_roundw
        case rel => exact ⟨k + 1, _, by omega, by go_num, rfl, hnext.out⟩
        case measure => simp [intOf]; omega
    · obtain rfl : k = L.length := by omega
      go_wp2_with fail
      go_ret
      refine ⟨-1, rfl, .inr ⟨rfl, fun e he => ?_⟩, Hg.out.drew _⟩
      obtain ⟨j, hj, rfl⟩ := List.getElem_of_mem he
      exact Hno.out j _ hj (List.getElem?_eq_getElem hj)

def ofN (L : List Tm) (n : Int) : List Tm := L.filter fun e => decide ((e.n : Int) = n)
theorem ofN_take {L : List Tm} {k : Nat} {e : Tm} (h : L[k]? = some e) (n : Int) : ofN (L.take (k + 1)) n = ofN (L.take k) n ++ (if (e.n : Int) = n then [e] else []) := by
  rw [List.take_add_one, h]
  unfold ofN
  rw [List.filter_append]
  by_cases hg : (e.n : Int) = n <;> simp [hg]
def anyN (L : List Tm) : Bool := L.any fun e => !e.gone

set_option maxRecDepth 100000 in
set_option maxHeartbeats 3200000 in
theorem mmany_any {w : World} {s : Value} {L : List Tm} (h : RowM w 0 s L) (hl : L.length ≤ 100000) (n : Int) :
    Calls Tryd.prog 76 #[.agg #[s], .int .i64 n] w fun e w' => e = .returned (.tuple #[.int .i64 (ofN L n).length, .bool (anyN (ofN L n))]) ∧ Grn w w' := by
  obtain ⟨W, hW⟩ : ∃ W, w.alloc (.cells #[s] 51) = W := ⟨_, rfl⟩
  have hg : Grn w W := by rw [← hW]; exact (Grn.refl w).alloc _
  have HR := Lib.hid (h.below hg.below)
  have hbox : W.cell? ⟨w.heap.size, 0, none⟩ = some s := by rw [← hW]; exact cell_new _ _ _ _ _ _ rfl rfl
  obtain ⟨a, c, rfl⟩ := slice_form h
  have HW := Lib.hid hW
  have Hg := Lib.hid hg
  have hli : (L.length : Int) ≤ 100000 := by omega
  clear h hW hg
  go_enter Tryd.func76, Tryd.ntmps76
  go_wp2_with fail
  rw [HW.out]
  go_loopw [6, 7, 8] (fun c b i wr => ∃ k : Nat, k ≤ L.length ∧ i = .int .i64 k ∧ c = .int .i64 (ofN (L.take k) n).length ∧ b = .bool (anyN (ofN (L.take k) n)) ∧ wr = W) (fun _ _ i _ => L.length - (intOf i).toNat)
  case atStart => exact ⟨0, Nat.zero_le _, rfl, rfl, rfl, rfl⟩
  case round =>
    obtain ⟨k, hk, rfl, rfl, rfl, rfl⟩ := hrel
    by_cases hlt : k < L.length
    · obtain ⟨e, he⟩ : ∃ e, L[k]? = some e := ⟨_, List.getElem?_eq_getElem hlt⟩
      obtain ⟨g, vc2, h1, _, _⟩ := row_some HR.out (by omega)
      simp only [Value.slice.injEq, true_and] at h1
      obtain ⟨rfl, rfl⟩ := h1
      obtain ⟨f0, _, _, _, f4⟩ := HR.out.cells k e he
      have hat := Lib.hid (ofN_take he n)
      have hki : (k : Int) < (L.length : Int) := by omega
      have hk0 : (0 : Int) ≤ (k : Int) := by omega
      have hcl : ((ofN (L.take k) n).length : Int) ≤ 100000 := by
        have h1 : (ofN (L.take k) n).length ≤ (L.take k).length := List.length_filter_le _ _
        rw [List.length_take] at h1
        omega
      have hc0 : (0 : Int) ≤ ((ofN (L.take k) n).length : Int) := by omega
      clear he
      obtain ⟨en, eg, eo, ek, egone⟩ := e
      simp only at f0 f4 hat
      by_cases q0 : (en : Int) = n
      · have t0 : (n == n) = true := by simp
        rw [q0] at f0
        have hat2 := hat.out
        rw [if_pos q0] at hat2
        have Hat := Lib.hid hat2
        clear hat hat2 q0
        cases hb : anyN (ofN (L.take k) n) with
        | true =>
          have Hb := Lib.hid hb
          clear hb
          go_wp2_with fail
          go_roundw
          case rel => exact ⟨k + 1, by omega, by go_num, by rw [Hat.out]; simp, by rw [Hat.out]; have := Hb.out; unfold anyN at this ⊢; rw [List.any_append, this]; rfl, trivial⟩
          case measure => simp [intOf]; omega
        | false =>
          have Hb := Lib.hid hb
          clear hb
          go_wp2_with fail
          go_roundw
          case rel => exact ⟨k + 1, by omega, by go_num, by rw [Hat.out]; simp, by rw [Hat.out]; have := Hb.out; unfold anyN at this ⊢; rw [List.any_append, this]; simp, trivial⟩
          case measure => simp [intOf]; omega
      · have t0 : ((en : Int) == n) = false := by simp [q0]
        have hat2 := hat.out
        rw [if_neg q0, List.append_nil] at hat2
        have Hat := Lib.hid hat2
        clear hat hat2 q0
        go_wp2_with fail
        go_roundw
        case rel => exact ⟨k + 1, by omega, by go_num, by rw [Hat.out], by rw [Hat.out], trivial⟩
        case measure => simp [intOf]; omega
    · obtain rfl : k = L.length := by omega
      go_wp2_with fail
      go_ret2
      exact ⟨by rw [List.take_length]; rfl, Hg.out⟩

theorem mres_cell {w0 w1 : World} {bb base : Nat} {s u : Value} {cur : Array Value} {S : List Tm} (hh : w1.heap[bb]? = some (.cells cur 51 (0, 0))) (hbb : w0.heap.size ≤ bb) (hr : RowM w1 base s S) (hb : Below w0.heap.size w0 w1) :
    RowM (w1.setCell ⟨bb, 0, none⟩ u) base s S ∧ Below w0.heap.size w0 (w1.setCell ⟨bb, 0, none⟩ u) := by
  have hf : Fr [bb] w1 (w1.setCell ⟨bb, 0, none⟩ u) := fr_setCell w1 ⟨bb, 0, none⟩ u
  refine ⟨hf.row hr (fun g hg => ?_), hb.trans (hf.below (fun x hx => ?_) hb.size)⟩
  · have := BodAt.row_ne hr hh (by decide) g hg
    simpa using this
  · simp at hx; subst hx; exact hbb

set_option maxHeartbeats 1600000 in
set_option maxRecDepth 100000 in
theorem mcopy_any {w : World} {s : Value} {S : List Tm} (h : RowM w 0 s S) (hl : S.length ≤ 100000) :
    Calls Tryd.prog 77 #[.agg #[s]] w fun e w' => ∃ s', e = .returned (.agg #[s']) ∧ RowM w' w.heap.size s' S ∧ Below w.heap.size w w' := by
  obtain ⟨i0, hi, hz0, hz1, hz2⟩ := info_parts infoM
  have hb : Below w.heap.size w ((w.alloc (.cells #[s] 51)).alloc (.cells #[.slice none 0 0] 51)) := ((Below.refl _ _).alloc (Nat.le_refl _) _).alloc (by simp) _
  have HR := Lib.hid (h.below hb)
  rcases h.2 with ⟨rfl, hn⟩ | ⟨g, cap, cur, rfl, _⟩
  · have hS : S = [] := List.eq_nil_of_length_eq_zero hn
    subst hS
    clear h hn
    go_enter Tryd.func77, Tryd.ntmps77
    go_wp2_with fail
    refine bodyPost_ret (v := .agg #[.slice none 0 0]) (by simp [results, Tryd.results77, go_sem]) rfl ⟨_, rfl, World.ownsRow_nil _ _ _ _, hb⟩
  · clear h
    go_enter Tryd.func77, Tryd.ntmps77
    go_wp2_with (at_builtin; refine wpList_append_own _ rfl _ _ 49 rfl w.heap.size 62 i0 (.agg #[.int .i64 0, .int .i64 0, .int .i64 0, .int .u64 0, .bool false]) 5 40 Tryd.underlying49 hi hz0 hz1 hz2 rfl (by decide) _ _ _ rfl (World.ownsRow_nil _ _ _ _) ⟨g, 0, none⟩ S.length cap (cellsM S) rfl ?qc1 ?qc2 ?qc3 ?qc4 ?qc5 ?qc6 ?_)
    case qc1 => exact cellsM_len S
    case qc2 => exact row_cells HR.out
    case qc3 => exact cellsM_one S
    case qc4 => rw [Nat.zero_add]; unfold maxLen; omega
    case qc5 => rw [Nat.zero_add]; omega
    case qc6 => simp; omega
    intro v' w1 hown hgrow hnil
    have hh : w1.heap[w.heap.size + 1]? = some (.cells #[.slice none 0 0] 51 (0, 0)) := (hgrow.block (w.heap.size + 1) (by simp) (by simp [Value.ownBlock])).trans (block_new _ _ _ (by simp))
    have hc := cells_cell (o := 0) hh rfl
    have hf := cells_free hh 0
    obtain ⟨a', n', c', rfl⟩ := row_form hown
    have hb1 : Below w.heap.size w w1 := hb.grown hgrow (by simp; omega) (fun k hk => by simp [Value.ownBlock] at hk)
    have hown2 : RowM w1 w.heap.size (.slice a' n' c') S := by
      unfold RowM
      simpa using hown
    have Hfin := Lib.hid (mres_cell hh (by omega) (u := .slice a' n' c') hown2 hb1)
    clear hown hown2 hgrow hb hb1 hnil hz0 hz1 hz2 hi
    go_wp2_with fail
    exact bodyPost_ret (v := .agg #[.slice a' n' c']) (by simp [results, Tryd.results77, go_sem, World.cell?_setCell_same _ _ _ hc]) rfl ⟨_, rfl, Hfin.out.1, Hfin.out.2⟩
end Go.Proofs.YthlbnlbkgiclpaaDoor
