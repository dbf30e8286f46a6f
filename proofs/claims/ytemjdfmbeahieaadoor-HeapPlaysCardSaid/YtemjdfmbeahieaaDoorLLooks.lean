/- The law's own function looks: heap and reference say the same. -/
import Derived.Test.YtemjdfmbeahieaaDoorLDo4
import Derived.Deep.DeepCutAuto
namespace Go.Proofs.YtemjdfmbeahieaaDoor
open Go.RowKit Go.Sort
set_option linter.unusedVariables false
set_option linter.unusedSimpArgs false

/-- The state of looks: its box, the heap, the reference. -/
structure LkSt (w0 w W : World) (a : Nat) (S : List El) (P : Nat) (s : Value) (b : Nat) : Prop where
  H : ∃ G, HeapIn w0 G W a S P
  row : RowR W 0 s S
  box : BoxR W b s
  below : Below w.heap.size w W
  hb : w.heap.size ≤ b

theorem LkSt.grown {w0 w W W' : World} {a : Nat} {S : List El} {P : Nat} {s : Value} {b : Nat} (L : LkSt w0 w W a S P s b) (hb : Below W.heap.size W W') : LkSt w0 w W' a S P s b :=
  ⟨by obtain ⟨G, H⟩ := L.H; exact ⟨G, H.grown hb⟩, L.row.below hb, L.box.below hb L.box.lt, L.below.trans (hb.mono L.below.size), L.hb⟩

/-- A table of 1025 numbers in memory. -/
structure TabP (w : World) (b : Nat) (f : Nat → Int) : Prop where
  ex : ∃ cur, w.heap[b]? = some (.cells cur 72 (0, 0)) ∧ cur.size = 1025 ∧ ∀ x, x < 1025 → cur[x]? = some (.int .i64 (f x))
theorem TabP.cell {w : World} {b : Nat} {f : Nat → Int} (h : TabP w b f) (x : Nat) (hx : x < 1025) : w.cell? ⟨b, x, none⟩ = some (.int .i64 (f x)) := by
  obtain ⟨cur, h1, _, h2⟩ := h.ex
  exact cells_cell h1 (h2 x hx)
theorem TabP.free {w : World} {b : Nat} {f : Nat → Int} (h : TabP w b f) (x : Nat) : w.frozen? ⟨b, x, none⟩ = false := by
  obtain ⟨cur, h1, _⟩ := h.ex
  exact cells_free h1 x
theorem TabP.set {w : World} {b : Nat} {f : Nat → Int} (h : TabP w b f) (x : Nat) (hx : x < 1025) (v : Int) : TabP (w.setCell ⟨b, x, none⟩ (.int .i64 v)) b (upd f x v) := by
  obtain ⟨cur, h1, hs, h2⟩ := h.ex
  refine ⟨_, cells_set h1 x _, by simpa using hs, fun y hy => ?_⟩
  unfold upd
  by_cases q : y = x
  · subst q; rw [if_pos rfl]; simp [hs, hy]
  · rw [if_neg q, Array.getElem?_setIfInBounds_ne (fun e => q e.symm)]; exact h2 y hy
theorem zeros1025 : Tryd.zeroCells72 = Array.replicate 1025 (.int .i64 0) := by kernel_rfl
theorem TabP.new (w : World) : TabP (w.alloc (.cells Tryd.zeroCells72 72)) w.heap.size (fun _ => 0) :=
  ⟨_, block_new _ _ _ rfl, by rw [zeros1025]; simp, fun x hx => by rw [zeros1025]; simp [hx]⟩
theorem row_apart {w : World} {b n : Nat} {f : Nat → Int} {v : Value} {xs : List Value} (h : w.ownsRow 0 3 1 v n xs) (ht : TabP w b f) : ∀ g, v.ownBlock = some g → g ∉ [b] := by
  intro g hg
  obtain ⟨cur, h1, _⟩ := ht.ex
  simpa using BodAt.row_ne h h1 (by decide) g hg
theorem idx_all {S : List El} {f : Nat → Int} (h : ∀ j, j < S.length → f ((order S).getD j 0) = j + 1) {x : Nat} (hx : x ∈ hsOf S) : f x = (order S).idxOf x + 1 := by
  have hp := order_perm S.length S rfl
  have hm : x ∈ order S := hp.mem_iff.2 hx
  have hl := List.idxOf_lt_length_of_mem hm
  have hlen : (order S).length = S.length := by have := hp.length_eq; simpa [hsOf] using this
  have := h ((order S).idxOf x) (by omega)
  rwa [List.getD_eq_getElem?_getD, List.getElem?_eq_getElem hl, List.getElem_idxOf hl] at this

theorem tops {w0 w W : World} {a : Nat} {S : List El} {P : Nat} {s : Value} {b : Nat} (L : LkSt w0 w W a S P s b) (hl : S.length ≤ 1024) :
    ∃ x e : Int, (Calls Tryd.prog 14 #[.pointer (some ⟨a, 0, none⟩)] W fun r w' => r = .returned (.tuple #[.int .i64 x, .int .i64 e]) ∧ W = w') ∧
      ∀ W', LkSt w0 w W' a S P s b → Calls Tryd.prog 28 #[.agg #[s]] W' fun r w' => r = .returned (.tuple #[.int .i64 x, .int .i64 e]) ∧ Below W'.heap.size W' w' := by
  obtain ⟨G, H⟩ := L.H
  by_cases h : S.length = 0
  · obtain rfl := List.eq_nil_of_length_eq_zero h
    exact ⟨0, 9, top_none_in H, fun W' L' => rtop_none L'.row⟩
  · cases ho : order S with
    | nil => exact absurd ho (order_ne_nil (by omega))
    | cons x r =>
      have hx : (order S).head? = some x := by rw [ho]; rfl
      exact ⟨x, 0, top_some_in H hx, fun W' L' => rtop_some L'.row hl hx⟩

set_option maxRecDepth 100000 in
set_option maxHeartbeats 6400000 in
theorem looks_any {w0 w : World} {G : Nat → Prop} {a : Nat} {S : List El} {P : Nat} {s : Value} (D : DoSt w0 w G a S P s) (hS : S.length < 1024) :
    Calls Tryd.prog 11 #[.pointer (some ⟨a, 0, none⟩), .agg #[s]] w fun e w' => e = .returned (.bool true) ∧ Below w.heap.size w w' := by
  have hb : Below w.heap.size w (w.alloc (.cells #[s] 28)) := (Below.refl _ _).alloc (Nat.le_refl _) _
  have L0 : LkSt w0 w (w.alloc (.cells #[s] 28)) a S P s w.heap.size := ⟨⟨_, D.H.grown hb⟩, D.row.below hb, BoxR.new w s, hb, Nat.le_refl _⟩
  have hf : ∃ a c, s = .slice a S.length c := by
    rcases D.row.form with ⟨rfl, rfl⟩ | ⟨g, cap, rfl, _⟩
    · exact ⟨_, _, rfl⟩
    · exact ⟨_, _, rfl⟩
  obtain ⟨a1, c1, rfl⟩ := hf
  clear D hb
  go_enter Tryd.func11, Tryd.ntmps11
  go_wp2_with fail
  generalize w.alloc (.cells #[.slice a1 S.length c1] 28) = W1 at *
  generalize w.heap.size = b at L0 ⊢
  have HL := Lib.hid L0
  have hc1 := L0.box.cell
  have HL1 : Hid (LkSt w0 w W1.drew a S P (.slice a1 S.length c1) b) := L0.grown (below_drewN (Below.refl _ _) 1)
  clear L0
  go_cut [32] (fun t wx => t = .bool false ∧ ∃ W, W = wx ∧ LkSt w0 w W a S P (.slice a1 S.length c1) b)
  case first =>
    go_region_with (first
      | (go_at_call 17; refine (len_in HL1.out.H.choose_spec).mono ?_; rintro e w' ⟨rfl, rfl⟩)
      | (go_at_call 12; refine (rorder_any HL1.out.row (by omega)).mono ?_; rintro e W2 ⟨v2, rfl, hrow2, hb2⟩; have L2 := Lib.hid (HL1.out.grown hb2); have c2 := L2.out.box.cell; have R2 := Lib.hid hrow2; clear hrow2 hb2)
      | (go_at_call 22; refine (allOf_in L2.out.H.choose_spec _ (ownsRow_mono R2.out (Nat.zero_le _))).mono ?_; rintro e W3 ⟨rfl, hb3⟩; have L3 := Lib.hid (L2.out.grown hb3); clear hb3))
    all_goals (go_wp2_with fail; go_meet; exact ⟨rfl, W3, rfl, L3.out⟩)
  case rest =>
    obtain ⟨rfl, W2, rfl, L2⟩ := hcut
    have L2' := Lib.hid L2
    clear L2 HL HL1 hc1
    have hc2 := L2'.out.box.cell
    obtain ⟨tx, te, ht1, ht2⟩ := tops L2'.out (by omega)
    have HT1 := Lib.hid ht1
    have HT2 := Lib.hid ht2
    clear ht1 ht2
    go_wp2_with (first
      | (go_at_call 14; refine HT1.out.mono ?_; rintro e w' ⟨rfl, rfl⟩)
      | (go_at_call 28; refine (HT2.out _ L2'.out).mono ?_; rintro e W3 ⟨rfl, hb3⟩; have L3 := Lib.hid (L2'.out.grown hb3); clear hb3))
    have hc3 := L3.out.box.cell
    have hSi : (S.length : Int) < 1024 := by omega
    clear HT1 HT2 L2' hc2
    go_loopw [9] (fun i wr => ∃ k : Nat, k ≤ S.length + 3 ∧ i = .int .i64 ((k : Int) - 1) ∧ LkSt w0 w wr a S P (.slice a1 S.length c1) b) (fun i _ => S.length + 3 - (intOf i + 1).toNat)
    case atStart => exact ⟨0, by omega, rfl, L3.out⟩
    case round =>
      obtain ⟨k, hk, rfl, Lr⟩ := hrel
      have hcr := Lr.box.cell
      have HLr := Lib.hid Lr
      clear Lr L3 hc3
      obtain ⟨n, hkn⟩ : ∃ n : Int, (k : Int) - 1 = n := ⟨_, rfl⟩
      rw [hkn]
      have n0 : -1 ≤ n := by omega
      have n1 : n ≤ (S.length : Int) + 2 := by omega
      by_cases hlt : k < S.length + 3
      · have n2 : n ≤ (S.length : Int) + 1 := by omega
        by_cases hh : isH S n
        · obtain ⟨x, rfl, hx⟩ := hh
          obtain ⟨el, hel, rfl⟩ := List.mem_map.1 hx
          have Hkn := Lib.hid hkn
          clear hkn
          go_wp2_with (first
            | (go_at_call 19; refine (get_yes_in HLr.out.H.choose_spec el hel).mono ?_; rintro e W4 ⟨rfl, _, _, m4, rfl⟩; have L4 := Lib.hid (HLr.out.grown (below_drewN (Below.refl _ _) m4)); have hc4 := L4.out.box.cell)
            | (go_at_call 29; fail))
          refine (rat_any L4.out.row (by omega) el.h).mono ?_
          rintro e W5 ⟨r, rfl, hat, hb5⟩
          obtain ⟨i, e2, hi, rfl, he2⟩ := atR_yes hat ⟨el.h, rfl, hx⟩
          have he3 : e2 = el := by
            obtain ⟨j, hj, hje⟩ := List.getElem_of_mem hel
            have hj' : S[j]? = some el := by rw [← hje]; exact List.getElem?_eq_getElem hj
            have := hs_inj (L4.out.H.choose_spec.nodup) hi hj' (by omega)
            subst this
            rw [hi] at hj'
            exact Option.some.inj hj'
          subst he3
          have L5 := Lib.hid (L4.out.grown hb5)
          have hil : i < S.length := (List.getElem?_eq_some_iff.1 hi).1
          rcases L5.out.row.form with ⟨_, h0⟩ | ⟨g, cap, hsg, _, _, _, _⟩
          · rw [h0] at hil; simp at hil
          simp only [Value.slice.injEq, true_and] at hsg
          obtain ⟨rfl, rfl⟩ := hsg
          obtain ⟨_, ck1, ck2⟩ := L5.out.row.cells i e2 hi
          have hc5 := L5.out.box.cell
          have g1 : (0 : Int) ≤ (i : Int) := by omega
          have g2 : (i : Int) < (S.length : Int) := by omega
          clear L4 hc4 hat hb5 hi he2 hel hx
          go_wp2_with fail
          go_roundw
          case rel => exact ⟨k + 1, by omega, by have := Hkn.out; congr 1; omega, L5.out⟩
          case measure => have := Hkn.out; simp [intOf]; omega
        · have Hkn := Lib.hid hkn
          clear hkn
          go_wp2_with (first
            | (go_at_call 19; refine (get_no_in HLr.out.H.choose_spec n hh).mono ?_; rintro e W4 ⟨rfl, rfl⟩)
            | (go_at_call 29; fail))
          refine (rat_any HLr.out.row (by omega) n).mono ?_
          rintro e W5 ⟨r, rfl, hat, hb5⟩
          obtain rfl := atR_no hat hh
          have L5 := Lib.hid (HLr.out.grown hb5)
          have hc5 := L5.out.box.cell
          clear hat hb5
          go_wp2_with fail
          go_roundw
          case rel => exact ⟨k + 1, by omega, by have := Hkn.out; congr 1; omega, L5.out⟩
          case measure => have := Hkn.out; simp [intOf]; omega
      · have n2 : (S.length : Int) + 1 < n := by omega
        clear hkn
        go_wp2_with (go_at_call 20; fail)
        refine (layout_in HLr.out.H.choose_spec).mono ?_
        rintro e W6 ⟨v6, L, rfl, hLay, hrow6, hb6⟩
        have L6 := Lib.hid (HLr.out.grown hb6)
        have hc6 := L6.out.box.cell
        have el6 := hLay.len
        have f6 : ∃ a c, v6 = .slice a S.length c := by
          rw [← el6]
          rcases hrow6.2 with ⟨hv, h0⟩ | ⟨g, cap, cu, hv, _⟩
          · exact ⟨none, 0, by rw [hv, h0]⟩
          · exact ⟨_, _, hv⟩
        obtain ⟨a6, c6, rfl⟩ := f6
        have R6 := Lib.hid hrow6
        have HLay := Lib.hid hLay
        have El6 := Lib.hid el6
        clear hrow6 hLay el6 HLr hcr
        go_wp2_with (go_at_call 12; fail)
        refine (rorder_any L6.out.row (by omega)).mono ?_
        rintro e W7 ⟨v7, rfl, hrow7, hb7⟩
        have L7 := Lib.hid (L6.out.grown hb7)
        have R6' : Hid (W7.ownsRow 0 3 1 (.slice a6 S.length c6) L.length (L.map encN)) := ownsRow_mono ((Fr.of_below hb7 []).row R6.out (fun _ _ => by simp)) (Nat.zero_le _)
        have el7 : (order S).length = S.length := by have := (order_perm S.length S rfl).length_eq; simpa [hsOf] using this
        have f7 : ∃ a c, v7 = .slice a S.length c := by
          rw [← el7]
          rcases hrow7.2 with ⟨hv, h0⟩ | ⟨g, cap, cu, hv, _⟩
          · exact ⟨none, 0, by rw [hv, h0]⟩
          · exact ⟨_, _, hv⟩
        obtain ⟨a7, c7, rfl⟩ := f7
        have R7 := Lib.hid (ownsRow_mono hrow7 (Nat.zero_le _))
        have El7 := Lib.hid el7
        clear hrow7 el7 R6 hb6 hb7 L6 hc6
        go_wp2_with fail
        have T8 := TabP.new W7
        have b8 : Below W7.heap.size W7 (W7.alloc (.cells Tryd.zeroCells72 72)) := (Below.refl _ _).alloc (Nat.le_refl _) _
        have L8 := L7.out.grown b8
        have r6 := (Fr.of_below b8 []).row R6'.out (fun _ _ => by simp)
        have r7 := (Fr.of_below b8 []).row R7.out (fun _ _ => by simp)
        have n6 := Lib.hid (row_apart r6 T8)
        have n7 := Lib.hid (row_apart r7 T8)
        have htb : w.heap.size ≤ W7.heap.size := L7.out.below.size
        have hnd : Hid ((order S).Nodup) := ((order_perm S.length S rfl).nodup_iff).2 (by obtain ⟨G, H⟩ := L8.H; exact H.nodup)
        have hlt24 : Hid (∀ x, x ∈ hsOf S → x < 1024) := by obtain ⟨G, H⟩ := L8.H; exact H.hlt
        have T8' := Lib.hid T8
        have L8' := Lib.hid L8
        have r6' := Lib.hid r6
        have r7' := Lib.hid r7
        clear T8 b8 L8 r6 r7 R6' R7 L7
        generalize W7.alloc (.cells Tryd.zeroCells72 72) = W8 at *
        generalize W7.heap.size = tb at *
        go_loopw [122] (fun i wr => ∃ (k : Nat) (f : Nat → Int), k ≤ S.length ∧ i = .int .i64 k ∧ TabP wr tb f ∧ (∀ j, j < k → f ((order S).getD j 0) = j + 1) ∧ Fr [tb] W8 wr) (fun i _ => S.length - (intOf i).toNat)
        case atStart => exact ⟨0, _, Nat.zero_le _, rfl, T8'.out, fun j hj => by omega, Fr.refl _ _⟩
        case round =>
          clear T8'
          obtain ⟨k, f, hk, rfl, hT, hF, hfr⟩ := hrel
          have HT := Lib.hid hT
          have HF := Lib.hid hF
          have HR := Lib.hid hfr
          by_cases hlt : k < S.length
          · have r7k := hfr.row r7'.out n7.out
            rw [El7.out] at r7k
            obtain ⟨g7, c7', hv7, _, _⟩ := row_some r7k (by omega)
            simp only [Value.slice.injEq, true_and] at hv7
            obtain ⟨rfl, rfl⟩ := hv7
            have ck : wr.cell? ⟨g7, k, none⟩ = some (encN ((order S).getD k 0)) := by
              have hlt' : k < (order S).length := by rw [El7.out]; exact hlt
              have h1 := row_cells r7k k (encN ((order S).getD k 0)) (by simp [List.getElem?_map, hlt'])
              rwa [Go.WideShapes.add_plain, Nat.zero_add] at h1
            have hx24 := hlt24.out ((order S).getD k 0) ((order_perm S.length S rfl).mem_iff.1 (getD_mem _ _ (by rw [El7.out]; exact hlt)))
            have hnext : Hid (∀ j, j < k + 1 → upd f ((order S).getD k 0) ((k : Int) + 1) ((order S).getD j 0) = j + 1) := by
              intro j hj
              unfold upd
              by_cases e : j = k
              · subst e; rw [if_pos rfl]
              · rw [if_neg (fun q => e (getD_inj hnd.out (by rw [El7.out]; omega) (by rw [El7.out]; omega) q))]
                exact HF.out j (by omega)
            clear hT hF hfr r7k
            generalize (order S).getD k 0 = x at *
            have tc := HT.out.cell x (by omega)
            have tf := HT.out.free x
            unfold encN at ck
            have g1 : (0 : Int) ≤ (k : Int) := by omega
            have g2 : (k : Int) < (S.length : Int) := by omega
            have g3 : (0 : Int) ≤ (x : Int) := by omega
            have g4 : (x : Int) < 1025 := by omega
            have Hset := Lib.hid (HT.out.set x (by omega) ((k : Int) + 1))
            have Hfr := Lib.hid (HR.out.trans' (fr_setCell wr ⟨tb, x, none⟩ (.int .i64 ((k : Int) + 1))))
            go_wp2_with fail
            go_roundw
            case rel => exact ⟨k + 1, _, by omega, by go_num, Hset.out, hnext.out, Hfr.out⟩
            case measure => simp [intOf]; omega
          · obtain rfl : k = S.length := by omega
            have hidx := Lib.hid (fun x (hx : x ∈ hsOf S) => idx_all HF.out hx)
            have r6k := Lib.hid (hfr.row r6'.out n6.out)
            have HB := Lib.hid (L8'.out.below.trans (hfr.below (B := w.heap.size) (fun y hy => by simp at hy; subst hy; exact htb) L8'.out.below.size))
            clear hT hF hfr HF HR r7' n7 n6 r6' L8'
            go_wp2_with fail
            go_loopw [135] (fun i wr3 => ∃ k m : Nat, k ≤ S.length ∧ i = .int .i64 k ∧ wr3 = wr.drewN m) (fun i _ => S.length - (intOf i).toNat)
            case atStart => exact ⟨0, 0, Nat.zero_le _, rfl, rfl⟩
            case round =>
              obtain ⟨k, m, hk, rfl, rfl⟩ := hrel
              by_cases hlt : k < S.length
              · have r6m := r6k.out
                rw [El6.out] at r6m
                obtain ⟨g6, c6', hv6, _, _⟩ := row_some r6m (by omega)
                simp only [Value.slice.injEq, true_and] at hv6
                obtain ⟨rfl, rfl⟩ := hv6
                have cells : ∀ j, j < S.length → wr.cell? ⟨g6, j, none⟩ = some (encN (L.getD j 0)) := by
                  intro j hj
                  have hj' : j < L.length := by rw [El6.out]; exact hj
                  have h1 := row_cells r6m j (encN (L.getD j 0)) (by simp [List.getElem?_map, hj'])
                  rwa [Go.WideShapes.add_plain, Nat.zero_add] at h1
                have memL : ∀ j, j < S.length → L.getD j 0 ∈ hsOf S := fun j hj => HLay.out.perm.mem_iff.1 (getD_mem _ _ (by rw [El6.out]; exact hj))
                have ck := cells k hlt
                have hx24 := hlt24.out _ (memL k hlt)
                have tc := HT.out.cell (L.getD k 0) (by omega)
                rw [hidx.out _ (memL k hlt)] at tc
                have hxb := List.idxOf_lt_length_of_mem ((order_perm S.length S rfl).mem_iff.2 (memL k hlt))
                rw [El7.out] at hxb
                have g1 : (0 : Int) ≤ (k : Int) := by omega
                have g2 : (k : Int) < (S.length : Int) := by omega
                by_cases hk0 : k = 0
                · subst hk0
                  clear r6m cells memL
                  generalize (order S).idxOf (L.getD 0 0) = u at *
                  generalize L.getD 0 0 = x at *
                  unfold encN at ck
                  have g3 : (0 : Int) ≤ (x : Int) := by omega
                  have g4 : (x : Int) ≤ 1024 := by omega
                  have g5 : ((u : Int) + 1 == 0) = false := by simp; omega
                  have g6 : (x : Int) < 1025 := by omega
                  go_wp2_with fail
                  have d1 : decide ((x : Int) < 0) = false := decide_eq_false (by omega)
                  have d2 : decide ((1024 : Int) < (x : Int)) = false := decide_eq_false (by omega)
                  go_quiet (fail)
                  go_wp2_with fail
                  go_roundw
                  case rel => exact ⟨1, _, by omega, by go_num, rfl⟩
                  case measure => simp [intOf]; omega
                · have hpar := HLay.out.par k (by omega) (by rw [El6.out]; exact hlt)
                  obtain ⟨p, hp⟩ : ∃ p, p = (k - 1) / 4 := ⟨_, rfl⟩
                  have hpI : ((k : Int) - 1) / 4 = (p : Int) := by omega
                  have hpl : p < S.length := by omega
                  rw [← hp] at hpar
                  have cp := cells p hpl
                  have hp24 := hlt24.out _ (memL p hpl)
                  have tp := HT.out.cell (L.getD p 0) (by omega)
                  rw [hidx.out _ (memL p hpl)] at tp
                  clear r6m cells memL hp
                  generalize (order S).idxOf (L.getD k 0) = u at *
                  generalize L.getD k 0 = x at *
                  generalize (order S).idxOf (L.getD p 0) = v at *
                  generalize L.getD p 0 = y at *
                  unfold encN at ck cp
                  have g3 : (0 : Int) ≤ (x : Int) := by omega
                  have g4 : (x : Int) ≤ 1024 := by omega
                  have g5 : ((u : Int) + 1 == 0) = false := by simp; omega
                  have g6' : (x : Int) < 1025 := by omega
                  have g7 : (0 : Int) ≤ (y : Int) := by omega
                  have g8 : (y : Int) < 1025 := by omega
                  have g10 : (p : Int) < (S.length : Int) := by omega
                  have g11 : (0 : Int) ≤ (p : Int) := by omega
                  have g13 : (k : Int) < 1024 := by omega
                  have g14 : (0 : Int) ≤ (k : Int) - 1 := by omega
                  go_wp2_with fail
                  have d1 : decide ((x : Int) < 0) = false := decide_eq_false (by omega)
                  have d2 : decide ((1024 : Int) < (x : Int)) = false := decide_eq_false (by omega)
                  have d3 : decide (0 < k) = true := decide_eq_true (by omega)
                  have d4 : decide ((u : Int) + 1 ≤ (v : Int) + 1) = false := decide_eq_false (by omega)
                  go_quiet (fail)
                  go_wp2_with fail
                  go_roundw
                  case rel => exact ⟨k + 1, _, by omega, by go_num, rfl⟩
                  case measure => simp [intOf]; omega
              · obtain rfl : k = S.length := by omega
                go_wp2_with fail
                go_ret
                exact ⟨rfl, HB.out.trans ((fr_drewN wr m []).below (fun _ hx => by simp at hx) HB.out.size)⟩
end Go.Proofs.YtemjdfmbeahieaaDoor
