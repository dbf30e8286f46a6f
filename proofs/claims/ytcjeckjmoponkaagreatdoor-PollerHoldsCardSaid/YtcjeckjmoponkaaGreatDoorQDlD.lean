/- QDlD: JVt, JBase, JPure, JMem, JCell, JEq, JRun, JSet, merged. -/
import Derived.Test.YtcjeckjmoponkaaGreatDoorQDlC
import Derived.Deep.QuietTactic
import Derived.BigQuiet
import Derived.Laws.StructEq
import Derived.Test.YtcjeckjmoponkaaGreatDoorQMix
import Derived.StillTailTactics
/- Clocks in memory: what the calls of a clock return. -/
namespace Go.Proofs.YtcjeckjmoponkaaGreatDoor.Dl
open Go.RowKit Go.Sort
set_option linter.unusedVariables false
set_option linter.unusedSimpArgs false

/-- Block N holds a clock that shows t. -/
def ClkAt (w : World) (N : Nat) (t : Int) : Prop := w.heap[N]? = some (.cells #[.int .u64 t, .bool true] 253 (0, 0))
theorem ClkAt.c0 {w : World} {N : Nat} {t : Int} (h : ClkAt w N t) : w.cell? ⟨N, 0, none⟩ = some (.int .u64 t) := cells_cell h rfl
theorem ClkAt.c1 {w : World} {N : Nat} {t : Int} (h : ClkAt w N t) : w.cell? ⟨N, 1, none⟩ = some (.bool true) := cells_cell h rfl
theorem ClkAt.f0 {w : World} {N : Nat} {t : Int} (h : ClkAt w N t) : w.frozen? ⟨N, 0, none⟩ = false := cells_free h 0
theorem ClkAt.below {w w' : World} {N : Nat} {t : Int} (h : ClkAt w N t) (hb : Below w.heap.size w w') : ClkAt w' N t := (hb.block _ (lt_of_block h)).trans h

set_option maxHeartbeats 400000 in
theorem vnow_any {w : World} {N : Nat} {t : Int} (h : ClkAt w N t) : Calls Tryz.prog 139 #[pt N] w fun e w' => e = .returned (.int .u64 t) ∧ w = w' := by
  have hc0 := h.c0
  have hc1 := h.c1
  clear h
  unfold pt
  go_enter Tryz.func139, Tryz.ntmps139
  go_wp2_with go_in
  go_ret
  exact ⟨rfl, rfl⟩

set_option maxHeartbeats 400000 in
theorem vnew_any (w : World) (t : Int) (ht : t ≠ never) : Calls Tryz.prog 86 #[.int .u64 t] w fun e w' => e = .returned (.tuple #[pt w.heap.size, .int .i64 0]) ∧ w' = w.alloc (.cells #[.int .u64 t, .bool true] 253) := by
  have q : (t == 18446744073709551615) = false := by simpa [never] using ht
  clear ht
  unfold pt
  go_enter Tryz.func86, Tryz.ntmps86
  go_wp2_with go_in
  go_ret2
  exact ⟨rfl, rfl⟩
set_option maxHeartbeats 400000 in
theorem vadv_ok {w : World} {N : Nat} {t b : Int} (h : ClkAt w N t) (hb : b ≠ never) (hl : t ≤ b) : Calls Tryz.prog 122 #[pt N, .int .u64 b] w fun e w' => e = .returned (.int .i64 0) ∧ w' = w.setCell ⟨N, 0, none⟩ (.int .u64 b) := by
  have hc0 := h.c0
  have hc1 := h.c1
  have hf0 := h.f0
  have q : (b == 18446744073709551615) = false := by simpa [never] using hb
  have q2 : decide (b < t) = false := by simp; omega
  clear h hb
  unfold pt
  go_enter Tryz.func122, Tryz.ntmps122
  go_wp2_with go_in
  go_ret
  exact ⟨rfl, rfl⟩
set_option maxHeartbeats 400000 in
theorem vadv_never {w : World} {N : Nat} {t : Int} (h : ClkAt w N t) : Calls Tryz.prog 122 #[pt N, .int .u64 never] w fun e w' => e = .returned (.int .i64 2) ∧ w = w' := by
  have hc0 := h.c0
  have hc1 := h.c1
  clear h
  unfold pt never
  go_enter Tryz.func122, Tryz.ntmps122
  go_wp2_with go_in
  go_ret
  exact ⟨rfl, rfl⟩
set_option maxHeartbeats 400000 in
theorem vadv_early {w : World} {N : Nat} {t b : Int} (h : ClkAt w N t) (hb : b ≠ never) (hl : b < t) : Calls Tryz.prog 122 #[pt N, .int .u64 b] w fun e w' => e = .returned (.int .i64 3) ∧ w = w' := by
  have hc0 := h.c0
  have hc1 := h.c1
  have q : (b == 18446744073709551615) = false := by simpa [never] using hb
  clear h hb
  unfold pt
  go_enter Tryz.func122, Tryz.ntmps122
  go_wp2_with go_in
  go_ret
  exact ⟨rfl, rfl⟩
end Go.Proofs.YtcjeckjmoponkaaGreatDoor.Dl
/- The small functions of deadlines: usable, placeOf, number, spot, valid. -/
namespace Go.Proofs.YtcjeckjmoponkaaGreatDoor.Dl
open Go.RowKit Go.Sort
set_option linter.unusedVariables false
set_option linter.unusedSimpArgs false

set_option maxHeartbeats 400000 in
theorem jusable_yes (a bb : Nat) (w : World) (hc : w.cell? ⟨a, 0, none⟩ = some (.pointer (some ⟨bb, 0, none⟩))) : Calls Tryz.prog 121 #[.pointer (some ⟨a, 0, none⟩)] w fun e w' => e = .returned (.bool true) ∧ w = w' := by
  go_enter Tryz.func121, Tryz.ntmps121
  go_wp2_with fail
  go_ret
  exact ⟨rfl, rfl⟩

/-- The place of a descriptor's direction. -/
def plc (q r : Nat) : Value := .agg #[.int .i64 q, .int .i64 r]

set_option maxHeartbeats 400000 in
theorem jplace_any (q r : Nat) (hq : q < 128) (hr : r < 2) (w : World) : Calls Tryz.prog 124 #[.int .i64 ((q * 2 + r : Nat) : Int)] w fun e w' => e = .returned (plc q r) ∧ Grn w w' := by
  have h1 : (((q * 2 + r : Nat) : Int)).tdiv 2 = (q : Int) := by rw [Int.tdiv_eq_ediv_of_nonneg (by omega)]; omega
  have h2 : (((q * 2 + r : Nat) : Int)).tmod 2 = (r : Int) := by rw [Int.tmod_eq_emod_of_nonneg (by omega)]; omega
  have h3 : (0 : Int) ≤ ((q * 2 + r : Nat) : Int) := by omega
  have h4 : ((q * 2 + r : Nat) : Int) < 256 := by omega
  have h5 : (q : Int) < 128 := by omega
  have h6 : (r : Int) < 2 := by omega
  generalize ((q * 2 + r : Nat) : Int) = x at *
  unfold plc
  go_enter Tryz.func124, Tryz.ntmps124
  go_wp2_with fail
  exact bodyPost_ret (v := .agg #[.int .i64 q, .int .i64 r]) (by simp [results, Tryz.results124, go_sem, h1, h2]) rfl ⟨rfl, (Grn.refl w).alloc _⟩

set_option maxHeartbeats 400000 in
theorem jnum_any (q r : Nat) (hq : q < 128) (hr : r < 2) (w : World) : Calls Tryz.prog 167 #[plc q r] w fun e w' => e = .returned (.int .i64 ((q * 2 + r : Nat) : Int)) ∧ Grn w w' := by
  have h5 : (q : Int) < 128 := by omega
  have h6 : (r : Int) < 2 := by omega
  unfold plc
  go_enter Tryz.func167, Tryz.ntmps167
  go_wp2_with fail
  go_ret
  exact ⟨by simp, (Grn.refl w).alloc _⟩

set_option maxHeartbeats 400000 in
theorem jspot_any (q r : Nat) (w : World) : Calls Tryz.prog 127 #[plc q r] w fun e w' => e = .returned (plc q r) ∧ Grn w w' := by
  unfold plc
  go_enter Tryz.func127, Tryz.ntmps127
  go_wp2_with fail
  exact bodyPost_ret (v := .agg #[.int .i64 q, .int .i64 r]) (by simp [results, Tryz.results127, go_sem]) rfl ⟨rfl, ((Grn.refl w).alloc _).alloc _⟩

/-- Is this a spot? -/
def okS (x y : Int) : Bool := decide (0 ≤ x ∧ x < 128 ∧ (y = 0 ∨ y = 1))
set_option maxHeartbeats 800000 in
theorem jvalid_any (x y : Int) (w : World) : Calls Tryz.prog 162 #[.agg #[.int .i64 x, .int .i64 y]] w fun e w' => e = .returned (.bool (okS x y)) ∧ Grn w w' := by
  have hg : Hid (Grn w (w.alloc (.cells #[.int .i64 x, .int .i64 y] 132))) := Lib.hid ((Grn.refl w).alloc _)
  have H := Lib.hid (show okS x y = decide (0 ≤ x ∧ x < 128 ∧ (y = 0 ∨ y = 1)) from rfl)
  by_cases h1 : 0 ≤ x
  · by_cases h2 : x < 128
    · by_cases h3 : y = 0
      · subst h3
        have hv := Lib.hid (show okS x 0 = true by rw [H.out]; simp; omega)
        have g1 : decide (0 ≤ x) = true := by simpa using h1
        go_enter Tryz.func162, Tryz.ntmps162
        go_wp2_with fail
        go_ret
        exact ⟨by rw [hv.out]; rfl, hg.out⟩
      · have q3 : (y == 0) = false := by simpa using h3
        by_cases h4 : y = 1
        · subst h4
          have hv := Lib.hid (show okS x 1 = true by rw [H.out]; simp; omega)
          go_enter Tryz.func162, Tryz.ntmps162
          go_wp2_with fail
          go_ret
          exact ⟨by rw [hv.out]; rfl, hg.out⟩
        · have q4 : (y == 1) = false := by simpa using h4
          have hv := Lib.hid (show okS x y = false by rw [H.out]; simp; omega)
          clear h3 h4
          go_enter Tryz.func162, Tryz.ntmps162
          go_wp2_with fail
          go_ret
          exact ⟨by rw [hv.out]; rfl, hg.out⟩
    · have hv := Lib.hid (show okS x y = false by rw [H.out]; simp; omega)
      have g2 : decide (x < 128) = false := by simp; omega
      clear h2
      go_enter Tryz.func162, Tryz.ntmps162
      go_wp2_with fail
      go_ret
      exact ⟨by rw [hv.out]; rfl, hg.out⟩
  · have hv := Lib.hid (show okS x y = false by rw [H.out]; simp; omega)
    have g1 : decide (0 ≤ x) = false := by simp; omega
    clear h1
    go_enter Tryz.func162, Tryz.ntmps162
    go_wp2_with fail
    go_ret
    exact ⟨by rw [hv.out]; rfl, hg.out⟩
end Go.Proofs.YtcjeckjmoponkaaGreatDoor.Dl
/- Deadlines without any memory: what the timers that are set say of them, what passes, the next one. -/
namespace Go.Proofs.YtcjeckjmoponkaaGreatDoor.Dl
open Go.RowKit Go.Sort
set_option linter.unusedVariables false
set_option linter.unusedSimpArgs false

/-- How many names with a number were given so far. -/
def cntJ (S : List El) (gs : List Nat) (x : Nat) : Nat := gs.getD x 0 + (if x ∈ hsOf S then 1 else 0)
theorem cntJ_remove (S : List El) (gs : List Nat) (h : Nat) (hh : h ∈ hsOf S) (hl : h < gs.length) (x : Nat) : cntJ (removeS S h) (bump gs h) x = cntJ S gs x := by
  unfold cntJ
  rw [bump_get gs h x hl, hs_remove]
  by_cases hx : x = h
  · subst hx
    rw [if_pos rfl, if_neg (by simp), if_pos hh]
  · rw [if_neg hx]
    have : (x ∈ (hsOf S).filter fun y => decide (y ≠ h)) ↔ x ∈ hsOf S := by simp [hx]
    by_cases h1 : x ∈ hsOf S
    · rw [if_pos h1, if_pos (this.2 h1)]
    · rw [if_neg h1, if_neg (fun q => h1 (this.1 q))]
theorem cntJ_exp : ∀ (n : Nat) (now : Int) (S : List El) (gs : List Nat), S.length = n → (∀ x, x ∈ hsOf S → x < gs.length) → ∀ x, cntJ (expS now S gs).2.1 (expS now S gs).2.2 x = cntJ S gs x
  | n, now, S, gs, hn, hl, x => by
    cases hf : fstE S with
    | none => rw [expS_none hf]
    | some e =>
      by_cases hk : e.k ≤ now
      · have hm := fstE_mem hf
        have hlt := remove_lt hm
        have hh : e.h ∈ hsOf S := List.mem_map_of_mem hm
        rw [expS_due hf hk]
        simp only
        rw [cntJ_exp (removeS S e.h).length now (removeS S e.h) (bump gs e.h) rfl (fun y hy => by
          rw [bump_len]
          rw [hs_remove] at hy
          exact hl y (List.mem_filter.1 hy).1) x, cntJ_remove S gs e.h hh (hl _ hh) x]
      · rw [expS_late hf hk]
  termination_by n => n
  decreasing_by omega

theorem exp_gens {now : Int} {S : List El} {gs : List Nat} (hnd : (hsOf S).Nodup) (hl : ∀ x, x ∈ hsOf S → x < gs.length) {e : El} (he : e ∈ S) (hk : now < e.k) : (expS now S gs).2.2.getD e.h 0 = gs.getD e.h 0 := by
  have h := cntJ_exp S.length now S gs rfl hl e.h
  have h1 : e.h ∈ hsOf S := List.mem_map_of_mem he
  have h2 : e.h ∈ hsOf (expS now S gs).2.1 := by
    rw [expS_rest S.length now S gs rfl hnd]
    exact List.mem_map_of_mem (List.mem_filter.2 ⟨he, by simpa using hk⟩)
  unfold cntJ at h
  rw [if_pos h1, if_pos h2] at h
  omega

theorem El_eq {S : List El} (hnd : (hsOf S).Nodup) {e f : El} (he : e ∈ S) (hf : f ∈ S) (h : e.h = f.h) : e = f := by
  obtain ⟨i, hi, rfl⟩ := List.getElem_of_mem he
  obtain ⟨j, hj, rfl⟩ := List.getElem_of_mem hf
  have : i = j := (List.getElem_inj (xs := hsOf S) (h₀ := by simpa [hsOf] using hi) (h₁ := by simpa [hsOf] using hj) hnd).1 (by simpa [hsOf] using h)
  subst this; rfl

/-- What expires, as a set. -/
theorem exp_mem : ∀ (n : Nat) (now : Int) (S : List El) (gs : List Nat), S.length = n → (hsOf S).Nodup → ∀ (k o : Int), (∃ d ∈ (expS now S gs).1, d.k = k ∧ d.o = o) ↔ ∃ e ∈ S, e.k ≤ now ∧ e.k = k ∧ e.v = o
  | n, now, S, gs, hn, hnd, k, o => by
    cases hf : fstE S with
    | none =>
      rw [expS_none hf]
      obtain rfl := fstE_none hf
      simp
    | some e =>
      have hm := fstE_mem hf
      by_cases hk : e.k ≤ now
      · have hlt := remove_lt hm
        have hnd' : (hsOf (removeS S e.h)).Nodup := by rw [hs_remove]; exact hnd.filter _
        have ih := exp_mem (removeS S e.h).length now (removeS S e.h) (bump gs e.h) rfl hnd' k o
        rw [expS_due hf hk]
        constructor
        · rintro ⟨d, hd, hd1, hd2⟩
          rcases List.mem_cons.1 hd with rfl | hd
          · exact ⟨e, hm, hk, hd1, hd2⟩
          · obtain ⟨e', he', h'⟩ := ih.1 ⟨d, hd, hd1, hd2⟩
            exact ⟨e', (List.mem_filter.1 he').1, h'⟩
        · rintro ⟨e', he', h1, h2, h3⟩
          by_cases q : e'.h = e.h
          · obtain rfl := El_eq hnd he' hm q
            exact ⟨_, List.mem_cons_self .., h2, h3⟩
          · obtain ⟨d, hd, hd'⟩ := ih.2 ⟨e', List.mem_filter.2 ⟨he', by simpa using q⟩, h1, h2, h3⟩
            exact ⟨d, List.mem_cons_of_mem _ hd, hd'⟩
      · rw [expS_late hf hk]
        constructor
        · rintro ⟨d, hd, _⟩; simp at hd
        · rintro ⟨e', he', h1, _⟩
          have := fstE_least hf e' he'
          omega
  termination_by n => n
  decreasing_by omega
/-- No two that expire have the same owner, if no two that are set do. -/
theorem exp_owners : ∀ (n : Nat) (now : Int) (S : List El) (gs : List Nat), S.length = n → (hsOf S).Nodup → S.Pairwise (fun a b => a.v ≠ b.v) → (expS now S gs).1.Pairwise (fun a b => a.o ≠ b.o)
  | n, now, S, gs, hn, hnd, hv => by
    cases hf : fstE S with
    | none => rw [expS_none hf]; exact List.Pairwise.nil
    | some e =>
      have hm := fstE_mem hf
      by_cases hk : e.k ≤ now
      · have hlt := remove_lt hm
        have hnd' : (hsOf (removeS S e.h)).Nodup := by rw [hs_remove]; exact hnd.filter _
        rw [expS_due hf hk]
        refine List.Pairwise.cons (fun d hd => ?_) (exp_owners _ now (removeS S e.h) (bump gs e.h) rfl hnd' (hv.filter _))
        obtain ⟨e', he', _, _, h3⟩ := (exp_mem _ now (removeS S e.h) (bump gs e.h) rfl hnd' d.k d.o).1 ⟨d, hd, rfl, rfl⟩
        obtain ⟨he1, he2⟩ := List.mem_filter.1 he'
        have hne : e ≠ e' := by
          rintro rfl
          simp at he2
        rw [← h3]
        show e.v ≠ e'.v
        obtain ⟨i, hi, rfl⟩ := List.getElem_of_mem hm
        obtain ⟨j, hj, rfl⟩ := List.getElem_of_mem he1
        have hij : i ≠ j := by rintro rfl; exact hne rfl
        rcases Nat.lt_or_gt_of_ne hij with h | h
        · exact List.pairwise_iff_getElem.1 hv i j hi hj h
        · exact Ne.symm (List.pairwise_iff_getElem.1 hv j i hj hi h)
      · rw [expS_late hf hk]; exact List.Pairwise.nil
  termination_by n => n
  decreasing_by omega

/-- What holds of the place p, told by the timers that are set, but for the places of X. -/
structure DIX (X : Nat → Prop) (now : Int) (f : Nat → Int) (S : List El) (gs : List Nat) (tn tg : Nat → Int) : Prop where
  el : ∀ e ∈ S, ∃ p : Nat, p < 256 ∧ ¬ X p ∧ e.v = (p : Int) ∧ f p = e.k ∧ now < e.k ∧ e.k < never ∧ tn p = e.h ∧ tg p = ((gs.getD e.h 0 : Nat) : Int)
  all : ∀ p : Nat, p < 256 → ¬ X p → now < f p → f p < never → ∃ e ∈ S, e.v = (p : Int)
  le : ∀ p : Nat, p < 256 → f p ≤ never
abbrev DI := DIX (fun _ => False)

namespace DIX
variable {X : Nat → Prop} {now : Int} {f : Nat → Int} {S : List El} {gs : List Nat} {tn tg : Nat → Int}
theorem inj (D : DIX X now f S gs tn tg) {e e' : El} (he : e ∈ S) (he' : e' ∈ S) (h : e.v = e'.v) : e.h = e'.h := by
  obtain ⟨p, _, _, h1, _, _, _, h2, _⟩ := D.el e he
  obtain ⟨p', _, _, h1', _, _, _, h2', _⟩ := D.el e' he'
  have : p = p' := by omega
  subst this
  omega
theorem owners (D : DIX X now f S gs tn tg) (hnd : (hsOf S).Nodup) : S.Pairwise (fun a b => a.v ≠ b.v) := by
  have h := List.pairwise_map.1 hnd
  exact h.imp_of_mem (fun ha hb hne heq => hne (D.inj ha hb heq))
theorem len (D : DIX X now f S gs tn tg) (hnd : (hsOf S).Nodup) : S.length ≤ 256 := by
  have h1 : (S.map fun e => e.v.toNat).Nodup := by
    refine List.pairwise_map.2 ((D.owners hnd).imp_of_mem (fun ha hb hne heq => hne ?_))
    obtain ⟨p, _, _, h1, _⟩ := D.el _ ha
    obtain ⟨p', _, _, h1', _⟩ := D.el _ hb
    omega
  have := List.Nodup.length_le_of_subset h1 (l₂ := List.range 256) (fun j hj => by
    obtain ⟨e, he, rfl⟩ := List.mem_map.1 hj
    obtain ⟨p, hp, _, h1, _⟩ := D.el e he
    simp only [List.mem_range]; omega)
  simpa using this
end DIX

section
variable {now : Int} {f : Nat → Int} {S : List El} {gs : List Nat} {tn tg : Nat → Int}

theorem DIX.stop (D : DI now f S gs tn tg) (hnd : (hsOf S).Nodup) (hl : ∀ x, x ∈ hsOf S → x < gs.length) {e : El} (he : e ∈ S) {p : Nat} (hv : e.v = (p : Int)) : DIX (fun x => x = p) now f (removeS S e.h) (bump gs e.h) tn tg := by
  refine ⟨fun e' he' => ?_, fun q hq hx h1 h2 => ?_, D.le⟩
  · obtain ⟨h1, h2⟩ := List.mem_filter.1 he'
    simp only [decide_eq_true_eq] at h2
    obtain ⟨q, hq, _, a1, a2, a3, a4, a5, a6⟩ := D.el e' h1
    refine ⟨q, hq, fun h => h2 (D.inj h1 he (by omega)), a1, a2, a3, a4, a5, ?_⟩
    rw [bump_get gs e.h e'.h (hl _ (List.mem_map_of_mem he)), if_neg h2]
    simpa using a6
  · obtain ⟨e', he', hv'⟩ := D.all q hq (fun h => h) h1 h2
    refine ⟨e', List.mem_filter.2 ⟨he', ?_⟩, hv'⟩
    simp only [decide_eq_true_eq]
    intro hh
    obtain ⟨p1, _, _, b1, _, _, _, b5, _⟩ := D.el e' he'
    obtain ⟨p2, hp2, _, c1, _, _, _, c5, _⟩ := D.el e he
    refine hx ?_
    have : e' = e := El_eq hnd he' he hh
    subst this
    omega
theorem DIX.none (D : DI now f S gs tn tg) {p : Nat} (hv : ∀ e ∈ S, e.v ≠ (p : Int)) : DIX (fun x => x = p) now f S gs tn tg :=
  ⟨fun e he => by
    obtain ⟨q, hq, _, a1, a⟩ := D.el e he
    exact ⟨q, hq, fun h => hv e he (by rw [a1, h]), a1, a⟩, fun q hq _ h1 h2 => D.all q hq (fun h => h) h1 h2, D.le⟩

/-- The deadline of p is another one, which has passed. -/
theorem DIX.pass {p : Nat} (D : DIX (fun x => x = p) now f S gs tn tg) {d : Int} (hd : d ≤ now) (hn : now < never) : DI now (upd f p d) S gs tn tg :=
  ⟨fun e he => by
    obtain ⟨q, hq, hx, a1, a2, a⟩ := D.el e he
    exact ⟨q, hq, fun h => h, a1, by simp only [upd, if_neg hx]; exact a2, a⟩, fun q hq _ h1 h2 => by
    by_cases hx : q = p
    · subst hx; simp only [upd, if_true] at h1; omega
    · simp only [upd, if_neg hx] at h1 h2
      exact D.all q hq hx h1 h2, fun q hq => by
    by_cases hx : q = p
    · subst hx; simp only [upd, if_true]; omega
    · simp only [upd, if_neg hx]; exact D.le q hq⟩
/-- There is none any more. -/
theorem DIX.never {p : Nat} (D : DIX (fun x => x = p) now f S gs tn tg) (a b : Int) : DI now (upd f p never) S gs (upd tn p a) (upd tg p b) :=
  ⟨fun e he => by
    obtain ⟨q, hq, hx, a1, a2, a3, a4, a5, a6⟩ := D.el e he
    exact ⟨q, hq, fun h => h, a1, by simp only [upd, if_neg hx]; exact a2, a3, a4, by simp only [upd, if_neg hx]; exact a5, by simp only [upd, if_neg hx]; exact a6⟩, fun q hq _ h1 h2 => by
    by_cases hx : q = p
    · subst hx; simp only [upd, if_true] at h2; omega
    · simp only [upd, if_neg hx] at h1 h2
      exact D.all q hq hx h1 h2, fun q hq => by
    by_cases hx : q = p
    · subst hx; simp only [upd, if_true]; exact Int.le_refl _
    · simp only [upd, if_neg hx]; exact D.le q hq⟩
/-- A later one is set. -/
theorem DIX.push {p : Nat} (D : DIX (fun x => x = p) now f S gs tn tg) (hp : p < 256) {d : Int} (hd : now < d) (hd2 : d < Go.Proofs.YtcjeckjmoponkaaGreatDoor.Dl.never) :
    DI now (upd f p d) (pushS S d p) (setG gs (lowOf (hsOf S))) (upd tn p (lowOf (hsOf S) : Nat)) (upd tg p (gs.getD (lowOf (hsOf S)) 0 : Nat)) :=
  ⟨fun e he => by
    rcases List.mem_append.1 (show e ∈ S ++ [_] from he) with he | he
    · obtain ⟨q, hq, hx, a1, a2, a3, a4, a5, a6⟩ := D.el e he
      exact ⟨q, hq, fun h => h, a1, by simp only [upd, if_neg hx]; exact a2, a3, a4, by simp only [upd, if_neg hx]; exact a5, by simp only [upd, if_neg hx]; rw [setG_get]; exact a6⟩
    · simp at he
      subst he
      refine ⟨p, hp, fun h => h, rfl, by simp [upd], hd, hd2, by simp [upd], by simp only [upd, if_true]; rw [setG_get]⟩, fun q hq _ h1 h2 => by
    by_cases hx : q = p
    · subst hx; exact ⟨_, List.mem_append_right _ (List.mem_singleton_self _), rfl⟩
    · simp only [upd, if_neg hx] at h1 h2
      obtain ⟨e, he, hv⟩ := D.all q hq hx h1 h2
      exact ⟨e, List.mem_append_left _ he, hv⟩, fun q hq => by
    by_cases hx : q = p
    · subst hx; simp only [upd, if_true]; omega
    · simp only [upd, if_neg hx]; exact D.le q hq⟩
/-- The time goes on. -/
theorem DIX.adv (D : DI now f S gs tn tg) (hnd : (hsOf S).Nodup) (hl : ∀ x, x ∈ hsOf S → x < gs.length) {tt : Int} (hto : now ≤ tt) : DI tt f (expS tt S gs).2.1 (expS tt S gs).2.2 tn tg :=
  ⟨fun e he => by
    rw [expS_rest S.length tt S gs rfl hnd] at he
    obtain ⟨h1, h2⟩ := List.mem_filter.1 he
    simp only [decide_eq_true_eq] at h2
    obtain ⟨q, hq, hx, a1, a2, a3, a4, a5, a6⟩ := D.el e h1
    exact ⟨q, hq, fun h => h, a1, a2, h2, a4, a5, by rw [exp_gens hnd hl h1 h2]; exact a6⟩, fun q hq _ h1 h2 => by
    obtain ⟨e, he, hv⟩ := D.all q hq (fun h => h) (by omega) h2
    refine ⟨e, ?_, hv⟩
    rw [expS_rest S.length tt S gs rfl hnd]
    refine List.mem_filter.2 ⟨he, ?_⟩
    obtain ⟨p, _, _, a1, a2, _⟩ := D.el e he
    have : p = q := by omega
    subst this
    simp only [decide_eq_true_eq]; omega, D.le⟩

/-- One deadline comes before another one. -/
def ltL (x y : Int × Nat) : Prop := x.1 < y.1 ∨ (x.1 = y.1 ∧ x.2 < y.2)
theorem ltL_trans {x y z : Int × Nat} (h : ltL x y) (k : ltL y z) : ltL x z := by unfold ltL at *; omega
theorem ltL_irrefl (x : Int × Nat) : ¬ ltL x x := by unfold ltL; omega
theorem ltL_tri (x y : Int × Nat) : ltL x y ∨ x = y ∨ ltL y x := by
  obtain ⟨a, b⟩ := x
  obtain ⟨c, d⟩ := y
  unfold ltL
  simp only [Prod.mk.injEq]
  omega
/-- What passes, in order. -/
structure IsLap (now tt : Int) (f : Nat → Int) (L : List (Int × Nat)) : Prop where
  ord : L.Pairwise ltL
  mem : ∀ x : Int × Nat, x ∈ L ↔ (x.2 < 256 ∧ x.1 = f x.2 ∧ now < f x.2 ∧ f x.2 ≤ tt)
theorem sorted_eq : ∀ {L M : List (Int × Nat)}, L.Pairwise ltL → M.Pairwise ltL → (∀ x, x ∈ L ↔ x ∈ M) → L = M
  | [], [], _, _, _ => rfl
  | [], m :: M, _, _, h => by have := (h m).2 (by simp); simp at this
  | l :: L, [], _, _, h => by have := (h l).1 (by simp); simp at this
  | l :: L, m :: M, hl, hm, h => by
    obtain ⟨hl1, hl2⟩ := List.pairwise_cons.1 hl
    obtain ⟨hm1, hm2⟩ := List.pairwise_cons.1 hm
    have e : l = m := by
      rcases List.mem_cons.1 ((h l).1 (by simp)) with q | q
      · exact q
      · rcases List.mem_cons.1 ((h m).2 (by simp)) with q' | q'
        · exact q'.symm
        · exact absurd (ltL_trans (hl1 m q') (hm1 l q)) (ltL_irrefl l)
    subst e
    rw [sorted_eq hl2 hm2 (fun x => ?_)]
    constructor
    · intro hx
      rcases List.mem_cons.1 ((h x).1 (List.mem_cons_of_mem _ hx)) with q | q
      · subst q; exact absurd (hl1 x hx) (ltL_irrefl x)
      · exact q
    · intro hx
      rcases List.mem_cons.1 ((h x).2 (List.mem_cons_of_mem _ hx)) with q | q
      · subst q; exact absurd (hm1 x hx) (ltL_irrefl x)
      · exact q
theorem IsLap.unique {now tt : Int} {f : Nat → Int} {L M : List (Int × Nat)} (h : IsLap now tt f L) (k : IsLap now tt f M) : L = M :=
  sorted_eq h.ord k.ord fun x => (h.mem x).trans (k.mem x).symm
theorem IsLap.append {now mid tt : Int} {f : Nat → Int} {L M : List (Int × Nat)} (h : IsLap now mid f L) (k : IsLap mid tt f M) (h1 : now ≤ mid) (h2 : mid ≤ tt) : IsLap now tt f (L ++ M) :=
  ⟨List.pairwise_append.2 ⟨h.ord, k.ord, fun x hx y hy => by
    obtain ⟨_, a1, _, a3⟩ := (h.mem x).1 hx
    obtain ⟨_, b1, b2, _⟩ := (k.mem y).1 hy
    exact .inl (by omega)⟩, fun x => by
    rw [List.mem_append, h.mem, k.mem]
    constructor
    · rintro (⟨a, b, c, d⟩ | ⟨a, b, c, d⟩)
      · exact ⟨a, b, c, by omega⟩
      · exact ⟨a, b, by omega, d⟩
    · rintro ⟨a, b, c, d⟩
      by_cases q : f x.2 ≤ mid
      · exact .inl ⟨a, b, c, q⟩
      · exact .inr ⟨a, b, by omega, d⟩⟩
theorem IsLap.len {now tt : Int} {f : Nat → Int} {L : List (Int × Nat)} (h : IsLap now tt f L) : L.length ≤ 256 := by
  have h1 : (L.map Prod.snd).Nodup := by
    refine List.pairwise_map.2 (h.ord.imp_of_mem (fun {a b} ha hb hlt heq => ?_))
    have a1 := ((h.mem a).1 ha).2.1
    have b1 := ((h.mem b).1 hb).2.1
    rw [heq, ← b1] at a1
    unfold ltL at hlt
    omega
  have := List.Nodup.length_le_of_subset h1 (l₂ := List.range 256) (fun j hj => by
    obtain ⟨x, hx, rfl⟩ := List.mem_map.1 hj
    simpa using ((h.mem x).1 hx).1)
  simpa using this

/-- The earliest deadline that has not passed, or never. -/
def IsNext (now : Int) (f : Nat → Int) (v : Int) : Prop :=
  (v = Go.Proofs.YtcjeckjmoponkaaGreatDoor.Dl.never ∧ ∀ p : Nat, p < 256 → now < f p → f p = Go.Proofs.YtcjeckjmoponkaaGreatDoor.Dl.never) ∨ (∃ p : Nat, p < 256 ∧ v = f p ∧ now < v ∧ v < Go.Proofs.YtcjeckjmoponkaaGreatDoor.Dl.never ∧ ∀ q : Nat, q < 256 → now < f q → v ≤ f q)
theorem IsNext.unique {now : Int} {f : Nat → Int} {v v' : Int} (h : IsNext now f v) (k : IsNext now f v') : v = v' := by
  rcases h with ⟨rfl, h⟩ | ⟨p, hp, h1, h2, h3, h4⟩
  · rcases k with ⟨rfl, k⟩ | ⟨p, hp, k1, k2, k3, k4⟩
    · rfl
    · have := h p hp (by omega); omega
  · rcases k with ⟨rfl, k⟩ | ⟨q, hq, k1, k2, k3, k4⟩
    · have := k p hp (by omega); omega
    · have := h4 q hq (by omega)
      have := k4 p hp (by omega)
      omega
theorem DIX.next (D : DI now f S gs tn tg) : IsNext now f (nextK S) := by
  cases hf : fstE S with
  | none =>
    rw [nextK_none hf]
    obtain rfl := fstE_none hf
    refine .inl ⟨rfl, fun p hp h1 => ?_⟩
    have := D.le p hp
    refine Classical.byContradiction fun hn => ?_
    obtain ⟨e, he, _⟩ := D.all p hp (fun h => h) h1 (by omega)
    simp at he
  | some e =>
    rw [nextK_some hf]
    obtain ⟨p, hp, _, a1, a2, a3, a4, _⟩ := D.el e (fstE_mem hf)
    refine .inr ⟨p, hp, a2.symm, a3, a4, fun q hq h1 => ?_⟩
    by_cases h2 : f q < Go.Proofs.YtcjeckjmoponkaaGreatDoor.Dl.never
    · obtain ⟨e', he', hv⟩ := D.all q hq (fun h => h) h1 h2
      obtain ⟨q', _, _, b1, b2, _⟩ := D.el e' he'
      have : q' = q := by omega
      subst this
      rw [b2]
      exact fstE_least hf e' he'
    · omega
/-- What a timer that has expired says. -/
def lapD (d : Du) : Int × Nat := (d.k, d.o.toNat)
/-- What expires, sorted, is what passes. -/
theorem DIX.laps (D : DI now f S gs tn tg) (hnd : (hsOf S).Nodup) {tt : Int} (hto : tt < Go.Proofs.YtcjeckjmoponkaaGreatDoor.Dl.never) {L : List (Int × Nat)} (hL : L.Pairwise ltL) (hm : ∀ x, x ∈ L ↔ x ∈ (expS tt S gs).1.map lapD) : IsLap now tt f L := by
  refine ⟨hL, fun x => ?_⟩
  rw [hm, List.mem_map]
  constructor
  · rintro ⟨d, hd, rfl⟩
    obtain ⟨e, he, h1, h2, h3⟩ := (exp_mem _ tt S gs rfl hnd d.k d.o).1 ⟨d, hd, rfl, rfl⟩
    obtain ⟨p, hp, _, a1, a2, a3, a4, _⟩ := D.el e he
    have hx : lapD d = (e.k, p) := by unfold lapD; rw [← h2, ← h3, a1]; rfl
    rw [hx]
    exact ⟨hp, a2.symm, by show now < f p; omega, by show f p ≤ tt; omega⟩
  · rintro ⟨h1, h2, h3, h4⟩
    obtain ⟨e, he, hv⟩ := D.all x.2 h1 (fun h => h) h3 (by omega)
    obtain ⟨p, hp, _, a1, a2, a3, a4, _⟩ := D.el e he
    have : p = x.2 := by omega
    subst this
    obtain ⟨d, hd, hd1, hd2⟩ := (exp_mem _ tt S gs rfl hnd e.k e.v).2 ⟨e, he, by omega, rfl, rfl⟩
    refine ⟨d, hd, ?_⟩
    obtain ⟨x1, x2⟩ := x
    have hx : x1 = e.k := h2.trans a2
    unfold lapD
    rw [hd1, hd2, hv, hx]
    rfl
/-- The owners of what expires are places. -/
theorem DIX.dues (D : DI now f S gs tn tg) (hnd : (hsOf S).Nodup) {tt : Int} : ∀ d ∈ (expS tt S gs).1, ∃ p : Nat, p < 256 ∧ d.o = (p : Int) := by
  intro d hd
  obtain ⟨e, he, h1, h2, h3⟩ := (exp_mem _ tt S gs rfl hnd d.k d.o).1 ⟨d, hd, rfl, rfl⟩
  obtain ⟨p, hp, _, a1, _⟩ := D.el e he
  exact ⟨p, hp, by omega⟩
end
end Go.Proofs.YtcjeckjmoponkaaGreatDoor.Dl
/- Deadlines in memory: a clock, timers, and what is known of each place. -/
namespace Go.Proofs.YtcjeckjmoponkaaGreatDoor.Dl
open Go.RowKit Go.Sort
set_option linter.unusedVariables false
set_option linter.unusedSimpArgs false

/-- The body's own block. -/
structure JBlk (w : World) (bb cl ta : Nat) (f tn tg : Nat → Int) : Prop where
  ex : ∃ cur : Array Value, w.heap[bb]? = some (.cells cur 169 (0, 0)) ∧ cur.size = 770 ∧ cur[0]? = some (pt cl) ∧ cur[1]? = some (pt ta) ∧
    ∀ p : Nat, p < 256 → cur[2 + p * 3]? = some (.int .u64 (f p)) ∧ cur[2 + p * 3 + 1]? = some (.int .i64 (tn p)) ∧ cur[2 + p * 3 + 2]? = some (.int .i64 (tg p))
namespace JBlk
variable {w w' : World} {bb cl ta : Nat} {f tn tg : Nat → Int}
theorem lt (h : JBlk w bb cl ta f tn tg) : bb < w.heap.size := by obtain ⟨cur, hc, _⟩ := h.ex; exact lt_of_block hc
theorem keep (h : JBlk w bb cl ta f tn tg) (hk : w'.heap[bb]? = w.heap[bb]?) : JBlk w' bb cl ta f tn tg := by obtain ⟨cur, hc, r⟩ := h.ex; exact ⟨cur, hk.trans hc, r⟩
theorem c0 (h : JBlk w bb cl ta f tn tg) : w.cell? ⟨bb, 0, none⟩ = some (pt cl) := by obtain ⟨cur, hc, _, h0, _⟩ := h.ex; exact cells_cell hc h0
theorem c1 (h : JBlk w bb cl ta f tn tg) : w.cell? ⟨bb, 1, none⟩ = some (pt ta) := by obtain ⟨cur, hc, _, _, h1, _⟩ := h.ex; exact cells_cell hc h1
theorem cf (h : JBlk w bb cl ta f tn tg) (p : Nat) (hp : p < 256) : w.cell? ⟨bb, 2 + p * 3, none⟩ = some (.int .u64 (f p)) := by obtain ⟨cur, hc, _, _, _, r⟩ := h.ex; exact cells_cell hc (r p hp).1
theorem cn (h : JBlk w bb cl ta f tn tg) (p : Nat) (hp : p < 256) : w.cell? ⟨bb, 2 + p * 3 + 1, none⟩ = some (.int .i64 (tn p)) := by obtain ⟨cur, hc, _, _, _, r⟩ := h.ex; exact cells_cell hc (r p hp).2.1
theorem cg (h : JBlk w bb cl ta f tn tg) (p : Nat) (hp : p < 256) : w.cell? ⟨bb, 2 + p * 3 + 2, none⟩ = some (.int .i64 (tg p)) := by obtain ⟨cur, hc, _, _, _, r⟩ := h.ex; exact cells_cell hc (r p hp).2.2
theorem fr (h : JBlk w bb cl ta f tn tg) (o : Nat) : w.frozen? ⟨bb, o, none⟩ = false := by obtain ⟨cur, hc, _⟩ := h.ex; exact cells_free hc o
theorem setAt (h : JBlk w bb cl ta f tn tg) (p : Nat) (hp : p < 256) (d : Int) : JBlk (w.setCell ⟨bb, 2 + p * 3, none⟩ (.int .u64 d)) bb cl ta (upd f p d) tn tg := by
  obtain ⟨cur, hc, hs, h0, h1, r⟩ := h.ex
  refine ⟨_, cells_set hc _ _, by simpa using hs, ?_, ?_, fun q hq => ?_⟩
  · rw [Array.getElem?_setIfInBounds, if_neg (by omega)]; exact h0
  · rw [Array.getElem?_setIfInBounds, if_neg (by omega)]; exact h1
  · obtain ⟨a, b, c⟩ := r q hq
    refine ⟨?_, ?_, ?_⟩
    · rw [Array.getElem?_setIfInBounds]
      by_cases e : q = p
      · subst e; rw [if_pos rfl, if_pos (by omega)]; simp [upd]
      · rw [if_neg (by omega)]; simp only [upd, if_neg e]; exact a
    · rw [Array.getElem?_setIfInBounds, if_neg (by omega)]; exact b
    · rw [Array.getElem?_setIfInBounds, if_neg (by omega)]; exact c
theorem setName (h : JBlk w bb cl ta f tn tg) (p : Nat) (hp : p < 256) (x y : Int) : JBlk ((w.setCell ⟨bb, 2 + p * 3 + 1, none⟩ (.int .i64 x)).setCell ⟨bb, 2 + p * 3 + 2, none⟩ (.int .i64 y)) bb cl ta f (upd tn p x) (upd tg p y) := by
  obtain ⟨cur, hc, hs, h0, h1, r⟩ := h.ex
  refine ⟨_, cells_set (cells_set hc _ _) _ _, by simpa using hs, ?_, ?_, fun q hq => ?_⟩
  · rw [Array.getElem?_setIfInBounds, if_neg (by omega), Array.getElem?_setIfInBounds, if_neg (by omega)]; exact h0
  · rw [Array.getElem?_setIfInBounds, if_neg (by omega), Array.getElem?_setIfInBounds, if_neg (by omega)]; exact h1
  · obtain ⟨a, b, c⟩ := r q hq
    refine ⟨?_, ?_, ?_⟩
    · rw [Array.getElem?_setIfInBounds, if_neg (by omega), Array.getElem?_setIfInBounds, if_neg (by omega)]; exact a
    · rw [Array.getElem?_setIfInBounds, if_neg (by omega), Array.getElem?_setIfInBounds]
      by_cases e : q = p
      · subst e; rw [if_pos rfl, if_pos (by omega)]; simp [upd]
      · rw [if_neg (by omega)]; simp only [upd, if_neg e]; exact b
    · rw [Array.getElem?_setIfInBounds]
      by_cases e : q = p
      · subst e; rw [if_pos rfl, if_pos (by simp; omega)]; simp [upd]
      · rw [if_neg (by omega), Array.getElem?_setIfInBounds, if_neg (by omega)]; simp only [upd, if_neg e]; exact c
end JBlk

/-- The blocks that the timers leave alone: the law's own, and the deadlines' other ones. -/
def JG (G : Nat → Prop) (a bb cl : Nat) : Nat → Prop := fun k => G k ∨ k = a ∨ k = bb ∨ k = cl

structure JB (w0 : World) (G : Nat → Prop) (w : World) (a bb cl ta : Nat) (now : Int) (f : Nat → Int) (D : Prop) (S : List El) (gs : List Nat) (tn tg : Nat → Int) (P : Nat) : Prop where
  T : TmIn w0 (JG G a bb cl) w ta S gs P
  ha : w.heap[a]? = some (.cells #[pt bb] 171 (0, 0))
  hb : JBlk w bb cl ta f tn tg
  hc : ClkAt w cl now
  na : ¬ G a
  nb : ¬ G bb
  nc : ¬ G cl
  ba : w0.heap.size ≤ a
  bb0 : w0.heap.size ≤ bb
  bc : w0.heap.size ≤ cl
  di : D
  nn : now < never

namespace JB
variable {w0 w : World} {G : Nat → Prop} {a bb cl ta : Nat} {now : Int} {f : Nat → Int} {D : Prop} {S : List El} {gs : List Nat} {tn tg : Nat → Int} {P : Nat}
theorem ab (B : JB w0 G w a bb cl ta now f D S gs tn tg P) : a ≠ bb := by obtain ⟨cur, hc, _⟩ := B.hb.ex; exact BodAt.ne_types B.ha hc (by decide)
theorem ac (B : JB w0 G w a bb cl ta now f D S gs tn tg P) : a ≠ cl := BodAt.ne_types B.ha B.hc (by decide)
theorem bc' (B : JB w0 G w a bb cl ta now f D S gs tn tg P) : bb ≠ cl := by obtain ⟨cur, hc, _⟩ := B.hb.ex; exact BodAt.ne_types hc B.hc (by decide)
theorem alt (B : JB w0 G w a bb cl ta now f D S gs tn tg P) : a < w.heap.size := lt_of_block B.ha
theorem clt (B : JB w0 G w a bb cl ta now f D S gs tn tg P) : cl < w.heap.size := lt_of_block B.hc
theorem ca (B : JB w0 G w a bb cl ta now f D S gs tn tg P) : w.cell? ⟨a, 0, none⟩ = some (.pointer (some ⟨bb, 0, none⟩)) := cells_cell B.ha rfl
theorem below (B : JB w0 G w a bb cl ta now f D S gs tn tg P) : Below w0.heap.size w0 w := B.T.below
theorem glt (B : JB w0 G w a bb cl ta now f D S gs tn tg P) : ∀ k, G k → k < w.heap.size := fun k hk => B.T.glt k (.inl hk)
/-- The world has grown; the blocks left alone may be new ones, too. -/
theorem more {w' : World} {G' : Nat → Prop} (B : JB w0 G w a bb cl ta now f D S gs tn tg P) (hb : Below w.heap.size w w') (hG : ∀ k, G' k → G k ∨ (w.heap.size ≤ k ∧ k < w'.heap.size)) : JB w0 G' w' a bb cl ta now f D S gs tn tg P := by
  refine ⟨B.T.more hb (fun k hk => ?_), (hb.block _ B.alt).trans B.ha, B.hb.keep (hb.block _ B.hb.lt), B.hc.below hb, fun h => ?_, fun h => ?_, fun h => ?_, B.ba, B.bb0, B.bc, B.di, B.nn⟩
  · rcases hk with h | h | h | h
    · rcases hG k h with h' | h'
      · exact .inl (.inl h')
      · exact .inr h'
    · exact .inl (.inr (.inl h))
    · exact .inl (.inr (.inr (.inl h)))
    · exact .inl (.inr (.inr (.inr h)))
  · rcases hG _ h with h' | h'
    · exact B.na h'
    · have := B.alt; omega
  · rcases hG _ h with h' | h'
    · exact B.nb h'
    · have := B.hb.lt; omega
  · rcases hG _ h with h' | h'
    · exact B.nc h'
    · have := B.clt; omega
theorem grown {w' : World} (B : JB w0 G w a bb cl ta now f D S gs tn tg P) (hb : Below w.heap.size w w') : JB w0 G w' a bb cl ta now f D S gs tn tg P := B.more hb fun _ h => .inl h
theorem less {G' : Nat → Prop} (B : JB w0 G w a bb cl ta now f D S gs tn tg P) (hG : ∀ k, G' k → G k) : JB w0 G' w a bb cl ta now f D S gs tn tg P := B.more (Below.refl _ _) fun k h => .inl (hG k h)
theorem keep {w' : World} (B : JB w0 G w a bb cl ta now f D S gs tn tg P) (hb : Below w.heap.size w w') : Keep G w w' := fun k hk => hb.block k (B.glt k hk)
theorem mono {Q : Nat} (B : JB w0 G w a bb cl ta now f D S gs tn tg P) (hq : P ≤ Q) : JB w0 G w a bb cl ta now f D S gs tn tg Q := ⟨B.T.mono hq, B.ha, B.hb, B.hc, B.na, B.nb, B.nc, B.ba, B.bb0, B.bc, B.di, B.nn⟩
/-- A call of the timers. -/
theorem timers {w' : World} {S' : List El} {gs' : List Nat} {P' : Nat} {D' : Prop} (B : JB w0 G w a bb cl ta now f D S gs tn tg P) (T : TmIn w0 (JG G a bb cl) w' ta S' gs' P') (K : Keep (JG G a bb cl) w w') (d : D') :
    JB w0 G w' a bb cl ta now f D' S' gs' tn tg P' ∧ Keep G w w' :=
  ⟨⟨T, (K a (.inr (.inl rfl))).trans B.ha, B.hb.keep (K bb (.inr (.inr (.inl rfl)))), (K cl (.inr (.inr (.inr rfl)))).trans B.hc, B.na, B.nb, B.nc, B.ba, B.bb0, B.bc, d, B.nn⟩, fun k hk => K k (.inl hk)⟩
/-- A write into the body's block. -/
theorem body {w' : World} {f' : Nat → Int} {D' : Prop} {tn' tg' : Nat → Int} (B : JB w0 G w a bb cl ta now f D S gs tn tg P) (hf : Fr [bb] w w') (hb : JBlk w' bb cl ta f' tn' tg') (d : D') :
    JB w0 G w' a bb cl ta now f' D' S gs tn' tg' P ∧ Keep G w w' :=
  ⟨⟨B.T.write hf (fun k hk => by simp at hk; subst hk; exact ⟨.inr (.inr (.inl rfl)), B.bb0⟩), hf.same B.ha (by simpa using B.ab), hb, hf.same B.hc (by simpa using (Ne.symm B.bc')), B.na, B.nb, B.nc, B.ba, B.bb0, B.bc, d, B.nn⟩,
    fun k hk => hf.block k (B.glt k hk) (fun h => by simp at h; subst h; exact B.nb hk)⟩
/-- A write into the clock's block. -/
theorem clock {w' : World} {now' : Int} {D' : Prop} (B : JB w0 G w a bb cl ta now f D S gs tn tg P) (hf : Fr [cl] w w') (hc : ClkAt w' cl now') (hn : now' < never) (d : D') :
    JB w0 G w' a bb cl ta now' f D' S gs tn tg P ∧ Keep G w w' :=
  ⟨⟨B.T.write hf (fun k hk => by simp at hk; subst hk; exact ⟨.inr (.inr (.inr rfl)), B.bc⟩), hf.same B.ha (by simpa using B.ac), B.hb.keep (hf.block _ B.hb.lt (by simpa using B.bc')), hc, B.na, B.nb, B.nc, B.ba, B.bb0, B.bc, d, hn⟩,
    fun k hk => hf.block k (B.glt k hk) (fun h => by simp at h; subst h; exact B.nc hk)⟩
/-- A block of the law's own is written. -/
theorem write {w' : World} {F : List Nat} (B : JB w0 G w a bb cl ta now f D S gs tn tg P) (hf : Fr F w w') (hF : ∀ k, k ∈ F → G k ∧ w0.heap.size ≤ k) : JB w0 G w' a bb cl ta now f D S gs tn tg P :=
  ⟨B.T.write hf (fun k hk => ⟨.inl (hF k hk).1, (hF k hk).2⟩), hf.same B.ha (fun h => B.na (hF _ h).1), B.hb.keep (hf.block _ B.hb.lt (fun h => B.nb (hF _ h).1)), hf.same B.hc (fun h => B.nc (hF _ h).1), B.na, B.nb, B.nc, B.ba, B.bb0, B.bc, B.di, B.nn⟩
/-- The deadlines' own blocks: whatever else the world does. -/
theorem foot (B : JB w0 G w a bb cl ta now f D S gs tn tg P) : ∃ F : Nat → Prop, (∀ k, F k → w0.heap.size ≤ k ∧ k < w.heap.size ∧ ¬ G k) ∧
    ∀ (w0' : World) (G' : Nat → Prop) (w' : World), w'.os = w.os → w'.tape = w.tape → w'.output = w.output → w.heap.size ≤ w'.heap.size → (∀ k, F k → w'.heap[k]? = w.heap[k]?) → Below w0'.heap.size w0' w' →
      (∀ k, F k → w0'.heap.size ≤ k ∧ ¬ G' k) → (∀ k, G' k → k < w'.heap.size) → JB w0' G' w' a bb cl ta now f D S gs tn tg P := by
  obtain ⟨F, h1, h2⟩ := B.T.foot
  refine ⟨fun k => F k ∨ k = a ∨ k = bb ∨ k = cl, fun k hk => ?_, fun w0' G' w' ho ht hp hs hk hb hF hG => ?_⟩
  · rcases hk with h | rfl | rfl | rfl
    · exact ⟨(h1 k h).1, (h1 k h).2.1, fun hg => (h1 k h).2.2 (.inl hg)⟩
    · exact ⟨B.ba, B.alt, B.na⟩
    · exact ⟨B.bb0, B.hb.lt, B.nb⟩
    · exact ⟨B.bc, B.clt, B.nc⟩
  · have fa := hF a (.inr (.inl rfl))
    have fb := hF bb (.inr (.inr (.inl rfl)))
    have fc := hF cl (.inr (.inr (.inr rfl)))
    refine ⟨h2 w0' (JG G' a bb cl) w' ho ht hp hs (fun k h => hk k (.inl h)) hb (fun k h => ⟨(hF k (.inl h)).1, fun hg => ?_⟩) (fun k hg => ?_), (hk a (.inr (.inl rfl))).trans B.ha, B.hb.keep (hk bb (.inr (.inr (.inl rfl)))), (hk cl (.inr (.inr (.inr rfl)))).trans B.hc, fa.2, fb.2, fc.2, fa.1, fb.1, fc.1, B.di, B.nn⟩
    · rcases hg with hg | hg | hg | hg
      · exact (hF k (.inl h)).2 hg
      · exact (h1 k h).2.2 (.inr (.inl hg))
      · exact (h1 k h).2.2 (.inr (.inr (.inl hg)))
      · exact (h1 k h).2.2 (.inr (.inr (.inr hg)))
    · rcases hg with hg | rfl | rfl | rfl
      · exact hG k hg
      · exact Nat.lt_of_lt_of_le B.alt hs
      · exact Nat.lt_of_lt_of_le B.hb.lt hs
      · exact Nat.lt_of_lt_of_le B.clt hs
end JB

/-- Deadlines at block a, made since w0: the time, the deadlines of the places, and how often one was set at most. -/
def JAt (w0 : World) (G : Nat → Prop) (w : World) (a : Nat) (now : Int) (f : Nat → Int) (P : Nat) : Prop :=
  ∃ bb cl ta S gs tn tg, JB w0 G w a bb cl ta now f (DI now f S gs tn tg) S gs tn tg P
namespace JAt
variable {w0 w : World} {G : Nat → Prop} {a : Nat} {now : Int} {f : Nat → Int} {P : Nat}
theorem alt (J : JAt w0 G w a now f P) : a < w.heap.size := by obtain ⟨_, _, _, _, _, _, _, B⟩ := J; exact B.alt
theorem nn (J : JAt w0 G w a now f P) : now < never := by obtain ⟨_, _, _, _, _, _, _, B⟩ := J; exact B.nn
theorem le (J : JAt w0 G w a now f P) : ∀ p : Nat, p < 256 → f p ≤ never := by obtain ⟨_, _, _, _, _, _, _, B⟩ := J; exact B.di.le
theorem below (J : JAt w0 G w a now f P) : Below w0.heap.size w0 w := by obtain ⟨_, _, _, _, _, _, _, B⟩ := J; exact B.below
theorem glt (J : JAt w0 G w a now f P) : ∀ k, G k → k < w.heap.size := by obtain ⟨_, _, _, _, _, _, _, B⟩ := J; exact B.glt
theorem mono {Q : Nat} (J : JAt w0 G w a now f P) (hq : P ≤ Q) : JAt w0 G w a now f Q := by obtain ⟨_, _, _, _, _, _, _, B⟩ := J; exact ⟨_, _, _, _, _, _, _, B.mono hq⟩
theorem more {w' : World} {G' : Nat → Prop} (J : JAt w0 G w a now f P) (hb : Below w.heap.size w w') (hG : ∀ k, G' k → G k ∨ (w.heap.size ≤ k ∧ k < w'.heap.size)) : JAt w0 G' w' a now f P := by obtain ⟨_, _, _, _, _, _, _, B⟩ := J; exact ⟨_, _, _, _, _, _, _, B.more hb hG⟩
theorem grown {w' : World} (J : JAt w0 G w a now f P) (hb : Below w.heap.size w w') : JAt w0 G w' a now f P := J.more hb fun _ h => .inl h
theorem less {G' : Nat → Prop} (J : JAt w0 G w a now f P) (hG : ∀ k, G' k → G k) : JAt w0 G' w a now f P := J.more (Below.refl _ _) fun k h => .inl (hG k h)
theorem alloc (J : JAt w0 G w a now f P) (o : Obj) : JAt w0 G (w.alloc o) a now f P := J.grown ((Below.refl _ _).alloc (Nat.le_refl _) _)
theorem drew (J : JAt w0 G w a now f P) (n : Nat) : JAt w0 G (w.drewN n) a now f P := J.grown ((fr_drewN w n []).below (fun _ hx => by simp at hx) (Nat.le_refl _))
theorem write {w' : World} {F : List Nat} (J : JAt w0 G w a now f P) (hf : Fr F w w') (hF : ∀ k, k ∈ F → G k ∧ w0.heap.size ≤ k) : JAt w0 G w' a now f P := by obtain ⟨_, _, _, _, _, _, _, B⟩ := J; exact ⟨_, _, _, _, _, _, _, B.write hf hF⟩
theorem keep {w' : World} (J : JAt w0 G w a now f P) (hb : Below w.heap.size w w') : Keep G w w' := fun k hk => hb.block k (J.glt k hk)
theorem foot (J : JAt w0 G w a now f P) : ∃ F : Nat → Prop, (∀ k, F k → w0.heap.size ≤ k ∧ k < w.heap.size ∧ ¬ G k) ∧
    ∀ (w0' : World) (G' : Nat → Prop) (w' : World), w'.os = w.os → w'.tape = w.tape → w'.output = w.output → w.heap.size ≤ w'.heap.size → (∀ k, F k → w'.heap[k]? = w.heap[k]?) → Below w0'.heap.size w0' w' →
      (∀ k, F k → w0'.heap.size ≤ k ∧ ¬ G' k) → (∀ k, G' k → k < w'.heap.size) → JAt w0' G' w' a now f P := by
  obtain ⟨bb, cl, ta, S, gs, tn, tg, B⟩ := J
  obtain ⟨F, h1, h2⟩ := B.foot
  exact ⟨F, h1, fun w0' G' w' a1 a2 a3 a4 a5 a6 a7 a8 => ⟨_, _, _, _, _, _, _, h2 w0' G' w' a1 a2 a3 a4 a5 a6 a7 a8⟩⟩
end JAt
end Go.Proofs.YtcjeckjmoponkaaGreatDoor.Dl
/- Where a spot is known: find, cell, passed, running. -/
namespace Go.Proofs.YtcjeckjmoponkaaGreatDoor.Dl
open Go.RowKit Go.Sort
set_option linter.unusedVariables false
set_option linter.unusedSimpArgs false

set_option maxHeartbeats 800000 in
theorem jcell_any (bb q r : Nat) (hq : q < 128) (hr : r < 2) (w : World) : Calls Tryz.prog 163 #[pt bb, plc q r] w fun e w' => e = .returned (.pointer (some ⟨bb, 2 + (q * 2 + r) * 3, none⟩)) ∧ Grn w w' := by
  rw [show 2 + (q * 2 + r) * 3 = 2 + q * 6 + r * 3 by omega]
  obtain ⟨W, hW⟩ : ∃ W, w.alloc (.cells #[.int .i64 q, .int .i64 r] 211) = W := ⟨_, rfl⟩
  have hG : Grn w W := by rw [← hW]; exact (Grn.refl w).alloc _
  have x0 : W.cell? ⟨w.heap.size, 0, none⟩ = some (.int .i64 q) := by rw [← hW]; exact cell_new _ _ _ _ _ _ rfl rfl
  have x1 : W.cell? ⟨w.heap.size, 1, none⟩ = some (.int .i64 r) := by rw [← hW]; exact cell_new _ _ _ _ _ _ rfl rfl
  have h1 : (q : Int) < 128 := by omega
  have h2 : (r : Int) < 2 := by omega
  have HG := Lib.hid hG
  have HW := Lib.hid hW
  clear hG hW
  unfold pt plc
  go_enter Tryz.func163, Tryz.ntmps163
  go_wp2_with fail
  rw [HW.out]
  go_quiet (fail)
  go_wp2_with fail
  go_ret
  exact ⟨rfl, HG.out.drew _⟩

theorem passed_any (k now : Int) (hn : now ≠ never) (w : World) : Calls Tryz.prog 169 #[.int .u64 k, .int .u64 now] w fun e w' => e = .returned (.bool (decide (k ≤ now))) ∧ w = w' := by
  by_cases h : k ≤ now
  · rw [decide_eq_true h]; exact passed_yes k now h hn w
  · rw [decide_eq_false h]; exact passed_no k now (fun q => h q.1) w

set_option maxHeartbeats 1600000 in
theorem jpassed_any {w : World} {bb cl q r : Nat} {now d : Int} (hq : q < 128) (hr : r < 2) (c0 : w.cell? ⟨bb, 0, none⟩ = some (pt cl)) (cf : w.cell? ⟨bb, 2 + (q * 2 + r) * 3, none⟩ = some (.int .u64 d)) (hc : ClkAt w cl now) (hn : now ≠ never) :
    Calls Tryz.prog 117 #[pt bb, plc q r] w fun e w' => e = .returned (.bool (decide (d ≤ now))) ∧ Grn w w' := by
  obtain ⟨W, hW⟩ : ∃ W, w.alloc (.cells #[.int .i64 q, .int .i64 r] 211) = W := ⟨_, rfl⟩
  have hG : Grn w W := by rw [← hW]; exact (Grn.refl w).alloc _
  have x0 : ∀ m os, (grow (W.drewN m) os).cell? ⟨w.heap.size, 0, none⟩ = some (.int .i64 q) := cell_grn (by rw [← hW]; simp) (by rw [← hW]; exact cell_new _ _ _ _ _ _ rfl rfl)
  have x1 : ∀ m os, (grow (W.drewN m) os).cell? ⟨w.heap.size, 1, none⟩ = some (.int .i64 r) := cell_grn (by rw [← hW]; simp) (by rw [← hW]; exact cell_new _ _ _ _ _ _ rfl rfl)
  have hb := hG.below
  have hbs : bb < w.heap.size := World.block_lt_of_cell? w _ c0
  have y0 : ∀ m os, (grow (W.drewN m) os).cell? ⟨bb, 0, none⟩ = some (pt cl) := cell_grn (Nat.lt_of_lt_of_le hbs hb.size) ((hb.cell (p := ⟨bb, 0, none⟩) hbs).trans c0)
  have y1 : ∀ m os, (grow (W.drewN m) os).cell? ⟨bb, 2 + (q * 2 + r) * 3, none⟩ = some (.int .u64 d) := cell_grn (Nat.lt_of_lt_of_le hbs hb.size) ((hb.cell (p := ⟨bb, 2 + (q * 2 + r) * 3, none⟩) hbs).trans cf)
  have hcell := Lib.hid (fun m os => jcell_any bb q r hq hr (grow (W.drewN m) os))
  have hnow := Lib.hid (fun m os => (vnow_any (((hc.below hb).below (fr_drewN W m [] |>.below (fun _ hx => by simp at hx) (Nat.le_refl _))).below ((fr_grow (W.drewN m) 0 os []).below (fun _ hx => by simp at hx) (Nat.le_refl _)))).mono (R' := fun e w' => e = .returned (.int .u64 now) ∧ Grn (grow (W.drewN m) os) w') fun e w' ⟨h1, h2⟩ => ⟨h1, h2 ▸ Grn.refl _⟩)
  have hps := Lib.hid (fun w => (passed_any d now hn w).mono (R' := fun e w' => e = .returned (.bool (decide (d ≤ now))) ∧ Grn w w') fun e w' ⟨h1, h2⟩ => ⟨h1, h2 ▸ Grn.refl _⟩)
  have HG := Lib.hid hG
  have HW := Lib.hid hW
  have mixed : Tryz.prog.follows .mixedOrders = true := by kernel_rfl
  clear hG hW hb hc c0 cf hn
  unfold pt plc at *
  generalize decide (d ≤ now) = ans at *
  go_enter Tryz.func117, Tryz.ntmps117
  go_wp2_with fail
  rw [HW.out]
  go_quiet_grown ((first
    | (go_at_call 163; refine Calls.grown_of (hcell.out _ _))
    | (go_at_call 139; refine Calls.grown_of (hnow.out _ _))
    | (go_at_call 169; refine Calls.grown_of (hps.out _))))
  go_wp2_with fail
  go_ret
  exact ⟨rfl, HG.out.trans ⟨_, _, rfl⟩⟩

set_option maxHeartbeats 1600000 in
theorem jfind_yes {w : World} (a bb q r : Nat) (hq : q < 128) (hr : r < 2) (hc : w.cell? ⟨a, 0, none⟩ = some (.pointer (some ⟨bb, 0, none⟩))) :
    Calls Tryz.prog 113 #[pt a, plc q r] w fun e w' => e = .returned (.tuple #[plc q r, .int .i64 0]) ∧ Grn w w' := by
  obtain ⟨W, hW⟩ : ∃ W, (w.alloc (.cells #[.int .i64 q, .int .i64 r] 132)).alloc (.cells #[.int .i64 0, .int .i64 0] 211) = W := ⟨_, rfl⟩
  have hG : Grn w W := by rw [← hW]; exact ((Grn.refl w).alloc _).alloc _
  have hb := hG.below
  have ca : W.cell? ⟨a, 0, none⟩ = some (.pointer (some ⟨bb, 0, none⟩)) := (hb.cell (p := ⟨a, 0, none⟩) (World.block_lt_of_cell? w _ hc)).trans hc
  have x0 : W.cell? ⟨w.heap.size, 0, none⟩ = some (.int .i64 q) := by rw [← hW]; exact (fr_alloc _ _ []).cell (cell_new _ _ _ _ _ _ rfl rfl) (by simp)
  have x1 : W.cell? ⟨w.heap.size, 1, none⟩ = some (.int .i64 r) := by rw [← hW]; exact (fr_alloc _ _ []).cell (cell_new _ _ _ _ _ _ rfl rfl) (by simp)
  have r0 : W.heap[w.heap.size + 1]? = some (.cells #[.int .i64 0, .int .i64 0] 211 (0, 0)) := by rw [← hW]; exact block_new _ _ _ (by simp)
  have hu := Lib.hid (jusable_yes a bb W ca)
  have hv := Lib.hid (jvalid_any q r W)
  have hok : okS (q : Int) (r : Int) = true := by simp [okS]; omega
  rw [hok] at hv
  have HG := Lib.hid hG
  have HW := Lib.hid hW
  have Hr0 := Lib.hid r0
  clear hG hW hb hok r0
  unfold pt plc at *
  go_enter Tryz.func113, Tryz.ntmps113
  go_wp2_with fail
  rw [HW.out]
  go_wp2_with (first | (go_at_call 121; refine hu.out.mono ?_; rintro e w' ⟨rfl, rfl⟩) | (go_at_call 162; fail))
  refine hv.out.mono ?_
  rintro e w2 ⟨rfl, hg2⟩
  have hb2 := hg2.below
  have z0 := (hb2.cell (p := ⟨w.heap.size, 0, none⟩) (World.block_lt_of_cell? W _ x0)).trans x0
  have z1 := (hb2.cell (p := ⟨w.heap.size, 1, none⟩) (World.block_lt_of_cell? W _ x1)).trans x1
  have r2 := (hb2.block _ (lt_of_block Hr0.out)).trans Hr0.out
  have f0 := cells_free r2 0
  have f1 := cells_free r2 1
  have c0 := cells_cell (o := 0) r2 rfl
  have c1 := cells_cell (o := 1) r2 rfl
  have Hr2 := Lib.hid (set2 r2 (.int .i64 q) (.int .i64 r))
  have Hg2 := Lib.hid hg2
  clear hg2 hb2 r2
  go_wp2_with fail
  have s0 := cells_cell (o := 0) Hr2.out rfl
  have s1 := cells_cell (o := 1) Hr2.out rfl
  have hfin : Grn w ((w2.setCell ⟨w.heap.size + 1, 0, none⟩ (.int .i64 q)).setCell ⟨w.heap.size + 1, 1, none⟩ (.int .i64 r)) := ((HG.out.trans Hg2.out).set ⟨w.heap.size + 1, 0, none⟩ _ (by simp)).set ⟨w.heap.size + 1, 1, none⟩ _ (by simp)
  generalize ((w2.setCell ⟨w.heap.size + 1, 0, none⟩ (.int .i64 q)).setCell ⟨w.heap.size + 1, 1, none⟩ (.int .i64 r)) = w3 at *
  exact bodyPost_ret (v := .tuple #[.agg #[.int .i64 q, .int .i64 r], .int .i64 0]) (by simp [results, Tryz.results113, go_sem, s0, s1]) rfl ⟨rfl, hfin⟩

end Go.Proofs.YtcjeckjmoponkaaGreatDoor.Dl
/- Two places are equal if their numbers are. -/
namespace Go.Proofs.YtcjeckjmoponkaaGreatDoor.Dl
open Go.RowKit Go.Sort
set_option linter.unusedVariables false
set_option linter.unusedSimpArgs false

theorem place_equal (a b c d : Int) (w : World) : (Op.equalIn 10000 211 (.agg #[.int .i64 a, .int .i64 b]) (.agg #[.int .i64 c, .int .i64 d])).run Tryz.prog w = .ok (a == c && b == d) w := by
  have hu : Tryz.prog.underlying 211 = some (.array 2 3) := by kernel_rfl
  have hi : Tryz.prog.underlying 3 = some (.int .i64) := by kernel_rfl
  have h1 : ∀ w, (sizeOf 3).run Tryz.prog w = .ok 1 w := fun w => by simp [go_sem]
  have hp : ∀ (x y : Int) (w : World), (part 3 #[.int .i64 x, .int .i64 y] 0).run Tryz.prog w = .ok (.int .i64 x) w := fun x y w => by simp [part, go_sem]
  have hp1 : ∀ (x y : Int) (w : World), (part 3 #[.int .i64 x, .int .i64 y] 1).run Tryz.prog w = .ok (.int .i64 y) w := fun x y w => by simp [part, go_sem]
  have he : ∀ (x y : Int) (w : World), (Op.equalIn 9999 3 (.int .i64 x) (.int .i64 y)).run Tryz.prog w = .ok (x == y) w := fun x y w => run_equalIn_int w 9998 3 .i64 .i64 x y hi
  show (Op.equalIn (9999 + 1) 211 _ _).run Tryz.prog w = _
  unfold Op.equalIn
  simp only [Sem.run_bind, run_underlying hu, Result.andThen_ok, h1]
  rw [Std.Legacy.Range.forIn_eq_forIn_range']
  simp [Std.Legacy.Range.size, List.range', hp, hp1, he]
  by_cases q : a = c
  · subst q
    by_cases q2 : b = d
    · subst q2; simp
    · simp [q2]
  · simp [q]
theorem place_guard (op : BinOp) (x y : Operand) (a b c d : Int) (w : World) : (eqGuard op 211 x y (.agg #[.int .i64 a, .int .i64 b]) (.agg #[.int .i64 c, .int .i64 d])).run Tryz.prog w = .ok () w :=
  run_eqGuard_agg w op _ x y _ _ (by kernel_rfl)
end Go.Proofs.YtcjeckjmoponkaaGreatDoor.Dl
/- Is the timer of a place set: running. -/
namespace Go.Proofs.YtcjeckjmoponkaaGreatDoor.Dl
open Go.RowKit Go.Sort
set_option linter.unusedVariables false
set_option linter.unusedSimpArgs false

theorem beq_nat (a b : Nat) : ((a : Int) == (b : Int)) = decide (a = b) := by
  by_cases h : a = b
  · subst h; simp
  · have : ¬ ((a : Int) = b) := by omega
    simp [h, this]

/-- What Get of the timers returns, as running looks at it: the owner q' r' or a code. -/
def getV (ok : Bool) (k : Int) (q r : Nat) : Value := .tuple #[.int .u64 (if ok then k else 0), .int .i64 (if ok then ((q * 2 + r : Nat) : Int) else 0), .int .i64 (if ok then 0 else 9)]

set_option maxHeartbeats 3200000 in
set_option maxRecDepth 100000 in
theorem jrun_walk {w : World} {bb ta q r q' r' : Nat} {n g k : Int} (ok : Bool) (hq : q < 128) (hr : r < 2) (hq' : q' < 128) (hr' : r' < 2) (c1 : w.cell? ⟨bb, 1, none⟩ = some (pt ta)) (cn : w.cell? ⟨bb, 2 + (q * 2 + r) * 3 + 1, none⟩ = some (.int .i64 n)) (cg : w.cell? ⟨bb, 2 + (q * 2 + r) * 3 + 2, none⟩ = some (.int .i64 g))
    (hget : ∀ W, Below w.heap.size w W → Calls Tryz.prog 198 #[pt ta, .agg #[.int .i64 n, .int .i64 g]] W fun e w' => e = .returned (getV ok k q' r') ∧ Grn W w') :
    Calls Tryz.prog 164 #[pt bb, plc q r] w fun e w' => e = .returned (.bool (ok && decide (q' = q ∧ r' = r))) ∧ Grn w w' := by
  obtain ⟨W, hW⟩ : ∃ W, w.alloc (.cells #[.int .i64 q, .int .i64 r] 211) = W := ⟨_, rfl⟩
  have hG : Grn w W := by rw [← hW]; exact (Grn.refl w).alloc _
  have x0 : ∀ m os, (grow (W.drewN m) os).cell? ⟨w.heap.size, 0, none⟩ = some (.int .i64 q) := cell_grn (by rw [← hW]; simp) (by rw [← hW]; exact cell_new _ _ _ _ _ _ rfl rfl)
  have x1 : ∀ m os, (grow (W.drewN m) os).cell? ⟨w.heap.size, 1, none⟩ = some (.int .i64 r) := cell_grn (by rw [← hW]; simp) (by rw [← hW]; exact cell_new _ _ _ _ _ _ rfl rfl)
  have hb := hG.below
  have hbs : bb < w.heap.size := World.block_lt_of_cell? w _ c1
  have y1 : ∀ m os, (grow (W.drewN m) os).cell? ⟨bb, 1, none⟩ = some (pt ta) := cell_grn (Nat.lt_of_lt_of_le hbs hb.size) ((hb.cell (p := ⟨bb, 1, none⟩) hbs).trans c1)
  have y2 : ∀ m os, (grow (W.drewN m) os).cell? ⟨bb, 2 + (q * 2 + r) * 3 + 1, none⟩ = some (.int .i64 n) := cell_grn (Nat.lt_of_lt_of_le hbs hb.size) ((hb.cell (p := ⟨bb, 2 + (q * 2 + r) * 3 + 1, none⟩) hbs).trans cn)
  have y3 : ∀ m os, (grow (W.drewN m) os).cell? ⟨bb, 2 + (q * 2 + r) * 3 + 2, none⟩ = some (.int .i64 g) := cell_grn (Nat.lt_of_lt_of_le hbs hb.size) ((hb.cell (p := ⟨bb, 2 + (q * 2 + r) * 3 + 2, none⟩) hbs).trans cg)
  have hcell := Lib.hid (fun m os => jcell_any bb q r hq hr (grow (W.drewN m) os))
  have hg := Lib.hid (fun m os => hget (grow (W.drewN m) os) (hb.trans ((fr_grow W m os []).below (fun _ hx => by simp at hx) hb.size)))
  have hpl := Lib.hid (jplace_any q' r' hq' hr')
  have HG := Lib.hid hG
  have HW := Lib.hid hW
  have mixed : Tryz.prog.follows .mixedOrders = true := by kernel_rfl
  clear hG hW hb c1 cn cg hget
  unfold pt plc getV at *
  cases ok with
  | false =>
    simp only [Bool.false_eq_true, if_false] at hg
    go_enter Tryz.func164, Tryz.ntmps164
    go_wp2_with fail
    rw [HW.out]
    go_quiet_grown ((first
      | (go_at_call 163; refine Calls.grown_of (hcell.out _ _))
      | (go_at_call 198; refine Calls.grown_of (hg.out _ _))))
    go_wp2_with fail
    obtain ⟨V, hV⟩ : ∃ V, grow (W.drewN nq) osq = V := ⟨_, rfl⟩
    have hGV : Hid (Grn W V) := by rw [← hV]; exact Lib.hid ⟨_, _, rfl⟩
    rw [hV]
    clear hV x0 x1 y1 y2 y3
    refine wp_region_quiet_grown mixed (by kernel_rfl) ?_
    repeat (go_big_quiet_step (fail))
    refine wpQuiet_nil ?_
    intro _ hw'
    obtain ⟨⟨nq, osq⟩, hw''⟩ := hw'
    subst hw''
    go_wp2_with fail
    go_ret
    exact ⟨by simp, (HG.out.trans hGV.out).trans ⟨_, _, rfl⟩⟩
  | true =>
    simp only [if_true] at hg
    go_enter Tryz.func164, Tryz.ntmps164
    go_wp2_with fail
    rw [HW.out]
    go_quiet_grown ((first
      | (go_at_call 163; refine Calls.grown_of (hcell.out _ _))
      | (go_at_call 198; refine Calls.grown_of (hg.out _ _))))
    go_wp2_with fail
    obtain ⟨V, hV⟩ : ∃ V, grow (W.drewN nq) osq = V := ⟨_, rfl⟩
    have hGV : Hid (Grn W V) := by rw [← hV]; exact Lib.hid ⟨_, _, rfl⟩
    have z0 : ∀ m os, (grow (V.drewN m) os).cell? ⟨w.heap.size, 0, none⟩ = some (.int .i64 q) := cell_grn (by rw [← hV]; simp [grow]; have := World.block_lt_of_cell? _ _ (x0 0 #[]); simp [grow] at this; omega) (by rw [← hV]; exact x0 nq osq)
    have z1 : ∀ m os, (grow (V.drewN m) os).cell? ⟨w.heap.size, 1, none⟩ = some (.int .i64 r) := cell_grn (by rw [← hV]; simp [grow]; have := World.block_lt_of_cell? _ _ (x0 0 #[]); simp [grow] at this; omega) (by rw [← hV]; exact x1 nq osq)
    rw [hV]
    clear hV x0 x1 y1 y2 y3
    have pe := fun w => place_equal q' r' q r w
    have pg := fun x y w => place_guard .eql x y q' r' q r w
    refine wp_region_quiet_grown mixed (by kernel_rfl) ?_
    repeat (go_big_quiet_step ((go_at_call 124; refine Calls.grown_of (hpl.out _))))
    refine wpQuiet_nil ?_
    intro _ hw'
    obtain ⟨⟨nq, osq⟩, hw''⟩ := hw'
    subst hw''
    go_wp2_with fail
    go_ret
    exact ⟨by simp [beq_nat], (HG.out.trans hGV.out).trans ⟨_, _, rfl⟩⟩

variable {w0 w : World} {G : Nat → Prop} {a bb cl ta : Nat} {now : Int} {f : Nat → Int} {S : List El} {gs : List Nat} {tn tg : Nat → Int} {P : Nat}
theorem jrun_yes (B : JB w0 G w a bb cl ta now f (DI now f S gs tn tg) S gs tn tg P) {q r : Nat} (hq : q < 128) (hr : r < 2) {e : El} (he : e ∈ S) (hv : e.v = ((q * 2 + r : Nat) : Int)) :
    Calls Tryz.prog 164 #[pt bb, plc q r] w fun e w' => e = .returned (.bool true) ∧ Grn w w' := by
  obtain ⟨p, hp, _, a1, _, _, _, a5, a6⟩ := B.di.el e he
  obtain rfl : p = q * 2 + r := by omega
  have := jrun_walk (w := w) (bb := bb) (ta := ta) (k := e.k) true hq hr hq hr B.hb.c1 (B.hb.cn _ hp) (B.hb.cg _ hp) (fun W hb => by
    rw [a5, a6]
    refine (tget_yes (B.T.grown hb) e he).mono ?_
    rintro r' w' ⟨rfl, h⟩
    exact ⟨by simp [getV, hv], h⟩)
  simpa using this
theorem jrun_no (B : JB w0 G w a bb cl ta now f (DI now f S gs tn tg) S gs tn tg P) {q r : Nat} (hq : q < 128) (hr : r < 2) (hv : ∀ e ∈ S, e.v ≠ ((q * 2 + r : Nat) : Int)) :
    Calls Tryz.prog 164 #[pt bb, plc q r] w fun e w' => e = .returned (.bool false) ∧ Grn w w' := by
  have hp : q * 2 + r < 256 := by omega
  by_cases ht : isT S gs (tn (q * 2 + r)) (tg (q * 2 + r))
  · obtain ⟨e, he, h1, h2⟩ := isT_el ht
    obtain ⟨p, hp', _, a1, _⟩ := B.di.el e he
    have hne : p ≠ q * 2 + r := fun h => hv e he (by rw [a1, h])
    have hpe : p = p / 2 * 2 + p % 2 := by omega
    have := jrun_walk (w := w) (bb := bb) (ta := ta) (k := e.k) (q' := p / 2) (r' := p % 2) true hq hr (by omega) (by omega) B.hb.c1 (B.hb.cn _ hp) (B.hb.cg _ hp) (fun W hb => by
      rw [h1, h2]
      refine (tget_yes (B.T.grown hb) e he).mono ?_
      rintro r' w' ⟨rfl, h⟩
      refine ⟨?_, h⟩
      unfold getV
      rw [← hpe, a1]
      rfl)
    have hd : decide (p / 2 = q ∧ p % 2 = r) = false := by simp only [decide_eq_false_iff_not]; omega
    rw [hd] at this
    simpa using this
  · have := jrun_walk (w := w) (bb := bb) (ta := ta) (k := 0) (q' := 0) (r' := 0) false hq hr (by omega) (by omega) B.hb.c1 (B.hb.cn _ hp) (B.hb.cg _ hp) (fun W hb => by
      refine (tget_no (B.T.grown hb) _ _ ht).mono ?_
      rintro r' w' ⟨rfl, h⟩
      exact ⟨by simp [getV], h⟩)
    simpa using this
end Go.Proofs.YtcjeckjmoponkaaGreatDoor.Dl
/- The body's set: the deadline of a place is another one. -/
namespace Go.Proofs.YtcjeckjmoponkaaGreatDoor.Dl
open Go.RowKit Go.Sort
set_option linter.unusedVariables false
set_option linter.unusedSimpArgs false

theorem DIX.upd {p : Nat} {now : Int} {f : Nat → Int} {S : List El} {gs : List Nat} {tn tg : Nat → Int} (D : DIX (fun x => x = p) now f S gs tn tg) {d : Int} (hd : d ≤ Go.Proofs.YtcjeckjmoponkaaGreatDoor.Dl.never) : DIX (fun x => x = p) now (upd f p d) S gs tn tg :=
  ⟨fun e he => by
    obtain ⟨q, hq, hx, a1, a2, a⟩ := D.el e he
    exact ⟨q, hq, hx, a1, by simp only [Go.Proofs.YtcjeckjmoponkaaGreatDoor.Dl.upd, if_neg hx]; exact a2, a⟩, fun q hq hx h1 h2 => by
    simp only [Go.Proofs.YtcjeckjmoponkaaGreatDoor.Dl.upd, if_neg hx] at h1 h2
    exact D.all q hq hx h1 h2, fun q hq => by
    by_cases hx : q = p
    · subst hx; simp only [Go.Proofs.YtcjeckjmoponkaaGreatDoor.Dl.upd, if_true]; exact hd
    · simp only [Go.Proofs.YtcjeckjmoponkaaGreatDoor.Dl.upd, if_neg hx]; exact D.le q hq⟩

theorem upd_same (f : Nat → Int) (p : Nat) (d : Int) : upd f p d p = d := by simp [upd]
variable {w0 w : World} {G : Nat → Prop} {a bb cl ta : Nat} {now : Int} {f : Nat → Int} {S : List El} {gs : List Nat} {tn tg : Nat → Int} {P : Nat}

/-- What a region of set reads. -/
def SetS (x bb ta q r : Nat) (W' : World) : Prop := W'.cell? ⟨bb, 1, none⟩ = some (pt ta) ∧ W'.cell? ⟨x, 0, none⟩ = some (.int .i64 q) ∧ W'.cell? ⟨x, 1, none⟩ = some (.int .i64 r)

/-- What set leaves. -/
def SetR (w0 : World) (G : Nat → Prop) (w w' : World) (a bb cl ta : Nat) (now : Int) (f : Nat → Int) (P : Nat) : Prop := ∃ S gs tn tg, JB w0 G w' a bb cl ta now f (DI now f S gs tn tg) S gs tn tg P ∧ Keep G w w'

set_option maxRecDepth 100000 in
set_option maxHeartbeats 3200000 in
theorem jset_yes (B : JB w0 G w a bb cl ta now f (DI now f S gs tn tg) S gs tn tg P) {q r : Nat} (hq : q < 128) (hr : r < 2) {e : El} (he : e ∈ S) (hv : e.v = ((q * 2 + r : Nat) : Int)) (d : Int) (hd : d ≤ never) (hT : Tab w0) (hP : P < 9223372036854775807) :
    Calls Tryz.prog 114 #[pt bb, plc q r, .int .u64 d] w fun e w' => e = .returned (.tuple #[]) ∧ SetR w0 G w w' a bb cl ta now (upd f (q * 2 + r) d) (P + 1) := by
  obtain ⟨W, hW⟩ : ∃ W, w.alloc (.cells #[.int .i64 q, .int .i64 r] 211) = W := ⟨_, rfl⟩
  have hG : Grn w W := by rw [← hW]; exact (Grn.refl w).alloc _
  have hb := hG.below
  have hxG : ¬ G w.heap.size := fun h => by have := B.glt _ h; omega
  have hx0 : w0.heap.size ≤ w.heap.size := B.below.size
  have B1 : JB w0 (GR G w.heap.size) W a bb cl ta now f (DI now f S gs tn tg) S gs tn tg P := B.more hb (fun k hk => by
    rcases hk with h | h
    · exact .inl h
    · subst h; exact .inr ⟨Nat.le_refl _, by rw [← hW]; simp⟩)
  have K1 := Lib.hid (B.keep hb)
  have R1 : Hid (W.heap[w.heap.size]? = some (.cells #[.int .i64 q, .int .i64 r] 211 (0, 0))) := by rw [← hW]; exact Lib.hid (block_new _ _ _ rfl)
  have x0 := cells_cell (o := 0) R1.out rfl
  have x1 := cells_cell (o := 1) R1.out rfl
  have hcell := Lib.hid (jcell_any bb q r hq hr W)
  have hp : q * 2 + r < 256 := by omega
  have HB1 := Lib.hid B1
  have HW := Lib.hid hW
  have hn1 := Lib.hid (Int.ne_of_lt B.nn)
  have HQ := Lib.hid (And.intro hq (And.intro hr (And.intro hp (And.intro hx0 hxG))))
  have HV := Lib.hid (And.intro he hv)
  clear B B1 hG hW hb hx0 hxG hq hr hp hv he
  unfold pt plc at *
  go_enter Tryz.func114, Tryz.ntmps114
  go_wp2_with fail
  rw [HW.out]
  go_wp2_with (go_at_call 163; fail)
  refine hcell.out.mono ?_
  rintro e1 w2 ⟨rfl, hg2⟩
  have hb2 := hg2.below
  have HB2 := Lib.hid (HB1.out.grown hb2)
  have K2 := Lib.hid (K1.out.trans (fun k hk => hb2.block k (HB1.out.glt k (.inl hk))))
  have R2 := Lib.hid ((hb2.block _ (lt_of_block R1.out)).trans R1.out)
  have y0 := cells_cell (o := 0) R2.out rfl
  have y1 := cells_cell (o := 1) R2.out rfl
  have hrun := Lib.hid (jrun_yes HB2.out HQ.out.1 HQ.out.2.1 HV.out.1 HV.out.2)
  clear hg2 hb2 x0 x1 R1 K1 hcell HB1
  unfold pt plc at *
  go_wp2_with (go_at_call 164; fail)
  refine hrun.out.mono ?_
  rintro e2 w3 ⟨rfl, hg3⟩
  have hb3 := hg3.below
  have HB3 := Lib.hid (HB2.out.grown hb3)
  have K3 := Lib.hid (K2.out.trans (fun k hk => hb3.block k (HB2.out.glt k (.inl hk))))
  have R3 := Lib.hid ((hb3.block _ (lt_of_block R2.out)).trans R2.out)
  clear hg3 hb3 y0 y1 R2 K2 hrun HB2
  obtain ⟨p', hp', _, a1, _, _, _, a5, a6⟩ := HB3.out.di.el e HV.out.1
  obtain rfl : p' = q * 2 + r := by have := HV.out.2; omega
  have c1 := HB3.out.hb.c1
  have cn := HB3.out.hb.cn _ hp'
  have cg := HB3.out.hb.cg _ hp'
  have hlt := HB3.out.hb.lt
  have hstop := tstop_yes (HB3.out.T.drew 1) e HV.out.1 (Int.le_of_lt (by omega : (P : Int) < 9223372036854775807) |> fun _ => by omega)
  have hD := Lib.hid (HB3.out.di.stop HB3.out.T.nodup HB3.out.T.p.lt HV.out.1 HV.out.2)
  rw [← a5, ← a6] at hstop
  have Hstop := Lib.hid hstop
  clear hstop a1 a5 a6
  unfold pt at *
  go_wp2_with fail
  go_still_tail 8, (by kernel_rfl)
  change wpList _ _ _ _ _ (w3.drewN 1)
  go_wp2_with (go_at_call 165; fail)
  refine Hstop.out.mono ?_
  rintro e3 w4 ⟨rfl, T4, K4⟩
  have hdr : Below w3.heap.size w3 (w3.drewN 1) := (fr_drewN w3 1 []).below (fun _ hx => by simp at hx) (Nat.le_refl _)
  have h4 := (HB3.out.grown hdr).timers T4 K4 hD.out
  have HB4 := Lib.hid h4.1
  have K5 := Lib.hid (K3.out.trans (fun k hk => (h4.2 k (.inl hk)).trans (HB3.out.keep hdr k (.inl hk))))
  have R4 := Lib.hid (((h4.2 _ (.inr rfl)).trans (HB3.out.keep hdr _ (.inr rfl))).trans R3.out)
  clear T4 K4 h4 hdr c1 cn cg hlt hD Hstop R3 K3 HB3
  generalize removeS S e.h = S4 at *
  generalize bump gs e.h = gs4 at *
  obtain ⟨SS, hSS⟩ : ∃ SS : World → Prop, SS = fun W' => W'.cell? ⟨bb, 1, none⟩ = some (pt ta) ∧ W'.cell? ⟨w.heap.size, 0, none⟩ = some (.int .i64 q) ∧ W'.cell? ⟨w.heap.size, 1, none⟩ = some (.int .i64 r) := ⟨_, rfl⟩
  by_cases hcs : d ≤ now
  · have HC := Lib.hid hcs
    clear hcs
    have hp := HQ.out.2.2.1
    have f0 := HB4.out.hb.fr (2 + (q * 2 + r) * 3)
    have cf := HB4.out.hb.cf _ hp
    have hlt := HB4.out.hb.lt
    have h5 := HB4.out.body (fr_setCell w4 ⟨bb, 2 + (q * 2 + r) * 3, none⟩ (.int .u64 d)) (HB4.out.hb.setAt _ hp d) (HB4.out.di.upd hd)
    have HB5 := Lib.hid h5.1
    have K6 := Lib.hid (K5.out.trans (fun k hk => h5.2 k (.inl hk)))
    have R5 := Lib.hid ((h5.2 _ (.inr rfl)).trans R4.out)
    have HD5 := Lib.hid HB4.out.di
    clear h5 K5 R4 HB4 hp
    have x0 := cells_cell (o := 0) R5.out rfl
    have x1 := cells_cell (o := 1) R5.out rfl
    have hps := jpassed_any HQ.out.1 HQ.out.2.1 HB5.out.hb.c0 (HB5.out.hb.cf _ HQ.out.2.2.1) HB5.out.hc hn1.out
    rw [upd_same, decide_eq_true HC.out] at hps
    have Hps := Lib.hid hps
    clear hps
    unfold pt plc at *
    go_wp2_with (go_at_call 117; fail)
    clear f0 cf hlt
    generalize w4.setCell ⟨bb, 2 + (q * 2 + r) * 3, none⟩ (.int .u64 d) = w5 at *
    refine Hps.out.mono ?_
    rintro e4 w6 ⟨rfl, hg6⟩
    have hb6 := hg6.below
    have HB6 := Lib.hid (HB5.out.grown hb6)
    have K7 := Lib.hid (K6.out.trans (fun k hk => hb6.block k (HB5.out.glt k (.inl hk))))
    have R6 := Lib.hid ((hb6.block _ (lt_of_block R5.out)).trans R5.out)
    clear hg6 hb6 x0 x1 HB5 K6 R5 Hps
    go_wp2_with fail
    go_end0
    have h7 := HB6.out.timers HB6.out.T (Keep.refl _ _) (HD5.out.pass HC.out HB6.out.nn)
    exact ⟨rfl, _, _, _, _, (h7.1.mono (Nat.le_succ _)).less (fun k h => .inl h), K7.out⟩
  · have HC := Lib.hid hcs
    clear hcs
    by_cases hlt2 : d < never
    · have HL := Lib.hid hlt2
      clear hlt2
      have hp := HQ.out.2.2.1
      have f0 := HB4.out.hb.fr (2 + (q * 2 + r) * 3)
      have cf := HB4.out.hb.cf _ hp
      have hlt := HB4.out.hb.lt
      have h5 := HB4.out.body (fr_setCell w4 ⟨bb, 2 + (q * 2 + r) * 3, none⟩ (.int .u64 d)) (HB4.out.hb.setAt _ hp d) (HB4.out.di.upd hd)
      have HB5 := Lib.hid h5.1
      have K6 := Lib.hid (K5.out.trans (fun k hk => h5.2 k (.inl hk)))
      have R5 := Lib.hid ((h5.2 _ (.inr rfl)).trans R4.out)
      have HD5 := Lib.hid HB4.out.di
      clear h5 K5 R4 HB4 hp
      have x0 := cells_cell (o := 0) R5.out rfl
      have x1 := cells_cell (o := 1) R5.out rfl
      have hps := jpassed_any HQ.out.1 HQ.out.2.1 HB5.out.hb.c0 (HB5.out.hb.cf _ HQ.out.2.2.1) HB5.out.hc hn1.out
      rw [upd_same, decide_eq_false HC.out] at hps
      have Hps := Lib.hid hps
      clear hps
      unfold pt plc at *
      go_wp2_with (go_at_call 117; fail)
      clear f0 cf hlt
      generalize w4.setCell ⟨bb, 2 + (q * 2 + r) * 3, none⟩ (.int .u64 d) = w5 at *
      refine Hps.out.mono ?_
      rintro e4 w6 ⟨rfl, hg6⟩
      have hb6 := hg6.below
      have HB6 := Lib.hid (HB5.out.grown hb6)
      have K7 := Lib.hid (K6.out.trans (fun k hk => hb6.block k (HB5.out.glt k (.inl hk))))
      have R6 := Lib.hid ((hb6.block _ (lt_of_block R5.out)).trans R5.out)
      clear hg6 hb6 x0 x1 HB5 K6 R5 Hps
      have R6a := R6.out
      have c1 := HB6.out.hb.c1
      have HS : Hid ((SetS w.heap.size bb ta q r) w6.drew) := Lib.hid ⟨by simpa using c1, by simpa using cells_cell (o := 0) R6a rfl, by simpa using cells_cell (o := 1) R6a rfl⟩
      clear c1 R6a
      have mixed : Tryz.prog.follows .mixedOrders = true := by kernel_rfl
      unfold pt at *
      go_wp2_with fail
      refine wp_region_pad (SetS w.heap.size bb ta q r) [(true, 0), (true, 1), (true, 2), (true, 3), (true, 4), (true, 5), (true, 6), (false, 7), (false, 8), (false, 9), (true, 10), (true, 11), (false, 12), (false, 13), (false, 14)] mixed (by kernel_rfl) (fun _ _ _ d _ h => by cases d <;> exact h) ?_
      simp only [List.map_cons, List.map_nil, List.getD_cons_zero, List.getD_cons_succ, List.drop_succ_cons, List.drop_zero]
      refine mix_move (.tmp 6) (.pointer (some ⟨bb, 2 + (q * 2 + r) * 3, none⟩)) rfl HS.out rfl rfl ?_
      simp only [Act.put, List.setIfInBounds_toArray, List.set_cons_zero, List.set_cons_succ]
      refine mix_move (.tmp 0) (.pointer (some ⟨bb, 0, none⟩)) rfl HS.out rfl rfl ?_
      simp only [Act.put, List.setIfInBounds_toArray, List.set_cons_zero, List.set_cons_succ]
      refine mix_take (.pointer (some ⟨bb, 0, none⟩)) HS.out rfl (fun W' hS => by go_simp) ?_
      simp only [Act.put, List.setIfInBounds_toArray, List.set_cons_zero, List.set_cons_succ]
      refine mix_take (.pointer (some ⟨bb, 1, none⟩)) HS.out rfl (fun W' hS => by go_simp) ?_
      simp only [Act.put, List.setIfInBounds_toArray, List.set_cons_zero, List.set_cons_succ]
      refine mix_take (.pointer (some ⟨ta, 0, none⟩)) HS.out rfl (fun W' hS => by obtain ⟨l0, l1, l2⟩ := hS; unfold pt at l0; go_simp) ?_
      simp only [Act.put, List.setIfInBounds_toArray, List.set_cons_zero, List.set_cons_succ]
      refine mix_move (.tmp 2) (.int .u64 d) rfl HS.out rfl rfl ?_
      simp only [Act.put, List.setIfInBounds_toArray, List.set_cons_zero, List.set_cons_succ]
      refine mix_take (.agg #[.int .i64 q, .int .i64 r]) HS.out rfl (fun W' hS => by obtain ⟨l0, l1, l2⟩ := hS; go_simp) ?_
      simp only [Act.put, List.setIfInBounds_toArray, List.set_cons_zero, List.set_cons_succ]
      have hdr : Below w6.heap.size w6 w6.drew := (Below.refl _ _).drew
      have HB7 := Lib.hid (HB6.out.grown hdr)
      have K8 := Lib.hid (K7.out.trans (fun k hk => hdr.block k (HB6.out.glt k (.inl hk))))
      have R7 := Lib.hid ((hdr.block _ (lt_of_block R6.out)).trans R6.out)
      clear hdr HB6 K7 R6
      generalize w6.drew = w7 at *
      refine mix_step rfl (fun K hK => ?_)
      go_simp
      have hnum := Lib.hid (jnum_any q r HQ.out.1 HQ.out.2.1 w7)
      unfold plc at hnum
      go_wp2_with (go_at_call 167; fail)
      refine hnum.out.mono ?_
      rintro e5 w8 ⟨rfl, hg8⟩
      have hb8 := hg8.below
      have HB8 := Lib.hid (HB7.out.grown hb8)
      have K9 := Lib.hid (K8.out.trans (fun k hk => hb8.block k (HB7.out.glt k (.inl hk))))
      have R8 := Lib.hid ((hb8.block _ (lt_of_block R7.out)).trans R7.out)
      have HS8 : Hid ((SetS w.heap.size bb ta q r) w8) := Lib.hid ⟨HB8.out.hb.c1, cells_cell (o := 0) R8.out rfl, cells_cell (o := 1) R8.out rfl⟩
      clear hb8 hg8 HB7 K8 R7 hnum HS
      refine hK _ _ HS8.out ?_
      clear hK K
      refine mix_step rfl (fun K hK => ?_)
      go_simp
      have hset := Lib.hid (tset_any HB8.out.T d ((q * 2 + r : Nat) : Int) (Int.ne_of_lt HL.out) (by have := HB8.out.di.len HB8.out.T.nodup; omega) hT hP)
      unfold pt at hset
      go_wp2_with (go_at_call 166; fail)
      refine hset.out.mono ?_
      rintro e6 w9 ⟨rfl, T9, K9'⟩
      have HD9 := Lib.hid (HD5.out.push HQ.out.2.2.1 (by have := HC.out; omega) HL.out)
      have h9 := HB8.out.timers T9 K9' True.intro
      have HB9 := Lib.hid h9.1
      have K10 := Lib.hid (K9.out.trans (fun k hk => h9.2 k (.inl hk)))
      have R9 := Lib.hid ((h9.2 _ (.inr rfl)).trans R8.out)
      clear T9 K9' h9
      generalize ((lowOf (hsOf S4) : Nat) : Int) = n1 at *
      generalize ((gs4.getD (lowOf (hsOf S4)) 0 : Nat) : Int) = n2 at *
      obtain ⟨n3, hn3'⟩ : ∃ n3 : Int, n3 = 0 := ⟨_, rfl⟩
      rw [← hn3']
      clear hn3'
      have HS9 : Hid ((SetS w.heap.size bb ta q r) w9) := Lib.hid ⟨HB9.out.hb.c1, cells_cell (o := 0) R9.out rfl, cells_cell (o := 1) R9.out rfl⟩
      clear HB8 K9 R8 HS8 hset
      refine hK _ _ HS9.out ?_
      clear hK K
      refine mix_by (.tuple #[.agg #[.int .i64 n1, .int .i64 n2], .int .i64 n3]) rfl (by go_simp) HS9.out ?_
      simp only [Act.put, List.setIfInBounds_toArray, List.set_cons_zero, List.set_cons_succ]
      refine mix_take (.agg #[.int .i64 n1, .int .i64 n2]) HS9.out rfl (fun W' hS => by go_simp) ?_
      simp only [Act.put, List.setIfInBounds_toArray, List.set_cons_zero, List.set_cons_succ]
      refine mix_take (.int .i64 n3) HS9.out rfl (fun W' hS => by go_simp) ?_
      simp only [Act.put, List.setIfInBounds_toArray, List.set_cons_zero, List.set_cons_succ]
      refine mix_by (.pointer (some ⟨bb, 2 + (q * 2 + r) * 3, none⟩)) rfl (by go_simp) HS9.out ?_
      simp only [Act.put, List.setIfInBounds_toArray, List.set_cons_zero, List.set_cons_succ]
      refine mix_by (.pointer (some ⟨bb, 2 + (q * 2 + r) * 3 + 1, none⟩)) rfl (by go_simp) HS9.out ?_
      simp only [Act.put, List.setIfInBounds_toArray, List.set_cons_zero, List.set_cons_succ]
      have hp := HQ.out.2.2.1
      have cn := HB9.out.hb.cn _ hp
      have cg := HB9.out.hb.cg _ hp
      have f1 := HB9.out.hb.fr (2 + (q * 2 + r) * 3 + 1)
      have f2 := HB9.out.hb.fr (2 + (q * 2 + r) * 3 + 2)
      have hlt := HB9.out.hb.lt
      have h10 := HB9.out.body ((fr_setCell w9 ⟨bb, 2 + (q * 2 + r) * 3 + 1, none⟩ (.int .i64 n1)).trans' (fr_setCell _ ⟨bb, 2 + (q * 2 + r) * 3 + 2, none⟩ (.int .i64 n2))) (HB9.out.hb.setName _ hp n1 n2) HD9.out
      have H10 := Lib.hid h10
      have R10 := (h10.2 _ (.inr rfl)).trans R9.out
      have HS10 : Hid ((SetS w.heap.size bb ta q r) _) := Lib.hid ⟨h10.1.hb.c1, cells_cell (o := 0) R10 rfl, cells_cell (o := 1) R10 rfl⟩
      clear h10 hp R10
      refine mix_step rfl (fun K hK => ?_)
      go_simp
      refine hK _ _ HS10.out ?_
      clear hK K
      refine mix_nil ?_
      go_wp2_with fail
      go_end0
      exact ⟨rfl, _, _, _, _, (H10.out.1.mono (by omega)).less (fun k h => .inl h), K10.out.trans (fun k hk => H10.out.2 k (.inl hk))⟩
    · have HDN := Lib.hid (show d = never by omega)
      clear hlt2
      have hp := HQ.out.2.2.1
      have f0 := HB4.out.hb.fr (2 + (q * 2 + r) * 3)
      have cf := HB4.out.hb.cf _ hp
      have hlt := HB4.out.hb.lt
      have h5 := HB4.out.body (fr_setCell w4 ⟨bb, 2 + (q * 2 + r) * 3, none⟩ (.int .u64 d)) (HB4.out.hb.setAt _ hp d) (HB4.out.di.upd hd)
      have HB5 := Lib.hid h5.1
      have K6 := Lib.hid (K5.out.trans (fun k hk => h5.2 k (.inl hk)))
      have R5 := Lib.hid ((h5.2 _ (.inr rfl)).trans R4.out)
      have HD5 := Lib.hid HB4.out.di
      clear h5 K5 R4 HB4 hp
      have x0 := cells_cell (o := 0) R5.out rfl
      have x1 := cells_cell (o := 1) R5.out rfl
      have hps := jpassed_any HQ.out.1 HQ.out.2.1 HB5.out.hb.c0 (HB5.out.hb.cf _ HQ.out.2.2.1) HB5.out.hc hn1.out
      rw [upd_same, decide_eq_false HC.out] at hps
      have Hps := Lib.hid hps
      clear hps
      unfold pt plc at *
      go_wp2_with (go_at_call 117; fail)
      clear f0 cf hlt
      generalize w4.setCell ⟨bb, 2 + (q * 2 + r) * 3, none⟩ (.int .u64 d) = w5 at *
      refine Hps.out.mono ?_
      rintro e4 w6 ⟨rfl, hg6⟩
      have hb6 := hg6.below
      have HB6 := Lib.hid (HB5.out.grown hb6)
      have K7 := Lib.hid (K6.out.trans (fun k hk => hb6.block k (HB5.out.glt k (.inl hk))))
      have R6 := Lib.hid ((hb6.block _ (lt_of_block R5.out)).trans R5.out)
      clear hg6 hb6 x0 x1 HB5 K6 R5 Hps
      have R6a := R6.out
      have c1 := HB6.out.hb.c1
      have HS : Hid ((SetS w.heap.size bb ta q r) w6.drew) := Lib.hid ⟨by simpa using c1, by simpa using cells_cell (o := 0) R6a rfl, by simpa using cells_cell (o := 1) R6a rfl⟩
      clear c1 R6a
      have mixed : Tryz.prog.follows .mixedOrders = true := by kernel_rfl
      unfold pt at *
      go_wp2_with fail
      refine wp_region_pad (SetS w.heap.size bb ta q r) [(true, 0), (true, 1), (true, 2), (true, 3), (true, 4), (true, 5), (true, 6), (false, 7), (false, 8), (false, 9), (true, 10), (true, 11), (false, 12), (false, 13), (false, 14)] mixed (by kernel_rfl) (fun _ _ _ d _ h => by cases d <;> exact h) ?_
      simp only [List.map_cons, List.map_nil, List.getD_cons_zero, List.getD_cons_succ, List.drop_succ_cons, List.drop_zero]
      refine mix_move (.tmp 6) (.pointer (some ⟨bb, 2 + (q * 2 + r) * 3, none⟩)) rfl HS.out rfl rfl ?_
      simp only [Act.put, List.setIfInBounds_toArray, List.set_cons_zero, List.set_cons_succ]
      refine mix_move (.tmp 0) (.pointer (some ⟨bb, 0, none⟩)) rfl HS.out rfl rfl ?_
      simp only [Act.put, List.setIfInBounds_toArray, List.set_cons_zero, List.set_cons_succ]
      refine mix_take (.pointer (some ⟨bb, 0, none⟩)) HS.out rfl (fun W' hS => by go_simp) ?_
      simp only [Act.put, List.setIfInBounds_toArray, List.set_cons_zero, List.set_cons_succ]
      refine mix_take (.pointer (some ⟨bb, 1, none⟩)) HS.out rfl (fun W' hS => by go_simp) ?_
      simp only [Act.put, List.setIfInBounds_toArray, List.set_cons_zero, List.set_cons_succ]
      refine mix_take (.pointer (some ⟨ta, 0, none⟩)) HS.out rfl (fun W' hS => by obtain ⟨l0, l1, l2⟩ := hS; unfold pt at l0; go_simp) ?_
      simp only [Act.put, List.setIfInBounds_toArray, List.set_cons_zero, List.set_cons_succ]
      refine mix_move (.tmp 2) (.int .u64 d) rfl HS.out rfl rfl ?_
      simp only [Act.put, List.setIfInBounds_toArray, List.set_cons_zero, List.set_cons_succ]
      refine mix_take (.agg #[.int .i64 q, .int .i64 r]) HS.out rfl (fun W' hS => by obtain ⟨l0, l1, l2⟩ := hS; go_simp) ?_
      simp only [Act.put, List.setIfInBounds_toArray, List.set_cons_zero, List.set_cons_succ]
      have hdr : Below w6.heap.size w6 w6.drew := (Below.refl _ _).drew
      have HB7 := Lib.hid (HB6.out.grown hdr)
      have K8 := Lib.hid (K7.out.trans (fun k hk => hdr.block k (HB6.out.glt k (.inl hk))))
      have R7 := Lib.hid ((hdr.block _ (lt_of_block R6.out)).trans R6.out)
      clear hdr HB6 K7 R6
      generalize w6.drew = w7 at *
      refine mix_step rfl (fun K hK => ?_)
      go_simp
      have hnum := Lib.hid (jnum_any q r HQ.out.1 HQ.out.2.1 w7)
      unfold plc at hnum
      go_wp2_with (go_at_call 167; fail)
      refine hnum.out.mono ?_
      rintro e5 w8 ⟨rfl, hg8⟩
      have hb8 := hg8.below
      have HB8 := Lib.hid (HB7.out.grown hb8)
      have K9 := Lib.hid (K8.out.trans (fun k hk => hb8.block k (HB7.out.glt k (.inl hk))))
      have R8 := Lib.hid ((hb8.block _ (lt_of_block R7.out)).trans R7.out)
      have HS8 : Hid ((SetS w.heap.size bb ta q r) w8) := Lib.hid ⟨HB8.out.hb.c1, cells_cell (o := 0) R8.out rfl, cells_cell (o := 1) R8.out rfl⟩
      clear hb8 hg8 HB7 K8 R7 hnum HS
      refine hK _ _ HS8.out ?_
      clear hK K
      refine mix_step rfl (fun K hK => ?_)
      go_simp
      have hset := tset_never HB8.out.T ((q * 2 + r : Nat) : Int)
      rw [← HDN.out] at hset
      have hset := Lib.hid hset
      unfold pt at hset
      go_wp2_with (go_at_call 166; fail)
      refine hset.out.mono ?_
      rintro e6 w9 ⟨rfl, hg9⟩
      have hb9 := hg9.below
      have h9 := (HB8.out.grown hb9).timers (HB8.out.T.grown hb9) (Keep.refl _ _) HB8.out.di
      have HB9 := Lib.hid h9.1
      have K10 := Lib.hid (K9.out.trans (fun k hk => hb9.block k (HB8.out.glt k (.inl hk))))
      have R9 := Lib.hid ((hb9.block _ (lt_of_block R8.out)).trans R8.out)
      have HD9 := HD5.out.never 0 0
      rw [← HDN.out] at HD9
      have HD9 := Lib.hid HD9
      obtain ⟨n1, hn1'⟩ : ∃ n1 : Int, n1 = 0 := ⟨_, rfl⟩
      obtain ⟨n2, hn2'⟩ : ∃ n2 : Int, n2 = 0 := ⟨_, rfl⟩
      obtain ⟨n3, hn3'⟩ : ∃ n3 : Int, n3 = 2 := ⟨_, rfl⟩
      rw [← hn3']
      have e0 : (Value.agg #[.int .i64 0, .int .i64 0]) = .agg #[.int .i64 n1, .int .i64 n2] := by rw [hn1', hn2']
      rw [e0]
      rw [← hn1'] at HD9
      have HD9 : Hid (DI now (upd f (q * 2 + r) d) S4 gs4 (upd tn (q * 2 + r) n1) (upd tg (q * 2 + r) n2)) := Lib.hid (by have := HD9.out; rw [hn2', ← hn1']; exact this)
      clear hb9 hg9 h9 e0 hn1' hn2' hn3'
      have HS9 : Hid ((SetS w.heap.size bb ta q r) w9) := Lib.hid ⟨HB9.out.hb.c1, cells_cell (o := 0) R9.out rfl, cells_cell (o := 1) R9.out rfl⟩
      clear HB8 K9 R8 HS8 hset
      refine hK _ _ HS9.out ?_
      clear hK K
      refine mix_by (.tuple #[.agg #[.int .i64 n1, .int .i64 n2], .int .i64 n3]) rfl (by go_simp) HS9.out ?_
      simp only [Act.put, List.setIfInBounds_toArray, List.set_cons_zero, List.set_cons_succ]
      refine mix_take (.agg #[.int .i64 n1, .int .i64 n2]) HS9.out rfl (fun W' hS => by go_simp) ?_
      simp only [Act.put, List.setIfInBounds_toArray, List.set_cons_zero, List.set_cons_succ]
      refine mix_take (.int .i64 n3) HS9.out rfl (fun W' hS => by go_simp) ?_
      simp only [Act.put, List.setIfInBounds_toArray, List.set_cons_zero, List.set_cons_succ]
      refine mix_by (.pointer (some ⟨bb, 2 + (q * 2 + r) * 3, none⟩)) rfl (by go_simp) HS9.out ?_
      simp only [Act.put, List.setIfInBounds_toArray, List.set_cons_zero, List.set_cons_succ]
      refine mix_by (.pointer (some ⟨bb, 2 + (q * 2 + r) * 3 + 1, none⟩)) rfl (by go_simp) HS9.out ?_
      simp only [Act.put, List.setIfInBounds_toArray, List.set_cons_zero, List.set_cons_succ]
      have hp := HQ.out.2.2.1
      have cn := HB9.out.hb.cn _ hp
      have cg := HB9.out.hb.cg _ hp
      have f1 := HB9.out.hb.fr (2 + (q * 2 + r) * 3 + 1)
      have f2 := HB9.out.hb.fr (2 + (q * 2 + r) * 3 + 2)
      have hlt := HB9.out.hb.lt
      have h10 := HB9.out.body ((fr_setCell w9 ⟨bb, 2 + (q * 2 + r) * 3 + 1, none⟩ (.int .i64 n1)).trans' (fr_setCell _ ⟨bb, 2 + (q * 2 + r) * 3 + 2, none⟩ (.int .i64 n2))) (HB9.out.hb.setName _ hp n1 n2) HD9.out
      have H10 := Lib.hid h10
      have R10 := (h10.2 _ (.inr rfl)).trans R9.out
      have HS10 : Hid ((SetS w.heap.size bb ta q r) _) := Lib.hid ⟨h10.1.hb.c1, cells_cell (o := 0) R10 rfl, cells_cell (o := 1) R10 rfl⟩
      clear h10 hp R10
      refine mix_step rfl (fun K hK => ?_)
      go_simp
      refine hK _ _ HS10.out ?_
      clear hK K
      refine mix_nil ?_
      go_wp2_with fail
      go_end0
      exact ⟨rfl, _, _, _, _, (H10.out.1.mono (by omega)).less (fun k h => .inl h), K10.out.trans (fun k hk => H10.out.2 k (.inl hk))⟩
set_option maxRecDepth 100000 in
set_option maxHeartbeats 3200000 in
theorem jset_no (B : JB w0 G w a bb cl ta now f (DI now f S gs tn tg) S gs tn tg P) {q r : Nat} (hq : q < 128) (hr : r < 2) (hv : ∀ e ∈ S, e.v ≠ ((q * 2 + r : Nat) : Int)) (d : Int) (hd : d ≤ never) (hT : Tab w0) (hP : P < 9223372036854775807) :
    Calls Tryz.prog 114 #[pt bb, plc q r, .int .u64 d] w fun e w' => e = .returned (.tuple #[]) ∧ SetR w0 G w w' a bb cl ta now (upd f (q * 2 + r) d) (P + 1) := by
  obtain ⟨W, hW⟩ : ∃ W, w.alloc (.cells #[.int .i64 q, .int .i64 r] 211) = W := ⟨_, rfl⟩
  have hG : Grn w W := by rw [← hW]; exact (Grn.refl w).alloc _
  have hb := hG.below
  have hxG : ¬ G w.heap.size := fun h => by have := B.glt _ h; omega
  have hx0 : w0.heap.size ≤ w.heap.size := B.below.size
  have B1 : JB w0 (GR G w.heap.size) W a bb cl ta now f (DI now f S gs tn tg) S gs tn tg P := B.more hb (fun k hk => by
    rcases hk with h | h
    · exact .inl h
    · subst h; exact .inr ⟨Nat.le_refl _, by rw [← hW]; simp⟩)
  have K1 := Lib.hid (B.keep hb)
  have R1 : Hid (W.heap[w.heap.size]? = some (.cells #[.int .i64 q, .int .i64 r] 211 (0, 0))) := by rw [← hW]; exact Lib.hid (block_new _ _ _ rfl)
  have x0 := cells_cell (o := 0) R1.out rfl
  have x1 := cells_cell (o := 1) R1.out rfl
  have hcell := Lib.hid (jcell_any bb q r hq hr W)
  have hp : q * 2 + r < 256 := by omega
  have HB1 := Lib.hid B1
  have HW := Lib.hid hW
  have hn1 := Lib.hid (Int.ne_of_lt B.nn)
  have HQ := Lib.hid (And.intro hq (And.intro hr (And.intro hp (And.intro hx0 hxG))))
  have HV := Lib.hid hv
  clear B B1 hG hW hb hx0 hxG hq hr hp hv
  unfold pt plc at *
  go_enter Tryz.func114, Tryz.ntmps114
  go_wp2_with fail
  rw [HW.out]
  go_wp2_with (go_at_call 163; fail)
  refine hcell.out.mono ?_
  rintro e1 w2 ⟨rfl, hg2⟩
  have hb2 := hg2.below
  have HB2 := Lib.hid (HB1.out.grown hb2)
  have K2 := Lib.hid (K1.out.trans (fun k hk => hb2.block k (HB1.out.glt k (.inl hk))))
  have R2 := Lib.hid ((hb2.block _ (lt_of_block R1.out)).trans R1.out)
  have y0 := cells_cell (o := 0) R2.out rfl
  have y1 := cells_cell (o := 1) R2.out rfl
  have hrun := Lib.hid (jrun_no HB2.out HQ.out.1 HQ.out.2.1 HV.out)
  clear hg2 hb2 x0 x1 R1 K1 hcell HB1
  unfold pt plc at *
  go_wp2_with (go_at_call 164; fail)
  refine hrun.out.mono ?_
  rintro e2 w3 ⟨rfl, hg3⟩
  have hb3 := hg3.below
  have HB3 := Lib.hid (HB2.out.grown hb3)
  have K3 := Lib.hid (K2.out.trans (fun k hk => hb3.block k (HB2.out.glt k (.inl hk))))
  have R3 := Lib.hid ((hb3.block _ (lt_of_block R2.out)).trans R2.out)
  clear hg3 hb3 y0 y1 R2 K2 hrun HB2
  have hD := HB3.out.di.none HV.out
  have h4 := HB3.out.timers HB3.out.T (Keep.refl _ _) hD
  have HB4 := Lib.hid h4.1
  have K5 := K3
  have R4 := R3
  clear h4 hD R3 K3 HB3
  obtain ⟨S4, hS4⟩ : ∃ S4, S = S4 := ⟨_, rfl⟩
  obtain ⟨gs4, hgs4⟩ : ∃ gs4, gs = gs4 := ⟨_, rfl⟩
  obtain ⟨w4, hw4⟩ : ∃ w4, w3 = w4 := ⟨_, rfl⟩
  subst hS4 hgs4 hw4
  obtain ⟨SS, hSS⟩ : ∃ SS : World → Prop, SS = fun W' => W'.cell? ⟨bb, 1, none⟩ = some (pt ta) ∧ W'.cell? ⟨w.heap.size, 0, none⟩ = some (.int .i64 q) ∧ W'.cell? ⟨w.heap.size, 1, none⟩ = some (.int .i64 r) := ⟨_, rfl⟩
  by_cases hcs : d ≤ now
  · have HC := Lib.hid hcs
    clear hcs
    have hp := HQ.out.2.2.1
    have f0 := HB4.out.hb.fr (2 + (q * 2 + r) * 3)
    have cf := HB4.out.hb.cf _ hp
    have hlt := HB4.out.hb.lt
    have h5 := HB4.out.body (fr_setCell w3 ⟨bb, 2 + (q * 2 + r) * 3, none⟩ (.int .u64 d)) (HB4.out.hb.setAt _ hp d) (HB4.out.di.upd hd)
    have HB5 := Lib.hid h5.1
    have K6 := Lib.hid (K5.out.trans (fun k hk => h5.2 k (.inl hk)))
    have R5 := Lib.hid ((h5.2 _ (.inr rfl)).trans R4.out)
    have HD5 := Lib.hid HB4.out.di
    clear h5 K5 R4 HB4 hp
    have x0 := cells_cell (o := 0) R5.out rfl
    have x1 := cells_cell (o := 1) R5.out rfl
    have hps := jpassed_any HQ.out.1 HQ.out.2.1 HB5.out.hb.c0 (HB5.out.hb.cf _ HQ.out.2.2.1) HB5.out.hc hn1.out
    rw [upd_same, decide_eq_true HC.out] at hps
    have Hps := Lib.hid hps
    clear hps
    unfold pt plc at *
    go_wp2_with (go_at_call 117; fail)
    clear f0 cf hlt
    generalize w3.setCell ⟨bb, 2 + (q * 2 + r) * 3, none⟩ (.int .u64 d) = w5 at *
    refine Hps.out.mono ?_
    rintro e4 w6 ⟨rfl, hg6⟩
    have hb6 := hg6.below
    have HB6 := Lib.hid (HB5.out.grown hb6)
    have K7 := Lib.hid (K6.out.trans (fun k hk => hb6.block k (HB5.out.glt k (.inl hk))))
    have R6 := Lib.hid ((hb6.block _ (lt_of_block R5.out)).trans R5.out)
    clear hg6 hb6 x0 x1 HB5 K6 R5 Hps
    go_wp2_with fail
    go_end0
    have h7 := HB6.out.timers HB6.out.T (Keep.refl _ _) (HD5.out.pass HC.out HB6.out.nn)
    exact ⟨rfl, _, _, _, _, (h7.1.mono (Nat.le_succ _)).less (fun k h => .inl h), K7.out⟩
  · have HC := Lib.hid hcs
    clear hcs
    by_cases hlt2 : d < never
    · have HL := Lib.hid hlt2
      clear hlt2
      have hp := HQ.out.2.2.1
      have f0 := HB4.out.hb.fr (2 + (q * 2 + r) * 3)
      have cf := HB4.out.hb.cf _ hp
      have hlt := HB4.out.hb.lt
      have h5 := HB4.out.body (fr_setCell w3 ⟨bb, 2 + (q * 2 + r) * 3, none⟩ (.int .u64 d)) (HB4.out.hb.setAt _ hp d) (HB4.out.di.upd hd)
      have HB5 := Lib.hid h5.1
      have K6 := Lib.hid (K5.out.trans (fun k hk => h5.2 k (.inl hk)))
      have R5 := Lib.hid ((h5.2 _ (.inr rfl)).trans R4.out)
      have HD5 := Lib.hid HB4.out.di
      clear h5 K5 R4 HB4 hp
      have x0 := cells_cell (o := 0) R5.out rfl
      have x1 := cells_cell (o := 1) R5.out rfl
      have hps := jpassed_any HQ.out.1 HQ.out.2.1 HB5.out.hb.c0 (HB5.out.hb.cf _ HQ.out.2.2.1) HB5.out.hc hn1.out
      rw [upd_same, decide_eq_false HC.out] at hps
      have Hps := Lib.hid hps
      clear hps
      unfold pt plc at *
      go_wp2_with (go_at_call 117; fail)
      clear f0 cf hlt
      generalize w3.setCell ⟨bb, 2 + (q * 2 + r) * 3, none⟩ (.int .u64 d) = w5 at *
      refine Hps.out.mono ?_
      rintro e4 w6 ⟨rfl, hg6⟩
      have hb6 := hg6.below
      have HB6 := Lib.hid (HB5.out.grown hb6)
      have K7 := Lib.hid (K6.out.trans (fun k hk => hb6.block k (HB5.out.glt k (.inl hk))))
      have R6 := Lib.hid ((hb6.block _ (lt_of_block R5.out)).trans R5.out)
      clear hg6 hb6 x0 x1 HB5 K6 R5 Hps
      have R6a := R6.out
      have c1 := HB6.out.hb.c1
      have HS : Hid ((SetS w.heap.size bb ta q r) w6.drew) := Lib.hid ⟨by simpa using c1, by simpa using cells_cell (o := 0) R6a rfl, by simpa using cells_cell (o := 1) R6a rfl⟩
      clear c1 R6a
      have mixed : Tryz.prog.follows .mixedOrders = true := by kernel_rfl
      unfold pt at *
      go_wp2_with fail
      refine wp_region_pad (SetS w.heap.size bb ta q r) [(true, 0), (true, 1), (true, 2), (true, 3), (true, 4), (true, 5), (true, 6), (false, 7), (false, 8), (false, 9), (true, 10), (true, 11), (false, 12), (false, 13), (false, 14)] mixed (by kernel_rfl) (fun _ _ _ d _ h => by cases d <;> exact h) ?_
      simp only [List.map_cons, List.map_nil, List.getD_cons_zero, List.getD_cons_succ, List.drop_succ_cons, List.drop_zero]
      refine mix_move (.tmp 6) (.pointer (some ⟨bb, 2 + (q * 2 + r) * 3, none⟩)) rfl HS.out rfl rfl ?_
      simp only [Act.put, List.setIfInBounds_toArray, List.set_cons_zero, List.set_cons_succ]
      refine mix_move (.tmp 0) (.pointer (some ⟨bb, 0, none⟩)) rfl HS.out rfl rfl ?_
      simp only [Act.put, List.setIfInBounds_toArray, List.set_cons_zero, List.set_cons_succ]
      refine mix_take (.pointer (some ⟨bb, 0, none⟩)) HS.out rfl (fun W' hS => by go_simp) ?_
      simp only [Act.put, List.setIfInBounds_toArray, List.set_cons_zero, List.set_cons_succ]
      refine mix_take (.pointer (some ⟨bb, 1, none⟩)) HS.out rfl (fun W' hS => by go_simp) ?_
      simp only [Act.put, List.setIfInBounds_toArray, List.set_cons_zero, List.set_cons_succ]
      refine mix_take (.pointer (some ⟨ta, 0, none⟩)) HS.out rfl (fun W' hS => by obtain ⟨l0, l1, l2⟩ := hS; unfold pt at l0; go_simp) ?_
      simp only [Act.put, List.setIfInBounds_toArray, List.set_cons_zero, List.set_cons_succ]
      refine mix_move (.tmp 2) (.int .u64 d) rfl HS.out rfl rfl ?_
      simp only [Act.put, List.setIfInBounds_toArray, List.set_cons_zero, List.set_cons_succ]
      refine mix_take (.agg #[.int .i64 q, .int .i64 r]) HS.out rfl (fun W' hS => by obtain ⟨l0, l1, l2⟩ := hS; go_simp) ?_
      simp only [Act.put, List.setIfInBounds_toArray, List.set_cons_zero, List.set_cons_succ]
      have hdr : Below w6.heap.size w6 w6.drew := (Below.refl _ _).drew
      have HB7 := Lib.hid (HB6.out.grown hdr)
      have K8 := Lib.hid (K7.out.trans (fun k hk => hdr.block k (HB6.out.glt k (.inl hk))))
      have R7 := Lib.hid ((hdr.block _ (lt_of_block R6.out)).trans R6.out)
      clear hdr HB6 K7 R6
      generalize w6.drew = w7 at *
      refine mix_step rfl (fun K hK => ?_)
      go_simp
      have hnum := Lib.hid (jnum_any q r HQ.out.1 HQ.out.2.1 w7)
      unfold plc at hnum
      go_wp2_with (go_at_call 167; fail)
      refine hnum.out.mono ?_
      rintro e5 w8 ⟨rfl, hg8⟩
      have hb8 := hg8.below
      have HB8 := Lib.hid (HB7.out.grown hb8)
      have K9 := Lib.hid (K8.out.trans (fun k hk => hb8.block k (HB7.out.glt k (.inl hk))))
      have R8 := Lib.hid ((hb8.block _ (lt_of_block R7.out)).trans R7.out)
      have HS8 : Hid ((SetS w.heap.size bb ta q r) w8) := Lib.hid ⟨HB8.out.hb.c1, cells_cell (o := 0) R8.out rfl, cells_cell (o := 1) R8.out rfl⟩
      clear hb8 hg8 HB7 K8 R7 hnum HS
      refine hK _ _ HS8.out ?_
      clear hK K
      refine mix_step rfl (fun K hK => ?_)
      go_simp
      have hset := Lib.hid (tset_any HB8.out.T d ((q * 2 + r : Nat) : Int) (Int.ne_of_lt HL.out) (by have := HB8.out.di.len HB8.out.T.nodup; omega) hT hP)
      unfold pt at hset
      go_wp2_with (go_at_call 166; fail)
      refine hset.out.mono ?_
      rintro e6 w9 ⟨rfl, T9, K9'⟩
      have HD9 := Lib.hid (HD5.out.push HQ.out.2.2.1 (by have := HC.out; omega) HL.out)
      have h9 := HB8.out.timers T9 K9' True.intro
      have HB9 := Lib.hid h9.1
      have K10 := Lib.hid (K9.out.trans (fun k hk => h9.2 k (.inl hk)))
      have R9 := Lib.hid ((h9.2 _ (.inr rfl)).trans R8.out)
      clear T9 K9' h9
      generalize ((lowOf (hsOf S) : Nat) : Int) = n1 at *
      generalize ((gs.getD (lowOf (hsOf S)) 0 : Nat) : Int) = n2 at *
      obtain ⟨n3, hn3'⟩ : ∃ n3 : Int, n3 = 0 := ⟨_, rfl⟩
      rw [← hn3']
      clear hn3'
      have HS9 : Hid ((SetS w.heap.size bb ta q r) w9) := Lib.hid ⟨HB9.out.hb.c1, cells_cell (o := 0) R9.out rfl, cells_cell (o := 1) R9.out rfl⟩
      clear HB8 K9 R8 HS8 hset
      refine hK _ _ HS9.out ?_
      clear hK K
      refine mix_by (.tuple #[.agg #[.int .i64 n1, .int .i64 n2], .int .i64 n3]) rfl (by go_simp) HS9.out ?_
      simp only [Act.put, List.setIfInBounds_toArray, List.set_cons_zero, List.set_cons_succ]
      refine mix_take (.agg #[.int .i64 n1, .int .i64 n2]) HS9.out rfl (fun W' hS => by go_simp) ?_
      simp only [Act.put, List.setIfInBounds_toArray, List.set_cons_zero, List.set_cons_succ]
      refine mix_take (.int .i64 n3) HS9.out rfl (fun W' hS => by go_simp) ?_
      simp only [Act.put, List.setIfInBounds_toArray, List.set_cons_zero, List.set_cons_succ]
      refine mix_by (.pointer (some ⟨bb, 2 + (q * 2 + r) * 3, none⟩)) rfl (by go_simp) HS9.out ?_
      simp only [Act.put, List.setIfInBounds_toArray, List.set_cons_zero, List.set_cons_succ]
      refine mix_by (.pointer (some ⟨bb, 2 + (q * 2 + r) * 3 + 1, none⟩)) rfl (by go_simp) HS9.out ?_
      simp only [Act.put, List.setIfInBounds_toArray, List.set_cons_zero, List.set_cons_succ]
      have hp := HQ.out.2.2.1
      have cn := HB9.out.hb.cn _ hp
      have cg := HB9.out.hb.cg _ hp
      have f1 := HB9.out.hb.fr (2 + (q * 2 + r) * 3 + 1)
      have f2 := HB9.out.hb.fr (2 + (q * 2 + r) * 3 + 2)
      have hlt := HB9.out.hb.lt
      have h10 := HB9.out.body ((fr_setCell w9 ⟨bb, 2 + (q * 2 + r) * 3 + 1, none⟩ (.int .i64 n1)).trans' (fr_setCell _ ⟨bb, 2 + (q * 2 + r) * 3 + 2, none⟩ (.int .i64 n2))) (HB9.out.hb.setName _ hp n1 n2) HD9.out
      have H10 := Lib.hid h10
      have R10 := (h10.2 _ (.inr rfl)).trans R9.out
      have HS10 : Hid ((SetS w.heap.size bb ta q r) _) := Lib.hid ⟨h10.1.hb.c1, cells_cell (o := 0) R10 rfl, cells_cell (o := 1) R10 rfl⟩
      clear h10 hp R10
      refine mix_step rfl (fun K hK => ?_)
      go_simp
      refine hK _ _ HS10.out ?_
      clear hK K
      refine mix_nil ?_
      go_wp2_with fail
      go_end0
      exact ⟨rfl, _, _, _, _, (H10.out.1.mono (by omega)).less (fun k h => .inl h), K10.out.trans (fun k hk => H10.out.2 k (.inl hk))⟩
    · have HDN := Lib.hid (show d = never by omega)
      clear hlt2
      have hp := HQ.out.2.2.1
      have f0 := HB4.out.hb.fr (2 + (q * 2 + r) * 3)
      have cf := HB4.out.hb.cf _ hp
      have hlt := HB4.out.hb.lt
      have h5 := HB4.out.body (fr_setCell w3 ⟨bb, 2 + (q * 2 + r) * 3, none⟩ (.int .u64 d)) (HB4.out.hb.setAt _ hp d) (HB4.out.di.upd hd)
      have HB5 := Lib.hid h5.1
      have K6 := Lib.hid (K5.out.trans (fun k hk => h5.2 k (.inl hk)))
      have R5 := Lib.hid ((h5.2 _ (.inr rfl)).trans R4.out)
      have HD5 := Lib.hid HB4.out.di
      clear h5 K5 R4 HB4 hp
      have x0 := cells_cell (o := 0) R5.out rfl
      have x1 := cells_cell (o := 1) R5.out rfl
      have hps := jpassed_any HQ.out.1 HQ.out.2.1 HB5.out.hb.c0 (HB5.out.hb.cf _ HQ.out.2.2.1) HB5.out.hc hn1.out
      rw [upd_same, decide_eq_false HC.out] at hps
      have Hps := Lib.hid hps
      clear hps
      unfold pt plc at *
      go_wp2_with (go_at_call 117; fail)
      clear f0 cf hlt
      generalize w3.setCell ⟨bb, 2 + (q * 2 + r) * 3, none⟩ (.int .u64 d) = w5 at *
      refine Hps.out.mono ?_
      rintro e4 w6 ⟨rfl, hg6⟩
      have hb6 := hg6.below
      have HB6 := Lib.hid (HB5.out.grown hb6)
      have K7 := Lib.hid (K6.out.trans (fun k hk => hb6.block k (HB5.out.glt k (.inl hk))))
      have R6 := Lib.hid ((hb6.block _ (lt_of_block R5.out)).trans R5.out)
      clear hg6 hb6 x0 x1 HB5 K6 R5 Hps
      have R6a := R6.out
      have c1 := HB6.out.hb.c1
      have HS : Hid ((SetS w.heap.size bb ta q r) w6.drew) := Lib.hid ⟨by simpa using c1, by simpa using cells_cell (o := 0) R6a rfl, by simpa using cells_cell (o := 1) R6a rfl⟩
      clear c1 R6a
      have mixed : Tryz.prog.follows .mixedOrders = true := by kernel_rfl
      unfold pt at *
      go_wp2_with fail
      refine wp_region_pad (SetS w.heap.size bb ta q r) [(true, 0), (true, 1), (true, 2), (true, 3), (true, 4), (true, 5), (true, 6), (false, 7), (false, 8), (false, 9), (true, 10), (true, 11), (false, 12), (false, 13), (false, 14)] mixed (by kernel_rfl) (fun _ _ _ d _ h => by cases d <;> exact h) ?_
      simp only [List.map_cons, List.map_nil, List.getD_cons_zero, List.getD_cons_succ, List.drop_succ_cons, List.drop_zero]
      refine mix_move (.tmp 6) (.pointer (some ⟨bb, 2 + (q * 2 + r) * 3, none⟩)) rfl HS.out rfl rfl ?_
      simp only [Act.put, List.setIfInBounds_toArray, List.set_cons_zero, List.set_cons_succ]
      refine mix_move (.tmp 0) (.pointer (some ⟨bb, 0, none⟩)) rfl HS.out rfl rfl ?_
      simp only [Act.put, List.setIfInBounds_toArray, List.set_cons_zero, List.set_cons_succ]
      refine mix_take (.pointer (some ⟨bb, 0, none⟩)) HS.out rfl (fun W' hS => by go_simp) ?_
      simp only [Act.put, List.setIfInBounds_toArray, List.set_cons_zero, List.set_cons_succ]
      refine mix_take (.pointer (some ⟨bb, 1, none⟩)) HS.out rfl (fun W' hS => by go_simp) ?_
      simp only [Act.put, List.setIfInBounds_toArray, List.set_cons_zero, List.set_cons_succ]
      refine mix_take (.pointer (some ⟨ta, 0, none⟩)) HS.out rfl (fun W' hS => by obtain ⟨l0, l1, l2⟩ := hS; unfold pt at l0; go_simp) ?_
      simp only [Act.put, List.setIfInBounds_toArray, List.set_cons_zero, List.set_cons_succ]
      refine mix_move (.tmp 2) (.int .u64 d) rfl HS.out rfl rfl ?_
      simp only [Act.put, List.setIfInBounds_toArray, List.set_cons_zero, List.set_cons_succ]
      refine mix_take (.agg #[.int .i64 q, .int .i64 r]) HS.out rfl (fun W' hS => by obtain ⟨l0, l1, l2⟩ := hS; go_simp) ?_
      simp only [Act.put, List.setIfInBounds_toArray, List.set_cons_zero, List.set_cons_succ]
      have hdr : Below w6.heap.size w6 w6.drew := (Below.refl _ _).drew
      have HB7 := Lib.hid (HB6.out.grown hdr)
      have K8 := Lib.hid (K7.out.trans (fun k hk => hdr.block k (HB6.out.glt k (.inl hk))))
      have R7 := Lib.hid ((hdr.block _ (lt_of_block R6.out)).trans R6.out)
      clear hdr HB6 K7 R6
      generalize w6.drew = w7 at *
      refine mix_step rfl (fun K hK => ?_)
      go_simp
      have hnum := Lib.hid (jnum_any q r HQ.out.1 HQ.out.2.1 w7)
      unfold plc at hnum
      go_wp2_with (go_at_call 167; fail)
      refine hnum.out.mono ?_
      rintro e5 w8 ⟨rfl, hg8⟩
      have hb8 := hg8.below
      have HB8 := Lib.hid (HB7.out.grown hb8)
      have K9 := Lib.hid (K8.out.trans (fun k hk => hb8.block k (HB7.out.glt k (.inl hk))))
      have R8 := Lib.hid ((hb8.block _ (lt_of_block R7.out)).trans R7.out)
      have HS8 : Hid ((SetS w.heap.size bb ta q r) w8) := Lib.hid ⟨HB8.out.hb.c1, cells_cell (o := 0) R8.out rfl, cells_cell (o := 1) R8.out rfl⟩
      clear hb8 hg8 HB7 K8 R7 hnum HS
      refine hK _ _ HS8.out ?_
      clear hK K
      refine mix_step rfl (fun K hK => ?_)
      go_simp
      have hset := tset_never HB8.out.T ((q * 2 + r : Nat) : Int)
      rw [← HDN.out] at hset
      have hset := Lib.hid hset
      unfold pt at hset
      go_wp2_with (go_at_call 166; fail)
      refine hset.out.mono ?_
      rintro e6 w9 ⟨rfl, hg9⟩
      have hb9 := hg9.below
      have h9 := (HB8.out.grown hb9).timers (HB8.out.T.grown hb9) (Keep.refl _ _) HB8.out.di
      have HB9 := Lib.hid h9.1
      have K10 := Lib.hid (K9.out.trans (fun k hk => hb9.block k (HB8.out.glt k (.inl hk))))
      have R9 := Lib.hid ((hb9.block _ (lt_of_block R8.out)).trans R8.out)
      have HD9 := HD5.out.never 0 0
      rw [← HDN.out] at HD9
      have HD9 := Lib.hid HD9
      obtain ⟨n1, hn1'⟩ : ∃ n1 : Int, n1 = 0 := ⟨_, rfl⟩
      obtain ⟨n2, hn2'⟩ : ∃ n2 : Int, n2 = 0 := ⟨_, rfl⟩
      obtain ⟨n3, hn3'⟩ : ∃ n3 : Int, n3 = 2 := ⟨_, rfl⟩
      rw [← hn3']
      have e0 : (Value.agg #[.int .i64 0, .int .i64 0]) = .agg #[.int .i64 n1, .int .i64 n2] := by rw [hn1', hn2']
      rw [e0]
      rw [← hn1'] at HD9
      have HD9 : Hid (DI now (upd f (q * 2 + r) d) S gs (upd tn (q * 2 + r) n1) (upd tg (q * 2 + r) n2)) := Lib.hid (by have := HD9.out; rw [hn2', ← hn1']; exact this)
      clear hb9 hg9 h9 e0 hn1' hn2' hn3'
      have HS9 : Hid ((SetS w.heap.size bb ta q r) w9) := Lib.hid ⟨HB9.out.hb.c1, cells_cell (o := 0) R9.out rfl, cells_cell (o := 1) R9.out rfl⟩
      clear HB8 K9 R8 HS8 hset
      refine hK _ _ HS9.out ?_
      clear hK K
      refine mix_by (.tuple #[.agg #[.int .i64 n1, .int .i64 n2], .int .i64 n3]) rfl (by go_simp) HS9.out ?_
      simp only [Act.put, List.setIfInBounds_toArray, List.set_cons_zero, List.set_cons_succ]
      refine mix_take (.agg #[.int .i64 n1, .int .i64 n2]) HS9.out rfl (fun W' hS => by go_simp) ?_
      simp only [Act.put, List.setIfInBounds_toArray, List.set_cons_zero, List.set_cons_succ]
      refine mix_take (.int .i64 n3) HS9.out rfl (fun W' hS => by go_simp) ?_
      simp only [Act.put, List.setIfInBounds_toArray, List.set_cons_zero, List.set_cons_succ]
      refine mix_by (.pointer (some ⟨bb, 2 + (q * 2 + r) * 3, none⟩)) rfl (by go_simp) HS9.out ?_
      simp only [Act.put, List.setIfInBounds_toArray, List.set_cons_zero, List.set_cons_succ]
      refine mix_by (.pointer (some ⟨bb, 2 + (q * 2 + r) * 3 + 1, none⟩)) rfl (by go_simp) HS9.out ?_
      simp only [Act.put, List.setIfInBounds_toArray, List.set_cons_zero, List.set_cons_succ]
      have hp := HQ.out.2.2.1
      have cn := HB9.out.hb.cn _ hp
      have cg := HB9.out.hb.cg _ hp
      have f1 := HB9.out.hb.fr (2 + (q * 2 + r) * 3 + 1)
      have f2 := HB9.out.hb.fr (2 + (q * 2 + r) * 3 + 2)
      have hlt := HB9.out.hb.lt
      have h10 := HB9.out.body ((fr_setCell w9 ⟨bb, 2 + (q * 2 + r) * 3 + 1, none⟩ (.int .i64 n1)).trans' (fr_setCell _ ⟨bb, 2 + (q * 2 + r) * 3 + 2, none⟩ (.int .i64 n2))) (HB9.out.hb.setName _ hp n1 n2) HD9.out
      have H10 := Lib.hid h10
      have R10 := (h10.2 _ (.inr rfl)).trans R9.out
      have HS10 : Hid ((SetS w.heap.size bb ta q r) _) := Lib.hid ⟨h10.1.hb.c1, cells_cell (o := 0) R10 rfl, cells_cell (o := 1) R10 rfl⟩
      clear h10 hp R10
      refine mix_step rfl (fun K hK => ?_)
      go_simp
      refine hK _ _ HS10.out ?_
      clear hK K
      refine mix_nil ?_
      go_wp2_with fail
      go_end0
      exact ⟨rfl, _, _, _, _, (H10.out.1.mono (by omega)).less (fun k h => .inl h), K10.out.trans (fun k hk => H10.out.2 k (.inl hk))⟩
end Go.Proofs.YtcjeckjmoponkaaGreatDoor.Dl
