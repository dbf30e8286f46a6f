/- Start, Park, Wake, Finish, Turn. -/
import Derived.Test.YtcdimopiaanfbaaDoorFDo
namespace Go.Proofs.YtcdimopiaanfbaaDoor
open Go.RowKit Go.Sort Go.MapKept
set_option linter.unusedVariables false
set_option linter.unusedSimpArgs false

/-- The state that a call asks for, and the one that it leads to. -/
def frOf : Nat → Int
  | 0 => 0
  | 1 => 1
  | 2 => 2
  | _ => 1
def tgOf : Nat → Int
  | 0 => 1
  | 1 => 2
  | 2 => 1
  | 3 => 0
  | _ => 1
theorem frOf_at : ∀ c, c < 5 → mvs[c * 2]? = some (frOf c)
  | 0, _ | 1, _ | 2, _ | 3, _ | 4, _ => rfl
  | c + 5, h => by omega
theorem tgOf_at : ∀ c, c < 5 → mvs[c * 2 + 1]? = some (tgOf c)
  | 0, _ | 1, _ | 2, _ | 3, _ | 4, _ => rfl
  | c + 5, h => by omega
theorem fr_tg : ∀ c, c < 5 → frOf c ≠ 1 → tgOf c = 1
  | 0, _, _ => rfl
  | 1, _, h => absurd rfl h
  | 2, _, _ => rfl
  | 3, _, h => absurd rfl h
  | 4, _, h => absurd rfl h
  | c + 5, h, _ => by omega
section
variable {B : Nat} {w : World} {l : Tl} {P : Ks} {Q : Qu} {g n c : Nat} {p : Ck}
theorem tkDo_yes (h : KAt B w l P Q g) (hR : Rk P Q) (hg : g ≤ 900000000) (hc : c < 5) (hp : P[n]? = some p) (hs : p.s = frOf c) :
    Calls Tryd.prog 72 #[.pointer (some ⟨l.t, 0, none⟩), .int .i64 ((c : Nat) : Int), .int .i64 ((n : Nat) : Int)] w (Did B w l P Q g n (tgOf c)) := by
  have hf := frOf_at c hc
  have ht := tgOf_at c hc
  by_cases h1 : frOf c = 1
  · obtain ⟨s, k⟩ := p
    simp only at hs
    rw [h1] at hs hf
    subst hs
    by_cases h2 : tgOf c = 1
    · rw [h2] at ht ⊢
      exact tkDo_turn h hR hg ht hp hf hc
    · exact tkDo_out h hR hg ht h2 hp hf hc
  · have h2 := fr_tg c hc h1
    rw [h2] at ht ⊢
    exact tkDo_in h hR hg hp hf ht hc hs.symm (by rw [hs]; exact h1)
end
theorem tkStart_nil {w : World} {v : Value} (h : NoK w v) (N : Int) : Calls Tryd.prog 51 #[v, .int .i64 N] w (fun e w' => e = .returned (.int .i64 1) ∧ w' = w) := by
  have hu : Hid (Calls Tryd.prog 72 #[v, .int .i64 0, .int .i64 N] w (fun e w' => e = .returned (.int .i64 1) ∧ w' = w)) := Lib.hid (tkDo_nil h 0 N)
  obtain ⟨a, rfl⟩ := h.form
  clear h
  go_enter Tryd.func51, Tryd.ntmps51
  go_wp2_with (go_at_call 72; refine hu.out.mono ?_; rintro e w2 ⟨rfl, rfl⟩)
  go_ret
  exact ⟨rfl, rfl⟩
theorem tkStart_bad {B : Nat} {w : World} {l : Tl} {P : Ks} {Q : Qu} {g : Nat} (h : KAt B w l P Q g) {N : Int} (hn : NoI P N) : Calls Tryd.prog 51 #[.pointer (some ⟨l.t, 0, none⟩), .int .i64 N] w (fun e w' => e = .returned (.int .i64 2) ∧ w' = w) := by
  have hu : Hid (Calls Tryd.prog 72 #[.pointer (some ⟨l.t, 0, none⟩), .int .i64 0, .int .i64 N] w (fun e w' => e = .returned (.int .i64 2) ∧ w' = w)) := Lib.hid (tkDo_bad h hn 0)
  clear h hn
  go_enter Tryd.func51, Tryd.ntmps51
  go_wp2_with (go_at_call 72; refine hu.out.mono ?_; rintro e w2 ⟨rfl, rfl⟩)
  go_ret
  exact ⟨rfl, rfl⟩
theorem tkStart_state {B : Nat} {w : World} {l : Tl} {P : Ks} {Q : Qu} {g n : Nat} {p : Ck} (h : KAt B w l P Q g) (hp : P[n]? = some p) (hs : frOf 0 ≠ p.s) : Calls Tryd.prog 51 #[.pointer (some ⟨l.t, 0, none⟩), .int .i64 ((n : Nat) : Int)] w (fun e w' => e = .returned (.int .i64 8) ∧ Grn w w') := by
  have hu : Hid (Calls Tryd.prog 72 #[.pointer (some ⟨l.t, 0, none⟩), .int .i64 0, .int .i64 ((n : Nat) : Int)] w (fun e w' => e = .returned (.int .i64 8) ∧ Grn w w')) := Lib.hid (tkDo_state (c := 0) h hp (frOf_at 0 (by omega)) (tgOf_at 0 (by omega)) (by omega) hs)
  clear h hp hs
  go_enter Tryd.func51, Tryd.ntmps51
  go_wp2_with (go_at_call 72; refine hu.out.mono ?_; rintro e w2 ⟨rfl, hd⟩)
  go_ret
  exact ⟨rfl, hd⟩
theorem tkStart_yes {B : Nat} {w : World} {l : Tl} {P : Ks} {Q : Qu} {g n : Nat} {p : Ck} (h : KAt B w l P Q g) (hR : Rk P Q) (hg : g ≤ 900000000) (hp : P[n]? = some p) (hs : p.s = frOf 0) : Calls Tryd.prog 51 #[.pointer (some ⟨l.t, 0, none⟩), .int .i64 ((n : Nat) : Int)] w (Did B w l P Q g n (tgOf 0)) := by
  have hu : Hid (Calls Tryd.prog 72 #[.pointer (some ⟨l.t, 0, none⟩), .int .i64 0, .int .i64 ((n : Nat) : Int)] w (Did B w l P Q g n (tgOf 0))) := Lib.hid (tkDo_yes (c := 0) h hR hg (by omega) hp hs)
  clear h hR hg hp hs
  go_enter Tryd.func51, Tryd.ntmps51
  go_wp2_with (go_at_call 72; fail)
  refine hu.out.mono ?_
  rintro e w2 ⟨rfl, hd⟩
  go_wp2_with fail
  go_ret
  exact ⟨rfl, hd⟩
theorem tkPark_nil {w : World} {v : Value} (h : NoK w v) (N : Int) : Calls Tryd.prog 54 #[v, .int .i64 N] w (fun e w' => e = .returned (.int .i64 1) ∧ w' = w) := by
  have hu : Hid (Calls Tryd.prog 72 #[v, .int .i64 1, .int .i64 N] w (fun e w' => e = .returned (.int .i64 1) ∧ w' = w)) := Lib.hid (tkDo_nil h 1 N)
  obtain ⟨a, rfl⟩ := h.form
  clear h
  go_enter Tryd.func54, Tryd.ntmps54
  go_wp2_with (go_at_call 72; refine hu.out.mono ?_; rintro e w2 ⟨rfl, rfl⟩)
  go_ret
  exact ⟨rfl, rfl⟩
theorem tkPark_bad {B : Nat} {w : World} {l : Tl} {P : Ks} {Q : Qu} {g : Nat} (h : KAt B w l P Q g) {N : Int} (hn : NoI P N) : Calls Tryd.prog 54 #[.pointer (some ⟨l.t, 0, none⟩), .int .i64 N] w (fun e w' => e = .returned (.int .i64 2) ∧ w' = w) := by
  have hu : Hid (Calls Tryd.prog 72 #[.pointer (some ⟨l.t, 0, none⟩), .int .i64 1, .int .i64 N] w (fun e w' => e = .returned (.int .i64 2) ∧ w' = w)) := Lib.hid (tkDo_bad h hn 1)
  clear h hn
  go_enter Tryd.func54, Tryd.ntmps54
  go_wp2_with (go_at_call 72; refine hu.out.mono ?_; rintro e w2 ⟨rfl, rfl⟩)
  go_ret
  exact ⟨rfl, rfl⟩
theorem tkPark_state {B : Nat} {w : World} {l : Tl} {P : Ks} {Q : Qu} {g n : Nat} {p : Ck} (h : KAt B w l P Q g) (hp : P[n]? = some p) (hs : frOf 1 ≠ p.s) : Calls Tryd.prog 54 #[.pointer (some ⟨l.t, 0, none⟩), .int .i64 ((n : Nat) : Int)] w (fun e w' => e = .returned (.int .i64 8) ∧ Grn w w') := by
  have hu : Hid (Calls Tryd.prog 72 #[.pointer (some ⟨l.t, 0, none⟩), .int .i64 1, .int .i64 ((n : Nat) : Int)] w (fun e w' => e = .returned (.int .i64 8) ∧ Grn w w')) := Lib.hid (tkDo_state (c := 1) h hp (frOf_at 1 (by omega)) (tgOf_at 1 (by omega)) (by omega) hs)
  clear h hp hs
  go_enter Tryd.func54, Tryd.ntmps54
  go_wp2_with (go_at_call 72; refine hu.out.mono ?_; rintro e w2 ⟨rfl, hd⟩)
  go_ret
  exact ⟨rfl, hd⟩
theorem tkPark_yes {B : Nat} {w : World} {l : Tl} {P : Ks} {Q : Qu} {g n : Nat} {p : Ck} (h : KAt B w l P Q g) (hR : Rk P Q) (hg : g ≤ 900000000) (hp : P[n]? = some p) (hs : p.s = frOf 1) : Calls Tryd.prog 54 #[.pointer (some ⟨l.t, 0, none⟩), .int .i64 ((n : Nat) : Int)] w (Did B w l P Q g n (tgOf 1)) := by
  have hu : Hid (Calls Tryd.prog 72 #[.pointer (some ⟨l.t, 0, none⟩), .int .i64 1, .int .i64 ((n : Nat) : Int)] w (Did B w l P Q g n (tgOf 1))) := Lib.hid (tkDo_yes (c := 1) h hR hg (by omega) hp hs)
  clear h hR hg hp hs
  go_enter Tryd.func54, Tryd.ntmps54
  go_wp2_with (go_at_call 72; fail)
  refine hu.out.mono ?_
  rintro e w2 ⟨rfl, hd⟩
  go_wp2_with fail
  go_ret
  exact ⟨rfl, hd⟩
theorem tkWake_nil {w : World} {v : Value} (h : NoK w v) (N : Int) : Calls Tryd.prog 47 #[v, .int .i64 N] w (fun e w' => e = .returned (.int .i64 1) ∧ w' = w) := by
  have hu : Hid (Calls Tryd.prog 72 #[v, .int .i64 2, .int .i64 N] w (fun e w' => e = .returned (.int .i64 1) ∧ w' = w)) := Lib.hid (tkDo_nil h 2 N)
  obtain ⟨a, rfl⟩ := h.form
  clear h
  go_enter Tryd.func47, Tryd.ntmps47
  go_wp2_with (go_at_call 72; refine hu.out.mono ?_; rintro e w2 ⟨rfl, rfl⟩)
  go_ret
  exact ⟨rfl, rfl⟩
theorem tkWake_bad {B : Nat} {w : World} {l : Tl} {P : Ks} {Q : Qu} {g : Nat} (h : KAt B w l P Q g) {N : Int} (hn : NoI P N) : Calls Tryd.prog 47 #[.pointer (some ⟨l.t, 0, none⟩), .int .i64 N] w (fun e w' => e = .returned (.int .i64 2) ∧ w' = w) := by
  have hu : Hid (Calls Tryd.prog 72 #[.pointer (some ⟨l.t, 0, none⟩), .int .i64 2, .int .i64 N] w (fun e w' => e = .returned (.int .i64 2) ∧ w' = w)) := Lib.hid (tkDo_bad h hn 2)
  clear h hn
  go_enter Tryd.func47, Tryd.ntmps47
  go_wp2_with (go_at_call 72; refine hu.out.mono ?_; rintro e w2 ⟨rfl, rfl⟩)
  go_ret
  exact ⟨rfl, rfl⟩
theorem tkWake_state {B : Nat} {w : World} {l : Tl} {P : Ks} {Q : Qu} {g n : Nat} {p : Ck} (h : KAt B w l P Q g) (hp : P[n]? = some p) (hs : frOf 2 ≠ p.s) : Calls Tryd.prog 47 #[.pointer (some ⟨l.t, 0, none⟩), .int .i64 ((n : Nat) : Int)] w (fun e w' => e = .returned (.int .i64 8) ∧ Grn w w') := by
  have hu : Hid (Calls Tryd.prog 72 #[.pointer (some ⟨l.t, 0, none⟩), .int .i64 2, .int .i64 ((n : Nat) : Int)] w (fun e w' => e = .returned (.int .i64 8) ∧ Grn w w')) := Lib.hid (tkDo_state (c := 2) h hp (frOf_at 2 (by omega)) (tgOf_at 2 (by omega)) (by omega) hs)
  clear h hp hs
  go_enter Tryd.func47, Tryd.ntmps47
  go_wp2_with (go_at_call 72; refine hu.out.mono ?_; rintro e w2 ⟨rfl, hd⟩)
  go_ret
  exact ⟨rfl, hd⟩
theorem tkWake_yes {B : Nat} {w : World} {l : Tl} {P : Ks} {Q : Qu} {g n : Nat} {p : Ck} (h : KAt B w l P Q g) (hR : Rk P Q) (hg : g ≤ 900000000) (hp : P[n]? = some p) (hs : p.s = frOf 2) : Calls Tryd.prog 47 #[.pointer (some ⟨l.t, 0, none⟩), .int .i64 ((n : Nat) : Int)] w (Did B w l P Q g n (tgOf 2)) := by
  have hu : Hid (Calls Tryd.prog 72 #[.pointer (some ⟨l.t, 0, none⟩), .int .i64 2, .int .i64 ((n : Nat) : Int)] w (Did B w l P Q g n (tgOf 2))) := Lib.hid (tkDo_yes (c := 2) h hR hg (by omega) hp hs)
  clear h hR hg hp hs
  go_enter Tryd.func47, Tryd.ntmps47
  go_wp2_with (go_at_call 72; fail)
  refine hu.out.mono ?_
  rintro e w2 ⟨rfl, hd⟩
  go_wp2_with fail
  go_ret
  exact ⟨rfl, hd⟩
theorem tkFinish_nil {w : World} {v : Value} (h : NoK w v) (N : Int) : Calls Tryd.prog 52 #[v, .int .i64 N] w (fun e w' => e = .returned (.int .i64 1) ∧ w' = w) := by
  have hu : Hid (Calls Tryd.prog 72 #[v, .int .i64 3, .int .i64 N] w (fun e w' => e = .returned (.int .i64 1) ∧ w' = w)) := Lib.hid (tkDo_nil h 3 N)
  obtain ⟨a, rfl⟩ := h.form
  clear h
  go_enter Tryd.func52, Tryd.ntmps52
  go_wp2_with (go_at_call 72; refine hu.out.mono ?_; rintro e w2 ⟨rfl, rfl⟩)
  go_ret
  exact ⟨rfl, rfl⟩
theorem tkFinish_bad {B : Nat} {w : World} {l : Tl} {P : Ks} {Q : Qu} {g : Nat} (h : KAt B w l P Q g) {N : Int} (hn : NoI P N) : Calls Tryd.prog 52 #[.pointer (some ⟨l.t, 0, none⟩), .int .i64 N] w (fun e w' => e = .returned (.int .i64 2) ∧ w' = w) := by
  have hu : Hid (Calls Tryd.prog 72 #[.pointer (some ⟨l.t, 0, none⟩), .int .i64 3, .int .i64 N] w (fun e w' => e = .returned (.int .i64 2) ∧ w' = w)) := Lib.hid (tkDo_bad h hn 3)
  clear h hn
  go_enter Tryd.func52, Tryd.ntmps52
  go_wp2_with (go_at_call 72; refine hu.out.mono ?_; rintro e w2 ⟨rfl, rfl⟩)
  go_ret
  exact ⟨rfl, rfl⟩
theorem tkFinish_state {B : Nat} {w : World} {l : Tl} {P : Ks} {Q : Qu} {g n : Nat} {p : Ck} (h : KAt B w l P Q g) (hp : P[n]? = some p) (hs : frOf 3 ≠ p.s) : Calls Tryd.prog 52 #[.pointer (some ⟨l.t, 0, none⟩), .int .i64 ((n : Nat) : Int)] w (fun e w' => e = .returned (.int .i64 8) ∧ Grn w w') := by
  have hu : Hid (Calls Tryd.prog 72 #[.pointer (some ⟨l.t, 0, none⟩), .int .i64 3, .int .i64 ((n : Nat) : Int)] w (fun e w' => e = .returned (.int .i64 8) ∧ Grn w w')) := Lib.hid (tkDo_state (c := 3) h hp (frOf_at 3 (by omega)) (tgOf_at 3 (by omega)) (by omega) hs)
  clear h hp hs
  go_enter Tryd.func52, Tryd.ntmps52
  go_wp2_with (go_at_call 72; refine hu.out.mono ?_; rintro e w2 ⟨rfl, hd⟩)
  go_ret
  exact ⟨rfl, hd⟩
theorem tkFinish_yes {B : Nat} {w : World} {l : Tl} {P : Ks} {Q : Qu} {g n : Nat} {p : Ck} (h : KAt B w l P Q g) (hR : Rk P Q) (hg : g ≤ 900000000) (hp : P[n]? = some p) (hs : p.s = frOf 3) : Calls Tryd.prog 52 #[.pointer (some ⟨l.t, 0, none⟩), .int .i64 ((n : Nat) : Int)] w (Did B w l P Q g n (tgOf 3)) := by
  have hu : Hid (Calls Tryd.prog 72 #[.pointer (some ⟨l.t, 0, none⟩), .int .i64 3, .int .i64 ((n : Nat) : Int)] w (Did B w l P Q g n (tgOf 3))) := Lib.hid (tkDo_yes (c := 3) h hR hg (by omega) hp hs)
  clear h hR hg hp hs
  go_enter Tryd.func52, Tryd.ntmps52
  go_wp2_with (go_at_call 72; fail)
  refine hu.out.mono ?_
  rintro e w2 ⟨rfl, hd⟩
  go_wp2_with fail
  go_ret
  exact ⟨rfl, hd⟩
theorem tkTurn_nil {w : World} {v : Value} (h : NoK w v) (N : Int) : Calls Tryd.prog 53 #[v, .int .i64 N] w (fun e w' => e = .returned (.int .i64 1) ∧ w' = w) := by
  have hu : Hid (Calls Tryd.prog 72 #[v, .int .i64 4, .int .i64 N] w (fun e w' => e = .returned (.int .i64 1) ∧ w' = w)) := Lib.hid (tkDo_nil h 4 N)
  obtain ⟨a, rfl⟩ := h.form
  clear h
  go_enter Tryd.func53, Tryd.ntmps53
  go_wp2_with (go_at_call 72; refine hu.out.mono ?_; rintro e w2 ⟨rfl, rfl⟩)
  go_ret
  exact ⟨rfl, rfl⟩
theorem tkTurn_bad {B : Nat} {w : World} {l : Tl} {P : Ks} {Q : Qu} {g : Nat} (h : KAt B w l P Q g) {N : Int} (hn : NoI P N) : Calls Tryd.prog 53 #[.pointer (some ⟨l.t, 0, none⟩), .int .i64 N] w (fun e w' => e = .returned (.int .i64 2) ∧ w' = w) := by
  have hu : Hid (Calls Tryd.prog 72 #[.pointer (some ⟨l.t, 0, none⟩), .int .i64 4, .int .i64 N] w (fun e w' => e = .returned (.int .i64 2) ∧ w' = w)) := Lib.hid (tkDo_bad h hn 4)
  clear h hn
  go_enter Tryd.func53, Tryd.ntmps53
  go_wp2_with (go_at_call 72; refine hu.out.mono ?_; rintro e w2 ⟨rfl, rfl⟩)
  go_ret
  exact ⟨rfl, rfl⟩
theorem tkTurn_state {B : Nat} {w : World} {l : Tl} {P : Ks} {Q : Qu} {g n : Nat} {p : Ck} (h : KAt B w l P Q g) (hp : P[n]? = some p) (hs : frOf 4 ≠ p.s) : Calls Tryd.prog 53 #[.pointer (some ⟨l.t, 0, none⟩), .int .i64 ((n : Nat) : Int)] w (fun e w' => e = .returned (.int .i64 8) ∧ Grn w w') := by
  have hu : Hid (Calls Tryd.prog 72 #[.pointer (some ⟨l.t, 0, none⟩), .int .i64 4, .int .i64 ((n : Nat) : Int)] w (fun e w' => e = .returned (.int .i64 8) ∧ Grn w w')) := Lib.hid (tkDo_state (c := 4) h hp (frOf_at 4 (by omega)) (tgOf_at 4 (by omega)) (by omega) hs)
  clear h hp hs
  go_enter Tryd.func53, Tryd.ntmps53
  go_wp2_with (go_at_call 72; refine hu.out.mono ?_; rintro e w2 ⟨rfl, hd⟩)
  go_ret
  exact ⟨rfl, hd⟩
theorem tkTurn_yes {B : Nat} {w : World} {l : Tl} {P : Ks} {Q : Qu} {g n : Nat} {p : Ck} (h : KAt B w l P Q g) (hR : Rk P Q) (hg : g ≤ 900000000) (hp : P[n]? = some p) (hs : p.s = frOf 4) : Calls Tryd.prog 53 #[.pointer (some ⟨l.t, 0, none⟩), .int .i64 ((n : Nat) : Int)] w (Did B w l P Q g n (tgOf 4)) := by
  have hu : Hid (Calls Tryd.prog 72 #[.pointer (some ⟨l.t, 0, none⟩), .int .i64 4, .int .i64 ((n : Nat) : Int)] w (Did B w l P Q g n (tgOf 4))) := Lib.hid (tkDo_yes (c := 4) h hR hg (by omega) hp hs)
  clear h hR hg hp hs
  go_enter Tryd.func53, Tryd.ntmps53
  go_wp2_with (go_at_call 72; fail)
  refine hu.out.mono ?_
  rintro e w2 ⟨rfl, hd⟩
  go_wp2_with fail
  go_ret
  exact ⟨rfl, hd⟩
end Go.Proofs.YtcdimopiaanfbaaDoor
