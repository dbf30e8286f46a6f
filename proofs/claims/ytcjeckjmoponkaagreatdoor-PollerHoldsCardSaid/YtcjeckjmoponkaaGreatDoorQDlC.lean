/- QDlC: TPure, TMem, TCall, TLook, TChg, TStop, TExp, TCopy, merged. -/
import Derived.Test.YtcjeckjmoponkaaGreatDoorQDlB
import Derived.Shelf.SlSortCmp.QuietGrown
import Derived.StillTailTactics
import Derived.Deep.LoopGhost
import Derived.Deep.RegionHeld3
/- What timers are, without any memory: elements in the order in which they were set, and how often each number was given back. -/
namespace Go.Proofs.YtcjeckjmoponkaaGreatDoor.Dl
set_option linter.unusedVariables false
set_option linter.unusedSimpArgs false

/-- The first element in order. -/
def fstE (S : List El) : Option El := if h : 0 < S.length then some (S[best S]'(isBest_best h).lt) else none
theorem fstE_nil : fstE [] = none := rfl
theorem fstE_some {S : List El} (h : 0 < S.length) : fstE S = some (S[best S]'(isBest_best h).lt) := by unfold fstE; rw [dif_pos h]
theorem fstE_none {S : List El} (h : fstE S = none) : S = [] := by
  cases S with
  | nil => rfl
  | cons e r => rw [fstE_some (by simp)] at h; simp at h
theorem fstE_mem {S : List El} {e : El} (h : fstE S = some e) : e ∈ S := by
  by_cases h0 : 0 < S.length
  · rw [fstE_some h0] at h
    rw [← Option.some.inj h]
    exact List.getElem_mem _
  · have : S = [] := List.eq_nil_of_length_eq_zero (by omega)
    subst this; simp [fstE_nil] at h
theorem fstE_least {S : List El} {e : El} (h : fstE S = some e) : ∀ f ∈ S, e.k ≤ f.k := by
  intro f hf
  have h0 : 0 < S.length := List.length_pos_of_mem hf
  rw [fstE_some h0] at h
  rw [← Option.some.inj h]
  obtain ⟨j, hj, rfl⟩ := List.getElem_of_mem hf
  exact (isBest_best h0).least j hj
theorem fstE_order (S : List El) : (order S).head? = (fstE S).map El.h := by
  by_cases h0 : 0 < S.length
  · rw [fstE_some h0, order_cons h0]; rfl
  · have : S = [] := List.eq_nil_of_length_eq_zero (by omega)
    subst this; rfl
/-- What a name has been given back. -/
def bump (gs : List Nat) (x : Nat) : List Nat := gs.set x (gs.getD x 0 + 1)
theorem bump_len (gs : List Nat) (x : Nat) : (bump gs x).length = gs.length := by simp [bump]
theorem bump_get (gs : List Nat) (x y : Nat) (hx : x < gs.length) : (bump gs x).getD y 0 = gs.getD y 0 + (if y = x then 1 else 0) := by
  unfold bump
  simp only [List.getD_eq_getElem?_getD, List.getElem?_set]
  by_cases h : x = y
  · subst h; simp [hx]
  · have h' : ¬ y = x := fun q => h q.symm
    simp [h, h']

/-- A timer that has expired. -/
structure Du where
  n : Nat
  g : Nat
  o : Int
  k : Int

def dueOf (gs : List Nat) (e : El) : Du := ⟨e.h, gs.getD e.h 0, e.v, e.k⟩

/-- What expires at a time, what stays, and the generations then. -/
def expN : Nat → Int → List El → List Nat → List Du × List El × List Nat
  | 0, _, S, gs => ([], S, gs)
  | f + 1, now, S, gs =>
    match fstE S with
    | none => ([], S, gs)
    | some e => if e.k ≤ now then (dueOf gs e :: (expN f now (removeS S e.h) (bump gs e.h)).1, (expN f now (removeS S e.h) (bump gs e.h)).2) else ([], S, gs)
def expS (now : Int) (S : List El) (gs : List Nat) : List Du × List El × List Nat := expN S.length now S gs

theorem remove_lt {S : List El} {e : El} (h : e ∈ S) : (removeS S e.h).length < S.length := List.length_filter_lt_length_iff_exists.2 ⟨e, h, by simp⟩

theorem expN_fuel : ∀ (f g : Nat) (now : Int) (S : List El) (gs : List Nat), S.length ≤ f → S.length ≤ g → expN f now S gs = expN g now S gs
  | 0, g, now, S, gs, h, _ => by
    have : S = [] := List.eq_nil_of_length_eq_zero (by omega)
    subst this
    cases g with
    | zero => rfl
    | succ g => rfl
  | f + 1, 0, now, S, gs, _, h => by
    have : S = [] := List.eq_nil_of_length_eq_zero (by omega)
    subst this
    rfl
  | f + 1, g + 1, now, S, gs, h1, h2 => by
    unfold expN
    cases hf : fstE S with
    | none => rfl
    | some e =>
      have hlt := remove_lt (fstE_mem hf)
      simp only
      rw [expN_fuel f g now _ _ (by omega) (by omega)]
theorem expS_none {now : Int} {S : List El} {gs : List Nat} (h : fstE S = none) : expS now S gs = ([], S, gs) := by
  obtain rfl := fstE_none h
  rfl
theorem expS_late {now : Int} {S : List El} {gs : List Nat} {e : El} (h : fstE S = some e) (hk : ¬ e.k ≤ now) : expS now S gs = ([], S, gs) := by
  obtain ⟨n, hn⟩ : ∃ n, S.length = n + 1 := ⟨S.length - 1, by have := List.length_pos_of_mem (fstE_mem h); omega⟩
  unfold expS
  rw [hn]
  unfold expN
  rw [h]
  simp only
  rw [if_neg hk]
theorem expS_due {now : Int} {S : List El} {gs : List Nat} {e : El} (h : fstE S = some e) (hk : e.k ≤ now) :
    expS now S gs = (dueOf gs e :: (expS now (removeS S e.h) (bump gs e.h)).1, (expS now (removeS S e.h) (bump gs e.h)).2) := by
  obtain ⟨n, hn⟩ : ∃ n, S.length = n + 1 := ⟨S.length - 1, by have := List.length_pos_of_mem (fstE_mem h); omega⟩
  have hlt := remove_lt (fstE_mem h)
  have h1 : expS now S gs = expN (n + 1) now S gs := by unfold expS; rw [hn]
  rw [h1]
  unfold expN
  rw [h]
  simp only
  rw [if_pos hk, expN_fuel n (removeS S e.h).length now _ _ (by omega) (Nat.le_refl _)]
  rfl

theorem removeS_filter (S : List El) (x : Nat) (p : El → Bool) : (removeS S x).filter p = removeS (S.filter p) x := by
  unfold removeS
  rw [List.filter_filter, List.filter_filter]
  congr 1
  funext e
  exact Bool.and_comm _ _
/-- What stays is what is later. -/
theorem expS_rest : ∀ (n : Nat) (now : Int) (S : List El) (gs : List Nat), S.length = n → (hsOf S).Nodup → (expS now S gs).2.1 = S.filter fun e => decide (now < e.k)
  | n, now, S, gs, hn, hnd => by
    cases hf : fstE S with
    | none =>
      rw [expS_none hf]
      obtain rfl := fstE_none hf
      rfl
    | some e =>
      by_cases hk : e.k ≤ now
      · have hlt := remove_lt (fstE_mem hf)
        rw [expS_due hf hk]
        simp only
        have hnd' : (hsOf (removeS S e.h)).Nodup := by rw [hs_remove]; exact hnd.filter _
        rw [expS_rest (removeS S e.h).length now _ _ rfl hnd', removeS_filter]
        unfold removeS
        rw [List.filter_eq_self]
        intro f hf'
        obtain ⟨hm, hlt'⟩ := List.mem_filter.1 hf'
        simp only [decide_eq_true_eq] at hlt' ⊢
        intro q
        obtain ⟨i, hi, rfl⟩ := List.getElem_of_mem hm
        obtain ⟨j, hj, hje⟩ := List.getElem_of_mem (fstE_mem hf)
        have : i = j := (List.getElem_inj (xs := hsOf S) (h₀ := by simpa [hsOf] using hi) (h₁ := by simpa [hsOf] using hj) hnd).1 (by simp [hsOf, hje, q])
        subst this
        rw [hje] at hlt'
        omega
      · rw [expS_late hf hk]
        simp only
        symm
        rw [List.filter_eq_self]
        intro f hf'
        have := fstE_least hf f hf'
        simp only [decide_eq_true_eq]
        omega
  termination_by n => n
  decreasing_by omega

theorem expS_len : ∀ (n : Nat) (now : Int) (S : List El) (gs : List Nat), S.length = n → (expS now S gs).1.length ≤ n ∧ (expS now S gs).2.1.length ≤ n
  | n, now, S, gs, hn => by
    cases hf : fstE S with
    | none => rw [expS_none hf]; exact ⟨by simp, by simp [hn]⟩
    | some e =>
      by_cases hk : e.k ≤ now
      · have hlt := remove_lt (fstE_mem hf)
        have ih := expS_len (removeS S e.h).length now (removeS S e.h) (bump gs e.h) rfl
        rw [expS_due hf hk]
        simp only [List.length_cons]
        omega
      · rw [expS_late hf hk]; exact ⟨by simp, by simp [hn]⟩
  termination_by n => n
  decreasing_by omega
end Go.Proofs.YtcjeckjmoponkaaGreatDoor.Dl
/- Timers in memory: a heap, and how often each number was given back. -/
namespace Go.Proofs.YtcjeckjmoponkaaGreatDoor.Dl
open Go.RowKit Go.Sort
set_option linter.unusedVariables false
set_option linter.unusedSimpArgs false

/-- The blocks that the heap of timers leaves alone: the law's own, and the timers' other ones. -/
def TG (G : Nat → Prop) (a bb : Nat) (vg : Value) : Nat → Prop := fun k => G k ∨ k = a ∨ k = bb ∨ vg.ownBlock = some k

theorem below_cell {w0 w : World} {b : Nat} (h : Below w0.heap.size w0 w) (hb : w0.heap.size ≤ b) (j : Nat) (u : Value) : Below w0.heap.size w0 (w.setCell ⟨b, j, none⟩ u) := by
  have hf : Fr [b] w (w.setCell ⟨b, j, none⟩ u) := fr_setCell w ⟨b, j, none⟩ u
  exact h.trans (hf.below (fun x hx => by simp at hx; subst hx; exact hb) h.size)

structure TmB (w0 : World) (G : Nat → Prop) (w : World) (a bb hp : Nat) (vg : Value) (S : List El) (gs : List Nat) (P : Nat) : Prop where
  H : HeapIn w0 (TG G a bb vg) w hp S P
  ta : w.heap[a]? = some (.cells #[pt bb] 260 (0, 0))
  tb : w.heap[bb]? = some (.cells #[pt hp, vg] 258 (0, 0))
  tg : w.ownsRow w0.heap.size 3 1 vg gs.length (gs.map encN)
  na : ¬ G a
  nb : ¬ G bb
  ng : ∀ g, vg.ownBlock = some g → ¬ G g
  ba : w0.heap.size ≤ a
  bb0 : w0.heap.size ≤ bb
  gl : gs.length ≤ 1024

/-- What holds of elements and generations alone. -/
structure TmP (S : List El) (gs : List Nat) (P : Nat) : Prop where
  lt : ∀ x, x ∈ hsOf S → x < gs.length
  gb : ∀ x, gs.getD x 0 + (if x ∈ hsOf S then 1 else 0) ≤ P

def setG (gs : List Nat) (l : Nat) : List Nat := if l = gs.length then gs ++ [0] else gs
theorem setG_get (gs : List Nat) (l x : Nat) : (setG gs l).getD x 0 = gs.getD x 0 := by
  unfold setG
  by_cases h : l = gs.length
  · rw [if_pos h]
    simp only [List.getD_eq_getElem?_getD]
    by_cases hx : x < gs.length
    · rw [List.getElem?_append_left hx]
    · rw [List.getElem?_append_right (by omega), List.getElem?_eq_none (l := gs) (by omega)]
      cases hk : x - gs.length with
      | zero => simp
      | succ k => simp
  · rw [if_neg h]
theorem TmP.nil : TmP [] [] 0 := ⟨by simp [hsOf], by simp [hsOf]⟩
theorem TmP.low_le {S : List El} {gs : List Nat} {P : Nat} (h : TmP S gs P) : lowOf (hsOf S) ≤ gs.length := by
  obtain ⟨l, h1, h2, _⟩ := low_ex (hsOf S)
  rw [lowOf_eq h1 h2]
  refine Classical.byContradiction fun hn => ?_
  have := h.lt _ (h2 gs.length (by omega))
  omega
theorem TmP.push {S : List El} {gs : List Nat} {P : Nat} (h : TmP S gs P) (k v : Int) : TmP (pushS S k v) (setG gs (lowOf (hsOf S))) (P + 1) := by
  have hl := h.low_le
  refine ⟨fun x hx => ?_, fun x => ?_⟩
  · rw [hs_push] at hx
    have hx' : x ≤ gs.length ∧ (x < gs.length ∨ x = lowOf (hsOf S)) := by
      rcases List.mem_append.1 hx with hx | hx
      · have := h.lt x hx; exact ⟨by omega, .inl this⟩
      · simp at hx; exact ⟨by omega, .inr hx⟩
    unfold setG
    split
    · simp; omega
    · rename_i hne
      rcases hx'.2 with h' | h'
      · exact h'
      · rw [h'] at hx' ⊢; omega
  · rw [setG_get, hs_push]
    have hg := h.gb x
    by_cases h1 : x ∈ hsOf S
    · rw [if_pos h1] at hg
      rw [if_pos (List.mem_append_left _ h1)]; omega
    · rw [if_neg h1] at hg
      split <;> omega
theorem TmP.remove {S : List El} {gs : List Nat} {P : Nat} (h : TmP S gs P) (x : Nat) (hx : x ∈ hsOf S) : TmP (removeS S x) (bump gs x) P := by
  have hxl := h.lt x hx
  refine ⟨fun y hy => ?_, fun y => ?_⟩
  · rw [hs_remove] at hy
    rw [bump_len]
    exact h.lt y (List.mem_filter.1 hy).1
  · rw [bump_get gs x y hxl, hs_remove]
    have hg := h.gb y
    by_cases hy : y = x
    · subst hy
      rw [if_pos hx] at hg
      rw [if_pos rfl, if_neg (by simp)]
      exact hg
    · rw [if_neg hy]
      have : (y ∈ (hsOf S).filter fun x_1 => decide (x_1 ≠ x)) ↔ y ∈ hsOf S := by simp [hy]
      by_cases h1 : y ∈ hsOf S
      · rw [if_pos h1] at hg; rw [if_pos (this.2 h1)]; omega
      · rw [if_neg (fun q => h1 (this.1 q))]; omega
theorem TmP.change {S : List El} {gs : List Nat} {P : Nat} (h : TmP S gs P) (x : Nat) (k : Int) : TmP (changeS S x k) gs P := ⟨by rw [hs_change]; exact h.lt, by rw [hs_change]; exact h.gb⟩
theorem TmP.mono {S : List El} {gs : List Nat} {P Q : Nat} (h : TmP S gs P) (hq : P ≤ Q) : TmP S gs Q := ⟨h.lt, fun x => Nat.le_trans (h.gb x) hq⟩

/-- Timers at block a, made since w0; their elements are S, and gs says how often each number was given back. -/
structure TmIn (w0 : World) (G : Nat → Prop) (w : World) (a : Nat) (S : List El) (gs : List Nat) (P : Nat) : Prop where
  ex : ∃ bb hp vg, TmB w0 G w a bb hp vg S gs P
  p : TmP S gs P

namespace TmB
variable {w0 w : World} {G : Nat → Prop} {a bb hp : Nat} {vg : Value} {S : List El} {gs : List Nat} {P : Nat}

theorem ca (T : TmB w0 G w a bb hp vg S gs P) : w.cell? ⟨a, 0, none⟩ = some (.pointer (some ⟨bb, 0, none⟩)) := cells_cell T.ta rfl
theorem cb (T : TmB w0 G w a bb hp vg S gs P) : w.cell? ⟨bb, 0, none⟩ = some (.pointer (some ⟨hp, 0, none⟩)) := cells_cell T.tb rfl
theorem cg (T : TmB w0 G w a bb hp vg S gs P) : w.cell? ⟨bb, 1, none⟩ = some vg := cells_cell T.tb rfl
theorem ne (T : TmB w0 G w a bb hp vg S gs P) : a ≠ bb := BodAt.ne_types T.ta T.tb (by decide)
theorem ga (T : TmB w0 G w a bb hp vg S gs P) : ∀ g, vg.ownBlock = some g → g ≠ a := BodAt.row_ne T.tg T.ta (by decide)
theorem gbb (T : TmB w0 G w a bb hp vg S gs P) : ∀ g, vg.ownBlock = some g → g ≠ bb := BodAt.row_ne T.tg T.tb (by decide)
theorem alt (T : TmB w0 G w a bb hp vg S gs P) : a < w.heap.size := lt_of_block T.ta
theorem blt (T : TmB w0 G w a bb hp vg S gs P) : bb < w.heap.size := lt_of_block T.tb

/-- The world has grown; the law's own blocks may be new ones, too. -/
theorem more {w' : World} {G' : Nat → Prop} (T : TmB w0 G w a bb hp vg S gs P) (hb : Below w.heap.size w w') (hG : ∀ k, G' k → G k ∨ (w.heap.size ≤ k ∧ k < w'.heap.size)) : TmB w0 G' w' a bb hp vg S gs P := by
  refine ⟨T.H.more hb (fun k hk => ?_), (hb.block a T.alt).trans T.ta, (hb.block bb T.blt).trans T.tb, (Fr.of_below hb []).row T.tg (fun _ _ => by simp), fun h => ?_, fun h => ?_, fun g hg h => ?_, T.ba, T.bb0, T.gl⟩
  · rcases hk with h | h | h | h
    · rcases hG k h with h' | h'
      · exact .inl (.inl h')
      · exact .inr h'
    · exact .inl (.inr (.inl h))
    · exact .inl (.inr (.inr (.inl h)))
    · exact .inl (.inr (.inr (.inr h)))
  · rcases hG _ h with h' | h'
    · exact T.na h'
    · have := T.alt; omega
  · rcases hG _ h with h' | h'
    · exact T.nb h'
    · have := T.blt; omega
  · rcases hG _ h with h' | h'
    · exact T.ng g hg h'
    · have := (T.tg.lt g hg).2; omega
/-- Blocks of the law's own are written. -/
theorem write {w' : World} {F : List Nat} (T : TmB w0 G w a bb hp vg S gs P) (hf : Fr F w w') (hF : ∀ k, k ∈ F → G k ∧ w0.heap.size ≤ k) : TmB w0 G w' a bb hp vg S gs P :=
  ⟨T.H.write hf (fun k hk => ⟨.inl (hF k hk).1, (hF k hk).2⟩), hf.same T.ta (fun h => T.na (hF _ h).1), hf.same T.tb (fun h => T.nb (hF _ h).1), hf.row T.tg (fun g hg h => T.ng g hg (hF _ h).1), T.na, T.nb, T.ng, T.ba, T.bb0, T.gl⟩
theorem mono {Q : Nat} (T : TmB w0 G w a bb hp vg S gs P) (hq : P ≤ Q) : TmB w0 G w a bb hp vg S gs Q :=
  ⟨T.H.mono hq, T.ta, T.tb, T.tg, T.na, T.nb, T.ng, T.ba, T.bb0, T.gl⟩
/-- The heap was called. -/
theorem heap {w' : World} {S' : List El} {P' : Nat} (T : TmB w0 G w a bb hp vg S gs P) (H' : HeapIn w0 (TG G a bb vg) w' hp S' P') (K : Keep (TG G a bb vg) w w') :
    TmB w0 G w' a bb hp vg S' gs P' ∧ Keep G w w' :=
  ⟨⟨H', (K a (.inr (.inl rfl))).trans T.ta, (K bb (.inr (.inr (.inl rfl)))).trans T.tb, by
    refine ⟨T.tg.1, ?_⟩
    rcases T.tg.2 with h' | ⟨g, cap, cur, rfl, hb, hg, r⟩
    · exact .inl h'
    · exact .inr ⟨g, cap, cur, rfl, hb, (K g (.inr (.inr (.inr rfl)))).trans hg, r⟩, T.na, T.nb, T.ng, T.ba, T.bb0, T.gl⟩, fun k hk => K k (.inl hk)⟩
theorem drew (T : TmB w0 G w a bb hp vg S gs P) (n : Nat) : TmB w0 G (w.drewN n) a bb hp vg S gs P := T.more ((fr_drewN w n []).below (fun _ hx => by simp at hx) (Nat.le_refl _)) fun _ h => .inl h
theorem grown {w' : World} (T : TmB w0 G w a bb hp vg S gs P) (hb : Below w.heap.size w w') : TmB w0 G w' a bb hp vg S gs P := T.more hb fun _ h => .inl h
theorem less {G' : Nat → Prop} (T : TmB w0 G w a bb hp vg S gs P) (hG : ∀ k, G' k → G k) : TmB w0 G' w a bb hp vg S gs P := T.more (Below.refl _ _) fun k h => .inl (hG k h)

/-- A new row for the generations, and the field is written. -/
theorem newG {w' : World} {v' : Value} {gs' : List Nat} (T : TmB w0 G w a bb hp vg S gs P) (hf : Fr vg.ownBlock.toList w w') (hnear : Near w vg v') (hown : w'.ownsRow w0.heap.size 3 1 v' gs'.length (gs'.map encN)) (hl : gs'.length ≤ 1024) :
    TmB w0 G (w'.setCell ⟨bb, 1, none⟩ v') a bb hp v' S gs' P ∧ Keep G w (w'.setCell ⟨bb, 1, none⟩ v') := by
  have hga := T.ga
  have hgb := T.gbb
  have na : a ∉ vg.ownBlock.toList := fun hm => hga a (by simpa using hm) rfl
  have nb : bb ∉ vg.ownBlock.toList := fun hm => hgb bb (by simpa using hm) rfl
  have ta' := hf.same T.ta na
  have tb' := hf.same T.tb nb
  have f2 : Fr [bb] w' (w'.setCell ⟨bb, 1, none⟩ v') := fr_setCell w' ⟨bb, 1, none⟩ v'
  have hb' := BodAt.row_ne hown tb' (by decide)
  have ha' := BodAt.row_ne hown ta' (by decide)
  obtain ⟨h, hha, HA, h1, h2⟩ := T.H.ex
  have hfF : ∀ k, k ∈ vg.ownBlock.toList → w0.heap.size ≤ k := fun k hk => (T.tg.lt k (by simpa using hk)).1
  have hng : ∀ g, v'.ownBlock = some g → ¬ G g := fun g hg hG => by
    rcases hnear g hg with h' | h'
    · exact T.ng g h' hG
    · have := T.H.lt g (.inl hG); omega
  have hsz : w.heap.size ≤ (w'.setCell ⟨bb, 1, none⟩ v').heap.size := Nat.le_trans hf.size f2.size
  have hb1 : Below w0.heap.size w0 w' := T.H.below.trans (hf.below hfF T.H.below.size)
  refine ⟨⟨⟨⟨h, hha, (HA.frame hf (fun k hk hm => h2 k hk (.inr (.inr (.inr (by simpa using hm)))))).frame f2 (fun k hk hm => ?_), h1, fun k hk hg => ?_⟩, fun k hk => ?_, below_cell hb1 T.bb0 1 v'⟩, f2.same ta' (by simpa using T.ne), ?_, f2.row hown (fun g hg => by simpa using hb' g hg), T.na, T.nb, hng, T.ba, T.bb0, hl⟩, fun k hk => ?_⟩
  · simp at hm; subst hm; exact h2 k hk (.inr (.inr (.inl rfl)))
  · rcases hg with h' | h' | h' | h'
    · exact h2 k hk (.inl h')
    · exact h2 k hk (.inr (.inl h'))
    · exact h2 k hk (.inr (.inr (.inl h')))
    · rcases hnear k h' with h'' | h''
      · exact h2 k hk (.inr (.inr (.inr h'')))
      · have := HA.lt_foot k hk; omega
  · rcases hk with h' | h' | h' | h'
    · exact Nat.lt_of_lt_of_le (T.H.lt k (.inl h')) hsz
    · subst h'; exact Nat.lt_of_lt_of_le T.alt hsz
    · subst h'; exact Nat.lt_of_lt_of_le T.blt hsz
    · exact Nat.lt_of_lt_of_le (hown.lt k h').2 f2.size
  · exact cells_set tb' 1 v'
  · have hkb : k ≠ bb := fun e => T.nb (e ▸ hk)
    have hkl := T.H.lt k (.inl hk)
    rw [f2.block k (Nat.lt_of_lt_of_le hkl hf.size) (by simpa using hkb)]
    exact hf.block k hkl (fun hm => T.ng k (by simpa using hm) hk)

/-- A number is given back. -/
theorem bumpG {g cap : Nat} (T : TmB w0 G w a bb hp (.slice (some ⟨g, 0, none⟩) gs.length cap) S gs P) (x : Nat) :
    TmB w0 G (w.setCell ⟨g, x, none⟩ (.int .i64 ((gs.getD x 0 : Nat) + 1))) a bb hp (.slice (some ⟨g, 0, none⟩) gs.length cap) S (bump gs x) P ∧ Keep G w (w.setCell ⟨g, x, none⟩ (.int .i64 ((gs.getD x 0 : Nat) + 1))) := by
  obtain ⟨hst, _⟩ := World.ownsRow.stored T.tg x (.int .i64 ((gs.getD x 0 : Nat) + 1))
  have hf : Fr [g] w (w.setCell ⟨g, x, none⟩ (.int .i64 ((gs.getD x 0 : Nat) + 1))) := fr_setCell w ⟨g, x, none⟩ _
  have hg0 : w0.heap.size ≤ g := (T.tg.lt g rfl).1
  refine ⟨⟨T.H.write hf (fun k hk => ?_), hf.same T.ta (by simpa using (T.ga g rfl).symm), hf.same T.tb (by simpa using (T.gbb g rfl).symm), ?_, T.na, T.nb, T.ng, T.ba, T.bb0, by rw [bump_len]; exact T.gl⟩, fun k hk => hf.block k (T.H.lt k (.inl hk)) (fun hm => ?_)⟩
  · simp at hk; subst hk; exact ⟨.inr (.inr (.inr rfl)), hg0⟩
  · have e : (bump gs x).map encN = (gs.map encN).set x (.int .i64 ((gs.getD x 0 : Nat) + 1)) := by
      unfold bump
      rw [List.map_set]
      unfold encN
      congr 2
    rw [bump_len, e]
    exact hst
  · simp at hm; subst hm; exact T.ng k rfl hk
end TmB

namespace TmIn
variable {w0 w : World} {G : Nat → Prop} {a : Nat} {S : List El} {gs : List Nat} {P : Nat}
theorem len_le (T : TmIn w0 G w a S gs P) : S.length ≤ 1024 := by obtain ⟨_, _, _, B⟩ := T.ex; exact B.H.len_le
theorem nodup (T : TmIn w0 G w a S gs P) : (hsOf S).Nodup := by obtain ⟨_, _, _, B⟩ := T.ex; exact B.H.nodup
theorem below (T : TmIn w0 G w a S gs P) : Below w0.heap.size w0 w := by obtain ⟨_, _, _, B⟩ := T.ex; exact B.H.below
theorem glt (T : TmIn w0 G w a S gs P) : ∀ k, G k → k < w.heap.size := by obtain ⟨_, _, _, B⟩ := T.ex; exact fun k hk => B.H.lt k (.inl hk)
theorem mono {Q : Nat} (T : TmIn w0 G w a S gs P) (hq : P ≤ Q) : TmIn w0 G w a S gs Q := by obtain ⟨_, _, _, B⟩ := T.ex; exact ⟨⟨_, _, _, B.mono hq⟩, T.p.mono hq⟩
theorem more {w' : World} {G' : Nat → Prop} (T : TmIn w0 G w a S gs P) (hb : Below w.heap.size w w') (hG : ∀ k, G' k → G k ∨ (w.heap.size ≤ k ∧ k < w'.heap.size)) : TmIn w0 G' w' a S gs P := by obtain ⟨_, _, _, B⟩ := T.ex; exact ⟨⟨_, _, _, B.more hb hG⟩, T.p⟩
theorem grown {w' : World} (T : TmIn w0 G w a S gs P) (hb : Below w.heap.size w w') : TmIn w0 G w' a S gs P := T.more hb fun _ h => .inl h
theorem less {G' : Nat → Prop} (T : TmIn w0 G w a S gs P) (hG : ∀ k, G' k → G k) : TmIn w0 G' w a S gs P := T.more (Below.refl _ _) fun k h => .inl (hG k h)
theorem alloc (T : TmIn w0 G w a S gs P) (o : Obj) : TmIn w0 G (w.alloc o) a S gs P := T.grown ((Below.refl _ _).alloc (Nat.le_refl _) _)
theorem drew (T : TmIn w0 G w a S gs P) (n : Nat) : TmIn w0 G (w.drewN n) a S gs P := T.grown ((fr_drewN w n []).below (fun _ hx => by simp at hx) (Nat.le_refl _))
theorem write {w' : World} {F : List Nat} (T : TmIn w0 G w a S gs P) (hf : Fr F w w') (hF : ∀ k, k ∈ F → G k ∧ w0.heap.size ≤ k) : TmIn w0 G w' a S gs P := by obtain ⟨_, _, _, B⟩ := T.ex; exact ⟨⟨_, _, _, B.write hf hF⟩, T.p⟩
theorem keep {w' : World} (T : TmIn w0 G w a S gs P) (hb : Below w.heap.size w w') : Keep G w w' := fun k hk => hb.block k (T.glt k hk)
end TmIn
end Go.Proofs.YtcjeckjmoponkaaGreatDoor.Dl
/- The calls of timers that change nothing: usable, name, Len, Get, first, Next. -/
namespace Go.Proofs.YtcjeckjmoponkaaGreatDoor.Dl
open Go.RowKit Go.Sort
set_option linter.unusedVariables false
set_option linter.unusedSimpArgs false

/-- The world has only grown. -/
def Grn (w w' : World) : Prop := ∃ q os, w' = grow (w.drewN q) os
theorem Grn.below {w w' : World} (h : Grn w w') : Below w.heap.size w w' := by
  obtain ⟨q, os, rfl⟩ := h
  exact (fr_grow w q os []).below (fun _ hx => by simp at hx) (Nat.le_refl _)
theorem Grn.of {w w' : World} (hb : Below w.heap.size w w') (hd : w.drawn ≤ w'.drawn) : Grn w w' := by
  refine ⟨w'.drawn - w.drawn, w'.heap.extract w.heap.size w'.heap.size, ?_⟩
  obtain ⟨h, t, d, o, out⟩ := w
  obtain ⟨h', t', d', o', out'⟩ := w'
  obtain ⟨h1, h2, h3, h4, h5⟩ := hb
  simp only at h1 h2 h3 h4 h5 hd
  subst h1 h2 h3
  simp only [grow, World.drewN, World.mk.injEq, true_and, and_true]
  refine ⟨?_, by omega⟩
  refine Array.ext_getElem? (fun i => ?_)
  by_cases hi : i < h.size
  · rw [Array.getElem?_append_left hi]; exact h5 i hi
  · rw [Array.getElem?_append_right (by omega), Array.getElem?_extract]
    by_cases hj : i < h'.size
    · rw [if_pos (by omega)]; congr 1; omega
    · rw [if_neg (by omega), Array.getElem?_eq_none (by omega)]
theorem Grn.refl (w : World) : Grn w w := Grn.of (Below.refl _ _) (Nat.le_refl _)
theorem Grn.drawn {w w' : World} (h : Grn w w') : w.drawn ≤ w'.drawn := by
  obtain ⟨q, os, rfl⟩ := h
  show w.drawn ≤ w.drawn + q
  omega
theorem Grn.trans {a b c : World} (h : Grn a b) (k : Grn b c) : Grn a c := Grn.of (h.below.trans (k.below.mono h.below.size)) (Nat.le_trans h.drawn k.drawn)
theorem Grn.alloc {w w' : World} (h : Grn w w') (o : Obj) : Grn w (w'.alloc o) := h.trans (Grn.of ((Below.refl _ _).alloc (Nat.le_refl _) _) (Nat.le_refl _))
theorem Grn.drew {w w' : World} (h : Grn w w') (n : Nat) : Grn w (w'.drewN n) := h.trans (Grn.of ((fr_drewN w' n []).below (fun _ hx => by simp at hx) (Nat.le_refl _)) (Nat.le_add_right _ _))
/-- A new block is written. -/
theorem Grn.set {w w' : World} (h : Grn w w') (a : Addr) (v : Value) (ha : w.heap.size ≤ a.block) : Grn w (w'.setCell a v) :=
  Grn.of (h.below.trans ((fr_setCell w' a v).below (fun x hx => by simp at hx; subst hx; exact ha) h.below.size)) h.drawn

set_option maxHeartbeats 400000 in
theorem tusable_yes (a bb : Nat) (w : World) (hc : w.cell? ⟨a, 0, none⟩ = some (.pointer (some ⟨bb, 0, none⟩))) : Calls Tryz.prog 191 #[.pointer (some ⟨a, 0, none⟩)] w fun e w' => e = .returned (.bool true) ∧ w = w' := by
  go_enter Tryz.func191, Tryz.ntmps191
  go_wp2_with fail
  go_ret
  exact ⟨rfl, rfl⟩

set_option maxHeartbeats 800000 in
theorem tname_any {w : World} {bb base : Nat} {vg : Value} {gs : List Nat} (x : Nat) (hx : x < gs.length) (hm : gs.length ≤ 1024) (cg : w.cell? ⟨bb, 1, none⟩ = some vg) (tg : w.ownsRow base 3 1 vg gs.length (gs.map encN)) :
    Calls Tryz.prog 200 #[.pointer (some ⟨bb, 0, none⟩), .int .i64 x] w fun e w' => e = .returned (.agg #[.int .i64 x, .int .i64 (gs.getD x 0 : Nat)]) ∧ Grn w w' := by
  obtain ⟨g, cap, rfl, _, hgl⟩ := row_some tg (by omega)
  have hc := row_at (L := gs) (ownsRow_mono tg (Nat.zero_le _)) x hx
  unfold encN at hc
  have h1 : (x : Int) < (gs.length : Int) := by omega
  have h2 : (0 : Int) ≤ (x : Int) := by omega
  have h3 : (gs.length : Int) ≤ 1024 := by omega
  generalize gs.getD x 0 = z at *
  have bl1 := World.block_lt_of_cell? w _ cg
  have bl2 := World.block_lt_of_cell? w _ hc
  simp only at bl1 bl2
  clear tg
  go_enter Tryz.func200, Tryz.ntmps200
  go_wp2_with fail
  exact bodyPost_ret (v := .agg #[.int .i64 x, .int .i64 z]) (by simp [results, Tryz.results200, go_sem]) rfl ⟨rfl, (Grn.refl w).alloc _⟩

/-- Is this the name of a timer that is set? -/
def isT (S : List El) (gs : List Nat) (n g : Int) : Prop := ∃ x : Nat, n = x ∧ x ∈ hsOf S ∧ g = (gs.getD x 0 : Nat)

variable {w0 w : World} {G : Nat → Prop} {a bb hp : Nat} {vg : Value} {S : List El} {gs : List Nat} {P : Nat}

theorem usable_in (T : TmB w0 G w a bb hp vg S gs P) : Calls Tryz.prog 191 #[.pointer (some ⟨a, 0, none⟩)] w fun e w' => e = .returned (.bool true) ∧ w = w' := tusable_yes a bb w T.ca
theorem name_in (T : TmB w0 G w a bb hp vg S gs P) (x : Nat) (hx : x < gs.length) :
    Calls Tryz.prog 200 #[.pointer (some ⟨bb, 0, none⟩), .int .i64 x] w fun e w' => e = .returned (.agg #[.int .i64 x, .int .i64 (gs.getD x 0 : Nat)]) ∧ Grn w w' := tname_any x hx T.gl T.cg T.tg
theorem El_of {S : List El} {x : Nat} (h : x ∈ hsOf S) : ∃ e ∈ S, e.h = x := List.mem_map.1 h

set_option maxHeartbeats 1600000 in
theorem tget_none (T : TmIn w0 G w a S gs P) (n g : Int) (hn : ¬ isH S n) :
    Calls Tryz.prog 198 #[pt a, .agg #[.int .i64 n, .int .i64 g]] w fun e w' => e = .returned (.tuple #[.int .u64 0, .int .i64 0, .int .i64 9]) ∧ Grn w w' := by
  obtain ⟨bb, hp, vg, B⟩ := T.ex
  have B1 := B.grown ((Grn.refl w).alloc (.cells #[.int .i64 n, .int .i64 g] 163)).below
  have hu := Lib.hid (usable_in B1)
  have hg : Hid (∀ m, Calls Tryz.prog 203 #[.pointer (some ⟨hp, 0, none⟩), .int .i64 n] ((w.alloc (.cells #[.int .i64 n, .int .i64 g] 163)).drewN m) fun e w' => e = .returned (.tuple #[.int .u64 0, .int .i64 0, .int .i64 9]) ∧ ∃ k, w' = ((w.alloc (.cells #[.int .i64 n, .int .i64 g] 163)).drewN m).drewN k) :=
    fun m => (get_no_in (B1.H.drew m) n hn).mono fun e w' ⟨h1, h2⟩ => ⟨h1, 0, h2.symm⟩
  have ca := B.ca
  have cb := B.cb
  have al := B.alt
  have bl := B.blt
  clear T B B1 hn
  unfold pt
  go_enter Tryz.func198, Tryz.ntmps198
  go_wp2_with (first | (go_at_call 191; refine hu.out.mono ?_; rintro e w' ⟨rfl, rfl⟩))
  go_quiet ((go_at_call 203; refine Calls.quiet_of (hg.out _)))
  go_wp2_with fail
  go_quiet (fail)
  go_wp2_with fail
  go_ret3
  exact ⟨rfl, (((Grn.refl w).alloc _).drew _).drew _⟩

theorem cell_grn {w : World} {a : Addr} {v : Value} (hb : a.block < w.heap.size) (h : w.cell? a = some v) : ∀ m os, (grow (w.drewN m) os).cell? a = some v := fun m os => cell_grown hb h m os

set_option maxHeartbeats 3200000 in
theorem tget_mem (T : TmIn w0 G w a S gs P) (e : El) (g : Int) (he : e ∈ S) :
    Calls Tryz.prog 198 #[pt a, .agg #[.int .i64 e.h, .int .i64 g]] w fun r w' => (((gs.getD e.h 0 : Nat) : Int) = g → r = .returned (.tuple #[.int .u64 e.k, .int .i64 e.v, .int .i64 0])) ∧ (((gs.getD e.h 0 : Nat) : Int) ≠ g → r = .returned (.tuple #[.int .u64 0, .int .i64 0, .int .i64 9])) ∧ Grn w w' := by
  have hxl := T.p.lt e.h (List.mem_map_of_mem he)
  obtain ⟨bb, hp, vg, B⟩ := T.ex
  obtain ⟨W, hW⟩ : ∃ W, w.alloc (.cells #[.int .i64 e.h, .int .i64 g] 163) = W := ⟨_, rfl⟩
  have hgW : Grn w W := by rw [← hW]; exact (Grn.refl w).alloc _
  have B1 := B.grown hgW.below
  have hu := Lib.hid (usable_in B1)
  have hg : Hid (∀ m, Calls Tryz.prog 203 #[.pointer (some ⟨hp, 0, none⟩), .int .i64 e.h] (W.drewN m) fun r w' => r = .returned (.tuple #[.int .u64 e.k, .int .i64 e.v, .int .i64 0]) ∧ ∃ k, w' = (W.drewN m).drewN k) :=
    fun m => (get_yes_in (B1.H.drew m) e he).mono fun r w' ⟨h1, _, _, h2⟩ => ⟨h1, h2⟩
  have hname : Hid (∀ m m' os, Calls Tryz.prog 200 #[.pointer (some ⟨bb, 0, none⟩), .int .i64 e.h] (grow ((W.drewN m).drewN m') os) fun r w' => r = .returned (.agg #[.int .i64 e.h, .int .i64 (gs.getD e.h 0 : Nat)]) ∧ Grn (grow ((W.drewN m).drewN m') os) w') :=
    fun m m' os => name_in (((B1.drew m).drew m').grown (fr_grow _ 0 os []|>.below (fun _ hx => by simp at hx) (Nat.le_refl _))) e.h hxl
  have ca := B1.ca
  have cb := B1.cb
  have al := B1.alt
  have bl := B1.blt
  have d0 : W.cell? ⟨w.heap.size, 0, none⟩ = some (.int .i64 e.h) := by rw [← hW]; exact cell_new w _ _ _ _ _ rfl rfl
  have d1 : W.cell? ⟨w.heap.size, 1, none⟩ = some (.int .i64 g) := by rw [← hW]; exact cell_new w _ _ _ _ _ rfl rfl
  have dl : w.heap.size < W.heap.size := by rw [← hW]; simp
  clear T B B1 hxl he
  obtain ⟨eh, ev, ek⟩ := e
  simp only at *
  generalize gs.getD eh 0 = z at *
  have HgW := Lib.hid hgW
  have HW := Lib.hid hW
  clear hgW hW
  unfold pt
  go_enter Tryz.func198, Tryz.ntmps198
  go_wp2_with fail
  rw [HW.out]
  go_wp2_with (first | (go_at_call 191; refine hu.out.mono ?_; rintro e w' ⟨rfl, rfl⟩))
  go_quiet ((go_at_call 203; refine Calls.quiet_of (hg.out _)))
  go_wp2_with fail
  obtain ⟨V, hV⟩ : ∃ V, W.drewN nq = V := ⟨_, rfl⟩
  have a0 : ∀ m os, (grow (V.drewN m) os).cell? ⟨a, 0, none⟩ = some (.pointer (some ⟨bb, 0, none⟩)) := by rw [← hV]; exact cell_grn al ca
  have a1 : ∀ m os, (grow (V.drewN m) os).cell? ⟨w.heap.size, 0, none⟩ = some (.int .i64 eh) := by rw [← hV]; exact cell_grn dl d0
  have a2 : ∀ m os, (grow (V.drewN m) os).cell? ⟨w.heap.size, 1, none⟩ = some (.int .i64 g) := by rw [← hV]; exact cell_grn dl d1
  have hn2 := hname.out nq
  have hgV : Grn w V := by rw [← hV]; exact HgW.out.drew _
  rw [hV] at hn2 ⊢
  have Hn2 := Lib.hid hn2
  have HgV := Lib.hid hgV
  have mixed : Tryz.prog.follows .mixedOrders = true := by kernel_rfl
  clear hname hn2 hgV hV ca cb d0 d1 dl
  by_cases hzg : ((z : Nat) : Int) = g
  · have q : (((z : Nat) : Int) == g) = true := by simp [hzg]
    have Hz := Lib.hid hzg
    clear hzg
    go_quiet_grown ((go_at_call 200; refine Calls.grown_of (Hn2.out _ _)))
    go_wp2_with fail
    go_ret3
    exact ⟨fun _ => rfl, fun h => absurd Hz.out h, HgV.out.trans ⟨_, _, rfl⟩⟩
  · have q : (((z : Nat) : Int) == g) = false := by simp [hzg]
    have Hz := Lib.hid hzg
    clear hzg
    go_quiet_grown ((go_at_call 200; refine Calls.grown_of (Hn2.out _ _)))
    go_wp2_with fail
    go_ret3
    exact ⟨fun h => absurd h Hz.out, fun _ => rfl, HgV.out.trans ⟨_, _, rfl⟩⟩
end Go.Proofs.YtcjeckjmoponkaaGreatDoor.Dl
/- The calls of timers that change nothing: Len, first, Next. -/
namespace Go.Proofs.YtcjeckjmoponkaaGreatDoor.Dl
open Go.RowKit Go.Sort
set_option linter.unusedVariables false
set_option linter.unusedSimpArgs false

variable {w0 w : World} {G : Nat → Prop} {a bb hp : Nat} {vg : Value} {S : List El} {gs : List Nat} {P : Nat}

theorem set4 {w : World} {b : Nat} {x0 x1 x2 x3 : Value} {t : TypeId} (h : w.heap[b]? = some (.cells #[x0, x1, x2, x3] t (0, 0))) (v0 v1 v2 v3 : Value) :
    ((((w.setCell ⟨b, 0, none⟩ v0).setCell ⟨b, 1, none⟩ v1).setCell ⟨b, 2, none⟩ v2).setCell ⟨b, 3, none⟩ v3).heap[b]? = some (.cells #[v0, v1, v2, v3] t (0, 0)) :=
  cells_set (cells_set (cells_set (cells_set h 0 v0) 1 v1) 2 v2) 3 v3
theorem set2 {w : World} {b : Nat} {x0 x1 : Value} {t : TypeId} (h : w.heap[b]? = some (.cells #[x0, x1] t (0, 0))) (v0 v1 : Value) :
    ((w.setCell ⟨b, 0, none⟩ v0).setCell ⟨b, 1, none⟩ v1).heap[b]? = some (.cells #[v0, v1] t (0, 0)) :=
  cells_set (cells_set h 0 v0) 1 v1

def noDue : Value := .agg #[.int .i64 0, .int .i64 0, .int .i64 0, .int .u64 0]
def dueV (d : Du) : Value := .agg #[.int .i64 d.n, .int .i64 d.g, .int .i64 d.o, .int .u64 d.k]

set_option maxHeartbeats 1600000 in
theorem tfirst_none (T : TmIn w0 G w a [] gs P) : Calls Tryz.prog 176 #[pt a] w fun e w' => e = .returned (.tuple #[noDue, .bool false]) ∧ Grn w w' := by
  obtain ⟨bb, hp, vg, B⟩ := T.ex
  have B1 := B.grown ((Grn.refl w).alloc (.cells #[.int .i64 0, .int .i64 0, .int .i64 0, .int .u64 0] 229)).below
  have hu := Lib.hid (usable_in B1)
  have hl := Lib.hid (top_none_in B1.H)
  have ca := B.ca
  have cb := B.cb
  have al := B.alt
  have bl := B.blt
  clear T B B1
  unfold pt noDue at *
  go_enter Tryz.func176, Tryz.ntmps176
  go_wp2_with (first | (go_at_call 191; refine hu.out.mono ?_; rintro e w' ⟨rfl, rfl⟩) | (go_at_call 202; refine hl.out.mono ?_; rintro e w' ⟨rfl, rfl⟩))
  exact bodyPost_ret (v := .tuple #[.agg #[.int .i64 0, .int .i64 0, .int .i64 0, .int .u64 0], .bool false]) (by simp [results, Tryz.results176, go_sem]) rfl ⟨rfl, (Grn.refl w).alloc _⟩

set_option maxHeartbeats 3200000 in
theorem tfirst_some (T : TmIn w0 G w a S gs P) (e : El) (he : fstE S = some e) : Calls Tryz.prog 176 #[pt a] w fun r w' => r = .returned (.tuple #[dueV (dueOf gs e), .bool true]) ∧ Grn w w' := by
  have hm := fstE_mem he
  have hxl := T.p.lt e.h (List.mem_map_of_mem hm)
  obtain ⟨bb, hp, vg, B⟩ := T.ex
  obtain ⟨W, hW⟩ : ∃ W, w.alloc (.cells #[.int .i64 0, .int .i64 0, .int .i64 0, .int .u64 0] 229) = W := ⟨_, rfl⟩
  have hgW : Grn w W := by rw [← hW]; exact (Grn.refl w).alloc _
  have B1 := B.grown hgW.below
  have hu := Lib.hid (usable_in B1)
  have hl := Lib.hid (top_some_in B1.H (x := e.h) (by rw [fstE_order, he]; rfl))
  have hg := Lib.hid ((get_yes_in B1.H e hm).mono (R' := fun r w' => r = .returned (.tuple #[.int .u64 e.k, .int .i64 e.v, .int .i64 0]) ∧ ∃ k, w' = W.drewN k) fun r w' ⟨h1, _, _, h2⟩ => ⟨h1, h2⟩)
  have ca := B1.ca
  have cb := B1.cb
  have al := B1.alt
  have bl := B1.blt
  have r0 : W.heap[w.heap.size]? = some (.cells #[.int .i64 0, .int .i64 0, .int .i64 0, .int .u64 0] 229 (0, 0)) := by rw [← hW]; exact block_new _ _ _ rfl
  have hname := Lib.hid (fun m => name_in (B1.drew m) e.h hxl)
  have HgW := Lib.hid hgW
  have HW := Lib.hid hW
  clear T B B1 hm hxl he hgW hW
  obtain ⟨eh, ev, ek⟩ := e
  simp only [dueV, dueOf] at *
  generalize gs.getD eh 0 = z at *
  unfold pt at *
  go_enter Tryz.func176, Tryz.ntmps176
  go_wp2_with fail
  rw [HW.out]
  go_wp2_with (first | (go_at_call 191; refine hu.out.mono ?_; rintro e w' ⟨rfl, rfl⟩) | (go_at_call 202; refine hl.out.mono ?_; rintro e w' ⟨rfl, rfl⟩) | (go_at_call 203; refine hg.out.mono ?_; rintro e w' ⟨rfl, k, rfl⟩) | (go_at_call 200; fail))
  refine (hname.out _).mono ?_
  rintro e w2 ⟨rfl, hg2⟩
  have hb2 := hg2.below
  have r2 : w2.heap[w.heap.size]? = some (.cells #[.int .i64 0, .int .i64 0, .int .i64 0, .int .u64 0] 229 (0, 0)) := (hb2.block _ (lt_of_block r0)).trans r0
  have f0 := cells_free r2 0
  have f1 := cells_free r2 1
  have f2 := cells_free r2 2
  have f3 := cells_free r2 3
  have c0 := cells_cell (o := 0) r2 rfl
  have c1 := cells_cell (o := 1) r2 rfl
  have c2 := cells_cell (o := 2) r2 rfl
  have c3 := cells_cell (o := 3) r2 rfl
  have Hg2 := Lib.hid hg2
  have Hr2 := Lib.hid (set4 r2 (.int .i64 eh) (.int .i64 z) (.int .i64 ev) (.int .u64 ek))
  clear hg2 hb2 r2 r0
  go_wp2_with fail
  have s0 := cells_cell (o := 0) Hr2.out rfl
  have s1 := cells_cell (o := 1) Hr2.out rfl
  have s2 := cells_cell (o := 2) Hr2.out rfl
  have s3 := cells_cell (o := 3) Hr2.out rfl
  have hfin : Grn w ((((w2.setCell ⟨w.heap.size, 0, none⟩ (.int .i64 eh)).setCell ⟨w.heap.size, 1, none⟩ (.int .i64 z)).setCell ⟨w.heap.size, 2, none⟩ (.int .i64 ev)).setCell ⟨w.heap.size, 3, none⟩ (.int .u64 ek)) :=
    ((((((HgW.out.drew k).trans Hg2.out).set ⟨w.heap.size, 0, none⟩ _ (Nat.le_refl _)).set ⟨w.heap.size, 1, none⟩ _ (Nat.le_refl _)).set ⟨w.heap.size, 2, none⟩ _ (Nat.le_refl _)).set ⟨w.heap.size, 3, none⟩ _ (Nat.le_refl _))
  generalize ((((w2.setCell ⟨w.heap.size, 0, none⟩ (.int .i64 eh)).setCell ⟨w.heap.size, 1, none⟩ (.int .i64 z)).setCell ⟨w.heap.size, 2, none⟩ (.int .i64 ev)).setCell ⟨w.heap.size, 3, none⟩ (.int .u64 ek)) = w3 at *
  exact bodyPost_ret (v := .tuple #[.agg #[.int .i64 eh, .int .i64 z, .int .i64 ev, .int .u64 ek], .bool true]) (by simp [results, Tryz.results176, go_sem, s0, s1, s2, s3]) rfl ⟨rfl, hfin⟩

def nextK (S : List El) : Int := match fstE S with
  | some e => e.k
  | none => 18446744073709551615
theorem nextK_none {S : List El} (h : fstE S = none) : nextK S = 18446744073709551615 := by unfold nextK; rw [h]
theorem nextK_some {S : List El} {e : El} (h : fstE S = some e) : nextK S = e.k := by unfold nextK; rw [h]

end Go.Proofs.YtcjeckjmoponkaaGreatDoor.Dl
/- The calls that change timers: New, Set, Reset, Stop. -/
namespace Go.Proofs.YtcjeckjmoponkaaGreatDoor.Dl
open Go.RowKit Go.Sort
set_option linter.unusedVariables false
set_option linter.unusedSimpArgs false

variable {w0 w : World} {G : Nat → Prop} {a bb hp : Nat} {vg : Value} {S : List El} {gs : List Nat} {P : Nat}

set_option maxHeartbeats 1600000 in
theorem tnew_in (w0 w : World) (G : Nat → Prop) (hG : ∀ k, G k → k < w.heap.size) (hb : Below w0.heap.size w0 w) :
    Calls Tryz.prog 87 #[] w fun e w' => ∃ a, e = .returned (pt a) ∧ TmIn w0 G w' a [] [] 0 ∧ Below w.heap.size w w' := by
  have hn := Lib.hid (new_in w0 w G hG hb)
  have HG := Lib.hid hG
  clear hG hb
  unfold pt at *
  go_enter Tryz.func87, Tryz.ntmps87
  go_wp2_with (go_at_call 147; fail)
  refine hn.out.mono ?_
  rintro e w1 ⟨hp, rfl, H, hb1⟩
  have hW : Hid (TmIn w0 G ((w1.alloc (.cells #[.pointer (some ⟨hp, 0, none⟩), .slice none 0 0] 258)).alloc (.cells #[.pointer (some ⟨w1.heap.size, 0, none⟩)] 260)) (w1.heap.size + 1) [] [] 0) := by
    have hb2 : Below w1.heap.size w1 ((w1.alloc (.cells #[.pointer (some ⟨hp, 0, none⟩), .slice none 0 0] 258)).alloc (.cells #[.pointer (some ⟨w1.heap.size, 0, none⟩)] 260)) := ((Below.refl _ _).alloc (Nat.le_refl _) _).alloc (by simp) _
    have hs1 := hb1.size
    have hs0 := H.below.size
    refine ⟨⟨w1.heap.size, hp, .slice none 0 0, ⟨H.more hb2 (fun k hk => ?_), block_new _ _ _ (by simp), ?_, World.ownsRow_nil _ _ _ _, fun h => ?_, fun h => ?_, fun g hg => by simp [Value.ownBlock] at hg, by omega, hs0, by simp⟩⟩, TmP.nil⟩
    · rcases hk with h | h | h | h
      · exact .inl h
      · subst h; exact .inr ⟨by omega, by simp⟩
      · subst h; exact .inr ⟨by omega, by simp; omega⟩
      · simp [Value.ownBlock] at h
    · exact ((Below.refl _ _).alloc (Nat.le_refl _) _ : Below _ (w1.alloc _) _).block w1.heap.size (by simp) |>.trans (block_new _ _ _ rfl)
    · have := HG.out _ h; omega
    · have := HG.out _ h; omega
  have HB : Hid (Below w.heap.size w ((w1.alloc (.cells #[.pointer (some ⟨hp, 0, none⟩), .slice none 0 0] 258)).alloc (.cells #[.pointer (some ⟨w1.heap.size, 0, none⟩)] 260))) := Lib.hid ((hb1.alloc hb1.size _).alloc (by have := hb1.size; simp; omega) _)
  clear H hb1
  go_wp2_with fail
  go_ret
  exact ⟨_, rfl, hW.out, HB.out⟩

def never : Int := 18446744073709551615

set_option maxHeartbeats 800000 in
theorem tset_never (T : TmIn w0 G w a S gs P) (o : Int) : Calls Tryz.prog 166 #[pt a, .int .u64 never, .int .i64 o] w fun e w' => e = .returned (.tuple #[.agg #[.int .i64 0, .int .i64 0], .int .i64 2]) ∧ Grn w w' := by
  obtain ⟨bb, hp, vg, B⟩ := T.ex
  have B1 := B.grown ((Grn.refl w).alloc (.cells #[.int .i64 0, .int .i64 0] 163)).below
  have hu := Lib.hid (usable_in B1)
  clear T B B1
  unfold pt never at *
  go_enter Tryz.func166, Tryz.ntmps166
  go_wp2_with (first | (go_at_call 191; refine hu.out.mono ?_; rintro e w' ⟨rfl, rfl⟩))
  exact bodyPost_ret (v := .tuple #[.agg #[.int .i64 0, .int .i64 0], .int .i64 2]) (by simp [results, Tryz.results166, go_sem]) rfl ⟨rfl, (Grn.refl w).alloc _⟩

/-- The law's own blocks, and a result's. -/
def GR (G : Nat → Prop) (r : Nat) : Nat → Prop := fun k => G k ∨ k = r
theorem TmB.res {r : Nat} (B : TmB w0 (GR G r) w a bb hp vg S gs P) (hr : w0.heap.size ≤ r) (x y : Value) : TmB w0 G ((w.setCell ⟨r, 0, none⟩ x).setCell ⟨r, 1, none⟩ y) a bb hp vg S gs P := by
  have f1 : Fr [r] w (w.setCell ⟨r, 0, none⟩ x) := fr_setCell w ⟨r, 0, none⟩ x
  have f2 : Fr [r] (w.setCell ⟨r, 0, none⟩ x) ((w.setCell ⟨r, 0, none⟩ x).setCell ⟨r, 1, none⟩ y) := fr_setCell _ ⟨r, 1, none⟩ y
  exact (B.write (f1.trans' f2) (fun k hk => by simp at hk; subst hk; exact ⟨.inr rfl, hr⟩)).less fun k h => .inl h
theorem Keep.res {r : Nat} {w w' : World} (K : Keep G w w') (hr : ¬ G r) (x y : Value) : Keep G w ((w'.setCell ⟨r, 0, none⟩ x).setCell ⟨r, 1, none⟩ y) := by
  intro k hk
  have hne : k ≠ r := fun e => hr (e ▸ hk)
  rw [Below.heap_setCell _ _ _ _ (by simpa using hne), Below.heap_setCell _ _ _ _ (by simpa using hne)]
  exact K k hk

theorem slice_form {w : World} {base e size n : Nat} {v : Value} {xs : List Value} (h : w.ownsRow base e size v n xs) : ∃ a c, v = .slice a n c := by
  rcases h.2 with ⟨rfl, rfl⟩ | ⟨g, cap, cu, rfl, _⟩
  · exact ⟨_, _, rfl⟩
  · exact ⟨_, _, rfl⟩

set_option maxRecDepth 100000 in
set_option maxHeartbeats 3200000 in
theorem tset_any (T : TmIn w0 G w a S gs P) (k o : Int) (hk : k ≠ never) (hS : S.length < 1024) (hT : Tab w0) (hP : P < 9223372036854775807) :
    Calls Tryz.prog 166 #[pt a, .int .u64 k, .int .i64 o] w fun e w' => e = .returned (.tuple #[.agg #[.int .i64 (lowOf (hsOf S)), .int .i64 (gs.getD (lowOf (hsOf S)) 0 : Nat)], .int .i64 0]) ∧
      TmIn w0 G w' a (pushS S k o) (setG gs (lowOf (hsOf S))) (P + 1) ∧ Keep G w w' := by
  have hp1 := T.p.push k o
  have hll := T.p.low_le
  have hl1 : lowOf (hsOf S) < 1024 := by have := low_le (hsOf S); simp only [hsOf, List.length_map] at this; simp only [hsOf]; omega
  have hget := setG_get gs (lowOf (hsOf S)) (lowOf (hsOf S))
  obtain ⟨bb, hp, vg, B⟩ := T.ex
  have hrG : ¬ G w.heap.size := fun h => by have := B.H.lt _ (.inl h); omega
  have hr0 : w0.heap.size ≤ w.heap.size := B.H.below.size
  obtain ⟨W, hW⟩ : ∃ W, w.alloc (.cells #[.int .i64 0, .int .i64 0] 163) = W := ⟨_, rfl⟩
  have hgW : Grn w W := by rw [← hW]; exact (Grn.refl w).alloc _
  have B1 : TmB w0 (GR G w.heap.size) W a bb hp vg S gs P := B.more hgW.below (fun j hj => by
    rcases hj with h | h
    · exact .inl h
    · subst h; exact .inr ⟨Nat.le_refl _, by rw [← hW]; simp⟩)
  have K1 : Keep G w W := fun j hj => hgW.below.block j (B.H.lt j (.inl hj))
  have hu := Lib.hid (usable_in B1)
  have hpush := Lib.hid (push_in B1.H k o hS hT hP)
  have ca := B1.ca
  have cb := B1.cb
  have al := B1.alt
  have bl := B1.blt
  have r0 : W.heap[w.heap.size]? = some (.cells #[.int .i64 0, .int .i64 0] 163 (0, 0)) := by rw [← hW]; exact block_new _ _ _ rfl
  have q : (k == 18446744073709551615) = false := by simpa [never] using hk
  have HB := Lib.hid B1
  have HK1 := Lib.hid K1
  have HW := Lib.hid hW
  have Hp1 := Lib.hid hp1
  have Hget := Lib.hid hget
  clear T B B1 hgW hW hk hS K1 hp1 hget
  generalize lowOf (hsOf S) = l at *
  obtain ⟨z, hz⟩ : ∃ z, gs.getD l 0 = z := ⟨_, rfl⟩
  have Hz := Lib.hid hz
  clear hz
  unfold pt at *
  go_enter Tryz.func166, Tryz.ntmps166
  go_wp2_with fail
  rw [HW.out]
  go_wp2_with (first | (go_at_call 191; refine hu.out.mono ?_; rintro e w' ⟨rfl, rfl⟩) | (go_at_call 199; fail))
  refine hpush.out.mono ?_
  rintro e w2 ⟨rfl, H2, K2⟩
  obtain ⟨B2, K2'⟩ := HB.out.heap H2 K2
  have r2 := (K2 w.heap.size (.inl (.inr rfl))).trans r0
  have cb2 := B2.cb
  have cg2 := B2.cg
  have bl2 := B2.blt
  have HB2 := Lib.hid B2
  have HK2 := Lib.hid (HK1.out.trans (fun j hj => K2' j (.inl hj)))
  have hgl := B2.gl
  obtain ⟨va, vc, rfl⟩ := slice_form B2.tg
  clear H2 K2 K2' B2 ca cb al r0 HB bl
  by_cases hlen : l = gs.length
  · subst hlen
    have hset : setG gs gs.length = gs ++ [0] := by unfold setG; rw [if_pos rfl]
    obtain ⟨i0, hi0, hz0, hz1, hz2⟩ := info_parts infoInt
    have fb2 := cells_free HB2.out.tb 1
    go_wp2_with (at_builtin; refine wpList_append_row _ rfl _ _ 36 rfl 3 i0 (.int .i64 0) 1 8 Tryz.underlying36 hi0 hz0 hz1 hz2 rfl (by decide) w0.heap.size (.slice va gs.length vc) gs.length (gs.map encN) rfl (HB2.out.tg.alloc _) ?c0 ⟨w2.heap.size, 0, none⟩ 1 1 [.int .i64 0] rfl rfl ?c1 ?c2 (by decide) ?c3 ?c4 ?_)
    case c0 => have := HB2.out.H.below.size; simp; omega
    case c1 => exact cell_one_new _ _ _
    case c2 => simp [Value.oneCell']
    case c3 => unfold maxLen; omega
    case c4 => omega
    intro v' w3 hown hf hnear
    have hba : Below w2.heap.size w2 (w2.alloc (.cells #[.int .i64 0] 3)) := (Below.refl _ _).alloc (Nat.le_refl _) _
    have B3 := HB2.out.grown hba
    have nb : bb ∉ (Value.slice va gs.length vc).ownBlock.toList := fun hm => B3.gbb bb (by simpa using hm) rfl
    have tb3 := hf.same B3.tb nb
    have c3 := cells_cell (o := 1) tb3 rfl
    have f3 := cells_free tb3 1
    obtain ⟨B4, K4'⟩ := B3.newG (v' := v') (gs' := gs ++ [0]) hf hnear (by simpa [encN] using hown) (by simp; omega)
    rw [hset] at Hget Hp1
    have K4 : Keep G w (w3.setCell ⟨bb, 1, none⟩ v') := (HK2.out.trans (fun j hj => hba.block j (HB2.out.H.lt j (.inl (.inl hj))))).trans (fun j hj => K4' j (.inl hj))
    have r4 := (K4' w.heap.size (.inr rfl)).trans ((hba.block _ (lt_of_block r2)).trans r2)
    obtain ⟨va', vc', rfl⟩ := slice_form hown
    have hname := Lib.hid (name_in B4 gs.length (by simp))
    rw [Hget.out, Hz.out] at hname
    have HB4 := Lib.hid B4
    have HK4 := Lib.hid K4
    have R4 := Lib.hid r4
    clear B4 K4 r4 hown hf hnear tb3 nb B3 K4' r2 hba
    go_wp2_with (go_at_call 200; fail)
    refine hname.out.mono ?_
    rintro e w5 ⟨rfl, hg5⟩
    have hb5 := hg5.below
    have B5 := Lib.hid (HB4.out.grown hb5)
    have K5 := Lib.hid (HK4.out.trans (fun j hj => hb5.block j (HB4.out.H.lt j (.inl (.inl hj)))))
    have r5 := (hb5.block _ (lt_of_block R4.out)).trans R4.out
    have f0 := cells_free r5 0
    have f1 := cells_free r5 1
    have c0 := cells_cell (o := 0) r5 rfl
    have c1 := cells_cell (o := 1) r5 rfl
    have Hr5 := Lib.hid (set2 r5 (.int .i64 gs.length) (.int .i64 z))
    clear hg5 hb5 r5
    go_wp2_with fail
    have s0 := cells_cell (o := 0) Hr5.out rfl
    have s1 := cells_cell (o := 1) Hr5.out rfl
    have hfin := B5.out.res hr0 (.int .i64 gs.length) (.int .i64 z)
    have hkeep := K5.out.res hrG (.int .i64 gs.length) (.int .i64 z)
    generalize ((w5.setCell ⟨w.heap.size, 0, none⟩ (.int .i64 gs.length)).setCell ⟨w.heap.size, 1, none⟩ (.int .i64 z)) = w6 at *
    exact bodyPost_ret (v := .tuple #[.agg #[.int .i64 gs.length, .int .i64 z], .int .i64 0]) (by simp [results, Tryz.results166, go_sem, s0, s1]) rfl ⟨by rw [Hz.out], by rw [hset]; exact ⟨⟨_, _, _, hfin⟩, Hp1.out⟩, hkeep⟩
  · have hset : setG gs l = gs := by unfold setG; rw [if_neg hlen]
    have q2 : ((l : Int) == (gs.length : Int)) = false := by simp; omega
    have hll' : l < gs.length := by omega
    rw [hset] at Hget Hp1
    have B4 := HB2.out
    have K4 := HK2.out
    have r4 := r2
    have hname := Lib.hid (name_in B4 l (by omega))
    rw [Hz.out] at hname
    have HB4 := Lib.hid B4
    have HK4 := Lib.hid K4
    have R4 := Lib.hid r4
    clear B4 K4 r4 r2
    go_wp2_with (go_at_call 200; fail)
    refine hname.out.mono ?_
    rintro e w5 ⟨rfl, hg5⟩
    have hb5 := hg5.below
    have B5 := Lib.hid (HB4.out.grown hb5)
    have K5 := Lib.hid (HK4.out.trans (fun j hj => hb5.block j (HB4.out.H.lt j (.inl (.inl hj)))))
    have r5 := (hb5.block _ (lt_of_block R4.out)).trans R4.out
    have f0 := cells_free r5 0
    have f1 := cells_free r5 1
    have c0 := cells_cell (o := 0) r5 rfl
    have c1 := cells_cell (o := 1) r5 rfl
    have Hr5 := Lib.hid (set2 r5 (.int .i64 l) (.int .i64 z))
    clear hg5 hb5 r5
    go_wp2_with fail
    have s0 := cells_cell (o := 0) Hr5.out rfl
    have s1 := cells_cell (o := 1) Hr5.out rfl
    have hfin := B5.out.res hr0 (.int .i64 l) (.int .i64 z)
    have hkeep := K5.out.res hrG (.int .i64 l) (.int .i64 z)
    generalize ((w5.setCell ⟨w.heap.size, 0, none⟩ (.int .i64 l)).setCell ⟨w.heap.size, 1, none⟩ (.int .i64 z)) = w6 at *
    exact bodyPost_ret (v := .tuple #[.agg #[.int .i64 l, .int .i64 z], .int .i64 0]) (by simp [results, Tryz.results166, go_sem, s0, s1]) rfl ⟨by rw [Hz.out], by rw [hset]; exact ⟨⟨_, _, _, hfin⟩, Hp1.out⟩, hkeep⟩
end Go.Proofs.YtcjeckjmoponkaaGreatDoor.Dl
/- Stop and Reset of timers; the body's own remove. -/
namespace Go.Proofs.YtcjeckjmoponkaaGreatDoor.Dl
open Go.RowKit Go.Sort
set_option linter.unusedVariables false
set_option linter.unusedSimpArgs false

variable {w0 w : World} {G : Nat → Prop} {a bb hp : Nat} {vg : Value} {S : List El} {gs : List Nat} {P : Nat}

set_option maxHeartbeats 1600000 in
theorem tremove_in (B : TmB w0 G w a bb hp vg S gs P) (hp' : TmP S gs P) (x : Nat) (hx : x ∈ hsOf S) (hP : P ≤ 9223372036854775807) :
    Calls Tryz.prog 177 #[.pointer (some ⟨bb, 0, none⟩), .int .i64 x] w fun e w' => e = .returned (.tuple #[]) ∧ TmB w0 G w' a bb hp vg (removeS S x) (bump gs x) P ∧ Keep G w w' := by
  have hxl := hp'.lt x hx
  have hgx := hp'.gb x
  rw [if_pos hx] at hgx
  obtain ⟨g, cap, rfl, _, hcm⟩ := row_some B.tg (by omega)
  have hr := Lib.hid (remove_yes_in B.H x hx)
  have cb := B.cb
  have hgl := B.gl
  have HB := Lib.hid B
  have h1 : (x : Int) < (gs.length : Int) := by omega
  have h2 : (0 : Int) ≤ (x : Int) := by omega
  have h3 : (gs.length : Int) ≤ 1024 := by omega
  have h4 : ((gs.getD x 0 : Nat) : Int) + 1 ≤ 9223372036854775807 := by omega
  clear B hp' hx hgx
  unfold pt at *
  go_enter Tryz.func177, Tryz.ntmps177
  go_wp2_with (go_at_call 204; fail)
  refine hr.out.mono ?_
  rintro e w2 ⟨rfl, H2, K2⟩
  obtain ⟨B2, K2'⟩ := HB.out.heap H2 K2
  have cg := B2.cg
  have hc := row_at (L := gs) (ownsRow_mono B2.tg (Nat.zero_le _)) x hxl
  have fr := World.ownsRow.frozenAt B2.tg x
  obtain ⟨B3, K3⟩ := B2.bumpG x
  have H3 := Lib.hid B3
  have HK := Lib.hid (K2'.trans K3)
  unfold encN at hc
  have f4 : (0 : Int) ≤ ((gs.getD x 0 : Nat) : Int) := by omega
  generalize gs.getD x 0 = z at *
  clear H2 K2 K2' B2 B3 K3
  go_wp2_with fail
  go_end0
  exact ⟨rfl, H3.out, HK.out⟩

theorem isT_dec (T : TmIn w0 G w a S gs P) (n g : Int) : (¬ isH S n) ∨ (∃ e ∈ S, n = e.h ∧ g ≠ (gs.getD e.h 0 : Nat)) ∨ (∃ e ∈ S, n = e.h ∧ g = (gs.getD e.h 0 : Nat)) := by
  by_cases h : isH S n
  · obtain ⟨x, rfl, hx⟩ := h
    obtain ⟨e, he, rfl⟩ := El_of hx
    by_cases hg : g = (gs.getD e.h 0 : Nat)
    · exact .inr (.inr ⟨e, he, rfl, hg⟩)
    · exact .inr (.inl ⟨e, he, rfl, hg⟩)
  · exact .inl h
theorem isT_el {S : List El} {gs : List Nat} {n g : Int} (h : isT S gs n g) : ∃ e ∈ S, n = e.h ∧ g = (gs.getD e.h 0 : Nat) := by
  obtain ⟨x, rfl, hx, hg⟩ := h
  obtain ⟨e, he, rfl⟩ := El_of hx
  exact ⟨e, he, rfl, hg⟩

/-- Get of a name that is none. -/
theorem tget_no (T : TmIn w0 G w a S gs P) (n g : Int) (hn : ¬ isT S gs n g) :
    Calls Tryz.prog 198 #[pt a, .agg #[.int .i64 n, .int .i64 g]] w fun e w' => e = .returned (.tuple #[.int .u64 0, .int .i64 0, .int .i64 9]) ∧ Grn w w' := by
  rcases isT_dec T n g with h | ⟨e, he, rfl, hg⟩ | ⟨e, he, rfl, hg⟩
  · exact tget_none T n g h
  · exact (tget_mem T e g he).mono fun r w' ⟨_, h2, h3⟩ => ⟨h2 (Ne.symm hg), h3⟩
  · exact absurd ⟨_, rfl, List.mem_map_of_mem he, hg⟩ hn
theorem tget_yes (T : TmIn w0 G w a S gs P) (e : El) (he : e ∈ S) :
    Calls Tryz.prog 198 #[pt a, .agg #[.int .i64 e.h, .int .i64 (gs.getD e.h 0 : Nat)]] w fun r w' => r = .returned (.tuple #[.int .u64 e.k, .int .i64 e.v, .int .i64 0]) ∧ Grn w w' :=
  (tget_mem T e _ he).mono fun r w' ⟨h1, _, h3⟩ => ⟨h1 rfl, h3⟩

set_option maxRecDepth 100000 in
set_option maxHeartbeats 1600000 in
theorem tstop_yes (T : TmIn w0 G w a S gs P) (e : El) (he : e ∈ S) (hP : P ≤ 9223372036854775807) :
    Calls Tryz.prog 165 #[pt a, .agg #[.int .i64 e.h, .int .i64 (gs.getD e.h 0 : Nat)]] w fun r w' => r = .returned (.int .i64 0) ∧ TmIn w0 G w' a (removeS S e.h) (bump gs e.h) P ∧ Keep G w w' := by
  obtain ⟨W, hW⟩ : ∃ W, w.alloc (.cells #[.int .i64 e.h, .int .i64 (gs.getD e.h 0 : Nat)] 163) = W := ⟨_, rfl⟩
  have hgW : Grn w W := by rw [← hW]; exact (Grn.refl w).alloc _
  have K1 := T.keep hgW.below
  have T1 := T.grown hgW.below
  have hg := Lib.hid (tget_yes T1 e he)
  have r0 : W.heap[w.heap.size]? = some (.cells #[.int .i64 e.h, .int .i64 (gs.getD e.h 0 : Nat)] 163 (0, 0)) := by rw [← hW]; exact block_new _ _ _ rfl
  have hx : Hid (e.h ∈ hsOf S) := Lib.hid (List.mem_map_of_mem he)
  have HT := Lib.hid T1
  have HK := Lib.hid K1
  have HW := Lib.hid hW
  clear T T1 K1 hgW hW he
  obtain ⟨eh, ev, ek⟩ := e
  simp only at *
  generalize gs.getD eh 0 = z at *
  unfold pt at *
  have c0 := cells_cell (o := 0) r0 rfl
  have c1 := cells_cell (o := 1) r0 rfl
  go_enter Tryz.func165, Tryz.ntmps165
  go_wp2_with fail
  rw [HW.out]
  go_wp2_with (go_at_call 198; fail)
  refine hg.out.mono ?_
  rintro e w2 ⟨rfl, hg2⟩
  have hb2 := hg2.below
  have T2 := HT.out.grown hb2
  have K2 := Lib.hid (HK.out.trans (HT.out.keep hb2))
  have r2 := (hb2.block _ (lt_of_block r0)).trans r0
  obtain ⟨bb, hp, vg, B2⟩ := T2.ex
  have d0 := cells_cell (o := 0) r2 rfl
  have ca := B2.ca
  have hrem := Lib.hid (fun m => tremove_in (B2.drew m) T2.p eh hx.out hP)
  have Hp := Lib.hid (T2.p.remove eh hx.out)
  have HT2 := Lib.hid T2
  clear T2 B2 r2 r0 c0 c1 hb2 hg2
  go_wp2_with fail
  go_still_tail 6, (by kernel_rfl)
  change wpList _ _ _ _ _ (w2.drewN 1)
  go_wp2_with (go_at_call 177; fail)
  refine (hrem.out 1).mono ?_
  rintro e w3 ⟨rfl, B3, K3⟩
  have hfin := Lib.hid (⟨⟨_, _, _, B3⟩, Hp.out⟩ : TmIn w0 G w3 a (removeS S eh) (bump gs eh) P)
  have K4 := Lib.hid (K2.out.trans (K3 : Keep G w2 w3))
  clear B3 K3
  go_wp2_with fail
  go_ret
  exact ⟨rfl, hfin.out, K4.out⟩

end Go.Proofs.YtcjeckjmoponkaaGreatDoor.Dl
/- Expire of timers. -/
namespace Go.Proofs.YtcjeckjmoponkaaGreatDoor.Dl
open Go.RowKit Go.Sort
set_option linter.unusedVariables false
set_option linter.unusedSimpArgs false

variable {w0 w : World} {G : Nat → Prop} {a bb hp : Nat} {vg : Value} {S : List El} {gs : List Nat} {P : Nat}

/-- Blocks of the law's own are written, and new ones become the law's own. -/
theorem HeapIn.grab {w' : World} {G' : Nat → Prop} {F : List Nat} (H : HeapIn w0 G w a S P) (hf : Fr F w w') (hF : ∀ k, k ∈ F → G k ∧ w0.heap.size ≤ k) (hG : ∀ k, G' k → G k ∨ (w.heap.size ≤ k ∧ k < w'.heap.size)) : HeapIn w0 G' w' a S P := by
  obtain ⟨h, ha, HA, h1, h2⟩ := H.ex
  refine ⟨⟨h, ha, HA.frame hf (fun k hk hm => h2 k hk (hF k hm).1), h1, fun k hk hg => ?_⟩, fun k hk => ?_, H.below.trans (hf.below (fun x hx => (hF x hx).2) H.below.size)⟩
  · rcases hG k hg with h' | h'
    · exact h2 k hk h'
    · have := HA.lt_foot k hk; omega
  · rcases hG k hk with h' | h'
    · exact Nat.lt_of_lt_of_le (H.lt k h') hf.size
    · exact h'.2
theorem TmB.grab {w' : World} {G' : Nat → Prop} {F : List Nat} (T : TmB w0 G w a bb hp vg S gs P) (hf : Fr F w w') (hF : ∀ k, k ∈ F → G k ∧ w0.heap.size ≤ k) (hG : ∀ k, G' k → G k ∨ (w.heap.size ≤ k ∧ k < w'.heap.size)) : TmB w0 G' w' a bb hp vg S gs P := by
  refine ⟨T.H.grab hf (fun k hk => ⟨.inl (hF k hk).1, (hF k hk).2⟩) (fun k hk => ?_), hf.same T.ta (fun h => T.na (hF _ h).1), hf.same T.tb (fun h => T.nb (hF _ h).1), hf.row T.tg (fun g hg h => T.ng g hg (hF _ h).1), fun h => ?_, fun h => ?_, fun g hg h => ?_, T.ba, T.bb0, T.gl⟩
  · rcases hk with h | h | h | h
    · rcases hG k h with h' | h'
      · exact .inl (.inl h')
      · exact .inr h'
    · exact .inl (.inr (.inl h))
    · exact .inl (.inr (.inr (.inl h)))
    · exact .inl (.inr (.inr (.inr h)))
  · rcases hG _ h with h' | h'
    · exact T.na h'
    · have := T.alt; omega
  · rcases hG _ h with h' | h'
    · exact T.nb h'
    · have := T.blt; omega
  · rcases hG _ h with h' | h'
    · exact T.ng g hg h'
    · have := (T.tg.lt g hg).2; omega
theorem TmIn.grab {w' : World} {G' : Nat → Prop} {F : List Nat} (T : TmIn w0 G w a S gs P) (hf : Fr F w w') (hF : ∀ k, k ∈ F → G k ∧ w0.heap.size ≤ k) (hG : ∀ k, G' k → G k ∨ (w.heap.size ≤ k ∧ k < w'.heap.size)) : TmIn w0 G' w' a S gs P := by
  obtain ⟨_, _, _, B⟩ := T.ex
  exact ⟨⟨_, _, _, B.grab hf hF hG⟩, T.p⟩

/-- A slice of timers that have expired. -/
def cellsD : List Du → List Value
  | [] => []
  | d :: D => .int .i64 d.n :: .int .i64 d.g :: .int .i64 d.o :: .int .u64 d.k :: cellsD D
theorem cellsD_append : ∀ (S T : List Du), cellsD (S ++ T) = cellsD S ++ cellsD T
  | [], T => rfl
  | e :: S, T => by show _ :: _ :: _ :: _ :: cellsD (S ++ T) = _; rw [cellsD_append S T]; rfl
theorem cellsD_get : ∀ (S : List Du) (j : Nat) (e : Du), S[j]? = some e → (cellsD S)[j * 4]? = some (.int .i64 e.n) ∧ (cellsD S)[j * 4 + 1]? = some (.int .i64 e.g) ∧ (cellsD S)[j * 4 + 2]? = some (.int .i64 e.o) ∧ (cellsD S)[j * 4 + 3]? = some (.int .u64 e.k)
  | [], j, e, h => by simp at h
  | x :: S, 0, e, h => by simp at h; subst h; exact ⟨rfl, rfl, rfl, rfl⟩
  | x :: S, j + 1, e, h => by
    have := cellsD_get S j e (by simpa using h)
    rw [show (j + 1) * 4 = j * 4 + 1 + 1 + 1 + 1 by omega]
    simpa [cellsD] using this

def RowD (w : World) (base : Nat) (s : Value) (D : List Du) : Prop := w.ownsRow base 229 4 s D.length (cellsD D)
theorem RowD.cells {w : World} {base n cap g : Nat} {D : List Du} (h : RowD w base (.slice (some ⟨g, 0, none⟩) n cap) D) (j : Nat) (e : Du) (hj : D[j]? = some e) :
    w.cell? ⟨g, j * 4, none⟩ = some (.int .i64 e.n) ∧ w.cell? ⟨g, j * 4 + 1, none⟩ = some (.int .i64 e.g) ∧ w.cell? ⟨g, j * 4 + 2, none⟩ = some (.int .i64 e.o) ∧ w.cell? ⟨g, j * 4 + 3, none⟩ = some (.int .u64 e.k) := by
  have hn : n = D.length := by
    rcases h.2 with ⟨h', _⟩ | ⟨_, _, _, h', _⟩
    · simp at h'
    · simp at h'; exact h'.2.1
  subst hn
  have hr := row_cells h
  obtain ⟨h0, h1, h2, h3⟩ := cellsD_get D j e hj
  have a0 := hr _ _ h0
  have a1 := hr _ _ h1
  have a2 := hr _ _ h2
  have a3 := hr _ _ h3
  rw [Go.WideShapes.add_plain, Nat.zero_add] at a0 a1 a2 a3
  exact ⟨a0, a1, a2, a3⟩
theorem RowD.below {w w' : World} {base : Nat} {s : Value} {D : List Du} (h : RowD w base s D) (hb : Below w.heap.size w w') : RowD w' base s D := (Fr.of_below hb []).row h (fun _ _ => by simp)
theorem RowD.keep {w w' : World} {base : Nat} {s : Value} {D : List Du} (h : RowD w base s D) (hk : ∀ g, s.ownBlock = some g → w'.heap[g]? = w.heap[g]?) : RowD w' base s D := by
  refine ⟨h.1, ?_⟩
  rcases h.2 with h' | ⟨g, cap, cur, rfl, hb, hg, r⟩
  · exact .inl h'
  · exact .inr ⟨g, cap, cur, rfl, hb, (hk g rfl).trans hg, r⟩
theorem RowD.mono {w : World} {base base' : Nat} {s : Value} {D : List Du} (h : RowD w base s D) (hb : base' ≤ base) : RowD w base' s D := ownsRow_mono h hb
theorem infoDue : (Tryz.prog.info? 229).map (fun i => (i.zero, i.size, i.bytes)) = some (some (.agg #[.int .i64 0, .int .i64 0, .int .i64 0, .int .u64 0]), 4, 32) := by kernel_rfl

set_option maxHeartbeats 400000 in
theorem passed_yes (k now : Int) (h : k ≤ now) (hn : now ≠ never) (w : World) : Calls Tryz.prog 169 #[.int .u64 k, .int .u64 now] w fun e w' => e = .returned (.bool true) ∧ w = w' := by
  have q : (now != 18446744073709551615) = true := by simpa [never] using hn
  clear hn
  go_enter Tryz.func169, Tryz.ntmps169
  go_wp2_with fail
  go_ret
  exact ⟨rfl, rfl⟩
set_option maxHeartbeats 400000 in
theorem passed_no (k now : Int) (h : ¬ (k ≤ now ∧ now ≠ never)) (w : World) : Calls Tryz.prog 169 #[.int .u64 k, .int .u64 now] w fun e w' => e = .returned (.bool false) ∧ w = w' := by
  by_cases hn : now = never
  · have q : (now != 18446744073709551615) = false := by simp [hn, never]
    clear hn h
    go_enter Tryz.func169, Tryz.ntmps169
    go_wp2_with fail
    go_ret
    exact ⟨rfl, rfl⟩
  · have q : (now != 18446744073709551615) = true := by simpa [never] using hn
    have q2 : now < k := by by_cases hk : k ≤ now; exact absurd ⟨hk, hn⟩ h; omega
    have q3 : decide (k ≤ now) = false := by simp; omega
    clear hn h
    go_enter Tryz.func169, Tryz.ntmps169
    go_wp2_with fail
    go_ret
    exact ⟨rfl, rfl⟩

/-- The law's own blocks, and a slice's. -/
def GV (G : Nat → Prop) (v : Value) : Nat → Prop := fun k => G k ∨ v.ownBlock = some k

/-- Between two rounds of Expire. -/
structure ExpR (w0 : World) (G : Nat → Prop) (w : World) (a : Nat) (S : List El) (gs : List Nat) (P : Nat) (now : Int) (wr : World) (v : Value) (S1 : List El) (gs1 : List Nat) (D1 : List Du) : Prop where
  T : TmIn w0 (GV G v) wr a S1 gs1 P
  row : RowD wr w.heap.size v D1
  out : D1 ++ (expS now S1 gs1).1 = (expS now S gs).1
  rest : (expS now S1 gs1).2 = (expS now S gs).2
  keep : Keep G w wr
  sz : w.heap.size ≤ wr.heap.size
  nil : D1 = [] → v = .slice none 0 0

set_option maxRecDepth 100000 in
set_option maxHeartbeats 3200000 in
theorem texpire_any (T : TmIn w0 G w a S gs P) (now : Int) (hn : now ≠ never) (hP : P ≤ 9223372036854775807) :
    Calls Tryz.prog 123 #[pt a, .int .u64 now] w fun e w' => ∃ v, e = .returned v ∧ RowD w' w.heap.size v (expS now S gs).1 ∧ TmIn w0 (GV G v) w' a (expS now S gs).2.1 (expS now S gs).2.2 P ∧ Keep G w w' ∧ ((expS now S gs).1 = [] → v = .slice none 0 0) ∧ w.heap.size ≤ w'.heap.size := by
  have hS0 := T.len_le
  have hb0 := T.below.size
  have hlen := (expS_len S.length now S gs rfl).1
  have hGw := Lib.hid T.glt
  have hst : ExpR w0 G w a S gs P now w (.slice none 0 0) S gs [] := ⟨T.less (fun k hk => by
    rcases hk with h | h
    · exact h
    · simp [Value.ownBlock] at h), World.ownsRow_nil _ _ _ _, rfl, rfl, Keep.refl _ _, Nat.le_refl _, fun _ => rfl⟩
  have HST := Lib.hid hst
  clear hst T
  obtain ⟨i0, hi0, hz0, hz1, hz2⟩ := info_parts infoDue
  unfold pt
  go_enter Tryz.func123, Tryz.ntmps123
  go_wp2_with fail
  go_loopg [5] S.length (fun m v wr => ∃ S1 gs1 D1, S1.length = m ∧ ExpR w0 G w a S gs P now wr v S1 gs1 D1)
  case atStart => exact ⟨S, gs, [], rfl, HST.out⟩
  case round =>
    clear HST
    obtain ⟨S1, gs1, D1, rfl, R⟩ := hrel
    cases hf : fstE S1 with
    | none =>
      obtain rfl := fstE_none hf
      have h1 := Lib.hid (tfirst_none R.T)
      have HR := Lib.hid R
      clear R hf
      unfold pt noDue at h1
      go_wp2_with (go_at_call 176; fail)
      refine h1.out.mono ?_
      rintro e w2 ⟨rfl, hg2⟩
      have hb2 := hg2.below
      have hfin : Hid (TmIn w0 (GV G u5) w2 a [] gs1 P ∧ RowD w2 w.heap.size u5 D1 ∧ Keep G w w2) := Lib.hid ⟨HR.out.T.grown hb2, HR.out.row.below hb2, HR.out.keep.trans (fun k hk => hb2.block k (HR.out.T.glt k (.inl hk)))⟩
      have ho := HR.out.out
      have hre := HR.out.rest
      have hni := Lib.hid HR.out.nil
      have hsz := Lib.hid (Nat.le_trans HR.out.sz hb2.size)
      rw [expS_none fstE_nil] at ho hre
      simp only [List.append_nil] at ho
      have Ho := Lib.hid ho
      have Hre := Lib.hid hre
      have hal := Lib.hid (fun o => (Below.refl w2.heap.size w2).alloc (Nat.le_refl _) o)
      clear ho hre hb2 hg2 HR
      go_wp2_with fail
      go_ret
      obtain ⟨t1, t2, t3⟩ := hfin.out
      rw [← Hre.out, ← Ho.out]
      exact ⟨_, rfl, t2.below (hal.out _), t1.grown (hal.out _), t3.trans (fun k hk => (hal.out _).block k (t1.glt k (.inl hk))), hni.out, Nat.le_trans hsz.out (hal.out _).size⟩
    | some e =>
      have hm := fstE_mem hf
      have h1 := Lib.hid (tfirst_some R.T e hf)
      have HR := Lib.hid R
      clear R
      unfold pt dueV dueOf at h1
      by_cases hk : e.k ≤ now
      · have hdue := expS_due (gs := gs1) hf hk
        have hlt := remove_lt hm
        have hx : Hid (e.h ∈ hsOf S1) := Lib.hid (List.mem_map_of_mem hm)
        have hps := Lib.hid (fun w => passed_yes e.k now hk hn w)
        have hd : Hid (dueOf gs1 e = ⟨e.h, gs1.getD e.h 0, e.v, e.k⟩) := rfl
        have Hdue := Lib.hid hdue
        have Hlt := Lib.hid hlt
        clear hdue hlt hk hf hm
        obtain ⟨eh, ev, ek⟩ := e
        simp only at h1 hx hps hd
        generalize gs1.getD eh 0 = z at *
        go_wp2_with (go_at_call 176; fail)
        refine h1.out.mono ?_
        rintro e w2 ⟨rfl, hg2⟩
        have hb2 := hg2.below
        obtain ⟨va, vc, rfl⟩ := slice_form HR.out.row
        obtain ⟨O, hO⟩ : ∃ O : Obj, O = .cells #[.int .i64 eh, .int .i64 z, .int .i64 ev, .int .u64 ek] 229 := ⟨_, rfl⟩
        have hbA : Below wr.heap.size wr (w2.alloc O) := hb2.alloc hb2.size _
        have T2 : TmIn w0 (GR (GV G (.slice va D1.length vc)) w2.heap.size) (w2.alloc O) a S1 gs1 P := HR.out.T.more hbA (fun k hk => by
          rcases hk with h | h
          · exact .inl h
          · subst h; exact .inr ⟨hb2.size, by simp⟩)
        have row2 := HR.out.row.below hbA
        have keep2 : Keep G w (w2.alloc O) := HR.out.keep.trans (fun k hk => hbA.block k (HR.out.T.glt k (.inl hk)))
        have r0 : (w2.alloc O).heap[w2.heap.size]? = some O := block_new _ _ _ rfl
        obtain ⟨bb, hp, vg, B2⟩ := T2.ex
        have ca := B2.ca
        have hrem := Lib.hid (tremove_in (B2.drew 1) T2.p eh hx.out hP)
        have Hp := Lib.hid (T2.p.remove eh hx.out)
        have hw2 : w.heap.size ≤ w2.heap.size := Nat.le_trans HR.out.sz hb2.size
        have hT2 := Lib.hid T2
        have Hrow2 := Lib.hid row2
        have Hkeep2 := Lib.hid keep2
        have Hr0 := Lib.hid r0
        have HbA := Lib.hid hbA
        have HO := Lib.hid hO
        subst hO
        clear T2 B2 row2 keep2 r0 hbA hb2 hg2
        go_wp2_with (go_at_call 169; refine (hps.out _).mono ?_; rintro e w3 ⟨rfl, rfl⟩)
        have rl : w2.heap.size < (w2.alloc (.cells #[.int .i64 eh, .int .i64 z, .int .i64 ev, .int .u64 ek] 229)).heap.size := by simp
        generalize w2.alloc (.cells #[.int .i64 eh, .int .i64 z, .int .i64 ev, .int .u64 ek] 229) = W at *
        generalize w2.heap.size = r at *
        have d0 := cells_cell (o := 0) Hr0.out rfl
        simp only [List.getElem_toArray, List.getElem_cons_zero] at d0
        go_still_tail 7, (by kernel_rfl)
        change wpList _ _ _ _ _ (W.drewN 1)
        go_wp2_with (go_at_call 177; fail)
        refine hrem.out.mono ?_
        rintro e w3 ⟨rfl, B3, K3⟩
        have hB3 := Lib.hid B3
        have hr3 : w3.heap[r]? = some (.cells #[.int .i64 eh, .int .i64 z, .int .i64 ev, .int .u64 ek] 229 (0, 0)) := (K3 r (.inr rfl)).trans Hr0.out
        have hrow3 := Hrow2.out.keep (fun g hg => K3 g (.inl (.inr hg)))
        have hkeep3 : Keep G w w3 := Hkeep2.out.trans (fun k hk => K3 k (.inl (.inl hk)))
        have c0 := cells_cell (o := 0) hr3 rfl
        have c1 := cells_cell (o := 1) hr3 rfl
        have c2 := cells_cell (o := 2) hr3 rfl
        have c3 := cells_cell (o := 3) hr3 rfl
        simp only [List.getElem_toArray, List.getElem_cons_zero, List.getElem_cons_succ] at c0 c1 c2 c3
        have Hrow3 := Lib.hid hrow3
        have Hkeep3 := Lib.hid hkeep3
        have hDl : Hid (D1.length ≤ 1024) := Lib.hid (by
          have := congrArg List.length HR.out.out
          simp only [List.length_append] at this
          omega)
        clear B3 K3 hrow3 hkeep3 ca d0 hr3 rl
        go_wp2_with (at_builtin; refine wpList_append_row _ rfl _ _ 226 rfl 229 i0 (.agg #[.int .i64 0, .int .i64 0, .int .i64 0, .int .u64 0]) 4 32 Tryz.underlying226 hi0 hz0 hz1 hz2 rfl (by decide) w.heap.size (.slice va D1.length vc) D1.length (cellsD D1) rfl (Hrow3.out.alloc _) ?c0 ⟨w3.heap.size, 0, none⟩ 1 1 [.int .i64 eh, .int .i64 z, .int .i64 ev, .int .u64 ek] rfl rfl ?c1 ?c2 (by decide) ?c3 ?c4 ?_)
        case c0 => have := Hrow3.out.lt; have := hB3.out.H.lt r (.inl (.inr rfl)); simp; omega
        case c1 => exact new_cells4 w3 _ _ _ _ _
        case c2 => simp [Value.oneCell']
        case c3 => have := hDl.out; unfold maxLen; omega
        case c4 => have := hDl.out; omega
        intro v' w4 hown hf hnear
        have hba : Below w3.heap.size w3 (w3.alloc (.cells #[.int .i64 eh, .int .i64 z, .int .i64 ev, .int .u64 ek] 229)) := (Below.refl _ _).alloc (Nat.le_refl _) _
        have T3 := (⟨⟨_, _, _, hB3.out⟩, Hp.out⟩ : TmIn w0 _ w3 a (removeS S1 eh) (bump gs1 eh) P).grown hba
        have hFv : ∀ k, k ∈ (Value.slice va D1.length vc).ownBlock.toList → w.heap.size ≤ k := fun k hk => (Hrow3.out.lt k (by simpa using hk)).1
        have T4 : TmIn w0 (GV G v') w4 a (removeS S1 eh) (bump gs1 eh) P := T3.grab hf (fun k hk => ⟨.inl (.inr (by simpa using hk)), Nat.le_trans hb0 (hFv k hk)⟩) (fun k hk => by
          rcases hk with h | h
          · exact .inl (.inl (.inl h))
          · rcases hnear k h with h' | h'
            · exact .inl (.inl (.inr h'))
            · exact .inr ⟨h', (hown.lt k h).2⟩)
        have hkeep4 : Keep G w w4 := Hkeep3.out.trans (fun k hk => (hf.block k (Nat.lt_of_lt_of_le (hB3.out.H.lt k (.inl (.inl (.inl hk)))) hba.size) (fun hm => by have := hFv k hm; have := hGw.out k hk; omega)).trans (hba.block k (hB3.out.H.lt k (.inl (.inl (.inl hk))))))
        have hsz4 : w.heap.size ≤ w4.heap.size := by
          have h1 := hf.size
          have h2 := hba.size
          have h3 := hB3.out.H.lt r (.inl (.inr rfl))
          omega
        have ho := HR.out.out
        have hre := HR.out.rest
        rw [Hdue.out] at ho hre
        simp only at ho hre
        rw [hd.out] at ho
        have hrow4 : RowD w4 w.heap.size v' (D1 ++ [⟨eh, z, ev, ek⟩]) := by
          unfold RowD
          rw [cellsD_append]
          simpa [cellsD] using hown
        have hR4 : Hid (ExpR w0 G w a S gs P now w4 v' (removeS S1 eh) (bump gs1 eh) (D1 ++ [⟨eh, z, ev, ek⟩])) := Lib.hid ⟨T4, hrow4, by rw [← ho]; simp, hre, hkeep4, hsz4, fun h => by simp at h⟩
        clear T3 T4 hown hf hnear hrow4 hkeep4 ho hre hba hB3 HR Hrow3 Hkeep3
        go_wp2_with fail
        go_roundg (removeS S1 eh).length
        case measure => exact Hlt.out
        case rel => exact ⟨_, _, _, rfl, hR4.out⟩
      · have hlate := expS_late (gs := gs1) hf hk
        have hps := Lib.hid (fun w => passed_no e.k now (fun h => hk h.1) w)
        clear hk hf hm
        generalize gs1.getD e.h 0 = z at *
        generalize e.h = eh at *
        generalize e.v = ev at *
        generalize e.k = ek at *
        go_wp2_with (go_at_call 176; fail)
        refine h1.out.mono ?_
        rintro e w2 ⟨rfl, hg2⟩
        have hb2 := hg2.below
        have hfin : Hid (TmIn w0 (GV G u5) w2 a S1 gs1 P ∧ RowD w2 w.heap.size u5 D1 ∧ Keep G w w2) := Lib.hid ⟨HR.out.T.grown hb2, HR.out.row.below hb2, HR.out.keep.trans (fun k hk => hb2.block k (HR.out.T.glt k (.inl hk)))⟩
        have ho := HR.out.out
        have hre := HR.out.rest
        have hni := Lib.hid HR.out.nil
        have hsz := Lib.hid (Nat.le_trans HR.out.sz hb2.size)
        rw [hlate] at ho hre
        simp only [List.append_nil] at ho
        have Ho := Lib.hid ho
        have Hre := Lib.hid hre
        have hal := Lib.hid (fun o => (Below.refl w2.heap.size w2).alloc (Nat.le_refl _) o)
        clear ho hre hb2 hg2 HR hlate
        go_wp2_with (go_at_call 169; refine (hps.out _).mono ?_; rintro e w3 ⟨rfl, rfl⟩)
        go_ret
        obtain ⟨t1, t2, t3⟩ := hfin.out
        rw [← Hre.out, ← Ho.out]
        exact ⟨_, rfl, t2.below (hal.out _), t1.grown (hal.out _), t3.trans (fun k hk => (hal.out _).block k (t1.glt k (.inl hk))), hni.out, Nat.le_trans hsz.out (hal.out _).size⟩
end Go.Proofs.YtcjeckjmoponkaaGreatDoor.Dl
/- Expire at Never; equal slices of timers that have expired; Copy. -/
namespace Go.Proofs.YtcjeckjmoponkaaGreatDoor.Dl
open Go.RowKit Go.Sort
set_option linter.unusedVariables false
set_option linter.unusedSimpArgs false

variable {w0 w : World} {G : Nat → Prop} {a bb hp : Nat} {vg : Value} {S : List El} {gs : List Nat} {P : Nat}

/-- What a heap's blocks hold is all that counts. -/
theorem HeapAt.keepAll {w w' : World} {h : Hp} {S : List El} {P : Nat} (H : HeapAt w h S P) (ho : w'.os = w.os) (ht : w'.tape = w.tape) (hp : w'.output = w.output) (hs : w.heap.size ≤ w'.heap.size) (hk : ∀ k, k ∈ h.foot → w'.heap[k]? = w.heap[k]?) : HeapAt w' h S P := by
  have hf : Fr ((List.range w.heap.size).filter fun k => decide (k ∉ h.foot)) w w' := by
    refine ⟨ho, ht, hp, hs, fun k hk' hn => hk k ?_⟩
    simp only [List.mem_filter, List.mem_range, decide_eq_true_eq, not_and, Classical.not_not] at hn
    exact hn hk'
  exact H.frame hf (fun k hk' hm => by
    simp only [List.mem_filter, List.mem_range, decide_eq_true_eq] at hm
    exact hm.2 hk')

/-- Timers' own blocks: whatever else the world does. -/
theorem TmIn.foot (T : TmIn w0 G w a S gs P) : ∃ F : Nat → Prop, (∀ k, F k → w0.heap.size ≤ k ∧ k < w.heap.size ∧ ¬ G k) ∧
    ∀ (w0' : World) (G' : Nat → Prop) (w' : World), w'.os = w.os → w'.tape = w.tape → w'.output = w.output → w.heap.size ≤ w'.heap.size → (∀ k, F k → w'.heap[k]? = w.heap[k]?) → Below w0'.heap.size w0' w' →
      (∀ k, F k → w0'.heap.size ≤ k ∧ ¬ G' k) → (∀ k, G' k → k < w'.heap.size) → TmIn w0' G' w' a S gs P := by
  obtain ⟨bb, hp, vg, B⟩ := T.ex
  obtain ⟨h, hha, HA, h1, h2⟩ := B.H.ex
  refine ⟨fun k => k ∈ h.foot ∨ k = a ∨ k = bb ∨ vg.ownBlock = some k, fun k hk => ?_, fun w0' G' w' ho ht hp' hs hk hb hF hG => ?_⟩
  · rcases hk with hk | rfl | rfl | hk
    · exact ⟨h1 k hk, HA.lt_foot k hk, fun hg => h2 k hk (.inl hg)⟩
    · exact ⟨B.ba, B.alt, B.na⟩
    · exact ⟨B.bb0, B.blt, B.nb⟩
    · exact ⟨(B.tg.lt k hk).1, (B.tg.lt k hk).2, B.ng k hk⟩
  · refine ⟨⟨bb, hp, vg, ⟨⟨⟨h, hha, HA.keepAll ho ht hp' hs (fun k hk' => hk k (.inl hk')), fun k hk' => (hF k (.inl hk')).1, fun k hk' hg => ?_⟩, fun k hk' => ?_, hb⟩, (hk a (.inr (.inl rfl))).trans B.ta, (hk bb (.inr (.inr (.inl rfl)))).trans B.tb, ?_, (hF a (.inr (.inl rfl))).2, (hF bb (.inr (.inr (.inl rfl)))).2, fun g hg => (hF g (.inr (.inr (.inr hg)))).2, (hF a (.inr (.inl rfl))).1, (hF bb (.inr (.inr (.inl rfl)))).1, B.gl⟩⟩, T.p⟩
    · rcases hg with hg | rfl | rfl | hg
      · exact (hF k (.inl hk')).2 hg
      · exact h2 _ hk' (.inr (.inl rfl))
      · exact h2 _ hk' (.inr (.inr (.inl rfl)))
      · exact h2 _ hk' (.inr (.inr (.inr hg)))
    · rcases hk' with hg | rfl | rfl | hg
      · exact hG k hg
      · exact Nat.lt_of_lt_of_le B.alt hs
      · exact Nat.lt_of_lt_of_le B.blt hs
      · exact Nat.lt_of_lt_of_le (B.tg.lt k hg).2 hs
    · refine ⟨B.tg.1, ?_⟩
      rcases B.tg.2 with h' | ⟨g, cap, cur, rfl, hbg, hg, r⟩
      · exact .inl h'
      · exact .inr ⟨g, cap, cur, rfl, (hF g (.inr (.inr (.inr rfl)))).1, (hk g (.inr (.inr (.inr rfl)))).trans hg, r⟩

end Go.Proofs.YtcjeckjmoponkaaGreatDoor.Dl
