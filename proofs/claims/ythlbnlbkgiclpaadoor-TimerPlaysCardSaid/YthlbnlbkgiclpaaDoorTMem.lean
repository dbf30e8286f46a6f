/- Timers in memory: a heap, and how often each number was given back. -/
import Derived.Test.YthlbnlbkgiclpaaDoorTPure
import Derived.Test.YthlbnlbkgiclpaaDoorLLow
namespace Go.Proofs.YthlbnlbkgiclpaaDoor
open Go.RowKit Go.Sort
set_option linter.unusedVariables false
set_option linter.unusedSimpArgs false

/-- The blocks that the heap of timers leaves alone: the law's own, and the timers' other ones. -/
def TG (G : Nat → Prop) (a bb : Nat) (vg : Value) : Nat → Prop := fun k => G k ∨ k = a ∨ k = bb ∨ vg.ownBlock = some k

theorem below_cell {w0 w : World} {b : Nat} (h : Below w0.heap.size w0 w) (hb : w0.heap.size ≤ b) (j : Nat) (u : Value) : Below w0.heap.size w0 (w.setCell ⟨b, j, none⟩ u) := by
  have hf : Fr [b] w (w.setCell ⟨b, j, none⟩ u) := fr_setCell w ⟨b, j, none⟩ u
  exact h.trans (hf.below (fun x hx => by simp at hx; subst hx; exact hb) h.size)

structure TmB (w0 : World) (G : Nat → Prop) (w : World) (a bb hp : Nat) (vg : Value) (S : List El) (gs : List Nat) (P : Nat) : Prop where
  H : HeapIn w0 (TG G a bb vg) w hp S P
  ta : w.heap[a]? = some (.cells #[pt bb] 114 (0, 0))
  tb : w.heap[bb]? = some (.cells #[pt hp, vg] 112 (0, 0))
  tg : w.ownsRow w0.heap.size 3 1 vg gs.length (gs.map encN)
  na : ¬ G a
  nb : ¬ G bb
  ng : ∀ g, vg.ownBlock = some g → ¬ G g
  ba : w0.heap.size ≤ a
  bb0 : w0.heap.size ≤ bb
  gl : gs.length ≤ 1024

/-- What holds of elements and generations alone. -/
structure TmP (S : List El) (gs : List Nat) (P : Nat) : Prop where
  lt : ∀ x, x ∈ hsOf S → x < gs.length
  gb : ∀ x, gs.getD x 0 + (if x ∈ hsOf S then 1 else 0) ≤ P

def setG (gs : List Nat) (l : Nat) : List Nat := if l = gs.length then gs ++ [0] else gs
theorem setG_get (gs : List Nat) (l x : Nat) : (setG gs l).getD x 0 = gs.getD x 0 := by
  unfold setG
  by_cases h : l = gs.length
  · rw [if_pos h]
    simp only [List.getD_eq_getElem?_getD]
    by_cases hx : x < gs.length
    · rw [List.getElem?_append_left hx]
    · rw [List.getElem?_append_right (by omega), List.getElem?_eq_none (l := gs) (by omega)]
      cases hk : x - gs.length with
      | zero => simp
      | succ k => simp
  · rw [if_neg h]
theorem TmP.nil : TmP [] [] 0 := ⟨by simp [hsOf], by simp [hsOf]⟩
theorem TmP.low_le {S : List El} {gs : List Nat} {P : Nat} (h : TmP S gs P) : lowOf (hsOf S) ≤ gs.length := by
  obtain ⟨l, h1, h2, _⟩ := low_ex (hsOf S)
  rw [lowOf_eq h1 h2]
  refine Classical.byContradiction fun hn => ?_
  have := h.lt _ (h2 gs.length (by omega))
  omega
theorem TmP.push {S : List El} {gs : List Nat} {P : Nat} (h : TmP S gs P) (k v : Int) : TmP (pushS S k v) (setG gs (lowOf (hsOf S))) (P + 1) := by
  have hl := h.low_le
  refine ⟨fun x hx => ?_, fun x => ?_⟩
  · rw [hs_push] at hx
    have hx' : x ≤ gs.length ∧ (x < gs.length ∨ x = lowOf (hsOf S)) := by
      rcases List.mem_append.1 hx with hx | hx
      · have := h.lt x hx; exact ⟨by omega, .inl this⟩
      · simp at hx; exact ⟨by omega, .inr hx⟩
    unfold setG
    split
    · simp; omega
    · rename_i hne
      rcases hx'.2 with h' | h'
      · exact h'
      · rw [h'] at hx' ⊢; omega
  · rw [setG_get, hs_push]
    have hg := h.gb x
    by_cases h1 : x ∈ hsOf S
    · rw [if_pos h1] at hg
      rw [if_pos (List.mem_append_left _ h1)]; omega
    · rw [if_neg h1] at hg
      split <;> omega
theorem TmP.remove {S : List El} {gs : List Nat} {P : Nat} (h : TmP S gs P) (x : Nat) (hx : x ∈ hsOf S) : TmP (removeS S x) (bump gs x) P := by
  have hxl := h.lt x hx
  refine ⟨fun y hy => ?_, fun y => ?_⟩
  · rw [hs_remove] at hy
    rw [bump_len]
    exact h.lt y (List.mem_filter.1 hy).1
  · rw [bump_get gs x y hxl, hs_remove]
    have hg := h.gb y
    by_cases hy : y = x
    · subst hy
      rw [if_pos hx] at hg
      rw [if_pos rfl, if_neg (by simp)]
      exact hg
    · rw [if_neg hy]
      have : (y ∈ (hsOf S).filter fun x_1 => decide (x_1 ≠ x)) ↔ y ∈ hsOf S := by simp [hy]
      by_cases h1 : y ∈ hsOf S
      · rw [if_pos h1] at hg; rw [if_pos (this.2 h1)]; omega
      · rw [if_neg (fun q => h1 (this.1 q))]; omega
theorem TmP.change {S : List El} {gs : List Nat} {P : Nat} (h : TmP S gs P) (x : Nat) (k : Int) : TmP (changeS S x k) gs P := ⟨by rw [hs_change]; exact h.lt, by rw [hs_change]; exact h.gb⟩
theorem TmP.mono {S : List El} {gs : List Nat} {P Q : Nat} (h : TmP S gs P) (hq : P ≤ Q) : TmP S gs Q := ⟨h.lt, fun x => Nat.le_trans (h.gb x) hq⟩

/-- Timers at block a, made since w0; their elements are S, and gs says how often each number was given back. -/
structure TmIn (w0 : World) (G : Nat → Prop) (w : World) (a : Nat) (S : List El) (gs : List Nat) (P : Nat) : Prop where
  ex : ∃ bb hp vg, TmB w0 G w a bb hp vg S gs P
  p : TmP S gs P

namespace TmB
variable {w0 w : World} {G : Nat → Prop} {a bb hp : Nat} {vg : Value} {S : List El} {gs : List Nat} {P : Nat}

theorem ca (T : TmB w0 G w a bb hp vg S gs P) : w.cell? ⟨a, 0, none⟩ = some (.pointer (some ⟨bb, 0, none⟩)) := cells_cell T.ta rfl
theorem cb (T : TmB w0 G w a bb hp vg S gs P) : w.cell? ⟨bb, 0, none⟩ = some (.pointer (some ⟨hp, 0, none⟩)) := cells_cell T.tb rfl
theorem cg (T : TmB w0 G w a bb hp vg S gs P) : w.cell? ⟨bb, 1, none⟩ = some vg := cells_cell T.tb rfl
theorem ne (T : TmB w0 G w a bb hp vg S gs P) : a ≠ bb := BodAt.ne_types T.ta T.tb (by decide)
theorem ga (T : TmB w0 G w a bb hp vg S gs P) : ∀ g, vg.ownBlock = some g → g ≠ a := BodAt.row_ne T.tg T.ta (by decide)
theorem gbb (T : TmB w0 G w a bb hp vg S gs P) : ∀ g, vg.ownBlock = some g → g ≠ bb := BodAt.row_ne T.tg T.tb (by decide)
theorem alt (T : TmB w0 G w a bb hp vg S gs P) : a < w.heap.size := lt_of_block T.ta
theorem blt (T : TmB w0 G w a bb hp vg S gs P) : bb < w.heap.size := lt_of_block T.tb

/-- The world has grown; the law's own blocks may be new ones, too. -/
theorem more {w' : World} {G' : Nat → Prop} (T : TmB w0 G w a bb hp vg S gs P) (hb : Below w.heap.size w w') (hG : ∀ k, G' k → G k ∨ (w.heap.size ≤ k ∧ k < w'.heap.size)) : TmB w0 G' w' a bb hp vg S gs P := by
  refine ⟨T.H.more hb (fun k hk => ?_), (hb.block a T.alt).trans T.ta, (hb.block bb T.blt).trans T.tb, (Fr.of_below hb []).row T.tg (fun _ _ => by simp), fun h => ?_, fun h => ?_, fun g hg h => ?_, T.ba, T.bb0, T.gl⟩
  · rcases hk with h | h | h | h
    · rcases hG k h with h' | h'
      · exact .inl (.inl h')
      · exact .inr h'
    · exact .inl (.inr (.inl h))
    · exact .inl (.inr (.inr (.inl h)))
    · exact .inl (.inr (.inr (.inr h)))
  · rcases hG _ h with h' | h'
    · exact T.na h'
    · have := T.alt; omega
  · rcases hG _ h with h' | h'
    · exact T.nb h'
    · have := T.blt; omega
  · rcases hG _ h with h' | h'
    · exact T.ng g hg h'
    · have := (T.tg.lt g hg).2; omega
/-- Blocks of the law's own are written. -/
theorem write {w' : World} {F : List Nat} (T : TmB w0 G w a bb hp vg S gs P) (hf : Fr F w w') (hF : ∀ k, k ∈ F → G k ∧ w0.heap.size ≤ k) : TmB w0 G w' a bb hp vg S gs P :=
  ⟨T.H.write hf (fun k hk => ⟨.inl (hF k hk).1, (hF k hk).2⟩), hf.same T.ta (fun h => T.na (hF _ h).1), hf.same T.tb (fun h => T.nb (hF _ h).1), hf.row T.tg (fun g hg h => T.ng g hg (hF _ h).1), T.na, T.nb, T.ng, T.ba, T.bb0, T.gl⟩
theorem mono {Q : Nat} (T : TmB w0 G w a bb hp vg S gs P) (hq : P ≤ Q) : TmB w0 G w a bb hp vg S gs Q :=
  ⟨T.H.mono hq, T.ta, T.tb, T.tg, T.na, T.nb, T.ng, T.ba, T.bb0, T.gl⟩
/-- The heap was called. -/
theorem heap {w' : World} {S' : List El} {P' : Nat} (T : TmB w0 G w a bb hp vg S gs P) (H' : HeapIn w0 (TG G a bb vg) w' hp S' P') (K : Keep (TG G a bb vg) w w') :
    TmB w0 G w' a bb hp vg S' gs P' ∧ Keep G w w' :=
  ⟨⟨H', (K a (.inr (.inl rfl))).trans T.ta, (K bb (.inr (.inr (.inl rfl)))).trans T.tb, by
    refine ⟨T.tg.1, ?_⟩
    rcases T.tg.2 with h' | ⟨g, cap, cur, rfl, hb, hg, r⟩
    · exact .inl h'
    · exact .inr ⟨g, cap, cur, rfl, hb, (K g (.inr (.inr (.inr rfl)))).trans hg, r⟩, T.na, T.nb, T.ng, T.ba, T.bb0, T.gl⟩, fun k hk => K k (.inl hk)⟩
theorem drew (T : TmB w0 G w a bb hp vg S gs P) (n : Nat) : TmB w0 G (w.drewN n) a bb hp vg S gs P := T.more ((fr_drewN w n []).below (fun _ hx => by simp at hx) (Nat.le_refl _)) fun _ h => .inl h
theorem grown {w' : World} (T : TmB w0 G w a bb hp vg S gs P) (hb : Below w.heap.size w w') : TmB w0 G w' a bb hp vg S gs P := T.more hb fun _ h => .inl h
theorem less {G' : Nat → Prop} (T : TmB w0 G w a bb hp vg S gs P) (hG : ∀ k, G' k → G k) : TmB w0 G' w a bb hp vg S gs P := T.more (Below.refl _ _) fun k h => .inl (hG k h)

/-- A new row for the generations, and the field is written. -/
theorem newG {w' : World} {v' : Value} {gs' : List Nat} (T : TmB w0 G w a bb hp vg S gs P) (hf : Fr vg.ownBlock.toList w w') (hnear : Near w vg v') (hown : w'.ownsRow w0.heap.size 3 1 v' gs'.length (gs'.map encN)) (hl : gs'.length ≤ 1024) :
    TmB w0 G (w'.setCell ⟨bb, 1, none⟩ v') a bb hp v' S gs' P ∧ Keep G w (w'.setCell ⟨bb, 1, none⟩ v') := by
  have hga := T.ga
  have hgb := T.gbb
  have na : a ∉ vg.ownBlock.toList := fun hm => hga a (by simpa using hm) rfl
  have nb : bb ∉ vg.ownBlock.toList := fun hm => hgb bb (by simpa using hm) rfl
  have ta' := hf.same T.ta na
  have tb' := hf.same T.tb nb
  have f2 : Fr [bb] w' (w'.setCell ⟨bb, 1, none⟩ v') := fr_setCell w' ⟨bb, 1, none⟩ v'
  have hb' := BodAt.row_ne hown tb' (by decide)
  have ha' := BodAt.row_ne hown ta' (by decide)
  obtain ⟨h, hha, HA, h1, h2⟩ := T.H.ex
  have hfF : ∀ k, k ∈ vg.ownBlock.toList → w0.heap.size ≤ k := fun k hk => (T.tg.lt k (by simpa using hk)).1
  have hng : ∀ g, v'.ownBlock = some g → ¬ G g := fun g hg hG => by
    rcases hnear g hg with h' | h'
    · exact T.ng g h' hG
    · have := T.H.lt g (.inl hG); omega
  have hsz : w.heap.size ≤ (w'.setCell ⟨bb, 1, none⟩ v').heap.size := Nat.le_trans hf.size f2.size
  have hb1 : Below w0.heap.size w0 w' := T.H.below.trans (hf.below hfF T.H.below.size)
  refine ⟨⟨⟨⟨h, hha, (HA.frame hf (fun k hk hm => h2 k hk (.inr (.inr (.inr (by simpa using hm)))))).frame f2 (fun k hk hm => ?_), h1, fun k hk hg => ?_⟩, fun k hk => ?_, below_cell hb1 T.bb0 1 v'⟩, f2.same ta' (by simpa using T.ne), ?_, f2.row hown (fun g hg => by simpa using hb' g hg), T.na, T.nb, hng, T.ba, T.bb0, hl⟩, fun k hk => ?_⟩
  · simp at hm; subst hm; exact h2 k hk (.inr (.inr (.inl rfl)))
  · rcases hg with h' | h' | h' | h'
    · exact h2 k hk (.inl h')
    · exact h2 k hk (.inr (.inl h'))
    · exact h2 k hk (.inr (.inr (.inl h')))
    · rcases hnear k h' with h'' | h''
      · exact h2 k hk (.inr (.inr (.inr h'')))
      · have := HA.lt_foot k hk; omega
  · rcases hk with h' | h' | h' | h'
    · exact Nat.lt_of_lt_of_le (T.H.lt k (.inl h')) hsz
    · subst h'; exact Nat.lt_of_lt_of_le T.alt hsz
    · subst h'; exact Nat.lt_of_lt_of_le T.blt hsz
    · exact Nat.lt_of_lt_of_le (hown.lt k h').2 f2.size
  · exact cells_set tb' 1 v'
  · have hkb : k ≠ bb := fun e => T.nb (e ▸ hk)
    have hkl := T.H.lt k (.inl hk)
    rw [f2.block k (Nat.lt_of_lt_of_le hkl hf.size) (by simpa using hkb)]
    exact hf.block k hkl (fun hm => T.ng k (by simpa using hm) hk)

/-- A number is given back. -/
theorem bumpG {g cap : Nat} (T : TmB w0 G w a bb hp (.slice (some ⟨g, 0, none⟩) gs.length cap) S gs P) (x : Nat) :
    TmB w0 G (w.setCell ⟨g, x, none⟩ (.int .i64 ((gs.getD x 0 : Nat) + 1))) a bb hp (.slice (some ⟨g, 0, none⟩) gs.length cap) S (bump gs x) P ∧ Keep G w (w.setCell ⟨g, x, none⟩ (.int .i64 ((gs.getD x 0 : Nat) + 1))) := by
  obtain ⟨hst, _⟩ := World.ownsRow.stored T.tg x (.int .i64 ((gs.getD x 0 : Nat) + 1))
  have hf : Fr [g] w (w.setCell ⟨g, x, none⟩ (.int .i64 ((gs.getD x 0 : Nat) + 1))) := fr_setCell w ⟨g, x, none⟩ _
  have hg0 : w0.heap.size ≤ g := (T.tg.lt g rfl).1
  refine ⟨⟨T.H.write hf (fun k hk => ?_), hf.same T.ta (by simpa using (T.ga g rfl).symm), hf.same T.tb (by simpa using (T.gbb g rfl).symm), ?_, T.na, T.nb, T.ng, T.ba, T.bb0, by rw [bump_len]; exact T.gl⟩, fun k hk => hf.block k (T.H.lt k (.inl hk)) (fun hm => ?_)⟩
  · simp at hk; subst hk; exact ⟨.inr (.inr (.inr rfl)), hg0⟩
  · have e : (bump gs x).map encN = (gs.map encN).set x (.int .i64 ((gs.getD x 0 : Nat) + 1)) := by
      unfold bump
      rw [List.map_set]
      unfold encN
      congr 2
    rw [bump_len, e]
    exact hst
  · simp at hm; subst hm; exact T.ng k rfl hk
end TmB

namespace TmIn
variable {w0 w : World} {G : Nat → Prop} {a : Nat} {S : List El} {gs : List Nat} {P : Nat}
theorem len_le (T : TmIn w0 G w a S gs P) : S.length ≤ 1024 := by obtain ⟨_, _, _, B⟩ := T.ex; exact B.H.len_le
theorem nodup (T : TmIn w0 G w a S gs P) : (hsOf S).Nodup := by obtain ⟨_, _, _, B⟩ := T.ex; exact B.H.nodup
theorem gle (T : TmIn w0 G w a S gs P) : gs.length ≤ 1024 := by obtain ⟨_, _, _, B⟩ := T.ex; exact B.gl
theorem below (T : TmIn w0 G w a S gs P) : Below w0.heap.size w0 w := by obtain ⟨_, _, _, B⟩ := T.ex; exact B.H.below
theorem glt (T : TmIn w0 G w a S gs P) : ∀ k, G k → k < w.heap.size := by obtain ⟨_, _, _, B⟩ := T.ex; exact fun k hk => B.H.lt k (.inl hk)
theorem mono {Q : Nat} (T : TmIn w0 G w a S gs P) (hq : P ≤ Q) : TmIn w0 G w a S gs Q := by obtain ⟨_, _, _, B⟩ := T.ex; exact ⟨⟨_, _, _, B.mono hq⟩, T.p.mono hq⟩
theorem more {w' : World} {G' : Nat → Prop} (T : TmIn w0 G w a S gs P) (hb : Below w.heap.size w w') (hG : ∀ k, G' k → G k ∨ (w.heap.size ≤ k ∧ k < w'.heap.size)) : TmIn w0 G' w' a S gs P := by obtain ⟨_, _, _, B⟩ := T.ex; exact ⟨⟨_, _, _, B.more hb hG⟩, T.p⟩
theorem grown {w' : World} (T : TmIn w0 G w a S gs P) (hb : Below w.heap.size w w') : TmIn w0 G w' a S gs P := T.more hb fun _ h => .inl h
theorem less {G' : Nat → Prop} (T : TmIn w0 G w a S gs P) (hG : ∀ k, G' k → G k) : TmIn w0 G' w a S gs P := T.more (Below.refl _ _) fun k h => .inl (hG k h)
theorem alloc (T : TmIn w0 G w a S gs P) (o : Obj) : TmIn w0 G (w.alloc o) a S gs P := T.grown ((Below.refl _ _).alloc (Nat.le_refl _) _)
theorem drew (T : TmIn w0 G w a S gs P) (n : Nat) : TmIn w0 G (w.drewN n) a S gs P := T.grown ((fr_drewN w n []).below (fun _ hx => by simp at hx) (Nat.le_refl _))
theorem write {w' : World} {F : List Nat} (T : TmIn w0 G w a S gs P) (hf : Fr F w w') (hF : ∀ k, k ∈ F → G k ∧ w0.heap.size ≤ k) : TmIn w0 G w' a S gs P := by obtain ⟨_, _, _, B⟩ := T.ex; exact ⟨⟨_, _, _, B.write hf hF⟩, T.p⟩
theorem keep {w' : World} (T : TmIn w0 G w a S gs P) (hb : Below w.heap.size w w') : Keep G w w' := fun k hk => hb.block k (T.glt k hk)
end TmIn
end Go.Proofs.YthlbnlbkgiclpaaDoor
