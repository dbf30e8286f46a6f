/- TaskHolds: calls with any answer; tables of 64 values; the run set has each ready task once. -/
import Derived.Test.YtifdpdghjfcaaaaDoorFRow
namespace Go.Proofs.YtifdpdghjfcaaaaDoor
open Go.RowKit Go.Sort
set_option linter.unusedVariables false
set_option linter.unusedSimpArgs false

theorem KAt.noF {B : Nat} {w : World} {l : Tl} {P : Ks} {Q : Qu} {g : Nat} (h : KAt B w l P Q g) : Fr l.F w w := Fr.refl _ _
/-- What a call leaves behind, whatever it answers. -/
def Any (w0 w : World) (l : Tl) (n g : Nat) (e : Ending) (w' : World) : Prop :=
  (∃ code : Int, e = .returned (.int .i64 code)) ∧ Fr l.F w w' ∧ ∃ P' Q' g', KS w0 w' l P' Q' g' ∧ g' ≤ g + 1 ∧ P'.length = n
theorem stepG_le (tg : Int) (g : Nat) : stepG tg g ≤ g + 1 := by unfold stepG; split <;> omega
theorem tkStart_any {w0 w : World} {l : Tl} {P : Ks} {Q : Qu} {g : Nat} (h : KS w0 w l P Q g) (hg : g < 4096) (N : Int) : Calls Tryd.prog 16 #[.pointer (some ⟨l.t, 0, none⟩), .int .i64 N] w (Any w0 w l P.length g) := by
  rcases noI_or P N with hn | ⟨n, rfl, hn⟩
  · refine (tkStart_bad h.K hn).mono ?_
    rintro e w2 ⟨rfl, rfl⟩
    exact ⟨⟨_, rfl⟩, Fr.refl _ _, _, _, _, h, by omega, rfl⟩
  · have hp := List.getElem?_eq_getElem hn
    by_cases hs : (P[n]).s = frOf 0
    · refine (tkStart_yes h.K h.R hg hp hs).mono ?_
      rintro e w2 ⟨rfl, hd, hf⟩
      exact ⟨⟨_, rfl⟩, hf, _, _, _, h.did hp hd hf, stepG_le _ _, stepP_len _ _⟩
    · refine (tkStart_state h.K hp (fun e => hs e.symm)).mono ?_
      rintro e w2 ⟨rfl, hg⟩
      exact ⟨⟨_, rfl⟩, Fr.of_below hg.below _, _, _, _, h.grown hg.below, by omega, rfl⟩
theorem tkPark_any {w0 w : World} {l : Tl} {P : Ks} {Q : Qu} {g : Nat} (h : KS w0 w l P Q g) (hg : g < 4096) (N : Int) : Calls Tryd.prog 17 #[.pointer (some ⟨l.t, 0, none⟩), .int .i64 N] w (Any w0 w l P.length g) := by
  rcases noI_or P N with hn | ⟨n, rfl, hn⟩
  · refine (tkPark_bad h.K hn).mono ?_
    rintro e w2 ⟨rfl, rfl⟩
    exact ⟨⟨_, rfl⟩, Fr.refl _ _, _, _, _, h, by omega, rfl⟩
  · have hp := List.getElem?_eq_getElem hn
    by_cases hs : (P[n]).s = frOf 1
    · refine (tkPark_yes h.K h.R hg hp hs).mono ?_
      rintro e w2 ⟨rfl, hd, hf⟩
      exact ⟨⟨_, rfl⟩, hf, _, _, _, h.did hp hd hf, stepG_le _ _, stepP_len _ _⟩
    · refine (tkPark_state h.K hp (fun e => hs e.symm)).mono ?_
      rintro e w2 ⟨rfl, hg⟩
      exact ⟨⟨_, rfl⟩, Fr.of_below hg.below _, _, _, _, h.grown hg.below, by omega, rfl⟩
theorem tkWake_any {w0 w : World} {l : Tl} {P : Ks} {Q : Qu} {g : Nat} (h : KS w0 w l P Q g) (hg : g < 4096) (N : Int) : Calls Tryd.prog 18 #[.pointer (some ⟨l.t, 0, none⟩), .int .i64 N] w (Any w0 w l P.length g) := by
  rcases noI_or P N with hn | ⟨n, rfl, hn⟩
  · refine (tkWake_bad h.K hn).mono ?_
    rintro e w2 ⟨rfl, rfl⟩
    exact ⟨⟨_, rfl⟩, Fr.refl _ _, _, _, _, h, by omega, rfl⟩
  · have hp := List.getElem?_eq_getElem hn
    by_cases hs : (P[n]).s = frOf 2
    · refine (tkWake_yes h.K h.R hg hp hs).mono ?_
      rintro e w2 ⟨rfl, hd, hf⟩
      exact ⟨⟨_, rfl⟩, hf, _, _, _, h.did hp hd hf, stepG_le _ _, stepP_len _ _⟩
    · refine (tkWake_state h.K hp (fun e => hs e.symm)).mono ?_
      rintro e w2 ⟨rfl, hg⟩
      exact ⟨⟨_, rfl⟩, Fr.of_below hg.below _, _, _, _, h.grown hg.below, by omega, rfl⟩
theorem tkFinish_any {w0 w : World} {l : Tl} {P : Ks} {Q : Qu} {g : Nat} (h : KS w0 w l P Q g) (hg : g < 4096) (N : Int) : Calls Tryd.prog 19 #[.pointer (some ⟨l.t, 0, none⟩), .int .i64 N] w (Any w0 w l P.length g) := by
  rcases noI_or P N with hn | ⟨n, rfl, hn⟩
  · refine (tkFinish_bad h.K hn).mono ?_
    rintro e w2 ⟨rfl, rfl⟩
    exact ⟨⟨_, rfl⟩, Fr.refl _ _, _, _, _, h, by omega, rfl⟩
  · have hp := List.getElem?_eq_getElem hn
    by_cases hs : (P[n]).s = frOf 3
    · refine (tkFinish_yes h.K h.R hg hp hs).mono ?_
      rintro e w2 ⟨rfl, hd, hf⟩
      exact ⟨⟨_, rfl⟩, hf, _, _, _, h.did hp hd hf, stepG_le _ _, stepP_len _ _⟩
    · refine (tkFinish_state h.K hp (fun e => hs e.symm)).mono ?_
      rintro e w2 ⟨rfl, hg⟩
      exact ⟨⟨_, rfl⟩, Fr.of_below hg.below _, _, _, _, h.grown hg.below, by omega, rfl⟩
theorem tkTurn_any {w0 w : World} {l : Tl} {P : Ks} {Q : Qu} {g : Nat} (h : KS w0 w l P Q g) (hg : g < 4096) (N : Int) : Calls Tryd.prog 20 #[.pointer (some ⟨l.t, 0, none⟩), .int .i64 N] w (Any w0 w l P.length g) := by
  rcases noI_or P N with hn | ⟨n, rfl, hn⟩
  · refine (tkTurn_bad h.K hn).mono ?_
    rintro e w2 ⟨rfl, rfl⟩
    exact ⟨⟨_, rfl⟩, Fr.refl _ _, _, _, _, h, by omega, rfl⟩
  · have hp := List.getElem?_eq_getElem hn
    by_cases hs : (P[n]).s = frOf 4
    · refine (tkTurn_yes h.K h.R hg hp hs).mono ?_
      rintro e w2 ⟨rfl, hd, hf⟩
      exact ⟨⟨_, rfl⟩, hf, _, _, _, h.did hp hd hf, stepG_le _ _, stepP_len _ _⟩
    · refine (tkTurn_state h.K hp (fun e => hs e.symm)).mono ?_
      rintro e w2 ⟨rfl, hg⟩
      exact ⟨⟨_, rfl⟩, Fr.of_below hg.below _, _, _, _, h.grown hg.below, by omega, rfl⟩

/-- A table of 64 values in memory. -/
structure TabV (w : World) (b : Nat) (t : TypeId) (f : Nat → Value) : Prop where
  ex : ∃ cur, w.heap[b]? = some (.cells cur t (0, 0)) ∧ cur.size = 64 ∧ ∀ x, x < 64 → cur[x]? = some (f x)
section
variable {w w' : World} {b : Nat} {t : TypeId} {f : Nat → Value}
theorem TabV.cell (h : TabV w b t f) (x : Nat) (hx : x < 64) : w.cell? ⟨b, x, none⟩ = some (f x) := by
  obtain ⟨cur, h1, _, h2⟩ := h.ex
  exact cells_cell h1 (h2 x hx)
theorem TabV.free (h : TabV w b t f) (x : Nat) : w.frozen? ⟨b, x, none⟩ = false := by
  obtain ⟨cur, h1, _⟩ := h.ex
  exact cells_free h1 x
theorem TabV.keep (h : TabV w b t f) (hk : w'.heap[b]? = w.heap[b]?) : TabV w' b t f := by
  obtain ⟨cur, h1, h2⟩ := h.ex
  exact ⟨cur, hk.trans h1, h2⟩
theorem TabV.set (h : TabV w b t f) (x : Nat) (hx : x < 64) (v : Value) {f' : Nat → Value} (hv : f' x = v) (ho : ∀ y, y ≠ x → f' y = f y) : TabV (w.setCell ⟨b, x, none⟩ v) b t f' := by
  obtain ⟨cur, h1, hs, h2⟩ := h.ex
  refine ⟨_, cells_set h1 x _, by simpa using hs, fun y hy => ?_⟩
  by_cases q : y = x
  · subst q; rw [hv]; simp [hs, hy]
  · rw [Array.getElem?_setIfInBounds_ne (fun e => q e.symm), ho y q]; exact h2 y hy
theorem TabV.lt (h : TabV w b t f) : b < w.heap.size := World.block_lt_of_cell? w _ (h.cell 0 (by omega))
theorem TabV.grown (h : TabV w b t f) (hb : Below w.heap.size w w') : TabV w' b t f := h.keep (hb.block b h.lt)
theorem TabV.congr {f' : Nat → Value} (h : TabV w b t f) (hf : ∀ x, f' x = f x) : TabV w b t f' := by
  obtain ⟨cur, h1, hs, h2⟩ := h.ex
  exact ⟨cur, h1, hs, fun x hx => by rw [hf]; exact h2 x hx⟩
end
theorem tabV_new (w : World) (t : TypeId) (v : Value) (cur : Array Value) (h : cur = Array.replicate 64 v) : TabV (w.alloc (.cells cur t)) w.heap.size t (fun _ => v) :=
  ⟨cur, block_new _ _ _ rfl, by rw [h]; simp, fun x hx => by rw [h]; simp [hx]⟩
/-- A table of tasks outlives what is written to a block of another type. -/
theorem KS.box {w0 w w' : World} {l : Tl} {P : Ks} {Q : Qu} {g x : Nat} {y : Array Value} {u : TypeId} (h : KS w0 w l P Q g) (hc : w.heap[x]? = some (.cells y u (0, 0))) (h1 : u ≠ 71) (h2 : u ≠ 82) (h3 : u ≠ 43) (h4 : u ≠ 84) (hx : w0.heap.size ≤ x) (hf : Fr [x] w w') : KS w0 w' l P Q g := by
  have ho := h.K.out hc h1 h2
  simp [Tl.F] at ho
  have e1 := ne_types hc h.K.t h3
  have e2 := ne_types hc h.K.qa.q h4
  exact ⟨h.K.same hf (fun z hz => by simp at hz; omega) (by simpa using e1.symm) (by simpa using fun e => ho.1 e.symm) (by simpa using e2.symm) (by simpa using fun e => ho.2.1 e.symm) (by simpa using fun e => ho.2.2 e.symm), h.R, h.below.trans (hf.below (fun z hz => by simp at hz; omega) h.below.size)⟩

section
variable {P : Ks} {Q : Qu} {i : Nat} {p : Ck}
theorem rk_nodup (h : Rk P Q) (hi : Inc 0 Q) : (Q.map Prod.snd).Nodup := by
  have key : ∀ (Q' : Qu) (b : Nat), (∀ x ∈ Q', x ∈ Q) → Inc b Q' → (Q'.map Prod.snd).Nodup := by
    intro Q'
    induction Q' with
    | nil => intro _ _ _; exact List.nodup_nil
    | cons x r ih =>
      intro b hm hb
      obtain ⟨t, v⟩ := x
      rw [List.map_cons, List.nodup_cons]
      refine ⟨fun hmem => ?_, ih t (fun y hy => hm y (List.mem_cons_of_mem _ hy)) hb.2⟩
      obtain ⟨y, hy, hyv⟩ := List.mem_map.1 hmem
      obtain ⟨j, h1, h2⟩ := h.qu (t, v) (hm _ List.mem_cons_self)
      have h3 := h.fun (hm y (List.mem_cons_of_mem _ hy)) (i := j) (by rw [hyv]; exact h1) h2
      have h4 : t = y.1 := (Ck.mk.inj h3).2
      have := (hb.2.mem hy).1
      omega
  exact key Q 0 (fun _ hx => hx) hi
theorem rk_mem (h : Rk P Q) (hp : P[i]? = some p) : ((i : Nat) : Int) ∈ Q.map Prod.snd ↔ p.s = 1 := by
  constructor
  · intro hm
    obtain ⟨x, hx, e⟩ := List.mem_map.1 hm
    rw [h.fun hx e hp]
  · intro hs
    exact List.mem_map.2 ⟨_, h.rd i p hp hs, rfl⟩
theorem rk_count (h : Rk P Q) (hi : Inc 0 Q) (hp : P[i]? = some p) : (Q.map Prod.snd).count ((i : Nat) : Int) = if p.s = 1 then 1 else 0 := by
  rw [(rk_nodup h hi).count]
  by_cases hs : p.s = 1
  · rw [if_pos hs, if_pos ((rk_mem h hp).2 hs)]
  · rw [if_neg hs, if_neg (fun hm => hs ((rk_mem h hp).1 hm))]
end
theorem count_take {X : List Int} {j : Nat} (hj : j < X.length) (y : Int) : (X.take (j + 1)).count y = (X.take j).count y + if X[j] = y then 1 else 0 := by
  rw [List.take_succ_eq_append_getElem hj, List.count_append, List.count_singleton]
  simp
end Go.Proofs.YtifdpdghjfcaaaaDoor
