/- Rows of integers beside a table of tasks; bytes that came in; tasks that are parked, counted. -/
import Derived.Test.YtifdpdghjfcaaaaDoorFKnown
namespace Go.Proofs.YtifdpdghjfcaaaaDoor
open Go.RowKit Go.Sort
set_option linter.unusedVariables false
set_option linter.unusedSimpArgs false

theorem KAt.row_out {B b : Nat} {w : World} {l : Tl} {P : Ks} {Q : Qu} {g : Nat} {v : Value} {X : List Int} (h : KAt B w l P Q g) (hr : Row TI w b v X) : ∀ y, v.ownBlock = some y → y ∉ l.F ∧ y ≠ l.t ∧ y ≠ l.c ∧ y ≠ l.q ∧ y ≠ l.b ∧ y ≠ l.m := by
  rcases hr.2 with ⟨rfl, _⟩ | ⟨y, cap, cu, rfl, _, hh, _⟩
  · intro y hy; cases hy
  · intro y' hy
    cases hy
    have h1 := h.out hh (by decide) (by decide)
    have h2 := h1
    simp [Tl.F] at h2
    exact ⟨h1, ne_types hh h.t (by decide), h2.1, ne_types hh h.qa.q (by decide), h2.2.1, h2.2.2⟩
/-- A row outlives a call. -/
theorem KAt.row_keep {B b : Nat} {w w' : World} {l : Tl} {P : Ks} {Q : Qu} {g : Nat} {v : Value} {X : List Int} (h : KAt B w l P Q g) (hr : Row TI w b v X) (hf : Fr l.F w w') : Row TI w' b v X :=
  hr.fr hf (fun y hy => (h.row_out hr y hy).1)
/-- A table outlives an append. -/
theorem KS.row {w0 w w' : World} {l : Tl} {P : Ks} {Q : Qu} {g : Nat} {v : Value} {X : List Int} (h : KS w0 w l P Q g) (hr : Row TI w w0.heap.size v X) (hf : Fr v.ownBlock.toList w w') : KS w0 w' l P Q g := by
  have hin : ∀ x ∈ v.ownBlock.toList, v.ownBlock = some x := fun x hx => by simpa using hx
  have ho := fun x hx => h.K.row_out hr x (hin x hx)
  have hl : ∀ x ∈ v.ownBlock.toList, w0.heap.size ≤ x := fun x hx => (hr.lt x (hin x hx)).1
  exact ⟨h.K.same hf hl (fun hm => (ho _ hm).2.1 rfl) (fun hm => (ho _ hm).2.2.1 rfl) (fun hm => (ho _ hm).2.2.2.1 rfl) (fun hm => (ho _ hm).2.2.2.2.1 rfl) (fun hm => (ho _ hm).2.2.2.2.2 rfl), h.R, h.below.trans (hf.below hl h.below.size)⟩

/-- What a walk is told of a slice of integers that came in. -/
def IsRow (k : IntKind) (w : World) (a : Option Addr) (len cap : Nat) (zs : List Int) : Prop :=
  (a = none ∧ len = 0 ∧ cap = 0 ∧ zs = []) ∨
  ∃ x, a = some x ∧ len ≤ cap ∧ cap ≤ maxLen ∧ zs.length = cap ∧ (∀ i, i < zs.length → w.cell? (x.add i) = some (.int k (zs.getD i 0))) ∧ ∀ n ∈ zs, (Lit.int k n).wf = true
theorem row_u8 {w : World} {a : Option Addr} {len cap : Nat} {zs : List Int} (h : IsRow .u8 w a len cap zs) (h0 : 0 < len) : ∃ b off, a = some ⟨b, off, none⟩ ∧ b < w.heap.size ∧ ∀ i, i < len → ∃ x : Nat, x < 256 ∧ w.cell? ⟨b, off + i, none⟩ = some (.int .u8 ((x : Nat) : Int)) := by
  rcases h with ⟨rfl, rfl, rfl, rfl⟩ | ⟨x, rfl, hl, hm, hz, hcell, hwz⟩
  · omega
  · obtain ⟨b, off, spot⟩ := x
    have hc := hcell 0 (by omega)
    have hspot : spot = none := by simpa [Addr.add] using World.cell?_spot hc
    subst hspot
    refine ⟨b, off, rfl, World.block_lt_of_cell? w _ hc, fun i hi => ?_⟩
    have h1 := hcell i (by omega)
    rw [Go.WideShapes.add_plain] at h1
    have h2 := hwz (zs.getD i 0) (by rw [List.getD_eq_getElem?_getD, List.getElem?_eq_getElem (by omega)]; exact List.getElem_mem _)
    simp [Lit.wf, IntKind.min, IntKind.max, IntKind.signed, IntKind.bits] at h2
    refine ⟨(zs.getD i 0).toNat, ?_, ?_⟩
    · simp only [List.getD_eq_getElem?_getD] at h2 ⊢; omega
    · rw [h1]
      congr 2
      simp only [List.getD_eq_getElem?_getD] at h2 ⊢; omega

/-- How many tasks are parked. -/
def cnt2 (P : Ks) : Nat := P.countP fun p => decide (p.s = 2)
section
variable {P : Ks} {Q : Qu} {n g : Nat} {p : Ck} {tg : Int}
theorem cnt2_step (hp : P[n]? = some p) (tg : Int) (g : Nat) : cnt2 (stepP P n tg g) = (cnt2 P - if p.s = 2 then 1 else 0) + if tg = 2 then 1 else 0 := by
  obtain ⟨hl, he⟩ := List.getElem?_eq_some_iff.1 hp
  unfold cnt2 stepP
  rw [List.countP_set hl, he]
  simp
theorem cnt2_pos (hp : P[n]? = some p) (hs : p.s = 2) : 0 < cnt2 P := by
  unfold cnt2
  exact List.countP_pos_iff.2 ⟨p, List.mem_of_getElem? hp, by simpa using hs⟩
theorem cnt2_new (n : Nat) : cnt2 (List.replicate n ⟨0, 0⟩) = 0 := by
  unfold cnt2
  rw [List.countP_eq_zero]
  intro p hp
  rw [(List.mem_replicate.1 hp).2]
  decide
theorem stepP_len (tg : Int) (g : Nat) : (stepP P n tg g).length = P.length := by simp [stepP]
/-- A task comes in at the end. -/
theorem stepQ_in (hR : Rk P Q) (hp : P[n]? = some p) (hs : p.s ≠ 1) : stepQ Q n 1 g = Q ++ [(g + 1, ((n : Nat) : Int))] := by
  unfold stepQ
  rw [hR.none hp hs]
  rfl
/-- The first task leaves. -/
theorem stepQ_first {t : Nat} {v : Int} (hR : Rk P ((t, v) :: Q)) (hi : Inc 0 ((t, v) :: Q)) : ∃ n, v = ((n : Nat) : Int) ∧ P[n]? = some ⟨1, t⟩ ∧ wo n ((t, v) :: Q) = Q := by
  obtain ⟨n, h1, h2⟩ := hR.qu (t, v) List.mem_cons_self
  simp only at h1 h2
  refine ⟨n, h1, h2, ?_⟩
  subst h1
  have : wo n ((t, ((n : Nat) : Int)) :: Q) = wo n Q := by unfold wo; rw [List.filter_cons]; simp
  rw [this]
  exact wo_same fun x hx e => by
    have h3 := hR.fun (List.mem_cons_of_mem _ hx) e h2
    have h4 : t = x.1 := (Ck.mk.inj h3).2
    have := (hi.2.mem hx).1
    omega
end
end Go.Proofs.YtifdpdghjfcaaaaDoor
