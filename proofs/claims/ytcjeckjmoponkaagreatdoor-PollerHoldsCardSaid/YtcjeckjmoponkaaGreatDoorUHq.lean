/- PollerHolds without any memory: the invariant, and what each call leaves. -/
import Derived.Test.YtcjeckjmoponkaaGreatDoorUHp
namespace Go.Proofs.YtcjeckjmoponkaaGreatDoor
open Go.RowKit Go.Sort
set_option linter.unusedVariables false
set_option linter.unusedSimpArgs false

/-- Who waits, waits at an open descriptor whose deadline has not passed. -/
structure PI (x : Px) (B : Nat) : Prop where
  zk : ZK x.z
  tl : x.T.length = 128
  rl : x.R.length = x.z.S.length
  nn : x.now < Dl.never
  op : ∀ i s, seatOf x.z.L i = some s → ∃ p, x.T[s.1.toNat]? = some p ∧ p.o = true ∧ x.now < x.f (plI s.1 s.2)
  cl : ∀ n p, x.T[n]? = some p → p.o = false → x.f (2 * n) = Dl.never ∧ x.f (2 * n + 1) = Dl.never
  gb : ∀ (n : Nat) (p : Sl.Pl), x.T[n]? = some p → p.g ≤ B
/-- What the law asks of a call: who was woken, and how. -/
structure SO (x x' : Px) (X : List Int) (why : Int) (N K : Int) : Prop where
  ln : x'.z.S.length = x.z.S.length
  wok : ∀ i : Nat, i < x.z.S.length → (((i : Nat) : Int) ∈ X ↔ (seatOf x.z.L i ≠ none ∧ seatOf x'.z.L i = none))
  rdy : ∀ i : Nat, i < x.z.S.length → ((i : Nat) : Int) ∈ X → x'.z.S.getD i 0 = 1 ∧ x'.R.getD i 0 = why
  tim : why = 2 → ∀ (i : Nat) (s : Sp), ((i : Nat) : Int) ∈ X → seatOf x.z.L i = some s → chkC x' (namC x.T s.1).1 (namC x.T s.1).2 s.2 = 12
  clo : why = 3 → ∀ (i : Nat) (s : Sp), ((i : Nat) : Int) ∈ X → seatOf x.z.L i = some s → namC x.T s.1 = (N, K) ∧ chkC x' N K s.2 = 9
  num : X.length ≤ 64
theorem PI.sp {x : Px} {B : Nat} (h : PI x B) {i : Nat} {s : Sp} (hs : seatOf x.z.L i = some s) : SpOk s ∧ i < x.z.S.length := by
  have := (seatOf_some h.zk.nd).1 hs
  exact ⟨h.zk.sp _ this, h.zk.inS _ (List.mem_map_of_mem (f := Prod.fst) this)⟩
theorem PI.mono {x : Px} {B B' : Nat} (h : PI x B) (hB : B ≤ B') : PI x B' := ⟨h.zk, h.tl, h.rl, h.nn, h.op, h.cl, fun n p hp => Nat.le_trans (h.gb n p hp) hB⟩
/-- Nobody is woken. -/
theorem SO.idle {x x' : Px} (h1 : x'.z.S.length = x.z.S.length) (h2 : ∀ i, seatOf x.z.L i ≠ none → seatOf x'.z.L i ≠ none) (why N K : Int) : SO x x' [] why N K :=
  ⟨h1, fun i _ => ⟨fun h => by simp at h, fun h => absurd h.2 (h2 i h.1)⟩, fun i _ h => by simp at h, fun _ i s h => by simp at h, fun _ i s h => by simp at h, by simp⟩
theorem SO.same (x : Px) (why N K : Int) : SO x x [] why N K := SO.idle rfl (fun _ h => h) why N K
theorem getD_at {l : List Int} {i : Nat} {v : Int} (h : l[i]? = some v) : l.getD i 0 = v := by rw [List.getD_eq_getElem?_getD, h]; rfl
/-- Of a call that wakes all at some spots. -/
theorem SO.wake {x x0 x' : Px} {A : Sp → Prop} {y : Int} {X : List Int} (h : WkF x0 A y X x') (hz : x0.z = x.z) (hR : x0.R.length = x.z.S.length) (hl : x.z.L.length ≤ 64) (N K : Int)
    (ht : y = 2 → ∀ (i : Nat) (s : Sp), A s → seatOf x.z.L i = some s → chkC x' (namC x.T s.1).1 (namC x.T s.1).2 s.2 = 12)
    (hc : y = 3 → ∀ (i : Nat) (s : Sp), A s → seatOf x.z.L i = some s → namC x.T s.1 = (N, K) ∧ chkC x' N K s.2 = 9) : SO x x' X y N K := by
  have hm : ∀ (i : Nat) (s : Sp), ((i : Nat) : Int) ∈ X → seatOf x.z.L i = some s → A s := fun i s hi hs => by
    obtain ⟨t, a, b⟩ := (h.mem i).1 hi
    rw [hz, hs] at b
    rw [Option.some.inj b]
    exact a
  refine ⟨by rw [h.ln, hz], fun i hi => ?_, fun i hi hX => ?_, fun hy i s hi hs => ht hy i s (hm i s hi hs) hs, fun hy i s hi hs => hc hy i s (hm i s hi hs) hs, by have := h.num; rw [hz] at this; omega⟩
  · rw [h.mem]
    constructor
    · rintro ⟨s, a, b⟩
      rw [hz] at b
      refine ⟨by rw [b]; simp, ?_⟩
      cases hq : seatOf x'.z.L i with
      | none => rfl
      | some t =>
        obtain ⟨c, d⟩ := (h.seat i t).1 hq
        rw [hz, b] at c
        rw [← Option.some.inj c] at d
        exact absurd a d
    · rintro ⟨a, b⟩
      cases hq : seatOf x.z.L i with
      | none => exact absurd hq a
      | some s =>
        refine ⟨s, ?_, by rw [hz]; exact hq⟩
        apply Classical.byContradiction
        intro hn
        have := (h.seat i s).2 ⟨by rw [hz]; exact hq, hn⟩
        rw [b] at this
        cases this
  · have h1 := h.st i (by rw [hz]; exact hi)
    have h2 := h.rs i (by rw [hR]; exact hi)
    rw [if_pos hX] at h1 h2
    exact ⟨getD_at h1, h2⟩
/-- A call that only moves tasks that wait nowhere. -/
theorem PI.moved {x x' : Px} {B : Nat} (h : PI x B) (hzk : ZK x'.z) (hT : x'.T = x.T) (hf : x'.f = x.f) (hn : x'.now = x.now) (hL : x'.z.L = x.z.L) (hS : x'.z.S.length = x.z.S.length) (hR : x'.R.length = x.R.length) : PI x' B := by
  refine ⟨hzk, by rw [hT]; exact h.tl, by rw [hR, hS]; exact h.rl, by rw [hn]; exact h.nn, fun i s hs => ?_, ?_, ?_⟩
  · rw [hL] at hs
    obtain ⟨p, a, b, c⟩ := h.op i s hs
    exact ⟨p, by rw [hT]; exact a, b, by rw [hn, hf]; exact c⟩
  · rw [hT, hf]; exact h.cl
  · rw [hT]; exact h.gb
theorem stepC_L (c : Nat) (z : Zt) (N : Int) : (stepC c z N).2.L = z.L ∧ (stepC c z N).2.S.length = z.S.length := by
  unfold stepC
  cases numI z N with
  | none => exact ⟨rfl, rfl⟩
  | some i =>
    simp only
    split
    · exact ⟨rfl, by simp [Zt.step]⟩
    · exact ⟨rfl, rfl⟩
/-- An open descriptor's name. -/
theorem PI.name {x : Px} {B : Nat} (h : PI x B) {i : Nat} {s : Sp} (hs : seatOf x.z.L i = some s) : ∃ (n : Nat) (p : Sl.Pl), s.1 = ((n : Nat) : Int) ∧ x.T[n]? = some p ∧ p.o = true ∧ namC x.T s.1 = (((n : Nat) : Int), ((p.g : Nat) : Int)) ∧ (s.2 = 0 ∨ s.2 = 1) ∧ x.now < x.f (plI s.1 s.2) := by
  obtain ⟨⟨h1, h2, h3⟩, _⟩ := h.sp hs
  obtain ⟨p, a, b, c⟩ := h.op i s hs
  obtain ⟨n, hn⟩ : ∃ n : Nat, s.1 = ((n : Nat) : Int) := ⟨s.1.toNat, by omega⟩
  rw [hn] at a
  have ha : x.T[n]? = some p := by simpa using a
  exact ⟨n, p, hn, ha, b, by rw [hn]; exact namC_at ha b, h3, c⟩
theorem chk_open {x : Px} {n : Nat} {p : Sl.Pl} {D : Int} (h : x.T[n]? = some p) (ho : p.o = true) (hD : D = 0 ∨ D = 1) : chkC x ((n : Nat) : Int) ((p.g : Nat) : Int) D = if x.f (plI ((n : Nat) : Int) D) ≤ x.now then 12 else 0 := by
  have hc : x.code ((n : Nat) : Int) ((p.g : Nat) : Int) D = 0 := by
    unfold Px.code
    rw [if_neg (by omega), fdI_at h ho]
    rfl
  unfold chkC
  rw [if_neg (by simp [hc])]
/-- Where it is waited, the check says OK. -/
theorem PI.chk {x : Px} {B : Nat} (h : PI x B) {i : Nat} {s : Sp} (hs : seatOf x.z.L i = some s) : chkC x (namC x.T s.1).1 (namC x.T s.1).2 s.2 = 0 := by
  obtain ⟨n, p, h1, h2, h3, h4, h5, h6⟩ := h.name hs
  rw [h4, chk_open h2 h3 h5, if_neg (by rw [← h1]; omega)]
end Go.Proofs.YtcjeckjmoponkaaGreatDoor
