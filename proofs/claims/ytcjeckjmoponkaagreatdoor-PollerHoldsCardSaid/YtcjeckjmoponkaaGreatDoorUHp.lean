/- PollerHolds without any memory: what each call leaves of who waits. -/
import Derived.Test.YtcjeckjmoponkaaGreatDoorUWkP
import Derived.Test.YtcjeckjmoponkaaGreatDoorUWh
namespace Go.Proofs.YtcjeckjmoponkaaGreatDoor
open Go.RowKit Go.Sort
set_option linter.unusedVariables false
set_option linter.unusedSimpArgs false

theorem leaves_filter (l : List Nat) : ∀ z : Zt, (z.leaves l).L = z.L.filter fun x => decide (x.1 ∉ l) := by
  induction l with
  | nil => intro z; exact (List.filter_eq_self.2 (by simp)).symm
  | cons i r ih =>
    intro z
    show ((z.leave i).leaves r).L = _
    rw [ih]
    show ((z.L.filter fun x => decide (x.1 ≠ i)).filter _) = _
    rw [List.filter_filter]
    congr 1
    funext x
    by_cases h1 : x.1 = i <;> by_cases h2 : x.1 ∈ r <;> simp [h1, h2]
theorem mem_catN {l : List Nat} {i : Nat} : ((i : Nat) : Int) ∈ cat l ↔ i ∈ l := by
  unfold cat
  rw [List.mem_map]
  constructor
  · rintro ⟨j, h, e⟩
    have : j = i := by omega
    exact this ▸ h
  · exact fun h => ⟨i, h, rfl⟩
theorem cat_nat {l : List Nat} {i : Int} (h : i ∈ cat l) : ∃ n : Nat, i = ((n : Nat) : Int) ∧ n ∈ l := by
  unfold cat at h
  obtain ⟨j, hj, e⟩ := List.mem_map.1 h
  exact ⟨j, e.symm, hj⟩
/-- All who wait at some spots have been woken. -/
structure WkF (x : Px) (A : Sp → Prop) (y : Int) (X : List Int) (x' : Px) : Prop where
  T : x'.T = x.T
  f : x'.f = x.f
  now : x'.now = x.now
  nd : (x'.z.L.map Prod.fst).Nodup
  seat : ∀ i s, seatOf x'.z.L i = some s ↔ seatOf x.z.L i = some s ∧ ¬ A s
  mem : ∀ i : Nat, ((i : Nat) : Int) ∈ X ↔ ∃ s, A s ∧ seatOf x.z.L i = some s
  ln : x'.z.S.length = x.z.S.length
  rl : x'.R.length = x.R.length
  st : ∀ i, i < x.z.S.length → x'.z.S[i]? = if ((i : Nat) : Int) ∈ X then some 1 else x.z.S[i]?
  rs : ∀ i, i < x.R.length → x'.R.getD i 0 = if ((i : Nat) : Int) ∈ X then y else x.R.getD i 0
  nat : ∀ j ∈ X, ∃ n : Nat, j = ((n : Nat) : Int)
  num : x'.z.L.length + X.length = x.z.L.length
theorem WkF.nil {x : Px} (hz : (x.z.L.map Prod.fst).Nodup) (y : Int) : WkF x (fun _ => False) y [] x := by
  refine ⟨rfl, rfl, rfl, hz, fun i s => by simp, fun i => by simp, rfl, rfl, fun i _ => by simp, fun i _ => by simp, by simp, rfl⟩
theorem WkF.one {x : Px} (hz : (x.z.L.map Prod.fst).Nodup) {s : Sp} (hs : SpOk s) (y : Int) : WkF x (fun t => t = s) y (x.wake s y).1 (x.wake s y).2 := by
  have e := wkaC_eq x.z s
  have hw : wns x.z s = wt s x.z.L := by unfold wns; rw [if_pos hs]
  rw [hw] at e
  have h1 : (x.wake s y).1 = cat (wt s x.z.L) := by unfold Px.wake; rw [e]
  have h2 : (x.wake s y).2 = { x with z := x.z.leaves (wt s x.z.L), R := setR x.R (cat (wt s x.z.L)) y } := by unfold Px.wake; rw [e]
  rw [h1, h2]
  have hnd : ((x.z.leaves (wt s x.z.L)).L.map Prod.fst).Nodup := by rw [leaves_filter]; exact (List.filter_sublist.map _).nodup hz
  refine ⟨rfl, rfl, rfl, hnd, fun i t => ?_, fun i => ?_, leaves_len _ _, setR_len _ _ _, fun i hi => ?_, fun i hi => ?_, fun j hj => (cat_nat hj).imp fun n h => h.1, ?_⟩
  · rw [seatOf_some hnd, seatOf_some hz, leaves_L]
    constructor
    · rintro ⟨a, b⟩
      refine ⟨a, fun h => b ?_⟩
      rw [← h]
      exact mem_wt.2 a
    · rintro ⟨a, b⟩
      refine ⟨a, fun h => b ?_⟩
      have := mem_wt.1 h
      have h3 := (seatOf_some hz).2 a
      rw [(seatOf_some hz).2 this] at h3
      exact (Option.some.inj h3).symm
  · rw [mem_catN, mem_wt]
    constructor
    · exact fun h => ⟨s, rfl, (seatOf_some hz).2 h⟩
    · rintro ⟨t, rfl, h⟩
      exact (seatOf_some hz).1 h
  · show (x.z.leaves (wt s x.z.L)).S[i]? = _
    rw [leaves_S _ _ _ hi]
    simp only [mem_catN]
  · show (setR x.R (cat (wt s x.z.L)) y).getD i 0 = _
    rw [setR_at _ _ _ _ hi]
    congr 1
    apply propext
    constructor
    · rintro ⟨j, h, e⟩
      obtain ⟨n, rfl, hn⟩ := cat_nat h
      have : n = i := by omega
      subst this
      exact h
    · exact fun h => ⟨_, h, by omega⟩
  · have := leaves_num (wt s x.z.L) x.z hz ((wt_sub s x.z.L).nodup hz) (fun i hi => (wt_sub s x.z.L).subset hi)
    show (x.z.leaves (wt s x.z.L)).L.length + (cat (wt s x.z.L)).length = _
    unfold cat
    rw [List.length_map]
    exact this
theorem WkF.app {x x1 x2 : Px} {A B : Sp → Prop} {y : Int} {X Y : List Int} (h : WkF x A y X x1) (k : WkF x1 B y Y x2) : WkF x (fun s => A s ∨ B s) y (X ++ Y) x2 := by
  have hm : ∀ i : Nat, ((i : Nat) : Int) ∈ X ++ Y ↔ ∃ s, (A s ∨ B s) ∧ seatOf x.z.L i = some s := fun i => by
    rw [List.mem_append, h.mem, k.mem]
    constructor
    · rintro (⟨s, a, b⟩ | ⟨s, a, b⟩)
      · exact ⟨s, .inl a, b⟩
      · exact ⟨s, .inr a, ((h.seat i s).1 b).1⟩
    · rintro ⟨s, a | a, b⟩
      · exact .inl ⟨s, a, b⟩
      · by_cases hA : A s
        · exact .inl ⟨s, hA, b⟩
        · exact .inr ⟨s, a, (h.seat i s).2 ⟨b, hA⟩⟩
  refine ⟨k.T.trans h.T, k.f.trans h.f, k.now.trans h.now, k.nd, fun i s => ?_, hm, k.ln.trans h.ln, k.rl.trans h.rl, fun i hi => ?_, fun i hi => ?_, fun j hj => ?_, by have h1 := h.num; have h2 := k.num; rw [List.length_append]; omega⟩
  · rw [k.seat, h.seat]
    constructor
    · rintro ⟨⟨a, b⟩, c⟩; exact ⟨a, fun d => d.elim b c⟩
    · rintro ⟨a, b⟩; exact ⟨⟨a, fun d => b (.inl d)⟩, fun d => b (.inr d)⟩
  · rw [k.st i (by rw [h.ln]; exact hi), h.st i hi]
    by_cases h1 : ((i : Nat) : Int) ∈ X <;> by_cases h2 : ((i : Nat) : Int) ∈ Y <;> simp [h1, h2]
  · rw [k.rs i (by rw [h.rl]; exact hi), h.rs i hi]
    by_cases h1 : ((i : Nat) : Int) ∈ X <;> by_cases h2 : ((i : Nat) : Int) ∈ Y <;> simp [h1, h2]
  · rcases List.mem_append.1 hj with h1 | h1
    · exact h.nat j h1
    · exact k.nat j h1
theorem WkF.iff {x x1 : Px} {A B : Sp → Prop} {y : Int} {X : List Int} (h : WkF x A y X x1) (hab : ∀ s, A s ↔ B s) : WkF x B y X x1 := by
  have : A = B := funext fun s => propext (hab s)
  exact this ▸ h
theorem spP_ok {p : Nat} (h : p < 256) : SpOk (spP p) := by
  unfold SpOk spP
  refine ⟨by simp only; omega, by simp only; omega, ?_⟩
  simp only
  omega
/-- All whose deadlines pass have been woken. -/
theorem wakes_F {x : Px} (hz : (x.z.L.map Prod.fst).Nodup) {L : List (Int × Nat)} (hL : ∀ e ∈ L, e.2 < 256) : ∀ k, k ≤ L.length → WkF x (fun s => ∃ e ∈ L.take k, spP e.2 = s) 2 (x.wakes (L.take k)).1 (x.wakes (L.take k)).2 := by
  intro k
  induction k with
  | zero => intro _; exact (WkF.nil hz 2).iff (by simp)
  | succ k ih =>
    intro hk
    have h1 := ih (by omega)
    rw [Px.wakes_next (by omega)]
    have h2 := WkF.one (y := 2) h1.nd (spP_ok (hL (L[k]'(by omega)) (List.getElem_mem _)))
    refine (h1.app h2).iff fun s => ?_
    rw [List.take_succ_eq_append_getElem (by omega)]
    constructor
    · rintro (⟨e, a, b⟩ | rfl)
      · exact ⟨e, List.mem_append.2 (.inl a), b⟩
      · exact ⟨_, List.mem_append.2 (.inr (by simp)), rfl⟩
    · rintro ⟨e, a, b⟩
      rcases List.mem_append.1 a with h | h
      · exact .inl ⟨e, h, b⟩
      · right
        simp at h
        rw [← b, h]
theorem wakes_all {x : Px} (hz : (x.z.L.map Prod.fst).Nodup) {L : List (Int × Nat)} (hL : ∀ e ∈ L, e.2 < 256) : WkF x (fun s => ∃ e ∈ L, spP e.2 = s) 2 (x.wakes L).1 (x.wakes L).2 := by
  have := wakes_F hz hL L.length (Nat.le_refl _)
  rwa [List.take_length] at this
end Go.Proofs.YtcjeckjmoponkaaGreatDoor
