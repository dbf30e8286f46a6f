/- PollerHolds without any memory: each call keeps the invariant, and wakes as it should. -/
import Derived.Test.YtcjeckjmoponkaaGreatDoorUHq
namespace Go.Proofs.YtcjeckjmoponkaaGreatDoor
open Go.RowKit Go.Sort
set_option linter.unusedVariables false
set_option linter.unusedSimpArgs false
section
variable {x : Px} {B : Nat}

theorem setT_len (T : Sl.Tab) (n : Nat) (p : Sl.Pl) : (T.set n p).length = T.length := by simp
theorem plI_at (n : Nat) (D : Int) (hD : D = 0 ∨ D = 1) : plI ((n : Nat) : Int) D = 2 * n + D.toNat := by unfold plI; simp; omega
theorem plI_ne {n m : Nat} {D E : Int} (hD : D = 0 ∨ D = 1) (hE : E = 0 ∨ E = 1) (h : plI ((n : Nat) : Int) D = plI ((m : Nat) : Int) E) : n = m ∧ D = E := by
  rw [plI_at n D hD, plI_at m E hE] at h
  rcases hD with rfl | rfl <;> rcases hE with rfl | rfl <;> simp at h ⊢ <;> omega

/-- Open. -/
theorem PI.opn (h : PI x B) (v : Int) (hz : ZK (opnC x v).2.2.z) : PI (opnC x v).2.2 B ∧ SO x (opnC x v).2.2 [] 0 0 0 ∧
    ((opnC x v).2.1 = 0 → ∀ D : Int, D = 0 ∨ D = 1 → chkC (opnC x v).2.2 (opnC x v).1.1 (opnC x v).1.2 D = 0) := by
  unfold opnC
  cases hq : x.T[Sl.free x.T]? with
  | none => exact ⟨h, SO.same x _ _ _, fun h0 => by simp at h0⟩
  | some p =>
    have hlt : Sl.free x.T < x.T.length := (List.getElem?_eq_some_iff.1 hq).1
    obtain ⟨p', hp', ho'⟩ := Sl.free_lt hlt
    have hpo : p.o = false := by rw [hq] at hp'; rw [Option.some.inj hp']; exact ho'
    have hset : ∀ n q, (x.T.set (Sl.free x.T) ⟨true, p.g, v⟩)[n]? = some q → (n = Sl.free x.T ∧ q = ⟨true, p.g, v⟩) ∨ (n ≠ Sl.free x.T ∧ x.T[n]? = some q) := fun n q hn => by
      by_cases e : n = Sl.free x.T
      · subst e
        rw [List.getElem?_set_self hlt] at hn
        exact .inl ⟨rfl, (Option.some.inj hn).symm⟩
      · rw [List.getElem?_set_ne (Ne.symm e)] at hn
        exact .inr ⟨e, hn⟩
    refine ⟨⟨h.zk, by rw [setT_len]; exact h.tl, h.rl, h.nn, fun i s hs => ?_, fun n q hn ho => ?_, fun n q hn => ?_⟩, (by refine SO.idle (x := x) ?_ ?_ _ _ _ <;> first | rfl | exact fun _ a => a), fun _ D hD => ?_⟩
    · obtain ⟨q, a, b, c⟩ := h.op i s hs
      refine ⟨q, ?_, b, c⟩
      show (x.T.set (Sl.free x.T) _)[s.1.toNat]? = _
      rw [List.getElem?_set_ne (fun e => by rw [e, a] at hq; rw [Option.some.inj hq] at b; rw [hpo] at b; cases b)]
      exact a
    · rcases hset n q hn with ⟨_, rfl⟩ | ⟨_, hn'⟩
      · cases ho
      · exact h.cl n q hn' ho
    · rcases hset n q hn with ⟨_, rfl⟩ | ⟨_, hn'⟩
      · show p.g ≤ B
        exact h.gb _ _ hq
      · exact h.gb n q hn'
    · show chkC { x with T := x.T.set (Sl.free x.T) ⟨true, p.g, v⟩ } ((Sl.free x.T : Nat) : Int) ((p.g : Nat) : Int) D = 0
      have h1 := chk_open (x := { x with T := x.T.set (Sl.free x.T) ⟨true, p.g, v⟩ }) (n := Sl.free x.T) (p := ⟨true, p.g, v⟩) (D := D) (List.getElem?_set_self hlt) rfl hD
      refine h1.trans ?_
      have h2 := h.cl _ _ hq hpo
      rw [if_neg]
      show ¬ (x.f (plI ((Sl.free x.T : Nat) : Int) D) ≤ x.now)
      have h3 := h.nn
      rw [plI_at _ D hD]
      rcases hD with rfl | rfl
      · rw [show 2 * Sl.free x.T + (0 : Int).toNat = 2 * Sl.free x.T from rfl, h2.1]; omega
      · rw [show 2 * Sl.free x.T + (1 : Int).toNat = 2 * Sl.free x.T + 1 from rfl, h2.2]; omega
/-- The invariant behind a call that wakes. -/
theorem PI.wake {x0 x' : Px} {A : Sp → Prop} {y : Int} {X : List Int} {B' : Nat} (h : PI x B) (hw : WkF x0 A y X x') (hz : x0.z = x.z) (hR : x0.R = x.R) (hzk : ZK x'.z) (htl : x0.T.length = 128) (hnn : x0.now < Dl.never)
    (hop : ∀ i s, seatOf x.z.L i = some s → ¬ A s → ∃ p, x0.T[s.1.toNat]? = some p ∧ p.o = true ∧ x0.now < x0.f (plI s.1 s.2))
    (hcl : ∀ n p, x0.T[n]? = some p → p.o = false → x0.f (2 * n) = Dl.never ∧ x0.f (2 * n + 1) = Dl.never) (hgb : ∀ (n : Nat) (p : Sl.Pl), x0.T[n]? = some p → p.g ≤ B') : PI x' B' := by
  refine ⟨hzk, by rw [hw.T]; exact htl, by rw [hw.rl, hw.ln, hR, hz]; exact h.rl, by rw [hw.now]; exact hnn, fun i s hs => ?_, by rw [hw.T, hw.f]; exact hcl, by rw [hw.T]; exact hgb⟩
  obtain ⟨a, b⟩ := (hw.seat i s).1 hs
  rw [hz] at a
  obtain ⟨p, c, d, e⟩ := hop i s a b
  exact ⟨p, by rw [hw.T]; exact c, d, by rw [hw.now, hw.f]; exact e⟩
/-- SignalAll. -/
theorem PI.sga (h : PI x B) (N K D : Int) (hz : ZK (sgaC x N K D).2.2.z) : PI (sgaC x N K D).2.2 B ∧ SO x (sgaC x N K D).2.2 (sgaC x N K D).1 1 0 0 := by
  unfold sgaC at hz ⊢
  by_cases hc : x.code N K D = 0
  · rw [if_neg (by simp [hc])] at hz ⊢
    obtain ⟨n, p, rfl, rfl, hp, ho, hD⟩ := Px.code_ok hc
    have hn : n < 128 := by rw [← h.tl]; exact (List.getElem?_eq_some_iff.1 hp).1
    have hw := WkF.one (x := x) h.zk.nd (s := (((n : Nat) : Int), D)) ⟨by simp only; omega, by simp only; omega, hD⟩ 1
    exact ⟨PI.wake (x := x) h hw rfl rfl hz h.tl h.nn (fun i s hs _ => h.op i s hs) h.cl h.gb, SO.wake (x := x) hw rfl h.rl h.zk.l _ _ (fun e => by simp at e) (fun e => by simp at e)⟩
  · rw [if_pos hc] at hz ⊢
    exact ⟨h, SO.same x _ _ _⟩
/-- Deadline. -/
theorem PI.dln (h : PI x B) (N K D tt : Int) (hz : ZK (dlnC x N K D tt).2.2.z) : PI (dlnC x N K D tt).2.2 B ∧ SO x (dlnC x N K D tt).2.2 (dlnC x N K D tt).1 2 0 0 := by
  unfold dlnC at hz ⊢
  by_cases hc : x.code N K D = 0
  · rw [if_neg (by simp [hc])] at hz ⊢
    obtain ⟨n, p, rfl, rfl, hp, ho, hD⟩ := Px.code_ok hc
    have hn : n < 128 := by rw [← h.tl]; exact (List.getElem?_eq_some_iff.1 hp).1
    have hcl : ∀ m q, x.T[m]? = some q → q.o = false → Dl.upd x.f (plI ((n : Nat) : Int) D) tt (2 * m) = Dl.never ∧ Dl.upd x.f (plI ((n : Nat) : Int) D) tt (2 * m + 1) = Dl.never := fun m q hm hq => by
      have hne : m ≠ n := fun e => by rw [e, hp] at hm; rw [← Option.some.inj hm, ho] at hq; cases hq
      have h1 := h.cl m q hm hq
      have h2 := plI_at n D hD
      unfold Dl.upd
      rw [if_neg (by rw [h2]; rcases hD with rfl | rfl <;> simp <;> omega), if_neg (by rw [h2]; rcases hD with rfl | rfl <;> simp <;> omega)]
      exact h1
    have hoth : ∀ i s, seatOf x.z.L i = some s → s ≠ (((n : Nat) : Int), D) → Dl.upd x.f (plI ((n : Nat) : Int) D) tt (plI s.1 s.2) = x.f (plI s.1 s.2) := fun i s hs hne => by
      obtain ⟨m, q, h1, h2, h3, h4, h5, h6⟩ := h.name hs
      unfold Dl.upd
      rw [if_neg]
      intro e
      rw [h1] at e
      obtain ⟨e1, e2⟩ := plI_ne h5 hD e
      exact hne (Prod.ext (by rw [h1, e1]) e2)
    by_cases ht : tt ≤ x.now
    · rw [if_pos ht] at hz ⊢
      have hw := WkF.one (x := { x with f := Dl.upd x.f (plI ((n : Nat) : Int) D) tt }) h.zk.nd (s := (((n : Nat) : Int), D)) ⟨by simp only; omega, by simp only; omega, hD⟩ 2
      refine ⟨PI.wake (x := x) h hw rfl rfl hz h.tl h.nn (fun i s hs hA => ?_) hcl h.gb, SO.wake (x := x) hw rfl h.rl h.zk.l _ _ (fun _ i s hA hs => ?_) (fun e => by simp at e)⟩
      · obtain ⟨q, a, b, c⟩ := h.op i s hs
        exact ⟨q, a, b, by show x.now < Dl.upd x.f _ tt _; rw [hoth i s hs hA]; exact c⟩
      · obtain ⟨m, q, h1, h2, h3, h4, h5, h6⟩ := h.name hs
        subst hA
        rw [h4]
        have := chk_open (x := (Px.wake { x with f := Dl.upd x.f (plI ((n : Nat) : Int) D) tt } (((n : Nat) : Int), D) 2).2) (n := m) (p := q) (D := D) (by rw [hw.T]; exact h2) h3 hD
        rw [this, hw.f, hw.now, if_pos]
        have e : m = n := by simp only at h1; omega
        subst e
        show Dl.upd x.f _ tt _ ≤ x.now
        unfold Dl.upd
        rw [if_pos rfl]
        exact ht
    · rw [if_neg ht] at hz ⊢
      refine ⟨⟨h.zk, h.tl, h.rl, h.nn, fun i s hs => ?_, hcl, h.gb⟩, (by refine SO.idle (x := x) ?_ ?_ _ _ _ <;> first | rfl | exact fun _ a => a)⟩
      obtain ⟨q, a, b, c⟩ := h.op i s hs
      refine ⟨q, a, b, ?_⟩
      show x.now < Dl.upd x.f _ tt _
      by_cases e : s = (((n : Nat) : Int), D)
      · subst e
        unfold Dl.upd
        rw [if_pos rfl]
        omega
      · rw [hoth i s hs e]; exact c
  · rw [if_pos hc] at hz ⊢
    exact ⟨h, SO.same x _ _ _⟩
/-- Close. -/
theorem PI.clo (h : PI x B) (N K : Int) (hz : ZK (cloC x N K).2.2.z) : PI (cloC x N K).2.2 (B + 1) ∧ SO x (cloC x N K).2.2 (cloC x N K).1 3 N K := by
  unfold cloC at hz ⊢
  cases hq : fdI x.T N K with
  | none =>
    rw [hq] at hz
    exact ⟨h.mono (Nat.le_succ _), SO.same x _ _ _⟩
  | some np =>
    obtain ⟨n, p⟩ := np
    rw [hq] at hz
    obtain ⟨rfl, rfl, hp, ho⟩ := fdI_some hq
    have hlt : n < x.T.length := (List.getElem?_eq_some_iff.1 hp).1
    have hn : n < 128 := by rw [← h.tl]; exact hlt
    have w1 := WkF.one (x := x.shut n p) h.zk.nd (s := (((n : Nat) : Int), (0 : Int))) ⟨by simp only; omega, by simp only; omega, .inl rfl⟩ 3
    have w2 := WkF.one (x := ((x.shut n p).wake (((n : Nat) : Int), 0) 3).2) w1.nd (s := (((n : Nat) : Int), (1 : Int))) ⟨by simp only; omega, by simp only; omega, .inr rfl⟩ 3
    have hw := w1.app w2
    have hset : ∀ m q, (x.T.set n ⟨false, p.g + 1, 0⟩)[m]? = some q → (m = n ∧ q = ⟨false, p.g + 1, 0⟩) ∨ (m ≠ n ∧ x.T[m]? = some q) := fun m q hm => by
      by_cases e : m = n
      · subst e
        rw [List.getElem?_set_self hlt] at hm
        exact .inl ⟨rfl, (Option.some.inj hm).symm⟩
      · rw [List.getElem?_set_ne (Ne.symm e)] at hm
        exact .inr ⟨e, hm⟩
    have hclr : ∀ m, m ≠ n → Dl.clear x.f n (2 * m) = x.f (2 * m) ∧ Dl.clear x.f n (2 * m + 1) = x.f (2 * m + 1) := fun m hm => by
      unfold Dl.clear Dl.upd
      refine ⟨by rw [if_neg (by omega), if_neg (by omega)], by rw [if_neg (by omega), if_neg (by omega)]⟩
    have hclr0 : Dl.clear x.f n (2 * n) = Dl.never ∧ Dl.clear x.f n (2 * n + 1) = Dl.never := by
      unfold Dl.clear Dl.upd
      refine ⟨by rw [if_neg (by omega), if_pos (by omega)], by rw [if_pos (by omega)]⟩
    refine ⟨PI.wake (x := x) h hw rfl rfl hz (by show (x.T.set n _).length = 128; rw [setT_len]; exact h.tl) h.nn (fun i s hs hA => ?_) (fun m q hm hqo => ?_) (fun m q hm => ?_), SO.wake (x := x) hw rfl h.rl h.zk.l _ _ (fun e => by simp at e) (fun _ i s hA hs => ?_)⟩
    · obtain ⟨m, q, h1, h2, h3, h4, h5, h6⟩ := h.name hs
      have hne : m ≠ n := fun e => hA (by
        rcases h5 with e5 | e5
        · exact .inl (Prod.ext (by rw [h1, e]) e5)
        · exact .inr (Prod.ext (by rw [h1, e]) e5))
      refine ⟨q, ?_, h3, ?_⟩
      · show (x.T.set n _)[s.1.toNat]? = _
        rw [h1, List.getElem?_set_ne (by simp; omega)]
        simpa using h2
      · show x.now < Dl.clear x.f n _
        rw [h1] at h6 ⊢
        rw [plI_at m s.2 h5] at h6 ⊢
        have := hclr m hne
        rcases h5 with e5 | e5
        · rw [e5] at h6 ⊢; rw [show 2 * m + (0 : Int).toNat = 2 * m from rfl] at h6 ⊢; rw [this.1]; exact h6
        · rw [e5] at h6 ⊢; rw [show 2 * m + (1 : Int).toNat = 2 * m + 1 from rfl] at h6 ⊢; rw [this.2]; exact h6
    · rcases hset m q hm with ⟨rfl, _⟩ | ⟨hne, hm'⟩
      · exact hclr0
      · have := hclr m hne
        have h1 := h.cl m q hm' hqo
        exact ⟨this.1.trans h1.1, this.2.trans h1.2⟩
    · rcases hset m q hm with ⟨rfl, rfl⟩ | ⟨hne, hm'⟩
      · have := h.gb _ _ hp
        show p.g + 1 ≤ B + 1
        omega
      · have := h.gb m q hm'
        omega
    · obtain ⟨m, q, h1, h2, h3, h4, h5, h6⟩ := h.name hs
      have e : m = n := by
        rcases hA with rfl | rfl <;> simp only at h1 <;> omega
      subst e
      rw [hp] at h2
      obtain rfl := Option.some.inj h2
      refine ⟨h4, ?_⟩
      unfold chkC
      have hcode : Px.code (((Px.wake (x.shut m p) (((m : Nat) : Int), 0) 3).2.wake (((m : Nat) : Int), 1) 3).2) ((m : Nat) : Int) ((p.g : Nat) : Int) s.2 = 9 := by
        unfold Px.code
        rw [if_neg (by omega), hw.T]
        have : fdI (x.shut m p).T ((m : Nat) : Int) ((p.g : Nat) : Int) = none := by
          unfold fdI
          rw [if_pos (by omega)]
          show (match (x.T.set m ⟨false, p.g + 1, 0⟩)[(((m : Nat) : Int)).toNat]? with | some p_1 => _ | none => none) = none
          simp [hlt]
        rw [this]
        rfl
      rw [hcode, if_pos (by omega)]
/-- Advance. -/
theorem PI.adv (h : PI x B) {tt : Int} (htt : tt < Dl.never) (hl : x.now ≤ tt) {L : List (Int × Nat)} (hL : Dl.IsLap x.now tt x.f L) (hz : ZK ((x.at' tt).wakes L).2.z) : PI ((x.at' tt).wakes L).2 B ∧ SO x ((x.at' tt).wakes L).2 ((x.at' tt).wakes L).1 2 0 0 := by
  have hw := wakes_all (x := x.at' tt) h.zk.nd (L := L) (fun e he => ((hL.mem e).1 he).1)
  have hsp : ∀ i s, seatOf x.z.L i = some s → ∀ p : Nat, spP p = s ↔ p = plI s.1 s.2 := fun i s hs p => by
    obtain ⟨m, q, h1, h2, h3, h4, h5, h6⟩ := h.name hs
    rw [h1, plI_at m s.2 h5]
    unfold spP
    constructor
    · intro e
      rw [← e] at h1 h5 ⊢
      simp only at h1 h5 ⊢
      rcases h5 with h5 | h5 <;> rw [h5] <;> simp <;> omega
    · intro e
      refine Prod.ext ?_ ?_
      · show ((p / 2 : Nat) : Int) = s.1
        rw [h1, e]
        rcases h5 with h5 | h5 <;> rw [h5] <;> simp <;> omega
      · show ((p % 2 : Nat) : Int) = s.2
        rw [e]
        rcases h5 with h5 | h5 <;> rw [h5] <;> simp <;> omega
  refine ⟨PI.wake (x := x) h hw rfl rfl hz h.tl htt (fun i s hs hA => ?_) h.cl h.gb, SO.wake (x := x) hw rfl h.rl h.zk.l _ _ (fun _ i s hA hs => ?_) (fun e => by simp at e)⟩
  · obtain ⟨q, a, b, c⟩ := h.op i s hs
    refine ⟨q, a, b, ?_⟩
    show tt < x.f (plI s.1 s.2)
    apply Classical.byContradiction
    intro hn
    have hlt : plI s.1 s.2 < 256 := by
      obtain ⟨m, q, h1, h2, h3, h4, h5, h6⟩ := h.name hs
      have hm : m < 128 := by rw [← h.tl]; exact (List.getElem?_eq_some_iff.1 h2).1
      rw [h1, plI_at m s.2 h5]
      rcases h5 with h5 | h5 <;> rw [h5] <;> simp <;> omega
    exact hA ⟨(x.f (plI s.1 s.2), plI s.1 s.2), (hL.mem _).2 ⟨hlt, rfl, c, by show x.f (plI s.1 s.2) ≤ tt; omega⟩, (hsp i s hs _).2 rfl⟩
  · obtain ⟨e, he, hes⟩ := hA
    have hp := (hsp i s hs _).1 hes
    obtain ⟨_, _, _, h4⟩ := (hL.mem e).1 he
    obtain ⟨m, q, h1, h2, h3, h4', h5, h6⟩ := h.name hs
    rw [h4']
    have := chk_open (x := ((x.at' tt).wakes L).2) (n := m) (p := q) (D := s.2) (by rw [hw.T]; exact h2) h3 h5
    rw [this, hw.f, hw.now, if_pos]
    show x.f _ ≤ tt
    rw [← h1, ← hp]
    exact h4
end
end Go.Proofs.YtcjeckjmoponkaaGreatDoor
