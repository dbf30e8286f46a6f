/- Lots as lists: the states, the run set, and the parked tasks in the order in which they were parked. -/
import Derived.Test.YtcdimopiaanfbaaDoorPMem
namespace Go.Proofs.YtcdimopiaanfbaaDoor
open Go.RowKit Go.Sort Go.MapKept
set_option linter.unusedVariables false
set_option linter.unusedSimpArgs false

abbrev Seats := List (Nat × Sp)
/-- Who waits at a spot. -/
def wt (s : Sp) (L : Seats) : List Nat := (L.filter fun x => decide (x.2 = s)).map Prod.fst
def SpOk (s : Sp) : Prop := 0 ≤ s.1 ∧ s.1 ≤ 127 ∧ (s.2 = 0 ∨ s.2 = 1)
def cat (l : List Nat) : List Int := l.map fun n => ((n : Nat) : Int)
/-- The seats without a task. -/
def woL (i : Nat) (L : Seats) : Seats := L.filter fun x => decide (x.1 ≠ i)
/-- A lot as it can be seen. -/
structure Zt where
  S : List Int
  R : List Int
  L : Seats
/-- A task goes to a state. -/
def Zt.step (z : Zt) (i : Nat) (tg : Int) : Zt := ⟨z.S.set i tg, woR ((i : Nat) : Int) z.R ++ (if tg = 1 then [((i : Nat) : Int)] else []), z.L⟩
def Zt.park (z : Zt) (i : Nat) (s : Sp) : Zt := ⟨z.S.set i 2, woR ((i : Nat) : Int) z.R, z.L ++ [(i, s)]⟩
def Zt.leave (z : Zt) (i : Nat) : Zt := ⟨z.S.set i 1, woR ((i : Nat) : Int) z.R ++ [((i : Nat) : Int)], woL i z.L⟩
def Zt.leaves (z : Zt) (l : List Nat) : Zt := l.foldl Zt.leave z

/-- The queues, the places and the table belong to the seats. -/
structure ZOk (P : Ks) (Q : Qu) (f : Sp → Option Qd) (pl : Int → Option Pl) (L : Seats) (G : Nat) : Prop where
  rk : Rk P Q
  st : ∀ i p, P[i]? = some p → (p.s = 2 ↔ i ∈ L.map Prod.fst)
  inP : ∀ i ∈ L.map Prod.fst, i < P.length
  nd : (L.map Prod.fst).Nodup
  qf : ∀ s d, f s = some d → d.L ≠ [] ∧ d.L.map Prod.snd = cat (wt s L) ∧ d.g ≤ G
  q0 : ∀ s, f s = none → wt s L = []
  p1 : ∀ i s, (i, s) ∈ L → ∃ k d, pl ((i : Nat) : Int) = some ⟨s, k⟩ ∧ f s = some d ∧ (k, ((i : Nat) : Int)) ∈ d.L
  p0 : ∀ N : Int, (∀ i : Nat, N = ((i : Nat) : Int) → i ∉ L.map Prod.fst) → pl N = none
  sp : ∀ x ∈ L, SpOk x.2

theorem mem_wt {s : Sp} {L : Seats} {i : Nat} : i ∈ wt s L ↔ (i, s) ∈ L := by
  simp [wt]
theorem cat_append (a b : List Nat) : cat (a ++ b) = cat a ++ cat b := by simp [cat]
theorem wt_append (s : Sp) (a b : Seats) : wt s (a ++ b) = wt s a ++ wt s b := by simp [wt]
theorem wt_nodup {s : Sp} {L : Seats} (h : (L.map Prod.fst).Nodup) : (wt s L).Nodup := h.sublist ((List.filter_sublist).map _)
theorem cat_nodup {l : List Nat} (h : l.Nodup) : (cat l).Nodup := by
  unfold cat
  rw [List.Nodup, List.pairwise_map]
  exact h.imp (fun h e => h (by omega))
theorem cat_filter (i : Nat) (l : List Nat) : cat (l.filter fun x => decide (x ≠ i)) = (cat l).filter fun x => decide (x ≠ ((i : Nat) : Int)) := by
  induction l with
  | nil => rfl
  | cons x r ih =>
    by_cases e : x = i
    · subst e
      simp [cat] at ih ⊢
      exact ih
    · have e2 : ((x : Nat) : Int) ≠ ((i : Nat) : Int) := by omega
      simp [cat, e, e2] at ih ⊢
      exact ih
theorem wt_woL (s : Sp) (i : Nat) (L : Seats) : wt s (woL i L) = (wt s L).filter fun x => decide (x ≠ i) := by
  unfold wt woL
  rw [List.filter_filter, List.filter_map, List.filter_filter]
  congr 1
  refine List.filter_congr fun x _ => ?_
  simp [Bool.and_comm]
theorem woL_map (i : Nat) (L : Seats) : (woL i L).map Prod.fst = (L.map Prod.fst).filter fun x => decide (x ≠ i) := by
  unfold woL
  rw [List.filter_map]
  rfl
theorem mem_woL {i : Nat} {L : Seats} {x : Nat × Sp} : x ∈ woL i L ↔ x ∈ L ∧ x.1 ≠ i := by simp [woL]
theorem seat_one {L : Seats} (h : (L.map Prod.fst).Nodup) {i : Nat} {s t : Sp} (h1 : (i, s) ∈ L) (h2 : (i, t) ∈ L) : s = t := by
  induction L with
  | nil => cases h1
  | cons x r ih =>
    simp only [List.map_cons, List.nodup_cons] at h
    rcases List.mem_cons.1 h1 with e1 | k1
    · rcases List.mem_cons.1 h2 with e2 | k2
      · rw [← e1] at e2; cases e2; rfl
      · rw [← e1] at h
        exact absurd (show i ∈ r.map Prod.fst from List.mem_map.2 ⟨(i, t), k2, rfl⟩) h.1
    · rcases List.mem_cons.1 h2 with e2 | k2
      · rw [← e2] at h
        exact absurd (show i ∈ r.map Prod.fst from List.mem_map.2 ⟨(i, s), k1, rfl⟩) h.1
      · exact ih h.2 k1 k2
theorem filter_split {a b : List Int} {i : Int} (h : (a ++ i :: b).Nodup) : (a ++ i :: b).filter (fun x => decide (x ≠ i)) = a ++ b := by
  rw [List.nodup_append] at h
  obtain ⟨h1, h2, h3⟩ := h
  rw [List.nodup_cons] at h2
  rw [List.filter_append, List.filter_cons]
  simp only [ne_eq, not_true_eq_false, decide_false, Bool.false_eq_true, if_false]
  congr 1
  · refine List.filter_eq_self.2 fun x hx => ?_
    simpa using h3 x hx i List.mem_cons_self
  · refine List.filter_eq_self.2 fun x hx => ?_
    have : x ≠ i := fun e => h2.1 (e ▸ hx)
    simpa using this

section
variable {P : Ks} {Q : Qu} {f : Sp → Option Qd} {pl : Int → Option Pl} {L : Seats} {G g i k : Nat} {s : Sp} {p : Ck} {tg : Int}
theorem ZOk.mono {G' : Nat} (h : ZOk P Q f pl L G) (hG : G ≤ G') : ZOk P Q f pl L G' :=
  ⟨h.rk, h.st, h.inP, h.nd, fun s d hd => by obtain ⟨a, b, c⟩ := h.qf s d hd; exact ⟨a, b, Nat.le_trans c hG⟩, h.q0, h.p1, h.p0, h.sp⟩
theorem ZOk.step (h : ZOk P Q f pl L G) (hp : P[i]? = some p) (h1 : p.s ≠ 2) (h2 : tg ≠ 2) (g : Nat) : ZOk (stepP P i tg g) (stepQ Q i tg g) f pl L G := by
  refine ⟨h.rk.step hp tg g, fun j q hq => ?_, fun j hj => by rw [stepP_len]; exact h.inP j hj, h.nd, h.qf, h.q0, h.p1, h.p0, h.sp⟩
  unfold stepP at hq
  rw [setK hp] at hq
  split at hq
  · rename_i e
    subst e
    cases hq
    have := h.st i p hp
    simp only
    constructor
    · intro e; exact absurd e h2
    · intro e; exact absurd (this.2 e) h1
  · exact h.st j q hq
theorem ZOk.park (h : ZOk P Q f pl L G) (hp : P[i]? = some p) (h1 : p.s ≠ 2) (hs : SpOk s) {d : Qd} (hd : f s = some d ∨ (f s = none ∧ d.L = [])) {G' : Nat} (hG : G ≤ G') (hk : k ≤ G') (g : Nat) :
    ZOk (stepP P i 2 g) (stepQ Q i 2 g) (updG f s (some ⟨d.q, d.b, d.m, d.L ++ [(k, ((i : Nat) : Int))], k⟩)) (updG pl ((i : Nat) : Int) (some ⟨s, k⟩)) (L ++ [(i, s)]) G' := by
  have hni : i ∉ L.map Prod.fst := fun hm => h1 ((h.st i p hp).2 hm)
  have hdl : d.L.map Prod.snd = cat (wt s L) := by
    rcases hd with hd | ⟨hd, e⟩
    · exact (h.qf s d hd).2.1
    · rw [e, h.q0 s hd]; rfl
  refine ⟨h.rk.step hp 2 g, fun j q hq => ?_, fun j hj => ?_, ?_, fun t x hx => ?_, fun t hx => ?_, fun j t hj => ?_, fun N hN => ?_, fun x hx => ?_⟩
  · unfold stepP at hq
    rw [setK hp] at hq
    split at hq
    · rename_i e
      subst e
      cases hq
      simp
    · rename_i e
      rw [h.st j q hq]
      simp
      omega
  · rw [stepP_len]
    rw [List.map_append] at hj
    rcases List.mem_append.1 hj with hj | hj
    · exact h.inP j hj
    · simp at hj
      subst hj
      exact (List.getElem?_eq_some_iff.1 hp).1
  · rw [List.map_append, List.nodup_append]
    refine ⟨h.nd, by simp, ?_⟩
    intro a ha b hb e
    simp at hb
    exact hni (by rw [← hb, ← e]; exact ha)
  · unfold updG at hx
    rw [wt_append, cat_append]
    by_cases e : t = s
    · rw [if_pos e] at hx
      cases hx
      subst e
      refine ⟨by simp, ?_, hk⟩
      simp only [List.map_append, hdl]
      simp [wt, cat]
    · rw [if_neg e] at hx
      obtain ⟨a, b, c⟩ := h.qf t x hx
      refine ⟨a, ?_, Nat.le_trans c hG⟩
      rw [b]
      simp [wt, cat, Ne.symm e]
  · unfold updG at hx
    by_cases e : t = s
    · rw [if_pos e] at hx; cases hx
    · rw [if_neg e] at hx
      rw [wt_append, h.q0 t hx]
      simp [wt, Ne.symm e]
  · unfold updG
    rcases List.mem_append.1 hj with hj | hj
    · have hne : j ≠ i := fun e => hni (by rw [← e]; exact List.mem_map.2 ⟨_, hj, rfl⟩)
      obtain ⟨kk, x, a, b, c⟩ := h.p1 j t hj
      rw [if_neg (by omega)]
      by_cases e : t = s
      · rw [if_pos e]
        subst e
        rcases hd with hd | ⟨hd, _⟩
        · rw [hd] at b
          cases b
          exact ⟨kk, _, a, rfl, List.mem_append_left _ c⟩
        · rw [hd] at b; cases b
      · rw [if_neg e]
        exact ⟨kk, x, a, b, c⟩
    · simp at hj
      obtain ⟨rfl, rfl⟩ := hj
      rw [if_pos rfl, if_pos rfl]
      exact ⟨k, _, rfl, rfl, by simp⟩
  · unfold updG
    rw [if_neg (fun e => hN i e (by simp))]
    exact h.p0 N fun j e hm => hN j e (by rw [List.map_append]; exact List.mem_append_left _ hm)
  · rcases List.mem_append.1 hx with hx | hx
    · exact h.sp x hx
    · simp at hx; subst hx; exact hs
theorem ZOk.leave (h : ZOk P Q f pl L G) (hm : (i, s) ∈ L) {d : Qd} (hd : f s = some d) {A R : Qu} (hL : d.L = A ++ (k, ((i : Nat) : Int)) :: R) (g : Nat) :
    ZOk (stepP P i 1 g) (stepQ Q i 1 g) (updG f s (if A ++ R = [] then none else some ⟨d.q, d.b, d.m, A ++ R, d.g⟩)) (updG pl ((i : Nat) : Int) none) (woL i L) G := by
  have hi : i ∈ L.map Prod.fst := List.mem_map.2 ⟨_, hm, rfl⟩
  have hp := List.getElem?_eq_getElem (h.inP i hi)
  have hwd : (A ++ R).map Prod.snd = cat (wt s (woL i L)) := by
    have h1 := (h.qf s d hd).2.1
    have h2 := cat_nodup (wt_nodup (s := s) h.nd)
    rw [wt_woL, cat_filter, ← h1, hL]
    rw [← h1, hL] at h2
    simp only [List.map_append, List.map_cons] at h2 ⊢
    rw [filter_split h2]
  have hwo : ∀ t, t ≠ s → wt t (woL i L) = wt t L := fun t e => by
    rw [wt_woL]
    refine List.filter_eq_self.2 fun x hx => ?_
    have : x ≠ i := fun e2 => e (seat_one h.nd (mem_wt.1 (e2 ▸ hx)) hm)
    simpa using this
  refine ⟨h.rk.step hp 1 g, fun j q hq => ?_, fun j hj => ?_, ?_, fun t x hx => ?_, fun t hx => ?_, fun j t hj => ?_, fun N hN => ?_, fun x hx => h.sp x (mem_woL.1 hx).1⟩
  · unfold stepP at hq
    rw [setK hp] at hq
    rw [woL_map]
    split at hq
    · rename_i e
      subst e
      cases hq
      simp
    · rename_i e
      rw [h.st j q hq]
      have : j ≠ i := fun e2 => e e2.symm
      rw [List.mem_filter]
      simp [this]
  · rw [stepP_len]
    rw [woL_map] at hj
    exact h.inP j (List.mem_filter.1 hj).1
  · rw [woL_map]; exact h.nd.sublist List.filter_sublist
  · unfold updG at hx
    by_cases e : t = s
    · rw [if_pos e] at hx
      split at hx
      · cases hx
      · rename_i hne
        cases hx
        subst e
        exact ⟨hne, hwd, (h.qf t d hd).2.2⟩
    · rw [if_neg e] at hx
      rw [hwo t e]
      exact h.qf t x hx
  · unfold updG at hx
    by_cases e : t = s
    · rw [if_pos e] at hx
      split at hx
      · rename_i he
        subst e
        rw [he] at hwd
        have : cat (wt t (woL i L)) = [] := hwd.symm
        unfold cat at this
        exact List.map_eq_nil_iff.1 this
      · cases hx
    · rw [if_neg e] at hx
      rw [hwo t e]
      exact h.q0 t hx
  · obtain ⟨hj, hne⟩ := mem_woL.1 hj
    simp only at hne
    obtain ⟨kk, x, a, b, c⟩ := h.p1 j t hj
    unfold updG
    rw [if_neg (by omega)]
    by_cases e : t = s
    · rw [if_pos e]
      subst e
      rw [hd] at b
      cases b
      rw [hL] at c
      have hc : (kk, ((j : Nat) : Int)) ∈ A ++ R := by
        rcases List.mem_append.1 c with c | c
        · exact List.mem_append_left _ c
        · rcases List.mem_cons.1 c with c | c
          · simp at c; omega
          · exact List.mem_append_right _ c
      rw [if_neg (fun e => by rw [e] at hc; cases hc)]
      exact ⟨kk, _, a, rfl, hc⟩
    · rw [if_neg e]
      exact ⟨kk, x, a, b, c⟩
  · unfold updG
    by_cases e : N = ((i : Nat) : Int)
    · rw [if_pos e]
    · rw [if_neg e]
      refine h.p0 N fun j e2 hm2 => hN j e2 ?_
      rw [woL_map, List.mem_filter]
      exact ⟨hm2, by simp; omega⟩
end

/-- A lot in memory that can be seen as z; G bounds its tickets. -/
def LS (B : Nat) (S : Nat → Prop) (w : World) (l : Ll) (z : Zt) (G : Nat) : Prop :=
  ∃ P Q g f pl, LAt B S w l P Q g f pl ∧ ZOk P Q f pl z.L G ∧ g ≤ G ∧ z.S = sts P ∧ z.R = vls Q
/-- What is true of every lot. -/
structure ZK (z : Zt) : Prop where
  n1 : 1 ≤ z.S.length
  n2 : z.S.length ≤ 64
  r : z.R.length ≤ 64
  l : z.L.length ≤ 64
  nd : (z.L.map Prod.fst).Nodup
  inS : ∀ i ∈ z.L.map Prod.fst, i < z.S.length
  st : ∀ i x, z.S[i]? = some x → (x = 2 ↔ i ∈ z.L.map Prod.fst)
  sp : ∀ x ∈ z.L, SpOk x.2
section
variable {B : Nat} {S : Nat → Prop} {w w' : World} {l : Ll} {z : Zt} {G G' : Nat}
theorem LS.zk (h : LS B S w l z G) : ZK z := by
  obtain ⟨P, Q, g, f, pl, hA, hZ, hg, h1, h2⟩ := h
  have e1 : z.S.length = P.length := by rw [h1, sts_len]
  have e2 : z.R.length ≤ P.length := by rw [h2]; unfold vls; rw [List.length_map]; exact hZ.rk.len hA.k.qa.inc
  have hn1 := hA.k.n1
  have hn2 := hA.k.n2
  have hl : (cat (z.L.map Prod.fst)).length ≤ P.length := nodup_len _ _ (cat_nodup hZ.nd) (fun x hx => by
    unfold cat at hx
    obtain ⟨i, hi, rfl⟩ := List.mem_map.1 hx
    exact ⟨i, rfl, hZ.inP i hi⟩)
  refine ⟨by omega, by omega, by omega, by simp [cat] at hl; omega, hZ.nd, fun i hi => by rw [e1]; exact hZ.inP i hi, fun i x hx => ?_, hZ.sp⟩
  rw [h1] at hx
  unfold sts at hx
  rw [List.getElem?_map] at hx
  cases hp : P[i]? with
  | none => rw [hp] at hx; cases hx
  | some p => rw [hp] at hx; cases hx; exact hZ.st i p hp
theorem LS.grown (h : LS B S w l z G) (hb : Below w.heap.size w w') : LS B S w' l z G := by
  obtain ⟨P, Q, g, f, pl, hA, r⟩ := h
  exact ⟨P, Q, g, f, pl, hA.grown hb, r⟩
theorem LS.mono (h : LS B S w l z G) (hG : G ≤ G') : LS B S w l z G' := by
  obtain ⟨P, Q, g, f, pl, hA, hZ, hg, r⟩ := h
  exact ⟨P, Q, g, f, pl, hA, hZ.mono hG, Nat.le_trans hg hG, r⟩
theorem LS.keep {S2 : Nat → Prop} (h : LS B S w l z G) (hf : FrL S2 w w') (hd : ∀ x, x < w.heap.size → S x → ¬ S2 x) (hm : 0 < w.heap.size → ¬ S2 0) : LS B S w' l z G := by
  obtain ⟨P, Q, g, f, pl, hA, r⟩ := h
  exact ⟨P, Q, g, f, pl, hA.keep hf hd hm, r⟩
theorem LS.fr {F : List Nat} (h : LS B S w l z G) (hf : Fr F w w') (hF : ∀ x ∈ F, B ≤ x ∧ NotL w x) : LS B S w' l z G := by
  obtain ⟨P, Q, g, f, pl, hA, r⟩ := h
  exact ⟨P, Q, g, f, pl, hA.fr hf hF, r⟩
end
end Go.Proofs.YtcdimopiaanfbaaDoor
