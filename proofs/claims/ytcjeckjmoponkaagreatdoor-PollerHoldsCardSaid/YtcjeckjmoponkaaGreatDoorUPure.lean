/- A poller without any memory: what its calls answer and leave. -/
import Derived.Test.YtcjeckjmoponkaaGreatDoorQParkB
import Derived.Test.YtcjeckjmoponkaaGreatDoorQSlA
import Derived.Test.YtcjeckjmoponkaaGreatDoorQDlE
namespace Go.Proofs.YtcjeckjmoponkaaGreatDoor
open Go.RowKit Go.Sort
set_option linter.unusedVariables false
set_option linter.unusedSimpArgs false

/-- A poller as it can be seen. -/
structure Px where
  T : Sl.Tab
  z : Zt
  now : Int
  f : Nat → Int
  R : List Int

/-- The open descriptor of a name. -/
def fdI (T : Sl.Tab) (N K : Int) : Option (Nat × Sl.Pl) :=
  if 0 ≤ N then match T[N.toNat]? with
    | some p => if p.o = true ∧ K = ((p.g : Nat) : Int) then some (N.toNat, p) else none
    | none => none
  else none
theorem fdI_some {T : Sl.Tab} {N K : Int} {n : Nat} {p : Sl.Pl} (h : fdI T N K = some (n, p)) : N = ((n : Nat) : Int) ∧ K = ((p.g : Nat) : Int) ∧ T[n]? = some p ∧ p.o = true := by
  unfold fdI at h
  split at h
  · rename_i h0
    split at h
    · rename_i q hq
      split at h
      · rename_i hc
        simp only [Option.some.injEq, Prod.mk.injEq] at h
        obtain ⟨rfl, rfl⟩ := h
        exact ⟨by omega, hc.2, hq, hc.1⟩
      · simp at h
    · simp at h
  · simp at h
theorem fdI_at {T : Sl.Tab} {n : Nat} {p : Sl.Pl} (h : T[n]? = some p) (ho : p.o = true) : fdI T ((n : Nat) : Int) ((p.g : Nat) : Int) = some (n, p) := by
  unfold fdI
  rw [if_pos (by omega)]
  simp [h, ho]
theorem fdI_none {T : Sl.Tab} {N K : Int} (h : fdI T N K = none) : Sl.NoFd T N K := by
  intro n p hN hp ho hk
  subst hN
  rw [hk, fdI_at hp ho] at h
  simp at h
/-- The error of a name and a direction. -/
def Px.code (x : Px) (N K D : Int) : Int := if D ≠ 0 ∧ D ≠ 1 then 2 else if (fdI x.T N K).isSome then 0 else 9
theorem Px.code_ok {x : Px} {N K D : Int} (h : x.code N K D = 0) : ∃ n p, N = ((n : Nat) : Int) ∧ K = ((p.g : Nat) : Int) ∧ x.T[n]? = some p ∧ p.o = true ∧ (D = 0 ∨ D = 1) := by
  unfold Px.code at h
  split at h
  · simp at h
  · rename_i hd
    split at h
    · rename_i hs
      obtain ⟨⟨n, p⟩, hq⟩ := Option.isSome_iff_exists.1 hs
      obtain ⟨a, b, c, d⟩ := fdI_some hq
      exact ⟨n, p, a, b, c, d, by omega⟩
    · simp at h
/-- The reasons of some tasks, set. -/
def setR (R : List Int) (l : List Int) (y : Int) : List Int := l.foldl (fun R i => R.set i.toNat y) R
theorem setR_len (l : List Int) (y : Int) : ∀ R, (setR R l y).length = R.length := by
  induction l with
  | nil => intro R; rfl
  | cons i r ih => intro R; show (setR (R.set i.toNat y) r y).length = _; rw [ih]; simp
theorem setR_next {R l : List Int} {y : Int} {k : Nat} (h : k < l.length) : setR R (l.take (k + 1)) y = (setR R (l.take k) y).set (l[k]).toNat y := by
  unfold setR
  rw [List.take_succ_eq_append_getElem h, List.foldl_append]
  rfl
/-- All who wait at a spot are woken. -/
def Px.wake (x : Px) (s : Sp) (y : Int) : List Int × Px := ((wkaC x.z s).1, { x with z := (wkaC x.z s).2.2, R := setR x.R (wkaC x.z s).1 y })
def spP (p : Nat) : Sp := (((p / 2 : Nat) : Int), ((p % 2 : Nat) : Int))
/-- All who wait at the spots of some deadlines are woken. -/
def Px.wakes (x : Px) (L : List (Int × Nat)) : List Int × Px := L.foldl (fun a y => (a.1 ++ (a.2.wake (spP y.2) 2).1, (a.2.wake (spP y.2) 2).2)) ([], x)
theorem Px.wakes_next {x : Px} {L : List (Int × Nat)} {k : Nat} (h : k < L.length) : x.wakes (L.take (k + 1)) = ((x.wakes (L.take k)).1 ++ ((x.wakes (L.take k)).2.wake (spP (L[k]).2) 2).1, ((x.wakes (L.take k)).2.wake (spP (L[k]).2) 2).2) := by
  unfold Px.wakes
  rw [List.take_succ_eq_append_getElem h, List.foldl_append]
  rfl
def opnC (x : Px) (v : Int) : (Int × Int) × Int × Px := match x.T[Sl.free x.T]? with
  | some p => ((((Sl.free x.T : Nat) : Int), ((p.g : Nat) : Int)), 0, { x with T := x.T.set (Sl.free x.T) ⟨true, p.g, v⟩ })
  | none => ((0, 0), 7, x)
def Px.shut (x : Px) (n : Nat) (p : Sl.Pl) : Px := { x with T := x.T.set n ⟨false, p.g + 1, 0⟩, f := Dl.clear x.f n }
def cloC (x : Px) (N K : Int) : List Int × Int × Px := match fdI x.T N K with
  | some (n, p) => ((((x.shut n p).wake (((n : Nat) : Int), 0) 3).1 ++ (((x.shut n p).wake (((n : Nat) : Int), 0) 3).2.wake (((n : Nat) : Int), 1) 3).1, 0, (((x.shut n p).wake (((n : Nat) : Int), 0) 3).2.wake (((n : Nat) : Int), 1) 3).2))
  | none => ([], 9, x)
def plI (N D : Int) : Nat := N.toNat * 2 + D.toNat
def dlnC (x : Px) (N K D t : Int) : List Int × Int × Px := if x.code N K D ≠ 0 then ([], x.code N K D, x)
  else if t ≤ x.now then ((({ x with f := Dl.upd x.f (plI N D) t } : Px).wake (N, D) 2).1, 0, (({ x with f := Dl.upd x.f (plI N D) t } : Px).wake (N, D) 2).2)
  else ([], 0, { x with f := Dl.upd x.f (plI N D) t })
def chkC (x : Px) (N K D : Int) : Int := if x.code N K D ≠ 0 then x.code N K D else if x.f (plI N D) ≤ x.now then 12 else 0
def waiC (x : Px) (i N K D : Int) : Int × Px := if (stC x.z i).2 ≠ 0 then ((stC x.z i).2, x) else if x.code N K D ≠ 0 then (x.code N K D, x) else if (stC x.z i).1 ≠ 1 then (8, x)
  else if x.f (plI N D) ≤ x.now then (12, x) else ((pkC x.z i (N, D)).1, { x with z := (pkC x.z i (N, D)).2 })
def sigC (x : Px) (N K D : Int) : Int × Int × Px := if x.code N K D ≠ 0 then (0, x.code N K D, x)
  else if (wkC x.z (N, D)).2.1 ≠ 0 then (0, (wkC x.z (N, D)).2.1, { x with z := (wkC x.z (N, D)).2.2 })
  else ((wkC x.z (N, D)).1, 0, { x with z := (wkC x.z (N, D)).2.2, R := x.R.set (wkC x.z (N, D)).1.toNat 1 })
def sgaC (x : Px) (N K D : Int) : List Int × Int × Px := if x.code N K D ≠ 0 then ([], x.code N K D, x) else ((x.wake (N, D) 1).1, 0, (x.wake (N, D) 1).2)
def Px.at' (x : Px) (t : Int) : Px := { x with now := t }
def staC (x : Px) (i : Int) : Int × Px := ((stepC 0 x.z i).1, { x with z := (stepC 0 x.z i).2, R := if (stepC 0 x.z i).1 = 0 then x.R.set i.toNat 0 else x.R })
def finC (x : Px) (i : Int) : Int × Px := ((stepC 3 x.z i).1, { x with z := (stepC 3 x.z i).2 })
def turC (x : Px) (i : Int) : Int × Px := ((stepC 4 x.z i).1, { x with z := (stepC 4 x.z i).2 })
def rsnC (x : Px) (i : Int) : Int × Int := if (stC x.z i).2 ≠ 0 then (0, (stC x.z i).2) else if (stC x.z i).1 ≠ 1 then (0, 8) else (x.R.getD i.toNat 0, 0)
/-- The name of a number. -/
def namC (T : Sl.Tab) (N : Int) : Int × Int := if 0 ≤ N then match T[N.toNat]? with
    | some p => if p.o = true then (N, ((p.g : Nat) : Int)) else (0, 0)
    | none => (0, 0)
  else (0, 0)
def wheC (x : Px) (i : Int) : (Int × Int) × Int × Int := if (whC x.z i).2 ≠ 0 then ((0, 0), 0, (whC x.z i).2) else (namC x.T (whC x.z i).1.1, (whC x.z i).1.2, 0)

theorem leaves_num (l : List Nat) : ∀ z : Zt, (z.L.map Prod.fst).Nodup → l.Nodup → (∀ i ∈ l, i ∈ z.L.map Prod.fst) → (z.leaves l).L.length + l.length = z.L.length := by
  induction l with
  | nil => intro z _ _ _; rfl
  | cons i r ih =>
    intro z hz hl hm
    obtain ⟨hi, hr⟩ := List.nodup_cons.1 hl
    have h1 : (z.leave i).L = z.L.filter fun x => decide (x.1 ≠ i) := rfl
    have h2 : ((z.leave i).L.map Prod.fst).Nodup := by rw [h1]; exact (List.filter_sublist.map _).nodup hz
    have h3 := ih (z.leave i) h2 hr (fun j hj => by
      obtain ⟨x, hx, rfl⟩ := List.mem_map.1 (hm j (List.mem_cons_of_mem _ hj))
      refine List.mem_map.2 ⟨x, ?_, rfl⟩
      rw [h1]
      exact List.mem_filter.2 ⟨hx, by simp only [decide_eq_true_eq]; intro e; exact hi (e ▸ hj)⟩)
    show ((z.leave i).leaves r).L.length + (r.length + 1) = _
    have h4 : (z.leave i).L.length + 1 = z.L.length := by
      rw [h1]
      have hm1 := hm i List.mem_cons_self
      clear h1 h2 h3 ih hm
      generalize z.L = L at *
      induction L with
      | nil => simp at hm1
      | cons y s ih =>
        simp only [List.map_cons, List.nodup_cons, List.mem_cons] at hz hm1
        by_cases hy : y.1 = i
        · rw [List.filter_cons_of_neg (by simp [hy])]
          have : (s.filter fun x => decide (x.1 ≠ i)) = s := List.filter_eq_self.2 (fun x hx => by
            simp only [ne_eq, decide_eq_true_eq]
            intro e
            exact hz.1 (hy ▸ e ▸ List.mem_map_of_mem hx))
          rw [this]; rfl
        · rw [List.filter_cons_of_pos (by simp [hy])]
          have := ih hz.2 (hm1.elim (fun h => absurd h.symm hy) id)
          simp only [List.length_cons]
          omega
    omega
theorem wt_sub (s : Sp) (L : Seats) : (wt s L).Sublist (L.map Prod.fst) := List.filter_sublist.map _
theorem wake_num {z : Zt} (hz : ZK z) (s : Sp) : (wkaC z s).2.2.L.length + (wkaC z s).1.length = z.L.length := by
  unfold wkaC
  split
  · have := leaves_num (wt s z.L) z hz.nd ((wt_sub s z.L).nodup hz.nd) (fun i hi => (wt_sub s z.L).subset hi)
    simpa [cat] using this
  · rfl
theorem wake_S (z : Zt) (s : Sp) : (wkaC z s).2.2.S.length = z.S.length := by
  unfold wkaC
  split
  · exact leaves_len _ _
  · rfl
theorem wake_in {z : Zt} (hz : ZK z) (s : Sp) : ∀ i ∈ (wkaC z s).1, ∃ n : Nat, i = ((n : Nat) : Int) ∧ n < z.S.length := by
  intro i hi
  unfold wkaC at hi
  split at hi
  · obtain ⟨n, hn, rfl⟩ := List.mem_map.1 hi
    exact ⟨n, rfl, hz.inS n ((wt_sub s z.L).subset hn)⟩
  · simp at hi
theorem wns_num (z : Zt) (s : Sp) : (wns z s).length = (wkaC z s).1.length := by rw [wkaC_eq]; simp [cat]
end Go.Proofs.YtcjeckjmoponkaaGreatDoor
