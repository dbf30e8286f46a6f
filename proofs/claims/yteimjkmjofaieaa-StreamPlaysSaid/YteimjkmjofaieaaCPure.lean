/- Lists of parts: where they end, those that are not empty; the error of a rope. -/
import Derived.Test.YteimjkmjofaieaaCCatN
namespace Go.Proofs.Yteimjkmjofaieaa
open Go.RowKit Go.Sort
set_option linter.unusedVariables false
set_option linter.unusedSimpArgs false

abbrev Parts := List (List UInt8)
/-- Where each part ends. -/
def ends : Nat → Parts → List Nat
  | _, [] => []
  | s, p :: r => (s + p.length) :: ends (s + p.length) r
theorem ends_length : ∀ (s : Nat) (Ps : Parts), (ends s Ps).length = Ps.length
  | _, [] => rfl
  | s, p :: r => by simp [ends, ends_length (s + p.length) r]
theorem ends_append : ∀ (s : Nat) (A B : Parts), ends s (A ++ B) = ends s A ++ ends (s + A.flatten.length) B
  | _, [], B => by simp [ends]
  | s, p :: r, B => by
    simp only [List.cons_append, ends, List.flatten_cons, List.length_append]
    rw [ends_append (s + p.length) r B, Nat.add_assoc]
theorem ends_get : ∀ (s : Nat) (Ps : Parts) (k : Nat), k < Ps.length → (ends s Ps)[k]? = some (s + (Ps.take (k + 1)).flatten.length)
  | _, [], k, h => by simp at h
  | s, p :: r, 0, _ => by simp [ends]
  | s, p :: r, k + 1, h => by
    have := ends_get (s + p.length) r k (by simpa using h)
    simp only [ends, List.getElem?_cons_succ, List.take_succ_cons, List.flatten_cons, List.length_append]
    rw [this, Nat.add_assoc]
theorem ends_shift : ∀ (s t : Nat) (Ps : Parts), (ends s Ps).map (fun x => x + t) = ends (s + t) Ps
  | _, _, [] => rfl
  | s, t, p :: r => by
    simp only [ends, List.map_cons]
    rw [ends_shift (s + p.length) t r]
    congr 1
    · omega
    · congr 1; omega

/-- Those parts that are not empty. -/
def full (Ps : Parts) : Parts := Ps.filter fun p => !p.isEmpty
theorem full_flat : ∀ (Ps : Parts), (full Ps).flatten = Ps.flatten
  | [] => rfl
  | [] :: r => by simpa [full] using full_flat r
  | (x :: p) :: r => by
    have := full_flat r
    unfold full at this ⊢
    simp [this]
theorem full_succ (Ps : Parts) (k : Nat) (h : k < Ps.length) : full (Ps.take (k + 1)) = full (Ps.take k) ++ (if Ps[k].isEmpty then [] else [Ps[k]]) := by
  rw [List.take_succ_eq_append_getElem h]
  unfold full
  rw [List.filter_append]
  congr 1
  cases hq : Ps[k].isEmpty <;> simp [List.filter, hq]
theorem full_le (Ps : Parts) (k : Nat) : (full (Ps.take k)).length ≤ (full Ps).length := by
  conv => rhs; rw [← List.take_append_drop k Ps]
  unfold full
  rw [List.filter_append, List.length_append]
  omega
theorem full_len (Ps : Parts) : (full Ps).length ≤ Ps.length := List.length_filter_le _ _
theorem full_ne (Ps : Parts) : ∀ p ∈ full Ps, p ≠ [] := by
  intro p hp
  unfold full at hp
  rw [List.mem_filter] at hp
  rintro rfl
  simp at hp
theorem full_of (Ps : Parts) (h : ∀ p ∈ Ps, p ≠ []) : full Ps = Ps := by
  unfold full
  rw [List.filter_eq_self]
  intro p hp
  have := h p hp
  cases p with
  | nil => exact absurd rfl this
  | cons => rfl

/-- The error of a rope with so many parts and bytes. -/
def errC (p s : Nat) : Int := if 1024 < p then 7 else if 65536 < s then 5 else 0
/-- The rope of some parts. -/
def newP (Ps : Parts) : Parts := if errC (full Ps).length Ps.flatten.length = 0 then full Ps else []

/-- A rope in memory. -/
structure RopeAt (w : World) (base : Nat) (v : Value) (Ps : Parts) : Prop where
  ex : ∃ vd ve, v = .agg #[vd, ve] ∧ RowB w base vd Ps.flatten ∧ RowN w base ve (ends 0 Ps)
  ne : ∀ p ∈ Ps, p ≠ []
  len : Ps.length ≤ 1024
  size : Ps.flatten.length ≤ 65536
def zeroRope : Value := .agg #[.slice none 0 0, .slice none 0 0]
theorem RopeAt.zero (w : World) (b : Nat) : RopeAt w b zeroRope [] := ⟨⟨_, _, rfl, World.ownsRow_nil _ _ _ _, World.ownsRow_nil _ _ _ _⟩, by simp, by simp, by simp⟩
theorem RopeAt.kept {w w' : World} {b b2 : Nat} {v : Value} {Ps : Parts} (h : RopeAt w b v Ps) (hb : Below b2 w w') (hl : w.heap.size ≤ b2) : RopeAt w' b v Ps := by
  obtain ⟨vd, ve, h1, h2, h3⟩ := h.ex
  exact ⟨⟨vd, ve, h1, RowV.kept h2 hb fun g hg => Nat.lt_of_lt_of_le (h2.lt g hg).2 hl, RowV.kept h3 hb fun g hg => Nat.lt_of_lt_of_le (h3.lt g hg).2 hl⟩, h.ne, h.len, h.size⟩
theorem RopeAt.grown {w w' : World} {b : Nat} {v : Value} {Ps : Parts} (h : RopeAt w b v Ps) (hb : Below w.heap.size w w') : RopeAt w' b v Ps := h.kept hb (Nat.le_refl _)
theorem RopeAt.lower {w : World} {b b' : Nat} {v : Value} {Ps : Parts} (h : RopeAt w b v Ps) (hb : b' ≤ b) : RopeAt w b' v Ps := by
  obtain ⟨vd, ve, h1, h2, h3⟩ := h.ex
  exact ⟨⟨vd, ve, h1, RowV.lower h2 hb, RowV.lower h3 hb⟩, h.ne, h.len, h.size⟩

theorem below_alloc (w : World) (o : Obj) : Below w.heap.size w (w.alloc o) := (Below.refl _ _).alloc (Nat.le_refl _) _

set_option maxHeartbeats 400000 in
theorem check_any (w : World) (p s : Nat) : Calls Try.prog 55 #[.int .i64 p, .int .i64 s] w fun e w' => e = .returned (.int .i64 (errC p s)) ∧ w = w' := by
  unfold errC
  rcases (by omega : (1024 : Int) < (p : Int) ∨ ((p : Int) ≤ 1024 ∧ (65536 : Int) < (s : Int)) ∨ ((p : Int) ≤ 1024 ∧ (s : Int) ≤ 65536)) with h | ⟨h1, h2⟩ | ⟨h1, h2⟩
  · have hd : 1024 < p := by omega
    rw [if_pos hd]
    clear hd
    go_enter Try.func55, Try.ntmps55
    go_wp2_with fail
    go_ret
    exact ⟨rfl, rfl⟩
  · have hd : ¬ 1024 < p := by omega
    have hd2 : 65536 < s := by omega
    rw [if_neg hd, if_pos hd2]
    clear hd hd2
    go_enter Try.func55, Try.ntmps55
    go_wp2_with fail
    go_ret
    exact ⟨rfl, rfl⟩
  · have hd : ¬ 1024 < p := by omega
    have hd2 : ¬ 65536 < s := by omega
    rw [if_neg hd, if_neg hd2]
    clear hd hd2
    go_enter Try.func55, Try.ntmps55
    go_wp2_with fail
    go_ret
    exact ⟨rfl, rfl⟩
end Go.Proofs.Yteimjkmjofaieaa
