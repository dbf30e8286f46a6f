/- A stream of either kind without any memory: what its calls answer and leave; a stream in memory. -/
import Derived.Test.YteimjkmjofaieaaXRing
namespace Go.Proofs.Yteimjkmjofaieaa
open Go.RowKit Go.Sort
set_option linter.unusedVariables false
set_option linter.unusedSimpArgs false
set_option maxRecDepth 100000

/-- A stream as it can be seen. -/
structure St where
  c : Nat
  S : List UInt8
  busy : Bool
  R : List UInt8
  a : Nat
  wr : Int
  rd : Int
def St.new (c : Nat) : St := ⟨c, [], false, [], 0, 0, 0⟩
structure St.Ok (x : St) : Prop where
  top : x.c ≤ 4096
  le : x.S.length ≤ x.c
  no : x.rd ≠ 0 → x.S = []
  idle : x.busy = false → x.R = [] ∧ x.a = 0
  small : x.a + x.R.length ≤ 65536
  full : x.busy = true → x.wr = 0 → x.rd = 0 → x.R ≠ [] → x.S.length = x.c
  wr : 0 ≤ x.wr ∧ x.wr ≤ 1000
  rd : 0 ≤ x.rd ∧ x.rd ≤ 1000
theorem St.Ok.new {c : Nat} (h : c ≤ 4096) : (St.new c).Ok := ⟨h, Nat.zero_le _, fun _ => rfl, fun _ => ⟨rfl, rfl⟩, by simp [St.new], fun h => by simp [St.new] at h, by simp [St.new], by simp [St.new]⟩
/-- How many bytes find room. -/
def St.n (x : St) : Nat := if x.wr = 0 ∧ x.rd = 0 then min x.R.length (x.c - x.S.length) else 0
def St.fill (x : St) : St := { x with S := x.S ++ x.R.take x.n, R := x.R.drop x.n, a := x.a + x.n }
def St.over (x : St) : Bool := decide (x.R = [] ∨ x.wr ≠ 0 ∨ x.rd ≠ 0)
def St.out (x : St) : Int := if x.R = [] then 0 else if x.wr ≠ 0 then 14 else x.rd
def St.stop (x : St) : St := { x with busy := false, R := [], a := 0 }
def sBg (x : St) (L : List UInt8) : Int × St := if x.wr ≠ 0 then (14, x) else if x.rd ≠ 0 then (x.rd, x) else if x.busy = true then (11, x) else (0, St.fill { x with busy := true, R := L, a := 0 })
def sPr (x : St) : Nat × Bool := if x.busy = true then (x.a, x.over) else (0, false)
def sEn (x : St) : Nat × Int × St := if x.busy = false then (0, 8, x) else if x.over = false then (0, 16, x) else (x.a, x.out, x.stop)
def sCa (x : St) : Nat × Int × St := if x.busy = false then (0, 8, x) else (x.a, 0, x.stop)
def St.take (x : St) (n : Nat) : List UInt8 := if x.c = 0 then (if x.wr = 0 then x.R.take n else []) else x.S.take n
def St.left (x : St) (n : Nat) : St := if x.c = 0 then { x with R := x.R.drop n, a := x.a + (x.R.take n).length } else St.fill { x with S := x.S.drop n }
def sRd (x : St) (n : Int) : List UInt8 × Int × St := if n < 0 ∨ 65536 < n then ([], 2, x) else if x.rd ≠ 0 then ([], 14, x) else if n = 0 then ([], 0, x)
  else if x.take n.toNat = [] then ([], if x.wr = 0 then 16 else x.wr, x) else (x.take n.toNat, 0, x.left n.toNat)
def sCw (x : St) (e : Int) : Int × St := if e < 1 ∨ 1000 < e then (2, x) else if x.wr ≠ 0 then (14, x) else (0, { x with wr := e })
def sCr (x : St) (e : Int) : Int × St := if e < 1 ∨ 1000 < e then (2, x) else if x.rd ≠ 0 then (14, x) else (0, { x with rd := e, S := [] })
theorem St.fill_ok {x : St} (h1 : x.c ≤ 4096) (h2 : x.S.length ≤ x.c) (h3 : x.rd ≠ 0 → x.S = []) (h4 : x.busy = false → x.R = [] ∧ x.a = 0) (h5 : x.a + x.R.length ≤ 65536) (h6 : 0 ≤ x.wr ∧ x.wr ≤ 1000) (h7 : 0 ≤ x.rd ∧ x.rd ≤ 1000) : x.fill.Ok := by
  unfold St.fill St.n
  split
  · rename_i ho
    refine ⟨h1, ?_, fun q => absurd ho.2 q, fun q => ?_, ?_, fun _ _ _ q => ?_, h6, h7⟩
    · simp only [List.length_append, List.length_take]; omega
    · have := h4 q; simp [this.1, this.2]
    · simp only [List.length_drop]; omega
    · have hl : (x.R.drop (min x.R.length (x.c - x.S.length))).length ≠ 0 := fun q0 => q (List.eq_nil_of_length_eq_zero q0)
      simp only [List.length_drop] at hl
      simp only [List.length_append, List.length_take]
      omega
  · rename_i ho
    simp only [List.take_zero, List.append_nil, List.drop_zero, Nat.add_zero]
    exact ⟨h1, h2, h3, h4, h5, fun _ ha hb _ => absurd ⟨ha, hb⟩ ho, h6, h7⟩
theorem St.fill_same {x : St} (h : x.n = 0) : x.fill = x := by
  unfold St.fill
  rw [h]
  simp
theorem St.stop_ok {x : St} (h : x.Ok) : x.stop.Ok := ⟨h.top, h.le, h.no, fun _ => ⟨rfl, rfl⟩, by simp [St.stop], fun q => by simp [St.stop] at q, h.wr, h.rd⟩
theorem sBg_ok {x : St} {L : List UInt8} (h : x.Ok) (hL : L.length ≤ 65536) : (sBg x L).2.Ok := by
  unfold sBg
  repeat' split
  all_goals first
    | exact h
    | exact St.fill_ok h.top h.le h.no (fun q => by simp at q) (by simpa using hL) h.wr h.rd
theorem sEn_ok {x : St} (h : x.Ok) : (sEn x).2.2.Ok := by
  unfold sEn
  repeat' split
  all_goals first
    | exact h
    | exact St.stop_ok h
theorem sCa_ok {x : St} (h : x.Ok) : (sCa x).2.2.Ok := by
  unfold sCa
  split
  · exact h
  · exact St.stop_ok h
theorem St.left_ok {x : St} (h : x.Ok) (n : Nat) : (x.left n).Ok := by
  unfold St.left
  split
  · rename_i hc
    have hS : x.S = [] := List.eq_nil_of_length_eq_zero (by have := h.le; omega)
    exact ⟨h.top, h.le, h.no, fun q => by have := h.idle q; simp [this.1, this.2], by have := h.small; simp only [List.length_drop, List.length_take]; omega, fun _ _ _ _ => by simp [hS, hc], h.wr, h.rd⟩
  · exact St.fill_ok h.top (by have := h.le; simp only [List.length_drop]; omega) (fun q => by simp [h.no q]) h.idle h.small h.wr h.rd
theorem sRd_ok {x : St} {n : Int} (h : x.Ok) : (sRd x n).2.2.Ok := by
  unfold sRd
  repeat' split
  all_goals first
    | exact h
    | exact St.left_ok h _
theorem sCw_ok {x : St} {e : Int} (h : x.Ok) : (sCw x e).2.Ok := by
  unfold sCw
  repeat' split
  · exact h
  · exact h
  · exact ⟨h.top, h.le, h.no, h.idle, h.small, fun _ q => by exfalso; have : e = 0 := q; omega, by show 0 ≤ e ∧ e ≤ 1000; omega, h.rd⟩
theorem sCr_ok {x : St} {e : Int} (h : x.Ok) : (sCr x e).2.Ok := by
  unfold sCr
  repeat' split
  · exact h
  · exact h
  · exact ⟨h.top, Nat.zero_le _, fun _ => rfl, h.idle, h.small, fun _ _ q => by exfalso; have : e = 0 := q; omega, h.wr, by show 0 ≤ e ∧ e ≤ 1000; omega⟩

/-- A slice that has the bytes L, in the block g of bytes. -/
def PieceG (w : World) (v : Value) (L : List UInt8) (g : Nat) : Prop :=
  (v = .slice none 0 0 ∧ L = []) ∨ ∃ off c cur, v = .slice (some ⟨g, off, none⟩) L.length c ∧ L.length ≤ c ∧ c ≤ maxLen ∧ w.heap[g]? = some (.cells cur 5 (0, 0)) ∧ ∀ j u, (L.map encB)[j]? = some u → cur[off + j]? = some u
section
variable {w w' : World} {v : Value} {L : List UInt8} {g : Nat}
theorem PieceG.src (h : PieceG w v L g) : SrcV w v (L.map encB) := by
  rcases h with ⟨rfl, rfl⟩ | ⟨off, c, cur, rfl, h1, h2, h3, h4⟩
  · exact .inl ⟨rfl, rfl⟩
  · refine .inr ⟨_, c, by rw [List.length_map], by rwa [List.length_map], h2, fun j u hu => ?_, fun _ => rfl⟩
    rw [Go.WideShapes.add_plain]
    exact cells_cell h3 (h4 j u hu)
theorem PieceG.form (h : PieceG w v L g) : ∃ a c, v = .slice a L.length c ∧ L.length ≤ c ∧ c ≤ maxLen := by
  have := h.src.form
  rwa [List.length_map] at this
theorem RowB.pieceG {b : Nat} (h : RowB w b v L) (d : Nat) : ∃ g, PieceG w v L g ∧ (g = d ∨ (b ≤ g ∧ g < w.heap.size)) := by
  rcases h.2 with ⟨rfl, hn⟩ | ⟨g, cap, cu, rfl, hb, hh, h1, h2, h3, h4⟩
  · exact ⟨d, .inl ⟨rfl, List.eq_nil_of_length_eq_zero (by simpa using hn)⟩, .inl rfl⟩
  · refine ⟨g, .inr ⟨0, cap, cu, by rw [List.length_map], by rwa [List.length_map] at h1, h2, hh, fun j u hu => ?_⟩, .inr ⟨hb, lt_of_block hh⟩⟩
    have hc := row_cells h j u hu
    rw [Go.WideShapes.add_plain, Nat.zero_add] at hc
    rw [Nat.zero_add]
    simpa [World.cell?, hh] using hc
theorem PieceG.fr {F : List Nat} (h : PieceG w v L g) (hf : Fr F w w') (hn : g ∉ F) : PieceG w' v L g := by
  rcases h with h | ⟨off, c, cur, rfl, h1, h2, h3, h4⟩
  · exact .inl h
  · exact .inr ⟨off, c, cur, rfl, h1, h2, hf.same h3 hn, h4⟩
theorem PieceG.grown (h : PieceG w v L g) (hf : Below w.heap.size w w') : PieceG w' v L g := h.fr (Fr.of_below hf []) (by simp)
/-- The first bytes. -/
theorem PieceG.cut {a : Option Addr} {n c : Nat} (h : PieceG w (.slice a n c) L g) {N : Nat} (hN : N ≤ L.length) : PieceG w (.slice a N N) (L.take N) g := by
  rcases h with ⟨h, rfl⟩ | ⟨off, c', cur, h0, h1, h2, h3, h4⟩
  · simp only [Value.slice.injEq] at h
    obtain ⟨rfl, rfl, rfl⟩ := h
    simp at hN
    subst hN
    exact .inl ⟨rfl, rfl⟩
  · simp only [Value.slice.injEq] at h0
    obtain ⟨rfl, rfl, rfl⟩ := h0
    refine .inr ⟨off, N, cur, by rw [List.length_take, Nat.min_eq_left hN], by rw [List.length_take]; omega, by omega, h3, fun j u hu => ?_⟩
    rw [List.map_take, List.getElem?_take] at hu
    split at hu
    · exact h4 j u hu
    · cases hu
end

/-- The blocks of a stream: its body, its ring buffer if it has one (the buffer, its body, its cells), and that of the rest. -/
structure Sb where
  b : Nat
  q : Option (Nat × Nat × Nat)
  g : Nat
/-- The blocks that its calls change. -/
def Sb.F (k : Sb) : List Nat := match k.q with
  | none => [k.b]
  | some (_, bb, cc) => [k.b, bb, cc]
/-- All of its blocks, without the rest's. -/
def Sb.O (k : Sb) : List Nat := match k.q with
  | none => [k.b]
  | some (a, bb, cc) => [k.b, a, bb, cc]
def kindV : Option (Nat × Nat × Nat) → Value
  | none => .iface 125 (.agg #[])
  | some (a, _, _) => .iface 127 (.agg #[pt a])
/-- The buffer of a kind in memory. -/
def KAt (w : World) (q : Option (Nat × Nat × Nat)) (c : Nat) (S : List UInt8) : Prop := match q with
  | none => c = 0 ∧ S = []
  | some (a, bb, cc) => 1 ≤ c ∧ c ≤ 4096 ∧ RAt w a bb cc c S
/-- The blocks that a kind changes. -/
def kF : Option (Nat × Nat × Nat) → List Nat
  | none => []
  | some (_, bb, cc) => [bb, cc]
theorem Sb.F_eq (k : Sb) : k.F = k.b :: kF k.q := by unfold Sb.F kF; split <;> simp_all
end Go.Proofs.Yteimjkmjofaieaa
