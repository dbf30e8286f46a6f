/- PollerHolds: the law's own blocks; a call that came in. -/
import Derived.Test.YtcjeckjmoponkaaGreatDoorUHm
namespace Go.Proofs.YtcjeckjmoponkaaGreatDoor
open Go.RowKit Go.Sort
set_option linter.unusedVariables false
set_option linter.unusedSimpArgs false
/-- A call. -/
structure Ac11 where
  what : Int
  val : Int
  task : Int
  N : Int
  K : Int
  D : Int
  t : Int
def rowA (a : Ac11) : Array Value := #[.int .i64 a.what, .int .i64 a.val, .int .i64 a.task, .int .i64 a.N, .int .i64 a.K, .int .i64 a.D, .int .u64 a.t]
/-- A call in memory. -/
def AcAt11 (w : World) (b off i : Nat) (a : Ac11) : Prop :=
  w.cell? ⟨b, off + i * 7, none⟩ = some (.int .i64 a.what) ∧ w.cell? ⟨b, off + i * 7 + 1, none⟩ = some (.int .i64 a.val) ∧ w.cell? ⟨b, off + i * 7 + 2, none⟩ = some (.int .i64 a.task) ∧ w.cell? ⟨b, off + i * 7 + 3, none⟩ = some (.int .i64 a.N) ∧ w.cell? ⟨b, off + i * 7 + 4, none⟩ = some (.int .i64 a.K) ∧ w.cell? ⟨b, off + i * 7 + 5, none⟩ = some (.int .i64 a.D) ∧ w.cell? ⟨b, off + i * 7 + 6, none⟩ = some (.int .u64 a.t) ∧ 0 ≤ a.t ∧ a.t ≤ Dl.never
/-- The calls that came in. -/
def IsActs11 (w : World) (a : Option Addr) (len cap : Nat) : Prop :=
  len ≤ maxLen ∧ (len = 0 ∨ ∃ b off, a = some ⟨b, off, none⟩ ∧ b < w.heap.size ∧ ∀ i, i < len → ∃ ac, AcAt11 w b off i ac)
/-- The law's own blocks. -/
def B4 (ba bf bd bb : Nat) (k : Nat) : Prop := k = ba ∨ k = bf ∨ k = bd ∨ k = bb
/-- Where everybody waited, as far as it is known. -/
structure HT (w : World) (ba bf bd bb : Nat) (a : Ac11) (x : Px) (n : Nat) : Prop where
  A : w.heap[ba]? = some (.cells (rowA a) 50 (0, 0))
  F : ∃ f, TabC w bf 96 128 f ∧ ∀ j, j < n → f (2 * j) = .int .i64 (wheC x j).1.1 ∧ f (2 * j + 1) = .int .i64 (wheC x j).1.2
  D : ∃ f, TabC w bd 97 64 f ∧ ∀ j, j < n → f j = .int .i64 (wheC x j).2.1
  B : ∃ f, TabC w bb 98 64 f ∧ ∀ j, j < n → f j = .bool (decide ((wheC x j).2.2 = 0))
  ne : ba < bf ∧ bf < bd ∧ bd < bb
section
variable {w w' : World} {ba bf bd bb n : Nat} {a : Ac11} {x : Px}
theorem HT.keep (h : HT w ba bf bd bb a x n) (hk : Keep (B4 ba bf bd bb) w w') : HT w' ba bf bd bb a x n := by
  obtain ⟨f1, t1, e1⟩ := h.F
  obtain ⟨f2, t2, e2⟩ := h.D
  obtain ⟨f3, t3, e3⟩ := h.B
  exact ⟨(hk ba (.inl rfl)).trans h.A, ⟨f1, t1.keep (hk bf (.inr (.inl rfl))), e1⟩, ⟨f2, t2.keep (hk bd (.inr (.inr (.inl rfl)))), e2⟩, ⟨f3, t3.keep (hk bb (.inr (.inr (.inr rfl)))), e3⟩, h.ne⟩
theorem HT.lt (h : HT w ba bf bd bb a x n) (k : Nat) (hk : B4 ba bf bd bb k) : k < w.heap.size := by
  obtain ⟨f1, t1, e1⟩ := h.F
  obtain ⟨f2, t2, e2⟩ := h.D
  obtain ⟨f3, t3, e3⟩ := h.B
  rcases hk with rfl | rfl | rfl | rfl
  · exact lt_of_block h.A
  · exact t1.lt
  · exact t2.lt
  · exact t3.lt
theorem HT.grown (h : HT w ba bf bd bb a x n) (hb : Below w.heap.size w w') : HT w' ba bf bd bb a x n := h.keep fun k hk => hb.block k (h.lt k hk)
end
theorem alloc4 (w : World) (o1 o2 o3 o4 : Obj) : ∃ W, (((w.alloc o1).alloc o2).alloc o3).alloc o4 = W ∧ Grn w W ∧ W.heap.size = w.heap.size + 4 ∧ W.heap[w.heap.size]? = some o1 ∧ W.heap[w.heap.size + 1]? = some o2 ∧ W.heap[w.heap.size + 1 + 1]? = some o3 ∧ W.heap[w.heap.size + 1 + 1 + 1]? = some o4 := by
  obtain ⟨W1, e1, g1, s1, b1, b2⟩ := alloc2 w o1 o2
  obtain ⟨W2, e2, g2, s2, b3, b4⟩ := alloc2 W1 o3 o4
  rw [s1] at b3 b4
  exact ⟨W2, by rw [e1, e2], g1.trans g2, by omega, grn_at g2 b1, grn_at g2 b2, b3, b4⟩
/-- Four new blocks of the law's. -/
theorem ls_four {w0 w : World} {p : Nat} {x : Px} {G P : Nat} (h : LSt w0 w (fun _ => False) p x G P) (o1 o2 o3 o4 : Obj) : LSt w0 ((((w.alloc o1).alloc o2).alloc o3).alloc o4) (B4 w.heap.size (w.heap.size + 1) (w.heap.size + 1 + 1) (w.heap.size + 1 + 1 + 1)) p x G P := by
  obtain ⟨W, e, g, s, _⟩ := alloc4 w o1 o2 o3 o4
  rw [e]
  refine h.more g.below fun k hk => .inr ?_
  unfold B4 at hk
  omega
theorem ht_new (w : World) (a : Ac11) (x : Px) (c1 c2 c3 : Array Value) (h1 : c1.size = 128) (h2 : c2.size = 64) (h3 : c3.size = 64) :
    HT ((((w.alloc (.cells (rowA a) 50)).alloc (.cells c1 96)).alloc (.cells c2 97)).alloc (.cells c3 98)) w.heap.size (w.heap.size + 1) (w.heap.size + 1 + 1) (w.heap.size + 1 + 1 + 1) a x 0 := by
  obtain ⟨W, e, g, s, b1, b2, b3, b4⟩ := alloc4 w (.cells (rowA a) 50) (.cells c1 96) (.cells c2 97) (.cells c3 98)
  rw [e]
  have gd : ∀ (cur : Array Value) (j : Nat), j < cur.size → cur[j]? = some (cur.getD j undef) := fun cur j hj => by simp [Array.getD, hj]
  refine ⟨b1, ⟨fun j => c1.getD j undef, ⟨c1, b2, h1, fun j hj => gd c1 j (by omega)⟩, fun j hj => absurd hj (Nat.not_lt_zero _)⟩, ⟨fun j => c2.getD j undef, ⟨c2, b3, h2, fun j hj => gd c2 j (by omega)⟩, fun j hj => absurd hj (Nat.not_lt_zero _)⟩, ⟨fun j => c3.getD j undef, ⟨c3, b4, h3, fun j hj => gd c3 j (by omega)⟩, fun j hj => absurd hj (Nat.not_lt_zero _)⟩, by omega, by omega, by omega⟩
theorem PI.init {c : Nat} {nw : Int} (hz : ZK (X0 c nw).z) (hn : nw < Dl.never) : PI (X0 c nw) 0 := by
  refine ⟨hz, by simp [X0], by simp [X0, Z0], hn, fun i s h => ?_, fun n p _ _ => ⟨rfl, rfl⟩, fun n p h => ?_⟩
  · simp [X0, Z0, seatOf] at h
  · have := List.mem_of_getElem? h
    rw [(List.mem_replicate.1 this).2]
    exact Nat.le_refl _
theorem block_off {w : World} {b : Nat} {o : Obj} (h : w.heap[b]? = some o) (a : Addr) (v : Value) (hb : b ≠ a.block) : (w.setCell a v).heap[b]? = some o :=
  (fr_setCell w a v).same h (by simpa using hb)
theorem TabC.off {w : World} {b t n : Nat} {f : Nat → Value} (h : TabC w b t n f) (a : Addr) (v : Value) (hb : b ≠ a.block) : TabC (w.setCell a v) b t n f := by
  obtain ⟨cur, h1, h2⟩ := h.ex
  exact ⟨cur, block_off h1 a v hb, h2⟩
theorem ht_put {w0 W : World} {ba n p G P : Nat} {a : Ac11} {x y : Px} (h : HT W ba (ba + 1) (ba + 1 + 1) (ba + 1 + 1 + 1) a x n) (hl : LSt w0 W (B4 ba (ba + 1) (ba + 1 + 1) (ba + 1 + 1 + 1)) p y G P) (hn : n < 64) :
    HT ((((W.setCell ⟨ba + 1, n * 2, none⟩ (.int .i64 (wheC x ((n : Nat) : Int)).1.1)).setCell ⟨ba + 1, n * 2 + 1, none⟩ (.int .i64 (wheC x ((n : Nat) : Int)).1.2)).setCell ⟨ba + 1 + 1, n, none⟩ (.int .i64 (wheC x ((n : Nat) : Int)).2.1)).setCell ⟨ba + 1 + 1 + 1, n, none⟩ (.bool ((wheC x ((n : Nat) : Int)).2.2 == 0))) ba (ba + 1) (ba + 1 + 1) (ba + 1 + 1 + 1) a x (n + 1) ∧
    LSt w0 ((((W.setCell ⟨ba + 1, n * 2, none⟩ (.int .i64 (wheC x ((n : Nat) : Int)).1.1)).setCell ⟨ba + 1, n * 2 + 1, none⟩ (.int .i64 (wheC x ((n : Nat) : Int)).1.2)).setCell ⟨ba + 1 + 1, n, none⟩ (.int .i64 (wheC x ((n : Nat) : Int)).2.1)).setCell ⟨ba + 1 + 1 + 1, n, none⟩ (.bool ((wheC x ((n : Nat) : Int)).2.2 == 0))) (B4 ba (ba + 1) (ba + 1 + 1) (ba + 1 + 1 + 1)) p y G P := by
  obtain ⟨fa, t1, e1⟩ := h.F
  obtain ⟨fd, t2, e2⟩ := h.D
  obtain ⟨fb, t3, e3⟩ := h.B
  refine ⟨⟨?_, ⟨_, (((t1.set (n * 2) _).set (n * 2 + 1) _).off _ _ (by simp only [ne_eq]; omega)).off _ _ (by simp only [ne_eq]; omega), fun j hj => ?_⟩, ⟨_, (((t2.off _ _ (by simp only [ne_eq]; omega)).off _ _ (by simp only [ne_eq]; omega)).set n _).off _ _ (by simp only [ne_eq]; omega), fun j hj => ?_⟩, ⟨_, (((t3.off _ _ (by simp only [ne_eq]; omega)).off _ _ (by simp only [ne_eq]; omega)).off _ _ (by simp only [ne_eq]; omega)).set n _, fun j hj => ?_⟩, h.ne⟩, ?_⟩
  · exact block_off (block_off (block_off (block_off h.A _ _ (by simp only [ne_eq]; omega)) _ _ (by simp only [ne_eq]; omega)) _ _ (by simp only [ne_eq]; omega)) _ _ (by simp only [ne_eq]; omega)
  · unfold updC
    by_cases q : j = n
    · subst q
      rw [if_neg (by omega), if_pos (by omega), if_pos (by omega)]
      exact ⟨rfl, rfl⟩
    · rw [if_neg (by omega), if_neg (by omega), if_neg (by omega), if_neg (by omega)]
      exact e1 j (by omega)
  · unfold updC
    by_cases q : j = n
    · subst q; rw [if_pos rfl]
    · rw [if_neg q]; exact e2 j (by omega)
  · unfold updC
    by_cases q : j = n
    · subst q; rw [if_pos rfl]; rfl
    · rw [if_neg q]; exact e3 j (by omega)
  · refine (((hl.write (fr_setCell _ _ _) ?_).write (fr_setCell _ _ _) ?_).write (fr_setCell _ _ _) ?_).write (fr_setCell _ _ _) ?_ <;> (intro k hk; simp at hk; subst hk; unfold B4; simp)
/-- What a round of the second loop looks at. -/
structure LpS (ba n : Nat) (N0 K0 N K D : Int) (b : Bool) (W : World) : Prop where
  a1 : W.cell? ⟨ba + 1, n * 2, none⟩ = some (.int .i64 N)
  a2 : W.cell? ⟨ba + 1, n * 2 + 1, none⟩ = some (.int .i64 K)
  a3 : W.cell? ⟨ba + 1 + 1, n, none⟩ = some (.int .i64 D)
  a4 : W.cell? ⟨ba + 1 + 1 + 1, n, none⟩ = some (.bool b)
  a5 : W.cell? ⟨ba, 3, none⟩ = some (.int .i64 N0)
  a6 : W.cell? ⟨ba, 4, none⟩ = some (.int .i64 K0)
theorem LpS.grown {ba n : Nat} {N0 K0 N K D : Int} {b : Bool} {W W' : World} (h : LpS ba n N0 K0 N K D b W) (hb : Below W.heap.size W W') : LpS ba n N0 K0 N K D b W' :=
  ⟨Rp.below_cells hb _ _ h.a1, Rp.below_cells hb _ _ h.a2, Rp.below_cells hb _ _ h.a3, Rp.below_cells hb _ _ h.a4, Rp.below_cells hb _ _ h.a5, Rp.below_cells hb _ _ h.a6⟩
theorem HT.lp {W : World} {ba c n : Nat} {a : Ac11} {x : Px} (h : HT W ba (ba + 1) (ba + 1 + 1) (ba + 1 + 1 + 1) a x c) (hn : n < c) (hc : c ≤ 64) : LpS ba n a.N a.K (wheC x ((n : Nat) : Int)).1.1 (wheC x ((n : Nat) : Int)).1.2 (wheC x ((n : Nat) : Int)).2.1 (decide ((wheC x ((n : Nat) : Int)).2.2 = 0)) W := by
  obtain ⟨fa, t1, e1⟩ := h.F
  obtain ⟨fd, t2, e2⟩ := h.D
  obtain ⟨fb, t3, e3⟩ := h.B
  refine ⟨?_, ?_, ?_, ?_, cells_cell h.A rfl, cells_cell h.A rfl⟩
  · rw [← (e1 n hn).1, Nat.mul_comm]; exact t1.cell (by omega)
  · rw [← (e1 n hn).2, Nat.mul_comm]; exact t1.cell (by omega)
  · rw [← e2 n hn]; exact t2.cell (by omega)
  · rw [← e3 n hn]; exact t3.cell (by omega)
end Go.Proofs.YtcjeckjmoponkaaGreatDoor
