/- A rendezvous stream without any memory: what its calls answer and leave; a stream in memory. -/
import Derived.Test.YtophkjnniodegaaCConv
import Derived.Test.YtophkjnniodegaaEMix
import Derived.Deep.QuietTactic
import Derived.BigQuiet
namespace Go.Proofs.Ytophkjnniodegaa
open Go.RowKit Go.Sort
set_option linter.unusedVariables false
set_option linter.unusedSimpArgs false

/-- A stream as it can be seen. -/
structure Mt where
  is : Bool
  S : List UInt8
  k : Nat
  wr : Int
  rd : Int
def Mt.rest (x : Mt) : List UInt8 := x.S.drop x.k
def Mt.zero : Mt := ⟨false, [], 0, 0, 0⟩
/-- A number that fits. -/
def I64 (i : Int) : Prop := -9223372036854775808 ≤ i ∧ i ≤ 9223372036854775807
structure Mt.Ok (x : Mt) : Prop where
  le : x.k ≤ x.S.length
  no : x.is = false → x.S = []
  small : x.S.length ≤ 65536
  wr : I64 x.wr
  rd : I64 x.rd
theorem Mt.Ok.rest {x : Mt} (h : x.Ok) : x.rest.length = x.S.length - x.k := by unfold Mt.rest; simp
theorem Mt.Ok.zero : Mt.zero.Ok := ⟨Nat.le_refl _, fun _ => rfl, by simp [Mt.zero], by simp [Mt.zero, I64], by simp [Mt.zero, I64]⟩
def offC (x : Mt) (L : List UInt8) : Int × Mt := if x.is = true then (11, x) else if x.rd ≠ 0 then (x.rd, x) else if x.wr ≠ 0 then (14, x) else (0, { x with is := true, S := L, k := 0 })
def takC (x : Mt) (n : Int) : List UInt8 × Int × Mt := if n < 0 then ([], 2, x) else if n = 0 then ([], 0, x) else if x.rd ≠ 0 then ([], x.rd, x) else if x.wr ≠ 0 then ([], x.wr, x)
  else if x.rest.length = 0 then ([], 16, x) else (x.rest.take n.toNat, 0, { x with k := x.k + (x.rest.take n.toNat).length })
def witC (x : Mt) : Int × Int × Mt := if x.is = false then (0, 9, x) else (x.k, 0, { x with is := false, S := [], k := 0 })
def resC (x : Mt) : Int × Int × Mt := if x.is = true ∧ x.wr = 0 ∧ x.rd = 0 ∧ x.rest.length ≠ 0 then (0, 16, x) else witC x
def cwrC (x : Mt) (e : Int) : Int × Mt := if e = 0 then (2, x) else if x.wr ≠ 0 then (8, x) else (0, { x with wr := e })
def crdC (x : Mt) (e : Int) : Int × Mt := if e = 0 then (2, x) else if x.rd ≠ 0 then (8, x) else (0, { x with rd := e })
theorem offC_ok {x : Mt} {L : List UInt8} (h : x.Ok) (hL : L.length ≤ 65536) : (offC x L).2.Ok ∧ I64 (offC x L).1 := by
  unfold offC
  split
  · exact ⟨h, by simp [I64]⟩
  · split
    · exact ⟨h, h.rd⟩
    · split
      · exact ⟨h, by simp [I64]⟩
      · exact ⟨⟨Nat.zero_le _, by simp, hL, h.wr, h.rd⟩, by simp [I64]⟩
theorem takC_ok {x : Mt} {n : Int} (h : x.Ok) : (takC x n).2.2.Ok ∧ I64 (takC x n).2.1 := by
  unfold takC
  repeat' split
  all_goals first
    | exact ⟨h, h.rd⟩
    | exact ⟨h, h.wr⟩
    | exact ⟨h, by simp [I64]⟩
    | exact ⟨⟨by have := h.le; simp [Mt.rest]; omega, h.no, h.small, h.wr, h.rd⟩, by simp [I64]⟩
theorem witC_ok {x : Mt} (h : x.Ok) : (witC x).2.2.Ok := by
  unfold witC
  split
  · exact h
  · exact ⟨Nat.zero_le _, fun _ => rfl, by simp, h.wr, h.rd⟩
theorem resC_ok {x : Mt} (h : x.Ok) : (resC x).2.2.Ok := by
  unfold resC
  split
  · exact h
  · exact witC_ok h
theorem cwrC_ok {x : Mt} {e : Int} (h : x.Ok) (he : I64 e) : (cwrC x e).2.Ok := by
  unfold cwrC
  repeat' split
  all_goals first
    | exact h
    | exact ⟨h.le, h.no, h.small, he, h.rd⟩
theorem crdC_ok {x : Mt} {e : Int} (h : x.Ok) (he : I64 e) : (crdC x e).2.Ok := by
  unfold crdC
  repeat' split
  all_goals first
    | exact h
    | exact ⟨h.le, h.no, h.small, h.wr, he⟩

/-- A slice that has the bytes L, in a block of bytes. -/
def Piece (w : World) (v : Value) (L : List UInt8) : Prop :=
  (v = .slice none 0 0 ∧ L = []) ∨ ∃ g off c cur, v = .slice (some ⟨g, off, none⟩) L.length c ∧ L.length ≤ c ∧ c ≤ maxLen ∧ w.heap[g]? = some (.cells cur 5 (0, 0)) ∧ ∀ j u, (L.map encB)[j]? = some u → cur[off + j]? = some u
theorem Piece.src {w : World} {v : Value} {L : List UInt8} (h : Piece w v L) : SrcV w v (L.map encB) := by
  rcases h with ⟨rfl, rfl⟩ | ⟨g, off, c, cur, rfl, h1, h2, h3, h4⟩
  · exact .inl ⟨rfl, rfl⟩
  · refine .inr ⟨_, c, by rw [List.length_map], by rwa [List.length_map], h2, fun j u hu => ?_, fun _ => rfl⟩
    rw [Go.WideShapes.add_plain]
    exact cells_cell h3 (h4 j u hu)
theorem Piece.form {w : World} {v : Value} {L : List UInt8} (h : Piece w v L) : ∃ a c, v = .slice a L.length c ∧ L.length ≤ c ∧ c ≤ maxLen := by
  have := h.src.form
  rwa [List.length_map] at this
theorem RowB.piece {w : World} {b : Nat} {v : Value} {L : List UInt8} (h : RowB w b v L) : Piece w v L := by
  rcases h.2 with ⟨rfl, hn⟩ | ⟨g, cap, cu, rfl, hb, hh, h1, h2, h3, h4⟩
  · left; exact ⟨rfl, List.eq_nil_of_length_eq_zero (by simpa using hn)⟩
  · right
    refine ⟨g, 0, cap, cu, by rw [List.length_map], by rwa [List.length_map] at h1, h2, hh, fun j u hu => ?_⟩
    have hc := row_cells h j u hu
    rw [Go.WideShapes.add_plain, Nat.zero_add] at hc
    rw [Nat.zero_add]
    simpa [World.cell?, hh] using hc
theorem Piece.fr {w w' : World} {F : List Nat} {v : Value} {L : List UInt8} (h : Piece w v L) (hf : Fr F w w') (hn : ∀ g cur, w.heap[g]? = some (.cells cur 5 (0, 0)) → g ∉ F) : Piece w' v L := by
  rcases h with h | ⟨g, off, c, cur, rfl, h1, h2, h3, h4⟩
  · exact .inl h
  · exact .inr ⟨g, off, c, cur, rfl, h1, h2, hf.same h3 (hn g cur h3), h4⟩

/-- A stream in memory. -/
structure MAt (w : World) (m b : Nat) (x : Mt) : Prop where
  ok : x.Ok
  me : w.heap[m]? = some (.cells #[pt b] 42 (0, 0))
  ex : ∃ v, w.heap[b]? = some (.cells #[.int .i64 x.rd, .int .i64 x.wr, .bool x.is, v, .int .i64 ((x.k : Nat) : Int)] 62 (0, 0)) ∧ Piece w v x.rest
/-- What is kept where other blocks change. -/
theorem MAt.fr {w w' : World} {m b : Nat} {x : Mt} {F : List Nat} (h : MAt w m b x) (hf : Fr F w w') (hm : m ∉ F) (hb : b ∉ F) (hn : ∀ g cur, w.heap[g]? = some (.cells cur 5 (0, 0)) → g ∉ F) : MAt w' m b x := by
  obtain ⟨v, h1, h2⟩ := h.ex
  exact ⟨h.ok, hf.same h.me hm, v, hf.same h1 hb, h2.fr hf hn⟩
theorem MAt.grown {w w' : World} {m b : Nat} {x : Mt} (h : MAt w m b x) (hf : Below w.heap.size w w') : MAt w' m b x := h.fr (Fr.of_below hf []) (by simp) (by simp) (by simp)
theorem MAt.lt {w : World} {m b : Nat} {x : Mt} (h : MAt w m b x) : m < w.heap.size ∧ b < w.heap.size := by
  obtain ⟨v, h1, h2⟩ := h.ex
  exact ⟨lt_of_block h.me, lt_of_block h1⟩
theorem MAt.ne {w : World} {m b : Nat} {x : Mt} (h : MAt w m b x) : m ≠ b := by
  obtain ⟨v, h1, h2⟩ := h.ex
  exact ne_types h.me h1 (by decide)
/-- A pointer that is no stream. -/
def NoM (w : World) (v : Value) : Prop := v = .pointer none ∨ ∃ q, v = pt q ∧ w.heap[q]? = some (.cells #[.pointer none] 42 (0, 0))
theorem NoM.grown {w w' : World} {v : Value} (h : NoM w v) (hb : Below w.heap.size w w') : NoM w' v := by
  rcases h with h | ⟨q, h1, h2⟩
  · exact .inl h
  · exact .inr ⟨q, h1, (hb.block _ (lt_of_block h2)).trans h2⟩

/-- The new body of a stream. -/
theorem MAt.set {w w' : World} {m b : Nat} {x y : Mt} {v : Value} (h : MAt w m b x) (hf : Fr [b] w w') (ok : y.Ok)
    (hb : w'.heap[b]? = some (.cells #[.int .i64 y.rd, .int .i64 y.wr, .bool y.is, v, .int .i64 ((y.k : Nat) : Int)] 62 (0, 0))) (hp : Piece w v y.rest) : MAt w' m b y := by
  obtain ⟨_, h1, _⟩ := h.ex
  refine ⟨ok, hf.same h.me (by simpa using h.ne), v, hb, hp.fr hf fun g cur hg => ?_⟩
  simpa using ne_types hg h1 (by decide)

theorem errs_equal (a b c d : Int) (w : World) : (Op.equalIn 10000 60 (.agg #[.int .i64 a, .int .i64 b]) (.agg #[.int .i64 c, .int .i64 d])).run Try.prog w = .ok (a == c && b == d) w := by
  have hu : Try.prog.underlying 60 = some (.array 2 30) := by kernel_rfl
  have hi : Try.prog.underlying 30 = some (.int .i64) := by kernel_rfl
  have h1 : ∀ w, (sizeOf 30).run Try.prog w = .ok 1 w := fun w => by simp [go_sem]
  have hp : ∀ (x y : Int) (w : World), (part 30 #[.int .i64 x, .int .i64 y] 0).run Try.prog w = .ok (.int .i64 x) w := fun x y w => by simp [part, go_sem]
  have hp1 : ∀ (x y : Int) (w : World), (part 30 #[.int .i64 x, .int .i64 y] 1).run Try.prog w = .ok (.int .i64 y) w := fun x y w => by simp [part, go_sem]
  have he : ∀ (x y : Int) (w : World), (Op.equalIn 9999 30 (.int .i64 x) (.int .i64 y)).run Try.prog w = .ok (x == y) w := fun x y w => run_equalIn_int w 9998 30 .i64 .i64 x y hi
  show (Op.equalIn (9999 + 1) 60 _ _).run Try.prog w = _
  unfold Op.equalIn
  simp only [Sem.run_bind, run_underlying hu, Result.andThen_ok, h1]
  rw [Std.Legacy.Range.forIn_eq_forIn_range']
  simp [Std.Legacy.Range.size, List.range', hp, hp1, he]
  by_cases q : a = c
  · subst q
    by_cases q2 : b = d
    · subst q2; simp
    · simp [q2]
  · simp [q]
section
variable {w : World} {m b : Nat} {x : Mt}
theorem mtUsable_yes (h : MAt w m b x) : Calls Try.prog 32 #[pt m] w fun e w' => e = .returned (.bool true) ∧ w' = w := by
  have k := cells_cell (o := 0) h.me rfl
  clear h
  unfold pt at *
  go_enter Try.func32, Try.ntmps32
  go_wp2
  go_ret
  exact ⟨rfl, rfl⟩
theorem mtUsable_no {v : Value} (h : NoM w v) : Calls Try.prog 32 #[v] w fun e w' => e = .returned (.bool false) ∧ w' = w := by
  rcases h with rfl | ⟨q, rfl, h2⟩
  · go_enter Try.func32, Try.ntmps32
    go_wp2
    go_ret
    exact ⟨rfl, rfl⟩
  · have k := cells_cell (o := 0) h2 rfl
    clear h2
    unfold pt at *
    go_enter Try.func32, Try.ntmps32
    go_wp2
    go_ret
    exact ⟨rfl, rfl⟩
/-- Whether nothing can be taken. -/
def Mt.over (x : Mt) : Bool := decide (x.rest.length = 0) || (decide (x.rd ≠ 0) || decide (x.wr ≠ 0))
theorem mtOver_any (h : MAt w m b x) : Calls Try.prog 33 #[pt b] w fun e w' => e = .returned (.bool x.over) ∧ w' = w := by
  obtain ⟨v, h1, h2⟩ := h.ex
  obtain ⟨a, c, rfl, hc1, hc2⟩ := h2.form
  have k0 := cells_cell (o := 0) h1 rfl
  have k1 := cells_cell (o := 1) h1 rfl
  have k3 := cells_cell (o := 3) h1 rfl
  unfold Mt.over
  obtain ⟨n, hn⟩ : ∃ n, n = x.rest.length := ⟨_, rfl⟩
  obtain ⟨r, hr⟩ : ∃ r, r = x.rd := ⟨_, rfl⟩
  obtain ⟨s, hs⟩ : ∃ s, s = x.wr := ⟨_, rfl⟩
  rw [← hn] at k3 hc1 ⊢
  rw [← hr] at k0 ⊢
  rw [← hs] at k1 ⊢
  clear h h1 h2 hn hr hs
  unfold pt at *
  by_cases h0 : n = 0
  · subst h0
    go_enter Try.func33, Try.ntmps33
    go_wp2
    go_ret
    exact ⟨rfl, rfl⟩
  · have h0' : ((n : Int) == 0) = false := by simp; omega
    have h1 : decide (n = 0) = false := by simp [h0]
    rw [h1, Bool.false_or]
    have pe := errs_equal r s 0 0
    go_enter Try.func33, Try.ntmps33
    go_wp2
    go_ret
    have e : (!r == 0 || !s == 0) = (decide (r ≠ 0) || decide (s ≠ 0)) := by
      by_cases q : r = 0 <;> by_cases q2 : s = 0 <;> simp [q, q2]
    exact ⟨by rw [← e]; rfl, rfl⟩
end
end Go.Proofs.Ytophkjnniodegaa
