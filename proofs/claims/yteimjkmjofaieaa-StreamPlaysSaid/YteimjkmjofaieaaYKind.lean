/- The rest of a write, cut at its front; both kinds of streams. -/
import Derived.Test.YteimjkmjofaieaaYPure
import Derived.Test.YteimjkmjofaieaaBMin
namespace Go.Proofs.Yteimjkmjofaieaa
open Go.RowKit Go.Sort
set_option linter.unusedVariables false
set_option linter.unusedSimpArgs false
set_option maxRecDepth 100000

theorem take_min (L : List UInt8) (n : Nat) : L.take (min n L.length) = L.take n := by
  rcases Nat.le_total n L.length with h | h
  · rw [Nat.min_eq_left h]
  · rw [Nat.min_eq_right h, List.take_of_length_le h, List.take_of_length_le (Nat.le_refl _)]
theorem drop_min (L : List UInt8) (n : Nat) : L.drop (min n L.length) = L.drop n := by
  rcases Nat.le_total n L.length with h | h
  · rw [Nat.min_eq_left h]
  · rw [Nat.min_eq_right h, List.drop_of_length_le h, List.drop_of_length_le (Nat.le_refl _)]
theorem PieceG.rest {w : World} {g off l c N : Nat} {L : List UInt8} (h : PieceG w (.slice (some ⟨g, off, none⟩) l c) L g) (hN : N ≤ L.length) (e : Nat) (he : e = if N = c then off else off + N) : PieceG w (.slice (some ⟨g, e, none⟩) (l - N) (c - N)) (L.drop N) g := by
  rcases h with ⟨h, rfl⟩ | ⟨off', c', cur, h0, h1, h2, h3, h4⟩
  · cases h
  · simp only [Value.slice.injEq, Option.some.injEq, Addr.mk.injEq, and_true, true_and] at h0
    obtain ⟨rfl, rfl, rfl⟩ := h0
    refine .inr ⟨e, c - N, cur, by rw [List.length_drop], by rw [List.length_drop]; omega, by omega, h3, fun j u hu => ?_⟩
    have hj : j < L.length - N := by have := (List.getElem?_eq_some_iff.1 hu).1; simpa using this
    rw [he, if_neg (by omega), Nat.add_assoc]
    refine h4 (N + j) u ?_
    rwa [List.map_drop, List.getElem?_drop] at hu
set_option maxHeartbeats 1600000 in
theorem cut_any {w : World} {B o g : Nat} {v : Value} {L : List UInt8} {n : Int} (hc : w.cell? ⟨B, o, none⟩ = some v) (hz : w.frozen? ⟨B, o, none⟩ = false) (hb : B < w.heap.size) (hp : PieceG w v L g) (hn : 0 ≤ n) :
    Calls Try.prog 107 #[.pointer (some ⟨B, o, none⟩), .int .i64 n] w fun e w' => ∃ v1 v2, e = .returned v1 ∧ w' = w.setCell ⟨B, o, none⟩ v2 ∧ PieceG w v1 (L.take n.toNat) g ∧ PieceG w v2 (L.drop n.toNat) g := by
  obtain ⟨N, hN⟩ : ∃ N, N = min n.toNat L.length := ⟨_, rfl⟩
  rw [← take_min L n.toNat, ← drop_min L n.toNat, ← hN]
  have hNl : N ≤ L.length := by omega
  have HP := Lib.hid hp
  have HN := Lib.hid hN
  have HNL := Lib.hid hNl
  rcases hp with ⟨rfl, rfl⟩ | ⟨off, c, cur, rfl, h1, h2, h3, h4⟩
  · obtain rfl : N = 0 := by simpa using hNl
    have hmin : min n (0 : Int) = 0 := by omega
    clear hN hNl
    go_enter Try.func107, Try.ntmps107
    go_wp2_with (refine wpList_min rfl (.tmp 7) (.tmp 11) _ rfl n 0 0 rfl rfl hmin ?_)
    go_ret
    exact ⟨_, _, rfl, rfl, .inl ⟨rfl, rfl⟩, .inl ⟨rfl, rfl⟩⟩
  · obtain ⟨l, hl⟩ : ∃ l, l = L.length := ⟨_, rfl⟩
    rw [← hl] at hc h1 HP hNl hN
    have hmin : min n (l : Int) = (N : Int) := by omega
    have HL := Lib.hid hl
    clear hN h3 h4 hl
    have e1 : (N : Int) ≤ (l : Int) := by omega
    have e2 : (N : Int) ≤ (c : Int) := by omega
    by_cases hNc : N = c
    · obtain rfl : l = N := by omega
      subst hNc
      have HE := Lib.hid (HP.out.rest HNL.out off (by simp))
      go_enter Try.func107, Try.ntmps107
      go_wp2_with (refine wpList_min rfl (.tmp 7) (.tmp 11) _ rfl n l l rfl rfl hmin ?_)
      rw [Nat.sub_self] at HE
      go_ret
      exact ⟨_, _, rfl, rfl, HP.out.cut HNL.out, HE.out⟩
    · have HE := Lib.hid (HP.out.rest HNL.out (off + N) (by rw [if_neg hNc]))
      have e3 : (N : Int) < (c : Int) := by omega
      go_enter Try.func107, Try.ntmps107
      go_wp2_with (refine wpList_min rfl (.tmp 7) (.tmp 11) _ rfl n l N rfl rfl hmin ?_)
      go_ret
      exact ⟨_, _, rfl, rfl, HP.out.cut HNL.out, HE.out⟩

section
variable {w : World} {a bb cc c : Nat} {B : List UInt8}
/-- Bytes that lie in a block are written to a ring buffer. -/
theorem rgWriteP {v : Value} {P : List UInt8} {g : Nat} (h : RAt w a bb cc c B) (hp : PieceG w v P g) (hP : P.length ≤ 65536) (hg : g ≠ cc) :
    Calls Try.prog 81 #[pt a, v] w fun e w' => e = .returned (.tuple #[.int .i64 ((min P.length (c - B.length) : Nat) : Int), .int .i64 0]) ∧ RAt w' a bb cc c (B ++ P.take (min P.length (c - B.length))) ∧ Fr [bb, cc] w w' := by
  obtain ⟨cp, f, xs, R⟩ := h
  rcases hp with ⟨rfl, rfl⟩ | ⟨off, cap, cur, rfl, h1, h2, h3, h4⟩
  · refine (Rg.write_none R).mono ?_
    rintro e w' ⟨rfl, R', _, hf⟩
    exact ⟨by simp, by simpa using RAt.of R', hf⟩
  · have hl : Rg.Lies w g off P := fun i u hu => cells_cell h3 (h4 i (encB u) (by rw [List.getElem?_map, hu]; rfl))
    refine (Rg.write_some R P hP h1 h2 hl hg (ne_types h3 R.tb (by decide))).mono ?_
    rintro e w' ⟨xs', rfl, R', _, hf⟩
    exact ⟨rfl, RAt.of R', hf⟩
theorem rgPeek_all (h : RAt w a bb cc c B) :
    Calls Try.prog 84 #[pt a, .int .i64 0, .int .i64 (B.length : Nat)] w fun e w' => ∃ v, e = .returned (.tuple #[v, .int .i64 0]) ∧ RowB w' w.heap.size v B ∧ Below w.heap.size w w' := by
  obtain ⟨cp, f, xs, R⟩ := h
  refine (Rg.peek_ok R 0 (B.length : Int) (Int.le_refl _) (by omega)).mono ?_
  rintro e w' ⟨v, rfl, hr, hb⟩
  exact ⟨v, rfl, by have := rowB_iff.1 hr; simpa using this, hb⟩
end

/-- Which function a kind's method is. -/
def fillF : Option (Nat × Nat × Nat) → Nat
  | none => 111
  | some _ => 114
def takeF : Option (Nat × Nat × Nat) → Nat
  | none => 113
  | some _ => 116
def heldF : Option (Nat × Nat × Nat) → Nat
  | none => 112
  | some _ => 115
def capF : Option (Nat × Nat × Nat) → Nat
  | none => 109
  | some _ => 88
def resetF : Option (Nat × Nat × Nat) → Nat
  | none => 110
  | some _ => 108
/-- What a kind's methods are called on. -/
def kindA : Option (Nat × Nat × Nat) → Value
  | none => .agg #[]
  | some (a, _, _) => .agg #[pt a]
def kindR : Option (Nat × Nat × Nat) → Value
  | none => .agg #[]
  | some (a, _, _) => pt a
structure Knd (q : Option (Nat × Nat × Nat)) (T : TypeId) : Prop where
  val : kindV q = .iface T (kindA q)
  fill : ∀ (x : Value) (w : World), (invoke (.fn (.method "aqueduct/stream.fill") #[]) #[.iface T (kindA q), x]).run Try.prog w = .ok (.enter (fillF q) #[kindA q, x]) w
  take : ∀ (x y : Value) (w : World), (invoke (.fn (.method "aqueduct/stream.take") #[]) #[.iface T (kindA q), x, y]).run Try.prog w = .ok (.enter (takeF q) #[kindA q, x, y]) w
  held : ∀ (w : World), (invoke (.fn (.method "aqueduct/stream.held") #[]) #[.iface T (kindA q)]).run Try.prog w = .ok (.enter (heldF q) #[kindA q]) w
  cap : ∀ (w : World), (invoke (.fn (.method "Cap") #[]) #[.iface T (kindA q)]).run Try.prog w = .ok (.enter (capF q) #[kindR q]) w
  reset : ∀ (w : World), (invoke (.fn (.method "Reset") #[]) #[.iface T (kindA q)]).run Try.prog w = .ok (.enter (resetF q) #[kindR q]) w
theorem knd (q : Option (Nat × Nat × Nat)) : ∃ T, Knd q T := by
  match q with
  | none => exact ⟨125, rfl, fun x w => by kernel_rfl, fun x y w => by kernel_rfl, fun w => by kernel_rfl, fun w => by kernel_rfl, fun w => by kernel_rfl⟩
  | some (a, bb, cc) => exact ⟨127, rfl, fun x w => by kernel_rfl, fun x y w => by kernel_rfl, fun w => by kernel_rfl, fun w => by kernel_rfl, fun w => by kernel_rfl⟩

/-- A call through an interface value. -/
theorem opwp_invoke {P : Program} {o : Oper} {a : Act} {w : World} {K : Act → World → Prop} {Q : Exit → Act → World → Prop} (recv : Operand) (name : String) (args : Array Operand) (ats : Array TypeId) (ho : o.op = .call { callee := .invoke recv name, args := args, argTypes := ats }) (V : Value) (xs : List Value) (hv : a.eval recv = V) (hx : args.toList.map a.eval = xs) (f : FuncId) (bs : Array Value)
    (hrun : (invoke (.fn (.method name) #[]) (V :: xs).toArray).run P w = .ok (.enter f bs) w) (h : Calls P f bs w fun e w' => ∃ v, e = .returned v ∧ K (a.put o.dst v) w') : Oper.wp P o a w K Q := by
  have hr : (execOp a.eval o).run P w = .ok (.enter f bs) w := by
    have e1 : #[V] ++ args.map a.eval = (V :: xs).toArray := by
      rw [← hx]
      apply Array.ext'
      simp
    simp only [execOp, ho, resolve, hv, e1, Sem.run_bind, Sem.run_pure, Result.andThen_ok]
    exact hrun
  unfold Oper.wp
  rw [hr, Oper.upon_enter]
  refine h.mono ?_
  rintro e w' ⟨v, rfl, hk⟩
  exact hk
theorem wpList_invoke {P : Program} {ops : Array Oper} {rest : List Oper} {o : Oper} {a : Act} {w : World} {Q : Exit → Act → World → Prop} (hg : o.guard = none) (recv : Operand) (name : String) (args : Array Operand) (ats : Array TypeId) (ho : o.op = .call { callee := .invoke recv name, args := args, argTypes := ats }) (V : Value) (xs : List Value) (hv : a.eval recv = V) (hx : args.toList.map a.eval = xs) (f : FuncId) (bs : Array Value)
    (hrun : (invoke (.fn (.method name) #[]) (V :: xs).toArray).run P w = .ok (.enter f bs) w) (h : Calls P f bs w fun e w' => ∃ v, e = .returned v ∧ wpList P ops Q rest (a.put o.dst v) w') : wpList P ops Q (o :: rest) a w := by
  refine wpList_plain hg fun K hK => opwp_invoke recv name args ats ho V xs hv hx f bs hrun (h.mono ?_)
  rintro e w' ⟨v, rfl, hk⟩
  exact ⟨v, rfl, hK _ _ hk⟩
end Go.Proofs.Yteimjkmjofaieaa
