/- A stream in memory; usable, open, over, accepted, outcome, acceptable, Progress, Cancel, End. -/
import Derived.Test.YteimjkmjofaieaaYFill
import Derived.StillTail
import Derived.StillTailTactics
namespace Go.Proofs.Yteimjkmjofaieaa
open Go.RowKit Go.Sort
set_option linter.unusedVariables false
set_option linter.unusedSimpArgs false
set_option maxRecDepth 100000

section
variable {w : World} {q : Option (Nat × Nat × Nat)} {c B o g : Nat} {S L : List UInt8} {cs : Array Value} {t : TypeId} {v : Value}
/-- What is taken, what stays in the buffer, and of the rest. -/
def kT (c : Nat) (S L : List UInt8) (n : Nat) : List UInt8 := if c = 0 then L.take n else S.take n
def kS (c : Nat) (S L : List UInt8) (n : Nat) : List UInt8 := if c = 0 then [] else S.drop n ++ L.take (min L.length (c - (S.drop n).length))
def kL (c : Nat) (S L : List UInt8) (n : Nat) : List UInt8 := if c = 0 then L.drop n else L.drop (min L.length (c - (S.drop n).length))
theorem fill_any (hk : KAt w q c S) (h : RestAt w q B o cs t v L g) (hL : L.length ≤ 65536) :
    Calls Try.prog (fillF q) #[kindA q, .pointer (some ⟨B, o, none⟩)] w fun e w' => e = .returned (.tuple #[]) ∧ KAt w' q c (S ++ L.take (min L.length (c - S.length))) ∧ RestTo w' q B o cs t (L.drop (min L.length (c - S.length))) g ∧ Fr (B :: kF q) w w' := by
  match q, hk, h with
  | none, hk, h =>
    obtain ⟨rfl, rfl⟩ := hk
    refine (diFill w _).mono ?_
    rintro e w' ⟨rfl, hb⟩
    refine ⟨rfl, ⟨rfl, by simp⟩, ⟨v, ?_, by simpa using h.pc.grown hb⟩, Fr.of_below hb _⟩
    rw [set_same h.at_]
    exact (hb.block _ (lt_of_block h.blk)).trans h.blk
  | some (a, bb, cc), hk, h =>
    refine (buFill hk.2.2 h hL).mono ?_
    rintro e w' ⟨rfl, h1, h2, h3⟩
    exact ⟨rfl, ⟨hk.1, hk.2.1, h1⟩, h2, h3⟩
theorem take_any {n : Int} (hk : KAt w q c S) (h : RestAt w q B o cs t v L g) (hL : L.length ≤ 65536) (hn : 0 ≤ n) :
    Calls Try.prog (takeF q) #[kindA q, .int .i64 n, .pointer (some ⟨B, o, none⟩)] w fun e w' => ∃ v', e = .returned v' ∧ RowB w' w.heap.size v' (kT c S L n.toNat) ∧ KAt w' q c (kS c S L n.toNat) ∧ RestTo w' q B o cs t (kL c S L n.toNat) g ∧ Fr (B :: kF q) w w' := by
  match q, hk, h with
  | none, hk, h =>
    obtain ⟨rfl, rfl⟩ := hk
    refine (diTake h hn hL).mono ?_
    rintro e w' ⟨v', rfl, h1, h2, h3⟩
    exact ⟨v', rfl, h1, ⟨rfl, rfl⟩, h2, h3⟩
  | some (a, bb, cc), hk, h =>
    have hc : c ≠ 0 := by have := hk.1; omega
    unfold kT kS kL
    rw [if_neg hc, if_neg hc, if_neg hc]
    refine (buTake hk.2.2 h hL hn).mono ?_
    rintro e w' ⟨v', rfl, h1, h2, h3, h4⟩
    exact ⟨v', rfl, h1, ⟨hk.1, hk.2.1, h2⟩, h3, h4⟩
theorem held_any (hk : KAt w q c S) : Calls Try.prog (heldF q) #[kindA q] w fun e w' => ∃ v, e = .returned v ∧ RowB w' w.heap.size v S ∧ Below w.heap.size w w' := by
  match q, hk with
  | none, hk =>
    obtain ⟨rfl, rfl⟩ := hk
    refine (diHeld w).mono ?_
    rintro e w' ⟨rfl, hb⟩
    exact ⟨_, rfl, World.ownsRow_nil _ _ _ _, hb⟩
  | some (a, bb, cc), hk => exact buHeld hk.2.2
theorem capK_any (hk : KAt w q c S) : Calls Try.prog (capF q) #[kindR q] w fun e w' => e = .returned (.int .i64 (c : Nat)) ∧ Below w.heap.size w w' := by
  match q, hk with
  | none, hk =>
    obtain ⟨rfl, rfl⟩ := hk
    exact diCap w
  | some (a, bb, cc), hk =>
    refine (rgCap_at hk.2.2).mono ?_
    rintro e w' ⟨rfl, rfl⟩
    exact ⟨rfl, Below.refl _ _⟩
theorem resetK_any (hk : KAt w q c S) : Calls Try.prog (resetF q) #[kindR q] w fun e w' => e = .returned (.int .i64 0) ∧ KAt w' q c [] ∧ Fr (kF q) w w' := by
  match q, hk with
  | none, hk =>
    obtain ⟨rfl, rfl⟩ := hk
    refine (diReset w).mono ?_
    rintro e w' ⟨rfl, hb⟩
    exact ⟨rfl, ⟨rfl, rfl⟩, Fr.of_below hb _⟩
  | some (a, bb, cc), hk =>
    refine (rgReset_at hk.2.2).mono ?_
    rintro e w' ⟨rfl, h1, h2⟩
    exact ⟨rfl, ⟨hk.1, hk.2.1, h1⟩, h2⟩
/-- All blocks of a kind. -/
def kO : Option (Nat × Nat × Nat) → List Nat
  | none => []
  | some (a, bb, cc) => [a, bb, cc]
theorem KAt.fr {w' : World} {F : List Nat} (h : KAt w q c S) (hf : Fr F w w') (hn : ∀ i ∈ kO q, i ∉ F) : KAt w' q c S := by
  match q, h, hn with
  | none, h, _ => exact h
  | some (a, bb, cc), h, hn => exact ⟨h.1, h.2.1, h.2.2.fr hf (hn a (by simp [kO])) (hn bb (by simp [kO])) (hn cc (by simp [kO]))⟩
theorem KAt.lt (h : KAt w q c S) : ∀ i ∈ kO q, i < w.heap.size := by
  match q, h with
  | none, h => intro i hi; simp [kO] at hi
  | some (a, bb, cc), h =>
    have := h.2.2.lt
    intro i hi
    simp only [kO, List.mem_cons, List.not_mem_nil, or_false] at hi
    omega
theorem kF_sub {i : Nat} (h : i ∈ kF q) : i ∈ kO q := by
  match q, h with
  | none, h => simp [kF] at h
  | some (a, bb, cc), h =>
    simp only [kF, kO, List.mem_cons, List.not_mem_nil, or_false] at h ⊢
    exact .inr h
theorem KAt.ne {b : Nat} (h : KAt w q c S) (hb : w.heap[b]? = some (.cells cs t (0, 0))) (t1 : t ≠ 135) (t2 : t ≠ 133) (t3 : t ≠ 5) : b ∉ kO q := by
  match q, h with
  | none, h => simp [kO]
  | some (a, bb, cc), h =>
    have := h.2.2.ne3 hb t1 t2 t3
    simp [kO, this]
end

/-- A stream in memory. -/
structure SAt (w : World) (m : Nat) (k : Sb) (x : St) : Prop where
  ok : x.Ok
  me : w.heap[m]? = some (.cells #[pt k.b] 48 (0, 0))
  ex : ∃ v, w.heap[k.b]? = some (.cells #[kindV k.q, .bool x.busy, v, .int .i64 ((x.a + x.R.length : Nat) : Int), .int .i64 x.rd, .int .i64 x.wr] 94 (0, 0)) ∧ PieceG w v x.R k.g
  kd : KAt w k.q x.c x.S
  gq : ∀ a bb cc, k.q = some (a, bb, cc) → k.g ≠ cc
  gl : k.g < w.heap.size
/-- All blocks behind a stream. -/
def Sb.A (k : Sb) : List Nat := k.b :: k.g :: kO k.q
section
variable {w w' : World} {m : Nat} {k : Sb} {x : St}
theorem SAt.fr {F : List Nat} (h : SAt w m k x) (hf : Fr F w w') (hm : m ∉ F) (hn : ∀ i ∈ k.A, i ∉ F) : SAt w' m k x := by
  obtain ⟨v, h1, h2⟩ := h.ex
  exact ⟨h.ok, hf.same h.me hm, ⟨v, hf.same h1 (hn _ (by simp [Sb.A])), h2.fr hf (hn _ (by simp [Sb.A]))⟩, h.kd.fr hf (fun i hi => hn i (by simp [Sb.A, hi])), h.gq, by have := h.gl; have := hf.size; omega⟩
theorem SAt.grown (h : SAt w m k x) (hf : Below w.heap.size w w') : SAt w' m k x := h.fr (Fr.of_below hf []) (by simp) (by simp)
theorem SAt.lt (h : SAt w m k x) : m < w.heap.size ∧ ∀ i ∈ k.A, i < w.heap.size := by
  obtain ⟨v, h1, h2⟩ := h.ex
  refine ⟨lt_of_block h.me, fun i hi => ?_⟩
  simp only [Sb.A, List.mem_cons] at hi
  rcases hi with rfl | rfl | hi
  · exact lt_of_block h1
  · exact h.gl
  · exact h.kd.lt i hi
theorem SAt.F_lt (h : SAt w m k x) : ∀ i ∈ k.F, i < w.heap.size := fun i hi => by
  rw [Sb.F_eq] at hi
  rcases List.mem_cons.1 hi with rfl | hi
  · exact h.lt.2 _ (by simp [Sb.A])
  · exact h.kd.lt i (kF_sub hi)
/-- The blocks that its calls change are no block of another type. -/
theorem SAt.not (h : SAt w m k x) {i : Nat} {cs : Array Value} {t : TypeId} (hi : w.heap[i]? = some (.cells cs t (0, 0))) (h1 : t ≠ 94) (h2 : t ≠ 133) (h3 : t ≠ 5) (h4 : t ≠ 135) : i ∉ k.F := by
  obtain ⟨v, e1, _⟩ := h.ex
  rw [Sb.F_eq]
  intro hm
  rcases List.mem_cons.1 hm with rfl | hm
  · exact ne_types hi e1 h1 rfl
  · exact h.kd.ne hi h4 h2 h3 (kF_sub hm)
theorem SAt.mne (h : SAt w m k x) : m ∉ k.F := h.not h.me (by decide) (by decide) (by decide) (by decide)
/-- A block of another type changes. -/
theorem SAt.box {i : Nat} {cs : Array Value} {t : TypeId} (h : SAt w m k x) (hi : w.heap[i]? = some (.cells cs t (0, 0))) (hf : Fr [i] w w') (h1 : t ≠ 94) (h2 : t ≠ 133) (h3 : t ≠ 5) (h4 : t ≠ 135) (h5 : t ≠ 48) : SAt w' m k x := by
  obtain ⟨v, e1, e2⟩ := h.ex
  refine ⟨h.ok, hf.same h.me (by simpa using ne_types h.me hi (fun e => h5 e.symm)), ⟨v, hf.same e1 (by simpa using ne_types e1 hi (fun e => h1 e.symm)), ?_⟩, h.kd.fr hf (fun j hj => by
    have := h.kd.ne hi h4 h2 h3
    intro hm
    rw [List.mem_singleton.1 hm] at hj
    exact this hj), h.gq, by have := h.gl; have := hf.size; omega⟩
  rcases e2 with e2 | ⟨off, c, cur, rfl, q1, q2, q3, q4⟩
  · exact .inl e2
  · exact .inr ⟨off, c, cur, rfl, q1, q2, hf.same q3 (by simpa using ne_types q3 hi (fun e => h3 e.symm)), q4⟩
/-- A pointer that is no stream. -/
def NoS (w : World) (v : Value) : Prop := v = .pointer none ∨ ∃ q, v = pt q ∧ w.heap[q]? = some (.cells #[.pointer none] 48 (0, 0))
theorem NoS.grown {v : Value} (h : NoS w v) (hb : Below w.heap.size w w') : NoS w' v := by
  rcases h with h | ⟨q, h1, h2⟩
  · exact .inl h
  · exact .inr ⟨q, h1, (hb.block _ (lt_of_block h2)).trans h2⟩
/-- The cells of its body, as a walk wants them. -/
theorem SAt.cl (h : SAt w m k x) : ∃ T va vc, Knd k.q T ∧ x.R.length ≤ vc ∧ w.heap[k.b]? = some (.cells #[.iface T (kindA k.q), .bool x.busy, .slice va x.R.length vc, .int .i64 ((x.a + x.R.length : Nat) : Int), .int .i64 x.rd, .int .i64 x.wr] 94 (0, 0)) ∧ PieceG w (.slice va x.R.length vc) x.R k.g := by
  obtain ⟨v, h1, h2⟩ := h.ex
  obtain ⟨va, vc, rfl, q1, q2⟩ := h2.form
  obtain ⟨T, hT⟩ := knd k.q
  refine ⟨T, va, vc, hT, q1, ?_, h2⟩
  rw [← hT.val]
  exact h1
/-- The body has changed, not the kind. -/
theorem SAt.set {y : St} {v : Value} {T : TypeId} (h : SAt w m k x) (hT : Knd k.q T) (hf : Fr [k.b] w w') (ok : y.Ok) (hc : y.c = x.c) (hS : y.S = x.S)
    (hb : w'.heap[k.b]? = some (.cells #[.iface T (kindA k.q), .bool y.busy, v, .int .i64 ((y.a + y.R.length : Nat) : Int), .int .i64 y.rd, .int .i64 y.wr] 94 (0, 0))) (hp : PieceG w v y.R k.g) : SAt w' m k y := by
  obtain ⟨u, h1, _⟩ := h.ex
  have hkb : ∀ j ∈ kO k.q, j ∉ [k.b] := fun j hj hm => by
    rw [List.mem_singleton.1 hm] at hj
    exact h.kd.ne h1 (by decide) (by decide) (by decide) hj
  refine ⟨ok, hf.same h.me (by simpa using ne_types h.me h1 (by decide)), ⟨v, by rw [hT.val]; exact hb, ?_⟩, by rw [hc, hS]; exact h.kd.fr hf hkb, h.gq, by have := h.gl; have := hf.size; omega⟩
  rcases hp with hp | ⟨off, c, cur, rfl, q1, q2, q3, q4⟩
  · exact .inl hp
  · exact .inr ⟨off, c, cur, rfl, q1, q2, hf.same q3 (by simpa using ne_types q3 h1 (by decide)), q4⟩

theorem errs_eq2 (a b c d : Int) (w : World) : (Op.equalIn 10000 91 (.agg #[.int .i64 a, .int .i64 b]) (.agg #[.int .i64 c, .int .i64 d])).run Try.prog w = .ok (a == c && b == d) w := by
  have hu : Try.prog.underlying 91 = some (.array 2 26) := by kernel_rfl
  have hi : Try.prog.underlying 26 = some (.int .i64) := by kernel_rfl
  have h1 : ∀ w, (sizeOf 26).run Try.prog w = .ok 1 w := fun w => by simp [go_sem]
  have hp : ∀ (x y : Int) (w : World), (part 26 #[.int .i64 x, .int .i64 y] 0).run Try.prog w = .ok (.int .i64 x) w := fun x y w => by simp [part, go_sem]
  have hp1 : ∀ (x y : Int) (w : World), (part 26 #[.int .i64 x, .int .i64 y] 1).run Try.prog w = .ok (.int .i64 y) w := fun x y w => by simp [part, go_sem]
  have he : ∀ (x y : Int) (w : World), (Op.equalIn 9999 26 (.int .i64 x) (.int .i64 y)).run Try.prog w = .ok (x == y) w := fun x y w => run_equalIn_int w 9998 26 .i64 .i64 x y hi
  show (Op.equalIn (9999 + 1) 91 _ _).run Try.prog w = _
  unfold Op.equalIn
  simp only [Sem.run_bind, run_underlying hu, Result.andThen_ok, h1]
  rw [Std.Legacy.Range.forIn_eq_forIn_range']
  simp [Std.Legacy.Range.size, List.range', hp, hp1, he]
  by_cases q : a = c
  · subst q
    by_cases q2 : b = d
    · subst q2; simp
    · simp [q2]
  · simp [q]
theorem stUsable_yes (h : SAt w m k x) : Calls Try.prog 57 #[pt m] w fun e w' => e = .returned (.bool true) ∧ w' = w := by
  have q := cells_cell (o := 0) h.me rfl
  clear h
  unfold pt at *
  go_enter Try.func57, Try.ntmps57
  go_wp2
  go_ret
  exact ⟨rfl, rfl⟩
theorem stUsable_no {v : Value} (h : NoS w v) : Calls Try.prog 57 #[v] w fun e w' => e = .returned (.bool false) ∧ w' = w := by
  rcases h with rfl | ⟨q, rfl, h2⟩
  · go_enter Try.func57, Try.ntmps57
    go_wp2
    go_ret
    exact ⟨rfl, rfl⟩
  · have k := cells_cell (o := 0) h2 rfl
    clear h2
    unfold pt at *
    go_enter Try.func57, Try.ntmps57
    go_wp2
    go_ret
    exact ⟨rfl, rfl⟩
/-- Both ends are open. -/
def St.op (x : St) : Bool := decide (x.wr = 0 ∧ x.rd = 0)
theorem stOpen_any (h : SAt w m k x) : Calls Try.prog 78 #[pt k.b] w fun e w' => e = .returned (.bool x.op) ∧ w' = w := by
  obtain ⟨T, va, vc, hT, hvc, h1, h2⟩ := h.cl
  have k4 := cells_cell (o := 4) h1 rfl
  have k5 := cells_cell (o := 5) h1 rfl
  unfold St.op
  obtain ⟨r, hr⟩ : ∃ r, r = x.rd := ⟨_, rfl⟩
  obtain ⟨s, hs⟩ : ∃ s, s = x.wr := ⟨_, rfl⟩
  rw [← hr] at k4 ⊢
  rw [← hs] at k5 ⊢
  have pe := errs_eq2 r s 0 0
  clear h h1 h2 hr hs hT hvc
  unfold pt at *
  go_enter Try.func78, Try.ntmps78
  go_wp2
  go_ret
  have e : (r == 0 && s == 0) = decide (s = 0 ∧ r = 0) := by
    by_cases q : r = 0 <;> by_cases q2 : s = 0 <;> simp [q, q2]
  exact ⟨by rw [← e]; rfl, rfl⟩
theorem stOver_any (h : SAt w m k x) : Calls Try.prog 59 #[pt k.b] w fun e w' => e = .returned (.bool x.over) ∧ w' = w := by
  obtain ⟨T, va, vc, hT, hvc, h1, h2⟩ := h.cl
  have k2 := cells_cell (o := 2) h1 rfl
  have ho := stOpen_any h
  have ho2 : x.over = (decide (x.R.length = 0) || !x.op) := by
    unfold St.over St.op
    by_cases a : x.R = [] <;> by_cases b : x.wr = 0 <;> by_cases d : x.rd = 0 <;> simp [a, b, d]
  rw [ho2]
  obtain ⟨n, hn⟩ : ∃ n, n = x.R.length := ⟨_, rfl⟩
  obtain ⟨p, hp⟩ : ∃ p, p = x.op := ⟨_, rfl⟩
  rw [← hn] at k2 ⊢
  rw [← hp] at ho ⊢
  have HO := Lib.hid ho
  clear h h1 h2 hn hT hvc ho hp ho2
  unfold pt at *
  by_cases h0 : n = 0
  · subst h0
    go_enter Try.func59, Try.ntmps59
    go_wp2_with (go_at_call 78; refine HO.out.mono ?_; rintro e w' ⟨rfl, rfl⟩)
    go_ret
    exact ⟨rfl, rfl⟩
  · have h0' : ((n : Int) == 0) = false := by simp; omega
    have h1 : decide (n = 0) = false := by simp [h0]
    rw [h1, Bool.false_or]
    go_enter Try.func59, Try.ntmps59
    go_wp2_with (go_at_call 78; refine HO.out.mono ?_; rintro e w' ⟨rfl, rfl⟩)
    go_ret
    exact ⟨rfl, rfl⟩
theorem stAccepted_any (h : SAt w m k x) : Calls Try.prog 58 #[pt k.b] w fun e w' => e = .returned (.int .i64 ((x.a : Nat) : Int)) ∧ Below w.heap.size w w' := by
  obtain ⟨T, va, vc, hT, hvc, h1, h2⟩ := h.cl
  have k2 := cells_cell (o := 2) h1 rfl
  have k3 := cells_cell (o := 3) h1 rfl
  have hs := h.ok.small
  obtain ⟨n, hn⟩ : ∃ n, n = x.R.length := ⟨_, rfl⟩
  obtain ⟨a, ha⟩ : ∃ a, a = x.a := ⟨_, rfl⟩
  rw [← hn] at k2 k3 hs
  rw [← ha] at k3 hs ⊢
  obtain ⟨z, hz⟩ : ∃ z : Int, z = ((a + n : Nat) : Int) := ⟨_, rfl⟩
  rw [← hz] at k3
  have e1 : z - (n : Int) = (a : Int) := by omega
  have e2 : z ≤ 65536 := by omega
  have e3 : 0 ≤ z := by omega
  clear h h1 h2 hn hT hvc ha hz hs
  unfold pt at *
  go_enter Try.func58, Try.ntmps58
  go_wp2_with fail
  go_quiet (fail)
  go_wp2_with fail
  go_ret
  exact ⟨rfl, (Grn.refl _).drew _ |>.below⟩
theorem stOutcome_any (h : SAt w m k x) : Calls Try.prog 60 #[pt k.b] w fun e w' => e = .returned (.int .i64 x.out) ∧ w' = w := by
  obtain ⟨T, va, vc, hT, hvc, h1, h2⟩ := h.cl
  have k2 := cells_cell (o := 2) h1 rfl
  have k4 := cells_cell (o := 4) h1 rfl
  have k5 := cells_cell (o := 5) h1 rfl
  unfold St.out
  simp only [← List.length_eq_zero_iff]
  obtain ⟨n, hn⟩ : ∃ n, n = x.R.length := ⟨_, rfl⟩
  obtain ⟨r, hr⟩ : ∃ r, r = x.rd := ⟨_, rfl⟩
  obtain ⟨s, hs⟩ : ∃ s, s = x.wr := ⟨_, rfl⟩
  rw [← hn] at k2 ⊢
  rw [← hr] at k4 ⊢
  rw [← hs] at k5 ⊢
  clear h h1 h2 hn hr hs hT hvc
  unfold pt at *
  by_cases h0 : n = 0
  · subst h0
    rw [if_pos rfl]
    go_enter Try.func60, Try.ntmps60
    go_wp2
    go_ret
    exact ⟨rfl, rfl⟩
  · have h0' : ((n : Int) == 0) = false := by simp; omega
    rw [if_neg h0]
    by_cases hs : s = 0
    · subst hs
      rw [if_neg (by simp)]
      go_enter Try.func60, Try.ntmps60
      go_wp2
      go_ret
      exact ⟨rfl, rfl⟩
    · have hs' : (s != 0) = true := by simp [hs]
      rw [if_pos hs]
      go_enter Try.func60, Try.ntmps60
      go_wp2
      go_ret
      exact ⟨rfl, rfl⟩
/-- What may be accepted, as its address. -/
theorem stAcceptable_open (h : SAt w m k x) (ho : x.op = true) : Calls Try.prog 61 #[pt k.b] w fun e w' => e = .returned (.pointer (some ⟨k.b, 2, none⟩)) ∧ w' = w := by
  have hop := stOpen_any h
  rw [ho] at hop
  have HO := Lib.hid hop
  clear h hop ho
  unfold pt at *
  go_enter Try.func61, Try.ntmps61
  go_wp2_with (go_at_call 78; refine HO.out.mono ?_; rintro e w' ⟨rfl, rfl⟩)
  go_ret
  exact ⟨rfl, rfl⟩
theorem stAcceptable_shut (h : SAt w m k x) (ho : x.op = false) : Calls Try.prog 61 #[pt k.b] w fun e w' => e = .returned (.pointer (some ⟨w.heap.size, 0, none⟩)) ∧ w' = w.alloc (.cells #[.slice none 0 0] 92) := by
  have hop := stOpen_any h
  rw [ho] at hop
  have HO := Lib.hid hop
  clear h hop ho
  unfold pt at *
  go_enter Try.func61, Try.ntmps61
  go_wp2_with (go_at_call 78; refine HO.out.mono ?_; rintro e w' ⟨rfl, rfl⟩)
  go_ret
  exact ⟨rfl, rfl⟩
theorem stProgress_no {v : Value} (h : NoS w v) : Calls Try.prog 20 #[v] w fun e w' => e = .returned (.tuple #[.int .i64 0, .bool false]) ∧ w' = w := by
  have hu := Lib.hid (stUsable_no h)
  obtain ⟨a, rfl⟩ : ∃ a, v = .pointer a := by rcases h with h | ⟨q, h, _⟩ <;> exact ⟨_, h⟩
  clear h
  go_enter Try.func20, Try.ntmps20
  go_wp2_with (go_at_call 57; refine hu.out.mono ?_; rintro e w' ⟨rfl, rfl⟩)
  go_ret2
  exact ⟨rfl, rfl⟩
set_option maxHeartbeats 1600000 in
theorem stProgress_any (h : SAt w m k x) : Calls Try.prog 20 #[pt m] w fun e w' => e = .returned (.tuple #[.int .i64 (((sPr x).1 : Nat) : Int), .bool (sPr x).2]) ∧ Below w.heap.size w w' := by
  obtain ⟨T, va, vc, hT, hvc, h1, h2⟩ := h.cl
  have k0 := cells_cell (o := 0) h.me rfl
  have k1 := cells_cell (o := 1) h1 rfl
  have hu := Lib.hid (stUsable_yes h)
  have H := Lib.hid h
  unfold sPr
  cases hb : x.busy with
  | false =>
    rw [hb] at k1
    rw [if_neg (by simp)]
    clear h h1 h2 hT hvc hb
    unfold pt at *
    go_enter Try.func20, Try.ntmps20
    go_wp2_with (go_at_call 57; refine hu.out.mono ?_; rintro e w' ⟨rfl, rfl⟩)
    go_ret2
    exact ⟨rfl, Below.refl _ _⟩
  | true =>
    rw [hb] at k1
    rw [if_pos rfl]
    obtain ⟨a, ha⟩ : ∃ a, a = x.a := ⟨_, rfl⟩
    obtain ⟨p, hp⟩ : ∃ p, p = x.over := ⟨_, rfl⟩
    rw [← ha, ← hp]
    have HA := Lib.hid ha
    have HP := Lib.hid hp
    have HM := Lib.hid h.me
    clear h h1 h2 hT hvc hb ha hp
    unfold pt at *
    go_enter Try.func20, Try.ntmps20
    go_wp2_with (go_at_call 57; refine hu.out.mono ?_; rintro e w' ⟨rfl, rfl⟩)
    refine wp_region_mix (fun W' => W'.heap[m]? = some (.cells #[.pointer (some ⟨k.b, 0, none⟩)] 48 (0, 0))) 11 [(true, 0), (true, 1), (true, 2), (true, 3), (true, 5), (true, 6), (true, 7), (true, 8), (false, 4), (false, 9), (true, 10)] (by kernel_rfl) (by kernel_rfl) (fun _ _ _ d _ h => by cases d <;> exact h) ?_
    have HD : Hid (Below w'.heap.size w' w'.drew) := Lib.hid ((Grn.refl w').drew 1).below
    have HS : Hid (w'.drew.heap[m]? = some (.cells #[.pointer (some ⟨k.b, 0, none⟩)] 48 (0, 0))) := Lib.hid ((HD.out.block _ (lt_of_block HM.out)).trans HM.out)
    simp only [List.map_cons, List.map_nil, List.getD_cons_zero, List.getD_cons_succ, List.drop_succ_cons, List.drop_zero]
    generalize w'.drew = V at *
    refine mix_move (.tmp 0) (.pointer (some ⟨m, 0, none⟩)) rfl HS.out rfl rfl ?_
    simp only [Act.put, List.setIfInBounds_toArray, List.set_cons_zero, List.set_cons_succ]
    refine mix_take (.pointer (some ⟨m, 0, none⟩)) HS.out rfl (fun W' hS => by go_simp) ?_
    simp only [Act.put, List.setIfInBounds_toArray, List.set_cons_zero, List.set_cons_succ]
    refine mix_take (.pointer (some ⟨m, 0, none⟩)) HS.out rfl (fun W' hS => by go_simp) ?_
    simp only [Act.put, List.setIfInBounds_toArray, List.set_cons_zero, List.set_cons_succ]
    refine mix_take (.pointer (some ⟨k.b, 0, none⟩)) HS.out rfl (fun W' hS => by
      have e1 := hS
      have l0 := cells_cell (o := 0) e1 rfl
      go_simp) ?_
    simp only [Act.put, List.setIfInBounds_toArray, List.set_cons_zero, List.set_cons_succ]
    refine mix_move (.tmp 0) (.pointer (some ⟨m, 0, none⟩)) rfl HS.out rfl rfl ?_
    simp only [Act.put, List.setIfInBounds_toArray, List.set_cons_zero, List.set_cons_succ]
    refine mix_take (.pointer (some ⟨m, 0, none⟩)) HS.out rfl (fun W' hS => by go_simp) ?_
    simp only [Act.put, List.setIfInBounds_toArray, List.set_cons_zero, List.set_cons_succ]
    refine mix_take (.pointer (some ⟨m, 0, none⟩)) HS.out rfl (fun W' hS => by go_simp) ?_
    simp only [Act.put, List.setIfInBounds_toArray, List.set_cons_zero, List.set_cons_succ]
    refine mix_take (.pointer (some ⟨k.b, 0, none⟩)) HS.out rfl (fun W' hS => by
      have e1 := hS
      have l0 := cells_cell (o := 0) e1 rfl
      go_simp) ?_
    simp only [Act.put, List.setIfInBounds_toArray, List.set_cons_zero, List.set_cons_succ]
    refine mix_step rfl (fun K4 hK => ?_)
    go_simp
    go_wp2_with (go_at_call 58; fail)
    refine (by have q := stAccepted_any (H.out.grown HD.out); rw [← HA.out] at q; exact q : Calls _ _ _ _ _).mono ?_
    rintro e wA ⟨rfl, hbA⟩
    have HA1 := Lib.hid hbA
    have HSA : Hid (wA.heap[m]? = some (.cells #[.pointer (some ⟨k.b, 0, none⟩)] 48 (0, 0))) := Lib.hid ((hbA.block _ (lt_of_block HS.out)).trans HS.out)
    clear hbA
    refine hK _ _ HSA.out ?_
    clear hK K4
    refine mix_step rfl (fun K9 hK => ?_)
    go_simp
    go_wp2_with (go_at_call 59; fail)
    refine (by have q := stOver_any ((H.out.grown HD.out).grown HA1.out); rw [← HP.out] at q; exact q : Calls _ _ _ _ _).mono ?_
    rintro e wO ⟨rfl, rfl⟩
    refine hK _ _ HSA.out ?_
    clear hK K9
    refine mix_take (.int .i64 ((a : Nat) : Int)) HSA.out rfl (fun W' hS => by go_simp) ?_
    simp only [Act.put, List.setIfInBounds_toArray, List.set_cons_zero, List.set_cons_succ]
    refine mix_nil ?_
    go_wp2_with fail
    go_ret2
    exact ⟨rfl, HD.out.trans (HA1.out.mono HD.out.size)⟩
theorem stCancel_no {v : Value} (h : NoS w v) : Calls Try.prog 22 #[v] w fun e w' => e = .returned (.tuple #[.int .i64 0, .int .i64 1]) ∧ w' = w := by
  have hu := Lib.hid (stUsable_no h)
  obtain ⟨a, rfl⟩ : ∃ a, v = .pointer a := by rcases h with h | ⟨q, h, _⟩ <;> exact ⟨_, h⟩
  clear h
  go_enter Try.func22, Try.ntmps22
  go_wp2_with (go_at_call 57; refine hu.out.mono ?_; rintro e w' ⟨rfl, rfl⟩)
  go_ret2
  exact ⟨rfl, rfl⟩
theorem stEnd_no {v : Value} (h : NoS w v) : Calls Try.prog 21 #[v] w fun e w' => e = .returned (.tuple #[.int .i64 0, .int .i64 1]) ∧ w' = w := by
  have hu := Lib.hid (stUsable_no h)
  obtain ⟨a, rfl⟩ : ∃ a, v = .pointer a := by rcases h with h | ⟨q, h, _⟩ <;> exact ⟨_, h⟩
  clear h
  go_enter Try.func21, Try.ntmps21
  go_wp2_with (go_at_call 57; refine hu.out.mono ?_; rintro e w' ⟨rfl, rfl⟩)
  go_ret2
  exact ⟨rfl, rfl⟩
set_option maxHeartbeats 1600000 in
theorem stCancel_any (h : SAt w m k x) : Calls Try.prog 22 #[pt m] w fun e w' => e = .returned (.tuple #[.int .i64 (((sCa x).1 : Nat) : Int), .int .i64 (sCa x).2.1]) ∧ SAt w' m k (sCa x).2.2 ∧ Fr k.F w w' := by
  obtain ⟨T, va, vc, hT, hvc, h1, h2⟩ := h.cl
  have k0 := cells_cell (o := 0) h.me rfl
  have k1 := cells_cell (o := 1) h1 rfl
  have hu := Lib.hid (stUsable_yes h)
  have H := Lib.hid h
  unfold sCa
  cases hb : x.busy with
  | false =>
    rw [hb] at k1
    rw [if_pos rfl]
    clear h h1 h2 hT hvc hb
    unfold pt at *
    go_enter Try.func22, Try.ntmps22
    go_wp2_with (go_at_call 57; refine hu.out.mono ?_; rintro e w' ⟨rfl, rfl⟩)
    go_ret2
    exact ⟨rfl, H.out, Fr.refl _ _⟩
  | true =>
    rw [hb] at k1
    rw [if_neg (by simp)]
    have hac := stAccepted_any h
    obtain ⟨a, ha⟩ : ∃ a, a = x.a := ⟨_, rfl⟩
    rw [← ha] at hac ⊢
    have HAC := Lib.hid hac
    have H1 := Lib.hid h1
    have HT := Lib.hid hT
    clear h h1 h2 hT hvc hb ha hac
    unfold pt at *
    go_enter Try.func22, Try.ntmps22
    go_wp2_with (first
      | (go_at_call 57; refine hu.out.mono ?_; rintro e w' ⟨rfl, rfl⟩)
      | (go_at_call 58; fail))
    refine HAC.out.mono ?_
    rintro e w2 ⟨rfl, hb2⟩
    have hw1 := (hb2.block _ (lt_of_block H1.out)).trans H1.out
    have HW1 := Lib.hid hw1
    have c1 := cells_cell (o := 1) hw1 rfl
    have c2 := cells_cell (o := 2) hw1 rfl
    have c3 := cells_cell (o := 3) hw1 rfl
    have z1 := cells_free hw1 1
    have z2 := cells_free hw1 2
    have z3 := cells_free hw1 3
    have hl2 := lt_of_block hw1
    have HB2 := Lib.hid hb2
    clear hw1 hb2
    go_wp2_with fail
    go_ret2
    have e1 := cells_set (cells_set (cells_set HW1.out 1 (.bool false)) 2 (.slice none 0 0)) 3 (.int .i64 0)
    have hf : Fr [k.b] w2 (((w2.setCell ⟨k.b, 1, none⟩ (.bool false)).setCell ⟨k.b, 2, none⟩ (.slice none 0 0)).setCell ⟨k.b, 3, none⟩ (.int .i64 0)) := ((fr_setCell w2 ⟨k.b, 1, none⟩ _).trans' (fr_setCell _ ⟨k.b, 2, none⟩ _)).trans' (fr_setCell _ ⟨k.b, 3, none⟩ _)
    refine ⟨rfl, (H.out.grown HB2.out).set (y := x.stop) HT.out hf (St.stop_ok H.out.ok) rfl rfl (by simpa [St.stop] using e1) (.inl ⟨rfl, rfl⟩), (Fr.of_below HB2.out _).trans' (hf.mono fun i hi => .inl (by rw [Sb.F_eq, List.mem_singleton.1 hi]; simp))⟩
set_option maxHeartbeats 1600000 in
theorem stEnd_any (h : SAt w m k x) : Calls Try.prog 21 #[pt m] w fun e w' => e = .returned (.tuple #[.int .i64 (((sEn x).1 : Nat) : Int), .int .i64 (sEn x).2.1]) ∧ SAt w' m k (sEn x).2.2 ∧ Fr k.F w w' := by
  obtain ⟨T, va, vc, hT, hvc, h1, h2⟩ := h.cl
  have k0 := cells_cell (o := 0) h.me rfl
  have k1 := cells_cell (o := 1) h1 rfl
  have hu := Lib.hid (stUsable_yes h)
  have H := Lib.hid h
  unfold sEn
  cases hb : x.busy with
  | false =>
    rw [hb] at k1
    rw [if_pos rfl]
    clear h h1 h2 hT hvc hb
    unfold pt at *
    go_enter Try.func21, Try.ntmps21
    go_wp2_with (go_at_call 57; refine hu.out.mono ?_; rintro e w' ⟨rfl, rfl⟩)
    go_ret2
    exact ⟨rfl, H.out, Fr.refl _ _⟩
  | true =>
    rw [hb] at k1
    rw [if_neg (by simp)]
    have hov := stOver_any h
    cases hp : x.over with
    | false =>
      rw [hp] at hov
      rw [if_pos rfl]
      have HO := Lib.hid hov
      clear h h1 h2 hT hvc hb hp hov
      unfold pt at *
      go_enter Try.func21, Try.ntmps21
      go_wp2_with (first
        | (go_at_call 57; refine hu.out.mono ?_; rintro e w' ⟨rfl, rfl⟩)
        | (go_at_call 59; refine HO.out.mono ?_; rintro e w' ⟨rfl, rfl⟩))
      go_ret2
      exact ⟨rfl, H.out, Fr.refl _ _⟩
    | true =>
      rw [hp] at hov
      rw [if_neg (by simp)]
      have HO := Lib.hid hov
      have hou := stOutcome_any h
      have hca := stCancel_any h
      unfold sCa at hca
      rw [hb, if_neg (by simp)] at hca
      obtain ⟨u, hu2⟩ : ∃ u, u = x.out := ⟨_, rfl⟩
      obtain ⟨a, ha⟩ : ∃ a, a = x.a := ⟨_, rfl⟩
      rw [← hu2] at hou ⊢
      rw [← ha] at hca ⊢
      have HU := Lib.hid hou
      have HC := Lib.hid hca
      clear h h1 h2 hT hvc hb hp hov hou hca hu2 ha
      unfold pt at *
      go_enter Try.func21, Try.ntmps21
      go_wp2_with (first
        | (go_at_call 57; refine hu.out.mono ?_; rintro e w' ⟨rfl, rfl⟩)
        | (go_at_call 59; refine HO.out.mono ?_; rintro e w' ⟨rfl, rfl⟩)
        | (go_at_call 60; refine HU.out.mono ?_; rintro e w' ⟨rfl, rfl⟩)
        | (go_at_call 22; fail))
      refine HC.out.mono ?_
      rintro e w2 ⟨rfl, hs2, hf2⟩
      have HS2 := Lib.hid hs2
      have HF2 := Lib.hid hf2
      clear hs2 hf2
      go_wp2_with fail
      go_ret2
      exact ⟨rfl, HS2.out, HF2.out⟩
end
end Go.Proofs.Yteimjkmjofaieaa
