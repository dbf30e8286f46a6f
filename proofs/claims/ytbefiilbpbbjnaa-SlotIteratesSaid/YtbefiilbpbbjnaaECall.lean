/- find, Get, Set, At, Close, New. -/
import Derived.Test.YtbefiilbpbbjnaaEMem
import Derived.StillTailTactics
import Derived.OwnWalk
namespace Go.Proofs.Ytbefiilbpbbjnaa
open Go.RowKit Go.Sort
set_option linter.unusedVariables false
set_option linter.unusedSimpArgs false

theorem neq_fd_same (w : World) (n g : Int) : (binOp .neq 34 (.agg #[.int .i64 n, .int .i64 g]) (.agg #[.int .i64 n, .int .i64 g])).run Try.prog w = .ok (.bool false) w := by
  have h1 : Try.prog.underlying 34 = some _ := Try.underlying34
  simp [go_sem, h1]
theorem neq_fd_other (w : World) (n g g' : Int) (h : g ≠ g') : (binOp .neq 34 (.agg #[.int .i64 n, .int .i64 g]) (.agg #[.int .i64 n, .int .i64 g'])).run Try.prog w = .ok (.bool true) w := by
  have h1 : Try.prog.underlying 34 = some _ := Try.underlying34
  simp [go_sem, h1, h]

theorem cell_gr {w : World} {a : Addr} {v : Value} (h : a.block < w.heap.size) (k : w.cell? a = some v) (m : Nat) (os : Array Obj) : (grow (w.drewN m) os).cell? a = some v :=
  (grn_grow w m os).below.cell h ▸ k

set_option maxRecDepth 100000 in
set_option maxHeartbeats 1600000 in
theorem slFind_open {w : World} {t g c n G : Nat} {v k : Int} {P : Tab} (h : TAt w t g c P) (hp : P[n]? = some ⟨true, G, v⟩) (r : Value)
    (hr : (k = ((G : Nat) : Int) ∧ r = .tuple #[.pointer (some ⟨g, n * 3, none⟩), .int .i64 0]) ∨ (k ≠ ((G : Nat) : Int) ∧ r = .tuple #[.pointer none, .int .i64 9])) :
    Calls Try.prog 39 #[.pointer (some ⟨t, 0, none⟩), .agg #[.int .i64 ((n : Nat) : Int), .int .i64 k]] w fun e w' => e = .returned r ∧ Grn w w' := by
  obtain ⟨W, hW⟩ : ∃ W, w.alloc (.cells #[.int .i64 ((n : Nat) : Int), .int .i64 k] 34) = W := ⟨_, rfl⟩
  have hg : Grn w W := by rw [← hW]; exact (Grn.refl w).alloc _
  have hT := h.grown hg.below
  have hB : W.heap[w.heap.size]? = some (.cells #[.int .i64 ((n : Nat) : Int), .int .i64 k] 34 (0, 0)) := by rw [← hW]; exact block_new _ _ _ rfl
  have b0 := cells_cell (o := 0) hB rfl
  have hbl := lt_of_block hB
  have B0 := cell_gr (a := ⟨w.heap.size, 0, none⟩) hbl b0
  have B1 := cell_gr (a := ⟨w.heap.size, 1, none⟩) hbl (cells_cell (o := 1) hB rfl)
  have R0 := cell_gr (a := ⟨g, n * 3, none⟩) hT.lg (hT.r.c0 hp)
  have R1 := cell_gr (a := ⟨g, n * 3 + 1, none⟩) hT.lg (hT.r.c1 hp)
  have R2 := cell_gr (a := ⟨g, n * 3 + 2, none⟩) hT.lg (hT.r.c2 hp)
  simp only at R0 R1 R2
  have hu := Lib.hid (slTaken_yes hT hp rfl)
  have HN := Lib.hid (fun m os => slName_any (grow (W.drewN m) os) true ((G : Nat) : Int) v ((n : Nat) : Int))
  have HG := Lib.hid hg
  have HW := Lib.hid hW
  have HR := Lib.hid hr
  have mixed : Try.prog.follows .mixedOrders = true := by kernel_rfl
  clear h hp hg hT hB hW hr
  go_enter Try.func39, Try.ntmps39
  go_wp2_with (go_at_call 38; fail)
  rw [HW.out]
  generalize w.heap.size = b at *
  go_wp2_with (go_at_call 38; fail)
  refine hu.out.mono ?_
  rintro e w2 ⟨rfl, rfl⟩
  go_wp2_with fail
  rcases HR.out with ⟨e, hr⟩ | ⟨e, hr⟩
  · subst e hr
    have hq := fun W => neq_fd_same W ((n : Nat) : Int) ((G : Nat) : Int)
    clear HR
    go_quiet_grown ((go_at_call 35; refine Calls.grown_of (HN.out _ _)))
    go_wp2_with fail
    go_ret2
    exact ⟨rfl, HG.out.trans ⟨_, _, rfl⟩⟩
  · subst hr
    have hq := fun W => neq_fd_other W ((n : Nat) : Int) ((G : Nat) : Int) k (fun h => e h.symm)
    have He := Lib.hid e
    clear HR e
    go_quiet_grown ((go_at_call 35; refine Calls.grown_of (HN.out _ _)))
    go_wp2_with fail
    go_ret2
    exact ⟨rfl, HG.out.trans ⟨_, _, rfl⟩⟩

theorem slFind_yes {w : World} {t g c n G : Nat} {v : Int} {P : Tab} (h : TAt w t g c P) (hp : P[n]? = some ⟨true, G, v⟩) :
    Calls Try.prog 39 #[.pointer (some ⟨t, 0, none⟩), .agg #[.int .i64 ((n : Nat) : Int), .int .i64 ((G : Nat) : Int)]] w fun e w' => e = .returned (.tuple #[.pointer (some ⟨g, n * 3, none⟩), .int .i64 0]) ∧ Grn w w' :=
  slFind_open h hp _ (.inl ⟨rfl, rfl⟩)
theorem slFind_no {w : World} {t g c : Nat} {N k : Int} {P : Tab} (h : TAt w t g c P) (hn : NoFd P N k) :
    Calls Try.prog 39 #[.pointer (some ⟨t, 0, none⟩), .agg #[.int .i64 N, .int .i64 k]] w fun e w' => e = .returned (.tuple #[.pointer none, .int .i64 9]) ∧ Grn w w' := by
  rcases n_cases P N with ⟨n, G, v, rfl, hp⟩ | h0
  · exact slFind_open h hp _ (.inr ⟨hn n _ rfl hp rfl, rfl⟩)
  · have hu := Lib.hid (slTaken_no (h.grown (below_alloc w (.cells #[.int .i64 N, .int .i64 k] 34))) h0)
    clear h hn h0
    go_enter Try.func39, Try.ntmps39
    go_wp2_with (go_at_call 38; refine hu.out.mono ?_; rintro e w2 ⟨rfl, rfl⟩)
    go_ret2
    exact ⟨rfl, (Grn.refl w).alloc _⟩
theorem slFind_nil {w : World} {u : Value} (h : NoT w u) (N k : Int) :
    Calls Try.prog 39 #[u, .agg #[.int .i64 N, .int .i64 k]] w fun e w' => e = .returned (.tuple #[.pointer none, .int .i64 1]) ∧ Grn w w' := by
  have hu := Lib.hid (slTaken_nil (h.grown (below_alloc w (.cells #[.int .i64 N, .int .i64 k] 34))) N)
  obtain ⟨a, rfl⟩ := h.form
  clear h
  go_enter Try.func39, Try.ntmps39
  go_wp2_with (go_at_call 38; refine hu.out.mono ?_; rintro e w2 ⟨rfl, rfl⟩)
  go_ret2
  exact ⟨rfl, (Grn.refl w).alloc _⟩

/-- The code of find, with a pointer to a place or without one. -/
def FindsAt (w : World) (u : Value) (N k : Int) (code : Int) : Prop := ∀ w', Below w.heap.size w w' → Calls Try.prog 39 #[u, .agg #[.int .i64 N, .int .i64 k]] w' fun e w'' => e = .returned (.tuple #[.pointer none, .int .i64 code]) ∧ Grn w' w''
theorem finds_no {w : World} {t g c : Nat} {N k : Int} {P : Tab} (h : TAt w t g c P) (hn : NoFd P N k) : FindsAt w (.pointer (some ⟨t, 0, none⟩)) N k 9 := fun w' hb => slFind_no (h.grown hb) hn
theorem finds_nil {w : World} {u : Value} (h : NoT w u) (N k : Int) : FindsAt w u N k 1 := fun w' hb => slFind_nil (h.grown hb) N k

set_option maxHeartbeats 800000 in
theorem slGet_bad {w : World} {a : Option Addr} {N k code : Int} (h : FindsAt w (.pointer a) N k code) (hc : code ≠ 0) :
    Calls Try.prog 20 #[.pointer a, .agg #[.int .i64 N, .int .i64 k]] w fun e w' => e = .returned (.tuple #[.int .i64 0, .int .i64 code]) ∧ Grn w w' := by
  have hu := Lib.hid (h _ (below_alloc w (.cells #[.int .i64 N, .int .i64 k] 34)))
  have h0 : (code == 0) = false := by simpa using hc
  have HC := Lib.hid hc
  clear h hc
  go_enter Try.func20, Try.ntmps20
  go_wp2_with (go_at_call 39; refine hu.out.mono ?_; rintro e w2 ⟨rfl, hg⟩)
  go_ret2
  exact ⟨rfl, ((Grn.refl w).alloc _).trans hg⟩
set_option maxHeartbeats 800000 in
theorem slGet_yes {w : World} {t g c n G : Nat} {v : Int} {P : Tab} (h : TAt w t g c P) (hp : P[n]? = some ⟨true, G, v⟩) :
    Calls Try.prog 20 #[.pointer (some ⟨t, 0, none⟩), .agg #[.int .i64 ((n : Nat) : Int), .int .i64 ((G : Nat) : Int)]] w fun e w' => e = .returned (.tuple #[.int .i64 v, .int .i64 0]) ∧ Grn w w' := by
  have hT := h.grown (below_alloc w (.cells #[.int .i64 ((n : Nat) : Int), .int .i64 ((G : Nat) : Int)] 34))
  have hu := Lib.hid (slFind_yes hT hp)
  have HT := Lib.hid hT
  have HP := Lib.hid hp
  clear h hT hp
  go_enter Try.func20, Try.ntmps20
  go_wp2_with (go_at_call 39; fail)
  refine hu.out.mono ?_
  rintro e w2 ⟨rfl, hg⟩
  have k2 := (HT.out.grown hg.below).r.c2 HP.out
  have HG := Lib.hid (((Grn.refl w).alloc _).trans hg)
  clear hg
  go_wp2_with fail
  go_ret2
  exact ⟨rfl, HG.out⟩
set_option maxHeartbeats 800000 in
theorem slSet_bad {w : World} {a : Option Addr} {N k code : Int} (h : FindsAt w (.pointer a) N k code) (hc : code ≠ 0) (x : Int) :
    Calls Try.prog 18 #[.pointer a, .agg #[.int .i64 N, .int .i64 k], .int .i64 x] w fun e w' => e = .returned (.int .i64 code) ∧ Grn w w' := by
  have hu := Lib.hid (h _ (below_alloc w (.cells #[.int .i64 N, .int .i64 k] 34)))
  have h0 : (code == 0) = false := by simpa using hc
  have HC := Lib.hid hc
  clear h hc
  go_enter Try.func18, Try.ntmps18
  go_wp2_with (go_at_call 39; refine hu.out.mono ?_; rintro e w2 ⟨rfl, hg⟩)
  go_ret
  exact ⟨rfl, ((Grn.refl w).alloc _).trans hg⟩
set_option maxHeartbeats 800000 in
theorem slSet_yes {w : World} {t g c n G : Nat} {v : Int} {P : Tab} (h : TAt w t g c P) (hp : P[n]? = some ⟨true, G, v⟩) (x : Int) :
    Calls Try.prog 18 #[.pointer (some ⟨t, 0, none⟩), .agg #[.int .i64 ((n : Nat) : Int), .int .i64 ((G : Nat) : Int)], .int .i64 x] w fun e w' => e = .returned (.int .i64 0) ∧ TAt w' t g c (P.set n ⟨true, G, x⟩) ∧ Fr [g] w w' := by
  have hT := h.grown (below_alloc w (.cells #[.int .i64 ((n : Nat) : Int), .int .i64 ((G : Nat) : Int)] 34))
  have hu := Lib.hid (slFind_yes hT hp)
  have HT := Lib.hid hT
  have HP := Lib.hid hp
  clear h hT hp
  go_enter Try.func18, Try.ntmps18
  go_wp2_with (go_at_call 39; fail)
  refine hu.out.mono ?_
  rintro e w2 ⟨rfl, hg⟩
  have hT2 := HT.out.grown hg.below
  have k2 := hT2.r.c2 HP.out
  have f2 := hT2.r.free (n * 3 + 2)
  have HG := Lib.hid (((Grn.refl w).alloc _).trans hg)
  have hf := fr_setCell w2 ⟨g, n * 3 + 2, none⟩ (.int .i64 x)
  have HF := Lib.hid ((Fr.of_below HG.out.below [g]).trans' hf)
  have HT2 := Lib.hid (hT2.step (hT2.r.put2 HP.out x) (by simp) hf)
  clear hg hT2 hf
  go_wp2_with fail
  go_ret
  exact ⟨rfl, HT2.out, HF.out⟩
end Go.Proofs.Ytbefiilbpbbjnaa
