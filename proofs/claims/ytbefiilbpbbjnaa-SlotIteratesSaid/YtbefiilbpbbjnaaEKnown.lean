/- The law's own fd, opens, closes, gets; known. -/
import Derived.Test.YtbefiilbpbbjnaaEAll
import Derived.Deep.RegionWith
namespace Go.Proofs.Ytbefiilbpbbjnaa
open Go.RowKit Go.Sort
set_option linter.unusedVariables false
set_option linter.unusedSimpArgs false

/-- A table that a law has made. -/
structure KT (w0 w : World) (t g c : Nat) (P : Tab) : Prop where
  T : TAt w t g c P
  below : Below w0.heap.size w0 w
  lt : w0.heap.size ≤ t
  lg : w0.heap.size ≤ g
section
variable {w0 w w' : World} {t g c : Nat} {P P' : Tab}
theorem KT.step (h : KT w0 w t g c P) (hT : TAt w' t g c P') (hf : Fr [g] w w') : KT w0 w' t g c P' :=
  ⟨hT, h.below.trans (hf.below (fun x hx => by
    have := h.lg
    simp at hx
    subst hx
    exact this) h.below.size), h.lt, h.lg⟩
theorem KT.grown (h : KT w0 w t g c P) (hb : Below w.heap.size w w') : KT w0 w' t g c P := ⟨h.T.grown hb, h.below.trans (hb.mono h.below.size), h.lt, h.lg⟩
end

theorem eql_fd_same (w : World) (n g : Int) : (binOp .eql 34 (.agg #[.int .i64 n, .int .i64 g]) (.agg #[.int .i64 n, .int .i64 g])).run Try.prog w = .ok (.bool true) w := by
  have h1 : Try.prog.underlying 34 = some _ := Try.underlying34
  simp [go_sem, h1]
theorem fd_any (w : World) (n g : Int) : Calls Try.prog 21 #[.int .i64 n, .int .i64 g] w fun e w' => e = .returned (.agg #[.int .i64 n, .int .i64 g]) ∧ Grn w w' := by
  go_enter Try.func21, Try.ntmps21
  go_wp2
  refine bodyPost_ret (v := .agg #[.int .i64 n, .int .i64 g]) (by simp [results, Try.results21, go_sem]) rfl ⟨rfl, ?_⟩
  exact (Grn.refl w).alloc _

set_option maxHeartbeats 800000 in
theorem opens_yes {w : World} {t g c n : Nat} {P : Tab} {p : Pl} (h : TAt w t g c P) (hf : free P = n) (hp : P[n]? = some p) (x : Int) {N G : Int} (hN : N = ((n : Nat) : Int)) (hG : G = ((p.g : Nat) : Int)) :
    Calls Try.prog 23 #[.pointer (some ⟨t, 0, none⟩), .int .i64 x, .agg #[.int .i64 N, .int .i64 G]] w fun e w' => e = .returned (.bool true) ∧ TAt w' t g c (P.set n ⟨true, p.g, x⟩) ∧ Fr [g] w w' := by
  subst hN hG
  have hb := below_alloc w (.cells #[.int .i64 ((n : Nat) : Int), .int .i64 ((p.g : Nat) : Int)] 34)
  have ho := Lib.hid (slOpen_yes (h.grown hb) hf hp x)
  have HB0 : Hid ((w.alloc (.cells #[.int .i64 ((n : Nat) : Int), .int .i64 ((p.g : Nat) : Int)] 34)).heap[w.heap.size]? = some (.cells #[.int .i64 ((n : Nat) : Int), .int .i64 ((p.g : Nat) : Int)] 34 (0, 0))) := Lib.hid (block_new _ _ _ rfl)
  have HK := Lib.hid ((h.grown hb).out HB0.out (by decide))
  have HB := Lib.hid hb
  have heq := fun W => eql_fd_same W ((n : Nat) : Int) ((p.g : Nat) : Int)
  clear h hf hp hb
  go_enter Try.func23, Try.ntmps23
  go_wp2_with (go_at_call 16; fail)
  refine ho.out.mono ?_
  rintro e w2 ⟨rfl, hT, hf⟩
  have hX := hf.same HB0.out HK.out
  have x0 : w2.cell? ⟨w.heap.size, 0, none⟩ = some (.int .i64 ((n : Nat) : Int)) := cells_cell hX rfl
  have x1 : w2.cell? ⟨w.heap.size, 1, none⟩ = some (.int .i64 ((p.g : Nat) : Int)) := cells_cell hX rfl
  have hxl := lt_of_block hX
  have HT := Lib.hid (hT.grown (below_alloc w2 (.cells #[.int .i64 ((n : Nat) : Int), .int .i64 ((p.g : Nat) : Int)] 34)))
  have HF := Lib.hid (((Fr.of_below HB.out [g]).trans' hf).trans' (fr_alloc w2 (.cells #[.int .i64 ((n : Nat) : Int), .int .i64 ((p.g : Nat) : Int)] 34) [g]))
  clear hT hf hX
  go_wp2_with fail
  go_ret
  exact ⟨rfl, HT.out, HF.out⟩
set_option maxHeartbeats 800000 in
theorem closes_yes {w : World} {t g c n G : Nat} {v : Int} {P : Tab} (h : TAt w t g c P) (hp : P[n]? = some ⟨true, G, v⟩) (hG0 : G ≤ 1000000) {N K : Int} (hN : N = ((n : Nat) : Int)) (hG : K = ((G : Nat) : Int)) :
    Calls Try.prog 24 #[.pointer (some ⟨t, 0, none⟩), .agg #[.int .i64 N, .int .i64 K], .int .i64 v] w fun e w' => e = .returned (.bool true) ∧ TAt w' t g c (P.set n ⟨false, G + 1, 0⟩) ∧ Fr [g] w w' := by
  subst hN hG
  have hb := below_alloc w (.cells #[.int .i64 ((n : Nat) : Int), .int .i64 ((G : Nat) : Int)] 34)
  have ho := Lib.hid (slClose_yes (h.grown hb) hp hG0)
  have HB := Lib.hid hb
  clear h hp hb
  go_enter Try.func24, Try.ntmps24
  go_wp2_with (go_at_call 19; refine ho.out.mono ?_; rintro e w2 ⟨rfl, hT, hf⟩)
  go_ret
  exact ⟨rfl, hT, (Fr.of_below HB.out [g]).trans' hf⟩
set_option maxHeartbeats 800000 in
theorem gets_yes {w : World} {t g c n G : Nat} {v : Int} {P : Tab} (h : TAt w t g c P) (hp : P[n]? = some ⟨true, G, v⟩) {N K : Int} (hN : N = ((n : Nat) : Int)) (hG : K = ((G : Nat) : Int)) :
    Calls Try.prog 25 #[.pointer (some ⟨t, 0, none⟩), .agg #[.int .i64 N, .int .i64 K], .int .i64 v] w fun e w' => e = .returned (.bool true) ∧ Grn w w' := by
  subst hN hG
  have hb := (grn_grow w 0 #[]).alloc (.cells #[.int .i64 ((n : Nat) : Int), .int .i64 ((G : Nat) : Int)] 34)
  have hg0 : Grn w (w.alloc (.cells #[.int .i64 ((n : Nat) : Int), .int .i64 ((G : Nat) : Int)] 34)) := (Grn.refl w).alloc _
  have ho := Lib.hid (slGet_yes (h.grown hg0.below) hp)
  have HB := Lib.hid hg0
  clear h hp hb hg0
  go_enter Try.func25, Try.ntmps25
  go_wp2_with (go_at_call 20; refine ho.out.mono ?_; rintro e w2 ⟨rfl, hg⟩)
  go_ret
  exact ⟨rfl, HB.out.trans hg⟩
end Go.Proofs.Ytbefiilbpbbjnaa
