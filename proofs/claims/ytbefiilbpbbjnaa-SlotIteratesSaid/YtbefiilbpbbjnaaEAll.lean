/- The law's own function all: an iterator goes over some descriptors. -/
import Derived.Test.YtbefiilbpbbjnaaELen
import Derived.Test.YtbefiilbpbbjnaaERound
namespace Go.Proofs.Ytbefiilbpbbjnaa
open Go.RowKit Go.Sort Go.Shelf
set_option linter.unusedVariables false
set_option linter.unusedSimpArgs false
attribute [local go_sem] Oper.semAt_some

theorem seq_nil (B : Nat) (w : World) : (binOp .eql 44 (.func (.func 34) #[] #[.pointer (some ⟨B, 0, none⟩)]) .nilFunc).run Try.prog w = .ok (.bool false) w := by kernel_rfl

/-- The cells of a descriptor of the reference. -/
def encF (x : Fd) : List Value := [.int .i64 ((x.n : Nat) : Int), .int .i64 ((x.g : Nat) : Int), .int .i64 x.v, .bool x.c]
theorem encF_len (x : Fd) : (encF x).length = 4 := rfl
theorem encF_one (x : Fd) : ∀ u ∈ encF x, u.oneCell' = true := by
  intro u hu
  simp only [encF, List.mem_cons, List.not_mem_nil, or_false] at hu
  rcases hu with rfl | rfl | rfl | rfl <;> rfl
/-- A slice that has the descriptors L. -/
def SrcF (w : World) (v : Value) (L : Fds) : Prop :=
  (v = .slice none 0 0 ∧ L = []) ∨ ∃ g off c, v = .slice (some ⟨g, off, none⟩) L.length c ∧ L.length ≤ c ∧ c ≤ maxLen ∧ g < w.heap.size ∧ ∀ j x, L[j]? = some x → ∀ i u, (encF x)[i]? = some u → w.cell? ⟨g, off + j * 4 + i, none⟩ = some u
section
variable {w w' : World} {v : Value} {L : Fds}
theorem SrcF.form (h : SrcF w v L) : ∃ a c, v = .slice a L.length c ∧ L.length ≤ c ∧ c ≤ maxLen := by
  rcases h with ⟨rfl, rfl⟩ | ⟨g, off, c, rfl, h1, h2, _⟩
  · exact ⟨none, 0, rfl, Nat.le_refl _, Nat.zero_le _⟩
  · exact ⟨_, c, rfl, h1, h2⟩
theorem SrcF.grown (h : SrcF w v L) (hb : Below w.heap.size w w') : SrcF w' v L := by
  rcases h with h | ⟨g, off, c, h1, h2, h3, h4, h5⟩
  · exact .inl h
  · exact .inr ⟨g, off, c, h1, h2, h3, by have := hb.size; omega, fun j x hx i u hu => (hb.cell (p := ⟨g, off + j * 4 + i, none⟩) h4).trans (h5 j x hx i u hu)⟩
theorem SrcF.at (h : SrcF w v L) {j : Nat} {x : Fd} (hx : L[j]? = some x) : ∃ g off c, v = .slice (some ⟨g, off, none⟩) L.length c ∧ g < w.heap.size ∧
    w.cell? ⟨g, off + j * 4, none⟩ = some (.int .i64 ((x.n : Nat) : Int)) ∧ w.cell? ⟨g, off + j * 4 + 1, none⟩ = some (.int .i64 ((x.g : Nat) : Int)) ∧ w.cell? ⟨g, off + j * 4 + 2, none⟩ = some (.int .i64 x.v) ∧ w.cell? ⟨g, off + j * 4 + 3, none⟩ = some (.bool x.c) := by
  rcases h with ⟨_, rfl⟩ | ⟨g, off, c, h1, h2, h3, h4, h5⟩
  · simp at hx
  · exact ⟨g, off, c, h1, h4, h5 j x hx 0 _ rfl, h5 j x hx 1 _ rfl, h5 j x hx 2 _ rfl, h5 j x hx 3 _ rfl⟩
end
theorem SeqAt.more {w W : World} {F : List Nat} {B : Nat} {P : Tab} (h : SeqAt w [] B P) (hb : Below w.heap.size w W) (hF : ∀ x ∈ F, w.heap.size ≤ x) : SeqAt W F B P := by
  obtain ⟨a, c, h1, h2⟩ := h.ex
  refine ⟨by have := hb.size; have := h.lt; omega, fun hm => by have := hF _ hm; have := h.lt; omega, h.len, a, c, (hb.block _ h.lt).trans h1, ?_⟩
  rcases h2 with h2 | ⟨g, h2, h3, _⟩
  · exact .inl h2
  · exact .inr ⟨g, h2, h3.same (hb.block _ h3.lt), fun hm => by have := hF g hm; have := h3.lt; omega⟩

set_option maxRecDepth 100000 in
set_option maxHeartbeats 3200000 in
theorem lawAll_any {w : World} {p : Option Addr} {v : Value} {P : Tab} (hA : AllsAt w (.pointer p) P) (hv : SrcF w v (ents 0 P)) :
    Calls Try.prog 14 #[.pointer p, v] w fun e w' => e = .returned (.bool true) ∧ Below w.heap.size w w' := by
  obtain ⟨va, vc, rfl, hv1, hv2⟩ := hv.form
  have HV := Lib.hid hv
  have HA := Lib.hid hA
  obtain ⟨N, hN⟩ : ∃ N, N = (ents 0 P).length := ⟨_, rfl⟩
  rw [← hN] at hv1 HV ⊢
  have HN := Lib.hid hN
  clear hv hA hN
  have hsn := seq_nil
  refine calls_marks Try.func14 rfl ?_
  simp only [Try.ntmps14, List.size_toArray, List.length_cons, List.length_nil, Nat.reduceAdd, Nat.reduceSub, Array.replicate_succ, Array.replicate_zero, List.push_toArray, List.append_toArray, List.nil_append, List.cons_append]
  go_wp2_with (go_at_call 15; fail)
  obtain ⟨W, hW⟩ : ∃ W, W = (w.alloc (.cells #[.slice va N vc] 28)).alloc (.cells #[.bool false] 4) := ⟨_, rfl⟩
  have HWS : Hid (W.heap.size = w.heap.size + 2) := Lib.hid (by rw [hW]; simp)
  have HWB : Hid (Below w.heap.size w W) := Lib.hid (by rw [hW]; exact (below_alloc _ _).trans ((below_alloc _ _).mono (by simp)))
  have HW0 : Hid (W.heap[w.heap.size]? = some (.cells #[.slice va N vc] 28 (0, 0))) := Lib.hid (by
    rw [hW]; exact ((below_alloc _ _).block _ (by simp)).trans (heap_alloc_new w _))
  have HW1 : Hid (W.heap[w.heap.size + 1]? = some (.cells #[.bool false] 4 (0, 0))) := Lib.hid (by
    rw [hW]; have := heap_alloc_new (w.alloc (.cells #[.slice va N vc] 28)) (.cells #[.bool false] 4); simpa using this)
  rw [← hW]
  clear hW
  refine (HA.out [] W HWB.out (fun x hx => by cases hx)).mono ?_
  rintro e w1 ⟨B, rfl, hS1, hb1⟩
  have HS1 := Lib.hid hS1
  have hlen := hS1.len
  have hN128 : N ≤ 128 := by have := HN.out; have := ents_le 0 P; omega
  have hw1 : w.heap.size + 2 ≤ w1.heap.size := by have := hb1.size; have := HWS.out; omega
  have HC0 := Lib.hid ((hb1.block w.heap.size (by have := HWS.out; omega)).trans HW0.out)
  have HC1 := Lib.hid ((hb1.block (w.heap.size + 1) (by have := HWS.out; omega)).trans HW1.out)
  have HBW := Lib.hid (HWB.out.trans (hb1.mono HWB.out.size))
  have HV1 := Lib.hid (HV.out.grown HBW.out)
  clear hS1 hb1 hlen
  unfold seqV
  go_wp2_with fail
  refine (wpIn_wide (n := 6)).1 ?_
  have hbi := below_alloc w1 (.cells #[.int .i64 0] 3)
  refine range_vals (n := 6) (B := B) (Fs := [w1.heap.size]) (P := P) (by omega) rfl (HS1.out.more hbi (fun x hx => by simp at hx; omega)) rfl
    (fun k W' => Below w1.heap.size w1 W' ∧ W'.heap[w1.heap.size]? = some (.cells #[.int .i64 ((k : Nat) : Int)] 3 (0, 0)))
    (fun _ _ _ => False) ?hI ?hIx ?h0 ?round ?done ?stop
  case hI =>
    rintro k A A' row ⟨hb, h1⟩ hg hr
    exact ⟨hb.grown hg hb.size (fun r e => by have := (hr r e).1; simp at this; omega), (hg.block _ (lt_of_block h1) (fun e => by have := (hr _ e.symm).1; simp at this; omega)).trans h1⟩
  case hIx => exact fun _ _ _ _ _ h _ _ => h
  case h0 => exact ⟨hbi, block_new _ _ _ rfl⟩
  case stop => exact fun _ _ _ _ _ _ h _ => h.elim
  case done =>
    rintro D W' hD ⟨hbw, hcell⟩ hK
    rw [← HN.out] at hcell
    have HK := Lib.hid hK
    have hD0 : w1.heap.size + 1 ≤ D := by simpa using hD
    have hDl := lt_of_block hK
    have e0 := (hbw.block w.heap.size (by omega)).trans HC0.out
    have e1 := (hbw.block (w.heap.size + 1) (by omega)).trans HC1.out
    have c0 := cells_cell (o := 0) e0 rfl
    have c1 := cells_cell (o := 0) e1 rfl
    have f1 := cells_free e1 0
    have ci := cells_cell (o := 0) hcell rfl
    have hl1 := lt_of_block e1
    have ht := cells_set e1 0 (.bool true)
    have hfF := fr_setCell W' ⟨w.heap.size + 1, 0, none⟩ (.bool true)
    have HBw := Lib.hid (HBW.out.trans (hbw.mono (by omega)))
    have HT := Lib.hid ht
    have HFF := Lib.hid hfF
    have HD := Lib.hid (And.intro hD0 hDl)
    clear hbw hcell hK e0 e1 ht hfF hD hD0
    simp only [Exit.inBlock, Exit.then]
    go_at_K
    go_wp2_with fail
    generalize W'.setCell ⟨w.heap.size + 1, 0, none⟩ (.bool true) = WF at *
    have hKF : WF.heap[D]? = some (.deferred (some [])) := HFF.out.same HK.out (by have := HD.out; simp; omega)
    refine ⟨by simp, .inl ⟨_, _, rfl, run_takeDeferred hKF, ?_⟩⟩
    have hne : w.heap.size + 1 ≠ D := by have := HD.out; omega
    have htF : (WF.putObj D (.deferred none)).heap[w.heap.size + 1]? = some (.cells #[.bool true] 4 (0, 0)) := (World.putObj_heap_other hne).trans HT.out
    refine ⟨.bool true, by simp [results, Try.results14, go_sem, cells_cell htF (o := 0) rfl], rfl, ?_⟩
    exact (HBw.out.trans (HFF.out.below (fun x hx => by simp at hx; omega) HBw.out.size)).trans (belowK_b (w := w) (Nat.le_refl _) WF D _ _ (by have := HD.out; omega) hKF rfl rfl)
  case round =>
    rintro l k x W' hl hs2 hp hlets ⟨hbw, hcell⟩
    have hkL := (List.getElem?_eq_some_iff.1 hp).1
    gi_wp2
    refine ⟨below_alloc _ _, ?_⟩
    clear hbw hcell hlets
    rintro W2 hsame hlets ⟨hbw, hcell⟩
    have hs3 : w1.heap.size + 3 ≤ W'.heap.size := by simpa using hs2
    have hX : W2.heap[W'.heap.size]? = some (.cells #[.int .i64 ((x.n : Nat) : Int), .int .i64 ((x.g : Nat) : Int)] 34 (0, 0)) := (hsame _ (by simp; omega)).trans (block_new _ _ _ rfl)
    obtain ⟨g, off, c, h1, hgl, k0, k1, k2, _⟩ := (HV1.out.grown hbw).at hp
    rw [← HN.out] at h1 hkL
    simp only [Value.slice.injEq] at h1
    obtain ⟨rfl, _, rfl⟩ := h1
    have e0 := (hbw.block w.heap.size (by omega)).trans HC0.out
    have c0 := cells_cell (o := 0) e0 rfl
    have x0 := cells_cell (o := 0) hX rfl
    have x1 : W2.cell? ⟨W'.heap.size, 1, none⟩ = some (.int .i64 ((x.g : Nat) : Int)) := cells_cell hX rfl
    have hlX := lt_of_block hX
    have ci := cells_cell (o := 0) hcell rfl
    have fi := cells_free hcell 0
    have hli := lt_of_block hcell
    have hnq := fun W => neq_fd_same W ((x.n : Nat) : Int) ((x.g : Nat) : Int)
    have HBW2 := Lib.hid hbw
    have HLETS := Lib.hid hlets
    have HCELL := Lib.hid hcell
    obtain ⟨xn, xg, xv, xc⟩ := x
    simp only at *
    have hkI : ((k : Nat) : Int) < ((N : Nat) : Int) := by omega
    have hkI0 : (0 : Int) ≤ ((k : Nat) : Int) := by omega
    have hkm : ((N : Nat) : Int) ≤ 128 := by omega
    have hd : decide (N ≤ k) = false := by simp; omega
    have hd2 : decide (((N : Nat) : Int) ≤ ((k : Nat) : Int)) = false := by simp; omega
    clear hbw hcell hlets hp e0 hX hsame hs2 hlX hgl
    gi_wp2
    refine wpIn_region_quiet_round (F := Fence.wide) rfl (by kernel_rfl) (by kernel_rfl) (by kernel_rfl) ?_
    repeat (gi_big_quiet_step (fail))
    refine wpQuietIn_nil ?_
    intro _ hw'
    obtain ⟨nq, hw''⟩ := hw'
    subst hw''
    simp only [Exit.then]
    go_at_K
    gi_wp2
    have hd0 := fr_drewN W2 nq [w1.heap.size]
    have hf := hd0.trans' (fr_setCell (W2.drewN nq) ⟨w1.heap.size, 0, none⟩ (.int .i64 (((k : Nat) : Int) + 1)))
    have hc := cells_set (w := W2.drewN nq) (b := w1.heap.size) HCELL.out 0 (.int .i64 (((k : Nat) : Int) + 1))
    have hk := keepsFrom_fr (B := (w1.alloc (.cells #[.int .i64 0] 3)).heap.size) hf (fun y hy => ⟨_, by simp at hy; subst hy; exact HCELL.out, rfl⟩)
    refine ⟨hk, Lets.of_fr hf (by have := HLETS.out.size; omega), HBW2.out.trans (hf.below (fun x hx => by simp at hx; omega) HBW2.out.size), ?_⟩
    simpa using hc
end Go.Proofs.Ytbefiilbpbbjnaa
