/- Open. -/
import Derived.Test.YtbefiilbpbbjnaaEMore
namespace Go.Proofs.Ytbefiilbpbbjnaa
open Go.RowKit Go.Sort
set_option linter.unusedVariables false
set_option linter.unusedSimpArgs false

theorem slFree_any (w : World) (o : Bool) (G v : Int) : Calls Try.prog 37 #[.agg #[.bool o, .int .i64 G, .int .i64 v]] w fun e w' => e = .returned (.bool !o) ∧ Grn w w' := by
  go_enter Try.func37, Try.ntmps37
  go_wp2
  go_ret
  exact ⟨rfl, (Grn.refl w).alloc _⟩

theorem free_le (P : Tab) : free P ≤ P.length := List.findIdx_le_length
theorem free_step {P : Tab} {k : Nat} {p : Pl} (hk : k ≤ free P) (hp : P[k]? = some p) : (p.o = true → k + 1 ≤ free P) ∧ (p.o = false → free P = k) := by
  refine ⟨fun ho => ?_, fun ho => free_at hp ho fun j hj q hq => free_before (by omega) hq⟩
  rcases Nat.lt_or_ge k (free P) with h | h
  · exact h
  · have hl := (List.getElem?_eq_some_iff.1 hp).1
    obtain rfl : k = free P := by omega
    obtain ⟨q, hq, hqo⟩ := free_lt hl
    rw [hp] at hq
    cases hq
    rw [ho] at hqo
    cases hqo

/-- What IndexFunc says. -/
def idx (P : Tab) : Int := if free P < P.length then ((free P : Nat) : Int) else -1

set_option maxHeartbeats 1600000 in
theorem plIndex_any {w : World} {t g c : Nat} {P : Tab} (h : TAt w t g c P) :
    Calls Try.prog 36 #[.slice (some ⟨g, 0, none⟩) P.length c, .func (.func 37) #[] #[]] w fun e w' => e = .returned (.int .i64 (idx P)) ∧ Grn w w' := by
  have hn2 := h.n2
  have HH := Lib.hid h
  obtain ⟨N, hN⟩ : ∃ N, N = P.length := ⟨_, rfl⟩
  rw [← hN] at hn2 ⊢
  have HN := Lib.hid hN
  clear h hN
  have q4 : (N : Int) ≤ 128 := by omega
  go_enter Try.func36, Try.ntmps36
  go_wp2_with fail
  go_loopw [8] (fun i wr => ∃ k : Nat, k ≤ N ∧ k ≤ free P ∧ i = .int .i64 ((k : Nat) : Int) ∧ Hid (Grn w wr)) (fun i _ => N - (intOf i).toNat)
  case atStart => exact ⟨0, Nat.zero_le _, Nat.zero_le _, rfl, Lib.hid (Grn.refl w)⟩
  case round =>
    obtain ⟨k, hk, hkf, rfl, hg⟩ := hrel
    by_cases hlt : k < N
    · have hkL : k < P.length := by rw [← HN.out]; exact hlt
      have hp : P[k]? = some P[k] := List.getElem?_eq_getElem hkL
      have hT := HH.out.grown hg.out.below
      have r0 := hT.r.c0 hp
      have r1 := hT.r.c1 hp
      have r2 := hT.r.c2 hp
      have hgl := hT.lg
      have q1 : (0 : Int) ≤ (k : Int) := by omega
      have q2 : (k : Int) < (N : Int) := by omega
      have HST := Lib.hid (free_step hkf hp)
      generalize hpp : P[k] = p at *
      have HPP := Lib.hid hpp
      have HP := Lib.hid hp
      clear hT hpp hp
      obtain ⟨o, G, v⟩ := p
      simp only at r0 r1 r2
      go_wp2_with (go_at_call 37; fail)
      refine (slFree_any wr o ((G : Nat) : Int) v).mono ?_
      rintro e w2 ⟨rfl, hg2⟩
      have HG2 := Lib.hid (hg.out.trans hg2)
      clear hg2 hg
      cases o with
      | true =>
        go_wp2_with fail
        go_roundw
        case rel => exact ⟨k + 1, by omega, (by have := HST.out.1; simpa using this), by go_num, HG2⟩
        case measure => simp [intOf]; omega
      | false =>
        have hf : free P = k := by have := HST.out.2; simpa using this
        have hI : Hid (idx P = ((k : Nat) : Int)) := Lib.hid (by unfold idx; rw [hf, if_pos hkL])
        clear hf hkf
        go_wp2_with fail
        go_ret
        exact ⟨by rw [hI.out]; rfl, HG2.out⟩
    · obtain rfl : k = N := by omega
      have hI : Hid (idx P = -1) := Lib.hid (by unfold idx; rw [if_neg (by rw [← HN.out]; omega)])
      clear hkf
      go_wp2_with fail
      go_ret
      exact ⟨by rw [hI.out]; rfl, hg.out⟩

set_option maxHeartbeats 800000 in
theorem slOpen_nil {w : World} {u : Value} (h : NoT w u) (x : Int) :
    Calls Try.prog 16 #[u, .int .i64 x] w fun e w' => e = .returned (.tuple #[.agg #[.int .i64 0, .int .i64 0], .int .i64 1]) ∧ Grn w w' := by
  have hu := Lib.hid (slUsable_no (h.grown (below_alloc w (.cells #[.int .i64 0, .int .i64 0] 34))))
  obtain ⟨a, rfl⟩ := h.form
  clear h
  go_enter Try.func16, Try.ntmps16
  go_wp2_with (go_at_call 32; refine hu.out.mono ?_; rintro e w2 ⟨rfl, rfl⟩)
  refine bodyPost_ret (v := .tuple #[.agg #[.int .i64 0, .int .i64 0], .int .i64 1]) (by simp [results, Try.results16, go_sem]) rfl ⟨rfl, ?_⟩
  exact (Grn.refl w).alloc _
set_option maxHeartbeats 1600000 in
theorem slOpen_full {w : World} {t g c : Nat} {P : Tab} (h : TAt w t g c P) (hf : free P = P.length) (x : Int) :
    Calls Try.prog 16 #[.pointer (some ⟨t, 0, none⟩), .int .i64 x] w fun e w' => e = .returned (.tuple #[.agg #[.int .i64 0, .int .i64 0], .int .i64 7]) ∧ Grn w w' := by
  have hb := below_alloc w (.cells #[.int .i64 0, .int .i64 0] 34)
  have hT := h.grown hb
  have hu := Lib.hid (slUsable_yes hT)
  have hi := plIndex_any hT
  rw [show idx P = -1 by unfold idx; rw [if_neg (by omega)]] at hi
  have HI := Lib.hid hi
  have k := hT.ct
  have HB : Hid ((w.alloc (.cells #[.int .i64 0, .int .i64 0] 34)).heap[w.heap.size]? = some (.cells #[.int .i64 0, .int .i64 0] 34 (0, 0))) := Lib.hid (block_new _ _ _ rfl)
  generalize P.length = N at *
  clear h hf hT hb hi
  go_enter Try.func16, Try.ntmps16
  go_wp2_with (first | (go_at_call 32; refine hu.out.mono ?_; rintro e w2 ⟨rfl, rfl⟩) | (go_at_call 36; fail))
  refine HI.out.mono ?_
  rintro e w3 ⟨rfl, hg⟩
  have hB3 := (hg.below.block _ (lt_of_block HB.out)).trans HB.out
  have b0 := cells_cell (o := 0) hB3 rfl
  have b1 := cells_cell (o := 1) hB3 rfl
  have z0 := cells_free hB3 0
  have z1 := cells_free hB3 1
  have hbl := lt_of_block hB3
  have hput := (cells_set (cells_set hB3 0 (.int .i64 0)) 1 (.int .i64 0))
  have p0 := cells_cell (o := 0) hput rfl
  have p1 := cells_cell (o := 1) hput rfl
  have HG := Lib.hid (((Grn.refl w).alloc _).trans hg)
  clear hg hB3 hput
  go_wp2_with fail
  refine bodyPost_ret (v := .tuple #[.agg #[.int .i64 0, .int .i64 0], .int .i64 7]) (by simp [results, Try.results16, go_sem, p0, p1]) rfl ⟨rfl, ?_⟩
  exact (HG.out.set _ _ (Nat.le_refl _)).set _ _ (Nat.le_refl _)
set_option maxRecDepth 100000 in
set_option maxHeartbeats 3200000 in
theorem slOpen_yes {w : World} {t g c n : Nat} {P : Tab} {p : Pl} (h : TAt w t g c P) (hf : free P = n) (hp : P[n]? = some p) (x : Int) :
    Calls Try.prog 16 #[.pointer (some ⟨t, 0, none⟩), .int .i64 x] w fun e w' => e = .returned (.tuple #[.agg #[.int .i64 ((n : Nat) : Int), .int .i64 ((p.g : Nat) : Int)], .int .i64 0]) ∧ TAt w' t g c (P.set n ⟨true, p.g, x⟩) ∧ Fr [g] w w' := by
  have hb := below_alloc w (.cells #[.int .i64 0, .int .i64 0] 34)
  have hT := h.grown hb
  have hu := Lib.hid (slUsable_yes hT)
  have hi := plIndex_any hT
  have hl := (List.getElem?_eq_some_iff.1 hp).1
  rw [show idx P = ((n : Nat) : Int) by unfold idx; rw [hf, if_pos hl]] at hi
  have HI := Lib.hid hi
  have k := hT.ct
  have HT := Lib.hid hT
  have HP := Lib.hid hp
  have hn2 := h.n2
  have HB : Hid ((w.alloc (.cells #[.int .i64 0, .int .i64 0] 34)).heap[w.heap.size]? = some (.cells #[.int .i64 0, .int .i64 0] 34 (0, 0))) := Lib.hid (block_new _ _ _ rfl)
  have HGW := Lib.hid ((Grn.refl w).alloc (.cells #[.int .i64 0, .int .i64 0] 34))
  obtain ⟨N, hN⟩ : ∃ N, N = P.length := ⟨_, rfl⟩
  rw [← hN] at hi hl k hn2 HI
  have HN := Lib.hid hN
  have q1 : (0 : Int) ≤ (n : Int) := by omega
  have q2 : (n : Int) < (N : Int) := by omega
  have q4 : (N : Int) ≤ 128 := by omega
  clear h hf hT hb hi hp hN
  go_enter Try.func16, Try.ntmps16
  go_wp2_with (first | (go_at_call 32; refine hu.out.mono ?_; rintro e w2 ⟨rfl, rfl⟩) | (go_at_call 36; fail))
  refine HI.out.mono ?_
  rintro e w3 ⟨rfl, hg⟩
  have hB3 := (hg.below.block _ (lt_of_block HB.out)).trans HB.out
  have hT3 := HT.out.grown hg.below
  have k := hT3.ct
  rw [← HN.out] at k
  have hgl := hT3.lg
  have r0 := hT3.r.c0 HP.out
  have r1 := hT3.r.c1 HP.out
  have r2 := hT3.r.c2 HP.out
  have f0 := hT3.r.free (n * 3)
  have f2 := hT3.r.free (n * 3 + 2)
  have hne : g ≠ w.heap.size := by have := hT3.out hB3 (by decide); intro e; exact this (by simp [e])
  have HNE := Lib.hid hne
  have hput := hT3.r.put02 HP.out true x
  have hfr := (fr_setCell w3 ⟨g, n * 3, none⟩ (.bool true)).trans' (fr_setCell _ ⟨g, n * 3 + 2, none⟩ (.int .i64 x))
  have HG := Lib.hid (HGW.out.trans hg)
  obtain ⟨W4, hW4⟩ : ∃ X, X = (w3.setCell ⟨g, n * 3, none⟩ (.bool true)).setCell ⟨g, n * 3 + 2, none⟩ (.int .i64 x) := ⟨_, rfl⟩
  rw [← hW4] at hput hfr
  have HT4 := Lib.hid (hT3.step hput (by simp) hfr)
  have HF4 := Lib.hid hfr
  have HB4 := Lib.hid (hfr.same hB3 (by simpa using fun e => hne e.symm))
  have HW4 := Lib.hid hW4
  clear hg hB3 hT3 hput hfr hW4 hne
  have hl' := (List.getElem?_eq_some_iff.1 HP.out).1
  have hp4 : (P.set n ⟨true, p.g, x⟩)[n]? = some ⟨true, p.g, x⟩ := by rw [set_get HP.out]; simp
  have s0 := HT4.out.r.c0 hp4
  have s1 := HT4.out.r.c1 hp4
  have s2 := HT4.out.r.c2 hp4
  simp only at s0 s1 s2
  have HS := Lib.hid (And.intro s0 (And.intro s1 s2))
  clear s0 s1 s2 hp4 hl' hl
  go_wp2_with (go_at_call 35; fail)
  rw [← HW4.out]
  refine (slName_any W4 true ((p.g : Nat) : Int) x ((n : Nat) : Int)).mono ?_
  rintro e w5 ⟨rfl, hg5⟩
  have hB5 := (hg5.below.block _ (lt_of_block HB4.out)).trans HB4.out
  have b0 := cells_cell (o := 0) hB5 rfl
  have b1 := cells_cell (o := 1) hB5 rfl
  have z0 := cells_free hB5 0
  have z1 := cells_free hB5 1
  have hbl := lt_of_block hB5
  have hput := (cells_set (cells_set hB5 0 (.int .i64 ((n : Nat) : Int))) 1 (.int .i64 ((p.g : Nat) : Int)))
  have p0 := cells_cell (o := 0) hput rfl
  have p1 := cells_cell (o := 1) hput rfl
  have hf5 := (fr_setCell w5 ⟨w.heap.size, 0, none⟩ (.int .i64 ((n : Nat) : Int))).trans' (fr_setCell _ ⟨w.heap.size, 1, none⟩ (.int .i64 ((p.g : Nat) : Int)))
  have HT5 := Lib.hid ((HT4.out.grown hg5.below).fr hf5 (by have := ne_types (HT4.out.grown hg5.below).t hB5 (by decide); simpa using this) (by simpa using HNE.out))
  have HF5 := Lib.hid (((((Fr.of_below HG.out.below [g]).trans' HF4.out).trans' (Fr.of_below hg5.below [g])).trans hf5 (fun y hy => .inr (by simp at hy; omega))))
  clear hg5 hB5 hput hf5 r0 r1 r2 f0 f2 k hgl
  go_wp2_with fail
  refine bodyPost_ret (v := .tuple #[.agg #[.int .i64 ((n : Nat) : Int), .int .i64 ((p.g : Nat) : Int)], .int .i64 0]) (by simp [results, Try.results16, go_sem, p0, p1]) rfl ⟨rfl, ?_, ?_⟩
  · exact HT5.out
  · exact HF5.out
end Go.Proofs.Ytbefiilbpbbjnaa
