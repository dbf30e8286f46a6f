/- A stream that a law holds; the law's own functions begins, at, reads, ends. -/
import Derived.Test.YteimjkmjofaieaaYState
import Derived.Test.YteimjkmjofaieaaCConv
namespace Go.Proofs.Yteimjkmjofaieaa
open Go.RowKit Go.Sort
set_option linter.unusedVariables false
set_option linter.unusedSimpArgs false
set_option maxRecDepth 100000

/-- A stream that was made since the law began in the world w. -/
structure KS (w W : World) (m : Nat) (k : Sb) (x : St) : Prop where
  at' : SAt W m k x
  new : ∀ i ∈ m :: k.A, w.heap.size ≤ i
  be : Below w.heap.size w W
theorem Sb.F_A (k : Sb) : ∀ i ∈ k.F, i ∈ k.A := fun i hi => by
  rw [Sb.F_eq] at hi
  rcases List.mem_cons.1 hi with rfl | hi
  · simp [Sb.A]
  · simp [Sb.A, kF_sub hi]
theorem Sb.at_A (k : Sb) (g : Nat) {i : Nat} (h : i ∈ (k.at g).A) : i ∈ k.A ∨ i = g := by
  simp only [Sb.A, Sb.at, List.mem_cons] at h ⊢
  rcases h with h | h | h
  · exact .inl (.inl h)
  · exact .inr h
  · exact .inl (.inr (.inr h))
/-- Two streams have no block in common. -/
def Dj (k1 k2 : Sb) : Prop := ∀ i ∈ k1.A, i ∉ k2.A
theorem Dj.symm {k1 k2 : Sb} (h : Dj k1 k2) : Dj k2 k1 := fun i hi hj => h i hj hi
section
variable {w W W' : World} {m m2 : Nat} {k k2 : Sb} {x y z : St}
theorem KS.inF (h : KS w W m k x) : ∀ i ∈ k.F, w.heap.size ≤ i := fun i hi => h.new i (List.mem_cons_of_mem _ (k.F_A i hi))
theorem KS.next (h : KS w W m k x) (hm : SAt W' m k y) (hf : Fr k.F W W') : KS w W' m k y := ⟨hm, h.new, h.be.trans (hf.below h.inF h.be.size)⟩
theorem KS.grow (h : KS w W m k x) (hb : Below W.heap.size W W') : KS w W' m k x := ⟨h.at'.grown hb, h.new, h.be.trans (hb.mono h.be.size)⟩
theorem KS.other (h : KS w W m k x) (h2 : KS w W m2 k2 z) (hd : Dj k k2) (hf : Fr k.F W W') : KS w W' m2 k2 z :=
  ⟨h2.at'.fr hf (h.at'.not h2.at'.me (by decide) (by decide) (by decide) (by decide)) (fun i hi hj => hd i (k.F_A i hj) hi), h2.new, h2.be.trans (hf.below h.inF h.be.size)⟩
theorem ks_new (h0 : Below w.heap.size w W) {c : Nat} (h : c ≤ 4096) : Calls Try.prog 10 #[.int .i64 (c : Nat)] W fun e W' => ∃ m k, e = .returned (.tuple #[pt m, .int .i64 0]) ∧ KS w W' m k (St.new c) ∧ (∀ i ∈ m :: k.A, W.heap.size ≤ i) ∧ Below W.heap.size W W' := by
  refine (stNew_ok W h).mono ?_
  rintro e W' ⟨m, k, rfl, h1, h2, h3⟩
  exact ⟨m, k, rfl, ⟨h1, fun i hi => Nat.le_trans h0.size (h2 i hi), h0.trans (h3.mono h0.size)⟩, h2, h3⟩
theorem KS.dj (h : KS w W m k x) {j : Sb} (hn : ∀ i ∈ j.A, W.heap.size ≤ i) : Dj k j := fun i hi hj => by
  have h1 := h.at'.lt.2 i hi
  have h2 := hn i hj
  omega
theorem ks_cw (h : KS w W m k x) (c : Int) (e : Int) (hy : sCw x c = (e, y)) : Calls Try.prog 25 #[pt m, .int .i64 c] W fun e' W' => e' = .returned (.int .i64 e) ∧ KS w W' m k y ∧ Fr k.F W W' := by
  have hr := stCloseW_any h.at' c
  rw [hy] at hr
  refine hr.mono ?_
  rintro e' W' ⟨rfl, hm, hf⟩
  exact ⟨rfl, h.next hm hf, hf⟩
theorem ks_cr (h : KS w W m k x) (c : Int) (e : Int) (hy : sCr x c = (e, y)) : Calls Try.prog 26 #[pt m, .int .i64 c] W fun e' W' => e' = .returned (.int .i64 e) ∧ KS w W' m k y ∧ Fr k.F W W' := by
  have hr := stCloseR_any h.at' c
  rw [hy] at hr
  refine hr.mono ?_
  rintro e' W' ⟨rfl, hm, hf⟩
  exact ⟨rfl, h.next hm hf, hf⟩
theorem ks_cancel (h : KS w W m k x) (n : Nat) (e : Int) (hy : sCa x = (n, e, y)) : Calls Try.prog 22 #[pt m] W fun e' W' => e' = .returned (.tuple #[.int .i64 (n : Nat), .int .i64 e]) ∧ KS w W' m k y ∧ Fr k.F W W' := by
  have hr := stCancel_any h.at'
  rw [hy] at hr
  refine hr.mono ?_
  rintro e' W' ⟨rfl, hm, hf⟩
  exact ⟨rfl, h.next hm hf, hf⟩
theorem ks_end (h : KS w W m k x) (n : Nat) (e : Int) (hy : sEn x = (n, e, y)) : Calls Try.prog 21 #[pt m] W fun e' W' => e' = .returned (.tuple #[.int .i64 (n : Nat), .int .i64 e]) ∧ KS w W' m k y ∧ Fr k.F W W' := by
  have hr := stEnd_any h.at'
  rw [hy] at hr
  refine hr.mono ?_
  rintro e' W' ⟨rfl, hm, hf⟩
  exact ⟨rfl, h.next hm hf, hf⟩
theorem ks_progress (h : KS w W m k x) (n : Nat) (b : Bool) (hy : sPr x = (n, b)) : Calls Try.prog 20 #[pt m] W fun e' W' => e' = .returned (.tuple #[.int .i64 (n : Nat), .bool b]) ∧ KS w W' m k x ∧ Below W.heap.size W W' := by
  have hr := stProgress_any h.at'
  rw [hy] at hr
  refine hr.mono ?_
  rintro e' W' ⟨rfl, hb⟩
  exact ⟨rfl, h.grow hb, hb⟩
theorem ks_read (h : KS w W m k x) (n : Int) (L : List UInt8) (e : Int) (hy : sRd x n = (L, e, y)) : Calls Try.prog 23 #[pt m, .int .i64 n] W fun e' W' => ∃ a j c, e' = .returned (.tuple #[.slice a j c, .int .i64 e]) ∧ RowB W' W.heap.size (.slice a j c) L ∧ KS w W' m k y ∧ Fr k.F W W' := by
  have hr := stRead_any h.at' n
  rw [hy] at hr
  refine hr.mono ?_
  rintro e' W' ⟨vp, rfl, hrow, hm, hf⟩
  obtain ⟨a, j, c, rfl⟩ := row_form hrow
  exact ⟨a, j, c, rfl, hrow, h.next hm hf, hf⟩
/-- What Begin leaves: the rest's block is new, or is as it was. -/
def ToG (w W : World) (m : Nat) (k : Sb) (x y : St) (W' : World) : Prop := ∃ g, KS w W' m (k.at g) y ∧ (∀ k2 z m2, KS w W m2 k2 z → Dj k k2 → Dj (k.at g) k2) ∧ Fr k.F W W'
theorem ks_begin {c : Nat} {v : Value} {Ps : Parts} (h : KS w W m k x) (R : RopeAt W c v (full Ps)) (e : Int) (hy : sBg x Ps.flatten = (e, y)) : Calls Try.prog 24 #[pt m, v] W fun e' W' => e' = .returned (.int .i64 e) ∧ ToG w W m k x y W' := by
  have hr := stBegin_any h.at' R
  rw [full_flat, hy] at hr
  refine hr.mono ?_
  rintro e' W' ⟨rfl, g, hm, hg, hf⟩
  have hgn : w.heap.size ≤ g := by
    rcases hg with rfl | hg
    · exact h.new _ (by simp [Sb.A])
    · have := h.be.size; omega
  refine ⟨rfl, g, ⟨hm, fun i hi => ?_, h.be.trans (hf.below h.inF h.be.size)⟩, fun k2 z m2 h2 hd i hi => ?_, hf⟩
  · rcases List.mem_cons.1 hi with rfl | hi
    · exact h.new _ (by simp)
    · rcases k.at_A g hi with hi | rfl
      · exact h.new i (List.mem_cons_of_mem _ hi)
      · exact hgn
  · rcases k.at_A g hi with hi | rfl
    · exact hd i hi
    · rcases hg with rfl | hg
      · exact hd _ (by simp [Sb.A])
      · intro hj
        have := h2.at'.lt.2 _ hj
        omega
set_option maxHeartbeats 1600000 in
theorem ybegins_yes (h : KS w W m k x) {L : List UInt8} (hL : L.length ≤ 60000) (e : Int) (hy : sBg x L = (e, y)) : Calls Try.prog 39 #[pt m, .string (strB L), .int .i64 e] W fun e' W' => e' = .returned (.bool true) ∧ ToG w W m k x y W' := by
  obtain ⟨cc, xs, W5, hcv, hb5, hm5, ht5, hc5, hs5⟩ := conv_bytes W L (by omega)
  have hsz : Hid ((strB L).size = L.length) := Lib.hid (strB_size _)
  have hy2 : sBg x ([L] : Parts).flatten = (e, y) := by simpa using hy
  have HY := Lib.hid hy2
  have HB5 := Lib.hid hb5
  have hmade : Made W5 W.heap.size ([] ++ [.slice (some ⟨W.heap.size, 0, none⟩) L.length cc]) ([] ++ [L]) := Made.snoc ⟨rfl, fun i v p h1 h2 => by simp at h1⟩ hm5 ht5 hc5 (Nat.le_refl _)
  have hrows : RowsB (W5.alloc (.cells #[.slice (some ⟨W.heap.size, 0, none⟩) L.length cc] 29)) [.slice (some ⟨W.heap.size, 0, none⟩) L.length cc] [L] := (hmade.same (fun b c xs hm => (below_alloc _ _).block b hm.lt)).rows
  have hnew := new_any (src_one W5 29 (.slice (some ⟨W.heap.size, 0, none⟩) L.length cc)) hrows (by simp; omega) (by simp)
  have hce : errC (full [L]).length ([L] : Parts).flatten.length = 0 := by unfold errC; rw [if_neg (by have := full_len [L]; simp at this; omega), if_neg (by simp; omega)]
  have hnp : newP [L] = full [L] := by unfold newP; rw [if_pos hce]
  rw [hce, hnp] at hnew
  have HNEW := Lib.hid hnew
  have HKS := Lib.hid h
  clear h hL hy hy2 hb5 hmade hrows hnew hce hnp hm5 ht5 hs5
  rw [← hsz.out] at HNEW hc5
  generalize strB L = s at *
  have hz1 : (s.size : Int) ≤ (cc : Int) := by omega
  clear hc5
  unfold pt at *
  go_enter Try.func39, Try.ntmps39
  go_wp2_with (go_at_call 19; fail)
  refine HNEW.out.mono ?_
  rintro e' W1 ⟨v1, rfl, hR, hb1⟩
  obtain ⟨x1, x2, x3, x4, x5, x6, rfl⟩ := hR.shape
  have hW1 : Below W.heap.size W W1 := HB5.out.trans (((below_alloc W5 _).trans (hb1.mono (by simp))).mono HB5.out.size)
  have hb2 := below_alloc W1 (.cells #[.slice x1 x2 x3, .slice x4 x5 x6] 52)
  have hk2 := (HKS.out.grow hW1).grow hb2
  have hw := ks_begin hk2 (hR.grown hb2) e HY.out
  have HW := Lib.hid hw
  have HB := Lib.hid (hW1.trans (hb2.mono hW1.size))
  clear hR hb1 hb2 hk2 hw hW1
  unfold pt at HW
  go_wp2_with (go_at_call 24; fail)
  refine HW.out.mono ?_
  rintro e' W2 ⟨rfl, g, h1, h2, h3⟩
  have HH : Hid (ToG w W m k x y W2) := Lib.hid ⟨g, h1, fun k2 z m2 hz hd => h2 k2 z m2 (hz.grow HB.out) hd, (Fr.of_below HB.out k.F).trans' h3⟩
  clear h1 h2 h3
  go_wp2_with fail
  go_ret
  exact ⟨rfl, HH.out⟩
theorem yat_yes (h : KS w W m k x) (n : Nat) (b : Bool) (hy : sPr x = (n, b)) : Calls Try.prog 40 #[pt m, .int .i64 (n : Nat), .bool b] W fun e' W' => e' = .returned (.bool true) ∧ KS w W' m k x ∧ Fr k.F W W' := by
  have hr := Lib.hid (ks_progress h n b hy)
  clear h hy
  unfold pt at *
  go_enter Try.func40, Try.ntmps40
  go_wp2_with (go_at_call 20; fail)
  refine hr.out.mono ?_
  rintro e' W1 ⟨rfl, hk, hf⟩
  have HK := Lib.hid hk
  have HF := Lib.hid hf
  clear hk hf
  go_wp2_with fail
  go_ret
  exact ⟨by simp, HK.out, Fr.of_below HF.out _⟩
set_option maxHeartbeats 1600000 in
theorem yreads_yes (h : KS w W m k x) (n : Int) {L : List UInt8} (e : Int) (hy : sRd x n = (L, e, y)) : Calls Try.prog 41 #[pt m, .int .i64 n, .string (strB L), .int .i64 e] W fun e' W' => e' = .returned (.bool true) ∧ KS w W' m k y ∧ Fr k.F W W' := by
  have hr := Lib.hid (ks_read h n L e hy)
  clear h hy
  unfold pt at *
  go_enter Try.func41, Try.ntmps41
  go_wp2_with (go_at_call 23; fail)
  refine hr.out.mono ?_
  rintro e' W1 ⟨a, j, c, rfl, hrow, hk, hf⟩
  have hcv := row_str hrow
  have HK := Lib.hid hk
  have HF := Lib.hid hf
  have hq : (strB L).toList == (strB L).toList := by simp
  clear hk hf hrow
  generalize strB L = s at *
  go_wp2_with fail
  go_ret
  exact ⟨rfl, HK.out, HF.out⟩
theorem yends_yes (h : KS w W m k x) (n : Nat) (e : Int) (hy : sEn x = (n, e, y)) : Calls Try.prog 42 #[pt m, .int .i64 (n : Nat), .int .i64 e] W fun e' W' => e' = .returned (.bool true) ∧ KS w W' m k y ∧ Fr k.F W W' := by
  have hr := Lib.hid (ks_end h n e hy)
  clear h hy
  unfold pt at *
  go_enter Try.func42, Try.ntmps42
  go_wp2_with (go_at_call 21; fail)
  refine hr.out.mono ?_
  rintro e' W1 ⟨rfl, hk, hf⟩
  have HK := Lib.hid hk
  have HF := Lib.hid hf
  clear hk hf
  go_wp2_with fail
  go_ret
  exact ⟨rfl, HK.out, HF.out⟩
end
end Go.Proofs.Yteimjkmjofaieaa
