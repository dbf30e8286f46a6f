/- What a kind's methods answer and leave. -/
import Derived.Test.YteimjkmjofaieaaYKind
import Derived.Deep.QuietTactic
import Derived.BigQuiet
namespace Go.Proofs.Yteimjkmjofaieaa
open Go.RowKit Go.Sort
set_option linter.unusedVariables false
set_option linter.unusedSimpArgs false
set_option maxRecDepth 100000

theorem diCap (w : World) : Calls Try.prog 109 #[.agg #[]] w fun e w' => e = .returned (.int .i64 0) ∧ Below w.heap.size w w' := by
  go_enter Try.func109, Try.ntmps109
  go_wp2_with fail
  go_ret
  exact ⟨rfl, below_alloc _ _⟩
theorem diReset (w : World) : Calls Try.prog 110 #[.agg #[]] w fun e w' => e = .returned (.int .i64 0) ∧ Below w.heap.size w w' := by
  go_enter Try.func110, Try.ntmps110
  go_wp2_with fail
  go_ret
  exact ⟨rfl, below_alloc _ _⟩
theorem diHeld (w : World) : Calls Try.prog 112 #[.agg #[]] w fun e w' => e = .returned (.slice none 0 0) ∧ Below w.heap.size w w' := by
  go_enter Try.func112, Try.ntmps112
  go_wp2_with fail
  go_ret
  exact ⟨rfl, below_alloc _ _⟩
theorem diFill (w : World) (p : Value) : Calls Try.prog 111 #[.agg #[], p] w fun e w' => e = .returned (.tuple #[]) ∧ Below w.heap.size w w' := by
  go_enter Try.func111, Try.ntmps111
  go_wp2_with fail
  go_end0
  exact ⟨rfl, below_alloc _ _⟩

/-- What a kind's calls need of the rest that they are handed: it lies in the cell o of the block B. -/
structure RestAt (w : World) (q : Option (Nat × Nat × Nat)) (B o : Nat) (cs : Array Value) (t : TypeId) (v : Value) (L : List UInt8) (g : Nat) : Prop where
  blk : w.heap[B]? = some (.cells cs t (0, 0))
  at_ : cs[o]? = some v
  pc : PieceG w v L g
  gq : ∀ a bb cc, q = some (a, bb, cc) → g ≠ cc
  t1 : t ≠ 135
  t2 : t ≠ 133
  t3 : t ≠ 5
theorem RestAt.gB {w : World} {q : Option (Nat × Nat × Nat)} {B o g : Nat} {cs : Array Value} {t : TypeId} {v : Value} {L : List UInt8} (h : RestAt w q B o cs t v L g) : v = .slice none 0 0 ∧ L = [] ∨ g ≠ B := by
  rcases h.pc with h1 | ⟨_, _, cur, _, _, _, h3, _⟩
  · exact .inl h1
  · exact .inr (ne_types h3 h.blk (fun e => h.t3 e.symm))
theorem RestAt.ge {w : World} {q : Option (Nat × Nat × Nat)} {B o g : Nat} {cs : Array Value} {t : TypeId} {v : Value} {L : List UInt8} (h : RestAt w q B o cs t v L g) : cs[o]? = some v := h.at_
/-- What a kind's calls leave of it. -/
def RestTo (w' : World) (q : Option (Nat × Nat × Nat)) (B o : Nat) (cs : Array Value) (t : TypeId) (L : List UInt8) (g : Nat) : Prop := ∃ v', w'.heap[B]? = some (.cells (cs.setIfInBounds o v') t (0, 0)) ∧ PieceG w' v' L g
theorem set_same {cs : Array Value} {o : Nat} {v : Value} (h : cs[o]? = some v) : cs.setIfInBounds o v = cs := by
  apply Array.ext_getElem?
  intro i
  rw [Array.getElem?_setIfInBounds]
  split
  · rename_i e
    subst e
    obtain ⟨hl, hv⟩ := Array.getElem?_eq_some_iff.1 h
    rw [if_pos hl, h]
  · rfl
theorem pieceG_set {w : World} {B o g : Nat} {v x : Value} {L : List UInt8} (h : PieceG w v L g) (hn : g ≠ B ∨ L = []) : (L = [] → v = .slice none 0 0 ∨ g ≠ B) → PieceG (w.setCell ⟨B, o, none⟩ x) v L g := by
  intro h2
  rcases h with ⟨rfl, rfl⟩ | ⟨off, c, cur, rfl, q1, q2, q3, q4⟩
  · exact .inl ⟨rfl, rfl⟩
  · have hg : g ≠ B := by
      rcases hn with h | h
      · exact h
      · rcases h2 h with h | h
        · cases h
        · exact h
    exact .inr ⟨off, c, cur, rfl, q1, q2, (fr_setCell w ⟨B, o, none⟩ x).same q3 (by simpa using hg), q4⟩
set_option maxHeartbeats 1600000 in
theorem diTake {w : World} {B o g : Nat} {cs : Array Value} {t : TypeId} {v : Value} {L : List UInt8} {n : Int} (h : RestAt w none B o cs t v L g) (hn : 0 ≤ n) (hL : L.length ≤ 65536) :
    Calls Try.prog 113 #[.agg #[], .int .i64 n, .pointer (some ⟨B, o, none⟩)] w fun e w' => ∃ v, e = .returned v ∧ RowB w' w.heap.size v (L.take n.toNat) ∧ RestTo w' none B o cs t (L.drop n.toNat) g ∧ Fr [B] w w' := by
  have hlt := lt_of_block h.blk
  obtain ⟨W, hW⟩ : ∃ W, W = w.alloc (.cells #[] 125) := ⟨_, rfl⟩
  have hb : Below w.heap.size w W := by rw [hW]; exact below_alloc _ _
  have hB1 := (hb.block _ hlt).trans h.blk
  have hc := Lib.hid (cut_any (o := o) (cells_cell hB1 h.at_) (cells_free hB1 o) (lt_of_block hB1) (h.pc.grown hb) hn)
  have H := Lib.hid h
  have HB := Lib.hid hb
  have HB1 := Lib.hid hB1
  have HW := Lib.hid hW.symm
  clear h hb hB1 hW
  go_enter Try.func113, Try.ntmps113
  go_wp2_with fail
  rw [HW.out]
  refine hc.out.mono ?_
  rintro e w1 ⟨v1, v2, rfl, rfl, hp1, hp2⟩
  have hg : ∀ (x : Value) (M : List UInt8), PieceG W x M g → PieceG (W.setCell ⟨B, o, none⟩ v2) x M g := fun x M hx => by
    rcases hx with hx | ⟨off, c, cur, rfl, q1, q2, q3, q4⟩
    · exact .inl hx
    · exact .inr ⟨off, c, cur, rfl, q1, q2, (fr_setCell _ ⟨B, o, none⟩ v2).same q3 (by simpa using ne_types q3 HB1.out (fun e => H.out.t3 e.symm)), q4⟩
  have hcl := Lib.hid (clone_any (hg _ _ hp1).src (by rw [List.length_take]; omega))
  have HP2 := Lib.hid (hg _ _ hp2)
  obtain ⟨x1, x2, x3, hx⟩ : ∃ a n c, v1 = .slice a n c := by
    obtain ⟨x1, x3, hx, _, _⟩ := hp1.form
    exact ⟨_, _, _, hx⟩
  subst hx
  clear hp1 hp2 hg
  go_wp2_with (go_at_call 51; fail)
  refine hcl.out.mono ?_
  rintro e w2 ⟨v', rfl, hrow, hb2⟩
  have HR := Lib.hid hrow
  have HB2 := Lib.hid hb2
  obtain ⟨ra, rn, rc, rfl⟩ := row_form hrow
  clear hrow hb2
  go_wp2_with fail
  go_ret
  have hs : (W.setCell ⟨B, o, none⟩ v2).heap.size = W.heap.size := by simp
  have hs2 := HB.out.size
  have e1 := cells_set HB1.out o v2
  exact ⟨_, rfl, RowV.lower HR.out (by omega), ⟨v2, (HB2.out.block _ (lt_of_block e1)).trans e1, HP2.out.grown HB2.out⟩,
    ((Fr.of_below HB.out [B]).trans' (fr_setCell _ ⟨B, o, none⟩ v2)).trans' (Fr.of_below HB2.out [B])⟩

theorem RAt.ne3 {w : World} {a bb cc c B : Nat} {S : List UInt8} {cs : Array Value} {t : TypeId} (h : RAt w a bb cc c S) (hb : w.heap[B]? = some (.cells cs t (0, 0))) (t1 : t ≠ 135) (t2 : t ≠ 133) (t3 : t ≠ 5) : B ≠ a ∧ B ≠ bb ∧ B ≠ cc := by
  obtain ⟨cp, f, xs, R⟩ := h
  obtain ⟨r, hr, _⟩ := R.tc
  exact ⟨ne_types hb R.ta t1, ne_types hb R.tb t2, ne_types hb hr t3⟩
theorem RAt.gne {w : World} {a bb cc c g : Nat} {S L : List UInt8} {v : Value} (h : RAt w a bb cc c S) (hp : PieceG w v L g) : v = .slice none 0 0 ∧ L = [] ∨ (g ≠ a ∧ g ≠ bb) := by
  obtain ⟨cp, f, xs, R⟩ := h
  rcases hp with hp | ⟨_, _, cur, _, _, _, h3, _⟩
  · exact .inl hp
  · exact .inr ⟨ne_types h3 R.ta (by decide), ne_types h3 R.tb (by decide)⟩
theorem PieceG.off {w w' : World} {g : Nat} {v : Value} {L : List UInt8} {F : List Nat} (h : PieceG w v L g) (hf : Fr F w w') (hn : v = .slice none 0 0 ∧ L = [] ∨ g ∉ F) : PieceG w' v L g := by
  rcases hn with hn | hn
  · exact .inl hn
  · exact h.fr hf hn
set_option maxHeartbeats 3200000 in
theorem buFill {w : World} {a bb cc c B o g : Nat} {S L : List UInt8} {cs : Array Value} {t : TypeId} {v : Value} (hk : RAt w a bb cc c S) (h : RestAt w (some (a, bb, cc)) B o cs t v L g) (hL : L.length ≤ 65536) :
    Calls Try.prog 114 #[.agg #[pt a], .pointer (some ⟨B, o, none⟩)] w fun e w' => e = .returned (.tuple #[]) ∧ RAt w' a bb cc c (S ++ L.take (min L.length (c - S.length))) ∧ RestTo w' (some (a, bb, cc)) B o cs t (L.drop (min L.length (c - S.length))) g ∧ Fr [B, bb, cc] w w' := by
  have hlt := lt_of_block h.blk
  obtain ⟨W, hW⟩ : ∃ W, W = w.alloc (.cells #[pt a] 127) := ⟨_, rfl⟩
  have hb : Below w.heap.size w W := by rw [hW]; exact below_alloc _ _
  have hbox : W.heap[w.heap.size]? = some (.cells #[pt a] 127 (0, 0)) := by rw [hW]; exact heap_alloc_new w _
  have hB1 := (hb.block _ hlt).trans h.blk
  obtain ⟨va, vn, vc, hv⟩ : ∃ a n c, v = .slice a n c := by
    obtain ⟨x1, x3, hx, _, _⟩ := h.pc.form
    exact ⟨_, _, _, hx⟩
  subst hv
  have HK := Lib.hid hk
  have H := Lib.hid h
  have HB := Lib.hid hb
  have HB1 := Lib.hid hB1
  have HBX := Lib.hid hbox
  have HAT := Lib.hid h.at_
  have HW := Lib.hid hW.symm
  obtain ⟨N, hN⟩ : ∃ N, N = min L.length (c - S.length) := ⟨_, rfl⟩
  rw [← hN]
  have HN := Lib.hid hN
  clear h hb hB1 hW hk hbox hN
  unfold pt at *
  go_enter Try.func114, Try.ntmps114
  go_wp2_with fail
  rw [HW.out]
  refine wp_region_mix (fun W' => W'.heap[B]? = some (.cells cs t (0, 0)) ∧ W'.heap[w.heap.size]? = some (.cells #[.pointer (some ⟨a, 0, none⟩)] 127 (0, 0))) 10 [(true, 0), (true, 1), (true, 2), (true, 3), (true, 4), (false, 5), (true, 6), (true, 7), (true, 8), (true, 9)] (by kernel_rfl) (by kernel_rfl) (fun _ _ _ d _ h => by cases d <;> exact h) ?_
  have HDR : Hid (Below W.heap.size W W.drew) := Lib.hid ((Grn.refl W).drew 1).below
  have HS : Hid (W.drew.heap[B]? = some (.cells cs t (0, 0)) ∧ W.drew.heap[w.heap.size]? = some (.cells #[.pointer (some ⟨a, 0, none⟩)] 127 (0, 0))) := Lib.hid ⟨(HDR.out.block _ (lt_of_block HB1.out)).trans HB1.out, (HDR.out.block _ (lt_of_block HBX.out)).trans HBX.out⟩
  simp only [List.map_cons, List.map_nil, List.getD_cons_zero, List.getD_cons_succ, List.drop_succ_cons, List.drop_zero]
  generalize W.drew = V at *
  refine mix_take (.pointer (some ⟨w.heap.size, 0, none⟩)) HS.out rfl (fun W' hS => by go_simp) ?_
  simp only [Act.put, List.setIfInBounds_toArray, List.set_cons_zero, List.set_cons_succ]
  refine mix_take (.pointer (some ⟨a, 0, none⟩)) HS.out rfl (fun W' hS => by
    have e1 := hS.2
    have l0 := cells_cell (o := 0) e1 rfl
    go_simp) ?_
  simp only [Act.put, List.setIfInBounds_toArray, List.set_cons_zero, List.set_cons_succ]
  refine mix_move (.tmp 1) (.pointer (some ⟨B, o, none⟩)) rfl HS.out rfl rfl ?_
  simp only [Act.put, List.setIfInBounds_toArray, List.set_cons_zero, List.set_cons_succ]
  refine mix_take (.pointer (some ⟨B, o, none⟩)) HS.out rfl (fun W' hS => by go_simp) ?_
  simp only [Act.put, List.setIfInBounds_toArray, List.set_cons_zero, List.set_cons_succ]
  refine mix_take (.slice va vn vc) HS.out rfl (fun W' hS => by
    have l0 := cells_cell hS.1 HAT.out
    go_simp) ?_
  simp only [Act.put, List.setIfInBounds_toArray, List.set_cons_zero, List.set_cons_succ]
  refine mix_step rfl (fun K5 hK => ?_)
  go_simp
  have hbb : Below w.heap.size w V := HB.out.trans (HDR.out.mono HB.out.size)
  have hk4 := HK.out.grown hbb
  have hp4 := H.out.pc.grown hbb
  have hwr4 := rgWriteP hk4 hp4 hL (H.out.gq _ _ _ rfl)
  rw [← HN.out] at hwr4
  have HWW := Lib.hid hwr4
  have HBB := Lib.hid hbb
  have HK4 := Lib.hid hk4
  have HP4 := Lib.hid hp4
  clear hbb hk4 hwr4 hp4
  unfold pt at HWW
  go_wp2_with (go_at_call 81; fail)
  refine HWW.out.mono ?_
  rintro e w5 ⟨rfl, hr5, hf5⟩
  have hne := HK4.out.ne3 HS.out.1 H.out.t1 H.out.t2 H.out.t3
  have hne2 := HK4.out.ne3 HS.out.2 (by decide) (by decide) (by decide)
  have hS5 : w5.heap[B]? = some (.cells cs t (0, 0)) ∧ w5.heap[w.heap.size]? = some (.cells #[.pointer (some ⟨a, 0, none⟩)] 127 (0, 0)) := ⟨hf5.same HS.out.1 (by simp [hne.2.1, hne.2.2]), hf5.same HS.out.2 (by simp [hne2.2.1, hne2.2.2])⟩
  have hp5 : PieceG w5 (.slice va vn vc) L g := HP4.out.off hf5 (by
    rcases HK4.out.gne HP4.out with hh | hh
    · exact .inl hh
    · exact .inr (by have := H.out.gq _ _ _ rfl; simp [hh.2, this]))
  have hc5 := cut_any (o := o) (n := (N : Int)) (cells_cell hS5.1 HAT.out) (cells_free hS5.1 o) (lt_of_block hS5.1) hp5 (by omega)
  have HS5 := Lib.hid hS5
  have HR5 := Lib.hid hr5
  have HF5 := Lib.hid hf5
  have HC5 := Lib.hid hc5
  have HNE := Lib.hid hne
  clear hr5 hf5 hp5 hS5 hc5 hne hne2
  refine hK _ _ HS5.out ?_
  clear hK K5
  refine mix_move (.tmp 12) (.tuple #[(.int .i64 ((N : Nat) : Int)), (.int .i64 0)]) rfl HS5.out rfl rfl ?_
  simp only [Act.put, List.setIfInBounds_toArray, List.set_cons_zero, List.set_cons_succ]
  refine mix_take (.int .i64 ((N : Nat) : Int)) HS5.out rfl (fun W' hS => by go_simp) ?_
  simp only [Act.put, List.setIfInBounds_toArray, List.set_cons_zero, List.set_cons_succ]
  refine mix_take (.int .i64 0) HS5.out rfl (fun W' hS => by go_simp) ?_
  simp only [Act.put, List.setIfInBounds_toArray, List.set_cons_zero, List.set_cons_succ]
  refine mix_take (.int .i64 ((N : Nat) : Int)) HS5.out rfl (fun W' hS => by go_simp) ?_
  simp only [Act.put, List.setIfInBounds_toArray, List.set_cons_zero, List.set_cons_succ]
  refine mix_nil ?_
  go_wp2_with (go_at_call 107; fail)
  refine HC5.out.mono ?_
  rintro e w6 ⟨v1, v2, rfl, rfl, hp1, hp2⟩
  have hg : g ∉ [B] ∨ (v2 = .slice none 0 0 ∧ L.drop N = []) := by
    rcases hp2 with hx | ⟨off, c, cur, rfl, q1, q2, q3, q4⟩
    · exact .inr hx
    · exact .inl (by simpa using ne_types q3 HS5.out.1 (fun e => H.out.t3 e.symm))
  have HFS : Hid (Fr [B] w5 (w5.setCell ⟨B, o, none⟩ v2)) := Lib.hid (fr_setCell w5 ⟨B, o, none⟩ v2)
  rw [Int.toNat_natCast] at hp2
  have HP2 : Hid (PieceG (w5.setCell ⟨B, o, none⟩ v2) v2 (L.drop N) g) := Lib.hid (hp2.off HFS.out hg.symm)
  have HE1 := Lib.hid (cells_set HS5.out.1 o v2)
  clear hp1 hp2 hg
  go_wp2_with fail
  go_end0
  refine ⟨rfl, HR5.out.fr HFS.out (by simpa using HNE.out.1.symm) (by simpa using HNE.out.2.1.symm) (by simpa using HNE.out.2.2.symm), ⟨v2, HE1.out, HP2.out⟩, ?_⟩
  exact ((Fr.of_below HBB.out _).trans' (HF5.out.mono (fun i hi => .inl (List.mem_cons_of_mem _ hi)))).trans' (HFS.out.mono (fun i hi => .inl (by simp only [List.mem_cons, List.not_mem_nil, or_false] at hi; simp [hi])))

set_option maxHeartbeats 3200000 in
theorem buHeld {w : World} {a bb cc c : Nat} {S : List UInt8} (hk : RAt w a bb cc c S) :
    Calls Try.prog 115 #[.agg #[pt a]] w fun e w' => ∃ v, e = .returned v ∧ RowB w' w.heap.size v S ∧ Below w.heap.size w w' := by
  obtain ⟨W, hW⟩ : ∃ W, W = w.alloc (.cells #[pt a] 127) := ⟨_, rfl⟩
  have hb : Below w.heap.size w W := by rw [hW]; exact below_alloc _ _
  have hbox : W.heap[w.heap.size]? = some (.cells #[pt a] 127 (0, 0)) := by rw [hW]; exact heap_alloc_new w _
  have HK := Lib.hid hk
  have HB := Lib.hid hb
  have HBX := Lib.hid hbox
  have HW := Lib.hid hW.symm
  obtain ⟨N, hN⟩ : ∃ N, N = S.length := ⟨_, rfl⟩
  have HN := Lib.hid hN
  clear hb hW hk hbox hN
  unfold pt at *
  go_enter Try.func115, Try.ntmps115
  go_wp2_with fail
  rw [HW.out]
  refine wp_region_mix (fun W' => W'.heap[w.heap.size]? = some (.cells #[.pointer (some ⟨a, 0, none⟩)] 127 (0, 0))) 10 [(true, 0), (true, 1), (true, 2), (true, 3), (false, 4), (false, 5), (true, 6), (true, 7), (true, 8), (true, 9)] (by kernel_rfl) (by kernel_rfl) (fun _ _ _ d _ h => by cases d <;> exact h) ?_
  have HDR : Hid (Below W.heap.size W W.drew) := Lib.hid ((Grn.refl W).drew 1).below
  have HS : Hid (W.drew.heap[w.heap.size]? = some (.cells #[.pointer (some ⟨a, 0, none⟩)] 127 (0, 0))) := Lib.hid ((HDR.out.block _ (lt_of_block HBX.out)).trans HBX.out)
  simp only [List.map_cons, List.map_nil, List.getD_cons_zero, List.getD_cons_succ, List.drop_succ_cons, List.drop_zero]
  generalize W.drew = V at *
  refine mix_take (.pointer (some ⟨w.heap.size, 0, none⟩)) HS.out rfl (fun W' hS => by go_simp) ?_
  simp only [Act.put, List.setIfInBounds_toArray, List.set_cons_zero, List.set_cons_succ]
  refine mix_take (.pointer (some ⟨a, 0, none⟩)) HS.out rfl (fun W' hS => by
    have l0 := cells_cell (o := 0) hS rfl
    go_simp) ?_
  simp only [Act.put, List.setIfInBounds_toArray, List.set_cons_zero, List.set_cons_succ]
  refine mix_take (.pointer (some ⟨w.heap.size, 0, none⟩)) HS.out rfl (fun W' hS => by go_simp) ?_
  simp only [Act.put, List.setIfInBounds_toArray, List.set_cons_zero, List.set_cons_succ]
  refine mix_take (.pointer (some ⟨a, 0, none⟩)) HS.out rfl (fun W' hS => by
    have l0 := cells_cell (o := 0) hS rfl
    go_simp) ?_
  simp only [Act.put, List.setIfInBounds_toArray, List.set_cons_zero, List.set_cons_succ]
  refine mix_step rfl (fun K4 hK => ?_)
  go_simp
  have hbb : Below w.heap.size w V := HB.out.trans (HDR.out.mono HB.out.size)
  have hk4 := HK.out.grown hbb
  have hl4 := rgLen_at hk4
  rw [← HN.out] at hl4
  have hp4 := rgPeek_all hk4
  rw [← HN.out] at hp4
  have HLL := Lib.hid hl4
  have HPP := Lib.hid hp4
  have HBB := Lib.hid hbb
  clear hbb hk4 hl4 hp4
  unfold pt at HLL HPP
  go_wp2_with (go_at_call 72; fail)
  refine HLL.out.mono ?_
  rintro e w5 ⟨rfl, rfl⟩
  refine hK _ _ HS.out ?_
  clear hK K4
  refine mix_step rfl (fun K5 hK => ?_)
  go_simp
  go_wp2_with (go_at_call 84; fail)
  refine HPP.out.mono ?_
  rintro e w6 ⟨v6, rfl, hrow, hb6⟩
  have HROW := Lib.hid hrow
  have HB6 := Lib.hid hb6
  have HS6 : Hid (w6.heap[w.heap.size]? = some (.cells #[.pointer (some ⟨a, 0, none⟩)] 127 (0, 0))) := Lib.hid ((hb6.block _ (lt_of_block HS.out)).trans HS.out)
  obtain ⟨ra, rn, rc, rfl⟩ := row_form hrow
  clear hrow hb6
  refine hK _ _ HS6.out ?_
  clear hK K5
  refine mix_move (.tmp 11) (.tuple #[(.slice ra rn rc), (.int .i64 0)]) rfl HS6.out rfl rfl ?_
  simp only [Act.put, List.setIfInBounds_toArray, List.set_cons_zero, List.set_cons_succ]
  refine mix_take (.slice ra rn rc) HS6.out rfl (fun W' hS => by go_simp) ?_
  simp only [Act.put, List.setIfInBounds_toArray, List.set_cons_zero, List.set_cons_succ]
  refine mix_take (.int .i64 0) HS6.out rfl (fun W' hS => by go_simp) ?_
  simp only [Act.put, List.setIfInBounds_toArray, List.set_cons_zero, List.set_cons_succ]
  refine mix_take (.slice ra rn rc) HS6.out rfl (fun W' hS => by go_simp) ?_
  simp only [Act.put, List.setIfInBounds_toArray, List.set_cons_zero, List.set_cons_succ]
  refine mix_nil ?_
  go_wp2_with fail
  go_ret
  exact ⟨_, rfl, RowV.lower HROW.out HBB.out.size, HBB.out.trans (HB6.out.mono HBB.out.size)⟩
set_option maxHeartbeats 3200000 in
theorem buTake {w : World} {a bb cc c B o g : Nat} {S L : List UInt8} {cs : Array Value} {t : TypeId} {v : Value} {n : Int} (hk : RAt w a bb cc c S) (h : RestAt w (some (a, bb, cc)) B o cs t v L g) (hL : L.length ≤ 65536) (hn : 0 ≤ n) :
    Calls Try.prog 116 #[.agg #[pt a], .int .i64 n, .pointer (some ⟨B, o, none⟩)] w fun e w' => ∃ v', e = .returned v' ∧ RowB w' w.heap.size v' (S.take n.toNat) ∧
      RAt w' a bb cc c (S.drop n.toNat ++ L.take (min L.length (c - (S.drop n.toNat).length))) ∧ RestTo w' (some (a, bb, cc)) B o cs t (L.drop (min L.length (c - (S.drop n.toNat).length))) g ∧ Fr [B, bb, cc] w w' := by
  have hlt := lt_of_block h.blk
  obtain ⟨W, hW⟩ : ∃ W, W = w.alloc (.cells #[pt a] 127) := ⟨_, rfl⟩
  have hb : Below w.heap.size w W := by rw [hW]; exact below_alloc _ _
  have hbox : W.heap[w.heap.size]? = some (.cells #[pt a] 127 (0, 0)) := by rw [hW]; exact heap_alloc_new w _
  have hkW := hk.grown hb
  have hrd := rgRead_at hkW n hn
  have hcell := cells_cell (o := 0) hbox rfl
  have HK := Lib.hid hkW
  have H := Lib.hid h
  have HB := Lib.hid hb
  have HRD := Lib.hid hrd
  have HBX := Lib.hid hbox
  have HW := Lib.hid hW.symm
  clear h hb hW hk hbox hkW hrd
  unfold pt at *
  go_enter Try.func116, Try.ntmps116
  go_wp2_with fail
  rw [HW.out]
  go_wp2_with (go_at_call 73; fail)
  refine HRD.out.mono ?_
  rintro e w5 ⟨v5, rfl, hrow, hr5, hf5⟩
  obtain ⟨ra, rn, rc, rfl⟩ := row_form hrow
  have hB1 := (HB.out.block _ (lt_of_block H.out.blk)).trans H.out.blk
  have hne := HK.out.ne3 hB1 H.out.t1 H.out.t2 H.out.t3
  have hne2 := HK.out.ne3 HBX.out (by decide) (by decide) (by decide)
  have hS5 := hf5.same hB1 (by simp [hne.2.1, hne.2.2])
  have hX5 := hf5.same HBX.out (by simp [hne2.2.1, hne2.2.2])
  have hp5 : PieceG w5 v L g := (H.out.pc.grown HB.out).off hf5 (by
    rcases HK.out.gne (H.out.pc.grown HB.out) with hh | hh
    · exact .inl hh
    · exact .inr (by have := H.out.gq _ _ _ rfl; simp [hh.2, this]))
  have hra : RestAt w5 (some (a, bb, cc)) B o cs t v L g := ⟨hS5, H.out.at_, hp5, H.out.gq, H.out.t1, H.out.t2, H.out.t3⟩
  have hfl := buFill hr5 hra hL
  have hcell5 := cells_cell (o := 0) hX5 rfl
  have HFL := Lib.hid hfl
  have HROW := Lib.hid hrow
  have HF5 := Lib.hid hf5
  have HNE := Lib.hid hne
  have HCL := Lib.hid (And.intro hr5 hS5)
  clear hrow hr5 hf5 hB1 hne hne2 hS5 hX5 hp5 hra hfl hcell
  unfold pt at HFL
  go_wp2_with (go_at_call 114; fail)
  refine HFL.out.mono ?_
  rintro e w6 ⟨rfl, hr6, hto, hf6⟩
  have HR6 := Lib.hid hr6
  have HTO := Lib.hid hto
  have HF6 := Lib.hid hf6
  have HROW6 : Hid (RowB w6 W.heap.size (.slice ra rn rc) (S.take n.toNat)) := Lib.hid (hf6.row HROW.out (fun g' hg' hm => by
    have h1 := (HROW.out.lt g' hg').1
    have h2 := HK.out.lt
    have h3 := HB.out.size
    have h4 := lt_of_block H.out.blk
    simp only [List.mem_cons, List.not_mem_nil, or_false] at hm
    omega))
  clear hr6 hto hf6
  go_wp2_with fail
  go_ret
  refine ⟨_, rfl, RowV.lower HROW6.out HB.out.size, HR6.out, HTO.out, ?_⟩
  exact ((Fr.of_below HB.out _).trans' (HF5.out.mono (fun i hi => .inl (List.mem_cons_of_mem _ hi)))).trans' HF6.out
end Go.Proofs.Yteimjkmjofaieaa
