/- Begin, Read. -/
import Derived.Test.YteimjkmjofaieaaYClose
namespace Go.Proofs.Yteimjkmjofaieaa
open Go.RowKit Go.Sort
set_option linter.unusedVariables false
set_option linter.unusedSimpArgs false
set_option maxRecDepth 100000
section
variable {w : World} {m : Nat} {k : Sb} {x : St}
theorem stBegin_no {c : Nat} {v u : Value} {Ps : Parts} (h : NoS w u) (R : RopeAt w c v Ps) : Calls Try.prog 24 #[u, v] w fun e w' => e = .returned (.int .i64 1) ∧ Below w.heap.size w w' := by
  obtain ⟨y1, y2, y3, y4, y5, y6, rfl⟩ := R.shape
  have hwb := below_alloc w (.cells #[.slice y1 y2 y3, .slice y4 y5 y6] 52)
  have hu := Lib.hid (stUsable_no (h.grown hwb))
  obtain ⟨a, rfl⟩ : ∃ a, u = .pointer a := by rcases h with h | ⟨q, h, _⟩ <;> exact ⟨_, h⟩
  have HB := Lib.hid hwb
  clear h R hwb
  go_enter Try.func24, Try.ntmps24
  go_wp2_with (go_at_call 57; refine hu.out.mono ?_; rintro e w' ⟨rfl, rfl⟩)
  go_ret
  exact ⟨rfl, HB.out⟩
/-- A stream after a write has begun: the block of its rest is new, or none. -/
def Sb.at (k : Sb) (g : Nat) : Sb := ⟨k.b, k.q, g⟩
theorem Sb.at_F (k : Sb) (g : Nat) : (k.at g).F = k.F := rfl
/-- What a stream's body is filled up to. -/
theorem SAt.filled {w0 w1 w2 : World} {k : Sb} {x y : St} {T : TypeId} {v : Value} {g : Nat} {m : Nat} (h : SAt w0 m k x) (hT : Knd k.q T) (hb1 : Fr k.F w0 w1) (hz : y.c = x.c ∧ y.S = x.S ∧ y.wr = 0 ∧ y.rd = 0)
    (hg : ∀ a bb cc, k.q = some (a, bb, cc) → g ≠ cc) (hgl : g < w1.heap.size) (hok : y.fill.Ok)
    (hk : KAt w2 k.q y.c (y.S ++ y.R.take (min y.R.length (y.c - y.S.length)))) (hr : RestTo w2 k.q k.b 2 #[.iface T (kindA k.q), .bool y.busy, v, .int .i64 ((y.a + y.R.length : Nat) : Int), .int .i64 0, .int .i64 0] 94 (y.R.drop (min y.R.length (y.c - y.S.length))) g) (hf : Fr k.F w1 w2) : SAt w2 m (k.at g) y.fill := by
  have hn : y.n = min y.R.length (y.c - y.S.length) := by unfold St.n; rw [if_pos ⟨hz.2.2.1, hz.2.2.2⟩]
  have hfi : y.fill = { y with S := y.S ++ y.R.take y.n, R := y.R.drop y.n, a := y.a + y.n } := rfl
  obtain ⟨v', h1, h2⟩ := hr
  have hal := hb1.trans' hf
  rw [← hn] at hk h2
  refine ⟨hok, hal.same h.me h.mne, ⟨v', ?_, ?_⟩, ?_, hg, by have := hf.size; exact Nat.lt_of_lt_of_le hgl this⟩
  · rw [hfi]
    show w2.heap[k.b]? = some (.cells #[kindV k.q, _, _, _, _, _] _ _)
    rw [hT.val, h1]
    have e2 : y.a + y.n + (y.R.drop y.n).length = y.a + y.R.length := by rw [List.length_drop]; omega
    simp only [e2, hz.2.2.1, hz.2.2.2]
    rfl
  · rw [hfi]; exact h2
  · rw [hfi]; exact hk
set_option maxHeartbeats 6400000 in
theorem stBegin_any {c : Nat} {v : Value} {Ps : Parts} (h : SAt w m k x) (R : RopeAt w c v Ps) : Calls Try.prog 24 #[pt m, v] w fun e w' => e = .returned (.int .i64 (sBg x Ps.flatten).1) ∧ ∃ g, SAt w' m (k.at g) (sBg x Ps.flatten).2 ∧ (g = k.g ∨ w.heap.size ≤ g) ∧ Fr k.F w w' := by
  obtain ⟨y1, y2, y3, y4, y5, y6, rfl⟩ := R.shape
  obtain ⟨W, hW⟩ : ∃ W, W = w.alloc (.cells #[.slice y1 y2 y3, .slice y4 y5 y6] 52) := ⟨_, rfl⟩
  have hwb : Below w.heap.size w W := by rw [hW]; exact below_alloc _ _
  have hx := h.grown hwb
  have HB := Lib.hid hwb
  have HR := Lib.hid (R.grown hwb)
  have HSZ := Lib.hid R.size
  have HX := Lib.hid (sBg_ok (L := Ps.flatten) h.ok R.size)
  obtain ⟨T, va, vc, hT, hvc, h1, h2⟩ := hx.cl
  have q := cells_cell (o := 0) hx.me rfl
  have k1 := cells_cell (o := 1) h1 rfl
  have k4 := cells_cell (o := 4) h1 rfl
  have k5 := cells_cell (o := 5) h1 rfl
  have HBX : Hid (W.heap[w.heap.size]? = some (.cells #[.slice y1 y2 y3, .slice y4 y5 y6] 52 (0, 0))) := Lib.hid (by rw [hW]; exact heap_alloc_new w _)
  have hu := Lib.hid (stUsable_yes hx)
  have H := Lib.hid hx
  have H0 := Lib.hid h
  have HW := Lib.hid hW.symm
  have HSAME : Hid (∀ w', Below W.heap.size W w' → ∃ g, SAt w' m (k.at g) x ∧ (g = k.g ∨ w.heap.size ≤ g) ∧ Fr k.F w w') := Lib.hid (fun w' hb => ⟨k.g, h.grown (hwb.trans (hb.mono hwb.size)), .inl rfl, Fr.of_below (hwb.trans (hb.mono hwb.size)) _⟩)
  unfold sBg at *
  by_cases hwr : x.wr = 0
  · rw [if_neg (by simp [hwr])] at HX ⊢
    by_cases hrd : x.rd = 0
    · rw [if_neg (by simp [hrd])] at HX ⊢
      rw [hwr] at k5
      rw [hrd] at k4
      cases hb : x.busy with
      | true =>
        rw [if_pos rfl]
        rw [hb] at k1
        clear hW R h hx hwb h1 h2 hT hvc hwr hrd hb HX
        unfold pt at *
        go_enter Try.func24, Try.ntmps24
        go_wp2_with fail
        rw [HW.out]
        go_wp2_with (go_at_call 57; refine hu.out.mono ?_; rintro e w' ⟨rfl, rfl⟩)
        go_ret
        exact ⟨rfl, HSAME.out _ (Below.refl _ _)⟩
      | false =>
        rw [if_neg (by simp)]
        rw [hb, if_neg (by simp)] at HX
        rw [hb] at k1 h1
        have hbusy := h.ok.idle hb
        rw [hwr, hrd, hbusy.1, hbusy.2] at h1
        obtain ⟨z0, hz0⟩ : ∃ z : Value, z = .slice va x.R.length vc := ⟨_, rfl⟩
        obtain ⟨N, hN⟩ : ∃ N, N = Ps.flatten.length := ⟨_, rfl⟩
        have HN := Lib.hid hN
        have HWR := Lib.hid (And.intro hwr hrd)
        have HT := Lib.hid hT
        have HBUSY := Lib.hid hb
        have hlen := len_any HR.out
        rw [← hN] at hlen
        have HLEN := Lib.hid hlen
        have hfil := hT.fill
        obtain ⟨KA, hKA⟩ : ∃ v, v = kindA k.q := ⟨_, rfl⟩
        rw [← hKA] at h1 hfil
        obtain ⟨fF, hfF⟩ : ∃ f, f = fillF k.q := ⟨_, rfl⟩
        rw [← hfF] at hfil
        have HKA := Lib.hid hKA
        have HFF := Lib.hid hfF
        have H1 : Hid (∃ v, W.heap[k.b]? = some (.cells #[.iface T KA, .bool false, v, .int .i64 0, .int .i64 0, .int .i64 0] 94 (0, 0))) := Lib.hid ⟨_, by simpa using h1⟩
        clear hW R h hx hwb h1 h2 hT hvc hwr hrd hb hN hbusy hz0 hlen hKA hfF
        unfold pt at *
        go_enter Try.func24, Try.ntmps24
        go_wp2_with fail
        rw [HW.out]
        go_wp2_with (go_at_call 57; refine hu.out.mono ?_; rintro e w' ⟨rfl, rfl⟩)
        have HFIL := Lib.hid hfil
        clear hfil
        refine wp_region_mix (fun W' => W'.heap[w.heap.size]? = some (.cells #[.slice y1 y2 y3, .slice y4 y5 y6] 52 (0, 0))) 13 [(true, 0), (true, 1), (true, 2), (true, 3), (true, 5), (false, 4), (false, 6), (false, 7), (false, 8), (false, 9), (false, 10), (false, 11), (false, 12)] (by kernel_rfl) (by kernel_rfl) (fun _ _ _ d _ h => by cases d <;> exact h) ?_
        have HDR : Hid (Below w'.heap.size w' w'.drew) := Lib.hid ((Grn.refl w').drew 1).below
        have HS : Hid (w'.drew.heap[w.heap.size]? = some (.cells #[.slice y1 y2 y3, .slice y4 y5 y6] 52 (0, 0))) := Lib.hid ((HDR.out.block _ (lt_of_block HBX.out)).trans HBX.out)
        simp only [List.map_cons, List.map_nil, List.getD_cons_zero, List.getD_cons_succ, List.drop_succ_cons, List.drop_zero]
        generalize w'.drew = V at *
        refine mix_move (.tmp 5) (.pointer (some ⟨k.b, 0, none⟩)) rfl HS.out rfl rfl ?_
        simp only [Act.put, List.setIfInBounds_toArray, List.set_cons_zero, List.set_cons_succ]
        refine mix_move (.tmp 5) (.pointer (some ⟨k.b, 0, none⟩)) rfl HS.out rfl rfl ?_
        simp only [Act.put, List.setIfInBounds_toArray, List.set_cons_zero, List.set_cons_succ]
        refine mix_move (.tmp 5) (.pointer (some ⟨k.b, 0, none⟩)) rfl HS.out rfl rfl ?_
        simp only [Act.put, List.setIfInBounds_toArray, List.set_cons_zero, List.set_cons_succ]
        refine mix_take (.agg #[(.slice y1 y2 y3), (.slice y4 y5 y6)]) HS.out rfl (fun W' hS => by 
          have l0 := cells_cell (o := 0) hS rfl
          have l1 := cells_cell (o := 1) hS rfl
          go_simp) ?_
        simp only [Act.put, List.setIfInBounds_toArray, List.set_cons_zero, List.set_cons_succ]
        refine mix_take (.agg #[(.slice y1 y2 y3), (.slice y4 y5 y6)]) HS.out rfl (fun W' hS => by 
          have l0 := cells_cell (o := 0) hS rfl
          have l1 := cells_cell (o := 1) hS rfl
          go_simp) ?_
        simp only [Act.put, List.setIfInBounds_toArray, List.set_cons_zero, List.set_cons_succ]
        refine mix_step rfl (fun K5 hK => ?_)
        go_simp
        go_wp2_with (go_at_call 63; fail)
        refine (bytes_any (HR.out.grown HDR.out)).mono ?_
        rintro e w4 ⟨v4, rfl, hrow, hb4⟩
        have HROW := Lib.hid hrow
        have HB4 := Lib.hid hb4
        have HS4 : Hid (w4.heap[w.heap.size]? = some (.cells #[.slice y1 y2 y3, .slice y4 y5 y6] 52 (0, 0))) := Lib.hid ((hb4.block _ (lt_of_block HS.out)).trans HS.out)
        obtain ⟨ra, rn, rc, rfl⟩ := row_form hrow
        clear hrow hb4
        refine hK _ _ HS4.out ?_
        clear hK K5
        refine mix_step rfl (fun K6 hK => ?_)
        go_simp
        go_wp2_with (go_at_call 32; fail)
        refine (by have q := len_any (HR.out.grown (HDR.out.trans (HB4.out.mono HDR.out.size))); rw [← HN.out] at q; exact q : Calls _ _ _ _ _).mono ?_
        rintro e w5 ⟨rfl, hb5⟩
        have HB5 := Lib.hid hb5
        have HS5 : Hid (w5.heap[w.heap.size]? = some (.cells #[.slice y1 y2 y3, .slice y4 y5 y6] 52 (0, 0))) := Lib.hid ((hb5.block _ (lt_of_block HS4.out)).trans HS4.out)
        have HA5 : Hid (Below w.heap.size w w5) := Lib.hid (HB.out.trans (((HDR.out.trans (HB4.out.mono HDR.out.size)).trans (hb5.mono (by have := HDR.out.size; have := HB4.out.size; omega))).mono HB.out.size))
        have HWW5 : Hid (Below w'.heap.size w' w5) := Lib.hid ((HDR.out.trans (HB4.out.mono HDR.out.size)).trans (hb5.mono (by have := HDR.out.size; have := HB4.out.size; omega)))
        clear hb5
        refine hK _ _ HS5.out ?_
        clear hK K6
        obtain ⟨vz, hvz⟩ := H1.out
        have hbd5 := (HWW5.out.block _ (lt_of_block hvz)).trans hvz
        have HE5 := Lib.hid hbd5
        have z1 := cells_free hbd5 1
        have z2 := cells_free hbd5 2
        have z3 := cells_free hbd5 3
        have c1 := cells_cell (o := 1) hbd5 rfl
        have c2 := cells_cell (o := 2) hbd5 rfl
        have c3 := cells_cell (o := 3) hbd5 rfl
        have hl5 := lt_of_block hbd5
        have HNE : Hid (w.heap.size ≠ k.b) := Lib.hid (ne_types HS5.out hbd5 (by decide))
        clear hbd5 hvz
        refine mix_by (.pointer (some ⟨k.b, 0, none⟩)) rfl (by go_simp) HS5.out ?_
        simp only [Act.put, List.setIfInBounds_toArray, List.set_cons_zero, List.set_cons_succ]
        refine mix_by (.pointer (some ⟨k.b, 1, none⟩)) rfl (by go_simp) HS5.out ?_
        simp only [Act.put, List.setIfInBounds_toArray, List.set_cons_zero, List.set_cons_succ]
        refine mix_step rfl (fun K9 hK => ?_)
        go_simp
        have HS6 : Hid ((w5.setCell ⟨k.b, 1, none⟩ (.bool true)).heap[w.heap.size]? = some (.cells #[.slice y1 y2 y3, .slice y4 y5 y6] 52 (0, 0))) := Lib.hid ((fr_setCell w5 ⟨k.b, 1, none⟩ (.bool true)).same HS5.out (by simpa using HNE.out))
        refine hK _ _ HS6.out ?_
        clear hK K9
        try simp only [Act.put, List.setIfInBounds_toArray, List.set_cons_zero, List.set_cons_succ]
        refine mix_by (.pointer (some ⟨k.b, 0, none⟩)) rfl (by go_simp) HS6.out ?_
        simp only [Act.put, List.setIfInBounds_toArray, List.set_cons_zero, List.set_cons_succ]
        refine mix_by (.pointer (some ⟨k.b, 2, none⟩)) rfl (by go_simp) HS6.out ?_
        simp only [Act.put, List.setIfInBounds_toArray, List.set_cons_zero, List.set_cons_succ]
        refine mix_step rfl (fun K12 hK => ?_)
        go_simp
        have HS7 : Hid (((w5.setCell ⟨k.b, 1, none⟩ (.bool true)).setCell ⟨k.b, 2, none⟩ (.slice ra rn rc)).heap[w.heap.size]? = some (.cells #[.slice y1 y2 y3, .slice y4 y5 y6] 52 (0, 0))) := Lib.hid ((fr_setCell _ ⟨k.b, 2, none⟩ (.slice ra rn rc)).same HS6.out (by simpa using HNE.out))
        refine hK _ _ HS7.out ?_
        clear hK K12
        try simp only [Act.put, List.setIfInBounds_toArray, List.set_cons_zero, List.set_cons_succ]
        refine mix_nil ?_
        go_wp2_with fail
        have hf3 : Fr [k.b] w5 (((w5.setCell ⟨k.b, 1, none⟩ (.bool true)).setCell ⟨k.b, 2, none⟩ (.slice ra rn rc)).setCell ⟨k.b, 3, none⟩ (.int .i64 ((N : Nat) : Int))) := ((fr_setCell w5 ⟨k.b, 1, none⟩ _).trans' (fr_setCell _ ⟨k.b, 2, none⟩ _)).trans' (fr_setCell _ ⟨k.b, 3, none⟩ _)
        have e3 := cells_set (cells_set (cells_set HE5.out 1 (.bool true)) 2 (.slice ra rn rc)) 3 (.int .i64 ((N : Nat) : Int))
        obtain ⟨WF, hWF⟩ : ∃ WF, WF = ((w5.setCell ⟨k.b, 1, none⟩ (.bool true)).setCell ⟨k.b, 2, none⟩ (.slice ra rn rc)).setCell ⟨k.b, 3, none⟩ (.int .i64 ((N : Nat) : Int)) := ⟨_, rfl⟩
        rw [← hWF] at hf3 e3 ⊢
        clear hWF
        have HF3 := Lib.hid hf3
        have HE3 : Hid (WF.heap[k.b]? = some (.cells #[.iface T KA, .bool true, .slice ra rn rc, .int .i64 ((N : Nat) : Int), .int .i64 0, .int .i64 0] 94 (0, 0))) := Lib.hid (by simpa using e3)
        clear hf3 e3
        refine wp_region_mix (fun W' => W'.heap[k.b]? = some (.cells #[.iface T KA, .bool true, .slice ra rn rc, .int .i64 ((N : Nat) : Int), .int .i64 0, .int .i64 0] 94 (0, 0))) 9 [(true, 0), (true, 1), (true, 2), (true, 3), (true, 4), (true, 5), (true, 6), (true, 7), (true, 8)] (by kernel_rfl) (by kernel_rfl) (fun _ _ _ d _ h => by cases d <;> exact h) ?_
        have HD2 : Hid (Below WF.heap.size WF WF.drew) := Lib.hid ((Grn.refl WF).drew 1).below
        have HT2 : Hid (WF.drew.heap[k.b]? = some (.cells #[.iface T KA, .bool true, .slice ra rn rc, .int .i64 ((N : Nat) : Int), .int .i64 0, .int .i64 0] 94 (0, 0))) := Lib.hid ((HD2.out.block _ (lt_of_block HE3.out)).trans HE3.out)
        simp only [List.map_cons, List.map_nil, List.getD_cons_zero, List.getD_cons_succ, List.drop_succ_cons, List.drop_zero]
        generalize WF.drew = V2 at *
        refine mix_move (.tmp 5) (.pointer (some ⟨k.b, 0, none⟩)) rfl HT2.out rfl rfl ?_
        simp only [Act.put, List.setIfInBounds_toArray, List.set_cons_zero, List.set_cons_succ]
        refine mix_take (.pointer (some ⟨k.b, 0, none⟩)) HT2.out rfl (fun W' hS => by go_simp) ?_
        simp only [Act.put, List.setIfInBounds_toArray, List.set_cons_zero, List.set_cons_succ]
        refine mix_take (.pointer (some ⟨k.b, 0, none⟩)) HT2.out rfl (fun W' hS => by go_simp) ?_
        simp only [Act.put, List.setIfInBounds_toArray, List.set_cons_zero, List.set_cons_succ]
        refine mix_take (.iface T KA) HT2.out rfl (fun W' hS => by 
          have l0 := cells_cell (o := 0) hS rfl
          go_simp) ?_
        simp only [Act.put, List.setIfInBounds_toArray, List.set_cons_zero, List.set_cons_succ]
        refine mix_move (.tmp 5) (.pointer (some ⟨k.b, 0, none⟩)) rfl HT2.out rfl rfl ?_
        simp only [Act.put, List.setIfInBounds_toArray, List.set_cons_zero, List.set_cons_succ]
        refine mix_take (.pointer (some ⟨k.b, 0, none⟩)) HT2.out rfl (fun W' hS => by go_simp) ?_
        simp only [Act.put, List.setIfInBounds_toArray, List.set_cons_zero, List.set_cons_succ]
        refine mix_take (.pointer (some ⟨k.b, 2, none⟩)) HT2.out rfl (fun W' hS => by go_simp) ?_
        simp only [Act.put, List.setIfInBounds_toArray, List.set_cons_zero, List.set_cons_succ]
        refine mix_take (.iface T KA) HT2.out rfl (fun W' hS => by go_simp) ?_
        simp only [Act.put, List.setIfInBounds_toArray, List.set_cons_zero, List.set_cons_succ]
        refine mix_move (.tmp 53) (.iface T KA) rfl HT2.out rfl rfl ?_
        simp only [Act.put, List.setIfInBounds_toArray, List.set_cons_zero, List.set_cons_succ]
        refine mix_nil ?_
        obtain ⟨g, hpg, hgo⟩ := RowB.pieceG HROW.out k.g
        have hsV := HDR.out.size
        have hsV4 := HB4.out.size
        have hsw := HB.out.size
        have hsw5 := HA5.out.size
        have hsB5 := HB5.out.size
        have hs3 := HF3.out.size
        have hsD2 := HD2.out.size
        have hss := (HWW5.out).size
        have hgl := H0.out.gl
        have hgq : ∀ a bb cc, k.q = some (a, bb, cc) → g ≠ cc := fun a bb cc hq => by
          rcases hgo with hgo | hgo
          · rw [hgo]; exact H0.out.gq a bb cc hq
          · have := H0.out.kd.lt cc (by rw [hq]; simp [kO])
            omega
        have hbk : k.b ∉ kO k.q := H.out.kd.ne (show w'.heap[k.b]? = _ from (H.out.ex).choose_spec.1) (by decide) (by decide) (by decide)
        have hkV : KAt V2 k.q x.c x.S := ((H0.out.kd.fr (Fr.of_below HA5.out []) (by simp)).fr HF3.out (fun j hj hm => hbk (by rw [List.mem_singleton.1 hm] at hj; exact hj))).fr (Fr.of_below HD2.out []) (by simp)
        have hp5 : PieceG w5 (.slice ra rn rc) Ps.flatten g := hpg.grown HB5.out
        have hpF : PieceG WF (.slice ra rn rc) Ps.flatten g := hp5.off HF3.out (by
          rcases hp5 with hh | ⟨_, _, _, _, _, _, h3, _⟩
          · exact .inl hh
          · exact .inr (by simpa using ne_types h3 HE5.out (by decide)))
        have hpV := hpF.grown HD2.out
        have hra : RestAt V2 k.q k.b 2 #[.iface T (kindA k.q), .bool true, .slice ra rn rc, .int .i64 ((N : Nat) : Int), .int .i64 0, .int .i64 0] 94 (.slice ra rn rc) Ps.flatten g := ⟨by rw [← HKA.out]; exact HT2.out, rfl, hpV, hgq, by decide, by decide, by decide⟩
        have hfl := fill_any hkV hra HSZ.out
        rw [← HKA.out, ← HFF.out] at hfl
        have hfr1 : Fr k.F w V2 := ((Fr.of_below HA5.out k.F).trans' (HF3.out.mono (SAt.F_b k))).trans' (Fr.of_below HD2.out _)
        have hglt : g < V2.heap.size := by rcases hgo with hgo | hgo <;> omega
        have HFL := Lib.hid hfl
        have HFR1 := Lib.hid hfr1
        have HGQ := Lib.hid hgq
        have HGL := Lib.hid hglt
        have HGO : Hid (g = k.g ∨ w.heap.size ≤ g) := Lib.hid (hgo.imp id (fun q => by omega))
        clear hpg hgo hsV hsV4 hsw hsw5 hsB5 hs3 hsD2 hss hgl hgq hbk hkV hp5 hpF hpV hra hfl hfr1 hglt z1 z2 z3 c1 c2 c3 hl5
        have hfil := HFIL.out
        go_wp2_with (refine wpList_invoke rfl (.tmp 58) "aqueduct/stream.fill" #[.tmp 56] #[96] rfl (.iface T KA) [.pointer (some ⟨k.b, 2, none⟩)] rfl rfl fF #[KA, .pointer (some ⟨k.b, 2, none⟩)] (hfil _ _) ?_; refine Hid.out ?_)
        refine Lib.hid (HFL.out.mono ?_)
        rintro e w9 ⟨rfl, hk9, hr9, hf9⟩
        have HK9 := Lib.hid hk9
        have HR9 := Lib.hid hr9
        have HF9 := Lib.hid hf9
        clear hk9 hr9 hf9
        refine ⟨_, rfl, ?_⟩
        go_wp2_with fail
        go_ret
        have hF9 : Fr k.F V2 w9 := by rw [Sb.F_eq]; exact HF9.out
        refine ⟨rfl, g, SAt.filled (w1 := V2) (v := .slice ra rn rc) H0.out HT.out HFR1.out (y := { x with busy := true, R := Ps.flatten, a := 0 }) ⟨rfl, rfl, HWR.out.1, HWR.out.2⟩ HGQ.out HGL.out HX.out HK9.out ?_ hF9, HGO.out, HFR1.out.trans' hF9⟩
        have hr := HR9.out
        rw [HKA.out, HN.out] at hr
        show RestTo w9 k.q k.b 2 #[.iface T (kindA k.q), .bool true, _, .int .i64 ((0 + Ps.flatten.length : Nat) : Int), .int .i64 0, .int .i64 0] 94 _ g
        rw [Nat.zero_add]
        exact hr
    · rw [if_pos hrd] at HX ⊢
      rw [hwr] at k5
      obtain ⟨r, hr⟩ : ∃ r, r = x.rd := ⟨_, rfl⟩
      rw [← hr] at k4 hrd ⊢
      have q1 : (r != 0) = true := by simp [hrd]
      clear hW R h hx hwb h1 h2 hT hvc hwr hrd hr HX
      unfold pt at *
      go_enter Try.func24, Try.ntmps24
      go_wp2_with fail
      rw [HW.out]
      go_wp2_with (go_at_call 57; refine hu.out.mono ?_; rintro e w' ⟨rfl, rfl⟩)
      go_ret
      exact ⟨rfl, HSAME.out _ (Below.refl _ _)⟩
  · rw [if_pos hwr] at HX ⊢
    obtain ⟨s, hs⟩ : ∃ s, s = x.wr := ⟨_, rfl⟩
    rw [← hs] at k5 hwr
    have q1 : (s != 0) = true := by simp [hwr]
    clear hW R h hx hwb h1 h2 hT hvc hwr hs HX
    unfold pt at *
    go_enter Try.func24, Try.ntmps24
    go_wp2_with fail
    rw [HW.out]
    go_wp2_with (go_at_call 57; refine hu.out.mono ?_; rintro e w' ⟨rfl, rfl⟩)
    go_ret
    exact ⟨rfl, HSAME.out _ (Below.refl _ _)⟩
theorem stRead_no {u : Value} (h : NoS w u) (n : Int) : Calls Try.prog 23 #[u, .int .i64 n] w fun e w' => e = .returned (.tuple #[.slice none 0 0, .int .i64 1]) ∧ w' = w := by
  have hu := Lib.hid (stUsable_no h)
  obtain ⟨a, rfl⟩ : ∃ a, u = .pointer a := by rcases h with h | ⟨q, h, _⟩ <;> exact ⟨_, h⟩
  clear h
  go_enter Try.func23, Try.ntmps23
  go_wp2_with (go_at_call 57; refine hu.out.mono ?_; rintro e w' ⟨rfl, rfl⟩)
  go_ret2
  exact ⟨rfl, rfl⟩
set_option maxHeartbeats 1600000 in
theorem or2_any (B cap : Nat) (x y : Int) (w : World) (c0 : w.cell? ⟨B, 0, none⟩ = some (.int .i64 x)) (c1 : w.cell? ⟨B, 1, none⟩ = some (.int .i64 y)) :
    Calls Try.prog 62 #[.slice (some ⟨B, 0, none⟩) 2 cap] w fun e w' => e = .returned (.int .i64 (orI x y)) ∧ w' = w := by
  go_enter Try.func62, Try.ntmps62
  go_wp2_with fail
  go_loop [8] (fun i => ∃ k : Nat, k ≤ 2 ∧ (0 < k → x = 0) ∧ (1 < k → y = 0) ∧ i = .int .i64 k) (fun i => 2 - (intOf i).toNat)
  case atStart => exact ⟨0, by omega, by omega, by omega, rfl⟩
  case round =>
    obtain ⟨k, hk, hx, hy, rfl⟩ := hrel
    rcases (by omega : k = 0 ∨ k = 1 ∨ k = 2) with rfl | rfl | rfl
    · clear hx hy
      by_cases h : x = 0
      · subst h
        go_wp2_with fail
        go_round
        case rel => exact ⟨1, by omega, by simp, by omega, by go_num⟩
        case measure => simp [intOf]
      · have q : (x != 0) = true := by simp [h]
        have he := Lib.hid (show orI x y = x by unfold orI; rw [if_neg h])
        clear h
        go_wp2_with fail
        go_ret
        exact ⟨by rw [he.out]; rfl, rfl⟩
    · obtain rfl := hx (by omega)
      clear hx hy
      by_cases h : y = 0
      · subst h
        go_wp2_with fail
        go_round
        case rel => exact ⟨2, by omega, by simp, by simp, by go_num⟩
        case measure => simp [intOf]
      · have q : (y != 0) = true := by simp [h]
        have he := Lib.hid (show orI 0 y = y by unfold orI; rw [if_pos rfl])
        clear h
        go_wp2_with fail
        go_ret
        exact ⟨by rw [he.out]; rfl, rfl⟩
    · obtain rfl := hx (by omega)
      obtain rfl := hy (by omega)
      go_wp2_with fail
      go_ret
      exact ⟨rfl, rfl⟩
/-- A stream whose rest and buffer have changed. -/
theorem SAt.to {w' : World} {y : St} {T : TypeId} {v : Value} (h : SAt w m k x) (hT : Knd k.q T) (hf : Fr k.F w w') (ok : y.Ok) (hz : y.busy = x.busy ∧ y.wr = x.wr ∧ y.rd = x.rd ∧ y.a + y.R.length = x.a + x.R.length)
    (hk : KAt w' k.q y.c y.S) (hr : RestTo w' k.q k.b 2 #[.iface T (kindA k.q), .bool x.busy, v, .int .i64 ((x.a + x.R.length : Nat) : Int), .int .i64 x.rd, .int .i64 x.wr] 94 y.R k.g) : SAt w' m k y := by
  obtain ⟨v', h1, h2⟩ := hr
  refine ⟨ok, hf.same h.me h.mne, ⟨v', ?_, h2⟩, hk, h.gq, by have := h.gl; have := hf.size; omega⟩
  rw [hT.val, hz.1, hz.2.1, hz.2.2.1, hz.2.2.2]
  exact h1
theorem St.left_same {x : St} (h : x.Ok) (hw : x.wr = 0) (hr : x.rd = 0) {n : Nat} (hn : 0 < n) (ht : x.take n = []) : x.left n = x := by
  unfold St.take at ht
  unfold St.left
  by_cases hc : x.c = 0
  · rw [if_pos hc]
    rw [if_pos hc, if_pos hw] at ht
    have hR : x.R = [] := by
      cases hq : x.R with
      | nil => rfl
      | cons a l =>
        obtain ⟨n', rfl⟩ : ∃ n', n = n' + 1 := ⟨n - 1, by omega⟩
        rw [hq] at ht
        simp at ht
    cases x
    simp_all
  · rw [if_neg hc]
    rw [if_neg hc] at ht
    have hS : x.S = [] := by
      cases hq : x.S with
      | nil => rfl
      | cons a l =>
        obtain ⟨n', rfl⟩ : ∃ n', n = n' + 1 := ⟨n - 1, by omega⟩
        rw [hq] at ht
        simp at ht
    have hR : x.R = [] := by
      cases hb : x.busy with
      | false => exact (h.idle hb).1
      | true =>
        apply Classical.byContradiction
        intro hne
        have := h.full hb hw hr hne
        rw [hS] at this
        exact hc this.symm
    have he : ({ x with S := x.S.drop n } : St) = x := by cases x; simp_all
    rw [he]
    exact St.fill_same (by unfold St.n; rw [hR]; simp)
theorem St.left_open {x : St} (h : x.Ok) (hw : x.wr = 0) (hr : x.rd = 0) (n : Nat) : (x.left n).S = kS x.c x.S x.R n ∧ (x.left n).R = kL x.c x.S x.R n ∧ (x.left n).a + (x.left n).R.length = x.a + x.R.length ∧ (x.left n).wr = x.wr ∧ (x.left n).rd = x.rd ∧ (x.left n).busy = x.busy ∧ (x.left n).c = x.c := by
  unfold St.left kS kL
  by_cases hc : x.c = 0
  · rw [if_pos hc, if_pos hc, if_pos hc]
    refine ⟨List.eq_nil_of_length_eq_zero (by have := h.le; show x.S.length = 0; omega), rfl, ?_, rfl, rfl, rfl, rfl⟩
    simp only [List.length_take, List.length_drop]; omega
  · rw [if_neg hc, if_neg hc, if_neg hc]
    have hn : St.n { x with S := x.S.drop n } = min x.R.length (x.c - (x.S.drop n).length) := by unfold St.n; rw [if_pos ⟨hw, hr⟩]
    unfold St.fill
    rw [hn]
    refine ⟨rfl, rfl, ?_, rfl, rfl, rfl, rfl⟩
    simp only [List.length_drop]; omega
theorem SAt.gF {v : Value} {L : List UInt8} (h : SAt w m k x) (hp : PieceG w v L k.g) : v = .slice none 0 0 ∧ L = [] ∨ k.g ∉ k.F := by
  rcases hp with hh | ⟨_, _, cur, _, _, _, h3, _⟩
  · exact .inl hh
  · obtain ⟨u, h1, _⟩ := h.ex
    refine .inr fun hm => ?_
    rw [Sb.F_eq] at hm
    rcases List.mem_cons.1 hm with hm | hm
    · exact ne_types h3 h1 (by decide) hm
    · have := h.gq
      have hkd := h.kd
      generalize k.q = q at *
      match q, hm with
      | some (a, bb, cc), hm =>
        simp only [kF, List.mem_cons, List.not_mem_nil, or_false] at hm
        rcases hm with hm | hm
        · exact absurd hm (by
            obtain ⟨cp, f, xs, R⟩ := hkd.2.2
            exact ne_types h3 R.tb (by decide))
        · exact this _ _ _ rfl hm
theorem stRead_plain (h : SAt w m k x) (n : Int) (hn : n < 0 ∨ 65536 < n ∨ x.rd ≠ 0 ∨ n = 0) : Calls Try.prog 23 #[pt m, .int .i64 n] w fun e w' => e = .returned (.tuple #[.slice none 0 0, .int .i64 (sRd x n).2.1]) ∧ w' = w ∧ (sRd x n).1 = [] ∧ (sRd x n).2.2 = x := by
  obtain ⟨T, va, vc, hT, hvc, h1, h2⟩ := h.cl
  have k0 := cells_cell (o := 0) h.me rfl
  have k4 := cells_cell (o := 4) h1 rfl
  have hu := Lib.hid (stUsable_yes h)
  unfold sRd
  by_cases n0 : n < 0
  · rw [if_pos (.inl n0)]
    have q0 : decide (n < 0) = true := by simp [n0]
    clear h h1 h2 hT hvc n0 hn
    unfold pt at *
    go_enter Try.func23, Try.ntmps23
    go_wp2_with (go_at_call 57; refine hu.out.mono ?_; rintro e w' ⟨rfl, rfl⟩)
    go_ret2
    exact ⟨rfl, by simp⟩
  · have q0 : decide (n < 0) = false := by simp; omega
    by_cases n1 : 65536 < n
    · rw [if_pos (.inr n1)]
      have q1 : decide (65536 < n) = true := by simp [n1]
      clear h h1 h2 hT hvc n0 hn
      unfold pt at *
      go_enter Try.func23, Try.ntmps23
      go_wp2_with (go_at_call 57; refine hu.out.mono ?_; rintro e w' ⟨rfl, rfl⟩)
      go_ret2
      exact ⟨rfl, by simp⟩
    · have q1 : decide (65536 < n) = false := by simp; omega
      rw [if_neg (by omega)]
      by_cases hr : x.rd = 0
      · have n2 : n = 0 := by
          rcases hn with hn | hn | hn | hn
          · exact absurd hn n0
          · exact absurd hn n1
          · exact absurd hr hn
          · exact hn
        subst n2
        rw [if_neg (by simp [hr]), if_pos rfl]
        rw [hr] at k4
        clear h h1 h2 hT hvc n0 n1 hn hr q0 q1
        unfold pt at *
        go_enter Try.func23, Try.ntmps23
        go_wp2_with (go_at_call 57; refine hu.out.mono ?_; rintro e w' ⟨rfl, rfl⟩)
        go_ret2
        exact ⟨rfl, by simp⟩
      · rw [if_pos hr]
        obtain ⟨z, hz⟩ : ∃ z, z = x.rd := ⟨_, rfl⟩
        rw [← hz] at k4 hr
        have q2 : (z != 0) = true := by simp [hr]
        clear h h1 h2 hT hvc n0 n1 hn hr hz
        unfold pt at *
        go_enter Try.func23, Try.ntmps23
        go_wp2_with (go_at_call 57; refine hu.out.mono ?_; rintro e w' ⟨rfl, rfl⟩)
        go_ret2
        exact ⟨rfl, by simp⟩
set_option maxHeartbeats 6400000 in
theorem stRead_open (h : SAt w m k x) (n : Int) (hn : 0 < n ∧ n ≤ 65536) (hrd : x.rd = 0) (hwr : x.wr = 0) : Calls Try.prog 23 #[pt m, .int .i64 n] w fun e w' => ∃ v, e = .returned (.tuple #[v, .int .i64 (sRd x n).2.1]) ∧ RowB w' w.heap.size v (sRd x n).1 ∧ SAt w' m k (sRd x n).2.2 ∧ Fr k.F w w' := by
  obtain ⟨T, va, vc, hT, hvc, h1, h2⟩ := h.cl
  have k0 := cells_cell (o := 0) h.me rfl
  have k4 := cells_cell (o := 4) h1 rfl
  rw [hrd] at k4
  have q0 : decide (n < 0) = false := by simp; omega
  have q1 : decide (65536 < n) = false := by simp; omega
  have q2 : (n == 0) = false := by simp; omega
  have hu := Lib.hid (stUsable_yes h)
  have H := Lib.hid h
  have H1 := Lib.hid h1
  have H2 := Lib.hid h2
  have HT := Lib.hid hT
  have HN := Lib.hid hn
  have HRD := Lib.hid hrd
  have HWR := Lib.hid hwr
  have htk := hT.take
  obtain ⟨KA, hKA⟩ : ∃ v, v = kindA k.q := ⟨_, rfl⟩
  rw [← hKA] at htk
  obtain ⟨fT, hfT⟩ : ∃ f, f = takeF k.q := ⟨_, rfl⟩
  rw [← hfT] at htk
  have HKA := Lib.hid hKA
  have HFT := Lib.hid hfT
  have HTK := Lib.hid htk
  have HC0 : Hid (w.cell? ⟨k.b, 0, none⟩ = some (.iface T KA)) := Lib.hid (by rw [hKA]; exact cells_cell (o := 0) h1 rfl)
  unfold sRd
  rw [if_neg (by omega), if_neg (by simp [hrd]), if_neg (by omega)]
  obtain ⟨P, E, Y, hP⟩ : ∃ P E Y, (if x.take n.toNat = [] then (([] : List UInt8), (if x.wr = 0 then (16 : Int) else x.wr), x) else (x.take n.toNat, 0, x.left n.toNat)) = (P, E, Y) := ⟨_, _, _, rfl⟩
  rw [hP]
  have HP := Lib.hid hP
  clear h h1 h2 hT hvc hn hrd hwr hKA hfT htk hP
  unfold pt at *
  go_enter Try.func23, Try.ntmps23
  go_wp2_with (go_at_call 57; refine hu.out.mono ?_; rintro e w' ⟨rfl, rfl⟩)
  refine wp_region_mix (fun W' => W'.cell? ⟨k.b, 0, none⟩ = some (.iface T KA)) 10 [(true, 0), (true, 1), (true, 2), (true, 3), (true, 4), (true, 5), (true, 7), (true, 8), (false, 6), (false, 9)] (by kernel_rfl) (by kernel_rfl) (fun _ _ _ d _ h => by cases d <;> exact h) ?_
  have HDR : Hid (Below w'.heap.size w' w'.drew) := Lib.hid ((Grn.refl w').drew 1).below
  have HS : Hid (w'.drew.cell? ⟨k.b, 0, none⟩ = some (.iface T KA)) := Lib.hid (below_cells HDR.out _ _ HC0.out)
  simp only [List.map_cons, List.map_nil, List.getD_cons_zero, List.getD_cons_succ, List.drop_succ_cons, List.drop_zero]
  generalize w'.drew = V at *
  refine mix_move (.tmp 6) (.pointer (some ⟨k.b, 0, none⟩)) rfl HS.out rfl rfl ?_
  simp only [Act.put, List.setIfInBounds_toArray, List.set_cons_zero, List.set_cons_succ]
  refine mix_take (.pointer (some ⟨k.b, 0, none⟩)) HS.out rfl (fun W' hS => by go_simp) ?_
  simp only [Act.put, List.setIfInBounds_toArray, List.set_cons_zero, List.set_cons_succ]
  refine mix_take (.pointer (some ⟨k.b, 0, none⟩)) HS.out rfl (fun W' hS => by go_simp) ?_
  simp only [Act.put, List.setIfInBounds_toArray, List.set_cons_zero, List.set_cons_succ]
  refine mix_take (.iface T KA) HS.out rfl (fun W' hS => by have l0 := hS; go_simp) ?_
  simp only [Act.put, List.setIfInBounds_toArray, List.set_cons_zero, List.set_cons_succ]
  refine mix_move (.tmp 1) (.int .i64 n) rfl HS.out rfl rfl ?_
  simp only [Act.put, List.setIfInBounds_toArray, List.set_cons_zero, List.set_cons_succ]
  refine mix_move (.tmp 6) (.pointer (some ⟨k.b, 0, none⟩)) rfl HS.out rfl rfl ?_
  simp only [Act.put, List.setIfInBounds_toArray, List.set_cons_zero, List.set_cons_succ]
  refine mix_take (.iface T KA) HS.out rfl (fun W' hS => by go_simp) ?_
  simp only [Act.put, List.setIfInBounds_toArray, List.set_cons_zero, List.set_cons_succ]
  refine mix_move (.tmp 37) (.iface T KA) rfl HS.out rfl rfl ?_
  simp only [Act.put, List.setIfInBounds_toArray, List.set_cons_zero, List.set_cons_succ]
  refine mix_step rfl (fun K6 hK => ?_)
  go_simp
  have hsV := H.out.grown HDR.out
  have hac := stAcceptable_open hsV (by unfold St.op; rw [HWR.out, HRD.out]; rfl)
  have HAC := Lib.hid hac
  have HSV := Lib.hid hsV
  clear hac hsV
  unfold pt at HAC
  go_wp2_with (go_at_call 61; fail)
  refine HAC.out.mono ?_
  rintro e w5 ⟨rfl, hw5⟩
  subst hw5
  refine hK _ _ HS.out ?_
  clear hK K6
  have hbd := (HDR.out.block _ (lt_of_block H1.out)).trans H1.out
  have hra : RestAt w5 k.q k.b 2 #[.iface T (kindA k.q), .bool x.busy, .slice va x.R.length vc, .int .i64 ((x.a + x.R.length : Nat) : Int), .int .i64 x.rd, .int .i64 x.wr] 94 (.slice va x.R.length vc) x.R k.g := ⟨hbd, rfl, H2.out.grown HDR.out, H.out.gq, by decide, by decide, by decide⟩
  have hta := take_any (n := n) HSV.out.kd hra (by have := H.out.ok.small; omega) (by have := HN.out; omega)
  rw [← HKA.out, ← HFT.out] at hta
  have HTA := Lib.hid hta
  clear hbd hra hta
  refine mix_step rfl (fun K9 hK => ?_)
  refine opwp_invoke (.tmp 42) "aqueduct/stream.take" #[.tmp 38, .tmp 40] #[3, 96] rfl (.iface T KA) [.int .i64 n, .pointer (some ⟨k.b, 2, none⟩)] rfl rfl fT #[KA, .int .i64 n, .pointer (some ⟨k.b, 2, none⟩)] (HTK.out _ _ _) ?_
  refine HTA.out.mono ?_
  rintro e w9 ⟨v9, rfl, hrow, hk9, hr9, hf9⟩
  rw [HKA.out] at hr9
  have hF9 : Fr k.F w5 w9 := by rw [Sb.F_eq]; exact hf9
  have hst : SAt w9 m k (x.left n.toNat) := by
    obtain ⟨q1, q2, q3, q4, q5, q6, q7⟩ := St.left_open H.out.ok HWR.out HRD.out n.toNat
    exact HSV.out.to HT.out hF9 (St.left_ok H.out.ok _) ⟨q6, q4, q5, q3⟩ (by rw [q7, q1]; exact hk9) (by rw [q2]; exact hr9)
  have htl : kT x.c x.S x.R n.toNat = x.take n.toNat := by unfold kT St.take; rw [if_pos HWR.out]
  rw [htl] at hrow
  have hcell : w9.cell? ⟨k.b, 0, none⟩ = some (.iface T KA) := by
    obtain ⟨v', e1, _⟩ := hr9
    rw [HKA.out]
    exact cells_cell e1 (by simp)
  have hwr9 : w9.cell? ⟨k.b, 5, none⟩ = some (.int .i64 x.wr) := by
    obtain ⟨v', e1, _⟩ := hr9
    exact cells_cell e1 (by simp)
  have HFR : Hid (Fr k.F w' w9) := Lib.hid ((Fr.of_below HDR.out k.F).trans' hF9)
  have HSTE : Hid (x.take n.toNat = [] → SAt w9 m k x) := Lib.hid (fun ht => by have := St.left_same H.out.ok HWR.out HRD.out (by have := HN.out; omega) ht; rw [this] at hst; exact hst)
  have HST : Hid (x.take n.toNat ≠ [] → SAt w9 m k (x.left n.toNat)) := Lib.hid (fun _ => hst)
  obtain ⟨ra, rn, rc, rfl⟩ : ∃ a n c, v9 = .slice a n c := by
    obtain ⟨a, c, e, _⟩ := hrow.form
    exact ⟨_, _, _, e⟩
  have hlen : rn = (x.take n.toNat).length := by
    obtain ⟨a, c, e, _⟩ := hrow.form
    simp only [Value.slice.injEq] at e
    exact e.2.1
  have HROW : Hid (RowB w9 w'.heap.size (.slice ra rn rc) (x.take n.toNat)) := Lib.hid (RowV.lower hrow (by have := HDR.out.size; omega))
  have HLEN := Lib.hid hlen
  clear hrow hk9 hr9 hf9 hF9
  refine ⟨_, rfl, hK _ _ hcell ?_⟩
  clear hK K9 hcell
  refine mix_nil ?_
  by_cases hz : x.take n.toNat = []
  · have h0 : rn = 0 := by rw [hlen, hz]; rfl
    have HZ := Lib.hid hz
    have hp := HP.out
    rw [if_pos hz] at hp
    have HPP := Lib.hid hp
    clear hp
    subst h0
    obtain ⟨zw, hzw⟩ : ∃ z, z = x.wr := ⟨_, rfl⟩
    have HZW := Lib.hid hzw
    rw [← hzw] at hwr9
    clear hz hlen hzw htl hst
    go_wp2_with (go_at_call 62; fail)
    refine Calls.mono (or2_any _ _ zw 16 _ ?c0 ?c1) ?_
    case c0 => exact cell_new _ _ _ _ _ _ (by simp) rfl
    case c1 => exact cell_new _ _ _ _ _ _ (by simp) rfl
    rintro e w10 ⟨rfl, hw10⟩
    have HB10 : Hid (Below w9.heap.size w9 w10) := Lib.hid (by rw [hw10]; exact below_alloc _ _)
    clear hw10
    go_wp2_with fail
    go_ret2
    have hp := HPP.out
    simp only [Prod.mk.injEq] at hp
    obtain ⟨rfl, rfl, rfl⟩ := hp
    refine ⟨_, ?_, World.ownsRow_nil _ _ _ _, (HSTE.out HZ.out).grown HB10.out, HFR.out.trans' (Fr.of_below HB10.out _)⟩
    rw [HZW.out]
    rfl
  · have hp := HP.out
    have HNZ : Hid (x.take n.toNat ≠ []) := Lib.hid hz
    rw [if_neg hz] at hp
    have HPP := Lib.hid hp
    clear hp
    have h0 : ((rn : Int) == 0) = false := by
      have : rn ≠ 0 := by rw [hlen]; exact fun q => hz (List.eq_nil_of_length_eq_zero q)
      simp; omega
    clear hz hlen htl hwr9 hst
    go_wp2_with fail
    go_ret2
    have hp := HPP.out
    simp only [Prod.mk.injEq] at hp
    obtain ⟨rfl, rfl, rfl⟩ := hp
    exact ⟨_, rfl, HROW.out, HST.out HNZ.out, HFR.out⟩
set_option maxHeartbeats 6400000 in
theorem stRead_shut (h : SAt w m k x) (n : Int) (hn : 0 < n ∧ n ≤ 65536) (hrd : x.rd = 0) (hwr : x.wr ≠ 0) : Calls Try.prog 23 #[pt m, .int .i64 n] w fun e w' => ∃ v, e = .returned (.tuple #[v, .int .i64 (sRd x n).2.1]) ∧ RowB w' w.heap.size v (sRd x n).1 ∧ SAt w' m k (sRd x n).2.2 ∧ Fr k.F w w' := by
  obtain ⟨T, va, vc, hT, hvc, h1, h2⟩ := h.cl
  have k0 := cells_cell (o := 0) h.me rfl
  have k4 := cells_cell (o := 4) h1 rfl
  rw [hrd] at k4
  have q0 : decide (n < 0) = false := by simp; omega
  have q1 : decide (65536 < n) = false := by simp; omega
  have q2 : (n == 0) = false := by simp; omega
  have hu := Lib.hid (stUsable_yes h)
  have H := Lib.hid h
  have H1 := Lib.hid h1
  have H2 := Lib.hid h2
  have HT := Lib.hid hT
  have HN := Lib.hid hn
  have HRD := Lib.hid hrd
  have HWR := Lib.hid hwr
  have htk := hT.take
  obtain ⟨KA, hKA⟩ : ∃ v, v = kindA k.q := ⟨_, rfl⟩
  rw [← hKA] at htk
  obtain ⟨fT, hfT⟩ : ∃ f, f = takeF k.q := ⟨_, rfl⟩
  rw [← hfT] at htk
  have HKA := Lib.hid hKA
  have HFT := Lib.hid hfT
  have HTK := Lib.hid htk
  have HC0 : Hid (w.cell? ⟨k.b, 0, none⟩ = some (.iface T KA)) := Lib.hid (by rw [hKA]; exact cells_cell (o := 0) h1 rfl)
  unfold sRd
  rw [if_neg (by omega), if_neg (by simp [hrd]), if_neg (by omega)]
  obtain ⟨P, E, Y, hP⟩ : ∃ P E Y, (if x.take n.toNat = [] then (([] : List UInt8), (if x.wr = 0 then (16 : Int) else x.wr), x) else (x.take n.toNat, 0, x.left n.toNat)) = (P, E, Y) := ⟨_, _, _, rfl⟩
  rw [hP]
  have HP := Lib.hid hP
  clear h h1 h2 hT hvc hn hrd hwr hKA hfT htk hP
  unfold pt at *
  go_enter Try.func23, Try.ntmps23
  go_wp2_with (go_at_call 57; refine hu.out.mono ?_; rintro e w' ⟨rfl, rfl⟩)
  refine wp_region_mix (fun W' => W'.cell? ⟨k.b, 0, none⟩ = some (.iface T KA)) 10 [(true, 0), (true, 1), (true, 2), (true, 3), (true, 4), (true, 5), (true, 7), (true, 8), (false, 6), (false, 9)] (by kernel_rfl) (by kernel_rfl) (fun _ _ _ d _ h => by cases d <;> exact h) ?_
  have HDR : Hid (Below w'.heap.size w' w'.drew) := Lib.hid ((Grn.refl w').drew 1).below
  have HS : Hid (w'.drew.cell? ⟨k.b, 0, none⟩ = some (.iface T KA)) := Lib.hid (below_cells HDR.out _ _ HC0.out)
  simp only [List.map_cons, List.map_nil, List.getD_cons_zero, List.getD_cons_succ, List.drop_succ_cons, List.drop_zero]
  generalize w'.drew = V at *
  refine mix_move (.tmp 6) (.pointer (some ⟨k.b, 0, none⟩)) rfl HS.out rfl rfl ?_
  simp only [Act.put, List.setIfInBounds_toArray, List.set_cons_zero, List.set_cons_succ]
  refine mix_take (.pointer (some ⟨k.b, 0, none⟩)) HS.out rfl (fun W' hS => by go_simp) ?_
  simp only [Act.put, List.setIfInBounds_toArray, List.set_cons_zero, List.set_cons_succ]
  refine mix_take (.pointer (some ⟨k.b, 0, none⟩)) HS.out rfl (fun W' hS => by go_simp) ?_
  simp only [Act.put, List.setIfInBounds_toArray, List.set_cons_zero, List.set_cons_succ]
  refine mix_take (.iface T KA) HS.out rfl (fun W' hS => by have l0 := hS; go_simp) ?_
  simp only [Act.put, List.setIfInBounds_toArray, List.set_cons_zero, List.set_cons_succ]
  refine mix_move (.tmp 1) (.int .i64 n) rfl HS.out rfl rfl ?_
  simp only [Act.put, List.setIfInBounds_toArray, List.set_cons_zero, List.set_cons_succ]
  refine mix_move (.tmp 6) (.pointer (some ⟨k.b, 0, none⟩)) rfl HS.out rfl rfl ?_
  simp only [Act.put, List.setIfInBounds_toArray, List.set_cons_zero, List.set_cons_succ]
  refine mix_take (.iface T KA) HS.out rfl (fun W' hS => by go_simp) ?_
  simp only [Act.put, List.setIfInBounds_toArray, List.set_cons_zero, List.set_cons_succ]
  refine mix_move (.tmp 37) (.iface T KA) rfl HS.out rfl rfl ?_
  simp only [Act.put, List.setIfInBounds_toArray, List.set_cons_zero, List.set_cons_succ]
  refine mix_step rfl (fun K6 hK => ?_)
  go_simp
  have hsV := H.out.grown HDR.out
  have hac := stAcceptable_shut hsV (by unfold St.op; simp [HWR.out])
  have HAC := Lib.hid hac
  have HSV := Lib.hid hsV
  clear hac hsV
  unfold pt at HAC
  go_wp2_with (go_at_call 61; fail)
  refine HAC.out.mono ?_
  rintro e w5 ⟨rfl, hw5⟩
  have hb5 : Below V.heap.size V w5 := by rw [hw5]; exact below_alloc _ _
  have hnew : w5.heap[V.heap.size]? = some (.cells #[.slice none 0 0] 92 (0, 0)) := by rw [hw5]; exact heap_alloc_new V _
  have hs5 := HSV.out.grown hb5
  have HS5 : Hid (w5.cell? ⟨k.b, 0, none⟩ = some (.iface T KA)) := Lib.hid (below_cells hb5 _ _ HS.out)
  refine hK _ _ HS5.out ?_
  clear hK K6
  have hra : RestAt w5 k.q V.heap.size 0 #[.slice none 0 0] 92 (.slice none 0 0) [] k.g := ⟨hnew, rfl, .inl ⟨rfl, rfl⟩, H.out.gq, by decide, by decide, by decide⟩
  have hta := take_any (n := n) hs5.kd hra (by simp) (by have := HN.out; omega)
  rw [← HKA.out, ← HFT.out] at hta
  have HTA := Lib.hid hta
  have HB5 := Lib.hid hb5
  have HS5' := Lib.hid hs5
  obtain ⟨B, hB⟩ : ∃ B, V.heap.size = B := ⟨_, rfl⟩
  have HBQ := Lib.hid hB
  have HBE : Hid (V.heap.size ≤ B) := Lib.hid (by omega)
  rw [hB] at HTA HB5 hnew ⊢
  clear hra hta hb5 hnew hs5 hw5 hB
  refine mix_step rfl (fun K9 hK => ?_)
  refine opwp_invoke (.tmp 42) "aqueduct/stream.take" #[.tmp 38, .tmp 40] #[3, 96] rfl (.iface T KA) [.int .i64 n, .pointer (some ⟨B, 0, none⟩)] rfl rfl fT #[KA, .int .i64 n, .pointer (some ⟨B, 0, none⟩)] (HTK.out _ _ _) ?_
  refine HTA.out.mono ?_
  rintro e w9 ⟨v9, rfl, hrow, hk9, hr9, hf9⟩
  have hbd := (HDR.out.block _ (lt_of_block H1.out)).trans H1.out
  have hBlt := lt_of_block hbd
  have hF9 : Fr k.F V w9 := (Fr.of_below (by rw [HBQ.out]; exact HB5.out) k.F).trans hf9 (fun i hi => by
    rcases List.mem_cons.1 hi with rfl | hi
    · exact .inr HBE.out
    · exact .inl (by rw [Sb.F_eq]; exact List.mem_cons_of_mem _ hi))
  have hto : ∀ y : St, y.Ok → y.busy = x.busy → y.wr = x.wr → y.rd = x.rd → y.a = x.a → y.R = x.R → y.c = x.c → y.S = kS x.c x.S [] n.toNat → SAt w9 m k y := fun y hy e1 e2 e3 e4 e5 e6 e7 => by
    refine HSV.out.to (v := .slice va x.R.length vc) HT.out hF9 hy ⟨e1, e2, e3, by rw [e4, e5]⟩ (by rw [e6, e7]; exact hk9) ⟨.slice va x.R.length vc, ?_, ?_⟩
    · have hb5 := (HB5.out.block _ (by rw [← HBQ.out]; exact hBlt)).trans hbd
      have hb9 := hf9.same hb5 (by
        intro hi
        rcases List.mem_cons.1 hi with hi | hi
        · rw [hi, ← HBQ.out] at hBlt; exact Nat.lt_irrefl _ hBlt
        · exact HSV.out.kd.ne hbd (by decide) (by decide) (by decide) (kF_sub hi))
      simpa using hb9
    · rw [e5]
      exact (H2.out.grown HDR.out).off hF9 (HSV.out.gF (H2.out.grown HDR.out))
  have htl : kT x.c x.S [] n.toNat = x.take n.toNat := by unfold kT St.take; rw [if_neg HWR.out]; split <;> simp
  rw [htl] at hrow
  have hn0 : 0 < n.toNat := by have := HN.out; omega
  have HSTE : Hid (x.take n.toNat = [] → SAt w9 m k x) := Lib.hid (fun ht => hto x H.out.ok rfl rfl rfl rfl rfl rfl (by
    unfold kS
    split
    · rename_i hc; exact List.eq_nil_of_length_eq_zero (by have := H.out.ok.le; omega)
    · rename_i hc
      unfold St.take at ht
      rw [if_neg hc] at ht
      have hS : x.S = [] := by
        cases hq : x.S with
        | nil => rfl
        | cons a l =>
          obtain ⟨n', hn'⟩ : ∃ n', n.toNat = n' + 1 := ⟨n.toNat - 1, by omega⟩
          rw [hq, hn'] at ht
          simp at ht
      rw [hS]; simp))
  have HST : Hid (x.take n.toNat ≠ [] → SAt w9 m k (x.left n.toNat)) := Lib.hid (fun ht => by
    have hc : x.c ≠ 0 := fun hc => by
      apply ht
      unfold St.take
      rw [if_pos hc, if_neg HWR.out]
    have hle : x.left n.toNat = { x with S := x.S.drop n.toNat } := by
      unfold St.left
      rw [if_neg hc]
      exact St.fill_same (by unfold St.n; rw [if_neg (fun q => HWR.out q.1)])
    exact hto _ (St.left_ok H.out.ok _) (by rw [hle]) (by rw [hle]) (by rw [hle]) (by rw [hle]) (by rw [hle]) (by rw [hle]) (by rw [hle]; unfold kS; rw [if_neg hc]; simp))
  have hst := True.intro
  have hcell : w9.cell? ⟨k.b, 0, none⟩ = some (.iface T KA) := hf9.cell (HS5.out) (by
    intro hi
    rcases List.mem_cons.1 hi with hi | hi
    · have : k.b = B := hi
      rw [this, ← HBQ.out] at hBlt; exact Nat.lt_irrefl _ hBlt
    · exact HSV.out.kd.ne hbd (by decide) (by decide) (by decide) (kF_sub hi))
  have hwr9 : w9.cell? ⟨k.b, 5, none⟩ = some (.int .i64 x.wr) := hf9.cell (below_cells (by rw [HBQ.out]; exact HB5.out) _ _ (cells_cell (o := 5) hbd rfl)) (by
    intro hi
    rcases List.mem_cons.1 hi with hi | hi
    · have : k.b = B := hi
      rw [this, ← HBQ.out] at hBlt; exact Nat.lt_irrefl _ hBlt
    · exact HSV.out.kd.ne hbd (by decide) (by decide) (by decide) (kF_sub hi))
  have HFR : Hid (Fr k.F w' w9) := Lib.hid ((Fr.of_below HDR.out k.F).trans' hF9)
  have hsz5 := HB5.out.size
  clear hto hbd hBlt
  obtain ⟨ra, rn, rc, rfl⟩ : ∃ a n c, v9 = .slice a n c := by
    obtain ⟨a, c, e, _⟩ := hrow.form
    exact ⟨_, _, _, e⟩
  have hlen : rn = (x.take n.toNat).length := by
    obtain ⟨a, c, e, _⟩ := hrow.form
    simp only [Value.slice.injEq] at e
    exact e.2.1
  have HROW : Hid (RowB w9 w'.heap.size (.slice ra rn rc) (x.take n.toNat)) := Lib.hid (RowV.lower hrow (by have := HDR.out.size; have := HBE.out; have := HBQ.out; omega))
  have HLEN := Lib.hid hlen
  clear hrow hk9 hr9 hf9 hF9
  refine ⟨_, rfl, hK _ _ hcell ?_⟩
  clear hK K9 hcell
  refine mix_nil ?_
  by_cases hz : x.take n.toNat = []
  · have h0 : rn = 0 := by rw [hlen, hz]; rfl
    have HZ := Lib.hid hz
    have hp := HP.out
    rw [if_pos hz] at hp
    have HPP := Lib.hid hp
    clear hp
    subst h0
    obtain ⟨zw, hzw⟩ : ∃ z, z = x.wr := ⟨_, rfl⟩
    have HZW := Lib.hid hzw
    rw [← hzw] at hwr9
    clear hz hlen hzw htl hst
    go_wp2_with (go_at_call 62; fail)
    refine Calls.mono (or2_any _ _ zw 16 _ ?c0 ?c1) ?_
    case c0 => exact cell_new _ _ _ _ _ _ (by simp) rfl
    case c1 => exact cell_new _ _ _ _ _ _ (by simp) rfl
    rintro e w10 ⟨rfl, hw10⟩
    have HB10 : Hid (Below w9.heap.size w9 w10) := Lib.hid (by rw [hw10]; exact below_alloc _ _)
    clear hw10
    go_wp2_with fail
    go_ret2
    have hp := HPP.out
    simp only [Prod.mk.injEq] at hp
    obtain ⟨rfl, rfl, rfl⟩ := hp
    refine ⟨_, ?_, World.ownsRow_nil _ _ _ _, (HSTE.out HZ.out).grown HB10.out, HFR.out.trans' (Fr.of_below HB10.out _)⟩
    rw [HZW.out]
    rfl
  · have hp := HP.out
    have HNZ : Hid (x.take n.toNat ≠ []) := Lib.hid hz
    rw [if_neg hz] at hp
    have HPP := Lib.hid hp
    clear hp
    have h0 : ((rn : Int) == 0) = false := by
      have : rn ≠ 0 := by rw [hlen]; exact fun q => hz (List.eq_nil_of_length_eq_zero q)
      simp; omega
    clear hz hlen htl hwr9 hst
    go_wp2_with fail
    go_ret2
    have hp := HPP.out
    simp only [Prod.mk.injEq] at hp
    obtain ⟨rfl, rfl, rfl⟩ := hp
    exact ⟨_, rfl, HROW.out, HST.out HNZ.out, HFR.out⟩
theorem stRead_any (h : SAt w m k x) (n : Int) : Calls Try.prog 23 #[pt m, .int .i64 n] w fun e w' => ∃ v, e = .returned (.tuple #[v, .int .i64 (sRd x n).2.1]) ∧ RowB w' w.heap.size v (sRd x n).1 ∧ SAt w' m k (sRd x n).2.2 ∧ Fr k.F w w' := by
  by_cases hp : n < 0 ∨ 65536 < n ∨ x.rd ≠ 0 ∨ n = 0
  · refine (stRead_plain h n hp).mono ?_
    rintro e w' ⟨rfl, rfl, h1, h2⟩
    exact ⟨_, rfl, by rw [h1]; exact World.ownsRow_nil _ _ _ _, by rw [h2]; exact h, Fr.refl _ _⟩
  · have h1 : 0 < n ∧ n ≤ 65536 := by omega
    have h2 : x.rd = 0 := Classical.byContradiction fun q => hp (.inr (.inr (.inl q)))
    by_cases hw : x.wr = 0
    · exact stRead_open h n h1 h2 hw
    · exact stRead_shut h n h1 h2 hw
end
end Go.Proofs.Yteimjkmjofaieaa
