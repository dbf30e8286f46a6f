/- The law's own function made: a rope of some texts. -/
import Derived.Test.YtkdbkamjaaehfaaCRefT
namespace Go.Proofs.Ytkdbkamjaaehfaa
open Go.RowKit Go.Sort
set_option linter.unusedVariables false
set_option linter.unusedSimpArgs false

/-- Bytes that were made of a text lie in block b, with what lies behind them. -/
structure MkAt (w : World) (b c : Nat) (xs : List UInt8) : Prop where
  cells : w.heap[b]? = some (.cells (xs.map encB).toArray 5 (c, c + 1))
  len : xs.length = c
  max : c ≤ maxLen
theorem MkAt.lt {w : World} {b c : Nat} {xs : List UInt8} (h : MkAt w b c xs) : b < w.heap.size := lt_of_block h.cells
theorem MkAt.cell {w : World} {b c : Nat} {xs : List UInt8} (h : MkAt w b c xs) (j : Nat) (hj : j < xs.length) : w.cell? ⟨b, j, none⟩ = some (.int .u8 ((xs[j].toNat : Nat) : Int)) := by
  simp [World.cell?, h.cells, hj, encB]
theorem MkAt.free {w : World} {b c : Nat} {xs : List UInt8} (h : MkAt w b c xs) (j : Nat) (hj : j < c) : w.frozen? ⟨b, j, none⟩ = false := by
  simp [World.frozen?, h.cells]
  omega
theorem MkAt.src {w : World} {b c : Nat} {xs : List UInt8} (h : MkAt w b c xs) (n : Nat) (hn : n ≤ c) : SrcV w (.slice (some ⟨b, 0, none⟩) n c) ((xs.take n).map encB) := by
  have hl : ((xs.take n).map encB).length = n := by have := h.len; simp; omega
  refine .inr ⟨⟨b, 0, none⟩, c, by rw [hl], by omega, h.max, fun j u hu => ?_, fun _ => rfl⟩
  rw [Go.WideShapes.add_plain, Nat.zero_add]
  have hj : j < n := by
    have := (List.getElem?_eq_some_iff.1 hu).1
    omega
  rw [h.cell j (by have := h.len; omega)]
  rw [List.getElem?_map, List.getElem?_take, if_pos hj] at hu
  have hx : j < xs.length := by have := h.len; omega
  rw [List.getElem?_eq_getElem hx] at hu
  simpa [encB] using hu
theorem MkAt.same {w w' : World} {b c : Nat} {xs : List UInt8} (h : MkAt w b c xs) (hs : w'.heap[b]? = w.heap[b]?) : MkAt w' b c xs := ⟨hs.trans h.cells, h.len, h.max⟩

theorem conv_bytes (w : World) (p : List UInt8) (hp : p.length ≤ 200000) :
    ∃ c xs W, (convert 9 26 (.string (strB p))).run Try.prog w = .ok (.slice (some ⟨w.heap.size, 0, none⟩) (strB p).size c) W ∧ Below w.heap.size w W ∧ MkAt W w.heap.size c xs ∧ xs.take p.length = p ∧ p.length ≤ c ∧ W.heap.size = w.heap.size + 1 := by
  have hcv := Lib.run_convert_string_bytes (P := Try.prog) w 9 26 5 (strB p) Try.underlying9 Try.underlying26 Try.underlying5
  have hge := grownCap_ge w (strB p).size 0 5
  have hmx := grownCap_le_maxLen w (strB p).size 0 5 (by rw [strB_size]; unfold maxLen; omega)
  have hcl : Lib.bytesCells w 5 (strB p) = ((p ++ List.replicate (grownCap w (strB p).size 0 5 - (strB p).size) (0 : UInt8)).map encB).toArray := by
    apply Array.ext'
    simp [Lib.bytesCells, strB, encB]
  have hnew := Lib.bytesWorld_at_new w 5 (strB p)
  have hsz : (Lib.bytesCells w 5 (strB p)).size = grownCap w (strB p).size 0 5 := by
    rw [hcl]
    rw [strB_size] at hge ⊢
    simp
    omega
  rw [hsz, hcl] at hnew
  rw [strB_size] at hge hnew
  refine ⟨_, p ++ List.replicate (grownCap w p.length 0 5 - p.length) 0, _, hcv, ⟨rfl, rfl, rfl, by rw [Lib.bytesWorld_size]; omega, fun k hk => Lib.bytesWorld_at_old w _ _ k hk⟩, ⟨?_, ?_, hmx⟩, by simp, ?_, Lib.bytesWorld_size _ _ _⟩
  · rw [strB_size]; exact hnew
  · rw [strB_size]; simp; omega
  · rw [strB_size]; exact hge

/-- Slices of bytes that were made, each in a block of its own type. -/
def Made (w : World) (base : Nat) (vs : List Value) (Ps : Parts) : Prop := vs.length = Ps.length ∧ ∀ (i : Nat) (v : Value) (p : List UInt8), vs[i]? = some v → Ps[i]? = some p → ∃ b c xs, v = .slice (some ⟨b, 0, none⟩) p.length c ∧ MkAt w b c xs ∧ xs.take p.length = p ∧ p.length ≤ c ∧ base ≤ b
theorem Made.same {w w' : World} {base : Nat} {vs : List Value} {Ps : Parts} (h : Made w base vs Ps) (hs : ∀ b c xs, MkAt w b c xs → w'.heap[b]? = w.heap[b]?) : Made w' base vs Ps :=
  ⟨h.1, fun i v p h1 h2 => by obtain ⟨b, c, xs, e1, e2, e3⟩ := h.2 i v p h1 h2; exact ⟨b, c, xs, e1, e2.same (hs b c xs e2), e3⟩⟩
theorem Made.rows {w : World} {base : Nat} {vs : List Value} {Ps : Parts} (h : Made w base vs Ps) : RowsB w vs Ps := by
  refine ⟨by simpa using h.1, fun i v q h1 h2 => ?_⟩
  rw [List.getElem?_map] at h2
  cases hp : Ps[i]? with
  | none => rw [hp] at h2; cases h2
  | some p =>
    rw [hp] at h2
    simp at h2
    subst h2
    obtain ⟨b, c, xs, rfl, h3, h4, h5, _⟩ := h.2 i v p h1 hp
    have := h3.src p.length h5
    rwa [h4] at this
theorem Made.snoc {w : World} {base : Nat} {vs : List Value} {Ps : Parts} (h : Made w base vs Ps) {b c : Nat} {xs p : List UInt8} (hm : MkAt w b c xs) (ht : xs.take p.length = p) (hc : p.length ≤ c) (hb : base ≤ b) : Made w base (vs ++ [.slice (some ⟨b, 0, none⟩) p.length c]) (Ps ++ [p]) := by
  refine ⟨by simp [h.1], fun i v q h1 h2 => ?_⟩
  by_cases hi : i < vs.length
  · rw [List.getElem?_append_left hi] at h1
    rw [List.getElem?_append_left (by rw [← h.1]; exact hi)] at h2
    exact h.2 i v q h1 h2
  · have hl := h.1
    rw [List.getElem?_append_right (by omega)] at h1
    rw [List.getElem?_append_right (by omega)] at h2
    obtain ⟨j, hj⟩ : ∃ j, i - vs.length = j := ⟨_, rfl⟩
    rw [hj] at h1
    rw [← hl, hj] at h2
    match j with
    | 0 =>
      simp at h1 h2
      subst h1 h2
      exact ⟨b, c, xs, rfl, hm, ht, hc, hb⟩
    | j + 1 => simp at h1
/-- What an append to the list of slices leaves alone. -/
theorem Made.appended {w w' : World} {base B : Nat} {vs zs : List Value} {Ps : Parts} {v : Value} (h : Made w base vs Ps) (hr : RowV w 26 B v zs) (hf : Fr v.ownBlock.toList w w') : Made w' base vs Ps := by
  refine h.same fun b c xs hm => hf.block b hm.lt (fun hmem => ?_)
  have hv : v.ownBlock = some b := by simpa using hmem
  rcases hr.2 with ⟨rfl, _⟩ | ⟨g, cap, cur, rfl, _, hh, _⟩
  · simp [Value.ownBlock] at hv
  · simp [Value.ownBlock] at hv
    subst hv
    rw [hm.cells] at hh
    simp only [Option.some.injEq, Obj.cells.injEq] at hh
    exact absurd hh.2.1 (by decide)

set_option maxRecDepth 100000 in
set_option maxHeartbeats 1600000 in
theorem made_any {w : World} {v : Value} {Ps : Parts} (h : SrcV w v (Ps.map encS)) (hn : Ps.flatten.length ≤ 100000) (hk : Ps.length ≤ 2000) :
    Calls Try.prog 14 #[v] w fun e w' => ∃ u, e = .returned (.tuple #[u, .int .i64 (errC (full Ps).length Ps.flatten.length)]) ∧ RopeAt w' w.heap.size u (newP Ps) ∧ Below w.heap.size w w' := by
  obtain ⟨a, c, rfl, hc1, hc2⟩ := h.formS
  obtain ⟨N, hN⟩ : ∃ N, N = Ps.length := ⟨_, rfl⟩
  obtain ⟨ce, hce⟩ : ∃ ce, ce = errC (full Ps).length Ps.flatten.length := ⟨_, rfl⟩
  rw [← hce]
  have HCE := Lib.hid hce
  have HNE := Lib.hid hN
  have HH := Lib.hid h
  have HN := Lib.hid hn
  rw [← hN] at hc1 hk HH ⊢
  have HK := Lib.hid hk
  have hkI : (N : Int) ≤ 2000 := by omega
  clear h hn hN hk hce
  go_enter Try.func14, Try.ntmps14
  go_wp2_with fail
  obtain ⟨W, hW⟩ : ∃ W, W = w.alloc (.cells #[.slice none 0 0, .slice none 0 0] 29) := ⟨_, rfl⟩
  have HWS : Hid (W.heap.size = w.heap.size + 1) := Lib.hid (by rw [hW]; simp)
  have HWB : Hid (Below w.heap.size w W) := Lib.hid (by rw [hW]; exact below_alloc _ _)
  have HW0 : Hid (W.heap[w.heap.size]? = some (.cells #[.slice none 0 0, .slice none 0 0] 29 (0, 0))) := Lib.hid (by rw [hW]; exact heap_alloc_new w _)
  rw [← hW]
  clear hW
  go_loopw [4, 9] (fun lv i wr => ∃ k vs, k ≤ N ∧ i = .int .i64 (k : Nat) ∧ Hid (RowV wr 26 W.heap.size lv vs) ∧ Hid (Made wr W.heap.size vs (Ps.take k)) ∧ Hid (Below W.heap.size W wr)) (fun _ i _ => N - (intOf i).toNat)
  case atStart => exact ⟨0, [], Nat.zero_le _, rfl, Lib.hid (World.ownsRow_nil _ _ _ _), Lib.hid ⟨rfl, fun i v p h1 h2 => by simp at h1⟩, Lib.hid (Below.refl _ _)⟩
  case round =>
    obtain ⟨k, vs, hkl, rfl, HR, HM, HB⟩ := hrel
    have HBw := Lib.hid (HWB.out.trans (HB.out.mono HWB.out.size))
    obtain ⟨la, lc, hlf, hl1, hl2⟩ := (RowV.src HR.out).form
    have hvl : vs.length = k := by have := HM.out.1; rw [List.length_take] at this; have := HNE.out; omega
    rw [hvl] at hlf hl1
    subst hlf
    have HVL := Lib.hid hvl
    clear hvl
    by_cases hlt : k < N
    · have hltP : k < Ps.length := by rw [← HNE.out]; exact hlt
      obtain ⟨b, off, rfl, hbl, hcell⟩ := HH.out.strAt k hltP
      have hcx := below_cells HBw.out _ _ hcell
      have hbl2 : b < wr.heap.size := by have := HBw.out.size; omega
      have hlen : (Ps[k]).length ≤ 200000 := by have := flat_le' Ps k hltP; have := HN.out; omega
      have hPK := Lib.hid (List.take_succ_eq_append_getElem hltP)
      have hsz : Hid ((strB Ps[k]).size = (Ps[k]).length) := Lib.hid (strB_size _)
      obtain ⟨cc, xs, W5, hcv, hb5, hm5, ht5, hc5, hs5⟩ := conv_bytes wr Ps[k] hlen
      have HB5 := Lib.hid hb5
      have HM5 := Lib.hid hm5
      have HT5 := Lib.hid (And.intro ht5 hc5)
      generalize Ps[k] = p at *
      generalize strB p = s at *
      have hz1 : (s.size : Int) ≤ (cc : Int) := by have := hsz.out; omega
      have hkl2 : (k : Int) < (N : Int) := by omega
      have hwl := hb5.size
      clear hcell hb5 hm5 ht5 hc5 hlen hs5
      have hrow5 := Lib.hid (RowV.grown (RowV.grown HR.out HB5.out) (below_alloc W5 (.cells #[.slice (some ⟨wr.heap.size, 0, none⟩) s.size cc] 26)))
      go_wp2_with (at_builtin; refine wpList_append_v slcBs (by decide) rfl (.tmp 13) (.tmp 16) rfl rfl rfl hrow5.out (by have := HB.out.size; simp; omega) (src_one W5 26 (.slice (some ⟨wr.heap.size, 0, none⟩) s.size cc)) (by intro u hu; simp at hu; subst hu; rfl) (by have := HVL.out; simp; omega) ?_)
      intro v' w' ho' hf' hn'
      have hM6 : Made (W5.alloc (.cells #[.slice (some ⟨wr.heap.size, 0, none⟩) s.size cc] 26)) W.heap.size (vs ++ [.slice (some ⟨wr.heap.size, 0, none⟩) s.size cc]) (Ps.take (k + 1)) := by
        rw [hPK.out, hsz.out]
        have h5 := Made.snoc (HM.out.same (w' := W5) (fun b c xs hm => HB5.out.block b hm.lt)) HM5.out HT5.out.1 HT5.out.2 HB.out.size
        exact h5.same (fun b c xs hm => (below_alloc _ _).block b hm.lt)
      have HM' := Lib.hid (hM6.appended hrow5.out hf')
      have HO' := Lib.hid ho'
      have HB' : Hid (Below W.heap.size W w') := Lib.hid ((HB.out.trans ((HB5.out.trans ((below_alloc _ _).mono HB5.out.size)).mono HB.out.size)).trans (hf'.below (fun x hx => (HR.out.lt x (by simpa using hx)).1) (by have := HB.out.size; simp; omega)))
      clear ho' hf' hn' hM6
      go_wp2_with fail
      go_roundw
      case rel => exact ⟨k + 1, _, by omega, by go_num, HO', HM', HB'⟩
      case measure => simp [intOf]; omega
    · obtain rfl : k = N := by omega
      have hMr : RowsB wr vs Ps := by have := HM.out.rows; rwa [HNE.out, List.take_length] at this
      have hsrc := RowV.src HR.out
      have hnew := Lib.hid (new_any hsrc hMr HN.out (by have := HNE.out; have := HK.out; omega))
      rw [← HCE.out] at hnew
      clear hMr hsrc
      go_wp2_with (go_at_call 10; fail)
      refine hnew.out.mono ?_
      rintro e w2 ⟨v2, rfl, R2, hb2⟩
      have HR2 := Lib.hid R2
      have HB2 := Lib.hid hb2
      have hs1 := HB.out.size
      have hs2 := HWS.out
      have hcc := Lib.hid ((hb2.block _ (by omega)).trans ((HB.out.block w.heap.size (by omega)).trans HW0.out))
      have gc0 : w2.cell? ⟨w.heap.size, 0, none⟩ = some (.slice none 0 0) := cells_cell hcc.out rfl
      have gc1 : w2.cell? ⟨w.heap.size, 1, none⟩ = some (.slice none 0 0) := cells_cell hcc.out rfl
      have gz0 : w2.frozen? ⟨w.heap.size, 0, none⟩ = false := cells_free hcc.out _
      have gz1 : w2.frozen? ⟨w.heap.size, 1, none⟩ = false := cells_free hcc.out _
      have hl2 : w.heap.size < w2.heap.size := lt_of_block hcc.out
      obtain ⟨x1, x2, x3, x4, x5, x6, hv2⟩ := R2.shape
      subst hv2
      clear R2 hb2 hs1 hs2 hnew
      go_wp2_with fail
      generalize hWF : World.setCell _ _ _ = WF
      have ht : WF.heap[w.heap.size]? = some (.cells #[.slice x1 x2 x3, .slice x4 x5 x6] 29 (0, 0)) := by rw [← hWF]; exact two_cells hcc.out
      have hfr : Fr [w.heap.size] w2 WF := by rw [← hWF]; exact two_fr _ _ _ _
      have hb3 : Below w.heap.size w2 WF := by rw [← hWF]; exact two_below (Nat.le_refl _) _ _
      clear hWF
      have hws : w.heap.size < wr.heap.size := by have := HB.out.size; have := HWS.out; omega
      refine bodyPost_ret (v := .tuple #[.agg #[.slice x1 x2 x3, .slice x4 x5 x6], .int .i64 ce]) (by simp [results, Try.results14, go_sem, cells_cell ht (o := 0) rfl, cells_cell ht (o := 1) rfl]) rfl ⟨_, rfl, ?_, ?_⟩
      · exact (HR2.out.fr hfr (fun x hx => by simp at hx; omega)).lower (by omega)
      · exact HBw.out.trans ((HB2.out.mono (by omega)).trans hb3)
end Go.Proofs.Ytkdbkamjaaehfaa
