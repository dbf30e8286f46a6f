/- The law's own functions of, text, ends, takes. -/
import Derived.Test.YtophkjnniodegaaVNew
import Derived.Test.YtophkjnniodegaaVRefT
namespace Go.Proofs.Ytophkjnniodegaa
open Go.RowKit Go.Sort
set_option linter.unusedVariables false
set_option linter.unusedSimpArgs false

theorem ends_any (w : World) (a b c d : Int) : Calls Try.prog 24 #[.int .i64 a, .int .i64 b, .int .i64 c, .int .i64 d] w fun e w' => e = .returned (.bool (decide (a = c ∧ b = d))) ∧ w' = w := by
  by_cases h1 : a = c
  · subst h1
    by_cases h2 : b = d
    · subst h2
      go_enter Try.func24, Try.ntmps24
      go_wp2
      go_ret
      exact ⟨by simp, rfl⟩
    · have q : (b == d) = false := by simp [h2]
      rw [show decide (a = a ∧ b = d) = false by simp [h2]]
      go_enter Try.func24, Try.ntmps24
      go_wp2
      go_ret
      exact ⟨rfl, rfl⟩
  · have q : (a == c) = false := by simp [h1]
    rw [show decide (a = c ∧ b = d) = false by simp [h1]]
    go_enter Try.func24, Try.ntmps24
    go_wp2
    go_ret
    exact ⟨rfl, rfl⟩
section
variable {w : World} {m b : Nat} {x : Mt}
theorem takes_yes (h : MAt w m b x) (n : Int) {L : List UInt8} {e : Int} {y : Mt} (hy : takC x n = (L, e, y)) : Calls Try.prog 25 #[pt m, .int .i64 n, .string (strB L), .int .i64 e] w fun e' w' => e' = .returned (.bool true) ∧ MAt w' m b y ∧ Fr [b] w w' := by
  have ht := mtTake_any h n
  rw [hy] at ht
  have HT := Lib.hid ht
  clear ht hy h
  unfold pt at *
  go_enter Try.func25, Try.ntmps25
  go_wp2_with (go_at_call 15; fail)
  refine HT.out.mono ?_
  rintro e' w1 ⟨vp, rfl, hr, hm, hf⟩
  have hcv := row_str hr
  obtain ⟨pa, pn, pc, rfl⟩ := row_form hr
  have HM := Lib.hid (hm w1 (fun _ _ => rfl))
  have HF := Lib.hid hf
  have hq : (strB L).toList == (strB L).toList := by simp
  clear hr hm hf
  generalize strB L = s at *
  go_wp2_with fail
  go_ret
  exact ⟨rfl, HM.out, HF.out⟩
end

/-- A call that came in. -/
structure Ac where
  what : Int
  n : Int
  parts : List (List UInt8)
  wth : Int
def Ac.Wf (a : Ac) : Prop := I64 a.what ∧ I64 a.n ∧ I64 a.wth ∧ a.parts.length ≤ 30 ∧ ∀ p ∈ a.parts, p.length ≤ 400
theorem flat_small (Ps : List (List UInt8)) (h : ∀ p ∈ Ps, p.length ≤ 400) : Ps.flatten.length ≤ Ps.length * 400 := by
  induction Ps with
  | nil => simp
  | cons p r ih =>
    have h1 := h p (by simp)
    have h2 := ih (fun q hq => h q (by simp [hq]))
    simp only [List.flatten_cons, List.length_append, List.length_cons]
    omega

set_option maxRecDepth 100000 in
set_option maxHeartbeats 1600000 in
theorem of_any {w : World} {v : Value} {Ps : Parts} (h : SrcV w v (Ps.map encS)) (hn : Ps.flatten.length ≤ 60000) (hk : Ps.length ≤ 1000) :
    Calls Try.prog 19 #[v] w fun e w' => ∃ u, e = .returned u ∧ RopeAt w' w.heap.size u (full Ps) ∧ Below w.heap.size w w' := by
  obtain ⟨a, c, rfl, hc1, hc2⟩ := h.formS
  obtain ⟨N, hN⟩ : ∃ N, N = Ps.length := ⟨_, rfl⟩
  have hce : errC (full Ps).length Ps.flatten.length = 0 := by unfold errC; rw [if_neg (by have := full_len Ps; omega), if_neg (by omega)]
  have hnp : newP Ps = full Ps := by unfold newP; rw [if_pos hce]
  have HCE := Lib.hid hce
  have HNP := Lib.hid hnp
  have HNE := Lib.hid hN
  have HH := Lib.hid h
  have HN := Lib.hid hn
  rw [← hN] at hc1 hk HH ⊢
  have HK := Lib.hid hk
  have hkI : (N : Int) ≤ 1000 := by omega
  clear h hn hN hk hce hnp
  go_enter Try.func19, Try.ntmps19
  go_wp2_with fail
  obtain ⟨W, hW⟩ : ∃ W, W = w.alloc (.cells #[.slice none 0 0, .slice none 0 0] 52) := ⟨_, rfl⟩
  have HWS : Hid (W.heap.size = w.heap.size + 1) := Lib.hid (by rw [hW]; simp)
  have HWB : Hid (Below w.heap.size w W) := Lib.hid (by rw [hW]; exact below_alloc _ _)
  have HW0 : Hid (W.heap[w.heap.size]? = some (.cells #[.slice none 0 0, .slice none 0 0] 52 (0, 0))) := Lib.hid (by rw [hW]; exact heap_alloc_new w _)
  rw [← hW]
  clear hW
  go_loopw [3, 10] (fun lv i wr => ∃ k vs, k ≤ N ∧ i = .int .i64 (k : Nat) ∧ Hid (RowV wr 44 W.heap.size lv vs) ∧ Hid (Made wr W.heap.size vs (Ps.take k)) ∧ Hid (Below W.heap.size W wr)) (fun _ i _ => N - (intOf i).toNat)
  case atStart => exact ⟨0, [], Nat.zero_le _, rfl, Lib.hid (World.ownsRow_nil _ _ _ _), Lib.hid ⟨rfl, fun i v p h1 h2 => by simp at h1⟩, Lib.hid (Below.refl _ _)⟩
  case round =>
    obtain ⟨k, vs, hkl, rfl, HR, HM, HB⟩ := hrel
    have HBw := Lib.hid (HWB.out.trans (HB.out.mono HWB.out.size))
    obtain ⟨la, lc, hlf, hl1, hl2⟩ := (RowV.src HR.out).form
    have hvl : vs.length = k := by have := HM.out.1; rw [List.length_take] at this; have := HNE.out; omega
    rw [hvl] at hlf hl1
    subst hlf
    have HVL := Lib.hid hvl
    clear hvl
    by_cases hlt : k < N
    · have hltP : k < Ps.length := by rw [← HNE.out]; exact hlt
      obtain ⟨b, off, rfl, hbl, hcell⟩ := HH.out.strAt k hltP
      have hcx := below_cells HBw.out _ _ hcell
      have hbl2 : b < wr.heap.size := by have := HBw.out.size; omega
      have hlen : (Ps[k]).length ≤ 200000 := by have := flat_le' Ps k hltP; have := HN.out; omega
      have hPK := Lib.hid (List.take_succ_eq_append_getElem hltP)
      have hsz : Hid ((strB Ps[k]).size = (Ps[k]).length) := Lib.hid (strB_size _)
      obtain ⟨cc, xs, W5, hcv, hb5, hm5, ht5, hc5, hs5⟩ := conv_bytes wr Ps[k] hlen
      have HB5 := Lib.hid hb5
      have HM5 := Lib.hid hm5
      have HT5 := Lib.hid (And.intro ht5 hc5)
      generalize Ps[k] = p at *
      generalize strB p = s at *
      have hz1 : (s.size : Int) ≤ (cc : Int) := by have := hsz.out; omega
      have hkl2 : (k : Int) < (N : Int) := by omega
      have hwl := hb5.size
      clear hcell hb5 hm5 ht5 hc5 hlen hs5
      have hrow5 := Lib.hid (RowV.grown (RowV.grown HR.out HB5.out) (below_alloc W5 (.cells #[.slice (some ⟨wr.heap.size, 0, none⟩) s.size cc] 44)))
      go_wp2_with (at_builtin; refine wpList_append_v slcBs (by decide) rfl (.tmp 14) (.tmp 17) rfl rfl rfl hrow5.out (by have := HB.out.size; simp; omega) (src_one W5 44 (.slice (some ⟨wr.heap.size, 0, none⟩) s.size cc)) (by intro u hu; simp at hu; subst hu; rfl) (by rw [HVL.out]; simp; omega) ?_)
      intro v' w' ho' hf' hn'
      have hM6 : Made (W5.alloc (.cells #[.slice (some ⟨wr.heap.size, 0, none⟩) s.size cc] 44)) W.heap.size (vs ++ [.slice (some ⟨wr.heap.size, 0, none⟩) s.size cc]) (Ps.take (k + 1)) := by
        rw [hPK.out, hsz.out]
        have h5 := Made.snoc (HM.out.same (w' := W5) (fun b c xs hm => HB5.out.block b hm.lt)) HM5.out HT5.out.1 HT5.out.2 HB.out.size
        exact h5.same (fun b c xs hm => (below_alloc _ _).block b hm.lt)
      have HM' := Lib.hid (hM6.appended hrow5.out hf')
      have HO' := Lib.hid ho'
      have HB' : Hid (Below W.heap.size W w') := Lib.hid ((HB.out.trans ((HB5.out.trans ((below_alloc _ _).mono HB5.out.size)).mono HB.out.size)).trans (hf'.below (fun x hx => (HR.out.lt x (by simpa using hx)).1) (by have := HB.out.size; simp; omega)))
      clear ho' hf' hn' hM6
      go_wp2_with fail
      go_roundw
      case rel => exact ⟨k + 1, _, by omega, by go_num, HO', HM', HB'⟩
      case measure => simp [intOf]; omega
    · obtain rfl : k = N := by omega
      have hMr : RowsB wr vs Ps := by have := HM.out.rows; rwa [HNE.out, List.take_length] at this
      have hsrc := RowV.src HR.out
      have hnew := Lib.hid (new_any hsrc hMr (by have := HN.out; omega) (by have := HNE.out; have := HK.out; omega))
      rw [HCE.out, HNP.out] at hnew
      clear hMr hsrc
      go_wp2_with (go_at_call 37; fail)
      refine hnew.out.mono ?_
      rintro e w2 ⟨v2, rfl, R2, hb2⟩
      have HR2 := Lib.hid R2
      have HB2 := Lib.hid hb2
      have hs1 := HB.out.size
      have hs2 := HWS.out
      obtain ⟨x1, x2, x3, x4, x5, x6, hv2⟩ := R2.shape
      subst hv2
      clear R2 hb2 hnew
      have hcc := Lib.hid ((HB2.out.block w.heap.size (by omega)).trans ((HB.out.block w.heap.size (by omega)).trans HW0.out))
      have gc0 : w2.cell? ⟨w.heap.size, 0, none⟩ = some (.slice none 0 0) := cells_cell hcc.out rfl
      have gc1 : w2.cell? ⟨w.heap.size, 1, none⟩ = some (.slice none 0 0) := cells_cell hcc.out rfl
      have gz0 : w2.frozen? ⟨w.heap.size, 0, none⟩ = false := cells_free hcc.out _
      have gz1 : w2.frozen? ⟨w.heap.size, 1, none⟩ = false := cells_free hcc.out _
      have hl2 : w.heap.size < w2.heap.size := lt_of_block hcc.out
      go_wp2_with fail
      generalize hWF : World.alloc _ _ = WF
      have ht : WF.heap[w.heap.size]? = some (.cells #[.slice x1 x2 x3, .slice x4 x5 x6] 52 (0, 0)) := by rw [← hWF]; exact ((below_alloc _ _).block _ (by simp [World.setCell]; omega)).trans (two_cells hcc.out)
      have hfr : Fr [w.heap.size] w2 WF := by rw [← hWF]; exact (two_fr _ _ _ _).trans' (fr_alloc _ _ _)
      have hb3 : Below w.heap.size w2 WF := hfr.below (fun x hx => by simp at hx; omega) (by omega)
      clear hWF
      have hws : w.heap.size < wr.heap.size := by omega
      refine bodyPost_ret (v := .agg #[.slice x1 x2 x3, .slice x4 x5 x6]) (by simp [results, Try.results19, go_sem, cells_cell ht (o := 0) rfl, cells_cell ht (o := 1) rfl]) rfl ⟨_, rfl, ?_, ?_⟩
      · exact (HR2.out.fr hfr (fun x hx => by simp at hx; omega)).lower (by omega)
      · exact HBw.out.trans ((HB2.out.mono (by omega)).trans hb3)

/-- What a call of the law has, in cells. -/
def encA (a : Ac) (pv : Value) : Value := .agg #[.int .i64 a.what, .int .i64 a.n, pv, .int .i64 a.wth]
set_option maxRecDepth 100000 in
set_option maxHeartbeats 1600000 in
theorem text_any {w : World} {pv : Value} {x0 x1 x3 : Int} {Ps : Parts} (h : SrcV w pv (Ps.map encS)) (hn : Ps.flatten.length ≤ 60000) (hk : Ps.length ≤ 1000) :
    Calls Try.prog 23 #[.agg #[.int .i64 x0, .int .i64 x1, pv, .int .i64 x3]] w fun e w' => e = .returned (.string (strB Ps.flatten)) ∧ Below w.heap.size w w' := by
  obtain ⟨a, c, rfl, hc1, hc2⟩ := h.formS
  obtain ⟨N, hN⟩ : ∃ N, N = Ps.length := ⟨_, rfl⟩
  have HNE := Lib.hid hN
  have HH := Lib.hid h
  have HN := Lib.hid hn
  rw [← hN] at hc1 hk HH ⊢
  have HK := Lib.hid hk
  have hkI : (N : Int) ≤ 1000 := by omega
  clear h hn hN hk
  go_enter Try.func23, Try.ntmps23
  go_wp2_with fail
  obtain ⟨W, hW⟩ : ∃ W, W = w.alloc (.cells #[.int .i64 x0, .int .i64 x1, .slice a N c, .int .i64 x3] 32) := ⟨_, rfl⟩
  have HWB : Hid (Below w.heap.size w W) := Lib.hid (by rw [hW]; exact below_alloc _ _)
  rw [← hW]
  clear hW
  go_loopw [3, 9] (fun sv i wr => ∃ k, k ≤ N ∧ i = .int .i64 (k : Nat) ∧ sv = .string (strB (Ps.take k).flatten) ∧ wr = W) (fun _ i _ => N - (intOf i).toNat)
  case atStart => exact ⟨0, Nat.zero_le _, rfl, rfl, rfl⟩
  case round =>
    obtain ⟨k, hkl, rfl, rfl, rfl⟩ := hrel
    by_cases hlt : k < N
    · have hltP : k < Ps.length := by rw [← HNE.out]; exact hlt
      obtain ⟨b, off, rfl, hbl, hcell⟩ := HH.out.strAt k hltP
      have hcx := below_cells HWB.out _ _ hcell
      have hap : Hid (strB (Ps.take k).flatten ++ strB Ps[k] = strB (Ps.take (k + 1)).flatten) := Lib.hid (by rw [strB_append, flat_take_succ Ps k hltP])
      have hkl2 : (k : Int) < (N : Int) := by omega
      have hl1 := strB_size (Ps.take k).flatten
      have hl2 := strB_size Ps[k]
      have hl3 : (Ps.take k).flatten.length + Ps[k].length ≤ 60000 := by have := flat_take_succ Ps k hltP; have h4 := flat_le' Ps k hltP; have := HN.out; omega
      rw [← hl1, ← hl2] at hl3
      generalize strB (Ps.take k).flatten = s1 at *
      generalize strB Ps[k] = s2 at *
      clear hcell hl1 hl2
      go_wp2_with fail
      go_roundw
      case rel => exact ⟨k + 1, by omega, by go_num, by rw [← hap.out], trivial⟩
      case measure => simp [intOf]; omega
    · obtain rfl : k = N := by omega
      have hT : Hid ((Ps.take k).flatten = Ps.flatten) := Lib.hid (by rw [HNE.out, List.take_length])
      rw [hT.out]
      go_wp2_with fail
      go_ret
      exact ⟨rfl, HWB.out⟩
end Go.Proofs.Ytophkjnniodegaa
