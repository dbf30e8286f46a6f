/- The law's own functions of, text, writes, reads; a stream that a law holds. -/
import Derived.Test.YtaallpbcgabdnaaXMove
import Derived.Test.YtaallpbcgabdnaaXRef
import Derived.Test.YtaallpbcgabdnaaGFld
namespace Go.Proofs.Ytaallpbcgabdnaa
open Go.RowKit Go.Sort
set_option linter.unusedVariables false
set_option linter.unusedSimpArgs false
/-- A call that came in. -/
structure Ac where
  what : Int
  n : Int
  parts : List (List UInt8)
  wth : Int
def Ac.Wf (a : Ac) : Prop := I64 a.what ∧ I64 a.n ∧ I64 a.wth ∧ a.parts.length ≤ 30 ∧ ∀ p ∈ a.parts, p.length ≤ 400
theorem flat_small (Ps : List (List UInt8)) (h : ∀ p ∈ Ps, p.length ≤ 400) : Ps.flatten.length ≤ Ps.length * 400 := by
  induction Ps with
  | nil => simp
  | cons p r ih =>
    have h1 := h p (by simp)
    have h2 := ih (fun q hq => h q (by simp [hq]))
    simp only [List.flatten_cons, List.length_append, List.length_cons]
    omega

set_option maxRecDepth 100000 in
set_option maxHeartbeats 1600000 in
theorem of_any {w : World} {v : Value} {Ps : Parts} (h : SrcV w v (Ps.map encS)) (hn : Ps.flatten.length ≤ 60000) (hk : Ps.length ≤ 1000) :
    Calls Try.prog 19 #[v] w fun e w' => ∃ u, e = .returned u ∧ RopeAt w' w.heap.size u (full Ps) ∧ Below w.heap.size w w' := by
  obtain ⟨a, c, rfl, hc1, hc2⟩ := h.formS
  obtain ⟨N, hN⟩ : ∃ N, N = Ps.length := ⟨_, rfl⟩
  have hce : errC (full Ps).length Ps.flatten.length = 0 := by unfold errC; rw [if_neg (by have := full_len Ps; omega), if_neg (by omega)]
  have hnp : newP Ps = full Ps := by unfold newP; rw [if_pos hce]
  have HCE := Lib.hid hce
  have HNP := Lib.hid hnp
  have HNE := Lib.hid hN
  have HH := Lib.hid h
  have HN := Lib.hid hn
  rw [← hN] at hc1 hk HH ⊢
  have HK := Lib.hid hk
  have hkI : (N : Int) ≤ 1000 := by omega
  clear h hn hN hk hce hnp
  go_enter Try.func19, Try.ntmps19
  go_wp2_with fail
  obtain ⟨W, hW⟩ : ∃ W, W = w.alloc (.cells #[.slice none 0 0, .slice none 0 0] 48) := ⟨_, rfl⟩
  have HWS : Hid (W.heap.size = w.heap.size + 1) := Lib.hid (by rw [hW]; simp)
  have HWB : Hid (Below w.heap.size w W) := Lib.hid (by rw [hW]; exact below_alloc _ _)
  have HW0 : Hid (W.heap[w.heap.size]? = some (.cells #[.slice none 0 0, .slice none 0 0] 48 (0, 0))) := Lib.hid (by rw [hW]; exact heap_alloc_new w _)
  rw [← hW]
  clear hW
  go_loopw [3, 10] (fun lv i wr => ∃ k vs, k ≤ N ∧ i = .int .i64 (k : Nat) ∧ Hid (RowV wr 45 W.heap.size lv vs) ∧ Hid (Made wr W.heap.size vs (Ps.take k)) ∧ Hid (Below W.heap.size W wr)) (fun _ i _ => N - (intOf i).toNat)
  case atStart => exact ⟨0, [], Nat.zero_le _, rfl, Lib.hid (World.ownsRow_nil _ _ _ _), Lib.hid ⟨rfl, fun i v p h1 h2 => by simp at h1⟩, Lib.hid (Below.refl _ _)⟩
  case round =>
    obtain ⟨k, vs, hkl, rfl, HR, HM, HB⟩ := hrel
    have HBw := Lib.hid (HWB.out.trans (HB.out.mono HWB.out.size))
    obtain ⟨la, lc, hlf, hl1, hl2⟩ := (RowV.src HR.out).form
    have hvl : vs.length = k := by have := HM.out.1; rw [List.length_take] at this; have := HNE.out; omega
    rw [hvl] at hlf hl1
    subst hlf
    have HVL := Lib.hid hvl
    clear hvl
    by_cases hlt : k < N
    · have hltP : k < Ps.length := by rw [← HNE.out]; exact hlt
      obtain ⟨b, off, rfl, hbl, hcell⟩ := HH.out.strAt k hltP
      have hcx := below_cells HBw.out _ _ hcell
      have hbl2 : b < wr.heap.size := by have := HBw.out.size; omega
      have hlen : (Ps[k]).length ≤ 200000 := by have := flat_le' Ps k hltP; have := HN.out; omega
      have hPK := Lib.hid (List.take_succ_eq_append_getElem hltP)
      have hsz : Hid ((strB Ps[k]).size = (Ps[k]).length) := Lib.hid (strB_size _)
      obtain ⟨cc, xs, W5, hcv, hb5, hm5, ht5, hc5, hs5⟩ := conv_bytes wr Ps[k] hlen
      have HB5 := Lib.hid hb5
      have HM5 := Lib.hid hm5
      have HT5 := Lib.hid (And.intro ht5 hc5)
      generalize Ps[k] = p at *
      generalize strB p = s at *
      have hz1 : (s.size : Int) ≤ (cc : Int) := by have := hsz.out; omega
      have hkl2 : (k : Int) < (N : Int) := by omega
      have hwl := hb5.size
      clear hcell hb5 hm5 ht5 hc5 hlen hs5
      have hrow5 := Lib.hid (RowV.grown (RowV.grown HR.out HB5.out) (below_alloc W5 (.cells #[.slice (some ⟨wr.heap.size, 0, none⟩) s.size cc] 45)))
      go_wp2_with (at_builtin; refine wpList_append_v slcBs (by decide) rfl (.tmp 14) (.tmp 17) rfl rfl rfl hrow5.out (by have := HB.out.size; simp; omega) (src_one W5 45 (.slice (some ⟨wr.heap.size, 0, none⟩) s.size cc)) (by intro u hu; simp at hu; subst hu; rfl) (by rw [HVL.out]; simp; omega) ?_)
      intro v' w' ho' hf' hn'
      have hM6 : Made (W5.alloc (.cells #[.slice (some ⟨wr.heap.size, 0, none⟩) s.size cc] 45)) W.heap.size (vs ++ [.slice (some ⟨wr.heap.size, 0, none⟩) s.size cc]) (Ps.take (k + 1)) := by
        rw [hPK.out, hsz.out]
        have h5 := Made.snoc (HM.out.same (w' := W5) (fun b c xs hm => HB5.out.block b hm.lt)) HM5.out HT5.out.1 HT5.out.2 HB.out.size
        exact h5.same (fun b c xs hm => (below_alloc _ _).block b hm.lt)
      have HM' := Lib.hid (hM6.appended hrow5.out hf')
      have HO' := Lib.hid ho'
      have HB' : Hid (Below W.heap.size W w') := Lib.hid ((HB.out.trans ((HB5.out.trans ((below_alloc _ _).mono HB5.out.size)).mono HB.out.size)).trans (hf'.below (fun x hx => (HR.out.lt x (by simpa using hx)).1) (by have := HB.out.size; simp; omega)))
      clear ho' hf' hn' hM6
      go_wp2_with fail
      go_roundw
      case rel => exact ⟨k + 1, _, by omega, by go_num, HO', HM', HB'⟩
      case measure => simp [intOf]; omega
    · obtain rfl : k = N := by omega
      have hMr : RowsB wr vs Ps := by have := HM.out.rows; rwa [HNE.out, List.take_length] at this
      have hsrc := RowV.src HR.out
      have hnew := Lib.hid (new_any hsrc hMr (by have := HN.out; omega) (by have := HNE.out; have := HK.out; omega))
      rw [HCE.out, HNP.out] at hnew
      clear hMr hsrc
      go_wp2_with (go_at_call 39; fail)
      refine hnew.out.mono ?_
      rintro e w2 ⟨v2, rfl, R2, hb2⟩
      have HR2 := Lib.hid R2
      have HB2 := Lib.hid hb2
      have hs1 := HB.out.size
      have hs2 := HWS.out
      obtain ⟨x1, x2, x3, x4, x5, x6, hv2⟩ := R2.shape
      subst hv2
      clear R2 hb2 hnew
      have hcc := Lib.hid ((HB2.out.block w.heap.size (by omega)).trans ((HB.out.block w.heap.size (by omega)).trans HW0.out))
      have gc0 : w2.cell? ⟨w.heap.size, 0, none⟩ = some (.slice none 0 0) := cells_cell hcc.out rfl
      have gc1 : w2.cell? ⟨w.heap.size, 1, none⟩ = some (.slice none 0 0) := cells_cell hcc.out rfl
      have gz0 : w2.frozen? ⟨w.heap.size, 0, none⟩ = false := cells_free hcc.out _
      have gz1 : w2.frozen? ⟨w.heap.size, 1, none⟩ = false := cells_free hcc.out _
      have hl2 : w.heap.size < w2.heap.size := lt_of_block hcc.out
      go_wp2_with fail
      generalize hWF : World.alloc _ _ = WF
      have ht : WF.heap[w.heap.size]? = some (.cells #[.slice x1 x2 x3, .slice x4 x5 x6] 48 (0, 0)) := by rw [← hWF]; exact ((below_alloc _ _).block _ (by simp [World.setCell]; omega)).trans (two_cells hcc.out)
      have hfr : Fr [w.heap.size] w2 WF := by rw [← hWF]; exact (two_fr _ _ _ _).trans' (fr_alloc _ _ _)
      have hb3 : Below w.heap.size w2 WF := hfr.below (fun x hx => by simp at hx; omega) (by omega)
      clear hWF
      have hws : w.heap.size < wr.heap.size := by omega
      refine bodyPost_ret (v := .agg #[.slice x1 x2 x3, .slice x4 x5 x6]) (by simp [results, Try.results19, go_sem, cells_cell ht (o := 0) rfl, cells_cell ht (o := 1) rfl]) rfl ⟨_, rfl, ?_, ?_⟩
      · exact (HR2.out.fr hfr (fun x hx => by simp at hx; omega)).lower (by omega)
      · exact HBw.out.trans ((HB2.out.mono (by omega)).trans hb3)

/-- What a call of the law has, in cells. -/
def encA (a : Ac) (pv : Value) : Value := .agg #[.int .i64 a.what, .int .i64 a.n, pv, .int .i64 a.wth]
set_option maxRecDepth 100000 in
set_option maxHeartbeats 1600000 in
theorem text_any {w : World} {pv : Value} {x0 x1 x3 : Int} {Ps : Parts} (h : SrcV w pv (Ps.map encS)) (hn : Ps.flatten.length ≤ 60000) (hk : Ps.length ≤ 1000) :
    Calls Try.prog 17 #[.agg #[.int .i64 x0, .int .i64 x1, pv, .int .i64 x3]] w fun e w' => e = .returned (.string (strB Ps.flatten)) ∧ Below w.heap.size w w' := by
  obtain ⟨a, c, rfl, hc1, hc2⟩ := h.formS
  obtain ⟨N, hN⟩ : ∃ N, N = Ps.length := ⟨_, rfl⟩
  have HNE := Lib.hid hN
  have HH := Lib.hid h
  have HN := Lib.hid hn
  rw [← hN] at hc1 hk HH ⊢
  have HK := Lib.hid hk
  have hkI : (N : Int) ≤ 1000 := by omega
  clear h hn hN hk
  go_enter Try.func17, Try.ntmps17
  go_wp2_with fail
  obtain ⟨W, hW⟩ : ∃ W, W = w.alloc (.cells #[.int .i64 x0, .int .i64 x1, .slice a N c, .int .i64 x3] 35) := ⟨_, rfl⟩
  have HWB : Hid (Below w.heap.size w W) := Lib.hid (by rw [hW]; exact below_alloc _ _)
  rw [← hW]
  clear hW
  go_loopw [3, 9] (fun sv i wr => ∃ k, k ≤ N ∧ i = .int .i64 (k : Nat) ∧ sv = .string (strB (Ps.take k).flatten) ∧ wr = W) (fun _ i _ => N - (intOf i).toNat)
  case atStart => exact ⟨0, Nat.zero_le _, rfl, rfl, rfl⟩
  case round =>
    obtain ⟨k, hkl, rfl, rfl, rfl⟩ := hrel
    by_cases hlt : k < N
    · have hltP : k < Ps.length := by rw [← HNE.out]; exact hlt
      obtain ⟨b, off, rfl, hbl, hcell⟩ := HH.out.strAt k hltP
      have hcx := below_cells HWB.out _ _ hcell
      have hap : Hid (strB (Ps.take k).flatten ++ strB Ps[k] = strB (Ps.take (k + 1)).flatten) := Lib.hid (by rw [strB_append, flat_take_succ Ps k hltP])
      have hkl2 : (k : Int) < (N : Int) := by omega
      have hl1 := strB_size (Ps.take k).flatten
      have hl2 := strB_size Ps[k]
      have hl3 : (Ps.take k).flatten.length + Ps[k].length ≤ 60000 := by have := flat_take_succ Ps k hltP; have h4 := flat_le' Ps k hltP; have := HN.out; omega
      rw [← hl1, ← hl2] at hl3
      generalize strB (Ps.take k).flatten = s1 at *
      generalize strB Ps[k] = s2 at *
      clear hcell hl1 hl2
      go_wp2_with fail
      go_roundw
      case rel => exact ⟨k + 1, by omega, by go_num, by rw [← hap.out], trivial⟩
      case measure => simp [intOf]; omega
    · obtain rfl : k = N := by omega
      have hT : Hid ((Ps.take k).flatten = Ps.flatten) := Lib.hid (by rw [HNE.out, List.take_length])
      rw [hT.out]
      go_wp2_with fail
      go_ret
      exact ⟨rfl, HWB.out⟩

/-- A stream that was made since the law began in the world w. -/
structure KF (w W : World) (m : Nat) (k : Fb) (x : Ft) : Prop where
  at' : FAt W m k x
  new : NewK w.heap.size m k
  be : Below w.heap.size w W
theorem NewK.inF {n m : Nat} {k : Fb} (h : NewK n m k) : ∀ i, i ∈ k.F → n ≤ i := by
  obtain ⟨h1, h2, h3, h4, h5⟩ := h
  intro i hi
  simp only [Fb.F, List.mem_cons, List.not_mem_nil, or_false] at hi
  omega
theorem NewK.le {n n' m : Nat} {k : Fb} (h : NewK n m k) (hn : n' ≤ n) : NewK n' m k := ⟨Nat.le_trans hn h.1, Nat.le_trans hn h.2.1, Nat.le_trans hn h.2.2.1, Nat.le_trans hn h.2.2.2.1, Nat.le_trans hn h.2.2.2.2⟩
section
variable {w W W' : World} {m : Nat} {k : Fb} {x y : Ft}
theorem KF.next (h : KF w W m k x) (hm : FAt W' m k y) (hf : Fr k.F W W') : KF w W' m k y := ⟨hm, h.new, h.be.trans (hf.below h.new.inF h.be.size)⟩
theorem KF.grow (h : KF w W m k x) (hb : Below W.heap.size W W') : KF w W' m k x := ⟨h.at'.grown hb, h.new, h.be.trans (hb.mono h.be.size)⟩
theorem kf_new (h0 : Below w.heap.size w W) {c : Nat} (h1 : 1 ≤ c) (h2 : c ≤ 4096) : Calls Try.prog 10 #[.int .i64 (c : Nat)] W fun e W' => ∃ m k, e = .returned (.tuple #[pt m, .int .i64 0]) ∧ KF w W' m k (Ft.new c) ∧ NewK W.heap.size m k ∧ Below W.heap.size W W' := by
  refine (flNew_ok W h1 h2).mono ?_
  rintro e W' ⟨m, k, rfl, h3, h4, h5⟩
  exact ⟨m, k, rfl, ⟨h3, h4.le h0.size, h0.trans (h5.mono h0.size)⟩, h4, h5⟩
theorem kf_cw (h : KF w W m k x) (c : Int) (hc : I64 c) (e : Int) (hy : cwC x c = (e, y)) : Calls Try.prog 21 #[pt m, .int .i64 c] W fun e' W' => e' = .returned (.int .i64 e) ∧ KF w W' m k y ∧ Fr k.F W W' := by
  have hr := flCloseWrite_any h.at' c hc
  rw [hy] at hr
  refine hr.mono ?_
  rintro e' W' ⟨rfl, hm, hf⟩
  exact ⟨rfl, h.next hm hf, hf⟩
theorem kf_cr (h : KF w W m k x) (c : Int) (hc : I64 c) (e : Int) (hy : crC x c = (e, y)) : Calls Try.prog 23 #[pt m, .int .i64 c] W fun e' W' => e' = .returned (.int .i64 e) ∧ KF w W' m k y ∧ Fr k.F W W' := by
  have hr := flCloseRead_any h.at' c hc
  rw [hy] at hr
  refine hr.mono ?_
  rintro e' W' ⟨rfl, hm, hf⟩
  exact ⟨rfl, h.next hm hf, hf⟩
theorem kf_write {c : Nat} {v : Value} {Ps : Parts} (h : KF w W m k x) (R : RopeAt W c v (full Ps)) (n : Nat) (e : Int) (hy : wrC x Ps.flatten = (n, e, y)) : Calls Try.prog 18 #[pt m, v] W fun e' W' => e' = .returned (.tuple #[.int .i64 (n : Nat), .int .i64 e]) ∧ KF w W' m k y ∧ Fr k.F W W' := by
  have hr := flWrite_any h.at' R
  rw [full_flat, hy] at hr
  refine hr.mono ?_
  rintro e' W' ⟨rfl, hm, hf⟩
  exact ⟨rfl, h.next hm hf, hf⟩
theorem kf_read (h : KF w W m k x) (n : Int) (L : List UInt8) (e : Int) (hy : rdC x n = (L, e, y)) : Calls Try.prog 22 #[pt m, .int .i64 n] W fun e' W' => ∃ a j c, e' = .returned (.tuple #[.slice a j c, .int .i64 e]) ∧ RowB W' W.heap.size (.slice a j c) L ∧ KF w W' m k y ∧ Fr k.F W W' := by
  have hr := flRead_any h.at' n
  rw [hy] at hr
  refine hr.mono ?_
  rintro e' W' ⟨vp, rfl, hrow, hm, hf⟩
  obtain ⟨a, j, c, rfl⟩ := row_form hrow
  exact ⟨a, j, c, rfl, hrow, h.next hm hf, hf⟩
theorem kf_of (h : KF w W m k x) {v : Value} {Ps : Parts} (hs : SrcV W v (Ps.map encS)) (hn : Ps.flatten.length ≤ 60000) (hk : Ps.length ≤ 1000) :
    Calls Try.prog 19 #[v] W fun e W' => ∃ x1 x2 x3 x4 x5 x6, e = .returned (.agg #[.slice x1 x2 x3, .slice x4 x5 x6]) ∧ RopeAt W' W.heap.size (.agg #[.slice x1 x2 x3, .slice x4 x5 x6]) (full Ps) ∧ KF w W' m k x ∧ Below W.heap.size W W' := by
  refine (of_any hs hn hk).mono ?_
  rintro e W' ⟨u, rfl, hR, hb⟩
  obtain ⟨x1, x2, x3, x4, x5, x6, rfl⟩ := hR.shape
  exact ⟨_, _, _, _, _, _, rfl, hR, h.grow hb, hb⟩
theorem strs_made (w : World) (Ps : Parts) (h : Ps.length ≤ 1000) (cs : Array Value) (hc : cs = (Ps.map encS).toArray) (n : Nat) (hn : n = Ps.length) : SrcV (w.alloc (.cells cs 9)) (.slice (some ⟨w.heap.size, 0, none⟩) n n) (Ps.map encS) := by
  subst hc hn
  have := (row_made w 9 (Ps.map encS) (by rw [List.length_map]; unfold maxLen; omega)).src
  rwa [List.length_map] at this
set_option maxRecDepth 100000 in
set_option maxHeartbeats 1600000 in
theorem writes_yes (h : KF w W m k x) {L : List UInt8} (hL : L.length ≤ 60000) (n : Nat) (e : Int) (hy : wrC x L = (n, e, y)) : Calls Try.prog 25 #[pt m, .string (strB L), .int .i64 (n : Nat), .int .i64 e] W fun e' W' => e' = .returned (.bool true) ∧ KF w W' m k y ∧ Fr k.F W W' := by
  have hg := below_alloc W (.cells #[.string (strB L)] 9)
  have hof := Lib.hid (kf_of (Ps := [L]) (h.grow hg) (strs_made W [L] (by simp) #[.string (strB L)] rfl 1 rfl) (by simpa using hL) (by simp))
  have HG := Lib.hid hg
  have hy2 : wrC x ([L] : Parts).flatten = (n, e, y) := by simpa using hy
  have HY := Lib.hid hy2
  clear h hL hy hy2 hg
  generalize strB L = s at *
  unfold pt at *
  go_enter Try.func25, Try.ntmps25
  go_wp2_with (go_at_call 19; fail)
  refine hof.out.mono ?_
  rintro e' W1 ⟨x1, x2, x3, x4, x5, x6, rfl, hR, hk, hb1⟩
  have hw := kf_write hk hR n e HY.out
  have HW := Lib.hid hw
  have HB := Lib.hid (HG.out.trans (hb1.mono HG.out.size))
  clear hR hk hb1 hw
  unfold pt at HW
  go_wp2_with (go_at_call 18; fail)
  refine HW.out.mono ?_
  rintro e' W2 ⟨rfl, hk2, hf2⟩
  have HK := Lib.hid hk2
  have HF := Lib.hid ((Fr.of_below HB.out k.F).trans' hf2)
  clear hk2 hf2
  go_wp2_with fail
  go_ret
  exact ⟨rfl, HK.out, HF.out⟩
set_option maxHeartbeats 1600000 in
theorem reads_yes (h : KF w W m k x) (n : Int) {L : List UInt8} (e : Int) (hy : rdC x n = (L, e, y)) : Calls Try.prog 20 #[pt m, .int .i64 n, .string (strB L), .int .i64 e] W fun e' W' => e' = .returned (.bool true) ∧ KF w W' m k y ∧ Fr k.F W W' := by
  have hr := Lib.hid (kf_read h n L e hy)
  clear h hy
  unfold pt at *
  go_enter Try.func20, Try.ntmps20
  go_wp2_with (go_at_call 22; fail)
  refine hr.out.mono ?_
  rintro e' W1 ⟨a, j, c, rfl, hrow, hk, hf⟩
  have hcv := row_str hrow
  have HK := Lib.hid hk
  have HF := Lib.hid hf
  have hq : (strB L).toList == (strB L).toList := by simp
  clear hk hf hrow
  generalize strB L = s at *
  go_wp2_with fail
  go_ret
  exact ⟨rfl, HK.out, HF.out⟩
end
end Go.Proofs.Ytaallpbcgabdnaa
