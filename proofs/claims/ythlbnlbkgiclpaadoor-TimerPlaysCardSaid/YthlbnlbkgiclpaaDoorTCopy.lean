/- Expire at Never; equal slices of timers that have expired; Copy. -/
import Derived.Test.YthlbnlbkgiclpaaDoorTExp
import Derived.Deep.RegionHeld3
namespace Go.Proofs.YthlbnlbkgiclpaaDoor
open Go.RowKit Go.Sort
set_option linter.unusedVariables false
set_option linter.unusedSimpArgs false

variable {w0 w : World} {G : Nat → Prop} {a bb hp : Nat} {vg : Value} {S : List El} {gs : List Nat} {P : Nat}

set_option maxRecDepth 100000 in
set_option maxHeartbeats 3200000 in
theorem texpire_never (T : TmIn w0 G w a S gs P) :
    Calls Tryd.prog 46 #[pt a, .int .u64 never] w fun e w' => e = .returned (.slice none 0 0) ∧ Grn w w' := by
  have HT := Lib.hid T
  clear T
  unfold pt
  go_enter Tryd.func46, Tryd.ntmps46
  go_wp2_with fail
  go_loopg [5] 0 (fun m v wr => m = 0 ∧ v = .slice none 0 0 ∧ wr = w)
  case atStart => exact ⟨rfl, rfl, rfl⟩
  case round =>
    obtain ⟨rfl, rfl, rfl⟩ := hrel
    cases hf : fstE S with
    | none =>
      obtain rfl := fstE_none hf
      have h1 := Lib.hid (tfirst_none HT.out)
      clear hf
      unfold pt noDue at h1
      go_wp2_with (go_at_call 55; refine h1.out.mono ?_; rintro e w2 ⟨rfl, hg2⟩)
      go_ret
      exact ⟨rfl, hg2.alloc _⟩
    | some e =>
      have h1 := Lib.hid (tfirst_some HT.out e hf)
      have hps := Lib.hid (fun w => passed_no e.k never (fun h => h.2 rfl) w)
      clear hf
      unfold pt dueV dueOf at h1
      unfold never at *
      generalize gs.getD e.h 0 = z at *
      generalize e.h = eh at *
      generalize e.v = ev at *
      generalize e.k = ek at *
      go_wp2_with (first | (go_at_call 55; refine h1.out.mono ?_; rintro e w2 ⟨rfl, hg2⟩) | (go_at_call 74; refine (hps.out _).mono ?_; rintro e w3 ⟨rfl, rfl⟩))
      go_ret
      exact ⟨rfl, hg2.alloc _⟩

/-- Do two lists agree, cell by cell? -/
def duEq (a b : Du) : Bool := decide ((a.n : Int) = b.n ∧ (a.g : Int) = b.g ∧ a.o = b.o ∧ a.k = b.k)
theorem du_ext {a b : Du} (h1 : (a.n : Int) = b.n) (h2 : (a.g : Int) = b.g) (h3 : a.o = b.o) (h4 : a.k = b.k) : a = b := by
  obtain ⟨a1, a2, a3, a4⟩ := a
  obtain ⟨b1, b2, b3, b4⟩ := b
  simp only at h1 h2 h3 h4
  have e1 : a1 = b1 := by omega
  have e2 : a2 = b2 := by omega
  subst e1 e2 h3 h4
  rfl

set_option maxRecDepth 100000 in
set_option maxHeartbeats 3200000 in
/-- Same says true of two slices that hold the same list. -/
theorem tsame_any {va vb : Value} {D : List Du} (ha : RowD w 0 va D) (hb : RowD w 0 vb D) (hl : D.length ≤ 2000) :
    Calls Tryd.prog 47 #[va, vb] w fun e w' => e = .returned (.bool true) ∧ ∃ n, w' = w.drewN n := by
  obtain ⟨a, ca, rfl⟩ := slice_form ha
  obtain ⟨b, cb, rfl⟩ := slice_form hb
  have HA := Lib.hid ha
  have HB := Lib.hid hb
  clear ha hb
  go_enter Tryd.func47, Tryd.ntmps47
  go_wp2_with fail
  go_loopw [5] (fun v wr => ∃ k n : Nat, k ≤ D.length ∧ v = .int .i64 k ∧ wr = w.drewN n) (fun v _ => D.length - (intOf v).toNat)
  case atStart => exact ⟨0, 0, Nat.zero_le _, rfl, rfl⟩
  case round =>
    obtain ⟨k, n, hk, rfl, rfl⟩ := hrel
    by_cases hlt : k < D.length
    · obtain ⟨x, hx⟩ : ∃ x, D[k]? = some x := ⟨_, List.getElem?_eq_getElem hlt⟩
      obtain ⟨ga, c1, h1, _, _⟩ := row_some HA.out (by omega)
      obtain ⟨gb, c2, h2, _, _⟩ := row_some HB.out (by omega)
      simp only [Value.slice.injEq, true_and] at h1 h2
      obtain ⟨rfl, rfl⟩ := h1
      obtain ⟨rfl, rfl⟩ := h2
      obtain ⟨a0, a1, a2, a3⟩ := HA.out.cells k x hx
      obtain ⟨b0, b1, b2, b3⟩ := HB.out.cells k x hx
      obtain ⟨xn, xg, xo, xk⟩ := x
      simp only at a0 a1 a2 a3 b0 b1 b2 b3
      have hki : (k : Int) < (D.length : Int) := by omega
      have hk0 : (0 : Int) ≤ (k : Int) := by omega
      have hDi : (D.length : Int) ≤ 2000 := by omega
      clear hx
      go_wp2_with fail
      go_quiet (fail)
      go_wp2_with fail
      go_roundw
      case rel => exact ⟨k + 1, _, by omega, by go_num, rfl⟩
      case measure => simp [intOf]; omega
    · obtain rfl : k = D.length := by omega
      go_wp2_with fail
      go_ret
      exact ⟨rfl, _, rfl⟩

/-- What a heap's blocks hold is all that counts. -/
theorem HeapAt.keepAll {w w' : World} {h : Hp} {S : List El} {P : Nat} (H : HeapAt w h S P) (ho : w'.os = w.os) (ht : w'.tape = w.tape) (hp : w'.output = w.output) (hs : w.heap.size ≤ w'.heap.size) (hk : ∀ k, k ∈ h.foot → w'.heap[k]? = w.heap[k]?) : HeapAt w' h S P := by
  have hf : Fr ((List.range w.heap.size).filter fun k => decide (k ∉ h.foot)) w w' := by
    refine ⟨ho, ht, hp, hs, fun k hk' hn => hk k ?_⟩
    simp only [List.mem_filter, List.mem_range, decide_eq_true_eq, not_and, Classical.not_not] at hn
    exact hn hk'
  exact H.frame hf (fun k hk' hm => by
    simp only [List.mem_filter, List.mem_range, decide_eq_true_eq] at hm
    exact hm.2 hk')

/-- Timers' own blocks: whatever else the world does. -/
theorem TmIn.foot (T : TmIn w0 G w a S gs P) : ∃ F : Nat → Prop, (∀ k, F k → w0.heap.size ≤ k ∧ k < w.heap.size ∧ ¬ G k) ∧
    ∀ (w0' : World) (G' : Nat → Prop) (w' : World), w'.os = w.os → w'.tape = w.tape → w'.output = w.output → w.heap.size ≤ w'.heap.size → (∀ k, F k → w'.heap[k]? = w.heap[k]?) → Below w0'.heap.size w0' w' →
      (∀ k, F k → w0'.heap.size ≤ k ∧ ¬ G' k) → (∀ k, G' k → k < w'.heap.size) → TmIn w0' G' w' a S gs P := by
  obtain ⟨bb, hp, vg, B⟩ := T.ex
  obtain ⟨h, hha, HA, h1, h2⟩ := B.H.ex
  refine ⟨fun k => k ∈ h.foot ∨ k = a ∨ k = bb ∨ vg.ownBlock = some k, fun k hk => ?_, fun w0' G' w' ho ht hp' hs hk hb hF hG => ?_⟩
  · rcases hk with hk | rfl | rfl | hk
    · exact ⟨h1 k hk, HA.lt_foot k hk, fun hg => h2 k hk (.inl hg)⟩
    · exact ⟨B.ba, B.alt, B.na⟩
    · exact ⟨B.bb0, B.blt, B.nb⟩
    · exact ⟨(B.tg.lt k hk).1, (B.tg.lt k hk).2, B.ng k hk⟩
  · refine ⟨⟨bb, hp, vg, ⟨⟨⟨h, hha, HA.keepAll ho ht hp' hs (fun k hk' => hk k (.inl hk')), fun k hk' => (hF k (.inl hk')).1, fun k hk' hg => ?_⟩, fun k hk' => ?_, hb⟩, (hk a (.inr (.inl rfl))).trans B.ta, (hk bb (.inr (.inr (.inl rfl)))).trans B.tb, ?_, (hF a (.inr (.inl rfl))).2, (hF bb (.inr (.inr (.inl rfl)))).2, fun g hg => (hF g (.inr (.inr (.inr hg)))).2, (hF a (.inr (.inl rfl))).1, (hF bb (.inr (.inr (.inl rfl)))).1, B.gl⟩⟩, T.p⟩
    · rcases hg with hg | rfl | rfl | hg
      · exact (hF k (.inl hk')).2 hg
      · exact h2 _ hk' (.inr (.inl rfl))
      · exact h2 _ hk' (.inr (.inr (.inl rfl)))
      · exact h2 _ hk' (.inr (.inr (.inr hg)))
    · rcases hk' with hg | rfl | rfl | hg
      · exact hG k hg
      · exact Nat.lt_of_lt_of_le B.alt hs
      · exact Nat.lt_of_lt_of_le B.blt hs
      · exact Nat.lt_of_lt_of_le (B.tg.lt k hg).2 hs
    · refine ⟨B.tg.1, ?_⟩
      rcases B.tg.2 with h' | ⟨g, cap, cur, rfl, hbg, hg, r⟩
      · exact .inl h'
      · exact .inr ⟨g, cap, cur, rfl, (hF g (.inr (.inr (.inr rfl)))).1, (hk g (.inr (.inr (.inr rfl)))).trans hg, r⟩

theorem tcopy_mem {wc wd : World} {h' : Hp} {v' : Value} (h0 : Below w0.heap.size w0 w) (hbx : Below w.heap.size w wd) (hcs : w.heap.size ≤ wc.heap.size) (hA : HeapAt wc h' S P) (hF : ∀ k, k ∈ h'.foot → w.heap.size ≤ k) (hbd : Below wc.heap.size wc wd)
    (hrow : wd.ownsRow wc.heap.size 3 1 v' gs.length (gs.map encN)) (hgl : gs.length ≤ 1024) (Tp : TmP S gs P) :
    TmIn w0 (fun k => k < w.heap.size) ((wd.alloc (.cells #[.pointer (some ⟨h'.a, 0, none⟩), v'] 112)).alloc (.cells #[.pointer (some ⟨wd.heap.size, 0, none⟩)] 114)) (wd.heap.size + 1) S gs P ∧
    Below w.heap.size w ((wd.alloc (.cells #[.pointer (some ⟨h'.a, 0, none⟩), v'] 112)).alloc (.cells #[.pointer (some ⟨wd.heap.size, 0, none⟩)] 114)) := by
  have hb2 : Below wd.heap.size wd ((wd.alloc (.cells #[.pointer (some ⟨h'.a, 0, none⟩), v'] 112)).alloc (.cells #[.pointer (some ⟨wd.heap.size, 0, none⟩)] 114)) := ((Below.refl _ _).alloc (Nat.le_refl _) _).alloc (by simp) _
  have hs0 := h0.size
  have hs1 := hbx.size
  have hs2 := hbd.size
  have hB : Below w.heap.size w ((wd.alloc (.cells #[.pointer (some ⟨h'.a, 0, none⟩), v'] 112)).alloc (.cells #[.pointer (some ⟨wd.heap.size, 0, none⟩)] 114)) := hbx.trans (hb2.mono hs1)
  have hZ : ((wd.alloc (.cells #[.pointer (some ⟨h'.a, 0, none⟩), v'] 112)).alloc (.cells #[.pointer (some ⟨wd.heap.size, 0, none⟩)] 114)).heap.size = wd.heap.size + 2 := by simp
  have hlf := hA.lt_foot
  have hown := hrow.lt
  refine ⟨⟨⟨wd.heap.size, h'.a, v', ⟨⟨⟨h', rfl, (hA.frame (Fr.of_below hbd []) (fun _ _ => by simp)).frame (Fr.of_below hb2 []) (fun _ _ => by simp), fun k hk => Nat.le_trans hs0 (hF k hk), fun k hk hg => ?_⟩, fun k hk => ?_, h0.trans (hB.mono hs0)⟩, block_new _ _ _ (by simp), ?_, ?_, ?_, ?_, fun g hg h => ?_, by omega, by omega, hgl⟩⟩, Tp⟩, hB⟩
  · have h1 := hlf k hk
    have h2 := hF k hk
    rcases hg with h | rfl | rfl | h
    · omega
    · omega
    · omega
    · have := (hown k h).1; omega
  · rw [hZ]
    rcases hk with h | rfl | rfl | h
    · omega
    · omega
    · omega
    · have := (hown k h).2; omega
  · exact ((Below.refl _ _).alloc (Nat.le_refl _) _ : Below _ (wd.alloc _) _).block wd.heap.size (by simp) |>.trans (block_new _ _ _ rfl)
  · exact (Fr.of_below hb2 []).row (ownsRow_mono hrow (by omega)) (fun _ _ => by simp)
  · show ¬ (_ < _); omega
  · show ¬ (_ < _); omega
  · have h' : g < w.heap.size := h
    have := (hown g hg).1; omega

set_option maxRecDepth 100000 in
set_option maxHeartbeats 3200000 in
theorem tcopy_in (T : TmIn w0 G w a S gs P) :
    Calls Tryd.prog 53 #[pt a] w fun e w' => ∃ c, e = .returned (pt c) ∧ Below w.heap.size w w' ∧ TmIn w0 (fun k => k < w.heap.size) w' c S gs P := by
  have Tp := Lib.hid T.p
  obtain ⟨bb, hp, vg, B⟩ := T.ex
  have hu := Lib.hid (usable_in B)
  have hcopy : Hid (∀ W, Below w.heap.size w W → Calls Tryd.prog 31 #[.pointer (some ⟨hp, 0, none⟩)] W fun e w' => ∃ h', e = .returned h'.ptr ∧ HeapAt w' h' S P ∧ Below W.heap.size W w' ∧ ∀ k, k ∈ h'.foot → W.heap.size ≤ k) := Lib.hid (fun W hb => by
    obtain ⟨h, hha, HA, _⟩ := (B.H.grown hb).ex
    have := copy_any HA
    rwa [ptr_of hha] at this)
  have hclone : Hid (∀ W, Below w.heap.size w W → Calls Tryd.prog 59 #[vg] W fun e w' => ∃ v', e = .returned v' ∧ w'.ownsRow W.heap.size 3 1 v' gs.length (gs.map encN) ∧ Below W.heap.size W w') := Lib.hid (fun W hb =>
    cloneI_any (ownsRow_mono ((Fr.of_below hb []).row B.tg (fun _ _ => by simp)) (Nat.zero_le _)) (by have := B.gl; omega))
  have ca := B.ca
  have cb := B.cb
  have cg := B.cg
  have al := B.alt
  have bl := B.blt
  have hgl := Lib.hid B.gl
  have h0 := Lib.hid B.H.below
  obtain ⟨va, vc, rfl⟩ := slice_form B.tg
  have hbx : Below w.heap.size w w.drew := (Below.refl _ _).drew
  clear T B
  unfold pt
  go_enter Tryd.func53, Tryd.ntmps53
  go_wp2_with (go_at_call 54; refine hu.out.mono ?_; rintro e w2 ⟨rfl, rfl⟩)
  go_region_held3 (fun w' => w'.cell? ⟨a, 0, none⟩ = some (.pointer (some ⟨bb, 0, none⟩)) ∧ w'.cell? ⟨bb, 0, none⟩ = some (.pointer (some ⟨hp, 0, none⟩)) ∧ w'.cell? ⟨bb, 1, none⟩ = some (.slice va gs.length vc)) (go_keep) (first | (go_at_call 31; refine (hcopy.out _ hbx).mono ?_; rintro e wc ⟨h', rfl, hA, hbc, hF⟩; unfold Hp.ptr; have hbx := hbx.trans (hbc.mono hbx.size); have k1 := (hbx.cell (p := ⟨a, 0, none⟩) al).trans ca; have k2 := (hbx.cell (p := ⟨bb, 0, none⟩) bl).trans cb; have k3 := (hbx.cell (p := ⟨bb, 1, none⟩) bl).trans cg) | (go_at_call 59; refine (hclone.out _ hbx).mono ?_; rintro e wd ⟨v', rfl, hrow, hbd⟩; obtain ⟨va', vc', rfl⟩ := slice_form hrow; have hbx := hbx.trans (hbd.mono hbx.size); have k1 := (hbx.cell (p := ⟨a, 0, none⟩) al).trans ca; have k2 := (hbx.cell (p := ⟨bb, 0, none⟩) bl).trans cb; have k3 := (hbx.cell (p := ⟨bb, 1, none⟩) bl).trans cg))
  have hfin := Lib.hid (tcopy_mem (gs := gs) (S := S) (P := P) (h' := h') (v' := .slice va' gs.length vc') h0.out hbx (by have := hbc.size; exact this) hA (fun k hk => hF k hk) hbd hrow hgl.out Tp.out)
  clear hA hbc hF hbd hrow
  go_wp2_with fail
  go_ret
  exact ⟨_, rfl, hfin.out.2, hfin.out.1⟩
end Go.Proofs.YthlbnlbkgiclpaaDoor
