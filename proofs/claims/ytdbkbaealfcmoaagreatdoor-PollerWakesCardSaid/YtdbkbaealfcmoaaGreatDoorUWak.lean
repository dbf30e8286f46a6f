/- The walk of PollerWakes. -/
import Derived.Test.YtdbkbaealfcmoaaGreatDoorUWkM
namespace Go.Proofs.YtdbkbaealfcmoaaGreatDoor
open Go.RowKit Go.Sort
set_option linter.unusedVariables false
set_option linter.unusedSimpArgs false
theorem wpList_unguard {P : Program} {ops : Array Oper} {Q : Exit → Act → World → Prop} {a : Act} {w : World} {rest : List Oper} {o : Oper} (hw : Region.wanted o (yielded ops a.tmps) = true) (h : wpList P ops Q ({ o with guard := none } :: rest) a w) : wpList P ops Q (o :: rest) a w := by
  unfold wpList at h ⊢
  rw [if_pos hw]
  have hn : Region.wanted { o with guard := none } (yielded ops a.tmps) = true := by simp [Region.wanted]
  rw [if_pos hn] at h
  exact h
theorem bit_or (x : Int) : bits BinOp.and IntKind.u64 x 1 = 0 ∨ bits BinOp.and IntKind.u64 x 1 = 1 := by
  unfold bits
  simp only [IntKind.bits]
  generalize BitVec.ofInt 64 x = b
  have h1 : (b &&& BitVec.ofInt 64 1).toNat = b.toNat % 2 := by
    rw [BitVec.toNat_and, show (BitVec.ofInt 64 1).toNat = 1 from rfl, Nat.and_one_is_mod]
  have h2 : ∀ n : Nat, n = b.toNat % 2 → IntKind.u64.wrap ((n : Nat) : Int) = 0 ∨ IntKind.u64.wrap ((n : Nat) : Int) = 1 := fun n hn => by
    rcases Nat.mod_two_eq_zero_or_one b.toNat with h | h
    · rw [hn, h]; exact .inl rfl
    · rw [hn, h]; exact .inr rfl
  exact h2 _ h1
def wF (file dirs : Int) (j : Nat) : Sp := (bits BinOp.and IntKind.u64 (file / 2 ^ j) 1, bits BinOp.and IntKind.u64 (dirs / 2 ^ j) 1)
theorem wF_in (file dirs : Int) (j : Nat) : wF file dirs j ∈ spots4 := by
  unfold wF
  rcases bit_or (file / 2 ^ j) with h1 | h1 <;> rcases bit_or (dirs / 2 ^ j) with h2 | h2 <;> rw [h1, h2] <;> decide
theorem wT_gen : ∀ (n : Nat) (q : Sl.Pl), wT[n]? = some q → q.g ≤ 1000000 := by
  intro n q hq
  unfold wT at hq
  rcases List.mem_or_eq_of_mem_set (List.mem_of_getElem? hq) with h | h
  · rcases List.mem_or_eq_of_mem_set h with h | h
    · rw [(List.mem_replicate.1 h).2]; decide
    · rw [h]; decide
  · rw [h]; decide
theorem wT_gen2 : ∀ (n : Nat) (q : Sl.Pl), (wT.set 0 ⟨false, 1, 0⟩)[n]? = some q → q.g ≤ 1000000 := by
  intro n q hq
  rcases List.mem_or_eq_of_mem_set (List.mem_of_getElem? hq) with h | h
  · obtain ⟨m, hm⟩ := List.getElem?_of_mem h
    exact wT_gen m q hm
  · rw [h]; decide
/-- All have been woken; the list of all is kept. -/
structure TlS (w wr : World) (p : Nat) (va : Value) (f : Nat → Sp) (c : Nat) (y : Int) : Prop where
  ex : ∃ Bs x G P, LSt w wr Bs p x G P ∧ WkS f c spots4 y x ∧ G ≤ 100000
  row : Row TI wr w.heap.size va (cat (wlL f c spots4))
theorem TlS.below {w wr w2 : World} {p : Nat} {va : Value} {f : Nat → Sp} {c : Nat} {y : Int} (h : TlS w wr p va f c y) (hb : Below wr.heap.size wr w2) : TlS w w2 p va f c y := by
  obtain ⟨⟨Bs, x, G, P, h1, h2, h3⟩, hr⟩ := h
  exact ⟨⟨Bs, x, G, P, h1.grown hb, h2, h3⟩, hr.below hb⟩
theorem TlS.all {w wr : World} {p : Nat} {va : Value} {f : Nat → Sp} {c : Nat} {y : Int} (h : TlS w wr p va f c y) : Below w.heap.size w wr := by
  obtain ⟨⟨Bs, x, G, P, h1, h2, h3⟩, hr⟩ := h
  exact h1.below
theorem TlS.reason {w wr : World} {p : Nat} {va : Value} {f : Nat → Sp} {c : Nat} {y : Int} (h : TlS w wr p va f c y) (hf : ∀ j, f j ∈ spots4) {i : Nat} (hi : i < c) : Calls Tryz.prog 35 #[.pointer (some ⟨p, 0, none⟩), .int .i64 ((i : Nat) : Int), .int .i64 y] wr fun e w' => e = .returned (.bool true) ∧ Below wr.heap.size wr w' := by
  obtain ⟨⟨Bs, x, G, P, h1, h2, h3⟩, hr⟩ := h
  exact reason_yes h1 (rsn_all (fun j _ => hf j) h2.z h2.R (by simp) hi)
theorem TlS.ready {w wr : World} {p : Nat} {va : Value} {f : Nat → Sp} {c : Nat} {y : Int} (h : TlS w wr p va f c y) : Calls Tryz.prog 31 #[.pointer (some ⟨p, 0, none⟩)] wr fun e w' => ∃ v, e = .returned v ∧ Row TI w' wr.heap.size v (cat (wlL f c spots4)) ∧ Below wr.heap.size wr w' := by
  obtain ⟨⟨Bs, x, G, P, h1, h2, h3⟩, hr⟩ := h
  have := ls_ready h1 (by omega)
  rw [show x.z.R = cat (wlL f c spots4) by rw [h2.z]; exact wlL_R (by decide)] at this
  exact this
theorem wlL_len (f : Nat → Sp) (c : Nat) : (cat (wlL f c spots4)).length ≤ 4 * c := by
  rw [← all4]
  simp only [List.length_append, List.length_nil]
  have := all4_len f c 0; have := all4_len f c 1; have := all4_len f c 2; have := all4_len f c 3
  omega
set_option maxRecDepth 100000 in
set_option maxHeartbeats 12800000 in
theorem wakes_main (c : Nat) (file dirs : Int) (b : Bool) (w : World) (hL : MvAt w ∧ Dl.Tab w) (h1 : 1 ≤ c) (h2 : c ≤ 64) :
    Calls Tryz.prog 6 #[.int .i64 ((c : Nat) : Int), .int .u64 file, .int .u64 dirs, .bool b] w fun e w' => e = .returned (.bool true) ∧ Below w.heap.size w w' := by
  have HT := Lib.hid hL.2
  have HM := Lib.hid hL
  have HN := Lib.hid (ls_new (w0 := w) (Bs := fun _ => False) (Below.refl _ w) hL.1 hL.1.lt (fun k hk => hk.elim) c h1 h2 (nw := 10) (by unfold Dl.never; omega))
  have HCC := Lib.hid (And.intro h1 h2)
  have d1 : decide (((c : Nat) : Int) < 1) = false := by simp; omega
  have d2 : decide (64 < ((c : Nat) : Int)) = false := by simp; omega
  have hcI : ((c : Nat) : Int) ≤ 64 := by omega
  obtain ⟨f, hfd⟩ : ∃ f, f = wF file dirs := ⟨_, rfl⟩
  have HFI : Hid (∀ j, f j ∈ spots4) := Lib.hid (fun j => by rw [hfd]; exact wF_in file dirs j)
  have HFD := Lib.hid hfd
  clear hL h1 h2 hfd
  go_enter Tryz.func6, Tryz.ntmps6
  go_wp2_with (go_at_call 9; fail)
  refine HN.out.mono ?_
  rintro e w1 ⟨p, rfl, hl, hb⟩
  have HL := Lib.hid hl
  have hf := Lib.hid (fd_any w1 0 0)
  clear hl hb HN d1 d2
  go_wp2_with (go_at_call 14; fail)
  refine hf.out.mono ?_
  rintro e w2 ⟨rfl, hb⟩
  have HL2 := Lib.hid (HL.out.grown hb)
  have ho := Lib.hid (opens_yes HL2.out (pO_open c))
  clear hb hf HL
  go_wp2_with (go_at_call 17; fail)
  refine ho.out.mono ?_
  rintro e w3 ⟨rfl, hp⟩
  have HL := Lib.hid hp.st
  have hf := Lib.hid (fd_any w3 1 0)
  clear hp ho HL2
  go_wp2_with (go_at_call 14; fail)
  refine hf.out.mono ?_
  rintro e w4 ⟨rfl, hb⟩
  have HL2 := Lib.hid (HL.out.grown hb)
  have ho := Lib.hid (opens_yes HL2.out (pO_open2 f c))
  clear hb hf HL
  go_wp2_with (go_at_call 17; fail)
  refine ho.out.mono ?_
  rintro e w5 ⟨rfl, hp⟩
  obtain ⟨W, hW, hg, hs, hb⟩ := alloc1 w5 (.cells #[.slice none 0 0, .slice none 0 0, .slice none 0 0, .slice none 0 0] 91)
  obtain ⟨aw, haw⟩ : ∃ aw, aw = w5.heap.size := ⟨_, rfl⟩
  obtain ⟨vs0, hvs0⟩ : ∃ vs : Nat → Value, vs = fun _ => .slice none 0 0 := ⟨_, rfl⟩
  have HL : Hid (LSt w W (WBs aw vs0) p (pW f c 0) (2 * 0) 0) := Lib.hid (hp.st.more hg.below (fun k hk => by
    rcases hk with rfl | ⟨i, hi, hk⟩
    · exact .inr ⟨by omega, by omega⟩
    · rw [hvs0] at hk; simp [Value.ownBlock] at hk))
  have HWm : Hid (WLm w W aw vs0 f 0) := Lib.hid ⟨by rw [hvs0, haw]; exact hb, fun i hi => by rw [hvs0]; exact Row.nil W _, fun i j g hi hj hij hg' => by rw [hvs0] at hg'; simp [Value.ownBlock] at hg'⟩
  have HWW := Lib.hid hW
  have HAW := Lib.hid haw
  clear hp ho HL2 hW hg hs hb haw hvs0
  go_upto_region 7 with (fail)
  rw [HWW.out, ← HAW.out]
  clear HWW HAW
  go_wp2_with fail
  have HLs := HL
  have HWs := HWm
  clear HL HWm
  go_loopw [12] (fun i wr => ∃ k : Nat, k ≤ c ∧ i = .int .i64 ((k : Nat) : Int) ∧ ∃ vs, Hid (LSt w wr (WBs aw vs) p (pW f c k) (2 * k) 0) ∧ Hid (WLm w wr aw vs f k)) (fun i _ => c - (intOf i).toNat)
  case atStart => exact ⟨0, Nat.zero_le _, rfl, vs0, HLs, HWs⟩
  case round =>
    obtain ⟨k, hk, rfl, vs, HL, HWm⟩ := hrel
    clear HLs HWs vs0
    by_cases hlt : k < c
    · have q3 : (k : Int) < (c : Int) := by omega
      have q4 : k < 64 := by omega
      have q5 : (k : Int) < 64 := by omega
      have HLT := Lib.hid hlt
      rcases bit_or (file / 2 ^ k) with hb1 | hb1
      · rcases bit_or (dirs / 2 ^ k) with hb2 | hb2
        · have HFK : Hid (f k = (0, 0)) := Lib.hid (by rw [HFD.out]; unfold wF; rw [hb1, hb2])
          have q := ls_start HL.out (by have := HCC.out; omega) ((k : Nat) : Int)
          rw [pW_start hlt] at q
          simp only at q
          have HC := Lib.hid q
          clear q
          go_wp2_with (go_at_call 28; fail)
          refine HC.out.mono ?_
          rintro e u1 ⟨rfl, hp⟩
          have HL1 := Lib.hid hp.st
          have HM1 := Lib.hid (HWm.out.keep hp.keep)
          have hf := Lib.hid (fd_any u1 0 0)
          clear hp HC HL HWm
          go_wp2_with (go_at_call 14; fail)
          refine hf.out.mono ?_
          rintro e u2 ⟨rfl, hb⟩
          have HL2 := Lib.hid (HL1.out.grown hb)
          have HM2 := Lib.hid (HM1.out.below hb)
          have q := ls_wait HL2.out (by have := HCC.out; omega) ((k : Nat) : Int) 0 0 0
          have ew := pW_wait (f := f) HLT.out (HFI.out k)
          rw [HFK.out] at ew
          simp only at ew
          rw [ew] at q
          simp only at q
          have HC := Lib.hid q
          clear q ew hb hf HL1 HM1
          go_wp2_with (go_at_call 27; fail)
          refine HC.out.mono ?_
          rintro e u3 ⟨rfl, hp⟩
          have ha := below_alloc u3 (.cells #[.int .i64 ((k : Nat) : Int)] 3)
          have HL3 := Lib.hid (hp.st.grown ha)
          have hm3 := (HM2.out.keep hp.keep).below ha
          have HM3 := Lib.hid hm3
          obtain ⟨am, cm, hvm, y1, y2⟩ := (hm3.R 0 (by omega)).form
          have HVM := Lib.hid hvm
          have kA : ∀ V, Below u3.heap.size u3 V → V.cell? ⟨aw, 0, none⟩ = some (vs 0) := fun V hV => cells_cell (o := 0) ((hV.block _ (lt_of_block (HM2.out.keep hp.keep).A)).trans (HM2.out.keep hp.keep).A) rfl
          have k0 := kA u3 (Below.refl _ _)
          have k1 := kA _ ha
          clear kA
          have HSRC : Hid (Src TI (u3.alloc (.cells #[.int .i64 ((k : Nat) : Int)] 3)) (.slice (some ⟨u3.heap.size, 0, none⟩) 1 1) [((k : Nat) : Int)]) := Lib.hid (src_new TI_ok u3 ((k : Nat) : Int) #[.int .i64 ((k : Nat) : Int)] rfl)
          have HLEN : Hid ((cat (qs f (spP 0) k)).length ≤ 64) := Lib.hid (by have := qs_len f (spP 0) k; simp [cat]; omega)
          have HW0 : Hid (w.heap.size ≤ (u3.alloc (.cells #[.int .i64 ((k : Nat) : Int)] 3)).heap.size) := Lib.hid HL3.out.below.size
          rw [hvm] at k0 k1
          have HROW : Hid (Row TI (u3.alloc (.cells #[.int .i64 ((k : Nat) : Int)] 3)) w.heap.size (.slice am (cat (qs f (spP 0) k)).length cm) (cat (qs f (spP 0) k))) := Lib.hid (by rw [← hvm]; exact hm3.R 0 (by omega))
          clear hp ha hm3 hvm y1 y2 HC HL2 HM2
          go_wp2_with (at_builtin; refine wpList_append_g TI_ok rfl (.tmp 98) (.tmp 100) rfl rfl rfl HROW.out HW0.out HSRC.out (Nat.le_trans (Nat.add_le_add_right HLEN.out 1) (by decide)) ?_)
          intro v' u5 hr5 hf5 hn5
          rw [← HVM.out] at hf5 hn5
          obtain ⟨hm6, hl6⟩ := HM3.out.put HL3.out (m := 0) (by omega) (by rw [HFK.out]; kernel_rfl) hr5 hf5 hn5
          have HA5 : u5.heap[aw]? = some (.cells #[vs 0, vs 1, vs 2, vs 3] 91 (0, 0)) := hf5.same HM3.out.A (fun hc => by
            simp only [Option.mem_toList] at hc
            exact (HM3.out.R 0 (by omega)).ne HM3.out.A (by decide) aw hc rfl)
          obtain ⟨a', c', hv', y1, y2⟩ := hr5.form
          rw [List.length_append, List.length_singleton] at hv'
          subst hv'
          have z5 := cells_free HA5 0
          have z6 := cells_cell (o := 0) HA5 rfl
          have z7 := lt_of_block HA5
          have HL6 := Lib.hid hl6
          have HM6 := Lib.hid hm6
          clear hm6 hl6 hr5 hf5 hn5 HA5 y1 y2 k0 k1 HM3 HL3 HROW HSRC
          go_wp2_with fail
          go_roundw
          case rel => exact ⟨k + 1, HLT.out, by go_num, updV vs 0 (.slice a' ((cat (qs f (spP 0) k)).length + 1) c'), Lib.hid (HL6.out.mono (by omega) (Nat.le_refl _)), HM6⟩
          case measure => simp [intOf]; omega
        · have HFK : Hid (f k = (0, 1)) := Lib.hid (by rw [HFD.out]; unfold wF; rw [hb1, hb2])
          have q := ls_start HL.out (by have := HCC.out; omega) ((k : Nat) : Int)
          rw [pW_start hlt] at q
          simp only at q
          have HC := Lib.hid q
          clear q
          go_wp2_with (go_at_call 28; fail)
          refine HC.out.mono ?_
          rintro e u1 ⟨rfl, hp⟩
          have HL1 := Lib.hid hp.st
          have HM1 := Lib.hid (HWm.out.keep hp.keep)
          have hf := Lib.hid (fd_any u1 0 0)
          clear hp HC HL HWm
          go_wp2_with (go_at_call 14; fail)
          refine hf.out.mono ?_
          rintro e u2 ⟨rfl, hb⟩
          have HL2 := Lib.hid (HL1.out.grown hb)
          have HM2 := Lib.hid (HM1.out.below hb)
          have q := ls_wait HL2.out (by have := HCC.out; omega) ((k : Nat) : Int) 0 0 1
          have ew := pW_wait (f := f) HLT.out (HFI.out k)
          rw [HFK.out] at ew
          simp only at ew
          rw [ew] at q
          simp only at q
          have HC := Lib.hid q
          clear q ew hb hf HL1 HM1
          go_wp2_with (go_at_call 27; fail)
          refine HC.out.mono ?_
          rintro e u3 ⟨rfl, hp⟩
          have ha := below_alloc u3 (.cells #[.int .i64 ((k : Nat) : Int)] 3)
          have HL3 := Lib.hid (hp.st.grown ha)
          have hm3 := (HM2.out.keep hp.keep).below ha
          have HM3 := Lib.hid hm3
          obtain ⟨am, cm, hvm, y1, y2⟩ := (hm3.R 1 (by omega)).form
          have HVM := Lib.hid hvm
          have kA : ∀ V, Below u3.heap.size u3 V → V.cell? ⟨aw, 1, none⟩ = some (vs 1) := fun V hV => cells_cell (o := 1) ((hV.block _ (lt_of_block (HM2.out.keep hp.keep).A)).trans (HM2.out.keep hp.keep).A) rfl
          have k0 := kA u3 (Below.refl _ _)
          have k1 := kA _ ha
          clear kA
          have HSRC : Hid (Src TI (u3.alloc (.cells #[.int .i64 ((k : Nat) : Int)] 3)) (.slice (some ⟨u3.heap.size, 0, none⟩) 1 1) [((k : Nat) : Int)]) := Lib.hid (src_new TI_ok u3 ((k : Nat) : Int) #[.int .i64 ((k : Nat) : Int)] rfl)
          have HLEN : Hid ((cat (qs f (spP 1) k)).length ≤ 64) := Lib.hid (by have := qs_len f (spP 1) k; simp [cat]; omega)
          have HW0 : Hid (w.heap.size ≤ (u3.alloc (.cells #[.int .i64 ((k : Nat) : Int)] 3)).heap.size) := Lib.hid HL3.out.below.size
          rw [hvm] at k0 k1
          have HROW : Hid (Row TI (u3.alloc (.cells #[.int .i64 ((k : Nat) : Int)] 3)) w.heap.size (.slice am (cat (qs f (spP 1) k)).length cm) (cat (qs f (spP 1) k))) := Lib.hid (by rw [← hvm]; exact hm3.R 1 (by omega))
          clear hp ha hm3 hvm y1 y2 HC HL2 HM2
          go_wp2_with (at_builtin; refine wpList_append_g TI_ok rfl (.tmp 98) (.tmp 100) rfl rfl rfl HROW.out HW0.out HSRC.out (Nat.le_trans (Nat.add_le_add_right HLEN.out 1) (by decide)) ?_)
          intro v' u5 hr5 hf5 hn5
          rw [← HVM.out] at hf5 hn5
          obtain ⟨hm6, hl6⟩ := HM3.out.put HL3.out (m := 1) (by omega) (by rw [HFK.out]; kernel_rfl) hr5 hf5 hn5
          have HA5 : u5.heap[aw]? = some (.cells #[vs 0, vs 1, vs 2, vs 3] 91 (0, 0)) := hf5.same HM3.out.A (fun hc => by
            simp only [Option.mem_toList] at hc
            exact (HM3.out.R 1 (by omega)).ne HM3.out.A (by decide) aw hc rfl)
          obtain ⟨a', c', hv', y1, y2⟩ := hr5.form
          rw [List.length_append, List.length_singleton] at hv'
          subst hv'
          have z5 := cells_free HA5 1
          have z6 := cells_cell (o := 1) HA5 rfl
          have z7 := lt_of_block HA5
          have HL6 := Lib.hid hl6
          have HM6 := Lib.hid hm6
          clear hm6 hl6 hr5 hf5 hn5 HA5 y1 y2 k0 k1 HM3 HL3 HROW HSRC
          go_wp2_with fail
          go_roundw
          case rel => exact ⟨k + 1, HLT.out, by go_num, updV vs 1 (.slice a' ((cat (qs f (spP 1) k)).length + 1) c'), Lib.hid (HL6.out.mono (by omega) (Nat.le_refl _)), HM6⟩
          case measure => simp [intOf]; omega
      · rcases bit_or (dirs / 2 ^ k) with hb2 | hb2
        · have HFK : Hid (f k = (1, 0)) := Lib.hid (by rw [HFD.out]; unfold wF; rw [hb1, hb2])
          have q := ls_start HL.out (by have := HCC.out; omega) ((k : Nat) : Int)
          rw [pW_start hlt] at q
          simp only at q
          have HC := Lib.hid q
          clear q
          go_wp2_with (go_at_call 28; fail)
          refine HC.out.mono ?_
          rintro e u1 ⟨rfl, hp⟩
          have HL1 := Lib.hid hp.st
          have HM1 := Lib.hid (HWm.out.keep hp.keep)
          have hf := Lib.hid (fd_any u1 1 0)
          clear hp HC HL HWm
          go_wp2_with (go_at_call 14; fail)
          refine hf.out.mono ?_
          rintro e u2 ⟨rfl, hb⟩
          have HL2 := Lib.hid (HL1.out.grown hb)
          have HM2 := Lib.hid (HM1.out.below hb)
          have q := ls_wait HL2.out (by have := HCC.out; omega) ((k : Nat) : Int) 1 0 0
          have ew := pW_wait (f := f) HLT.out (HFI.out k)
          rw [HFK.out] at ew
          simp only at ew
          rw [ew] at q
          simp only at q
          have HC := Lib.hid q
          clear q ew hb hf HL1 HM1
          go_wp2_with (go_at_call 27; fail)
          refine HC.out.mono ?_
          rintro e u3 ⟨rfl, hp⟩
          have ha := below_alloc u3 (.cells #[.int .i64 ((k : Nat) : Int)] 3)
          have HL3 := Lib.hid (hp.st.grown ha)
          have hm3 := (HM2.out.keep hp.keep).below ha
          have HM3 := Lib.hid hm3
          obtain ⟨am, cm, hvm, y1, y2⟩ := (hm3.R 2 (by omega)).form
          have HVM := Lib.hid hvm
          have kA : ∀ V, Below u3.heap.size u3 V → V.cell? ⟨aw, 2, none⟩ = some (vs 2) := fun V hV => cells_cell (o := 2) ((hV.block _ (lt_of_block (HM2.out.keep hp.keep).A)).trans (HM2.out.keep hp.keep).A) rfl
          have k0 := kA u3 (Below.refl _ _)
          have k1 := kA _ ha
          clear kA
          have HSRC : Hid (Src TI (u3.alloc (.cells #[.int .i64 ((k : Nat) : Int)] 3)) (.slice (some ⟨u3.heap.size, 0, none⟩) 1 1) [((k : Nat) : Int)]) := Lib.hid (src_new TI_ok u3 ((k : Nat) : Int) #[.int .i64 ((k : Nat) : Int)] rfl)
          have HLEN : Hid ((cat (qs f (spP 2) k)).length ≤ 64) := Lib.hid (by have := qs_len f (spP 2) k; simp [cat]; omega)
          have HW0 : Hid (w.heap.size ≤ (u3.alloc (.cells #[.int .i64 ((k : Nat) : Int)] 3)).heap.size) := Lib.hid HL3.out.below.size
          rw [hvm] at k0 k1
          have HROW : Hid (Row TI (u3.alloc (.cells #[.int .i64 ((k : Nat) : Int)] 3)) w.heap.size (.slice am (cat (qs f (spP 2) k)).length cm) (cat (qs f (spP 2) k))) := Lib.hid (by rw [← hvm]; exact hm3.R 2 (by omega))
          clear hp ha hm3 hvm y1 y2 HC HL2 HM2
          go_wp2_with (at_builtin; refine wpList_append_g TI_ok rfl (.tmp 98) (.tmp 100) rfl rfl rfl HROW.out HW0.out HSRC.out (Nat.le_trans (Nat.add_le_add_right HLEN.out 1) (by decide)) ?_)
          intro v' u5 hr5 hf5 hn5
          rw [← HVM.out] at hf5 hn5
          obtain ⟨hm6, hl6⟩ := HM3.out.put HL3.out (m := 2) (by omega) (by rw [HFK.out]; kernel_rfl) hr5 hf5 hn5
          have HA5 : u5.heap[aw]? = some (.cells #[vs 0, vs 1, vs 2, vs 3] 91 (0, 0)) := hf5.same HM3.out.A (fun hc => by
            simp only [Option.mem_toList] at hc
            exact (HM3.out.R 2 (by omega)).ne HM3.out.A (by decide) aw hc rfl)
          obtain ⟨a', c', hv', y1, y2⟩ := hr5.form
          rw [List.length_append, List.length_singleton] at hv'
          subst hv'
          have z5 := cells_free HA5 2
          have z6 := cells_cell (o := 2) HA5 rfl
          have z7 := lt_of_block HA5
          have HL6 := Lib.hid hl6
          have HM6 := Lib.hid hm6
          clear hm6 hl6 hr5 hf5 hn5 HA5 y1 y2 k0 k1 HM3 HL3 HROW HSRC
          go_wp2_with fail
          go_roundw
          case rel => exact ⟨k + 1, HLT.out, by go_num, updV vs 2 (.slice a' ((cat (qs f (spP 2) k)).length + 1) c'), Lib.hid (HL6.out.mono (by omega) (Nat.le_refl _)), HM6⟩
          case measure => simp [intOf]; omega
        · have HFK : Hid (f k = (1, 1)) := Lib.hid (by rw [HFD.out]; unfold wF; rw [hb1, hb2])
          have q := ls_start HL.out (by have := HCC.out; omega) ((k : Nat) : Int)
          rw [pW_start hlt] at q
          simp only at q
          have HC := Lib.hid q
          clear q
          go_wp2_with (go_at_call 28; fail)
          refine HC.out.mono ?_
          rintro e u1 ⟨rfl, hp⟩
          have HL1 := Lib.hid hp.st
          have HM1 := Lib.hid (HWm.out.keep hp.keep)
          have hf := Lib.hid (fd_any u1 1 0)
          clear hp HC HL HWm
          go_wp2_with (go_at_call 14; fail)
          refine hf.out.mono ?_
          rintro e u2 ⟨rfl, hb⟩
          have HL2 := Lib.hid (HL1.out.grown hb)
          have HM2 := Lib.hid (HM1.out.below hb)
          have q := ls_wait HL2.out (by have := HCC.out; omega) ((k : Nat) : Int) 1 0 1
          have ew := pW_wait (f := f) HLT.out (HFI.out k)
          rw [HFK.out] at ew
          simp only at ew
          rw [ew] at q
          simp only at q
          have HC := Lib.hid q
          clear q ew hb hf HL1 HM1
          go_wp2_with (go_at_call 27; fail)
          refine HC.out.mono ?_
          rintro e u3 ⟨rfl, hp⟩
          have ha := below_alloc u3 (.cells #[.int .i64 ((k : Nat) : Int)] 3)
          have HL3 := Lib.hid (hp.st.grown ha)
          have hm3 := (HM2.out.keep hp.keep).below ha
          have HM3 := Lib.hid hm3
          obtain ⟨am, cm, hvm, y1, y2⟩ := (hm3.R 3 (by omega)).form
          have HVM := Lib.hid hvm
          have kA : ∀ V, Below u3.heap.size u3 V → V.cell? ⟨aw, 3, none⟩ = some (vs 3) := fun V hV => cells_cell (o := 3) ((hV.block _ (lt_of_block (HM2.out.keep hp.keep).A)).trans (HM2.out.keep hp.keep).A) rfl
          have k0 := kA u3 (Below.refl _ _)
          have k1 := kA _ ha
          clear kA
          have HSRC : Hid (Src TI (u3.alloc (.cells #[.int .i64 ((k : Nat) : Int)] 3)) (.slice (some ⟨u3.heap.size, 0, none⟩) 1 1) [((k : Nat) : Int)]) := Lib.hid (src_new TI_ok u3 ((k : Nat) : Int) #[.int .i64 ((k : Nat) : Int)] rfl)
          have HLEN : Hid ((cat (qs f (spP 3) k)).length ≤ 64) := Lib.hid (by have := qs_len f (spP 3) k; simp [cat]; omega)
          have HW0 : Hid (w.heap.size ≤ (u3.alloc (.cells #[.int .i64 ((k : Nat) : Int)] 3)).heap.size) := Lib.hid HL3.out.below.size
          rw [hvm] at k0 k1
          have HROW : Hid (Row TI (u3.alloc (.cells #[.int .i64 ((k : Nat) : Int)] 3)) w.heap.size (.slice am (cat (qs f (spP 3) k)).length cm) (cat (qs f (spP 3) k))) := Lib.hid (by rw [← hvm]; exact hm3.R 3 (by omega))
          clear hp ha hm3 hvm y1 y2 HC HL2 HM2
          go_wp2_with (at_builtin; refine wpList_append_g TI_ok rfl (.tmp 98) (.tmp 100) rfl rfl rfl HROW.out HW0.out HSRC.out (Nat.le_trans (Nat.add_le_add_right HLEN.out 1) (by decide)) ?_)
          intro v' u5 hr5 hf5 hn5
          rw [← HVM.out] at hf5 hn5
          obtain ⟨hm6, hl6⟩ := HM3.out.put HL3.out (m := 3) (by omega) (by rw [HFK.out]; kernel_rfl) hr5 hf5 hn5
          have HA5 : u5.heap[aw]? = some (.cells #[vs 0, vs 1, vs 2, vs 3] 91 (0, 0)) := hf5.same HM3.out.A (fun hc => by
            simp only [Option.mem_toList] at hc
            exact (HM3.out.R 3 (by omega)).ne HM3.out.A (by decide) aw hc rfl)
          obtain ⟨a', c', hv', y1, y2⟩ := hr5.form
          rw [List.length_append, List.length_singleton] at hv'
          subst hv'
          have z5 := cells_free HA5 3
          have z6 := cells_cell (o := 3) HA5 rfl
          have z7 := lt_of_block HA5
          have HL6 := Lib.hid hl6
          have HM6 := Lib.hid hm6
          clear hm6 hl6 hr5 hf5 hn5 HA5 y1 y2 k0 k1 HM3 HL3 HROW HSRC
          go_wp2_with fail
          go_roundw
          case rel => exact ⟨k + 1, HLT.out, by go_num, updV vs 3 (.slice a' ((cat (qs f (spP 3) k)).length + 1) c'), Lib.hid (HL6.out.mono (by omega) (Nat.le_refl _)), HM6⟩
          case measure => simp [intOf]; omega
    · obtain rfl : k = c := by omega
      have hc64 := HCC.out.2
      go_upto_region 14 with (fail)
      refine wp_region_mix (fun W' => W'.heap[aw]? = some (.cells #[vs 0, vs 1, vs 2, vs 3] 91 (0, 0))) 12 [(true, 0), (true, 1), (true, 3), (true, 4), (true, 6), (true, 7), (true, 9), (true, 10), (false, 2), (false, 5), (false, 8), (false, 11)] (by kernel_rfl) (by kernel_rfl) (fun _ _ _ d _ h => by cases d <;> exact h) ?_
      have HD : Hid (Below wr.heap.size wr wr.drew) := Lib.hid ((Grn.refl wr).drew 1).below
      have HS : Hid (wr.drew.heap[aw]? = some (.cells #[vs 0, vs 1, vs 2, vs 3] 91 (0, 0))) := Lib.hid ((HD.out.block _ (lt_of_block HWm.out.A)).trans HWm.out.A)
      simp only [List.map_cons, List.map_nil, List.getD_cons_zero, List.getD_cons_succ, List.drop_succ_cons, List.drop_zero]
      generalize wr.drew = V at *
      have hV := HD.out
      have H1 : Hid (ApS w V aw vs f k p (pW f k k) (2 * k) 0 (.slice none 0 0) []) := Lib.hid ⟨(HL.out.grown hV).less (fun j hj => hj.elim id (fun e => by simp [Value.ownBlock] at e)), HWm.out.below hV, Row.nil V _, fun g hg => by simp [Value.ownBlock] at hg⟩
      have HW0 : Hid (w.heap.size ≤ V.heap.size) := Lib.hid (Nat.le_trans HL.out.below.size hV.size)
      clear hV HD HL HWm
      refine mix_take (.pointer (some ⟨aw, 0, none⟩)) HS.out rfl (fun W' hS => by go_simp) ?_
      simp only [Act.put, List.setIfInBounds_toArray, List.set_cons_zero, List.set_cons_succ]
      refine mix_take (vs 0) HS.out rfl (fun W' hS => by
        obtain ⟨l0, l1, l2, l3⟩ := four hS
        go_simp) ?_
      simp only [Act.put, List.setIfInBounds_toArray, List.set_cons_zero, List.set_cons_succ]
      refine mix_take (.pointer (some ⟨aw, 1, none⟩)) HS.out rfl (fun W' hS => by go_simp) ?_
      simp only [Act.put, List.setIfInBounds_toArray, List.set_cons_zero, List.set_cons_succ]
      refine mix_take (vs 1) HS.out rfl (fun W' hS => by
        obtain ⟨l0, l1, l2, l3⟩ := four hS
        go_simp) ?_
      simp only [Act.put, List.setIfInBounds_toArray, List.set_cons_zero, List.set_cons_succ]
      refine mix_take (.pointer (some ⟨aw, 2, none⟩)) HS.out rfl (fun W' hS => by go_simp) ?_
      simp only [Act.put, List.setIfInBounds_toArray, List.set_cons_zero, List.set_cons_succ]
      refine mix_take (vs 2) HS.out rfl (fun W' hS => by
        obtain ⟨l0, l1, l2, l3⟩ := four hS
        go_simp) ?_
      simp only [Act.put, List.setIfInBounds_toArray, List.set_cons_zero, List.set_cons_succ]
      refine mix_take (.pointer (some ⟨aw, 3, none⟩)) HS.out rfl (fun W' hS => by go_simp) ?_
      simp only [Act.put, List.setIfInBounds_toArray, List.set_cons_zero, List.set_cons_succ]
      refine mix_take (vs 3) HS.out rfl (fun W' hS => by
        obtain ⟨l0, l1, l2, l3⟩ := four hS
        go_simp) ?_
      simp only [Act.put, List.setIfInBounds_toArray, List.set_cons_zero, List.set_cons_succ]
      have hl0 : (([] : List Int)).length + (cat (qs f (spP 0) k)).length ≤ 1000000 := by simp only [List.length_append, List.length_nil]; have := all4_len f k 0; have := all4_len f k 1; have := all4_len f k 2; have := all4_len f k 3; omega
      have HS0 : Hid (Src TI V (vs 0) (cat (qs f (spP 0) k))) := Lib.hid (H1.out.src (by omega))
      refine mix_step rfl (fun K0 hK => ?_)
      refine wp_append_g TI_ok (.const (.slice none 0 0)) (.tmp 104) rfl rfl rfl H1.out.R HW0.out HS0.out hl0 ?_
      intro x0 y0 hr hF hN
      have H2 := Lib.hid (H1.out.put hr hF hN)
      have HW1 : Hid (w.heap.size ≤ y0.heap.size) := Lib.hid (Nat.le_trans HW0.out hF.size)
      clear HW0
      have HW0 := HW1
      clear HW1
      have HSS : Hid (y0.heap[aw]? = some (.cells #[vs 0, vs 1, vs 2, vs 3] 91 (0, 0))) := Lib.hid H2.out.M.A
      clear hr hF hN
      refine hK _ _ HSS.out ?_
      clear hK K0 HS0 hl0 H1
      simp only [Act.put, List.setIfInBounds_toArray, List.set_cons_zero, List.set_cons_succ]
      clear HSS
      have hl1 : ((([] : List Int) ++ cat (qs f (spP 0) k))).length + (cat (qs f (spP 1) k)).length ≤ 1000000 := by simp only [List.length_append, List.length_nil]; have := all4_len f k 0; have := all4_len f k 1; have := all4_len f k 2; have := all4_len f k 3; omega
      have HS1 : Hid (Src TI y0 (vs 1) (cat (qs f (spP 1) k))) := Lib.hid (H2.out.src (by omega))
      refine mix_step rfl (fun K1 hK => ?_)
      refine wp_append_g TI_ok (.tmp 105) (.tmp 107) rfl rfl rfl H2.out.R HW0.out HS1.out hl1 ?_
      intro x1 y1 hr hF hN
      have H3 := Lib.hid (H2.out.put hr hF hN)
      have HW1 : Hid (w.heap.size ≤ y1.heap.size) := Lib.hid (Nat.le_trans HW0.out hF.size)
      clear HW0
      have HW0 := HW1
      clear HW1
      have HSS : Hid (y1.heap[aw]? = some (.cells #[vs 0, vs 1, vs 2, vs 3] 91 (0, 0))) := Lib.hid H3.out.M.A
      clear hr hF hN
      refine hK _ _ HSS.out ?_
      clear hK K1 HS1 hl1 H2
      simp only [Act.put, List.setIfInBounds_toArray, List.set_cons_zero, List.set_cons_succ]
      clear HSS
      have hl2 : (((([] : List Int) ++ cat (qs f (spP 0) k)) ++ cat (qs f (spP 1) k))).length + (cat (qs f (spP 2) k)).length ≤ 1000000 := by simp only [List.length_append, List.length_nil]; have := all4_len f k 0; have := all4_len f k 1; have := all4_len f k 2; have := all4_len f k 3; omega
      have HS2 : Hid (Src TI y1 (vs 2) (cat (qs f (spP 2) k))) := Lib.hid (H3.out.src (by omega))
      refine mix_step rfl (fun K2 hK => ?_)
      refine wp_append_g TI_ok (.tmp 108) (.tmp 110) rfl rfl rfl H3.out.R HW0.out HS2.out hl2 ?_
      intro x2 y2 hr hF hN
      have H4 := Lib.hid (H3.out.put hr hF hN)
      have HW1 : Hid (w.heap.size ≤ y2.heap.size) := Lib.hid (Nat.le_trans HW0.out hF.size)
      clear HW0
      have HW0 := HW1
      clear HW1
      have HSS : Hid (y2.heap[aw]? = some (.cells #[vs 0, vs 1, vs 2, vs 3] 91 (0, 0))) := Lib.hid H4.out.M.A
      clear hr hF hN
      refine hK _ _ HSS.out ?_
      clear hK K2 HS2 hl2 H3
      simp only [Act.put, List.setIfInBounds_toArray, List.set_cons_zero, List.set_cons_succ]
      clear HSS
      have hl3 : ((((([] : List Int) ++ cat (qs f (spP 0) k)) ++ cat (qs f (spP 1) k)) ++ cat (qs f (spP 2) k))).length + (cat (qs f (spP 3) k)).length ≤ 1000000 := by simp only [List.length_append, List.length_nil]; have := all4_len f k 0; have := all4_len f k 1; have := all4_len f k 2; have := all4_len f k 3; omega
      have HS3 : Hid (Src TI y2 (vs 3) (cat (qs f (spP 3) k))) := Lib.hid (H4.out.src (by omega))
      refine mix_step rfl (fun K3 hK => ?_)
      refine wp_append_g TI_ok (.tmp 111) (.tmp 113) rfl rfl rfl H4.out.R HW0.out HS3.out hl3 ?_
      intro x3 y3 hr hF hN
      have H5 := Lib.hid (H4.out.put hr hF hN)
      have HW1 : Hid (w.heap.size ≤ y3.heap.size) := Lib.hid (Nat.le_trans HW0.out hF.size)
      clear HW0
      have HW0 := HW1
      clear HW1
      have HSS : Hid (y3.heap[aw]? = some (.cells #[vs 0, vs 1, vs 2, vs 3] 91 (0, 0))) := Lib.hid H5.out.M.A
      clear hr hF hN
      refine hK _ _ HSS.out ?_
      clear hK K3 HS3 hl3 H4
      simp only [Act.put, List.setIfInBounds_toArray, List.set_cons_zero, List.set_cons_succ]
      refine mix_nil ?_
      rw [all4] at H5
      have HCC := hc64
      clear HS HSS HW0
      cases b
      · rw [pW_pD] at H5
        have HQ0 : Hid (∃ G P, G ≤ 200 ∧ P ≤ 200 ∧ ApS w y3 aw vs f k p (pD f k 4 10) G P x3 (cat (wlL f k spots4))) := Lib.hid ⟨_, _, by omega, by omega, H5.out⟩
        clear H5
        go_wp2_with fail
        go_loopw [21] (fun i wr => ∃ j : Nat, j ≤ 4 ∧ i = .int .i64 (((j : Nat) : Int) - 1) ∧ Hid (∃ G P, G ≤ 200 ∧ P + j ≤ 204 ∧ ApS w wr aw vs f k p (pD f k j 10) G P x3 (cat (wlL f k spots4)))) (fun i _ => (intOf i + 1).toNat)
        case atStart => exact ⟨4, by omega, rfl, Lib.hid (by obtain ⟨G, P, h1, h2, h3⟩ := HQ0.out; exact ⟨G, P, h1, by omega, h3⟩)⟩
        case round =>
          obtain ⟨j, hj, rfl, HQ⟩ := hrel
          clear HQ0
          have hc : j = 0 ∨ j = 4 ∨ j = 3 ∨ j = 2 ∨ j = 1 := by omega
          rcases hc with rfl | hc
          · rw [show (((0 : Nat) : Int) - 1) = -1 from rfl]
            obtain ⟨G, P, hG, hP, hA⟩ := HQ.out
            have HGP := Lib.hid (And.intro hG hP)
            have HA := Lib.hid hA
            have q := ls_adv_ok hA.L (by omega) (by omega) (tt := 19) (by unfold Dl.never; omega) (by show (10 : Int) ≤ 19; omega)
            have HC := Lib.hid q
            clear q hA hG hP HQ
            go_wp2_with (go_at_call 22; fail)
            refine HC.out.mono ?_
            rintro e u1 ⟨L1, v1, rfl, hla, hw⟩
            obtain rfl := Dl.IsLap.unique (now := 10) (tt := 19) (f := fD 0) hla lapD_1
            have hst : LSt w u1 _ p (pD f k 0 19) (G + 0) P := hw.st
            have HL1 := Lib.hid hst
            have HRa := Lib.hid (show Row TI u1 wr.heap.size v1 [] from hw.row)
            have HR1 := Lib.hid (row_same HA.out.R (fun g hg => hw.keep g (.inr hg)))
            clear hw hst hla HC HA
            have q := ls_adv_ok HL1.out (by have := HGP.out.1; omega) (by have := HGP.out.2; omega) (tt := 20) (by unfold Dl.never; omega) (by show (19 : Int) ≤ 20; omega)
            have HC := Lib.hid q
            clear q
            go_wp2_with (go_at_call 22; fail)
            refine HC.out.mono ?_
            rintro e u2 ⟨L2, v2, rfl, hla, hw⟩
            obtain rfl := Dl.IsLap.unique (now := 19) (tt := 20) (f := fD 0) hla lapD_2
            obtain ⟨b1, b2⟩ := advD f k
            have hll := wlL_len f k
            have HT5 : Hid (TlS w u2 p x3 f k 2) := Lib.hid ⟨⟨_, _, _, _, hw.st, b2, by rw [b1]; have := HGP.out.1; omega⟩, row_same HR1.out (fun g hg => hw.keep g (.inl (.inr hg)))⟩
            have HRa2 := Lib.hid (row_same HRa.out (fun g hg => hw.keep g (.inr hg)))
            have hrow := hw.row
            rw [b1] at hrow
            have HRb := Lib.hid hrow
            have hs := Lib.hid (woke_yes (HRa2.out.src TI_ok) (.inl ⟨rfl, rfl⟩) (by simp))
            clear hw hla HC b1 b2 hll hrow HL1 HR1 HRa HGP
            go_wp2_with (go_at_call 16; fail)
            refine hs.out.mono ?_
            rintro e u3 ⟨rfl, hb⟩
            have HT6 := Lib.hid (HT5.out.below hb)
            have HRb2 := Lib.hid (HRb.out.below hb)
            have hs2 := Lib.hid (woke_yes (HRb2.out.src TI_ok) (HT6.out.row.src TI_ok) (by have := wlL_len f k; omega))
            clear hb hs HT5 HRb HRa2
            go_wp2_with (go_at_call 16; fail)
            refine hs2.out.mono ?_
            rintro e u4 ⟨rfl, hb⟩
            have HTL := Lib.hid (HT6.out.below hb)
            clear hb hs2 HT6 HRb2
            clear HFD
            go_wp2_with fail
            go_loopw [28] (fun i wr => ∃ j : Nat, j ≤ k ∧ i = .int .i64 ((j : Nat) : Int) ∧ Hid (TlS w wr p x3 f k 2)) (fun i _ => k - (intOf i).toNat)
            case atStart => exact ⟨0, Nat.zero_le _, rfl, HTL⟩
            case round =>
              obtain ⟨j, hj, rfl, HT2⟩ := hrel
              clear HTL
              by_cases hjk : j < k
              · have q3 : (j : Int) < (k : Int) := by omega
                have hr := Lib.hid (HT2.out.reason HFI.out hjk)
                go_wp2_with (go_at_call 35; fail)
                refine hr.out.mono ?_
                rintro e z1 ⟨rfl, hb⟩
                have HT3 := Lib.hid (HT2.out.below hb)
                clear hb hr HT2
                go_wp2_with fail
                go_roundw
                case rel => exact ⟨j + 1, hjk, by go_num, HT3⟩
                case measure => simp [intOf]; omega
              · obtain rfl : j = k := by omega
                have hr := Lib.hid HT2.out.ready
                go_wp2_with (go_at_call 31; fail)
                refine hr.out.mono ?_
                rintro e z1 ⟨vr, rfl, hrow, hb⟩
                have HT3 := Lib.hid (HT2.out.below hb)
                have hs := Lib.hid (same_yes (hrow.src TI_ok) (HT3.out.row.src TI_ok) (by have := wlL_len f j; omega))
                clear hb hr HT2 hrow
                go_wp2_with (go_at_call 36; fail)
                refine hs.out.mono ?_
                rintro e z2 ⟨rfl, hg⟩
                have H0 := Lib.hid (HT3.out.below hg.below).all
                have hkn := Lib.hid (known_yes z2 (HM.out.1.below H0.out HM.out.1.lt) (HM.out.2.below H0.out HM.out.2.lt))
                clear hg hs HT3
                go_wp2_with (go_at_call 8; fail)
                refine hkn.out.mono ?_
                rintro e z3 ⟨rfl, hb⟩
                have H2 := Lib.hid (H0.out.trans (hb.mono H0.out.size))
                clear hb hkn
                go_wp2_with fail
                go_ret
                exact ⟨rfl, H2.out⟩
          · obtain ⟨G, P, hG, hP, hA⟩ := HQ.out
            have HA := Lib.hid hA
            have HGP := Lib.hid (And.intro hG hP)
            clear hA hG hP HQ
            rcases hc with rfl | rfl | rfl | rfl
            · rw [show (((4 : Nat) : Int) - 1) = 3 from rfl]
              have hf := Lib.hid (fd_any wr 1 0)
              go_wp2_with (go_at_call 14; fail)
              refine hf.out.mono ?_
              rintro e u1 ⟨rfl, hb⟩
              have HA1 := Lib.hid (HA.out.below hb)
              have q := ls_deadline HA1.out.L (by have := HGP.out.1; omega) HT.out (by have := HGP.out.2; omega) 1 0 1 (tt := 20) (by unfold Dl.never; omega)
              have ed : dlnC (pD f k 4 10) 1 0 1 20 = ([], 0, pD f k 3 10) := pD_set f k (i := 3) (by omega)
              rw [ed] at q
              simp only at q
              have HC := Lib.hid q
              clear q hb hf HA ed
              go_wp2_with (go_at_call 19; fail)
              refine HC.out.mono ?_
              rintro e u2 ⟨v2, rfl, hw⟩
              have HA2 : Hid (ApS w u2 aw vs f k p (pD f k 3 10) G (P + 1) x3 (cat (wlL f k spots4))) := Lib.hid ⟨(hw.st.less (fun g hg => .inl hg)).mono (by simp) (Nat.le_refl _), HA1.out.M.keep (fun g hg => hw.keep g (.inl hg)), row_same HA1.out.R (fun g hg => hw.keep g (.inr hg)), HA1.out.N⟩
              have hs := Lib.hid (woke_yes (hw.row.src TI_ok) (.inl ⟨rfl, rfl⟩) (by simp))
              clear hw HC HA1
              go_wp2_with (go_at_call 16; fail)
              refine hs.out.mono ?_
              rintro e u3 ⟨rfl, hb⟩
              have HA3 := Lib.hid (HA2.out.below hb)
              clear hb hs HA2
              go_wp2_with fail
              go_roundw
              case rel => exact ⟨3, by omega, by first | rfl | simp | go_num, Lib.hid ⟨G, P + 1, HGP.out.1, by have := HGP.out.2; omega, HA3.out⟩⟩
              case measure => simp [intOf]
            · rw [show (((3 : Nat) : Int) - 1) = 2 from rfl]
              have hf := Lib.hid (fd_any wr 1 0)
              go_wp2_with (go_at_call 14; fail)
              refine hf.out.mono ?_
              rintro e u1 ⟨rfl, hb⟩
              have HA1 := Lib.hid (HA.out.below hb)
              have q := ls_deadline HA1.out.L (by have := HGP.out.1; omega) HT.out (by have := HGP.out.2; omega) 1 0 0 (tt := 20) (by unfold Dl.never; omega)
              have ed : dlnC (pD f k 3 10) 1 0 0 20 = ([], 0, pD f k 2 10) := pD_set f k (i := 2) (by omega)
              rw [ed] at q
              simp only at q
              have HC := Lib.hid q
              clear q hb hf HA ed
              go_wp2_with (go_at_call 19; fail)
              refine HC.out.mono ?_
              rintro e u2 ⟨v2, rfl, hw⟩
              have HA2 : Hid (ApS w u2 aw vs f k p (pD f k 2 10) G (P + 1) x3 (cat (wlL f k spots4))) := Lib.hid ⟨(hw.st.less (fun g hg => .inl hg)).mono (by simp) (Nat.le_refl _), HA1.out.M.keep (fun g hg => hw.keep g (.inl hg)), row_same HA1.out.R (fun g hg => hw.keep g (.inr hg)), HA1.out.N⟩
              have hs := Lib.hid (woke_yes (hw.row.src TI_ok) (.inl ⟨rfl, rfl⟩) (by simp))
              clear hw HC HA1
              go_wp2_with (go_at_call 16; fail)
              refine hs.out.mono ?_
              rintro e u3 ⟨rfl, hb⟩
              have HA3 := Lib.hid (HA2.out.below hb)
              clear hb hs HA2
              go_wp2_with fail
              go_roundw
              case rel => exact ⟨2, by omega, by first | rfl | simp | go_num, Lib.hid ⟨G, P + 1, HGP.out.1, by have := HGP.out.2; omega, HA3.out⟩⟩
              case measure => simp [intOf]
            · rw [show (((2 : Nat) : Int) - 1) = 1 from rfl]
              have hf := Lib.hid (fd_any wr 0 0)
              go_wp2_with (go_at_call 14; fail)
              refine hf.out.mono ?_
              rintro e u1 ⟨rfl, hb⟩
              have HA1 := Lib.hid (HA.out.below hb)
              have q := ls_deadline HA1.out.L (by have := HGP.out.1; omega) HT.out (by have := HGP.out.2; omega) 0 0 1 (tt := 20) (by unfold Dl.never; omega)
              have ed : dlnC (pD f k 2 10) 0 0 1 20 = ([], 0, pD f k 1 10) := pD_set f k (i := 1) (by omega)
              rw [ed] at q
              simp only at q
              have HC := Lib.hid q
              clear q hb hf HA ed
              go_wp2_with (go_at_call 19; fail)
              refine HC.out.mono ?_
              rintro e u2 ⟨v2, rfl, hw⟩
              have HA2 : Hid (ApS w u2 aw vs f k p (pD f k 1 10) G (P + 1) x3 (cat (wlL f k spots4))) := Lib.hid ⟨(hw.st.less (fun g hg => .inl hg)).mono (by simp) (Nat.le_refl _), HA1.out.M.keep (fun g hg => hw.keep g (.inl hg)), row_same HA1.out.R (fun g hg => hw.keep g (.inr hg)), HA1.out.N⟩
              have hs := Lib.hid (woke_yes (hw.row.src TI_ok) (.inl ⟨rfl, rfl⟩) (by simp))
              clear hw HC HA1
              go_wp2_with (go_at_call 16; fail)
              refine hs.out.mono ?_
              rintro e u3 ⟨rfl, hb⟩
              have HA3 := Lib.hid (HA2.out.below hb)
              clear hb hs HA2
              go_wp2_with fail
              go_roundw
              case rel => exact ⟨1, by omega, by first | rfl | simp | go_num, Lib.hid ⟨G, P + 1, HGP.out.1, by have := HGP.out.2; omega, HA3.out⟩⟩
              case measure => simp [intOf]
            · rw [show (((1 : Nat) : Int) - 1) = 0 from rfl]
              have hf := Lib.hid (fd_any wr 0 0)
              go_wp2_with (go_at_call 14; fail)
              refine hf.out.mono ?_
              rintro e u1 ⟨rfl, hb⟩
              have HA1 := Lib.hid (HA.out.below hb)
              have q := ls_deadline HA1.out.L (by have := HGP.out.1; omega) HT.out (by have := HGP.out.2; omega) 0 0 0 (tt := 20) (by unfold Dl.never; omega)
              have ed : dlnC (pD f k 1 10) 0 0 0 20 = ([], 0, pD f k 0 10) := pD_set f k (i := 0) (by omega)
              rw [ed] at q
              simp only at q
              have HC := Lib.hid q
              clear q hb hf HA ed
              go_wp2_with (go_at_call 19; fail)
              refine HC.out.mono ?_
              rintro e u2 ⟨v2, rfl, hw⟩
              have HA2 : Hid (ApS w u2 aw vs f k p (pD f k 0 10) G (P + 1) x3 (cat (wlL f k spots4))) := Lib.hid ⟨(hw.st.less (fun g hg => .inl hg)).mono (by simp) (Nat.le_refl _), HA1.out.M.keep (fun g hg => hw.keep g (.inl hg)), row_same HA1.out.R (fun g hg => hw.keep g (.inr hg)), HA1.out.N⟩
              have hs := Lib.hid (woke_yes (hw.row.src TI_ok) (.inl ⟨rfl, rfl⟩) (by simp))
              clear hw HC HA1
              go_wp2_with (go_at_call 16; fail)
              refine hs.out.mono ?_
              rintro e u3 ⟨rfl, hb⟩
              have HA3 := Lib.hid (HA2.out.below hb)
              clear hb hs HA2
              go_wp2_with fail
              go_roundw
              case rel => exact ⟨0, by omega, by first | rfl | simp | go_num, Lib.hid ⟨G, P + 1, HGP.out.1, by have := HGP.out.2; omega, HA3.out⟩⟩
              case measure => simp [intOf]
      · have hf := Lib.hid (fd_any y3 0 0)
        go_wp2_with (go_at_call 14; fail)
        refine hf.out.mono ?_
        rintro e u1 ⟨rfl, hb⟩
        have H6 := Lib.hid (H5.out.below hb)
        obtain ⟨a1, a2, a3, a4⟩ := closeA f k
        have q := ls_close H6.out.L (by omega) HT.out (by omega) wT_gen 0 0
        rw [a2, a1] at q
        have hlA : (cat (qs f (0, 0) k) ++ cat (qs f (0, 1) k)).length ≤ 2 * k := by rw [List.length_append]; have := all4_len f k 0; have := all4_len f k 1; rw [show spP 0 = ((0, 0) : Sp) by kernel_rfl] at *; rw [show spP 1 = ((0, 1) : Sp) by kernel_rfl] at *; omega
        have HLA := Lib.hid hlA
        have HA3 := Lib.hid (And.intro a3 a4)
        have HC := Lib.hid q
        generalize (cloC (pW f k k) 0 0).2.2 = xA at *
        clear q hb hf H5 a1 a2 a3 a4 hlA
        go_wp2_with (go_at_call 15; fail)
        refine HC.out.mono ?_
        rintro e u2 ⟨va, rfl, hw⟩
        have HL7 := Lib.hid hw.st
        have HR7 := Lib.hid (row_same H6.out.R (fun g hg => hw.keep g (.inr hg)))
        have HV7 := Lib.hid (hw.row.lower (Nat.le_trans H6.out.L.below.size (Nat.le_refl _)))
        have hf := Lib.hid (fd_any u2 1 0)
        have HXA : Hid (∀ g, x3.ownBlock = some g → g < u1.heap.size) := Lib.hid (fun g hg => (H6.out.R.lt g hg).2)
        have HVA : Hid (∀ g, va.ownBlock = some g → u1.heap.size ≤ g) := Lib.hid (fun g hg => (hw.row.lt g hg).1)
        clear hw HC H6
        go_wp2_with (go_at_call 14; fail)
        refine hf.out.mono ?_
        rintro e u3 ⟨rfl, hb⟩
        have HL8 := Lib.hid (HL7.out.grown hb)
        have HR8 := Lib.hid (HR7.out.below hb)
        have HV8 := Lib.hid (HV7.out.below hb)
        obtain ⟨a1, a2, a3⟩ := closeB HA3.out.1 HA3.out.2
        have q := ls_close HL8.out (by have := HLA.out; omega) HT.out (by omega) (by rw [HA3.out.2]; exact wT_gen2) 1 0
        rw [a2, a1] at q
        have hlB : (cat (qs f (1, 0) k) ++ cat (qs f (1, 1) k)).length ≤ 2 * k := by rw [List.length_append]; have := all4_len f k 2; have := all4_len f k 3; rw [show spP 2 = ((1, 0) : Sp) by kernel_rfl] at *; rw [show spP 3 = ((1, 1) : Sp) by kernel_rfl] at *; omega
        have HLB := Lib.hid hlB
        have HB3 := Lib.hid a3
        have HC := Lib.hid q
        generalize (cloC xA 1 0).2.2 = xB at *
        clear q hb hf a1 a2 a3 hlB HL7 HR7 HV7
        go_wp2_with (go_at_call 15; fail)
        refine HC.out.mono ?_
        rintro e u4 ⟨vb, rfl, hw⟩
        have HL9 := Lib.hid hw.st
        have HR9 := Lib.hid (row_same HR8.out (fun g hg => hw.keep g (.inl (.inr hg))))
        have HV9 := Lib.hid (row_same HV8.out (fun g hg => hw.keep g (.inr hg)))
        have HSB := Lib.hid (hw.row.src TI_ok)
        have HLL : Hid ((cat (qs f (0, 0) k) ++ cat (qs f (0, 1) k)).length + (cat (qs f (1, 0) k) ++ cat (qs f (1, 1) k)).length ≤ 1000000) := Lib.hid (by have := HLA.out; have := HLB.out; omega)
        have HWZ := Lib.hid HL9.out.below.size
        clear hw HC HL8 HR8 HV8
        go_wp2_with (at_builtin; refine wpList_unguard rfl ?_; refine wpList_append_g TI_ok rfl (.tmp 131) (.tmp 132) rfl rfl rfl HV9.out HWZ.out HSB.out HLL.out ?_)
        intro v5 u5 hr5 hf5 hn5
        have hall : cat (qs f (0, 0) k) ++ (cat (qs f (0, 1) k) ++ (cat (qs f (1, 0) k) ++ cat (qs f (1, 1) k))) = cat (wlL f k spots4) := by unfold wlL spots4; simp [cat]
        rw [hall] at hr5
        have hne : ∀ g, x3.ownBlock = some g → g ∉ va.ownBlock.toList := fun g hg hc => by
          simp only [Option.mem_toList] at hc
          have := HXA.out g hg
          have := HVA.out g hc
          omega
        have HT5 : Hid (TlS w u5 p x3 f k 3) := Lib.hid ⟨⟨_, xB, _, _, HL9.out.write hf5 (fun g hg => by simp only [Option.mem_toList] at hg; exact .inl (.inr hg)), HB3.out, by have := HLA.out; have := HLB.out; omega⟩, HR9.out.fr hf5 hne⟩
        have hs := Lib.hid (woke_yes (hr5.src TI_ok) (HT5.out.row.src TI_ok) (by have := wlL_len f k; omega))
        clear hr5 hf5 hn5 hall hne HL9 HR9 HV9 HSB HLL HWZ
        go_wp2_with (go_at_call 16; fail)
        refine hs.out.mono ?_
        rintro e u6 ⟨rfl, hb⟩
        have HTL := Lib.hid (HT5.out.below hb)
        clear hb hs HT5 HXA HVA HLA HLB HA3 HB3
        clear HFD
        go_wp2_with fail
        go_loopw [28] (fun i wr => ∃ j : Nat, j ≤ k ∧ i = .int .i64 ((j : Nat) : Int) ∧ Hid (TlS w wr p x3 f k 3)) (fun i _ => k - (intOf i).toNat)
        case atStart => exact ⟨0, Nat.zero_le _, rfl, HTL⟩
        case round =>
          obtain ⟨j, hj, rfl, HT2⟩ := hrel
          clear HTL
          by_cases hjk : j < k
          · have q3 : (j : Int) < (k : Int) := by omega
            have hr := Lib.hid (HT2.out.reason HFI.out hjk)
            go_wp2_with (go_at_call 35; fail)
            refine hr.out.mono ?_
            rintro e z1 ⟨rfl, hb⟩
            have HT3 := Lib.hid (HT2.out.below hb)
            clear hb hr HT2
            go_wp2_with fail
            go_roundw
            case rel => exact ⟨j + 1, hjk, by go_num, HT3⟩
            case measure => simp [intOf]; omega
          · obtain rfl : j = k := by omega
            have hr := Lib.hid HT2.out.ready
            go_wp2_with (go_at_call 31; fail)
            refine hr.out.mono ?_
            rintro e z1 ⟨vr, rfl, hrow, hb⟩
            have HT3 := Lib.hid (HT2.out.below hb)
            have hs := Lib.hid (same_yes (hrow.src TI_ok) (HT3.out.row.src TI_ok) (by have := wlL_len f j; omega))
            clear hb hr HT2 hrow
            go_wp2_with (go_at_call 36; fail)
            refine hs.out.mono ?_
            rintro e z2 ⟨rfl, hg⟩
            have H0 := Lib.hid (HT3.out.below hg.below).all
            have hkn := Lib.hid (known_yes z2 (HM.out.1.below H0.out HM.out.1.lt) (HM.out.2.below H0.out HM.out.2.lt))
            clear hg hs HT3
            go_wp2_with (go_at_call 8; fail)
            refine hkn.out.mono ?_
            rintro e z3 ⟨rfl, hb⟩
            have H2 := Lib.hid (H0.out.trans (hb.mono H0.out.size))
            clear hb hkn
            go_wp2_with fail
            go_ret
            exact ⟨rfl, H2.out⟩
set_option maxRecDepth 100000 in
set_option maxHeartbeats 3200000 in
theorem pollerWakes_walk (c file dirs : Int) (b : Bool) (w : World) (h1 : (Lit.int .i64 c).wf = true) (h2 : (Lit.int .u64 file).wf = true) (h3 : (Lit.int .u64 dirs).wf = true) (hL : MvAt w ∧ Dl.Tab w) :
    Calls Tryz.prog 6 #[.int .i64 c, .int .u64 file, .int .u64 dirs, .bool b] w fun e w' => e = .returned (.bool true) ∧ Below w.heap.size w w' := by
  clear h1 h2 h3
  have HK := Lib.hid (known_yes w hL.1 hL.2)
  by_cases c1 : c < 1
  · have d1 : decide (c < 1) = true := by simpa using c1
    clear hL
    go_enter Tryz.func6, Tryz.ntmps6
    go_wp2_with (go_at_call 8; fail)
    refine HK.out.mono ?_
    rintro e w1 ⟨rfl, hb⟩
    have HB := Lib.hid hb
    clear hb
    go_wp2_with fail
    go_ret
    exact ⟨rfl, HB.out⟩
  · have d1 : decide (c < 1) = false := by simpa using c1
    by_cases c2 : 64 < c
    · have d2 : decide (64 < c) = true := by simpa using c2
      clear hL
      go_enter Tryz.func6, Tryz.ntmps6
      go_wp2_with (go_at_call 8; fail)
      refine HK.out.mono ?_
      rintro e w1 ⟨rfl, hb⟩
      have HB := Lib.hid hb
      clear hb
      go_wp2_with fail
      go_ret
      exact ⟨rfl, HB.out⟩
    · obtain ⟨n, rfl⟩ : ∃ n : Nat, c = ((n : Nat) : Int) := ⟨c.toNat, by omega⟩
      exact wakes_main n file dirs b w hL (by omega) (by omega)
end Go.Proofs.YtdbkbaealfcmoaaGreatDoor
