/- KPlays: JDoC, JDo, JPlays, merged. -/
import Derived.Test.YtgkodleblkjhcaaGreatDoorKDuo
import Derived.Test.YtgkodleblkjhcaaGreatDoorKLook
import Derived.Test.YtgkodleblkjhcaaGreatDoorKAll
import Derived.Test.YtgkodleblkjhcaaGreatDoorKEnd
import Derived.OpenShut
/- A copy stays as it is, whatever is done to the old one. -/
namespace Go.Proofs.YtgkodleblkjhcaaGreatDoor
open Go.RowKit Go.Sort
set_option linter.unusedVariables false
set_option linter.unusedSimpArgs false

/-- The copy's own blocks are new, so that the old one may be seen with them as blocks of the law; what leaves these alone leaves the copy as it is. -/
theorem copy_old {w0 w W : World} {G : Nat → Prop} {a c : Nat} {S : Int} {gs : Nat → Int} {P : Nat} (T : JAt w0 G w a S gs P) (hb : Below w.heap.size w W) (C : JAt w0 (fun k => k < w.heap.size) W c S gs P) :
    ∃ G' : Nat → Prop, JAt w0 G' W a S gs P ∧ (∀ k, G k → G' k) ∧ ∀ w', Below w0.heap.size w0 w' → (∀ k, G' k → k < w'.heap.size) → Keep G' W w' → JAt w0 G w' c S gs P := by
  obtain ⟨F1, t1, h1⟩ := T.tr
  obtain ⟨F2, t2, h2⟩ := C.tr
  have hc : w.heap.size ≤ c := by
    obtain ⟨bb, cl, ta, S, gs, tn, tg, B⟩ := C
    have : ¬ c < w.heap.size := B.na
    omega
  have hcW := C.alt
  have T' : JAt w0 (fun k => G k ∨ (w.heap.size ≤ k ∧ k < W.heap.size)) W a S gs P := t1.tr w0 _ W hb.os hb.tape hb.output hb.size (fun k hk => hb.block k (t1.lo k hk).2) C.below (fun k hk => ⟨(t1.lo k hk).1, fun h => by
    rcases h with h | h
    · exact h1 k hk h
    · have := (t1.lo k hk).2; omega⟩) (fun k hk => by
    rcases hk with h | h
    · exact Nat.lt_of_lt_of_le (T.glt k h) hb.size
    · exact h.2)
  refine ⟨_, T', fun k hk => .inl hk, fun w' hb' hlt K => ?_⟩
  have hs : W.heap.size ≤ w'.heap.size := by
    have := hlt (W.heap.size - 1) (.inr ⟨by omega, by omega⟩)
    omega
  exact t2.tr w0 G w' (hb'.os.trans C.below.os.symm) (hb'.tape.trans C.below.tape.symm) (hb'.output.trans C.below.output.symm) hs (fun k hk => K k (.inr ⟨by have : ¬ k < w.heap.size := h2 k hk; omega, (t2.lo k hk).2⟩)) hb' (fun k hk => ⟨(t2.lo k hk).1, fun hg => h2 k hk (T.glt k hg)⟩) (fun k hk => Nat.lt_of_lt_of_le (Nat.lt_of_lt_of_le (T.glt k hk) hb.size) hs)

/-- Set at any spot, with the time 0. -/
theorem jSet_old {w0 w : World} {G : Nat → Prop} {a : Nat} {now : Int} {f : Nat → Int} {P : Nat} (J : JAt w0 G w a now f P) (x y : Int) (hT : Tab w0) (hP : P < 9223372036854775807) :
    Calls Tryz.prog 11 #[pt a, .agg #[.int .i64 x, .int .i64 y], .int .u64 0] w fun e w' => ∃ (b : Bool) (c : Int) (f' : Nat → Int), e = .returned (.tuple #[.bool b, .int .i64 c]) ∧ JAt w0 G w' a now f' (P + 1) ∧ Keep G w w' := by
  by_cases ho : okS x y = true
  · obtain ⟨q, r, hq, hr, rfl, rfl⟩ := okS_yes ho
    exact (jSet_yes J hq hr 0 (by decide) hT hP).mono (fun e w' h => ⟨_, _, _, h.1, h.2.1, h.2.2⟩)
  · have ho : okS x y = false := by simpa using ho
    exact (jSet_no J ho 0).mono (fun e w' h => ⟨_, _, _, h.1, (J.grown h.2.below).mono (by omega), J.keep h.2.below⟩)
end Go.Proofs.YtgkodleblkjhcaaGreatDoor
/- do: a call for both. -/
namespace Go.Proofs.YtgkodleblkjhcaaGreatDoor
open Go.RowKit Go.Sort
set_option linter.unusedVariables false
set_option linter.unusedSimpArgs false

/-- The law's own blocks: those of B and the reference's list. -/
def GS (s : Value) (B : Nat → Prop) : Nat → Prop := fun j => B j ∨ s.ownBlock = some j
/-- What do returns: both are as they were left, and the answers were the same. -/
def DoR (w0 w : World) (Bs : Nat → Prop) (P : Nat) (e : Ending) (w' : World) : Prop :=
  ∃ (a' : Nat) (now' : Int) (s' : Value) (f' : Nat → Int) (L' : List (Int × Nat)), e = .returned (.tuple #[pt a', rdv now' s', .bool true]) ∧ JAt w0 (GS s' Bs) w' a' now' f' (P + 2) ∧ RowL w' w0.heap.size s' L' ∧ ROK f' L' ∧ ∀ b, Bs b → w'.heap[b]? = w.heap[b]?

theorem RowL.keepR {w w' : World} {base : Nat} {s : Value} {L : List (Int × Nat)} (h : RowL w base s L) (hk : ∀ g, s.ownBlock = some g → w'.heap[g]? = w.heap[g]?) : RowL w' base s L := by
  refine ⟨h.1, ?_⟩
  rcases h.2 with h' | ⟨g, cap, cur, rfl, hb, hg, r⟩
  · exact .inl h'
  · exact .inr ⟨g, cap, cur, rfl, hb, (hk g rfl).trans hg, r⟩
section
variable {w0 w : World} {a P base : Nat} {Bs : Nat → Prop} {s : Value} {L : List (Int × Nat)} {f : Nat → Int} {now : Int}
set_option maxRecDepth 100000 in
set_option maxHeartbeats 6400000 in
theorem do_set_yes (J : JAt w0 (GS s Bs) w a now f P) (h : RowL w base s L) (R : ROK f L) (hbl : ∀ b, Bs b → w0.heap.size ≤ b ∧ b < w.heap.size) {q r : Nat} (hq : q < 128) (hr : r < 2) (t : Int) (ht : t ≤ never) (hT : Tab w0) (hP : P < 9223372036854775000) (hb0 : base ≤ w.heap.size) (hbs : w0.heap.size ≤ base) :
    Calls Tryz.prog 8 #[pt a, rdv now s, .agg #[.int .i64 0, .int .i64 (q : Int), .int .i64 (r : Int), .int .u64 t]] w (DoR w0 w Bs P) := by
  obtain ⟨va, vc, rfl⟩ := slice_form h
  have mixed : Tryz.prog.follows .mixedOrders = true := by kernel_rfl
  unfold rdv
  obtain ⟨W, hW⟩ : ∃ W, ((w.alloc (.cells #[.int .u64 now, .slice va L.length vc] 32)).alloc (.cells #[.int .i64 0, .int .i64 (q : Int), .int .i64 (r : Int), .int .u64 t] 39)).alloc (.cells #[.int .u64 0, .slice none 0 0] 32) = W := ⟨_, rfl⟩
  have al : ∀ (w : World) o, Below w.heap.size w (w.alloc o) := fun w o => (Below.refl _ _).alloc (Nat.le_refl _) _
  have hbW : Below w.heap.size w W := by rw [← hW]; exact (((Below.refl _ _).alloc (Nat.le_refl _) _).alloc (by simp) _).alloc (by simp; omega) _
  have hX : W.heap[w.heap.size]? = some (.cells #[.int .u64 now, .slice va L.length vc] 32 (0, 0)) := by rw [← hW]; exact ((al _ _).block _ (by simp; omega)).trans (((al _ _).block _ (by simp)).trans (block_new _ _ _ rfl))
  have hY : W.heap[w.heap.size + 1]? = some (.cells #[.int .i64 0, .int .i64 (q : Int), .int .i64 (r : Int), .int .u64 t] 39 (0, 0)) := by rw [← hW]; exact ((al _ _).block _ (by simp)).trans (block_new _ _ _ (by simp))
  have hZ : W.heap[w.heap.size + 1 + 1]? = some (.cells #[.int .u64 0, .slice none 0 0] 32 (0, 0)) := by rw [← hW]; exact block_new _ _ _ (by simp)
  obtain ⟨A, hA⟩ : ∃ A, w.heap.size = A := ⟨_, rfl⟩
  obtain ⟨B, hB⟩ : ∃ B, w.heap.size + 1 = B := ⟨_, rfl⟩
  obtain ⟨C, hC⟩ : ∃ C, w.heap.size + 1 + 1 = C := ⟨_, rfl⟩
  have HABC := Lib.hid (And.intro hA (And.intro hB hC))
  have HW := Lib.hid hW
  have HBW := Lib.hid hbW
  rw [hA] at hX
  rw [hB] at hY
  rw [hC] at hZ
  have hBA : A < B ∧ B < C := by omega
  -- the law's own blocks here: those of the caller, and the three boxes
  have HJW : Hid (JAt w0 (fun j => GS (.slice va L.length vc) Bs j ∨ (A ≤ j ∧ j ≤ C)) W a now f P) := Lib.hid (J.more hbW (fun j hj => by
    rcases hj with h | h
    · exact .inl h
    · exact .inr ⟨by omega, Nat.lt_of_le_of_lt h.2 (lt_of_block hZ)⟩))
  have HRW := Lib.hid (h.below hbW)
  have HX := Lib.hid hX
  have HY := Lib.hid hY
  have HZ := Lib.hid hZ
  have HOK := Lib.hid R
  have HN := Lib.hid J.nn
  have HJB := Lib.hid J.below.size
  have HBL := Lib.hid hbl
  have z0 := cells_cell (o := 0) hY rfl
  have z1 := cells_cell (o := 1) hY rfl
  have z2 := cells_cell (o := 2) hY rfl
  have z3 := cells_cell (o := 3) hY rfl
  have h0 := h
  clear h R J hW hbW hX hY hZ hA hB hC al hBA hbl
  have HCL := Lib.hid (jSet_yes HJW.out hq hr t ht hT (by omega))
  have HQ := Lib.hid (And.intro hq (And.intro hr ht))
  have HBS := Lib.hid (And.intro hb0 hbs)
  unfold pt
  go_enter Tryz.func8, Tryz.ntmps8
  go_upto_region 1 with (fail)
  rw [HW.out, HABC.out.2.2, HABC.out.2.1, HABC.out.1]
  clear HW
  unfold pt plc at HCL
  go_wp2_with (go_at_call 11; fail)
  refine HCL.out.mono ?_
  rintro e w5 ⟨rfl, J5, K5⟩
  have HJ5 := Lib.hid J5
  have hAC : A ≤ C ∧ B ≤ C ∧ A ≤ B := by have := HABC.out; omega
  have hX5 := (K5 A (.inr ⟨Nat.le_refl _, by omega⟩)).trans HX.out
  have hY5 := (K5 B (.inr ⟨by omega, by omega⟩)).trans HY.out
  have hZ5 := (K5 C (.inr ⟨by omega, Nat.le_refl _⟩)).trans HZ.out
  have hB5 : ∀ b, Bs b → w5.heap[b]? = w.heap[b]? := fun b hb => (K5 b (.inl (.inl hb))).trans (HBW.out.block b (HBL.out b hb).2)
  have hR5 : RowL w5 base (.slice va L.length vc) L := HRW.out.keepR (fun g hg => K5 g (.inl (.inr hg)))
  have HX5 := Lib.hid hX5
  have HZ5 := Lib.hid hZ5
  have HB5 := Lib.hid hB5
  have HR5 := Lib.hid hR5
  have HRL : Hid (∀ g, (Value.slice va L.length vc).ownBlock = some g → g < w.heap.size) := Lib.hid (fun g hg => (h0.lt g hg).2)
  have HCW : Hid (C < w5.heap.size ∧ w.heap.size ≤ w5.heap.size ∧ w0.heap.size ≤ w5.heap.size) := Lib.hid ⟨lt_of_block hZ5, by have h1 := lt_of_block hX5; have h2 := HABC.out; omega, J5.below.size⟩
  have hbb : base ≤ w5.heap.size := by have := HCW.out.2.1; have := HBS.out.1; omega
  have hrs := Lib.hid (rset_yes (now := now) hR5 hbb HOK.out HN.out HQ.out.1 HQ.out.2.1 t HQ.out.2.2)
  unfold rdv at hrs
  clear z0 z1 z2 z3 J5 K5 HCL hbb
  have x0 := cells_cell (o := 0) hX5 rfl
  have x1 := cells_cell (o := 1) hX5 rfl
  have z0 := cells_cell (o := 0) hY5 rfl
  have z1 := cells_cell (o := 1) hY5 rfl
  have z2 := cells_cell (o := 2) hY5 rfl
  have z3 := cells_cell (o := 3) hY5 rfl
  clear hX5 hY5 hZ5 hB5 hR5
  go_wp2_with (go_at_call 12; fail)
  refine hrs.out.mono ?_
  rintro e w6 ⟨s', L', rfl, hr6, R6, hb6⟩
  obtain ⟨pa, pc, hp⟩ := slice_form hr6
  obtain ⟨pn, hpn⟩ : ∃ pn, L'.length = pn := ⟨_, rfl⟩
  rw [hpn] at hp
  subst hp
  obtain ⟨D, hD⟩ : ∃ D, w6.heap.size = D := ⟨_, rfl⟩
  obtain ⟨w7, hw7⟩ : ∃ w7, w6.alloc (.cells #[.int .u64 now, .slice pa pn pc] 32) = w7 := ⟨_, rfl⟩
  have hb7 : Below w6.heap.size w6 w7 := by rw [← hw7]; exact (Below.refl _ _).alloc (Nat.le_refl _) _
  have HD7 : Hid (w7.heap[D]? = some (.cells #[.int .u64 now, .slice pa pn pc] 32 (0, 0))) := Lib.hid (by rw [← hw7, ← hD]; exact block_new _ _ _ rfl)
  have hb57 := hb6.trans (hb7.mono hb6.size)
  have HZ7 := Lib.hid ((hb57.block _ (lt_of_block HZ5.out)).trans HZ5.out)
  have HB7 : Hid (∀ b, Bs b → w7.heap[b]? = w.heap[b]?) := Lib.hid (fun b hb => (hb57.block b (by have := HCW.out.2.1; have := (HBL.out b hb).2; omega)).trans (HB5.out b hb))
  have HR7 : Hid (RowL w7 w0.heap.size (.slice pa pn pc) L') := Lib.hid (ownsRow_mono (hr6.below hb7) HCW.out.2.2)
  have HK7 := Lib.hid R6
  have HJ7 : Hid (JAt w0 (fun j => GS (.slice pa pn pc) Bs j ∨ j = C) w7 a now (upd f (q * 2 + r) t) (P + 2)) := Lib.hid ((HJ5.out.more hb57 (fun j hj => by
    rcases hj with (h | h) | h
    · exact .inl (.inl (.inl h))
    · have := hr6.lt j h; exact .inr ⟨this.1, Nat.lt_of_lt_of_le this.2 hb7.size⟩
    · subst h; exact .inl (.inr ⟨by omega, Nat.le_refl _⟩))).mono (by omega))
  have HCD : Hid (C < D ∧ (∀ b, Bs b → b < C) ∧ w0.heap.size ≤ C) := Lib.hid (by
    have h1 := HCW.out.1; have h2 := hb6.size; have h4 := HABC.out.2.2; have h5 := HBS.out.1; have h6 := HBS.out.2
    exact ⟨by omega, fun b hb => by have := (HBL.out b hb).2; omega, by omega⟩)
  have HCR : Hid (∀ g, (Value.slice pa pn pc).ownBlock = some g → g ≠ C) := Lib.hid (fun g hg => by have := (hr6.lt g hg).1; have := HCW.out.1; omega)
  have HW7 := Lib.hid (And.intro hw7 hD)
  clear hr6 R6 hb6 hb7 hb57 hw7 hD hrs x0 x1 z0 z1 z2 z3 hpn HX5 HZ5 HB5 HJ5 HJW HRW HX HY HZ 
  go_upto_region 5 with (fail)
  rw [HW7.out.1, HW7.out.2]
  refine wp_region_mix (fun W' => Fr [C] w7 W') 12 [(true, 0), (true, 1), (true, 2), (true, 3), (true, 4), (true, 5), (true, 6), (true, 7), (true, 8), (true, 9), (false, 10), (false, 11)] mixed (by kernel_rfl) (fun _ _ _ d _ h => by cases d <;> exact h) ?_
  have hld : ∀ W', Fr [C] w7 W' → W'.cell? ⟨D, 0, none⟩ = some (.int .u64 now) ∧ W'.cell? ⟨D, 1, none⟩ = some (.slice pa pn pc) := fun W' hb => by
    have e0 := hb.same HD7.out (by have := HCD.out.1; simp; omega)
    exact ⟨cells_cell e0 rfl, cells_cell e0 rfl⟩
  have HS1 : Hid (Fr [C] w7 w7.drew) := Lib.hid (fr_drewN w7 1 _)
  simp only [List.map_cons, List.map_nil, List.getD_cons_zero, List.getD_cons_succ, List.drop_succ_cons, List.drop_zero]
  refine mix_move (.tmp 0) (.pointer (some ⟨a, 0, none⟩)) rfl HS1.out rfl rfl ?_
  simp only [Act.put, List.setIfInBounds_toArray, List.set_cons_zero, List.set_cons_succ]
  refine mix_take (.agg #[.int .u64 now, .slice pa pn pc]) HS1.out rfl (fun W' hS => by obtain ⟨l0, l1⟩ := hld W' hS; go_simp) ?_
  simp only [Act.put, List.setIfInBounds_toArray, List.set_cons_zero, List.set_cons_succ]
  refine mix_move (.tmp 9) (.bool (decide (t ≤ now))) rfl HS1.out rfl rfl ?_
  simp only [Act.put, List.setIfInBounds_toArray, List.set_cons_zero, List.set_cons_succ]
  refine mix_move (.tmp 12) (.bool (decide (t ≤ now))) rfl HS1.out rfl rfl ?_
  simp only [Act.put, List.setIfInBounds_toArray, List.set_cons_zero, List.set_cons_succ]
  refine mix_take (.bool true) HS1.out rfl (fun W' hS => by obtain ⟨l0, l1⟩ := hld W' hS; go_simp) ?_
  simp only [Act.put, List.setIfInBounds_toArray, List.set_cons_zero, List.set_cons_succ]
  refine mix_move (.tmp 51) (.bool true) rfl HS1.out rfl rfl ?_
  simp only [Act.put, List.setIfInBounds_toArray, List.set_cons_zero, List.set_cons_succ]
  refine mix_move (.tmp 10) (.int .i64 0) rfl HS1.out rfl rfl ?_
  simp only [Act.put, List.setIfInBounds_toArray, List.set_cons_zero, List.set_cons_succ]
  refine mix_move (.tmp 13) (.int .i64 0) rfl HS1.out rfl rfl ?_
  simp only [Act.put, List.setIfInBounds_toArray, List.set_cons_zero, List.set_cons_succ]
  refine mix_take (.bool true) HS1.out rfl (fun W' hS => by obtain ⟨l0, l1⟩ := hld W' hS; go_simp) ?_
  simp only [Act.put, List.setIfInBounds_toArray, List.set_cons_zero, List.set_cons_succ]
  refine mix_take (.bool true) HS1.out rfl (fun W' hS => by obtain ⟨l0, l1⟩ := hld W' hS; go_simp) ?_
  simp only [Act.put, List.setIfInBounds_toArray, List.set_cons_zero, List.set_cons_succ]
  refine mix_by (.pointer (some ⟨a, 0, none⟩)) rfl (by go_simp) HS1.out ?_
  simp only [Act.put, List.setIfInBounds_toArray, List.set_cons_zero, List.set_cons_succ]
  have hDb : Below w7.heap.size w7 w7.drew := (Below.refl _ _).drew
  have c2 := (hDb.block _ (lt_of_block HZ7.out)).trans HZ7.out
  have HJ8 := Lib.hid (HJ7.out.grown hDb)
  have HR8 := Lib.hid (HR7.out.below hDb)
  have HB8 : Hid (∀ b, Bs b → w7.drew.heap[b]? = w.heap[b]?) := Lib.hid (fun b hb => (hDb.block b (by have h1 := lt_of_block HZ7.out; have := HCD.out.2.1 b hb; omega)).trans (HB7.out b hb))
  clear hDb hld
  generalize w7.drew = V6 at *
  have y0 := cells_cell (o := 0) c2 rfl
  have y1 : V6.cell? ⟨C, 1, none⟩ = some (.slice none 0 0) := cells_cell c2 rfl
  have z0 := cells_free c2 0
  have z1 := cells_free c2 1
  have hxl := lt_of_block c2
  have HCL2 := Lib.hid hxl
  have hf := (fr_setCell V6 ⟨C, 0, none⟩ (.int .u64 now)).trans' (fr_setCell _ ⟨C, 1, none⟩ (.slice pa pn pc))
  have HC9 := Lib.hid (set2 c2 (.int .u64 now) (.slice pa pn pc))
  have HJ9 := Lib.hid (((HJ8.out.write hf (fun g hg => by simp at hg; exact ⟨.inr hg, by have := HCD.out.2.2; omega⟩)).less (G' := GS (.slice pa pn pc) Bs) (fun g hg => .inl hg)).mono (Q := P + 2) (by omega))
  have HR9 := Lib.hid (RowL.fr HR8.out hf (fun g hg hm => by have := HCR.out g hg; simp at hm; exact this hm))
  have HB9 : Hid (∀ b, Bs b → ((V6.setCell ⟨C, 0, none⟩ (.int .u64 now)).setCell ⟨C, 1, none⟩ (.slice pa pn pc)).heap[b]? = w.heap[b]?) := Lib.hid (fun b hb => (hf.block b (by have := HCD.out.2.1 b hb; have := HCL2.out; omega) (by have := HCD.out.2.1 b hb; simp; omega)).trans (HB8.out b hb))
  have HS2 := Lib.hid (HS1.out.trans' hf)
  clear hf c2 HS1 HJ8 HR8 HB8
  refine mix_step rfl (fun K hK => ?_)
  go_simp
  refine hK _ _ HS2.out ?_
  clear hK K
  refine mix_nil ?_
  clear y0 y1 z0 z1 hxl
  go_wp2_with fail
  have hy2 := HC9.out
  refine bodyPost_ret (v := .tuple #[.pointer (some ⟨a, 0, none⟩), .agg #[.int .u64 now, .slice pa pn pc], .bool true]) (by simp [results, Tryz.results8, go_sem, cells_cell (o := 0) hy2 rfl, cells_cell (o := 1) hy2 rfl]) rfl ?_
  exact ⟨a, now, _, (upd f (q * 2 + r) t), _, rfl, HJ9.out, HR9.out, HK7.out, HB9.out⟩
set_option maxRecDepth 100000 in
set_option maxHeartbeats 6400000 in
theorem do_set_no (J : JAt w0 (GS s Bs) w a now f P) (h : RowL w base s L) (R : ROK f L) (hbl : ∀ b, Bs b → w0.heap.size ≤ b ∧ b < w.heap.size) {x y : Int} (hk : okS x y = false) (t : Int) (hT : Tab w0) (hP : P < 9223372036854775000) (hb0 : base ≤ w.heap.size) (hbs : w0.heap.size ≤ base) :
    Calls Tryz.prog 8 #[pt a, rdv now s, .agg #[.int .i64 0, .int .i64 x, .int .i64 y, .int .u64 t]] w (DoR w0 w Bs P) := by
  obtain ⟨va, vc, rfl⟩ := slice_form h
  have mixed : Tryz.prog.follows .mixedOrders = true := by kernel_rfl
  unfold rdv
  obtain ⟨W, hW⟩ : ∃ W, ((w.alloc (.cells #[.int .u64 now, .slice va L.length vc] 32)).alloc (.cells #[.int .i64 0, .int .i64 x, .int .i64 y, .int .u64 t] 39)).alloc (.cells #[.int .u64 0, .slice none 0 0] 32) = W := ⟨_, rfl⟩
  have al : ∀ (w : World) o, Below w.heap.size w (w.alloc o) := fun w o => (Below.refl _ _).alloc (Nat.le_refl _) _
  have hbW : Below w.heap.size w W := by rw [← hW]; exact (((Below.refl _ _).alloc (Nat.le_refl _) _).alloc (by simp) _).alloc (by simp; omega) _
  have hX : W.heap[w.heap.size]? = some (.cells #[.int .u64 now, .slice va L.length vc] 32 (0, 0)) := by rw [← hW]; exact ((al _ _).block _ (by simp; omega)).trans (((al _ _).block _ (by simp)).trans (block_new _ _ _ rfl))
  have hY : W.heap[w.heap.size + 1]? = some (.cells #[.int .i64 0, .int .i64 x, .int .i64 y, .int .u64 t] 39 (0, 0)) := by rw [← hW]; exact ((al _ _).block _ (by simp)).trans (block_new _ _ _ (by simp))
  have hZ : W.heap[w.heap.size + 1 + 1]? = some (.cells #[.int .u64 0, .slice none 0 0] 32 (0, 0)) := by rw [← hW]; exact block_new _ _ _ (by simp)
  obtain ⟨A, hA⟩ : ∃ A, w.heap.size = A := ⟨_, rfl⟩
  obtain ⟨B, hB⟩ : ∃ B, w.heap.size + 1 = B := ⟨_, rfl⟩
  obtain ⟨C, hC⟩ : ∃ C, w.heap.size + 1 + 1 = C := ⟨_, rfl⟩
  have HABC := Lib.hid (And.intro hA (And.intro hB hC))
  have HW := Lib.hid hW
  have HBW := Lib.hid hbW
  rw [hA] at hX
  rw [hB] at hY
  rw [hC] at hZ
  have hBA : A < B ∧ B < C := by omega
  -- the law's own blocks here: those of the caller, and the three boxes
  have HJW : Hid (JAt w0 (fun j => GS (.slice va L.length vc) Bs j ∨ (A ≤ j ∧ j ≤ C)) W a now f P) := Lib.hid (J.more hbW (fun j hj => by
    rcases hj with h | h
    · exact .inl h
    · exact .inr ⟨by omega, Nat.lt_of_le_of_lt h.2 (lt_of_block hZ)⟩))
  have HRW := Lib.hid (h.below hbW)
  have HX := Lib.hid hX
  have HY := Lib.hid hY
  have HZ := Lib.hid hZ
  have HOK := Lib.hid R
  have HN := Lib.hid J.nn
  have HJB := Lib.hid J.below.size
  have HBL := Lib.hid hbl
  have z0 := cells_cell (o := 0) hY rfl
  have z1 := cells_cell (o := 1) hY rfl
  have z2 := cells_cell (o := 2) hY rfl
  have z3 := cells_cell (o := 3) hY rfl
  have h0 := h
  clear h R J hW hbW hX hY hZ hA hB hC al hBA hbl
  have HCL := Lib.hid (jSet_no HJW.out hk t)
  have HQ := Lib.hid hk
  have HBS := Lib.hid (And.intro hb0 hbs)
  unfold pt
  go_enter Tryz.func8, Tryz.ntmps8
  go_upto_region 1 with (fail)
  rw [HW.out, HABC.out.2.2, HABC.out.2.1, HABC.out.1]
  clear HW
  unfold pt at HCL
  go_wp2_with (go_at_call 11; fail)
  refine HCL.out.mono ?_
  rintro e w5 ⟨rfl, hg5⟩
  have J5 := HJW.out.grown hg5.below
  have K5 := HJW.out.keep hg5.below
  have HJ5 := Lib.hid J5
  have hAC : A ≤ C ∧ B ≤ C ∧ A ≤ B := by have := HABC.out; omega
  have hX5 := (K5 A (.inr ⟨Nat.le_refl _, by omega⟩)).trans HX.out
  have hY5 := (K5 B (.inr ⟨by omega, by omega⟩)).trans HY.out
  have hZ5 := (K5 C (.inr ⟨by omega, Nat.le_refl _⟩)).trans HZ.out
  have hB5 : ∀ b, Bs b → w5.heap[b]? = w.heap[b]? := fun b hb => (K5 b (.inl (.inl hb))).trans (HBW.out.block b (HBL.out b hb).2)
  have hR5 : RowL w5 base (.slice va L.length vc) L := HRW.out.keepR (fun g hg => K5 g (.inl (.inr hg)))
  have HX5 := Lib.hid hX5
  have HZ5 := Lib.hid hZ5
  have HB5 := Lib.hid hB5
  have HR5 := Lib.hid hR5
  have HRL : Hid (∀ g, (Value.slice va L.length vc).ownBlock = some g → g < w.heap.size) := Lib.hid (fun g hg => (h0.lt g hg).2)
  have HCW : Hid (C < w5.heap.size ∧ w.heap.size ≤ w5.heap.size ∧ w0.heap.size ≤ w5.heap.size) := Lib.hid ⟨lt_of_block hZ5, by have h1 := lt_of_block hX5; have h2 := HABC.out; omega, J5.below.size⟩
  have hbb : base ≤ w5.heap.size := by have := HCW.out.2.1; have := HBS.out.1; omega
  have hrs := Lib.hid (rset_no (now := now) hR5 hbb HQ.out t)
  unfold rdv at hrs
  clear z0 z1 z2 z3 J5 K5 HCL hbb
  have x0 := cells_cell (o := 0) hX5 rfl
  have x1 := cells_cell (o := 1) hX5 rfl
  have z0 := cells_cell (o := 0) hY5 rfl
  have z1 := cells_cell (o := 1) hY5 rfl
  have z2 := cells_cell (o := 2) hY5 rfl
  have z3 := cells_cell (o := 3) hY5 rfl
  clear hX5 hY5 hZ5 hB5 hR5
  go_wp2_with (go_at_call 12; fail)
  refine hrs.out.mono ?_
  rintro e w6 ⟨rfl, hb6⟩
  obtain ⟨pa, hpa⟩ : ∃ pa, va = pa := ⟨_, rfl⟩
  obtain ⟨pc, hpc⟩ : ∃ pc, vc = pc := ⟨_, rfl⟩
  obtain ⟨pn, hpn⟩ : ∃ pn, L.length = pn := ⟨_, rfl⟩
  have hr6 : RowL w6 base (.slice pa pn pc) L := by rw [← hpa, ← hpc, ← hpn]; exact HR5.out.below hb6
  have hrl : ∀ g, (Value.slice pa pn pc).ownBlock = some g → g < w.heap.size := by rw [← hpa, ← hpc, ← hpn]; exact HRL.out
  have hgb : ∀ g, GS (.slice pa pn pc) Bs g → GS (.slice va L.length vc) Bs g := fun g hg => by rw [hpa, hpc, hpn]; exact hg
  have R6 : ROK f L := HOK.out
  rw [hpa, hpc, hpn]
  obtain ⟨D, hD⟩ : ∃ D, w6.heap.size = D := ⟨_, rfl⟩
  obtain ⟨w7, hw7⟩ : ∃ w7, w6.alloc (.cells #[.int .u64 now, .slice pa pn pc] 32) = w7 := ⟨_, rfl⟩
  have hb7 : Below w6.heap.size w6 w7 := by rw [← hw7]; exact (Below.refl _ _).alloc (Nat.le_refl _) _
  have HD7 : Hid (w7.heap[D]? = some (.cells #[.int .u64 now, .slice pa pn pc] 32 (0, 0))) := Lib.hid (by rw [← hw7, ← hD]; exact block_new _ _ _ rfl)
  have hb57 := hb6.trans (hb7.mono hb6.size)
  have HZ7 := Lib.hid ((hb57.block _ (lt_of_block HZ5.out)).trans HZ5.out)
  have HB7 : Hid (∀ b, Bs b → w7.heap[b]? = w.heap[b]?) := Lib.hid (fun b hb => (hb57.block b (by have := HCW.out.2.1; have := (HBL.out b hb).2; omega)).trans (HB5.out b hb))
  have HR7 : Hid (RowL w7 w0.heap.size (.slice pa pn pc) L) := Lib.hid (ownsRow_mono (hr6.below hb7) HBS.out.2)
  have HK7 := Lib.hid R6
  have HJ7 : Hid (JAt w0 (fun j => GS (.slice pa pn pc) Bs j ∨ j = C) w7 a now f (P + 2)) := Lib.hid ((HJ5.out.more hb57 (fun j hj => by
    rcases hj with h | h
    · exact .inl (.inl (hgb j h))
    · subst h; exact .inl (.inr ⟨by omega, Nat.le_refl _⟩))).mono (by omega))
  have HCD : Hid (C < D ∧ (∀ b, Bs b → b < C) ∧ w0.heap.size ≤ C) := Lib.hid (by
    have h1 := HCW.out.1; have h2 := hb6.size; have h4 := HABC.out.2.2; have h5 := HBS.out.1; have h6 := HBS.out.2
    exact ⟨by omega, fun b hb => by have := (HBL.out b hb).2; omega, by omega⟩)
  have HCR : Hid (∀ g, (Value.slice pa pn pc).ownBlock = some g → g ≠ C) := Lib.hid (fun g hg => by have := hrl g hg; have := HABC.out.2.2; omega)
  have HW7 := Lib.hid (And.intro hw7 hD)
  clear hr6 R6 hb6 hb7 hb57 hw7 hD hrs x0 x1 z0 z1 z2 z3 hpn HX5 HZ5 HB5 HJ5 HJW HRW HX HY HZ hpa hpc hrl hgb
  go_upto_region 5 with (fail)
  rw [HW7.out.1, HW7.out.2]
  refine wp_region_mix (fun W' => Fr [C] w7 W') 12 [(true, 0), (true, 1), (true, 2), (true, 3), (true, 4), (true, 5), (true, 6), (true, 7), (true, 8), (true, 9), (false, 10), (false, 11)] mixed (by kernel_rfl) (fun _ _ _ d _ h => by cases d <;> exact h) ?_
  have hld : ∀ W', Fr [C] w7 W' → W'.cell? ⟨D, 0, none⟩ = some (.int .u64 now) ∧ W'.cell? ⟨D, 1, none⟩ = some (.slice pa pn pc) := fun W' hb => by
    have e0 := hb.same HD7.out (by have := HCD.out.1; simp; omega)
    exact ⟨cells_cell e0 rfl, cells_cell e0 rfl⟩
  have HS1 : Hid (Fr [C] w7 w7.drew) := Lib.hid (fr_drewN w7 1 _)
  simp only [List.map_cons, List.map_nil, List.getD_cons_zero, List.getD_cons_succ, List.drop_succ_cons, List.drop_zero]
  refine mix_move (.tmp 0) (.pointer (some ⟨a, 0, none⟩)) rfl HS1.out rfl rfl ?_
  simp only [Act.put, List.setIfInBounds_toArray, List.set_cons_zero, List.set_cons_succ]
  refine mix_take (.agg #[.int .u64 now, .slice pa pn pc]) HS1.out rfl (fun W' hS => by obtain ⟨l0, l1⟩ := hld W' hS; go_simp) ?_
  simp only [Act.put, List.setIfInBounds_toArray, List.set_cons_zero, List.set_cons_succ]
  refine mix_move (.tmp 9) (.bool false) rfl HS1.out rfl rfl ?_
  simp only [Act.put, List.setIfInBounds_toArray, List.set_cons_zero, List.set_cons_succ]
  refine mix_move (.tmp 12) (.bool false) rfl HS1.out rfl rfl ?_
  simp only [Act.put, List.setIfInBounds_toArray, List.set_cons_zero, List.set_cons_succ]
  refine mix_take (.bool true) HS1.out rfl (fun W' hS => by obtain ⟨l0, l1⟩ := hld W' hS; go_simp) ?_
  simp only [Act.put, List.setIfInBounds_toArray, List.set_cons_zero, List.set_cons_succ]
  refine mix_move (.tmp 51) (.bool true) rfl HS1.out rfl rfl ?_
  simp only [Act.put, List.setIfInBounds_toArray, List.set_cons_zero, List.set_cons_succ]
  refine mix_move (.tmp 10) (.int .i64 2) rfl HS1.out rfl rfl ?_
  simp only [Act.put, List.setIfInBounds_toArray, List.set_cons_zero, List.set_cons_succ]
  refine mix_move (.tmp 13) (.int .i64 2) rfl HS1.out rfl rfl ?_
  simp only [Act.put, List.setIfInBounds_toArray, List.set_cons_zero, List.set_cons_succ]
  refine mix_take (.bool true) HS1.out rfl (fun W' hS => by obtain ⟨l0, l1⟩ := hld W' hS; go_simp) ?_
  simp only [Act.put, List.setIfInBounds_toArray, List.set_cons_zero, List.set_cons_succ]
  refine mix_take (.bool true) HS1.out rfl (fun W' hS => by obtain ⟨l0, l1⟩ := hld W' hS; go_simp) ?_
  simp only [Act.put, List.setIfInBounds_toArray, List.set_cons_zero, List.set_cons_succ]
  refine mix_by (.pointer (some ⟨a, 0, none⟩)) rfl (by go_simp) HS1.out ?_
  simp only [Act.put, List.setIfInBounds_toArray, List.set_cons_zero, List.set_cons_succ]
  have hDb : Below w7.heap.size w7 w7.drew := (Below.refl _ _).drew
  have c2 := (hDb.block _ (lt_of_block HZ7.out)).trans HZ7.out
  have HJ8 := Lib.hid (HJ7.out.grown hDb)
  have HR8 := Lib.hid (HR7.out.below hDb)
  have HB8 : Hid (∀ b, Bs b → w7.drew.heap[b]? = w.heap[b]?) := Lib.hid (fun b hb => (hDb.block b (by have h1 := lt_of_block HZ7.out; have := HCD.out.2.1 b hb; omega)).trans (HB7.out b hb))
  clear hDb hld
  generalize w7.drew = V6 at *
  have y0 := cells_cell (o := 0) c2 rfl
  have y1 : V6.cell? ⟨C, 1, none⟩ = some (.slice none 0 0) := cells_cell c2 rfl
  have z0 := cells_free c2 0
  have z1 := cells_free c2 1
  have hxl := lt_of_block c2
  have HCL2 := Lib.hid hxl
  have hf := (fr_setCell V6 ⟨C, 0, none⟩ (.int .u64 now)).trans' (fr_setCell _ ⟨C, 1, none⟩ (.slice pa pn pc))
  have HC9 := Lib.hid (set2 c2 (.int .u64 now) (.slice pa pn pc))
  have HJ9 := Lib.hid (((HJ8.out.write hf (fun g hg => by simp at hg; exact ⟨.inr hg, by have := HCD.out.2.2; omega⟩)).less (G' := GS (.slice pa pn pc) Bs) (fun g hg => .inl hg)).mono (Q := P + 2) (by omega))
  have HR9 := Lib.hid (RowL.fr HR8.out hf (fun g hg hm => by have := HCR.out g hg; simp at hm; exact this hm))
  have HB9 : Hid (∀ b, Bs b → ((V6.setCell ⟨C, 0, none⟩ (.int .u64 now)).setCell ⟨C, 1, none⟩ (.slice pa pn pc)).heap[b]? = w.heap[b]?) := Lib.hid (fun b hb => (hf.block b (by have := HCD.out.2.1 b hb; have := HCL2.out; omega) (by have := HCD.out.2.1 b hb; simp; omega)).trans (HB8.out b hb))
  have HS2 := Lib.hid (HS1.out.trans' hf)
  clear hf c2 HS1 HJ8 HR8 HB8
  refine mix_step rfl (fun K hK => ?_)
  go_simp
  refine hK _ _ HS2.out ?_
  clear hK K
  refine mix_nil ?_
  clear y0 y1 z0 z1 hxl
  go_wp2_with fail
  have hy2 := HC9.out
  refine bodyPost_ret (v := .tuple #[.pointer (some ⟨a, 0, none⟩), .agg #[.int .u64 now, .slice pa pn pc], .bool true]) (by simp [results, Tryz.results8, go_sem, cells_cell (o := 0) hy2 rfl, cells_cell (o := 1) hy2 rfl]) rfl ?_
  exact ⟨a, now, _, f, _, rfl, HJ9.out, HR9.out, HK7.out, HB9.out⟩
set_option maxRecDepth 100000 in
set_option maxHeartbeats 6400000 in
theorem do_clear_yes (J : JAt w0 (GS s Bs) w a now f P) (h : RowL w base s L) (R : ROK f L) (hbl : ∀ b, Bs b → w0.heap.size ≤ b ∧ b < w.heap.size) {q : Nat} (hq : q < 128) (y t : Int) (hT : Tab w0) (hP : P < 9223372036854775000) (hb0 : base ≤ w.heap.size) (hbs : w0.heap.size ≤ base) :
    Calls Tryz.prog 8 #[pt a, rdv now s, .agg #[.int .i64 2, .int .i64 (q : Int), .int .i64 y, .int .u64 t]] w (DoR w0 w Bs P) := by
  obtain ⟨va, vc, rfl⟩ := slice_form h
  have mixed : Tryz.prog.follows .mixedOrders = true := by kernel_rfl
  unfold rdv
  obtain ⟨W, hW⟩ : ∃ W, ((w.alloc (.cells #[.int .u64 now, .slice va L.length vc] 32)).alloc (.cells #[.int .i64 2, .int .i64 (q : Int), .int .i64 y, .int .u64 t] 39)).alloc (.cells #[.int .u64 0, .slice none 0 0] 32) = W := ⟨_, rfl⟩
  have al : ∀ (w : World) o, Below w.heap.size w (w.alloc o) := fun w o => (Below.refl _ _).alloc (Nat.le_refl _) _
  have hbW : Below w.heap.size w W := by rw [← hW]; exact (((Below.refl _ _).alloc (Nat.le_refl _) _).alloc (by simp) _).alloc (by simp; omega) _
  have hX : W.heap[w.heap.size]? = some (.cells #[.int .u64 now, .slice va L.length vc] 32 (0, 0)) := by rw [← hW]; exact ((al _ _).block _ (by simp; omega)).trans (((al _ _).block _ (by simp)).trans (block_new _ _ _ rfl))
  have hY : W.heap[w.heap.size + 1]? = some (.cells #[.int .i64 2, .int .i64 (q : Int), .int .i64 y, .int .u64 t] 39 (0, 0)) := by rw [← hW]; exact ((al _ _).block _ (by simp)).trans (block_new _ _ _ (by simp))
  have hZ : W.heap[w.heap.size + 1 + 1]? = some (.cells #[.int .u64 0, .slice none 0 0] 32 (0, 0)) := by rw [← hW]; exact block_new _ _ _ (by simp)
  obtain ⟨A, hA⟩ : ∃ A, w.heap.size = A := ⟨_, rfl⟩
  obtain ⟨B, hB⟩ : ∃ B, w.heap.size + 1 = B := ⟨_, rfl⟩
  obtain ⟨C, hC⟩ : ∃ C, w.heap.size + 1 + 1 = C := ⟨_, rfl⟩
  have HABC := Lib.hid (And.intro hA (And.intro hB hC))
  have HW := Lib.hid hW
  have HBW := Lib.hid hbW
  rw [hA] at hX
  rw [hB] at hY
  rw [hC] at hZ
  have hBA : A < B ∧ B < C := by omega
  -- the law's own blocks here: those of the caller, and the three boxes
  have HJW : Hid (JAt w0 (fun j => GS (.slice va L.length vc) Bs j ∨ (A ≤ j ∧ j ≤ C)) W a now f P) := Lib.hid (J.more hbW (fun j hj => by
    rcases hj with h | h
    · exact .inl h
    · exact .inr ⟨by omega, Nat.lt_of_le_of_lt h.2 (lt_of_block hZ)⟩))
  have HRW := Lib.hid (h.below hbW)
  have HX := Lib.hid hX
  have HY := Lib.hid hY
  have HZ := Lib.hid hZ
  have HOK := Lib.hid R
  have HN := Lib.hid J.nn
  have HJB := Lib.hid J.below.size
  have HBL := Lib.hid hbl
  have z0 := cells_cell (o := 0) hY rfl
  have z1 := cells_cell (o := 1) hY rfl
  have z2 := cells_cell (o := 2) hY rfl
  have z3 := cells_cell (o := 3) hY rfl
  have h0 := h
  clear h R J hW hbW hX hY hZ hA hB hC al hBA hbl
  have HCL := Lib.hid (jClear_yes HJW.out hq hT (by omega))
  have HQ := Lib.hid hq
  have HBS := Lib.hid (And.intro hb0 hbs)
  unfold pt
  go_enter Tryz.func8, Tryz.ntmps8
  go_upto_region 1 with (fail)
  rw [HW.out, HABC.out.2.2, HABC.out.2.1, HABC.out.1]
  clear HW
  unfold pt at HCL
  go_wp2_with (go_at_call 20; fail)
  refine HCL.out.mono ?_
  rintro e w5 ⟨rfl, J5, K5⟩
  have HJ5 := Lib.hid J5
  have hAC : A ≤ C ∧ B ≤ C ∧ A ≤ B := by have := HABC.out; omega
  have hX5 := (K5 A (.inr ⟨Nat.le_refl _, by omega⟩)).trans HX.out
  have hY5 := (K5 B (.inr ⟨by omega, by omega⟩)).trans HY.out
  have hZ5 := (K5 C (.inr ⟨by omega, Nat.le_refl _⟩)).trans HZ.out
  have hB5 : ∀ b, Bs b → w5.heap[b]? = w.heap[b]? := fun b hb => (K5 b (.inl (.inl hb))).trans (HBW.out.block b (HBL.out b hb).2)
  have hR5 : RowL w5 base (.slice va L.length vc) L := HRW.out.keepR (fun g hg => K5 g (.inl (.inr hg)))
  have HX5 := Lib.hid hX5
  have HZ5 := Lib.hid hZ5
  have HB5 := Lib.hid hB5
  have HR5 := Lib.hid hR5
  have HRL : Hid (∀ g, (Value.slice va L.length vc).ownBlock = some g → g < w.heap.size) := Lib.hid (fun g hg => (h0.lt g hg).2)
  have HCW : Hid (C < w5.heap.size ∧ w.heap.size ≤ w5.heap.size ∧ w0.heap.size ≤ w5.heap.size) := Lib.hid ⟨lt_of_block hZ5, by have h1 := lt_of_block hX5; have h2 := HABC.out; omega, J5.below.size⟩
  have hbb : base ≤ w5.heap.size := by have := HCW.out.2.1; have := HBS.out.1; omega
  have hrs := Lib.hid (rclear_yes (now := now) hR5 hbb HOK.out HN.out HQ.out)
  unfold rdv at hrs
  clear z0 z1 z2 z3 J5 K5 HCL hbb
  have x0 := cells_cell (o := 0) hX5 rfl
  have x1 := cells_cell (o := 1) hX5 rfl
  have z0 := cells_cell (o := 0) hY5 rfl
  have z1 := cells_cell (o := 1) hY5 rfl
  have z2 := cells_cell (o := 2) hY5 rfl
  have z3 := cells_cell (o := 3) hY5 rfl
  clear hX5 hY5 hZ5 hB5 hR5
  go_wp2_with (go_at_call 25; fail)
  refine hrs.out.mono ?_
  rintro e w6 ⟨s', L', rfl, hr6, R6, hb6⟩
  obtain ⟨pa, pc, hp⟩ := slice_form hr6
  obtain ⟨pn, hpn⟩ : ∃ pn, L'.length = pn := ⟨_, rfl⟩
  rw [hpn] at hp
  subst hp
  obtain ⟨D, hD⟩ : ∃ D, w6.heap.size = D := ⟨_, rfl⟩
  obtain ⟨w7, hw7⟩ : ∃ w7, w6.alloc (.cells #[.int .u64 now, .slice pa pn pc] 32) = w7 := ⟨_, rfl⟩
  have hb7 : Below w6.heap.size w6 w7 := by rw [← hw7]; exact (Below.refl _ _).alloc (Nat.le_refl _) _
  have HD7 : Hid (w7.heap[D]? = some (.cells #[.int .u64 now, .slice pa pn pc] 32 (0, 0))) := Lib.hid (by rw [← hw7, ← hD]; exact block_new _ _ _ rfl)
  have hb57 := hb6.trans (hb7.mono hb6.size)
  have HZ7 := Lib.hid ((hb57.block _ (lt_of_block HZ5.out)).trans HZ5.out)
  have HB7 : Hid (∀ b, Bs b → w7.heap[b]? = w.heap[b]?) := Lib.hid (fun b hb => (hb57.block b (by have := HCW.out.2.1; have := (HBL.out b hb).2; omega)).trans (HB5.out b hb))
  have HR7 : Hid (RowL w7 w0.heap.size (.slice pa pn pc) L') := Lib.hid (ownsRow_mono (hr6.below hb7) HCW.out.2.2)
  have HK7 := Lib.hid R6
  have HJ7 : Hid (JAt w0 (fun j => GS (.slice pa pn pc) Bs j ∨ j = C) w7 a now (clear f q) (P + 2)) := Lib.hid ((HJ5.out.more hb57 (fun j hj => by
    rcases hj with (h | h) | h
    · exact .inl (.inl (.inl h))
    · have := hr6.lt j h; exact .inr ⟨this.1, Nat.lt_of_lt_of_le this.2 hb7.size⟩
    · subst h; exact .inl (.inr ⟨by omega, Nat.le_refl _⟩))).mono (by omega))
  have HCD : Hid (C < D ∧ (∀ b, Bs b → b < C) ∧ w0.heap.size ≤ C) := Lib.hid (by
    have h1 := HCW.out.1; have h2 := hb6.size; have h4 := HABC.out.2.2; have h5 := HBS.out.1; have h6 := HBS.out.2
    exact ⟨by omega, fun b hb => by have := (HBL.out b hb).2; omega, by omega⟩)
  have HCR : Hid (∀ g, (Value.slice pa pn pc).ownBlock = some g → g ≠ C) := Lib.hid (fun g hg => by have := (hr6.lt g hg).1; have := HCW.out.1; omega)
  have HW7 := Lib.hid (And.intro hw7 hD)
  clear hr6 R6 hb6 hb7 hb57 hw7 hD hrs x0 x1 z0 z1 z2 z3 hpn HX5 HZ5 HB5 HJ5 HJW HRW HX HY HZ 
  go_upto_region 17 with (fail)
  rw [HW7.out.1, HW7.out.2]
  refine wp_region_mix (fun W' => Fr [C] w7 W') 7 [(true, 0), (true, 1), (true, 2), (true, 3), (true, 4), (false, 5), (false, 6)] mixed (by kernel_rfl) (fun _ _ _ d _ h => by cases d <;> exact h) ?_
  have hld : ∀ W', Fr [C] w7 W' → W'.cell? ⟨D, 0, none⟩ = some (.int .u64 now) ∧ W'.cell? ⟨D, 1, none⟩ = some (.slice pa pn pc) := fun W' hb => by
    have e0 := hb.same HD7.out (by have := HCD.out.1; simp; omega)
    exact ⟨cells_cell e0 rfl, cells_cell e0 rfl⟩
  have HS1 : Hid (Fr [C] w7 w7.drew) := Lib.hid (fr_drewN w7 1 _)
  simp only [List.map_cons, List.map_nil, List.getD_cons_zero, List.getD_cons_succ, List.drop_succ_cons, List.drop_zero]
  refine mix_move (.tmp 0) (.pointer (some ⟨a, 0, none⟩)) rfl HS1.out rfl rfl ?_
  simp only [Act.put, List.setIfInBounds_toArray, List.set_cons_zero, List.set_cons_succ]
  refine mix_take (.agg #[.int .u64 now, .slice pa pn pc]) HS1.out rfl (fun W' hS => by obtain ⟨l0, l1⟩ := hld W' hS; go_simp) ?_
  simp only [Act.put, List.setIfInBounds_toArray, List.set_cons_zero, List.set_cons_succ]
  refine mix_move (.tmp 20) (.int .i64 0) rfl HS1.out rfl rfl ?_
  simp only [Act.put, List.setIfInBounds_toArray, List.set_cons_zero, List.set_cons_succ]
  refine mix_move (.tmp 22) (.int .i64 0) rfl HS1.out rfl rfl ?_
  simp only [Act.put, List.setIfInBounds_toArray, List.set_cons_zero, List.set_cons_succ]
  refine mix_take (.bool true) HS1.out rfl (fun W' hS => by obtain ⟨l0, l1⟩ := hld W' hS; go_simp) ?_
  simp only [Act.put, List.setIfInBounds_toArray, List.set_cons_zero, List.set_cons_succ]
  refine mix_by (.pointer (some ⟨a, 0, none⟩)) rfl (by go_simp) HS1.out ?_
  simp only [Act.put, List.setIfInBounds_toArray, List.set_cons_zero, List.set_cons_succ]
  have hDb : Below w7.heap.size w7 w7.drew := (Below.refl _ _).drew
  have c2 := (hDb.block _ (lt_of_block HZ7.out)).trans HZ7.out
  have HJ8 := Lib.hid (HJ7.out.grown hDb)
  have HR8 := Lib.hid (HR7.out.below hDb)
  have HB8 : Hid (∀ b, Bs b → w7.drew.heap[b]? = w.heap[b]?) := Lib.hid (fun b hb => (hDb.block b (by have h1 := lt_of_block HZ7.out; have := HCD.out.2.1 b hb; omega)).trans (HB7.out b hb))
  clear hDb hld
  generalize w7.drew = V6 at *
  have y0 := cells_cell (o := 0) c2 rfl
  have y1 : V6.cell? ⟨C, 1, none⟩ = some (.slice none 0 0) := cells_cell c2 rfl
  have z0 := cells_free c2 0
  have z1 := cells_free c2 1
  have hxl := lt_of_block c2
  have HCL2 := Lib.hid hxl
  have hf := (fr_setCell V6 ⟨C, 0, none⟩ (.int .u64 now)).trans' (fr_setCell _ ⟨C, 1, none⟩ (.slice pa pn pc))
  have HC9 := Lib.hid (set2 c2 (.int .u64 now) (.slice pa pn pc))
  have HJ9 := Lib.hid (((HJ8.out.write hf (fun g hg => by simp at hg; exact ⟨.inr hg, by have := HCD.out.2.2; omega⟩)).less (G' := GS (.slice pa pn pc) Bs) (fun g hg => .inl hg)).mono (Q := P + 2) (by omega))
  have HR9 := Lib.hid (RowL.fr HR8.out hf (fun g hg hm => by have := HCR.out g hg; simp at hm; exact this hm))
  have HB9 : Hid (∀ b, Bs b → ((V6.setCell ⟨C, 0, none⟩ (.int .u64 now)).setCell ⟨C, 1, none⟩ (.slice pa pn pc)).heap[b]? = w.heap[b]?) := Lib.hid (fun b hb => (hf.block b (by have := HCD.out.2.1 b hb; have := HCL2.out; omega) (by have := HCD.out.2.1 b hb; simp; omega)).trans (HB8.out b hb))
  have HS2 := Lib.hid (HS1.out.trans' hf)
  clear hf c2 HS1 HJ8 HR8 HB8
  refine mix_step rfl (fun K hK => ?_)
  go_simp
  refine hK _ _ HS2.out ?_
  clear hK K
  refine mix_nil ?_
  clear y0 y1 z0 z1 hxl
  go_wp2_with fail
  have hy2 := HC9.out
  refine bodyPost_ret (v := .tuple #[.pointer (some ⟨a, 0, none⟩), .agg #[.int .u64 now, .slice pa pn pc], .bool true]) (by simp [results, Tryz.results8, go_sem, cells_cell (o := 0) hy2 rfl, cells_cell (o := 1) hy2 rfl]) rfl ?_
  exact ⟨a, now, _, (clear f q), _, rfl, HJ9.out, HR9.out, HK7.out, HB9.out⟩
set_option maxRecDepth 100000 in
set_option maxHeartbeats 6400000 in
theorem do_clear_no (J : JAt w0 (GS s Bs) w a now f P) (h : RowL w base s L) (R : ROK f L) (hbl : ∀ b, Bs b → w0.heap.size ≤ b ∧ b < w.heap.size) {x : Int} (hk : okS x 0 = false) (y t : Int) (hT : Tab w0) (hP : P < 9223372036854775000) (hb0 : base ≤ w.heap.size) (hbs : w0.heap.size ≤ base) :
    Calls Tryz.prog 8 #[pt a, rdv now s, .agg #[.int .i64 2, .int .i64 x, .int .i64 y, .int .u64 t]] w (DoR w0 w Bs P) := by
  obtain ⟨va, vc, rfl⟩ := slice_form h
  have mixed : Tryz.prog.follows .mixedOrders = true := by kernel_rfl
  unfold rdv
  obtain ⟨W, hW⟩ : ∃ W, ((w.alloc (.cells #[.int .u64 now, .slice va L.length vc] 32)).alloc (.cells #[.int .i64 2, .int .i64 x, .int .i64 y, .int .u64 t] 39)).alloc (.cells #[.int .u64 0, .slice none 0 0] 32) = W := ⟨_, rfl⟩
  have al : ∀ (w : World) o, Below w.heap.size w (w.alloc o) := fun w o => (Below.refl _ _).alloc (Nat.le_refl _) _
  have hbW : Below w.heap.size w W := by rw [← hW]; exact (((Below.refl _ _).alloc (Nat.le_refl _) _).alloc (by simp) _).alloc (by simp; omega) _
  have hX : W.heap[w.heap.size]? = some (.cells #[.int .u64 now, .slice va L.length vc] 32 (0, 0)) := by rw [← hW]; exact ((al _ _).block _ (by simp; omega)).trans (((al _ _).block _ (by simp)).trans (block_new _ _ _ rfl))
  have hY : W.heap[w.heap.size + 1]? = some (.cells #[.int .i64 2, .int .i64 x, .int .i64 y, .int .u64 t] 39 (0, 0)) := by rw [← hW]; exact ((al _ _).block _ (by simp)).trans (block_new _ _ _ (by simp))
  have hZ : W.heap[w.heap.size + 1 + 1]? = some (.cells #[.int .u64 0, .slice none 0 0] 32 (0, 0)) := by rw [← hW]; exact block_new _ _ _ (by simp)
  obtain ⟨A, hA⟩ : ∃ A, w.heap.size = A := ⟨_, rfl⟩
  obtain ⟨B, hB⟩ : ∃ B, w.heap.size + 1 = B := ⟨_, rfl⟩
  obtain ⟨C, hC⟩ : ∃ C, w.heap.size + 1 + 1 = C := ⟨_, rfl⟩
  have HABC := Lib.hid (And.intro hA (And.intro hB hC))
  have HW := Lib.hid hW
  have HBW := Lib.hid hbW
  rw [hA] at hX
  rw [hB] at hY
  rw [hC] at hZ
  have hBA : A < B ∧ B < C := by omega
  -- the law's own blocks here: those of the caller, and the three boxes
  have HJW : Hid (JAt w0 (fun j => GS (.slice va L.length vc) Bs j ∨ (A ≤ j ∧ j ≤ C)) W a now f P) := Lib.hid (J.more hbW (fun j hj => by
    rcases hj with h | h
    · exact .inl h
    · exact .inr ⟨by omega, Nat.lt_of_le_of_lt h.2 (lt_of_block hZ)⟩))
  have HRW := Lib.hid (h.below hbW)
  have HX := Lib.hid hX
  have HY := Lib.hid hY
  have HZ := Lib.hid hZ
  have HOK := Lib.hid R
  have HN := Lib.hid J.nn
  have HJB := Lib.hid J.below.size
  have HBL := Lib.hid hbl
  have z0 := cells_cell (o := 0) hY rfl
  have z1 := cells_cell (o := 1) hY rfl
  have z2 := cells_cell (o := 2) hY rfl
  have z3 := cells_cell (o := 3) hY rfl
  have h0 := h
  clear h R J hW hbW hX hY hZ hA hB hC al hBA hbl
  have HCL := Lib.hid (jClear_no HJW.out hk)
  have HQ := Lib.hid hk
  have HBS := Lib.hid (And.intro hb0 hbs)
  unfold pt
  go_enter Tryz.func8, Tryz.ntmps8
  go_upto_region 1 with (fail)
  rw [HW.out, HABC.out.2.2, HABC.out.2.1, HABC.out.1]
  clear HW
  unfold pt at HCL
  go_wp2_with (go_at_call 20; fail)
  refine HCL.out.mono ?_
  rintro e w5 ⟨rfl, hg5⟩
  have J5 := HJW.out.grown hg5.below
  have K5 := HJW.out.keep hg5.below
  have HJ5 := Lib.hid J5
  have hAC : A ≤ C ∧ B ≤ C ∧ A ≤ B := by have := HABC.out; omega
  have hX5 := (K5 A (.inr ⟨Nat.le_refl _, by omega⟩)).trans HX.out
  have hY5 := (K5 B (.inr ⟨by omega, by omega⟩)).trans HY.out
  have hZ5 := (K5 C (.inr ⟨by omega, Nat.le_refl _⟩)).trans HZ.out
  have hB5 : ∀ b, Bs b → w5.heap[b]? = w.heap[b]? := fun b hb => (K5 b (.inl (.inl hb))).trans (HBW.out.block b (HBL.out b hb).2)
  have hR5 : RowL w5 base (.slice va L.length vc) L := HRW.out.keepR (fun g hg => K5 g (.inl (.inr hg)))
  have HX5 := Lib.hid hX5
  have HZ5 := Lib.hid hZ5
  have HB5 := Lib.hid hB5
  have HR5 := Lib.hid hR5
  have HRL : Hid (∀ g, (Value.slice va L.length vc).ownBlock = some g → g < w.heap.size) := Lib.hid (fun g hg => (h0.lt g hg).2)
  have HCW : Hid (C < w5.heap.size ∧ w.heap.size ≤ w5.heap.size ∧ w0.heap.size ≤ w5.heap.size) := Lib.hid ⟨lt_of_block hZ5, by have h1 := lt_of_block hX5; have h2 := HABC.out; omega, J5.below.size⟩
  have hbb : base ≤ w5.heap.size := by have := HCW.out.2.1; have := HBS.out.1; omega
  have hrs := Lib.hid (rclear_no (now := now) hR5 hbb HQ.out)
  unfold rdv at hrs
  clear z0 z1 z2 z3 J5 K5 HCL hbb
  have x0 := cells_cell (o := 0) hX5 rfl
  have x1 := cells_cell (o := 1) hX5 rfl
  have z0 := cells_cell (o := 0) hY5 rfl
  have z1 := cells_cell (o := 1) hY5 rfl
  have z2 := cells_cell (o := 2) hY5 rfl
  have z3 := cells_cell (o := 3) hY5 rfl
  clear hX5 hY5 hZ5 hB5 hR5
  go_wp2_with (go_at_call 25; fail)
  refine hrs.out.mono ?_
  rintro e w6 ⟨rfl, hb6⟩
  obtain ⟨pa, hpa⟩ : ∃ pa, va = pa := ⟨_, rfl⟩
  obtain ⟨pc, hpc⟩ : ∃ pc, vc = pc := ⟨_, rfl⟩
  obtain ⟨pn, hpn⟩ : ∃ pn, L.length = pn := ⟨_, rfl⟩
  have hr6 : RowL w6 base (.slice pa pn pc) L := by rw [← hpa, ← hpc, ← hpn]; exact HR5.out.below hb6
  have hrl : ∀ g, (Value.slice pa pn pc).ownBlock = some g → g < w.heap.size := by rw [← hpa, ← hpc, ← hpn]; exact HRL.out
  have hgb : ∀ g, GS (.slice pa pn pc) Bs g → GS (.slice va L.length vc) Bs g := fun g hg => by rw [hpa, hpc, hpn]; exact hg
  have R6 : ROK f L := HOK.out
  rw [hpa, hpc, hpn]
  obtain ⟨D, hD⟩ : ∃ D, w6.heap.size = D := ⟨_, rfl⟩
  obtain ⟨w7, hw7⟩ : ∃ w7, w6.alloc (.cells #[.int .u64 now, .slice pa pn pc] 32) = w7 := ⟨_, rfl⟩
  have hb7 : Below w6.heap.size w6 w7 := by rw [← hw7]; exact (Below.refl _ _).alloc (Nat.le_refl _) _
  have HD7 : Hid (w7.heap[D]? = some (.cells #[.int .u64 now, .slice pa pn pc] 32 (0, 0))) := Lib.hid (by rw [← hw7, ← hD]; exact block_new _ _ _ rfl)
  have hb57 := hb6.trans (hb7.mono hb6.size)
  have HZ7 := Lib.hid ((hb57.block _ (lt_of_block HZ5.out)).trans HZ5.out)
  have HB7 : Hid (∀ b, Bs b → w7.heap[b]? = w.heap[b]?) := Lib.hid (fun b hb => (hb57.block b (by have := HCW.out.2.1; have := (HBL.out b hb).2; omega)).trans (HB5.out b hb))
  have HR7 : Hid (RowL w7 w0.heap.size (.slice pa pn pc) L) := Lib.hid (ownsRow_mono (hr6.below hb7) HBS.out.2)
  have HK7 := Lib.hid R6
  have HJ7 : Hid (JAt w0 (fun j => GS (.slice pa pn pc) Bs j ∨ j = C) w7 a now f (P + 2)) := Lib.hid ((HJ5.out.more hb57 (fun j hj => by
    rcases hj with h | h
    · exact .inl (.inl (hgb j h))
    · subst h; exact .inl (.inr ⟨by omega, Nat.le_refl _⟩))).mono (by omega))
  have HCD : Hid (C < D ∧ (∀ b, Bs b → b < C) ∧ w0.heap.size ≤ C) := Lib.hid (by
    have h1 := HCW.out.1; have h2 := hb6.size; have h4 := HABC.out.2.2; have h5 := HBS.out.1; have h6 := HBS.out.2
    exact ⟨by omega, fun b hb => by have := (HBL.out b hb).2; omega, by omega⟩)
  have HCR : Hid (∀ g, (Value.slice pa pn pc).ownBlock = some g → g ≠ C) := Lib.hid (fun g hg => by have := hrl g hg; have := HABC.out.2.2; omega)
  have HW7 := Lib.hid (And.intro hw7 hD)
  clear hr6 R6 hb6 hb7 hb57 hw7 hD hrs x0 x1 z0 z1 z2 z3 hpn HX5 HZ5 HB5 HJ5 HJW HRW HX HY HZ hpa hpc hrl hgb
  go_upto_region 17 with (fail)
  rw [HW7.out.1, HW7.out.2]
  refine wp_region_mix (fun W' => Fr [C] w7 W') 7 [(true, 0), (true, 1), (true, 2), (true, 3), (true, 4), (false, 5), (false, 6)] mixed (by kernel_rfl) (fun _ _ _ d _ h => by cases d <;> exact h) ?_
  have hld : ∀ W', Fr [C] w7 W' → W'.cell? ⟨D, 0, none⟩ = some (.int .u64 now) ∧ W'.cell? ⟨D, 1, none⟩ = some (.slice pa pn pc) := fun W' hb => by
    have e0 := hb.same HD7.out (by have := HCD.out.1; simp; omega)
    exact ⟨cells_cell e0 rfl, cells_cell e0 rfl⟩
  have HS1 : Hid (Fr [C] w7 w7.drew) := Lib.hid (fr_drewN w7 1 _)
  simp only [List.map_cons, List.map_nil, List.getD_cons_zero, List.getD_cons_succ, List.drop_succ_cons, List.drop_zero]
  refine mix_move (.tmp 0) (.pointer (some ⟨a, 0, none⟩)) rfl HS1.out rfl rfl ?_
  simp only [Act.put, List.setIfInBounds_toArray, List.set_cons_zero, List.set_cons_succ]
  refine mix_take (.agg #[.int .u64 now, .slice pa pn pc]) HS1.out rfl (fun W' hS => by obtain ⟨l0, l1⟩ := hld W' hS; go_simp) ?_
  simp only [Act.put, List.setIfInBounds_toArray, List.set_cons_zero, List.set_cons_succ]
  refine mix_move (.tmp 20) (.int .i64 2) rfl HS1.out rfl rfl ?_
  simp only [Act.put, List.setIfInBounds_toArray, List.set_cons_zero, List.set_cons_succ]
  refine mix_move (.tmp 22) (.int .i64 2) rfl HS1.out rfl rfl ?_
  simp only [Act.put, List.setIfInBounds_toArray, List.set_cons_zero, List.set_cons_succ]
  refine mix_take (.bool true) HS1.out rfl (fun W' hS => by obtain ⟨l0, l1⟩ := hld W' hS; go_simp) ?_
  simp only [Act.put, List.setIfInBounds_toArray, List.set_cons_zero, List.set_cons_succ]
  refine mix_by (.pointer (some ⟨a, 0, none⟩)) rfl (by go_simp) HS1.out ?_
  simp only [Act.put, List.setIfInBounds_toArray, List.set_cons_zero, List.set_cons_succ]
  have hDb : Below w7.heap.size w7 w7.drew := (Below.refl _ _).drew
  have c2 := (hDb.block _ (lt_of_block HZ7.out)).trans HZ7.out
  have HJ8 := Lib.hid (HJ7.out.grown hDb)
  have HR8 := Lib.hid (HR7.out.below hDb)
  have HB8 : Hid (∀ b, Bs b → w7.drew.heap[b]? = w.heap[b]?) := Lib.hid (fun b hb => (hDb.block b (by have h1 := lt_of_block HZ7.out; have := HCD.out.2.1 b hb; omega)).trans (HB7.out b hb))
  clear hDb hld
  generalize w7.drew = V6 at *
  have y0 := cells_cell (o := 0) c2 rfl
  have y1 : V6.cell? ⟨C, 1, none⟩ = some (.slice none 0 0) := cells_cell c2 rfl
  have z0 := cells_free c2 0
  have z1 := cells_free c2 1
  have hxl := lt_of_block c2
  have HCL2 := Lib.hid hxl
  have hf := (fr_setCell V6 ⟨C, 0, none⟩ (.int .u64 now)).trans' (fr_setCell _ ⟨C, 1, none⟩ (.slice pa pn pc))
  have HC9 := Lib.hid (set2 c2 (.int .u64 now) (.slice pa pn pc))
  have HJ9 := Lib.hid (((HJ8.out.write hf (fun g hg => by simp at hg; exact ⟨.inr hg, by have := HCD.out.2.2; omega⟩)).less (G' := GS (.slice pa pn pc) Bs) (fun g hg => .inl hg)).mono (Q := P + 2) (by omega))
  have HR9 := Lib.hid (RowL.fr HR8.out hf (fun g hg hm => by have := HCR.out g hg; simp at hm; exact this hm))
  have HB9 : Hid (∀ b, Bs b → ((V6.setCell ⟨C, 0, none⟩ (.int .u64 now)).setCell ⟨C, 1, none⟩ (.slice pa pn pc)).heap[b]? = w.heap[b]?) := Lib.hid (fun b hb => (hf.block b (by have := HCD.out.2.1 b hb; have := HCL2.out; omega) (by have := HCD.out.2.1 b hb; simp; omega)).trans (HB8.out b hb))
  have HS2 := Lib.hid (HS1.out.trans' hf)
  clear hf c2 HS1 HJ8 HR8 HB8
  refine mix_step rfl (fun K hK => ?_)
  go_simp
  refine hK _ _ HS2.out ?_
  clear hK K
  refine mix_nil ?_
  clear y0 y1 z0 z1 hxl
  go_wp2_with fail
  have hy2 := HC9.out
  refine bodyPost_ret (v := .tuple #[.pointer (some ⟨a, 0, none⟩), .agg #[.int .u64 now, .slice pa pn pc], .bool true]) (by simp [results, Tryz.results8, go_sem, cells_cell (o := 0) hy2 rfl, cells_cell (o := 1) hy2 rfl]) rfl ?_
  exact ⟨a, now, _, f, _, rfl, HJ9.out, HR9.out, HK7.out, HB9.out⟩
set_option maxRecDepth 100000 in
set_option maxHeartbeats 6400000 in
theorem do_adv1_never (J : JAt w0 (GS s Bs) w a now f P) (h : RowL w base s L) (R : ROK f L) (hbl : ∀ b, Bs b → w0.heap.size ≤ b ∧ b < w.heap.size) (x y : Int) (hP : P < 9223372036854775000) (hb0 : base ≤ w.heap.size) (hbs : w0.heap.size ≤ base) :
    Calls Tryz.prog 8 #[pt a, rdv now s, .agg #[.int .i64 1, .int .i64 x, .int .i64 y, .int .u64 never]] w (DoR w0 w Bs P) := by
  obtain ⟨va, vc, rfl⟩ := slice_form h
  have mixed : Tryz.prog.follows .mixedOrders = true := by kernel_rfl
  unfold rdv
  obtain ⟨W, hW⟩ : ∃ W, ((w.alloc (.cells #[.int .u64 now, .slice va L.length vc] 32)).alloc (.cells #[.int .i64 1, .int .i64 x, .int .i64 y, .int .u64 never] 39)).alloc (.cells #[.int .u64 0, .slice none 0 0] 32) = W := ⟨_, rfl⟩
  have al : ∀ (w : World) o, Below w.heap.size w (w.alloc o) := fun w o => (Below.refl _ _).alloc (Nat.le_refl _) _
  have hbW : Below w.heap.size w W := by rw [← hW]; exact (((Below.refl _ _).alloc (Nat.le_refl _) _).alloc (by simp) _).alloc (by simp; omega) _
  have hX : W.heap[w.heap.size]? = some (.cells #[.int .u64 now, .slice va L.length vc] 32 (0, 0)) := by rw [← hW]; exact ((al _ _).block _ (by simp; omega)).trans (((al _ _).block _ (by simp)).trans (block_new _ _ _ rfl))
  have hY : W.heap[w.heap.size + 1]? = some (.cells #[.int .i64 1, .int .i64 x, .int .i64 y, .int .u64 never] 39 (0, 0)) := by rw [← hW]; exact ((al _ _).block _ (by simp)).trans (block_new _ _ _ (by simp))
  have hZ : W.heap[w.heap.size + 1 + 1]? = some (.cells #[.int .u64 0, .slice none 0 0] 32 (0, 0)) := by rw [← hW]; exact block_new _ _ _ (by simp)
  obtain ⟨A, hA⟩ : ∃ A, w.heap.size = A := ⟨_, rfl⟩
  obtain ⟨B, hB⟩ : ∃ B, w.heap.size + 1 = B := ⟨_, rfl⟩
  obtain ⟨C, hC⟩ : ∃ C, w.heap.size + 1 + 1 = C := ⟨_, rfl⟩
  have HABC := Lib.hid (And.intro hA (And.intro hB hC))
  have HW := Lib.hid hW
  have HBW := Lib.hid hbW
  rw [hA] at hX
  rw [hB] at hY
  rw [hC] at hZ
  have hBA : A < B ∧ B < C := by omega
  -- the law's own blocks here: those of the caller, and the three boxes
  have HJW : Hid (JAt w0 (fun j => GS (.slice va L.length vc) Bs j ∨ (A ≤ j ∧ j ≤ C)) W a now f P) := Lib.hid (J.more hbW (fun j hj => by
    rcases hj with h | h
    · exact .inl h
    · exact .inr ⟨by omega, Nat.lt_of_le_of_lt h.2 (lt_of_block hZ)⟩))
  have HRW := Lib.hid (h.below hbW)
  have HX := Lib.hid hX
  have HY := Lib.hid hY
  have HZ := Lib.hid hZ
  have HOK := Lib.hid R
  have HN := Lib.hid J.nn
  have HJB := Lib.hid J.below.size
  have HBL := Lib.hid hbl
  have z0 := cells_cell (o := 0) hY rfl
  have z1 := cells_cell (o := 1) hY rfl
  have z2 := cells_cell (o := 2) hY rfl
  have z3 := cells_cell (o := 3) hY rfl
  have h0 := h
  clear h R J hW hbW hX hY hZ hA hB hC al hBA hbl
  have HBS := Lib.hid (And.intro hb0 hbs)
  unfold pt
  go_enter Tryz.func8, Tryz.ntmps8
  go_upto_region 1 with (fail)
  rw [HW.out, HABC.out.2.2, HABC.out.2.1, HABC.out.1]
  clear HW
  have HCL := Lib.hid (jAdv_never HJW.out)
  unfold pt never at HCL
  go_wp2_with (go_at_call 13; fail)
  refine HCL.out.mono ?_
  rintro e w5 ⟨rfl, rfl⟩
  have J5 := HJW.out
  have K5 := Keep.refl (fun j => GS (.slice va L.length vc) Bs j ∨ (A ≤ j ∧ j ≤ C)) W
  have HJ5 := Lib.hid J5
  have hAC : A ≤ C ∧ B ≤ C ∧ A ≤ B := by have := HABC.out; omega
  have hX5 := (K5 A (.inr ⟨Nat.le_refl _, by omega⟩)).trans HX.out
  have hZ5 := (K5 C (.inr ⟨by omega, Nat.le_refl _⟩)).trans HZ.out
  have hB5 : ∀ b, Bs b → W.heap[b]? = w.heap[b]? := fun b hb => (K5 b (.inl (.inl hb))).trans (HBW.out.block b (HBL.out b hb).2)
  have hR5 : RowL W base (.slice va L.length vc) L := HRW.out.keepR (fun g hg => K5 g (.inl (.inr hg)))
  have HZ5 := Lib.hid hZ5
  have HB5 := Lib.hid hB5
  have HR5 := Lib.hid hR5
  have HRL : Hid (∀ g, (Value.slice va L.length vc).ownBlock = some g → g < w.heap.size) := Lib.hid (fun g hg => (h0.lt g hg).2)
  have HCW : Hid (C < W.heap.size ∧ w.heap.size ≤ W.heap.size ∧ w0.heap.size ≤ W.heap.size) := Lib.hid ⟨lt_of_block hZ5, by have h1 := lt_of_block hX5; have h2 := HABC.out; omega, J5.below.size⟩
  have hrs := Lib.hid (radv_never (now := now) hR5)
  unfold rdv never at hrs
  clear z0 z1 z2 z3 J5 K5 HCL
  have x0 := cells_cell (o := 0) hX5 rfl
  have x1 := cells_cell (o := 1) hX5 rfl
  clear hX5 hZ5 hB5 hR5
  go_wp2_with (go_at_call 14; fail)
  refine hrs.out.mono ?_
  rintro e w6 ⟨rfl, hb6⟩
  obtain ⟨pa, hpa⟩ : ∃ pa, va = pa := ⟨_, rfl⟩
  obtain ⟨pc, hpc⟩ : ∃ pc, vc = pc := ⟨_, rfl⟩
  obtain ⟨pn, hpn⟩ : ∃ pn, L.length = pn := ⟨_, rfl⟩
  have hr6 : RowL w6 base (.slice pa pn pc) L := by rw [← hpa, ← hpc, ← hpn]; exact HR5.out.below hb6
  have hrl : ∀ g, (Value.slice pa pn pc).ownBlock = some g → g < w.heap.size := by rw [← hpa, ← hpc, ← hpn]; exact HRL.out
  have hgb : ∀ g, GS (.slice pa pn pc) Bs g → GS (.slice va L.length vc) Bs g := fun g hg => by rw [hpa, hpc, hpn]; exact hg
  rw [hpa, hpc, hpn]
  obtain ⟨D, hD⟩ : ∃ D, w6.heap.size = D := ⟨_, rfl⟩
  obtain ⟨w7, hw7⟩ : ∃ w7, w6.alloc (.cells #[.int .u64 now, .slice pa pn pc] 32) = w7 := ⟨_, rfl⟩
  have hb7 : Below w6.heap.size w6 w7 := by rw [← hw7]; exact (Below.refl _ _).alloc (Nat.le_refl _) _
  have HD7 : Hid (w7.heap[D]? = some (.cells #[.int .u64 now, .slice pa pn pc] 32 (0, 0))) := Lib.hid (by rw [← hw7, ← hD]; exact block_new _ _ _ rfl)
  have hb57 := hb6.trans (hb7.mono hb6.size)
  have HZ7 := Lib.hid ((hb57.block _ (lt_of_block HZ5.out)).trans HZ5.out)
  have HB7 : Hid (∀ b, Bs b → w7.heap[b]? = w.heap[b]?) := Lib.hid (fun b hb => (hb57.block b (by have := HCW.out.2.1; have := (HBL.out b hb).2; omega)).trans (HB5.out b hb))
  have HR7 : Hid (RowL w7 w0.heap.size (.slice pa pn pc) L) := Lib.hid (ownsRow_mono (hr6.below hb7) HBS.out.2)
  have HK7 := HOK
  have HJ7 : Hid (JAt w0 (fun j => GS (.slice pa pn pc) Bs j ∨ j = C) w7 a now f (P + 2)) := Lib.hid ((HJ5.out.more hb57 (fun j hj => by
    rcases hj with h | h
    · have h := hgb j h; exact .inl (.inl h)
    · subst h; exact .inl (.inr ⟨by omega, Nat.le_refl _⟩))).mono (by omega))
  have HCD : Hid (C < D ∧ (∀ b, Bs b → b < C) ∧ w0.heap.size ≤ C) := Lib.hid (by
    have h1 := HCW.out.1; have h2 := hb6.size; have h4 := HABC.out.2.2; have h5 := HBS.out.1; have h6 := HBS.out.2
    exact ⟨by omega, fun b hb => by have := (HBL.out b hb).2; omega, by omega⟩)
  have HCR : Hid (∀ g, (Value.slice pa pn pc).ownBlock = some g → g ≠ C) := Lib.hid (fun g hg => by have := hrl g hg; have := HABC.out.2.2; omega)
  have hdr : Below w7.heap.size w7 w7.drew := (Below.refl _ _).drew
  have hsm := Lib.hid (jsame_any (w := w7.drew) (va := .slice none 0 0) (vb := .slice none 0 0) (ba := 0) (bb := 0) (L := []) (World.ownsRow_nil _ _ _ _) (World.ownsRow_nil _ _ _ _) (by simp))
  have HW7 := Lib.hid (And.intro hw7 hD)
  clear hr6 hb6 hb7 hb57 hw7 hD hrs x0 x1 hpn HZ5 HB5 HJ5 HJW HRW HX HY HZ hpa hpc hrl hgb hdr
  go_upto_region 13 with (fail)
  rw [HW7.out.1, HW7.out.2]
  refine wp_region_mix (fun W' => Fr [C] w7 W') 12 [(true, 0), (true, 1), (true, 2), (true, 3), (false, 4), (true, 5), (true, 6), (true, 7), (true, 8), (true, 9), (false, 10), (false, 11)] mixed (by kernel_rfl) (fun _ _ _ d _ h => by cases d <;> exact h) ?_
  have hld : ∀ W', Fr [C] w7 W' → W'.cell? ⟨D, 0, none⟩ = some (.int .u64 now) ∧ W'.cell? ⟨D, 1, none⟩ = some (.slice pa pn pc) := fun W' hb => by
    have e0 := hb.same HD7.out (by have := HCD.out.1; simp; omega)
    exact ⟨cells_cell e0 rfl, cells_cell e0 rfl⟩
  have HS1 : Hid (Fr [C] w7 w7.drew) := Lib.hid (fr_drewN w7 1 _)
  simp only [List.map_cons, List.map_nil, List.getD_cons_zero, List.getD_cons_succ, List.drop_succ_cons, List.drop_zero]
  refine mix_move (.tmp 0) (.pointer (some ⟨a, 0, none⟩)) rfl HS1.out rfl rfl ?_
  simp only [Act.put, List.setIfInBounds_toArray, List.set_cons_zero, List.set_cons_succ]
  refine mix_take (.agg #[.int .u64 now, .slice pa pn pc]) HS1.out rfl (fun W' hS => by obtain ⟨l0, l1⟩ := hld W' hS; go_simp) ?_
  simp only [Act.put, List.setIfInBounds_toArray, List.set_cons_zero, List.set_cons_succ]
  refine mix_move (.tmp 15) (.slice none 0 0) rfl HS1.out rfl rfl ?_
  simp only [Act.put, List.setIfInBounds_toArray, List.set_cons_zero, List.set_cons_succ]
  refine mix_move (.tmp 18) (.slice none 0 0) rfl HS1.out rfl rfl ?_
  simp only [Act.put, List.setIfInBounds_toArray, List.set_cons_zero, List.set_cons_succ]
  refine mix_step rfl (fun K hK => ?_)
  go_simp
  go_wp2_with (go_at_call 15; fail)
  refine hsm.out.mono ?_
  rintro e w' ⟨rfl, n, rfl⟩
  have HS1 : Hid (Fr [C] w7 (w7.drew.drewN n)) := Lib.hid (HS1.out.trans' (fr_drewN _ n _))
  refine hK _ _ HS1.out ?_
  clear hK K hsm
  refine mix_move (.tmp 84) (.bool true) rfl HS1.out rfl rfl ?_
  simp only [Act.put, List.setIfInBounds_toArray, List.set_cons_zero, List.set_cons_succ]
  refine mix_move (.tmp 16) (.int .i64 2) rfl HS1.out rfl rfl ?_
  simp only [Act.put, List.setIfInBounds_toArray, List.set_cons_zero, List.set_cons_succ]
  refine mix_move (.tmp 19) (.int .i64 2) rfl HS1.out rfl rfl ?_
  simp only [Act.put, List.setIfInBounds_toArray, List.set_cons_zero, List.set_cons_succ]
  refine mix_take (.bool true) HS1.out rfl (fun W' hS => by obtain ⟨l0, l1⟩ := hld W' hS; go_simp) ?_
  simp only [Act.put, List.setIfInBounds_toArray, List.set_cons_zero, List.set_cons_succ]
  refine mix_take (.bool true) HS1.out rfl (fun W' hS => by obtain ⟨l0, l1⟩ := hld W' hS; go_simp) ?_
  simp only [Act.put, List.setIfInBounds_toArray, List.set_cons_zero, List.set_cons_succ]
  refine mix_by (.pointer (some ⟨a, 0, none⟩)) rfl (by go_simp) HS1.out ?_
  simp only [Act.put, List.setIfInBounds_toArray, List.set_cons_zero, List.set_cons_succ]
  have hDb : Below w7.heap.size w7 (w7.drew.drewN n) := (Below.refl _ _).drew.trans ((fr_drewN _ n []).below (fun _ hx => by simp at hx) (Nat.le_refl _))
  have c2 := (hDb.block _ (lt_of_block HZ7.out)).trans HZ7.out
  have HJ8 := Lib.hid (HJ7.out.grown hDb)
  have HR8 := Lib.hid (HR7.out.below hDb)
  have HB8 : Hid (∀ b, Bs b → (w7.drew.drewN n).heap[b]? = w.heap[b]?) := Lib.hid (fun b hb => (hDb.block b (by have h1 := lt_of_block HZ7.out; have := HCD.out.2.1 b hb; omega)).trans (HB7.out b hb))
  clear hDb hld
  generalize (w7.drew.drewN n) = V6 at *
  have y0 := cells_cell (o := 0) c2 rfl
  have y1 : V6.cell? ⟨C, 1, none⟩ = some (.slice none 0 0) := cells_cell c2 rfl
  have z0 := cells_free c2 0
  have z1 := cells_free c2 1
  have hxl := lt_of_block c2
  have HCL2 := Lib.hid hxl
  have hf := (fr_setCell V6 ⟨C, 0, none⟩ (.int .u64 now)).trans' (fr_setCell _ ⟨C, 1, none⟩ (.slice pa pn pc))
  have HC9 := Lib.hid (set2 c2 (.int .u64 now) (.slice pa pn pc))
  have HJ9 := Lib.hid (((HJ8.out.write hf (fun g hg => by simp at hg; exact ⟨.inr hg, by have := HCD.out.2.2; omega⟩)).less (G' := GS (.slice pa pn pc) Bs) (fun g hg => .inl hg)).mono (Q := P + 2) (by omega))
  have HR9 := Lib.hid (RowL.fr HR8.out hf (fun g hg hm => by have := HCR.out g hg; simp at hm; exact this hm))
  have HB9 : Hid (∀ b, Bs b → ((V6.setCell ⟨C, 0, none⟩ (.int .u64 now)).setCell ⟨C, 1, none⟩ (.slice pa pn pc)).heap[b]? = w.heap[b]?) := Lib.hid (fun b hb => (hf.block b (by have := HCD.out.2.1 b hb; have := HCL2.out; omega) (by have := HCD.out.2.1 b hb; simp; omega)).trans (HB8.out b hb))
  have HS2 := Lib.hid (HS1.out.trans' hf)
  clear hf c2 HS1 HJ8 HR8 HB8
  refine mix_step rfl (fun K hK => ?_)
  go_simp
  refine hK _ _ HS2.out ?_
  clear hK K
  refine mix_nil ?_
  clear y0 y1 z0 z1 hxl
  go_wp2_with fail
  have hy2 := HC9.out
  refine bodyPost_ret (v := .tuple #[.pointer (some ⟨a, 0, none⟩), .agg #[.int .u64 now, .slice pa pn pc], .bool true]) (by simp [results, Tryz.results8, go_sem, cells_cell (o := 0) hy2 rfl, cells_cell (o := 1) hy2 rfl]) rfl ?_
  exact ⟨a, now, _, f, _, rfl, HJ9.out, HR9.out, HK7.out, HB9.out⟩
set_option maxRecDepth 100000 in
set_option maxHeartbeats 6400000 in
theorem do_adv1_early (J : JAt w0 (GS s Bs) w a now f P) (h : RowL w base s L) (R : ROK f L) (hbl : ∀ b, Bs b → w0.heap.size ≤ b ∧ b < w.heap.size) {tt : Int} (hne : tt ≠ never) (hlt : tt < now) (x y : Int) (hP : P < 9223372036854775000) (hb0 : base ≤ w.heap.size) (hbs : w0.heap.size ≤ base) :
    Calls Tryz.prog 8 #[pt a, rdv now s, .agg #[.int .i64 1, .int .i64 x, .int .i64 y, .int .u64 tt]] w (DoR w0 w Bs P) := by
  obtain ⟨va, vc, rfl⟩ := slice_form h
  have mixed : Tryz.prog.follows .mixedOrders = true := by kernel_rfl
  unfold rdv
  obtain ⟨W, hW⟩ : ∃ W, ((w.alloc (.cells #[.int .u64 now, .slice va L.length vc] 32)).alloc (.cells #[.int .i64 1, .int .i64 x, .int .i64 y, .int .u64 tt] 39)).alloc (.cells #[.int .u64 0, .slice none 0 0] 32) = W := ⟨_, rfl⟩
  have al : ∀ (w : World) o, Below w.heap.size w (w.alloc o) := fun w o => (Below.refl _ _).alloc (Nat.le_refl _) _
  have hbW : Below w.heap.size w W := by rw [← hW]; exact (((Below.refl _ _).alloc (Nat.le_refl _) _).alloc (by simp) _).alloc (by simp; omega) _
  have hX : W.heap[w.heap.size]? = some (.cells #[.int .u64 now, .slice va L.length vc] 32 (0, 0)) := by rw [← hW]; exact ((al _ _).block _ (by simp; omega)).trans (((al _ _).block _ (by simp)).trans (block_new _ _ _ rfl))
  have hY : W.heap[w.heap.size + 1]? = some (.cells #[.int .i64 1, .int .i64 x, .int .i64 y, .int .u64 tt] 39 (0, 0)) := by rw [← hW]; exact ((al _ _).block _ (by simp)).trans (block_new _ _ _ (by simp))
  have hZ : W.heap[w.heap.size + 1 + 1]? = some (.cells #[.int .u64 0, .slice none 0 0] 32 (0, 0)) := by rw [← hW]; exact block_new _ _ _ (by simp)
  obtain ⟨A, hA⟩ : ∃ A, w.heap.size = A := ⟨_, rfl⟩
  obtain ⟨B, hB⟩ : ∃ B, w.heap.size + 1 = B := ⟨_, rfl⟩
  obtain ⟨C, hC⟩ : ∃ C, w.heap.size + 1 + 1 = C := ⟨_, rfl⟩
  have HABC := Lib.hid (And.intro hA (And.intro hB hC))
  have HW := Lib.hid hW
  have HBW := Lib.hid hbW
  rw [hA] at hX
  rw [hB] at hY
  rw [hC] at hZ
  have hBA : A < B ∧ B < C := by omega
  -- the law's own blocks here: those of the caller, and the three boxes
  have HJW : Hid (JAt w0 (fun j => GS (.slice va L.length vc) Bs j ∨ (A ≤ j ∧ j ≤ C)) W a now f P) := Lib.hid (J.more hbW (fun j hj => by
    rcases hj with h | h
    · exact .inl h
    · exact .inr ⟨by omega, Nat.lt_of_le_of_lt h.2 (lt_of_block hZ)⟩))
  have HRW := Lib.hid (h.below hbW)
  have HX := Lib.hid hX
  have HY := Lib.hid hY
  have HZ := Lib.hid hZ
  have HOK := Lib.hid R
  have HN := Lib.hid J.nn
  have HJB := Lib.hid J.below.size
  have HBL := Lib.hid hbl
  have z0 := cells_cell (o := 0) hY rfl
  have z1 := cells_cell (o := 1) hY rfl
  have z2 := cells_cell (o := 2) hY rfl
  have z3 := cells_cell (o := 3) hY rfl
  have h0 := h
  clear h R J hW hbW hX hY hZ hA hB hC al hBA hbl
  have HBS := Lib.hid (And.intro hb0 hbs)
  unfold pt
  go_enter Tryz.func8, Tryz.ntmps8
  go_upto_region 1 with (fail)
  rw [HW.out, HABC.out.2.2, HABC.out.2.1, HABC.out.1]
  clear HW
  have HCL := Lib.hid (jAdv_early HJW.out hne hlt)
  unfold pt at HCL
  go_wp2_with (go_at_call 13; fail)
  refine HCL.out.mono ?_
  rintro e w5 ⟨rfl, rfl⟩
  have J5 := HJW.out
  have K5 := Keep.refl (fun j => GS (.slice va L.length vc) Bs j ∨ (A ≤ j ∧ j ≤ C)) W
  have HJ5 := Lib.hid J5
  have hAC : A ≤ C ∧ B ≤ C ∧ A ≤ B := by have := HABC.out; omega
  have hX5 := (K5 A (.inr ⟨Nat.le_refl _, by omega⟩)).trans HX.out
  have hZ5 := (K5 C (.inr ⟨by omega, Nat.le_refl _⟩)).trans HZ.out
  have hB5 : ∀ b, Bs b → W.heap[b]? = w.heap[b]? := fun b hb => (K5 b (.inl (.inl hb))).trans (HBW.out.block b (HBL.out b hb).2)
  have hR5 : RowL W base (.slice va L.length vc) L := HRW.out.keepR (fun g hg => K5 g (.inl (.inr hg)))
  have HZ5 := Lib.hid hZ5
  have HB5 := Lib.hid hB5
  have HR5 := Lib.hid hR5
  have HRL : Hid (∀ g, (Value.slice va L.length vc).ownBlock = some g → g < w.heap.size) := Lib.hid (fun g hg => (h0.lt g hg).2)
  have HCW : Hid (C < W.heap.size ∧ w.heap.size ≤ W.heap.size ∧ w0.heap.size ≤ W.heap.size) := Lib.hid ⟨lt_of_block hZ5, by have h1 := lt_of_block hX5; have h2 := HABC.out; omega, J5.below.size⟩
  have hrs := Lib.hid (radv_early hR5 hne hlt)
  unfold rdv at hrs
  clear z0 z1 z2 z3 J5 K5 HCL
  have x0 := cells_cell (o := 0) hX5 rfl
  have x1 := cells_cell (o := 1) hX5 rfl
  clear hX5 hZ5 hB5 hR5
  go_wp2_with (go_at_call 14; fail)
  refine hrs.out.mono ?_
  rintro e w6 ⟨rfl, hb6⟩
  obtain ⟨pa, hpa⟩ : ∃ pa, va = pa := ⟨_, rfl⟩
  obtain ⟨pc, hpc⟩ : ∃ pc, vc = pc := ⟨_, rfl⟩
  obtain ⟨pn, hpn⟩ : ∃ pn, L.length = pn := ⟨_, rfl⟩
  have hr6 : RowL w6 base (.slice pa pn pc) L := by rw [← hpa, ← hpc, ← hpn]; exact HR5.out.below hb6
  have hrl : ∀ g, (Value.slice pa pn pc).ownBlock = some g → g < w.heap.size := by rw [← hpa, ← hpc, ← hpn]; exact HRL.out
  have hgb : ∀ g, GS (.slice pa pn pc) Bs g → GS (.slice va L.length vc) Bs g := fun g hg => by rw [hpa, hpc, hpn]; exact hg
  rw [hpa, hpc, hpn]
  obtain ⟨D, hD⟩ : ∃ D, w6.heap.size = D := ⟨_, rfl⟩
  obtain ⟨w7, hw7⟩ : ∃ w7, w6.alloc (.cells #[.int .u64 now, .slice pa pn pc] 32) = w7 := ⟨_, rfl⟩
  have hb7 : Below w6.heap.size w6 w7 := by rw [← hw7]; exact (Below.refl _ _).alloc (Nat.le_refl _) _
  have HD7 : Hid (w7.heap[D]? = some (.cells #[.int .u64 now, .slice pa pn pc] 32 (0, 0))) := Lib.hid (by rw [← hw7, ← hD]; exact block_new _ _ _ rfl)
  have hb57 := hb6.trans (hb7.mono hb6.size)
  have HZ7 := Lib.hid ((hb57.block _ (lt_of_block HZ5.out)).trans HZ5.out)
  have HB7 : Hid (∀ b, Bs b → w7.heap[b]? = w.heap[b]?) := Lib.hid (fun b hb => (hb57.block b (by have := HCW.out.2.1; have := (HBL.out b hb).2; omega)).trans (HB5.out b hb))
  have HR7 : Hid (RowL w7 w0.heap.size (.slice pa pn pc) L) := Lib.hid (ownsRow_mono (hr6.below hb7) HBS.out.2)
  have HK7 := HOK
  have HJ7 : Hid (JAt w0 (fun j => GS (.slice pa pn pc) Bs j ∨ j = C) w7 a now f (P + 2)) := Lib.hid ((HJ5.out.more hb57 (fun j hj => by
    rcases hj with h | h
    · have h := hgb j h; exact .inl (.inl h)
    · subst h; exact .inl (.inr ⟨by omega, Nat.le_refl _⟩))).mono (by omega))
  have HCD : Hid (C < D ∧ (∀ b, Bs b → b < C) ∧ w0.heap.size ≤ C) := Lib.hid (by
    have h1 := HCW.out.1; have h2 := hb6.size; have h4 := HABC.out.2.2; have h5 := HBS.out.1; have h6 := HBS.out.2
    exact ⟨by omega, fun b hb => by have := (HBL.out b hb).2; omega, by omega⟩)
  have HCR : Hid (∀ g, (Value.slice pa pn pc).ownBlock = some g → g ≠ C) := Lib.hid (fun g hg => by have := hrl g hg; have := HABC.out.2.2; omega)
  have hdr : Below w7.heap.size w7 w7.drew := (Below.refl _ _).drew
  have hsm := Lib.hid (jsame_any (w := w7.drew) (va := .slice none 0 0) (vb := .slice none 0 0) (ba := 0) (bb := 0) (L := []) (World.ownsRow_nil _ _ _ _) (World.ownsRow_nil _ _ _ _) (by simp))
  have HW7 := Lib.hid (And.intro hw7 hD)
  clear hr6 hb6 hb7 hb57 hw7 hD hrs x0 x1 hpn HZ5 HB5 HJ5 HJW HRW HX HY HZ hpa hpc hrl hgb hdr
  go_upto_region 13 with (fail)
  rw [HW7.out.1, HW7.out.2]
  refine wp_region_mix (fun W' => Fr [C] w7 W') 12 [(true, 0), (true, 1), (true, 2), (true, 3), (false, 4), (true, 5), (true, 6), (true, 7), (true, 8), (true, 9), (false, 10), (false, 11)] mixed (by kernel_rfl) (fun _ _ _ d _ h => by cases d <;> exact h) ?_
  have hld : ∀ W', Fr [C] w7 W' → W'.cell? ⟨D, 0, none⟩ = some (.int .u64 now) ∧ W'.cell? ⟨D, 1, none⟩ = some (.slice pa pn pc) := fun W' hb => by
    have e0 := hb.same HD7.out (by have := HCD.out.1; simp; omega)
    exact ⟨cells_cell e0 rfl, cells_cell e0 rfl⟩
  have HS1 : Hid (Fr [C] w7 w7.drew) := Lib.hid (fr_drewN w7 1 _)
  simp only [List.map_cons, List.map_nil, List.getD_cons_zero, List.getD_cons_succ, List.drop_succ_cons, List.drop_zero]
  refine mix_move (.tmp 0) (.pointer (some ⟨a, 0, none⟩)) rfl HS1.out rfl rfl ?_
  simp only [Act.put, List.setIfInBounds_toArray, List.set_cons_zero, List.set_cons_succ]
  refine mix_take (.agg #[.int .u64 now, .slice pa pn pc]) HS1.out rfl (fun W' hS => by obtain ⟨l0, l1⟩ := hld W' hS; go_simp) ?_
  simp only [Act.put, List.setIfInBounds_toArray, List.set_cons_zero, List.set_cons_succ]
  refine mix_move (.tmp 15) (.slice none 0 0) rfl HS1.out rfl rfl ?_
  simp only [Act.put, List.setIfInBounds_toArray, List.set_cons_zero, List.set_cons_succ]
  refine mix_move (.tmp 18) (.slice none 0 0) rfl HS1.out rfl rfl ?_
  simp only [Act.put, List.setIfInBounds_toArray, List.set_cons_zero, List.set_cons_succ]
  refine mix_step rfl (fun K hK => ?_)
  go_simp
  go_wp2_with (go_at_call 15; fail)
  refine hsm.out.mono ?_
  rintro e w' ⟨rfl, n, rfl⟩
  have HS1 : Hid (Fr [C] w7 (w7.drew.drewN n)) := Lib.hid (HS1.out.trans' (fr_drewN _ n _))
  refine hK _ _ HS1.out ?_
  clear hK K hsm
  refine mix_move (.tmp 84) (.bool true) rfl HS1.out rfl rfl ?_
  simp only [Act.put, List.setIfInBounds_toArray, List.set_cons_zero, List.set_cons_succ]
  refine mix_move (.tmp 16) (.int .i64 3) rfl HS1.out rfl rfl ?_
  simp only [Act.put, List.setIfInBounds_toArray, List.set_cons_zero, List.set_cons_succ]
  refine mix_move (.tmp 19) (.int .i64 3) rfl HS1.out rfl rfl ?_
  simp only [Act.put, List.setIfInBounds_toArray, List.set_cons_zero, List.set_cons_succ]
  refine mix_take (.bool true) HS1.out rfl (fun W' hS => by obtain ⟨l0, l1⟩ := hld W' hS; go_simp) ?_
  simp only [Act.put, List.setIfInBounds_toArray, List.set_cons_zero, List.set_cons_succ]
  refine mix_take (.bool true) HS1.out rfl (fun W' hS => by obtain ⟨l0, l1⟩ := hld W' hS; go_simp) ?_
  simp only [Act.put, List.setIfInBounds_toArray, List.set_cons_zero, List.set_cons_succ]
  refine mix_by (.pointer (some ⟨a, 0, none⟩)) rfl (by go_simp) HS1.out ?_
  simp only [Act.put, List.setIfInBounds_toArray, List.set_cons_zero, List.set_cons_succ]
  have hDb : Below w7.heap.size w7 (w7.drew.drewN n) := (Below.refl _ _).drew.trans ((fr_drewN _ n []).below (fun _ hx => by simp at hx) (Nat.le_refl _))
  have c2 := (hDb.block _ (lt_of_block HZ7.out)).trans HZ7.out
  have HJ8 := Lib.hid (HJ7.out.grown hDb)
  have HR8 := Lib.hid (HR7.out.below hDb)
  have HB8 : Hid (∀ b, Bs b → (w7.drew.drewN n).heap[b]? = w.heap[b]?) := Lib.hid (fun b hb => (hDb.block b (by have h1 := lt_of_block HZ7.out; have := HCD.out.2.1 b hb; omega)).trans (HB7.out b hb))
  clear hDb hld
  generalize (w7.drew.drewN n) = V6 at *
  have y0 := cells_cell (o := 0) c2 rfl
  have y1 : V6.cell? ⟨C, 1, none⟩ = some (.slice none 0 0) := cells_cell c2 rfl
  have z0 := cells_free c2 0
  have z1 := cells_free c2 1
  have hxl := lt_of_block c2
  have HCL2 := Lib.hid hxl
  have hf := (fr_setCell V6 ⟨C, 0, none⟩ (.int .u64 now)).trans' (fr_setCell _ ⟨C, 1, none⟩ (.slice pa pn pc))
  have HC9 := Lib.hid (set2 c2 (.int .u64 now) (.slice pa pn pc))
  have HJ9 := Lib.hid (((HJ8.out.write hf (fun g hg => by simp at hg; exact ⟨.inr hg, by have := HCD.out.2.2; omega⟩)).less (G' := GS (.slice pa pn pc) Bs) (fun g hg => .inl hg)).mono (Q := P + 2) (by omega))
  have HR9 := Lib.hid (RowL.fr HR8.out hf (fun g hg hm => by have := HCR.out g hg; simp at hm; exact this hm))
  have HB9 : Hid (∀ b, Bs b → ((V6.setCell ⟨C, 0, none⟩ (.int .u64 now)).setCell ⟨C, 1, none⟩ (.slice pa pn pc)).heap[b]? = w.heap[b]?) := Lib.hid (fun b hb => (hf.block b (by have := HCD.out.2.1 b hb; have := HCL2.out; omega) (by have := HCD.out.2.1 b hb; simp; omega)).trans (HB8.out b hb))
  have HS2 := Lib.hid (HS1.out.trans' hf)
  clear hf c2 HS1 HJ8 HR8 HB8
  refine mix_step rfl (fun K hK => ?_)
  go_simp
  refine hK _ _ HS2.out ?_
  clear hK K
  refine mix_nil ?_
  clear y0 y1 z0 z1 hxl
  go_wp2_with fail
  have hy2 := HC9.out
  refine bodyPost_ret (v := .tuple #[.pointer (some ⟨a, 0, none⟩), .agg #[.int .u64 now, .slice pa pn pc], .bool true]) (by simp [results, Tryz.results8, go_sem, cells_cell (o := 0) hy2 rfl, cells_cell (o := 1) hy2 rfl]) rfl ?_
  exact ⟨a, now, _, f, _, rfl, HJ9.out, HR9.out, HK7.out, HB9.out⟩
set_option maxRecDepth 100000 in
set_option maxHeartbeats 6400000 in
theorem do_adv1_yes (J : JAt w0 (GS s Bs) w a now f P) (h : RowL w base s L) (R : ROK f L) (hbl : ∀ b, Bs b → w0.heap.size ≤ b ∧ b < w.heap.size) {tt : Int} (htt : tt < never) (hle : now ≤ tt) (x y : Int) (hP : P < 9223372036854775000) (hb0 : base ≤ w.heap.size) (hbs : w0.heap.size ≤ base) :
    Calls Tryz.prog 8 #[pt a, rdv now s, .agg #[.int .i64 1, .int .i64 x, .int .i64 y, .int .u64 tt]] w (DoR w0 w Bs P) := by
  obtain ⟨va, vc, rfl⟩ := slice_form h
  have mixed : Tryz.prog.follows .mixedOrders = true := by kernel_rfl
  unfold rdv
  obtain ⟨W, hW⟩ : ∃ W, ((w.alloc (.cells #[.int .u64 now, .slice va L.length vc] 32)).alloc (.cells #[.int .i64 1, .int .i64 x, .int .i64 y, .int .u64 tt] 39)).alloc (.cells #[.int .u64 0, .slice none 0 0] 32) = W := ⟨_, rfl⟩
  have al : ∀ (w : World) o, Below w.heap.size w (w.alloc o) := fun w o => (Below.refl _ _).alloc (Nat.le_refl _) _
  have hbW : Below w.heap.size w W := by rw [← hW]; exact (((Below.refl _ _).alloc (Nat.le_refl _) _).alloc (by simp) _).alloc (by simp; omega) _
  have hX : W.heap[w.heap.size]? = some (.cells #[.int .u64 now, .slice va L.length vc] 32 (0, 0)) := by rw [← hW]; exact ((al _ _).block _ (by simp; omega)).trans (((al _ _).block _ (by simp)).trans (block_new _ _ _ rfl))
  have hY : W.heap[w.heap.size + 1]? = some (.cells #[.int .i64 1, .int .i64 x, .int .i64 y, .int .u64 tt] 39 (0, 0)) := by rw [← hW]; exact ((al _ _).block _ (by simp)).trans (block_new _ _ _ (by simp))
  have hZ : W.heap[w.heap.size + 1 + 1]? = some (.cells #[.int .u64 0, .slice none 0 0] 32 (0, 0)) := by rw [← hW]; exact block_new _ _ _ (by simp)
  obtain ⟨A, hA⟩ : ∃ A, w.heap.size = A := ⟨_, rfl⟩
  obtain ⟨B, hB⟩ : ∃ B, w.heap.size + 1 = B := ⟨_, rfl⟩
  obtain ⟨C, hC⟩ : ∃ C, w.heap.size + 1 + 1 = C := ⟨_, rfl⟩
  have HABC := Lib.hid (And.intro hA (And.intro hB hC))
  have HW := Lib.hid hW
  have HBW := Lib.hid hbW
  rw [hA] at hX
  rw [hB] at hY
  rw [hC] at hZ
  have hBA : A < B ∧ B < C := by omega
  -- the law's own blocks here: those of the caller, and the three boxes
  have HJW : Hid (JAt w0 (fun j => GS (.slice va L.length vc) Bs j ∨ (A ≤ j ∧ j ≤ C)) W a now f P) := Lib.hid (J.more hbW (fun j hj => by
    rcases hj with h | h
    · exact .inl h
    · exact .inr ⟨by omega, Nat.lt_of_le_of_lt h.2 (lt_of_block hZ)⟩))
  have HRW := Lib.hid (h.below hbW)
  have HX := Lib.hid hX
  have HY := Lib.hid hY
  have HZ := Lib.hid hZ
  have HOK := Lib.hid R
  have HN := Lib.hid J.nn
  have HJB := Lib.hid J.below.size
  have HBL := Lib.hid hbl
  have z0 := cells_cell (o := 0) hY rfl
  have z1 := cells_cell (o := 1) hY rfl
  have z2 := cells_cell (o := 2) hY rfl
  have z3 := cells_cell (o := 3) hY rfl
  have h0 := h
  clear h R J hW hbW hX hY hZ hA hB hC al hBA hbl
  have HBS := Lib.hid (And.intro hb0 hbs)
  unfold pt
  go_enter Tryz.func8, Tryz.ntmps8
  go_upto_region 1 with (fail)
  rw [HW.out, HABC.out.2.2, HABC.out.2.1, HABC.out.1]
  clear HW
  have HCL := Lib.hid (jAdv_yes HJW.out htt hle (by omega))
  unfold pt at HCL
  go_wp2_with (go_at_call 13; fail)
  refine HCL.out.mono ?_
  rintro e w5 ⟨gv, O5, rfl, hlap, hr5, J5, K5, hs5⟩
  have HLP := Lib.hid hlap
  have HV5 := Lib.hid hr5
  have HJ5 := Lib.hid J5
  have hAC : A ≤ C ∧ B ≤ C ∧ A ≤ B := by have := HABC.out; omega
  have hX5 := (K5 A (.inr ⟨Nat.le_refl _, by omega⟩)).trans HX.out
  have hZ5 := (K5 C (.inr ⟨by omega, Nat.le_refl _⟩)).trans HZ.out
  have hB5 : ∀ b, Bs b → w5.heap[b]? = w.heap[b]? := fun b hb => (K5 b (.inl (.inl hb))).trans (HBW.out.block b (HBL.out b hb).2)
  have hR5 : RowL w5 base (.slice va L.length vc) L := HRW.out.keepR (fun g hg => K5 g (.inl (.inr hg)))
  have HZ5 := Lib.hid hZ5
  have HB5 := Lib.hid hB5
  have HR5 := Lib.hid hR5
  have HRL : Hid (∀ g, (Value.slice va L.length vc).ownBlock = some g → g < w.heap.size) := Lib.hid (fun g hg => (h0.lt g hg).2)
  have HCW : Hid (C < w5.heap.size ∧ w.heap.size ≤ w5.heap.size ∧ w0.heap.size ≤ w5.heap.size) := Lib.hid ⟨lt_of_block hZ5, by have h1 := lt_of_block hX5; have h2 := HABC.out; omega, J5.below.size⟩
  have hrs := Lib.hid (radv_yes hR5 HOK.out.ndL HOK.out.len HN.out htt hle)
  unfold rdv at hrs
  clear z0 z1 z2 z3 J5 K5 HCL hlap hr5 hs5
  have x0 := cells_cell (o := 0) hX5 rfl
  have x1 := cells_cell (o := 1) hX5 rfl
  clear hX5 hZ5 hB5 hR5
  go_wp2_with (go_at_call 14; fail)
  refine hrs.out.mono ?_
  rintro e w6 ⟨v6, O6, rfl, hr66, hi6, hb6⟩
  have hO : O6 = O5 := (lap_of HOK.out hi6 htt).unique HLP.out
  subst hO
  obtain ⟨p5, c5, rfl⟩ := slice_form HV5.out
  obtain ⟨p6, c6, rfl⟩ := slice_form hr66
  obtain ⟨on, hon⟩ : ∃ on, O6.length = on := ⟨_, rfl⟩
  rw [hon] at HV5 HJ5 hr66 ⊢
  obtain ⟨pa, hpa⟩ : ∃ pa, va = pa := ⟨_, rfl⟩
  obtain ⟨pc, hpc⟩ : ∃ pc, vc = pc := ⟨_, rfl⟩
  obtain ⟨pn, hpn⟩ : ∃ pn, L.length = pn := ⟨_, rfl⟩
  have hr6 : RowL w6 base (.slice pa pn pc) L := by rw [← hpa, ← hpc, ← hpn]; exact HR5.out.below hb6
  have hrl : ∀ g, (Value.slice pa pn pc).ownBlock = some g → g < w.heap.size := by rw [← hpa, ← hpc, ← hpn]; exact HRL.out
  have hgb : ∀ g, GS (.slice pa pn pc) Bs g → GS (.slice va L.length vc) Bs g := fun g hg => by rw [hpa, hpc, hpn]; exact hg
  rw [hpa, hpc, hpn]
  obtain ⟨D, hD⟩ : ∃ D, w6.heap.size = D := ⟨_, rfl⟩
  obtain ⟨w7, hw7⟩ : ∃ w7, w6.alloc (.cells #[.int .u64 tt, .slice pa pn pc] 32) = w7 := ⟨_, rfl⟩
  have hb7 : Below w6.heap.size w6 w7 := by rw [← hw7]; exact (Below.refl _ _).alloc (Nat.le_refl _) _
  have HD7 : Hid (w7.heap[D]? = some (.cells #[.int .u64 tt, .slice pa pn pc] 32 (0, 0))) := Lib.hid (by rw [← hw7, ← hD]; exact block_new _ _ _ rfl)
  have hb57 := hb6.trans (hb7.mono hb6.size)
  have HZ7 := Lib.hid ((hb57.block _ (lt_of_block HZ5.out)).trans HZ5.out)
  have HB7 : Hid (∀ b, Bs b → w7.heap[b]? = w.heap[b]?) := Lib.hid (fun b hb => (hb57.block b (by have := HCW.out.2.1; have := (HBL.out b hb).2; omega)).trans (HB5.out b hb))
  have HR7 : Hid (RowL w7 w0.heap.size (.slice pa pn pc) L) := Lib.hid (ownsRow_mono (hr6.below hb7) HBS.out.2)
  have HK7 := HOK
  have HJ7 : Hid (JAt w0 (fun j => GS (.slice pa pn pc) Bs j ∨ j = C) w7 a tt f (P + 2)) := Lib.hid ((HJ5.out.more hb57 (fun j hj => by
    rcases hj with h | h
    · have h := hgb j h; exact .inl (.inl (.inl h))
    · subst h; exact .inl (.inl (.inr ⟨by omega, Nat.le_refl _⟩)))).mono (by omega))
  have HCD : Hid (C < D ∧ (∀ b, Bs b → b < C) ∧ w0.heap.size ≤ C) := Lib.hid (by
    have h1 := HCW.out.1; have h2 := hb6.size; have h4 := HABC.out.2.2; have h5 := HBS.out.1; have h6 := HBS.out.2
    exact ⟨by omega, fun b hb => by have := (HBL.out b hb).2; omega, by omega⟩)
  have HCR : Hid (∀ g, (Value.slice pa pn pc).ownBlock = some g → g ≠ C) := Lib.hid (fun g hg => by have := hrl g hg; have := HABC.out.2.2; omega)
  have hdr : Below w7.heap.size w7 w7.drew := (Below.refl _ _).drew
  have hsm := Lib.hid (jsame_any ((HV5.out.below hb57).below hdr) ((hr66.below hb7).below hdr) (by have := HLP.out.len; omega))
  have HW7 := Lib.hid (And.intro hw7 hD)
  clear hr6 hb6 hb7 hb57 hw7 hD hrs x0 x1 hpn HZ5 HB5 HJ5 HJW HRW HX HY HZ hpa hpc hrl hgb hdr hr66 hi6 hon
  go_upto_region 13 with (fail)
  rw [HW7.out.1, HW7.out.2]
  refine wp_region_mix (fun W' => Fr [C] w7 W') 12 [(true, 0), (true, 1), (true, 2), (true, 3), (false, 4), (true, 5), (true, 6), (true, 7), (true, 8), (true, 9), (false, 10), (false, 11)] mixed (by kernel_rfl) (fun _ _ _ d _ h => by cases d <;> exact h) ?_
  have hld : ∀ W', Fr [C] w7 W' → W'.cell? ⟨D, 0, none⟩ = some (.int .u64 tt) ∧ W'.cell? ⟨D, 1, none⟩ = some (.slice pa pn pc) := fun W' hb => by
    have e0 := hb.same HD7.out (by have := HCD.out.1; simp; omega)
    exact ⟨cells_cell e0 rfl, cells_cell e0 rfl⟩
  have HS1 : Hid (Fr [C] w7 w7.drew) := Lib.hid (fr_drewN w7 1 _)
  simp only [List.map_cons, List.map_nil, List.getD_cons_zero, List.getD_cons_succ, List.drop_succ_cons, List.drop_zero]
  refine mix_move (.tmp 0) (.pointer (some ⟨a, 0, none⟩)) rfl HS1.out rfl rfl ?_
  simp only [Act.put, List.setIfInBounds_toArray, List.set_cons_zero, List.set_cons_succ]
  refine mix_take (.agg #[.int .u64 tt, .slice pa pn pc]) HS1.out rfl (fun W' hS => by obtain ⟨l0, l1⟩ := hld W' hS; go_simp) ?_
  simp only [Act.put, List.setIfInBounds_toArray, List.set_cons_zero, List.set_cons_succ]
  refine mix_move (.tmp 15) (.slice p5 on c5) rfl HS1.out rfl rfl ?_
  simp only [Act.put, List.setIfInBounds_toArray, List.set_cons_zero, List.set_cons_succ]
  refine mix_move (.tmp 18) (.slice p6 on c6) rfl HS1.out rfl rfl ?_
  simp only [Act.put, List.setIfInBounds_toArray, List.set_cons_zero, List.set_cons_succ]
  refine mix_step rfl (fun K hK => ?_)
  go_simp
  go_wp2_with (go_at_call 15; fail)
  refine hsm.out.mono ?_
  rintro e w' ⟨rfl, n, rfl⟩
  have HS1 : Hid (Fr [C] w7 (w7.drew.drewN n)) := Lib.hid (HS1.out.trans' (fr_drewN _ n _))
  refine hK _ _ HS1.out ?_
  clear hK K hsm
  refine mix_move (.tmp 84) (.bool true) rfl HS1.out rfl rfl ?_
  simp only [Act.put, List.setIfInBounds_toArray, List.set_cons_zero, List.set_cons_succ]
  refine mix_move (.tmp 16) (.int .i64 0) rfl HS1.out rfl rfl ?_
  simp only [Act.put, List.setIfInBounds_toArray, List.set_cons_zero, List.set_cons_succ]
  refine mix_move (.tmp 19) (.int .i64 0) rfl HS1.out rfl rfl ?_
  simp only [Act.put, List.setIfInBounds_toArray, List.set_cons_zero, List.set_cons_succ]
  refine mix_take (.bool true) HS1.out rfl (fun W' hS => by obtain ⟨l0, l1⟩ := hld W' hS; go_simp) ?_
  simp only [Act.put, List.setIfInBounds_toArray, List.set_cons_zero, List.set_cons_succ]
  refine mix_take (.bool true) HS1.out rfl (fun W' hS => by obtain ⟨l0, l1⟩ := hld W' hS; go_simp) ?_
  simp only [Act.put, List.setIfInBounds_toArray, List.set_cons_zero, List.set_cons_succ]
  refine mix_by (.pointer (some ⟨a, 0, none⟩)) rfl (by go_simp) HS1.out ?_
  simp only [Act.put, List.setIfInBounds_toArray, List.set_cons_zero, List.set_cons_succ]
  have hDb : Below w7.heap.size w7 (w7.drew.drewN n) := (Below.refl _ _).drew.trans ((fr_drewN _ n []).below (fun _ hx => by simp at hx) (Nat.le_refl _))
  have c2 := (hDb.block _ (lt_of_block HZ7.out)).trans HZ7.out
  have HJ8 := Lib.hid (HJ7.out.grown hDb)
  have HR8 := Lib.hid (HR7.out.below hDb)
  have HB8 : Hid (∀ b, Bs b → (w7.drew.drewN n).heap[b]? = w.heap[b]?) := Lib.hid (fun b hb => (hDb.block b (by have h1 := lt_of_block HZ7.out; have := HCD.out.2.1 b hb; omega)).trans (HB7.out b hb))
  clear hDb hld
  generalize (w7.drew.drewN n) = V6 at *
  have y0 := cells_cell (o := 0) c2 rfl
  have y1 : V6.cell? ⟨C, 1, none⟩ = some (.slice none 0 0) := cells_cell c2 rfl
  have z0 := cells_free c2 0
  have z1 := cells_free c2 1
  have hxl := lt_of_block c2
  have HCL2 := Lib.hid hxl
  have hf := (fr_setCell V6 ⟨C, 0, none⟩ (.int .u64 tt)).trans' (fr_setCell _ ⟨C, 1, none⟩ (.slice pa pn pc))
  have HC9 := Lib.hid (set2 c2 (.int .u64 tt) (.slice pa pn pc))
  have HJ9 := Lib.hid (((HJ8.out.write hf (fun g hg => by simp at hg; exact ⟨.inr hg, by have := HCD.out.2.2; omega⟩)).less (G' := GS (.slice pa pn pc) Bs) (fun g hg => .inl hg)).mono (Q := P + 2) (by omega))
  have HR9 := Lib.hid (RowL.fr HR8.out hf (fun g hg hm => by have := HCR.out g hg; simp at hm; exact this hm))
  have HB9 : Hid (∀ b, Bs b → ((V6.setCell ⟨C, 0, none⟩ (.int .u64 tt)).setCell ⟨C, 1, none⟩ (.slice pa pn pc)).heap[b]? = w.heap[b]?) := Lib.hid (fun b hb => (hf.block b (by have := HCD.out.2.1 b hb; have := HCL2.out; omega) (by have := HCD.out.2.1 b hb; simp; omega)).trans (HB8.out b hb))
  have HS2 := Lib.hid (HS1.out.trans' hf)
  clear hf c2 HS1 HJ8 HR8 HB8
  refine mix_step rfl (fun K hK => ?_)
  go_simp
  refine hK _ _ HS2.out ?_
  clear hK K
  refine mix_nil ?_
  clear y0 y1 z0 z1 hxl
  go_wp2_with fail
  have hy2 := HC9.out
  refine bodyPost_ret (v := .tuple #[.pointer (some ⟨a, 0, none⟩), .agg #[.int .u64 tt, .slice pa pn pc], .bool true]) (by simp [results, Tryz.results8, go_sem, cells_cell (o := 0) hy2 rfl, cells_cell (o := 1) hy2 rfl]) rfl ?_
  exact ⟨a, tt, _, f, _, rfl, HJ9.out, HR9.out, HK7.out, HB9.out⟩
set_option maxRecDepth 100000 in
set_option maxHeartbeats 6400000 in
theorem do_adv3_never (J : JAt w0 (GS s Bs) w a now f P) (h : RowL w base s L) (R : ROK f L) (hbl : ∀ b, Bs b → w0.heap.size ≤ b ∧ b < w.heap.size) (hv : (nowT now L).foldl min never = never) (t : Int) (x y : Int) (hP : P < 9223372036854775000) (hb0 : base ≤ w.heap.size) (hbs : w0.heap.size ≤ base) :
    Calls Tryz.prog 8 #[pt a, rdv now s, .agg #[.int .i64 3, .int .i64 x, .int .i64 y, .int .u64 t]] w (DoR w0 w Bs P) := by
  obtain ⟨va, vc, rfl⟩ := slice_form h
  have mixed : Tryz.prog.follows .mixedOrders = true := by kernel_rfl
  unfold rdv
  obtain ⟨W, hW⟩ : ∃ W, ((w.alloc (.cells #[.int .u64 now, .slice va L.length vc] 32)).alloc (.cells #[.int .i64 3, .int .i64 x, .int .i64 y, .int .u64 t] 39)).alloc (.cells #[.int .u64 0, .slice none 0 0] 32) = W := ⟨_, rfl⟩
  have al : ∀ (w : World) o, Below w.heap.size w (w.alloc o) := fun w o => (Below.refl _ _).alloc (Nat.le_refl _) _
  have hbW : Below w.heap.size w W := by rw [← hW]; exact (((Below.refl _ _).alloc (Nat.le_refl _) _).alloc (by simp) _).alloc (by simp; omega) _
  have hX : W.heap[w.heap.size]? = some (.cells #[.int .u64 now, .slice va L.length vc] 32 (0, 0)) := by rw [← hW]; exact ((al _ _).block _ (by simp; omega)).trans (((al _ _).block _ (by simp)).trans (block_new _ _ _ rfl))
  have hY : W.heap[w.heap.size + 1]? = some (.cells #[.int .i64 3, .int .i64 x, .int .i64 y, .int .u64 t] 39 (0, 0)) := by rw [← hW]; exact ((al _ _).block _ (by simp)).trans (block_new _ _ _ (by simp))
  have hZ : W.heap[w.heap.size + 1 + 1]? = some (.cells #[.int .u64 0, .slice none 0 0] 32 (0, 0)) := by rw [← hW]; exact block_new _ _ _ (by simp)
  obtain ⟨A, hA⟩ : ∃ A, w.heap.size = A := ⟨_, rfl⟩
  obtain ⟨B, hB⟩ : ∃ B, w.heap.size + 1 = B := ⟨_, rfl⟩
  obtain ⟨C, hC⟩ : ∃ C, w.heap.size + 1 + 1 = C := ⟨_, rfl⟩
  have HABC := Lib.hid (And.intro hA (And.intro hB hC))
  have HW := Lib.hid hW
  have HBW := Lib.hid hbW
  rw [hA] at hX
  rw [hB] at hY
  rw [hC] at hZ
  have hBA : A < B ∧ B < C := by omega
  -- the law's own blocks here: those of the caller, and the three boxes
  have HJW : Hid (JAt w0 (fun j => GS (.slice va L.length vc) Bs j ∨ (A ≤ j ∧ j ≤ C)) W a now f P) := Lib.hid (J.more hbW (fun j hj => by
    rcases hj with h | h
    · exact .inl h
    · exact .inr ⟨by omega, Nat.lt_of_le_of_lt h.2 (lt_of_block hZ)⟩))
  have HRW := Lib.hid (h.below hbW)
  have HX := Lib.hid hX
  have HY := Lib.hid hY
  have HZ := Lib.hid hZ
  have HOK := Lib.hid R
  have HN := Lib.hid J.nn
  have HJB := Lib.hid J.below.size
  have HBL := Lib.hid hbl
  have z0 := cells_cell (o := 0) hY rfl
  have z1 := cells_cell (o := 1) hY rfl
  have z2 := cells_cell (o := 2) hY rfl
  have z3 := cells_cell (o := 3) hY rfl
  have h0 := h
  clear h R J hW hbW hX hY hZ hA hB hC al hBA hbl
  have HBS := Lib.hid (And.intro hb0 hbs)
  have hrx := Lib.hid (rnext_any HRW.out HOK.out.len HN.out)
  rw [hv] at hrx
  have x0 := cells_cell (o := 0) HX.out rfl
  have x1 := cells_cell (o := 1) HX.out rfl
  unfold rdv at hrx
  unfold pt
  go_enter Tryz.func8, Tryz.ntmps8
  go_upto_region 1 with (fail)
  rw [HW.out, HABC.out.2.2, HABC.out.2.1, HABC.out.1]
  clear HW
  go_wp2_with (go_at_call 24; fail)
  refine hrx.out.mono ?_
  rintro e W2 ⟨rfl, hbn⟩
  have HJW := Lib.hid (HJW.out.grown hbn)
  have HRW := Lib.hid (HRW.out.below hbn)
  have HX := Lib.hid ((hbn.block _ (lt_of_block HX.out)).trans HX.out)
  have HY := Lib.hid ((hbn.block _ (lt_of_block HY.out)).trans HY.out)
  have HZ := Lib.hid ((hbn.block _ (lt_of_block HZ.out)).trans HZ.out)
  have HBW := Lib.hid (HBW.out.trans (hbn.mono HBW.out.size))
  clear hbn hrx z0 z1 z2 z3 x0 x1
  have z0 := cells_cell (o := 0) HY.out rfl
  have z1 := cells_cell (o := 1) HY.out rfl
  have z2 := cells_cell (o := 2) HY.out rfl
  have z3 := cells_cell (o := 3) HY.out rfl
  have HCL := Lib.hid (jAdv_never HJW.out)
  unfold pt never at HCL
  go_wp2_with (go_at_call 13; fail)
  refine HCL.out.mono ?_
  rintro e w5 ⟨rfl, rfl⟩
  have J5 := HJW.out
  have K5 := Keep.refl (fun j => GS (.slice va L.length vc) Bs j ∨ (A ≤ j ∧ j ≤ C)) W2
  have HJ5 := Lib.hid J5
  have hAC : A ≤ C ∧ B ≤ C ∧ A ≤ B := by have := HABC.out; omega
  have hX5 := (K5 A (.inr ⟨Nat.le_refl _, by omega⟩)).trans HX.out
  have hZ5 := (K5 C (.inr ⟨by omega, Nat.le_refl _⟩)).trans HZ.out
  have hB5 : ∀ b, Bs b → W2.heap[b]? = w.heap[b]? := fun b hb => (K5 b (.inl (.inl hb))).trans (HBW.out.block b (HBL.out b hb).2)
  have hR5 : RowL W2 base (.slice va L.length vc) L := HRW.out.keepR (fun g hg => K5 g (.inl (.inr hg)))
  have HZ5 := Lib.hid hZ5
  have HB5 := Lib.hid hB5
  have HR5 := Lib.hid hR5
  have HRL : Hid (∀ g, (Value.slice va L.length vc).ownBlock = some g → g < w.heap.size) := Lib.hid (fun g hg => (h0.lt g hg).2)
  have HCW : Hid (C < W2.heap.size ∧ w.heap.size ≤ W2.heap.size ∧ w0.heap.size ≤ W2.heap.size) := Lib.hid ⟨lt_of_block hZ5, by have h1 := lt_of_block hX5; have h2 := HABC.out; omega, J5.below.size⟩
  have hrs := Lib.hid (radv_never (now := now) hR5)
  unfold rdv never at hrs
  clear z0 z1 z2 z3 J5 K5 HCL
  have x0 := cells_cell (o := 0) hX5 rfl
  have x1 := cells_cell (o := 1) hX5 rfl
  clear hX5 hZ5 hB5 hR5
  go_wp2_with (go_at_call 14; fail)
  refine hrs.out.mono ?_
  rintro e w6 ⟨rfl, hb6⟩
  obtain ⟨pa, hpa⟩ : ∃ pa, va = pa := ⟨_, rfl⟩
  obtain ⟨pc, hpc⟩ : ∃ pc, vc = pc := ⟨_, rfl⟩
  obtain ⟨pn, hpn⟩ : ∃ pn, L.length = pn := ⟨_, rfl⟩
  have hr6 : RowL w6 base (.slice pa pn pc) L := by rw [← hpa, ← hpc, ← hpn]; exact HR5.out.below hb6
  have hrl : ∀ g, (Value.slice pa pn pc).ownBlock = some g → g < w.heap.size := by rw [← hpa, ← hpc, ← hpn]; exact HRL.out
  have hgb : ∀ g, GS (.slice pa pn pc) Bs g → GS (.slice va L.length vc) Bs g := fun g hg => by rw [hpa, hpc, hpn]; exact hg
  rw [hpa, hpc, hpn]
  obtain ⟨D, hD⟩ : ∃ D, w6.heap.size = D := ⟨_, rfl⟩
  obtain ⟨w7, hw7⟩ : ∃ w7, w6.alloc (.cells #[.int .u64 now, .slice pa pn pc] 32) = w7 := ⟨_, rfl⟩
  have hb7 : Below w6.heap.size w6 w7 := by rw [← hw7]; exact (Below.refl _ _).alloc (Nat.le_refl _) _
  have HD7 : Hid (w7.heap[D]? = some (.cells #[.int .u64 now, .slice pa pn pc] 32 (0, 0))) := Lib.hid (by rw [← hw7, ← hD]; exact block_new _ _ _ rfl)
  have hb57 := hb6.trans (hb7.mono hb6.size)
  have HZ7 := Lib.hid ((hb57.block _ (lt_of_block HZ5.out)).trans HZ5.out)
  have HB7 : Hid (∀ b, Bs b → w7.heap[b]? = w.heap[b]?) := Lib.hid (fun b hb => (hb57.block b (by have := HCW.out.2.1; have := (HBL.out b hb).2; omega)).trans (HB5.out b hb))
  have HR7 : Hid (RowL w7 w0.heap.size (.slice pa pn pc) L) := Lib.hid (ownsRow_mono (hr6.below hb7) HBS.out.2)
  have HK7 := HOK
  have HJ7 : Hid (JAt w0 (fun j => GS (.slice pa pn pc) Bs j ∨ j = C) w7 a now f (P + 2)) := Lib.hid ((HJ5.out.more hb57 (fun j hj => by
    rcases hj with h | h
    · have h := hgb j h; exact .inl (.inl h)
    · subst h; exact .inl (.inr ⟨by omega, Nat.le_refl _⟩))).mono (by omega))
  have HCD : Hid (C < D ∧ (∀ b, Bs b → b < C) ∧ w0.heap.size ≤ C) := Lib.hid (by
    have h1 := HCW.out.1; have h2 := hb6.size; have h4 := HABC.out.2.2; have h5 := HBS.out.1; have h6 := HBS.out.2
    exact ⟨by omega, fun b hb => by have := (HBL.out b hb).2; omega, by omega⟩)
  have HCR : Hid (∀ g, (Value.slice pa pn pc).ownBlock = some g → g ≠ C) := Lib.hid (fun g hg => by have := hrl g hg; have := HABC.out.2.2; omega)
  have hdr : Below w7.heap.size w7 w7.drew := (Below.refl _ _).drew
  have hsm := Lib.hid (jsame_any (w := w7.drew) (va := .slice none 0 0) (vb := .slice none 0 0) (ba := 0) (bb := 0) (L := []) (World.ownsRow_nil _ _ _ _) (World.ownsRow_nil _ _ _ _) (by simp))
  have HW7 := Lib.hid (And.intro hw7 hD)
  clear hr6 hb6 hb7 hb57 hw7 hD hrs x0 x1 hpn HZ5 HB5 HJ5 HJW HRW HX HY HZ hpa hpc hrl hgb hdr
  go_upto_region 13 with (fail)
  rw [HW7.out.1, HW7.out.2]
  refine wp_region_mix (fun W' => Fr [C] w7 W') 12 [(true, 0), (true, 1), (true, 2), (true, 3), (false, 4), (true, 5), (true, 6), (true, 7), (true, 8), (true, 9), (false, 10), (false, 11)] mixed (by kernel_rfl) (fun _ _ _ d _ h => by cases d <;> exact h) ?_
  have hld : ∀ W', Fr [C] w7 W' → W'.cell? ⟨D, 0, none⟩ = some (.int .u64 now) ∧ W'.cell? ⟨D, 1, none⟩ = some (.slice pa pn pc) := fun W' hb => by
    have e0 := hb.same HD7.out (by have := HCD.out.1; simp; omega)
    exact ⟨cells_cell e0 rfl, cells_cell e0 rfl⟩
  have HS1 : Hid (Fr [C] w7 w7.drew) := Lib.hid (fr_drewN w7 1 _)
  simp only [List.map_cons, List.map_nil, List.getD_cons_zero, List.getD_cons_succ, List.drop_succ_cons, List.drop_zero]
  refine mix_move (.tmp 0) (.pointer (some ⟨a, 0, none⟩)) rfl HS1.out rfl rfl ?_
  simp only [Act.put, List.setIfInBounds_toArray, List.set_cons_zero, List.set_cons_succ]
  refine mix_take (.agg #[.int .u64 now, .slice pa pn pc]) HS1.out rfl (fun W' hS => by obtain ⟨l0, l1⟩ := hld W' hS; go_simp) ?_
  simp only [Act.put, List.setIfInBounds_toArray, List.set_cons_zero, List.set_cons_succ]
  refine mix_move (.tmp 15) (.slice none 0 0) rfl HS1.out rfl rfl ?_
  simp only [Act.put, List.setIfInBounds_toArray, List.set_cons_zero, List.set_cons_succ]
  refine mix_move (.tmp 18) (.slice none 0 0) rfl HS1.out rfl rfl ?_
  simp only [Act.put, List.setIfInBounds_toArray, List.set_cons_zero, List.set_cons_succ]
  refine mix_step rfl (fun K hK => ?_)
  go_simp
  go_wp2_with (go_at_call 15; fail)
  refine hsm.out.mono ?_
  rintro e w' ⟨rfl, n, rfl⟩
  have HS1 : Hid (Fr [C] w7 (w7.drew.drewN n)) := Lib.hid (HS1.out.trans' (fr_drewN _ n _))
  refine hK _ _ HS1.out ?_
  clear hK K hsm
  refine mix_move (.tmp 84) (.bool true) rfl HS1.out rfl rfl ?_
  simp only [Act.put, List.setIfInBounds_toArray, List.set_cons_zero, List.set_cons_succ]
  refine mix_move (.tmp 16) (.int .i64 2) rfl HS1.out rfl rfl ?_
  simp only [Act.put, List.setIfInBounds_toArray, List.set_cons_zero, List.set_cons_succ]
  refine mix_move (.tmp 19) (.int .i64 2) rfl HS1.out rfl rfl ?_
  simp only [Act.put, List.setIfInBounds_toArray, List.set_cons_zero, List.set_cons_succ]
  refine mix_take (.bool true) HS1.out rfl (fun W' hS => by obtain ⟨l0, l1⟩ := hld W' hS; go_simp) ?_
  simp only [Act.put, List.setIfInBounds_toArray, List.set_cons_zero, List.set_cons_succ]
  refine mix_take (.bool true) HS1.out rfl (fun W' hS => by obtain ⟨l0, l1⟩ := hld W' hS; go_simp) ?_
  simp only [Act.put, List.setIfInBounds_toArray, List.set_cons_zero, List.set_cons_succ]
  refine mix_by (.pointer (some ⟨a, 0, none⟩)) rfl (by go_simp) HS1.out ?_
  simp only [Act.put, List.setIfInBounds_toArray, List.set_cons_zero, List.set_cons_succ]
  have hDb : Below w7.heap.size w7 (w7.drew.drewN n) := (Below.refl _ _).drew.trans ((fr_drewN _ n []).below (fun _ hx => by simp at hx) (Nat.le_refl _))
  have c2 := (hDb.block _ (lt_of_block HZ7.out)).trans HZ7.out
  have HJ8 := Lib.hid (HJ7.out.grown hDb)
  have HR8 := Lib.hid (HR7.out.below hDb)
  have HB8 : Hid (∀ b, Bs b → (w7.drew.drewN n).heap[b]? = w.heap[b]?) := Lib.hid (fun b hb => (hDb.block b (by have h1 := lt_of_block HZ7.out; have := HCD.out.2.1 b hb; omega)).trans (HB7.out b hb))
  clear hDb hld
  generalize (w7.drew.drewN n) = V6 at *
  have y0 := cells_cell (o := 0) c2 rfl
  have y1 : V6.cell? ⟨C, 1, none⟩ = some (.slice none 0 0) := cells_cell c2 rfl
  have z0 := cells_free c2 0
  have z1 := cells_free c2 1
  have hxl := lt_of_block c2
  have HCL2 := Lib.hid hxl
  have hf := (fr_setCell V6 ⟨C, 0, none⟩ (.int .u64 now)).trans' (fr_setCell _ ⟨C, 1, none⟩ (.slice pa pn pc))
  have HC9 := Lib.hid (set2 c2 (.int .u64 now) (.slice pa pn pc))
  have HJ9 := Lib.hid (((HJ8.out.write hf (fun g hg => by simp at hg; exact ⟨.inr hg, by have := HCD.out.2.2; omega⟩)).less (G' := GS (.slice pa pn pc) Bs) (fun g hg => .inl hg)).mono (Q := P + 2) (by omega))
  have HR9 := Lib.hid (RowL.fr HR8.out hf (fun g hg hm => by have := HCR.out g hg; simp at hm; exact this hm))
  have HB9 : Hid (∀ b, Bs b → ((V6.setCell ⟨C, 0, none⟩ (.int .u64 now)).setCell ⟨C, 1, none⟩ (.slice pa pn pc)).heap[b]? = w.heap[b]?) := Lib.hid (fun b hb => (hf.block b (by have := HCD.out.2.1 b hb; have := HCL2.out; omega) (by have := HCD.out.2.1 b hb; simp; omega)).trans (HB8.out b hb))
  have HS2 := Lib.hid (HS1.out.trans' hf)
  clear hf c2 HS1 HJ8 HR8 HB8
  refine mix_step rfl (fun K hK => ?_)
  go_simp
  refine hK _ _ HS2.out ?_
  clear hK K
  refine mix_nil ?_
  clear y0 y1 z0 z1 hxl
  go_wp2_with fail
  have hy2 := HC9.out
  refine bodyPost_ret (v := .tuple #[.pointer (some ⟨a, 0, none⟩), .agg #[.int .u64 now, .slice pa pn pc], .bool true]) (by simp [results, Tryz.results8, go_sem, cells_cell (o := 0) hy2 rfl, cells_cell (o := 1) hy2 rfl]) rfl ?_
  exact ⟨a, now, _, f, _, rfl, HJ9.out, HR9.out, HK7.out, HB9.out⟩
set_option maxRecDepth 100000 in
set_option maxHeartbeats 6400000 in
theorem do_adv3_yes (J : JAt w0 (GS s Bs) w a now f P) (h : RowL w base s L) (R : ROK f L) (hbl : ∀ b, Bs b → w0.heap.size ≤ b ∧ b < w.heap.size) {tt : Int} (htt : tt < never) (hle : now ≤ tt) (hv : (nowT now L).foldl min never = tt) (t : Int) (x y : Int) (hP : P < 9223372036854775000) (hb0 : base ≤ w.heap.size) (hbs : w0.heap.size ≤ base) :
    Calls Tryz.prog 8 #[pt a, rdv now s, .agg #[.int .i64 3, .int .i64 x, .int .i64 y, .int .u64 t]] w (DoR w0 w Bs P) := by
  obtain ⟨va, vc, rfl⟩ := slice_form h
  have mixed : Tryz.prog.follows .mixedOrders = true := by kernel_rfl
  unfold rdv
  obtain ⟨W, hW⟩ : ∃ W, ((w.alloc (.cells #[.int .u64 now, .slice va L.length vc] 32)).alloc (.cells #[.int .i64 3, .int .i64 x, .int .i64 y, .int .u64 t] 39)).alloc (.cells #[.int .u64 0, .slice none 0 0] 32) = W := ⟨_, rfl⟩
  have al : ∀ (w : World) o, Below w.heap.size w (w.alloc o) := fun w o => (Below.refl _ _).alloc (Nat.le_refl _) _
  have hbW : Below w.heap.size w W := by rw [← hW]; exact (((Below.refl _ _).alloc (Nat.le_refl _) _).alloc (by simp) _).alloc (by simp; omega) _
  have hX : W.heap[w.heap.size]? = some (.cells #[.int .u64 now, .slice va L.length vc] 32 (0, 0)) := by rw [← hW]; exact ((al _ _).block _ (by simp; omega)).trans (((al _ _).block _ (by simp)).trans (block_new _ _ _ rfl))
  have hY : W.heap[w.heap.size + 1]? = some (.cells #[.int .i64 3, .int .i64 x, .int .i64 y, .int .u64 t] 39 (0, 0)) := by rw [← hW]; exact ((al _ _).block _ (by simp)).trans (block_new _ _ _ (by simp))
  have hZ : W.heap[w.heap.size + 1 + 1]? = some (.cells #[.int .u64 0, .slice none 0 0] 32 (0, 0)) := by rw [← hW]; exact block_new _ _ _ (by simp)
  obtain ⟨A, hA⟩ : ∃ A, w.heap.size = A := ⟨_, rfl⟩
  obtain ⟨B, hB⟩ : ∃ B, w.heap.size + 1 = B := ⟨_, rfl⟩
  obtain ⟨C, hC⟩ : ∃ C, w.heap.size + 1 + 1 = C := ⟨_, rfl⟩
  have HABC := Lib.hid (And.intro hA (And.intro hB hC))
  have HW := Lib.hid hW
  have HBW := Lib.hid hbW
  rw [hA] at hX
  rw [hB] at hY
  rw [hC] at hZ
  have hBA : A < B ∧ B < C := by omega
  -- the law's own blocks here: those of the caller, and the three boxes
  have HJW : Hid (JAt w0 (fun j => GS (.slice va L.length vc) Bs j ∨ (A ≤ j ∧ j ≤ C)) W a now f P) := Lib.hid (J.more hbW (fun j hj => by
    rcases hj with h | h
    · exact .inl h
    · exact .inr ⟨by omega, Nat.lt_of_le_of_lt h.2 (lt_of_block hZ)⟩))
  have HRW := Lib.hid (h.below hbW)
  have HX := Lib.hid hX
  have HY := Lib.hid hY
  have HZ := Lib.hid hZ
  have HOK := Lib.hid R
  have HN := Lib.hid J.nn
  have HJB := Lib.hid J.below.size
  have HBL := Lib.hid hbl
  have z0 := cells_cell (o := 0) hY rfl
  have z1 := cells_cell (o := 1) hY rfl
  have z2 := cells_cell (o := 2) hY rfl
  have z3 := cells_cell (o := 3) hY rfl
  have h0 := h
  clear h R J hW hbW hX hY hZ hA hB hC al hBA hbl
  have HBS := Lib.hid (And.intro hb0 hbs)
  have hrx := Lib.hid (rnext_any HRW.out HOK.out.len HN.out)
  rw [hv] at hrx
  have x0 := cells_cell (o := 0) HX.out rfl
  have x1 := cells_cell (o := 1) HX.out rfl
  unfold rdv at hrx
  unfold pt
  go_enter Tryz.func8, Tryz.ntmps8
  go_upto_region 1 with (fail)
  rw [HW.out, HABC.out.2.2, HABC.out.2.1, HABC.out.1]
  clear HW
  go_wp2_with (go_at_call 24; fail)
  refine hrx.out.mono ?_
  rintro e W2 ⟨rfl, hbn⟩
  have HJW := Lib.hid (HJW.out.grown hbn)
  have HRW := Lib.hid (HRW.out.below hbn)
  have HX := Lib.hid ((hbn.block _ (lt_of_block HX.out)).trans HX.out)
  have HY := Lib.hid ((hbn.block _ (lt_of_block HY.out)).trans HY.out)
  have HZ := Lib.hid ((hbn.block _ (lt_of_block HZ.out)).trans HZ.out)
  have HBW := Lib.hid (HBW.out.trans (hbn.mono HBW.out.size))
  clear hbn hrx z0 z1 z2 z3 x0 x1
  have z0 := cells_cell (o := 0) HY.out rfl
  have z1 := cells_cell (o := 1) HY.out rfl
  have z2 := cells_cell (o := 2) HY.out rfl
  have z3 := cells_cell (o := 3) HY.out rfl
  have HCL := Lib.hid (jAdv_yes HJW.out htt hle (by omega))
  unfold pt at HCL
  go_wp2_with (go_at_call 13; fail)
  refine HCL.out.mono ?_
  rintro e w5 ⟨gv, O5, rfl, hlap, hr5, J5, K5, hs5⟩
  have HLP := Lib.hid hlap
  have HV5 := Lib.hid hr5
  have HJ5 := Lib.hid J5
  have hAC : A ≤ C ∧ B ≤ C ∧ A ≤ B := by have := HABC.out; omega
  have hX5 := (K5 A (.inr ⟨Nat.le_refl _, by omega⟩)).trans HX.out
  have hZ5 := (K5 C (.inr ⟨by omega, Nat.le_refl _⟩)).trans HZ.out
  have hB5 : ∀ b, Bs b → w5.heap[b]? = w.heap[b]? := fun b hb => (K5 b (.inl (.inl hb))).trans (HBW.out.block b (HBL.out b hb).2)
  have hR5 : RowL w5 base (.slice va L.length vc) L := HRW.out.keepR (fun g hg => K5 g (.inl (.inr hg)))
  have HZ5 := Lib.hid hZ5
  have HB5 := Lib.hid hB5
  have HR5 := Lib.hid hR5
  have HRL : Hid (∀ g, (Value.slice va L.length vc).ownBlock = some g → g < w.heap.size) := Lib.hid (fun g hg => (h0.lt g hg).2)
  have HCW : Hid (C < w5.heap.size ∧ w.heap.size ≤ w5.heap.size ∧ w0.heap.size ≤ w5.heap.size) := Lib.hid ⟨lt_of_block hZ5, by have h1 := lt_of_block hX5; have h2 := HABC.out; omega, J5.below.size⟩
  have hrs := Lib.hid (radv_yes hR5 HOK.out.ndL HOK.out.len HN.out htt hle)
  unfold rdv at hrs
  clear z0 z1 z2 z3 J5 K5 HCL hlap hr5 hs5
  have x0 := cells_cell (o := 0) hX5 rfl
  have x1 := cells_cell (o := 1) hX5 rfl
  clear hX5 hZ5 hB5 hR5
  go_wp2_with (go_at_call 14; fail)
  refine hrs.out.mono ?_
  rintro e w6 ⟨v6, O6, rfl, hr66, hi6, hb6⟩
  have hO : O6 = O5 := (lap_of HOK.out hi6 htt).unique HLP.out
  subst hO
  obtain ⟨p5, c5, rfl⟩ := slice_form HV5.out
  obtain ⟨p6, c6, rfl⟩ := slice_form hr66
  obtain ⟨on, hon⟩ : ∃ on, O6.length = on := ⟨_, rfl⟩
  rw [hon] at HV5 HJ5 hr66 ⊢
  obtain ⟨pa, hpa⟩ : ∃ pa, va = pa := ⟨_, rfl⟩
  obtain ⟨pc, hpc⟩ : ∃ pc, vc = pc := ⟨_, rfl⟩
  obtain ⟨pn, hpn⟩ : ∃ pn, L.length = pn := ⟨_, rfl⟩
  have hr6 : RowL w6 base (.slice pa pn pc) L := by rw [← hpa, ← hpc, ← hpn]; exact HR5.out.below hb6
  have hrl : ∀ g, (Value.slice pa pn pc).ownBlock = some g → g < w.heap.size := by rw [← hpa, ← hpc, ← hpn]; exact HRL.out
  have hgb : ∀ g, GS (.slice pa pn pc) Bs g → GS (.slice va L.length vc) Bs g := fun g hg => by rw [hpa, hpc, hpn]; exact hg
  rw [hpa, hpc, hpn]
  obtain ⟨D, hD⟩ : ∃ D, w6.heap.size = D := ⟨_, rfl⟩
  obtain ⟨w7, hw7⟩ : ∃ w7, w6.alloc (.cells #[.int .u64 tt, .slice pa pn pc] 32) = w7 := ⟨_, rfl⟩
  have hb7 : Below w6.heap.size w6 w7 := by rw [← hw7]; exact (Below.refl _ _).alloc (Nat.le_refl _) _
  have HD7 : Hid (w7.heap[D]? = some (.cells #[.int .u64 tt, .slice pa pn pc] 32 (0, 0))) := Lib.hid (by rw [← hw7, ← hD]; exact block_new _ _ _ rfl)
  have hb57 := hb6.trans (hb7.mono hb6.size)
  have HZ7 := Lib.hid ((hb57.block _ (lt_of_block HZ5.out)).trans HZ5.out)
  have HB7 : Hid (∀ b, Bs b → w7.heap[b]? = w.heap[b]?) := Lib.hid (fun b hb => (hb57.block b (by have := HCW.out.2.1; have := (HBL.out b hb).2; omega)).trans (HB5.out b hb))
  have HR7 : Hid (RowL w7 w0.heap.size (.slice pa pn pc) L) := Lib.hid (ownsRow_mono (hr6.below hb7) HBS.out.2)
  have HK7 := HOK
  have HJ7 : Hid (JAt w0 (fun j => GS (.slice pa pn pc) Bs j ∨ j = C) w7 a tt f (P + 2)) := Lib.hid ((HJ5.out.more hb57 (fun j hj => by
    rcases hj with h | h
    · have h := hgb j h; exact .inl (.inl (.inl h))
    · subst h; exact .inl (.inl (.inr ⟨by omega, Nat.le_refl _⟩)))).mono (by omega))
  have HCD : Hid (C < D ∧ (∀ b, Bs b → b < C) ∧ w0.heap.size ≤ C) := Lib.hid (by
    have h1 := HCW.out.1; have h2 := hb6.size; have h4 := HABC.out.2.2; have h5 := HBS.out.1; have h6 := HBS.out.2
    exact ⟨by omega, fun b hb => by have := (HBL.out b hb).2; omega, by omega⟩)
  have HCR : Hid (∀ g, (Value.slice pa pn pc).ownBlock = some g → g ≠ C) := Lib.hid (fun g hg => by have := hrl g hg; have := HABC.out.2.2; omega)
  have hdr : Below w7.heap.size w7 w7.drew := (Below.refl _ _).drew
  have hsm := Lib.hid (jsame_any ((HV5.out.below hb57).below hdr) ((hr66.below hb7).below hdr) (by have := HLP.out.len; omega))
  have HW7 := Lib.hid (And.intro hw7 hD)
  clear hr6 hb6 hb7 hb57 hw7 hD hrs x0 x1 hpn HZ5 HB5 HJ5 HJW HRW HX HY HZ hpa hpc hrl hgb hdr hr66 hi6 hon
  go_upto_region 13 with (fail)
  rw [HW7.out.1, HW7.out.2]
  refine wp_region_mix (fun W' => Fr [C] w7 W') 12 [(true, 0), (true, 1), (true, 2), (true, 3), (false, 4), (true, 5), (true, 6), (true, 7), (true, 8), (true, 9), (false, 10), (false, 11)] mixed (by kernel_rfl) (fun _ _ _ d _ h => by cases d <;> exact h) ?_
  have hld : ∀ W', Fr [C] w7 W' → W'.cell? ⟨D, 0, none⟩ = some (.int .u64 tt) ∧ W'.cell? ⟨D, 1, none⟩ = some (.slice pa pn pc) := fun W' hb => by
    have e0 := hb.same HD7.out (by have := HCD.out.1; simp; omega)
    exact ⟨cells_cell e0 rfl, cells_cell e0 rfl⟩
  have HS1 : Hid (Fr [C] w7 w7.drew) := Lib.hid (fr_drewN w7 1 _)
  simp only [List.map_cons, List.map_nil, List.getD_cons_zero, List.getD_cons_succ, List.drop_succ_cons, List.drop_zero]
  refine mix_move (.tmp 0) (.pointer (some ⟨a, 0, none⟩)) rfl HS1.out rfl rfl ?_
  simp only [Act.put, List.setIfInBounds_toArray, List.set_cons_zero, List.set_cons_succ]
  refine mix_take (.agg #[.int .u64 tt, .slice pa pn pc]) HS1.out rfl (fun W' hS => by obtain ⟨l0, l1⟩ := hld W' hS; go_simp) ?_
  simp only [Act.put, List.setIfInBounds_toArray, List.set_cons_zero, List.set_cons_succ]
  refine mix_move (.tmp 15) (.slice p5 on c5) rfl HS1.out rfl rfl ?_
  simp only [Act.put, List.setIfInBounds_toArray, List.set_cons_zero, List.set_cons_succ]
  refine mix_move (.tmp 18) (.slice p6 on c6) rfl HS1.out rfl rfl ?_
  simp only [Act.put, List.setIfInBounds_toArray, List.set_cons_zero, List.set_cons_succ]
  refine mix_step rfl (fun K hK => ?_)
  go_simp
  go_wp2_with (go_at_call 15; fail)
  refine hsm.out.mono ?_
  rintro e w' ⟨rfl, n, rfl⟩
  have HS1 : Hid (Fr [C] w7 (w7.drew.drewN n)) := Lib.hid (HS1.out.trans' (fr_drewN _ n _))
  refine hK _ _ HS1.out ?_
  clear hK K hsm
  refine mix_move (.tmp 84) (.bool true) rfl HS1.out rfl rfl ?_
  simp only [Act.put, List.setIfInBounds_toArray, List.set_cons_zero, List.set_cons_succ]
  refine mix_move (.tmp 16) (.int .i64 0) rfl HS1.out rfl rfl ?_
  simp only [Act.put, List.setIfInBounds_toArray, List.set_cons_zero, List.set_cons_succ]
  refine mix_move (.tmp 19) (.int .i64 0) rfl HS1.out rfl rfl ?_
  simp only [Act.put, List.setIfInBounds_toArray, List.set_cons_zero, List.set_cons_succ]
  refine mix_take (.bool true) HS1.out rfl (fun W' hS => by obtain ⟨l0, l1⟩ := hld W' hS; go_simp) ?_
  simp only [Act.put, List.setIfInBounds_toArray, List.set_cons_zero, List.set_cons_succ]
  refine mix_take (.bool true) HS1.out rfl (fun W' hS => by obtain ⟨l0, l1⟩ := hld W' hS; go_simp) ?_
  simp only [Act.put, List.setIfInBounds_toArray, List.set_cons_zero, List.set_cons_succ]
  refine mix_by (.pointer (some ⟨a, 0, none⟩)) rfl (by go_simp) HS1.out ?_
  simp only [Act.put, List.setIfInBounds_toArray, List.set_cons_zero, List.set_cons_succ]
  have hDb : Below w7.heap.size w7 (w7.drew.drewN n) := (Below.refl _ _).drew.trans ((fr_drewN _ n []).below (fun _ hx => by simp at hx) (Nat.le_refl _))
  have c2 := (hDb.block _ (lt_of_block HZ7.out)).trans HZ7.out
  have HJ8 := Lib.hid (HJ7.out.grown hDb)
  have HR8 := Lib.hid (HR7.out.below hDb)
  have HB8 : Hid (∀ b, Bs b → (w7.drew.drewN n).heap[b]? = w.heap[b]?) := Lib.hid (fun b hb => (hDb.block b (by have h1 := lt_of_block HZ7.out; have := HCD.out.2.1 b hb; omega)).trans (HB7.out b hb))
  clear hDb hld
  generalize (w7.drew.drewN n) = V6 at *
  have y0 := cells_cell (o := 0) c2 rfl
  have y1 : V6.cell? ⟨C, 1, none⟩ = some (.slice none 0 0) := cells_cell c2 rfl
  have z0 := cells_free c2 0
  have z1 := cells_free c2 1
  have hxl := lt_of_block c2
  have HCL2 := Lib.hid hxl
  have hf := (fr_setCell V6 ⟨C, 0, none⟩ (.int .u64 tt)).trans' (fr_setCell _ ⟨C, 1, none⟩ (.slice pa pn pc))
  have HC9 := Lib.hid (set2 c2 (.int .u64 tt) (.slice pa pn pc))
  have HJ9 := Lib.hid (((HJ8.out.write hf (fun g hg => by simp at hg; exact ⟨.inr hg, by have := HCD.out.2.2; omega⟩)).less (G' := GS (.slice pa pn pc) Bs) (fun g hg => .inl hg)).mono (Q := P + 2) (by omega))
  have HR9 := Lib.hid (RowL.fr HR8.out hf (fun g hg hm => by have := HCR.out g hg; simp at hm; exact this hm))
  have HB9 : Hid (∀ b, Bs b → ((V6.setCell ⟨C, 0, none⟩ (.int .u64 tt)).setCell ⟨C, 1, none⟩ (.slice pa pn pc)).heap[b]? = w.heap[b]?) := Lib.hid (fun b hb => (hf.block b (by have := HCD.out.2.1 b hb; have := HCL2.out; omega) (by have := HCD.out.2.1 b hb; simp; omega)).trans (HB8.out b hb))
  have HS2 := Lib.hid (HS1.out.trans' hf)
  clear hf c2 HS1 HJ8 HR8 HB8
  refine mix_step rfl (fun K hK => ?_)
  go_simp
  refine hK _ _ HS2.out ?_
  clear hK K
  refine mix_nil ?_
  clear y0 y1 z0 z1 hxl
  go_wp2_with fail
  have hy2 := HC9.out
  refine bodyPost_ret (v := .tuple #[.pointer (some ⟨a, 0, none⟩), .agg #[.int .u64 tt, .slice pa pn pc], .bool true]) (by simp [results, Tryz.results8, go_sem, cells_cell (o := 0) hy2 rfl, cells_cell (o := 1) hy2 rfl]) rfl ?_
  exact ⟨a, tt, _, f, _, rfl, HJ9.out, HR9.out, HK7.out, HB9.out⟩
set_option maxRecDepth 100000 in
set_option maxHeartbeats 6400000 in
theorem do_copy (J : JAt w0 (GS s Bs) w a now f P) (h : RowL w base s L) (R : ROK f L) (hbl : ∀ b, Bs b → w0.heap.size ≤ b ∧ b < w.heap.size) {what : Int} (e0 : (what == 0) = false) (e1 : (what == 1) = false) (e2 : (what == 2) = false) (e3 : (what == 3) = false) (x y t : Int) (hT : Tab w0) (hP : P < 9223372036854775000) (hb0 : base ≤ w.heap.size) (hbs : w0.heap.size ≤ base) :
    Calls Tryz.prog 8 #[pt a, rdv now s, .agg #[.int .i64 what, .int .i64 x, .int .i64 y, .int .u64 t]] w (DoR w0 w Bs P) := by
  obtain ⟨va, vc, rfl⟩ := slice_form h
  have mixed : Tryz.prog.follows .mixedOrders = true := by kernel_rfl
  unfold rdv
  obtain ⟨W, hW⟩ : ∃ W, ((w.alloc (.cells #[.int .u64 now, .slice va L.length vc] 32)).alloc (.cells #[.int .i64 what, .int .i64 x, .int .i64 y, .int .u64 t] 39)).alloc (.cells #[.int .u64 0, .slice none 0 0] 32) = W := ⟨_, rfl⟩
  have al : ∀ (w : World) o, Below w.heap.size w (w.alloc o) := fun w o => (Below.refl _ _).alloc (Nat.le_refl _) _
  have hbW : Below w.heap.size w W := by rw [← hW]; exact (((Below.refl _ _).alloc (Nat.le_refl _) _).alloc (by simp) _).alloc (by simp; omega) _
  have hX : W.heap[w.heap.size]? = some (.cells #[.int .u64 now, .slice va L.length vc] 32 (0, 0)) := by rw [← hW]; exact ((al _ _).block _ (by simp; omega)).trans (((al _ _).block _ (by simp)).trans (block_new _ _ _ rfl))
  have hY : W.heap[w.heap.size + 1]? = some (.cells #[.int .i64 what, .int .i64 x, .int .i64 y, .int .u64 t] 39 (0, 0)) := by rw [← hW]; exact ((al _ _).block _ (by simp)).trans (block_new _ _ _ (by simp))
  have hZ : W.heap[w.heap.size + 1 + 1]? = some (.cells #[.int .u64 0, .slice none 0 0] 32 (0, 0)) := by rw [← hW]; exact block_new _ _ _ (by simp)
  obtain ⟨A, hA⟩ : ∃ A, w.heap.size = A := ⟨_, rfl⟩
  obtain ⟨B, hB⟩ : ∃ B, w.heap.size + 1 = B := ⟨_, rfl⟩
  obtain ⟨C, hC⟩ : ∃ C, w.heap.size + 1 + 1 = C := ⟨_, rfl⟩
  have HABC := Lib.hid (And.intro hA (And.intro hB hC))
  have HW := Lib.hid hW
  have HBW := Lib.hid hbW
  rw [hA] at hX
  rw [hB] at hY
  rw [hC] at hZ
  have hBA : A < B ∧ B < C := by omega
  -- the law's own blocks here: those of the caller, and the three boxes
  have HJW : Hid (JAt w0 (fun j => GS (.slice va L.length vc) Bs j ∨ (A ≤ j ∧ j ≤ C)) W a now f P) := Lib.hid (J.more hbW (fun j hj => by
    rcases hj with h | h
    · exact .inl h
    · exact .inr ⟨by omega, Nat.lt_of_le_of_lt h.2 (lt_of_block hZ)⟩))
  have HRW := Lib.hid (h.below hbW)
  have HX := Lib.hid hX
  have HY := Lib.hid hY
  have HZ := Lib.hid hZ
  have HOK := Lib.hid R
  have HN := Lib.hid J.nn
  have HJB := Lib.hid J.below.size
  have HBL := Lib.hid hbl
  have z0 := cells_cell (o := 0) hY rfl
  have z1 := cells_cell (o := 1) hY rfl
  have z2 := cells_cell (o := 2) hY rfl
  have z3 := cells_cell (o := 3) hY rfl
  have h0 := h
  clear h R J hW hbW hX hY hZ hA hB hC al hBA hbl
  have HCL := Lib.hid (jCopy_yes HJW.out)
  have HBS := Lib.hid (And.intro hb0 hbs)
  unfold pt
  go_enter Tryz.func8, Tryz.ntmps8
  go_upto_region 1 with (fail)
  rw [HW.out, HABC.out.2.2, HABC.out.2.1, HABC.out.1]
  clear HW
  unfold pt at HCL
  go_wp2_with (go_at_call 26; fail)
  refine HCL.out.mono ?_
  rintro e w5 ⟨c, rfl, C5, hb5⟩
  obtain ⟨G', T5, hGG, hct⟩ := copy_old HJW.out hb5 C5
  have HT5 := Lib.hid T5
  have HGG := Lib.hid hGG
  have HCT := Lib.hid hct
  have HX5 := Lib.hid ((hb5.block A (lt_of_block HX.out)).trans HX.out)
  have hY5 := (hb5.block B (lt_of_block HY.out)).trans HY.out
  have HZ5 := Lib.hid ((hb5.block C (lt_of_block HZ.out)).trans HZ.out)
  have HB5 : Hid (∀ b, Bs b → w5.heap[b]? = w.heap[b]?) := Lib.hid (fun b hb => (hb5.block b (Nat.lt_of_lt_of_le (HBL.out b hb).2 HBW.out.size)).trans (HBW.out.block b (HBL.out b hb).2))
  have HR5 := Lib.hid (HRW.out.below hb5)
  have HRL : Hid (∀ g, (Value.slice va L.length vc).ownBlock = some g → g < w.heap.size) := Lib.hid (fun g hg => (h0.lt g hg).2)
  have hst := Lib.hid (jSet_old HT5.out x y hT (by omega))
  clear z0 z1 z2 z3 HCL C5 hb5 T5 hGG hct e0 e1 e2 e3
  have z0 := cells_cell (o := 0) hY5 rfl
  have z1 := cells_cell (o := 1) hY5 rfl
  have z2 := cells_cell (o := 2) hY5 rfl
  have z3 := cells_cell (o := 3) hY5 rfl
  have hyl := lt_of_block hY5
  clear hY5
  unfold pt at hst
  go_wp2_with (go_at_call 11; fail)
  refine hst.out.mono ?_
  rintro e w6 ⟨o1, o2, f6, rfl, J6, K6⟩
  have hnv : now ≤ 18446744073709551614 := by have := HN.out; unfold never at this; omega
  have had := Lib.hid (jAdv_yes J6 (tt := 18446744073709551614) (by unfold never; omega) hnv (by omega))
  have HK6 := Lib.hid K6
  clear z0 z1 z2 z3 hyl hst J6 K6 hnv
  unfold pt at had
  go_wp2_with (go_at_call 13; fail)
  refine had.out.mono ?_
  rintro e w7 ⟨v7, O7, rfl, -, -, J7, K7, hs7⟩
  have hK := HK6.out.trans K7
  have HJc := Lib.hid (HCT.out w7 J7.below (fun k hk => J7.glt k (.inl hk)) hK)
  have HD7 : Hid (w7.heap[A]? = some (.cells #[.int .u64 now, .slice va L.length vc] 32 (0, 0))) := Lib.hid ((hK A (HGG.out A (.inr ⟨Nat.le_refl _, by have := HABC.out; omega⟩))).trans HX5.out)
  have HZ7 := Lib.hid ((hK C (HGG.out C (.inr ⟨by have := HABC.out; omega, Nat.le_refl _⟩))).trans HZ5.out)
  have HB7 : Hid (∀ b, Bs b → w7.heap[b]? = w.heap[b]?) := Lib.hid (fun b hb => (hK b (HGG.out b (.inl (.inl hb)))).trans (HB5.out b hb))
  have hr7 : RowL w7 base (.slice va L.length vc) L := HR5.out.keepR (fun g hg => hK g (HGG.out g (.inl (.inr hg))))
  have HR7 : Hid (RowL w7 w0.heap.size (.slice va L.length vc) L) := Lib.hid (ownsRow_mono hr7 HBS.out.2)
  have HK7 := HOK
  have HJ7 : Hid (JAt w0 (fun j => GS (.slice va L.length vc) Bs j ∨ j = C) w7 c now f (P + 2)) := Lib.hid ((HJc.out.less (fun j hj => by
    rcases hj with h | h
    · exact .inl h
    · subst h; exact .inr ⟨by have := HABC.out; omega, Nat.le_refl _⟩)).mono (by omega))
  have HCD : Hid (A < C ∧ (∀ b, Bs b → b < C) ∧ w0.heap.size ≤ C) := Lib.hid (by
    have h4 := HABC.out; have h5 := HBS.out.1; have h6 := HBS.out.2
    exact ⟨by omega, fun b hb => by have := (HBL.out b hb).2; omega, by omega⟩)
  have HCR : Hid (∀ g, (Value.slice va L.length vc).ownBlock = some g → g ≠ C) := Lib.hid (fun g hg => by have := HRL.out g hg; have := HABC.out; omega)
  clear hK J7 K7 hs7 hr7 had HK6 HJc HX5 HZ5 HB5 HR5 HX HY HZ HRL HT5 HGG HCT HJW HRW
  go_upto_region 23 with (fail)
  refine wp_region_mix (fun W' => Fr [C] w7 W') 4 [(true, 0), (true, 1), (false, 2), (false, 3)] mixed (by kernel_rfl) (fun _ _ _ d _ h => by cases d <;> exact h) ?_
  have hld : ∀ W', Fr [C] w7 W' → W'.cell? ⟨A, 0, none⟩ = some (.int .u64 now) ∧ W'.cell? ⟨A, 1, none⟩ = some (.slice va L.length vc) := fun W' hb => by
    have e0 := hb.same HD7.out (by have := HCD.out.1; simp; omega)
    exact ⟨cells_cell e0 rfl, cells_cell e0 rfl⟩
  have HS1 : Hid (Fr [C] w7 w7.drew) := Lib.hid (fr_drewN w7 1 _)
  simp only [List.map_cons, List.map_nil, List.getD_cons_zero, List.getD_cons_succ, List.drop_succ_cons, List.drop_zero]
  refine mix_move (.tmp 23) (.pointer (some ⟨c, 0, none⟩)) rfl HS1.out rfl rfl ?_
  simp only [Act.put, List.setIfInBounds_toArray, List.set_cons_zero, List.set_cons_succ]
  refine mix_take (.agg #[.int .u64 now, .slice va L.length vc]) HS1.out rfl (fun W' hS => by obtain ⟨l0, l1⟩ := hld W' hS; go_simp) ?_
  simp only [Act.put, List.setIfInBounds_toArray, List.set_cons_zero, List.set_cons_succ]
  refine mix_by (.pointer (some ⟨c, 0, none⟩)) rfl (by go_simp) HS1.out ?_
  simp only [Act.put, List.setIfInBounds_toArray, List.set_cons_zero, List.set_cons_succ]
  have hDb : Below w7.heap.size w7 w7.drew := (Below.refl _ _).drew
  have c2 := (hDb.block _ (lt_of_block HZ7.out)).trans HZ7.out
  have HJ8 := Lib.hid (HJ7.out.grown hDb)
  have HR8 := Lib.hid (HR7.out.below hDb)
  have HB8 : Hid (∀ b, Bs b → w7.drew.heap[b]? = w.heap[b]?) := Lib.hid (fun b hb => (hDb.block b (by have h1 := lt_of_block HZ7.out; have := HCD.out.2.1 b hb; omega)).trans (HB7.out b hb))
  clear hDb hld
  generalize w7.drew = V6 at *
  have y0 := cells_cell (o := 0) c2 rfl
  have y1 : V6.cell? ⟨C, 1, none⟩ = some (.slice none 0 0) := cells_cell c2 rfl
  have z0 := cells_free c2 0
  have z1 := cells_free c2 1
  have hxl := lt_of_block c2
  have HCL2 := Lib.hid hxl
  have hf := (fr_setCell V6 ⟨C, 0, none⟩ (.int .u64 now)).trans' (fr_setCell _ ⟨C, 1, none⟩ (.slice va L.length vc))
  have HC9 := Lib.hid (set2 c2 (.int .u64 now) (.slice va L.length vc))
  have HJ9 := Lib.hid (((HJ8.out.write hf (fun g hg => by simp at hg; exact ⟨.inr hg, by have := HCD.out.2.2; omega⟩)).less (G' := GS (.slice va L.length vc) Bs) (fun g hg => .inl hg)).mono (Q := P + 2) (by omega))
  have HR9 := Lib.hid (RowL.fr HR8.out hf (fun g hg hm => by have := HCR.out g hg; simp at hm; exact this hm))
  have HB9 : Hid (∀ b, Bs b → ((V6.setCell ⟨C, 0, none⟩ (.int .u64 now)).setCell ⟨C, 1, none⟩ (.slice va L.length vc)).heap[b]? = w.heap[b]?) := Lib.hid (fun b hb => (hf.block b (by have := HCD.out.2.1 b hb; have := HCL2.out; omega) (by have := HCD.out.2.1 b hb; simp; omega)).trans (HB8.out b hb))
  have HS2 := Lib.hid (HS1.out.trans' hf)
  clear hf c2 HS1 HJ8 HR8 HB8
  refine mix_step rfl (fun K hK => ?_)
  go_simp
  refine hK _ _ HS2.out ?_
  clear hK K
  refine mix_nil ?_
  clear y0 y1 z0 z1 hxl
  go_wp2_with fail
  have hy2 := HC9.out
  refine bodyPost_ret (v := .tuple #[.pointer (some ⟨c, 0, none⟩), .agg #[.int .u64 now, .slice va L.length vc], .bool true]) (by simp [results, Tryz.results8, go_sem, cells_cell (o := 0) hy2 rfl, cells_cell (o := 1) hy2 rfl]) rfl ?_
  exact ⟨c, now, _, f, _, rfl, HJ9.out, HR9.out, HK7.out, HB9.out⟩
end
end Go.Proofs.YtgkodleblkjhcaaGreatDoor
/- The walk of DeadlinePlays. -/
namespace Go.Proofs.YtgkodleblkjhcaaGreatDoor
open Go.RowKit Go.Sort
set_option linter.unusedVariables false
set_option linter.unusedSimpArgs false

/-- do: any call for both. -/
theorem do_any {w0 w : World} {a P base : Nat} {Bs : Nat → Prop} {s : Value} {L : List (Int × Nat)} {f : Nat → Int} {now : Int} (J : JAt w0 (GS s Bs) w a now f P) (h : RowL w base s L) (R : ROK f L) (hbl : ∀ b, Bs b → w0.heap.size ≤ b ∧ b < w.heap.size) (what x y : Int) {t : Int} (ht : t ≤ never) (hT : Tab w0) (hP : P < 9223372036854775000) (hb0 : base ≤ w.heap.size) (hbs : w0.heap.size ≤ base) :
    Calls Tryz.prog 8 #[pt a, rdv now s, .agg #[.int .i64 what, .int .i64 x, .int .i64 y, .int .u64 t]] w (DoR w0 w Bs P) := by
  by_cases c0 : what = 0
  · subst c0
    by_cases ho : okS x y = true
    · obtain ⟨q, r, hq, hr, rfl, rfl⟩ := okS_yes ho
      exact do_set_yes J h R hbl hq hr t ht hT hP hb0 hbs
    · exact do_set_no J h R hbl (by simpa using ho) t hT hP hb0 hbs
  by_cases c1 : what = 1
  · subst c1
    by_cases hn : t = never
    · subst hn
      exact do_adv1_never J h R hbl x y hP hb0 hbs
    · by_cases hl : t < now
      · exact do_adv1_early J h R hbl hn hl x y hP hb0 hbs
      · exact do_adv1_yes J h R hbl (by omega) (by omega) x y hP hb0 hbs
  by_cases c2 : what = 2
  · subst c2
    by_cases ho : okS x 0 = true
    · obtain ⟨q, r, hq, hr, rfl, -⟩ := okS_yes ho
      exact do_clear_yes J h R hbl hq y t hT hP hb0 hbs
    · exact do_clear_no J h R hbl (by simpa using ho) y t hT hP hb0 hbs
  by_cases c3 : what = 3
  · subst c3
    have hx := next_of (now := now) R J.le
    by_cases hn : (nowT now L).foldl min never = never
    · exact do_adv3_never J h R hbl hn t x y hP hb0 hbs
    · obtain ⟨v, hv⟩ : ∃ v, (nowT now L).foldl min never = v := ⟨_, rfl⟩
      rw [hv] at hn hx
      have h12 : now < v ∧ v < never := by
        rcases hx with ⟨h, _⟩ | ⟨p, _, _, h1, h2, _⟩
        · exact absurd h hn
        · exact ⟨h1, h2⟩
      exact do_adv3_yes J h R hbl (tt := v) h12.2 (by omega) hv t x y hP hb0 hbs
  exact do_copy J h R hbl (by simpa using c0) (by simpa using c1) (by simpa using c2) (by simpa using c3) x y t hT hP hb0 hbs

theorem RowL.ne {w : World} {base : Nat} {s : Value} {L : List (Int × Nat)} (h : RowL w base s L) {b : Nat} {x : Array Value} (hb : w.heap[b]? = some (.cells x 32 (0, 0))) : ∀ g, s.ownBlock = some g → g ≠ b := by
  intro k hk e
  subst e
  rcases h.2 with ⟨rfl, _⟩ | ⟨g, cap, cur, rfl, _, hg, r⟩
  · simp [Value.ownBlock] at hk
  · have : g = k := by simpa [Value.ownBlock] using hk
    subst this
    exact BodAt.ne_types hg hb (by decide) rfl

/-- Both side by side, the reference's in the box b. -/
structure PlSt (w wr : World) (a b : Nat) (now : Int) (s : Value) (f : Nat → Int) (L : List (Int × Nat)) (k : Nat) : Prop where
  J : JAt w (GS s (fun j => j = b)) wr a now f (2 * k)
  box : wr.heap[b]? = some (.cells #[.int .u64 now, s] 32 (0, 0))
  row : RowL wr w.heap.size s L
  ok : ROK f L
  hb : w.heap.size ≤ b

set_option maxRecDepth 1000000 in
set_option maxHeartbeats 1600000 in
theorem plays_long {now : Int} {sa : Option Addr} {len cap : Nat} {w : World} (hT : Tab w) (hl : 80 < len) :
    Calls Tryz.prog 3 #[.int .u64 now, .slice sa len cap] w fun e w' => e = .returned (.bool true) ∧ Below w.heap.size w w' := by
  have hk := Lib.hid (jknown_any w hT)
  have hli : (80 : Int) < (len : Int) := by omega
  clear hl
  go_enter Tryz.func3, Tryz.ntmps3
  go_wp2_with (go_at_call 5; refine hk.out.mono ?_; rintro e w1 ⟨rfl, hb⟩)
  go_ret
  exact ⟨rfl, hb⟩

set_option maxRecDepth 1000000 in
set_option maxHeartbeats 3200000 in
theorem plays_never {sa : Option Addr} {len cap : Nat} {w : World} (hT : Tab w) (hl : len ≤ 80) :
    Calls Tryz.prog 3 #[.int .u64 never, .slice sa len cap] w fun e w' => e = .returned (.bool true) ∧ Below w.heap.size w w' := by
  have hli : decide ((80 : Int) < (len : Int)) = false := by simp; omega
  have hnew := Lib.hid (jNew_never w)
  have HT := Lib.hid hT
  obtain ⟨nv, hnv⟩ : ∃ nv, never = nv := ⟨_, rfl⟩
  have hrn := Lib.hid (fun w => rnew_no w)
  rw [hnv] at hnew ⊢
  simp only [hnv] at hrn
  clear hl hT hnv
  unfold rdv at hrn
  go_enter Tryz.func3, Tryz.ntmps3
  go_wp2_with (go_at_call 6; fail)
  refine hnew.out.mono ?_
  rintro e w1 ⟨rfl, hg⟩
  have HG := Lib.hid hg.below
  clear hg hnew
  go_wp2_with (go_at_call 7; fail)
  refine (hrn.out w1).mono ?_
  rintro e w2 ⟨rfl, hb2⟩
  have HB2 := Lib.hid (HG.out.trans (hb2.mono HG.out.size))
  have HB3 := Lib.hid (HB2.out.trans (((Below.refl w2.heap.size w2).alloc (Nat.le_refl _) (.cells #[.int .u64 0, .slice none 0 0] 32)).mono HB2.out.size))
  clear hb2 hrn
  go_wp2_with (go_at_call 5; fail)
  refine (jknown_any _ (HT.out.below HB3.out HT.out.lt)).mono ?_
  rintro e w4 ⟨rfl, hb⟩
  go_wp2_with fail
  go_ret
  exact ⟨rfl, HB3.out.trans (hb.mono HB3.out.size)⟩

set_option maxRecDepth 1000000 in
set_option maxHeartbeats 12800000 in
theorem plays_main {now : Int} {sa : Option Addr} {len cap : Nat} {w : World} (hlen : len ≤ 80) (hn : now < never) (hrow : IsActs10 w sa len cap) (hT : Tab w) :
    Calls Tryz.prog 3 #[.int .u64 now, .slice sa len cap] w fun e w' => e = .returned (.bool true) ∧ Below w.heap.size w w' := by
  have hnew := Lib.hid (jNew_yes w w (fun _ => False) (fun _ h => h.elim) (Below.refl _ _) now hn)
  have hli : decide ((80 : Int) < (len : Int)) = false := by simp; omega
  have HN := Lib.hid hn
  have HLEN := Lib.hid hlen
  have HTA := Lib.hid hT
  clear hn hT hlen
  go_enter Tryz.func3, Tryz.ntmps3
  go_wp2_with (go_at_call 6; fail)
  refine hnew.out.mono ?_
  rintro e w1 ⟨a, rfl, J1, b1⟩
  have HJ1 := Lib.hid J1
  have hrn := Lib.hid (rnew_yes w1 now (by have := HN.out; omega))
  unfold rdv at hrn
  clear J1 b1 hnew
  unfold pt
  go_wp2_with (go_at_call 7; fail)
  refine hrn.out.mono ?_
  rintro e w2 ⟨rfl, hb2⟩
  obtain ⟨b, hbn⟩ : ∃ b, w2.heap.size = b := ⟨_, rfl⟩
  obtain ⟨w3, hw3⟩ : ∃ w3, w2.alloc (.cells #[.int .u64 now, .slice none 0 0] 32) = w3 := ⟨_, rfl⟩
  have hb3 : Below w2.heap.size w2 w3 := by rw [← hw3]; exact (Below.refl _ _).alloc (Nat.le_refl _) _
  have hbx : w3.heap[b]? = some (.cells #[.int .u64 now, .slice none 0 0] 32 (0, 0)) := by rw [← hw3, ← hbn]; exact block_new _ _ _ rfl
  have HST : Hid (PlSt w w3 a b now (.slice none 0 0) (fun _ => never) [] 0) := Lib.hid ⟨HJ1.out.more (hb2.trans (hb3.mono hb2.size)) (fun k hk => by
      rcases hk with hk | hk
      · subst hk; exact .inr ⟨by rw [← hbn]; exact hb2.size, lt_of_block hbx⟩
      · simp [Value.ownBlock] at hk), hbx, World.ownsRow_nil _ _ _ _, ROK.init, by rw [← hbn]; exact Nat.le_trans HJ1.out.below.size hb2.size⟩
  have HW3 := Lib.hid (And.intro hw3 hbn)
  clear hb2 hb3 hbx hw3 hbn HJ1 hrn
  go_upto_region 5 with (fail)
  rw [HW3.out.1, HW3.out.2]
  clear HW3
  go_wp2_with fail
  go_loopw [5, 41] (fun tv i wr => ∃ (k a : Nat) (nw : Int) (s : Value) (f : Nat → Int) (L : List (Int × Nat)), k ≤ len ∧ tv = .pointer (some ⟨a, 0, none⟩) ∧ i = .int .i64 ((k : Nat) : Int) ∧ Hid (PlSt w wr a b nw s f L k)) (fun _ i _ => len - (intOf i).toNat)
  case atStart => exact ⟨0, a, now, _, _, [], Nat.zero_le _, rfl, rfl, HST⟩
  case round =>
    clear HST
    obtain ⟨k, a, nw, s, f, L, hk, rfl, rfl, HS⟩ := hrel
    by_cases hlt : k < len
    · rcases hrow with h | ⟨ab, off, rfl, _, hbl, hcs⟩
      · omega
      obtain ⟨what, x, y, t, d0, d1, d2, d3, _, _, _, wt⟩ := hcs k hlt
      have hbe := HS.out.J.below
      have c0 := (hbe.cell (p := ⟨ab, off + k * 4, none⟩) hbl).trans d0
      have c1 := (hbe.cell (p := ⟨ab, off + k * 4 + 1, none⟩) hbl).trans d1
      have c2 := (hbe.cell (p := ⟨ab, off + k * 4 + 2, none⟩) hbl).trans d2
      have c3 := (hbe.cell (p := ⟨ab, off + k * 4 + 3, none⟩) hbl).trans d3
      have HT := Lib.hid (bounds_u64 wt)
      have hki : (k : Int) < (len : Int) := by omega
      have HL := Lib.hid hlt
      obtain ⟨va, vc, rfl⟩ := slice_form HS.out.row
      obtain ⟨E, hE⟩ : ∃ E, wr.heap.size = E := ⟨_, rfl⟩
      obtain ⟨w4, hW4⟩ : ∃ w4, wr.alloc (.cells #[.int .i64 what, .int .i64 x, .int .i64 y, .int .u64 t] 39) = w4 := ⟨_, rfl⟩
      have hb4 : Below wr.heap.size wr w4 := by rw [← hW4]; exact (Below.refl _ _).alloc (Nat.le_refl _) _
      have hA4 : w4.heap[E]? = some (.cells #[.int .i64 what, .int .i64 x, .int .i64 y, .int .u64 t] 39 (0, 0)) := by rw [← hW4, ← hE]; exact block_new _ _ _ rfl
      have hX4 := (hb4.block b (lt_of_block HS.out.box)).trans HS.out.box
      have hJ4 : JAt w (GS (.slice va L.length vc) (fun j => j = b ∨ j = E)) w4 a nw f (2 * k) := HS.out.J.more hb4 (fun g hg => by
        rcases hg with (hg | hg) | hg
        · exact .inl (.inl hg)
        · subst hg; exact .inr ⟨by omega, lt_of_block hA4⟩
        · exact .inl (.inr hg))
      have hwb : w.heap.size ≤ wr.heap.size := HS.out.J.below.size
      have HDO := Lib.hid (do_any hJ4 (HS.out.row.below hb4) HS.out.ok (fun j hj => by
        rcases hj with hj | hj
        · subst hj; exact ⟨HS.out.hb, lt_of_block hX4⟩
        · subst hj; exact ⟨by omega, lt_of_block hA4⟩) what x y (t := t) (by have := HT.out.2; unfold never; omega) HTA.out (by have := HLEN.out; omega) (Nat.le_trans hwb hb4.size) (Nat.le_refl _))
      have HBE : Hid (w.heap.size ≤ b ∧ w.heap.size ≤ E ∧ b < E) := Lib.hid ⟨HS.out.hb, by omega, by rw [← hE]; exact lt_of_block HS.out.box⟩
      have HX4 := Lib.hid hX4
      have HA4 := Lib.hid hA4
      have HW4 := Lib.hid (And.intro hW4 hE)
      clear hcs d0 d1 d2 d3 wt hbe hb4 hW4 hlt hbl HS hJ4 hwb hE
      go_upto_region 13 with (fail)
      rw [HW4.out.1, HW4.out.2]
      clear c0 c1 c2 c3 HW4
      have z0 := cells_cell (o := 0) hA4 rfl
      have z1 := cells_cell (o := 1) hA4 rfl
      have z2 := cells_cell (o := 2) hA4 rfl
      have z3 := cells_cell (o := 3) hA4 rfl
      have x0 := cells_cell (o := 0) hX4 rfl
      have x1 := cells_cell (o := 1) hX4 rfl
      clear hA4 hX4
      unfold pt rdv at HDO
      go_wp2_with (go_at_call 8; fail)
      refine HDO.out.mono ?_
      rintro e w5 ⟨a', nw', s', f', L', rfl, J5, R5, O5, B5⟩
      obtain ⟨sa', sc', rfl⟩ := slice_form R5
      obtain ⟨n', hn'⟩ : ∃ n', L'.length = n' := ⟨_, rfl⟩
      rw [hn'] at J5 R5 ⊢
      have hX5 := (B5 b (.inl rfl)).trans HX4.out
      have hA5 := (B5 E (.inr rfl)).trans HA4.out
      have hff := (fr_setCell w5 ⟨b, 0, none⟩ (.int .u64 nw')).trans' (fr_setCell _ ⟨b, 1, none⟩ (.slice sa' n' sc'))
      obtain ⟨w6, hw6⟩ : ∃ w6, (w5.setCell ⟨b, 0, none⟩ (.int .u64 nw')).setCell ⟨b, 1, none⟩ (.slice sa' n' sc') = w6 := ⟨_, rfl⟩
      have hX6 := set2 hX5 (.int .u64 nw') (.slice sa' n' sc')
      rw [hw6] at hff hX6
      have HJ6 := Lib.hid (J5.write hff (fun g hg => by simp at hg; exact ⟨.inl (.inl hg), by rw [hg]; exact HBE.out.1⟩))
      have hne := R5.ne hX5
      have HR6 := Lib.hid (RowL.fr R5 hff (fun g hg hm => by simp at hm; exact hne g hg hm))
      have HX6 := Lib.hid hX6
      have HA6 := Lib.hid (hff.same hA5 (by have := HBE.out.2.2; simp; omega))
      have HOK := Lib.hid O5
      have HW6 := Lib.hid hw6
      clear z0 z1 z2 z3 x0 x1 J5 R5 O5 B5 hff hX6 hw6 hne HX4 HA4 HDO
      have z0 := cells_cell (o := 0) hA5 rfl
      have z1 := cells_cell (o := 1) hA5 rfl
      have z2 := cells_cell (o := 2) hA5 rfl
      have z3 := cells_cell (o := 3) hA5 rfl
      have x0 := cells_cell (o := 0) hX5 rfl
      have x1 := cells_cell (o := 1) hX5 rfl
      have f0 := cells_free hX5 0
      have f1 := cells_free hX5 1
      have xl := lt_of_block hX5
      clear hA5 hX5
      unfold pt rdv
      go_upto_region 14 with (fail)
      rw [HW6.out]
      clear z0 z1 z2 z3 x0 x1 f0 f1 xl HW6
      have z1 : w6.cell? ⟨E, 1, none⟩ = some (.int .i64 x) := cells_cell HA6.out rfl
      have z2 : w6.cell? ⟨E, 2, none⟩ = some (.int .i64 y) := cells_cell HA6.out rfl
      have x0 := cells_cell (o := 0) HX6.out rfl
      have x1 := cells_cell (o := 1) HX6.out rfl
      have el := lt_of_block HA6.out
      have hR6 := HR6.out
      rw [← hn'] at hR6
      have hlk := Lib.hid (looks_any HJ6.out hR6 HOK.out x y)
      rw [hn'] at hlk
      clear hR6
      unfold pt rdv at hlk
      go_wp2_with (go_at_call 9; fail)
      refine hlk.out.mono ?_
      rintro e w7 ⟨rfl, hb7⟩
      have HFIN : Hid (PlSt w w7 a' b nw' (.slice sa' n' sc') f' L' (k + 1)) := Lib.hid ⟨((HJ6.out.grown hb7).less (fun g hg => by
          rcases hg with h | h
          · exact .inl (.inl h)
          · exact .inr h)).mono (by omega), (hb7.block b (lt_of_block HX6.out)).trans HX6.out, HR6.out.below hb7, HOK.out, HBE.out.1⟩
      clear hlk hb7 HJ6 HR6 HX6 HA6 z1 z2 x0 x1 el
      go_wp2_with fail
      go_roundw
      case rel => exact ⟨k + 1, a', nw', _, f', L', by have := HL.out; omega, rfl, by go_num, HFIN⟩
      case measure => simp [intOf]; have := HL.out; omega
    · obtain rfl : k = len := by omega
      clear hrow
      go_wp2_with (go_at_call 5; fail)
      refine (jknown_any _ (HTA.out.below HS.out.J.below HTA.out.lt)).mono ?_
      rintro e w4 ⟨rfl, hb⟩
      go_wp2_with fail
      go_ret
      exact ⟨rfl, HS.out.J.below.trans (hb.mono HS.out.J.below.size)⟩

theorem deadlinePlays_walk (now : Int) (sa : Option Addr) (len cap : Nat) (w : World) (hn : (Lit.int .u64 now).wf = true) (hr : IsActs10 w sa len cap) (hT : Tab w) :
    Calls Tryz.prog 3 #[.int .u64 now, .slice sa len cap] w fun e w' => e = .returned (.bool true) ∧ Below w.heap.size w w' := by
  obtain ⟨hn0, hn1⟩ := bounds_u64 hn
  by_cases h : 80 < len
  · exact plays_long hT h
  · by_cases h4 : now = never
    · subst h4
      exact plays_never hT (by omega)
    · exact plays_main (by omega) (by unfold never at *; omega) hr hT
end Go.Proofs.YtgkodleblkjhcaaGreatDoor
