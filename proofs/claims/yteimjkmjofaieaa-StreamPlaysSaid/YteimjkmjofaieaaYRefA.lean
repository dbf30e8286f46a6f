/- The reference: its states in memory; Copy, open, AtEnd, How, Code. -/
import Derived.Test.YteimjkmjofaieaaYSame
namespace Go.Proofs.Yteimjkmjofaieaa
open Go.RowKit Go.Sort
set_option linter.unusedVariables false
set_option linter.unusedSimpArgs false
set_option maxRecDepth 100000

/-- A slice that has the bytes L, in a block that P allows. -/
def SrcP (P : Nat → Prop) (w : World) (v : Value) (L : List UInt8) : Prop := SrcV w v (L.map encB) ∧ (0 < L.length → ∀ a n c, v = .slice (some a) n c → P a.block)
section
variable {P : Nat → Prop} {w w' : World} {v : Value} {L : List UInt8}
theorem SrcP.fr {F : List Nat} (h : SrcP P w v L) (hf : Fr F w w') (hn : ∀ g, P g → g ∉ F) : SrcP P w' v L := by
  refine ⟨?_, h.2⟩
  rcases h.1 with h1 | ⟨ad, c, h1, h2, h3, h4, h5⟩
  · exact .inl h1
  · exact .inr ⟨ad, c, h1, h2, h3, fun j u hu => hf.cell (h4 j u hu) (by
      rw [show (ad.add j).block = ad.block by simp only [Addr.add]; split <;> rfl]
      refine hn _ (h.2 ?_ _ _ _ h1)
      rcases L with _ | ⟨x, L⟩
      · simp at hu
      · simp), h5⟩
theorem SrcP.grown (h : SrcP P w v L) (hb : Below w.heap.size w w') : SrcP P w' v L := ⟨h.1.grown hb, h.2⟩
theorem SrcP.weak {Q : Nat → Prop} (h : SrcP P w v L) (hq : ∀ g, P g → Q g) : SrcP Q w v L := ⟨h.1, fun h0 a n c e => hq _ (h.2 h0 a n c e)⟩
theorem SrcP.nil (P : Nat → Prop) (w : World) : SrcP P w (.slice none 0 0) [] := ⟨SrcV.nil w, fun _ a n c e => by cases e⟩
theorem RowB.srcP {b : Nat} (h : RowB w b v L) (hp : ∀ g, b ≤ g → P g) : SrcP P w v L := by
  refine ⟨RowV.src h, fun _ a n c e => ?_⟩
  rcases h.2 with ⟨h1, _⟩ | ⟨g, cap, cu, h1, hb, _⟩
  · rw [h1] at e; cases e
  · rw [h1] at e
    simp only [Value.slice.injEq, Option.some.injEq] at e
    rw [← e.1]
    exact hp g hb
theorem PieceG.srcP {g : Nat} (h : PieceG w v L g) (hp : P g) : SrcP P w v L := by
  refine ⟨h.src, fun _ a n c e => ?_⟩
  rcases h with ⟨h1, _⟩ | ⟨off, c', cur, h1, _⟩
  · rw [h1] at e; cases e
  · rw [h1] at e
    simp only [Value.slice.injEq, Option.some.injEq] at e
    rw [← e.1]
    exact hp
theorem SrcP.bound (h : SrcP P w v L) : SrcP (fun g => P g ∧ g < w.heap.size) w v L := by
  refine ⟨h.1, fun h0 a n c e => ⟨h.2 h0 a n c e, ?_⟩⟩
  rcases h.1 with h1 | ⟨ad, c', h1, h2, h3, h4, h5⟩
  · simp at h1; rw [h1.2] at h0; exact absurd h0 (by simp)
  · rw [h1] at e
    simp only [Value.slice.injEq, Option.some.injEq] at e
    rw [← e.1]
    rcases L with _ | ⟨x, L⟩
    · simp at h0
    · have := h4 0 (encB x) (by simp)
      have := World.block_lt_of_cell? w _ this
      rwa [show (ad.add 0).block = ad.block by simp only [Addr.add]; split <;> rfl] at this
/-- A state as a value, its bytes in blocks that P allows. -/
def SvP (P : Nat → Prop) (w : World) (v : Value) (r : Rw) : Prop := ∃ vS vR, v = r.val vS vR ∧ SrcP P w vS r.S ∧ SrcP P w vR r.R
theorem SvP.fr {r : Rw} {F : List Nat} (h : SvP P w v r) (hf : Fr F w w') (hn : ∀ g, P g → g ∉ F) : SvP P w' v r := by
  obtain ⟨vS, vR, h1, h2, h3⟩ := h
  exact ⟨vS, vR, h1, h2.fr hf hn, h3.fr hf hn⟩
theorem SvP.grown {r : Rw} (h : SvP P w v r) (hb : Below w.heap.size w w') : SvP P w' v r := by
  obtain ⟨vS, vR, h1, h2, h3⟩ := h
  exact ⟨vS, vR, h1, h2.grown hb, h3.grown hb⟩
theorem SvP.bound {r : Rw} (h : SvP P w v r) : SvP (fun g => P g ∧ g < w.heap.size) w v r := by
  obtain ⟨vS, vR, h1, h2, h3⟩ := h
  exact ⟨vS, vR, h1, h2.bound, h3.bound⟩
theorem SvP.weak {Q : Nat → Prop} {r : Rw} (h : SvP P w v r) (hq : ∀ g, P g → Q g) : SvP Q w v r := by
  obtain ⟨vS, vR, h1, h2, h3⟩ := h
  exact ⟨vS, vR, h1, h2.weak hq, h3.weak hq⟩
theorem SvP.shape {r : Rw} (h : SvP P w v r) : ∃ s1 n s3 r1 rn r3, v = .agg #[.int .i64 r.c, .slice s1 n s3, .bool r.busy, .slice r1 rn r3, .int .i64 r.a, .int .i64 r.wr, .int .i64 r.rd] := by
  obtain ⟨vS, vR, rfl, h2, h3⟩ := h
  obtain ⟨s1, s3, rfl, -, -⟩ := h2.1.form
  obtain ⟨r1, r3, rfl, -, -⟩ := h3.1.form
  exact ⟨_, _, _, _, _, _, rfl⟩
end
theorem sfCode_any (w : World) (e : Int) : Calls Try.prog 76 #[.int .i64 e] w fun r w' => r = .returned (.bool (decide (1 ≤ e ∧ e ≤ 1000))) ∧ w' = w := by
  by_cases h0 : 1 ≤ e
  · by_cases h1 : e ≤ 1000
    · have e2 : decide (1 ≤ e ∧ e ≤ 1000) = true := by simp [h0, h1]
      rw [e2]
      have q1 : decide (1 ≤ e) = true := by simp [h0]
      have q2 : decide (e ≤ 1000) = true := by simp [h1]
      clear e2 h0 h1
      go_enter Try.func76, Try.ntmps76
      go_wp2
      go_ret
      exact ⟨rfl, rfl⟩
    · have e2 : decide (1 ≤ e ∧ e ≤ 1000) = false := by simp; omega
      rw [e2]
      have q1 : decide (1 ≤ e) = true := by simp [h0]
      have q2 : decide (e ≤ 1000) = false := by simp; omega
      clear e2 h1 h0
      go_enter Try.func76, Try.ntmps76
      go_wp2
      go_ret
      exact ⟨rfl, rfl⟩
  · have e2 : decide (1 ≤ e ∧ e ≤ 1000) = false := by simp; omega
    rw [e2]
    have q1 : decide (1 ≤ e) = false := by simp; omega
    clear e2 h0
    go_enter Try.func76, Try.ntmps76
    go_wp2
    go_ret
    exact ⟨rfl, rfl⟩
section
variable {P : Nat → Prop} {w : World} {v : Value} {x : St}
theorem sfOpen_any (w : World) (z0 : Int) (z1 : Option Addr) (z2 z3 : Nat) (z4 : Bool) (z5 : Option Addr) (z6 z7 : Nat) (z8 wr rd : Int) : Calls Try.prog 54 #[.agg #[.int .i64 z0, .slice z1 z2 z3, .bool z4, .slice z5 z6 z7, .int .i64 z8, .int .i64 wr, .int .i64 rd]] w fun e w' => e = .returned (.bool (decide (wr = 0 ∧ rd = 0))) ∧ Below w.heap.size w w' := by
  have HB := Lib.hid (below_alloc w (.cells #[.int .i64 z0, .slice z1 z2 z3, .bool z4, .slice z5 z6 z7, .int .i64 z8, .int .i64 wr, .int .i64 rd] 31))
  by_cases h0 : wr = 0
  · subst h0
    by_cases h1 : rd = 0
    · subst h1
      go_enter Try.func54, Try.ntmps54
      go_wp2
      go_ret
      exact ⟨rfl, HB.out⟩
    · have q : (rd == 0) = false := by simp [h1]
      have q2 : decide ((0 : Int) = 0 ∧ rd = 0) = false := by simp [h1]
      rw [q2]
      clear h1 q2
      go_enter Try.func54, Try.ntmps54
      go_wp2
      go_ret
      exact ⟨rfl, HB.out⟩
  · have q : (wr == 0) = false := by simp [h0]
    have q2 : decide (wr = 0 ∧ rd = 0) = false := by simp [h0]
    rw [q2]
    clear h0 q2
    go_enter Try.func54, Try.ntmps54
    go_wp2
    go_ret
    exact ⟨rfl, HB.out⟩
theorem sfAtEnd_any (h : SvP P w v x.rw) (ok : x.Ok) : Calls Try.prog 49 #[v] w fun e w' => e = .returned (.bool (sPr x).2) ∧ Below w.heap.size w w' := by
  obtain ⟨vS, vR, rfl, hS', hR'⟩ := h
  have hS : SrcP P w vS x.S := hS'
  have hR : SrcP P w vR x.R := hR'
  clear hS' hR'
  obtain ⟨s1, s3, rfl, -, -⟩ := hS.1.form
  obtain ⟨r1, r3, rfl, hr3, hrm⟩ := hR.1.form
  simp only [List.length_map] at *
  have hsm := ok.small
  obtain ⟨n, hn⟩ : ∃ n, n = x.S.length := ⟨_, rfl⟩
  obtain ⟨rn, hrn⟩ : ∃ n, n = x.R.length := ⟨_, rfl⟩
  rw [← hrn] at hsm hr3
  have hval : x.rw.val (.slice s1 x.S.length s3) (.slice r1 x.R.length r3) = .agg #[.int .i64 (x.c : Nat), .slice s1 n s3, .bool x.busy, .slice r1 rn r3, .int .i64 (x.a : Nat), .int .i64 x.wr, .int .i64 x.rd] := by rw [hn, hrn]; rfl
  rw [hval]
  obtain ⟨W, hW⟩ : ∃ W, W = w.alloc (.cells #[.int .i64 (x.c : Nat), .slice s1 n s3, .bool x.busy, .slice r1 rn r3, .int .i64 (x.a : Nat), .int .i64 x.wr, .int .i64 x.rd] 31) := ⟨_, rfl⟩
  have hb : Below w.heap.size w W := by rw [hW]; exact below_alloc _ _
  have hX0 : W.heap[w.heap.size]? = some (.cells #[.int .i64 (x.c : Nat), .slice s1 n s3, .bool x.busy, .slice r1 rn r3, .int .i64 (x.a : Nat), .int .i64 x.wr, .int .i64 x.rd] 31 (0, 0)) := by rw [hW]; exact heap_alloc_new w _
  have HX0 := Lib.hid hX0
  have HB := Lib.hid hb
  have HW := Lib.hid hW.symm
  have HOK := Lib.hid ok
  have HSP := Lib.hid hS
  have HRP := Lib.hid hR
  have HN := Lib.hid (And.intro hn hrn)
  have k0 := cells_cell (o := 0) hX0 rfl
  have k1 := cells_cell (o := 1) hX0 rfl
  have k2 := cells_cell (o := 2) hX0 rfl
  have k3 := cells_cell (o := 3) hX0 rfl
  have k4 := cells_cell (o := 4) hX0 rfl
  have k5 := cells_cell (o := 5) hX0 rfl
  have k6 := cells_cell (o := 6) hX0 rfl
  have hov : (sPr x).2 = (x.busy && (decide (rn = 0) || !decide (x.wr = 0 ∧ x.rd = 0))) := by
    unfold sPr St.over
    rw [hrn]
    cases x.busy <;> by_cases a : x.R = [] <;> by_cases b : x.wr = 0 <;> by_cases d : x.rd = 0 <;> simp [a, b, d]
  rw [hov]
  have HO := Lib.hid (fun W => sfOpen_any W (x.c : Nat) s1 n s3 x.busy r1 rn r3 (x.a : Nat) x.wr x.rd)
  obtain ⟨p, hp⟩ : ∃ p, p = decide (x.wr = 0 ∧ x.rd = 0) := ⟨_, rfl⟩
  rw [← hp] at HO ⊢
  clear hW hb hX0 hS hR hval hn hrn hr3 hrm hsm hp ok hov
  cases hbz : x.busy with
  | false =>
    rw [hbz] at k2 HO
    rw [hbz] at HW
    clear hbz
    go_enter Try.func49, Try.ntmps49
    go_upto_region 1 with fail
    rw [HW.out]
    go_wp2_with fail
    go_ret
    exact ⟨rfl, HB.out⟩
  | true =>
    rw [hbz] at k2 HO
    rw [hbz] at HW
    clear hbz
    by_cases h0 : rn = 0
    · subst h0
      go_enter Try.func49, Try.ntmps49
      go_upto_region 1 with fail
      rw [HW.out]
      go_wp2_with fail
      go_ret
      exact ⟨rfl, HB.out⟩
    · have q1 : ((rn : Int) == 0) = false := by simp; omega
      have q2 : decide (rn = 0) = false := by simp [h0]
      rw [q2]
      clear h0 q2
      go_enter Try.func49, Try.ntmps49
      go_upto_region 1 with fail
      rw [HW.out]
      go_wp2_with (go_at_call 54; fail)
      refine (HO.out _).mono ?_
      rintro e w2 ⟨rfl, hb2⟩
      have HB2 := Lib.hid hb2
      clear hb2
      go_wp2_with fail
      go_ret
      exact ⟨rfl, HB.out.trans (HB2.out.mono HB.out.size)⟩
theorem sfHow_any (h : SvP P w v x.rw) (ok : x.Ok) : Calls Try.prog 75 #[v] w fun e w' => e = .returned (.int .i64 x.out) ∧ Below w.heap.size w w' := by
  obtain ⟨vS, vR, rfl, hS', hR'⟩ := h
  have hS : SrcP P w vS x.S := hS'
  have hR : SrcP P w vR x.R := hR'
  clear hS' hR'
  obtain ⟨s1, s3, rfl, -, -⟩ := hS.1.form
  obtain ⟨r1, r3, rfl, hr3, hrm⟩ := hR.1.form
  simp only [List.length_map] at *
  have hsm := ok.small
  obtain ⟨n, hn⟩ : ∃ n, n = x.S.length := ⟨_, rfl⟩
  obtain ⟨rn, hrn⟩ : ∃ n, n = x.R.length := ⟨_, rfl⟩
  rw [← hrn] at hsm hr3
  have hval : x.rw.val (.slice s1 x.S.length s3) (.slice r1 x.R.length r3) = .agg #[.int .i64 (x.c : Nat), .slice s1 n s3, .bool x.busy, .slice r1 rn r3, .int .i64 (x.a : Nat), .int .i64 x.wr, .int .i64 x.rd] := by rw [hn, hrn]; rfl
  rw [hval]
  obtain ⟨W, hW⟩ : ∃ W, W = w.alloc (.cells #[.int .i64 (x.c : Nat), .slice s1 n s3, .bool x.busy, .slice r1 rn r3, .int .i64 (x.a : Nat), .int .i64 x.wr, .int .i64 x.rd] 31) := ⟨_, rfl⟩
  have hb : Below w.heap.size w W := by rw [hW]; exact below_alloc _ _
  have hX0 : W.heap[w.heap.size]? = some (.cells #[.int .i64 (x.c : Nat), .slice s1 n s3, .bool x.busy, .slice r1 rn r3, .int .i64 (x.a : Nat), .int .i64 x.wr, .int .i64 x.rd] 31 (0, 0)) := by rw [hW]; exact heap_alloc_new w _
  have HX0 := Lib.hid hX0
  have HB := Lib.hid hb
  have HW := Lib.hid hW.symm
  have HOK := Lib.hid ok
  have HSP := Lib.hid hS
  have HRP := Lib.hid hR
  have HN := Lib.hid (And.intro hn hrn)
  have k0 := cells_cell (o := 0) hX0 rfl
  have k1 := cells_cell (o := 1) hX0 rfl
  have k2 := cells_cell (o := 2) hX0 rfl
  have k3 := cells_cell (o := 3) hX0 rfl
  have k4 := cells_cell (o := 4) hX0 rfl
  have k5 := cells_cell (o := 5) hX0 rfl
  have k6 := cells_cell (o := 6) hX0 rfl
  have ho : x.out = if rn = 0 then 0 else if x.wr ≠ 0 then 14 else x.rd := by
    unfold St.out
    rw [hrn]
    simp only [List.length_eq_zero_iff]
  rw [ho]
  clear hW hb hX0 hS hR hval hn hrn hr3 hrm hsm ok ho
  by_cases h0 : rn = 0
  · subst h0
    rw [if_pos rfl]
    go_enter Try.func75, Try.ntmps75
    go_upto_region 1 with fail
    rw [HW.out]
    go_wp2_with fail
    go_ret
    exact ⟨rfl, HB.out⟩
  · rw [if_neg h0]
    have q1 : ((rn : Int) == 0) = false := by simp; omega
    by_cases hw : x.wr = 0
    · rw [if_neg (by simp [hw])]
      rw [hw] at k5
      clear h0 hw
      go_enter Try.func75, Try.ntmps75
      go_upto_region 1 with fail
      rw [HW.out]
      go_wp2_with fail
      go_ret
      exact ⟨rfl, HB.out⟩
    · rw [if_pos hw]
      have q2 : (x.wr != 0) = true := by simp [hw]
      clear h0 hw
      go_enter Try.func75, Try.ntmps75
      go_upto_region 1 with fail
      rw [HW.out]
      go_wp2_with fail
      go_ret
      exact ⟨rfl, HB.out⟩
set_option maxHeartbeats 3200000 in
theorem sfCopy_any {r : Rw} {vS vR : Value} (hS : SrcV w vS (r.S.map encB)) (hR : SrcV w vR (r.R.map encB)) (h1 : r.S.length ≤ 100000) (h2 : r.R.length ≤ 100000) :
    Calls Try.prog 14 #[r.val vS vR] w fun e w' => ∃ uS uR mid, e = .returned (r.val uS uR) ∧ RowB w' w.heap.size uS r.S ∧ (∀ g, uS.ownBlock = some g → g < mid) ∧ w.heap.size ≤ mid ∧ RowB w' mid uR r.R ∧ Below w.heap.size w w' := by
  obtain ⟨s1, s3, rfl, -, -⟩ := hS.form
  obtain ⟨r1, r3, rfl, -, -⟩ := hR.form
  simp only [List.length_map] at *
  obtain ⟨n, hn⟩ : ∃ n, n = r.S.length := ⟨_, rfl⟩
  obtain ⟨rn, hrn⟩ : ∃ n, n = r.R.length := ⟨_, rfl⟩
  have hval : r.val (.slice s1 r.S.length s3) (.slice r1 r.R.length r3) = .agg #[.int .i64 r.c, .slice s1 n s3, .bool r.busy, .slice r1 rn r3, .int .i64 r.a, .int .i64 r.wr, .int .i64 r.rd] := by rw [hn, hrn]; rfl
  rw [hval]
  rw [← hn] at hS h1
  rw [← hrn] at hR h2
  obtain ⟨W, hW⟩ : ∃ W, W = (w.alloc (.cells #[.int .i64 r.c, .slice s1 n s3, .bool r.busy, .slice r1 rn r3, .int .i64 r.a, .int .i64 r.wr, .int .i64 r.rd] 31)).alloc (.cells #[.int .i64 0, .slice none 0 0, .bool false, .slice none 0 0, .int .i64 0, .int .i64 0, .int .i64 0] 31) := ⟨_, rfl⟩
  have hb : Below w.heap.size w W := by rw [hW]; exact (below_alloc _ _).trans ((below_alloc _ _).mono (by simp))
  have hX0 : W.heap[w.heap.size]? = some (.cells #[.int .i64 r.c, .slice s1 n s3, .bool r.busy, .slice r1 rn r3, .int .i64 r.a, .int .i64 r.wr, .int .i64 r.rd] 31 (0, 0)) := by rw [hW]; exact ((below_alloc _ _).block w.heap.size (by simp)).trans (heap_alloc_new w _)
  have hR0 : W.heap[w.heap.size + 1]? = some (.cells #[.int .i64 0, .slice none 0 0, .bool false, .slice none 0 0, .int .i64 0, .int .i64 0, .int .i64 0] 31 (0, 0)) := by rw [hW]; exact block_new _ _ _ (by simp)
  have HR0 := Lib.hid hR0
  have HX0 := Lib.hid hX0
  have HB := Lib.hid hb
  have HW := Lib.hid hW.symm
  have HS := Lib.hid (hS.grown hb)
  have HR := Lib.hid hR
  have HL := Lib.hid (And.intro (And.intro hn hrn) (And.intro h1 h2))
  have k0 := cells_cell (o := 0) hX0 rfl
  have k1 := cells_cell (o := 1) hX0 rfl
  have k2 := cells_cell (o := 2) hX0 rfl
  have k3 := cells_cell (o := 3) hX0 rfl
  have k4 := cells_cell (o := 4) hX0 rfl
  have k5 := cells_cell (o := 5) hX0 rfl
  have k6 := cells_cell (o := 6) hX0 rfl
  clear hW hb hX0 hR0 hval hn hrn hS hR h1 h2
  go_enter Try.func14, Try.ntmps14
  go_upto_region 1 with fail
  rw [HW.out]
  go_wp2_with (at_builtin; refine wpList_append_v slcB (by decide) rfl (.const (.slice none 0 0)) (.tmp 4) rfl rfl rfl (World.ownsRow_nil W W.heap.size 5 1) (Nat.le_refl _) HS.out (encB_one r.S) (by have := HL.out; simp; omega) ?_; intro v1 w1 ho1 hf1 hn1; refine Hid.out ?_)
  have hf1' : Fr [] W w1 := hf1
  have hb1 : Below W.heap.size W w1 := hf1'.below (by simp) (Nat.le_refl _)
  have hc1 : Below w.heap.size w w1 := HB.out.trans (hb1.mono HB.out.size)
  have hX1 := (hb1.block _ (lt_of_block HX0.out)).trans HX0.out
  have hr1 : RowB w1 W.heap.size v1 r.S := by simpa [RowB] using ho1
  obtain ⟨p1, p2, p3, rfl⟩ := row_form hr1
  have HX1 := Lib.hid hX1
  have HB1 := Lib.hid hb1
  have HR1 := Lib.hid hr1
  have j0 := cells_cell (o := 0) hX1 rfl
  have j1 := cells_cell (o := 1) hX1 rfl
  have j2 := cells_cell (o := 2) hX1 rfl
  have j3 := cells_cell (o := 3) hX1 rfl
  have j4 := cells_cell (o := 4) hX1 rfl
  have j5 := cells_cell (o := 5) hX1 rfl
  have j6 := cells_cell (o := 6) hX1 rfl
  have y1 := cells_free hX1 1
  have y3 := cells_free hX1 3
  have hl1 := lt_of_block hX1
  have HX1b : Hid ((w1.setCell ⟨w.heap.size, 1, none⟩ (.slice p1 p2 p3)).heap[w.heap.size]? = some (.cells #[.int .i64 r.c, .slice p1 p2 p3, .bool r.busy, .slice r1 rn r3, .int .i64 r.a, .int .i64 r.wr, .int .i64 r.rd] 31 (0, 0))) := Lib.hid (by have := cells_set hX1 1 (.slice p1 p2 p3); simpa using this)
  have HRw : Hid (SrcV (w1.setCell ⟨w.heap.size, 1, none⟩ (.slice p1 p2 p3)) (.slice r1 rn r3) (r.R.map encB)) := Lib.hid (by
    exact HR.out.grown (hc1.setCell (p := ⟨w.heap.size, 1, none⟩) (Nat.le_refl _) _))
  have HC1 : Hid (Below w.heap.size w (w1.setCell ⟨w.heap.size, 1, none⟩ (.slice p1 p2 p3))) := Lib.hid (hc1.setCell (p := ⟨w.heap.size, 1, none⟩) (Nat.le_refl _) _)
  have HR1b : Hid (RowB (w1.setCell ⟨w.heap.size, 1, none⟩ (.slice p1 p2 p3)) W.heap.size (.slice p1 p2 p3) r.S) := Lib.hid ((fr_setCell w1 ⟨w.heap.size, 1, none⟩ (.slice p1 p2 p3)).row hr1 (fun g hg hm => by have h1 := (hr1.lt g hg).1; have h2 := lt_of_block HX0.out; simp only [List.mem_singleton] at hm; omega))
  have HR0b : Hid ((w1.setCell ⟨w.heap.size, 1, none⟩ (.slice p1 p2 p3)).heap[w.heap.size + 1]? = some (.cells #[.int .i64 0, .slice none 0 0, .bool false, .slice none 0 0, .int .i64 0, .int .i64 0, .int .i64 0] 31 (0, 0))) := Lib.hid ((fr_setCell w1 ⟨w.heap.size, 1, none⟩ (.slice p1 p2 p3)).same ((hb1.block _ (lt_of_block HR0.out)).trans HR0.out) (by simp))
  clear hb1 hX1 hr1 ho1 hf1 hf1' hn1 hc1
  refine Lib.hid ?_
  go_wp2_with (at_builtin; refine wpList_append_v slcB (by decide) rfl (.const (.slice none 0 0)) (.tmp 8) rfl rfl rfl (World.ownsRow_nil _ (w1.setCell ⟨w.heap.size, 1, none⟩ (.slice p1 p2 p3)).heap.size 5 1) (Nat.le_refl _) HRw.out (encB_one r.R) (by have := HL.out; simp; omega) ?_; intro v2 w2 ho2 hf2 hn2; refine Hid.out ?_)
  have hf2' : Fr [] (w1.setCell ⟨w.heap.size, 1, none⟩ (.slice p1 p2 p3)) w2 := hf2
  have hb2 : Below (w1.setCell ⟨w.heap.size, 1, none⟩ (.slice p1 p2 p3)).heap.size (w1.setCell ⟨w.heap.size, 1, none⟩ (.slice p1 p2 p3)) w2 := hf2'.below (by simp) (Nat.le_refl _)
  have hr2 : RowB w2 (w1.setCell ⟨w.heap.size, 1, none⟩ (.slice p1 p2 p3)).heap.size v2 r.R := by simpa [RowB] using ho2
  obtain ⟨q1, q2, q3, rfl⟩ := row_form hr2
  have hX2 := (hb2.block _ (lt_of_block HX1b.out)).trans HX1b.out
  have hR2 := (hb2.block _ (lt_of_block HR0b.out)).trans HR0b.out
  have HX2 := Lib.hid hX2
  have HR2 := Lib.hid hR2
  have HC2 : Hid (Below w.heap.size w w2) := Lib.hid (HC1.out.trans (hb2.mono HC1.out.size))
  have HS2 := Lib.hid (HR1b.out.grown hb2)
  have HT2 := Lib.hid hr2
  have HSZ : Hid (w.heap.size + 1 < W.heap.size ∧ W.heap.size ≤ (w1.setCell ⟨w.heap.size, 1, none⟩ (.slice p1 p2 p3)).heap.size) := Lib.hid ⟨lt_of_block HR0.out, by have := HB1.out.size; simpa using this⟩
  have HBD : Hid (∀ g, (Value.slice p1 p2 p3).ownBlock = some g → g < (w1.setCell ⟨w.heap.size, 1, none⟩ (.slice p1 p2 p3)).heap.size) := Lib.hid (fun g hg => (HR1b.out.lt g hg).2)
  have i0 := cells_cell (o := 0) hX2 rfl
  have i1 := cells_cell (o := 1) hX2 rfl
  have i2 := cells_cell (o := 2) hX2 rfl
  have i3 := cells_cell (o := 3) hX2 rfl
  have i4 := cells_cell (o := 4) hX2 rfl
  have i5 := cells_cell (o := 5) hX2 rfl
  have i6 := cells_cell (o := 6) hX2 rfl
  have z3 := cells_free hX2 3
  have u0 := cells_free hR2 0
  have u1 := cells_free hR2 1
  have u2 := cells_free hR2 2
  have u3 := cells_free hR2 3
  have u4 := cells_free hR2 4
  have u5 := cells_free hR2 5
  have u6 := cells_free hR2 6
  have m0 := cells_cell (o := 0) hR2 rfl
  have m1 := cells_cell (o := 1) hR2 rfl
  have m2 := cells_cell (o := 2) hR2 rfl
  have m3 := cells_cell (o := 3) hR2 rfl
  have m4 := cells_cell (o := 4) hR2 rfl
  have m5 := cells_cell (o := 5) hR2 rfl
  have m6 := cells_cell (o := 6) hR2 rfl
  have hl2 := lt_of_block hX2
  have hl3 := lt_of_block hR2
  generalize (w1.setCell ⟨w.heap.size, 1, none⟩ (.slice p1 p2 p3)).heap.size = mid at *
  clear hf2' hb2 hr2 hX2 hR2 ho2 hf2 hn2 j0 j1 j2 j3 j4 j5 j6 y1 y3 hl1 k0 k1 k2 k3 k4 k5 k6
  refine Lib.hid ?_
  go_wp2_with fail
  have eF := (cells_set (cells_set (cells_set (cells_set (cells_set (cells_set (cells_set ((fr_setCell _ ⟨w.heap.size, 3, none⟩ (.slice q1 q2 q3)).same HR2.out (by simp)) 0 (.int .i64 r.c)) 1 (.slice p1 p2 p3)) 2 (.bool r.busy)) 3 (.slice q1 q2 q3)) 4 (.int .i64 r.a)) 5 (.int .i64 r.wr)) 6 (.int .i64 r.rd))
  have fF : Fr [w.heap.size, w.heap.size + 1] w2 ((((((((w2.setCell ⟨w.heap.size, 3, none⟩ (.slice q1 q2 q3)).setCell ⟨w.heap.size + 1, 0, none⟩ (.int .i64 r.c)).setCell ⟨w.heap.size + 1, 1, none⟩ (.slice p1 p2 p3)).setCell ⟨w.heap.size + 1, 2, none⟩ (.bool r.busy)).setCell ⟨w.heap.size + 1, 3, none⟩ (.slice q1 q2 q3)).setCell ⟨w.heap.size + 1, 4, none⟩ (.int .i64 r.a)).setCell ⟨w.heap.size + 1, 5, none⟩ (.int .i64 r.wr)).setCell ⟨w.heap.size + 1, 6, none⟩ (.int .i64 r.rd)) := (((((((((Fr.refl [w.heap.size, w.heap.size + 1] w2).trans' ((fr_setCell _ ⟨w.heap.size, 3, none⟩ (.slice q1 q2 q3)).mono (by simp))).trans' ((fr_setCell _ ⟨w.heap.size + 1, 0, none⟩ (.int .i64 r.c)).mono (by simp))).trans' ((fr_setCell _ ⟨w.heap.size + 1, 1, none⟩ (.slice p1 p2 p3)).mono (by simp))).trans' ((fr_setCell _ ⟨w.heap.size + 1, 2, none⟩ (.bool r.busy)).mono (by simp))).trans' ((fr_setCell _ ⟨w.heap.size + 1, 3, none⟩ (.slice q1 q2 q3)).mono (by simp))).trans' ((fr_setCell _ ⟨w.heap.size + 1, 4, none⟩ (.int .i64 r.a)).mono (by simp))).trans' ((fr_setCell _ ⟨w.heap.size + 1, 5, none⟩ (.int .i64 r.wr)).mono (by simp))).trans' ((fr_setCell _ ⟨w.heap.size + 1, 6, none⟩ (.int .i64 r.rd)).mono (by simp)))
  obtain ⟨WF, hWF⟩ : ∃ WF, WF = ((((((((w2.setCell ⟨w.heap.size, 3, none⟩ (.slice q1 q2 q3)).setCell ⟨w.heap.size + 1, 0, none⟩ (.int .i64 r.c)).setCell ⟨w.heap.size + 1, 1, none⟩ (.slice p1 p2 p3)).setCell ⟨w.heap.size + 1, 2, none⟩ (.bool r.busy)).setCell ⟨w.heap.size + 1, 3, none⟩ (.slice q1 q2 q3)).setCell ⟨w.heap.size + 1, 4, none⟩ (.int .i64 r.a)).setCell ⟨w.heap.size + 1, 5, none⟩ (.int .i64 r.wr)).setCell ⟨w.heap.size + 1, 6, none⟩ (.int .i64 r.rd)) := ⟨_, rfl⟩
  rw [← hWF] at eF fF ⊢
  clear hWF
  have eG : WF.heap[w.heap.size + 1]? = some (.cells #[.int .i64 r.c, .slice p1 p2 p3, .bool r.busy, .slice q1 q2 q3, .int .i64 r.a, .int .i64 r.wr, .int .i64 r.rd] 31 (0, 0)) := by simpa using eF
  have zz0 := cells_cell (o := 0) eG rfl
  have zz1 := cells_cell (o := 1) eG rfl
  have zz2 := cells_cell (o := 2) eG rfl
  have zz3 := cells_cell (o := 3) eG rfl
  have zz4 := cells_cell (o := 4) eG rfl
  have zz5 := cells_cell (o := 5) eG rfl
  have zz6 := cells_cell (o := 6) eG rfl
  refine bodyPost_ret (v := .agg #[.int .i64 r.c, .slice p1 p2 p3, .bool r.busy, .slice q1 q2 q3, .int .i64 r.a, .int .i64 r.wr, .int .i64 r.rd]) (by simp [results, Try.results14, go_sem, zz0, zz1, zz2, zz3, zz4, zz5, zz6]) rfl ?_
  have hb9 := fF.below (B := w.heap.size) (by simp) HC2.out.size
  refine ⟨.slice p1 p2 p3, .slice q1 q2 q3, mid, rfl, ?_, HBD.out, by have := HSZ.out; omega, ?_, HC2.out.trans hb9⟩
  · exact RowV.lower (fF.row HS2.out (fun g hg hm => by have := (HS2.out.lt g hg).1; have := HSZ.out; simp only [List.mem_cons, List.not_mem_nil, or_false] at hm; omega)) (by have := HSZ.out; omega)
  · exact fF.row HT2.out (fun g hg hm => by have := (HT2.out.lt g hg).1; have := HSZ.out; simp only [List.mem_cons, List.not_mem_nil, or_false] at hm; omega)
end
end Go.Proofs.Yteimjkmjofaieaa
