/- The state of RingPlays' loop: the ring buffer, the reference's one in block t, and a row of bytes of the law's own. -/
import Derived.Test.YtilafgemgdjfhaaBActs
import Derived.Lib.SlBytesConst
namespace Go.Proofs.Ytilafgemgdjfhaa
open Go.RowKit Go.Sort
set_option linter.unusedVariables false
set_option linter.unusedSimpArgs false

/-- Block q is the law's own, too. The ring buffer holds R; block t holds the reference's ring buffer, whose bytes are B; vp is a row of the law's own with the bytes M. -/
structure PSt (w wr : World) (a c t q : Nat) (R B : List UInt8) (va : Option Addr) (vc : Nat) (vp : Value) (M : List UInt8) : Prop where
  rg : RgIn w (fun k => k = t ∨ (Value.slice va B.length vc).ownBlock = some k ∨ vp.ownBlock = some k ∨ k = q) wr a c R
  w8 : wr.heap[t]? = some (.cells #[.int .i64 c, .slice va B.length vc] 32 (0, 0))
  row : RowB wr w.heap.size (.slice va B.length vc) B
  prow : RowB wr w.heap.size vp M
  ne : ∀ k, (Value.slice va B.length vc).ownBlock = some k → vp.ownBlock ≠ some k
  tw : w.heap.size ≤ t
  bl : B.length ≤ 4096

section
variable {w wr wr' : World} {a c t q : Nat} {R R' B B' : List UInt8} {va va' : Option Addr} {vc vc' : Nat} {vp : Value} {M : List UInt8}

theorem RowB.keep {b : Nat} {v : Value} {L : List UInt8} (h : RowB wr b v L) (hk : ∀ g, v.ownBlock = some g → wr'.heap[g]? = wr.heap[g]?) : RowB wr' b v L := by
  refine ⟨h.1, ?_⟩
  rcases h.2 with h' | ⟨g, cap, cur, rfl, hb', hh, r⟩
  · exact .inl h'
  · exact .inr ⟨g, cap, cur, rfl, hb', (hk g rfl).trans hh, r⟩

theorem PSt.grown (h : PSt w wr a c t q R B va vc vp M) (hb : Below wr.heap.size wr wr') : PSt w wr' a c t q R B va vc vp M :=
  ⟨h.rg.grown hb, (hb.block t (lt_of_block h.w8)).trans h.w8, h.row.grown hb, h.prow.grown hb, h.ne, h.tw, h.bl⟩
theorem PSt.drop (h : PSt w wr a c t q R B va vc vp M) : PSt w wr a c t t R B va vc (.slice none 0 0) [] :=
  ⟨h.rg.less (fun k hk => by
    rcases hk with hk | hk | hk | hk
    · exact .inl hk
    · exact .inr (.inl hk)
    · simp [Value.ownBlock] at hk
    · exact .inl hk), h.w8, h.row, World.ownsRow_nil _ _ _ _, fun k _ hk => by simp [Value.ownBlock] at hk, h.tw, h.bl⟩
theorem PSt.aft (h : PSt w wr a c t q R B va vc vp M) (hA : Aft w (fun k => k = t ∨ (Value.slice va B.length vc).ownBlock = some k ∨ vp.ownBlock = some k ∨ k = q) wr wr' a c R') : PSt w wr' a c t q R' B va vc vp M :=
  ⟨hA.rg, (hA.keep t (.inl rfl)).trans h.w8, h.row.keep (fun g hg => hA.keep g (.inr (.inl hg))), h.prow.keep (fun g hg => hA.keep g (.inr (.inr (.inl hg)))), h.ne, h.tw, h.bl⟩
/-- A new block of the law's own. -/
theorem PSt.act (h : PSt w wr a c t q R B va vc vp M) (o : Obj) : PSt w (wr.alloc o) a c t wr.heap.size R B va vc vp M := by
  have hb : Below wr.heap.size wr (wr.alloc o) := (Below.refl _ _).alloc (Nat.le_refl _) _
  have h1 := h.grown hb
  refine ⟨h.rg.more hb (fun k hk => ?_), h1.w8, h1.row, h1.prow, h.ne, h.tw, h.bl⟩
  rcases hk with hk | hk | hk | hk
  · exact .inl (.inl hk)
  · exact .inl (.inr (.inl hk))
  · exact .inl (.inr (.inr (.inl hk)))
  · exact .inr ⟨by omega, by simp; omega⟩
theorem PSt.newp {b : Nat} {v0 : Value} {M0 : List UInt8} (h : PSt w wr a c t q R B va vc v0 M0) (hb : Below wr.heap.size wr wr') (ho : RowB wr' b vp M) (hb2 : wr.heap.size ≤ b) : PSt w wr' a c t q R B va vc vp M := by
  have h1 := h.grown hb
  have hs := h.rg.below.size
  refine ⟨h.rg.more hb (fun k hk => ?_), h1.w8, h1.row, ho.lower (by omega), fun k hk hp => ?_, h.tw, h.bl⟩
  · rcases hk with hk | hk | hk | hk
    · exact .inl (.inl hk)
    · exact .inl (.inr (.inl hk))
    · have := ho.lt k hk
      exact .inr ⟨by omega, this.2⟩
    · exact .inl (.inr (.inr (.inr hk)))
  · have := (h.row.lt k hk).2
    have := (ho.lt k hp).1
    omega
/-- The reference's ring buffer is replaced by a new one. -/
theorem PSt.newref {W : World} (h : PSt w wr a c t q R B va vc vp M) (hb : Below wr.heap.size wr wr') (ho : RowB wr' wr.heap.size (.slice va' B'.length vc') B') (hB' : B'.length ≤ 4096)
    (hW : W = (wr'.setCell ⟨t, 0, none⟩ (.int .i64 c)).setCell ⟨t, 1, none⟩ (.slice va' B'.length vc')) : PSt w W a c t q R B' va' vc' vp M := by
  have h1 := h.grown hb
  have hs := h.rg.below.size
  have htl := lt_of_block h.w8
  have hne : ∀ g, (Value.slice va' B'.length vc').ownBlock = some g → g ∉ [t] := fun g hg => by
    have := (ho.lt g hg).1
    simp; omega
  have hf : Fr [t] wr' W := by
    subst hW
    exact (fr_setCell wr' ⟨t, 0, none⟩ _).trans' (fr_setCell _ ⟨t, 1, none⟩ _)
  have hnp : ∀ g, vp.ownBlock = some g → g ∉ [t] := fun g hg => by
    have := row_ne h.prow h.w8 (by decide) g hg
    simpa using this
  refine ⟨?_, ?_, hf.row (ho.lower (by omega)) hne, hf.row h1.prow hnp, fun k hk hp => ?_, h.tw, hB'⟩
  · have h2 := h.rg.more (w' := wr') (G' := fun k => k = t ∨ (Value.slice va' B'.length vc').ownBlock = some k ∨ vp.ownBlock = some k ∨ k = q) hb (fun k hk => by
      rcases hk with hk | hk | hk | hk
      · exact .inl (.inl hk)
      · have := ho.lt k hk
        exact .inr this
      · exact .inl (.inr (.inr (.inl hk)))
      · exact .inl (.inr (.inr (.inr hk))))
    exact h2.write hf (fun k hk => by have hk' : k = t := by simpa using hk
                                      subst hk'; exact ⟨.inl rfl, h.tw⟩)
  · subst hW
    have h3 := cells_set (cells_set h1.w8 0 (.int .i64 c)) 1 (.slice va' B'.length vc')
    exact h3
  · have := (ho.lt k hk).1
    have := (h.prow.lt k hp).2
    omega
/-- The reference's ring buffer is written once more as it is. -/
theorem PSt.renew {W : World} (h : PSt w wr a c t q R B va vc vp M) (hW : W = (wr.setCell ⟨t, 0, none⟩ (.int .i64 c)).setCell ⟨t, 1, none⟩ (.slice va B.length vc)) : PSt w W a c t q R B va vc vp M := by
  have hf : Fr [t] wr W := by
    subst hW
    exact (fr_setCell wr ⟨t, 0, none⟩ _).trans' (fr_setCell _ ⟨t, 1, none⟩ _)
  have hnp : ∀ g, vp.ownBlock = some g → g ∉ [t] := fun g hg => by
    have := row_ne h.prow h.w8 (by decide) g hg
    simpa using this
  have hnb : ∀ g, (Value.slice va B.length vc).ownBlock = some g → g ∉ [t] := fun g hg => by
    have := row_ne h.row h.w8 (by decide) g hg
    simpa using this
  refine ⟨h.rg.write hf (fun k hk => by have hk' : k = t := by simpa using hk
                                        subst hk'; exact ⟨.inl rfl, h.tw⟩), ?_, hf.row h.row hnb, hf.row h.prow hnp, h.ne, h.tw, h.bl⟩
  subst hW
  exact cells_set (cells_set h.w8 0 (.int .i64 c)) 1 (.slice va B.length vc)
/-- What was read is a row of the law's own. -/
theorem PSt.readp {b : Nat} {v : Value} {L : List UInt8} (h : PSt w wr a c t q R B va vc (.slice none 0 0) []) (hA : Aft w (fun k => k = t ∨ (Value.slice va B.length vc).ownBlock = some k ∨ (Value.slice none 0 0).ownBlock = some k ∨ k = q) wr wr' a c R') (hr : RowB wr' b v L) (hb : wr.heap.size ≤ b)
    (hR : RgIn w (fun k => (k = t ∨ (Value.slice va B.length vc).ownBlock = some k ∨ (Value.slice none 0 0).ownBlock = some k ∨ k = q) ∨ v.ownBlock = some k) wr' a c R') : PSt w wr' a c t q R' B va vc v L := by
  have h1 := h.aft hA
  have hs := h.rg.below.size
  refine ⟨hR.less (fun k hk => ?_), h1.w8, h1.row, hr.lower (by omega), fun k hk hp => ?_, h.tw, h.bl⟩
  · rcases hk with hk | hk | hk | hk
    · exact .inl (.inl hk)
    · exact .inl (.inr (.inl hk))
    · exact .inr hk
    · exact .inl (.inr (.inr (.inr hk)))
  · have := (h.row.lt k hk).2
    have := (hr.lt k hp).1
    omega
/-- A ring buffer whose blocks are all new, and are left alone. -/
theorem RgIn.left {w0 w5 w6 : World} {s a' c : Nat} {B : List UInt8} (R : RgIn w0 (fun k => k < s) w5 a' c B) (hk : ∀ k, s ≤ k → k < w5.heap.size → w6.heap[k]? = w5.heap[k]?) (hb : Below w0.heap.size w0 w6) (hs : w5.heap.size ≤ w6.heap.size) : RgIn w0 (fun k => k < s) w6 a' c B := by
  obtain ⟨bb, cc, cp, f, xs, R⟩ := R
  obtain ⟨r, hr, hl⟩ := R.tc
  have ha := R.alt
  have hbb := R.blt
  have hcc := R.clt
  have na := R.na
  have nb := R.nb
  have nc := R.nc
  refine ⟨bb, cc, cp, f, xs, (hk a' (by omega) ha).trans R.ta, (hk bb (by omega) hbb).trans R.tb, ⟨r, (hk cc (by omega) hcc).trans hr, hl⟩, R.ccp, R.cpm, R.cyc, R.na, R.nb, R.nc, R.ba, R.bb0, R.bc, fun k hk => ?_, hb⟩
  have := R.lt k hk
  omega
theorem Aft.less {w0 w w' : World} {G G' : Nat → Prop} {a c : Nat} {B : List UInt8} (h : Aft w0 G w w' a c B) (hG : ∀ k, G' k → G k) : Aft w0 G' w w' a c B := ⟨h.rg.less hG, fun k hk => h.keep k (hG k hk), h.size⟩
theorem lies_old (w : World) : Lies (w.alloc (.cells #[.int .u8 111, .int .u8 108, .int .u8 100] 5 (3, 4))) w.heap.size 0 [111, 108, 100] := fun i u hi => by
  rw [Nat.zero_add, World.cell?_alloc_mark]
  match i with
  | 0 => simp at hi; subst hi; rfl
  | 1 => simp at hi; subst hi; rfl
  | 2 => simp at hi; subst hi; rfl
  | i + 3 => simp at hi
/-- The copy takes the ring buffer's place. -/
theorem PSt.swap {a' s : Nat} (h : PSt w wr a c t q R B va vc vp M) (hR : RgIn w (fun k => k < s) wr a' c R') (hs : ∀ k, (k = t ∨ (Value.slice va B.length vc).ownBlock = some k ∨ vp.ownBlock = some k ∨ k = q) → k < s) : PSt w wr a' c t q R' B va vc vp M :=
  ⟨hR.less hs, h.w8, h.row, h.prow, h.ne, h.tw, h.bl⟩
/-- The reference's bytes are dropped. -/
theorem PSt.clear {W : World} (h : PSt w wr a c t q R B va vc vp M) (hW : W = wr.setCell ⟨t, 1, none⟩ (.slice none 0 0)) : PSt w W a c t q R [] none 0 vp M := by
  have hf : Fr [t] wr W := by
    subst hW
    exact fr_setCell wr ⟨t, 1, none⟩ _
  have hnp : ∀ g, vp.ownBlock = some g → g ∉ [t] := fun g hg => by
    have := row_ne h.prow h.w8 (by decide) g hg
    simpa using this
  refine ⟨?_, ?_, World.ownsRow_nil _ _ _ _, hf.row h.prow hnp, fun k hk => by simp [Value.ownBlock] at hk, h.tw, by simp⟩
  · have h2 := h.rg.less (G' := fun k => k = t ∨ (Value.slice none 0 0).ownBlock = some k ∨ vp.ownBlock = some k ∨ k = q) (fun k hk => by
      rcases hk with hk | hk | hk | hk
      · exact .inl hk
      · simp [Value.ownBlock] at hk
      · exact .inr (.inr (.inl hk))
      · exact .inr (.inr (.inr hk)))
    exact h2.write hf (fun k hk => by have hk' : k = t := by simpa using hk
                                      subst hk'; exact ⟨.inl rfl, h.tw⟩)
  · subst hW
    exact cells_set h.w8 1 (.slice none 0 0)
theorem row_set {b g cap i : Nat} {L : List UInt8} {y : UInt8} (h : RowB wr b (.slice (some ⟨g, 0, none⟩) L.length cap) L) (hi : i < L.length) : RowB (wr.setCell ⟨g, i, none⟩ (encB y)) b (.slice (some ⟨g, 0, none⟩) (L.set i y).length cap) (L.set i y) := by
  rcases h.2 with ⟨h', _⟩ | ⟨g', cap', cur, hv, hb, hh, h1, h2, h3, h4⟩
  · cases h'
  · simp only [Value.slice.injEq, Option.some.injEq, Addr.mk.injEq, and_true, true_and] at hv
    obtain ⟨rfl, rfl⟩ := hv
    refine ⟨by simp, .inr ⟨g, cap, cur.setIfInBounds i (encB y), by simp, hb, cells_set hh i _, by simpa using h1, h2, by simpa using h3, ?_⟩⟩
    rw [List.length_set, Array.toList_setIfInBounds, List.take_set, h4, List.map_set]
/-- A byte of the law's own row is written. -/
theorem PSt.inc {W : World} {g pc i : Nat} {y : UInt8} (h : PSt w wr a c t q R B va vc (.slice (some ⟨g, 0, none⟩) M.length pc) M) (hi : i < M.length) (hW : W = wr.setCell ⟨g, i, none⟩ (encB y)) : PSt w W a c t q R B va vc (.slice (some ⟨g, 0, none⟩) (M.set i y).length pc) (M.set i y) := by
  have hf : Fr [g] wr W := by
    subst hW
    exact fr_setCell wr ⟨g, i, none⟩ _
  have hgt : t ≠ g := fun e => row_ne h.prow h.w8 (by decide) g rfl e.symm
  refine ⟨?_, hf.same h.w8 (by simpa using hgt), hf.row h.row (fun k hk => ?_), ?_, fun k hk hp => h.ne k hk hp, h.tw, h.bl⟩
  · exact h.rg.write hf (fun k hk => by have hk' : k = g := by simpa using hk
                                        subst hk'; exact ⟨.inr (.inr (.inl rfl)), (h.prow.lt _ rfl).1⟩)
  · have := h.ne k hk
    simp only [Value.ownBlock, Option.some.injEq, ne_eq] at this
    simp
    exact fun e => this e.symm
  · subst hW
    exact row_set h.prow hi
end

theorem row_at {w : World} {b g cap j : Nat} {L : List UInt8} (h : RowB w b (.slice (some ⟨g, 0, none⟩) L.length cap) L) (hj : j < L.length) : w.cell? ⟨g, j, none⟩ = some (.int .u8 (((L[j]).toNat : Nat) : Int)) ∧ w.frozen? ⟨g, j, none⟩ = false ∧ g < w.heap.size := by
  have h1 := row_cells h j (encB L[j]) (by simp [hj])
  rw [Go.WideShapes.add_plain, Nat.zero_add] at h1
  refine ⟨h1, ?_, (h.lt g rfl).2⟩
  rcases h.2 with ⟨h', _⟩ | ⟨g', cap', cur, hv, hb, hh, _⟩
  · cases h'
  · simp only [Value.slice.injEq, Option.some.injEq, Addr.mk.injEq, and_true, true_and] at hv
    obtain ⟨rfl, rfl⟩ := hv
    exact cells_free hh j
/-- The source of a write: a row of the law's own. -/
theorem srcB_row {w0 w : World} {G : Nat → Prop} {b : Nat} {ao : Option Addr} {lc : Nat} {M : List UInt8} (h : RowB w b (.slice ao M.length lc) M) (hG : ∀ k, (Value.slice ao M.length lc).ownBlock = some k → G k) : SrcB w0 G w ao M.length lc M := by
  rcases h.2 with ⟨hv, hn⟩ | ⟨g, cap, cu, hv, hb, hh, h1, h2, h3, h4⟩
  · simp only [Value.slice.injEq] at hv
    obtain ⟨rfl, h0, rfl⟩ := hv
    exact .inl ⟨rfl, h0, rfl, List.eq_nil_of_length_eq_zero hn⟩
  · simp only [Value.slice.injEq, true_and] at hv
    obtain ⟨rfl, rfl⟩ := hv
    refine .inr ⟨g, 0, rfl, rfl, h1, h2, fun i u hi => ?_, .inr (hG g rfl)⟩
    have := row_cells h i (encB u) (by simp [hi])
    rwa [Go.WideShapes.add_plain] at this
theorem srcA_of {w W : World} {ao : Option Addr} {L lc : Nat} {M : List UInt8} (h : SrcP w ao L lc M) (hL : M.length = L) (hb : Below w.heap.size w W) : SrcA W (.slice ao L lc) M := by
  rcases h with ⟨rfl, rfl, rfl⟩ | ⟨rfl, rfl, x, rfl⟩ | ⟨b, off, rfl, hbl, hl, hm, h0, hLie⟩
  · exact .inl ⟨rfl, List.eq_nil_of_length_eq_zero hL⟩
  · rw [List.eq_nil_of_length_eq_zero hL]; exact SrcA.empty W x 0
  · subst hL; exact SrcA.lies (hLie.same (hb.block b hbl))
theorem srcP_grown {w W : World} {ao : Option Addr} {L lc : Nat} {M : List UInt8} (h : SrcP w ao L lc M) (hb : Below w.heap.size w W) : SrcP W ao L lc M := by
  rcases h with h | h | ⟨b, off, rfl, hbl, hl, hm, h0, hLie⟩
  · exact .inl h
  · exact .inr (.inl h)
  · exact .inr (.inr ⟨b, off, rfl, Nat.lt_of_lt_of_le hbl hb.size, hl, hm, h0, hLie.same (hb.block b hbl)⟩)
theorem conv_srcP {w W : World} {ao : Option Addr} {L lc : Nat} {M : List UInt8} (h : SrcP w ao L lc M) (hL : M.length = L) (hb : Below w.heap.size w W) : (convert 24 9 (.slice ao L lc)).run Try.prog W = .ok (.string (strB M)) W := by
  rcases h with ⟨rfl, rfl, rfl⟩ | ⟨rfl, rfl, x, rfl⟩ | ⟨b, off, rfl, hbl, hl, hm, h0, hLie⟩
  · rw [List.eq_nil_of_length_eq_zero hL]; exact conv_nil W
  · rw [List.eq_nil_of_length_eq_zero hL]; exact conv_empty W x 0
  · exact conv_lies (hLie.same (hb.block b hbl)) hL
end Go.Proofs.Ytilafgemgdjfhaa
