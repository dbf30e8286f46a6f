/- slices.Clone of bytes; Copy. -/
import Derived.Test.YtilafgemgdjfhaaBNew
namespace Go.Proofs.Ytilafgemgdjfhaa
open Go.RowKit Go.Sort
set_option linter.unusedVariables false
set_option linter.unusedSimpArgs false

set_option maxHeartbeats 1600000 in
set_option maxRecDepth 100000 in
theorem cloneB_any {w : World} {v : Value} {L : List UInt8} (ho : RowB w 0 v L) (hl : L.length ≤ 70000) :
    Calls Try.prog 29 #[v] w fun e w' => ∃ v', e = .returned v' ∧ RowB w' w.heap.size v' L ∧ Below w.heap.size w w' := by
  unfold RowB at *
  obtain ⟨i0, hi, hz0, hz1, hz2⟩ := info_parts infoU8
  have q22 : ∀ (w : World) (a : Option Addr) (n c n' c' : Nat), (binOp .eql 24 (.slice a n c) (.slice none n' c')).run Try.prog w = .ok (.bool a.isNone) w := fun w a n c n' c' => Lib.run_eql_slice_nil w _ _ a n c n' c' Try.underlying24
  rcases ho.2 with ⟨rfl, hn⟩ | ⟨g, cap, cur, rfl, _⟩
  · have hL : L = [] := List.eq_nil_of_length_eq_zero hn
    subst hL
    clear ho
    go_enter Try.func29, Try.ntmps29
    go_wp2_with fail
    go_ret
    exact ⟨.slice none 0 0, rfl, World.ownsRow_nil _ _ _ _, Below.refl _ _⟩
  · have HO := Lib.hid ho
    clear ho
    go_enter Try.func29, Try.ntmps29
    go_wp2_with (at_builtin; refine wpList_append_own _ rfl _ _ 24 rfl w.heap.size 5 i0 (.int .u8 0) 1 1 Try.underlying24 hi hz0 hz1 hz2 rfl (by decide) _ _ _ rfl (World.ownsRow_made w #[] 0 (Nat.le_refl _) (Nat.zero_le _) (by simp)) ⟨g, 0, none⟩ L.length cap (L.map encB) rfl ?qc1 ?qc2 ?qc3 ?qc4 ?qc5 ?qc6 ?_)
    case qc1 => simp
    case qc2 => intro j u hj; rw [Go.WideShapes.add_plain]; have := row_cells HO.out j u hj; rw [Go.WideShapes.add_plain] at this; exact Lib.cell?_alloc_some _ this
    case qc3 => exact encB_one L
    case qc4 => rw [Nat.zero_add]; unfold maxLen; omega
    case qc5 => rw [Nat.zero_add]; omega
    case qc6 => simp
    intro v' w1 hown hgrow hnil
    go_wp2_with fail
    go_ret
    refine ⟨v', rfl, by simpa using hown, ?_⟩
    exact ((Below.refl _ w).alloc (Nat.le_refl _) _).grown hgrow (by simp) (by intro k hk; simp [Value.ownBlock] at hk; omega)

section
variable {w0 w : World} {G : Nat → Prop} {a bb cc cp c f : Nat} {xs B : List UInt8}

theorem RgB.rowB (R : RgB w0 G w a bb cc cp c f xs B) : RowB w 0 (.slice (some ⟨cc, 0, none⟩) c cp) xs := by
  obtain ⟨r, hr, hl⟩ := R.tc
  have h1 := R.cyc.len
  subst h1
  exact ⟨by simp, .inr ⟨cc, cp, _, rfl, Nat.zero_le _, hr, R.ccp, R.cpm, by simpa using hl, by simp [List.take_append_of_le_length, List.take_of_length_le]⟩⟩

theorem row_whole {w : World} {base g n cap : Nat} {L : List UInt8} (h : RowB w base (.slice (some ⟨g, 0, none⟩) n cap) L) : n = L.length ∧ base ≤ g ∧ n ≤ cap ∧ cap ≤ maxLen ∧ ∃ r, w.heap[g]? = some (.cells (L.map encB ++ r).toArray 5 (0, 0)) ∧ (L.map encB ++ r).length = cap := by
  rcases h.2 with ⟨h', _⟩ | ⟨g', cap', cur, hv, hb, hh, hnc, hcm, hcs, htake⟩
  · cases h'
  · simp only [Value.slice.injEq, Option.some.injEq, Addr.mk.injEq, and_true] at hv
    obtain ⟨rfl, rfl, rfl⟩ := hv
    refine ⟨rfl, hb, hnc, hcm, cur.toList.drop (L.length * 1), ?_, ?_⟩
    · rw [← htake, List.take_append_drop, hh]
    · rw [← htake, List.take_append_drop]; simpa using hcs

theorem copy_mem {w0 w wc : World} {va : Option Addr} {vc l : Nat} (h0 : Below w0.heap.size w0 w) (hb : Below w.heap.size w wc) (hrow : RowB wc w.heap.size (.slice va xs.length vc) xs) (hcy : Cyc c xs f B) (hl : l = B.length) :
    Below w.heap.size w ((wc.alloc (.cells #[.slice va xs.length vc, .int .i64 f, .int .i64 l] 64)).alloc (.cells #[.pointer (some ⟨wc.heap.size, 0, none⟩)] 55)) ∧
    RgIn w0 (fun k => k < w.heap.size) ((wc.alloc (.cells #[.slice va xs.length vc, .int .i64 f, .int .i64 l] 64)).alloc (.cells #[.pointer (some ⟨wc.heap.size, 0, none⟩)] 55)) (wc.heap.size + 1) c B := by
  subst hl
  have hs := hb.size
  have h0s := h0.size
  have hb2 : Below w.heap.size w ((wc.alloc (.cells #[.slice va xs.length vc, .int .i64 f, .int .i64 B.length] 64)).alloc (.cells #[.pointer (some ⟨wc.heap.size, 0, none⟩)] 55)) := (hb.alloc hs _).alloc (by simp; omega) _
  obtain ⟨g, cap, hv, _, _⟩ := row_some hrow (by have := hcy.len; have := hcy.pos; omega)
  simp only [Value.slice.injEq, true_and] at hv
  obtain ⟨rfl, rfl⟩ := hv
  obtain ⟨_, hg, hnc, hcm, r, hr, hrl⟩ := row_whole hrow
  have hlt := lt_of_block hr
  have hcl := hcy.len
  refine ⟨hb2, wc.heap.size, g, vc, f, xs, block_new _ _ _ (by simp), ?_, ⟨r, (fr_alloc _ _ []).same ((fr_alloc _ _ []).same hr (by simp)) (by simp), hrl⟩, by omega, hcm, hcy, ?_, ?_, ?_, by omega, by omega, by omega, fun k hk => ?_, h0.trans (hb2.mono h0s)⟩
  · rw [← hcl]; exact (fr_alloc _ _ []).same (block_new _ _ _ rfl) (by simp)
  · show ¬ (_ < _); omega
  · show ¬ (_ < _); omega
  · show ¬ (_ < _); omega
  · have : k < w.heap.size := hk
    have := hb2.size
    omega

set_option maxRecDepth 100000 in
set_option maxHeartbeats 3200000 in
theorem copy_any (R : RgB w0 G w a bb cc cp c f xs B) :
    Calls Try.prog 20 #[pt a] w fun e w' => ∃ a', e = .returned (pt a') ∧ Below w.heap.size w w' ∧ RgIn w0 (fun k => k < w.heap.size) w' a' c B := by
  have hu := Lib.hid (usable_yes a bb w R.ca)
  have hclone : Hid (∀ W, Below w.heap.size w W → Calls Try.prog 29 #[.slice (some ⟨cc, 0, none⟩) c cp] W fun e w' => ∃ v', e = .returned v' ∧ RowB w' W.heap.size v' xs ∧ Below W.heap.size W w') := Lib.hid (fun W hb =>
    cloneB_any (R.grown hb).rowB (by have := R.cyc.len; have := R.cyc.top; omega))
  have ca := R.ca
  have c0 := R.c0
  have c1 := R.c1
  have c2 := R.c2
  have al := R.alt
  have bl := R.blt
  have hcy := Lib.hid R.cyc
  have h0 := Lib.hid R.below
  obtain ⟨l, hl⟩ : ∃ l, l = B.length := ⟨_, rfl⟩
  have HL := Lib.hid hl
  rw [← hl] at c2
  have hbx : Below w.heap.size w w.drew := (Below.refl _ _).drew
  clear R hl
  unfold pt
  go_enter Try.func20, Try.ntmps20
  go_wp2_with (go_at_call 27; refine hu.out.mono ?_; rintro e w2 ⟨rfl, rfl⟩)
  go_region_held3 (fun w' => w'.cell? ⟨bb, 0, none⟩ = some (.slice (some ⟨cc, 0, none⟩) c cp) ∧ w'.cell? ⟨bb, 1, none⟩ = some (.int .i64 f) ∧ w'.cell? ⟨bb, 2, none⟩ = some (.int .i64 l)) (go_keep) (first | (go_at_call 29; refine (hclone.out _ hbx).mono ?_; rintro e wc ⟨v', rfl, hrow, hbc⟩; obtain ⟨va', vc', rfl⟩ := row_formB hrow; have hbx := hbx.trans (hbc.mono hbx.size); have k1 := (hbx.cell (p := ⟨bb, 0, none⟩) bl).trans c0; have k2 := (hbx.cell (p := ⟨bb, 1, none⟩) bl).trans c1; have k3 := (hbx.cell (p := ⟨bb, 2, none⟩) bl).trans c2))
  have hfin := Lib.hid (copy_mem h0.out hbx hrow hcy.out HL.out)
  clear hrow
  go_wp2_with fail
  go_ret
  exact ⟨_, rfl, hfin.out.1, hfin.out.2⟩
end
end Go.Proofs.Ytilafgemgdjfhaa
