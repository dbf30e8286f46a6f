/- Clone, Copy, All. -/
import Derived.Test.YtbefiilbpbbjnaaEOpen
import Derived.Lib.SliceRun
namespace Go.Proofs.Ytbefiilbpbbjnaa
open Go.RowKit Go.Sort
set_option linter.unusedVariables false
set_option linter.unusedSimpArgs false

theorem flt_one {α : Type} {e : α → List Value} (h : ∀ x, ∀ u ∈ e x, u.oneCell' = true) : ∀ (L : List α), ∀ u ∈ flt e L, u.oneCell' = true
  | [], u, hu => by simp [flt] at hu
  | x :: L, u, hu => by
    rcases List.mem_append.1 (show u ∈ e x ++ flt e L from hu) with hu | hu
    · exact h x u hu
    · exact flt_one h L u hu
theorem encP_one (p : Pl) : ∀ u ∈ encP p, u.oneCell' = true := by
  intro u hu
  simp only [encP, List.mem_cons, List.not_mem_nil, or_false] at hu
  rcases hu with rfl | rfl | rfl <;> rfl
theorem PRow.flat {w : World} {g : Nat} {P : Tab} (h : PRow w g P) (j : Nat) (u : Value) (hu : (flt encP P)[j]? = some u) : w.cell? ⟨g, j, none⟩ = some u := by
  obtain ⟨p, hp, h2⟩ := flt_at encP_len (by omega) hu
  have := h.at hp _ h2
  rwa [show j / 3 * 3 + j % 3 = j by omega] at this

set_option maxHeartbeats 1600000 in
set_option maxRecDepth 100000 in
theorem plClone_any {w : World} {g c : Nat} {P : Tab} (h : PRow w g P) (n1 : 1 ≤ P.length) (n2 : P.length ≤ 128) :
    Calls Try.prog 33 #[.slice (some ⟨g, 0, none⟩) P.length c] w fun e w' => ∃ g' c', e = .returned (.slice (some ⟨g', 0, none⟩) P.length c') ∧ PRow w' g' P ∧ P.length ≤ c' ∧ c' ≤ maxLen ∧ w.heap.size ≤ g' ∧ Below w.heap.size w w' := by
  obtain ⟨i0, hi, hz0, hz1, hz2⟩ := info_parts infoPlace
  have q22 : ∀ (w : World) (a : Option Addr) (n c n' c' : Nat), (binOp .eql 52 (.slice a n c) (.slice none n' c')).run Try.prog w = .ok (.bool a.isNone) w := fun w a n c n' c' => Lib.run_eql_slice_nil w _ _ a n c n' c' Try.underlying52
  have HO := Lib.hid h
  obtain ⟨N, hN⟩ : ∃ N, N = P.length := ⟨_, rfl⟩
  have HN := Lib.hid hN
  rw [← hN] at n1 n2 ⊢
  clear h hN
  go_enter Try.func33, Try.ntmps33
  go_wp2_with (at_builtin; refine wpList_append_own _ rfl _ _ 52 rfl w.heap.size 79 i0 (.agg #[.bool false, .int .i64 0, .int .i64 0]) 3 24 Try.underlying52 hi hz0 hz1 hz2 rfl (by decide) _ _ _ rfl (World.ownsRow_made w #[] 0 (Nat.le_refl _) (Nat.zero_le _) (by simp)) ⟨g, 0, none⟩ N c (flt encP P) rfl ?qc1 ?qc2 ?qc3 ?qc4 ?qc5 ?qc6 ?_)
  case qc1 => rw [flt_len encP_len, HN.out]
  case qc2 => intro j u hj; exact Lib.cell?_alloc_some _ (HO.out.flat j u hj)
  case qc3 => exact flt_one encP_one P
  case qc4 => unfold maxLen; omega
  case qc5 => omega
  intro v' w1 hown hgrow hnil
  have hb : Below w.heap.size w w1 := ((Below.refl _ w).alloc (Nat.le_refl _) _).grown hgrow (by simp) (by intro k hk; simp [Value.ownBlock] at hk; omega)
  have HB := Lib.hid hb
  obtain ⟨g', c', rfl, hc1, hc2⟩ := row_some hown (by omega)
  have HP : Hid (PRow w1 g' P) := Lib.hid (prow_own hown)
  have HL : Hid (w.heap.size ≤ g') := Lib.hid (World.ownsRow.lt hown g' rfl).1
  have HC := Lib.hid (And.intro hc1 hc2)
  clear hown hgrow hnil hb
  go_wp2_with fail
  go_ret
  exact ⟨_, _, rfl, HP.out, HC.out.1, HC.out.2, HL.out, HB.out⟩

theorem slCopy_nil {w : World} {u : Value} (h : NoT w u) : Calls Try.prog 22 #[u] w fun e w' => e = .returned (.pointer none) ∧ w' = w := by
  have hu := Lib.hid (slUsable_no h)
  obtain ⟨a, rfl⟩ := h.form
  clear h
  go_enter Try.func22, Try.ntmps22
  go_wp2_with (go_at_call 32; refine hu.out.mono ?_; rintro e w2 ⟨rfl, rfl⟩)
  go_ret
  exact ⟨rfl, rfl⟩
set_option maxHeartbeats 1600000 in
theorem slCopy_yes {w : World} {t g c : Nat} {P : Tab} (h : TAt w t g c P) :
    Calls Try.prog 22 #[.pointer (some ⟨t, 0, none⟩)] w fun e w' => ∃ t' g' c', e = .returned (.pointer (some ⟨t', 0, none⟩)) ∧ TAt w' t' g' c' P ∧ Below w.heap.size w w' ∧ w.heap.size ≤ t' ∧ w.heap.size ≤ g' := by
  have hu := Lib.hid (slUsable_yes h)
  have hc := Lib.hid (plClone_any (c := c) h.r h.n1 h.n2)
  have k := h.ct
  have HN := Lib.hid (And.intro h.n1 h.n2)
  generalize hN : P.length = N at *
  have HP := Lib.hid hN
  clear h hN
  go_enter Try.func22, Try.ntmps22
  go_wp2_with (first | (go_at_call 32; refine hu.out.mono ?_; rintro e w2 ⟨rfl, rfl⟩) | (go_at_call 33; fail))
  refine hc.out.mono ?_
  rintro e w3 ⟨g', c', rfl, hp, hc1, hc2, hl, hb⟩
  have HR := Lib.hid hp
  have HC := Lib.hid (And.intro hc1 hc2)
  have HL := Lib.hid hl
  have HB := Lib.hid hb
  clear hp hc1 hc2 hl hb
  go_wp2_with fail
  go_ret
  refine ⟨w3.heap.size, g', c', rfl, ⟨?_, HR.out.same (Below.heap_alloc _ _ _ HR.out.lt), by rw [HP.out]; exact HC.out.1, HC.out.2, by rw [HP.out]; exact HN.out.1, by rw [HP.out]; exact HN.out.2⟩, HB.out.alloc HB.out.size _, HB.out.size, HL.out⟩
  rw [HP.out]
  exact block_new _ _ _ rfl
end Go.Proofs.Ytbefiilbpbbjnaa
