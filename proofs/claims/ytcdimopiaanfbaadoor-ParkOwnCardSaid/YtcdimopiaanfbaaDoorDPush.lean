/- Push and Place. -/
import Derived.Test.YtcdimopiaanfbaaDoorDRem
namespace Go.Proofs.YtcdimopiaanfbaaDoor
open Go.RowKit Go.Sort Go.MapKept
set_option linter.unusedVariables false
set_option linter.unusedSimpArgs false

theorem fiPush_nil {w : World} {v : Value} (h : NoQ w v) (x : Int) : Calls Tryd.prog 56 #[v, .int .i64 x] w fun e w' => e = .returned (.tuple #[.int .u64 0, .int .i64 1]) ∧ w' = w := by
  have hu := Lib.hid (fiUsable_no h)
  obtain ⟨a, rfl⟩ := h.form
  clear h
  go_enter Tryd.func56, Tryd.ntmps56
  go_wp2_with (go_at_call 69; refine hu.out.mono ?_; rintro e w2 ⟨rfl, rfl⟩)
  go_ret2
  exact ⟨rfl, rfl⟩
theorem fiPush_full {w : World} {q b m g : Nat} {L : Qu} (h : QAt w q b m L g) (hl : L.length = 4096) (x : Int) : Calls Tryd.prog 56 #[.pointer (some ⟨q, 0, none⟩), .int .i64 x] w fun e w' => e = .returned (.tuple #[.int .u64 0, .int .i64 7]) ∧ w' = w := by
  have hu := Lib.hid (fiUsable_yes h)
  have hn := Lib.hid (fiLen_any h)
  rw [hl] at hn
  clear h hl
  go_enter Tryd.func56, Tryd.ntmps56
  go_wp2_with (first | (go_at_call 69; refine hu.out.mono ?_; rintro e w2 ⟨rfl, rfl⟩) | (go_at_call 49; refine hn.out.mono ?_; rintro e w2 ⟨rfl, rfl⟩))
  go_ret2
  exact ⟨rfl, rfl⟩
theorem push_some {L : Qu} {g : Nat} (v : Int) (h : Inc 0 L) (h0 : lst 0 L ≠ 0) : (updL (lks 0 0 L) (g + 1) (some ⟨v, 0, 0⟩) (lst 0 L)).isSome := by
  unfold updL
  split
  · rfl
  · exact lks_some (lst_mem 0 (fun e => h0 ((lst_zero h).2 e)))

set_option maxRecDepth 100000 in
set_option maxHeartbeats 3200000 in
theorem fiPush_yes {w : World} {q b m g : Nat} {L : Qu} (h : QAt w q b m L g) (hl : L.length < 4096) (hg : g ≤ 1000000000) (x : Int) :
    Calls Tryd.prog 56 #[.pointer (some ⟨q, 0, none⟩), .int .i64 x] w fun e w' => e = .returned (.tuple #[.int .u64 ((g + 1 : Nat) : Int), .int .i64 0]) ∧ QAt w' q b m (L ++ [(g + 1, x)]) (g + 1) ∧ Fr [b, m] w w' := by
  have hu := Lib.hid (fiUsable_yes h)
  have hn := Lib.hid (fiLen_any h)
  have c := h.cq
  have c3 := h.body.c3
  have f3 := h.body.free 3
  have hgI : ((g : Nat) : Int) ≤ 1000000000 := by omega
  have hlI : ((L.length : Nat) : Int) < 4096 := by omega
  have hgI0 : (0 : Int) ≤ ((g : Nat) : Int) := by omega
  obtain ⟨w1, hw1⟩ : ∃ W, w.setCell ⟨b, 3, none⟩ (.int .u64 (((g : Nat) : Int) + 1)) = W := ⟨_, rfl⟩
  have b1 := h.body.set 3 (.int .u64 (((g : Nat) : Int) + 1)) (hdd 0 L) (lst 0 L) (g + 1) rfl
  have r1 := fr_setCell w ⟨b, 3, none⟩ (.int .u64 (((g : Nat) : Int) + 1))
  rw [hw1] at b1 r1
  have hq1 := r1.same h.q (by simp; exact h.qb)
  obtain ⟨G, hG⟩ : ∃ G, G = g + 1 := ⟨_, rfl⟩
  rw [← hG] at b1 ⊢
  have HG := Lib.hid hG
  have HW1 := Lib.hid hw1
  have HB1 := Lib.hid b1
  have HR1 := Lib.hid r1
  have HQ1 := Lib.hid hq1
  have HH := Lib.hid h
  generalize hN : L.length = N at *
  have HN := Lib.hid hN
  clear h hG hw1 b1 r1 hq1 hN hg
  go_enter Tryd.func56, Tryd.ntmps56
  go_wp2_with (first | (go_at_call 69; refine hu.out.mono ?_; rintro e w2 ⟨rfl, rfl⟩) | (go_at_call 49; refine hn.out.mono ?_; rintro e w2 ⟨rfl, rfl⟩))
  rw [HW1.out]
  clear hu hn c c3 f3
  have c2 := HB1.out.c2
  have c3 := HB1.out.c3
  go_still_tail 10, (by kernel_rfl)
  change wpList _ _ _ _ _ (w1.drewN 1)
  have hd1 : Hid (Below w1.heap.size w1 (w1.drewN 1)) := Lib.hid ((fr_drewN w1 1 []).below (fun _ hx => by simp at hx) (Nat.le_refl _))
  go_wp2_with (at_mapUpdate; refine wpList_put rfl _ _ _ rfl (HB1.out.grown hd1.out).m G ⟨x, 0, 0⟩ rfl rfl rfl ?_; intro w3 hm3 hf3 hs3; refine Hid.out ?_)
  have hlk : lks 0 0 L G = none := lks_gt HH.out.inc (by have := HH.out.le; have := HG.out; omega)
  rw [hlk] at hm3
  have hB3 := (HB1.out.grown hd1.out).put hm3 hf3
  have hle := HH.out.le
  have hi := HH.out.inc
  have hgG := HG.out
  have hj1 := Lib.hid (fiJoin_any (hB3.grown (w' := w3.drewN 1) ((fr_drewN w3 1 []).below (fun _ hx => by simp at hx) (Nat.le_refl _))) (lst 0 L) G (fun h0 => by rw [hgG]; exact push_some x hi h0) (fun h0 => by unfold updL; rw [if_pos rfl]; rfl) (.inl (by omega)))
  have c1 := hB3.c1
  have c3 := hB3.c3
  have HR3 := Lib.hid ((HR1.out.mono (G := [b, m]) (fun x hx => .inl (by simp at hx; simp [hx]))).trans' ((Fr.of_below hd1.out _).trans' (fr2 (b := b) hf3 (.inr rfl))))
  have HQ3 := Lib.hid (HR3.out.same HH.out.q (by simp [HH.out.qb, HH.out.qm]))
  clear hlk hm3 hf3 hs3 hB3 c2
  generalize hE : lst 0 L = E at *
  have HE := Lib.hid hE
  clear hE hle hi hgG
  refine Lib.hid ?_
  go_wp2_with fail
  go_still_tail 10, (by kernel_rfl)
  change wpList _ _ _ _ _ (w3.drewN 1)
  go_wp2_with (go_at_call 74; fail)
  refine hj1.out.mono ?_
  rintro e w5 ⟨rfl, hB5, hf5⟩
  have hG0 : G ≠ 0 := by have := HG.out; omega
  rw [if_neg hG0] at hB5
  have hj2 := Lib.hid (fiJoin_any hB5 G 0 (fun h0 => by rw [joinF_some]; unfold updL; rw [if_pos rfl]; rfl) (fun h0 => absurd rfl h0) (.inl hG0))
  have c3 := hB5.c3
  have HR5 := Lib.hid (HR3.out.trans' ((fr_drewN w3 1 [b, m]).trans' hf5))
  clear hB5 hf5 c1 hj1
  go_wp2_with (go_at_call 74; fail)
  refine hj2.out.mono ?_
  rintro e w6 ⟨rfl, hB6, hf6⟩
  have c3 := hB6.c3
  have HR6 := Lib.hid (HR5.out.trans' hf6)
  rw [if_neg hG0, if_pos trivial] at hB6
  have hfin : Hid (QAt w6 q b m (L ++ [(G, x)]) G) := Lib.hid (by
    have h0 := HH.out.inc
    have hle := HH.out.le
    have hb6 := hB6.b
    have hm6 := hB6.m
    rw [HG.out, ← HE.out, push_first x h0, ← push_last L g x] at hb6
    rw [HG.out, ← HE.out] at hm6
    rw [HG.out]
    refine ⟨HR6.out.same HH.out.q (by simp [HH.out.qb, HH.out.qm]), ?_, ?_, ?_, ?_⟩
    · rw [hb6, push_last]
    · have hl2 : (L ++ [(g + 1, x)]).length = N + 1 := by have := HN.out; simp [this]
      rw [hl2]
      exact LinkMap.congr hm6 (fun k => (push_links x h0 hle k).symm)
    · exact (inc_append 0 L _).2 ⟨h0, by omega, trivial⟩
    · rw [push_last]; exact Nat.le_refl _)
  clear hB6 hf6 hj2
  go_wp2_with fail
  go_ret2
  exact ⟨rfl, hfin.out, HR6.out⟩
end Go.Proofs.YtcdimopiaanfbaaDoor
