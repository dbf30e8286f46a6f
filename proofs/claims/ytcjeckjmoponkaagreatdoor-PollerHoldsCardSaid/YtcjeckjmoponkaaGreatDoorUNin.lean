/- New, Copy. -/
import Derived.Test.YtcjeckjmoponkaaGreatDoorUEig
namespace Go.Proofs.YtcjeckjmoponkaaGreatDoor
open Go.RowKit Go.Sort
set_option linter.unusedVariables false
set_option linter.unusedSimpArgs false
section
variable {w0 w w' : World} {O : Nat → Prop} {p t g c d r rc : Nat} {l : Ll} {OL OD : Nat → Prop} {x : Px} {G P : Nat}
/-- A new poller. -/
def X0 (c : Nat) (nw : Int) : Px := ⟨List.replicate 128 ⟨false, 0, 0⟩, Z0 c, nw, fun _ => Dl.never, List.replicate c 0⟩
theorem below_no {w0 w w' : World} (h : Below w0.heap.size w0 w) (h2 : Below w.heap.size w w') : Below w0.heap.size w0 w' := h.trans (h2.mono h.size)
theorem UB.make {wl wd wt w5 : World} {al ad B p t g c d r rc : Nat} {l : Ll} {z : Zt} {T : Sl.Tab} {now : Int} {f : Nat → Int} {R : List Int} {G P : Nat}
    (hl : LS B (fun k => al ≤ k) wl l z G) (hB : w0.heap.size ≤ B) (hal : w0.heap.size ≤ al) (hlb : Below wl.heap.size wl w5)
    (hd : Dl.JAt w0 (fun k => k < ad) wd d now f P) (had : w0.heap.size ≤ ad) (hdb : Below wd.heap.size wd w5)
    (ht : Sl.TAt wt t g c T) (htb : Below wt.heap.size wt w5)
    (hp : w5.heap[p]? = some (.cells #[.pointer (some ⟨t, 0, none⟩), .pointer (some ⟨l.a, 0, none⟩), .pointer (some ⟨d, 0, none⟩), .slice (some ⟨r, 0, none⟩) R.length rc] 68 (0, 0)))
    (hr : Row TRs w5 w0.heap.size (.slice (some ⟨r, 0, none⟩) R.length rc) R) (hrl : R.length = z.S.length) (htl : T.length = 128) (hb : w0.heap.size ≤ p ∧ w0.heap.size ≤ t ∧ w0.heap.size ≤ g)
    (hdis : wl.heap.size ≤ ad ∨ wd.heap.size ≤ al) (hn : ∀ k, k = p ∨ k = t ∨ k = g ∨ k = r → (k < al ∨ wl.heap.size ≤ k) ∧ (k < ad ∨ wd.heap.size ≤ k)) (h0 : Below w0.heap.size w0 w5) (hg : 0 < w0.heap.size) :
    UB w0 w5 (OP p t g r (fun k => al ≤ k ∧ k < wl.heap.size) (fun k => ad ≤ k ∧ k < wd.heap.size)) p t g c d r rc l (fun k => al ≤ k ∧ k < wl.heap.size) (fun k => ad ≤ k ∧ k < wd.heap.size) ⟨T, z, now, f, R⟩ G P := by
  have hz1 := hlb.size
  have hz2 := hdb.size
  have hgl : 0 < wl.heap.size := by have := hl.gm; have := (hl.la).2; have := hl.sl _ hl.la.1; omega
  refine ⟨hp, ht.below htb ht.lt ht.lg, ?_, ?_, hr, hrl, htl, hb, fun k => Iff.rfl, ?_, ?_⟩
  · refine hl.over (fun k hk _ => hlb.block k hk) (hlb.block _ hgl) (fun k hk h => .inl ⟨h, hk⟩) (fun k hk => ?_) (fun k hk => .inr hk) hB hg
    rcases hk with h | h
    · omega
    · have := h0.size; omega
  · obtain ⟨F, f1, f2⟩ := hd.foot
    refine f2 w0 _ w5 hdb.os hdb.tape hdb.output hz2 (fun k hk => hdb.block k (f1 k hk).2.1) h0 (fun k hk => ⟨(f1 k hk).1, fun hc => hc.2 ⟨?_, (f1 k hk).2.1⟩⟩) (fun k hk => hk.1)
    have := (f1 k hk).2.2
    omega
  · rintro k ⟨h1, h2⟩
    refine ⟨by omega, by omega, fun hc => by omega, ?_, ?_, ?_, ?_⟩
    · rintro rfl; have := (hn k (.inl rfl)).1; omega
    · rintro rfl; have := (hn k (.inr (.inl rfl))).1; omega
    · rintro rfl; have := (hn k (.inr (.inr (.inl rfl)))).1; omega
    · rintro rfl; have := (hn k (.inr (.inr (.inr rfl)))).1; omega
  · rintro k ⟨h1, h2⟩
    refine ⟨by omega, by omega, ?_, ?_, ?_, ?_⟩
    · rintro rfl; have := (hn k (.inl rfl)).2; omega
    · rintro rfl; have := (hn k (.inr (.inl rfl))).2; omega
    · rintro rfl; have := (hn k (.inr (.inr (.inl rfl)))).2; omega
    · rintro rfl; have := (hn k (.inr (.inr (.inr rfl)))).2; omega
set_option maxRecDepth 100000 in
set_option maxHeartbeats 1600000 in
theorem poNew_ok {w0 w : World} (hb : Below w0.heap.size w0 w) (hmv : MvAt w) (hg0 : 0 < w0.heap.size) (c : Nat) (h1 : 1 ≤ c) (h2 : c ≤ 64) {nw : Int} (hn : nw < Dl.never) : Calls Tryz.prog 9 #[.int .i64 ((c : Nat) : Int), .int .u64 nw] w fun e w' => ∃ p O, e = .returned (.tuple #[.pointer (some ⟨p, 0, none⟩), .int .i64 0]) ∧ UAt w0 w' O p (X0 c nw) 0 0 ∧ (∀ k, O k → w.heap.size ≤ k) ∧ Below w.heap.size w w' := by
  have HL := Lib.hid (pkNew_ok (B := w0.heap.size) (S := fun k => w.heap.size ≤ k) w hmv hb.size hg0 (fun k hk => Nat.le_trans hb.size hk) (fun k hk => hk) c h1 h2)
  have HB0 := Lib.hid hb
  have HC1 := Lib.hid (And.intro h1 h2)
  have HG0 := Lib.hid hg0
  have HN := Lib.hid hn
  clear hb hmv hg0 h1 h2 hn
  go_enter Tryz.func9, Tryz.ntmps9
  go_wp2_with (go_at_call 38; fail)
  refine HL.out.mono ?_
  rintro e w1 ⟨l, rfl, hl1, hb1⟩
  have HD := Lib.hid (Dl.jNew_yes w0 w1 (fun k => k < w1.heap.size) (fun k hk => hk) (below_no HB0.out hb1) nw HN.out)
  simp only [Dl.pt] at HD
  have HB1 := Lib.hid hb1
  have HL1 := Lib.hid hl1
  clear hl1 hb1
  go_wp2_with (go_at_call 39; fail)
  refine HD.out.mono ?_
  rintro e w2 ⟨d, rfl, hd2, hb2⟩
  have HB2 := Lib.hid hb2
  have HJ := Lib.hid hd2
  clear hd2 hb2
  have HS := Lib.hid (Sl.slNew_ok w2 128 (by omega) (by omega))
  go_wp2_with (go_at_call 40; fail)
  refine HS.out.mono ?_
  rintro e w3 ⟨t, g, rfl, ht3, hb3, hlt, hlg⟩
  have HB3 := Lib.hid hb3
  have HT := Lib.hid ht3
  have HTG := Lib.hid (And.intro hlt hlg)
  clear ht3 hb3 hlt hlg
  obtain ⟨i0, hi0, hz0, hz1, hz2⟩ := info_parts infoReason
  have hcI : ((c : Nat) : Int) ≤ 64 := by have := HC1.out.2; omega
  have hcI1 : 1 ≤ ((c : Nat) : Int) := by have := HC1.out.1; omega
  go_wp2_with (with_reducible refine wpList_make_full _ rfl (.tmp 34) (.tmp 34) 66 rfl w3.heap.size 76 i0 (.int .i64 0) 1 Tryz.underlying66 hi0 hz0 hz1 _ _ _ _ c rfl rfl rfl rfl ?_ ?_ (Nat.le_refl _) ?_)
  · rw [hz2]; have := HC1.out.2; omega
  · have := HC1.out.2; unfold maxLen; omega
  intro W hown hgrow
  have HF : Hid (Below w3.heap.size w3 W) := Lib.hid (((fr_grown hgrow).mono (by simp)).below (F := []) (fun x hx => by simp at hx) (Nat.le_refl _))
  have HROW : Hid (Row TRs W w3.heap.size (.slice (some ⟨w3.heap.size, 0, none⟩) (List.replicate c (0 : Int)).length c) (List.replicate c 0)) := Lib.hid (by
    show W.ownsRow w3.heap.size 76 1 _ _ (flt TRs.enc (List.replicate c 0))
    rw [flt_replicate c 0 (s := 1) (fun _ => rfl) (by omega), List.length_replicate, Nat.mul_one]
    exact hown)
  obtain ⟨W5, hW5, hg5, hs5, hb5⟩ := alloc1 W (.cells #[.pointer (some ⟨t, 0, none⟩), .pointer (some ⟨l.a, 0, none⟩), .pointer (some ⟨d, 0, none⟩), .slice (some ⟨w3.heap.size, 0, none⟩) c c] 68)
  have HE : Hid (∃ O, UAt w0 W5 O W.heap.size (X0 c nw) 0 0 ∧ (∀ k, O k → w.heap.size ≤ k) ∧ Below w.heap.size w W5) := Lib.hid (by
    have b35 : Below w3.heap.size w3 W5 := HF.out.trans (hg5.below.mono HF.out.size)
    have b25 : Below w2.heap.size w2 W5 := HB3.out.trans (b35.mono HB3.out.size)
    have b15 : Below w1.heap.size w1 W5 := HB2.out.trans (b25.mono HB2.out.size)
    have b05 : Below w.heap.size w W5 := HB1.out.trans (b15.mono HB1.out.size)
    have s0 := HB0.out.size
    have s1 := HB1.out.size
    have s2 := HB2.out.size
    have s3 := HB3.out.size
    have s4 := HF.out.size
    have hlc : (List.replicate c (0 : Int)).length = c := List.length_replicate
    have htg := HTG.out
    have htl := HT.out.lt
    have hgl := HT.out.lg
    have hrr := (HROW.out.below hg5.below).lower (b' := w0.heap.size) (by omega)
    have hu := UB.make (al := w.heap.size) (ad := w1.heap.size) (wl := w1) (wd := w2) (wt := w3) (w5 := W5) (p := W.heap.size) HL1.out (Nat.le_refl _) s0 b15 HJ.out (by omega) b25 HT.out b35 (by rw [hlc]; exact hb5) hrr (by simp [Z0]) (by simp) (by omega) (.inl (Nat.le_refl _)) (fun k hk => by rcases hk with rfl | rfl | rfl | rfl <;> omega) (below_no HB0.out b05) HG0.out
    exact ⟨_, hu.at, fun k hk => by rcases hk with rfl | rfl | rfl | rfl | h | h <;> omega, b05⟩)
  have HW5 := Lib.hid hW5
  clear hW5 hg5 hs5 hb5 hown hgrow hi0 hz0 hz1 hz2
  go_wp2_with fail
  rw [HW5.out]
  go_ret2
  obtain ⟨O, h1, h2, h3⟩ := HE.out
  exact ⟨_, O, rfl, h1, h2, h3⟩
end
end Go.Proofs.YtcjeckjmoponkaaGreatDoor
