/- New and Copy. -/
import Derived.Test.YtcdimopiaanfbaaDoorPWake
import Derived.Test.YtcdimopiaanfbaaDoorFNew
namespace Go.Proofs.YtcdimopiaanfbaaDoor
open Go.RowKit Go.Sort Go.MapKept
set_option linter.unusedVariables false
set_option linter.unusedSimpArgs false

def Z0 (c : Nat) : Zt := ⟨List.replicate c 0, [], []⟩
section
variable {B : Nat} {S : Nat → Prop} {w w' : World} {l : Ll} {P : Ks} {Q : Qu} {g i k : Nat} {f : Sp → Option Qd} {pl : Int → Option Pl} {z : Zt} {G : Nat} {s : Sp} {p : Ck}
theorem pkNew_bad (w : World) (c : Int) (h : c < 1 ∨ 64 < c) : Calls Tryd.prog 9 #[.int .i64 c] w fun e w' => e = .returned (.tuple #[.pointer none, .int .i64 2]) ∧ w' = w := by
  have hu := Lib.hid (tkNew_bad w c h)
  clear h
  go_enter Tryd.func9, Tryd.ntmps9
  go_wp2_with (go_at_call 30; refine hu.out.mono ?_; rintro e w2 ⟨rfl, rfl⟩)
  go_ret2
  exact ⟨rfl, rfl⟩
theorem zok_new (c : Nat) : ZOk (List.replicate c ⟨0, 0⟩) [] (fun _ => none) (fun _ => none) [] 0 := by
  refine ⟨rk_new c, fun i p hp => ?_, fun i hi => by simp at hi, List.nodup_nil, fun s d hd => by simp at hd, fun s _ => rfl, fun i s hi => by simp at hi, fun _ _ => rfl, fun x hx => by simp at hx⟩
  rw [List.getElem?_replicate] at hp
  split at hp
  · cases hp; simp
  · cases hp
set_option maxHeartbeats 1600000 in
theorem pkNew_ok (w : World) (hmv : MvAt w) (hB : B ≤ w.heap.size) (hB0 : 0 < B) (hS1 : ∀ x, S x → B ≤ x) (hS2 : ∀ x, w.heap.size ≤ x → S x) (c : Nat) (h1 : 1 ≤ c) (h2 : c ≤ 64) :
    Calls Tryd.prog 9 #[.int .i64 ((c : Nat) : Int)] w fun e w' => ∃ l, e = .returned (.tuple #[.pointer (some ⟨l.a, 0, none⟩), .int .i64 0]) ∧ LS B S w' l (Z0 c) 0 ∧ Below w.heap.size w w' := by
  have hu := Lib.hid (tkNew_ok w hmv c h1 h2)
  have hmm := @run_makeMap Tryd.prog
  have HH := Lib.hid (And.intro hB (And.intro hB0 (And.intro hS1 hS2)))
  clear hmv h1 h2 hB hB0 hS1 hS2
  go_enter Tryd.func9, Tryd.ntmps9
  go_wp2_with (go_at_call 30; fail)
  refine hu.out.mono ?_
  rintro e w1 ⟨t, rfl, hK, hb⟩
  have HK := Lib.hid hK
  have HB := Lib.hid hb
  clear hK hb hu
  go_wp2_with fail
  go_ret2
  obtain ⟨hB, hB0, hS1, hS2⟩ := HH.out
  have hK := HK.out
  have hb := HB.out
  have hsz := hb.size
  have b1 := below_alloc w1 (.map #[] 0)
  have b2 := below_alloc (w1.alloc (.map #[] 0)) (.map #[] 0)
  have b3 := below_alloc ((w1.alloc (.map #[] 0)).alloc (.map #[] 0)) (.cells #[.pointer (some ⟨t.t, 0, none⟩), .map (some w1.heap.size), .map (some (w1.heap.size + 1))] 53)
  have hb13 := (b1.trans (b2.mono (by simp))).trans (b3.mono (by simp; omega))
  have up : ∀ x, w.heap.size ≤ x → S x := hS2
  have hg := hK.grown hb13
  have ht1 := hK.bt
  have ht2 := hK.bc
  have ht3 := hK.bq
  have ht4 := hK.bb
  have ht5 := hK.bm
  have lm := hK.qa.lm
  have m1 := (mapAt_made TQ w1).same (b2.block _ (by simp))
  have m1' := m1.same (b3.block _ (by simp; omega))
  have m2 := (mapAt_made TP (w1.alloc (.map #[] 0))).same (b3.block _ (by simp))
  simp only [World.size_alloc] at m2
  refine ⟨⟨w1.heap.size + 1 + 1, t, w1.heap.size, w1.heap.size + 1⟩, by simp, ⟨_, _, _, fun _ => none, fun _ => none, ⟨?_, hg.lower hB hB0, ⟨0, m1'⟩, ⟨0, m2⟩, fun s d hd => by simp at hd, fun s s' d d' hd => by simp at hd, fun s d hd => by simp at hd, by simp, by simp only; omega, by simp only; omega, ⟨up _ (by simp only; omega), up _ (by simp only; omega), up _ (by simp only; omega)⟩, ⟨up _ ht1, up _ ht2, up _ ht3, up _ ht4, up _ ht5⟩, hS1, fun x hx => up x (by simp at hx; omega)⟩, zok_new c, Nat.le_refl _, ?_, rfl⟩, hb.trans (hb13.mono hsz)⟩
  · exact block_new _ _ _ (by simp)
  · show List.replicate c 0 = sts _
    simp [sts]
set_option maxRecDepth 100000 in
set_option maxHeartbeats 1600000 in
theorem pclone_any {n : Nat} {m : Nat} (h : MapAt TP w m n pl) : Calls Tryd.prog 60 #[.map (some m)] w fun e w' => e = .returned (.map (some w.heap.size)) ∧ MapAt TP w' w.heap.size n pl ∧ Grn w w' ∧ w'.heap.size = w.heap.size + 1 := by
  obtain ⟨M, es, clock, hb, r⟩ := h
  have hq := fun w => Go.Proofs.run_eql_map_nil_sl (P := Tryd.prog) w 51 _ _ (some m) Tryd.underlying51
  go_enter Tryd.func60, Tryd.ntmps60
  go_wp2
  rw [run_callFunc_extern Tryd.func78 (by kernel_rfl) (by kernel_rfl) (by kernel_rfl) (e := Extern.MapsClone.clone) (by kernel_rfl), Go.Proofs.run_maps_clone_sl w 51 hb]
  simp only [Result.andThen]
  rw [Oper.upon_value]
  go_wp2
  rw [Go.Proofs.run_typeAssert_map_sl _ 51 20 _ _ _ Tryd.underlying51]
  simp only [Result.andThen]
  rw [Oper.upon_value]
  go_wp2
  go_ret
  exact ⟨rfl, ⟨M, es, clock, heap_alloc_new _ _, r⟩, (Grn.refl w).alloc _, by simp⟩

/-- How far the queues have been copied. -/
structure CpAt (w0 : World) (m3 : Nat) (f : Sp → Option Qd) (wr : World) (left : Sp → Bool) (f' : Sp → Option Qd) : Prop where
  mp : ∃ n, MapAt TQ wr m3 n (fun s => (f' s).map (·.q))
  l1 : ∀ s, left s = true → f' s = none
  l2 : ∀ s, f' s = none → left s = true ∨ f s = none
  qs : ∀ s d', f' s = some d' → ∃ d, f s = some d ∧ d'.L = d.L ∧ d'.g = d.g ∧ QAt wr d'.q d'.b d'.m d'.L d'.g ∧ w0.heap.size ≤ d'.q ∧ w0.heap.size ≤ d'.b ∧ w0.heap.size ≤ d'.m ∧ d'.m ≠ m3
  ap : ∀ s s' d d', f' s = some d → f' s' = some d' → s ≠ s' → d.b ≠ d'.b ∧ d.m ≠ d'.m
  z : w0.heap.size ≤ wr.heap.size
theorem CpAt.same {w0 wr wr' : World} {m3 : Nat} {left : Sp → Bool} {f' : Sp → Option Qd} {F : List Nat} (h : CpAt w0 m3 f wr left f') (hf : Fr F wr wr') (hF : ∀ x ∈ F, ∀ o, wr.heap[x]? = some o → (∀ y u, o ≠ .cells y u (0, 0)) ∧ ∀ y u, o ≠ .map y u) : CpAt w0 m3 f wr' left f' := by
  obtain ⟨n, hm⟩ := h.mp
  have hc : ∀ {k : Nat} {y : Array Value} {u : TypeId}, wr.heap[k]? = some (.cells y u (0, 0)) → k ∉ F := fun hk hx => (hF _ hx _ hk).1 _ _ rfl
  have hmm : ∀ {k : Nat} {y : Array MapEntry} {u : Nat}, wr.heap[k]? = some (.map y u) → k ∉ F := fun hk hx => (hF _ hx _ hk).2 _ _ rfl
  have h1 : m3 ∉ F := by obtain ⟨_, _, _, hb, _⟩ := hm; exact hmm hb
  refine ⟨⟨n, hm.same (hf.block _ hm.lt h1)⟩, h.l1, h.l2, fun s d' hd => ?_, h.ap, Nat.le_trans h.z hf.size⟩
  obtain ⟨d, a, b, c, hq, r⟩ := h.qs s d' hd
  refine ⟨d, a, b, c, hq.fr hf (hc hq.q) (hc hq.b) ?_, r⟩
  obtain ⟨_, _, _, hb, _⟩ := hq.m
  exact hmm hb
theorem CpAt.grown {w0 wr wr' : World} {m3 : Nat} {left : Sp → Bool} {f' : Sp → Option Qd} (h : CpAt w0 m3 f wr left f') (hb : Below wr.heap.size wr wr') : CpAt w0 m3 f wr' left f' := h.same (Fr.of_below hb []) (fun x hx => by cases hx)
theorem CpAt.put {w0 wr w2 w3 : World} {m3 : Nat} {left left' : Sp → Bool} {f' : Sp → Option Qd} (h : CpAt w0 m3 f wr left f') {k : Sp} {d : Qd} (hd : f k = some d) {q b m n : Nat} (hq : QAt w2 q b m d.L d.g) (hg : Grn wr w2)
    (k1 : wr.heap.size ≤ q) (k2 : wr.heap.size ≤ b) (k3 : wr.heap.size ≤ m) (hm : MapAt TQ w3 m3 n (updG (fun s => (f' s).map (·.q)) k (some q))) (hfr : Fr [m3] w2 w3) (hleft : ∀ j, left' j = (left j && !decide (j = k))) :
    CpAt w0 m3 f w3 left' (updG f' k (some ⟨q, b, m, d.L, d.g⟩)) := by
  have h2 := h.grown hg.below
  obtain ⟨n0, hm0⟩ := h.mp
  have hm0' := hm0.lt
  obtain ⟨n2, hm2⟩ := h2.mp
  have hz := h.z
  have cases' : ∀ t x, updG f' k (some ⟨q, b, m, d.L, d.g⟩) t = some x → (t = k ∧ x = ⟨q, b, m, d.L, d.g⟩) ∨ (t ≠ k ∧ f' t = some x) := fun t x hx => by
    unfold updG at hx
    by_cases e : t = k
    · rw [if_pos e] at hx; cases hx; exact .inl ⟨e, rfl⟩
    · rw [if_neg e] at hx; exact .inr ⟨e, hx⟩
  refine ⟨⟨n, hm.congr (fun t => ?_)⟩, fun s hs => ?_, fun s hs => ?_, fun s d' hd' => ?_, fun t t' x x' hx hx' hne => ?_, Nat.le_trans h2.z hfr.size⟩
  · unfold updG
    by_cases e : t = k <;> simp [e]
  · rw [hleft] at hs
    simp at hs
    unfold updG
    rw [if_neg hs.2]
    exact h.l1 s hs.1
  · unfold updG at hs
    by_cases e : s = k
    · rw [if_pos e] at hs; cases hs
    · rw [if_neg e] at hs
      rcases h.l2 s hs with h3 | h3
      · left; rw [hleft, h3]; simp [e]
      · exact .inr h3
  · rcases cases' s d' hd' with ⟨e, rfl⟩ | ⟨e, hd'⟩
    · subst e
      refine ⟨d, hd, rfl, rfl, hq.fr hfr ?_ ?_ ?_, by simp only; omega, by simp only; omega, by simp only; omega, by simp only; omega⟩
      · have := hm2.ne hq.q; simpa using this
      · have := hm2.ne hq.b; simpa using this
      · simp; omega
    · obtain ⟨d0, a, b', c, hq', e1, e2, e3, e4⟩ := h2.qs s d' hd'
      refine ⟨d0, a, b', c, hq'.fr hfr ?_ ?_ (by simpa using e4), e1, e2, e3, e4⟩
      · have := hm2.ne hq'.q; simpa using this
      · have := hm2.ne hq'.b; simpa using this
  · rcases cases' t x hx with ⟨e1, e2⟩ | ⟨e, hy⟩
    · rcases cases' t' x' hx' with ⟨e3, e4⟩ | ⟨e', hy'⟩
      · exact absurd (e1.trans e3.symm) hne
      · subst e2
        obtain ⟨_, _, _, _, hq', _⟩ := h.qs t' x' hy'
        have h3 := hq'.lb
        have h4 := hq'.lm
        simp only
        omega
    · rcases cases' t' x' hx' with ⟨e3, e4⟩ | ⟨e', hy'⟩
      · subst e4
        obtain ⟨_, _, _, _, hq', _⟩ := h.qs t x hy
        have h3 := hq'.lb
        have h4 := hq'.lm
        simp only
        omega
      · exact h.ap t t' x x' hy hy' hne
/-- How many entries are still to come. -/
def itLeft (w : World) (m r : Nat) : Nat := match w.heap[m]?, w.heap[r]? with
  | some (.map es _), some (.mapIter _ _ seen _) => (leftOf es seen).size
  | _, _ => 0
theorem ItAt.itLeft {κ ν : Type} [DecidableEq κ] {T : GM κ ν} {m r cnt : Nat} {f : κ → Option ν} {left : κ → Bool} (h : ItAt T w m r f left cnt) : itLeft w m r = cnt := by
  obtain ⟨M, es, clock, since, c0, seen, a1, a2, a3, a4, a5, a6, a7, a8, a9, a10, a11⟩ := h
  unfold Proofs.YtcdimopiaanfbaaDoor.itLeft
  rw [a1, a6, a10]
/-- The copy. -/
theorem copy_done {w0 W1 W2 W3 W : World} {m3 : Nat} {left : Sp → Bool} {f' : Sp → Option Qd} {t : Tl} {np : Nat} (hB0 : 0 < w0.heap.size) (hZ : ZOk P Q f pl z.L G) (hg : g ≤ G) (h1 : z.S = sts P) (h2 : z.R = vls Q)
    (hC : CpAt w0 m3 f W1 left f') (hl : ∀ k, left k = false) (hm3 : w0.heap.size ≤ m3) (hd : Below W1.heap.size W1 W2) (hK : KAt W2.heap.size W3 t P Q g) (hb3 : Below W2.heap.size W2 W3) (hp : MapAt TP W W3.heap.size np pl) (hb4 : Below W3.heap.size W3 W) (hs4 : W.heap.size = W3.heap.size + 1) :
    LS w0.heap.size (fun x => w0.heap.size ≤ x) (W.alloc (.cells #[.pointer (some ⟨t.t, 0, none⟩), .map (some m3), .map (some W3.heap.size)] 53)) ⟨W.heap.size, t, m3, W3.heap.size⟩ z G := by
  have b5 := below_alloc W (.cells #[.pointer (some ⟨t.t, 0, none⟩), .map (some m3), .map (some W3.heap.size)] 53)
  have s1 := hC.z
  have s2 := hd.size
  have s3 := hb3.size
  have s4 := hb4.size
  obtain ⟨n3, hm0⟩ := hC.mp
  have lm3 := hm0.lt
  have hC5 : CpAt w0 m3 f (W.alloc (.cells #[.pointer (some ⟨t.t, 0, none⟩), .map (some m3), .map (some W3.heap.size)] 53)) left f' := (((hC.grown hd).grown hb3).grown hb4).grown b5
  have hK5 := (hK.grown hb4).grown b5
  have t1 := hK.bt
  have t2 := hK.bc
  have t3 := hK.bq
  have t4 := hK.bb
  have t5 := hK.bm
  have t6 := hK.qa.lm
  have some' : ∀ s d', f' s = some d' → ∃ d, f s = some d ∧ d'.L = d.L ∧ d'.g = d.g ∧ d'.b < W1.heap.size ∧ d'.m < W1.heap.size ∧ d'.m ≠ m3 := fun s d' hd' => by
    obtain ⟨d, a, b, c, hq, e1, e2, e3, e4⟩ := hC.qs s d' hd'
    exact ⟨d, a, b, c, hq.lb, hq.lm, e4⟩
  refine ⟨P, Q, g, f', pl, ⟨block_new _ _ _ rfl, hK5.lower (by omega) hB0, hC5.mp, ⟨np, hp.same (b5.block _ hp.lt)⟩, fun s d' hd' => ?_, hC.ap, fun s d' hd' => ?_, by simp only; omega, by simp only; omega, by simp only; omega, ⟨(show w0.heap.size ≤ W.heap.size by omega), hm3, (show w0.heap.size ≤ W3.heap.size by omega)⟩, ⟨(show w0.heap.size ≤ t.t by omega), (show w0.heap.size ≤ t.c by omega), (show w0.heap.size ≤ t.q by omega), (show w0.heap.size ≤ t.b by omega), (show w0.heap.size ≤ t.m by omega)⟩, fun x hx => hx, fun x hx => by show w0.heap.size ≤ x; simp at hx; omega⟩, ?_, hg, h1, h2⟩
  · obtain ⟨d, _, _, _, hq, _⟩ := hC5.qs s d' hd'
    exact hq
  · obtain ⟨d, a, b, c, hq, e1, e2, e3, e4⟩ := hC.qs s d' hd'
    have := hq.lb
    have := hq.lm
    exact ⟨⟨(show d'.b ≠ t.b by omega), (show d'.m ≠ t.m by omega), e4, (show d'.m ≠ W3.heap.size by omega)⟩, e1, e2, e3⟩
  · refine ⟨hZ.rk, hZ.st, hZ.inP, hZ.nd, fun s d' hd' => ?_, fun s hs => ?_, fun i s hi => ?_, hZ.p0, hZ.sp⟩
    · obtain ⟨d, a, b, c, _⟩ := some' s d' hd'
      rw [b, c]
      exact hZ.qf s d a
    · rcases hC.l2 s hs with h | h
      · rw [hl] at h; cases h
      · exact hZ.q0 s h
    · obtain ⟨k, d, a, b, c⟩ := hZ.p1 i s hi
      cases hs : f' s with
      | none =>
        rcases hC.l2 s hs with h | h
        · rw [hl] at h; cases h
        · rw [h] at b; cases b
      | some d' =>
        obtain ⟨d2, a2, b2, c2, _⟩ := some' s d' hs
        rw [b] at a2
        cases a2
        exact ⟨k, d', a, rfl, by rw [b2]; exact c⟩
end
end Go.Proofs.YtcdimopiaanfbaaDoor
