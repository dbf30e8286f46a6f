/- known: the examples of the chapter. -/
import Derived.Test.YtifdpdghjfcaaaaDoorFCall
import Derived.Test.YtifdpdghjfcaaaaDoorFReady
import Derived.Test.YtifdpdghjfcaaaaDoorFSame
import Derived.Test.YtifdpdghjfcaaaaDoorFNew
namespace Go.Proofs.YtifdpdghjfcaaaaDoor
open Go.RowKit Go.Sort Go.MapKept
set_option linter.unusedVariables false
set_option linter.unusedSimpArgs false

/-- A table that a law has made. -/
structure KS (w0 w : World) (l : Tl) (P : Ks) (Q : Qu) (g : Nat) : Prop where
  K : KAt w0.heap.size w l P Q g
  R : Rk P Q
  below : Below w0.heap.size w0 w
section
variable {w0 w w' : World} {l : Tl} {P : Ks} {Q : Qu} {g n : Nat} {p : Ck} {tg : Int}
theorem KS.grown (h : KS w0 w l P Q g) (hb : Below w.heap.size w w') : KS w0 w' l P Q g := ⟨h.K.grown hb, h.R, h.below.trans (hb.mono h.below.size)⟩
theorem KS.le (h : KS w0 w l P Q g) : ∀ x ∈ l.F, w0.heap.size ≤ x := fun x hx => by
  have := h.K.bc; have := h.K.bb; have := h.K.bm
  simp [Tl.F] at hx
  omega
theorem KS.did (h : KS w0 w l P Q g) (hp : P[n]? = some p) (hd : KAt w0.heap.size w' l (stepP P n tg g) (stepQ Q n tg g) (stepG tg g)) (hf : Fr l.F w w') : KS w0 w' l (stepP P n tg g) (stepQ Q n tg g) (stepG tg g) :=
  ⟨hd, h.R.step hp tg g, h.below.trans (hf.below h.le h.below.size)⟩
end
theorem ks_new {w0 w w' : World} {l : Tl} {c : Nat} (hb : Below w0.heap.size w0 w) (h0 : 0 < w0.heap.size) (h : KAt w.heap.size w' l (List.replicate c ⟨0, 0⟩) [] 0) (hb' : Below w.heap.size w w') : KS w0 w' l (List.replicate c ⟨0, 0⟩) [] 0 :=
  ⟨h.lower hb.size h0, rk_new c, hb.trans (hb'.mono hb.size)⟩

/-- A slice of integers that is written out. -/
theorem src_lit (w : World) (X : List Int) (cs : Array Value) (hc : cs.toList = X.map fun x => .int .i64 x) (hl : X.length ≤ 1000) : Src TI (w.alloc (.cells cs 3)) (.slice (some ⟨w.heap.size, 0, none⟩) X.length X.length) X := by
  refine .inr ⟨w.heap.size, 0, X.length, rfl, Nat.le_refl _, by unfold maxLen; omega, by simp, fun j x hx i u hu => ?_⟩
  have hi : i = 0 ∧ u = .int .i64 x := by
    match i with
    | 0 => simp [TI] at hu; exact ⟨rfl, hu.symm⟩
    | i + 1 => simp [TI] at hu
  obtain ⟨rfl, rfl⟩ := hi
  refine cell_new _ _ _ _ _ _ rfl ?_
  rw [← Array.getElem?_toList, hc]
  simp [TI, hx]

set_option maxRecDepth 100000 in
set_option maxHeartbeats 6400000 in
theorem known_any (w : World) (hmv : MvAt w) : Calls Tryd.prog 8 #[] w fun e w' => e = .returned (.bool true) ∧ Below w.heap.size w w' := by
  have HN0 := Lib.hid (tkNew_bad w 0 (by omega))
  have HN65 := Lib.hid (tkNew_bad w 65 (by omega))
  have HN3 := Lib.hid (tkNew_ok w hmv 3 (by omega) (by omega))
  have HM := Lib.hid hmv
  clear hmv
  go_enter Tryd.func8, Tryd.ntmps8
  go_wp2_with (first
    | (go_at_call_of 9 (Value.int IntKind.i64 0); refine HN0.out.mono ?_; rintro e w1 ⟨rfl, h1⟩; have h2 := h1.symm; clear h1; subst h2)
    | (go_at_call_of 9 (Value.int IntKind.i64 65); refine HN65.out.mono ?_; rintro e w1 ⟨rfl, h1⟩; have h2 := h1.symm; clear h1; subst h2)
    | (go_at_call 9; fail))
  refine HN3.out.mono ?_
  rintro e w3 ⟨l, rfl, hT, hb⟩
  have K0 : Hid (KS w w3 l [⟨0, 0⟩, ⟨0, 0⟩, ⟨0, 0⟩] [] 0) := Lib.hid (ks_new (Below.refl _ _) HM.out.lt hT hb)
  clear HN0 HN65 HN3 hT hb
  go_wp2_with (go_at_call 16; fail)
  refine (tkStart_yes (n := 2) (p := ⟨0, 0⟩) K0.out.K K0.out.R (by omega) rfl rfl).mono ?_
  rintro e v1 ⟨rfl, hd, hf⟩
  have K1 : Hid (KS w v1 l [⟨0, 0⟩, ⟨0, 0⟩, ⟨1, 1⟩] [(1, 2)] 1) := Lib.hid (K0.out.did (p := ⟨0, 0⟩) rfl hd hf)
  clear hd hf K0
  go_wp2_with (go_at_call 16; fail)
  refine (tkStart_yes (n := 0) (p := ⟨0, 0⟩) K1.out.K K1.out.R (by omega) rfl rfl).mono ?_
  rintro e v2 ⟨rfl, hd, hf⟩
  have K2 : Hid (KS w v2 l [⟨1, 2⟩, ⟨0, 0⟩, ⟨1, 1⟩] [(1, 2), (2, 0)] 2) := Lib.hid (K1.out.did (p := ⟨0, 0⟩) rfl hd hf)
  clear hd hf K1
  go_wp2_with (go_at_call 16; fail)
  refine (tkStart_state (n := 0) (p := ⟨1, 2⟩) K2.out.K rfl (by decide)).mono ?_
  rintro e v3 ⟨rfl, hg⟩
  have K3 := Lib.hid (K2.out.grown hg.below)
  clear hg K2
  go_wp2_with (go_at_call 13; fail)
  refine (tkReady_yes K3.out.K (by omega)).mono ?_
  rintro e v4 ⟨u, rfl, hr, hb⟩
  obtain ⟨ua, un, uc, rfl⟩ := row_form hr
  have hba := below_alloc v4 (.cells #[.int .i64 2, .int .i64 0] 3)
  have HA : Hid (Src TI (v4.alloc (.cells #[.int .i64 2, .int .i64 0] 3)) (.slice ua un uc) [2, 0]) := Lib.hid ((hr.src TI_ok).grown hba)
  have HL : Hid (Src TI (v4.alloc (.cells #[.int .i64 2, .int .i64 0] 3)) (.slice (some ⟨v4.heap.size, 0, none⟩) 2 2) [2, 0]) := Lib.hid (src_lit v4 [2, 0] _ rfl (by decide))
  have K4 := Lib.hid ((K3.out.grown hb).grown hba)
  clear hr hb hba K3
  go_wp2_with (go_at_call 23; fail)
  refine (same_yes HA.out HL.out (by decide)).mono ?_
  rintro e v5 ⟨rfl, hg⟩
  have K5 := Lib.hid (K4.out.grown hg.below)
  clear hg K4 HA HL
  go_wp2_with (go_at_call 17; fail)
  refine (tkPark_yes (n := 2) (p := ⟨1, 1⟩) K5.out.K K5.out.R (by omega) rfl rfl).mono ?_
  rintro e v6 ⟨rfl, hd, hf⟩
  have K6 : Hid (KS w v6 l [⟨1, 2⟩, ⟨0, 0⟩, ⟨2, 0⟩] [(2, 0)] 2) := Lib.hid (K5.out.did (p := ⟨1, 1⟩) rfl hd hf)
  clear hd hf K5
  go_wp2_with (go_at_call 16; fail)
  refine (tkStart_yes (n := 1) (p := ⟨0, 0⟩) K6.out.K K6.out.R (by omega) rfl rfl).mono ?_
  rintro e v7 ⟨rfl, hd, hf⟩
  have K7 : Hid (KS w v7 l [⟨1, 2⟩, ⟨1, 3⟩, ⟨2, 0⟩] [(2, 0), (3, 1)] 3) := Lib.hid (K6.out.did (p := ⟨0, 0⟩) rfl hd hf)
  clear hd hf K6
  go_wp2_with (go_at_call 18; fail)
  refine (tkWake_yes (n := 2) (p := ⟨2, 0⟩) K7.out.K K7.out.R (by omega) rfl rfl).mono ?_
  rintro e v8 ⟨rfl, hd, hf⟩
  have K8 : Hid (KS w v8 l [⟨1, 2⟩, ⟨1, 3⟩, ⟨1, 4⟩] [(2, 0), (3, 1), (4, 2)] 4) := Lib.hid (K7.out.did (p := ⟨2, 0⟩) rfl hd hf)
  clear hd hf K7
  go_wp2_with (go_at_call 13; fail)
  refine (tkReady_yes K8.out.K (by omega)).mono ?_
  rintro e v9 ⟨u, rfl, hr, hb⟩
  obtain ⟨ua, un, uc, rfl⟩ := row_form hr
  have hba := below_alloc v9 (.cells #[.int .i64 0, .int .i64 1, .int .i64 2] 3)
  have HA : Hid (Src TI (v9.alloc (.cells #[.int .i64 0, .int .i64 1, .int .i64 2] 3)) (.slice ua un uc) [0, 1, 2]) := Lib.hid ((hr.src TI_ok).grown hba)
  have HL : Hid (Src TI (v9.alloc (.cells #[.int .i64 0, .int .i64 1, .int .i64 2] 3)) (.slice (some ⟨v9.heap.size, 0, none⟩) 3 3) [0, 1, 2]) := Lib.hid (src_lit v9 [0, 1, 2] _ rfl (by decide))
  have K9 := Lib.hid ((K8.out.grown hb).grown hba)
  clear hr hb hba K8
  go_wp2_with (go_at_call 23; fail)
  refine (same_yes HA.out HL.out (by decide)).mono ?_
  rintro e v10 ⟨rfl, hg⟩
  have K10 := Lib.hid (K9.out.grown hg.below)
  clear hg K9 HA HL
  go_wp2_with (go_at_call 18; fail)
  refine (tkWake_state (n := 2) (p := ⟨1, 4⟩) K10.out.K rfl (by decide)).mono ?_
  rintro e v11 ⟨rfl, hg⟩
  have K11 := Lib.hid (K10.out.grown hg.below)
  clear hg K10
  go_wp2_with (go_at_call 20; fail)
  refine (tkTurn_yes (n := 0) (p := ⟨1, 2⟩) K11.out.K K11.out.R (by omega) rfl rfl).mono ?_
  rintro e v12 ⟨rfl, hd, hf⟩
  have K12 : Hid (KS w v12 l [⟨1, 5⟩, ⟨1, 3⟩, ⟨1, 4⟩] [(3, 1), (4, 2), (5, 0)] 5) := Lib.hid (K11.out.did (p := ⟨1, 2⟩) rfl hd hf)
  clear hd hf K11
  go_wp2_with (go_at_call 15; fail)
  refine (tkNext_yes K12.out.K).mono ?_
  rintro e v13 ⟨rfl, hg⟩
  have K13 := Lib.hid (K12.out.grown hg.below)
  clear hg K12
  go_wp2_with (go_at_call 19; fail)
  refine (tkFinish_yes (n := 1) (p := ⟨1, 3⟩) K13.out.K K13.out.R (by omega) rfl rfl).mono ?_
  rintro e v14 ⟨rfl, hd, hf⟩
  have K14 : Hid (KS w v14 l [⟨1, 5⟩, ⟨0, 0⟩, ⟨1, 4⟩] [(4, 2), (5, 0)] 5) := Lib.hid (K13.out.did (p := ⟨1, 3⟩) rfl hd hf)
  clear hd hf K13
  go_wp2_with (go_at_call 13; fail)
  refine (tkReady_yes K14.out.K (by omega)).mono ?_
  rintro e v15 ⟨u, rfl, hr, hb⟩
  obtain ⟨ua, un, uc, rfl⟩ := row_form hr
  have hba := below_alloc v15 (.cells #[.int .i64 2, .int .i64 0] 3)
  have HA : Hid (Src TI (v15.alloc (.cells #[.int .i64 2, .int .i64 0] 3)) (.slice ua un uc) [2, 0]) := Lib.hid ((hr.src TI_ok).grown hba)
  have HL : Hid (Src TI (v15.alloc (.cells #[.int .i64 2, .int .i64 0] 3)) (.slice (some ⟨v15.heap.size, 0, none⟩) 2 2) [2, 0]) := Lib.hid (src_lit v15 [2, 0] _ rfl (by decide))
  have K15 := Lib.hid ((K14.out.grown hb).grown hba)
  clear hr hb hba K14
  go_wp2_with (go_at_call 23; fail)
  refine (same_yes HA.out HL.out (by decide)).mono ?_
  rintro e v16 ⟨rfl, hg⟩
  have K16 := Lib.hid (K15.out.grown hg.below)
  clear hg K15 HA HL
  go_wp2_with (go_at_call 14; fail)
  refine (tkState_yes (n := 1) (p := ⟨0, 0⟩) K16.out.K rfl).mono ?_
  rintro e v17 ⟨rfl, he⟩
  have he := he.symm
  subst he
  go_wp2_with (go_at_call 14; fail)
  refine (tkState_bad (N := 3) K16.out.K (.inr (by decide))).mono ?_
  rintro e v17 ⟨rfl, he⟩
  have he := he.symm
  subst he
  go_wp2_with fail
  go_ret
  exact ⟨rfl, K16.out.below⟩
end Go.Proofs.YtifdpdghjfcaaaaDoor
