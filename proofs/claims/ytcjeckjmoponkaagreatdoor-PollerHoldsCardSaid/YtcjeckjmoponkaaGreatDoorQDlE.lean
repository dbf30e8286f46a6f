/- QDlE: JCall, JClear, JNew, JCopy, JSort, JSorted, JAdv, JNil, merged. -/
import Derived.Test.YtcjeckjmoponkaaGreatDoorQDlD
import Derived.Laws.Tables
import Derived.Laws.Rows
import Derived.Test.YtcjeckjmoponkaaGreatDoorJSortL
import Derived.Outline
import Derived.Test.YtcjeckjmoponkaaGreatDoorQMix
/- The calls of deadlines: Set, Get, Passed, Next, Now. -/
namespace Go.Proofs.YtcjeckjmoponkaaGreatDoor.Dl
open Go.RowKit Go.Sort
set_option linter.unusedVariables false
set_option linter.unusedSimpArgs false

variable {w0 w : World} {G : Nat → Prop} {a : Nat} {now : Int} {f : Nat → Int} {P : Nat}

theorem jset_body {bb cl ta : Nat} {S : List El} {gs : List Nat} {tn tg : Nat → Int} (B : JB w0 G w a bb cl ta now f (DI now f S gs tn tg) S gs tn tg P) {q r : Nat} (hq : q < 128) (hr : r < 2) (d : Int) (hd : d ≤ never) (hT : Tab w0) (hP : P < 9223372036854775807) :
    Calls Tryz.prog 114 #[pt bb, plc q r, .int .u64 d] w fun e w' => e = .returned (.tuple #[]) ∧ SetR w0 G w w' a bb cl ta now (upd f (q * 2 + r) d) (P + 1) := by
  by_cases h : ∃ e ∈ S, e.v = ((q * 2 + r : Nat) : Int)
  · obtain ⟨e, he, hv⟩ := h
    exact jset_yes B hq hr he hv d hd hT hP
  · exact jset_no B hq hr (fun e he hv => h ⟨e, he, hv⟩) d hd hT hP

theorem grn_gr (w : World) (m : Nat) (os : Array Obj) : Grn w (grow (w.drewN m) os) := ⟨m, os, rfl⟩

set_option maxRecDepth 100000 in
set_option maxHeartbeats 3200000 in
theorem jSet_yes (J : JAt w0 G w a now f P) {q r : Nat} (hq : q < 128) (hr : r < 2) (d : Int) (hd : d ≤ never) (hT : Tab w0) (hP : P < 9223372036854775807) :
    Calls Tryz.prog 67 #[pt a, plc q r, .int .u64 d] w fun e w' => e = .returned (.tuple #[.bool (decide (d ≤ now)), .int .i64 0]) ∧ JAt w0 G w' a now (upd f (q * 2 + r) d) (P + 1) ∧ Keep G w w' := by
  obtain ⟨bb, cl, ta, S, gs, tn, tg, B⟩ := J
  obtain ⟨ans, hans⟩ : ∃ ans, decide (d ≤ now) = ans := ⟨_, rfl⟩
  rw [hans]
  have HA := Lib.hid hans
  clear hans
  obtain ⟨W, hW⟩ : ∃ W, w.alloc (.cells #[.int .i64 q, .int .i64 r] 132) = W := ⟨_, rfl⟩
  have hG : Grn w W := by rw [← hW]; exact (Grn.refl w).alloc _
  have HB1 := Lib.hid (B.grown hG.below)
  have K1 := Lib.hid (B.keep hG.below)
  have x0 : W.cell? ⟨w.heap.size, 0, none⟩ = some (.int .i64 q) := by rw [← hW]; exact cell_new _ _ _ _ _ _ rfl rfl
  have x1 : W.cell? ⟨w.heap.size, 1, none⟩ = some (.int .i64 r) := by rw [← hW]; exact cell_new _ _ _ _ _ _ rfl rfl
  have hfind := Lib.hid (jfind_yes a bb q r hq hr HB1.out.ca)
  have hsz0 := Lib.hid B.below.size
  have hGl := Lib.hid B.glt
  have hWs : Hid (w.heap.size ≤ W.heap.size) := Lib.hid hG.below.size
  have HW := Lib.hid hW
  have HQ := Lib.hid (And.intro hq hr)
  clear B hG hW
  unfold pt plc at *
  go_enter Tryz.func67, Tryz.ntmps67
  go_wp2_with fail
  rw [HW.out]
  go_wp2_with (go_at_call 113; fail)
  refine hfind.out.mono ?_
  rintro e w2 ⟨rfl, hg2⟩
  have hb2 := hg2.below
  have HB2 := HB1.out.grown hb2
  have K2 := Lib.hid (K1.out.trans (fun k hk => hb2.block k (HB1.out.glt k hk)))
  have hs2 : Hid (w.heap.size ≤ w2.heap.size) := Lib.hid (Nat.le_trans hWs.out hb2.size)
  have HB2 := Lib.hid HB2
  obtain ⟨w3, hW3⟩ : ∃ w3, w2.alloc (.cells #[.int .i64 q, .int .i64 r] 211) = w3 := ⟨_, rfl⟩
  have hb3 : Below w2.heap.size w2 w3 := by rw [← hW3]; exact (Below.refl _ _).alloc (Nat.le_refl _) _
  have HB3 : Hid (JB w0 (GR G w2.heap.size) w3 a bb cl ta now f (DI now f S gs tn tg) S gs tn tg P) := Lib.hid (HB2.out.more hb3 (fun k hk => by
    rcases hk with h | h
    · exact .inl h
    · subst h; exact .inr ⟨Nat.le_refl _, by rw [← hW3]; simp⟩))
  have K3 := Lib.hid (K2.out.trans (fun k hk => hb3.block k (HB2.out.glt k hk)))
  have R3 : Hid (w3.heap[w2.heap.size]? = some (.cells #[.int .i64 q, .int .i64 r] 211 (0, 0))) := by rw [← hW3]; exact Lib.hid (block_new _ _ _ rfl)
  have HW3 := Lib.hid hW3
  clear hg2 hb2 x0 x1 HB1 K1 hW3 hb3
  go_wp2_with fail
  rw [HW3.out]
  have ca := HB3.out.ca
  have y0 := cells_cell (o := 0) R3.out rfl
  have y1 := cells_cell (o := 1) R3.out rfl
  have hdr : Below w3.heap.size w3 (w3.drewN 1) := (fr_drewN w3 1 []).below (fun _ hx => by simp at hx) (Nat.le_refl _)
  have hset := Lib.hid (jset_body (HB3.out.grown hdr) HQ.out.1 HQ.out.2 d hd hT hP)
  have HDR := Lib.hid hdr
  clear hdr
  unfold pt plc at *
  go_still_tail 6, (by kernel_rfl)
  change wpList _ _ _ _ _ (w3.drewN 1)
  go_wp2_with (go_at_call 114; fail)
  refine hset.out.mono ?_
  rintro e w4 ⟨rfl, S', gs', tn', tg', B4, K4⟩
  have HB4 := Lib.hid B4
  have K5 := Lib.hid (K3.out.trans (fun k hk => (K4 k (.inl hk)).trans (HDR.out.block k (HB3.out.glt k (.inl hk)))))
  have R4 := Lib.hid ((K4 _ (.inr rfl)).trans ((HDR.out.block _ (lt_of_block R3.out)).trans R3.out))
  clear B4 K4 ca y0 y1 HB3 K3 R3 hset HDR HB2 K2
  have hcb := HB4.out.ca
  have ca : ∀ m os, (grow (w4.drewN m) os).cell? ⟨a, 0, none⟩ = some (.pointer (some ⟨bb, 0, none⟩)) := cell_grn HB4.out.alt hcb
  have y0 : ∀ m os, (grow (w4.drewN m) os).cell? ⟨w2.heap.size, 0, none⟩ = some (.int .i64 q) := cell_grn (lt_of_block R4.out) (cells_cell R4.out rfl)
  have y1 : ∀ m os, (grow (w4.drewN m) os).cell? ⟨w2.heap.size, 1, none⟩ = some (.int .i64 r) := cell_grn (lt_of_block R4.out) (cells_cell R4.out rfl)
  have hps : ∀ m os, Calls Tryz.prog 117 #[pt bb, plc q r] (grow (w4.drewN m) os) fun e w' => e = .returned (.bool ans) ∧ Grn (grow (w4.drewN m) os) w' := fun m os => by
    have hg := (grn_gr w4 m os).below
    have B5 := HB4.out.grown hg
    have := jpassed_any HQ.out.1 HQ.out.2 B5.hb.c0 (B5.hb.cf _ (by have := HQ.out; omega)) B5.hc (Int.ne_of_lt B5.nn)
    rwa [upd_same, HA.out] at this
  have Hps := Lib.hid hps
  have mixed : Tryz.prog.follows .mixedOrders = true := by kernel_rfl
  clear hcb hps
  unfold pt plc at *
  go_wp2_with fail
  go_quiet_grown ((go_at_call 117; refine Calls.grown_of (Hps.out _ _)))
  go_wp2_with fail
  go_ret2
  have hg := (grn_gr w4 nq osq).below
  exact ⟨rfl, ⟨_, _, _, _, _, _, _, (HB4.out.grown hg).less (fun k h => .inl h)⟩, K5.out.trans (fun k hk => hg.block k (HB4.out.glt k (.inl hk)))⟩

set_option maxRecDepth 100000 in
set_option maxHeartbeats 3200000 in
theorem jPassed_yes (J : JAt w0 G w a now f P) {q r : Nat} (hq : q < 128) (hr : r < 2) :
    Calls Tryz.prog 131 #[pt a, plc q r] w fun e w' => e = .returned (.tuple #[.bool (decide (f (q * 2 + r) ≤ now)), .int .i64 0]) ∧ Grn w w' := by
  obtain ⟨bb, cl, ta, S, gs, tn, tg, B⟩ := J
  obtain ⟨ans, hans⟩ : ∃ ans, decide (f (q * 2 + r) ≤ now) = ans := ⟨_, rfl⟩
  rw [hans]
  have HA := Lib.hid hans
  clear hans
  obtain ⟨W, hW⟩ : ∃ W, w.alloc (.cells #[.int .i64 q, .int .i64 r] 132) = W := ⟨_, rfl⟩
  have hG : Grn w W := by rw [← hW]; exact (Grn.refl w).alloc _
  have HB1 := Lib.hid (B.grown hG.below)
  have x0 : W.cell? ⟨w.heap.size, 0, none⟩ = some (.int .i64 q) := by rw [← hW]; exact cell_new _ _ _ _ _ _ rfl rfl
  have x1 : W.cell? ⟨w.heap.size, 1, none⟩ = some (.int .i64 r) := by rw [← hW]; exact cell_new _ _ _ _ _ _ rfl rfl
  have hfind := Lib.hid (jfind_yes a bb q r hq hr HB1.out.ca)
  have HG := Lib.hid hG
  have HW := Lib.hid hW
  have HQ := Lib.hid (And.intro hq hr)
  clear B hG hW hq hr
  unfold pt plc at *
  go_enter Tryz.func131, Tryz.ntmps131
  go_wp2_with fail
  rw [HW.out]
  go_wp2_with (go_at_call 113; fail)
  refine hfind.out.mono ?_
  rintro e w2 ⟨rfl, hg2⟩
  obtain ⟨w3, hW3⟩ : ∃ w3, w2.alloc (.cells #[.int .i64 q, .int .i64 r] 211) = w3 := ⟨_, rfl⟩
  have hg3 : Grn w2 w3 := by rw [← hW3]; exact (Grn.refl _).alloc _
  have HB3 := Lib.hid ((HB1.out.grown hg2.below).grown hg3.below)
  have HG3 := Lib.hid ((HG.out.trans hg2).trans hg3)
  have y0 : ∀ m os, (grow (w3.drewN m) os).cell? ⟨w2.heap.size, 0, none⟩ = some (.int .i64 q) := cell_grn (by rw [← hW3]; simp) (by rw [← hW3]; exact cell_new _ _ _ _ _ _ rfl rfl)
  have y1 : ∀ m os, (grow (w3.drewN m) os).cell? ⟨w2.heap.size, 1, none⟩ = some (.int .i64 r) := cell_grn (by rw [← hW3]; simp) (by rw [← hW3]; exact cell_new _ _ _ _ _ _ rfl rfl)
  have ca : ∀ m os, (grow (w3.drewN m) os).cell? ⟨a, 0, none⟩ = some (.pointer (some ⟨bb, 0, none⟩)) := cell_grn HB3.out.alt HB3.out.ca
  have HW3 := Lib.hid hW3
  have hps : ∀ m os, Calls Tryz.prog 117 #[pt bb, plc q r] (grow (w3.drewN m) os) fun e w' => e = .returned (.bool ans) ∧ Grn (grow (w3.drewN m) os) w' := fun m os => by
    have hg := (grn_gr w3 m os).below
    have B5 := HB3.out.grown hg
    have := jpassed_any HQ.out.1 HQ.out.2 B5.hb.c0 (B5.hb.cf _ (by have := HQ.out; omega)) B5.hc (Int.ne_of_lt B5.nn)
    rwa [HA.out] at this
  have Hps := Lib.hid hps
  clear hps
  have mixed : Tryz.prog.follows .mixedOrders = true := by kernel_rfl
  clear hg2 hg3 x0 x1 HB1 hW3 hfind
  unfold pt plc at *
  go_wp2_with fail
  rw [HW3.out]
  go_quiet_grown ((go_at_call 117; refine Calls.grown_of (Hps.out _ _)))
  go_wp2_with fail
  go_ret2
  exact ⟨rfl, HG3.out.trans (grn_gr _ _ _)⟩

end Go.Proofs.YtcjeckjmoponkaaGreatDoor.Dl
/- Clear: both deadlines of a descriptor are removed. -/
namespace Go.Proofs.YtcjeckjmoponkaaGreatDoor.Dl
open Go.RowKit Go.Sort
set_option linter.unusedVariables false
set_option linter.unusedSimpArgs false

variable {w0 w : World} {G : Nat → Prop} {a : Nat} {now : Int} {f : Nat → Int} {P : Nat}

/-- The deadlines without those of a descriptor's first directions. -/
def clr (f : Nat → Int) (q : Nat) : Nat → Nat → Int
  | 0 => f
  | 1 => upd f (q * 2 + 0) never
  | _ + 2 => upd (upd f (q * 2 + 0) never) (q * 2 + 1) never
def clear (f : Nat → Int) (q : Nat) : Nat → Int := upd (upd f (q * 2 + 0) never) (q * 2 + 1) never
theorem clr_succ (f : Nat → Int) (q : Nat) : ∀ k, k < 2 → upd (clr f q k) (q * 2 + k) never = clr f q (k + 1)
  | 0, _ => rfl
  | 1, _ => rfl
  | k + 2, h => by omega

set_option maxRecDepth 100000 in
set_option maxHeartbeats 3200000 in
theorem jClear_yes (J : JAt w0 G w a now f P) {q : Nat} (hq : q < 128) (hT : Tab w0) (hP : P + 2 < 9223372036854775807) :
    Calls Tryz.prog 62 #[pt a, .int .i64 q] w fun e w' => e = .returned (.int .i64 0) ∧ JAt w0 G w' a now (clear f q) (P + 2) ∧ Keep G w w' := by
  obtain ⟨bb, cl, ta, S, gs, tn, tg, B⟩ := J
  have hfind := Lib.hid (jfind_yes a bb q 0 hq (by omega) B.ca)
  have HB := Lib.hid B
  have HQ := Lib.hid hq
  clear B hq
  unfold pt plc at *
  go_enter Tryz.func62, Tryz.ntmps62
  go_wp2_with (go_at_call 113; fail)
  refine hfind.out.mono ?_
  rintro e w2 ⟨rfl, hg2⟩
  have hb2 := hg2.below
  have HB2 := HB.out.grown hb2
  have K2 := HB.out.keep hb2
  obtain ⟨w3, hW3⟩ : ∃ w3, w2.alloc (.cells #[.int .i64 q, .int .i64 0] 211) = w3 := ⟨_, rfl⟩
  have hb3 : Below w2.heap.size w2 w3 := by rw [← hW3]; exact (Below.refl _ _).alloc (Nat.le_refl _) _
  have HB3 : Hid (JB w0 (GR G w2.heap.size) w3 a bb cl ta now f (DI now f S gs tn tg) S gs tn tg P) := Lib.hid (HB2.more hb3 (fun k hk => by
    rcases hk with h | h
    · exact .inl h
    · subst h; exact .inr ⟨Nat.le_refl _, by rw [← hW3]; simp⟩))
  have K3 := Lib.hid (K2.trans (fun k hk => hb3.block k (HB2.glt k hk)))
  have R3 : Hid (w3.heap[w2.heap.size]? = some (.cells #[.int .i64 q, .int .i64 0] 211 (0, 0))) := by rw [← hW3]; exact Lib.hid (block_new _ _ _ rfl)
  have HW3 := Lib.hid hW3
  clear hg2 hb2 hW3 hb3 HB2 K2
  go_wp2_with fail
  rw [HW3.out]
  go_loopw [18] (fun v wr => ∃ k : Nat, k ≤ 2 ∧ v = .int .i64 k ∧ ∃ S gs tn tg, JB w0 (GR G w2.heap.size) wr a bb cl ta now (clr f q k) (DI now (clr f q k) S gs tn tg) S gs tn tg (P + k) ∧ Keep (GR G w2.heap.size) w3 wr) (fun v _ => 2 - (intOf v).toNat)
  case atStart => exact ⟨0, by omega, rfl, S, gs, tn, tg, HB3.out, Keep.refl _ _⟩
  case round =>
    obtain ⟨k, hk, rfl, S', gs', tn', tg', B4, K4⟩ := hrel
    by_cases hlt : k < 2
    · have HB4 := Lib.hid B4
      have K5 := Lib.hid K4
      have R4 := Lib.hid ((K4 _ (.inr rfl)).trans R3.out)
      have ca := B4.ca
      have y0 := cells_cell (o := 0) R4.out rfl
      have y1 := cells_cell (o := 1) R4.out rfl
      have hdr : Below wr.heap.size wr (wr.drewN 1) := (fr_drewN wr 1 []).below (fun _ hx => by simp at hx) (Nat.le_refl _)
      have hset := jset_body (B4.grown hdr) HQ.out hlt never (Int.le_refl _) hT (by omega)
      rw [clr_succ f q k hlt] at hset
      have hset := Lib.hid hset
      have HDR := Lib.hid hdr
      have hki : (k : Int) < 2 := by omega
      have HKL := Lib.hid hlt
      clear B4 K4 hdr hlt
      unfold pt plc never at *
      go_wp2_with fail
      go_still_tail 8, (by kernel_rfl)
      change wpList _ _ _ _ _ (wr.drewN 1)
      go_wp2_with (go_at_call 114; fail)
      refine hset.out.mono ?_
      rintro e w4 ⟨rfl, S5, gs5, tn5, tg5, B5, K6⟩
      have HB5 := Lib.hid B5
      have K7 := Lib.hid (K5.out.trans (fun j hj => (K6 j hj).trans (HDR.out.block j (HB4.out.glt j hj))))
      clear B5 K6
      go_wp2_with fail
      go_roundw
      case rel => exact ⟨k + 1, by have := HKL.out; omega, by go_num, S5, gs5, tn5, tg5, HB5.out, K7.out⟩
      case measure => simp [intOf]; have := HKL.out; omega
    · obtain rfl : k = 2 := by omega
      have HB4 := Lib.hid B4
      have K5 := Lib.hid (K3.out.trans (fun j hj => K4 j (.inl hj)))
      clear B4 K4
      go_wp2_with fail
      go_ret
      exact ⟨rfl, ⟨_, _, _, _, _, _, _, HB4.out.less (fun k h => .inl h)⟩, K5.out⟩

end Go.Proofs.YtcjeckjmoponkaaGreatDoor.Dl
/- New deadlines. -/
namespace Go.Proofs.YtcjeckjmoponkaaGreatDoor.Dl
open Go.RowKit Go.Sort
set_option linter.unusedVariables false
set_option linter.unusedSimpArgs false

/-- The cells of a body that is new. -/
def cells3 : Nat → List Value
  | 0 => []
  | n + 1 => .int .u64 0 :: .int .i64 0 :: .int .i64 0 :: cells3 n
theorem cells3_len : ∀ n, (cells3 n).length = n * 3
  | 0 => rfl
  | n + 1 => by show (cells3 n).length + 1 + 1 + 1 = _; rw [cells3_len n]; omega
theorem cells3_get : ∀ (n p : Nat), p < n → (cells3 n)[p * 3]? = some (.int .u64 0) ∧ (cells3 n)[p * 3 + 1]? = some (.int .i64 0) ∧ (cells3 n)[p * 3 + 2]? = some (.int .i64 0)
  | 0, p, h => by omega
  | n + 1, 0, _ => ⟨rfl, rfl, rfl⟩
  | n + 1, p + 1, h => by
    have := cells3_get n p (by omega)
    rw [show (p + 1) * 3 = p * 3 + 1 + 1 + 1 by omega]
    simpa [cells3] using this
set_option maxRecDepth 100000 in
theorem zero_body : Tryz.zeroCells169 = (.pointer none :: .pointer none :: cells3 256).toArray := by kernel_rfl
theorem built_body (x y : Value) : (Tryz.zeroCells169.setIfInBounds 0 x).setIfInBounds 1 y = (x :: y :: cells3 256).toArray := by
  rw [zero_body]
  generalize cells3 256 = l
  simp

/-- The deadlines of which the first descriptors' are never. -/
def nev (k : Nat) : Nat → Int := fun p => if p < 2 * k then never else 0
theorem nev_succ (k : Nat) : upd (upd (nev k) (k * 2 + 0) never) (k * 2 + 1) never = nev (k + 1) := by
  funext p
  unfold nev upd
  by_cases h1 : p = k * 2 + 1
  · rw [if_pos h1, if_pos (by omega)]
  · rw [if_neg h1]
    by_cases h2 : p = k * 2 + 0
    · rw [if_pos h2, if_pos (by omega)]
    · rw [if_neg h2]
      show (if p < 2 * k then never else 0) = _
      by_cases h3 : p < 2 * k
      · rw [if_pos h3, if_pos (by omega)]
      · rw [if_neg h3, if_neg (by omega)]
theorem upd_zero (p : Nat) : upd (fun _ => (0 : Int)) p 0 = fun _ => 0 := by
  funext x
  unfold upd
  split <;> rfl

theorem jblk_new {w : World} (cl ta : Nat) {bb : Nat} (h : w.heap[bb]? = some (.cells (pt cl :: pt ta :: cells3 256).toArray 169 (0, 0))) : JBlk w bb cl ta (nev 0) (fun _ => 0) (fun _ => 0) := by
  refine ⟨_, h, by simp [cells3_len], by simp, by simp, fun p hp => ?_⟩
  obtain ⟨a, b, c⟩ := cells3_get 256 p hp
  refine ⟨?_, ?_, ?_⟩
  · rw [show 2 + p * 3 = p * 3 + 1 + 1 by omega]
    simp only [List.getElem?_toArray, List.getElem?_cons_succ]
    rw [a]; simp [nev]
  · rw [show 2 + p * 3 + 1 = p * 3 + 1 + 1 + 1 by omega]
    simp only [List.getElem?_toArray, List.getElem?_cons_succ]
    exact b
  · rw [show 2 + p * 3 + 2 = p * 3 + 2 + 1 + 1 by omega]
    simp only [List.getElem?_toArray, List.getElem?_cons_succ]
    exact c

theorem JBlk.congr {w : World} {bb cl ta : Nat} {f f' tn tg : Nat → Int} (h : JBlk w bb cl ta f tn tg) (he : ∀ p, p < 256 → f p = f' p) : JBlk w bb cl ta f' tn tg := by
  obtain ⟨cur, hc, hs, h0, h1, r⟩ := h.ex
  exact ⟨cur, hc, hs, h0, h1, fun p hp => by rw [← he p hp]; exact r p hp⟩

/-- The stores of one descriptor. -/
theorem jblk_two {w : World} {bb cl ta k : Nat} (h : JBlk w bb cl ta (nev k) (fun _ => 0) (fun _ => 0)) (hk : k < 128) :
    JBlk ((((((w.setCell ⟨bb, 2 + (k * 2 + 0) * 3, none⟩ (.int .u64 never)).setCell ⟨bb, 2 + (k * 2 + 0) * 3 + 1, none⟩ (.int .i64 0)).setCell ⟨bb, 2 + (k * 2 + 0) * 3 + 2, none⟩ (.int .i64 0)).setCell ⟨bb, 2 + (k * 2 + 1) * 3, none⟩ (.int .u64 never)).setCell ⟨bb, 2 + (k * 2 + 1) * 3 + 1, none⟩ (.int .i64 0)).setCell ⟨bb, 2 + (k * 2 + 1) * 3 + 2, none⟩ (.int .i64 0)) bb cl ta (nev (k + 1)) (fun _ => 0) (fun _ => 0) := by
  have h1 := (h.setAt (k * 2 + 0) (by omega) never).setName (k * 2 + 0) (by omega) 0 0
  rw [upd_zero] at h1
  have h2 := (h1.setAt (k * 2 + 1) (by omega) never).setName (k * 2 + 1) (by omega) 0 0
  rw [upd_zero, nev_succ] at h2
  exact h2

set_option maxRecDepth 100000 in
set_option maxHeartbeats 3200000 in
theorem jNew_yes (w0 w : World) (G : Nat → Prop) (hG : ∀ k, G k → k < w.heap.size) (hb : Below w0.heap.size w0 w) (now : Int) (hn : now < never) :
    Calls Tryz.prog 39 #[.int .u64 now] w fun e w' => ∃ a, e = .returned (.tuple #[pt a, .int .i64 0]) ∧ JAt w0 G w' a now (fun _ => never) 0 ∧ Below w.heap.size w w' := by
  have hnew := Lib.hid (vnew_any w now (Int.ne_of_lt hn))
  have HG := Lib.hid hG
  have HB := Lib.hid hb
  have HN := Lib.hid hn
  clear hG hb hn
  unfold pt at *
  go_enter Tryz.func39, Tryz.ntmps39
  go_wp2_with (go_at_call 86; fail)
  refine hnew.out.mono ?_
  rintro e w1 ⟨rfl, hw1⟩
  have hb1 : Below w.heap.size w w1 := by rw [hw1]; exact (Below.refl _ _).alloc (Nat.le_refl _) _
  have hc1 : ClkAt w1 w.heap.size now := by rw [hw1]; exact block_new _ _ _ rfl
  have hs1 : w1.heap.size = w.heap.size + 1 := by rw [hw1]; simp
  have hs0 := HB.out.size
  have htn := tnew_in w0 w1 (fun k => G k ∨ k = w.heap.size) (fun k hk => by
    rcases hk with h | h
    · have := HG.out k h; omega
    · omega) (HB.out.trans (hb1.mono hs0))
  have Htn := Lib.hid htn
  have HB1 := Lib.hid hb1
  have HC1 := Lib.hid hc1
  have HS1 := Lib.hid hs1
  clear hw1 hb1 hc1 hs1 hs0 htn
  unfold pt at *
  go_wp2_with (go_at_call 87; fail)
  refine Htn.out.mono ?_
  rintro e w2 ⟨ta, rfl, T2, hb2⟩
  have HT2 := Lib.hid T2
  have HB2 := Lib.hid hb2
  clear T2 hb2
  obtain ⟨A0, hA0⟩ : ∃ A0 : Array Value, (Tryz.zeroCells169.setIfInBounds 0 (.pointer (some ⟨w.heap.size, 0, none⟩))).setIfInBounds 1 (.pointer (some ⟨ta, 0, none⟩)) = A0 := ⟨_, rfl⟩
  have HA0 := Lib.hid (hA0.symm.trans (built_body _ _))
  have HA1 := Lib.hid hA0
  clear hA0
  go_wp2_with fail
  rw [HA1.out]
  obtain ⟨w3, hW3⟩ : ∃ w3, w2.alloc (.cells A0 169) = w3 := ⟨_, rfl⟩
  have hb3 : Below w2.heap.size w2 w3 := by rw [← hW3]; exact (Below.refl _ _).alloc (Nat.le_refl _) _
  have hr3 : w3.heap[w2.heap.size]? = some (.cells A0 169 (0, 0)) := by rw [← hW3]; exact block_new _ _ _ rfl
  have HB3 := Lib.hid hb3
  have HJ3 : Hid (JBlk w3 w2.heap.size w.heap.size ta (nev 0) (fun _ => 0) (fun _ => 0)) := Lib.hid (jblk_new w.heap.size ta (by rw [hr3, HA0.out]; rfl))
  rw [hW3]
  clear hW3 hb3 hr3
  go_loopw [20] (fun v wr => ∃ k : Nat, k ≤ 128 ∧ v = .int .i64 k ∧ JBlk wr w2.heap.size w.heap.size ta (nev k) (fun _ => 0) (fun _ => 0) ∧ Fr [w2.heap.size] w3 wr) (fun v _ => 128 - (intOf v).toNat)
  case atStart => exact ⟨0, by omega, rfl, HJ3.out, Fr.refl _ _⟩
  case round =>
    obtain ⟨k, hk, rfl, hj, hf⟩ := hrel
    by_cases hlt : k < 128
    · have hki : (k : Int) < 128 := by omega
      have e0 : 2 + (k * 2 + 0) * 3 = 2 + k * 6 := by omega
      have e1 : 2 + (k * 2 + 0) * 3 + 1 = 2 + k * 6 + 1 := by omega
      have e2 : 2 + (k * 2 + 0) * 3 + 2 = 2 + k * 6 + 2 := by omega
      have e3 : 2 + (k * 2 + 1) * 3 = 2 + k * 6 + 3 := by omega
      have e4 : 2 + (k * 2 + 1) * 3 + 1 = 2 + k * 6 + 4 := by omega
      have e5 : 2 + (k * 2 + 1) * 3 + 2 = 2 + k * 6 + 5 := by omega
      have c0 := hj.cf (k * 2 + 0) (by omega)
      have c1 := hj.cn (k * 2 + 0) (by omega)
      have c2 := hj.cg (k * 2 + 0) (by omega)
      have c3 := hj.cf (k * 2 + 1) (by omega)
      have c4 := hj.cn (k * 2 + 1) (by omega)
      have c5 := hj.cg (k * 2 + 1) (by omega)
      have f0 := hj.fr (2 + k * 6)
      have f1 := hj.fr (2 + k * 6 + 1)
      have f2 := hj.fr (2 + k * 6 + 2)
      have f3 := hj.fr (2 + k * 6 + 3)
      have f4 := hj.fr (2 + k * 6 + 4)
      have f5 := hj.fr (2 + k * 6 + 5)
      have h2 := jblk_two hj hlt
      rw [e1, e2, e4, e5, e0, e3] at h2
      rw [e1] at c1
      rw [e2] at c2
      rw [e4] at c4
      rw [e5] at c5
      rw [e0] at c0
      rw [e3] at c3
      have hf2 := hf.trans' ((((((fr_setCell wr ⟨w2.heap.size, 2 + k * 6, none⟩ (.int .u64 never)).trans' (fr_setCell _ ⟨w2.heap.size, 2 + k * 6 + 1, none⟩ (.int .i64 0))).trans' (fr_setCell _ ⟨w2.heap.size, 2 + k * 6 + 2, none⟩ (.int .i64 0))).trans' (fr_setCell _ ⟨w2.heap.size, 2 + k * 6 + 3, none⟩ (.int .u64 never))).trans' (fr_setCell _ ⟨w2.heap.size, 2 + k * 6 + 4, none⟩ (.int .i64 0))).trans' (fr_setCell _ ⟨w2.heap.size, 2 + k * 6 + 5, none⟩ (.int .i64 0)))
      have H2 := Lib.hid h2
      have HF2 := Lib.hid hf2
      have hbl := hj.lt
      have HL := Lib.hid hlt
      clear e0 e1 e2 e3 e4 e5 hj hf h2 hf2 hlt
      unfold never at *
      go_wp2_with fail
      go_roundw
      case rel => exact ⟨k + 1, by have := HL.out; omega, by go_num, H2.out, HF2.out⟩
      case measure => simp [intOf]; have := HL.out; omega
    · obtain rfl : k = 128 := by omega
      have HJ := Lib.hid hj
      have HF := Lib.hid hf
      clear hj hf
      go_wp2_with fail
      go_ret2
      have b1 := HB1.out
      have b2 := HB2.out
      have b3 := HB3.out
      have s1 := HS1.out
      have s2 := b2.size
      have s3 := b3.size
      have s0 := HB.out.size
      have hfs := HF.out.size
      have hf3 : Fr [w2.heap.size] w2 wr := HF.out.trans (Fr.refl _ _) (fun x hx => .inl hx) |> fun h => (Fr.of_below b3 [w2.heap.size]).trans' h
      have hbw : Below w2.heap.size w2 wr := hf3.below (fun x hx => by simp at hx; omega) (Nat.le_refl _)
      have hal : Below wr.heap.size wr (wr.alloc (.cells #[.pointer (some ⟨w2.heap.size, 0, none⟩)] 171)) := (Below.refl _ _).alloc (Nat.le_refl _) _
      have hbz := hbw.trans (hal.mono hbw.size)
      have hsz : w2.heap.size < wr.heap.size := HJ.out.lt
      refine ⟨_, rfl, ⟨w2.heap.size, w.heap.size, ta, [], [], _, _, ⟨HT2.out.more hbz (fun k hk => ?_), block_new _ _ _ rfl, ((HJ.out.keep (hal.block _ HJ.out.lt)).congr (f' := fun _ => never) (fun p hp => by unfold nev; rw [if_pos (by omega)])), ((HC1.out.below b2).below hbw).below hal, fun h => ?_, fun h => ?_, fun h => ?_, by omega, by omega, by omega, ⟨fun e he => by simp at he, fun p hp _ h1 h2 => ?_, fun p hp => ?_⟩, HN.out⟩⟩, ?_⟩
      · rcases hk with h | h | h | h
        · exact .inl (.inl h)
        · subst h; exact .inr ⟨by omega, by simp⟩
        · subst h; exact .inr ⟨by omega, by simp; omega⟩
        · exact .inl (.inr h)
      · have := HG.out _ h; omega
      · have := HG.out _ h; omega
      · have := HG.out _ h; omega
      · exact absurd h2 (Int.lt_irrefl _)
      · exact Int.le_refl _
      · exact b1.trans ((b2.trans (hbz.mono s2)).mono (by omega))
end Go.Proofs.YtcjeckjmoponkaaGreatDoor.Dl
/- A copy of deadlines. -/
namespace Go.Proofs.YtcjeckjmoponkaaGreatDoor.Dl
open Go.RowKit Go.Sort
set_option linter.unusedVariables false
set_option linter.unusedSimpArgs false

variable {w0 w : World} {G : Nat → Prop} {a : Nat} {now : Int} {f : Nat → Int} {P : Nat}

end Go.Proofs.YtcjeckjmoponkaaGreatDoor.Dl
/- The order of lapses, and slices.SortFunc of them. -/
namespace Go.Proofs.YtcjeckjmoponkaaGreatDoor.Dl
open Go.RowKit Go.Sort
set_option linter.unusedVariables false
set_option linter.unusedSimpArgs false

set_option maxHeartbeats 400000 in
theorem cmpJ_any (a b : Int) (w : World) : Calls Tryz.prog 182 #[.int .i64 a, .int .i64 b] w fun e w' => e = .returned (.int .i64 (cmpI a b)) ∧ w' = w := by
  by_cases h1 : a < b
  · have he := Lib.hid (show cmpI a b = -1 by unfold cmpI; rw [if_pos h1])
    go_enter Tryz.func182, Tryz.ntmps182
    go_wp2_with go_in
    go_ret
    exact ⟨by rw [he.out]; rfl, rfl⟩
  · by_cases h2 : b < a
    · have he := Lib.hid (show cmpI a b = 1 by unfold cmpI; rw [if_neg h1, if_pos h2])
      go_enter Tryz.func182, Tryz.ntmps182
      go_wp2_with go_in
      go_ret
      exact ⟨by rw [he.out]; rfl, rfl⟩
    · have he := Lib.hid (show cmpI a b = 0 by unfold cmpI; rw [if_neg h1, if_neg h2])
      go_enter Tryz.func182, Tryz.ntmps182
      go_wp2_with go_in
      go_ret
      exact ⟨by rw [he.out]; rfl, rfl⟩

set_option maxHeartbeats 1600000 in
theorem or3_any (B cap : Nat) (x y z : Int) (w : World) (c0 : w.cell? ⟨B, 0, none⟩ = some (.int .i64 x)) (c1 : w.cell? ⟨B, 1, none⟩ = some (.int .i64 y)) (c2 : w.cell? ⟨B, 2, none⟩ = some (.int .i64 z)) :
    Calls Tryz.prog 180 #[.slice (some ⟨B, 0, none⟩) 3 cap] w fun e w' => e = .returned (.int .i64 (orI x (orI y z))) ∧ w' = w := by
  go_enter Tryz.func180, Tryz.ntmps180
  go_wp2_with fail
  go_loop [8] (fun i => ∃ k : Nat, k ≤ 3 ∧ (0 < k → x = 0) ∧ (1 < k → y = 0) ∧ (2 < k → z = 0) ∧ i = .int .i64 k) (fun i => 3 - (intOf i).toNat)
  case atStart => exact ⟨0, by omega, by omega, by omega, by omega, rfl⟩
  case round =>
    obtain ⟨k, hk, hx, hy, hz, rfl⟩ := hrel
    rcases (by omega : k = 0 ∨ k = 1 ∨ k = 2 ∨ k = 3) with rfl | rfl | rfl | rfl
    · clear hx hy hz
      by_cases h : x = 0
      · subst h
        go_wp2_with fail
        go_round
        case rel => exact ⟨1, by omega, by simp, by omega, by omega, by go_num⟩
        case measure => simp [intOf]
      · have q : (x != 0) = true := by simp [h]
        have he := Lib.hid (show orI x (orI y z) = x by unfold orI; rw [if_neg h])
        clear h
        go_wp2_with fail
        go_ret
        exact ⟨by rw [he.out]; rfl, rfl⟩
    · obtain rfl := hx (by omega)
      clear hx hy hz
      by_cases h : y = 0
      · subst h
        go_wp2_with fail
        go_round
        case rel => exact ⟨2, by omega, by simp, by simp, by omega, by go_num⟩
        case measure => simp [intOf]
      · have q : (y != 0) = true := by simp [h]
        have he := Lib.hid (show orI 0 (orI y z) = y by unfold orI; rw [if_pos rfl, if_neg h])
        clear h
        go_wp2_with fail
        go_ret
        exact ⟨by rw [he.out]; rfl, rfl⟩
    · obtain rfl := hx (by omega)
      obtain rfl := hy (by omega)
      clear hx hy hz
      by_cases h : z = 0
      · subst h
        go_wp2_with fail
        go_round
        case rel => exact ⟨3, by omega, by simp, by simp, by simp, by go_num⟩
        case measure => simp [intOf]
      · have q : (z != 0) = true := by simp [h]
        have he := Lib.hid (show orI 0 (orI 0 z) = z by unfold orI; rw [if_pos rfl, if_pos rfl])
        clear h
        go_wp2_with fail
        go_ret
        exact ⟨by rw [he.out]; rfl, rfl⟩
    · obtain rfl := hx (by omega)
      obtain rfl := hy (by omega)
      obtain rfl := hz (by omega)
      go_wp2_with fail
      go_ret
      exact ⟨rfl, rfl⟩

/-- The cells of a lapse of the package's own. -/
def encP (x : Int × Nat) : List Value := [.int .u64 x.1, .int .i64 ((x.2 / 2 : Nat) : Int), .int .i64 ((x.2 % 2 : Nat) : Int)]
/-- The cells of a lapse of the interface. -/
def encL (x : Int × Nat) : List Value := [.int .i64 ((x.2 / 2 : Nat) : Int), .int .i64 ((x.2 % 2 : Nat) : Int), .int .u64 x.1]
def cmpL (x y : Int × Nat) : Int := orI (cmpI x.1 y.1) (orI (cmpI ((x.2 / 2 : Nat) : Int) ((y.2 / 2 : Nat) : Int)) (cmpI ((x.2 % 2 : Nat) : Int) ((y.2 % 2 : Nat) : Int)))
theorem cmpI_neg {a b : Int} : cmpI a b < 0 ↔ a < b := by
  unfold cmpI
  repeat' split
  all_goals omega
theorem cmpI_zero {a b : Int} : cmpI a b = 0 ↔ a = b := by
  unfold cmpI
  repeat' split
  all_goals omega
theorem cmpL_neg (x y : Int × Nat) : cmpL x y < 0 ↔ ltL x y := by
  unfold cmpL ltL orI
  by_cases h1 : cmpI x.1 y.1 = 0
  · rw [if_pos h1]
    rw [cmpI_zero] at h1
    by_cases h2 : cmpI ((x.2 / 2 : Nat) : Int) ((y.2 / 2 : Nat) : Int) = 0
    · rw [if_pos h2, cmpI_neg]
      rw [cmpI_zero] at h2
      omega
    · rw [if_neg h2, cmpI_neg]
      rw [cmpI_zero] at h2
      omega
  · rw [if_neg h1, cmpI_neg]
    rw [cmpI_zero] at h1
    omega
theorem swo_L : SWO (Go.Proofs.ltOf cmpL) := by
  have e : ∀ x y : Int × Nat, Go.Proofs.ltOf cmpL x y = true ↔ ltL x y := fun x y => by
    unfold Go.Proofs.ltOf
    rw [decide_eq_true_eq]
    exact cmpL_neg x y
  have e' : ∀ x y : Int × Nat, Go.Proofs.ltOf cmpL x y = false ↔ ¬ ltL x y := fun x y => by
    rw [← e]; simp
  refine ⟨fun x => (e' x x).2 (ltL_irrefl x), fun x y z h1 h2 => (e x z).2 (ltL_trans ((e x y).1 h1) ((e y z).1 h2)), fun x y z h1 h2 => (e' x z).2 ?_⟩
  have h1' := (e' x y).1 h1
  have h2' := (e' y z).1 h2
  intro h
  rcases ltL_tri x y with h3 | h3 | h3
  · exact h1' h3
  · subst h3; exact h2' h
  · exact h2' (ltL_trans h3 h)

set_option maxHeartbeats 1600000 in
set_option maxRecDepth 100000 in
/-- (lapse).compare: blocks are made. -/
theorem lcmp_any (x y : Int × Nat) (w : World) : Calls Tryz.prog 126 #[.agg (encP x).toArray, .agg (encP y).toArray] w fun e w' => e = .returned (.int .i64 (cmpL x y)) ∧ ∃ q os, w' = grow (w.drewN q) os := by
  have c1 := fun w => cmpT_any x.1 y.1 w
  have c2 := fun w => cmpJ_any ((x.2 / 2 : Nat) : Int) ((y.2 / 2 : Nat) : Int) w
  have c3 := fun w => cmpJ_any ((x.2 % 2 : Nat) : Int) ((y.2 % 2 : Nat) : Int) w
  unfold cmpL encP
  generalize cmpI x.1 y.1 = r1 at c1 ⊢
  generalize cmpI ((x.2 / 2 : Nat) : Int) ((y.2 / 2 : Nat) : Int) = r2 at c2 ⊢
  generalize cmpI ((x.2 % 2 : Nat) : Int) ((y.2 % 2 : Nat) : Int) = r3 at c3 ⊢
  generalize x.1 = xk at *
  generalize y.1 = yk at *
  generalize ((x.2 / 2 : Nat) : Int) = xq at *
  generalize ((y.2 / 2 : Nat) : Int) = yq at *
  generalize ((x.2 % 2 : Nat) : Int) = xr at *
  generalize ((y.2 % 2 : Nat) : Int) = yr at *
  have d1 := Lib.hid c1
  have d2 := Lib.hid c2
  have d3 := Lib.hid c3
  clear c1 c2 c3
  go_enter Tryz.func126, Tryz.ntmps126
  go_wp2_with fail
  refine wp_region_still_tail 19 (by kernel_rfl) (by kernel_rfl) ?_
  simp only [List.take_succ_cons, List.take_zero, List.drop_succ_cons, List.drop_zero]
  change wpStill _ _ (World.drew _) (fun a' => wpList _ _ _ _ a' (World.drew _)) _ _
  repeat still_step
  still_call (d1.out _)
  repeat still_step
  still_call (d2.out _)
  repeat still_step
  still_call (d3.out _)
  refine wpStill_nil ?_
  go_wp2_with fail
  refine Calls.mono (or3_any _ _ r1 r2 r3 _ ?c0 ?c1 ?c2) ?_
  case c0 => exact cell_new _ _ _ _ _ _ (by simp) rfl
  case c1 => exact cell_new _ _ _ _ _ _ (by simp) rfl
  case c2 => exact cell_new _ _ _ _ _ _ (by simp) rfl
  rintro e w' ⟨rfl, rfl⟩
  go_wp2_with fail
  go_ret
  exact ⟨rfl, 1, _, by rw [alloc_eq_grow, alloc_eq_grow, alloc_eq_grow, grow_grow, grow_grow]; rfl⟩
end Go.Proofs.YtcjeckjmoponkaaGreatDoor.Dl
/- Rows of lapses, and slices.SortFunc of one. -/
namespace Go.Proofs.YtcjeckjmoponkaaGreatDoor.Dl
open Go.RowKit Go.Sort
set_option linter.unusedVariables false
set_option linter.unusedSimpArgs false

section
variable {enc : Int × Nat → List Value}
theorem flat_len (h3 : ∀ x, (enc x).length = 3) : ∀ L : List (Int × Nat), (L.flatMap enc).length = L.length * 3
  | [] => rfl
  | x :: L => by rw [List.flatMap_cons, List.length_append, h3, flat_len h3 L, List.length_cons]; omega
theorem flat_get (h3 : ∀ x, (enc x).length = 3) : ∀ (L : List (Int × Nat)) (j : Nat) (x : Int × Nat), L[j]? = some x → ∀ i, i < 3 → (L.flatMap enc)[j * 3 + i]? = (enc x)[i]?
  | [], j, x, h, i, hi => by simp at h
  | y :: L, 0, x, h, i, hi => by
    simp at h
    subst h
    rw [List.flatMap_cons, Nat.zero_mul, Nat.zero_add, List.getElem?_append_left (by rw [h3]; exact hi)]
  | y :: L, j + 1, x, h, i, hi => by
    rw [List.flatMap_cons, List.getElem?_append_right (by rw [h3]; omega), h3, show (j + 1) * 3 + i - 3 = j * 3 + i by omega]
    exact flat_get h3 L j x (by simpa using h) i hi
end
theorem encP3 (x : Int × Nat) : (encP x).length = 3 := rfl
theorem encL3 (x : Int × Nat) : (encL x).length = 3 := rfl

/-- A slice of lapses of the package's own, and of the interface's. -/
def RowP (w : World) (base : Nat) (s : Value) (L : List (Int × Nat)) : Prop := w.ownsRow base 232 3 s L.length (L.flatMap encP)
def RowL (w : World) (base : Nat) (s : Value) (L : List (Int × Nat)) : Prop := w.ownsRow base 142 3 s L.length (L.flatMap encL)
theorem row3 {enc : Int × Nat → List Value} (h3 : ∀ x, (enc x).length = 3) {w : World} {base e n cap g : Nat} {L : List (Int × Nat)} (h : w.ownsRow base e 3 (.slice (some ⟨g, 0, none⟩) n cap) L.length (L.flatMap enc)) (j : Nat) (x : Int × Nat) (hj : L[j]? = some x) :
    ∀ i, i < 3 → w.cell? ⟨g, j * 3 + i, none⟩ = (enc x)[i]? := by
  intro i hi
  have hn : n = L.length := by
    rcases h.2 with ⟨h', _⟩ | ⟨_, _, _, h', _⟩
    · simp at h'
    · simp at h'; exact h'.2.1
  subst hn
  have hr := row_cells h
  have h0 := flat_get h3 L j x hj i hi
  obtain ⟨v, hv⟩ : ∃ v, (enc x)[i]? = some v := ⟨_, List.getElem?_eq_getElem (by rw [h3]; exact hi)⟩
  have a0 := hr _ _ (h0.trans hv)
  rw [Go.WideShapes.add_plain, Nat.zero_add] at a0
  rw [hv]
  exact a0
theorem RowP.cells {w : World} {base n cap g : Nat} {L : List (Int × Nat)} (h : RowP w base (.slice (some ⟨g, 0, none⟩) n cap) L) (j : Nat) (x : Int × Nat) (hj : L[j]? = some x) :
    w.cell? ⟨g, j * 3, none⟩ = some (.int .u64 x.1) ∧ w.cell? ⟨g, j * 3 + 1, none⟩ = some (.int .i64 ((x.2 / 2 : Nat) : Int)) ∧ w.cell? ⟨g, j * 3 + 2, none⟩ = some (.int .i64 ((x.2 % 2 : Nat) : Int)) :=
  ⟨row3 encP3 h j x hj 0 (by omega), row3 encP3 h j x hj 1 (by omega), row3 encP3 h j x hj 2 (by omega)⟩
theorem RowL.cells {w : World} {base n cap g : Nat} {L : List (Int × Nat)} (h : RowL w base (.slice (some ⟨g, 0, none⟩) n cap) L) (j : Nat) (x : Int × Nat) (hj : L[j]? = some x) :
    w.cell? ⟨g, j * 3, none⟩ = some (.int .i64 ((x.2 / 2 : Nat) : Int)) ∧ w.cell? ⟨g, j * 3 + 1, none⟩ = some (.int .i64 ((x.2 % 2 : Nat) : Int)) ∧ w.cell? ⟨g, j * 3 + 2, none⟩ = some (.int .u64 x.1) :=
  ⟨row3 encL3 h j x hj 0 (by omega), row3 encL3 h j x hj 1 (by omega), row3 encL3 h j x hj 2 (by omega)⟩
theorem RowP.fr {F : List Nat} {w w' : World} {base : Nat} {s : Value} {L : List (Int × Nat)} (h : RowP w base s L) (hf : Fr F w w') (hn : ∀ g, s.ownBlock = some g → g ∉ F) : RowP w' base s L := hf.row h hn
theorem RowL.fr {F : List Nat} {w w' : World} {base : Nat} {s : Value} {L : List (Int × Nat)} (h : RowL w base s L) (hf : Fr F w w') (hn : ∀ g, s.ownBlock = some g → g ∉ F) : RowL w' base s L := hf.row h hn
theorem RowP.below {w w' : World} {base : Nat} {s : Value} {L : List (Int × Nat)} (h : RowP w base s L) (hb : Below w.heap.size w w') : RowP w' base s L := (Fr.of_below hb []).row h (fun _ _ => by simp)
theorem RowL.below {w w' : World} {base : Nat} {s : Value} {L : List (Int × Nat)} (h : RowL w base s L) (hb : Below w.heap.size w w') : RowL w' base s L := (Fr.of_below hb []).row h (fun _ _ => by simp)

set_option maxHeartbeats 800000 in
theorem jins_nil (f : Value) (w : World) : Calls Tryz.prog 205 #[.slice none 0 0, .int .i64 0, .int .i64 0, f] w fun e w' => e = .returned (.tuple #[]) ∧ w = w' := by
  go_enter Tryz.func205, Tryz.ntmps205
  go_wp2_with fail
  refine wp_loop_rounds 1 ?_
  rw [rounds_succ]
  go_wp2_with fail
  go_end0
  exact ⟨rfl, rfl⟩
set_option maxHeartbeats 1600000 in
theorem jpdq_nil (l f : Value) (w : World) : Calls Tryz.prog 178 #[.slice none 0 0, .int .i64 0, .int .i64 0, l, f] w fun e w' => e = .returned (.tuple #[]) ∧ w = w' := by
  have hi := Lib.hid (fun f w => jins_nil f w)
  go_enter Tryz.func178, Tryz.ntmps178
  go_wp2_with fail
  refine wp_loop_rounds 1 ?_
  rw [rounds_succ]
  go_wp2_with (first | (go_at_call 205; refine (hi.out _ _).mono ?_; rintro e w' ⟨rfl, rfl⟩))
  refine bodyPost_ret (results_none rfl _ _ _) rfl ?_
  exact ⟨rfl, rfl⟩
def cmpJV : Value := .func (.func 126) #[] #[]
set_option maxHeartbeats 1600000 in
theorem jsort_nil (w : World) : Calls Tryz.prog 125 #[.slice none 0 0, cmpJV] w fun e w' => e = .returned (.tuple #[]) ∧ w = w' := by
  unfold cmpJV
  have hi := Lib.hid (fun l f w => jpdq_nil l f w)
  go_enter Tryz.func125, Tryz.ntmps125
  go_wp2_with (first | (go_at_call 178; refine (hi.out _ _ _).mono ?_; rintro e w' ⟨rfl, rfl⟩) | go_in)
  go_end0
  exact ⟨rfl, rfl⟩

theorem sortK_block {w : World} {blk n : Nat} {os : Array Obj} {cur : Array Value} {e : TypeId} {fr : Nat × Nat} (F : Array Value) (hb : w.heap[blk]? = some (.cells cur e fr)) :
    (sortWorld id w blk 0 n F os).heap[blk]? = some (.cells (putCells id 0 F cur) e fr) := by
  have hg : blk < w.heap.size := (Array.getElem?_eq_some_iff.1 hb).1
  unfold sortWorld
  rw [heap_grow_old _ _ (by simpa using hg)]
  simp [putRow, mapBlock, Sort.ahead, Array.getElem?_modify, hb, onCells]
theorem sortK_fr (w : World) (blk n : Nat) (os : Array Obj) (F : Array Value) : Fr [blk] w (sortWorld id w blk 0 n F os) := by
  refine ⟨rfl, rfl, rfl, by simp [sortWorld, grow, putRow, mapBlock, Sort.ahead], fun k hk hne => ?_⟩
  unfold sortWorld
  rw [heap_grow_old _ _ (by simpa using hk)]
  have : blk ≠ k := fun e => hne (by simp [e])
  simp [putRow, mapBlock, Sort.ahead, Array.getElem?_modify, this]
theorem takeK (cur F : Array Value) (h : F.size ≤ cur.size) : (putCells id 0 F cur).toList.take F.size = F.toList := by
  apply List.ext_getElem?
  intro j
  by_cases hj : j < F.size
  · rw [List.getElem?_take_of_lt hj, Array.getElem?_toList]
    simp [putCells, hj, show j < cur.size by omega]
  · rw [List.getElem?_take_eq_none (by omega), List.getElem?_eq_none (by simp; omega)]
theorem flatK_list (d : Array (Int × Nat)) : (flatK encP 3 d).toList = d.toList.flatMap encP := by
  apply List.ext_getElem?
  intro t
  by_cases ht : t < d.size * 3
  · have h1 : t / 3 < d.size := by omega
    have hx : d.toList[t / 3]? = some d[t / 3]! := by rw [Array.getElem?_toList, getElem!_pos d _ h1]; simp [h1]
    have h2 := flat_get encP3 d.toList (t / 3) _ hx (t % 3) (by omega)
    rw [show t / 3 * 3 + t % 3 = t by omega] at h2
    rw [h2, Array.getElem?_toList]
    have h3 : (encP d[t / 3]!)[t % 3]? = some (encP d[t / 3]!)[t % 3]! := by
      rw [List.getElem!_eq_getElem?_getD, List.getElem?_eq_getElem (by rw [encP3]; omega)]
      rfl
    rw [h3]
    have h4 := get_flatK encP 3 d t ht
    rw [← h4]
    rw [getElem!_pos _ t (by simpa using ht)]
    exact Array.getElem?_eq_getElem (by simpa using ht)
  · rw [List.getElem?_eq_none (by simp; omega), List.getElem?_eq_none (by rw [flat_len encP3]; simp; omega)]

set_option maxHeartbeats 1600000 in
/-- slices.SortFunc of lapses. -/
theorem jsort_any {w : World} {base : Nat} {s : Value} {L : List (Int × Nat)} (ho : RowP w base s L) (hlen : L.length ≤ 100000) :
    Calls Tryz.prog 125 #[s, cmpJV] w fun e w' => e = .returned (.tuple #[]) ∧ ∃ L' : List (Int × Nat), L'.Perm L ∧ L'.Pairwise (fun x y => ¬ ltL y x) ∧ RowP w' base s L' ∧ Fr s.ownBlock.toList w w' := by
  rcases ho.2 with ⟨rfl, h0⟩ | ⟨g, cap, cur, rfl, hbg, hgb, hnc, hcm, hcs, htake⟩
  · obtain rfl : L = [] := List.eq_nil_of_length_eq_zero h0
    refine (jsort_nil w).mono ?_
    rintro e w' ⟨rfl, rfl⟩
    exact ⟨rfl, [], List.Perm.refl _, List.Pairwise.nil, ho, Fr.refl _ _⟩
  · let d : Array (Int × Nat) := L.toArray
    have hdl : d.size = L.length := by simp [d]
    have hH : HoldsK encP 3 w g 0 d := fun j hj => by
      have hj' : j < d.size * 3 := by simpa using hj
      refine ⟨?_, cells_free hgb _⟩
      rw [Nat.zero_add]
      have h1 : (L.flatMap encP)[j]? = some (flatK encP 3 d)[j]! := by
        have := congrArg (fun l => l[j]?) (flatK_list d)
        simp only [d] at this
        rw [← this, Array.getElem?_toList, getElem!_pos _ j hj]
        exact Array.getElem?_eq_getElem hj
      have := row_cells ho j _ h1
      rw [Go.WideShapes.add_plain, Nat.zero_add] at this
      exact this
    have eg : ∀ args w, (callFunc 126 args).run Tryz.prog w = .ok (.enter 126 args) w := enters_of Tryz.func126 (by kernel_rfl) rfl
    have hcmp : CmpLays Tryz.prog 126 #[] encP 3 cmpL g 0 d.size w := fun m os dk _ x y => lcmp_any x y _
    have hcon := AnyQ.slices_SortFunc Tryz.sortK 3 Tryz.isAgg232 Tryz.sizeOf232 encP encP3 (fun x v hv => by simp [encP] at hv; rcases hv with rfl | rfl | rfl <;> rfl) cmpL swo_L 126 #[] g 0 cap d w eg hcmp hH (lt_of_block hgb) (by omega)
    rw [hdl] at hcon
    refine Calls.mono hcon ?_
    rintro e w' ⟨rfl, d', n, os, hperm, hsort, rfl⟩
    have hsz : d'.size = L.length := by rw [hperm.1, hdl]
    have hpl : d'.toList.Perm d.toList := by
      have h1 := hperm.2.2
      have e1 : d'.extract 0 L.length = d' := by rw [← hsz]; simp
      have e2 : d.extract 0 L.length = d := by rw [← hdl]; simp
      rw [e1, e2] at h1
      exact h1
    refine ⟨rfl, d'.toList, hpl, ?_, ?_, sortK_fr _ _ _ _ _⟩
    · rw [List.pairwise_iff_getElem]
      intro i j hi hj hij
      have hj' : j < d'.size := by simpa using hj
      have hs := hsort i j (Nat.zero_le _) hij (by omega)
      rw [getElem!_pos d' j hj', getElem!_pos d' i (by omega)] at hs
      unfold Go.Proofs.ltOf at hs
      simp only [decide_eq_false_iff_not] at hs
      intro hl
      exact hs ((cmpL_neg _ _).2 (by simpa using hl))
    · have hb' := sortK_block (n := n) (os := os) (flatK encP 3 d') hgb
      have hl' : d'.toList.length = L.length := by simp [hsz]
      refine ⟨by rw [flat_len encP3], .inr ⟨g, cap, _, by rw [hl'], hbg, hb', by omega, hcm, by simp [putCells, hcs], ?_⟩⟩
      rw [hl', ← hsz]
      have ht := takeK cur (flatK encP 3 d') (by rw [size_flatK, hsz, hcs]; exact Nat.mul_le_mul_right 3 hnc)
      rw [size_flatK, flatK_list] at ht
      exact ht
end Go.Proofs.YtcjeckjmoponkaaGreatDoor.Dl
/- Advance: what passes, in order. -/
namespace Go.Proofs.YtcjeckjmoponkaaGreatDoor.Dl
open Go.RowKit Go.Sort
set_option linter.unusedVariables false
set_option linter.unusedSimpArgs false

variable {w0 w : World} {G : Nat → Prop} {a : Nat} {now : Int} {f : Nat → Int} {P : Nat}

set_option maxHeartbeats 800000 in
theorem jAdv_never (J : JAt w0 G w a now f P) : Calls Tryz.prog 69 #[pt a, .int .u64 never] w fun e w' => e = .returned (.tuple #[.slice none 0 0, .int .i64 2]) ∧ w = w' := by
  obtain ⟨bb, cl, ta, S, gs, tn, tg, B⟩ := J
  have hu := Lib.hid (jusable_yes a bb w B.ca)
  have hv := Lib.hid (vadv_never B.hc)
  have ca := B.ca
  have c0 := B.hb.c0
  clear B
  unfold pt never at *
  go_enter Tryz.func69, Tryz.ntmps69
  go_wp2_with (first | (go_at_call 121; refine hu.out.mono ?_; rintro e w' ⟨rfl, rfl⟩) | (go_at_call 122; refine hv.out.mono ?_; rintro e w' ⟨rfl, rfl⟩))
  go_ret2
  exact ⟨rfl, rfl⟩
set_option maxHeartbeats 800000 in
theorem jAdv_early (J : JAt w0 G w a now f P) {to' : Int} (hn : to' ≠ never) (hl : to' < now) : Calls Tryz.prog 69 #[pt a, .int .u64 to'] w fun e w' => e = .returned (.tuple #[.slice none 0 0, .int .i64 3]) ∧ w = w' := by
  obtain ⟨bb, cl, ta, S, gs, tn, tg, B⟩ := J
  have hu := Lib.hid (jusable_yes a bb w B.ca)
  have hv := Lib.hid (vadv_early B.hc hn hl)
  have ca := B.ca
  have c0 := B.hb.c0
  clear B
  unfold pt at *
  go_enter Tryz.func69, Tryz.ntmps69
  go_wp2_with (first | (go_at_call 121; refine hu.out.mono ?_; rintro e w' ⟨rfl, rfl⟩) | (go_at_call 122; refine hv.out.mono ?_; rintro e w' ⟨rfl, rfl⟩))
  go_ret2
  exact ⟨rfl, rfl⟩

theorem infoLap : (Tryz.prog.info? 232).map (fun i => (i.zero, i.size, i.bytes)) = some (some (.agg #[.int .u64 0, .int .i64 0, .int .i64 0]), 3, 24) := by kernel_rfl
theorem infoLapse : (Tryz.prog.info? 142).map (fun i => (i.zero, i.size, i.bytes)) = some (some (.agg #[.int .i64 0, .int .i64 0, .int .u64 0]), 3, 24) := by kernel_rfl
theorem new_cells3 (w : World) (a b c : Value) (t : TypeId) : ∀ (j : Nat) (u : Value), [a, b, c][j]? = some u → (w.alloc (.cells #[a, b, c] t)).cell? ((⟨w.heap.size, 0, none⟩ : Addr).add j) = some u := by
  intro j u hu
  rw [Go.WideShapes.add_plain, Nat.zero_add]
  exact cell_new _ _ _ _ _ _ rfl (by simpa using hu)
theorem take_snoc {α : Type} {L : List α} {k : Nat} {x : α} (h : L[k]? = some x) : L.take (k + 1) = L.take k ++ [x] := by
  rw [List.take_add_one, h]
  rfl

set_option maxRecDepth 100000 in
set_option maxHeartbeats 6400000 in
theorem jAdv_yes (J : JAt w0 G w a now f P) {tt : Int} (htt : tt < never) (hl : now ≤ tt) (hP : P ≤ 9223372036854775807) :
    Calls Tryz.prog 69 #[pt a, .int .u64 tt] w fun e w' => ∃ v L, e = .returned (.tuple #[v, .int .i64 0]) ∧ IsLap now tt f L ∧ RowL w' w.heap.size v L ∧ JAt w0 (GV G v) w' a tt f P ∧ Keep G w w' ∧ w.heap.size ≤ w'.heap.size := by
  obtain ⟨bb, cl, ta, S, gs, tn, tg, B⟩ := J
  have hu := Lib.hid (jusable_yes a bb w B.ca)
  have hv := Lib.hid (vadv_ok B.hc (Int.ne_of_lt htt) hl)
  have ca := B.ca
  have c0 := B.hb.c0
  have hnd := B.T.nodup
  have hpl := B.T.p.lt
  obtain ⟨wc, hwc⟩ : ∃ wc, w.setCell ⟨cl, 0, none⟩ (.int .u64 tt) = wc := ⟨_, rfl⟩
  have hbc := B.clock (w' := wc) (now' := tt) (by rw [← hwc]; exact fr_setCell w ⟨cl, 0, none⟩ _) (by rw [← hwc]; exact cells_set B.hc 0 _) htt True.intro
  have hsc : wc.heap.size = w.heap.size := by rw [← hwc]; simp
  have hex := Lib.hid (texpire_any hbc.1.T tt (Int.ne_of_lt htt) hP)
  have hDI := Lib.hid (B.di.adv hnd hpl hl)
  have hdl := Lib.hid (fun L h1 h2 => B.di.laps hnd htt (L := L) h1 h2)
  have hdo := Lib.hid (B.di.dues hnd (tt := tt))
  have how := Lib.hid (exp_owners _ tt S gs rfl hnd (B.di.owners hnd))
  have hDl := Lib.hid ((expS_len S.length tt S gs rfl).1)
  have hSl := Lib.hid (B.di.len hnd)
  have HBC := Lib.hid hbc.1
  have HKC := Lib.hid hbc.2
  have HSC := Lib.hid hsc
  have ca1 := hbc.1.ca
  have c1 := hbc.1.hb.c1
  rw [hwc] at hv
  have hv := Lib.hid hv
  have HB := Lib.hid B
  clear B hbc hwc hsc hnd hpl
  generalize expS tt S gs = ex at *
  obtain ⟨D, S', gs'⟩ := ex
  simp only at hex hDI hdl hdo how hDl
  unfold pt at *
  go_enter Tryz.func69, Tryz.ntmps69
  go_wp2_with (first | (go_at_call 121; refine hu.out.mono ?_; rintro e w' ⟨rfl, rfl⟩) | (go_at_call 122; refine hv.out.mono ?_; rintro e w' ⟨rfl, rfl⟩) | (go_at_call 123; fail))
  refine hex.out.mono ?_
  rintro e w1 ⟨vd, rfl, row1, T1, K1, hnil, hsz1⟩
  have h1 := HBC.out.timers (T1.less (fun k h => .inl h)) K1 hDI.out
  have HB1 := Lib.hid h1.1
  have HK1 := Lib.hid (HKC.out.trans h1.2)
  have HR1 := Lib.hid row1
  have HZ1 := Lib.hid (show w.heap.size ≤ w1.heap.size by have := HSC.out; omega)
  obtain ⟨da, dc, rfl⟩ := slice_form row1
  clear T1 K1 h1 row1 hsz1 ca ca1 c0 c1 hex hnil
  have hDi : (D.length : Int) ≤ 256 := by have := hDl.out; have := hSl.out; omega
  obtain ⟨il, hil0, hil1, hil2, hil3⟩ := info_parts infoLap
  obtain ⟨im, him0, him1, him2, him3⟩ := info_parts infoLapse
  have mixed : Tryz.prog.follows .mixedOrders = true := by kernel_rfl
  go_wp2_with fail
  obtain ⟨E, hE⟩ : ∃ E, D.map lapD = E := ⟨_, rfl⟩
  have hEl : E.length = D.length := by rw [← hE]; simp
  have HE := Lib.hid hE
  have HEl := Lib.hid hEl
  clear hE hEl
  go_loopw [7, 38] (fun v7 i wr => ∃ k : Nat, k ≤ D.length ∧ i = .int .i64 k ∧ RowP wr w1.heap.size v7 (E.take k) ∧ Below w1.heap.size w1 wr) (fun _ i _ => D.length - (intOf i).toNat)
  case atStart => exact ⟨0, by omega, rfl, World.ownsRow_nil _ _ _ _, Below.refl _ _⟩
  case round =>
    obtain ⟨k, hk, rfl, hrow, hb⟩ := hrel
    by_cases hlt : k < D.length
    · obtain ⟨dd, hdd⟩ : ∃ dd, D[k]? = some dd := ⟨_, List.getElem?_eq_getElem hlt⟩
      obtain ⟨p, hp, hpo⟩ := hdo.out dd (List.mem_of_getElem? hdd)
      have htk : E.take (k + 1) = E.take k ++ [lapD dd] := take_snoc (by rw [← HE.out, List.getElem?_map, hdd]; rfl)
      have hrd := HR1.out.below hb
      obtain ⟨ga, gc, hga, _, _⟩ := row_some hrd (by omega)
      simp only [Value.slice.injEq, true_and] at hga
      obtain ⟨rfl, rfl⟩ := hga
      obtain ⟨d0, d1, d2, d3⟩ := hrd.cells k dd hdd
      obtain ⟨va, vc, rfl⟩ := slice_form hrow
      have hlen : (E.take k).length = k := by rw [List.length_take, HEl.out]; omega
      have hki : (k : Int) < (D.length : Int) := by omega
      have hlap : lapD dd = (dd.k, p) := by unfold lapD; rw [hpo]; rfl
      obtain ⟨dn, dg, dO, dk⟩ := dd
      simp only at hpo d0 d1 d2 d3 hlap
      subst hpo
      obtain ⟨w4, hW4⟩ : ∃ w4, wr.alloc (.cells #[.int .i64 dn, .int .i64 dg, .int .i64 (p : Int), .int .u64 dk] 229) = w4 := ⟨_, rfl⟩
      have hb4 : Below wr.heap.size wr w4 := by rw [← hW4]; exact (Below.refl _ _).alloc (Nat.le_refl _) _
      have hx4 : w4.heap[wr.heap.size]? = some (.cells #[.int .i64 dn, .int .i64 dg, .int .i64 (p : Int), .int .u64 dk] 229 (0, 0)) := by rw [← hW4]; exact block_new _ _ _ rfl
      have HX4 := Lib.hid hx4
      have HB4 := Lib.hid (hb.trans (hb4.mono hb.size))
      have hrow' : wr.ownsRow w1.heap.size 232 3 (.slice va k vc) k ((E.take k).flatMap encP) := by
        have := hrow
        unfold RowP at this
        rw [hlen] at this
        exact this
      have HR4 := Lib.hid ((Fr.of_below hb4 []).row hrow' (fun _ _ => by simp))
      have HW4 := Lib.hid hW4
      have HL := Lib.hid (And.intro hlt (And.intro htk (And.intro hlap (And.intro hlen hp))))
      have hHS : Hid (Below w4.heap.size w4 w4.drew) := Lib.hid (Below.refl _ _).drew
      clear hrd hrow hrow' hb hb4 hx4 hW4 hdd htk hlap hlt
      rw [hlen]
      clear hlen
      go_wp2_with fail
      rw [HW4.out]
      obtain ⟨x, hx⟩ : ∃ x, wr.heap.size = x := ⟨_, rfl⟩
      rw [hx]
      rw [hx] at HX4
      have hld : ∀ W', Below w4.heap.size w4 W' → W'.cell? ⟨x, 2, none⟩ = some (.int .i64 (p : Int)) ∧ W'.cell? ⟨x, 3, none⟩ = some (.int .u64 dk) := fun W' hb => by
        have h := (hb.block _ (lt_of_block HX4.out)).trans HX4.out
        exact ⟨cells_cell h rfl, cells_cell h rfl⟩
      have hpl : ∀ W', Calls Tryz.prog 124 #[.int .i64 (p : Int)] W' fun e w' => e = .returned (plc (p / 2) (p % 2)) ∧ Grn W' w' := fun W' => by
        have := jplace_any (p / 2) (p % 2) (by have := HL.out; omega) (by omega) W'
        rwa [show p / 2 * 2 + p % 2 = p by omega] at this
      have Hpl := Lib.hid hpl
      clear hpl hx HW4
      refine wp_region_mix (fun W' => Below w4.heap.size w4 W') 8 [(true, 0), (true, 1), (true, 2), (true, 3), (true, 4), (false, 5), (false, 6), (false, 7)] mixed (by kernel_rfl) (fun _ _ _ d _ h => by cases d <;> exact h) ?_
      simp only [List.map_cons, List.map_nil, List.getD_cons_zero, List.getD_cons_succ, List.drop_succ_cons, List.drop_zero]
      refine mix_move (.tmp 7) (.slice va k vc) rfl hHS.out rfl rfl ?_
      simp only [Act.put, List.setIfInBounds_toArray, List.set_cons_zero, List.set_cons_succ]
      refine mix_take (.pointer (some ⟨x, 3, none⟩)) hHS.out rfl (fun W' hS => by go_simp) ?_
      simp only [Act.put, List.setIfInBounds_toArray, List.set_cons_zero, List.set_cons_succ]
      refine mix_take (.int .u64 dk) hHS.out rfl (fun W' hS => by obtain ⟨l0, l1⟩ := hld W' hS; go_simp) ?_
      simp only [Act.put, List.setIfInBounds_toArray, List.set_cons_zero, List.set_cons_succ]
      refine mix_take (.pointer (some ⟨x, 2, none⟩)) hHS.out rfl (fun W' hS => by go_simp) ?_
      simp only [Act.put, List.setIfInBounds_toArray, List.set_cons_zero, List.set_cons_succ]
      refine mix_take (.int .i64 (p : Int)) hHS.out rfl (fun W' hS => by obtain ⟨l0, l1⟩ := hld W' hS; go_simp) ?_
      simp only [Act.put, List.setIfInBounds_toArray, List.set_cons_zero, List.set_cons_succ]
      clear hld
      refine mix_step rfl (fun K hK => ?_)
      go_simp
      go_wp2_with (go_at_call 124; fail)
      refine (Hpl.out _).mono ?_
      rintro e w5 ⟨rfl, hg5⟩
      have HS5 := Lib.hid (hHS.out.trans (hg5.below.mono hHS.out.size))
      refine hK _ _ HS5.out ?_
      clear hK K hg5
      unfold plc
      obtain ⟨pq, hpq⟩ : ∃ pq, ((p / 2 : Nat) : Int) = pq := ⟨_, rfl⟩
      obtain ⟨pr, hpr⟩ : ∃ pr, ((p % 2 : Nat) : Int) = pr := ⟨_, rfl⟩
      rw [hpq, hpr]
      have HPQ := Lib.hid (And.intro hpq hpr)
      clear hpq hpr Hpl
      refine mix_by (.agg #[.int .u64 dk, .int .i64 pq, .int .i64 pr]) rfl (by go_simp) HS5.out ?_
      simp only [Act.put, List.setIfInBounds_toArray, List.set_cons_zero, List.set_cons_succ]
      have hb6 : Below w5.heap.size w5 (w5.alloc (.cells #[.int .u64 dk, .int .i64 pq, .int .i64 pr] 232)) := (Below.refl _ _).alloc (Nat.le_refl _) _
      have HS6 := Lib.hid (HS5.out.trans (hb6.mono HS5.out.size))
      refine mix_step rfl (fun K hK => ?_)
      go_simp
      refine hK _ _ HS6.out ?_
      clear hK K
      refine mix_nil ?_
      have HR6 := Lib.hid ((Fr.of_below hb6 []).row ((Fr.of_below HS5.out []).row HR4.out (fun _ _ => by simp)) (fun _ _ => by simp))
      have HB6 := Lib.hid ((HB4.out.trans (HS5.out.mono HB4.out.size)).trans (hb6.mono (by have := HB4.out.size; have := HS5.out.size; omega)))
      clear hb6
      go_wp2_with (at_builtin; refine wpList_append_row _ rfl _ _ 225 rfl 232 il (.agg #[.int .u64 0, .int .i64 0, .int .i64 0]) 3 24 Tryz.underlying225 hil0 hil1 hil2 hil3 rfl (by decide) w1.heap.size (.slice va k vc) k ((E.take k).flatMap encP) rfl HR6.out ?c0 ⟨w5.heap.size, 0, none⟩ 1 1 [.int .u64 dk, .int .i64 pq, .int .i64 pr] rfl rfl ?c1 ?c2 (by decide) ?c3 ?c4 ?_)
      case c0 => exact HB6.out.size
      case c1 => exact new_cells3 w5 _ _ _ _
      case c2 => simp [Value.oneCell']
      case c3 => have := HL.out.1; unfold maxLen; omega
      case c4 => have := HL.out.1; omega
      intro v' w7 hown hf hnear
      have henc : encP (dk, p) = [.int .u64 dk, .int .i64 pq, .int .i64 pr] := by unfold encP; rw [HPQ.out.1, HPQ.out.2]
      have hrel : RowP w7 w1.heap.size v' (E.take (k + 1)) ∧ Below w1.heap.size w1 w7 := by
        refine ⟨?_, HB6.out.trans (hf.below (fun g hg => (HR6.out.lt g (by simpa using hg)).1) HB6.out.size)⟩
        have e1 : (E.take (k + 1)).length = k + 1 := by rw [HL.out.2.1, List.length_append, HL.out.2.2.2.1]; rfl
        have e2 : (E.take (k + 1)).flatMap encP = (E.take k).flatMap encP ++ [.int .u64 dk, .int .i64 pq, .int .i64 pr] := by
          rw [HL.out.2.1, List.flatMap_append, HL.out.2.2.1, ← henc]
          simp
        unfold RowP
        rw [e1, e2]
        exact hown
      have HREL := Lib.hid hrel
      clear hrel hown hf hnear HR6 HB6 henc
      go_wp2_with fail
      go_roundw
      case rel => exact ⟨k + 1, by have := HL.out.1; omega, by go_num, HREL.out.1, HREL.out.2⟩
      case measure => simp [intOf]; have := HL.out.1; omega
    · obtain rfl : k = D.length := by omega
      rw [← HEl.out, List.take_length] at hrow
      have hsrt := jsort_any hrow (by rw [HEl.out]; omega)
      have HS := Lib.hid hsrt
      have HR := Lib.hid hrow
      have HBw := Lib.hid hb
      clear hrow hb hsrt
      unfold cmpJV at HS
      go_wp2_with (go_at_call 125; fail)
      refine HS.out.mono ?_
      rintro e w2 ⟨rfl, L, hperm, hord, hrow, hf⟩
      have hsz2 := hf.size
      have hb2 : Below w1.heap.size w1 w2 := HBw.out.trans (hf.below (fun g hg => (HR.out.lt g (by simpa using hg)).1) HBw.out.size)
      have hLl : L.length = D.length := by rw [hperm.length_eq, HEl.out]
      have HLl := Lib.hid hLl
      have HRow := Lib.hid hrow
      have HB2 := Lib.hid hb2
      have hLi : (L.length : Int) ≤ 256 := by rw [hLl]; exact hDi
      have hEn : E.Nodup := by
        rw [← HE.out]
        refine List.pairwise_map.2 (how.out.imp_of_mem (fun {x y} hx hy hne heq => hne ?_))
        obtain ⟨px, _, hpx⟩ := hdo.out x hx
        obtain ⟨py, _, hpy⟩ := hdo.out y hy
        have := congrArg Prod.snd heq
        simp only [lapD, hpx, hpy, Int.toNat_natCast] at this
        rw [hpx, hpy, this]
      have hLn : L.Nodup := hperm.nodup_iff.2 hEn
      have hlap := hdl.out L ((List.pairwise_and_iff.2 ⟨hord, hLn⟩).imp (fun {x y} hn => by
        rcases ltL_tri x y with h | h | h
        · exact h
        · exact absurd h hn.2
        · exact absurd h hn.1)) (fun x => by rw [hperm.mem_iff, HE.out])
      have HLAP := Lib.hid hlap
      clear hperm hord hrow hf hsz2 hb2 hLl hlap HR HBw HS hEn hLn
      obtain ⟨va, vc, rfl⟩ := slice_form HRow.out
      go_wp2_with fail
      go_loopw [10, 56] (fun v10 i wr2 => ∃ k : Nat, k ≤ L.length ∧ i = .int .i64 k ∧ RowL wr2 w2.heap.size v10 (L.take k) ∧ Below w2.heap.size w2 wr2) (fun _ i _ => L.length - (intOf i).toNat)
      case atStart => exact ⟨0, by omega, rfl, World.ownsRow_nil _ _ _ _, Below.refl _ _⟩
      case round =>
        obtain ⟨k, hk, rfl, hrow, hb⟩ := hrel
        by_cases hlt : k < L.length
        · obtain ⟨z, hz⟩ : ∃ z, L[k]? = some z := ⟨_, List.getElem?_eq_getElem hlt⟩
          have htk : L.take (k + 1) = L.take k ++ [z] := take_snoc hz
          have hrp := HRow.out.below hb
          obtain ⟨ga, gc, hga, _, _⟩ := row_some hrp (by omega)
          simp only [Value.slice.injEq, true_and] at hga
          obtain ⟨rfl, rfl⟩ := hga
          obtain ⟨d0, d1, d2⟩ := hrp.cells k z hz
          obtain ⟨va, vc2, rfl⟩ := slice_form hrow
          have hlen : (L.take k).length = k := by rw [List.length_take]; omega
          have hki : (k : Int) < (L.length : Int) := by omega
          obtain ⟨pq, hpq⟩ : ∃ pq, ((z.2 / 2 : Nat) : Int) = pq := ⟨_, rfl⟩
          obtain ⟨pr, hpr⟩ : ∃ pr, ((z.2 % 2 : Nat) : Int) = pr := ⟨_, rfl⟩
          obtain ⟨zk, hzk⟩ : ∃ zk, z.1 = zk := ⟨_, rfl⟩
          have Hsp : Hid (∀ W', Calls Tryz.prog 127 #[.agg #[.int .i64 pq, .int .i64 pr]] W' fun e w' => e = .returned (.agg #[.int .i64 pq, .int .i64 pr]) ∧ Grn W' w') := by
            rw [← hpq, ← hpr]
            exact Lib.hid (fun W' => jspot_any (z.2 / 2) (z.2 % 2) W')
          rw [hpq] at d1
          rw [hpr] at d2
          rw [hzk] at d0
          have HPQ := Lib.hid (And.intro hpq (And.intro hpr hzk))
          obtain ⟨w4, hW4⟩ : ∃ w4, wr.alloc (.cells #[.int .u64 zk, .int .i64 pq, .int .i64 pr] 232) = w4 := ⟨_, rfl⟩
          have hb4 : Below wr.heap.size wr w4 := by rw [← hW4]; exact (Below.refl _ _).alloc (Nat.le_refl _) _
          have hx4 : w4.heap[wr.heap.size]? = some (.cells #[.int .u64 zk, .int .i64 pq, .int .i64 pr] 232 (0, 0)) := by rw [← hW4]; exact block_new _ _ _ rfl
          have HX4 := Lib.hid hx4
          have HB4 := Lib.hid (hb.trans (hb4.mono hb.size))
          have hrow' : wr.ownsRow w2.heap.size 142 3 (.slice va k vc2) k ((L.take k).flatMap encL) := by
            have := hrow
            unfold RowL at this
            rw [hlen] at this
            exact this
          have HR4 := Lib.hid ((Fr.of_below hb4 []).row hrow' (fun _ _ => by simp))
          have HW4 := Lib.hid hW4
          have HL := Lib.hid (And.intro hlt (And.intro htk hlen))
          have hHS : Hid (Below w4.heap.size w4 w4.drew) := Lib.hid (Below.refl _ _).drew
          clear hrp hrow hrow' hb hb4 hx4 hW4 hz htk hlt hpq hpr hzk
          rw [hlen]
          clear hlen
          go_wp2_with fail
          rw [HW4.out]
          obtain ⟨x, hx⟩ : ∃ x, wr.heap.size = x := ⟨_, rfl⟩
          rw [hx]
          rw [hx] at HX4
          have hld : ∀ W', Below w4.heap.size w4 W' → W'.cell? ⟨x, 0, none⟩ = some (.int .u64 zk) ∧ W'.cell? ⟨x, 1, none⟩ = some (.int .i64 pq) ∧ W'.cell? ⟨x, 2, none⟩ = some (.int .i64 pr) := fun W' hb => by
            have h := (hb.block _ (lt_of_block HX4.out)).trans HX4.out
            exact ⟨cells_cell h rfl, cells_cell h rfl, cells_cell h rfl⟩
          clear hx HW4
          refine wp_region_mix (fun W' => Below w4.heap.size w4 W') 8 [(true, 0), (true, 1), (true, 2), (true, 4), (true, 5), (false, 3), (false, 6), (false, 7)] mixed (by kernel_rfl) (fun _ _ _ d _ h => by cases d <;> exact h) ?_
          simp only [List.map_cons, List.map_nil, List.getD_cons_zero, List.getD_cons_succ, List.drop_succ_cons, List.drop_zero]
          refine mix_move (.tmp 10) (.slice va k vc2) rfl hHS.out rfl rfl ?_
          simp only [Act.put, List.setIfInBounds_toArray, List.set_cons_zero, List.set_cons_succ]
          refine mix_take (.pointer (some ⟨x, 1, none⟩)) hHS.out rfl (fun W' hS => by go_simp) ?_
          simp only [Act.put, List.setIfInBounds_toArray, List.set_cons_zero, List.set_cons_succ]
          refine mix_take (.agg #[.int .i64 pq, .int .i64 pr]) hHS.out rfl (fun W' hS => by obtain ⟨l0, l1, l2⟩ := hld W' hS; go_simp) ?_
          simp only [Act.put, List.setIfInBounds_toArray, List.set_cons_zero, List.set_cons_succ]
          refine mix_take (.pointer (some ⟨x, 0, none⟩)) hHS.out rfl (fun W' hS => by go_simp) ?_
          simp only [Act.put, List.setIfInBounds_toArray, List.set_cons_zero, List.set_cons_succ]
          refine mix_take (.int .u64 zk) hHS.out rfl (fun W' hS => by obtain ⟨l0, l1, l2⟩ := hld W' hS; go_simp) ?_
          simp only [Act.put, List.setIfInBounds_toArray, List.set_cons_zero, List.set_cons_succ]
          clear hld
          refine mix_step rfl (fun K hK => ?_)
          go_simp
          go_wp2_with (go_at_call 127; fail)
          refine (Hsp.out _).mono ?_
          rintro e w5 ⟨rfl, hg5⟩
          have HS5 := Lib.hid (hHS.out.trans (hg5.below.mono hHS.out.size))
          refine hK _ _ HS5.out ?_
          clear hK K hg5 Hsp
          refine mix_by (.agg #[.int .i64 pq, .int .i64 pr, .int .u64 zk]) rfl (by go_simp) HS5.out ?_
          simp only [Act.put, List.setIfInBounds_toArray, List.set_cons_zero, List.set_cons_succ]
          have hb6 : Below w5.heap.size w5 (w5.alloc (.cells #[.int .i64 pq, .int .i64 pr, .int .u64 zk] 142)) := (Below.refl _ _).alloc (Nat.le_refl _) _
          have HS6 := Lib.hid (HS5.out.trans (hb6.mono HS5.out.size))
          refine mix_step rfl (fun K hK => ?_)
          go_simp
          refine hK _ _ HS6.out ?_
          clear hK K
          refine mix_nil ?_
          have HR6 := Lib.hid ((Fr.of_below hb6 []).row ((Fr.of_below HS5.out []).row HR4.out (fun _ _ => by simp)) (fun _ _ => by simp))
          have HB6 := Lib.hid ((HB4.out.trans (HS5.out.mono HB4.out.size)).trans (hb6.mono (by have := HB4.out.size; have := HS5.out.size; omega)))
          clear hb6
          go_wp2_with (at_builtin; refine wpList_append_row _ rfl _ _ 33 rfl 142 im (.agg #[.int .i64 0, .int .i64 0, .int .u64 0]) 3 24 Tryz.underlying33 him0 him1 him2 him3 rfl (by decide) w2.heap.size (.slice va k vc2) k ((L.take k).flatMap encL) rfl HR6.out ?c0 ⟨w5.heap.size, 0, none⟩ 1 1 [.int .i64 pq, .int .i64 pr, .int .u64 zk] rfl rfl ?c1 ?c2 (by decide) ?c3 ?c4 ?_)
          case c0 => exact HB6.out.size
          case c1 => exact new_cells3 w5 _ _ _ _
          case c2 => simp [Value.oneCell']
          case c3 => have := HL.out.1; unfold maxLen; omega
          case c4 => have := HL.out.1; omega
          intro v' w7 hown hf hnear
          have henc : encL z = [.int .i64 pq, .int .i64 pr, .int .u64 zk] := by unfold encL; rw [HPQ.out.1, HPQ.out.2.1, HPQ.out.2.2]
          have hrel : RowL w7 w2.heap.size v' (L.take (k + 1)) ∧ Below w2.heap.size w2 w7 := by
            refine ⟨?_, HB6.out.trans (hf.below (fun g hg => (HR6.out.lt g (by simpa using hg)).1) HB6.out.size)⟩
            have e1 : (L.take (k + 1)).length = k + 1 := by rw [HL.out.2.1, List.length_append, HL.out.2.2]; rfl
            have e2 : (L.take (k + 1)).flatMap encL = (L.take k).flatMap encL ++ [.int .i64 pq, .int .i64 pr, .int .u64 zk] := by
              rw [HL.out.2.1, List.flatMap_append, ← henc]
              simp
            unfold RowL
            rw [e1, e2]
            exact hown
          have HREL := Lib.hid hrel
          clear hrel hown hf hnear HR6 HB6 henc
          go_wp2_with fail
          go_roundw
          case rel => exact ⟨k + 1, by have := HL.out.1; omega, by go_num, HREL.out.1, HREL.out.2⟩
          case measure => simp [intOf]; have := HL.out.1; omega
        · obtain rfl : k = L.length := by omega
          rw [List.take_length] at hrow
          have HRF := Lib.hid hrow
          have HBF := Lib.hid hb
          clear hrow hb
          go_wp2_with fail
          go_ret2
          have b2 := HB2.out
          have b3 := HBF.out
          have s1 := HZ1.out
          have s2 := b2.size
          have s3 := b3.size
          have hb : Below w1.heap.size w1 wr := b2.trans (b3.mono s2)
          have B' := HB1.out.more hb (G' := GV G u10) (fun k hk => by
            rcases hk with h | h
            · exact .inl h
            · have := HRF.out.lt k h; exact .inr ⟨by omega, this.2⟩)
          refine ⟨_, L, rfl, HLAP.out, ownsRow_mono HRF.out (by omega), ⟨_, _, _, _, _, _, _, B'⟩, HK1.out.trans (fun k hk => hb.block k (HB1.out.glt k hk)), by omega⟩
end Go.Proofs.YtcjeckjmoponkaaGreatDoor.Dl
/- Nil and zero deadlines: the walk of DeadlineNil. -/
namespace Go.Proofs.YtcjeckjmoponkaaGreatDoor.Dl
open Go.RowKit Go.Sort
set_option linter.unusedVariables false
set_option linter.unusedSimpArgs false

/-- Deadlines that cannot be used, whatever the world has grown to. -/
def DeadJ (p : Option Addr) (w : World) : Prop := ∀ W, Grn w W → Calls Tryz.prog 121 #[.pointer p] W fun e w' => e = .returned (.bool false) ∧ W = w'
theorem DeadJ.grn {p : Option Addr} {w w' : World} (h : DeadJ p w) (g : Grn w w') : DeadJ p w' := fun W hW => h W (g.trans hW)
end Go.Proofs.YtcjeckjmoponkaaGreatDoor.Dl
