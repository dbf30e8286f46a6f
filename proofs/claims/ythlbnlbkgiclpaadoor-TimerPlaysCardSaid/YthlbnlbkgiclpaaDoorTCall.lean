/- The calls of timers that change nothing: usable, name, Len, Get, first, Next. -/
import Derived.Test.YthlbnlbkgiclpaaDoorTMem
import Derived.Shelf.SlSortCmp.QuietGrown
namespace Go.Proofs.YthlbnlbkgiclpaaDoor
open Go.RowKit Go.Sort
set_option linter.unusedVariables false
set_option linter.unusedSimpArgs false

/-- The world has only grown. -/
def Grn (w w' : World) : Prop := ∃ q os, w' = grow (w.drewN q) os
theorem Grn.below {w w' : World} (h : Grn w w') : Below w.heap.size w w' := by
  obtain ⟨q, os, rfl⟩ := h
  exact (fr_grow w q os []).below (fun _ hx => by simp at hx) (Nat.le_refl _)
theorem Grn.of {w w' : World} (hb : Below w.heap.size w w') (hd : w.drawn ≤ w'.drawn) : Grn w w' := by
  refine ⟨w'.drawn - w.drawn, w'.heap.extract w.heap.size w'.heap.size, ?_⟩
  obtain ⟨h, t, d, o, out⟩ := w
  obtain ⟨h', t', d', o', out'⟩ := w'
  obtain ⟨h1, h2, h3, h4, h5⟩ := hb
  simp only at h1 h2 h3 h4 h5 hd
  subst h1 h2 h3
  simp only [grow, World.drewN, World.mk.injEq, true_and, and_true]
  refine ⟨?_, by omega⟩
  refine Array.ext_getElem? (fun i => ?_)
  by_cases hi : i < h.size
  · rw [Array.getElem?_append_left hi]; exact h5 i hi
  · rw [Array.getElem?_append_right (by omega), Array.getElem?_extract]
    by_cases hj : i < h'.size
    · rw [if_pos (by omega)]; congr 1; omega
    · rw [if_neg (by omega), Array.getElem?_eq_none (by omega)]
theorem Grn.refl (w : World) : Grn w w := Grn.of (Below.refl _ _) (Nat.le_refl _)
theorem Grn.drawn {w w' : World} (h : Grn w w') : w.drawn ≤ w'.drawn := by
  obtain ⟨q, os, rfl⟩ := h
  show w.drawn ≤ w.drawn + q
  omega
theorem Grn.trans {a b c : World} (h : Grn a b) (k : Grn b c) : Grn a c := Grn.of (h.below.trans (k.below.mono h.below.size)) (Nat.le_trans h.drawn k.drawn)
theorem Grn.alloc {w w' : World} (h : Grn w w') (o : Obj) : Grn w (w'.alloc o) := h.trans (Grn.of ((Below.refl _ _).alloc (Nat.le_refl _) _) (Nat.le_refl _))
theorem Grn.drew {w w' : World} (h : Grn w w') (n : Nat) : Grn w (w'.drewN n) := h.trans (Grn.of ((fr_drewN w' n []).below (fun _ hx => by simp at hx) (Nat.le_refl _)) (Nat.le_add_right _ _))
/-- A new block is written. -/
theorem Grn.set {w w' : World} (h : Grn w w') (a : Addr) (v : Value) (ha : w.heap.size ≤ a.block) : Grn w (w'.setCell a v) :=
  Grn.of (h.below.trans ((fr_setCell w' a v).below (fun x hx => by simp at hx; subst hx; exact ha) h.below.size)) h.drawn

set_option maxHeartbeats 400000 in
theorem tusable_nil (w : World) : Calls Tryd.prog 54 #[.pointer none] w fun e w' => e = .returned (.bool false) ∧ w = w' := by
  go_enter Tryd.func54, Tryd.ntmps54
  go_wp2_with fail
  go_ret
  exact ⟨rfl, rfl⟩
set_option maxHeartbeats 400000 in
theorem tusable_zero (a : Nat) (w : World) (hc : w.cell? ⟨a, 0, none⟩ = some (.pointer none)) : Calls Tryd.prog 54 #[.pointer (some ⟨a, 0, none⟩)] w fun e w' => e = .returned (.bool false) ∧ w = w' := by
  go_enter Tryd.func54, Tryd.ntmps54
  go_wp2_with fail
  go_ret
  exact ⟨rfl, rfl⟩
set_option maxHeartbeats 400000 in
theorem tusable_yes (a bb : Nat) (w : World) (hc : w.cell? ⟨a, 0, none⟩ = some (.pointer (some ⟨bb, 0, none⟩))) : Calls Tryd.prog 54 #[.pointer (some ⟨a, 0, none⟩)] w fun e w' => e = .returned (.bool true) ∧ w = w' := by
  go_enter Tryd.func54, Tryd.ntmps54
  go_wp2_with fail
  go_ret
  exact ⟨rfl, rfl⟩

set_option maxHeartbeats 800000 in
theorem tname_any {w : World} {bb base : Nat} {vg : Value} {gs : List Nat} (x : Nat) (hx : x < gs.length) (hm : gs.length ≤ 1024) (cg : w.cell? ⟨bb, 1, none⟩ = some vg) (tg : w.ownsRow base 3 1 vg gs.length (gs.map encN)) :
    Calls Tryd.prog 73 #[.pointer (some ⟨bb, 0, none⟩), .int .i64 x] w fun e w' => e = .returned (.agg #[.int .i64 x, .int .i64 (gs.getD x 0 : Nat)]) ∧ Grn w w' := by
  obtain ⟨g, cap, rfl, _, hgl⟩ := row_some tg (by omega)
  have hc := row_at (L := gs) (ownsRow_mono tg (Nat.zero_le _)) x hx
  unfold encN at hc
  have h1 : (x : Int) < (gs.length : Int) := by omega
  have h2 : (0 : Int) ≤ (x : Int) := by omega
  have h3 : (gs.length : Int) ≤ 1024 := by omega
  generalize gs.getD x 0 = z at *
  have bl1 := World.block_lt_of_cell? w _ cg
  have bl2 := World.block_lt_of_cell? w _ hc
  simp only at bl1 bl2
  clear tg
  go_enter Tryd.func73, Tryd.ntmps73
  go_wp2_with fail
  exact bodyPost_ret (v := .agg #[.int .i64 x, .int .i64 z]) (by simp [results, Tryd.results73, go_sem]) rfl ⟨rfl, (Grn.refl w).alloc _⟩

/-- Is this the name of a timer that is set? -/
def isT (S : List El) (gs : List Nat) (n g : Int) : Prop := ∃ x : Nat, n = x ∧ x ∈ hsOf S ∧ g = (gs.getD x 0 : Nat)

variable {w0 w : World} {G : Nat → Prop} {a bb hp : Nat} {vg : Value} {S : List El} {gs : List Nat} {P : Nat}

theorem usable_in (T : TmB w0 G w a bb hp vg S gs P) : Calls Tryd.prog 54 #[.pointer (some ⟨a, 0, none⟩)] w fun e w' => e = .returned (.bool true) ∧ w = w' := tusable_yes a bb w T.ca
theorem name_in (T : TmB w0 G w a bb hp vg S gs P) (x : Nat) (hx : x < gs.length) :
    Calls Tryd.prog 73 #[.pointer (some ⟨bb, 0, none⟩), .int .i64 x] w fun e w' => e = .returned (.agg #[.int .i64 x, .int .i64 (gs.getD x 0 : Nat)]) ∧ Grn w w' := tname_any x hx T.gl T.cg T.tg
theorem El_of {S : List El} {x : Nat} (h : x ∈ hsOf S) : ∃ e ∈ S, e.h = x := List.mem_map.1 h

set_option maxHeartbeats 1600000 in
theorem tget_none (T : TmIn w0 G w a S gs P) (n g : Int) (hn : ¬ isH S n) :
    Calls Tryd.prog 57 #[pt a, .agg #[.int .i64 n, .int .i64 g]] w fun e w' => e = .returned (.tuple #[.int .u64 0, .int .i64 0, .int .i64 9]) ∧ Grn w w' := by
  obtain ⟨bb, hp, vg, B⟩ := T.ex
  have B1 := B.grown ((Grn.refl w).alloc (.cells #[.int .i64 n, .int .i64 g] 53)).below
  have hu := Lib.hid (usable_in B1)
  have hg : Hid (∀ m, Calls Tryd.prog 25 #[.pointer (some ⟨hp, 0, none⟩), .int .i64 n] ((w.alloc (.cells #[.int .i64 n, .int .i64 g] 53)).drewN m) fun e w' => e = .returned (.tuple #[.int .u64 0, .int .i64 0, .int .i64 9]) ∧ ∃ k, w' = ((w.alloc (.cells #[.int .i64 n, .int .i64 g] 53)).drewN m).drewN k) :=
    fun m => (get_no_in (B1.H.drew m) n hn).mono fun e w' ⟨h1, h2⟩ => ⟨h1, 0, h2.symm⟩
  have ca := B.ca
  have cb := B.cb
  have al := B.alt
  have bl := B.blt
  clear T B B1 hn
  unfold pt
  go_enter Tryd.func57, Tryd.ntmps57
  go_wp2_with (first | (go_at_call 54; refine hu.out.mono ?_; rintro e w' ⟨rfl, rfl⟩))
  go_quiet ((go_at_call 25; refine Calls.quiet_of (hg.out _)))
  go_wp2_with fail
  go_quiet (fail)
  go_wp2_with fail
  go_ret3
  exact ⟨rfl, (((Grn.refl w).alloc _).drew _).drew _⟩

theorem cell_grn {w : World} {a : Addr} {v : Value} (hb : a.block < w.heap.size) (h : w.cell? a = some v) : ∀ m os, (grow (w.drewN m) os).cell? a = some v := fun m os => cell_grown hb h m os

set_option maxHeartbeats 3200000 in
theorem tget_mem (T : TmIn w0 G w a S gs P) (e : El) (g : Int) (he : e ∈ S) :
    Calls Tryd.prog 57 #[pt a, .agg #[.int .i64 e.h, .int .i64 g]] w fun r w' => (((gs.getD e.h 0 : Nat) : Int) = g → r = .returned (.tuple #[.int .u64 e.k, .int .i64 e.v, .int .i64 0])) ∧ (((gs.getD e.h 0 : Nat) : Int) ≠ g → r = .returned (.tuple #[.int .u64 0, .int .i64 0, .int .i64 9])) ∧ Grn w w' := by
  have hxl := T.p.lt e.h (List.mem_map_of_mem he)
  obtain ⟨bb, hp, vg, B⟩ := T.ex
  obtain ⟨W, hW⟩ : ∃ W, w.alloc (.cells #[.int .i64 e.h, .int .i64 g] 53) = W := ⟨_, rfl⟩
  have hgW : Grn w W := by rw [← hW]; exact (Grn.refl w).alloc _
  have B1 := B.grown hgW.below
  have hu := Lib.hid (usable_in B1)
  have hg : Hid (∀ m, Calls Tryd.prog 25 #[.pointer (some ⟨hp, 0, none⟩), .int .i64 e.h] (W.drewN m) fun r w' => r = .returned (.tuple #[.int .u64 e.k, .int .i64 e.v, .int .i64 0]) ∧ ∃ k, w' = (W.drewN m).drewN k) :=
    fun m => (get_yes_in (B1.H.drew m) e he).mono fun r w' ⟨h1, _, _, h2⟩ => ⟨h1, h2⟩
  have hname : Hid (∀ m m' os, Calls Tryd.prog 73 #[.pointer (some ⟨bb, 0, none⟩), .int .i64 e.h] (grow ((W.drewN m).drewN m') os) fun r w' => r = .returned (.agg #[.int .i64 e.h, .int .i64 (gs.getD e.h 0 : Nat)]) ∧ Grn (grow ((W.drewN m).drewN m') os) w') :=
    fun m m' os => name_in (((B1.drew m).drew m').grown (fr_grow _ 0 os []|>.below (fun _ hx => by simp at hx) (Nat.le_refl _))) e.h hxl
  have ca := B1.ca
  have cb := B1.cb
  have al := B1.alt
  have bl := B1.blt
  have d0 : W.cell? ⟨w.heap.size, 0, none⟩ = some (.int .i64 e.h) := by rw [← hW]; exact cell_new w _ _ _ _ _ rfl rfl
  have d1 : W.cell? ⟨w.heap.size, 1, none⟩ = some (.int .i64 g) := by rw [← hW]; exact cell_new w _ _ _ _ _ rfl rfl
  have dl : w.heap.size < W.heap.size := by rw [← hW]; simp
  clear T B B1 hxl he
  obtain ⟨eh, ev, ek⟩ := e
  simp only at *
  generalize gs.getD eh 0 = z at *
  have HgW := Lib.hid hgW
  have HW := Lib.hid hW
  clear hgW hW
  unfold pt
  go_enter Tryd.func57, Tryd.ntmps57
  go_wp2_with fail
  rw [HW.out]
  go_wp2_with (first | (go_at_call 54; refine hu.out.mono ?_; rintro e w' ⟨rfl, rfl⟩))
  go_quiet ((go_at_call 25; refine Calls.quiet_of (hg.out _)))
  go_wp2_with fail
  obtain ⟨V, hV⟩ : ∃ V, W.drewN nq = V := ⟨_, rfl⟩
  have a0 : ∀ m os, (grow (V.drewN m) os).cell? ⟨a, 0, none⟩ = some (.pointer (some ⟨bb, 0, none⟩)) := by rw [← hV]; exact cell_grn al ca
  have a1 : ∀ m os, (grow (V.drewN m) os).cell? ⟨w.heap.size, 0, none⟩ = some (.int .i64 eh) := by rw [← hV]; exact cell_grn dl d0
  have a2 : ∀ m os, (grow (V.drewN m) os).cell? ⟨w.heap.size, 1, none⟩ = some (.int .i64 g) := by rw [← hV]; exact cell_grn dl d1
  have hn2 := hname.out nq
  have hgV : Grn w V := by rw [← hV]; exact HgW.out.drew _
  rw [hV] at hn2 ⊢
  have Hn2 := Lib.hid hn2
  have HgV := Lib.hid hgV
  have mixed : Tryd.prog.follows .mixedOrders = true := by kernel_rfl
  clear hname hn2 hgV hV ca cb d0 d1 dl
  by_cases hzg : ((z : Nat) : Int) = g
  · have q : (((z : Nat) : Int) == g) = true := by simp [hzg]
    have Hz := Lib.hid hzg
    clear hzg
    go_quiet_grown ((go_at_call 73; refine Calls.grown_of (Hn2.out _ _)))
    go_wp2_with fail
    go_ret3
    exact ⟨fun _ => rfl, fun h => absurd Hz.out h, HgV.out.trans ⟨_, _, rfl⟩⟩
  · have q : (((z : Nat) : Int) == g) = false := by simp [hzg]
    have Hz := Lib.hid hzg
    clear hzg
    go_quiet_grown ((go_at_call 73; refine Calls.grown_of (Hn2.out _ _)))
    go_wp2_with fail
    go_ret3
    exact ⟨fun h => absurd h Hz.out, fun _ => rfl, HgV.out.trans ⟨_, _, rfl⟩⟩
end Go.Proofs.YthlbnlbkgiclpaaDoor
