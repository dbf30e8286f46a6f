/- TimerPlays: the state that the law carries along; gets. -/
import Derived.Test.YthlbnlbkgiclpaaDoorMExp2
import Derived.Test.YthlbnlbkgiclpaaDoorTKnown
import Derived.Test.YthlbnlbkgiclpaaDoorTActs
namespace Go.Proofs.YthlbnlbkgiclpaaDoor
open Go.RowKit Go.Sort
set_option linter.unusedVariables false
set_option linter.unusedSimpArgs false

/-- The timers at block a, and the reference's list in the row s. -/
structure PlR (w0 : World) (G : Nat → Prop) (w : World) (a : Nat) (s : Value) (S : List El) (gs : List Nat) (P : Nat) (L : List Tm) : Prop where
  T : TmIn w0 (GV G s) w a S gs P
  row : RowM w w0.heap.size s L
  rel : Rel L S gs

theorem PlR.grown {w0 w w' : World} {G : Nat → Prop} {a : Nat} {s : Value} {S : List El} {gs : List Nat} {P : Nat} {L : List Tm} (R : PlR w0 G w a s S gs P L) (hb : Below w.heap.size w w') : PlR w0 G w' a s S gs P L :=
  ⟨R.T.grown hb, R.row.below hb, R.rel⟩

theorem rel_el {L : List Tm} {S : List El} {gs : List Nat} (R : Rel L S gs) {e : Tm} (h : e ∈ L) (hg : e.gone = false) : elOf e ∈ S ∧ e.g = gs.getD e.n 0 := by
  have ha : e ∈ alive L := by unfold alive; simp [h, hg]
  exact ⟨by rw [← R.map]; exact List.mem_map_of_mem ha, R.gen e ha⟩
theorem rel_isT {L : List Tm} {S : List El} {gs : List Nat} (R : Rel L S gs) {n g : Int} (h : isT S gs n g) : ∃ e ∈ L, (e.n : Int) = n ∧ (e.g : Int) = g ∧ e.gone = false := by
  obtain ⟨x, hn, hx, hg⟩ := h
  obtain ⟨f, hf, hfx⟩ := List.mem_map.1 hx
  rw [← R.map] at hf
  obtain ⟨e, he, rfl⟩ := List.mem_map.1 hf
  have he' : e ∈ L ∧ e.gone = false := by unfold alive at he; simpa using he
  have hgen := R.gen e he
  have hfx' : e.n = x := hfx
  subst hfx'
  exact ⟨e, he'.1, hn.symm, by rw [hgen, hg], he'.2⟩

theorem el_unique : ∀ (S : List El), (hsOf S).Nodup → ∀ e f : El, e ∈ S → f ∈ S → e.h = f.h → e = f
  | [], _, e, f, he, _, _ => by simp at he
  | x :: r, hn, e, f, he, hf, h => by
    have hn' := List.nodup_cons.1 (show (x.h :: hsOf r).Nodup from hn)
    rcases List.mem_cons.1 he with q | he1
    · rcases List.mem_cons.1 hf with q2 | hf1
      · rw [q, q2]
      · exact absurd (show x.h ∈ hsOf r from by rw [← q, h]; exact List.mem_map_of_mem (f := El.h) hf1) hn'.1
    · rcases List.mem_cons.1 hf with q2 | hf1
      · exact absurd (show x.h ∈ hsOf r from by rw [← q2, ← h]; exact List.mem_map_of_mem (f := El.h) he1) hn'.1
      · exact el_unique r hn'.2 e f he1 hf1 h

set_option maxRecDepth 100000 in
set_option maxHeartbeats 1600000 in
theorem gets_any {w0 w : World} {G : Nat → Prop} {a : Nat} {s : Value} {S : List El} {gs : List Nat} {P : Nat} {L : List Tm} (R : PlR w0 G w a s S gs P L) (hl : L.length ≤ 90000) (n g : Int) :
    Calls Tryd.prog 20 #[pt a, .agg #[s], .agg #[.int .i64 n, .int .i64 g]] w fun e w' => e = .returned (.bool true) ∧ Grn w w' := by
  obtain ⟨W, hW⟩ : ∃ W, (w.alloc (.cells #[s] 51)).alloc (.cells #[.int .i64 n, .int .i64 g] 53) = W := ⟨_, rfl⟩
  have hgW : Grn w W := by rw [← hW]; exact ((Grn.refl w).alloc _).alloc _
  have R1 := R.grown hgW.below
  have b0 : BoxM W w.heap.size s := by rw [← hW]; exact (fr_alloc _ _ []).same (block_new _ _ _ rfl) (by simp)
  have b1 : W.heap[w.heap.size + 1]? = some (.cells #[.int .i64 n, .int .i64 g] 53 (0, 0)) := by rw [← hW]; exact block_new _ _ _ (by simp)
  obtain ⟨va, vl, vc, rfl⟩ := row_form R.row
  have HW := Lib.hid hW
  have HR1 := Lib.hid R1
  have HB0 := Lib.hid b0
  have HB1 := Lib.hid b1
  have HG := Lib.hid hgW
  have hl2 : vl = L.length := by
    rcases R.row.2 with ⟨h', h0⟩ | ⟨_, _, _, h', _⟩
    · simp at h'; omega
    · simp at h'; exact h'.2.1
  subst hl2
  clear R R1 hW b0 b1 hgW
  by_cases hx : ∃ e ∈ L, (e.n : Int) = n ∧ (e.g : Int) = g ∧ e.gone = false
  · obtain ⟨e, he, rfl, rfl, hg⟩ := hx
    obtain ⟨h1, h2⟩ := rel_el HR1.out.rel he hg
    have hget := tget_yes HR1.out.T (elOf e) h1
    have hget' : Calls Tryd.prog 57 #[pt a, .agg #[.int .i64 (e.n : Nat), .int .i64 (e.g : Nat)]] W fun r w' => r = .returned (.tuple #[.int .u64 e.k, .int .i64 e.o, .int .i64 0]) ∧ Grn W w' := by
      rw [h2]; exact hget
    have HGet := Lib.hid hget'
    have HE := Lib.hid (And.intro he hg)
    have HND := Lib.hid HR1.out.T.nodup
    clear hget hget' h1 h2 he hg
    have i0 := cells_cell HB1.out (o := 0) rfl
    have i1 := cells_cell HB1.out (o := 1) rfl
    have il := lt_of_block HB1.out
    unfold pt at *
    go_enter Tryd.func20, Tryd.ntmps20
    go_wp2_with fail
    rw [HW.out]
    refine HGet.out.mono ?_
    rintro r w2 ⟨rfl, g2⟩
    have R2 := HR1.out.grown g2.below
    have hrow2 := R2.row
    have b0 := (HB0.out.below g2.below HB0.out.lt)
    have bc := b0.cell
    have bl := b0.lt
    have j0 := (g2.below.cell (p := ⟨w.heap.size + 1, 0, none⟩) il).trans i0
    have j1 := (g2.below.cell (p := ⟨w.heap.size + 1, 1, none⟩) il).trans i1
    have il2 := Nat.lt_of_lt_of_le il g2.below.size
    have hat := Lib.hid (mat_any (hrow2.mono (Nat.zero_le _)) (by omega) (e.n : Int) (e.g : Int))
    have HROW2 := Lib.hid hrow2
    have G2 := Lib.hid (HG.out.trans g2)
    obtain ⟨ek, hek⟩ : ∃ x : Int, e.k = x := ⟨_, rfl⟩
    obtain ⟨eo, heo⟩ : ∃ x : Int, e.o = x := ⟨_, rfl⟩
    have HEK := Lib.hid (And.intro hek heo)
    rw [hek, heo]
    clear R2 hrow2 b0 g2 HGet HW i0 i1 il hek heo
    go_wp2_with (go_at_call 58; fail)
    refine hat.out.mono ?_
    rintro r w3 ⟨r, rfl, hA, g3⟩
    rcases hA with ⟨i, e', hi, rfl, hn', hg', hgone⟩ | ⟨rfl, hno⟩
    · have hb3 := (HROW2.out.below g3.below)
      have he' : e' ∈ L := List.mem_of_getElem? hi
      obtain ⟨q1, q2⟩ := rel_el HR1.out.rel he' hgone
      obtain ⟨p1, p2⟩ := rel_el HR1.out.rel HE.out.1 HE.out.2
      have hu := el_unique S HND.out _ _ q1 p1 (by show e'.n = e.n; omega)
      have hk' : e'.k = ek := (congrArg El.k hu).trans HEK.out.1
      have ho' : e'.o = eo := (congrArg El.v hu).trans HEK.out.2
      obtain ⟨gg, cap, hv, _, _⟩ := row_some hb3 (by have := (List.getElem?_eq_some_iff.1 hi).1; omega)
      simp only [Value.slice.injEq, true_and] at hv
      obtain ⟨rfl, rfl⟩ := hv
      obtain ⟨_, _, k2, k3, _⟩ := RowM.cells hb3 i e' hi
      rw [ho'] at k2
      rw [hk'] at k3
      have bc3 := (g3.below.cell (p := ⟨w.heap.size, 0, none⟩) bl).trans bc
      have bl3 := Nat.lt_of_lt_of_le bl g3.below.size
      have il : (i : Int) < (L.length : Int) := by have := (List.getElem?_eq_some_iff.1 hi).1; omega
      have hgl := (hb3.lt gg rfl).2
      have b0 : decide ((i : Int) < 0) = false := by simp
      have GF := Lib.hid (G2.out.trans g3)
      clear hb3 he' q1 q2 p1 p2 hu hk' ho' hi hn' hg' hgone g3 hat
      go_wp2_with fail
      go_ret
      exact ⟨by simp, GF.out⟩
    · exact absurd ⟨rfl, rfl, HE.out.2⟩ (hno e HE.out.1)
  · have hn : ¬ isT S gs n g := fun h => hx (rel_isT HR1.out.rel h)
    have HGet := Lib.hid (tget_no HR1.out.T n g hn)
    have HX := Lib.hid hx
    clear hn hx
    have i0 := cells_cell HB1.out (o := 0) rfl
    have i1 := cells_cell HB1.out (o := 1) rfl
    have il := lt_of_block HB1.out
    unfold pt at *
    go_enter Tryd.func20, Tryd.ntmps20
    go_wp2_with fail
    rw [HW.out]
    refine HGet.out.mono ?_
    rintro r w2 ⟨rfl, g2⟩
    have hrow2 := (HR1.out.grown g2.below).row
    have b0 := (HB0.out.below g2.below HB0.out.lt)
    have bc := b0.cell
    have bl := b0.lt
    have j0 := (g2.below.cell (p := ⟨w.heap.size + 1, 0, none⟩) il).trans i0
    have j1 := (g2.below.cell (p := ⟨w.heap.size + 1, 1, none⟩) il).trans i1
    have il2 := Nat.lt_of_lt_of_le il g2.below.size
    have hat := Lib.hid (mat_any (hrow2.mono (Nat.zero_le _)) (by omega) n g)
    have G2 := Lib.hid (HG.out.trans g2)
    clear hrow2 b0 g2 HGet HW i0 i1 il
    go_wp2_with (go_at_call 58; fail)
    refine hat.out.mono ?_
    rintro r w3 ⟨r, rfl, hA, g3⟩
    rcases hA with ⟨i, e', hi, rfl, hn', hg', hgone⟩ | ⟨rfl, hno⟩
    · exact absurd ⟨e', List.mem_of_getElem? hi, hn', hg', hgone⟩ HX.out
    · have GF := Lib.hid (G2.out.trans g3)
      clear hno hat g3
      go_wp2_with fail
      go_ret
      exact ⟨by simp, GF.out⟩

/-- The law's own blocks, the reference's row, and three new ones. -/
def GQ (G : Nat → Prop) (s : Value) (n : Nat) : Nat → Prop := fun k => GV G s k ∨ (n ≤ k ∧ k < n + 3)

/-- do's own blocks. -/
structure DoW (w0 w W : World) (G : Nat → Prop) (a : Nat) (s : Value) (S : List El) (gs : List Nat) (P : Nat) (L : List Tm) (x0 x1 x2 x3 x4 : Int) : Prop where
  T : TmIn w0 (GQ G s w.heap.size) W a S gs P
  row : RowM W w0.heap.size s L
  q4 : W.heap[w.heap.size]? = some (.cells #[s] 51 (0, 0))
  q5 : W.heap[w.heap.size + 1]? = some (.cells #[.int .i64 x0, .int .i64 x1, .int .u64 x2, .int .i64 x3, .int .i64 x4] 55 (0, 0))
  q7 : W.heap[w.heap.size + 2]? = some (.cells #[.slice none 0 0] 51 (0, 0))
  sl : ∀ g, s.ownBlock = some g → g < w.heap.size
  w0s : w0.heap.size ≤ w.heap.size
  keep : Keep G w W
  ws : w.heap.size + 3 ≤ W.heap.size
  gw : ∀ k, G k → k < w.heap.size

theorem PlR.start {w0 w : World} {G : Nat → Prop} {a : Nat} {s : Value} {S : List El} {gs : List Nat} {P : Nat} {L : List Tm} (R : PlR w0 G w a s S gs P L) (x0 x1 x2 x3 x4 : Int) :
    DoW w0 w (((w.alloc (.cells #[s] 51)).alloc (.cells #[.int .i64 x0, .int .i64 x1, .int .u64 x2, .int .i64 x3, .int .i64 x4] 55)).alloc (.cells #[.slice none 0 0] 51)) G a s S gs P L x0 x1 x2 x3 x4 := by
  have hb : Below w.heap.size w (((w.alloc (.cells #[s] 51)).alloc (.cells #[.int .i64 x0, .int .i64 x1, .int .u64 x2, .int .i64 x3, .int .i64 x4] 55)).alloc (.cells #[.slice none 0 0] 51)) := (((Below.refl _ _).alloc (Nat.le_refl _) _).alloc (by simp) _).alloc (by simp; omega) _
  have hs : (((w.alloc (.cells #[s] 51)).alloc (.cells #[.int .i64 x0, .int .i64 x1, .int .u64 x2, .int .i64 x3, .int .i64 x4] 55)).alloc (.cells #[.slice none 0 0] 51)).heap.size = w.heap.size + 3 := by simp
  refine ⟨R.T.more hb (fun k hk => ?_), R.row.below hb, ?_, ?_, ?_, fun g hg => (R.row.lt g hg).2, R.T.below.size, fun k hk => R.T.keep hb k (.inl hk), by rw [hs]; exact Nat.le_refl _, fun k hk => R.T.glt k (.inl hk)⟩
  · rcases hk with hk | hk
    · exact .inl hk
    · exact .inr (by rw [hs]; exact hk)
  · exact (fr_alloc _ _ []).same ((fr_alloc _ _ []).same (block_new _ _ _ rfl) (by simp)) (by simp)
  · exact (fr_alloc _ _ []).same (block_new _ _ _ (by simp)) (by simp)
  · exact block_new _ _ _ (by simp)

section
variable {w0 w W w2 w3 wf : World} {G : Nat → Prop} {a : Nat} {s s' : Value} {S S2 : List El} {gs gs2 : List Nat} {P P2 : Nat} {L L' : List Tm} {x0 x1 x2 x3 x4 : Int}

theorem DoW.grown (D : DoW w0 w W G a s S gs P L x0 x1 x2 x3 x4) (hb : Below W.heap.size W w2) : DoW w0 w w2 G a s S gs P L x0 x1 x2 x3 x4 :=
  ⟨D.T.grown hb, D.row.below hb, (hb.block _ (lt_of_block D.q4)).trans D.q4, (hb.block _ (lt_of_block D.q5)).trans D.q5, (hb.block _ (lt_of_block D.q7)).trans D.q7, D.sl, D.w0s, fun k hk => (D.T.keep hb k (.inl (.inl hk))).trans (D.keep k hk), Nat.le_trans D.ws hb.size, D.gw⟩
/-- The timers were called. -/
theorem DoW.after (D : DoW w0 w W G a s S gs P L x0 x1 x2 x3 x4) (T2 : TmIn w0 (GQ G s w.heap.size) w2 a S2 gs2 P2) (K : Keep (GQ G s w.heap.size) W w2) : DoW w0 w w2 G a s S2 gs2 P2 L x0 x1 x2 x3 x4 := by
  have h7 := (K (w.heap.size + 2) (.inr ⟨by omega, by omega⟩)).trans D.q7
  have hl := lt_of_block h7
  exact ⟨T2, D.row.keep (fun g hg => K g (.inl (.inr hg))), (K _ (.inr ⟨by omega, by omega⟩)).trans D.q4, (K _ (.inr ⟨by omega, by omega⟩)).trans D.q5, h7, D.sl, D.w0s, fun k hk => (K k (.inl (.inl hk))).trans (D.keep k hk), by omega, D.gw⟩
/-- The reference's new timers are handed back. -/
theorem DoW.fin (D : DoW w0 w w2 G a s S gs P L x0 x1 x2 x3 x4) (hb : Below w2.heap.size w2 w3) (hr : RowM w3 w2.heap.size s' L') (hrel : Rel L' S gs) : PlR w0 G (w3.setCell ⟨w.heap.size + 2, 0, none⟩ s') a s' S gs P L' ∧ Keep G w (w3.setCell ⟨w.heap.size + 2, 0, none⟩ s') := by
  have hf : Fr [w.heap.size + 2] w3 (w3.setCell ⟨w.heap.size + 2, 0, none⟩ s') := fr_setCell w3 ⟨w.heap.size + 2, 0, none⟩ _
  have hws := D.ws
  have hw0 := D.w0s
  have T3 := D.T.more (w' := w3) (G' := fun k => GQ G s w.heap.size k ∨ s'.ownBlock = some k) hb (fun k hk => by
    rcases hk with hk | hk
    · exact .inl hk
    · exact .inr (hr.lt k hk))
  have T4 := T3.write hf (fun k hk => by
    have hk' : k = w.heap.size + 2 := by simpa using hk
    subst hk'; exact ⟨.inl (.inr ⟨by omega, by omega⟩), by omega⟩)
  have hr4 : RowM (w3.setCell ⟨w.heap.size + 2, 0, none⟩ s') w2.heap.size s' L' := hf.row hr (fun g hg => by
    have := (hr.lt g hg).1
    simp; omega)
  refine ⟨⟨T4.less (fun k hk => ?_), hr4.mono (by omega), hrel⟩, fun k hk => ?_⟩
  · rcases hk with hk | hk
    · exact .inl (.inl (.inl hk))
    · exact .inr hk
  · have h1 := (D.grown hb).keep k hk
    rw [← h1]
    have hkl : k ≠ w.heap.size + 2 := fun e => by
      have := D.gw k hk
      omega
    exact (Below.heap_setCell _ _ _ _ (by simpa using hkl))
/-- The reference's timers are handed back as they were. -/
theorem DoW.fin' (D : DoW w0 w w2 G a s S gs P L x0 x1 x2 x3 x4) (hrel : Rel L S gs) : PlR w0 G (w2.setCell ⟨w.heap.size + 2, 0, none⟩ s) a s S gs P L ∧ Keep G w (w2.setCell ⟨w.heap.size + 2, 0, none⟩ s) := by
  have hf : Fr [w.heap.size + 2] w2 (w2.setCell ⟨w.heap.size + 2, 0, none⟩ s) := fr_setCell w2 ⟨w.heap.size + 2, 0, none⟩ _
  have hws := D.ws
  have hw0 := D.w0s
  have T4 := D.T.write hf (fun k hk => by
    have hk' : k = w.heap.size + 2 := by simpa using hk
    subst hk'; exact ⟨.inr ⟨by omega, by omega⟩, by omega⟩)
  have hr4 : RowM (w2.setCell ⟨w.heap.size + 2, 0, none⟩ s) w0.heap.size s L := hf.row D.row (fun g hg => by
    have := D.sl g hg
    simp; omega)
  refine ⟨⟨T4.less (fun k hk => .inl hk), hr4, hrel⟩, fun k hk => ?_⟩
  have h1 := D.keep k hk
  rw [← h1]
  have hkl : k ≠ w.heap.size + 2 := fun e => by
    have := D.gw k hk
    omega
  exact (Below.heap_setCell _ _ _ _ (by simpa using hkl))
end
end Go.Proofs.YthlbnlbkgiclpaaDoor
