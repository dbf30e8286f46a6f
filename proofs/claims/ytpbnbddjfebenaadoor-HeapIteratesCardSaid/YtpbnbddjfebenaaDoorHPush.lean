/- A layout takes an item more. -/
import Derived.Test.YtpbnbddjfebenaaDoorHApp
import Derived.Test.YtpbnbddjfebenaaDoorHNum
import Derived.Test.YtpbnbddjfebenaaDoorHSettle
namespace Go.Proofs.YtpbnbddjfebenaaDoor
open Go.RowKit Go.Sort
open BodAt (row_ne row_row_ne)
set_option linter.unusedVariables false
set_option linter.unusedSimpArgs false

theorem BlockAt.setVi {w : World} {bb cb : Nat} {ve vi : Value} {W : Nat → Nat} {p : Int} (b : BlockAt w bb cb ve vi W p) (v : Value) : BlockAt (w.setCell ⟨bb, 17, none⟩ v) bb cb ve v W p := by
  obtain ⟨cur, hcur, hs, h0, hw, h17, h18, h19, h20⟩ := b.ex
  refine ⟨_, cells_set hcur 17 _, by simpa using hs, ?_, ?_, ?_, ?_, ?_, ?_⟩
  · rw [Array.getElem?_setIfInBounds_ne (by omega)]; exact h0
  · intro j hj
    rw [Array.getElem?_setIfInBounds_ne (by omega)]; exact hw j hj
  · rw [Array.getElem?_setIfInBounds_self_of_lt (by omega)]
  all_goals (rw [Array.getElem?_setIfInBounds_ne (by omega)]; assumption)
theorem BlockAt.setVe {w : World} {bb cb : Nat} {ve vi : Value} {W : Nat → Nat} {p : Int} (b : BlockAt w bb cb ve vi W p) (v : Value) : BlockAt (w.setCell ⟨bb, 0, none⟩ v) bb cb v vi W p := by
  obtain ⟨cur, hcur, hs, h0, hw, h17, h18, h19, h20⟩ := b.ex
  refine ⟨_, cells_set hcur 0 _, by simpa using hs, ?_, ?_, ?_, ?_, ?_, ?_⟩
  · rw [Array.getElem?_setIfInBounds_self_of_lt (by omega)]
  · intro j hj
    rw [Array.getElem?_setIfInBounds_ne (by omega)]; exact hw j hj
  all_goals (rw [Array.getElem?_setIfInBounds_ne (by omega)]; assumption)
theorem BlockAt.setP {w : World} {bb cb : Nat} {ve vi : Value} {W : Nat → Nat} {p : Int} (b : BlockAt w bb cb ve vi W p) (q : Int) : BlockAt (w.setCell ⟨bb, 20, none⟩ (.int .u64 q)) bb cb ve vi W q := by
  obtain ⟨cur, hcur, hs, h0, hw, h17, h18, h19, h20⟩ := b.ex
  refine ⟨_, cells_set hcur 20 _, by simpa using hs, ?_, ?_, ?_, ?_, ?_, ?_⟩
  · rw [Array.getElem?_setIfInBounds_ne (by omega)]; exact h0
  · intro j hj
    rw [Array.getElem?_setIfInBounds_ne (by omega)]; exact hw j hj
  · rw [Array.getElem?_setIfInBounds_ne (by omega)]; exact h17
  · rw [Array.getElem?_setIfInBounds_ne (by omega)]; exact h18
  · rw [Array.getElem?_setIfInBounds_ne (by omega)]; exact h19
  · rw [Array.getElem?_setIfInBounds_self_of_lt (by omega)]
theorem BlockAt.fr {w w' : World} {bb cb : Nat} {ve vi : Value} {W : Nat → Nat} {p : Int} {F : List Nat} (b : BlockAt w bb cb ve vi W p) (hf : Fr F w w') (hn : bb ∉ F) : BlockAt w' bb cb ve vi W p := by
  obtain ⟨cur, hcur, r⟩ := b.ex
  exact ⟨cur, hf.same hcur hn, r⟩

theorem row_not_mem {w : World} {base e size n : Nat} {v : Value} {xs : List Value} (ho : w.ownsRow base e size v n xs) {c : Nat} {y : Array Value} {u : TypeId} (hc : w.heap[c]? = some (.cells y u (0, 0))) (hn : e ≠ u) : c ∉ v.ownBlock.toList := by
  intro hm
  simp only [Option.mem_toList, Option.mem_def] at hm
  exact row_ne ho hc hn c hm rfl

/-- A new row for the layout, which lies where it lay or in a new block; and the field is written. -/
theorem BodAt.newI {w w' : World} {h : Hp} {s : Bd} (b : BodAt w h s) {v' : Value} {its' : List Nat} (ho : w'.ownsRow 0 3 1 v' its'.length (its'.map encN)) (hf : Fr h.vi.ownBlock.toList w w') :
    BodAt (w'.setCell ⟨h.bb, 17, none⟩ v') { h with vi := v' } { s with its := its' } ∧ Fr (h.bb :: h.vi.ownBlock.toList) w (w'.setCell ⟨h.bb, 17, none⟩ v') := by
  obtain ⟨cur, hcur, _⟩ := b.hb.ex
  obtain ⟨xs, hx, hxs⟩ := b.he.ex
  have na := row_not_mem b.hi b.ha (by decide)
  have nc := row_not_mem b.hi b.hc (by decide)
  have nb := row_not_mem b.hi hcur (by decide)
  have he' : w'.ownsRow 0 80 4 h.ve s.n xs := hf.row hx (fun g hg hm => by
    simp only [Option.mem_toList, Option.mem_def] at hm
    exact row_row_ne hx b.hi (by decide) g g hg hm rfl)
  have hcur' := hf.same hcur nb
  have f2 : Fr [h.bb] w' (w'.setCell ⟨h.bb, 17, none⟩ v') := fr_setCell w' ⟨h.bb, 17, none⟩ v'
  have n2 : h.a ∉ [h.bb] := by simpa using BodAt.ne_types b.ha hcur (by decide)
  have n3 : h.cb ∉ [h.bb] := by simpa using BodAt.ne_types b.hc hcur (by decide)
  refine ⟨⟨f2.same (hf.same b.ha na) n2, f2.same (hf.same b.hc nc) n3, (b.hb.fr hf nb).setVi v', ⟨xs, f2.row he' (fun g hg => by simpa using row_ne he' hcur' (by decide) g hg), hxs⟩, f2.row ho (fun g hg => by simpa using row_ne ho hcur' (by decide) g hg)⟩, ?_⟩
  exact (hf.mono (fun x hx => .inl (List.mem_cons_of_mem _ hx))).trans f2 (fun x hx => .inl (by simp only [List.mem_cons, List.not_mem_nil, or_false] at hx; subst hx; simp))

/-- A new row for the elements. -/
theorem BodAt.newE {w w' : World} {h : Hp} {s : Bd} (b : BodAt w h s) {v' : Value} {n' : Nat} {K' : Nat → Kvn} {X' : Nat → Int} (ho : ElAt w' v' n' K' X') (hf : Fr h.ve.ownBlock.toList w w') :
    BodAt (w'.setCell ⟨h.bb, 0, none⟩ v') { h with ve := v' } { s with n := n', K := K', X := X' } ∧ Fr (h.bb :: h.ve.ownBlock.toList) w (w'.setCell ⟨h.bb, 0, none⟩ v') := by
  obtain ⟨cur, hcur, _⟩ := b.hb.ex
  obtain ⟨xs, hx, hxs⟩ := b.he.ex
  obtain ⟨ys, hy, hys⟩ := ho.ex
  have na := row_not_mem hx b.ha (by decide)
  have nc := row_not_mem hx b.hc (by decide)
  have nb := row_not_mem hx hcur (by decide)
  have hi' : w'.ownsRow 0 3 1 h.vi s.its.length (s.its.map encN) := hf.row b.hi (fun g hg hm => by
    simp only [Option.mem_toList, Option.mem_def] at hm
    exact row_row_ne b.hi hx (by decide) g g hg hm rfl)
  have hcur' := hf.same hcur nb
  have f2 : Fr [h.bb] w' (w'.setCell ⟨h.bb, 0, none⟩ v') := fr_setCell w' ⟨h.bb, 0, none⟩ v'
  have n2 : h.a ∉ [h.bb] := by simpa using BodAt.ne_types b.ha hcur (by decide)
  have n3 : h.cb ∉ [h.bb] := by simpa using BodAt.ne_types b.hc hcur (by decide)
  refine ⟨⟨f2.same (hf.same b.ha na) n2, f2.same (hf.same b.hc nc) n3, (b.hb.fr hf nb).setVe v', ⟨ys, f2.row hy (fun g hg => by simpa using row_ne hy hcur' (by decide) g hg), hys⟩, f2.row hi' (fun g hg => by simpa using row_ne hi' hcur' (by decide) g hg)⟩, ?_⟩
  exact (hf.mono (fun x hx => .inl (List.mem_cons_of_mem _ hx))).trans f2 (fun x hx => .inl (by simp only [List.mem_cons, List.not_mem_nil, or_false] at hx; subst hx; simp))

/-- The blocks behind a call: those of before, or new ones. -/
structure Ext (n : Nat) (h h' : Hp) : Prop where
  a : h'.a = h.a
  bb : h'.bb = h.bb
  cb : h'.cb = h.cb
  ve : ∀ g, h'.ve.ownBlock = some g → h.ve.ownBlock = some g ∨ n ≤ g
  vi : ∀ g, h'.vi.ownBlock = some g → h.vi.ownBlock = some g ∨ n ≤ g
theorem Ext.refl (n : Nat) (h : Hp) : Ext n h h := ⟨rfl, rfl, rfl, fun _ hg => .inl hg, fun _ hg => .inl hg⟩
theorem Ext.trans {n m : Nat} {h h' h'' : Hp} (x : Ext n h h') (y : Ext m h' h'') (hnm : n ≤ m) : Ext n h h'' :=
  ⟨y.a.trans x.a, y.bb.trans x.bb, y.cb.trans x.cb, fun g hg => by
    rcases y.ve g hg with h1 | h1
    · exact x.ve g h1
    · exact .inr (by omega), fun g hg => by
    rcases y.vi g hg with h1 | h1
    · exact x.vi g h1
    · exact .inr (by omega)⟩
theorem Ext.foot {n : Nat} {h h' : Hp} (x : Ext n h h') : ∀ k, k ∈ h'.foot → k ∈ h.foot ∨ n ≤ k := by
  intro k hk
  simp only [Hp.foot, List.mem_append, List.mem_cons, List.not_mem_nil, or_false, Option.mem_toList, Option.mem_def] at hk ⊢
  rcases hk with ((h1 | h1 | h1) | h1) | h1
  · exact .inl (.inl (.inl (.inl (h1.trans x.a))))
  · exact .inl (.inl (.inl (.inr (.inl (h1.trans x.bb)))))
  · exact .inl (.inl (.inl (.inr (.inr (h1.trans x.cb)))))
  · rcases x.ve k h1 with h2 | h2
    · exact .inl (.inl (.inr h2))
    · exact .inr h2
  · rcases x.vi k h1 with h2 | h2
    · exact .inl (.inr h2)
    · exact .inr h2
theorem fr_foot {h h' : Hp} {n : Nat} {w0 w w' : World} (x : Ext n h h') (hn : w0.heap.size = n) (hf0 : Fr h.foot w0 w) (hf : Fr h'.foot w w') : Fr h.foot w0 w' :=
  hf0.trans hf (fun k hk => by subst hn; exact x.foot k hk)
theorem rows_foot (h : Hp) {w w' : World} (hf : Fr h.rows w w') : Fr h.foot w w' := hf.mono (fun k hk => .inl (foot_rows h k hk))
theorem bb_foot (h : Hp) {w w' : World} (hf : Fr [h.bb] w w') : Fr h.foot w w' := hf.mono (fun k hk => .inl (by simp only [List.mem_cons, List.not_mem_nil, or_false] at hk; subst hk; simp [Hp.foot]))
theorem bbvi_foot (h : Hp) {w w' : World} (hf : Fr (h.bb :: h.vi.ownBlock.toList) w w') : Fr h.foot w w' := hf.mono (fun k hk => .inl (by
  simp only [List.mem_cons, Option.mem_toList, Option.mem_def] at hk
  rcases hk with rfl | hk <;> simp [Hp.foot, *]))
theorem bbve_foot (h : Hp) {w w' : World} (hf : Fr (h.bb :: h.ve.ownBlock.toList) w w') : Fr h.foot w w' := hf.mono (fun k hk => .inl (by
  simp only [List.mem_cons, Option.mem_toList, Option.mem_def] at hk
  rcases hk with rfl | hk <;> simp [Hp.foot, *]))

theorem infoInt : (Tryd.prog.info? 3).map (fun i => (i.zero, i.size, i.bytes)) = some (some (.int .i64 0), 1, 8) := by kernel_rfl

theorem dn_last (K : Nat → Kvn) (L : List Nat) : Dn K L (L.length - 1) := fun j h0 hj hp => by omega
theorem pre_last {K : Nat → Kvn} {L : List Nat} (h : HeapO K L) (x : Nat) : Pre K (L ++ [x]) L.length := by
  have e : ∀ j, j < L.length → (L ++ [x]).getD j 0 = L.getD j 0 := fun j hj => by simp [List.getD_eq_getElem?_getD, List.getElem?_append_left hj]
  refine ⟨fun j h0 hj h1 h2 => ?_, fun j h0 hj h1 h2 => ?_⟩
  · simp only [List.length_append, List.length_cons, List.length_nil] at hj
    rw [e j (by omega), e _ (by omega)]
    exact h j h0 (by omega)
  · simp only [List.length_append, List.length_cons, List.length_nil] at hj
    omega
theorem idx_last {X : Nat → Int} {L : List Nat} (h : IdxAll X L) (x : Nat) : IdxEx X (L ++ [x]) L.length := by
  intro j hj hne
  simp only [List.length_append, List.length_cons, List.length_nil] at hj
  have : (L ++ [x]).getD j 0 = L.getD j 0 := by simp [List.getD_eq_getElem?_getD, List.getElem?_append_left (show j < L.length by omega)]
  rw [this]
  exact h j (by omega)

theorem one_new_cell (w : World) (v : Value) (t : TypeId) : ∀ (j : Nat) (u : Value), [v][j]? = some u → (w.alloc (.cells #[v] t)).cell? ((⟨w.heap.size, 0, none⟩ : Addr).add j) = some u := by
  intro j u hu
  match j with
  | 0 => simp at hu; subst hu; rw [Go.WideShapes.add_plain]; exact cell_new _ _ _ _ _ _ rfl rfl
  | j + 1 => simp at hu
theorem row_some {w : World} {base e size n : Nat} {v : Value} {xs : List Value} (h : w.ownsRow base e size v n xs) (hn : 0 < n) : ∃ g cap, v = .slice (some ⟨g, 0, none⟩) n cap ∧ n ≤ cap ∧ cap ≤ maxLen := by
  rcases h.2 with ⟨_, h'⟩ | ⟨g, cap, cur, hv, _, _, hnc, hcm, _⟩
  · omega
  · exact ⟨g, cap, hv, hnc, hcm⟩

set_option maxHeartbeats 1600000 in
set_option maxRecDepth 100000 in
theorem qpush_any {w : World} {h : Hp} {s : Bd} (b : BodAt w h s) (x : Nat) (hx : x < s.n) (hxi : x ∉ s.its) (hbig : s.its.length ≤ 1023) (hn : s.its.Nodup) (hm : ∀ x, x ∈ s.its → x < s.n) (ho : HeapO s.K s.its) (hX : IdxAll s.X s.its) :
    Calls Tryd.prog 32 #[.pointer (some ⟨h.bb, 17, none⟩), encN x] w fun e w' => ∃ (h' : Hp) (L : List Nat) (X : Nat → Int), e = .returned (.tuple #[]) ∧ Settled s.K (s.its ++ [x]) L X ∧ BodAt w' h' { s with its := L, X := X } ∧ Fr h.foot w w' ∧ Ext w.heap.size h h' := by
  obtain ⟨cur, hcur, _, _, _, h17, _⟩ := b.hb.ex
  have c17 := cells_cell hcur h17
  have f17 : w.frozen? ⟨h.bb, 17, none⟩ = false := cells_free hcur 17
  have blt := lt_of_block hcur
  obtain ⟨i0, hi0, hz0, hz1, hz2⟩ := info_parts infoInt
  have HB := Lib.hid b
  have hnod : Hid ((s.its ++ [x]).Nodup) := Lib.hid (by
    rw [List.nodup_append]
    exact ⟨hn, by simp, fun a ha c hc => by simp only [List.mem_cons, List.not_mem_nil, or_false] at hc; subst hc; exact fun e => hxi (e ▸ ha)⟩)
  have hmem : Hid (∀ y, y ∈ s.its ++ [x] → y < s.n) := Lib.hid (fun y hy => by
    rcases List.mem_append.1 hy with h1 | h1
    · exact hm y h1
    · simp only [List.mem_cons, List.not_mem_nil, or_false] at h1; subst h1; exact hx)
  have hpre := Lib.hid (pre_last ho x)
  have hidx := Lib.hid (idx_last hX x)
  have hlen := Lib.hid (show (s.its ++ [x]).length = s.its.length + 1 by simp)
  have hrow := Lib.hid b.hi
  have hdn : Hid (Dn s.K (s.its ++ [x]) s.its.length) := Lib.hid (by have := dn_last s.K (s.its ++ [x]); rwa [show (s.its ++ [x]).length - 1 = s.its.length by simp] at this)
  have hl0 : s.its.length ≤ 1023 := hbig
  clear hcur h17 b hxi hn hm ho hX
  unfold encN
  go_enter Tryd.func32, Tryd.ntmps32
  go_wp2_with (at_builtin; refine wpList_append_row _ rfl _ _ 35 rfl 3 i0 (.int .i64 0) 1 8 Tryd.underlying35 hi0 hz0 hz1 hz2 rfl (by decide) 0 h.vi s.its.length (s.its.map encN) rfl (hrow.out.alloc _) (Nat.zero_le _) ⟨w.heap.size, 0, none⟩ 1 1 [.int .i64 x] rfl rfl ?c1 ?c2 (by decide) ?c3 ?c4 ?_)
  case c1 => exact one_new_cell w _ _
  case c2 => simp [Value.oneCell']
  case c3 => unfold maxLen; omega
  case c4 => omega
  intro v' w1 hown hgr hnear
  have hown' : w1.ownsRow 0 3 1 v' (s.its ++ [x]).length ((s.its ++ [x]).map encN) := by
    rw [hlen.out, List.map_append]; exact hown
  obtain ⟨g', cap', hv', hle, hcm⟩ := row_some hown (by omega)
  have hf1 : Fr h.vi.ownBlock.toList w w1 := (fr_alloc w _ _).trans' hgr
  obtain ⟨B1, F1⟩ := HB.out.newI hown' hf1
  have hx1 : Ext w.heap.size h { h with vi := v' } := ⟨rfl, rfl, rfl, fun g hg => .inl hg, fun g hg => by
    rcases hnear g hg with h1 | h1
    · exact .inl h1
    · simp at h1; exact .inr (by omega)⟩
  have hr := rise_any B1 s.its.length (by show s.its.length < (s.its ++ [x]).length; rw [hlen.out]; omega) hnod.out hmem.out hpre.out hidx.out
  have nb : h.bb ∉ h.vi.ownBlock.toList := by obtain ⟨cur, hcur, _⟩ := HB.out.hb.ex; exact row_not_mem HB.out.hi hcur (by decide)
  have d17 := hf1.cell c17 nb
  have g17 : w1.frozen? ⟨h.bb, 17, none⟩ = false := by rw [hf1.frozen blt nb]; exact f17
  have e17 : (w1.setCell ⟨h.bb, 17, none⟩ v').cell? ⟨h.bb, 17, none⟩ = some v' := World.cell?_setCell_same _ _ _ d17
  have H1 := Lib.hid F1
  have HX := Lib.hid hx1
  have hnI : (s.its.length : Int) ≤ 1023 := by omega
  clear B1 F1 hx1 hown hown' hgr hnear hf1 c17 f17
  unfold encN at hr
  simp only at hr
  subst hv'
  go_wp2_with fail
  refine hr.mono ?_
  rintro e w2 ⟨j, L, X, rfl, hR, B2, F2⟩
  go_wp2_with fail
  go_end0
  exact ⟨_, L, X, rfl, hR.settled hdn.out, B2, fr_foot HX.out rfl (bbvi_foot h H1.out) (rows_foot _ F2), HX.out⟩
end Go.Proofs.YtpbnbddjfebenaaDoor
