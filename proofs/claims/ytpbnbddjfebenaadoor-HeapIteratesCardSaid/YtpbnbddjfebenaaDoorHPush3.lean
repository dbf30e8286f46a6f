/- Push. -/
import Derived.Test.YtpbnbddjfebenaaDoorHPush2
import Derived.Deep.DeepCutAuto
namespace Go.Proofs.YtpbnbddjfebenaaDoor
open Go.RowKit Go.Sort
open BodAt (row_ne row_row_ne)
set_option linter.unusedVariables false
set_option linter.unusedSimpArgs false

set_option maxHeartbeats 800000 in
theorem push_full {w : World} {h : Hp} {S : List El} {P : Nat} (H : HeapAt w h S P) (k v : Int) (hS : S.length = 1024) (hT : Tab w) :
    Calls Tryd.prog 11 #[h.ptr, .int .u64 k, .int .i64 v] w fun e w' => e = .returned (.tuple #[.int .i64 0, .int .i64 7]) ∧ ∃ n, w' = w.drewN n := by
  obtain ⟨s, b, i⟩ := H.ex
  have ha := cell_of_one b.ha
  have hu := Lib.hid (usable_yes h.a h.bb w ha)
  have hl := Lib.hid (lowestOut_any b.hb i.word hT)
  have HI := Lib.hid i
  have HS := Lib.hid hS
  clear b i H hS hT
  unfold Hp.ptr
  go_enter Tryd.func11, Tryd.ntmps11
  go_wp2_with (first | (go_at_call 24; refine hu.out.mono ?_; rintro e w' ⟨rfl, rfl⟩) | (go_at_call 30; fail))
  refine hl.out.mono ?_
  rintro e w' ⟨l, rfl, hL, n, rfl⟩
  have hl2 : l = 1024 := by
    by_cases hlt : l < 1024
    · have := low_room HI.out hL hlt
      have := HS.out
      omega
    · have := hL.le; omega
  clear hL
  subst hl2
  go_wp2_with fail
  go_ret2
  exact ⟨rfl, _, rfl⟩

theorem infoElem : (Tryd.prog.info? 80).map (fun i => (i.zero, i.size, i.bytes)) = some (some (.agg #[.int .u64 0, .int .i64 0, .int .u64 0, .int .i64 0]), 4, 32) := by kernel_rfl

theorem new_cells4 (w : World) (a b c d : Value) (t : TypeId) : ∀ (j : Nat) (u : Value), [a, b, c, d][j]? = some u → (w.alloc (.cells #[a, b, c, d] t)).cell? ((⟨w.heap.size, 0, none⟩ : Addr).add j) = some u := by
  intro j u hu
  rw [Go.WideShapes.add_plain, Nat.zero_add]
  refine cell_new _ _ _ _ _ _ rfl ?_
  rw [← hu]
  simp

theorem elAt_grow {w : World} {v : Value} {n : Nat} {xs : List Value} {K : Nat → Kvn} {X : Nat → Int} (ho : w.ownsRow 0 80 4 v (n + 1) (xs ++ [.int .u64 0, .int .i64 0, .int .u64 0, .int .i64 0])) (hl : xs.length = n * 4)
    (hx : ∀ h, h < n → xs[h * 4]? = some (.int .u64 (K h).key) ∧ xs[h * 4 + 1]? = some (.int .i64 (K h).val) ∧ xs[h * 4 + 2]? = some (.int .u64 (K h).num) ∧ xs[h * 4 + 3]? = some (.int .i64 (X h))) :
    ElAt w v (n + 1) (upd K n ⟨0, 0, 0⟩) (upd X n 0) := by
  refine ⟨_, ho, fun h hh => ?_⟩
  by_cases e : h = n
  · subst e
    refine ⟨?_, ?_, ?_, ?_⟩
    all_goals (rw [List.getElem?_append_right (by omega), hl]; simp [upd])
  · obtain ⟨e0, e1, e2, e3⟩ := hx h (by omega)
    refine ⟨?_, ?_, ?_, ?_⟩
    · rw [List.getElem?_append_left (by omega), e0]; simp [upd, e]
    · rw [List.getElem?_append_left (by omega), e1]; simp [upd, e]
    · rw [List.getElem?_append_left (by omega), e2]; simp [upd, e]
    · rw [List.getElem?_append_left (by omega), e3]; simp [upd, e]

/-- What a push leaves. -/
def Pushed (w : World) (h : Hp) (S : List El) (P : Nat) (k v : Int) (e : Ending) (w' : World) : Prop :=
  e = .returned (.tuple #[.int .i64 (lowOf (hsOf S)), .int .i64 0]) ∧ ∃ h', HeapAt w' h' (pushS S k v) (P + 1) ∧ Fr h.foot w w' ∧ Ext w.heap.size h h'

/-- Behind the room for the element. -/
structure Roomy (w : World) (h : Hp) (s : Bd) (l : Nat) (wx : World) (h1 : Hp) (K : Nat → Kvn) (X : Nat → Int) : Prop where
  b : BodAt wx h1 { s with n := max s.n (l + 1), K := K, X := X }
  fr : Fr h.foot w wx
  ext : Ext w.heap.size h h1
  K : ∀ x, x < s.n → x ≠ l → K x = s.K x
  X : ∀ x, x < s.n → x ≠ l → X x = s.X x

set_option maxHeartbeats 6400000 in
set_option maxRecDepth 100000 in
theorem push_any {w : World} {h : Hp} {S : List El} {P : Nat} (H : HeapAt w h S P) (k v : Int) (hS : S.length < 1024) (hT : Tab w) (hP : P < 9223372036854775807) :
    Calls Tryd.prog 11 #[h.ptr, .int .u64 k, .int .i64 v] w (Pushed w h S P k v) := by
  obtain ⟨s, b, i⟩ := H.ex
  have ha := cell_of_one b.ha
  have hu := Lib.hid (usable_yes h.a h.bb w ha)
  have hl := Lib.hid (lowestOut_any b.hb i.word hT)
  have HI := Lib.hid i
  have HS := Lib.hid hS
  have HB := Lib.hid b
  have hnle := i.n_le
  obtain ⟨cur, hcur, _, h0, _⟩ := b.hb.ex
  have c0 := cells_cell hcur h0
  have f0 : w.frozen? ⟨h.bb, 0, none⟩ = false := cells_free hcur 0
  have blt := lt_of_block hcur
  have hvs : ∃ a c, h.ve = .slice a s.n c := by
    obtain ⟨xs, ho, _⟩ := b.he.ex
    rcases ho.2 with ⟨hv, h0⟩ | ⟨g, cap, cu, hv, _⟩
    · exact ⟨none, 0, by rw [hv, h0]⟩
    · exact ⟨_, _, hv⟩
  obtain ⟨va, vc, hve⟩ := hvs
  rw [hve] at c0
  have Hve := Lib.hid hve
  clear b i H hS hT hcur h0 hve
  unfold Hp.ptr
  go_enter Tryd.func11, Tryd.ntmps11
  go_wp2_with (first | (go_at_call 24; refine hu.out.mono ?_; rintro e w' ⟨rfl, rfl⟩) | (go_at_call 30; fail))
  refine hl.out.mono ?_
  rintro e w' ⟨l, rfl, hL, m, rfl⟩
  have hl2 : l < 1024 := by
    by_cases hlt : l < 1024
    · exact hlt
    · have h1 := hL.le
      obtain rfl : l = 1024 := by omega
      have := low_full HI.out hL
      have := HS.out
      omega
  have hln := low_le_n HI.out hL
  have q : ((l : Int) == 1024) = false := by simp; omega
  have HL := Lib.hid hL
  clear hL
  obtain ⟨wm, hwm⟩ : ∃ wm, w.drewN m = wm := ⟨_, rfl⟩
  have hfm : Fr h.foot w wm := by rw [← hwm]; exact fr_drewN w m _
  have HBm : Hid (BodAt wm h s) := Lib.hid (HB.out.frame (F := []) (by rw [← hwm]; exact fr_drewN w m []) (fun _ _ => by simp))
  have hsz : w.heap.size = wm.heap.size := by rw [← hwm]; rfl
  have c0m : wm.cell? ⟨h.bb, 0, none⟩ = some (.slice va s.n vc) := by rw [← hwm, World.cell?_drewN]; exact c0
  have f0m : wm.frozen? ⟨h.bb, 0, none⟩ = false := by rw [← hwm, World.frozen?_drewN]; exact f0
  have bltm : h.bb < wm.heap.size := by omega
  have Hfm := Lib.hid hfm
  have Hsz := Lib.hid hsz
  rw [hwm]
  clear hwm hfm hsz c0 f0 blt
  go_upto_if 29 with (fail)
  go_cut [] (fun wx => ∃ W h1 K X, W = wx ∧ Roomy w h s l W h1 K X)
  case first =>
    by_cases hlen : l = s.n
    · subst hlen
      obtain ⟨i0, hi0, hz0, hz1, hz2⟩ := info_parts infoElem
      obtain ⟨xs, hown, hxs⟩ := HBm.out.he.ex
      rw [Hve.out] at hown
      have Hxs := Lib.hid hxs
      have Hown := Lib.hid hown
      have hxl := Lib.hid hown.1
      clear hown hxs
      go_wp2_with (at_builtin; refine wpList_append_row _ rfl _ _ 66 rfl 80 i0 (.agg #[.int .u64 0, .int .i64 0, .int .u64 0, .int .i64 0]) 4 32 Tryd.underlying66 hi0 hz0 hz1 hz2 rfl (by decide) 0 (.slice va s.n vc) s.n xs rfl (Hown.out.alloc _) (Nat.zero_le _) ⟨wm.heap.size, 0, none⟩ 1 1 [.int .u64 0, .int .i64 0, .int .u64 0, .int .i64 0] rfl rfl ?c1 ?c2 (by decide) ?c3 ?c4 ?_)
      case c1 => exact new_cells4 wm _ _ _ _ _
      case c2 => simp [Value.oneCell']
      case c3 => unfold maxLen; omega
      case c4 => omega
      intro v' w1 hown1 hgr hnear
      obtain ⟨g', cap', hv', hle, hcm⟩ := row_some hown1 (by omega)
      have hf1 : Fr h.ve.ownBlock.toList wm w1 := by rw [Hve.out]; exact (fr_alloc wm _ _).trans' hgr
      obtain ⟨B1, F1⟩ := HBm.out.newE (elAt_grow hown1 hxl.out Hxs.out) hf1
      have nb : h.bb ∉ h.ve.ownBlock.toList := by
        obtain ⟨cur, hcur, _⟩ := HBm.out.hb.ex
        obtain ⟨ys, ho, _⟩ := HBm.out.he.ex
        exact row_not_mem ho hcur (by decide)
      have c01 := hf1.cell c0m nb
      have f01 : w1.frozen? ⟨h.bb, 0, none⟩ = false := by rw [hf1.frozen bltm nb]; exact f0m
      have hx1 : Ext w.heap.size h { h with ve := v' } := ⟨rfl, rfl, rfl, fun g hg => by
        rcases hnear g hg with h1 | h1
        · left; rw [Hve.out]; exact h1
        · right; simp at h1; have := Hsz.out; omega, fun g hg => .inl hg⟩
      have hR : Roomy w h s s.n (w1.setCell ⟨h.bb, 0, none⟩ v') { h with ve := v' } (upd s.K s.n ⟨0, 0, 0⟩) (upd s.X s.n 0) := ⟨by
        have : max s.n (s.n + 1) = s.n + 1 := by omega
        rw [this]
        exact B1, Hfm.out.trans' (bbve_foot h F1), hx1, fun x hx hne => by simp [upd, hne], fun x hx hne => by simp [upd, hne]⟩
      have HR := Lib.hid hR
      clear hR hx1 B1 F1 hown1 hgr hnear hf1 nb
      subst hv'
      go_wp2_with fail
      go_meet
      exact ⟨_, _, _, _, rfl, HR.out⟩
    · have q2 : ((l : Int) == (s.n : Int)) = false := by simp; omega
      go_wp2_with fail
      go_meet
      exact ⟨_, h, s.K, s.X, rfl, ⟨by
        have : max s.n (l + 1) = s.n := by omega
        rw [this]
        exact HBm.out, Hfm.out, Ext.refl _ _, fun _ _ _ => rfl, fun _ _ _ => rfl⟩⟩
  case rest =>
    obtain ⟨wx, h1, K, X, rfl, hR⟩ := hcut
    have hB := hR.b
    have hbb := hR.ext.bb
    have hN : l < max s.n (l + 1) := by omega
    obtain ⟨g, cap, C⟩ := hB.cellsy (by show 0 < max s.n (l + 1); omega)
    obtain ⟨B3, F3⟩ := hB.setElem (x := l) C.ve hN ⟨k, v, s.pushed⟩ 0
    have c0x := C.b0
    have c20 : wx.cell? ⟨h.bb, 20, none⟩ = some (.int .u64 s.pushed) := by
      obtain ⟨cur, hcur, _, _, _, _, _, _, h20⟩ := hB.hb.ex
      rw [← hbb]
      exact cells_cell hcur h20
    have d0 := C.e0 l hN
    have d1 := C.e1 l hN
    have d2 := C.e2 l hN
    have d3 := C.e3 l hN
    have r0 := C.fr (l * 4)
    have r1 := C.fr (l * 4 + 1)
    have r2 := C.fr (l * 4 + 2)
    have r3 := C.fr (l * 4 + 3)
    rw [hbb] at c0x
    have hli : (l : Int) < ((max s.n (l + 1) : Nat) : Int) := by omega
    have hl0 : (0 : Int) ≤ (l : Int) := by omega
    have hmi : ((max s.n (l + 1) : Nat) : Int) ≤ 1024 := by omega
    obtain ⟨N, hNd⟩ : ∃ N, max s.n (l + 1) = N := ⟨_, rfl⟩
    simp only at c0x B3 F3
    rw [hNd] at c0x hli hmi
    have HR := Lib.hid hR
    have HN := Lib.hid hNd
    have HB3 := Lib.hid B3
    have HF3 := Lib.hid F3
    have Hbb := Lib.hid hbb
    clear hR hB C B3 F3 hbb hNd hN
    go_wp2_with fail
    go_region
    obtain ⟨W3, hW3⟩ : ∃ W3, (((wx.setCell ⟨g, l * 4, none⟩ (.int .u64 k)).setCell ⟨g, l * 4 + 1, none⟩ (.int .i64 v)).setCell ⟨g, l * 4 + 2, none⟩ (.int .u64 s.pushed)).setCell ⟨g, l * 4 + 3, none⟩ (.int .i64 0) = W3 := ⟨_, rfl⟩
    have hB3 := HB3.out
    have hF3 := HF3.out
    rw [hW3] at hB3 hF3
    rw [hW3]
    have e20 : W3.cell? ⟨h.bb, 20, none⟩ = some (.int .u64 s.pushed) := by
      obtain ⟨cur, hcur, _, _, _, _, _, _, h20⟩ := hB3.hb.ex
      rw [← Hbb.out]
      exact cells_cell hcur h20
    have f20 : W3.frozen? ⟨h.bb, 20, none⟩ = false := by
      obtain ⟨cur, hcur, _⟩ := hB3.hb.ex
      rw [← Hbb.out]
      exact cells_free hcur 20
    obtain ⟨hB4, hF4⟩ := hB3.block 20 (.int .u64 (s.pushed + 1)) (hB3.hb.setP _) hB3.he hB3.hi
    have hfd : Fr [] (W3.setCell ⟨h1.bb, 20, none⟩ (.int .u64 (s.pushed + 1))) ((W3.setCell ⟨h1.bb, 20, none⟩ (.int .u64 (s.pushed + 1))).drewN 1) := fr_drewN _ 1 []
    have hB4' := hB4.frame hfd (fun _ _ => by simp)
    have hW := HI.out.word
    have hflip := flip_any hB4' l hl2 (hW _ (by omega))
    rw [Hbb.out] at hflip
    have Hflip := Lib.hid hflip
    have HF4 := Lib.hid (hF4.trans' (hfd.mono (fun _ hx => by simp at hx)))
    have HFF := Lib.hid hF3
    have hp0 := HI.out.p0
    have hp1 : s.pushed < 9223372036854775807 := by have := HI.out.p1; omega
    clear hB3 hF3 hB4 hF4 hfd hB4' hflip hW3 HB3 HF3 c0x c20 d0 d1 d2 d3 r0 r1 r2 r3 hW
    go_wp2_with fail
    refine Hflip.out.mono ?_
    rintro e w5 ⟨rfl, B5, F5⟩
    have hout : l ∉ hsOf S := fun hm => by
      have := (HI.out.bits l hl2).2 hm
      rw [HL.out.out hl2] at this
      cases this
    have hits : l ∉ s.its := fun hm => hout (HI.out.perm.mem_iff.1 hm)
    have hlen := HI.out.len
    have hSl := HS.out
    have hq := qpush_any B5 l (by show l < max s.n (l + 1); omega) hits (by show s.its.length ≤ 1023; omega) HI.out.nodup (fun y hy => by have := HI.out.ltn y hy; show y < max s.n (l + 1); omega)
      (heapO_congr HI.out.heap (fun y hy => by
        have : y ≠ l := fun e => hits (e ▸ hy)
        simp [upd, this]
        exact (HR.out.K y (HI.out.ltn y hy) this).symm))
      (idxAll_congr HI.out.idx (fun y hy => by
        have : y ≠ l := fun e => hits (e ▸ hy)
        simp [upd, this]
        exact (HR.out.X y (HI.out.ltn y hy) this).symm))
    have hh : (⟨h1.a, h.bb, h1.cb, h1.ve, h1.vi⟩ : Hp) = h1 := by rw [← Hbb.out]
    have Hhh := Lib.hid hh
    clear hh
    have Hq := Lib.hid hq
    have HF5 := Lib.hid F5
    clear hq F5 B5 hlen hSl hits hout
    unfold encN at *
    go_wp2_with fail
    refine Hq.out.mono ?_
    rintro e w6 ⟨h', L, X2, rfl, hS2, B6, F6, E6⟩
    rw [Hhh.out] at F6 E6
    go_wp2_with fail
    go_ret2
    refine ⟨by rw [lowOf_low HI.out HL.out hl2]; rfl, h', ⟨_, B6, ?_⟩, ?_, ?_⟩
    · exact HI.out.push (X0 := X2) HL.out hl2 rfl (by simp [upd]) (fun y hy hne => by simp [upd, hne]; exact HR.out.K y hy hne) rfl rfl hS2
    · exact fr_foot HR.out.ext rfl HR.out.fr (((rows_foot h1 HFF.out).trans' (bb_foot h1 HF4.out)).trans' ((bb_foot h1 (by rw [Hbb.out]; exact HF5.out)).trans' F6))
    · refine HR.out.ext.trans E6 ?_
      have s1 := HR.out.fr.size
      have s2 := HFF.out.size
      have s3 := HF4.out.size
      have s4 := HF5.out.size
      rw [← Hbb.out] at s4
      omega
end Go.Proofs.YtpbnbddjfebenaaDoor
