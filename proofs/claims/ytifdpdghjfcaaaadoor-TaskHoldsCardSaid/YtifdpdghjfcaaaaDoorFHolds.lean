/- The walk of TaskHolds. -/
import Derived.Test.YtifdpdghjfcaaaaDoorFHold
import Derived.Test.YtifdpdghjfcaaaaDoorFEnd
import Derived.LoopTactic
import Derived.Deep.LoopGhost
namespace Go.Proofs.YtifdpdghjfcaaaaDoor
open Go.RowKit Go.Sort
set_option linter.unusedVariables false
set_option linter.unusedSimpArgs false

/-- The run set, and how often each task is in it. -/
structure HS (w wr : World) (l : Tl) (P : Ks) (Q : Qu) (g : Nat) (v : Value) (X : List Int) (z n : Nat) (f : Nat → Nat) : Prop where
  K : KS w wr l P Q g
  row : Row TI wr w.heap.size v X
  tab : TabV wr z 57 (fun x => .int .i64 ((f x : Nat) : Int))
  hz : w.heap.size ≤ z
  len : P.length = n
  g : g ≤ 80
  lf : Q.map Prod.snd = X
section
variable {w wr w' : World} {l : Tl} {P : Ks} {Q : Qu} {g n z i j m : Nat} {v : Value} {p : Ck} {X : List Int} {f : Nat → Nat}
theorem HS.grown (h : HS w wr l P Q g v X z n f) (hb : Below wr.heap.size wr w') : HS w w' l P Q g v X z n f := ⟨h.K.grown hb, h.row.below hb, h.tab.grown hb, h.hz, h.len, h.g, h.lf⟩
theorem HS.nodup (h : HS w wr l P Q g v X z n f) : X.Nodup := by rw [← h.lf]; exact rk_nodup h.K.R h.K.K.qa.inc
theorem HS.num (h : HS w wr l P Q g v X z n f) (hj : j < X.length) : ∃ m : Nat, X[j] = ((m : Nat) : Int) ∧ m < n := by
  have hm : X[j] ∈ Q.map Prod.snd := by rw [h.lf]; exact List.getElem_mem hj
  obtain ⟨x, hx, e⟩ := List.mem_map.1 hm
  obtain ⟨m, h1, h2⟩ := h.K.R.qu x hx
  exact ⟨m, by rw [← e]; exact h1, by rw [← h.len]; exact (List.getElem?_eq_some_iff.1 h2).1⟩
theorem HS.le (h : HS w wr l P Q g v X z n f) : X.length ≤ 80 := by
  have := h.K.K.ql
  have := h.g
  rw [← h.lf, List.length_map]
  omega
theorem tab_row {b : Nat} {t : TypeId} {F : Nat → Value} {u : Value} (hr : Row TI w b u X) (ht : TabV w z t F) (hn : 3 ≠ t) : ∀ y, u.ownBlock = some y → y ≠ z := by
  obtain ⟨cur, h1, _⟩ := ht.ex
  exact hr.ne h1 hn
/-- A number is counted. -/
theorem HS.bump (h : HS w wr l P Q g v X z n (fun x => (X.take j).count ((x : Nat) : Int))) (hj : j < X.length) (hm : X[j] = ((m : Nat) : Int)) (hm2 : m < 64) :
    HS w (wr.setCell ⟨z, m, none⟩ (.int .i64 ((((X.take j).count ((m : Nat) : Int) : Nat) : Int) + 1))) l P Q g v X z n (fun x => (X.take (j + 1)).count ((x : Nat) : Int)) := by
  obtain ⟨cur, h1, _⟩ := h.tab.ex
  have hf := fr_setCell wr ⟨z, m, none⟩ (.int .i64 ((((X.take j).count ((m : Nat) : Int) : Nat) : Int) + 1))
  refine ⟨h.K.box h1 (by decide) (by decide) (by decide) (by decide) h.hz hf, h.row.fr hf (fun y hy => by simpa using tab_row h.row h.tab (by decide) y hy), h.tab.set m hm2 _ ?_ ?_, h.hz, h.len, h.g, h.lf⟩
  · rw [count_take hj, hm, if_pos rfl]
    congr 1
  · intro y hy
    rw [count_take hj, hm, if_neg (by omega), Nat.add_zero]
/-- Each ready task is there once. -/
theorem HS.once (h : HS w wr l P Q g v X z n (fun x => X.count ((x : Nat) : Int))) (hp : P[i]? = some p) : X.count ((i : Nat) : Int) = if p.s = 1 then 1 else 0 := by
  rw [← h.lf]; exact rk_count h.K.R h.K.K.qa.inc hp
end

/-- While the first task is turned again and again. -/
structure HT (w wr : World) (l : Tl) (P : Ks) (Q : Qu) (g : Nat) (v : Value) (X : List Int) (z y n j : Nat) : Prop where
  K : KS w wr l P Q g
  row : Row TI wr w.heap.size v X
  tab : TabV wr z 57 (fun x => .int .i64 ((X.count ((x : Nat) : Int) : Nat) : Int))
  fst : TabV wr y 58 (fun x => .bool (decide (((x : Nat) : Int) ∈ X.take j)))
  hz : w.heap.size ≤ z
  hy : w.heap.size ≤ y
  len : P.length = n
  g : g ≤ 80 + j
  lf : Q.map Prod.snd = X.drop j ++ X.take j
  nd : X.Nodup
  le : X.length ≤ 80
section
variable {w wr w' : World} {l : Tl} {P : Ks} {Q : Qu} {g n z y i j m : Nat} {v : Value} {p : Ck} {X : List Int}
theorem HT.grown (h : HT w wr l P Q g v X z y n j) (hb : Below wr.heap.size wr w') : HT w w' l P Q g v X z y n j := ⟨h.K.grown hb, h.row.below hb, h.tab.grown hb, h.fst.grown hb, h.hz, h.hy, h.len, h.g, h.lf, h.nd, h.le⟩
theorem HT.head (h : HT w wr l P Q g v X z y n j) (hj : j < X.length) : ∃ t Q', Q = (t, X[j]) :: Q' ∧ Q'.map Prod.snd = X.drop (j + 1) ++ X.take j := by
  have h1 := h.lf
  rw [List.drop_eq_getElem_cons hj] at h1
  cases Q with
  | nil => simp at h1; omega
  | cons e Q' =>
    obtain ⟨t, x⟩ := e
    simp only [List.map_cons, List.cons_append, List.cons.injEq] at h1
    exact ⟨t, Q', by rw [h1.1], h1.2⟩
theorem HT.one (h : HT w wr l P Q g v X z y n j) (hj : j < X.length) (hm : X[j] = ((m : Nat) : Int)) : X.count ((m : Nat) : Int) = 1 := by
  rw [h.nd.count, if_pos (by rw [← hm]; exact List.getElem_mem hj)]
theorem HT.new (h : HT w wr l P Q g v X z y n j) (hj : j < X.length) (hm : X[j] = ((m : Nat) : Int)) : ((m : Nat) : Int) ∉ X.take j := by
  intro hmem
  rw [← hm] at hmem
  have h2 := (List.take_sublist (j + 1) X).nodup h.nd
  rw [List.take_succ_eq_append_getElem hj] at h2
  exact (List.nodup_append.1 h2).2.2 _ hmem _ (by simp) rfl
/-- The first task is turned. -/
theorem HT.turn {t : Nat} {Q' : Qu} (h : HT w wr l P ((t, ((m : Nat) : Int)) :: Q') g v X z y n j) (hj : j < X.length) (hm : X[j] = ((m : Nat) : Int)) (hm2 : m < 64) (hp : P[m]? = some ⟨1, t⟩) (hwo : wo m ((t, ((m : Nat) : Int)) :: Q') = Q') (hQ : Q'.map Prod.snd = X.drop (j + 1) ++ X.take j)
    (hd : KAt w.heap.size w' l (stepP P m 1 g) (stepQ ((t, ((m : Nat) : Int)) :: Q') m 1 g) (stepG 1 g)) (hf : Fr l.F wr w') : TabV w' y 58 (fun x => .bool (decide (((x : Nat) : Int) ∈ X.take j))) ∧
    HT w (w'.setCell ⟨y, m, none⟩ (.bool true)) l (stepP P m 1 g) (Q' ++ [(g + 1, ((m : Nat) : Int))]) (g + 1) v X z y n (j + 1) := by
  have hk := h.K.did hp hd hf
  have e1 : stepQ ((t, ((m : Nat) : Int)) :: Q') m 1 g = Q' ++ [(g + 1, ((m : Nat) : Int))] := by unfold stepQ; rw [hwo]; rfl
  rw [e1] at hk
  have hk : KS w w' l (stepP P m 1 g) (Q' ++ [(g + 1, ((m : Nat) : Int))]) (g + 1) := hk
  obtain ⟨c1, h1, _⟩ := h.tab.ex
  obtain ⟨c2, h2, _⟩ := h.fst.ex
  have t1 := h.tab.keep (hf.block _ h.tab.lt (h.K.K.out h1 (by decide) (by decide)))
  have t2 := h.fst.keep (hf.block _ h.fst.lt (h.K.K.out h2 (by decide) (by decide)))
  have r1 := h.K.K.row_keep h.row hf
  have hf2 := fr_setCell w' ⟨y, m, none⟩ (.bool true)
  obtain ⟨c3, h3, _⟩ := t2.ex
  obtain ⟨c4, h4, _⟩ := t1.ex
  have htk : X.take (j + 1) = X.take j ++ [X[j]] := List.take_succ_eq_append_getElem hj
  refine ⟨t2, hk.box h3 (by decide) (by decide) (by decide) (by decide) h.hy hf2, r1.fr hf2 (fun u hu => by simpa using tab_row r1 t2 (by decide) u hu), t1.keep (hf2.block _ t1.lt (by simpa using ne_types h4 h3 (by decide))), t2.set m hm2 _ ?_ ?_, h.hz, h.hy, by rw [stepP_len]; exact h.len, by have := h.g; omega, ?_, h.nd, h.le⟩
  · show Value.bool (decide (_ ∈ X.take (j + 1))) = _
    rw [htk, hm, decide_eq_true (by simp only [List.mem_append, List.mem_singleton, or_true])]
  · intro u hu
    have : ((u : Nat) : Int) ≠ X[j] := by rw [hm]; omega
    show Value.bool (decide (_ ∈ X.take (j + 1))) = _
    rw [htk]
    congr 1
    rw [decide_eq_decide]
    simp only [List.mem_append, List.mem_singleton, this, or_false]
  · rw [List.map_append, hQ, htk, hm, List.append_assoc]; rfl
end

set_option maxRecDepth 100000 in
set_option maxHeartbeats 12800000 in
theorem taskHolds_walk (c : Int) (sa : Option Addr) (len cap : Nat) (w : World) (hc : (Lit.int .i64 c).wf = true) (hr : IsActs8 w sa len cap) (hmv : MvAt w) :
    Calls Tryd.prog 7 #[.int .i64 c, .slice sa len cap] w fun e w' => e = .returned (.bool true) ∧ Below w.heap.size w w' := by
  clear hc
  by_cases hbad : 80 < len ∨ c < 1 ∨ 64 < c
  · have hk := Lib.hid (known_any w hmv)
    clear hr hmv
    go_enter Tryd.func7, Tryd.ntmps7
    by_cases h1 : 80 < len
    · have h1' : (80 : Int) < (len : Int) := by omega
      go_wp2_with (go_at_call 8; refine hk.out.mono ?_; rintro e w1 ⟨rfl, hb⟩)
      go_ret
      exact ⟨rfl, hb⟩
    · have h1' : decide ((80 : Int) < (len : Int)) = false := by simp; omega
      by_cases h2 : c < 1
      · go_wp2_with (go_at_call 8; refine hk.out.mono ?_; rintro e w1 ⟨rfl, hb⟩)
        go_ret
        exact ⟨rfl, hb⟩
      · have h2' : decide (c < 1) = false := by simp; omega
        have h3' : 64 < c := by omega
        go_wp2_with (go_at_call 8; refine hk.out.mono ?_; rintro e w1 ⟨rfl, hb⟩)
        go_ret
        exact ⟨rfl, hb⟩
  · obtain ⟨n, rfl⟩ : ∃ n : Nat, c = ((n : Nat) : Int) := ⟨c.toNat, by omega⟩
    have hn : 1 ≤ n ∧ n ≤ 64 ∧ len ≤ 80 := by omega
    have HN := Lib.hid hn
    have HMV := Lib.hid hmv
    have g1 : decide (((n : Nat) : Int) < 1) = false := by simp; omega
    have g2 : decide ((64 : Int) < ((n : Nat) : Int)) = false := by simp; omega
    have g3 : decide ((80 : Int) < ((len : Nat) : Int)) = false := by simp; omega
    clear hbad hn hmv
    go_enter Tryd.func7, Tryd.ntmps7
    go_wp2_with (go_at_call 9; fail)
    refine (tkNew_ok w HMV.out n HN.out.1 HN.out.2.1).mono ?_
    rintro e w1 ⟨l, rfl, hT, hb1⟩
    have HS0 : Hid (KS w w1 l (List.replicate n ⟨0, 0⟩) [] 0) := Lib.hid (ks_new (Below.refl _ _) HMV.out.lt hT hb1)
    clear hT hb1 g1 g2 g3
    go_wp2_with fail
    go_loopw [44] (fun i wr => ∃ (k g : Nat) (P : Ks) (Q : Qu), k ≤ len ∧ i = .int .i64 ((k : Nat) : Int) ∧ Hid (KS w wr l P Q g ∧ g ≤ k ∧ P.length = n)) (fun i _ => len - (intOf i).toNat)
    case atStart => exact ⟨0, 0, _, [], Nat.zero_le _, rfl, Lib.hid ⟨HS0.out, Nat.le_refl _, by simp⟩⟩
    case round =>
      clear HS0
      obtain ⟨k, g, P, Q, hk, rfl, HD⟩ := hrel
      by_cases hlt : k < len
      · rcases hr with h0 | ⟨ab, off, rfl, _, hbl, hcs⟩
        · omega
        · obtain ⟨x0, x1, c0, c1, _, _⟩ := hcs k hlt
          have hbw := HD.out.1.below
          have c0 : wr.cell? ⟨ab, off + k * 2, none⟩ = some (.int .i64 x0) := (hbw.cell (p := ⟨ab, off + k * 2, none⟩) hbl).trans c0
          have c1 : wr.cell? ⟨ab, off + k * 2 + 1, none⟩ = some (.int .i64 x1) := (hbw.cell (p := ⟨ab, off + k * 2 + 1, none⟩) hbl).trans c1
          have HD1 := Lib.hid (And.intro (HD.out.1.grown (below_alloc wr (.cells #[.int .i64 x0, .int .i64 x1] 34))) HD.out.2)
          have HG : Hid (g < 4096) := Lib.hid (by have := HD.out.2.1; have := HN.out.2.2; omega)
          clear hcs hbw HD
          by_cases hx0 : x0 = 0
          · subst hx0
            go_wp2_with (go_at_call 16; fail)
            refine (tkStart_any HD1.out.1 HG.out x1).mono ?_
            rintro e w2 ⟨⟨code, rfl⟩, -, P', Q', g', hK, hg', hl'⟩
            have HD2 : Hid (KS w w2 l P' Q' g' ∧ g' ≤ k + 1 ∧ P'.length = n) := Lib.hid ⟨hK, by have := HD1.out.2.1; omega, by rw [hl']; exact HD1.out.2.2⟩
            clear hK hg' hl' HD1
            go_wp2_with fail
            go_roundw
            case rel => exact ⟨k + 1, _, _, _, by omega, by go_num, HD2⟩
            case measure => simp [intOf]; omega
          by_cases hx1 : x0 = 1
          · subst hx1
            clear hx0
            go_wp2_with (go_at_call 17; fail)
            refine (tkPark_any HD1.out.1 HG.out x1).mono ?_
            rintro e w2 ⟨⟨code, rfl⟩, -, P', Q', g', hK, hg', hl'⟩
            have HD2 : Hid (KS w w2 l P' Q' g' ∧ g' ≤ k + 1 ∧ P'.length = n) := Lib.hid ⟨hK, by have := HD1.out.2.1; omega, by rw [hl']; exact HD1.out.2.2⟩
            clear hK hg' hl' HD1
            go_wp2_with fail
            go_roundw
            case rel => exact ⟨k + 1, _, _, _, by omega, by go_num, HD2⟩
            case measure => simp [intOf]; omega
          by_cases hx2 : x0 = 2
          · subst hx2
            clear hx0 hx1
            go_wp2_with (go_at_call 18; fail)
            refine (tkWake_any HD1.out.1 HG.out x1).mono ?_
            rintro e w2 ⟨⟨code, rfl⟩, -, P', Q', g', hK, hg', hl'⟩
            have HD2 : Hid (KS w w2 l P' Q' g' ∧ g' ≤ k + 1 ∧ P'.length = n) := Lib.hid ⟨hK, by have := HD1.out.2.1; omega, by rw [hl']; exact HD1.out.2.2⟩
            clear hK hg' hl' HD1
            go_wp2_with fail
            go_roundw
            case rel => exact ⟨k + 1, _, _, _, by omega, by go_num, HD2⟩
            case measure => simp [intOf]; omega
          by_cases hx3 : x0 = 3
          · subst hx3
            clear hx0 hx1 hx2
            go_wp2_with (go_at_call 19; fail)
            refine (tkFinish_any HD1.out.1 HG.out x1).mono ?_
            rintro e w2 ⟨⟨code, rfl⟩, -, P', Q', g', hK, hg', hl'⟩
            have HD2 : Hid (KS w w2 l P' Q' g' ∧ g' ≤ k + 1 ∧ P'.length = n) := Lib.hid ⟨hK, by have := HD1.out.2.1; omega, by rw [hl']; exact HD1.out.2.2⟩
            clear hK hg' hl' HD1
            go_wp2_with fail
            go_roundw
            case rel => exact ⟨k + 1, _, _, _, by omega, by go_num, HD2⟩
            case measure => simp [intOf]; omega
          by_cases hx4 : x0 = 4
          · subst hx4
            clear hx0 hx1 hx2 hx3
            go_wp2_with (go_at_call 20; fail)
            refine (tkTurn_any HD1.out.1 HG.out x1).mono ?_
            rintro e w2 ⟨⟨code, rfl⟩, -, P', Q', g', hK, hg', hl'⟩
            have HD2 : Hid (KS w w2 l P' Q' g' ∧ g' ≤ k + 1 ∧ P'.length = n) := Lib.hid ⟨hK, by have := HD1.out.2.1; omega, by rw [hl']; exact HD1.out.2.2⟩
            clear hK hg' hl' HD1
            go_wp2_with fail
            go_roundw
            case rel => exact ⟨k + 1, _, _, _, by omega, by go_num, HD2⟩
            case measure => simp [intOf]; omega
          have HD2 : Hid (KS w (wr.alloc (.cells #[.int .i64 x0, .int .i64 x1] 34)) l P Q g ∧ g ≤ k + 1 ∧ P.length = n) := Lib.hid ⟨HD1.out.1, by have := HD1.out.2.1; omega, HD1.out.2.2⟩
          clear HD1
          go_wp2_with fail
          go_roundw
          case rel => exact ⟨k + 1, _, _, _, by omega, by go_num, HD2⟩
          case measure => simp [intOf]; omega
      · obtain rfl : k = len := by omega
        clear hr
        obtain ⟨X, hX⟩ : ∃ X, X = Q.map Prod.snd := ⟨_, rfl⟩
        have HX := Lib.hid hX
        have hg80 : g ≤ 80 := by have := HD.out.2.1; have := HN.out.2.2; omega
        have HG := Lib.hid hg80
        clear hX hg80
        go_wp2_with (go_at_call 13; fail)
        refine (tkReady_yes HD.out.1.K (by have := HG.out; omega)).mono ?_
        rintro e w2 ⟨u, rfl, hr, hb⟩
        rw [← HX.out] at hr
        obtain ⟨va, vc, rfl, -, -⟩ := hr.form
        obtain ⟨M, hM⟩ : ∃ M, M = X.length := ⟨_, rfl⟩
        rw [← hM] at hr ⊢
        have HM := Lib.hid hM
        have HST : Hid (∀ cur, cur = Array.replicate 64 (Value.int .i64 0) → HS w (w2.alloc (.cells cur 57)) l P Q g (.slice va M vc) X w2.heap.size n (fun x => (X.take 0).count ((x : Nat) : Int))) := Lib.hid fun cur hc =>
          ⟨(HD.out.1.grown hb).grown (below_alloc _ _), (hr.lower HD.out.1.below.size).below (below_alloc _ _), (tabV_new w2 _ _ cur hc).congr (fun x => by simp), Nat.le_trans HD.out.1.below.size hb.size, HD.out.2.2, HG.out, HX.out.symm⟩
        have hMI : ((M : Nat) : Int) ≤ 80 := by
          have := HD.out.1.K.ql
          have := HG.out
          have h2 := HX.out
          rw [hM, h2, List.length_map]
          omega
        clear hM hr hb HD HG HX
        go_wp2_with fail
        generalize w2.heap.size = z at *
        go_loopw [85] (fun i wr => ∃ (j : Nat), j ≤ M ∧ i = .int .i64 ((j : Nat) : Int) ∧ Hid (HS w wr l P Q g (.slice va M vc) X z n (fun x => (X.take j).count ((x : Nat) : Int)))) (fun i _ => M - (intOf i).toNat)
        case atStart => exact ⟨0, Nat.zero_le _, rfl, Lib.hid (HST.out _ rfl)⟩
        case round =>
          clear HST
          obtain ⟨j, hj, rfl, HD⟩ := hrel
          by_cases hlt : j < M
          · have hjX : j < X.length := by rw [← HM.out]; exact hlt
            obtain ⟨m, hxm, hmn⟩ := HD.out.num hjX
            obtain ⟨ab, ac, hv, _, hal, _, hcell⟩ := HD.out.row.at TI_ok (List.getElem?_eq_getElem hjX)
            have cx := hcell 0 _ rfl
            simp only [Value.slice.injEq] at hv
            obtain ⟨rfl, -, rfl⟩ := hv
            rw [hxm] at cx
            have cx : wr.cell? ⟨ab, j, none⟩ = some (.int .i64 ((m : Nat) : Int)) := by simpa [TI] using cx
            have hm64 : m < 64 := by have := HN.out.2.1; omega
            have ci := HD.out.tab.cell m hm64
            have fi := HD.out.tab.free m
            have zl := HD.out.tab.lt
            have HB := Lib.hid (HD.out.bump hjX hxm hm64)
            have hcl : (X.take j).count ((m : Nat) : Int) ≤ 80 := Nat.le_trans (List.count_le_length) (by rw [List.length_take]; have := HD.out.le; omega)
            have hjI : ((j : Nat) : Int) < ((M : Nat) : Int) := by omega
            have hm0 : decide (((m : Nat) : Int) < 0) = false := decide_eq_false (by omega)
            have hm1 : decide (((n : Nat) : Int) ≤ ((m : Nat) : Int)) = false := decide_eq_false (by omega)
            have hm2 : ((m : Nat) : Int) < 64 := by omega
            have hm4 : decide (n ≤ m) = false := decide_eq_false (by omega)
            have hm5 : ¬ n ≤ m := by omega
            have hm3 : (0 : Int) ≤ ((m : Nat) : Int) := by omega
            generalize (X.take j).count ((m : Nat) : Int) = C at *
            have hC : ((C : Nat) : Int) ≤ 80 := by omega
            clear hjX hxm hmn hcell HD
            go_wp2_with fail
            go_roundw
            case rel => exact ⟨j + 1, by omega, by go_num, HB⟩
            case measure => simp [intOf]; omega
          · obtain rfl : j = M := by omega
            have HS3 : Hid (HS w wr l P Q g (.slice va j vc) X z n (fun x => X.count ((x : Nat) : Int))) := Lib.hid (by
              have := HD.out
              rw [HM.out, List.take_length, ← HM.out] at this
              exact this)
            clear HD hlt hj
            go_wp2_with fail
            go_loopw [13] (fun i wr => ∃ (x : Nat), x ≤ n ∧ i = .int .i64 ((x : Nat) : Int) ∧ Hid (HS w wr l P Q g (.slice va j vc) X z n (fun x => X.count ((x : Nat) : Int)))) (fun i _ => n - (intOf i).toNat)
            case atStart => exact ⟨0, Nat.zero_le _, rfl, HS3⟩
            case round =>
              clear HS3
              obtain ⟨x, hx, rfl, HD⟩ := hrel
              have hn64 : ((n : Nat) : Int) ≤ 64 := by have := HN.out.2.1; omega
              by_cases hlt : x < n
              · have hp := List.getElem?_eq_getElem (l := P) (i := x) (by rw [HD.out.len]; exact hlt)
                have hst := Lib.hid (tkState_yes HD.out.K.K hp)
                have hcn := HD.out.once hp
                have ci := HD.out.tab.cell x (by omega)
                rw [hcn] at ci
                generalize (P[x]'(by rw [HD.out.len]; exact hlt)).s = s at *
                have hxI : ((x : Nat) : Int) < ((n : Nat) : Int) := by omega
                have hx64 : ((x : Nat) : Int) < 64 := by omega
                have zl := HD.out.tab.lt
                clear hp hcn
                go_wp2_with (go_at_call 14; fail)
                refine hst.out.mono ?_
                rintro e w2 ⟨rfl, he⟩
                have he := he.symm
                subst he
                by_cases hs : s = 1
                · subst hs
                  rw [if_pos rfl] at ci
                  go_wp2_with fail
                  go_roundw
                  case rel => exact ⟨x + 1, by omega, by go_num, HD⟩
                  case measure => simp [intOf]; omega
                · rw [if_neg hs] at ci
                  have e1 : (s == 1) = false := by simpa using hs
                  have e2 : (s != 1) = true := by simpa using hs
                  go_wp2_with fail
                  go_roundw
                  case rel => exact ⟨x + 1, by omega, by go_num, HD⟩
                  case measure => simp [intOf]; omega
              · obtain rfl : x = n := by omega
                clear hlt hx
                have HST : Hid (∀ cur, cur = Array.replicate 64 (Value.bool false) → HT w (wr.alloc (.cells cur 58)) l P Q g (.slice va j vc) X z wr.heap.size x 0) := Lib.hid fun cur hc => by
                  have hb := below_alloc wr (.cells cur 58)
                  exact ⟨HD.out.K.grown hb, HD.out.row.below hb, HD.out.tab.grown hb, (tabV_new wr _ _ cur hc).congr (fun y => by simp), HD.out.hz, HD.out.K.below.size, HD.out.len, HD.out.g, by rw [HD.out.lf]; simp, HD.out.nodup, HD.out.le⟩
                clear HD
                go_wp2_with fail
                generalize wr.heap.size = y at *
                go_loopw [137] (fun i wr => ∃ (q g : Nat) (P : Ks) (Q : Qu), q ≤ j ∧ i = .int .i64 ((q : Nat) : Int) ∧ Hid (HT w wr l P Q g (.slice va j vc) X z y x q)) (fun i _ => j - (intOf i).toNat)
                case atStart => exact ⟨0, _, _, _, Nat.zero_le _, rfl, Lib.hid (HST.out _ rfl)⟩
                case round =>
                  clear HST
                  obtain ⟨q, g, P, Q, hj, rfl, HD⟩ := hrel
                  by_cases hlt : q < j
                  · have hjX : q < X.length := by rw [← HM.out]; exact hlt
                    obtain ⟨t, Q', rfl, hQ⟩ := HD.out.head hjX
                    obtain ⟨m, hxm, hp, hwo⟩ := stepQ_first HD.out.K.R HD.out.K.K.qa.inc
                    have hmn : m < x := by rw [← HD.out.len]; exact (List.getElem?_eq_some_iff.1 hp).1
                    have hm64 : m < 64 := by have := HN.out.2.1; omega
                    have h1 := HD.out.one hjX hxm
                    have h2 := HD.out.new hjX hxm
                    rw [hxm] at HD hwo
                    have hX : Hid (X[q] = ((m : Nat) : Int) ∧ P[m]? = some ⟨1, t⟩ ∧ wo m ((t, ((m : Nat) : Int)) :: Q') = Q' ∧ Q'.map Prod.snd = X.drop (q + 1) ++ X.take q) := Lib.hid ⟨hxm, hp, hwo, hQ⟩
                    have HD2 := HD
                    have hjI : ((q : Nat) : Int) < ((j : Nat) : Int) := by omega
                    have hm0 : decide (((m : Nat) : Int) < 0) = false := decide_eq_false (by omega)
                    have hm1 : decide (((x : Nat) : Int) ≤ ((m : Nat) : Int)) = false := decide_eq_false (by omega)
                    have hm2 : ((m : Nat) : Int) < 64 := by omega
                    have hm4 : decide (x ≤ m) = false := decide_eq_false (by omega)
                    have hm5 : ¬ x ≤ m := by omega
                    have hm3 : (0 : Int) ≤ ((m : Nat) : Int) := by omega
                    clear hxm hp hwo hQ hmn
                    go_wp2_with (go_at_call 15; fail)
                    refine (tkNext_yes HD.out.K.K).mono ?_
                    rintro e w2 ⟨rfl, hg⟩
                    have HD2 := Lib.hid (HD.out.grown hg.below)
                    have ci := HD2.out.tab.cell m hm64
                    have cf := HD2.out.fst.cell m hm64
                    rw [h1] at ci
                    rw [decide_eq_false h2] at cf
                    clear hg HD h1 h2
                    go_wp2_with (go_at_call 20; fail)
                    refine (tkTurn_yes HD2.out.K.K HD2.out.K.R (by have := HD2.out.g; omega) hX.out.2.1 rfl).mono ?_
                    rintro e w3 ⟨rfl, hd, hf⟩
                    obtain ⟨ht, hT⟩ := HD2.out.turn hjX hX.out.1 hm64 hX.out.2.1 hX.out.2.2.1 hX.out.2.2.2 hd hf
                    have ff := ht.free m
                    have fl := ht.lt
                    have cf := ht.cell m hm64
                    have HT2 := Lib.hid hT
                    clear hd hf HD2 ci hX ht hT hjX
                    go_wp2_with fail
                    go_roundw
                    case rel => exact ⟨q + 1, _, _, _, by omega, by go_num, HT2⟩
                    case measure => simp [intOf]; omega
                  · obtain rfl : q = j := by omega
                    have hlf : Q.map Prod.snd = X := by
                      have := HD.out.lf
                      rw [HM.out, List.drop_length, List.take_length, List.nil_append] at this
                      exact this
                    have HL := Lib.hid hlf
                    have HG : Hid (g ≤ 1000) := Lib.hid (by have := HD.out.g; omega)
                    clear hlf hlt hj
                    go_wp2_with (go_at_call 13; fail)
                    refine (tkReady_yes HD.out.K.K (by have := HG.out; omega)).mono ?_
                    rintro e w2 ⟨u, rfl, hr, hb⟩
                    rw [HL.out] at hr
                    obtain ⟨ua, un, uc, rfl⟩ := row_form hr
                    have HS3 := Lib.hid (HD.out.grown hb)
                    have HU := Lib.hid (hr.src TI_ok)
                    clear hr hb HD
                    go_wp2_with (go_at_call 23; fail)
                    refine (same_yes HU.out (HS3.out.row.src TI_ok) (by have := HS3.out.le; omega)).mono ?_
                    rintro e w3 ⟨rfl, hg⟩
                    have HS4 := Lib.hid (HS3.out.grown hg.below)
                    clear hg HU HS3
                    go_wp2_with (go_at_call 8; fail)
                    refine (known_any _ HS4.out.K.K.mv).mono ?_
                    rintro e w4 ⟨rfl, hb⟩
                    go_wp2_with fail
                    go_ret
                    exact ⟨rfl, HS4.out.K.below.trans (hb.mono HS4.out.K.below.size)⟩
end Go.Proofs.YtifdpdghjfcaaaaDoor
