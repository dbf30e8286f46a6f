/- The walk of TaskRounds. -/
import Derived.Test.YtifdpdghjfcaaaaDoorFRow
import Derived.LoopTactic
import Derived.Deep.LoopGhost
namespace Go.Proofs.YtifdpdghjfcaaaaDoor
open Go.RowKit Go.Sort
set_option linter.unusedVariables false
set_option linter.unusedSimpArgs false

/-- Between two rounds of the first loop, and of the third one. -/
structure RS (w wr : World) (l : Tl) (P : Ks) (Q : Qu) (g : Nat) (v : Value) (n N G : Nat) : Prop where
  K : KS w wr l P Q g
  row : Row TI wr w.heap.size v (Q.map Prod.snd)
  cnt : Q.length + cnt2 P = N
  g : g ≤ G
  len : P.length = n
/-- Between two rounds of the second one. -/
structure RS2 (w wr : World) (l : Tl) (P : Ks) (Q : Qu) (g : Nat) (v : Value) (X : List Int) (n j : Nat) : Prop where
  K : KS w wr l P Q g
  row : Row TI wr w.heap.size v X
  left : Q.map Prod.snd = X.drop j
  cnt : Q.length + cnt2 P = X.length
  g : g ≤ 100
  len : P.length = n
section
variable {w wr w' : World} {l : Tl} {P : Ks} {Q : Qu} {g n N G i j : Nat} {v v' : Value} {p : Ck} {X : List Int}
theorem RS.grown (h : RS w wr l P Q g v n N G) (hb : Below wr.heap.size wr w') : RS w w' l P Q g v n N G := ⟨h.K.grown hb, h.row.below hb, h.cnt, h.g, h.len⟩
theorem RS.more (h : RS w wr l P Q g v n N G) : RS w wr l P Q g v n N (G + 1) := ⟨h.K, h.row, h.cnt, by have := h.g; omega, h.len⟩
theorem RS2.grown (h : RS2 w wr l P Q g v X n j) (hb : Below wr.heap.size wr w') : RS2 w w' l P Q g v X n j := ⟨h.K.grown hb, h.row.below hb, h.left, h.cnt, h.g, h.len⟩
/-- A task comes in, its number not yet. -/
theorem RS.came (h : RS w wr l P Q g v n N G) (hp : P[i]? = some p) (h1 : p.s ≠ 1) (hd : KAt w.heap.size w' l (stepP P i 1 g) (stepQ Q i 1 g) (stepG 1 g)) (hf : Fr l.F wr w') :
    KS w w' l (stepP P i 1 g) (Q ++ [(g + 1, ((i : Nat) : Int))]) (g + 1) ∧ Row TI w' w.heap.size v (Q.map Prod.snd) := by
  have hk := h.K.did hp hd hf
  rw [stepQ_in h.K.R hp h1] at hk
  exact ⟨hk, h.K.K.row_keep h.row hf⟩
/-- Its number comes in. -/
theorem RS.done (h : RS w wr l P Q g v n N G) (hp : P[i]? = some p) (hK : KS w w' l (stepP P i 1 g) (Q ++ [(g + 1, ((i : Nat) : Int))]) (g + 1)) (hr : Row TI w' w.heap.size v' (Q.map Prod.snd ++ [((i : Nat) : Int)])) (N' : Nat) (hN : Q.length + 1 + (cnt2 P - if p.s = 2 then 1 else 0) = N') :
    RS w w' l (stepP P i 1 g) (Q ++ [(g + 1, ((i : Nat) : Int))]) (g + 1) v' n N' (G + 1) := by
  refine ⟨hK, by rw [List.map_append]; exact hr, ?_, by have := h.g; omega, by rw [stepP_len]; exact h.len⟩
  rw [cnt2_step hp, if_neg (show ¬ ((1 : Int) = 2) by decide), List.length_append]
  simp only [List.length_cons, List.length_nil]
  omega
/-- The first task is parked. -/
theorem RS2.next {t m : Nat} {x : Int} (h : RS2 w wr l P ((t, x) :: Q) g v X n j) (hp : P[m]? = some ⟨1, t⟩) (hwo : wo m ((t, x) :: Q) = Q) (hd : KAt w.heap.size w' l (stepP P m 2 g) (stepQ ((t, x) :: Q) m 2 g) (stepG 2 g)) (hf : Fr l.F wr w') : RS2 w w' l (stepP P m 2 g) Q g v X n (j + 1) := by
  have hk := h.K.did hp hd hf
  have e1 : stepQ ((t, x) :: Q) m 2 g = Q := by unfold stepQ; rw [hwo, if_neg (show ¬ ((2 : Int) = 1) by decide), List.append_nil]
  have e2 : stepG 2 g = g := by unfold stepG; rw [if_neg (show ¬ ((2 : Int) = 1) by decide)]
  rw [e1, e2] at hk
  refine ⟨hk, h.K.K.row_keep h.row hf, ?_, ?_, h.g, by rw [stepP_len]; exact h.len⟩
  · rw [← List.tail_drop, ← h.left]; rfl
  · have := h.cnt
    rw [cnt2_step hp, if_neg (show ¬ ((1 : Int) = 2) by decide), if_pos rfl]
    simp only [List.length_cons] at this
    omega
theorem RS2.head (h : RS2 w wr l P Q g v X n j) (hj : j < X.length) : ∃ t Q', Q = (t, X[j]) :: Q' := by
  have h1 := h.left
  rw [List.drop_eq_getElem_cons hj] at h1
  cases Q with
  | nil => simp at h1; omega
  | cons e Q' =>
    obtain ⟨t, y⟩ := e
    simp only [List.map_cons, List.cons.injEq] at h1
    exact ⟨t, Q', by rw [h1.1]⟩
theorem RS2.last (h : RS2 w wr l P Q g v X n X.length) : Q = [] := by
  have h1 := h.left
  rw [List.drop_length] at h1
  simpa using h1
end

set_option maxRecDepth 100000 in
set_option maxHeartbeats 12800000 in
theorem taskRounds_walk (c : Int) (sa : Option Addr) (la ca : Nat) (za : List Int) (sb : Option Addr) (lb cb : Nat) (zb : List Int) (w : World) (hc : (Lit.int .i64 c).wf = true) (ha : IsRow .u8 w sa la ca za) (hb : IsRow .u8 w sb lb cb zb) (hmv : MvAt w) :
    Calls Tryd.prog 6 #[.int .i64 c, .slice sa la ca, .slice sb lb cb] w fun e w' => e = .returned (.bool true) ∧ Below w.heap.size w w' := by
  clear hc
  by_cases hbad : c < 1 ∨ 64 < c ∨ 100 < la ∨ 100 < lb
  · have hk := Lib.hid (known_any w hmv)
    clear ha hb hmv
    go_enter Tryd.func6, Tryd.ntmps6
    by_cases h1 : c < 1
    · go_wp2_with (go_at_call 8; refine hk.out.mono ?_; rintro e w1 ⟨rfl, hb⟩)
      go_ret
      exact ⟨rfl, hb⟩
    · have h1' : decide (c < 1) = false := by simp; omega
      by_cases h2 : 64 < c
      · go_wp2_with (go_at_call 8; refine hk.out.mono ?_; rintro e w1 ⟨rfl, hb⟩)
        go_ret
        exact ⟨rfl, hb⟩
      · have h2' : decide (64 < c) = false := by simp; omega
        by_cases h3 : 100 < la
        · have h3' : (100 : Int) < (la : Int) := by omega
          go_wp2_with (go_at_call 8; refine hk.out.mono ?_; rintro e w1 ⟨rfl, hb⟩)
          go_ret
          exact ⟨rfl, hb⟩
        · have h3' : decide ((100 : Int) < (la : Int)) = false := by simp; omega
          have h4' : (100 : Int) < (lb : Int) := by omega
          go_wp2_with (go_at_call 8; refine hk.out.mono ?_; rintro e w1 ⟨rfl, hb⟩)
          go_ret
          exact ⟨rfl, hb⟩
  · obtain ⟨n, rfl⟩ : ∃ n : Nat, c = ((n : Nat) : Int) := ⟨c.toNat, by omega⟩
    have hn : 1 ≤ n ∧ n ≤ 64 ∧ la ≤ 100 ∧ lb ≤ 100 := by omega
    have HN := Lib.hid hn
    have HMV := Lib.hid hmv
    have HA := Lib.hid ha
    have HB := Lib.hid hb
    have g1 : decide (((n : Nat) : Int) < 1) = false := by simp; omega
    have g2 : decide ((64 : Int) < ((n : Nat) : Int)) = false := by simp; omega
    have g3 : decide ((100 : Int) < ((la : Nat) : Int)) = false := by simp; omega
    have g4 : decide ((100 : Int) < ((lb : Nat) : Int)) = false := by simp; omega
    clear hbad hn hmv ha hb
    go_enter Tryd.func6, Tryd.ntmps6
    go_wp2_with (go_at_call 9; fail)
    refine (tkNew_ok w HMV.out n HN.out.1 HN.out.2.1).mono ?_
    rintro e w1 ⟨l, rfl, hT, hb1⟩
    have HS0 : Hid (RS w w1 l (List.replicate n ⟨0, 0⟩) [] 0 (.slice none 0 0) n 0 0) := Lib.hid ⟨ks_new (Below.refl _ _) HMV.out.lt hT hb1, Row.nil _ _, by rw [cnt2_new]; rfl, Nat.le_refl _, by simp⟩
    clear hT hb1 g1 g2 g3 g4
    go_wp2_with fail
    go_loopw [9, 53] (fun o i wr => ∃ (k g N : Nat) (P : Ks) (Q : Qu), k ≤ la ∧ i = .int .i64 ((k : Nat) : Int) ∧ Hid (RS w wr l P Q g o n N k ∧ cnt2 P = 0)) (fun _ i _ => la - (intOf i).toNat)
    case atStart => exact ⟨0, 0, 0, _, [], Nat.zero_le _, rfl, Lib.hid ⟨HS0.out, cnt2_new n⟩⟩
    case round =>
      clear HS0
      obtain ⟨k, g, N, P, Q, hk, rfl, HD⟩ := hrel
      have hn1 : (1 : Int) ≤ ((n : Nat) : Int) := by have := HN.out.1; omega
      have hla : ((la : Nat) : Int) ≤ 100 := by have := HN.out.2.2.1; omega
      by_cases hlt : k < la
      · obtain ⟨ab, off, rfl, hbl, hcs⟩ := row_u8 HA.out (by omega)
        obtain ⟨x, hx, cx⟩ := hcs k hlt
        have cx : wr.cell? ⟨ab, off + k, none⟩ = some (.int .u8 ((x : Nat) : Int)) := (HD.out.1.K.below.cell (p := ⟨ab, off + k, none⟩) hbl).trans cx
        have hin : x % n < n := Nat.mod_lt _ HN.out.1
        clear hcs
        go_wp2_with (go_at_call 16; fail)
        have hi := (Int.natCast_emod x n).symm
        rw [hi]
        clear hi
        generalize x % n = i at *
        obtain ⟨p, hp⟩ : ∃ p, P[i]? = some p := ⟨_, List.getElem?_eq_getElem (by rw [HD.out.1.len]; exact hin)⟩
        by_cases hs : p.s = 0
        · refine (tkStart_yes HD.out.1.K.K HD.out.1.K.R (by have := HD.out.1.g; have := HN.out.2.2.1; omega) hp hs).mono ?_
          rintro e w2 ⟨rfl, hd, hf⟩
          obtain ⟨hK2, hr2⟩ := HD.out.1.came hp (by rw [hs]; decide) hd hf
          have hba := below_alloc w2 (.cells #[.int .i64 ((i : Nat) : Int)] 3)
          have HK2 := Lib.hid (hK2.grown hba)
          have HR2 := Lib.hid (hr2.below hba)
          have HP := Lib.hid (And.intro hp hs)
          clear hd hf hK2 hr2 hp hs
          go_wp2_with (at_builtin; refine wpList_append_g TI_ok rfl (.tmp 65) (.tmp 67) rfl rfl rfl HR2.out HK2.out.below.size (src_new TI_ok w2 ((i : Nat) : Int) #[.int .i64 ((i : Nat) : Int)] rfl) (by have := HD.out.1.K.K.ql; have := HD.out.1.g; have := HN.out.2.2.1; simp; omega) ?_)
          intro v' w3 ho hf3 hnr
          have HD3 : Hid (RS w w3 l (stepP P i 1 g) (Q ++ [(g + 1, ((i : Nat) : Int))]) (g + 1) v' n (Q.length + 1) (k + 1) ∧ cnt2 (stepP P i 1 g) = 0) := Lib.hid (by
            refine ⟨HD.out.1.done HP.out.1 (HK2.out.row HR2.out hf3) ho _ ?_, ?_⟩
            · rw [HD.out.2]; split <;> rfl
            · rw [cnt2_step HP.out.1, HD.out.2, if_neg (show ¬ ((1 : Int) = 2) by decide)]; split <;> rfl)
          clear ho hf3 hnr HK2 HR2 HD
          go_wp2_with fail
          go_roundw
          case rel => exact ⟨k + 1, _, _, _, _, by omega, by go_num, HD3⟩
          case measure => simp [intOf]; omega
        · refine (tkStart_state HD.out.1.K.K hp (fun h => hs h.symm)).mono ?_
          rintro e w2 ⟨rfl, hg⟩
          have HD2 := Lib.hid (And.intro (HD.out.1.grown hg.below).more HD.out.2)
          clear hg hp hs HD
          go_wp2_with fail
          go_roundw
          case rel => exact ⟨k + 1, _, _, _, _, by omega, by go_num, HD2⟩
          case measure => simp [intOf]; omega
      · obtain rfl : k = la := by omega
        clear HA
        obtain ⟨X, hX⟩ : ∃ X, X = Q.map Prod.snd := ⟨_, rfl⟩
        obtain ⟨va, vc, hv, hvl, -⟩ := HD.out.1.row.form
        obtain ⟨M, hM⟩ : ∃ M, M = X.length := ⟨_, rfl⟩
        rw [← hX, ← hM] at hv
        subst hv
        have hMQ : M = Q.length := by rw [hM, hX, List.length_map]
        have HM := Lib.hid hM
        have HX := Lib.hid hX
        have HML : Hid (M ≤ 100 ∧ g ≤ 100) := Lib.hid (by have := HD.out.1.K.K.ql; have := HD.out.1.g; have := HN.out.2.2.1; omega)
        have HS2 : Hid (RS2 w wr l P Q g (.slice va M vc) X n 0) := Lib.hid ⟨HD.out.1.K, by rw [HX.out]; exact HD.out.1.row, by rw [HX.out]; rfl, by rw [HD.out.2, ← HM.out, hMQ]; rfl, HML.out.2, HD.out.1.len⟩
        have hMI : ((M : Nat) : Int) ≤ 100 := by have := HML.out; omega
        clear hX hM hvl hMQ HD
        go_wp2_with (go_at_call 13; fail)
        refine (tkReady_yes HS2.out.K.K (by have := HML.out; omega)).mono ?_
        rintro e w2 ⟨u, rfl, hr, hb⟩
        rw [← HX.out] at hr
        obtain ⟨ua, un, uc, rfl⟩ := row_form hr
        have HS3 := Lib.hid (HS2.out.grown hb)
        have HU := Lib.hid (hr.src TI_ok)
        clear hr hb HS2 HX
        go_wp2_with (go_at_call 23; fail)
        refine (same_yes HU.out (HS3.out.row.src TI_ok) (by have := HML.out; have := HM.out; omega)).mono ?_
        rintro e w3 ⟨rfl, hg⟩
        have HS4 := Lib.hid (HS3.out.grown hg.below)
        clear hg HU HS3
        go_wp2_with fail
        go_loopw [77] (fun i wr => ∃ (j g : Nat) (P : Ks) (Q : Qu), j ≤ M ∧ i = .int .i64 ((j : Nat) : Int) ∧ Hid (RS2 w wr l P Q g (.slice va M vc) X n j)) (fun i _ => M - (intOf i).toNat)
        case atStart => exact ⟨0, _, _, _, Nat.zero_le _, rfl, HS4⟩
        case round =>
          clear HS4 HML
          obtain ⟨j, g, P, Q, hj, rfl, HD⟩ := hrel
          by_cases hlt : j < M
          · have hjX : j < X.length := by rw [← HM.out]; exact hlt
            obtain ⟨t, Q', rfl⟩ := HD.out.head hjX
            obtain ⟨m, hxm, hp, hwo⟩ := stepQ_first HD.out.K.R HD.out.K.K.qa.inc
            obtain ⟨ab, ac, hv, _, hal, _, hcell⟩ := HD.out.row.at TI_ok (List.getElem?_eq_getElem hjX)
            have cx := hcell 0 _ rfl
            simp only [Value.slice.injEq] at hv
            obtain ⟨rfl, -, rfl⟩ := hv
            rw [hxm] at cx HD hwo
            have cx : wr.cell? ⟨ab, j, none⟩ = some (.int .i64 ((m : Nat) : Int)) := by simpa [TI] using cx
            have hjI : ((j : Nat) : Int) < ((M : Nat) : Int) := by omega
            have HP := Lib.hid (And.intro hp hwo)
            clear hjX hxm hp hwo hcell
            go_wp2_with (go_at_call 15; fail)
            refine (tkNext_yes HD.out.K.K).mono ?_
            rintro e w2 ⟨rfl, hg⟩
            have HD2 := Lib.hid (HD.out.grown hg.below)
            clear hg HD cx
            go_wp2_with (go_at_call 17; fail)
            refine (tkPark_yes HD2.out.K.K HD2.out.K.R (by have := HD2.out.g; omega) HP.out.1 rfl).mono ?_
            rintro e w3 ⟨rfl, hd, hf⟩
            have HD3 := Lib.hid (HD2.out.next HP.out.1 HP.out.2 hd hf)
            clear hd hf HD2 HP
            go_wp2_with fail
            go_roundw
            case rel => exact ⟨j + 1, _, _, _, by omega, by go_num, HD3⟩
            case measure => simp [intOf]; omega
          · have hjM : j = M := by omega
            have hQ : Q = [] := RS2.last (by rw [← HM.out, ← hjM]; exact HD.out)
            subst hQ
            have HS : Hid (RS w wr l P [] g (.slice none 0 0) n M (100 + 0)) := Lib.hid ⟨HD.out.K, Row.nil _ _, by rw [HM.out]; exact HD.out.cnt, HD.out.g, HD.out.len⟩
            clear HD hlt hj HM
            go_wp2_with (go_at_call 15; fail)
            refine (tkNext_empty HS.out.K.K).mono ?_
            rintro e w2 ⟨rfl, he⟩
            have he := he.symm
            subst he
            go_wp2_with (go_at_call 13; fail)
            refine (tkReady_yes HS.out.K.K (by have := HS.out.g; omega)).mono ?_
            rintro e w2 ⟨u, rfl, hr, hb⟩
            obtain ⟨ua, uc, hv, -, -⟩ := hr.form
            simp only [List.map_nil, List.length_nil] at hv
            subst hv
            have HS2 := Lib.hid (HS.out.grown hb)
            clear hr hb HS
            go_wp2_with fail
            go_loopw [19, 115] (fun o i wr => ∃ (k g : Nat) (P : Ks) (Q : Qu), k ≤ lb ∧ i = .int .i64 ((k : Nat) : Int) ∧ Hid (RS w wr l P Q g o n M (100 + k))) (fun _ i _ => lb - (intOf i).toNat)
            case atStart => exact ⟨0, _, _, _, Nat.zero_le _, rfl, HS2⟩
            case round =>
              clear HS2
              obtain ⟨k, g, P, Q, hk, rfl, HD⟩ := hrel
              have hlb : ((lb : Nat) : Int) ≤ 100 := by have := HN.out.2.2.2; omega
              by_cases hlt : k < lb
              · obtain ⟨ab, off, rfl, hbl, hcs⟩ := row_u8 HB.out (by omega)
                obtain ⟨x, hx, cx⟩ := hcs k hlt
                have cx : wr.cell? ⟨ab, off + k, none⟩ = some (.int .u8 ((x : Nat) : Int)) := (HD.out.K.below.cell (p := ⟨ab, off + k, none⟩) hbl).trans cx
                have hin : x % n < n := Nat.mod_lt _ HN.out.1
                clear hcs
                go_wp2_with (go_at_call 18; fail)
                have hi := (Int.natCast_emod x n).symm
                rw [hi]
                clear hi
                generalize x % n = i at *
                obtain ⟨p, hp⟩ : ∃ p, P[i]? = some p := ⟨_, List.getElem?_eq_getElem (by rw [HD.out.len]; exact hin)⟩
                by_cases hs : p.s = 2
                · refine (tkWake_yes HD.out.K.K HD.out.K.R (by have := HD.out.g; have := HN.out.2.2.2; omega) hp hs).mono ?_
                  rintro e w2 ⟨rfl, hd, hf⟩
                  obtain ⟨hK2, hr2⟩ := HD.out.came hp (by rw [hs]; decide) hd hf
                  have hba := below_alloc w2 (.cells #[.int .i64 ((i : Nat) : Int)] 3)
                  have HK2 := Lib.hid (hK2.grown hba)
                  have HR2 := Lib.hid (hr2.below hba)
                  have HP := Lib.hid (And.intro hp hs)
                  clear hd hf hK2 hr2 hp hs
                  go_wp2_with (at_builtin; refine wpList_append_g TI_ok rfl (.tmp 127) (.tmp 129) rfl rfl rfl HR2.out HK2.out.below.size (src_new TI_ok w2 ((i : Nat) : Int) #[.int .i64 ((i : Nat) : Int)] rfl) (by have := HD.out.K.K.ql; have := HD.out.g; have := HN.out.2.2.2; simp; omega) ?_)
                  intro v' w3 ho hf3 hnr
                  have HD3 : Hid (RS w w3 l (stepP P i 1 g) (Q ++ [(g + 1, ((i : Nat) : Int))]) (g + 1) v' n M (100 + (k + 1))) := Lib.hid (HD.out.done HP.out.1 (HK2.out.row HR2.out hf3) ho _ (by
                    have := cnt2_pos HP.out.1 HP.out.2
                    have := HD.out.cnt
                    rw [if_pos HP.out.2]
                    omega))
                  clear ho hf3 hnr HK2 HR2 HD
                  go_wp2_with fail
                  go_roundw
                  case rel => exact ⟨k + 1, _, _, _, by omega, by go_num, HD3⟩
                  case measure => simp [intOf]; omega
                · refine (tkWake_state HD.out.K.K hp (fun h => hs h.symm)).mono ?_
                  rintro e w2 ⟨rfl, hg⟩
                  have HD2 := Lib.hid ((HD.out.grown hg.below).more)
                  clear hg hp hs HD
                  go_wp2_with fail
                  go_roundw
                  case rel => exact ⟨k + 1, _, _, _, by omega, by go_num, HD2⟩
                  case measure => simp [intOf]; omega
              · obtain rfl : k = lb := by omega
                clear HB
                obtain ⟨wa, wc, hv, hvl, -⟩ := HD.out.row.form
                obtain ⟨T, hT⟩ : ∃ T, T = (Q.map Prod.snd).length := ⟨_, rfl⟩
                rw [← hT] at hv
                subst hv
                have hTM : ((T : Nat) : Int) ≤ ((M : Nat) : Int) := by have := HD.out.cnt; rw [List.length_map] at hT; omega
                have HT := Lib.hid hT
                clear hT hvl
                go_wp2_with (go_at_call 13; fail)
                refine (tkReady_yes HD.out.K.K (by have := HD.out.g; have := HN.out.2.2.2; omega)).mono ?_
                rintro e w2 ⟨u, rfl, hr, hb⟩
                obtain ⟨ua, un, uc, rfl⟩ := row_form hr
                have HS3 := Lib.hid (HD.out.grown hb)
                have HU := Lib.hid (hr.src TI_ok)
                clear hr hb HD
                go_wp2_with (go_at_call 23; fail)
                refine (same_yes HU.out (HS3.out.row.src TI_ok) (by have := HT.out; omega)).mono ?_
                rintro e w3 ⟨rfl, hg⟩
                have HS4 := Lib.hid (HS3.out.grown hg.below)
                clear hg HU HS3
                go_wp2_with (go_at_call 8; fail)
                refine (known_any _ HS4.out.K.K.mv).mono ?_
                rintro e w4 ⟨rfl, hb⟩
                go_wp2_with fail
                go_ret
                exact ⟨rfl, HS4.out.K.below.trans (hb.mono HS4.out.K.below.size)⟩
end Go.Proofs.YtifdpdghjfcaaaaDoor
