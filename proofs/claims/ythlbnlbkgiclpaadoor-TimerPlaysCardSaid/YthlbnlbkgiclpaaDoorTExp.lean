/- Expire of timers. -/
import Derived.Test.YthlbnlbkgiclpaaDoorTStop
import Derived.Deep.LoopGhost
namespace Go.Proofs.YthlbnlbkgiclpaaDoor
open Go.RowKit Go.Sort
set_option linter.unusedVariables false
set_option linter.unusedSimpArgs false

variable {w0 w : World} {G : Nat → Prop} {a bb hp : Nat} {vg : Value} {S : List El} {gs : List Nat} {P : Nat}

/-- Blocks of the law's own are written, and new ones become the law's own. -/
theorem HeapIn.grab {w' : World} {G' : Nat → Prop} {F : List Nat} (H : HeapIn w0 G w a S P) (hf : Fr F w w') (hF : ∀ k, k ∈ F → G k ∧ w0.heap.size ≤ k) (hG : ∀ k, G' k → G k ∨ (w.heap.size ≤ k ∧ k < w'.heap.size)) : HeapIn w0 G' w' a S P := by
  obtain ⟨h, ha, HA, h1, h2⟩ := H.ex
  refine ⟨⟨h, ha, HA.frame hf (fun k hk hm => h2 k hk (hF k hm).1), h1, fun k hk hg => ?_⟩, fun k hk => ?_, H.below.trans (hf.below (fun x hx => (hF x hx).2) H.below.size)⟩
  · rcases hG k hg with h' | h'
    · exact h2 k hk h'
    · have := HA.lt_foot k hk; omega
  · rcases hG k hk with h' | h'
    · exact Nat.lt_of_lt_of_le (H.lt k h') hf.size
    · exact h'.2
theorem TmB.grab {w' : World} {G' : Nat → Prop} {F : List Nat} (T : TmB w0 G w a bb hp vg S gs P) (hf : Fr F w w') (hF : ∀ k, k ∈ F → G k ∧ w0.heap.size ≤ k) (hG : ∀ k, G' k → G k ∨ (w.heap.size ≤ k ∧ k < w'.heap.size)) : TmB w0 G' w' a bb hp vg S gs P := by
  refine ⟨T.H.grab hf (fun k hk => ⟨.inl (hF k hk).1, (hF k hk).2⟩) (fun k hk => ?_), hf.same T.ta (fun h => T.na (hF _ h).1), hf.same T.tb (fun h => T.nb (hF _ h).1), hf.row T.tg (fun g hg h => T.ng g hg (hF _ h).1), fun h => ?_, fun h => ?_, fun g hg h => ?_, T.ba, T.bb0, T.gl⟩
  · rcases hk with h | h | h | h
    · rcases hG k h with h' | h'
      · exact .inl (.inl h')
      · exact .inr h'
    · exact .inl (.inr (.inl h))
    · exact .inl (.inr (.inr (.inl h)))
    · exact .inl (.inr (.inr (.inr h)))
  · rcases hG _ h with h' | h'
    · exact T.na h'
    · have := T.alt; omega
  · rcases hG _ h with h' | h'
    · exact T.nb h'
    · have := T.blt; omega
  · rcases hG _ h with h' | h'
    · exact T.ng g hg h'
    · have := (T.tg.lt g hg).2; omega
theorem TmIn.grab {w' : World} {G' : Nat → Prop} {F : List Nat} (T : TmIn w0 G w a S gs P) (hf : Fr F w w') (hF : ∀ k, k ∈ F → G k ∧ w0.heap.size ≤ k) (hG : ∀ k, G' k → G k ∨ (w.heap.size ≤ k ∧ k < w'.heap.size)) : TmIn w0 G' w' a S gs P := by
  obtain ⟨_, _, _, B⟩ := T.ex
  exact ⟨⟨_, _, _, B.grab hf hF hG⟩, T.p⟩

/-- A slice of timers that have expired. -/
def cellsD : List Du → List Value
  | [] => []
  | d :: D => .int .i64 d.n :: .int .i64 d.g :: .int .i64 d.o :: .int .u64 d.k :: cellsD D
theorem cellsD_append : ∀ (S T : List Du), cellsD (S ++ T) = cellsD S ++ cellsD T
  | [], T => rfl
  | e :: S, T => by show _ :: _ :: _ :: _ :: cellsD (S ++ T) = _; rw [cellsD_append S T]; rfl
theorem cellsD_len : ∀ S : List Du, (cellsD S).length = S.length * 4
  | [] => rfl
  | e :: S => by show (cellsD S).length + 1 + 1 + 1 + 1 = _; rw [cellsD_len S, List.length_cons]; omega
theorem cellsD_one : ∀ (S : List Du), ∀ u ∈ cellsD S, u.oneCell' = true
  | [], u, h => by simp [cellsD] at h
  | e :: S, u, h => by
    simp only [cellsD, List.mem_cons] at h
    rcases h with rfl | rfl | rfl | rfl | h
    · rfl
    · rfl
    · rfl
    · rfl
    · exact cellsD_one S u h
theorem cellsD_get : ∀ (S : List Du) (j : Nat) (e : Du), S[j]? = some e → (cellsD S)[j * 4]? = some (.int .i64 e.n) ∧ (cellsD S)[j * 4 + 1]? = some (.int .i64 e.g) ∧ (cellsD S)[j * 4 + 2]? = some (.int .i64 e.o) ∧ (cellsD S)[j * 4 + 3]? = some (.int .u64 e.k)
  | [], j, e, h => by simp at h
  | x :: S, 0, e, h => by simp at h; subst h; exact ⟨rfl, rfl, rfl, rfl⟩
  | x :: S, j + 1, e, h => by
    have := cellsD_get S j e (by simpa using h)
    rw [show (j + 1) * 4 = j * 4 + 1 + 1 + 1 + 1 by omega]
    simpa [cellsD] using this

def RowD (w : World) (base : Nat) (s : Value) (D : List Du) : Prop := w.ownsRow base 108 4 s D.length (cellsD D)
theorem RowD.cells {w : World} {base n cap g : Nat} {D : List Du} (h : RowD w base (.slice (some ⟨g, 0, none⟩) n cap) D) (j : Nat) (e : Du) (hj : D[j]? = some e) :
    w.cell? ⟨g, j * 4, none⟩ = some (.int .i64 e.n) ∧ w.cell? ⟨g, j * 4 + 1, none⟩ = some (.int .i64 e.g) ∧ w.cell? ⟨g, j * 4 + 2, none⟩ = some (.int .i64 e.o) ∧ w.cell? ⟨g, j * 4 + 3, none⟩ = some (.int .u64 e.k) := by
  have hn : n = D.length := by
    rcases h.2 with ⟨h', _⟩ | ⟨_, _, _, h', _⟩
    · simp at h'
    · simp at h'; exact h'.2.1
  subst hn
  have hr := row_cells h
  obtain ⟨h0, h1, h2, h3⟩ := cellsD_get D j e hj
  have a0 := hr _ _ h0
  have a1 := hr _ _ h1
  have a2 := hr _ _ h2
  have a3 := hr _ _ h3
  rw [Go.WideShapes.add_plain, Nat.zero_add] at a0 a1 a2 a3
  exact ⟨a0, a1, a2, a3⟩
theorem RowD.below {w w' : World} {base : Nat} {s : Value} {D : List Du} (h : RowD w base s D) (hb : Below w.heap.size w w') : RowD w' base s D := (Fr.of_below hb []).row h (fun _ _ => by simp)
theorem RowD.keep {w w' : World} {base : Nat} {s : Value} {D : List Du} (h : RowD w base s D) (hk : ∀ g, s.ownBlock = some g → w'.heap[g]? = w.heap[g]?) : RowD w' base s D := by
  refine ⟨h.1, ?_⟩
  rcases h.2 with h' | ⟨g, cap, cur, rfl, hb, hg, r⟩
  · exact .inl h'
  · exact .inr ⟨g, cap, cur, rfl, hb, (hk g rfl).trans hg, r⟩
theorem RowD.mono {w : World} {base base' : Nat} {s : Value} {D : List Du} (h : RowD w base s D) (hb : base' ≤ base) : RowD w base' s D := ownsRow_mono h hb
theorem infoDue : (Tryd.prog.info? 108).map (fun i => (i.zero, i.size, i.bytes)) = some (some (.agg #[.int .i64 0, .int .i64 0, .int .i64 0, .int .u64 0]), 4, 32) := by kernel_rfl

set_option maxHeartbeats 400000 in
theorem passed_yes (k now : Int) (h : k ≤ now) (hn : now ≠ never) (w : World) : Calls Tryd.prog 74 #[.int .u64 k, .int .u64 now] w fun e w' => e = .returned (.bool true) ∧ w = w' := by
  have q : (now != 18446744073709551615) = true := by simpa [never] using hn
  clear hn
  go_enter Tryd.func74, Tryd.ntmps74
  go_wp2_with fail
  go_ret
  exact ⟨rfl, rfl⟩
set_option maxHeartbeats 400000 in
theorem passed_no (k now : Int) (h : ¬ (k ≤ now ∧ now ≠ never)) (w : World) : Calls Tryd.prog 74 #[.int .u64 k, .int .u64 now] w fun e w' => e = .returned (.bool false) ∧ w = w' := by
  by_cases hn : now = never
  · have q : (now != 18446744073709551615) = false := by simp [hn, never]
    clear hn h
    go_enter Tryd.func74, Tryd.ntmps74
    go_wp2_with fail
    go_ret
    exact ⟨rfl, rfl⟩
  · have q : (now != 18446744073709551615) = true := by simpa [never] using hn
    have q2 : now < k := by by_cases hk : k ≤ now; exact absurd ⟨hk, hn⟩ h; omega
    have q3 : decide (k ≤ now) = false := by simp; omega
    clear hn h
    go_enter Tryd.func74, Tryd.ntmps74
    go_wp2_with fail
    go_ret
    exact ⟨rfl, rfl⟩

/-- The law's own blocks, and a slice's. -/
def GV (G : Nat → Prop) (v : Value) : Nat → Prop := fun k => G k ∨ v.ownBlock = some k

/-- Between two rounds of Expire. -/
structure ExpR (w0 : World) (G : Nat → Prop) (w : World) (a : Nat) (S : List El) (gs : List Nat) (P : Nat) (now : Int) (wr : World) (v : Value) (S1 : List El) (gs1 : List Nat) (D1 : List Du) : Prop where
  T : TmIn w0 (GV G v) wr a S1 gs1 P
  row : RowD wr w.heap.size v D1
  out : D1 ++ (expS now S1 gs1).1 = (expS now S gs).1
  rest : (expS now S1 gs1).2 = (expS now S gs).2
  keep : Keep G w wr
  sz : w.heap.size ≤ wr.heap.size
  nil : D1 = [] → v = .slice none 0 0

set_option maxRecDepth 100000 in
set_option maxHeartbeats 3200000 in
theorem texpire_any (T : TmIn w0 G w a S gs P) (now : Int) (hn : now ≠ never) (hP : P ≤ 9223372036854775807) :
    Calls Tryd.prog 46 #[pt a, .int .u64 now] w fun e w' => ∃ v, e = .returned v ∧ RowD w' w.heap.size v (expS now S gs).1 ∧ TmIn w0 (GV G v) w' a (expS now S gs).2.1 (expS now S gs).2.2 P ∧ Keep G w w' ∧ ((expS now S gs).1 = [] → v = .slice none 0 0) ∧ w.heap.size ≤ w'.heap.size := by
  have hS0 := T.len_le
  have hb0 := T.below.size
  have hlen := (expS_len S.length now S gs rfl).1
  have hGw := Lib.hid T.glt
  have hst : ExpR w0 G w a S gs P now w (.slice none 0 0) S gs [] := ⟨T.less (fun k hk => by
    rcases hk with h | h
    · exact h
    · simp [Value.ownBlock] at h), World.ownsRow_nil _ _ _ _, rfl, rfl, Keep.refl _ _, Nat.le_refl _, fun _ => rfl⟩
  have HST := Lib.hid hst
  clear hst T
  obtain ⟨i0, hi0, hz0, hz1, hz2⟩ := info_parts infoDue
  unfold pt
  go_enter Tryd.func46, Tryd.ntmps46
  go_wp2_with fail
  go_loopg [5] S.length (fun m v wr => ∃ S1 gs1 D1, S1.length = m ∧ ExpR w0 G w a S gs P now wr v S1 gs1 D1)
  case atStart => exact ⟨S, gs, [], rfl, HST.out⟩
  case round =>
    clear HST
    obtain ⟨S1, gs1, D1, rfl, R⟩ := hrel
    cases hf : fstE S1 with
    | none =>
      obtain rfl := fstE_none hf
      have h1 := Lib.hid (tfirst_none R.T)
      have HR := Lib.hid R
      clear R hf
      unfold pt noDue at h1
      go_wp2_with (go_at_call 55; fail)
      refine h1.out.mono ?_
      rintro e w2 ⟨rfl, hg2⟩
      have hb2 := hg2.below
      have hfin : Hid (TmIn w0 (GV G u5) w2 a [] gs1 P ∧ RowD w2 w.heap.size u5 D1 ∧ Keep G w w2) := Lib.hid ⟨HR.out.T.grown hb2, HR.out.row.below hb2, HR.out.keep.trans (fun k hk => hb2.block k (HR.out.T.glt k (.inl hk)))⟩
      have ho := HR.out.out
      have hre := HR.out.rest
      have hni := Lib.hid HR.out.nil
      have hsz := Lib.hid (Nat.le_trans HR.out.sz hb2.size)
      rw [expS_none fstE_nil] at ho hre
      simp only [List.append_nil] at ho
      have Ho := Lib.hid ho
      have Hre := Lib.hid hre
      have hal := Lib.hid (fun o => (Below.refl w2.heap.size w2).alloc (Nat.le_refl _) o)
      clear ho hre hb2 hg2 HR
      go_wp2_with fail
      go_ret
      obtain ⟨t1, t2, t3⟩ := hfin.out
      rw [← Hre.out, ← Ho.out]
      exact ⟨_, rfl, t2.below (hal.out _), t1.grown (hal.out _), t3.trans (fun k hk => (hal.out _).block k (t1.glt k (.inl hk))), hni.out, Nat.le_trans hsz.out (hal.out _).size⟩
    | some e =>
      have hm := fstE_mem hf
      have h1 := Lib.hid (tfirst_some R.T e hf)
      have HR := Lib.hid R
      clear R
      unfold pt dueV dueOf at h1
      by_cases hk : e.k ≤ now
      · have hdue := expS_due (gs := gs1) hf hk
        have hlt := remove_lt hm
        have hx : Hid (e.h ∈ hsOf S1) := Lib.hid (List.mem_map_of_mem hm)
        have hps := Lib.hid (fun w => passed_yes e.k now hk hn w)
        have hd : Hid (dueOf gs1 e = ⟨e.h, gs1.getD e.h 0, e.v, e.k⟩) := rfl
        have Hdue := Lib.hid hdue
        have Hlt := Lib.hid hlt
        clear hdue hlt hk hf hm
        obtain ⟨eh, ev, ek⟩ := e
        simp only at h1 hx hps hd
        generalize gs1.getD eh 0 = z at *
        go_wp2_with (go_at_call 55; fail)
        refine h1.out.mono ?_
        rintro e w2 ⟨rfl, hg2⟩
        have hb2 := hg2.below
        obtain ⟨va, vc, rfl⟩ := slice_form HR.out.row
        obtain ⟨O, hO⟩ : ∃ O : Obj, O = .cells #[.int .i64 eh, .int .i64 z, .int .i64 ev, .int .u64 ek] 108 := ⟨_, rfl⟩
        have hbA : Below wr.heap.size wr (w2.alloc O) := hb2.alloc hb2.size _
        have T2 : TmIn w0 (GR (GV G (.slice va D1.length vc)) w2.heap.size) (w2.alloc O) a S1 gs1 P := HR.out.T.more hbA (fun k hk => by
          rcases hk with h | h
          · exact .inl h
          · subst h; exact .inr ⟨hb2.size, by simp⟩)
        have row2 := HR.out.row.below hbA
        have keep2 : Keep G w (w2.alloc O) := HR.out.keep.trans (fun k hk => hbA.block k (HR.out.T.glt k (.inl hk)))
        have r0 : (w2.alloc O).heap[w2.heap.size]? = some O := block_new _ _ _ rfl
        obtain ⟨bb, hp, vg, B2⟩ := T2.ex
        have ca := B2.ca
        have hrem := Lib.hid (tremove_in (B2.drew 1) T2.p eh hx.out hP)
        have Hp := Lib.hid (T2.p.remove eh hx.out)
        have hw2 : w.heap.size ≤ w2.heap.size := Nat.le_trans HR.out.sz hb2.size
        have hT2 := Lib.hid T2
        have Hrow2 := Lib.hid row2
        have Hkeep2 := Lib.hid keep2
        have Hr0 := Lib.hid r0
        have HbA := Lib.hid hbA
        have HO := Lib.hid hO
        subst hO
        clear T2 B2 row2 keep2 r0 hbA hb2 hg2
        go_wp2_with (go_at_call 74; refine (hps.out _).mono ?_; rintro e w3 ⟨rfl, rfl⟩)
        have rl : w2.heap.size < (w2.alloc (.cells #[.int .i64 eh, .int .i64 z, .int .i64 ev, .int .u64 ek] 108)).heap.size := by simp
        generalize w2.alloc (.cells #[.int .i64 eh, .int .i64 z, .int .i64 ev, .int .u64 ek] 108) = W at *
        generalize w2.heap.size = r at *
        have d0 := cells_cell (o := 0) Hr0.out rfl
        simp only [List.getElem_toArray, List.getElem_cons_zero] at d0
        go_still_tail 7, (by kernel_rfl)
        change wpList _ _ _ _ _ (W.drewN 1)
        go_wp2_with (go_at_call 75; fail)
        refine hrem.out.mono ?_
        rintro e w3 ⟨rfl, B3, K3⟩
        have hB3 := Lib.hid B3
        have hr3 : w3.heap[r]? = some (.cells #[.int .i64 eh, .int .i64 z, .int .i64 ev, .int .u64 ek] 108 (0, 0)) := (K3 r (.inr rfl)).trans Hr0.out
        have hrow3 := Hrow2.out.keep (fun g hg => K3 g (.inl (.inr hg)))
        have hkeep3 : Keep G w w3 := Hkeep2.out.trans (fun k hk => K3 k (.inl (.inl hk)))
        have c0 := cells_cell (o := 0) hr3 rfl
        have c1 := cells_cell (o := 1) hr3 rfl
        have c2 := cells_cell (o := 2) hr3 rfl
        have c3 := cells_cell (o := 3) hr3 rfl
        simp only [List.getElem_toArray, List.getElem_cons_zero, List.getElem_cons_succ] at c0 c1 c2 c3
        have Hrow3 := Lib.hid hrow3
        have Hkeep3 := Lib.hid hkeep3
        have hDl : Hid (D1.length ≤ 1024) := Lib.hid (by
          have := congrArg List.length HR.out.out
          simp only [List.length_append] at this
          omega)
        clear B3 K3 hrow3 hkeep3 ca d0 hr3 rl
        go_wp2_with (at_builtin; refine wpList_append_row _ rfl _ _ 104 rfl 108 i0 (.agg #[.int .i64 0, .int .i64 0, .int .i64 0, .int .u64 0]) 4 32 Tryd.underlying104 hi0 hz0 hz1 hz2 rfl (by decide) w.heap.size (.slice va D1.length vc) D1.length (cellsD D1) rfl (Hrow3.out.alloc _) ?c0 ⟨w3.heap.size, 0, none⟩ 1 1 [.int .i64 eh, .int .i64 z, .int .i64 ev, .int .u64 ek] rfl rfl ?c1 ?c2 (by decide) ?c3 ?c4 ?_)
        case c0 => have := Hrow3.out.lt; have := hB3.out.H.lt r (.inl (.inr rfl)); simp; omega
        case c1 => exact new_cells4 w3 _ _ _ _ _
        case c2 => simp [Value.oneCell']
        case c3 => have := hDl.out; unfold maxLen; omega
        case c4 => have := hDl.out; omega
        intro v' w4 hown hf hnear
        have hba : Below w3.heap.size w3 (w3.alloc (.cells #[.int .i64 eh, .int .i64 z, .int .i64 ev, .int .u64 ek] 108)) := (Below.refl _ _).alloc (Nat.le_refl _) _
        have T3 := (⟨⟨_, _, _, hB3.out⟩, Hp.out⟩ : TmIn w0 _ w3 a (removeS S1 eh) (bump gs1 eh) P).grown hba
        have hFv : ∀ k, k ∈ (Value.slice va D1.length vc).ownBlock.toList → w.heap.size ≤ k := fun k hk => (Hrow3.out.lt k (by simpa using hk)).1
        have T4 : TmIn w0 (GV G v') w4 a (removeS S1 eh) (bump gs1 eh) P := T3.grab hf (fun k hk => ⟨.inl (.inr (by simpa using hk)), Nat.le_trans hb0 (hFv k hk)⟩) (fun k hk => by
          rcases hk with h | h
          · exact .inl (.inl (.inl h))
          · rcases hnear k h with h' | h'
            · exact .inl (.inl (.inr h'))
            · exact .inr ⟨h', (hown.lt k h).2⟩)
        have hkeep4 : Keep G w w4 := Hkeep3.out.trans (fun k hk => (hf.block k (Nat.lt_of_lt_of_le (hB3.out.H.lt k (.inl (.inl (.inl hk)))) hba.size) (fun hm => by have := hFv k hm; have := hGw.out k hk; omega)).trans (hba.block k (hB3.out.H.lt k (.inl (.inl (.inl hk))))))
        have hsz4 : w.heap.size ≤ w4.heap.size := by
          have h1 := hf.size
          have h2 := hba.size
          have h3 := hB3.out.H.lt r (.inl (.inr rfl))
          omega
        have ho := HR.out.out
        have hre := HR.out.rest
        rw [Hdue.out] at ho hre
        simp only at ho hre
        rw [hd.out] at ho
        have hrow4 : RowD w4 w.heap.size v' (D1 ++ [⟨eh, z, ev, ek⟩]) := by
          unfold RowD
          rw [cellsD_append]
          simpa [cellsD] using hown
        have hR4 : Hid (ExpR w0 G w a S gs P now w4 v' (removeS S1 eh) (bump gs1 eh) (D1 ++ [⟨eh, z, ev, ek⟩])) := Lib.hid ⟨T4, hrow4, by rw [← ho]; simp, hre, hkeep4, hsz4, fun h => by simp at h⟩
        clear T3 T4 hown hf hnear hrow4 hkeep4 ho hre hba hB3 HR Hrow3 Hkeep3
        go_wp2_with fail
        go_roundg (removeS S1 eh).length
        case measure => exact Hlt.out
        case rel => exact ⟨_, _, _, rfl, hR4.out⟩
      · have hlate := expS_late (gs := gs1) hf hk
        have hps := Lib.hid (fun w => passed_no e.k now (fun h => hk h.1) w)
        clear hk hf hm
        generalize gs1.getD e.h 0 = z at *
        generalize e.h = eh at *
        generalize e.v = ev at *
        generalize e.k = ek at *
        go_wp2_with (go_at_call 55; fail)
        refine h1.out.mono ?_
        rintro e w2 ⟨rfl, hg2⟩
        have hb2 := hg2.below
        have hfin : Hid (TmIn w0 (GV G u5) w2 a S1 gs1 P ∧ RowD w2 w.heap.size u5 D1 ∧ Keep G w w2) := Lib.hid ⟨HR.out.T.grown hb2, HR.out.row.below hb2, HR.out.keep.trans (fun k hk => hb2.block k (HR.out.T.glt k (.inl hk)))⟩
        have ho := HR.out.out
        have hre := HR.out.rest
        have hni := Lib.hid HR.out.nil
        have hsz := Lib.hid (Nat.le_trans HR.out.sz hb2.size)
        rw [hlate] at ho hre
        simp only [List.append_nil] at ho
        have Ho := Lib.hid ho
        have Hre := Lib.hid hre
        have hal := Lib.hid (fun o => (Below.refl w2.heap.size w2).alloc (Nat.le_refl _) o)
        clear ho hre hb2 hg2 HR hlate
        go_wp2_with (go_at_call 74; refine (hps.out _).mono ?_; rintro e w3 ⟨rfl, rfl⟩)
        go_ret
        obtain ⟨t1, t2, t3⟩ := hfin.out
        rw [← Hre.out, ← Ho.out]
        exact ⟨_, rfl, t2.below (hal.out _), t1.grown (hal.out _), t3.trans (fun k hk => (hal.out _).block k (t1.glt k (.inl hk))), hni.out, Nat.le_trans hsz.out (hal.out _).size⟩
end Go.Proofs.YthlbnlbkgiclpaaDoor
