/- CloseWrite, CloseRead: the closings by a map of method values. -/
import Derived.Test.YteimjkmjofaieaaYCall
import Derived.Test.YteimjkmjofaieaaGMap
namespace Go.Proofs.Yteimjkmjofaieaa
open Go.RowKit Go.Sort Go.MapKept
set_option linter.unusedVariables false
set_option linter.unusedSimpArgs false
set_option maxRecDepth 100000

/-- The map of closings of the body b: from a direction to a method value. -/
def TC (b : Nat) : GM Int Nat := ⟨140, 101, 62, fun k => .int .i64 k, fun f => .func (.func f) #[.pointer (some ⟨b, 0, none⟩)] #[], .nilFunc⟩
theorem now_dir (b : Nat) (k : Int) : ∀ (l : List MapEntry) (M : List (Int × Nat)) (i : Nat), GEnt (TC b) l M → Instr.findNow (.int .i64) (.int .i64 k) l i = some ((gix M k i).map fun p => (p.1, (TC b).v p.2))
  | [], [], i, _ => rfl
  | e :: l, (t, x) :: M, i, h => by
    unfold GEnt at h
    simp only [List.map_cons, List.cons.injEq, Prod.mk.injEq] at h
    obtain ⟨⟨h1, h2⟩, h3⟩ := h
    have h4 : e.key = .int .i64 t := h1
    by_cases hk : t = k
    · subst hk
      simp [Instr.findNow, Instr.sameNow, h4, gix, h2]
    · have h5 : ¬ k = t := fun e => hk e.symm
      have := now_dir b k l M (i + 1) h3
      have h6 : (k == t) = false := by simpa using h5
      simp [Instr.findNow, Instr.sameNow, h4, gix, hk, h6, this]
  | [], _ :: _, _, h => by simp [GEnt] at h
  | _ :: _, [], _, h => by simp [GEnt] at h
theorem TC_ok (b : Nat) : (TC b).Ok := by
  have h1 : Try.prog.underlying 101 = some (.int .i64) := Try.underlying101
  refine ⟨Try.underlying140, fun w k l M h => ?_, fun w e k => ?_, fun k => ?_, fun w => by kernel_rfl⟩
  · show (Instr.findKey 101 (.int .i64 k) l).run Try.prog w = _
    simp [Instr.findKey, run_underlying h1, Result.andThen, now_dir b k l M 0 h]
  · exact MapKept.run_checkKey (n := 9999) (k := .int .i64 k) h1 (show MapKept.IsKey (.int .i64) (.int .i64 k) from rfl) e
  · simp [TC, Instr.sameBits]
theorem wpList_insG {κ ν : Type} [DecidableEq κ] {T : GM κ ν} {w : World} {m n : Nat} {f : κ → Option ν} {ops : Array Oper} {rest : List Oper} {o : Oper} {a : Act} {Q : Exit → Act → World → Prop} (hT : T.Ok) (hg : o.guard = none) (vm vk vx : Operand) (hop : o.op = Op.insert T.tm vm vk vx) (h : MapAt T w m n f) (k : κ) (x : ν) (hm : a.eval vm = .map (some m)) (hk : a.eval vk = T.k k) (hx : a.eval vx = T.v x)
    (hK : ∀ w', MapAt T w' m (if (f k).isSome then n else n + 1) (updG f k (some x)) → Fr [m] w w' → w'.heap.size = w.heap.size → wpList Try.prog ops Q rest (a.put o.dst undef) w') : wpList Try.prog ops Q (o :: rest) a w := by
  refine wpList_plain hg fun K' hK' => ?_
  obtain ⟨w', hrun, r1, r2, r3, _⟩ := h.put hT k x
  unfold Oper.wp
  simp [execOp, hop, hm, hk, hx, hrun, Result.andThen]
  exact hK' _ _ (hK w' r1 r2 r3)
/-- Which method closes an end. -/
def closF (d : Int) : Nat := if d = 1 then 86 else 87
theorem stClosing_any (w : World) (b : Nat) (d : Int) (hd : d = 0 ∨ d = 1) :
    Calls Try.prog 79 #[.pointer (some ⟨b, 0, none⟩), .int .i64 d] w fun e w' => e = .returned (.func (.func (closF d)) #[.pointer (some ⟨b, 0, none⟩)] #[]) ∧ Below w.heap.size w w' := by
  have hm0 := Lib.hid (mapAt_made (TC b) w)
  have HB0 : Hid (Below w.heap.size w (w.alloc (.map #[] 0))) := Lib.hid (below_alloc _ _)
  have HD := Lib.hid hd
  have hmm := @run_makeMap Try.prog
  clear hd
  go_enter Try.func79, Try.ntmps79
  go_wp2_with (refine wpList_insG (TC_ok b) rfl _ _ _ rfl hm0.out (1 : Int) 86 rfl rfl rfl ?_; intro w1 hm1 hf1 hs1; refine Hid.out ?_)
  have HM1 := Lib.hid hm1
  have HF1 := Lib.hid hf1
  clear hm1 hf1 hmm
  refine Lib.hid ?_
  go_wp2_with (refine wpList_insG (TC_ok b) rfl _ _ _ rfl HM1.out (0 : Int) 87 rfl rfl rfl ?_; intro w2 hm2 hf2 hs2; refine Hid.out ?_)
  have hlk := hm2.look_yes (TC_ok b) (k := d) (x := closF d) (by
    unfold closF updG
    rcases HD.out with rfl | rfl <;> simp) false
  have hlk2 : (Instr.lookup 140 (.map (some w.heap.size)) (.int .i64 d) false).run Try.prog w2 = .ok (.func (.func (closF d)) #[.pointer (some ⟨b, 0, none⟩)] #[]) w2 := hlk
  have HB2 : Hid (Below w.heap.size w w2) := Lib.hid ((HB0.out.trans (HF1.out.below (by simp) (by simp))).trans (hf2.below (by simp) (by simp [hs1])))
  obtain ⟨fd, hfd⟩ : ∃ fd, fd = closF d := ⟨_, rfl⟩
  rw [← hfd] at hlk2
  have HFD := Lib.hid hfd
  clear hlk hm2 hf2 hfd
  refine Lib.hid ?_
  go_wp2_with fail
  go_ret
  exact ⟨by rw [← HFD.out]; rfl, HB2.out⟩

theorem stValidEnd_any (w : World) (e : Int) : Calls Try.prog 52 #[.int .i64 e] w fun r w' => r = .returned (.bool (decide (0 ≤ e ∧ e ≤ 1000))) ∧ w' = w := by
  by_cases h0 : 0 ≤ e
  · by_cases h1 : e ≤ 1000
    · have e2 : decide (0 ≤ e ∧ e ≤ 1000) = true := by simp [h0, h1]
      rw [e2]
      have q1 : decide (0 ≤ e) = true := by simp [h0]
      have q2 : decide (e ≤ 1000) = true := by simp [h1]
      clear e2
      go_enter Try.func52, Try.ntmps52
      go_wp2
      go_ret
      exact ⟨rfl, rfl⟩
    · have e2 : decide (0 ≤ e ∧ e ≤ 1000) = false := by simp; omega
      rw [e2]
      have q1 : decide (0 ≤ e) = true := by simp [h0]
      have q2 : decide (e ≤ 1000) = false := by simp; omega
      clear e2 h1
      go_enter Try.func52, Try.ntmps52
      go_wp2
      go_ret
      exact ⟨rfl, rfl⟩
  · have e2 : decide (0 ≤ e ∧ e ≤ 1000) = false := by simp; omega
    rw [e2]
    have q1 : decide (0 ≤ e) = false := by simp; omega
    clear e2 h0
    go_enter Try.func52, Try.ntmps52
    go_wp2
    go_ret
    exact ⟨rfl, rfl⟩
section
variable {w : World} {m : Nat} {k : Sb} {x : St}
theorem SAt.F_b (k : Sb) : ∀ i ∈ [k.b], i ∈ k.F ∨ w.heap.size ≤ i := fun i hi => .inl (by rw [Sb.F_eq, List.mem_singleton.1 hi]; simp)
theorem stCloseWB_any (h : SAt w m k x) (e : Int) (he : 1 ≤ e ∧ e ≤ 1000) : Calls Try.prog 86 #[pt k.b, .int .i64 e] w fun r w' => r = .returned (.int .i64 0) ∧ SAt w' m k { x with wr := e } ∧ Fr k.F w w' := by
  obtain ⟨T, va, vc, hT, hvc, h1, h2⟩ := h.cl
  have z5 := cells_free h1 5
  have c5 := cells_cell (o := 5) h1 rfl
  have hlt := lt_of_block h1
  have H := Lib.hid h
  have H1 := Lib.hid h1
  have H2 := Lib.hid h2
  have HT := Lib.hid hT
  have hok : St.Ok { x with wr := e } := ⟨h.ok.top, h.ok.le, h.ok.no, h.ok.idle, h.ok.small, fun _ q => by exfalso; have : e = 0 := q; omega, by show 0 ≤ e ∧ e ≤ 1000; omega, h.ok.rd⟩
  have HOK := Lib.hid hok
  clear h h1 h2 hT hvc hok he
  unfold pt at *
  go_enter Try.func86, Try.ntmps86
  go_wp2_with fail
  go_ret
  have e1 := cells_set H1.out 5 (.int .i64 e)
  have hf := fr_setCell w ⟨k.b, 5, none⟩ (.int .i64 e)
  exact ⟨rfl, H.out.set (y := { x with wr := e }) HT.out hf HOK.out rfl rfl (by simpa using e1) H2.out, hf.mono (SAt.F_b k)⟩
set_option maxHeartbeats 1600000 in
theorem stCloseRB_any (h : SAt w m k x) (e : Int) (he : 1 ≤ e ∧ e ≤ 1000) : Calls Try.prog 87 #[pt k.b, .int .i64 e] w fun r w' => r = .returned (.int .i64 0) ∧ SAt w' m k { x with rd := e, S := [] } ∧ Fr k.F w w' := by
  obtain ⟨T, va, vc, hT, hvc, h1, h2⟩ := h.cl
  have z4 := cells_free h1 4
  have c4 := cells_cell (o := 4) h1 rfl
  have c0 := cells_cell (o := 0) h1 rfl
  have hlt := lt_of_block h1
  have H := Lib.hid h
  have H1 := Lib.hid h1
  have H2 := Lib.hid h2
  have HT := Lib.hid hT
  have hre := hT.reset
  have hok : St.Ok { x with rd := e, S := [] } := ⟨h.ok.top, Nat.zero_le _, fun _ => rfl, h.ok.idle, h.ok.small, fun _ _ q => by exfalso; have : e = 0 := q; omega, h.ok.wr, by show 0 ≤ e ∧ e ≤ 1000; omega⟩
  have HOK := Lib.hid hok
  have hf := fr_setCell w ⟨k.b, 4, none⟩ (.int .i64 e)
  have e1 := cells_set h1 4 (.int .i64 e)
  have hkb : ∀ j ∈ kO k.q, j ∉ [k.b] := fun j hj hm => by
    rw [List.mem_singleton.1 hm] at hj
    exact h.kd.ne h1 (by decide) (by decide) (by decide) hj
  have hk1 := h.kd.fr hf hkb
  have HRS := Lib.hid (resetK_any hk1)
  have HF := Lib.hid hf
  have HE1 := Lib.hid e1
  have HKB : Hid (k.b ∉ kO k.q) := Lib.hid (h.kd.ne h1 (by decide) (by decide) (by decide))
  have HMB : Hid (m ∉ k.F) := Lib.hid h.mne
  have c0' : (w.setCell ⟨k.b, 4, none⟩ (.int .i64 e)).cell? ⟨k.b, 0, none⟩ = some (.iface T (kindA k.q)) := cells_cell e1 (by simp)
  obtain ⟨fR, hfR⟩ : ∃ f, f = resetF k.q := ⟨_, rfl⟩
  rw [← hfR] at hre HRS
  obtain ⟨KA, hKA⟩ : ∃ v, v = kindA k.q := ⟨_, rfl⟩
  rw [← hKA] at c0 c0' hre HE1
  have HKA := Lib.hid hKA.symm
  generalize kindR k.q = KR at *
  clear h h1 h2 hT hvc hok he hf e1 hkb hk1 hfR hKA
  unfold pt at *
  go_enter Try.func87, Try.ntmps87
  go_wp2_with (refine wpList_invoke rfl (.tmp 13) "Reset" #[] #[] rfl (.iface T KA) [] rfl rfl fR #[KR] (hre _) ?_; refine Hid.out ?_)
  refine Lib.hid (HRS.out.mono ?_)
  rintro r w2 ⟨rfl, hk2, hf2⟩
  have HK2 := Lib.hid hk2
  have HF2 := Lib.hid hf2
  clear hk2 hf2
  refine ⟨_, rfl, ?_⟩
  go_wp2_with fail
  go_ret
  have hsub : ∀ i ∈ kF k.q, i ∈ k.F ∨ w.heap.size ≤ i := fun i hi => .inl (by rw [Sb.F_eq]; simp [hi])
  have hall : Fr k.F w w2 := (HF.out.mono (SAt.F_b k)).trans HF2.out hsub
  have hbd : w2.heap[k.b]? = some (.cells #[.iface T KA, .bool x.busy, .slice va x.R.length vc, .int .i64 ((x.a + x.R.length : Nat) : Int), .int .i64 e, .int .i64 x.wr] 94 (0, 0)) := HF2.out.same (by simpa using HE1.out) (fun hm => HKB.out (kF_sub hm))
  refine ⟨rfl, ⟨HOK.out, hall.same H.out.me HMB.out, ⟨.slice va x.R.length vc, by rw [HT.out.val, HKA.out]; exact hbd, ?_⟩, HK2.out, H.out.gq, by have := H.out.gl; have := hall.size; omega⟩, hall⟩
  refine H2.out.off hall ?_
  rcases H2.out with hh | ⟨_, _, cur, _, _, _, h3, _⟩
  · exact .inl hh
  · refine .inr fun hm => ?_
    rw [Sb.F_eq] at hm
    rcases List.mem_cons.1 hm with hm | hm
    · exact ne_types h3 H1.out (by decide) hm
    · have := H.out.gq
      have hkd := H.out.kd
      generalize k.q = q at *
      match q, hm with
      | some (a, bb, cc), hm =>
        simp only [kF, List.mem_cons, List.not_mem_nil, or_false] at hm
        rcases hm with hm | hm
        · exact absurd hm (by
            obtain ⟨cp, f, xs, R⟩ := hkd.2.2
            exact ne_types h3 R.tb (by decide))
        · exact this _ _ _ rfl hm
theorem stClose_no {v : Value} (h : NoS w v) (d e : Int) : Calls Try.prog 64 #[v, .int .i64 d, .int .i64 e] w fun r w' => r = .returned (.int .i64 1) ∧ w' = w := by
  have hu := Lib.hid (stUsable_no h)
  obtain ⟨a, rfl⟩ : ∃ a, v = .pointer a := by rcases h with h | ⟨q, h, _⟩ <;> exact ⟨_, h⟩
  clear h
  go_enter Try.func64, Try.ntmps64
  go_wp2_with (go_at_call 57; refine hu.out.mono ?_; rintro e w' ⟨rfl, rfl⟩)
  go_ret
  exact ⟨rfl, rfl⟩
set_option maxHeartbeats 1600000 in
theorem stClose_w (h : SAt w m k x) (e : Int) : Calls Try.prog 64 #[pt m, .int .i64 1, .int .i64 e] w fun r w' => r = .returned (.int .i64 (sCw x e).1) ∧ SAt w' m k (sCw x e).2 ∧ Fr k.F w w' := by
  obtain ⟨T, va, vc, hT, hvc, h1, h2⟩ := h.cl
  have k0 := cells_cell (o := 0) h.me rfl
  have k4 := cells_cell (o := 5) h1 rfl
  have hu := Lib.hid (stUsable_yes h)
  have hve := Lib.hid (stValidEnd_any w e)
  have H := Lib.hid h
  unfold sCw
  by_cases h0 : e < 1 ∨ 1000 < e
  · rw [if_pos h0]
    by_cases e0 : e = 0
    · subst e0
      clear h h1 h2 hT hvc h0 hve
      unfold pt at *
      go_enter Try.func64, Try.ntmps64
      go_wp2_with (go_at_call 57; refine hu.out.mono ?_; rintro e w' ⟨rfl, rfl⟩)
      go_ret
      exact ⟨rfl, H.out, Fr.refl _ _⟩
    · have q0 : (e == 0) = false := by simp [e0]
      have q1 : decide (0 ≤ e ∧ e ≤ 1000) = false := by simp; omega
      rw [q1] at hve
      clear h h1 h2 hT hvc h0 e0 q1
      unfold pt at *
      go_enter Try.func64, Try.ntmps64
      go_wp2_with (first
        | (go_at_call 57; refine hu.out.mono ?_; rintro e w' ⟨rfl, rfl⟩)
        | (go_at_call 52; refine hve.out.mono ?_; rintro e w' ⟨rfl, rfl⟩))
      go_ret
      exact ⟨rfl, H.out, Fr.refl _ _⟩
  · rw [if_neg h0]
    have q0 : (e == 0) = false := by simp; omega
    have q1 : decide (0 ≤ e ∧ e ≤ 1000) = true := by simp; omega
    rw [q1] at hve
    by_cases hs : x.wr = 0
    · rw [if_neg (by simp [hs])]
      rw [hs] at k4
      have HCL := Lib.hid (stClosing_any w k.b 1 (by simp))
      have h00 : 1 ≤ e ∧ e ≤ 1000 := by omega
      have HE := Lib.hid h00
      clear h h1 h2 hT hvc h0 q1 hs h00
      unfold pt at *
      go_enter Try.func64, Try.ntmps64
      go_wp2_with (first
        | (go_at_call 57; refine hu.out.mono ?_; rintro e w' ⟨rfl, rfl⟩)
        | (go_at_call 52; refine hve.out.mono ?_; rintro e w' ⟨rfl, rfl⟩)
        | (go_at_call 79; fail))
      refine HCL.out.mono ?_
      rintro r w2 ⟨rfl, hb2⟩
      have HB2 := Lib.hid hb2
      have HC := Lib.hid (stCloseWB_any (H.out.grown hb2) e HE.out)
      clear hb2
      unfold pt at HC
      unfold closF
      go_wp2_with (go_at_call 86; fail)
      refine HC.out.mono ?_
      rintro r w3 ⟨rfl, hs3, hf3⟩
      have HS3 := Lib.hid hs3
      have HF3 := Lib.hid hf3
      clear hs3 hf3
      go_wp2_with fail
      go_ret
      exact ⟨rfl, HS3.out, (Fr.of_below HB2.out _).trans' HF3.out⟩
    · rw [if_pos hs]
      obtain ⟨z, hz⟩ : ∃ z, z = x.wr := ⟨_, rfl⟩
      rw [← hz] at k4 hs
      have q2 : (z != 0) = true := by simp [hs]
      clear h h1 h2 hT hvc h0 q1 hs hz
      unfold pt at *
      go_enter Try.func64, Try.ntmps64
      go_wp2_with (first
        | (go_at_call 57; refine hu.out.mono ?_; rintro e w' ⟨rfl, rfl⟩)
        | (go_at_call 52; refine hve.out.mono ?_; rintro e w' ⟨rfl, rfl⟩))
      go_ret
      exact ⟨rfl, H.out, Fr.refl _ _⟩
theorem stCloseW_any (h : SAt w m k x) (e : Int) : Calls Try.prog 25 #[pt m, .int .i64 e] w fun r w' => r = .returned (.int .i64 (sCw x e).1) ∧ SAt w' m k (sCw x e).2 ∧ Fr k.F w w' := by
  have hc := Lib.hid (stClose_w h e)
  clear h
  unfold pt at *
  go_enter Try.func25, Try.ntmps25
  go_wp2_with (go_at_call 64; refine hc.out.mono ?_; rintro r w' ⟨rfl, hm, hf⟩)
  go_ret
  exact ⟨rfl, hm, hf⟩
theorem stCloseW_no {v : Value} (h : NoS w v) (e : Int) : Calls Try.prog 25 #[v, .int .i64 e] w fun r w' => r = .returned (.int .i64 1) ∧ w' = w := by
  have hc := Lib.hid (stClose_no h 1 e)
  obtain ⟨a, rfl⟩ : ∃ a, v = .pointer a := by rcases h with h | ⟨q, h, _⟩ <;> exact ⟨_, h⟩
  clear h
  go_enter Try.func25, Try.ntmps25
  go_wp2_with (go_at_call 64; refine hc.out.mono ?_; rintro r w' ⟨rfl, rfl⟩)
  go_ret
  exact ⟨rfl, rfl⟩
set_option maxHeartbeats 1600000 in
theorem stClose_r (h : SAt w m k x) (e : Int) : Calls Try.prog 64 #[pt m, .int .i64 0, .int .i64 e] w fun r w' => r = .returned (.int .i64 (sCr x e).1) ∧ SAt w' m k (sCr x e).2 ∧ Fr k.F w w' := by
  obtain ⟨T, va, vc, hT, hvc, h1, h2⟩ := h.cl
  have k0 := cells_cell (o := 0) h.me rfl
  have k4 := cells_cell (o := 4) h1 rfl
  have hu := Lib.hid (stUsable_yes h)
  have hve := Lib.hid (stValidEnd_any w e)
  have H := Lib.hid h
  unfold sCr
  by_cases h0 : e < 1 ∨ 1000 < e
  · rw [if_pos h0]
    by_cases e0 : e = 0
    · subst e0
      clear h h1 h2 hT hvc h0 hve
      unfold pt at *
      go_enter Try.func64, Try.ntmps64
      go_wp2_with (go_at_call 57; refine hu.out.mono ?_; rintro e w' ⟨rfl, rfl⟩)
      go_ret
      exact ⟨rfl, H.out, Fr.refl _ _⟩
    · have q0 : (e == 0) = false := by simp [e0]
      have q1 : decide (0 ≤ e ∧ e ≤ 1000) = false := by simp; omega
      rw [q1] at hve
      clear h h1 h2 hT hvc h0 e0 q1
      unfold pt at *
      go_enter Try.func64, Try.ntmps64
      go_wp2_with (first
        | (go_at_call 57; refine hu.out.mono ?_; rintro e w' ⟨rfl, rfl⟩)
        | (go_at_call 52; refine hve.out.mono ?_; rintro e w' ⟨rfl, rfl⟩))
      go_ret
      exact ⟨rfl, H.out, Fr.refl _ _⟩
  · rw [if_neg h0]
    have q0 : (e == 0) = false := by simp; omega
    have q1 : decide (0 ≤ e ∧ e ≤ 1000) = true := by simp; omega
    rw [q1] at hve
    by_cases hs : x.rd = 0
    · rw [if_neg (by simp [hs])]
      rw [hs] at k4
      have HCL := Lib.hid (stClosing_any w k.b 0 (by simp))
      have h00 : 1 ≤ e ∧ e ≤ 1000 := by omega
      have HE := Lib.hid h00
      clear h h1 h2 hT hvc h0 q1 hs h00
      unfold pt at *
      go_enter Try.func64, Try.ntmps64
      go_wp2_with (first
        | (go_at_call 57; refine hu.out.mono ?_; rintro e w' ⟨rfl, rfl⟩)
        | (go_at_call 52; refine hve.out.mono ?_; rintro e w' ⟨rfl, rfl⟩)
        | (go_at_call 79; fail))
      refine HCL.out.mono ?_
      rintro r w2 ⟨rfl, hb2⟩
      have HB2 := Lib.hid hb2
      have HC := Lib.hid (stCloseRB_any (H.out.grown hb2) e HE.out)
      clear hb2
      unfold pt at HC
      unfold closF
      go_wp2_with (go_at_call 87; fail)
      refine HC.out.mono ?_
      rintro r w3 ⟨rfl, hs3, hf3⟩
      have HS3 := Lib.hid hs3
      have HF3 := Lib.hid hf3
      clear hs3 hf3
      go_wp2_with fail
      go_ret
      exact ⟨rfl, HS3.out, (Fr.of_below HB2.out _).trans' HF3.out⟩
    · rw [if_pos hs]
      obtain ⟨z, hz⟩ : ∃ z, z = x.rd := ⟨_, rfl⟩
      rw [← hz] at k4 hs
      have q2 : (z != 0) = true := by simp [hs]
      clear h h1 h2 hT hvc h0 q1 hs hz
      unfold pt at *
      go_enter Try.func64, Try.ntmps64
      go_wp2_with (first
        | (go_at_call 57; refine hu.out.mono ?_; rintro e w' ⟨rfl, rfl⟩)
        | (go_at_call 52; refine hve.out.mono ?_; rintro e w' ⟨rfl, rfl⟩))
      go_ret
      exact ⟨rfl, H.out, Fr.refl _ _⟩
theorem stCloseR_any (h : SAt w m k x) (e : Int) : Calls Try.prog 26 #[pt m, .int .i64 e] w fun r w' => r = .returned (.int .i64 (sCr x e).1) ∧ SAt w' m k (sCr x e).2 ∧ Fr k.F w w' := by
  have hc := Lib.hid (stClose_r h e)
  clear h
  unfold pt at *
  go_enter Try.func26, Try.ntmps26
  go_wp2_with (go_at_call 64; refine hc.out.mono ?_; rintro r w' ⟨rfl, hm, hf⟩)
  go_ret
  exact ⟨rfl, hm, hf⟩
theorem stCloseR_no {v : Value} (h : NoS w v) (e : Int) : Calls Try.prog 26 #[v, .int .i64 e] w fun r w' => r = .returned (.int .i64 1) ∧ w' = w := by
  have hc := Lib.hid (stClose_no h 0 e)
  obtain ⟨a, rfl⟩ : ∃ a, v = .pointer a := by rcases h with h | ⟨q, h, _⟩ <;> exact ⟨_, h⟩
  clear h
  go_enter Try.func26, Try.ntmps26
  go_wp2_with (go_at_call 64; refine hc.out.mono ?_; rintro r w' ⟨rfl, rfl⟩)
  go_ret
  exact ⟨rfl, rfl⟩
end
end Go.Proofs.Yteimjkmjofaieaa
