/- The walk of FlowDrains. -/
import Derived.Test.YtaallpbcgabdnaaXKn
import Derived.Test.YtaallpbcgabdnaaXEnds
import Derived.Test.YtaallpbcgabdnaaBMin
namespace Go.Proofs.Ytaallpbcgabdnaa
open Go.RowKit Go.Sort
set_option linter.unusedVariables false
set_option linter.unusedSimpArgs false

set_option maxHeartbeats 1600000 in
set_option maxRecDepth 100000 in
theorem drains_known (w : World) (c : Int) (s : ByteArray) (p e : Int) (h : c < 1 ∨ (1 ≤ c ∧ 4096 < c) ∨ (1 ≤ c ∧ c ≤ 4096 ∧ (400 : Int) < (s.size : Int)) ∨ (1 ≤ c ∧ c ≤ 4096 ∧ (s.size : Int) ≤ 400 ∧ p < 1) ∨ (1 ≤ c ∧ c ≤ 4096 ∧ (s.size : Int) ≤ 400 ∧ 1 ≤ p ∧ 500 < p) ∨ (1 ≤ c ∧ c ≤ 4096 ∧ (s.size : Int) ≤ 400 ∧ 1 ≤ p ∧ p ≤ 500 ∧ e = 0)) :
    Calls Try.prog 5 #[.int .i64 c, .string s, .int .i64 p, .int .i64 e] w fun e w' => e = .returned (.bool true) ∧ Below w.heap.size w w' := by
  rcases h with h | ⟨h1, h⟩ | ⟨h1, h2, h⟩ | ⟨h1, h2, h3, h⟩ | ⟨h1, h2, h3, h4, h⟩ | ⟨h1, h2, h3, h4, h5, rfl⟩
  all_goals
    go_enter Try.func5, Try.ntmps5
    go_wp2_with (go_at_call 9; refine (known_any _).mono ?_; rintro e w9 ⟨rfl, hb⟩)
    go_ret
    exact ⟨rfl, hb⟩
set_option maxHeartbeats 3200000 in
set_option maxRecDepth 100000 in
theorem drains_main (w : World) {c : Nat} (hc1 : 1 ≤ c) (hc2 : c ≤ 4096) (L : List UInt8) (hL : L.length ≤ 400) {p : Nat} (hp1 : 1 ≤ p) (hp2 : p ≤ 500) (e : Int) (he : I64 e) (he0 : e ≠ 0) :
    Calls Try.prog 5 #[.int .i64 (c : Nat), .string (strB L), .int .i64 (p : Nat), .int .i64 e] w fun r w' => r = .returned (.bool true) ∧ Below w.heap.size w w' := by
  obtain ⟨n, hn⟩ : ∃ n, n = min L.length c := ⟨_, rfl⟩
  obtain ⟨T, hT⟩ : ∃ T, T = L.take n := ⟨_, rfl⟩
  have hTl : T.length = n := by rw [hT, List.length_take]; omega
  have hsz := strB_size L
  have q0 : (e == 0) = false := by simp [he0]
  have i1 : (1 : Int) ≤ (c : Int) := by omega
  have i2 : (c : Int) ≤ 4096 := by omega
  have i3 : ((strB L).size : Int) ≤ 400 := by rw [hsz]; omega
  have i4 : (1 : Int) ≤ (p : Int) := by omega
  have i5 : (p : Int) ≤ 500 := by omega
  have hmin : min (c : Int) ((strB L).size : Int) = (n : Int) := by rw [hsz]; omega
  have hns : (n : Int) ≤ ((strB L).size : Int) := by rw [hsz]; omega
  have HMIN := Lib.hid hmin
  have HNS := Lib.hid hns
  have hnb : (n : Int) ≤ 400 := by omega
  have HSZ := Lib.hid hsz
  have HN := Lib.hid hn
  have HT := Lib.hid hT
  have HTL := Lib.hid hTl
  have HL := Lib.hid hL
  have HC1 := Lib.hid hc1
  have HC2 := Lib.hid hc2
  have HE := Lib.hid he
  have HE0 := Lib.hid he0
  have HWR : Hid (wrC (Ft.new c) ([L] : Parts).flatten = (n, 0, ⟨c, T, 0, 0⟩)) := Lib.hid (by
    unfold wrC Ft.new Ft.n
    simp only [List.flatten_cons, List.flatten_nil, List.append_nil, List.length_nil, Nat.sub_zero, List.nil_append]
    rw [if_neg (by simp), if_neg (by simp)]
    by_cases h0 : L.length = 0
    · rw [if_pos h0]
      have h1 : L = [] := List.eq_nil_of_length_eq_zero h0
      subst h1
      have : n = 0 := by rw [hn]; simp
      subst this
      rw [hT]
      rfl
    · rw [if_neg h0, if_neg (by omega), ← hn, ← hT])
  have HSTR : Hid (∀ a : Nat, ∀ b : Nat, b = min n (a + p) → a < n → (strB L).extract a b = strB ((T.drop a).take p)) := Lib.hid (fun a b hb ha => by
    rw [strB_extract, hT]
    congr 1
    rw [List.drop_take, List.take_take]
    congr 1
    omega)
  have hgs := fun (W : World) => strs_made W [L] (by simp) #[.string (strB L)] rfl 1 rfl
  have HGS := Lib.hid hgs
  have HFL : Hid (([L] : Parts).flatten.length ≤ 60000) := Lib.hid (by simp; omega)
  clear hc1 hc2 hL he he0 hT hTl hn hmin hns hgs hp1 hp2 hsz
  generalize strB L = s at *
  go_enter Try.func5, Try.ntmps5
  go_wp2_with (go_at_call 10; fail)
  refine (kf_new (w := w) (Below.refl _ _) HC1.out HC2.out).mono ?_
  rintro r W0 ⟨m, k, rfl, h0, _, _⟩
  have hg := below_alloc W0 (.cells #[.string s] 9)
  have hof := Lib.hid (kf_of (Ps := [L]) (h0.grow hg) (HGS.out W0) HFL.out (by simp))
  clear h0 hg
  unfold pt at *
  go_wp2_with (go_at_call 19; fail)
  refine hof.out.mono ?_
  rintro r W1 ⟨x1, x2, x3, x4, x5, x6, rfl, hR, hk, hb1⟩
  have hw := Lib.hid (kf_write hk hR n 0 HWR.out)
  clear hR hk hb1 hof
  unfold pt at hw
  go_wp2_with (go_at_call 18; fail)
  refine hw.out.mono ?_
  rintro r W2 ⟨rfl, hk2, hf2⟩
  have H2 := Lib.hid hk2
  clear hk2 hf2 hw
  go_wp2_with (first
    | (refine wpList_unguard rfl (wpList_min rfl (.tmp 60) (.tmp 62) _ rfl c s.size n rfl rfl HMIN.out ?_))
    | (go_at_call 21; fail))
  refine (kf_cw (y := ⟨c, T, e, 0⟩) H2.out e HE.out 0 (by unfold cwC; rw [if_neg HE0.out]; rfl)).mono ?_
  rintro r W3 ⟨rfl, hk3, -⟩
  have H3 := Lib.hid hk3
  clear hk3 H2
  go_wp2_with fail
  go_loopw [12] (fun i wr => ∃ a : Nat, a ≤ n + 500 ∧ i = .int .i64 (a : Nat) ∧ Hid (KF w wr m k ⟨c, T.drop a, e, 0⟩)) (fun i _ => n - (intOf i).toNat)
  case atStart => exact ⟨0, by omega, rfl, H3⟩
  case round =>
    obtain ⟨a, ha, rfl, HK⟩ := hrel
    by_cases hlt : a < n
    · obtain ⟨b, hb⟩ : ∃ b, b = min n (a + p) := ⟨_, rfl⟩
      have hmi : min (n : Int) ((a : Int) + (p : Int)) = (b : Int) := by omega
      have HMI := Lib.hid hmi
      have hst := HSTR.out a b hb hlt
      have HST := Lib.hid hst
      have hrd : rdC ⟨c, T.drop a, e, 0⟩ (p : Nat) = ((T.drop a).take p, 0, ⟨c, T.drop (a + p), e, 0⟩) := by
        unfold rdC
        simp only
        rw [if_neg (by omega), if_neg (by omega), if_neg (by rw [List.length_drop, HTL.out]; omega)]
        simp [List.drop_drop]
      have HRD := Lib.hid hrd
      have hab : (a : Int) ≤ (b : Int) := by omega
      have hbs : (b : Int) ≤ (s.size : Int) := by have := HNS.out; omega
      have hlt2 : (a : Int) < (n : Int) := by omega
      clear hb hmi hst hrd
      go_wp2_with (first
        | (refine wpList_min rfl (.tmp 82) (.tmp 85) _ rfl n ((a : Int) + (p : Int)) b rfl rfl HMI.out ?_)
        | (go_at_call 20; fail))
      rw [HST.out]
      refine (reads_yes HK.out p 0 HRD.out).mono ?_
      rintro r W4 ⟨rfl, hk4, -⟩
      have H4 := Lib.hid hk4
      clear hk4 HK
      go_wp2_with fail
      go_roundw
      case rel => exact ⟨a + p, by omega, by go_num, H4⟩
      case measure => simp [intOf]; omega
    · have hz : T.drop a = [] := List.drop_of_length_le (by rw [HTL.out]; omega)
      rw [hz] at HK
      clear hz
      have hge : (n : Int) ≤ (a : Int) := by omega
      have hy : ∀ j : Int, 0 < j → rdC ⟨c, [], e, 0⟩ j = ([], e, ⟨c, [], e, 0⟩) := fun j hj => by
        unfold rdC orI
        simp only
        rw [if_neg (by omega), if_neg (by omega), if_pos (by simp), if_pos trivial, if_neg HE0.out]
      have HY := Lib.hid hy
      clear hy
      go_wp2_with (go_at_call 20; fail)
      refine (reads_yes (L := []) HK.out 1 e (HY.out 1 (by omega))).mono ?_
      rintro r W4 ⟨rfl, hk4, -⟩
      have H4 := Lib.hid hk4
      clear hk4 HK
      go_wp2_with (go_at_call 20; fail)
      refine (reads_yes (L := []) H4.out p e (HY.out p (by omega))).mono ?_
      rintro r W5 ⟨rfl, hk5, -⟩
      have H5 := Lib.hid hk5
      clear hk5 H4
      go_wp2_with (go_at_call 20; fail)
      refine (reads_yes (L := []) (y := ⟨c, [], e, 0⟩) H5.out 0 0 rfl).mono ?_
      rintro r W6 ⟨rfl, hk6, -⟩
      have H6 := Lib.hid hk6
      clear hk6 H5
      go_wp2_with (go_at_call 9; fail)
      refine (known_any _).mono ?_
      rintro r w9 ⟨rfl, hb⟩
      have HB := Lib.hid (H6.out.be.trans (hb.mono H6.out.be.size))
      clear hb
      go_wp2_with fail
      go_ret
      exact ⟨rfl, HB.out⟩
theorem flowDrains_walk (w : World) (c : Int) (s : ByteArray) (p e : Int) (he : I64 e) :
    Calls Try.prog 5 #[.int .i64 c, .string s, .int .i64 p, .int .i64 e] w fun r w' => r = .returned (.bool true) ∧ Below w.heap.size w w' := by
  by_cases h1 : c < 1
  · exact drains_known w c s p e (.inl h1)
  by_cases h2 : 4096 < c
  · exact drains_known w c s p e (.inr (.inl ⟨by omega, h2⟩))
  by_cases h3 : (400 : Int) < (s.size : Int)
  · exact drains_known w c s p e (.inr (.inr (.inl ⟨by omega, by omega, h3⟩)))
  by_cases h4 : p < 1
  · exact drains_known w c s p e (.inr (.inr (.inr (.inl ⟨by omega, by omega, by omega, h4⟩))))
  by_cases h5 : 500 < p
  · exact drains_known w c s p e (.inr (.inr (.inr (.inr (.inl ⟨by omega, by omega, by omega, by omega, h5⟩)))))
  by_cases h6 : e = 0
  · exact drains_known w c s p e (.inr (.inr (.inr (.inr (.inr ⟨by omega, by omega, by omega, by omega, by omega, h6⟩)))))
  have hs := strB_data s
  have hl : s.data.toList.length ≤ 400 := by rw [← strB_size, hs]; omega
  rw [← hs]
  obtain ⟨c', rfl⟩ := Int.eq_ofNat_of_zero_le (show 0 ≤ c by omega)
  obtain ⟨p', rfl⟩ := Int.eq_ofNat_of_zero_le (show 0 ≤ p by omega)
  exact drains_main w (by omega) (by omega) _ hl (by omega) (by omega) e he h6
end Go.Proofs.Ytaallpbcgabdnaa
