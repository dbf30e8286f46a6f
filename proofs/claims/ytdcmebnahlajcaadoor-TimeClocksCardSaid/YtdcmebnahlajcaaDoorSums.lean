/- The walk of TimeSums. -/
import Derived.Test.YtdcmebnahlajcaaDoorKnown
namespace Go.Proofs.YtdcmebnahlajcaaDoor
open Go.RowKit

set_option maxHeartbeats 400000 in
theorem add_any (t k : Int) (w : World) (ht0 : 0 ≤ t) (ht : t ≤ 18446744073709551615) (hk0 : 0 ≤ k) (hk : k ≤ 18446744073709551615) :
    Calls Tryd.prog 9 #[.int .u64 t, .int .u64 k] w fun e w' => e = .returned (.int .u64 (addT t k)) ∧ w = w' := by
  by_cases h : 18446744073709551615 - t ≤ k
  · have he := Lib.hid (show addT t k = 18446744073709551615 by unfold addT; rw [if_pos h])
    go_enter Tryd.func9, Tryd.ntmps9
    go_wp2
    go_ret
    exact ⟨by rw [he.out]; rfl, rfl⟩
  · have he := Lib.hid (show addT t k = t + k by unfold addT; rw [if_neg h])
    go_enter Tryd.func9, Tryd.ntmps9
    go_wp2
    go_ret
    exact ⟨by rw [he.out]; rfl, rfl⟩

set_option maxHeartbeats 400000 in
theorem radd_any (t k : Int) (w : World) (ht0 : 0 ≤ t) (ht : t ≤ 18446744073709551615) (hk0 : 0 ≤ k) (hk : k ≤ 18446744073709551615) :
    Calls Tryd.prog 10 #[.int .u64 t, .int .u64 k] w fun e w' => e = .returned (.int .u64 (addT t k)) ∧ w = w' := by
  by_cases h : 18446744073709551615 - t ≤ k
  · have he := Lib.hid (show addT t k = 18446744073709551615 by unfold addT; rw [if_pos h])
    go_enter Tryd.func10, Tryd.ntmps10
    go_wp2
    go_ret
    exact ⟨by rw [he.out]; rfl, rfl⟩
  · have he := Lib.hid (show addT t k = t + k by unfold addT; rw [if_neg h])
    go_enter Tryd.func10, Tryd.ntmps10
    go_wp2
    go_ret
    exact ⟨by rw [he.out]; rfl, rfl⟩

set_option maxHeartbeats 400000 in
theorem sub_any (a b : Int) (w : World) (ha0 : 0 ≤ a) (ha : a ≤ 18446744073709551615) (hb0 : 0 ≤ b) (hb : b ≤ 18446744073709551615) :
    (Calls Tryd.prog 11 #[.int .u64 a, .int .u64 b] w fun e w' => e = .returned (.int .u64 (subT a b)) ∧ w = w') ∧
    (Calls Tryd.prog 12 #[.int .u64 a, .int .u64 b] w fun e w' => e = .returned (.int .u64 (subT a b)) ∧ w = w') := by
  by_cases h : a ≤ b
  · have he := Lib.hid (show subT a b = 0 by unfold subT; rw [if_pos h])
    constructor
    · go_enter Tryd.func11, Tryd.ntmps11
      go_wp2
      go_ret
      exact ⟨by rw [he.out]; rfl, rfl⟩
    · go_enter Tryd.func12, Tryd.ntmps12
      go_wp2
      go_ret
      exact ⟨by rw [he.out]; rfl, rfl⟩
  · by_cases hn : a = 18446744073709551615
    · have he := Lib.hid (show subT a b = 18446744073709551615 by unfold subT; rw [if_neg h, if_pos hn])
      have hq : (a == 18446744073709551615) = true := by simp [hn]
      clear hn
      constructor
      · go_enter Tryd.func11, Tryd.ntmps11
        go_wp2
        go_ret
        exact ⟨by rw [he.out]; rfl, rfl⟩
      · go_enter Tryd.func12, Tryd.ntmps12
        go_wp2
        go_ret
        exact ⟨by rw [he.out]; rfl, rfl⟩
    · have he := Lib.hid (show subT a b = a - b by unfold subT; rw [if_neg h, if_neg hn])
      have hq : (a == 18446744073709551615) = false := by simp [hn]
      clear hn
      constructor
      · go_enter Tryd.func11, Tryd.ntmps11
        go_wp2
        go_ret
        exact ⟨by rw [he.out]; rfl, rfl⟩
      · go_enter Tryd.func12, Tryd.ntmps12
        go_wp2
        go_ret
        exact ⟨by rw [he.out]; rfl, rfl⟩

set_option maxHeartbeats 400000 in
theorem pass_any (d n : Int) (w : World) (hd : d ≤ 18446744073709551615) (hn : n ≤ 18446744073709551615) :
    (Calls Tryd.prog 15 #[.int .u64 d, .int .u64 n] w fun e w' => e = .returned (.bool (passT d n)) ∧ w = w') ∧
    (Calls Tryd.prog 16 #[.int .u64 d, .int .u64 n] w fun e w' => e = .returned (.bool (passT d n)) ∧ w = w') := by
  by_cases h1 : n = 18446744073709551615
  · have he := Lib.hid (show passT d n = false by unfold passT; exact decide_eq_false (by omega))
    subst h1
    by_cases h2 : d = 18446744073709551615
    · subst h2
      constructor
      · go_enter Tryd.func15, Tryd.ntmps15
        go_wp2
        go_ret
        exact ⟨by rw [he.out]; rfl, rfl⟩
      · go_enter Tryd.func16, Tryd.ntmps16
        go_wp2
        go_ret
        exact ⟨by rw [he.out]; rfl, rfl⟩
    · have q2 : (d != 18446744073709551615) = true := by simp [h2]
      clear h2
      constructor
      · go_enter Tryd.func15, Tryd.ntmps15
        go_wp2
        go_ret
        exact ⟨by rw [he.out]; rfl, rfl⟩
      · go_enter Tryd.func16, Tryd.ntmps16
        go_wp2
        go_ret
        exact ⟨by rw [he.out]; rfl, rfl⟩
  · have q1 : (n != 18446744073709551615) = true := by simp [h1]
    by_cases h2 : d = 18446744073709551615
    · have he := Lib.hid (show passT d n = false by unfold passT; exact decide_eq_false (by omega))
      have h3 : ¬ d ≤ n := by omega
      subst h2
      clear h1
      constructor
      · go_enter Tryd.func15, Tryd.ntmps15
        go_wp2
        go_ret
        exact ⟨by rw [he.out]; rfl, rfl⟩
      · go_enter Tryd.func16, Tryd.ntmps16
        go_wp2
        go_ret
        exact ⟨by rw [he.out]; rfl, rfl⟩
    · have q2 : (d != 18446744073709551615) = true := by simp [h2]
      by_cases h3 : d ≤ n
      · have he := Lib.hid (show passT d n = true by unfold passT; exact decide_eq_true ⟨h2, h1, h3⟩)
        clear h1 h2
        constructor
        · go_enter Tryd.func15, Tryd.ntmps15
          go_wp2
          go_ret
          exact ⟨by rw [he.out]; rfl, rfl⟩
        · go_enter Tryd.func16, Tryd.ntmps16
          go_wp2
          go_ret
          exact ⟨by rw [he.out]; rfl, rfl⟩
      · have he := Lib.hid (show passT d n = false by unfold passT; exact decide_eq_false (by omega))
        clear h1 h2
        constructor
        · go_enter Tryd.func15, Tryd.ntmps15
          go_wp2
          go_ret
          exact ⟨by rw [he.out]; rfl, rfl⟩
        · go_enter Tryd.func16, Tryd.ntmps16
          go_wp2
          go_ret
          exact ⟨by rw [he.out]; rfl, rfl⟩
end Go.Proofs.YtdcmebnahlajcaaDoor
