/- The walk of MeetCloses, all of it. -/
import Derived.Test.YtophkjnniodegaaVClo
namespace Go.Proofs.Ytophkjnniodegaa
open Go.RowKit Go.Sort
set_option linter.unusedVariables false
set_option linter.unusedSimpArgs false

set_option maxHeartbeats 1600000 in
set_option maxRecDepth 100000 in
theorem closes_known (w : World) (s : ByteArray) (n wr rd : Int) (o : Bool) (h : (400 : Int) < (s.size : Int) ∨ ((s.size : Int) ≤ 400 ∧ n < 0) ∨ ((s.size : Int) ≤ 400 ∧ 0 ≤ n ∧ wr = 0 ∧ rd = 0)) :
    Calls Try.prog 6 #[.string s, .int .i64 n, .int .i64 wr, .int .i64 rd, .bool o] w fun e w' => e = .returned (.bool true) ∧ Below w.heap.size w w' := by
  rcases h with h | ⟨h, hn⟩ | ⟨h, hn, rfl, rfl⟩
  · go_enter Try.func6, Try.ntmps6
    go_wp2_with (go_at_call 9; refine (known_any _).mono ?_; rintro e w9 ⟨rfl, hb⟩)
    go_ret
    exact ⟨rfl, hb⟩
  · go_enter Try.func6, Try.ntmps6
    go_wp2_with (go_at_call 9; refine (known_any _).mono ?_; rintro e w9 ⟨rfl, hb⟩)
    go_ret
    exact ⟨rfl, hb⟩
  · have q : decide (n < 0) = false := by simp; omega
    go_enter Try.func6, Try.ntmps6
    go_wp2_with (go_at_call 9; refine (known_any _).mono ?_; rintro e w9 ⟨rfl, hb⟩)
    go_ret
    exact ⟨rfl, hb⟩
theorem meetCloses_walk (w : World) (s : ByteArray) (n wr rd : Int) (o : Bool) (hw : I64 wr) (hr : I64 rd) :
    Calls Try.prog 6 #[.string s, .int .i64 n, .int .i64 wr, .int .i64 rd, .bool o] w fun e w' => e = .returned (.bool true) ∧ Below w.heap.size w w' := by
  by_cases h1 : (400 : Int) < (s.size : Int)
  · exact closes_known w s n wr rd o (.inl h1)
  · by_cases h2 : n < 0
    · exact closes_known w s n wr rd o (.inr (.inl ⟨by omega, h2⟩))
    · by_cases h3 : wr = 0 ∧ rd = 0
      · exact closes_known w s n wr rd o (.inr (.inr ⟨by omega, by omega, h3.1, h3.2⟩))
      · have hs := strB_data s
        have hl : s.data.toList.length ≤ 400 := by rw [← strB_size, hs]; omega
        rw [← hs]
        by_cases hw0 : wr = 0
        · have hr0 : rd ≠ 0 := fun h => h3 ⟨hw0, h⟩
          rw [hw0]
          cases o
          · exact closes_010 w _ hl n (by omega) wr rd hw hr hr0
          · exact closes_110 w _ hl n (by omega) wr rd hw hr hr0
        · by_cases hr0 : rd = 0
          · rw [hr0]
            cases o
            · exact closes_001 w _ hl n (by omega) wr rd hw hr hw0
            · exact closes_101 w _ hl n (by omega) wr rd hw hr hw0
          · cases o
            · exact closes_000 w _ hl n (by omega) wr rd hw hr hw0 hr0
            · exact closes_100 w _ hl n (by omega) wr rd hw hr hw0 hr0
end Go.Proofs.Ytophkjnniodegaa
