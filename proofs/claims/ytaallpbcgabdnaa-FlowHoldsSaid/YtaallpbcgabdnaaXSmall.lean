/- The law's own small. -/
import Derived.Test.YtaallpbcgabdnaaXEnds
import Derived.Test.YtaallpbcgabdnaaXKn
namespace Go.Proofs.Ytaallpbcgabdnaa
open Go.RowKit Go.Sort
set_option linter.unusedVariables false
set_option linter.unusedSimpArgs false

/-- Calls in memory. -/
def SrcA (w : World) (v : Value) (l : List Ac) : Prop := ∃ a c, v = .slice a l.length c ∧ l.length ≤ maxLen ∧ (l.length = 0 ∨ ∃ b off, a = some ⟨b, off, none⟩ ∧ b < w.heap.size ∧ ∀ i (h : i < l.length), AcAt w b off i l[i])
theorem AcAt.grown {w w' : World} {b off i : Nat} {a : Ac} (h : AcAt w b off i a) (hb : Below w.heap.size w w') : AcAt w' b off i a := by
  obtain ⟨pa, pl, pc, c0, c1, c2, c3, hs, r⟩ := h
  have hc := below_cells hb
  exact ⟨pa, pl, pc, hc _ _ c0, hc _ _ c1, hc _ _ c2, hc _ _ c3, hs.grown hb, r⟩
theorem SrcA.grown {w w' : World} {v : Value} {l : List Ac} (h : SrcA w v l) (hb : Below w.heap.size w w') : SrcA w' v l := by
  obtain ⟨a, c, h1, h2, h3⟩ := h
  refine ⟨a, c, h1, h2, h3.imp id ?_⟩
  rintro ⟨b, off, e, hl, hi⟩
  exact ⟨b, off, e, Nat.lt_of_lt_of_le hl hb.size, fun i h => (hi i h).grown hb⟩
/-- What small asks of a call. -/
def Ac.Sm (a : Ac) : Prop := a.parts.length ≤ 30 ∧ ∀ p ∈ a.parts, p.length ≤ 400

set_option maxRecDepth 100000 in
set_option maxHeartbeats 1600000 in
theorem small_any {w : World} {v : Value} {l : List Ac} (h : SrcA w v l) :
    Calls Try.prog 8 #[v] w fun e w' => ((e = .returned (.bool true) ∧ l.length ≤ 80 ∧ ∀ a ∈ l, a.Sm) ∨ e = .returned (.bool false)) ∧ w' = w := by
  obtain ⟨a, c, rfl, hlm, hcase⟩ := h
  obtain ⟨N, hN⟩ : ∃ N, N = l.length := ⟨_, rfl⟩
  have HNE := Lib.hid hN
  have HC := Lib.hid hcase
  have hN2 : (N : Int) ≤ 9223372036854775807 := by unfold maxLen at hlm; omega
  rw [← hN]
  clear hcase hlm hN
  go_enter Try.func8, Try.ntmps8
  go_wp2_with fail
  go_loopw [3] (fun i wr => ∃ k : Nat, k ≤ N ∧ k ≤ 81 ∧ i = .int .i64 (k : Nat) ∧ Hid (∀ j (h : j < l.length), j < k → l[j].Sm) ∧ wr = w) (fun i _ => N - (intOf i).toNat)
  case atStart => exact ⟨0, Nat.zero_le _, by omega, rfl, Lib.hid (fun j h hj => absurd hj (by omega)), rfl⟩
  case round =>
    obtain ⟨k, hkl, hk81, rfl, HK, rfl⟩ := hrel
    by_cases hlt : k < N
    · by_cases h81 : k < 81
      · have hltP : k < l.length := by rw [← HNE.out]; exact hlt
        obtain ⟨b, off, rfl, hbl, hac⟩ := HC.out.resolve_left (by omega)
        obtain ⟨pa, pl, pc, c0, c1, c2, c3, hs, hpl, hw0, hw1, hw2⟩ := hac k hltP
        have HS := Lib.hid hs
        have HPL := Lib.hid hpl
        have hkl2 : (k : Int) < (N : Int) := by omega
        have hk812 : (k : Int) < 81 := by omega
        obtain ⟨Ps, hPs⟩ : ∃ Ps, Ps = l[k].parts := ⟨_, rfl⟩
        rw [← hPs] at HS HPL
        have HPs := Lib.hid hPs
        clear c0 c1 c3 hs hpl hw0 hw1 hw2 hac hPs
        by_cases h30 : (30 : Int) < (pl : Int)
        · go_wp2_with fail
          go_ret
          exact ⟨.inr rfl, rfl⟩
        · have hp30 : (pl : Int) ≤ 30 := by omega
          have hpc := HS.out.formS
          go_wp2_with fail
          go_loopw [29] (fun i w2 => ∃ j : Nat, j ≤ pl ∧ i = .int .i64 (j : Nat) ∧ Hid (∀ q (h : q < Ps.length), q < j → Ps[q].length ≤ 400) ∧ w2 = wr) (fun i _ => pl - (intOf i).toNat)
          case atStart => exact ⟨0, Nat.zero_le _, rfl, Lib.hid (fun q h hq => absurd hq (by omega)), rfl⟩
          case round =>
            obtain ⟨q, hql, rfl, HQ, rfl⟩ := hrel
            by_cases hqt : q < pl
            · have hqP : q < Ps.length := by rw [HPL.out]; exact hqt
              have hss := HS.out
              obtain ⟨sb, soff, rfl, hsl, hscell⟩ := (by rw [← HPL.out] at hss; exact hss.strAt q hqP)
              have hql2 : (q : Int) < (pl : Int) := by omega
              have hsz : Hid ((strB Ps[q]).size = Ps[q].length) := Lib.hid (strB_size _)
              clear hss
              obtain ⟨sq, hsq⟩ : ∃ sq, sq = strB Ps[q] := ⟨_, rfl⟩
              rw [← hsq] at hscell hsz
              clear hsq
              by_cases hbig : (400 : Int) < (sq.size : Int)
              · go_wp2_with fail
                go_ret
                exact ⟨.inr rfl, rfl⟩
              · have hok : (sq.size : Int) ≤ 400 := by omega
                go_wp2_with fail
                go_roundw
                case rel => exact ⟨q + 1, by omega, by go_num, Lib.hid (fun q' h' hq' => by
                  by_cases e : q' = q
                  · subst e; rw [← hsz.out]; omega
                  · exact HQ.out q' h' (by omega)), trivial⟩
                case measure => simp [intOf]; omega
            · obtain rfl : q = pl := by omega
              go_wp2_with fail
              go_roundw
              case rel => exact ⟨k + 1, by omega, by omega, by go_num, Lib.hid (fun j hj hjk => by
                by_cases e : j = k
                · subst e
                  refine ⟨by rw [← HPs.out, HPL.out]; omega, fun p hp => ?_⟩
                  rw [← HPs.out] at hp
                  obtain ⟨q', hq', rfl⟩ := List.getElem_of_mem hp
                  exact HQ.out q' hq' (by rw [← HPL.out]; exact hq')
                · exact HK.out j hj (by omega)), trivial⟩
              case measure => simp [intOf]; omega
      · obtain rfl : k = 81 := by omega
        have hN3 : decide ((N : Int) ≤ 80) = false := by simp; omega
        go_wp2_with fail
        go_ret
        exact ⟨.inr rfl, rfl⟩
    · obtain rfl : k = N := by omega
      by_cases h80 : (k : Int) ≤ 80
      · go_wp2_with fail
        go_ret
        exact ⟨.inl ⟨rfl, by have := HNE.out; omega, fun a ha => by
          obtain ⟨j, hj, rfl⟩ := List.getElem_of_mem ha
          exact HK.out j hj (by rw [HNE.out]; exact hj)⟩, rfl⟩
      · have hN3 : decide ((k : Int) ≤ 80) = false := by simp; omega
        go_wp2_with fail
        go_ret
        exact ⟨.inr rfl, rfl⟩
end Go.Proofs.Ytaallpbcgabdnaa
