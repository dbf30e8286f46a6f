/- The walk of RingPeeks. -/
import Derived.Test.YtilafgemgdjfhaaBKnown
import Derived.Test.YtilafgemgdjfhaaBMin
import Derived.LoopTactic
import Derived.Deep.LoopGhost
namespace Go.Proofs.Ytilafgemgdjfhaa
open Go.RowKit Go.Sort
set_option linter.unusedVariables false
set_option linter.unusedSimpArgs false

theorem srcE_of {w0 W : World} {G : Nat → Prop} {ao : Option Addr} {L lc : Nat} {P : List UInt8} (h : (ao = none ∧ L = 0 ∧ lc = 0) ∨ (L = 0 ∧ lc = 0 ∧ ∃ x, ao = some x) ∨ ∃ b off, ao = some ⟨b, off, none⟩ ∧ b < w0.heap.size ∧ L ≤ lc ∧ lc ≤ maxLen ∧ 0 < lc ∧ Lies w0 b off P) (hP : P.length = L) (hb : Below w0.heap.size w0 W) : SrcE w0 G W ao L lc P := by
  rcases h with ⟨rfl, h, rfl⟩ | ⟨h, rfl, x, rfl⟩ | ⟨b, off, rfl, hbl, hl, hm, _, hl2⟩
  · exact .inl (.inl ⟨rfl, h, rfl, List.eq_nil_of_length_eq_zero (by omega)⟩)
  · exact .inr ⟨List.eq_nil_of_length_eq_zero (by omega), h, Nat.zero_le _, x, rfl⟩
  · exact .inl (.inr ⟨b, off, rfl, hP.symm, hl, hm, hl2.same (hb.block b hbl), .inl hbl⟩)

theorem conv_lies {w : World} {b off len cap : Nat} {P : List UInt8} (h : Lies w b off P) (hl : P.length = len) : (convert 24 9 (.slice (some ⟨b, off, none⟩) len cap)).run Try.prog w = .ok (.string (strB P)) w := by
  have := run_convert_bytes_arg (P := Try.prog) w 24 5 Try.underlying24 Try.underlying5 b off len cap (P.map fun x => ((x.toNat : Nat) : Int)) (by simpa using hl) (fun i hi => by
    have hil : i < P.length := by omega
    rw [h i P[i] (by simp [hil])]
    simp [List.getD, hil, encB]) 9 Try.underlying9
  rw [this]
  have : strOfNums (P.map fun x => ((x.toNat : Nat) : Int)) = strB P := by
    unfold strOfNums strB
    congr 1
    simp only [List.map_map]
    conv => rhs; rw [← List.map_id P]
    congr 1
    refine List.map_congr_left (fun x _ => ?_)
    simp
  rw [this]
theorem conv_empty (w : World) (x : Addr) (cap : Nat) : (convert 24 9 (.slice (some x) 0 cap)).run Try.prog w = .ok (.string (strB [])) w := by
  have hl := run_loadCells_list (P := Try.prog) w x [] (by simp)
  rw [run_convert_bytes_string w 24 9 5 _ 0 cap Try.underlying24 Try.underlying5 Try.underlying9, run_bytesToString w x 0 cap [] (by simpa using hl)]
  rfl
theorem conv_nil (w : World) : (convert 24 9 (.slice none 0 0)).run Try.prog w = .ok (.string (strB [])) w := row_str (World.ownsRow_nil w 0 5 1 : RowB w 0 (.slice none 0 0) [])
theorem strB_extract (L : List UInt8) (i j : Nat) : (strB L).extract i j = strB ((L.drop i).take (j - i)) := by
  unfold strB
  apply ByteArray.ext
  apply Array.ext'
  simp [ByteArray.data_extract, Array.toList_extract, List.extract]
theorem strB_size (L : List UInt8) : (strB L).size = L.length := by unfold strB; simp [ByteArray.size]
theorem ext3 (L : List UInt8) (j Z : Nat) (hZ : Z = min L.length (j + 3)) : (strB L).extract j Z = strB ((L.drop ((j : Nat) : Int).toNat).take (3 : Int).toNat) := by
  rw [strB_extract, Int.toNat_natCast, show (3 : Int).toNat = 3 from rfl]
  congr 1
  by_cases h : j + 3 ≤ L.length
  · rw [hZ, Nat.min_eq_right h, Nat.add_sub_cancel_left]
  · rw [hZ, Nat.min_eq_left (by omega), List.take_of_length_le (by simp), List.take_of_length_le (by simp; omega)]
theorem strB_append (A B : List UInt8) : strB A ++ strB B = strB (A ++ B) := by
  unfold strB
  apply ByteArray.ext
  simp

set_option maxRecDepth 100000 in
set_option maxHeartbeats 3200000 in
theorem ringPeeks_walk0 (c : Nat) (h3 : 1 ≤ c) (h4 : c ≤ 4096) (ao : Option Addr) (L lc : Nat) (P : List UInt8) (hP : P.length = L) (hL : L ≤ 300) (s : Int) (hs : 0 ≤ s) (w : World) (hsrc3 : (ao = none ∧ L = 0 ∧ lc = 0) ∨ (L = 0 ∧ lc = 0 ∧ ∃ x, ao = some x) ∨ ∃ b off, ao = some ⟨b, off, none⟩ ∧ b < w.heap.size ∧ L ≤ lc ∧ lc ≤ maxLen ∧ 0 < lc ∧ Lies w b off P)
    (n k m : Nat) (hn : n = min P.length (c - ([] : List UInt8).length)) (hk : k = min s.toNat n) (hm : m = min P.length (c - (n - k))) :
    Calls Try.prog 6 #[.int .i64 c, .slice ao L lc, .int .i64 s] w fun e w' => e = .returned (.bool true) ∧ Below w.heap.size w w' := by
  have b3 : decide ((c : Int) < 1) = false := by simp; omega
  have b4 : decide ((4096 : Int) < (c : Int)) = false := by simp; omega
  have b5 : decide ((300 : Int) < (L : Int)) = false := by simp; omega
  have b6 : decide (s < 0) = false := by simp; omega
  have e2 : (L : Int) ≤ 300 := by omega
  have e3 : (1 : Int) ≤ (c : Int) := by omega
  have e4 : (c : Int) ≤ 4096 := by omega
  have e5 : (n : Int) ≤ 300 := by omega
  have e6 : (k : Int) ≤ (n : Int) := by omega
  have hN := Lib.hid (And.intro h3 h4)
  have hKN : Hid (n ≤ P.length ∧ k ≤ n ∧ m ≤ P.length) := Lib.hid (by omega)
  have HS : Hid (∀ (W : World) (G : Nat → Prop), Below w.heap.size w W → SrcE w G W ao L lc P) := Lib.hid (fun W G hb => srcE_of hsrc3 hP hb)
  have HS3 := Lib.hid hsrc3
  have HK := Lib.hid hk
  have HM := Lib.hid hm
  have HN := Lib.hid hn
  have HP := Lib.hid hP
  have l1 : Hid ((P.take n).length = n) := Lib.hid (by simp; omega)
  have l2 : Hid (((P.take n).drop s.toNat).length = n - k) := Lib.hid (by simp; omega)
  clear h3 h4 hL hsrc3 hn hk hm hP
  go_enter Try.func6, Try.ntmps6
  go_wp2_with (go_at_call 9; fail)
  refine (new_ok (w0 := w) (w := w) (G := fun _ => False) c hN.out.1 hN.out.2 (Below.refl _ _) (fun _ h => h.elim)).mono ?_
  rintro e w1 ⟨a, rfl, R1, _⟩
  have H1 := Lib.hid R1
  have hw1 := writeE_in R1 (HS.out w1 (fun _ => False) R1.below) (by have := HP.out; omega)
  rw [← HN.out, List.nil_append] at hw1
  have HW1 := Lib.hid hw1
  clear R1 hw1
  unfold pt at *
  go_wp2_with (go_at_call 11; fail)
  refine HW1.out.mono ?_
  rintro e w2 ⟨rfl, A2⟩
  have hsk := skip_in A2.rg s hs
  rw [l1.out, ← HK.out] at hsk
  have HSK := Lib.hid hsk
  clear A2 hsk H1 HW1
  unfold pt at *
  go_wp2_with (go_at_call 17; fail)
  refine HSK.out.mono ?_
  rintro e w3 ⟨rfl, A3⟩
  have hw3 := writeE_in A3.rg (HS.out w3 (fun _ => False) A3.rg.below) (by have := HP.out; omega)
  rw [l2.out, ← HM.out] at hw3
  have HW3 := Lib.hid hw3
  clear A3 hw3 HSK
  unfold pt at *
  go_wp2_with (go_at_call 11; fail)
  refine HW3.out.mono ?_
  rintro e w4 ⟨rfl, A4⟩
  have H4 := Lib.hid A4.rg
  clear A4 HW3
  have t1 : Hid (min (c : Int) (L : Int) = (n : Int)) := Lib.hid (by have := HN.out; have := HP.out; simp at *; omega)
  have t2 : Hid (min s (n : Int) = (k : Int)) := Lib.hid (by have := HK.out; omega)
  have t3 : Hid (min ((c : Int) - (n : Int) + (k : Int)) (L : Int) = (m : Int)) := Lib.hid (by have := HM.out; have := HN.out; have := HP.out; have := hKN.out; simp at *; omega)
  have q1 : ((n : Int) != (n : Int)) = false := by simp
  have q2 : ((k : Int) != (k : Int)) = false := by simp
  have q3 : ((m : Int) != (m : Int)) = false := by simp
  go_wp2_with (first
    | (with_reducible refine wpList_unguard (o := ⟨some 76, _, _, _, _, _⟩) rfl ?_; refine wpList_min rfl (.tmp 73) (.tmp 75) _ rfl _ _ _ rfl rfl t1.out ?_)
    | (with_reducible refine wpList_unguard (o := ⟨some 83, _, _, _, _, _⟩) rfl ?_; refine wpList_min rfl (.tmp 81) (.tmp 82) _ rfl _ _ _ rfl rfl t2.out ?_)
    | (with_reducible refine wpList_unguard (o := ⟨some 95, _, _, _, _, _⟩) rfl ?_; refine wpList_min rfl (.tmp 92) (.tmp 94) _ rfl _ _ _ rfl rfl t3.out ?_))
  have fk : (k : Int) ≤ (L : Int) := by have := hKN.out; have := HP.out; omega
  have fn : (n : Int) ≤ (L : Int) := by have := hKN.out; have := HP.out; omega
  have fm : (m : Int) ≤ (L : Int) := by have := hKN.out; have := HP.out; omega
  have hd0 : Hid ((P.take n).drop s.toNat = (P.take n).drop k) := Lib.hid (by
    have h1 := drop_min (P.take n) s.toNat
    rw [l1.out, ← HK.out] at h1
    exact h1.symm)
  obtain ⟨ALL, hALL⟩ : ∃ ALL, ALL = (P.take n).drop k ++ P.take m := ⟨_, rfl⟩
  rw [hd0.out, ← hALL] at H4
  have hAl : ALL.length ≤ 600 := by rw [hALL]; have := hKN.out; have := HP.out; simp; omega
  have HALL := Lib.hid hALL
  clear hALL
  obtain ⟨S, hS⟩ : ∃ S, S = strB ALL := ⟨_, rfl⟩
  have hSl : S.size = ALL.length := by rw [hS, strB_size]
  have e9 : (S.size : Int) ≤ 600 := by omega
  have HSl := Lib.hid hSl
  have HSS := Lib.hid hS
  clear hS hSl hAl
  rcases HS3.out with ⟨rfl, rfl, rfl⟩ | ⟨rfl, rfl, x, rfl⟩ | ⟨b, off, rfl, hb, hl, hm, h0, hL⟩
  case' inl =>
    obtain rfl : n = 0 := by omega
    obtain rfl : k = 0 := by omega
    obtain rfl : m = 0 := by omega
    have cA : ∀ q, (convert 24 9 (.slice none 0 0)).run Try.prog (w4.drewN q) = .ok (.string (strB [])) (w4.drewN q) := fun q => conv_nil _
    obtain ⟨SA, hSA⟩ : ∃ SA, SA = strB [] := ⟨_, rfl⟩
    have hAB : Hid (SA ++ SA = S) := Lib.hid (by rw [hSA, strB_append, HSS.out, HALL.out]; simp)
    have hz : SA.size + SA.size ≤ 9223372036854775807 := by rw [hSA, strB_size]; simp
    rw [← hSA] at cA
    clear hSA
    go_quiet (fail)
  case' inr.inl =>
    obtain rfl : n = 0 := by omega
    obtain rfl : k = 0 := by omega
    obtain rfl : m = 0 := by omega
    have cA : ∀ q, (convert 24 9 (.slice (some x) 0 0)).run Try.prog (w4.drewN q) = .ok (.string (strB [])) (w4.drewN q) := fun q => conv_empty _ x 0
    obtain ⟨SA, hSA⟩ : ∃ SA, SA = strB [] := ⟨_, rfl⟩
    have hAB : Hid (SA ++ SA = S) := Lib.hid (by rw [hSA, strB_append, HSS.out, HALL.out]; simp)
    have hz : SA.size + SA.size ≤ 9223372036854775807 := by rw [hSA, strB_size]; simp
    rw [← hSA] at cA
    clear hSA
    go_quiet (fail)
  case' inr.inr =>
    have hlW : Lies w4 b off P := hL.same (H4.out.below.block b hb)
    have gn : (n : Int) ≤ (lc : Int) := by omega
    have gm : (m : Int) ≤ (lc : Int) := by omega
    have cB : ∀ q, (convert 24 9 (.slice (some ⟨b, off, none⟩) m lc)).run Try.prog (w4.drewN q) = .ok (.string (strB (P.take m))) (w4.drewN q) := fun q => conv_lies ((hlW.same rfl).take m) (by have := hKN.out; simp; omega)
    have fl : (L : Int) ≤ (lc : Int) := by omega
    have hlc2 : (lc : Int) ≤ 9223372036854775807 := by unfold maxLen at hm; omega
    obtain ⟨SA, hSA⟩ : ∃ SA, SA = strB ((P.take n).drop k) := ⟨_, rfl⟩
    obtain ⟨SB, hSB⟩ : ∃ SB, SB = strB (P.take m) := ⟨_, rfl⟩
    have hAB : Hid (SA ++ SB = S) := Lib.hid (by rw [hSA, hSB, strB_append, HSS.out, HALL.out])
    have hz : SA.size + SB.size ≤ 9223372036854775807 := by rw [hSA, hSB, strB_size, strB_size]; have := hKN.out; have := HP.out; simp; omega
    by_cases hkc : k = lc
    case' pos =>
      obtain rfl : k = n := by omega
      subst hkc
      have cA : ∀ q, (convert 24 9 (.slice (some ⟨b, off, none⟩) 0 0)).run Try.prog (w4.drewN q) = .ok (.string SA) (w4.drewN q) := fun q => by rw [hSA, List.drop_eq_nil_of_le (by simp; omega)]; exact conv_empty _ _ 0
      rw [← hSB] at cB
      clear hL hlW hSA hSB
      go_quiet (fail)
    case' neg =>
      have cA : ∀ q, (convert 24 9 (.slice (some ⟨b, off + k, none⟩) (n - k) (lc - k))).run Try.prog (w4.drewN q) = .ok (.string (strB ((P.take n).drop k))) (w4.drewN q) := fun q => conv_lies ((hlW.same rfl).take n |>.drop k) (by have := l1.out; have := hKN.out; simp; omega)
      rw [← hSA] at cA
      rw [← hSB] at cB
      clear hL hlW hSA hSB
      have hkc2 : (k : Int) < (lc : Int) := by omega
      go_quiet (fail)
  all_goals (
    rw [hAB.out]
    have hbx : Hid (RgIn w (fun _ => False) (w4.drewN nq) a c ALL) := Lib.hid (H4.out.grown (drew_below w4 nq))
    generalize w4.drewN nq = wz at *
    clear cA hz H4
    go_wp2_with fail
    try simp only [Int.sub_add_cancel]
    go_loopw [15] (fun i wr => ∃ j : Nat, i = .int .i64 j ∧ j ≤ S.size + 1 ∧ RgIn w (fun _ => False) wr a c ALL) (fun i _ => S.size + 1 - (intOf i).toNat)
    case atStart => exact ⟨0, rfl, Nat.zero_le _, hbx.out⟩
    case round =>
      obtain ⟨j, rfl, hj, hR⟩ := hrel
      have HR := Lib.hid hR
      clear hR
      by_cases hjs : j ≤ S.size
      · have hp1 := Lib.hid (peeks_in HR.out j 5000 (by omega) (by omega) (S.extract j S.size) (by rw [HSS.out, strB_size, strB_extract]; congr 1; have := HSl.out; rw [List.take_of_length_le (by simp), List.take_of_length_le (by simp; omega), Int.toNat_natCast]))
        unfold pt at *
        have hj3 : (j : Int) ≤ (S.size : Int) := by omega
        go_wp2_with (go_at_call 24; fail)
        refine hp1.out.mono ?_
        rintro e w6 ⟨rfl, hb6⟩
        have HR6 := Lib.hid (HR.out.grown hb6)
        obtain ⟨Z, hZ⟩ : ∃ Z : Nat, Z = min S.size (j + 3) := ⟨_, rfl⟩
        have hZ3 : Hid (min (S.size : Int) ((j : Int) + 3) = (Z : Int)) := Lib.hid (by omega)
        have hp2 := Lib.hid (peeks_in HR6.out j 3 (by omega) (by omega) (S.extract j Z) (by rw [HSS.out]; exact ext3 _ _ _ (by rw [hZ, HSl.out])))
        have hZ1 : (j : Int) ≤ (Z : Int) := by omega
        have hZ2 : (Z : Int) ≤ (S.size : Int) := by omega
        clear hZ hb6 HR hp1
        unfold pt at *
        go_wp2_with (first
          | (with_reducible refine wpList_unguard (o := ⟨some 130, _, _, _, _, _⟩) rfl ?_; refine wpList_min rfl (.tmp 127) (.tmp 129) _ rfl _ _ _ rfl rfl hZ3.out ?_)
          | (go_at_call 24; fail))
        refine hp2.out.mono ?_
        rintro e w7 ⟨rfl, hb7⟩
        have HR7 := Lib.hid (HR6.out.grown hb7)
        clear hb7 HR6 hp2
        go_wp2_with fail
        go_roundw
        case rel => first | exact ⟨j + 1, by go_num, by omega, HR7.out⟩ | ((repeat apply Exists.intro); exact ⟨⟨j + 1, by go_num, by omega, HR7.out⟩, rfl⟩)
        case measure => simp [intOf]; omega
      · have hrd := Lib.hid (reads_in HR.out 5000 (by omega) S (by rw [HSS.out]; congr 1; have := HSl.out; rw [List.take_of_length_le]; show _ ≤ 5000; omega))
        have hj3 : (S.size : Int) < (j : Int) := by omega
        have hj4 : decide ((j : Int) ≤ (S.size : Int)) = false := by simp; omega
        unfold pt at *
        go_wp2_with (go_at_call 25; fail)
        refine hrd.out.mono ?_
        rintro e w6 ⟨rfl, A6⟩
        have H6 := Lib.hid A6.rg
        have hk := Lib.hid (known_any w6)
        clear A6
        go_wp2_with (go_at_call 8; refine hk.out.mono ?_; rintro e w7 ⟨rfl, hb7⟩)
        go_ret
        exact ⟨rfl, H6.out.below.trans (hb7.mono H6.out.below.size)⟩)

set_option maxRecDepth 100000 in
set_option maxHeartbeats 1600000 in
theorem ringPeeks_out (c : Int) (ao : Option Addr) (L lc : Nat) (hL : L ≤ maxLen) (s : Int) (h : c < 1 ∨ 4096 < c ∨ 300 < L ∨ s < 0) (w : World) :
    Calls Try.prog 6 #[.int .i64 c, .slice ao L lc, .int .i64 s] w fun e w' => e = .returned (.bool true) ∧ Below w.heap.size w w' := by
  have hk := Lib.hid (known_any w)
  have hm : (L : Int) ≤ 9223372036854775807 := by unfold maxLen at hL; omega
  clear hL
  rcases (by omega : c < 1 ∨ (1 ≤ c ∧ 4096 < c) ∨ (1 ≤ c ∧ c ≤ 4096 ∧ (300 : Int) < (L : Int)) ∨ (1 ≤ c ∧ c ≤ 4096 ∧ (L : Int) ≤ 300 ∧ s < 0)) with h1 | ⟨f1, h1⟩ | ⟨f1, f2, h1⟩ | ⟨f1, f2, f3, h1⟩
  all_goals (
    clear h
    go_enter Try.func6, Try.ntmps6
    go_wp2_with (go_at_call 8; refine hk.out.mono ?_; rintro e w5 ⟨rfl, hb⟩)
    go_ret
    exact ⟨rfl, hb⟩)

theorem isRow_le {k : IntKind} {w : World} {a : Option Addr} {len cap : Nat} {zs : List Int} (h : IsRow k w a len cap zs) : len ≤ maxLen := by
  rcases h with ⟨_, rfl, _, _⟩ | ⟨x, _, h1, h2, _⟩
  · exact Nat.zero_le _
  · omega
theorem lies_take' {w : World} {b off : Nat} {P : List UInt8} (h : Lies w b off P) (n : Nat) : Lies w b off (P.take n) := h.take n

/-- Bytes that came in, and how many of them there are. -/
theorem bytes_in' {w : World} {a : Option Addr} {len cap : Nat} {zs : List Int} (h : IsRow .u8 w a len cap zs) :
    ((zs.map byt).take len).length = len ∧ ((a = none ∧ len = 0 ∧ cap = 0) ∨ (len = 0 ∧ cap = 0 ∧ ∃ x, a = some x) ∨ ∃ b off, a = some ⟨b, off, none⟩ ∧ b < w.heap.size ∧ len ≤ cap ∧ cap ≤ maxLen ∧ 0 < cap ∧ Lies w b off ((zs.map byt).take len)) := by
  rcases bytes_in h with ⟨rfl, rfl, rfl⟩ | ⟨rfl, rfl, x, rfl⟩ | ⟨b, off, rfl, hb, hl, hm, h0, hz, hL⟩
  · exact ⟨by simp, .inl ⟨rfl, rfl, rfl⟩⟩
  · exact ⟨by simp, .inr (.inl ⟨rfl, rfl, x, rfl⟩)⟩
  · exact ⟨by simp; omega, .inr (.inr ⟨b, off, rfl, hb, hl, hm, h0, hL.take _⟩)⟩

theorem ringPeeks_walk (c : Int) (a : Option Addr) (len cap : Nat) (zs : List Int) (s : Int) (w : World) (_ : (Lit.int .i64 c).wf = true) (hr : IsRow .u8 w a len cap zs) (_ : (Lit.int .i64 s).wf = true) :
    Calls Try.prog 6 #[.int .i64 c, .slice a len cap, .int .i64 s] w fun e w' => e = .returned (.bool true) ∧ Below w.heap.size w w' := by
  by_cases h : c < 1 ∨ 4096 < c ∨ 300 < len ∨ s < 0
  · exact ringPeeks_out c a len cap (isRow_le hr) s h w
  · obtain ⟨d, rfl⟩ : ∃ d : Nat, c = d := ⟨c.toNat, by omega⟩
    obtain ⟨hl, hs⟩ := bytes_in' hr
    exact ringPeeks_walk0 d (by omega) (by omega) a len cap _ hl (by omega) s (by omega) w hs _ _ _ rfl rfl rfl
end Go.Proofs.Ytilafgemgdjfhaa
