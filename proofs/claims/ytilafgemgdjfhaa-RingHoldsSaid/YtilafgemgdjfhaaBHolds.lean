/- The walk of RingHolds. -/
import Derived.Test.YtilafgemgdjfhaaBApp
import Derived.Test.YtilafgemgdjfhaaBFloat
import Derived.LoopTactic
import Derived.Deep.LoopGhost
namespace Go.Proofs.Ytilafgemgdjfhaa
open Go.RowKit Go.Sort
set_option linter.unusedVariables false
set_option linter.unusedSimpArgs false

/-- Bytes that came in: nil, none at all, or they lie in a block. -/
def SrcP (w : World) (ao : Option Addr) (L lc : Nat) (P : List UInt8) : Prop :=
  (ao = none ∧ L = 0 ∧ lc = 0) ∨ (L = 0 ∧ lc = 0 ∧ ∃ x, ao = some x) ∨ ∃ b off, ao = some ⟨b, off, none⟩ ∧ b < w.heap.size ∧ L ≤ lc ∧ lc ≤ maxLen ∧ 0 < lc ∧ Lies w b off P

/-- What was read, and what the buffer holds, are together the first A bytes. -/
def Read' (w : World) (a c : Nat) (P : List UInt8) (A : Nat) (vg : Value) (GOT B : List UInt8) (wr : World) : Prop :=
  RowB wr w.heap.size vg GOT ∧ RgIn w (fun k => vg.ownBlock = some k) wr a c B ∧ GOT ++ B = P.take A ∧ A ≤ P.length

theorem Read'.bl {w wr : World} {a c A : Nat} {P GOT B : List UInt8} {vg : Value} (h : Read' w a c P A vg GOT B wr) : B.length ≤ c ∧ GOT.length + B.length = A := by
  obtain ⟨_, h2, h3, h4⟩ := h
  refine ⟨h2.bl, ?_⟩
  rw [← List.length_append, h3, List.length_take]
  omega

theorem Read'.wrote {w wr w' : World} {a c A n q : Nat} {P GOT B : List UInt8} {vg : Value} (h : Read' w a c P A vg GOT B wr) (hn : n ≤ q) (hq : A + q ≤ P.length)
    (hA : Aft w (fun k => vg.ownBlock = some k) wr w' a c (B ++ ((P.drop A).take q).take n)) : Read' w a c P (A + n) vg GOT (B ++ ((P.drop A).take q).take n) w' := by
  obtain ⟨h1, h2, h3, h4⟩ := h
  refine ⟨?_, hA.rg, ?_, by omega⟩
  · refine ⟨h1.1, ?_⟩
    rcases h1.2 with h' | ⟨g, cap, cur, rfl, hb, hh, r⟩
    · exact .inl h'
    · exact .inr ⟨g, cap, cur, rfl, hb, (hA.keep g rfl).trans hh, r⟩
  · rw [← List.append_assoc, h3, List.take_take, Nat.min_eq_left hn, List.take_add]

theorem Read'.read {w wr w1 w2 : World} {a c A m : Nat} {P GOT B : List UInt8} {vg v v' : Value} (h : Read' w a c P A vg GOT B wr)
    (hA : Aft w (fun k => vg.ownBlock = some k) wr w1 a c (B.drop m)) (hR : RgIn w (fun k => vg.ownBlock = some k ∨ v.ownBlock = some k) w1 a c (B.drop m))
    (ho : RowB w2 w.heap.size v' (GOT ++ B.take m)) (hf : Fr vg.ownBlock.toList w1 w2) (hn : Near w1 vg v') : Read' w a c P A v' (GOT ++ B.take m) (B.drop m) w2 := by
  obtain ⟨h1, h2, h3, h4⟩ := h
  refine ⟨ho, hA.rg.writeMore hf (fun k hk => ?_) (fun k hk => ?_), by rw [List.append_assoc, List.take_append_drop, h3], h4⟩
  · have hk' : vg.ownBlock = some k := by simpa using hk
    exact ⟨hk', (h1.lt k hk').1⟩
  · rcases hn k hk with h | h
    · exact .inl h
    · exact .inr ⟨h, (ho.lt k hk).2⟩

theorem Read'.row_after {w wr w' : World} {a c A : Nat} {P GOT B B' : List UInt8} {vg : Value} (h : Read' w a c P A vg GOT B wr)
    (hA : Aft w (fun k => vg.ownBlock = some k) wr w' a c B') : RowB w' w.heap.size vg GOT := by
  obtain ⟨h1, h2, h3, h4⟩ := h
  refine ⟨h1.1, ?_⟩
  rcases h1.2 with h' | ⟨g, cap, cur, rfl, hb, hh, r⟩
  · exact .inl h'
  · exact .inr ⟨g, cap, cur, rfl, hb, (hA.keep g rfl).trans hh, r⟩

theorem Read'.wrote' {w wr w' : World} {a c A n q : Nat} {P GOT B : List UInt8} {vg : Value} (h : Read' w a c P A vg GOT B wr) (hn : n ≤ q) (hq : A + q ≤ P.length)
    (hA : Aft w (fun k => vg.ownBlock = some k) wr w' a c (B ++ ((P.drop A).take q).take n)) : ∃ BB, Hid (Read' w a c P (A + n) vg GOT BB w') := ⟨_, Lib.hid (h.wrote hn hq hA)⟩
theorem Read'.tail {w wr : World} {a c A n : Nat} {P GOT B : List UInt8} {vg : Value} (h : Read' w a c P (A + n) vg GOT B wr) : ((B.length : Int) != (A : Int) + (n : Int) - (GOT.length : Int)) = false := by
  have := h.bl
  simp
  omega
theorem Read'.tail' {w wr : World} {a c A : Nat} {P GOT B : List UInt8} {vg : Value} (h : Read' w a c P A vg GOT B wr) : ((B.length : Int) != (A : Int) - (GOT.length : Int)) = false := by
  have := h.bl
  simp
  omega

theorem RowB.drew {w : World} {b : Nat} {v : Value} {L : List UInt8} (h : RowB w b v L) : RowB w.drew b v L := (Fr.of_below ((Below.refl _ _).drew) []).row h (fun _ _ h => by simp at h)
theorem RgIn.append {w0 w w' : World} {a c : Nat} {B X Y : List UInt8} {v v' : Value} (R : RgIn w0 (fun k => v.ownBlock = some k) w a c B) (ho : RowB w' w0.heap.size v' Y) (hv : RowB w w0.heap.size v X) (hf : Fr v.ownBlock.toList w w') (hn : Near w v v') : RgIn w0 (fun k => v'.ownBlock = some k) w' a c B := by
  refine R.writeMore hf (fun k hk => ?_) (fun k hk => ?_)
  · have hk' : v.ownBlock = some k := by simpa using hk
    exact ⟨hk', (hv.lt k hk').1⟩
  · rcases hn k hk with h | h
    · exact .inl h
    · exact .inr ⟨h, (ho.lt k hk).2⟩

/-- The source of a write: a part of the bytes that came in. -/
theorem srcE_part {w wr : World} {G : Nat → Prop} {b off L lc : Nat} {P : List UInt8} (hb : b < w.heap.size) (hl : L ≤ lc) (hm : lc ≤ maxLen) (hL : Lies w b off P) (hP : P.length = L) (hbl : Below w.heap.size w wr) (A Z : Nat) (hA : A ≤ Z) (hZ : Z ≤ L) (hlt : A < lc) :
    SrcE w G wr (some ⟨b, off + A, none⟩) (Z - A) (lc - A) ((P.drop A).take (Z - A)) :=
  .inl (.inr ⟨b, off + A, rfl, by simp; omega, by omega, by omega, ((hL.same (hbl.block b hb)).drop A).take _, .inl hb⟩)

set_option maxRecDepth 100000 in
set_option maxHeartbeats 3200000 in
theorem ringHolds_walk0 (c : Nat) (h3 : 1 ≤ c) (h4 : c ≤ 4096) (ao : Option Addr) (L lc : Nat) (P : List UInt8) (hP : P.length = L) (hL : L ≤ 2000) (ap : Option Addr) (Lp cp : Nat) (Zs : List UInt8) (hZs : Zs.length = Lp) (hLp : Lp ≤ 200) (w : World) (hsrc : SrcP w ao L lc P) (hpcs : SrcP w ap Lp cp Zs) :
    Calls Try.prog 7 #[.int .i64 c, .slice ao L lc, .slice ap Lp cp] w fun e w' => e = .returned (.bool true) ∧ Below w.heap.size w w' := by
  have b3 : decide ((c : Int) < 1) = false := by simp; omega
  have b4 : decide ((4096 : Int) < (c : Int)) = false := by simp; omega
  have b5 : decide ((2000 : Int) < (L : Int)) = false := by simp; omega
  have b6 : decide ((200 : Int) < (Lp : Int)) = false := by simp; omega
  have e2 : (L : Int) ≤ 2000 := by omega
  have e3 : (1 : Int) ≤ (c : Int) := by omega
  have e4 : (c : Int) ≤ 4096 := by omega
  have e5 : (Lp : Int) ≤ 200 := by omega
  have hN := Lib.hid (And.intro h3 h4)
  have HP := Lib.hid hP
  have HZs := Lib.hid hZs
  have HS := Lib.hid hsrc
  have HPC := Lib.hid hpcs
  clear h3 h4 hL hLp hP hZs hsrc hpcs
  go_enter Try.func7, Try.ntmps7
  go_wp2_with (go_at_call 9; fail)
  refine (new_ok (w0 := w) (w := w) (G := fun _ => False) c hN.out.1 hN.out.2 (Below.refl _ _) (fun _ h => h.elim)).mono ?_
  rintro e w1 ⟨a, rfl, R1, _⟩
  have H1 : Hid (Read' w a c P 0 (.slice none 0 0) [] [] w1) := Lib.hid ⟨World.ownsRow_nil w1 _ _ _, R1.less (fun k hk => by simp [Value.ownBlock] at hk), by simp, Nat.zero_le _⟩
  clear R1
  unfold pt at *
  go_wp2_with fail
  go_loopw [9, 10, 49] (fun g t i wr => ∃ k A ga gc GOT B, k ≤ Lp ∧ g = .slice ga (GOT : List UInt8).length gc ∧ t = .int .i64 (A : Nat) ∧ i = .int .i64 (k : Nat) ∧ Hid (Read' w a c P A (.slice ga GOT.length gc) GOT B wr)) (fun _ _ i _ => Lp - (intOf i).toNat)
  case atStart => exact ⟨0, 0, none, 0, [], [], Nat.zero_le _, rfl, rfl, rfl, H1⟩
  case round =>
    obtain ⟨k, A, ga, gc, GOT, B, hk, rfl, rfl, rfl, HR⟩ := hrel
    clear H1
    have hAL : A ≤ L := by have := HR.out.2.2.2; have := HP.out; omega
    by_cases hkl : k < Lp
    · obtain ⟨b2, off2, rfl, hb2, hl2', hm2', h02, hL2⟩ : ∃ b off, ap = some ⟨b, off, none⟩ ∧ b < w.heap.size ∧ Lp ≤ cp ∧ cp ≤ maxLen ∧ 0 < cp ∧ Lies w b off Zs := by
        rcases HPC.out with ⟨_, h, _⟩ | ⟨h, _⟩ | h
        · omega
        · omega
        · exact h
      have hbw := HR.out.2.1.below
      obtain ⟨z, hz⟩ : ∃ z : Nat, z = (Zs[k]'(by have := HZs.out; omega)).toNat := ⟨_, rfl⟩
      have hcell : wr.cell? ⟨b2, off2 + k, none⟩ = some (.int .u8 z) := by
        rw [hz]; exact (hL2.same (hbw.block b2 hb2)) k _ (by simp)
      have hz2 : (z : Int) ≤ 255 := by rw [hz]; have := (Zs[k]'(by have := HZs.out; omega)).toNat_lt; omega
      have hk2 : (k : Int) < (Lp : Int) := by omega
      have eA : (A : Int) ≤ (L : Int) := by omega
      have hb2l : b2 < wr.heap.size := by have := hbw.size; omega
      clear hz hL2 hbw
      have hpar : (k : Int) % 2 = 0 ∨ (k : Int) % 2 = 1 := by omega
      rcases hpar with hpar | hpar
      · obtain ⟨Zv, hZv⟩ : ∃ Zv, Zv = min L (A + z) := ⟨_, rfl⟩
        obtain ⟨q, hq⟩ : ∃ q, q = Zv - A := ⟨_, rfl⟩
        have hmin1 : Hid (min (L : Int) ((A : Int) + (z : Int)) = (Zv : Int)) := Lib.hid (by omega)
        have hmin2 : Hid (min (z : Int) ((L : Int) - (A : Int)) = (q : Int)) := Lib.hid (by omega)
        have f1 : (A : Int) ≤ (Zv : Int) := by omega
        have f2 : (Zv : Int) ≤ (L : Int) := by omega
        have hLlc : L ≤ lc ∧ lc ≤ maxLen := by
          rcases HS.out with ⟨_, h, h'⟩ | ⟨h, h', _⟩ | ⟨_, _, _, _, h, h', _⟩
          · subst h; subst h'; exact ⟨Nat.le_refl _, Nat.zero_le _⟩
          · subst h; subst h'; exact ⟨Nat.le_refl _, Nat.zero_le _⟩
          · exact ⟨h, h'⟩
        have f3 : (L : Int) ≤ (lc : Int) := by omega
        have f4 : (lc : Int) ≤ 9223372036854775807 := by have := hLlc.2; unfold maxLen at this; omega
        obtain ⟨PP, hPP⟩ : ∃ PP, PP = (P.drop A).take q := ⟨_, rfl⟩
        have hPl : PP.length = q := by rw [hPP]; have := HP.out; simp; omega
        obtain ⟨n, hn⟩ : ∃ n, n = min PP.length (c - B.length) := ⟨_, rfl⟩
        have hnq : n ≤ q := by omega
        have g5 : (n : Int) ≤ 2000 := by omega
        have g6 : decide ((q : Int) < (n : Int)) = false := by simp; omega
        have g7 : decide ((n : Int) < 0) = false := by simp
        have HF := Lib.hid (And.intro hnq (And.intro hq hn))
        have HPP := Lib.hid hPP
        have hGL := HR.out.bl
        have hq2 : A + q ≤ P.length := by have := HP.out; omega
        have HQ2 := Lib.hid hq2
        clear hZv hn hPP hq hq2
        by_cases hAlc : A = lc
        case' pos =>
          have hs1 : Hid (SrcE w (fun k => (Value.slice ga GOT.length gc).ownBlock = some k) wr ao 0 0 PP) := by
            have hPn : PP = [] := List.eq_nil_of_length_eq_zero (by have := HF.out.2.1; omega)
            rcases ao with _ | x
            · exact Lib.hid (.inl (.inl ⟨rfl, rfl, rfl, hPn⟩))
            · exact Lib.hid (.inr ⟨hPn, rfl, Nat.zero_le _, x, rfl⟩)
          have hw1 := writeE_in HR.out.2.1 hs1.out (by have := HF.out.2.1; omega)
          rw [← HF.out.2.2] at hw1
          have HW1 := Lib.hid hw1
          obtain rfl : lc = Zv := by omega
          obtain rfl : lc = A := by omega
          clear hw1 hs1 hPl
          unfold pt at *
          rcases ao with _ | x
        case' neg =>
          obtain ⟨b, off, rfl, hb, hl, hm, h0, hLie⟩ : ∃ b off, ao = some ⟨b, off, none⟩ ∧ b < w.heap.size ∧ L ≤ lc ∧ lc ≤ maxLen ∧ 0 < lc ∧ Lies w b off P := by
            rcases HS.out with ⟨_, h, h'⟩ | ⟨h, h', _⟩ | h
            · omega
            · omega
            · exact h
          have hs1 := srcE_part (G := fun k => (Value.slice ga GOT.length gc).ownBlock = some k) hb hl hm hLie HP.out HR.out.2.1.below A Zv (by omega) (by omega) (by omega)
          rw [← HF.out.2.1, ← HPP.out, HF.out.2.1] at hs1
          have hw1 := writeE_in HR.out.2.1 hs1 (by have := HF.out.2.1; omega)
          rw [← HF.out.2.2] at hw1
          have HW1 := Lib.hid hw1
          have f5 : (A : Int) < (lc : Int) := by omega
          clear hw1 hs1 hPl hLie
          unfold pt at *
        all_goals (
          go_wp2_with (first
            | (with_reducible refine wpList_min rfl (.tmp 62) (.tmp 66) _ rfl _ _ _ rfl rfl hmin1.out ?_)
            | (go_at_call 11; fail))
          refine HW1.out.mono ?_
          rintro e w4 ⟨rfl, A4⟩
          rw [HPP.out] at A4
          obtain ⟨BB, HR2⟩ := HR.out.wrote' HF.out.1 HQ2.out A4
          clear A4
          have g8 := HR2.out.tail
          have hbl := HR2.out.bl
          have hl1 := Lib.hid (len_in HR2.out.2.1)
          have hl2 := Lib.hid (free_in HR2.out.2.1)
          have hl3 := Lib.hid (cap_in HR2.out.2.1)
          obtain ⟨l, hl⟩ : ∃ l, l = BB.length := ⟨_, rfl⟩
          obtain ⟨f, hf⟩ : ∃ f, f = c - l := ⟨_, rfl⟩
          rw [← hl] at hl1 hl2 hbl g8
          rw [← hf] at hl2
          have g1 : (l : Int) ≤ 4096 := by omega
          have g2 : (f : Int) ≤ 4096 := by omega
          have g3 : ((l : Int) + (f : Int) != (c : Int)) = false := by simp; omega
          have g4 : ((c : Int) != (c : Int)) = false := by simp
          clear hl hf hbl HW1
          unfold pt at *
          go_wp2_with (first | (with_reducible refine wpList_unguard (o := ⟨some 86, _, _, _, _, _⟩) rfl ?_; refine wpList_min rfl (.tmp 81) (.tmp 85) _ rfl _ _ _ rfl rfl hmin2.out ?_) | (go_at_call 21; refine hl1.out.mono ?_; rintro e w9 ⟨rfl, rfl⟩) | (go_at_call 23; refine hl2.out.mono ?_; rintro e w9 ⟨rfl, rfl⟩) | (go_at_call 22; refine hl3.out.mono ?_; rintro e w9 ⟨rfl, rfl⟩))
          go_roundw
          case rel => first | exact ⟨k + 1, _, ga, gc, GOT, BB, by omega, rfl, by go_num, by go_num, HR2⟩ | ((repeat apply Exists.intro); exact ⟨⟨k + 1, _, ga, gc, GOT, BB, by omega, rfl, by go_num, by go_num, HR2⟩, rfl⟩)
          case measure => simp [intOf]; omega)
      · have hrd := Lib.hid (read_in HR.out.2.1 (z : Int) (by omega))
        unfold pt at *
        go_wp2_with (go_at_call 13; fail)
        refine hrd.out.mono ?_
        rintro e w4 ⟨v, rfl, hrow, hA, hRR⟩
        rw [Int.toNat_natCast] at hrow hA hRR
        have hrow4 := Lib.hid (HR.out.row_after hA)
        have hsz4 : w.heap.size ≤ w4.heap.size := hA.rg.below.size
        obtain ⟨va, vc, rfl⟩ := row_formB hrow
        have HA4 := Lib.hid (And.intro hA hRR)
        have hlr : (B.take z).length ≤ z := by simp; omega
        have hlb := HR.out.bl
        have hlq : GOT.length + (B.take z).length ≤ 100000 := by simp; omega
        have Hrow := Lib.hid hrow
        obtain ⟨M, hM⟩ : ∃ M, M = B.take z := ⟨_, rfl⟩
        rw [← hM] at Hrow hlr hlq
        rw [← hM]
        have HM := Lib.hid hM
        have g5 : decide ((z : Int) < (M.length : Int)) = false := by simp; omega
        clear hA hRR hrow hrd hM
        unfold pt at *
        go_wp2_with (with_reducible refine wpList_append_rowB rfl (.tmp 108) (.tmp 109) rfl rfl rfl hrow4.out hsz4 Hrow.out hlq ?_)
        intro v' w5 ho hf5 hn5
        rw [HM.out] at ho
        have hR5 := HR.out.read HA4.out.1 HA4.out.2 ho hf5 hn5
        obtain ⟨ga', gc', rfl⟩ := row_formB ho
        obtain ⟨GG, BB, HR2⟩ : ∃ GG BB, Hid (Read' w a c P A (.slice ga' GG.length gc') GG BB w5) ∧ GG = GOT ++ B.take z := ⟨_, _, Lib.hid hR5, rfl⟩
        obtain ⟨HR2, hGG⟩ := HR2
        rw [← hGG]
        have g8 := HR2.out.tail'
        clear hR5 ho hf5 hn5 HA4 hGG
        have hbl := HR2.out.bl
        have hl1 := Lib.hid (len_in HR2.out.2.1)
        have hl2 := Lib.hid (free_in HR2.out.2.1)
        have hl3 := Lib.hid (cap_in HR2.out.2.1)
        obtain ⟨l, hl⟩ : ∃ l, l = BB.length := ⟨_, rfl⟩
        obtain ⟨f, hf⟩ : ∃ f, f = c - l := ⟨_, rfl⟩
        rw [← hl] at hl1 hl2 hbl g8
        rw [← hf] at hl2
        have g1 : (l : Int) ≤ 4096 := by omega
        have g2 : (f : Int) ≤ 4096 := by omega
        have g3 : ((l : Int) + (f : Int) != (c : Int)) = false := by simp; omega
        have g4 : ((c : Int) != (c : Int)) = false := by simp
        have gA : (A : Int) ≤ 2000 := by omega
        have gG : (GG.length : Int) ≤ 2000 := by have := HR2.out.bl; omega
        clear hl hf hbl
        unfold pt at *
        go_wp2_with (first | (go_at_call 21; refine hl1.out.mono ?_; rintro e w9 ⟨rfl, rfl⟩) | (go_at_call 23; refine hl2.out.mono ?_; rintro e w9 ⟨rfl, rfl⟩) | (go_at_call 22; refine hl3.out.mono ?_; rintro e w9 ⟨rfl, rfl⟩))
        go_roundw
        case rel => exact ⟨k + 1, A, ga', gc', GG, BB, by omega, rfl, rfl, by go_num, HR2⟩
        case measure => simp [intOf]; omega
    · obtain rfl : k = Lp := by omega
      have hkk : decide ((k : Int) < (k : Int)) = false := by simp
      have hrd := read_in HR.out.2.1 (c : Int) (by omega)
      rw [Int.toNat_natCast, List.take_of_length_le HR.out.bl.1, List.drop_eq_nil_of_le HR.out.bl.1] at hrd
      have HRD := Lib.hid hrd
      clear hrd
      unfold pt at *
      go_wp2_with (go_at_call 13; fail)
      refine HRD.out.mono ?_
      rintro e w4 ⟨v, rfl, hrow, hA, hRR⟩
      have hrow4 := Lib.hid (HR.out.row_after hA).drew
      obtain ⟨va, vc, rfl⟩ := row_formB hrow
      have Hrow := Lib.hid hrow.drew
      have hRd := Lib.hid (hA.rg.grown (w' := w4.drew) ((Below.refl _ _).drew))
      have hsz4 : w.heap.size ≤ w4.drew.heap.size := hA.rg.below.size
      have hlq : GOT.length + B.length ≤ 100000 := by have := HR.out.bl; omega
      obtain ⟨S, hS⟩ : ∃ S, S = strB (P.take A) := ⟨_, rfl⟩
      have hGB : Hid (strB (GOT ++ B) = S) := Lib.hid (by rw [HR.out.2.2.1, hS])
      have hcv : Hid (∀ W, Below w.heap.size w W → (convert 24 9 (.slice ao A lc)).run Try.prog W = .ok (.string S) W) := by
        refine Lib.hid (fun W hb => ?_)
        rcases HS.out with ⟨rfl, rfl, rfl⟩ | ⟨rfl, rfl, x, rfl⟩ | ⟨b, off, rfl, hbl, hl, hm, h0, hLie⟩
        · obtain rfl : A = 0 := by omega
          rw [hS]; exact conv_nil W
        · obtain rfl : A = 0 := by omega
          rw [hS]; exact conv_empty W x 0
        · rw [hS]; exact conv_lies ((hLie.same (hb.block b hbl)).take A) (by have := HP.out; simp; omega)
      have hbw4 := hRd.out.below
      have hcv4 := hcv.out _ hbw4
      have hbq := beq_selfB S
      have hlc1 : L ≤ lc ∧ lc ≤ maxLen := by
        rcases HS.out with ⟨_, h, h'⟩ | ⟨h, h', _⟩ | ⟨_, _, _, _, h, h', _⟩
        · subst h; subst h'; exact ⟨Nat.le_refl _, Nat.zero_le _⟩
        · subst h; subst h'; exact ⟨Nat.le_refl _, Nat.zero_le _⟩
        · exact ⟨h, h'⟩
      have f3 : (A : Int) ≤ (lc : Int) := by omega
      have f4 : (lc : Int) ≤ 9223372036854775807 := by have := hlc1.2; unfold maxLen at this; omega
      have hbb := Lib.hid hbw4
      have hsl : ∀ (ρ : Operand → Value) (o : Oper) (W : World), o.op = .slice 24 (.tmp 147) none (some (.tmp 148)) none → ρ (.tmp 147) = .slice ao L lc → ρ (.tmp 148) = .int .i64 A → (execOp ρ o).run Try.prog W = .ok (.value (.slice ao A lc)) W := by
        intro ρ o W ho h1 h2
        rcases HS.out with ⟨rfl, rfl, rfl⟩ | ⟨rfl, rfl, x, rfl⟩ | ⟨b, off, rfl, hbl, hl, hm, h0, hLie⟩
        · obtain rfl : A = 0 := by omega
          unfold execOp
          rw [ho]
          simp [go_sem, h1, h2]
        · obtain rfl : A = 0 := by omega
          unfold execOp
          rw [ho]
          simp [go_sem, h1, h2]
        · unfold execOp
          rw [ho]
          have hA0 : (0 : Int) ≤ (A : Int) := by omega
          simp [go_sem, h1, h2, hA0, f3]
      have hbw4 := hbb.out
      go_wp2_with fail
      refine wp_region_float (fun W => Below w.heap.size w W) 11 [0, 1, 2, 3, 4, 7, 8, 9, 10] [5, 6] (by kernel_rfl) (by kernel_rfl) (fun _ _ _ d _ h => by cases d <;> exact h) hbw4 ?_
      simp only [List.map_cons, List.map_nil, List.getD_cons_zero, List.getD_cons_succ, List.drop_succ_cons, List.drop_zero]
      refine takes_move (.tmp 18) (.int .i64 0) rfl rfl rfl ?_
      simp only [Act.put, List.setIfInBounds_toArray, List.set_cons_zero, List.set_cons_succ]
      refine takes_by (.bool true) rfl (fun W _ => by go_simp) ?_
      simp only [Act.put, List.setIfInBounds_toArray, List.set_cons_zero, List.set_cons_succ]
      refine takes_move (.tmp 141) (.bool true) rfl rfl rfl ?_
      simp only [Act.put, List.setIfInBounds_toArray, List.set_cons_zero, List.set_cons_succ]
      refine takes_move (.tmp 9) (.slice ga GOT.length gc) rfl rfl rfl ?_
      simp only [Act.put, List.setIfInBounds_toArray, List.set_cons_zero, List.set_cons_succ]
      refine takes_move (.tmp 17) (.slice va B.length vc) rfl rfl rfl ?_
      simp only [Act.put, List.setIfInBounds_toArray, List.set_cons_zero, List.set_cons_succ]
      refine takes_move (.tmp 1) (.slice ao L lc) rfl rfl rfl ?_
      simp only [Act.put, List.setIfInBounds_toArray, List.set_cons_zero, List.set_cons_succ]
      refine takes_move (.tmp 10) (.int .i64 A) rfl rfl rfl ?_
      simp only [Act.put, List.setIfInBounds_toArray, List.set_cons_zero, List.set_cons_succ]
      refine takes_by (.slice ao A lc) rfl (fun W _ => hsl _ _ W rfl rfl rfl) ?_
      simp only [Act.put, List.setIfInBounds_toArray, List.set_cons_zero, List.set_cons_succ]
      refine takes_convert (.tmp 149) 24 9 (.slice ao A lc) (.string S) rfl rfl rfl hcv.out ?_
      simp only [Act.put, List.setIfInBounds_toArray, List.set_cons_zero, List.set_cons_succ]
      unfold wpTakes
      unfold wpMids
      refine step_append_rowB rfl (.tmp 143) (.tmp 144) rfl rfl rfl hrow4.out hsz4 Hrow.out hlq ?_
      intro v' w5 ho hf5 hn5
      have hst := row_str ho
      rw [hGB.out] at hst
      have hR5 := Lib.hid (hRd.out.append ho hrow4.out hf5 hn5)
      have hk5 := Lib.hid (known_any w5)
      have hl5 := Lib.hid (len_in hR5.out)
      refine ⟨hR5.out.below, ?_⟩
      simp only [Act.put, List.setIfInBounds_toArray, List.set_cons_zero, List.set_cons_succ]
      refine mids_convert (.tmp 145) 24 9 v' (.string S) rfl rfl rfl hst hR5.out.below ?_
      simp only [Act.put, List.setIfInBounds_toArray, List.set_cons_zero, List.set_cons_succ]
      unfold wpMids
      clear ho hf5 hn5 hst hcv4 hsl hrow4
      unfold pt at *
      go_wp2_with (first
        | (go_at_call 21; refine hl5.out.mono ?_; rintro e w9 ⟨rfl, rfl⟩)
        | (go_at_call 8; refine hk5.out.mono ?_; rintro e w9 ⟨rfl, hb9⟩))
      go_ret
      exact ⟨rfl, hR5.out.below.trans (hb9.mono hR5.out.below.size)⟩

set_option maxRecDepth 100000 in
set_option maxHeartbeats 1600000 in
theorem ringHolds_out (c : Int) (ao : Option Addr) (L lc : Nat) (hL : L ≤ maxLen) (ap : Option Addr) (Lp cp : Nat) (hLp : Lp ≤ maxLen) (h : c < 1 ∨ 4096 < c ∨ 2000 < L ∨ 200 < Lp) (w : World) :
    Calls Try.prog 7 #[.int .i64 c, .slice ao L lc, .slice ap Lp cp] w fun e w' => e = .returned (.bool true) ∧ Below w.heap.size w w' := by
  have hk := Lib.hid (known_any w)
  have hm : (L : Int) ≤ 9223372036854775807 := by unfold maxLen at hL; omega
  have hm2 : (Lp : Int) ≤ 9223372036854775807 := by unfold maxLen at hLp; omega
  clear hL hLp
  rcases (by omega : c < 1 ∨ (1 ≤ c ∧ 4096 < c) ∨ (1 ≤ c ∧ c ≤ 4096 ∧ (2000 : Int) < (L : Int)) ∨ (1 ≤ c ∧ c ≤ 4096 ∧ (L : Int) ≤ 2000 ∧ (200 : Int) < (Lp : Int))) with h1 | ⟨f1, h1⟩ | ⟨f1, f2, h1⟩ | ⟨f1, f2, f3, h1⟩
  all_goals (
    clear h
    go_enter Try.func7, Try.ntmps7
    go_wp2_with (go_at_call 8; refine hk.out.mono ?_; rintro e w5 ⟨rfl, hb⟩)
    go_ret
    exact ⟨rfl, hb⟩)

theorem ringHolds_walk (c : Int) (a : Option Addr) (len cap : Nat) (zs : List Int) (a2 : Option Addr) (len2 cap2 : Nat) (zs2 : List Int) (w : World) (_ : (Lit.int .i64 c).wf = true) (hr : IsRow .u8 w a len cap zs) (hr2 : IsRow .u8 w a2 len2 cap2 zs2) :
    Calls Try.prog 7 #[.int .i64 c, .slice a len cap, .slice a2 len2 cap2] w fun e w' => e = .returned (.bool true) ∧ Below w.heap.size w w' := by
  by_cases h : c < 1 ∨ 4096 < c ∨ 2000 < len ∨ 200 < len2
  · exact ringHolds_out c a len cap (isRow_le hr) a2 len2 cap2 (isRow_le hr2) h w
  · obtain ⟨d, rfl⟩ : ∃ d : Nat, c = d := ⟨c.toNat, by omega⟩
    obtain ⟨hl, hs⟩ := bytes_in' hr
    obtain ⟨hl2, hs2⟩ := bytes_in' hr2
    exact ringHolds_walk0 d (by omega) (by omega) a len cap _ hl (by omega) a2 len2 cap2 _ hl2 (by omega) w hs hs2
end Go.Proofs.Ytilafgemgdjfhaa
