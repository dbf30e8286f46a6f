/- Write of no bytes, wherever they lie; bytes that came in. -/
import Derived.Test.YtilafgemgdjfhaaBLaw
import Derived.ChangeSame
import Derived.Deep.Slices
namespace Go.Proofs.Ytilafgemgdjfhaa
open Go.RowKit Go.Sort
set_option linter.unusedVariables false
set_option linter.unusedSimpArgs false

section
variable {w0 w : World} {G : Nat → Prop} {a bb cc cp c f : Nat} {xs B : List UInt8}

set_option maxRecDepth 100000 in
set_option maxHeartbeats 1600000 in
theorem write_empty (R : RgB w0 G w a bb cc cp c f xs B) (x : Addr) (lc : Nat) (hlm : lc ≤ maxLen) :
    Calls Try.prog 11 #[pt a, .slice (some x) 0 lc] w fun e w' => e = .returned (.tuple #[.int .i64 0, .int .i64 0]) ∧ RgB w0 G w' a bb cc cp c f xs B ∧ Keep G w w' ∧ Fr [bb, cc] w w' := by
  have hpc := Lib.hid (pieces_in R B.length 0 (by have := R.cyc.bl; omega))
  have hp0 : hd c (wr c (f + B.length)) 0 = 0 := by unfold hd; omega
  rw [hp0] at hpc
  generalize wr c (f + B.length) = v at *
  have hu := Lib.hid (usable_yes a bb w R.ca)
  have hfr := Lib.hid (free_any R)
  have HR := Lib.hid R
  have ca := R.ca
  have c2 := R.c2
  have alt := R.alt
  have blt := R.blt
  obtain ⟨q, hq⟩ : ∃ q, q = c - B.length := ⟨_, rfl⟩
  rw [← hq] at hfr
  have e3 : (lc : Int) ≤ 9223372036854775807 := by unfold maxLen at hlm; omega
  have e4 : (q : Int) ≤ 4096 := by have := R.cyc.top; omega
  have e5 : (B.length : Int) ≤ 4096 := by have := R.cyc.top; have := R.cyc.bl; omega
  have hmin : min (0 : Int) (q : Int) = 0 := by omega
  clear hq R hp0 hlm
  have hlc : lc = 0 ∨ 0 < (lc : Int) := by omega
  unfold pt at *
  rcases hlc with rfl | hlc
  all_goals (
    go_enter Try.func11, Try.ntmps11
    go_wp2_with (first | (go_at_call 27; refine hu.out.mono ?_; rintro e w' ⟨rfl, rfl⟩) | (go_at_call 23; refine hfr.out.mono ?_; rintro e w' ⟨rfl, rfl⟩) | (go_at_call 28; fail))
    refine hpc.out.mono ?_
    rintro e w1 ⟨a1, a2, k, rfl, q1, q2, rfl⟩
    have R1 := Lib.hid (HR.out.drew k)
    have F1 := Lib.hid (fr_drewN w k [bb, cc])
    have C2 := R1.out.c2
    have kf : (w.drewN k).frozen? ⟨bb, 2, none⟩ = false := cells_free R1.out.tb 2
    have hbl : bb < (w.drewN k).heap.size := R1.out.blt
    clear q1 q2 c2
    generalize w.drewN k = W at *
    go_wp2_with (first
      | (with_reducible refine wpList_copy_nothing rfl (.tmp 38) (.tmp 39) 24 24 rfl 5 Try.underlying24 sizeU8 a1 _ _ _ _ _ rfl rfl rfl ?_)
      | (with_reducible refine wpList_copy_nothing rfl (.tmp 41) (.tmp 44) 24 24 rfl 5 Try.underlying24 sizeU8 a2 _ _ _ _ _ rfl rfl rfl ?_))
    go_ret2
    obtain ⟨r, hr, hl⟩ := R1.out.tc
    exact ⟨rfl, HR.out.counted F1.out R1.out.tb hr hl R1.out.cyc rfl⟩)
end

/-- A slice of numbers that came in. -/
def IsRow (k : IntKind) (w : World) (a : Option Addr) (len cap : Nat) (zs : List Int) : Prop :=
  (a = none ∧ len = 0 ∧ cap = 0 ∧ zs = []) ∨
  ∃ x, a = some x ∧ len ≤ cap ∧ cap ≤ maxLen ∧ zs.length = cap ∧ (∀ i, i < zs.length → w.cell? (x.add i) = some (.int k (zs.getD i 0))) ∧ ∀ n ∈ zs, (Lit.int k n).wf = true

/-- Bytes that a law may hand to Write: those of SrcB, or none at all. -/
def SrcE (w0 : World) (G : Nat → Prop) (w : World) (ao : Option Addr) (L lc : Nat) (P : List UInt8) : Prop :=
  SrcB w0 G w ao L lc P ∨ (P = [] ∧ L = 0 ∧ lc ≤ maxLen ∧ ∃ x, ao = some x)

def byt (z : Int) : UInt8 := UInt8.ofNat z.toNat
theorem encB_byt {z : Int} (h : (Lit.int .u8 z).wf = true) : encB (byt z) = .int .u8 z := by
  have h1 : 0 ≤ z ∧ z < 256 := by
    have e1 : IntKind.u8.min = 0 := rfl
    have e2 : IntKind.u8.max = 255 := rfl
    simp [Lit.wf, e1, e2] at h
    omega
  unfold encB byt
  have : (UInt8.ofNat z.toNat).toNat = z.toNat := by simp; omega
  rw [this]
  congr 1
  omega

/-- Bytes that came in: nil, none at all, or they lie in a block. -/
theorem bytes_in {w : World} {a : Option Addr} {len cap : Nat} {zs : List Int} (h : IsRow .u8 w a len cap zs) :
    (a = none ∧ len = 0 ∧ cap = 0) ∨ (len = 0 ∧ cap = 0 ∧ ∃ x, a = some x) ∨ ∃ b off, a = some ⟨b, off, none⟩ ∧ b < w.heap.size ∧ len ≤ cap ∧ cap ≤ maxLen ∧ 0 < cap ∧ zs.length = cap ∧ Lies w b off (zs.map byt) := by
  rcases h with ⟨rfl, rfl, rfl, rfl⟩ | ⟨x, rfl, hl, hm, hz, hcell, hwz⟩
  · exact .inl ⟨rfl, rfl, rfl⟩
  · by_cases h0 : cap = 0
    · exact .inr (.inl ⟨by omega, h0, x, rfl⟩)
    · obtain ⟨b, off, spot⟩ := x
      have hc := hcell 0 (by omega)
      have hspot : spot = none := by simpa [Addr.add] using World.cell?_spot hc
      subst hspot
      have hb : b < w.heap.size := World.block_lt_of_cell? w _ (by rw [Go.WideShapes.add_plain] at hc; exact hc)
      refine .inr (.inr ⟨b, off, rfl, hb, hl, hm, by omega, hz, fun i u hi => ?_⟩)
      rw [List.getElem?_map] at hi
      obtain ⟨z, hzi, rfl⟩ := Option.map_eq_some_iff.1 hi
      have hil := (List.getElem?_eq_some_iff.1 hzi).1
      have := hcell i hil
      rw [Go.WideShapes.add_plain] at this
      rw [this, encB_byt (hwz z (List.mem_of_getElem? hzi))]
      simp [List.getD, hzi]

theorem writeE_in {w0 w : World} {G : Nat → Prop} {a c : Nat} {B : List UInt8} (R : RgIn w0 G w a c B) {ao : Option Addr} {L lc : Nat} {P : List UInt8} (hs : SrcE w0 G w ao L lc P) (hP : P.length ≤ 65536) :
    Calls Try.prog 11 #[pt a, .slice ao L lc] w fun e w' => e = .returned (.tuple #[.int .i64 ((min P.length (c - B.length) : Nat) : Int), .int .i64 0]) ∧ Aft w0 G w w' a c (B ++ P.take (min P.length (c - B.length))) := by
  rcases hs with hs | ⟨rfl, rfl, hm, x, rfl⟩
  · exact write_in R hs hP
  · obtain ⟨bb, cc, cp, f, xs, R⟩ := R
    refine (write_empty R x lc hm).mono ?_
    rintro e w' ⟨rfl, R', K, F⟩
    exact ⟨by simp, ⟨⟨bb, cc, cp, f, xs, by simpa using R'⟩, K, F.size⟩⟩
end Go.Proofs.Ytilafgemgdjfhaa
