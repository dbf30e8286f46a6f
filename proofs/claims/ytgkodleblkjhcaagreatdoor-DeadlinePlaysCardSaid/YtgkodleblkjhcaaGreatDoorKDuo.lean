/- KDuo: JDuo, merged. -/
import Derived.Test.YtgkodleblkjhcaaGreatDoorKLaw
/- Two deadlines side by side. -/
namespace Go.Proofs.YtgkodleblkjhcaaGreatDoor
open Go.RowKit Go.Sort
set_option linter.unusedVariables false
set_option linter.unusedSimpArgs false

/-- The deadlines' own blocks are F, and what these hold is all that counts. -/
structure TrJ (w0 W : World) (a : Nat) (S : Int) (gs : Nat → Int) (P : Nat) (F : Nat → Prop) : Prop where
  lo : ∀ k, F k → w0.heap.size ≤ k ∧ k < W.heap.size
  tr : ∀ (w0' : World) (G' : Nat → Prop) (w' : World), w'.os = W.os → w'.tape = W.tape → w'.output = W.output → W.heap.size ≤ w'.heap.size → (∀ k, F k → w'.heap[k]? = W.heap[k]?) → Below w0'.heap.size w0' w' →
      (∀ k, F k → w0'.heap.size ≤ k ∧ ¬ G' k) → (∀ k, G' k → k < w'.heap.size) → JAt w0' G' w' a S gs P
theorem JAt.tr {w0 W : World} {G : Nat → Prop} {a : Nat} {S : Int} {gs : Nat → Int} {P : Nat} (T : JAt w0 G W a S gs P) : ∃ F : Nat → Prop, TrJ w0 W a S gs P F ∧ ∀ k, F k → ¬ G k := by
  obtain ⟨F, h1, h2⟩ := T.foot
  exact ⟨F, ⟨fun k hk => ⟨(h1 k hk).1, (h1 k hk).2.1⟩, h2⟩, fun k hk => (h1 k hk).2.2⟩
theorem TrJ.keep {w0 W w' : World} {a : Nat} {S : Int} {gs : Nat → Int} {P : Nat} {F : Nat → Prop} (t : TrJ w0 W a S gs P F) (ho : w'.os = W.os) (ht : w'.tape = W.tape) (hp : w'.output = W.output) (hs : W.heap.size ≤ w'.heap.size) (hk : ∀ k, F k → w'.heap[k]? = W.heap[k]?) : TrJ w0 w' a S gs P F :=
  ⟨fun k h => ⟨(t.lo k h).1, Nat.lt_of_lt_of_le (t.lo k h).2 hs⟩, fun w0' G' w'' h1 h2 h3 h4 h5 => t.tr w0' G' w'' (h1.trans ho) (h2.trans ht) (h3.trans hp) (Nat.le_trans hs h4) (fun k h => (h5 k h).trans (hk k h))⟩

structure DuoJ (w0 W : World) (R : Nat → Prop) (a : Nat) (S1 : Int) (g1 : Nat → Int) (c : Nat) (S2 : Int) (g2 : Nat → Int) (P : Nat) : Prop where
  ex : ∃ F1 F2 : Nat → Prop, TrJ w0 W a S1 g1 P F1 ∧ TrJ w0 W c S2 g2 P F2 ∧ (∀ k, F1 k → ¬ F2 k) ∧ (∀ k, F1 k → ¬ R k) ∧ (∀ k, F2 k → ¬ R k)
  lt : ∀ k, R k → k < W.heap.size
  below : Below w0.heap.size w0 W

namespace DuoJ
variable {w0 W : World} {R : Nat → Prop} {a c : Nat} {S1 S2 : Int} {g1 g2 : Nat → Int} {P : Nat}
theorem swap (D : DuoJ w0 W R a S1 g1 c S2 g2 P) : DuoJ w0 W R c S2 g2 a S1 g1 P := by
  obtain ⟨F1, F2, t1, t2, h1, h2, h3⟩ := D.ex
  exact ⟨⟨F2, F1, t2, t1, fun k hk hf => h1 k hf hk, h3, h2⟩, D.lt, D.below⟩
theorem left (D : DuoJ w0 W R a S1 g1 c S2 g2 P) : JAt w0 R W a S1 g1 P := by
  obtain ⟨F1, F2, t1, t2, h1, h2, h3⟩ := D.ex
  exact t1.tr w0 R W rfl rfl rfl (Nat.le_refl _) (fun _ _ => rfl) D.below (fun k hk => ⟨(t1.lo k hk).1, h2 k hk⟩) D.lt
theorem grown {w' : World} (D : DuoJ w0 W R a S1 g1 c S2 g2 P) (hb : Below W.heap.size W w') : DuoJ w0 w' R a S1 g1 c S2 g2 P := by
  obtain ⟨F1, F2, t1, t2, h1, h2, h3⟩ := D.ex
  exact ⟨⟨F1, F2, t1.keep hb.os hb.tape hb.output hb.size (fun k hk => hb.block k (t1.lo k hk).2), t2.keep hb.os hb.tape hb.output hb.size (fun k hk => hb.block k (t2.lo k hk).2), h1, h2, h3⟩, fun k hk => Nat.lt_of_lt_of_le (D.lt k hk) hb.size, D.below.trans (hb.mono D.below.size)⟩
/-- A call of the first one. -/
theorem callL (D : DuoJ w0 W R a S1 g1 c S2 g2 P) : ∃ G : Nat → Prop, JAt w0 G W a S1 g1 P ∧ (∀ k, R k → G k) ∧ ∀ (w' : World) (v : Value) (S1' : Int) (g1' : Nat → Int), JAt w0 (GV G v) w' a S1' g1' P → Keep G W w' → W.heap.size ≤ w'.heap.size → (∀ k, v.ownBlock = some k → W.heap.size ≤ k) → DuoJ w0 w' (GV R v) a S1' g1' c S2 g2 P := by
  obtain ⟨F1, F2, t1, t2, h1, h2, h3⟩ := D.ex
  have T : JAt w0 (fun k => R k ∨ F2 k) W a S1 g1 P := t1.tr w0 _ W rfl rfl rfl (Nat.le_refl _) (fun _ _ => rfl) D.below (fun k hk => ⟨(t1.lo k hk).1, fun h => by
    rcases h with h | h
    · exact h2 k hk h
    · exact h1 k hk h⟩) (fun k hk => by
    rcases hk with h | h
    · exact D.lt k h
    · exact (t2.lo k h).2)
  refine ⟨_, T, fun k hk => .inl hk, fun w' v S1' g1' T' K hs hv => ?_⟩
  obtain ⟨F1', t1', h1'⟩ := T'.tr
  have ho : w'.os = W.os := T'.below.os.trans T.below.os.symm
  have ht : w'.tape = W.tape := T'.below.tape.trans T.below.tape.symm
  have hp : w'.output = W.output := T'.below.output.trans T.below.output.symm
  refine ⟨⟨F1', F2, t1', t2.keep ho ht hp hs (fun k hk => K k (.inr hk)), fun k hk hf => h1' k hk (.inl (.inr hf)), fun k hk hr => h1' k hk ?_, fun k hk hr => ?_⟩, fun k hk => ?_, T'.below⟩
  · rcases hr with h | h
    · exact .inl (.inl h)
    · exact .inr h
  · rcases hr with h | h
    · exact h3 k hk h
    · have := hv k h; have := (t2.lo k hk).2; omega
  · rcases hk with h | h
    · exact Nat.lt_of_lt_of_le (D.lt k h) hs
    · exact T'.glt k (.inr h)
end DuoJ

theorem duoj_of_copy {w0 w w' : World} {a c : Nat} {S : Int} {gs : Nat → Int} {P : Nat} {G : Nat → Prop} (T : JAt w0 G w a S gs P) (hb : Below w.heap.size w w') (C : JAt w0 (fun k => k < w.heap.size) w' c S gs P) : DuoJ w0 w' G a S gs c S gs P := by
  obtain ⟨F1, t1, h1⟩ := T.tr
  obtain ⟨F2, t2, h2⟩ := C.tr
  refine ⟨⟨F1, F2, t1.keep hb.os hb.tape hb.output hb.size (fun k hk => hb.block k (t1.lo k hk).2), t2, fun k hk hf => h2 k hf (t1.lo k hk).2, h1, fun k hk hg => h2 k hk (T.glt k hg)⟩, fun k hk => Nat.lt_of_lt_of_le (T.glt k hk) hb.size, C.below⟩

theorem jAdv_duo {w0 W : World} {R : Nat → Prop} {a c : Nat} {S1 S2 : Int} {g1 g2 : Nat → Int} {P : Nat} (D : DuoJ w0 W R a S1 g1 c S2 g2 P) {tt : Int} (htt : tt < never) (hl : S1 ≤ tt) (hP : P ≤ 9223372036854775807) :
    Calls Tryz.prog 13 #[pt a, .int .u64 tt] W fun e w' => ∃ v L, e = .returned (.tuple #[v, .int .i64 0]) ∧ IsLap S1 tt g1 L ∧ RowL w' W.heap.size v L ∧ DuoJ w0 w' (GV R v) a tt g1 c S2 g2 P ∧ Keep R W w' ∧ W.heap.size ≤ w'.heap.size := by
  obtain ⟨G, T, hRG, hcont⟩ := D.callL
  refine (jAdv_yes T htt hl hP).mono ?_
  rintro e w' ⟨v, L, rfl, hL, hrow, T', K, hsz⟩
  exact ⟨v, L, rfl, hL, hrow, hcont w' v _ _ T' K hsz (fun k hk => (hrow.lt k hk).1), fun k hk => K k (hRG k hk), hsz⟩
end Go.Proofs.YtgkodleblkjhcaaGreatDoor
