/- PollerWakes, without any memory: the states of its walk. -/
import Derived.Test.YtdbkbaealfcmoaaGreatDoorUWkP
import Derived.Test.YtdbkbaealfcmoaaGreatDoorUKnown
namespace Go.Proofs.YtdbkbaealfcmoaaGreatDoor
open Go.RowKit Go.Sort
set_option linter.unusedVariables false
set_option linter.unusedSimpArgs false
/-- The table with two descriptors. -/
def wT : Sl.Tab := ((List.replicate 128 ⟨false, 0, 0⟩).set 0 ⟨true, 0, 1⟩).set 1 ⟨true, 0, 2⟩
theorem wT_0 : wT[0]? = some ⟨true, 0, 1⟩ := by kernel_rfl
theorem wT_1 : wT[1]? = some ⟨true, 0, 2⟩ := by kernel_rfl
/-- The first i tasks wait. -/
def pW (f : Nat → Sp) (c i : Nat) : Px := ⟨wT, zQ f c i, 10, fun _ => Dl.never, List.replicate c 0⟩
def pO (c : Nat) : Px := { X0 c 10 with T := (List.replicate 128 ⟨false, 0, 0⟩).set 0 ⟨true, 0, 1⟩ }
theorem pO_open (c : Nat) : opnC (X0 c 10) 1 = ((0, 0), 0, pO c) := by
  have h1 : Sl.free (X0 c 10).T = 0 := by show Sl.free (List.replicate 128 ⟨false, 0, 0⟩) = 0; kernel_rfl
  have h2 : (X0 c 10).T[0]? = some ⟨false, 0, 0⟩ := by show (List.replicate 128 (⟨false, 0, 0⟩ : Sl.Pl))[0]? = _; kernel_rfl
  unfold opnC
  rw [h1, h2]
  rfl
theorem pO_open2 (f : Nat → Sp) (c : Nat) : opnC (pO c) 2 = ((1, 0), 0, pW f c 0) := by
  have h1 : Sl.free (pO c).T = 1 := by show Sl.free ((List.replicate 128 ⟨false, 0, 0⟩).set 0 ⟨true, 0, 1⟩) = 1; kernel_rfl
  have h2 : (pO c).T[1]? = some ⟨false, 0, 0⟩ := by show ((List.replicate 128 (⟨false, 0, 0⟩ : Sl.Pl)).set 0 ⟨true, 0, 1⟩)[1]? = _; kernel_rfl
  have h3 : Z0 c = zQ f c 0 := by simp [Z0, zQ, qS, qL]
  unfold opnC
  rw [h1, h2]
  show (((((1 : Nat) : Int), ((0 : Nat) : Int)), (0 : Int), ({ X0 c 10 with T := wT } : Px))) = _
  unfold pW X0
  rw [h3]
  rfl
theorem pW_start {f : Nat → Sp} {c i : Nat} (hi : i < c) : staC (pW f c i) ((i : Nat) : Int) = (0, ⟨wT, ⟨(qS c i).set i 1, [((i : Nat) : Int)], qL f i⟩, 10, fun _ => Dl.never, List.replicate c 0⟩) := by
  have h := zQ_start (f := f) hi
  have e : (pW f c i).z = zQ f c i := rfl
  have e2 : (pW f c i).R = List.replicate c 0 := rfl
  have h3 : (List.replicate c (0 : Int)).set i 0 = List.replicate c 0 := by
    refine List.ext_getElem? fun j => ?_
    rw [List.getElem?_set]
    by_cases hj : i = j
    · subst hj; simp [hi]
    · simp [hj]
  unfold staC
  rw [e, h, e2]
  simp only [if_true, Int.toNat_natCast, h3]
  rfl
def fdW (n : Int) : Prop := n = 0 ∨ n = 1
theorem pW_code {z : Zt} {now : Int} {g : Nat → Int} {R : List Int} {s : Sp} (h : s ∈ spots4) : Px.code ⟨wT, z, now, g, R⟩ s.1 0 s.2 = 0 := by
  have h1 : fdI wT 0 0 = some (0, ⟨true, 0, 1⟩) := by kernel_rfl
  have h2 : fdI wT 1 0 = some (1, ⟨true, 0, 2⟩) := by kernel_rfl
  simp only [spots4, List.mem_cons, List.not_mem_nil, or_false] at h
  rcases h with rfl | rfl | rfl | rfl <;> (unfold Px.code; simp [h1, h2])
theorem spots4_ok {s : Sp} (h : s ∈ spots4) : SpOk s := by
  simp only [spots4, List.mem_cons, List.not_mem_nil, or_false] at h
  rcases h with rfl | rfl | rfl | rfl <;> decide
theorem pW_wait {f : Nat → Sp} {c i : Nat} (hi : i < c) (hf : f i ∈ spots4) : waiC ⟨wT, ⟨(qS c i).set i 1, [((i : Nat) : Int)], qL f i⟩, 10, fun _ => Dl.never, List.replicate c 0⟩ ((i : Nat) : Int) (f i).1 0 (f i).2 = (0, pW f c (i + 1)) := by
  have hl : ((qS c i).set i 1).length = c := by simp [qS]; omega
  have hst : stC ⟨(qS c i).set i 1, [((i : Nat) : Int)], qL f i⟩ ((i : Nat) : Int) = (1, 0) := by
    unfold stC
    rw [numI_at (by rw [hl]; exact hi)]
    have : i < (qS c i).length := by rw [← List.length_set (i := i) (a := (1 : Int)), hl]; exact hi
    simp [List.getD_eq_getElem?_getD, this]
  have hc := pW_code (z := ⟨(qS c i).set i 1, [((i : Nat) : Int)], qL f i⟩) (now := 10) (g := fun _ => Dl.never) (R := List.replicate c 0) hf
  have hp := zQ_park (f := f) hi (spots4_ok hf)
  unfold waiC
  simp only [hst, hc]
  simp only [ne_eq, not_true_eq_false, if_false]
  rw [if_neg (by unfold Dl.never; omega)]
  show ((pkC ⟨(qS c i).set i 1, [((i : Nat) : Int)], qL f i⟩ ((i : Nat) : Int) (f i)).1, _) = _
  rw [show ((f i).1, (f i).2) = f i from rfl, hp]
  rfl
/-- What the walk keeps of a state in which some spots are woken. -/
structure WkS (f : Nat → Sp) (c : Nat) (l : List Sp) (y : Int) (x : Px) : Prop where
  z : x.z = (zQ f c c).leaves (wlL f c l)
  R : x.R = setR (List.replicate c 0) (cat (wlL f c l)) y
theorem cat_app (a b : List Nat) : cat (a ++ b) = cat a ++ cat b := by simp [cat]
theorem WkS.wake {f : Nat → Sp} {c : Nat} {l : List Sp} {y : Int} {x : Px} (h : WkS f c l y x) {s : Sp} (hs : SpOk s) (hn : s ∉ l) : (x.wake s y).1 = cat (qs f s c) ∧ WkS f c (l ++ [s]) y (x.wake s y).2 ∧ (x.wake s y).2.T = x.T ∧ (x.wake s y).2.now = x.now ∧ (x.wake s y).2.f = x.f := by
  rw [wake_more h.z hs hn]
  exact ⟨rfl, ⟨rfl, by show setR x.R _ y = _; rw [h.R, setR_app, wlL_app, cat_app]⟩, rfl, rfl, rfl⟩
theorem wks_0 (f : Nat → Sp) (c : Nat) (y : Int) {x : Px} (hz : x.z = zQ f c c) (hR : x.R = List.replicate c 0) : WkS f c [] y x := ⟨by rw [hz]; rfl, by rw [hR]; rfl⟩
theorem closeA (f : Nat → Sp) (c : Nat) : (cloC (pW f c c) 0 0).1 = cat (qs f (0, 0) c) ++ cat (qs f (0, 1) c) ∧ (cloC (pW f c c) 0 0).2.1 = 0 ∧ WkS f c [(0, 0), (0, 1)] 3 (cloC (pW f c c) 0 0).2.2 ∧ (cloC (pW f c c) 0 0).2.2.T = wT.set 0 ⟨false, 1, 0⟩ := by
  have h1 : fdI (pW f c c).T 0 0 = some (0, ⟨true, 0, 1⟩) := by show fdI wT 0 0 = _; kernel_rfl
  have h0 := wks_0 f c 3 (x := (pW f c c).shut 0 ⟨true, 0, 1⟩) rfl rfl
  obtain ⟨a1, a2, a3, _, _⟩ := h0.wake (s := (0, 0)) (by decide) (by simp)
  obtain ⟨b1, b2, b3, _, _⟩ := a2.wake (s := (0, 1)) (by decide) (by decide)
  unfold cloC
  rw [h1]
  exact ⟨by show _ ++ _ = _; rw [show (((0 : Nat) : Int), (0 : Int)) = ((0, 0) : Sp) from rfl, show (((0 : Nat) : Int), (1 : Int)) = ((0, 1) : Sp) from rfl, a1, b1], rfl, b2, b3.trans (a3.trans rfl)⟩
theorem closeB {f : Nat → Sp} {c : Nat} {x : Px} (h : WkS f c [(0, 0), (0, 1)] 3 x) (hT : x.T = wT.set 0 ⟨false, 1, 0⟩) : (cloC x 1 0).1 = cat (qs f (1, 0) c) ++ cat (qs f (1, 1) c) ∧ (cloC x 1 0).2.1 = 0 ∧ WkS f c spots4 3 (cloC x 1 0).2.2 := by
  have h1 : fdI x.T 1 0 = some (1, ⟨true, 0, 2⟩) := by rw [hT]; kernel_rfl
  have h0 : WkS f c [(0, 0), (0, 1)] 3 (x.shut 1 ⟨true, 0, 2⟩) := ⟨h.z, h.R⟩
  obtain ⟨a1, a2, _, _, _⟩ := h0.wake (s := (1, 0)) (by decide) (by decide)
  obtain ⟨b1, b2, _, _, _⟩ := a2.wake (s := (1, 1)) (by decide) (by decide)
  unfold cloC
  rw [h1]
  exact ⟨by show _ ++ _ = _; rw [show (((1 : Nat) : Int), (0 : Int)) = ((1, 0) : Sp) from rfl, show (((1 : Nat) : Int), (1 : Int)) = ((1, 1) : Sp) from rfl, a1, b1], rfl, b2⟩
/-- The deadlines from i on are set. -/
def fD (i : Nat) : Nat → Int := fun p => if i ≤ p ∧ p < 4 then 20 else Dl.never
theorem fD_4 : (fun _ => Dl.never) = fD 4 := by
  funext p
  unfold fD
  rw [if_neg (by omega)]
theorem fD_upd {i : Nat} (h : i < 4) : Dl.upd (fD (i + 1)) i 20 = fD i := by
  funext p
  unfold Dl.upd fD
  by_cases e : p = i
  · subst e; simp [h]
  · by_cases e2 : i + 1 ≤ p ∧ p < 4
    · rw [if_neg e, if_pos e2, if_pos ⟨by omega, e2.2⟩]
    · rw [if_neg e, if_neg e2, if_neg (by omega)]
def pD (f : Nat → Sp) (c i : Nat) (now : Int) : Px := ⟨wT, zQ f c c, now, fD i, List.replicate c 0⟩
theorem pW_pD (f : Nat → Sp) (c : Nat) : pW f c c = pD f c 4 10 := by unfold pW pD; rw [fD_4]
theorem pD_set (f : Nat → Sp) (c : Nat) {i : Nat} (h : i < 4) : dlnC (pD f c (i + 1) 10) ((i / 2 : Nat) : Int) 0 ((i % 2 : Nat) : Int) 20 = ([], 0, pD f c i 10) := by
  have hm : ((((i / 2 : Nat) : Int)), (((i % 2 : Nat) : Int))) ∈ spots4 := by
    have : i = 0 ∨ i = 1 ∨ i = 2 ∨ i = 3 := by omega
    rcases this with rfl | rfl | rfl | rfl <;> decide
  have hc := pW_code (z := zQ f c c) (now := 10) (g := fD (i + 1)) (R := List.replicate c 0) hm
  have hp : plI ((i / 2 : Nat) : Int) ((i % 2 : Nat) : Int) = i := by unfold plI; omega
  unfold dlnC
  have hc' : (pD f c (i + 1) 10).code ((i / 2 : Nat) : Int) 0 ((i % 2 : Nat) : Int) = 0 := hc
  rw [hc']
  simp only [ne_eq, not_true_eq_false, if_false]
  rw [if_neg (by show ¬ (20 : Int) ≤ 10; omega), hp]
  show ([], 0, ({ pD f c (i + 1) 10 with f := Dl.upd (fD (i + 1)) i 20 } : Px)) = _
  rw [fD_upd h]
  rfl
theorem lapD_1 : Dl.IsLap 10 19 (fD 0) [] := by
  refine ⟨List.Pairwise.nil, fun x => ⟨fun h => by simp at h, fun ⟨_, _, h3, h4⟩ => ?_⟩⟩
  unfold fD Dl.never at h3 h4
  split at h3 <;> split at h4 <;> omega
theorem lapD_2 : Dl.IsLap 19 20 (fD 0) [(20, 0), (20, 1), (20, 2), (20, 3)] := by
  refine ⟨by simp [Dl.ltL], fun x => ⟨fun h => ?_, fun ⟨h1, h2, h3, h4⟩ => ?_⟩⟩
  · simp only [List.mem_cons, List.not_mem_nil, or_false] at h
    rcases h with rfl | rfl | rfl | rfl <;> simp [fD]
  · obtain ⟨a, b⟩ := x
    simp only at h1 h2 h3 h4
    by_cases hb : b < 4
    · have : fD 0 b = 20 := by unfold fD; rw [if_pos ⟨Nat.zero_le _, hb⟩]
      rw [this] at h2
      subst h2
      have : b = 0 ∨ b = 1 ∨ b = 2 ∨ b = 3 := by omega
      rcases this with rfl | rfl | rfl | rfl <;> simp
    · have : fD 0 b = Dl.never := by unfold fD; rw [if_neg (by omega)]
      rw [this] at h4
      unfold Dl.never at h4
      omega
theorem advD (f : Nat → Sp) (c : Nat) : (((pD f c 0 19).at' 20).wakes [(20, 0), (20, 1), (20, 2), (20, 3)]).1 = cat (wlL f c spots4) ∧ WkS f c spots4 2 (((pD f c 0 19).at' 20).wakes [(20, 0), (20, 1), (20, 2), (20, 3)]).2 := by
  have h0 := wks_0 f c 2 (x := (pD f c 0 19).at' 20) rfl rfl
  obtain ⟨a1, a2, _, _, _⟩ := h0.wake (s := (0, 0)) (by decide) (by simp)
  obtain ⟨b1, b2, _, _, _⟩ := a2.wake (s := (0, 1)) (by decide) (by decide)
  obtain ⟨c1, c2, _, _, _⟩ := b2.wake (s := (1, 0)) (by decide) (by decide)
  obtain ⟨d1, d2, _, _, _⟩ := c2.wake (s := (1, 1)) (by decide) (by decide)
  unfold Px.wakes
  simp only [List.foldl_cons, List.foldl_nil]
  rw [show spP 0 = ((0, 0) : Sp) by kernel_rfl, show spP 1 = ((0, 1) : Sp) by kernel_rfl, show spP 2 = ((1, 0) : Sp) by kernel_rfl, show spP 3 = ((1, 1) : Sp) by kernel_rfl]
  refine ⟨?_, d2⟩
  rw [a1, b1, c1, d1]
  unfold wlL spots4
  simp [cat]
end Go.Proofs.YtdbkbaealfcmoaaGreatDoor
