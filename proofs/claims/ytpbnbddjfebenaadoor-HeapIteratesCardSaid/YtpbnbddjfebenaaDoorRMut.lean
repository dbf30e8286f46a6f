/- The reference heap: Push, Change and Remove. -/
import Derived.Test.YtpbnbddjfebenaaDoorRRef
import Derived.Deep.RegionLaw
namespace Go.Proofs.YtpbnbddjfebenaaDoor
open Go.RowKit Go.Sort
set_option linter.unusedVariables false
set_option linter.unusedSimpArgs false

/-- append within the capacity of a row that a call owns, as one step of a region that draws. -/
theorem step_append_fits {P : Program} {ops : Array Oper} {o : Oper} {a : Act} {w : World} {K : Act → World → Prop} {Q : Exit → Act → World → Prop} {E : Prop}
    (hg : o.guard = none) (s x : Operand) (t : TypeId) (hop : o.op = Op.call { callee := Callee.builtin Builtin.append, args := #[s, x], argTypes := #[t, t] })
    (base : Nat) (e : TypeId) (i : TypeInfo) (size : Nat) (h1 : P.underlying t = some (.slice e)) (h2 : P.info? e = some i) (h4 : i.size = size)
    (g k cap : Nat) (xs : List Value) (hs : a.eval s = .slice (some ⟨g, 0, none⟩) k cap) (hown : w.ownsRow base e size (.slice (some ⟨g, 0, none⟩) k cap) k xs) (ad : Addr) (m c : Nat) (news : List Value) (hx : a.eval x = .slice (some ad) m c) (hn : news.length = m * size)
    (hc : ∀ j u, news[j]? = some u → w.cell? (ad.add j) = some u) (h1c : ∀ u ∈ news, u.oneCell' = true) (b1 : k + m ≤ cap)
    (hK : ∀ w', w'.ownsRow base e size (.slice (some ⟨g, 0, none⟩) (k + m) cap) (k + m) (xs ++ news) → w.grownBy w' (some g) → K (a.put o.dst (.slice (some ⟨g, 0, none⟩) (k + m) cap)) w') :
    if Region.wanted o (yielded ops a.tmps) = true then Oper.wp P o a w K Q else E := by
  have hw : Region.wanted o (yielded ops a.tmps) = true := by simp [Region.wanted, hg]
  rw [if_pos hw]
  obtain ⟨w', hrun, r1, r2⟩ := run_append_fits (P := P) w base t o.type e i size h1 h2 h4 g k cap xs hown ad m c news hn hc h1c b1
  unfold Oper.wp
  simp [execOp, hop, resolve, invoke, builtin, hs, hx, hrun, Result.andThen]
  exact hK w' r1 r2

theorem row_prefix {w : World} {base e size n cap g : Nat} {xs : List Value} (h : w.ownsRow base e size (.slice (some ⟨g, 0, none⟩) n cap) n xs) (i : Nat) (hi : i ≤ n) :
    w.ownsRow base e size (.slice (some ⟨g, 0, none⟩) i cap) i (xs.take (i * size)) := by
  have hle : i * size ≤ n * size := Nat.mul_le_mul_right _ hi
  refine ⟨by rw [List.length_take, h.1]; omega, ?_⟩
  rcases h.2 with ⟨h', _⟩ | ⟨g', cap', cur, hv, hb, hg, hnc, hcm, hcs, htake⟩
  · simp at h'
  · simp only [Value.slice.injEq, Option.some.injEq, Addr.mk.injEq, and_true, true_and] at hv
    obtain ⟨rfl, rfl⟩ := hv
    refine .inr ⟨g, cap, cur, rfl, hb, hg, by omega, hcm, hcs, ?_⟩
    rw [← htake, List.take_take, Nat.min_eq_left hle]

theorem cellsS_take : ∀ (S : List El) (i : Nat), (cellsS S).take (i * 3) = cellsS (S.take i)
  | [], i => by simp [cellsS]
  | e :: S, 0 => by simp [cellsS]
  | e :: S, i + 1 => by
    rw [show (i + 1) * 3 = i * 3 + 1 + 1 + 1 by omega]
    simp only [cellsS, List.take_succ_cons]
    rw [cellsS_take S i]
theorem cellsS_drop (S : List El) (i : Nat) (hi : i ≤ S.length) (j : Nat) : (cellsS (S.drop i))[j]? = (cellsS S)[i * 3 + j]? := by
  conv => rhs; rw [← List.take_append_drop i S, cellsS_append]
  rw [List.getElem?_append_right (by rw [cellsS_len, List.length_take]; omega), cellsS_len, List.length_take, Nat.min_eq_left hi]
  congr 1
  omega
theorem cellsS_set : ∀ (S : List El) (i : Nat) (e : El) (k : Int), S[i]? = some e → (cellsS S).set (i * 3 + 2) (.int .u64 k) = cellsS (S.set i ⟨e.h, e.v, k⟩)
  | [], i, e, k, h => by simp at h
  | x :: S, 0, e, k, h => by simp at h; subst h; rfl
  | x :: S, i + 1, e, k, h => by
    have := cellsS_set S i e k (by simpa using h)
    rw [show (i + 1) * 3 + 2 = i * 3 + 2 + 1 + 1 + 1 by omega]
    simp [cellsS, this]

theorem hs_get {S : List El} {i : Nat} {e : El} (h : S[i]? = some e) : (hsOf S)[i]? = some e.h := by simp [hsOf, h]
theorem hs_inj {S : List El} (hnd : (hsOf S).Nodup) {i j : Nat} {e f : El} (hi : S[i]? = some e) (hj : S[j]? = some f) (he : e.h = f.h) : i = j := by
  have h1 := hs_get hi
  have h2 := hs_get hj
  obtain ⟨l1, e1⟩ := List.getElem?_eq_some_iff.1 h1
  obtain ⟨l2, e2⟩ := List.getElem?_eq_some_iff.1 h2
  exact (List.getElem_inj hnd).1 (by rw [e1, e2, he])
theorem removeS_eq : ∀ (S : List El) (i : Nat) (e : El), (hsOf S).Nodup → S[i]? = some e → removeS S e.h = S.take i ++ S.drop (i + 1)
  | [], i, e, _, h => by simp at h
  | x :: S, 0, e, hnd, h => by
    simp at h; subst h
    have hne : ∀ y, y ∈ S → ¬ y.h = x.h := fun y hy q => (List.nodup_cons.1 hnd).1 (by rw [← q]; exact List.mem_map_of_mem hy)
    unfold removeS
    simp
    exact hne
  | x :: S, i + 1, e, hnd, h => by
    have h' : S[i]? = some e := by simpa using h
    have ih := removeS_eq S i e (List.nodup_cons.1 hnd).2 h'
    have hne : x.h ≠ e.h := fun q => (List.nodup_cons.1 hnd).1 (by rw [q]; exact List.mem_map_of_mem (List.mem_of_getElem? h'))
    unfold removeS at ih ⊢
    rw [List.filter_cons_of_pos (by simpa using hne), ih]
    simp
theorem changeS_eq : ∀ (S : List El) (i : Nat) (e : El) (k : Int), (hsOf S).Nodup → S[i]? = some e → changeS S e.h k = S.set i ⟨e.h, e.v, k⟩
  | [], i, e, k, _, h => by simp at h
  | x :: S, 0, e, k, hnd, h => by
    simp at h; subst h
    have hne : ∀ y, y ∈ S → ¬ y.h = x.h := fun y hy q => (List.nodup_cons.1 hnd).1 (by rw [← q]; exact List.mem_map_of_mem hy)
    have : changeS S x.h k = S := by
      unfold changeS
      conv => rhs; rw [← List.map_id S]
      refine List.map_congr_left fun y hy => ?_
      rw [if_neg (hne y hy)]
      rfl
    unfold changeS at this ⊢
    simp [this]
  | x :: S, i + 1, e, k, hnd, h => by
    have h' : S[i]? = some e := by simpa using h
    have ih := changeS_eq S i e k (List.nodup_cons.1 hnd).2 h'
    have hne : x.h ≠ e.h := fun q => (List.nodup_cons.1 hnd).1 (by rw [q]; exact List.mem_map_of_mem (List.mem_of_getElem? h'))
    unfold changeS at ih ⊢
    simp [hne, ih]
end Go.Proofs.YtpbnbddjfebenaaDoor
