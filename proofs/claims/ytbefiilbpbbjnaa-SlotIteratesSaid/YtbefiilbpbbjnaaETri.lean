/- SlotHolds: three appends in one statement. -/
import Derived.Test.YtbefiilbpbbjnaaEG
import Derived.Test.YtbefiilbpbbjnaaEInv
import Derived.Great.BuildSlice
namespace Go.Proofs.Ytbefiilbpbbjnaa
open Go.RowKit Go.Sort
set_option linter.unusedVariables false
set_option linter.unusedSimpArgs false

def TN : GT Fd := ⟨64, 34, 2, fun f => [.int .i64 ((f.n : Nat) : Int), .int .i64 ((f.g : Nat) : Int)]⟩
def TV : GT Fd := ⟨65, 3, 1, fun f => [.int .i64 f.v]⟩
def TC : GT Fd := ⟨66, 4, 1, fun f => [.bool f.c]⟩
theorem infoFD : (Try.prog.info? 34).map (fun i => (i.zero, i.size, i.bytes)) = some (some (.agg #[.int .i64 0, .int .i64 0]), 2, 16) := by kernel_rfl
theorem infoI : (Try.prog.info? 3).map (fun i => (i.zero, i.size, i.bytes)) = some (some (.int .i64 0), 1, 8) := by kernel_rfl
theorem infoB : (Try.prog.info? 4).map (fun i => (i.zero, i.size, i.bytes)) = some (some (.bool false), 1, 1) := by kernel_rfl
theorem TN_ok : TN.Ok := by
  obtain ⟨i, h1, h2, h3, h4⟩ := info_parts infoFD
  refine ⟨fun x => rfl, fun x u hu => ?_, by decide, Try.underlying64, ⟨i, _, h1, h2, h3, by simp only [h4]; omega, rfl⟩⟩
  simp only [TN, List.mem_cons, List.not_mem_nil, or_false] at hu
  rcases hu with rfl | rfl <;> rfl
theorem TV_ok : TV.Ok := by
  obtain ⟨i, h1, h2, h3, h4⟩ := info_parts infoI
  refine ⟨fun x => rfl, fun x u hu => ?_, by decide, Try.underlying65, ⟨i, _, h1, h2, h3, by simp only [h4]; omega, rfl⟩⟩
  simp only [TV, List.mem_cons, List.not_mem_nil, or_false] at hu
  subst hu; rfl
theorem TC_ok : TC.Ok := by
  obtain ⟨i, h1, h2, h3, h4⟩ := info_parts infoB
  refine ⟨fun x => rfl, fun x u hu => ?_, by decide, Try.underlying66, ⟨i, _, h1, h2, h3, by simp only [h4]; omega, rfl⟩⟩
  simp only [TC, List.mem_cons, List.not_mem_nil, or_false] at hu
  subst hu; rfl

/-- New, or a part of none. -/
def Fresh (W : World) (v : Value) : Prop := ∀ g, v.ownBlock = some g → W.heap.size ≤ g
/-- How far the three appends have come: p counts the first slice, and the appends; b7, b10: the other two slices are made. -/
structure V3 (W : World) (base : Nat) (v1 v2 v3 : Value) (L : Fds) (x : Fd) (p : Nat) (b7 b10 : Bool) (u88 u89 u93 u94 u96 u97 : Value) (w : World) : Prop where
  fr : Fr (v1.ownBlock.toList ++ (v2.ownBlock.toList ++ v3.ownBlock.toList)) W w
  r1 : p < 2 → Row TN w base v1 L
  q1 : 2 ≤ p → Row TN w base u89 (L ++ [x])
  r2 : p < 3 → Row TV w base v2 L
  q2 : 3 ≤ p → Row TV w base u94 (L ++ [x])
  r3 : p < 4 → Row TC w base v3 L
  q3 : 4 ≤ p → Row TC w base u97 (L ++ [x])
  s1 : p = 1 → Src TN w u88 [x] ∧ Fresh W u88
  s2 : b7 = true → p < 3 → Src TV w u93 [x] ∧ Fresh W u93
  s3 : b10 = true → p < 4 → Src TC w u96 [x] ∧ Fresh W u96
section
variable {W w w' : World} {base p : Nat} {v1 v2 v3 u88 u89 u93 u94 u96 u97 u : Value} {L : Fds} {x : Fd} {b7 b10 : Bool}
theorem V3.below (h : V3 W base v1 v2 v3 L x p b7 b10 u88 u89 u93 u94 u96 u97 w) (hb : Below w.heap.size w w') : V3 W base v1 v2 v3 L x p b7 b10 u88 u89 u93 u94 u96 u97 w' :=
  ⟨h.fr.trans' (Fr.of_below hb _), fun hp => (h.r1 hp).below hb, fun hp => (h.q1 hp).below hb, fun hp => (h.r2 hp).below hb, fun hp => (h.q2 hp).below hb, fun hp => (h.r3 hp).below hb, fun hp => (h.q3 hp).below hb,
    fun hp => ⟨(h.s1 hp).1.grown hb, (h.s1 hp).2⟩, fun h7 hp => ⟨(h.s2 h7 hp).1.grown hb, (h.s2 h7 hp).2⟩, fun h10 hp => ⟨(h.s3 h10 hp).1.grown hb, (h.s3 h10 hp).2⟩⟩
theorem V3.b1 (h : V3 W base v1 v2 v3 L x 0 b7 b10 u88 u89 u93 u94 u96 u97 w) (hs : Src TN w u [x]) (hf : Fresh W u) : V3 W base v1 v2 v3 L x 1 b7 b10 u u89 u93 u94 u96 u97 w :=
  ⟨h.fr, fun _ => h.r1 (by omega), fun hp => by omega, fun _ => h.r2 (by omega), fun hp => by omega, fun _ => h.r3 (by omega), fun hp => by omega, fun _ => ⟨hs, hf⟩, fun h7 _ => h.s2 h7 (by omega), fun h10 _ => h.s3 h10 (by omega)⟩
theorem V3.b2 (h : V3 W base v1 v2 v3 L x p b7 b10 u88 u89 u93 u94 u96 u97 w) (hs : Src TV w u [x]) (hf : Fresh W u) : V3 W base v1 v2 v3 L x p true b10 u88 u89 u u94 u96 u97 w :=
  ⟨h.fr, h.r1, h.q1, h.r2, h.q2, h.r3, h.q3, h.s1, fun _ _ => ⟨hs, hf⟩, h.s3⟩
theorem V3.b3 (h : V3 W base v1 v2 v3 L x p b7 b10 u88 u89 u93 u94 u96 u97 w) (hs : Src TC w u [x]) (hf : Fresh W u) : V3 W base v1 v2 v3 L x p b7 true u88 u89 u93 u94 u u97 w :=
  ⟨h.fr, h.r1, h.q1, h.r2, h.q2, h.r3, h.q3, h.s1, h.s2, fun _ _ => ⟨hs, hf⟩⟩
theorem Row.other {α β : Type} {T : GT α} {T' : GT β} {b' : Nat} {v v' : Value} {X : List α} {Y : List β} (h : Row T w base v X) (h' : Row T' w b' v' Y) (hn : T.te ≠ T'.te) (hf : Fr v'.ownBlock.toList w w') : Row T w' base v X :=
  h.fr hf (fun g hg hm => row_row_ne h h' hn g g hg (by simpa using hm) rfl)
theorem Src.fresh {α β : Type} {T : GT α} {T' : GT β} {b' : Nat} {v v' : Value} {X : List α} {Y : List β} (h : Src T w v X) (hF : Fresh W v) (hv : ∀ g, v'.ownBlock = some g → g < W.heap.size) (hf : Fr v'.ownBlock.toList w w') : Src T w' v X :=
  h.fr hf (fun g hg hm => by have := hF g hg; have := hv g (by simpa using hm); omega)
theorem V3.c1 (h : V3 W base v1 v2 v3 L x 1 b7 b10 u88 u89 u93 u94 u96 u97 w) (hv : ∀ g, v1.ownBlock = some g → g < W.heap.size) (hr : Row TN w' base u (L ++ [x])) (hf : Fr v1.ownBlock.toList w w') : V3 W base v1 v2 v3 L x 2 b7 b10 u88 u u93 u94 u96 u97 w' := by
  have R1 := h.r1 (by omega)
  refine ⟨h.fr.trans' (hf.mono fun y hy => .inl (by simp at hy; simp [hy])), fun hp => by omega, fun _ => hr, fun _ => (h.r2 (by omega)).other R1 (by decide) hf, fun hp => by omega, fun _ => (h.r3 (by omega)).other R1 (by decide) hf, fun hp => by omega, fun hp => by omega, fun h7 _ => ?_, fun h10 _ => ?_⟩
  · obtain ⟨a, b⟩ := h.s2 h7 (by omega)
    exact ⟨a.fr hf (fun g hg hm => by have := b g hg; have := hv g (by simpa using hm); omega), b⟩
  · obtain ⟨a, b⟩ := h.s3 h10 (by omega)
    exact ⟨a.fr hf (fun g hg hm => by have := b g hg; have := hv g (by simpa using hm); omega), b⟩
theorem V3.c2 (h : V3 W base v1 v2 v3 L x 2 b7 b10 u88 u89 u93 u94 u96 u97 w) (hv : ∀ g, v2.ownBlock = some g → g < W.heap.size) (hr : Row TV w' base u (L ++ [x])) (hf : Fr v2.ownBlock.toList w w') : V3 W base v1 v2 v3 L x 3 b7 b10 u88 u89 u93 u u96 u97 w' := by
  have R2 := h.r2 (by omega)
  refine ⟨h.fr.trans' (hf.mono fun y hy => .inl (by simp at hy; simp [hy])), fun hp => by omega, fun _ => (h.q1 (by omega)).other R2 (by decide) hf, fun hp => by omega, fun _ => hr, fun _ => (h.r3 (by omega)).other R2 (by decide) hf, fun hp => by omega, fun hp => by omega, fun h7 hp => by omega, fun h10 _ => ?_⟩
  · obtain ⟨a, b⟩ := h.s3 h10 (by omega)
    exact ⟨a.fr hf (fun g hg hm => by have := b g hg; have := hv g (by simpa using hm); omega), b⟩
theorem V3.c3 (h : V3 W base v1 v2 v3 L x 3 b7 b10 u88 u89 u93 u94 u96 u97 w) (hr : Row TC w' base u (L ++ [x])) (hf : Fr v3.ownBlock.toList w w') : V3 W base v1 v2 v3 L x 4 b7 b10 u88 u89 u93 u94 u96 u w' := by
  have R3 := h.r3 (by omega)
  refine ⟨h.fr.trans' (hf.mono fun y hy => .inl (by simp at hy; simp [hy])), fun hp => by omega, fun _ => (h.q1 (by omega)).other R3 (by decide) hf, fun hp => by omega, fun _ => (h.q2 (by omega)).other R3 (by decide) hf, fun hp => by omega, fun _ => hr, fun hp => by omega, fun h7 hp => by omega, fun h10 hp => by omega⟩
end

/-- The frame and the world of such a state. -/
def J3 (a1 : Act) (W : World) (base : Nat) (v1 v2 v3 : Value) (L : Fds) (x : Fd) (p : Nat) (b7 b10 : Bool) (a : Act) (w : World) : Prop :=
  Like a1 a [88, 89, 93, 94, 96, 97] ∧ V3 W base v1 v2 v3 L x p b7 b10 (a.eval (.tmp 88)) (a.eval (.tmp 89)) (a.eval (.tmp 93)) (a.eval (.tmp 94)) (a.eval (.tmp 96)) (a.eval (.tmp 97)) w
/-- What is so from the start. -/
structure H3 (a1 : Act) (W : World) (base : Nat) (v1 v2 v3 : Value) (L : Fds) (x : Fd) : Prop where
  size : 97 < a1.tmps.size
  e86 : a1.eval (.tmp 86) = v1
  e87 : a1.eval (.tmp 87) = .agg #[.int .i64 ((x.n : Nat) : Int), .int .i64 ((x.g : Nat) : Int)]
  e90 : a1.eval (.tmp 90) = v2
  e92 : a1.eval (.tmp 92) = .int .i64 x.v
  e95 : a1.eval (.tmp 95) = v3
  xc : x.c = false
  hb : base ≤ W.heap.size
  hl : L.length ≤ 1000
  l1 : ∀ g, v1.ownBlock = some g → g < W.heap.size
  l2 : ∀ g, v2.ownBlock = some g → g < W.heap.size
section
variable {a1 a : Act} {W w : World} {base p : Nat} {v1 v2 v3 : Value} {L : Fds} {x : Fd} {b7 b10 : Bool} {o : Oper} {K : Act → World → Prop} {Q : Exit → Act → World → Prop}
theorem fresh_new (W w : World) (h : W.heap.size ≤ w.heap.size) (n c : Nat) : Fresh W (.slice (some ⟨w.heap.size, 0, none⟩) n c) := fun g hg => by simp [Value.ownBlock] at hg; omega
theorem J3.b1 (H : H3 a1 W base v1 v2 v3 L x) (h : J3 a1 W base v1 v2 v3 L x 0 b7 b10 a w) (ho : o.op = .buildSlice 64 1 #[(0, .tmp 87)]) (hd : o.dst = some 88) (hK : ∀ a' w', J3 a1 W base v1 v2 v3 L x 1 b7 b10 a' w' → K a' w') : Oper.wp Try.prog o a w K Q := by
  obtain ⟨hl, hv⟩ := h
  obtain ⟨i, h1, h2, h3, h4⟩ := info_parts infoFD
  have e : a.eval (.tmp 87) = .agg #[.int .i64 ((x.n : Nat) : Int), .int .i64 ((x.g : Nat) : Int)] := (hl.eval (by decide)).trans H.e87
  have hs : i.size = 2 := h3
  refine wp_buildSlice 64 34 1 _ ho #[.int .i64 ((x.n : Nat) : Int), .int .i64 ((x.g : Nat) : Int)] i _ Try.underlying64 h1 h2 (by rw [hs]; decide) (by rw [hs]; decide) (by rw [hs]; simp only [List.map_toArray, List.map_cons, List.map_nil, e]; kernel_rfl) (hK _ _ ?_)
  have hsz : 88 < a.tmps.size := by rw [hl.size]; have := H.size; omega
  have hB := below_alloc w (.cells #[.int .i64 ((x.n : Nat) : Int), .int .i64 ((x.g : Nat) : Int)] 34)
  rw [hd]
  refine ⟨hl.put (by decide) _, ?_⟩
  rw [eval_same hsz, eval_other (by decide), eval_other (by decide), eval_other (by decide), eval_other (by decide), eval_other (by decide)]
  exact (hv.below hB).b1 (src_new TN_ok w x _ rfl) (fresh_new W w hv.fr.size _ _)
theorem J3.b2 (H : H3 a1 W base v1 v2 v3 L x) (h : J3 a1 W base v1 v2 v3 L x p b7 b10 a w) (ho : o.op = .buildSlice 65 1 #[(0, .tmp 92)]) (hd : o.dst = some 93) (hK : ∀ a' w', J3 a1 W base v1 v2 v3 L x p true b10 a' w' → K a' w') : Oper.wp Try.prog o a w K Q := by
  obtain ⟨hl, hv⟩ := h
  obtain ⟨i, h1, h2, h3, h4⟩ := info_parts infoI
  have e : a.eval (.tmp 92) = .int .i64 x.v := (hl.eval (by decide)).trans H.e92
  have hs : i.size = 1 := h3
  refine wp_buildSlice 65 3 1 _ ho #[.int .i64 x.v] i _ Try.underlying65 h1 h2 (by rw [hs]; decide) (by rw [hs]; decide) (by rw [hs]; simp only [List.map_toArray, List.map_cons, List.map_nil, e]; kernel_rfl) (hK _ _ ?_)
  have hsz : 93 < a.tmps.size := by rw [hl.size]; have := H.size; omega
  have hB := below_alloc w (.cells #[.int .i64 x.v] 3)
  rw [hd]
  refine ⟨hl.put (by decide) _, ?_⟩
  rw [eval_same hsz, eval_other (by decide), eval_other (by decide), eval_other (by decide), eval_other (by decide), eval_other (by decide)]
  exact (hv.below hB).b2 (src_new TV_ok w x _ rfl) (fresh_new W w hv.fr.size _ _)
theorem J3.b3 (H : H3 a1 W base v1 v2 v3 L x) (h : J3 a1 W base v1 v2 v3 L x p b7 b10 a w) (ho : o.op = .buildSlice 66 1 #[(0, .const (.bool false))]) (hd : o.dst = some 96) (hK : ∀ a' w', J3 a1 W base v1 v2 v3 L x p b7 true a' w' → K a' w') : Oper.wp Try.prog o a w K Q := by
  obtain ⟨hl, hv⟩ := h
  obtain ⟨i, h1, h2, h3, h4⟩ := info_parts infoB
  have hs : i.size = 1 := h3
  refine wp_buildSlice 66 4 1 _ ho #[.bool false] i _ Try.underlying66 h1 h2 (by rw [hs]; decide) (by rw [hs]; decide) (by rw [hs]; simp only [List.map_toArray, List.map_cons, List.map_nil, Act.eval]; kernel_rfl) (hK _ _ ?_)
  have hsz : 96 < a.tmps.size := by rw [hl.size]; have := H.size; omega
  have hB := below_alloc w (.cells #[.bool false] 4)
  rw [hd]
  refine ⟨hl.put (by decide) _, ?_⟩
  rw [eval_same hsz, eval_other (by decide), eval_other (by decide), eval_other (by decide), eval_other (by decide), eval_other (by decide)]
  exact (hv.below hB).b3 (src_new TC_ok w x _ (by show [Value.bool false] = [Value.bool x.c]; rw [H.xc])) (fresh_new W w hv.fr.size _ _)
theorem J3.c1 (H : H3 a1 W base v1 v2 v3 L x) (h : J3 a1 W base v1 v2 v3 L x 1 b7 b10 a w) (ho : o.op = .call { callee := .builtin .append, args := #[.tmp 86, .tmp 88], argTypes := #[64, 64] }) (hd : o.dst = some 89) (hK : ∀ a' w', J3 a1 W base v1 v2 v3 L x 2 b7 b10 a' w' → K a' w') : Oper.wp Try.prog o a w K Q := by
  obtain ⟨hl, hv⟩ := h
  have hsz : 89 < a.tmps.size := by rw [hl.size]; have := H.size; omega
  refine wp_append_g TN_ok (.tmp 86) (.tmp 88) ho ((hl.eval (by decide)).trans H.e86) rfl (hv.r1 (by omega)) (Nat.le_trans H.hb hv.fr.size) (hv.s1 rfl).1 (by have := H.hl; simp; omega) (fun v' w' hr hf _ => hK _ _ ?_)
  rw [hd]
  refine ⟨hl.put (by decide) _, ?_⟩
  rw [eval_same hsz, eval_other (by decide), eval_other (by decide), eval_other (by decide), eval_other (by decide), eval_other (by decide)]
  exact hv.c1 H.l1 hr hf
theorem J3.c2 (H : H3 a1 W base v1 v2 v3 L x) (h : J3 a1 W base v1 v2 v3 L x 2 true b10 a w) (ho : o.op = .call { callee := .builtin .append, args := #[.tmp 90, .tmp 93], argTypes := #[65, 65] }) (hd : o.dst = some 94) (hK : ∀ a' w', J3 a1 W base v1 v2 v3 L x 3 true b10 a' w' → K a' w') : Oper.wp Try.prog o a w K Q := by
  obtain ⟨hl, hv⟩ := h
  have hsz : 94 < a.tmps.size := by rw [hl.size]; have := H.size; omega
  refine wp_append_g TV_ok (.tmp 90) (.tmp 93) ho ((hl.eval (by decide)).trans H.e90) rfl (hv.r2 (by omega)) (Nat.le_trans H.hb hv.fr.size) (hv.s2 rfl (by omega)).1 (by have := H.hl; simp; omega) (fun v' w' hr hf _ => hK _ _ ?_)
  rw [hd]
  refine ⟨hl.put (by decide) _, ?_⟩
  rw [eval_same hsz, eval_other (by decide), eval_other (by decide), eval_other (by decide), eval_other (by decide), eval_other (by decide)]
  exact hv.c2 H.l2 hr hf
theorem J3.c3 (H : H3 a1 W base v1 v2 v3 L x) (h : J3 a1 W base v1 v2 v3 L x 3 b7 true a w) (ho : o.op = .call { callee := .builtin .append, args := #[.tmp 95, .tmp 96], argTypes := #[66, 66] }) (hd : o.dst = some 97) (hK : ∀ a' w', J3 a1 W base v1 v2 v3 L x 4 b7 true a' w' → K a' w') : Oper.wp Try.prog o a w K Q := by
  obtain ⟨hl, hv⟩ := h
  have hsz : 97 < a.tmps.size := by rw [hl.size]; have := H.size; omega
  refine wp_append_g TC_ok (.tmp 95) (.tmp 96) ho ((hl.eval (by decide)).trans H.e95) rfl (hv.r3 (by omega)) (Nat.le_trans H.hb hv.fr.size) (hv.s3 rfl (by omega)).1 (by have := H.hl; simp; omega) (fun v' w' hr hf _ => hK _ _ ?_)
  rw [hd]
  refine ⟨hl.put (by decide) _, ?_⟩
  rw [eval_same hsz, eval_other (by decide), eval_other (by decide), eval_other (by decide), eval_other (by decide), eval_other (by decide)]
  exact hv.c3 hr hf
end
/-- What has come up. -/
def lst3 (p : Nat) (b7 b10 : Bool) : Array Bool := #[true, true, decide (1 ≤ p), decide (2 ≤ p), true, true, true, b7, decide (3 ≤ p), true, b10, decide (4 ≤ p), false, false, false]
/-- What may come up then. -/
def triB (ops : Array Oper) : Bool :=
  decide (Region.ready .any ops (lst3 3 true true) = [11]) && decide (Region.ready .any ops (lst3 2 true true) = [8]) && decide (Region.ready .any ops (lst3 3 true false) = [10]) && decide (Region.ready .any ops (lst3 1 true true) = [3]) && decide (Region.ready .any ops (lst3 2 false true) = [7]) && decide (Region.ready .any ops (lst3 2 true false) = [8, 10]) && decide (Region.ready .any ops (lst3 0 true true) = [2]) && decide (Region.ready .any ops (lst3 1 false true) = [3, 7]) && decide (Region.ready .any ops (lst3 1 true false) = [3, 10]) && decide (Region.ready .any ops (lst3 2 false false) = [7, 10]) && decide (Region.ready .any ops (lst3 0 false true) = [2, 7]) && decide (Region.ready .any ops (lst3 0 true false) = [2, 10]) && decide (Region.ready .any ops (lst3 1 false false) = [3, 7, 10]) && decide (Region.ready .any ops (lst3 0 false false) = [2, 7, 10])
/-- An operation at its place. -/
structure OpAt (ops : Array Oper) (i : Nat) (x : Op) (d : Tmp) : Prop where
  ex : ∃ o, ops[i]? = some o ∧ o.guard = none ∧ o.op = x ∧ o.dst = some d
set_option maxHeartbeats 3200000 in
theorem tri_head {a1 : Act} {W : World} {base : Nat} {v1 v2 v3 : Value} {L : Fds} {x : Fd} {ops : Array Oper} {Q : Exit → Act → World → Prop} {S : World → Prop} {Lw : Array Bool → Act → World → Prop} (H : H3 a1 W base v1 v2 v3 L x) (hB : triB ops = true)
    (o2 : OpAt ops 2 (.buildSlice 64 1 #[(0, .tmp 87)]) 88)
    (o3 : OpAt ops 3 (.call { callee := .builtin .append, args := #[.tmp 86, .tmp 88], argTypes := #[64, 64] }) 89)
    (o7 : OpAt ops 7 (.buildSlice 65 1 #[(0, .tmp 92)]) 93)
    (o8 : OpAt ops 8 (.call { callee := .builtin .append, args := #[.tmp 90, .tmp 93], argTypes := #[65, 65] }) 94)
    (o10 : OpAt ops 10 (.buildSlice 66 1 #[(0, .const (.bool false))]) 96)
    (o11 : OpAt ops 11 (.call { callee := .builtin .append, args := #[.tmp 95, .tmp 96], argTypes := #[66, 66] }) 97)
    (hS : ∀ w, Fr (v1.ownBlock.toList ++ (v2.ownBlock.toList ++ v3.ownBlock.toList)) W w → S w)
    (hL : ∀ a w, J3 a1 W base v1 v2 v3 L x 4 true true a w → Lw (lst3 4 true true) a w) :
    ∀ a w, J3 a1 W base v1 v2 v3 L x 0 false false a w → headW Try.prog .any ops Q S 12 Lw 6 (lst3 0 false false) a w := by
  simp only [triB, Bool.and_eq_true, decide_eq_true_eq] at hB
  obtain ⟨⟨⟨⟨⟨⟨⟨⟨⟨⟨⟨⟨⟨r311, r211⟩, r310⟩, r111⟩, r201⟩, r210⟩, r011⟩, r101⟩, r110⟩, r200⟩, r001⟩, r010⟩, r100⟩, r000⟩ := hB
  obtain ⟨p2, g2, q2, x2, d2⟩ := o2.ex
  obtain ⟨p3, g3, q3, x3, d3⟩ := o3.ex
  obtain ⟨p7, g7, q7, x7, d7⟩ := o7.ex
  obtain ⟨p8, g8, q8, x8, d8⟩ := o8.ex
  obtain ⟨p10, g10, q10, x10, d10⟩ := o10.ex
  obtain ⟨p11, g11, q11, x11, d11⟩ := o11.ex
  have h411 : ∀ a w, J3 a1 W base v1 v2 v3 L x 4 true true a w → headW Try.prog .any ops Q S 12 Lw 0 (lst3 4 true true) a w := fun a w h => hL a w h
  have h311 : ∀ a w, J3 a1 W base v1 v2 v3 L x 3 true true a w → headW Try.prog .any ops Q S 12 Lw 1 (lst3 3 true true) a w := fun a w h => by
    refine head_ready [11] r311 (by simp) (fun i hi => ?_)
    simp only [List.mem_cons, List.not_mem_nil, or_false] at hi
    subst hi
    · exact ⟨by omega, op_now g11 q11 (J3.c3 H h x11 d11 (fun a' w' h' => ⟨hS _ h'.2.fr, h411 a' w' h'⟩))⟩
  have h211 : ∀ a w, J3 a1 W base v1 v2 v3 L x 2 true true a w → headW Try.prog .any ops Q S 12 Lw 2 (lst3 2 true true) a w := fun a w h => by
    refine head_ready [8] r211 (by simp) (fun i hi => ?_)
    simp only [List.mem_cons, List.not_mem_nil, or_false] at hi
    subst hi
    · exact ⟨by omega, op_now g8 q8 (J3.c2 H h x8 d8 (fun a' w' h' => ⟨hS _ h'.2.fr, h311 a' w' h'⟩))⟩
  have h310 : ∀ a w, J3 a1 W base v1 v2 v3 L x 3 true false a w → headW Try.prog .any ops Q S 12 Lw 2 (lst3 3 true false) a w := fun a w h => by
    refine head_ready [10] r310 (by simp) (fun i hi => ?_)
    simp only [List.mem_cons, List.not_mem_nil, or_false] at hi
    subst hi
    · exact ⟨by omega, op_now g10 q10 (J3.b3 H h x10 d10 (fun a' w' h' => ⟨hS _ h'.2.fr, h311 a' w' h'⟩))⟩
  have h111 : ∀ a w, J3 a1 W base v1 v2 v3 L x 1 true true a w → headW Try.prog .any ops Q S 12 Lw 3 (lst3 1 true true) a w := fun a w h => by
    refine head_ready [3] r111 (by simp) (fun i hi => ?_)
    simp only [List.mem_cons, List.not_mem_nil, or_false] at hi
    subst hi
    · exact ⟨by omega, op_now g3 q3 (J3.c1 H h x3 d3 (fun a' w' h' => ⟨hS _ h'.2.fr, h211 a' w' h'⟩))⟩
  have h201 : ∀ a w, J3 a1 W base v1 v2 v3 L x 2 false true a w → headW Try.prog .any ops Q S 12 Lw 3 (lst3 2 false true) a w := fun a w h => by
    refine head_ready [7] r201 (by simp) (fun i hi => ?_)
    simp only [List.mem_cons, List.not_mem_nil, or_false] at hi
    subst hi
    · exact ⟨by omega, op_now g7 q7 (J3.b2 H h x7 d7 (fun a' w' h' => ⟨hS _ h'.2.fr, h211 a' w' h'⟩))⟩
  have h210 : ∀ a w, J3 a1 W base v1 v2 v3 L x 2 true false a w → headW Try.prog .any ops Q S 12 Lw 3 (lst3 2 true false) a w := fun a w h => by
    refine head_ready [8, 10] r210 (by simp) (fun i hi => ?_)
    simp only [List.mem_cons, List.not_mem_nil, or_false] at hi
    rcases hi with rfl | rfl
    · exact ⟨by omega, op_now g8 q8 (J3.c2 H h x8 d8 (fun a' w' h' => ⟨hS _ h'.2.fr, h310 a' w' h'⟩))⟩
    · exact ⟨by omega, op_now g10 q10 (J3.b3 H h x10 d10 (fun a' w' h' => ⟨hS _ h'.2.fr, h211 a' w' h'⟩))⟩
  have h011 : ∀ a w, J3 a1 W base v1 v2 v3 L x 0 true true a w → headW Try.prog .any ops Q S 12 Lw 4 (lst3 0 true true) a w := fun a w h => by
    refine head_ready [2] r011 (by simp) (fun i hi => ?_)
    simp only [List.mem_cons, List.not_mem_nil, or_false] at hi
    subst hi
    · exact ⟨by omega, op_now g2 q2 (J3.b1 H h x2 d2 (fun a' w' h' => ⟨hS _ h'.2.fr, h111 a' w' h'⟩))⟩
  have h101 : ∀ a w, J3 a1 W base v1 v2 v3 L x 1 false true a w → headW Try.prog .any ops Q S 12 Lw 4 (lst3 1 false true) a w := fun a w h => by
    refine head_ready [3, 7] r101 (by simp) (fun i hi => ?_)
    simp only [List.mem_cons, List.not_mem_nil, or_false] at hi
    rcases hi with rfl | rfl
    · exact ⟨by omega, op_now g3 q3 (J3.c1 H h x3 d3 (fun a' w' h' => ⟨hS _ h'.2.fr, h201 a' w' h'⟩))⟩
    · exact ⟨by omega, op_now g7 q7 (J3.b2 H h x7 d7 (fun a' w' h' => ⟨hS _ h'.2.fr, h111 a' w' h'⟩))⟩
  have h110 : ∀ a w, J3 a1 W base v1 v2 v3 L x 1 true false a w → headW Try.prog .any ops Q S 12 Lw 4 (lst3 1 true false) a w := fun a w h => by
    refine head_ready [3, 10] r110 (by simp) (fun i hi => ?_)
    simp only [List.mem_cons, List.not_mem_nil, or_false] at hi
    rcases hi with rfl | rfl
    · exact ⟨by omega, op_now g3 q3 (J3.c1 H h x3 d3 (fun a' w' h' => ⟨hS _ h'.2.fr, h210 a' w' h'⟩))⟩
    · exact ⟨by omega, op_now g10 q10 (J3.b3 H h x10 d10 (fun a' w' h' => ⟨hS _ h'.2.fr, h111 a' w' h'⟩))⟩
  have h200 : ∀ a w, J3 a1 W base v1 v2 v3 L x 2 false false a w → headW Try.prog .any ops Q S 12 Lw 4 (lst3 2 false false) a w := fun a w h => by
    refine head_ready [7, 10] r200 (by simp) (fun i hi => ?_)
    simp only [List.mem_cons, List.not_mem_nil, or_false] at hi
    rcases hi with rfl | rfl
    · exact ⟨by omega, op_now g7 q7 (J3.b2 H h x7 d7 (fun a' w' h' => ⟨hS _ h'.2.fr, h210 a' w' h'⟩))⟩
    · exact ⟨by omega, op_now g10 q10 (J3.b3 H h x10 d10 (fun a' w' h' => ⟨hS _ h'.2.fr, h201 a' w' h'⟩))⟩
  have h001 : ∀ a w, J3 a1 W base v1 v2 v3 L x 0 false true a w → headW Try.prog .any ops Q S 12 Lw 5 (lst3 0 false true) a w := fun a w h => by
    refine head_ready [2, 7] r001 (by simp) (fun i hi => ?_)
    simp only [List.mem_cons, List.not_mem_nil, or_false] at hi
    rcases hi with rfl | rfl
    · exact ⟨by omega, op_now g2 q2 (J3.b1 H h x2 d2 (fun a' w' h' => ⟨hS _ h'.2.fr, h101 a' w' h'⟩))⟩
    · exact ⟨by omega, op_now g7 q7 (J3.b2 H h x7 d7 (fun a' w' h' => ⟨hS _ h'.2.fr, h011 a' w' h'⟩))⟩
  have h010 : ∀ a w, J3 a1 W base v1 v2 v3 L x 0 true false a w → headW Try.prog .any ops Q S 12 Lw 5 (lst3 0 true false) a w := fun a w h => by
    refine head_ready [2, 10] r010 (by simp) (fun i hi => ?_)
    simp only [List.mem_cons, List.not_mem_nil, or_false] at hi
    rcases hi with rfl | rfl
    · exact ⟨by omega, op_now g2 q2 (J3.b1 H h x2 d2 (fun a' w' h' => ⟨hS _ h'.2.fr, h110 a' w' h'⟩))⟩
    · exact ⟨by omega, op_now g10 q10 (J3.b3 H h x10 d10 (fun a' w' h' => ⟨hS _ h'.2.fr, h011 a' w' h'⟩))⟩
  have h100 : ∀ a w, J3 a1 W base v1 v2 v3 L x 1 false false a w → headW Try.prog .any ops Q S 12 Lw 5 (lst3 1 false false) a w := fun a w h => by
    refine head_ready [3, 7, 10] r100 (by simp) (fun i hi => ?_)
    simp only [List.mem_cons, List.not_mem_nil, or_false] at hi
    rcases hi with rfl | rfl | rfl
    · exact ⟨by omega, op_now g3 q3 (J3.c1 H h x3 d3 (fun a' w' h' => ⟨hS _ h'.2.fr, h200 a' w' h'⟩))⟩
    · exact ⟨by omega, op_now g7 q7 (J3.b2 H h x7 d7 (fun a' w' h' => ⟨hS _ h'.2.fr, h110 a' w' h'⟩))⟩
    · exact ⟨by omega, op_now g10 q10 (J3.b3 H h x10 d10 (fun a' w' h' => ⟨hS _ h'.2.fr, h101 a' w' h'⟩))⟩
  have h000 : ∀ a w, J3 a1 W base v1 v2 v3 L x 0 false false a w → headW Try.prog .any ops Q S 12 Lw 6 (lst3 0 false false) a w := fun a w h => by
    refine head_ready [2, 7, 10] r000 (by simp) (fun i hi => ?_)
    simp only [List.mem_cons, List.not_mem_nil, or_false] at hi
    rcases hi with rfl | rfl | rfl
    · exact ⟨by omega, op_now g2 q2 (J3.b1 H h x2 d2 (fun a' w' h' => ⟨hS _ h'.2.fr, h100 a' w' h'⟩))⟩
    · exact ⟨by omega, op_now g7 q7 (J3.b2 H h x7 d7 (fun a' w' h' => ⟨hS _ h'.2.fr, h010 a' w' h'⟩))⟩
    · exact ⟨by omega, op_now g10 q10 (J3.b3 H h x10 d10 (fun a' w' h' => ⟨hS _ h'.2.fr, h001 a' w' h'⟩))⟩
  exact h000
/-- The region. -/
theorem like_trans {a b c : Act} {D E F : List Nat} (h : Like a b D) (k : Like b c E) (hD : ∀ x ∈ D, x ∈ F) (hE : ∀ x ∈ E, x ∈ F) : Like a c F :=
  ⟨k.defers.trans h.defers, k.size.trans h.size, fun i hi => (k.at_ i (fun hm => hi (hE i hm))).trans (h.at_ i (fun hm => hi (hD i hm)))⟩
theorem getD_of {l : List Oper} {i : Nat} {o : Oper} (h : l.toArray[i]? = some o) : l.getD i default = o := by
  have h' : l[i]? = some o := by simpa using h
  simp [List.getD, h']
set_option maxHeartbeats 3200000 in
theorem tri_region {id : Nat} {l : List Oper} {Q : Exit → Act → World → Prop} {a0 : Act} {w : World} {base bx bb : Nat} {v1 v2 v3 : Value} {L : Fds} {x : Fd} {cs : Array Value}
    (hI : invB l.toArray 12 [(true, 0), (true, 1), (true, 4), (true, 5), (true, 6), (true, 9)] 6 = true) (hB : triB l.toArray = true) (hseq : Region.seqB .any l.toArray (l.toArray.size - 12) 12 (lst3 4 true true) = true) (h15 : l.length = 15)
    (o0 : OpAt l.toArray 0 (.move (.tmp 7)) 86)
    (o1 : OpAt l.toArray 1 (.load 34 (.tmp 12)) 87)
    (o4 : OpAt l.toArray 4 (.move (.tmp 8)) 90)
    (o5 : OpAt l.toArray 5 (.fieldAddr 36 (.tmp 11) 1) 91)
    (o6 : OpAt l.toArray 6 (.load 3 (.tmp 91)) 92)
    (o9 : OpAt l.toArray 9 (.move (.tmp 9)) 95)
    (o2 : OpAt l.toArray 2 (.buildSlice 64 1 #[(0, .tmp 87)]) 88)
    (o3 : OpAt l.toArray 3 (.call { callee := .builtin .append, args := #[.tmp 86, .tmp 88], argTypes := #[64, 64] }) 89)
    (o7 : OpAt l.toArray 7 (.buildSlice 65 1 #[(0, .tmp 92)]) 93)
    (o8 : OpAt l.toArray 8 (.call { callee := .builtin .append, args := #[.tmp 90, .tmp 93], argTypes := #[65, 65] }) 94)
    (o10 : OpAt l.toArray 10 (.buildSlice 66 1 #[(0, .const (.bool false))]) 96)
    (o11 : OpAt l.toArray 11 (.call { callee := .builtin .append, args := #[.tmp 95, .tmp 96], argTypes := #[66, 66] }) 97)
    (hQ : ∀ c a w d v, Q (.panic c) (a.put d v) w → Q (.panic c) a w)
    (hsz : 97 < a0.tmps.size) (e7 : a0.eval (.tmp 7) = v1) (e8 : a0.eval (.tmp 8) = v2) (e9 : a0.eval (.tmp 9) = v3) (e12 : a0.eval (.tmp 12) = .pointer (some ⟨bx, 0, none⟩)) (e11 : a0.eval (.tmp 11) = .pointer (some ⟨bb, 0, none⟩))
    (hx : w.heap[bx]? = some (.cells #[.int .i64 ((x.n : Nat) : Int), .int .i64 ((x.g : Nat) : Int)] 34 (0, 0))) (hbb : w.heap[bb]? = some (.cells cs 36 (0, 0))) (hcs : cs[1]? = some (.int .i64 x.v)) (hxc : x.c = false)
    (r1 : Row TN w base v1 L) (r2 : Row TV w base v2 L) (r3 : Row TC w base v3 L) (hbase : base ≤ w.heap.size) (hl : L.length ≤ 1000) (hnx : ∀ g, v1.ownBlock = some g → g ≠ bx)
    (hK : ∀ (u : Nat → Value) (w' : World), Fr (v1.ownBlock.toList ++ (v2.ownBlock.toList ++ v3.ownBlock.toList)) w w' → Row TN w' base (u 89) (L ++ [x]) → Row TV w' base (u 94) (L ++ [x]) → Row TC w' base (u 97) (L ++ [x]) →
      wpList Try.prog l.toArray Q (l.drop 12) (puts a0 ([86, 87, 88, 89, 90, 91, 92, 93, 94, 95, 96, 97].map fun d => (d, u d))) w') :
    (Code.region id l.toArray true).wp Try.prog Q a0 w := by
  obtain ⟨F, hF⟩ : ∃ F, F = v1.ownBlock.toList ++ (v2.ownBlock.toList ++ v3.ownBlock.toList) := ⟨_, rfl⟩
  have hbxF : bx ∉ F := by
    rw [hF]
    intro hm
    simp only [List.mem_append, Option.mem_toList] at hm
    rcases hm with hm | hm | hm
    · exact hnx bx hm rfl
    · exact r2.ne hx (by decide) bx hm rfl
    · exact r3.ne hx (by decide) bx hm rfl
  have hbbF : bb ∉ F := by
    rw [hF]
    intro hm
    simp only [List.mem_append, Option.mem_toList] at hm
    rcases hm with hm | hm | hm
    · exact r1.ne hbb (by decide) bb hm rfl
    · exact r2.ne hbb (by decide) bb hm rfl
    · exact r3.ne hbb (by decide) bb hm rfl
  have fr0 : Fr F w w.drew := fr_drewN w 1 F
  have hld : ∀ W', Fr F w.drew W' → W'.cell? ⟨bx, 0, none⟩ = some (.int .i64 ((x.n : Nat) : Int)) ∧ W'.cell? ⟨bx, 1, none⟩ = some (.int .i64 ((x.g : Nat) : Int)) ∧ bx < W'.heap.size ∧ W'.cell? ⟨bb, 1, none⟩ = some (.int .i64 x.v) ∧ bb < W'.heap.size := fun W' hW => by
    have k1 := hW.same (fr0.same hx hbxF) hbxF
    have k2 := hW.same (fr0.same hbb hbbF) hbbF
    exact ⟨cells_cell k1 rfl, cells_cell k1 rfl, lt_of_block k1, cells_cell k2 hcs, lt_of_block k2⟩
  obtain ⟨p0, g0, q0, y0, d0⟩ := o0.ex
  obtain ⟨p1, g1, q1, y1, d1⟩ := o1.ex
  obtain ⟨p4, g4, q4, y4, d4⟩ := o4.ex
  obtain ⟨p5, g5, q5, y5, d5⟩ := o5.ex
  obtain ⟨p6, g6, q6, y6, d6⟩ := o6.ex
  obtain ⟨p9, g9, q9, y9, d9⟩ := o9.ex
  have wn : ∀ (o : Oper) (r : Array Value) (h : o.guard = none), Region.wanted o (yielded l.toArray r) = true := fun o r h => by unfold Region.wanted; rw [h]
  refine wp_region_inv (fun W' => Fr F w.drew W') 12 [(true, 0), (true, 1), (true, 4), (true, 5), (true, 6), (true, 9)] 6 (by kernel_rfl) hI hQ ?_
  simp only [List.map_cons, List.map_nil, getD_of g0, getD_of g1, getD_of g4, getD_of g5, getD_of g6, getD_of g9]
  have S0 : Fr F w.drew w.drew := Fr.refl _ _
  have f7 := e7
  have f8 := e8
  have f9 := e9
  have f11 := e11
  have f12 := e12
  have lk0 : Like a0 a0 [86, 87, 90, 91, 92, 95] := Like.refl _ _
  refine mix_move (.tmp 7) v1 y0 S0 (wn _ _ q0) f7 ?_
  rw [d0]
  have lk1 := lk0.put (d := 86) (by decide) v1
  have z7 : (a0.put (some 86) v1).eval (.tmp 7) = _ := (eval_other (by decide)).trans f7
  have z8 : (a0.put (some 86) v1).eval (.tmp 8) = _ := (eval_other (by decide)).trans f8
  have z9 : (a0.put (some 86) v1).eval (.tmp 9) = _ := (eval_other (by decide)).trans f9
  have z11 : (a0.put (some 86) v1).eval (.tmp 11) = _ := (eval_other (by decide)).trans f11
  have z12 : (a0.put (some 86) v1).eval (.tmp 12) = _ := (eval_other (by decide)).trans f12
  have z86 : (a0.put (some 86) v1).eval (.tmp 86) = v1 := eval_same (by rw [lk0.size]; omega)
  clear f7 f8 f9 f11 f12
  generalize a0.put (some 86) v1 = c1 at *
  have f7 := z7
  have f8 := z8
  have f9 := z9
  have f11 := z11
  have f12 := z12
  have f86 := z86
  clear z7 z8 z9 z11 z12 z86
  refine mix_take (.agg #[.int .i64 ((x.n : Nat) : Int), .int .i64 ((x.g : Nat) : Int)]) S0 (wn _ _ q1) (fun W' hS => by obtain ⟨c0, c1, c2, c3, c4⟩ := hld W' hS; unfold execOp; rw [y1]; simp only [f12]; go_simp) ?_
  rw [d1]
  have lk2 := lk1.put (d := 87) (by decide) (.agg #[.int .i64 ((x.n : Nat) : Int), .int .i64 ((x.g : Nat) : Int)])
  have z7 : (c1.put (some 87) (.agg #[.int .i64 ((x.n : Nat) : Int), .int .i64 ((x.g : Nat) : Int)])).eval (.tmp 7) = _ := (eval_other (by decide)).trans f7
  have z8 : (c1.put (some 87) (.agg #[.int .i64 ((x.n : Nat) : Int), .int .i64 ((x.g : Nat) : Int)])).eval (.tmp 8) = _ := (eval_other (by decide)).trans f8
  have z9 : (c1.put (some 87) (.agg #[.int .i64 ((x.n : Nat) : Int), .int .i64 ((x.g : Nat) : Int)])).eval (.tmp 9) = _ := (eval_other (by decide)).trans f9
  have z11 : (c1.put (some 87) (.agg #[.int .i64 ((x.n : Nat) : Int), .int .i64 ((x.g : Nat) : Int)])).eval (.tmp 11) = _ := (eval_other (by decide)).trans f11
  have z12 : (c1.put (some 87) (.agg #[.int .i64 ((x.n : Nat) : Int), .int .i64 ((x.g : Nat) : Int)])).eval (.tmp 12) = _ := (eval_other (by decide)).trans f12
  have z86 : (c1.put (some 87) (.agg #[.int .i64 ((x.n : Nat) : Int), .int .i64 ((x.g : Nat) : Int)])).eval (.tmp 86) = _ := (eval_other (by decide)).trans f86
  have z87 : (c1.put (some 87) (.agg #[.int .i64 ((x.n : Nat) : Int), .int .i64 ((x.g : Nat) : Int)])).eval (.tmp 87) = (.agg #[.int .i64 ((x.n : Nat) : Int), .int .i64 ((x.g : Nat) : Int)]) := eval_same (by rw [lk1.size]; omega)
  clear f7 f8 f9 f11 f12 f86
  generalize c1.put (some 87) (.agg #[.int .i64 ((x.n : Nat) : Int), .int .i64 ((x.g : Nat) : Int)]) = c2 at *
  have f7 := z7
  have f8 := z8
  have f9 := z9
  have f11 := z11
  have f12 := z12
  have f86 := z86
  have f87 := z87
  clear z7 z8 z9 z11 z12 z86 z87
  refine mix_move (.tmp 8) v2 y4 S0 (wn _ _ q4) f8 ?_
  rw [d4]
  have lk3 := lk2.put (d := 90) (by decide) v2
  have z7 : (c2.put (some 90) v2).eval (.tmp 7) = _ := (eval_other (by decide)).trans f7
  have z8 : (c2.put (some 90) v2).eval (.tmp 8) = _ := (eval_other (by decide)).trans f8
  have z9 : (c2.put (some 90) v2).eval (.tmp 9) = _ := (eval_other (by decide)).trans f9
  have z11 : (c2.put (some 90) v2).eval (.tmp 11) = _ := (eval_other (by decide)).trans f11
  have z12 : (c2.put (some 90) v2).eval (.tmp 12) = _ := (eval_other (by decide)).trans f12
  have z86 : (c2.put (some 90) v2).eval (.tmp 86) = _ := (eval_other (by decide)).trans f86
  have z87 : (c2.put (some 90) v2).eval (.tmp 87) = _ := (eval_other (by decide)).trans f87
  have z90 : (c2.put (some 90) v2).eval (.tmp 90) = v2 := eval_same (by rw [lk2.size]; omega)
  clear f7 f8 f9 f11 f12 f86 f87
  generalize c2.put (some 90) v2 = c3 at *
  have f7 := z7
  have f8 := z8
  have f9 := z9
  have f11 := z11
  have f12 := z12
  have f86 := z86
  have f87 := z87
  have f90 := z90
  clear z7 z8 z9 z11 z12 z86 z87 z90
  refine mix_take (.pointer (some ⟨bb, 1, none⟩)) S0 (wn _ _ q5) (fun W' hS => by obtain ⟨c0, c1, c2, c3, c4⟩ := hld W' hS; unfold execOp; rw [y5]; simp only [f11]; go_simp) ?_
  rw [d5]
  have lk4 := lk3.put (d := 91) (by decide) (.pointer (some ⟨bb, 1, none⟩))
  have z7 : (c3.put (some 91) (.pointer (some ⟨bb, 1, none⟩))).eval (.tmp 7) = _ := (eval_other (by decide)).trans f7
  have z8 : (c3.put (some 91) (.pointer (some ⟨bb, 1, none⟩))).eval (.tmp 8) = _ := (eval_other (by decide)).trans f8
  have z9 : (c3.put (some 91) (.pointer (some ⟨bb, 1, none⟩))).eval (.tmp 9) = _ := (eval_other (by decide)).trans f9
  have z11 : (c3.put (some 91) (.pointer (some ⟨bb, 1, none⟩))).eval (.tmp 11) = _ := (eval_other (by decide)).trans f11
  have z12 : (c3.put (some 91) (.pointer (some ⟨bb, 1, none⟩))).eval (.tmp 12) = _ := (eval_other (by decide)).trans f12
  have z86 : (c3.put (some 91) (.pointer (some ⟨bb, 1, none⟩))).eval (.tmp 86) = _ := (eval_other (by decide)).trans f86
  have z87 : (c3.put (some 91) (.pointer (some ⟨bb, 1, none⟩))).eval (.tmp 87) = _ := (eval_other (by decide)).trans f87
  have z90 : (c3.put (some 91) (.pointer (some ⟨bb, 1, none⟩))).eval (.tmp 90) = _ := (eval_other (by decide)).trans f90
  have z91 : (c3.put (some 91) (.pointer (some ⟨bb, 1, none⟩))).eval (.tmp 91) = (.pointer (some ⟨bb, 1, none⟩)) := eval_same (by rw [lk3.size]; omega)
  clear f7 f8 f9 f11 f12 f86 f87 f90
  generalize c3.put (some 91) (.pointer (some ⟨bb, 1, none⟩)) = c4 at *
  have f7 := z7
  have f8 := z8
  have f9 := z9
  have f11 := z11
  have f12 := z12
  have f86 := z86
  have f87 := z87
  have f90 := z90
  have f91 := z91
  clear z7 z8 z9 z11 z12 z86 z87 z90 z91
  refine mix_take (.int .i64 x.v) S0 (wn _ _ q6) (fun W' hS => by obtain ⟨c0, c1, c2, c3, c4⟩ := hld W' hS; unfold execOp; rw [y6]; simp only [f91]; go_simp) ?_
  rw [d6]
  have lk5 := lk4.put (d := 92) (by decide) (.int .i64 x.v)
  have z7 : (c4.put (some 92) (.int .i64 x.v)).eval (.tmp 7) = _ := (eval_other (by decide)).trans f7
  have z8 : (c4.put (some 92) (.int .i64 x.v)).eval (.tmp 8) = _ := (eval_other (by decide)).trans f8
  have z9 : (c4.put (some 92) (.int .i64 x.v)).eval (.tmp 9) = _ := (eval_other (by decide)).trans f9
  have z11 : (c4.put (some 92) (.int .i64 x.v)).eval (.tmp 11) = _ := (eval_other (by decide)).trans f11
  have z12 : (c4.put (some 92) (.int .i64 x.v)).eval (.tmp 12) = _ := (eval_other (by decide)).trans f12
  have z86 : (c4.put (some 92) (.int .i64 x.v)).eval (.tmp 86) = _ := (eval_other (by decide)).trans f86
  have z87 : (c4.put (some 92) (.int .i64 x.v)).eval (.tmp 87) = _ := (eval_other (by decide)).trans f87
  have z90 : (c4.put (some 92) (.int .i64 x.v)).eval (.tmp 90) = _ := (eval_other (by decide)).trans f90
  have z91 : (c4.put (some 92) (.int .i64 x.v)).eval (.tmp 91) = _ := (eval_other (by decide)).trans f91
  have z92 : (c4.put (some 92) (.int .i64 x.v)).eval (.tmp 92) = (.int .i64 x.v) := eval_same (by rw [lk4.size]; omega)
  clear f7 f8 f9 f11 f12 f86 f87 f90 f91
  generalize c4.put (some 92) (.int .i64 x.v) = c5 at *
  have f7 := z7
  have f8 := z8
  have f9 := z9
  have f11 := z11
  have f12 := z12
  have f86 := z86
  have f87 := z87
  have f90 := z90
  have f91 := z91
  have f92 := z92
  clear z7 z8 z9 z11 z12 z86 z87 z90 z91 z92
  refine mix_move (.tmp 9) v3 y9 S0 (wn _ _ q9) f9 ?_
  rw [d9]
  have lk6 := lk5.put (d := 95) (by decide) v3
  have z7 : (c5.put (some 95) v3).eval (.tmp 7) = _ := (eval_other (by decide)).trans f7
  have z8 : (c5.put (some 95) v3).eval (.tmp 8) = _ := (eval_other (by decide)).trans f8
  have z9 : (c5.put (some 95) v3).eval (.tmp 9) = _ := (eval_other (by decide)).trans f9
  have z11 : (c5.put (some 95) v3).eval (.tmp 11) = _ := (eval_other (by decide)).trans f11
  have z12 : (c5.put (some 95) v3).eval (.tmp 12) = _ := (eval_other (by decide)).trans f12
  have z86 : (c5.put (some 95) v3).eval (.tmp 86) = _ := (eval_other (by decide)).trans f86
  have z87 : (c5.put (some 95) v3).eval (.tmp 87) = _ := (eval_other (by decide)).trans f87
  have z90 : (c5.put (some 95) v3).eval (.tmp 90) = _ := (eval_other (by decide)).trans f90
  have z91 : (c5.put (some 95) v3).eval (.tmp 91) = _ := (eval_other (by decide)).trans f91
  have z92 : (c5.put (some 95) v3).eval (.tmp 92) = _ := (eval_other (by decide)).trans f92
  have z95 : (c5.put (some 95) v3).eval (.tmp 95) = v3 := eval_same (by rw [lk5.size]; omega)
  clear f7 f8 f9 f11 f12 f86 f87 f90 f91 f92
  generalize c5.put (some 95) v3 = c6 at *
  have f7 := z7
  have f8 := z8
  have f9 := z9
  have f11 := z11
  have f12 := z12
  have f86 := z86
  have f87 := z87
  have f90 := z90
  have f91 := z91
  have f92 := z92
  have f95 := z95
  clear z7 z8 z9 z11 z12 z86 z87 z90 z91 z92 z95
  refine mix_nil ?_
  have hD : Below w.heap.size w w.drew := (Below.refl _ _).drew
  have H : H3 c6 w.drew base v1 v2 v3 L x := ⟨by rw [lk6.size]; omega, f86, f87, f90, f92, f95, hxc, hbase, hl, fun g hg => (r1.lt g hg).2, fun g hg => (r2.lt g hg).2⟩
  have J0 : J3 c6 w.drew base v1 v2 v3 L x 0 false false c6 w.drew := ⟨Like.refl _ _, Fr.refl _ _, fun _ => r1.below hD, fun h => by omega, fun _ => r2.below hD, fun h => by omega, fun _ => r3.below hD, fun h => by omega, fun h => by omega, fun h => (by cases h), fun h => (by cases h)⟩
  have hlst : setMix [(true, 0), (true, 1), (true, 4), (true, 5), (true, 6), (true, 9)] (Array.replicate l.toArray.size false) = lst3 0 false false := by
    rw [List.size_toArray, h15]; rfl
  rw [hlst]
  refine tri_head H hB o2 o3 o7 o8 o10 o11 (fun w' h => by rw [hF]; exact h) (fun a w' h => ⟨hseq, ?_⟩) c6 w.drew J0
  obtain ⟨hl6, hv⟩ := h
  have hlk : Like a0 a [86, 87, 88, 89, 90, 91, 92, 93, 94, 95, 96, 97] := like_trans lk6 hl6 (by decide) (by decide)
  have he := hlk.puts (by decide) (fun i hi => by simp at hi; omega)
  rw [he]
  refine hK (fun d => a.eval (.tmp d)) w' ?_ (hv.q1 (by omega)) (hv.q2 (by omega)) (hv.q3 (by omega))
  rw [← hF]
  have := hv.fr
  rw [← hF] at this
  exact fr0.trans' this
end Go.Proofs.Ytbefiilbpbbjnaa
