/- The law's own function do: a call that heap and reference make. -/
import Derived.Test.YtpbnbddjfebenaaDoorROrd
namespace Go.Proofs.YtpbnbddjfebenaaDoor
open Go.RowKit Go.Sort
set_option linter.unusedVariables false
set_option linter.unusedSimpArgs false

/-- A heap and its reference, side by side. -/
structure DoSt (w0 w : World) (G : Nat → Prop) (a : Nat) (S : List El) (P : Nat) (s : Value) : Prop where
  H : HeapIn w0 G w a S P
  row : RowR w 0 s S
  own : ∀ g, s.ownBlock = some g → G g

/-- .. while do runs: n, n + 1, n + 2 are its own blocks. -/
structure DoIn (w0 w W : World) (G G1 : Nat → Prop) (a : Nat) (S R : List El) (P : Nat) (s : Value) (n : Nat) (xs : Array Value) : Prop where
  H : HeapIn w0 G1 W a S P
  row : RowR W 0 s R
  own : ∀ g, s.ownBlock = some g → G1 g
  b4 : BoxR W n s
  act : W.heap[n + 1]? = some (.cells xs 32 (0, 0))
  b7 : BoxR W (n + 1 + 1) (.slice none 0 0)
  g4 : G1 n
  g5 : G1 (n + 1)
  g7 : G1 (n + 1 + 1)
  sub : ∀ k, G k → G1 k
  keep : Keep G w W
  hn : w0.heap.size ≤ n
  hG : ∀ k, G k → k < n

theorem DoSt.start {w0 w : World} {G : Nat → Prop} {a : Nat} {S : List El} {P : Nat} {s : Value} (D : DoSt w0 w G a S P s) (xs : Array Value) :
    DoIn w0 w (((w.alloc (.cells #[s] 28)).alloc (.cells xs 32)).alloc (.cells #[.slice none 0 0] 28)) G (fun k => G k ∨ (w.heap.size ≤ k ∧ k < w.heap.size + 3)) a S S P s w.heap.size xs := by
  have hb : Below w.heap.size w (((w.alloc (.cells #[s] 28)).alloc (.cells xs 32)).alloc (.cells #[.slice none 0 0] 28)) := (((Below.refl _ _).alloc (Nat.le_refl _) _).alloc (by simp) _).alloc (by simp; omega) _
  have hz : (((w.alloc (.cells #[s] 28)).alloc (.cells xs 32)).alloc (.cells #[.slice none 0 0] 28)).heap.size = w.heap.size + 3 := by simp
  refine ⟨D.H.more hb (fun k hk => by rw [hz]; exact hk), D.row.below hb, fun g hg => .inl (D.own g hg), ((BoxR.new w s).alloc _).alloc _, ?_, ?_, .inr (by omega), .inr (by omega), .inr (by omega), fun k hk => .inl hk, D.H.keep hb, D.H.below.size, D.H.lt⟩
  · exact ((Below.refl _ _).alloc (Nat.le_refl _) _ : Below _ ((w.alloc (.cells #[s] 28)).alloc (.cells xs 32)) _).block (w.heap.size + 1) (by simp) |>.trans (block_new _ _ _ (by simp))
  · exact block_new _ _ _ (by simp)

section
variable {w0 w W W' : World} {G G1 : Nat → Prop} {a : Nat} {S R : List El} {P : Nat} {s : Value} {n : Nat} {xs : Array Value}
theorem DoIn.call {S' : List El} {P' a' : Nat} (D : DoIn w0 w W G G1 a S R P s n xs) (H' : HeapIn w0 G1 W' a' S' P') (K : Keep G1 W W') : DoIn w0 w W' G G1 a' S' R P' s n xs :=
  ⟨H', D.row.keep (fun g hg => K g (D.own g hg)), D.own, (K _ D.g4).trans D.b4, (K _ D.g5).trans D.act, (K _ D.g7).trans D.b7, D.g4, D.g5, D.g7, D.sub, D.keep.trans (fun k hk => K k (D.sub k hk)), D.hn, D.hG⟩
theorem DoIn.more (D : DoIn w0 w W G G1 a S R P s n xs) (hb : Below W.heap.size W W') : DoIn w0 w W' G (fun k => G1 k ∨ (W.heap.size ≤ k ∧ k < W'.heap.size)) a S R P s n xs :=
  ⟨D.H.more hb (fun k hk => hk), D.row.below hb, fun g hg => .inl (D.own g hg), D.b4.below hb D.b4.lt, (hb.block _ (D.H.lt _ D.g5)).trans D.act, D.b7.below hb D.b7.lt, .inl D.g4, .inl D.g5, .inl D.g7, fun k hk => .inl (D.sub k hk),
    D.keep.trans (fun k hk => hb.block k (D.H.lt k (D.sub k hk))), D.hn, D.hG⟩
theorem DoIn.fin (D : DoIn w0 w W G G1 a S R P s n xs) {s' : Value} (row : RowR W 0 s' S) (own : ∀ g, s'.ownBlock = some g → G1 g) (u : Value) (m : Nat) :
    DoSt w0 ((W.setCell ⟨n + 1 + 1, 0, none⟩ u).drewN m) G1 a S P s' ∧ Keep G w ((W.setCell ⟨n + 1 + 1, 0, none⟩ u).drewN m) := by
  have hn := D.hn
  have hf : Fr [n + 1 + 1] W (W.setCell ⟨n + 1 + 1, 0, none⟩ u) := fr_setCell W ⟨n + 1 + 1, 0, none⟩ u
  have hd : Fr [n + 1 + 1] W ((W.setCell ⟨n + 1 + 1, 0, none⟩ u).drewN m) := hf.trans' (fr_drewN _ m _)
  refine ⟨⟨D.H.write hd (fun k hk => ?_), ?_, own⟩, D.keep.trans (fun k hk => hd.block k (D.H.lt k (D.sub k hk)) (fun hm => ?_))⟩
  · simp at hk; subst hk; exact ⟨D.g7, by omega⟩
  · exact (row.box D.b7 u).below ((fr_drewN _ m []).below (fun _ hx => by simp at hx) (Nat.le_refl _))
  · simp at hm; have := D.hG k hk; omega
end

/-- What do has done. -/
def DoPost (w0 w : World) (G : Nat → Prop) (S : List El) (P : Nat) (e : Ending) (w' : World) : Prop :=
  ∃ a' S' s' G' P', e = .returned (.tuple #[.pointer (some ⟨a', 0, none⟩), .agg #[s'], .bool true]) ∧ DoSt w0 w' G' a' S' P' s' ∧ (∀ k, G k → G' k) ∧ Keep G w w' ∧ P' ≤ P + 1 ∧ S'.length ≤ S.length + 1

set_option maxRecDepth 100000 in
set_option maxHeartbeats 3200000 in
theorem do_push {w0 w : World} {G : Nat → Prop} {a : Nat} {S : List El} {P : Nat} {s : Value} (D0 : DoSt w0 w G a S P s) (hT : Tab w0) (hS : S.length < 1024) (hP : P < 9223372036854775807) (x1 x2 x3 : Int) :
    Calls Tryd.prog 6 #[.pointer (some ⟨a, 0, none⟩), .agg #[s], .agg #[.int .i64 0, .int .i64 x1, .int .i64 x2, .int .u64 x3]] w fun e w' => DoPost w0 w G S P e w' := by
  have D := Lib.hid (D0.start #[.int .i64 0, .int .i64 x1, .int .i64 x2, .int .u64 x3])
  obtain ⟨a1, n1, c1, rfl⟩ := row_form D0.row
  clear D0
  go_enter Tryd.func6, Tryd.ntmps6
  go_wp2_with (go_at_call 11; fail)
  refine (push_in D.out.H x3 x2 hS hT hP).mono ?_
  rintro e W4 ⟨rfl, H4, K4⟩
  have D4 := Lib.hid (D.out.call H4 K4)
  have c4 := D4.out.b4.cell
  have k2 := cells_cell (o := 2) D4.out.act rfl
  have k3 := cells_cell (o := 3) D4.out.act rfl
  have hpush := Lib.hid (rpush_any D4.out.row hS x3 x2)
  clear D H4 K4
  go_wp2_with (go_at_call 18; fail)
  refine hpush.out.mono ?_
  rintro e W5 ⟨s', rfl, row5, hb5⟩
  obtain ⟨a2, n2, c2, rfl⟩ := row_form row5
  have hb6 : Below W4.heap.size W4 (W5.alloc (.cells #[.slice a2 n2 c2] 28)) := hb5.alloc hb5.size _
  have D6 := D4.out.more hb6
  have row6 : RowR (W5.alloc (.cells #[.slice a2 n2 c2] 28)) W4.heap.size (.slice a2 n2 c2) (pushS S x3 x2) := row5.below ((Below.refl _ _).alloc (Nat.le_refl _) _)
  have hfin := Lib.hid (D6.fin (row6.mono (Nat.zero_le _)) (fun g hg => Or.inr (row6.lt g hg)) (.slice a2 n2 c2))
  have hsub := Lib.hid D6.sub
  have c7 := D6.b7.cell
  have f7 := D6.b7.free
  have hq := World.cell?_setCell_same _ _ (.slice a2 n2 c2) c7
  clear D6 row6 row5 hb6 hb5 D4 hpush
  generalize lowOf (hsOf S) = l at *
  go_wp2_with fail
  go_region
  simp only [Exit.inBlock, Exit.then]
  go_at_K
  go_wp2_with fail
  exact bodyPost_ret (v := .tuple #[.pointer (some ⟨a, 0, none⟩), .agg #[.slice a2 n2 c2], .bool true]) (by simp [results, Tryd.results6, go_sem, hq]) rfl
    ⟨_, _, _, _, _, rfl, (hfin.out 1).1, hsub.out, (hfin.out 1).2, Nat.le_refl _, by simp [pushS]⟩
end Go.Proofs.YtpbnbddjfebenaaDoor
