/- The calls of timers that change nothing: Len, first, Next. -/
import Derived.Test.YthlbnlbkgiclpaaDoorTCall
namespace Go.Proofs.YthlbnlbkgiclpaaDoor
open Go.RowKit Go.Sort
set_option linter.unusedVariables false
set_option linter.unusedSimpArgs false

variable {w0 w : World} {G : Nat → Prop} {a bb hp : Nat} {vg : Value} {S : List El} {gs : List Nat} {P : Nat}

set_option maxHeartbeats 800000 in
theorem tlen_in (T : TmIn w0 G w a S gs P) : Calls Tryd.prog 16 #[pt a] w fun e w' => e = .returned (.int .i64 S.length) ∧ w = w' := by
  obtain ⟨bb, hp, vg, B⟩ := T.ex
  have hu := Lib.hid (usable_in B)
  have hl := Lib.hid (len_in B.H)
  have ca := B.ca
  have cb := B.cb
  clear T B
  unfold pt at *
  go_enter Tryd.func16, Tryd.ntmps16
  go_wp2_with (first | (go_at_call 54; refine hu.out.mono ?_; rintro e w' ⟨rfl, rfl⟩) | (go_at_call 36; refine hl.out.mono ?_; rintro e w' ⟨rfl, rfl⟩))
  go_ret
  exact ⟨rfl, rfl⟩

theorem fst_nil {S : List El} (h : fstE S = none) : S = [] := fstE_none h

theorem set4 {w : World} {b : Nat} {x0 x1 x2 x3 : Value} {t : TypeId} (h : w.heap[b]? = some (.cells #[x0, x1, x2, x3] t (0, 0))) (v0 v1 v2 v3 : Value) :
    ((((w.setCell ⟨b, 0, none⟩ v0).setCell ⟨b, 1, none⟩ v1).setCell ⟨b, 2, none⟩ v2).setCell ⟨b, 3, none⟩ v3).heap[b]? = some (.cells #[v0, v1, v2, v3] t (0, 0)) :=
  cells_set (cells_set (cells_set (cells_set h 0 v0) 1 v1) 2 v2) 3 v3
theorem set2 {w : World} {b : Nat} {x0 x1 : Value} {t : TypeId} (h : w.heap[b]? = some (.cells #[x0, x1] t (0, 0))) (v0 v1 : Value) :
    ((w.setCell ⟨b, 0, none⟩ v0).setCell ⟨b, 1, none⟩ v1).heap[b]? = some (.cells #[v0, v1] t (0, 0)) :=
  cells_set (cells_set h 0 v0) 1 v1

def noDue : Value := .agg #[.int .i64 0, .int .i64 0, .int .i64 0, .int .u64 0]
def dueV (d : Du) : Value := .agg #[.int .i64 d.n, .int .i64 d.g, .int .i64 d.o, .int .u64 d.k]

set_option maxHeartbeats 1600000 in
theorem tfirst_none (T : TmIn w0 G w a [] gs P) : Calls Tryd.prog 55 #[pt a] w fun e w' => e = .returned (.tuple #[noDue, .bool false]) ∧ Grn w w' := by
  obtain ⟨bb, hp, vg, B⟩ := T.ex
  have B1 := B.grown ((Grn.refl w).alloc (.cells #[.int .i64 0, .int .i64 0, .int .i64 0, .int .u64 0] 108)).below
  have hu := Lib.hid (usable_in B1)
  have hl := Lib.hid (top_none_in B1.H)
  have ca := B.ca
  have cb := B.cb
  have al := B.alt
  have bl := B.blt
  clear T B B1
  unfold pt noDue at *
  go_enter Tryd.func55, Tryd.ntmps55
  go_wp2_with (first | (go_at_call 54; refine hu.out.mono ?_; rintro e w' ⟨rfl, rfl⟩) | (go_at_call 10; refine hl.out.mono ?_; rintro e w' ⟨rfl, rfl⟩))
  exact bodyPost_ret (v := .tuple #[.agg #[.int .i64 0, .int .i64 0, .int .i64 0, .int .u64 0], .bool false]) (by simp [results, Tryd.results55, go_sem]) rfl ⟨rfl, (Grn.refl w).alloc _⟩

set_option maxHeartbeats 3200000 in
theorem tfirst_some (T : TmIn w0 G w a S gs P) (e : El) (he : fstE S = some e) : Calls Tryd.prog 55 #[pt a] w fun r w' => r = .returned (.tuple #[dueV (dueOf gs e), .bool true]) ∧ Grn w w' := by
  have hm := fstE_mem he
  have hxl := T.p.lt e.h (List.mem_map_of_mem hm)
  obtain ⟨bb, hp, vg, B⟩ := T.ex
  obtain ⟨W, hW⟩ : ∃ W, w.alloc (.cells #[.int .i64 0, .int .i64 0, .int .i64 0, .int .u64 0] 108) = W := ⟨_, rfl⟩
  have hgW : Grn w W := by rw [← hW]; exact (Grn.refl w).alloc _
  have B1 := B.grown hgW.below
  have hu := Lib.hid (usable_in B1)
  have hl := Lib.hid (top_some_in B1.H (x := e.h) (by rw [fstE_order, he]; rfl))
  have hg := Lib.hid ((get_yes_in B1.H e hm).mono (R' := fun r w' => r = .returned (.tuple #[.int .u64 e.k, .int .i64 e.v, .int .i64 0]) ∧ ∃ k, w' = W.drewN k) fun r w' ⟨h1, _, _, h2⟩ => ⟨h1, h2⟩)
  have ca := B1.ca
  have cb := B1.cb
  have al := B1.alt
  have bl := B1.blt
  have r0 : W.heap[w.heap.size]? = some (.cells #[.int .i64 0, .int .i64 0, .int .i64 0, .int .u64 0] 108 (0, 0)) := by rw [← hW]; exact block_new _ _ _ rfl
  have hname := Lib.hid (fun m => name_in (B1.drew m) e.h hxl)
  have HgW := Lib.hid hgW
  have HW := Lib.hid hW
  clear T B B1 hm hxl he hgW hW
  obtain ⟨eh, ev, ek⟩ := e
  simp only [dueV, dueOf] at *
  generalize gs.getD eh 0 = z at *
  unfold pt at *
  go_enter Tryd.func55, Tryd.ntmps55
  go_wp2_with fail
  rw [HW.out]
  go_wp2_with (first | (go_at_call 54; refine hu.out.mono ?_; rintro e w' ⟨rfl, rfl⟩) | (go_at_call 10; refine hl.out.mono ?_; rintro e w' ⟨rfl, rfl⟩) | (go_at_call 25; refine hg.out.mono ?_; rintro e w' ⟨rfl, k, rfl⟩) | (go_at_call 73; fail))
  refine (hname.out _).mono ?_
  rintro e w2 ⟨rfl, hg2⟩
  have hb2 := hg2.below
  have r2 : w2.heap[w.heap.size]? = some (.cells #[.int .i64 0, .int .i64 0, .int .i64 0, .int .u64 0] 108 (0, 0)) := (hb2.block _ (lt_of_block r0)).trans r0
  have f0 := cells_free r2 0
  have f1 := cells_free r2 1
  have f2 := cells_free r2 2
  have f3 := cells_free r2 3
  have c0 := cells_cell (o := 0) r2 rfl
  have c1 := cells_cell (o := 1) r2 rfl
  have c2 := cells_cell (o := 2) r2 rfl
  have c3 := cells_cell (o := 3) r2 rfl
  have Hg2 := Lib.hid hg2
  have Hr2 := Lib.hid (set4 r2 (.int .i64 eh) (.int .i64 z) (.int .i64 ev) (.int .u64 ek))
  clear hg2 hb2 r2 r0
  go_wp2_with fail
  have s0 := cells_cell (o := 0) Hr2.out rfl
  have s1 := cells_cell (o := 1) Hr2.out rfl
  have s2 := cells_cell (o := 2) Hr2.out rfl
  have s3 := cells_cell (o := 3) Hr2.out rfl
  have hfin : Grn w ((((w2.setCell ⟨w.heap.size, 0, none⟩ (.int .i64 eh)).setCell ⟨w.heap.size, 1, none⟩ (.int .i64 z)).setCell ⟨w.heap.size, 2, none⟩ (.int .i64 ev)).setCell ⟨w.heap.size, 3, none⟩ (.int .u64 ek)) :=
    ((((((HgW.out.drew k).trans Hg2.out).set ⟨w.heap.size, 0, none⟩ _ (Nat.le_refl _)).set ⟨w.heap.size, 1, none⟩ _ (Nat.le_refl _)).set ⟨w.heap.size, 2, none⟩ _ (Nat.le_refl _)).set ⟨w.heap.size, 3, none⟩ _ (Nat.le_refl _))
  generalize ((((w2.setCell ⟨w.heap.size, 0, none⟩ (.int .i64 eh)).setCell ⟨w.heap.size, 1, none⟩ (.int .i64 z)).setCell ⟨w.heap.size, 2, none⟩ (.int .i64 ev)).setCell ⟨w.heap.size, 3, none⟩ (.int .u64 ek)) = w3 at *
  exact bodyPost_ret (v := .tuple #[.agg #[.int .i64 eh, .int .i64 z, .int .i64 ev, .int .u64 ek], .bool true]) (by simp [results, Tryd.results55, go_sem, s0, s1, s2, s3]) rfl ⟨rfl, hfin⟩

def nextK (S : List El) : Int := match fstE S with
  | some e => e.k
  | none => 18446744073709551615
theorem nextK_none {S : List El} (h : fstE S = none) : nextK S = 18446744073709551615 := by unfold nextK; rw [h]
theorem nextK_some {S : List El} {e : El} (h : fstE S = some e) : nextK S = e.k := by unfold nextK; rw [h]

set_option maxHeartbeats 800000 in
theorem tnext_in (T : TmIn w0 G w a S gs P) : Calls Tryd.prog 18 #[pt a] w fun r w' => r = .returned (.int .u64 (nextK S)) ∧ Grn w w' := by
  cases hf : fstE S with
  | none =>
    rw [nextK_none hf]
    obtain rfl := fstE_none hf
    have h1 := Lib.hid (tfirst_none T)
    clear hf T
    unfold pt noDue at *
    go_enter Tryd.func18, Tryd.ntmps18
    go_wp2_with (go_at_call 55; refine h1.out.mono ?_; rintro r w' ⟨rfl, hg⟩)
    go_ret
    exact ⟨rfl, hg.alloc _⟩
  | some e =>
    rw [nextK_some hf]
    have h1 := Lib.hid (tfirst_some T e hf)
    clear hf T
    unfold pt dueV dueOf at *
    go_enter Tryd.func18, Tryd.ntmps18
    go_wp2_with (go_at_call 55; refine h1.out.mono ?_; rintro r w' ⟨rfl, hg⟩)
    go_ret
    exact ⟨rfl, hg.alloc _⟩
end Go.Proofs.YthlbnlbkgiclpaaDoor
