/- The calls of a heap that change nothing: usable, find, Top, Get, Len. -/
import Derived.Test.YtpbnbddjfebenaaDoorHInv
namespace Go.Proofs.YtpbnbddjfebenaaDoor
open Go.RowKit Go.Sort
open BodAt (row_ne row_row_ne)
set_option linter.unusedVariables false
set_option linter.unusedSimpArgs false

/-- A heap in memory that has the elements S; at most P were pushed. -/
structure HeapAt (w : World) (h : Hp) (S : List El) (P : Nat) : Prop where
  ex : ∃ s, BodAt w h s ∧ Inv s S P

def Hp.ptr (h : Hp) : Value := .pointer (some ⟨h.a, 0, none⟩)

theorem HeapAt.frame {w w' : World} {h : Hp} {S : List El} {P : Nat} {F : List Nat} (H : HeapAt w h S P) (hf : Fr F w w') (hn : ∀ k, k ∈ h.foot → k ∉ F) : HeapAt w' h S P := by
  obtain ⟨s, b, i⟩ := H.ex
  exact ⟨s, b.frame hf hn, i⟩
theorem HeapAt.lt_foot {w : World} {h : Hp} {S : List El} {P : Nat} (H : HeapAt w h S P) : ∀ k, k ∈ h.foot → k < w.heap.size := by
  obtain ⟨s, b, i⟩ := H.ex
  exact b.lt_foot
theorem HeapAt.len_le {w : World} {h : Hp} {S : List El} {P : Nat} (H : HeapAt w h S P) : S.length ≤ 1024 := by
  obtain ⟨s, b, i⟩ := H.ex
  exact i.len_le
theorem HeapAt.mono {w : World} {h : Hp} {S : List El} {P Q : Nat} (H : HeapAt w h S P) (hq : P ≤ Q) : HeapAt w h S Q := by
  obtain ⟨s, b, i⟩ := H.ex
  exact ⟨s, b, ⟨i.n_le, i.word, i.bits, i.perm, i.nums, i.mem, i.idx, i.heap, i.p0, by have := i.p1; omega⟩⟩
theorem HeapAt.hlt {w : World} {h : Hp} {S : List El} {P : Nat} (H : HeapAt w h S P) : ∀ x, x ∈ hsOf S → x < 1024 := by
  obtain ⟨s, b, i⟩ := H.ex
  exact fun x hx => by have := i.hlt x hx; have := i.n_le; omega

set_option maxHeartbeats 400000 in
theorem usable_nil (w : World) : Calls Tryd.prog 24 #[.pointer none] w fun e w' => e = .returned (.bool false) ∧ w = w' := by
  go_enter Tryd.func24, Tryd.ntmps24
  go_wp2_with fail
  go_ret
  exact ⟨rfl, rfl⟩
set_option maxHeartbeats 400000 in
theorem usable_zero (a : Nat) (w : World) (hc : w.cell? ⟨a, 0, none⟩ = some (.pointer none)) : Calls Tryd.prog 24 #[.pointer (some ⟨a, 0, none⟩)] w fun e w' => e = .returned (.bool false) ∧ w = w' := by
  go_enter Tryd.func24, Tryd.ntmps24
  go_wp2_with fail
  go_ret
  exact ⟨rfl, rfl⟩
set_option maxHeartbeats 400000 in
theorem usable_yes (a bb : Nat) (w : World) (hc : w.cell? ⟨a, 0, none⟩ = some (.pointer (some ⟨bb, 0, none⟩))) : Calls Tryd.prog 24 #[.pointer (some ⟨a, 0, none⟩)] w fun e w' => e = .returned (.bool true) ∧ w = w' := by
  go_enter Tryd.func24, Tryd.ntmps24
  go_wp2_with fail
  go_ret
  exact ⟨rfl, rfl⟩

/-- Is n the handle of an element? -/
def isH (S : List El) (n : Int) : Prop := ∃ x : Nat, n = x ∧ x ∈ hsOf S

set_option maxHeartbeats 800000 in
theorem find_no {w : World} {h : Hp} {s : Bd} {S : List El} {P : Nat} (b : BodAt w h s) (i : Inv s S P) (n : Int) (hn : ¬ isH S n) :
    Calls Tryd.prog 28 #[h.ptr, .int .i64 n] w fun e w' => e = .returned (.tuple #[.pointer none, .int .i64 9]) ∧ w = w' := by
  have ha := cell_of_one b.ha
  have hu := Lib.hid (usable_yes h.a h.bb w ha)
  have hh : Hid (Calls Tryd.prog 43 #[.pointer (some ⟨h.bb, 1, none⟩), .int .i64 n] w fun e w' => e = .returned (.bool false) ∧ w = w') := by
    by_cases h1 : n < 0
    · exact has_low n _ w h1
    · by_cases h2 : 1024 ≤ n
      · exact has_high n _ w h2
      · obtain ⟨k, rfl⟩ : ∃ k : Nat, n = k := ⟨n.toNat, by omega⟩
        have := has_in b.hb k (by omega) (i.word _ (by omega))
        have hf : bitOf s.W k = false := by
          cases hb : bitOf s.W k with
          | false => rfl
          | true => exact absurd ⟨k, rfl, (i.bits k (by omega)).1 hb⟩ hn
        rw [hf] at this
        exact this
  clear b i hn
  unfold Hp.ptr
  go_enter Tryd.func28, Tryd.ntmps28
  go_wp2_with (first | (go_at_call 24; refine hu.out.mono ?_; rintro e w' ⟨rfl, rfl⟩) | (go_at_call 43; refine hh.out.mono ?_; rintro e w' ⟨rfl, rfl⟩))
  go_ret2
  exact ⟨rfl, rfl⟩

set_option maxHeartbeats 800000 in
theorem find_yes {w : World} {h : Hp} {s : Bd} {S : List El} {P : Nat} (b : BodAt w h s) (i : Inv s S P) (x : Nat) (hx : x ∈ hsOf S) :
    ∃ g cap, Cellsy w h s g cap ∧ Calls Tryd.prog 28 #[h.ptr, .int .i64 x] w fun e w' => e = .returned (.tuple #[.pointer (some ⟨g, x * 4, none⟩), .int .i64 0]) ∧ w = w' := by
  have hxn := i.hlt x hx
  have hn := i.n_le
  obtain ⟨g, cap, C⟩ := b.cellsy (by omega)
  refine ⟨g, cap, C, ?_⟩
  have ha := cell_of_one b.ha
  have hu := Lib.hid (usable_yes h.a h.bb w ha)
  have hh : Hid (Calls Tryd.prog 43 #[.pointer (some ⟨h.bb, 1, none⟩), .int .i64 x] w fun e w' => e = .returned (.bool true) ∧ w = w') := by
    have := has_in b.hb x (by omega) (i.word _ (by omega))
    rw [(i.bits x (by omega)).2 hx] at this
    exact this
  have hb0 := C.b0
  have hxi : (x : Int) < (s.n : Int) := by omega
  have hni : (s.n : Int) ≤ 1024 := by omega
  clear b i C
  unfold Hp.ptr
  go_enter Tryd.func28, Tryd.ntmps28
  go_wp2_with (first | (go_at_call 24; refine hu.out.mono ?_; rintro e w' ⟨rfl, rfl⟩) | (go_at_call 43; refine hh.out.mono ?_; rintro e w' ⟨rfl, rfl⟩))
  go_ret2
  exact ⟨rfl, rfl⟩

set_option maxHeartbeats 400000 in
theorem len_any {w : World} {h : Hp} {S : List El} {P : Nat} (H : HeapAt w h S P) : Calls Tryd.prog 27 #[h.ptr] w fun e w' => e = .returned (.int .i64 S.length) ∧ w = w' := by
  obtain ⟨s, b, i⟩ := H.ex
  have ha := cell_of_one b.ha
  have hu := Lib.hid (usable_yes h.a h.bb w ha)
  obtain ⟨cur, hcur, _, _, _, h17, _⟩ := b.hb.ex
  have c17 := cells_cell hcur h17
  have hl := i.len
  have hv : ∃ a c, h.vi = .slice a S.length c := by
    rw [← hl]
    rcases b.hi.2 with ⟨hv, h0⟩ | ⟨g, cap, cu, hv, _⟩
    · exact ⟨none, 0, by rw [hv, h0]⟩
    · exact ⟨_, _, hv⟩
  obtain ⟨a, c, hv⟩ := hv
  rw [hv] at c17
  clear b i H hcur h17 hl hv
  unfold Hp.ptr
  go_enter Tryd.func27, Tryd.ntmps27
  go_wp2_with (first | (go_at_call 24; refine hu.out.mono ?_; rintro e w' ⟨rfl, rfl⟩))
  go_ret
  exact ⟨rfl, rfl⟩

set_option maxHeartbeats 400000 in
theorem top_none {w : World} {h : Hp} {P : Nat} (H : HeapAt w h [] P) : Calls Tryd.prog 9 #[h.ptr] w fun e w' => e = .returned (.tuple #[.int .i64 0, .int .i64 9]) ∧ w = w' := by
  have hl := Lib.hid (len_any H)
  obtain ⟨s, b, i⟩ := H.ex
  have ha := cell_of_one b.ha
  have hu := Lib.hid (usable_yes h.a h.bb w ha)
  clear b i H
  unfold Hp.ptr at *
  go_enter Tryd.func9, Tryd.ntmps9
  go_wp2_with (first | (go_at_call 24; refine hu.out.mono ?_; rintro e w' ⟨rfl, rfl⟩) | (go_at_call 27; refine hl.out.mono ?_; rintro e w' ⟨rfl, rfl⟩))
  go_ret2
  exact ⟨rfl, rfl⟩

set_option maxHeartbeats 400000 in
theorem top_some {w : World} {h : Hp} {S : List El} {P : Nat} (H : HeapAt w h S P) {x : Nat} (hx : (order S).head? = some x) : Calls Tryd.prog 9 #[h.ptr] w fun e w' => e = .returned (.tuple #[.int .i64 x, .int .i64 0]) ∧ w = w' := by
  have hl := Lib.hid (len_any H)
  obtain ⟨s, b, i⟩ := H.ex
  have hS : 0 < S.length := by
    cases S with
    | nil => simp [order_nil] at hx
    | cons _ _ => simp
  have ha := cell_of_one b.ha
  have hu := Lib.hid (usable_yes h.a h.bb w ha)
  have hil := i.len
  obtain ⟨g, cap, C⟩ := b.celli (by omega)
  have hr := root_order i.keeps i.perm i.heap (by omega)
  rw [hx] at hr
  have e0 := C.e 0 (by omega)
  rw [← Option.some.inj hr] at e0
  have b17 := C.b17
  rw [hil] at b17
  have q : ((S.length : Int) == 0) = false := by simp; intro h0; simp [h0] at hS
  have hSi : (0 : Int) < (S.length : Int) := by omega
  clear b i H C hr hx hil
  unfold Hp.ptr encN at *
  go_enter Tryd.func9, Tryd.ntmps9
  go_wp2_with (first | (go_at_call 24; refine hu.out.mono ?_; rintro e w' ⟨rfl, rfl⟩) | (go_at_call 27; refine hl.out.mono ?_; rintro e w' ⟨rfl, rfl⟩))
  go_ret2
  exact ⟨rfl, rfl⟩

theorem get_no {w : World} {h : Hp} {S : List El} {P : Nat} (H : HeapAt w h S P) (n : Int) (hn : ¬ isH S n) : Calls Tryd.prog 16 #[h.ptr, .int .i64 n] w fun e w' => e = .returned (.tuple #[.int .u64 0, .int .i64 0, .int .i64 9]) ∧ w = w' := by
  obtain ⟨s, b, i⟩ := H.ex
  have hf := Lib.hid (find_no b i n hn)
  clear b i H hn
  unfold Hp.ptr at *
  go_enter Tryd.func16, Tryd.ntmps16
  go_wp2_with (first | (go_at_call 28; refine hf.out.mono ?_; rintro e w' ⟨rfl, rfl⟩))
  go_ret3
  exact ⟨rfl, rfl⟩

set_option maxHeartbeats 800000 in
theorem get_yes {w : World} {h : Hp} {S : List El} {P : Nat} (H : HeapAt w h S P) (e : El) (he : e ∈ S) : Calls Tryd.prog 16 #[h.ptr, .int .i64 e.h] w fun r w' => r = .returned (.tuple #[.int .u64 e.k, .int .i64 e.v, .int .i64 0]) ∧ ∃ n, w' = w.drewN n := by
  obtain ⟨s, b, i⟩ := H.ex
  obtain ⟨g, cap, C, hf⟩ := find_yes b i e.h (List.mem_map_of_mem he)
  have hm := i.mem e he
  have c0 := C.e0 e.h hm.1
  have c1 := C.e1 e.h hm.1
  rw [hm.2.1] at c0
  rw [hm.2.2.1] at c1
  have HF := Lib.hid hf
  clear b i H C hm he hf
  obtain ⟨x, v, k⟩ := e
  simp only at c0 c1 HF ⊢
  unfold Hp.ptr at *
  go_enter Tryd.func16, Tryd.ntmps16
  go_wp2_with (first | (go_at_call 28; refine HF.out.mono ?_; rintro e w' ⟨rfl, rfl⟩))
  go_quiet (fail)
  go_wp2_with fail
  go_ret3
  exact ⟨rfl, _, rfl⟩
end Go.Proofs.YtpbnbddjfebenaaDoor
