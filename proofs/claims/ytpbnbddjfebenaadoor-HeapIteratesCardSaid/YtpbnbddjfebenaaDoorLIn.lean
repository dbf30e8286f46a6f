/- A heap inside a law's call: the blocks of the law's own that it leaves alone. -/
import Derived.Test.YtpbnbddjfebenaaDoorLRow
import Derived.Test.YtpbnbddjfebenaaDoorHCopy
namespace Go.Proofs.YtpbnbddjfebenaaDoor
open Go.RowKit Go.Sort
set_option linter.unusedVariables false
set_option linter.unusedSimpArgs false

/-- A heap at block a, made since w0; it has the elements S and owns no block of G. -/
structure HeapIn (w0 : World) (G : Nat → Prop) (w : World) (a : Nat) (S : List El) (P : Nat) : Prop where
  ex : ∃ h : Hp, h.a = a ∧ HeapAt w h S P ∧ (∀ k, k ∈ h.foot → w0.heap.size ≤ k) ∧ (∀ k, k ∈ h.foot → ¬ G k)
  lt : ∀ k, G k → k < w.heap.size
  below : Below w0.heap.size w0 w

/-- What a call leaves alone. -/
def Keep (G : Nat → Prop) (w w' : World) : Prop := ∀ k, G k → w'.heap[k]? = w.heap[k]?
theorem Keep.refl (G : Nat → Prop) (w : World) : Keep G w w := fun _ _ => rfl
theorem Keep.trans {G : Nat → Prop} {a b c : World} (h : Keep G a b) (k : Keep G b c) : Keep G a c := fun x hx => (k x hx).trans (h x hx)

def pt (a : Nat) : Value := .pointer (some ⟨a, 0, none⟩)

namespace HeapIn
variable {w0 w : World} {G : Nat → Prop} {a : Nat} {S : List El} {P : Nat}

theorem len_le (H : HeapIn w0 G w a S P) : S.length ≤ 1024 := by obtain ⟨h, _, HA, _⟩ := H.ex; exact HA.len_le
theorem hlt (H : HeapIn w0 G w a S P) : ∀ x, x ∈ hsOf S → x < 1024 := by obtain ⟨h, _, HA, _⟩ := H.ex; exact HA.hlt
theorem mono {Q : Nat} (H : HeapIn w0 G w a S P) (hq : P ≤ Q) : HeapIn w0 G w a S Q := by
  obtain ⟨h, ha, HA, h1, h2⟩ := H.ex
  exact ⟨⟨h, ha, HA.mono hq, h1, h2⟩, H.lt, H.below⟩
/-- The world has grown; the blocks left alone may be new ones, too. -/
theorem more {w' : World} {G' : Nat → Prop} (H : HeapIn w0 G w a S P) (hb : Below w.heap.size w w') (hG : ∀ k, G' k → G k ∨ (w.heap.size ≤ k ∧ k < w'.heap.size)) : HeapIn w0 G' w' a S P := by
  obtain ⟨h, ha, HA, h1, h2⟩ := H.ex
  refine ⟨⟨h, ha, HA.frame (Fr.of_below hb []) (fun _ _ => by simp), h1, fun k hk hg => ?_⟩, fun k hk => ?_, H.below.trans (hb.mono H.below.size)⟩
  · rcases hG k hg with h' | h'
    · exact h2 k hk h'
    · have := HA.lt_foot k hk; omega
  · rcases hG k hk with h' | h'
    · have := H.lt k h'; have := hb.size; omega
    · exact h'.2
theorem grown {w' : World} (H : HeapIn w0 G w a S P) (hb : Below w.heap.size w w') : HeapIn w0 G w' a S P := H.more hb fun _ h => .inl h
theorem less {G' : Nat → Prop} (H : HeapIn w0 G w a S P) (hG : ∀ k, G' k → G k) : HeapIn w0 G' w a S P := H.more (Below.refl _ _) fun k h => .inl (hG k h)
theorem alloc (H : HeapIn w0 G w a S P) (o : Obj) : HeapIn w0 G (w.alloc o) a S P := H.grown ((Below.refl _ _).alloc (Nat.le_refl _) _)
theorem drew (H : HeapIn w0 G w a S P) (n : Nat) : HeapIn w0 G (w.drewN n) a S P := H.grown ((fr_drewN w n []).below (fun _ hx => by simp at hx) (Nat.le_refl _))
theorem keep {w' : World} (H : HeapIn w0 G w a S P) (hb : Below w.heap.size w w') : Keep G w w' := fun k hk => hb.block k (H.lt k hk)
/-- A block of the law's own is written. -/
theorem write {w' : World} {F : List Nat} (H : HeapIn w0 G w a S P) (hf : Fr F w w') (hF : ∀ k, k ∈ F → G k ∧ w0.heap.size ≤ k) : HeapIn w0 G w' a S P := by
  obtain ⟨h, ha, HA, h1, h2⟩ := H.ex
  exact ⟨⟨h, ha, HA.frame hf (fun k hk hm => h2 k hk (hF k hm).1), h1, h2⟩, fun k hk => Nat.lt_of_lt_of_le (H.lt k hk) hf.size, H.below.trans (hf.below (fun x hx => (hF x hx).2) H.below.size)⟩
theorem changed {w' : World} {S' : List El} {P' : Nat} (H : HeapIn w0 G w a S P) {h h' : Hp} (ha : h.a = a) (h1 : ∀ k, k ∈ h.foot → w0.heap.size ≤ k) (h2 : ∀ k, k ∈ h.foot → ¬ G k) (HA : HeapAt w' h' S' P') (hf : Fr h.foot w w') (hx : Ext w.heap.size h h') : HeapIn w0 G w' a S' P' ∧ Keep G w w' := by
  refine ⟨⟨⟨h', hx.a.trans ha, HA, fun k hk => ?_, fun k hk hg => ?_⟩, fun k hk => Nat.lt_of_lt_of_le (H.lt k hk) hf.size, H.below.trans (hf.below h1 H.below.size)⟩, fun k hk => hf.block k (H.lt k hk) (fun hm => h2 k hm hk)⟩
  · rcases hx.foot k hk with h' | h'
    · exact h1 k h'
    · have := H.below.size; omega
  · rcases hx.foot k hk with h' | h'
    · exact h2 k h' hg
    · have := H.lt k hg; omega
end HeapIn

theorem ptr_of {h : Hp} {a : Nat} (ha : h.a = a) : h.ptr = pt a := by subst ha; rfl

variable {w0 w : World} {G : Nat → Prop} {a : Nat} {S : List El} {P : Nat}

theorem new_in (w0 w : World) (G : Nat → Prop) (hG : ∀ k, G k → k < w.heap.size) (hb : Below w0.heap.size w0 w) :
    Calls Tryd.prog 5 #[] w fun e w' => ∃ a, e = .returned (pt a) ∧ HeapIn w0 G w' a [] 0 ∧ Below w.heap.size w w' := by
  refine (new_any w).mono ?_
  rintro e w' ⟨rfl, HA, hb'⟩
  refine ⟨_, by rw [ptr_of rfl], ⟨⟨_, rfl, HA, fun k hk => ?_, fun k hk hg => ?_⟩, fun k hk => Nat.lt_of_lt_of_le (hG k hk) hb'.size, hb.trans (hb'.mono hb.size)⟩, hb'⟩
  · have := foot_new _ k hk; have := hb.size; omega
  · have := foot_new _ k hk; have := hG k hg; omega

theorem push_in (H : HeapIn w0 G w a S P) (k v : Int) (hS : S.length < 1024) (hT : Tab w0) (hP : P < 9223372036854775807) :
    Calls Tryd.prog 11 #[pt a, .int .u64 k, .int .i64 v] w fun e w' => e = .returned (.tuple #[.int .i64 (lowOf (hsOf S)), .int .i64 0]) ∧ HeapIn w0 G w' a (pushS S k v) (P + 1) ∧ Keep G w w' := by
  obtain ⟨h, ha, HA, h1, h2⟩ := H.ex
  have hp := push_any HA k v hS (hT.below H.below hT.lt) hP
  rw [ptr_of ha] at hp
  refine hp.mono ?_
  rintro e w' ⟨rfl, h', HA', hf, hx⟩
  exact ⟨rfl, H.changed ha h1 h2 HA' hf hx⟩
theorem push_full_in (H : HeapIn w0 G w a S P) (k v : Int) (hS : S.length = 1024) (hT : Tab w0) :
    Calls Tryd.prog 11 #[pt a, .int .u64 k, .int .i64 v] w fun e w' => e = .returned (.tuple #[.int .i64 0, .int .i64 7]) ∧ HeapIn w0 G w' a S P ∧ Keep G w w' := by
  obtain ⟨h, ha, HA, h1, h2⟩ := H.ex
  have hp := push_full HA k v hS (hT.below H.below hT.lt)
  rw [ptr_of ha] at hp
  refine hp.mono ?_
  rintro e w' ⟨rfl, n, rfl⟩
  have hb : Below w.heap.size w (w.drewN n) := (fr_drewN w n []).below (fun _ hx => by simp at hx) (Nat.le_refl _)
  exact ⟨rfl, H.grown hb, H.keep hb⟩
theorem top_none_in (H : HeapIn w0 G w a [] P) : Calls Tryd.prog 9 #[pt a] w fun e w' => e = .returned (.tuple #[.int .i64 0, .int .i64 9]) ∧ w = w' := by
  obtain ⟨h, ha, HA, h1, h2⟩ := H.ex
  have hp := top_none HA
  rwa [ptr_of ha] at hp
theorem top_some_in (H : HeapIn w0 G w a S P) {x : Nat} (hx : (order S).head? = some x) : Calls Tryd.prog 9 #[pt a] w fun e w' => e = .returned (.tuple #[.int .i64 x, .int .i64 0]) ∧ w = w' := by
  obtain ⟨h, ha, HA, h1, h2⟩ := H.ex
  have hp := top_some HA hx
  rwa [ptr_of ha] at hp
theorem len_in (H : HeapIn w0 G w a S P) : Calls Tryd.prog 27 #[pt a] w fun e w' => e = .returned (.int .i64 S.length) ∧ w = w' := by
  obtain ⟨h, ha, HA, h1, h2⟩ := H.ex
  have hp := len_any HA
  rwa [ptr_of ha] at hp
theorem get_no_in (H : HeapIn w0 G w a S P) (n : Int) (hn : ¬ isH S n) : Calls Tryd.prog 16 #[pt a, .int .i64 n] w fun e w' => e = .returned (.tuple #[.int .u64 0, .int .i64 0, .int .i64 9]) ∧ w = w' := by
  obtain ⟨h, ha, HA, h1, h2⟩ := H.ex
  have hp := get_no HA n hn
  rwa [ptr_of ha] at hp
theorem get_yes_in (H : HeapIn w0 G w a S P) (e : El) (he : e ∈ S) : Calls Tryd.prog 16 #[pt a, .int .i64 e.h] w fun r w' => r = .returned (.tuple #[.int .u64 e.k, .int .i64 e.v, .int .i64 0]) ∧ HeapIn w0 G w' a S P ∧ Keep G w w' ∧ ∃ n, w' = w.drewN n := by
  obtain ⟨h, ha, HA, h1, h2⟩ := H.ex
  have hp := get_yes HA e he
  rw [ptr_of ha] at hp
  refine hp.mono ?_
  rintro r w' ⟨rfl, n, rfl⟩
  have hb : Below w.heap.size w (w.drewN n) := (fr_drewN w n []).below (fun _ hx => by simp at hx) (Nat.le_refl _)
  exact ⟨rfl, H.grown hb, H.keep hb, n, rfl⟩
theorem change_no_in (H : HeapIn w0 G w a S P) (n k : Int) (hn : ¬ isH S n) : Calls Tryd.prog 10 #[pt a, .int .i64 n, .int .u64 k] w fun e w' => e = .returned (.int .i64 9) ∧ w = w' := by
  obtain ⟨h, ha, HA, h1, h2⟩ := H.ex
  have hp := change_no HA n k hn
  rwa [ptr_of ha] at hp
theorem change_yes_in (H : HeapIn w0 G w a S P) (x : Nat) (k : Int) (hx : x ∈ hsOf S) : Calls Tryd.prog 10 #[pt a, .int .i64 x, .int .u64 k] w fun e w' => e = .returned (.int .i64 0) ∧ HeapIn w0 G w' a (changeS S x k) P ∧ Keep G w w' := by
  obtain ⟨h, ha, HA, h1, h2⟩ := H.ex
  have hp := change_yes HA x k hx
  rw [ptr_of ha] at hp
  refine hp.mono ?_
  rintro r w' ⟨rfl, HA', hf⟩
  exact ⟨rfl, H.changed ha h1 h2 HA' hf (Ext.refl _ _)⟩
theorem remove_no_in (H : HeapIn w0 G w a S P) (n : Int) (hn : ¬ isH S n) : Calls Tryd.prog 15 #[pt a, .int .i64 n] w fun e w' => e = .returned (.int .i64 9) ∧ w = w' := by
  obtain ⟨h, ha, HA, h1, h2⟩ := H.ex
  have hp := remove_no HA n hn
  rwa [ptr_of ha] at hp
theorem remove_yes_in (H : HeapIn w0 G w a S P) (x : Nat) (hx : x ∈ hsOf S) : Calls Tryd.prog 15 #[pt a, .int .i64 x] w fun e w' => e = .returned (.int .i64 0) ∧ HeapIn w0 G w' a (removeS S x) P ∧ Keep G w w' := by
  obtain ⟨h, ha, HA, h1, h2⟩ := H.ex
  have hp := remove_yes HA x hx
  rw [ptr_of ha] at hp
  refine hp.mono ?_
  rintro r w' ⟨rfl, h', HA', hf, hx⟩
  exact ⟨rfl, H.changed ha h1 h2 HA' hf hx⟩
theorem layout_in (H : HeapIn w0 G w a S P) : Calls Tryd.prog 13 #[pt a] w fun e w' => ∃ v' L, e = .returned v' ∧ LayOf S L ∧ w'.ownsRow w.heap.size 3 1 v' L.length (L.map encN) ∧ Below w.heap.size w w' := by
  obtain ⟨h, ha, HA, h1, h2⟩ := H.ex
  have hp := layout_any HA
  rwa [ptr_of ha] at hp
theorem copy_in (H : HeapIn w0 G w a S P) : Calls Tryd.prog 22 #[pt a] w fun e w' => ∃ a', e = .returned (pt a') ∧ Below w.heap.size w w' ∧ ∃ h h' : Hp, h.a = a ∧ h'.a = a' ∧ HeapAt w' h S P ∧ HeapAt w' h' S P ∧ (∀ k, k ∈ h.foot → w0.heap.size ≤ k ∧ k < w.heap.size ∧ ¬ G k) ∧ (∀ k, k ∈ h'.foot → w.heap.size ≤ k) := by
  obtain ⟨h, ha, HA, h1, h2⟩ := H.ex
  have hp := copy_any HA
  rw [ptr_of ha] at hp
  refine hp.mono ?_
  rintro e w' ⟨h', rfl, HA', hb, hk⟩
  exact ⟨_, by rw [ptr_of rfl], hb, h, h', ha, rfl, HA.frame (Fr.of_below hb []) (fun _ _ => by simp), HA', fun k hk' => ⟨h1 k hk', HA.lt_foot k hk', h2 k hk'⟩, hk⟩

set_option maxHeartbeats 800000 in
theorem pushes_in (H : HeapIn w0 G w a S P) (k v : Int) (hS : S.length < 1024) (hT : Tab w0) (hP : P < 9223372036854775807) (l : Nat) (hl : lowOf (hsOf S) = l) :
    Calls Tryd.prog 12 #[pt a, .int .u64 k, .int .i64 v, .int .i64 l] w fun e w' => e = .returned (.bool true) ∧ HeapIn w0 G w' a (pushS S k v) (P + 1) ∧ Keep G w w' := by
  have hp := push_in H k v hS hT hP
  rw [hl] at hp
  have Hp := Lib.hid hp
  clear hp H hT hl
  have q : ((l : Int) == (l : Int)) = true := by simp
  unfold pt at *
  go_enter Tryd.func12, Tryd.ntmps12
  go_wp2_with fail
  refine Hp.out.mono ?_
  rintro e w1 ⟨rfl, H1, K1⟩
  go_wp2_with fail
  go_ret
  exact ⟨rfl, H1, K1⟩
end Go.Proofs.YtpbnbddjfebenaaDoor
