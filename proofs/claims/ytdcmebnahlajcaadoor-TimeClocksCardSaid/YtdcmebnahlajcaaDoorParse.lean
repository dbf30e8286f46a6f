/- The contracts of Parse and of the reference's reading of a text of a time. -/
import Derived.Test.YtdcmebnahlajcaaDoorText
import Derived.WalkSmall
import Derived.LoopTactic
import Derived.Deep.QuietTactic
import Derived.BigQuiet
namespace Go.Proofs.YtdcmebnahlajcaaDoor
open Go.RowKit Go.Lib

theorem g0 : Tryd.prog.globalNamed "internal/strconv.uint64pow10" = some 0 := by kernel_rfl
theorem g1 : Tryd.prog.globalNamed "strconv.ErrSyntax" = some 1 := by kernel_rfl
theorem g2 : Tryd.prog.globalNamed "strconv.ErrRange" = some 2 := by kernel_rfl

/-- What the listed variables hold. -/
def Vars (w : World) : Prop :=
  Lib.TabIs Tryd.prog w "internal/strconv.uint64pow10" .u64 Lib.pow10Tab ∧ (∃ tp p, w.var? Tryd.prog "strconv.ErrSyntax" = some #[.iface tp p]) ∧ ∃ tp p, w.var? Tryd.prog "strconv.ErrRange" = some #[.iface tp p]

theorem lt_of_var {w : World} {n : String} {g : Nat} {cs : Array Value} (hg : Tryd.prog.globalNamed n = some g) (h : w.var? Tryd.prog n = some cs) : g < w.heap.size := by
  unfold World.var? at h
  rw [hg] at h
  simp only [Option.bind_some] at h
  rcases Nat.lt_or_ge g w.heap.size with h' | h'
  · exact h'
  · rw [Array.getElem?_eq_none h'] at h; cases h

theorem Vars.below {w w' : World} (h : Vars w) (hb : Below w.heap.size w w') : Vars w' := by
  obtain ⟨a, ⟨tp, p, b⟩, ⟨tq, q, c⟩⟩ := h
  exact ⟨var?_below hb g0 (lt_of_var g0 a) a, ⟨tp, p, var?_below hb g1 (lt_of_var g1 b) b⟩, ⟨tq, q, var?_below hb g2 (lt_of_var g2 c) c⟩⟩

theorem bytes_eq (s : ByteArray) : s = ⟨s.data.toList.toArray⟩ := by cases s; simp

theorem bytes_beq (s : ByteArray) (l : List UInt8) : (s == (⟨l.toArray⟩ : ByteArray)) = decide (s.data.toList = l) := by
  cases s with
  | mk d =>
    show (d == l.toArray) = _
    rw [Bool.eq_iff_iff, beq_iff_eq, decide_eq_true_iff]
    constructor
    · rintro rfl; simp
    · intro h
      have h' : d.toList = l := h
      rw [← h']

/-- What Parse returns. -/
def parseV (s : List UInt8) : Value := .tuple #[.int .u64 (parseT s).1, .int .i64 (if (parseT s).2 then 0 else 6)]

theorem parseV_ok {s : List UInt8} {u : Nat} (h : parseT s = (u, true)) : parseV s = .tuple #[.int .u64 u, .int .i64 0] := by
  unfold parseV; rw [h]; rfl
theorem parseV_no {s : List UInt8} (h : parseT s = (0, false)) : parseV s = .tuple #[.int .u64 0, .int .i64 6] := by
  unfold parseV; rw [h]; rfl

set_option maxHeartbeats 800000 in
theorem parse_any (s : ByteArray) (hs : s.size ≤ 281474976710656) (w : World) (hv : Vars w) :
    Calls Tryd.prog 19 #[.string s] w fun e w' => e = .returned (parseV s.data.toList) ∧ Below w.heap.size w w' := by
  by_cases h : s.data.toList = neverB
  · have hr : parseV s.data.toList = .tuple #[.int .u64 18446744073709551615, .int .i64 0] := by
      rw [parseV_ok (u := 18446744073709551615) (by unfold parseT; rw [if_pos h])]; rfl
    have HR := Lib.hid hr
    clear hr
    have hb : (s.toList == [110, 101, 118, 101, 114]) = true := by
      rw [ByteArray.toList_eq, h]; rfl
    clear h
    go_enter Tryd.func19, Tryd.ntmps19
    go_wp2_with fail
    go_ret2
    exact ⟨by rw [HR.out]; rfl, Below.refl _ _⟩
  · have hb : (s.toList == [110, 101, 118, 101, 114]) = false := by
      rw [ByteArray.toList_eq, beq_eq_false_iff_ne]; exact h
    by_cases hok : ∃ u, parseUintB 64 s.data.toList = .ok u
    · obtain ⟨u, hp⟩ := hok
      have hu : u < 18446744073709551616 := by have := parseUintB_le hp; omega
      have HP := Lib.hid hp
      clear hp
      by_cases ht : textT u = s.data.toList
      · have HR := Lib.hid (parseV_ok (s := s.data.toList) (u := u) (parseT_ok h HP.out ht))
        have hd : (textT u == s.toList) = true := by
          rw [ByteArray.toList_eq, ht, beq_self_eq_true]
        have HT := Lib.hid ht
        clear ht h
        go_enter Tryd.func19, Tryd.ntmps19
        go_wp2_with (go_at_call 32; refine (Tryd.strconv_ParseUint_10_at64_ok s (by omega) u HP.out _).mono ?_; rintro e w1 ⟨rfl, hW⟩)
        have hb1 : Below w.heap.size w w1 := by
          rcases hW with rfl | rfl
          · exact Below.refl _ _
          · exact Lib.bytesWorld_below _ _ _
        clear hW
        go_wp2_with (go_at_call 17; refine (text_any u hu _ (hv.below hb1).1).mono ?_; rintro e w2 ⟨rfl, hb2⟩)
        go_ret2
        exact ⟨by rw [HR.out]; rfl, hb1.trans (hb2.mono hb1.size)⟩
      · have HR := Lib.hid (parseV_no (s := s.data.toList) (parseT_other h HP.out ht))
        have hd : (textT u == s.toList) = false := by
          rw [ByteArray.toList_eq, beq_eq_false_iff_ne]; exact ht
        have HT := Lib.hid ht
        clear ht h
        go_enter Tryd.func19, Tryd.ntmps19
        go_wp2_with (go_at_call 32; refine (Tryd.strconv_ParseUint_10_at64_ok s (by omega) u HP.out _).mono ?_; rintro e w1 ⟨rfl, hW⟩)
        have hb1 : Below w.heap.size w w1 := by
          rcases hW with rfl | rfl
          · exact Below.refl _ _
          · exact Lib.bytesWorld_below _ _ _
        clear hW
        go_wp2_with (go_at_call 17; refine (text_any u hu _ (hv.below hb1).1).mono ?_; rintro e w2 ⟨rfl, hb2⟩)
        go_ret2
        exact ⟨by rw [HR.out]; rfl, hb1.trans (hb2.mono hb1.size)⟩
    · have HO := Lib.hid (fun u hu => hok ⟨u, hu⟩ : ∀ u, parseUintB 64 s.data.toList ≠ .ok u)
      have HR := Lib.hid (parseV_no (parseT_bad h HO.out))
      clear hok h
      by_cases hp : parseUintB 64 s.data.toList = .range
      · have HP := Lib.hid hp
        obtain ⟨tp, p, hsy⟩ := hv.2.2
        have HS := Lib.hid hsy
        clear hp hsy
        go_enter Tryd.func19, Tryd.ntmps19
        go_wp2_with (go_at_call 32; refine (Tryd.strconv_ParseUint_10_at64_range_var s hs HP.out tp p _ HS.out).mono ?_; rintro e w1 ⟨N, rfl, _, _, hb1⟩)
        go_ret2
        exact ⟨by rw [HR.out]; rfl, hb1⟩
      · have HP := Lib.hid hp
        obtain ⟨tp, p, hsy⟩ := hv.2.1
        have HS := Lib.hid hsy
        clear hp hsy
        go_enter Tryd.func19, Tryd.ntmps19
        go_wp2_with (go_at_call 32; refine (Tryd.parseUint_bad s hs HO.out HP.out tp p _ HS.out).mono ?_; rintro e w1 ⟨N, rfl, _, _, hb1⟩)
        go_ret2
        exact ⟨by rw [HR.out]; rfl, hb1⟩
end Go.Proofs.YtdcmebnahlajcaaDoor
