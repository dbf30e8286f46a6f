/- Len, Bytes, Equal; bytes.Clone; texts of bytes. -/
import Derived.Test.YteimjkmjofaieaaCNew
namespace Go.Proofs.Yteimjkmjofaieaa
open Go.RowKit Go.Sort
set_option linter.unusedVariables false
set_option linter.unusedSimpArgs false
set_option maxRecDepth 100000

/-- The text of a slice of bytes. -/
theorem src_str {w : World} {v : Value} {L : List UInt8} (h : SrcV w v (L.map encB)) : (convert 29 9 v).run Try.prog w = .ok (.string (strB L)) w := by
  rcases h with ⟨rfl, hn⟩ | ⟨⟨b, off, sp⟩, c, rfl, hc1, hc2, hcell, hsp⟩
  · have hL : L = [] := by simpa using hn
    subst hL
    exact run_convert_bytes_nil w 29 5 Try.underlying29 Try.underlying5 0 0 9 Try.underlying9
  · rw [List.length_map]
    by_cases h0 : L.length = 0
    · have hL : L = [] := List.eq_nil_of_length_eq_zero h0
      subst hL
      have hl := run_loadCells_list (P := Try.prog) w ⟨b, off, sp⟩ [] (by simp)
      rw [List.length_nil, run_convert_bytes_string w 29 9 5 _ 0 c Try.underlying29 Try.underlying5 Try.underlying9, run_bytesToString w ⟨b, off, sp⟩ 0 c [] (by simpa using hl)]
      rfl
    · obtain rfl : sp = none := hsp (by simp; omega)
      have := run_convert_bytes_arg (P := Try.prog) w 29 5 Try.underlying29 Try.underlying5 b off L.length c (L.map fun x => ((x.toNat : Nat) : Int)) (by simp) (fun i hi => by
        have h1 : (L.map encB)[i]? = some (encB L[i]) := by simp [hi]
        have h2 := hcell i _ h1
        rw [Go.WideShapes.add_plain] at h2
        rw [h2]
        simp [List.getD, hi, encB]) 9 Try.underlying9
      rw [this]
      have : strOfNums (L.map fun x => ((x.toNat : Nat) : Int)) = strB L := by
        unfold strOfNums strB
        congr 1
        simp only [List.map_map]
        conv => rhs; rw [← List.map_id L]
        congr 1
        refine List.map_congr_left (fun x _ => ?_)
        simp
      rw [this]
theorem row_str {w : World} {base : Nat} {v : Value} {L : List UInt8} (h : RowB w base v L) : (convert 29 9 v).run Try.prog w = .ok (.string (strB L)) w := src_str (RowV.src h)
theorem strB_toList (A : List UInt8) : (strB A).toList = A := ByteArray.toList_mk A
theorem strB_beq (A B : List UInt8) : ((strB A).toList == (strB B).toList) = decide (A = B) := by
  rw [strB_toList, strB_toList]
  by_cases h : A = B
  · subst h; simp
  · simp [h]

set_option maxHeartbeats 1600000 in
set_option maxRecDepth 100000 in
theorem clone_any {w : World} {v : Value} {L : List UInt8} (ho : SrcV w v (L.map encB)) (hl : L.length ≤ 100000) :
    Calls Try.prog 51 #[v] w fun e w' => ∃ v', e = .returned v' ∧ RowB w' w.heap.size v' L ∧ Below w.heap.size w w' := by
  have q22 : ∀ (w : World) (a : Option Addr) (n c n' c' : Nat), (binOp .eql 29 (.slice a n c) (.slice none n' c')).run Try.prog w = .ok (.bool a.isNone) w := fun w a n c n' c' => Lib.run_eql_slice_nil w _ _ a n c n' c' Try.underlying29
  have HO := Lib.hid ho
  rcases ho with ⟨rfl, hn⟩ | ⟨ad, c, rfl, hc1, hc2, hcell, hsp⟩
  · have hL : L = [] := by simpa using hn
    subst hL
    clear hn
    go_enter Try.func51, Try.ntmps51
    go_wp2_with fail
    go_ret
    exact ⟨.slice none 0 0, rfl, World.ownsRow_nil _ _ _ _, Below.refl _ _⟩
  · clear hcell hsp
    rw [List.length_map] at hc1 HO ⊢
    obtain ⟨n, hn⟩ : ∃ n, n = L.length := ⟨_, rfl⟩
    rw [← hn] at hc1 HO hl ⊢
    have HNL := Lib.hid hn
    clear hn
    go_enter Try.func51, Try.ntmps51
    go_wp2_with (at_builtin; refine wpList_append_v slcB (by decide) rfl (.tmp 5) (.tmp 6) rfl rfl rfl (row_made w 5 [] (Nat.zero_le _)) (by simp) (HO.out.grown (below_alloc _ _)) (encB_one L) (by have := HNL.out; simp; omega) ?_)
    intro v' w1 hown hf hnear
    go_wp2_with fail
    go_ret
    refine ⟨v', rfl, by simpa [RowB] using hown, ?_⟩
    exact (below_alloc _ _).trans (hf.below (fun x hx => by simp [Value.ownBlock] at hx; omega) (by simp))

set_option maxHeartbeats 800000 in
theorem bytes_any {w : World} {b : Nat} {v : Value} {Ps : Parts} (R : RopeAt w b v Ps) : Calls Try.prog 63 #[v] w fun e w' => ∃ v', e = .returned v' ∧ RowB w' w.heap.size v' Ps.flatten ∧ Below w.heap.size w w' := by
  obtain ⟨vd, ve, rfl, hd, he⟩ := R.ex
  have hs := R.size
  obtain ⟨da, dc, hf, hd1, hd2⟩ := hd.form
  obtain ⟨ea, ec, hf2, he1, he2⟩ := he.form
  obtain ⟨fl, hfl⟩ : ∃ fl, fl = Ps.flatten.length := ⟨_, rfl⟩
  obtain ⟨el, hel⟩ : ∃ el, el = (ends 0 Ps).length := ⟨_, rfl⟩
  rw [← hfl] at hf
  rw [← hel] at hf2
  subst hf hf2
  have hc := Lib.hid (clone_any (w := w.alloc (.cells #[.slice da fl dc, .slice ea el ec] 52)) ((RowV.src hd).grown (below_alloc _ _)) (by omega))
  clear hd he R hfl hel hs hd1 he1
  go_enter Try.func63, Try.ntmps63
  go_wp2_with (go_at_call 51; fail)
  refine hc.out.mono ?_
  rintro e w1 ⟨v', rfl, ho, hb⟩
  have HO := Lib.hid ho
  have HB := Lib.hid hb
  clear ho hb hc
  go_wp2_with fail
  go_ret
  exact ⟨v', rfl, RowV.lower HO.out (by simp), (below_alloc _ _).trans (HB.out.mono (by simp))⟩

end Go.Proofs.Yteimjkmjofaieaa
