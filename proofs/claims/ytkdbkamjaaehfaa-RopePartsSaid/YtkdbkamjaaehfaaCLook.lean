/- Len, Bytes, Equal; bytes.Clone; texts of bytes. -/
import Derived.Test.YtkdbkamjaaehfaaCNew
namespace Go.Proofs.Ytkdbkamjaaehfaa
open Go.RowKit Go.Sort
set_option linter.unusedVariables false
set_option linter.unusedSimpArgs false

/-- The text of a slice of bytes. -/
theorem src_str {w : World} {v : Value} {L : List UInt8} (h : SrcV w v (L.map encB)) : (convert 26 9 v).run Try.prog w = .ok (.string (strB L)) w := by
  rcases h with ⟨rfl, hn⟩ | ⟨⟨b, off, sp⟩, c, rfl, hc1, hc2, hcell, hsp⟩
  · have hL : L = [] := by simpa using hn
    subst hL
    exact run_convert_bytes_nil w 26 5 Try.underlying26 Try.underlying5 0 0 9 Try.underlying9
  · rw [List.length_map]
    by_cases h0 : L.length = 0
    · have hL : L = [] := List.eq_nil_of_length_eq_zero h0
      subst hL
      have hl := run_loadCells_list (P := Try.prog) w ⟨b, off, sp⟩ [] (by simp)
      rw [List.length_nil, run_convert_bytes_string w 26 9 5 _ 0 c Try.underlying26 Try.underlying5 Try.underlying9, run_bytesToString w ⟨b, off, sp⟩ 0 c [] (by simpa using hl)]
      rfl
    · obtain rfl : sp = none := hsp (by simp; omega)
      have := run_convert_bytes_arg (P := Try.prog) w 26 5 Try.underlying26 Try.underlying5 b off L.length c (L.map fun x => ((x.toNat : Nat) : Int)) (by simp) (fun i hi => by
        have h1 : (L.map encB)[i]? = some (encB L[i]) := by simp [hi]
        have h2 := hcell i _ h1
        rw [Go.WideShapes.add_plain] at h2
        rw [h2]
        simp [List.getD, hi, encB]) 9 Try.underlying9
      rw [this]
      have : strOfNums (L.map fun x => ((x.toNat : Nat) : Int)) = strB L := by
        unfold strOfNums strB
        congr 1
        simp only [List.map_map]
        conv => rhs; rw [← List.map_id L]
        congr 1
        refine List.map_congr_left (fun x _ => ?_)
        simp
      rw [this]
theorem row_str {w : World} {base : Nat} {v : Value} {L : List UInt8} (h : RowB w base v L) : (convert 26 9 v).run Try.prog w = .ok (.string (strB L)) w := src_str (RowV.src h)
theorem strB_toList (A : List UInt8) : (strB A).toList = A := ByteArray.toList_mk A
theorem strB_beq (A B : List UInt8) : ((strB A).toList == (strB B).toList) = decide (A = B) := by
  rw [strB_toList, strB_toList]
  by_cases h : A = B
  · subst h; simp
  · simp [h]

set_option maxHeartbeats 400000 in
theorem len_any {w : World} {b : Nat} {v : Value} {Ps : Parts} (R : RopeAt w b v Ps) : Calls Try.prog 23 #[v] w fun e w' => e = .returned (.int .i64 (Ps.flatten.length : Nat)) ∧ Below w.heap.size w w' := by
  obtain ⟨vd, ve, rfl, hd, he⟩ := R.ex
  obtain ⟨da, dc, rfl, hd1, hd2⟩ := hd.form
  obtain ⟨fl, hfl⟩ : ∃ fl, fl = Ps.flatten.length := ⟨_, rfl⟩
  rw [← hfl] at hd1 ⊢
  clear hd he R hfl
  go_enter Try.func23, Try.ntmps23
  go_wp2_with fail
  go_ret
  exact ⟨rfl, below_alloc _ _⟩

set_option maxHeartbeats 1600000 in
set_option maxRecDepth 100000 in
theorem clone_any {w : World} {v : Value} {L : List UInt8} (ho : SrcV w v (L.map encB)) (hl : L.length ≤ 100000) :
    Calls Try.prog 29 #[v] w fun e w' => ∃ v', e = .returned v' ∧ RowB w' w.heap.size v' L ∧ Below w.heap.size w w' := by
  have q22 : ∀ (w : World) (a : Option Addr) (n c n' c' : Nat), (binOp .eql 26 (.slice a n c) (.slice none n' c')).run Try.prog w = .ok (.bool a.isNone) w := fun w a n c n' c' => Lib.run_eql_slice_nil w _ _ a n c n' c' Try.underlying26
  have HO := Lib.hid ho
  rcases ho with ⟨rfl, hn⟩ | ⟨ad, c, rfl, hc1, hc2, hcell, hsp⟩
  · have hL : L = [] := by simpa using hn
    subst hL
    clear hn
    go_enter Try.func29, Try.ntmps29
    go_wp2_with fail
    go_ret
    exact ⟨.slice none 0 0, rfl, World.ownsRow_nil _ _ _ _, Below.refl _ _⟩
  · clear hcell hsp
    rw [List.length_map] at hc1 HO ⊢
    obtain ⟨n, hn⟩ : ∃ n, n = L.length := ⟨_, rfl⟩
    rw [← hn] at hc1 HO hl ⊢
    have HNL := Lib.hid hn
    clear hn
    go_enter Try.func29, Try.ntmps29
    go_wp2_with (at_builtin; refine wpList_append_v slcB (by decide) rfl (.tmp 5) (.tmp 6) rfl rfl rfl (row_made w 5 [] (Nat.zero_le _)) (by simp) (HO.out.grown (below_alloc _ _)) (encB_one L) (by have := HNL.out; simp; omega) ?_)
    intro v' w1 hown hf hnear
    go_wp2_with fail
    go_ret
    refine ⟨v', rfl, by simpa [RowB] using hown, ?_⟩
    exact (below_alloc _ _).trans (hf.below (fun x hx => by simp [Value.ownBlock] at hx; omega) (by simp))

set_option maxHeartbeats 800000 in
theorem bytes_any {w : World} {b : Nat} {v : Value} {Ps : Parts} (R : RopeAt w b v Ps) : Calls Try.prog 22 #[v] w fun e w' => ∃ v', e = .returned v' ∧ RowB w' w.heap.size v' Ps.flatten ∧ Below w.heap.size w w' := by
  obtain ⟨vd, ve, rfl, hd, he⟩ := R.ex
  have hs := R.size
  obtain ⟨da, dc, hf, hd1, hd2⟩ := hd.form
  obtain ⟨ea, ec, hf2, he1, he2⟩ := he.form
  obtain ⟨fl, hfl⟩ : ∃ fl, fl = Ps.flatten.length := ⟨_, rfl⟩
  obtain ⟨el, hel⟩ : ∃ el, el = (ends 0 Ps).length := ⟨_, rfl⟩
  rw [← hfl] at hf
  rw [← hel] at hf2
  subst hf hf2
  have hc := Lib.hid (clone_any (w := w.alloc (.cells #[.slice da fl dc, .slice ea el ec] 29)) ((RowV.src hd).grown (below_alloc _ _)) (by omega))
  clear hd he R hfl hel hs hd1 he1
  go_enter Try.func22, Try.ntmps22
  go_wp2_with (go_at_call 29; fail)
  refine hc.out.mono ?_
  rintro e w1 ⟨v', rfl, ho, hb⟩
  have HO := Lib.hid ho
  have HB := Lib.hid hb
  clear ho hb hc
  go_wp2_with fail
  go_ret
  exact ⟨v', rfl, RowV.lower HO.out (by simp), (below_alloc _ _).trans (HB.out.mono (by simp))⟩

set_option maxHeartbeats 800000 in
theorem bequal_any {w : World} {va vb : Value} {A B : List UInt8} (ha : SrcV w va (A.map encB)) (hb : SrcV w vb (B.map encB)) :
    Calls Try.prog 31 #[va, vb] w fun e w' => e = .returned (.bool (decide (A = B))) ∧ w = w' := by
  have h1 := src_str ha
  have h2 := src_str hb
  have hq := strB_beq A B
  generalize strB A = sa at *
  generalize strB B = sb at *
  have HQ := Lib.hid hq
  clear ha hb hq
  go_enter Try.func31, Try.ntmps31
  go_wp2_with fail
  go_ret
  exact ⟨by rw [← HQ.out]; rfl, rfl⟩

set_option maxHeartbeats 800000 in
theorem equal_any {w : World} {b c : Nat} {v u : Value} {Ps Qs : Parts} (R : RopeAt w b v Ps) (S : RopeAt w c u Qs) : Calls Try.prog 18 #[v, u] w fun e w' => e = .returned (.bool (decide (Ps.flatten = Qs.flatten))) ∧ Below w.heap.size w w' := by
  obtain ⟨vd, ve, rfl, hd, he⟩ := R.ex
  obtain ⟨ud, ue, rfl, hd', he'⟩ := S.ex
  obtain ⟨da, dc, hf, hd1, hd2⟩ := hd.form
  obtain ⟨ea, ec, hf2, he1, he2⟩ := he.form
  obtain ⟨da', dc', hf', hd1', hd2'⟩ := hd'.form
  obtain ⟨ea', ec', hf2', he1', he2'⟩ := he'.form
  obtain ⟨fl, hfl⟩ : ∃ fl, fl = Ps.flatten.length := ⟨_, rfl⟩
  obtain ⟨el, hel⟩ : ∃ el, el = (ends 0 Ps).length := ⟨_, rfl⟩
  obtain ⟨fl', hfl'⟩ : ∃ fl', fl' = Qs.flatten.length := ⟨_, rfl⟩
  obtain ⟨el', hel'⟩ : ∃ el', el' = (ends 0 Qs).length := ⟨_, rfl⟩
  rw [← hfl] at hf
  rw [← hel] at hf2
  rw [← hfl'] at hf'
  rw [← hel'] at hf2'
  subst hf hf2 hf' hf2'
  obtain ⟨W, hW⟩ : ∃ W, W = (w.alloc (.cells #[.slice da fl dc, .slice ea el ec] 29)).alloc (.cells #[.slice da' fl' dc', .slice ea' el' ec'] 29) := ⟨_, rfl⟩
  have HBW : Below w.heap.size w W := by rw [hW]; exact (below_alloc _ _).trans ((below_alloc _ _).mono (by simp))
  have hc := Lib.hid (bequal_any ((RowV.src hd).grown HBW) ((RowV.src hd').grown HBW))
  have HB := Lib.hid HBW
  rw [hW] at hc
  generalize decide (Ps.flatten = Qs.flatten) = q at *
  clear hd he R hd' he' S hfl hel hfl' hel' HBW hd1 hd1' he1 he1'
  go_enter Try.func18, Try.ntmps18
  go_wp2_with (go_at_call 31; refine hc.out.mono ?_; rintro e w1 ⟨rfl, rfl⟩)
  go_ret
  exact ⟨rfl, by rw [← hW]; exact HB.out⟩
end Go.Proofs.Ytkdbkamjaaehfaa
