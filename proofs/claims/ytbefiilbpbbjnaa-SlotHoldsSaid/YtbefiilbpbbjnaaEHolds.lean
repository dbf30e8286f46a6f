/- The walk of SlotHolds. -/
import Derived.Test.YtbefiilbpbbjnaaEHold
import Derived.Test.YtbefiilbpbbjnaaEEnd
import Derived.Deep.DeepCutAuto
import Derived.Deep.CutBlock
namespace Go.Proofs.Ytbefiilbpbbjnaa
open Go.RowKit Go.Sort
set_option linter.unusedVariables false
set_option linter.unusedSimpArgs false

set_option maxRecDepth 100000 in
set_option maxHeartbeats 25600000 in
theorem slotHolds_ok (m : Nat) (hm1 : 1 ≤ m) (hm2 : m ≤ 128) (sa : Option Addr) (len cap : Nat) (hlen : len ≤ 60) (w : World) (hr : IsActs7 w sa len cap) :
    Calls Try.prog 7 #[.int .i64 ((m : Nat) : Int), .slice sa len cap] w fun e w' => e = .returned (.bool true) ∧ Below w.heap.size w w' := by
  have q1 : (1 : Int) ≤ (m : Int) := by omega
  have q2 : (m : Int) ≤ 128 := by omega
  have q3 : (len : Int) ≤ 60 := by omega
  have d1 : decide ((m : Int) < 1) = false := by simp; omega
  have d2 : decide ((128 : Int) < (m : Int)) = false := by simp; omega
  have d3 : decide ((60 : Int) < (len : Int)) = false := by simp; omega
  have HN := Lib.hid (slNew_ok w m hm1 hm2)
  go_enter Try.func7, Try.ntmps7
  go_wp2_with (go_at_call 9; fail)
  refine HN.out.mono ?_
  rintro e w1 ⟨t, g, rfl, hT, hb, hlt, hlg⟩
  have HS0 : Hid (HSt w w1 t g m (List.replicate m ⟨false, 0, 0⟩) [] (.slice none 0 0) (.slice none 0 0) (.slice none 0 0) 0) := Lib.hid
    ⟨⟨hT, hb, hlt, hlg⟩, rel_new m, by simp, Row.nil _ _, Row.nil _ _, Row.nil _ _, Nat.le_refl _, by omega⟩
  clear HN hT hb hlt hlg d1 d2 d3
  go_wp2_with fail
  go_loopw [7, 8, 9, 50] (fun s1 s2 s3 i wr => ∃ (k : Nat) (P : Tab) (L : Fds), k ≤ len ∧ i = .int .i64 ((k : Nat) : Int) ∧ Hid (HSt w wr t g m P L s1 s2 s3 k)) (fun _ _ _ i _ => len - (intOf i).toNat)
  case atStart => exact ⟨0, _, _, Nat.zero_le _, rfl, HS0⟩
  case round =>
    obtain ⟨k, P, L, hk, rfl, HS⟩ := hrel
    have hk61 := HS.out.hk
    by_cases hlt : k < len
    · rcases hr with h0 | ⟨ab, off, rfl, _, hblt, hcs⟩
      · omega
      · obtain ⟨x0, x1, x2, x3, c0, c1, c2, c3, _, _, _, _⟩ := hcs k hlt
        have hbw := HS.out.K.below
        have c0 : wr.cell? ⟨ab, off + k * 4, none⟩ = some (.int .i64 x0) := (hbw.cell (p := ⟨ab, off + k * 4, none⟩) hblt).trans c0
        have c1 : wr.cell? ⟨ab, off + k * 4 + 1, none⟩ = some (.int .i64 x1) := (hbw.cell (p := ⟨ab, off + k * 4 + 1, none⟩) hblt).trans c1
        have c2 : wr.cell? ⟨ab, off + k * 4 + 2, none⟩ = some (.int .i64 x2) := (hbw.cell (p := ⟨ab, off + k * 4 + 2, none⟩) hblt).trans c2
        have c3 : wr.cell? ⟨ab, off + k * 4 + 3, none⟩ = some (.int .i64 x3) := (hbw.cell (p := ⟨ab, off + k * 4 + 3, none⟩) hblt).trans c3
        have habl : ab < wr.heap.size := Nat.lt_of_lt_of_le hblt hbw.size
        have hk60 : k < 60 := by omega
        have i3 : (k : Int) < (len : Int) := by omega
        obtain ⟨a1, n1, rfl, _, _⟩ := HS.out.r1.form
        obtain ⟨a2, n2, rfl, _, _⟩ := HS.out.r2.form
        obtain ⟨a3, n3, rfl, _, _⟩ := HS.out.r3.form
        obtain ⟨N, hN⟩ : ∃ N, N = L.length := ⟨_, rfl⟩
        rw [← hN] at HS ⊢
        have HN := Lib.hid hN
        have hN60 : N ≤ 60 := by have := HS.out.ln; omega
        have iN : (N : Int) ≤ 60 := by omega
        obtain ⟨W0, hW0⟩ : ∃ W0, wr.alloc (.cells #[.int .i64 x0, .int .i64 x1, .int .i64 x2, .int .i64 x3] 36) = W0 := ⟨_, rfl⟩
        have HG0 : Hid (Grn wr W0) := Lib.hid (by rw [← hW0]; exact (Grn.refl wr).alloc _)
        have HB0 : Hid (W0.heap[wr.heap.size]? = some (.cells #[.int .i64 x0, .int .i64 x1, .int .i64 x2, .int .i64 x3] 36 (0, 0))) := Lib.hid (by rw [← hW0]; exact block_new _ _ _ rfl)
        have HS1 := Lib.hid (HS.out.grown HG0.out.below)
        have HW0 := Lib.hid hW0
        have hbl0 := lt_of_block HB0.out
        have HBL : Hid (w.heap.size ≤ wr.heap.size) := Lib.hid hbw.size
        clear HS hcs hbw hN hW0
        go_upto_block 2 with (fail)
        rw [HW0.out]
        clear c0 c1 c2 c3 habl HG0 HW0
        generalize wr.heap.size = B at *
        have b0 : W0.cell? ⟨B, 0, none⟩ = some (.int .i64 x0) := cells_cell HB0.out rfl
        have b1 : W0.cell? ⟨B, 1, none⟩ = some (.int .i64 x1) := cells_cell HB0.out rfl
        have b2 : W0.cell? ⟨B, 2, none⟩ = some (.int .i64 x2) := cells_cell HB0.out rfl
        have b3 : W0.cell? ⟨B, 3, none⟩ = some (.int .i64 x3) := cells_cell HB0.out rfl
        go_cut [7, 8, 9] (fun s1 s2 s3 wx => ∃ (P' : Tab) (L' : Fds), Hid (HSt w wx t g m P' L' s1 s2 s3 (k + 1)))
        case first =>
          by_cases q0 : x0 = 0
          · as_aux_lemma =>
            subst q0
            rcases Nat.lt_or_ge (free P) P.length with hfr | hfr
            · obtain ⟨p, hp, hpo⟩ := free_lt hfr
              obtain ⟨n, hn⟩ : ∃ n, n = free P := ⟨_, rfl⟩
              rw [← hn] at hp
              have hop := slOpen_yes HS1.out.K.T hn.symm hp x1
              have HOP := Lib.hid hop
              have hnm : n < m := by have := HS1.out.pl; omega
              obtain ⟨y, hy⟩ : ∃ y : Fd, y = ⟨n, p.g, x1, false⟩ := ⟨_, rfl⟩
              have HREL : Hid (Rel (P.set n ⟨true, p.g, x1⟩) (L ++ [y])) := Lib.hid (by rw [hy]; exact HS1.out.rel.open hp hpo x1)
              have HFRE : Hid (∀ f ∈ L, ¬(((n : Nat) : Int) = ((f.n : Nat) : Int) ∧ ((p.g : Nat) : Int) = ((f.g : Nat) : Int))) := Lib.hid (fun f hf => HS1.out.rel.fresh hp hpo hf)
              have HY := Lib.hid hy
              have j1 : (0 : Int) ≤ (n : Int) := by omega
              have j2 : (n : Int) < (m : Int) := by omega
              have j3 : decide ((n : Int) < 0) = false := by simp
              clear hfr hp hpo hn hop hy
              generalize p.g = G at *
              go_wp2_with (go_at_call 16; fail)
              refine HOP.out.mono ?_
              rintro e w2 ⟨rfl, hT2, hf2⟩
              obtain ⟨W2, hW2⟩ : ∃ W2, w2.alloc (.cells #[.int .i64 ((n : Nat) : Int), .int .i64 ((G : Nat) : Int)] 34) = W2 := ⟨_, rfl⟩
              have hg2 : Grn w2 W2 := by rw [← hW2]; exact (Grn.refl _).alloc _
              have HX2 : Hid (W2.heap[w2.heap.size]? = some (.cells #[.int .i64 ((n : Nat) : Int), .int .i64 ((G : Nat) : Int)] 34 (0, 0))) := Lib.hid (by rw [← hW2]; exact block_new _ _ _ rfl)
              have HK2 := Lib.hid ((HS1.out.K.step hT2 hf2).grown hg2.below)
              have HR1 := Lib.hid ((HS1.out.K.row HS1.out.r1 (by decide) hf2).below hg2.below)
              have HR2 := Lib.hid ((HS1.out.K.row HS1.out.r2 (by decide) hf2).below hg2.below)
              have HR3 := Lib.hid ((HS1.out.K.row HS1.out.r3 (by decide) hf2).below hg2.below)
              have HB2 := Lib.hid ((hg2.below.block B (by have := hf2.size; omega)).trans (hf2.same HB0.out (HS1.out.K.T.out HB0.out (by decide))))
              have HLN2 : Hid (w.heap.size ≤ w2.heap.size ∧ ∀ g, (Value.slice a1 N n1).ownBlock = some g → g < w2.heap.size) := Lib.hid ⟨by have := HBL.out; have := hf2.size; omega, fun g hg => by have := (HS1.out.r1.lt g hg).2; have := hf2.size; omega⟩
              have HLN := Lib.hid (And.intro HS1.out.ln HS1.out.pl)
              have HW2 := Lib.hid hW2
              have x0' : W2.cell? ⟨w2.heap.size, 0, none⟩ = some (.int .i64 ((n : Nat) : Int)) := cells_cell HX2.out rfl
              have x1' : W2.cell? ⟨w2.heap.size, 1, none⟩ = some (.int .i64 ((G : Nat) : Int)) := cells_cell HX2.out rfl
              have hxl := lt_of_block HX2.out
              clear hT2 hf2 hg2 hW2 HOP HS1 HB0 b0 b1 b2 b3
              go_wp2_with fail
              rw [HW2.out]
              generalize w2.heap.size = X at *
              go_loopw [78] (fun i wu => ∃ j : Nat, j ≤ N ∧ i = .int .i64 ((j : Nat) : Int) ∧ Hid (Grn W2 wu)) (fun i _ => N - (intOf i).toNat)
              case atStart => exact ⟨0, Nat.zero_le _, rfl, Lib.hid (Grn.refl _)⟩
              case round =>
                obtain ⟨j, hj, rfl, hg⟩ := hrel
                have hxu := (hg.out.below.block X (lt_of_block HX2.out)).trans HX2.out
                have y0 : wr.cell? ⟨X, 0, none⟩ = some (.int .i64 ((n : Nat) : Int)) := cells_cell hxu rfl
                have y1 : wr.cell? ⟨X, 1, none⟩ = some (.int .i64 ((G : Nat) : Int)) := cells_cell hxu rfl
                have hxlu := lt_of_block hxu
                by_cases hjN : j < N
                · obtain ⟨f, hf⟩ : ∃ f, L[j]? = some f := ⟨_, List.getElem?_eq_getElem (by rw [← HN.out]; exact hjN)⟩
                  obtain ⟨gb, cb, hv, _, hgl, _, hc⟩ := (HR1.out.below hg.out.below).at TN_ok hf
                  rw [← HN.out] at hv
                  simp only [Value.slice.injEq] at hv
                  obtain ⟨rfl, _, rfl⟩ := hv
                  have k0 : wr.cell? ⟨gb, j * 2, none⟩ = some (.int .i64 ((f.n : Nat) : Int)) := hc 0 _ rfl
                  have k1 : wr.cell? ⟨gb, j * 2 + 1, none⟩ = some (.int .i64 ((f.g : Nat) : Int)) := hc 1 _ rfl
                  have heq := fun W => eql_fd_ne W _ _ _ _ (HFRE.out f (List.mem_of_getElem? hf))
                  have j4 : (0 : Int) ≤ (j : Int) := by omega
                  have j5 : (j : Int) < (N : Int) := by omega
                  have HG := Lib.hid (hg.out.alloc (.cells #[.int .i64 ((f.n : Nat) : Int), .int .i64 ((f.g : Nat) : Int)] 34))
                  clear hc hxu hg hf x0' x1' hxl
                  generalize f.n = fn at *
                  generalize f.g = fg at *
                  go_wp2_with fail
                  go_roundw
                  case rel => exact ⟨j + 1, by omega, by go_num, HG⟩
                  case measure => simp [intOf]; omega
                · obtain rfl : j = N := by omega
                  have R1 := HR1.out.below hg.out.below
                  have R2 := HR2.out.below hg.out.below
                  have R3 := HR3.out.below hg.out.below
                  have KK := Lib.hid (HK2.out.grown hg.out.below)
                  have hbb := (hg.out.below.block B (lt_of_block HB2.out)).trans HB2.out
                  have hnx : ∀ g, (Value.slice a1 j n1).ownBlock = some g → g ≠ X := fun g hg' => by have := HLN2.out.2 g hg'; omega
                  have hbase : w.heap.size ≤ wr.heap.size := KK.out.below.size
                  have HLL : Hid (L.length ≤ 1000) := Lib.hid (by have := HN.out; omega)
                  clear x0' x1' hxl
                  go_wp2_with fail
                  refine region_abs (fun a0 ha0 => ?_)
                  refine tri_region (bx := X) (bb := B) (L := L) (x := ⟨n, G, x1, false⟩) (by kernel_rfl) (by kernel_rfl) (by kernel_rfl) rfl ⟨⟨_, rfl, rfl, rfl, rfl⟩⟩ ⟨⟨_, rfl, rfl, rfl, rfl⟩⟩ ⟨⟨_, rfl, rfl, rfl, rfl⟩⟩ ⟨⟨_, rfl, rfl, rfl, rfl⟩⟩ ⟨⟨_, rfl, rfl, rfl, rfl⟩⟩ ⟨⟨_, rfl, rfl, rfl, rfl⟩⟩ ⟨⟨_, rfl, rfl, rfl, rfl⟩⟩ ⟨⟨_, rfl, rfl, rfl, rfl⟩⟩ ⟨⟨_, rfl, rfl, rfl, rfl⟩⟩ ⟨⟨_, rfl, rfl, rfl, rfl⟩⟩ ⟨⟨_, rfl, rfl, rfl, rfl⟩⟩ ⟨⟨_, rfl, rfl, rfl, rfl⟩⟩ (fun _ _ _ d _ h => by cases d <;> exact h)
                    (by rw [ha0]; simp) (by rw [ha0]; rfl) (by rw [ha0]; rfl) (by rw [ha0]; rfl) (by rw [ha0]; rfl) (by rw [ha0]; rfl) hxu hbb rfl rfl R1 R2 R3 hbase HLL.out hnx ?_
                  intro u w' hfr h1 h2 h3
                  rw [ha0]
                  clear ha0
                  have HF : Hid (HSt w w' t g m (P.set n ⟨true, G, x1⟩) (L ++ [⟨n, G, x1, false⟩]) (u 89) (u 94) (u 97) (k + 1)) := Lib.hid
                    ⟨KK.out.three R1 R2 R3 hfr, by have h := HREL.out; rw [HY.out] at h; exact h, by rw [List.length_set]; exact HLN.out.2, h1, h2, h3, by rw [List.length_append]; have := HLN.out.1; simp; omega, by omega⟩
                  simp only [puts, List.map_cons, List.map_nil, Act.put, List.setIfInBounds_toArray, List.set_cons_zero, List.set_cons_succ, List.drop_succ_cons, List.drop_zero]
                  go_wp2_with fail
                  go_meet
                  exact ⟨_, _, HF⟩
            · have hop := slOpen_full HS1.out.K.T (Nat.le_antisymm (free_le P) hfr) x1
              have HOP := Lib.hid hop
              clear hop hfr
              go_wp2_with (go_at_call 16; fail)
              refine HOP.out.mono ?_
              rintro e w2 ⟨rfl, hg2⟩
              have HF := Lib.hid ((HS1.out.grown (hg2.alloc (.cells #[.int .i64 0, .int .i64 0] 34)).below).more hk60)
              clear hg2 HOP b0 b1 b2 b3
              go_wp2_with fail
              go_roundw
              case rel => exact ⟨k + 1, _, _, by omega, by go_num, HF⟩
              case measure => simp [intOf]; omega
          · by_cases q5 : x0 = 1
            · as_aux_lemma =>
              subst q5
              obtain ⟨xn, hxn⟩ : ∃ xn, xn = x2 := ⟨_, rfl⟩
              obtain ⟨xg, hxg⟩ : ∃ xg, xg = x3 := ⟨_, rfl⟩
              rw [← hxn] at b2 HB0
              rw [← hxg] at b3 HB0
              obtain ⟨WC, hWC⟩ : ∃ WC, W0.alloc (.cells #[.int .i64 xn, .int .i64 xg] 34) = WC := ⟨_, rfl⟩
              have HXC : Hid (WC.heap[W0.heap.size]? = some (.cells #[.int .i64 xn, .int .i64 xg] 34 (0, 0))) := Lib.hid (by rw [← hWC]; exact block_new _ _ _ rfl)
              have HSC := Lib.hid (HS1.out.grown (w' := WC) (by rw [← hWC]; exact below_alloc _ _))
              have x0' : WC.cell? ⟨W0.heap.size, 0, none⟩ = some (.int .i64 xn) := cells_cell HXC.out rfl
              have x1' : WC.cell? ⟨W0.heap.size, 1, none⟩ = some (.int .i64 xg) := cells_cell HXC.out rfl
              have hxl := lt_of_block HXC.out
              have HWC := Lib.hid hWC
              clear hWC HS1 HB0 hxn hxg
              go_wp2_with (go_at_call 19; fail)
              rw [HWC.out]
              generalize W0.heap.size = X at *
              clear HWC b0 b1 b2 b3
              rcases fd_cases P xn xg with ⟨n, G, v, hxn, hxg, hp⟩ | hno
              · subst hxn hxg
                obtain ⟨A, Bq, hL, hA, hB⟩ := HSC.out.find hp
                have hcl := slClose_yes HSC.out.K.T hp (by have := HSC.out.gen hp; simp only at this; omega)
                have HCL := Lib.hid hcl
                have HREL : Hid (Rel (P.set n ⟨false, G + 1, 0⟩) (A ++ ⟨n, G, v, true⟩ :: Bq)) := Lib.hid (by have h := HSC.out.rel; rw [hL] at h; have h2 := h.change hp hA hB v true; simpa using h2)
                have HL := Lib.hid hL
                have HAB := Lib.hid (And.intro hA hB)
                clear hcl hp hL hA hB
                go_wp2_with (go_at_call 19; fail)
                refine HCL.out.mono ?_
                rintro e w5 ⟨rfl, hT5, hf5⟩
                have HK5 := Lib.hid (HSC.out.K.step hT5 hf5)
                have HR1 := Lib.hid (HSC.out.K.row HSC.out.r1 (by decide) hf5)
                have HR2 := Lib.hid (HSC.out.K.row HSC.out.r2 (by decide) hf5)
                have HR3 := Lib.hid (HSC.out.K.row HSC.out.r3 (by decide) hf5)
                have HX5 := Lib.hid (hf5.same HXC.out (HSC.out.K.T.out HXC.out (by decide)))
                have HLN := Lib.hid (And.intro HSC.out.ln HSC.out.pl)
                clear hT5 hf5 HCL HSC HXC
                go_wp2_with fail
                have HM0 : Hid (Row TC w5 w.heap.size (.slice a3 N n3) (midL A Bq ⟨n, G, v, false⟩ ⟨n, G, v, true⟩ 0)) := Lib.hid (by rw [show midL A Bq ⟨n, G, v, false⟩ ⟨n, G, v, true⟩ 0 = L by rw [HL.out]; unfold midL; exact if_neg (Nat.not_lt_zero _)]; exact HR3.out)
                go_loopw [122] (fun i wu => ∃ j : Nat, j ≤ N ∧ i = .int .i64 ((j : Nat) : Int) ∧ Hid (KT w wu t g m (P.set n ⟨false, G + 1, 0⟩) ∧ Row TN wu w.heap.size (.slice a1 N n1) L ∧ Row TV wu w.heap.size (.slice a2 N n2) L ∧ Row TC wu w.heap.size (.slice a3 N n3) (midL A Bq ⟨n, G, v, false⟩ ⟨n, G, v, true⟩ j) ∧ wu.heap[X]? = some (.cells #[.int .i64 ((n : Nat) : Int), .int .i64 ((G : Nat) : Int)] 34 (0, 0)))) (fun i _ => N - (intOf i).toNat)
                case atStart => exact ⟨0, Nat.zero_le _, rfl, Lib.hid ⟨HK5.out, HR1.out, HR2.out, HM0.out, HX5.out⟩⟩
                case round =>
                  obtain ⟨j, hj, rfl, HJ⟩ := hrel
                  by_cases hjN : j < N
                  · obtain ⟨fd, hf⟩ : ∃ f, L[j]? = some f := ⟨_, List.getElem?_eq_getElem (by rw [← HN.out]; exact hjN)⟩
                    obtain ⟨ga, ca, hva, _, hgla, _, hca⟩ := HJ.out.2.1.at TN_ok hf
                    rw [← HN.out] at hva
                    simp only [Value.slice.injEq] at hva
                    obtain ⟨ea1, _, ea2⟩ := hva
                    have k0 : wr.cell? ⟨ga, j * 2, none⟩ = some (.int .i64 ((fd.n : Nat) : Int)) := hca 0 _ rfl
                    have k1 : wr.cell? ⟨ga, j * 2 + 1, none⟩ = some (.int .i64 ((fd.g : Nat) : Int)) := hca 1 _ rfl
                    have z0 : wr.cell? ⟨X, 0, none⟩ = some (.int .i64 ((n : Nat) : Int)) := cells_cell HJ.out.2.2.2.2 rfl
                    have z1 : wr.cell? ⟨X, 1, none⟩ = some (.int .i64 ((G : Nat) : Int)) := cells_cell HJ.out.2.2.2.2 rfl
                    have hzl := lt_of_block HJ.out.2.2.2.2
                    have j4 : (0 : Int) ≤ (j : Int) := by omega
                    have j5 : (j : Int) < (N : Int) := by omega
                    have hjq : (midL A Bq ⟨n, G, v, false⟩ ⟨n, G, v, true⟩ j)[j]? = some fd := by
                      by_cases hjA : j = A.length
                      · rw [hjA, (midL_at A Bq _ _).1, ← HL.out, ← hjA]; exact hf
                      · rw [midL_other hjA, ← HL.out]; exact hf
                    obtain ⟨gc, cc, hvc, _, hglc, hfzc, hcc⟩ := HJ.out.2.2.2.1.at TC_ok hjq
                    rw [midL_len, ← HL.out] at hvc
                    rw [← HN.out] at hvc
                    simp only [Value.slice.injEq] at hvc
                    obtain ⟨ec1, _, ec2⟩ := hvc
                    have l0 : wr.cell? ⟨gc, j, none⟩ = some (.bool fd.c) := by have := hcc 0 _ rfl; simpa [TC] using this
                    have hfz := hfzc j
                    subst ea1 ea2 ec1 ec2
                    by_cases hjA : j = A.length
                    · have hfe : fd = ⟨n, G, v, false⟩ := by rw [HL.out, hjA, mid_at] at hf; exact (Option.some.inj hf).symm
                      rw [hfe] at k0 k1 l0
                      simp only at k0 k1 l0
                      have heq := fun W => eql_fd_same W ((n : Nat) : Int) ((G : Nat) : Int)
                      have HNX : Hid (∀ q, KT w ((wr.drewN q).setCell ⟨gc, j, none⟩ (.bool true)) t g m (P.set n ⟨false, G + 1, 0⟩) ∧ Row TN ((wr.drewN q).setCell ⟨gc, j, none⟩ (.bool true)) w.heap.size (.slice (some ⟨ga, 0, none⟩) N n1) L ∧ Row TV ((wr.drewN q).setCell ⟨gc, j, none⟩ (.bool true)) w.heap.size (.slice a2 N n2) L ∧ Row TC ((wr.drewN q).setCell ⟨gc, j, none⟩ (.bool true)) w.heap.size (.slice (some ⟨gc, 0, none⟩) N n3) (midL A Bq ⟨n, G, v, false⟩ ⟨n, G, v, true⟩ (j + 1)) ∧ ((wr.drewN q).setCell ⟨gc, j, none⟩ (.bool true)).heap[X]? = some (.cells #[.int .i64 ((n : Nat) : Int), .int .i64 ((G : Nat) : Int)] 34 (0, 0))) := Lib.hid (fun q => by
                        obtain ⟨g1, g2, g3, g4, g5⟩ := HJ.out
                        have hd := ((Grn.refl wr).drew q).below
                        have m4 := g4.below hd
                        have hfr := fr_setCell (wr.drewN q) ⟨gc, j, none⟩ (.bool true)
                        have hfr' : Fr (Value.slice (some ⟨gc, 0, none⟩) N n3).ownBlock.toList (wr.drewN q) ((wr.drewN q).setCell ⟨gc, j, none⟩ (.bool true)) := by simpa [Value.ownBlock] using hfr
                        refine ⟨(g1.grown hd).other m4 (Nat.le_refl _) (by decide) (by decide) hfr', (g2.below hd).other m4 (by decide) hfr', (g3.below hd).other m4 (by decide) hfr', ?_, hfr.same (hd.block _ (lt_of_block g5) |>.trans g5) ?_⟩
                        · rw [hjA] at m4 hjq ⊢
                          rw [(midL_at A Bq _ _).1] at m4 hjq
                          rw [(midL_at A Bq _ _).2]
                          have hlen : N = (A ++ (⟨n, G, v, false⟩ : Fd) :: Bq).length := by rw [HN.out, HL.out]
                          rw [hlen] at m4
                          have := m4.set TC_ok (j := A.length) (i := 0) (y := ⟨n, G, v, true⟩) (u := (.bool true)) (mid_at A Bq _) (by decide) rfl
                          rw [mid_set] at this
                          rw [hlen]
                          simpa [TC] using this
                        · intro hm
                          have := m4.ne ((hd.block _ (lt_of_block g5)).trans g5) (by decide) gc rfl
                          simp at hm; exact this hm.symm)
                      clear hca hcc hf HJ hjq hfe hjA
                      go_wp2_with fail
                      go_quiet (fail)
                      have HFIN := Lib.hid (HNX.out nq)
                      clear HNX
                      go_wp2_with fail
                      go_roundw
                      case rel => exact ⟨j + 1, by omega, by go_num, HFIN⟩
                      case measure => simp [intOf]; omega
                    · have HNX : Hid (∀ q, KT w (wr.drewN q) t g m (P.set n ⟨false, G + 1, 0⟩) ∧ Row TN (wr.drewN q) w.heap.size (.slice (some ⟨ga, 0, none⟩) N n1) L ∧ Row TV (wr.drewN q) w.heap.size (.slice a2 N n2) L ∧ Row TC (wr.drewN q) w.heap.size (.slice (some ⟨gc, 0, none⟩) N n3) (midL A Bq ⟨n, G, v, false⟩ ⟨n, G, v, true⟩ (j + 1)) ∧ (wr.drewN q).heap[X]? = some (.cells #[.int .i64 ((n : Nat) : Int), .int .i64 ((G : Nat) : Int)] 34 (0, 0))) := Lib.hid (fun q => by
                        obtain ⟨g1, g2, g3, g4, g5⟩ := HJ.out
                        have hd := ((Grn.refl wr).drew q).below
                        rw [midL_next hjA]
                        exact ⟨g1.grown hd, g2.below hd, g3.below hd, g4.below hd, (hd.block _ (lt_of_block g5)).trans g5⟩)
                      have honly : fd.n = n → fd.c = true := fun e => Rel.only (P := P) HAB.out.1 HAB.out.2 (by rw [← HL.out]; exact hf) hjA e
                      clear hca hcc hf HJ hjq hjA
                      by_cases hnm : ((fd.n : Nat) : Int) = ((n : Nat) : Int) ∧ ((fd.g : Nat) : Int) = ((G : Nat) : Int)
                      · rw [hnm.1] at k0
                        rw [hnm.2] at k1
                        rw [honly (by have := hnm.1; omega)] at l0
                        have heq := fun W => eql_fd_same W ((n : Nat) : Int) ((G : Nat) : Int)
                        clear hnm honly
                        go_wp2_with fail
                        go_quiet (fail)
                        have HFIN := Lib.hid (HNX.out nq)
                        clear HNX
                        go_wp2_with fail
                        go_roundw
                        case rel => exact ⟨j + 1, by omega, by go_num, HFIN⟩
                        case measure => simp [intOf]; omega
                      · have heq := fun W => eql_fd_ne W _ _ _ _ hnm
                        clear hnm honly
                        generalize fd.n = fn at *
                        generalize fd.g = fg at *
                        go_wp2_with fail
                        go_quiet (fail)
                        have HFIN := Lib.hid (HNX.out nq)
                        clear HNX
                        go_wp2_with fail
                        go_roundw
                        case rel => exact ⟨j + 1, by omega, by go_num, HFIN⟩
                        case measure => simp [intOf]; omega
                  · obtain rfl : j = N := by omega
                    have HFIN : Hid (HSt w wr t g m (P.set n ⟨false, G + 1, 0⟩) (A ++ ⟨n, G, v, true⟩ :: Bq) (.slice a1 j n1) (.slice a2 j n2) (.slice a3 j n3) (k + 1)) := Lib.hid (by
                      obtain ⟨g1, g2, g3, g4, g5⟩ := HJ.out
                      have hlA : A.length < j := by rw [HN.out, HL.out]; simp
                      have e4 : midL A Bq ⟨n, G, v, false⟩ ⟨n, G, v, true⟩ j = A ++ ⟨n, G, v, true⟩ :: Bq := by unfold midL; exact if_pos hlA
                      rw [e4] at g4
                      rw [HL.out] at g2 g3
                      refine ⟨g1, HREL.out, by rw [List.length_set]; exact HLN.out.2, g2.mid rfl, g3.mid rfl, g4, ?_, by omega⟩
                      have h1 := HLN.out.1
                      rw [HL.out] at h1
                      simp at h1 ⊢
                      omega)
                    clear HJ
                    go_wp2_with fail
                    go_meet
                    exact ⟨_, _, HFIN⟩
              · have HNO : Hid (∀ f ∈ L, ((f.n : Nat) : Int) = xn ∧ ((f.g : Nat) : Int) = xg → f.c = true) := Lib.hid (fun f hf hh => by
                    have hh1 := hh.1
                    have hh2 := hh.2
                    rcases hc : f.c with _ | _
                    · exact absurd hh2.symm (hno f.n _ hh1.symm ((HSC.out.rel.get hf).2 hc) rfl)
                    · rfl)
                have hcl := slClose_bad (finds_no HSC.out.K.T hno) (by decide)
                have HCL := Lib.hid hcl
                clear hcl hno
                go_wp2_with (go_at_call 19; fail)
                refine HCL.out.mono ?_
                rintro e w5 ⟨rfl, hg5⟩
                have HS5 := Lib.hid ((HSC.out.grown hg5.below).more hk60)
                have HX5 := Lib.hid ((hg5.below.block _ (lt_of_block HXC.out)).trans HXC.out)
                clear hg5 HCL HSC HXC
                go_wp2_with fail
                go_loopw [122] (fun i wu => ∃ j : Nat, j ≤ N ∧ i = .int .i64 ((j : Nat) : Int) ∧ Hid (HSt w wu t g m P L (.slice a1 N n1) (.slice a2 N n2) (.slice a3 N n3) (k + 1) ∧ wu.heap[X]? = some (.cells #[.int .i64 xn, .int .i64 xg] 34 (0, 0)))) (fun i _ => N - (intOf i).toNat)
                case atStart => exact ⟨0, Nat.zero_le _, rfl, Lib.hid ⟨HS5.out, HX5.out⟩⟩
                case round =>
                  obtain ⟨j, hj, rfl, HJ⟩ := hrel
                  by_cases hjN : j < N
                  · obtain ⟨fd, hf⟩ : ∃ f, L[j]? = some f := ⟨_, List.getElem?_eq_getElem (by rw [← HN.out]; exact hjN)⟩
                    obtain ⟨ga, ca, hva, _, hgla, _, hca⟩ := HJ.out.1.r1.at TN_ok hf
                    rw [← HN.out] at hva
                    simp only [Value.slice.injEq] at hva
                    obtain ⟨ea1, _, ea2⟩ := hva
                    have k0 : wr.cell? ⟨ga, j * 2, none⟩ = some (.int .i64 ((fd.n : Nat) : Int)) := hca 0 _ rfl
                    have k1 : wr.cell? ⟨ga, j * 2 + 1, none⟩ = some (.int .i64 ((fd.g : Nat) : Int)) := hca 1 _ rfl
                    have z0 : wr.cell? ⟨X, 0, none⟩ = some (.int .i64 xn) := cells_cell HJ.out.2 rfl
                    have z1 : wr.cell? ⟨X, 1, none⟩ = some (.int .i64 xg) := cells_cell HJ.out.2 rfl
                    have hzl := lt_of_block HJ.out.2
                    have j4 : (0 : Int) ≤ (j : Int) := by omega
                    have j5 : (j : Int) < (N : Int) := by omega
                    obtain ⟨gc, cc, hvc, _, hglc, hfzc, hcc⟩ := HJ.out.1.r3.at TC_ok hf
                    rw [← HN.out] at hvc
                    simp only [Value.slice.injEq] at hvc
                    obtain ⟨ec1, _, ec2⟩ := hvc
                    have l0 : wr.cell? ⟨gc, j, none⟩ = some (.bool fd.c) := by have := hcc 0 _ rfl; simpa [TC] using this
                    subst ea1 ea2 ec1 ec2
                    have HNX : Hid (∀ q, HSt w (wr.drewN q) t g m P L (.slice (some ⟨ga, 0, none⟩) N n1) (.slice a2 N n2) (.slice (some ⟨gc, 0, none⟩) N n3) (k + 1) ∧ (wr.drewN q).heap[X]? = some (.cells #[.int .i64 xn, .int .i64 xg] 34 (0, 0))) := Lib.hid (fun q => by
                        have hd := ((Grn.refl wr).drew q).below
                        exact ⟨HJ.out.1.grown hd, (hd.block _ (lt_of_block HJ.out.2)).trans HJ.out.2⟩)
                    have honly := HNO.out fd (List.mem_of_getElem? hf)
                    clear hca hcc hf HJ
                    by_cases hnm : ((fd.n : Nat) : Int) = xn ∧ ((fd.g : Nat) : Int) = xg
                    · rw [hnm.1] at k0
                      rw [hnm.2] at k1
                      rw [honly hnm] at l0
                      have heq := fun W => eql_fd_same W xn xg
                      clear hnm honly
                      go_wp2_with fail
                      go_quiet (fail)
                      have HFIN := Lib.hid (HNX.out nq)
                      clear HNX
                      go_wp2_with fail
                      go_roundw
                      case rel => exact ⟨j + 1, by omega, by go_num, HFIN⟩
                      case measure => simp [intOf]; omega
                    · have heq := fun W => eql_fd_ne W _ _ _ _ hnm
                      clear hnm honly
                      generalize fd.n = fn at *
                      generalize fd.g = fg at *
                      go_wp2_with fail
                      go_quiet (fail)
                      have HFIN := Lib.hid (HNX.out nq)
                      clear HNX
                      go_wp2_with fail
                      go_roundw
                      case rel => exact ⟨j + 1, by omega, by go_num, HFIN⟩
                      case measure => simp [intOf]; omega
                  · obtain rfl : j = N := by omega
                    have HFIN := Lib.hid HJ.out.1
                    clear HJ
                    go_wp2_with fail
                    go_meet
                    exact ⟨_, _, HFIN⟩
            · by_cases q55 : x0 = 5
              · as_aux_lemma =>
                subst q55
                obtain ⟨WC, hWC⟩ : ∃ WC, W0.alloc (.cells #[.int .i64 x2, .int .i64 x3] 34) = WC := ⟨_, rfl⟩
                have hXC : WC.heap[W0.heap.size]? = some (.cells #[.int .i64 x2, .int .i64 x3] 34 (0, 0)) := by rw [← hWC]; exact block_new _ _ _ rfl
                have hgC : Grn W0 WC := by rw [← hWC]; exact (Grn.refl _).alloc _
                have HSD := Lib.hid (HS1.out.grown hgC.below)
                have HNEWX : Hid (w.heap.size ≤ W0.heap.size) := Lib.hid HS1.out.K.below.size
                have HNEWR : Hid (∀ g', (Value.slice a1 N n1).ownBlock = some g' → g' < W0.heap.size) := Lib.hid (fun g' hg' => (HS1.out.r1.lt g' hg').2)
                have hBC := (hgC.below.block B (lt_of_block HB0.out)).trans HB0.out
                have e0 : WC.cell? ⟨B, 0, none⟩ = some (.int .i64 5) := cells_cell hBC rfl
                have e2 : WC.cell? ⟨B, 2, none⟩ = some (.int .i64 x2) := cells_cell hBC rfl
                have e3 : WC.cell? ⟨B, 3, none⟩ = some (.int .i64 x3) := cells_cell hBC rfl
                have hbc := lt_of_block hBC
                have HXD := Lib.hid hXC
                have hat : ∃ xn xg cd : Int, Calls Try.prog 17 #[.pointer (some ⟨t, 0, none⟩), .int .i64 x2] WC fun e w' => e = .returned (.tuple #[.agg #[.int .i64 xn, .int .i64 xg], .int .i64 cd]) ∧ Grn WC w' := by
                  rcases n_cases P x2 with ⟨n, G, v, hx, hp⟩ | hno
                  · rw [hx]; exact ⟨_, _, _, slAt_yes HSD.out.K.T hp⟩
                  · exact ⟨_, _, _, slAt_no HSD.out.K.T hno⟩
                obtain ⟨xn, xg, cd, hat⟩ := hat
                have HAT := Lib.hid hat
                have HWC := Lib.hid hWC
                clear hWC HS1 HB0 hXC hgC hBC hat
                go_wp2_with (go_at_call 17; fail)
                rw [HWC.out]
                generalize W0.heap.size = X at *
                clear HWC b0 b1 b2 b3
                go_wp2_with (go_at_call 17; fail)
                refine HAT.out.mono ?_
                rintro e w4 ⟨rfl, hg4⟩
                have hX4 := (hg4.below.block X (lt_of_block HXD.out)).trans HXD.out
                have y0 := cells_cell (o := 0) hX4 rfl
                have y1 := cells_cell (o := 1) hX4 rfl
                have z0 := cells_free hX4 0
                have z1 := cells_free hX4 1
                have hxl4 := lt_of_block hX4
                have hput := cells_set (cells_set hX4 0 (.int .i64 xn)) 1 (.int .i64 xg)
                have hfr := (fr_setCell w4 ⟨X, 0, none⟩ (.int .i64 xn)).trans' (fr_setCell _ ⟨X, 1, none⟩ (.int .i64 xg))
                obtain ⟨WD, hWD⟩ : ∃ WD, WD = (w4.setCell ⟨X, 0, none⟩ (.int .i64 xn)).setCell ⟨X, 1, none⟩ (.int .i64 xg) := ⟨_, rfl⟩
                rw [← hWD] at hput hfr
                have HXC : Hid (WD.heap[X]? = some (.cells #[.int .i64 xn, .int .i64 xg] 34 (0, 0))) := Lib.hid (by simpa using hput)
                have HSC : Hid (HSt w WD t g m P L (.slice a1 N n1) (.slice a2 N n2) (.slice a3 N n3) k) := Lib.hid (by
                  have h4 := HSD.out.grown hg4.below
                  have hXw : w.heap.size ≤ X := HNEWX.out
                  obtain ⟨cur, hcc, _⟩ := h4.K.T.r.ex
                  refine ⟨⟨h4.K.T.fr hfr ?_ ?_, h4.K.below.trans (hfr.below (fun y hy => by simp at hy; omega) h4.K.below.size), h4.K.lt, h4.K.lg⟩, h4.rel, h4.pl, ?_, ?_, ?_, h4.ln, h4.hk⟩
                  · have := ne_types h4.K.T.t hX4 (by decide); simpa using this
                  · have := ne_types hcc hX4 (by decide); simpa using this
                  · exact h4.r1.fr hfr (fun g' hg' hm => by have := HNEWR.out g' hg'; simp at hm; omega)
                  · exact h4.r2.fr hfr (fun g' hg' hm => h4.r2.ne hX4 (by decide) g' hg' (by simpa using hm))
                  · exact h4.r3.fr hfr (fun g' hg' hm => h4.r3.ne hX4 (by decide) g' hg' (by simpa using hm)))
                have HWD := Lib.hid hWD
                have x0' : WD.cell? ⟨X, 0, none⟩ = some (.int .i64 xn) := cells_cell HXC.out rfl
                have x1' : WD.cell? ⟨X, 1, none⟩ = some (.int .i64 xg) := cells_cell HXC.out rfl
                have hxl := lt_of_block HXC.out
                clear hput hfr hWD hX4 hg4 HSD HXD HAT e0 e2 e3
                go_wp2_with (go_at_call 19; fail)
                rw [← HWD.out]
                clear HWD y0 y1 z0 z1 hxl4
                go_wp2_with (go_at_call 19; fail)
                rcases fd_cases P xn xg with ⟨n, G, v, hxn, hxg, hp⟩ | hno
                · subst hxn hxg
                  obtain ⟨A, Bq, hL, hA, hB⟩ := HSC.out.find hp
                  have hcl := slClose_yes HSC.out.K.T hp (by have := HSC.out.gen hp; simp only at this; omega)
                  have HCL := Lib.hid hcl
                  have HREL : Hid (Rel (P.set n ⟨false, G + 1, 0⟩) (A ++ ⟨n, G, v, true⟩ :: Bq)) := Lib.hid (by have h := HSC.out.rel; rw [hL] at h; have h2 := h.change hp hA hB v true; simpa using h2)
                  have HL := Lib.hid hL
                  have HAB := Lib.hid (And.intro hA hB)
                  clear hcl hp hL hA hB
                  refine HCL.out.mono ?_
                  rintro e w5 ⟨rfl, hT5, hf5⟩
                  have HK5 := Lib.hid (HSC.out.K.step hT5 hf5)
                  have HR1 := Lib.hid (HSC.out.K.row HSC.out.r1 (by decide) hf5)
                  have HR2 := Lib.hid (HSC.out.K.row HSC.out.r2 (by decide) hf5)
                  have HR3 := Lib.hid (HSC.out.K.row HSC.out.r3 (by decide) hf5)
                  have HX5 := Lib.hid (hf5.same HXC.out (HSC.out.K.T.out HXC.out (by decide)))
                  have HLN := Lib.hid (And.intro HSC.out.ln HSC.out.pl)
                  clear hT5 hf5 HCL HSC HXC
                  go_wp2_with fail
                  have HM0 : Hid (Row TC w5 w.heap.size (.slice a3 N n3) (midL A Bq ⟨n, G, v, false⟩ ⟨n, G, v, true⟩ 0)) := Lib.hid (by rw [show midL A Bq ⟨n, G, v, false⟩ ⟨n, G, v, true⟩ 0 = L by rw [HL.out]; unfold midL; exact if_neg (Nat.not_lt_zero _)]; exact HR3.out)
                  go_loopw [122] (fun i wu => ∃ j : Nat, j ≤ N ∧ i = .int .i64 ((j : Nat) : Int) ∧ Hid (KT w wu t g m (P.set n ⟨false, G + 1, 0⟩) ∧ Row TN wu w.heap.size (.slice a1 N n1) L ∧ Row TV wu w.heap.size (.slice a2 N n2) L ∧ Row TC wu w.heap.size (.slice a3 N n3) (midL A Bq ⟨n, G, v, false⟩ ⟨n, G, v, true⟩ j) ∧ wu.heap[X]? = some (.cells #[.int .i64 ((n : Nat) : Int), .int .i64 ((G : Nat) : Int)] 34 (0, 0)))) (fun i _ => N - (intOf i).toNat)
                  case atStart => exact ⟨0, Nat.zero_le _, rfl, Lib.hid ⟨HK5.out, HR1.out, HR2.out, HM0.out, HX5.out⟩⟩
                  case round =>
                    obtain ⟨j, hj, rfl, HJ⟩ := hrel
                    by_cases hjN : j < N
                    · obtain ⟨fd, hf⟩ : ∃ f, L[j]? = some f := ⟨_, List.getElem?_eq_getElem (by rw [← HN.out]; exact hjN)⟩
                      obtain ⟨ga, ca, hva, _, hgla, _, hca⟩ := HJ.out.2.1.at TN_ok hf
                      rw [← HN.out] at hva
                      simp only [Value.slice.injEq] at hva
                      obtain ⟨ea1, _, ea2⟩ := hva
                      have k0 : wr.cell? ⟨ga, j * 2, none⟩ = some (.int .i64 ((fd.n : Nat) : Int)) := hca 0 _ rfl
                      have k1 : wr.cell? ⟨ga, j * 2 + 1, none⟩ = some (.int .i64 ((fd.g : Nat) : Int)) := hca 1 _ rfl
                      have z0 : wr.cell? ⟨X, 0, none⟩ = some (.int .i64 ((n : Nat) : Int)) := cells_cell HJ.out.2.2.2.2 rfl
                      have z1 : wr.cell? ⟨X, 1, none⟩ = some (.int .i64 ((G : Nat) : Int)) := cells_cell HJ.out.2.2.2.2 rfl
                      have hzl := lt_of_block HJ.out.2.2.2.2
                      have j4 : (0 : Int) ≤ (j : Int) := by omega
                      have j5 : (j : Int) < (N : Int) := by omega
                      have hjq : (midL A Bq ⟨n, G, v, false⟩ ⟨n, G, v, true⟩ j)[j]? = some fd := by
                        by_cases hjA : j = A.length
                        · rw [hjA, (midL_at A Bq _ _).1, ← HL.out, ← hjA]; exact hf
                        · rw [midL_other hjA, ← HL.out]; exact hf
                      obtain ⟨gc, cc, hvc, _, hglc, hfzc, hcc⟩ := HJ.out.2.2.2.1.at TC_ok hjq
                      rw [midL_len, ← HL.out] at hvc
                      rw [← HN.out] at hvc
                      simp only [Value.slice.injEq] at hvc
                      obtain ⟨ec1, _, ec2⟩ := hvc
                      have l0 : wr.cell? ⟨gc, j, none⟩ = some (.bool fd.c) := by have := hcc 0 _ rfl; simpa [TC] using this
                      have hfz := hfzc j
                      subst ea1 ea2 ec1 ec2
                      by_cases hjA : j = A.length
                      · have hfe : fd = ⟨n, G, v, false⟩ := by rw [HL.out, hjA, mid_at] at hf; exact (Option.some.inj hf).symm
                        rw [hfe] at k0 k1 l0
                        simp only at k0 k1 l0
                        have heq := fun W => eql_fd_same W ((n : Nat) : Int) ((G : Nat) : Int)
                        have HNX : Hid (∀ q, KT w ((wr.drewN q).setCell ⟨gc, j, none⟩ (.bool true)) t g m (P.set n ⟨false, G + 1, 0⟩) ∧ Row TN ((wr.drewN q).setCell ⟨gc, j, none⟩ (.bool true)) w.heap.size (.slice (some ⟨ga, 0, none⟩) N n1) L ∧ Row TV ((wr.drewN q).setCell ⟨gc, j, none⟩ (.bool true)) w.heap.size (.slice a2 N n2) L ∧ Row TC ((wr.drewN q).setCell ⟨gc, j, none⟩ (.bool true)) w.heap.size (.slice (some ⟨gc, 0, none⟩) N n3) (midL A Bq ⟨n, G, v, false⟩ ⟨n, G, v, true⟩ (j + 1)) ∧ ((wr.drewN q).setCell ⟨gc, j, none⟩ (.bool true)).heap[X]? = some (.cells #[.int .i64 ((n : Nat) : Int), .int .i64 ((G : Nat) : Int)] 34 (0, 0))) := Lib.hid (fun q => by
                          obtain ⟨g1, g2, g3, g4, g5⟩ := HJ.out
                          have hd := ((Grn.refl wr).drew q).below
                          have m4 := g4.below hd
                          have hfr := fr_setCell (wr.drewN q) ⟨gc, j, none⟩ (.bool true)
                          have hfr' : Fr (Value.slice (some ⟨gc, 0, none⟩) N n3).ownBlock.toList (wr.drewN q) ((wr.drewN q).setCell ⟨gc, j, none⟩ (.bool true)) := by simpa [Value.ownBlock] using hfr
                          refine ⟨(g1.grown hd).other m4 (Nat.le_refl _) (by decide) (by decide) hfr', (g2.below hd).other m4 (by decide) hfr', (g3.below hd).other m4 (by decide) hfr', ?_, hfr.same (hd.block _ (lt_of_block g5) |>.trans g5) ?_⟩
                          · rw [hjA] at m4 hjq ⊢
                            rw [(midL_at A Bq _ _).1] at m4 hjq
                            rw [(midL_at A Bq _ _).2]
                            have hlen : N = (A ++ (⟨n, G, v, false⟩ : Fd) :: Bq).length := by rw [HN.out, HL.out]
                            rw [hlen] at m4
                            have := m4.set TC_ok (j := A.length) (i := 0) (y := ⟨n, G, v, true⟩) (u := (.bool true)) (mid_at A Bq _) (by decide) rfl
                            rw [mid_set] at this
                            rw [hlen]
                            simpa [TC] using this
                          · intro hm
                            have := m4.ne ((hd.block _ (lt_of_block g5)).trans g5) (by decide) gc rfl
                            simp at hm; exact this hm.symm)
                        clear hca hcc hf HJ hjq hfe hjA
                        go_wp2_with fail
                        go_quiet (fail)
                        have HFIN := Lib.hid (HNX.out nq)
                        clear HNX
                        go_wp2_with fail
                        go_roundw
                        case rel => exact ⟨j + 1, by omega, by go_num, HFIN⟩
                        case measure => simp [intOf]; omega
                      · have HNX : Hid (∀ q, KT w (wr.drewN q) t g m (P.set n ⟨false, G + 1, 0⟩) ∧ Row TN (wr.drewN q) w.heap.size (.slice (some ⟨ga, 0, none⟩) N n1) L ∧ Row TV (wr.drewN q) w.heap.size (.slice a2 N n2) L ∧ Row TC (wr.drewN q) w.heap.size (.slice (some ⟨gc, 0, none⟩) N n3) (midL A Bq ⟨n, G, v, false⟩ ⟨n, G, v, true⟩ (j + 1)) ∧ (wr.drewN q).heap[X]? = some (.cells #[.int .i64 ((n : Nat) : Int), .int .i64 ((G : Nat) : Int)] 34 (0, 0))) := Lib.hid (fun q => by
                          obtain ⟨g1, g2, g3, g4, g5⟩ := HJ.out
                          have hd := ((Grn.refl wr).drew q).below
                          rw [midL_next hjA]
                          exact ⟨g1.grown hd, g2.below hd, g3.below hd, g4.below hd, (hd.block _ (lt_of_block g5)).trans g5⟩)
                        have honly : fd.n = n → fd.c = true := fun e => Rel.only (P := P) HAB.out.1 HAB.out.2 (by rw [← HL.out]; exact hf) hjA e
                        clear hca hcc hf HJ hjq hjA
                        by_cases hnm : ((fd.n : Nat) : Int) = ((n : Nat) : Int) ∧ ((fd.g : Nat) : Int) = ((G : Nat) : Int)
                        · rw [hnm.1] at k0
                          rw [hnm.2] at k1
                          rw [honly (by have := hnm.1; omega)] at l0
                          have heq := fun W => eql_fd_same W ((n : Nat) : Int) ((G : Nat) : Int)
                          clear hnm honly
                          go_wp2_with fail
                          go_quiet (fail)
                          have HFIN := Lib.hid (HNX.out nq)
                          clear HNX
                          go_wp2_with fail
                          go_roundw
                          case rel => exact ⟨j + 1, by omega, by go_num, HFIN⟩
                          case measure => simp [intOf]; omega
                        · have heq := fun W => eql_fd_ne W _ _ _ _ hnm
                          clear hnm honly
                          generalize fd.n = fn at *
                          generalize fd.g = fg at *
                          go_wp2_with fail
                          go_quiet (fail)
                          have HFIN := Lib.hid (HNX.out nq)
                          clear HNX
                          go_wp2_with fail
                          go_roundw
                          case rel => exact ⟨j + 1, by omega, by go_num, HFIN⟩
                          case measure => simp [intOf]; omega
                    · obtain rfl : j = N := by omega
                      have HFIN : Hid (HSt w wr t g m (P.set n ⟨false, G + 1, 0⟩) (A ++ ⟨n, G, v, true⟩ :: Bq) (.slice a1 j n1) (.slice a2 j n2) (.slice a3 j n3) (k + 1)) := Lib.hid (by
                        obtain ⟨g1, g2, g3, g4, g5⟩ := HJ.out
                        have hlA : A.length < j := by rw [HN.out, HL.out]; simp
                        have e4 : midL A Bq ⟨n, G, v, false⟩ ⟨n, G, v, true⟩ j = A ++ ⟨n, G, v, true⟩ :: Bq := by unfold midL; exact if_pos hlA
                        rw [e4] at g4
                        rw [HL.out] at g2 g3
                        refine ⟨g1, HREL.out, by rw [List.length_set]; exact HLN.out.2, g2.mid rfl, g3.mid rfl, g4, ?_, by omega⟩
                        have h1 := HLN.out.1
                        rw [HL.out] at h1
                        simp at h1 ⊢
                        omega)
                      clear HJ
                      go_wp2_with fail
                      go_meet
                      exact ⟨_, _, HFIN⟩
                · have HNO : Hid (∀ f ∈ L, ((f.n : Nat) : Int) = xn ∧ ((f.g : Nat) : Int) = xg → f.c = true) := Lib.hid (fun f hf hh => by
                      have hh1 := hh.1
                      have hh2 := hh.2
                      rcases hc : f.c with _ | _
                      · exact absurd hh2.symm (hno f.n _ hh1.symm ((HSC.out.rel.get hf).2 hc) rfl)
                      · rfl)
                  have hcl := slClose_bad (finds_no HSC.out.K.T hno) (by decide)
                  have HCL := Lib.hid hcl
                  clear hcl hno
                  refine HCL.out.mono ?_
                  rintro e w5 ⟨rfl, hg5⟩
                  have HS5 := Lib.hid ((HSC.out.grown hg5.below).more hk60)
                  have HX5 := Lib.hid ((hg5.below.block _ (lt_of_block HXC.out)).trans HXC.out)
                  clear hg5 HCL HSC HXC
                  go_wp2_with fail
                  go_loopw [122] (fun i wu => ∃ j : Nat, j ≤ N ∧ i = .int .i64 ((j : Nat) : Int) ∧ Hid (HSt w wu t g m P L (.slice a1 N n1) (.slice a2 N n2) (.slice a3 N n3) (k + 1) ∧ wu.heap[X]? = some (.cells #[.int .i64 xn, .int .i64 xg] 34 (0, 0)))) (fun i _ => N - (intOf i).toNat)
                  case atStart => exact ⟨0, Nat.zero_le _, rfl, Lib.hid ⟨HS5.out, HX5.out⟩⟩
                  case round =>
                    obtain ⟨j, hj, rfl, HJ⟩ := hrel
                    by_cases hjN : j < N
                    · obtain ⟨fd, hf⟩ : ∃ f, L[j]? = some f := ⟨_, List.getElem?_eq_getElem (by rw [← HN.out]; exact hjN)⟩
                      obtain ⟨ga, ca, hva, _, hgla, _, hca⟩ := HJ.out.1.r1.at TN_ok hf
                      rw [← HN.out] at hva
                      simp only [Value.slice.injEq] at hva
                      obtain ⟨ea1, _, ea2⟩ := hva
                      have k0 : wr.cell? ⟨ga, j * 2, none⟩ = some (.int .i64 ((fd.n : Nat) : Int)) := hca 0 _ rfl
                      have k1 : wr.cell? ⟨ga, j * 2 + 1, none⟩ = some (.int .i64 ((fd.g : Nat) : Int)) := hca 1 _ rfl
                      have z0 : wr.cell? ⟨X, 0, none⟩ = some (.int .i64 xn) := cells_cell HJ.out.2 rfl
                      have z1 : wr.cell? ⟨X, 1, none⟩ = some (.int .i64 xg) := cells_cell HJ.out.2 rfl
                      have hzl := lt_of_block HJ.out.2
                      have j4 : (0 : Int) ≤ (j : Int) := by omega
                      have j5 : (j : Int) < (N : Int) := by omega
                      obtain ⟨gc, cc, hvc, _, hglc, hfzc, hcc⟩ := HJ.out.1.r3.at TC_ok hf
                      rw [← HN.out] at hvc
                      simp only [Value.slice.injEq] at hvc
                      obtain ⟨ec1, _, ec2⟩ := hvc
                      have l0 : wr.cell? ⟨gc, j, none⟩ = some (.bool fd.c) := by have := hcc 0 _ rfl; simpa [TC] using this
                      subst ea1 ea2 ec1 ec2
                      have HNX : Hid (∀ q, HSt w (wr.drewN q) t g m P L (.slice (some ⟨ga, 0, none⟩) N n1) (.slice a2 N n2) (.slice (some ⟨gc, 0, none⟩) N n3) (k + 1) ∧ (wr.drewN q).heap[X]? = some (.cells #[.int .i64 xn, .int .i64 xg] 34 (0, 0))) := Lib.hid (fun q => by
                          have hd := ((Grn.refl wr).drew q).below
                          exact ⟨HJ.out.1.grown hd, (hd.block _ (lt_of_block HJ.out.2)).trans HJ.out.2⟩)
                      have honly := HNO.out fd (List.mem_of_getElem? hf)
                      clear hca hcc hf HJ
                      by_cases hnm : ((fd.n : Nat) : Int) = xn ∧ ((fd.g : Nat) : Int) = xg
                      · rw [hnm.1] at k0
                        rw [hnm.2] at k1
                        rw [honly hnm] at l0
                        have heq := fun W => eql_fd_same W xn xg
                        clear hnm honly
                        go_wp2_with fail
                        go_quiet (fail)
                        have HFIN := Lib.hid (HNX.out nq)
                        clear HNX
                        go_wp2_with fail
                        go_roundw
                        case rel => exact ⟨j + 1, by omega, by go_num, HFIN⟩
                        case measure => simp [intOf]; omega
                      · have heq := fun W => eql_fd_ne W _ _ _ _ hnm
                        clear hnm honly
                        generalize fd.n = fn at *
                        generalize fd.g = fg at *
                        go_wp2_with fail
                        go_quiet (fail)
                        have HFIN := Lib.hid (HNX.out nq)
                        clear HNX
                        go_wp2_with fail
                        go_roundw
                        case rel => exact ⟨j + 1, by omega, by go_num, HFIN⟩
                        case measure => simp [intOf]; omega
                    · obtain rfl : j = N := by omega
                      have HFIN := Lib.hid HJ.out.1
                      clear HJ
                      go_wp2_with fail
                      go_meet
                      exact ⟨_, _, HFIN⟩
              · have r0 : (x0 == 0) = false := by simpa using q0
                have r1 : (x0 == 1) = false := by simpa using q5
                have r5 : (x0 == 5) = false := by simpa using q55
                by_cases q3' : x0 = 3
                · as_aux_lemma =>
                  subst q3'
                  have HSC := Lib.hid HS1.out
                  have HXC := Lib.hid HB0.out
                  clear HS1 HB0 r0 r1 r5
                  rcases fd_cases P x2 x3 with ⟨n, G, v, hxn, hxg, hp⟩ | hno
                  · subst hxn hxg
                    obtain ⟨A, Bq, hL, hA, hB⟩ := HSC.out.find hp
                    have hcl := slSet_yes HSC.out.K.T hp x1
                    have HCL := Lib.hid hcl
                    have HREL : Hid (Rel (P.set n ⟨true, G, x1⟩) (A ++ ⟨n, G, x1, false⟩ :: Bq)) := Lib.hid (by have h := HSC.out.rel; rw [hL] at h; have h2 := h.change hp hA hB x1 false; simpa using h2)
                    have HL := Lib.hid hL
                    have HAB := Lib.hid (And.intro hA hB)
                    clear hcl hp hL hA hB
                    go_wp2_with (go_at_call 18; fail)
                    refine HCL.out.mono ?_
                    rintro e w5 ⟨rfl, hT5, hf5⟩
                    have HK5 := Lib.hid (HSC.out.K.step hT5 hf5)
                    have HR1 := Lib.hid (HSC.out.K.row HSC.out.r1 (by decide) hf5)
                    have HR2 := Lib.hid (HSC.out.K.row HSC.out.r2 (by decide) hf5)
                    have HR3 := Lib.hid (HSC.out.K.row HSC.out.r3 (by decide) hf5)
                    have HX5 := Lib.hid (hf5.same HXC.out (HSC.out.K.T.out HXC.out (by decide)))
                    have HLN := Lib.hid (And.intro HSC.out.ln HSC.out.pl)
                    clear hT5 hf5 HCL HSC HXC
                    go_wp2_with fail
                    have HM0 : Hid (Row TV w5 w.heap.size (.slice a2 N n2) (midL A Bq ⟨n, G, v, false⟩ ⟨n, G, x1, false⟩ 0)) := Lib.hid (by rw [show midL A Bq ⟨n, G, v, false⟩ ⟨n, G, x1, false⟩ 0 = L by rw [HL.out]; unfold midL; exact if_neg (Nat.not_lt_zero _)]; exact HR2.out)
                    go_loopw [154] (fun i wu => ∃ j : Nat, j ≤ N ∧ i = .int .i64 ((j : Nat) : Int) ∧ Hid (KT w wu t g m (P.set n ⟨true, G, x1⟩) ∧ Row TN wu w.heap.size (.slice a1 N n1) L ∧ Row TC wu w.heap.size (.slice a3 N n3) L ∧ Row TV wu w.heap.size (.slice a2 N n2) (midL A Bq ⟨n, G, v, false⟩ ⟨n, G, x1, false⟩ j) ∧ wu.heap[B]? = some (.cells #[.int .i64 3, .int .i64 x1, .int .i64 ((n : Nat) : Int), .int .i64 ((G : Nat) : Int)] 36 (0, 0)))) (fun i _ => N - (intOf i).toNat)
                    case atStart => exact ⟨0, Nat.zero_le _, rfl, Lib.hid ⟨HK5.out, HR1.out, HR3.out, HM0.out, HX5.out⟩⟩
                    case round =>
                      obtain ⟨j, hj, rfl, HJ⟩ := hrel
                      by_cases hjN : j < N
                      · obtain ⟨fd, hf⟩ : ∃ f, L[j]? = some f := ⟨_, List.getElem?_eq_getElem (by rw [← HN.out]; exact hjN)⟩
                        obtain ⟨ga, ca, hva, _, hgla, _, hca⟩ := HJ.out.2.1.at TN_ok hf
                        rw [← HN.out] at hva
                        simp only [Value.slice.injEq] at hva
                        obtain ⟨ea1, _, ea2⟩ := hva
                        have k0 : wr.cell? ⟨ga, j * 2, none⟩ = some (.int .i64 ((fd.n : Nat) : Int)) := hca 0 _ rfl
                        have k1 : wr.cell? ⟨ga, j * 2 + 1, none⟩ = some (.int .i64 ((fd.g : Nat) : Int)) := hca 1 _ rfl
                        have z2 : wr.cell? ⟨B, 2, none⟩ = some (.int .i64 ((n : Nat) : Int)) := cells_cell HJ.out.2.2.2.2 rfl
                        have z3 : wr.cell? ⟨B, 3, none⟩ = some (.int .i64 ((G : Nat) : Int)) := cells_cell HJ.out.2.2.2.2 rfl
                        have z1 : wr.cell? ⟨B, 1, none⟩ = some (.int .i64 x1) := cells_cell HJ.out.2.2.2.2 rfl
                        have hzl := lt_of_block HJ.out.2.2.2.2
                        have j4 : (0 : Int) ≤ (j : Int) := by omega
                        have j5 : (j : Int) < (N : Int) := by omega
                        obtain ⟨gc, cc, hvc, _, hglc, hfzc, hcc⟩ := HJ.out.2.2.1.at TC_ok hf
                        rw [← HN.out] at hvc
                        simp only [Value.slice.injEq] at hvc
                        obtain ⟨ec1, _, ec2⟩ := hvc
                        have l0 : wr.cell? ⟨gc, j, none⟩ = some (.bool fd.c) := by have := hcc 0 _ rfl; simpa [TC] using this
                        have hjq : (midL A Bq ⟨n, G, v, false⟩ ⟨n, G, x1, false⟩ j)[j]? = some fd := by
                          by_cases hjA : j = A.length
                          · rw [hjA, (midL_at A Bq _ _).1, ← HL.out, ← hjA]; exact hf
                          · rw [midL_other hjA, ← HL.out]; exact hf
                        obtain ⟨gv, cv, hvv, _, hglv, hfzv, hcv⟩ := HJ.out.2.2.2.1.at TV_ok hjq
                        rw [midL_len, ← HL.out, ← HN.out] at hvv
                        simp only [Value.slice.injEq] at hvv
                        obtain ⟨ev1, _, ev2⟩ := hvv
                        have hfz := hfzv j
                        have lv : wr.cell? ⟨gv, j, none⟩ = some (.int .i64 fd.v) := by have := hcv 0 _ rfl; simpa [TV] using this
                        subst ea1 ea2 ec1 ec2 ev1 ev2
                        by_cases hjA : j = A.length
                        · have hfe : fd = ⟨n, G, v, false⟩ := by rw [HL.out, hjA, mid_at] at hf; exact (Option.some.inj hf).symm
                          rw [hfe] at k0 k1 l0
                          simp only at k0 k1 l0
                          have heq := fun W => eql_fd_same W ((n : Nat) : Int) ((G : Nat) : Int)
                          have HNX : Hid (∀ q, KT w ((wr.drewN q).setCell ⟨gv, j, none⟩ (.int .i64 x1)) t g m (P.set n ⟨true, G, x1⟩) ∧ Row TN ((wr.drewN q).setCell ⟨gv, j, none⟩ (.int .i64 x1)) w.heap.size (.slice (some ⟨ga, 0, none⟩) N n1) L ∧ Row TC ((wr.drewN q).setCell ⟨gv, j, none⟩ (.int .i64 x1)) w.heap.size (.slice (some ⟨gc, 0, none⟩) N n3) L ∧ Row TV ((wr.drewN q).setCell ⟨gv, j, none⟩ (.int .i64 x1)) w.heap.size (.slice (some ⟨gv, 0, none⟩) N n2) (midL A Bq ⟨n, G, v, false⟩ ⟨n, G, x1, false⟩ (j + 1)) ∧ ((wr.drewN q).setCell ⟨gv, j, none⟩ (.int .i64 x1)).heap[B]? = some (.cells #[.int .i64 3, .int .i64 x1, .int .i64 ((n : Nat) : Int), .int .i64 ((G : Nat) : Int)] 36 (0, 0))) := Lib.hid (fun q => by
                            obtain ⟨g1, g2, g3, g4, g5⟩ := HJ.out
                            have hd := ((Grn.refl wr).drew q).below
                            have m4 := g4.below hd
                            have hfr := fr_setCell (wr.drewN q) ⟨gv, j, none⟩ (.int .i64 x1)
                            have hfr' : Fr (Value.slice (some ⟨gv, 0, none⟩) N n2).ownBlock.toList (wr.drewN q) ((wr.drewN q).setCell ⟨gv, j, none⟩ (.int .i64 x1)) := by simpa [Value.ownBlock] using hfr
                            refine ⟨(g1.grown hd).other m4 (Nat.le_refl _) (by decide) (by decide) hfr', (g2.below hd).other m4 (by decide) hfr', (g3.below hd).other m4 (by decide) hfr', ?_, hfr.same (hd.block _ (lt_of_block g5) |>.trans g5) ?_⟩
                            · rw [hjA] at m4 hjq ⊢
                              rw [(midL_at A Bq _ _).1] at m4 hjq
                              rw [(midL_at A Bq _ _).2]
                              have hlen : N = (A ++ (⟨n, G, v, false⟩ : Fd) :: Bq).length := by rw [HN.out, HL.out]
                              rw [hlen] at m4
                              have := m4.set TV_ok (j := A.length) (i := 0) (y := ⟨n, G, x1, false⟩) (u := (.int .i64 x1)) (mid_at A Bq _) (by decide) rfl
                              rw [mid_set] at this
                              rw [hlen]
                              simpa [TV] using this
                            · intro hm
                              have := m4.ne ((hd.block _ (lt_of_block g5)).trans g5) (by decide) gv rfl
                              simp at hm; exact this hm.symm)
                          clear hca hcc hf HJ hjq hfe hjA hcv
                          go_wp2_with fail
                          go_quiet (fail)
                          have HFIN := Lib.hid (HNX.out nq)
                          clear HNX
                          go_wp2_with fail
                          go_roundw
                          case rel => exact ⟨j + 1, by omega, by go_num, HFIN⟩
                          case measure => simp [intOf]; omega
                        · have HNX : Hid (∀ q, KT w (wr.drewN q) t g m (P.set n ⟨true, G, x1⟩) ∧ Row TN (wr.drewN q) w.heap.size (.slice (some ⟨ga, 0, none⟩) N n1) L ∧ Row TC (wr.drewN q) w.heap.size (.slice (some ⟨gc, 0, none⟩) N n3) L ∧ Row TV (wr.drewN q) w.heap.size (.slice (some ⟨gv, 0, none⟩) N n2) (midL A Bq ⟨n, G, v, false⟩ ⟨n, G, x1, false⟩ (j + 1)) ∧ (wr.drewN q).heap[B]? = some (.cells #[.int .i64 3, .int .i64 x1, .int .i64 ((n : Nat) : Int), .int .i64 ((G : Nat) : Int)] 36 (0, 0))) := Lib.hid (fun q => by
                            obtain ⟨g1, g2, g3, g4, g5⟩ := HJ.out
                            have hd := ((Grn.refl wr).drew q).below
                            rw [midL_next hjA]
                            exact ⟨g1.grown hd, g2.below hd, g3.below hd, g4.below hd, (hd.block _ (lt_of_block g5)).trans g5⟩)
                          have honly : fd.n = n → fd.c = true := fun e => Rel.only (P := P) HAB.out.1 HAB.out.2 (by rw [← HL.out]; exact hf) hjA e
                          clear hca hcc hf HJ hjq hjA hcv
                          by_cases hnm : ((fd.n : Nat) : Int) = ((n : Nat) : Int) ∧ ((fd.g : Nat) : Int) = ((G : Nat) : Int)
                          · rw [hnm.1] at k0
                            rw [hnm.2] at k1
                            rw [honly (by have := hnm.1; omega)] at l0
                            have heq := fun W => eql_fd_same W ((n : Nat) : Int) ((G : Nat) : Int)
                            clear hnm honly
                            go_wp2_with fail
                            go_quiet (fail)
                            have HFIN := Lib.hid (HNX.out nq)
                            clear HNX
                            go_wp2_with fail
                            go_roundw
                            case rel => exact ⟨j + 1, by omega, by go_num, HFIN⟩
                            case measure => simp [intOf]; omega
                          · have heq := fun W => eql_fd_ne W _ _ _ _ hnm
                            clear hnm honly
                            generalize fd.n = fn at *
                            generalize fd.g = fg at *
                            go_wp2_with fail
                            go_quiet (fail)
                            have HFIN := Lib.hid (HNX.out nq)
                            clear HNX
                            go_wp2_with fail
                            go_roundw
                            case rel => exact ⟨j + 1, by omega, by go_num, HFIN⟩
                            case measure => simp [intOf]; omega
                      · obtain rfl : j = N := by omega
                        have HFIN : Hid (HSt w wr t g m (P.set n ⟨true, G, x1⟩) (A ++ ⟨n, G, x1, false⟩ :: Bq) (.slice a1 j n1) (.slice a2 j n2) (.slice a3 j n3) (k + 1)) := Lib.hid (by
                          obtain ⟨g1, g2, g3, g4, g5⟩ := HJ.out
                          have hlA : A.length < j := by rw [HN.out, HL.out]; simp
                          have e4 : midL A Bq ⟨n, G, v, false⟩ ⟨n, G, x1, false⟩ j = A ++ ⟨n, G, x1, false⟩ :: Bq := by unfold midL; exact if_pos hlA
                          rw [e4] at g4
                          rw [HL.out] at g2 g3
                          refine ⟨g1, HREL.out, by rw [List.length_set]; exact HLN.out.2, g2.mid rfl, g4, g3.mid rfl, ?_, by omega⟩
                          have h1 := HLN.out.1
                          rw [HL.out] at h1
                          simp at h1 ⊢
                          omega)
                        clear HJ
                        go_wp2_with fail
                        go_meet
                        exact ⟨_, _, HFIN⟩
                  · have HNO : Hid (∀ f ∈ L, ((f.n : Nat) : Int) = x2 ∧ ((f.g : Nat) : Int) = x3 → f.c = true) := Lib.hid (fun f hf hh => by
                        have hh1 := hh.1
                        have hh2 := hh.2
                        rcases hc : f.c with _ | _
                        · exact absurd hh2.symm (hno f.n _ hh1.symm ((HSC.out.rel.get hf).2 hc) rfl)
                        · rfl)
                    have hcl := slSet_bad (finds_no HSC.out.K.T hno) (by decide) x1
                    have HCL := Lib.hid hcl
                    clear hcl hno
                    go_wp2_with (go_at_call 18; fail)
                    refine HCL.out.mono ?_
                    rintro e w5 ⟨rfl, hg5⟩
                    have HS5 := Lib.hid ((HSC.out.grown hg5.below).more hk60)
                    have HX5 := Lib.hid ((hg5.below.block _ (lt_of_block HXC.out)).trans HXC.out)
                    clear hg5 HCL HSC HXC
                    go_wp2_with fail
                    go_loopw [154] (fun i wu => ∃ j : Nat, j ≤ N ∧ i = .int .i64 ((j : Nat) : Int) ∧ Hid (HSt w wu t g m P L (.slice a1 N n1) (.slice a2 N n2) (.slice a3 N n3) (k + 1) ∧ wu.heap[B]? = some (.cells #[.int .i64 3, .int .i64 x1, .int .i64 x2, .int .i64 x3] 36 (0, 0)))) (fun i _ => N - (intOf i).toNat)
                    case atStart => exact ⟨0, Nat.zero_le _, rfl, Lib.hid ⟨HS5.out, HX5.out⟩⟩
                    case round =>
                      obtain ⟨j, hj, rfl, HJ⟩ := hrel
                      by_cases hjN : j < N
                      · obtain ⟨fd, hf⟩ : ∃ f, L[j]? = some f := ⟨_, List.getElem?_eq_getElem (by rw [← HN.out]; exact hjN)⟩
                        obtain ⟨ga, ca, hva, _, hgla, _, hca⟩ := HJ.out.1.r1.at TN_ok hf
                        rw [← HN.out] at hva
                        simp only [Value.slice.injEq] at hva
                        obtain ⟨ea1, _, ea2⟩ := hva
                        have k0 : wr.cell? ⟨ga, j * 2, none⟩ = some (.int .i64 ((fd.n : Nat) : Int)) := hca 0 _ rfl
                        have k1 : wr.cell? ⟨ga, j * 2 + 1, none⟩ = some (.int .i64 ((fd.g : Nat) : Int)) := hca 1 _ rfl
                        have z2 : wr.cell? ⟨B, 2, none⟩ = some (.int .i64 x2) := cells_cell HJ.out.2 rfl
                        have z3 : wr.cell? ⟨B, 3, none⟩ = some (.int .i64 x3) := cells_cell HJ.out.2 rfl
                        have hzl := lt_of_block HJ.out.2
                        have j4 : (0 : Int) ≤ (j : Int) := by omega
                        have j5 : (j : Int) < (N : Int) := by omega
                        obtain ⟨gc, cc, hvc, _, hglc, hfzc, hcc⟩ := HJ.out.1.r3.at TC_ok hf
                        rw [← HN.out] at hvc
                        simp only [Value.slice.injEq] at hvc
                        obtain ⟨ec1, _, ec2⟩ := hvc
                        have l0 : wr.cell? ⟨gc, j, none⟩ = some (.bool fd.c) := by have := hcc 0 _ rfl; simpa [TC] using this
                        subst ea1 ea2 ec1 ec2
                        have HNX : Hid (∀ q, HSt w (wr.drewN q) t g m P L (.slice (some ⟨ga, 0, none⟩) N n1) (.slice a2 N n2) (.slice (some ⟨gc, 0, none⟩) N n3) (k + 1) ∧ (wr.drewN q).heap[B]? = some (.cells #[.int .i64 3, .int .i64 x1, .int .i64 x2, .int .i64 x3] 36 (0, 0))) := Lib.hid (fun q => by
                            have hd := ((Grn.refl wr).drew q).below
                            exact ⟨HJ.out.1.grown hd, (hd.block _ (lt_of_block HJ.out.2)).trans HJ.out.2⟩)
                        have honly := HNO.out fd (List.mem_of_getElem? hf)
                        clear hca hcc hf HJ
                        by_cases hnm : ((fd.n : Nat) : Int) = x2 ∧ ((fd.g : Nat) : Int) = x3
                        · rw [hnm.1] at k0
                          rw [hnm.2] at k1
                          rw [honly hnm] at l0
                          have heq := fun W => eql_fd_same W x2 x3
                          clear hnm honly
                          go_wp2_with fail
                          go_quiet (fail)
                          have HFIN := Lib.hid (HNX.out nq)
                          clear HNX
                          go_wp2_with fail
                          go_roundw
                          case rel => exact ⟨j + 1, by omega, by go_num, HFIN⟩
                          case measure => simp [intOf]; omega
                        · have heq := fun W => eql_fd_ne W _ _ _ _ hnm
                          clear hnm honly
                          generalize fd.n = fn at *
                          generalize fd.g = fg at *
                          go_wp2_with fail
                          go_quiet (fail)
                          have HFIN := Lib.hid (HNX.out nq)
                          clear HNX
                          go_wp2_with fail
                          go_roundw
                          case rel => exact ⟨j + 1, by omega, by go_num, HFIN⟩
                          case measure => simp [intOf]; omega
                      · obtain rfl : j = N := by omega
                        have HFIN := Lib.hid HJ.out.1
                        clear HJ
                        go_wp2_with fail
                        go_meet
                        exact ⟨_, _, HFIN⟩
                · have r3 : (x0 == 3) = false := by simpa using q3'
                  have HF := Lib.hid (HS1.out.more hk60)
                  clear HS1 HB0
                  go_wp2_with fail
                  go_meet
                  exact ⟨_, _, HF⟩
        case rest => as_aux_lemma =>
          obtain ⟨P', L', HR⟩ := hcut
          clear HS1 HB0 b0 b1 b2 b3 hbl0 HN hN60 iN
          obtain ⟨a1', n1', rfl, _, _⟩ := HR.out.r1.form
          obtain ⟨a2', n2', rfl, _, _⟩ := HR.out.r2.form
          obtain ⟨a3', n3', rfl, _, _⟩ := HR.out.r3.form
          obtain ⟨M, hM⟩ : ∃ M, M = L'.length := ⟨_, rfl⟩
          rw [← hM] at HR ⊢
          have HM := Lib.hid hM
          have hM60 : M ≤ 60 := by have h1 := HR.out.ln; have h2 := HR.out.hk; omega
          have iM : (M : Int) ≤ 60 := by omega
          clear hM
          go_wp2_with fail
          go_loopw [181] (fun i wu => ∃ j : Nat, j ≤ M ∧ i = .int .i64 ((j : Nat) : Int) ∧ Hid (HSt w wu t g m P' L' (.slice a1' M n1') (.slice a2' M n2') (.slice a3' M n3') (k + 1))) (fun i _ => M - (intOf i).toNat)
          case atStart => exact ⟨0, Nat.zero_le _, rfl, HR⟩
          case round =>
            clear HR
            obtain ⟨j, hj, rfl, HJ⟩ := hrel
            by_cases hjM : j < M
            · obtain ⟨fd, hf⟩ : ∃ f, L'[j]? = some f := ⟨_, List.getElem?_eq_getElem (by rw [← HM.out]; exact hjM)⟩
              obtain ⟨ga, ca, hva, _, hgla, _, hca⟩ := HJ.out.r1.at TN_ok hf
              rw [← HM.out] at hva
              simp only [Value.slice.injEq] at hva
              obtain ⟨rfl, -, -⟩ := hva
              have k0 : wr.cell? ⟨ga, j * 2, none⟩ = some (.int .i64 ((fd.n : Nat) : Int)) := hca 0 _ rfl
              have k1 : wr.cell? ⟨ga, j * 2 + 1, none⟩ = some (.int .i64 ((fd.g : Nat) : Int)) := hca 1 _ rfl
              have j4 : (0 : Int) ≤ (j : Int) := by omega
              have j5 : (j : Int) < (M : Int) := by omega
              have hfm := List.mem_of_getElem? hf
              have HF := Lib.hid hf
              clear hca hf
              rcases hc : fd.c with _ | _
              · have hget := slGet_yes HJ.out.K.T ((HJ.out.rel.get hfm).2 hc)
                have HGET := Lib.hid hget
                have HC := Lib.hid hc
                clear hget hfm hc
                go_wp2_with (go_at_call 20; fail)
                refine HGET.out.mono ?_
                rintro e w5 ⟨rfl, hg5⟩
                have HJ5 := Lib.hid (HJ.out.grown hg5.below)
                clear hg5 HGET HJ k0 k1
                obtain ⟨gc, cc, hvc, _, hglc, _, hcc⟩ := HJ5.out.r3.at TC_ok HF.out
                rw [← HM.out] at hvc
                simp only [Value.slice.injEq] at hvc
                obtain ⟨rfl, -, -⟩ := hvc
                have l0 : w5.cell? ⟨gc, j, none⟩ = some (.bool fd.c) := by have := hcc 0 _ rfl; simpa [TC] using this
                rw [HC.out] at l0
                obtain ⟨gv, cv, hvv, _, hglv, _, hcv⟩ := HJ5.out.r2.at TV_ok HF.out
                rw [← HM.out] at hvv
                simp only [Value.slice.injEq] at hvv
                obtain ⟨rfl, -, -⟩ := hvv
                have l1 : w5.cell? ⟨gv, j, none⟩ = some (.int .i64 fd.v) := by have := hcv 0 _ rfl; simpa [TV] using this
                have hne : (fd.v != fd.v) = false := by simp
                clear hcc hcv
                go_wp2_with fail
                go_roundw
                case rel => first | exact ⟨j + 1, by omega, by go_num, HJ5⟩ | ((repeat apply Exists.intro); exact ⟨⟨j + 1, by omega, by go_num, HJ5⟩, rfl⟩)
                case measure => simp [intOf]; omega
              · have hget := slGet_bad (finds_no HJ.out.K.T ((HJ.out.rel.get hfm).1 hc)) (by decide)
                have HGET := Lib.hid hget
                have HC := Lib.hid hc
                clear hget hfm hc
                go_wp2_with (go_at_call 20; fail)
                refine HGET.out.mono ?_
                rintro e w5 ⟨rfl, hg5⟩
                have HJ5 := Lib.hid (HJ.out.grown hg5.below)
                clear hg5 HGET HJ k0 k1
                obtain ⟨gc, cc, hvc, _, hglc, _, hcc⟩ := HJ5.out.r3.at TC_ok HF.out
                rw [← HM.out] at hvc
                simp only [Value.slice.injEq] at hvc
                obtain ⟨rfl, -, -⟩ := hvc
                have l0 : w5.cell? ⟨gc, j, none⟩ = some (.bool fd.c) := by have := hcc 0 _ rfl; simpa [TC] using this
                rw [HC.out] at l0
                clear hcc
                go_wp2_with fail
                go_roundw
                case rel => first | exact ⟨j + 1, by omega, by go_num, HJ5⟩ | ((repeat apply Exists.intro); exact ⟨⟨j + 1, by omega, by go_num, HJ5⟩, rfl⟩)
                case measure => simp [intOf]; omega
            · obtain rfl : j = M := by omega
              go_wp2_with fail
              go_roundw
              case rel => exact ⟨k + 1, _, _, by omega, by go_num, HJ⟩
              case measure => simp [intOf]; omega
    · obtain rfl : k = len := by omega
      have HB := Lib.hid HS.out.K.below
      clear HS
      go_wp2_with (go_at_call 8; fail)
      refine (known_any _).mono ?_
      rintro e w4 ⟨rfl, hb⟩
      go_wp2_with fail
      go_ret
      exact ⟨rfl, HB.out.trans (hb.mono HB.out.size)⟩

set_option maxRecDepth 100000 in
set_option maxHeartbeats 1600000 in
theorem slotHolds_walk (most : Int) (sa : Option Addr) (len cap : Nat) (w : World) (h1 : (Lit.int .i64 most).wf = true) (hr : IsActs7 w sa len cap) :
    Calls Try.prog 7 #[.int .i64 most, .slice sa len cap] w fun e w' => e = .returned (.bool true) ∧ Below w.heap.size w w' := by
  have HK := Lib.hid (known_any w)
  clear h1
  by_cases c1 : 60 < len
  · clear hr
    have e1 : (60 : Int) < (len : Int) := by omega
    go_enter Try.func7, Try.ntmps7
    go_wp2_with (go_at_call 8; refine HK.out.mono ?_; rintro e w2 ⟨rfl, hb⟩)
    go_ret
    exact ⟨rfl, hb⟩
  have d1 : decide ((60 : Int) < (len : Int)) = false := by simp; omega
  have d1' : decide (60 < len) = false := by simp; omega
  by_cases c2 : most < 1
  · clear hr
    go_enter Try.func7, Try.ntmps7
    go_wp2_with (go_at_call 8; refine HK.out.mono ?_; rintro e w2 ⟨rfl, hb⟩)
    go_ret
    exact ⟨rfl, hb⟩
  have d2 : decide (most < 1) = false := by simp; omega
  by_cases c3 : 128 < most
  · clear hr
    go_enter Try.func7, Try.ntmps7
    go_wp2_with (go_at_call 8; refine HK.out.mono ?_; rintro e w2 ⟨rfl, hb⟩)
    go_ret
    exact ⟨rfl, hb⟩
  obtain ⟨m', rfl⟩ : ∃ m' : Nat, most = m' := ⟨most.toNat, by omega⟩
  exact slotHolds_ok m' (by omega) (by omega) sa len cap (by omega) w hr
end Go.Proofs.Ytbefiilbpbbjnaa
