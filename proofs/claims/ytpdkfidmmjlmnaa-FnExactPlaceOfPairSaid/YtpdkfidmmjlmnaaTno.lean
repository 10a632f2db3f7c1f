/-
  impl.tensorOf by contract.
-/
import Derived.Test.YtpdkfidmmjlmnaaTst
namespace Go.Proofs.Ytpdkfidmmjlmnaa
open Go.RowKit

set_option maxHeartbeats 12800000 in
set_option maxRecDepth 100000 in
theorem tensorOf_any (p p2 : Int) (dv mv dv2 mv2 : Value) (ds : List Int) (ms : List (List (List Int))) (ds2 : List Int) (ms2 : List (List (List Int))) (w : World) (h : Cx 0 w dv mv ds ms) (h2 : Cx 0 w dv2 mv2 ds2 ms2) (hcx : IsCx p ds ms) (hcy : IsCx p2 ds2 ms2) :
    Calls Try.prog 132 #[.agg #[.int .i64 p, dv, mv], .agg #[.int .i64 p2, dv2, mv2]] w (TsR p p2 dv mv dv2 mv2 ds ds2 w) := by
  obtain ⟨ad, cap, rfl⟩ := Sl.shape h.dims
  obtain ⟨am, capm, rfl⟩ := Sl.shape h.maps
  obtain ⟨ad2, cap2, rfl⟩ := Sl.shape h2.dims
  obtain ⟨am2, capm2, rfl⟩ := Sl.shape h2.maps
  obtain ⟨k1, k2⟩ := bx_two (p := p) (p2 := p2) 28 h h2
  obtain ⟨wb, hwb⟩ : ∃ wb, wb = ((w.alloc (.cells #[.int .i64 p, .slice ad ds.length cap, .slice am ms.length capm] 28)).alloc (.cells #[.int .i64 p2, .slice ad2 ds2.length cap2, .slice am2 ms2.length capm2] 28)) := ⟨_, rfl⟩
  rw [← hwb] at k1 k2
  obtain ⟨w1, hw1⟩ : ∃ w1, w1 = wb.alloc (.cells #[.int .i64 0, .slice none 0 0, .slice none 0 0, .int .i64 0, .slice none 0 0, .slice none 0 0, .slice none 0 0, .map none] 110) := ⟨_, rfl⟩
  have hbb : Below wb.heap.size wb w1 := by rw [hw1]; exact below_alloc1 _ _
  have HX0 := Lib.hid (k1.next hbb)
  have HY0 := Lib.hid (k2.next hbb)
  have hw1' := hw1
  rw [hwb] at hw1'
  have hzb : wb.heap.size = w.heap.size + 1 + 1 := by rw [hwb]; simp
  have HZ4 : Hid (Rz w1 (w.heap.size + 1 + 1) 110 #[.int .i64 0, .slice none 0 0, .slice none 0 0, .int .i64 0, .slice none 0 0, .slice none 0 0, .slice none 0 0, .map none]) := Lib.hid (by rw [hw1, ← hzb]; exact Rz.new _ _ _)
  have HB01 := Lib.hid HX0.out.below
  have HC1 : Hid (∀ W, Below w1.heap.size w1 W → Bx w W w.heap.size p (.slice ad ds.length cap) (.slice am ms.length capm) ds ms ∧ Bx w W (w.heap.size + 1) p2 (.slice ad2 ds2.length cap2) (.slice am2 ms2.length capm2) ds2 ms2) := Lib.hid (fun W hb => ⟨HX0.out.next hb, HY0.out.next hb⟩)
  have HCX := Lib.hid hcx
  have HCY := Lib.hid hcy
  have hl6 := hcx.1.len1
  have hl7 := hcy.1.len1
  have hl8 := hcx.1.len0
  have hl9 := hcy.1.len0
  obtain ⟨N, hN⟩ : ∃ N, N = ds.length + ds2.length - 1 := ⟨_, rfl⟩
  have hNN : (ds.length : Int) + (ds2.length : Int) - 1 = (N : Int) := by omega
  have hmk := run_make_row' (P := Try.prog) 107 149 (.slice none 0 0) 24 Try.underlyingPP Try.infoPP rfl .i64 .i64 N (by omega) (by omega)
  have hi1 : IntKind.i64.wrap ((ds.length : Int) + (ds2.length : Int)) = (ds.length : Int) + (ds2.length : Int) := IntWalk.i64_in _ (by omega)
  have hi2 : IntKind.i64.wrap ((ds.length : Int) + (ds2.length : Int) - 1) = (N : Int) := by rw [hNN]; exact IntWalk.i64_in _ (by omega)
  have HNE := Lib.hid hNN
  clear h h2 k1 k2 hcx hcy hwb hbb hw1 hzb hN hNN
  go_enter Try.func132, Try.ntmps132
  go_upto_region 1 with fail
  rw [← hw1']
  clear hw1'
  refine wp_region_held (S := fun W => Below w1.heap.size w1 W) (by kernel_rfl) ?_
  have S0 : Below w1.heap.size w1 w1.drew := (Below.refl _ _).drew
  refine held_take (i := 0) (v := .agg #[.int .i64 p, .slice ad ds.length cap, .slice am ms.length capm]) (some 11) rfl rfl (by kernel_rfl) (by kernel_rfl) (by kernel_rfl) (fun _ _ _ h => h) (yieldsIf_cell (by kernel_rfl) rfl (by kernel_rfl) (fun W h => hload3x ((HC1.out W h).1))) S0 ?_
  refine held_take (i := 1) (v := .agg #[.int .i64 p2, .slice ad2 ds2.length cap2, .slice am2 ms2.length capm2]) (some 12) rfl rfl (by kernel_rfl) (by kernel_rfl) (by kernel_rfl) (fun _ _ _ h => h) (yieldsIf_cell (by kernel_rfl) rfl (by kernel_rfl) (fun W h => hload3x ((HC1.out W h).2))) S0 ?_
  refine held_take (i := 2) (v := .pointer (some ⟨w.heap.size, 1, none⟩)) (some 13) rfl rfl (by kernel_rfl) (by kernel_rfl) (by kernel_rfl) (fun _ _ _ h => h) (yieldsIf_run (by kernel_rfl) (fun W _ => by kernel_rfl)) S0 ?_
  refine held_take (i := 3) (v := .slice ad ds.length cap) (some 14) rfl rfl (by kernel_rfl) (by kernel_rfl) (by kernel_rfl) (fun _ _ _ h => h) (yieldsIf_cell (by kernel_rfl) rfl (by kernel_rfl) (fun W h => hloadS W ((HC1.out W h).1.c1))) S0 ?_
  refine held_take (i := 4) (v := .int .i64 (ds.length : Int)) (some 15) rfl rfl (by kernel_rfl) (by kernel_rfl) (by kernel_rfl) (fun _ _ _ h => h) (yieldsIf_run (by kernel_rfl) (fun W _ => by go_simp)) S0 ?_
  refine held_take (i := 5) (v := .pointer (some ⟨w.heap.size + 1, 1, none⟩)) (some 16) rfl rfl (by kernel_rfl) (by kernel_rfl) (by kernel_rfl) (fun _ _ _ h => h) (yieldsIf_run (by kernel_rfl) (fun W _ => by kernel_rfl)) S0 ?_
  refine held_take (i := 6) (v := .slice ad2 ds2.length cap2) (some 17) rfl rfl (by kernel_rfl) (by kernel_rfl) (by kernel_rfl) (fun _ _ _ h => h) (yieldsIf_cell (by kernel_rfl) rfl (by kernel_rfl) (fun W h => hloadS W ((HC1.out W h).2.c1))) S0 ?_
  refine held_take (i := 7) (v := .int .i64 (ds2.length : Int)) (some 18) rfl rfl (by kernel_rfl) (by kernel_rfl) (by kernel_rfl) (fun _ _ _ h => h) (yieldsIf_run (by kernel_rfl) (fun W _ => by go_simp)) S0 ?_
  refine held_take (i := 8) (v := .int .i64 ((ds.length : Int) + (ds2.length : Int))) (some 19) rfl rfl (by kernel_rfl) (by kernel_rfl) (by kernel_rfl) (fun _ _ _ h => h) (yieldsIf_bin (by kernel_rfl) rfl (by kernel_rfl) (by kernel_rfl) (fun _ => rfl) (haddN hi1)) S0 ?_
  refine held_take (i := 9) (v := .int .i64 (N : Int)) (some 20) rfl rfl (by kernel_rfl) (by kernel_rfl) (by kernel_rfl) (fun _ _ _ h => h) (yieldsIf_bin (by kernel_rfl) rfl (by kernel_rfl) (by kernel_rfl) (fun _ => rfl) (hsubNi hi2)) S0 ?_
  have hd0 : w1.drew.heap.size = w1.heap.size := rfl
  refine held_three (i := 10) (j := 11) (l := 13) (by kernel_rfl) ?ox10 ?ox11 ?ox13
  case' ox10 =>
    obtain ⟨V1, hV1⟩ : ∃ W', W' = w1.drew.alloc (.cells (madeCells #[.slice none 0 0] N) 149) := ⟨_, rfl⟩
    have hbV1 : Below w1.drew.heap.size w1.drew V1 := by rw [hV1]; exact below_alloc1 _ _
    have hzV1 : V1.heap.size = w1.drew.heap.size + 1 := by rw [hV1]; simp
    have SV1 : Below w1.heap.size w1 V1 := S0.trans (hbV1.mono S0.size)
    have hS0 : V1.rowIs w1.drew.heap.size 149 N (fun _ => .slice none 0 0) := by rw [hV1]; exact World.rowIs_made w1.drew _ _ _
    refine op_make (i := 10) (v := .slice (some ⟨w1.drew.heap.size, 0, none⟩) N N) (w' := V1) (x := .int .i64 (N : Int)) (y := .int .i64 (N : Int)) (some 21) 107 (.tmp 20) (.tmp 20) rfl rfl rfl rfl (by kernel_rfl) (by kernel_rfl) (by rw [hV1]; exact hmk _) ?_
    refine ⟨SV1, ?_⟩
    refine held_two (i := 11) (j := 13) (by kernel_rfl) ?oSx11 ?oSx13
    case' oSx11 =>
      obtain ⟨V2, hV2⟩ : ∃ W', W' = V1.alloc (.map #[] 0) := ⟨_, rfl⟩
      have hbV2 : Below V1.heap.size V1 V2 := by rw [hV2]; exact below_alloc1 _ _
      have hzV2 : V2.heap.size = V1.heap.size + 1 := by rw [hV2]; simp
      have SV2 : Below w1.heap.size w1 V2 := SV1.trans (hbV2.mono SV1.size)
      have hS1 := hS0.of_block (hbV2.block _ hS0.lt)
      have hM1 : Pl V2 V1.heap.size 0 [] := by rw [hV2]; exact Pl.made _
      refine op_mem (i := 11) (v := .map (some V1.heap.size)) (w' := V2) (some 22) rfl rfl rfl (by rw [hV2]; rfl) ?_
      refine ⟨SV2, ?_⟩
      refine held_take (i := 12) (v := .agg #[.int .i64 p, .slice ad ds.length cap, .slice am ms.length capm, .int .i64 p2, .slice ad2 ds2.length cap2, .slice am2 ms2.length capm2, .slice (some ⟨w1.drew.heap.size, 0, none⟩) N N, .map (some (V1.heap.size))]) (some 23) rfl rfl (by kernel_rfl) (by kernel_rfl) (by kernel_rfl) (fun _ _ _ h => h) (yieldsIf_run (by kernel_rfl) (fun W _ => by kernel_rfl)) SV2 ?_
      refine held_one (i := 13) (by kernel_rfl) ?_
      obtain ⟨V3, hV3⟩ : ∃ W', W' = V2.alloc (.cells #[.int .i64 0, .slice none 0 0, .slice none 0 0, .int .i64 0, .slice none 0 0, .slice none 0 0, .slice none 0 0, .map none] 110) := ⟨_, rfl⟩
      have hbV3 : Below V2.heap.size V2 V3 := by rw [hV3]; exact below_alloc1 _ _
      have hzV3 : V3.heap.size = V2.heap.size + 1 := by rw [hV3]; simp
      have SV3 : Below w1.heap.size w1 V3 := SV2.trans (hbV3.mono SV2.size)
      have hS2 := hS1.of_block (hbV3.block _ hS1.lt)
      have hM2 := hM1.below hbV3
      have hR2 : Rz V3 V2.heap.size 110 #[.int .i64 0, .slice none 0 0, .slice none 0 0, .int .i64 0, .slice none 0 0, .slice none 0 0, .slice none 0 0, .map none] := by rw [hV3]; exact Rz.new _ _ _
      refine op_mem (i := 13) (v := .pointer (some ⟨V2.heap.size, 0, none⟩)) (w' := V3) (some 5) rfl rfl rfl (by rw [hV3]; go_simp) ?_
      refine ⟨SV3, ?_⟩
      have T1 : Below w1.heap.size w1 (V3.setRow (V2.heap.size) #[.int .i64 p, .slice ad ds.length cap, .slice am ms.length capm, .int .i64 p2, .slice ad2 ds2.length cap2, .slice am2 ms2.length capm2, .slice (some ⟨w1.drew.heap.size, 0, none⟩) N N, .map (some (V1.heap.size))]) := below_setRow SV3 (by omega) _
      refine held_one (i := 14) (by kernel_rfl) ?_
      refine op_row (i := 14) rfl rfl rfl 110 (.tmp 5) (.tmp 23) rfl (V2.heap.size) #[.int .i64 p, .slice ad ds.length cap, .slice am ms.length capm, .int .i64 p2, .slice ad2 ds2.length cap2, .slice am2 ms2.length capm2, .slice (some ⟨w1.drew.heap.size, 0, none⟩) N N, .map (some (V1.heap.size))] (by kernel_rfl) (by kernel_rfl) 110 _ hR2 (infoTs _ _ _ _ _ _ _ _) (by kernel_rfl) (by kernel_rfl) ?_
      refine ⟨T1, ?_⟩
      refine wpAnyH_done (by kernel_rfl) ?_ _
      simp only [Act.put, List.setIfInBounds_toArray, List.set_cons_zero, List.set_cons_succ]
      obtain ⟨W4, hW4⟩ : ∃ W4, W4 = (V3.setRow (V2.heap.size) #[.int .i64 p, .slice ad ds.length cap, .slice am ms.length capm, .int .i64 p2, .slice ad2 ds2.length cap2, .slice am2 ms2.length capm2, .slice (some ⟨w1.drew.heap.size, 0, none⟩) N N, .map (some (V1.heap.size))]) := ⟨_, rfl⟩
      obtain ⟨T5, hT5⟩ : ∃ g, g = V2.heap.size := ⟨_, rfl⟩
      obtain ⟨G, hG⟩ : ∃ g, g = w1.drew.heap.size := ⟨_, rfl⟩
      obtain ⟨mb, hmb⟩ : ∃ g, g = V1.heap.size := ⟨_, rfl⟩
      have HB4 := Lib.hid T1
      have HT4 := Lib.hid (hR2.set #[.int .i64 p, .slice ad ds.length cap, .slice am ms.length capm, .int .i64 p2, .slice ad2 ds2.length cap2, .slice am2 ms2.length capm2, .slice (some ⟨w1.drew.heap.size, 0, none⟩) N N, .map (some (V1.heap.size))])
      have HG4 := Lib.hid (hS2.of_block (setRow_other V3 (V2.heap.size) (w1.drew.heap.size) #[.int .i64 p, .slice ad ds.length cap, .slice am ms.length capm, .int .i64 p2, .slice ad2 ds2.length cap2, .slice am2 ms2.length capm2, .slice (some ⟨w1.drew.heap.size, 0, none⟩) N N, .map (some (V1.heap.size))] (by omega)))
      have HM4 := Lib.hid (hM2.block (setRow_other V3 (V2.heap.size) (V1.heap.size) #[.int .i64 p, .slice ad ds.length cap, .slice am ms.length capm, .int .i64 p2, .slice ad2 ds2.length cap2, .slice am2 ms2.length capm2, .slice (some ⟨w1.drew.heap.size, 0, none⟩) N N, .map (some (V1.heap.size))] (by omega)))
      have HN4 : Hid ((w1.heap.size ≤ T5 ∧ w1.heap.size ≤ G ∧ w1.heap.size ≤ mb) ∧ T5 ≠ G ∧ T5 ≠ mb ∧ G ≠ mb) := Lib.hid (by omega)
      rw [← hW4] at HB4 HT4 HG4 HM4 ⊢
      rw [← hT5] at HT4 ⊢
      rw [← hG] at HT4 HG4 ⊢
      rw [← hmb] at HT4 HM4 ⊢
      clear hW4 hT5 hG hmb T1 hmk S0 hd0 hV1 hV2 hV3 hbV1 hbV2 hbV3 hzV1 hzV2 hzV3 SV1 SV2 SV3
    case' oSx13 =>
      obtain ⟨V2, hV2⟩ : ∃ W', W' = V1.alloc (.cells #[.int .i64 0, .slice none 0 0, .slice none 0 0, .int .i64 0, .slice none 0 0, .slice none 0 0, .slice none 0 0, .map none] 110) := ⟨_, rfl⟩
      have hbV2 : Below V1.heap.size V1 V2 := by rw [hV2]; exact below_alloc1 _ _
      have hzV2 : V2.heap.size = V1.heap.size + 1 := by rw [hV2]; simp
      have SV2 : Below w1.heap.size w1 V2 := SV1.trans (hbV2.mono SV1.size)
      have hS1 := hS0.of_block (hbV2.block _ hS0.lt)
      have hR1 : Rz V2 V1.heap.size 110 #[.int .i64 0, .slice none 0 0, .slice none 0 0, .int .i64 0, .slice none 0 0, .slice none 0 0, .slice none 0 0, .map none] := by rw [hV2]; exact Rz.new _ _ _
      refine op_mem (i := 13) (v := .pointer (some ⟨V1.heap.size, 0, none⟩)) (w' := V2) (some 5) rfl rfl rfl (by rw [hV2]; go_simp) ?_
      refine ⟨SV2, ?_⟩
      refine held_one (i := 11) (by kernel_rfl) ?_
      obtain ⟨V3, hV3⟩ : ∃ W', W' = V2.alloc (.map #[] 0) := ⟨_, rfl⟩
      have hbV3 : Below V2.heap.size V2 V3 := by rw [hV3]; exact below_alloc1 _ _
      have hzV3 : V3.heap.size = V2.heap.size + 1 := by rw [hV3]; simp
      have SV3 : Below w1.heap.size w1 V3 := SV2.trans (hbV3.mono SV2.size)
      have hS2 := hS1.of_block (hbV3.block _ hS1.lt)
      have hR2 := hR1.next hbV3
      have hM2 : Pl V3 V2.heap.size 0 [] := by rw [hV3]; exact Pl.made _
      refine op_mem (i := 11) (v := .map (some V2.heap.size)) (w' := V3) (some 22) rfl rfl rfl (by rw [hV3]; rfl) ?_
      refine ⟨SV3, ?_⟩
      refine held_take (i := 12) (v := .agg #[.int .i64 p, .slice ad ds.length cap, .slice am ms.length capm, .int .i64 p2, .slice ad2 ds2.length cap2, .slice am2 ms2.length capm2, .slice (some ⟨w1.drew.heap.size, 0, none⟩) N N, .map (some (V2.heap.size))]) (some 23) rfl rfl (by kernel_rfl) (by kernel_rfl) (by kernel_rfl) (fun _ _ _ h => h) (yieldsIf_run (by kernel_rfl) (fun W _ => by kernel_rfl)) SV3 ?_
      have T1 : Below w1.heap.size w1 (V3.setRow (V1.heap.size) #[.int .i64 p, .slice ad ds.length cap, .slice am ms.length capm, .int .i64 p2, .slice ad2 ds2.length cap2, .slice am2 ms2.length capm2, .slice (some ⟨w1.drew.heap.size, 0, none⟩) N N, .map (some (V2.heap.size))]) := below_setRow SV3 (by omega) _
      refine held_one (i := 14) (by kernel_rfl) ?_
      refine op_row (i := 14) rfl rfl rfl 110 (.tmp 5) (.tmp 23) rfl (V1.heap.size) #[.int .i64 p, .slice ad ds.length cap, .slice am ms.length capm, .int .i64 p2, .slice ad2 ds2.length cap2, .slice am2 ms2.length capm2, .slice (some ⟨w1.drew.heap.size, 0, none⟩) N N, .map (some (V2.heap.size))] (by kernel_rfl) (by kernel_rfl) 110 _ hR2 (infoTs _ _ _ _ _ _ _ _) (by kernel_rfl) (by kernel_rfl) ?_
      refine ⟨T1, ?_⟩
      refine wpAnyH_done (by kernel_rfl) ?_ _
      simp only [Act.put, List.setIfInBounds_toArray, List.set_cons_zero, List.set_cons_succ]
      obtain ⟨W4, hW4⟩ : ∃ W4, W4 = (V3.setRow (V1.heap.size) #[.int .i64 p, .slice ad ds.length cap, .slice am ms.length capm, .int .i64 p2, .slice ad2 ds2.length cap2, .slice am2 ms2.length capm2, .slice (some ⟨w1.drew.heap.size, 0, none⟩) N N, .map (some (V2.heap.size))]) := ⟨_, rfl⟩
      obtain ⟨T5, hT5⟩ : ∃ g, g = V1.heap.size := ⟨_, rfl⟩
      obtain ⟨G, hG⟩ : ∃ g, g = w1.drew.heap.size := ⟨_, rfl⟩
      obtain ⟨mb, hmb⟩ : ∃ g, g = V2.heap.size := ⟨_, rfl⟩
      have HB4 := Lib.hid T1
      have HT4 := Lib.hid (hR2.set #[.int .i64 p, .slice ad ds.length cap, .slice am ms.length capm, .int .i64 p2, .slice ad2 ds2.length cap2, .slice am2 ms2.length capm2, .slice (some ⟨w1.drew.heap.size, 0, none⟩) N N, .map (some (V2.heap.size))])
      have HG4 := Lib.hid (hS2.of_block (setRow_other V3 (V1.heap.size) (w1.drew.heap.size) #[.int .i64 p, .slice ad ds.length cap, .slice am ms.length capm, .int .i64 p2, .slice ad2 ds2.length cap2, .slice am2 ms2.length capm2, .slice (some ⟨w1.drew.heap.size, 0, none⟩) N N, .map (some (V2.heap.size))] (by omega)))
      have HM4 := Lib.hid (hM2.block (setRow_other V3 (V1.heap.size) (V2.heap.size) #[.int .i64 p, .slice ad ds.length cap, .slice am ms.length capm, .int .i64 p2, .slice ad2 ds2.length cap2, .slice am2 ms2.length capm2, .slice (some ⟨w1.drew.heap.size, 0, none⟩) N N, .map (some (V2.heap.size))] (by omega)))
      have HN4 : Hid ((w1.heap.size ≤ T5 ∧ w1.heap.size ≤ G ∧ w1.heap.size ≤ mb) ∧ T5 ≠ G ∧ T5 ≠ mb ∧ G ≠ mb) := Lib.hid (by omega)
      rw [← hW4] at HB4 HT4 HG4 HM4 ⊢
      rw [← hT5] at HT4 ⊢
      rw [← hG] at HT4 HG4 ⊢
      rw [← hmb] at HT4 HM4 ⊢
      clear hW4 hT5 hG hmb T1 hmk S0 hd0 hV1 hV2 hV3 hbV1 hbV2 hbV3 hzV1 hzV2 hzV3 SV1 SV2 SV3
  case' ox11 =>
    obtain ⟨V1, hV1⟩ : ∃ W', W' = w1.drew.alloc (.map #[] 0) := ⟨_, rfl⟩
    have hbV1 : Below w1.drew.heap.size w1.drew V1 := by rw [hV1]; exact below_alloc1 _ _
    have hzV1 : V1.heap.size = w1.drew.heap.size + 1 := by rw [hV1]; simp
    have SV1 : Below w1.heap.size w1 V1 := S0.trans (hbV1.mono S0.size)
    have hM0 : Pl V1 w1.drew.heap.size 0 [] := by rw [hV1]; exact Pl.made _
    refine op_mem (i := 11) (v := .map (some w1.drew.heap.size)) (w' := V1) (some 22) rfl rfl rfl (by rw [hV1]; rfl) ?_
    refine ⟨SV1, ?_⟩
    refine held_two (i := 10) (j := 13) (by kernel_rfl) ?oMx10 ?oMx13
    case' oMx10 =>
      obtain ⟨V2, hV2⟩ : ∃ W', W' = V1.alloc (.cells (madeCells #[.slice none 0 0] N) 149) := ⟨_, rfl⟩
      have hbV2 : Below V1.heap.size V1 V2 := by rw [hV2]; exact below_alloc1 _ _
      have hzV2 : V2.heap.size = V1.heap.size + 1 := by rw [hV2]; simp
      have SV2 : Below w1.heap.size w1 V2 := SV1.trans (hbV2.mono SV1.size)
      have hM1 := hM0.below hbV2
      have hS1 : V2.rowIs V1.heap.size 149 N (fun _ => .slice none 0 0) := by rw [hV2]; exact World.rowIs_made V1 _ _ _
      refine op_make (i := 10) (v := .slice (some ⟨V1.heap.size, 0, none⟩) N N) (w' := V2) (x := .int .i64 (N : Int)) (y := .int .i64 (N : Int)) (some 21) 107 (.tmp 20) (.tmp 20) rfl rfl rfl rfl (by kernel_rfl) (by kernel_rfl) (by rw [hV2]; exact hmk _) ?_
      refine ⟨SV2, ?_⟩
      refine held_take (i := 12) (v := .agg #[.int .i64 p, .slice ad ds.length cap, .slice am ms.length capm, .int .i64 p2, .slice ad2 ds2.length cap2, .slice am2 ms2.length capm2, .slice (some ⟨V1.heap.size, 0, none⟩) N N, .map (some (w1.drew.heap.size))]) (some 23) rfl rfl (by kernel_rfl) (by kernel_rfl) (by kernel_rfl) (fun _ _ _ h => h) (yieldsIf_run (by kernel_rfl) (fun W _ => by kernel_rfl)) SV2 ?_
      refine held_one (i := 13) (by kernel_rfl) ?_
      obtain ⟨V3, hV3⟩ : ∃ W', W' = V2.alloc (.cells #[.int .i64 0, .slice none 0 0, .slice none 0 0, .int .i64 0, .slice none 0 0, .slice none 0 0, .slice none 0 0, .map none] 110) := ⟨_, rfl⟩
      have hbV3 : Below V2.heap.size V2 V3 := by rw [hV3]; exact below_alloc1 _ _
      have hzV3 : V3.heap.size = V2.heap.size + 1 := by rw [hV3]; simp
      have SV3 : Below w1.heap.size w1 V3 := SV2.trans (hbV3.mono SV2.size)
      have hM2 := hM1.below hbV3
      have hS2 := hS1.of_block (hbV3.block _ hS1.lt)
      have hR2 : Rz V3 V2.heap.size 110 #[.int .i64 0, .slice none 0 0, .slice none 0 0, .int .i64 0, .slice none 0 0, .slice none 0 0, .slice none 0 0, .map none] := by rw [hV3]; exact Rz.new _ _ _
      refine op_mem (i := 13) (v := .pointer (some ⟨V2.heap.size, 0, none⟩)) (w' := V3) (some 5) rfl rfl rfl (by rw [hV3]; go_simp) ?_
      refine ⟨SV3, ?_⟩
      have T1 : Below w1.heap.size w1 (V3.setRow (V2.heap.size) #[.int .i64 p, .slice ad ds.length cap, .slice am ms.length capm, .int .i64 p2, .slice ad2 ds2.length cap2, .slice am2 ms2.length capm2, .slice (some ⟨V1.heap.size, 0, none⟩) N N, .map (some (w1.drew.heap.size))]) := below_setRow SV3 (by omega) _
      refine held_one (i := 14) (by kernel_rfl) ?_
      refine op_row (i := 14) rfl rfl rfl 110 (.tmp 5) (.tmp 23) rfl (V2.heap.size) #[.int .i64 p, .slice ad ds.length cap, .slice am ms.length capm, .int .i64 p2, .slice ad2 ds2.length cap2, .slice am2 ms2.length capm2, .slice (some ⟨V1.heap.size, 0, none⟩) N N, .map (some (w1.drew.heap.size))] (by kernel_rfl) (by kernel_rfl) 110 _ hR2 (infoTs _ _ _ _ _ _ _ _) (by kernel_rfl) (by kernel_rfl) ?_
      refine ⟨T1, ?_⟩
      refine wpAnyH_done (by kernel_rfl) ?_ _
      simp only [Act.put, List.setIfInBounds_toArray, List.set_cons_zero, List.set_cons_succ]
      obtain ⟨W4, hW4⟩ : ∃ W4, W4 = (V3.setRow (V2.heap.size) #[.int .i64 p, .slice ad ds.length cap, .slice am ms.length capm, .int .i64 p2, .slice ad2 ds2.length cap2, .slice am2 ms2.length capm2, .slice (some ⟨V1.heap.size, 0, none⟩) N N, .map (some (w1.drew.heap.size))]) := ⟨_, rfl⟩
      obtain ⟨T5, hT5⟩ : ∃ g, g = V2.heap.size := ⟨_, rfl⟩
      obtain ⟨G, hG⟩ : ∃ g, g = V1.heap.size := ⟨_, rfl⟩
      obtain ⟨mb, hmb⟩ : ∃ g, g = w1.drew.heap.size := ⟨_, rfl⟩
      have HB4 := Lib.hid T1
      have HT4 := Lib.hid (hR2.set #[.int .i64 p, .slice ad ds.length cap, .slice am ms.length capm, .int .i64 p2, .slice ad2 ds2.length cap2, .slice am2 ms2.length capm2, .slice (some ⟨V1.heap.size, 0, none⟩) N N, .map (some (w1.drew.heap.size))])
      have HG4 := Lib.hid (hS2.of_block (setRow_other V3 (V2.heap.size) (V1.heap.size) #[.int .i64 p, .slice ad ds.length cap, .slice am ms.length capm, .int .i64 p2, .slice ad2 ds2.length cap2, .slice am2 ms2.length capm2, .slice (some ⟨V1.heap.size, 0, none⟩) N N, .map (some (w1.drew.heap.size))] (by omega)))
      have HM4 := Lib.hid (hM2.block (setRow_other V3 (V2.heap.size) (w1.drew.heap.size) #[.int .i64 p, .slice ad ds.length cap, .slice am ms.length capm, .int .i64 p2, .slice ad2 ds2.length cap2, .slice am2 ms2.length capm2, .slice (some ⟨V1.heap.size, 0, none⟩) N N, .map (some (w1.drew.heap.size))] (by omega)))
      have HN4 : Hid ((w1.heap.size ≤ T5 ∧ w1.heap.size ≤ G ∧ w1.heap.size ≤ mb) ∧ T5 ≠ G ∧ T5 ≠ mb ∧ G ≠ mb) := Lib.hid (by omega)
      rw [← hW4] at HB4 HT4 HG4 HM4 ⊢
      rw [← hT5] at HT4 ⊢
      rw [← hG] at HT4 HG4 ⊢
      rw [← hmb] at HT4 HM4 ⊢
      clear hW4 hT5 hG hmb T1 hmk S0 hd0 hV1 hV2 hV3 hbV1 hbV2 hbV3 hzV1 hzV2 hzV3 SV1 SV2 SV3
    case' oMx13 =>
      obtain ⟨V2, hV2⟩ : ∃ W', W' = V1.alloc (.cells #[.int .i64 0, .slice none 0 0, .slice none 0 0, .int .i64 0, .slice none 0 0, .slice none 0 0, .slice none 0 0, .map none] 110) := ⟨_, rfl⟩
      have hbV2 : Below V1.heap.size V1 V2 := by rw [hV2]; exact below_alloc1 _ _
      have hzV2 : V2.heap.size = V1.heap.size + 1 := by rw [hV2]; simp
      have SV2 : Below w1.heap.size w1 V2 := SV1.trans (hbV2.mono SV1.size)
      have hM1 := hM0.below hbV2
      have hR1 : Rz V2 V1.heap.size 110 #[.int .i64 0, .slice none 0 0, .slice none 0 0, .int .i64 0, .slice none 0 0, .slice none 0 0, .slice none 0 0, .map none] := by rw [hV2]; exact Rz.new _ _ _
      refine op_mem (i := 13) (v := .pointer (some ⟨V1.heap.size, 0, none⟩)) (w' := V2) (some 5) rfl rfl rfl (by rw [hV2]; go_simp) ?_
      refine ⟨SV2, ?_⟩
      refine held_one (i := 10) (by kernel_rfl) ?_
      obtain ⟨V3, hV3⟩ : ∃ W', W' = V2.alloc (.cells (madeCells #[.slice none 0 0] N) 149) := ⟨_, rfl⟩
      have hbV3 : Below V2.heap.size V2 V3 := by rw [hV3]; exact below_alloc1 _ _
      have hzV3 : V3.heap.size = V2.heap.size + 1 := by rw [hV3]; simp
      have SV3 : Below w1.heap.size w1 V3 := SV2.trans (hbV3.mono SV2.size)
      have hM2 := hM1.below hbV3
      have hR2 := hR1.next hbV3
      have hS2 : V3.rowIs V2.heap.size 149 N (fun _ => .slice none 0 0) := by rw [hV3]; exact World.rowIs_made V2 _ _ _
      refine op_make (i := 10) (v := .slice (some ⟨V2.heap.size, 0, none⟩) N N) (w' := V3) (x := .int .i64 (N : Int)) (y := .int .i64 (N : Int)) (some 21) 107 (.tmp 20) (.tmp 20) rfl rfl rfl rfl (by kernel_rfl) (by kernel_rfl) (by rw [hV3]; exact hmk _) ?_
      refine ⟨SV3, ?_⟩
      refine held_take (i := 12) (v := .agg #[.int .i64 p, .slice ad ds.length cap, .slice am ms.length capm, .int .i64 p2, .slice ad2 ds2.length cap2, .slice am2 ms2.length capm2, .slice (some ⟨V2.heap.size, 0, none⟩) N N, .map (some (w1.drew.heap.size))]) (some 23) rfl rfl (by kernel_rfl) (by kernel_rfl) (by kernel_rfl) (fun _ _ _ h => h) (yieldsIf_run (by kernel_rfl) (fun W _ => by kernel_rfl)) SV3 ?_
      have T1 : Below w1.heap.size w1 (V3.setRow (V1.heap.size) #[.int .i64 p, .slice ad ds.length cap, .slice am ms.length capm, .int .i64 p2, .slice ad2 ds2.length cap2, .slice am2 ms2.length capm2, .slice (some ⟨V2.heap.size, 0, none⟩) N N, .map (some (w1.drew.heap.size))]) := below_setRow SV3 (by omega) _
      refine held_one (i := 14) (by kernel_rfl) ?_
      refine op_row (i := 14) rfl rfl rfl 110 (.tmp 5) (.tmp 23) rfl (V1.heap.size) #[.int .i64 p, .slice ad ds.length cap, .slice am ms.length capm, .int .i64 p2, .slice ad2 ds2.length cap2, .slice am2 ms2.length capm2, .slice (some ⟨V2.heap.size, 0, none⟩) N N, .map (some (w1.drew.heap.size))] (by kernel_rfl) (by kernel_rfl) 110 _ hR2 (infoTs _ _ _ _ _ _ _ _) (by kernel_rfl) (by kernel_rfl) ?_
      refine ⟨T1, ?_⟩
      refine wpAnyH_done (by kernel_rfl) ?_ _
      simp only [Act.put, List.setIfInBounds_toArray, List.set_cons_zero, List.set_cons_succ]
      obtain ⟨W4, hW4⟩ : ∃ W4, W4 = (V3.setRow (V1.heap.size) #[.int .i64 p, .slice ad ds.length cap, .slice am ms.length capm, .int .i64 p2, .slice ad2 ds2.length cap2, .slice am2 ms2.length capm2, .slice (some ⟨V2.heap.size, 0, none⟩) N N, .map (some (w1.drew.heap.size))]) := ⟨_, rfl⟩
      obtain ⟨T5, hT5⟩ : ∃ g, g = V1.heap.size := ⟨_, rfl⟩
      obtain ⟨G, hG⟩ : ∃ g, g = V2.heap.size := ⟨_, rfl⟩
      obtain ⟨mb, hmb⟩ : ∃ g, g = w1.drew.heap.size := ⟨_, rfl⟩
      have HB4 := Lib.hid T1
      have HT4 := Lib.hid (hR2.set #[.int .i64 p, .slice ad ds.length cap, .slice am ms.length capm, .int .i64 p2, .slice ad2 ds2.length cap2, .slice am2 ms2.length capm2, .slice (some ⟨V2.heap.size, 0, none⟩) N N, .map (some (w1.drew.heap.size))])
      have HG4 := Lib.hid (hS2.of_block (setRow_other V3 (V1.heap.size) (V2.heap.size) #[.int .i64 p, .slice ad ds.length cap, .slice am ms.length capm, .int .i64 p2, .slice ad2 ds2.length cap2, .slice am2 ms2.length capm2, .slice (some ⟨V2.heap.size, 0, none⟩) N N, .map (some (w1.drew.heap.size))] (by omega)))
      have HM4 := Lib.hid (hM2.block (setRow_other V3 (V1.heap.size) (w1.drew.heap.size) #[.int .i64 p, .slice ad ds.length cap, .slice am ms.length capm, .int .i64 p2, .slice ad2 ds2.length cap2, .slice am2 ms2.length capm2, .slice (some ⟨V2.heap.size, 0, none⟩) N N, .map (some (w1.drew.heap.size))] (by omega)))
      have HN4 : Hid ((w1.heap.size ≤ T5 ∧ w1.heap.size ≤ G ∧ w1.heap.size ≤ mb) ∧ T5 ≠ G ∧ T5 ≠ mb ∧ G ≠ mb) := Lib.hid (by omega)
      rw [← hW4] at HB4 HT4 HG4 HM4 ⊢
      rw [← hT5] at HT4 ⊢
      rw [← hG] at HT4 HG4 ⊢
      rw [← hmb] at HT4 HM4 ⊢
      clear hW4 hT5 hG hmb T1 hmk S0 hd0 hV1 hV2 hV3 hbV1 hbV2 hbV3 hzV1 hzV2 hzV3 SV1 SV2 SV3
  case' ox13 =>
    obtain ⟨V1, hV1⟩ : ∃ W', W' = w1.drew.alloc (.cells #[.int .i64 0, .slice none 0 0, .slice none 0 0, .int .i64 0, .slice none 0 0, .slice none 0 0, .slice none 0 0, .map none] 110) := ⟨_, rfl⟩
    have hbV1 : Below w1.drew.heap.size w1.drew V1 := by rw [hV1]; exact below_alloc1 _ _
    have hzV1 : V1.heap.size = w1.drew.heap.size + 1 := by rw [hV1]; simp
    have SV1 : Below w1.heap.size w1 V1 := S0.trans (hbV1.mono S0.size)
    have hR0 : Rz V1 w1.drew.heap.size 110 #[.int .i64 0, .slice none 0 0, .slice none 0 0, .int .i64 0, .slice none 0 0, .slice none 0 0, .slice none 0 0, .map none] := by rw [hV1]; exact Rz.new _ _ _
    refine op_mem (i := 13) (v := .pointer (some ⟨w1.drew.heap.size, 0, none⟩)) (w' := V1) (some 5) rfl rfl rfl (by rw [hV1]; go_simp) ?_
    refine ⟨SV1, ?_⟩
    refine held_two (i := 10) (j := 11) (by kernel_rfl) ?oRx10 ?oRx11
    case' oRx10 =>
      obtain ⟨V2, hV2⟩ : ∃ W', W' = V1.alloc (.cells (madeCells #[.slice none 0 0] N) 149) := ⟨_, rfl⟩
      have hbV2 : Below V1.heap.size V1 V2 := by rw [hV2]; exact below_alloc1 _ _
      have hzV2 : V2.heap.size = V1.heap.size + 1 := by rw [hV2]; simp
      have SV2 : Below w1.heap.size w1 V2 := SV1.trans (hbV2.mono SV1.size)
      have hR1 := hR0.next hbV2
      have hS1 : V2.rowIs V1.heap.size 149 N (fun _ => .slice none 0 0) := by rw [hV2]; exact World.rowIs_made V1 _ _ _
      refine op_make (i := 10) (v := .slice (some ⟨V1.heap.size, 0, none⟩) N N) (w' := V2) (x := .int .i64 (N : Int)) (y := .int .i64 (N : Int)) (some 21) 107 (.tmp 20) (.tmp 20) rfl rfl rfl rfl (by kernel_rfl) (by kernel_rfl) (by rw [hV2]; exact hmk _) ?_
      refine ⟨SV2, ?_⟩
      refine held_one (i := 11) (by kernel_rfl) ?_
      obtain ⟨V3, hV3⟩ : ∃ W', W' = V2.alloc (.map #[] 0) := ⟨_, rfl⟩
      have hbV3 : Below V2.heap.size V2 V3 := by rw [hV3]; exact below_alloc1 _ _
      have hzV3 : V3.heap.size = V2.heap.size + 1 := by rw [hV3]; simp
      have SV3 : Below w1.heap.size w1 V3 := SV2.trans (hbV3.mono SV2.size)
      have hR2 := hR1.next hbV3
      have hS2 := hS1.of_block (hbV3.block _ hS1.lt)
      have hM2 : Pl V3 V2.heap.size 0 [] := by rw [hV3]; exact Pl.made _
      refine op_mem (i := 11) (v := .map (some V2.heap.size)) (w' := V3) (some 22) rfl rfl rfl (by rw [hV3]; rfl) ?_
      refine ⟨SV3, ?_⟩
      refine held_take (i := 12) (v := .agg #[.int .i64 p, .slice ad ds.length cap, .slice am ms.length capm, .int .i64 p2, .slice ad2 ds2.length cap2, .slice am2 ms2.length capm2, .slice (some ⟨V1.heap.size, 0, none⟩) N N, .map (some (V2.heap.size))]) (some 23) rfl rfl (by kernel_rfl) (by kernel_rfl) (by kernel_rfl) (fun _ _ _ h => h) (yieldsIf_run (by kernel_rfl) (fun W _ => by kernel_rfl)) SV3 ?_
      have T1 : Below w1.heap.size w1 (V3.setRow (w1.drew.heap.size) #[.int .i64 p, .slice ad ds.length cap, .slice am ms.length capm, .int .i64 p2, .slice ad2 ds2.length cap2, .slice am2 ms2.length capm2, .slice (some ⟨V1.heap.size, 0, none⟩) N N, .map (some (V2.heap.size))]) := below_setRow SV3 (by omega) _
      refine held_one (i := 14) (by kernel_rfl) ?_
      refine op_row (i := 14) rfl rfl rfl 110 (.tmp 5) (.tmp 23) rfl (w1.drew.heap.size) #[.int .i64 p, .slice ad ds.length cap, .slice am ms.length capm, .int .i64 p2, .slice ad2 ds2.length cap2, .slice am2 ms2.length capm2, .slice (some ⟨V1.heap.size, 0, none⟩) N N, .map (some (V2.heap.size))] (by kernel_rfl) (by kernel_rfl) 110 _ hR2 (infoTs _ _ _ _ _ _ _ _) (by kernel_rfl) (by kernel_rfl) ?_
      refine ⟨T1, ?_⟩
      refine wpAnyH_done (by kernel_rfl) ?_ _
      simp only [Act.put, List.setIfInBounds_toArray, List.set_cons_zero, List.set_cons_succ]
      obtain ⟨W4, hW4⟩ : ∃ W4, W4 = (V3.setRow (w1.drew.heap.size) #[.int .i64 p, .slice ad ds.length cap, .slice am ms.length capm, .int .i64 p2, .slice ad2 ds2.length cap2, .slice am2 ms2.length capm2, .slice (some ⟨V1.heap.size, 0, none⟩) N N, .map (some (V2.heap.size))]) := ⟨_, rfl⟩
      obtain ⟨T5, hT5⟩ : ∃ g, g = w1.drew.heap.size := ⟨_, rfl⟩
      obtain ⟨G, hG⟩ : ∃ g, g = V1.heap.size := ⟨_, rfl⟩
      obtain ⟨mb, hmb⟩ : ∃ g, g = V2.heap.size := ⟨_, rfl⟩
      have HB4 := Lib.hid T1
      have HT4 := Lib.hid (hR2.set #[.int .i64 p, .slice ad ds.length cap, .slice am ms.length capm, .int .i64 p2, .slice ad2 ds2.length cap2, .slice am2 ms2.length capm2, .slice (some ⟨V1.heap.size, 0, none⟩) N N, .map (some (V2.heap.size))])
      have HG4 := Lib.hid (hS2.of_block (setRow_other V3 (w1.drew.heap.size) (V1.heap.size) #[.int .i64 p, .slice ad ds.length cap, .slice am ms.length capm, .int .i64 p2, .slice ad2 ds2.length cap2, .slice am2 ms2.length capm2, .slice (some ⟨V1.heap.size, 0, none⟩) N N, .map (some (V2.heap.size))] (by omega)))
      have HM4 := Lib.hid (hM2.block (setRow_other V3 (w1.drew.heap.size) (V2.heap.size) #[.int .i64 p, .slice ad ds.length cap, .slice am ms.length capm, .int .i64 p2, .slice ad2 ds2.length cap2, .slice am2 ms2.length capm2, .slice (some ⟨V1.heap.size, 0, none⟩) N N, .map (some (V2.heap.size))] (by omega)))
      have HN4 : Hid ((w1.heap.size ≤ T5 ∧ w1.heap.size ≤ G ∧ w1.heap.size ≤ mb) ∧ T5 ≠ G ∧ T5 ≠ mb ∧ G ≠ mb) := Lib.hid (by omega)
      rw [← hW4] at HB4 HT4 HG4 HM4 ⊢
      rw [← hT5] at HT4 ⊢
      rw [← hG] at HT4 HG4 ⊢
      rw [← hmb] at HT4 HM4 ⊢
      clear hW4 hT5 hG hmb T1 hmk S0 hd0 hV1 hV2 hV3 hbV1 hbV2 hbV3 hzV1 hzV2 hzV3 SV1 SV2 SV3
    case' oRx11 =>
      obtain ⟨V2, hV2⟩ : ∃ W', W' = V1.alloc (.map #[] 0) := ⟨_, rfl⟩
      have hbV2 : Below V1.heap.size V1 V2 := by rw [hV2]; exact below_alloc1 _ _
      have hzV2 : V2.heap.size = V1.heap.size + 1 := by rw [hV2]; simp
      have SV2 : Below w1.heap.size w1 V2 := SV1.trans (hbV2.mono SV1.size)
      have hR1 := hR0.next hbV2
      have hM1 : Pl V2 V1.heap.size 0 [] := by rw [hV2]; exact Pl.made _
      refine op_mem (i := 11) (v := .map (some V1.heap.size)) (w' := V2) (some 22) rfl rfl rfl (by rw [hV2]; rfl) ?_
      refine ⟨SV2, ?_⟩
      refine held_one (i := 10) (by kernel_rfl) ?_
      obtain ⟨V3, hV3⟩ : ∃ W', W' = V2.alloc (.cells (madeCells #[.slice none 0 0] N) 149) := ⟨_, rfl⟩
      have hbV3 : Below V2.heap.size V2 V3 := by rw [hV3]; exact below_alloc1 _ _
      have hzV3 : V3.heap.size = V2.heap.size + 1 := by rw [hV3]; simp
      have SV3 : Below w1.heap.size w1 V3 := SV2.trans (hbV3.mono SV2.size)
      have hR2 := hR1.next hbV3
      have hM2 := hM1.below hbV3
      have hS2 : V3.rowIs V2.heap.size 149 N (fun _ => .slice none 0 0) := by rw [hV3]; exact World.rowIs_made V2 _ _ _
      refine op_make (i := 10) (v := .slice (some ⟨V2.heap.size, 0, none⟩) N N) (w' := V3) (x := .int .i64 (N : Int)) (y := .int .i64 (N : Int)) (some 21) 107 (.tmp 20) (.tmp 20) rfl rfl rfl rfl (by kernel_rfl) (by kernel_rfl) (by rw [hV3]; exact hmk _) ?_
      refine ⟨SV3, ?_⟩
      refine held_take (i := 12) (v := .agg #[.int .i64 p, .slice ad ds.length cap, .slice am ms.length capm, .int .i64 p2, .slice ad2 ds2.length cap2, .slice am2 ms2.length capm2, .slice (some ⟨V2.heap.size, 0, none⟩) N N, .map (some (V1.heap.size))]) (some 23) rfl rfl (by kernel_rfl) (by kernel_rfl) (by kernel_rfl) (fun _ _ _ h => h) (yieldsIf_run (by kernel_rfl) (fun W _ => by kernel_rfl)) SV3 ?_
      have T1 : Below w1.heap.size w1 (V3.setRow (w1.drew.heap.size) #[.int .i64 p, .slice ad ds.length cap, .slice am ms.length capm, .int .i64 p2, .slice ad2 ds2.length cap2, .slice am2 ms2.length capm2, .slice (some ⟨V2.heap.size, 0, none⟩) N N, .map (some (V1.heap.size))]) := below_setRow SV3 (by omega) _
      refine held_one (i := 14) (by kernel_rfl) ?_
      refine op_row (i := 14) rfl rfl rfl 110 (.tmp 5) (.tmp 23) rfl (w1.drew.heap.size) #[.int .i64 p, .slice ad ds.length cap, .slice am ms.length capm, .int .i64 p2, .slice ad2 ds2.length cap2, .slice am2 ms2.length capm2, .slice (some ⟨V2.heap.size, 0, none⟩) N N, .map (some (V1.heap.size))] (by kernel_rfl) (by kernel_rfl) 110 _ hR2 (infoTs _ _ _ _ _ _ _ _) (by kernel_rfl) (by kernel_rfl) ?_
      refine ⟨T1, ?_⟩
      refine wpAnyH_done (by kernel_rfl) ?_ _
      simp only [Act.put, List.setIfInBounds_toArray, List.set_cons_zero, List.set_cons_succ]
      obtain ⟨W4, hW4⟩ : ∃ W4, W4 = (V3.setRow (w1.drew.heap.size) #[.int .i64 p, .slice ad ds.length cap, .slice am ms.length capm, .int .i64 p2, .slice ad2 ds2.length cap2, .slice am2 ms2.length capm2, .slice (some ⟨V2.heap.size, 0, none⟩) N N, .map (some (V1.heap.size))]) := ⟨_, rfl⟩
      obtain ⟨T5, hT5⟩ : ∃ g, g = w1.drew.heap.size := ⟨_, rfl⟩
      obtain ⟨G, hG⟩ : ∃ g, g = V2.heap.size := ⟨_, rfl⟩
      obtain ⟨mb, hmb⟩ : ∃ g, g = V1.heap.size := ⟨_, rfl⟩
      have HB4 := Lib.hid T1
      have HT4 := Lib.hid (hR2.set #[.int .i64 p, .slice ad ds.length cap, .slice am ms.length capm, .int .i64 p2, .slice ad2 ds2.length cap2, .slice am2 ms2.length capm2, .slice (some ⟨V2.heap.size, 0, none⟩) N N, .map (some (V1.heap.size))])
      have HG4 := Lib.hid (hS2.of_block (setRow_other V3 (w1.drew.heap.size) (V2.heap.size) #[.int .i64 p, .slice ad ds.length cap, .slice am ms.length capm, .int .i64 p2, .slice ad2 ds2.length cap2, .slice am2 ms2.length capm2, .slice (some ⟨V2.heap.size, 0, none⟩) N N, .map (some (V1.heap.size))] (by omega)))
      have HM4 := Lib.hid (hM2.block (setRow_other V3 (w1.drew.heap.size) (V1.heap.size) #[.int .i64 p, .slice ad ds.length cap, .slice am ms.length capm, .int .i64 p2, .slice ad2 ds2.length cap2, .slice am2 ms2.length capm2, .slice (some ⟨V2.heap.size, 0, none⟩) N N, .map (some (V1.heap.size))] (by omega)))
      have HN4 : Hid ((w1.heap.size ≤ T5 ∧ w1.heap.size ≤ G ∧ w1.heap.size ≤ mb) ∧ T5 ≠ G ∧ T5 ≠ mb ∧ G ≠ mb) := Lib.hid (by omega)
      rw [← hW4] at HB4 HT4 HG4 HM4 ⊢
      rw [← hT5] at HT4 ⊢
      rw [← hG] at HT4 HG4 ⊢
      rw [← hmb] at HT4 HM4 ⊢
      clear hW4 hT5 hG hmb T1 hmk S0 hd0 hV1 hV2 hV3 hbV1 hbV2 hbV3 hzV1 hzV2 hzV3 SV1 SV2 SV3
  all_goals
    · obtain ⟨base, hbase⟩ : ∃ b, b = W4.heap.size := ⟨_, rfl⟩
      obtain ⟨cs, hcs⟩ : ∃ c : Array Value, c = #[.int .i64 p, .slice ad ds.length cap, .slice am ms.length capm, .int .i64 p2, .slice ad2 ds2.length cap2, .slice am2 ms2.length capm2, .slice (some ⟨G, 0, none⟩) N N, .map (some mb)] := ⟨_, rfl⟩
      rw [← hcs] at HT4
      have HCS := Lib.hid hcs
      have HI4 : Hid (TsI w1 W4 base T5 G N mb cs (fun _ => .slice none 0 0) []) := Lib.hid ⟨HB4.out, Nat.le_of_eq hbase, HT4.out, ⟨HG4.out, by rw [hbase]; exact HG4.out.lt, fun n _ => ⟨rfl, Or.inl ⟨rfl, rfl⟩⟩, fun m n _ _ _ k hk => by simp [Value.ownBlock] at hk⟩, HM4.out⟩
      have hT5b : T5 < base := by rw [hbase]; exact HT4.out.lt
      have hGb : G < base := by rw [hbase]; exact HG4.out.lt
      have hmbb : mb < base := by rw [hbase]; exact HM4.out.lt
      obtain ⟨⟨hn1, hn2, hn3⟩, hn4, hn5, hn6⟩ := HN4.out
      have h1b : w1.heap.size ≤ base := by omega
      obtain ⟨X, hX⟩ : ∃ X, X = bsL ds ds.length := ⟨_, rfl⟩
      obtain ⟨Y, hY⟩ : ∃ Y, Y = bsL ds2 ds2.length := ⟨_, rfl⟩
      have HX := Lib.hid hX
      have HY := Lib.hid hY
      have HXN : Hid X.Nodup := Lib.hid (by rw [hX]; exact bsL_nodup _ _)
      have HYN : Hid Y.Nodup := Lib.hid (by rw [hY]; exact bsL_nodup _ _)
      have hXl : X.length ≤ 48 := by rw [hX]; have := bsL_len HCX.out ds.length; omega
      have hYl : Y.length ≤ 48 := by rw [hY]; have := bsL_len HCY.out ds2.length; omega
      obtain ⟨nx, hnx⟩ : ∃ n, n = X.length := ⟨_, rfl⟩
      obtain ⟨ny, hny⟩ : ∃ n, n = Y.length := ⟨_, rfl⟩
      have HNX := Lib.hid hnx
      have HNY := Lib.hid hny
      rw [← hnx] at hXl
      rw [← hny] at hYl
      have HC4 : Hid (∀ W, Below W4.heap.size W4 W → Below w1.heap.size w1 W) := Lib.hid (fun W h => HB4.out.trans (h.mono HB4.out.size))
      have HBX := Lib.hid (basisOf_any p _ _ ds ms W4 (HC1.out W4 HB4.out).1.cx HCX.out)
      rw [← hX] at HBX
      have HMY : Hid (∀ W, Below w1.heap.size w1 W → Calls Try.prog 172 #[.agg #[.int .i64 p2, .slice ad2 ds2.length cap2, .slice am2 ms2.length capm2]] W (BsR Y W)) := Lib.hid (fun W h => by rw [HY.out]; exact basisOf_any p2 _ _ ds2 ms2 W (HC1.out W h).2.cx HCY.out)
      have x0 := (HC1.out W4 HB4.out).1.c0
      have x1 := (HC1.out W4 HB4.out).1.c1
      have x2 := (HC1.out W4 HB4.out).1.c2
      have hb4s : base ≤ W4.heap.size := HI4.out.bs
      clear hX hY hnx hny hcs hbase
      go_wp2_with fail
      refine HBX.out.mono ?_
      rintro e W5 ⟨sx, rfl, hox, hb5⟩
      have hox' := owns_mono hox (base' := base) (by omega)
      obtain ⟨ax, cx, hsx⟩ := hox.shape
      rw [← HNX.out] at hsx
      subst hsx
      have HOX5 : Hid (Ob base W5 (.slice ax nx cx) X) := Lib.hid hox'
      have HI5 := Lib.hid (HI4.out.next h1b hb5)
      clear hox hox' hb5 HBX x0 x1 x2
      go_wp2
      go_loopw [27] (fun i wr => ∃ (a : Nat) (f : Nat → Value), a ≤ nx ∧ i = .int .i64 a ∧ Hid (TsI w1 wr base T5 G N mb cs f (tsA X Y a)) ∧ Hid (Ob base wr (.slice ax nx cx) X)) (fun i _ => nx - (intOf i).toNat)
      case atStart => exact ⟨0, _, Nat.zero_le _, rfl, HI5, HOX5⟩
      case round =>
        obtain ⟨a, f0, ha, rfl, HI, HOX⟩ := hrel
        obtain ⟨wx, hwx⟩ : ∃ wx : World, wx = wr := ⟨_, rfl⟩
        subst hwx
        by_cases hlt : a < nx
        · have hla : a < X.length := by rw [← HNX.out]; exact hlt
          obtain ⟨gx, cx', e1, hgx, hgx2, u0, u1⟩ := HOX.out.at' hla
          rw [← HNX.out] at e1
          injection e1 with e2 e3 e4
          clear e3
          subst e2 e4
          obtain ⟨k0, c0, hu, hk0, hc0⟩ := bsL_mem (n := ds.length) (by rw [← HX.out]; exact List.getElem_mem hla)
          rw [hu] at u0 u1
          obtain ⟨wq, hwq⟩ : ∃ wq, wq = wx.alloc (.cells #[.int .i64 (k0 : Int), .int .i64 (c0 : Int)] 113) := ⟨_, rfl⟩
          have hbq : Below wx.heap.size wx wq := by rw [hwq]; exact below_alloc1 _ _
          have HR7 : Hid (Rz wq wx.heap.size 113 #[.int .i64 (k0 : Int), .int .i64 (c0 : Int)]) := Lib.hid (by rw [hwq]; exact Rz.new _ _ _)
          have HIQ := Lib.hid (HI.out.next h1b hbq)
          have HOXQ := Lib.hid (HOX.out.below hbq)
          have HBY := Lib.hid (HMY.out wq HIQ.out.below)
          obtain ⟨b7, hb7⟩ : ∃ b, b = wx.heap.size := ⟨_, rfl⟩
          have hb7b : base ≤ b7 := by rw [hb7]; exact HI.out.bs
          have HU := Lib.hid hu
          have hcc := (HC1.out wq HIQ.out.below).2
          have y0 := hcc.c0
          have y1 := hcc.c1
          have y2 := hcc.c2
          clear hu hbq hcc
          go_upto_region 5 with fail
          rw [← hwq]
          clear hwq u0 u1
          rw [← hb7] at HR7 ⊢
          clear hb7
          go_wp2_with fail
          refine HBY.out.mono ?_
          rintro e W6 ⟨sy, rfl, hoy, hb6⟩
          have hqb : base ≤ wq.heap.size := HIQ.out.bs
          have hoy' := owns_mono hoy (base' := base) (by omega)
          obtain ⟨ay, cy, hsy⟩ := hoy.shape
          rw [← HNY.out] at hsy
          subst hsy
          have HOY6 : Hid (Ob base W6 (.slice ay ny cy) Y) := Lib.hid hoy'
          have HI6 := Lib.hid (HIQ.out.next h1b hb6)
          have HOX6 := Lib.hid (HOXQ.out.below hb6)
          have HR76 := Lib.hid (HR7.out.next hb6)
          have HI6' : Hid (TsI w1 W6 base T5 G N mb cs f0 (tsB X Y a 0)) := Lib.hid (by rw [tsB_zero]; exact HI6.out)
          clear hoy hoy' hb6 HBY y0 y1 y2
          go_wp2
          go_loopw [34] (fun i wr => ∃ (b : Nat) (f : Nat → Value), b ≤ ny ∧ i = .int .i64 b ∧ Hid (TsI w1 wr base T5 G N mb cs f (tsB X Y a b)) ∧ Hid (Ob base wr (.slice (some ⟨gx, 0, none⟩) nx cx) X) ∧ Hid (Ob base wr (.slice ay ny cy) Y) ∧ Hid (Rz wr b7 113 #[.int .i64 (k0 : Int), .int .i64 (c0 : Int)])) (fun i _ => ny - (intOf i).toNat)
          case atStart => exact ⟨0, f0, Nat.zero_le _, rfl, HI6', HOX6, HOY6, HR76⟩
          case round =>
            obtain ⟨b, f, hb, rfl, HI, HOX, HOY, HR7⟩ := hrel
            obtain ⟨wy, hwy⟩ : ∃ wy : World, wy = wr := ⟨_, rfl⟩
            subst hwy
            by_cases hltb : b < ny
            · have hlb : b < Y.length := by rw [← HNY.out]; exact hltb
              obtain ⟨gy, cy', e1, hgy, hgy2, u0, u1⟩ := HOY.out.at' hlb
              rw [← HNY.out] at e1
              injection e1 with e2 e3 e4
              clear e3
              subst e2 e4
              obtain ⟨j0, d0, hu, hj0, hd0'⟩ := bsL_mem (n := ds2.length) (by rw [← HY.out]; exact List.getElem_mem hlb)
              rw [hu] at u0 u1
              obtain ⟨n, hn⟩ : ∃ n, n = k0 + j0 := ⟨_, rfl⟩
              have hnN : n < N := by have := HNE.out; omega
              have HDG : Hid (dg (((k0 : Int), (c0 : Int)), ((j0 : Int), (d0 : Int))) = (n : Int)) := Lib.hid (by simp only [dg]; omega)
              have HTE : Hid (tsB X Y a (b + 1) = tsB X Y a b ++ [(((k0 : Int), (c0 : Int)), ((j0 : Int), (d0 : Int)))]) := Lib.hid (by rw [tsB_succ X Y hla hlb, HU.out, hu])
              have HNW : Hid ((((k0 : Int), (c0 : Int)), ((j0 : Int), (d0 : Int))) ∉ tsB X Y a b) := Lib.hid (by have := tsB_new HXN.out HYN.out hla hlb; rwa [HU.out, hu] at this)
              have hdk := HCX.out.1.dim k0
              have hdj := HCY.out.1.dim j0
              have HWF : Hid (Wf4 (((k0 : Int), (c0 : Int)), ((j0 : Int), (d0 : Int)))) := Lib.hid ⟨small_wf (by simp only []; omega) (by simp only []; omega), small_wf (by simp only []; omega) (by simp only []; omega), small_wf (by simp only []; omega) (by simp only []; omega), small_wf (by simp only []; omega) (by simp only []; omega)⟩
              have HSL : Hid ((tsB X Y a b).length < maxLen) := Lib.hid (by have h1 := tsB_len X Y a b; rw [← HNX.out, ← HNY.out] at h1; have h2 : (nx + 1) * (ny + 1) ≤ 49 * 49 := Nat.mul_le_mul (by omega) (by omega); unfold maxLen; omega)
              obtain ⟨m, hm⟩ : ∃ m, m = (prF (tsB X Y a b) (n : Int)).length := ⟨_, rfl⟩
              have HM := Lib.hid hm
              have hm8 : m ≤ 1048576 := by rw [hm]; have h0 : (prF (tsB X Y a b) (n : Int)).length ≤ (tsB X Y a b).length := List.length_filter_le _ _; have h1 := tsB_len X Y a b; rw [← HNX.out, ← HNY.out] at h1; have h2 : (nx + 1) * (ny + 1) ≤ 49 * 49 := Nat.mul_le_mul (by omega) (by omega); omega
              obtain ⟨apr, cpr, hfn⟩ := HI.out.prs.shape hnN
              rw [← hm] at hfn
              have HFN := Lib.hid hfn
              obtain ⟨W7, hW7⟩ : ∃ W7, W7 = wy.alloc (.cells #[.int .i64 (j0 : Int), .int .i64 (d0 : Int)] 113) := ⟨_, rfl⟩
              have hb7y : Below wy.heap.size wy W7 := by rw [hW7]; exact below_alloc1 _ _
              obtain ⟨b9, hb9⟩ : ∃ b, b = wy.heap.size := ⟨_, rfl⟩
              have HR9 : Hid (Rz W7 b9 113 #[.int .i64 (j0 : Int), .int .i64 (d0 : Int)]) := Lib.hid (by rw [hW7, hb9]; exact Rz.new _ _ _)
              have hb9b : base ≤ b9 := by rw [hb9]; exact HI.out.bs
              have HI7 := Lib.hid (HI.out.next h1b hb7y)
              have HOX7 := Lib.hid (HOX.out.below hb7y)
              have HOY7 := Lib.hid (HOY.out.below hb7y)
              have HR77 := Lib.hid (HR7.out.next hb7y)
              have HF9 : Hid (∀ W, But mb W7 W → Rz W T5 110 #[.int .i64 p, .slice ad ds.length cap, .slice am ms.length capm, .int .i64 p2, .slice ad2 ds2.length cap2, .slice am2 ms2.length capm2, .slice (some ⟨G, 0, none⟩) N N, .map (some mb)] ∧ Rz W b7 113 #[.int .i64 (k0 : Int), .int .i64 (c0 : Int)] ∧ Rz W b9 113 #[.int .i64 (j0 : Int), .int .i64 (d0 : Int)] ∧ W.cell? ⟨G, n, none⟩ = some (.slice apr m cpr)) := Lib.hid (fun W h => ⟨by rw [← HCS.out]; exact (h.block T5 HI7.out.box.lt hn5).trans HI7.out.box, (h.block b7 HR77.out.lt (by omega)).trans HR77.out, (h.block b9 HR9.out.lt (by omega)).trans HR9.out, by rw [h.cell HI7.out.prs.row.lt hn6, HI7.out.prs.row.cell hnN, HFN.out]⟩)
              have CELL6 : ∀ W, Rz W T5 110 cs → W.cell? ⟨T5, 6, none⟩ = some (.slice (some ⟨G, 0, none⟩) N N) := fun W h => by rw [HCS.out] at h; exact h.cell (i := 6) rfl
              have k70 : W7.cell? ⟨b7, 0, none⟩ = some (.int .i64 (k0 : Int)) := HR77.out.cell (i := 0) rfl
              have k90 : W7.cell? ⟨b9, 0, none⟩ = some (.int .i64 (j0 : Int)) := HR9.out.cell (i := 0) rfl
              have hwn : IntKind.i64.wrap ((k0 : Int) + (j0 : Int)) = (n : Int) := by rw [show (k0 : Int) + (j0 : Int) = (n : Int) by omega]; exact IntWalk.i64_in _ (by omega)
              clear hu hb7y hdk hdj hm hfn hn
              go_upto_region 8 with fail
              rw [← hW7]
              rw [← hb9]
              clear hW7 hb9 u0 u1
              go_upto_region 9 with fail
              clear k70 k90 hwn
              refine wp_region_held (S := fun W => Hid (But mb W7 W)) (by kernel_rfl) ?_
              have S0 : Hid (But mb W7 W7.drew) := Lib.hid (But.refl _ _).drew
              refine held_take (i := 0) (v := .pointer (some ⟨T5, 7, none⟩)) (some 43) rfl rfl (by kernel_rfl) (by kernel_rfl) (by kernel_rfl) (fun _ _ _ h => h) (yieldsIf_run (by kernel_rfl) (fun W _ => by kernel_rfl)) S0 ?_
              refine held_take (i := 1) (v := .map (some mb)) (some 44) rfl rfl (by kernel_rfl) (by kernel_rfl) (by kernel_rfl) (fun _ _ _ h => h) (yieldsIf_cell (by kernel_rfl) rfl (by kernel_rfl) (fun W h => hloadMp W ((HF9.out W h.out).1.cell (i := 7) rfl))) S0 ?_
              refine held_take (i := 2) (v := .agg #[.int .i64 (k0 : Int), .int .i64 (c0 : Int)]) (some 45) rfl rfl (by kernel_rfl) (by kernel_rfl) (by kernel_rfl) (fun _ _ _ h => h) (yieldsIf_cell (by kernel_rfl) rfl (by kernel_rfl) (fun W h => hload2B W ((HF9.out W h.out).2.1.cell (i := 0) rfl) ((HF9.out W h.out).2.1.cell (i := 1) rfl))) S0 ?_
              refine held_take (i := 3) (v := .agg #[.int .i64 (j0 : Int), .int .i64 (d0 : Int)]) (some 46) rfl rfl (by kernel_rfl) (by kernel_rfl) (by kernel_rfl) (fun _ _ _ h => h) (yieldsIf_cell (by kernel_rfl) rfl (by kernel_rfl) (fun W h => hload2B W ((HF9.out W h.out).2.2.1.cell (i := 0) rfl) ((HF9.out W h.out).2.2.1.cell (i := 1) rfl))) S0 ?_
              refine held_take (i := 4) (v := .agg #[.int .i64 (k0 : Int), .int .i64 (c0 : Int), .int .i64 (j0 : Int), .int .i64 (d0 : Int)]) (some 47) rfl rfl (by kernel_rfl) (by kernel_rfl) (by kernel_rfl) (fun _ _ _ h => h) (yieldsIf_run (by kernel_rfl) (fun W _ => by kernel_rfl)) S0 ?_
              refine held_take (i := 5) (v := .agg #[.int .i64 p, .slice ad ds.length cap, .slice am ms.length capm, .int .i64 p2, .slice ad2 ds2.length cap2, .slice am2 ms2.length capm2, .slice (some ⟨G, 0, none⟩) N N, .map (some mb)]) (some 48) rfl rfl (by kernel_rfl) (by kernel_rfl) (by kernel_rfl) (fun _ _ _ h => h) (yieldsIf_cell (by kernel_rfl) rfl (by kernel_rfl) (fun W h => hload8T W (HF9.out W h.out).1)) S0 ?_
              refine held_take (i := 6) (v := .int .i64 (n : Int)) (some 49) rfl rfl (by kernel_rfl) (by kernel_rfl) (by kernel_rfl) (fun _ _ _ h => h) (yieldsIf_move (by kernel_rfl) rfl (by kernel_rfl)) S0 ?_
              refine held_enter (i := 7) (some 50) (f := 173) (args := #[.agg #[.int .i64 p, .slice ad ds.length cap, .slice am ms.length capm, .int .i64 p2, .slice ad2 ds2.length cap2, .slice am2 ms2.length capm2, .slice (some ⟨G, 0, none⟩) N N, .map (some mb)], .int .i64 (n : Int)]) (by kernel_rfl) rfl rfl rfl (by kernel_rfl) (dim_any p p2 _ _ _ _ G N n mb m cpr apr W7.drew (HF9.out _ S0.out).2.2.2 hnN) ?_ (fun c w' h => by cases h.1) (fun w' h => by cases h.1)
              rintro e8 W8 ⟨he8, hb8⟩
              injection he8 with he8
              subst he8
              have S1 : Hid (But mb W7 W8) := Lib.hid (S0.out.trans (But.of_below hb8))
              refine ⟨S1, ?_⟩
              have HI8 := Lib.hid (HI7.out.next h1b ((Below.refl W7.heap.size W7).drew.trans (hb8.mono (Nat.le_refl _))))
              refine held_one (i := 8) (by kernel_rfl) ?_
              refine op_mapPut (i := 8) rfl rfl rfl (.tmp 44) (.tmp 47) (.tmp 50) rfl mb _ (tsB X Y a b) (by kernel_rfl) HI8.out.map HSL.out (((k0 : Int), (c0 : Int)), ((j0 : Int), (d0 : Int))) (by kernel_rfl) (by rw [HDG.out, ← HM.out]; kernel_rfl) (by rw [HDG.out, ← HM.out]; omega) HWF.out HNW.out ?_
              intro W9 hpl9 hgr9
              have S2 : Hid (But mb W7 W9) := Lib.hid (S1.out.trans (But.of_grown hgr9))
              refine ⟨S2, ?_⟩
              refine wpAnyH_done (by kernel_rfl) ?_ _
              simp only [Act.put, List.setIfInBounds_toArray, List.set_cons_zero, List.set_cons_succ]
              have HPL9 : Hid (Pl W9 mb ((tsB X Y a b).length + 1) ((tsB X Y a b) ++ [(((k0 : Int), (c0 : Int)), ((j0 : Int), (d0 : Int)))])) := Lib.hid hpl9
              have hbk : ∀ k, k < N → (f k).ownBlock ≠ some mb := fun k hk e => by have := World.ownsRow.lt (HI8.out.prs.own k hk) mb e; omega
              have HP9 : Hid (Prs W9 base G N f (tsB X Y a b)) := Lib.hid (HI8.out.prs.kept hgr9 hn6 hbk)
              have hs9 : W7.heap.size ≤ W9.heap.size := S2.out.size
              have HB9 : Hid (Below w1.heap.size w1 W9) := Lib.hid (HI7.out.below.trans (S2.out.below HI7.out.below.size (by omega)))
              have HF10 := Lib.hid (HF9.out W9 S2.out)
              have HOX9 : Hid (Ob base W9 (.slice (some ⟨gx, 0, none⟩) nx cx) X) := Lib.hid (((HOX7.out.below (Below.refl W7.heap.size W7).drew).below hb8).kept hgr9 (Or.inr (fun e => by simp [Value.ownBlock] at e; omega)))
              have HOY9 : Hid (Ob base W9 (.slice (some ⟨gy, 0, none⟩) ny cy) Y) := Lib.hid (((HOY7.out.below (Below.refl W7.heap.size W7).drew).below hb8).kept hgr9 (Or.inr (fun e => by simp [Value.ownBlock] at e; omega)))
              clear S0 S1 S2 hb8 hgr9 hpl9 hbk
              rw [HCS.out.symm] at HF10
              go_upto_region 10 with fail
              have S0 : Hid ((Rz W9.drew T5 110 cs ∧ Rz W9.drew b7 113 #[.int .i64 (k0 : Int), .int .i64 (c0 : Int)] ∧ Rz W9.drew b9 113 #[.int .i64 (j0 : Int), .int .i64 (d0 : Int)] ∧ W9.drew.cell? ⟨G, 0 + n, none⟩ = some (.slice apr m cpr))) := Lib.hid ⟨HF10.out.1.next (Below.refl _ _).drew, HF10.out.2.1.next (Below.refl _ _).drew, HF10.out.2.2.1.next (Below.refl _ _).drew, by rw [Nat.zero_add]; exact later (Below.refl _ _).drew (Nat.le_refl _) HF10.out.2.2.2⟩
              refine wp_region_last (fun W => Hid (Rz W T5 110 cs ∧ Rz W b7 113 #[.int .i64 (k0 : Int), .int .i64 (c0 : Int)] ∧ Rz W b9 113 #[.int .i64 (j0 : Int), .int .i64 (d0 : Int)] ∧ W.cell? ⟨G, 0 + n, none⟩ = some (.slice apr m cpr))) 14 (by kernel_rfl) rfl (by kernel_rfl) ?_
              refine held_take (i := 0) (v := .pointer (some ⟨T5, 6, none⟩)) (some 51) rfl rfl (by kernel_rfl) (by kernel_rfl) (by kernel_rfl) (fun _ _ _ h => h) (yieldsIf_run (by kernel_rfl) (fun W _ => by kernel_rfl)) S0 ?_
              refine held_take (i := 1) (v := .slice (some ⟨G, 0, none⟩) N N) (some 52) rfl rfl (by kernel_rfl) (by kernel_rfl) (by kernel_rfl) (fun _ _ _ h => h) (yieldsIf_cell (by kernel_rfl) rfl (by kernel_rfl) (fun W h => hloadPP W (CELL6 W h.out.1))) S0 ?_
              refine held_take (i := 2) (v := .int .i64 (n : Int)) (some 53) rfl rfl (by kernel_rfl) (by kernel_rfl) (by kernel_rfl) (fun _ _ _ h => h) (yieldsIf_move (by kernel_rfl) rfl (by kernel_rfl)) S0 ?_
              refine held_take (i := 3) (v := .pointer (some ⟨T5, 6, none⟩)) (some 54) rfl rfl (by kernel_rfl) (by kernel_rfl) (by kernel_rfl) (fun _ _ _ h => h) (yieldsIf_run (by kernel_rfl) (fun W _ => by kernel_rfl)) S0 ?_
              refine held_take (i := 4) (v := .slice (some ⟨G, 0, none⟩) N N) (some 55) rfl rfl (by kernel_rfl) (by kernel_rfl) (by kernel_rfl) (fun _ _ _ h => h) (yieldsIf_cell (by kernel_rfl) rfl (by kernel_rfl) (fun W h => hloadPP W (CELL6 W h.out.1))) S0 ?_
              refine held_take (i := 5) (v := .int .i64 (n : Int)) (some 56) rfl rfl (by kernel_rfl) (by kernel_rfl) (by kernel_rfl) (fun _ _ _ h => h) (yieldsIf_move (by kernel_rfl) rfl (by kernel_rfl)) S0 ?_
              refine held_take (i := 6) (v := .pointer (some ⟨G, 0 + n, none⟩)) (some 57) rfl rfl (by kernel_rfl) (by kernel_rfl) (by kernel_rfl) (fun _ _ _ h => h) (yieldsIf_index (by kernel_rfl) rfl (by kernel_rfl) (by kernel_rfl) (hidxPP G 0 N hnN)) S0 ?_
              refine held_take (i := 7) (v := .slice apr m cpr) (some 58) rfl rfl (by kernel_rfl) (by kernel_rfl) (by kernel_rfl) (fun _ _ _ h => h) (yieldsIf_cell (by kernel_rfl) rfl (by kernel_rfl) (fun W h => hloadPr W h.out.2.2.2)) S0 ?_
              refine held_take (i := 8) (v := .agg #[.int .i64 (k0 : Int), .int .i64 (c0 : Int)]) (some 59) rfl rfl (by kernel_rfl) (by kernel_rfl) (by kernel_rfl) (fun _ _ _ h => h) (yieldsIf_cell (by kernel_rfl) rfl (by kernel_rfl) (fun W h => hload2B W (h.out.2.1.cell (i := 0) rfl) (h.out.2.1.cell (i := 1) rfl))) S0 ?_
              refine held_take (i := 9) (v := .agg #[.int .i64 (j0 : Int), .int .i64 (d0 : Int)]) (some 60) rfl rfl (by kernel_rfl) (by kernel_rfl) (by kernel_rfl) (fun _ _ _ h => h) (yieldsIf_cell (by kernel_rfl) rfl (by kernel_rfl) (fun W h => hload2B W (h.out.2.2.1.cell (i := 0) rfl) (h.out.2.2.1.cell (i := 1) rfl))) S0 ?_
              refine held_take (i := 10) (v := .agg #[.int .i64 (k0 : Int), .int .i64 (c0 : Int), .int .i64 (j0 : Int), .int .i64 (d0 : Int)]) (some 61) rfl rfl (by kernel_rfl) (by kernel_rfl) (by kernel_rfl) (fun _ _ _ h => h) (yieldsIf_run (by kernel_rfl) (fun W _ => by kernel_rfl)) S0 ?_
              obtain ⟨WA, hWA⟩ : ∃ W', W' = W9.drew.alloc (.cells #[.int .i64 (k0 : Int), .int .i64 (c0 : Int), .int .i64 (j0 : Int), .int .i64 (d0 : Int)] 115) := ⟨_, rfl⟩
              have hbA : Below W9.drew.heap.size W9.drew WA := by rw [hWA]; exact below_alloc1 _ _
              have v0 : WA.cell? ⟨W9.drew.heap.size, 0, none⟩ = some (.int .i64 (k0 : Int)) := by rw [hWA]; exact cell_newP0 _ _ _ _ _ _
              have v1 : WA.cell? ⟨W9.drew.heap.size, 1, none⟩ = some (.int .i64 (c0 : Int)) := by rw [hWA]; exact cell_newP1 _ _ _ _ _ _
              have v2 : WA.cell? ⟨W9.drew.heap.size, 2, none⟩ = some (.int .i64 (j0 : Int)) := by rw [hWA]; exact cell_newP2 _ _ _ _ _ _
              have v3 : WA.cell? ⟨W9.drew.heap.size, 3, none⟩ = some (.int .i64 (d0 : Int)) := by rw [hWA]; exact cell_newP3 _ _ _ _ _ _
              have S1 : Hid ((Rz WA T5 110 cs ∧ Rz WA b7 113 #[.int .i64 (k0 : Int), .int .i64 (c0 : Int)] ∧ Rz WA b9 113 #[.int .i64 (j0 : Int), .int .i64 (d0 : Int)] ∧ WA.cell? ⟨G, 0 + n, none⟩ = some (.slice apr m cpr))) := Lib.hid ⟨S0.out.1.next hbA, S0.out.2.1.next hbA, S0.out.2.2.1.next hbA, later hbA (Nat.le_refl _) S0.out.2.2.2⟩
              refine held_mem (i := 11) (v := .slice (some ⟨W9.drew.heap.size, 0, none⟩) 1 1) (w' := WA) (some 62) (by kernel_rfl) rfl rfl rfl (by rw [hWA]; go_simp) S1 ?_
              simp only [Act.put, List.setIfInBounds_toArray, List.set_cons_zero, List.set_cons_succ]
              have HPA : Hid (Prs WA base G N f (tsB X Y a b)) := Lib.hid ((HP9.out.below (Below.refl W9.heap.size W9).drew).below hbA)
              have hown := HPA.out.own n hnN
              rw [HFN.out, ← HM.out] at hown
              have hsA : base ≤ WA.heap.size := by have := HPA.out.lo; have := hbA.size; have := HI7.out.bs; have hq : W9.drew.heap.size = W9.heap.size := rfl; omega
              have hsA2 : W9.heap.size ≤ WA.heap.size := hbA.size
              have HPLA := Lib.hid ((HPL9.out.below (Below.refl W9.heap.size W9).drew).below hbA)
              have HOXA := Lib.hid ((HOX9.out.below (Below.refl W9.heap.size W9).drew).below hbA)
              have HOYA := Lib.hid ((HOY9.out.below (Below.refl W9.heap.size W9).drew).below hbA)
              refine held_call (i := 12) (by kernel_rfl) rfl rfl ?_
              refine wp_appendPr (some 63) rfl (.tmp 58) (.tmp 62) rfl base (.slice apr m cpr) m _ (by kernel_rfl) hown W9.drew.heap.size (by kernel_rfl) (((k0 : Int), (c0 : Int)), ((j0 : Int), (d0 : Int))) v0 v1 v2 v3 hm8 hsA ?_
              intro g9 c9 WB ho9 hg9 hl9 hlt9
              have hneT : ∀ k, k < base → (Value.slice apr m cpr).ownBlock ≠ some k := fun k hk e => by have := World.ownsRow.lt hown k e; omega
              have hne7 : some b7 ≠ (Value.slice apr m cpr).ownBlock := fun e => rz_ne S1.out.2.1 hown (by decide) e.symm
              have hne9 : some b9 ≠ (Value.slice apr m cpr).ownBlock := fun e => rz_ne S1.out.2.2.1 hown (by decide) e.symm
              have S2 : Hid ((Rz WB T5 110 cs ∧ Rz WB b7 113 #[.int .i64 (k0 : Int), .int .i64 (c0 : Int)] ∧ Rz WB b9 113 #[.int .i64 (j0 : Int), .int .i64 (d0 : Int)] ∧ WB.cell? ⟨G, 0 + n, none⟩ = some (.slice apr m cpr))) := Lib.hid ⟨S1.out.1.grown hg9 (fun e => hneT T5 hT5b e.symm), S1.out.2.1.grown hg9 hne7, S1.out.2.2.1.grown hg9 hne9, by rw [World.cell?_of_block (w := WA) (hg9.block G (cell_lt S1.out.2.2.2) (fun e => hneT G hGb e.symm))]; exact S1.out.2.2.2⟩
              refine ⟨S2, ?_⟩
              refine held_take (i := 13) (v := .pointer (some ⟨G, 0 + n, none⟩)) (some 64) rfl rfl (by kernel_rfl) (by kernel_rfl) (by kernel_rfl) (fun _ _ _ h => h) (yieldsIf_index (by kernel_rfl) rfl (by kernel_rfl) (by kernel_rfl) (hidxPP G 0 N hnN)) S2 ?_
              refine held_none (i := 14) (v := .bool false) rfl rfl (by kernel_rfl) (by kernel_rfl) (by kernel_rfl) (fun _ _ _ h => h) (yieldsIf_move (by kernel_rfl) rfl (by kernel_rfl)) S2 ?_
              have hgs := hg9.size
              have HPB := Lib.hid (HPA.out.step (q := (((k0 : Int), (c0 : Int)), ((j0 : Int), (d0 : Int)))) (g := g9) (cap := c9) hnN HDG.out (by rw [← HM.out]; exact ho9) (by rw [HFN.out]; exact hg9) (by rw [HFN.out]; exact hl9))
              rw [← HM.out] at HPB
              have z1 : WB.cell? ⟨G, 0 + n, none⟩ = some (.slice apr m cpr) := S2.out.2.2.2
              have z2 : WB.frozen? ⟨G, 0 + n, none⟩ = false := by rw [World.frozen?_of_block (w := WA) (a := ⟨G, 0 + n, none⟩) (hg9.block G (cell_lt S1.out.2.2.2) (fun e => hneT G hGb e.symm))]; exact HPA.out.row.frozen _
              refine wpAnyH_done (by kernel_rfl) (lastQ_of rfl (by kernel_rfl) ?_) _
              simp only [Act.put, List.setIfInBounds_toArray, List.set_cons_zero, List.set_cons_succ]
              have HPLB : Hid (Pl (WB.setCell ⟨G, n, none⟩ (.slice (some ⟨g9, 0, none⟩) (m + 1) c9)) mb (tsB X Y a (b + 1)).length (tsB X Y a (b + 1))) := Lib.hid (by rw [HTE.out, List.length_append]; exact (HPLA.out.kept hg9 (fun e => hneT mb hmbb e.symm)).block (Below.heap_setCell _ _ _ _ (by show mb ≠ G; omega)))
              have HOXB : Hid (Ob base (WB.setCell ⟨G, n, none⟩ (.slice (some ⟨g9, 0, none⟩) (m + 1) c9)) (.slice (some ⟨gx, 0, none⟩) nx cx) X) := Lib.hid (ownsRow_setCell_below (owns_grown HOXA.out hown (by decide) hg9) (by show G < base; exact hGb) _)
              have HOYB : Hid (Ob base (WB.setCell ⟨G, n, none⟩ (.slice (some ⟨g9, 0, none⟩) (m + 1) c9)) (.slice (some ⟨gy, 0, none⟩) ny cy) Y) := Lib.hid (ownsRow_setCell_below (owns_grown HOYA.out hown (by decide) hg9) (by show G < base; exact hGb) _)
              have HBB : Hid (Below w1.heap.size w1 (WB.setCell ⟨G, n, none⟩ (.slice (some ⟨g9, 0, none⟩) (m + 1) c9))) := Lib.hid ((((HB9.out.drew).trans (hbA.mono HB9.out.size)).grown hg9 (Nat.le_trans HB9.out.size hsA2) (fun k hk => by have := World.ownsRow.lt hown k hk; omega)).setCell (by show w1.heap.size ≤ G; exact hn2) _)
              have HRB : Hid (Rz (WB.setCell ⟨G, n, none⟩ (.slice (some ⟨g9, 0, none⟩) (m + 1) c9)) T5 110 cs ∧ Rz (WB.setCell ⟨G, n, none⟩ (.slice (some ⟨g9, 0, none⟩) (m + 1) c9)) b7 113 #[.int .i64 (k0 : Int), .int .i64 (c0 : Int)]) := Lib.hid ⟨(Below.heap_setCell _ _ _ _ (by show T5 ≠ G; exact hn4)).trans S2.out.1, (Below.heap_setCell _ _ _ _ (by show b7 ≠ G; omega)).trans S2.out.2.1⟩
              have HSB : Hid (base ≤ (WB.setCell ⟨G, n, none⟩ (.slice (some ⟨g9, 0, none⟩) (m + 1) c9)).heap.size) := Lib.hid (by simp only [World.size_setCell]; omega)
              have HIB : Hid (TsI w1 (WB.setCell ⟨G, n, none⟩ (.slice (some ⟨g9, 0, none⟩) (m + 1) c9)) base T5 G N mb cs (fun m2 => if m2 = n then .slice (some ⟨g9, 0, none⟩) (m + 1) c9 else f m2) (tsB X Y a (b + 1))) := Lib.hid ⟨HBB.out, HSB.out, HRB.out.1, by rw [HTE.out]; exact HPB.out, HPLB.out⟩
              clear S0 S1 S2 hbA hown ho9 hg9 hl9 hlt9 hneT hne7 hne9 hWA v0 v1 v2 v3 hgs
              rw [Nat.zero_add] at z1 z2 ⊢
              go_simp
              go_wp2 -- AFTER
              go_roundw
              case rel => exact ⟨b + 1, _, by omega, by go_num, HIB, HOXB, HOYB, Lib.hid HRB.out.2⟩
              case measure => simp [intOf]; omega
            · have hbe : b = ny := by omega
              have HIF : Hid (TsI w1 wy base T5 G N mb cs f (tsA X Y (a + 1))) := Lib.hid (by have := HI.out; rw [hbe, HNY.out, tsB_full X Y hla] at this; exact this)
              clear hbe
              go_wp2
              go_roundw
              case rel => exact ⟨a + 1, f, by omega, by go_num, HIF, HOX⟩
              case measure => simp [intOf]; omega
        · have hae : a = nx := by omega
          have HT4R : Hid (Rz wx (w.heap.size + 1 + 1) 110 #[.int .i64 0, .slice none 0 0, .slice none 0 0, .int .i64 0, .slice none 0 0, .slice none 0 0, .slice none 0 0, .map none]) := Lib.hid ((HZ4.out).next HI.out.below)
          have HBT : Hid (Rz wx T5 110 #[.int .i64 p, .slice ad ds.length cap, .slice am ms.length capm, .int .i64 p2, .slice ad2 ds2.length cap2, .slice am2 ms2.length capm2, .slice (some ⟨G, 0, none⟩) N N, .map (some mb)]) := Lib.hid (by have := HI.out.box; rwa [HCS.out] at this)
          have s0 : wx.cell? ⟨T5, 0, none⟩ = some (.int .i64 p) := HBT.out.cell (i := 0) rfl
          have s1 : wx.cell? ⟨T5, 1, none⟩ = some (.slice ad ds.length cap) := HBT.out.cell (i := 1) rfl
          have s2 : wx.cell? ⟨T5, 2, none⟩ = some (.slice am ms.length capm) := HBT.out.cell (i := 2) rfl
          have s3 : wx.cell? ⟨T5, 3, none⟩ = some (.int .i64 p2) := HBT.out.cell (i := 3) rfl
          have s4 : wx.cell? ⟨T5, 4, none⟩ = some (.slice ad2 ds2.length cap2) := HBT.out.cell (i := 4) rfl
          have s5 : wx.cell? ⟨T5, 5, none⟩ = some (.slice am2 ms2.length capm2) := HBT.out.cell (i := 5) rfl
          have s6 : wx.cell? ⟨T5, 6, none⟩ = some (.slice (some ⟨G, 0, none⟩) N N) := HBT.out.cell (i := 6) rfl
          have s7 : wx.cell? ⟨T5, 7, none⟩ = some (.map (some mb)) := HBT.out.cell (i := 7) rfl
          have hw12 : w.heap.size + 1 + 1 < w1.heap.size := HZ4.out.lt
          obtain ⟨WF, hWF⟩ : ∃ W, W = wx.setRow (w.heap.size + 1 + 1) #[.int .i64 p, .slice ad ds.length cap, .slice am ms.length capm, .int .i64 p2, .slice ad2 ds2.length cap2, .slice am2 ms2.length capm2, .slice (some ⟨G, 0, none⟩) N N, .map (some mb)] := ⟨_, rfl⟩
          have hoth : ∀ k, k ≠ w.heap.size + 1 + 1 → WF.heap[k]? = wx.heap[k]? := fun k hk => by rw [hWF]; exact setRow_other _ _ _ _ hk
          have HBF : Hid (Below w.heap.size w WF) := Lib.hid (by rw [hWF]; exact below_setRow (HB01.out.trans (HI.out.below.mono HB01.out.size)) (by omega) _)
          have HPF : Hid (Prs WF base G N f0 (tsA X Y a)) := Lib.hid ⟨HI.out.prs.row.of_block (hoth G (by omega)), HI.out.prs.lo, fun n hn => owns_block (HI.out.prs.own n hn) (fun k hk => hoth k (by have := World.ownsRow.lt (HI.out.prs.own n hn) k hk; omega)), HI.out.prs.sep⟩
          have HMF : Hid (Pl WF mb (tsA X Y a).length (tsA X Y a)) := Lib.hid (HI.out.map.block (hoth mb (by omega)))
          have HRF : Hid (Rz WF (w.heap.size + 1 + 1) 110 #[.int .i64 p, .slice ad ds.length cap, .slice am ms.length capm, .int .i64 p2, .slice ad2 ds2.length cap2, .slice am2 ms2.length capm2, .slice (some ⟨G, 0, none⟩) N N, .map (some mb)]) := Lib.hid (by rw [hWF]; exact HT4R.out.set _)
          have HAE : Hid (a = X.length) := Lib.hid (by rw [hae, HNX.out])
          have HRES : Hid (Try.f132.results = #[.cell 4 110]) := Lib.hid (by kernel_rfl)
          have r0 : WF.cell? ⟨w.heap.size + 1 + 1, 0, none⟩ = some (.int .i64 p) := HRF.out.cell (i := 0) rfl
          have r1 : WF.cell? ⟨w.heap.size + 1 + 1, 1, none⟩ = some (.slice ad ds.length cap) := HRF.out.cell (i := 1) rfl
          have r2 : WF.cell? ⟨w.heap.size + 1 + 1, 2, none⟩ = some (.slice am ms.length capm) := HRF.out.cell (i := 2) rfl
          have r3 : WF.cell? ⟨w.heap.size + 1 + 1, 3, none⟩ = some (.int .i64 p2) := HRF.out.cell (i := 3) rfl
          have r4 : WF.cell? ⟨w.heap.size + 1 + 1, 4, none⟩ = some (.slice ad2 ds2.length cap2) := HRF.out.cell (i := 4) rfl
          have r5 : WF.cell? ⟨w.heap.size + 1 + 1, 5, none⟩ = some (.slice am2 ms2.length capm2) := HRF.out.cell (i := 5) rfl
          have r6 : WF.cell? ⟨w.heap.size + 1 + 1, 6, none⟩ = some (.slice (some ⟨G, 0, none⟩) N N) := HRF.out.cell (i := 6) rfl
          have r7 : WF.cell? ⟨w.heap.size + 1 + 1, 7, none⟩ = some (.map (some mb)) := HRF.out.cell (i := 7) rfl
          have HGG : Hid (w.heap.size ≤ G ∧ w.heap.size ≤ mb) := Lib.hid (by omega)
          clear hae hoth hi1 hi2
          have HT4H : Hid (wx.heap[w.heap.size + 1 + 1]? = some (.cells #[.int .i64 0, .slice none 0 0, .slice none 0 0, .int .i64 0, .slice none 0 0, .slice none 0 0, .slice none 0 0, .map none] 110 (0, 0))) := Lib.hid HT4R.out
          have HINF : Hid ((Try.prog.info? 110).map (·.size) = some (#[.int .i64 p, .slice ad ds.length cap, .slice am ms.length capm, .int .i64 p2, .slice ad2 ds2.length cap2, .slice am2 ms2.length capm2, .slice (some ⟨G, 0, none⟩) N N, .map (some mb)] : Array Value).size) := Lib.hid (infoTs _ _ _ _ _ _ _ _)
          have HOS : Hid ((#[.int .i64 0, .slice none 0 0, .slice none 0 0, .int .i64 0, .slice none 0 0, .slice none 0 0, .slice none 0 0, .map none] : Array Value).size = (#[.int .i64 p, .slice ad ds.length cap, .slice am ms.length capm, .int .i64 p2, .slice ad2 ds2.length cap2, .slice am2 ms2.length capm2, .slice (some ⟨G, 0, none⟩) N N, .map (some mb)] : Array Value).size) := Lib.hid (by first | rfl | kernel_rfl | simp [Value.oneCell'])
          have HALL : Hid ((#[.int .i64 p, .slice ad ds.length cap, .slice am ms.length capm, .int .i64 p2, .slice ad2 ds2.length cap2, .slice am2 ms2.length capm2, .slice (some ⟨G, 0, none⟩) N N, .map (some mb)] : Array Value).all (·.oneCell') = true) := Lib.hid (by first | rfl | kernel_rfl | simp [Value.oneCell'])
          go_wp2_with (with_reducible refine wpList_store_row rfl 110 (.tmp 4) (.tmp 67) rfl (w.heap.size + 1 + 1) #[.int .i64 p, .slice ad ds.length cap, .slice am ms.length capm, .int .i64 p2, .slice ad2 ds2.length cap2, .slice am2 ms2.length capm2, .slice (some ⟨G, 0, none⟩) N N, .map (some mb)] rfl rfl 110 #[.int .i64 0, .slice none 0 0, .slice none 0 0, .int .i64 0, .slice none 0 0, .slice none 0 0, .slice none 0 0, .map none] HT4H.out HINF.out HOS.out HALL.out ?_)
          rw [← hWF]
          clear hWF s0 s1 s2 s3 s4 s5 s6 s7
          go_wp2
          refine bodyPost_ret (v := .agg #[.int .i64 p, .slice ad ds.length cap, .slice am ms.length capm, .int .i64 p2, .slice ad2 ds2.length cap2, .slice am2 ms2.length capm2, .slice (some ⟨G, 0, none⟩) N N, .map (some mb)]) ?_ rfl ⟨G, mb, N, base, _, f0, rfl, HNE.out, HGG.out.1, HGG.out.2, by rw [← HX.out, ← HY.out, ← HAE.out]; exact HPF.out, by rw [← HX.out, ← HY.out, ← HAE.out]; exact HMF.out, HBF.out⟩
          simp only [results, HRES.out]
          go_simp
end Go.Proofs.Ytpdkfidmmjlmnaa
