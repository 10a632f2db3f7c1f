/-
  impl.ComposeFamilies by contract.
-/
import Derived.Test.YtpdkfidmmjlmnabCfm
import Derived.Test.YtpdkfidmmjlmnabSof
namespace Go.Proofs.Ytpdkfidmmjlmnab
open Go.RowKit

theorem cell_new2 (W : World) (u v : Value) (t : TypeId) : (W.alloc (.cells #[u, v] t)).cell? ⟨W.heap.size, 0, none⟩ = some u := by simp
theorem cell_new2' (W : World) (u v : Value) (t : TypeId) : (W.alloc (.cells #[u, v] t)).cell? ⟨W.heap.size, 1, none⟩ = some v := by simp
set_option maxHeartbeats 6400000 in
set_option maxRecDepth 100000 in
theorem composeFamilies_any (p p2 p3 : Int) (dv mv dv2 mv2 dv3 mv3 fv gv : Value) (ds : List Int) (ms : List (List (List Int))) (ds2 : List Int) (ms2 : List (List (List Int))) (ds3 : List Int) (ms3 : List (List (List Int))) (fs gs : List (List (List Int))) (w : World) (h : Cx 0 w dv mv ds ms) (h2 : Cx 0 w dv2 mv2 ds2 ms2) (h3 : Cx 0 w dv3 mv3 ds3 ms3) (hf : L3 0 w fv fs) (hg : L3 0 w gv gs) (hd : ds.length ≤ 1048576) (hm : Bd3 1048576 ms) (hd2 : ds2.length ≤ 1048576) (hm2 : Bd3 1048576 ms2) (hd3 : ds3.length ≤ 1048576) (hm3 : Bd3 1048576 ms3) (hmf : Bd3 1048576 fs) (hmg : Bd3 1048576 gs) :
    Calls Try.prog 61 #[.agg #[.int .i64 p, dv, mv], .agg #[.int .i64 p2, dv2, mv2], .agg #[.int .i64 p3, dv3, mv3], fv, gv] w (AnsW Rw3 (CfFam p ds ds3 fs gs) [] (cfCode p p2 p3 ds ms ds2 ms2 ds3 ms3 fs gs) w) := by
  obtain ⟨ad, cap, rfl⟩ := Sl.shape h.dims
  obtain ⟨am, capm, rfl⟩ := Sl.shape h.maps
  obtain ⟨ad2, cap2, rfl⟩ := Sl.shape h2.dims
  obtain ⟨am2, capm2, rfl⟩ := Sl.shape h2.maps
  obtain ⟨ad3, cap3, rfl⟩ := Sl.shape h3.dims
  obtain ⟨am3, capm3, rfl⟩ := Sl.shape h3.maps
  obtain ⟨af, cf, rfl⟩ := Sl.shape hf
  obtain ⟨ag, cg, rfl⟩ := Sl.shape hg
  obtain ⟨k1, k2, k3⟩ := bx_three (p := p) (p2 := p2) (p3 := p3) 31 h h2 h3
  have HX0 := Lib.hid k1
  have HY0 := Lib.hid k2
  have HZ0 := Lib.hid k3
  obtain ⟨w1, hw1⟩ : ∃ w1, w1 = (((w.alloc (.cells #[.int .i64 p, .slice ad ds.length cap, .slice am ms.length capm] 31)).alloc (.cells #[.int .i64 p2, .slice ad2 ds2.length cap2, .slice am2 ms2.length capm2] 31)).alloc (.cells #[.int .i64 p3, .slice ad3 ds3.length cap3, .slice am3 ms3.length capm3] 31)) := ⟨_, rfl⟩
  rw [← hw1] at HX0 HY0 HZ0
  have hb01 : Below w.heap.size w w1 := HX0.out.below
  have HF0 := Lib.hid (hf.below hb01)
  have HG0 := Lib.hid (hg.below hb01)
  have HN : Hid (∀ W, Below w1.heap.size w1 W → (Bx w W w.heap.size p (.slice ad ds.length cap) (.slice am ms.length capm) ds ms ∧ Bx w W (w.heap.size + 1) p2 (.slice ad2 ds2.length cap2) (.slice am2 ms2.length capm2) ds2 ms2 ∧ Bx w W (w.heap.size + 2) p3 (.slice ad3 ds3.length cap3) (.slice am3 ms3.length capm3) ds3 ms3) ∧ L3 0 W (.slice af fs.length cf) fs ∧ L3 0 W (.slice ag gs.length cg) gs) := Lib.hid (fun W h => ⟨⟨HX0.out.next h, HY0.out.next h, HZ0.out.next h⟩, HF0.out.below h, HG0.out.below h⟩)
  have HMF := Lib.hid hmf
  have HMG := Lib.hid hmg
  have c0 := (HN.out _ (Below.refl _ _)).1.1.c0
  have c1 := (HN.out _ (Below.refl _ _)).1.1.c1
  have c2 := (HN.out _ (Below.refl _ _)).1.1.c2
  have d0 := (HN.out _ (Below.refl _ _)).1.2.1.c0
  have d1 := (HN.out _ (Below.refl _ _)).1.2.1.c1
  have d2 := (HN.out _ (Below.refl _ _)).1.2.1.c2
  have e0 := (HN.out _ (Below.refl _ _)).1.2.2.c0
  have e1 := (HN.out _ (Below.refl _ _)).1.2.2.c1
  have e2 := (HN.out _ (Below.refl _ _)).1.2.2.c2
  obtain ⟨w2, hw2⟩ : ∃ w2, w2 = w1.alloc (.cells #[.int .i64 p, .slice ad ds.length cap, .slice am ms.length capm, .int .i64 p2, .slice ad2 ds2.length cap2, .slice am2 ms2.length capm2, .int .i64 p3, .slice ad3 ds3.length cap3, .slice am3 ms3.length capm3] 31) := ⟨_, rfl⟩
  have hb2 : Below w1.heap.size w1 w2 := by rw [hw2]; exact below_alloc1 _ _
  have HB2 := Lib.hid hb2
  have HCS : Cxs w2 w1.heap.size 3 (s3 p p2 p3) (s3 (.slice ad ds.length cap) (.slice ad2 ds2.length cap2) (.slice ad3 ds3.length cap3)) (s3 (.slice am ms.length capm) (.slice am2 ms2.length capm2) (.slice am3 ms3.length capm3)) (s3 ds ds2 ds3) (s3 ms ms2 ms3) := by
    have hh := HN.out _ hb2
    refine ⟨fun j hj => ?_, fun j hj => ?_, fun j hj => ?_, fun j hj => ?_, fun j hj => ?_⟩
    · match j, hj with
      | 0, _ => rw [hw2]; simp [s3]
      | 1, _ => rw [hw2]; simp [s3]
      | 2, _ => rw [hw2]; simp [s3]
    · match j, hj with
      | 0, _ => rw [hw2]; simp [s3]
      | 1, _ => rw [hw2]; simp [s3]
      | 2, _ => rw [hw2]; simp [s3]
    · match j, hj with
      | 0, _ => rw [hw2]; simp [s3]
      | 1, _ => rw [hw2]; simp [s3]
      | 2, _ => rw [hw2]; simp [s3]
    · match j, hj with
      | 0, _ => exact hh.1.1.cx
      | 1, _ => exact hh.1.2.1.cx
      | 2, _ => exact hh.1.2.2.cx
    · match j, hj with
      | 0, _ => exact ⟨hd, hm⟩
      | 1, _ => exact ⟨hd2, hm2⟩
      | 2, _ => exact ⟨hd3, hm3⟩
  have HCK := Lib.hid (checkEndsN_any w1.heap.size 3 3 _ _ _ _ _ w2 HCS (by omega))
  obtain ⟨ec, hec⟩ : ∃ ec, ec = endCodeN 3 (s3 p p2 p3) (s3 ds ds2 ds3) (s3 ms ms2 ms3) := ⟨_, rfl⟩
  rw [← hec] at HCK
  have HEC := Lib.hid hec
  clear h h2 h3 hf hg hm hm2 hm3 hmf hmg k1 k2 k3 hb2 hb01 hec HCS
  go_enter Try.func61, Try.ntmps61
  go_upto_region 1 with fail
  rw [← hw1]
  clear hw1
  go_wp2_with fail
  rw [← hw2]
  clear hw2
  refine HCK.out.mono ?_
  rintro e w3 ⟨rfl, hb3⟩
  have HB3 := Lib.hid (HB2.out.trans (hb3.mono HB2.out.size))
  clear c0 c1 c2 d0 d1 d2 e0 e1 e2 hb3 HX0 HY0 HZ0 HCK HB2
  have hw03 : w.heap.size ≤ w3.heap.size := (HN.out _ HB3.out).1.1.below.size
  by_cases h0 : ec = 0
  · subst h0
    have hO := ok3_of HEC.out.symm
    have HO := Lib.hid hO
    have hpp := hO.xy.prime
    subst hpp
    have hpp := hO.yz.prime
    subst hpp
    have HCX := Lib.hid hO.xy.x
    have HCY := Lib.hid hO.xy.y
    have HCZ := Lib.hid hO.yz.y
    have hll := Lib.hid hO.xy.len
    have hl6 := hO.xy.x.1.len1
    have HH3 := Lib.hid (HN.out _ HB3.out)
    have HFM := Lib.hid (isFamily_any p p 0 _ _ _ _ _ ds ms ds2 ms2 fs w3 HH3.out.1.1.cx HH3.out.1.2.1.cx HH3.out.2.1 hO.xy.x hO.xy.y (by omega) HMF.out)
    clear hO
    have c0 := (HH3.out).1.1.c0
    have c1 := (HH3.out).1.1.c1
    have c2 := (HH3.out).1.1.c2
    have d0 := (HH3.out).1.2.1.c0
    have d1 := (HH3.out).1.2.1.c1
    have d2 := (HH3.out).1.2.1.c2
    have e0 := (HH3.out).1.2.2.c0
    have e1 := (HH3.out).1.2.2.c1
    have e2 := (HH3.out).1.2.2.c2
    by_cases hof : FamOk p ds ds2 0 fs
    · have HOF := Lib.hid hof
      go_wp2_with fail
      refine HFM.out.mono ?_
      rintro e w4 ⟨bb, rfl, hb, hbb⟩
      obtain rfl : bb = true := hbb.2 hof
      have HB4 := Lib.hid (HB3.out.trans (hb.mono HB3.out.size))
      clear c0 c1 c2 d0 d1 d2 e0 e1 e2 hb hbb hof HFM
      have HH4 := Lib.hid (HN.out _ HB4.out)
      have HGM := Lib.hid (isFamily_any p p 0 _ _ _ _ _ ds2 ms2 ds3 ms3 gs w4 HH4.out.1.2.1.cx HH4.out.1.2.2.cx HH4.out.2.2 HCY.out HCZ.out (by omega) HMG.out)
      have c0 := (HH4.out).1.1.c0
      have c1 := (HH4.out).1.1.c1
      have c2 := (HH4.out).1.1.c2
      have d0 := (HH4.out).1.2.1.c0
      have d1 := (HH4.out).1.2.1.c1
      have d2 := (HH4.out).1.2.1.c2
      have e0 := (HH4.out).1.2.2.c0
      have e1 := (HH4.out).1.2.2.c1
      have e2 := (HH4.out).1.2.2.c2
      by_cases hog : FamOk p ds2 ds3 0 gs
      · have HOG := Lib.hid hog
        have HC0 : Hid (cfCode p p p ds ms ds2 ms2 ds3 ms3 fs gs = 0) := Lib.hid (by unfold cfCode; rw [if_pos HEC.out.symm, if_pos ⟨HOF.out, hog⟩])
        go_wp2_with fail
        refine HGM.out.mono ?_
        rintro e w5 ⟨bb, rfl, hb, hbb⟩
        obtain rfl : bb = true := hbb.2 hog
        have HB5 := Lib.hid (HB4.out.trans (hb.mono HB4.out.size))
        clear c0 c1 c2 d0 d1 d2 e0 e1 e2 hb hbb hog HGM
        have HN5 : Hid (∀ W, Below w5.heap.size w5 W → Below w1.heap.size w1 W) := Lib.hid (fun W h => HB5.out.trans (h.mono HB5.out.size))
        go_upto_region 6 with fail
        refine wp_region_held (S := fun W => Below w5.heap.size w5 W) (by kernel_rfl) ?_
        have S0 : Below w5.heap.size w5 w5.drew := (Below.refl _ _).drew
        have hsd : w5.heap.size ≤ w5.drew.heap.size := Nat.le_refl _
        have hB0 : w5.heap.size ≤ w5.drew.heap.size := Nat.le_refl _
        refine held_take (i := 0) (v := .agg #[.int .i64 p, .slice ad2 ds2.length cap2, .slice am2 ms2.length capm2]) (some 35) rfl rfl (by kernel_rfl) (by kernel_rfl) (by kernel_rfl) (fun _ _ _ h => h) (yieldsIf_cell (by kernel_rfl) rfl (by kernel_rfl) (fun W h => hload3x ((HN.out W (HN5.out W h)).1.2.1))) S0 ?_
        refine held_take (i := 1) (v := .slice af fs.length cf) (some 36) rfl rfl (by kernel_rfl) (by kernel_rfl) (by kernel_rfl) (fun _ _ _ h => h) (yieldsIf_move (by kernel_rfl) rfl (by kernel_rfl)) S0 ?_
        refine held_take (i := 2) (v := .agg #[.int .i64 p, .slice ad2 ds2.length cap2, .slice am2 ms2.length capm2, .int .i64 0, .slice af fs.length cf]) (some 37) rfl rfl (by kernel_rfl) (by kernel_rfl) (by kernel_rfl) (fun _ _ _ h => h) (yieldsIf_run (by kernel_rfl) (fun W _ => by kernel_rfl)) S0 ?_
        refine held_take (i := 3) (v := .agg #[.int .i64 p, .slice ad3 ds3.length cap3, .slice am3 ms3.length capm3]) (some 38) rfl rfl (by kernel_rfl) (by kernel_rfl) (by kernel_rfl) (fun _ _ _ h => h) (yieldsIf_cell (by kernel_rfl) rfl (by kernel_rfl) (fun W h => hload3x ((HN.out W (HN5.out W h)).1.2.2))) S0 ?_
        refine held_take (i := 4) (v := .slice ag gs.length cg) (some 39) rfl rfl (by kernel_rfl) (by kernel_rfl) (by kernel_rfl) (fun _ _ _ h => h) (yieldsIf_move (by kernel_rfl) rfl (by kernel_rfl)) S0 ?_
        refine held_take (i := 5) (v := .agg #[.int .i64 p, .slice ad3 ds3.length cap3, .slice am3 ms3.length capm3, .int .i64 0, .slice ag gs.length cg]) (some 40) rfl rfl (by kernel_rfl) (by kernel_rfl) (by kernel_rfl) (fun _ _ _ h => h) (yieldsIf_run (by kernel_rfl) (fun W _ => by kernel_rfl)) S0 ?_
        refine held_two (i := 6) (j := 7) (by kernel_rfl) ?o1 ?o2
        case' o1 =>
          obtain ⟨V1, hV1⟩ : ∃ W', W' = w5.drew.alloc (.cells #[.int .i64 0, .slice none 0 0, .slice none 0 0, .int .i64 0, .slice none 0 0] 120) := ⟨_, rfl⟩
          have hbV1 : Below w5.drew.heap.size w5.drew V1 := by rw [hV1]; exact below_alloc1 _ _
          have hRA0 : Rz V1 w5.drew.heap.size 120 #[.int .i64 0, .slice none 0 0, .slice none 0 0, .int .i64 0, .slice none 0 0] := by rw [hV1]; exact Rz.new _ _ _
          have SV1 : Below (w5.heap.size) w5 V1 := S0.trans (hbV1.mono (by have := S0.size; omega))
          have zV1 := SV1.size
          refine op_mem (i := 6) (v := .pointer (some ⟨w5.drew.heap.size, 0, none⟩)) (w' := V1) (some 13) rfl rfl rfl (by rw [hV1]; go_simp) ?_
          refine ⟨SV1, ?_⟩
          obtain ⟨V2, hV2⟩ : ∃ W', W' = V1.alloc (.cells #[.int .i64 0, .slice none 0 0, .slice none 0 0, .int .i64 0, .slice none 0 0] 120) := ⟨_, rfl⟩
          have hbV2 : Below V1.heap.size V1 V2 := by rw [hV2]; exact below_alloc1 _ _
          have hRB1 : Rz V2 V1.heap.size 120 #[.int .i64 0, .slice none 0 0, .slice none 0 0, .int .i64 0, .slice none 0 0] := by rw [hV2]; exact Rz.new _ _ _
          have SV2 : Below (w5.heap.size) w5 V2 := SV1.trans (hbV2.mono (by have := SV1.size; omega))
          have hRA1 := hRA0.next hbV2
          have hne : w5.drew.heap.size ≠ V1.heap.size := Nat.ne_of_lt hRA0.lt
          refine held_one (i := 7) (by kernel_rfl) ?_
          refine op_mem (i := 7) (v := .pointer (some ⟨V1.heap.size, 0, none⟩)) (w' := V2) (some 14) rfl rfl rfl (by rw [hV2]; go_simp) ?_
          refine ⟨SV2, ?_⟩
          have TA : Below (w5.heap.size) w5 (V2.setRow (w5.drew.heap.size) #[.int .i64 p, .slice ad2 ds2.length cap2, .slice am2 ms2.length capm2, .int .i64 0, .slice af fs.length cf]) := below_setRow SV2 (by omega) _
          refine held_one (i := 8) (by kernel_rfl) ?_
          refine op_row (i := 8) rfl rfl rfl 120 (.tmp 13) (.tmp 37) rfl (w5.drew.heap.size) #[.int .i64 p, .slice ad2 ds2.length cap2, .slice am2 ms2.length capm2, .int .i64 0, .slice af fs.length cf] (by kernel_rfl) (by kernel_rfl) 120 _ hRA1 (infoGr _ _ _ _ _) (by kernel_rfl) (by kernel_rfl) ?_
          refine ⟨TA, ?_⟩
          have hRAsA := hRA1.set #[.int .i64 p, .slice ad2 ds2.length cap2, .slice am2 ms2.length capm2, .int .i64 0, .slice af fs.length cf]
          have hRBsA := hRB1.off (by first | exact hne | exact hne.symm) #[.int .i64 p, .slice ad2 ds2.length cap2, .slice am2 ms2.length capm2, .int .i64 0, .slice af fs.length cf]
          have TB : Below (w5.heap.size) w5 ((V2.setRow (w5.drew.heap.size) #[.int .i64 p, .slice ad2 ds2.length cap2, .slice am2 ms2.length capm2, .int .i64 0, .slice af fs.length cf]).setRow (V1.heap.size) #[.int .i64 p, .slice ad3 ds3.length cap3, .slice am3 ms3.length capm3, .int .i64 0, .slice ag gs.length cg]) := below_setRow TA (by omega) _
          refine held_one (i := 9) (by kernel_rfl) ?_
          refine op_row (i := 9) rfl rfl rfl 120 (.tmp 14) (.tmp 40) rfl (V1.heap.size) #[.int .i64 p, .slice ad3 ds3.length cap3, .slice am3 ms3.length capm3, .int .i64 0, .slice ag gs.length cg] (by kernel_rfl) (by kernel_rfl) 120 _ hRBsA (infoGr _ _ _ _ _) (by kernel_rfl) (by kernel_rfl) ?_
          refine ⟨TB, ?_⟩
          have hRBsB := hRBsA.set #[.int .i64 p, .slice ad3 ds3.length cap3, .slice am3 ms3.length capm3, .int .i64 0, .slice ag gs.length cg]
          have hRAsB := hRAsA.off (by first | exact hne | exact hne.symm) #[.int .i64 p, .slice ad3 ds3.length cap3, .slice am3 ms3.length capm3, .int .i64 0, .slice ag gs.length cg]
          refine wpAnyH_done (by kernel_rfl) ?_ _
          simp only [Act.put, List.setIfInBounds_toArray, List.set_cons_zero, List.set_cons_succ]
          have HBW := Lib.hid TB
          have HGA := Lib.hid hRAsB
          have HGB := Lib.hid hRBsB
          obtain ⟨W4, hW4⟩ : ∃ W4, W4 = ((V2.setRow (w5.drew.heap.size) #[.int .i64 p, .slice ad2 ds2.length cap2, .slice am2 ms2.length capm2, .int .i64 0, .slice af fs.length cf]).setRow (V1.heap.size) #[.int .i64 p, .slice ad3 ds3.length cap3, .slice am3 ms3.length capm3, .int .i64 0, .slice ag gs.length cg]) := ⟨_, rfl⟩
          obtain ⟨ga, hga⟩ : ∃ g, g = w5.drew.heap.size := ⟨_, rfl⟩
          obtain ⟨gb, hgb⟩ : ∃ g, g = V1.heap.size := ⟨_, rfl⟩
          rw [← hW4] at HBW HGA HGB ⊢
          rw [← hga] at HGA ⊢
          rw [← hgb] at HGB ⊢
          clear hW4 hga hgb hne TB TA SV2 SV1 S0 hRA0 hRA1 hRB1 hRAsA hRBsA hRAsB hRBsB hbV1 hbV2 hV2 hV1 hB0 hsd zV1
        case' o2 =>
          obtain ⟨V1, hV1⟩ : ∃ W', W' = w5.drew.alloc (.cells #[.int .i64 0, .slice none 0 0, .slice none 0 0, .int .i64 0, .slice none 0 0] 120) := ⟨_, rfl⟩
          have hbV1 : Below w5.drew.heap.size w5.drew V1 := by rw [hV1]; exact below_alloc1 _ _
          have hRB0 : Rz V1 w5.drew.heap.size 120 #[.int .i64 0, .slice none 0 0, .slice none 0 0, .int .i64 0, .slice none 0 0] := by rw [hV1]; exact Rz.new _ _ _
          have SV1 : Below (w5.heap.size) w5 V1 := S0.trans (hbV1.mono (by have := S0.size; omega))
          have zV1 := SV1.size
          refine op_mem (i := 7) (v := .pointer (some ⟨w5.drew.heap.size, 0, none⟩)) (w' := V1) (some 14) rfl rfl rfl (by rw [hV1]; go_simp) ?_
          refine ⟨SV1, ?_⟩
          obtain ⟨V2, hV2⟩ : ∃ W', W' = V1.alloc (.cells #[.int .i64 0, .slice none 0 0, .slice none 0 0, .int .i64 0, .slice none 0 0] 120) := ⟨_, rfl⟩
          have hbV2 : Below V1.heap.size V1 V2 := by rw [hV2]; exact below_alloc1 _ _
          have hRA1 : Rz V2 V1.heap.size 120 #[.int .i64 0, .slice none 0 0, .slice none 0 0, .int .i64 0, .slice none 0 0] := by rw [hV2]; exact Rz.new _ _ _
          have SV2 : Below (w5.heap.size) w5 V2 := SV1.trans (hbV2.mono (by have := SV1.size; omega))
          have hRB1 := hRB0.next hbV2
          have hne : w5.drew.heap.size ≠ V1.heap.size := Nat.ne_of_lt hRB0.lt
          refine held_one (i := 6) (by kernel_rfl) ?_
          refine op_mem (i := 6) (v := .pointer (some ⟨V1.heap.size, 0, none⟩)) (w' := V2) (some 13) rfl rfl rfl (by rw [hV2]; go_simp) ?_
          refine ⟨SV2, ?_⟩
          have TA : Below (w5.heap.size) w5 (V2.setRow (V1.heap.size) #[.int .i64 p, .slice ad2 ds2.length cap2, .slice am2 ms2.length capm2, .int .i64 0, .slice af fs.length cf]) := below_setRow SV2 (by omega) _
          refine held_one (i := 8) (by kernel_rfl) ?_
          refine op_row (i := 8) rfl rfl rfl 120 (.tmp 13) (.tmp 37) rfl (V1.heap.size) #[.int .i64 p, .slice ad2 ds2.length cap2, .slice am2 ms2.length capm2, .int .i64 0, .slice af fs.length cf] (by kernel_rfl) (by kernel_rfl) 120 _ hRA1 (infoGr _ _ _ _ _) (by kernel_rfl) (by kernel_rfl) ?_
          refine ⟨TA, ?_⟩
          have hRAsA := hRA1.set #[.int .i64 p, .slice ad2 ds2.length cap2, .slice am2 ms2.length capm2, .int .i64 0, .slice af fs.length cf]
          have hRBsA := hRB1.off (by first | exact hne | exact hne.symm) #[.int .i64 p, .slice ad2 ds2.length cap2, .slice am2 ms2.length capm2, .int .i64 0, .slice af fs.length cf]
          have TB : Below (w5.heap.size) w5 ((V2.setRow (V1.heap.size) #[.int .i64 p, .slice ad2 ds2.length cap2, .slice am2 ms2.length capm2, .int .i64 0, .slice af fs.length cf]).setRow (w5.drew.heap.size) #[.int .i64 p, .slice ad3 ds3.length cap3, .slice am3 ms3.length capm3, .int .i64 0, .slice ag gs.length cg]) := below_setRow TA (by omega) _
          refine held_one (i := 9) (by kernel_rfl) ?_
          refine op_row (i := 9) rfl rfl rfl 120 (.tmp 14) (.tmp 40) rfl (w5.drew.heap.size) #[.int .i64 p, .slice ad3 ds3.length cap3, .slice am3 ms3.length capm3, .int .i64 0, .slice ag gs.length cg] (by kernel_rfl) (by kernel_rfl) 120 _ hRBsA (infoGr _ _ _ _ _) (by kernel_rfl) (by kernel_rfl) ?_
          refine ⟨TB, ?_⟩
          have hRBsB := hRBsA.set #[.int .i64 p, .slice ad3 ds3.length cap3, .slice am3 ms3.length capm3, .int .i64 0, .slice ag gs.length cg]
          have hRAsB := hRAsA.off (by first | exact hne | exact hne.symm) #[.int .i64 p, .slice ad3 ds3.length cap3, .slice am3 ms3.length capm3, .int .i64 0, .slice ag gs.length cg]
          refine wpAnyH_done (by kernel_rfl) ?_ _
          simp only [Act.put, List.setIfInBounds_toArray, List.set_cons_zero, List.set_cons_succ]
          have HBW := Lib.hid TB
          have HGA := Lib.hid hRAsB
          have HGB := Lib.hid hRBsB
          obtain ⟨W4, hW4⟩ : ∃ W4, W4 = ((V2.setRow (V1.heap.size) #[.int .i64 p, .slice ad2 ds2.length cap2, .slice am2 ms2.length capm2, .int .i64 0, .slice af fs.length cf]).setRow (w5.drew.heap.size) #[.int .i64 p, .slice ad3 ds3.length cap3, .slice am3 ms3.length capm3, .int .i64 0, .slice ag gs.length cg]) := ⟨_, rfl⟩
          obtain ⟨ga, hga⟩ : ∃ g, g = V1.heap.size := ⟨_, rfl⟩
          obtain ⟨gb, hgb⟩ : ∃ g, g = w5.drew.heap.size := ⟨_, rfl⟩
          rw [← hW4] at HBW HGA HGB ⊢
          rw [← hga] at HGA ⊢
          rw [← hgb] at HGB ⊢
          clear hW4 hga hgb hne TB TA SV2 SV1 S0 hRB0 hRB1 hRA1 hRAsA hRBsA hRAsB hRBsB hbV1 hbV2 hV2 hV1 hB0 hsd zV1
        all_goals
          · go_upto_region 7 with fail
            have HC4 : Hid (∀ W, Below W4.heap.size W4 W → Below w1.heap.size w1 W) := Lib.hid (fun W h => HN5.out W (HBW.out.trans (h.mono HBW.out.size)))
            refine wp_region_held (S := fun W => Below W4.heap.size W4 W) (by kernel_rfl) ?_
            have S0 : Below W4.heap.size W4 W4.drew := (Below.refl _ _).drew
            refine held_take (i := 0) (v := .agg #[.int .i64 p, .slice ad ds.length cap, .slice am ms.length capm]) (some 41) rfl rfl (by kernel_rfl) (by kernel_rfl) (by kernel_rfl) (fun _ _ _ h => h) (yieldsIf_cell (by kernel_rfl) rfl (by kernel_rfl) (fun W h => hload3x ((HN.out W (HC4.out W h)).1.1))) S0 ?_
            refine held_take (i := 1) (v := .agg #[.int .i64 p, .slice ad3 ds3.length cap3, .slice am3 ms3.length capm3]) (some 42) rfl rfl (by kernel_rfl) (by kernel_rfl) (by kernel_rfl) (fun _ _ _ h => h) (yieldsIf_cell (by kernel_rfl) rfl (by kernel_rfl) (fun W h => hload3x ((HN.out W (HC4.out W h)).1.2.2))) S0 ?_
            refine held_take (i := 2) (v := .agg #[.int .i64 p, .slice ad2 ds2.length cap2, .slice am2 ms2.length capm2, .int .i64 0, .slice af fs.length cf]) (some 43) rfl rfl (by kernel_rfl) (by kernel_rfl) (by kernel_rfl) (fun _ _ _ h => h) (yieldsIf_cell (by kernel_rfl) rfl (by kernel_rfl) (fun W h => hloadGr W (HGA.out.next h))) S0 ?_
            refine held_take (i := 3) (v := .func (.func 122) #[.agg #[.int .i64 p, .slice ad2 ds2.length cap2, .slice am2 ms2.length capm2, .int .i64 0, .slice af fs.length cf]] #[]) (some 44) rfl rfl (by kernel_rfl) (by kernel_rfl) (by kernel_rfl) (fun _ _ _ h => h) (yieldsIf_run (by kernel_rfl) (fun W _ => by kernel_rfl)) S0 ?_
            refine held_take (i := 4) (v := .agg #[.int .i64 p, .slice ad3 ds3.length cap3, .slice am3 ms3.length capm3, .int .i64 0, .slice ag gs.length cg]) (some 45) rfl rfl (by kernel_rfl) (by kernel_rfl) (by kernel_rfl) (fun _ _ _ h => h) (yieldsIf_cell (by kernel_rfl) rfl (by kernel_rfl) (fun W h => hloadGr W (HGB.out.next h))) S0 ?_
            refine held_take (i := 5) (v := .func (.func 122) #[.agg #[.int .i64 p, .slice ad3 ds3.length cap3, .slice am3 ms3.length capm3, .int .i64 0, .slice ag gs.length cg]] #[]) (some 46) rfl rfl (by kernel_rfl) (by kernel_rfl) (by kernel_rfl) (fun _ _ _ h => h) (yieldsIf_run (by kernel_rfl) (fun W _ => by kernel_rfl)) S0 ?_
            obtain ⟨U1, hU1⟩ : ∃ W', W' = W4.drew.alloc (.cells #[.func (.func 122) #[.agg #[.int .i64 p, .slice ad2 ds2.length cap2, .slice am2 ms2.length capm2, .int .i64 0, .slice af fs.length cf]] #[], .func (.func 122) #[.agg #[.int .i64 p, .slice ad3 ds3.length cap3, .slice am3 ms3.length capm3, .int .i64 0, .slice ag gs.length cg]] #[]] 121) := ⟨_, rfl⟩
            have hb1 : Below W4.drew.heap.size W4.drew U1 := by rw [hU1]; exact below_alloc1 _ _
            have u0 : U1.cell? ⟨W4.drew.heap.size, 0, none⟩ = some (.func (.func 122) #[.agg #[.int .i64 p, .slice ad2 ds2.length cap2, .slice am2 ms2.length capm2, .int .i64 0, .slice af fs.length cf]] #[]) := by rw [hU1]; exact cell_new2 _ _ _ _
            have u1 : U1.cell? ⟨W4.drew.heap.size, 1, none⟩ = some (.func (.func 122) #[.agg #[.int .i64 p, .slice ad3 ds3.length cap3, .slice am3 ms3.length capm3, .int .i64 0, .slice ag gs.length cg]] #[]) := by rw [hU1]; exact cell_new2' _ _ _ _
            have S1 : Below W4.heap.size W4 U1 := S0.trans (hb1.mono S0.size)
            refine held_mem (i := 6) (v := .slice (some ⟨W4.drew.heap.size, 0, none⟩) 2 2) (w' := U1) (some 47) (by kernel_rfl) rfl rfl rfl (by rw [hU1]; go_simp) S1 ?_
            refine held_enter (i := 7) (some 48) (f := 128) (args := #[.int .i64 1, .slice (some ⟨W4.drew.heap.size, 0, none⟩) 2 2]) (by kernel_rfl) rfl rfl rfl (by kernel_rfl) (along_any _ _ 2 2 U1) ?_ (fun c w' h => by cases h.1) (fun w' h => by cases h.1)
            rintro eq U2 ⟨heq, hb2⟩
            injection heq with heq
            subst heq
            have S2 : Below W4.heap.size W4 U2 := S1.trans (hb2.mono S1.size)
            have v0 := later hb2 (Nat.le_refl _) u0
            have v1 := later hb2 (Nat.le_refl _) u1
            refine ⟨S2, ?_⟩
            obtain ⟨WP, hWP⟩ : ∃ W', W' = U2.alloc (.cells #[.int .i64 1, .slice (some ⟨W4.drew.heap.size, 0, none⟩) 2 2] 129) := ⟨_, rfl⟩
            have hbP : Below U2.heap.size U2 WP := by rw [hWP]; exact below_alloc1 _ _
            have SP : Below W4.heap.size W4 WP := S2.trans (hbP.mono S2.size)
            have p0 : WP.cell? ⟨U2.heap.size, 0, none⟩ = some (.int .i64 1) := by rw [hWP]; simp
            have p1 : WP.cell? ⟨U2.heap.size, 1, none⟩ = some (.slice (some ⟨W4.drew.heap.size, 0, none⟩) 2 2) := by rw [hWP]; simp
            have hXY := HN.out WP (HC4.out WP SP)
            have hcon := pathsC_any p U2.heap.size W4.drew.heap.size _ _ _ _ _ _ _ _ ds ms ds2 ms2 ds3 ms3 fs gs WP hXY.1.1.cx hXY.1.2.1.cx hXY.1.2.2.cx hXY.2.1 hXY.2.2 HCX.out HCY.out HCZ.out hll.out HOF.out HOG.out p0 p1 (later hbP (Nat.le_refl _) v0) (later hbP (Nat.le_refl _) v1)
            refine held_mem (i := 8) (v := .slice (some ⟨U2.heap.size, 0, none⟩) 1 1) (w' := WP) (some 49) (by kernel_rfl) rfl rfl rfl (by rw [hWP]; go_simp) SP ?_
            refine held_enter (i := 9) (some 50) (f := 127) (args := #[.agg #[.int .i64 p, .slice ad ds.length cap, .slice am ms.length capm], .agg #[.int .i64 p, .slice ad3 ds3.length cap3, .slice am3 ms3.length capm3], .int .i64 0, .slice (some ⟨U2.heap.size, 0, none⟩) 1 1]) (by kernel_rfl) rfl rfl rfl (by kernel_rfl) hcon ?_ (fun c w' h => by obtain ⟨_, h, _⟩ := h; cases h) (fun w' h => by obtain ⟨_, h, _⟩ := h; cases h)
            rintro eF WF ⟨uF, heF, hrF, hbF⟩
            injection heF with heF
            subst heF
            have SF : Below W4.heap.size W4 WF := SP.trans (hbF.mono SP.size)
            have HWF := Lib.hid (HN.out WF (HC4.out WF SF)).1.1
            have hz1 : w.heap.size ≤ WP.heap.size := hXY.1.1.below.size
            have HRF := Lib.hid (hrF.wider hz1 (Nat.le_refl _))
            refine ⟨SF, ?_⟩
            obtain ⟨auF, cuF, hsF⟩ := hrF.shape
            obtain ⟨nF, hnF⟩ : ∃ n, n = (famL ds.length (rsF ds) (csF ds3 0) (cfZ p ds3 fs gs)).length := ⟨_, rfl⟩
            rw [← hnF] at hsF
            subst hsF
            refine held_take (i := 10) (v := .slice auF nF cuF) (some 10) rfl rfl (by kernel_rfl) (by kernel_rfl) (by kernel_rfl) (fun _ _ _ h => h) (yieldsIf_assign (by kernel_rfl) rfl (by kernel_rfl)) SF ?_
            refine held_take (i := 11) (v := .int .i64 0) (some 11) rfl rfl (by kernel_rfl) (by kernel_rfl) (by kernel_rfl) (fun _ _ _ h => h) (yieldsIf_assign (by kernel_rfl) rfl (by kernel_rfl)) SF ?_
            refine wpAnyH_done (by kernel_rfl) ?_ _
            simp only [Act.put, List.setIfInBounds_toArray, List.set_cons_zero, List.set_cons_succ]
            clear hcon hXY p0 p1 hWP hrF hbF u0 u1 v0 v1 hb1 hb2 hbP hU1 S0 S1 S2 SP SF
            go_wp2
            go_ret2
            exact ⟨_, _, 0, rfl, HRF.out, HWF.out.below, RsOut.of_yes HC0.out rfl⟩
      · have HC0 : Hid (cfCode p p p ds ms ds2 ms2 ds3 ms3 fs gs = 2) := Lib.hid (by unfold cfCode; rw [if_pos HEC.out.symm, if_neg (fun hh => hog hh.2)])
        go_wp2_with fail
        refine HGM.out.mono ?_
        rintro e w5 ⟨bb, rfl, hb, hbb⟩
        obtain rfl : bb = false := bb_no hbb hog
        have HB5 := Lib.hid (HB4.out.trans (hb.mono HB4.out.size))
        clear c0 c1 c2 d0 d1 d2 e0 e1 e2 hb hbb hog HGM
        have HH5 := Lib.hid (HN.out _ HB5.out)
        go_wp2
        go_ret2
        refine ⟨_, [], 2, rfl, Rw3.nil _ _ _, HH5.out.1.1.below, ?_⟩
        rw [HC0.out]
        exact RsOut.of_no (by decide)
    · have HC0 : Hid (cfCode p p p ds ms ds2 ms2 ds3 ms3 fs gs = 2) := Lib.hid (by unfold cfCode; rw [if_pos HEC.out.symm, if_neg (fun hh => hof hh.1)])
      go_wp2_with fail
      refine HFM.out.mono ?_
      rintro e w4 ⟨bb, rfl, hb, hbb⟩
      obtain rfl : bb = false := bb_no hbb hof
      have HB4 := Lib.hid (HB3.out.trans (hb.mono HB3.out.size))
      clear c0 c1 c2 d0 d1 d2 e0 e1 e2 hb hbb hof HFM
      have HH4 := Lib.hid (HN.out _ HB4.out)
      go_wp2
      go_ret2
      refine ⟨_, [], 2, rfl, Rw3.nil _ _ _, HH4.out.1.1.below, ?_⟩
      rw [HC0.out]
      exact RsOut.of_no (by decide)
  · have hne2 : (ec != 0) = true := by simp [h0]
    have hne3 : (ec == 0) = false := by simp [h0]
    have HNE := Lib.hid h0
    have HC0 : Hid (cfCode p p2 p3 ds ms ds2 ms2 ds3 ms3 fs gs = ec) := Lib.hid (by unfold cfCode; rw [← HEC.out, if_neg h0])
    clear h0
    have HH3 := Lib.hid (HN.out _ HB3.out)
    go_wp2
    go_ret2
    refine ⟨_, [], ec, rfl, Rw3.nil _ _ _, HH3.out.1.1.below, ?_⟩
    rw [HC0.out]
    exact RsOut.of_no HNE.out
end Go.Proofs.Ytpdkfidmmjlmnab
