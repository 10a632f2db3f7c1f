/-
  laws.FnExactReduceRows by its walk.
-/
import Derived.Test.YtpdkfidmmjlmnaaP3
import Derived.Test.YtpdkfidmmjlmnaaQg
namespace Go.Proofs.Ytpdkfidmmjlmnaa
open Go.RowKit

set_option maxHeartbeats 12800000 in
set_option maxRecDepth 100000 in
theorem lawRed_any (p n : Int) (v0 : Value) (rows : List (List Int)) (w : World) (hv0 : L2 0 w v0 rows) (mv0 : Bd2 9223372036854775807 rows) :
    Calls Try.prog 10 #[.int .i64 p, .int .i64 n, v0] w (BR (.bool true) w) := by
  have Hv0 := Lib.hid hv0
  obtain ⟨av0, cv0, ev0⟩ := Sl.shape hv0
  have Mv0 := Lib.hid mv0
  clear hv0 mv0
  subst ev0
  go_enter Try.func10, Try.ntmps10
  go_wp2_with fail
  refine (sz2_any _ rows 1048576 _ Hv0.out (by omega) (by omega) Mv0.out).mono ?_
  rintro e w' ⟨r0, rfl, rfl, hpost⟩
  rcases hpost with rfl | ⟨hp00, hp01, hp02⟩
  · go_wp2
    go_ret
    exact ⟨rfl, Below.refl _ _⟩
  have Bv0 := Lib.hid hp02
  clear hp02
  have HB0 : Hid (Below w.heap.size w w) := Lib.hid (Below.refl _ _)
  go_wp2_with fail
  refine (to2_any _ rows _ (Hv0.out.below HB0.out) Bv0.out).mono ?_
  rintro e ws1 ⟨t0, rfl, hl, hb⟩
  have hs1 : w.heap.size ≤ ws1.heap.size := hb.size
  have HBs1 := Lib.hid (HB0.out.trans (hb.mono HB0.out.size))
  have HT0_1 := Lib.hid (hl.lower (Nat.zero_le _))
  clear hl hb
  go_wp2_with fail
  refine (spReduceRows_any p n t0 rows _ HT0_1.out Bv0.out).mono ?_
  rintro e w4 ⟨u0, o0, k0, rfl, hl4, hb4, hout0⟩
  have HB4 := Lib.hid (HBs1.out.trans (hb4.mono HBs1.out.size))
  have HL4 := Lib.hid hl4
  have HO0 := Lib.hid hout0
  have HBD := Lib.hid (hout0.bd (fun h => by have := (spCode_zero h).2.1; omega))
  clear hl4 hb4 hout0 HT0_1
  go_wp2_with fail
  refine (to2w_any _ rows _ (Hv0.out.below HB4.out) Bv0.out).mono ?_
  rintro e wx1 ⟨x0, rfl, hwx, hb⟩
  have hx1 : w4.heap.size ≤ wx1.heap.size := hb.size
  have HBx1 := Lib.hid (HB4.out.trans (hb.mono HB4.out.size))
  have HKx1 := Lib.hid hb
  have HX0_1 := Lib.hid hwx
  clear hwx hb
  go_wp2_with fail
  refine (reduceRows_any p n x0 rows _ (HX0_1.out.l2.lower (Nat.zero_le _)) Bv0.out).mono ?_
  rintro e w7 ⟨u7, o7, k7, rfl, hw7, hb7, hout7⟩
  obtain ⟨rfl, rfl⟩ := SpOut.unique (fun h => (spCode_zero h).1.lo1) HO0.out hout7
  have hs7 : wx1.heap.size ≤ w7.heap.size := hb7.size
  have HB7 := Lib.hid (HBx1.out.trans (hb7.mono HBx1.out.size))
  have HK7 := Lib.hid (HKx1.out.trans (hb7.mono HKx1.out.size))
  have HX0 := Lib.hid (HX0_1.out.same (Same.of_below hb7 (by omega)))
  have HG := Lib.hid hw7
  clear hb7 hw7 hout7 HX0_1
  have hcode : (k0 != k0) = false := by simp
  go_wp2_with fail
  refine (eq2_true u7 u0 o0 _ HG.out.l2 (HL4.out.below HK7.out) HBD.out).mono ?_
  rintro e w8 ⟨rfl, hb⟩
  have hs8' : w7.heap.size ≤ w8.heap.size := hb.size
  have HB8 := Lib.hid (HB7.out.trans (hb.mono HB7.out.size))
  have HK8 := Lib.hid (HK7.out.trans (hb.mono HK7.out.size))
  have HX0_8' := Lib.hid (HX0.out.same (Same.of_below hb (by omega)))
  have HG8 := Lib.hid (HG.out.same (Same.of_below hb (by omega)))
  clear hb HX0 HG
  go_wp2_with fail
  refine (to2_any _ rows _ (Hv0.out.below HB8.out) Bv0.out).mono ?_
  rintro e w9 ⟨y0, rfl, hl, hb⟩
  have hs9' : w8.heap.size ≤ w9.heap.size := hb.size
  have HB9 := Lib.hid (HB8.out.trans (hb.mono HB8.out.size))
  have HK9 := Lib.hid (HK8.out.trans (hb.mono HK8.out.size))
  have HX0_9' := Lib.hid (HX0_8'.out.same (Same.of_below hb (by omega)))
  have HG9 := Lib.hid (HG8.out.same (Same.of_below hb (by omega)))
  have HY0 := Lib.hid (hl.lower (Nat.zero_le _)); clear hl
  clear hb HX0_8' HG8
  go_wp2_with fail
  refine (eq2_true _ y0 rows _ (HX0_9'.out.l2.lower (Nat.zero_le _)) HY0.out Bv0.out).mono ?_
  rintro e w10 ⟨rfl, hb⟩
  have hs10' : w9.heap.size ≤ w10.heap.size := hb.size
  have HB10 := Lib.hid (HB9.out.trans (hb.mono HB9.out.size))
  have HK10 := Lib.hid (HK9.out.trans (hb.mono HK9.out.size))
  have HX0_10' := Lib.hid (HX0_9'.out.same (Same.of_below hb (by omega)))
  have HG10 := Lib.hid (HG9.out.same (Same.of_below hb (by omega)))
  clear HY0
  clear hb HX0_9' HG9
  have hl0 : rows.length ≤ 1048576 := Bv0.out.1
  go_wp2_with fail
  refine (mark2_any (lo := w4.heap.size) (hi := wx1.heap.size) _ rows 1 _ HX0_10'.out.t2 Bv0.out (by omega) (by omega)).mono ?_
  rintro e w11 ⟨q0, rfl, hq00, hq01, ho, ht⟩
  have hs11' : w10.heap.size ≤ w11.heap.size := Nat.le_of_eq ho.size.symm
  have HB11 := Lib.hid (HB10.out.trans (ho.below (by have := HBx1.out.size; have := HB4.out.size; omega)))
  have HK11 := Lib.hid (HK10.out.trans (ho.below (by omega)))
  have HG11 := Lib.hid (HG10.out.same (ho.same (Or.inr (by omega))))
  clear ho ht HG10 HX0_10'
  go_wp2_with fail
  refine (eq2_true u7 u0 o0 _ HG11.out.l2 (HL4.out.below HK11.out) HBD.out).mono ?_
  rintro e w12 ⟨rfl, hb⟩
  have hs12' : w11.heap.size ≤ w12.heap.size := hb.size
  have HB12 := Lib.hid (HB11.out.trans (hb.mono HB11.out.size))
  have HK12 := Lib.hid (HK11.out.trans (hb.mono HK11.out.size))
  have HG12 := Lib.hid (HG11.out.same (Same.of_below hb (by omega)))
  clear hb HG11
  go_wp2_with fail
  refine (markT_any u7 o0 1 _ HG12.out (by omega) (by omega)).mono ?_
  rintro e w13 ⟨mm, rfl, hm0, hm1, ho, hmk⟩
  have hs13' : w12.heap.size ≤ w13.heap.size := Nat.le_of_eq ho.size.symm
  have HB13 := Lib.hid (HB12.out.trans (ho.below (by have := HBx1.out.size; have := HB4.out.size; omega)))
  have HK13 := Lib.hid (HK12.out.trans (ho.below (by omega)))
  have HM13 := Lib.hid hmk
  clear ho hmk HG12
  have hneg : ¬ mm < 0 := by omega
  have hsum : (mm != mm) = false := by simp
  go_wp2_with fail
  refine (heldT_any u7 1 mm _ HM13.out (by omega) (by omega)).mono ?_
  rintro e w' ⟨rfl, rfl⟩
  go_wp2_with fail
  refine (to2_any _ rows _ (Hv0.out.below HB13.out) Bv0.out).mono ?_
  rintro e w14 ⟨z0, rfl, hl, hb⟩
  have hs14' : w13.heap.size ≤ w14.heap.size := hb.size
  have HB14 := Lib.hid (HB13.out.trans (hb.mono HB13.out.size))
  have HK14 := Lib.hid (HK13.out.trans (hb.mono HK13.out.size))
  have HM14 := Lib.hid (HM13.out.same (Same.of_below hb (by omega)))
  have HZ0_0 := Lib.hid (hl.lower (Nat.zero_le _)); clear hl
  clear hb HM13
  go_wp2_with fail
  refine (reduceRows_any p n z0 rows _ HZ0_0.out Bv0.out).mono ?_
  rintro e w15 ⟨uJ, oJ, kJ, rfl, hwJ, hb, houtJ⟩
  have hs15' : w14.heap.size ≤ w15.heap.size := hb.size
  have HB15 := Lib.hid (HB14.out.trans (hb.mono HB14.out.size))
  have HK15 := Lib.hid (HK14.out.trans (hb.mono HK14.out.size))
  have HM15 := Lib.hid (HM14.out.same (Same.of_below hb (by omega)))
  obtain ⟨rfl, rfl⟩ := SpOut.unique (fun h => (spCode_zero h).1.lo1) HO0.out houtJ; have HJ := Lib.hid hwJ.l2; clear hwJ houtJ
  clear hb HM14
  go_wp2_with fail
  refine (eq2_true uJ u0 o0 _ HJ.out (HL4.out.below HK15.out) HBD.out).mono ?_
  rintro e w16 ⟨rfl, hb⟩
  have hs16' : w15.heap.size ≤ w16.heap.size := hb.size
  have HB16 := Lib.hid (HB15.out.trans (hb.mono HB15.out.size))
  have HK16 := Lib.hid (HK15.out.trans (hb.mono HK15.out.size))
  have HM16 := Lib.hid (HM15.out.same (Same.of_below hb (by omega)))
  clear HJ
  clear hb HM15
  go_wp2_with fail
  refine (heldT_any u7 1 mm _ HM16.out (by omega) (by omega)).mono ?_
  rintro e w' ⟨rfl, rfl⟩
  go_wp2
  go_ret
  exact ⟨rfl, HB16.out⟩
end Go.Proofs.Ytpdkfidmmjlmnaa
