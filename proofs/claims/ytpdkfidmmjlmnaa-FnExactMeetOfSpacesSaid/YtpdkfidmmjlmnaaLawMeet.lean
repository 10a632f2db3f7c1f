/-
  laws.FnExactMeetOfSpaces by its walk.
-/
import Derived.Test.YtpdkfidmmjlmnaaMeet
import Derived.Test.YtpdkfidmmjlmnaaQg
namespace Go.Proofs.Ytpdkfidmmjlmnaa
open Go.RowKit

set_option maxHeartbeats 12800000 in
set_option maxRecDepth 100000 in
theorem lawMeet_any (p n : Int) (v0 v1 : Value) (ra rb : List (List Int)) (w : World) (hv0 : L2 0 w v0 ra) (hv1 : L2 0 w v1 rb) (mv0 : Bd2 9223372036854775807 ra) (mv1 : Bd2 9223372036854775807 rb) :
    Calls Try.prog 12 #[.int .i64 p, .int .i64 n, v0, v1] w (BR (.bool true) w) := by
  have Hv0 := Lib.hid hv0
  obtain ⟨av0, cv0, ev0⟩ := Sl.shape hv0
  have Mv0 := Lib.hid mv0
  have Hv1 := Lib.hid hv1
  obtain ⟨av1, cv1, ev1⟩ := Sl.shape hv1
  have Mv1 := Lib.hid mv1
  clear hv0 mv0 hv1 mv1
  subst ev0 ev1
  go_enter Try.func12, Try.ntmps12
  go_wp2_with fail
  refine (sz2_any _ ra 1048576 _ Hv0.out (by omega) (by omega) Mv0.out).mono ?_
  rintro e w' ⟨r0, rfl, rfl, hpost⟩
  rcases hpost with rfl | ⟨hp00, hp01, hp02⟩
  · go_wp2
    go_ret
    exact ⟨rfl, Below.refl _ _⟩
  have Bv0 := Lib.hid hp02
  clear hp02
  go_wp2_with fail
  refine (sz2_any _ rb r0 _ Hv1.out (by omega) (by omega) Mv1.out).mono ?_
  rintro e w' ⟨r1, rfl, rfl, hpost⟩
  rcases hpost with rfl | ⟨hp10, hp11, hp12⟩
  · go_wp2
    go_ret
    exact ⟨rfl, Below.refl _ _⟩
  have Bv1 := Lib.hid hp12
  clear hp12
  have HB0 : Hid (Below w.heap.size w w) := Lib.hid (Below.refl _ _)
  go_wp2_with fail
  refine (to2_any _ ra _ (Hv0.out.below HB0.out) Bv0.out).mono ?_
  rintro e ws1 ⟨t0, rfl, hl, hb⟩
  have hs1 : w.heap.size ≤ ws1.heap.size := hb.size
  have HBs1 := Lib.hid (HB0.out.trans (hb.mono HB0.out.size))
  have HT0_1 := Lib.hid (hl.lower (Nat.zero_le _))
  clear hl hb
  go_wp2_with fail
  refine (to2_any _ rb _ (Hv1.out.below HBs1.out) Bv1.out).mono ?_
  rintro e ws2 ⟨t1, rfl, hl, hb⟩
  have hs2 : ws1.heap.size ≤ ws2.heap.size := hb.size
  have HBs2 := Lib.hid (HBs1.out.trans (hb.mono HBs1.out.size))
  have HT0_2 := Lib.hid (HT0_1.out.below hb)
  have HT1_2 := Lib.hid (hl.lower (Nat.zero_le _))
  clear hl hb
  go_wp2_with fail
  refine (spMeetOfSpaces_any p n t0 t1 ra rb _ HT0_2.out HT1_2.out Bv0.out Bv1.out).mono ?_
  rintro e w4 ⟨u0, o0, k0, rfl, hl4, hb4, hout0⟩
  have HB4 := Lib.hid (HBs2.out.trans (hb4.mono HBs2.out.size))
  have HL4 := Lib.hid hl4
  have HO0 := Lib.hid hout0
  have HBD := Lib.hid (hout0.bd (fun h => by have := (spsCode_zero h).1.2; omega))
  clear hl4 hb4 hout0 HT0_2 HT1_2
  go_wp2_with fail
  refine (to2w_any _ ra _ (Hv0.out.below HB4.out) Bv0.out).mono ?_
  rintro e wx1 ⟨x0, rfl, hwx, hb⟩
  have hx1 : w4.heap.size ≤ wx1.heap.size := hb.size
  have HBx1 := Lib.hid (HB4.out.trans (hb.mono HB4.out.size))
  have HKx1 := Lib.hid hb
  have HX0_1 := Lib.hid hwx
  clear hwx hb
  go_wp2_with fail
  refine (to2w_any _ rb _ (Hv1.out.below HBx1.out) Bv1.out).mono ?_
  rintro e wx2 ⟨x1, rfl, hwx, hb⟩
  have hx2 : wx1.heap.size ≤ wx2.heap.size := hb.size
  have HBx2 := Lib.hid (HBx1.out.trans (hb.mono HBx1.out.size))
  have HKx2 := Lib.hid (HKx1.out.trans (hb.mono HKx1.out.size))
  have HX0_2 := Lib.hid (HX0_1.out.same (Same.of_below hb (by omega)))
  have HX1_2 := Lib.hid hwx
  clear hwx hb
  go_wp2_with fail
  refine (meetOfSpaces_any p n x0 x1 ra rb _ (HX0_2.out.l2.lower (Nat.zero_le _)) (HX1_2.out.l2.lower (Nat.zero_le _)) Bv0.out Bv1.out).mono ?_
  rintro e w7 ⟨u7, o7, k7, rfl, hw7, hb7, hout7⟩
  obtain ⟨rfl, rfl⟩ := SpOut.unique (fun h => (spsCode_zero h).1.1.lo1) HO0.out hout7
  have hs7 : wx2.heap.size ≤ w7.heap.size := hb7.size
  have HB7 := Lib.hid (HBx2.out.trans (hb7.mono HBx2.out.size))
  have HK7 := Lib.hid (HKx2.out.trans (hb7.mono HKx2.out.size))
  have HX0 := Lib.hid (HX0_2.out.same (Same.of_below hb7 (by omega)))
  have HX1 := Lib.hid (HX1_2.out.same (Same.of_below hb7 (by omega)))
  have HG := Lib.hid hw7
  clear hb7 hw7 hout7 HX0_2 HX1_2
  have hcode : (k0 != k0) = false := by simp
  go_wp2_with fail
  refine (eq2_true u7 u0 o0 _ HG.out.l2 (HL4.out.below HK7.out) HBD.out).mono ?_
  rintro e w8 ⟨rfl, hb⟩
  have hs8' : w7.heap.size ≤ w8.heap.size := hb.size
  have HB8 := Lib.hid (HB7.out.trans (hb.mono HB7.out.size))
  have HK8 := Lib.hid (HK7.out.trans (hb.mono HK7.out.size))
  have HX0_8' := Lib.hid (HX0.out.same (Same.of_below hb (by omega)))
  have HX1_8' := Lib.hid (HX1.out.same (Same.of_below hb (by omega)))
  have HG8 := Lib.hid (HG.out.same (Same.of_below hb (by omega)))
  clear hb HX0 HX1 HG
  go_wp2_with fail
  refine (to2_any _ ra _ (Hv0.out.below HB8.out) Bv0.out).mono ?_
  rintro e w9 ⟨y0, rfl, hl, hb⟩
  have hs9' : w8.heap.size ≤ w9.heap.size := hb.size
  have HB9 := Lib.hid (HB8.out.trans (hb.mono HB8.out.size))
  have HK9 := Lib.hid (HK8.out.trans (hb.mono HK8.out.size))
  have HX0_9' := Lib.hid (HX0_8'.out.same (Same.of_below hb (by omega)))
  have HX1_9' := Lib.hid (HX1_8'.out.same (Same.of_below hb (by omega)))
  have HG9 := Lib.hid (HG8.out.same (Same.of_below hb (by omega)))
  have HY0 := Lib.hid (hl.lower (Nat.zero_le _)); clear hl
  clear hb HX0_8' HX1_8' HG8
  go_wp2_with fail
  refine (eq2_true _ y0 ra _ (HX0_9'.out.l2.lower (Nat.zero_le _)) HY0.out Bv0.out).mono ?_
  rintro e w10 ⟨rfl, hb⟩
  have hs10' : w9.heap.size ≤ w10.heap.size := hb.size
  have HB10 := Lib.hid (HB9.out.trans (hb.mono HB9.out.size))
  have HK10 := Lib.hid (HK9.out.trans (hb.mono HK9.out.size))
  have HX0_10' := Lib.hid (HX0_9'.out.same (Same.of_below hb (by omega)))
  have HX1_10' := Lib.hid (HX1_9'.out.same (Same.of_below hb (by omega)))
  have HG10 := Lib.hid (HG9.out.same (Same.of_below hb (by omega)))
  clear HY0
  clear hb HX0_9' HX1_9' HG9
  go_wp2_with fail
  refine (to2_any _ rb _ (Hv1.out.below HB10.out) Bv1.out).mono ?_
  rintro e w11 ⟨y1, rfl, hl, hb⟩
  have hs11' : w10.heap.size ≤ w11.heap.size := hb.size
  have HB11 := Lib.hid (HB10.out.trans (hb.mono HB10.out.size))
  have HK11 := Lib.hid (HK10.out.trans (hb.mono HK10.out.size))
  have HX0_11' := Lib.hid (HX0_10'.out.same (Same.of_below hb (by omega)))
  have HX1_11' := Lib.hid (HX1_10'.out.same (Same.of_below hb (by omega)))
  have HG11 := Lib.hid (HG10.out.same (Same.of_below hb (by omega)))
  have HY1 := Lib.hid (hl.lower (Nat.zero_le _)); clear hl
  clear hb HX0_10' HX1_10' HG10
  go_wp2_with fail
  refine (eq2_true _ y1 rb _ (HX1_11'.out.l2.lower (Nat.zero_le _)) HY1.out Bv1.out).mono ?_
  rintro e w12 ⟨rfl, hb⟩
  have hs12' : w11.heap.size ≤ w12.heap.size := hb.size
  have HB12 := Lib.hid (HB11.out.trans (hb.mono HB11.out.size))
  have HK12 := Lib.hid (HK11.out.trans (hb.mono HK11.out.size))
  have HX0_12' := Lib.hid (HX0_11'.out.same (Same.of_below hb (by omega)))
  have HX1_12' := Lib.hid (HX1_11'.out.same (Same.of_below hb (by omega)))
  have HG12 := Lib.hid (HG11.out.same (Same.of_below hb (by omega)))
  clear HY1
  clear hb HX0_11' HX1_11' HG11
  have hl0 : ra.length ≤ 1048576 := Bv0.out.1
  go_wp2_with fail
  refine (mark2_any (lo := w4.heap.size) (hi := wx1.heap.size) _ ra 1 _ HX0_12'.out.t2 Bv0.out (by omega) (by omega)).mono ?_
  rintro e w13 ⟨q0, rfl, hq00, hq01, ho, ht⟩
  have hs13' : w12.heap.size ≤ w13.heap.size := Nat.le_of_eq ho.size.symm
  have HB13 := Lib.hid (HB12.out.trans (ho.below (by have := HBx2.out.size; have := HB4.out.size; omega)))
  have HK13 := Lib.hid (HK12.out.trans (ho.below (by omega)))
  have HG13 := Lib.hid (HG12.out.same (ho.same (Or.inr (by omega))))
  have HX1_13' := Lib.hid (HX1_12'.out.same (ho.same (Or.inr (by omega))))
  clear ho ht HG12 HX0_12' HX1_12'
  have hl1 : rb.length ≤ 1048576 := Bv1.out.1
  go_wp2_with fail
  refine (mark2_any (lo := wx1.heap.size) (hi := wx2.heap.size) _ rb q0 _ HX1_13'.out.t2 Bv1.out (by omega) (by omega)).mono ?_
  rintro e w14 ⟨q1, rfl, hq10, hq11, ho, ht⟩
  have hs14' : w13.heap.size ≤ w14.heap.size := Nat.le_of_eq ho.size.symm
  have HB14 := Lib.hid (HB13.out.trans (ho.below (by have := HBx2.out.size; have := HB4.out.size; omega)))
  have HK14 := Lib.hid (HK13.out.trans (ho.below (by omega)))
  have HG14 := Lib.hid (HG13.out.same (ho.same (Or.inr (by omega))))
  clear ho ht HG13 HX1_13'
  go_wp2_with fail
  refine (eq2_true u7 u0 o0 _ HG14.out.l2 (HL4.out.below HK14.out) HBD.out).mono ?_
  rintro e w15 ⟨rfl, hb⟩
  have hs15' : w14.heap.size ≤ w15.heap.size := hb.size
  have HB15 := Lib.hid (HB14.out.trans (hb.mono HB14.out.size))
  have HK15 := Lib.hid (HK14.out.trans (hb.mono HK14.out.size))
  have HG15 := Lib.hid (HG14.out.same (Same.of_below hb (by omega)))
  clear hb HG14
  go_wp2_with fail
  refine (markT_any u7 o0 1 _ HG15.out (by omega) (by omega)).mono ?_
  rintro e w16 ⟨mm, rfl, hm0, hm1, ho, hmk⟩
  have hs16' : w15.heap.size ≤ w16.heap.size := Nat.le_of_eq ho.size.symm
  have HB16 := Lib.hid (HB15.out.trans (ho.below (by have := HBx2.out.size; have := HB4.out.size; omega)))
  have HK16 := Lib.hid (HK15.out.trans (ho.below (by omega)))
  have HM16 := Lib.hid hmk
  clear ho hmk HG15
  have hneg : ¬ mm < 0 := by omega
  have hsum : (mm != mm) = false := by simp
  go_wp2_with fail
  refine (heldT_any u7 1 mm _ HM16.out (by omega) (by omega)).mono ?_
  rintro e w' ⟨rfl, rfl⟩
  go_wp2_with fail
  refine (to2_any _ ra _ (Hv0.out.below HB16.out) Bv0.out).mono ?_
  rintro e w17 ⟨z0, rfl, hl, hb⟩
  have hs17' : w16.heap.size ≤ w17.heap.size := hb.size
  have HB17 := Lib.hid (HB16.out.trans (hb.mono HB16.out.size))
  have HK17 := Lib.hid (HK16.out.trans (hb.mono HK16.out.size))
  have HM17 := Lib.hid (HM16.out.same (Same.of_below hb (by omega)))
  have HZ0_0 := Lib.hid (hl.lower (Nat.zero_le _)); clear hl
  clear hb HM16
  go_wp2_with fail
  refine (to2_any _ rb _ (Hv1.out.below HB17.out) Bv1.out).mono ?_
  rintro e w18 ⟨z1, rfl, hl, hb⟩
  have hs18' : w17.heap.size ≤ w18.heap.size := hb.size
  have HB18 := Lib.hid (HB17.out.trans (hb.mono HB17.out.size))
  have HK18 := Lib.hid (HK17.out.trans (hb.mono HK17.out.size))
  have HM18 := Lib.hid (HM17.out.same (Same.of_below hb (by omega)))
  have HZ1_1 := Lib.hid (hl.lower (Nat.zero_le _)); have HZ0_1 := Lib.hid (HZ0_0.out.below hb); clear hl
  clear hb HM17
  go_wp2_with fail
  refine (meetOfSpaces_any p n z0 z1 ra rb _ HZ0_1.out HZ1_1.out Bv0.out Bv1.out).mono ?_
  rintro e w19 ⟨uJ, oJ, kJ, rfl, hwJ, hb, houtJ⟩
  have hs19' : w18.heap.size ≤ w19.heap.size := hb.size
  have HB19 := Lib.hid (HB18.out.trans (hb.mono HB18.out.size))
  have HK19 := Lib.hid (HK18.out.trans (hb.mono HK18.out.size))
  have HM19 := Lib.hid (HM18.out.same (Same.of_below hb (by omega)))
  obtain ⟨rfl, rfl⟩ := SpOut.unique (fun h => (spsCode_zero h).1.1.lo1) HO0.out houtJ; have HJ := Lib.hid hwJ.l2; clear hwJ houtJ
  clear hb HM18
  go_wp2_with fail
  refine (eq2_true uJ u0 o0 _ HJ.out (HL4.out.below HK19.out) HBD.out).mono ?_
  rintro e w20 ⟨rfl, hb⟩
  have hs20' : w19.heap.size ≤ w20.heap.size := hb.size
  have HB20 := Lib.hid (HB19.out.trans (hb.mono HB19.out.size))
  have HK20 := Lib.hid (HK19.out.trans (hb.mono HK19.out.size))
  have HM20 := Lib.hid (HM19.out.same (Same.of_below hb (by omega)))
  clear HJ
  clear hb HM19
  go_wp2_with fail
  refine (heldT_any u7 1 mm _ HM20.out (by omega) (by omega)).mono ?_
  rintro e w' ⟨rfl, rfl⟩
  go_wp2
  go_ret
  exact ⟨rfl, HB20.out⟩
end Go.Proofs.Ytpdkfidmmjlmnaa
