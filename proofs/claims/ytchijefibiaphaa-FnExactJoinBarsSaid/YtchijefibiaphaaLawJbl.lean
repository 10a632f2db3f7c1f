/-
  laws.FnExactJoinBars by its walk.
-/
import Derived.Test.YtchijefibiaphaaBjp
import Derived.Test.YtchijefibiaphaaBml
import Derived.Test.YtchijefibiaphaaRw
import Derived.Test.YtchijefibiaphaaEnd
import Derived.Test.YtchijefibiaphaaQg
import Derived.Test.YtchijefibiaphaaVal
import Derived.Test.YtchijefibiaphaaQh
import Derived.Deep.RegionWith
import Derived.Deep.RegionHeld3
import Derived.BigRegion
import Derived.BigQuiet
import Derived.Deep.QuietTactic
namespace Go.Proofs.Ytchijefibiaphaa
open Go.RowKit

set_option maxHeartbeats 12800000 in
set_option maxRecDepth 100000 in
theorem lawJbl_any (fv0 : Value) (fs0 : List B3) (fv1 : Value) (fs1 : List B3) (w : World) (h0 : Br 0 w fv0 fs0) (hml0 : fs0.length ≤ 9223372036854775807) (h1 : Br 0 w fv1 fs1) (hml1 : fs1.length ≤ 9223372036854775807) :
    Calls Try.prog 10 #[fv0, fv1] w (BR (.bool true) w) := by
  have HS0 : Hid (w.heap.size = w.heap.size + 0) := Lib.hid (by simp)
  have HZ0 : Hid (Below w.heap.size w w) := Lib.hid (by exact Below.refl _ _)
  have HN0 : Hid (∀ W, Below (w.heap.size + 0) w W → Br 0 W fv0 fs0) := Lib.hid (fun W hb => (h0.below HZ0.out).below (by rw [HS0.out]; exact hb))
  have HN1 : Hid (∀ W, Below (w.heap.size + 0) w W → Br 0 W fv1 fs1) := Lib.hid (fun W hb => (h1.below HZ0.out).below (by rw [HS0.out]; exact hb))
  have HNW : Hid (∀ W, Below (w.heap.size + 0) w W → Below w.heap.size w W) := Lib.hid (fun W hb => HZ0.out.trans (hb.mono (by omega)))
  have HB : Hid (Below (w.heap.size + 0) w w) := Lib.hid (Below.refl _ _)
  have hs0 : w.heap.size + 0 ≤ w.heap.size := by have := HS0.out; omega
  have HML0 := Lib.hid hml0
  obtain ⟨af0, cf0, ef0⟩ := Br.shape h0
  subst ef0
  have HML1 := Lib.hid hml1
  obtain ⟨af1, cf1, ef1⟩ := Br.shape h1
  subst ef1
  clear h0 h1 hml0 hml1
  go_enter Try.func10, Try.ntmps10
  go_upto_region 1 with fail
  go_wp2_with fail
  refine (szB_any _ fs0 1048576 _ (HN0.out _ HB.out) (by omega) (by omega) HML0.out).mono ?_
  rintro ee w' ⟨sz0, rfl, rfl, hpost⟩
  rcases hpost with rfl | ⟨hp00, hp01, hpm0⟩
  · go_wp2
    go_ret
    exact ⟨rfl, HNW.out _ HB.out⟩
  have HMS0 := Lib.hid hpm0
  clear hpm0
  go_wp2_with fail
  refine (szB_any _ fs1 sz0 _ (HN1.out _ HB.out) (by omega) (by omega) HML1.out).mono ?_
  rintro ee w' ⟨sz1, rfl, rfl, hpost⟩
  rcases hpost with rfl | ⟨hp10, hp11, hpm1⟩
  · go_wp2
    go_ret
    exact ⟨rfl, HNW.out _ HB.out⟩
  have HMS1 := Lib.hid hpm1
  clear hpm1
  have HQd : Hid (Below w.heap.size w w) := Lib.hid (Below.refl _ _)
  go_wp2_with fail
  refine (toB_any _ fs0 _ (HN0.out _ HB.out) HMS0.out).mono ?_
  rintro ee wS0 ⟨xvS0, rfl, hc, hb⟩
  have hsS0 : w.heap.size ≤ wS0.heap.size := hb.size
  have HBS0 := Lib.hid (HB.out.trans (hb.mono (by omega)))
  have HQ0 := Lib.hid (HQd.out.trans (hb.mono (by omega)))
  have HXS00 := Lib.hid (hc.lower (Nat.zero_le _))
  clear hb hc
  go_wp2_with fail
  refine (toB_any _ fs1 _ (HN1.out _ HBS0.out) HMS1.out).mono ?_
  rintro ee wS1 ⟨xvS1, rfl, hc, hb⟩
  have hsS1 : wS0.heap.size ≤ wS1.heap.size := hb.size
  have HBS1 := Lib.hid (HBS0.out.trans (hb.mono (by omega)))
  have HQ1 := Lib.hid (HQ0.out.trans (hb.mono (by omega)))
  have HXS01 := Lib.hid (HXS00.out.below hb)
  have HXS11 := Lib.hid (hc.lower (Nat.zero_le _))
  clear hb hc
  go_wp2_with fail
  refine (spJoinBars_any xvS0 xvS1 fs0 fs1 _ (HXS01.out) (HXS11.out) HMS0.out HMS1.out).mono ?_
  rintro ee wSr ⟨uS, oS, kS, rfl, hrS, hb, hoS⟩
  have hsSr : wS1.heap.size ≤ wSr.heap.size := hb.size
  have HBSr := Lib.hid (HBS1.out.trans (hb.mono (by omega)))
  have HQr := Lib.hid (HQ1.out.trans (hb.mono (by omega)))
  have HRS := Lib.hid hrS
  have HOS := Lib.hid hoS
  clear hb hoS hrS
  have hb := HQr.out
  clear HQd HQr HQ0 HQ1 HXS00 HXS01 HXS11 HBS0 HBS1 HBSr
  have HB' := Lib.hid (HB.out.trans (hb.mono (by omega)))
  clear hb HB
  have HB := HB'
  clear HB'
  have HBD : Hid (oS.length ≤ 1048576) := Lib.hid (HOS.out.all (Q := fun o => o.length ≤ 1048576) (by simp) (fun h0 a ha => jb_short h0 ha))
  have HK : Hid (Below wSr.heap.size wSr wSr) := Lib.hid (Below.refl _ _)
  go_wp2_with fail
  refine (toBw_any _ fs0 _ (HN0.out _ HB.out) HMS0.out).mono ?_
  rintro ee wc0 ⟨yv0, rfl, hc, hb⟩
  have hsc0 : wSr.heap.size ≤ wc0.heap.size := hb.size
  have HB' := Lib.hid (HB.out.trans (hb.mono (by omega)))
  have HK' := Lib.hid (HK.out.trans (hb.mono (by omega)))
  clear hb HB HK
  have HB := HB'
  have HK := HK'
  clear HB' HK'
  have HC0 := Lib.hid hc
  obtain ⟨ya0, yc0, rfl⟩ := BrW.shape hc
  clear hc
  go_wp2_with fail
  refine (toBw_any _ fs1 _ (HN1.out _ HB.out) HMS1.out).mono ?_
  rintro ee wc1 ⟨yv1, rfl, hc, hb⟩
  have hsc1 : wc0.heap.size ≤ wc1.heap.size := hb.size
  have HB' := Lib.hid (HB.out.trans (hb.mono (by omega)))
  have HK' := Lib.hid (HK.out.trans (hb.mono (by omega)))
  have HC0' := Lib.hid (HC0.out.same (Same.of_below hb (by omega)))
  clear hb HB HK HC0
  have HB := HB'
  have HK := HK'
  have HC0 := HC0'
  clear HB' HK' HC0'
  have HC1 := Lib.hid hc
  obtain ⟨ya1, yc1, rfl⟩ := BrW.shape hc
  clear hc
  go_wp2_with fail
  refine (joinBars_any _ _ fs0 fs1 _ (HC0.out.br.lower (Nat.zero_le _)) (HC1.out.br.lower (Nat.zero_le _)) HMS0.out HMS1.out).mono ?_
  rintro ee w7 ⟨u7, o7, k7, rfl, hw7, hb, hout7⟩
  obtain ⟨rfl, rfl⟩ := RsOut.unique (fun h0 a b ha hb => jb_unique h0 ha hb) HOS.out hout7
  have hs7 : wc1.heap.size ≤ w7.heap.size := hb.size
  have HB' := Lib.hid (HB.out.trans (hb.mono (by omega)))
  have HK' := Lib.hid (HK.out.trans (hb.mono (by omega)))
  have HC0' := Lib.hid (HC0.out.same (Same.of_below hb (by omega)))
  have HC1' := Lib.hid (HC1.out.same (Same.of_below hb (by omega)))
  clear hb HB HK HC0 HC1
  have HB := HB'
  have HK := HK'
  have HC0 := HC0'
  have HC1 := HC1'
  clear HB' HK' HC0' HC1'
  have HG := Lib.hid hw7
  clear hw7 hout7
  have hcode : (kS != kS) = false := by simp
  obtain ⟨aG, cG, eG⟩ := HG.out.shape
  obtain ⟨aS, cS, eS⟩ := Br.shape HRS.out
  subst eG eS
  go_wp2_with fail
  refine (eqB_true _ _ oS _ HG.out.l (HRS.out.below HK.out) HBD.out).mono ?_
  rintro ee we1 ⟨rfl, hb⟩
  have hse1 : w7.heap.size ≤ we1.heap.size := hb.size
  have HB' := Lib.hid (HB.out.trans (hb.mono (by omega)))
  have HK' := Lib.hid (HK.out.trans (hb.mono (by omega)))
  have HC0' := Lib.hid (HC0.out.same (Same.of_below hb (by omega)))
  have HC1' := Lib.hid (HC1.out.same (Same.of_below hb (by omega)))
  have HG' := Lib.hid (HG.out.same (Same.of_below hb (by omega)))
  clear hb HB HK HC0 HC1 HG
  have HB := HB'
  have HK := HK'
  have HC0 := HC0'
  have HC1 := HC1'
  have HG := HG'
  clear HB' HK' HC0' HC1' HG'
  go_wp2_with fail
  refine (toB_any _ fs0 _ (HN0.out _ HB.out) HMS0.out).mono ?_
  rintro ee w9 ⟨v9, rfl, hc, hb⟩
  have hs90 : we1.heap.size ≤ w9.heap.size := hb.size
  have HB' := Lib.hid (HB.out.trans (hb.mono (by omega)))
  have HK' := Lib.hid (HK.out.trans (hb.mono (by omega)))
  have HC0' := Lib.hid (HC0.out.same (Same.of_below hb (by omega)))
  have HC1' := Lib.hid (HC1.out.same (Same.of_below hb (by omega)))
  have HG' := Lib.hid (HG.out.same (Same.of_below hb (by omega)))
  clear hb HB HK HC0 HC1 HG
  have HB := HB'
  have HK := HK'
  have HC0 := HC0'
  have HC1 := HC1'
  have HG := HG'
  clear HB' HK' HC0' HC1' HG'
  have HV9 := Lib.hid (hc.lower (Nat.zero_le _))
  clear hc
  obtain ⟨a9, c9, e9⟩ := Br.shape HV9.out
  subst e9
  go_wp2_with fail
  refine (eqB_true _ _ fs0 _ (HC0.out.br.lower (Nat.zero_le _)) HV9.out HMS0.out).mono ?_
  rintro ee wA0 ⟨rfl, hb⟩
  have hsa0 : w9.heap.size ≤ wA0.heap.size := hb.size
  clear HV9
  have HB' := Lib.hid (HB.out.trans (hb.mono (by omega)))
  have HK' := Lib.hid (HK.out.trans (hb.mono (by omega)))
  have HC0' := Lib.hid (HC0.out.same (Same.of_below hb (by omega)))
  have HC1' := Lib.hid (HC1.out.same (Same.of_below hb (by omega)))
  have HG' := Lib.hid (HG.out.same (Same.of_below hb (by omega)))
  clear hb HB HK HC0 HC1 HG
  have HB := HB'
  have HK := HK'
  have HC0 := HC0'
  have HC1 := HC1'
  have HG := HG'
  clear HB' HK' HC0' HC1' HG'
  have hsq0 : we1.heap.size ≤ wA0.heap.size := by omega
  obtain ⟨w9k, hw9k⟩ : ∃ w9k, w9k = w9 := ⟨_, rfl⟩
  clear hw9k w9k
  go_wp2_with fail
  refine (toB_any _ fs1 _ (HN1.out _ HB.out) HMS1.out).mono ?_
  rintro ee w9 ⟨v9, rfl, hc, hb⟩
  have hs91 : wA0.heap.size ≤ w9.heap.size := hb.size
  have HB' := Lib.hid (HB.out.trans (hb.mono (by omega)))
  have HK' := Lib.hid (HK.out.trans (hb.mono (by omega)))
  have HC0' := Lib.hid (HC0.out.same (Same.of_below hb (by omega)))
  have HC1' := Lib.hid (HC1.out.same (Same.of_below hb (by omega)))
  have HG' := Lib.hid (HG.out.same (Same.of_below hb (by omega)))
  clear hb HB HK HC0 HC1 HG
  have HB := HB'
  have HK := HK'
  have HC0 := HC0'
  have HC1 := HC1'
  have HG := HG'
  clear HB' HK' HC0' HC1' HG'
  have HV9 := Lib.hid (hc.lower (Nat.zero_le _))
  clear hc
  obtain ⟨a9, c9, e9⟩ := Br.shape HV9.out
  subst e9
  go_wp2_with fail
  refine (eqB_true _ _ fs1 _ (HC1.out.br.lower (Nat.zero_le _)) HV9.out HMS1.out).mono ?_
  rintro ee wA1 ⟨rfl, hb⟩
  have hsa1 : w9.heap.size ≤ wA1.heap.size := hb.size
  clear HV9
  have HB' := Lib.hid (HB.out.trans (hb.mono (by omega)))
  have HK' := Lib.hid (HK.out.trans (hb.mono (by omega)))
  have HC0' := Lib.hid (HC0.out.same (Same.of_below hb (by omega)))
  have HC1' := Lib.hid (HC1.out.same (Same.of_below hb (by omega)))
  have HG' := Lib.hid (HG.out.same (Same.of_below hb (by omega)))
  clear hb HB HK HC0 HC1 HG
  have HB := HB'
  have HK := HK'
  have HC0 := HC0'
  have HC1 := HC1'
  have HG := HG'
  clear HB' HK' HC0' HC1' HG'
  have hsq1 : wA0.heap.size ≤ wA1.heap.size := by omega
  obtain ⟨w9k, hw9k⟩ : ∃ w9k, w9k = w9 := ⟨_, rfl⟩
  clear hw9k w9k
  go_wp2_with fail
  refine (markBar_any _ fs0 1 _ HC0.out.rwb HMS0.out (by omega) (by omega)).mono ?_
  rintro ee wD0 ⟨rfl, hoM, htM⟩
  obtain ⟨r0, hr0⟩ : ∃ r0, r0 = 1 + 3 * (fs0.length : Int) := ⟨_, rfl⟩
  rw [← hr0]
  have hrb0 : fs0.length ≤ 1048576 := HMS0.out
  have hr00 : 1 ≤ r0 := by omega
  have hr01 : r0 ≤ 1 + 3145728 := by omega
  clear hr0
  have hsE0 : wA1.heap.size ≤ wD0.heap.size := Nat.le_of_eq hoM.size.symm
  have HB' := Lib.hid (HB.out.trans (hoM.below (by omega)))
  have HK' := Lib.hid (HK.out.trans (hoM.below (by omega)))
  have HG' := Lib.hid (HG.out.same (hoM.same (by omega)))
  have HC1' := Lib.hid (HC1.out.same (hoM.same (by omega)))
  clear hoM htM HC0 HB HK HG HC1
  have HB := HB'
  have HK := HK'
  have HG := HG'
  have HC1 := HC1'
  clear HB' HK' HG' HC1'
  go_wp2_with fail
  refine (markBar_any _ fs1 r0 _ HC1.out.rwb HMS1.out (by omega) (by omega)).mono ?_
  rintro ee wD1 ⟨rfl, hoM, htM⟩
  obtain ⟨r1, hr1⟩ : ∃ r1, r1 = r0 + 3 * (fs1.length : Int) := ⟨_, rfl⟩
  rw [← hr1]
  have hrb1 : fs1.length ≤ 1048576 := HMS1.out
  have hr10 : r0 ≤ r1 := by omega
  have hr11 : r1 ≤ r0 + 3145728 := by omega
  clear hr1
  have hsE1 : wD0.heap.size ≤ wD1.heap.size := Nat.le_of_eq hoM.size.symm
  have HB' := Lib.hid (HB.out.trans (hoM.below (by omega)))
  have HK' := Lib.hid (HK.out.trans (hoM.below (by omega)))
  have HG' := Lib.hid (HG.out.same (hoM.same (by omega)))
  clear hoM htM HC1 HB HK HG
  have HB := HB'
  have HK := HK'
  have HG := HG'
  clear HB' HK' HG'
  have hneg0 : ¬ r1 < 0 := by omega
  go_wp2_with fail
  refine (eqB_true _ _ oS _ HG.out.l (HRS.out.below HK.out) HBD.out).mono ?_
  rintro ee we2 ⟨rfl, hb⟩
  have hse2 : wD1.heap.size ≤ we2.heap.size := hb.size
  have HB' := Lib.hid (HB.out.trans (hb.mono (by omega)))
  have HK' := Lib.hid (HK.out.trans (hb.mono (by omega)))
  have HG' := Lib.hid (HG.out.same (Same.of_below hb (by omega)))
  clear hb HB HK HG
  have HB := HB'
  have HK := HK'
  have HG := HG'
  clear HB' HK' HG'
  go_wp2_with fail
  refine (markRB_any HG.out HBD.out).mono ?_
  rintro ee wG ⟨mm, rfl, hm0, hm1, hoG, hmk⟩
  have hsG : we2.heap.size ≤ wG.heap.size := Nat.le_of_eq hoG.size.symm
  have HB' := Lib.hid (HB.out.trans (hoG.below (by omega)))
  have HK' := Lib.hid (HK.out.trans (hoG.below (by omega)))
  have HG' := Lib.hid hmk
  clear hoG hmk HB HK HG
  have HB := HB'
  have HK := HK'
  have HG := HG'
  clear HB' HK' HG'
  have hneg : ¬ mm < 0 := by omega
  have hsum : (mm != mm) = false := by simp
  go_wp2_with fail
  refine (heldRB_any HG.out).mono ?_
  rintro ee w' ⟨rfl, rfl⟩
  have HQd : Hid (Below wG.heap.size wG wG) := Lib.hid (Below.refl _ _)
  go_wp2_with fail
  refine (toB_any _ fs0 _ (HN0.out _ HB.out) HMS0.out).mono ?_
  rintro ee wJ0 ⟨xvJ0, rfl, hc, hb⟩
  have hsJ0 : wG.heap.size ≤ wJ0.heap.size := hb.size
  have HBJ0 := Lib.hid (HB.out.trans (hb.mono (by omega)))
  have HQ0 := Lib.hid (HQd.out.trans (hb.mono (by omega)))
  have HXJ00 := Lib.hid (hc.lower (Nat.zero_le _))
  clear hb hc
  go_wp2_with fail
  refine (toB_any _ fs1 _ (HN1.out _ HBJ0.out) HMS1.out).mono ?_
  rintro ee wJ1 ⟨xvJ1, rfl, hc, hb⟩
  have hsJ1 : wJ0.heap.size ≤ wJ1.heap.size := hb.size
  have HBJ1 := Lib.hid (HBJ0.out.trans (hb.mono (by omega)))
  have HQ1 := Lib.hid (HQ0.out.trans (hb.mono (by omega)))
  have HXJ01 := Lib.hid (HXJ00.out.below hb)
  have HXJ11 := Lib.hid (hc.lower (Nat.zero_le _))
  clear hb hc
  go_wp2_with fail
  refine (joinBars_any xvJ0 xvJ1 fs0 fs1 _ (HXJ01.out) (HXJ11.out) HMS0.out HMS1.out).mono ?_
  rintro ee wJr ⟨uJ, oJ, kJ, rfl, hrJ, hb, hoJ⟩
  have hsJr : wJ1.heap.size ≤ wJr.heap.size := hb.size
  have HBJr := Lib.hid (HBJ1.out.trans (hb.mono (by omega)))
  have HQr := Lib.hid (HQ1.out.trans (hb.mono (by omega)))
  have HRJ := Lib.hid hrJ
  have HOJ := Lib.hid hoJ
  clear hb hoJ hrJ
  have hb := HQr.out
  clear HQd HQr HQ0 HQ1 HXJ00 HXJ01 HXJ11 HBJ0 HBJ1 HBJr
  have HB' := Lib.hid (HB.out.trans (hb.mono (by omega)))
  have HK' := Lib.hid (HK.out.trans (hb.mono (by omega)))
  have HG' := Lib.hid (HG.out.same (Same.of_below hb (by omega)))
  clear hb HB HK HG
  have HB := HB'
  have HK := HK'
  have HG := HG'
  clear HB' HK' HG'
  obtain ⟨rfl, rfl⟩ := RsOut.unique (fun h0 a b ha hb => jb_unique h0 ha hb) HOS.out HOJ.out
  clear HOJ
  have HRJ' := Lib.hid HRJ.out.l
  clear HRJ
  have HRJ := HRJ'
  clear HRJ'
  go_wp2_with fail
  refine (eqB_true _ _ oS _ HRJ.out (HRS.out.below HK.out) HBD.out).mono ?_
  rintro ee wK ⟨rfl, hb⟩
  have hsK : wJr.heap.size ≤ wK.heap.size := hb.size
  clear HRJ
  have HB' := Lib.hid (HB.out.trans (hb.mono (by omega)))
  have HK' := Lib.hid (HK.out.trans (hb.mono (by omega)))
  have HG' := Lib.hid (HG.out.same (Same.of_below hb (by omega)))
  clear hb HB HK HG
  have HB := HB'
  have HK := HK'
  have HG := HG'
  clear HB' HK' HG'
  go_wp2_with fail
  refine (heldRB_any HG.out).mono ?_
  rintro ee w' ⟨rfl, rfl⟩
  go_wp2
  go_ret
  exact ⟨rfl, HNW.out _ HB.out⟩
end Go.Proofs.Ytchijefibiaphaa
