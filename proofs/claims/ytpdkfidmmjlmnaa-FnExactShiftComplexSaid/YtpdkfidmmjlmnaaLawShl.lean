/-
  laws.FnExactShiftComplex by its walk.
-/
import Derived.Test.YtpdkfidmmjlmnaaShw
import Derived.Test.YtpdkfidmmjlmnaaShs
import Derived.Test.YtpdkfidmmjlmnaaRc
import Derived.Test.YtpdkfidmmjlmnaaEnd
import Derived.Test.YtpdkfidmmjlmnaaQg
import Derived.Test.YtpdkfidmmjlmnaaQh
import Derived.Deep.RegionWith
import Derived.Deep.RegionHeld3
import Derived.BigRegion
import Derived.BigQuiet
import Derived.Deep.QuietTactic
namespace Go.Proofs.Ytpdkfidmmjlmnaa
open Go.RowKit

set_option maxHeartbeats 6400000 in
set_option maxRecDepth 100000 in
theorem lawShl_any (p0 : Int) (dv0 mv0 : Value) (ds0 : List Int) (ms0 : List (List (List Int))) (n1 : Int) (w : World) (h0 : Cx 0 w dv0 mv0 ds0 ms0) (hdl0 : ds0.length ≤ 9223372036854775807) (hml0 : Bd3 9223372036854775807 ms0) :
    Calls Try.prog 14 #[.agg #[.int .i64 p0, dv0, mv0], .int .i64 n1] w (BR (.bool true) w) := by
  obtain ⟨W0, hW0⟩ : ∃ W0, W0 = (w.alloc (.cells #[.int .i64 p0, dv0, mv0] 25)) := ⟨_, rfl⟩
  have HS0 : Hid (W0.heap.size = w.heap.size + 1) := Lib.hid (by rw [hW0]; simp)
  have HZ0 : Hid (Below w.heap.size w W0) := Lib.hid (by rw [hW0]; exact below_alloc1 _ _)
  have HK0 : Hid (Bx w W0 (w.heap.size) p0 dv0 mv0 ds0 ms0) := Lib.hid (by rw [hW0]; exact Bx.start _ h0)
  have HN0 : Hid (∀ W, Below (w.heap.size + 1) W0 W → Bx w W (w.heap.size) p0 dv0 mv0 ds0 ms0) := Lib.hid (fun W hb => HK0.out.next (by rw [HS0.out]; exact hb))
  have HNW : Hid (∀ W, Below (w.heap.size + 1) W0 W → Below w.heap.size w W) := Lib.hid (fun W hb => HZ0.out.trans (hb.mono (by omega)))
  have HB : Hid (Below (w.heap.size + 1) W0 W0) := Lib.hid (Below.refl _ _)
  have hs0 : w.heap.size + 1 ≤ W0.heap.size := by have := HS0.out; omega
  have HML0 := Lib.hid hml0
  clear h0 hml0 HK0
  go_enter Try.func14, Try.ntmps14
  go_upto_region 1 with fail
  rw [← hW0]
  clear hW0
  have c00 := (HN0.out _ HB.out).c0
  have c01 := (HN0.out _ HB.out).c1
  have c02 := (HN0.out _ HB.out).c2
  go_wp2_with fail
  refine (szComplex_any p0 dv0 mv0 ds0 ms0 1048576 _ (HN0.out _ HB.out).cx.dims (HN0.out _ HB.out).cx.maps (by omega) (by omega) hdl0 HML0.out).mono ?_
  rintro e wz0 ⟨sz0, rfl, hb, hpost⟩
  have hsz0 : W0.heap.size ≤ wz0.heap.size := hb.size
  have HB' := Lib.hid (HB.out.trans (hb.mono (by omega)))
  clear c00 c01 c02
  clear hb HB
  have HB := HB'
  clear HB'
  rcases hpost with rfl | ⟨hp00, hp01, hds0, hpm0⟩
  · go_wp2
    go_ret
    exact ⟨rfl, HNW.out _ HB.out⟩
  have hds0 : ds0.length ≤ 1048576 := hds0
  have HMS0 := Lib.hid hpm0
  clear hpm0
  have c00 := (HN0.out _ HB.out).c0
  have c01 := (HN0.out _ HB.out).c1
  have c02 := (HN0.out _ HB.out).c2
  have HQd : Hid (Below wz0.heap.size wz0 wz0) := Lib.hid (Below.refl _ _)
  go_wp2_with fail
  refine (toComplex_any p0 dv0 mv0 ds0 ms0 _ (HN0.out _ HB.out).cx hds0 HMS0.out).mono ?_
  rintro e wS0 ⟨xdS0, xmS0, rfl, hc, hb⟩
  have hsS0 : wz0.heap.size ≤ wS0.heap.size := hb.size
  have HBS0 := Lib.hid (HB.out.trans (hb.mono (by omega)))
  have HQ0 := Lib.hid (HQd.out.trans (hb.mono (by omega)))
  have HXS00 := Lib.hid (hc.zero)
  clear hb hc
  clear c00 c01 c02
  go_wp2_with fail
  refine (spShiftComplex_any p0 n1 xdS0 xmS0 ds0 ms0 _ (HXS00.out) hds0 HMS0.out).mono ?_
  rintro e wSr ⟨uS, oS, kS, rfl, hrS, hb, hoS⟩
  have hsSr : wS0.heap.size ≤ wSr.heap.size := hb.size
  have HBSr := Lib.hid (HBS0.out.trans (hb.mono (by omega)))
  have HQr := Lib.hid (HQ0.out.trans (hb.mono (by omega)))
  have HRS := Lib.hid hrS
  have HOS := Lib.hid hoS
  clear hb hrS hoS
  have hb := HQr.out
  clear HQd HQr HQ0 HXS00 HBS0 HBSr
  have HB' := Lib.hid (HB.out.trans (hb.mono (by omega)))
  clear hb HB
  have HB := HB'
  clear HB'
  obtain ⟨pS, dsS, msS⟩ := oS
  obtain ⟨aSd, cSd, aSm, cSm, huS, hcS⟩ := HRS.out
  have huS : uS = .agg #[.int .i64 pS, .slice aSd dsS.length cSd, .slice aSm msS.length cSm] := huS
  subst huS
  have HXS : Hid (Cx 0 wSr (.slice aSd dsS.length cSd) (.slice aSm msS.length cSm) dsS msS) := Lib.hid hcS
  clear hcS HRS
  have HBD : Hid (CoB (pS, dsS, msS)) := Lib.hid (HOS.out.all (Q := CoB) ⟨by simp, by simp, by simp⟩ (fun h0 a ha => by rw [show a = _ from ha]; exact sh_bd (shCode_zero h0)))
  have hbd1 : dsS.length ≤ 1048576 := HBD.out.1
  obtain ⟨wbS, hwb⟩ : ∃ wbS, wbS = wSr.alloc (.cells #[.int .i64 pS, .slice aSd dsS.length cSd, .slice aSm msS.length cSm] 28) := ⟨_, rfl⟩
  have hb : Below wSr.heap.size wSr wbS := by rw [hwb]; exact below_alloc1 _ _
  have hsbS : wSr.heap.size + 1 = wbS.heap.size := by rw [hwb]; simp
  have hsBS : wSr.heap.size ≤ wbS.heap.size := by omega
  have HYS : Hid (Bq wbS wSr.heap.size pS (.slice aSd dsS.length cSd) (.slice aSm msS.length cSm) dsS msS) := Lib.hid (by rw [hwb]; exact (Bx.start _ HXS.out).bq)
  have HB' := Lib.hid (HB.out.trans (hb.mono (by omega)))
  clear hb HB
  have HB := HB'
  clear HB'
  go_upto_region 6 with fail
  rw [← hwb]
  clear hwb
  clear HXS
  have HK : Hid (Below wbS.heap.size wbS wbS) := Lib.hid (Below.refl _ _)
  have c00 := (HN0.out _ HB.out).c0
  have c01 := (HN0.out _ HB.out).c1
  have c02 := (HN0.out _ HB.out).c2
  go_wp2_with fail
  refine (toComplexw_any p0 dv0 mv0 ds0 ms0 _ (HN0.out _ HB.out).cx hds0 HMS0.out).mono ?_
  rintro e wc0 ⟨yd0, ym0, rfl, hc, hb⟩
  have hsc0 : wbS.heap.size ≤ wc0.heap.size := hb.size
  clear c00 c01 c02
  have HB' := Lib.hid (HB.out.trans (hb.mono (by omega)))
  have HK' := Lib.hid (HK.out.trans (hb.mono (by omega)))
  clear hb HB HK
  have HB := HB'
  have HK := HK'
  clear HB' HK'
  have HC0 := Lib.hid hc
  obtain ⟨⟨ya0, yc0, rfl⟩, ⟨yb0, ye0, rfl⟩⟩ := hc.cx.shapes
  clear hc
  obtain ⟨wb0, hwb⟩ : ∃ wb0, wb0 = wc0.alloc (.cells #[.int .i64 p0, .slice ya0 ds0.length yc0, .slice yb0 ms0.length ye0] 28) := ⟨_, rfl⟩
  have hb : Below wc0.heap.size wc0 wb0 := by rw [hwb]; exact below_alloc1 _ _
  have hsb0 : wc0.heap.size + 1 = wb0.heap.size := by rw [hwb]; simp
  have hsB0 : wc0.heap.size ≤ wb0.heap.size := by omega
  have HY0 : Hid (Bq wb0 wc0.heap.size p0 (.slice ya0 ds0.length yc0) (.slice yb0 ms0.length ye0) ds0 ms0) := Lib.hid (by rw [hwb]; exact (Bx.start _ HC0.out.cx.zero).bq)
  have HB' := Lib.hid (HB.out.trans (hb.mono (by omega)))
  have HK' := Lib.hid (HK.out.trans (hb.mono (by omega)))
  have HC0' := Lib.hid (HC0.out.same (Same.of_below hb (by omega)))
  clear hb HB HK HC0
  have HB := HB'
  have HK := HK'
  have HC0 := HC0'
  clear HB' HK' HC0'
  go_upto_region 7 with fail
  rw [← hwb]
  clear hwb
  have d00 := HY0.out.c0
  have d01 := HY0.out.c1
  have d02 := HY0.out.c2
  go_wp2_with fail
  refine (shiftComplex_any p0 n1 _ _ ds0 ms0 _ (HC0.out.cx.zero) hds0 HMS0.out).mono ?_
  rintro e w7 ⟨u7, o7, k7, rfl, hw7, hb, hout7⟩
  obtain ⟨rfl, rfl⟩ := RsOut.unique (fun _ a b ha hb => ha.trans hb.symm) HOS.out hout7
  have hs7 : wb0.heap.size ≤ w7.heap.size := hb.size
  clear d00 d01 d02
  have HB' := Lib.hid (HB.out.trans (hb.mono (by omega)))
  have HK' := Lib.hid (HK.out.trans (hb.mono (by omega)))
  have HC0' := Lib.hid (HC0.out.same (Same.of_below hb (by omega)))
  have HY0' := Lib.hid (HY0.out.next hb)
  clear hb HB HK HC0 HY0
  have HB := HB'
  have HK := HK'
  have HC0 := HC0'
  have HY0 := HY0'
  clear HB' HK' HC0' HY0'
  obtain ⟨aGd, cGd, aGm, cGm, hu7, hG⟩ := hw7
  have hu7 : u7 = .agg #[.int .i64 pS, .slice aGd dsS.length cGd, .slice aGm msS.length cGm] := hu7
  subst hu7
  have HG : Hid (RcW wb0.heap.size w7.heap.size w7 (.slice aGd dsS.length cGd) (.slice aGm msS.length cGm) dsS msS) := Lib.hid hG
  clear hG hout7
  obtain ⟨wbG, hwb⟩ : ∃ wbG, wbG = w7.alloc (.cells #[.int .i64 pS, .slice aGd dsS.length cGd, .slice aGm msS.length cGm] 28) := ⟨_, rfl⟩
  have hb : Below w7.heap.size w7 wbG := by rw [hwb]; exact below_alloc1 _ _
  have hsbG : w7.heap.size + 1 = wbG.heap.size := by rw [hwb]; simp
  have hsBG : w7.heap.size ≤ wbG.heap.size := by omega
  have HCG0 : Hid (Bc wbG w7.heap.size pS (.slice aGd dsS.length cGd) (.slice aGm msS.length cGm)) := Lib.hid (by rw [hwb]; exact Bc.start _ _ _ _ _)
  have HB' := Lib.hid (HB.out.trans (hb.mono (by omega)))
  have HK' := Lib.hid (HK.out.trans (hb.mono (by omega)))
  have HC0' := Lib.hid (HC0.out.same (Same.of_below hb (by omega)))
  have HY0' := Lib.hid (HY0.out.next hb)
  have HG' := Lib.hid (HG.out.same (Same.of_below hb (by omega)))
  clear hb HB HK HC0 HY0 HG
  have HB := HB'
  have HK := HK'
  have HC0 := HC0'
  have HY0 := HY0'
  have HG := HG'
  clear HB' HK' HC0' HY0' HG'
  have HCG := HCG0
  clear HCG0
  go_upto_region 8 with fail
  rw [← hwb]
  clear hwb
  have hcode : (kS != kS) = false := by simp
  have s0 := (HYS.out.next HK.out).c0
  have s1 := (HYS.out.next HK.out).c1
  have s2 := (HYS.out.next HK.out).c2
  have g0 := HCG.out.c0
  have g1 := HCG.out.c1
  have g2 := HCG.out.c2
  go_wp2_with fail
  refine (eqComplex_true pS _ _ _ _ dsS msS _ HG.out.cx (HYS.out.next HK.out).cx hbd1 HBD.out.2).mono ?_
  rintro e we1 ⟨rfl, hb⟩
  have hse1 : wbG.heap.size ≤ we1.heap.size := hb.size
  clear s0 s1 s2 g0 g1 g2
  have HB' := Lib.hid (HB.out.trans (hb.mono (by omega)))
  have HK' := Lib.hid (HK.out.trans (hb.mono (by omega)))
  have HC0' := Lib.hid (HC0.out.same (Same.of_below hb (by omega)))
  have HY0' := Lib.hid (HY0.out.next hb)
  have HG' := Lib.hid (HG.out.same (Same.of_below hb (by omega)))
  have HCG' := Lib.hid (HCG.out.next hb)
  clear hb HB HK HC0 HY0 HG HCG
  have HB := HB'
  have HK := HK'
  have HC0 := HC0'
  have HY0 := HY0'
  have HG := HG'
  have HCG := HCG'
  clear HB' HK' HC0' HY0' HG' HCG'
  have c00 := (HN0.out _ HB.out).c0
  have c01 := (HN0.out _ HB.out).c1
  have c02 := (HN0.out _ HB.out).c2
  have d00 := HY0.out.c0
  have d01 := HY0.out.c1
  have d02 := HY0.out.c2
  have HCX := Lib.hid (cx_drew (HN0.out _ HB.out).cx)
  have HCC := Lib.hid (cx_drew HY0.out.cx)
  go_wp2_with fail
  go_region_held3 (fun w' => w'.cell? ⟨w.heap.size, 0, none⟩ = some (.int .i64 p0) ∧ w'.cell? ⟨w.heap.size, 1, none⟩ = some (dv0) ∧ w'.cell? ⟨w.heap.size, 2, none⟩ = some (mv0) ∧ w'.cell? ⟨wc0.heap.size, 0, none⟩ = some (.int .i64 p0) ∧ w'.cell? ⟨wc0.heap.size, 1, none⟩ = some (.slice ya0 ds0.length yc0) ∧ w'.cell? ⟨wc0.heap.size, 2, none⟩ = some (.slice yb0 ms0.length ye0))
    (first | exact ⟨c00, c01, c02, d00, d01, d02⟩ | exact HS9.out | exact HSA.out | go_keep)
    (first
      | (go_at_call 25; refine (toComplex_any p0 dv0 mv0 ds0 ms0 _ HCX.out hds0 HMS0.out).mono ?_; rintro e w9 ⟨dv9, mv9, rfl, hcx9, hb9⟩; have HS9 := Lib.hid (And.intro (later hb9 (Nat.le_refl _) c00) (And.intro (later hb9 (Nat.le_refl _) c01) (And.intro (later hb9 (Nat.le_refl _) c02) (And.intro (later hb9 (Nat.le_refl _) d00) (And.intro (later hb9 (Nat.le_refl _) d01) (later hb9 (Nat.le_refl _) d02)))))); have HX9 := Lib.hid (And.intro hcx9 (And.intro (HCC.out.below hb9) (Below.trans ((Below.refl we1.heap.size we1).drew) hb9))); clear hcx9 hb9)
      | (go_at_call 27; refine (eqComplex_true p0 _ _ dv9 mv9 ds0 ms0 _ HX9.out.2.1 HX9.out.1.zero hds0 HMS0.out).mono ?_; rintro e wA0 ⟨rfl, hbA⟩; have HSA := Lib.hid (And.intro (later hbA (Nat.le_refl _) HS9.out.1) (And.intro (later hbA (Nat.le_refl _) HS9.out.2.1) (And.intro (later hbA (Nat.le_refl _) HS9.out.2.2.1) (And.intro (later hbA (Nat.le_refl _) HS9.out.2.2.2.1) (And.intro (later hbA (Nat.le_refl _) HS9.out.2.2.2.2.1) (later hbA (Nat.le_refl _) HS9.out.2.2.2.2.2)))))); have HXA := Lib.hid (Below.trans HX9.out.2.2 (hbA.mono HX9.out.2.2.size)); clear hbA))
  have hsa0 : we1.heap.size ≤ wA0.heap.size := HXA.out.size
  have hb := HXA.out
  clear c00 c01 c02
  clear d00 d01 d02
  clear HXA HSA HS9 HX9 HCX HCC
  have HB' := Lib.hid (HB.out.trans (hb.mono (by omega)))
  have HK' := Lib.hid (HK.out.trans (hb.mono (by omega)))
  have HC0' := Lib.hid (HC0.out.same (Same.of_below hb (by omega)))
  have HY0' := Lib.hid (HY0.out.next hb)
  have HG' := Lib.hid (HG.out.same (Same.of_below hb (by omega)))
  have HCG' := Lib.hid (HCG.out.next hb)
  clear hb HB HK HC0 HY0 HG HCG
  have HB := HB'
  have HK := HK'
  have HC0 := HC0'
  have HY0 := HY0'
  have HG := HG'
  have HCG := HCG'
  clear HB' HK' HC0' HY0' HG' HCG'
  have d00 := HY0.out.c0
  have d01 := HY0.out.c1
  have d02 := HY0.out.c2
  go_wp2_with fail
  refine (markComplexK_any 1 p0 _ _ ds0 ms0 _ HC0.out (by omega) hds0 HMS0.out (by omega) (by omega)).mono ?_
  rintro e wD0 ⟨r0, wM, rfl, hr00, hr01, hb, hoM, htM⟩
  have hsM0 : wA0.heap.size ≤ wM.heap.size := hb.size
  have hsD0 : wD0.heap.size = wM.heap.size := hoM.size
  have hsE0 : wA0.heap.size ≤ wD0.heap.size := by omega
  clear d00 d01 d02
  have HB' := Lib.hid ((HB.out.trans (hb.mono (by omega))).trans (hoM.below (by omega)))
  have HK' := Lib.hid ((HK.out.trans (hb.mono (by omega))).trans (hoM.below (by omega)))
  have HG' := Lib.hid (HG.out.same ((Same.of_below hb (by omega)).trans (hoM.same (by omega))))
  have HCG' := Lib.hid ((HCG.out.next hb).only hoM (by omega))
  clear hoM htM hb HC0 HY0 HB HK HG HCG
  have HB := HB'
  have HK := HK'
  have HG := HG'
  have HCG := HCG'
  clear HB' HK' HG' HCG'
  have hneg0 : ¬ r0 < 0 := by omega
  have s0 := (HYS.out.next HK.out).c0
  have s1 := (HYS.out.next HK.out).c1
  have s2 := (HYS.out.next HK.out).c2
  have g0 := HCG.out.c0
  have g1 := HCG.out.c1
  have g2 := HCG.out.c2
  go_wp2_with fail
  refine (eqComplex_true pS _ _ _ _ dsS msS _ HG.out.cx (HYS.out.next HK.out).cx hbd1 HBD.out.2).mono ?_
  rintro e we2 ⟨rfl, hb⟩
  have hse2 : wD0.heap.size ≤ we2.heap.size := hb.size
  clear s0 s1 s2 g0 g1 g2
  have HB' := Lib.hid (HB.out.trans (hb.mono (by omega)))
  have HK' := Lib.hid (HK.out.trans (hb.mono (by omega)))
  have HG' := Lib.hid (HG.out.same (Same.of_below hb (by omega)))
  have HCG' := Lib.hid (HCG.out.next hb)
  clear hb HB HK HG HCG
  have HB := HB'
  have HK := HK'
  have HG := HG'
  have HCG := HCG'
  clear HB' HK' HG' HCG'
  have g0 := HCG.out.c0
  have g1 := HCG.out.c1
  have g2 := HCG.out.c2
  go_wp2_with fail
  refine (markRC_any pS _ _ dsS msS _ HG.out (by omega)).mono ?_
  rintro e wG ⟨mm, wM2, rfl, hm0, hm1, hb, hoG, hmk⟩
  have hsM2 : we2.heap.size ≤ wM2.heap.size := hb.size
  have hsG0 : wG.heap.size = wM2.heap.size := hoG.size
  have hsG : we2.heap.size ≤ wG.heap.size := by omega
  clear g0 g1 g2
  have HB' := Lib.hid ((HB.out.trans (hb.mono (by omega))).trans (hoG.below (by omega)))
  have HK' := Lib.hid ((HK.out.trans (hb.mono (by omega))).trans (hoG.below (by omega)))
  have HCG' := Lib.hid ((HCG.out.next hb).only hoG (by omega))
  have HG' := Lib.hid hmk
  clear hoG hmk hb HB HK HG HCG
  have HB := HB'
  have HK := HK'
  have HG := HG'
  have HCG := HCG'
  clear HB' HK' HG' HCG'
  have hneg : ¬ mm < 0 := by omega
  have hsum : (mm != mm) = false := by simp
  have g0 := HCG.out.c0
  have g1 := HCG.out.c1
  have g2 := HCG.out.c2
  go_wp2_with fail
  refine (heldRC_any pS _ _ mm _ HG.out (by omega)).mono ?_
  rintro e wH1 ⟨rfl, hb⟩
  have hsH1 : wG.heap.size ≤ wH1.heap.size := hb.size
  clear g0 g1 g2
  have HB' := Lib.hid (HB.out.trans (hb.mono (by omega)))
  have HK' := Lib.hid (HK.out.trans (hb.mono (by omega)))
  have HG' := Lib.hid (HG.out.same (Same.of_below hb (by omega)))
  have HCG' := Lib.hid (HCG.out.next hb)
  clear hb HB HK HG HCG
  have HB := HB'
  have HK := HK'
  have HG := HG'
  have HCG := HCG'
  clear HB' HK' HG' HCG'
  have c00 := (HN0.out _ HB.out).c0
  have c01 := (HN0.out _ HB.out).c1
  have c02 := (HN0.out _ HB.out).c2
  have HQd : Hid (Below wH1.heap.size wH1 wH1) := Lib.hid (Below.refl _ _)
  go_wp2_with fail
  refine (toComplex_any p0 dv0 mv0 ds0 ms0 _ (HN0.out _ HB.out).cx hds0 HMS0.out).mono ?_
  rintro e wJ0 ⟨xdJ0, xmJ0, rfl, hc, hb⟩
  have hsJ0 : wH1.heap.size ≤ wJ0.heap.size := hb.size
  have HBJ0 := Lib.hid (HB.out.trans (hb.mono (by omega)))
  have HQ0 := Lib.hid (HQd.out.trans (hb.mono (by omega)))
  have HXJ00 := Lib.hid (hc.zero)
  clear hb hc
  clear c00 c01 c02
  go_wp2_with fail
  refine (shiftComplex_any p0 n1 xdJ0 xmJ0 ds0 ms0 _ (HXJ00.out) hds0 HMS0.out).mono ?_
  rintro e wJr ⟨uJ, oJ, kJ, rfl, hrJ, hb, hoJ⟩
  have hsJr : wJ0.heap.size ≤ wJr.heap.size := hb.size
  have HBJr := Lib.hid (HBJ0.out.trans (hb.mono (by omega)))
  have HQr := Lib.hid (HQ0.out.trans (hb.mono (by omega)))
  have HRJ := Lib.hid hrJ
  have HOJ := Lib.hid hoJ
  clear hb hrJ hoJ
  have hb := HQr.out
  clear HQd HQr HQ0 HXJ00 HBJ0 HBJr
  have HB' := Lib.hid (HB.out.trans (hb.mono (by omega)))
  have HK' := Lib.hid (HK.out.trans (hb.mono (by omega)))
  have HG' := Lib.hid (HG.out.same (Same.of_below hb (by omega)))
  have HCG' := Lib.hid (HCG.out.next hb)
  clear hb HB HK HG HCG
  have HB := HB'
  have HK := HK'
  have HG := HG'
  have HCG := HCG'
  clear HB' HK' HG' HCG'
  obtain ⟨rfl, rfl⟩ := RsOut.unique (fun _ a b ha hb => ha.trans hb.symm) HOS.out HOJ.out
  obtain ⟨aJd, cJd, aJm, cJm, huJ, hcJ⟩ := HRJ.out
  have huJ : uJ = .agg #[.int .i64 pS, .slice aJd dsS.length cJd, .slice aJm msS.length cJm] := huJ
  subst huJ
  have HXJ : Hid (Cx 0 wJr (.slice aJd dsS.length cJd) (.slice aJm msS.length cJm) dsS msS) := Lib.hid hcJ.cx
  clear hcJ HRJ HOJ
  obtain ⟨wbJ, hwb⟩ : ∃ wbJ, wbJ = wJr.alloc (.cells #[.int .i64 pS, .slice aJd dsS.length cJd, .slice aJm msS.length cJm] 28) := ⟨_, rfl⟩
  have hb : Below wJr.heap.size wJr wbJ := by rw [hwb]; exact below_alloc1 _ _
  have hsbJ : wJr.heap.size + 1 = wbJ.heap.size := by rw [hwb]; simp
  have hsBJ : wJr.heap.size ≤ wbJ.heap.size := by omega
  have HYJ : Hid (Bq wbJ wJr.heap.size pS (.slice aJd dsS.length cJd) (.slice aJm msS.length cJm) dsS msS) := Lib.hid (by rw [hwb]; exact (Bx.start _ HXJ.out).bq)
  have HB' := Lib.hid (HB.out.trans (hb.mono (by omega)))
  have HK' := Lib.hid (HK.out.trans (hb.mono (by omega)))
  have HG' := Lib.hid (HG.out.same (Same.of_below hb (by omega)))
  have HCG' := Lib.hid (HCG.out.next hb)
  clear hb HB HK HG HCG
  have HB := HB'
  have HK := HK'
  have HG := HG'
  have HCG := HCG'
  clear HB' HK' HG' HCG'
  go_upto_region 25 with fail
  rw [← hwb]
  clear hwb
  clear HXJ
  have s0 := (HYS.out.next HK.out).c0
  have s1 := (HYS.out.next HK.out).c1
  have s2 := (HYS.out.next HK.out).c2
  have j0 := HYJ.out.c0
  have j1 := HYJ.out.c1
  have j2 := HYJ.out.c2
  go_wp2_with fail
  refine (eqComplex_true pS _ _ _ _ dsS msS _ HYJ.out.cx (HYS.out.next HK.out).cx hbd1 HBD.out.2).mono ?_
  rintro e wK ⟨rfl, hb⟩
  have hsK : wbJ.heap.size ≤ wK.heap.size := hb.size
  clear s0 s1 s2 j0 j1 j2
  clear HYJ
  have HB' := Lib.hid (HB.out.trans (hb.mono (by omega)))
  have HK' := Lib.hid (HK.out.trans (hb.mono (by omega)))
  have HG' := Lib.hid (HG.out.same (Same.of_below hb (by omega)))
  have HCG' := Lib.hid (HCG.out.next hb)
  clear hb HB HK HG HCG
  have HB := HB'
  have HK := HK'
  have HG := HG'
  have HCG := HCG'
  clear HB' HK' HG' HCG'
  have g0 := HCG.out.c0
  have g1 := HCG.out.c1
  have g2 := HCG.out.c2
  go_wp2_with fail
  refine (heldRC_any pS _ _ mm _ HG.out (by omega)).mono ?_
  rintro e wH2 ⟨rfl, hb⟩
  have hsH2 : wK.heap.size ≤ wH2.heap.size := hb.size
  clear g0 g1 g2
  have HB' := Lib.hid (HB.out.trans (hb.mono (by omega)))
  have HK' := Lib.hid (HK.out.trans (hb.mono (by omega)))
  have HG' := Lib.hid (HG.out.same (Same.of_below hb (by omega)))
  have HCG' := Lib.hid (HCG.out.next hb)
  clear hb HB HK HG HCG
  have HB := HB'
  have HK := HK'
  have HG := HG'
  have HCG := HCG'
  clear HB' HK' HG' HCG'
  go_wp2
  go_ret
  exact ⟨rfl, HNW.out _ HB.out⟩
end Go.Proofs.Ytpdkfidmmjlmnaa
