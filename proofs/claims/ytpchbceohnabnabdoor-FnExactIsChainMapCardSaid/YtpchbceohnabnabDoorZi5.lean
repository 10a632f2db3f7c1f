/-
  Texts that ProofIcl needs, part 5.
-/
import Derived.Test.YtpchbceohnabnabDoorZi4
import Derived.Deep.RegionWith
import Derived.Deep.RegionHeld3
import Derived.BigRegion
import Derived.BigQuiet
import Derived.Deep.QuietTactic
import Derived.Test.YtpchbceohnabnabDoorCards
import Derived.Test.YtpchbceohnabnabDoorTie
import Derived.WalkKit
import Derived.ProofKit
import Derived.OpenShut
import Derived.Deep.DeepHandedRow
import Derived.Stop.LaidErr
import Derived.RowKitTokens
namespace Go.Proofs.YtpchbceohnabnabDoor
open Go.RowKit

set_option maxHeartbeats 12800000 in
set_option maxRecDepth 100000 in
theorem lawIcl_any (p0 : Int) (dv0 mv0 : Value) (ds0 : List Int) (ms0 : List (List (List Int))) (p1 : Int) (dv1 mv1 : Value) (ds1 : List Int) (ms1 : List (List (List Int))) (fv2 : Value) (fs2 : List (List (List Int))) (w : World) (h0 : Cx 0 w dv0 mv0 ds0 ms0) (hdl0 : ds0.length ≤ 9223372036854775807) (hml0 : Bd3 9223372036854775807 ms0) (h1 : Cx 0 w dv1 mv1 ds1 ms1) (hdl1 : ds1.length ≤ 9223372036854775807) (hml1 : Bd3 9223372036854775807 ms1) (h2 : L3 0 w fv2 fs2) (hml2 : Bd3 9223372036854775807 fs2) {pvg : Value} (hgl : w.cell? ⟨0, 0, none⟩ = some (.iface 135 pvg)) :
    Calls Tryd.prog 3 #[.agg #[.int .i64 p0, dv0, mv0], .agg #[.int .i64 p1, dv1, mv1], fv2] w (BR (.bool true) w) := by
  obtain ⟨W0, hW0⟩ : ∃ W0, W0 = ((w.alloc (.cells #[.int .i64 p0, dv0, mv0] 25)).alloc (.cells #[.int .i64 p1, dv1, mv1] 25)) := ⟨_, rfl⟩
  have HS0 : Hid (W0.heap.size = w.heap.size + 2) := Lib.hid (by rw [hW0]; simp)
  have HZ0 : Hid (Below w.heap.size w W0) := Lib.hid (by rw [hW0]; exact (below_alloc1 _ _).trans ((below_alloc1 _ _).mono (by simp)))
  have HK0 : Hid (Bx w W0 (w.heap.size) p0 dv0 mv0 ds0 ms0) := Lib.hid (by rw [hW0]; exact (bx_two _ h0 h1).1)
  have HK1 : Hid (Bx w W0 (w.heap.size + 1) p1 dv1 mv1 ds1 ms1) := Lib.hid (by rw [hW0]; exact (bx_two _ h0 h1).2)
  have HN0 : Hid (∀ W, Below (w.heap.size + 2) W0 W → Bx w W (w.heap.size) p0 dv0 mv0 ds0 ms0) := Lib.hid (fun W hb => HK0.out.next (by rw [HS0.out]; exact hb))
  have HN1 : Hid (∀ W, Below (w.heap.size + 2) W0 W → Bx w W (w.heap.size + 1) p1 dv1 mv1 ds1 ms1) := Lib.hid (fun W hb => HK1.out.next (by rw [HS0.out]; exact hb))
  have HN2 : Hid (∀ W, Below (w.heap.size + 2) W0 W → L3 0 W fv2 fs2) := Lib.hid (fun W hb => (h2.below HZ0.out).below (by rw [HS0.out]; exact hb))
  have HNW : Hid (∀ W, Below (w.heap.size + 2) W0 W → Below w.heap.size w W) := Lib.hid (fun W hb => HZ0.out.trans (hb.mono (by omega)))
  have HB : Hid (Below (w.heap.size + 2) W0 W0) := Lib.hid (Below.refl _ _)
  have hs0 : w.heap.size + 2 ≤ W0.heap.size := by have := HS0.out; omega
  have HGL : Hid (∀ W, Below (w.heap.size + 2) W0 W → W.cell? ⟨0, 0, none⟩ = some (.iface 135 pvg)) := Lib.hid (fun W hb => later (HNW.out W hb) (Nat.le_refl _) hgl)
  clear hgl
  have HML0 := Lib.hid hml0
  have HML1 := Lib.hid hml1
  have HML2 := Lib.hid hml2
  obtain ⟨af2, cf2, ef2⟩ := Sl.shape h2
  subst ef2
  clear h0 h1 h2 hml0 hml1 hml2 HK0 HK1
  go_enter Tryd.func3, Tryd.ntmps3
  go_upto_region 1 with fail
  rw [← hW0]
  clear hW0
  have c00 := (HN0.out _ HB.out).c0
  have c01 := (HN0.out _ HB.out).c1
  have c02 := (HN0.out _ HB.out).c2
  go_wp2_with fail
  refine (szComplex_any p0 dv0 mv0 ds0 ms0 1048576 _ (HN0.out _ HB.out).cx.dims (HN0.out _ HB.out).cx.maps (by omega) (by omega) hdl0 HML0.out).mono ?_
  rintro ee wz0 ⟨sz0, rfl, hb, hpost⟩
  have hsz0 : W0.heap.size ≤ wz0.heap.size := hb.size
  have HB' := Lib.hid (HB.out.trans (hb.mono (by omega)))
  clear c00 c01 c02
  clear hb HB
  have HB := HB'
  clear HB'
  rcases hpost with rfl | ⟨hp00, hp01, hds0, hpm0⟩
  · go_wp2
    go_ret
    exact ⟨rfl, HNW.out _ HB.out⟩
  have hds0 : ds0.length ≤ 1048576 := hds0
  have HMS0 := Lib.hid hpm0
  clear hpm0
  have c10 := (HN1.out _ HB.out).c0
  have c11 := (HN1.out _ HB.out).c1
  have c12 := (HN1.out _ HB.out).c2
  go_wp2_with fail
  refine (szComplex_any p1 dv1 mv1 ds1 ms1 sz0 _ (HN1.out _ HB.out).cx.dims (HN1.out _ HB.out).cx.maps (by omega) (by omega) hdl1 HML1.out).mono ?_
  rintro ee wz1 ⟨sz1, rfl, hb, hpost⟩
  have hsz1 : wz0.heap.size ≤ wz1.heap.size := hb.size
  have HB' := Lib.hid (HB.out.trans (hb.mono (by omega)))
  clear c10 c11 c12
  clear hb HB
  have HB := HB'
  clear HB'
  rcases hpost with rfl | ⟨hp10, hp11, hds1, hpm1⟩
  · go_wp2
    go_ret
    exact ⟨rfl, HNW.out _ HB.out⟩
  have hds1 : ds1.length ≤ 1048576 := hds1
  have HMS1 := Lib.hid hpm1
  clear hpm1
  go_wp2_with fail
  refine (sz3_any _ fs2 sz1 _ (HN2.out _ HB.out) (by omega) (by omega) HML2.out).mono ?_
  rintro ee w' ⟨sz2, rfl, rfl, hpost⟩
  rcases hpost with rfl | ⟨hp20, hp21, hpm2⟩
  · go_wp2
    go_ret
    exact ⟨rfl, HNW.out _ HB.out⟩
  have HMS2 := Lib.hid hpm2
  clear hpm2
  have c00 := (HN0.out _ HB.out).c0
  have c01 := (HN0.out _ HB.out).c1
  have c02 := (HN0.out _ HB.out).c2
  have c10 := (HN1.out _ HB.out).c0
  have c11 := (HN1.out _ HB.out).c1
  have c12 := (HN1.out _ HB.out).c2
  have hsSd : wz1.heap.size ≤ wz1.drew.heap.size := Nat.le_refl _
  have HDS : Hid (Below (w.heap.size + 2) W0 wz1.drew) := Lib.hid (HB.out.trans ((Below.refl wz1.heap.size wz1).drew.mono (by omega)))
  have HQd : Hid (Below wz1.heap.size wz1 wz1.drew) := Lib.hid (Below.refl wz1.heap.size wz1).drew
  skip
  have HSP : Hid (∀ w', Below (w.heap.size + 2) W0 w' → w'.cell? ⟨w.heap.size, 0, none⟩ = some (.int .i64 p0) ∧ w'.cell? ⟨w.heap.size, 1, none⟩ = some (dv0) ∧ w'.cell? ⟨w.heap.size, 2, none⟩ = some (mv0) ∧ w'.cell? ⟨w.heap.size + 1, 0, none⟩ = some (.int .i64 p1) ∧ w'.cell? ⟨w.heap.size + 1, 1, none⟩ = some (dv1) ∧ w'.cell? ⟨w.heap.size + 1, 2, none⟩ = some (mv1) ∧ Hid (Below (w.heap.size + 2) W0 w')) := Lib.hid (fun w' hb => ⟨(HN0.out _ hb).c0, (HN0.out _ hb).c1, (HN0.out _ hb).c2, (HN1.out _ hb).c0, (HN1.out _ hb).c1, (HN1.out _ hb).c2, Lib.hid hb⟩)
  go_wp2
  go_region_held3 (fun w' => w'.cell? ⟨w.heap.size, 0, none⟩ = some (.int .i64 p0) ∧ w'.cell? ⟨w.heap.size, 1, none⟩ = some (dv0) ∧ w'.cell? ⟨w.heap.size, 2, none⟩ = some (mv0) ∧ w'.cell? ⟨w.heap.size + 1, 0, none⟩ = some (.int .i64 p1) ∧ w'.cell? ⟨w.heap.size + 1, 1, none⟩ = some (dv1) ∧ w'.cell? ⟨w.heap.size + 1, 2, none⟩ = some (mv1) ∧ Hid (Below (w.heap.size + 2) W0 w'))
    (first | exact HSP.out _ HB.out | exact HSP.out _ HDS.out | exact HSP.out _ HBS0.out | exact HSP.out _ HBS1.out | exact HSP.out _ HBS2.out | exact HSP.out _ HBSr.out | go_keep)
    (first
      | (go_at_call 12; (with_reducible refine (toComplex_any p0 dv0 mv0 ds0 ms0 _ (HN0.out _ HDS.out).cx hds0 HMS0.out).mono ?_); rintro ee wS0 ⟨xdv0_S, xmv0_S, rfl, hc, hb⟩; have hsS0 : wz1.drew.heap.size ≤ wS0.heap.size := hb.size; have HBS0 := Lib.hid (HDS.out.trans (hb.mono (by omega))); have HQ0 := Lib.hid (HQd.out.trans (hb.mono (by omega))); have HXS00 := Lib.hid (hc.zero); clear hb hc)
      | (go_at_call 12; (with_reducible refine (toComplex_any p1 dv1 mv1 ds1 ms1 _ (HN1.out _ HBS0.out).cx hds1 HMS1.out).mono ?_); rintro ee wS1 ⟨xdv1_S, xmv1_S, rfl, hc, hb⟩; have hsS1 : wS0.heap.size ≤ wS1.heap.size := hb.size; have HBS1 := Lib.hid (HBS0.out.trans (hb.mono (by omega))); have HQ1 := Lib.hid (HQ0.out.trans (hb.mono (by omega))); have HXS01 := Lib.hid (HXS00.out.below hb); have HXS11 := Lib.hid (hc.zero); clear hb hc)
      | (go_at_call 13; (with_reducible refine (to3_any _ fs2 _ (HN2.out _ HBS1.out) HMS2.out).mono ?_); rintro ee wS2 ⟨xvS2, rfl, hc, hb⟩; have hsS2 : wS1.heap.size ≤ wS2.heap.size := hb.size; have HBS2 := Lib.hid (HBS1.out.trans (hb.mono (by omega))); have HQ2 := Lib.hid (HQ1.out.trans (hb.mono (by omega))); have HXS02 := Lib.hid (HXS01.out.below hb); have HXS12 := Lib.hid (HXS11.out.below hb); have HXS22 := Lib.hid (hc.lower (Nat.zero_le _)); clear hb hc)
      | (go_at_call 11; (with_reducible refine (spIsChainMap_any p0 p1 xdv0_S xmv0_S xdv1_S xmv1_S xvS2 ds0 ms0 ds1 ms1 fs2 _ (HXS02.out) (HXS12.out) (HXS22.out) hds0 HMS0.out hds1 HMS1.out HMS2.out).mono ?_); rintro ee wSr ⟨gS0, gS1, rfl, hb, hoS⟩; have hsSr : wS2.heap.size ≤ wSr.heap.size := hb.size; have HBSr := Lib.hid (HBS2.out.trans (hb.mono (by omega))); have HQr := Lib.hid (HQ2.out.trans (hb.mono (by omega))); have HOS := Lib.hid hoS; clear hb hoS))
  clear c00 c01 c02 c10 c11 c12
  have hb := HQr.out
  clear HQd HQr HQ0 HQ1 HQ2 HXS00 HXS01 HXS02 HXS11 HXS12 HXS22 HBS0 HBS1 HBS2 HBSr HDS HSP
  have HB' := Lib.hid (HB.out.trans (hb.mono (by omega)))
  clear hb HB
  have HB := HB'
  clear HB'
  have c00 := (HN0.out _ HB.out).c0
  have c01 := (HN0.out _ HB.out).c1
  have c02 := (HN0.out _ HB.out).c2
  go_wp2_with fail
  refine (toComplexw_any p0 dv0 mv0 ds0 ms0 _ (HN0.out _ HB.out).cx hds0 HMS0.out).mono ?_
  rintro ee wc0 ⟨ydv0, ymv0, rfl, hc, hb⟩
  have hsc0 : wSr.heap.size ≤ wc0.heap.size := hb.size
  clear c00 c01 c02
  have HB' := Lib.hid (HB.out.trans (hb.mono (by omega)))
  clear hb HB
  have HB := HB'
  clear HB'
  have HC0 := Lib.hid hc
  obtain ⟨⟨ya0, yc0, rfl⟩, ⟨yb0, ye0, rfl⟩⟩ := hc.cx.shapes
  clear hc
  obtain ⟨wb0, hwb⟩ : ∃ wb0, wb0 = wc0.alloc (.cells #[.int .i64 p0, .slice ya0 ds0.length yc0, .slice yb0 ms0.length ye0] 30) := ⟨_, rfl⟩
  have hb : Below wc0.heap.size wc0 wb0 := by rw [hwb]; exact below_alloc1 _ _
  have hsb0 : wc0.heap.size + 1 = wb0.heap.size := by rw [hwb]; simp
  have hsB0 : wc0.heap.size ≤ wb0.heap.size := by omega
  have HY0 : Hid (Bq wb0 wc0.heap.size p0 (.slice ya0 ds0.length yc0) (.slice yb0 ms0.length ye0) ds0 ms0) := Lib.hid (by rw [hwb]; exact (Bx.start _ HC0.out.cx.zero).bq)
  have HB' := Lib.hid (HB.out.trans (hb.mono (by omega)))
  have HC0' := Lib.hid (HC0.out.same (Same.of_below hb (by omega)))
  clear hb HB HC0
  have HB := HB'
  have HC0 := HC0'
  clear HB' HC0'
  go_upto_region 13 with fail
  rw [← hwb]
  clear hwb
  have c10 := (HN1.out _ HB.out).c0
  have c11 := (HN1.out _ HB.out).c1
  have c12 := (HN1.out _ HB.out).c2
  go_wp2_with fail
  refine (toComplexw_any p1 dv1 mv1 ds1 ms1 _ (HN1.out _ HB.out).cx hds1 HMS1.out).mono ?_
  rintro ee wc1 ⟨ydv1, ymv1, rfl, hc, hb⟩
  have hsc1 : wb0.heap.size ≤ wc1.heap.size := hb.size
  clear c10 c11 c12
  have HB' := Lib.hid (HB.out.trans (hb.mono (by omega)))
  have HC0' := Lib.hid (HC0.out.same (Same.of_below hb (by omega)))
  have HY0' := Lib.hid (HY0.out.next hb)
  clear hb HB HC0 HY0
  have HB := HB'
  have HC0 := HC0'
  have HY0 := HY0'
  clear HB' HC0' HY0'
  have HC1 := Lib.hid hc
  obtain ⟨⟨ya1, yc1, rfl⟩, ⟨yb1, ye1, rfl⟩⟩ := hc.cx.shapes
  clear hc
  obtain ⟨wb1, hwb⟩ : ∃ wb1, wb1 = wc1.alloc (.cells #[.int .i64 p1, .slice ya1 ds1.length yc1, .slice yb1 ms1.length ye1] 30) := ⟨_, rfl⟩
  have hb : Below wc1.heap.size wc1 wb1 := by rw [hwb]; exact below_alloc1 _ _
  have hsb1 : wc1.heap.size + 1 = wb1.heap.size := by rw [hwb]; simp
  have hsB1 : wc1.heap.size ≤ wb1.heap.size := by omega
  have HY1 : Hid (Bq wb1 wc1.heap.size p1 (.slice ya1 ds1.length yc1) (.slice yb1 ms1.length ye1) ds1 ms1) := Lib.hid (by rw [hwb]; exact (Bx.start _ HC1.out.cx.zero).bq)
  have HB' := Lib.hid (HB.out.trans (hb.mono (by omega)))
  have HC0' := Lib.hid (HC0.out.same (Same.of_below hb (by omega)))
  have HY0' := Lib.hid (HY0.out.next hb)
  have HC1' := Lib.hid (HC1.out.same (Same.of_below hb (by omega)))
  clear hb HB HC0 HY0 HC1
  have HB := HB'
  have HC0 := HC0'
  have HY0 := HY0'
  have HC1 := HC1'
  clear HB' HC0' HY0' HC1'
  go_upto_region 14 with fail
  rw [← hwb]
  clear hwb
  go_wp2_with fail
  refine (to3w_any _ fs2 _ (HN2.out _ HB.out) HMS2.out).mono ?_
  rintro ee wc2 ⟨yv2, rfl, hc, hb⟩
  have hsc2 : wb1.heap.size ≤ wc2.heap.size := hb.size
  have HB' := Lib.hid (HB.out.trans (hb.mono (by omega)))
  have HC0' := Lib.hid (HC0.out.same (Same.of_below hb (by omega)))
  have HY0' := Lib.hid (HY0.out.next hb)
  have HC1' := Lib.hid (HC1.out.same (Same.of_below hb (by omega)))
  have HY1' := Lib.hid (HY1.out.next hb)
  clear hb HB HC0 HY0 HC1 HY1
  have HB := HB'
  have HC0 := HC0'
  have HY0 := HY0'
  have HC1 := HC1'
  have HY1 := HY1'
  clear HB' HC0' HY0' HC1' HY1'
  have HC2 := Lib.hid hc
  obtain ⟨ya2, yc2, rfl⟩ := Sw.shape hc
  clear hc
  have d00 := HY0.out.c0
  have d01 := HY0.out.c1
  have d02 := HY0.out.c2
  have d10 := HY1.out.c0
  have d11 := HY1.out.c1
  have d12 := HY1.out.c2
  go_wp2_with fail
  refine (isChainMap_any p0 p1 _ _ _ _ _ ds0 ms0 ds1 ms1 fs2 _ (HC0.out.cx.zero) (HC1.out.cx.zero) (HC2.out.l3.lower (Nat.zero_le _)) hds0 HMS0.out hds1 HMS1.out HMS2.out (HGL.out _ HB.out)).mono ?_
  rintro ee w7 ⟨gI0, gI1, rfl, hb, hoI⟩
  obtain ⟨rfl, rfl⟩ := ChS.unique HOS.out hoI
  have hs7 : wc2.heap.size ≤ w7.heap.size := hb.size
  clear d00 d01 d02 d10 d11 d12
  have HB' := Lib.hid (HB.out.trans (hb.mono (by omega)))
  have HC0' := Lib.hid (HC0.out.same (Same.of_below hb (by omega)))
  have HY0' := Lib.hid (HY0.out.next hb)
  have HC1' := Lib.hid (HC1.out.same (Same.of_below hb (by omega)))
  have HY1' := Lib.hid (HY1.out.next hb)
  have HC2' := Lib.hid (HC2.out.same (Same.of_below hb (by omega)))
  clear hb HB HC0 HY0 HC1 HY1 HC2
  have HB := HB'
  have HC0 := HC0'
  have HY0 := HY0'
  have HC1 := HC1'
  have HY1 := HY1'
  have HC2 := HC2'
  clear HB' HC0' HY0' HC1' HY1' HC2'
  clear hoI HOS
  have hcode0 : (gS0 != gS0) = false := by simp
  have hcode1 : (gS1 != gS1) = false := by simp
  have hcodf0 : (gS0 == gS0) = true := by simp
  have hcodf1 : (gS1 == gS1) = true := by simp
  have c00 := (HN0.out _ HB.out).c0
  have c01 := (HN0.out _ HB.out).c1
  have c02 := (HN0.out _ HB.out).c2
  have d00 := HY0.out.c0
  have d01 := HY0.out.c1
  have d02 := HY0.out.c2
  have HCX := Lib.hid (cx_drew (HN0.out _ HB.out).cx)
  have HCC := Lib.hid (cx_drew HY0.out.cx)
  go_wp2_with fail
  go_region_held3 (fun w' => w'.cell? ⟨w.heap.size, 0, none⟩ = some (.int .i64 p0) ∧ w'.cell? ⟨w.heap.size, 1, none⟩ = some (dv0) ∧ w'.cell? ⟨w.heap.size, 2, none⟩ = some (mv0) ∧ w'.cell? ⟨wc0.heap.size, 0, none⟩ = some (.int .i64 p0) ∧ w'.cell? ⟨wc0.heap.size, 1, none⟩ = some (.slice ya0 ds0.length yc0) ∧ w'.cell? ⟨wc0.heap.size, 2, none⟩ = some (.slice yb0 ms0.length ye0))
    (first | exact ⟨c00, c01, c02, d00, d01, d02⟩ | exact HS9.out | exact HSA.out | go_keep)
    (first
      | (go_at_call 12; refine (toComplex_any p0 dv0 mv0 ds0 ms0 _ HCX.out hds0 HMS0.out).mono ?_; rintro ee w9 ⟨zdv09, zmv09, rfl, hcx9, hb9⟩; have HS9 := Lib.hid (And.intro (later hb9 (Nat.le_refl _) c00) (And.intro (later hb9 (Nat.le_refl _) c01) (And.intro (later hb9 (Nat.le_refl _) c02) (And.intro (later hb9 (Nat.le_refl _) d00) (And.intro (later hb9 (Nat.le_refl _) d01) (later hb9 (Nat.le_refl _) d02)))))); have HX9 := Lib.hid (And.intro hcx9 (And.intro (HCC.out.below hb9) (Below.trans ((Below.refl w7.heap.size w7).drew) hb9))); clear hcx9 hb9)
      | (go_at_call 15; refine (eqComplex_true p0 _ _ zdv09 zmv09 ds0 ms0 _ HX9.out.2.1 HX9.out.1.zero hds0 HMS0.out).mono ?_; rintro ee wA0 ⟨rfl, hbA⟩; have HSA := Lib.hid (And.intro (later hbA (Nat.le_refl _) (HS9.out.1)) (And.intro (later hbA (Nat.le_refl _) (HS9.out.2.1)) (And.intro (later hbA (Nat.le_refl _) (HS9.out.2.2.1)) (And.intro (later hbA (Nat.le_refl _) (HS9.out.2.2.2.1)) (And.intro (later hbA (Nat.le_refl _) (HS9.out.2.2.2.2.1)) (later hbA (Nat.le_refl _) (HS9.out.2.2.2.2.2))))))); have HXA := Lib.hid (Below.trans HX9.out.2.2 (hbA.mono HX9.out.2.2.size)); clear hbA))
  have hsa0 : w7.heap.size ≤ wA0.heap.size := HXA.out.size
  have hb := HXA.out
  clear c00 c01 c02
  clear d00 d01 d02
  clear HXA HSA HS9 HX9 HCX HCC
  have HB' := Lib.hid (HB.out.trans (hb.mono (by omega)))
  have HC0' := Lib.hid (HC0.out.same (Same.of_below hb (by omega)))
  have HY0' := Lib.hid (HY0.out.next hb)
  have HC1' := Lib.hid (HC1.out.same (Same.of_below hb (by omega)))
  have HY1' := Lib.hid (HY1.out.next hb)
  have HC2' := Lib.hid (HC2.out.same (Same.of_below hb (by omega)))
  clear hb HB HC0 HY0 HC1 HY1 HC2
  have HB := HB'
  have HC0 := HC0'
  have HY0 := HY0'
  have HC1 := HC1'
  have HY1 := HY1'
  have HC2 := HC2'
  clear HB' HC0' HY0' HC1' HY1' HC2'
  have c10 := (HN1.out _ HB.out).c0
  have c11 := (HN1.out _ HB.out).c1
  have c12 := (HN1.out _ HB.out).c2
  have d10 := HY1.out.c0
  have d11 := HY1.out.c1
  have d12 := HY1.out.c2
  have HCX := Lib.hid (cx_drew (HN1.out _ HB.out).cx)
  have HCC := Lib.hid (cx_drew HY1.out.cx)
  go_wp2_with fail
  go_region_held3 (fun w' => w'.cell? ⟨w.heap.size + 1, 0, none⟩ = some (.int .i64 p1) ∧ w'.cell? ⟨w.heap.size + 1, 1, none⟩ = some (dv1) ∧ w'.cell? ⟨w.heap.size + 1, 2, none⟩ = some (mv1) ∧ w'.cell? ⟨wc1.heap.size, 0, none⟩ = some (.int .i64 p1) ∧ w'.cell? ⟨wc1.heap.size, 1, none⟩ = some (.slice ya1 ds1.length yc1) ∧ w'.cell? ⟨wc1.heap.size, 2, none⟩ = some (.slice yb1 ms1.length ye1))
    (first | exact ⟨c10, c11, c12, d10, d11, d12⟩ | exact HS9.out | exact HSA.out | go_keep)
    (first
      | (go_at_call 12; refine (toComplex_any p1 dv1 mv1 ds1 ms1 _ HCX.out hds1 HMS1.out).mono ?_; rintro ee w9 ⟨zdv19, zmv19, rfl, hcx9, hb9⟩; have HS9 := Lib.hid (And.intro (later hb9 (Nat.le_refl _) c10) (And.intro (later hb9 (Nat.le_refl _) c11) (And.intro (later hb9 (Nat.le_refl _) c12) (And.intro (later hb9 (Nat.le_refl _) d10) (And.intro (later hb9 (Nat.le_refl _) d11) (later hb9 (Nat.le_refl _) d12)))))); have HX9 := Lib.hid (And.intro hcx9 (And.intro (HCC.out.below hb9) (Below.trans ((Below.refl wA0.heap.size wA0).drew) hb9))); clear hcx9 hb9)
      | (go_at_call 15; refine (eqComplex_true p1 _ _ zdv19 zmv19 ds1 ms1 _ HX9.out.2.1 HX9.out.1.zero hds1 HMS1.out).mono ?_; rintro ee wA1 ⟨rfl, hbA⟩; have HSA := Lib.hid (And.intro (later hbA (Nat.le_refl _) (HS9.out.1)) (And.intro (later hbA (Nat.le_refl _) (HS9.out.2.1)) (And.intro (later hbA (Nat.le_refl _) (HS9.out.2.2.1)) (And.intro (later hbA (Nat.le_refl _) (HS9.out.2.2.2.1)) (And.intro (later hbA (Nat.le_refl _) (HS9.out.2.2.2.2.1)) (later hbA (Nat.le_refl _) (HS9.out.2.2.2.2.2))))))); have HXA := Lib.hid (Below.trans HX9.out.2.2 (hbA.mono HX9.out.2.2.size)); clear hbA))
  have hsa1 : wA0.heap.size ≤ wA1.heap.size := HXA.out.size
  have hb := HXA.out
  clear c10 c11 c12
  clear d10 d11 d12
  clear HXA HSA HS9 HX9 HCX HCC
  have HB' := Lib.hid (HB.out.trans (hb.mono (by omega)))
  have HC0' := Lib.hid (HC0.out.same (Same.of_below hb (by omega)))
  have HY0' := Lib.hid (HY0.out.next hb)
  have HC1' := Lib.hid (HC1.out.same (Same.of_below hb (by omega)))
  have HY1' := Lib.hid (HY1.out.next hb)
  have HC2' := Lib.hid (HC2.out.same (Same.of_below hb (by omega)))
  clear hb HB HC0 HY0 HC1 HY1 HC2
  have HB := HB'
  have HC0 := HC0'
  have HY0 := HY0'
  have HC1 := HC1'
  have HY1 := HY1'
  have HC2 := HC2'
  clear HB' HC0' HY0' HC1' HY1' HC2'
  go_wp2_with fail
  refine (to3_any _ fs2 _ (HN2.out _ HB.out) HMS2.out).mono ?_
  rintro ee w9 ⟨v9, rfl, hc, hb⟩
  have hs92 : wA1.heap.size ≤ w9.heap.size := hb.size
  have HB' := Lib.hid (HB.out.trans (hb.mono (by omega)))
  have HC0' := Lib.hid (HC0.out.same (Same.of_below hb (by omega)))
  have HY0' := Lib.hid (HY0.out.next hb)
  have HC1' := Lib.hid (HC1.out.same (Same.of_below hb (by omega)))
  have HY1' := Lib.hid (HY1.out.next hb)
  have HC2' := Lib.hid (HC2.out.same (Same.of_below hb (by omega)))
  clear hb HB HC0 HY0 HC1 HY1 HC2
  have HB := HB'
  have HC0 := HC0'
  have HY0 := HY0'
  have HC1 := HC1'
  have HY1 := HY1'
  have HC2 := HC2'
  clear HB' HC0' HY0' HC1' HY1' HC2'
  have HV9 := Lib.hid (hc.lower (Nat.zero_le _))
  clear hc
  obtain ⟨a9, c9, e9⟩ := Sl.shape HV9.out
  subst e9
  go_wp2_with fail
  refine (eq3_true _ _ fs2 _ (HC2.out.l3.lower (Nat.zero_le _)) HV9.out HMS2.out).mono ?_
  rintro ee wA2 ⟨rfl, hb⟩
  have hsa2 : w9.heap.size ≤ wA2.heap.size := hb.size
  clear HV9
  have HB' := Lib.hid (HB.out.trans (hb.mono (by omega)))
  have HC0' := Lib.hid (HC0.out.same (Same.of_below hb (by omega)))
  have HY0' := Lib.hid (HY0.out.next hb)
  have HC1' := Lib.hid (HC1.out.same (Same.of_below hb (by omega)))
  have HY1' := Lib.hid (HY1.out.next hb)
  have HC2' := Lib.hid (HC2.out.same (Same.of_below hb (by omega)))
  clear hb HB HC0 HY0 HC1 HY1 HC2
  have HB := HB'
  have HC0 := HC0'
  have HY0 := HY0'
  have HC1 := HC1'
  have HY1 := HY1'
  have HC2 := HC2'
  clear HB' HC0' HY0' HC1' HY1' HC2'
  have hsq2 : wA1.heap.size ≤ wA2.heap.size := by omega
  obtain ⟨w9k, hw9k⟩ : ∃ w9k, w9k = w9 := ⟨_, rfl⟩
  clear hw9k w9k
  go_wp2
  go_ret
  exact ⟨rfl, HNW.out _ HB.out⟩
end Go.Proofs.YtpchbceohnabnabDoor


namespace Go.Proofs.YtpchbceohnabnabDoor
open Go.ChangeShapes Go.WideShapes Go.ChangeAt Go.RowKit

theorem dor_g : Tryd.prog.globalNamed "loop.example/g01273/impl.errNoChainMap" = some 0 := by kernel_rfl
theorem dor_gt : (Tryd.prog.globals[0]?).map (·.type) = some 83 := by kernel_rfl
theorem dor_star : "*" ++ "errors.errorString" = "*errors.errorString" := by decide
theorem dor_row (u : TypeId) (h : Tryd.prog.typeName? 3 u = some "*errors.errorString") : u = 135 :=
  typeName_ptr_named (nm := "errors.errorString") (by rw [dor_star]; kernel_rfl) (by kernel_rfl) (by decide) u (by rw [dor_star]; exact h)
theorem dor_ce : Tryd.prog.cellsOf 153 = 1 := by kernel_rfl
theorem dor_cs : Tryd.prog.cellsOf 9 = 1 := by kernel_rfl
abbrev dorLaid : List (String × DataW Unit) := [("loop.example/g01273/impl.errNoChainMap", .iface "*errors.errorString" (.ptr (.agg [.lit (.string [97, 32, 102, 97, 109, 105, 108, 121, 32, 105, 115, 32, 110, 111, 32, 99, 104, 97, 105, 110, 32, 109, 97, 112])])))]
theorem dor_open {W : World} (h : laidMet Tryd.prog dorLaid W) : ∃ a : Addr, W.var? Tryd.prog "loop.example/g01273/impl.errNoChainMap" = some #[.iface 135 (.pointer (some a))] := by
  obtain ⟨a, s, hv, _⟩ := laid_sentinel h dor_g dor_gt Tryd.underlying83 dor_row Tryd.underlying135 Tryd.underlying153 rfl rfl Tryd.underlying9 dor_ce dor_cs
  exact ⟨a, hv⟩
theorem dor_cell {W : World} {x : Value} (h : W.var? Tryd.prog "loop.example/g01273/impl.errNoChainMap" = some #[x]) : W.cell? ⟨0, 0, none⟩ = some x := by simpa using World.var?_cell dor_g h 0
theorem dor_below {W W' : World} {n : String} {cs : Array Value} (hb : Below W.heap.size W W') (h : W.var? Tryd.prog n = some cs) : W'.var? Tryd.prog n = some cs := by
  unfold World.var? at h ⊢
  cases hg : Tryd.prog.globalNamed n with
  | none => simp [hg] at h
  | some g =>
    simp only [hg, Option.bind_some] at h ⊢
    have hlt : g < W.heap.size := by
      rcases Nat.lt_or_ge g W.heap.size with h' | h'
      · exact h'
      · simp [Array.getElem?_eq_none h'] at h
    rw [hb.block g hlt]
    exact h
theorem dor_vars {H : Type} (enc : TypeId × Value → H) {W : World} {x : Value} (h : W.var? Tryd.prog "loop.example/g01273/impl.errNoChainMap" = some #[x]) (ix : IsIface x) (sp : Nat → Bool) :
    DataW.TrodVars enc Tryd.prog W sp ["loop.example/g01273/impl.errNoChainMap"] [tok enc x] [.cell 0 0] :=
  vars_read1 enc dor_g dor_gt Tryd.underlying83 h ix sp

abbrev dorText : ByteArray := { data := #[97, 32, 102, 97, 109, 105, 108, 121, 32, 105, 115, 32, 110, 111, 32, 99, 104, 97, 105, 110, 32, 109, 97, 112] }
noncomputable def dorLow : Nat := (World.holding Tryd.prog default ⟨#[], #[], []⟩).heap.size
noncomputable def dorWorld (os : Os) : World :=
  let w0 := World.holding Tryd.prog os ⟨#[.cells #[.string dorText] 153], #[], []⟩
  { w0 with heap := w0.heap.modify 0 fun
      | .cells _ t frozen => .cells #[.iface 135 (.pointer (some ⟨dorLow, 0, none⟩))] t frozen
      | o => o }
theorem dor_met (os : Os) (args : Array Value) : laidMet Tryd.prog dorLaid ((dorWorld os).forCall (fun _ _ => 0) ⟨#[], args, []⟩).memory :=
  laidMet_of_run (ps := [.cell 0 0, .cell dorLow 0]) 8 (by kernel_rfl) (by kernel_rfl) (by kernel_rfl)
end Go.Proofs.YtpchbceohnabnabDoor

