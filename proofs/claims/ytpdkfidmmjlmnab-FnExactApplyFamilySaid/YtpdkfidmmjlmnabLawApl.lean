/-
  laws.FnExactApplyFamily by its walk.
-/
import Derived.Test.YtpdkfidmmjlmnabApn
import Derived.Test.YtpdkfidmmjlmnabAps
import Derived.Test.YtpdkfidmmjlmnabRw
import Derived.Test.YtpdkfidmmjlmnabEnd
import Derived.Test.YtpdkfidmmjlmnabQg
import Derived.Test.YtpdkfidmmjlmnabQh
import Derived.Deep.RegionWith
import Derived.Deep.RegionHeld3
import Derived.BigRegion
import Derived.BigQuiet
import Derived.Deep.QuietTactic
namespace Go.Proofs.Ytpdkfidmmjlmnab
open Go.RowKit

set_option maxHeartbeats 25600000 in
set_option maxRecDepth 100000 in
theorem lawApl_any (p0 : Int) (dv0 mv0 : Value) (ds0 : List Int) (ms0 : List (List (List Int))) (p1 : Int) (dv1 mv1 : Value) (ds1 : List Int) (ms1 : List (List (List Int))) (fv2 : Value) (fs2 : List (List (List Int))) (n3 : Int) (fv4 : Value) (fs4 : List Int) (w : World) (h0 : Cx 0 w dv0 mv0 ds0 ms0) (hdl0 : ds0.length ≤ 9223372036854775807) (hml0 : Bd3 9223372036854775807 ms0) (h1 : Cx 0 w dv1 mv1 ds1 ms1) (hdl1 : ds1.length ≤ 9223372036854775807) (hml1 : Bd3 9223372036854775807 ms1) (h2 : L3 0 w fv2 fs2) (hml2 : Bd3 9223372036854775807 fs2) (h4 : L1 0 w fv4 fs4) (hml4 : fs4.length ≤ 9223372036854775807) :
    Calls Try.prog 12 #[.agg #[.int .i64 p0, dv0, mv0], .agg #[.int .i64 p1, dv1, mv1], fv2, .int .i64 n3, fv4] w (BR (.bool true) w) := by
  obtain ⟨W0, hW0⟩ : ∃ W0, W0 = ((w.alloc (.cells #[.int .i64 p0, dv0, mv0] 25)).alloc (.cells #[.int .i64 p1, dv1, mv1] 25)) := ⟨_, rfl⟩
  have HS0 : Hid (W0.heap.size = w.heap.size + 2) := Lib.hid (by rw [hW0]; simp)
  have HZ0 : Hid (Below w.heap.size w W0) := Lib.hid (by rw [hW0]; exact (below_alloc1 _ _).trans ((below_alloc1 _ _).mono (by simp)))
  have HK0 : Hid (Bx w W0 (w.heap.size) p0 dv0 mv0 ds0 ms0) := Lib.hid (by rw [hW0]; exact (bx_two _ h0 h1).1)
  have HK1 : Hid (Bx w W0 (w.heap.size + 1) p1 dv1 mv1 ds1 ms1) := Lib.hid (by rw [hW0]; exact (bx_two _ h0 h1).2)
  have HN0 : Hid (∀ W, Below (w.heap.size + 2) W0 W → Bx w W (w.heap.size) p0 dv0 mv0 ds0 ms0) := Lib.hid (fun W hb => HK0.out.next (by rw [HS0.out]; exact hb))
  have HN1 : Hid (∀ W, Below (w.heap.size + 2) W0 W → Bx w W (w.heap.size + 1) p1 dv1 mv1 ds1 ms1) := Lib.hid (fun W hb => HK1.out.next (by rw [HS0.out]; exact hb))
  have HN2 : Hid (∀ W, Below (w.heap.size + 2) W0 W → L3 0 W fv2 fs2) := Lib.hid (fun W hb => (h2.below HZ0.out).below (by rw [HS0.out]; exact hb))
  have HN4 : Hid (∀ W, Below (w.heap.size + 2) W0 W → L1 0 W fv4 fs4) := Lib.hid (fun W hb => (h4.below HZ0.out).below (by rw [HS0.out]; exact hb))
  have HNW : Hid (∀ W, Below (w.heap.size + 2) W0 W → Below w.heap.size w W) := Lib.hid (fun W hb => HZ0.out.trans (hb.mono (by omega)))
  have HB : Hid (Below (w.heap.size + 2) W0 W0) := Lib.hid (Below.refl _ _)
  have hs0 : w.heap.size + 2 ≤ W0.heap.size := by have := HS0.out; omega
  have HML0 := Lib.hid hml0
  have HML1 := Lib.hid hml1
  have HML2 := Lib.hid hml2
  obtain ⟨af2, cf2, ef2⟩ := Sl.shape h2
  subst ef2
  have HML4 := Lib.hid hml4
  obtain ⟨af4, cf4, ef4⟩ := Sl.shape h4
  subst ef4
  clear h0 h1 h2 h4 hml0 hml1 hml2 HK0 HK1
  go_enter Try.func12, Try.ntmps12
  go_upto_region 1 with fail
  rw [← hW0]
  clear hW0
  by_cases hls4 : (1048576 : Int) < (fs4.length : Int)
  · go_wp2
    go_ret
    exact ⟨rfl, HZ0.out⟩
  have hsl4 : fs4.length ≤ 1048576 := by omega
  have c00 := (HN0.out _ HB.out).c0
  have c01 := (HN0.out _ HB.out).c1
  have c02 := (HN0.out _ HB.out).c2
  go_wp2_with fail
  refine (szComplex_any p0 dv0 mv0 ds0 ms0 1048576 _ (HN0.out _ HB.out).cx.dims (HN0.out _ HB.out).cx.maps (by omega) (by omega) hdl0 HML0.out).mono ?_
  rintro e wz0 ⟨sz0, rfl, hb, hpost⟩
  have hsz0 : W0.heap.size ≤ wz0.heap.size := hb.size
  have HB' := Lib.hid (HB.out.trans (hb.mono (by omega)))
  clear c00 c01 c02
  clear hb HB
  have HB := HB'
  clear HB'
  rcases hpost with rfl | ⟨hp00, hp01, hds0, hpm0⟩
  · go_wp2
    go_ret
    exact ⟨rfl, HNW.out _ HB.out⟩
  have hds0 : ds0.length ≤ 1048576 := hds0
  have HMS0 := Lib.hid hpm0
  clear hpm0
  have c10 := (HN1.out _ HB.out).c0
  have c11 := (HN1.out _ HB.out).c1
  have c12 := (HN1.out _ HB.out).c2
  go_wp2_with fail
  refine (szComplex_any p1 dv1 mv1 ds1 ms1 sz0 _ (HN1.out _ HB.out).cx.dims (HN1.out _ HB.out).cx.maps (by omega) (by omega) hdl1 HML1.out).mono ?_
  rintro e wz1 ⟨sz1, rfl, hb, hpost⟩
  have hsz1 : wz0.heap.size ≤ wz1.heap.size := hb.size
  have HB' := Lib.hid (HB.out.trans (hb.mono (by omega)))
  clear c10 c11 c12
  clear hb HB
  have HB := HB'
  clear HB'
  rcases hpost with rfl | ⟨hp10, hp11, hds1, hpm1⟩
  · go_wp2
    go_ret
    exact ⟨rfl, HNW.out _ HB.out⟩
  have hds1 : ds1.length ≤ 1048576 := hds1
  have HMS1 := Lib.hid hpm1
  clear hpm1
  go_wp2_with fail
  refine (sz3_any _ fs2 sz1 _ (HN2.out _ HB.out) (by omega) (by omega) HML2.out).mono ?_
  rintro e w' ⟨sz2, rfl, rfl, hpost⟩
  rcases hpost with rfl | ⟨hp20, hp21, hpm2⟩
  · go_wp2
    go_ret
    exact ⟨rfl, HNW.out _ HB.out⟩
  have HMS2 := Lib.hid hpm2
  clear hpm2
  have HMS4 : Hid (fs4.length ≤ 1048576) := Lib.hid hsl4
  have c00 := (HN0.out _ HB.out).c0
  have c01 := (HN0.out _ HB.out).c1
  have c02 := (HN0.out _ HB.out).c2
  have c10 := (HN1.out _ HB.out).c0
  have c11 := (HN1.out _ HB.out).c1
  have c12 := (HN1.out _ HB.out).c2
  have hsSd : wz1.heap.size ≤ wz1.drew.heap.size := Nat.le_refl _
  have HDS : Hid (Below (w.heap.size + 2) W0 wz1.drew) := Lib.hid (HB.out.trans ((Below.refl wz1.heap.size wz1).drew.mono (by omega)))
  have HQd : Hid (Below wz1.heap.size wz1 wz1.drew) := Lib.hid (Below.refl wz1.heap.size wz1).drew
  skip
  have HSP : Hid (∀ w', Below (w.heap.size + 2) W0 w' → w'.cell? ⟨w.heap.size, 0, none⟩ = some (.int .i64 p0) ∧ w'.cell? ⟨w.heap.size, 1, none⟩ = some (dv0) ∧ w'.cell? ⟨w.heap.size, 2, none⟩ = some (mv0) ∧ w'.cell? ⟨w.heap.size + 1, 0, none⟩ = some (.int .i64 p1) ∧ w'.cell? ⟨w.heap.size + 1, 1, none⟩ = some (dv1) ∧ w'.cell? ⟨w.heap.size + 1, 2, none⟩ = some (mv1) ∧ Hid (Below (w.heap.size + 2) W0 w')) := Lib.hid (fun w' hb => ⟨(HN0.out _ hb).c0, (HN0.out _ hb).c1, (HN0.out _ hb).c2, (HN1.out _ hb).c0, (HN1.out _ hb).c1, (HN1.out _ hb).c2, Lib.hid hb⟩)
  go_wp2
  go_region_held3 (fun w' => w'.cell? ⟨w.heap.size, 0, none⟩ = some (.int .i64 p0) ∧ w'.cell? ⟨w.heap.size, 1, none⟩ = some (dv0) ∧ w'.cell? ⟨w.heap.size, 2, none⟩ = some (mv0) ∧ w'.cell? ⟨w.heap.size + 1, 0, none⟩ = some (.int .i64 p1) ∧ w'.cell? ⟨w.heap.size + 1, 1, none⟩ = some (dv1) ∧ w'.cell? ⟨w.heap.size + 1, 2, none⟩ = some (mv1) ∧ Hid (Below (w.heap.size + 2) W0 w'))
    (first | exact HSP.out _ HB.out | exact HSP.out _ HDS.out | exact HSP.out _ HBS0.out | exact HSP.out _ HBS1.out | exact HSP.out _ HBS2.out | exact HSP.out _ HBS3.out | exact HSP.out _ HBSr.out | go_keep)
    (first
      | (go_at_call 49; (with_reducible refine (toComplex_any p0 dv0 mv0 ds0 ms0 _ (HN0.out _ HDS.out).cx hds0 HMS0.out).mono ?_); rintro e wS0 ⟨xdS0, xmS0, rfl, hc, hb⟩; have hsS0 : wz1.drew.heap.size ≤ wS0.heap.size := hb.size; have HBS0 := Lib.hid (HDS.out.trans (hb.mono (by omega))); have HQ0 := Lib.hid (HQd.out.trans (hb.mono (by omega))); have HXS00 := Lib.hid (hc.zero); clear hb hc)
      | (go_at_call 49; (with_reducible refine (toComplex_any p1 dv1 mv1 ds1 ms1 _ (HN1.out _ HBS0.out).cx hds1 HMS1.out).mono ?_); rintro e wS1 ⟨xdS1, xmS1, rfl, hc, hb⟩; have hsS1 : wS0.heap.size ≤ wS1.heap.size := hb.size; have HBS1 := Lib.hid (HBS0.out.trans (hb.mono (by omega))); have HQ1 := Lib.hid (HQ0.out.trans (hb.mono (by omega))); have HXS01 := Lib.hid (HXS00.out.below hb); have HXS11 := Lib.hid (hc.zero); clear hb hc)
      | (go_at_call 50; (with_reducible refine (to3_any _ fs2 _ (HN2.out _ HBS1.out) HMS2.out).mono ?_); rintro e wS2 ⟨xvS2, rfl, hc, hb⟩; have hsS2 : wS1.heap.size ≤ wS2.heap.size := hb.size; have HBS2 := Lib.hid (HBS1.out.trans (hb.mono (by omega))); have HQ2 := Lib.hid (HQ1.out.trans (hb.mono (by omega))); have HXS02 := Lib.hid (HXS01.out.below hb); have HXS12 := Lib.hid (HXS11.out.below hb); have HXS22 := Lib.hid (hc.lower (Nat.zero_le _)); clear hb hc)
      | (go_at_call 51; (with_reducible refine (to1_any _ fs4 _ (HN4.out _ HBS2.out) HMS4.out).mono ?_); rintro e wS3 ⟨xvS4, rfl, hc, hb⟩; have hsS3 : wS2.heap.size ≤ wS3.heap.size := hb.size; have HBS3 := Lib.hid (HBS2.out.trans (hb.mono (by omega))); have HQ3 := Lib.hid (HQ2.out.trans (hb.mono (by omega))); have HXS03 := Lib.hid (HXS02.out.below hb); have HXS13 := Lib.hid (HXS12.out.below hb); have HXS23 := Lib.hid (HXS22.out.below hb); have HXS43 := Lib.hid (hc.lower (Nat.zero_le _)); clear hb hc)
      | (go_at_call 48; (with_reducible refine (spApplyFamily_any p0 p1 n3 xdS0 xmS0 xdS1 xmS1 xvS2 xvS4 ds0 ms0 ds1 ms1 fs2 fs4 _ (HXS03.out) (HXS13.out) (HXS23.out) (HXS43.out) hds0 HMS0.out hds1 HMS1.out HMS2.out HMS4.out).mono ?_); rintro e wSr ⟨uS, oS, kS, rfl, hrS, hb, hoS⟩; have hsSr : wS3.heap.size ≤ wSr.heap.size := hb.size; have HBSr := Lib.hid (HBS3.out.trans (hb.mono (by omega))); have HQr := Lib.hid (HQ3.out.trans (hb.mono (by omega))); have HRS := Lib.hid hrS; have HOS := Lib.hid hoS; clear hb hrS hoS))
  clear c00 c01 c02 c10 c11 c12
  have hb := HQr.out
  clear HQd HQr HQ0 HQ1 HQ2 HQ3 HXS00 HXS01 HXS02 HXS03 HXS11 HXS12 HXS13 HXS22 HXS23 HXS43 HBS0 HBS1 HBS2 HBS3 HBSr HDS HSP
  have HB' := Lib.hid (HB.out.trans (hb.mono (by omega)))
  clear hb HB
  have HB := HB'
  clear HB'
  have HBD : Hid (oS.length ≤ 1048576) := Lib.hid (HOS.out.all (by simp) (fun h0 a ha => apFam_len h0 ha))
  have HK : Hid (Below wSr.heap.size wSr wSr) := Lib.hid (Below.refl _ _)
  have c00 := (HN0.out _ HB.out).c0
  have c01 := (HN0.out _ HB.out).c1
  have c02 := (HN0.out _ HB.out).c2
  go_wp2_with fail
  refine (toComplexw_any p0 dv0 mv0 ds0 ms0 _ (HN0.out _ HB.out).cx hds0 HMS0.out).mono ?_
  rintro e wc0 ⟨yd0, ym0, rfl, hc, hb⟩
  have hsc0 : wSr.heap.size ≤ wc0.heap.size := hb.size
  clear c00 c01 c02
  have HB' := Lib.hid (HB.out.trans (hb.mono (by omega)))
  have HK' := Lib.hid (HK.out.trans (hb.mono (by omega)))
  clear hb HB HK
  have HB := HB'
  have HK := HK'
  clear HB' HK'
  have HC0 := Lib.hid hc
  obtain ⟨⟨ya0, yc0, rfl⟩, ⟨yb0, ye0, rfl⟩⟩ := hc.cx.shapes
  clear hc
  obtain ⟨wb0, hwb⟩ : ∃ wb0, wb0 = wc0.alloc (.cells #[.int .i64 p0, .slice ya0 ds0.length yc0, .slice yb0 ms0.length ye0] 31) := ⟨_, rfl⟩
  have hb : Below wc0.heap.size wc0 wb0 := by rw [hwb]; exact below_alloc1 _ _
  have hsb0 : wc0.heap.size + 1 = wb0.heap.size := by rw [hwb]; simp
  have hsB0 : wc0.heap.size ≤ wb0.heap.size := by omega
  have HY0 : Hid (Bq wb0 wc0.heap.size p0 (.slice ya0 ds0.length yc0) (.slice yb0 ms0.length ye0) ds0 ms0) := Lib.hid (by rw [hwb]; exact (Bx.start _ HC0.out.cx.zero).bq)
  have HB' := Lib.hid (HB.out.trans (hb.mono (by omega)))
  have HK' := Lib.hid (HK.out.trans (hb.mono (by omega)))
  have HC0' := Lib.hid (HC0.out.same (Same.of_below hb (by omega)))
  clear hb HB HK HC0
  have HB := HB'
  have HK := HK'
  have HC0 := HC0'
  clear HB' HK' HC0'
  go_upto_region 15 with fail
  rw [← hwb]
  clear hwb
  have c10 := (HN1.out _ HB.out).c0
  have c11 := (HN1.out _ HB.out).c1
  have c12 := (HN1.out _ HB.out).c2
  go_wp2_with fail
  refine (toComplexw_any p1 dv1 mv1 ds1 ms1 _ (HN1.out _ HB.out).cx hds1 HMS1.out).mono ?_
  rintro e wc1 ⟨yd1, ym1, rfl, hc, hb⟩
  have hsc1 : wb0.heap.size ≤ wc1.heap.size := hb.size
  clear c10 c11 c12
  have HB' := Lib.hid (HB.out.trans (hb.mono (by omega)))
  have HK' := Lib.hid (HK.out.trans (hb.mono (by omega)))
  have HC0' := Lib.hid (HC0.out.same (Same.of_below hb (by omega)))
  have HY0' := Lib.hid (HY0.out.next hb)
  clear hb HB HK HC0 HY0
  have HB := HB'
  have HK := HK'
  have HC0 := HC0'
  have HY0 := HY0'
  clear HB' HK' HC0' HY0'
  have HC1 := Lib.hid hc
  obtain ⟨⟨ya1, yc1, rfl⟩, ⟨yb1, ye1, rfl⟩⟩ := hc.cx.shapes
  clear hc
  obtain ⟨wb1, hwb⟩ : ∃ wb1, wb1 = wc1.alloc (.cells #[.int .i64 p1, .slice ya1 ds1.length yc1, .slice yb1 ms1.length ye1] 31) := ⟨_, rfl⟩
  have hb : Below wc1.heap.size wc1 wb1 := by rw [hwb]; exact below_alloc1 _ _
  have hsb1 : wc1.heap.size + 1 = wb1.heap.size := by rw [hwb]; simp
  have hsB1 : wc1.heap.size ≤ wb1.heap.size := by omega
  have HY1 : Hid (Bq wb1 wc1.heap.size p1 (.slice ya1 ds1.length yc1) (.slice yb1 ms1.length ye1) ds1 ms1) := Lib.hid (by rw [hwb]; exact (Bx.start _ HC1.out.cx.zero).bq)
  have HB' := Lib.hid (HB.out.trans (hb.mono (by omega)))
  have HK' := Lib.hid (HK.out.trans (hb.mono (by omega)))
  have HC0' := Lib.hid (HC0.out.same (Same.of_below hb (by omega)))
  have HY0' := Lib.hid (HY0.out.next hb)
  have HC1' := Lib.hid (HC1.out.same (Same.of_below hb (by omega)))
  clear hb HB HK HC0 HY0 HC1
  have HB := HB'
  have HK := HK'
  have HC0 := HC0'
  have HY0 := HY0'
  have HC1 := HC1'
  clear HB' HK' HC0' HY0' HC1'
  go_upto_region 16 with fail
  rw [← hwb]
  clear hwb
  go_wp2_with fail
  refine (to3w_any _ fs2 _ (HN2.out _ HB.out) HMS2.out).mono ?_
  rintro e wc2 ⟨yv2, rfl, hc, hb⟩
  have hsc2 : wb1.heap.size ≤ wc2.heap.size := hb.size
  have HB' := Lib.hid (HB.out.trans (hb.mono (by omega)))
  have HK' := Lib.hid (HK.out.trans (hb.mono (by omega)))
  have HC0' := Lib.hid (HC0.out.same (Same.of_below hb (by omega)))
  have HY0' := Lib.hid (HY0.out.next hb)
  have HC1' := Lib.hid (HC1.out.same (Same.of_below hb (by omega)))
  have HY1' := Lib.hid (HY1.out.next hb)
  clear hb HB HK HC0 HY0 HC1 HY1
  have HB := HB'
  have HK := HK'
  have HC0 := HC0'
  have HY0 := HY0'
  have HC1 := HC1'
  have HY1 := HY1'
  clear HB' HK' HC0' HY0' HC1' HY1'
  have HC2 := Lib.hid hc
  obtain ⟨ya2, yc2, rfl⟩ := Sw.shape hc
  clear hc
  go_wp2_with fail
  refine (to1w_any _ fs4 _ (HN4.out _ HB.out) HMS4.out).mono ?_
  rintro e wc3 ⟨yv4, rfl, hc, hb⟩
  have hsc3 : wc2.heap.size ≤ wc3.heap.size := hb.size
  have HB' := Lib.hid (HB.out.trans (hb.mono (by omega)))
  have HK' := Lib.hid (HK.out.trans (hb.mono (by omega)))
  have HC0' := Lib.hid (HC0.out.same (Same.of_below hb (by omega)))
  have HY0' := Lib.hid (HY0.out.next hb)
  have HC1' := Lib.hid (HC1.out.same (Same.of_below hb (by omega)))
  have HY1' := Lib.hid (HY1.out.next hb)
  have HC2' := Lib.hid (HC2.out.same (Same.of_below hb (by omega)))
  clear hb HB HK HC0 HY0 HC1 HY1 HC2
  have HB := HB'
  have HK := HK'
  have HC0 := HC0'
  have HY0 := HY0'
  have HC1 := HC1'
  have HY1 := HY1'
  have HC2 := HC2'
  clear HB' HK' HC0' HY0' HC1' HY1' HC2'
  have HC4 := Lib.hid hc
  obtain ⟨ya4, yc4, rfl⟩ := Sw.shape hc
  clear hc
  have d00 := HY0.out.c0
  have d01 := HY0.out.c1
  have d02 := HY0.out.c2
  have d10 := HY1.out.c0
  have d11 := HY1.out.c1
  have d12 := HY1.out.c2
  go_wp2_with fail
  refine (applyFamily_any p0 p1 n3 _ _ _ _ _ _ ds0 ms0 ds1 ms1 fs2 fs4 _ (HC0.out.cx.zero) (HC1.out.cx.zero) (HC2.out.l3.lower (Nat.zero_le _)) (HC4.out.l1.lower (Nat.zero_le _)) hds0 HMS0.out hds1 HMS1.out HMS2.out HMS4.out).mono ?_
  rintro e w7 ⟨u7, o7, k7, rfl, hw7, hb, hout7⟩
  obtain ⟨rfl, rfl⟩ := RsOut.unique (fun _ a b ha hb => ha.trans hb.symm) HOS.out hout7
  have hs7 : wc3.heap.size ≤ w7.heap.size := hb.size
  clear d00 d01 d02 d10 d11 d12
  have HB' := Lib.hid (HB.out.trans (hb.mono (by omega)))
  have HK' := Lib.hid (HK.out.trans (hb.mono (by omega)))
  have HC0' := Lib.hid (HC0.out.same (Same.of_below hb (by omega)))
  have HY0' := Lib.hid (HY0.out.next hb)
  have HC1' := Lib.hid (HC1.out.same (Same.of_below hb (by omega)))
  have HY1' := Lib.hid (HY1.out.next hb)
  have HC2' := Lib.hid (HC2.out.same (Same.of_below hb (by omega)))
  have HC4' := Lib.hid (HC4.out.same (Same.of_below hb (by omega)))
  clear hb HB HK HC0 HY0 HC1 HY1 HC2 HC4
  have HB := HB'
  have HK := HK'
  have HC0 := HC0'
  have HY0 := HY0'
  have HC1 := HC1'
  have HY1 := HY1'
  have HC2 := HC2'
  have HC4 := HC4'
  clear HB' HK' HC0' HY0' HC1' HY1' HC2' HC4'
  have HG := Lib.hid hw7
  clear hw7 hout7
  have hcode : (kS != kS) = false := by simp
  obtain ⟨aG, cG, eG⟩ := HG.out.shape
  obtain ⟨aS, cS, eS⟩ := Sl.shape HRS.out
  subst eG eS
  go_wp2_with fail
  refine (eq1_true _ _ oS _ HG.out.l (HRS.out.below HK.out) HBD.out).mono ?_
  rintro e we1 ⟨rfl, hb⟩
  have hse1 : w7.heap.size ≤ we1.heap.size := hb.size
  have HB' := Lib.hid (HB.out.trans (hb.mono (by omega)))
  have HK' := Lib.hid (HK.out.trans (hb.mono (by omega)))
  have HC0' := Lib.hid (HC0.out.same (Same.of_below hb (by omega)))
  have HY0' := Lib.hid (HY0.out.next hb)
  have HC1' := Lib.hid (HC1.out.same (Same.of_below hb (by omega)))
  have HY1' := Lib.hid (HY1.out.next hb)
  have HC2' := Lib.hid (HC2.out.same (Same.of_below hb (by omega)))
  have HC4' := Lib.hid (HC4.out.same (Same.of_below hb (by omega)))
  have HG' := Lib.hid (HG.out.same (Same.of_below hb (by omega)))
  clear hb HB HK HC0 HY0 HC1 HY1 HC2 HC4 HG
  have HB := HB'
  have HK := HK'
  have HC0 := HC0'
  have HY0 := HY0'
  have HC1 := HC1'
  have HY1 := HY1'
  have HC2 := HC2'
  have HC4 := HC4'
  have HG := HG'
  clear HB' HK' HC0' HY0' HC1' HY1' HC2' HC4' HG'
  have c00 := (HN0.out _ HB.out).c0
  have c01 := (HN0.out _ HB.out).c1
  have c02 := (HN0.out _ HB.out).c2
  have d00 := HY0.out.c0
  have d01 := HY0.out.c1
  have d02 := HY0.out.c2
  have HCX := Lib.hid (cx_drew (HN0.out _ HB.out).cx)
  have HCC := Lib.hid (cx_drew HY0.out.cx)
  go_wp2_with fail
  go_region_held3 (fun w' => w'.cell? ⟨w.heap.size, 0, none⟩ = some (.int .i64 p0) ∧ w'.cell? ⟨w.heap.size, 1, none⟩ = some (dv0) ∧ w'.cell? ⟨w.heap.size, 2, none⟩ = some (mv0) ∧ w'.cell? ⟨wc0.heap.size, 0, none⟩ = some (.int .i64 p0) ∧ w'.cell? ⟨wc0.heap.size, 1, none⟩ = some (.slice ya0 ds0.length yc0) ∧ w'.cell? ⟨wc0.heap.size, 2, none⟩ = some (.slice yb0 ms0.length ye0))
    (first | exact ⟨c00, c01, c02, d00, d01, d02⟩ | exact HS9.out | exact HSA.out | go_keep)
    (first
      | (go_at_call 49; refine (toComplex_any p0 dv0 mv0 ds0 ms0 _ HCX.out hds0 HMS0.out).mono ?_; rintro e w9 ⟨dv9, mv9, rfl, hcx9, hb9⟩; have HS9 := Lib.hid (And.intro (later hb9 (Nat.le_refl _) c00) (And.intro (later hb9 (Nat.le_refl _) c01) (And.intro (later hb9 (Nat.le_refl _) c02) (And.intro (later hb9 (Nat.le_refl _) d00) (And.intro (later hb9 (Nat.le_refl _) d01) (later hb9 (Nat.le_refl _) d02)))))); have HX9 := Lib.hid (And.intro hcx9 (And.intro (HCC.out.below hb9) (Below.trans ((Below.refl we1.heap.size we1).drew) hb9))); clear hcx9 hb9)
      | (go_at_call 54; refine (eqComplex_true p0 _ _ dv9 mv9 ds0 ms0 _ HX9.out.2.1 HX9.out.1.zero hds0 HMS0.out).mono ?_; rintro e wA0 ⟨rfl, hbA⟩; have HSA := Lib.hid (And.intro (later hbA (Nat.le_refl _) HS9.out.1) (And.intro (later hbA (Nat.le_refl _) HS9.out.2.1) (And.intro (later hbA (Nat.le_refl _) HS9.out.2.2.1) (And.intro (later hbA (Nat.le_refl _) HS9.out.2.2.2.1) (And.intro (later hbA (Nat.le_refl _) HS9.out.2.2.2.2.1) (later hbA (Nat.le_refl _) HS9.out.2.2.2.2.2)))))); have HXA := Lib.hid (Below.trans HX9.out.2.2 (hbA.mono HX9.out.2.2.size)); clear hbA))
  have hsa0 : we1.heap.size ≤ wA0.heap.size := HXA.out.size
  have hb := HXA.out
  clear c00 c01 c02
  clear d00 d01 d02
  clear HXA HSA HS9 HX9 HCX HCC
  have HB' := Lib.hid (HB.out.trans (hb.mono (by omega)))
  have HK' := Lib.hid (HK.out.trans (hb.mono (by omega)))
  have HC0' := Lib.hid (HC0.out.same (Same.of_below hb (by omega)))
  have HY0' := Lib.hid (HY0.out.next hb)
  have HC1' := Lib.hid (HC1.out.same (Same.of_below hb (by omega)))
  have HY1' := Lib.hid (HY1.out.next hb)
  have HC2' := Lib.hid (HC2.out.same (Same.of_below hb (by omega)))
  have HC4' := Lib.hid (HC4.out.same (Same.of_below hb (by omega)))
  have HG' := Lib.hid (HG.out.same (Same.of_below hb (by omega)))
  clear hb HB HK HC0 HY0 HC1 HY1 HC2 HC4 HG
  have HB := HB'
  have HK := HK'
  have HC0 := HC0'
  have HY0 := HY0'
  have HC1 := HC1'
  have HY1 := HY1'
  have HC2 := HC2'
  have HC4 := HC4'
  have HG := HG'
  clear HB' HK' HC0' HY0' HC1' HY1' HC2' HC4' HG'
  have c10 := (HN1.out _ HB.out).c0
  have c11 := (HN1.out _ HB.out).c1
  have c12 := (HN1.out _ HB.out).c2
  have d10 := HY1.out.c0
  have d11 := HY1.out.c1
  have d12 := HY1.out.c2
  have HCX := Lib.hid (cx_drew (HN1.out _ HB.out).cx)
  have HCC := Lib.hid (cx_drew HY1.out.cx)
  go_wp2_with fail
  go_region_held3 (fun w' => w'.cell? ⟨w.heap.size + 1, 0, none⟩ = some (.int .i64 p1) ∧ w'.cell? ⟨w.heap.size + 1, 1, none⟩ = some (dv1) ∧ w'.cell? ⟨w.heap.size + 1, 2, none⟩ = some (mv1) ∧ w'.cell? ⟨wc1.heap.size, 0, none⟩ = some (.int .i64 p1) ∧ w'.cell? ⟨wc1.heap.size, 1, none⟩ = some (.slice ya1 ds1.length yc1) ∧ w'.cell? ⟨wc1.heap.size, 2, none⟩ = some (.slice yb1 ms1.length ye1))
    (first | exact ⟨c10, c11, c12, d10, d11, d12⟩ | exact HS9.out | exact HSA.out | go_keep)
    (first
      | (go_at_call 49; refine (toComplex_any p1 dv1 mv1 ds1 ms1 _ HCX.out hds1 HMS1.out).mono ?_; rintro e w9 ⟨dv9, mv9, rfl, hcx9, hb9⟩; have HS9 := Lib.hid (And.intro (later hb9 (Nat.le_refl _) c10) (And.intro (later hb9 (Nat.le_refl _) c11) (And.intro (later hb9 (Nat.le_refl _) c12) (And.intro (later hb9 (Nat.le_refl _) d10) (And.intro (later hb9 (Nat.le_refl _) d11) (later hb9 (Nat.le_refl _) d12)))))); have HX9 := Lib.hid (And.intro hcx9 (And.intro (HCC.out.below hb9) (Below.trans ((Below.refl wA0.heap.size wA0).drew) hb9))); clear hcx9 hb9)
      | (go_at_call 54; refine (eqComplex_true p1 _ _ dv9 mv9 ds1 ms1 _ HX9.out.2.1 HX9.out.1.zero hds1 HMS1.out).mono ?_; rintro e wA1 ⟨rfl, hbA⟩; have HSA := Lib.hid (And.intro (later hbA (Nat.le_refl _) HS9.out.1) (And.intro (later hbA (Nat.le_refl _) HS9.out.2.1) (And.intro (later hbA (Nat.le_refl _) HS9.out.2.2.1) (And.intro (later hbA (Nat.le_refl _) HS9.out.2.2.2.1) (And.intro (later hbA (Nat.le_refl _) HS9.out.2.2.2.2.1) (later hbA (Nat.le_refl _) HS9.out.2.2.2.2.2)))))); have HXA := Lib.hid (Below.trans HX9.out.2.2 (hbA.mono HX9.out.2.2.size)); clear hbA))
  have hsa1 : wA0.heap.size ≤ wA1.heap.size := HXA.out.size
  have hb := HXA.out
  clear c10 c11 c12
  clear d10 d11 d12
  clear HXA HSA HS9 HX9 HCX HCC
  have HB' := Lib.hid (HB.out.trans (hb.mono (by omega)))
  have HK' := Lib.hid (HK.out.trans (hb.mono (by omega)))
  have HC0' := Lib.hid (HC0.out.same (Same.of_below hb (by omega)))
  have HY0' := Lib.hid (HY0.out.next hb)
  have HC1' := Lib.hid (HC1.out.same (Same.of_below hb (by omega)))
  have HY1' := Lib.hid (HY1.out.next hb)
  have HC2' := Lib.hid (HC2.out.same (Same.of_below hb (by omega)))
  have HC4' := Lib.hid (HC4.out.same (Same.of_below hb (by omega)))
  have HG' := Lib.hid (HG.out.same (Same.of_below hb (by omega)))
  clear hb HB HK HC0 HY0 HC1 HY1 HC2 HC4 HG
  have HB := HB'
  have HK := HK'
  have HC0 := HC0'
  have HY0 := HY0'
  have HC1 := HC1'
  have HY1 := HY1'
  have HC2 := HC2'
  have HC4 := HC4'
  have HG := HG'
  clear HB' HK' HC0' HY0' HC1' HY1' HC2' HC4' HG'
  go_wp2_with fail
  refine (to3_any _ fs2 _ (HN2.out _ HB.out) HMS2.out).mono ?_
  rintro e w9 ⟨v9, rfl, hc, hb⟩
  have hs92 : wA1.heap.size ≤ w9.heap.size := hb.size
  have HB' := Lib.hid (HB.out.trans (hb.mono (by omega)))
  have HK' := Lib.hid (HK.out.trans (hb.mono (by omega)))
  have HC0' := Lib.hid (HC0.out.same (Same.of_below hb (by omega)))
  have HY0' := Lib.hid (HY0.out.next hb)
  have HC1' := Lib.hid (HC1.out.same (Same.of_below hb (by omega)))
  have HY1' := Lib.hid (HY1.out.next hb)
  have HC2' := Lib.hid (HC2.out.same (Same.of_below hb (by omega)))
  have HC4' := Lib.hid (HC4.out.same (Same.of_below hb (by omega)))
  have HG' := Lib.hid (HG.out.same (Same.of_below hb (by omega)))
  clear hb HB HK HC0 HY0 HC1 HY1 HC2 HC4 HG
  have HB := HB'
  have HK := HK'
  have HC0 := HC0'
  have HY0 := HY0'
  have HC1 := HC1'
  have HY1 := HY1'
  have HC2 := HC2'
  have HC4 := HC4'
  have HG := HG'
  clear HB' HK' HC0' HY0' HC1' HY1' HC2' HC4' HG'
  have HV9 := Lib.hid (hc.lower (Nat.zero_le _))
  clear hc
  obtain ⟨a9, c9, e9⟩ := Sl.shape HV9.out
  subst e9
  go_wp2_with fail
  refine (eq3_true _ _ fs2 _ (HC2.out.l3.lower (Nat.zero_le _)) HV9.out HMS2.out).mono ?_
  rintro e wA2 ⟨rfl, hb⟩
  have hsa2 : w9.heap.size ≤ wA2.heap.size := hb.size
  clear HV9
  have HB' := Lib.hid (HB.out.trans (hb.mono (by omega)))
  have HK' := Lib.hid (HK.out.trans (hb.mono (by omega)))
  have HC0' := Lib.hid (HC0.out.same (Same.of_below hb (by omega)))
  have HY0' := Lib.hid (HY0.out.next hb)
  have HC1' := Lib.hid (HC1.out.same (Same.of_below hb (by omega)))
  have HY1' := Lib.hid (HY1.out.next hb)
  have HC2' := Lib.hid (HC2.out.same (Same.of_below hb (by omega)))
  have HC4' := Lib.hid (HC4.out.same (Same.of_below hb (by omega)))
  have HG' := Lib.hid (HG.out.same (Same.of_below hb (by omega)))
  clear hb HB HK HC0 HY0 HC1 HY1 HC2 HC4 HG
  have HB := HB'
  have HK := HK'
  have HC0 := HC0'
  have HY0 := HY0'
  have HC1 := HC1'
  have HY1 := HY1'
  have HC2 := HC2'
  have HC4 := HC4'
  have HG := HG'
  clear HB' HK' HC0' HY0' HC1' HY1' HC2' HC4' HG'
  have hsq2 : wA1.heap.size ≤ wA2.heap.size := by omega
  obtain ⟨w9k, hw9k⟩ : ∃ w9k, w9k = w9 := ⟨_, rfl⟩
  clear hw9k w9k
  go_wp2_with fail
  refine (to1_any _ fs4 _ (HN4.out _ HB.out) HMS4.out).mono ?_
  rintro e w9 ⟨v9, rfl, hc, hb⟩
  have hs93 : wA2.heap.size ≤ w9.heap.size := hb.size
  have HB' := Lib.hid (HB.out.trans (hb.mono (by omega)))
  have HK' := Lib.hid (HK.out.trans (hb.mono (by omega)))
  have HC0' := Lib.hid (HC0.out.same (Same.of_below hb (by omega)))
  have HY0' := Lib.hid (HY0.out.next hb)
  have HC1' := Lib.hid (HC1.out.same (Same.of_below hb (by omega)))
  have HY1' := Lib.hid (HY1.out.next hb)
  have HC2' := Lib.hid (HC2.out.same (Same.of_below hb (by omega)))
  have HC4' := Lib.hid (HC4.out.same (Same.of_below hb (by omega)))
  have HG' := Lib.hid (HG.out.same (Same.of_below hb (by omega)))
  clear hb HB HK HC0 HY0 HC1 HY1 HC2 HC4 HG
  have HB := HB'
  have HK := HK'
  have HC0 := HC0'
  have HY0 := HY0'
  have HC1 := HC1'
  have HY1 := HY1'
  have HC2 := HC2'
  have HC4 := HC4'
  have HG := HG'
  clear HB' HK' HC0' HY0' HC1' HY1' HC2' HC4' HG'
  have HV9 := Lib.hid (hc.lower (Nat.zero_le _))
  clear hc
  obtain ⟨a9, c9, e9⟩ := Sl.shape HV9.out
  subst e9
  go_wp2_with fail
  refine (eq1_true _ _ fs4 _ (HC4.out.l1.lower (Nat.zero_le _)) HV9.out HMS4.out).mono ?_
  rintro e wA3 ⟨rfl, hb⟩
  have hsa3 : w9.heap.size ≤ wA3.heap.size := hb.size
  clear HV9
  have HB' := Lib.hid (HB.out.trans (hb.mono (by omega)))
  have HK' := Lib.hid (HK.out.trans (hb.mono (by omega)))
  have HC0' := Lib.hid (HC0.out.same (Same.of_below hb (by omega)))
  have HY0' := Lib.hid (HY0.out.next hb)
  have HC1' := Lib.hid (HC1.out.same (Same.of_below hb (by omega)))
  have HY1' := Lib.hid (HY1.out.next hb)
  have HC2' := Lib.hid (HC2.out.same (Same.of_below hb (by omega)))
  have HC4' := Lib.hid (HC4.out.same (Same.of_below hb (by omega)))
  have HG' := Lib.hid (HG.out.same (Same.of_below hb (by omega)))
  clear hb HB HK HC0 HY0 HC1 HY1 HC2 HC4 HG
  have HB := HB'
  have HK := HK'
  have HC0 := HC0'
  have HY0 := HY0'
  have HC1 := HC1'
  have HY1 := HY1'
  have HC2 := HC2'
  have HC4 := HC4'
  have HG := HG'
  clear HB' HK' HC0' HY0' HC1' HY1' HC2' HC4' HG'
  have hsq3 : wA2.heap.size ≤ wA3.heap.size := by omega
  obtain ⟨w9k, hw9k⟩ : ∃ w9k, w9k = w9 := ⟨_, rfl⟩
  clear hw9k w9k
  have d00 := HY0.out.c0
  have d01 := HY0.out.c1
  have d02 := HY0.out.c2
  go_wp2_with fail
  refine (markComplexK_any 1 p0 _ _ ds0 ms0 _ HC0.out (by omega) hds0 HMS0.out (by omega) (by omega)).mono ?_
  rintro e wD0 ⟨r0, wM, rfl, hr00, hr01, hb, hoM, htM⟩
  have hsM0 : wA3.heap.size ≤ wM.heap.size := hb.size
  have hsD0 : wD0.heap.size = wM.heap.size := hoM.size
  have hsE0 : wA3.heap.size ≤ wD0.heap.size := by omega
  clear d00 d01 d02
  have HB' := Lib.hid ((HB.out.trans (hb.mono (by omega))).trans (hoM.below (by omega)))
  have HK' := Lib.hid ((HK.out.trans (hb.mono (by omega))).trans (hoM.below (by omega)))
  have HG' := Lib.hid (HG.out.same ((Same.of_below hb (by omega)).trans (hoM.same (by omega))))
  have HC1' := Lib.hid (HC1.out.same ((Same.of_below hb (by omega)).trans (hoM.same (by omega))))
  have HY1' : Hid (Bq wD0 wc1.heap.size p1 (.slice ya1 ds1.length yc1) (.slice yb1 ms1.length ye1) ds1 ms1) := Lib.hid ((HY1.out.next hb).only hoM HC1'.out.cx.zero (by omega))
  have HC2' := Lib.hid (HC2.out.same ((Same.of_below hb (by omega)).trans (hoM.same (by omega))))
  have HC4' := Lib.hid (HC4.out.same ((Same.of_below hb (by omega)).trans (hoM.same (by omega))))
  clear hoM htM hb HC0 HY0 HB HK HG HC1 HY1 HC2 HC4
  have HB := HB'
  have HK := HK'
  have HG := HG'
  have HC1 := HC1'
  have HY1 := HY1'
  have HC2 := HC2'
  have HC4 := HC4'
  clear HB' HK' HG' HC1' HY1' HC2' HC4'
  have d10 := HY1.out.c0
  have d11 := HY1.out.c1
  have d12 := HY1.out.c2
  go_wp2_with fail
  refine (markComplexK_any r0 p1 _ _ ds1 ms1 _ HC1.out (by omega) hds1 HMS1.out (by omega) (by omega)).mono ?_
  rintro e wD1 ⟨r1, wM, rfl, hr10, hr11, hb, hoM, htM⟩
  have hsM1 : wD0.heap.size ≤ wM.heap.size := hb.size
  have hsD1 : wD1.heap.size = wM.heap.size := hoM.size
  have hsE1 : wD0.heap.size ≤ wD1.heap.size := by omega
  clear d10 d11 d12
  have HB' := Lib.hid ((HB.out.trans (hb.mono (by omega))).trans (hoM.below (by omega)))
  have HK' := Lib.hid ((HK.out.trans (hb.mono (by omega))).trans (hoM.below (by omega)))
  have HG' := Lib.hid (HG.out.same ((Same.of_below hb (by omega)).trans (hoM.same (by omega))))
  have HC2' := Lib.hid (HC2.out.same ((Same.of_below hb (by omega)).trans (hoM.same (by omega))))
  have HC4' := Lib.hid (HC4.out.same ((Same.of_below hb (by omega)).trans (hoM.same (by omega))))
  clear hoM htM hb HC1 HY1 HB HK HG HC2 HC4
  have HB := HB'
  have HK := HK'
  have HG := HG'
  have HC2 := HC2'
  have HC4 := HC4'
  clear HB' HK' HG' HC2' HC4'
  go_wp2_with fail
  refine (mark3_any _ fs2 r1 _ HC2.out.t3 HMS2.out (by omega) (by omega)).mono ?_
  rintro e wD2 ⟨r2, rfl, hr20, hr21, hoM, htM⟩
  have hrb2 : fs2.length ≤ 1048576 := HMS2.out.1
  have hr22 : r2 ≤ r1 + 1152921504606846976 := by omega
  have hsE2 : wD1.heap.size ≤ wD2.heap.size := Nat.le_of_eq hoM.size.symm
  have HB' := Lib.hid (HB.out.trans (hoM.below (by omega)))
  have HK' := Lib.hid (HK.out.trans (hoM.below (by omega)))
  have HG' := Lib.hid (HG.out.same (hoM.same (by omega)))
  have HC4' := Lib.hid (HC4.out.same (hoM.same (by omega)))
  clear hoM htM HC2 HB HK HG HC4
  have HB := HB'
  have HK := HK'
  have HG := HG'
  have HC4 := HC4'
  clear HB' HK' HG' HC4'
  go_wp2_with fail
  refine (mark1_any _ fs4 r2 _ HC4.out.t1 HMS4.out (by omega) (by omega)).mono ?_
  rintro e wD3 ⟨rfl, hoM, htM, _⟩
  obtain ⟨r3, hr3⟩ : ∃ r3, r3 = r2 + (fs4.length : Int) := ⟨_, rfl⟩
  rw [← hr3]
  have hrb3 : fs4.length ≤ 1048576 := HMS4.out
  have hr30 : r2 ≤ r3 := by omega
  have hr31 : r3 ≤ r2 + 1048576 := by omega
  clear hr3
  have hsE3 : wD2.heap.size ≤ wD3.heap.size := Nat.le_of_eq hoM.size.symm
  have HB' := Lib.hid (HB.out.trans (hoM.below (by omega)))
  have HK' := Lib.hid (HK.out.trans (hoM.below (by omega)))
  have HG' := Lib.hid (HG.out.same (hoM.same (by omega)))
  clear hoM htM HC4 HB HK HG
  have HB := HB'
  have HK := HK'
  have HG := HG'
  clear HB' HK' HG'
  have hneg0 : ¬ r3 < 0 := by omega
  go_wp2_with fail
  refine (eq1_true _ _ oS _ HG.out.l (HRS.out.below HK.out) HBD.out).mono ?_
  rintro e we2 ⟨rfl, hb⟩
  have hse2 : wD3.heap.size ≤ we2.heap.size := hb.size
  have HB' := Lib.hid (HB.out.trans (hb.mono (by omega)))
  have HK' := Lib.hid (HK.out.trans (hb.mono (by omega)))
  have HG' := Lib.hid (HG.out.same (Same.of_below hb (by omega)))
  clear hb HB HK HG
  have HB := HB'
  have HK := HK'
  have HG := HG'
  clear HB' HK' HG'
  go_wp2_with fail
  refine (markR1_any HG.out).mono ?_
  rintro e wG ⟨mm, rfl, hm0, hm1, hoG, hmk⟩
  have hsG : we2.heap.size ≤ wG.heap.size := Nat.le_of_eq hoG.size.symm
  have HB' := Lib.hid (HB.out.trans (hoG.below (by omega)))
  have HK' := Lib.hid (HK.out.trans (hoG.below (by omega)))
  have HG' := Lib.hid hmk
  clear hoG hmk HB HK HG
  have HB := HB'
  have HK := HK'
  have HG := HG'
  clear HB' HK' HG'
  have hneg : ¬ mm < 0 := by omega
  have hsum : (mm != mm) = false := by simp
  go_wp2_with fail
  refine (heldR1_any HG.out).mono ?_
  rintro e w' ⟨rfl, rfl⟩
  have c00 := (HN0.out _ HB.out).c0
  have c01 := (HN0.out _ HB.out).c1
  have c02 := (HN0.out _ HB.out).c2
  have c10 := (HN1.out _ HB.out).c0
  have c11 := (HN1.out _ HB.out).c1
  have c12 := (HN1.out _ HB.out).c2
  have hsJd : wG.heap.size ≤ wG.drew.heap.size := Nat.le_refl _
  have HDJ : Hid (Below (w.heap.size + 2) W0 wG.drew) := Lib.hid (HB.out.trans ((Below.refl wG.heap.size wG).drew.mono (by omega)))
  have HQd : Hid (Below wG.heap.size wG wG.drew) := Lib.hid (Below.refl wG.heap.size wG).drew
  skip
  have HSP : Hid (∀ w', Below (w.heap.size + 2) W0 w' → w'.cell? ⟨w.heap.size, 0, none⟩ = some (.int .i64 p0) ∧ w'.cell? ⟨w.heap.size, 1, none⟩ = some (dv0) ∧ w'.cell? ⟨w.heap.size, 2, none⟩ = some (mv0) ∧ w'.cell? ⟨w.heap.size + 1, 0, none⟩ = some (.int .i64 p1) ∧ w'.cell? ⟨w.heap.size + 1, 1, none⟩ = some (dv1) ∧ w'.cell? ⟨w.heap.size + 1, 2, none⟩ = some (mv1) ∧ Hid (Below (w.heap.size + 2) W0 w')) := Lib.hid (fun w' hb => ⟨(HN0.out _ hb).c0, (HN0.out _ hb).c1, (HN0.out _ hb).c2, (HN1.out _ hb).c0, (HN1.out _ hb).c1, (HN1.out _ hb).c2, Lib.hid hb⟩)
  go_wp2
  go_region_held3 (fun w' => w'.cell? ⟨w.heap.size, 0, none⟩ = some (.int .i64 p0) ∧ w'.cell? ⟨w.heap.size, 1, none⟩ = some (dv0) ∧ w'.cell? ⟨w.heap.size, 2, none⟩ = some (mv0) ∧ w'.cell? ⟨w.heap.size + 1, 0, none⟩ = some (.int .i64 p1) ∧ w'.cell? ⟨w.heap.size + 1, 1, none⟩ = some (dv1) ∧ w'.cell? ⟨w.heap.size + 1, 2, none⟩ = some (mv1) ∧ Hid (Below (w.heap.size + 2) W0 w'))
    (first | exact HSP.out _ HB.out | exact HSP.out _ HDJ.out | exact HSP.out _ HBJ0.out | exact HSP.out _ HBJ1.out | exact HSP.out _ HBJ2.out | exact HSP.out _ HBJ3.out | exact HSP.out _ HBJr.out | go_keep)
    (first
      | (go_at_call 49; (with_reducible refine (toComplex_any p0 dv0 mv0 ds0 ms0 _ (HN0.out _ HDJ.out).cx hds0 HMS0.out).mono ?_); rintro e wJ0 ⟨xdJ0, xmJ0, rfl, hc, hb⟩; have hsJ0 : wG.drew.heap.size ≤ wJ0.heap.size := hb.size; have HBJ0 := Lib.hid (HDJ.out.trans (hb.mono (by omega))); have HQ0 := Lib.hid (HQd.out.trans (hb.mono (by omega))); have HXJ00 := Lib.hid (hc.zero); clear hb hc)
      | (go_at_call 49; (with_reducible refine (toComplex_any p1 dv1 mv1 ds1 ms1 _ (HN1.out _ HBJ0.out).cx hds1 HMS1.out).mono ?_); rintro e wJ1 ⟨xdJ1, xmJ1, rfl, hc, hb⟩; have hsJ1 : wJ0.heap.size ≤ wJ1.heap.size := hb.size; have HBJ1 := Lib.hid (HBJ0.out.trans (hb.mono (by omega))); have HQ1 := Lib.hid (HQ0.out.trans (hb.mono (by omega))); have HXJ01 := Lib.hid (HXJ00.out.below hb); have HXJ11 := Lib.hid (hc.zero); clear hb hc)
      | (go_at_call 50; (with_reducible refine (to3_any _ fs2 _ (HN2.out _ HBJ1.out) HMS2.out).mono ?_); rintro e wJ2 ⟨xvJ2, rfl, hc, hb⟩; have hsJ2 : wJ1.heap.size ≤ wJ2.heap.size := hb.size; have HBJ2 := Lib.hid (HBJ1.out.trans (hb.mono (by omega))); have HQ2 := Lib.hid (HQ1.out.trans (hb.mono (by omega))); have HXJ02 := Lib.hid (HXJ01.out.below hb); have HXJ12 := Lib.hid (HXJ11.out.below hb); have HXJ22 := Lib.hid (hc.lower (Nat.zero_le _)); clear hb hc)
      | (go_at_call 51; (with_reducible refine (to1_any _ fs4 _ (HN4.out _ HBJ2.out) HMS4.out).mono ?_); rintro e wJ3 ⟨xvJ4, rfl, hc, hb⟩; have hsJ3 : wJ2.heap.size ≤ wJ3.heap.size := hb.size; have HBJ3 := Lib.hid (HBJ2.out.trans (hb.mono (by omega))); have HQ3 := Lib.hid (HQ2.out.trans (hb.mono (by omega))); have HXJ03 := Lib.hid (HXJ02.out.below hb); have HXJ13 := Lib.hid (HXJ12.out.below hb); have HXJ23 := Lib.hid (HXJ22.out.below hb); have HXJ43 := Lib.hid (hc.lower (Nat.zero_le _)); clear hb hc)
      | (go_at_call 52; (with_reducible refine (applyFamily_any p0 p1 n3 xdJ0 xmJ0 xdJ1 xmJ1 xvJ2 xvJ4 ds0 ms0 ds1 ms1 fs2 fs4 _ (HXJ03.out) (HXJ13.out) (HXJ23.out) (HXJ43.out) hds0 HMS0.out hds1 HMS1.out HMS2.out HMS4.out).mono ?_); rintro e wJr ⟨uJ, oJ, kJ, rfl, hrJ, hb, hoJ⟩; have hsJr : wJ3.heap.size ≤ wJr.heap.size := hb.size; have HBJr := Lib.hid (HBJ3.out.trans (hb.mono (by omega))); have HQr := Lib.hid (HQ3.out.trans (hb.mono (by omega))); have HRJ := Lib.hid hrJ; have HOJ := Lib.hid hoJ; clear hb hrJ hoJ))
  clear c00 c01 c02 c10 c11 c12
  have hb := HQr.out
  clear HQd HQr HQ0 HQ1 HQ2 HQ3 HXJ00 HXJ01 HXJ02 HXJ03 HXJ11 HXJ12 HXJ13 HXJ22 HXJ23 HXJ43 HBJ0 HBJ1 HBJ2 HBJ3 HBJr HDJ HSP
  have HB' := Lib.hid (HB.out.trans (hb.mono (by omega)))
  have HK' := Lib.hid (HK.out.trans (hb.mono (by omega)))
  have HG' := Lib.hid (HG.out.same (Same.of_below hb (by omega)))
  clear hb HB HK HG
  have HB := HB'
  have HK := HK'
  have HG := HG'
  clear HB' HK' HG'
  obtain ⟨rfl, rfl⟩ := RsOut.unique (fun _ a b ha hb => ha.trans hb.symm) HOS.out HOJ.out
  clear HOJ
  have HRJ' := Lib.hid HRJ.out.l
  clear HRJ
  have HRJ := HRJ'
  clear HRJ'
  go_wp2_with fail
  refine (eq1_true _ _ oS _ HRJ.out (HRS.out.below HK.out) HBD.out).mono ?_
  rintro e wK ⟨rfl, hb⟩
  have hsK : wJr.heap.size ≤ wK.heap.size := hb.size
  clear HRJ
  have HB' := Lib.hid (HB.out.trans (hb.mono (by omega)))
  have HK' := Lib.hid (HK.out.trans (hb.mono (by omega)))
  have HG' := Lib.hid (HG.out.same (Same.of_below hb (by omega)))
  clear hb HB HK HG
  have HB := HB'
  have HK := HK'
  have HG := HG'
  clear HB' HK' HG'
  go_wp2_with fail
  refine (heldR1_any HG.out).mono ?_
  rintro e w' ⟨rfl, rfl⟩
  go_wp2
  go_ret
  exact ⟨rfl, HNW.out _ HB.out⟩
end Go.Proofs.Ytpdkfidmmjlmnab
