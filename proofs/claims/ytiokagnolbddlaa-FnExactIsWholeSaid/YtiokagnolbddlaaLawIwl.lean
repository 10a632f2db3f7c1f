/-
  laws.FnExactIsWhole by its walk.
-/
import Derived.Test.YtiokagnolbddlaaWsp
import Derived.Test.YtiokagnolbddlaaRw
import Derived.Test.YtiokagnolbddlaaEnd
import Derived.Test.YtiokagnolbddlaaQg
import Derived.Test.YtiokagnolbddlaaVal
import Derived.Test.YtiokagnolbddlaaQh
import Derived.Deep.RegionWith
import Derived.Deep.RegionHeld3
import Derived.BigRegion
import Derived.BigQuiet
import Derived.Deep.QuietTactic
namespace Go.Proofs.Ytiokagnolbddlaa
open Go.RowKit

set_option maxHeartbeats 12800000 in
set_option maxRecDepth 100000 in
theorem lawIwl_any (dv0 mv0 : Value) (dl0 : List Int) (ml0 : List (List (List Int))) (w : World) (h0 : Wh 0 w dv0 mv0 dl0 ml0) (hml0 : WhB 9223372036854775807 dl0 ml0) :
    Calls Try.prog 4 #[.agg #[dv0, mv0]] w (BR (.bool true) w) := by
  obtain ⟨W0, hW0⟩ : ∃ W0, W0 = (w.alloc (.cells #[dv0, mv0] 31)) := ⟨_, rfl⟩
  have HS0 : Hid (W0.heap.size = w.heap.size + 1) := Lib.hid (by rw [hW0]; simp)
  have HZ0 : Hid (Below w.heap.size w W0) := Lib.hid (by rw [hW0]; exact below_alloc1 _ _)
  have HK0 : Hid (BxWh w W0 (w.heap.size)  dv0 mv0 dl0 ml0) := Lib.hid (by rw [hW0]; exact BxWh.start _ h0)
  have HN0 : Hid (∀ W, Below (w.heap.size + 1) W0 W → BxWh w W (w.heap.size)  dv0 mv0 dl0 ml0) := Lib.hid (fun W hb => HK0.out.next (by rw [HS0.out]; exact hb))
  have HNW : Hid (∀ W, Below (w.heap.size + 1) W0 W → Below w.heap.size w W) := Lib.hid (fun W hb => HZ0.out.trans (hb.mono (by omega)))
  have HB : Hid (Below (w.heap.size + 1) W0 W0) := Lib.hid (Below.refl _ _)
  have hs0 : w.heap.size + 1 ≤ W0.heap.size := by have := HS0.out; omega
  have HML0 := Lib.hid hml0
  clear h0 hml0 HK0
  go_enter Try.func4, Try.ntmps4
  go_upto_region 1 with fail
  rw [← hW0]
  clear hW0
  have c00 := (HN0.out _ HB.out).c0
  have c01 := (HN0.out _ HB.out).c1
  go_wp2_with fail
  refine (szWhole_any  dv0 mv0 dl0 ml0 1048576 _ (HN0.out _ HB.out).cx (by omega) (by omega) HML0.out).mono ?_
  rintro ee wz0 ⟨sz0, rfl, hb, hpost⟩
  have hsz0 : W0.heap.size ≤ wz0.heap.size := hb.size
  have HB' := Lib.hid (HB.out.trans (hb.mono (by omega)))
  clear c00 c01
  clear hb HB
  have HB := HB'
  clear HB'
  rcases hpost with rfl | ⟨hp00, hp01, hpm0⟩
  · go_wp2
    go_ret
    exact ⟨rfl, HNW.out _ HB.out⟩
  have HMS0 := Lib.hid hpm0
  clear hpm0
  have c00 := (HN0.out _ HB.out).c0
  have c01 := (HN0.out _ HB.out).c1
  have HQd : Hid (Below wz0.heap.size wz0 wz0) := Lib.hid (Below.refl _ _)
  go_wp2_with fail
  refine (toWhole_any  dv0 mv0 dl0 ml0 _ (HN0.out _ HB.out).cx HMS0.out).mono ?_
  rintro ee wS0 ⟨xdv0_S, xmv0_S, rfl, hc, hb⟩
  have hsS0 : wz0.heap.size ≤ wS0.heap.size := hb.size
  have HBS0 := Lib.hid (HB.out.trans (hb.mono (by omega)))
  have HQ0 := Lib.hid (HQd.out.trans (hb.mono (by omega)))
  have HXS00 := Lib.hid (hc.zero)
  clear hb hc
  clear c00 c01
  go_wp2_with fail
  refine (spIsWhole_any xdv0_S xmv0_S dl0 ml0 _ (HXS00.out) HMS0.out).mono ?_
  rintro ee wSr ⟨gS0, rfl, hb, hoS⟩
  have hsSr : wS0.heap.size ≤ wSr.heap.size := hb.size
  have HBSr := Lib.hid (HBS0.out.trans (hb.mono (by omega)))
  have HQr := Lib.hid (HQ0.out.trans (hb.mono (by omega)))
  have HOS := Lib.hid hoS
  clear hb hoS
  have hb := HQr.out
  clear HQd HQr HQ0 HXS00 HBS0 HBSr
  have HB' := Lib.hid (HB.out.trans (hb.mono (by omega)))
  clear hb HB
  have HB := HB'
  clear HB'
  have c00 := (HN0.out _ HB.out).c0
  have c01 := (HN0.out _ HB.out).c1
  go_wp2_with fail
  refine (toWholew_any  dv0 mv0 dl0 ml0 _ (HN0.out _ HB.out).cx HMS0.out).mono ?_
  rintro ee wc0 ⟨ydv0, ymv0, rfl, hc, hb⟩
  have hsc0 : wSr.heap.size ≤ wc0.heap.size := hb.size
  clear c00 c01
  have HB' := Lib.hid (HB.out.trans (hb.mono (by omega)))
  clear hb HB
  have HB := HB'
  clear HB'
  have HC0 := Lib.hid hc
  obtain ⟨⟨ya0d, yc0d, rfl⟩, ⟨ya0m, yc0m, rfl⟩⟩ := hc.cx.shapes
  clear hc
  obtain ⟨wb0, hwb⟩ : ∃ wb0, wb0 = wc0.alloc (.cells #[.slice ya0d dl0.length yc0d, .slice ya0m ml0.length yc0m] 25) := ⟨_, rfl⟩
  have hb : Below wc0.heap.size wc0 wb0 := by rw [hwb]; exact below_alloc1 _ _
  have hsb0 : wc0.heap.size + 1 = wb0.heap.size := by rw [hwb]; simp
  have hsB0 : wc0.heap.size ≤ wb0.heap.size := by omega
  have HY0 : Hid (BqWh wb0 wc0.heap.size  (.slice ya0d dl0.length yc0d) (.slice ya0m ml0.length yc0m) dl0 ml0) := Lib.hid (by rw [hwb]; exact (BxWh.start _ HC0.out.cx.zero).bq)
  have HB' := Lib.hid (HB.out.trans (hb.mono (by omega)))
  have HC0' := Lib.hid (HC0.out.same (Same.of_below hb (by omega)))
  clear hb HB HC0
  have HB := HB'
  have HC0 := HC0'
  clear HB' HC0'
  go_upto_region 7 with fail
  rw [← hwb]
  clear hwb
  have d00 := HY0.out.c0
  have d01 := HY0.out.c1
  go_wp2_with fail
  refine (isWhole_any _ _ dl0 ml0 _ (HC0.out.cx.zero) HMS0.out).mono ?_
  rintro ee w7 ⟨gI0, rfl, hb, hoI⟩
  obtain rfl := bbw_uniq HOS.out hoI
  have hs7 : wb0.heap.size ≤ w7.heap.size := hb.size
  clear d00 d01
  have HB' := Lib.hid (HB.out.trans (hb.mono (by omega)))
  have HC0' := Lib.hid (HC0.out.same (Same.of_below hb (by omega)))
  have HY0' := Lib.hid (HY0.out.next hb)
  clear hb HB HC0 HY0
  have HB := HB'
  have HC0 := HC0'
  have HY0 := HY0'
  clear HB' HC0' HY0'
  clear hoI HOS
  have hcode0 : (gS0 != gS0) = false := by simp
  have hcodf0 : (gS0 == gS0) = true := by simp
  have c00 := (HN0.out _ HB.out).c0
  have c01 := (HN0.out _ HB.out).c1
  have d00 := HY0.out.c0
  have d01 := HY0.out.c1
  have HCX := Lib.hid (((HN0.out _ HB.out).cx).drew)
  have HCC := Lib.hid ((HY0.out.cx).drew)
  go_wp2_with fail
  go_region_held3 (fun w' => w'.cell? ⟨w.heap.size, 0, none⟩ = some (dv0) ∧ w'.cell? ⟨w.heap.size, 1, none⟩ = some (mv0) ∧ w'.cell? ⟨wc0.heap.size, 0, none⟩ = some (.slice ya0d dl0.length yc0d) ∧ w'.cell? ⟨wc0.heap.size, 1, none⟩ = some (.slice ya0m ml0.length yc0m))
    (first | exact ⟨c00, c01, d00, d01⟩ | exact HS9.out | exact HSA.out | go_keep)
    (first
      | (go_at_call 22; refine (toWhole_any  dv0 mv0 dl0 ml0 _ HCX.out HMS0.out).mono ?_; rintro ee w9 ⟨zdv09, zmv09, rfl, hcx9, hb9⟩; have HS9 := Lib.hid (And.intro (later hb9 (Nat.le_refl _) c00) (And.intro (later hb9 (Nat.le_refl _) c01) (And.intro (later hb9 (Nat.le_refl _) d00) (later hb9 (Nat.le_refl _) d01)))); have HX9 := Lib.hid (And.intro hcx9 (And.intro (HCC.out.below hb9) (Below.trans ((Below.refl w7.heap.size w7).drew) hb9))); clear hcx9 hb9)
      | (go_at_call 17; refine (eqWhole_true  _ _ zdv09 zmv09 dl0 ml0 _ HX9.out.2.1 HX9.out.1.zero HMS0.out).mono ?_; rintro ee wA0 ⟨rfl, hbA⟩; have HSA := Lib.hid (And.intro (later hbA (Nat.le_refl _) (HS9.out.1)) (And.intro (later hbA (Nat.le_refl _) (HS9.out.2.1)) (And.intro (later hbA (Nat.le_refl _) (HS9.out.2.2.1)) (later hbA (Nat.le_refl _) (HS9.out.2.2.2))))); have HXA := Lib.hid (Below.trans HX9.out.2.2 (hbA.mono HX9.out.2.2.size)); clear hbA))
  have hsa0 : w7.heap.size ≤ wA0.heap.size := HXA.out.size
  have hb := HXA.out
  clear c00 c01
  clear d00 d01
  clear HXA HSA HS9 HX9 HCX HCC
  have HB' := Lib.hid (HB.out.trans (hb.mono (by omega)))
  have HC0' := Lib.hid (HC0.out.same (Same.of_below hb (by omega)))
  have HY0' := Lib.hid (HY0.out.next hb)
  clear hb HB HC0 HY0
  have HB := HB'
  have HC0 := HC0'
  have HY0 := HY0'
  clear HB' HC0' HY0'
  go_wp2
  go_ret
  exact ⟨rfl, HNW.out _ HB.out⟩
end Go.Proofs.Ytiokagnolbddlaa
