/-
  laws.FnExactRanksOf by its walk.
-/
import Derived.Test.YtpdkfidmmjlmnabRk
import Derived.Test.YtpdkfidmmjlmnabRw
import Derived.Test.YtpdkfidmmjlmnabEnd
import Derived.Test.YtpdkfidmmjlmnabQg
import Derived.Test.YtpdkfidmmjlmnabVal
import Derived.Test.YtpdkfidmmjlmnabQh
import Derived.Deep.RegionWith
import Derived.Deep.RegionHeld3
import Derived.BigRegion
import Derived.BigQuiet
import Derived.Deep.QuietTactic
namespace Go.Proofs.Ytpdkfidmmjlmnab
open Go.RowKit

set_option maxHeartbeats 12800000 in
set_option maxRecDepth 100000 in
theorem lawRkl_any (p0 d0 e0 : Int) (iv0 jv0 kv0 : Value) (il0 : List (List Int)) (jl0 : List (List Int)) (kl0 : List (List Int)) (w : World) (h0 : Cp 0 w iv0 jv0 kv0 il0 jl0 kl0) (hml0 : CpB 9223372036854775807 il0 jl0 kl0) :
    Calls Try.prog 18 #[.agg #[.int .i64 p0, .int .i64 d0, .int .i64 e0, iv0, jv0, kv0]] w (BR (.bool true) w) := by
  obtain ⟨W0, hW0⟩ : ∃ W0, W0 = (w.alloc (.cells #[.int .i64 p0, .int .i64 d0, .int .i64 e0, iv0, jv0, kv0] 68)) := ⟨_, rfl⟩
  have HS0 : Hid (W0.heap.size = w.heap.size + 1) := Lib.hid (by rw [hW0]; simp)
  have HZ0 : Hid (Below w.heap.size w W0) := Lib.hid (by rw [hW0]; exact below_alloc1 _ _)
  have HK0 : Hid (BxCp w W0 (w.heap.size) p0 d0 e0 iv0 jv0 kv0 il0 jl0 kl0) := Lib.hid (by rw [hW0]; exact BxCp.start _ h0)
  have HN0 : Hid (∀ W, Below (w.heap.size + 1) W0 W → BxCp w W (w.heap.size) p0 d0 e0 iv0 jv0 kv0 il0 jl0 kl0) := Lib.hid (fun W hb => HK0.out.next (by rw [HS0.out]; exact hb))
  have HNW : Hid (∀ W, Below (w.heap.size + 1) W0 W → Below w.heap.size w W) := Lib.hid (fun W hb => HZ0.out.trans (hb.mono (by omega)))
  have HB : Hid (Below (w.heap.size + 1) W0 W0) := Lib.hid (Below.refl _ _)
  have hs0 : w.heap.size + 1 ≤ W0.heap.size := by have := HS0.out; omega
  have HML0 := Lib.hid hml0
  clear h0 hml0 HK0
  go_enter Try.func18, Try.ntmps18
  go_upto_region 1 with fail
  rw [← hW0]
  clear hW0
  have c00 := (HN0.out _ HB.out).c0
  have c01 := (HN0.out _ HB.out).c1
  have c02 := (HN0.out _ HB.out).c2
  have c03 := (HN0.out _ HB.out).c3
  have c04 := (HN0.out _ HB.out).c4
  have c05 := (HN0.out _ HB.out).c5
  go_wp2_with fail
  refine (szCouple_any p0 d0 e0 iv0 jv0 kv0 il0 jl0 kl0 1048576 _ (HN0.out _ HB.out).cx (by omega) (by omega) HML0.out).mono ?_
  rintro ee wz0 ⟨sz0, rfl, hb, hpost⟩
  have hsz0 : W0.heap.size ≤ wz0.heap.size := hb.size
  have HB' := Lib.hid (HB.out.trans (hb.mono (by omega)))
  clear c00 c01 c02 c03 c04 c05
  clear hb HB
  have HB := HB'
  clear HB'
  rcases hpost with rfl | ⟨hp00, hp01, hpm0⟩
  · go_wp2
    go_ret
    exact ⟨rfl, HNW.out _ HB.out⟩
  have HMS0 := Lib.hid hpm0
  clear hpm0
  have c00 := (HN0.out _ HB.out).c0
  have c01 := (HN0.out _ HB.out).c1
  have c02 := (HN0.out _ HB.out).c2
  have c03 := (HN0.out _ HB.out).c3
  have c04 := (HN0.out _ HB.out).c4
  have c05 := (HN0.out _ HB.out).c5
  have HQd : Hid (Below wz0.heap.size wz0 wz0) := Lib.hid (Below.refl _ _)
  go_wp2_with fail
  refine (toCouple_any p0 d0 e0 iv0 jv0 kv0 il0 jl0 kl0 _ (HN0.out _ HB.out).cx HMS0.out).mono ?_
  rintro ee wS0 ⟨xiv0_S, xjv0_S, xkv0_S, rfl, hc, hb⟩
  have hsS0 : wz0.heap.size ≤ wS0.heap.size := hb.size
  have HBS0 := Lib.hid (HB.out.trans (hb.mono (by omega)))
  have HQ0 := Lib.hid (HQd.out.trans (hb.mono (by omega)))
  have HXS00 := Lib.hid (hc.zero)
  clear hb hc
  clear c00 c01 c02 c03 c04 c05
  go_wp2_with fail
  refine (spRanksOf_any p0 d0 e0 xiv0_S xjv0_S xkv0_S il0 jl0 kl0 _ (HXS00.out) HMS0.out).mono ?_
  rintro ee wSr ⟨uS, oS, kS, rfl, hrS, hb, hoS⟩
  have hsSr : wS0.heap.size ≤ wSr.heap.size := hb.size
  have HBSr := Lib.hid (HBS0.out.trans (hb.mono (by omega)))
  have HQr := Lib.hid (HQ0.out.trans (hb.mono (by omega)))
  have HRS := Lib.hid hrS
  have HOS := Lib.hid hoS
  clear hb hoS hrS
  have hb := HQr.out
  clear HQd HQr HQ0 HXS00 HBS0 HBSr
  have HB' := Lib.hid (HB.out.trans (hb.mono (by omega)))
  clear hb HB
  have HB := HB'
  clear HB'
  have HBD : Hid (oS.length ≤ 1048576) := Lib.hid (HOS.out.all (Q := fun o => o.length ≤ 1048576) (by simp) (fun _ a ha => RksOf.len ha))
  have HK : Hid (Below wSr.heap.size wSr wSr) := Lib.hid (Below.refl _ _)
  have c00 := (HN0.out _ HB.out).c0
  have c01 := (HN0.out _ HB.out).c1
  have c02 := (HN0.out _ HB.out).c2
  have c03 := (HN0.out _ HB.out).c3
  have c04 := (HN0.out _ HB.out).c4
  have c05 := (HN0.out _ HB.out).c5
  go_wp2_with fail
  refine (toCouplew_any p0 d0 e0 iv0 jv0 kv0 il0 jl0 kl0 _ (HN0.out _ HB.out).cx HMS0.out).mono ?_
  rintro ee wc0 ⟨yiv0, yjv0, ykv0, rfl, hc, hb⟩
  have hsc0 : wSr.heap.size ≤ wc0.heap.size := hb.size
  clear c00 c01 c02 c03 c04 c05
  have HB' := Lib.hid (HB.out.trans (hb.mono (by omega)))
  have HK' := Lib.hid (HK.out.trans (hb.mono (by omega)))
  clear hb HB HK
  have HB := HB'
  have HK := HK'
  clear HB' HK'
  have HC0 := Lib.hid hc
  obtain ⟨⟨ya0i, yc0i, rfl⟩, ⟨ya0j, yc0j, rfl⟩, ⟨ya0k, yc0k, rfl⟩⟩ := hc.cx.shapes
  clear hc
  obtain ⟨wb0, hwb⟩ : ∃ wb0, wb0 = wc0.alloc (.cells #[.int .i64 p0, .int .i64 d0, .int .i64 e0, .slice ya0i il0.length yc0i, .slice ya0j jl0.length yc0j, .slice ya0k kl0.length yc0k] 71) := ⟨_, rfl⟩
  have hb : Below wc0.heap.size wc0 wb0 := by rw [hwb]; exact below_alloc1 _ _
  have hsb0 : wc0.heap.size + 1 = wb0.heap.size := by rw [hwb]; simp
  have hsB0 : wc0.heap.size ≤ wb0.heap.size := by omega
  have HY0 : Hid (BqCp wb0 wc0.heap.size p0 d0 e0 (.slice ya0i il0.length yc0i) (.slice ya0j jl0.length yc0j) (.slice ya0k kl0.length yc0k) il0 jl0 kl0) := Lib.hid (by rw [hwb]; exact (BxCp.start _ HC0.out.cx.zero).bq)
  have HB' := Lib.hid (HB.out.trans (hb.mono (by omega)))
  have HK' := Lib.hid (HK.out.trans (hb.mono (by omega)))
  have HC0' := Lib.hid (HC0.out.same (Same.of_below hb (by omega)))
  clear hb HB HK HC0
  have HB := HB'
  have HK := HK'
  have HC0 := HC0'
  clear HB' HK' HC0'
  go_upto_region 7 with fail
  rw [← hwb]
  clear hwb
  have d00 := HY0.out.c0
  have d01 := HY0.out.c1
  have d02 := HY0.out.c2
  have d03 := HY0.out.c3
  have d04 := HY0.out.c4
  have d05 := HY0.out.c5
  go_wp2_with fail
  refine (ranksOf_any p0 d0 e0 _ _ _ il0 jl0 kl0 _ (HC0.out.cx.zero) HMS0.out).mono ?_
  rintro ee w7 ⟨u7, o7, k7, rfl, hw7, hb, hout7⟩
  obtain ⟨rfl, rfl⟩ := RsOut.unique (fun h0 _ _ ha hb => ha.unique (by have := (cpCode_zero h0).1.lo; omega) hb) HOS.out hout7
  have hs7 : wb0.heap.size ≤ w7.heap.size := hb.size
  clear d00 d01 d02 d03 d04 d05
  have HB' := Lib.hid (HB.out.trans (hb.mono (by omega)))
  have HK' := Lib.hid (HK.out.trans (hb.mono (by omega)))
  have HC0' := Lib.hid (HC0.out.same (Same.of_below hb (by omega)))
  have HY0' := Lib.hid (HY0.out.next hb)
  clear hb HB HK HC0 HY0
  have HB := HB'
  have HK := HK'
  have HC0 := HC0'
  have HY0 := HY0'
  clear HB' HK' HC0' HY0'
  have HG := Lib.hid hw7
  clear hw7 hout7
  have hcode : (kS != kS) = false := by simp
  obtain ⟨aG, cG, eG⟩ := HG.out.shape
  obtain ⟨aS, cS, eS⟩ := Sl.shape HRS.out
  subst eG eS
  go_wp2_with fail
  refine (eq1_true _ _ oS _ HG.out.l (HRS.out.below HK.out) HBD.out).mono ?_
  rintro ee we1 ⟨rfl, hb⟩
  have hse1 : w7.heap.size ≤ we1.heap.size := hb.size
  have HB' := Lib.hid (HB.out.trans (hb.mono (by omega)))
  have HK' := Lib.hid (HK.out.trans (hb.mono (by omega)))
  have HC0' := Lib.hid (HC0.out.same (Same.of_below hb (by omega)))
  have HY0' := Lib.hid (HY0.out.next hb)
  have HG' := Lib.hid (HG.out.same (Same.of_below hb (by omega)))
  clear hb HB HK HC0 HY0 HG
  have HB := HB'
  have HK := HK'
  have HC0 := HC0'
  have HY0 := HY0'
  have HG := HG'
  clear HB' HK' HC0' HY0' HG'
  have c00 := (HN0.out _ HB.out).c0
  have c01 := (HN0.out _ HB.out).c1
  have c02 := (HN0.out _ HB.out).c2
  have c03 := (HN0.out _ HB.out).c3
  have c04 := (HN0.out _ HB.out).c4
  have c05 := (HN0.out _ HB.out).c5
  have d00 := HY0.out.c0
  have d01 := HY0.out.c1
  have d02 := HY0.out.c2
  have d03 := HY0.out.c3
  have d04 := HY0.out.c4
  have d05 := HY0.out.c5
  have HCX := Lib.hid (((HN0.out _ HB.out).cx).drew)
  have HCC := Lib.hid ((HY0.out.cx).drew)
  go_wp2_with fail
  go_region_held3 (fun w' => w'.cell? ⟨w.heap.size, 0, none⟩ = some (.int .i64 p0) ∧ w'.cell? ⟨w.heap.size, 1, none⟩ = some (.int .i64 d0) ∧ w'.cell? ⟨w.heap.size, 2, none⟩ = some (.int .i64 e0) ∧ w'.cell? ⟨w.heap.size, 3, none⟩ = some (iv0) ∧ w'.cell? ⟨w.heap.size, 4, none⟩ = some (jv0) ∧ w'.cell? ⟨w.heap.size, 5, none⟩ = some (kv0) ∧ w'.cell? ⟨wc0.heap.size, 0, none⟩ = some (.int .i64 p0) ∧ w'.cell? ⟨wc0.heap.size, 1, none⟩ = some (.int .i64 d0) ∧ w'.cell? ⟨wc0.heap.size, 2, none⟩ = some (.int .i64 e0) ∧ w'.cell? ⟨wc0.heap.size, 3, none⟩ = some (.slice ya0i il0.length yc0i) ∧ w'.cell? ⟨wc0.heap.size, 4, none⟩ = some (.slice ya0j jl0.length yc0j) ∧ w'.cell? ⟨wc0.heap.size, 5, none⟩ = some (.slice ya0k kl0.length yc0k))
    (first | exact ⟨c00, c01, c02, c03, c04, c05, d00, d01, d02, d03, d04, d05⟩ | exact HS9.out | exact HSA.out | go_keep)
    (first
      | (go_at_call 67; refine (toCouple_any p0 d0 e0 iv0 jv0 kv0 il0 jl0 kl0 _ HCX.out HMS0.out).mono ?_; rintro ee w9 ⟨ziv09, zjv09, zkv09, rfl, hcx9, hb9⟩; have HS9 := Lib.hid (And.intro (later hb9 (Nat.le_refl _) c00) (And.intro (later hb9 (Nat.le_refl _) c01) (And.intro (later hb9 (Nat.le_refl _) c02) (And.intro (later hb9 (Nat.le_refl _) c03) (And.intro (later hb9 (Nat.le_refl _) c04) (And.intro (later hb9 (Nat.le_refl _) c05) (And.intro (later hb9 (Nat.le_refl _) d00) (And.intro (later hb9 (Nat.le_refl _) d01) (And.intro (later hb9 (Nat.le_refl _) d02) (And.intro (later hb9 (Nat.le_refl _) d03) (And.intro (later hb9 (Nat.le_refl _) d04) (later hb9 (Nat.le_refl _) d05)))))))))))); have HX9 := Lib.hid (And.intro hcx9 (And.intro (HCC.out.below hb9) (Below.trans ((Below.refl we1.heap.size we1).drew) hb9))); clear hcx9 hb9)
      | (go_at_call 69; refine (eqCouple_true p0 d0 e0 _ _ _ ziv09 zjv09 zkv09 il0 jl0 kl0 _ HX9.out.2.1 HX9.out.1.zero HMS0.out).mono ?_; rintro ee wA0 ⟨rfl, hbA⟩; have HSA := Lib.hid (And.intro (later hbA (Nat.le_refl _) (HS9.out.1)) (And.intro (later hbA (Nat.le_refl _) (HS9.out.2.1)) (And.intro (later hbA (Nat.le_refl _) (HS9.out.2.2.1)) (And.intro (later hbA (Nat.le_refl _) (HS9.out.2.2.2.1)) (And.intro (later hbA (Nat.le_refl _) (HS9.out.2.2.2.2.1)) (And.intro (later hbA (Nat.le_refl _) (HS9.out.2.2.2.2.2.1)) (And.intro (later hbA (Nat.le_refl _) (HS9.out.2.2.2.2.2.2.1)) (And.intro (later hbA (Nat.le_refl _) (HS9.out.2.2.2.2.2.2.2.1)) (And.intro (later hbA (Nat.le_refl _) (HS9.out.2.2.2.2.2.2.2.2.1)) (And.intro (later hbA (Nat.le_refl _) (HS9.out.2.2.2.2.2.2.2.2.2.1)) (And.intro (later hbA (Nat.le_refl _) (HS9.out.2.2.2.2.2.2.2.2.2.2.1)) (later hbA (Nat.le_refl _) (HS9.out.2.2.2.2.2.2.2.2.2.2.2))))))))))))); have HXA := Lib.hid (Below.trans HX9.out.2.2 (hbA.mono HX9.out.2.2.size)); clear hbA))
  have hsa0 : we1.heap.size ≤ wA0.heap.size := HXA.out.size
  have hb := HXA.out
  clear c00 c01 c02 c03 c04 c05
  clear d00 d01 d02 d03 d04 d05
  clear HXA HSA HS9 HX9 HCX HCC
  have HB' := Lib.hid (HB.out.trans (hb.mono (by omega)))
  have HK' := Lib.hid (HK.out.trans (hb.mono (by omega)))
  have HC0' := Lib.hid (HC0.out.same (Same.of_below hb (by omega)))
  have HY0' := Lib.hid (HY0.out.next hb)
  have HG' := Lib.hid (HG.out.same (Same.of_below hb (by omega)))
  clear hb HB HK HC0 HY0 HG
  have HB := HB'
  have HK := HK'
  have HC0 := HC0'
  have HY0 := HY0'
  have HG := HG'
  clear HB' HK' HC0' HY0' HG'
  have d00 := HY0.out.c0
  have d01 := HY0.out.c1
  have d02 := HY0.out.c2
  have d03 := HY0.out.c3
  have d04 := HY0.out.c4
  have d05 := HY0.out.c5
  go_wp2_with fail
  refine (markCoupleK_any 1 p0 d0 e0 _ _ _ il0 jl0 kl0 _ HC0.out (by omega) HMS0.out (by omega) (by omega)).mono ?_
  rintro ee wD0 ⟨r0, wM, rfl, hr00, hr01, hb, hoM, htM⟩
  have hsM0 : wA0.heap.size ≤ wM.heap.size := hb.size
  have hsD0 : wD0.heap.size = wM.heap.size := hoM.size
  have hsE0 : wA0.heap.size ≤ wD0.heap.size := by omega
  clear d00 d01 d02 d03 d04 d05
  have HB' := Lib.hid ((HB.out.trans (hb.mono (by omega))).trans (hoM.below (by omega)))
  have HK' := Lib.hid ((HK.out.trans (hb.mono (by omega))).trans (hoM.below (by omega)))
  have HG' := Lib.hid (HG.out.same ((Same.of_below hb (by omega)).trans (hoM.same (by omega))))
  clear hoM htM hb HC0 HY0 HB HK HG
  have HB := HB'
  have HK := HK'
  have HG := HG'
  clear HB' HK' HG'
  have hneg0 : ¬ r0 < 0 := by omega
  go_wp2_with fail
  refine (eq1_true _ _ oS _ HG.out.l (HRS.out.below HK.out) HBD.out).mono ?_
  rintro ee we2 ⟨rfl, hb⟩
  have hse2 : wD0.heap.size ≤ we2.heap.size := hb.size
  have HB' := Lib.hid (HB.out.trans (hb.mono (by omega)))
  have HK' := Lib.hid (HK.out.trans (hb.mono (by omega)))
  have HG' := Lib.hid (HG.out.same (Same.of_below hb (by omega)))
  clear hb HB HK HG
  have HB := HB'
  have HK := HK'
  have HG := HG'
  clear HB' HK' HG'
  go_wp2_with fail
  refine (markR1_any HG.out).mono ?_
  rintro ee wG ⟨mm, rfl, hm0, hm1, hoG, hmk⟩
  have hsG : we2.heap.size ≤ wG.heap.size := Nat.le_of_eq hoG.size.symm
  have HB' := Lib.hid (HB.out.trans (hoG.below (by omega)))
  have HK' := Lib.hid (HK.out.trans (hoG.below (by omega)))
  have HG' := Lib.hid hmk
  clear hoG hmk HB HK HG
  have HB := HB'
  have HK := HK'
  have HG := HG'
  clear HB' HK' HG'
  have hneg : ¬ mm < 0 := by omega
  have hsum : (mm != mm) = false := by simp
  go_wp2_with fail
  refine (heldR1_any HG.out).mono ?_
  rintro ee w' ⟨rfl, rfl⟩
  have c00 := (HN0.out _ HB.out).c0
  have c01 := (HN0.out _ HB.out).c1
  have c02 := (HN0.out _ HB.out).c2
  have c03 := (HN0.out _ HB.out).c3
  have c04 := (HN0.out _ HB.out).c4
  have c05 := (HN0.out _ HB.out).c5
  have HQd : Hid (Below wG.heap.size wG wG) := Lib.hid (Below.refl _ _)
  go_wp2_with fail
  refine (toCouple_any p0 d0 e0 iv0 jv0 kv0 il0 jl0 kl0 _ (HN0.out _ HB.out).cx HMS0.out).mono ?_
  rintro ee wJ0 ⟨xiv0_J, xjv0_J, xkv0_J, rfl, hc, hb⟩
  have hsJ0 : wG.heap.size ≤ wJ0.heap.size := hb.size
  have HBJ0 := Lib.hid (HB.out.trans (hb.mono (by omega)))
  have HQ0 := Lib.hid (HQd.out.trans (hb.mono (by omega)))
  have HXJ00 := Lib.hid (hc.zero)
  clear hb hc
  clear c00 c01 c02 c03 c04 c05
  go_wp2_with fail
  refine (ranksOf_any p0 d0 e0 xiv0_J xjv0_J xkv0_J il0 jl0 kl0 _ (HXJ00.out) HMS0.out).mono ?_
  rintro ee wJr ⟨uJ, oJ, kJ, rfl, hrJ, hb, hoJ⟩
  have hsJr : wJ0.heap.size ≤ wJr.heap.size := hb.size
  have HBJr := Lib.hid (HBJ0.out.trans (hb.mono (by omega)))
  have HQr := Lib.hid (HQ0.out.trans (hb.mono (by omega)))
  have HRJ := Lib.hid hrJ
  have HOJ := Lib.hid hoJ
  clear hb hoJ hrJ
  have hb := HQr.out
  clear HQd HQr HQ0 HXJ00 HBJ0 HBJr
  have HB' := Lib.hid (HB.out.trans (hb.mono (by omega)))
  have HK' := Lib.hid (HK.out.trans (hb.mono (by omega)))
  have HG' := Lib.hid (HG.out.same (Same.of_below hb (by omega)))
  clear hb HB HK HG
  have HB := HB'
  have HK := HK'
  have HG := HG'
  clear HB' HK' HG'
  obtain ⟨rfl, rfl⟩ := RsOut.unique (fun h0 _ _ ha hb => ha.unique (by have := (cpCode_zero h0).1.lo; omega) hb) HOS.out HOJ.out
  clear HOJ
  have HRJ' := Lib.hid HRJ.out.l
  clear HRJ
  have HRJ := HRJ'
  clear HRJ'
  go_wp2_with fail
  refine (eq1_true _ _ oS _ HRJ.out (HRS.out.below HK.out) HBD.out).mono ?_
  rintro ee wK ⟨rfl, hb⟩
  have hsK : wJr.heap.size ≤ wK.heap.size := hb.size
  clear HRJ
  have HB' := Lib.hid (HB.out.trans (hb.mono (by omega)))
  have HK' := Lib.hid (HK.out.trans (hb.mono (by omega)))
  have HG' := Lib.hid (HG.out.same (Same.of_below hb (by omega)))
  clear hb HB HK HG
  have HB := HB'
  have HK := HK'
  have HG := HG'
  clear HB' HK' HG'
  go_wp2_with fail
  refine (heldR1_any HG.out).mono ?_
  rintro ee w' ⟨rfl, rfl⟩
  go_wp2
  go_ret
  exact ⟨rfl, HNW.out _ HB.out⟩
end Go.Proofs.Ytpdkfidmmjlmnab
