/-
  laws.FnExactPageTable by its walk.
-/
import Derived.Test.YtpdkfidmmjlmnabPtj
import Derived.Test.YtpdkfidmmjlmnabQg
import Derived.Deep.RegionWith
namespace Go.Proofs.Ytpdkfidmmjlmnab
open Go.RowKit

set_option maxHeartbeats 12800000 in
set_option maxRecDepth 100000 in
theorem lawPtl_any (p r : Int) (dv mv lv : Value) (ds : List Int) (ms : List (List (List Int))) (ls : List (List Int)) (w : World) (h : Fi 0 w dv mv lv ds ms ls) (hdl : ds.length ≤ 9223372036854775807) (hml : Bd3 9223372036854775807 ms) (hll : Bd2 9223372036854775807 ls) :
    Calls Try.prog 7 #[.agg #[.int .i64 p, dv, mv, lv], .int .i64 r] w (BR (.bool true) w) := by
  have HML := Lib.hid hml
  have HLL := Lib.hid hll
  obtain ⟨W0, hW0⟩ : ∃ W0, W0 = w.alloc (.cells #[.int .i64 p, dv, mv, lv] 28) := ⟨_, rfl⟩
  have HNX : Hid (∀ W, Below (w.heap.size + 1) W0 W → Fx w W w.heap.size p dv mv lv ds ms ls) := Lib.hid (fun W hb => fx_of _ h W (by rw [← hW0]; exact hb))
  have HB0 : Hid (Below (w.heap.size + 1) W0 W0) := Lib.hid (Below.refl _ _)
  have HS0 : Hid (W0.heap.size = w.heap.size + 1) := Lib.hid (by rw [hW0]; simp)
  have HX0 := Lib.hid (HNX.out _ HB0.out)
  clear hml hll h
  go_enter Try.func7, Try.ntmps7
  go_wp2_with fail
  rw [← hW0]
  clear hW0
  refine (szFiltered_any p dv mv lv ds ms ls 1048576 _ HX0.out.fi (by omega) (by omega) hdl HML.out HLL.out).mono ?_
  rintro e w1 ⟨sz, rfl, hb1, hpost⟩
  have HB1 := Lib.hid (HB0.out.trans (hb1.mono (Nat.le_of_eq HS0.out.symm)))
  have HX1 := Lib.hid (HNX.out _ HB1.out)
  clear hb1
  have c0 := HX1.out.c0
  have c1 := HX1.out.c1
  have c2 := HX1.out.c2
  have c3 := HX1.out.c3
  rcases hpost with rfl | ⟨hp0, hp1, hp2, hp3, hp4⟩
  · go_wp2
    go_ret
    exact ⟨rfl, HX1.out.below⟩
  · have hds : ds.length ≤ 1048576 := hp2
    have HMS := Lib.hid hp3
    have HLS := Lib.hid hp4
    clear hp2 hp3 hp4
    go_wp2_with fail
    refine (toFiltered_any p dv mv lv ds ms ls _ HX1.out.fi hds HMS.out HLS.out).mono ?_
    rintro e w2 ⟨dv2, mv2, lv2, rfl, hcx2, hb2⟩
    have hs1 : w.heap.size + 1 ≤ w1.heap.size := by have := HB1.out.size; rw [HS0.out] at this; exact this
    have HB2 := Lib.hid (HB1.out.trans (hb2.mono hs1))
    have HC2 := Lib.hid hcx2.zero
    have hs2 : w1.heap.size ≤ w2.heap.size := hb2.size
    clear hb2 hcx2 c0 c1 c2 c3
    go_wp2_with fail
    refine (spPageTable_any p r dv2 mv2 lv2 ds ms ls _ HC2.out hds HMS.out HLS.out).mono ?_
    rintro e w4 ⟨u0, o0, k0, rfl, hl4, hb4, hout0⟩
    have HB4 := Lib.hid (HB2.out.trans (hb4.mono (by omega)))
    have HX4 := Lib.hid (HNX.out _ HB4.out)
    have HL4 := Lib.hid hl4
    have HO0 := Lib.hid hout0
    have hs4 : w2.heap.size ≤ w4.heap.size := hb4.size
    have HBD := Lib.hid (hout0.all (by exact ⟨by simp, by simp⟩) (fun h0 a ha => PtTab.bd (by omega) ha))
    clear hl4 hb4 hout0 HC2 HB1 HB2 HX1
    have c0 := HX4.out.c0
    have c1 := HX4.out.c1
    have c2 := HX4.out.c2
    have c3 := HX4.out.c3
    go_wp2_with fail
    refine (toFilteredw_any p dv mv lv ds ms ls _ HX4.out.fi hds HMS.out HLS.out).mono ?_
    rintro e w5 ⟨dv5, mv5, lv5, rfl, hcw5, hb5⟩
    have HB5 := Lib.hid (HB4.out.trans (hb5.mono (by omega)))
    have HK5 := Lib.hid hb5
    have hsh := hcw5.fi.shapes
    have HC5 := Lib.hid hcw5
    have hs5 : w4.heap.size ≤ w5.heap.size := hb5.size
    clear hb5 hcw5 c0 c1 c2 c3 HX4
    obtain ⟨⟨a5, l5, rfl⟩, ⟨a6, l6, rfl⟩, ⟨a7, l7, rfl⟩⟩ := hsh
    go_wp2_with fail
    obtain ⟨w5b, hw5b⟩ : ∃ w5b, w5b = (w5.alloc (.cells #[.int .i64 p, .slice a5 ds.length l5, .slice a6 ms.length l6, .slice a7 ls.length l7] 33)) := ⟨_, rfl⟩
    have hbk : Below w5.heap.size w5 w5b := by rw [hw5b]; exact below_alloc1 _ _
    have hs5b : w5b.heap.size = w5.heap.size + 1 := by rw [hw5b]; simp
    have HB6 := Lib.hid (HB5.out.trans (hbk.mono (by omega)))
    have HK6 := Lib.hid (HK5.out.trans (hbk.mono (by omega)))
    have HY6 : Hid (Fx w5 w5b w5.heap.size p (.slice a5 ds.length l5) (.slice a6 ms.length l6) (.slice a7 ls.length l7) ds ms ls) := Lib.hid (by rw [hw5b]; exact Fx.start _ HC5.out.fi.zero)
    have HC6 := Lib.hid (HC5.out.same (Same.of_below hbk (Nat.le_refl _)))
    rw [← hw5b]
    have HS5b := Lib.hid hs5b
    have hs5c : w5.heap.size + 1 ≤ w5b.heap.size := by omega
    clear hw5b hbk HB5 HK5 HC5 hs5b
    refine (pageTableOf_any p r _ _ _ ds ms ls _ HC6.out.fi.zero hds HMS.out HLS.out).mono ?_
    rintro e w7 ⟨u7, o7, k7, rfl, hw7, hb7, hout7⟩
    obtain ⟨rfl, rfl⟩ := RsOut.unique (fun h _ _ ha hb => PtTab.unique (celCode_zero h).1.1.1.prime.lo1 ha hb) HO0.out hout7
    have hs7 : w5b.heap.size ≤ w7.heap.size := hb7.size
    have HB7 := Lib.hid (HB6.out.trans (hb7.mono (by omega)))
    have HK7 := Lib.hid (HK6.out.trans (hb7.mono (by omega)))
    have HY7 := Lib.hid (HY6.out.next hb7)
    have HC7 := Lib.hid (HC6.out.same (Same.of_below hb7 (by omega)))
    have HG7 := Lib.hid hw7
    clear hb7 hw7 hout7 HB6 HK6 HY6 HC6
    have hcode : (k0 != k0) = false := by simp
    go_wp2_with fail
    refine (eq2_true u7 u0 o0 _ HG7.out.l (HL4.out.below HK7.out) HBD.out).mono ?_
    rintro e w8 ⟨rfl, hb8⟩
    have hs8 : w7.heap.size ≤ w8.heap.size := hb8.size
    have HB8 := Lib.hid (HB7.out.trans (hb8.mono (by omega)))
    have HK8 := Lib.hid (HK7.out.trans (hb8.mono (by omega)))
    have HX8 := Lib.hid (HNX.out _ HB8.out)
    have HY8 := Lib.hid (HY7.out.next hb8)
    have HC8 := Lib.hid (HC7.out.same (Same.of_below hb8 (by omega)))
    have HG8 := Lib.hid (HG7.out.same (Same.of_below hb8 (Nat.le_refl _)))
    clear hb8 HB7 HK7 HY7 HC7 HG7
    have c0 := HX8.out.c0
    have c1 := HX8.out.c1
    have c2 := HX8.out.c2
    have c3 := HX8.out.c3
    have d0 := HY8.out.c0
    have d1 := HY8.out.c1
    have d2 := HY8.out.c2
    have d3 := HY8.out.c3
    have HCX := Lib.hid (Fi.drew HX8.out.fi)
    have HCC := Lib.hid (Fi.drew HY8.out.fi)
    go_wp2_with fail
    go_region_held3 (fun w' => w'.cell? ⟨w.heap.size, 0, none⟩ = some (.int .i64 p) ∧ w'.cell? ⟨w.heap.size, 1, none⟩ = some dv ∧ w'.cell? ⟨w.heap.size, 2, none⟩ = some mv ∧ w'.cell? ⟨w.heap.size, 3, none⟩ = some lv ∧ w'.cell? ⟨w5.heap.size, 0, none⟩ = some (.int .i64 p) ∧ w'.cell? ⟨w5.heap.size, 1, none⟩ = some (.slice a5 ds.length l5) ∧ w'.cell? ⟨w5.heap.size, 2, none⟩ = some (.slice a6 ms.length l6) ∧ w'.cell? ⟨w5.heap.size, 3, none⟩ = some (.slice a7 ls.length l7))
      (first | exact ⟨c0, c1, c2, c3, d0, d1, d2, d3⟩ | exact HS9.out | exact HSA.out | go_keep)
      (first
        | (go_at_call 23; refine (toFiltered_any p dv mv lv ds ms ls _ HCX.out hds HMS.out HLS.out).mono ?_; rintro e w9 ⟨dv9, mv9, lv9, rfl, hcx9, hb9⟩; have HS9 := Lib.hid (And.intro (later hb9 (Nat.le_refl _) c0) (And.intro (later hb9 (Nat.le_refl _) c1) (And.intro (later hb9 (Nat.le_refl _) c2) (And.intro (later hb9 (Nat.le_refl _) c3) (And.intro (later hb9 (Nat.le_refl _) d0) (And.intro (later hb9 (Nat.le_refl _) d1) (And.intro (later hb9 (Nat.le_refl _) d2) (later hb9 (Nat.le_refl _) d3)))))))); have HX9 := Lib.hid (And.intro hcx9 (And.intro (HCC.out.below hb9) (Below.trans ((Below.refl w8.heap.size w8).drew) hb9))); clear hcx9 hb9)
        | (go_at_call 25; refine (eqFiltered_true p _ _ _ dv9 mv9 lv9 ds ms ls _ HX9.out.2.1 HX9.out.1.zero hds HMS.out HLS.out).mono ?_; rintro e wA ⟨rfl, hbA⟩; have HSA := Lib.hid (And.intro (later hbA (Nat.le_refl _) HS9.out.1) (And.intro (later hbA (Nat.le_refl _) HS9.out.2.1) (And.intro (later hbA (Nat.le_refl _) HS9.out.2.2.1) (And.intro (later hbA (Nat.le_refl _) HS9.out.2.2.2.1) (And.intro (later hbA (Nat.le_refl _) HS9.out.2.2.2.2.1) (And.intro (later hbA (Nat.le_refl _) HS9.out.2.2.2.2.2.1) (And.intro (later hbA (Nat.le_refl _) HS9.out.2.2.2.2.2.2.1) (later hbA (Nat.le_refl _) HS9.out.2.2.2.2.2.2.2)))))))); have HXA := Lib.hid (Below.trans HX9.out.2.2 (hbA.mono HX9.out.2.2.size)); clear hbA))
    have hsC : w8.heap.size ≤ wA.heap.size := HXA.out.size
    have HBC := Lib.hid (HB8.out.trans (HXA.out.mono (by omega)))
    have HKC := Lib.hid (HK8.out.trans (HXA.out.mono (by omega)))
    have HYC := Lib.hid (HY8.out.next HXA.out)
    have HCC2 := Lib.hid (HC8.out.same (Same.of_below HXA.out (by omega)))
    have HGC := Lib.hid (HG8.out.same (Same.of_below HXA.out (by omega)))
    clear c0 c1 c2 c3 d0 d1 d2 d3 HXA HSA HS9 HX9 HCX HCC HB8 HK8 HX8 HY8 HC8 HG8
    have d0 := HYC.out.c0
    have d1 := HYC.out.c1
    have d2 := HYC.out.c2
    have d3 := HYC.out.c3
    go_wp2_with fail
    refine (markFiltered_any p _ _ _ ds ms ls _ HCC2.out (by omega) hds HMS.out HLS.out).mono ?_
    rintro e wD ⟨r2, wM, rfl, hr0, hr1, hbM, hoM, htM⟩
    have hsM : wA.heap.size ≤ wM.heap.size := hbM.size
    have hsD : wD.heap.size = wM.heap.size := hoM.size
    have hsD' : wM.heap.size ≤ wD.heap.size := by omega
    have HBD2 := Lib.hid ((HBC.out.trans (hbM.mono (by omega))).trans (hoM.below (by omega)))
    have HKD := Lib.hid ((HKC.out.trans (hbM.mono (by omega))).trans (hoM.below (Nat.le_refl _)))
    have HGD := Lib.hid (HGC.out.same ((Same.of_below hbM (by omega)).trans (hoM.same (Or.inr (by omega)))))
    clear hsD hbM hoM htM d0 d1 d2 d3 HBC HKC HYC HCC2 HGC
    go_wp2_with fail
    refine (eq2_true u7 u0 o0 _ HGD.out.l (HL4.out.below HKD.out) HBD.out).mono ?_
    rintro e wF ⟨rfl, hbF⟩
    have hsF : wD.heap.size ≤ wF.heap.size := hbF.size
    have HBF := Lib.hid (HBD2.out.trans (hbF.mono (by omega)))
    have HKF := Lib.hid (HKD.out.trans (hbF.mono (by omega)))
    have HGF := Lib.hid (HGD.out.same (Same.of_below hbF (by omega)))
    clear hbF HBD2 HKD HGD
    go_wp2_with fail
    refine (markR2_any HGF.out).mono ?_
    rintro e wG ⟨mm, rfl, hm0, hm1, hoG, hmk⟩
    have hsG : wF.heap.size ≤ wG.heap.size := Nat.le_of_eq hoG.size.symm
    have HBG := Lib.hid (HBF.out.trans (hoG.below (by omega)))
    have HKG := Lib.hid (HKF.out.trans (hoG.below (by omega)))
    have HMG := Lib.hid hmk
    have HXG := Lib.hid (HNX.out _ HBG.out)
    clear hoG hmk HBF HKF HGF
    have hneg : ¬ mm < 0 := by omega
    have hsum : (mm != mm) = false := by simp
    go_wp2_with fail
    refine (heldR2_any HMG.out).mono ?_
    rintro e w' ⟨rfl, rfl⟩
    have c0 := HXG.out.c0
    have c1 := HXG.out.c1
    have c2 := HXG.out.c2
    have c3 := HXG.out.c3
    go_wp2_with fail
    refine (toFiltered_any p dv mv lv ds ms ls _ HXG.out.fi hds HMS.out HLS.out).mono ?_
    rintro e wH ⟨dvH, mvH, lvH, rfl, hcxH, hbH⟩
    have hsH : wG.heap.size ≤ wH.heap.size := hbH.size
    have HBH := Lib.hid (HBG.out.trans (hbH.mono (by omega)))
    have HKH := Lib.hid (HKG.out.trans (hbH.mono (by omega)))
    have HMH := Lib.hid (HMG.out.same (Same.of_below hbH (by omega)))
    have HCH := Lib.hid hcxH.zero
    clear hbH hcxH HBG HKG HXG HMG c0 c1 c2 c3
    go_wp2_with fail
    refine (pageTableOf_any p r _ _ _ ds ms ls _ HCH.out hds HMS.out HLS.out).mono ?_
    rintro e wJ ⟨uJ, oJ, kJ, rfl, hwJ, hbJ, houtJ⟩
    obtain ⟨rfl, rfl⟩ := RsOut.unique (fun h _ _ ha hb => PtTab.unique (celCode_zero h).1.1.1.prime.lo1 ha hb) HO0.out houtJ
    have hsJ : wH.heap.size ≤ wJ.heap.size := hbJ.size
    have HBJ := Lib.hid (HBH.out.trans (hbJ.mono (by omega)))
    have HKJ := Lib.hid (HKH.out.trans (hbJ.mono (by omega)))
    have HMJ := Lib.hid (HMH.out.same (Same.of_below hbJ (by omega)))
    have HJJ := Lib.hid hwJ.l
    clear hbJ hwJ houtJ HBH HKH HMH HCH
    go_wp2_with fail
    refine (eq2_true uJ u0 o0 _ HJJ.out (HL4.out.below HKJ.out) HBD.out).mono ?_
    rintro e wK ⟨rfl, hbK⟩
    have HBK := Lib.hid (HBJ.out.trans (hbK.mono (by omega)))
    have HMK := Lib.hid (HMJ.out.same (Same.of_below hbK (by omega)))
    clear hbK HBJ HKJ HMJ HJJ
    go_wp2_with fail
    refine (heldR2_any HMK.out).mono ?_
    rintro e w' ⟨rfl, rfl⟩
    go_wp2
    go_ret
    exact ⟨rfl, (HNX.out _ HBK.out).below⟩
end Go.Proofs.Ytpdkfidmmjlmnab
