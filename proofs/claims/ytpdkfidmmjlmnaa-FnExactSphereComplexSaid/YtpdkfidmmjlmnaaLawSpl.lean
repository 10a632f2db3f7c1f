/-
  laws.FnExactSphereComplex by its walk.
-/
import Derived.Test.YtpdkfidmmjlmnaaSph
import Derived.Test.YtpdkfidmmjlmnaaRc
import Derived.Test.YtpdkfidmmjlmnaaEnd
import Derived.Test.YtpdkfidmmjlmnaaQg
import Derived.Test.YtpdkfidmmjlmnaaQh
import Derived.Deep.RegionWith
import Derived.Deep.RegionHeld3
import Derived.BigRegion
import Derived.BigQuiet
import Derived.Deep.QuietTactic
namespace Go.Proofs.Ytpdkfidmmjlmnaa
open Go.RowKit

set_option maxHeartbeats 6400000 in
set_option maxRecDepth 100000 in
theorem lawSpl_any (n0 n1 : Int) (w : World) :
    Calls Try.prog 19 #[.int .i64 n0, .int .i64 n1] w (BR (.bool true) w) := by
  have HB : Hid (Below w.heap.size w w) := Lib.hid (Below.refl _ _)
  go_enter Try.func19, Try.ntmps19
  go_wp2_with fail
  refine (spSphereComplex_any n0 n1 _).mono ?_
  rintro e wSr ⟨uS, oS, kS, rfl, hrS, hb, hoS⟩
  have hsSr : w.heap.size ≤ wSr.heap.size := hb.size
  have HRS := Lib.hid hrS
  have HOS := Lib.hid hoS
  clear hrS hoS
  have HB' := Lib.hid (HB.out.trans (hb.mono (by omega)))
  clear hb HB
  have HB := HB'
  clear HB'
  obtain ⟨pS, dsS, msS⟩ := oS
  obtain ⟨aSd, cSd, aSm, cSm, huS, hcS⟩ := HRS.out
  have huS : uS = .agg #[.int .i64 pS, .slice aSd dsS.length cSd, .slice aSm msS.length cSm] := huS
  subst huS
  have HXS : Hid (Cx 0 wSr (.slice aSd dsS.length cSd) (.slice aSm msS.length cSm) dsS msS) := Lib.hid hcS
  clear hcS HRS
  have HBD : Hid (CoB (pS, dsS, msS)) := Lib.hid (HOS.out.all (Q := CoB) ⟨by simp, by simp, by simp⟩ (fun h0 a ha => by rw [show a = _ from ha]; exact sh_bd (sphCode_zero h0)))
  have hbd1 : dsS.length ≤ 1048576 := HBD.out.1
  obtain ⟨wbS, hwb⟩ : ∃ wbS, wbS = wSr.alloc (.cells #[.int .i64 pS, .slice aSd dsS.length cSd, .slice aSm msS.length cSm] 28) := ⟨_, rfl⟩
  have hb : Below wSr.heap.size wSr wbS := by rw [hwb]; exact below_alloc1 _ _
  have hsbS : wSr.heap.size + 1 = wbS.heap.size := by rw [hwb]; simp
  have hsBS : wSr.heap.size ≤ wbS.heap.size := by omega
  have HYS : Hid (Bq wbS wSr.heap.size pS (.slice aSd dsS.length cSd) (.slice aSm msS.length cSm) dsS msS) := Lib.hid (by rw [hwb]; exact (Bx.start _ HXS.out).bq)
  have HB' := Lib.hid (HB.out.trans (hb.mono (by omega)))
  clear hb HB
  have HB := HB'
  clear HB'
  go_upto_region 2 with fail
  rw [← hwb]
  clear hwb
  clear HXS
  have HK : Hid (Below wbS.heap.size wbS wbS) := Lib.hid (Below.refl _ _)
  go_wp2_with fail
  refine (sphereComplex_any n0 n1 _).mono ?_
  rintro e w7 ⟨u7, o7, k7, rfl, hw7, hb, hout7⟩
  obtain ⟨rfl, rfl⟩ := RsOut.unique (fun _ a b ha hb => ha.trans hb.symm) HOS.out hout7
  have hs7 : wbS.heap.size ≤ w7.heap.size := hb.size
  have HB' := Lib.hid (HB.out.trans (hb.mono (by omega)))
  have HK' := Lib.hid (HK.out.trans (hb.mono (by omega)))
  clear hb HB HK
  have HB := HB'
  have HK := HK'
  clear HB' HK'
  obtain ⟨aGd, cGd, aGm, cGm, hu7, hG⟩ := hw7
  have hu7 : u7 = .agg #[.int .i64 pS, .slice aGd dsS.length cGd, .slice aGm msS.length cGm] := hu7
  subst hu7
  have HG : Hid (RcW wbS.heap.size w7.heap.size w7 (.slice aGd dsS.length cGd) (.slice aGm msS.length cGm) dsS msS) := Lib.hid hG
  clear hG hout7
  obtain ⟨wbG, hwb⟩ : ∃ wbG, wbG = w7.alloc (.cells #[.int .i64 pS, .slice aGd dsS.length cGd, .slice aGm msS.length cGm] 28) := ⟨_, rfl⟩
  have hb : Below w7.heap.size w7 wbG := by rw [hwb]; exact below_alloc1 _ _
  have hsbG : w7.heap.size + 1 = wbG.heap.size := by rw [hwb]; simp
  have hsBG : w7.heap.size ≤ wbG.heap.size := by omega
  have HCG0 : Hid (Bc wbG w7.heap.size pS (.slice aGd dsS.length cGd) (.slice aGm msS.length cGm)) := Lib.hid (by rw [hwb]; exact Bc.start _ _ _ _ _)
  have HB' := Lib.hid (HB.out.trans (hb.mono (by omega)))
  have HK' := Lib.hid (HK.out.trans (hb.mono (by omega)))
  have HG' := Lib.hid (HG.out.same (Same.of_below hb (by omega)))
  clear hb HB HK HG
  have HB := HB'
  have HK := HK'
  have HG := HG'
  clear HB' HK' HG'
  have HCG := HCG0
  clear HCG0
  go_upto_region 3 with fail
  rw [← hwb]
  clear hwb
  have hcode : (kS != kS) = false := by simp
  have s0 := (HYS.out.next HK.out).c0
  have s1 := (HYS.out.next HK.out).c1
  have s2 := (HYS.out.next HK.out).c2
  have g0 := HCG.out.c0
  have g1 := HCG.out.c1
  have g2 := HCG.out.c2
  go_wp2_with fail
  refine (eqComplex_true pS _ _ _ _ dsS msS _ HG.out.cx (HYS.out.next HK.out).cx hbd1 HBD.out.2).mono ?_
  rintro e we1 ⟨rfl, hb⟩
  have hse1 : wbG.heap.size ≤ we1.heap.size := hb.size
  clear s0 s1 s2 g0 g1 g2
  have HB' := Lib.hid (HB.out.trans (hb.mono (by omega)))
  have HK' := Lib.hid (HK.out.trans (hb.mono (by omega)))
  have HG' := Lib.hid (HG.out.same (Same.of_below hb (by omega)))
  have HCG' := Lib.hid (HCG.out.next hb)
  clear hb HB HK HG HCG
  have HB := HB'
  have HK := HK'
  have HG := HG'
  have HCG := HCG'
  clear HB' HK' HG' HCG'
  have g0 := HCG.out.c0
  have g1 := HCG.out.c1
  have g2 := HCG.out.c2
  go_wp2_with fail
  refine (markRC_any pS _ _ dsS msS _ HG.out (by omega)).mono ?_
  rintro e wG ⟨mm, wM2, rfl, hm0, hm1, hb, hoG, hmk⟩
  have hsM2 : we1.heap.size ≤ wM2.heap.size := hb.size
  have hsG0 : wG.heap.size = wM2.heap.size := hoG.size
  have hsG : we1.heap.size ≤ wG.heap.size := by omega
  clear g0 g1 g2
  have HB' := Lib.hid ((HB.out.trans (hb.mono (by omega))).trans (hoG.below (by omega)))
  have HK' := Lib.hid ((HK.out.trans (hb.mono (by omega))).trans (hoG.below (by omega)))
  have HCG' := Lib.hid ((HCG.out.next hb).only hoG (by omega))
  have HG' := Lib.hid hmk
  clear hoG hmk hb HB HK HG HCG
  have HB := HB'
  have HK := HK'
  have HG := HG'
  have HCG := HCG'
  clear HB' HK' HG' HCG'
  have hneg : ¬ mm < 0 := by omega
  have hsum : (mm != mm) = false := by simp
  have g0 := HCG.out.c0
  have g1 := HCG.out.c1
  have g2 := HCG.out.c2
  go_wp2_with fail
  refine (heldRC_any pS _ _ mm _ HG.out (by omega)).mono ?_
  rintro e wH1 ⟨rfl, hb⟩
  have hsH1 : wG.heap.size ≤ wH1.heap.size := hb.size
  clear g0 g1 g2
  have HB' := Lib.hid (HB.out.trans (hb.mono (by omega)))
  have HK' := Lib.hid (HK.out.trans (hb.mono (by omega)))
  have HG' := Lib.hid (HG.out.same (Same.of_below hb (by omega)))
  have HCG' := Lib.hid (HCG.out.next hb)
  clear hb HB HK HG HCG
  have HB := HB'
  have HK := HK'
  have HG := HG'
  have HCG := HCG'
  clear HB' HK' HG' HCG'
  go_wp2_with fail
  refine (sphereComplex_any n0 n1 _).mono ?_
  rintro e wJr ⟨uJ, oJ, kJ, rfl, hrJ, hb, hoJ⟩
  obtain ⟨rfl, rfl⟩ := RsOut.unique (fun _ a b ha hb => ha.trans hb.symm) HOS.out hoJ
  have hsJr : wH1.heap.size ≤ wJr.heap.size := hb.size
  have HRJ := Lib.hid hrJ
  clear hrJ hoJ
  have HB' := Lib.hid (HB.out.trans (hb.mono (by omega)))
  have HK' := Lib.hid (HK.out.trans (hb.mono (by omega)))
  have HG' := Lib.hid (HG.out.same (Same.of_below hb (by omega)))
  have HCG' := Lib.hid (HCG.out.next hb)
  clear hb HB HK HG HCG
  have HB := HB'
  have HK := HK'
  have HG := HG'
  have HCG := HCG'
  clear HB' HK' HG' HCG'
  obtain ⟨aJd, cJd, aJm, cJm, huJ, hcJ⟩ := HRJ.out
  have huJ : uJ = .agg #[.int .i64 pS, .slice aJd dsS.length cJd, .slice aJm msS.length cJm] := huJ
  subst huJ
  have HXJ : Hid (Cx 0 wJr (.slice aJd dsS.length cJd) (.slice aJm msS.length cJm) dsS msS) := Lib.hid hcJ.cx
  clear hcJ HRJ
  obtain ⟨wbJ, hwb⟩ : ∃ wbJ, wbJ = wJr.alloc (.cells #[.int .i64 pS, .slice aJd dsS.length cJd, .slice aJm msS.length cJm] 28) := ⟨_, rfl⟩
  have hb : Below wJr.heap.size wJr wbJ := by rw [hwb]; exact below_alloc1 _ _
  have hsbJ : wJr.heap.size + 1 = wbJ.heap.size := by rw [hwb]; simp
  have hsBJ : wJr.heap.size ≤ wbJ.heap.size := by omega
  have HYJ : Hid (Bq wbJ wJr.heap.size pS (.slice aJd dsS.length cJd) (.slice aJm msS.length cJm) dsS msS) := Lib.hid (by rw [hwb]; exact (Bx.start _ HXJ.out).bq)
  have HB' := Lib.hid (HB.out.trans (hb.mono (by omega)))
  have HK' := Lib.hid (HK.out.trans (hb.mono (by omega)))
  have HG' := Lib.hid (HG.out.same (Same.of_below hb (by omega)))
  have HCG' := Lib.hid (HCG.out.next hb)
  clear hb HB HK HG HCG
  have HB := HB'
  have HK := HK'
  have HG := HG'
  have HCG := HCG'
  clear HB' HK' HG' HCG'
  go_upto_region 14 with fail
  rw [← hwb]
  clear hwb
  clear HXJ
  have s0 := (HYS.out.next HK.out).c0
  have s1 := (HYS.out.next HK.out).c1
  have s2 := (HYS.out.next HK.out).c2
  have j0 := HYJ.out.c0
  have j1 := HYJ.out.c1
  have j2 := HYJ.out.c2
  go_wp2_with fail
  refine (eqComplex_true pS _ _ _ _ dsS msS _ HYJ.out.cx (HYS.out.next HK.out).cx hbd1 HBD.out.2).mono ?_
  rintro e wK ⟨rfl, hb⟩
  have hsK : wbJ.heap.size ≤ wK.heap.size := hb.size
  clear s0 s1 s2 j0 j1 j2
  clear HYJ
  have HB' := Lib.hid (HB.out.trans (hb.mono (by omega)))
  have HK' := Lib.hid (HK.out.trans (hb.mono (by omega)))
  have HG' := Lib.hid (HG.out.same (Same.of_below hb (by omega)))
  have HCG' := Lib.hid (HCG.out.next hb)
  clear hb HB HK HG HCG
  have HB := HB'
  have HK := HK'
  have HG := HG'
  have HCG := HCG'
  clear HB' HK' HG' HCG'
  have g0 := HCG.out.c0
  have g1 := HCG.out.c1
  have g2 := HCG.out.c2
  go_wp2_with fail
  refine (heldRC_any pS _ _ mm _ HG.out (by omega)).mono ?_
  rintro e wH2 ⟨rfl, hb⟩
  have hsH2 : wK.heap.size ≤ wH2.heap.size := hb.size
  clear g0 g1 g2
  have HB' := Lib.hid (HB.out.trans (hb.mono (by omega)))
  have HK' := Lib.hid (HK.out.trans (hb.mono (by omega)))
  have HG' := Lib.hid (HG.out.same (Same.of_below hb (by omega)))
  have HCG' := Lib.hid (HCG.out.next hb)
  clear hb HB HK HG HCG
  have HB := HB'
  have HK := HK'
  have HG := HG'
  have HCG := HCG'
  clear HB' HK' HG' HCG'
  go_wp2
  go_ret
  exact ⟨rfl, HB.out⟩
end Go.Proofs.Ytpdkfidmmjlmnaa
