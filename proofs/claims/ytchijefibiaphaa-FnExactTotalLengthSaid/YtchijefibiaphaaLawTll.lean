/-
  laws.FnExactTotalLength by its walk.
-/
import Derived.Test.YtchijefibiaphaaBrv
import Derived.Test.YtchijefibiaphaaRw
import Derived.Test.YtchijefibiaphaaEnd
import Derived.Test.YtchijefibiaphaaQg
import Derived.Test.YtchijefibiaphaaVal
import Derived.Test.YtchijefibiaphaaQh
import Derived.Deep.RegionWith
import Derived.Deep.RegionHeld3
import Derived.BigRegion
import Derived.BigQuiet
import Derived.Deep.QuietTactic
namespace Go.Proofs.Ytchijefibiaphaa
open Go.RowKit

set_option maxHeartbeats 12800000 in
set_option maxRecDepth 100000 in
theorem lawTll_any (fv0 : Value) (fs0 : List B3) (w : World) (h0 : Br 0 w fv0 fs0) (hml0 : fs0.length ≤ 9223372036854775807) :
    Calls Try.prog 8 #[fv0] w (BR (.bool true) w) := by
  have HS0 : Hid (w.heap.size = w.heap.size + 0) := Lib.hid (by simp)
  have HZ0 : Hid (Below w.heap.size w w) := Lib.hid (by exact Below.refl _ _)
  have HN0 : Hid (∀ W, Below (w.heap.size + 0) w W → Br 0 W fv0 fs0) := Lib.hid (fun W hb => (h0.below HZ0.out).below (by rw [HS0.out]; exact hb))
  have HNW : Hid (∀ W, Below (w.heap.size + 0) w W → Below w.heap.size w W) := Lib.hid (fun W hb => HZ0.out.trans (hb.mono (by omega)))
  have HB : Hid (Below (w.heap.size + 0) w w) := Lib.hid (Below.refl _ _)
  have hs0 : w.heap.size + 0 ≤ w.heap.size := by have := HS0.out; omega
  have HML0 := Lib.hid hml0
  obtain ⟨af0, cf0, ef0⟩ := Br.shape h0
  subst ef0
  clear h0 hml0
  go_enter Try.func8, Try.ntmps8
  go_upto_region 1 with fail
  go_wp2_with fail
  refine (szB_any _ fs0 1048576 _ (HN0.out _ HB.out) (by omega) (by omega) HML0.out).mono ?_
  rintro ee w' ⟨sz0, rfl, rfl, hpost⟩
  rcases hpost with rfl | ⟨hp00, hp01, hpm0⟩
  · go_wp2
    go_ret
    exact ⟨rfl, HNW.out _ HB.out⟩
  have HMS0 := Lib.hid hpm0
  clear hpm0
  have HQd : Hid (Below w.heap.size w w) := Lib.hid (Below.refl _ _)
  go_wp2_with fail
  refine (toB_any _ fs0 _ (HN0.out _ HB.out) HMS0.out).mono ?_
  rintro ee wS0 ⟨xvS0, rfl, hc, hb⟩
  have hsS0 : w.heap.size ≤ wS0.heap.size := hb.size
  have HBS0 := Lib.hid (HB.out.trans (hb.mono (by omega)))
  have HQ0 := Lib.hid (HQd.out.trans (hb.mono (by omega)))
  have HXS00 := Lib.hid (hc.lower (Nat.zero_le _))
  clear hb hc
  go_wp2_with fail
  refine (spTotalLength_any xvS0 fs0 _ (HXS00.out) HMS0.out).mono ?_
  rintro ee wSr ⟨gS0, gS1, rfl, hb, hoS⟩
  have hsSr : wS0.heap.size ≤ wSr.heap.size := hb.size
  have HBSr := Lib.hid (HBS0.out.trans (hb.mono (by omega)))
  have HQr := Lib.hid (HQ0.out.trans (hb.mono (by omega)))
  have HOS := Lib.hid hoS
  clear hb hoS
  have hb := HQr.out
  clear HQd HQr HQ0 HXS00 HBS0 HBSr
  have HB' := Lib.hid (HB.out.trans (hb.mono (by omega)))
  clear hb HB
  have HB := HB'
  clear HB'
  go_wp2_with fail
  refine (toBw_any _ fs0 _ (HN0.out _ HB.out) HMS0.out).mono ?_
  rintro ee wc0 ⟨yv0, rfl, hc, hb⟩
  have hsc0 : wSr.heap.size ≤ wc0.heap.size := hb.size
  have HB' := Lib.hid (HB.out.trans (hb.mono (by omega)))
  clear hb HB
  have HB := HB'
  clear HB'
  have HC0 := Lib.hid hc
  obtain ⟨ya0, yc0, rfl⟩ := BrW.shape hc
  clear hc
  go_wp2_with fail
  refine (totalLength_any _ fs0 _ (HC0.out.br.lower (Nat.zero_le _)) HMS0.out).mono ?_
  rintro ee w7 ⟨gI0, gI1, rfl, hb, hoI⟩
  obtain ⟨rfl, rfl⟩ := TlC.unique HOS.out hoI
  have hs7 : wc0.heap.size ≤ w7.heap.size := hb.size
  have HB' := Lib.hid (HB.out.trans (hb.mono (by omega)))
  have HC0' := Lib.hid (HC0.out.same (Same.of_below hb (by omega)))
  clear hb HB HC0
  have HB := HB'
  have HC0 := HC0'
  clear HB' HC0'
  clear hoI HOS
  have hcode0 : (gS0 != gS0) = false := by simp
  have hcode1 : (gS1 != gS1) = false := by simp
  have hcodf0 : (gS0 == gS0) = true := by simp
  have hcodf1 : (gS1 == gS1) = true := by simp
  go_wp2_with fail
  refine (toB_any _ fs0 _ (HN0.out _ HB.out) HMS0.out).mono ?_
  rintro ee w9 ⟨v9, rfl, hc, hb⟩
  have hs90 : w7.heap.size ≤ w9.heap.size := hb.size
  have HB' := Lib.hid (HB.out.trans (hb.mono (by omega)))
  have HC0' := Lib.hid (HC0.out.same (Same.of_below hb (by omega)))
  clear hb HB HC0
  have HB := HB'
  have HC0 := HC0'
  clear HB' HC0'
  have HV9 := Lib.hid (hc.lower (Nat.zero_le _))
  clear hc
  obtain ⟨a9, c9, e9⟩ := Br.shape HV9.out
  subst e9
  go_wp2_with fail
  refine (eqB_true _ _ fs0 _ (HC0.out.br.lower (Nat.zero_le _)) HV9.out HMS0.out).mono ?_
  rintro ee wA0 ⟨rfl, hb⟩
  have hsa0 : w9.heap.size ≤ wA0.heap.size := hb.size
  clear HV9
  have HB' := Lib.hid (HB.out.trans (hb.mono (by omega)))
  have HC0' := Lib.hid (HC0.out.same (Same.of_below hb (by omega)))
  clear hb HB HC0
  have HB := HB'
  have HC0 := HC0'
  clear HB' HC0'
  have hsq0 : w7.heap.size ≤ wA0.heap.size := by omega
  obtain ⟨w9k, hw9k⟩ : ∃ w9k, w9k = w9 := ⟨_, rfl⟩
  clear hw9k w9k
  go_wp2
  go_ret
  exact ⟨rfl, HNW.out _ HB.out⟩
end Go.Proofs.Ytchijefibiaphaa
