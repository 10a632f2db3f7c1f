/-
  laws.FnExactLongestBar by its walk.
-/
import Derived.Test.YtchijefibiaphaaBrg
import Derived.Test.YtchijefibiaphaaRw
import Derived.Test.YtchijefibiaphaaEnd
import Derived.Test.YtchijefibiaphaaQg
import Derived.Test.YtchijefibiaphaaVal
import Derived.Test.YtchijefibiaphaaQh
import Derived.Deep.RegionWith
import Derived.Deep.RegionHeld3
import Derived.BigRegion
import Derived.BigQuiet
import Derived.Deep.QuietTactic
namespace Go.Proofs.Ytchijefibiaphaa
open Go.RowKit

set_option maxHeartbeats 12800000 in
set_option maxRecDepth 100000 in
theorem lawLbl_any (fv0 : Value) (fs0 : List B3) (w : World) (h0 : Br 0 w fv0 fs0) (hml0 : fs0.length ≤ 9223372036854775807) :
    Calls Try.prog 9 #[fv0] w (BR (.bool true) w) := by
  have HS0 : Hid (w.heap.size = w.heap.size + 0) := Lib.hid (by simp)
  have HZ0 : Hid (Below w.heap.size w w) := Lib.hid (by exact Below.refl _ _)
  have HN0 : Hid (∀ W, Below (w.heap.size + 0) w W → Br 0 W fv0 fs0) := Lib.hid (fun W hb => (h0.below HZ0.out).below (by rw [HS0.out]; exact hb))
  have HNW : Hid (∀ W, Below (w.heap.size + 0) w W → Below w.heap.size w W) := Lib.hid (fun W hb => HZ0.out.trans (hb.mono (by omega)))
  have HB : Hid (Below (w.heap.size + 0) w w) := Lib.hid (Below.refl _ _)
  have hs0 : w.heap.size + 0 ≤ w.heap.size := by have := HS0.out; omega
  have HML0 := Lib.hid hml0
  obtain ⟨af0, cf0, ef0⟩ := Br.shape h0
  subst ef0
  clear h0 hml0
  go_enter Try.func9, Try.ntmps9
  go_upto_region 1 with fail
  go_wp2_with fail
  refine (szB_any _ fs0 1048576 _ (HN0.out _ HB.out) (by omega) (by omega) HML0.out).mono ?_
  rintro ee w' ⟨sz0, rfl, rfl, hpost⟩
  rcases hpost with rfl | ⟨hp00, hp01, hpm0⟩
  · go_wp2
    go_ret
    exact ⟨rfl, HNW.out _ HB.out⟩
  have HMS0 := Lib.hid hpm0
  clear hpm0
  have HQd : Hid (Below w.heap.size w w) := Lib.hid (Below.refl _ _)
  go_wp2_with fail
  refine (toB_any _ fs0 _ (HN0.out _ HB.out) HMS0.out).mono ?_
  rintro ee wS0 ⟨xvS0, rfl, hc, hb⟩
  have hsS0 : w.heap.size ≤ wS0.heap.size := hb.size
  have HBS0 := Lib.hid (HB.out.trans (hb.mono (by omega)))
  have HQ0 := Lib.hid (HQd.out.trans (hb.mono (by omega)))
  have HXS00 := Lib.hid (hc.lower (Nat.zero_le _))
  clear hb hc
  go_wp2_with fail
  refine (spLongestBar_any xvS0 fs0 _ (HXS00.out) HMS0.out).mono ?_
  rintro ee wSr ⟨gS0, gS1, rfl, hb, hoS⟩
  obtain ⟨ga, gb, gd⟩ := gS0
  unfold bvl
  dsimp only
  have hsSr : wS0.heap.size ≤ wSr.heap.size := hb.size
  have HBSr := Lib.hid (HBS0.out.trans (hb.mono (by omega)))
  have HQr := Lib.hid (HQ0.out.trans (hb.mono (by omega)))
  have HOS := Lib.hid hoS
  clear hb hoS
  have hb := HQr.out
  clear HQd HQr HQ0 HXS00 HBS0 HBSr
  have HB' := Lib.hid (HB.out.trans (hb.mono (by omega)))
  clear hb HB
  have HB := HB'
  clear HB'
  obtain ⟨wq, hwq⟩ : ∃ wq : World, wq = wSr.alloc (.cells #[.int .i64 ga, .int .i64 gb, .int .i64 gd] 53) := ⟨_, rfl⟩
  have HBQ : Hid (Below (w.heap.size + 0) w wq) := Lib.hid (by rw [hwq]; exact HB.out.trans ((below_alloc1 _ _).mono (by omega)))
  have hsq : wSr.heap.size ≤ wq.heap.size := by rw [hwq]; simp
  have hsl : wSr.heap.size < wq.heap.size := by rw [hwq]; simp
  have hwS : w.heap.size ≤ wSr.heap.size := by have := HB.out.size; omega
  have Q0 : Hid (wq.cell? ⟨wSr.heap.size, 0, none⟩ = some (.int .i64 ga)) := Lib.hid (by rw [hwq]; simp)
  have Q1 : Hid (wq.cell? ⟨wSr.heap.size, 1, none⟩ = some (.int .i64 gb)) := Lib.hid (by rw [hwq]; simp)
  have Q2 : Hid (wq.cell? ⟨wSr.heap.size, 2, none⟩ = some (.int .i64 gd)) := Lib.hid (by rw [hwq]; simp)
  go_upto_region 6 with fail
  rw [← hwq]
  clear hwq HB
  have HB := HBQ
  clear HBQ
  have HQQ : Hid (Below wq.heap.size wq wq) := Lib.hid (Below.refl _ _)
  go_wp2_with fail
  refine (toBw_any _ fs0 _ (HN0.out _ HB.out) HMS0.out).mono ?_
  rintro ee wc0 ⟨yv0, rfl, hc, hb⟩
  have hsc0 : wq.heap.size ≤ wc0.heap.size := hb.size
  have HQQ' := Lib.hid (HQQ.out.trans hb)
  clear HQQ
  have HQQ := HQQ'
  clear HQQ'
  have HB' := Lib.hid (HB.out.trans (hb.mono (by omega)))
  clear hb HB
  have HB := HB'
  clear HB'
  have HC0 := Lib.hid hc
  obtain ⟨ya0, yc0, rfl⟩ := BrW.shape hc
  clear hc
  go_wp2_with fail
  refine (longestBar_any _ fs0 _ (HC0.out.br.lower (Nat.zero_le _)) HMS0.out).mono ?_
  rintro ee w7 ⟨gI0, gI1, rfl, hb, hoI⟩
  obtain ⟨rfl, rfl⟩ := LbC.unique hoI HOS.out
  unfold bvl
  dsimp only
  have HQQ' := Lib.hid (HQQ.out.trans (hb.mono hsc0))
  clear HQQ
  have HQQ := HQQ'
  clear HQQ'
  have hs7 : wc0.heap.size ≤ w7.heap.size := hb.size
  have HB' := Lib.hid (HB.out.trans (hb.mono (by omega)))
  have HC0' := Lib.hid (HC0.out.same (Same.of_below hb (by omega)))
  clear hb HB HC0
  have HB := HB'
  have HC0 := HC0'
  clear HB' HC0'
  clear hoI HOS
  obtain ⟨wr, hwr⟩ : ∃ wr : World, wr = w7.alloc (.cells #[.int .i64 ga, .int .i64 gb, .int .i64 gd] 53) := ⟨_, rfl⟩
  have hbr : Below w7.heap.size w7 wr := by rw [hwr]; exact below_alloc1 _ _
  have HBR : Hid (Below (w.heap.size + 0) w wr) := Lib.hid (HB.out.trans (hbr.mono (by omega)))
  have HCR := Lib.hid (HC0.out.same (Same.of_below hbr (by omega)))
  have q0 := later (HQQ.out.trans (hbr.mono (by omega))) (Nat.le_refl _) Q0.out
  have q1 := later (HQQ.out.trans (hbr.mono (by omega))) (Nat.le_refl _) Q1.out
  have q2 := later (HQQ.out.trans (hbr.mono (by omega))) (Nat.le_refl _) Q2.out
  have r0 : wr.cell? ⟨w7.heap.size, 0, none⟩ = some (.int .i64 ga) := by rw [hwr]; simp
  have r1 : wr.cell? ⟨w7.heap.size, 1, none⟩ = some (.int .i64 gb) := by rw [hwr]; simp
  have r2 : wr.cell? ⟨w7.heap.size, 2, none⟩ = some (.int .i64 gd) := by rw [hwr]; simp
  have hsr : w7.heap.size ≤ wr.heap.size := hbr.size
  have hcode1 : (gI1 != gI1) = false := by simp
  go_upto_region 8 with fail
  rw [← hwr]
  clear hwr hbr HB HC0
  have HB := HBR
  have HC0 := HCR
  clear HBR HCR
  have HEQ := Lib.hid (eqBar_any (ga, gb, gd) wr)
  unfold bvl at HEQ
  dsimp only at HEQ
  go_wp2_with fail
  refine HEQ.out.mono ?_
  rintro ee w8 ⟨rfl, hb⟩
  have hs8 : wr.heap.size ≤ w8.heap.size := hb.size
  have HB' := Lib.hid (HB.out.trans (hb.mono (by omega)))
  have HC0' := Lib.hid (HC0.out.same (Same.of_below hb (by omega)))
  clear hb HB HC0 q0 q1 q2 r0 r1 r2 HEQ
  have HB := HB'
  have HC0 := HC0'
  clear HB' HC0'
  go_wp2_with fail
  refine (toB_any _ fs0 _ (HN0.out _ HB.out) HMS0.out).mono ?_
  rintro ee w9 ⟨v9, rfl, hc, hb⟩
  have hs90 : w8.heap.size ≤ w9.heap.size := hb.size
  have HB' := Lib.hid (HB.out.trans (hb.mono (by omega)))
  have HC0' := Lib.hid (HC0.out.same (Same.of_below hb (by omega)))
  clear hb HB HC0
  have HB := HB'
  have HC0 := HC0'
  clear HB' HC0'
  have HV9 := Lib.hid (hc.lower (Nat.zero_le _))
  clear hc
  obtain ⟨a9, c9, e9⟩ := Br.shape HV9.out
  subst e9
  go_wp2_with fail
  refine (eqB_true _ _ fs0 _ (HC0.out.br.lower (Nat.zero_le _)) HV9.out HMS0.out).mono ?_
  rintro ee wA0 ⟨rfl, hb⟩
  have hsa0 : w9.heap.size ≤ wA0.heap.size := hb.size
  clear HV9
  have HB' := Lib.hid (HB.out.trans (hb.mono (by omega)))
  have HC0' := Lib.hid (HC0.out.same (Same.of_below hb (by omega)))
  clear hb HB HC0
  have HB := HB'
  have HC0 := HC0'
  clear HB' HC0'
  have hsq0 : w8.heap.size ≤ wA0.heap.size := by omega
  obtain ⟨w9k, hw9k⟩ : ∃ w9k, w9k = w9 := ⟨_, rfl⟩
  clear hw9k w9k
  go_wp2
  go_ret
  exact ⟨rfl, HNW.out _ HB.out⟩
end Go.Proofs.Ytchijefibiaphaa
