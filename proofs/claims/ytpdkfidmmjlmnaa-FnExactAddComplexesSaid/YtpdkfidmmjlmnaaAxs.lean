/-
  AddComplexes of the model.
-/
import Derived.Test.YtpdkfidmmjlmnaaAxw
import Derived.Test.YtpdkfidmmjlmnaaGwc
import Derived.Test.YtpdkfidmmjlmnaaMpo
import Derived.Test.YtpdkfidmmjlmnaaBlk
namespace Go.Proofs.Ytpdkfidmmjlmnaa
open Go.RowKit

set_option maxHeartbeats 25600000 in
set_option maxRecDepth 100000 in
theorem spAddComplexes_any (p p2 : Int) (dv mv dv2 mv2 : Value) (ds : List Int) (ms : List (List (List Int))) (ds2 : List Int) (ms2 : List (List (List Int))) (w : World) (h : Cx 0 w dv mv ds ms) (h2 : Cx 0 w dv2 mv2 ds2 ms2) (hd : ds.length ≤ 1048576) (hm : Bd3 1048576 ms) (hd2 : ds2.length ≤ 1048576) (hm2 : Bd3 1048576 ms2) :
    Calls Try.prog 56 #[.agg #[.int .i64 p, dv, mv], .agg #[.int .i64 p2, dv2, mv2]] w (AnsS (GwC 0) (fun o => o = axOut p ds ms p2 ds2 ms2) (0, [], []) (axCode p ds ms p2 ds2 ms2) w) := by
  have hres : Try.f56.results = #[.cell 4 28, .tmp 5] := by kernel_rfl
  have HRES := Lib.hid hres
  have HM := Lib.hid hm
  have HM2 := Lib.hid hm2
  obtain ⟨wa, hwa⟩ : ∃ wa, wa = (w.alloc (.cells #[.int .i64 p, dv, mv] 28)).alloc (.cells #[.int .i64 p2, dv2, mv2] 28) := ⟨_, rfl⟩
  obtain ⟨w1, hw1⟩ : ∃ w1, w1 = wa.alloc (.cells #[.int .i64 0, .slice none 0 0, .slice none 0 0] 28) := ⟨_, rfl⟩
  have hsa : wa.heap.size = w.heap.size + 2 := by rw [hwa]; simp
  have hs1 : w.heap.size + 3 ≤ w1.heap.size := by rw [hw1]; simp [hsa]
  have hlt0 : w.heap.size < w1.heap.size := by omega
  have hlt1 : w.heap.size + 1 < w1.heap.size := by omega
  have hlt2 : w.heap.size + 2 < w1.heap.size := by omega
  have HX : Hid (Bx w w1 w.heap.size p dv mv ds ms) := Lib.hid (by rw [hw1]; exact (show Bx w wa w.heap.size p dv mv ds ms by rw [hwa]; exact (bx_two 28 h h2).1).next (below_alloc1 _ _))
  have HY : Hid (Bx w w1 (w.heap.size + 1) p2 dv2 mv2 ds2 ms2) := Lib.hid (by rw [hw1]; exact (show Bx w wa (w.heap.size + 1) p2 dv2 mv2 ds2 ms2 by rw [hwa]; exact (bx_two 28 h h2).2).next (below_alloc1 _ _))
  have HR0 : Hid (Rz w1 (w.heap.size + 2) 28 #[.int .i64 0, .slice none 0 0, .slice none 0 0]) := Lib.hid (by rw [hw1, ← hsa]; exact Rz.new _ _ _)
  obtain ⟨ad, cap, rfl⟩ := Sl.shape h.dims
  obtain ⟨am, capm, rfl⟩ := Sl.shape h.maps
  obtain ⟨ad2, cap2, rfl⟩ := Sl.shape h2.dims
  obtain ⟨am2, capm2, rfl⟩ := Sl.shape h2.maps
  have HNX : Hid (∀ W, Below w1.heap.size w1 W → Bx w W w.heap.size p (.slice ad ds.length cap) (.slice am ms.length capm) ds ms ∧ Bx w W (w.heap.size + 1) p2 (.slice ad2 ds2.length cap2) (.slice am2 ms2.length capm2) ds2 ms2 ∧ Rz W (w.heap.size + 2) 28 #[.int .i64 0, .slice none 0 0, .slice none 0 0]) := Lib.hid (fun W hb => ⟨HX.out.next hb, HY.out.next hb, HR0.out.next hb⟩)
  have HB0 : Hid (Below w1.heap.size w1 w1) := Lib.hid (Below.refl _ _)
  clear h h2 hm hm2 hres
  have c0 := HX.out.c0
  have c1 := HX.out.c1
  have c2 := HX.out.c2
  have yc0 := HY.out.c0
  have yc1 := HY.out.c1
  have yc2 := HY.out.c2
  clear HX HY HR0
  go_enter Try.func56, Try.ntmps56
  go_upto_region 1 with fail
  rw [← hwa, ← hw1]
  clear hwa hw1 hsa
  by_cases hc : ¬ IsCx p ds ms
  · have HC := Lib.hid hc
    have HCODE : Hid (axCode p ds ms p2 ds2 ms2 = 1) := Lib.hid (by unfold axCode; rw [if_pos (fun k => hc k.1)])
    clear hc
    go_wp2_with fail
    refine (l01Is_any p _ _ ds ms _ (HNX.out _ HB0.out).1.cx hd HM.out).mono ?_
    rintro ee wA ⟨b, rfl, hb, hbb⟩
    obtain rfl : b = false := bb_no hbb HC.out
    clear hbb
    have HBA := Lib.hid (HB0.out.trans (hb.mono HB0.out.size))
    clear c0 c1 c2 yc0 yc1 yc2
    clear hb
    have c0 := (HNX.out _ HBA.out).1.c0
    have c1 := (HNX.out _ HBA.out).1.c1
    have c2 := (HNX.out _ HBA.out).1.c2
    have yc0 := (HNX.out _ HBA.out).2.1.c0
    have yc1 := (HNX.out _ HBA.out).2.1.c1
    have yc2 := (HNX.out _ HBA.out).2.1.c2
    have HR1 : ∃ x0 x1 x2, wA.heap[w.heap.size + 2]? = some (.cells #[x0, x1, x2] 28) := ⟨_, _, _, (HNX.out _ HBA.out).2.2⟩
    obtain ⟨x0, x1, x2, hr⟩ := HR1
    have r0 : wA.rowIs (w.heap.size + 2) 28 3 (sel3 x0 x1 x2) := rowIs3 hr
    have q0 : wA.cell? ⟨w.heap.size + 2, 0, none⟩ = some x0 := r0.cell (i := 0) (by omega)
    have z0 : wA.frozen? ⟨w.heap.size + 2, 0, none⟩ = false := r0.frozen 0
    have r1 := r0.set 0 (.int .i64 0)
    have q1 : (wA.setCell ⟨w.heap.size + 2, 0, none⟩ (.int .i64 0)).cell? ⟨w.heap.size + 2, 1, none⟩ = some x1 := r1.cell (i := 1) (by omega)
    have z1 : (wA.setCell ⟨w.heap.size + 2, 0, none⟩ (.int .i64 0)).frozen? ⟨w.heap.size + 2, 1, none⟩ = false := r1.frozen 1
    have r2 := r1.set 1 (.slice none 0 0)
    have q2 : ((wA.setCell ⟨w.heap.size + 2, 0, none⟩ (.int .i64 0)).setCell ⟨w.heap.size + 2, 1, none⟩ (.slice none 0 0)).cell? ⟨w.heap.size + 2, 2, none⟩ = some x2 := r2.cell (i := 2) (by omega)
    have z2 : ((wA.setCell ⟨w.heap.size + 2, 0, none⟩ (.int .i64 0)).setCell ⟨w.heap.size + 2, 1, none⟩ (.slice none 0 0)).frozen? ⟨w.heap.size + 2, 2, none⟩ = false := r2.frozen 2
    have r3 := r2.set 2 (.slice none 0 0)
    obtain ⟨WF, hWF⟩ : ∃ W : World, W = (((wA.setCell ⟨w.heap.size + 2, 0, none⟩ (.int .i64 0)).setCell ⟨w.heap.size + 2, 1, none⟩ (.slice none 0 0)).setCell ⟨w.heap.size + 2, 2, none⟩ (.slice none 0 0)) := ⟨_, rfl⟩
    have hbWF : ∀ B (w0 : World), B ≤ w.heap.size + 2 → Below B w0 wA → Below B w0 WF := fun B w0 hl hb => by rw [hWF]; exact (((hb.setCell (by show B ≤ w.heap.size + 2; exact hl) _).setCell (by show B ≤ w.heap.size + 2; exact hl) _).setCell (by show B ≤ w.heap.size + 2; exact hl) _)
    have hsWF : ∀ lo hi, w.heap.size + 2 < lo ∨ hi ≤ w.heap.size + 2 → Same lo hi wA WF := fun lo hi hl => by rw [hWF]; exact (((Same.set _ hl).trans (Same.set _ hl)).trans (Same.set _ hl))
    have hzWF : WF.heap.size = wA.heap.size := by rw [hWF]; simp
    rw [← hWF] at r3
    have f0 : WF.cell? ⟨w.heap.size + 2, 0, none⟩ = some (.int .i64 0) := r3.cell (i := 0) (by omega)
    have f1 : WF.cell? ⟨w.heap.size + 2, 1, none⟩ = some (.slice none 0 0) := r3.cell (i := 1) (by omega)
    have f2 : WF.cell? ⟨w.heap.size + 2, 2, none⟩ = some (.slice none 0 0) := r3.cell (i := 2) (by omega)
    have HWWF := Lib.hid hWF
    clear hr r0 r1 r2 r3 hWF
    have HBF := Lib.hid (hbWF w.heap.size w (by omega) (HNX.out _ HBA.out).1.below)
    clear hsWF hbWF hzWF
    go_wp2
    rw [← HWWF.out]
    refine bodyPost_ret (v := .tuple #[.agg #[.int .i64 0, .slice none 0 0, .slice none 0 0], .int .i64 1]) ?_ rfl ?_
    · simp only [results, HRES.out]
      go_simp
    · exact ⟨_, (0, [], []), 1, rfl, GwC.nil _ _, HBF.out, by rw [HCODE.out]; exact RsOut.of_no (by decide)⟩
  have HC := Lib.hid (Classical.not_not.1 hc)
  clear hc
  go_wp2_with fail
  refine (l01Is_any p _ _ ds ms _ (HNX.out _ HB0.out).1.cx hd HM.out).mono ?_
  rintro ee wA ⟨b, rfl, hb, hbb⟩
  obtain rfl : b = true := hbb.2 HC.out
  clear hbb
  have HBA := Lib.hid (HB0.out.trans (hb.mono HB0.out.size))
  clear c0 c1 c2 yc0 yc1 yc2
  clear hb
  have c0 := (HNX.out _ HBA.out).1.c0
  have c1 := (HNX.out _ HBA.out).1.c1
  have c2 := (HNX.out _ HBA.out).1.c2
  have yc0 := (HNX.out _ HBA.out).2.1.c0
  have yc1 := (HNX.out _ HBA.out).2.1.c1
  have yc2 := (HNX.out _ HBA.out).2.1.c2
  by_cases hc : ¬ IsCx p2 ds2 ms2
  · have HC2 := Lib.hid hc
    have HCODE : Hid (axCode p ds ms p2 ds2 ms2 = 1) := Lib.hid (by unfold axCode; rw [if_pos (fun k => hc k.2)])
    clear hc
    go_wp2_with fail
    refine (l01Is_any p2 _ _ ds2 ms2 _ (HNX.out _ HBA.out).2.1.cx hd2 HM2.out).mono ?_
    rintro ee wB ⟨b, rfl, hb, hbb⟩
    obtain rfl : b = false := bb_no hbb HC2.out
    clear hbb
    have HBB := Lib.hid (HBA.out.trans (hb.mono HBA.out.size))
    clear c0 c1 c2 yc0 yc1 yc2
    clear hb
    have c0 := (HNX.out _ HBB.out).1.c0
    have c1 := (HNX.out _ HBB.out).1.c1
    have c2 := (HNX.out _ HBB.out).1.c2
    have yc0 := (HNX.out _ HBB.out).2.1.c0
    have yc1 := (HNX.out _ HBB.out).2.1.c1
    have yc2 := (HNX.out _ HBB.out).2.1.c2
    have HR1 : ∃ x0 x1 x2, wB.heap[w.heap.size + 2]? = some (.cells #[x0, x1, x2] 28) := ⟨_, _, _, (HNX.out _ HBB.out).2.2⟩
    obtain ⟨x0, x1, x2, hr⟩ := HR1
    have r0 : wB.rowIs (w.heap.size + 2) 28 3 (sel3 x0 x1 x2) := rowIs3 hr
    have q0 : wB.cell? ⟨w.heap.size + 2, 0, none⟩ = some x0 := r0.cell (i := 0) (by omega)
    have z0 : wB.frozen? ⟨w.heap.size + 2, 0, none⟩ = false := r0.frozen 0
    have r1 := r0.set 0 (.int .i64 0)
    have q1 : (wB.setCell ⟨w.heap.size + 2, 0, none⟩ (.int .i64 0)).cell? ⟨w.heap.size + 2, 1, none⟩ = some x1 := r1.cell (i := 1) (by omega)
    have z1 : (wB.setCell ⟨w.heap.size + 2, 0, none⟩ (.int .i64 0)).frozen? ⟨w.heap.size + 2, 1, none⟩ = false := r1.frozen 1
    have r2 := r1.set 1 (.slice none 0 0)
    have q2 : ((wB.setCell ⟨w.heap.size + 2, 0, none⟩ (.int .i64 0)).setCell ⟨w.heap.size + 2, 1, none⟩ (.slice none 0 0)).cell? ⟨w.heap.size + 2, 2, none⟩ = some x2 := r2.cell (i := 2) (by omega)
    have z2 : ((wB.setCell ⟨w.heap.size + 2, 0, none⟩ (.int .i64 0)).setCell ⟨w.heap.size + 2, 1, none⟩ (.slice none 0 0)).frozen? ⟨w.heap.size + 2, 2, none⟩ = false := r2.frozen 2
    have r3 := r2.set 2 (.slice none 0 0)
    obtain ⟨WF, hWF⟩ : ∃ W : World, W = (((wB.setCell ⟨w.heap.size + 2, 0, none⟩ (.int .i64 0)).setCell ⟨w.heap.size + 2, 1, none⟩ (.slice none 0 0)).setCell ⟨w.heap.size + 2, 2, none⟩ (.slice none 0 0)) := ⟨_, rfl⟩
    have hbWF : ∀ B (w0 : World), B ≤ w.heap.size + 2 → Below B w0 wB → Below B w0 WF := fun B w0 hl hb => by rw [hWF]; exact (((hb.setCell (by show B ≤ w.heap.size + 2; exact hl) _).setCell (by show B ≤ w.heap.size + 2; exact hl) _).setCell (by show B ≤ w.heap.size + 2; exact hl) _)
    have hsWF : ∀ lo hi, w.heap.size + 2 < lo ∨ hi ≤ w.heap.size + 2 → Same lo hi wB WF := fun lo hi hl => by rw [hWF]; exact (((Same.set _ hl).trans (Same.set _ hl)).trans (Same.set _ hl))
    have hzWF : WF.heap.size = wB.heap.size := by rw [hWF]; simp
    rw [← hWF] at r3
    have f0 : WF.cell? ⟨w.heap.size + 2, 0, none⟩ = some (.int .i64 0) := r3.cell (i := 0) (by omega)
    have f1 : WF.cell? ⟨w.heap.size + 2, 1, none⟩ = some (.slice none 0 0) := r3.cell (i := 1) (by omega)
    have f2 : WF.cell? ⟨w.heap.size + 2, 2, none⟩ = some (.slice none 0 0) := r3.cell (i := 2) (by omega)
    have HWWF := Lib.hid hWF
    clear hr r0 r1 r2 r3 hWF
    have HBF := Lib.hid (hbWF w.heap.size w (by omega) (HNX.out _ HBB.out).1.below)
    clear hsWF hbWF hzWF
    go_wp2
    rw [← HWWF.out]
    refine bodyPost_ret (v := .tuple #[.agg #[.int .i64 0, .slice none 0 0, .slice none 0 0], .int .i64 1]) ?_ rfl ?_
    · simp only [results, HRES.out]
      go_simp
    · exact ⟨_, (0, [], []), 1, rfl, GwC.nil _ _, HBF.out, by rw [HCODE.out]; exact RsOut.of_no (by decide)⟩
  have HC2 := Lib.hid (Classical.not_not.1 hc)
  clear hc
  go_wp2_with fail
  refine (l01Is_any p2 _ _ ds2 ms2 _ (HNX.out _ HBA.out).2.1.cx hd2 HM2.out).mono ?_
  rintro ee wB ⟨b, rfl, hb, hbb⟩
  obtain rfl : b = true := hbb.2 HC2.out
  clear hbb
  have HBB := Lib.hid (HBA.out.trans (hb.mono HBA.out.size))
  clear c0 c1 c2 yc0 yc1 yc2
  clear hb
  have c0 := (HNX.out _ HBB.out).1.c0
  have c1 := (HNX.out _ HBB.out).1.c1
  have c2 := (HNX.out _ HBB.out).1.c2
  have yc0 := (HNX.out _ HBB.out).2.1.c0
  have yc1 := (HNX.out _ HBB.out).2.1.c1
  have yc2 := (HNX.out _ HBB.out).2.1.c2
  by_cases hpp : ¬ p = p2
  · have hne1 : (p != p2) = true := by simp [hpp]
    have hne2 : (p == p2) = false := by simp [hpp]
    have HCODE : Hid (axCode p ds ms p2 ds2 ms2 = 2) := Lib.hid (by unfold axCode; rw [if_neg (fun k => k ⟨HC.out, HC2.out⟩), if_pos hpp])
    have HR1 : ∃ x0 x1 x2, wB.heap[w.heap.size + 2]? = some (.cells #[x0, x1, x2] 28) := ⟨_, _, _, (HNX.out _ HBB.out).2.2⟩
    obtain ⟨x0, x1, x2, hr⟩ := HR1
    have r0 : wB.rowIs (w.heap.size + 2) 28 3 (sel3 x0 x1 x2) := rowIs3 hr
    have q0 : wB.cell? ⟨w.heap.size + 2, 0, none⟩ = some x0 := r0.cell (i := 0) (by omega)
    have z0 : wB.frozen? ⟨w.heap.size + 2, 0, none⟩ = false := r0.frozen 0
    have r1 := r0.set 0 (.int .i64 0)
    have q1 : (wB.setCell ⟨w.heap.size + 2, 0, none⟩ (.int .i64 0)).cell? ⟨w.heap.size + 2, 1, none⟩ = some x1 := r1.cell (i := 1) (by omega)
    have z1 : (wB.setCell ⟨w.heap.size + 2, 0, none⟩ (.int .i64 0)).frozen? ⟨w.heap.size + 2, 1, none⟩ = false := r1.frozen 1
    have r2 := r1.set 1 (.slice none 0 0)
    have q2 : ((wB.setCell ⟨w.heap.size + 2, 0, none⟩ (.int .i64 0)).setCell ⟨w.heap.size + 2, 1, none⟩ (.slice none 0 0)).cell? ⟨w.heap.size + 2, 2, none⟩ = some x2 := r2.cell (i := 2) (by omega)
    have z2 : ((wB.setCell ⟨w.heap.size + 2, 0, none⟩ (.int .i64 0)).setCell ⟨w.heap.size + 2, 1, none⟩ (.slice none 0 0)).frozen? ⟨w.heap.size + 2, 2, none⟩ = false := r2.frozen 2
    have r3 := r2.set 2 (.slice none 0 0)
    obtain ⟨WF, hWF⟩ : ∃ W : World, W = (((wB.setCell ⟨w.heap.size + 2, 0, none⟩ (.int .i64 0)).setCell ⟨w.heap.size + 2, 1, none⟩ (.slice none 0 0)).setCell ⟨w.heap.size + 2, 2, none⟩ (.slice none 0 0)) := ⟨_, rfl⟩
    have hbWF : ∀ B (w0 : World), B ≤ w.heap.size + 2 → Below B w0 wB → Below B w0 WF := fun B w0 hl hb => by rw [hWF]; exact (((hb.setCell (by show B ≤ w.heap.size + 2; exact hl) _).setCell (by show B ≤ w.heap.size + 2; exact hl) _).setCell (by show B ≤ w.heap.size + 2; exact hl) _)
    have hsWF : ∀ lo hi, w.heap.size + 2 < lo ∨ hi ≤ w.heap.size + 2 → Same lo hi wB WF := fun lo hi hl => by rw [hWF]; exact (((Same.set _ hl).trans (Same.set _ hl)).trans (Same.set _ hl))
    have hzWF : WF.heap.size = wB.heap.size := by rw [hWF]; simp
    rw [← hWF] at r3
    have f0 : WF.cell? ⟨w.heap.size + 2, 0, none⟩ = some (.int .i64 0) := r3.cell (i := 0) (by omega)
    have f1 : WF.cell? ⟨w.heap.size + 2, 1, none⟩ = some (.slice none 0 0) := r3.cell (i := 1) (by omega)
    have f2 : WF.cell? ⟨w.heap.size + 2, 2, none⟩ = some (.slice none 0 0) := r3.cell (i := 2) (by omega)
    have HWWF := Lib.hid hWF
    clear hr r0 r1 r2 r3 hWF
    have HBF := Lib.hid (hbWF w.heap.size w (by omega) (HNX.out _ HBB.out).1.below)
    clear hsWF hbWF hzWF
    go_wp2
    rw [← HWWF.out]
    refine bodyPost_ret (v := .tuple #[.agg #[.int .i64 0, .slice none 0 0, .slice none 0 0], .int .i64 2]) ?_ rfl ?_
    · simp only [results, HRES.out]
      go_simp
    · exact ⟨_, (0, [], []), 2, rfl, GwC.nil _ _, HBF.out, by rw [HCODE.out]; exact RsOut.of_no (by decide)⟩
  have hpp2 := Classical.not_not.1 hpp
  clear hpp
  subst hpp2
  have hne1 : (p != p) = false := by simp
  have hne2 : (p == p) = true := by simp
  have hl1 := HC.out.1.len1
  have hl2 := HC.out.1.mlen
  have hl3 := HC2.out.1.len1
  have hl4 := HC2.out.1.mlen
  obtain ⟨t, ht⟩ : ∃ t, t = axT ms ms2 := ⟨_, rfl⟩
  obtain ⟨n, hn⟩ : ∃ n, n = t + 1 := ⟨_, rfl⟩
  have ht8 : t ≤ 8 := by rw [ht]; unfold axT; split <;> omega
  have HT := Lib.hid ht
  have HN := Lib.hid hn
  have hn9 : n ≤ 9 := by omega
  have htn : t < n := by omega
  have hmx : max (ds.length : Int) (ds2.length : Int) = (n : Int) := by have h0 := ax_max ms ms2 (n := ds.length) (n2 := ds2.length) (by omega) (by omega); rw [← ht] at h0; omega
  have HMX := Lib.hid hmx
  clear hmx ht hn
  have HNB : Hid (∀ W, Below wB.heap.size wB W → Bx w W w.heap.size p (.slice ad ds.length cap) (.slice am ms.length capm) ds ms ∧ Bx w W (w.heap.size + 1) p (.slice ad2 ds2.length cap2) (.slice am2 ms2.length capm2) ds2 ms2 ∧ Rz W (w.heap.size + 2) 28 #[.int .i64 0, .slice none 0 0, .slice none 0 0]) := Lib.hid (fun W hb => HNX.out _ (HBB.out.trans (hb.mono HBB.out.size)))
  have hsB : w1.heap.size ≤ wB.heap.size := HBB.out.size
  obtain ⟨wp, hwp⟩ : ∃ wp, wp = wB.alloc (.cells #[] 2) := ⟨_, rfl⟩
  obtain ⟨wq, hwq⟩ : ∃ wq, wq = wp.alloc (.cells #[] 41) := ⟨_, rfl⟩
  have hsp : wp.heap.size = wB.heap.size + 1 := by rw [hwp]; simp
  have hsq : wq.heap.size = wB.heap.size + 2 := by rw [hwq]; simp [hsp]
  obtain ⟨wo, hwo⟩ : ∃ wo, wo = wq.alloc (.cells #[.int .i64 p, .slice (some ⟨wB.heap.size, 0, none⟩) 0 0, .slice (some ⟨wB.heap.size + 1, 0, none⟩) 0 0] 28) := ⟨_, rfl⟩
  have HS0 : Hid (Sdo wB wo (wB.heap.size + 1 + 1) p (.slice (some ⟨wB.heap.size, 0, none⟩) 0 0) (.slice (some ⟨wB.heap.size + 1, 0, none⟩) 0 0) [] []) := Lib.hid (by
    have b1 : Below wB.heap.size wB wp := by rw [hwp]; exact below_alloc1 _ _
    have b2 : Below wp.heap.size wp wq := by rw [hwq]; exact below_alloc1 _ _
    have b3 : Below wq.heap.size wq wo := by rw [hwo]; exact below_alloc1 _ _
    have g1 : Gb wB.heap.size wp (.slice (some ⟨wB.heap.size, 0, none⟩) 0 0) [] := by rw [hwp]; exact Gb.new wB (Nat.le_refl _)
    have g2 : Gt wB.heap.size wq (.slice (some ⟨wB.heap.size + 1, 0, none⟩) 0 0) [] := by
      have := Gt.new (base := wB.heap.size) wp (by omega)
      rw [hsp] at this
      rw [hwq]
      exact this
    refine Sdo.start ⟨(b1.trans (b2.mono (by omega))).trans (b3.mono (by omega)), by omega, ?_, (g1.below b2).below b3, g2.below b3⟩
    refine rowIs3 ?_
    have := heap_alloc_new wq (.cells #[.int .i64 p, .slice (some ⟨wB.heap.size, 0, none⟩) 0 0, .slice (some ⟨wB.heap.size + 1, 0, none⟩) 0 0] 28)
    rw [← hwo, hsq] at this
    exact this)
  obtain ⟨g, hg⟩ : ∃ g, g = wB.heap.size + 1 + 1 := ⟨_, rfl⟩
  go_upto_region 6 with fail
  rw [← hwp, ← hwq, ← hwo]
  rw [← hg]
  rw [← hg] at HS0
  clear hwp hwq hwo hsp hsq hg
  clear c0 c1 c2 yc0 yc1 yc2
  go_wp2
  go_loopw [7] (fun i wr => ∃ (k q : Nat) (a1 a2 : Option Addr) (c1 c2 : Nat), k ≤ n ∧ i = .int .i64 k ∧ Hid (q = k - 1) ∧ Hid (Sdo wB wr g p (.slice a1 k c1) (.slice a2 q c2) ((axD ds ms ds2 ms2).take k) ((axM ds ms ds2 ms2).take q)) ∧ Hid (∀ j, j < k → axd ds ds2 j ≤ 8)) (fun i _ => n - (intOf i).toNat)
  case atStart => exact ⟨0, 0, _, _, _, _, Nat.zero_le _, rfl, Lib.hid rfl, by simpa using HS0, Lib.hid (fun j hj => absurd hj (Nat.not_lt_zero _))⟩
  case round =>
    clear HS0
    obtain ⟨k, q, a1, a2, cc1, cc2, hk, rfl, HQ, HS, HFT⟩ := hrel
    obtain ⟨wx, hwx⟩ : ∃ wx : World, wx = wr := ⟨_, rfl⟩
    subst hwx
    have HNW : Hid (∀ W, Below wx.heap.size wx W → Bx w W w.heap.size p (.slice ad ds.length cap) (.slice am ms.length capm) ds ms ∧ Bx w W (w.heap.size + 1) p (.slice ad2 ds2.length cap2) (.slice am2 ms2.length capm2) ds2 ms2 ∧ Rz W (w.heap.size + 2) 28 #[.int .i64 0, .slice none 0 0, .slice none 0 0]) := Lib.hid (fun W hb => HNB.out _ (HS.out.below.trans (hb.mono HS.out.below.size)))
    have hgB := HS.out.lo
    have hsx : wB.heap.size ≤ wx.heap.size := HS.out.below.size
    have c1 := (HNW.out _ (Below.refl _ _)).1.c1
    have yc1 := (HNW.out _ (Below.refl _ _)).2.1.c1
    have hmx := HMX.out
    by_cases hlt : k < n
    · have hlk : (k : Int) < (n : Int) := by omega
      have hk0 : (0 : Int) ≤ (k : Int) := by omega
      obtain ⟨x, hx⟩ : ∃ x, x = ds.getD k 0 := ⟨_, rfl⟩
      obtain ⟨y, hy⟩ : ∃ y, y = ds2.getD k 0 := ⟨_, rfl⟩
      have hxb := HC.out.1.dim k
      have hyb := HC2.out.1.dim k
      rw [← hx] at hxb
      rw [← hy] at hyb
      obtain ⟨s, hs⟩ : ∃ s, s = x + y := ⟨_, rfl⟩
      have hws : Hid (IntKind.i64.wrap (x + y) = s) := Lib.hid (by rw [← hs]; exact IntWalk.i64_in _ (by omega))
      have HSX : Hid (s = axd ds ds2 k) := Lib.hid (by rw [hs, hx, hy]; rfl)
      have HXV := Lib.hid hx
      have HYV := Lib.hid hy
      have HK1 : Hid (∀ W, Below wx.heap.size wx W → Calls Try.prog 91 #[.agg #[.int .i64 p, .slice ad ds.length cap, .slice am ms.length capm], .int .i64 (k : Int)] W (BR (.int .i64 x) W)) := Lib.hid (fun W hb => by have h0 := l01Dim_any p k _ _ ds ms W (HNW.out W hb).1.cx hd; rw [dimZ_nat, ← hx] at h0; exact h0)
      have HK2 : Hid (∀ W, Below wx.heap.size wx W → Calls Try.prog 91 #[.agg #[.int .i64 p, .slice ad2 ds2.length cap2, .slice am2 ms2.length capm2], .int .i64 (k : Int)] W (BR (.int .i64 y) W)) := Lib.hid (fun W hb => by have h0 := l01Dim_any p k _ _ ds2 ms2 W (HNW.out W hb).2.1.cx hd2; rw [dimZ_nat, ← hy] at h0; exact h0)
      have hsx2 : s ≤ 16 := by omega
      clear hs hx hy
      go_upto_region 9 with fail
      clear c1 yc1 hmx
      go_wp2
      refine wp_region_held (S := fun W => Below (wx.heap.size) wx W) (by kernel_rfl) ?_
      have S0 : Below (wx.heap.size) wx wx.drew := (Below.refl _ _).drew
      have hB0 : wx.heap.size ≤ wx.heap.size := Nat.le_refl _
      have hsd : wx.heap.size ≤ wx.drew.heap.size := Nat.le_refl _
      have hbd : Below wx.heap.size wx wx.drew := (Below.refl _ _).drew
      change wpAnyH _ _ _ _ _ _ _ _ wx.drew
      obtain ⟨wd, hwd⟩ : ∃ wd, wd = wx.drew := ⟨_, rfl⟩
      rw [← hwd] at S0 hsd hbd ⊢
      clear hwd
      refine held_take (i := 0) (v := .agg #[.int .i64 p, .slice ad ds.length cap, .slice am ms.length capm]) (some 47) rfl rfl (by kernel_rfl) (by kernel_rfl) (by kernel_rfl) (fun _ _ _ h => h) (yieldsIf_cell (by kernel_rfl) rfl (by kernel_rfl) (fun W h => hload3x (HNW.out W h).1)) S0 ?_
      refine held_take (i := 1) (v := .int .i64 (k : Int)) (some 48) rfl rfl (by kernel_rfl) (by kernel_rfl) (by kernel_rfl) (fun _ _ _ h => h) (yieldsIf_move (by kernel_rfl) rfl (by kernel_rfl)) S0 ?_
      refine held_take (i := 3) (v := .agg #[.int .i64 p, .slice ad2 ds2.length cap2, .slice am2 ms2.length capm2]) (some 50) rfl rfl (by kernel_rfl) (by kernel_rfl) (by kernel_rfl) (fun _ _ _ h => h) (yieldsIf_cell (by kernel_rfl) rfl (by kernel_rfl) (fun W h => hload3x (HNW.out W h).2.1)) S0 ?_
      refine held_take (i := 4) (v := .int .i64 (k : Int)) (some 51) rfl rfl (by kernel_rfl) (by kernel_rfl) (by kernel_rfl) (fun _ _ _ h => h) (yieldsIf_move (by kernel_rfl) rfl (by kernel_rfl)) S0 ?_
      refine held_one (i := 2) (by kernel_rfl) ?_
      · refine op_enter (i := 2) (some 49) (f := 91) (args := #[.agg #[.int .i64 p, .slice ad ds.length cap, .slice am ms.length capm], .int .i64 (k : Int)]) rfl rfl rfl (by kernel_rfl) (HK1.out wd S0) ?_ (fun c w' h => by cases h.1) (fun w' h => by cases h.1)
        rintro ee W1 ⟨he, hb1⟩
        injection he with he
        subst he
        have S1 : Below (wx.heap.size) wx W1 := S0.trans (hb1.mono (Nat.le_trans hB0 S0.size))
        refine ⟨S1, ?_⟩
        refine held_one (i := 5) (by kernel_rfl) ?_
        · refine op_enter (i := 5) (some 52) (f := 91) (args := #[.agg #[.int .i64 p, .slice ad2 ds2.length cap2, .slice am2 ms2.length capm2], .int .i64 (k : Int)]) rfl rfl rfl (by kernel_rfl) (HK2.out W1 S1) ?_ (fun c w' h => by cases h.1) (fun w' h => by cases h.1)
          rintro ee W2 ⟨he, hb2⟩
          injection he with he
          subst he
          have S2 : Below (wx.heap.size) wx W2 := S1.trans (hb2.mono (Nat.le_trans hB0 S1.size))
          refine ⟨S2, ?_⟩
          refine held_take (i := 6) (v := .int .i64 s) (some 53) rfl rfl (by kernel_rfl) (by kernel_rfl) (by kernel_rfl) (fun _ _ _ h => h) (yieldsIf_bin (by kernel_rfl) rfl (by kernel_rfl) (by kernel_rfl) (fun _ => rfl) (haddA hws.out)) S2 ?_
          refine held_take (i := 7) (v := .int .i64 s) (some 8) rfl rfl (by kernel_rfl) (by kernel_rfl) (by kernel_rfl) (fun _ _ _ h => h) (yieldsIf_assign (by kernel_rfl) rfl (by kernel_rfl)) S2 ?_
          refine wpAnyH_done (by kernel_rfl) ?_ _
          simp only [Act.put, List.setIfInBounds_toArray, List.set_cons_zero, List.set_cons_succ]
          obtain ⟨wy, hwy⟩ : ∃ wy : World, wy = W2 := ⟨_, rfl⟩
          subst hwy
          have SY := S2
          have HSY := Lib.hid (HS.out.next SY)
          have hsy : wx.heap.size ≤ wy.heap.size := SY.size
          have HSYB := Lib.hid SY
          have g1 : wy.cell? ⟨g, 1, none⟩ = some (.slice a1 k cc1) := HSY.out.box.cell (i := 1) (by omega)
          by_cases hgt : 8 < s
          · have HCODE : Hid (axCode p ds ms p ds2 ms2 = 3) := Lib.hid (by unfold axCode; rw [if_neg (fun k => k ⟨HC.out, HC2.out⟩), if_neg (fun k => k rfl), if_pos ⟨k, by have := HT.out; have := HN.out; omega, by rw [← HSX.out]; exact hgt⟩])
            have HR1 : ∃ x0 x1 x2, wy.heap[w.heap.size + 2]? = some (.cells #[x0, x1, x2] 28) := ⟨_, _, _, (HNW.out _ SY).2.2⟩
            obtain ⟨x0, x1, x2, hr⟩ := HR1
            have r0 : wy.rowIs (w.heap.size + 2) 28 3 (sel3 x0 x1 x2) := rowIs3 hr
            have q0 : wy.cell? ⟨w.heap.size + 2, 0, none⟩ = some x0 := r0.cell (i := 0) (by omega)
            have z0 : wy.frozen? ⟨w.heap.size + 2, 0, none⟩ = false := r0.frozen 0
            have r1 := r0.set 0 (.int .i64 0)
            have q1 : (wy.setCell ⟨w.heap.size + 2, 0, none⟩ (.int .i64 0)).cell? ⟨w.heap.size + 2, 1, none⟩ = some x1 := r1.cell (i := 1) (by omega)
            have z1 : (wy.setCell ⟨w.heap.size + 2, 0, none⟩ (.int .i64 0)).frozen? ⟨w.heap.size + 2, 1, none⟩ = false := r1.frozen 1
            have r2 := r1.set 1 (.slice none 0 0)
            have q2 : ((wy.setCell ⟨w.heap.size + 2, 0, none⟩ (.int .i64 0)).setCell ⟨w.heap.size + 2, 1, none⟩ (.slice none 0 0)).cell? ⟨w.heap.size + 2, 2, none⟩ = some x2 := r2.cell (i := 2) (by omega)
            have z2 : ((wy.setCell ⟨w.heap.size + 2, 0, none⟩ (.int .i64 0)).setCell ⟨w.heap.size + 2, 1, none⟩ (.slice none 0 0)).frozen? ⟨w.heap.size + 2, 2, none⟩ = false := r2.frozen 2
            have r3 := r2.set 2 (.slice none 0 0)
            obtain ⟨WF, hWF⟩ : ∃ W : World, W = (((wy.setCell ⟨w.heap.size + 2, 0, none⟩ (.int .i64 0)).setCell ⟨w.heap.size + 2, 1, none⟩ (.slice none 0 0)).setCell ⟨w.heap.size + 2, 2, none⟩ (.slice none 0 0)) := ⟨_, rfl⟩
            have hbWF : ∀ B (w0 : World), B ≤ w.heap.size + 2 → Below B w0 wy → Below B w0 WF := fun B w0 hl hb => by rw [hWF]; exact (((hb.setCell (by show B ≤ w.heap.size + 2; exact hl) _).setCell (by show B ≤ w.heap.size + 2; exact hl) _).setCell (by show B ≤ w.heap.size + 2; exact hl) _)
            have hsWF : ∀ lo hi, w.heap.size + 2 < lo ∨ hi ≤ w.heap.size + 2 → Same lo hi wy WF := fun lo hi hl => by rw [hWF]; exact (((Same.set _ hl).trans (Same.set _ hl)).trans (Same.set _ hl))
            have hzWF : WF.heap.size = wy.heap.size := by rw [hWF]; simp
            rw [← hWF] at r3
            have f0 : WF.cell? ⟨w.heap.size + 2, 0, none⟩ = some (.int .i64 0) := r3.cell (i := 0) (by omega)
            have f1 : WF.cell? ⟨w.heap.size + 2, 1, none⟩ = some (.slice none 0 0) := r3.cell (i := 1) (by omega)
            have f2 : WF.cell? ⟨w.heap.size + 2, 2, none⟩ = some (.slice none 0 0) := r3.cell (i := 2) (by omega)
            have HWWF := Lib.hid hWF
            clear hr r0 r1 r2 r3 hWF
            have HBF := Lib.hid (hbWF w.heap.size w (by omega) (HNW.out _ SY).1.below)
            clear hsWF hbWF hzWF
            go_wp2
            rw [← HWWF.out]
            refine bodyPost_ret (v := .tuple #[.agg #[.int .i64 0, .slice none 0 0, .slice none 0 0], .int .i64 3]) ?_ rfl ?_
            · simp only [results, HRES.out]
              go_simp
            · exact ⟨_, (0, [], []), 3, rfl, GwC.nil _ _, HBF.out, by rw [HCODE.out]; exact RsOut.of_no (by decide)⟩
          · obtain ⟨TK, hTK⟩ : ∃ TK, TK = (axD ds ms ds2 ms2).take k := ⟨_, rfl⟩
            rw [← hTK] at HSY
            have hbe : Below wy.heap.size wy (wy.alloc (.cells #[.int .i64 s] 2)) := below_alloc1 _ _
            have HSE := Lib.hid (HSY.out.next hbe)
            have hcell := cell_alloc1 wy (.int .i64 s) 2
            have HKL : Hid (TK.length = k) := Lib.hid (by rw [hTK, List.length_take, axD_length]; have := HT.out; have := HN.out; omega)
            have HXE : Hid ((axD ds ms ds2 ms2).take (k + 1) = TK ++ [s]) := Lib.hid (by rw [hTK, List.take_succ_eq_append_getElem (by rw [axD_length]; have := HT.out; have := HN.out; omega), HSX.out]; simp [axD])
            have HDM := Lib.hid HSE.out.dims
            have hc2 : wB.heap.size ≤ (wy.alloc (.cells #[.int .i64 s] 2)).heap.size := by simp; omega
            have HC4 := Lib.hid hc2
            have hc1 : TK.length ≤ 2097151 := by rw [HKL.out]; omega
            have HC3 := Lib.hid hc1
            clear hc1 hc2 hbe SY hTK HS
            go_wp2_with (at_builtin; refine wpList_appendB1l rfl (some 61) rfl (.tmp 58) (.tmp 60) rfl wB.heap.size (.slice a1 k cc1) TK rfl HDM.out wy.heap.size rfl s hcell HC3.out HC4.out ?_)
            rw [HKL.out]
            intro g9 c9 w9 hn9 hgw hlw
            have HS9 : Hid (Sdo wB (w9.setCell ⟨g, 1, none⟩ (.slice (some ⟨g9, 0, none⟩) (k + 1) c9)) g p (.slice (some ⟨g9, 0, none⟩) (k + 1) c9) (.slice a2 q cc2) ((axD ds ms ds2 ms2).take (k + 1)) ((axM ds ms ds2 ms2).take q)) := Lib.hid (by rw [HXE.out]; exact HSE.out.stepD hgw hn9 (hlw.imp id (fun h => by simpa using h)))
            have hrb := row_grown HSE.out.box HSE.out.dims coT.1 hgw
            have z1 : w9.cell? ⟨g, 1, none⟩ = some (.slice a1 k cc1) := hrb.cell (i := 1) (by omega)
            have z2 : w9.frozen? ⟨g, 1, none⟩ = false := hrb.frozen 1
            have hg9 : g9 < w9.heap.size := (hn9.lt g9 rfl).2
            have HFT2 : Hid (∀ j, j < k + 1 → axd ds ds2 j ≤ 8) := Lib.hid (fun j hj => by
            by_cases e : j = k
            · rw [e, ← HSX.out]; omega
            · exact HFT.out j (by omega))
            have HG9 := Lib.hid hg9
            clear hn9 hgw hlw hrb hcell g1 HSE HSY HDM hg9
            by_cases hk00 : k = 0
            · have hz : ((k : Int) == 0) = true := by simp [hk00]
              have HQ2 : Hid (q = k + 1 - 1) := Lib.hid (by have := HQ.out; omega)
              clear hk00
              go_wp2
              go_roundw
              case rel => exact ⟨k + 1, q, _, _, _, _, by omega, by go_num, HQ2, HS9, HFT2⟩
              case measure => simp [intOf]; omega
            · have hz : ((k : Int) == 0) = false := by simp [hk00]
              have hkq : k = q + 1 := by have := HQ.out; omega
              have HKQ := Lib.hid hkq
              obtain ⟨ta, hta⟩ : ∃ ta, ta = tabN ms q := ⟨_, rfl⟩
              obtain ⟨tb, htb⟩ : ∃ tb, tb = tabN ms2 q := ⟨_, rfl⟩
              obtain ⟨l, hl⟩ : ∃ l : Nat, l = (ds.getD q 0).toNat := ⟨_, rfl⟩
              obtain ⟨r, hr⟩ : ∃ r : Nat, r = (ds2.getD q 0).toNat := ⟨_, rfl⟩
              have HA := Lib.hid (ax_tab HC.out q)
              have HBt := Lib.hid (ax_tab HC2.out q)
              rw [← hta, ← hl] at HA
              rw [← htb, ← hr] at HBt
              have ha8 := HA.out.1
              have hb8 := HBt.out.1
              have hxq := HC.out.1.dim q
              have hyq := HC2.out.1.dim q
              have hl8 : l ≤ 8 := by omega
              have hr8 : r ≤ 8 := by omega
              have HAX : Hid (∀ h : q < (axM ds ms ds2 ms2).length, (axM ds ms ds2 ms2)[q] = sumT ta l tb r) := Lib.hid (fun h => by simp only [axM, List.getElem_map, List.getElem_range, axt]; rw [← hta, ← htb, ← hl, ← hr])
              have HLA : Hid (x = (ta.length : Int)) := Lib.hid (by rw [HXV.out, hta, hkq]; exact ax_rows HC.out q)
              have HLB : Hid (y = (tb.length : Int)) := Lib.hid (by rw [HYV.out, htb, hkq]; exact ax_rows HC2.out q)
              obtain ⟨wf, hwf⟩ : ∃ wf, wf = (w9.setCell ⟨g, 1, none⟩ (.slice (some ⟨g9, 0, none⟩) (k + 1) c9)) := ⟨_, rfl⟩
              have hsf : wf.heap.size = w9.heap.size := by rw [hwf]; simp
              have hg9f : g9 < wf.heap.size := by rw [hsf]; exact HG9.out
              have HNF : Hid (∀ W, Below wf.heap.size wf W → Bx w W w.heap.size p (.slice ad ds.length cap) (.slice am ms.length capm) ds ms ∧ Bx w W (w.heap.size + 1) p (.slice ad2 ds2.length cap2) (.slice am2 ms2.length capm2) ds2 ms2 ∧ Rz W (w.heap.size + 2) 28 #[.int .i64 0, .slice none 0 0, .slice none 0 0]) := Lib.hid (fun W hb => HNB.out _ (by have h0 := HS9.out.below; rw [← hwf] at h0; exact h0.trans (hb.mono h0.size)))
              have hB0 : Below wf.heap.size wf wf := Below.refl _ _
              have HM1 : Hid (∀ W, Below wf.heap.size wf W → Calls Try.prog 90 #[.agg #[.int .i64 p, .slice ad ds.length cap, .slice am ms.length capm], .int .i64 (k : Int)] W (L2O ta wf W)) := Lib.hid (fun W hb => by have h0 := l01Map_old p q _ _ ds ms wf W (HNF.out _ hB0).1.cx hb HC.out; rw [← hta, show (q : Int) + 1 = (k : Int) by omega] at h0; exact h0)
              have HM2' : Hid (∀ W, Below wf.heap.size wf W → Calls Try.prog 90 #[.agg #[.int .i64 p, .slice ad2 ds2.length cap2, .slice am2 ms2.length capm2], .int .i64 (k : Int)] W (L2O tb wf W)) := Lib.hid (fun W hb => by have h0 := l01Map_old p q _ _ ds2 ms2 wf W (HNF.out _ hB0).2.1.cx hb HC2.out; rw [← htb, show (q : Int) + 1 = (k : Int) by omega] at h0; exact h0)
              clear hB0
              have HL1 := Lib.hid hl
              have HR1' := Lib.hid hr
              clear hkq hta htb hl hr hsf
              go_upto_region 14 with fail
              rw [← hwf]
              rw [← hwf] at HS9
              clear hwf z1 z2 hz
              go_cut [9, 10, 11] from 36 to 117 (fun s9 s10 s11 wz => ∃ (gt : Nat) (au : Option Addr) (cu : Nat) (av : Option Addr) (cv : Nat), s9 = .slice (some ⟨gt, 0, none⟩) 0 0 ∧ s10 = .slice au ta.length cu ∧ s11 = .slice av tb.length cv ∧ Hid (Below wf.heap.size wf wz) ∧ Hid (Gs wf.heap.size wz (.slice (some ⟨gt, 0, none⟩) 0 0) []) ∧ Hid (L2 0 wf (.slice au ta.length cu) ta) ∧ Hid (L2 0 wf (.slice av tb.length cv) tb))
              case first =>
                go_wp2
                refine wp_region_held (S := fun W => Below (wf.heap.size) wf W) (by kernel_rfl) ?_
                have S0 : Below (wf.heap.size) wf wf.drew := (Below.refl _ _).drew
                have hB0 : wf.heap.size ≤ wf.heap.size := Nat.le_refl _
                have hsd : wf.heap.size ≤ wf.drew.heap.size := Nat.le_refl _
                have hbd : Below wf.heap.size wf wf.drew := (Below.refl _ _).drew
                change wpAnyH _ _ _ _ _ _ _ _ wf.drew
                obtain ⟨wd, hwd⟩ : ∃ wd, wd = wf.drew := ⟨_, rfl⟩
                rw [← hwd] at S0 hsd hbd ⊢
                clear hwd
                refine held_take (i := 1) (v := .agg #[.int .i64 p, .slice ad ds.length cap, .slice am ms.length capm]) (some 66) rfl rfl (by kernel_rfl) (by kernel_rfl) (by kernel_rfl) (fun _ _ _ h => h) (yieldsIf_cell (by kernel_rfl) rfl (by kernel_rfl) (fun W h => hload3x (HNF.out W h).1)) S0 ?_
                refine held_take (i := 2) (v := .int .i64 (k : Int)) (some 67) rfl rfl (by kernel_rfl) (by kernel_rfl) (by kernel_rfl) (fun _ _ _ h => h) (yieldsIf_move (by kernel_rfl) rfl (by kernel_rfl)) S0 ?_
                refine held_take (i := 4) (v := .agg #[.int .i64 p, .slice ad2 ds2.length cap2, .slice am2 ms2.length capm2]) (some 69) rfl rfl (by kernel_rfl) (by kernel_rfl) (by kernel_rfl) (fun _ _ _ h => h) (yieldsIf_cell (by kernel_rfl) rfl (by kernel_rfl) (fun W h => hload3x (HNF.out W h).2.1)) S0 ?_
                refine held_take (i := 5) (v := .int .i64 (k : Int)) (some 70) rfl rfl (by kernel_rfl) (by kernel_rfl) (by kernel_rfl) (fun _ _ _ h => h) (yieldsIf_move (by kernel_rfl) rfl (by kernel_rfl)) S0 ?_
                refine held_two (i := 0) (j := 3) (by kernel_rfl) ?_ ?_
                · obtain ⟨W1, hW1⟩ : ∃ W', W' = wd.alloc (.cells #[] 22) := ⟨_, rfl⟩
                  have hb1 : Below wd.heap.size wd W1 := by rw [hW1]; exact below_alloc1 _ _
                  have hAT1 : Rz W1 wd.heap.size 22 #[] := by rw [hW1]; exact Rz.new _ _ _
                  have S1 : Below (wf.heap.size) wf W1 := S0.trans (hb1.mono (Nat.le_trans hB0 S0.size))
                  have hGT : wf.heap.size ≤ wd.heap.size := Nat.le_trans hB0 S0.size
                  have gs_1 : Gs wf.heap.size W1 (.slice (some ⟨wd.heap.size, 0, none⟩) 0 0) [] := by rw [hW1]; exact Gs.new _ hGT
                  refine op_mem (i := 0) (v := .slice (some ⟨wd.heap.size, 0, none⟩) 0 0) (w' := W1) (some 65) rfl rfl rfl (by rw [hW1]; go_simp) ?_
                  refine ⟨S1, ?_⟩
                  refine held_one (i := 3) (by kernel_rfl) ?_
                  · refine op_enter (i := 3) (some 68) (f := 90) (args := #[.agg #[.int .i64 p, .slice ad ds.length cap, .slice am ms.length capm], .int .i64 (k : Int)]) rfl rfl rfl (by kernel_rfl) (HM1.out W1 S1) ?_ (fun c w' h => by obtain ⟨_, h, _⟩ := h; cases h) (fun w' h => by obtain ⟨_, h, _⟩ := h; cases h)
                    rintro ee W2 ⟨v2, he, hl2, hb2⟩
                    injection he with he
                    subst he
                    obtain ⟨au, cu, hv⟩ := Sl.shape hl2
                    subst hv
                    have S2 : Below (wf.heap.size) wf W2 := S1.trans (hb2.mono (Nat.le_trans hB0 S1.size))
                    have hAT2 := hAT1.next hb2
                    have gs_2 := gs_1.below hb2
                    refine ⟨S2, ?_⟩
                    refine held_one (i := 6) (by kernel_rfl) ?_
                    · refine op_enter (i := 6) (some 71) (f := 90) (args := #[.agg #[.int .i64 p, .slice ad2 ds2.length cap2, .slice am2 ms2.length capm2], .int .i64 (k : Int)]) rfl rfl rfl (by kernel_rfl) (HM2'.out W2 S2) ?_ (fun c w' h => by obtain ⟨_, h, _⟩ := h; cases h) (fun w' h => by obtain ⟨_, h, _⟩ := h; cases h)
                      rintro ee W3 ⟨v3, he, hl3, hb3⟩
                      injection he with he
                      subst he
                      obtain ⟨av, cv, hv⟩ := Sl.shape hl3
                      subst hv
                      have S3 : Below (wf.heap.size) wf W3 := S2.trans (hb3.mono (Nat.le_trans hB0 S2.size))
                      have hAT3 := hAT2.next hb3
                      have gs_3 := gs_2.below hb3
                      refine ⟨S3, ?_⟩
                      refine held_take (i := 7) (v := .slice (some ⟨wd.heap.size, 0, none⟩) 0 0) (some 9) rfl rfl (by kernel_rfl) (by kernel_rfl) (by kernel_rfl) (fun _ _ _ h => h) (yieldsIf_assign (by kernel_rfl) rfl (by kernel_rfl)) S3 ?_
                      refine held_take (i := 8) (v := .slice au ta.length cu) (some 10) rfl rfl (by kernel_rfl) (by kernel_rfl) (by kernel_rfl) (fun _ _ _ h => h) (yieldsIf_assign (by kernel_rfl) rfl (by kernel_rfl)) S3 ?_
                      refine held_take (i := 9) (v := .slice av tb.length cv) (some 11) rfl rfl (by kernel_rfl) (by kernel_rfl) (by kernel_rfl) (fun _ _ _ h => h) (yieldsIf_assign (by kernel_rfl) rfl (by kernel_rfl)) S3 ?_
                      refine wpAnyH_done (by kernel_rfl) ?_ _
                      simp only [Act.put, List.setIfInBounds_toArray, List.set_cons_zero, List.set_cons_succ]
                      go_wp2
                      go_meet
                      exact ⟨wd.heap.size, au, cu, av, cv, rfl, rfl, rfl, Lib.hid S3, Lib.hid gs_3, Lib.hid hl2, Lib.hid hl3⟩
                · refine op_enter (i := 3) (some 68) (f := 90) (args := #[.agg #[.int .i64 p, .slice ad ds.length cap, .slice am ms.length capm], .int .i64 (k : Int)]) rfl rfl rfl (by kernel_rfl) (HM1.out wd S0) ?_ (fun c w' h => by obtain ⟨_, h, _⟩ := h; cases h) (fun w' h => by obtain ⟨_, h, _⟩ := h; cases h)
                  rintro ee W4 ⟨v4, he, hl4, hb4⟩
                  injection he with he
                  subst he
                  obtain ⟨au, cu, hv⟩ := Sl.shape hl4
                  subst hv
                  have S4 : Below (wf.heap.size) wf W4 := S0.trans (hb4.mono (Nat.le_trans hB0 S0.size))
                  refine ⟨S4, ?_⟩
                  refine held_two (i := 0) (j := 6) (by kernel_rfl) ?_ ?_
                  · obtain ⟨W5, hW5⟩ : ∃ W', W' = W4.alloc (.cells #[] 22) := ⟨_, rfl⟩
                    have hb5 : Below W4.heap.size W4 W5 := by rw [hW5]; exact below_alloc1 _ _
                    have hAT5 : Rz W5 W4.heap.size 22 #[] := by rw [hW5]; exact Rz.new _ _ _
                    have S5 : Below (wf.heap.size) wf W5 := S4.trans (hb5.mono (Nat.le_trans hB0 S4.size))
                    have hGT : wf.heap.size ≤ W4.heap.size := Nat.le_trans hB0 S4.size
                    have gs_5 : Gs wf.heap.size W5 (.slice (some ⟨W4.heap.size, 0, none⟩) 0 0) [] := by rw [hW5]; exact Gs.new _ hGT
                    refine op_mem (i := 0) (v := .slice (some ⟨W4.heap.size, 0, none⟩) 0 0) (w' := W5) (some 65) rfl rfl rfl (by rw [hW5]; go_simp) ?_
                    refine ⟨S5, ?_⟩
                    refine held_one (i := 6) (by kernel_rfl) ?_
                    · refine op_enter (i := 6) (some 71) (f := 90) (args := #[.agg #[.int .i64 p, .slice ad2 ds2.length cap2, .slice am2 ms2.length capm2], .int .i64 (k : Int)]) rfl rfl rfl (by kernel_rfl) (HM2'.out W5 S5) ?_ (fun c w' h => by obtain ⟨_, h, _⟩ := h; cases h) (fun w' h => by obtain ⟨_, h, _⟩ := h; cases h)
                      rintro ee W6 ⟨v6, he, hl6, hb6⟩
                      injection he with he
                      subst he
                      obtain ⟨av, cv, hv⟩ := Sl.shape hl6
                      subst hv
                      have S6 : Below (wf.heap.size) wf W6 := S5.trans (hb6.mono (Nat.le_trans hB0 S5.size))
                      have hAT6 := hAT5.next hb6
                      have gs_6 := gs_5.below hb6
                      refine ⟨S6, ?_⟩
                      refine held_take (i := 7) (v := .slice (some ⟨W4.heap.size, 0, none⟩) 0 0) (some 9) rfl rfl (by kernel_rfl) (by kernel_rfl) (by kernel_rfl) (fun _ _ _ h => h) (yieldsIf_assign (by kernel_rfl) rfl (by kernel_rfl)) S6 ?_
                      refine held_take (i := 8) (v := .slice au ta.length cu) (some 10) rfl rfl (by kernel_rfl) (by kernel_rfl) (by kernel_rfl) (fun _ _ _ h => h) (yieldsIf_assign (by kernel_rfl) rfl (by kernel_rfl)) S6 ?_
                      refine held_take (i := 9) (v := .slice av tb.length cv) (some 11) rfl rfl (by kernel_rfl) (by kernel_rfl) (by kernel_rfl) (fun _ _ _ h => h) (yieldsIf_assign (by kernel_rfl) rfl (by kernel_rfl)) S6 ?_
                      refine wpAnyH_done (by kernel_rfl) ?_ _
                      simp only [Act.put, List.setIfInBounds_toArray, List.set_cons_zero, List.set_cons_succ]
                      go_wp2
                      go_meet
                      exact ⟨W4.heap.size, au, cu, av, cv, rfl, rfl, rfl, Lib.hid S6, Lib.hid gs_6, Lib.hid hl4, Lib.hid hl6⟩
                  · refine op_enter (i := 6) (some 71) (f := 90) (args := #[.agg #[.int .i64 p, .slice ad2 ds2.length cap2, .slice am2 ms2.length capm2], .int .i64 (k : Int)]) rfl rfl rfl (by kernel_rfl) (HM2'.out W4 S4) ?_ (fun c w' h => by obtain ⟨_, h, _⟩ := h; cases h) (fun w' h => by obtain ⟨_, h, _⟩ := h; cases h)
                    rintro ee W7 ⟨v7, he, hl7, hb7⟩
                    injection he with he
                    subst he
                    obtain ⟨av, cv, hv⟩ := Sl.shape hl7
                    subst hv
                    have S7 : Below (wf.heap.size) wf W7 := S4.trans (hb7.mono (Nat.le_trans hB0 S4.size))
                    refine ⟨S7, ?_⟩
                    refine held_one (i := 0) (by kernel_rfl) ?_
                    · obtain ⟨W8, hW8⟩ : ∃ W', W' = W7.alloc (.cells #[] 22) := ⟨_, rfl⟩
                      have hb8 : Below W7.heap.size W7 W8 := by rw [hW8]; exact below_alloc1 _ _
                      have hAT8 : Rz W8 W7.heap.size 22 #[] := by rw [hW8]; exact Rz.new _ _ _
                      have S8 : Below (wf.heap.size) wf W8 := S7.trans (hb8.mono (Nat.le_trans hB0 S7.size))
                      have hGT : wf.heap.size ≤ W7.heap.size := Nat.le_trans hB0 S7.size
                      have gs_8 : Gs wf.heap.size W8 (.slice (some ⟨W7.heap.size, 0, none⟩) 0 0) [] := by rw [hW8]; exact Gs.new _ hGT
                      refine op_mem (i := 0) (v := .slice (some ⟨W7.heap.size, 0, none⟩) 0 0) (w' := W8) (some 65) rfl rfl rfl (by rw [hW8]; go_simp) ?_
                      refine ⟨S8, ?_⟩
                      refine held_take (i := 7) (v := .slice (some ⟨W7.heap.size, 0, none⟩) 0 0) (some 9) rfl rfl (by kernel_rfl) (by kernel_rfl) (by kernel_rfl) (fun _ _ _ h => h) (yieldsIf_assign (by kernel_rfl) rfl (by kernel_rfl)) S8 ?_
                      refine held_take (i := 8) (v := .slice au ta.length cu) (some 10) rfl rfl (by kernel_rfl) (by kernel_rfl) (by kernel_rfl) (fun _ _ _ h => h) (yieldsIf_assign (by kernel_rfl) rfl (by kernel_rfl)) S8 ?_
                      refine held_take (i := 9) (v := .slice av tb.length cv) (some 11) rfl rfl (by kernel_rfl) (by kernel_rfl) (by kernel_rfl) (fun _ _ _ h => h) (yieldsIf_assign (by kernel_rfl) rfl (by kernel_rfl)) S8 ?_
                      refine wpAnyH_done (by kernel_rfl) ?_ _
                      simp only [Act.put, List.setIfInBounds_toArray, List.set_cons_zero, List.set_cons_succ]
                      go_wp2
                      go_meet
                      exact ⟨W7.heap.size, au, cu, av, cv, rfl, rfl, rfl, Lib.hid S8, Lib.hid gs_8, Lib.hid hl4, Lib.hid hl7⟩
              case rest =>
                obtain ⟨gt, au, cu, av, cv, rfl, rfl, rfl, HBZ, HGT, HTA, HTB⟩ := hcut
                obtain ⟨wz, hwz⟩ : ∃ wz : World, wz = wc := ⟨_, rfl⟩
                subst hwz
                have HVA := Lib.hid (fun W (h : Below wf.heap.size wf W) => HTA.out.below h)
                have HVB := Lib.hid (fun W (h : Below wf.heap.size wf W) => HTB.out.below h)
                have HGR0 : Hid (Grb (some g9) wf.heap.size wz (.slice (some ⟨gt, 0, none⟩) 0 0) ((sumT ta l tb r).take 0)) := Lib.hid (by rw [List.take_zero]; exact Grb.start HGT.out)
                have HD1 : Hid (∀ W, Below wf.heap.size wf W → Calls Try.prog 91 #[.agg #[.int .i64 p, .slice ad ds.length cap, .slice am ms.length capm], .int .i64 (k : Int)] W (BR (.int .i64 (ta.length : Int)) W)) := Lib.hid (fun W hb => by have h0 := l01Dim_any p k _ _ ds ms W (HNF.out W hb).1.cx hd; rw [dimZ_nat, ← HXV.out, HLA.out] at h0; exact h0)
                have HD2 : Hid (∀ W, Below wf.heap.size wf W → Calls Try.prog 91 #[.agg #[.int .i64 p, .slice ad2 ds2.length cap2, .slice am2 ms2.length capm2], .int .i64 (k : Int)] W (BR (.int .i64 (tb.length : Int)) W)) := Lib.hid (fun W hb => by have h0 := l01Dim_any p k _ _ ds2 ms2 W (HNF.out W hb).2.1.cx hd2; rw [dimZ_nat, ← HYV.out, HLB.out] at h0; exact h0)
                have HE1 : Hid (∀ W, Below wf.heap.size wf W → Calls Try.prog 91 #[.agg #[.int .i64 p, .slice ad ds.length cap, .slice am ms.length capm], .int .i64 (q : Int)] W (BR (.int .i64 (l : Int)) W)) := Lib.hid (fun W hb => by have h0 := l01Dim_any p q _ _ ds ms W (HNF.out W hb).1.cx hd; rw [dimZ_nat, show ds.getD q 0 = (l : Int) by have := HL1.out; omega] at h0; exact h0)
                have HE2 : Hid (∀ W, Below wf.heap.size wf W → Calls Try.prog 91 #[.agg #[.int .i64 p, .slice ad2 ds2.length cap2, .slice am2 ms2.length capm2], .int .i64 (q : Int)] W (BR (.int .i64 (r : Int)) W)) := Lib.hid (fun W hb => by have h0 := l01Dim_any p q _ _ ds2 ms2 W (HNF.out W hb).2.1.cx hd2; rw [dimZ_nat, show ds2.getD q 0 = (r : Int) by have := HR1'.out; omega] at h0; exact h0)
                have hwq : Hid (IntKind.i64.wrap ((k : Int) - 1) = (q : Int)) := Lib.hid (by have := HKQ.out; rw [show (k : Int) - 1 = (q : Int) by omega]; exact IntWalk.i64_in _ (by omega))
                clear HGT HM1 HM2' hxq hyq hxb hyb
                go_wp2
                go_loopw [9, 12] (fun ov i wr => ∃ (k2 : Nat) (ao : Option Addr) (co : Nat), k2 ≤ ta.length ∧ ov = .slice ao k2 co ∧ i = .int .i64 k2 ∧ Hid (Below wf.heap.size wf wr) ∧ Hid (Grb (some g9) wf.heap.size wr (.slice ao k2 co) ((sumT ta l tb r).take k2))) (fun _ i _ => ta.length - (intOf i).toNat)
                case atStart => exact ⟨0, _, _, Nat.zero_le _, rfl, rfl, HBZ, HGR0⟩
                case round =>
                  clear HGR0 HBZ
                  obtain ⟨k2, ao, co, hk2, rfl, rfl, HBE, HG⟩ := hrel
                  obtain ⟨wv, hwv⟩ : ∃ wv : World, wv = wr := ⟨_, rfl⟩
                  subst hwv
                  have c0 := (HNF.out _ HBE.out).1.c0
                  have c1 := (HNF.out _ HBE.out).1.c1
                  have c2 := (HNF.out _ HBE.out).1.c2
                  have hk20 : (0 : Int) ≤ (k2 : Int) := by omega
                  by_cases hlt2 : k2 < ta.length
                  · have hlk2 : (k2 : Int) < (ta.length : Int) := by omega
                    go_wp2_with fail
                    refine (HD1.out _ HBE.out).mono ?_
                    rintro ee wu ⟨rfl, hb2⟩
                    have HBU := Lib.hid (HBE.out.trans (hb2.mono HBE.out.size))
                    have HGU := Lib.hid (HG.out.below hb2)
                    clear hb2 c0 c1 c2 HG HBE
                    refine Sl.cases (HVA.out _ (Below.refl _ _)) (fun _ _ hx _ => absurd hlt2 (by simp [hx])) (fun bk ok c2' hvv _ _ hcl => ?_)
                    injection hvv with e1 e2 e3
                    clear e2
                    subst e1 e3
                    obtain ⟨ur, hur, hrr⟩ := hcl k2 hlt2
                    obtain ⟨z, hz⟩ : ∃ z, z = ta[k2] := ⟨_, rfl⟩
                    rw [← hz] at hrr
                    have hzl : z.length = l := by rw [hz]; exact HA.out.2 _ (List.getElem_mem hlt2)
                    have HZL := Lib.hid hzl
                    have HTK : Hid ((sumT ta l tb r).take (k2 + 1) = (sumT ta l tb r).take k2 ++ [z ++ List.replicate r 0]) := Lib.hid (by rw [hz]; exact sumT_take_a hlt2)
                    obtain ⟨ar, cr, hus⟩ := Sl.shape hrr
                    subst hus
                    have HRR := Lib.hid (fun W (h : Below wf.heap.size wf W) => l01Own_any (.slice ar z.length cr) z W (hrr.below h) (by omega))
                    have HUR : Hid (∀ W, Below wf.heap.size wf W → W.cell? ⟨bk, ok + k2, none⟩ = some (.slice ar z.length cr)) := Lib.hid (fun W h => later h (Nat.le_refl _) hur)
                    obtain ⟨TR, hTR⟩ : ∃ TR, TR = (sumT ta l tb r).take k2 := ⟨_, rfl⟩
                    have HTL : Hid (TR.length = k2) := Lib.hid (by rw [hTR, List.length_take, sumT_length]; omega)
                    rw [← hTR] at HGU HTK
                    clear hcl hur hrr hz hzl hTR
                    go_upto_region 18 with fail
                    go_wp2
                    refine wp_region_held (S := fun W => Below (wf.heap.size) wf W) (by kernel_rfl) ?_
                    have S0 : Below (wf.heap.size) wf wu.drew := HBU.out.drew
                    have hB0 : wf.heap.size ≤ wf.heap.size := Nat.le_refl _
                    have hsd : wu.heap.size ≤ wu.drew.heap.size := Nat.le_refl _
                    have hbd : Below wu.heap.size wu wu.drew := (Below.refl _ _).drew
                    change wpAnyH _ _ _ _ _ _ _ _ wu.drew
                    obtain ⟨wd, hwd⟩ : ∃ wd, wd = wu.drew := ⟨_, rfl⟩
                    rw [← hwd] at S0 hsd hbd ⊢
                    clear hwd
                    refine held_take (i := 0) (v := .slice ao k2 co) (some 79) rfl rfl (by kernel_rfl) (by kernel_rfl) (by kernel_rfl) (fun _ _ _ h => h) (yieldsIf_move (by kernel_rfl) rfl (by kernel_rfl)) S0 ?_
                    refine held_take (i := 1) (v := .slice (some ⟨bk, ok, none⟩) ta.length cu) (some 80) rfl rfl (by kernel_rfl) (by kernel_rfl) (by kernel_rfl) (fun _ _ _ h => h) (yieldsIf_move (by kernel_rfl) rfl (by kernel_rfl)) S0 ?_
                    refine held_take (i := 2) (v := .int .i64 (k2 : Int)) (some 81) rfl rfl (by kernel_rfl) (by kernel_rfl) (by kernel_rfl) (fun _ _ _ h => h) (yieldsIf_move (by kernel_rfl) rfl (by kernel_rfl)) S0 ?_
                    refine held_take (i := 3) (v := .pointer (some ⟨bk, ok + k2, none⟩)) (some 82) rfl rfl (by kernel_rfl) (by kernel_rfl) (by kernel_rfl) (fun _ _ _ h => h) (yieldsIf_index (by kernel_rfl) rfl (by kernel_rfl) (by kernel_rfl) (hidxS bk ok cu hlt2)) S0 ?_
                    refine held_take (i := 4) (v := .slice ar z.length cr) (some 83) rfl rfl (by kernel_rfl) (by kernel_rfl) (by kernel_rfl) (fun _ _ _ h => h) (yieldsIf_cell (by kernel_rfl) rfl (by kernel_rfl) (fun W h => hloadS W (HUR.out W h))) S0 ?_
                    refine held_take (i := 6) (v := .agg #[.int .i64 p, .slice ad2 ds2.length cap2, .slice am2 ms2.length capm2]) (some 85) rfl rfl (by kernel_rfl) (by kernel_rfl) (by kernel_rfl) (fun _ _ _ h => h) (yieldsIf_cell (by kernel_rfl) rfl (by kernel_rfl) (fun W h => hload3x (HNF.out W h).2.1)) S0 ?_
                    refine held_take (i := 7) (v := .int .i64 (k : Int)) (some 86) rfl rfl (by kernel_rfl) (by kernel_rfl) (by kernel_rfl) (fun _ _ _ h => h) (yieldsIf_move (by kernel_rfl) rfl (by kernel_rfl)) S0 ?_
                    refine held_take (i := 8) (v := .int .i64 (q : Int)) (some 87) rfl rfl (by kernel_rfl) (by kernel_rfl) (by kernel_rfl) (fun _ _ _ h => h) (yieldsIf_bin (by kernel_rfl) rfl (by kernel_rfl) (by kernel_rfl) (fun _ => rfl) (hsubA hwq.out)) S0 ?_
                    refine held_one (i := 5) (by kernel_rfl) ?_
                    · refine op_enter (i := 5) (some 84) (f := 114) (args := #[.slice ar z.length cr]) rfl rfl rfl (by kernel_rfl) (HRR.out wd S0) ?_ (fun c w' h => by obtain ⟨_, h, _⟩ := h; cases h) (fun w' h => by obtain ⟨_, h, _⟩ := h; cases h)
                      rintro ee W1 ⟨u1, he, hg1, hb1⟩
                      injection he with he
                      subst he
                      have S1 : Below (wf.heap.size) wf W1 := S0.trans (hb1.mono (Nat.le_trans hB0 S0.size))
                      refine ⟨S1, ?_⟩
                      refine held_one (i := 9) (by kernel_rfl) ?_
                      · refine op_enter (i := 9) (some 88) (f := 91) (args := #[.agg #[.int .i64 p, .slice ad2 ds2.length cap2, .slice am2 ms2.length capm2], .int .i64 (q : Int)]) rfl rfl rfl (by kernel_rfl) (HE2.out W1 S1) ?_ (fun c w' h => by cases h.1) (fun w' h => by cases h.1)
                        rintro ee W2 ⟨he, hb2⟩
                        injection he with he
                        subst he
                        have S2 : Below (wf.heap.size) wf W2 := S1.trans (hb2.mono (Nat.le_trans hB0 S1.size))
                        refine ⟨S2, ?_⟩
                        have own2 := hg1.below hb2
                        have hwd : wf.heap.size ≤ wd.heap.size := S0.size
                        have hle : wd.heap.size ≤ W2.heap.size := Nat.le_trans hb1.size hb2.size
                        obtain ⟨v3, w3, hrun, hg3, hgr3⟩ := run_append_zeros W2 22 _ z own2 .i64 r (by have := HZL.out; omega) hle
                        have S3 : Below wf.heap.size wf w3 := S2.grown hgr3 S2.size (fun g0 hg0 => Nat.le_trans hwd (own2.lt g0 hg0).1)
                        have hbw : Below wd.heap.size wd w3 := (hb1.trans (hb2.mono hb1.size)).grown hgr3 hle (fun g0 hg0 => (own2.lt g0 hg0).1)
                        have gg3 := (HGU.out.below hbd).below hbw
                        refine held_call (i := 10) (by kernel_rfl) rfl rfl ?_
                        refine Lib.wp_append_run _ (.tmp 84) (.tmp 88) _ _ rfl _ _ (by kernel_rfl) (by kernel_rfl) _ _ hrun ?_
                        refine ⟨S3, ?_⟩
                        obtain ⟨a3, n3, c3, hv3⟩ : ∃ a n c, v3 = .slice a n c := by obtain ⟨a', c', ee⟩ := Sl.shape hg3.g1.l1; exact ⟨a', _, c', ee⟩
                        subst hv3
                        have hba : Below w3.heap.size w3 (w3.alloc (.cells #[.slice a3 n3 c3] 22)) := below_alloc1 _ _
                        have SA : Below wf.heap.size wf (w3.alloc (.cells #[.slice a3 n3 c3] 22)) := S3.trans (hba.mono S3.size)
                        have ggA := gg3.below hba
                        refine held_buildS (i := 11) (some 90) (by kernel_rfl) rfl rfl rfl (.tmp 89) a3 n3 c3 rfl (by kernel_rfl) ⟨SA, ?_⟩
                        refine held_call (i := 12) (by kernel_rfl) rfl rfl ?_
                        refine wp_appendS1o (some 91) rfl (.tmp 79) (.tmp 90) rfl (some g9) wf.heap.size (.slice ao k2 co) TR (by kernel_rfl) ggA w3.heap.size (by kernel_rfl) a3 n3 c3 (cell_alloc1 w3 _ _) (z ++ List.replicate r 0) (hg3.g1.below hba) (hg3.offB (by omega)) (by rw [HTL.out]; omega) SA.size ?_
                        rw [HTL.out]
                        intro gg gc W7 hg7 hgr7
                        have S7 : Below wf.heap.size wf W7 := SA.grown hgr7 SA.size (fun g0 hg0 => (ggA.gs.lt g0 hg0).1)
                        refine ⟨S7, ?_⟩
                        refine held_take (i := 13) (v := .slice (some ⟨gg, 0, none⟩) (k2 + 1) gc) (some 9) rfl rfl (by kernel_rfl) (by kernel_rfl) (by kernel_rfl) (fun _ _ _ h => h) (yieldsIf_assign (by kernel_rfl) rfl (by kernel_rfl)) S7 ?_
                        refine wpAnyH_done (by kernel_rfl) ?_ _
                        simp only [Act.put, List.setIfInBounds_toArray, List.set_cons_zero, List.set_cons_succ]
                        have HB7 := Lib.hid S7
                        have HG7 : Hid (Grb (some g9) wf.heap.size W7 (.slice (some ⟨gg, 0, none⟩) (k2 + 1) gc) ((sumT ta l tb r).take (k2 + 1))) := Lib.hid (by rw [HTK.out]; exact hg7)
                        clear S0 S1 S2 S3 SA S7 gg3 ggA hbw hba hrun hg3 hgr3 hg7 hgr7 own2 hg1 hb1 hb2 hbd hsd hB0
                        go_wp2
                        go_roundw
                        case rel => exact ⟨k2 + 1, _, _, by omega, rfl, by go_num, HB7, HG7⟩
                        case measure => simp [intOf]; omega
                  · have hlk2 : ¬ (k2 : Int) < (ta.length : Int) := by omega
                    go_wp2_with fail
                    refine (HD1.out _ HBE.out).mono ?_
                    rintro ee wu ⟨rfl, hb2⟩
                    have HBU := Lib.hid (HBE.out.trans (hb2.mono HBE.out.size))
                    have HGU := Lib.hid (HG.out.below hb2)
                    clear hb2 c0 c1 c2 HG HBE
                    go_wp2
                    go_loopw [9, 13] (fun ov i wr => ∃ (k3 m : Nat) (ao : Option Addr) (co : Nat), k3 ≤ tb.length ∧ Hid (m = ta.length + k3) ∧ ov = .slice ao m co ∧ i = .int .i64 k3 ∧ Hid (Below wf.heap.size wf wr) ∧ Hid (Grb (some g9) wf.heap.size wr (.slice ao m co) ((sumT ta l tb r).take m))) (fun _ i _ => tb.length - (intOf i).toNat)
                    case atStart => exact ⟨0, k2, _, _, Nat.zero_le _, Lib.hid (by omega), rfl, rfl, HBU, HGU⟩
                    case round =>
                      clear HGU HBU
                      obtain ⟨k3, m, ao, co, hk3, HME, rfl, rfl, HBE, HG⟩ := hrel
                      obtain ⟨wt, hwt⟩ : ∃ wt : World, wt = wr := ⟨_, rfl⟩
                      subst hwt
                      have c0 := (HNF.out _ HBE.out).2.1.c0
                      have c1 := (HNF.out _ HBE.out).2.1.c1
                      have c2 := (HNF.out _ HBE.out).2.1.c2
                      have hk30 : (0 : Int) ≤ (k3 : Int) := by omega
                      have hm16 : m ≤ 16 := by have := HME.out; omega
                      by_cases hlt3 : k3 < tb.length
                      · have hlk3 : (k3 : Int) < (tb.length : Int) := by omega
                        go_wp2_with fail
                        refine (HD2.out _ HBE.out).mono ?_
                        rintro ee wu ⟨rfl, hb2⟩
                        have HBU := Lib.hid (HBE.out.trans (hb2.mono HBE.out.size))
                        have HGU := Lib.hid (HG.out.below hb2)
                        clear hb2 c0 c1 c2 HG HBE
                        refine Sl.cases (HVB.out _ (Below.refl _ _)) (fun _ _ hx _ => absurd hlt3 (by simp [hx])) (fun bk ok c2' hvv _ _ hcl => ?_)
                        injection hvv with e1 e2 e3
                        clear e2
                        subst e1 e3
                        obtain ⟨ur, hur, hrr⟩ := hcl k3 hlt3
                        obtain ⟨z, hz⟩ : ∃ z, z = tb[k3] := ⟨_, rfl⟩
                        rw [← hz] at hrr
                        have hzl : z.length = r := by rw [hz]; exact HBt.out.2 _ (List.getElem_mem hlt3)
                        have HZL := Lib.hid hzl
                        have HTK : Hid ((sumT ta l tb r).take (m + 1) = (sumT ta l tb r).take m ++ [List.replicate l 0 ++ z]) := Lib.hid (by rw [hz, HME.out]; exact sumT_take_b hlt3)
                        obtain ⟨ar, cr, hus⟩ := Sl.shape hrr
                        subst hus
                        have HRR := Lib.hid hrr
                        have HUR : Hid (∀ W, Below wf.heap.size wf W → W.cell? ⟨bk, ok + k3, none⟩ = some (.slice ar z.length cr)) := Lib.hid (fun W h => later h (Nat.le_refl _) hur)
                        have hmk2 := run_make_row' (P := Try.prog) 22 2 (.int .i64 0) 8 Try.underlying22 Try.infoI rfl .i64 .i64 l (by omega) (by omega)
                        have HMK := Lib.hid hmk2
                        obtain ⟨TR, hTR⟩ : ∃ TR, TR = (sumT ta l tb r).take m := ⟨_, rfl⟩
                        have HTL : Hid (TR.length = m) := Lib.hid (by rw [hTR, List.length_take, sumT_length]; have := HME.out; omega)
                        rw [← hTR] at HGU HTK
                        clear hcl hur hrr hz hzl hTR hmk2
                        go_upto_region 22 with fail
                        go_wp2
                        refine wp_region_held (S := fun W => Below (wf.heap.size) wf W) (by kernel_rfl) ?_
                        have S0 : Below (wf.heap.size) wf wu.drew := HBU.out.drew
                        have hB0 : wf.heap.size ≤ wf.heap.size := Nat.le_refl _
                        have hsd : wu.heap.size ≤ wu.drew.heap.size := Nat.le_refl _
                        have hbd : Below wu.heap.size wu wu.drew := (Below.refl _ _).drew
                        change wpAnyH _ _ _ _ _ _ _ _ wu.drew
                        obtain ⟨wd, hwd⟩ : ∃ wd, wd = wu.drew := ⟨_, rfl⟩
                        rw [← hwd] at S0 hsd hbd ⊢
                        clear hwd
                        refine held_take (i := 0) (v := .slice ao m co) (some 99) rfl rfl (by kernel_rfl) (by kernel_rfl) (by kernel_rfl) (fun _ _ _ h => h) (yieldsIf_move (by kernel_rfl) rfl (by kernel_rfl)) S0 ?_
                        refine held_take (i := 1) (v := .agg #[.int .i64 p, .slice ad ds.length cap, .slice am ms.length capm]) (some 100) rfl rfl (by kernel_rfl) (by kernel_rfl) (by kernel_rfl) (fun _ _ _ h => h) (yieldsIf_cell (by kernel_rfl) rfl (by kernel_rfl) (fun W h => hload3x (HNF.out W h).1)) S0 ?_
                        refine held_take (i := 2) (v := .int .i64 (k : Int)) (some 101) rfl rfl (by kernel_rfl) (by kernel_rfl) (by kernel_rfl) (fun _ _ _ h => h) (yieldsIf_move (by kernel_rfl) rfl (by kernel_rfl)) S0 ?_
                        refine held_take (i := 3) (v := .int .i64 (q : Int)) (some 102) rfl rfl (by kernel_rfl) (by kernel_rfl) (by kernel_rfl) (fun _ _ _ h => h) (yieldsIf_bin (by kernel_rfl) rfl (by kernel_rfl) (by kernel_rfl) (fun _ => rfl) (hsubA hwq.out)) S0 ?_
                        refine held_take (i := 6) (v := .slice (some ⟨bk, ok, none⟩) tb.length cv) (some 105) rfl rfl (by kernel_rfl) (by kernel_rfl) (by kernel_rfl) (fun _ _ _ h => h) (yieldsIf_move (by kernel_rfl) rfl (by kernel_rfl)) S0 ?_
                        refine held_take (i := 7) (v := .int .i64 (k3 : Int)) (some 106) rfl rfl (by kernel_rfl) (by kernel_rfl) (by kernel_rfl) (fun _ _ _ h => h) (yieldsIf_move (by kernel_rfl) rfl (by kernel_rfl)) S0 ?_
                        refine held_take (i := 8) (v := .pointer (some ⟨bk, ok + k3, none⟩)) (some 107) rfl rfl (by kernel_rfl) (by kernel_rfl) (by kernel_rfl) (fun _ _ _ h => h) (yieldsIf_index (by kernel_rfl) rfl (by kernel_rfl) (by kernel_rfl) (hidxS bk ok cv hlt3)) S0 ?_
                        refine held_take (i := 9) (v := .slice ar z.length cr) (some 108) rfl rfl (by kernel_rfl) (by kernel_rfl) (by kernel_rfl) (fun _ _ _ h => h) (yieldsIf_cell (by kernel_rfl) rfl (by kernel_rfl) (fun W h => hloadS W (HUR.out W h))) S0 ?_
                        refine held_one (i := 4) (by kernel_rfl) ?_
                        · refine op_enter (i := 4) (some 103) (f := 91) (args := #[.agg #[.int .i64 p, .slice ad ds.length cap, .slice am ms.length capm], .int .i64 (q : Int)]) rfl rfl rfl (by kernel_rfl) (HE1.out wd S0) ?_ (fun c w' h => by cases h.1) (fun w' h => by cases h.1)
                          rintro ee W1 ⟨he, hb1⟩
                          injection he with he
                          subst he
                          have S1 : Below (wf.heap.size) wf W1 := S0.trans (hb1.mono (Nat.le_trans hB0 S0.size))
                          refine ⟨S1, ?_⟩
                          obtain ⟨we, hwe⟩ : ∃ we, we = W1.alloc (.cells (madeCells #[.int .i64 0] l) 2) := ⟨_, rfl⟩
                          have hbe : Below W1.heap.size W1 we := by rw [hwe]; exact below_alloc1 _ _
                          have hge : Gb W1.heap.size we (.slice (some ⟨W1.heap.size, 0, none⟩) l l) (List.replicate l 0) := by rw [hwe]; exact madeI W1 l (by omega) _ (Nat.le_refl _)
                          have SE : Below wf.heap.size wf we := S1.trans (hbe.mono S1.size)
                          refine held_mem (i := 5) (v := .slice (some ⟨W1.heap.size, 0, none⟩) l l) (w' := we) (some 104) (by kernel_rfl) rfl rfl rfl (by rw [hwe]; have := HMK.out; go_simp) SE ?_
                          obtain ⟨v3, w3, hrun, hg3, hgr3⟩ := run_append_row we 22 _ _ hge (.slice ar z.length cr) z (HRR.out.below SE) (by have := HZL.out; simp; omega) hbe.size
                          have S3 : Below wf.heap.size wf w3 := SE.grown hgr3 SE.size (fun g0 hg0 => Nat.le_trans S1.size (hge.lt g0 hg0).1)
                          have hbw : Below W1.heap.size W1 w3 := hbe.grown hgr3 hbe.size (fun g0 hg0 => (hge.lt g0 hg0).1)
                          have gg3 := ((HGU.out.below hbd).below hb1).below hbw
                          have hwd : wf.heap.size ≤ W1.heap.size := S1.size
                          refine held_call (i := 10) (by kernel_rfl) rfl rfl ?_
                          refine Lib.wp_append_run _ (.tmp 104) (.tmp 108) _ _ rfl _ _ (by kernel_rfl) (by kernel_rfl) _ _ hrun ?_
                          refine ⟨S3, ?_⟩
                          obtain ⟨a3, n3, c3, hv3⟩ : ∃ a n c, v3 = .slice a n c := by obtain ⟨a', c', ee⟩ := Sl.shape hg3.g1.l1; exact ⟨a', _, c', ee⟩
                          subst hv3
                          have hba : Below w3.heap.size w3 (w3.alloc (.cells #[.slice a3 n3 c3] 22)) := below_alloc1 _ _
                          have SA : Below wf.heap.size wf (w3.alloc (.cells #[.slice a3 n3 c3] 22)) := S3.trans (hba.mono S3.size)
                          have ggA := gg3.below hba
                          refine held_buildS (i := 11) (some 110) (by kernel_rfl) rfl rfl rfl (.tmp 109) a3 n3 c3 rfl (by kernel_rfl) ⟨SA, ?_⟩
                          refine held_call (i := 12) (by kernel_rfl) rfl rfl ?_
                          refine wp_appendS1o (some 111) rfl (.tmp 99) (.tmp 110) rfl (some g9) wf.heap.size (.slice ao m co) TR (by kernel_rfl) ggA w3.heap.size (by kernel_rfl) a3 n3 c3 (cell_alloc1 w3 _ _) (List.replicate l 0 ++ z) (hg3.g1.below hba) (hg3.offB (by omega)) (by rw [HTL.out]; omega) SA.size ?_
                          rw [HTL.out]
                          intro gg gc W7 hg7 hgr7
                          have S7 : Below wf.heap.size wf W7 := SA.grown hgr7 SA.size (fun g0 hg0 => (ggA.gs.lt g0 hg0).1)
                          refine ⟨S7, ?_⟩
                          refine held_take (i := 13) (v := .slice (some ⟨gg, 0, none⟩) (m + 1) gc) (some 9) rfl rfl (by kernel_rfl) (by kernel_rfl) (by kernel_rfl) (fun _ _ _ h => h) (yieldsIf_assign (by kernel_rfl) rfl (by kernel_rfl)) S7 ?_
                          refine wpAnyH_done (by kernel_rfl) ?_ _
                          simp only [Act.put, List.setIfInBounds_toArray, List.set_cons_zero, List.set_cons_succ]
                          have HB7 := Lib.hid S7
                          have HG7 : Hid (Grb (some g9) wf.heap.size W7 (.slice (some ⟨gg, 0, none⟩) (m + 1) gc) ((sumT ta l tb r).take (m + 1))) := Lib.hid (by rw [HTK.out]; exact hg7)
                          clear S0 S1 S3 SE SA S7 gg3 ggA hbw hba hrun hg3 hgr3 hg7 hgr7 hb1 hbd hsd hB0 hbe hge hwe HMK
                          go_wp2
                          go_roundw
                          case rel => exact ⟨k3 + 1, m + 1, _, _, by omega, Lib.hid (by have := HME.out; omega), rfl, by go_num, HB7, HG7⟩
                          case measure => simp [intOf]; omega
                      · have hlk3 : ¬ (k3 : Int) < (tb.length : Int) := by omega
                        go_wp2_with fail
                        refine (HD2.out _ HBE.out).mono ?_
                        rintro ee wu ⟨rfl, hb2⟩
                        have HBU := Lib.hid (HBE.out.trans (hb2.mono HBE.out.size))
                        have HGU := Lib.hid (HG.out.below hb2)
                        clear hb2 c0 c1 c2 HG HBE
                        have HGF : Hid (Grb (some g9) wf.heap.size wu (.slice ao m co) (sumT ta l tb r)) := Lib.hid (by have h0 := HGU.out; rwa [List.take_of_length_le (by rw [sumT_length]; have := HME.out; omega)] at h0)
                        have HSU := Lib.hid (HS9.out.next HBU.out)
                        have g2 : wu.cell? ⟨g, 2, none⟩ = some (.slice a2 q cc2) := HSU.out.box.cell (i := 2) (by omega)
                        obtain ⟨TQ, hTQ⟩ : ∃ TQ, TQ = (axM ds ms ds2 ms2).take q := ⟨_, rfl⟩
                        have hqt : q < t := by have := HKQ.out; have := HN.out; omega
                        have HQL : Hid (TQ.length = q) := Lib.hid (by rw [hTQ, List.length_take, axM_length]; have := HT.out; omega)
                        have HXM : Hid ((axM ds ms ds2 ms2).take (q + 1) = TQ ++ [sumT ta l tb r]) := Lib.hid (by rw [hTQ, List.take_succ_eq_append_getElem (by rw [axM_length]; have := HT.out; omega), HAX.out])
                        rw [← hTQ] at HSU
                        have hba : Below wu.heap.size wu (wu.alloc (.cells #[.slice ao m co] 41)) := below_alloc1 _ _
                        have HSA := Lib.hid (HSU.out.next hba)
                        have HMT := Lib.hid HSA.out.maps
                        have hcell := cell_alloc1 wu (.slice ao m co) 41
                        have HGR := Lib.hid (HGF.out.gr.below hba)
                        have hc5 : TQ.length ≤ 2097151 := by rw [HQL.out]; omega
                        have HC5 := Lib.hid hc5
                        have hc6 : wB.heap.size ≤ (wu.alloc (.cells #[.slice ao m co] 41)).heap.size := HSA.out.below.size
                        have HC6 := Lib.hid hc6
                        clear hc5 hc6 hba hTQ HGU HSU
                        go_wp2_with (at_builtin; refine wpList_appendT1o rfl (some 116) rfl (.tmp 113) (.tmp 115) rfl wB.heap.size (.slice a2 q cc2) TQ rfl (some g9) HMT.out wu.heap.size rfl ao m co hcell (sumT ta l tb r) HGR.out HC5.out HC6.out ?_)
                        rw [HQL.out]
                        intro g8 c8 w8 hn8 hgw8
                        have HSN : Hid (Sdo wB (w8.setCell ⟨g, 2, none⟩ (.slice (some ⟨g8, 0, none⟩) (q + 1) c8)) g p (.slice (some ⟨g9, 0, none⟩) (k + 1) c9) (.slice (some ⟨g8, 0, none⟩) (q + 1) c8) ((axD ds ms ds2 ms2).take (k + 1)) ((axM ds ms ds2 ms2).take (q + 1))) := Lib.hid (by rw [HXM.out]; exact HSA.out.stepM hgw8 hn8)
                        obtain ⟨vs8, ho8, _⟩ := HSA.out.maps
                        have hrb := row_grown HSA.out.box ho8 coT.2.2 hgw8
                        have z1 : w8.cell? ⟨g, 2, none⟩ = some (.slice a2 q cc2) := hrb.cell (i := 2) (by omega)
                        have z2 : w8.frozen? ⟨g, 2, none⟩ = false := hrb.frozen 2
                        have HQ3 : Hid (q + 1 = k + 1 - 1) := Lib.hid (by have := HKQ.out; omega)
                        clear hn8 hgw8 hrb hcell g2 HSA HMT ho8
                        go_wp2
                        go_roundw
                        case rel => exact ⟨k + 1, q + 1, _, _, _, _, by omega, by go_num, HQ3, HSN, HFT2⟩
                        case measure => simp [intOf]; omega
    · have hlk : ¬ (k : Int) < (n : Int) := by omega
      have hkn : k = n := by omega
      have hqt : q = t := by have := HQ.out; have := HN.out; omega
      have HFIT : Hid (AxOk p ds ms p ds2 ms2) := Lib.hid ⟨HC.out, HC2.out, rfl, fun j hj => HFT.out j (by have := HT.out; have := HN.out; omega)⟩
      have HSF : Hid (Sdo wB wx g p (.slice a1 n cc1) (.slice a2 t cc2) (axD ds ms ds2 ms2) (axM ds ms ds2 ms2)) := Lib.hid (by have h0 := HS.out; rw [hkn, hqt, List.take_of_length_le (by rw [axD_length]; have := HT.out; have := HN.out; omega), List.take_of_length_le (by rw [axM_length]; have := HT.out; omega)] at h0; exact h0)
      clear HS
      have HNF := Lib.hid (HNW.out _ (Below.refl _ _))
      have x0 : wx.cell? ⟨g, 0, none⟩ = some (.int .i64 p) := HSF.out.box.cell (i := 0) (by omega)
      have x1 : wx.cell? ⟨g, 1, none⟩ = some (.slice a1 n cc1) := HSF.out.box.cell (i := 1) (by omega)
      have x2 : wx.cell? ⟨g, 2, none⟩ = some (.slice a2 t cc2) := HSF.out.box.cell (i := 2) (by omega)
      clear hkn hqt
      have HR1 : ∃ x0 x1 x2, wx.heap[w.heap.size + 2]? = some (.cells #[x0, x1, x2] 28) := ⟨_, _, _, HNF.out.2.2⟩
      obtain ⟨v0, v1, v2, hr⟩ := HR1
      have r0 : wx.rowIs (w.heap.size + 2) 28 3 (sel3 v0 v1 v2) := rowIs3 hr
      have q0 : wx.cell? ⟨w.heap.size + 2, 0, none⟩ = some v0 := r0.cell (i := 0) (by omega)
      have z0 : wx.frozen? ⟨w.heap.size + 2, 0, none⟩ = false := r0.frozen 0
      have r1 := r0.set 0 (.int .i64 p)
      have q1 : (wx.setCell ⟨w.heap.size + 2, 0, none⟩ (.int .i64 p)).cell? ⟨w.heap.size + 2, 1, none⟩ = some v1 := r1.cell (i := 1) (by omega)
      have z1 : (wx.setCell ⟨w.heap.size + 2, 0, none⟩ (.int .i64 p)).frozen? ⟨w.heap.size + 2, 1, none⟩ = false := r1.frozen 1
      have r2 := r1.set 1 (.slice a1 n cc1)
      have q2 : ((wx.setCell ⟨w.heap.size + 2, 0, none⟩ (.int .i64 p)).setCell ⟨w.heap.size + 2, 1, none⟩ (.slice a1 n cc1)).cell? ⟨w.heap.size + 2, 2, none⟩ = some v2 := r2.cell (i := 2) (by omega)
      have z2 : ((wx.setCell ⟨w.heap.size + 2, 0, none⟩ (.int .i64 p)).setCell ⟨w.heap.size + 2, 1, none⟩ (.slice a1 n cc1)).frozen? ⟨w.heap.size + 2, 2, none⟩ = false := r2.frozen 2
      have r3 := r2.set 2 (.slice a2 t cc2)
      obtain ⟨WF, hWF⟩ : ∃ W : World, W = (((wx.setCell ⟨w.heap.size + 2, 0, none⟩ (.int .i64 p)).setCell ⟨w.heap.size + 2, 1, none⟩ (.slice a1 n cc1)).setCell ⟨w.heap.size + 2, 2, none⟩ (.slice a2 t cc2)) := ⟨_, rfl⟩
      have hbWF : ∀ B (w0 : World), B ≤ w.heap.size + 2 → Below B w0 wx → Below B w0 WF := fun B w0 hl hb => by rw [hWF]; exact (((hb.setCell (by show B ≤ w.heap.size + 2; exact hl) _).setCell (by show B ≤ w.heap.size + 2; exact hl) _).setCell (by show B ≤ w.heap.size + 2; exact hl) _)
      have hsWF : ∀ lo hi, w.heap.size + 2 < lo ∨ hi ≤ w.heap.size + 2 → Same lo hi wx WF := fun lo hi hl => by rw [hWF]; exact (((Same.set _ hl).trans (Same.set _ hl)).trans (Same.set _ hl))
      have hzWF : WF.heap.size = wx.heap.size := by rw [hWF]; simp
      rw [← hWF] at r3
      have f0 : WF.cell? ⟨w.heap.size + 2, 0, none⟩ = some (.int .i64 p) := r3.cell (i := 0) (by omega)
      have f1 : WF.cell? ⟨w.heap.size + 2, 1, none⟩ = some (.slice a1 n cc1) := r3.cell (i := 1) (by omega)
      have f2 : WF.cell? ⟨w.heap.size + 2, 2, none⟩ = some (.slice a2 t cc2) := r3.cell (i := 2) (by omega)
      have HWWF := Lib.hid hWF
      clear hr r0 r1 r2 r3 hWF
      have HBF := Lib.hid (hbWF w.heap.size w (by omega) HNF.out.1.below)
      have HGD : Hid (Gb 0 WF (.slice a1 n cc1) (axD ds ms ds2 ms2)) := Lib.hid (by rw [HWWF.out]; exact (HSF.out.dims.mono (Nat.zero_le _)).off3 HNF.out.2.2 coT.1 _ _ _)
      have HGM : Hid (Gt 0 WF (.slice a2 t cc2) (axM ds ms ds2 ms2)) := Lib.hid (by rw [HWWF.out]; exact HSF.out.maps.gt.zero.off3 HNF.out.2.2 coT _ _ _)
      clear hsWF hbWF hzWF
      go_wp2
      rw [← HWWF.out]
      refine bodyPost_ret (v := .tuple #[.agg #[.int .i64 p, .slice a1 n cc1, .slice a2 t cc2], .int .i64 0]) ?_ rfl ?_
      · simp only [results, HRES.out]
        go_simp
      · exact ⟨_, axOut p ds ms p ds2 ms2, 0, rfl, ⟨a1, cc1, a2, cc2, by show _ = Value.agg #[.int .i64 p, .slice _ (axD ds ms ds2 ms2).length _, .slice _ (axM ds ms ds2 ms2).length _]; rw [axD_length, axM_length, ← HT.out, ← HN.out], by show Gb 0 _ (.slice _ (axD ds ms ds2 ms2).length _) (axD ds ms ds2 ms2); rw [axD_length, ← HT.out, ← HN.out]; exact HGD.out, by show Gt 0 _ (.slice _ (axM ds ms ds2 ms2).length _) (axM ds ms ds2 ms2); rw [axM_length, ← HT.out]; exact HGM.out⟩, HBF.out, RsOut.of_yes HFIT.out.code rfl⟩
end Go.Proofs.Ytpdkfidmmjlmnaa
