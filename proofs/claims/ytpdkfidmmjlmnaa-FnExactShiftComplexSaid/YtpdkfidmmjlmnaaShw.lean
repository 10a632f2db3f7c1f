/-
  ShiftComplex of the program.
-/
import Derived.Test.YtpdkfidmmjlmnaaShm
import Derived.Test.YtpdkfidmmjlmnaaStx
import Derived.Test.YtpdkfidmmjlmnaaHld
import Derived.Test.YtpdkfidmmjlmnaaDual
import Derived.Deep.Cut
import Derived.Deep.CutRange
import Derived.StillTailTactics
namespace Go.Proofs.Ytpdkfidmmjlmnaa
open Go.RowKit

set_option maxHeartbeats 12800000 in
set_option maxRecDepth 100000 in
theorem shiftComplex_any (p k : Int) (dv mv : Value) (ds : List Int) (ms : List (List (List Int))) (w : World) (h : Cx 0 w dv mv ds ms) (hd : ds.length ≤ 1048576) (hm : Bd3 1048576 ms) :
    Calls Try.prog 60 #[.agg #[.int .i64 p, dv, mv], .int .i64 k] w (AnsW RwC (fun o => o = shOut p k ds ms) (0, [], []) (shCode p k ds ms) w) := by
  have hres : Try.f60.results = #[.cell 4 28, .tmp 5] := by kernel_rfl
  have HRES := Lib.hid hres
  have HM := Lib.hid hm
  obtain ⟨wa, hwa⟩ : ∃ wa, wa = w.alloc (.cells #[.int .i64 p, dv, mv] 28) := ⟨_, rfl⟩
  obtain ⟨w1, hw1⟩ : ∃ w1, w1 = wa.alloc (.cells #[.int .i64 0, .slice none 0 0, .slice none 0 0] 28) := ⟨_, rfl⟩
  have hsa : wa.heap.size = w.heap.size + 1 := by rw [hwa]; simp
  have hs1 : w.heap.size + 2 ≤ w1.heap.size := by rw [hw1]; simp [hsa]
  have HX : Hid (Bx w w1 w.heap.size p dv mv ds ms) := Lib.hid (by rw [hw1]; exact (show Bx w wa w.heap.size p dv mv ds ms by rw [hwa]; exact Bx.start _ h).next (below_alloc1 _ _))
  have HR0 : Hid (Rz w1 (w.heap.size + 1) 28 #[.int .i64 0, .slice none 0 0, .slice none 0 0]) := Lib.hid (by rw [hw1, ← hsa]; exact Rz.new _ _ _)
  obtain ⟨ad, cap, rfl⟩ := Sl.shape h.dims
  obtain ⟨am, capm, rfl⟩ := Sl.shape h.maps
  have HNX : Hid (∀ W, Below w1.heap.size w1 W → Bx w W w.heap.size p (.slice ad ds.length cap) (.slice am ms.length capm) ds ms ∧ Rz W (w.heap.size + 1) 28 #[.int .i64 0, .slice none 0 0, .slice none 0 0]) := Lib.hid (fun W hb => ⟨HX.out.next hb, HR0.out.next hb⟩)
  have HB0 : Hid (Below w1.heap.size w1 w1) := Lib.hid (Below.refl _ _)
  have c0 := HX.out.c0
  have c1 := HX.out.c1
  have c2 := HX.out.c2
  clear h hm hres HX HR0
  go_enter Try.func60, Try.ntmps60
  go_upto_region 1 with fail
  rw [← hwa, ← hw1]
  clear hwa hw1 hsa
  by_cases hc : ¬ IsCx p ds ms
  · have HC := Lib.hid hc
    have HCODE : Hid (shCode p k ds ms = 1) := Lib.hid (by unfold shCode; rw [if_pos hc])
    clear hc
    go_wp2_with fail
    refine (isComplex_any p _ _ ds ms _ (HNX.out _ HB0.out).1.cx hd HM.out).mono ?_
    rintro ee wA ⟨b, rfl, hb, hbb⟩
    obtain rfl : b = false := bb_no hbb HC.out
    clear hbb
    have HBA := Lib.hid (HB0.out.trans (hb.mono HB0.out.size))
    clear c0 c1 c2
    clear hb
    have c0 := (HNX.out _ HBA.out).1.c0
    have c1 := (HNX.out _ HBA.out).1.c1
    have c2 := (HNX.out _ HBA.out).1.c2
    have HR1 : ∃ x0 x1 x2, wA.heap[w.heap.size + 1]? = some (.cells #[x0, x1, x2] 28) := ⟨_, _, _, (HNX.out _ HBA.out).2⟩
    obtain ⟨x0, x1, x2, hr⟩ := HR1
    have r0 : wA.rowIs (w.heap.size + 1) 28 3 (sel3 x0 x1 x2) := rowIs3 hr
    have q0 : wA.cell? ⟨w.heap.size + 1, 0, none⟩ = some x0 := r0.cell (i := 0) (by omega)
    have z0 : wA.frozen? ⟨w.heap.size + 1, 0, none⟩ = false := r0.frozen 0
    have r1 := r0.set 0 (.int .i64 0)
    have q1 : (wA.setCell ⟨w.heap.size + 1, 0, none⟩ (.int .i64 0)).cell? ⟨w.heap.size + 1, 1, none⟩ = some x1 := r1.cell (i := 1) (by omega)
    have z1 : (wA.setCell ⟨w.heap.size + 1, 0, none⟩ (.int .i64 0)).frozen? ⟨w.heap.size + 1, 1, none⟩ = false := r1.frozen 1
    have r2 := r1.set 1 (.slice none 0 0)
    have q2 : ((wA.setCell ⟨w.heap.size + 1, 0, none⟩ (.int .i64 0)).setCell ⟨w.heap.size + 1, 1, none⟩ (.slice none 0 0)).cell? ⟨w.heap.size + 1, 2, none⟩ = some x2 := r2.cell (i := 2) (by omega)
    have z2 : ((wA.setCell ⟨w.heap.size + 1, 0, none⟩ (.int .i64 0)).setCell ⟨w.heap.size + 1, 1, none⟩ (.slice none 0 0)).frozen? ⟨w.heap.size + 1, 2, none⟩ = false := r2.frozen 2
    have r3 := r2.set 2 (.slice none 0 0)
    obtain ⟨WF, hWF⟩ : ∃ W : World, W = (((wA.setCell ⟨w.heap.size + 1, 0, none⟩ (.int .i64 0)).setCell ⟨w.heap.size + 1, 1, none⟩ (.slice none 0 0)).setCell ⟨w.heap.size + 1, 2, none⟩ (.slice none 0 0)) := ⟨_, rfl⟩
    have hbWF : ∀ B (w0 : World), B ≤ w.heap.size + 1 → Below B w0 wA → Below B w0 WF := fun B w0 hl hb => by rw [hWF]; exact (((hb.setCell (by show B ≤ w.heap.size + 1; exact hl) _).setCell (by show B ≤ w.heap.size + 1; exact hl) _).setCell (by show B ≤ w.heap.size + 1; exact hl) _)
    have hsWF : ∀ lo hi, w.heap.size + 1 < lo ∨ hi ≤ w.heap.size + 1 → Same lo hi wA WF := fun lo hi hl => by rw [hWF]; exact (((Same.set _ hl).trans (Same.set _ hl)).trans (Same.set _ hl))
    have hzWF : WF.heap.size = wA.heap.size := by rw [hWF]; simp
    rw [← hWF] at r3
    have f0 : WF.cell? ⟨w.heap.size + 1, 0, none⟩ = some (.int .i64 0) := r3.cell (i := 0) (by omega)
    have f1 : WF.cell? ⟨w.heap.size + 1, 1, none⟩ = some (.slice none 0 0) := r3.cell (i := 1) (by omega)
    have f2 : WF.cell? ⟨w.heap.size + 1, 2, none⟩ = some (.slice none 0 0) := r3.cell (i := 2) (by omega)
    have HWWF := Lib.hid hWF
    clear hr r0 r1 r2 r3 hWF
    have HBF := Lib.hid (hbWF w.heap.size w (by omega) (HNX.out _ HBA.out).1.below)
    clear hsWF hbWF hzWF
    go_wp2
    rw [← HWWF.out]
    refine bodyPost_ret (v := .tuple #[.agg #[.int .i64 0, .slice none 0 0, .slice none 0 0], .int .i64 1]) ?_ rfl ?_
    · simp only [results, HRES.out]
      go_simp
    · exact ⟨_, (0, [], []), 1, rfl, RwC.nil _ _ _, HBF.out, by rw [HCODE.out]; exact RsOut.of_no (by decide)⟩
  have HC := Lib.hid (Classical.not_not.1 hc)
  clear hc
  go_wp2_with fail
  refine (isComplex_any p _ _ ds ms _ (HNX.out _ HB0.out).1.cx hd HM.out).mono ?_
  rintro ee wA ⟨b, rfl, hb, hbb⟩
  obtain rfl : b = true := hbb.2 HC.out
  clear hbb
  have HBA := Lib.hid (HB0.out.trans (hb.mono HB0.out.size))
  clear c0 c1 c2
  clear hb
  have c0 := (HNX.out _ HBA.out).1.c0
  have c1 := (HNX.out _ HBA.out).1.c1
  have c2 := (HNX.out _ HBA.out).1.c2
  by_cases hk : ¬ (0 ≤ k ∧ k ≤ 5)
  · have HK := Lib.hid hk
    have HCODE : Hid (shCode p k ds ms = 2) := Lib.hid (by unfold shCode; rw [if_neg (fun x => x HC.out), if_pos hk])
    clear hk
    go_wp2_with fail
    refine (in_no HK.out _).mono ?_
    rintro ee w' ⟨rfl, rfl⟩
    have HR1 : ∃ x0 x1 x2, wA.heap[w.heap.size + 1]? = some (.cells #[x0, x1, x2] 28) := ⟨_, _, _, (HNX.out _ HBA.out).2⟩
    obtain ⟨x0, x1, x2, hr⟩ := HR1
    have r0 : wA.rowIs (w.heap.size + 1) 28 3 (sel3 x0 x1 x2) := rowIs3 hr
    have q0 : wA.cell? ⟨w.heap.size + 1, 0, none⟩ = some x0 := r0.cell (i := 0) (by omega)
    have z0 : wA.frozen? ⟨w.heap.size + 1, 0, none⟩ = false := r0.frozen 0
    have r1 := r0.set 0 (.int .i64 0)
    have q1 : (wA.setCell ⟨w.heap.size + 1, 0, none⟩ (.int .i64 0)).cell? ⟨w.heap.size + 1, 1, none⟩ = some x1 := r1.cell (i := 1) (by omega)
    have z1 : (wA.setCell ⟨w.heap.size + 1, 0, none⟩ (.int .i64 0)).frozen? ⟨w.heap.size + 1, 1, none⟩ = false := r1.frozen 1
    have r2 := r1.set 1 (.slice none 0 0)
    have q2 : ((wA.setCell ⟨w.heap.size + 1, 0, none⟩ (.int .i64 0)).setCell ⟨w.heap.size + 1, 1, none⟩ (.slice none 0 0)).cell? ⟨w.heap.size + 1, 2, none⟩ = some x2 := r2.cell (i := 2) (by omega)
    have z2 : ((wA.setCell ⟨w.heap.size + 1, 0, none⟩ (.int .i64 0)).setCell ⟨w.heap.size + 1, 1, none⟩ (.slice none 0 0)).frozen? ⟨w.heap.size + 1, 2, none⟩ = false := r2.frozen 2
    have r3 := r2.set 2 (.slice none 0 0)
    obtain ⟨WF, hWF⟩ : ∃ W : World, W = (((wA.setCell ⟨w.heap.size + 1, 0, none⟩ (.int .i64 0)).setCell ⟨w.heap.size + 1, 1, none⟩ (.slice none 0 0)).setCell ⟨w.heap.size + 1, 2, none⟩ (.slice none 0 0)) := ⟨_, rfl⟩
    have hbWF : ∀ B (w0 : World), B ≤ w.heap.size + 1 → Below B w0 wA → Below B w0 WF := fun B w0 hl hb => by rw [hWF]; exact (((hb.setCell (by show B ≤ w.heap.size + 1; exact hl) _).setCell (by show B ≤ w.heap.size + 1; exact hl) _).setCell (by show B ≤ w.heap.size + 1; exact hl) _)
    have hsWF : ∀ lo hi, w.heap.size + 1 < lo ∨ hi ≤ w.heap.size + 1 → Same lo hi wA WF := fun lo hi hl => by rw [hWF]; exact (((Same.set _ hl).trans (Same.set _ hl)).trans (Same.set _ hl))
    have hzWF : WF.heap.size = wA.heap.size := by rw [hWF]; simp
    rw [← hWF] at r3
    have f0 : WF.cell? ⟨w.heap.size + 1, 0, none⟩ = some (.int .i64 0) := r3.cell (i := 0) (by omega)
    have f1 : WF.cell? ⟨w.heap.size + 1, 1, none⟩ = some (.slice none 0 0) := r3.cell (i := 1) (by omega)
    have f2 : WF.cell? ⟨w.heap.size + 1, 2, none⟩ = some (.slice none 0 0) := r3.cell (i := 2) (by omega)
    have HWWF := Lib.hid hWF
    clear hr r0 r1 r2 r3 hWF
    have HBF := Lib.hid (hbWF w.heap.size w (by omega) (HNX.out _ HBA.out).1.below)
    clear hsWF hbWF hzWF
    go_wp2
    rw [← HWWF.out]
    refine bodyPost_ret (v := .tuple #[.agg #[.int .i64 0, .slice none 0 0, .slice none 0 0], .int .i64 2]) ?_ rfl ?_
    · simp only [results, HRES.out]
      go_simp
    · exact ⟨_, (0, [], []), 2, rfl, RwC.nil _ _ _, HBF.out, by rw [HCODE.out]; exact RsOut.of_no (by decide)⟩
  have HK := Lib.hid (Classical.not_not.1 hk)
  clear hk
  have hk0 := HK.out.1
  have hk5 := HK.out.2
  obtain ⟨K, hKe⟩ : ∃ K : Nat, k = (K : Int) := ⟨k.toNat, by omega⟩
  subst hKe
  have hl1 := HC.out.1.len1
  have hl0 := HC.out.1.len0
  have hl2 := HC.out.1.mlen
  go_wp2_with fail
  refine (in_yes HK.out _).mono ?_
  rintro ee w' ⟨rfl, rfl⟩
  have hwt : IntKind.i64.wrap ((ds.length : Int) - 1 + (K : Int)) = (ds.length : Int) - 1 + (K : Int) := IntWalk.i64_in _ (by omega)
  go_wp2_with fail
  refine (topOf_any p _ _ ds.length _ _ _ rfl hd).mono ?_
  rintro ee wB ⟨rfl, hb⟩
  have HBB := Lib.hid (HBA.out.trans (hb.mono HBA.out.size))
  clear c0 c1 c2
  clear hb
  have c0 := (HNX.out _ HBB.out).1.c0
  have c1 := (HNX.out _ HBB.out).1.c1
  have c2 := (HNX.out _ HBB.out).1.c2
  by_cases hf : 5 < (ds.length : Int) - 1 + (K : Int)
  · have HCODE : Hid (shCode p (K : Int) ds ms = 3) := Lib.hid (by unfold shCode; rw [if_neg (fun x => x HC.out), if_neg (fun x => x HK.out), if_pos hf])
    have HR1 : ∃ x0 x1 x2, wB.heap[w.heap.size + 1]? = some (.cells #[x0, x1, x2] 28) := ⟨_, _, _, (HNX.out _ HBB.out).2⟩
    obtain ⟨x0, x1, x2, hr⟩ := HR1
    have r0 : wB.rowIs (w.heap.size + 1) 28 3 (sel3 x0 x1 x2) := rowIs3 hr
    have q0 : wB.cell? ⟨w.heap.size + 1, 0, none⟩ = some x0 := r0.cell (i := 0) (by omega)
    have z0 : wB.frozen? ⟨w.heap.size + 1, 0, none⟩ = false := r0.frozen 0
    have r1 := r0.set 0 (.int .i64 0)
    have q1 : (wB.setCell ⟨w.heap.size + 1, 0, none⟩ (.int .i64 0)).cell? ⟨w.heap.size + 1, 1, none⟩ = some x1 := r1.cell (i := 1) (by omega)
    have z1 : (wB.setCell ⟨w.heap.size + 1, 0, none⟩ (.int .i64 0)).frozen? ⟨w.heap.size + 1, 1, none⟩ = false := r1.frozen 1
    have r2 := r1.set 1 (.slice none 0 0)
    have q2 : ((wB.setCell ⟨w.heap.size + 1, 0, none⟩ (.int .i64 0)).setCell ⟨w.heap.size + 1, 1, none⟩ (.slice none 0 0)).cell? ⟨w.heap.size + 1, 2, none⟩ = some x2 := r2.cell (i := 2) (by omega)
    have z2 : ((wB.setCell ⟨w.heap.size + 1, 0, none⟩ (.int .i64 0)).setCell ⟨w.heap.size + 1, 1, none⟩ (.slice none 0 0)).frozen? ⟨w.heap.size + 1, 2, none⟩ = false := r2.frozen 2
    have r3 := r2.set 2 (.slice none 0 0)
    obtain ⟨WF, hWF⟩ : ∃ W : World, W = (((wB.setCell ⟨w.heap.size + 1, 0, none⟩ (.int .i64 0)).setCell ⟨w.heap.size + 1, 1, none⟩ (.slice none 0 0)).setCell ⟨w.heap.size + 1, 2, none⟩ (.slice none 0 0)) := ⟨_, rfl⟩
    have hbWF : ∀ B (w0 : World), B ≤ w.heap.size + 1 → Below B w0 wB → Below B w0 WF := fun B w0 hl hb => by rw [hWF]; exact (((hb.setCell (by show B ≤ w.heap.size + 1; exact hl) _).setCell (by show B ≤ w.heap.size + 1; exact hl) _).setCell (by show B ≤ w.heap.size + 1; exact hl) _)
    have hsWF : ∀ lo hi, w.heap.size + 1 < lo ∨ hi ≤ w.heap.size + 1 → Same lo hi wB WF := fun lo hi hl => by rw [hWF]; exact (((Same.set _ hl).trans (Same.set _ hl)).trans (Same.set _ hl))
    have hzWF : WF.heap.size = wB.heap.size := by rw [hWF]; simp
    rw [← hWF] at r3
    have f0 : WF.cell? ⟨w.heap.size + 1, 0, none⟩ = some (.int .i64 0) := r3.cell (i := 0) (by omega)
    have f1 : WF.cell? ⟨w.heap.size + 1, 1, none⟩ = some (.slice none 0 0) := r3.cell (i := 1) (by omega)
    have f2 : WF.cell? ⟨w.heap.size + 1, 2, none⟩ = some (.slice none 0 0) := r3.cell (i := 2) (by omega)
    have HWWF := Lib.hid hWF
    clear hr r0 r1 r2 r3 hWF
    have HBF := Lib.hid (hbWF w.heap.size w (by omega) (HNX.out _ HBB.out).1.below)
    clear hsWF hbWF hzWF
    go_wp2
    rw [← HWWF.out]
    refine bodyPost_ret (v := .tuple #[.agg #[.int .i64 0, .slice none 0 0, .slice none 0 0], .int .i64 3]) ?_ rfl ?_
    · simp only [results, HRES.out]
      go_simp
    · exact ⟨_, (0, [], []), 3, rfl, RwC.nil _ _ _, HBF.out, by rw [HCODE.out]; exact RsOut.of_no (by decide)⟩
  have hf' : (ds.length : Int) - 1 + (K : Int) ≤ 5 := by omega
  have HOK : Hid (ShOk p (K : Int) ds ms) := Lib.hid ⟨HC.out, HK.out, hf'⟩
  obtain ⟨t, ht⟩ : ∃ t, t = K + ms.length := ⟨_, rfl⟩
  obtain ⟨n, hn⟩ : ∃ n, n = K + ds.length := ⟨_, rfl⟩
  have HT := Lib.hid ht
  have HN := Lib.hid hn
  have hnt : n = t + 1 := by omega
  have ht5 : t ≤ 5 := by omega
  have HNT := Lib.hid hnt
  have htn : t < n := by omega
  have hn6 : n ≤ 6 := by omega
  have hKt : K ≤ t := by omega
  have hte : (ds.length : Int) - 1 + (K : Int) = (t : Int) := by omega
  have hwt2 : IntKind.i64.wrap ((ds.length : Int) - 1 + (K : Int)) = (t : Int) := by rw [hwt, hte]
  have hf2 : ¬ 5 < (t : Int) := by omega
  clear ht hn hnt hf' hwt hf hte
  have hwn : IntKind.i64.wrap ((t : Int) + 1) = (n : Int) := by rw [show (t : Int) + 1 = (n : Int) by have := HNT.out; omega]; exact IntWalk.i64_in _ (by omega)
  have hsB : w1.heap.size ≤ wB.heap.size := HBB.out.size
  have hmk := run_make_row' (P := Try.prog) 22 2 (.int .i64 0) 8 Try.underlying22 Try.infoI rfl .i64 .i64 n (by omega) (by omega)
  have hmk2 := run_make_row' (P := Try.prog) 23 41 (.slice none 0 0) 24 Try.underlying23 Try.infoSS rfl .i64 .i64 t (by omega) (by omega)
  have hq0 : w.heap.size < wB.heap.size := by omega
  have hq1 : w.heap.size < wB.heap.size + 1 := by omega
  have hq2 : w.heap.size < wB.heap.size + 2 := by omega
  have hq3 : w.heap.size < wB.heap.size + 1 + 1 := by omega
  have hq4 : w.heap.size ≤ wB.heap.size := by omega
  have HNB : Hid (∀ W, Below wB.heap.size wB W → Bx w W w.heap.size p (.slice ad ds.length cap) (.slice am ms.length capm) ds ms ∧ Rz W (w.heap.size + 1) 28 #[.int .i64 0, .slice none 0 0, .slice none 0 0]) := Lib.hid (fun W hb => HNX.out _ (HBB.out.trans (hb.mono hsB)))
  go_upto_region 8 with fail
  go_cut [7] from 24 to 31 (fun s wx => ∃ g bd bm, s = .pointer (some ⟨g, 0, none⟩) ∧ Hid (Du wB wx g bd bm n t p (fun _ => .int .i64 0) (fun _ => .slice none 0 0)))
  case first =>
    clear c1 c2
    go_wp2
    refine wp_region_held (S := fun W => Below (wB.heap.size) wB W) (by kernel_rfl) ?_
    have S0 : Below (wB.heap.size) wB wB.drew := (Below.refl _ _).drew
    have hsd : wB.heap.size ≤ wB.drew.heap.size := Nat.le_refl _
    have hB0 : wB.heap.size ≤ wB.heap.size := by first | exact Nat.le_refl _ | omega
    change wpAnyH _ _ _ _ _ _ _ _ wB.drew
    obtain ⟨wd, hwd⟩ : ∃ wd, wd = wB.drew := ⟨_, rfl⟩
    rw [← hwd] at S0 hsd ⊢
    clear hwd
    refine held_take (i := 0) (v := .pointer (some ⟨w.heap.size, 0, none⟩)) (some 24) rfl rfl (by kernel_rfl) (by kernel_rfl) (by kernel_rfl) (fun _ _ _ h => h) (yieldsIf_run (by kernel_rfl) (fun W _ => by kernel_rfl)) S0 ?_
    refine held_take (i := 1) (v := .int .i64 p) (some 25) rfl rfl (by kernel_rfl) (by kernel_rfl) (by kernel_rfl) (fun _ _ _ h => h) (yieldsIf_cell (by kernel_rfl) rfl (by kernel_rfl) (fun W h => hload W ((HNB.out W h).1.c0))) S0 ?_
    refine held_take (i := 2) (v := .int .i64 (t : Int)) (some 26) rfl rfl (by kernel_rfl) (by kernel_rfl) (by kernel_rfl) (fun _ _ _ h => h) (yieldsIf_move (by kernel_rfl) rfl (by kernel_rfl)) S0 ?_
    refine held_take (i := 3) (v := .int .i64 (n : Int)) (some 27) rfl rfl (by kernel_rfl) (by kernel_rfl) (by kernel_rfl) (fun _ _ _ h => h) (yieldsIf_bin (by kernel_rfl) rfl (by kernel_rfl) (by kernel_rfl) (fun _ => rfl) (haddA hwn)) S0 ?_
    refine held_take (i := 5) (v := .int .i64 (t : Int)) (some 29) rfl rfl (by kernel_rfl) (by kernel_rfl) (by kernel_rfl) (fun _ _ _ h => h) (yieldsIf_move (by kernel_rfl) rfl (by kernel_rfl)) S0 ?_
    refine held_three (i := 4) (j := 6) (l := 8) (by kernel_rfl) ?_ ?_ ?_
    · obtain ⟨W1, hW1⟩ : ∃ W', W' = wd.alloc (.cells (madeCells #[.int .i64 0] n) 2) := ⟨_, rfl⟩
      have hb1 : Below wd.heap.size wd W1 := by rw [hW1]; exact below_alloc1 _ _
      have hz1 : W1.heap.size = wd.heap.size + 1 := by rw [hW1]; simp
      have S1 : Below (wB.heap.size) wB W1 := S0.trans (hb1.mono (by omega))
      have hD1 : W1.rowIs wd.heap.size 2 n (fun _ => .int .i64 0) := by rw [hW1]; exact World.rowIs_made wd _ _ _
      refine op_make (i := 4) (v := .slice (some ⟨wd.heap.size, 0, none⟩) n n) (w' := W1) (x := .int .i64 (n : Int)) (y := .int .i64 (n : Int)) (some 28) 22 (.tmp 27) (.tmp 27) rfl rfl rfl rfl (by kernel_rfl) (by kernel_rfl) (by rw [hW1]; exact hmk _) ?_
      refine ⟨S1, ?_⟩
      refine held_two (i := 6) (j := 8) (by kernel_rfl) ?_ ?_
      · obtain ⟨W2, hW2⟩ : ∃ W', W' = W1.alloc (.cells (madeCells #[.slice none 0 0] t) 41) := ⟨_, rfl⟩
        have hb2 : Below W1.heap.size W1 W2 := by rw [hW2]; exact below_alloc1 _ _
        have hz2 : W2.heap.size = W1.heap.size + 1 := by rw [hW2]; simp
        have S2 : Below (wB.heap.size) wB W2 := S1.trans (hb2.mono (by omega))
        have hD2 := hD1.of_block (hb2.block _ hD1.lt)
        have hM2 : W2.rowIs W1.heap.size 41 t (fun _ => .slice none 0 0) := by rw [hW2]; exact World.rowIs_made W1 _ _ _
        refine op_make (i := 6) (v := .slice (some ⟨W1.heap.size, 0, none⟩) t t) (w' := W2) (x := .int .i64 (t : Int)) (y := .int .i64 (t : Int)) (some 30) 23 (.tmp 29) (.tmp 29) rfl rfl rfl rfl (by kernel_rfl) (by kernel_rfl) (by rw [hW2]; exact hmk2 _) ?_
        refine ⟨S2, ?_⟩
        refine held_take (i := 7) (v := .agg #[.int .i64 p, .slice (some ⟨wd.heap.size, 0, none⟩) n n, .slice (some ⟨W1.heap.size, 0, none⟩) t t]) (some 31) rfl rfl (by kernel_rfl) (by kernel_rfl) (by kernel_rfl) (fun _ _ _ h => h) (yieldsIf_run (by kernel_rfl) (fun W _ => by kernel_rfl)) S2 ?_
        refine held_one (i := 8) (by kernel_rfl) ?_
        · obtain ⟨W3, hW3⟩ : ∃ W', W' = W2.alloc (.cells #[.int .i64 0, .slice none 0 0, .slice none 0 0] 28) := ⟨_, rfl⟩
          have hb3 : Below W2.heap.size W2 W3 := by rw [hW3]; exact below_alloc1 _ _
          have hz3 : W3.heap.size = W2.heap.size + 1 := by rw [hW3]; simp
          have S3 : Below (wB.heap.size) wB W3 := S2.trans (hb3.mono (by omega))
          have hD3 := hD2.of_block (hb3.block _ hD2.lt)
          have hM3 := hM2.of_block (hb3.block _ hM2.lt)
          have hR3 : Rz W3 W2.heap.size 28 #[.int .i64 0, .slice none 0 0, .slice none 0 0] := by rw [hW3]; exact Rz.new _ _ _
          refine op_mem (i := 8) (v := .pointer (some ⟨W2.heap.size, 0, none⟩)) (w' := W3) (some 7) rfl rfl rfl (by rw [hW3]; go_simp) ?_
          refine ⟨S3, ?_⟩
          have S9 : Below (wB.heap.size) wB (W3.setRow (W2.heap.size) #[.int .i64 p, .slice (some ⟨wd.heap.size, 0, none⟩) n n, .slice (some ⟨W1.heap.size, 0, none⟩) t t]) := below_setRow S3 (by omega) _
          refine held_one (i := 9) (by kernel_rfl) ?_
          refine op_row (i := 9) rfl rfl rfl 28 (.tmp 7) (.tmp 31) rfl (W2.heap.size) #[.int .i64 p, .slice (some ⟨wd.heap.size, 0, none⟩) n n, .slice (some ⟨W1.heap.size, 0, none⟩) t t] (by kernel_rfl) (by kernel_rfl) 28 _ hR3 (infoCo _ _ _) (by kernel_rfl) (by kernel_rfl) ?_
          refine ⟨S9, ?_⟩
          refine wpAnyH_done (by kernel_rfl) ?_ _
          simp only [Act.put, List.setIfInBounds_toArray, List.set_cons_zero, List.set_cons_succ]
          obtain ⟨WF, hWF⟩ : ∃ WF, WF = (W3.setRow (W2.heap.size) #[.int .i64 p, .slice (some ⟨wd.heap.size, 0, none⟩) n n, .slice (some ⟨W1.heap.size, 0, none⟩) t t]) := ⟨_, rfl⟩
          have hbF : Below (wB.heap.size) wB WF := by rw [hWF]; exact S9
          have hRF : Rz WF (W2.heap.size) 28 #[.int .i64 p, .slice (some ⟨wd.heap.size, 0, none⟩) n n, .slice (some ⟨W1.heap.size, 0, none⟩) t t] := by rw [hWF]; exact hR3.set _
          have hDF : WF.rowIs (wd.heap.size) 2 n (fun _ => .int .i64 0) := by rw [hWF]; exact hD3.of_block (setRow_other _ _ _ _ (by omega))
          have hMF : WF.rowIs (W1.heap.size) 41 t (fun _ => .slice none 0 0) := by rw [hWF]; exact hM3.of_block (setRow_other _ _ _ _ (by omega))
          have hG : (wB.heap.size ≤ W2.heap.size ∧ wB.heap.size ≤ wd.heap.size ∧ wB.heap.size ≤ W1.heap.size) ∧ W2.heap.size ≠ wd.heap.size ∧ W2.heap.size ≠ W1.heap.size ∧ wd.heap.size ≠ W1.heap.size := by omega
          rw [← hWF]
          clear hWF S9
          go_wp2
          go_meet
          exact ⟨_, _, _, rfl, Lib.hid ⟨hbF, hG.1, hG.2, rowIs3 hRF, hDF, hMF⟩⟩
      · obtain ⟨W4, hW4⟩ : ∃ W', W' = W1.alloc (.cells #[.int .i64 0, .slice none 0 0, .slice none 0 0] 28) := ⟨_, rfl⟩
        have hb4 : Below W1.heap.size W1 W4 := by rw [hW4]; exact below_alloc1 _ _
        have hz4 : W4.heap.size = W1.heap.size + 1 := by rw [hW4]; simp
        have S4 : Below (wB.heap.size) wB W4 := S1.trans (hb4.mono (by omega))
        have hD4 := hD1.of_block (hb4.block _ hD1.lt)
        have hR4 : Rz W4 W1.heap.size 28 #[.int .i64 0, .slice none 0 0, .slice none 0 0] := by rw [hW4]; exact Rz.new _ _ _
        refine op_mem (i := 8) (v := .pointer (some ⟨W1.heap.size, 0, none⟩)) (w' := W4) (some 7) rfl rfl rfl (by rw [hW4]; go_simp) ?_
        refine ⟨S4, ?_⟩
        refine held_one (i := 6) (by kernel_rfl) ?_
        · obtain ⟨W5, hW5⟩ : ∃ W', W' = W4.alloc (.cells (madeCells #[.slice none 0 0] t) 41) := ⟨_, rfl⟩
          have hb5 : Below W4.heap.size W4 W5 := by rw [hW5]; exact below_alloc1 _ _
          have hz5 : W5.heap.size = W4.heap.size + 1 := by rw [hW5]; simp
          have S5 : Below (wB.heap.size) wB W5 := S4.trans (hb5.mono (by omega))
          have hD5 := hD4.of_block (hb5.block _ hD4.lt)
          have hR5 := hR4.next hb5
          have hM5 : W5.rowIs W4.heap.size 41 t (fun _ => .slice none 0 0) := by rw [hW5]; exact World.rowIs_made W4 _ _ _
          refine op_make (i := 6) (v := .slice (some ⟨W4.heap.size, 0, none⟩) t t) (w' := W5) (x := .int .i64 (t : Int)) (y := .int .i64 (t : Int)) (some 30) 23 (.tmp 29) (.tmp 29) rfl rfl rfl rfl (by kernel_rfl) (by kernel_rfl) (by rw [hW5]; exact hmk2 _) ?_
          refine ⟨S5, ?_⟩
          refine held_take (i := 7) (v := .agg #[.int .i64 p, .slice (some ⟨wd.heap.size, 0, none⟩) n n, .slice (some ⟨W4.heap.size, 0, none⟩) t t]) (some 31) rfl rfl (by kernel_rfl) (by kernel_rfl) (by kernel_rfl) (fun _ _ _ h => h) (yieldsIf_run (by kernel_rfl) (fun W _ => by kernel_rfl)) S5 ?_
          have S9 : Below (wB.heap.size) wB (W5.setRow (W1.heap.size) #[.int .i64 p, .slice (some ⟨wd.heap.size, 0, none⟩) n n, .slice (some ⟨W4.heap.size, 0, none⟩) t t]) := below_setRow S5 (by omega) _
          refine held_one (i := 9) (by kernel_rfl) ?_
          refine op_row (i := 9) rfl rfl rfl 28 (.tmp 7) (.tmp 31) rfl (W1.heap.size) #[.int .i64 p, .slice (some ⟨wd.heap.size, 0, none⟩) n n, .slice (some ⟨W4.heap.size, 0, none⟩) t t] (by kernel_rfl) (by kernel_rfl) 28 _ hR5 (infoCo _ _ _) (by kernel_rfl) (by kernel_rfl) ?_
          refine ⟨S9, ?_⟩
          refine wpAnyH_done (by kernel_rfl) ?_ _
          simp only [Act.put, List.setIfInBounds_toArray, List.set_cons_zero, List.set_cons_succ]
          obtain ⟨WF, hWF⟩ : ∃ WF, WF = (W5.setRow (W1.heap.size) #[.int .i64 p, .slice (some ⟨wd.heap.size, 0, none⟩) n n, .slice (some ⟨W4.heap.size, 0, none⟩) t t]) := ⟨_, rfl⟩
          have hbF : Below (wB.heap.size) wB WF := by rw [hWF]; exact S9
          have hRF : Rz WF (W1.heap.size) 28 #[.int .i64 p, .slice (some ⟨wd.heap.size, 0, none⟩) n n, .slice (some ⟨W4.heap.size, 0, none⟩) t t] := by rw [hWF]; exact hR5.set _
          have hDF : WF.rowIs (wd.heap.size) 2 n (fun _ => .int .i64 0) := by rw [hWF]; exact hD5.of_block (setRow_other _ _ _ _ (by omega))
          have hMF : WF.rowIs (W4.heap.size) 41 t (fun _ => .slice none 0 0) := by rw [hWF]; exact hM5.of_block (setRow_other _ _ _ _ (by omega))
          have hG : (wB.heap.size ≤ W1.heap.size ∧ wB.heap.size ≤ wd.heap.size ∧ wB.heap.size ≤ W4.heap.size) ∧ W1.heap.size ≠ wd.heap.size ∧ W1.heap.size ≠ W4.heap.size ∧ wd.heap.size ≠ W4.heap.size := by omega
          rw [← hWF]
          clear hWF S9
          go_wp2
          go_meet
          exact ⟨_, _, _, rfl, Lib.hid ⟨hbF, hG.1, hG.2, rowIs3 hRF, hDF, hMF⟩⟩
    · obtain ⟨W6, hW6⟩ : ∃ W', W' = wd.alloc (.cells (madeCells #[.slice none 0 0] t) 41) := ⟨_, rfl⟩
      have hb6 : Below wd.heap.size wd W6 := by rw [hW6]; exact below_alloc1 _ _
      have hz6 : W6.heap.size = wd.heap.size + 1 := by rw [hW6]; simp
      have S6 : Below (wB.heap.size) wB W6 := S0.trans (hb6.mono (by omega))
      have hM6 : W6.rowIs wd.heap.size 41 t (fun _ => .slice none 0 0) := by rw [hW6]; exact World.rowIs_made wd _ _ _
      refine op_make (i := 6) (v := .slice (some ⟨wd.heap.size, 0, none⟩) t t) (w' := W6) (x := .int .i64 (t : Int)) (y := .int .i64 (t : Int)) (some 30) 23 (.tmp 29) (.tmp 29) rfl rfl rfl rfl (by kernel_rfl) (by kernel_rfl) (by rw [hW6]; exact hmk2 _) ?_
      refine ⟨S6, ?_⟩
      refine held_two (i := 4) (j := 8) (by kernel_rfl) ?_ ?_
      · obtain ⟨W7, hW7⟩ : ∃ W', W' = W6.alloc (.cells (madeCells #[.int .i64 0] n) 2) := ⟨_, rfl⟩
        have hb7 : Below W6.heap.size W6 W7 := by rw [hW7]; exact below_alloc1 _ _
        have hz7 : W7.heap.size = W6.heap.size + 1 := by rw [hW7]; simp
        have S7 : Below (wB.heap.size) wB W7 := S6.trans (hb7.mono (by omega))
        have hM7 := hM6.of_block (hb7.block _ hM6.lt)
        have hD7 : W7.rowIs W6.heap.size 2 n (fun _ => .int .i64 0) := by rw [hW7]; exact World.rowIs_made W6 _ _ _
        refine op_make (i := 4) (v := .slice (some ⟨W6.heap.size, 0, none⟩) n n) (w' := W7) (x := .int .i64 (n : Int)) (y := .int .i64 (n : Int)) (some 28) 22 (.tmp 27) (.tmp 27) rfl rfl rfl rfl (by kernel_rfl) (by kernel_rfl) (by rw [hW7]; exact hmk _) ?_
        refine ⟨S7, ?_⟩
        refine held_take (i := 7) (v := .agg #[.int .i64 p, .slice (some ⟨W6.heap.size, 0, none⟩) n n, .slice (some ⟨wd.heap.size, 0, none⟩) t t]) (some 31) rfl rfl (by kernel_rfl) (by kernel_rfl) (by kernel_rfl) (fun _ _ _ h => h) (yieldsIf_run (by kernel_rfl) (fun W _ => by kernel_rfl)) S7 ?_
        refine held_one (i := 8) (by kernel_rfl) ?_
        · obtain ⟨W8, hW8⟩ : ∃ W', W' = W7.alloc (.cells #[.int .i64 0, .slice none 0 0, .slice none 0 0] 28) := ⟨_, rfl⟩
          have hb8 : Below W7.heap.size W7 W8 := by rw [hW8]; exact below_alloc1 _ _
          have hz8 : W8.heap.size = W7.heap.size + 1 := by rw [hW8]; simp
          have S8 : Below (wB.heap.size) wB W8 := S7.trans (hb8.mono (by omega))
          have hM8 := hM7.of_block (hb8.block _ hM7.lt)
          have hD8 := hD7.of_block (hb8.block _ hD7.lt)
          have hR8 : Rz W8 W7.heap.size 28 #[.int .i64 0, .slice none 0 0, .slice none 0 0] := by rw [hW8]; exact Rz.new _ _ _
          refine op_mem (i := 8) (v := .pointer (some ⟨W7.heap.size, 0, none⟩)) (w' := W8) (some 7) rfl rfl rfl (by rw [hW8]; go_simp) ?_
          refine ⟨S8, ?_⟩
          have S9 : Below (wB.heap.size) wB (W8.setRow (W7.heap.size) #[.int .i64 p, .slice (some ⟨W6.heap.size, 0, none⟩) n n, .slice (some ⟨wd.heap.size, 0, none⟩) t t]) := below_setRow S8 (by omega) _
          refine held_one (i := 9) (by kernel_rfl) ?_
          refine op_row (i := 9) rfl rfl rfl 28 (.tmp 7) (.tmp 31) rfl (W7.heap.size) #[.int .i64 p, .slice (some ⟨W6.heap.size, 0, none⟩) n n, .slice (some ⟨wd.heap.size, 0, none⟩) t t] (by kernel_rfl) (by kernel_rfl) 28 _ hR8 (infoCo _ _ _) (by kernel_rfl) (by kernel_rfl) ?_
          refine ⟨S9, ?_⟩
          refine wpAnyH_done (by kernel_rfl) ?_ _
          simp only [Act.put, List.setIfInBounds_toArray, List.set_cons_zero, List.set_cons_succ]
          obtain ⟨WF, hWF⟩ : ∃ WF, WF = (W8.setRow (W7.heap.size) #[.int .i64 p, .slice (some ⟨W6.heap.size, 0, none⟩) n n, .slice (some ⟨wd.heap.size, 0, none⟩) t t]) := ⟨_, rfl⟩
          have hbF : Below (wB.heap.size) wB WF := by rw [hWF]; exact S9
          have hRF : Rz WF (W7.heap.size) 28 #[.int .i64 p, .slice (some ⟨W6.heap.size, 0, none⟩) n n, .slice (some ⟨wd.heap.size, 0, none⟩) t t] := by rw [hWF]; exact hR8.set _
          have hDF : WF.rowIs (W6.heap.size) 2 n (fun _ => .int .i64 0) := by rw [hWF]; exact hD8.of_block (setRow_other _ _ _ _ (by omega))
          have hMF : WF.rowIs (wd.heap.size) 41 t (fun _ => .slice none 0 0) := by rw [hWF]; exact hM8.of_block (setRow_other _ _ _ _ (by omega))
          have hG : (wB.heap.size ≤ W7.heap.size ∧ wB.heap.size ≤ W6.heap.size ∧ wB.heap.size ≤ wd.heap.size) ∧ W7.heap.size ≠ W6.heap.size ∧ W7.heap.size ≠ wd.heap.size ∧ W6.heap.size ≠ wd.heap.size := by omega
          rw [← hWF]
          clear hWF S9
          go_wp2
          go_meet
          exact ⟨_, _, _, rfl, Lib.hid ⟨hbF, hG.1, hG.2, rowIs3 hRF, hDF, hMF⟩⟩
      · obtain ⟨W9, hW9⟩ : ∃ W', W' = W6.alloc (.cells #[.int .i64 0, .slice none 0 0, .slice none 0 0] 28) := ⟨_, rfl⟩
        have hb9 : Below W6.heap.size W6 W9 := by rw [hW9]; exact below_alloc1 _ _
        have hz9 : W9.heap.size = W6.heap.size + 1 := by rw [hW9]; simp
        have S9 : Below (wB.heap.size) wB W9 := S6.trans (hb9.mono (by omega))
        have hM9 := hM6.of_block (hb9.block _ hM6.lt)
        have hR9 : Rz W9 W6.heap.size 28 #[.int .i64 0, .slice none 0 0, .slice none 0 0] := by rw [hW9]; exact Rz.new _ _ _
        refine op_mem (i := 8) (v := .pointer (some ⟨W6.heap.size, 0, none⟩)) (w' := W9) (some 7) rfl rfl rfl (by rw [hW9]; go_simp) ?_
        refine ⟨S9, ?_⟩
        refine held_one (i := 4) (by kernel_rfl) ?_
        · obtain ⟨W10, hW10⟩ : ∃ W', W' = W9.alloc (.cells (madeCells #[.int .i64 0] n) 2) := ⟨_, rfl⟩
          have hb10 : Below W9.heap.size W9 W10 := by rw [hW10]; exact below_alloc1 _ _
          have hz10 : W10.heap.size = W9.heap.size + 1 := by rw [hW10]; simp
          have S10 : Below (wB.heap.size) wB W10 := S9.trans (hb10.mono (by omega))
          have hM10 := hM9.of_block (hb10.block _ hM9.lt)
          have hR10 := hR9.next hb10
          have hD10 : W10.rowIs W9.heap.size 2 n (fun _ => .int .i64 0) := by rw [hW10]; exact World.rowIs_made W9 _ _ _
          refine op_make (i := 4) (v := .slice (some ⟨W9.heap.size, 0, none⟩) n n) (w' := W10) (x := .int .i64 (n : Int)) (y := .int .i64 (n : Int)) (some 28) 22 (.tmp 27) (.tmp 27) rfl rfl rfl rfl (by kernel_rfl) (by kernel_rfl) (by rw [hW10]; exact hmk _) ?_
          refine ⟨S10, ?_⟩
          refine held_take (i := 7) (v := .agg #[.int .i64 p, .slice (some ⟨W9.heap.size, 0, none⟩) n n, .slice (some ⟨wd.heap.size, 0, none⟩) t t]) (some 31) rfl rfl (by kernel_rfl) (by kernel_rfl) (by kernel_rfl) (fun _ _ _ h => h) (yieldsIf_run (by kernel_rfl) (fun W _ => by kernel_rfl)) S10 ?_
          have S9 : Below (wB.heap.size) wB (W10.setRow (W6.heap.size) #[.int .i64 p, .slice (some ⟨W9.heap.size, 0, none⟩) n n, .slice (some ⟨wd.heap.size, 0, none⟩) t t]) := below_setRow S10 (by omega) _
          refine held_one (i := 9) (by kernel_rfl) ?_
          refine op_row (i := 9) rfl rfl rfl 28 (.tmp 7) (.tmp 31) rfl (W6.heap.size) #[.int .i64 p, .slice (some ⟨W9.heap.size, 0, none⟩) n n, .slice (some ⟨wd.heap.size, 0, none⟩) t t] (by kernel_rfl) (by kernel_rfl) 28 _ hR10 (infoCo _ _ _) (by kernel_rfl) (by kernel_rfl) ?_
          refine ⟨S9, ?_⟩
          refine wpAnyH_done (by kernel_rfl) ?_ _
          simp only [Act.put, List.setIfInBounds_toArray, List.set_cons_zero, List.set_cons_succ]
          obtain ⟨WF, hWF⟩ : ∃ WF, WF = (W10.setRow (W6.heap.size) #[.int .i64 p, .slice (some ⟨W9.heap.size, 0, none⟩) n n, .slice (some ⟨wd.heap.size, 0, none⟩) t t]) := ⟨_, rfl⟩
          have hbF : Below (wB.heap.size) wB WF := by rw [hWF]; exact S9
          have hRF : Rz WF (W6.heap.size) 28 #[.int .i64 p, .slice (some ⟨W9.heap.size, 0, none⟩) n n, .slice (some ⟨wd.heap.size, 0, none⟩) t t] := by rw [hWF]; exact hR10.set _
          have hDF : WF.rowIs (W9.heap.size) 2 n (fun _ => .int .i64 0) := by rw [hWF]; exact hD10.of_block (setRow_other _ _ _ _ (by omega))
          have hMF : WF.rowIs (wd.heap.size) 41 t (fun _ => .slice none 0 0) := by rw [hWF]; exact hM10.of_block (setRow_other _ _ _ _ (by omega))
          have hG : (wB.heap.size ≤ W6.heap.size ∧ wB.heap.size ≤ W9.heap.size ∧ wB.heap.size ≤ wd.heap.size) ∧ W6.heap.size ≠ W9.heap.size ∧ W6.heap.size ≠ wd.heap.size ∧ W9.heap.size ≠ wd.heap.size := by omega
          rw [← hWF]
          clear hWF S9
          go_wp2
          go_meet
          exact ⟨_, _, _, rfl, Lib.hid ⟨hbF, hG.1, hG.2, rowIs3 hRF, hDF, hMF⟩⟩
    · obtain ⟨W11, hW11⟩ : ∃ W', W' = wd.alloc (.cells #[.int .i64 0, .slice none 0 0, .slice none 0 0] 28) := ⟨_, rfl⟩
      have hb11 : Below wd.heap.size wd W11 := by rw [hW11]; exact below_alloc1 _ _
      have hz11 : W11.heap.size = wd.heap.size + 1 := by rw [hW11]; simp
      have S11 : Below (wB.heap.size) wB W11 := S0.trans (hb11.mono (by omega))
      have hR11 : Rz W11 wd.heap.size 28 #[.int .i64 0, .slice none 0 0, .slice none 0 0] := by rw [hW11]; exact Rz.new _ _ _
      refine op_mem (i := 8) (v := .pointer (some ⟨wd.heap.size, 0, none⟩)) (w' := W11) (some 7) rfl rfl rfl (by rw [hW11]; go_simp) ?_
      refine ⟨S11, ?_⟩
      refine held_two (i := 4) (j := 6) (by kernel_rfl) ?_ ?_
      · obtain ⟨W12, hW12⟩ : ∃ W', W' = W11.alloc (.cells (madeCells #[.int .i64 0] n) 2) := ⟨_, rfl⟩
        have hb12 : Below W11.heap.size W11 W12 := by rw [hW12]; exact below_alloc1 _ _
        have hz12 : W12.heap.size = W11.heap.size + 1 := by rw [hW12]; simp
        have S12 : Below (wB.heap.size) wB W12 := S11.trans (hb12.mono (by omega))
        have hR12 := hR11.next hb12
        have hD12 : W12.rowIs W11.heap.size 2 n (fun _ => .int .i64 0) := by rw [hW12]; exact World.rowIs_made W11 _ _ _
        refine op_make (i := 4) (v := .slice (some ⟨W11.heap.size, 0, none⟩) n n) (w' := W12) (x := .int .i64 (n : Int)) (y := .int .i64 (n : Int)) (some 28) 22 (.tmp 27) (.tmp 27) rfl rfl rfl rfl (by kernel_rfl) (by kernel_rfl) (by rw [hW12]; exact hmk _) ?_
        refine ⟨S12, ?_⟩
        refine held_one (i := 6) (by kernel_rfl) ?_
        · obtain ⟨W13, hW13⟩ : ∃ W', W' = W12.alloc (.cells (madeCells #[.slice none 0 0] t) 41) := ⟨_, rfl⟩
          have hb13 : Below W12.heap.size W12 W13 := by rw [hW13]; exact below_alloc1 _ _
          have hz13 : W13.heap.size = W12.heap.size + 1 := by rw [hW13]; simp
          have S13 : Below (wB.heap.size) wB W13 := S12.trans (hb13.mono (by omega))
          have hR13 := hR12.next hb13
          have hD13 := hD12.of_block (hb13.block _ hD12.lt)
          have hM13 : W13.rowIs W12.heap.size 41 t (fun _ => .slice none 0 0) := by rw [hW13]; exact World.rowIs_made W12 _ _ _
          refine op_make (i := 6) (v := .slice (some ⟨W12.heap.size, 0, none⟩) t t) (w' := W13) (x := .int .i64 (t : Int)) (y := .int .i64 (t : Int)) (some 30) 23 (.tmp 29) (.tmp 29) rfl rfl rfl rfl (by kernel_rfl) (by kernel_rfl) (by rw [hW13]; exact hmk2 _) ?_
          refine ⟨S13, ?_⟩
          refine held_take (i := 7) (v := .agg #[.int .i64 p, .slice (some ⟨W11.heap.size, 0, none⟩) n n, .slice (some ⟨W12.heap.size, 0, none⟩) t t]) (some 31) rfl rfl (by kernel_rfl) (by kernel_rfl) (by kernel_rfl) (fun _ _ _ h => h) (yieldsIf_run (by kernel_rfl) (fun W _ => by kernel_rfl)) S13 ?_
          have S9 : Below (wB.heap.size) wB (W13.setRow (wd.heap.size) #[.int .i64 p, .slice (some ⟨W11.heap.size, 0, none⟩) n n, .slice (some ⟨W12.heap.size, 0, none⟩) t t]) := below_setRow S13 (by omega) _
          refine held_one (i := 9) (by kernel_rfl) ?_
          refine op_row (i := 9) rfl rfl rfl 28 (.tmp 7) (.tmp 31) rfl (wd.heap.size) #[.int .i64 p, .slice (some ⟨W11.heap.size, 0, none⟩) n n, .slice (some ⟨W12.heap.size, 0, none⟩) t t] (by kernel_rfl) (by kernel_rfl) 28 _ hR13 (infoCo _ _ _) (by kernel_rfl) (by kernel_rfl) ?_
          refine ⟨S9, ?_⟩
          refine wpAnyH_done (by kernel_rfl) ?_ _
          simp only [Act.put, List.setIfInBounds_toArray, List.set_cons_zero, List.set_cons_succ]
          obtain ⟨WF, hWF⟩ : ∃ WF, WF = (W13.setRow (wd.heap.size) #[.int .i64 p, .slice (some ⟨W11.heap.size, 0, none⟩) n n, .slice (some ⟨W12.heap.size, 0, none⟩) t t]) := ⟨_, rfl⟩
          have hbF : Below (wB.heap.size) wB WF := by rw [hWF]; exact S9
          have hRF : Rz WF (wd.heap.size) 28 #[.int .i64 p, .slice (some ⟨W11.heap.size, 0, none⟩) n n, .slice (some ⟨W12.heap.size, 0, none⟩) t t] := by rw [hWF]; exact hR13.set _
          have hDF : WF.rowIs (W11.heap.size) 2 n (fun _ => .int .i64 0) := by rw [hWF]; exact hD13.of_block (setRow_other _ _ _ _ (by omega))
          have hMF : WF.rowIs (W12.heap.size) 41 t (fun _ => .slice none 0 0) := by rw [hWF]; exact hM13.of_block (setRow_other _ _ _ _ (by omega))
          have hG : (wB.heap.size ≤ wd.heap.size ∧ wB.heap.size ≤ W11.heap.size ∧ wB.heap.size ≤ W12.heap.size) ∧ wd.heap.size ≠ W11.heap.size ∧ wd.heap.size ≠ W12.heap.size ∧ W11.heap.size ≠ W12.heap.size := by omega
          rw [← hWF]
          clear hWF S9
          go_wp2
          go_meet
          exact ⟨_, _, _, rfl, Lib.hid ⟨hbF, hG.1, hG.2, rowIs3 hRF, hDF, hMF⟩⟩
      · obtain ⟨W14, hW14⟩ : ∃ W', W' = W11.alloc (.cells (madeCells #[.slice none 0 0] t) 41) := ⟨_, rfl⟩
        have hb14 : Below W11.heap.size W11 W14 := by rw [hW14]; exact below_alloc1 _ _
        have hz14 : W14.heap.size = W11.heap.size + 1 := by rw [hW14]; simp
        have S14 : Below (wB.heap.size) wB W14 := S11.trans (hb14.mono (by omega))
        have hR14 := hR11.next hb14
        have hM14 : W14.rowIs W11.heap.size 41 t (fun _ => .slice none 0 0) := by rw [hW14]; exact World.rowIs_made W11 _ _ _
        refine op_make (i := 6) (v := .slice (some ⟨W11.heap.size, 0, none⟩) t t) (w' := W14) (x := .int .i64 (t : Int)) (y := .int .i64 (t : Int)) (some 30) 23 (.tmp 29) (.tmp 29) rfl rfl rfl rfl (by kernel_rfl) (by kernel_rfl) (by rw [hW14]; exact hmk2 _) ?_
        refine ⟨S14, ?_⟩
        refine held_one (i := 4) (by kernel_rfl) ?_
        · obtain ⟨W15, hW15⟩ : ∃ W', W' = W14.alloc (.cells (madeCells #[.int .i64 0] n) 2) := ⟨_, rfl⟩
          have hb15 : Below W14.heap.size W14 W15 := by rw [hW15]; exact below_alloc1 _ _
          have hz15 : W15.heap.size = W14.heap.size + 1 := by rw [hW15]; simp
          have S15 : Below (wB.heap.size) wB W15 := S14.trans (hb15.mono (by omega))
          have hR15 := hR14.next hb15
          have hM15 := hM14.of_block (hb15.block _ hM14.lt)
          have hD15 : W15.rowIs W14.heap.size 2 n (fun _ => .int .i64 0) := by rw [hW15]; exact World.rowIs_made W14 _ _ _
          refine op_make (i := 4) (v := .slice (some ⟨W14.heap.size, 0, none⟩) n n) (w' := W15) (x := .int .i64 (n : Int)) (y := .int .i64 (n : Int)) (some 28) 22 (.tmp 27) (.tmp 27) rfl rfl rfl rfl (by kernel_rfl) (by kernel_rfl) (by rw [hW15]; exact hmk _) ?_
          refine ⟨S15, ?_⟩
          refine held_take (i := 7) (v := .agg #[.int .i64 p, .slice (some ⟨W14.heap.size, 0, none⟩) n n, .slice (some ⟨W11.heap.size, 0, none⟩) t t]) (some 31) rfl rfl (by kernel_rfl) (by kernel_rfl) (by kernel_rfl) (fun _ _ _ h => h) (yieldsIf_run (by kernel_rfl) (fun W _ => by kernel_rfl)) S15 ?_
          have S9 : Below (wB.heap.size) wB (W15.setRow (wd.heap.size) #[.int .i64 p, .slice (some ⟨W14.heap.size, 0, none⟩) n n, .slice (some ⟨W11.heap.size, 0, none⟩) t t]) := below_setRow S15 (by omega) _
          refine held_one (i := 9) (by kernel_rfl) ?_
          refine op_row (i := 9) rfl rfl rfl 28 (.tmp 7) (.tmp 31) rfl (wd.heap.size) #[.int .i64 p, .slice (some ⟨W14.heap.size, 0, none⟩) n n, .slice (some ⟨W11.heap.size, 0, none⟩) t t] (by kernel_rfl) (by kernel_rfl) 28 _ hR15 (infoCo _ _ _) (by kernel_rfl) (by kernel_rfl) ?_
          refine ⟨S9, ?_⟩
          refine wpAnyH_done (by kernel_rfl) ?_ _
          simp only [Act.put, List.setIfInBounds_toArray, List.set_cons_zero, List.set_cons_succ]
          obtain ⟨WF, hWF⟩ : ∃ WF, WF = (W15.setRow (wd.heap.size) #[.int .i64 p, .slice (some ⟨W14.heap.size, 0, none⟩) n n, .slice (some ⟨W11.heap.size, 0, none⟩) t t]) := ⟨_, rfl⟩
          have hbF : Below (wB.heap.size) wB WF := by rw [hWF]; exact S9
          have hRF : Rz WF (wd.heap.size) 28 #[.int .i64 p, .slice (some ⟨W14.heap.size, 0, none⟩) n n, .slice (some ⟨W11.heap.size, 0, none⟩) t t] := by rw [hWF]; exact hR15.set _
          have hDF : WF.rowIs (W14.heap.size) 2 n (fun _ => .int .i64 0) := by rw [hWF]; exact hD15.of_block (setRow_other _ _ _ _ (by omega))
          have hMF : WF.rowIs (W11.heap.size) 41 t (fun _ => .slice none 0 0) := by rw [hWF]; exact hM15.of_block (setRow_other _ _ _ _ (by omega))
          have hG : (wB.heap.size ≤ wd.heap.size ∧ wB.heap.size ≤ W14.heap.size ∧ wB.heap.size ≤ W11.heap.size) ∧ wd.heap.size ≠ W14.heap.size ∧ wd.heap.size ≠ W11.heap.size ∧ W14.heap.size ≠ W11.heap.size := by omega
          rw [← hWF]
          clear hWF S9
          go_wp2
          go_meet
          exact ⟨_, _, _, rfl, Lib.hid ⟨hbF, hG.1, hG.2, rowIs3 hRF, hDF, hMF⟩⟩
  case rest =>
    obtain ⟨g, bd, bm, rfl, HDU⟩ := hcut
    clear hmk hmk2 c0 c1 c2 hq0 hq1 hq2 hq3
    obtain ⟨wx, hwx⟩ : ∃ wx : World, wx = wc := ⟨_, rfl⟩
    subst hwx
    have HDW := Lib.hid HDU.out.drew
    have hKn : K < n := by have := HN.out; omega
    have hKi : (K : Int) ≤ (n : Int) := by omega
    have hKj : (K : Int) < (n : Int) := by omega
    have hKz : (0 : Int) ≤ (K : Int) := by omega
    have hKe : ¬ n = K := by omega
    obtain ⟨wN, hrun, hsz, hoth, hbl, hrow⟩ := copy_row (Z := fun _ => 0) HDW.out.dims (q := K) (n - K) (n - K) ad cap ds ((HNB.out _ HDW.out.below).1.cx.dims) (by have := HN.out; omega) (by have := HN.out; omega)
    have HDC : Hid (Du wB wN g bd bm n t p (fun j => .int .i64 (shd ds K j)) (fun _ => .slice none 0 0)) := Lib.hid ⟨hbl _ _ HDW.out.lo.2.1 HDW.out.below, HDW.out.lo, HDW.out.ne, HDW.out.box.of_block (hoth _ HDW.out.ne.1), hrow.congr (fun j hj => by
      unfold shd
      by_cases e : j < K
      · rw [if_pos e, if_neg (by omega)]
      · rw [if_neg e, if_pos (by have := HN.out; omega)]), HDW.out.maps.of_block (hoth _ (Ne.symm HDW.out.ne.2.2))⟩
    clear hsz hoth hbl hrow
    go_upto_region 9 with fail
    go_wp2
    refine wp_region_held (S := fun W => Below wB.heap.size wB W ∧ W.rowIs g 28 3 (box3 p (.slice (some ⟨bd, 0, none⟩) n n) (.slice (some ⟨bm, 0, none⟩) t t))) (by kernel_rfl) ?_
    have S0 : Below wB.heap.size wB wx.drew ∧ wx.drew.rowIs g 28 3 (box3 p (.slice (some ⟨bd, 0, none⟩) n n) (.slice (some ⟨bm, 0, none⟩) t t)) := ⟨HDW.out.below, HDW.out.box⟩
    refine held_take (i := 0) (v := .pointer (some ⟨g, 1, none⟩)) (some 32) rfl rfl (by kernel_rfl) (by kernel_rfl) (by kernel_rfl) (fun _ _ _ h => h) (yieldsIf_run (by kernel_rfl) (fun W _ => by kernel_rfl)) S0 ?_
    refine held_take (i := 1) (v := .slice (some ⟨bd, 0, none⟩) n n) (some 33) rfl rfl (by kernel_rfl) (by kernel_rfl) (by kernel_rfl) (fun _ _ _ h => h) (yieldsIf_cell (by kernel_rfl) rfl (by kernel_rfl) (fun W h => hloadD W (h.2.cell (i := 1) (by omega)))) S0 ?_
    refine held_take (i := 2) (v := .int .i64 (K : Int)) (some 34) rfl rfl (by kernel_rfl) (by kernel_rfl) (by kernel_rfl) (fun _ _ _ h => h) (yieldsIf_move (by kernel_rfl) rfl (by kernel_rfl)) S0 ?_
    refine held_take (i := 3) (v := .slice (some ⟨bd, K, none⟩) (n - K) (n - K)) (some 35) rfl rfl (by kernel_rfl) (by kernel_rfl) (by kernel_rfl) (fun _ _ _ h => h) (yieldsIf_run (by kernel_rfl) (fun W _ => by go_simp)) S0 ?_
    refine held_take (i := 4) (v := .pointer (some ⟨w.heap.size, 1, none⟩)) (some 36) rfl rfl (by kernel_rfl) (by kernel_rfl) (by kernel_rfl) (fun _ _ _ h => h) (yieldsIf_run (by kernel_rfl) (fun W _ => by kernel_rfl)) S0 ?_
    refine held_take (i := 5) (v := .slice ad ds.length cap) (some 37) rfl rfl (by kernel_rfl) (by kernel_rfl) (by kernel_rfl) (fun _ _ _ h => h) (yieldsIf_cell (by kernel_rfl) rfl (by kernel_rfl) (fun W h => hloadD W ((HNB.out W h.1).1.c1))) S0 ?_
    refine held_copy (i := 6) (x := .slice (some ⟨bd, K, none⟩) (n - K) (n - K)) (y := .slice ad ds.length cap) (some 38) _ (.tmp 35) (.tmp 37) (by kernel_rfl) rfl rfl rfl rfl (by kernel_rfl) (by kernel_rfl) hrun ⟨HDC.out.below, HDC.out.box⟩ ?_
    refine wpAnyH_done (by kernel_rfl) ?_ _
    simp only [Act.put, List.setIfInBounds_toArray, List.set_cons_zero, List.set_cons_succ]
    clear S0 hrun HDU HDW
    obtain ⟨wo, hwo⟩ : ∃ wo : World, wo = wN := ⟨_, rfl⟩
    subst hwo
    have hso : wB.heap.size ≤ wo.heap.size := HDC.out.below.size
    have HBX := Lib.hid HDC.out.box
    have HBD := Lib.hid HDC.out.dims
    have hlo := HDC.out.lo
    have hbdl := HDC.out.dims.lt
    have hbml := HDC.out.maps.lt
    have hg2 := HDC.out.ne.2.1
    have hbdm := HDC.out.ne.2.2
    have HLEN : Hid ((shM p ds ms K).length = t) := Lib.hid (by rw [shM_length]; exact HT.out.symm)
    have HF0 : Hid (Fill3 wo bm t 0 (fun _ => .slice none 0 0) (fun _ => wo.heap.size) (shM p ds ms K)) := Lib.hid ⟨HDC.out.maps, hbml, fun _ h => absurd h (Nat.not_lt_zero _), Nat.le_refl _, fun _ _ h => absurd h (Nat.not_lt_zero _)⟩
    have HBO := Lib.hid HDC.out.below
    clear HDC
    clear hKi hKj hKe
    go_wp2
    go_loopw [40] (fun i wr => ∃ (k : Nat) (f : Nat → Value) (b : Nat → Nat), k ≤ t ∧ i = .int .i64 k ∧ Hid (Below wB.heap.size wB wr) ∧ Hid (wr.rowIs g 28 3 (box3 p (.slice (some ⟨bd, 0, none⟩) n n) (.slice (some ⟨bm, 0, none⟩) t t))) ∧ Hid (wr.rowIs bd 2 n (fun j => .int .i64 (shd ds K j))) ∧ Hid (Fill3 wr bm t k f b (shM p ds ms K)) ∧ Hid (wo.heap.size ≤ wr.heap.size ∧ wo.heap.size ≤ b 0)) (fun i _ => t - (intOf i).toNat)
    case atStart => exact ⟨0, _, _, Nat.zero_le _, rfl, HBO, HBX, HBD, HF0, Lib.hid ⟨Nat.le_refl _, Nat.le_refl _⟩⟩
    case round =>
      clear HBO HBX HBD HF0
      obtain ⟨j, f, b, hj, rfl, HB, HBX, HBD, HF, HLE⟩ := hrel
      obtain ⟨wx, hwx⟩ : ∃ wx : World, wx = wr := ⟨_, rfl⟩
      subst hwx
      have HNW : Hid (∀ W, Below wx.heap.size wx W → Bx w W w.heap.size p (.slice ad ds.length cap) (.slice am ms.length capm) ds ms ∧ W.cell? ⟨g, 1, none⟩ = some (.slice (some ⟨bd, 0, none⟩) n n) ∧ W.cell? ⟨g, 2, none⟩ = some (.slice (some ⟨bm, 0, none⟩) t t) ∧ ∀ q, q < n → W.cell? ⟨bd, q, none⟩ = some (.int .i64 (shd ds K q))) := Lib.hid (fun W hb => ⟨(HNB.out _ (HB.out.trans (hb.mono HB.out.size))).1, later hb (Nat.le_refl _) (HBX.out.cell (i := 1) (by omega)), later hb (Nat.le_refl _) (HBX.out.cell (i := 2) (by omega)), fun q hq => later hb (Nat.le_refl _) (HBD.out.cell hq)⟩)
      by_cases hlt : j < t
      · by_cases hjK : j < K
        · have hjn : j + 1 < n := by have := HNT.out; omega
          have hjn0 : j < n := by omega
          have hjk : (j : Int) < (K : Int) := by omega
          have hjt : (j : Int) < (t : Int) := by omega
          have hj0 : (0 : Int) ≤ (j : Int) := by omega
          have hj1 : (j : Int) + 1 < (n : Int) := by omega
          have hjn1 : (j : Int) < (n : Int) := by omega
          have hj2 : (0 : Int) ≤ (j : Int) + 1 := by omega
          have hj3 : ((j : Int) + 1).toNat = j + 1 := by omega
          have hadd : ∀ w, (binOp .add 2 (.int .i64 (j : Int)) (.int .i64 1)).run Try.prog w = .ok (.int .i64 ((j : Int) + 1)) w := haddA (IntWalk.i64_in _ (by omega))
          obtain ⟨r, hr⟩ : ∃ r : Nat, r = (shd ds K (j + 1)).toNat := ⟨_, rfl⟩
          obtain ⟨c, hc⟩ : ∃ c : Nat, c = (shd ds K j).toNat := ⟨_, rfl⟩
          have hb1 := shd_8 HC.out K (j + 1)
          have hb2 := shd_8 HC.out K j
          have hr8 : r ≤ 8 := by omega
          have hc8 : c ≤ 8 := by omega
          have HR1 : Hid (shd ds K (j + 1) = (r : Int)) := Lib.hid (by omega)
          have HC1 : Hid (shd ds K j = (c : Int)) := Lib.hid (by omega)
          have HSX : Hid (∀ h : j < (shM p ds ms K).length, (shM p ds ms K)[j] = tableOf r c (fun _ _ => 0)) := Lib.hid (fun h => by simp only [shM, List.getElem_map, List.getElem_range, sht]; rw [if_pos hjK, hr, hc])
          clear hr hc hb1 hb2
          go_upto_region 14 with fail
          go_wp2
          refine wp_region_last (fun W => Below wx.heap.size wx W) 16 (by kernel_rfl) rfl (by kernel_rfl) ?_
          have S0 : Below wx.heap.size wx wx.drew := (Below.refl _ _).drew
          change wpAnyH _ _ _ _ _ _ _ _ wx.drew
          obtain ⟨wd, hwd⟩ : ∃ wd, wd = wx.drew := ⟨_, rfl⟩
          rw [← hwd] at S0 ⊢
          clear hwd
          refine held_take (i := 0) (v := .pointer (some ⟨g, 2, none⟩)) (some 46) rfl rfl (by kernel_rfl) (by kernel_rfl) (by kernel_rfl) (fun _ _ _ h => h) (yieldsIf_run (by kernel_rfl) (fun W _ => by kernel_rfl)) S0 ?_
          refine held_take (i := 1) (v := .slice (some ⟨bm, 0, none⟩) t t) (some 47) rfl rfl (by kernel_rfl) (by kernel_rfl) (by kernel_rfl) (fun _ _ _ h => h) (yieldsIf_cell (by kernel_rfl) rfl (by kernel_rfl) (fun W h => hloadM W (HNW.out W h).2.2.1)) S0 ?_
          refine held_take (i := 2) (v := .int .i64 (j : Int)) (some 48) rfl rfl (by kernel_rfl) (by kernel_rfl) (by kernel_rfl) (fun _ _ _ h => h) (yieldsIf_move (by kernel_rfl) rfl (by kernel_rfl)) S0 ?_
          refine held_take (i := 3) (v := .pointer (some ⟨g, 1, none⟩)) (some 49) rfl rfl (by kernel_rfl) (by kernel_rfl) (by kernel_rfl) (fun _ _ _ h => h) (yieldsIf_run (by kernel_rfl) (fun W _ => by kernel_rfl)) S0 ?_
          refine held_take (i := 4) (v := .slice (some ⟨bd, 0, none⟩) n n) (some 50) rfl rfl (by kernel_rfl) (by kernel_rfl) (by kernel_rfl) (fun _ _ _ h => h) (yieldsIf_cell (by kernel_rfl) rfl (by kernel_rfl) (fun W h => hloadD W (HNW.out W h).2.1)) S0 ?_
          refine held_take (i := 5) (v := .int .i64 (j : Int)) (some 51) rfl rfl (by kernel_rfl) (by kernel_rfl) (by kernel_rfl) (fun _ _ _ h => h) (yieldsIf_move (by kernel_rfl) rfl (by kernel_rfl)) S0 ?_
          refine held_take (i := 6) (v := .int .i64 ((j : Int) + 1)) (some 52) rfl rfl (by kernel_rfl) (by kernel_rfl) (by kernel_rfl) (fun _ _ _ h => h) (yieldsIf_bin (by kernel_rfl) rfl (by kernel_rfl) (by kernel_rfl) (fun _ => rfl) hadd) S0 ?_
          refine held_take (i := 7) (v := .pointer (some ⟨bd, j + 1, none⟩)) (some 53) rfl rfl (by kernel_rfl) (by kernel_rfl) (by kernel_rfl) (fun _ _ _ h => h) (yieldsIf_run (by kernel_rfl) (fun W _ => by go_simp)) S0 ?_
          refine held_take (i := 8) (v := .int .i64 (r : Int)) (some 54) rfl rfl (by kernel_rfl) (by kernel_rfl) (by kernel_rfl) (fun _ _ _ h => h) (yieldsIf_cell (by kernel_rfl) rfl (by kernel_rfl) (fun W h => hload W (by rw [(HNW.out W h).2.2.2 _ hjn, HR1.out]))) S0 ?_
          refine held_take (i := 9) (v := .pointer (some ⟨g, 1, none⟩)) (some 55) rfl rfl (by kernel_rfl) (by kernel_rfl) (by kernel_rfl) (fun _ _ _ h => h) (yieldsIf_run (by kernel_rfl) (fun W _ => by kernel_rfl)) S0 ?_
          refine held_take (i := 10) (v := .slice (some ⟨bd, 0, none⟩) n n) (some 56) rfl rfl (by kernel_rfl) (by kernel_rfl) (by kernel_rfl) (fun _ _ _ h => h) (yieldsIf_cell (by kernel_rfl) rfl (by kernel_rfl) (fun W h => hloadD W (HNW.out W h).2.1)) S0 ?_
          refine held_take (i := 11) (v := .int .i64 (j : Int)) (some 57) rfl rfl (by kernel_rfl) (by kernel_rfl) (by kernel_rfl) (fun _ _ _ h => h) (yieldsIf_move (by kernel_rfl) rfl (by kernel_rfl)) S0 ?_
          refine held_take (i := 12) (v := .pointer (some ⟨bd, j, none⟩)) (some 58) rfl rfl (by kernel_rfl) (by kernel_rfl) (by kernel_rfl) (fun _ _ _ h => h) (yieldsIf_run (by kernel_rfl) (fun W _ => by go_simp)) S0 ?_
          refine held_take (i := 13) (v := .int .i64 (c : Int)) (some 59) rfl rfl (by kernel_rfl) (by kernel_rfl) (by kernel_rfl) (fun _ _ _ h => h) (yieldsIf_cell (by kernel_rfl) rfl (by kernel_rfl) (fun W h => hload W (by rw [(HNW.out W h).2.2.2 _ hjn0, HC1.out]))) S0 ?_
          refine held_enter (i := 14) (some 60) (f := 123) (args := #[.int .i64 (r : Int), .int .i64 (c : Int)]) (by kernel_rfl) rfl rfl rfl (by kernel_rfl) (zeroTable_any r c wd (by omega) (by omega)) ?_ (fun c w' h => by cases h.1) (fun w' h => by cases h.1)
          rintro e4 W4 ⟨he4, hm⟩
          injection he4 with he4
          subst he4
          have S1 : Below wx.heap.size wx W4 := S0.trans (hm.below.mono S0.size)
          refine ⟨S1, ?_⟩
          have hrw := hm.rw2 (lo := wd.heap.size) (Nat.le_refl _) (by omega) (by omega)
          rw [show tableOf r c (fun _ _ => 0) = tableOf r c (fun _ _ => 0) from rfl] at hrw
          have HFP := Lib.hid (HF.out.below S0)
          have hst := HFP.out.step hm.below (show j < (shM p ds ms K).length by rw [HLEN.out]; exact hlt) (by rw [HSX.out]; exact hrw)
          have hr4 := HFP.out.row.of_block (hm.below.block _ HFP.out.row.lt)
          have q1 : W4.cell? ⟨bm, j, none⟩ = some (f j) := hr4.cell hlt
          have q2 : W4.frozen? ⟨bm, j, none⟩ = false := hr4.frozen j
          refine held_take (i := 15) (v := .pointer (some ⟨bm, j, none⟩)) (some 61) rfl rfl (by kernel_rfl) (by kernel_rfl) (by kernel_rfl) (fun _ _ _ h => h) (yieldsIf_run (by kernel_rfl) (fun W _ => by go_simp)) S1 ?_
          have HBN : Hid (Below wB.heap.size wB (W4.setCell ⟨bm, j, none⟩ (.slice (some ⟨wd.heap.size, 0, none⟩) r r))) := Lib.hid ((HB.out.trans (S1.mono HB.out.size)).setCell (p := ⟨bm, j, none⟩) (by show wB.heap.size ≤ bm; exact hlo.2.2) _)
          have HXN : Hid ((W4.setCell ⟨bm, j, none⟩ (.slice (some ⟨wd.heap.size, 0, none⟩) r r)).rowIs g 28 3 (box3 p (.slice (some ⟨bd, 0, none⟩) n n) (.slice (some ⟨bm, 0, none⟩) t t))) := Lib.hid ((HBX.out.of_block (S1.block _ HBX.out.lt)).setOther hg2 _)
          have HDN : Hid ((W4.setCell ⟨bm, j, none⟩ (.slice (some ⟨wd.heap.size, 0, none⟩) r r)).rowIs bd 2 n (fun j => .int .i64 (shd ds K j))) := Lib.hid ((HBD.out.of_block (S1.block _ HBD.out.lt)).setOther hbdm _)
          have hleP : wx.heap.size ≤ wd.heap.size := S0.size
          have hleQ : wx.heap.size ≤ W4.heap.size := S1.size
          refine held_none (i := 16) (v := .bool false) rfl rfl (by kernel_rfl) (by kernel_rfl) (by kernel_rfl) (fun _ _ _ h => h) (yieldsIf_move (by kernel_rfl) rfl (by kernel_rfl)) S1 ?_
          refine wpAnyH_done (by kernel_rfl) (lastQ_of rfl (by kernel_rfl) ?_) _
          simp only [Act.put, List.setIfInBounds_toArray, List.set_cons_zero, List.set_cons_succ]
          go_simp
          have HLN : Hid (wo.heap.size ≤ (W4.setCell ⟨bm, j, none⟩ (.slice (some ⟨wd.heap.size, 0, none⟩) r r)).heap.size ∧ wo.heap.size ≤ (fun q => if q < j then b q else if q = j then wd.heap.size else W4.heap.size) 0) := Lib.hid (by
            have h0 := HLE.out
            refine ⟨by simp; omega, ?_⟩
            by_cases e : 0 < j
            · simp only [if_pos e]; exact h0.2
            · simp only [if_neg e, if_pos (show 0 = j by omega)]; omega)
          have HST := Lib.hid hst
          obtain ⟨wn, hwn'⟩ : ∃ wn, wn = (W4.setCell ⟨bm, j, none⟩ (.slice (some ⟨wd.heap.size, 0, none⟩) r r)) := ⟨_, rfl⟩
          rw [← hwn'] at HST HBN HXN HDN HLN ⊢
          clear hwn' q1 q2 hr4 hst hrw HFP
          go_wp2
          go_roundw
          case rel => exact ⟨j + 1, by omega, by omega, _, _, HST, HLN⟩
          case measure => simp [intOf]; omega
        · have hjk : ¬ (j : Int) < (K : Int) := by omega
          have hjt : (j : Int) < (t : Int) := by omega
          have hj0 : (0 : Int) ≤ (j : Int) := by omega
          obtain ⟨q, hq⟩ : ∃ q, q = j - K := ⟨_, rfl⟩
          have hqm : q < ms.length := by have := HT.out; omega
          have hq0 : (0 : Int) ≤ (q : Int) := by omega
          have hqm1 : (q : Int) < (ms.length : Int) := by omega
          have hsub : ∀ w, (binOp .sub 2 (.int .i64 (j : Int)) (.int .i64 (K : Int))).run Try.prog w = .ok (.int .i64 (q : Int)) w := hsubA (by rw [show (j : Int) - (K : Int) = (q : Int) by omega]; exact IntWalk.i64_in _ (by omega))
          obtain ⟨tq, htq⟩ : ∃ tq, tq = tabN ms q := ⟨_, rfl⟩
          have HTQ := Lib.hid (sh_tab HC.out q)
          rw [← htq] at HTQ
          have ht8 := HTQ.out.1
          obtain ⟨c, hc⟩ : ∃ c : Nat, c = (ds.getD q 0).toNat := ⟨_, rfl⟩
          have hcb := HC.out.1.dim q
          have hc8 : c ≤ 8 := by omega
          rw [← hc] at HTQ
          have HSX : Hid (∀ h : j < (shM p ds ms K).length, (shM p ds ms K)[j] = tableOf tq.length c (scZ p (shg p K) tq)) := Lib.hid (fun h => by simp only [shM, List.getElem_map, List.getElem_range, sht]; rw [if_neg hjK, ← hq, ← htq, ← hc])
          have hp2 := HC.out.1.prime.lo1
          have hp7 := HC.out.1.prime.hi7
          have HSG : Hid (0 ≤ shg p K ∧ shg p K ≤ p - 1) := Lib.hid (by unfold shg; split <;> omega)
          obtain ⟨sg, hsg⟩ : ∃ sg, sg = shg p K := ⟨_, rfl⟩
          have HKS : Hid (∀ W, Calls Try.prog 125 #[.int .i64 p, .int .i64 (K : Int)] W (QW (.int .i64 sg) W)) := Lib.hid (fun W => by rw [hsg]; exact signNumber_any p (K : Int) W (by omega) (by omega) ⟨by omega, by omega⟩)
          rw [← hsg] at HSG HSX
          refine Sl.cases ((HNW.out _ (Below.refl _ _)).1.cx.maps) (fun _ _ hx _ => absurd hqm (by simp [hx])) (fun bu ou capu hvu _ _ hclu => ?_)
          injection hvu with e1 e2 e3
          clear e2
          subst e1 e3
          obtain ⟨um, hum, hrm⟩ := hclu q hqm
          have HTB : Hid (∀ W, Below wx.heap.size wx W → W.cell? ⟨bu, ou + q, none⟩ = some um ∧ L2 0 W um tq) := Lib.hid (fun W hb => ⟨later hb (Nat.le_refl _) hum, (show L2 0 wx um tq by rw [htq]; unfold tabN; rw [getD_of_lt _ hqm]; exact hrm).below hb⟩)
          clear hq htq hc hcb hsg hclu hum hrm
          go_upto_region 15 with fail
          go_wp2
          refine wp_region_last (fun W => Below wx.heap.size wx W) 18 (by kernel_rfl) rfl (by kernel_rfl) ?_
          have S0 : Below wx.heap.size wx wx.drew := (Below.refl _ _).drew
          change wpAnyH _ _ _ _ _ _ _ _ wx.drew
          obtain ⟨wd, hwd⟩ : ∃ wd, wd = wx.drew := ⟨_, rfl⟩
          rw [← hwd] at S0 ⊢
          clear hwd
          refine held_take (i := 0) (v := .pointer (some ⟨g, 2, none⟩)) (some 62) rfl rfl (by kernel_rfl) (by kernel_rfl) (by kernel_rfl) (fun _ _ _ h => h) (yieldsIf_run (by kernel_rfl) (fun W _ => by kernel_rfl)) S0 ?_
          refine held_take (i := 1) (v := .slice (some ⟨bm, 0, none⟩) t t) (some 63) rfl rfl (by kernel_rfl) (by kernel_rfl) (by kernel_rfl) (fun _ _ _ h => h) (yieldsIf_cell (by kernel_rfl) rfl (by kernel_rfl) (fun W h => hloadM W (HNW.out W h).2.2.1)) S0 ?_
          refine held_take (i := 2) (v := .int .i64 (j : Int)) (some 64) rfl rfl (by kernel_rfl) (by kernel_rfl) (by kernel_rfl) (fun _ _ _ h => h) (yieldsIf_move (by kernel_rfl) rfl (by kernel_rfl)) S0 ?_
          refine held_take (i := 3) (v := .pointer (some ⟨w.heap.size, 0, none⟩)) (some 65) rfl rfl (by kernel_rfl) (by kernel_rfl) (by kernel_rfl) (fun _ _ _ h => h) (yieldsIf_run (by kernel_rfl) (fun W _ => by kernel_rfl)) S0 ?_
          refine held_take (i := 4) (v := .int .i64 p) (some 66) rfl rfl (by kernel_rfl) (by kernel_rfl) (by kernel_rfl) (fun _ _ _ h => h) (yieldsIf_cell (by kernel_rfl) rfl (by kernel_rfl) (fun W h => hload W (HNW.out W h).1.c0)) S0 ?_
          refine held_take (i := 5) (v := .pointer (some ⟨w.heap.size, 0, none⟩)) (some 67) rfl rfl (by kernel_rfl) (by kernel_rfl) (by kernel_rfl) (fun _ _ _ h => h) (yieldsIf_run (by kernel_rfl) (fun W _ => by kernel_rfl)) S0 ?_
          refine held_take (i := 6) (v := .int .i64 p) (some 68) rfl rfl (by kernel_rfl) (by kernel_rfl) (by kernel_rfl) (fun _ _ _ h => h) (yieldsIf_cell (by kernel_rfl) rfl (by kernel_rfl) (fun W h => hload W (HNW.out W h).1.c0)) S0 ?_
          refine held_take (i := 7) (v := .int .i64 (K : Int)) (some 69) rfl rfl (by kernel_rfl) (by kernel_rfl) (by kernel_rfl) (fun _ _ _ h => h) (yieldsIf_move (by kernel_rfl) rfl (by kernel_rfl)) S0 ?_
          refine held_take (i := 9) (v := .pointer (some ⟨w.heap.size, 2, none⟩)) (some 71) rfl rfl (by kernel_rfl) (by kernel_rfl) (by kernel_rfl) (fun _ _ _ h => h) (yieldsIf_run (by kernel_rfl) (fun W _ => by kernel_rfl)) S0 ?_
          refine held_take (i := 10) (v := .slice (some ⟨bu, ou, none⟩) ms.length capm) (some 72) rfl rfl (by kernel_rfl) (by kernel_rfl) (by kernel_rfl) (fun _ _ _ h => h) (yieldsIf_cell (by kernel_rfl) rfl (by kernel_rfl) (fun W h => hloadM W (HNW.out W h).1.c2)) S0 ?_
          refine held_take (i := 11) (v := .int .i64 (j : Int)) (some 73) rfl rfl (by kernel_rfl) (by kernel_rfl) (by kernel_rfl) (fun _ _ _ h => h) (yieldsIf_move (by kernel_rfl) rfl (by kernel_rfl)) S0 ?_
          refine held_take (i := 12) (v := .int .i64 (K : Int)) (some 74) rfl rfl (by kernel_rfl) (by kernel_rfl) (by kernel_rfl) (fun _ _ _ h => h) (yieldsIf_move (by kernel_rfl) rfl (by kernel_rfl)) S0 ?_
          refine held_take (i := 13) (v := .int .i64 (q : Int)) (some 75) rfl rfl (by kernel_rfl) (by kernel_rfl) (by kernel_rfl) (fun _ _ _ h => h) (yieldsIf_bin (by kernel_rfl) rfl (by kernel_rfl) (by kernel_rfl) (fun _ => rfl) hsub) S0 ?_
          refine held_take (i := 14) (v := .pointer (some ⟨bu, ou + q, none⟩)) (some 76) rfl rfl (by kernel_rfl) (by kernel_rfl) (by kernel_rfl) (fun _ _ _ h => h) (yieldsIf_run (by kernel_rfl) (fun W _ => by go_simp)) S0 ?_
          refine held_take (i := 15) (v := um) (some 77) rfl rfl (by kernel_rfl) (by kernel_rfl) (by kernel_rfl) (fun _ _ _ h => h) (yieldsIf_cell (by kernel_rfl) rfl (by kernel_rfl) (fun W h => hloadT W (HTB.out W h).1)) S0 ?_
          refine held_enter (i := 8) (some 70) (f := 125) (args := #[.int .i64 p, .int .i64 (K : Int)]) (by kernel_rfl) rfl rfl rfl (by kernel_rfl) (HKS.out wd) ?_ (fun c w' h => by cases h.1) (fun w' h => by cases h.1)
          rintro e3 W3 ⟨he3, hw3⟩
          injection he3 with he3
          subst he3 hw3
          refine ⟨S0, ?_⟩
          refine held_enter (i := 16) (some 78) (f := 124) (args := #[.int .i64 p, .int .i64 sg, um]) (by kernel_rfl) rfl rfl rfl (by kernel_rfl) (scaledTable_any p sg c um tq wd (by omega) (by omega) HSG.out (HTB.out _ S0).2 (by omega) (by omega) HTQ.out.2) ?_ (fun c w' h => by cases h.1) (fun w' h => by cases h.1)
          rintro e4 W4 ⟨he4, hm⟩
          injection he4 with he4
          subst he4
          have S1 : Below wx.heap.size wx W4 := S0.trans (hm.below.mono S0.size)
          refine ⟨S1, ?_⟩
          have hrw := hm.rw2 (lo := wd.heap.size) (Nat.le_refl _) (by omega) (by omega)
          rw [show tableOf tq.length c (scZ p sg tq) = tableOf tq.length c (scZ p sg tq) from rfl] at hrw
          have HFP := Lib.hid (HF.out.below S0)
          have hst := HFP.out.step hm.below (show j < (shM p ds ms K).length by rw [HLEN.out]; exact hlt) (by rw [HSX.out]; exact hrw)
          have hr4 := HFP.out.row.of_block (hm.below.block _ HFP.out.row.lt)
          have q1 : W4.cell? ⟨bm, j, none⟩ = some (f j) := hr4.cell hlt
          have q2 : W4.frozen? ⟨bm, j, none⟩ = false := hr4.frozen j
          refine held_take (i := 17) (v := .pointer (some ⟨bm, j, none⟩)) (some 79) rfl rfl (by kernel_rfl) (by kernel_rfl) (by kernel_rfl) (fun _ _ _ h => h) (yieldsIf_run (by kernel_rfl) (fun W _ => by go_simp)) S1 ?_
          have HBN : Hid (Below wB.heap.size wB (W4.setCell ⟨bm, j, none⟩ (.slice (some ⟨wd.heap.size, 0, none⟩) tq.length tq.length))) := Lib.hid ((HB.out.trans (S1.mono HB.out.size)).setCell (p := ⟨bm, j, none⟩) (by show wB.heap.size ≤ bm; exact hlo.2.2) _)
          have HXN : Hid ((W4.setCell ⟨bm, j, none⟩ (.slice (some ⟨wd.heap.size, 0, none⟩) tq.length tq.length)).rowIs g 28 3 (box3 p (.slice (some ⟨bd, 0, none⟩) n n) (.slice (some ⟨bm, 0, none⟩) t t))) := Lib.hid ((HBX.out.of_block (S1.block _ HBX.out.lt)).setOther hg2 _)
          have HDN : Hid ((W4.setCell ⟨bm, j, none⟩ (.slice (some ⟨wd.heap.size, 0, none⟩) tq.length tq.length)).rowIs bd 2 n (fun j => .int .i64 (shd ds K j))) := Lib.hid ((HBD.out.of_block (S1.block _ HBD.out.lt)).setOther hbdm _)
          have hleP : wx.heap.size ≤ wd.heap.size := S0.size
          have hleQ : wx.heap.size ≤ W4.heap.size := S1.size
          refine held_none (i := 18) (v := .bool false) rfl rfl (by kernel_rfl) (by kernel_rfl) (by kernel_rfl) (fun _ _ _ h => h) (yieldsIf_move (by kernel_rfl) rfl (by kernel_rfl)) S1 ?_
          refine wpAnyH_done (by kernel_rfl) (lastQ_of rfl (by kernel_rfl) ?_) _
          simp only [Act.put, List.setIfInBounds_toArray, List.set_cons_zero, List.set_cons_succ]
          go_simp
          have HLN : Hid (wo.heap.size ≤ (W4.setCell ⟨bm, j, none⟩ (.slice (some ⟨wd.heap.size, 0, none⟩) tq.length tq.length)).heap.size ∧ wo.heap.size ≤ (fun q => if q < j then b q else if q = j then wd.heap.size else W4.heap.size) 0) := Lib.hid (by
            have h0 := HLE.out
            refine ⟨by simp; omega, ?_⟩
            by_cases e : 0 < j
            · simp only [if_pos e]; exact h0.2
            · simp only [if_neg e, if_pos (show 0 = j by omega)]; omega)
          have HST := Lib.hid hst
          obtain ⟨wn, hwn'⟩ : ∃ wn, wn = (W4.setCell ⟨bm, j, none⟩ (.slice (some ⟨wd.heap.size, 0, none⟩) tq.length tq.length)) := ⟨_, rfl⟩
          rw [← hwn'] at HST HBN HXN HDN HLN ⊢
          clear hwn' q1 q2 hr4 hst hrw HFP
          go_wp2
          go_roundw
          case rel => exact ⟨j + 1, by omega, by omega, _, _, HST, HLN⟩
          case measure => simp [intOf]; omega
      · have hlk : ¬ (j : Int) < (t : Int) := by omega
        have HF3 : Hid (Fill3 wx bm t t f b (shM p ds ms K)) := Lib.hid (by have h0 := HF.out; rwa [show j = t by omega] at h0)
        have HRC := Lib.hid (sh_rc (w := wB) HT.out HN.out (by omega) (by omega) HBD.out HF3.out hlo.2.1 hlo.2.2 (by have := HLE.out.2; omega))
        have x0' : wx.cell? ⟨g, 0, none⟩ = some (.int .i64 p) := HBX.out.cell (i := 0) (by omega)
        have x1' : wx.cell? ⟨g, 1, none⟩ = some (.slice (some ⟨bd, 0, none⟩) n n) := HBX.out.cell (i := 1) (by omega)
        have x2' : wx.cell? ⟨g, 2, none⟩ = some (.slice (some ⟨bm, 0, none⟩) t t) := HBX.out.cell (i := 2) (by omega)
        have HNF := Lib.hid (HNB.out _ HB.out)
        clear HF HF3
        have HR1 : ∃ x0 x1 x2, wx.heap[w.heap.size + 1]? = some (.cells #[x0, x1, x2] 28) := ⟨_, _, _, HNF.out.2⟩
        obtain ⟨x0, x1, x2, hr⟩ := HR1
        have r0 : wx.rowIs (w.heap.size + 1) 28 3 (sel3 x0 x1 x2) := rowIs3 hr
        have q0 : wx.cell? ⟨w.heap.size + 1, 0, none⟩ = some x0 := r0.cell (i := 0) (by omega)
        have z0 : wx.frozen? ⟨w.heap.size + 1, 0, none⟩ = false := r0.frozen 0
        have r1 := r0.set 0 (.int .i64 p)
        have q1 : (wx.setCell ⟨w.heap.size + 1, 0, none⟩ (.int .i64 p)).cell? ⟨w.heap.size + 1, 1, none⟩ = some x1 := r1.cell (i := 1) (by omega)
        have z1 : (wx.setCell ⟨w.heap.size + 1, 0, none⟩ (.int .i64 p)).frozen? ⟨w.heap.size + 1, 1, none⟩ = false := r1.frozen 1
        have r2 := r1.set 1 (.slice (some ⟨bd, 0, none⟩) n n)
        have q2 : ((wx.setCell ⟨w.heap.size + 1, 0, none⟩ (.int .i64 p)).setCell ⟨w.heap.size + 1, 1, none⟩ (.slice (some ⟨bd, 0, none⟩) n n)).cell? ⟨w.heap.size + 1, 2, none⟩ = some x2 := r2.cell (i := 2) (by omega)
        have z2 : ((wx.setCell ⟨w.heap.size + 1, 0, none⟩ (.int .i64 p)).setCell ⟨w.heap.size + 1, 1, none⟩ (.slice (some ⟨bd, 0, none⟩) n n)).frozen? ⟨w.heap.size + 1, 2, none⟩ = false := r2.frozen 2
        have r3 := r2.set 2 (.slice (some ⟨bm, 0, none⟩) t t)
        obtain ⟨WF, hWF⟩ : ∃ W : World, W = (((wx.setCell ⟨w.heap.size + 1, 0, none⟩ (.int .i64 p)).setCell ⟨w.heap.size + 1, 1, none⟩ (.slice (some ⟨bd, 0, none⟩) n n)).setCell ⟨w.heap.size + 1, 2, none⟩ (.slice (some ⟨bm, 0, none⟩) t t)) := ⟨_, rfl⟩
        have hbWF : ∀ B (w0 : World), B ≤ w.heap.size + 1 → Below B w0 wx → Below B w0 WF := fun B w0 hl hb => by rw [hWF]; exact (((hb.setCell (by show B ≤ w.heap.size + 1; exact hl) _).setCell (by show B ≤ w.heap.size + 1; exact hl) _).setCell (by show B ≤ w.heap.size + 1; exact hl) _)
        have hsWF : ∀ lo hi, w.heap.size + 1 < lo ∨ hi ≤ w.heap.size + 1 → Same lo hi wx WF := fun lo hi hl => by rw [hWF]; exact (((Same.set _ hl).trans (Same.set _ hl)).trans (Same.set _ hl))
        have hzWF : WF.heap.size = wx.heap.size := by rw [hWF]; simp
        rw [← hWF] at r3
        have f0 : WF.cell? ⟨w.heap.size + 1, 0, none⟩ = some (.int .i64 p) := r3.cell (i := 0) (by omega)
        have f1 : WF.cell? ⟨w.heap.size + 1, 1, none⟩ = some (.slice (some ⟨bd, 0, none⟩) n n) := r3.cell (i := 1) (by omega)
        have f2 : WF.cell? ⟨w.heap.size + 1, 2, none⟩ = some (.slice (some ⟨bm, 0, none⟩) t t) := r3.cell (i := 2) (by omega)
        have HWWF := Lib.hid hWF
        clear hr r0 r1 r2 r3 hWF
        have HRF := Lib.hid ((HRC.out.same (hsWF _ _ (Or.inl (by omega)))).wider (show w.heap.size ≤ wB.heap.size by omega) (Nat.le_of_eq hzWF.symm))
        have HBF := Lib.hid (hbWF w.heap.size w (by omega) HNF.out.1.below)
        clear hsWF hbWF hzWF HRC
        go_wp2
        rw [← HWWF.out]
        refine bodyPost_ret (v := .tuple #[.agg #[.int .i64 p, .slice (some ⟨bd, 0, none⟩) n n, .slice (some ⟨bm, 0, none⟩) t t], .int .i64 0]) ?_ rfl ?_
        · simp only [results, HRES.out]
          go_simp
        · exact ⟨_, shOut p (K : Int) ds ms, 0, rfl, ⟨some ⟨bd, 0, none⟩, n, some ⟨bm, 0, none⟩, t, by show _ = Value.agg #[.int .i64 p, .slice _ (shD ds K).length n, .slice _ (shM p ds ms K).length t]; rw [shD_length, shM_length, ← HT.out, ← HN.out], by show RcW _ _ _ (.slice _ (shD ds K).length n) (.slice _ (shM p ds ms K).length t) (shD ds K) (shM p ds ms K); rw [shD_length, shM_length, ← HT.out, ← HN.out]; exact HRF.out⟩, HBF.out, RsOut.of_yes HOK.out.code rfl⟩
end Go.Proofs.Ytpdkfidmmjlmnaa
