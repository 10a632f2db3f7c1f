/-
  AddComplexes of the program.
-/
import Derived.Test.YtpdkfidmmjlmnaaAxm
import Derived.Test.YtpdkfidmmjlmnaaStx
import Derived.Test.YtpdkfidmmjlmnaaAz
import Derived.Test.YtpdkfidmmjlmnaaHld
import Derived.Test.YtpdkfidmmjlmnaaEnd
import Derived.Deep.Cut
import Derived.Deep.CutRange
namespace Go.Proofs.Ytpdkfidmmjlmnaa
open Go.RowKit

theorem ax_pr {p p2 : Int} {ds : List Int} {ms : List (List (List Int))} {ds2 : List Int} {ms2 : List (List (List Int))} {ec : Int} (h : ec = prCode p p2 ds ms ds2 ms2) (hne : ¬ ec = 0) : axCode p ds ms p2 ds2 ms2 = ec := by
  subst h
  by_cases h1 : IsCx p ds ms ∧ IsCx p2 ds2 ms2
  · by_cases h2 : p = p2
    · exact absurd (by unfold prCode; rw [if_neg (fun k => k h1), if_pos h2]) hne
    · have e1 : prCode p p2 ds ms ds2 ms2 = 2 := by unfold prCode; rw [if_neg (fun k => k h1), if_neg h2]
      have e2 : axCode p ds ms p2 ds2 ms2 = 2 := by unfold axCode; rw [if_neg (fun k => k h1), if_pos h2]
      rw [e1, e2]
  · have e1 : prCode p p2 ds ms ds2 ms2 = 1 := by unfold prCode; rw [if_pos h1]
    have e2 : axCode p ds ms p2 ds2 ms2 = 1 := by unfold axCode; rw [if_pos h1]
    rw [e1, e2]

set_option maxHeartbeats 12800000 in
set_option maxRecDepth 100000 in
theorem addComplexes_any (p p2 : Int) (dv mv dv2 mv2 : Value) (ds : List Int) (ms : List (List (List Int))) (ds2 : List Int) (ms2 : List (List (List Int))) (w : World) (h : Cx 0 w dv mv ds ms) (h2 : Cx 0 w dv2 mv2 ds2 ms2) (hd : ds.length ≤ 1048576) (hm : Bd3 1048576 ms) (hd2 : ds2.length ≤ 1048576) (hm2 : Bd3 1048576 ms2) :
    Calls Try.prog 57 #[.agg #[.int .i64 p, dv, mv], .agg #[.int .i64 p2, dv2, mv2]] w (AnsW RwC (fun o => o = axOut p ds ms p2 ds2 ms2) (0, [], []) (axCode p ds ms p2 ds2 ms2) w) := by
  have hres : Try.f57.results = #[.cell 4 28, .tmp 5] := by kernel_rfl
  have HRES := Lib.hid hres
  have HM := Lib.hid hm
  have HM2 := Lib.hid hm2
  obtain ⟨wa, hwa⟩ : ∃ wa, wa = (w.alloc (.cells #[.int .i64 p, dv, mv] 28)).alloc (.cells #[.int .i64 p2, dv2, mv2] 28) := ⟨_, rfl⟩
  obtain ⟨w1, hw1⟩ : ∃ w1, w1 = wa.alloc (.cells #[.int .i64 0, .slice none 0 0, .slice none 0 0] 28) := ⟨_, rfl⟩
  have hsa : wa.heap.size = w.heap.size + 2 := by rw [hwa]; simp
  have hs1 : w.heap.size + 3 ≤ w1.heap.size := by rw [hw1]; simp [hsa]
  have hlt0 : w.heap.size < w1.heap.size := by omega
  have hlt1 : w.heap.size + 1 < w1.heap.size := by omega
  have hlt2 : w.heap.size + 2 < w1.heap.size := by omega
  have HX : Hid (Bx w w1 w.heap.size p dv mv ds ms) := Lib.hid (by rw [hw1]; exact (show Bx w wa w.heap.size p dv mv ds ms by rw [hwa]; exact (bx_two 28 h h2).1).next (below_alloc1 _ _))
  have HY : Hid (Bx w w1 (w.heap.size + 1) p2 dv2 mv2 ds2 ms2) := Lib.hid (by rw [hw1]; exact (show Bx w wa (w.heap.size + 1) p2 dv2 mv2 ds2 ms2 by rw [hwa]; exact (bx_two 28 h h2).2).next (below_alloc1 _ _))
  have HR0 : Hid (Rz w1 (w.heap.size + 2) 28 #[.int .i64 0, .slice none 0 0, .slice none 0 0]) := Lib.hid (by rw [hw1, ← hsa]; exact Rz.new _ _ _)
  obtain ⟨ad, cap, rfl⟩ := Sl.shape h.dims
  obtain ⟨am, capm, rfl⟩ := Sl.shape h.maps
  obtain ⟨ad2, cap2, rfl⟩ := Sl.shape h2.dims
  obtain ⟨am2, capm2, rfl⟩ := Sl.shape h2.maps
  have HNX : Hid (∀ W, Below w1.heap.size w1 W → Bx w W w.heap.size p (.slice ad ds.length cap) (.slice am ms.length capm) ds ms ∧ Bx w W (w.heap.size + 1) p2 (.slice ad2 ds2.length cap2) (.slice am2 ms2.length capm2) ds2 ms2 ∧ Rz W (w.heap.size + 2) 28 #[.int .i64 0, .slice none 0 0, .slice none 0 0]) := Lib.hid (fun W hb => ⟨HX.out.next hb, HY.out.next hb, HR0.out.next hb⟩)
  have HB0 : Hid (Below w1.heap.size w1 w1) := Lib.hid (Below.refl _ _)
  clear h h2 hm hm2 hres
  have c0 := HX.out.c0
  have c1 := HX.out.c1
  have c2 := HX.out.c2
  have yc0 := HY.out.c0
  have yc1 := HY.out.c1
  have yc2 := HY.out.c2
  clear HX HY HR0
  go_enter Try.func57, Try.ntmps57
  go_upto_region 1 with fail
  rw [← hwa, ← hw1]
  clear hwa hw1 hsa
  obtain ⟨wq, hwq⟩ : ∃ wq, wq = w1.alloc (.cells #[.int .i64 p, .slice ad ds.length cap, .slice am ms.length capm, .int .i64 p2, .slice ad2 ds2.length cap2, .slice am2 ms2.length capm2] 28) := ⟨_, rfl⟩
  have hr2 : Row2 wq w1.heap.size p p2 (.slice ad ds.length cap) (.slice am ms.length capm) (.slice ad2 ds2.length cap2) (.slice am2 ms2.length capm2) := by
    rw [hwq]
    exact ⟨by simp, by simp, by simp, by simp, by simp, by simp⟩
  have hbq : Below w1.heap.size w1 wq := by rw [hwq]; exact below_alloc1 _ _
  have HCK := Lib.hid (checkPrimes2_any p p2 w1.heap.size _ _ _ _ ds ms ds2 ms2 wq hr2 (HNX.out _ hbq).1.cx (HNX.out _ hbq).2.1.cx hd HM.out hd2 HM2.out)
  have HBQ := Lib.hid hbq
  obtain ⟨ec, hec⟩ : ∃ ec, ec = prCode p p2 ds ms ds2 ms2 := ⟨_, rfl⟩
  rw [← hec] at HCK
  have HEC := Lib.hid hec
  clear hr2 hbq hec
  go_wp2_with fail
  rw [← hwq]
  clear hwq
  refine HCK.out.mono ?_
  rintro ee wB ⟨rfl, hb⟩
  have HBB : Hid (Below w1.heap.size w1 wB) := Lib.hid (HBQ.out.trans (hb.mono HBQ.out.size))
  clear hb HBQ HCK
  clear c0 c1 c2 yc0 yc1 yc2
  have c0 := (HNX.out _ HBB.out).1.c0
  have c1 := (HNX.out _ HBB.out).1.c1
  have c2 := (HNX.out _ HBB.out).1.c2
  have yc0 := (HNX.out _ HBB.out).2.1.c0
  have yc1 := (HNX.out _ HBB.out).2.1.c1
  have yc2 := (HNX.out _ HBB.out).2.1.c2
  by_cases h0 : ¬ ec = 0
  · have hne1 : (ec != 0) = true := by simp [h0]
    have hne2 : (ec == 0) = false := by simp [h0]
    have HNE := Lib.hid h0
    clear h0
    have HCODE : Hid (axCode p ds ms p2 ds2 ms2 = ec) := Lib.hid (ax_pr HEC.out HNE.out)
    have HR1 : ∃ x0 x1 x2, wB.heap[w.heap.size + 2]? = some (.cells #[x0, x1, x2] 28) := ⟨_, _, _, (HNX.out _ HBB.out).2.2⟩
    obtain ⟨x0, x1, x2, hr⟩ := HR1
    have r0 : wB.rowIs (w.heap.size + 2) 28 3 (sel3 x0 x1 x2) := rowIs3 hr
    have q0 : wB.cell? ⟨w.heap.size + 2, 0, none⟩ = some x0 := r0.cell (i := 0) (by omega)
    have z0 : wB.frozen? ⟨w.heap.size + 2, 0, none⟩ = false := r0.frozen 0
    have r1 := r0.set 0 (.int .i64 0)
    have q1 : (wB.setCell ⟨w.heap.size + 2, 0, none⟩ (.int .i64 0)).cell? ⟨w.heap.size + 2, 1, none⟩ = some x1 := r1.cell (i := 1) (by omega)
    have z1 : (wB.setCell ⟨w.heap.size + 2, 0, none⟩ (.int .i64 0)).frozen? ⟨w.heap.size + 2, 1, none⟩ = false := r1.frozen 1
    have r2 := r1.set 1 (.slice none 0 0)
    have q2 : ((wB.setCell ⟨w.heap.size + 2, 0, none⟩ (.int .i64 0)).setCell ⟨w.heap.size + 2, 1, none⟩ (.slice none 0 0)).cell? ⟨w.heap.size + 2, 2, none⟩ = some x2 := r2.cell (i := 2) (by omega)
    have z2 : ((wB.setCell ⟨w.heap.size + 2, 0, none⟩ (.int .i64 0)).setCell ⟨w.heap.size + 2, 1, none⟩ (.slice none 0 0)).frozen? ⟨w.heap.size + 2, 2, none⟩ = false := r2.frozen 2
    have r3 := r2.set 2 (.slice none 0 0)
    obtain ⟨WF, hWF⟩ : ∃ W : World, W = (((wB.setCell ⟨w.heap.size + 2, 0, none⟩ (.int .i64 0)).setCell ⟨w.heap.size + 2, 1, none⟩ (.slice none 0 0)).setCell ⟨w.heap.size + 2, 2, none⟩ (.slice none 0 0)) := ⟨_, rfl⟩
    have hbWF : ∀ B (w0 : World), B ≤ w.heap.size + 2 → Below B w0 wB → Below B w0 WF := fun B w0 hl hb => by rw [hWF]; exact (((hb.setCell (by show B ≤ w.heap.size + 2; exact hl) _).setCell (by show B ≤ w.heap.size + 2; exact hl) _).setCell (by show B ≤ w.heap.size + 2; exact hl) _)
    have hsWF : ∀ lo hi, w.heap.size + 2 < lo ∨ hi ≤ w.heap.size + 2 → Same lo hi wB WF := fun lo hi hl => by rw [hWF]; exact (((Same.set _ hl).trans (Same.set _ hl)).trans (Same.set _ hl))
    have hzWF : WF.heap.size = wB.heap.size := by rw [hWF]; simp
    rw [← hWF] at r3
    have f0 : WF.cell? ⟨w.heap.size + 2, 0, none⟩ = some (.int .i64 0) := r3.cell (i := 0) (by omega)
    have f1 : WF.cell? ⟨w.heap.size + 2, 1, none⟩ = some (.slice none 0 0) := r3.cell (i := 1) (by omega)
    have f2 : WF.cell? ⟨w.heap.size + 2, 2, none⟩ = some (.slice none 0 0) := r3.cell (i := 2) (by omega)
    have HWWF := Lib.hid hWF
    clear hr r0 r1 r2 r3 hWF
    have HBF := Lib.hid (hbWF w.heap.size w (by omega) (HNX.out _ HBB.out).1.below)
    clear hsWF hbWF hzWF
    go_wp2
    rw [← HWWF.out]
    refine bodyPost_ret (v := .tuple #[.agg #[.int .i64 0, .slice none 0 0, .slice none 0 0], .int .i64 ec]) ?_ rfl ?_
    · simp only [results, HRES.out]
      go_simp
    · exact ⟨_, (0, [], []), ec, rfl, RwC.nil _ _ _, HBF.out, by rw [HCODE.out]; exact RsOut.of_no HNE.out⟩
  have h0' := Classical.not_not.1 h0
  clear h0
  subst h0'
  have HPR := Lib.hid (prCode_zero HEC.out.symm)
  have HC := Lib.hid HPR.out.x
  have HC2 := Lib.hid HPR.out.y
  have hpp2 := HPR.out.prime
  clear HPR HEC
  subst hpp2
  have hne1 : ((0 : Int) != 0) = false := by simp
  have hne2 : ((0 : Int) == 0) = true := by simp
  have hl1 := HC.out.1.len1
  have hl2 := HC.out.1.mlen
  have hl3 := HC2.out.1.len1
  have hl4 := HC2.out.1.mlen
  obtain ⟨t, ht⟩ : ∃ t, t = axT ms ms2 := ⟨_, rfl⟩
  obtain ⟨n, hn⟩ : ∃ n, n = t + 1 := ⟨_, rfl⟩
  have ht8 : t ≤ 8 := by rw [ht]; unfold axT; split <;> omega
  have HT := Lib.hid ht
  have HN := Lib.hid hn
  have hn9 : n ≤ 9 := by omega
  have htn : t < n := by omega
  have HMX : Hid (max ((ds.length : Int) - 1) ((ds2.length : Int) - 1) = (t : Int)) := Lib.hid (by rw [ht]; exact ax_max ms ms2 (by omega) (by omega))
  have hwn : IntKind.i64.wrap ((t : Int) + 1) = (n : Int) := by rw [show (t : Int) + 1 = (n : Int) by omega]; exact IntWalk.i64_in _ (by omega)
  clear ht hn
  have HNB : Hid (∀ W, Below wB.heap.size wB W → Bx w W w.heap.size p (.slice ad ds.length cap) (.slice am ms.length capm) ds ms ∧ Bx w W (w.heap.size + 1) p (.slice ad2 ds2.length cap2) (.slice am2 ms2.length capm2) ds2 ms2) := Lib.hid (fun W hb => ⟨(HNX.out _ (HBB.out.trans (hb.mono HBB.out.size))).1, (HNX.out _ (HBB.out.trans (hb.mono HBB.out.size))).2.1⟩)
  go_upto_region 4 with fail
  go_cut [7] from 11 (fun s6 wz => s6 = .int .i64 (t : Int) ∧ Hid (Below wB.heap.size wB wz))
  case first =>
    clear c0 c1 c2 yc0 yc1 yc2
    go_wp2
    refine wp_region_held (S := fun W => Below (wB.heap.size) wB W) (by kernel_rfl) ?_
    have S0 : Below (wB.heap.size) wB wB.drew := (Below.refl _ _).drew
    have hB0 : wB.heap.size ≤ wB.heap.size := Nat.le_refl _
    have hsd : wB.heap.size ≤ wB.drew.heap.size := Nat.le_refl _
    have hbd : Below wB.heap.size wB wB.drew := (Below.refl _ _).drew
    change wpAnyH _ _ _ _ _ _ _ _ wB.drew
    obtain ⟨wd, hwd⟩ : ∃ wd, wd = wB.drew := ⟨_, rfl⟩
    rw [← hwd] at S0 hsd hbd ⊢
    clear hwd
    refine held_take (i := 0) (v := .agg #[.int .i64 p, .slice ad ds.length cap, .slice am ms.length capm]) (some 19) rfl rfl (by kernel_rfl) (by kernel_rfl) (by kernel_rfl) (fun _ _ _ h => h) (yieldsIf_cell (by kernel_rfl) rfl (by kernel_rfl) (fun W h => hload3x (HNB.out W h).1)) S0 ?_
    refine held_take (i := 2) (v := .agg #[.int .i64 p, .slice ad2 ds2.length cap2, .slice am2 ms2.length capm2]) (some 21) rfl rfl (by kernel_rfl) (by kernel_rfl) (by kernel_rfl) (fun _ _ _ h => h) (yieldsIf_cell (by kernel_rfl) rfl (by kernel_rfl) (fun W h => hload3x (HNB.out W h).2)) S0 ?_
    refine held_one (i := 1) (by kernel_rfl) ?_
    · refine op_enter (i := 1) (some 20) (f := 116) (args := #[.agg #[.int .i64 p, .slice ad ds.length cap, .slice am ms.length capm]]) rfl rfl rfl (by kernel_rfl) (topOf_any p _ _ ds.length _ _ wd rfl hd) ?_ (fun c w' h => by cases h.1) (fun w' h => by cases h.1)
      rintro ee W1 ⟨he, hb1⟩
      injection he with he
      subst he
      have S1 : Below (wB.heap.size) wB W1 := S0.trans (hb1.mono (Nat.le_trans hB0 S0.size))
      refine ⟨S1, ?_⟩
      refine held_one (i := 3) (by kernel_rfl) ?_
      · refine op_enter (i := 3) (some 22) (f := 116) (args := #[.agg #[.int .i64 p, .slice ad2 ds2.length cap2, .slice am2 ms2.length capm2]]) rfl rfl rfl (by kernel_rfl) (topOf_any p _ _ ds2.length _ _ W1 rfl hd2) ?_ (fun c w' h => by cases h.1) (fun w' h => by cases h.1)
        rintro ee W2 ⟨he, hb2⟩
        injection he with he
        subst he
        have S2 : Below (wB.heap.size) wB W2 := S1.trans (hb2.mono (Nat.le_trans hB0 S1.size))
        refine ⟨S2, ?_⟩
        refine held_mem (i := 4) (v := .int .i64 (t : Int)) (w' := W2) (some 23) (by kernel_rfl) rfl rfl rfl (by go_simp; exact HMX.out) S2 ?_
        refine held_take (i := 5) (v := .int .i64 (t : Int)) (some 7) rfl rfl (by kernel_rfl) (by kernel_rfl) (by kernel_rfl) (fun _ _ _ h => h) (yieldsIf_assign (by kernel_rfl) rfl (by kernel_rfl)) S2 ?_
        refine wpAnyH_done (by kernel_rfl) ?_ _
        simp only [Act.put, List.setIfInBounds_toArray, List.set_cons_zero, List.set_cons_succ]
        go_wp2
        go_meet
        exact ⟨rfl, Lib.hid S2⟩
  case rest =>
    obtain ⟨rfl, HB2⟩ := hcut
    obtain ⟨w2, hw2⟩ : ∃ w2 : World, w2 = wc := ⟨_, rfl⟩
    subst hw2
    clear c0 c1 c2 yc0 yc1 yc2
    have hs2 : wB.heap.size ≤ w2.heap.size := HB2.out.size
    have hsB : w1.heap.size ≤ wB.heap.size := HBB.out.size
    have HBW := Lib.hid (HBB.out.trans (HB2.out.mono hsB))
    have HNY : Hid (∀ W, Below w2.heap.size w2 W → Bx w W w.heap.size p (.slice ad ds.length cap) (.slice am ms.length capm) ds ms ∧ Bx w W (w.heap.size + 1) p (.slice ad2 ds2.length cap2) (.slice am2 ms2.length capm2) ds2 ms2 ∧ Rz W (w.heap.size + 2) 28 #[.int .i64 0, .slice none 0 0, .slice none 0 0]) := Lib.hid (fun W hb => HNX.out _ (HBW.out.trans (hb.mono (by omega))))
    have HBZ : Hid (Below w2.heap.size w2 w2) := Lib.hid (Below.refl _ _)
    have c0 := (HNY.out _ HBZ.out).1.c0
    have c1 := (HNY.out _ HBZ.out).1.c1
    have c2 := (HNY.out _ HBZ.out).1.c2
    have yc0 := (HNY.out _ HBZ.out).2.1.c0
    have yc1 := (HNY.out _ HBZ.out).2.1.c1
    have yc2 := (HNY.out _ HBZ.out).2.1.c2
    have hmk := run_make_row' (P := Try.prog) 22 2 (.int .i64 0) 8 Try.underlying22 Try.infoI rfl .i64 .i64 n (by omega) (by omega)
    have hmk2 := run_make_row' (P := Try.prog) 23 41 (.slice none 0 0) 24 Try.underlying23 Try.infoSS rfl .i64 .i64 t (by omega) (by omega)
    have hq0 : w.heap.size < w2.heap.size := by omega
    have hq1 : w.heap.size < w2.heap.size + 1 := by omega
    have hq2 : w.heap.size < w2.heap.size + 2 := by omega
    have hq3 : w.heap.size < w2.heap.size + 1 + 1 := by omega
    have hq4 : w.heap.size ≤ w2.heap.size := by omega
    go_upto_region 5 with fail
    go_cut [8] from 11 (fun s wx => ∃ g bd bm, s = .pointer (some ⟨g, 0, none⟩) ∧ Hid (Du w2 wx g bd bm n t p (fun _ => .int .i64 0) (fun _ => .slice none 0 0)))
    case first =>
      go_region
      all_goals go_wp2
      all_goals go_meet
      all_goals refine ⟨_, ?_, ?_, rfl, Lib.hid ⟨below3 _ _ _ _, ?_, ?_, ?_, ?_, ?_⟩⟩
      all_goals first
        | exact box1 _ _ _ _ _ _ _ | exact box2 _ _ _ _ _ _ _ | exact box3' _ _ _ _ _ _ _
        | exact made1 _ _ _ _ _ _ | exact made2 _ _ _ _ _ _ | exact made3 _ _ _ _ _ _ | skip
      all_goals omega
    case rest =>
      obtain ⟨g, bd, bm, rfl, HDU⟩ := hcut
      clear hmk hmk2
      clear c0 c1 c2 yc0 yc1 yc2
      go_wp2
      go_loopw [34] (fun i wr => ∃ k : Nat, k ≤ n ∧ i = .int .i64 k ∧ Hid (Du w2 wr g bd bm n t p (axF ds ds2 k) (fun _ => .slice none 0 0)) ∧ Hid (∀ j, j < k → axd ds ds2 j ≤ 8)) (fun i _ => n - (intOf i).toNat)
      case atStart => exact ⟨0, Nat.zero_le _, rfl, Lib.hid (HDU.out.congr (fun j _ => by simp [axF])), Lib.hid (fun j hj => absurd hj (Nat.not_lt_zero _))⟩
      case round =>
        obtain ⟨k, hk, rfl, HD, HFT⟩ := hrel
        obtain ⟨wx, hwx⟩ : ∃ wx : World, wx = wr := ⟨_, rfl⟩
        subst hwx
        clear HDU
        by_cases hlt : k < n
        · have hlk : (k : Int) < (n : Int) := by omega
          have hk0 : (0 : Int) ≤ (k : Int) := by omega
          obtain ⟨x, hx⟩ : ∃ x, x = ds.getD k 0 := ⟨_, rfl⟩
          obtain ⟨y, hy⟩ : ∃ y, y = ds2.getD k 0 := ⟨_, rfl⟩
          have hxb := HC.out.1.dim k
          have hyb := HC2.out.1.dim k
          rw [← hx] at hxb
          rw [← hy] at hyb
          obtain ⟨s, hs⟩ : ∃ s, s = x + y := ⟨_, rfl⟩
          have hws : Hid (IntKind.i64.wrap (x + y) = s) := Lib.hid (by rw [← hs]; exact IntWalk.i64_in _ (by omega))
          have HSX : Hid (s = axd ds ds2 k) := Lib.hid (by rw [hs, hx, hy]; rfl)
          have HNW : Hid (∀ W, Below wx.heap.size wx W → Bx w W w.heap.size p (.slice ad ds.length cap) (.slice am ms.length capm) ds ms ∧ Bx w W (w.heap.size + 1) p (.slice ad2 ds2.length cap2) (.slice am2 ms2.length capm2) ds2 ms2 ∧ Rz W (w.heap.size + 2) 28 #[.int .i64 0, .slice none 0 0, .slice none 0 0]) := Lib.hid (fun W hb => HNY.out _ (HD.out.below.trans (hb.mono HD.out.below.size)))
          have HK1 : Hid (∀ W, Below wx.heap.size wx W → Calls Try.prog 117 #[.agg #[.int .i64 p, .slice ad ds.length cap, .slice am ms.length capm], .int .i64 (k : Int)] W (BR (.int .i64 x) W)) := Lib.hid (fun W hb => by have h0 := dimAt_any p k _ _ ds ms W (HNW.out W hb).1.cx hd; rw [dimZ_nat, ← hx] at h0; exact h0)
          have HK2 : Hid (∀ W, Below wx.heap.size wx W → Calls Try.prog 117 #[.agg #[.int .i64 p, .slice ad2 ds2.length cap2, .slice am2 ms2.length capm2], .int .i64 (k : Int)] W (BR (.int .i64 y) W)) := Lib.hid (fun W hb => by have h0 := dimAt_any p k _ _ ds2 ms2 W (HNW.out W hb).2.1.cx hd2; rw [dimZ_nat, ← hy] at h0; exact h0)
          have HG1 : Hid (∀ W, Below wx.heap.size wx W → W.cell? ⟨g, 1, none⟩ = some (.slice (some ⟨bd, 0, none⟩) n n)) := Lib.hid (fun W hb => (HD.out.next hb).box.cell (i := 1) (by omega))
          have hsx : s ≤ 16 := by omega
          clear hs hx hy
          go_upto_region 9 with fail
          go_wp2
          refine wp_region_last (fun W => Below (wx.heap.size) wx W) 11 (by kernel_rfl) rfl (by kernel_rfl) ?_
          have S0 : Below (wx.heap.size) wx wx.drew := (Below.refl _ _).drew
          have hB0 : wx.heap.size ≤ wx.heap.size := Nat.le_refl _
          have hsd : wx.heap.size ≤ wx.drew.heap.size := Nat.le_refl _
          have hbd : Below wx.heap.size wx wx.drew := (Below.refl _ _).drew
          change wpAnyH _ _ _ _ _ _ _ _ wx.drew
          obtain ⟨wd, hwd⟩ : ∃ wd, wd = wx.drew := ⟨_, rfl⟩
          rw [← hwd] at S0 hsd hbd ⊢
          clear hwd
          refine held_take (i := 0) (v := .pointer (some ⟨g, 1, none⟩)) (some 37) rfl rfl (by kernel_rfl) (by kernel_rfl) (by kernel_rfl) (fun _ _ _ h => h) (yieldsIf_run (by kernel_rfl) (fun W _ => by kernel_rfl)) S0 ?_
          refine held_take (i := 1) (v := .slice (some ⟨bd, 0, none⟩) n n) (some 38) rfl rfl (by kernel_rfl) (by kernel_rfl) (by kernel_rfl) (fun _ _ _ h => h) (yieldsIf_cell (by kernel_rfl) rfl (by kernel_rfl) (fun W h => hloadD W (HG1.out W h))) S0 ?_
          refine held_take (i := 2) (v := .int .i64 (k : Int)) (some 39) rfl rfl (by kernel_rfl) (by kernel_rfl) (by kernel_rfl) (fun _ _ _ h => h) (yieldsIf_move (by kernel_rfl) rfl (by kernel_rfl)) S0 ?_
          refine held_take (i := 3) (v := .agg #[.int .i64 p, .slice ad ds.length cap, .slice am ms.length capm]) (some 40) rfl rfl (by kernel_rfl) (by kernel_rfl) (by kernel_rfl) (fun _ _ _ h => h) (yieldsIf_cell (by kernel_rfl) rfl (by kernel_rfl) (fun W h => hload3x (HNW.out W h).1)) S0 ?_
          refine held_take (i := 4) (v := .int .i64 (k : Int)) (some 41) rfl rfl (by kernel_rfl) (by kernel_rfl) (by kernel_rfl) (fun _ _ _ h => h) (yieldsIf_move (by kernel_rfl) rfl (by kernel_rfl)) S0 ?_
          refine held_take (i := 6) (v := .agg #[.int .i64 p, .slice ad2 ds2.length cap2, .slice am2 ms2.length capm2]) (some 43) rfl rfl (by kernel_rfl) (by kernel_rfl) (by kernel_rfl) (fun _ _ _ h => h) (yieldsIf_cell (by kernel_rfl) rfl (by kernel_rfl) (fun W h => hload3x (HNW.out W h).2.1)) S0 ?_
          refine held_take (i := 7) (v := .int .i64 (k : Int)) (some 44) rfl rfl (by kernel_rfl) (by kernel_rfl) (by kernel_rfl) (fun _ _ _ h => h) (yieldsIf_move (by kernel_rfl) rfl (by kernel_rfl)) S0 ?_
          refine held_one (i := 5) (by kernel_rfl) ?_
          · refine op_enter (i := 5) (some 42) (f := 117) (args := #[.agg #[.int .i64 p, .slice ad ds.length cap, .slice am ms.length capm], .int .i64 (k : Int)]) rfl rfl rfl (by kernel_rfl) (HK1.out wd S0) ?_ (fun c w' h => by cases h.1) (fun w' h => by cases h.1)
            rintro ee W1 ⟨he, hb1⟩
            injection he with he
            subst he
            have S1 : Below (wx.heap.size) wx W1 := S0.trans (hb1.mono (Nat.le_trans hB0 S0.size))
            refine ⟨S1, ?_⟩
            refine held_one (i := 8) (by kernel_rfl) ?_
            · refine op_enter (i := 8) (some 45) (f := 117) (args := #[.agg #[.int .i64 p, .slice ad2 ds2.length cap2, .slice am2 ms2.length capm2], .int .i64 (k : Int)]) rfl rfl rfl (by kernel_rfl) (HK2.out W1 S1) ?_ (fun c w' h => by cases h.1) (fun w' h => by cases h.1)
              rintro ee W2 ⟨he, hb2⟩
              injection he with he
              subst he
              have S2 : Below (wx.heap.size) wx W2 := S1.trans (hb2.mono (Nat.le_trans hB0 S1.size))
              refine ⟨S2, ?_⟩
              refine held_take (i := 9) (v := .int .i64 s) (some 46) rfl rfl (by kernel_rfl) (by kernel_rfl) (by kernel_rfl) (fun _ _ _ h => h) (yieldsIf_bin (by kernel_rfl) rfl (by kernel_rfl) (by kernel_rfl) (fun _ => rfl) (haddA hws.out)) S2 ?_
              refine held_take (i := 10) (v := .pointer (some ⟨bd, k, none⟩)) (some 47) rfl rfl (by kernel_rfl) (by kernel_rfl) (by kernel_rfl) (fun _ _ _ h => h) (yieldsIf_run (by kernel_rfl) (fun W _ => by go_simp)) S2 ?_
              have HDW := Lib.hid (HD.out.next S2)
              have q1 := HDW.out.dims.cell hlt
              have q2 := HDW.out.dims.frozen k
              skip
              refine held_none (i := 11) (v := .bool false) rfl rfl (by kernel_rfl) (by kernel_rfl) (by kernel_rfl) (fun _ _ _ h => h) (yieldsIf_move (by kernel_rfl) rfl (by kernel_rfl)) S2 ?_
              refine wpAnyH_done (by kernel_rfl) (lastQ_of rfl (by kernel_rfl) ?_) _
              simp only [Act.put, List.setIfInBounds_toArray, List.set_cons_zero, List.set_cons_succ]
              go_simp
              have HDS : Hid (Du w2 (W2.setCell ⟨bd, k, none⟩ (.int .i64 s)) g bd bm n t p (axF ds ds2 (k + 1)) (fun _ => .slice none 0 0)) := Lib.hid ((HDW.out.setD k (.int .i64 s)).congr (fun j _ => axF_step ds ds2 k HSX.out j))
              obtain ⟨wn, hwn'⟩ : ∃ wn, wn = (W2.setCell ⟨bd, k, none⟩ (.int .i64 s)) := ⟨_, rfl⟩
              rw [← hwn'] at HDS ⊢
              clear hwn' q1 q2 HDW
              have g1 : wn.cell? ⟨g, 1, none⟩ = some (.slice (some ⟨bd, 0, none⟩) n n) := HDS.out.box.cell (i := 1) (by omega)
              have g2 : wn.cell? ⟨bd, k, none⟩ = some (.int .i64 s) := by rw [HDS.out.dims.cell hlt]; simp [axF, HSX.out]
              by_cases hgt : 8 < s
              · have HCODE : Hid (axCode p ds ms p ds2 ms2 = 3) := Lib.hid (by unfold axCode; rw [if_neg (fun k => k ⟨HC.out, HC2.out⟩), if_neg (fun k => k rfl), if_pos ⟨k, by have := HT.out; have := HN.out; omega, by rw [← HSX.out]; exact hgt⟩])
                have HR1 : ∃ x0 x1 x2, wn.heap[w.heap.size + 2]? = some (.cells #[x0, x1, x2] 28) := ⟨_, _, _, (HNY.out _ HDS.out.below).2.2⟩
                obtain ⟨x0, x1, x2, hr⟩ := HR1
                have r0 : wn.rowIs (w.heap.size + 2) 28 3 (sel3 x0 x1 x2) := rowIs3 hr
                have q0 : wn.cell? ⟨w.heap.size + 2, 0, none⟩ = some x0 := r0.cell (i := 0) (by omega)
                have z0 : wn.frozen? ⟨w.heap.size + 2, 0, none⟩ = false := r0.frozen 0
                have r1 := r0.set 0 (.int .i64 0)
                have q1 : (wn.setCell ⟨w.heap.size + 2, 0, none⟩ (.int .i64 0)).cell? ⟨w.heap.size + 2, 1, none⟩ = some x1 := r1.cell (i := 1) (by omega)
                have z1 : (wn.setCell ⟨w.heap.size + 2, 0, none⟩ (.int .i64 0)).frozen? ⟨w.heap.size + 2, 1, none⟩ = false := r1.frozen 1
                have r2 := r1.set 1 (.slice none 0 0)
                have q2 : ((wn.setCell ⟨w.heap.size + 2, 0, none⟩ (.int .i64 0)).setCell ⟨w.heap.size + 2, 1, none⟩ (.slice none 0 0)).cell? ⟨w.heap.size + 2, 2, none⟩ = some x2 := r2.cell (i := 2) (by omega)
                have z2 : ((wn.setCell ⟨w.heap.size + 2, 0, none⟩ (.int .i64 0)).setCell ⟨w.heap.size + 2, 1, none⟩ (.slice none 0 0)).frozen? ⟨w.heap.size + 2, 2, none⟩ = false := r2.frozen 2
                have r3 := r2.set 2 (.slice none 0 0)
                obtain ⟨WF, hWF⟩ : ∃ W : World, W = (((wn.setCell ⟨w.heap.size + 2, 0, none⟩ (.int .i64 0)).setCell ⟨w.heap.size + 2, 1, none⟩ (.slice none 0 0)).setCell ⟨w.heap.size + 2, 2, none⟩ (.slice none 0 0)) := ⟨_, rfl⟩
                have hbWF : ∀ B (w0 : World), B ≤ w.heap.size + 2 → Below B w0 wn → Below B w0 WF := fun B w0 hl hb => by rw [hWF]; exact (((hb.setCell (by show B ≤ w.heap.size + 2; exact hl) _).setCell (by show B ≤ w.heap.size + 2; exact hl) _).setCell (by show B ≤ w.heap.size + 2; exact hl) _)
                have hsWF : ∀ lo hi, w.heap.size + 2 < lo ∨ hi ≤ w.heap.size + 2 → Same lo hi wn WF := fun lo hi hl => by rw [hWF]; exact (((Same.set _ hl).trans (Same.set _ hl)).trans (Same.set _ hl))
                have hzWF : WF.heap.size = wn.heap.size := by rw [hWF]; simp
                rw [← hWF] at r3
                have f0 : WF.cell? ⟨w.heap.size + 2, 0, none⟩ = some (.int .i64 0) := r3.cell (i := 0) (by omega)
                have f1 : WF.cell? ⟨w.heap.size + 2, 1, none⟩ = some (.slice none 0 0) := r3.cell (i := 1) (by omega)
                have f2 : WF.cell? ⟨w.heap.size + 2, 2, none⟩ = some (.slice none 0 0) := r3.cell (i := 2) (by omega)
                have HWWF := Lib.hid hWF
                clear hr r0 r1 r2 r3 hWF
                have HBF := Lib.hid (hbWF w.heap.size w (by omega) (HNY.out _ HDS.out.below).1.below)
                clear hsWF hbWF hzWF
                go_wp2
                rw [← HWWF.out]
                refine bodyPost_ret (v := .tuple #[.agg #[.int .i64 0, .slice none 0 0, .slice none 0 0], .int .i64 3]) ?_ rfl ?_
                · simp only [results, HRES.out]
                  go_simp
                · exact ⟨_, (0, [], []), 3, rfl, RwC.nil _ _ _, HBF.out, by rw [HCODE.out]; exact RsOut.of_no (by decide)⟩
              · have HFT2 : Hid (∀ j, j < k + 1 → axd ds ds2 j ≤ 8) := Lib.hid (fun j hj => by
              by_cases e : j = k
              · rw [e, ← HSX.out]; omega
              · exact HFT.out j (by omega))
                go_wp2
                go_roundw
                case rel => first | exact ⟨k + 1, by omega, by go_num, HDS, HFT2⟩ | ((repeat apply Exists.intro); exact ⟨⟨k + 1, by omega, by go_num, HDS, HFT2⟩, rfl⟩)
                case measure => simp [intOf]; omega
        · have hlk : ¬ (k : Int) < (n : Int) := by omega
          have HDF : Hid (Du w2 wx g bd bm n t p (axF ds ds2 n) (fun _ => .slice none 0 0)) := Lib.hid (by have h0 := HD.out; rwa [show k = n by omega] at h0)
          have HFIT : Hid (AxOk p ds ms p ds2 ms2) := Lib.hid ⟨HC.out, HC2.out, rfl, fun j hj => HFT.out j (by have := HT.out; have := HN.out; omega)⟩
          obtain ⟨wo, hwo⟩ : ∃ wo : World, wo = wx := ⟨_, rfl⟩
          subst hwo
          have hso : w2.heap.size ≤ wo.heap.size := HDF.out.below.size
          have HBX := Lib.hid HDF.out.box
          have HBD := Lib.hid HDF.out.dims
          have hlo := HDF.out.lo
          have hbdl := HDF.out.dims.lt
          have hbml := HDF.out.maps.lt
          have hgl := HDF.out.box.lt
          have hne := HDF.out.ne
          have HLEN : Hid ((axM ds ms ds2 ms2).length = t) := Lib.hid (by rw [axM_length]; exact HT.out.symm)
          have HF0 : Hid (Fill3 wo bm t 0 (fun _ => .slice none 0 0) (fun _ => wo.heap.size) (axM ds ms ds2 ms2)) := Lib.hid ⟨HDF.out.maps, hbml, fun _ h => absurd h (Nat.not_lt_zero _), Nat.le_refl _, fun _ _ h => absurd h (Nat.not_lt_zero _)⟩
          have HBO := Lib.hid HDF.out.below
          clear HD HFT hne
          have hg2 := HDF.out.ne.2.1
          have hbdm := HDF.out.ne.2.2
          clear HDF
          go_wp2
          go_loopw [57] (fun i wr => ∃ (k : Nat) (f : Nat → Value) (b : Nat → Nat), k ≤ t ∧ i = .int .i64 k ∧ Hid (Below w2.heap.size w2 wr) ∧ Hid (wr.rowIs g 28 3 (box3 p (.slice (some ⟨bd, 0, none⟩) n n) (.slice (some ⟨bm, 0, none⟩) t t))) ∧ Hid (wr.rowIs bd 2 n (axF ds ds2 n)) ∧ Hid (Fill3 wr bm t k f b (axM ds ms ds2 ms2)) ∧ Hid (wo.heap.size ≤ wr.heap.size ∧ wo.heap.size ≤ b 0)) (fun i _ => t - (intOf i).toNat)
          case atStart => exact ⟨0, _, _, Nat.zero_le _, rfl, HBO, HBX, HBD, HF0, Lib.hid ⟨Nat.le_refl _, Nat.le_refl _⟩⟩
          case round =>
            clear HBO HBX HBD HF0
            obtain ⟨k2, f, b, hk2, rfl, HB, HBX, HBD, HF, HLE⟩ := hrel
            obtain ⟨wx, hwx⟩ : ∃ wx : World, wx = wr := ⟨_, rfl⟩
            subst hwx
            have HNW : Hid (∀ W, Below wx.heap.size wx W → Bx w W w.heap.size p (.slice ad ds.length cap) (.slice am ms.length capm) ds ms ∧ Bx w W (w.heap.size + 1) p (.slice ad2 ds2.length cap2) (.slice am2 ms2.length capm2) ds2 ms2 ∧ Rz W (w.heap.size + 2) 28 #[.int .i64 0, .slice none 0 0, .slice none 0 0]) := Lib.hid (fun W hb => HNY.out _ (HB.out.trans (hb.mono HB.out.size)))
            by_cases hlt2 : k2 < t
            · have hlk2 : (k2 : Int) < (t : Int) := by omega
              have hk0 : (0 : Int) ≤ (k2 : Int) := by omega
              obtain ⟨l, hl⟩ : ∃ l : Nat, l = (ds.getD k2 0).toNat := ⟨_, rfl⟩
              obtain ⟨r, hr⟩ : ∃ r : Nat, r = (ds2.getD k2 0).toNat := ⟨_, rfl⟩
              have hxb := HC.out.1.dim k2
              have hyb := HC2.out.1.dim k2
              obtain ⟨ta, hta⟩ : ∃ ta, ta = tabN ms k2 := ⟨_, rfl⟩
              obtain ⟨tb, htb⟩ : ∃ tb, tb = tabN ms2 k2 := ⟨_, rfl⟩
              have HA := Lib.hid (ax_tab HC.out k2)
              have HBt := Lib.hid (ax_tab HC2.out k2)
              rw [← hta, ← hl] at HA
              rw [← htb, ← hr] at HBt
              have ha8 := HA.out.1
              have hb8 := HBt.out.1
              have hl8 : l ≤ 8 := by omega
              have hr8 : r ≤ 8 := by omega
              have HK1 : Hid (∀ W, Below wx.heap.size wx W → Calls Try.prog 119 #[.agg #[.int .i64 p, .slice ad ds.length cap, .slice am ms.length capm], .int .i64 (k2 : Int)] W (L2R ta W)) := Lib.hid (fun W hb => by have h0 := mapAt_any p k2 _ _ ds ms W (HNW.out W hb).1.cx HC.out; rw [← hta] at h0; exact h0)
              have HK2 : Hid (∀ W, Below wx.heap.size wx W → Calls Try.prog 117 #[.agg #[.int .i64 p, .slice ad ds.length cap, .slice am ms.length capm], .int .i64 (k2 : Int)] W (BR (.int .i64 (l : Int)) W)) := Lib.hid (fun W hb => by have h0 := dimAt_any p k2 _ _ ds ms W (HNW.out W hb).1.cx hd; rw [dimZ_nat, show ds.getD k2 0 = (l : Int) by omega] at h0; exact h0)
              have HK3 : Hid (∀ W, Below wx.heap.size wx W → Calls Try.prog 119 #[.agg #[.int .i64 p, .slice ad2 ds2.length cap2, .slice am2 ms2.length capm2], .int .i64 (k2 : Int)] W (L2R tb W)) := Lib.hid (fun W hb => by have h0 := mapAt_any p k2 _ _ ds2 ms2 W (HNW.out W hb).2.1.cx HC2.out; rw [← htb] at h0; exact h0)
              have HK4 : Hid (∀ W, Below wx.heap.size wx W → Calls Try.prog 117 #[.agg #[.int .i64 p, .slice ad2 ds2.length cap2, .slice am2 ms2.length capm2], .int .i64 (k2 : Int)] W (BR (.int .i64 (r : Int)) W)) := Lib.hid (fun W hb => by have h0 := dimAt_any p k2 _ _ ds2 ms2 W (HNW.out W hb).2.1.cx hd2; rw [dimZ_nat, show ds2.getD k2 0 = (r : Int) by omega] at h0; exact h0)
              have HAX : Hid (∀ h : k2 < (axM ds ms ds2 ms2).length, (axM ds ms ds2 ms2)[k2] = sumT ta l tb r) := Lib.hid (fun h => by simp only [axM, List.getElem_map, List.getElem_range, axt]; rw [← hta, ← htb, ← hl, ← hr])
              have HG2 : Hid (∀ W, Below wx.heap.size wx W → W.cell? ⟨g, 2, none⟩ = some (.slice (some ⟨bm, 0, none⟩) t t)) := Lib.hid (fun W hb => later hb (Nat.le_refl _) (HBX.out.cell (i := 2) (by omega)))
              clear hta htb hl hr hxb hyb
              go_upto_region 16 with fail
              go_wp2
              refine wp_region_last (fun W => Below (wx.heap.size) wx W) 17 (by kernel_rfl) rfl (by kernel_rfl) ?_
              have S0 : Below (wx.heap.size) wx wx.drew := (Below.refl _ _).drew
              have hB0 : wx.heap.size ≤ wx.heap.size := Nat.le_refl _
              have hsd : wx.heap.size ≤ wx.drew.heap.size := Nat.le_refl _
              have hbd : Below wx.heap.size wx wx.drew := (Below.refl _ _).drew
              change wpAnyH _ _ _ _ _ _ _ _ wx.drew
              obtain ⟨wd, hwd⟩ : ∃ wd, wd = wx.drew := ⟨_, rfl⟩
              rw [← hwd] at S0 hsd hbd ⊢
              clear hwd
              refine held_take (i := 0) (v := .pointer (some ⟨g, 2, none⟩)) (some 60) rfl rfl (by kernel_rfl) (by kernel_rfl) (by kernel_rfl) (fun _ _ _ h => h) (yieldsIf_run (by kernel_rfl) (fun W _ => by kernel_rfl)) S0 ?_
              refine held_take (i := 1) (v := .slice (some ⟨bm, 0, none⟩) t t) (some 61) rfl rfl (by kernel_rfl) (by kernel_rfl) (by kernel_rfl) (fun _ _ _ h => h) (yieldsIf_cell (by kernel_rfl) rfl (by kernel_rfl) (fun W h => hloadM W (HG2.out W h))) S0 ?_
              refine held_take (i := 2) (v := .int .i64 (k2 : Int)) (some 62) rfl rfl (by kernel_rfl) (by kernel_rfl) (by kernel_rfl) (fun _ _ _ h => h) (yieldsIf_move (by kernel_rfl) rfl (by kernel_rfl)) S0 ?_
              refine held_take (i := 3) (v := .agg #[.int .i64 p, .slice ad ds.length cap, .slice am ms.length capm]) (some 63) rfl rfl (by kernel_rfl) (by kernel_rfl) (by kernel_rfl) (fun _ _ _ h => h) (yieldsIf_cell (by kernel_rfl) rfl (by kernel_rfl) (fun W h => hload3x (HNW.out W h).1)) S0 ?_
              refine held_take (i := 4) (v := .int .i64 (k2 : Int)) (some 64) rfl rfl (by kernel_rfl) (by kernel_rfl) (by kernel_rfl) (fun _ _ _ h => h) (yieldsIf_move (by kernel_rfl) rfl (by kernel_rfl)) S0 ?_
              refine held_take (i := 6) (v := .agg #[.int .i64 p, .slice ad ds.length cap, .slice am ms.length capm]) (some 66) rfl rfl (by kernel_rfl) (by kernel_rfl) (by kernel_rfl) (fun _ _ _ h => h) (yieldsIf_cell (by kernel_rfl) rfl (by kernel_rfl) (fun W h => hload3x (HNW.out W h).1)) S0 ?_
              refine held_take (i := 7) (v := .int .i64 (k2 : Int)) (some 67) rfl rfl (by kernel_rfl) (by kernel_rfl) (by kernel_rfl) (fun _ _ _ h => h) (yieldsIf_move (by kernel_rfl) rfl (by kernel_rfl)) S0 ?_
              refine held_take (i := 9) (v := .agg #[.int .i64 p, .slice ad2 ds2.length cap2, .slice am2 ms2.length capm2]) (some 69) rfl rfl (by kernel_rfl) (by kernel_rfl) (by kernel_rfl) (fun _ _ _ h => h) (yieldsIf_cell (by kernel_rfl) rfl (by kernel_rfl) (fun W h => hload3x (HNW.out W h).2.1)) S0 ?_
              refine held_take (i := 10) (v := .int .i64 (k2 : Int)) (some 70) rfl rfl (by kernel_rfl) (by kernel_rfl) (by kernel_rfl) (fun _ _ _ h => h) (yieldsIf_move (by kernel_rfl) rfl (by kernel_rfl)) S0 ?_
              refine held_take (i := 12) (v := .agg #[.int .i64 p, .slice ad2 ds2.length cap2, .slice am2 ms2.length capm2]) (some 72) rfl rfl (by kernel_rfl) (by kernel_rfl) (by kernel_rfl) (fun _ _ _ h => h) (yieldsIf_cell (by kernel_rfl) rfl (by kernel_rfl) (fun W h => hload3x (HNW.out W h).2.1)) S0 ?_
              refine held_take (i := 13) (v := .int .i64 (k2 : Int)) (some 73) rfl rfl (by kernel_rfl) (by kernel_rfl) (by kernel_rfl) (fun _ _ _ h => h) (yieldsIf_move (by kernel_rfl) rfl (by kernel_rfl)) S0 ?_
              refine held_one (i := 5) (by kernel_rfl) ?_
              · refine op_enter (i := 5) (some 65) (f := 119) (args := #[.agg #[.int .i64 p, .slice ad ds.length cap, .slice am ms.length capm], .int .i64 (k2 : Int)]) rfl rfl rfl (by kernel_rfl) (HK1.out wd S0) ?_ (fun c w' h => by obtain ⟨_, h, _⟩ := h; cases h) (fun w' h => by obtain ⟨_, h, _⟩ := h; cases h)
                rintro ee W1 ⟨v1, he, hl1, hb1⟩
                injection he with he
                subst he
                obtain ⟨au, cu, hv⟩ := Sl.shape hl1
                subst hv
                have S1 : Below (wx.heap.size) wx W1 := S0.trans (hb1.mono (Nat.le_trans hB0 S0.size))
                refine ⟨S1, ?_⟩
                refine held_one (i := 8) (by kernel_rfl) ?_
                · refine op_enter (i := 8) (some 68) (f := 117) (args := #[.agg #[.int .i64 p, .slice ad ds.length cap, .slice am ms.length capm], .int .i64 (k2 : Int)]) rfl rfl rfl (by kernel_rfl) (HK2.out W1 S1) ?_ (fun c w' h => by cases h.1) (fun w' h => by cases h.1)
                  rintro ee W2 ⟨he, hb2⟩
                  injection he with he
                  subst he
                  have S2 : Below (wx.heap.size) wx W2 := S1.trans (hb2.mono (Nat.le_trans hB0 S1.size))
                  have ma_2 := hl1.below hb2
                  refine ⟨S2, ?_⟩
                  refine held_one (i := 11) (by kernel_rfl) ?_
                  · refine op_enter (i := 11) (some 71) (f := 119) (args := #[.agg #[.int .i64 p, .slice ad2 ds2.length cap2, .slice am2 ms2.length capm2], .int .i64 (k2 : Int)]) rfl rfl rfl (by kernel_rfl) (HK3.out W2 S2) ?_ (fun c w' h => by obtain ⟨_, h, _⟩ := h; cases h) (fun w' h => by obtain ⟨_, h, _⟩ := h; cases h)
                    rintro ee W3 ⟨v3, he, hl3, hb3⟩
                    injection he with he
                    subst he
                    obtain ⟨av, cv, hv⟩ := Sl.shape hl3
                    subst hv
                    have S3 : Below (wx.heap.size) wx W3 := S2.trans (hb3.mono (Nat.le_trans hB0 S2.size))
                    have ma_3 := ma_2.below hb3
                    refine ⟨S3, ?_⟩
                    refine held_one (i := 14) (by kernel_rfl) ?_
                    · refine op_enter (i := 14) (some 74) (f := 117) (args := #[.agg #[.int .i64 p, .slice ad2 ds2.length cap2, .slice am2 ms2.length capm2], .int .i64 (k2 : Int)]) rfl rfl rfl (by kernel_rfl) (HK4.out W3 S3) ?_ (fun c w' h => by cases h.1) (fun w' h => by cases h.1)
                      rintro ee W4 ⟨he, hb4⟩
                      injection he with he
                      subst he
                      have S4 : Below (wx.heap.size) wx W4 := S3.trans (hb4.mono (Nat.le_trans hB0 S3.size))
                      have ma_4 := ma_3.below hb4
                      have mb_4 := hl3.below hb4
                      refine ⟨S4, ?_⟩
                      refine held_one (i := 15) (by kernel_rfl) ?_
                      · refine op_enter (i := 15) (some 75) (f := 118) (args := #[.slice au ta.length cu, .int .i64 (l : Int), .slice av tb.length cv, .int .i64 (r : Int)]) rfl rfl rfl (by kernel_rfl) (sumTable_any _ _ ta tb l r W4 ma_4 mb_4 (by omega) (by omega) (by omega) (by omega) HA.out.2 HBt.out.2) ?_ (fun c w' h => by cases h.1) (fun w' h => by cases h.1)
                        rintro ee W5 ⟨he, hm5⟩
                        injection he with he
                        subst he
                        have hb5 := hm5.below
                        have S5 : Below (wx.heap.size) wx W5 := S4.trans (hb5.mono (Nat.le_trans hB0 S4.size))
                        have ma_5 := ma_4.below hb5
                        have mb_5 := mb_4.below hb5
                        refine ⟨S5, ?_⟩
                        refine held_take (i := 16) (v := .pointer (some ⟨bm, k2, none⟩)) (some 76) rfl rfl (by kernel_rfl) (by kernel_rfl) (by kernel_rfl) (fun _ _ _ h => h) (yieldsIf_run (by kernel_rfl) (fun W _ => by go_simp)) S5 ?_
                        have hrw := hm5.rw2 (lo := W4.heap.size) (Nat.le_refl _) (by omega) (by omega)
                        rw [tableOf_sumT HA.out.2 HBt.out.2] at hrw
                        have HFP := Lib.hid (HF.out.below S4)
                        have hst := HFP.out.step hm5.below (show k2 < (axM ds ms ds2 ms2).length by rw [HLEN.out]; exact hlt2) (by rw [HAX.out]; exact hrw)
                        have hr4 := HFP.out.row.of_block (hm5.below.block _ HFP.out.row.lt)
                        have q1 : W5.cell? ⟨bm, k2, none⟩ = some (f k2) := hr4.cell hlt2
                        have q2 : W5.frozen? ⟨bm, k2, none⟩ = false := hr4.frozen k2
                        have HBN : Hid (Below w2.heap.size w2 (W5.setCell ⟨bm, k2, none⟩ (.slice (some ⟨W4.heap.size, 0, none⟩) (ta.length + tb.length) (ta.length + tb.length)))) := Lib.hid ((HB.out.trans (S5.mono HB.out.size)).setCell (p := ⟨bm, k2, none⟩) (by show w2.heap.size ≤ bm; exact hlo.2.2) _)
                        have HXN : Hid ((W5.setCell ⟨bm, k2, none⟩ (.slice (some ⟨W4.heap.size, 0, none⟩) (ta.length + tb.length) (ta.length + tb.length))).rowIs g 28 3 (box3 p (.slice (some ⟨bd, 0, none⟩) n n) (.slice (some ⟨bm, 0, none⟩) t t))) := Lib.hid ((HBX.out.of_block (S5.block _ HBX.out.lt)).setOther hg2 _)
                        have HDN : Hid ((W5.setCell ⟨bm, k2, none⟩ (.slice (some ⟨W4.heap.size, 0, none⟩) (ta.length + tb.length) (ta.length + tb.length))).rowIs bd 2 n (axF ds ds2 n)) := Lib.hid ((HBD.out.of_block (S5.block _ HBD.out.lt)).setOther hbdm _)
                        have hleP : wx.heap.size ≤ W4.heap.size := S4.size
                        have hleQ : wx.heap.size ≤ W5.heap.size := S5.size
                        refine held_none (i := 17) (v := .bool false) rfl rfl (by kernel_rfl) (by kernel_rfl) (by kernel_rfl) (fun _ _ _ h => h) (yieldsIf_move (by kernel_rfl) rfl (by kernel_rfl)) S5 ?_
                        refine wpAnyH_done (by kernel_rfl) (lastQ_of rfl (by kernel_rfl) ?_) _
                        simp only [Act.put, List.setIfInBounds_toArray, List.set_cons_zero, List.set_cons_succ]
                        go_simp
                        have HLN : Hid (wo.heap.size ≤ (W5.setCell ⟨bm, k2, none⟩ (.slice (some ⟨W4.heap.size, 0, none⟩) (ta.length + tb.length) (ta.length + tb.length))).heap.size ∧ wo.heap.size ≤ (fun j => if j < k2 then b j else if j = k2 then W4.heap.size else W5.heap.size) 0) := Lib.hid (by
                have h0 := HLE.out
                refine ⟨by simp; omega, ?_⟩
                by_cases e : 0 < k2
                · simp only [if_pos e]; exact h0.2
                · simp only [if_neg e, if_pos (show 0 = k2 by omega)]; omega)
                        have HST := Lib.hid hst
                        obtain ⟨wn, hwn'⟩ : ∃ wn, wn = (W5.setCell ⟨bm, k2, none⟩ (.slice (some ⟨W4.heap.size, 0, none⟩) (ta.length + tb.length) (ta.length + tb.length))) := ⟨_, rfl⟩
                        rw [← hwn'] at HST HBN HXN HDN HLN ⊢
                        clear hwn' q1 q2 hr4 hst hrw HFP
                        go_wp2
                        go_roundw
                        case rel => first | exact ⟨k2 + 1, _, _, by omega, by go_num, HBN, HXN, HDN, HST, HLN⟩ | ((repeat apply Exists.intro); exact ⟨⟨k2 + 1, _, _, by omega, by go_num, HBN, HXN, HDN, HST, HLN⟩, rfl⟩)
                        case measure => simp [intOf]; omega
            · have hlk2 : ¬ (k2 : Int) < (t : Int) := by omega
              have HF3 : Hid (Fill3 wx bm t t f b (axM ds ms ds2 ms2)) := Lib.hid (by have h0 := HF.out; rwa [show k2 = t by omega] at h0)
              have HRC := Lib.hid (ax_rc (w := w2) HT.out HN.out (by omega) HBD.out HF3.out hlo.2.1 hlo.2.2 (by have := HLE.out.2; omega))
              have x0 : wx.cell? ⟨g, 0, none⟩ = some (.int .i64 p) := HBX.out.cell (i := 0) (by omega)
              have x1 : wx.cell? ⟨g, 1, none⟩ = some (.slice (some ⟨bd, 0, none⟩) n n) := HBX.out.cell (i := 1) (by omega)
              have x2 : wx.cell? ⟨g, 2, none⟩ = some (.slice (some ⟨bm, 0, none⟩) t t) := HBX.out.cell (i := 2) (by omega)
              have HNF := Lib.hid (HNY.out _ HB.out)
              clear HF HF3
              have HR1 : ∃ x0 x1 x2, wx.heap[w.heap.size + 2]? = some (.cells #[x0, x1, x2] 28) := ⟨_, _, _, HNF.out.2.2⟩
              obtain ⟨v0, v1, v2, hr⟩ := HR1
              have r0 : wx.rowIs (w.heap.size + 2) 28 3 (sel3 v0 v1 v2) := rowIs3 hr
              have q0 : wx.cell? ⟨w.heap.size + 2, 0, none⟩ = some v0 := r0.cell (i := 0) (by omega)
              have z0 : wx.frozen? ⟨w.heap.size + 2, 0, none⟩ = false := r0.frozen 0
              have r1 := r0.set 0 (.int .i64 p)
              have q1 : (wx.setCell ⟨w.heap.size + 2, 0, none⟩ (.int .i64 p)).cell? ⟨w.heap.size + 2, 1, none⟩ = some v1 := r1.cell (i := 1) (by omega)
              have z1 : (wx.setCell ⟨w.heap.size + 2, 0, none⟩ (.int .i64 p)).frozen? ⟨w.heap.size + 2, 1, none⟩ = false := r1.frozen 1
              have r2 := r1.set 1 (.slice (some ⟨bd, 0, none⟩) n n)
              have q2 : ((wx.setCell ⟨w.heap.size + 2, 0, none⟩ (.int .i64 p)).setCell ⟨w.heap.size + 2, 1, none⟩ (.slice (some ⟨bd, 0, none⟩) n n)).cell? ⟨w.heap.size + 2, 2, none⟩ = some v2 := r2.cell (i := 2) (by omega)
              have z2 : ((wx.setCell ⟨w.heap.size + 2, 0, none⟩ (.int .i64 p)).setCell ⟨w.heap.size + 2, 1, none⟩ (.slice (some ⟨bd, 0, none⟩) n n)).frozen? ⟨w.heap.size + 2, 2, none⟩ = false := r2.frozen 2
              have r3 := r2.set 2 (.slice (some ⟨bm, 0, none⟩) t t)
              obtain ⟨WF, hWF⟩ : ∃ W : World, W = (((wx.setCell ⟨w.heap.size + 2, 0, none⟩ (.int .i64 p)).setCell ⟨w.heap.size + 2, 1, none⟩ (.slice (some ⟨bd, 0, none⟩) n n)).setCell ⟨w.heap.size + 2, 2, none⟩ (.slice (some ⟨bm, 0, none⟩) t t)) := ⟨_, rfl⟩
              have hbWF : ∀ B (w0 : World), B ≤ w.heap.size + 2 → Below B w0 wx → Below B w0 WF := fun B w0 hl hb => by rw [hWF]; exact (((hb.setCell (by show B ≤ w.heap.size + 2; exact hl) _).setCell (by show B ≤ w.heap.size + 2; exact hl) _).setCell (by show B ≤ w.heap.size + 2; exact hl) _)
              have hsWF : ∀ lo hi, w.heap.size + 2 < lo ∨ hi ≤ w.heap.size + 2 → Same lo hi wx WF := fun lo hi hl => by rw [hWF]; exact (((Same.set _ hl).trans (Same.set _ hl)).trans (Same.set _ hl))
              have hzWF : WF.heap.size = wx.heap.size := by rw [hWF]; simp
              rw [← hWF] at r3
              have f0 : WF.cell? ⟨w.heap.size + 2, 0, none⟩ = some (.int .i64 p) := r3.cell (i := 0) (by omega)
              have f1 : WF.cell? ⟨w.heap.size + 2, 1, none⟩ = some (.slice (some ⟨bd, 0, none⟩) n n) := r3.cell (i := 1) (by omega)
              have f2 : WF.cell? ⟨w.heap.size + 2, 2, none⟩ = some (.slice (some ⟨bm, 0, none⟩) t t) := r3.cell (i := 2) (by omega)
              have HWWF := Lib.hid hWF
              clear hr r0 r1 r2 r3 hWF
              have HRF := Lib.hid ((HRC.out.same (hsWF _ _ (Or.inl (by omega)))).wider (show w.heap.size ≤ w2.heap.size by omega) (Nat.le_of_eq hzWF.symm))
              have HBF := Lib.hid (hbWF w.heap.size w (by omega) HNF.out.1.below)
              clear hsWF hbWF hzWF HRC
              go_wp2
              rw [← HWWF.out]
              refine bodyPost_ret (v := .tuple #[.agg #[.int .i64 p, .slice (some ⟨bd, 0, none⟩) n n, .slice (some ⟨bm, 0, none⟩) t t], .int .i64 0]) ?_ rfl ?_
              · simp only [results, HRES.out]
                go_simp
              · exact ⟨_, axOut p ds ms p ds2 ms2, 0, rfl, ⟨some ⟨bd, 0, none⟩, n, some ⟨bm, 0, none⟩, t, by show _ = Value.agg #[.int .i64 p, .slice _ (axD ds ms ds2 ms2).length n, .slice _ (axM ds ms ds2 ms2).length t]; rw [axD_length, axM_length, ← HT.out, ← HN.out], by show RcW _ _ _ (.slice _ (axD ds ms ds2 ms2).length n) (.slice _ (axM ds ms ds2 ms2).length t) (axD ds ms ds2 ms2) (axM ds ms ds2 ms2); rw [axD_length, axM_length, ← HT.out, ← HN.out]; exact HRF.out⟩, HBF.out, RsOut.of_yes HFIT.out.code rfl⟩
end Go.Proofs.Ytpdkfidmmjlmnaa
