/-
  HomologyComplex of both sides by contracts.
-/
import Derived.Test.YthfcadgbipnemaaHcx
import Derived.Test.YthfcadgbipnemaaRwo
namespace Go.Proofs.Ythfcadgbipnemaa
open Go.RowKit

theorem hnum_8 {p : Int} {ds : List Int} {ms : List (List (List Int))} {q : Nat} (hcx : IsCx p ds ms) (hq : q < ds.length) : 0 ≤ hnum p ds ms q ∧ hnum p ds ms q ≤ 8 := by
  by_cases h : ∃ x, HNum p ds ms q x
  · obtain ⟨x, hx⟩ := h
    rw [hnum_of hcx.1.prime.lo1 hx]
    exact hx.nn hcx hq
  · unfold hnum
    rw [dif_neg h]
    omega
theorem hnD_ok {p : Int} {ds : List Int} {ms : List (List (List Int))} (hcx : IsCx p ds ms) : DsOk (hnD p ds ms) := by
  refine ⟨by rw [hnD_length]; exact hcx.1.len1, fun d hd => ?_⟩
  obtain ⟨i, hi, rfl⟩ := List.mem_map.1 hd
  exact hnum_8 hcx (List.mem_range.1 hi)
theorem hc_bd {p : Int} {ds : List Int} {ms : List (List (List Int))} (hcx : IsCx p ds ms) : CoB (hcOut p ds ms) := by
  have h1 := hcx.1.len1
  have h2 := hcx.1.mlen
  exact ⟨by show (hnD p ds ms).length ≤ _; rw [hnD_length]; omega, zmF_bdD (hnD_ok hcx) _ (by omega)⟩
theorem hnD_take {p : Int} {ds : List Int} {ms : List (List (List Int))} {k : Nat} (h : k < ds.length) : (hnD p ds ms).take (k + 1) = (hnD p ds ms).take k ++ [hnum p ds ms k] := by
  rw [List.take_succ_eq_append_getElem (by rw [hnD_length]; exact h)]
  simp [hnD]
theorem hnD_at {p : Int} {ds : List Int} {ms : List (List (List Int))} {k : Nat} (h : k < ds.length) : (hnD p ds ms).getD k 0 = hnum p ds ms k := by
  rw [getD_of_lt _ (by rw [hnD_length]; exact h)]
  simp [hnD]
theorem zmF_take {xs : List Int} {m q : Nat} (h : q < m) : (zmF xs m).take (q + 1) = (zmF xs m).take q ++ [zmAt xs q] := by
  rw [List.take_succ_eq_append_getElem (by rw [zmF_length]; exact h)]
  simp [zmF]
/-- A cell of a gathered row. -/
theorem gb_at {base g n cap : Nat} {w : World} {xs : List Int} (h : Gb base w (.slice (some ⟨g, 0, none⟩) n cap) xs) {k : Nat} (hk : k < xs.length) : w.cell? ⟨g, k, none⟩ = some (.int .i64 xs[k]) := by
  refine Sl.cases h.l1 (fun _ _ hx _ => absurd hk (by simp [hx])) (fun b o c hv _ _ hc => ?_)
  injection hv with e1
  injection e1 with e1
  injection e1 with e1 e2
  subst e1 e2
  obtain ⟨u, hu, hr⟩ := hc k hk
  rw [Nat.zero_add] at hu
  rw [hu, hr]

set_option maxHeartbeats 1600000 in
set_option maxRecDepth 100000 in
theorem homologyComplexOf_any (p : Int) (dv mv : Value) (ds : List Int) (ms : List (List (List Int))) (w : World) (h : Cx 0 w dv mv ds ms) (hd : ds.length ≤ 1048576) (hm : Bd3 1048576 ms) :
    Calls Try.prog 30 #[.agg #[.int .i64 p, dv, mv]] w (AnsW RwC (fun o => o = hcOut p ds ms) (0, [], []) (coCode p ds ms) w) := by
  have hres : Try.f30.results = #[.cell 2 30, .tmp 3] := by kernel_rfl
  have HRES := Lib.hid hres
  obtain ⟨ad, cap, rfl⟩ := Sl.shape h.dims
  obtain ⟨am, capm, rfl⟩ := Sl.shape h.maps
  obtain ⟨wa, hwa⟩ : ∃ wa : World, wa = w.alloc (.cells #[.int .i64 p, .slice ad ds.length cap, .slice am ms.length capm] 30) := ⟨_, rfl⟩
  obtain ⟨w1, hw1⟩ : ∃ w1 : World, w1 = wa.alloc (.cells #[.int .i64 0, .slice none 0 0, .slice none 0 0] 30) := ⟨_, rfl⟩
  have hsa : wa.heap.size = w.heap.size + 1 := by rw [hwa]; simp
  have hs1 : w.heap.size + 2 = w1.heap.size := by rw [hw1]; simp [hsa]
  have HX1 : Hid (Bx w w1 w.heap.size p (.slice ad ds.length cap) (.slice am ms.length capm) ds ms) := Lib.hid (by rw [hw1]; exact (show Bx w wa w.heap.size p (.slice ad ds.length cap) (.slice am ms.length capm) ds ms by rw [hwa]; exact Bx.start _ h).next (below_alloc1 _ _))
  have HR1 : Hid (Rz w1 (w.heap.size + 1) 30 #[.int .i64 0, .slice none 0 0, .slice none 0 0]) := Lib.hid (by rw [hw1, ← hsa]; exact Rz.new _ _ _)
  have HIS := Lib.hid (isComplex_any p _ _ ds ms w1 HX1.out.cx hd hm)
  have HS1 := Lib.hid hs1
  have c0 := HX1.out.c0
  have c1 := HX1.out.c1
  have c2 := HX1.out.c2
  clear h hres hm hs1
  go_enter Try.func30, Try.ntmps30
  go_upto_region 1 with fail
  rw [← hwa, ← hw1]
  clear hwa hw1 hsa
  go_wp2_with fail
  refine HIS.out.mono ?_
  rintro e wB ⟨bb, rfl, hb1, hbb⟩
  have HX2 := Lib.hid (HX1.out.next hb1)
  have HR2 := Lib.hid (HR1.out.next hb1)
  have hs2 : w.heap.size + 2 ≤ wB.heap.size := by have := hb1.size; have := HS1.out; omega
  have HBB := Lib.hid hbb
  clear hb1 hbb c0 c1 c2 HIS HX1 HR1
  have c0 := HX2.out.c0
  have c1 := HX2.out.c1
  have c2 := HX2.out.c2
  cases bb with
  | false =>
    have HC0 : Hid (coCode p ds ms = 1) := Lib.hid (if_neg (fun hh => absurd (HBB.out.2 hh) (by simp)))
    have HR1 : ∃ x0 x1 x2, wB.heap[w.heap.size + 1]? = some (.cells #[x0, x1, x2] 30) := ⟨_, _, _, HR2.out⟩
    obtain ⟨x0, x1, x2, hr⟩ := HR1
    have r0 : wB.rowIs (w.heap.size + 1) 30 3 (sel3 x0 x1 x2) := rowIs3 hr
    have q0 : wB.cell? ⟨w.heap.size + 1, 0, none⟩ = some x0 := r0.cell (i := 0) (by omega)
    have z0 : wB.frozen? ⟨w.heap.size + 1, 0, none⟩ = false := r0.frozen 0
    have r1 := r0.set 0 (.int .i64 0)
    have q1 : (wB.setCell ⟨w.heap.size + 1, 0, none⟩ (.int .i64 0)).cell? ⟨w.heap.size + 1, 1, none⟩ = some x1 := r1.cell (i := 1) (by omega)
    have z1 : (wB.setCell ⟨w.heap.size + 1, 0, none⟩ (.int .i64 0)).frozen? ⟨w.heap.size + 1, 1, none⟩ = false := r1.frozen 1
    have r2 := r1.set 1 (.slice none 0 0)
    have q2 : ((wB.setCell ⟨w.heap.size + 1, 0, none⟩ (.int .i64 0)).setCell ⟨w.heap.size + 1, 1, none⟩ (.slice none 0 0)).cell? ⟨w.heap.size + 1, 2, none⟩ = some x2 := r2.cell (i := 2) (by omega)
    have z2 : ((wB.setCell ⟨w.heap.size + 1, 0, none⟩ (.int .i64 0)).setCell ⟨w.heap.size + 1, 1, none⟩ (.slice none 0 0)).frozen? ⟨w.heap.size + 1, 2, none⟩ = false := r2.frozen 2
    have r3 := r2.set 2 (.slice none 0 0)
    obtain ⟨WF, hWF⟩ : ∃ W : World, W = (((wB.setCell ⟨w.heap.size + 1, 0, none⟩ (.int .i64 0)).setCell ⟨w.heap.size + 1, 1, none⟩ (.slice none 0 0)).setCell ⟨w.heap.size + 1, 2, none⟩ (.slice none 0 0)) := ⟨_, rfl⟩
    have hbWF : ∀ B (w0 : World), B ≤ w.heap.size + 1 → Below B w0 wB → Below B w0 WF := fun B w0 hl hb => by rw [hWF]; exact (((hb.setCell (by show B ≤ w.heap.size + 1; exact hl) _).setCell (by show B ≤ w.heap.size + 1; exact hl) _).setCell (by show B ≤ w.heap.size + 1; exact hl) _)
    have hsWF : ∀ lo hi, w.heap.size + 1 < lo ∨ hi ≤ w.heap.size + 1 → Same lo hi wB WF := fun lo hi hl => by rw [hWF]; exact (((Same.set _ hl).trans (Same.set _ hl)).trans (Same.set _ hl))
    have hzWF : WF.heap.size = wB.heap.size := by rw [hWF]; simp
    rw [← hWF] at r3
    have f0 : WF.cell? ⟨w.heap.size + 1, 0, none⟩ = some (.int .i64 0) := r3.cell (i := 0) (by omega)
    have f1 : WF.cell? ⟨w.heap.size + 1, 1, none⟩ = some (.slice none 0 0) := r3.cell (i := 1) (by omega)
    have f2 : WF.cell? ⟨w.heap.size + 1, 2, none⟩ = some (.slice none 0 0) := r3.cell (i := 2) (by omega)
    have HWWF := Lib.hid hWF
    clear hr r0 r1 r2 r3 hWF
    have HBF := Lib.hid (hbWF w.heap.size w (by omega) HX2.out.below)
    clear hbWF hsWF hzWF c0 c1 c2
    go_wp2
    rw [← HWWF.out]
    refine bodyPost_ret (v := .tuple #[.agg #[.int .i64 0, .slice none 0 0, .slice none 0 0], .int .i64 1]) ?_ rfl ?_
    · simp only [results, HRES.out]
      go_simp
    · refine ⟨_, (0, [], []), 1, rfl, RwC.nil _ _ _, HBF.out, ?_⟩
      rw [HC0.out]
      exact RsOut.of_no (by decide)
  | true =>
    have HCX : Hid (IsCx p ds ms) := Lib.hid (HBB.out.1 (by simp))
    have HC0 : Hid (coCode p ds ms = 0) := Lib.hid (if_pos HCX.out)
    have HH := Lib.hid (homologyComplex_any p _ _ ds ms wB HX2.out.cx HCX.out)
    go_wp2_with fail
    refine HH.out.mono ?_
    rintro e w4 ⟨u, rfl, hu, hb4⟩
    have HR4 := Lib.hid (HR2.out.next hb4)
    have HB4 := Lib.hid (HX2.out.next hb4).below
    have hs4 := hb4.size
    obtain ⟨ag, cg, an, cn, rfl, hrc⟩ := hu
    have HU := Lib.hid hrc
    obtain ⟨xs, hxs⟩ : ∃ xs, xs = (hcOut p ds ms).2.1 := ⟨_, rfl⟩
    obtain ⟨ts, hts⟩ : ∃ ts, ts = (hcOut p ds ms).2.2 := ⟨_, rfl⟩
    obtain ⟨pp, hpp⟩ : ∃ pp, pp = (hcOut p ds ms).1 := ⟨_, rfl⟩
    rw [← hxs, ← hts] at HU
    rw [← hxs, ← hts, ← hpp]
    have HE : Hid ((pp, xs, ts) = hcOut p ds ms) := Lib.hid (by rw [hpp, hxs, hts])
    clear hxs hts hpp hrc hb4 HH c0 c1 c2
    have HR1 : ∃ x0 x1 x2, w4.heap[w.heap.size + 1]? = some (.cells #[x0, x1, x2] 30) := ⟨_, _, _, HR4.out⟩
    obtain ⟨x0, x1, x2, hr⟩ := HR1
    have r0 : w4.rowIs (w.heap.size + 1) 30 3 (sel3 x0 x1 x2) := rowIs3 hr
    have q0 : w4.cell? ⟨w.heap.size + 1, 0, none⟩ = some x0 := r0.cell (i := 0) (by omega)
    have z0 : w4.frozen? ⟨w.heap.size + 1, 0, none⟩ = false := r0.frozen 0
    have r1 := r0.set 0 (.int .i64 pp)
    have q1 : (w4.setCell ⟨w.heap.size + 1, 0, none⟩ (.int .i64 pp)).cell? ⟨w.heap.size + 1, 1, none⟩ = some x1 := r1.cell (i := 1) (by omega)
    have z1 : (w4.setCell ⟨w.heap.size + 1, 0, none⟩ (.int .i64 pp)).frozen? ⟨w.heap.size + 1, 1, none⟩ = false := r1.frozen 1
    have r2 := r1.set 1 (.slice ag xs.length cg)
    have q2 : ((w4.setCell ⟨w.heap.size + 1, 0, none⟩ (.int .i64 pp)).setCell ⟨w.heap.size + 1, 1, none⟩ (.slice ag xs.length cg)).cell? ⟨w.heap.size + 1, 2, none⟩ = some x2 := r2.cell (i := 2) (by omega)
    have z2 : ((w4.setCell ⟨w.heap.size + 1, 0, none⟩ (.int .i64 pp)).setCell ⟨w.heap.size + 1, 1, none⟩ (.slice ag xs.length cg)).frozen? ⟨w.heap.size + 1, 2, none⟩ = false := r2.frozen 2
    have r3 := r2.set 2 (.slice an ts.length cn)
    obtain ⟨WF, hWF⟩ : ∃ W : World, W = (((w4.setCell ⟨w.heap.size + 1, 0, none⟩ (.int .i64 pp)).setCell ⟨w.heap.size + 1, 1, none⟩ (.slice ag xs.length cg)).setCell ⟨w.heap.size + 1, 2, none⟩ (.slice an ts.length cn)) := ⟨_, rfl⟩
    have hbWF : ∀ B (w0 : World), B ≤ w.heap.size + 1 → Below B w0 w4 → Below B w0 WF := fun B w0 hl hb => by rw [hWF]; exact (((hb.setCell (by show B ≤ w.heap.size + 1; exact hl) _).setCell (by show B ≤ w.heap.size + 1; exact hl) _).setCell (by show B ≤ w.heap.size + 1; exact hl) _)
    have hsWF : ∀ lo hi, w.heap.size + 1 < lo ∨ hi ≤ w.heap.size + 1 → Same lo hi w4 WF := fun lo hi hl => by rw [hWF]; exact (((Same.set _ hl).trans (Same.set _ hl)).trans (Same.set _ hl))
    have hzWF : WF.heap.size = w4.heap.size := by rw [hWF]; simp
    rw [← hWF] at r3
    have f0 : WF.cell? ⟨w.heap.size + 1, 0, none⟩ = some (.int .i64 pp) := r3.cell (i := 0) (by omega)
    have f1 : WF.cell? ⟨w.heap.size + 1, 1, none⟩ = some (.slice ag xs.length cg) := r3.cell (i := 1) (by omega)
    have f2 : WF.cell? ⟨w.heap.size + 1, 2, none⟩ = some (.slice an ts.length cn) := r3.cell (i := 2) (by omega)
    have HWWF := Lib.hid hWF
    clear hr r0 r1 r2 r3 hWF
    have HBF := Lib.hid (hbWF w.heap.size w (by omega) HB4.out)
    have HUF := Lib.hid ((HU.out.same (hsWF _ _ (Or.inl (by omega)))).wider (show w.heap.size ≤ wB.heap.size by omega) (Nat.le_of_eq hzWF.symm))
    clear hbWF hsWF hzWF
    go_wp2
    rw [← HWWF.out]
    refine bodyPost_ret (v := .tuple #[.agg #[.int .i64 pp, .slice ag xs.length cg, .slice an ts.length cn], .int .i64 0]) ?_ rfl ?_
    · simp only [results, HRES.out]
      go_simp
    · exact ⟨_, (pp, xs, ts), 0, rfl, ⟨ag, cg, an, cn, rfl, HUF.out⟩, HBF.out, RsOut.of_yes HC0.out HE.out⟩

set_option maxHeartbeats 6400000 in
set_option maxRecDepth 100000 in
theorem spHomologyComplex_any (p : Int) (dv mv : Value) (ds : List Int) (ms : List (List (List Int))) (w : World) (h : Cx 0 w dv mv ds ms) (hd : ds.length ≤ 1048576) (hm : Bd3 1048576 ms) :
    Calls Try.prog 29 #[.agg #[.int .i64 p, dv, mv]] w (AnsS RsC (fun o => o = hcOut p ds ms) (0, [], []) (coCode p ds ms) w) := by
  have hres : Try.f29.results = #[.cell 2 30, .tmp 3] := by kernel_rfl
  have HRES := Lib.hid hres
  obtain ⟨ad, cap, rfl⟩ := Sl.shape h.dims
  obtain ⟨am, capm, rfl⟩ := Sl.shape h.maps
  obtain ⟨wa, hwa⟩ : ∃ wa : World, wa = w.alloc (.cells #[.int .i64 p, .slice ad ds.length cap, .slice am ms.length capm] 30) := ⟨_, rfl⟩
  obtain ⟨w1, hw1⟩ : ∃ w1 : World, w1 = wa.alloc (.cells #[.int .i64 0, .slice none 0 0, .slice none 0 0] 30) := ⟨_, rfl⟩
  have hsa : wa.heap.size = w.heap.size + 1 := by rw [hwa]; simp
  have hs1 : w.heap.size + 2 = w1.heap.size := by rw [hw1]; simp [hsa]
  have HX1 : Hid (Bx w w1 w.heap.size p (.slice ad ds.length cap) (.slice am ms.length capm) ds ms) := Lib.hid (by rw [hw1]; exact (show Bx w wa w.heap.size p (.slice ad ds.length cap) (.slice am ms.length capm) ds ms by rw [hwa]; exact Bx.start _ h).next (below_alloc1 _ _))
  have HR1 : Hid (Rz w1 (w.heap.size + 1) 30 #[.int .i64 0, .slice none 0 0, .slice none 0 0]) := Lib.hid (by rw [hw1, ← hsa]; exact Rz.new _ _ _)
  have HIS := Lib.hid (l01Is_any p _ _ ds ms w1 HX1.out.cx hd hm)
  have HS1 := Lib.hid hs1
  have c0 := HX1.out.c0
  have c1 := HX1.out.c1
  have c2 := HX1.out.c2
  clear h hres hm hs1
  go_enter Try.func29, Try.ntmps29
  go_upto_region 1 with fail
  rw [← hwa, ← hw1]
  clear hwa hw1 hsa
  go_wp2_with fail
  refine HIS.out.mono ?_
  rintro e wB ⟨bb, rfl, hb1, hbb⟩
  have HX2 := Lib.hid (HX1.out.next hb1)
  have HR2 := Lib.hid (HR1.out.next hb1)
  have hs2 : w.heap.size + 2 ≤ wB.heap.size := by have := hb1.size; have := HS1.out; omega
  have HBB := Lib.hid hbb
  clear hb1 hbb c0 c1 c2 HIS HX1 HR1
  have c0 := HX2.out.c0
  have c1 := HX2.out.c1
  have c2 := HX2.out.c2
  cases bb with
  | false =>
    have HC0 : Hid (coCode p ds ms = 1) := Lib.hid (if_neg (fun hh => absurd (HBB.out.2 hh) (by simp)))
    have HR1 : ∃ x0 x1 x2, wB.heap[w.heap.size + 1]? = some (.cells #[x0, x1, x2] 30) := ⟨_, _, _, HR2.out⟩
    obtain ⟨x0, x1, x2, hr⟩ := HR1
    have r0 : wB.rowIs (w.heap.size + 1) 30 3 (sel3 x0 x1 x2) := rowIs3 hr
    have q0 : wB.cell? ⟨w.heap.size + 1, 0, none⟩ = some x0 := r0.cell (i := 0) (by omega)
    have z0 : wB.frozen? ⟨w.heap.size + 1, 0, none⟩ = false := r0.frozen 0
    have r1 := r0.set 0 (.int .i64 0)
    have q1 : (wB.setCell ⟨w.heap.size + 1, 0, none⟩ (.int .i64 0)).cell? ⟨w.heap.size + 1, 1, none⟩ = some x1 := r1.cell (i := 1) (by omega)
    have z1 : (wB.setCell ⟨w.heap.size + 1, 0, none⟩ (.int .i64 0)).frozen? ⟨w.heap.size + 1, 1, none⟩ = false := r1.frozen 1
    have r2 := r1.set 1 (.slice none 0 0)
    have q2 : ((wB.setCell ⟨w.heap.size + 1, 0, none⟩ (.int .i64 0)).setCell ⟨w.heap.size + 1, 1, none⟩ (.slice none 0 0)).cell? ⟨w.heap.size + 1, 2, none⟩ = some x2 := r2.cell (i := 2) (by omega)
    have z2 : ((wB.setCell ⟨w.heap.size + 1, 0, none⟩ (.int .i64 0)).setCell ⟨w.heap.size + 1, 1, none⟩ (.slice none 0 0)).frozen? ⟨w.heap.size + 1, 2, none⟩ = false := r2.frozen 2
    have r3 := r2.set 2 (.slice none 0 0)
    obtain ⟨WF, hWF⟩ : ∃ W : World, W = (((wB.setCell ⟨w.heap.size + 1, 0, none⟩ (.int .i64 0)).setCell ⟨w.heap.size + 1, 1, none⟩ (.slice none 0 0)).setCell ⟨w.heap.size + 1, 2, none⟩ (.slice none 0 0)) := ⟨_, rfl⟩
    have hbWF : ∀ B (w0 : World), B ≤ w.heap.size + 1 → Below B w0 wB → Below B w0 WF := fun B w0 hl hb => by rw [hWF]; exact (((hb.setCell (by show B ≤ w.heap.size + 1; exact hl) _).setCell (by show B ≤ w.heap.size + 1; exact hl) _).setCell (by show B ≤ w.heap.size + 1; exact hl) _)
    have hsWF : ∀ lo hi, w.heap.size + 1 < lo ∨ hi ≤ w.heap.size + 1 → Same lo hi wB WF := fun lo hi hl => by rw [hWF]; exact (((Same.set _ hl).trans (Same.set _ hl)).trans (Same.set _ hl))
    have hzWF : WF.heap.size = wB.heap.size := by rw [hWF]; simp
    rw [← hWF] at r3
    have f0 : WF.cell? ⟨w.heap.size + 1, 0, none⟩ = some (.int .i64 0) := r3.cell (i := 0) (by omega)
    have f1 : WF.cell? ⟨w.heap.size + 1, 1, none⟩ = some (.slice none 0 0) := r3.cell (i := 1) (by omega)
    have f2 : WF.cell? ⟨w.heap.size + 1, 2, none⟩ = some (.slice none 0 0) := r3.cell (i := 2) (by omega)
    have HWWF := Lib.hid hWF
    clear hr r0 r1 r2 r3 hWF
    have HBF := Lib.hid (hbWF w.heap.size w (by omega) HX2.out.below)
    clear hbWF hsWF hzWF c0 c1 c2
    go_wp2
    rw [← HWWF.out]
    refine bodyPost_ret (v := .tuple #[.agg #[.int .i64 0, .slice none 0 0, .slice none 0 0], .int .i64 1]) ?_ rfl ?_
    · simp only [results, HRES.out]
      go_simp
    · refine ⟨_, (0, [], []), 1, rfl, RsC.nil _, HBF.out, ?_⟩
      rw [HC0.out]
      exact RsOut.of_no (by decide)
  | true =>
    have HCX : Hid (IsCx p ds ms) := Lib.hid (HBB.out.1 (by simp))
    have HC0 : Hid (coCode p ds ms = 0) := Lib.hid (if_pos HCX.out)
    have hml := HCX.out.1.mlen
    have hl6 := HCX.out.1.len1
    have hp1 := HCX.out.1.prime.lo1
    have HNB : Hid (∀ W, Below wB.heap.size wB W → Bx w W w.heap.size p (.slice ad ds.length cap) (.slice am ms.length capm) ds ms ∧ Rz W (w.heap.size + 1) 30 #[.int .i64 0, .slice none 0 0, .slice none 0 0]) := Lib.hid (fun W hb => ⟨HX2.out.next hb, HR2.out.next hb⟩)
    obtain ⟨wp, hwp⟩ : ∃ wp, wp = wB.alloc (.cells #[] 2) := ⟨_, rfl⟩
    obtain ⟨wq, hwq⟩ : ∃ wq, wq = wp.alloc (.cells #[] 27) := ⟨_, rfl⟩
    have hsp : wp.heap.size = wB.heap.size + 1 := by rw [hwp]; simp
    have hsq : wq.heap.size = wB.heap.size + 2 := by rw [hwq]; simp [hsp]
    obtain ⟨wo, hwo⟩ : ∃ wo, wo = wq.alloc (.cells #[.int .i64 p, .slice (some ⟨wB.heap.size, 0, none⟩) 0 0, .slice (some ⟨wB.heap.size + 1, 0, none⟩) 0 0] 30) := ⟨_, rfl⟩
    have HS0 : Hid (Sdo wB wo (wB.heap.size + 1 + 1) p (.slice (some ⟨wB.heap.size, 0, none⟩) 0 0) (.slice (some ⟨wB.heap.size + 1, 0, none⟩) 0 0) [] []) := Lib.hid (by
      have b1 : Below wB.heap.size wB wp := by rw [hwp]; exact below_alloc1 _ _
      have b2 : Below wp.heap.size wp wq := by rw [hwq]; exact below_alloc1 _ _
      have b3 : Below wq.heap.size wq wo := by rw [hwo]; exact below_alloc1 _ _
      have g1 : Gb wB.heap.size wp (.slice (some ⟨wB.heap.size, 0, none⟩) 0 0) [] := by rw [hwp]; exact Gb.new wB (Nat.le_refl _)
      have g2 : Gt wB.heap.size wq (.slice (some ⟨wB.heap.size + 1, 0, none⟩) 0 0) [] := by
        have := Gt.new (base := wB.heap.size) wp (by omega)
        rw [hsp] at this
        rw [hwq]
        exact this
      refine Sdo.start ⟨(b1.trans (b2.mono (by omega))).trans (b3.mono (by omega)), by omega, ?_, (g1.below b2).below b3, g2.below b3⟩
      refine rowIs3 ?_
      have := heap_alloc_new wq (.cells #[.int .i64 p, .slice (some ⟨wB.heap.size, 0, none⟩) 0 0, .slice (some ⟨wB.heap.size + 1, 0, none⟩) 0 0] 30)
      rw [← hwo, hsq] at this
      exact this)
    obtain ⟨g, hg⟩ : ∃ g, g = wB.heap.size + 1 + 1 := ⟨_, rfl⟩
    go_upto_region 4 with fail
    rw [← hwp, ← hwq, ← hwo]
    rw [← hg]
    rw [← hg] at HS0
    clear hwp hwq hwo hsp hsq hg c0 c1 c2
    go_wp2
    go_loopw [5, 6, 7] (fun i _ _ wr => ∃ (k q : Nat) (a1 a2 : Option Addr) (c1 c2 : Nat), k ≤ ds.length ∧ i = .int .i64 k ∧ Hid (q = k - 1) ∧ Hid (Sdo wB wr g p (.slice a1 k c1) (.slice a2 q c2) ((hnD p ds ms).take k) ((zmF (hnD p ds ms) ms.length).take q)) ∧ Hid (∀ i, i < k → HNum p ds ms i (hnum p ds ms i))) (fun i _ _ _ => ds.length - (intOf i).toNat)
    case atStart => exact ⟨0, 0, _, _, _, _, Nat.zero_le _, rfl, Lib.hid rfl, by simpa using HS0, Lib.hid (fun i h => absurd h (Nat.not_lt_zero _))⟩
    case round =>
      clear HS0
      obtain ⟨k, q, a1, a2, cc1, cc2, hk, rfl, HQ, HS, HN⟩ := hrel
      obtain ⟨wx, hwx⟩ : ∃ wx : World, wx = wr := ⟨_, rfl⟩
      subst hwx
      have hqb : q ≤ 20 := by have := HQ.out; omega
      have c1 := (HNB.out _ HS.out.below).1.c1
      by_cases hlt : k < ds.length
      · have hlk : (k : Int) < (ds.length : Int) := by omega
        obtain ⟨wd, hwd⟩ : ∃ wd, wd = wx.drew := ⟨_, rfl⟩
        obtain ⟨TK, hTK⟩ : ∃ TK, TK = (hnD p ds ms).take k := ⟨_, rfl⟩
        have HSD : Hid (Sdo wB wd g p (.slice a1 k cc1) (.slice a2 q cc2) (TK) ((zmF (hnD p ds ms) ms.length).take q)) := Lib.hid (by rw [hwd, hTK]; exact HS.out.next (Below.refl _ _).drew)
        have HKL : Hid (TK.length = k) := Lib.hid (by rw [hTK, List.length_take, hnD_length]; omega)
        have HXE : Hid ((hnD p ds ms).take (k + 1) = TK ++ [hnum p ds ms k]) := Lib.hid (by rw [hTK]; exact hnD_take hlt)
        have S0 : Hid (Below wB.heap.size wB wd ∧ wd.cell? ⟨g, 1, none⟩ = some (.slice a1 k cc1)) := Lib.hid ⟨HSD.out.below, HSD.out.box.cell (i := 1) (by omega)⟩
        have HHM : Hid (∀ W, Below wB.heap.size wB W → Calls Try.prog 72 #[.agg #[.int .i64 p, .slice ad ds.length cap, .slice am ms.length capm], .int .i64 k] W (NumR p ds ms k W)) := Lib.hid (fun W hb => l01Homology_any p k _ _ ds ms W (HNB.out W hb).1.cx HCX.out hlt)
        clear hTK HS
        go_wp2
        clear c1
        refine wp_region_last (fun W => Hid (Below wB.heap.size wB W ∧ W.cell? ⟨g, 1, none⟩ = some (.slice a1 k cc1))) 8 (by kernel_rfl) rfl (by kernel_rfl) ?_
        rw [← hwd]
        clear hwd
        refine held_take (i := 0) (v := .pointer (some ⟨g, 1, none⟩)) (some 24) rfl rfl (by kernel_rfl) (by kernel_rfl) (by kernel_rfl) (fun _ _ _ h => h) (yieldsIf_run (by kernel_rfl) (fun W _ => by kernel_rfl)) S0 ?_
        refine held_take (i := 1) (v := .slice a1 k cc1) (some 25) rfl rfl (by kernel_rfl) (by kernel_rfl) (by kernel_rfl) (fun _ _ _ h => h) (yieldsIf_cell (by kernel_rfl) rfl (by kernel_rfl) (fun W h => hloadS W h.out.2)) S0 ?_
        refine held_take (i := 2) (v := .agg #[.int .i64 p, .slice ad ds.length cap, .slice am ms.length capm]) (some 26) rfl rfl (by kernel_rfl) (by kernel_rfl) (by kernel_rfl) (fun _ _ _ h => h) (yieldsIf_cell (by kernel_rfl) rfl (by kernel_rfl) (fun W h => hload3x (HNB.out W h.out.1).1)) S0 ?_
        refine held_take (i := 3) (v := .int .i64 (k : Int)) (some 27) rfl rfl (by kernel_rfl) (by kernel_rfl) (by kernel_rfl) (fun _ _ _ h => h) (yieldsIf_move (by kernel_rfl) rfl (by kernel_rfl)) S0 ?_
        refine held_enter (i := 4) (some 28) (f := 72) (args := #[.agg #[.int .i64 p, .slice ad ds.length cap, .slice am ms.length capm], .int .i64 (k : Int)]) (by kernel_rfl) rfl rfl rfl (by kernel_rfl) (HHM.out wd S0.out.1) ?_ (fun c w' h => by obtain ⟨_, h, _⟩ := h; cases h) (fun w' h => by obtain ⟨_, h, _⟩ := h; cases h)
        rintro ee w5 ⟨x, he, hb5, hx⟩
        injection he with he
        subst he
        obtain rfl := hnum_of hp1 hx
        obtain ⟨x, hxx⟩ : ∃ x, x = hnum p ds ms k := ⟨_, rfl⟩
        rw [← hxx] at hx HXE ⊢
        have HNX := Lib.hid hx
        have HXX := Lib.hid hxx
        have hx8 := hx.nn HCX.out hlt
        have HS5 := Lib.hid (HSD.out.next hb5)
        have S1 : Hid (Below wB.heap.size wB w5 ∧ w5.cell? ⟨g, 1, none⟩ = some (.slice a1 k cc1)) := Lib.hid ⟨HS5.out.below, HS5.out.box.cell (i := 1) (by omega)⟩
        refine ⟨S1, ?_⟩
        obtain ⟨we, hwe⟩ : ∃ we, we = w5.alloc (.cells #[.int .i64 x] 2) := ⟨_, rfl⟩
        have hbe : Below w5.heap.size w5 we := by rw [hwe]; exact below_alloc1 _ _
        have hve : we.cell? ⟨w5.heap.size, 0, none⟩ = some (.int .i64 x) := by rw [hwe]; simp
        have HSE := Lib.hid (HS5.out.next hbe)
        have S2 : Hid (Below wB.heap.size wB we ∧ we.cell? ⟨g, 1, none⟩ = some (.slice a1 k cc1)) := Lib.hid ⟨HSE.out.below, HSE.out.box.cell (i := 1) (by omega)⟩
        refine held_mem (i := 5) (v := .slice (some ⟨w5.heap.size, 0, none⟩) 1 1) (w' := we) (some 29) (by kernel_rfl) rfl rfl rfl (by rw [hwe]; go_simp) S2 ?_
        simp only [Act.put, List.setIfInBounds_toArray, List.set_cons_zero, List.set_cons_succ]
        refine held_call (i := 6) (by kernel_rfl) rfl rfl ?_
        refine wp_appendB1l (some 30) rfl (.tmp 25) (.tmp 29) rfl wB.heap.size (.slice a1 k cc1) TK (by kernel_rfl) HSE.out.dims w5.heap.size (by kernel_rfl) x hve (by have := HKL.out; omega) HSE.out.below.size ?_
        rw [HKL.out]
        intro g9 c9 w9 hn9 hgw hlw
        have HS9 : Hid (Sdo wB (w9.setCell ⟨g, 1, none⟩ (.slice (some ⟨g9, 0, none⟩) (k + 1) c9)) g p (.slice (some ⟨g9, 0, none⟩) (k + 1) c9) (.slice a2 q cc2) ((hnD p ds ms).take (k + 1)) ((zmF (hnD p ds ms) ms.length).take q)) := Lib.hid (by rw [HXE.out]; exact HSE.out.stepD hgw hn9 hlw)
        have hrb := row_grown HSE.out.box HSE.out.dims coT.1 hgw
        have z1 : w9.cell? ⟨g, 1, none⟩ = some (.slice a1 k cc1) := hrb.cell (i := 1) (by omega)
        have z2 : w9.frozen? ⟨g, 1, none⟩ = false := hrb.frozen 1
        have hg9 : g9 < w9.heap.size := (hn9.lt g9 rfl).2
        have HG9 := Lib.hid hg9
        have hbw := HSE.out.below.grown hgw HSE.out.below.size (fun g hg => (HSE.out.dims.lt g hg).1)
        have S3 : Hid (Below wB.heap.size wB w9 ∧ w9.cell? ⟨g, 1, none⟩ = some (.slice a1 k cc1)) := Lib.hid ⟨hbw, z1⟩
        clear hn9 hgw hlw hrb hbw hg9
        refine ⟨S3, ?_⟩
        refine held_take (i := 7) (v := .pointer (some ⟨g, 1, none⟩)) (some 31) rfl rfl (by kernel_rfl) (by kernel_rfl) (by kernel_rfl) (fun _ _ _ h => h) (yieldsIf_run (by kernel_rfl) (fun W _ => by kernel_rfl)) S3 ?_
        refine held_none (i := 8) (v := .bool false) rfl rfl (by kernel_rfl) (by kernel_rfl) (by kernel_rfl) (fun _ _ _ h => h) (yieldsIf_move (by kernel_rfl) rfl (by kernel_rfl)) S3 ?_
        refine wpAnyH_done (by kernel_rfl) (lastQ_of rfl (by kernel_rfl) ?_) _
        simp only [Act.put, List.setIfInBounds_toArray, List.set_cons_zero, List.set_cons_succ]
        obtain ⟨wf, hwf⟩ : ∃ wf, wf = (w9.setCell ⟨g, 1, none⟩ (.slice (some ⟨g9, 0, none⟩) (k + 1) c9)) := ⟨_, rfl⟩
        have HGF : Hid (g9 < wf.heap.size) := Lib.hid (by rw [hwf]; simp; exact HG9.out)
        have HN2 : Hid (∀ i, i < k + 1 → HNum p ds ms i (hnum p ds ms i)) := Lib.hid (fun i hi => by
          by_cases e : i = k
          · rw [e, ← HXX.out]; exact HNX.out
          · exact HN.out i (by omega))
        obtain ⟨c, hcx⟩ := Int.eq_ofNat_of_zero_le hx8.1
        have hc8 : c ≤ 8 := by omega
        clear S0 S1 S2 S3 hve hwe hbe hb5 HSD HS5 HSE HHM
        go_simp
        rw [← hwf]
        rw [← hwf] at HS9
        clear hwf z1 z2
        have hsz : wB.heap.size ≤ wf.heap.size := HS9.out.below.size
        have HLD : Hid (((hnD p ds ms).take (k + 1)).length = k + 1) := Lib.hid (by rw [List.length_take, hnD_length]; omega)
        have HXC : Hid (hnum p ds ms k = (c : Int)) := Lib.hid (by rw [← HXX.out, hcx])
        have HCK : Hid (∀ W, Below wf.heap.size wf W → W.cell? ⟨g, 1, none⟩ = some (.slice (some ⟨g9, 0, none⟩) (k + 1) c9) ∧ W.cell? ⟨g9, k, none⟩ = some (.int .i64 (c : Int))) := Lib.hid (fun W hb => ⟨(HS9.out.next hb).box.cell (i := 1) (by omega), by
          have h0 := gb_at (HS9.out.next hb).dims (k := k) (by rw [HLD.out]; omega)
          rw [h0, ← HXC.out]
          simp [hnD]⟩)
        have HGY0 : Hid (Grb (some g9) wf.heap.size (wf.alloc (.cells #[] 22)) (.slice (some ⟨wf.heap.size, 0, none⟩) 0 0) []) := Lib.hid (Grb.start (Gs.new (base := wf.heap.size) wf (Nat.le_refl _)))
        have HQ2 : Hid (0 < k → q + 1 = k) := Lib.hid (fun h => by have := HQ.out; omega)
        obtain ⟨n2, hn2⟩ : ∃ n2 : Nat, n2 = (hnum p ds ms q).toNat := ⟨_, rfl⟩
        have HN2C : Hid (0 < k → hnum p ds ms q = (n2 : Int) ∧ n2 ≤ 8) := Lib.hid (fun h0 => by have hq := HQ2.out h0; have := (HN.out q (by omega)).nn HCX.out (by omega); omega)
        have HCQ : Hid (0 < k → ∀ W, Below wf.heap.size wf W → W.cell? ⟨g9, q, none⟩ = some (.int .i64 (n2 : Int))) := Lib.hid (fun h0 W hb => by
          have hq := HQ2.out h0
          have h1 := gb_at (HS9.out.next hb).dims (k := q) (by rw [HLD.out]; omega)
          rw [h1, ← (HN2C.out h0).1]
          simp [hnD])
        clear hn2 hx hxx hcx
        go_wp2
        go_loopw [6, 7] (fun ov i wr => ∃ (j : Nat), j ≤ c ∧ i = .int .i64 j ∧ Hid (Below wf.heap.size wf wr) ∧ Hid (Grb (some g9) wf.heap.size wr ov (List.replicate j (List.replicate n2 0)))) (fun _ i _ => c - (intOf i).toNat)
        case atStart => exact ⟨0, Nat.zero_le _, rfl, Lib.hid (below_alloc1 _ _), by simpa using HGY0⟩
        case round =>
          clear HGY0
          obtain ⟨j, hj, rfl, HBY, HRW⟩ := hrel
          obtain ⟨wy, hwy⟩ : ∃ wy : World, wy = wr := ⟨_, rfl⟩
          subst hwy
          have hsy : wf.heap.size ≤ wy.heap.size := HBY.out.size
          have e1 := (HCK.out wy HBY.out).1
          have e2 := (HCK.out wy HBY.out).2
          have hkn : (k : Int) < ((k + 1 : Nat) : Int) := by omega
          have hk0' : (0 : Int) ≤ (k : Int) := by omega
          have HSY := Lib.hid (HS9.out.next HBY.out)
          obtain ⟨ar, cr, hrv⟩ := Sl.shape HRW.out.gs.l2
          rw [List.length_replicate] at hrv
          subst hrv
          by_cases hk00 : k = 0
          · have hz : ¬ (0 : Int) < (k : Int) := by omega
            have HQ3 : Hid (q = k + 1 - 1) := Lib.hid (by have := HQ.out; omega)
            clear hk00
            go_wp2
            go_roundw
            case rel => exact ⟨k + 1, q, _, _, _, _, by omega, by go_num, HQ3, HSY, HN2⟩
            case measure => simp [intOf]; omega
          · have hz : (0 : Int) < (k : Int) := by omega
            have hkq := HQ2.out (by omega)
            have HKQ := Lib.hid hkq
            have hn8 := (HN2C.out (by omega)).2
            have e3 := HCQ.out (by omega) wy HBY.out
            have hwk : IntKind.i64.wrap ((k : Int) - 1) = (q : Int) := by rw [show (k : Int) - 1 = (q : Int) by omega]; exact IntWalk.i64_in _ (by omega)
            have hq0 : (0 : Int) ≤ (q : Int) := by omega
            have hqn : (q : Int) < ((k + 1 : Nat) : Int) := by omega
            clear hkq
            by_cases hlj : j < c
            · have hjl : (j : Int) < (c : Int) := by omega
              have hmk := run_make_row' (P := Try.prog) 22 2 (.int .i64 0) 8 Try.underlying22 Try.infoI rfl .i64 .i64 n2 (by omega) (by omega)
              have HTJ : Hid (List.replicate (j + 1) (List.replicate n2 (0 : Int)) = List.replicate j (List.replicate n2 0) ++ [List.replicate n2 0]) := Lib.hid (replicate_push _ _)
              have HG2 := Lib.hid (gb_zero wy n2 (by omega))
              have hba : Below wy.heap.size wy (wy.alloc (.cells (madeCells #[.int .i64 0] n2) 2)) := below_alloc1 _ _
              have hbb : Below (wy.alloc (.cells (madeCells #[.int .i64 0] n2) 2)).heap.size (wy.alloc (.cells (madeCells #[.int .i64 0] n2) 2)) ((wy.alloc (.cells (madeCells #[.int .i64 0] n2) 2)).alloc (.cells #[.slice (some ⟨wy.heap.size, 0, none⟩) n2 n2] 22)) := below_alloc1 _ _
              have HSL := Lib.hid ((HRW.out.below hba).below hbb)
              have HGU := Lib.hid (HG2.out.g1.below hbb)
              have HGO : Hid (OffB (some g9) (.slice (some ⟨wy.heap.size, 0, none⟩) n2 n2)) := Lib.hid (HG2.out.offB (by have := HGF.out; omega))
              have HBZ := Lib.hid ((HBY.out.trans (hba.mono (by omega))).trans (hbb.mono (by simp; omega)))
              have hcl : ((wy.alloc (.cells (madeCells #[.int .i64 0] n2) 2)).alloc (.cells #[.slice (some ⟨wy.heap.size, 0, none⟩) n2 n2] 22)).cell? ⟨wy.heap.size + 1, 0, none⟩ = some (.slice (some ⟨wy.heap.size, 0, none⟩) n2 n2) := by simp
              clear hba hbb
              go_wp2_with (at_builtin; refine wpList_appendS1o rfl (some 55) rfl (.tmp 46) (.tmp 54) rfl (some g9) wf.heap.size _ (List.replicate j (List.replicate n2 0)) rfl HSL.out (wy.heap.size + 1) rfl (some ⟨wy.heap.size, 0, none⟩) n2 n2 hcl _ HGU.out HGO.out ?c1 ?c2 ?_)
              case c1 => rw [List.length_replicate]; omega
              case c2 => first | (simp; omega) | omega
              rw [List.length_replicate]
              intro g7 c7 W7 hg7 hgr7
              have HS7 : Hid (Grb (some g9) wf.heap.size W7 (.slice (some ⟨g7, 0, none⟩) (j + 1) c7) (List.replicate (j + 1) (List.replicate n2 0))) := Lib.hid (by rw [HTJ.out]; exact hg7)
              have HB7 : Hid (Below wf.heap.size wf W7) := Lib.hid (HBZ.out.grown hgr7 (by simp; omega) (fun g hg => (HSL.out.gs.lt g hg).1))
              clear hg7 hgr7 hcl e1 e2 e3 hmk
              go_wp2
              go_roundw
              case rel => first | exact ⟨j + 1, by omega, by go_num, HB7, HS7⟩ | ((repeat apply Exists.intro); exact ⟨⟨j + 1, by omega, by go_num, HB7, HS7⟩, rfl⟩)
              case measure => simp [intOf]; omega
            · have hjc : Hid (j = c) := Lib.hid (by omega)
              have hnjl : ¬ (j : Int) < (c : Int) := by omega
              obtain ⟨TQ, hTQ⟩ : ∃ TQ, TQ = (zmF (hnD p ds ms) ms.length).take q := ⟨_, rfl⟩
              have hqm : q < ms.length := by have := HKQ.out; omega
              have HQL : Hid (TQ.length = q) := Lib.hid (by rw [hTQ, List.length_take, zmF_length]; omega)
              have HXM : Hid ((zmF (hnD p ds ms) ms.length).take (q + 1) = TQ ++ [List.replicate c (List.replicate n2 0)]) := Lib.hid (by
                rw [hTQ, zmF_take hqm, zmAt, zeroT_rows, HKQ.out, hnD_at hlt, hnD_at (by have := HKQ.out; omega), HXC.out, (HN2C.out (by omega)).1]
                rfl)
              have hba : Below wy.heap.size wy (wy.alloc (.cells #[.slice ar j cr] 27)) := below_alloc1 _ _
              have HSA := Lib.hid (HSY.out.next hba)
              rw [← hTQ] at HSA
              have HMT := Lib.hid HSA.out.maps
              have HGR : Hid (Gr (some g9) (wy.alloc (.cells #[.slice ar j cr] 27)) (.slice ar j cr) (List.replicate c (List.replicate n2 0))) := Lib.hid (by have h0 := HRW.out.gr.below hba; rwa [show List.replicate j (List.replicate n2 (0 : Int)) = List.replicate c (List.replicate n2 0) by rw [hjc.out]] at h0)
              have hcl := cell_alloc1 wy (.slice ar j cr) 27
              have HC6 : Hid (wB.heap.size ≤ (wy.alloc (.cells #[.slice ar j cr] 27)).heap.size) := Lib.hid HSA.out.below.size
              have g2' : wy.cell? ⟨g, 2, none⟩ = some (.slice a2 q cc2) := HSY.out.box.cell (i := 2) (by omega)
              have HC5 : Hid (TQ.length ≤ 2097151) := Lib.hid (by rw [HQL.out]; omega)
              clear hba hTQ HRW hqm
              go_wp2_with (at_builtin; refine wpList_appendT1o rfl (some 62) rfl (.tmp 59) (.tmp 61) rfl wB.heap.size (.slice a2 q cc2) TQ rfl (some g9) HMT.out wy.heap.size rfl ar j cr hcl _ HGR.out HC5.out HC6.out ?_)
              rw [HQL.out]
              intro g8 c8 w8 hn8' hgw8
              have HSN : Hid (Sdo wB (w8.setCell ⟨g, 2, none⟩ (.slice (some ⟨g8, 0, none⟩) (q + 1) c8)) g p (.slice (some ⟨g9, 0, none⟩) (k + 1) c9) (.slice (some ⟨g8, 0, none⟩) (q + 1) c8) ((hnD p ds ms).take (k + 1)) ((zmF (hnD p ds ms) ms.length).take (q + 1))) := Lib.hid (by rw [HXM.out]; exact HSA.out.stepM hgw8 hn8')
              obtain ⟨vs8, ho8, _⟩ := HSA.out.maps
              have hrb := row_grown HSA.out.box ho8 coT.2.2 hgw8
              have z1 : w8.cell? ⟨g, 2, none⟩ = some (.slice a2 q cc2) := hrb.cell (i := 2) (by omega)
              have z2 : w8.frozen? ⟨g, 2, none⟩ = false := hrb.frozen 2
              clear hn8' hgw8 hrb hcl HSA HMT ho8 HGR e1 e2 e3 g2'
              have HQ3 : Hid (q + 1 = k + 1 - 1) := Lib.hid (by have := HKQ.out; omega)
              go_wp2
              go_roundw
              case rel => exact ⟨k + 1, q + 1, _, _, _, _, by omega, by go_num, HQ3, HSN, HN2⟩
              case measure => simp [intOf]; omega
      · have hlk : ¬ (k : Int) < (ds.length : Int) := by omega
        have hkd : k = ds.length := by omega
        have hqm : q = ms.length := by have := HQ.out; omega
        subst hkd hqm
        have HSF : Hid (Sdo wB wx g p (.slice a1 ds.length cc1) (.slice a2 ms.length cc2) (hnD p ds ms) (zmF (hnD p ds ms) ms.length)) := Lib.hid (by have h0 := HS.out; rwa [List.take_of_length_le (by rw [hnD_length]; exact Nat.le_refl _), List.take_of_length_le (by rw [zmF_length]; exact Nat.le_refl _)] at h0)
        have e0 : wx.cell? ⟨g, 0, none⟩ = some (.int .i64 p) := HSF.out.box.cell (i := 0) (by omega)
        have e1 : wx.cell? ⟨g, 1, none⟩ = some (.slice a1 ds.length cc1) := HSF.out.box.cell (i := 1) (by omega)
        have e2 : wx.cell? ⟨g, 2, none⟩ = some (.slice a2 ms.length cc2) := HSF.out.box.cell (i := 2) (by omega)
        have HR3 := Lib.hid (HNB.out _ HSF.out.below).2
        have HX3 := Lib.hid (HNB.out _ HSF.out.below).1
        have hgl := HSF.out.lo
        have r0 := rowIs3 HR3.out
        have D1 := HSF.out.dims.off r0 coT.1 0 (.int .i64 p)
        have M1 := HSF.out.sd.maps.off r0 coT 0 (.int .i64 p)
        have r1 := r0.set 0 (.int .i64 p)
        have D2 := D1.off r1 coT.1 1 (.slice a1 ds.length cc1)
        have M2 := M1.off r1 coT 1 (.slice a1 ds.length cc1)
        have r2 := r1.set 1 (.slice a1 ds.length cc1)
        have D3 := D2.off r2 coT.1 2 (.slice a2 ms.length cc2)
        have M3 := M2.off r2 coT 2 (.slice a2 ms.length cc2)
        have HL3 := Lib.hid (And.intro D3.l1 M3.l3)
        clear r0 r1 r2 D1 D2 D3 M1 M2 M3 HS
        have HR1 : ∃ x0 x1 x2, wx.heap[w.heap.size + 1]? = some (.cells #[x0, x1, x2] 30) := ⟨_, _, _, HR3.out⟩
        obtain ⟨x0, x1, x2, hr⟩ := HR1
        have r0 : wx.rowIs (w.heap.size + 1) 30 3 (sel3 x0 x1 x2) := rowIs3 hr
        have q0 : wx.cell? ⟨w.heap.size + 1, 0, none⟩ = some x0 := r0.cell (i := 0) (by omega)
        have z0 : wx.frozen? ⟨w.heap.size + 1, 0, none⟩ = false := r0.frozen 0
        have r1 := r0.set 0 (.int .i64 p)
        have q1 : (wx.setCell ⟨w.heap.size + 1, 0, none⟩ (.int .i64 p)).cell? ⟨w.heap.size + 1, 1, none⟩ = some x1 := r1.cell (i := 1) (by omega)
        have z1 : (wx.setCell ⟨w.heap.size + 1, 0, none⟩ (.int .i64 p)).frozen? ⟨w.heap.size + 1, 1, none⟩ = false := r1.frozen 1
        have r2 := r1.set 1 (.slice a1 ds.length cc1)
        have q2 : ((wx.setCell ⟨w.heap.size + 1, 0, none⟩ (.int .i64 p)).setCell ⟨w.heap.size + 1, 1, none⟩ (.slice a1 ds.length cc1)).cell? ⟨w.heap.size + 1, 2, none⟩ = some x2 := r2.cell (i := 2) (by omega)
        have z2 : ((wx.setCell ⟨w.heap.size + 1, 0, none⟩ (.int .i64 p)).setCell ⟨w.heap.size + 1, 1, none⟩ (.slice a1 ds.length cc1)).frozen? ⟨w.heap.size + 1, 2, none⟩ = false := r2.frozen 2
        have r3 := r2.set 2 (.slice a2 ms.length cc2)
        obtain ⟨WF, hWF⟩ : ∃ W : World, W = (((wx.setCell ⟨w.heap.size + 1, 0, none⟩ (.int .i64 p)).setCell ⟨w.heap.size + 1, 1, none⟩ (.slice a1 ds.length cc1)).setCell ⟨w.heap.size + 1, 2, none⟩ (.slice a2 ms.length cc2)) := ⟨_, rfl⟩
        have hbWF : ∀ B (w0 : World), B ≤ w.heap.size + 1 → Below B w0 wx → Below B w0 WF := fun B w0 hl hb => by rw [hWF]; exact (((hb.setCell (by show B ≤ w.heap.size + 1; exact hl) _).setCell (by show B ≤ w.heap.size + 1; exact hl) _).setCell (by show B ≤ w.heap.size + 1; exact hl) _)
        have hsWF : ∀ lo hi, w.heap.size + 1 < lo ∨ hi ≤ w.heap.size + 1 → Same lo hi wx WF := fun lo hi hl => by rw [hWF]; exact (((Same.set _ hl).trans (Same.set _ hl)).trans (Same.set _ hl))
        have hzWF : WF.heap.size = wx.heap.size := by rw [hWF]; simp
        rw [← hWF] at r3
        have f0 : WF.cell? ⟨w.heap.size + 1, 0, none⟩ = some (.int .i64 p) := r3.cell (i := 0) (by omega)
        have f1 : WF.cell? ⟨w.heap.size + 1, 1, none⟩ = some (.slice a1 ds.length cc1) := r3.cell (i := 1) (by omega)
        have f2 : WF.cell? ⟨w.heap.size + 1, 2, none⟩ = some (.slice a2 ms.length cc2) := r3.cell (i := 2) (by omega)
        have HWWF := Lib.hid hWF
        clear hr r0 r1 r2 r3 hWF
        have HBF := Lib.hid (hbWF w.heap.size w (by omega) HX3.out.below)
        have HLF : Hid (L1 0 WF (.slice a1 ds.length cc1) (hnD p ds ms) ∧ L3 0 WF (.slice a2 ms.length cc2) (zmF (hnD p ds ms) ms.length)) := Lib.hid (by rw [HWWF.out]; exact HL3.out)
        clear hbWF hsWF hzWF HL3
        go_wp2
        rw [← HWWF.out]
        refine bodyPost_ret (v := .tuple #[.agg #[.int .i64 p, .slice a1 ds.length cc1, .slice a2 ms.length cc2], .int .i64 0]) ?_ rfl ?_
        · simp only [results, HRES.out]
          go_simp
        · refine ⟨_, hcOut p ds ms, 0, rfl, ⟨a1, cc1, a2, cc2, by simp [hcOut, hnD_length, zmF_length], ?_⟩, HBF.out, RsOut.of_yes HC0.out rfl⟩
          have h0 := HLF.out
          have e1 : (hcOut p ds ms).2.1.length = ds.length := hnD_length p ds ms
          have e2 : (hcOut p ds ms).2.2.length = ms.length := zmF_length _ _
          rw [e1, e2]
          exact ⟨h0.1, h0.2⟩
end Go.Proofs.Ythfcadgbipnemaa
