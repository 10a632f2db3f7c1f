/-
  ReduceModulo of the program, by contracts.
-/
import Derived.Test.YtiokagnolbddlaaRdm
import Derived.Test.YtiokagnolbddlaaDww
namespace Go.Proofs.Ytiokagnolbddlaa
open Go.RowKit

set_option maxHeartbeats 1600000 in
theorem checkReduction_any (p : Int) (dv mv : Value) (ds : List Int) (ms : List (List (List Int))) (w : World) (h : Wh 0 w dv mv ds ms) (hb : WhB 1048576 ds ms) :
    Calls Try.prog 81 #[.agg #[dv, mv], .int .i64 p] w (BR (.int .i64 (rdCode p ds ms)) w) := by
  obtain ⟨⟨ad, cap, rfl⟩, am, capm, rfl⟩ := h.shapes
  have H := Lib.hid h
  have HBD := Lib.hid hb
  clear h hb
  obtain ⟨w1, hw1⟩ : ∃ w1, w1 = w.alloc (.cells #[.slice ad ds.length cap, .slice am ms.length capm] 25) := ⟨_, rfl⟩
  have HB1 : Hid (Below w.heap.size w w1) := Lib.hid (by rw [hw1]; exact (Below.refl _ _).alloc (Nat.le_refl _) _)
  have c0 : w1.cell? ⟨w.heap.size, 0, none⟩ = some (.slice ad ds.length cap) := by rw [hw1]; simp
  have c1 : w1.cell? ⟨w.heap.size, 1, none⟩ = some (.slice am ms.length capm) := by rw [hw1]; simp
  by_cases hc : WhOk ds ms
  · have HC := Lib.hid hc
    by_cases hp : IsP p
    · have HP := Lib.hid hp
      rw [rdCode_0 hc hp]
      clear hc hp
      go_enter Try.func81, Try.ntmps81
      go_upto_region 1 with fail
      rw [← hw1]
      clear hw1
      go_wp2_with fail
      refine (isWhole_any _ _ ds ms _ (H.out.below HB1.out) HBD.out).mono ?_
      rintro e w2 ⟨bb, rfl, hb2, hbb⟩
      obtain rfl : bb = true := hbb.2 HC.out
      have HB2 := Lib.hid (HB1.out.trans (hb2.mono HB1.out.size))
      clear hbb hb2 c0 c1
      go_wp2_with fail
      refine (prime_yes HP.out _).mono ?_
      rintro e w' ⟨rfl, rfl⟩
      go_wp2
      go_ret
      exact ⟨rfl, HB2.out⟩
    · have HP := Lib.hid hp
      rw [rdCode_2 hc hp]
      clear hc hp
      go_enter Try.func81, Try.ntmps81
      go_upto_region 1 with fail
      rw [← hw1]
      clear hw1
      go_wp2_with fail
      refine (isWhole_any _ _ ds ms _ (H.out.below HB1.out) HBD.out).mono ?_
      rintro e w2 ⟨bb, rfl, hb2, hbb⟩
      obtain rfl : bb = true := hbb.2 HC.out
      have HB2 := Lib.hid (HB1.out.trans (hb2.mono HB1.out.size))
      clear hbb hb2 c0 c1
      go_wp2_with fail
      refine (prime_no HP.out _).mono ?_
      rintro e w' ⟨rfl, rfl⟩
      go_wp2
      go_ret
      exact ⟨rfl, HB2.out⟩
  · have HC := Lib.hid hc
    rw [rdCode_1 hc]
    clear hc
    go_enter Try.func81, Try.ntmps81
    go_upto_region 1 with fail
    rw [← hw1]
    clear hw1
    go_wp2_with fail
    refine (isWhole_any _ _ ds ms _ (H.out.below HB1.out) HBD.out).mono ?_
    rintro e w2 ⟨bb, rfl, hb2, hbb⟩
    obtain rfl : bb = false := bbw_no hbb HC.out
    have HB2 := Lib.hid (HB1.out.trans (hb2.mono HB1.out.size))
    clear hbb hb2 c0 c1
    go_wp2
    go_ret
    exact ⟨rfl, HB2.out⟩

set_option maxHeartbeats 3200000 in
set_option maxRecDepth 100000 in
theorem reduceModulo_any (p : Int) (dv mv : Value) (ds : List Int) (ms : List (List (List Int))) (w : World) (h : Wh 0 w dv mv ds ms) (hb : WhB 1048576 ds ms) :
    Calls Try.prog 27 #[.agg #[dv, mv], .int .i64 p] w (AnsW RwC (fun o => o = rdO p ds ms) (0, [], []) (rdCode p ds ms) w) := by
  obtain ⟨⟨ad, cap, rfl⟩, am, capm, rfl⟩ := h.shapes
  have HBD := Lib.hid hb
  have hres : Try.f27.results = #[.cell 4 38, .tmp 5] := by kernel_rfl
  have HRES := Lib.hid hres
  obtain ⟨w1, hw1⟩ : ∃ w1, w1 = (w.alloc (.cells #[.slice ad ds.length cap, .slice am ms.length capm] 25)).alloc (.cells #[.int .i64 0, .slice none 0 0, .slice none 0 0] 38) := ⟨_, rfl⟩
  have HX1 : Hid (BxWh w w1 w.heap.size (.slice ad ds.length cap) (.slice am ms.length capm) ds ms) := Lib.hid (by rw [hw1]; exact (BxWh.start 25 h).next (below_alloc1 _ _))
  have HB1 : Hid (Below w.heap.size w w1) := Lib.hid HX1.out.below
  have HS1 : Hid (w.heap.size + 1 < w1.heap.size) := Lib.hid (by rw [hw1]; simp)
  have HR0 : Hid (∃ x y z, w1.heap[w.heap.size + 1]? = some (.cells #[x, y, z] 38)) := Lib.hid ⟨_, _, _, by rw [hw1]; have := heap_alloc_new (w.alloc (.cells #[.slice ad ds.length cap, .slice am ms.length capm] 25)) (.cells #[.int .i64 0, .slice none 0 0, .slice none 0 0] 38); simpa using this⟩
  have c0 := HX1.out.c0
  have c1 := HX1.out.c1
  have HCO := Lib.hid (fun W (hW : Below w1.heap.size w1 W) => checkReduction_any p _ _ ds ms W (HX1.out.next hW).cx HBD.out)
  clear hres h hb
  obtain ⟨cc, hcc⟩ : ∃ cc, cc = rdCode p ds ms := ⟨_, rfl⟩
  rw [← hcc] at HCO
  have HCC := Lib.hid hcc
  rw [← hcc]
  clear hcc
  go_enter Try.func27, Try.ntmps27
  go_upto_region 1 with fail
  rw [← hw1]
  clear hw1
  go_wp2_with fail
  refine (HCO.out _ (Below.refl _ _)).mono ?_
  rintro e w2 ⟨rfl, hb2⟩
  have HX2 := Lib.hid (HX1.out.next hb2)
  have HB2 := Lib.hid hb2
  have HS2 : Hid (w.heap.size + 1 < w2.heap.size) := Lib.hid (by have := HS1.out; have := hb2.size; omega)
  have HR2 : Hid (∃ x y z, w2.heap[w.heap.size + 1]? = some (.cells #[x, y, z] 38)) := Lib.hid (by obtain ⟨x, y, z, hh⟩ := HR0.out; exact ⟨x, y, z, by rw [hb2.block (w.heap.size + 1) HS1.out]; exact hh⟩)
  clear hb2 c0 c1 HCO HR0
  by_cases hz : cc = 0
  · subst hz
    obtain ⟨hcx, hpp⟩ := rdCode_zero HCC.out.symm
    have hp0 := hpp.lo
    have hp1 := hpp.hi
    have HC := Lib.hid hcx
    clear hcx hpp
    have c0 := HX2.out.c0
    have c1 := HX2.out.c1
    go_wp2_with fail
    refine (modulo_any p (.slice ad ds.length cap) (.slice am ms.length capm) _ _ _ _ _ _ _ rfl rfl).mono ?_
    rintro e w3 ⟨rfl, hb3⟩
    have HB3 := Lib.hid hb3
    have HC3 : Hid (Cx 0 w3 (.slice ad ds.length cap) (.slice am ms.length capm) ds ms) := Lib.hid (let h := (HX2.out.next hb3).cx; ⟨h.fd, h.fm⟩)
    clear hb3 c0 c1
    go_wp2_with fail
    refine (copyC_any p _ _ ds ms _ HC3.out HC.out.1.sz (by omega) (by omega) HC.out.num).mono ?_
    rintro e w4 ⟨bd, bm, rfl, hat⟩
    have HRW : Hid (RcW w3.heap.size w4.heap.size w4 (.slice (some ⟨bd, 0, none⟩) ds.length ds.length) (.slice (some ⟨bm, 0, none⟩) ms.length ms.length) ds (rdM p ms)) := Lib.hid (hat.rc HBD.out.bd HBD.out.bm.1 rfl (fun i hi => by unfold cpD; rw [getD_of_lt _ hi]) (rdM_length p ms) (fun j hj => rd_tab HC.out.1.sz hj) (cpR_8 HC.out.1.sz) (cpC_8 HC.out.1.sz))
    have HB4 : Hid (Below w2.heap.size w2 w4) := Lib.hid (HB3.out.trans (hat.below.mono HB3.out.size))
    have HS3 : Hid (w.heap.size + 1 < w3.heap.size) := Lib.hid (by have := HS2.out; have := HB3.out.size; omega)
    clear hat
    obtain ⟨x, y, z, hr⟩ := HR2.out
    have hrow : w4.rowIs (w.heap.size + 1) 38 3 (sel3 x y z) := rowIs3 (by rw [HB4.out.block (w.heap.size + 1) HS2.out]; exact hr)
    have q0 : w4.cell? ⟨w.heap.size + 1, 0, none⟩ = some x := hrow.cell (i := 0) (by omega)
    have z0 : w4.frozen? ⟨w.heap.size + 1, 0, none⟩ = false := hrow.frozen 0
    have r1 := hrow.set 0 (.int .i64 p)
    have q1 : (w4.setCell ⟨w.heap.size + 1, 0, none⟩ (.int .i64 p)).cell? ⟨w.heap.size + 1, 1, none⟩ = some y := r1.cell (i := 1) (by omega)
    have z1 : (w4.setCell ⟨w.heap.size + 1, 0, none⟩ (.int .i64 p)).frozen? ⟨w.heap.size + 1, 1, none⟩ = false := r1.frozen 1
    have r2 := r1.set 1 (.slice (some ⟨bd, 0, none⟩) ds.length ds.length)
    have q2 : ((w4.setCell ⟨w.heap.size + 1, 0, none⟩ (.int .i64 p)).setCell ⟨w.heap.size + 1, 1, none⟩ (.slice (some ⟨bd, 0, none⟩) ds.length ds.length)).cell? ⟨w.heap.size + 1, 2, none⟩ = some z := r2.cell (i := 2) (by omega)
    have z2 : ((w4.setCell ⟨w.heap.size + 1, 0, none⟩ (.int .i64 p)).setCell ⟨w.heap.size + 1, 1, none⟩ (.slice (some ⟨bd, 0, none⟩) ds.length ds.length)).frozen? ⟨w.heap.size + 1, 2, none⟩ = false := r2.frozen 2
    have r3 := r2.set 2 (.slice (some ⟨bm, 0, none⟩) ms.length ms.length)
    obtain ⟨WF, hWF⟩ : ∃ W : World, W = (((w4.setCell ⟨w.heap.size + 1, 0, none⟩ (.int .i64 p)).setCell ⟨w.heap.size + 1, 1, none⟩ (.slice (some ⟨bd, 0, none⟩) ds.length ds.length)).setCell ⟨w.heap.size + 1, 2, none⟩ (.slice (some ⟨bm, 0, none⟩) ms.length ms.length)) := ⟨_, rfl⟩
    have HB : Hid (Below w.heap.size w WF) := Lib.hid (by
      rw [hWF]
      exact (((HX2.out.below.trans (HB4.out.mono HX2.out.below.size)).setCell (by show w.heap.size ≤ w.heap.size + 1; omega) _).setCell (by show w.heap.size ≤ w.heap.size + 1; omega) _).setCell (by show w.heap.size ≤ w.heap.size + 1; omega) _)
    have HRC : Hid (RcW w.heap.size WF.heap.size WF (.slice (some ⟨bd, 0, none⟩) ds.length ds.length) (.slice (some ⟨bm, 0, none⟩) ms.length ms.length) ds (rdM p ms)) := Lib.hid (by
      have hs : WF.heap.size = w4.heap.size := by rw [hWF]; simp
      rw [hs]
      have h3 := HS3.out
      refine (HRW.out.same ?_).wider (by omega) (Nat.le_refl _)
      rw [hWF]
      exact ((Same.set _ (Or.inl h3)).trans (Same.set _ (Or.inl h3))).trans (Same.set _ (Or.inl h3)))
    rw [← hWF] at r3
    have f0 : WF.cell? ⟨w.heap.size + 1, 0, none⟩ = some (.int .i64 p) := r3.cell (i := 0) (by omega)
    have f1 : WF.cell? ⟨w.heap.size + 1, 1, none⟩ = some (.slice (some ⟨bd, 0, none⟩) ds.length ds.length) := r3.cell (i := 1) (by omega)
    have f2 : WF.cell? ⟨w.heap.size + 1, 2, none⟩ = some (.slice (some ⟨bm, 0, none⟩) ms.length ms.length) := r3.cell (i := 2) (by omega)
    have HWF := Lib.hid hWF
    clear hr hrow r1 r2 r3 hWF
    go_wp2
    rw [← HWF.out]
    refine bodyPost_ret (v := .tuple #[.agg #[.int .i64 p, .slice (some ⟨bd, 0, none⟩) ds.length ds.length, .slice (some ⟨bm, 0, none⟩) ms.length ms.length], .int .i64 0]) ?_ rfl ?_
    · simp only [results, HRES.out]
      go_simp
    · refine ⟨_, rdO p ds ms, 0, rfl, ⟨some ⟨bd, 0, none⟩, ds.length, some ⟨bm, 0, none⟩, ms.length, ?_, ?_⟩, HB.out, RsOut.of_yes rfl rfl⟩
      · show _ = Value.agg #[.int .i64 p, .slice (some ⟨bd, 0, none⟩) ds.length ds.length, .slice (some ⟨bm, 0, none⟩) (rdM p ms).length ms.length]
        rw [rdM_length]
      · show RcW w.heap.size WF.heap.size WF (.slice (some ⟨bd, 0, none⟩) ds.length ds.length) (.slice (some ⟨bm, 0, none⟩) (rdM p ms).length ms.length) ds (rdM p ms)
        rw [rdM_length]
        exact HRC.out
  · have hne2 : (cc != 0) = true := by simp [hz]
    have hne3 : (cc == 0) = false := by simp [hz]
    have HNE := Lib.hid hz
    clear hz
    obtain ⟨x, y, z, hr⟩ := HR2.out
    have hrow : w2.rowIs (w.heap.size + 1) 38 3 (sel3 x y z) := rowIs3 hr
    have q0 : w2.cell? ⟨w.heap.size + 1, 0, none⟩ = some x := hrow.cell (i := 0) (by omega)
    have z0 : w2.frozen? ⟨w.heap.size + 1, 0, none⟩ = false := hrow.frozen 0
    have r1 := hrow.set 0 (.int .i64 0)
    have q1 : (w2.setCell ⟨w.heap.size + 1, 0, none⟩ (.int .i64 0)).cell? ⟨w.heap.size + 1, 1, none⟩ = some y := r1.cell (i := 1) (by omega)
    have z1 : (w2.setCell ⟨w.heap.size + 1, 0, none⟩ (.int .i64 0)).frozen? ⟨w.heap.size + 1, 1, none⟩ = false := r1.frozen 1
    have r2 := r1.set 1 (.slice none 0 0)
    have q2 : ((w2.setCell ⟨w.heap.size + 1, 0, none⟩ (.int .i64 0)).setCell ⟨w.heap.size + 1, 1, none⟩ (.slice none 0 0)).cell? ⟨w.heap.size + 1, 2, none⟩ = some z := r2.cell (i := 2) (by omega)
    have z2 : ((w2.setCell ⟨w.heap.size + 1, 0, none⟩ (.int .i64 0)).setCell ⟨w.heap.size + 1, 1, none⟩ (.slice none 0 0)).frozen? ⟨w.heap.size + 1, 2, none⟩ = false := r2.frozen 2
    have r3 := r2.set 2 (.slice none 0 0)
    obtain ⟨WF, hWF⟩ : ∃ W : World, W = (((w2.setCell ⟨w.heap.size + 1, 0, none⟩ (.int .i64 0)).setCell ⟨w.heap.size + 1, 1, none⟩ (.slice none 0 0)).setCell ⟨w.heap.size + 1, 2, none⟩ (.slice none 0 0)) := ⟨_, rfl⟩
    have HB : Hid (Below w.heap.size w WF) := Lib.hid (by
      rw [hWF]
      exact (((HX2.out.below).setCell (by show w.heap.size ≤ w.heap.size + 1; omega) _).setCell (by show w.heap.size ≤ w.heap.size + 1; omega) _).setCell (by show w.heap.size ≤ w.heap.size + 1; omega) _)
    rw [← hWF] at r3
    have f0 : WF.cell? ⟨w.heap.size + 1, 0, none⟩ = some (.int .i64 0) := r3.cell (i := 0) (by omega)
    have f1 : WF.cell? ⟨w.heap.size + 1, 1, none⟩ = some (.slice none 0 0) := r3.cell (i := 1) (by omega)
    have f2 : WF.cell? ⟨w.heap.size + 1, 2, none⟩ = some (.slice none 0 0) := r3.cell (i := 2) (by omega)
    have HWF := Lib.hid hWF
    clear hr hrow r1 r2 r3 hWF
    go_wp2
    rw [← HWF.out]
    refine bodyPost_ret (v := .tuple #[.agg #[.int .i64 0, .slice none 0 0, .slice none 0 0], .int .i64 cc]) ?_ rfl ?_
    · simp only [results, HRES.out]
      go_simp
    · refine ⟨_, (0, [], []), cc, rfl, RwC.nil _ _ _, HB.out, ?_⟩
      exact RsOut.of_no HNE.out
end Go.Proofs.Ytiokagnolbddlaa
