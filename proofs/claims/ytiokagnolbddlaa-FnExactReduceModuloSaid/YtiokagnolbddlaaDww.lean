/-
  DualWhole of the program, by contracts.
-/
import Derived.Test.YtiokagnolbddlaaWsp
import Derived.Test.YtiokagnolbddlaaDwc
import Derived.Test.YtiokagnolbddlaaSdw
namespace Go.Proofs.Ytiokagnolbddlaa
open Go.RowKit

def dualWO (ds : List Int) (ms : List (List (List Int))) : WhO := (dualD ds, dualM ds ms)
open Classical in
noncomputable def whCode (ds : List Int) (ms : List (List (List Int))) : Int := if WhOk ds ms then 0 else 1
theorem whCode_zero {ds : List Int} {ms : List (List (List Int))} (h : whCode ds ms = 0) : WhOk ds ms := by
  unfold whCode at h
  by_cases hc : WhOk ds ms
  · exact hc
  · rw [if_neg hc] at h
    cases h
theorem dualW_bd {ds : List Int} {ms : List (List (List Int))} (h : WhOk ds ms) : WhBo (dualWO ds ms) := by
  have h1 := h.1.len1
  have h2 := h.1.mlen
  have hR := h.1.sz.duR8
  have hC : ∀ j, duC ms j ≤ 8 := fun j => by
    unfold duC
    by_cases e : ms.length - 1 - j < ms.length
    · have a1 := (h.1.tabs _ e).1
      have a2 := h.1.dim6 (ms.length - 1 - j + 1)
      omega
    · rw [List.getD_eq_getElem?_getD, List.getElem?_eq_none (by omega)]
      simp
  refine ⟨by show (dualD ds).length ≤ _; rw [dualD_length]; omega, by show (dualM ds ms).length ≤ _; rw [dualM_length]; omega, fun t ht => ?_⟩
  obtain ⟨j, hj, rfl⟩ := List.mem_map.1 (show t ∈ dualM ds ms from ht)
  have := hR j
  have := hC j
  refine ⟨by simp [tableOf]; omega, fun r hr => ?_⟩
  obtain ⟨i, hi, rfl⟩ := List.mem_map.1 (show r ∈ tableOf _ _ _ from hr)
  show List.length _ ≤ _
  rw [List.length_map, List.length_range]
  omega
theorem S1.disj {lo hi : Nat} {W : World} {v : Value} {I : List Iv} (h : S1 lo hi W v I) : Disj I := by
  rcases h with ⟨rfl, _⟩ | ⟨b, o, n, cap, rfl, _⟩
  · exact List.Pairwise.nil
  · exact List.pairwise_singleton _ _
theorem RcW.wh {lo hi : Nat} {W : World} {dv mv : Value} {ds : List Int} {ms : List (List (List Int))} (h : RcW lo hi W dv mv ds ms) : RcWh lo hi W dv mv ds ms := by
  obtain ⟨h0, I, J, s1, s3, n1, n3, d3, a, z1, z3⟩ := h
  exact ⟨⟨h0.dims, h0.maps⟩, I, J, ⟨s1, n1, s1.disj, z1, s3, n3, d3, z3, a⟩⟩

theorem bbw_no {P : Prop} {b : Bool} (h : b = true ↔ P) (hp : ¬ P) : b = false := by
  cases b with
  | false => rfl
  | true => exact absurd (h.1 rfl) hp

set_option maxHeartbeats 3200000 in
set_option maxRecDepth 100000 in
theorem dualWhole_any (dv mv : Value) (ds : List Int) (ms : List (List (List Int))) (w : World) (h : Wh 0 w dv mv ds ms) (hb : WhB 1048576 ds ms) :
    Calls Try.prog 25 #[.agg #[dv, mv]] w (AnsW RwWh (fun o => o = dualWO ds ms) ([], []) (whCode ds ms) w) := by
  obtain ⟨⟨ad, cap, rfl⟩, am, capm, rfl⟩ := h.shapes
  have HBD := Lib.hid hb
  have hres : Try.f25.results = #[.cell 2 25, .tmp 3] := by kernel_rfl
  have HRES := Lib.hid hres
  obtain ⟨w1, hw1⟩ : ∃ w1, w1 = (w.alloc (.cells #[.slice ad ds.length cap, .slice am ms.length capm] 25)).alloc (.cells #[.slice none 0 0, .slice none 0 0] 25) := ⟨_, rfl⟩
  have HX1 : Hid (BxWh w w1 w.heap.size (.slice ad ds.length cap) (.slice am ms.length capm) ds ms) := Lib.hid (by rw [hw1]; exact (BxWh.start 25 h).next (below_alloc1 _ _))
  have HB1 : Hid (Below w.heap.size w w1) := Lib.hid HX1.out.below
  have HS1 : Hid (w.heap.size + 1 < w1.heap.size) := Lib.hid (by rw [hw1]; simp)
  have HR0 : Hid (∃ x y, w1.heap[w.heap.size + 1]? = some (.cells #[x, y] 25)) := Lib.hid ⟨_, _, by rw [hw1]; have := heap_alloc_new (w.alloc (.cells #[.slice ad ds.length cap, .slice am ms.length capm] 25)) (.cells #[.slice none 0 0, .slice none 0 0] 25); simpa using this⟩
  have c0 := HX1.out.c0
  have c1 := HX1.out.c1
  clear hres h hb
  by_cases hc : WhOk ds ms
  · have HC := Lib.hid hc
    have HCODE : Hid (whCode ds ms = 0) := Lib.hid (by unfold whCode; rw [if_pos hc])
    clear hc
    go_enter Try.func25, Try.ntmps25
    go_upto_region 1 with fail
    rw [← hw1]
    clear hw1
    go_wp2_with fail
    refine (isWhole_any _ _ ds ms _ HX1.out.cx HBD.out).mono ?_
    rintro e w2 ⟨bb, rfl, hb2, hbb⟩
    obtain rfl : bb = true := hbb.2 HC.out
    have HB2 := Lib.hid hb2
    have c0' := (HX1.out.next hb2).c0
    have c1' := (HX1.out.next hb2).c1
    clear hbb hb2 c0 c1
    go_wp2_with fail
    refine (modulo_any 487 (.slice ad ds.length cap) (.slice am ms.length capm) _ _ _ _ _ _ _ rfl rfl).mono ?_
    rintro e w3 ⟨rfl, hb3⟩
    have HB3 : Hid (Below w1.heap.size w1 w3) := Lib.hid (HB2.out.trans (hb3.mono HB2.out.size))
    have HS3 : Hid (w1.heap.size ≤ w3.heap.size) := Lib.hid HB3.out.size
    have HC3 : Hid (Cx 0 w3 (.slice ad ds.length cap) (.slice am ms.length capm) ds ms) := Lib.hid (let h := (HX1.out.next HB3.out).cx; ⟨h.fd, h.fm⟩)
    clear hb3 c0' c1'
    go_wp2_with fail
    refine (dualC_any 487 _ _ ds ms _ HC3.out HBD.out.bd HBD.out.bm HC.out.1.sz).mono ?_
    rintro e w4 ⟨bd, bm, rfl, hat⟩
    have HRW : Hid (RcWh w3.heap.size w4.heap.size w4 (.slice (some ⟨bd, 0, none⟩) ds.length ds.length) (.slice (some ⟨bm, 0, none⟩) ms.length ms.length) (dualD ds) (dualM ds ms)) := Lib.hid (hat.rcS HBD.out.bd HBD.out.bm HC.out.1.sz.duR8).wh
    have HB4 : Hid (Below w1.heap.size w1 w4) := Lib.hid (HB3.out.trans (hat.below.mono HB3.out.size))
    clear hat
    obtain ⟨w5, hw5⟩ : ∃ w5, w5 = w4.alloc (.cells #[.int .i64 487, .slice (some ⟨bd, 0, none⟩) ds.length ds.length, .slice (some ⟨bm, 0, none⟩) ms.length ms.length] 38) := ⟨_, rfl⟩
    have HB45 : Hid (Below w4.heap.size w4 w5) := Lib.hid (by rw [hw5]; exact below_alloc1 _ _)
    have HB5 : Hid (Below w1.heap.size w1 w5) := Lib.hid (HB4.out.trans (HB45.out.mono HB4.out.size))
    have d1 : w5.cell? ⟨w4.heap.size, 1, none⟩ = some (.slice (some ⟨bd, 0, none⟩) ds.length ds.length) := by rw [hw5]; simp
    have d2 : w5.cell? ⟨w4.heap.size, 2, none⟩ = some (.slice (some ⟨bm, 0, none⟩) ms.length ms.length) := by rw [hw5]; simp
    go_upto_region 4 with fail
    rw [← hw5]
    clear hw5
    obtain ⟨x, y, hr⟩ := HR0.out
    have hrow : w5.rowIs (w.heap.size + 1) 25 2 (sel2 x y) := rowIs2 (by rw [HB5.out.block (w.heap.size + 1) HS1.out]; exact hr)
    have q0 : w5.cell? ⟨w.heap.size + 1, 0, none⟩ = some x := hrow.cell (i := 0) (by omega)
    have z0 : w5.frozen? ⟨w.heap.size + 1, 0, none⟩ = false := hrow.frozen 0
    have r1 := hrow.set 0 (.slice (some ⟨bd, 0, none⟩) ds.length ds.length)
    have q1 : (w5.setCell ⟨w.heap.size + 1, 0, none⟩ (.slice (some ⟨bd, 0, none⟩) ds.length ds.length)).cell? ⟨w.heap.size + 1, 1, none⟩ = some y := r1.cell (i := 1) (by omega)
    have z1 : (w5.setCell ⟨w.heap.size + 1, 0, none⟩ (.slice (some ⟨bd, 0, none⟩) ds.length ds.length)).frozen? ⟨w.heap.size + 1, 1, none⟩ = false := r1.frozen 1
    have r2 := r1.set 1 (.slice (some ⟨bm, 0, none⟩) ms.length ms.length)
    obtain ⟨WF, hWF⟩ : ∃ W : World, W = ((w5.setCell ⟨w.heap.size + 1, 0, none⟩ (.slice (some ⟨bd, 0, none⟩) ds.length ds.length)).setCell ⟨w.heap.size + 1, 1, none⟩ (.slice (some ⟨bm, 0, none⟩) ms.length ms.length)) := ⟨_, rfl⟩
    have HB : Hid (Below w.heap.size w WF) := Lib.hid (by
      rw [hWF]
      exact ((HB1.out.trans (HB5.out.mono HB1.out.size)).setCell (by show w.heap.size ≤ w.heap.size + 1; omega) _).setCell (by show w.heap.size ≤ w.heap.size + 1; omega) _)
    have HRC : Hid (RcWh w.heap.size WF.heap.size WF (.slice (some ⟨bd, 0, none⟩) ds.length ds.length) (.slice (some ⟨bm, 0, none⟩) ms.length ms.length) (dualD ds) (dualM ds ms)) := Lib.hid (by
      have hs : WF.heap.size = w5.heap.size := by rw [hWF]; simp
      rw [hs]
      have h1 := HS1.out
      have h3 := HS3.out
      have h4 := HB45.out.size
      refine ((HRW.out.same (Same.of_below HB45.out (Nat.le_refl _))).same ?_).wider (by omega) h4
      rw [hWF]
      exact (Same.set _ (Or.inl (show w.heap.size + 1 < _ by omega))).trans (Same.set _ (Or.inl (show w.heap.size + 1 < _ by omega))))
    rw [← hWF] at r2
    have f0 : WF.cell? ⟨w.heap.size + 1, 0, none⟩ = some (.slice (some ⟨bd, 0, none⟩) ds.length ds.length) := r2.cell (i := 0) (by omega)
    have f1 : WF.cell? ⟨w.heap.size + 1, 1, none⟩ = some (.slice (some ⟨bm, 0, none⟩) ms.length ms.length) := r2.cell (i := 1) (by omega)
    have HWF := Lib.hid hWF
    clear hr hrow r1 r2 hWF
    go_wp2
    rw [← HWF.out]
    refine bodyPost_ret (v := .tuple #[.agg #[.slice (some ⟨bd, 0, none⟩) ds.length ds.length, .slice (some ⟨bm, 0, none⟩) ms.length ms.length], .int .i64 0]) ?_ rfl ?_
    · simp only [results, HRES.out]
      go_simp
    · refine ⟨_, dualWO ds ms, 0, rfl, ⟨some ⟨bd, 0, none⟩, ds.length, some ⟨bm, 0, none⟩, ms.length, ?_, ?_⟩, HB.out, RsOut.of_yes HCODE.out rfl⟩
      · show _ = Value.agg #[.slice (some ⟨bd, 0, none⟩) (dualD ds).length ds.length, .slice (some ⟨bm, 0, none⟩) (dualM ds ms).length ms.length]
        rw [dualD_length, dualM_length]
      · show RcWh w.heap.size WF.heap.size WF (.slice (some ⟨bd, 0, none⟩) (dualD ds).length ds.length) (.slice (some ⟨bm, 0, none⟩) (dualM ds ms).length ms.length) (dualD ds) (dualM ds ms)
        rw [dualD_length, dualM_length]
        exact HRC.out
  · have HC := Lib.hid hc
    have HCODE : Hid (whCode ds ms = 1) := Lib.hid (by unfold whCode; rw [if_neg hc])
    clear hc
    go_enter Try.func25, Try.ntmps25
    go_upto_region 1 with fail
    rw [← hw1]
    clear hw1
    go_wp2_with fail
    refine (isWhole_any _ _ ds ms _ HX1.out.cx HBD.out).mono ?_
    rintro e w2 ⟨bb, rfl, hb2, hbb⟩
    obtain rfl : bb = false := bbw_no hbb HC.out
    have HB2 := Lib.hid hb2
    clear hbb hb2 c0 c1
    obtain ⟨x, y, hr⟩ := HR0.out
    have hrow : w2.rowIs (w.heap.size + 1) 25 2 (sel2 x y) := rowIs2 (by rw [HB2.out.block (w.heap.size + 1) HS1.out]; exact hr)
    have q0 : w2.cell? ⟨w.heap.size + 1, 0, none⟩ = some x := hrow.cell (i := 0) (by omega)
    have z0 : w2.frozen? ⟨w.heap.size + 1, 0, none⟩ = false := hrow.frozen 0
    have r1 := hrow.set 0 (.slice none 0 0)
    have q1 : (w2.setCell ⟨w.heap.size + 1, 0, none⟩ (.slice none 0 0)).cell? ⟨w.heap.size + 1, 1, none⟩ = some y := r1.cell (i := 1) (by omega)
    have z1 : (w2.setCell ⟨w.heap.size + 1, 0, none⟩ (.slice none 0 0)).frozen? ⟨w.heap.size + 1, 1, none⟩ = false := r1.frozen 1
    have r2 := r1.set 1 (.slice none 0 0)
    obtain ⟨WF, hWF⟩ : ∃ W : World, W = ((w2.setCell ⟨w.heap.size + 1, 0, none⟩ (.slice none 0 0)).setCell ⟨w.heap.size + 1, 1, none⟩ (.slice none 0 0)) := ⟨_, rfl⟩
    have HB : Hid (Below w.heap.size w WF) := Lib.hid (by
      rw [hWF]
      exact ((HB1.out.trans (HB2.out.mono HB1.out.size)).setCell (by show w.heap.size ≤ w.heap.size + 1; omega) _).setCell (by show w.heap.size ≤ w.heap.size + 1; omega) _)
    rw [← hWF] at r2
    have f0 : WF.cell? ⟨w.heap.size + 1, 0, none⟩ = some (.slice none 0 0) := r2.cell (i := 0) (by omega)
    have f1 : WF.cell? ⟨w.heap.size + 1, 1, none⟩ = some (.slice none 0 0) := r2.cell (i := 1) (by omega)
    have HWF := Lib.hid hWF
    clear hr hrow r1 r2 hWF
    go_wp2
    rw [← HWF.out]
    refine bodyPost_ret (v := .tuple #[.agg #[.slice none 0 0, .slice none 0 0], .int .i64 1]) ?_ rfl ?_
    · simp only [results, HRES.out]
      go_simp
    · refine ⟨_, ([], []), 1, rfl, RwWh.nil _ _ _, HB.out, ?_⟩
      rw [HCODE.out]
      exact RsOut.of_no (by decide)
end Go.Proofs.Ytiokagnolbddlaa
