/-
  DualComplex of the model, by contracts.
-/
import Derived.Test.YtpdkfidmmjlmnaaSd
namespace Go.Proofs.Ytpdkfidmmjlmnaa
open Go.RowKit

theorem hloadSS (w : World) {b o : Nat} {x : Value} (h : w.cell? ⟨b, o, none⟩ = some x) : (Instr.loadAt 41 (.pointer (some ⟨b, o, none⟩))).run Try.prog w = .ok x w := by go_simp
theorem hloadSSS (w : World) {b o : Nat} {x : Value} (h : w.cell? ⟨b, o, none⟩ = some x) : (Instr.loadAt 23 (.pointer (some ⟨b, o, none⟩))).run Try.prog w = .ok x w := by go_simp
theorem dualD_take {ds : List Int} {k : Nat} (h : k < ds.length) : (dualD ds).take (k + 1) = (dualD ds).take k ++ [ds.getD (ds.length - 1 - k) 0] := by
  rw [List.take_succ_eq_append_getElem (by rw [dualD_length]; exact h)]
  simp [dualD]
theorem dualM_take {ds : List Int} {ms : List (List (List Int))} {k : Nat} (h : k < ms.length) : (dualM ds ms).take (k + 1) = (dualM ds ms).take k ++ [flipT (ds.getD (ms.length - 1 - k) 0).toNat (ms.getD (ms.length - 1 - k) [])] := by
  rw [List.take_succ_eq_append_getElem (by rw [dualM_length]; exact h)]
  simp only [dualM, List.getElem_map, List.getElem_range]
  rfl
set_option maxHeartbeats 1000000 in
set_option maxRecDepth 100000 in
theorem spDual_any (p : Int) (dv mv : Value) (ds : List Int) (ms : List (List (List Int))) (w : World) (h : Cx 0 w dv mv ds ms) (hd : ds.length ≤ 1048576) (hm : Bd3 1048576 ms) :
    Calls Try.prog 61 #[.agg #[.int .i64 p, dv, mv]] w (AnsS RsC (DualIs p ds ms) (0, [], []) (coCode p ds ms) w) := by
  obtain ⟨ad, cap, rfl⟩ := Sl.shape h.dims
  obtain ⟨am, capm, rfl⟩ := Sl.shape h.maps
  by_cases hc : IsCx p ds ms
  · have HCODE : Hid (coCode p ds ms = 0) := Lib.hid (by unfold coCode; rw [if_pos hc])
    have hml := hc.1.mlen
    have hl6 := hc.1.len1
    have HX0 := Lib.hid ((Bx.start (p := p) 28 h).next ((Below.refl _ _).alloc (Nat.le_refl _) (.cells #[.int .i64 0, .slice none 0 0, .slice none 0 0] 28)))
    have HCX := Lib.hid hc
    have HM := Lib.hid hm
    have hres : Try.f61.results = #[.cell 2 28, .tmp 3] := by kernel_rfl
    have HRES := Lib.hid hres
    clear hres h hm hc
    go_enter Try.func61, Try.ntmps61
    go_wp2_with fail
    refine (l01Is_any p _ _ ds ms _ HX0.out.cx hd HM.out).mono ?_
    rintro e w1 ⟨bb, rfl, hb1, hbb⟩
    obtain rfl : bb = true := hbb.2 HCX.out
    have HX1 := Lib.hid (HX0.out.next hb1)
    have hsz1 : w.heap.size + 2 ≤ w1.heap.size := by have := hb1.size; simpa using this
    have HR0 : Hid (∃ x y z, w1.heap[w.heap.size + 1]? = some (.cells #[x, y, z] 28)) := Lib.hid ⟨_, _, _, by rw [hb1.block (w.heap.size + 1) (by simp)]; have := heap_alloc_new (w.alloc (.cells #[.int .i64 p, .slice ad ds.length cap, .slice am ms.length capm] 28)) (.cells #[.int .i64 0, .slice none 0 0, .slice none 0 0] 28); simpa using this⟩
    clear hb1 hbb HX0
    have c0 := HX1.out.c0
    have c1 := HX1.out.c1
    have c2 := HX1.out.c2
    have hw1 : IntKind.i64.wrap ((ds.length : Int) - 1) = (ds.length : Int) - 1 := IntWalk.i64_in _ (by omega)
    obtain ⟨wa, hwa⟩ : ∃ wa, wa = w1.alloc (.cells #[] 2) := ⟨_, rfl⟩
    obtain ⟨wb, hwb⟩ : ∃ wb, wb = wa.alloc (.cells #[] 41) := ⟨_, rfl⟩
    have hsa : wa.heap.size = w1.heap.size + 1 := by rw [hwa]; simp
    have hsb : wb.heap.size = w1.heap.size + 2 := by rw [hwb]; simp [hsa]
    obtain ⟨wc, hwc⟩ : ∃ wc, wc = wb.alloc (.cells #[.int .i64 p, .slice (some ⟨w1.heap.size, 0, none⟩) 0 0, .slice (some ⟨w1.heap.size + 1, 0, none⟩) 0 0] 28) := ⟨_, rfl⟩
    have HS0 : Hid (Sd w1 wc (w1.heap.size + 1 + 1) p (.slice (some ⟨w1.heap.size, 0, none⟩) 0 0) (.slice (some ⟨w1.heap.size + 1, 0, none⟩) 0 0) [] []) := Lib.hid (by
      have b1 : Below w1.heap.size w1 wa := by rw [hwa]; exact below_alloc1 _ _
      have b2 : Below wa.heap.size wa wb := by rw [hwb]; exact below_alloc1 _ _
      have b3 : Below wb.heap.size wb wc := by rw [hwc]; exact below_alloc1 _ _
      have g1 : Gb w1.heap.size wa (.slice (some ⟨w1.heap.size, 0, none⟩) 0 0) [] := by rw [hwa]; exact Gb.new w1 (Nat.le_refl _)
      have g2 : Gt w1.heap.size wb (.slice (some ⟨w1.heap.size + 1, 0, none⟩) 0 0) [] := by
        have := Gt.new (base := w1.heap.size) wa (by omega)
        rw [hsa] at this
        rw [hwb]
        exact this
      refine ⟨(b1.trans (b2.mono (by omega))).trans (b3.mono (by omega)), by omega, ?_, (g1.below b2).below b3, g2.below b3⟩
      refine rowIs3 ?_
      have := heap_alloc_new wb (.cells #[.int .i64 p, .slice (some ⟨w1.heap.size, 0, none⟩) 0 0, .slice (some ⟨w1.heap.size + 1, 0, none⟩) 0 0] 28)
      rw [← hwc, hsb] at this
      exact this)
    obtain ⟨g, hg⟩ : ∃ g, g = w1.heap.size + 1 + 1 := ⟨_, rfl⟩
    go_upto_region 5 with fail
    rw [← hwa, ← hwb, ← hwc]
    rw [← hg]
    rw [← hg] at HS0
    clear hwa hwb hwc hsa hsb hg c0 c1 c2
    go_wp2
    go_loopw [6] (fun i wr => ∃ (k : Nat) (a1 : Option Addr) (c1 : Nat), k ≤ ds.length ∧ i = .int .i64 k ∧ Hid (Sd w1 wr g p (.slice a1 k c1) (.slice (some ⟨w1.heap.size + 1, 0, none⟩) 0 0) ((dualD ds).take k) [])) (fun i _ => ds.length - (intOf i).toNat)
    case atStart => exact ⟨0, _, _, Nat.zero_le _, rfl, by simpa using HS0⟩
    case round =>
      obtain ⟨k, a1, cc1, hk, rfl, HS⟩ := hrel
      by_cases hlt : (k : Int) ≤ (ds.length : Int) - 1
      · have hkd : k < ds.length := by omega
        obtain ⟨q, hq⟩ : ∃ q, q = ds.length - 1 - k := ⟨_, rfl⟩
        have hqd : q < ds.length := by omega
        have HXR := Lib.hid (HX1.out.next HS.out.below)
        have c1 := HXR.out.c1
        refine Sl.cases HXR.out.cx.dims (fun _ _ hx _ => absurd hqd (by simp [hx])) (fun bd od capd hvd _ _ hcl => ?_)
        injection hvd with e1 e2 e3
        clear e2
        subst e1 e3
        obtain ⟨u, hu, hru⟩ := hcl q hqd
        obtain ⟨x, hx⟩ : ∃ x, x = ds.getD q 0 := ⟨_, rfl⟩
        have hu2 : wr.cell? ⟨bd, od + q, none⟩ = some (.int .i64 x) := by rw [hu, hru, hx, getD_of_lt _ hqd]
        have hbd : bd < w1.heap.size := by
          refine Sl.cases HX1.out.cx.dims (fun _ _ hx _ => absurd hqd (by simp [hx])) (fun b1 o1 d1 hv1 _ _ hcl1 => ?_)
          obtain ⟨u1, hu1, _⟩ := hcl1 q hqd
          have hl1 := cell_lt hu1
          injection hv1 with e1
          injection e1 with e1
          injection e1 with e1
          omega
        have g1 : wr.cell? ⟨g, 1, none⟩ = some (.slice a1 k cc1) := HS.out.box.cell (i := 1) (by omega)
        have hwk : IntKind.i64.wrap ((ds.length : Int) - 1 - (k : Int)) = (q : Int) := by rw [show (ds.length : Int) - 1 - (k : Int) = (q : Int) by omega]; exact IntWalk.i64_in _ (by omega)
        have hq0 : (0 : Int) ≤ (q : Int) := by omega
        have hq1 : (q : Int) < (ds.length : Int) := by omega
        have HXE : Hid ((dualD ds).take (k + 1) = (dualD ds).take k ++ [x]) := Lib.hid (by rw [dualD_take hkd, hx, hq])
        have HKL : Hid (((dualD ds).take k).length = k) := Lib.hid (by rw [List.length_take, dualD_length]; omega)
        have hg1 : w1.heap.size ≤ g := HS.out.lo
        obtain ⟨wd, hwd⟩ : ∃ wd, wd = wr.drew := ⟨_, rfl⟩
        have HSD : Hid (Sd w1 wd g p (.slice a1 k cc1) (.slice (some ⟨w1.heap.size + 1, 0, none⟩) 0 0) ((dualD ds).take k) []) := Lib.hid (by rw [hwd]; exact HS.out.next (Below.refl _ _).drew)
        obtain ⟨we, hwe⟩ : ∃ we, we = wd.alloc (.cells #[.int .i64 x] 2) := ⟨_, rfl⟩
        have hbe : Below wd.heap.size wd we := by rw [hwe]; exact below_alloc1 _ _
        have hve : we.cell? ⟨wd.heap.size, 0, none⟩ = some (.int .i64 x) := by rw [hwe]; simp
        have S0 : Hid (wd.cell? ⟨w.heap.size, 1, none⟩ = some (.slice (some ⟨bd, od, none⟩) ds.length cap) ∧ wd.cell? ⟨bd, od + q, none⟩ = some (.int .i64 x) ∧ wd.cell? ⟨g, 1, none⟩ = some (.slice a1 k cc1)) := Lib.hid (by rw [hwd]; exact ⟨later (Below.refl _ _).drew (Nat.le_refl _) c1, later (Below.refl _ _).drew (Nat.le_refl _) hu2, later (Below.refl _ _).drew (Nat.le_refl _) g1⟩)
        have S1 : Hid (we.cell? ⟨w.heap.size, 1, none⟩ = some (.slice (some ⟨bd, od, none⟩) ds.length cap) ∧ we.cell? ⟨bd, od + q, none⟩ = some (.int .i64 x) ∧ we.cell? ⟨g, 1, none⟩ = some (.slice a1 k cc1)) := Lib.hid ⟨later hbe (Nat.le_refl _) S0.out.1, later hbe (Nat.le_refl _) S0.out.2.1, later hbe (Nat.le_refl _) S0.out.2.2⟩
        have HSE := Lib.hid (HSD.out.next hbe)
        have hsw : wd.heap.size = wr.heap.size := by rw [hwd]; rfl
        have hse : wd.heap.size ≤ we.heap.size := hbe.size
        have hgr : g < wd.heap.size := HSD.out.box.lt
        clear hu hru hcl hx hbe hu2 g1 c1 hq
        go_wp2
        refine wp_region_last (fun W => Hid (W.cell? ⟨w.heap.size, 1, none⟩ = some (.slice (some ⟨bd, od, none⟩) ds.length cap) ∧ W.cell? ⟨bd, od + q, none⟩ = some (.int .i64 x) ∧ W.cell? ⟨g, 1, none⟩ = some (.slice a1 k cc1))) 12 (by kernel_rfl) rfl (by kernel_rfl) ?_
        rw [← hwd]
        refine held_take (i := 0) (v := .pointer (some ⟨g, 1, none⟩)) (some 27) rfl rfl (by kernel_rfl) (by kernel_rfl) (by kernel_rfl) (fun _ _ _ h => h) (yieldsIf_run (by kernel_rfl) (fun W _ => by kernel_rfl)) S0 ?_
        refine held_take (i := 1) (v := .slice a1 k cc1) (some 28) rfl rfl (by kernel_rfl) (by kernel_rfl) (by kernel_rfl) (fun _ _ _ h => h) (yieldsIf_cell (by kernel_rfl) rfl (by kernel_rfl) (fun W h => hloadS W h.out.2.2)) S0 ?_
        refine held_take (i := 2) (v := .pointer (some ⟨w.heap.size, 1, none⟩)) (some 29) rfl rfl (by kernel_rfl) (by kernel_rfl) (by kernel_rfl) (fun _ _ _ h => h) (yieldsIf_run (by kernel_rfl) (fun W _ => by kernel_rfl)) S0 ?_
        refine held_take (i := 3) (v := .slice (some ⟨bd, od, none⟩) ds.length cap) (some 30) rfl rfl (by kernel_rfl) (by kernel_rfl) (by kernel_rfl) (fun _ _ _ h => h) (yieldsIf_cell (by kernel_rfl) rfl (by kernel_rfl) (fun W h => hloadS W h.out.1)) S0 ?_
        refine held_take (i := 4) (v := .int .i64 ((ds.length : Int) - 1)) (some 31) rfl rfl (by kernel_rfl) (by kernel_rfl) (by kernel_rfl) (fun _ _ _ h => h) (yieldsIf_move (by kernel_rfl) rfl (by kernel_rfl)) S0 ?_
        refine held_take (i := 5) (v := .int .i64 (k : Int)) (some 32) rfl rfl (by kernel_rfl) (by kernel_rfl) (by kernel_rfl) (fun _ _ _ h => h) (yieldsIf_move (by kernel_rfl) rfl (by kernel_rfl)) S0 ?_
        refine held_take (i := 6) (v := .int .i64 (q : Int)) (some 33) rfl rfl (by kernel_rfl) (by kernel_rfl) (by kernel_rfl) (fun _ _ _ h => h) (yieldsIf_run (by kernel_rfl) (fun W _ => by go_simp)) S0 ?_
        refine held_take (i := 7) (v := .pointer (some ⟨bd, od + q, none⟩)) (some 34) rfl rfl (by kernel_rfl) (by kernel_rfl) (by kernel_rfl) (fun _ _ _ h => h) (yieldsIf_run (by kernel_rfl) (fun W _ => by go_simp)) S0 ?_
        refine held_take (i := 8) (v := .int .i64 x) (some 35) rfl rfl (by kernel_rfl) (by kernel_rfl) (by kernel_rfl) (fun _ _ _ h => h) (yieldsIf_cell (by kernel_rfl) rfl (by kernel_rfl) (fun W h => hload W h.out.2.1)) S0 ?_
        refine held_mem (i := 9) (v := .slice (some ⟨wd.heap.size, 0, none⟩) 1 1) (w' := we) (some 36) (by kernel_rfl) rfl rfl rfl (by rw [hwe]; go_simp) S1 ?_
        simp only [Act.put, List.setIfInBounds_toArray, List.set_cons_zero, List.set_cons_succ]
        refine held_call (i := 10) (by kernel_rfl) rfl rfl ?_
        refine wp_appendB1 (some 37) rfl (.tmp 28) (.tmp 36) rfl w1.heap.size (.slice a1 k cc1) ((dualD ds).take k) (by kernel_rfl) HSE.out.dims wd.heap.size (by kernel_rfl) x hve (by have := HKL.out; omega) (by omega) ?_
        rw [HKL.out]
        intro g9 c9 w9 hn hgw
        have HS9 : Hid (Sd w1 (w9.setCell ⟨g, 1, none⟩ (.slice (some ⟨g9, 0, none⟩) (k + 1) c9)) g p (.slice (some ⟨g9, 0, none⟩) (k + 1) c9) (.slice (some ⟨w1.heap.size + 1, 0, none⟩) 0 0) ((dualD ds).take (k + 1)) []) := Lib.hid (by rw [HXE.out]; exact HSE.out.stepD hgw hn)
        have hrb := row_grown HSE.out.box HSE.out.dims coT.1 hgw
        have z1 : w9.cell? ⟨g, 1, none⟩ = some (.slice a1 k cc1) := hrb.cell (i := 1) (by omega)
        have z2 : w9.frozen? ⟨g, 1, none⟩ = false := hrb.frozen 1
        have hbw := (Below.refl w1.heap.size we).grown hgw (Nat.le_trans HSD.out.below.size hse) (fun g hg => (HSE.out.dims.lt g hg).1)
        have S2 : Hid (w9.cell? ⟨w.heap.size, 1, none⟩ = some (.slice (some ⟨bd, od, none⟩) ds.length cap) ∧ w9.cell? ⟨bd, od + q, none⟩ = some (.int .i64 x) ∧ w9.cell? ⟨g, 1, none⟩ = some (.slice a1 k cc1)) := Lib.hid ⟨(hbw.cell (p := ⟨w.heap.size, 1, none⟩) (by show w.heap.size < _; omega)).trans S1.out.1, (hbw.cell (p := ⟨bd, od + q, none⟩) hbd).trans S1.out.2.1, z1⟩
        clear hn hgw hrb hbw
        refine ⟨S2, ?_⟩
        refine held_take (i := 11) (v := .pointer (some ⟨g, 1, none⟩)) (some 38) rfl rfl (by kernel_rfl) (by kernel_rfl) (by kernel_rfl) (fun _ _ _ h => h) (yieldsIf_run (by kernel_rfl) (fun W _ => by kernel_rfl)) S2 ?_
        refine held_none (i := 12) (v := .bool false) rfl rfl (by kernel_rfl) (by kernel_rfl) (by kernel_rfl) (fun _ _ _ h => h) (yieldsIf_move (by kernel_rfl) rfl (by kernel_rfl)) S2 ?_
        refine wpAnyH_done (by kernel_rfl) (lastQ_of rfl (by kernel_rfl) ?_) _
        simp only [Act.put, List.setIfInBounds_toArray, List.set_cons_zero, List.set_cons_succ]
        clear S0 S1 S2 hve hwe hwd
        go_simp
        go_wp2
        go_roundw
        case rel => exact ⟨k + 1, _, _, by omega, by go_num, HS9⟩
        case measure => simp [intOf]; omega
      · have hkk : k = ds.length := by omega
        subst hkk
        have HSD : Hid (Sd w1 wr g p (.slice a1 ds.length cc1) (.slice (some ⟨w1.heap.size + 1, 0, none⟩) 0 0) (dualD ds) []) := Lib.hid (by have := HS.out; rwa [List.take_of_length_le (by rw [dualD_length]; exact Nat.le_refl _)] at this)
        clear HS
        obtain ⟨wo, hwo⟩ : ∃ wo : World, wo = wr := ⟨_, rfl⟩
        subst hwo
        have hi0 : IntKind.i64.wrap ((ds.length : Int) - 1 - 1) = (ds.length : Int) - 1 - 1 := IntWalk.i64_in _ (by omega)
        go_wp2
        go_loopw [7] (fun i wr => ∃ (k2 : Nat) (a2 : Option Addr) (cc2 : Nat), k2 ≤ ms.length ∧ i = .int .i64 k2 ∧ Hid (Sd w1 wr g p (.slice a1 ds.length cc1) (.slice a2 k2 cc2) (dualD ds) ((dualM ds ms).take k2))) (fun i _ => ms.length - (intOf i).toNat)
        case atStart => exact ⟨0, _, _, Nat.zero_le _, rfl, by simpa using HSD⟩
        case round =>
          obtain ⟨k2, a2, cc2, hk2, rfl, HS⟩ := hrel
          by_cases hlt2 : (k2 : Int) < (ds.length : Int) - 1
          · have hkm : k2 < ms.length := by omega
            obtain ⟨q, hq⟩ : ∃ q, q = ms.length - 1 - k2 := ⟨_, rfl⟩
            have hqm : q < ms.length := by omega
            have hqd : q < ds.length := by omega
            have HXR := Lib.hid (HX1.out.next HS.out.below)
            have c1 := HXR.out.c1
            have c2 := HXR.out.c2
            refine Sl.cases HXR.out.cx.dims (fun _ _ hx _ => absurd hqd (by simp [hx])) (fun bd od capd hvd _ _ hcl => ?_)
            injection hvd with e1 e2 e3
            clear e2
            subst e1 e3
            refine Sl.cases HXR.out.cx.maps (fun _ _ hx _ => absurd hqm (by simp [hx])) (fun bm om capq hvm _ _ hclm => ?_)
            injection hvm with e1 e2 e3
            clear e2
            subst e1 e3
            obtain ⟨u, hu, hru⟩ := hcl q hqd
            obtain ⟨ut, hut, hrt⟩ := hclm q hqm
            have hdim := HCX.out.1.dim q
            obtain ⟨cq, hcq⟩ := Int.eq_ofNat_of_zero_le hdim.1
            have hu2 : wr.cell? ⟨bd, od + q, none⟩ = some (.int .i64 (cq : Int)) := by rw [hu, hru, ← hcq, getD_of_lt _ hqd]
            have t1 := HCX.out.1.tabs q hqm
            obtain ⟨t, ht⟩ : ∃ t, t = ms[q] := ⟨_, rfl⟩
            rw [← ht] at hrt
            obtain ⟨at', ct, hus⟩ := Sl.shape hrt
            obtain ⟨tn, htn⟩ : ∃ tn, tn = t.length := ⟨_, rfl⟩
            rw [← htn] at hus
            subst hus
            have HTR : Hid (∀ x ∈ t, x.length = cq) := Lib.hid (fun x hx => by
              have a1 := (t1.2 x (by rw [getD_of_lt _ hqm, ← ht]; exact hx)).1
              omega)
            have HTL : Hid (t.length ≤ 1048576) := Lib.hid (by
              have a1 := t1.1
              have a2 := HCX.out.1.dim (q + 1)
              rw [getD_of_lt _ hqm, ← ht] at a1
              omega)
            have hbd : bd < w1.heap.size := by
              refine Sl.cases HX1.out.cx.dims (fun _ _ hx _ => absurd hqd (by simp [hx])) (fun b1 o1 d1 hv1 _ _ hcl1 => ?_)
              obtain ⟨u1, hu1, _⟩ := hcl1 q hqd
              have hl1 := cell_lt hu1
              injection hv1 with e1
              injection e1 with e1
              injection e1 with e1
              omega
            have hbm : bm < w1.heap.size := by
              refine Sl.cases HX1.out.cx.maps (fun _ _ hx _ => absurd hqm (by simp [hx])) (fun b1 o1 d1 hv1 _ _ hcl1 => ?_)
              obtain ⟨u1, hu1, _⟩ := hcl1 q hqm
              have hl1 := cell_lt hu1
              injection hv1 with e1
              injection e1 with e1
              injection e1 with e1
              omega
            have g2 : wr.cell? ⟨g, 2, none⟩ = some (.slice a2 k2 cc2) := HS.out.box.cell (i := 2) (by omega)
            have hi1 : IntKind.i64.wrap ((ds.length : Int) - 1 - 1 - (k2 : Int)) = (q : Int) := by rw [show (ds.length : Int) - 1 - 1 - (k2 : Int) = (q : Int) by omega]; exact IntWalk.i64_in _ (by omega)
            have hq0 : (0 : Int) ≤ (q : Int) := by omega
            have hq1 : (q : Int) < (ds.length : Int) := by omega
            have hq2 : (q : Int) < (ms.length : Int) := by omega
            have HXE : Hid ((dualM ds ms).take (k2 + 1) = (dualM ds ms).take k2 ++ [flipT cq t]) := Lib.hid (by rw [dualM_take hkm, ← hq, hcq, getD_of_lt _ hqm, ← ht, Int.toNat_natCast])
            have HKL : Hid (((dualM ds ms).take k2).length = k2) := Lib.hid (by rw [List.length_take, dualM_length]; omega)
            have hg1 : w1.heap.size ≤ g := HS.out.lo
            obtain ⟨wd, hwd⟩ : ∃ wd, wd = wr.drew := ⟨_, rfl⟩
            have HSD2 : Hid (Sd w1 wd g p (.slice a1 ds.length cc1) (.slice a2 k2 cc2) (dualD ds) ((dualM ds ms).take k2)) := Lib.hid (by rw [hwd]; exact HS.out.next (Below.refl _ _).drew)
            have HRT : Hid (L2 0 wd (.slice at' tn ct) t) := Lib.hid (by rw [hwd]; exact hrt.below (Below.refl _ _).drew)
            have S0 : Hid (wd.cell? ⟨w.heap.size, 1, none⟩ = some (.slice (some ⟨bd, od, none⟩) ds.length cap) ∧ wd.cell? ⟨w.heap.size, 2, none⟩ = some (.slice (some ⟨bm, om, none⟩) ms.length capm) ∧ wd.cell? ⟨bd, od + q, none⟩ = some (.int .i64 (cq : Int)) ∧ wd.cell? ⟨bm, om + q, none⟩ = some (.slice at' tn ct) ∧ wd.cell? ⟨g, 2, none⟩ = some (.slice a2 k2 cc2)) := Lib.hid (by rw [hwd]; exact ⟨later (Below.refl _ _).drew (Nat.le_refl _) c1, later (Below.refl _ _).drew (Nat.le_refl _) c2, later (Below.refl _ _).drew (Nat.le_refl _) hu2, later (Below.refl _ _).drew (Nat.le_refl _) hut, later (Below.refl _ _).drew (Nat.le_refl _) g2⟩)
            have HNX : Hid (∀ W, Below wd.heap.size wd W → W.cell? ⟨w.heap.size, 1, none⟩ = some (.slice (some ⟨bd, od, none⟩) ds.length cap) ∧ W.cell? ⟨w.heap.size, 2, none⟩ = some (.slice (some ⟨bm, om, none⟩) ms.length capm) ∧ W.cell? ⟨bd, od + q, none⟩ = some (.int .i64 (cq : Int)) ∧ W.cell? ⟨bm, om + q, none⟩ = some (.slice at' tn ct) ∧ W.cell? ⟨g, 2, none⟩ = some (.slice a2 k2 cc2)) := Lib.hid (fun W h => ⟨later h (Nat.le_refl _) S0.out.1, later h (Nat.le_refl _) S0.out.2.1, later h (Nat.le_refl _) S0.out.2.2.1, later h (Nat.le_refl _) S0.out.2.2.2.1, later h (Nat.le_refl _) S0.out.2.2.2.2⟩)
            have HCQ : Hid (cq ≤ 1048576) := Lib.hid (by omega)
            have hgr : g < wd.heap.size := HSD2.out.box.lt
            have hw1d : w1.heap.size ≤ wd.heap.size := HSD2.out.below.size
            clear hu hru hcl hclm hut hrt hdim hcq t1 ht htn hu2 g2 c1 c2 hq
            go_upto_region 13 with fail
            refine wp_region_last (fun W => Hid (W.cell? ⟨w.heap.size, 1, none⟩ = some (.slice (some ⟨bd, od, none⟩) ds.length cap) ∧ W.cell? ⟨w.heap.size, 2, none⟩ = some (.slice (some ⟨bm, om, none⟩) ms.length capm) ∧ W.cell? ⟨bd, od + q, none⟩ = some (.int .i64 (cq : Int)) ∧ W.cell? ⟨bm, om + q, none⟩ = some (.slice at' tn ct) ∧ W.cell? ⟨g, 2, none⟩ = some (.slice a2 k2 cc2))) 16 (by kernel_rfl) rfl (by kernel_rfl) ?_
            rw [← hwd]
            refine held_take (i := 0) (v := .pointer (some ⟨g, 2, none⟩)) (some 48) rfl rfl (by kernel_rfl) (by kernel_rfl) (by kernel_rfl) (fun _ _ _ h => h) (yieldsIf_run (by kernel_rfl) (fun W _ => by kernel_rfl)) S0 ?_
            refine held_take (i := 1) (v := .slice a2 k2 cc2) (some 49) rfl rfl (by kernel_rfl) (by kernel_rfl) (by kernel_rfl) (fun _ _ _ h => h) (yieldsIf_cell (by kernel_rfl) rfl (by kernel_rfl) (fun W h => hloadSSS W h.out.2.2.2.2)) S0 ?_
            refine held_take (i := 2) (v := .pointer (some ⟨w.heap.size, 2, none⟩)) (some 50) rfl rfl (by kernel_rfl) (by kernel_rfl) (by kernel_rfl) (fun _ _ _ h => h) (yieldsIf_run (by kernel_rfl) (fun W _ => by kernel_rfl)) S0 ?_
            refine held_take (i := 3) (v := .slice (some ⟨bm, om, none⟩) ms.length capm) (some 51) rfl rfl (by kernel_rfl) (by kernel_rfl) (by kernel_rfl) (fun _ _ _ h => h) (yieldsIf_cell (by kernel_rfl) rfl (by kernel_rfl) (fun W h => hloadSSS W h.out.2.1)) S0 ?_
            refine held_take (i := 4) (v := .int .i64 (q : Int)) (some 52) rfl rfl (by kernel_rfl) (by kernel_rfl) (by kernel_rfl) (fun _ _ _ h => h) (yieldsIf_move (by kernel_rfl) rfl (by kernel_rfl)) S0 ?_
            refine held_take (i := 5) (v := .pointer (some ⟨bm, om + q, none⟩)) (some 53) rfl rfl (by kernel_rfl) (by kernel_rfl) (by kernel_rfl) (fun _ _ _ h => h) (yieldsIf_run (by kernel_rfl) (fun W _ => by go_simp)) S0 ?_
            refine held_take (i := 6) (v := .slice at' tn ct) (some 54) rfl rfl (by kernel_rfl) (by kernel_rfl) (by kernel_rfl) (fun _ _ _ h => h) (yieldsIf_cell (by kernel_rfl) rfl (by kernel_rfl) (fun W h => hloadSS W h.out.2.2.2.1)) S0 ?_
            refine held_take (i := 7) (v := .pointer (some ⟨w.heap.size, 1, none⟩)) (some 55) rfl rfl (by kernel_rfl) (by kernel_rfl) (by kernel_rfl) (fun _ _ _ h => h) (yieldsIf_run (by kernel_rfl) (fun W _ => by kernel_rfl)) S0 ?_
            refine held_take (i := 8) (v := .slice (some ⟨bd, od, none⟩) ds.length cap) (some 56) rfl rfl (by kernel_rfl) (by kernel_rfl) (by kernel_rfl) (fun _ _ _ h => h) (yieldsIf_cell (by kernel_rfl) rfl (by kernel_rfl) (fun W h => hloadS W h.out.1)) S0 ?_
            refine held_take (i := 9) (v := .int .i64 (q : Int)) (some 57) rfl rfl (by kernel_rfl) (by kernel_rfl) (by kernel_rfl) (fun _ _ _ h => h) (yieldsIf_move (by kernel_rfl) rfl (by kernel_rfl)) S0 ?_
            refine held_take (i := 10) (v := .pointer (some ⟨bd, od + q, none⟩)) (some 58) rfl rfl (by kernel_rfl) (by kernel_rfl) (by kernel_rfl) (fun _ _ _ h => h) (yieldsIf_run (by kernel_rfl) (fun W _ => by go_simp)) S0 ?_
            refine held_take (i := 11) (v := .int .i64 (cq : Int)) (some 59) rfl rfl (by kernel_rfl) (by kernel_rfl) (by kernel_rfl) (fun _ _ _ h => h) (yieldsIf_cell (by kernel_rfl) rfl (by kernel_rfl) (fun W h => hload W h.out.2.2.1)) S0 ?_
            refine held_enter (i := 12) (some 60) (f := 126) (args := #[.slice at' tn ct, .int .i64 (cq : Int)]) (by kernel_rfl) rfl rfl rfl (by kernel_rfl) (l01Flip_any cq _ t _ HRT.out HTL.out HCQ.out HTR.out) ?_ (fun c w' h => by obtain ⟨_, h, _⟩ := h; cases h) (fun w' h => by obtain ⟨_, h, _⟩ := h; cases h)
            rintro e4 w4 ⟨u4, he4, hg4, hb4⟩
            injection he4 with he4
            subst he4
            obtain ⟨a4, cc4, hus⟩ := Sl.shape hg4.l2
            rw [flipT_length] at hus
            subst hus
            have S4 : Hid (w4.cell? ⟨w.heap.size, 1, none⟩ = some (.slice (some ⟨bd, od, none⟩) ds.length cap) ∧ w4.cell? ⟨w.heap.size, 2, none⟩ = some (.slice (some ⟨bm, om, none⟩) ms.length capm) ∧ w4.cell? ⟨bd, od + q, none⟩ = some (.int .i64 (cq : Int)) ∧ w4.cell? ⟨bm, om + q, none⟩ = some (.slice at' tn ct) ∧ w4.cell? ⟨g, 2, none⟩ = some (.slice a2 k2 cc2)) := Lib.hid (HNX.out _ hb4)
            refine ⟨S4, ?_⟩
            obtain ⟨we, hwe⟩ : ∃ we, we = w4.alloc (.cells #[.slice a4 cq cc4] 41) := ⟨_, rfl⟩
            have hbe : Below w4.heap.size w4 we := by rw [hwe]; exact below_alloc1 _ _
            have hve : we.cell? ⟨w4.heap.size, 0, none⟩ = some (.slice a4 cq cc4) := by rw [hwe]; simp
            have hbw : Below wd.heap.size wd we := hb4.trans (hbe.mono hb4.size)
            have hye : Gs 0 we (.slice a4 cq cc4) (flipT cq t) := (show Gs 0 w4 (.slice a4 cq cc4) (flipT cq t) from hg4).below hbe
            have S1 : Hid (we.cell? ⟨w.heap.size, 1, none⟩ = some (.slice (some ⟨bd, od, none⟩) ds.length cap) ∧ we.cell? ⟨w.heap.size, 2, none⟩ = some (.slice (some ⟨bm, om, none⟩) ms.length capm) ∧ we.cell? ⟨bd, od + q, none⟩ = some (.int .i64 (cq : Int)) ∧ we.cell? ⟨bm, om + q, none⟩ = some (.slice at' tn ct) ∧ we.cell? ⟨g, 2, none⟩ = some (.slice a2 k2 cc2)) := Lib.hid (HNX.out _ hbw)
            have HSE := Lib.hid (HSD2.out.next hbw)
            have hse : wd.heap.size ≤ we.heap.size := hbw.size
            refine held_mem (i := 13) (v := .slice (some ⟨w4.heap.size, 0, none⟩) 1 1) (w' := we) (some 61) (by kernel_rfl) rfl rfl rfl (by rw [hwe]; go_simp) S1 ?_
            simp only [Act.put, List.setIfInBounds_toArray, List.set_cons_zero, List.set_cons_succ]
            refine held_call (i := 14) (by kernel_rfl) rfl rfl ?_
            refine wp_appendT1 (some 62) rfl (.tmp 49) (.tmp 61) rfl w1.heap.size (.slice a2 k2 cc2) ((dualM ds ms).take k2) (by kernel_rfl) HSE.out.maps w4.heap.size (by kernel_rfl) a4 cq cc4 hve (flipT cq t) hye (by have := HKL.out; omega) (by omega) ?_
            rw [HKL.out]
            intro g9 c9 w9 hn hgw
            have HS9 : Hid (Sd w1 (w9.setCell ⟨g, 2, none⟩ (.slice (some ⟨g9, 0, none⟩) (k2 + 1) c9)) g p (.slice a1 ds.length cc1) (.slice (some ⟨g9, 0, none⟩) (k2 + 1) c9) (dualD ds) ((dualM ds ms).take (k2 + 1))) := Lib.hid (by rw [HXE.out]; exact HSE.out.stepM hgw hn)
            have hbg := (Below.refl w1.heap.size we).grown hgw (Nat.le_trans hw1d hse) (fun g hg => (HSE.out.maps.lt g hg).1)
            obtain ⟨vs9, ho9, _⟩ := HSE.out.maps
            have hrb := row_grown HSE.out.box ho9 coT.2.2 hgw
            have z1 : w9.cell? ⟨g, 2, none⟩ = some (.slice a2 k2 cc2) := hrb.cell (i := 2) (by omega)
            have z2 : w9.frozen? ⟨g, 2, none⟩ = false := hrb.frozen 2
            have S2 : Hid (w9.cell? ⟨w.heap.size, 1, none⟩ = some (.slice (some ⟨bd, od, none⟩) ds.length cap) ∧ w9.cell? ⟨w.heap.size, 2, none⟩ = some (.slice (some ⟨bm, om, none⟩) ms.length capm) ∧ w9.cell? ⟨bd, od + q, none⟩ = some (.int .i64 (cq : Int)) ∧ w9.cell? ⟨bm, om + q, none⟩ = some (.slice at' tn ct) ∧ w9.cell? ⟨g, 2, none⟩ = some (.slice a2 k2 cc2)) := Lib.hid ⟨(hbg.cell (p := ⟨w.heap.size, 1, none⟩) (by show w.heap.size < _; omega)).trans S1.out.1, (hbg.cell (p := ⟨w.heap.size, 2, none⟩) (by show w.heap.size < _; omega)).trans S1.out.2.1, (hbg.cell (p := ⟨bd, od + q, none⟩) hbd).trans S1.out.2.2.1, (hbg.cell (p := ⟨bm, om + q, none⟩) hbm).trans S1.out.2.2.2.1, z1⟩
            clear hn hgw hrb hbg ho9
            refine ⟨S2, ?_⟩
            refine held_take (i := 15) (v := .pointer (some ⟨g, 2, none⟩)) (some 63) rfl rfl (by kernel_rfl) (by kernel_rfl) (by kernel_rfl) (fun _ _ _ h => h) (yieldsIf_run (by kernel_rfl) (fun W _ => by kernel_rfl)) S2 ?_
            refine held_none (i := 16) (v := .bool false) rfl rfl (by kernel_rfl) (by kernel_rfl) (by kernel_rfl) (fun _ _ _ h => h) (yieldsIf_move (by kernel_rfl) rfl (by kernel_rfl)) S2 ?_
            refine wpAnyH_done (by kernel_rfl) (lastQ_of rfl (by kernel_rfl) ?_) _
            simp only [Act.put, List.setIfInBounds_toArray, List.set_cons_zero, List.set_cons_succ]
            clear S0 S1 S2 S4 hve hwe hwd hg4 hb4 hye HNX HRT
            go_simp
            go_wp2
            go_roundw
            case rel => exact ⟨k2 + 1, _, _, by omega, by go_num, HS9⟩
            case measure => simp [intOf]; omega
          · have hkk : k2 = ms.length := by omega
            subst hkk
            have HF : Hid (Sd w1 wr g p (.slice a1 ds.length cc1) (.slice a2 ms.length cc2) (dualD ds) (dualM ds ms)) := Lib.hid (by have := HS.out; rwa [List.take_of_length_le (by rw [dualM_length]; exact Nat.le_refl _)] at this)
            clear HS
            have g0 : wr.cell? ⟨g, 0, none⟩ = some (.int .i64 p) := HF.out.box.cell (i := 0) (by omega)
            have g1 : wr.cell? ⟨g, 1, none⟩ = some (.slice a1 ds.length cc1) := HF.out.box.cell (i := 1) (by omega)
            have g2 : wr.cell? ⟨g, 2, none⟩ = some (.slice a2 ms.length cc2) := HF.out.box.cell (i := 2) (by omega)
            obtain ⟨x, y, z, hr⟩ := HR0.out
            have hrow : wr.rowIs (w.heap.size + 1) 28 3 (sel3 x y z) := rowIs3 (by rw [HF.out.below.block (w.heap.size + 1) (by omega)]; exact hr)
            have q0 : wr.cell? ⟨w.heap.size + 1, 0, none⟩ = some x := hrow.cell (i := 0) (by omega)
            have z0 : wr.frozen? ⟨w.heap.size + 1, 0, none⟩ = false := hrow.frozen 0
            have r1 := hrow.set 0 (.int .i64 p)
            have q1 : (wr.setCell ⟨w.heap.size + 1, 0, none⟩ (.int .i64 p)).cell? ⟨w.heap.size + 1, 1, none⟩ = some y := r1.cell (i := 1) (by omega)
            have z1 : (wr.setCell ⟨w.heap.size + 1, 0, none⟩ (.int .i64 p)).frozen? ⟨w.heap.size + 1, 1, none⟩ = false := r1.frozen 1
            have r2 := r1.set 1 (.slice a1 ds.length cc1)
            have q2 : ((wr.setCell ⟨w.heap.size + 1, 0, none⟩ (.int .i64 p)).setCell ⟨w.heap.size + 1, 1, none⟩ (.slice a1 ds.length cc1)).cell? ⟨w.heap.size + 1, 2, none⟩ = some z := r2.cell (i := 2) (by omega)
            have z2 : ((wr.setCell ⟨w.heap.size + 1, 0, none⟩ (.int .i64 p)).setCell ⟨w.heap.size + 1, 1, none⟩ (.slice a1 ds.length cc1)).frozen? ⟨w.heap.size + 1, 2, none⟩ = false := r2.frozen 2
            have r3 := r2.set 2 (.slice a2 ms.length cc2)
            obtain ⟨WF, hWF⟩ : ∃ W : World, W = ((wr.setCell ⟨w.heap.size + 1, 0, none⟩ (.int .i64 p)).setCell ⟨w.heap.size + 1, 1, none⟩ (.slice a1 ds.length cc1)).setCell ⟨w.heap.size + 1, 2, none⟩ (.slice a2 ms.length cc2) := ⟨_, rfl⟩
            have HGF : Hid (Gb w1.heap.size WF (.slice a1 ds.length cc1) (dualD ds) ∧ Gt w1.heap.size WF (.slice a2 ms.length cc2) (dualM ds ms)) := Lib.hid (by
              rw [hWF]
              exact ⟨((HF.out.dims.off hrow coT.1 _ _).off r1 coT.1 _ _).off r2 coT.1 _ _, ((HF.out.maps.off hrow coT _ _).off r1 coT _ _).off r2 coT _ _⟩)
            rw [← hWF] at r3
            have f0 : WF.cell? ⟨w.heap.size + 1, 0, none⟩ = some (.int .i64 p) := r3.cell (i := 0) (by omega)
            have f1 : WF.cell? ⟨w.heap.size + 1, 1, none⟩ = some (.slice a1 ds.length cc1) := r3.cell (i := 1) (by omega)
            have f2 : WF.cell? ⟨w.heap.size + 1, 2, none⟩ = some (.slice a2 ms.length cc2) := r3.cell (i := 2) (by omega)
            have HB : Hid (Below w.heap.size w WF) := Lib.hid (by
              rw [hWF]
              exact (((HX1.out.below.trans (HF.out.below.mono (by omega))).setCell (by show w.heap.size ≤ w.heap.size + 1; omega) _).setCell (by show w.heap.size ≤ w.heap.size + 1; omega) _).setCell (by show w.heap.size ≤ w.heap.size + 1; omega) _)
            have HWF := Lib.hid hWF
            clear hr hrow r1 r2 r3 hWF
            go_wp2
            rw [← HWF.out]
            refine bodyPost_ret (v := .tuple #[.agg #[.int .i64 p, .slice a1 ds.length cc1, .slice a2 ms.length cc2], .int .i64 0]) ?_ rfl ?_
            · simp only [results, HRES.out]
              go_simp
            · refine ⟨_, (p, dualD ds, dualM ds ms), 0, rfl, ⟨a1, cc1, a2, cc2, ?_, ?_⟩, HB.out, RsOut.of_yes HCODE.out rfl⟩
              · dsimp only
                rw [dualD_length, dualM_length]
              · dsimp only
                rw [dualD_length, dualM_length]
                exact ⟨HGF.out.1.l1, HGF.out.2.l3⟩
  · have HCODE : Hid (coCode p ds ms = 1) := Lib.hid (by unfold coCode; rw [if_neg hc])
    have HX0 := Lib.hid ((Bx.start (p := p) 28 h).next ((Below.refl _ _).alloc (Nat.le_refl _) (.cells #[.int .i64 0, .slice none 0 0, .slice none 0 0] 28)))
    have HCX := Lib.hid hc
    have HM := Lib.hid hm
    have hres : Try.f61.results = #[.cell 2 28, .tmp 3] := by kernel_rfl
    have HRES := Lib.hid hres
    clear hres h hm hc
    go_enter Try.func61, Try.ntmps61
    go_wp2_with fail
    refine (l01Is_any p _ _ ds ms _ HX0.out.cx hd HM.out).mono ?_
    rintro e w1 ⟨bb, rfl, hb1, hbb⟩
    obtain rfl : bb = false := bb_no hbb HCX.out
    have HX1 := Lib.hid (HX0.out.next hb1)
    have hsz1 : w.heap.size + 2 ≤ w1.heap.size := by have := hb1.size; simpa using this
    have hr0 : ∃ x y z, w1.heap[w.heap.size + 1]? = some (.cells #[x, y, z] 28) := ⟨_, _, _, by rw [hb1.block (w.heap.size + 1) (by simp)]; have := heap_alloc_new (w.alloc (.cells #[.int .i64 p, .slice ad ds.length cap, .slice am ms.length capm] 28)) (.cells #[.int .i64 0, .slice none 0 0, .slice none 0 0] 28); simpa using this⟩
    obtain ⟨x, y, z, hr⟩ := hr0
    have hrow : w1.rowIs (w.heap.size + 1) 28 3 (sel3 x y z) := rowIs3 hr
    have q0 : w1.cell? ⟨w.heap.size + 1, 0, none⟩ = some x := hrow.cell (i := 0) (by omega)
    have z0 : w1.frozen? ⟨w.heap.size + 1, 0, none⟩ = false := hrow.frozen 0
    have r1 := hrow.set 0 (.int .i64 0)
    have q1 : (w1.setCell ⟨w.heap.size + 1, 0, none⟩ (.int .i64 0)).cell? ⟨w.heap.size + 1, 1, none⟩ = some y := r1.cell (i := 1) (by omega)
    have z1 : (w1.setCell ⟨w.heap.size + 1, 0, none⟩ (.int .i64 0)).frozen? ⟨w.heap.size + 1, 1, none⟩ = false := r1.frozen 1
    have r2 := r1.set 1 (.slice none 0 0)
    have q2 : ((w1.setCell ⟨w.heap.size + 1, 0, none⟩ (.int .i64 0)).setCell ⟨w.heap.size + 1, 1, none⟩ (.slice none 0 0)).cell? ⟨w.heap.size + 1, 2, none⟩ = some z := r2.cell (i := 2) (by omega)
    have z2 : ((w1.setCell ⟨w.heap.size + 1, 0, none⟩ (.int .i64 0)).setCell ⟨w.heap.size + 1, 1, none⟩ (.slice none 0 0)).frozen? ⟨w.heap.size + 1, 2, none⟩ = false := r2.frozen 2
    have r3 := r2.set 2 (.slice none 0 0)
    obtain ⟨WF, hWF⟩ : ∃ W : World, W = ((w1.setCell ⟨w.heap.size + 1, 0, none⟩ (.int .i64 0)).setCell ⟨w.heap.size + 1, 1, none⟩ (.slice none 0 0)).setCell ⟨w.heap.size + 1, 2, none⟩ (.slice none 0 0) := ⟨_, rfl⟩
    rw [← hWF] at r3
    have f0 : WF.cell? ⟨w.heap.size + 1, 0, none⟩ = some (.int .i64 0) := r3.cell (i := 0) (by omega)
    have f1 : WF.cell? ⟨w.heap.size + 1, 1, none⟩ = some (.slice none 0 0) := r3.cell (i := 1) (by omega)
    have f2 : WF.cell? ⟨w.heap.size + 1, 2, none⟩ = some (.slice none 0 0) := r3.cell (i := 2) (by omega)
    have HB : Hid (Below w.heap.size w WF) := Lib.hid (by
      rw [hWF]
      exact ((HX1.out.below.setCell (by show w.heap.size ≤ w.heap.size + 1; omega) _).setCell (by show w.heap.size ≤ w.heap.size + 1; omega) _).setCell (by show w.heap.size ≤ w.heap.size + 1; omega) _)
    have HWF := Lib.hid hWF
    clear hr hrow r1 r2 r3 hWF hb1 hbb
    go_wp2
    rw [← HWF.out]
    refine bodyPost_ret (v := .tuple #[.agg #[.int .i64 0, .slice none 0 0, .slice none 0 0], .int .i64 1]) ?_ rfl ?_
    · simp only [results, HRES.out]
      go_simp
    · refine ⟨_, (0, [], []), 1, rfl, RsC.nil _, HB.out, ?_⟩
      rw [HCODE.out]
      exact RsOut.of_no (by decide)
end Go.Proofs.Ytpdkfidmmjlmnaa
