/-
  ApplyFamily of the program, by contracts.
-/
import Derived.Test.YtpdkfidmmjlmnabApg
import Derived.Test.YtpdkfidmmjlmnabQk
namespace Go.Proofs.Ytpdkfidmmjlmnab
open Go.RowKit

set_option maxHeartbeats 3200000 in
set_option maxRecDepth 100000 in
theorem applyFamily_any (p p2 n : Int) (dv mv dv2 mv2 fv vv : Value) (ds : List Int) (ms : List (List (List Int))) (ds2 : List Int) (ms2 : List (List (List Int))) (fs : List (List (List Int))) (vs : List Int) (w : World) (h : Cx 0 w dv mv ds ms) (h2 : Cx 0 w dv2 mv2 ds2 ms2) (hf : L3 0 w fv fs) (hv : L1 0 w vv vs) (hd : ds.length ≤ 1048576) (hm : Bd3 1048576 ms) (hd2 : ds2.length ≤ 1048576) (hm2 : Bd3 1048576 ms2) (hmf : Bd3 1048576 fs) (hmv : vs.length ≤ 1048576) :
    Calls Try.prog 52 #[.agg #[.int .i64 p, dv, mv], .agg #[.int .i64 p2, dv2, mv2], fv, .int .i64 n, vv] w (AnsW Rw1 (ApFam p ds2 fs n vs) [] (apCode p p2 n ds ms ds2 ms2 fs vs) w) := by
  obtain ⟨ad, cap, rfl⟩ := Sl.shape h.dims
  obtain ⟨am, capm, rfl⟩ := Sl.shape h.maps
  obtain ⟨ad2, cap2, rfl⟩ := Sl.shape h2.dims
  obtain ⟨am2, capm2, rfl⟩ := Sl.shape h2.maps
  obtain ⟨af, cf, rfl⟩ := Sl.shape hf
  obtain ⟨av, cv, rfl⟩ := Sl.shape hv
  obtain ⟨k1, k2⟩ := bx_two (p := p) (p2 := p2) 31 h h2
  have HX0 := Lib.hid k1
  have HY0 := Lib.hid k2
  obtain ⟨w1, hw1⟩ : ∃ w1, w1 = ((w.alloc (.cells #[.int .i64 p, .slice ad ds.length cap, .slice am ms.length capm] 31)).alloc (.cells #[.int .i64 p2, .slice ad2 ds2.length cap2, .slice am2 ms2.length capm2] 31)) := ⟨_, rfl⟩
  rw [← hw1] at HX0 HY0
  have hb01 : Below w.heap.size w w1 := HX0.out.below
  have HF0 := Lib.hid (hf.below hb01)
  have HNX : Hid (∀ W, Below w1.heap.size w1 W → Bx w W w.heap.size p (.slice ad ds.length cap) (.slice am ms.length capm) ds ms) := Lib.hid (fun W h => HX0.out.next h)
  have HNY : Hid (∀ W, Below w1.heap.size w1 W → Bx w W (w.heap.size + 1) p2 (.slice ad2 ds2.length cap2) (.slice am2 ms2.length capm2) ds2 ms2) := Lib.hid (fun W h => HY0.out.next h)
  have HV0 := Lib.hid (hv.below hb01)
  have HM := Lib.hid hm
  have HMF := Lib.hid hmf
  have c0 := HX0.out.c0
  have c1 := HX0.out.c1
  have c2 := HX0.out.c2
  have d0 := HY0.out.c0
  have d1 := HY0.out.c1
  have d2 := HY0.out.c2
  obtain ⟨w2, hw2⟩ : ∃ w2, w2 = w1.alloc (.cells #[.slice af fs.length cf] 23) := ⟨_, rfl⟩
  have hr2 : w2.cell? ⟨w1.heap.size, 0, none⟩ = some (.slice af fs.length cf) := by rw [hw2]; simp
  have hb2 : Below w1.heap.size w1 w2 := by rw [hw2]; exact below_alloc1 _ _
  have HB2 := Lib.hid hb2
  have HCK := Lib.hid (checkFamilies1_any p p2 0 w1.heap.size _ _ _ _ _ ds ms ds2 ms2 fs w2 (HNX.out _ hb2).cx (HNY.out _ hb2).cx (HF0.out.below hb2) hr2 ⟨by omega, by omega⟩ hd hm hd2 hm2 hmf)
  obtain ⟨ec, hec⟩ : ∃ ec, ec = famCode p p2 0 ds ms ds2 ms2 fs := ⟨_, rfl⟩
  rw [← hec] at HCK
  have HEC := Lib.hid hec
  clear h h2 hf hv hm hm2 hmf k1 k2 hr2 hb2 hb01 hec
  go_enter Try.func52, Try.ntmps52
  go_upto_region 1 with fail
  rw [← hw1]
  clear hw1
  go_wp2_with fail
  rw [← hw2]
  clear hw2
  refine HCK.out.mono ?_
  rintro e w3 ⟨rfl, hb3⟩
  have HB3 := Lib.hid (HB2.out.trans (hb3.mono HB2.out.size))
  have HX3 := Lib.hid (HNX.out _ HB3.out)
  have HY3 := Lib.hid (HNY.out _ HB3.out)
  clear hb3 c0 c1 c2 d0 d1 d2 HX0 HY0 HCK HB2
  by_cases h0 : ec = 0
  · subst h0
    have hfz := famCode_zero HEC.out.symm
    have HE := Lib.hid hfz.1
    have HFO := Lib.hid hfz.2
    have hl6 := hfz.1.x.1.len1
    have hpp := hfz.1.prime
    subst hpp
    have c0 := HX3.out.c0
    have c1 := HX3.out.c1
    have c2 := HX3.out.c2
    by_cases hv : VecOk p ds n vs
    · have hr := hv.1
      obtain ⟨k, rfl⟩ := Int.eq_ofNat_of_zero_le hr.1
      have hkd : k < ds.length := by omega
      have HNT : Hid ((k : Int).toNat = k) := Lib.hid (Int.toNat_natCast k)
      have HDK : Hid (dimZ ds (k : Int) = ds.getD k 0) := Lib.hid (by rw [dimZ_in rfl hkd, getD_of_lt 0 hkd])
      have HROW : Hid (RowOk p (ds.getD k 0) vs) := Lib.hid (by rw [← HDK.out]; exact hv.2)
      have HVO := Lib.hid hv
      obtain ⟨cn2, hcn2⟩ := Int.eq_ofNat_of_zero_le (dimZ_b HE.out.y (k : Int)).1
      have hcn8 : cn2 ≤ 8 := by have := (dimZ_b HE.out.y (k : Int)).2; omega
      have HCN := Lib.hid hcn2
      have hap := fam_ap (c2 := cn2) HE.out.x.1.prime HFO.out hkd HROW.out (by rw [Int.add_zero]; exact hcn2)
      have HAP := Lib.hid hap.1
      have hkf := hap.2
      have HCODE : Hid (apCode p p (k : Int) ds ms ds2 ms2 fs vs = 0) := Lib.hid (by
        unfold apCode
        rw [if_pos HEC.out.symm, if_pos ⟨hr, by rw [HNT.out]; exact HROW.out⟩])
      have HVC := Lib.hid (isVector_any p (k : Int) _ _ _ ds ms vs w3 HX3.out.cx (HV0.out.below HB3.out) HE.out.x.1.prime hd hmv)
      clear hv hr hap hcn2 hfz
      go_wp2_with fail
      refine HVC.out.mono ?_
      rintro e w4 ⟨bb, rfl, hb4, hbb⟩
      obtain rfl : bb = true := hbb.2 HVO.out
      have HB4 := Lib.hid hb4
      clear hb4 hbb HVC
      have HX4 := Lib.hid (HX3.out.next HB4.out)
      have HY4 := Lib.hid (HY3.out.next HB4.out)
      have HB14 := Lib.hid (HB3.out.trans (HB4.out.mono HB3.out.size))
      have HLD := Lib.hid (lead_any p 0 k cn2 _ _ _ _ ds2 ms2 fs vs w4 HY4.out.cx (HF0.out.below HB14.out) (HV0.out.below HB14.out) HE.out.y hkf (by omega) ⟨by omega, by omega⟩ (by rw [Int.add_zero]; exact HCN.out) HAP.out HMF.out.1 hmv)
      clear c0 c1 c2
      have d0 := HY4.out.c0
      have d1 := HY4.out.c1
      have d2 := HY4.out.c2
      go_wp2_with fail
      refine HLD.out.mono ?_
      rintro e w6 ⟨u6, rfl, hw6, hb6⟩
      have HW6 := Lib.hid hw6
      have HX6 := Lib.hid (HX4.out.next hb6)
      have hs4 := HX4.out.below.size
      obtain ⟨au, cu, hus⟩ := Sl.shape hw6.l1
      rw [apT_length' HAP.out] at hus
      subst hus
      clear hb6 hw6 d0 d1 d2 HLD
      have HFD : Hid ((Instr.field 118 (.agg #[.int .i64 (k : Int), .slice au cn2 cu]) 1).run Try.prog w6 = .ok (.slice au cn2 cu) w6) := Lib.hid (by kernel_rfl)
      go_wp2
      rw [HFD.out]
      go_wp2
      go_ret2
      refine ⟨.slice au cn2 cu, apT p cn2 vs (fs.getD k []), 0, rfl, (w1_rw1 HW6.out (by rw [apT_length' HAP.out]; omega)).wider hs4 (Nat.le_refl _), HX6.out.below, RsOut.of_yes HCODE.out ?_⟩
      unfold ApFam
      rw [HCN.out, HNT.out]
      rfl
    · have HNV := Lib.hid hv
      have HCODE : Hid (apCode p p n ds ms ds2 ms2 fs vs = 2) := Lib.hid (by
        unfold apCode
        rw [if_pos HEC.out.symm, if_neg (fun hh => hv ⟨hh.1, by
          obtain ⟨k, rfl⟩ := Int.eq_ofNat_of_zero_le hh.1.1
          have hkd : k < ds.length := by have := hh.1.2; omega
          have h2 := hh.2
          rw [Int.toNat_natCast] at h2
          rw [dimZ_in rfl hkd, ← getD_of_lt 0 hkd]; exact h2⟩)])
      have HVC := Lib.hid (isVector_any p n _ _ _ ds ms vs w3 HX3.out.cx (HV0.out.below HB3.out) HE.out.x.1.prime hd hmv)
      clear hv hfz
      go_wp2_with fail
      refine HVC.out.mono ?_
      rintro e w4 ⟨bb, rfl, hb4, hbb⟩
      obtain rfl : bb = false := bb_no hbb HNV.out
      have HX4 := Lib.hid (HX3.out.next hb4)
      clear hb4 hbb HVC c0 c1 c2
      go_wp2
      go_ret2
      refine ⟨_, [], 2, rfl, Rw1.nil _ _ _, HX4.out.below, ?_⟩
      rw [HCODE.out]
      exact RsOut.of_no (by decide)
  · have hne2 : (ec != 0) = true := by simp [h0]
    have hne3 : (ec == 0) = false := by simp [h0]
    have HNE := Lib.hid h0
    have HCODE : Hid (apCode p p2 n ds ms ds2 ms2 fs vs = ec) := Lib.hid (by unfold apCode; rw [← HEC.out, if_neg h0])
    clear h0
    go_wp2
    go_ret2
    refine ⟨_, [], ec, rfl, Rw1.nil _ _ _, HX3.out.below, ?_⟩
    rw [HCODE.out]
    exact RsOut.of_no HNE.out
end Go.Proofs.Ytpdkfidmmjlmnab
