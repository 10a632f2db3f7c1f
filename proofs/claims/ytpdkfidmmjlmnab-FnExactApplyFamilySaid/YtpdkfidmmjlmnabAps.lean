/-
  ApplyFamily of the model, by contracts.
-/
import Derived.Test.YtpdkfidmmjlmnabApg
import Derived.Test.YtpdkfidmmjlmnabTr5
import Derived.Carry
namespace Go.Proofs.Ytpdkfidmmjlmnab
open Go.RowKit
theorem dimZ_at {ds : List Int} {k : Nat} (h : k < ds.length) : dimZ ds (k : Int) = ds.getD k 0 := by
  unfold dimZ
  rw [if_pos ⟨by omega, by omega⟩, Int.toNat_natCast]
theorem apFam_len {p p2 n : Int} {ds : List Int} {ms : List (List (List Int))} {ds2 : List Int} {ms2 : List (List (List Int))} {fs : List (List (List Int))} {vs out : List Int} (h : apCode p p2 n ds ms ds2 ms2 fs vs = 0) (ha : ApFam p ds2 fs n vs out) : out.length ≤ 1048576 := by
  obtain ⟨hE, hF, hr, hv⟩ := apCode_zero h
  obtain ⟨k, rfl⟩ : ∃ k : Nat, n = (k : Int) := ⟨n.toNat, by omega⟩
  rw [Int.toNat_natCast] at hv
  obtain ⟨c2, hc2⟩ := Int.eq_ofNat_of_zero_le (dimZ_b hE.y (k : Int)).1
  have h8 := (dimZ_b hE.y (k : Int)).2
  have hap := (fam_ap (c2 := c2) hE.x.1.prime hF (by omega) hv (by rw [Int.add_zero]; exact hc2)).1
  unfold ApFam at ha
  rw [ha, hc2, Int.toNat_natCast]
  show (apT p c2 vs (fs.getD k [])).length ≤ 1048576
  rw [apT_length' hap]
  omega
set_option maxHeartbeats 3200000 in
set_option maxRecDepth 100000 in
theorem spApplyFamily_any (p p2 n : Int) (dv mv dv2 mv2 fv vv : Value) (ds : List Int) (ms : List (List (List Int))) (ds2 : List Int) (ms2 : List (List (List Int))) (fs : List (List (List Int))) (vs : List Int) (w : World) (h : Cx 0 w dv mv ds ms) (h2 : Cx 0 w dv2 mv2 ds2 ms2) (hf : L3 0 w fv fs) (hv : L1 0 w vv vs) (hd : ds.length ≤ 1048576) (hm : Bd3 1048576 ms) (hd2 : ds2.length ≤ 1048576) (hm2 : Bd3 1048576 ms2) (hmf : Bd3 1048576 fs) (hmv : vs.length ≤ 1048576) :
    Calls Try.prog 48 #[.agg #[.int .i64 p, dv, mv], .agg #[.int .i64 p2, dv2, mv2], fv, .int .i64 n, vv] w (AnsS (L1 0) (ApFam p ds2 fs n vs) [] (apCode p p2 n ds ms ds2 ms2 fs vs) w) := by
  obtain ⟨ad, cap, rfl⟩ := Sl.shape h.dims
  obtain ⟨am, capm, rfl⟩ := Sl.shape h.maps
  obtain ⟨ad2, cap2, rfl⟩ := Sl.shape h2.dims
  obtain ⟨am2, capm2, rfl⟩ := Sl.shape h2.maps
  obtain ⟨af, cf, rfl⟩ := Sl.shape hf
  obtain ⟨av, cv, rfl⟩ := Sl.shape hv
  obtain ⟨k1, k2⟩ := bx_two (p := p) (p2 := p2) 31 h h2
  have HX0 := Lib.hid k1
  have HY0 := Lib.hid k2
  obtain ⟨w1, hw1⟩ : ∃ w1, w1 = ((w.alloc (.cells #[.int .i64 p, .slice ad ds.length cap, .slice am ms.length capm] 31)).alloc (.cells #[.int .i64 p2, .slice ad2 ds2.length cap2, .slice am2 ms2.length capm2] 31)) := ⟨_, rfl⟩
  rw [← hw1] at HX0 HY0
  have hb01 : Below w.heap.size w w1 := HX0.out.below
  have HF0 := Lib.hid (hf.below hb01)
  have HNX : Hid (∀ W, Below w1.heap.size w1 W → Bx w W w.heap.size p (.slice ad ds.length cap) (.slice am ms.length capm) ds ms) := Lib.hid (fun W h => HX0.out.next h)
  have HNY : Hid (∀ W, Below w1.heap.size w1 W → Bx w W (w.heap.size + 1) p2 (.slice ad2 ds2.length cap2) (.slice am2 ms2.length capm2) ds2 ms2) := Lib.hid (fun W h => HY0.out.next h)
  have HV0 := Lib.hid (hv.below hb01)
  have c0 := HX0.out.c0
  have c1 := HX0.out.c1
  have c2 := HX0.out.c2
  have d0 := HY0.out.c0
  have d1 := HY0.out.c1
  have d2 := HY0.out.c2
  obtain ⟨w2, hw2⟩ : ∃ w2, w2 = w1.alloc (.cells #[.slice af fs.length cf] 23) := ⟨_, rfl⟩
  have hr2 : w2.cell? ⟨w1.heap.size, 0, none⟩ = some (.slice af fs.length cf) := by rw [hw2]; simp
  have hb2 : Below w1.heap.size w1 w2 := by rw [hw2]; exact below_alloc1 _ _
  have HB2 := Lib.hid hb2
  have HCK := Lib.hid (l04Code1_any p p2 w1.heap.size _ _ _ _ _ ds ms ds2 ms2 fs w2 (HNX.out _ hb2).cx (HNY.out _ hb2).cx (HF0.out.below hb2) hr2 hd hm hd2 hm2 hmf)
  obtain ⟨ec, hec⟩ : ∃ ec, ec = famCode p p2 0 ds ms ds2 ms2 fs := ⟨_, rfl⟩
  rw [← hec] at HCK
  have HEC := Lib.hid hec
  clear h h2 hf hv hm hm2 hmf k1 k2 hr2 hb2 hb01 hec
  go_enter Try.func48, Try.ntmps48
  go_upto_region 1 with fail
  rw [← hw1]
  clear hw1
  go_wp2_with fail
  rw [← hw2]
  clear hw2
  refine HCK.out.mono ?_
  rintro e w3 ⟨rfl, hb3⟩
  have HB3 := Lib.hid (HB2.out.trans (hb3.mono HB2.out.size))
  have HX3 := Lib.hid (HNX.out _ HB3.out)
  have HY3 := Lib.hid (HNY.out _ HB3.out)
  clear hb3 c0 c1 c2 d0 d1 d2 HX0 HY0 HCK HB2
  have hl20 : ds.length ≤ 1048576 := hd
  have c0 := HX3.out.c0
  have c1 := HX3.out.c1
  have c2 := HX3.out.c2
  by_cases h0 : ec = 0
  · subst h0
    have hfz := famCode_zero HEC.out.symm
    have HE := Lib.hid hfz.1
    have HFO := Lib.hid hfz.2
    have hl6 := hfz.1.x.1.len1
    have hpp := hfz.1.prime
    subst hpp
    have hwk : IntKind.i64.wrap ((ds.length : Int) - 1) = (ds.length : Int) - 1 := IntWalk.i64_in _ (by omega)
    by_cases hr : 0 ≤ n ∧ n ≤ (ds.length : Int) - 1
    · have HR := Lib.hid hr
      obtain ⟨k, rfl⟩ : ∃ k : Nat, n = (k : Int) := ⟨n.toNat, by omega⟩
      have hkd : k < ds.length := by omega
      have HDZ := Lib.hid (dimZ_at hkd)
      have HNT : Hid ((k : Int).toNat = k) := Lib.hid (Int.toNat_natCast k)
      have HVC : Hid (∀ W, Below w3.heap.size w3 W → Calls Try.prog 118 #[.agg #[.int .i64 p, .slice ad ds.length cap, .slice am ms.length capm], .int .i64 (k : Int), .slice av vs.length cv] W (BB (RowOk p (dimZ ds (k : Int)) vs) W)) := Lib.hid (fun W h => l04Vector_any p (k : Int) _ _ _ ds ms vs W (HX3.out.next h).cx (HV0.out.below (HB3.out.trans (h.mono HB3.out.size))) HE.out.x hmv)
      clear hr
      by_cases hrow : RowOk p (ds.getD k 0) vs
      · obtain ⟨cn2, hcn2⟩ := Int.eq_ofNat_of_zero_le (dimZ_b HE.out.y (k : Int)).1
        have hcn8 : cn2 ≤ 8 := by have := (dimZ_b HE.out.y (k : Int)).2; omega
        have HCN := Lib.hid hcn2
        have hap := fam_ap (c2 := cn2) HE.out.x.1.prime HFO.out hkd hrow (by rw [Int.add_zero]; exact hcn2)
        have HAP := Lib.hid hap.1
        have hkf := hap.2
        have HCODE : Hid (apCode p p (k : Int) ds ms ds2 ms2 fs vs = 0) := Lib.hid (by
          unfold apCode
          rw [if_pos HEC.out.symm, if_pos ⟨HR.out, by rw [HNT.out]; exact hrow⟩])
        have HROW := Lib.hid hrow
        clear hrow hap hcn2 hfz
        go_wp2_with fail
        refine (spin_yes HR.out _).mono ?_
        rintro e w' ⟨rfl, rfl⟩
        go_wp2_with fail
        refine (HVC.out _ (Below.refl _ _)).mono ?_
        rintro e w4 ⟨b, rfl, hb4, hbi⟩
        have hbt : b = true := hbi.2 (by rw [HDZ.out]; exact HROW.out)
        subst hbt
        have HX4 := Lib.hid (HX3.out.next hb4)
        have HY4 := Lib.hid (HY3.out.next hb4)
        have HB14 := Lib.hid (HB3.out.trans (hb4.mono HB3.out.size))
        have HIM := Lib.hid (l04Image_any p p 0 k cn2 _ _ _ _ _ _ ds ms ds2 ms2 fs vs w4 HX4.out.cx HY4.out.cx (HF0.out.below HB14.out) (HV0.out.below HB14.out) HE.out.y hkf (by omega) ⟨by omega, by omega⟩ (by rw [Int.add_zero]; exact HCN.out) HAP.out hmv)
        clear c0 c1 c2 hb4 hbi HVC
        have c0 := HX4.out.c0
        have c1 := HX4.out.c1
        have c2 := HX4.out.c2
        have d0 := HY4.out.c0
        have d1 := HY4.out.c1
        have d2 := HY4.out.c2
        go_wp2_with fail
        refine HIM.out.mono ?_
        rintro e w6 ⟨u6, rfl, hg6, hb6⟩
        have HW6 := Lib.hid hg6.l1
        have HX6 := Lib.hid (HX4.out.next hb6)
        clear hb6 hg6 c0 c1 c2 d0 d1 d2 HIM
        go_wp2
        go_ret2
        refine ⟨u6, apT p cn2 vs (fs.getD k []), 0, rfl, HW6.out, HX6.out.below, RsOut.of_yes HCODE.out ?_⟩
        unfold ApFam
        rw [HCN.out, HNT.out]
        rfl
      · have HCODE : Hid (apCode p p (k : Int) ds ms ds2 ms2 fs vs = 2) := Lib.hid (by
          unfold apCode
          rw [if_pos HEC.out.symm, if_neg (fun hh => hrow (by have := hh.2; rwa [HNT.out] at this))])
        have HROW := Lib.hid hrow
        clear hrow hfz
        go_wp2_with fail
        refine (spin_yes HR.out _).mono ?_
        rintro e w' ⟨rfl, rfl⟩
        go_wp2_with fail
        refine (HVC.out _ (Below.refl _ _)).mono ?_
        rintro e w4 ⟨b, rfl, hb4, hbi⟩
        have hbt : b = false := bb_no hbi (by rw [HDZ.out]; exact HROW.out)
        subst hbt
        have HX4 := Lib.hid (HX3.out.next hb4)
        clear c0 c1 c2 hb4 hbi HVC
        go_wp2
        go_ret2
        refine ⟨_, [], 2, rfl, Or.inl ⟨rfl, _, _, rfl⟩, HX4.out.below, ?_⟩
        rw [HCODE.out]
        exact RsOut.of_no (by decide)
    · have HR := Lib.hid hr
      have HCODE : Hid (apCode p p n ds ms ds2 ms2 fs vs = 2) := Lib.hid (by
        unfold apCode
        rw [if_pos HEC.out.symm, if_neg (fun hh => hr hh.1)])
      clear hr hfz
      go_wp2_with fail
      refine (spin_no HR.out _).mono ?_
      rintro e w' ⟨rfl, rfl⟩
      go_wp2
      go_ret2
      refine ⟨_, [], 2, rfl, Or.inl ⟨rfl, _, _, rfl⟩, HX3.out.below, ?_⟩
      rw [HCODE.out]
      exact RsOut.of_no (by decide)
  · have hne2 : (ec != 0) = true := by simp [h0]
    have hne3 : (ec == 0) = false := by simp [h0]
    have HNE := Lib.hid h0
    have HCODE : Hid (apCode p p2 n ds ms ds2 ms2 fs vs = ec) := Lib.hid (by unfold apCode; rw [← HEC.out, if_neg h0])
    clear h0
    go_wp2
    go_ret2
    refine ⟨_, [], ec, rfl, Or.inl ⟨rfl, _, _, rfl⟩, HX3.out.below, ?_⟩
    rw [HCODE.out]
    exact RsOut.of_no HNE.out
end Go.Proofs.Ytpdkfidmmjlmnab
