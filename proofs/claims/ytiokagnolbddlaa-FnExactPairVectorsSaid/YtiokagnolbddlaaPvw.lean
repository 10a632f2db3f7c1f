/-
  impl.PairVectors by contract.
-/
import Derived.Test.YtiokagnolbddlaaIvc
import Derived.Test.YtiokagnolbddlaaPlq
namespace Go.Proofs.Ytiokagnolbddlaa
open Go.RowKit

open Classical in
/-- The code of PairVectors. -/
noncomputable def pvCode (p p2 : Int) (ds : List Int) (ms : List (List (List Int))) (ds2 : List Int) (ms2 : List (List (List Int))) (i : Int) (us : List Int) (j : Int) (vs : List Int) : Int :=
  if prCode p p2 ds ms ds2 ms2 = 0 then (if VecOk p ds i us ∧ VecOk p2 ds2 j vs then 0 else 2) else prCode p p2 ds ms ds2 ms2
section
variable {p p2 : Int} {ds : List Int} {ms : List (List (List Int))} {ds2 : List Int} {ms2 : List (List (List Int))} {i : Int} {us : List Int} {j : Int} {vs : List Int}
theorem pvCode_pr (h : prCode p p2 ds ms ds2 ms2 ≠ 0) : pvCode p p2 ds ms ds2 ms2 i us j vs = prCode p p2 ds ms ds2 ms2 := if_neg h
theorem pvCode_two (h : prCode p p2 ds ms ds2 ms2 = 0) (hn : ¬ (VecOk p ds i us ∧ VecOk p2 ds2 j vs)) : pvCode p p2 ds ms ds2 ms2 i us j vs = 2 := by
  unfold pvCode
  rw [if_pos h, if_neg hn]
theorem pvCode_ok (h : prCode p p2 ds ms ds2 ms2 = 0) (hn : VecOk p ds i us ∧ VecOk p2 ds2 j vs) : pvCode p p2 ds ms ds2 ms2 i us j vs = 0 := by
  unfold pvCode
  rw [if_pos h, if_pos hn]
theorem pvCode_zero (h : pvCode p p2 ds ms ds2 ms2 i us j vs = 0) : prCode p p2 ds ms ds2 ms2 = 0 ∧ VecOk p ds i us ∧ VecOk p2 ds2 j vs := by
  unfold pvCode at h
  by_cases h0 : prCode p p2 ds ms ds2 ms2 = 0
  · rw [if_pos h0] at h
    by_cases h1 : VecOk p ds i us ∧ VecOk p2 ds2 j vs
    · exact ⟨h0, h1⟩
    · rw [if_neg h1] at h
      cases h
  · rw [if_neg h0] at h
    exact absurd h h0
end
/-- The pair vector. -/
def pvL (p : Int) (ds ds2 us vs : List Int) (i j : Int) : List Int := (List.range (plS ds ds2 (i + j) ds.length)).map (adpZ p 1 (plS ds ds2 (i + j) i.toNat) us vs (fun _ => 0) us.length 0)
theorem plS_mono (ds ds2 : List Int) (n : Int) {k m : Nat} (h : k ≤ m) : plS ds ds2 n k ≤ plS ds ds2 n m := by
  induction m with
  | zero => rw [Nat.le_zero.1 h]; exact Nat.le_refl _
  | succ m ih =>
    by_cases e : k = m + 1
    · rw [e]; exact Nat.le_refl _
    · rw [plS]
      have := ih (by omega)
      omega
theorem pv_len {ds : List Int} {us : List Int} {i : Nat} (hi : i < ds.length) (hu : (us.length : Int) = dimZ ds (i : Int)) : (ds.getD i 0).toNat = us.length := by
  rw [dimZ_in rfl hi] at hu
  rw [List.getD_eq_getElem?_getD, List.getElem?_eq_getElem hi]
  simp only [Option.getD_some]
  omega
theorem pv_fit {ds ds2 us vs : List Int} {i j : Nat} (hi : i < ds.length) (hu : (us.length : Int) = dimZ ds (i : Int)) (hv : (vs.length : Int) = dimZ ds2 (j : Int)) : plS ds ds2 ((i : Int) + (j : Int)) i + us.length * vs.length ≤ plS ds ds2 ((i : Int) + (j : Int)) ds.length := by
  have h := plS_mono ds ds2 ((i : Int) + (j : Int)) (show i + 1 ≤ ds.length by omega)
  rw [plS, show (i : Int) + (j : Int) - (i : Int) = (j : Int) by omega, pv_len hi hu, ← hv] at h
  simpa using h
theorem pv_place {ds ds2 us vs : List Int} {i j a b : Nat} (hi : i < ds.length) (hu : (us.length : Int) = dimZ ds (i : Int)) (hv : (vs.length : Int) = dimZ ds2 (j : Int)) (ha : a < us.length) (hb : b < vs.length) :
    plc (tsA (bsL ds ds.length) (bsL ds2 ds2.length) (bsL ds ds.length).length) (((i : Int), (a : Int)), ((j : Int), (b : Int))) = plS ds ds2 ((i : Int) + (j : Int)) i + a * vs.length + b := by
  rw [plc_at hi (by rw [pv_len hi hu]; exact ha) (by omega), show (dimZ ds2 (j : Int)).toNat = vs.length by omega]
  omega
theorem pv_mem {ds ds2 us vs : List Int} {i j a b : Nat} (hi : i < ds.length) (hj : j < ds2.length) (hu : (us.length : Int) = dimZ ds (i : Int)) (hv : (vs.length : Int) = dimZ ds2 (j : Int)) (ha : a < us.length) (hb : b < vs.length) :
    ((((i : Int), (a : Int)), ((j : Int), (b : Int))) : PV) ∈ tsA (bsL ds ds.length) (bsL ds2 ds2.length) (bsL ds ds.length).length := pl_mem.2 ⟨by omega, by omega, by omega, by omega⟩
theorem pv_n (ds ds2 : List Int) (n : Int) : (prF (tsA (bsL ds ds.length) (bsL ds2 ds2.length) (bsL ds ds.length).length) n).length = plS ds ds2 n ds.length := by rw [prF_blk, plS_flat]

set_option maxHeartbeats 3200000 in
set_option maxRecDepth 100000 in
theorem pairVectors_any (p p2 i j : Int) (dv mv dv2 mv2 uv vv : Value) (ds : List Int) (ms : List (List (List Int))) (ds2 : List Int) (ms2 : List (List (List Int))) (us vs : List Int) (w : World) (h : Cx 0 w dv mv ds ms) (h2 : Cx 0 w dv2 mv2 ds2 ms2) (hu : L1 0 w uv us) (hv : L1 0 w vv vs) (hd : ds.length ≤ 1048576) (hm : Bd3 1048576 ms) (hd2 : ds2.length ≤ 1048576) (hm2 : Bd3 1048576 ms2) (hul : us.length ≤ 1048576) (hvl : vs.length ≤ 1048576) :
    Calls Try.prog 46 #[.agg #[.int .i64 p, dv, mv], .agg #[.int .i64 p2, dv2, mv2], .int .i64 i, uv, .int .i64 j, vv] w (AnsW Rw1 (fun o => o = pvL p ds ds2 us vs i j) [] (pvCode p p2 ds ms ds2 ms2 i us j vs) w) := by
  obtain ⟨au, cu, rfl⟩ := Sl.shape hu
  obtain ⟨av, cv, rfl⟩ := Sl.shape hv
  have HU := Lib.hid hu
  have HV := Lib.hid hv
  clear hu hv
  obtain ⟨ad, cap, rfl⟩ := Sl.shape h.dims
  obtain ⟨am, capm, rfl⟩ := Sl.shape h.maps
  obtain ⟨ad2, cap2, rfl⟩ := Sl.shape h2.dims
  obtain ⟨am2, capm2, rfl⟩ := Sl.shape h2.maps
  obtain ⟨k1, k2⟩ := bx_two (p := p) (p2 := p2) 38 h h2
  have HX0 := Lib.hid k1
  have HY0 := Lib.hid k2
  have HM := Lib.hid hm
  have HM2 := Lib.hid hm2
  obtain ⟨w1, hw1⟩ : ∃ w1, w1 = ((w.alloc (.cells #[.int .i64 p, .slice ad ds.length cap, .slice am ms.length capm] 38)).alloc (.cells #[.int .i64 p2, .slice ad2 ds2.length cap2, .slice am2 ms2.length capm2] 38)) := ⟨_, rfl⟩
  rw [← hw1] at HX0 HY0
  have c0 := HX0.out.c0
  have c1 := HX0.out.c1
  have c2 := HX0.out.c2
  have d0 := HY0.out.c0
  have d1 := HY0.out.c1
  have d2 := HY0.out.c2
  obtain ⟨w2, hw2⟩ : ∃ w2, w2 = w1.alloc (.cells #[.int .i64 p, .slice ad ds.length cap, .slice am ms.length capm, .int .i64 p2, .slice ad2 ds2.length cap2, .slice am2 ms2.length capm2] 38) := ⟨_, rfl⟩
  have hr2 : Row2 w2 w1.heap.size p p2 (.slice ad ds.length cap) (.slice am ms.length capm) (.slice ad2 ds2.length cap2) (.slice am2 ms2.length capm2) := by
    rw [hw2]
    exact ⟨by simp, by simp, by simp, by simp, by simp, by simp⟩
  have hb2 : Below w1.heap.size w1 w2 := by rw [hw2]; exact below_alloc1 _ _
  have HX2 := Lib.hid (HX0.out.next hb2)
  have HY2 := Lib.hid (HY0.out.next hb2)
  have HCK := Lib.hid (checkPrimes2_any p p2 w1.heap.size _ _ _ _ ds ms ds2 ms2 w2 hr2 HX2.out.cx HY2.out.cx hd hm hd2 hm2)
  clear hr2 hb2
  obtain ⟨ec, hec⟩ : ∃ ec, ec = prCode p p2 ds ms ds2 ms2 := ⟨_, rfl⟩
  rw [← hec] at HCK
  have HEC := Lib.hid hec
  clear h h2 hm hm2 k1 k2 hec
  go_enter Try.func46, Try.ntmps46
  go_upto_region 1 with fail
  rw [← hw1]
  clear hw1
  go_wp2_with fail
  rw [← hw2]
  clear hw2
  refine HCK.out.mono ?_
  rintro ee w3 ⟨rfl, hb3⟩
  have HX3 := Lib.hid (HX2.out.next hb3)
  have HY3 := Lib.hid (HY2.out.next hb3)
  clear hb3 c0 c1 c2 d0 d1 d2 HX0 HY0 HX2 HY2 HCK
  have HN3 : Hid (∀ W, Below w3.heap.size w3 W → Bx w W w.heap.size p (.slice ad ds.length cap) (.slice am ms.length capm) ds ms ∧ Bx w W (w.heap.size + 1) p2 (.slice ad2 ds2.length cap2) (.slice am2 ms2.length capm2) ds2 ms2) := Lib.hid (fun W hb => ⟨HX3.out.next hb, HY3.out.next hb⟩)
  have hs3 := HX3.out.below.size
  by_cases h0 : ec = 0
  · subst h0
    have HE := Lib.hid (prCode_zero HEC.out.symm)
    have c0 := (HN3.out _ (Below.refl _ _)).1.c0
    have c1 := (HN3.out _ (Below.refl _ _)).1.c1
    have c2 := (HN3.out _ (Below.refl _ _)).1.c2
    have d0 := (HN3.out _ (Below.refl _ _)).2.c0
    have d1 := (HN3.out _ (Below.refl _ _)).2.c1
    have d2 := (HN3.out _ (Below.refl _ _)).2.c2
    have HU3 := Lib.hid (HU.out.below HX3.out.below)
    have HV3 := Lib.hid (HV.out.below HX3.out.below)
    go_wp2_with fail
    refine (isVector_any p i _ _ _ ds ms us w3 HX3.out.cx HU3.out HE.out.x.1.prime hd hul).mono ?_
    rintro ee w4 ⟨b1, rfl, hb4, hb1⟩
    have HX4 := Lib.hid (HX3.out.next hb4)
    have HY4 := Lib.hid (HY3.out.next hb4)
    have HV4 := Lib.hid (HV3.out.below hb4)
    have HU4 := Lib.hid (HU3.out.below hb4)
    have HB1 := Lib.hid hb1
    clear c0 c1 c2 d0 d1 d2
    clear hb4 hb1
    cases b1
    · have HNV : Hid (¬ (VecOk p ds i us ∧ VecOk p2 ds2 j vs)) := Lib.hid (fun hh => by have := HB1.out.2 hh.1; cases this)
      go_wp2
      go_ret2
      have hcode : pvCode p p2 ds ms ds2 ms2 i us j vs = 2 := pvCode_two HEC.out.symm HNV.out
      refine ⟨_, [], 2, rfl, Rw1.nil _ _ _, HX4.out.below, ?_⟩
      rw [hcode]
      exact RsOut.of_no (by decide)
    · have HK1 : Hid (VecOk p ds i us) := Lib.hid (HB1.out.1 rfl)
      have d0 := HY4.out.c0
      have d1 := HY4.out.c1
      have d2 := HY4.out.c2
      go_wp2_with fail
      refine (isVector_any p2 j _ _ _ ds2 ms2 vs w4 HY4.out.cx HV4.out HE.out.y.1.prime hd2 hvl).mono ?_
      rintro ee w5 ⟨b2, rfl, hb5, hb2⟩
      have HX5 := Lib.hid (HX4.out.next hb5)
      have HY5 := Lib.hid (HY4.out.next hb5)
      have HV5 := Lib.hid (HV4.out.below hb5)
      have HU5 := Lib.hid (HU4.out.below hb5)
      have HB2 := Lib.hid hb2
      clear d0 d1 d2 hb5 hb2
      cases b2
      · have HNV : Hid (¬ (VecOk p ds i us ∧ VecOk p2 ds2 j vs)) := Lib.hid (fun hh => by have := HB2.out.2 hh.2; cases this)
        go_wp2
        go_ret2
        have hcode : pvCode p p2 ds ms ds2 ms2 i us j vs = 2 := pvCode_two HEC.out.symm HNV.out
        refine ⟨_, [], 2, rfl, Rw1.nil _ _ _, HX5.out.below, ?_⟩
        rw [hcode]
        exact RsOut.of_no (by decide)
      · have HK2 : Hid (VecOk p2 ds2 j vs) := Lib.hid (HB2.out.1 rfl)
        have c0 := HX5.out.c0
        have c1 := HX5.out.c1
        have c2 := HX5.out.c2
        have d0 := HY5.out.c0
        have d1 := HY5.out.c1
        have d2 := HY5.out.c2
        go_wp2_with fail
        refine (tensorOf_any p p2 _ _ _ _ ds ms ds2 ms2 w5 HX5.out.cx HY5.out.cx HE.out.x HE.out.y).mono ?_
        rintro ee w6 ⟨G, mb, N, base, n, f, rfl, hN, hG, hmb, hprs, hpl, hb6⟩
        have HX6 := Lib.hid (HX5.out.next hb6)
        have HV6 := Lib.hid (HV5.out.below hb6)
        have HU6 := Lib.hid (HU5.out.below hb6)
        obtain ⟨i, rfl⟩ := Int.eq_ofNat_of_zero_le HK1.out.1.1
        obtain ⟨j, rfl⟩ := Int.eq_ofNat_of_zero_le HK2.out.1.1
        have hi : i < ds.length := by have := HK1.out.1.2; omega
        have hj : j < ds2.length := by have := HK2.out.1.2; omega
        have hlu := HK1.out.2.1
        have hlv := HK2.out.2.1
        have hwn : IntKind.i64.wrap ((i : Int) + (j : Int)) = ((i + j : Nat) : Int) := by rw [show (i : Int) + (j : Int) = ((i + j : Nat) : Int) by simp]; exact IntWalk.i64_in _ (by omega)
        have hnN : i + j < N := by omega
        obtain ⟨apr, cpr, hfn⟩ := hprs.shape hnN
        obtain ⟨m, hm⟩ : ∃ m, m = plS ds ds2 (((i : Nat) : Int) + ((j : Nat) : Int)) ds.length := ⟨_, rfl⟩
        have hfn : f (i + j) = .slice apr m cpr := by rw [hfn, pv_n, hm]; simp
        have k6 : w6.cell? ⟨G, i + j, none⟩ = some (.slice apr m cpr) := by rw [← hfn]; exact hprs.row.cell hnN
        have hmm : m ≤ 1048576 := by rw [hm]; exact Nat.le_trans (plS_bd HE.out.x HE.out.y _ _) (by have := HE.out.x.1.len1; omega)
        have HPL := Lib.hid hpl
        have HB6 := Lib.hid hb6
        have HGE := Lib.hid hprs.row.lt
        have HM2 := Lib.hid hm
        clear hprs hpl hb6 hfn hm
        clear c0 c1 c2 d0 d1 d2
        go_upto_region 7 with fail
        obtain ⟨w7, hw7⟩ : ∃ w7, w7 = w6.alloc (.cells #[.int .i64 p, .slice ad ds.length cap, .slice am ms.length capm, .int .i64 p2, .slice ad2 ds2.length cap2, .slice am2 ms2.length capm2, .slice (some ⟨G, 0, none⟩) N N, .map (some mb)] 118) := ⟨_, rfl⟩
        have hb7 : Below w6.heap.size w6 w7 := by rw [hw7]; exact below_alloc1 _ _
        have hs7 : w7.heap.size = w6.heap.size + 1 := by rw [hw7]; simp
        have hz7 : Rz w7 w6.heap.size 118 #[.int .i64 p, .slice ad ds.length cap, .slice am ms.length capm, .int .i64 p2, .slice ad2 ds2.length cap2, .slice am2 ms2.length capm2, .slice (some ⟨G, 0, none⟩) N N, .map (some mb)] := by rw [hw7]; exact Rz.new _ _ _
        rw [← hw7]
        clear hw7
        have t0 := hz7.cell (i := 0) rfl
        have t1 := hz7.cell (i := 1) rfl
        have t2 := hz7.cell (i := 2) rfl
        have t3 := hz7.cell (i := 3) rfl
        have t4 := hz7.cell (i := 4) rfl
        have t5 := hz7.cell (i := 5) rfl
        have t6 := hz7.cell (i := 6) rfl
        have t7 := hz7.cell (i := 7) rfl
        have k7 := later hb7 (Nat.le_refl _) k6
        have HZ7 := Lib.hid hz7
        have hmk := run_make_row' (P := Try.prog) 22 2 (.int .i64 0) 8 Try.underlying22 Try.infoI rfl .i64 .i64 m (by omega) (by omega)
        clear k6 hz7
        go_wp2_with fail
        refine (dim_any p p2 _ _ _ _ G N (i + j) mb m cpr apr _ k7 hnN).mono ?_
        rintro ee w8 ⟨rfl, hb8⟩
        have hz8 := HZ7.out.next hb8
        have hs8 := hb8.size
        clear t0 t1 t2 t3 t4 t5 t6 t7 k7 HZ7 hwn
        go_upto_region 8 with fail
        obtain ⟨w9, hw9⟩ : ∃ w9, w9 = w8.alloc (.cells (madeCells #[.int .i64 0] m) 2) := ⟨_, rfl⟩
        rw [← hw9]
        have hb9 : Below w8.heap.size w8 w9 := by rw [hw9]; exact below_alloc1 _ _
        have hs9 : w9.heap.size = w8.heap.size + 1 := by rw [hw9]; simp
        have HROW : Hid (w9.rowIs w8.heap.size 2 m (fun _ => .int .i64 0)) := Lib.hid (by rw [hw9]; exact World.rowIs_made w8 (.int .i64 0) m 2)
        have hz9 := hz8.next hb9
        have HB9 : Hid (Below w6.heap.size w6 w9) := Lib.hid ((hb7.trans (hb8.mono (by omega))).trans (hb9.mono (by omega)))
        have HT : Hid (∀ W, But w8.heap.size w9 W → Below w6.heap.size w6 W) := Lib.hid (fun W h => HB9.out.trans (h.below (by omega) (by omega)))
        clear hw9 hmk hb7 hb8 hb9 hz8
        have t0 := hz9.cell (i := 0) rfl
        have t1 := hz9.cell (i := 1) rfl
        have t2 := hz9.cell (i := 2) rfl
        have t3 := hz9.cell (i := 3) rfl
        have t4 := hz9.cell (i := 4) rfl
        have t5 := hz9.cell (i := 5) rfl
        have t6 := hz9.cell (i := 6) rfl
        have t7 := hz9.cell (i := 7) rfl
        clear hz9
        go_wp2_with fail
        refine (addPair_any p p2 1 (i : Int) (j : Int) _ _ _ _ _ _ _ (plS ds ds2 ((i : Int) + (j : Int)) i) w8.heap.size m mb n (fun _ => 0) us vs _ w9 HE.out.x.1.prime (by omega) HROW.out (fun W h => HPL.out.below (HT.out W h)) (fun W h => HU6.out.below (HT.out W h)) (fun W h => HV6.out.below (HT.out W h)) HK1.out.2.2 (by rw [HE.out.prime]; exact HK2.out.2.2) (fun k _ => by have := HE.out.x.1.prime.lo; omega) (fun a b ha hb => ⟨?_, pv_mem hi hj hlu hlv ha hb, pv_place hi hlu hlv ha hb⟩) (by rw [HM2.out]; exact pv_fit hi hlu hlv) hul hvl).mono ?_
        · exact ⟨WalkArith.wf_i64 (by simp only []; omega), WalkArith.wf_i64 (by simp only []; omega), WalkArith.wf_i64 (by simp only []; omega), WalkArith.wf_i64 (by simp only []; omega)⟩
        rintro ee wA ⟨rfl, hbut, hrow⟩
        have HR := Lib.hid hrow
        have HBA := Lib.hid (HX6.out.next (HT.out wA hbut)).below
        clear hbut hrow t0 t1 t2 t3 t4 t5 t6 t7
        go_wp2
        go_ret2
        refine ⟨_, pvL p ds ds2 us vs (i : Int) (j : Int), 0, rfl, w1_rw1 ?_ (by unfold pvL; rw [List.length_map, List.length_range, ← HM2.out]; omega), HBA.out, RsOut.of_yes (pvCode_ok HEC.out.symm ⟨HK1.out, HK2.out⟩) rfl⟩
        exact (row_rc (xs := pvL p ds ds2 us vs (i : Int) (j : Int)) (lo := w.heap.size) HR.out (by unfold pvL; rw [List.length_map, List.length_range, HM2.out]) (fun q hq => by unfold pvL; simp) hmm (by have := HX6.out.below.size; omega)).1
  · have hne2 : (ec != 0) = true := by simp [h0]
    have hne3 : (ec == 0) = false := by simp [h0]
    have HNE := Lib.hid h0
    clear h0
    go_wp2
    go_ret2
    refine ⟨_, [], ec, rfl, Rw1.nil _ _ _, HX3.out.below, ?_⟩
    rw [show pvCode p p2 ds ms ds2 ms2 i us j vs = ec from by rw [HEC.out]; exact pvCode_pr (by rw [← HEC.out]; exact HNE.out)]
    exact RsOut.of_no HNE.out
end Go.Proofs.Ytiokagnolbddlaa
