/-
  AddFamilies of both sides by contracts.
-/
import Derived.Test.YtpdkfidmmjlmnabSof
import Derived.Test.YtpdkfidmmjlmnabAfs
import Derived.Test.YtpdkfidmmjlmnabFc2
namespace Go.Proofs.Ytpdkfidmmjlmnab
open Go.RowKit

open Classical in
/-- The code of AddFamilies. -/
noncomputable def afCode (p p2 k : Int) (ds : List Int) (ms : List (List (List Int))) (ds2 : List Int) (ms2 : List (List (List Int))) (fs gs : List (List (List Int))) : Int :=
  if famCode2 p p2 0 ds ms ds2 ms2 fs gs = 0 then (if 0 ≤ k ∧ k ≤ p - 1 then 0 else 2) else famCode2 p p2 0 ds ms ds2 ms2 fs gs
theorem afCode_zero {p p2 k : Int} {ds : List Int} {ms : List (List (List Int))} {ds2 : List Int} {ms2 : List (List (List Int))} {fs gs : List (List (List Int))} (h : afCode p p2 k ds ms ds2 ms2 fs gs = 0) : EndOk p p2 ds ms ds2 ms2 := by
  unfold afCode at h
  by_cases h1 : famCode2 p p2 0 ds ms ds2 ms2 fs gs = 0
  · exact (famCode2_zero h1).1
  · rw [if_neg h1] at h
    exact absurd h h1
def AddFam (p k : Int) (ds ds2 : List Int) (fs gs out : List (List (List Int))) : Prop := out = famL ds.length (rsF ds) (csF ds2 0) (afZ p k fs gs)
theorem famL_bd {p p2 s : Int} {ds : List Int} {ms : List (List (List Int))} {ds2 : List Int} {ms2 : List (List (List Int))} (h : IsCx p ds ms) (h2 : IsCx p2 ds2 ms2) (Z : Nat → Nat → Nat → Int) : Bd3 1048576 (famL ds.length (rsF ds) (csF ds2 s) Z) := by
  have h6 := h.1.len1
  refine ⟨by rw [famL_length]; omega, fun t ht => ?_⟩
  obtain ⟨n, _, rfl⟩ := List.mem_map.1 ht
  have h1 := h.1.dim n
  have h3 := dimZ_8 h2 ((n : Int) + s)
  refine ⟨by simp only [tableOf, List.length_map, List.length_range, rsF]; omega, fun r hr => ?_⟩
  obtain ⟨j, _, rfl⟩ := List.mem_map.1 hr
  simp only [Bd1, List.length_map, List.length_range, csF]
  omega
theorem fam_fs6 {p : Int} {ds : List Int} {ms : List (List (List Int))} {ds2 : List Int} {ms2 fs : List (List (List Int))} (hcx : IsCx p ds ms) (hcy : IsCx p ds2 ms2) (hF : FamOk p ds ds2 0 fs) : Fs6 ds.length (rsF ds) (csF ds2 0) fs := by
  have hr : ∀ n, n < ds.length → ∀ i, i < rsF ds n → n < fs.length ∧ TabOk p (rsF ds n : Int) (csF ds2 0 n : Int) (fs.getD n []) ∧ i < (fs.getD n []).length ∧ RowOk p (csF ds2 0 n : Int) ((fs.getD n []).getD i []) := fun n hn i hi => fam_row hF hn hi (hcx.1.dim n).1 (dimZ_8 hcy ((n : Int) + 0)).1
  refine ⟨hF.1, fun n hn => ?_, fun n hn i hi => ?_, fun n hn i hi q hq => ?_⟩
  · have hl : n < fs.length := by have := hF.1; omega
    have ht := (hF.2 n hl).1
    have := (hcx.1.dim n).1
    simp only [rsF]
    omega
  · have := (hr n hn i hi).2.2.2.1
    omega
  · obtain ⟨_, _, _, h4⟩ := hr n hn i hi
    have hl : q < ((fs.getD n []).getD i []).length := by have := h4.1; omega
    rw [getD_of_lt 0 hl]
    have := h4.2 _ (List.getElem_mem hl)
    have := hcx.1.prime.hi
    omega

set_option maxHeartbeats 6400000 in
set_option maxRecDepth 100000 in
theorem addFamilies_any (p p2 k : Int) (dv mv dv2 mv2 fv gv : Value) (ds : List Int) (ms : List (List (List Int))) (ds2 : List Int) (ms2 : List (List (List Int))) (fs gs : List (List (List Int))) (w : World) (h : Cx 0 w dv mv ds ms) (h2 : Cx 0 w dv2 mv2 ds2 ms2) (hf : L3 0 w fv fs) (hg : L3 0 w gv gs) (hd : ds.length ≤ 1048576) (hm : Bd3 1048576 ms) (hd2 : ds2.length ≤ 1048576) (hm2 : Bd3 1048576 ms2) (hmf : Bd3 1048576 fs) (hmg : Bd3 1048576 gs) :
    Calls Try.prog 64 #[.agg #[.int .i64 p, dv, mv], .agg #[.int .i64 p2, dv2, mv2], fv, gv, .int .i64 k] w (AnsW Rw3 (AddFam p k ds ds2 fs gs) [] (afCode p p2 k ds ms ds2 ms2 fs gs) w) := by
  obtain ⟨ad, cap, rfl⟩ := Sl.shape h.dims
  obtain ⟨am, capm, rfl⟩ := Sl.shape h.maps
  obtain ⟨ad2, cap2, rfl⟩ := Sl.shape h2.dims
  obtain ⟨am2, capm2, rfl⟩ := Sl.shape h2.maps
  obtain ⟨af, cf, rfl⟩ := Sl.shape hf
  obtain ⟨ag, cg, rfl⟩ := Sl.shape hg
  obtain ⟨k1, k2⟩ := bx_two (p := p) (p2 := p2) 31 h h2
  have HX0 := Lib.hid k1
  have HY0 := Lib.hid k2
  obtain ⟨w1, hw1⟩ : ∃ w1, w1 = ((w.alloc (.cells #[.int .i64 p, .slice ad ds.length cap, .slice am ms.length capm] 31)).alloc (.cells #[.int .i64 p2, .slice ad2 ds2.length cap2, .slice am2 ms2.length capm2] 31)) := ⟨_, rfl⟩
  rw [← hw1] at HX0 HY0
  have hb01 : Below w.heap.size w w1 := HX0.out.below
  have HF0 := Lib.hid (hf.below hb01)
  have HG0 := Lib.hid (hg.below hb01)
  have HNX : Hid (∀ W, Below w1.heap.size w1 W → Bx w W w.heap.size p (.slice ad ds.length cap) (.slice am ms.length capm) ds ms) := Lib.hid (fun W h => HX0.out.next h)
  have HNY : Hid (∀ W, Below w1.heap.size w1 W → Bx w W (w.heap.size + 1) p2 (.slice ad2 ds2.length cap2) (.slice am2 ms2.length capm2) ds2 ms2) := Lib.hid (fun W h => HY0.out.next h)
  have HMF := Lib.hid hmf
  have HMG := Lib.hid hmg
  have c0 := HX0.out.c0
  have c1 := HX0.out.c1
  have c2 := HX0.out.c2
  have d0 := HY0.out.c0
  have d1 := HY0.out.c1
  have d2 := HY0.out.c2
  obtain ⟨w2, hw2⟩ : ∃ w2, w2 = w1.alloc (.cells #[.slice af fs.length cf, .slice ag gs.length cg] 23) := ⟨_, rfl⟩
  have hr2 : w2.cell? ⟨w1.heap.size, 0, none⟩ = some (.slice af fs.length cf) := by rw [hw2]; simp
  have hr3 : w2.cell? ⟨w1.heap.size, 1, none⟩ = some (.slice ag gs.length cg) := by rw [hw2]; simp
  have hb2 : Below w1.heap.size w1 w2 := by rw [hw2]; exact below_alloc1 _ _
  have HB2 := Lib.hid hb2
  have HCK := Lib.hid (checkFamilies2_any p p2 0 w1.heap.size _ _ _ _ _ _ ds ms ds2 ms2 fs gs w2 (HNX.out _ hb2).cx (HNY.out _ hb2).cx (HF0.out.below hb2) (HG0.out.below hb2) hr2 hr3 ⟨by omega, by omega⟩ hd hm hd2 hm2 hmf hmg)
  obtain ⟨ec, hec⟩ : ∃ ec, ec = famCode2 p p2 0 ds ms ds2 ms2 fs gs := ⟨_, rfl⟩
  rw [← hec] at HCK
  have HEC := Lib.hid hec
  clear h h2 hf hg hm hm2 hmf hmg k1 k2 hr2 hr3 hb2 hb01 hec
  go_enter Try.func64, Try.ntmps64
  go_upto_region 1 with fail
  rw [← hw1]
  clear hw1
  go_wp2_with fail
  rw [← hw2]
  clear hw2
  refine HCK.out.mono ?_
  rintro e w3 ⟨rfl, hb3⟩
  have HB3 := Lib.hid (HB2.out.trans (hb3.mono HB2.out.size))
  have HX3 := Lib.hid (HNX.out _ HB3.out)
  have HY3 := Lib.hid (HNY.out _ HB3.out)
  have HF3 := Lib.hid (HF0.out.below HB3.out)
  have HG3 := Lib.hid (HG0.out.below HB3.out)
  clear hb3 c0 c1 c2 d0 d1 d2 HX0 HY0 HCK HB2
  by_cases h0 : ec = 0
  · subst h0
    have hfz := famCode2_zero HEC.out.symm
    have HE := Lib.hid hfz.1
    have HFO := Lib.hid hfz.2.1
    have HGO := Lib.hid hfz.2.2
    have hl6 := hfz.1.x.1.len1
    have hp27 : 2 ≤ p ∧ p ≤ 7 := ⟨hfz.1.x.1.prime.lo, hfz.1.x.1.prime.hi⟩
    have hpp := hfz.1.prime
    subst hpp
    have c0 := HX3.out.c0
    have c1 := HX3.out.c1
    have c2 := HX3.out.c2
    have d0 := HY3.out.c0
    have d1 := HY3.out.c1
    have d2 := HY3.out.c2
    have hwp : IntKind.i64.wrap (p - 1) = p - 1 := IntWalk.i64_in _ (by omega)
    clear hfz
    by_cases hs : 0 ≤ k ∧ k ≤ p - 1
    · have HS := Lib.hid hs
      have HC0 : Hid (afCode p p k ds ms ds2 ms2 fs gs = 0) := Lib.hid (by unfold afCode; rw [if_pos HEC.out.symm, if_pos hs])
      have HZ := Lib.hid (sumOfFamilies_any p k _ _ _ _ _ _ ds ms ds2 ms2 fs gs w3 HX3.out.cx HY3.out.cx HF3.out HG3.out HE.out.x HE.out.y HFO.out HGO.out hs HMF.out HMG.out)
      clear hs
      go_wp2_with fail
      refine (in_yes HS.out _).mono ?_
      rintro e w' ⟨rfl, rfl⟩
      go_wp2_with fail
      refine HZ.out.mono ?_
      rintro e w4 ⟨u, rfl, hrw, hb4⟩
      have HR := Lib.hid hrw
      have HX4 := Lib.hid (HX3.out.next hb4)
      have hs3 := HX3.out.below.size
      clear hrw hb4 c0 c1 c2 d0 d1 d2 HZ
      go_wp2
      go_ret2
      exact ⟨u, _, 0, rfl, HR.out.wider hs3 (Nat.le_refl _), HX4.out.below, RsOut.of_yes HC0.out rfl⟩
    · have HS := Lib.hid hs
      have HC0 : Hid (afCode p p k ds ms ds2 ms2 fs gs = 2) := Lib.hid (by unfold afCode; rw [if_pos HEC.out.symm, if_neg hs])
      clear hs
      go_wp2_with fail
      refine (in_no HS.out _).mono ?_
      rintro e w' ⟨rfl, rfl⟩
      go_wp2
      go_ret2
      refine ⟨_, [], 2, rfl, Rw3.nil _ _ _, HX3.out.below, ?_⟩
      rw [HC0.out]
      exact RsOut.of_no (by decide)
  · have hne2 : (ec != 0) = true := by simp [h0]
    have hne3 : (ec == 0) = false := by simp [h0]
    have HNE := Lib.hid h0
    have HC0 : Hid (afCode p p2 k ds ms ds2 ms2 fs gs = ec) := Lib.hid (by unfold afCode; rw [← HEC.out, if_neg h0])
    clear h0
    go_wp2
    go_ret2
    refine ⟨_, [], ec, rfl, Rw3.nil _ _ _, HX3.out.below, ?_⟩
    rw [HC0.out]
    exact RsOut.of_no HNE.out

set_option maxHeartbeats 6400000 in
set_option maxRecDepth 100000 in
theorem spAddFamilies_any (p p2 k : Int) (dv mv dv2 mv2 fv gv : Value) (ds : List Int) (ms : List (List (List Int))) (ds2 : List Int) (ms2 : List (List (List Int))) (fs gs : List (List (List Int))) (w : World) (h : Cx 0 w dv mv ds ms) (h2 : Cx 0 w dv2 mv2 ds2 ms2) (hf : L3 0 w fv fs) (hg : L3 0 w gv gs) (hd : ds.length ≤ 1048576) (hm : Bd3 1048576 ms) (hd2 : ds2.length ≤ 1048576) (hm2 : Bd3 1048576 ms2) (hmf : Bd3 1048576 fs) (hmg : Bd3 1048576 gs) :
    Calls Try.prog 63 #[.agg #[.int .i64 p, dv, mv], .agg #[.int .i64 p2, dv2, mv2], fv, gv, .int .i64 k] w (AnsS (L3 0) (AddFam p k ds ds2 fs gs) [] (afCode p p2 k ds ms ds2 ms2 fs gs) w) := by
  obtain ⟨ad, cap, rfl⟩ := Sl.shape h.dims
  obtain ⟨am, capm, rfl⟩ := Sl.shape h.maps
  obtain ⟨ad2, cap2, rfl⟩ := Sl.shape h2.dims
  obtain ⟨am2, capm2, rfl⟩ := Sl.shape h2.maps
  obtain ⟨af, cf, rfl⟩ := Sl.shape hf
  obtain ⟨ag, cg, rfl⟩ := Sl.shape hg
  obtain ⟨k1, k2⟩ := bx_two (p := p) (p2 := p2) 31 h h2
  have HX0 := Lib.hid k1
  have HY0 := Lib.hid k2
  obtain ⟨w1, hw1⟩ : ∃ w1, w1 = ((w.alloc (.cells #[.int .i64 p, .slice ad ds.length cap, .slice am ms.length capm] 31)).alloc (.cells #[.int .i64 p2, .slice ad2 ds2.length cap2, .slice am2 ms2.length capm2] 31)) := ⟨_, rfl⟩
  rw [← hw1] at HX0 HY0
  have hb01 : Below w.heap.size w w1 := HX0.out.below
  have HF0 := Lib.hid (hf.below hb01)
  have HG0 := Lib.hid (hg.below hb01)
  have HNX : Hid (∀ W, Below w1.heap.size w1 W → Bx w W w.heap.size p (.slice ad ds.length cap) (.slice am ms.length capm) ds ms) := Lib.hid (fun W h => HX0.out.next h)
  have HNY : Hid (∀ W, Below w1.heap.size w1 W → Bx w W (w.heap.size + 1) p2 (.slice ad2 ds2.length cap2) (.slice am2 ms2.length capm2) ds2 ms2) := Lib.hid (fun W h => HY0.out.next h)
  have HMF := Lib.hid hmf
  have HMG := Lib.hid hmg
  have c0 := HX0.out.c0
  have c1 := HX0.out.c1
  have c2 := HX0.out.c2
  have d0 := HY0.out.c0
  have d1 := HY0.out.c1
  have d2 := HY0.out.c2
  obtain ⟨w2, hw2⟩ : ∃ w2, w2 = w1.alloc (.cells #[.slice af fs.length cf, .slice ag gs.length cg] 23) := ⟨_, rfl⟩
  have hr2 : w2.cell? ⟨w1.heap.size, 0, none⟩ = some (.slice af fs.length cf) := by rw [hw2]; simp
  have hr3 : w2.cell? ⟨w1.heap.size, 1, none⟩ = some (.slice ag gs.length cg) := by rw [hw2]; simp
  have hb2 : Below w1.heap.size w1 w2 := by rw [hw2]; exact below_alloc1 _ _
  have HB2 := Lib.hid hb2
  have HCK := Lib.hid (l04Code2_any p p2 w1.heap.size _ _ _ _ _ _ ds ms ds2 ms2 fs gs w2 (HNX.out _ hb2).cx (HNY.out _ hb2).cx (HF0.out.below hb2) (HG0.out.below hb2) hr2 hr3 hd hm hd2 hm2 hmf hmg)
  obtain ⟨ec, hec⟩ : ∃ ec, ec = famCode2 p p2 0 ds ms ds2 ms2 fs gs := ⟨_, rfl⟩
  rw [← hec] at HCK
  have HEC := Lib.hid hec
  clear h h2 hf hg hm hm2 hmf hmg k1 k2 hr2 hr3 hb2 hb01 hec
  go_enter Try.func63, Try.ntmps63
  go_upto_region 1 with fail
  rw [← hw1]
  clear hw1
  go_wp2_with fail
  rw [← hw2]
  clear hw2
  refine HCK.out.mono ?_
  rintro e w3 ⟨rfl, hb3⟩
  have HB3 := Lib.hid (HB2.out.trans (hb3.mono HB2.out.size))
  have HX3 := Lib.hid (HNX.out _ HB3.out)
  have HY3 := Lib.hid (HNY.out _ HB3.out)
  have HF3 := Lib.hid (HF0.out.below HB3.out)
  have HG3 := Lib.hid (HG0.out.below HB3.out)
  clear hb3 c0 c1 c2 d0 d1 d2 HX0 HY0 HCK HB2
  by_cases h0 : ec = 0
  · subst h0
    have hfz := famCode2_zero HEC.out.symm
    have HE := Lib.hid hfz.1
    have HFO := Lib.hid hfz.2.1
    have HGO := Lib.hid hfz.2.2
    have hl6 := hfz.1.x.1.len1
    have hp27 : 2 ≤ p ∧ p ≤ 7 := ⟨hfz.1.x.1.prime.lo, hfz.1.x.1.prime.hi⟩
    have hpp := hfz.1.prime
    subst hpp
    have c0 := HX3.out.c0
    have c1 := HX3.out.c1
    have c2 := HX3.out.c2
    have d0 := HY3.out.c0
    have d1 := HY3.out.c1
    have d2 := HY3.out.c2
    have hwp : IntKind.i64.wrap (p - 1) = p - 1 := IntWalk.i64_in _ (by omega)
    clear hfz
    by_cases hs : 0 ≤ k ∧ k ≤ p - 1
    · have HS := Lib.hid hs
      have HC0 : Hid (afCode p p k ds ms ds2 ms2 fs gs = 0) := Lib.hid (by unfold afCode; rw [if_pos HEC.out.symm, if_pos hs])
      have HZ := Lib.hid (l04Sum_any p k ds.length (rsF ds) (csF ds2 0) _ _ fs gs w3 HF3.out HG3.out (fam_fs6 HE.out.x HE.out.y HFO.out) (fam_fs6 HE.out.x HE.out.y HGO.out) HE.out.x.1.prime (by omega) (by omega) (fun n _ => ⟨by simp only [rsF]; have := HE.out.x.1.dim n; omega, by simp only [csF]; have := dimZ_8 HE.out.y ((n : Int) + 0); omega⟩))
      clear hs
      go_wp2_with fail
      refine (spin_yes HS.out _).mono ?_
      rintro e w' ⟨rfl, rfl⟩
      go_wp2_with fail
      refine HZ.out.mono ?_
      rintro e w4 ⟨u, rfl, hrw, hb4⟩
      have HR := Lib.hid hrw.l3
      have HX4 := Lib.hid (HX3.out.next hb4)
      clear hrw hb4 c0 c1 c2 d0 d1 d2 HZ
      go_wp2
      go_ret2
      exact ⟨u, _, 0, rfl, HR.out, HX4.out.below, RsOut.of_yes HC0.out rfl⟩
    · have HS := Lib.hid hs
      have HC0 : Hid (afCode p p k ds ms ds2 ms2 fs gs = 2) := Lib.hid (by unfold afCode; rw [if_pos HEC.out.symm, if_neg hs])
      clear hs
      go_wp2_with fail
      refine (spin_no HS.out _).mono ?_
      rintro e w' ⟨rfl, rfl⟩
      go_wp2
      go_ret2
      refine ⟨_, [], 2, rfl, Or.inl ⟨rfl, _, _, rfl⟩, HX3.out.below, ?_⟩
      rw [HC0.out]
      exact RsOut.of_no (by decide)
  · have hne2 : (ec != 0) = true := by simp [h0]
    have hne3 : (ec == 0) = false := by simp [h0]
    have HNE := Lib.hid h0
    have HC0 : Hid (afCode p p2 k ds ms ds2 ms2 fs gs = ec) := Lib.hid (by unfold afCode; rw [← HEC.out, if_neg h0])
    clear h0
    go_wp2
    go_ret2
    refine ⟨_, [], ec, rfl, Or.inl ⟨rfl, _, _, rfl⟩, HX3.out.below, ?_⟩
    rw [HC0.out]
    exact RsOut.of_no HNE.out

end Go.Proofs.Ytpdkfidmmjlmnab
