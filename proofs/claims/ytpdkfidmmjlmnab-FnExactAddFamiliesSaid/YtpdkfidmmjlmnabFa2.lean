/-
  impl.checkFamilies and spec.l04Code on two families, by their contracts.
-/
import Derived.Test.YtpdkfidmmjlmnabFam
namespace Go.Proofs.Ytpdkfidmmjlmnab
open Go.RowKit

open Classical in
/-- The code of two complexes and two families between them. -/
noncomputable def famCode2 (p p2 s : Int) (ds : List Int) (ms : List (List (List Int))) (ds2 : List Int) (ms2 : List (List (List Int))) (fs gs : List (List (List Int))) : Int :=
  if endCode p p2 ds ms ds2 ms2 = 0 then (if FamOk p ds ds2 s fs ∧ FamOk p ds ds2 s gs then 0 else 2) else endCode p p2 ds ms ds2 ms2
theorem famCode2_zero {p p2 s : Int} {ds : List Int} {ms : List (List (List Int))} {ds2 : List Int} {ms2 : List (List (List Int))} {fs gs : List (List (List Int))} (h : famCode2 p p2 s ds ms ds2 ms2 fs gs = 0) : EndOk p p2 ds ms ds2 ms2 ∧ FamOk p ds ds2 s fs ∧ FamOk p ds ds2 s gs := by
  unfold famCode2 at h
  by_cases h1 : endCode p p2 ds ms ds2 ms2 = 0
  · rw [if_pos h1] at h
    by_cases h2 : FamOk p ds ds2 s fs ∧ FamOk p ds ds2 s gs
    · exact ⟨endCode_zero h1, h2.1, h2.2⟩
    · rw [if_neg h2] at h
      cases h
  · rw [if_neg h1] at h
    exact absurd h h1

set_option maxHeartbeats 6400000 in
set_option maxRecDepth 100000 in
theorem checkFamilies2_any (p p2 s : Int) (b : Nat) (dv mv dv2 mv2 fv gv : Value) (ds : List Int) (ms : List (List (List Int))) (ds2 : List Int) (ms2 : List (List (List Int))) (fs gs : List (List (List Int))) (w : World) (h : Cx 0 w dv mv ds ms) (h2 : Cx 0 w dv2 mv2 ds2 ms2) (hf : L3 0 w fv fs) (hg : L3 0 w gv gs) (hr : w.cell? ⟨b, 0, none⟩ = some fv) (hrg : w.cell? ⟨b, 1, none⟩ = some gv) (hs : -1 ≤ s ∧ s ≤ 1) (hd : ds.length ≤ 1048576) (hm : Bd3 1048576 ms) (hd2 : ds2.length ≤ 1048576) (hm2 : Bd3 1048576 ms2) (hmf : Bd3 1048576 fs) (hmg : Bd3 1048576 gs) :
    Calls Try.prog 120 #[.agg #[.int .i64 p, dv, mv], .agg #[.int .i64 p2, dv2, mv2], .int .i64 s, .slice (some ⟨b, 0, none⟩) 2 2] w (BR (.int .i64 (famCode2 p p2 s ds ms ds2 ms2 fs gs)) w) := by
  obtain ⟨ad, cap, rfl⟩ := Sl.shape h.dims
  obtain ⟨am, capm, rfl⟩ := Sl.shape h.maps
  obtain ⟨ad2, cap2, rfl⟩ := Sl.shape h2.dims
  obtain ⟨am2, capm2, rfl⟩ := Sl.shape h2.maps
  obtain ⟨af, cf, rfl⟩ := Sl.shape hf
  obtain ⟨ag, cg, rfl⟩ := Sl.shape hg
  obtain ⟨k1, k2⟩ := bx_two (p := p) (p2 := p2) 31 h h2
  have HX0 := Lib.hid k1
  have HY0 := Lib.hid k2
  obtain ⟨w1, hw1⟩ : ∃ w1, w1 = ((w.alloc (.cells #[.int .i64 p, .slice ad ds.length cap, .slice am ms.length capm] 31)).alloc (.cells #[.int .i64 p2, .slice ad2 ds2.length cap2, .slice am2 ms2.length capm2] 31)) := ⟨_, rfl⟩
  rw [← hw1] at HX0 HY0
  have hb01 : Below w.heap.size w w1 := HX0.out.below
  have HF0 := Lib.hid (hf.below hb01)
  have HG0 := Lib.hid (hg.below hb01)
  have HMG := Lib.hid hmg
  have HR1g := Lib.hid (later hb01 (Nat.le_refl _) hrg)
  have HNX : Hid (∀ W, Below w1.heap.size w1 W → Bx w W w.heap.size p (.slice ad ds.length cap) (.slice am ms.length capm) ds ms) := Lib.hid (fun W h => HX0.out.next h)
  have HNY : Hid (∀ W, Below w1.heap.size w1 W → Bx w W (w.heap.size + 1) p2 (.slice ad2 ds2.length cap2) (.slice am2 ms2.length capm2) ds2 ms2) := Lib.hid (fun W h => HY0.out.next h)
  have HMF := Lib.hid hmf
  have HS := Lib.hid hs
  have HR1 := Lib.hid (later hb01 (Nat.le_refl _) hr)
  have c0 := HX0.out.c0
  have c1 := HX0.out.c1
  have c2 := HX0.out.c2
  have d0 := HY0.out.c0
  have d1 := HY0.out.c1
  have d2 := HY0.out.c2
  obtain ⟨w2, hw2⟩ : ∃ w2, w2 = w1.alloc (.cells #[.int .i64 p, .slice ad ds.length cap, .slice am ms.length capm, .int .i64 p2, .slice ad2 ds2.length cap2, .slice am2 ms2.length capm2] 31) := ⟨_, rfl⟩
  have hr2 : Row2 w2 w1.heap.size p p2 (.slice ad ds.length cap) (.slice am ms.length capm) (.slice ad2 ds2.length cap2) (.slice am2 ms2.length capm2) := by
    rw [hw2]
    exact ⟨by simp, by simp, by simp, by simp, by simp, by simp⟩
  have hb2 : Below w1.heap.size w1 w2 := by rw [hw2]; exact below_alloc1 _ _
  have HB2 := Lib.hid hb2
  have HCK := Lib.hid (checkEnds2_any p p2 w1.heap.size _ _ _ _ ds ms ds2 ms2 w2 hr2 (HNX.out _ hb2).cx (HNY.out _ hb2).cx hd hm hd2 hm2)
  obtain ⟨ec, hec⟩ : ∃ ec, ec = endCode p p2 ds ms ds2 ms2 := ⟨_, rfl⟩
  rw [← hec] at HCK
  have HEC := Lib.hid hec
  clear h h2 hf hg hm hm2 hmf hmg k1 k2 hr hrg hr2 hb2 hb01 hec hs
  go_enter Try.func120, Try.ntmps120
  go_upto_region 1 with fail
  rw [← hw1]
  clear hw1
  go_wp2_with fail
  rw [← hw2]
  clear hw2
  refine HCK.out.mono ?_
  rintro e w3 ⟨rfl, hb3⟩
  have HB3 := Lib.hid (HB2.out.trans (hb3.mono HB2.out.size))
  have HX3 := Lib.hid (HNX.out _ HB3.out)
  have HY3 := Lib.hid (HNY.out _ HB3.out)
  clear hb3 c0 c1 c2 d0 d1 d2 HX0 HY0 HCK HB2
  by_cases h0 : ec = 0
  · subst h0
    have hE := endCode_zero HEC.out.symm
    have hIF := isFamily_any p p2 s _ _ _ _ _ ds ms ds2 ms2 fs w3 HX3.out.cx HY3.out.cx (HF0.out.below HB3.out) hE.x hE.y HS.out HMF.out
    have HIF := Lib.hid hIF
    have c0 := HX3.out.c0
    have c1 := HX3.out.c1
    have c2 := HX3.out.c2
    have d0 := HY3.out.c0
    have d1 := HY3.out.c1
    have d2 := HY3.out.c2
    have hr3 := later HB3.out (Nat.le_refl _) HR1.out
    have HE := Lib.hid hE
    clear hE hIF
    go_wp2
    refine wp_loop_rounds 3 ?_
    rw [rounds_succ]
    go_wp2_with fail
    refine HIF.out.mono ?_
    rintro e w4 ⟨bb, rfl, hb4, hbb⟩
    have HX4 := Lib.hid (HX3.out.next hb4)
    have HY4 := Lib.hid (HY3.out.next hb4)
    have HB4 := Lib.hid (HB3.out.trans (hb4.mono HB3.out.size))
    clear hb4 c0 c1 c2 d0 d1 d2 hr3 HIF
    by_cases hT : FamOk p ds ds2 s fs
    · obtain rfl : bb = true := hbb.2 hT
      have HT := Lib.hid hT
      have c0 := HX4.out.c0
      have c1 := HX4.out.c1
      have c2 := HX4.out.c2
      have d0 := HY4.out.c0
      have d1 := HY4.out.c1
      have d2 := HY4.out.c2
      have hr4 := later HB4.out (Nat.le_refl _) HR1g.out
      have HIG := Lib.hid (isFamily_any p p2 s _ _ _ _ _ ds ms ds2 ms2 gs w4 HX4.out.cx HY4.out.cx (HG0.out.below HB4.out) HE.out.x HE.out.y HS.out HMG.out)
      clear hT hbb
      go_wp2
      rw [rounds_succ]
      go_wp2_with fail
      refine HIG.out.mono ?_
      rintro e w5 ⟨bb, rfl, hb5, hbb⟩
      have HB5 := Lib.hid (HX4.out.next hb5).below
      clear hb5 c0 c1 c2 d0 d1 d2 hr4 HIG
      by_cases hG : FamOk p ds ds2 s gs
      · obtain rfl : bb = true := hbb.2 hG
        have HG := Lib.hid hG
        clear hG hbb
        go_wp2
        rw [rounds_succ]
        go_wp2
        go_ret
        exact ⟨ret_int (by unfold famCode2; rw [if_pos HEC.out.symm, if_pos ⟨HT.out, HG.out⟩]), HB5.out⟩
      · obtain rfl : bb = false := bb_no hbb hG
        have HG := Lib.hid hG
        clear hG hbb
        go_wp2
        go_ret
        exact ⟨ret_int (by unfold famCode2; rw [if_pos HEC.out.symm, if_neg (fun h => HG.out h.2)]), HB5.out⟩
    · obtain rfl : bb = false := bb_no hbb hT
      have HT := Lib.hid hT
      clear hT hbb
      go_wp2
      go_ret
      exact ⟨ret_int (by unfold famCode2; rw [if_pos HEC.out.symm, if_neg (fun h => HT.out h.1)]), HX4.out.below⟩
  · have hne2 : (ec != 0) = true := by simp [h0]
    have hne3 : (ec == 0) = false := by simp [h0]
    have HNE := Lib.hid h0
    clear h0
    go_wp2
    go_ret
    exact ⟨ret_int (by unfold famCode2; rw [← HEC.out, if_neg HNE.out]), HX3.out.below⟩
end Go.Proofs.Ytpdkfidmmjlmnab
