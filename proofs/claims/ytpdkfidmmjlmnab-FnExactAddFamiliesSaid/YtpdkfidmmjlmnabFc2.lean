/-
  spec.l04Code on two families by its contract.
-/
import Derived.Test.YtpdkfidmmjlmnabFa2
import Derived.Test.YtpdkfidmmjlmnabFaS
namespace Go.Proofs.Ytpdkfidmmjlmnab
open Go.RowKit

set_option maxHeartbeats 6400000 in
set_option maxRecDepth 100000 in
theorem l04Code2_any (p p2 : Int) (b : Nat) (dv mv dv2 mv2 fv gv : Value) (ds : List Int) (ms : List (List (List Int))) (ds2 : List Int) (ms2 : List (List (List Int))) (fs gs : List (List (List Int))) (w : World) (h : Cx 0 w dv mv ds ms) (h2 : Cx 0 w dv2 mv2 ds2 ms2) (hf : L3 0 w fv fs) (hg : L3 0 w gv gs) (hr : w.cell? ⟨b, 0, none⟩ = some fv) (hrg : w.cell? ⟨b, 1, none⟩ = some gv) (hd : ds.length ≤ 1048576) (hm : Bd3 1048576 ms) (hd2 : ds2.length ≤ 1048576) (hm2 : Bd3 1048576 ms2) (hmf : Bd3 1048576 fs) (hmg : Bd3 1048576 gs) :
    Calls Try.prog 116 #[.agg #[.int .i64 p, dv, mv], .agg #[.int .i64 p2, dv2, mv2], .slice (some ⟨b, 0, none⟩) 2 2] w (BR (.int .i64 (famCode2 p p2 0 ds ms ds2 ms2 fs gs)) w) := by
  obtain ⟨ad, cap, rfl⟩ := Sl.shape h.dims
  obtain ⟨am, capm, rfl⟩ := Sl.shape h.maps
  obtain ⟨ad2, cap2, rfl⟩ := Sl.shape h2.dims
  obtain ⟨am2, capm2, rfl⟩ := Sl.shape h2.maps
  obtain ⟨af, cf, rfl⟩ := Sl.shape hf
  obtain ⟨ag, cg, rfl⟩ := Sl.shape hg
  obtain ⟨k1, k2⟩ := bx_two (p := p) (p2 := p2) 31 h h2
  have HX0 := Lib.hid k1
  have HY0 := Lib.hid k2
  obtain ⟨w1, hw1⟩ : ∃ w1, w1 = ((w.alloc (.cells #[.int .i64 p, .slice ad ds.length cap, .slice am ms.length capm] 31)).alloc (.cells #[.int .i64 p2, .slice ad2 ds2.length cap2, .slice am2 ms2.length capm2] 31)) := ⟨_, rfl⟩
  rw [← hw1] at HX0 HY0
  have hb01 : Below w.heap.size w w1 := HX0.out.below
  have HF0 := Lib.hid (hf.below hb01)
  have HG0 := Lib.hid (hg.below hb01)
  have HMG := Lib.hid hmg
  have HR1g := Lib.hid (later hb01 (Nat.le_refl _) hrg)
  have HNX : Hid (∀ W, Below w1.heap.size w1 W → Bx w W w.heap.size p (.slice ad ds.length cap) (.slice am ms.length capm) ds ms) := Lib.hid (fun W h => HX0.out.next h)
  have HNY : Hid (∀ W, Below w1.heap.size w1 W → Bx w W (w.heap.size + 1) p2 (.slice ad2 ds2.length cap2) (.slice am2 ms2.length capm2) ds2 ms2) := Lib.hid (fun W h => HY0.out.next h)
  have HMF := Lib.hid hmf
  have HR1 := Lib.hid (later hb01 (Nat.le_refl _) hr)
  have c0 := HX0.out.c0
  have c1 := HX0.out.c1
  have c2 := HX0.out.c2
  have d0 := HY0.out.c0
  have d1 := HY0.out.c1
  have d2 := HY0.out.c2
  have HCK := Lib.hid (l04Two_any p p2 _ _ _ _ ds ms ds2 ms2 w1 HX0.out.cx HY0.out.cx hd hm hd2 hm2)
  obtain ⟨ec, hec⟩ : ∃ ec, ec = endCode p p2 ds ms ds2 ms2 := ⟨_, rfl⟩
  rw [← hec] at HCK
  have HEC := Lib.hid hec
  clear h h2 hf hg hm hm2 hmf hmg k1 k2 hr hrg hb01 hec
  go_enter Try.func116, Try.ntmps116
  go_upto_region 1 with fail
  rw [← hw1]
  clear hw1
  go_wp2_with fail
  refine HCK.out.mono ?_
  rintro e w3 ⟨rfl, hb3⟩
  have HB3 := Lib.hid hb3
  have HX3 := Lib.hid (HNX.out _ HB3.out)
  have HY3 := Lib.hid (HNY.out _ HB3.out)
  clear hb3 c0 c1 c2 d0 d1 d2 HX0 HY0 HCK
  by_cases h0 : ec = 0
  · subst h0
    have hE := endCode_zero HEC.out.symm
    have HE := Lib.hid hE
    have c0 := HX3.out.c0
    have c1 := HX3.out.c1
    have c2 := HX3.out.c2
    have d0 := HY3.out.c0
    have d1 := HY3.out.c1
    have d2 := HY3.out.c2
    have hr3 := later HB3.out (Nat.le_refl _) HR1.out
    have HSP : Hid (∀ W, Below w3.heap.size w3 W → W.cell? ⟨b, 0, none⟩ = some (.slice af fs.length cf) ∧ W.cell? ⟨w.heap.size, 0, none⟩ = some (.int .i64 p) ∧ W.cell? ⟨w.heap.size, 1, none⟩ = some (.slice ad ds.length cap) ∧ W.cell? ⟨w.heap.size, 2, none⟩ = some (.slice am ms.length capm) ∧ W.cell? ⟨w.heap.size + 1, 0, none⟩ = some (.int .i64 p2) ∧ W.cell? ⟨w.heap.size + 1, 1, none⟩ = some (.slice ad2 ds2.length cap2) ∧ W.cell? ⟨w.heap.size + 1, 2, none⟩ = some (.slice am2 ms2.length capm2)) := Lib.hid (fun W h => ⟨later h (Nat.le_refl _) hr3, later h (Nat.le_refl _) c0, later h (Nat.le_refl _) c1, later h (Nat.le_refl _) c2, later h (Nat.le_refl _) d0, later h (Nat.le_refl _) d1, later h (Nat.le_refl _) d2⟩)
    have HDD : Hid (Below w3.heap.size w3 w3.drew) := Lib.hid (Below.refl _ _).drew
    have HIF : Hid (∀ W, Below w3.heap.size w3 W → Calls Try.prog 124 #[.agg #[.int .i64 p, .slice ad ds.length cap, .slice am ms.length capm], .agg #[.int .i64 p2, .slice ad2 ds2.length cap2, .slice am2 ms2.length capm2], .slice af fs.length cf, .int .i64 0] W (BB (FamOk p ds ds2 0 fs) W)) := Lib.hid (fun W h => l04Family_any p p2 0 _ _ _ _ _ ds ms ds2 ms2 fs W (HX3.out.next h).cx (HY3.out.next h).cx (HF0.out.below (HB3.out.trans (h.mono HB3.out.size))) HE.out.x HE.out.y ⟨by omega, by omega⟩ HMF.out)
    have hr3g := later HB3.out (Nat.le_refl _) HR1g.out
    have HSPG : Hid (∀ W, Below w3.heap.size w3 W → W.cell? ⟨b, 1, none⟩ = some (.slice ag gs.length cg) ∧ W.cell? ⟨w.heap.size, 0, none⟩ = some (.int .i64 p) ∧ W.cell? ⟨w.heap.size, 1, none⟩ = some (.slice ad ds.length cap) ∧ W.cell? ⟨w.heap.size, 2, none⟩ = some (.slice am ms.length capm) ∧ W.cell? ⟨w.heap.size + 1, 0, none⟩ = some (.int .i64 p2) ∧ W.cell? ⟨w.heap.size + 1, 1, none⟩ = some (.slice ad2 ds2.length cap2) ∧ W.cell? ⟨w.heap.size + 1, 2, none⟩ = some (.slice am2 ms2.length capm2)) := Lib.hid (fun W h => ⟨later h (Nat.le_refl _) hr3g, later h (Nat.le_refl _) c0, later h (Nat.le_refl _) c1, later h (Nat.le_refl _) c2, later h (Nat.le_refl _) d0, later h (Nat.le_refl _) d1, later h (Nat.le_refl _) d2⟩)
    have HIG : Hid (∀ W, Below w3.heap.size w3 W → Calls Try.prog 124 #[.agg #[.int .i64 p, .slice ad ds.length cap, .slice am ms.length capm], .agg #[.int .i64 p2, .slice ad2 ds2.length cap2, .slice am2 ms2.length capm2], .slice ag gs.length cg, .int .i64 0] W (BB (FamOk p ds ds2 0 gs) W)) := Lib.hid (fun W h => l04Family_any p p2 0 _ _ _ _ _ ds ms ds2 ms2 gs W (HX3.out.next h).cx (HY3.out.next h).cx (HG0.out.below (HB3.out.trans (h.mono HB3.out.size))) HE.out.x HE.out.y ⟨by omega, by omega⟩ HMG.out)
    clear hE hr3g
    go_wp2
    refine wp_loop_rounds 3 ?_
    rw [rounds_succ]
    go_wp2
    go_region_held3 (fun W => W.cell? ⟨b, 0, none⟩ = some (.slice af fs.length cf) ∧ W.cell? ⟨w.heap.size, 0, none⟩ = some (.int .i64 p) ∧ W.cell? ⟨w.heap.size, 1, none⟩ = some (.slice ad ds.length cap) ∧ W.cell? ⟨w.heap.size, 2, none⟩ = some (.slice am ms.length capm) ∧ W.cell? ⟨w.heap.size + 1, 0, none⟩ = some (.int .i64 p2) ∧ W.cell? ⟨w.heap.size + 1, 1, none⟩ = some (.slice ad2 ds2.length cap2) ∧ W.cell? ⟨w.heap.size + 1, 2, none⟩ = some (.slice am2 ms2.length capm2))
      (first | exact HSP.out _ (Below.refl _ _) | exact HSP.out _ HDD.out | exact HSP.out _ HB4.out | go_keep)
      ((go_at_call 124; (with_reducible refine (HIF.out _ HDD.out).mono ?_); rintro e w4 ⟨bb, rfl, hb4, hbb⟩; have HB4 : Hid (Below w3.heap.size w3 w4) := Lib.hid (HDD.out.trans hb4); have HBB := Lib.hid hbb; clear hb4 hbb))
    have HBZ := Lib.hid (HX3.out.next HB4.out).below
    clear c0 c1 c2 d0 d1 d2 hr3 HIF HSP
    have hbb := HBB.out
    clear HBB
    by_cases hT : FamOk p ds ds2 0 fs
    · obtain rfl : bb = true := hbb.2 hT
      have HT := Lib.hid hT
      have HD4 : Hid (Below w3.heap.size w3 w4.drew) := Lib.hid HB4.out.drew
      have hs4 : w3.heap.size ≤ w4.heap.size := HB4.out.size
      obtain ⟨g0, c0, c1, c2, d0, d1, d2⟩ := HSPG.out _ HB4.out
      clear hT hbb
      go_wp2
      rw [rounds_succ]
      go_wp2
      go_region_held3 (fun W => W.cell? ⟨b, 1, none⟩ = some (.slice ag gs.length cg) ∧ W.cell? ⟨w.heap.size, 0, none⟩ = some (.int .i64 p) ∧ W.cell? ⟨w.heap.size, 1, none⟩ = some (.slice ad ds.length cap) ∧ W.cell? ⟨w.heap.size, 2, none⟩ = some (.slice am ms.length capm) ∧ W.cell? ⟨w.heap.size + 1, 0, none⟩ = some (.int .i64 p2) ∧ W.cell? ⟨w.heap.size + 1, 1, none⟩ = some (.slice ad2 ds2.length cap2) ∧ W.cell? ⟨w.heap.size + 1, 2, none⟩ = some (.slice am2 ms2.length capm2))
        (first | exact HSPG.out _ HB4.out | exact HSPG.out _ HD4.out | exact HSPG.out _ HB5.out | go_keep)
        ((go_at_call 124; (with_reducible refine (HIG.out _ HD4.out).mono ?_); rintro e w5 ⟨bb, rfl, hb5, hbb⟩; have HB5 : Hid (Below w3.heap.size w3 w5) := Lib.hid (HD4.out.trans (hb5.mono hs4)); have HBB := Lib.hid hbb; clear hb5 hbb))
      have HBY := Lib.hid (HX3.out.next HB5.out).below
      clear g0 c0 c1 c2 d0 d1 d2 HIG HSPG HB5 HB4
      have hbb := HBB.out
      by_cases hG : FamOk p ds ds2 0 gs
      · obtain rfl : bb = true := hbb.2 hG
        have HG := Lib.hid hG
        clear hG hbb
        go_wp2
        rw [rounds_succ]
        go_wp2
        go_ret
        exact ⟨ret_int (by unfold famCode2; rw [if_pos HEC.out.symm, if_pos ⟨HT.out, HG.out⟩]), HBY.out⟩
      · obtain rfl : bb = false := bb_no hbb hG
        have HG := Lib.hid hG
        clear hG hbb
        go_wp2
        go_ret
        exact ⟨ret_int (by unfold famCode2; rw [if_pos HEC.out.symm, if_neg (fun h => HG.out h.2)]), HBY.out⟩
    · obtain rfl : bb = false := bb_no hbb hT
      have HT := Lib.hid hT
      clear hT hbb
      go_wp2
      go_ret
      exact ⟨ret_int (by unfold famCode2; rw [if_pos HEC.out.symm, if_neg (fun h => HT.out h.1)]), HBZ.out⟩
  · have hne2 : (ec != 0) = true := by simp [h0]
    have hne3 : (ec == 0) = false := by simp [h0]
    have HNE := Lib.hid h0
    clear h0
    go_wp2
    go_ret
    exact ⟨ret_int (by unfold famCode2; rw [← HEC.out, if_neg HNE.out]), HX3.out.below⟩
end Go.Proofs.Ytpdkfidmmjlmnab
