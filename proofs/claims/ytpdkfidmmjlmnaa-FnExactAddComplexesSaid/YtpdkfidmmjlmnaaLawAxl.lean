/-
  laws.FnExactAddComplexes by its walk.
-/
import Derived.Test.YtpdkfidmmjlmnaaAxs
import Derived.Test.YtpdkfidmmjlmnaaGwc
import Derived.Test.YtpdkfidmmjlmnaaQh
import Derived.Test.YtpdkfidmmjlmnaaRw
import Derived.Test.YtpdkfidmmjlmnaaEnd
import Derived.Test.YtpdkfidmmjlmnaaQg
import Derived.Test.YtpdkfidmmjlmnaaSrw
import Derived.Deep.RegionWith
import Derived.Deep.RegionHeld3
import Derived.Deep.Cut
import Derived.Deep.CutRange
import Derived.BigRegion
import Derived.BigQuiet
import Derived.Deep.QuietTactic
namespace Go.Proofs.Ytpdkfidmmjlmnaa
open Go.RowKit

theorem hloadLawAxl0_Cx (w : World) {b : Nat} {y0 y1 y2 : Value} (c0 : w.cell? ⟨b, 0, none⟩ = some y0) (c1 : w.cell? ⟨b, 1, none⟩ = some y1) (c2 : w.cell? ⟨b, 2, none⟩ = some y2) : (Instr.loadAt 25 (.pointer (some ⟨b, 0, none⟩))).run Try.prog w = .ok (.agg #[y0, y1, y2]) w := by go_simp
theorem hloadLawAxl_Cx {w0 : World} (w : World) {b : Nat} {p : Int} {dv mv : Value} {ds : List Int} {ms : List (List (List Int))} (h : Bx w0 w b p dv mv ds ms) : (Instr.loadAt 25 (.pointer (some ⟨b, 0, none⟩))).run Try.prog w = .ok (.agg #[.int .i64 p, dv, mv]) w := hloadLawAxl0_Cx w h.c0 h.c1 h.c2
theorem infoLawAxl (y0 y1 y2 : Value) : (Try.prog.info? 28).map (·.size) = some (#[y0, y1, y2] : Array Value).size := by kernel_rfl

set_option maxHeartbeats 25600000 in
set_option maxRecDepth 100000 in
theorem lawAxl_any (p0 : Int) (dv0 mv0 : Value) (ds0 : List Int) (ms0 : List (List (List Int))) (p1 : Int) (dv1 mv1 : Value) (ds1 : List Int) (ms1 : List (List (List Int))) (w : World) (h0 : Cx 0 w dv0 mv0 ds0 ms0) (hdl0 : ds0.length ≤ 9223372036854775807) (hml0 : Bd3 9223372036854775807 ms0) (h1 : Cx 0 w dv1 mv1 ds1 ms1) (hdl1 : ds1.length ≤ 9223372036854775807) (hml1 : Bd3 9223372036854775807 ms1) :
    Calls Try.prog 13 #[.agg #[.int .i64 p0, dv0, mv0], .agg #[.int .i64 p1, dv1, mv1]] w (BR (.bool true) w) := by
  obtain ⟨W0, hW0⟩ : ∃ W0, W0 = ((w.alloc (.cells #[.int .i64 p0, dv0, mv0] 25)).alloc (.cells #[.int .i64 p1, dv1, mv1] 25)) := ⟨_, rfl⟩
  have HS0 : Hid (W0.heap.size = w.heap.size + 2) := Lib.hid (by rw [hW0]; simp)
  have HZ0 : Hid (Below w.heap.size w W0) := Lib.hid (by rw [hW0]; exact (below_alloc1 _ _).trans ((below_alloc1 _ _).mono (by simp)))
  have HK0 : Hid (Bx w W0 (w.heap.size) p0 dv0 mv0 ds0 ms0) := Lib.hid (by rw [hW0]; exact (bx_two _ h0 h1).1)
  have HK1 : Hid (Bx w W0 (w.heap.size + 1) p1 dv1 mv1 ds1 ms1) := Lib.hid (by rw [hW0]; exact (bx_two _ h0 h1).2)
  have HN0 : Hid (∀ W, Below (w.heap.size + 2) W0 W → Bx w W (w.heap.size) p0 dv0 mv0 ds0 ms0) := Lib.hid (fun W hb => HK0.out.next (by rw [HS0.out]; exact hb))
  have HN1 : Hid (∀ W, Below (w.heap.size + 2) W0 W → Bx w W (w.heap.size + 1) p1 dv1 mv1 ds1 ms1) := Lib.hid (fun W hb => HK1.out.next (by rw [HS0.out]; exact hb))
  have HNW : Hid (∀ W, Below (w.heap.size + 2) W0 W → Below w.heap.size w W) := Lib.hid (fun W hb => HZ0.out.trans (hb.mono (by omega)))
  have HB : Hid (Below (w.heap.size + 2) W0 W0) := Lib.hid (Below.refl _ _)
  have hs0 : w.heap.size + 2 ≤ W0.heap.size := by have := HS0.out; omega
  have HML0 := Lib.hid hml0
  have HML1 := Lib.hid hml1
  clear h0 h1 hml0 hml1 HK0 HK1
  go_enter Try.func13, Try.ntmps13
  go_upto_region 1 with fail
  rw [← hW0]
  clear hW0
  have c00 := (HN0.out _ HB.out).c0
  have c01 := (HN0.out _ HB.out).c1
  have c02 := (HN0.out _ HB.out).c2
  go_wp2_with fail
  refine (szComplex_any p0 dv0 mv0 ds0 ms0 1048576 _ (HN0.out _ HB.out).cx.dims (HN0.out _ HB.out).cx.maps (by omega) (by omega) hdl0 HML0.out).mono ?_
  rintro ee wz0 ⟨sz0, rfl, hb, hpost⟩
  have hsz0 : W0.heap.size ≤ wz0.heap.size := hb.size
  have HB' := Lib.hid (HB.out.trans (hb.mono (by omega)))
  clear c00 c01 c02
  clear hb HB
  have HB := HB'
  clear HB'
  rcases hpost with rfl | ⟨hp00, hp01, hds0, hpm0⟩
  · go_wp2
    go_ret
    exact ⟨rfl, HNW.out _ HB.out⟩
  have hds0 : ds0.length ≤ 1048576 := hds0
  have HMS0 := Lib.hid hpm0
  clear hpm0
  have c10 := (HN1.out _ HB.out).c0
  have c11 := (HN1.out _ HB.out).c1
  have c12 := (HN1.out _ HB.out).c2
  go_wp2_with fail
  refine (szComplex_any p1 dv1 mv1 ds1 ms1 sz0 _ (HN1.out _ HB.out).cx.dims (HN1.out _ HB.out).cx.maps (by omega) (by omega) hdl1 HML1.out).mono ?_
  rintro ee wz1 ⟨sz1, rfl, hb, hpost⟩
  have hsz1 : wz0.heap.size ≤ wz1.heap.size := hb.size
  have HB' := Lib.hid (HB.out.trans (hb.mono (by omega)))
  clear c10 c11 c12
  clear hb HB
  have HB := HB'
  clear HB'
  rcases hpost with rfl | ⟨hp10, hp11, hds1, hpm1⟩
  · go_wp2
    go_ret
    exact ⟨rfl, HNW.out _ HB.out⟩
  have hds1 : ds1.length ≤ 1048576 := hds1
  have HMS1 := Lib.hid hpm1
  clear hpm1
  have HQ0 : Hid (∀ W', Below wz1.heap.size wz1 W' → Bx w W' (w.heap.size) p0 dv0 mv0 ds0 ms0) := Lib.hid (fun W' hb => HN0.out _ (HB.out.trans (hb.mono (by omega))))
  have HQ1 : Hid (∀ W', Below wz1.heap.size wz1 W' → Bx w W' (w.heap.size + 1) p1 dv1 mv1 ds1 ms1) := Lib.hid (fun W' hb => HN1.out _ (HB.out.trans (hb.mono (by omega))))
  go_upto_region 8 with fail
  go_cut [6, 7] from 17 (fun s6 s7 wz => ∃ (gS : Nat) (kS : Int) (oSp : Int) (oSd : List Int) (oSm : List (List (List Int))) (aSd : Option Addr) (cSd : Nat) (aSm : Option Addr) (cSm : Nat), s6 = .pointer (some ⟨gS, 0, none⟩) ∧ s7 = .int .i64 kS ∧ Hid (Below wz1.heap.size wz1 wz) ∧ Hid (Bq wz gS oSp (.slice aSd oSd.length cSd) (.slice aSm oSm.length cSm) oSd oSm) ∧ Hid (RsOut (fun o => o = axOut p0 ds0 ms0 p1 ds1 ms1) (0, [], []) (axCode p0 ds0 ms0 p1 ds1 ms1) (oSp, oSd, oSm) kS))
  case first =>
    go_wp2
    refine wp_region_held (S := fun W => Below (wz1.heap.size) wz1 W) (by kernel_rfl) ?_
    have S0 : Below (wz1.heap.size) wz1 wz1.drew := (Below.refl _ _).drew
    have hB0 : wz1.heap.size ≤ wz1.heap.size := Nat.le_refl _
    have hsd : wz1.heap.size ≤ wz1.drew.heap.size := Nat.le_refl _
    have hbd : Below wz1.heap.size wz1 wz1.drew := (Below.refl _ _).drew
    change wpAnyH _ _ _ _ _ _ _ _ wz1.drew
    obtain ⟨wd, hwd⟩ : ∃ wd, wd = wz1.drew := ⟨_, rfl⟩
    rw [← hwd] at S0 hsd hbd ⊢
    clear hwd
    refine held_take (i := 0) (v := .agg #[.int .i64 p0, dv0, mv0]) (some 28) rfl rfl (by kernel_rfl) (by kernel_rfl) (by kernel_rfl) (fun _ _ _ h => h) (yieldsIf_cell (by kernel_rfl) rfl (by kernel_rfl) (fun W h => hloadLawAxl_Cx W (HQ0.out W h))) S0 ?_
    refine held_take (i := 2) (v := .agg #[.int .i64 p1, dv1, mv1]) (some 30) rfl rfl (by kernel_rfl) (by kernel_rfl) (by kernel_rfl) (fun _ _ _ h => h) (yieldsIf_cell (by kernel_rfl) rfl (by kernel_rfl) (fun W h => hloadLawAxl_Cx W (HQ1.out W h))) S0 ?_
    refine held_two (i := 1) (j := 8) (by kernel_rfl) ?_ ?_
    · refine op_enter (i := 1) (some 29) (f := 25) (args := #[.agg #[.int .i64 p0, dv0, mv0]]) rfl rfl rfl (by kernel_rfl) (toComplex_any p0 dv0 mv0 ds0 ms0 _ (HQ0.out _ S0).cx hds0 HMS0.out) ?_ (fun c w' h => by obtain ⟨_, _, he, _⟩ := h; cases he) (fun w' h => by obtain ⟨_, _, he, _⟩ := h; cases he)
      rintro ee W1 ⟨xdv0, xmv0, he, hc1, hb1⟩
      injection he with he
      subst he
      have S1 : Below (wz1.heap.size) wz1 W1 := S0.trans (hb1.mono (Nat.le_trans hB0 S0.size))
      have hx0_1 := hc1.zero
      refine ⟨S1, ?_⟩
      refine held_two (i := 3) (j := 8) (by kernel_rfl) ?_ ?_
      · refine op_enter (i := 3) (some 31) (f := 25) (args := #[.agg #[.int .i64 p1, dv1, mv1]]) rfl rfl rfl (by kernel_rfl) (toComplex_any p1 dv1 mv1 ds1 ms1 _ (HQ1.out _ S1).cx hds1 HMS1.out) ?_ (fun c w' h => by obtain ⟨_, _, he, _⟩ := h; cases he) (fun w' h => by obtain ⟨_, _, he, _⟩ := h; cases he)
        rintro ee W2 ⟨xdv1, xmv1, he, hc2, hb2⟩
        injection he with he
        subst he
        have S2 : Below (wz1.heap.size) wz1 W2 := S1.trans (hb2.mono (Nat.le_trans hB0 S1.size))
        have hx0_2 := hx0_1.below hb2
        have hx1_2 := hc2.zero
        refine ⟨S2, ?_⟩
        refine held_two (i := 4) (j := 8) (by kernel_rfl) ?_ ?_
        · refine op_enter (i := 4) (some 32) (f := 56) (args := #[.agg #[.int .i64 p0, xdv0, xmv0], .agg #[.int .i64 p1, xdv1, xmv1]]) rfl rfl rfl (by kernel_rfl) (spAddComplexes_any p0 p1 _ _ _ _ ds0 ms0 ds1 ms1 _ (hx0_2) (hx1_2) hds0 HMS0.out hds1 HMS1.out) ?_ (fun c w' h => by obtain ⟨_, _, _, he, _⟩ := h; cases he) (fun w' h => by obtain ⟨_, _, _, he, _⟩ := h; cases he)
          rintro ee W3 ⟨u3, o3, k3, he, hr3, hb3, ho3⟩
          injection he with he
          subst he
          obtain ⟨oSp, oSd, oSm⟩ := o3
          obtain ⟨aSd, cSd, aSm, cSm, hu, hgd3, hgm3⟩ := hr3
          have hu : u3 = .agg #[.int .i64 oSp, .slice aSd oSd.length cSd, .slice aSm oSm.length cSm] := hu
          subst hu
          have S3 : Below (wz1.heap.size) wz1 W3 := S2.trans (hb3.mono (Nat.le_trans hB0 S2.size))
          refine ⟨S3, ?_⟩
          refine held_take (i := 5) (v := .tuple #[.agg #[.int .i64 oSp, .slice aSd oSd.length cSd, .slice aSm oSm.length cSm], .int .i64 k3]) (some 27) rfl rfl (by kernel_rfl) (by kernel_rfl) (by kernel_rfl) (fun _ _ _ h => h) (yieldsIf_move (by kernel_rfl) rfl (by kernel_rfl)) S3 ?_
          refine held_take (i := 6) (v := .agg #[.int .i64 oSp, .slice aSd oSd.length cSd, .slice aSm oSm.length cSm]) (some 33) rfl rfl (by kernel_rfl) (by kernel_rfl) (by kernel_rfl) (fun _ _ _ h => h) (yieldsIf_run (by kernel_rfl) (fun W _ => by kernel_rfl)) S3 ?_
          refine held_take (i := 7) (v := .int .i64 k3) (some 34) rfl rfl (by kernel_rfl) (by kernel_rfl) (by kernel_rfl) (fun _ _ _ h => h) (yieldsIf_run (by kernel_rfl) (fun W _ => by kernel_rfl)) S3 ?_
          refine held_one (i := 8) (by kernel_rfl) ?_
          · obtain ⟨W4, hW4⟩ : ∃ W', W' = W3.alloc (.cells #[.int .i64 0, .slice none 0 0, .slice none 0 0] 28) := ⟨_, rfl⟩
            have hb4 : Below W3.heap.size W3 W4 := by rw [hW4]; exact below_alloc1 _ _
            have hAR4 : Rz W4 W3.heap.size 28 #[.int .i64 0, .slice none 0 0, .slice none 0 0] := by rw [hW4]; exact Rz.new _ _ _
            have S4 : Below (wz1.heap.size) wz1 W4 := S3.trans (hb4.mono (Nat.le_trans hB0 S3.size))
            have hGR : wz1.heap.size ≤ W3.heap.size := Nat.le_trans hB0 S3.size
            have hgd_4 := hgd3.below hb4
            have hgm_4 := hgm3.below hb4
            refine op_mem (i := 8) (v := .pointer (some ⟨W3.heap.size, 0, none⟩)) (w' := W4) (some 6) rfl rfl rfl (by rw [hW4]; go_simp) ?_
            refine ⟨S4, ?_⟩
            have hAR := hAR4
            have S5 : Below (wz1.heap.size) wz1 (W4.setRow (W3.heap.size) #[.int .i64 oSp, .slice aSd oSd.length cSd, .slice aSm oSm.length cSm]) := below_setRow S4 hGR _
            refine held_one (i := 9) (by kernel_rfl) ?_
            refine op_row (i := 9) rfl rfl rfl 28 (.tmp 6) (.tmp 33) rfl (W3.heap.size) #[.int .i64 oSp, .slice aSd oSd.length cSd, .slice aSm oSm.length cSm] (by kernel_rfl) (by kernel_rfl) 28 _ hAR4 (infoLawAxl _ _ _) (by kernel_rfl) (by kernel_rfl) ?_
            refine ⟨S5, ?_⟩
            have hAR5 := hAR4.set #[.int .i64 oSp, .slice aSd oSd.length cSd, .slice aSm oSm.length cSm]
            refine held_take (i := 10) (v := .int .i64 k3) (some 7) rfl rfl (by kernel_rfl) (by kernel_rfl) (by kernel_rfl) (fun _ _ _ h => h) (yieldsIf_assign (by kernel_rfl) rfl (by kernel_rfl)) S5 ?_
            refine wpAnyH_done (by kernel_rfl) ?_ _
            simp only [Act.put, List.setIfInBounds_toArray, List.set_cons_zero, List.set_cons_succ]
            obtain ⟨WF, hWF⟩ : ∃ WF, WF = (W4.setRow (W3.heap.size) #[.int .i64 oSp, .slice aSd oSd.length cSd, .slice aSm oSm.length cSm]) := ⟨_, rfl⟩
            have hbf : Below wz1.heap.size wz1 WF := by rw [hWF]; exact S5
            have hrf : Rz WF (W3.heap.size) 28 #[.int .i64 oSp, .slice aSd oSd.length cSd, .slice aSm oSm.length cSm] := by rw [hWF]; exact hAR5
            have hGd := hgd_4.offRowC hAR (by decide) #[.int .i64 oSp, .slice aSd oSd.length cSd, .slice aSm oSm.length cSm]
            have hGm := hgm_4.offRowC hAR (by decide) #[.int .i64 oSp, .slice aSd oSd.length cSd, .slice aSm oSm.length cSm]
            rw [← hWF] at hGd hGm
            rw [← hWF]
            clear hWF
            go_wp2
            go_meet
            exact ⟨_, k3, oSp, oSd, oSm, aSd, cSd, aSm, cSm, rfl, rfl, Lib.hid hbf, Lib.hid ⟨hrf.cell rfl, hrf.cell rfl, hrf.cell rfl, hrf.lt, ⟨hGd.l1, hGm.l3⟩⟩, Lib.hid ho3⟩
        · obtain ⟨W6, hW6⟩ : ∃ W', W' = W2.alloc (.cells #[.int .i64 0, .slice none 0 0, .slice none 0 0] 28) := ⟨_, rfl⟩
          have hb6 : Below W2.heap.size W2 W6 := by rw [hW6]; exact below_alloc1 _ _
          have hAR6 : Rz W6 W2.heap.size 28 #[.int .i64 0, .slice none 0 0, .slice none 0 0] := by rw [hW6]; exact Rz.new _ _ _
          have S6 : Below (wz1.heap.size) wz1 W6 := S2.trans (hb6.mono (Nat.le_trans hB0 S2.size))
          have hGR : wz1.heap.size ≤ W2.heap.size := Nat.le_trans hB0 S2.size
          have hx0_6 := hx0_2.below hb6
          have hx1_6 := hx1_2.below hb6
          refine op_mem (i := 8) (v := .pointer (some ⟨W2.heap.size, 0, none⟩)) (w' := W6) (some 6) rfl rfl rfl (by rw [hW6]; go_simp) ?_
          refine ⟨S6, ?_⟩
          refine held_one (i := 4) (by kernel_rfl) ?_
          · refine op_enter (i := 4) (some 32) (f := 56) (args := #[.agg #[.int .i64 p0, xdv0, xmv0], .agg #[.int .i64 p1, xdv1, xmv1]]) rfl rfl rfl (by kernel_rfl) (spAddComplexes_any p0 p1 _ _ _ _ ds0 ms0 ds1 ms1 _ (hx0_6) (hx1_6) hds0 HMS0.out hds1 HMS1.out) ?_ (fun c w' h => by obtain ⟨_, _, _, he, _⟩ := h; cases he) (fun w' h => by obtain ⟨_, _, _, he, _⟩ := h; cases he)
            rintro ee W7 ⟨u7, o7, k7, he, hr7, hb7, ho7⟩
            injection he with he
            subst he
            obtain ⟨oSp, oSd, oSm⟩ := o7
            obtain ⟨aSd, cSd, aSm, cSm, hu, hgd7, hgm7⟩ := hr7
            have hu : u7 = .agg #[.int .i64 oSp, .slice aSd oSd.length cSd, .slice aSm oSm.length cSm] := hu
            subst hu
            have S7 : Below (wz1.heap.size) wz1 W7 := S6.trans (hb7.mono (Nat.le_trans hB0 S6.size))
            have hAR7 := hAR6.next hb7
            refine ⟨S7, ?_⟩
            refine held_take (i := 5) (v := .tuple #[.agg #[.int .i64 oSp, .slice aSd oSd.length cSd, .slice aSm oSm.length cSm], .int .i64 k7]) (some 27) rfl rfl (by kernel_rfl) (by kernel_rfl) (by kernel_rfl) (fun _ _ _ h => h) (yieldsIf_move (by kernel_rfl) rfl (by kernel_rfl)) S7 ?_
            refine held_take (i := 6) (v := .agg #[.int .i64 oSp, .slice aSd oSd.length cSd, .slice aSm oSm.length cSm]) (some 33) rfl rfl (by kernel_rfl) (by kernel_rfl) (by kernel_rfl) (fun _ _ _ h => h) (yieldsIf_run (by kernel_rfl) (fun W _ => by kernel_rfl)) S7 ?_
            refine held_take (i := 7) (v := .int .i64 k7) (some 34) rfl rfl (by kernel_rfl) (by kernel_rfl) (by kernel_rfl) (fun _ _ _ h => h) (yieldsIf_run (by kernel_rfl) (fun W _ => by kernel_rfl)) S7 ?_
            have hAR := hAR7
            have S8 : Below (wz1.heap.size) wz1 (W7.setRow (W2.heap.size) #[.int .i64 oSp, .slice aSd oSd.length cSd, .slice aSm oSm.length cSm]) := below_setRow S7 hGR _
            refine held_one (i := 9) (by kernel_rfl) ?_
            refine op_row (i := 9) rfl rfl rfl 28 (.tmp 6) (.tmp 33) rfl (W2.heap.size) #[.int .i64 oSp, .slice aSd oSd.length cSd, .slice aSm oSm.length cSm] (by kernel_rfl) (by kernel_rfl) 28 _ hAR7 (infoLawAxl _ _ _) (by kernel_rfl) (by kernel_rfl) ?_
            refine ⟨S8, ?_⟩
            have hAR8 := hAR7.set #[.int .i64 oSp, .slice aSd oSd.length cSd, .slice aSm oSm.length cSm]
            refine held_take (i := 10) (v := .int .i64 k7) (some 7) rfl rfl (by kernel_rfl) (by kernel_rfl) (by kernel_rfl) (fun _ _ _ h => h) (yieldsIf_assign (by kernel_rfl) rfl (by kernel_rfl)) S8 ?_
            refine wpAnyH_done (by kernel_rfl) ?_ _
            simp only [Act.put, List.setIfInBounds_toArray, List.set_cons_zero, List.set_cons_succ]
            obtain ⟨WF, hWF⟩ : ∃ WF, WF = (W7.setRow (W2.heap.size) #[.int .i64 oSp, .slice aSd oSd.length cSd, .slice aSm oSm.length cSm]) := ⟨_, rfl⟩
            have hbf : Below wz1.heap.size wz1 WF := by rw [hWF]; exact S8
            have hrf : Rz WF (W2.heap.size) 28 #[.int .i64 oSp, .slice aSd oSd.length cSd, .slice aSm oSm.length cSm] := by rw [hWF]; exact hAR8
            have hGd := hgd7.offRowC hAR (by decide) #[.int .i64 oSp, .slice aSd oSd.length cSd, .slice aSm oSm.length cSm]
            have hGm := hgm7.offRowC hAR (by decide) #[.int .i64 oSp, .slice aSd oSd.length cSd, .slice aSm oSm.length cSm]
            rw [← hWF] at hGd hGm
            rw [← hWF]
            clear hWF
            go_wp2
            go_meet
            exact ⟨_, k7, oSp, oSd, oSm, aSd, cSd, aSm, cSm, rfl, rfl, Lib.hid hbf, Lib.hid ⟨hrf.cell rfl, hrf.cell rfl, hrf.cell rfl, hrf.lt, ⟨hGd.l1, hGm.l3⟩⟩, Lib.hid ho7⟩
      · obtain ⟨W9, hW9⟩ : ∃ W', W' = W1.alloc (.cells #[.int .i64 0, .slice none 0 0, .slice none 0 0] 28) := ⟨_, rfl⟩
        have hb9 : Below W1.heap.size W1 W9 := by rw [hW9]; exact below_alloc1 _ _
        have hAR9 : Rz W9 W1.heap.size 28 #[.int .i64 0, .slice none 0 0, .slice none 0 0] := by rw [hW9]; exact Rz.new _ _ _
        have S9 : Below (wz1.heap.size) wz1 W9 := S1.trans (hb9.mono (Nat.le_trans hB0 S1.size))
        have hGR : wz1.heap.size ≤ W1.heap.size := Nat.le_trans hB0 S1.size
        have hx0_9 := hx0_1.below hb9
        refine op_mem (i := 8) (v := .pointer (some ⟨W1.heap.size, 0, none⟩)) (w' := W9) (some 6) rfl rfl rfl (by rw [hW9]; go_simp) ?_
        refine ⟨S9, ?_⟩
        refine held_one (i := 3) (by kernel_rfl) ?_
        · refine op_enter (i := 3) (some 31) (f := 25) (args := #[.agg #[.int .i64 p1, dv1, mv1]]) rfl rfl rfl (by kernel_rfl) (toComplex_any p1 dv1 mv1 ds1 ms1 _ (HQ1.out _ S9).cx hds1 HMS1.out) ?_ (fun c w' h => by obtain ⟨_, _, he, _⟩ := h; cases he) (fun w' h => by obtain ⟨_, _, he, _⟩ := h; cases he)
          rintro ee W10 ⟨xdv1, xmv1, he, hc10, hb10⟩
          injection he with he
          subst he
          have S10 : Below (wz1.heap.size) wz1 W10 := S9.trans (hb10.mono (Nat.le_trans hB0 S9.size))
          have hAR10 := hAR9.next hb10
          have hx0_10 := hx0_9.below hb10
          have hx1_10 := hc10.zero
          refine ⟨S10, ?_⟩
          refine held_one (i := 4) (by kernel_rfl) ?_
          · refine op_enter (i := 4) (some 32) (f := 56) (args := #[.agg #[.int .i64 p0, xdv0, xmv0], .agg #[.int .i64 p1, xdv1, xmv1]]) rfl rfl rfl (by kernel_rfl) (spAddComplexes_any p0 p1 _ _ _ _ ds0 ms0 ds1 ms1 _ (hx0_10) (hx1_10) hds0 HMS0.out hds1 HMS1.out) ?_ (fun c w' h => by obtain ⟨_, _, _, he, _⟩ := h; cases he) (fun w' h => by obtain ⟨_, _, _, he, _⟩ := h; cases he)
            rintro ee W11 ⟨u11, o11, k11, he, hr11, hb11, ho11⟩
            injection he with he
            subst he
            obtain ⟨oSp, oSd, oSm⟩ := o11
            obtain ⟨aSd, cSd, aSm, cSm, hu, hgd11, hgm11⟩ := hr11
            have hu : u11 = .agg #[.int .i64 oSp, .slice aSd oSd.length cSd, .slice aSm oSm.length cSm] := hu
            subst hu
            have S11 : Below (wz1.heap.size) wz1 W11 := S10.trans (hb11.mono (Nat.le_trans hB0 S10.size))
            have hAR11 := hAR10.next hb11
            refine ⟨S11, ?_⟩
            refine held_take (i := 5) (v := .tuple #[.agg #[.int .i64 oSp, .slice aSd oSd.length cSd, .slice aSm oSm.length cSm], .int .i64 k11]) (some 27) rfl rfl (by kernel_rfl) (by kernel_rfl) (by kernel_rfl) (fun _ _ _ h => h) (yieldsIf_move (by kernel_rfl) rfl (by kernel_rfl)) S11 ?_
            refine held_take (i := 6) (v := .agg #[.int .i64 oSp, .slice aSd oSd.length cSd, .slice aSm oSm.length cSm]) (some 33) rfl rfl (by kernel_rfl) (by kernel_rfl) (by kernel_rfl) (fun _ _ _ h => h) (yieldsIf_run (by kernel_rfl) (fun W _ => by kernel_rfl)) S11 ?_
            refine held_take (i := 7) (v := .int .i64 k11) (some 34) rfl rfl (by kernel_rfl) (by kernel_rfl) (by kernel_rfl) (fun _ _ _ h => h) (yieldsIf_run (by kernel_rfl) (fun W _ => by kernel_rfl)) S11 ?_
            have hAR := hAR11
            have S12 : Below (wz1.heap.size) wz1 (W11.setRow (W1.heap.size) #[.int .i64 oSp, .slice aSd oSd.length cSd, .slice aSm oSm.length cSm]) := below_setRow S11 hGR _
            refine held_one (i := 9) (by kernel_rfl) ?_
            refine op_row (i := 9) rfl rfl rfl 28 (.tmp 6) (.tmp 33) rfl (W1.heap.size) #[.int .i64 oSp, .slice aSd oSd.length cSd, .slice aSm oSm.length cSm] (by kernel_rfl) (by kernel_rfl) 28 _ hAR11 (infoLawAxl _ _ _) (by kernel_rfl) (by kernel_rfl) ?_
            refine ⟨S12, ?_⟩
            have hAR12 := hAR11.set #[.int .i64 oSp, .slice aSd oSd.length cSd, .slice aSm oSm.length cSm]
            refine held_take (i := 10) (v := .int .i64 k11) (some 7) rfl rfl (by kernel_rfl) (by kernel_rfl) (by kernel_rfl) (fun _ _ _ h => h) (yieldsIf_assign (by kernel_rfl) rfl (by kernel_rfl)) S12 ?_
            refine wpAnyH_done (by kernel_rfl) ?_ _
            simp only [Act.put, List.setIfInBounds_toArray, List.set_cons_zero, List.set_cons_succ]
            obtain ⟨WF, hWF⟩ : ∃ WF, WF = (W11.setRow (W1.heap.size) #[.int .i64 oSp, .slice aSd oSd.length cSd, .slice aSm oSm.length cSm]) := ⟨_, rfl⟩
            have hbf : Below wz1.heap.size wz1 WF := by rw [hWF]; exact S12
            have hrf : Rz WF (W1.heap.size) 28 #[.int .i64 oSp, .slice aSd oSd.length cSd, .slice aSm oSm.length cSm] := by rw [hWF]; exact hAR12
            have hGd := hgd11.offRowC hAR (by decide) #[.int .i64 oSp, .slice aSd oSd.length cSd, .slice aSm oSm.length cSm]
            have hGm := hgm11.offRowC hAR (by decide) #[.int .i64 oSp, .slice aSd oSd.length cSd, .slice aSm oSm.length cSm]
            rw [← hWF] at hGd hGm
            rw [← hWF]
            clear hWF
            go_wp2
            go_meet
            exact ⟨_, k11, oSp, oSd, oSm, aSd, cSd, aSm, cSm, rfl, rfl, Lib.hid hbf, Lib.hid ⟨hrf.cell rfl, hrf.cell rfl, hrf.cell rfl, hrf.lt, ⟨hGd.l1, hGm.l3⟩⟩, Lib.hid ho11⟩
    · obtain ⟨W13, hW13⟩ : ∃ W', W' = wd.alloc (.cells #[.int .i64 0, .slice none 0 0, .slice none 0 0] 28) := ⟨_, rfl⟩
      have hb13 : Below wd.heap.size wd W13 := by rw [hW13]; exact below_alloc1 _ _
      have hAR13 : Rz W13 wd.heap.size 28 #[.int .i64 0, .slice none 0 0, .slice none 0 0] := by rw [hW13]; exact Rz.new _ _ _
      have S13 : Below (wz1.heap.size) wz1 W13 := S0.trans (hb13.mono (Nat.le_trans hB0 S0.size))
      have hGR : wz1.heap.size ≤ wd.heap.size := Nat.le_trans hB0 S0.size
      refine op_mem (i := 8) (v := .pointer (some ⟨wd.heap.size, 0, none⟩)) (w' := W13) (some 6) rfl rfl rfl (by rw [hW13]; go_simp) ?_
      refine ⟨S13, ?_⟩
      refine held_one (i := 1) (by kernel_rfl) ?_
      · refine op_enter (i := 1) (some 29) (f := 25) (args := #[.agg #[.int .i64 p0, dv0, mv0]]) rfl rfl rfl (by kernel_rfl) (toComplex_any p0 dv0 mv0 ds0 ms0 _ (HQ0.out _ S13).cx hds0 HMS0.out) ?_ (fun c w' h => by obtain ⟨_, _, he, _⟩ := h; cases he) (fun w' h => by obtain ⟨_, _, he, _⟩ := h; cases he)
        rintro ee W14 ⟨xdv0, xmv0, he, hc14, hb14⟩
        injection he with he
        subst he
        have S14 : Below (wz1.heap.size) wz1 W14 := S13.trans (hb14.mono (Nat.le_trans hB0 S13.size))
        have hAR14 := hAR13.next hb14
        have hx0_14 := hc14.zero
        refine ⟨S14, ?_⟩
        refine held_one (i := 3) (by kernel_rfl) ?_
        · refine op_enter (i := 3) (some 31) (f := 25) (args := #[.agg #[.int .i64 p1, dv1, mv1]]) rfl rfl rfl (by kernel_rfl) (toComplex_any p1 dv1 mv1 ds1 ms1 _ (HQ1.out _ S14).cx hds1 HMS1.out) ?_ (fun c w' h => by obtain ⟨_, _, he, _⟩ := h; cases he) (fun w' h => by obtain ⟨_, _, he, _⟩ := h; cases he)
          rintro ee W15 ⟨xdv1, xmv1, he, hc15, hb15⟩
          injection he with he
          subst he
          have S15 : Below (wz1.heap.size) wz1 W15 := S14.trans (hb15.mono (Nat.le_trans hB0 S14.size))
          have hAR15 := hAR14.next hb15
          have hx0_15 := hx0_14.below hb15
          have hx1_15 := hc15.zero
          refine ⟨S15, ?_⟩
          refine held_one (i := 4) (by kernel_rfl) ?_
          · refine op_enter (i := 4) (some 32) (f := 56) (args := #[.agg #[.int .i64 p0, xdv0, xmv0], .agg #[.int .i64 p1, xdv1, xmv1]]) rfl rfl rfl (by kernel_rfl) (spAddComplexes_any p0 p1 _ _ _ _ ds0 ms0 ds1 ms1 _ (hx0_15) (hx1_15) hds0 HMS0.out hds1 HMS1.out) ?_ (fun c w' h => by obtain ⟨_, _, _, he, _⟩ := h; cases he) (fun w' h => by obtain ⟨_, _, _, he, _⟩ := h; cases he)
            rintro ee W16 ⟨u16, o16, k16, he, hr16, hb16, ho16⟩
            injection he with he
            subst he
            obtain ⟨oSp, oSd, oSm⟩ := o16
            obtain ⟨aSd, cSd, aSm, cSm, hu, hgd16, hgm16⟩ := hr16
            have hu : u16 = .agg #[.int .i64 oSp, .slice aSd oSd.length cSd, .slice aSm oSm.length cSm] := hu
            subst hu
            have S16 : Below (wz1.heap.size) wz1 W16 := S15.trans (hb16.mono (Nat.le_trans hB0 S15.size))
            have hAR16 := hAR15.next hb16
            refine ⟨S16, ?_⟩
            refine held_take (i := 5) (v := .tuple #[.agg #[.int .i64 oSp, .slice aSd oSd.length cSd, .slice aSm oSm.length cSm], .int .i64 k16]) (some 27) rfl rfl (by kernel_rfl) (by kernel_rfl) (by kernel_rfl) (fun _ _ _ h => h) (yieldsIf_move (by kernel_rfl) rfl (by kernel_rfl)) S16 ?_
            refine held_take (i := 6) (v := .agg #[.int .i64 oSp, .slice aSd oSd.length cSd, .slice aSm oSm.length cSm]) (some 33) rfl rfl (by kernel_rfl) (by kernel_rfl) (by kernel_rfl) (fun _ _ _ h => h) (yieldsIf_run (by kernel_rfl) (fun W _ => by kernel_rfl)) S16 ?_
            refine held_take (i := 7) (v := .int .i64 k16) (some 34) rfl rfl (by kernel_rfl) (by kernel_rfl) (by kernel_rfl) (fun _ _ _ h => h) (yieldsIf_run (by kernel_rfl) (fun W _ => by kernel_rfl)) S16 ?_
            have hAR := hAR16
            have S17 : Below (wz1.heap.size) wz1 (W16.setRow (wd.heap.size) #[.int .i64 oSp, .slice aSd oSd.length cSd, .slice aSm oSm.length cSm]) := below_setRow S16 hGR _
            refine held_one (i := 9) (by kernel_rfl) ?_
            refine op_row (i := 9) rfl rfl rfl 28 (.tmp 6) (.tmp 33) rfl (wd.heap.size) #[.int .i64 oSp, .slice aSd oSd.length cSd, .slice aSm oSm.length cSm] (by kernel_rfl) (by kernel_rfl) 28 _ hAR16 (infoLawAxl _ _ _) (by kernel_rfl) (by kernel_rfl) ?_
            refine ⟨S17, ?_⟩
            have hAR17 := hAR16.set #[.int .i64 oSp, .slice aSd oSd.length cSd, .slice aSm oSm.length cSm]
            refine held_take (i := 10) (v := .int .i64 k16) (some 7) rfl rfl (by kernel_rfl) (by kernel_rfl) (by kernel_rfl) (fun _ _ _ h => h) (yieldsIf_assign (by kernel_rfl) rfl (by kernel_rfl)) S17 ?_
            refine wpAnyH_done (by kernel_rfl) ?_ _
            simp only [Act.put, List.setIfInBounds_toArray, List.set_cons_zero, List.set_cons_succ]
            obtain ⟨WF, hWF⟩ : ∃ WF, WF = (W16.setRow (wd.heap.size) #[.int .i64 oSp, .slice aSd oSd.length cSd, .slice aSm oSm.length cSm]) := ⟨_, rfl⟩
            have hbf : Below wz1.heap.size wz1 WF := by rw [hWF]; exact S17
            have hrf : Rz WF (wd.heap.size) 28 #[.int .i64 oSp, .slice aSd oSd.length cSd, .slice aSm oSm.length cSm] := by rw [hWF]; exact hAR17
            have hGd := hgd16.offRowC hAR (by decide) #[.int .i64 oSp, .slice aSd oSd.length cSd, .slice aSm oSm.length cSm]
            have hGm := hgm16.offRowC hAR (by decide) #[.int .i64 oSp, .slice aSd oSd.length cSd, .slice aSm oSm.length cSm]
            rw [← hWF] at hGd hGm
            rw [← hWF]
            clear hWF
            go_wp2
            go_meet
            exact ⟨_, k16, oSp, oSd, oSm, aSd, cSd, aSm, cSm, rfl, rfl, Lib.hid hbf, Lib.hid ⟨hrf.cell rfl, hrf.cell rfl, hrf.cell rfl, hrf.lt, ⟨hGd.l1, hGm.l3⟩⟩, Lib.hid ho16⟩
  case rest =>
    obtain ⟨gS, kS, oSp, oSd, oSm, aSd, cSd, aSm, cSm, rfl, rfl, HBz, HYS, HOS⟩ := hcut
    obtain ⟨wS, hwS⟩ : ∃ wS : World, wS = wc := ⟨_, rfl⟩
    subst hwS
    have hsS : wz1.heap.size ≤ wS.heap.size := HBz.out.size
    have hb := HBz.out
    clear HBz HQ0 HQ1
    have HB' := Lib.hid (HB.out.trans (hb.mono (by omega)))
    clear hb HB
    have HB := HB'
    clear HB'
    have HBD : Hid (CoB (oSp, oSd, oSm)) := Lib.hid (HOS.out.all (Q := CoB) ⟨by simp, by simp, by simp⟩ (fun h0 a ha => by rw [show a = _ from ha]; exact ax_bd (axCode_zero h0)))
    have hbd1 : oSd.length ≤ 1048576 := HBD.out.1
    have HK : Hid (Below wS.heap.size wS wS) := Lib.hid (Below.refl _ _)
    have c00 := (HN0.out _ HB.out).c0
    have c01 := (HN0.out _ HB.out).c1
    have c02 := (HN0.out _ HB.out).c2
    go_wp2_with fail
    refine (toComplexw_any p0 dv0 mv0 ds0 ms0 _ (HN0.out _ HB.out).cx hds0 HMS0.out).mono ?_
    rintro ee wc0 ⟨ydv0, ymv0, rfl, hc, hb⟩
    have hsc0 : wS.heap.size ≤ wc0.heap.size := hb.size
    clear c00 c01 c02
    have HB' := Lib.hid (HB.out.trans (hb.mono (by omega)))
    have HK' := Lib.hid (HK.out.trans (hb.mono (by omega)))
    clear hb HB HK
    have HB := HB'
    have HK := HK'
    clear HB' HK'
    have HC0 := Lib.hid hc
    obtain ⟨⟨ya0, yc0, rfl⟩, ⟨yb0, ye0, rfl⟩⟩ := hc.cx.shapes
    clear hc
    obtain ⟨wb0, hwb⟩ : ∃ wb0, wb0 = wc0.alloc (.cells #[.int .i64 p0, .slice ya0 ds0.length yc0, .slice yb0 ms0.length ye0] 28) := ⟨_, rfl⟩
    have hb : Below wc0.heap.size wc0 wb0 := by rw [hwb]; exact below_alloc1 _ _
    have hsb0 : wc0.heap.size + 1 = wb0.heap.size := by rw [hwb]; simp
    have hsB0 : wc0.heap.size ≤ wb0.heap.size := by omega
    have HY0 : Hid (Bq wb0 wc0.heap.size p0 (.slice ya0 ds0.length yc0) (.slice yb0 ms0.length ye0) ds0 ms0) := Lib.hid (by rw [hwb]; exact (Bx.start _ HC0.out.cx.zero).bq)
    have HB' := Lib.hid (HB.out.trans (hb.mono (by omega)))
    have HK' := Lib.hid (HK.out.trans (hb.mono (by omega)))
    have HC0' := Lib.hid (HC0.out.same (Same.of_below hb (by omega)))
    clear hb HB HK HC0
    have HB := HB'
    have HK := HK'
    have HC0 := HC0'
    clear HB' HK' HC0'
    go_upto_region 10 with fail
    rw [← hwb]
    clear hwb
    have c10 := (HN1.out _ HB.out).c0
    have c11 := (HN1.out _ HB.out).c1
    have c12 := (HN1.out _ HB.out).c2
    go_wp2_with fail
    refine (toComplexw_any p1 dv1 mv1 ds1 ms1 _ (HN1.out _ HB.out).cx hds1 HMS1.out).mono ?_
    rintro ee wc1 ⟨ydv1, ymv1, rfl, hc, hb⟩
    have hsc1 : wb0.heap.size ≤ wc1.heap.size := hb.size
    clear c10 c11 c12
    have HB' := Lib.hid (HB.out.trans (hb.mono (by omega)))
    have HK' := Lib.hid (HK.out.trans (hb.mono (by omega)))
    have HC0' := Lib.hid (HC0.out.same (Same.of_below hb (by omega)))
    have HY0' := Lib.hid (HY0.out.next hb)
    clear hb HB HK HC0 HY0
    have HB := HB'
    have HK := HK'
    have HC0 := HC0'
    have HY0 := HY0'
    clear HB' HK' HC0' HY0'
    have HC1 := Lib.hid hc
    obtain ⟨⟨ya1, yc1, rfl⟩, ⟨yb1, ye1, rfl⟩⟩ := hc.cx.shapes
    clear hc
    obtain ⟨wb1, hwb⟩ : ∃ wb1, wb1 = wc1.alloc (.cells #[.int .i64 p1, .slice ya1 ds1.length yc1, .slice yb1 ms1.length ye1] 28) := ⟨_, rfl⟩
    have hb : Below wc1.heap.size wc1 wb1 := by rw [hwb]; exact below_alloc1 _ _
    have hsb1 : wc1.heap.size + 1 = wb1.heap.size := by rw [hwb]; simp
    have hsB1 : wc1.heap.size ≤ wb1.heap.size := by omega
    have HY1 : Hid (Bq wb1 wc1.heap.size p1 (.slice ya1 ds1.length yc1) (.slice yb1 ms1.length ye1) ds1 ms1) := Lib.hid (by rw [hwb]; exact (Bx.start _ HC1.out.cx.zero).bq)
    have HB' := Lib.hid (HB.out.trans (hb.mono (by omega)))
    have HK' := Lib.hid (HK.out.trans (hb.mono (by omega)))
    have HC0' := Lib.hid (HC0.out.same (Same.of_below hb (by omega)))
    have HY0' := Lib.hid (HY0.out.next hb)
    have HC1' := Lib.hid (HC1.out.same (Same.of_below hb (by omega)))
    clear hb HB HK HC0 HY0 HC1
    have HB := HB'
    have HK := HK'
    have HC0 := HC0'
    have HY0 := HY0'
    have HC1 := HC1'
    clear HB' HK' HC0' HY0' HC1'
    go_upto_region 11 with fail
    rw [← hwb]
    clear hwb
    have d00 := HY0.out.c0
    have d01 := HY0.out.c1
    have d02 := HY0.out.c2
    have d10 := HY1.out.c0
    have d11 := HY1.out.c1
    have d12 := HY1.out.c2
    go_wp2_with fail
    refine (addComplexes_any p0 p1 _ _ _ _ ds0 ms0 ds1 ms1 _ (HC0.out.cx.zero) (HC1.out.cx.zero) hds0 HMS0.out hds1 HMS1.out).mono ?_
    rintro ee w7 ⟨u7, o7, k7, rfl, hw7, hb, hout7⟩
    obtain ⟨rfl, rfl⟩ := RsOut.unique (fun _ a b ha hb => ha.trans hb.symm) HOS.out hout7
    have hs7 : wb1.heap.size ≤ w7.heap.size := hb.size
    clear d00 d01 d02 d10 d11 d12
    have HB' := Lib.hid (HB.out.trans (hb.mono (by omega)))
    have HK' := Lib.hid (HK.out.trans (hb.mono (by omega)))
    have HC0' := Lib.hid (HC0.out.same (Same.of_below hb (by omega)))
    have HY0' := Lib.hid (HY0.out.next hb)
    have HC1' := Lib.hid (HC1.out.same (Same.of_below hb (by omega)))
    have HY1' := Lib.hid (HY1.out.next hb)
    clear hb HB HK HC0 HY0 HC1 HY1
    have HB := HB'
    have HK := HK'
    have HC0 := HC0'
    have HY0 := HY0'
    have HC1 := HC1'
    have HY1 := HY1'
    clear HB' HK' HC0' HY0' HC1' HY1'
    obtain ⟨aGd, cGd, aGm, cGm, hu7, hG⟩ := hw7
    have hu7 : u7 = .agg #[.int .i64 oSp, .slice aGd oSd.length cGd, .slice aGm oSm.length cGm] := hu7
    subst hu7
    have HG : Hid (RcW wb1.heap.size w7.heap.size w7 (.slice aGd oSd.length cGd) (.slice aGm oSm.length cGm) oSd oSm) := Lib.hid hG
    clear hG hout7
    obtain ⟨wbG, hwb⟩ : ∃ wbG, wbG = w7.alloc (.cells #[.int .i64 oSp, .slice aGd oSd.length cGd, .slice aGm oSm.length cGm] 28) := ⟨_, rfl⟩
    have hb : Below w7.heap.size w7 wbG := by rw [hwb]; exact below_alloc1 _ _
    have hsbG : w7.heap.size + 1 = wbG.heap.size := by rw [hwb]; simp
    have hsBG : w7.heap.size ≤ wbG.heap.size := by omega
    have HCG0 : Hid (Bc wbG w7.heap.size oSp (.slice aGd oSd.length cGd) (.slice aGm oSm.length cGm)) := Lib.hid (by rw [hwb]; exact Bc.start _ _ _ _ _)
    have HB' := Lib.hid (HB.out.trans (hb.mono (by omega)))
    have HK' := Lib.hid (HK.out.trans (hb.mono (by omega)))
    have HC0' := Lib.hid (HC0.out.same (Same.of_below hb (by omega)))
    have HY0' := Lib.hid (HY0.out.next hb)
    have HC1' := Lib.hid (HC1.out.same (Same.of_below hb (by omega)))
    have HY1' := Lib.hid (HY1.out.next hb)
    have HG' := Lib.hid (HG.out.same (Same.of_below hb (by omega)))
    clear hb HB HK HC0 HY0 HC1 HY1 HG
    have HB := HB'
    have HK := HK'
    have HC0 := HC0'
    have HY0 := HY0'
    have HC1 := HC1'
    have HY1 := HY1'
    have HG := HG'
    clear HB' HK' HC0' HY0' HC1' HY1' HG'
    have HCG := HCG0
    clear HCG0
    go_upto_region 12 with fail
    rw [← hwb]
    clear hwb
    have hcode : (kS != kS) = false := by simp
    have s0 := (HYS.out.next HK.out).c0
    have s1 := (HYS.out.next HK.out).c1
    have s2 := (HYS.out.next HK.out).c2
    have g0 := HCG.out.c0
    have g1 := HCG.out.c1
    have g2 := HCG.out.c2
    go_wp2_with fail
    refine (eqComplex_true oSp _ _ _ _ oSd oSm _ HG.out.cx (HYS.out.next HK.out).cx hbd1 HBD.out.2).mono ?_
    rintro ee we1 ⟨rfl, hb⟩
    have hse1 : wbG.heap.size ≤ we1.heap.size := hb.size
    clear s0 s1 s2 g0 g1 g2
    have HB' := Lib.hid (HB.out.trans (hb.mono (by omega)))
    have HK' := Lib.hid (HK.out.trans (hb.mono (by omega)))
    have HC0' := Lib.hid (HC0.out.same (Same.of_below hb (by omega)))
    have HY0' := Lib.hid (HY0.out.next hb)
    have HC1' := Lib.hid (HC1.out.same (Same.of_below hb (by omega)))
    have HY1' := Lib.hid (HY1.out.next hb)
    have HG' := Lib.hid (HG.out.same (Same.of_below hb (by omega)))
    have HCG' := Lib.hid (HCG.out.next hb)
    clear hb HB HK HC0 HY0 HC1 HY1 HG HCG
    have HB := HB'
    have HK := HK'
    have HC0 := HC0'
    have HY0 := HY0'
    have HC1 := HC1'
    have HY1 := HY1'
    have HG := HG'
    have HCG := HCG'
    clear HB' HK' HC0' HY0' HC1' HY1' HG' HCG'
    have c00 := (HN0.out _ HB.out).c0
    have c01 := (HN0.out _ HB.out).c1
    have c02 := (HN0.out _ HB.out).c2
    have d00 := HY0.out.c0
    have d01 := HY0.out.c1
    have d02 := HY0.out.c2
    have HCX := Lib.hid (cx_drew (HN0.out _ HB.out).cx)
    have HCC := Lib.hid (cx_drew HY0.out.cx)
    go_wp2_with fail
    go_region_held3 (fun w' => w'.cell? ⟨w.heap.size, 0, none⟩ = some (.int .i64 p0) ∧ w'.cell? ⟨w.heap.size, 1, none⟩ = some (dv0) ∧ w'.cell? ⟨w.heap.size, 2, none⟩ = some (mv0) ∧ w'.cell? ⟨wc0.heap.size, 0, none⟩ = some (.int .i64 p0) ∧ w'.cell? ⟨wc0.heap.size, 1, none⟩ = some (.slice ya0 ds0.length yc0) ∧ w'.cell? ⟨wc0.heap.size, 2, none⟩ = some (.slice yb0 ms0.length ye0))
      (first | exact ⟨c00, c01, c02, d00, d01, d02⟩ | exact HS9.out | exact HSA.out | go_keep)
      (first
        | (go_at_call 25; refine (toComplex_any p0 dv0 mv0 ds0 ms0 _ HCX.out hds0 HMS0.out).mono ?_; rintro ee w9 ⟨zdv09, zmv09, rfl, hcx9, hb9⟩; have HS9 := Lib.hid (And.intro (later hb9 (Nat.le_refl _) c00) (And.intro (later hb9 (Nat.le_refl _) c01) (And.intro (later hb9 (Nat.le_refl _) c02) (And.intro (later hb9 (Nat.le_refl _) d00) (And.intro (later hb9 (Nat.le_refl _) d01) (later hb9 (Nat.le_refl _) d02)))))); have HX9 := Lib.hid (And.intro hcx9 (And.intro (HCC.out.below hb9) (Below.trans ((Below.refl we1.heap.size we1).drew) hb9))); clear hcx9 hb9)
        | (go_at_call 27; refine (eqComplex_true p0 _ _ zdv09 zmv09 ds0 ms0 _ HX9.out.2.1 HX9.out.1.zero hds0 HMS0.out).mono ?_; rintro ee wA0 ⟨rfl, hbA⟩; have HSA := Lib.hid (And.intro (later hbA (Nat.le_refl _) (HS9.out.1)) (And.intro (later hbA (Nat.le_refl _) (HS9.out.2.1)) (And.intro (later hbA (Nat.le_refl _) (HS9.out.2.2.1)) (And.intro (later hbA (Nat.le_refl _) (HS9.out.2.2.2.1)) (And.intro (later hbA (Nat.le_refl _) (HS9.out.2.2.2.2.1)) (later hbA (Nat.le_refl _) (HS9.out.2.2.2.2.2))))))); have HXA := Lib.hid (Below.trans HX9.out.2.2 (hbA.mono HX9.out.2.2.size)); clear hbA))
    have hsa0 : we1.heap.size ≤ wA0.heap.size := HXA.out.size
    have hb := HXA.out
    clear c00 c01 c02
    clear d00 d01 d02
    clear HXA HSA HS9 HX9 HCX HCC
    have HB' := Lib.hid (HB.out.trans (hb.mono (by omega)))
    have HK' := Lib.hid (HK.out.trans (hb.mono (by omega)))
    have HC0' := Lib.hid (HC0.out.same (Same.of_below hb (by omega)))
    have HY0' := Lib.hid (HY0.out.next hb)
    have HC1' := Lib.hid (HC1.out.same (Same.of_below hb (by omega)))
    have HY1' := Lib.hid (HY1.out.next hb)
    have HG' := Lib.hid (HG.out.same (Same.of_below hb (by omega)))
    have HCG' := Lib.hid (HCG.out.next hb)
    clear hb HB HK HC0 HY0 HC1 HY1 HG HCG
    have HB := HB'
    have HK := HK'
    have HC0 := HC0'
    have HY0 := HY0'
    have HC1 := HC1'
    have HY1 := HY1'
    have HG := HG'
    have HCG := HCG'
    clear HB' HK' HC0' HY0' HC1' HY1' HG' HCG'
    have c10 := (HN1.out _ HB.out).c0
    have c11 := (HN1.out _ HB.out).c1
    have c12 := (HN1.out _ HB.out).c2
    have d10 := HY1.out.c0
    have d11 := HY1.out.c1
    have d12 := HY1.out.c2
    have HCX := Lib.hid (cx_drew (HN1.out _ HB.out).cx)
    have HCC := Lib.hid (cx_drew HY1.out.cx)
    go_wp2_with fail
    go_region_held3 (fun w' => w'.cell? ⟨w.heap.size + 1, 0, none⟩ = some (.int .i64 p1) ∧ w'.cell? ⟨w.heap.size + 1, 1, none⟩ = some (dv1) ∧ w'.cell? ⟨w.heap.size + 1, 2, none⟩ = some (mv1) ∧ w'.cell? ⟨wc1.heap.size, 0, none⟩ = some (.int .i64 p1) ∧ w'.cell? ⟨wc1.heap.size, 1, none⟩ = some (.slice ya1 ds1.length yc1) ∧ w'.cell? ⟨wc1.heap.size, 2, none⟩ = some (.slice yb1 ms1.length ye1))
      (first | exact ⟨c10, c11, c12, d10, d11, d12⟩ | exact HS9.out | exact HSA.out | go_keep)
      (first
        | (go_at_call 25; refine (toComplex_any p1 dv1 mv1 ds1 ms1 _ HCX.out hds1 HMS1.out).mono ?_; rintro ee w9 ⟨zdv19, zmv19, rfl, hcx9, hb9⟩; have HS9 := Lib.hid (And.intro (later hb9 (Nat.le_refl _) c10) (And.intro (later hb9 (Nat.le_refl _) c11) (And.intro (later hb9 (Nat.le_refl _) c12) (And.intro (later hb9 (Nat.le_refl _) d10) (And.intro (later hb9 (Nat.le_refl _) d11) (later hb9 (Nat.le_refl _) d12)))))); have HX9 := Lib.hid (And.intro hcx9 (And.intro (HCC.out.below hb9) (Below.trans ((Below.refl wA0.heap.size wA0).drew) hb9))); clear hcx9 hb9)
        | (go_at_call 27; refine (eqComplex_true p1 _ _ zdv19 zmv19 ds1 ms1 _ HX9.out.2.1 HX9.out.1.zero hds1 HMS1.out).mono ?_; rintro ee wA1 ⟨rfl, hbA⟩; have HSA := Lib.hid (And.intro (later hbA (Nat.le_refl _) (HS9.out.1)) (And.intro (later hbA (Nat.le_refl _) (HS9.out.2.1)) (And.intro (later hbA (Nat.le_refl _) (HS9.out.2.2.1)) (And.intro (later hbA (Nat.le_refl _) (HS9.out.2.2.2.1)) (And.intro (later hbA (Nat.le_refl _) (HS9.out.2.2.2.2.1)) (later hbA (Nat.le_refl _) (HS9.out.2.2.2.2.2))))))); have HXA := Lib.hid (Below.trans HX9.out.2.2 (hbA.mono HX9.out.2.2.size)); clear hbA))
    have hsa1 : wA0.heap.size ≤ wA1.heap.size := HXA.out.size
    have hb := HXA.out
    clear c10 c11 c12
    clear d10 d11 d12
    clear HXA HSA HS9 HX9 HCX HCC
    have HB' := Lib.hid (HB.out.trans (hb.mono (by omega)))
    have HK' := Lib.hid (HK.out.trans (hb.mono (by omega)))
    have HC0' := Lib.hid (HC0.out.same (Same.of_below hb (by omega)))
    have HY0' := Lib.hid (HY0.out.next hb)
    have HC1' := Lib.hid (HC1.out.same (Same.of_below hb (by omega)))
    have HY1' := Lib.hid (HY1.out.next hb)
    have HG' := Lib.hid (HG.out.same (Same.of_below hb (by omega)))
    have HCG' := Lib.hid (HCG.out.next hb)
    clear hb HB HK HC0 HY0 HC1 HY1 HG HCG
    have HB := HB'
    have HK := HK'
    have HC0 := HC0'
    have HY0 := HY0'
    have HC1 := HC1'
    have HY1 := HY1'
    have HG := HG'
    have HCG := HCG'
    clear HB' HK' HC0' HY0' HC1' HY1' HG' HCG'
    have d00 := HY0.out.c0
    have d01 := HY0.out.c1
    have d02 := HY0.out.c2
    go_wp2_with fail
    refine (markComplexK_any 1 p0 _ _ ds0 ms0 _ HC0.out (by omega) hds0 HMS0.out (by omega) (by omega)).mono ?_
    rintro ee wD0 ⟨r0, wM0, rfl, hr00, hr01, hb, hoM, htM⟩
    have hsM0 : wA1.heap.size ≤ wM0.heap.size := hb.size
    have hsD0 : wD0.heap.size = wM0.heap.size := hoM.size
    have hsE0 : wA1.heap.size ≤ wD0.heap.size := by omega
    clear d00 d01 d02
    have HB' := Lib.hid ((HB.out.trans (hb.mono (by omega))).trans (hoM.below (by omega)))
    have HK' := Lib.hid ((HK.out.trans (hb.mono (by omega))).trans (hoM.below (by omega)))
    have HG' := Lib.hid (HG.out.same ((Same.of_below hb (by omega)).trans (hoM.same (by omega))))
    have HCG' := Lib.hid ((HCG.out.next hb).only hoM (by omega))
    have HC1' := Lib.hid (HC1.out.same ((Same.of_below hb (by omega)).trans (hoM.same (by omega))))
    have HY1' : Hid (Bq wD0 wc1.heap.size p1 (.slice ya1 ds1.length yc1) (.slice yb1 ms1.length ye1) ds1 ms1) := Lib.hid ((HY1.out.next hb).only hoM HC1'.out.cx.zero (by omega))
    clear hoM htM hb HC0 HY0 HB HK HG HCG HC1 HY1
    have HB := HB'
    have HK := HK'
    have HG := HG'
    have HCG := HCG'
    have HC1 := HC1'
    have HY1 := HY1'
    clear HB' HK' HG' HCG' HC1' HY1'
    have d10 := HY1.out.c0
    have d11 := HY1.out.c1
    have d12 := HY1.out.c2
    go_wp2_with fail
    refine (markComplexK_any r0 p1 _ _ ds1 ms1 _ HC1.out (by omega) hds1 HMS1.out (by omega) (by omega)).mono ?_
    rintro ee wD1 ⟨r1, wM1, rfl, hr10, hr11, hb, hoM, htM⟩
    have hsM1 : wD0.heap.size ≤ wM1.heap.size := hb.size
    have hsD1 : wD1.heap.size = wM1.heap.size := hoM.size
    have hsE1 : wD0.heap.size ≤ wD1.heap.size := by omega
    clear d10 d11 d12
    have HB' := Lib.hid ((HB.out.trans (hb.mono (by omega))).trans (hoM.below (by omega)))
    have HK' := Lib.hid ((HK.out.trans (hb.mono (by omega))).trans (hoM.below (by omega)))
    have HG' := Lib.hid (HG.out.same ((Same.of_below hb (by omega)).trans (hoM.same (by omega))))
    have HCG' := Lib.hid ((HCG.out.next hb).only hoM (by omega))
    clear hoM htM hb HC1 HY1 HB HK HG HCG
    have HB := HB'
    have HK := HK'
    have HG := HG'
    have HCG := HCG'
    clear HB' HK' HG' HCG'
    have hneg0 : ¬ r1 < 0 := by omega
    have s0 := (HYS.out.next HK.out).c0
    have s1 := (HYS.out.next HK.out).c1
    have s2 := (HYS.out.next HK.out).c2
    have g0 := HCG.out.c0
    have g1 := HCG.out.c1
    have g2 := HCG.out.c2
    go_wp2_with fail
    refine (eqComplex_true oSp _ _ _ _ oSd oSm _ HG.out.cx (HYS.out.next HK.out).cx hbd1 HBD.out.2).mono ?_
    rintro ee we2 ⟨rfl, hb⟩
    have hse2 : wD1.heap.size ≤ we2.heap.size := hb.size
    clear s0 s1 s2 g0 g1 g2
    have HB' := Lib.hid (HB.out.trans (hb.mono (by omega)))
    have HK' := Lib.hid (HK.out.trans (hb.mono (by omega)))
    have HG' := Lib.hid (HG.out.same (Same.of_below hb (by omega)))
    have HCG' := Lib.hid (HCG.out.next hb)
    clear hb HB HK HG HCG
    have HB := HB'
    have HK := HK'
    have HG := HG'
    have HCG := HCG'
    clear HB' HK' HG' HCG'
    have g0 := HCG.out.c0
    have g1 := HCG.out.c1
    have g2 := HCG.out.c2
    go_wp2_with fail
    refine (markRC_any oSp _ _ oSd oSm _ HG.out (by omega)).mono ?_
    rintro ee wG ⟨mm, wM2, rfl, hm0, hm1, hb, hoG, hmk⟩
    have hsM2 : we2.heap.size ≤ wM2.heap.size := hb.size
    have hsG0 : wG.heap.size = wM2.heap.size := hoG.size
    have hsG : we2.heap.size ≤ wG.heap.size := by omega
    clear g0 g1 g2
    have HB' := Lib.hid ((HB.out.trans (hb.mono (by omega))).trans (hoG.below (by omega)))
    have HK' := Lib.hid ((HK.out.trans (hb.mono (by omega))).trans (hoG.below (by omega)))
    have HCG' := Lib.hid ((HCG.out.next hb).only hoG (by omega))
    have HG' := Lib.hid hmk
    clear hoG hmk hb HB HK HG HCG
    have HB := HB'
    have HK := HK'
    have HG := HG'
    have HCG := HCG'
    clear HB' HK' HG' HCG'
    have hneg : ¬ mm < 0 := by omega
    have hsum : (mm != mm) = false := by simp
    have g0 := HCG.out.c0
    have g1 := HCG.out.c1
    have g2 := HCG.out.c2
    go_wp2_with fail
    refine (heldRC_any oSp _ _ mm _ HG.out (by omega)).mono ?_
    rintro ee wH1 ⟨rfl, hb⟩
    have hsH1 : wG.heap.size ≤ wH1.heap.size := hb.size
    clear g0 g1 g2
    have HB' := Lib.hid (HB.out.trans (hb.mono (by omega)))
    have HK' := Lib.hid (HK.out.trans (hb.mono (by omega)))
    have HG' := Lib.hid (HG.out.same (Same.of_below hb (by omega)))
    have HCG' := Lib.hid (HCG.out.next hb)
    clear hb HB HK HG HCG
    have HB := HB'
    have HK := HK'
    have HG := HG'
    have HCG := HCG'
    clear HB' HK' HG' HCG'
    have HQ0 : Hid (∀ W', Below wH1.heap.size wH1 W' → Bx w W' (w.heap.size) p0 dv0 mv0 ds0 ms0) := Lib.hid (fun W' hb => HN0.out _ (HB.out.trans (hb.mono (by omega))))
    have HQ1 : Hid (∀ W', Below wH1.heap.size wH1 W' → Bx w W' (w.heap.size + 1) p1 dv1 mv1 ds1 ms1) := Lib.hid (fun W' hb => HN1.out _ (HB.out.trans (hb.mono (by omega))))
    go_upto_region 31 with fail
    go_cut [15, 16] from 17 (fun s15 s16 wz => ∃ (gJ : Nat) (aJd : Option Addr) (cJd : Nat) (aJm : Option Addr) (cJm : Nat), s15 = .pointer (some ⟨gJ, 0, none⟩) ∧ s16 = .int .i64 kS ∧ Hid (Below wH1.heap.size wH1 wz) ∧ Hid (Bq wz gJ oSp (.slice aJd oSd.length cJd) (.slice aJm oSm.length cJm) oSd oSm))
    case first =>
      go_wp2
      refine wp_region_held (S := fun W => Below (wH1.heap.size) wH1 W) (by kernel_rfl) ?_
      have S0 : Below (wH1.heap.size) wH1 wH1.drew := (Below.refl _ _).drew
      have hB0 : wH1.heap.size ≤ wH1.heap.size := Nat.le_refl _
      have hsd : wH1.heap.size ≤ wH1.drew.heap.size := Nat.le_refl _
      have hbd : Below wH1.heap.size wH1 wH1.drew := (Below.refl _ _).drew
      change wpAnyH _ _ _ _ _ _ _ _ wH1.drew
      obtain ⟨wd, hwd⟩ : ∃ wd, wd = wH1.drew := ⟨_, rfl⟩
      rw [← hwd] at S0 hsd hbd ⊢
      clear hwd
      refine held_take (i := 0) (v := .agg #[.int .i64 p0, dv0, mv0]) (some 95) rfl rfl (by kernel_rfl) (by kernel_rfl) (by kernel_rfl) (fun _ _ _ h => h) (yieldsIf_cell (by kernel_rfl) rfl (by kernel_rfl) (fun W h => hloadLawAxl_Cx W (HQ0.out W h))) S0 ?_
      refine held_take (i := 2) (v := .agg #[.int .i64 p1, dv1, mv1]) (some 97) rfl rfl (by kernel_rfl) (by kernel_rfl) (by kernel_rfl) (fun _ _ _ h => h) (yieldsIf_cell (by kernel_rfl) rfl (by kernel_rfl) (fun W h => hloadLawAxl_Cx W (HQ1.out W h))) S0 ?_
      refine held_two (i := 1) (j := 8) (by kernel_rfl) ?_ ?_
      · refine op_enter (i := 1) (some 96) (f := 25) (args := #[.agg #[.int .i64 p0, dv0, mv0]]) rfl rfl rfl (by kernel_rfl) (toComplex_any p0 dv0 mv0 ds0 ms0 _ (HQ0.out _ S0).cx hds0 HMS0.out) ?_ (fun c w' h => by obtain ⟨_, _, he, _⟩ := h; cases he) (fun w' h => by obtain ⟨_, _, he, _⟩ := h; cases he)
        rintro ee W1 ⟨xdv0, xmv0, he, hc1, hb1⟩
        injection he with he
        subst he
        have S1 : Below (wH1.heap.size) wH1 W1 := S0.trans (hb1.mono (Nat.le_trans hB0 S0.size))
        have hx0_1 := hc1.zero
        refine ⟨S1, ?_⟩
        refine held_two (i := 3) (j := 8) (by kernel_rfl) ?_ ?_
        · refine op_enter (i := 3) (some 98) (f := 25) (args := #[.agg #[.int .i64 p1, dv1, mv1]]) rfl rfl rfl (by kernel_rfl) (toComplex_any p1 dv1 mv1 ds1 ms1 _ (HQ1.out _ S1).cx hds1 HMS1.out) ?_ (fun c w' h => by obtain ⟨_, _, he, _⟩ := h; cases he) (fun w' h => by obtain ⟨_, _, he, _⟩ := h; cases he)
          rintro ee W2 ⟨xdv1, xmv1, he, hc2, hb2⟩
          injection he with he
          subst he
          have S2 : Below (wH1.heap.size) wH1 W2 := S1.trans (hb2.mono (Nat.le_trans hB0 S1.size))
          have hx0_2 := hx0_1.below hb2
          have hx1_2 := hc2.zero
          refine ⟨S2, ?_⟩
          refine held_two (i := 4) (j := 8) (by kernel_rfl) ?_ ?_
          · refine op_enter (i := 4) (some 99) (f := 57) (args := #[.agg #[.int .i64 p0, xdv0, xmv0], .agg #[.int .i64 p1, xdv1, xmv1]]) rfl rfl rfl (by kernel_rfl) (addComplexes_any p0 p1 _ _ _ _ ds0 ms0 ds1 ms1 _ (hx0_2) (hx1_2) hds0 HMS0.out hds1 HMS1.out) ?_ (fun c w' h => by obtain ⟨_, _, _, he, _⟩ := h; cases he) (fun w' h => by obtain ⟨_, _, _, he, _⟩ := h; cases he)
            rintro ee W3 ⟨u3, o3, k3, he, hr3, hb3, ho3⟩
            injection he with he
            subst he
            obtain ⟨rfl, rfl⟩ := RsOut.unique (fun _ a b ha hb => ha.trans hb.symm) HOS.out ho3
            obtain ⟨aJd, cJd, aJm, cJm, hu, hr3⟩ := hr3
            have hu : u3 = .agg #[.int .i64 oSp, .slice aJd oSd.length cJd, .slice aJm oSm.length cJm] := hu
            subst hu
            have S3 : Below (wH1.heap.size) wH1 W3 := S2.trans (hb3.mono (Nat.le_trans hB0 S2.size))
            refine ⟨S3, ?_⟩
            refine held_take (i := 5) (v := .tuple #[.agg #[.int .i64 oSp, .slice aJd oSd.length cJd, .slice aJm oSm.length cJm], .int .i64 kS]) (some 94) rfl rfl (by kernel_rfl) (by kernel_rfl) (by kernel_rfl) (fun _ _ _ h => h) (yieldsIf_move (by kernel_rfl) rfl (by kernel_rfl)) S3 ?_
            refine held_take (i := 6) (v := .agg #[.int .i64 oSp, .slice aJd oSd.length cJd, .slice aJm oSm.length cJm]) (some 100) rfl rfl (by kernel_rfl) (by kernel_rfl) (by kernel_rfl) (fun _ _ _ h => h) (yieldsIf_run (by kernel_rfl) (fun W _ => by kernel_rfl)) S3 ?_
            refine held_take (i := 7) (v := .int .i64 kS) (some 101) rfl rfl (by kernel_rfl) (by kernel_rfl) (by kernel_rfl) (fun _ _ _ h => h) (yieldsIf_run (by kernel_rfl) (fun W _ => by kernel_rfl)) S3 ?_
            refine held_one (i := 8) (by kernel_rfl) ?_
            · obtain ⟨W4, hW4⟩ : ∃ W', W' = W3.alloc (.cells #[.int .i64 0, .slice none 0 0, .slice none 0 0] 28) := ⟨_, rfl⟩
              have hb4 : Below W3.heap.size W3 W4 := by rw [hW4]; exact below_alloc1 _ _
              have hAR4 : Rz W4 W3.heap.size 28 #[.int .i64 0, .slice none 0 0, .slice none 0 0] := by rw [hW4]; exact Rz.new _ _ _
              have S4 : Below (wH1.heap.size) wH1 W4 := S3.trans (hb4.mono (Nat.le_trans hB0 S3.size))
              have hGR : wH1.heap.size ≤ W3.heap.size := Nat.le_trans hB0 S3.size
              have hg_4 := hr3.same (Same.of_below hb4 (Nat.le_refl _))
              refine op_mem (i := 8) (v := .pointer (some ⟨W3.heap.size, 0, none⟩)) (w' := W4) (some 15) rfl rfl rfl (by rw [hW4]; go_simp) ?_
              refine ⟨S4, ?_⟩
              have hAR := hAR4
              have S5 : Below (wH1.heap.size) wH1 (W4.setRow (W3.heap.size) #[.int .i64 oSp, .slice aJd oSd.length cJd, .slice aJm oSm.length cJm]) := below_setRow S4 hGR _
              refine held_one (i := 9) (by kernel_rfl) ?_
              refine op_row (i := 9) rfl rfl rfl 28 (.tmp 15) (.tmp 100) rfl (W3.heap.size) #[.int .i64 oSp, .slice aJd oSd.length cJd, .slice aJm oSm.length cJm] (by kernel_rfl) (by kernel_rfl) 28 _ hAR4 (infoLawAxl _ _ _) (by kernel_rfl) (by kernel_rfl) ?_
              refine ⟨S5, ?_⟩
              have hAR5 := hAR4.set #[.int .i64 oSp, .slice aJd oSd.length cJd, .slice aJm oSm.length cJm]
              refine held_take (i := 10) (v := .int .i64 kS) (some 16) rfl rfl (by kernel_rfl) (by kernel_rfl) (by kernel_rfl) (fun _ _ _ h => h) (yieldsIf_assign (by kernel_rfl) rfl (by kernel_rfl)) S5 ?_
              refine wpAnyH_done (by kernel_rfl) ?_ _
              simp only [Act.put, List.setIfInBounds_toArray, List.set_cons_zero, List.set_cons_succ]
              obtain ⟨WF, hWF⟩ : ∃ WF, WF = (W4.setRow (W3.heap.size) #[.int .i64 oSp, .slice aJd oSd.length cJd, .slice aJm oSm.length cJm]) := ⟨_, rfl⟩
              have hbf : Below wH1.heap.size wH1 WF := by rw [hWF]; exact S5
              have hrf : Rz WF (W3.heap.size) 28 #[.int .i64 oSp, .slice aJd oSd.length cJd, .slice aJm oSm.length cJm] := by rw [hWF]; exact hAR5
              have hGJ := hg_4.same (Same.setRow #[.int .i64 oSp, .slice aJd oSd.length cJd, .slice aJm oSm.length cJm] (Or.inr (Nat.le_refl _)))
              rw [← hWF] at hGJ
              rw [← hWF]
              clear hWF
              go_wp2
              go_meet
              exact ⟨_, aJd, cJd, aJm, cJm, rfl, rfl, Lib.hid hbf, Lib.hid ⟨hrf.cell rfl, hrf.cell rfl, hrf.cell rfl, hrf.lt, hGJ.cx⟩⟩
          · obtain ⟨W6, hW6⟩ : ∃ W', W' = W2.alloc (.cells #[.int .i64 0, .slice none 0 0, .slice none 0 0] 28) := ⟨_, rfl⟩
            have hb6 : Below W2.heap.size W2 W6 := by rw [hW6]; exact below_alloc1 _ _
            have hAR6 : Rz W6 W2.heap.size 28 #[.int .i64 0, .slice none 0 0, .slice none 0 0] := by rw [hW6]; exact Rz.new _ _ _
            have S6 : Below (wH1.heap.size) wH1 W6 := S2.trans (hb6.mono (Nat.le_trans hB0 S2.size))
            have hGR : wH1.heap.size ≤ W2.heap.size := Nat.le_trans hB0 S2.size
            have hx0_6 := hx0_2.below hb6
            have hx1_6 := hx1_2.below hb6
            refine op_mem (i := 8) (v := .pointer (some ⟨W2.heap.size, 0, none⟩)) (w' := W6) (some 15) rfl rfl rfl (by rw [hW6]; go_simp) ?_
            refine ⟨S6, ?_⟩
            refine held_one (i := 4) (by kernel_rfl) ?_
            · refine op_enter (i := 4) (some 99) (f := 57) (args := #[.agg #[.int .i64 p0, xdv0, xmv0], .agg #[.int .i64 p1, xdv1, xmv1]]) rfl rfl rfl (by kernel_rfl) (addComplexes_any p0 p1 _ _ _ _ ds0 ms0 ds1 ms1 _ (hx0_6) (hx1_6) hds0 HMS0.out hds1 HMS1.out) ?_ (fun c w' h => by obtain ⟨_, _, _, he, _⟩ := h; cases he) (fun w' h => by obtain ⟨_, _, _, he, _⟩ := h; cases he)
              rintro ee W7 ⟨u7, o7, k7, he, hr7, hb7, ho7⟩
              injection he with he
              subst he
              obtain ⟨rfl, rfl⟩ := RsOut.unique (fun _ a b ha hb => ha.trans hb.symm) HOS.out ho7
              obtain ⟨aJd, cJd, aJm, cJm, hu, hr7⟩ := hr7
              have hu : u7 = .agg #[.int .i64 oSp, .slice aJd oSd.length cJd, .slice aJm oSm.length cJm] := hu
              subst hu
              have S7 : Below (wH1.heap.size) wH1 W7 := S6.trans (hb7.mono (Nat.le_trans hB0 S6.size))
              have hAR7 := hAR6.next hb7
              refine ⟨S7, ?_⟩
              refine held_take (i := 5) (v := .tuple #[.agg #[.int .i64 oSp, .slice aJd oSd.length cJd, .slice aJm oSm.length cJm], .int .i64 kS]) (some 94) rfl rfl (by kernel_rfl) (by kernel_rfl) (by kernel_rfl) (fun _ _ _ h => h) (yieldsIf_move (by kernel_rfl) rfl (by kernel_rfl)) S7 ?_
              refine held_take (i := 6) (v := .agg #[.int .i64 oSp, .slice aJd oSd.length cJd, .slice aJm oSm.length cJm]) (some 100) rfl rfl (by kernel_rfl) (by kernel_rfl) (by kernel_rfl) (fun _ _ _ h => h) (yieldsIf_run (by kernel_rfl) (fun W _ => by kernel_rfl)) S7 ?_
              refine held_take (i := 7) (v := .int .i64 kS) (some 101) rfl rfl (by kernel_rfl) (by kernel_rfl) (by kernel_rfl) (fun _ _ _ h => h) (yieldsIf_run (by kernel_rfl) (fun W _ => by kernel_rfl)) S7 ?_
              have hAR := hAR7
              have S8 : Below (wH1.heap.size) wH1 (W7.setRow (W2.heap.size) #[.int .i64 oSp, .slice aJd oSd.length cJd, .slice aJm oSm.length cJm]) := below_setRow S7 hGR _
              refine held_one (i := 9) (by kernel_rfl) ?_
              refine op_row (i := 9) rfl rfl rfl 28 (.tmp 15) (.tmp 100) rfl (W2.heap.size) #[.int .i64 oSp, .slice aJd oSd.length cJd, .slice aJm oSm.length cJm] (by kernel_rfl) (by kernel_rfl) 28 _ hAR7 (infoLawAxl _ _ _) (by kernel_rfl) (by kernel_rfl) ?_
              refine ⟨S8, ?_⟩
              have hAR8 := hAR7.set #[.int .i64 oSp, .slice aJd oSd.length cJd, .slice aJm oSm.length cJm]
              refine held_take (i := 10) (v := .int .i64 kS) (some 16) rfl rfl (by kernel_rfl) (by kernel_rfl) (by kernel_rfl) (fun _ _ _ h => h) (yieldsIf_assign (by kernel_rfl) rfl (by kernel_rfl)) S8 ?_
              refine wpAnyH_done (by kernel_rfl) ?_ _
              simp only [Act.put, List.setIfInBounds_toArray, List.set_cons_zero, List.set_cons_succ]
              obtain ⟨WF, hWF⟩ : ∃ WF, WF = (W7.setRow (W2.heap.size) #[.int .i64 oSp, .slice aJd oSd.length cJd, .slice aJm oSm.length cJm]) := ⟨_, rfl⟩
              have hbf : Below wH1.heap.size wH1 WF := by rw [hWF]; exact S8
              have hrf : Rz WF (W2.heap.size) 28 #[.int .i64 oSp, .slice aJd oSd.length cJd, .slice aJm oSm.length cJm] := by rw [hWF]; exact hAR8
              have hGJ := hr7.same (Same.setRow #[.int .i64 oSp, .slice aJd oSd.length cJd, .slice aJm oSm.length cJm] (Or.inl hAR6.lt))
              rw [← hWF] at hGJ
              rw [← hWF]
              clear hWF
              go_wp2
              go_meet
              exact ⟨_, aJd, cJd, aJm, cJm, rfl, rfl, Lib.hid hbf, Lib.hid ⟨hrf.cell rfl, hrf.cell rfl, hrf.cell rfl, hrf.lt, hGJ.cx⟩⟩
        · obtain ⟨W9, hW9⟩ : ∃ W', W' = W1.alloc (.cells #[.int .i64 0, .slice none 0 0, .slice none 0 0] 28) := ⟨_, rfl⟩
          have hb9 : Below W1.heap.size W1 W9 := by rw [hW9]; exact below_alloc1 _ _
          have hAR9 : Rz W9 W1.heap.size 28 #[.int .i64 0, .slice none 0 0, .slice none 0 0] := by rw [hW9]; exact Rz.new _ _ _
          have S9 : Below (wH1.heap.size) wH1 W9 := S1.trans (hb9.mono (Nat.le_trans hB0 S1.size))
          have hGR : wH1.heap.size ≤ W1.heap.size := Nat.le_trans hB0 S1.size
          have hx0_9 := hx0_1.below hb9
          refine op_mem (i := 8) (v := .pointer (some ⟨W1.heap.size, 0, none⟩)) (w' := W9) (some 15) rfl rfl rfl (by rw [hW9]; go_simp) ?_
          refine ⟨S9, ?_⟩
          refine held_one (i := 3) (by kernel_rfl) ?_
          · refine op_enter (i := 3) (some 98) (f := 25) (args := #[.agg #[.int .i64 p1, dv1, mv1]]) rfl rfl rfl (by kernel_rfl) (toComplex_any p1 dv1 mv1 ds1 ms1 _ (HQ1.out _ S9).cx hds1 HMS1.out) ?_ (fun c w' h => by obtain ⟨_, _, he, _⟩ := h; cases he) (fun w' h => by obtain ⟨_, _, he, _⟩ := h; cases he)
            rintro ee W10 ⟨xdv1, xmv1, he, hc10, hb10⟩
            injection he with he
            subst he
            have S10 : Below (wH1.heap.size) wH1 W10 := S9.trans (hb10.mono (Nat.le_trans hB0 S9.size))
            have hAR10 := hAR9.next hb10
            have hx0_10 := hx0_9.below hb10
            have hx1_10 := hc10.zero
            refine ⟨S10, ?_⟩
            refine held_one (i := 4) (by kernel_rfl) ?_
            · refine op_enter (i := 4) (some 99) (f := 57) (args := #[.agg #[.int .i64 p0, xdv0, xmv0], .agg #[.int .i64 p1, xdv1, xmv1]]) rfl rfl rfl (by kernel_rfl) (addComplexes_any p0 p1 _ _ _ _ ds0 ms0 ds1 ms1 _ (hx0_10) (hx1_10) hds0 HMS0.out hds1 HMS1.out) ?_ (fun c w' h => by obtain ⟨_, _, _, he, _⟩ := h; cases he) (fun w' h => by obtain ⟨_, _, _, he, _⟩ := h; cases he)
              rintro ee W11 ⟨u11, o11, k11, he, hr11, hb11, ho11⟩
              injection he with he
              subst he
              obtain ⟨rfl, rfl⟩ := RsOut.unique (fun _ a b ha hb => ha.trans hb.symm) HOS.out ho11
              obtain ⟨aJd, cJd, aJm, cJm, hu, hr11⟩ := hr11
              have hu : u11 = .agg #[.int .i64 oSp, .slice aJd oSd.length cJd, .slice aJm oSm.length cJm] := hu
              subst hu
              have S11 : Below (wH1.heap.size) wH1 W11 := S10.trans (hb11.mono (Nat.le_trans hB0 S10.size))
              have hAR11 := hAR10.next hb11
              refine ⟨S11, ?_⟩
              refine held_take (i := 5) (v := .tuple #[.agg #[.int .i64 oSp, .slice aJd oSd.length cJd, .slice aJm oSm.length cJm], .int .i64 kS]) (some 94) rfl rfl (by kernel_rfl) (by kernel_rfl) (by kernel_rfl) (fun _ _ _ h => h) (yieldsIf_move (by kernel_rfl) rfl (by kernel_rfl)) S11 ?_
              refine held_take (i := 6) (v := .agg #[.int .i64 oSp, .slice aJd oSd.length cJd, .slice aJm oSm.length cJm]) (some 100) rfl rfl (by kernel_rfl) (by kernel_rfl) (by kernel_rfl) (fun _ _ _ h => h) (yieldsIf_run (by kernel_rfl) (fun W _ => by kernel_rfl)) S11 ?_
              refine held_take (i := 7) (v := .int .i64 kS) (some 101) rfl rfl (by kernel_rfl) (by kernel_rfl) (by kernel_rfl) (fun _ _ _ h => h) (yieldsIf_run (by kernel_rfl) (fun W _ => by kernel_rfl)) S11 ?_
              have hAR := hAR11
              have S12 : Below (wH1.heap.size) wH1 (W11.setRow (W1.heap.size) #[.int .i64 oSp, .slice aJd oSd.length cJd, .slice aJm oSm.length cJm]) := below_setRow S11 hGR _
              refine held_one (i := 9) (by kernel_rfl) ?_
              refine op_row (i := 9) rfl rfl rfl 28 (.tmp 15) (.tmp 100) rfl (W1.heap.size) #[.int .i64 oSp, .slice aJd oSd.length cJd, .slice aJm oSm.length cJm] (by kernel_rfl) (by kernel_rfl) 28 _ hAR11 (infoLawAxl _ _ _) (by kernel_rfl) (by kernel_rfl) ?_
              refine ⟨S12, ?_⟩
              have hAR12 := hAR11.set #[.int .i64 oSp, .slice aJd oSd.length cJd, .slice aJm oSm.length cJm]
              refine held_take (i := 10) (v := .int .i64 kS) (some 16) rfl rfl (by kernel_rfl) (by kernel_rfl) (by kernel_rfl) (fun _ _ _ h => h) (yieldsIf_assign (by kernel_rfl) rfl (by kernel_rfl)) S12 ?_
              refine wpAnyH_done (by kernel_rfl) ?_ _
              simp only [Act.put, List.setIfInBounds_toArray, List.set_cons_zero, List.set_cons_succ]
              obtain ⟨WF, hWF⟩ : ∃ WF, WF = (W11.setRow (W1.heap.size) #[.int .i64 oSp, .slice aJd oSd.length cJd, .slice aJm oSm.length cJm]) := ⟨_, rfl⟩
              have hbf : Below wH1.heap.size wH1 WF := by rw [hWF]; exact S12
              have hrf : Rz WF (W1.heap.size) 28 #[.int .i64 oSp, .slice aJd oSd.length cJd, .slice aJm oSm.length cJm] := by rw [hWF]; exact hAR12
              have hGJ := hr11.same (Same.setRow #[.int .i64 oSp, .slice aJd oSd.length cJd, .slice aJm oSm.length cJm] (Or.inl hAR10.lt))
              rw [← hWF] at hGJ
              rw [← hWF]
              clear hWF
              go_wp2
              go_meet
              exact ⟨_, aJd, cJd, aJm, cJm, rfl, rfl, Lib.hid hbf, Lib.hid ⟨hrf.cell rfl, hrf.cell rfl, hrf.cell rfl, hrf.lt, hGJ.cx⟩⟩
      · obtain ⟨W13, hW13⟩ : ∃ W', W' = wd.alloc (.cells #[.int .i64 0, .slice none 0 0, .slice none 0 0] 28) := ⟨_, rfl⟩
        have hb13 : Below wd.heap.size wd W13 := by rw [hW13]; exact below_alloc1 _ _
        have hAR13 : Rz W13 wd.heap.size 28 #[.int .i64 0, .slice none 0 0, .slice none 0 0] := by rw [hW13]; exact Rz.new _ _ _
        have S13 : Below (wH1.heap.size) wH1 W13 := S0.trans (hb13.mono (Nat.le_trans hB0 S0.size))
        have hGR : wH1.heap.size ≤ wd.heap.size := Nat.le_trans hB0 S0.size
        refine op_mem (i := 8) (v := .pointer (some ⟨wd.heap.size, 0, none⟩)) (w' := W13) (some 15) rfl rfl rfl (by rw [hW13]; go_simp) ?_
        refine ⟨S13, ?_⟩
        refine held_one (i := 1) (by kernel_rfl) ?_
        · refine op_enter (i := 1) (some 96) (f := 25) (args := #[.agg #[.int .i64 p0, dv0, mv0]]) rfl rfl rfl (by kernel_rfl) (toComplex_any p0 dv0 mv0 ds0 ms0 _ (HQ0.out _ S13).cx hds0 HMS0.out) ?_ (fun c w' h => by obtain ⟨_, _, he, _⟩ := h; cases he) (fun w' h => by obtain ⟨_, _, he, _⟩ := h; cases he)
          rintro ee W14 ⟨xdv0, xmv0, he, hc14, hb14⟩
          injection he with he
          subst he
          have S14 : Below (wH1.heap.size) wH1 W14 := S13.trans (hb14.mono (Nat.le_trans hB0 S13.size))
          have hAR14 := hAR13.next hb14
          have hx0_14 := hc14.zero
          refine ⟨S14, ?_⟩
          refine held_one (i := 3) (by kernel_rfl) ?_
          · refine op_enter (i := 3) (some 98) (f := 25) (args := #[.agg #[.int .i64 p1, dv1, mv1]]) rfl rfl rfl (by kernel_rfl) (toComplex_any p1 dv1 mv1 ds1 ms1 _ (HQ1.out _ S14).cx hds1 HMS1.out) ?_ (fun c w' h => by obtain ⟨_, _, he, _⟩ := h; cases he) (fun w' h => by obtain ⟨_, _, he, _⟩ := h; cases he)
            rintro ee W15 ⟨xdv1, xmv1, he, hc15, hb15⟩
            injection he with he
            subst he
            have S15 : Below (wH1.heap.size) wH1 W15 := S14.trans (hb15.mono (Nat.le_trans hB0 S14.size))
            have hAR15 := hAR14.next hb15
            have hx0_15 := hx0_14.below hb15
            have hx1_15 := hc15.zero
            refine ⟨S15, ?_⟩
            refine held_one (i := 4) (by kernel_rfl) ?_
            · refine op_enter (i := 4) (some 99) (f := 57) (args := #[.agg #[.int .i64 p0, xdv0, xmv0], .agg #[.int .i64 p1, xdv1, xmv1]]) rfl rfl rfl (by kernel_rfl) (addComplexes_any p0 p1 _ _ _ _ ds0 ms0 ds1 ms1 _ (hx0_15) (hx1_15) hds0 HMS0.out hds1 HMS1.out) ?_ (fun c w' h => by obtain ⟨_, _, _, he, _⟩ := h; cases he) (fun w' h => by obtain ⟨_, _, _, he, _⟩ := h; cases he)
              rintro ee W16 ⟨u16, o16, k16, he, hr16, hb16, ho16⟩
              injection he with he
              subst he
              obtain ⟨rfl, rfl⟩ := RsOut.unique (fun _ a b ha hb => ha.trans hb.symm) HOS.out ho16
              obtain ⟨aJd, cJd, aJm, cJm, hu, hr16⟩ := hr16
              have hu : u16 = .agg #[.int .i64 oSp, .slice aJd oSd.length cJd, .slice aJm oSm.length cJm] := hu
              subst hu
              have S16 : Below (wH1.heap.size) wH1 W16 := S15.trans (hb16.mono (Nat.le_trans hB0 S15.size))
              have hAR16 := hAR15.next hb16
              refine ⟨S16, ?_⟩
              refine held_take (i := 5) (v := .tuple #[.agg #[.int .i64 oSp, .slice aJd oSd.length cJd, .slice aJm oSm.length cJm], .int .i64 kS]) (some 94) rfl rfl (by kernel_rfl) (by kernel_rfl) (by kernel_rfl) (fun _ _ _ h => h) (yieldsIf_move (by kernel_rfl) rfl (by kernel_rfl)) S16 ?_
              refine held_take (i := 6) (v := .agg #[.int .i64 oSp, .slice aJd oSd.length cJd, .slice aJm oSm.length cJm]) (some 100) rfl rfl (by kernel_rfl) (by kernel_rfl) (by kernel_rfl) (fun _ _ _ h => h) (yieldsIf_run (by kernel_rfl) (fun W _ => by kernel_rfl)) S16 ?_
              refine held_take (i := 7) (v := .int .i64 kS) (some 101) rfl rfl (by kernel_rfl) (by kernel_rfl) (by kernel_rfl) (fun _ _ _ h => h) (yieldsIf_run (by kernel_rfl) (fun W _ => by kernel_rfl)) S16 ?_
              have hAR := hAR16
              have S17 : Below (wH1.heap.size) wH1 (W16.setRow (wd.heap.size) #[.int .i64 oSp, .slice aJd oSd.length cJd, .slice aJm oSm.length cJm]) := below_setRow S16 hGR _
              refine held_one (i := 9) (by kernel_rfl) ?_
              refine op_row (i := 9) rfl rfl rfl 28 (.tmp 15) (.tmp 100) rfl (wd.heap.size) #[.int .i64 oSp, .slice aJd oSd.length cJd, .slice aJm oSm.length cJm] (by kernel_rfl) (by kernel_rfl) 28 _ hAR16 (infoLawAxl _ _ _) (by kernel_rfl) (by kernel_rfl) ?_
              refine ⟨S17, ?_⟩
              have hAR17 := hAR16.set #[.int .i64 oSp, .slice aJd oSd.length cJd, .slice aJm oSm.length cJm]
              refine held_take (i := 10) (v := .int .i64 kS) (some 16) rfl rfl (by kernel_rfl) (by kernel_rfl) (by kernel_rfl) (fun _ _ _ h => h) (yieldsIf_assign (by kernel_rfl) rfl (by kernel_rfl)) S17 ?_
              refine wpAnyH_done (by kernel_rfl) ?_ _
              simp only [Act.put, List.setIfInBounds_toArray, List.set_cons_zero, List.set_cons_succ]
              obtain ⟨WF, hWF⟩ : ∃ WF, WF = (W16.setRow (wd.heap.size) #[.int .i64 oSp, .slice aJd oSd.length cJd, .slice aJm oSm.length cJm]) := ⟨_, rfl⟩
              have hbf : Below wH1.heap.size wH1 WF := by rw [hWF]; exact S17
              have hrf : Rz WF (wd.heap.size) 28 #[.int .i64 oSp, .slice aJd oSd.length cJd, .slice aJm oSm.length cJm] := by rw [hWF]; exact hAR17
              have hGJ := hr16.same (Same.setRow #[.int .i64 oSp, .slice aJd oSd.length cJd, .slice aJm oSm.length cJm] (Or.inl hAR15.lt))
              rw [← hWF] at hGJ
              rw [← hWF]
              clear hWF
              go_wp2
              go_meet
              exact ⟨_, aJd, cJd, aJm, cJm, rfl, rfl, Lib.hid hbf, Lib.hid ⟨hrf.cell rfl, hrf.cell rfl, hrf.cell rfl, hrf.lt, hGJ.cx⟩⟩
    case rest =>
      obtain ⟨gJ, aJd, cJd, aJm, cJm, rfl, rfl, HBz, HYJ⟩ := hcut
      obtain ⟨wJ, hwJ⟩ : ∃ wJ : World, wJ = wc := ⟨_, rfl⟩
      subst hwJ
      have hsJ : wH1.heap.size ≤ wJ.heap.size := HBz.out.size
      have hb := HBz.out
      clear HBz HQ0 HQ1
      have HB' := Lib.hid (HB.out.trans (hb.mono (by omega)))
      have HK' := Lib.hid (HK.out.trans (hb.mono (by omega)))
      have HG' := Lib.hid (HG.out.same (Same.of_below hb (by omega)))
      have HCG' := Lib.hid (HCG.out.next hb)
      clear hb HB HK HG HCG
      have HB := HB'
      have HK := HK'
      have HG := HG'
      have HCG := HCG'
      clear HB' HK' HG' HCG'
      have s0 := (HYS.out.next HK.out).c0
      have s1 := (HYS.out.next HK.out).c1
      have s2 := (HYS.out.next HK.out).c2
      have j0 := HYJ.out.c0
      have j1 := HYJ.out.c1
      have j2 := HYJ.out.c2
      go_wp2_with fail
      refine (eqComplex_true oSp _ _ _ _ oSd oSm _ HYJ.out.cx (HYS.out.next HK.out).cx hbd1 HBD.out.2).mono ?_
      rintro ee wK ⟨rfl, hb⟩
      have hsK : wJ.heap.size ≤ wK.heap.size := hb.size
      clear s0 s1 s2 j0 j1 j2
      clear HYJ
      have HB' := Lib.hid (HB.out.trans (hb.mono (by omega)))
      have HK' := Lib.hid (HK.out.trans (hb.mono (by omega)))
      have HG' := Lib.hid (HG.out.same (Same.of_below hb (by omega)))
      have HCG' := Lib.hid (HCG.out.next hb)
      clear hb HB HK HG HCG
      have HB := HB'
      have HK := HK'
      have HG := HG'
      have HCG := HCG'
      clear HB' HK' HG' HCG'
      have g0 := HCG.out.c0
      have g1 := HCG.out.c1
      have g2 := HCG.out.c2
      go_wp2_with fail
      refine (heldRC_any oSp _ _ mm _ HG.out (by omega)).mono ?_
      rintro ee wH2 ⟨rfl, hb⟩
      have hsH2 : wK.heap.size ≤ wH2.heap.size := hb.size
      clear g0 g1 g2
      have HB' := Lib.hid (HB.out.trans (hb.mono (by omega)))
      have HK' := Lib.hid (HK.out.trans (hb.mono (by omega)))
      have HG' := Lib.hid (HG.out.same (Same.of_below hb (by omega)))
      have HCG' := Lib.hid (HCG.out.next hb)
      clear hb HB HK HG HCG
      have HB := HB'
      have HK := HK'
      have HG := HG'
      have HCG := HCG'
      clear HB' HK' HG' HCG'
      go_wp2
      go_ret
      exact ⟨rfl, HNW.out _ HB.out⟩
end Go.Proofs.Ytpdkfidmmjlmnaa
