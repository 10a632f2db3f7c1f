/-
  Texts that ProofAcl needs, part 5.
-/
import Derived.Test.YtpdkfidmmjlmnabZc4
import Derived.Deep.RegionWith
import Derived.Deep.RegionHeld3
import Derived.Deep.Cut
import Derived.Deep.CutRange
import Derived.BigRegion
import Derived.BigQuiet
import Derived.Deep.QuietTactic
namespace Go.Proofs.Ytpdkfidmmjlmnab
open Go.RowKit

theorem hloadLawAcl0_Cp (w : World) {b : Nat} {y0 y1 y2 y3 y4 y5 : Value} (c0 : w.cell? ⟨b, 0, none⟩ = some y0) (c1 : w.cell? ⟨b, 1, none⟩ = some y1) (c2 : w.cell? ⟨b, 2, none⟩ = some y2) (c3 : w.cell? ⟨b, 3, none⟩ = some y3) (c4 : w.cell? ⟨b, 4, none⟩ = some y4) (c5 : w.cell? ⟨b, 5, none⟩ = some y5) : (Instr.loadAt 68 (.pointer (some ⟨b, 0, none⟩))).run Try.prog w = .ok (.agg #[y0, y1, y2, y3, y4, y5]) w := by go_simp
theorem hloadLawAcl_Cp {w0 : World} (w : World) {b : Nat} {p d e : Int} {iv jv kv : Value} {il jl kl : List (List Int)} (h : BxCp w0 w b p d e iv jv kv il jl kl) : (Instr.loadAt 68 (.pointer (some ⟨b, 0, none⟩))).run Try.prog w = .ok (.agg #[.int .i64 p, .int .i64 d, .int .i64 e, iv, jv, kv]) w := hloadLawAcl0_Cp w h.c0 h.c1 h.c2 h.c3 h.c4 h.c5
theorem infoLawAcl (y0 y1 y2 y3 y4 y5 : Value) : (Try.prog.info? 71).map (·.size) = some (#[y0, y1, y2, y3, y4, y5] : Array Value).size := by kernel_rfl

set_option maxHeartbeats 25600000 in
set_option maxRecDepth 100000 in
theorem lawAcl_any (p0 d0 e0 : Int) (iv0 jv0 kv0 : Value) (il0 : List (List Int)) (jl0 : List (List Int)) (kl0 : List (List Int)) (p1 d1 e1 : Int) (iv1 jv1 kv1 : Value) (il1 : List (List Int)) (jl1 : List (List Int)) (kl1 : List (List Int)) (w : World) (h0 : Cp 0 w iv0 jv0 kv0 il0 jl0 kl0) (hml0 : CpB 9223372036854775807 il0 jl0 kl0) (h1 : Cp 0 w iv1 jv1 kv1 il1 jl1 kl1) (hml1 : CpB 9223372036854775807 il1 jl1 kl1) :
    Calls Try.prog 17 #[.agg #[.int .i64 p0, .int .i64 d0, .int .i64 e0, iv0, jv0, kv0], .agg #[.int .i64 p1, .int .i64 d1, .int .i64 e1, iv1, jv1, kv1]] w (BR (.bool true) w) := by
  obtain ⟨W0, hW0⟩ : ∃ W0, W0 = ((w.alloc (.cells #[.int .i64 p0, .int .i64 d0, .int .i64 e0, iv0, jv0, kv0] 68)).alloc (.cells #[.int .i64 p1, .int .i64 d1, .int .i64 e1, iv1, jv1, kv1] 68)) := ⟨_, rfl⟩
  have HS0 : Hid (W0.heap.size = w.heap.size + 2) := Lib.hid (by rw [hW0]; simp)
  have HZ0 : Hid (Below w.heap.size w W0) := Lib.hid (by rw [hW0]; exact (below_alloc1 _ _).trans ((below_alloc1 _ _).mono (by simp)))
  have HK0 : Hid (BxCp w W0 (w.heap.size) p0 d0 e0 iv0 jv0 kv0 il0 jl0 kl0) := Lib.hid (by rw [hW0]; exact (bxCp_two _ h0 h1).1)
  have HK1 : Hid (BxCp w W0 (w.heap.size + 1) p1 d1 e1 iv1 jv1 kv1 il1 jl1 kl1) := Lib.hid (by rw [hW0]; exact (bxCp_two _ h0 h1).2)
  have HN0 : Hid (∀ W, Below (w.heap.size + 2) W0 W → BxCp w W (w.heap.size) p0 d0 e0 iv0 jv0 kv0 il0 jl0 kl0) := Lib.hid (fun W hb => HK0.out.next (by rw [HS0.out]; exact hb))
  have HN1 : Hid (∀ W, Below (w.heap.size + 2) W0 W → BxCp w W (w.heap.size + 1) p1 d1 e1 iv1 jv1 kv1 il1 jl1 kl1) := Lib.hid (fun W hb => HK1.out.next (by rw [HS0.out]; exact hb))
  have HNW : Hid (∀ W, Below (w.heap.size + 2) W0 W → Below w.heap.size w W) := Lib.hid (fun W hb => HZ0.out.trans (hb.mono (by omega)))
  have HB : Hid (Below (w.heap.size + 2) W0 W0) := Lib.hid (Below.refl _ _)
  have hs0 : w.heap.size + 2 ≤ W0.heap.size := by have := HS0.out; omega
  have HML0 := Lib.hid hml0
  have HML1 := Lib.hid hml1
  clear h0 h1 hml0 hml1 HK0 HK1
  go_enter Try.func17, Try.ntmps17
  go_upto_region 1 with fail
  rw [← hW0]
  clear hW0
  have c00 := (HN0.out _ HB.out).c0
  have c01 := (HN0.out _ HB.out).c1
  have c02 := (HN0.out _ HB.out).c2
  have c03 := (HN0.out _ HB.out).c3
  have c04 := (HN0.out _ HB.out).c4
  have c05 := (HN0.out _ HB.out).c5
  go_wp2_with fail
  refine (szCouple_any p0 d0 e0 iv0 jv0 kv0 il0 jl0 kl0 1048576 _ (HN0.out _ HB.out).cx (by omega) (by omega) HML0.out).mono ?_
  rintro ee wz0 ⟨sz0, rfl, hb, hpost⟩
  have hsz0 : W0.heap.size ≤ wz0.heap.size := hb.size
  have HB' := Lib.hid (HB.out.trans (hb.mono (by omega)))
  clear c00 c01 c02 c03 c04 c05
  clear hb HB
  have HB := HB'
  clear HB'
  rcases hpost with rfl | ⟨hp00, hp01, hpm0⟩
  · go_wp2
    go_ret
    exact ⟨rfl, HNW.out _ HB.out⟩
  have HMS0 := Lib.hid hpm0
  clear hpm0
  have c10 := (HN1.out _ HB.out).c0
  have c11 := (HN1.out _ HB.out).c1
  have c12 := (HN1.out _ HB.out).c2
  have c13 := (HN1.out _ HB.out).c3
  have c14 := (HN1.out _ HB.out).c4
  have c15 := (HN1.out _ HB.out).c5
  go_wp2_with fail
  refine (szCouple_any p1 d1 e1 iv1 jv1 kv1 il1 jl1 kl1 sz0 _ (HN1.out _ HB.out).cx (by omega) (by omega) HML1.out).mono ?_
  rintro ee wz1 ⟨sz1, rfl, hb, hpost⟩
  have hsz1 : wz0.heap.size ≤ wz1.heap.size := hb.size
  have HB' := Lib.hid (HB.out.trans (hb.mono (by omega)))
  clear c10 c11 c12 c13 c14 c15
  clear hb HB
  have HB := HB'
  clear HB'
  rcases hpost with rfl | ⟨hp10, hp11, hpm1⟩
  · go_wp2
    go_ret
    exact ⟨rfl, HNW.out _ HB.out⟩
  have HMS1 := Lib.hid hpm1
  clear hpm1
  have HQ0 : Hid (∀ W', Below wz1.heap.size wz1 W' → BxCp w W' (w.heap.size) p0 d0 e0 iv0 jv0 kv0 il0 jl0 kl0) := Lib.hid (fun W' hb => HN0.out _ (HB.out.trans (hb.mono (by omega))))
  have HQ1 : Hid (∀ W', Below wz1.heap.size wz1 W' → BxCp w W' (w.heap.size + 1) p1 d1 e1 iv1 jv1 kv1 il1 jl1 kl1) := Lib.hid (fun W' hb => HN1.out _ (HB.out.trans (hb.mono (by omega))))
  go_upto_region 8 with fail
  go_cut [6, 7] from 17 (fun s6 s7 wz => ∃ (gS : Nat) (kS : Int) (oSp : Int) (oSd : Int) (oSe : Int) (oSi : List (List Int)) (oSj : List (List Int)) (oSk : List (List Int)) (aSi : Option Addr) (cSi : Nat) (aSj : Option Addr) (cSj : Nat) (aSk : Option Addr) (cSk : Nat), s6 = .pointer (some ⟨gS, 0, none⟩) ∧ s7 = .int .i64 kS ∧ Hid (Below wz1.heap.size wz1 wz) ∧ Hid (BqCp wz gS oSp oSd oSe (.slice aSi oSi.length cSi) (.slice aSj oSj.length cSj) (.slice aSk oSk.length cSk) oSi oSj oSk) ∧ Hid (RsOut (fun o => o = adOut p0 d0 e0 il0 jl0 kl0 p1 d1 e1 il1 jl1 kl1) (0, 0, 0, [], [], []) (adCode p0 d0 e0 il0 jl0 kl0 p1 d1 e1 il1 jl1 kl1) (oSp, oSd, oSe, oSi, oSj, oSk) kS))
  case first =>
    go_wp2
    refine wp_region_held (S := fun W => Below (wz1.heap.size) wz1 W) (by kernel_rfl) ?_
    have S0 : Below (wz1.heap.size) wz1 wz1.drew := (Below.refl _ _).drew
    have hB0 : wz1.heap.size ≤ wz1.heap.size := Nat.le_refl _
    have hsd : wz1.heap.size ≤ wz1.drew.heap.size := Nat.le_refl _
    have hbd : Below wz1.heap.size wz1 wz1.drew := (Below.refl _ _).drew
    change wpAnyH _ _ _ _ _ _ _ _ wz1.drew
    obtain ⟨wd, hwd⟩ : ∃ wd, wd = wz1.drew := ⟨_, rfl⟩
    rw [← hwd] at S0 hsd hbd ⊢
    clear hwd
    refine held_take (i := 0) (v := .agg #[.int .i64 p0, .int .i64 d0, .int .i64 e0, iv0, jv0, kv0]) (some 28) rfl rfl (by kernel_rfl) (by kernel_rfl) (by kernel_rfl) (fun _ _ _ h => h) (yieldsIf_cell (by kernel_rfl) rfl (by kernel_rfl) (fun W h => hloadLawAcl_Cp W (HQ0.out W h))) S0 ?_
    refine held_take (i := 2) (v := .agg #[.int .i64 p1, .int .i64 d1, .int .i64 e1, iv1, jv1, kv1]) (some 30) rfl rfl (by kernel_rfl) (by kernel_rfl) (by kernel_rfl) (fun _ _ _ h => h) (yieldsIf_cell (by kernel_rfl) rfl (by kernel_rfl) (fun W h => hloadLawAcl_Cp W (HQ1.out W h))) S0 ?_
    refine held_two (i := 1) (j := 8) (by kernel_rfl) ?_ ?_
    · refine op_enter (i := 1) (some 29) (f := 67) (args := #[.agg #[.int .i64 p0, .int .i64 d0, .int .i64 e0, iv0, jv0, kv0]]) rfl rfl rfl (by kernel_rfl) (toCouple_any p0 d0 e0 iv0 jv0 kv0 il0 jl0 kl0 _ (HQ0.out _ S0).cx HMS0.out) ?_ (fun c w' h => by obtain ⟨_, _, _, he, _⟩ := h; cases he) (fun w' h => by obtain ⟨_, _, _, he, _⟩ := h; cases he)
      rintro ee W1 ⟨xiv0, xjv0, xkv0, he, hc1, hb1⟩
      injection he with he
      subst he
      have S1 : Below (wz1.heap.size) wz1 W1 := S0.trans (hb1.mono (Nat.le_trans hB0 S0.size))
      have hx0_1 := hc1.zero
      refine ⟨S1, ?_⟩
      refine held_two (i := 3) (j := 8) (by kernel_rfl) ?_ ?_
      · refine op_enter (i := 3) (some 31) (f := 67) (args := #[.agg #[.int .i64 p1, .int .i64 d1, .int .i64 e1, iv1, jv1, kv1]]) rfl rfl rfl (by kernel_rfl) (toCouple_any p1 d1 e1 iv1 jv1 kv1 il1 jl1 kl1 _ (HQ1.out _ S1).cx HMS1.out) ?_ (fun c w' h => by obtain ⟨_, _, _, he, _⟩ := h; cases he) (fun w' h => by obtain ⟨_, _, _, he, _⟩ := h; cases he)
        rintro ee W2 ⟨xiv1, xjv1, xkv1, he, hc2, hb2⟩
        injection he with he
        subst he
        have S2 : Below (wz1.heap.size) wz1 W2 := S1.trans (hb2.mono (Nat.le_trans hB0 S1.size))
        have hx0_2 := hx0_1.below hb2
        have hx1_2 := hc2.zero
        refine ⟨S2, ?_⟩
        refine held_two (i := 4) (j := 8) (by kernel_rfl) ?_ ?_
        · refine op_enter (i := 4) (some 32) (f := 73) (args := #[.agg #[.int .i64 p0, .int .i64 d0, .int .i64 e0, xiv0, xjv0, xkv0], .agg #[.int .i64 p1, .int .i64 d1, .int .i64 e1, xiv1, xjv1, xkv1]]) rfl rfl rfl (by kernel_rfl) (spAddCouples_any p0 d0 e0 p1 d1 e1 _ _ _ _ _ _ il0 jl0 kl0 il1 jl1 kl1 _ (hx0_2) (hx1_2) HMS0.out HMS1.out) ?_ (fun c w' h => by obtain ⟨_, _, _, he, _⟩ := h; cases he) (fun w' h => by obtain ⟨_, _, _, he, _⟩ := h; cases he)
          rintro ee W3 ⟨u3, o3, k3, he, hr3, hb3, ho3⟩
          injection he with he
          subst he
          obtain ⟨oSp, oSd, oSe, oSi, oSj, oSk⟩ := o3
          obtain ⟨aSi, cSi, aSj, cSj, aSk, cSk, hu, hgi3, hgj3, hgk3⟩ := hr3
          have hu : u3 = .agg #[.int .i64 oSp, .int .i64 oSd, .int .i64 oSe, .slice aSi oSi.length cSi, .slice aSj oSj.length cSj, .slice aSk oSk.length cSk] := hu
          subst hu
          have S3 : Below (wz1.heap.size) wz1 W3 := S2.trans (hb3.mono (Nat.le_trans hB0 S2.size))
          refine ⟨S3, ?_⟩
          refine held_take (i := 5) (v := .tuple #[.agg #[.int .i64 oSp, .int .i64 oSd, .int .i64 oSe, .slice aSi oSi.length cSi, .slice aSj oSj.length cSj, .slice aSk oSk.length cSk], .int .i64 k3]) (some 27) rfl rfl (by kernel_rfl) (by kernel_rfl) (by kernel_rfl) (fun _ _ _ h => h) (yieldsIf_move (by kernel_rfl) rfl (by kernel_rfl)) S3 ?_
          refine held_take (i := 6) (v := .agg #[.int .i64 oSp, .int .i64 oSd, .int .i64 oSe, .slice aSi oSi.length cSi, .slice aSj oSj.length cSj, .slice aSk oSk.length cSk]) (some 33) rfl rfl (by kernel_rfl) (by kernel_rfl) (by kernel_rfl) (fun _ _ _ h => h) (yieldsIf_run (by kernel_rfl) (fun W _ => by kernel_rfl)) S3 ?_
          refine held_take (i := 7) (v := .int .i64 k3) (some 34) rfl rfl (by kernel_rfl) (by kernel_rfl) (by kernel_rfl) (fun _ _ _ h => h) (yieldsIf_run (by kernel_rfl) (fun W _ => by kernel_rfl)) S3 ?_
          refine held_one (i := 8) (by kernel_rfl) ?_
          · obtain ⟨W4, hW4⟩ : ∃ W', W' = W3.alloc (.cells #[.int .i64 0, .int .i64 0, .int .i64 0, .slice none 0 0, .slice none 0 0, .slice none 0 0] 71) := ⟨_, rfl⟩
            have hb4 : Below W3.heap.size W3 W4 := by rw [hW4]; exact below_alloc1 _ _
            have hAR4 : Rz W4 W3.heap.size 71 #[.int .i64 0, .int .i64 0, .int .i64 0, .slice none 0 0, .slice none 0 0, .slice none 0 0] := by rw [hW4]; exact Rz.new _ _ _
            have S4 : Below (wz1.heap.size) wz1 W4 := S3.trans (hb4.mono (Nat.le_trans hB0 S3.size))
            have hGR : wz1.heap.size ≤ W3.heap.size := Nat.le_trans hB0 S3.size
            have hgi_4 := hgi3.below hb4
            have hgj_4 := hgj3.below hb4
            have hgk_4 := hgk3.below hb4
            refine op_mem (i := 8) (v := .pointer (some ⟨W3.heap.size, 0, none⟩)) (w' := W4) (some 6) rfl rfl rfl (by rw [hW4]; go_simp) ?_
            refine ⟨S4, ?_⟩
            have hAR := hAR4
            have S5 : Below (wz1.heap.size) wz1 (W4.setRow (W3.heap.size) #[.int .i64 oSp, .int .i64 oSd, .int .i64 oSe, .slice aSi oSi.length cSi, .slice aSj oSj.length cSj, .slice aSk oSk.length cSk]) := below_setRow S4 hGR _
            refine held_one (i := 9) (by kernel_rfl) ?_
            refine op_row (i := 9) rfl rfl rfl 71 (.tmp 6) (.tmp 33) rfl (W3.heap.size) #[.int .i64 oSp, .int .i64 oSd, .int .i64 oSe, .slice aSi oSi.length cSi, .slice aSj oSj.length cSj, .slice aSk oSk.length cSk] (by kernel_rfl) (by kernel_rfl) 71 _ hAR4 (infoLawAcl _ _ _ _ _ _) (by kernel_rfl) (by kernel_rfl) ?_
            refine ⟨S5, ?_⟩
            have hAR5 := hAR4.set #[.int .i64 oSp, .int .i64 oSd, .int .i64 oSe, .slice aSi oSi.length cSi, .slice aSj oSj.length cSj, .slice aSk oSk.length cSk]
            refine held_take (i := 10) (v := .int .i64 k3) (some 7) rfl rfl (by kernel_rfl) (by kernel_rfl) (by kernel_rfl) (fun _ _ _ h => h) (yieldsIf_assign (by kernel_rfl) rfl (by kernel_rfl)) S5 ?_
            refine wpAnyH_done (by kernel_rfl) ?_ _
            simp only [Act.put, List.setIfInBounds_toArray, List.set_cons_zero, List.set_cons_succ]
            obtain ⟨WF, hWF⟩ : ∃ WF, WF = (W4.setRow (W3.heap.size) #[.int .i64 oSp, .int .i64 oSd, .int .i64 oSe, .slice aSi oSi.length cSi, .slice aSj oSj.length cSj, .slice aSk oSk.length cSk]) := ⟨_, rfl⟩
            have hbf : Below wz1.heap.size wz1 WF := by rw [hWF]; exact S5
            have hrf : Rz WF (W3.heap.size) 71 #[.int .i64 oSp, .int .i64 oSd, .int .i64 oSe, .slice aSi oSi.length cSi, .slice aSj oSj.length cSj, .slice aSk oSk.length cSk] := by rw [hWF]; exact hAR5
            have hGi := hgi_4.offRow hAR (by decide) #[.int .i64 oSp, .int .i64 oSd, .int .i64 oSe, .slice aSi oSi.length cSi, .slice aSj oSj.length cSj, .slice aSk oSk.length cSk]
            have hGj := hgj_4.offRow hAR (by decide) #[.int .i64 oSp, .int .i64 oSd, .int .i64 oSe, .slice aSi oSi.length cSi, .slice aSj oSj.length cSj, .slice aSk oSk.length cSk]
            have hGk := hgk_4.offRow hAR (by decide) #[.int .i64 oSp, .int .i64 oSd, .int .i64 oSe, .slice aSi oSi.length cSi, .slice aSj oSj.length cSj, .slice aSk oSk.length cSk]
            rw [← hWF] at hGi hGj hGk
            rw [← hWF]
            clear hWF
            go_wp2
            go_meet
            exact ⟨_, k3, oSp, oSd, oSe, oSi, oSj, oSk, aSi, cSi, aSj, cSj, aSk, cSk, rfl, rfl, Lib.hid hbf, Lib.hid ⟨hrf.cell rfl, hrf.cell rfl, hrf.cell rfl, hrf.cell rfl, hrf.cell rfl, hrf.cell rfl, hrf.lt, ⟨hGi.l2, hGj.l2, hGk.l2⟩⟩, Lib.hid ho3⟩
        · obtain ⟨W6, hW6⟩ : ∃ W', W' = W2.alloc (.cells #[.int .i64 0, .int .i64 0, .int .i64 0, .slice none 0 0, .slice none 0 0, .slice none 0 0] 71) := ⟨_, rfl⟩
          have hb6 : Below W2.heap.size W2 W6 := by rw [hW6]; exact below_alloc1 _ _
          have hAR6 : Rz W6 W2.heap.size 71 #[.int .i64 0, .int .i64 0, .int .i64 0, .slice none 0 0, .slice none 0 0, .slice none 0 0] := by rw [hW6]; exact Rz.new _ _ _
          have S6 : Below (wz1.heap.size) wz1 W6 := S2.trans (hb6.mono (Nat.le_trans hB0 S2.size))
          have hGR : wz1.heap.size ≤ W2.heap.size := Nat.le_trans hB0 S2.size
          have hx0_6 := hx0_2.below hb6
          have hx1_6 := hx1_2.below hb6
          refine op_mem (i := 8) (v := .pointer (some ⟨W2.heap.size, 0, none⟩)) (w' := W6) (some 6) rfl rfl rfl (by rw [hW6]; go_simp) ?_
          refine ⟨S6, ?_⟩
          refine held_one (i := 4) (by kernel_rfl) ?_
          · refine op_enter (i := 4) (some 32) (f := 73) (args := #[.agg #[.int .i64 p0, .int .i64 d0, .int .i64 e0, xiv0, xjv0, xkv0], .agg #[.int .i64 p1, .int .i64 d1, .int .i64 e1, xiv1, xjv1, xkv1]]) rfl rfl rfl (by kernel_rfl) (spAddCouples_any p0 d0 e0 p1 d1 e1 _ _ _ _ _ _ il0 jl0 kl0 il1 jl1 kl1 _ (hx0_6) (hx1_6) HMS0.out HMS1.out) ?_ (fun c w' h => by obtain ⟨_, _, _, he, _⟩ := h; cases he) (fun w' h => by obtain ⟨_, _, _, he, _⟩ := h; cases he)
            rintro ee W7 ⟨u7, o7, k7, he, hr7, hb7, ho7⟩
            injection he with he
            subst he
            obtain ⟨oSp, oSd, oSe, oSi, oSj, oSk⟩ := o7
            obtain ⟨aSi, cSi, aSj, cSj, aSk, cSk, hu, hgi7, hgj7, hgk7⟩ := hr7
            have hu : u7 = .agg #[.int .i64 oSp, .int .i64 oSd, .int .i64 oSe, .slice aSi oSi.length cSi, .slice aSj oSj.length cSj, .slice aSk oSk.length cSk] := hu
            subst hu
            have S7 : Below (wz1.heap.size) wz1 W7 := S6.trans (hb7.mono (Nat.le_trans hB0 S6.size))
            have hAR7 := hAR6.next hb7
            refine ⟨S7, ?_⟩
            refine held_take (i := 5) (v := .tuple #[.agg #[.int .i64 oSp, .int .i64 oSd, .int .i64 oSe, .slice aSi oSi.length cSi, .slice aSj oSj.length cSj, .slice aSk oSk.length cSk], .int .i64 k7]) (some 27) rfl rfl (by kernel_rfl) (by kernel_rfl) (by kernel_rfl) (fun _ _ _ h => h) (yieldsIf_move (by kernel_rfl) rfl (by kernel_rfl)) S7 ?_
            refine held_take (i := 6) (v := .agg #[.int .i64 oSp, .int .i64 oSd, .int .i64 oSe, .slice aSi oSi.length cSi, .slice aSj oSj.length cSj, .slice aSk oSk.length cSk]) (some 33) rfl rfl (by kernel_rfl) (by kernel_rfl) (by kernel_rfl) (fun _ _ _ h => h) (yieldsIf_run (by kernel_rfl) (fun W _ => by kernel_rfl)) S7 ?_
            refine held_take (i := 7) (v := .int .i64 k7) (some 34) rfl rfl (by kernel_rfl) (by kernel_rfl) (by kernel_rfl) (fun _ _ _ h => h) (yieldsIf_run (by kernel_rfl) (fun W _ => by kernel_rfl)) S7 ?_
            have hAR := hAR7
            have S8 : Below (wz1.heap.size) wz1 (W7.setRow (W2.heap.size) #[.int .i64 oSp, .int .i64 oSd, .int .i64 oSe, .slice aSi oSi.length cSi, .slice aSj oSj.length cSj, .slice aSk oSk.length cSk]) := below_setRow S7 hGR _
            refine held_one (i := 9) (by kernel_rfl) ?_
            refine op_row (i := 9) rfl rfl rfl 71 (.tmp 6) (.tmp 33) rfl (W2.heap.size) #[.int .i64 oSp, .int .i64 oSd, .int .i64 oSe, .slice aSi oSi.length cSi, .slice aSj oSj.length cSj, .slice aSk oSk.length cSk] (by kernel_rfl) (by kernel_rfl) 71 _ hAR7 (infoLawAcl _ _ _ _ _ _) (by kernel_rfl) (by kernel_rfl) ?_
            refine ⟨S8, ?_⟩
            have hAR8 := hAR7.set #[.int .i64 oSp, .int .i64 oSd, .int .i64 oSe, .slice aSi oSi.length cSi, .slice aSj oSj.length cSj, .slice aSk oSk.length cSk]
            refine held_take (i := 10) (v := .int .i64 k7) (some 7) rfl rfl (by kernel_rfl) (by kernel_rfl) (by kernel_rfl) (fun _ _ _ h => h) (yieldsIf_assign (by kernel_rfl) rfl (by kernel_rfl)) S8 ?_
            refine wpAnyH_done (by kernel_rfl) ?_ _
            simp only [Act.put, List.setIfInBounds_toArray, List.set_cons_zero, List.set_cons_succ]
            obtain ⟨WF, hWF⟩ : ∃ WF, WF = (W7.setRow (W2.heap.size) #[.int .i64 oSp, .int .i64 oSd, .int .i64 oSe, .slice aSi oSi.length cSi, .slice aSj oSj.length cSj, .slice aSk oSk.length cSk]) := ⟨_, rfl⟩
            have hbf : Below wz1.heap.size wz1 WF := by rw [hWF]; exact S8
            have hrf : Rz WF (W2.heap.size) 71 #[.int .i64 oSp, .int .i64 oSd, .int .i64 oSe, .slice aSi oSi.length cSi, .slice aSj oSj.length cSj, .slice aSk oSk.length cSk] := by rw [hWF]; exact hAR8
            have hGi := hgi7.offRow hAR (by decide) #[.int .i64 oSp, .int .i64 oSd, .int .i64 oSe, .slice aSi oSi.length cSi, .slice aSj oSj.length cSj, .slice aSk oSk.length cSk]
            have hGj := hgj7.offRow hAR (by decide) #[.int .i64 oSp, .int .i64 oSd, .int .i64 oSe, .slice aSi oSi.length cSi, .slice aSj oSj.length cSj, .slice aSk oSk.length cSk]
            have hGk := hgk7.offRow hAR (by decide) #[.int .i64 oSp, .int .i64 oSd, .int .i64 oSe, .slice aSi oSi.length cSi, .slice aSj oSj.length cSj, .slice aSk oSk.length cSk]
            rw [← hWF] at hGi hGj hGk
            rw [← hWF]
            clear hWF
            go_wp2
            go_meet
            exact ⟨_, k7, oSp, oSd, oSe, oSi, oSj, oSk, aSi, cSi, aSj, cSj, aSk, cSk, rfl, rfl, Lib.hid hbf, Lib.hid ⟨hrf.cell rfl, hrf.cell rfl, hrf.cell rfl, hrf.cell rfl, hrf.cell rfl, hrf.cell rfl, hrf.lt, ⟨hGi.l2, hGj.l2, hGk.l2⟩⟩, Lib.hid ho7⟩
      · obtain ⟨W9, hW9⟩ : ∃ W', W' = W1.alloc (.cells #[.int .i64 0, .int .i64 0, .int .i64 0, .slice none 0 0, .slice none 0 0, .slice none 0 0] 71) := ⟨_, rfl⟩
        have hb9 : Below W1.heap.size W1 W9 := by rw [hW9]; exact below_alloc1 _ _
        have hAR9 : Rz W9 W1.heap.size 71 #[.int .i64 0, .int .i64 0, .int .i64 0, .slice none 0 0, .slice none 0 0, .slice none 0 0] := by rw [hW9]; exact Rz.new _ _ _
        have S9 : Below (wz1.heap.size) wz1 W9 := S1.trans (hb9.mono (Nat.le_trans hB0 S1.size))
        have hGR : wz1.heap.size ≤ W1.heap.size := Nat.le_trans hB0 S1.size
        have hx0_9 := hx0_1.below hb9
        refine op_mem (i := 8) (v := .pointer (some ⟨W1.heap.size, 0, none⟩)) (w' := W9) (some 6) rfl rfl rfl (by rw [hW9]; go_simp) ?_
        refine ⟨S9, ?_⟩
        refine held_one (i := 3) (by kernel_rfl) ?_
        · refine op_enter (i := 3) (some 31) (f := 67) (args := #[.agg #[.int .i64 p1, .int .i64 d1, .int .i64 e1, iv1, jv1, kv1]]) rfl rfl rfl (by kernel_rfl) (toCouple_any p1 d1 e1 iv1 jv1 kv1 il1 jl1 kl1 _ (HQ1.out _ S9).cx HMS1.out) ?_ (fun c w' h => by obtain ⟨_, _, _, he, _⟩ := h; cases he) (fun w' h => by obtain ⟨_, _, _, he, _⟩ := h; cases he)
          rintro ee W10 ⟨xiv1, xjv1, xkv1, he, hc10, hb10⟩
          injection he with he
          subst he
          have S10 : Below (wz1.heap.size) wz1 W10 := S9.trans (hb10.mono (Nat.le_trans hB0 S9.size))
          have hAR10 := hAR9.next hb10
          have hx0_10 := hx0_9.below hb10
          have hx1_10 := hc10.zero
          refine ⟨S10, ?_⟩
          refine held_one (i := 4) (by kernel_rfl) ?_
          · refine op_enter (i := 4) (some 32) (f := 73) (args := #[.agg #[.int .i64 p0, .int .i64 d0, .int .i64 e0, xiv0, xjv0, xkv0], .agg #[.int .i64 p1, .int .i64 d1, .int .i64 e1, xiv1, xjv1, xkv1]]) rfl rfl rfl (by kernel_rfl) (spAddCouples_any p0 d0 e0 p1 d1 e1 _ _ _ _ _ _ il0 jl0 kl0 il1 jl1 kl1 _ (hx0_10) (hx1_10) HMS0.out HMS1.out) ?_ (fun c w' h => by obtain ⟨_, _, _, he, _⟩ := h; cases he) (fun w' h => by obtain ⟨_, _, _, he, _⟩ := h; cases he)
            rintro ee W11 ⟨u11, o11, k11, he, hr11, hb11, ho11⟩
            injection he with he
            subst he
            obtain ⟨oSp, oSd, oSe, oSi, oSj, oSk⟩ := o11
            obtain ⟨aSi, cSi, aSj, cSj, aSk, cSk, hu, hgi11, hgj11, hgk11⟩ := hr11
            have hu : u11 = .agg #[.int .i64 oSp, .int .i64 oSd, .int .i64 oSe, .slice aSi oSi.length cSi, .slice aSj oSj.length cSj, .slice aSk oSk.length cSk] := hu
            subst hu
            have S11 : Below (wz1.heap.size) wz1 W11 := S10.trans (hb11.mono (Nat.le_trans hB0 S10.size))
            have hAR11 := hAR10.next hb11
            refine ⟨S11, ?_⟩
            refine held_take (i := 5) (v := .tuple #[.agg #[.int .i64 oSp, .int .i64 oSd, .int .i64 oSe, .slice aSi oSi.length cSi, .slice aSj oSj.length cSj, .slice aSk oSk.length cSk], .int .i64 k11]) (some 27) rfl rfl (by kernel_rfl) (by kernel_rfl) (by kernel_rfl) (fun _ _ _ h => h) (yieldsIf_move (by kernel_rfl) rfl (by kernel_rfl)) S11 ?_
            refine held_take (i := 6) (v := .agg #[.int .i64 oSp, .int .i64 oSd, .int .i64 oSe, .slice aSi oSi.length cSi, .slice aSj oSj.length cSj, .slice aSk oSk.length cSk]) (some 33) rfl rfl (by kernel_rfl) (by kernel_rfl) (by kernel_rfl) (fun _ _ _ h => h) (yieldsIf_run (by kernel_rfl) (fun W _ => by kernel_rfl)) S11 ?_
            refine held_take (i := 7) (v := .int .i64 k11) (some 34) rfl rfl (by kernel_rfl) (by kernel_rfl) (by kernel_rfl) (fun _ _ _ h => h) (yieldsIf_run (by kernel_rfl) (fun W _ => by kernel_rfl)) S11 ?_
            have hAR := hAR11
            have S12 : Below (wz1.heap.size) wz1 (W11.setRow (W1.heap.size) #[.int .i64 oSp, .int .i64 oSd, .int .i64 oSe, .slice aSi oSi.length cSi, .slice aSj oSj.length cSj, .slice aSk oSk.length cSk]) := below_setRow S11 hGR _
            refine held_one (i := 9) (by kernel_rfl) ?_
            refine op_row (i := 9) rfl rfl rfl 71 (.tmp 6) (.tmp 33) rfl (W1.heap.size) #[.int .i64 oSp, .int .i64 oSd, .int .i64 oSe, .slice aSi oSi.length cSi, .slice aSj oSj.length cSj, .slice aSk oSk.length cSk] (by kernel_rfl) (by kernel_rfl) 71 _ hAR11 (infoLawAcl _ _ _ _ _ _) (by kernel_rfl) (by kernel_rfl) ?_
            refine ⟨S12, ?_⟩
            have hAR12 := hAR11.set #[.int .i64 oSp, .int .i64 oSd, .int .i64 oSe, .slice aSi oSi.length cSi, .slice aSj oSj.length cSj, .slice aSk oSk.length cSk]
            refine held_take (i := 10) (v := .int .i64 k11) (some 7) rfl rfl (by kernel_rfl) (by kernel_rfl) (by kernel_rfl) (fun _ _ _ h => h) (yieldsIf_assign (by kernel_rfl) rfl (by kernel_rfl)) S12 ?_
            refine wpAnyH_done (by kernel_rfl) ?_ _
            simp only [Act.put, List.setIfInBounds_toArray, List.set_cons_zero, List.set_cons_succ]
            obtain ⟨WF, hWF⟩ : ∃ WF, WF = (W11.setRow (W1.heap.size) #[.int .i64 oSp, .int .i64 oSd, .int .i64 oSe, .slice aSi oSi.length cSi, .slice aSj oSj.length cSj, .slice aSk oSk.length cSk]) := ⟨_, rfl⟩
            have hbf : Below wz1.heap.size wz1 WF := by rw [hWF]; exact S12
            have hrf : Rz WF (W1.heap.size) 71 #[.int .i64 oSp, .int .i64 oSd, .int .i64 oSe, .slice aSi oSi.length cSi, .slice aSj oSj.length cSj, .slice aSk oSk.length cSk] := by rw [hWF]; exact hAR12
            have hGi := hgi11.offRow hAR (by decide) #[.int .i64 oSp, .int .i64 oSd, .int .i64 oSe, .slice aSi oSi.length cSi, .slice aSj oSj.length cSj, .slice aSk oSk.length cSk]
            have hGj := hgj11.offRow hAR (by decide) #[.int .i64 oSp, .int .i64 oSd, .int .i64 oSe, .slice aSi oSi.length cSi, .slice aSj oSj.length cSj, .slice aSk oSk.length cSk]
            have hGk := hgk11.offRow hAR (by decide) #[.int .i64 oSp, .int .i64 oSd, .int .i64 oSe, .slice aSi oSi.length cSi, .slice aSj oSj.length cSj, .slice aSk oSk.length cSk]
            rw [← hWF] at hGi hGj hGk
            rw [← hWF]
            clear hWF
            go_wp2
            go_meet
            exact ⟨_, k11, oSp, oSd, oSe, oSi, oSj, oSk, aSi, cSi, aSj, cSj, aSk, cSk, rfl, rfl, Lib.hid hbf, Lib.hid ⟨hrf.cell rfl, hrf.cell rfl, hrf.cell rfl, hrf.cell rfl, hrf.cell rfl, hrf.cell rfl, hrf.lt, ⟨hGi.l2, hGj.l2, hGk.l2⟩⟩, Lib.hid ho11⟩
    · obtain ⟨W13, hW13⟩ : ∃ W', W' = wd.alloc (.cells #[.int .i64 0, .int .i64 0, .int .i64 0, .slice none 0 0, .slice none 0 0, .slice none 0 0] 71) := ⟨_, rfl⟩
      have hb13 : Below wd.heap.size wd W13 := by rw [hW13]; exact below_alloc1 _ _
      have hAR13 : Rz W13 wd.heap.size 71 #[.int .i64 0, .int .i64 0, .int .i64 0, .slice none 0 0, .slice none 0 0, .slice none 0 0] := by rw [hW13]; exact Rz.new _ _ _
      have S13 : Below (wz1.heap.size) wz1 W13 := S0.trans (hb13.mono (Nat.le_trans hB0 S0.size))
      have hGR : wz1.heap.size ≤ wd.heap.size := Nat.le_trans hB0 S0.size
      refine op_mem (i := 8) (v := .pointer (some ⟨wd.heap.size, 0, none⟩)) (w' := W13) (some 6) rfl rfl rfl (by rw [hW13]; go_simp) ?_
      refine ⟨S13, ?_⟩
      refine held_one (i := 1) (by kernel_rfl) ?_
      · refine op_enter (i := 1) (some 29) (f := 67) (args := #[.agg #[.int .i64 p0, .int .i64 d0, .int .i64 e0, iv0, jv0, kv0]]) rfl rfl rfl (by kernel_rfl) (toCouple_any p0 d0 e0 iv0 jv0 kv0 il0 jl0 kl0 _ (HQ0.out _ S13).cx HMS0.out) ?_ (fun c w' h => by obtain ⟨_, _, _, he, _⟩ := h; cases he) (fun w' h => by obtain ⟨_, _, _, he, _⟩ := h; cases he)
        rintro ee W14 ⟨xiv0, xjv0, xkv0, he, hc14, hb14⟩
        injection he with he
        subst he
        have S14 : Below (wz1.heap.size) wz1 W14 := S13.trans (hb14.mono (Nat.le_trans hB0 S13.size))
        have hAR14 := hAR13.next hb14
        have hx0_14 := hc14.zero
        refine ⟨S14, ?_⟩
        refine held_one (i := 3) (by kernel_rfl) ?_
        · refine op_enter (i := 3) (some 31) (f := 67) (args := #[.agg #[.int .i64 p1, .int .i64 d1, .int .i64 e1, iv1, jv1, kv1]]) rfl rfl rfl (by kernel_rfl) (toCouple_any p1 d1 e1 iv1 jv1 kv1 il1 jl1 kl1 _ (HQ1.out _ S14).cx HMS1.out) ?_ (fun c w' h => by obtain ⟨_, _, _, he, _⟩ := h; cases he) (fun w' h => by obtain ⟨_, _, _, he, _⟩ := h; cases he)
          rintro ee W15 ⟨xiv1, xjv1, xkv1, he, hc15, hb15⟩
          injection he with he
          subst he
          have S15 : Below (wz1.heap.size) wz1 W15 := S14.trans (hb15.mono (Nat.le_trans hB0 S14.size))
          have hAR15 := hAR14.next hb15
          have hx0_15 := hx0_14.below hb15
          have hx1_15 := hc15.zero
          refine ⟨S15, ?_⟩
          refine held_one (i := 4) (by kernel_rfl) ?_
          · refine op_enter (i := 4) (some 32) (f := 73) (args := #[.agg #[.int .i64 p0, .int .i64 d0, .int .i64 e0, xiv0, xjv0, xkv0], .agg #[.int .i64 p1, .int .i64 d1, .int .i64 e1, xiv1, xjv1, xkv1]]) rfl rfl rfl (by kernel_rfl) (spAddCouples_any p0 d0 e0 p1 d1 e1 _ _ _ _ _ _ il0 jl0 kl0 il1 jl1 kl1 _ (hx0_15) (hx1_15) HMS0.out HMS1.out) ?_ (fun c w' h => by obtain ⟨_, _, _, he, _⟩ := h; cases he) (fun w' h => by obtain ⟨_, _, _, he, _⟩ := h; cases he)
            rintro ee W16 ⟨u16, o16, k16, he, hr16, hb16, ho16⟩
            injection he with he
            subst he
            obtain ⟨oSp, oSd, oSe, oSi, oSj, oSk⟩ := o16
            obtain ⟨aSi, cSi, aSj, cSj, aSk, cSk, hu, hgi16, hgj16, hgk16⟩ := hr16
            have hu : u16 = .agg #[.int .i64 oSp, .int .i64 oSd, .int .i64 oSe, .slice aSi oSi.length cSi, .slice aSj oSj.length cSj, .slice aSk oSk.length cSk] := hu
            subst hu
            have S16 : Below (wz1.heap.size) wz1 W16 := S15.trans (hb16.mono (Nat.le_trans hB0 S15.size))
            have hAR16 := hAR15.next hb16
            refine ⟨S16, ?_⟩
            refine held_take (i := 5) (v := .tuple #[.agg #[.int .i64 oSp, .int .i64 oSd, .int .i64 oSe, .slice aSi oSi.length cSi, .slice aSj oSj.length cSj, .slice aSk oSk.length cSk], .int .i64 k16]) (some 27) rfl rfl (by kernel_rfl) (by kernel_rfl) (by kernel_rfl) (fun _ _ _ h => h) (yieldsIf_move (by kernel_rfl) rfl (by kernel_rfl)) S16 ?_
            refine held_take (i := 6) (v := .agg #[.int .i64 oSp, .int .i64 oSd, .int .i64 oSe, .slice aSi oSi.length cSi, .slice aSj oSj.length cSj, .slice aSk oSk.length cSk]) (some 33) rfl rfl (by kernel_rfl) (by kernel_rfl) (by kernel_rfl) (fun _ _ _ h => h) (yieldsIf_run (by kernel_rfl) (fun W _ => by kernel_rfl)) S16 ?_
            refine held_take (i := 7) (v := .int .i64 k16) (some 34) rfl rfl (by kernel_rfl) (by kernel_rfl) (by kernel_rfl) (fun _ _ _ h => h) (yieldsIf_run (by kernel_rfl) (fun W _ => by kernel_rfl)) S16 ?_
            have hAR := hAR16
            have S17 : Below (wz1.heap.size) wz1 (W16.setRow (wd.heap.size) #[.int .i64 oSp, .int .i64 oSd, .int .i64 oSe, .slice aSi oSi.length cSi, .slice aSj oSj.length cSj, .slice aSk oSk.length cSk]) := below_setRow S16 hGR _
            refine held_one (i := 9) (by kernel_rfl) ?_
            refine op_row (i := 9) rfl rfl rfl 71 (.tmp 6) (.tmp 33) rfl (wd.heap.size) #[.int .i64 oSp, .int .i64 oSd, .int .i64 oSe, .slice aSi oSi.length cSi, .slice aSj oSj.length cSj, .slice aSk oSk.length cSk] (by kernel_rfl) (by kernel_rfl) 71 _ hAR16 (infoLawAcl _ _ _ _ _ _) (by kernel_rfl) (by kernel_rfl) ?_
            refine ⟨S17, ?_⟩
            have hAR17 := hAR16.set #[.int .i64 oSp, .int .i64 oSd, .int .i64 oSe, .slice aSi oSi.length cSi, .slice aSj oSj.length cSj, .slice aSk oSk.length cSk]
            refine held_take (i := 10) (v := .int .i64 k16) (some 7) rfl rfl (by kernel_rfl) (by kernel_rfl) (by kernel_rfl) (fun _ _ _ h => h) (yieldsIf_assign (by kernel_rfl) rfl (by kernel_rfl)) S17 ?_
            refine wpAnyH_done (by kernel_rfl) ?_ _
            simp only [Act.put, List.setIfInBounds_toArray, List.set_cons_zero, List.set_cons_succ]
            obtain ⟨WF, hWF⟩ : ∃ WF, WF = (W16.setRow (wd.heap.size) #[.int .i64 oSp, .int .i64 oSd, .int .i64 oSe, .slice aSi oSi.length cSi, .slice aSj oSj.length cSj, .slice aSk oSk.length cSk]) := ⟨_, rfl⟩
            have hbf : Below wz1.heap.size wz1 WF := by rw [hWF]; exact S17
            have hrf : Rz WF (wd.heap.size) 71 #[.int .i64 oSp, .int .i64 oSd, .int .i64 oSe, .slice aSi oSi.length cSi, .slice aSj oSj.length cSj, .slice aSk oSk.length cSk] := by rw [hWF]; exact hAR17
            have hGi := hgi16.offRow hAR (by decide) #[.int .i64 oSp, .int .i64 oSd, .int .i64 oSe, .slice aSi oSi.length cSi, .slice aSj oSj.length cSj, .slice aSk oSk.length cSk]
            have hGj := hgj16.offRow hAR (by decide) #[.int .i64 oSp, .int .i64 oSd, .int .i64 oSe, .slice aSi oSi.length cSi, .slice aSj oSj.length cSj, .slice aSk oSk.length cSk]
            have hGk := hgk16.offRow hAR (by decide) #[.int .i64 oSp, .int .i64 oSd, .int .i64 oSe, .slice aSi oSi.length cSi, .slice aSj oSj.length cSj, .slice aSk oSk.length cSk]
            rw [← hWF] at hGi hGj hGk
            rw [← hWF]
            clear hWF
            go_wp2
            go_meet
            exact ⟨_, k16, oSp, oSd, oSe, oSi, oSj, oSk, aSi, cSi, aSj, cSj, aSk, cSk, rfl, rfl, Lib.hid hbf, Lib.hid ⟨hrf.cell rfl, hrf.cell rfl, hrf.cell rfl, hrf.cell rfl, hrf.cell rfl, hrf.cell rfl, hrf.lt, ⟨hGi.l2, hGj.l2, hGk.l2⟩⟩, Lib.hid ho16⟩
  case rest =>
    obtain ⟨gS, kS, oSp, oSd, oSe, oSi, oSj, oSk, aSi, cSi, aSj, cSj, aSk, cSk, rfl, rfl, HBz, HYS, HOS⟩ := hcut
    obtain ⟨wS, hwS⟩ : ∃ wS : World, wS = wc := ⟨_, rfl⟩
    subst hwS
    have hsS : wz1.heap.size ≤ wS.heap.size := HBz.out.size
    have hb := HBz.out
    clear HBz HQ0 HQ1
    have HB' := Lib.hid (HB.out.trans (hb.mono (by omega)))
    clear hb HB
    have HB := HB'
    clear HB'
    have HBD : Hid (CpBo (oSp, oSd, oSe, oSi, oSj, oSk)) := Lib.hid (HOS.out.all (Q := CpBo) ⟨⟨by simp, by simp⟩, ⟨by simp, by simp⟩, ⟨by simp, by simp⟩⟩ (fun h0 a ha => by rw [show a = _ from ha]; exact adOut_bd (adCode_zero h0)))
    have HBE : Hid (CpB 1048576 oSi oSj oSk) := Lib.hid HBD.out
    have HK : Hid (Below wS.heap.size wS wS) := Lib.hid (Below.refl _ _)
    have c00 := (HN0.out _ HB.out).c0
    have c01 := (HN0.out _ HB.out).c1
    have c02 := (HN0.out _ HB.out).c2
    have c03 := (HN0.out _ HB.out).c3
    have c04 := (HN0.out _ HB.out).c4
    have c05 := (HN0.out _ HB.out).c5
    go_wp2_with fail
    refine (toCouplew_any p0 d0 e0 iv0 jv0 kv0 il0 jl0 kl0 _ (HN0.out _ HB.out).cx HMS0.out).mono ?_
    rintro ee wc0 ⟨yiv0, yjv0, ykv0, rfl, hc, hb⟩
    have hsc0 : wS.heap.size ≤ wc0.heap.size := hb.size
    clear c00 c01 c02 c03 c04 c05
    have HB' := Lib.hid (HB.out.trans (hb.mono (by omega)))
    have HK' := Lib.hid (HK.out.trans (hb.mono (by omega)))
    clear hb HB HK
    have HB := HB'
    have HK := HK'
    clear HB' HK'
    have HC0 := Lib.hid hc
    obtain ⟨⟨ya0i, yc0i, rfl⟩, ⟨ya0j, yc0j, rfl⟩, ⟨ya0k, yc0k, rfl⟩⟩ := hc.cx.shapes
    clear hc
    obtain ⟨wb0, hwb⟩ : ∃ wb0, wb0 = wc0.alloc (.cells #[.int .i64 p0, .int .i64 d0, .int .i64 e0, .slice ya0i il0.length yc0i, .slice ya0j jl0.length yc0j, .slice ya0k kl0.length yc0k] 71) := ⟨_, rfl⟩
    have hb : Below wc0.heap.size wc0 wb0 := by rw [hwb]; exact below_alloc1 _ _
    have hsb0 : wc0.heap.size + 1 = wb0.heap.size := by rw [hwb]; simp
    have hsB0 : wc0.heap.size ≤ wb0.heap.size := by omega
    have HY0 : Hid (BqCp wb0 wc0.heap.size p0 d0 e0 (.slice ya0i il0.length yc0i) (.slice ya0j jl0.length yc0j) (.slice ya0k kl0.length yc0k) il0 jl0 kl0) := Lib.hid (by rw [hwb]; exact (BxCp.start _ HC0.out.cx.zero).bq)
    have HB' := Lib.hid (HB.out.trans (hb.mono (by omega)))
    have HK' := Lib.hid (HK.out.trans (hb.mono (by omega)))
    have HC0' := Lib.hid (HC0.out.same (Same.of_below hb (by omega)))
    clear hb HB HK HC0
    have HB := HB'
    have HK := HK'
    have HC0 := HC0'
    clear HB' HK' HC0'
    go_upto_region 10 with fail
    rw [← hwb]
    clear hwb
    have c10 := (HN1.out _ HB.out).c0
    have c11 := (HN1.out _ HB.out).c1
    have c12 := (HN1.out _ HB.out).c2
    have c13 := (HN1.out _ HB.out).c3
    have c14 := (HN1.out _ HB.out).c4
    have c15 := (HN1.out _ HB.out).c5
    go_wp2_with fail
    refine (toCouplew_any p1 d1 e1 iv1 jv1 kv1 il1 jl1 kl1 _ (HN1.out _ HB.out).cx HMS1.out).mono ?_
    rintro ee wc1 ⟨yiv1, yjv1, ykv1, rfl, hc, hb⟩
    have hsc1 : wb0.heap.size ≤ wc1.heap.size := hb.size
    clear c10 c11 c12 c13 c14 c15
    have HB' := Lib.hid (HB.out.trans (hb.mono (by omega)))
    have HK' := Lib.hid (HK.out.trans (hb.mono (by omega)))
    have HC0' := Lib.hid (HC0.out.same (Same.of_below hb (by omega)))
    have HY0' := Lib.hid (HY0.out.next hb)
    clear hb HB HK HC0 HY0
    have HB := HB'
    have HK := HK'
    have HC0 := HC0'
    have HY0 := HY0'
    clear HB' HK' HC0' HY0'
    have HC1 := Lib.hid hc
    obtain ⟨⟨ya1i, yc1i, rfl⟩, ⟨ya1j, yc1j, rfl⟩, ⟨ya1k, yc1k, rfl⟩⟩ := hc.cx.shapes
    clear hc
    obtain ⟨wb1, hwb⟩ : ∃ wb1, wb1 = wc1.alloc (.cells #[.int .i64 p1, .int .i64 d1, .int .i64 e1, .slice ya1i il1.length yc1i, .slice ya1j jl1.length yc1j, .slice ya1k kl1.length yc1k] 71) := ⟨_, rfl⟩
    have hb : Below wc1.heap.size wc1 wb1 := by rw [hwb]; exact below_alloc1 _ _
    have hsb1 : wc1.heap.size + 1 = wb1.heap.size := by rw [hwb]; simp
    have hsB1 : wc1.heap.size ≤ wb1.heap.size := by omega
    have HY1 : Hid (BqCp wb1 wc1.heap.size p1 d1 e1 (.slice ya1i il1.length yc1i) (.slice ya1j jl1.length yc1j) (.slice ya1k kl1.length yc1k) il1 jl1 kl1) := Lib.hid (by rw [hwb]; exact (BxCp.start _ HC1.out.cx.zero).bq)
    have HB' := Lib.hid (HB.out.trans (hb.mono (by omega)))
    have HK' := Lib.hid (HK.out.trans (hb.mono (by omega)))
    have HC0' := Lib.hid (HC0.out.same (Same.of_below hb (by omega)))
    have HY0' := Lib.hid (HY0.out.next hb)
    have HC1' := Lib.hid (HC1.out.same (Same.of_below hb (by omega)))
    clear hb HB HK HC0 HY0 HC1
    have HB := HB'
    have HK := HK'
    have HC0 := HC0'
    have HY0 := HY0'
    have HC1 := HC1'
    clear HB' HK' HC0' HY0' HC1'
    go_upto_region 11 with fail
    rw [← hwb]
    clear hwb
    have d00 := HY0.out.c0
    have d01 := HY0.out.c1
    have d02 := HY0.out.c2
    have d03 := HY0.out.c3
    have d04 := HY0.out.c4
    have d05 := HY0.out.c5
    have d10 := HY1.out.c0
    have d11 := HY1.out.c1
    have d12 := HY1.out.c2
    have d13 := HY1.out.c3
    have d14 := HY1.out.c4
    have d15 := HY1.out.c5
    go_wp2_with fail
    refine (addCouples_any p0 d0 e0 p1 d1 e1 _ _ _ _ _ _ il0 jl0 kl0 il1 jl1 kl1 _ (HC0.out.cx.zero) (HC1.out.cx.zero) HMS0.out HMS1.out).mono ?_
    rintro ee w7 ⟨u7, o7, k7, rfl, hw7, hb, hout7⟩
    obtain ⟨rfl, rfl⟩ := RsOut.unique (fun _ a b ha hb => ha.trans hb.symm) HOS.out hout7
    have hs7 : wb1.heap.size ≤ w7.heap.size := hb.size
    clear d00 d01 d02 d03 d04 d05 d10 d11 d12 d13 d14 d15
    have HB' := Lib.hid (HB.out.trans (hb.mono (by omega)))
    have HK' := Lib.hid (HK.out.trans (hb.mono (by omega)))
    have HC0' := Lib.hid (HC0.out.same (Same.of_below hb (by omega)))
    have HY0' := Lib.hid (HY0.out.next hb)
    have HC1' := Lib.hid (HC1.out.same (Same.of_below hb (by omega)))
    have HY1' := Lib.hid (HY1.out.next hb)
    clear hb HB HK HC0 HY0 HC1 HY1
    have HB := HB'
    have HK := HK'
    have HC0 := HC0'
    have HY0 := HY0'
    have HC1 := HC1'
    have HY1 := HY1'
    clear HB' HK' HC0' HY0' HC1' HY1'
    obtain ⟨aGi, cGi, aGj, cGj, aGk, cGk, hu7, hG⟩ := hw7
    have hu7 : u7 = .agg #[.int .i64 oSp, .int .i64 oSd, .int .i64 oSe, .slice aGi oSi.length cGi, .slice aGj oSj.length cGj, .slice aGk oSk.length cGk] := hu7
    subst hu7
    have HG : Hid (RcCp wb1.heap.size w7.heap.size w7 (.slice aGi oSi.length cGi) (.slice aGj oSj.length cGj) (.slice aGk oSk.length cGk) oSi oSj oSk) := Lib.hid hG
    clear hG hout7
    obtain ⟨wbG, hwb⟩ : ∃ wbG, wbG = w7.alloc (.cells #[.int .i64 oSp, .int .i64 oSd, .int .i64 oSe, .slice aGi oSi.length cGi, .slice aGj oSj.length cGj, .slice aGk oSk.length cGk] 71) := ⟨_, rfl⟩
    have hb : Below w7.heap.size w7 wbG := by rw [hwb]; exact below_alloc1 _ _
    have hsbG : w7.heap.size + 1 = wbG.heap.size := by rw [hwb]; simp
    have hsBG : w7.heap.size ≤ wbG.heap.size := by omega
    have HCG0 : Hid (BcCp wbG w7.heap.size oSp oSd oSe (.slice aGi oSi.length cGi) (.slice aGj oSj.length cGj) (.slice aGk oSk.length cGk)) := Lib.hid (by rw [hwb]; exact BcCp.start _ _ _ _ _ _ _ _)
    have HB' := Lib.hid (HB.out.trans (hb.mono (by omega)))
    have HK' := Lib.hid (HK.out.trans (hb.mono (by omega)))
    have HC0' := Lib.hid (HC0.out.same (Same.of_below hb (by omega)))
    have HY0' := Lib.hid (HY0.out.next hb)
    have HC1' := Lib.hid (HC1.out.same (Same.of_below hb (by omega)))
    have HY1' := Lib.hid (HY1.out.next hb)
    have HG' := Lib.hid (HG.out.same (Same.of_below hb (by omega)))
    clear hb HB HK HC0 HY0 HC1 HY1 HG
    have HB := HB'
    have HK := HK'
    have HC0 := HC0'
    have HY0 := HY0'
    have HC1 := HC1'
    have HY1 := HY1'
    have HG := HG'
    clear HB' HK' HC0' HY0' HC1' HY1' HG'
    have HCG := HCG0
    clear HCG0
    go_upto_region 12 with fail
    rw [← hwb]
    clear hwb
    have hcode : (kS != kS) = false := by simp
    have s0 := (HYS.out.next HK.out).c0
    have s1 := (HYS.out.next HK.out).c1
    have s2 := (HYS.out.next HK.out).c2
    have s3 := (HYS.out.next HK.out).c3
    have s4 := (HYS.out.next HK.out).c4
    have s5 := (HYS.out.next HK.out).c5
    have g0 := HCG.out.c0
    have g1 := HCG.out.c1
    have g2 := HCG.out.c2
    have g3 := HCG.out.c3
    have g4 := HCG.out.c4
    have g5 := HCG.out.c5
    go_wp2_with fail
    refine (eqCouple_true oSp oSd oSe _ _ _ _ _ _ oSi oSj oSk _ HG.out.cx (HYS.out.next HK.out).cx HBE.out).mono ?_
    rintro ee we1 ⟨rfl, hb⟩
    have hse1 : wbG.heap.size ≤ we1.heap.size := hb.size
    clear s0 s1 s2 s3 s4 s5 g0 g1 g2 g3 g4 g5
    have HB' := Lib.hid (HB.out.trans (hb.mono (by omega)))
    have HK' := Lib.hid (HK.out.trans (hb.mono (by omega)))
    have HC0' := Lib.hid (HC0.out.same (Same.of_below hb (by omega)))
    have HY0' := Lib.hid (HY0.out.next hb)
    have HC1' := Lib.hid (HC1.out.same (Same.of_below hb (by omega)))
    have HY1' := Lib.hid (HY1.out.next hb)
    have HG' := Lib.hid (HG.out.same (Same.of_below hb (by omega)))
    have HCG' := Lib.hid (HCG.out.next hb)
    clear hb HB HK HC0 HY0 HC1 HY1 HG HCG
    have HB := HB'
    have HK := HK'
    have HC0 := HC0'
    have HY0 := HY0'
    have HC1 := HC1'
    have HY1 := HY1'
    have HG := HG'
    have HCG := HCG'
    clear HB' HK' HC0' HY0' HC1' HY1' HG' HCG'
    have c00 := (HN0.out _ HB.out).c0
    have c01 := (HN0.out _ HB.out).c1
    have c02 := (HN0.out _ HB.out).c2
    have c03 := (HN0.out _ HB.out).c3
    have c04 := (HN0.out _ HB.out).c4
    have c05 := (HN0.out _ HB.out).c5
    have d00 := HY0.out.c0
    have d01 := HY0.out.c1
    have d02 := HY0.out.c2
    have d03 := HY0.out.c3
    have d04 := HY0.out.c4
    have d05 := HY0.out.c5
    have HCX := Lib.hid (((HN0.out _ HB.out).cx).drew)
    have HCC := Lib.hid ((HY0.out.cx).drew)
    go_wp2_with fail
    go_region_held3 (fun w' => w'.cell? ⟨w.heap.size, 0, none⟩ = some (.int .i64 p0) ∧ w'.cell? ⟨w.heap.size, 1, none⟩ = some (.int .i64 d0) ∧ w'.cell? ⟨w.heap.size, 2, none⟩ = some (.int .i64 e0) ∧ w'.cell? ⟨w.heap.size, 3, none⟩ = some (iv0) ∧ w'.cell? ⟨w.heap.size, 4, none⟩ = some (jv0) ∧ w'.cell? ⟨w.heap.size, 5, none⟩ = some (kv0) ∧ w'.cell? ⟨wc0.heap.size, 0, none⟩ = some (.int .i64 p0) ∧ w'.cell? ⟨wc0.heap.size, 1, none⟩ = some (.int .i64 d0) ∧ w'.cell? ⟨wc0.heap.size, 2, none⟩ = some (.int .i64 e0) ∧ w'.cell? ⟨wc0.heap.size, 3, none⟩ = some (.slice ya0i il0.length yc0i) ∧ w'.cell? ⟨wc0.heap.size, 4, none⟩ = some (.slice ya0j jl0.length yc0j) ∧ w'.cell? ⟨wc0.heap.size, 5, none⟩ = some (.slice ya0k kl0.length yc0k))
      (first | exact ⟨c00, c01, c02, c03, c04, c05, d00, d01, d02, d03, d04, d05⟩ | exact HS9.out | exact HSA.out | go_keep)
      (first
        | (go_at_call 67; refine (toCouple_any p0 d0 e0 iv0 jv0 kv0 il0 jl0 kl0 _ HCX.out HMS0.out).mono ?_; rintro ee w9 ⟨ziv09, zjv09, zkv09, rfl, hcx9, hb9⟩; have HS9 := Lib.hid (And.intro (later hb9 (Nat.le_refl _) c00) (And.intro (later hb9 (Nat.le_refl _) c01) (And.intro (later hb9 (Nat.le_refl _) c02) (And.intro (later hb9 (Nat.le_refl _) c03) (And.intro (later hb9 (Nat.le_refl _) c04) (And.intro (later hb9 (Nat.le_refl _) c05) (And.intro (later hb9 (Nat.le_refl _) d00) (And.intro (later hb9 (Nat.le_refl _) d01) (And.intro (later hb9 (Nat.le_refl _) d02) (And.intro (later hb9 (Nat.le_refl _) d03) (And.intro (later hb9 (Nat.le_refl _) d04) (later hb9 (Nat.le_refl _) d05)))))))))))); have HX9 := Lib.hid (And.intro hcx9 (And.intro (HCC.out.below hb9) (Below.trans ((Below.refl we1.heap.size we1).drew) hb9))); clear hcx9 hb9)
        | (go_at_call 69; refine (eqCouple_true p0 d0 e0 _ _ _ ziv09 zjv09 zkv09 il0 jl0 kl0 _ HX9.out.2.1 HX9.out.1.zero HMS0.out).mono ?_; rintro ee wA0 ⟨rfl, hbA⟩; have HSA := Lib.hid (And.intro (later hbA (Nat.le_refl _) (HS9.out.1)) (And.intro (later hbA (Nat.le_refl _) (HS9.out.2.1)) (And.intro (later hbA (Nat.le_refl _) (HS9.out.2.2.1)) (And.intro (later hbA (Nat.le_refl _) (HS9.out.2.2.2.1)) (And.intro (later hbA (Nat.le_refl _) (HS9.out.2.2.2.2.1)) (And.intro (later hbA (Nat.le_refl _) (HS9.out.2.2.2.2.2.1)) (And.intro (later hbA (Nat.le_refl _) (HS9.out.2.2.2.2.2.2.1)) (And.intro (later hbA (Nat.le_refl _) (HS9.out.2.2.2.2.2.2.2.1)) (And.intro (later hbA (Nat.le_refl _) (HS9.out.2.2.2.2.2.2.2.2.1)) (And.intro (later hbA (Nat.le_refl _) (HS9.out.2.2.2.2.2.2.2.2.2.1)) (And.intro (later hbA (Nat.le_refl _) (HS9.out.2.2.2.2.2.2.2.2.2.2.1)) (later hbA (Nat.le_refl _) (HS9.out.2.2.2.2.2.2.2.2.2.2.2))))))))))))); have HXA := Lib.hid (Below.trans HX9.out.2.2 (hbA.mono HX9.out.2.2.size)); clear hbA))
    have hsa0 : we1.heap.size ≤ wA0.heap.size := HXA.out.size
    have hb := HXA.out
    clear c00 c01 c02 c03 c04 c05
    clear d00 d01 d02 d03 d04 d05
    clear HXA HSA HS9 HX9 HCX HCC
    have HB' := Lib.hid (HB.out.trans (hb.mono (by omega)))
    have HK' := Lib.hid (HK.out.trans (hb.mono (by omega)))
    have HC0' := Lib.hid (HC0.out.same (Same.of_below hb (by omega)))
    have HY0' := Lib.hid (HY0.out.next hb)
    have HC1' := Lib.hid (HC1.out.same (Same.of_below hb (by omega)))
    have HY1' := Lib.hid (HY1.out.next hb)
    have HG' := Lib.hid (HG.out.same (Same.of_below hb (by omega)))
    have HCG' := Lib.hid (HCG.out.next hb)
    clear hb HB HK HC0 HY0 HC1 HY1 HG HCG
    have HB := HB'
    have HK := HK'
    have HC0 := HC0'
    have HY0 := HY0'
    have HC1 := HC1'
    have HY1 := HY1'
    have HG := HG'
    have HCG := HCG'
    clear HB' HK' HC0' HY0' HC1' HY1' HG' HCG'
    have c10 := (HN1.out _ HB.out).c0
    have c11 := (HN1.out _ HB.out).c1
    have c12 := (HN1.out _ HB.out).c2
    have c13 := (HN1.out _ HB.out).c3
    have c14 := (HN1.out _ HB.out).c4
    have c15 := (HN1.out _ HB.out).c5
    have d10 := HY1.out.c0
    have d11 := HY1.out.c1
    have d12 := HY1.out.c2
    have d13 := HY1.out.c3
    have d14 := HY1.out.c4
    have d15 := HY1.out.c5
    have HCX := Lib.hid (((HN1.out _ HB.out).cx).drew)
    have HCC := Lib.hid ((HY1.out.cx).drew)
    go_wp2_with fail
    go_region_held3 (fun w' => w'.cell? ⟨w.heap.size + 1, 0, none⟩ = some (.int .i64 p1) ∧ w'.cell? ⟨w.heap.size + 1, 1, none⟩ = some (.int .i64 d1) ∧ w'.cell? ⟨w.heap.size + 1, 2, none⟩ = some (.int .i64 e1) ∧ w'.cell? ⟨w.heap.size + 1, 3, none⟩ = some (iv1) ∧ w'.cell? ⟨w.heap.size + 1, 4, none⟩ = some (jv1) ∧ w'.cell? ⟨w.heap.size + 1, 5, none⟩ = some (kv1) ∧ w'.cell? ⟨wc1.heap.size, 0, none⟩ = some (.int .i64 p1) ∧ w'.cell? ⟨wc1.heap.size, 1, none⟩ = some (.int .i64 d1) ∧ w'.cell? ⟨wc1.heap.size, 2, none⟩ = some (.int .i64 e1) ∧ w'.cell? ⟨wc1.heap.size, 3, none⟩ = some (.slice ya1i il1.length yc1i) ∧ w'.cell? ⟨wc1.heap.size, 4, none⟩ = some (.slice ya1j jl1.length yc1j) ∧ w'.cell? ⟨wc1.heap.size, 5, none⟩ = some (.slice ya1k kl1.length yc1k))
      (first | exact ⟨c10, c11, c12, c13, c14, c15, d10, d11, d12, d13, d14, d15⟩ | exact HS9.out | exact HSA.out | go_keep)
      (first
        | (go_at_call 67; refine (toCouple_any p1 d1 e1 iv1 jv1 kv1 il1 jl1 kl1 _ HCX.out HMS1.out).mono ?_; rintro ee w9 ⟨ziv19, zjv19, zkv19, rfl, hcx9, hb9⟩; have HS9 := Lib.hid (And.intro (later hb9 (Nat.le_refl _) c10) (And.intro (later hb9 (Nat.le_refl _) c11) (And.intro (later hb9 (Nat.le_refl _) c12) (And.intro (later hb9 (Nat.le_refl _) c13) (And.intro (later hb9 (Nat.le_refl _) c14) (And.intro (later hb9 (Nat.le_refl _) c15) (And.intro (later hb9 (Nat.le_refl _) d10) (And.intro (later hb9 (Nat.le_refl _) d11) (And.intro (later hb9 (Nat.le_refl _) d12) (And.intro (later hb9 (Nat.le_refl _) d13) (And.intro (later hb9 (Nat.le_refl _) d14) (later hb9 (Nat.le_refl _) d15)))))))))))); have HX9 := Lib.hid (And.intro hcx9 (And.intro (HCC.out.below hb9) (Below.trans ((Below.refl wA0.heap.size wA0).drew) hb9))); clear hcx9 hb9)
        | (go_at_call 69; refine (eqCouple_true p1 d1 e1 _ _ _ ziv19 zjv19 zkv19 il1 jl1 kl1 _ HX9.out.2.1 HX9.out.1.zero HMS1.out).mono ?_; rintro ee wA1 ⟨rfl, hbA⟩; have HSA := Lib.hid (And.intro (later hbA (Nat.le_refl _) (HS9.out.1)) (And.intro (later hbA (Nat.le_refl _) (HS9.out.2.1)) (And.intro (later hbA (Nat.le_refl _) (HS9.out.2.2.1)) (And.intro (later hbA (Nat.le_refl _) (HS9.out.2.2.2.1)) (And.intro (later hbA (Nat.le_refl _) (HS9.out.2.2.2.2.1)) (And.intro (later hbA (Nat.le_refl _) (HS9.out.2.2.2.2.2.1)) (And.intro (later hbA (Nat.le_refl _) (HS9.out.2.2.2.2.2.2.1)) (And.intro (later hbA (Nat.le_refl _) (HS9.out.2.2.2.2.2.2.2.1)) (And.intro (later hbA (Nat.le_refl _) (HS9.out.2.2.2.2.2.2.2.2.1)) (And.intro (later hbA (Nat.le_refl _) (HS9.out.2.2.2.2.2.2.2.2.2.1)) (And.intro (later hbA (Nat.le_refl _) (HS9.out.2.2.2.2.2.2.2.2.2.2.1)) (later hbA (Nat.le_refl _) (HS9.out.2.2.2.2.2.2.2.2.2.2.2))))))))))))); have HXA := Lib.hid (Below.trans HX9.out.2.2 (hbA.mono HX9.out.2.2.size)); clear hbA))
    have hsa1 : wA0.heap.size ≤ wA1.heap.size := HXA.out.size
    have hb := HXA.out
    clear c10 c11 c12 c13 c14 c15
    clear d10 d11 d12 d13 d14 d15
    clear HXA HSA HS9 HX9 HCX HCC
    have HB' := Lib.hid (HB.out.trans (hb.mono (by omega)))
    have HK' := Lib.hid (HK.out.trans (hb.mono (by omega)))
    have HC0' := Lib.hid (HC0.out.same (Same.of_below hb (by omega)))
    have HY0' := Lib.hid (HY0.out.next hb)
    have HC1' := Lib.hid (HC1.out.same (Same.of_below hb (by omega)))
    have HY1' := Lib.hid (HY1.out.next hb)
    have HG' := Lib.hid (HG.out.same (Same.of_below hb (by omega)))
    have HCG' := Lib.hid (HCG.out.next hb)
    clear hb HB HK HC0 HY0 HC1 HY1 HG HCG
    have HB := HB'
    have HK := HK'
    have HC0 := HC0'
    have HY0 := HY0'
    have HC1 := HC1'
    have HY1 := HY1'
    have HG := HG'
    have HCG := HCG'
    clear HB' HK' HC0' HY0' HC1' HY1' HG' HCG'
    have d00 := HY0.out.c0
    have d01 := HY0.out.c1
    have d02 := HY0.out.c2
    have d03 := HY0.out.c3
    have d04 := HY0.out.c4
    have d05 := HY0.out.c5
    go_wp2_with fail
    refine (markCoupleK_any 1 p0 d0 e0 _ _ _ il0 jl0 kl0 _ HC0.out (by omega) HMS0.out (by omega) (by omega)).mono ?_
    rintro ee wD0 ⟨r0, wM0, rfl, hr00, hr01, hb, hoM, htM⟩
    have hsM0 : wA1.heap.size ≤ wM0.heap.size := hb.size
    have hsD0 : wD0.heap.size = wM0.heap.size := hoM.size
    have hsE0 : wA1.heap.size ≤ wD0.heap.size := by omega
    clear d00 d01 d02 d03 d04 d05
    have HB' := Lib.hid ((HB.out.trans (hb.mono (by omega))).trans (hoM.below (by omega)))
    have HK' := Lib.hid ((HK.out.trans (hb.mono (by omega))).trans (hoM.below (by omega)))
    have HG' := Lib.hid (HG.out.same ((Same.of_below hb (by omega)).trans (hoM.same (by omega))))
    have HCG' := Lib.hid ((HCG.out.next hb).only hoM (by omega))
    have HC1' := Lib.hid (HC1.out.same ((Same.of_below hb (by omega)).trans (hoM.same (by omega))))
    have HY1' : Hid (BqCp wD0 wc1.heap.size p1 d1 e1 (.slice ya1i il1.length yc1i) (.slice ya1j jl1.length yc1j) (.slice ya1k kl1.length yc1k) il1 jl1 kl1) := Lib.hid ((HY1.out.next hb).only hoM HC1'.out.cx.zero (by omega))
    clear hoM htM hb HC0 HY0 HB HK HG HCG HC1 HY1
    have HB := HB'
    have HK := HK'
    have HG := HG'
    have HCG := HCG'
    have HC1 := HC1'
    have HY1 := HY1'
    clear HB' HK' HG' HCG' HC1' HY1'
    have d10 := HY1.out.c0
    have d11 := HY1.out.c1
    have d12 := HY1.out.c2
    have d13 := HY1.out.c3
    have d14 := HY1.out.c4
    have d15 := HY1.out.c5
    go_wp2_with fail
    refine (markCoupleK_any r0 p1 d1 e1 _ _ _ il1 jl1 kl1 _ HC1.out (by omega) HMS1.out (by omega) (by omega)).mono ?_
    rintro ee wD1 ⟨r1, wM1, rfl, hr10, hr11, hb, hoM, htM⟩
    have hsM1 : wD0.heap.size ≤ wM1.heap.size := hb.size
    have hsD1 : wD1.heap.size = wM1.heap.size := hoM.size
    have hsE1 : wD0.heap.size ≤ wD1.heap.size := by omega
    clear d10 d11 d12 d13 d14 d15
    have HB' := Lib.hid ((HB.out.trans (hb.mono (by omega))).trans (hoM.below (by omega)))
    have HK' := Lib.hid ((HK.out.trans (hb.mono (by omega))).trans (hoM.below (by omega)))
    have HG' := Lib.hid (HG.out.same ((Same.of_below hb (by omega)).trans (hoM.same (by omega))))
    have HCG' := Lib.hid ((HCG.out.next hb).only hoM (by omega))
    clear hoM htM hb HC1 HY1 HB HK HG HCG
    have HB := HB'
    have HK := HK'
    have HG := HG'
    have HCG := HCG'
    clear HB' HK' HG' HCG'
    have hneg0 : ¬ r1 < 0 := by omega
    have s0 := (HYS.out.next HK.out).c0
    have s1 := (HYS.out.next HK.out).c1
    have s2 := (HYS.out.next HK.out).c2
    have s3 := (HYS.out.next HK.out).c3
    have s4 := (HYS.out.next HK.out).c4
    have s5 := (HYS.out.next HK.out).c5
    have g0 := HCG.out.c0
    have g1 := HCG.out.c1
    have g2 := HCG.out.c2
    have g3 := HCG.out.c3
    have g4 := HCG.out.c4
    have g5 := HCG.out.c5
    go_wp2_with fail
    refine (eqCouple_true oSp oSd oSe _ _ _ _ _ _ oSi oSj oSk _ HG.out.cx (HYS.out.next HK.out).cx HBE.out).mono ?_
    rintro ee we2 ⟨rfl, hb⟩
    have hse2 : wD1.heap.size ≤ we2.heap.size := hb.size
    clear s0 s1 s2 s3 s4 s5 g0 g1 g2 g3 g4 g5
    have HB' := Lib.hid (HB.out.trans (hb.mono (by omega)))
    have HK' := Lib.hid (HK.out.trans (hb.mono (by omega)))
    have HG' := Lib.hid (HG.out.same (Same.of_below hb (by omega)))
    have HCG' := Lib.hid (HCG.out.next hb)
    clear hb HB HK HG HCG
    have HB := HB'
    have HK := HK'
    have HG := HG'
    have HCG := HCG'
    clear HB' HK' HG' HCG'
    have g0 := HCG.out.c0
    have g1 := HCG.out.c1
    have g2 := HCG.out.c2
    have g3 := HCG.out.c3
    have g4 := HCG.out.c4
    have g5 := HCG.out.c5
    go_wp2_with fail
    refine (markRCp_any oSp oSd oSe _ _ _ oSi oSj oSk _ HG.out (by omega)).mono ?_
    rintro ee wG ⟨mm, wM2, rfl, hm0, hm1, hb, hoG, hmk⟩
    have hsM2 : we2.heap.size ≤ wM2.heap.size := hb.size
    have hsG0 : wG.heap.size = wM2.heap.size := hoG.size
    have hsG : we2.heap.size ≤ wG.heap.size := by omega
    clear g0 g1 g2 g3 g4 g5
    have HB' := Lib.hid ((HB.out.trans (hb.mono (by omega))).trans (hoG.below (by omega)))
    have HK' := Lib.hid ((HK.out.trans (hb.mono (by omega))).trans (hoG.below (by omega)))
    have HCG' := Lib.hid ((HCG.out.next hb).only hoG (by omega))
    have HG' := Lib.hid hmk
    clear hoG hmk hb HB HK HG HCG
    have HB := HB'
    have HK := HK'
    have HG := HG'
    have HCG := HCG'
    clear HB' HK' HG' HCG'
    have hneg : ¬ mm < 0 := by omega
    have hsum : (mm != mm) = false := by simp
    have g0 := HCG.out.c0
    have g1 := HCG.out.c1
    have g2 := HCG.out.c2
    have g3 := HCG.out.c3
    have g4 := HCG.out.c4
    have g5 := HCG.out.c5
    go_wp2_with fail
    refine (heldRCp_any oSp oSd oSe _ _ _ mm _ HG.out (by omega)).mono ?_
    rintro ee wH1 ⟨rfl, hb⟩
    have hsH1 : wG.heap.size ≤ wH1.heap.size := hb.size
    clear g0 g1 g2 g3 g4 g5
    have HB' := Lib.hid (HB.out.trans (hb.mono (by omega)))
    have HK' := Lib.hid (HK.out.trans (hb.mono (by omega)))
    have HG' := Lib.hid (HG.out.same (Same.of_below hb (by omega)))
    have HCG' := Lib.hid (HCG.out.next hb)
    clear hb HB HK HG HCG
    have HB := HB'
    have HK := HK'
    have HG := HG'
    have HCG := HCG'
    clear HB' HK' HG' HCG'
    have HQ0 : Hid (∀ W', Below wH1.heap.size wH1 W' → BxCp w W' (w.heap.size) p0 d0 e0 iv0 jv0 kv0 il0 jl0 kl0) := Lib.hid (fun W' hb => HN0.out _ (HB.out.trans (hb.mono (by omega))))
    have HQ1 : Hid (∀ W', Below wH1.heap.size wH1 W' → BxCp w W' (w.heap.size + 1) p1 d1 e1 iv1 jv1 kv1 il1 jl1 kl1) := Lib.hid (fun W' hb => HN1.out _ (HB.out.trans (hb.mono (by omega))))
    go_upto_region 31 with fail
    go_cut [15, 16] from 17 (fun s15 s16 wz => ∃ (gJ : Nat) (aJi : Option Addr) (cJi : Nat) (aJj : Option Addr) (cJj : Nat) (aJk : Option Addr) (cJk : Nat), s15 = .pointer (some ⟨gJ, 0, none⟩) ∧ s16 = .int .i64 kS ∧ Hid (Below wH1.heap.size wH1 wz) ∧ Hid (BqCp wz gJ oSp oSd oSe (.slice aJi oSi.length cJi) (.slice aJj oSj.length cJj) (.slice aJk oSk.length cJk) oSi oSj oSk))
    case first =>
      go_wp2
      refine wp_region_held (S := fun W => Below (wH1.heap.size) wH1 W) (by kernel_rfl) ?_
      have S0 : Below (wH1.heap.size) wH1 wH1.drew := (Below.refl _ _).drew
      have hB0 : wH1.heap.size ≤ wH1.heap.size := Nat.le_refl _
      have hsd : wH1.heap.size ≤ wH1.drew.heap.size := Nat.le_refl _
      have hbd : Below wH1.heap.size wH1 wH1.drew := (Below.refl _ _).drew
      change wpAnyH _ _ _ _ _ _ _ _ wH1.drew
      obtain ⟨wd, hwd⟩ : ∃ wd, wd = wH1.drew := ⟨_, rfl⟩
      rw [← hwd] at S0 hsd hbd ⊢
      clear hwd
      refine held_take (i := 0) (v := .agg #[.int .i64 p0, .int .i64 d0, .int .i64 e0, iv0, jv0, kv0]) (some 95) rfl rfl (by kernel_rfl) (by kernel_rfl) (by kernel_rfl) (fun _ _ _ h => h) (yieldsIf_cell (by kernel_rfl) rfl (by kernel_rfl) (fun W h => hloadLawAcl_Cp W (HQ0.out W h))) S0 ?_
      refine held_take (i := 2) (v := .agg #[.int .i64 p1, .int .i64 d1, .int .i64 e1, iv1, jv1, kv1]) (some 97) rfl rfl (by kernel_rfl) (by kernel_rfl) (by kernel_rfl) (fun _ _ _ h => h) (yieldsIf_cell (by kernel_rfl) rfl (by kernel_rfl) (fun W h => hloadLawAcl_Cp W (HQ1.out W h))) S0 ?_
      refine held_two (i := 1) (j := 8) (by kernel_rfl) ?_ ?_
      · refine op_enter (i := 1) (some 96) (f := 67) (args := #[.agg #[.int .i64 p0, .int .i64 d0, .int .i64 e0, iv0, jv0, kv0]]) rfl rfl rfl (by kernel_rfl) (toCouple_any p0 d0 e0 iv0 jv0 kv0 il0 jl0 kl0 _ (HQ0.out _ S0).cx HMS0.out) ?_ (fun c w' h => by obtain ⟨_, _, _, he, _⟩ := h; cases he) (fun w' h => by obtain ⟨_, _, _, he, _⟩ := h; cases he)
        rintro ee W1 ⟨xiv0, xjv0, xkv0, he, hc1, hb1⟩
        injection he with he
        subst he
        have S1 : Below (wH1.heap.size) wH1 W1 := S0.trans (hb1.mono (Nat.le_trans hB0 S0.size))
        have hx0_1 := hc1.zero
        refine ⟨S1, ?_⟩
        refine held_two (i := 3) (j := 8) (by kernel_rfl) ?_ ?_
        · refine op_enter (i := 3) (some 98) (f := 67) (args := #[.agg #[.int .i64 p1, .int .i64 d1, .int .i64 e1, iv1, jv1, kv1]]) rfl rfl rfl (by kernel_rfl) (toCouple_any p1 d1 e1 iv1 jv1 kv1 il1 jl1 kl1 _ (HQ1.out _ S1).cx HMS1.out) ?_ (fun c w' h => by obtain ⟨_, _, _, he, _⟩ := h; cases he) (fun w' h => by obtain ⟨_, _, _, he, _⟩ := h; cases he)
          rintro ee W2 ⟨xiv1, xjv1, xkv1, he, hc2, hb2⟩
          injection he with he
          subst he
          have S2 : Below (wH1.heap.size) wH1 W2 := S1.trans (hb2.mono (Nat.le_trans hB0 S1.size))
          have hx0_2 := hx0_1.below hb2
          have hx1_2 := hc2.zero
          refine ⟨S2, ?_⟩
          refine held_two (i := 4) (j := 8) (by kernel_rfl) ?_ ?_
          · refine op_enter (i := 4) (some 99) (f := 74) (args := #[.agg #[.int .i64 p0, .int .i64 d0, .int .i64 e0, xiv0, xjv0, xkv0], .agg #[.int .i64 p1, .int .i64 d1, .int .i64 e1, xiv1, xjv1, xkv1]]) rfl rfl rfl (by kernel_rfl) (addCouples_any p0 d0 e0 p1 d1 e1 _ _ _ _ _ _ il0 jl0 kl0 il1 jl1 kl1 _ (hx0_2) (hx1_2) HMS0.out HMS1.out) ?_ (fun c w' h => by obtain ⟨_, _, _, he, _⟩ := h; cases he) (fun w' h => by obtain ⟨_, _, _, he, _⟩ := h; cases he)
            rintro ee W3 ⟨u3, o3, k3, he, hr3, hb3, ho3⟩
            injection he with he
            subst he
            obtain ⟨rfl, rfl⟩ := RsOut.unique (fun _ a b ha hb => ha.trans hb.symm) HOS.out ho3
            obtain ⟨aJi, cJi, aJj, cJj, aJk, cJk, hu, hr3⟩ := hr3
            have hu : u3 = .agg #[.int .i64 oSp, .int .i64 oSd, .int .i64 oSe, .slice aJi oSi.length cJi, .slice aJj oSj.length cJj, .slice aJk oSk.length cJk] := hu
            subst hu
            have S3 : Below (wH1.heap.size) wH1 W3 := S2.trans (hb3.mono (Nat.le_trans hB0 S2.size))
            refine ⟨S3, ?_⟩
            refine held_take (i := 5) (v := .tuple #[.agg #[.int .i64 oSp, .int .i64 oSd, .int .i64 oSe, .slice aJi oSi.length cJi, .slice aJj oSj.length cJj, .slice aJk oSk.length cJk], .int .i64 kS]) (some 94) rfl rfl (by kernel_rfl) (by kernel_rfl) (by kernel_rfl) (fun _ _ _ h => h) (yieldsIf_move (by kernel_rfl) rfl (by kernel_rfl)) S3 ?_
            refine held_take (i := 6) (v := .agg #[.int .i64 oSp, .int .i64 oSd, .int .i64 oSe, .slice aJi oSi.length cJi, .slice aJj oSj.length cJj, .slice aJk oSk.length cJk]) (some 100) rfl rfl (by kernel_rfl) (by kernel_rfl) (by kernel_rfl) (fun _ _ _ h => h) (yieldsIf_run (by kernel_rfl) (fun W _ => by kernel_rfl)) S3 ?_
            refine held_take (i := 7) (v := .int .i64 kS) (some 101) rfl rfl (by kernel_rfl) (by kernel_rfl) (by kernel_rfl) (fun _ _ _ h => h) (yieldsIf_run (by kernel_rfl) (fun W _ => by kernel_rfl)) S3 ?_
            refine held_one (i := 8) (by kernel_rfl) ?_
            · obtain ⟨W4, hW4⟩ : ∃ W', W' = W3.alloc (.cells #[.int .i64 0, .int .i64 0, .int .i64 0, .slice none 0 0, .slice none 0 0, .slice none 0 0] 71) := ⟨_, rfl⟩
              have hb4 : Below W3.heap.size W3 W4 := by rw [hW4]; exact below_alloc1 _ _
              have hAR4 : Rz W4 W3.heap.size 71 #[.int .i64 0, .int .i64 0, .int .i64 0, .slice none 0 0, .slice none 0 0, .slice none 0 0] := by rw [hW4]; exact Rz.new _ _ _
              have S4 : Below (wH1.heap.size) wH1 W4 := S3.trans (hb4.mono (Nat.le_trans hB0 S3.size))
              have hGR : wH1.heap.size ≤ W3.heap.size := Nat.le_trans hB0 S3.size
              have hg_4 := hr3.same (Same.of_below hb4 (Nat.le_refl _))
              refine op_mem (i := 8) (v := .pointer (some ⟨W3.heap.size, 0, none⟩)) (w' := W4) (some 15) rfl rfl rfl (by rw [hW4]; go_simp) ?_
              refine ⟨S4, ?_⟩
              have hAR := hAR4
              have S5 : Below (wH1.heap.size) wH1 (W4.setRow (W3.heap.size) #[.int .i64 oSp, .int .i64 oSd, .int .i64 oSe, .slice aJi oSi.length cJi, .slice aJj oSj.length cJj, .slice aJk oSk.length cJk]) := below_setRow S4 hGR _
              refine held_one (i := 9) (by kernel_rfl) ?_
              refine op_row (i := 9) rfl rfl rfl 71 (.tmp 15) (.tmp 100) rfl (W3.heap.size) #[.int .i64 oSp, .int .i64 oSd, .int .i64 oSe, .slice aJi oSi.length cJi, .slice aJj oSj.length cJj, .slice aJk oSk.length cJk] (by kernel_rfl) (by kernel_rfl) 71 _ hAR4 (infoLawAcl _ _ _ _ _ _) (by kernel_rfl) (by kernel_rfl) ?_
              refine ⟨S5, ?_⟩
              have hAR5 := hAR4.set #[.int .i64 oSp, .int .i64 oSd, .int .i64 oSe, .slice aJi oSi.length cJi, .slice aJj oSj.length cJj, .slice aJk oSk.length cJk]
              refine held_take (i := 10) (v := .int .i64 kS) (some 16) rfl rfl (by kernel_rfl) (by kernel_rfl) (by kernel_rfl) (fun _ _ _ h => h) (yieldsIf_assign (by kernel_rfl) rfl (by kernel_rfl)) S5 ?_
              refine wpAnyH_done (by kernel_rfl) ?_ _
              simp only [Act.put, List.setIfInBounds_toArray, List.set_cons_zero, List.set_cons_succ]
              obtain ⟨WF, hWF⟩ : ∃ WF, WF = (W4.setRow (W3.heap.size) #[.int .i64 oSp, .int .i64 oSd, .int .i64 oSe, .slice aJi oSi.length cJi, .slice aJj oSj.length cJj, .slice aJk oSk.length cJk]) := ⟨_, rfl⟩
              have hbf : Below wH1.heap.size wH1 WF := by rw [hWF]; exact S5
              have hrf : Rz WF (W3.heap.size) 71 #[.int .i64 oSp, .int .i64 oSd, .int .i64 oSe, .slice aJi oSi.length cJi, .slice aJj oSj.length cJj, .slice aJk oSk.length cJk] := by rw [hWF]; exact hAR5
              have hGJ := hg_4.same (Same.setRow #[.int .i64 oSp, .int .i64 oSd, .int .i64 oSe, .slice aJi oSi.length cJi, .slice aJj oSj.length cJj, .slice aJk oSk.length cJk] (Or.inr (Nat.le_refl _)))
              rw [← hWF] at hGJ
              rw [← hWF]
              clear hWF
              go_wp2
              go_meet
              exact ⟨_, aJi, cJi, aJj, cJj, aJk, cJk, rfl, rfl, Lib.hid hbf, Lib.hid ⟨hrf.cell rfl, hrf.cell rfl, hrf.cell rfl, hrf.cell rfl, hrf.cell rfl, hrf.cell rfl, hrf.lt, hGJ.cx⟩⟩
          · obtain ⟨W6, hW6⟩ : ∃ W', W' = W2.alloc (.cells #[.int .i64 0, .int .i64 0, .int .i64 0, .slice none 0 0, .slice none 0 0, .slice none 0 0] 71) := ⟨_, rfl⟩
            have hb6 : Below W2.heap.size W2 W6 := by rw [hW6]; exact below_alloc1 _ _
            have hAR6 : Rz W6 W2.heap.size 71 #[.int .i64 0, .int .i64 0, .int .i64 0, .slice none 0 0, .slice none 0 0, .slice none 0 0] := by rw [hW6]; exact Rz.new _ _ _
            have S6 : Below (wH1.heap.size) wH1 W6 := S2.trans (hb6.mono (Nat.le_trans hB0 S2.size))
            have hGR : wH1.heap.size ≤ W2.heap.size := Nat.le_trans hB0 S2.size
            have hx0_6 := hx0_2.below hb6
            have hx1_6 := hx1_2.below hb6
            refine op_mem (i := 8) (v := .pointer (some ⟨W2.heap.size, 0, none⟩)) (w' := W6) (some 15) rfl rfl rfl (by rw [hW6]; go_simp) ?_
            refine ⟨S6, ?_⟩
            refine held_one (i := 4) (by kernel_rfl) ?_
            · refine op_enter (i := 4) (some 99) (f := 74) (args := #[.agg #[.int .i64 p0, .int .i64 d0, .int .i64 e0, xiv0, xjv0, xkv0], .agg #[.int .i64 p1, .int .i64 d1, .int .i64 e1, xiv1, xjv1, xkv1]]) rfl rfl rfl (by kernel_rfl) (addCouples_any p0 d0 e0 p1 d1 e1 _ _ _ _ _ _ il0 jl0 kl0 il1 jl1 kl1 _ (hx0_6) (hx1_6) HMS0.out HMS1.out) ?_ (fun c w' h => by obtain ⟨_, _, _, he, _⟩ := h; cases he) (fun w' h => by obtain ⟨_, _, _, he, _⟩ := h; cases he)
              rintro ee W7 ⟨u7, o7, k7, he, hr7, hb7, ho7⟩
              injection he with he
              subst he
              obtain ⟨rfl, rfl⟩ := RsOut.unique (fun _ a b ha hb => ha.trans hb.symm) HOS.out ho7
              obtain ⟨aJi, cJi, aJj, cJj, aJk, cJk, hu, hr7⟩ := hr7
              have hu : u7 = .agg #[.int .i64 oSp, .int .i64 oSd, .int .i64 oSe, .slice aJi oSi.length cJi, .slice aJj oSj.length cJj, .slice aJk oSk.length cJk] := hu
              subst hu
              have S7 : Below (wH1.heap.size) wH1 W7 := S6.trans (hb7.mono (Nat.le_trans hB0 S6.size))
              have hAR7 := hAR6.next hb7
              refine ⟨S7, ?_⟩
              refine held_take (i := 5) (v := .tuple #[.agg #[.int .i64 oSp, .int .i64 oSd, .int .i64 oSe, .slice aJi oSi.length cJi, .slice aJj oSj.length cJj, .slice aJk oSk.length cJk], .int .i64 kS]) (some 94) rfl rfl (by kernel_rfl) (by kernel_rfl) (by kernel_rfl) (fun _ _ _ h => h) (yieldsIf_move (by kernel_rfl) rfl (by kernel_rfl)) S7 ?_
              refine held_take (i := 6) (v := .agg #[.int .i64 oSp, .int .i64 oSd, .int .i64 oSe, .slice aJi oSi.length cJi, .slice aJj oSj.length cJj, .slice aJk oSk.length cJk]) (some 100) rfl rfl (by kernel_rfl) (by kernel_rfl) (by kernel_rfl) (fun _ _ _ h => h) (yieldsIf_run (by kernel_rfl) (fun W _ => by kernel_rfl)) S7 ?_
              refine held_take (i := 7) (v := .int .i64 kS) (some 101) rfl rfl (by kernel_rfl) (by kernel_rfl) (by kernel_rfl) (fun _ _ _ h => h) (yieldsIf_run (by kernel_rfl) (fun W _ => by kernel_rfl)) S7 ?_
              have hAR := hAR7
              have S8 : Below (wH1.heap.size) wH1 (W7.setRow (W2.heap.size) #[.int .i64 oSp, .int .i64 oSd, .int .i64 oSe, .slice aJi oSi.length cJi, .slice aJj oSj.length cJj, .slice aJk oSk.length cJk]) := below_setRow S7 hGR _
              refine held_one (i := 9) (by kernel_rfl) ?_
              refine op_row (i := 9) rfl rfl rfl 71 (.tmp 15) (.tmp 100) rfl (W2.heap.size) #[.int .i64 oSp, .int .i64 oSd, .int .i64 oSe, .slice aJi oSi.length cJi, .slice aJj oSj.length cJj, .slice aJk oSk.length cJk] (by kernel_rfl) (by kernel_rfl) 71 _ hAR7 (infoLawAcl _ _ _ _ _ _) (by kernel_rfl) (by kernel_rfl) ?_
              refine ⟨S8, ?_⟩
              have hAR8 := hAR7.set #[.int .i64 oSp, .int .i64 oSd, .int .i64 oSe, .slice aJi oSi.length cJi, .slice aJj oSj.length cJj, .slice aJk oSk.length cJk]
              refine held_take (i := 10) (v := .int .i64 kS) (some 16) rfl rfl (by kernel_rfl) (by kernel_rfl) (by kernel_rfl) (fun _ _ _ h => h) (yieldsIf_assign (by kernel_rfl) rfl (by kernel_rfl)) S8 ?_
              refine wpAnyH_done (by kernel_rfl) ?_ _
              simp only [Act.put, List.setIfInBounds_toArray, List.set_cons_zero, List.set_cons_succ]
              obtain ⟨WF, hWF⟩ : ∃ WF, WF = (W7.setRow (W2.heap.size) #[.int .i64 oSp, .int .i64 oSd, .int .i64 oSe, .slice aJi oSi.length cJi, .slice aJj oSj.length cJj, .slice aJk oSk.length cJk]) := ⟨_, rfl⟩
              have hbf : Below wH1.heap.size wH1 WF := by rw [hWF]; exact S8
              have hrf : Rz WF (W2.heap.size) 71 #[.int .i64 oSp, .int .i64 oSd, .int .i64 oSe, .slice aJi oSi.length cJi, .slice aJj oSj.length cJj, .slice aJk oSk.length cJk] := by rw [hWF]; exact hAR8
              have hGJ := hr7.same (Same.setRow #[.int .i64 oSp, .int .i64 oSd, .int .i64 oSe, .slice aJi oSi.length cJi, .slice aJj oSj.length cJj, .slice aJk oSk.length cJk] (Or.inl hAR6.lt))
              rw [← hWF] at hGJ
              rw [← hWF]
              clear hWF
              go_wp2
              go_meet
              exact ⟨_, aJi, cJi, aJj, cJj, aJk, cJk, rfl, rfl, Lib.hid hbf, Lib.hid ⟨hrf.cell rfl, hrf.cell rfl, hrf.cell rfl, hrf.cell rfl, hrf.cell rfl, hrf.cell rfl, hrf.lt, hGJ.cx⟩⟩
        · obtain ⟨W9, hW9⟩ : ∃ W', W' = W1.alloc (.cells #[.int .i64 0, .int .i64 0, .int .i64 0, .slice none 0 0, .slice none 0 0, .slice none 0 0] 71) := ⟨_, rfl⟩
          have hb9 : Below W1.heap.size W1 W9 := by rw [hW9]; exact below_alloc1 _ _
          have hAR9 : Rz W9 W1.heap.size 71 #[.int .i64 0, .int .i64 0, .int .i64 0, .slice none 0 0, .slice none 0 0, .slice none 0 0] := by rw [hW9]; exact Rz.new _ _ _
          have S9 : Below (wH1.heap.size) wH1 W9 := S1.trans (hb9.mono (Nat.le_trans hB0 S1.size))
          have hGR : wH1.heap.size ≤ W1.heap.size := Nat.le_trans hB0 S1.size
          have hx0_9 := hx0_1.below hb9
          refine op_mem (i := 8) (v := .pointer (some ⟨W1.heap.size, 0, none⟩)) (w' := W9) (some 15) rfl rfl rfl (by rw [hW9]; go_simp) ?_
          refine ⟨S9, ?_⟩
          refine held_one (i := 3) (by kernel_rfl) ?_
          · refine op_enter (i := 3) (some 98) (f := 67) (args := #[.agg #[.int .i64 p1, .int .i64 d1, .int .i64 e1, iv1, jv1, kv1]]) rfl rfl rfl (by kernel_rfl) (toCouple_any p1 d1 e1 iv1 jv1 kv1 il1 jl1 kl1 _ (HQ1.out _ S9).cx HMS1.out) ?_ (fun c w' h => by obtain ⟨_, _, _, he, _⟩ := h; cases he) (fun w' h => by obtain ⟨_, _, _, he, _⟩ := h; cases he)
            rintro ee W10 ⟨xiv1, xjv1, xkv1, he, hc10, hb10⟩
            injection he with he
            subst he
            have S10 : Below (wH1.heap.size) wH1 W10 := S9.trans (hb10.mono (Nat.le_trans hB0 S9.size))
            have hAR10 := hAR9.next hb10
            have hx0_10 := hx0_9.below hb10
            have hx1_10 := hc10.zero
            refine ⟨S10, ?_⟩
            refine held_one (i := 4) (by kernel_rfl) ?_
            · refine op_enter (i := 4) (some 99) (f := 74) (args := #[.agg #[.int .i64 p0, .int .i64 d0, .int .i64 e0, xiv0, xjv0, xkv0], .agg #[.int .i64 p1, .int .i64 d1, .int .i64 e1, xiv1, xjv1, xkv1]]) rfl rfl rfl (by kernel_rfl) (addCouples_any p0 d0 e0 p1 d1 e1 _ _ _ _ _ _ il0 jl0 kl0 il1 jl1 kl1 _ (hx0_10) (hx1_10) HMS0.out HMS1.out) ?_ (fun c w' h => by obtain ⟨_, _, _, he, _⟩ := h; cases he) (fun w' h => by obtain ⟨_, _, _, he, _⟩ := h; cases he)
              rintro ee W11 ⟨u11, o11, k11, he, hr11, hb11, ho11⟩
              injection he with he
              subst he
              obtain ⟨rfl, rfl⟩ := RsOut.unique (fun _ a b ha hb => ha.trans hb.symm) HOS.out ho11
              obtain ⟨aJi, cJi, aJj, cJj, aJk, cJk, hu, hr11⟩ := hr11
              have hu : u11 = .agg #[.int .i64 oSp, .int .i64 oSd, .int .i64 oSe, .slice aJi oSi.length cJi, .slice aJj oSj.length cJj, .slice aJk oSk.length cJk] := hu
              subst hu
              have S11 : Below (wH1.heap.size) wH1 W11 := S10.trans (hb11.mono (Nat.le_trans hB0 S10.size))
              have hAR11 := hAR10.next hb11
              refine ⟨S11, ?_⟩
              refine held_take (i := 5) (v := .tuple #[.agg #[.int .i64 oSp, .int .i64 oSd, .int .i64 oSe, .slice aJi oSi.length cJi, .slice aJj oSj.length cJj, .slice aJk oSk.length cJk], .int .i64 kS]) (some 94) rfl rfl (by kernel_rfl) (by kernel_rfl) (by kernel_rfl) (fun _ _ _ h => h) (yieldsIf_move (by kernel_rfl) rfl (by kernel_rfl)) S11 ?_
              refine held_take (i := 6) (v := .agg #[.int .i64 oSp, .int .i64 oSd, .int .i64 oSe, .slice aJi oSi.length cJi, .slice aJj oSj.length cJj, .slice aJk oSk.length cJk]) (some 100) rfl rfl (by kernel_rfl) (by kernel_rfl) (by kernel_rfl) (fun _ _ _ h => h) (yieldsIf_run (by kernel_rfl) (fun W _ => by kernel_rfl)) S11 ?_
              refine held_take (i := 7) (v := .int .i64 kS) (some 101) rfl rfl (by kernel_rfl) (by kernel_rfl) (by kernel_rfl) (fun _ _ _ h => h) (yieldsIf_run (by kernel_rfl) (fun W _ => by kernel_rfl)) S11 ?_
              have hAR := hAR11
              have S12 : Below (wH1.heap.size) wH1 (W11.setRow (W1.heap.size) #[.int .i64 oSp, .int .i64 oSd, .int .i64 oSe, .slice aJi oSi.length cJi, .slice aJj oSj.length cJj, .slice aJk oSk.length cJk]) := below_setRow S11 hGR _
              refine held_one (i := 9) (by kernel_rfl) ?_
              refine op_row (i := 9) rfl rfl rfl 71 (.tmp 15) (.tmp 100) rfl (W1.heap.size) #[.int .i64 oSp, .int .i64 oSd, .int .i64 oSe, .slice aJi oSi.length cJi, .slice aJj oSj.length cJj, .slice aJk oSk.length cJk] (by kernel_rfl) (by kernel_rfl) 71 _ hAR11 (infoLawAcl _ _ _ _ _ _) (by kernel_rfl) (by kernel_rfl) ?_
              refine ⟨S12, ?_⟩
              have hAR12 := hAR11.set #[.int .i64 oSp, .int .i64 oSd, .int .i64 oSe, .slice aJi oSi.length cJi, .slice aJj oSj.length cJj, .slice aJk oSk.length cJk]
              refine held_take (i := 10) (v := .int .i64 kS) (some 16) rfl rfl (by kernel_rfl) (by kernel_rfl) (by kernel_rfl) (fun _ _ _ h => h) (yieldsIf_assign (by kernel_rfl) rfl (by kernel_rfl)) S12 ?_
              refine wpAnyH_done (by kernel_rfl) ?_ _
              simp only [Act.put, List.setIfInBounds_toArray, List.set_cons_zero, List.set_cons_succ]
              obtain ⟨WF, hWF⟩ : ∃ WF, WF = (W11.setRow (W1.heap.size) #[.int .i64 oSp, .int .i64 oSd, .int .i64 oSe, .slice aJi oSi.length cJi, .slice aJj oSj.length cJj, .slice aJk oSk.length cJk]) := ⟨_, rfl⟩
              have hbf : Below wH1.heap.size wH1 WF := by rw [hWF]; exact S12
              have hrf : Rz WF (W1.heap.size) 71 #[.int .i64 oSp, .int .i64 oSd, .int .i64 oSe, .slice aJi oSi.length cJi, .slice aJj oSj.length cJj, .slice aJk oSk.length cJk] := by rw [hWF]; exact hAR12
              have hGJ := hr11.same (Same.setRow #[.int .i64 oSp, .int .i64 oSd, .int .i64 oSe, .slice aJi oSi.length cJi, .slice aJj oSj.length cJj, .slice aJk oSk.length cJk] (Or.inl hAR10.lt))
              rw [← hWF] at hGJ
              rw [← hWF]
              clear hWF
              go_wp2
              go_meet
              exact ⟨_, aJi, cJi, aJj, cJj, aJk, cJk, rfl, rfl, Lib.hid hbf, Lib.hid ⟨hrf.cell rfl, hrf.cell rfl, hrf.cell rfl, hrf.cell rfl, hrf.cell rfl, hrf.cell rfl, hrf.lt, hGJ.cx⟩⟩
      · obtain ⟨W13, hW13⟩ : ∃ W', W' = wd.alloc (.cells #[.int .i64 0, .int .i64 0, .int .i64 0, .slice none 0 0, .slice none 0 0, .slice none 0 0] 71) := ⟨_, rfl⟩
        have hb13 : Below wd.heap.size wd W13 := by rw [hW13]; exact below_alloc1 _ _
        have hAR13 : Rz W13 wd.heap.size 71 #[.int .i64 0, .int .i64 0, .int .i64 0, .slice none 0 0, .slice none 0 0, .slice none 0 0] := by rw [hW13]; exact Rz.new _ _ _
        have S13 : Below (wH1.heap.size) wH1 W13 := S0.trans (hb13.mono (Nat.le_trans hB0 S0.size))
        have hGR : wH1.heap.size ≤ wd.heap.size := Nat.le_trans hB0 S0.size
        refine op_mem (i := 8) (v := .pointer (some ⟨wd.heap.size, 0, none⟩)) (w' := W13) (some 15) rfl rfl rfl (by rw [hW13]; go_simp) ?_
        refine ⟨S13, ?_⟩
        refine held_one (i := 1) (by kernel_rfl) ?_
        · refine op_enter (i := 1) (some 96) (f := 67) (args := #[.agg #[.int .i64 p0, .int .i64 d0, .int .i64 e0, iv0, jv0, kv0]]) rfl rfl rfl (by kernel_rfl) (toCouple_any p0 d0 e0 iv0 jv0 kv0 il0 jl0 kl0 _ (HQ0.out _ S13).cx HMS0.out) ?_ (fun c w' h => by obtain ⟨_, _, _, he, _⟩ := h; cases he) (fun w' h => by obtain ⟨_, _, _, he, _⟩ := h; cases he)
          rintro ee W14 ⟨xiv0, xjv0, xkv0, he, hc14, hb14⟩
          injection he with he
          subst he
          have S14 : Below (wH1.heap.size) wH1 W14 := S13.trans (hb14.mono (Nat.le_trans hB0 S13.size))
          have hAR14 := hAR13.next hb14
          have hx0_14 := hc14.zero
          refine ⟨S14, ?_⟩
          refine held_one (i := 3) (by kernel_rfl) ?_
          · refine op_enter (i := 3) (some 98) (f := 67) (args := #[.agg #[.int .i64 p1, .int .i64 d1, .int .i64 e1, iv1, jv1, kv1]]) rfl rfl rfl (by kernel_rfl) (toCouple_any p1 d1 e1 iv1 jv1 kv1 il1 jl1 kl1 _ (HQ1.out _ S14).cx HMS1.out) ?_ (fun c w' h => by obtain ⟨_, _, _, he, _⟩ := h; cases he) (fun w' h => by obtain ⟨_, _, _, he, _⟩ := h; cases he)
            rintro ee W15 ⟨xiv1, xjv1, xkv1, he, hc15, hb15⟩
            injection he with he
            subst he
            have S15 : Below (wH1.heap.size) wH1 W15 := S14.trans (hb15.mono (Nat.le_trans hB0 S14.size))
            have hAR15 := hAR14.next hb15
            have hx0_15 := hx0_14.below hb15
            have hx1_15 := hc15.zero
            refine ⟨S15, ?_⟩
            refine held_one (i := 4) (by kernel_rfl) ?_
            · refine op_enter (i := 4) (some 99) (f := 74) (args := #[.agg #[.int .i64 p0, .int .i64 d0, .int .i64 e0, xiv0, xjv0, xkv0], .agg #[.int .i64 p1, .int .i64 d1, .int .i64 e1, xiv1, xjv1, xkv1]]) rfl rfl rfl (by kernel_rfl) (addCouples_any p0 d0 e0 p1 d1 e1 _ _ _ _ _ _ il0 jl0 kl0 il1 jl1 kl1 _ (hx0_15) (hx1_15) HMS0.out HMS1.out) ?_ (fun c w' h => by obtain ⟨_, _, _, he, _⟩ := h; cases he) (fun w' h => by obtain ⟨_, _, _, he, _⟩ := h; cases he)
              rintro ee W16 ⟨u16, o16, k16, he, hr16, hb16, ho16⟩
              injection he with he
              subst he
              obtain ⟨rfl, rfl⟩ := RsOut.unique (fun _ a b ha hb => ha.trans hb.symm) HOS.out ho16
              obtain ⟨aJi, cJi, aJj, cJj, aJk, cJk, hu, hr16⟩ := hr16
              have hu : u16 = .agg #[.int .i64 oSp, .int .i64 oSd, .int .i64 oSe, .slice aJi oSi.length cJi, .slice aJj oSj.length cJj, .slice aJk oSk.length cJk] := hu
              subst hu
              have S16 : Below (wH1.heap.size) wH1 W16 := S15.trans (hb16.mono (Nat.le_trans hB0 S15.size))
              have hAR16 := hAR15.next hb16
              refine ⟨S16, ?_⟩
              refine held_take (i := 5) (v := .tuple #[.agg #[.int .i64 oSp, .int .i64 oSd, .int .i64 oSe, .slice aJi oSi.length cJi, .slice aJj oSj.length cJj, .slice aJk oSk.length cJk], .int .i64 kS]) (some 94) rfl rfl (by kernel_rfl) (by kernel_rfl) (by kernel_rfl) (fun _ _ _ h => h) (yieldsIf_move (by kernel_rfl) rfl (by kernel_rfl)) S16 ?_
              refine held_take (i := 6) (v := .agg #[.int .i64 oSp, .int .i64 oSd, .int .i64 oSe, .slice aJi oSi.length cJi, .slice aJj oSj.length cJj, .slice aJk oSk.length cJk]) (some 100) rfl rfl (by kernel_rfl) (by kernel_rfl) (by kernel_rfl) (fun _ _ _ h => h) (yieldsIf_run (by kernel_rfl) (fun W _ => by kernel_rfl)) S16 ?_
              refine held_take (i := 7) (v := .int .i64 kS) (some 101) rfl rfl (by kernel_rfl) (by kernel_rfl) (by kernel_rfl) (fun _ _ _ h => h) (yieldsIf_run (by kernel_rfl) (fun W _ => by kernel_rfl)) S16 ?_
              have hAR := hAR16
              have S17 : Below (wH1.heap.size) wH1 (W16.setRow (wd.heap.size) #[.int .i64 oSp, .int .i64 oSd, .int .i64 oSe, .slice aJi oSi.length cJi, .slice aJj oSj.length cJj, .slice aJk oSk.length cJk]) := below_setRow S16 hGR _
              refine held_one (i := 9) (by kernel_rfl) ?_
              refine op_row (i := 9) rfl rfl rfl 71 (.tmp 15) (.tmp 100) rfl (wd.heap.size) #[.int .i64 oSp, .int .i64 oSd, .int .i64 oSe, .slice aJi oSi.length cJi, .slice aJj oSj.length cJj, .slice aJk oSk.length cJk] (by kernel_rfl) (by kernel_rfl) 71 _ hAR16 (infoLawAcl _ _ _ _ _ _) (by kernel_rfl) (by kernel_rfl) ?_
              refine ⟨S17, ?_⟩
              have hAR17 := hAR16.set #[.int .i64 oSp, .int .i64 oSd, .int .i64 oSe, .slice aJi oSi.length cJi, .slice aJj oSj.length cJj, .slice aJk oSk.length cJk]
              refine held_take (i := 10) (v := .int .i64 kS) (some 16) rfl rfl (by kernel_rfl) (by kernel_rfl) (by kernel_rfl) (fun _ _ _ h => h) (yieldsIf_assign (by kernel_rfl) rfl (by kernel_rfl)) S17 ?_
              refine wpAnyH_done (by kernel_rfl) ?_ _
              simp only [Act.put, List.setIfInBounds_toArray, List.set_cons_zero, List.set_cons_succ]
              obtain ⟨WF, hWF⟩ : ∃ WF, WF = (W16.setRow (wd.heap.size) #[.int .i64 oSp, .int .i64 oSd, .int .i64 oSe, .slice aJi oSi.length cJi, .slice aJj oSj.length cJj, .slice aJk oSk.length cJk]) := ⟨_, rfl⟩
              have hbf : Below wH1.heap.size wH1 WF := by rw [hWF]; exact S17
              have hrf : Rz WF (wd.heap.size) 71 #[.int .i64 oSp, .int .i64 oSd, .int .i64 oSe, .slice aJi oSi.length cJi, .slice aJj oSj.length cJj, .slice aJk oSk.length cJk] := by rw [hWF]; exact hAR17
              have hGJ := hr16.same (Same.setRow #[.int .i64 oSp, .int .i64 oSd, .int .i64 oSe, .slice aJi oSi.length cJi, .slice aJj oSj.length cJj, .slice aJk oSk.length cJk] (Or.inl hAR15.lt))
              rw [← hWF] at hGJ
              rw [← hWF]
              clear hWF
              go_wp2
              go_meet
              exact ⟨_, aJi, cJi, aJj, cJj, aJk, cJk, rfl, rfl, Lib.hid hbf, Lib.hid ⟨hrf.cell rfl, hrf.cell rfl, hrf.cell rfl, hrf.cell rfl, hrf.cell rfl, hrf.cell rfl, hrf.lt, hGJ.cx⟩⟩
    case rest =>
      obtain ⟨gJ, aJi, cJi, aJj, cJj, aJk, cJk, rfl, rfl, HBz, HYJ⟩ := hcut
      obtain ⟨wJ, hwJ⟩ : ∃ wJ : World, wJ = wc := ⟨_, rfl⟩
      subst hwJ
      have hsJ : wH1.heap.size ≤ wJ.heap.size := HBz.out.size
      have hb := HBz.out
      clear HBz HQ0 HQ1
      have HB' := Lib.hid (HB.out.trans (hb.mono (by omega)))
      have HK' := Lib.hid (HK.out.trans (hb.mono (by omega)))
      have HG' := Lib.hid (HG.out.same (Same.of_below hb (by omega)))
      have HCG' := Lib.hid (HCG.out.next hb)
      clear hb HB HK HG HCG
      have HB := HB'
      have HK := HK'
      have HG := HG'
      have HCG := HCG'
      clear HB' HK' HG' HCG'
      have s0 := (HYS.out.next HK.out).c0
      have s1 := (HYS.out.next HK.out).c1
      have s2 := (HYS.out.next HK.out).c2
      have s3 := (HYS.out.next HK.out).c3
      have s4 := (HYS.out.next HK.out).c4
      have s5 := (HYS.out.next HK.out).c5
      have j0 := HYJ.out.c0
      have j1 := HYJ.out.c1
      have j2 := HYJ.out.c2
      have j3 := HYJ.out.c3
      have j4 := HYJ.out.c4
      have j5 := HYJ.out.c5
      go_wp2_with fail
      refine (eqCouple_true oSp oSd oSe _ _ _ _ _ _ oSi oSj oSk _ HYJ.out.cx (HYS.out.next HK.out).cx HBE.out).mono ?_
      rintro ee wK ⟨rfl, hb⟩
      have hsK : wJ.heap.size ≤ wK.heap.size := hb.size
      clear s0 s1 s2 s3 s4 s5 j0 j1 j2 j3 j4 j5
      clear HYJ
      have HB' := Lib.hid (HB.out.trans (hb.mono (by omega)))
      have HK' := Lib.hid (HK.out.trans (hb.mono (by omega)))
      have HG' := Lib.hid (HG.out.same (Same.of_below hb (by omega)))
      have HCG' := Lib.hid (HCG.out.next hb)
      clear hb HB HK HG HCG
      have HB := HB'
      have HK := HK'
      have HG := HG'
      have HCG := HCG'
      clear HB' HK' HG' HCG'
      have g0 := HCG.out.c0
      have g1 := HCG.out.c1
      have g2 := HCG.out.c2
      have g3 := HCG.out.c3
      have g4 := HCG.out.c4
      have g5 := HCG.out.c5
      go_wp2_with fail
      refine (heldRCp_any oSp oSd oSe _ _ _ mm _ HG.out (by omega)).mono ?_
      rintro ee wH2 ⟨rfl, hb⟩
      have hsH2 : wK.heap.size ≤ wH2.heap.size := hb.size
      clear g0 g1 g2 g3 g4 g5
      have HB' := Lib.hid (HB.out.trans (hb.mono (by omega)))
      have HK' := Lib.hid (HK.out.trans (hb.mono (by omega)))
      have HG' := Lib.hid (HG.out.same (Same.of_below hb (by omega)))
      have HCG' := Lib.hid (HCG.out.next hb)
      clear hb HB HK HG HCG
      have HB := HB'
      have HK := HK'
      have HG := HG'
      have HCG := HCG'
      clear HB' HK' HG' HCG'
      go_wp2
      go_ret
      exact ⟨rfl, HNW.out _ HB.out⟩
end Go.Proofs.Ytpdkfidmmjlmnab

