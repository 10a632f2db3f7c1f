/-
  impl.sumOfFamilies by contract.
-/
import Derived.Test.YtpdkfidmmjlmnabLds
import Derived.Test.YtpdkfidmmjlmnabStx
namespace Go.Proofs.Ytpdkfidmmjlmnab
open Go.RowKit

theorem cell_new1 (W : World) (v : Value) (t : TypeId) : (W.alloc (.cells #[v] t)).cell? ⟨W.heap.size, 0, none⟩ = some v := by simp
theorem infoGr (y0 y1 y2 y3 y4 : Value) : (Try.prog.info? 120).map (·.size) = some (#[y0, y1, y2, y3, y4] : Array Value).size := by kernel_rfl
theorem hloadGr (W : World) {b : Nat} {x0 x1 x2 x3 x4 : Value} (h : Rz W b 120 #[x0, x1, x2, x3, x4]) : (Instr.loadAt 120 (.pointer (some ⟨b, 0, none⟩))).run Try.prog W = .ok (.agg #[x0, x1, x2, x3, x4]) W := by
  have c0 : W.cell? ⟨b, 0, none⟩ = some x0 := h.cell rfl
  have c1 : W.cell? ⟨b, 1, none⟩ = some x1 := h.cell rfl
  have c2 : W.cell? ⟨b, 2, none⟩ = some x2 := h.cell rfl
  have c3 : W.cell? ⟨b, 3, none⟩ = some x3 := h.cell rfl
  have c4 : W.cell? ⟨b, 4, none⟩ = some x4 := h.cell rfl
  go_simp

set_option maxHeartbeats 6400000 in
set_option maxRecDepth 100000 in
theorem sumOfFamilies_any (p k : Int) (dv mv dv2 mv2 fv gv : Value) (ds : List Int) (ms : List (List (List Int))) (ds2 : List Int) (ms2 : List (List (List Int))) (fs gs : List (List (List Int))) (w : World) (h : Cx 0 w dv mv ds ms) (h2 : Cx 0 w dv2 mv2 ds2 ms2) (hf : L3 0 w fv fs) (hg : L3 0 w gv gs) (hcx : IsCx p ds ms) (hcy : IsCx p ds2 ms2) (hof : FamOk p ds ds2 0 fs) (hog : FamOk p ds ds2 0 gs) (hk : 0 ≤ k ∧ k ≤ p - 1) (hmf : Bd3 1048576 fs) (hmg : Bd3 1048576 gs) :
    Calls Try.prog 131 #[.agg #[.int .i64 p, dv, mv], .agg #[.int .i64 p, dv2, mv2], fv, gv, .int .i64 k] w (Fam3R (famL ds.length (rsF ds) (csF ds2 0) (afZ p k fs gs)) w) := by
  obtain ⟨ad, cap, rfl⟩ := Sl.shape h.dims
  obtain ⟨am, capm, rfl⟩ := Sl.shape h.maps
  obtain ⟨ad2, cap2, rfl⟩ := Sl.shape h2.dims
  obtain ⟨am2, capm2, rfl⟩ := Sl.shape h2.maps
  obtain ⟨af, cf, rfl⟩ := Sl.shape hf
  obtain ⟨ag, cg, rfl⟩ := Sl.shape hg
  obtain ⟨k1, k2⟩ := bx_two (p := p) (p2 := p) 31 h h2
  have HX0 := Lib.hid k1
  have HY0 := Lib.hid k2
  have HCX := Lib.hid hcx
  have HCY := Lib.hid hcy
  have HOF := Lib.hid hof
  have HOG := Lib.hid hog
  obtain ⟨w1, hw1⟩ : ∃ w1, w1 = ((w.alloc (.cells #[.int .i64 p, .slice ad ds.length cap, .slice am ms.length capm] 31)).alloc (.cells #[.int .i64 p, .slice ad2 ds2.length cap2, .slice am2 ms2.length capm2] 31)) := ⟨_, rfl⟩
  rw [← hw1] at HX0 HY0
  have HB01 := Lib.hid HX0.out.below
  have HF1 := Lib.hid (hf.below HB01.out)
  have HG1 := Lib.hid (hg.below HB01.out)
  have HC1 : Hid (∀ W, Below w1.heap.size w1 W → Bx w W w.heap.size p (.slice ad ds.length cap) (.slice am ms.length capm) ds ms ∧ Bx w W (w.heap.size + 1) p (.slice ad2 ds2.length cap2) (.slice am2 ms2.length capm2) ds2 ms2) := Lib.hid (fun W hb => ⟨HX0.out.next hb, HY0.out.next hb⟩)
  have hl6 := hcx.1.len1
  have hp7 : 2 ≤ p ∧ p ≤ 7 := ⟨hcx.1.prime.lo, hcx.1.prime.hi⟩
  have HMF := Lib.hid hmf
  have HMG := Lib.hid hmg
  clear h h2 k1 k2 hf hg hcx hcy hof hog hmf hmg
  go_enter Try.func131, Try.ntmps131
  go_upto_region 1 with fail
  rw [← hw1]
  clear hw1
  refine wp_region_held (S := fun W => Below (w1.heap.size) w1 W) (by kernel_rfl) ?_
  have S0 : Below (w1.heap.size) w1 w1.drew := (Below.refl _ _).drew
  have hsd : w1.heap.size ≤ w1.drew.heap.size := Nat.le_refl _
  have hB0 : w1.heap.size ≤ w1.drew.heap.size := Nat.le_trans (Nat.le_of_eq rfl) S0.size
  refine held_take (i := 0) (v := .agg #[.int .i64 p, .slice ad2 ds2.length cap2, .slice am2 ms2.length capm2]) (some 13) rfl rfl (by kernel_rfl) (by kernel_rfl) (by kernel_rfl) (fun _ _ _ h => h) (yieldsIf_cell (by kernel_rfl) rfl (by kernel_rfl) (fun W h => hload3x ((HC1.out W h).2))) S0 ?_
  refine held_take (i := 1) (v := .slice af fs.length cf) (some 14) rfl rfl (by kernel_rfl) (by kernel_rfl) (by kernel_rfl) (fun _ _ _ h => h) (yieldsIf_move (by kernel_rfl) rfl (by kernel_rfl)) S0 ?_
  refine held_take (i := 2) (v := .agg #[.int .i64 p, .slice ad2 ds2.length cap2, .slice am2 ms2.length capm2, .int .i64 0, .slice af fs.length cf]) (some 15) rfl rfl (by kernel_rfl) (by kernel_rfl) (by kernel_rfl) (fun _ _ _ h => h) (yieldsIf_run (by kernel_rfl) (fun W _ => by kernel_rfl)) S0 ?_
  refine held_take (i := 3) (v := .agg #[.int .i64 p, .slice ad2 ds2.length cap2, .slice am2 ms2.length capm2]) (some 16) rfl rfl (by kernel_rfl) (by kernel_rfl) (by kernel_rfl) (fun _ _ _ h => h) (yieldsIf_cell (by kernel_rfl) rfl (by kernel_rfl) (fun W h => hload3x ((HC1.out W h).2))) S0 ?_
  refine held_take (i := 4) (v := .slice ag gs.length cg) (some 17) rfl rfl (by kernel_rfl) (by kernel_rfl) (by kernel_rfl) (fun _ _ _ h => h) (yieldsIf_move (by kernel_rfl) rfl (by kernel_rfl)) S0 ?_
  refine held_take (i := 5) (v := .agg #[.int .i64 p, .slice ad2 ds2.length cap2, .slice am2 ms2.length capm2, .int .i64 0, .slice ag gs.length cg]) (some 18) rfl rfl (by kernel_rfl) (by kernel_rfl) (by kernel_rfl) (fun _ _ _ h => h) (yieldsIf_run (by kernel_rfl) (fun W _ => by kernel_rfl)) S0 ?_
  refine held_two (i := 6) (j := 7) (by kernel_rfl) ?o1 ?o2
  case' o1 =>
    obtain ⟨V1, hV1⟩ : ∃ W', W' = w1.drew.alloc (.cells #[.int .i64 0, .slice none 0 0, .slice none 0 0, .int .i64 0, .slice none 0 0] 120) := ⟨_, rfl⟩
    have hbV1 : Below w1.drew.heap.size w1.drew V1 := by rw [hV1]; exact below_alloc1 _ _
    have hRA0 : Rz V1 w1.drew.heap.size 120 #[.int .i64 0, .slice none 0 0, .slice none 0 0, .int .i64 0, .slice none 0 0] := by rw [hV1]; exact Rz.new _ _ _
    have SV1 : Below (w1.heap.size) w1 V1 := S0.trans (hbV1.mono (by have := S0.size; omega))
    have zV1 := SV1.size
    refine op_mem (i := 6) (v := .pointer (some ⟨w1.drew.heap.size, 0, none⟩)) (w' := V1) (some 11) rfl rfl rfl (by rw [hV1]; go_simp) ?_
    refine ⟨SV1, ?_⟩
    obtain ⟨V2, hV2⟩ : ∃ W', W' = V1.alloc (.cells #[.int .i64 0, .slice none 0 0, .slice none 0 0, .int .i64 0, .slice none 0 0] 120) := ⟨_, rfl⟩
    have hbV2 : Below V1.heap.size V1 V2 := by rw [hV2]; exact below_alloc1 _ _
    have hRB1 : Rz V2 V1.heap.size 120 #[.int .i64 0, .slice none 0 0, .slice none 0 0, .int .i64 0, .slice none 0 0] := by rw [hV2]; exact Rz.new _ _ _
    have SV2 : Below (w1.heap.size) w1 V2 := SV1.trans (hbV2.mono (by have := SV1.size; omega))
    have hRA1 := hRA0.next hbV2
    have hne : w1.drew.heap.size ≠ V1.heap.size := Nat.ne_of_lt hRA0.lt
    refine held_one (i := 7) (by kernel_rfl) ?_
    refine op_mem (i := 7) (v := .pointer (some ⟨V1.heap.size, 0, none⟩)) (w' := V2) (some 12) rfl rfl rfl (by rw [hV2]; go_simp) ?_
    refine ⟨SV2, ?_⟩
    have TA : Below (w1.heap.size) w1 (V2.setRow (w1.drew.heap.size) #[.int .i64 p, .slice ad2 ds2.length cap2, .slice am2 ms2.length capm2, .int .i64 0, .slice af fs.length cf]) := below_setRow SV2 (by omega) _
    refine held_one (i := 8) (by kernel_rfl) ?_
    refine op_row (i := 8) rfl rfl rfl 120 (.tmp 11) (.tmp 15) rfl (w1.drew.heap.size) #[.int .i64 p, .slice ad2 ds2.length cap2, .slice am2 ms2.length capm2, .int .i64 0, .slice af fs.length cf] (by kernel_rfl) (by kernel_rfl) 120 _ hRA1 (infoGr _ _ _ _ _) (by kernel_rfl) (by kernel_rfl) ?_
    refine ⟨TA, ?_⟩
    have hRAsA := hRA1.set #[.int .i64 p, .slice ad2 ds2.length cap2, .slice am2 ms2.length capm2, .int .i64 0, .slice af fs.length cf]
    have hRBsA := hRB1.off (by first | exact hne | exact hne.symm) #[.int .i64 p, .slice ad2 ds2.length cap2, .slice am2 ms2.length capm2, .int .i64 0, .slice af fs.length cf]
    have TB : Below (w1.heap.size) w1 ((V2.setRow (w1.drew.heap.size) #[.int .i64 p, .slice ad2 ds2.length cap2, .slice am2 ms2.length capm2, .int .i64 0, .slice af fs.length cf]).setRow (V1.heap.size) #[.int .i64 p, .slice ad2 ds2.length cap2, .slice am2 ms2.length capm2, .int .i64 0, .slice ag gs.length cg]) := below_setRow TA (by omega) _
    refine held_one (i := 9) (by kernel_rfl) ?_
    refine op_row (i := 9) rfl rfl rfl 120 (.tmp 12) (.tmp 18) rfl (V1.heap.size) #[.int .i64 p, .slice ad2 ds2.length cap2, .slice am2 ms2.length capm2, .int .i64 0, .slice ag gs.length cg] (by kernel_rfl) (by kernel_rfl) 120 _ hRBsA (infoGr _ _ _ _ _) (by kernel_rfl) (by kernel_rfl) ?_
    refine ⟨TB, ?_⟩
    have hRBsB := hRBsA.set #[.int .i64 p, .slice ad2 ds2.length cap2, .slice am2 ms2.length capm2, .int .i64 0, .slice ag gs.length cg]
    have hRAsB := hRAsA.off (by first | exact hne | exact hne.symm) #[.int .i64 p, .slice ad2 ds2.length cap2, .slice am2 ms2.length capm2, .int .i64 0, .slice ag gs.length cg]
    refine wpAnyH_done (by kernel_rfl) ?_ _
    simp only [Act.put, List.setIfInBounds_toArray, List.set_cons_zero, List.set_cons_succ]
    have HBW := Lib.hid TB
    have HGA := Lib.hid hRAsB
    have HGB := Lib.hid hRBsB
    obtain ⟨W4, hW4⟩ : ∃ W4, W4 = ((V2.setRow (w1.drew.heap.size) #[.int .i64 p, .slice ad2 ds2.length cap2, .slice am2 ms2.length capm2, .int .i64 0, .slice af fs.length cf]).setRow (V1.heap.size) #[.int .i64 p, .slice ad2 ds2.length cap2, .slice am2 ms2.length capm2, .int .i64 0, .slice ag gs.length cg]) := ⟨_, rfl⟩
    obtain ⟨ga, hga⟩ : ∃ g, g = w1.drew.heap.size := ⟨_, rfl⟩
    obtain ⟨gb, hgb⟩ : ∃ g, g = V1.heap.size := ⟨_, rfl⟩
    rw [← hW4] at HBW HGA HGB ⊢
    rw [← hga] at HGA ⊢
    rw [← hgb] at HGB ⊢
    clear hW4 hga hgb hne TB TA SV2 SV1 S0 hRA0 hRA1 hRB1 hRAsA hRBsA hRAsB hRBsB hbV1 hbV2 hV2 hV1 hB0 hsd zV1
  case' o2 =>
    obtain ⟨V1, hV1⟩ : ∃ W', W' = w1.drew.alloc (.cells #[.int .i64 0, .slice none 0 0, .slice none 0 0, .int .i64 0, .slice none 0 0] 120) := ⟨_, rfl⟩
    have hbV1 : Below w1.drew.heap.size w1.drew V1 := by rw [hV1]; exact below_alloc1 _ _
    have hRB0 : Rz V1 w1.drew.heap.size 120 #[.int .i64 0, .slice none 0 0, .slice none 0 0, .int .i64 0, .slice none 0 0] := by rw [hV1]; exact Rz.new _ _ _
    have SV1 : Below (w1.heap.size) w1 V1 := S0.trans (hbV1.mono (by have := S0.size; omega))
    have zV1 := SV1.size
    refine op_mem (i := 7) (v := .pointer (some ⟨w1.drew.heap.size, 0, none⟩)) (w' := V1) (some 12) rfl rfl rfl (by rw [hV1]; go_simp) ?_
    refine ⟨SV1, ?_⟩
    obtain ⟨V2, hV2⟩ : ∃ W', W' = V1.alloc (.cells #[.int .i64 0, .slice none 0 0, .slice none 0 0, .int .i64 0, .slice none 0 0] 120) := ⟨_, rfl⟩
    have hbV2 : Below V1.heap.size V1 V2 := by rw [hV2]; exact below_alloc1 _ _
    have hRA1 : Rz V2 V1.heap.size 120 #[.int .i64 0, .slice none 0 0, .slice none 0 0, .int .i64 0, .slice none 0 0] := by rw [hV2]; exact Rz.new _ _ _
    have SV2 : Below (w1.heap.size) w1 V2 := SV1.trans (hbV2.mono (by have := SV1.size; omega))
    have hRB1 := hRB0.next hbV2
    have hne : w1.drew.heap.size ≠ V1.heap.size := Nat.ne_of_lt hRB0.lt
    refine held_one (i := 6) (by kernel_rfl) ?_
    refine op_mem (i := 6) (v := .pointer (some ⟨V1.heap.size, 0, none⟩)) (w' := V2) (some 11) rfl rfl rfl (by rw [hV2]; go_simp) ?_
    refine ⟨SV2, ?_⟩
    have TA : Below (w1.heap.size) w1 (V2.setRow (V1.heap.size) #[.int .i64 p, .slice ad2 ds2.length cap2, .slice am2 ms2.length capm2, .int .i64 0, .slice af fs.length cf]) := below_setRow SV2 (by omega) _
    refine held_one (i := 8) (by kernel_rfl) ?_
    refine op_row (i := 8) rfl rfl rfl 120 (.tmp 11) (.tmp 15) rfl (V1.heap.size) #[.int .i64 p, .slice ad2 ds2.length cap2, .slice am2 ms2.length capm2, .int .i64 0, .slice af fs.length cf] (by kernel_rfl) (by kernel_rfl) 120 _ hRA1 (infoGr _ _ _ _ _) (by kernel_rfl) (by kernel_rfl) ?_
    refine ⟨TA, ?_⟩
    have hRAsA := hRA1.set #[.int .i64 p, .slice ad2 ds2.length cap2, .slice am2 ms2.length capm2, .int .i64 0, .slice af fs.length cf]
    have hRBsA := hRB1.off (by first | exact hne | exact hne.symm) #[.int .i64 p, .slice ad2 ds2.length cap2, .slice am2 ms2.length capm2, .int .i64 0, .slice af fs.length cf]
    have TB : Below (w1.heap.size) w1 ((V2.setRow (V1.heap.size) #[.int .i64 p, .slice ad2 ds2.length cap2, .slice am2 ms2.length capm2, .int .i64 0, .slice af fs.length cf]).setRow (w1.drew.heap.size) #[.int .i64 p, .slice ad2 ds2.length cap2, .slice am2 ms2.length capm2, .int .i64 0, .slice ag gs.length cg]) := below_setRow TA (by omega) _
    refine held_one (i := 9) (by kernel_rfl) ?_
    refine op_row (i := 9) rfl rfl rfl 120 (.tmp 12) (.tmp 18) rfl (w1.drew.heap.size) #[.int .i64 p, .slice ad2 ds2.length cap2, .slice am2 ms2.length capm2, .int .i64 0, .slice ag gs.length cg] (by kernel_rfl) (by kernel_rfl) 120 _ hRBsA (infoGr _ _ _ _ _) (by kernel_rfl) (by kernel_rfl) ?_
    refine ⟨TB, ?_⟩
    have hRBsB := hRBsA.set #[.int .i64 p, .slice ad2 ds2.length cap2, .slice am2 ms2.length capm2, .int .i64 0, .slice ag gs.length cg]
    have hRAsB := hRAsA.off (by first | exact hne | exact hne.symm) #[.int .i64 p, .slice ad2 ds2.length cap2, .slice am2 ms2.length capm2, .int .i64 0, .slice ag gs.length cg]
    refine wpAnyH_done (by kernel_rfl) ?_ _
    simp only [Act.put, List.setIfInBounds_toArray, List.set_cons_zero, List.set_cons_succ]
    have HBW := Lib.hid TB
    have HGA := Lib.hid hRAsB
    have HGB := Lib.hid hRBsB
    obtain ⟨W4, hW4⟩ : ∃ W4, W4 = ((V2.setRow (V1.heap.size) #[.int .i64 p, .slice ad2 ds2.length cap2, .slice am2 ms2.length capm2, .int .i64 0, .slice af fs.length cf]).setRow (w1.drew.heap.size) #[.int .i64 p, .slice ad2 ds2.length cap2, .slice am2 ms2.length capm2, .int .i64 0, .slice ag gs.length cg]) := ⟨_, rfl⟩
    obtain ⟨ga, hga⟩ : ∃ g, g = V1.heap.size := ⟨_, rfl⟩
    obtain ⟨gb, hgb⟩ : ∃ g, g = w1.drew.heap.size := ⟨_, rfl⟩
    rw [← hW4] at HBW HGA HGB ⊢
    rw [← hga] at HGA ⊢
    rw [← hgb] at HGB ⊢
    clear hW4 hga hgb hne TB TA SV2 SV1 S0 hRB0 hRB1 hRA1 hRAsA hRBsA hRAsB hRBsB hbV1 hbV2 hV2 hV1 hB0 hsd zV1
  all_goals
    · go_upto_region 2 with fail
      have HC4 : Hid (∀ W, Below W4.heap.size W4 W → Below w1.heap.size w1 W) := Lib.hid (fun W h => HBW.out.trans (h.mono HBW.out.size))
      refine wp_region_held (S := fun W => Below W4.heap.size W4 W) (by kernel_rfl) ?_
      have S0 : Below W4.heap.size W4 W4.drew := (Below.refl _ _).drew
      refine held_take (i := 0) (v := .agg #[.int .i64 p, .slice ad ds.length cap, .slice am ms.length capm]) (some 19) rfl rfl (by kernel_rfl) (by kernel_rfl) (by kernel_rfl) (fun _ _ _ h => h) (yieldsIf_cell (by kernel_rfl) rfl (by kernel_rfl) (fun W h => hload3x ((HC1.out W (HC4.out W h)).1))) S0 ?_
      refine held_take (i := 1) (v := .agg #[.int .i64 p, .slice ad2 ds2.length cap2, .slice am2 ms2.length capm2]) (some 20) rfl rfl (by kernel_rfl) (by kernel_rfl) (by kernel_rfl) (fun _ _ _ h => h) (yieldsIf_cell (by kernel_rfl) rfl (by kernel_rfl) (fun W h => hload3x ((HC1.out W (HC4.out W h)).2))) S0 ?_
      refine held_take (i := 2) (v := .agg #[.int .i64 p, .slice ad2 ds2.length cap2, .slice am2 ms2.length capm2, .int .i64 0, .slice af fs.length cf]) (some 21) rfl rfl (by kernel_rfl) (by kernel_rfl) (by kernel_rfl) (fun _ _ _ h => h) (yieldsIf_cell (by kernel_rfl) rfl (by kernel_rfl) (fun W h => hloadGr W (HGA.out.next h))) S0 ?_
      refine held_take (i := 3) (v := .func (.func 122) #[.agg #[.int .i64 p, .slice ad2 ds2.length cap2, .slice am2 ms2.length capm2, .int .i64 0, .slice af fs.length cf]] #[]) (some 22) rfl rfl (by kernel_rfl) (by kernel_rfl) (by kernel_rfl) (fun _ _ _ h => h) (yieldsIf_run (by kernel_rfl) (fun W _ => by kernel_rfl)) S0 ?_
      refine held_take (i := 6) (v := .int .i64 k) (some 25) rfl rfl (by kernel_rfl) (by kernel_rfl) (by kernel_rfl) (fun _ _ _ h => h) (yieldsIf_move (by kernel_rfl) rfl (by kernel_rfl)) S0 ?_
      refine held_take (i := 7) (v := .agg #[.int .i64 p, .slice ad2 ds2.length cap2, .slice am2 ms2.length capm2, .int .i64 0, .slice ag gs.length cg]) (some 26) rfl rfl (by kernel_rfl) (by kernel_rfl) (by kernel_rfl) (fun _ _ _ h => h) (yieldsIf_cell (by kernel_rfl) rfl (by kernel_rfl) (fun W h => hloadGr W (HGB.out.next h))) S0 ?_
      refine held_take (i := 8) (v := .func (.func 122) #[.agg #[.int .i64 p, .slice ad2 ds2.length cap2, .slice am2 ms2.length capm2, .int .i64 0, .slice ag gs.length cg]] #[]) (some 27) rfl rfl (by kernel_rfl) (by kernel_rfl) (by kernel_rfl) (fun _ _ _ h => h) (yieldsIf_run (by kernel_rfl) (fun W _ => by kernel_rfl)) S0 ?_
      refine held_two (i := 4) (j := 9) (by kernel_rfl) ?_ ?_
      · obtain ⟨U1, hU1⟩ : ∃ W', W' = W4.drew.alloc (.cells #[.func (.func 122) #[.agg #[.int .i64 p, .slice ad2 ds2.length cap2, .slice am2 ms2.length capm2, .int .i64 0, .slice af fs.length cf]] #[]] 121) := ⟨_, rfl⟩
        have hb1 : Below W4.drew.heap.size W4.drew U1 := by rw [hU1]; exact below_alloc1 _ _
        have hcA1 : U1.cell? ⟨W4.drew.heap.size, 0, none⟩ = some (.func (.func 122) #[.agg #[.int .i64 p, .slice ad2 ds2.length cap2, .slice am2 ms2.length capm2, .int .i64 0, .slice af fs.length cf]] #[]) := by rw [hU1]; exact cell_new1 _ _ _
        have S1 : Below W4.heap.size W4 U1 := S0.trans (hb1.mono S0.size)
        refine op_mem (i := 4) (v := .slice (some ⟨W4.drew.heap.size, 0, none⟩) 1 1) (w' := U1) (some 23) rfl rfl rfl (by rw [hU1]; go_simp) ?_
        refine ⟨S1, ?_⟩
        refine held_two (i := 5) (j := 9) (by kernel_rfl) ?_ ?_
        · refine op_enter (i := 5) (some 24) (f := 128) (args := #[.int .i64 1, .slice (some ⟨W4.drew.heap.size, 0, none⟩) 1 1]) rfl rfl rfl (by kernel_rfl) (along_any _ _ 1 1 U1) ?_ (fun c w' h => by cases h.1) (fun w' h => by cases h.1)
          rintro e2 U2 ⟨he2, hb2⟩
          injection he2 with he2
          subst he2
          have S2 : Below W4.heap.size W4 U2 := S1.trans (hb2.mono S1.size)
          have hcA2 := later hb2 (Nat.le_refl _) hcA1
          refine ⟨S2, ?_⟩
          refine held_one (i := 9) (by kernel_rfl) ?_
          obtain ⟨U3, hU3⟩ : ∃ W', W' = U2.alloc (.cells #[.func (.func 122) #[.agg #[.int .i64 p, .slice ad2 ds2.length cap2, .slice am2 ms2.length capm2, .int .i64 0, .slice ag gs.length cg]] #[]] 121) := ⟨_, rfl⟩
          have hb3 : Below U2.heap.size U2 U3 := by rw [hU3]; exact below_alloc1 _ _
          have hcB3 : U3.cell? ⟨U2.heap.size, 0, none⟩ = some (.func (.func 122) #[.agg #[.int .i64 p, .slice ad2 ds2.length cap2, .slice am2 ms2.length capm2, .int .i64 0, .slice ag gs.length cg]] #[]) := by rw [hU3]; exact cell_new1 _ _ _
          have S3 : Below W4.heap.size W4 U3 := S2.trans (hb3.mono S2.size)
          have hcA3 := later hb3 (Nat.le_refl _) hcA2
          refine op_mem (i := 9) (v := .slice (some ⟨U2.heap.size, 0, none⟩) 1 1) (w' := U3) (some 28) rfl rfl rfl (by rw [hU3]; go_simp) ?_
          refine ⟨S3, ?_⟩
          refine held_one (i := 10) (by kernel_rfl) ?_
          refine op_enter (i := 10) (some 29) (f := 128) (args := #[.int .i64 k, .slice (some ⟨U2.heap.size, 0, none⟩) 1 1]) rfl rfl rfl (by kernel_rfl) (along_any _ _ 1 1 U3) ?_ (fun c w' h => by cases h.1) (fun w' h => by cases h.1)
          rintro e4 U4 ⟨he4, hb4⟩
          injection he4 with he4
          subst he4
          have S4 : Below W4.heap.size W4 U4 := S3.trans (hb4.mono S3.size)
          have hcA4 := later hb4 (Nat.le_refl _) hcA3
          have hcB4 := later hb4 (Nat.le_refl _) hcB3
          refine ⟨S4, ?_⟩
          obtain ⟨WP, hWP⟩ : ∃ W', W' = U4.alloc (.cells #[.int .i64 1, .slice (some ⟨W4.drew.heap.size, 0, none⟩) 1 1, .int .i64 k, .slice (some ⟨U2.heap.size, 0, none⟩) 1 1] 129) := ⟨_, rfl⟩
          have hbP : Below U4.heap.size U4 WP := by rw [hWP]; exact below_alloc1 _ _
          have SP : Below W4.heap.size W4 WP := S4.trans (hbP.mono S4.size)
          have p0 : WP.cell? ⟨U4.heap.size, 0, none⟩ = some (.int .i64 1) := by rw [hWP]; simp
          have p1 : WP.cell? ⟨U4.heap.size, 1, none⟩ = some (.slice (some ⟨W4.drew.heap.size, 0, none⟩) 1 1) := by rw [hWP]; simp
          have p2 : WP.cell? ⟨U4.heap.size, 2, none⟩ = some (.int .i64 k) := by rw [hWP]; simp
          have p3 : WP.cell? ⟨U4.heap.size, 3, none⟩ = some (.slice (some ⟨U2.heap.size, 0, none⟩) 1 1) := by rw [hWP]; simp
          have hXY := HC1.out WP (HC4.out WP SP)
          have hcon := paths2_any p k U4.heap.size W4.drew.heap.size U2.heap.size _ _ _ _ _ _ ds ms ds2 ms2 fs gs WP hXY.1.cx hXY.2.cx (HF1.out.below (HC4.out WP SP)) (HG1.out.below (HC4.out WP SP)) HCX.out HCY.out HOF.out HOG.out hk p0 p1 p2 p3 (later hbP (Nat.le_refl _) hcA4) (later hbP (Nat.le_refl _) hcB4)
          refine held_one (i := 11) (by kernel_rfl) ?_
          refine op_mem (i := 11) (v := .slice (some ⟨U4.heap.size, 0, none⟩) 2 2) (w' := WP) (some 30) rfl rfl rfl (by rw [hWP]; go_simp) ?_
          refine ⟨SP, ?_⟩
          refine held_enter (i := 12) (some 31) (f := 127) (args := #[.agg #[.int .i64 p, .slice ad ds.length cap, .slice am ms.length capm], .agg #[.int .i64 p, .slice ad2 ds2.length cap2, .slice am2 ms2.length capm2], .int .i64 0, .slice (some ⟨U4.heap.size, 0, none⟩) 2 2]) (by kernel_rfl) rfl rfl rfl (by kernel_rfl) hcon ?_ (fun c w' h => by obtain ⟨_, h, _⟩ := h; cases h) (fun w' h => by obtain ⟨_, h, _⟩ := h; cases h)
          rintro eF WF ⟨uF, heF, hrF, hbF⟩
          injection heF with heF
          subst heF
          have SF : Below W4.heap.size W4 WF := SP.trans (hbF.mono SP.size)
          have HWF := Lib.hid (HC1.out WF (HC4.out WF SF))
          have hz1 : w.heap.size ≤ WP.heap.size := (HB01.out.trans ((HC4.out WP SP).mono HB01.out.size)).size
          have HRF := Lib.hid (hrF.wider hz1 (Nat.le_refl _))
          refine ⟨SF, ?_⟩
          obtain ⟨auF, cuF, hsF⟩ := hrF.shape
          obtain ⟨nF, hnF⟩ : ∃ n, n = (famL ds.length (rsF ds) (csF ds2 0) (afZ p k fs gs)).length := ⟨_, rfl⟩
          rw [← hnF] at hsF
          subst hsF
          refine held_take (i := 13) (v := .slice auF nF cuF) (some 10) rfl rfl (by kernel_rfl) (by kernel_rfl) (by kernel_rfl) (fun _ _ _ h => h) (yieldsIf_assign (by kernel_rfl) rfl (by kernel_rfl)) SF ?_
          refine wpAnyH_done (by kernel_rfl) ?_ _
          simp only [Act.put, List.setIfInBounds_toArray, List.set_cons_zero, List.set_cons_succ]
          clear hcon hXY p0 p1 p2 p3 hWP hrF hbF
          go_wp2
          go_ret
          exact ⟨_, rfl, HRF.out, HWF.out.1.below⟩
        · obtain ⟨U5, hU5⟩ : ∃ W', W' = U1.alloc (.cells #[.func (.func 122) #[.agg #[.int .i64 p, .slice ad2 ds2.length cap2, .slice am2 ms2.length capm2, .int .i64 0, .slice ag gs.length cg]] #[]] 121) := ⟨_, rfl⟩
          have hb5 : Below U1.heap.size U1 U5 := by rw [hU5]; exact below_alloc1 _ _
          have hcB5 : U5.cell? ⟨U1.heap.size, 0, none⟩ = some (.func (.func 122) #[.agg #[.int .i64 p, .slice ad2 ds2.length cap2, .slice am2 ms2.length capm2, .int .i64 0, .slice ag gs.length cg]] #[]) := by rw [hU5]; exact cell_new1 _ _ _
          have S5 : Below W4.heap.size W4 U5 := S1.trans (hb5.mono S1.size)
          have hcA5 := later hb5 (Nat.le_refl _) hcA1
          refine op_mem (i := 9) (v := .slice (some ⟨U1.heap.size, 0, none⟩) 1 1) (w' := U5) (some 28) rfl rfl rfl (by rw [hU5]; go_simp) ?_
          refine ⟨S5, ?_⟩
          refine held_one (i := 5) (by kernel_rfl) ?_
          refine op_enter (i := 5) (some 24) (f := 128) (args := #[.int .i64 1, .slice (some ⟨W4.drew.heap.size, 0, none⟩) 1 1]) rfl rfl rfl (by kernel_rfl) (along_any _ _ 1 1 U5) ?_ (fun c w' h => by cases h.1) (fun w' h => by cases h.1)
          rintro e6 U6 ⟨he6, hb6⟩
          injection he6 with he6
          subst he6
          have S6 : Below W4.heap.size W4 U6 := S5.trans (hb6.mono S5.size)
          have hcA6 := later hb6 (Nat.le_refl _) hcA5
          have hcB6 := later hb6 (Nat.le_refl _) hcB5
          refine ⟨S6, ?_⟩
          refine held_one (i := 10) (by kernel_rfl) ?_
          refine op_enter (i := 10) (some 29) (f := 128) (args := #[.int .i64 k, .slice (some ⟨U1.heap.size, 0, none⟩) 1 1]) rfl rfl rfl (by kernel_rfl) (along_any _ _ 1 1 U6) ?_ (fun c w' h => by cases h.1) (fun w' h => by cases h.1)
          rintro e7 U7 ⟨he7, hb7⟩
          injection he7 with he7
          subst he7
          have S7 : Below W4.heap.size W4 U7 := S6.trans (hb7.mono S6.size)
          have hcA7 := later hb7 (Nat.le_refl _) hcA6
          have hcB7 := later hb7 (Nat.le_refl _) hcB6
          refine ⟨S7, ?_⟩
          obtain ⟨WP, hWP⟩ : ∃ W', W' = U7.alloc (.cells #[.int .i64 1, .slice (some ⟨W4.drew.heap.size, 0, none⟩) 1 1, .int .i64 k, .slice (some ⟨U1.heap.size, 0, none⟩) 1 1] 129) := ⟨_, rfl⟩
          have hbP : Below U7.heap.size U7 WP := by rw [hWP]; exact below_alloc1 _ _
          have SP : Below W4.heap.size W4 WP := S7.trans (hbP.mono S7.size)
          have p0 : WP.cell? ⟨U7.heap.size, 0, none⟩ = some (.int .i64 1) := by rw [hWP]; simp
          have p1 : WP.cell? ⟨U7.heap.size, 1, none⟩ = some (.slice (some ⟨W4.drew.heap.size, 0, none⟩) 1 1) := by rw [hWP]; simp
          have p2 : WP.cell? ⟨U7.heap.size, 2, none⟩ = some (.int .i64 k) := by rw [hWP]; simp
          have p3 : WP.cell? ⟨U7.heap.size, 3, none⟩ = some (.slice (some ⟨U1.heap.size, 0, none⟩) 1 1) := by rw [hWP]; simp
          have hXY := HC1.out WP (HC4.out WP SP)
          have hcon := paths2_any p k U7.heap.size W4.drew.heap.size U1.heap.size _ _ _ _ _ _ ds ms ds2 ms2 fs gs WP hXY.1.cx hXY.2.cx (HF1.out.below (HC4.out WP SP)) (HG1.out.below (HC4.out WP SP)) HCX.out HCY.out HOF.out HOG.out hk p0 p1 p2 p3 (later hbP (Nat.le_refl _) hcA7) (later hbP (Nat.le_refl _) hcB7)
          refine held_one (i := 11) (by kernel_rfl) ?_
          refine op_mem (i := 11) (v := .slice (some ⟨U7.heap.size, 0, none⟩) 2 2) (w' := WP) (some 30) rfl rfl rfl (by rw [hWP]; go_simp) ?_
          refine ⟨SP, ?_⟩
          refine held_enter (i := 12) (some 31) (f := 127) (args := #[.agg #[.int .i64 p, .slice ad ds.length cap, .slice am ms.length capm], .agg #[.int .i64 p, .slice ad2 ds2.length cap2, .slice am2 ms2.length capm2], .int .i64 0, .slice (some ⟨U7.heap.size, 0, none⟩) 2 2]) (by kernel_rfl) rfl rfl rfl (by kernel_rfl) hcon ?_ (fun c w' h => by obtain ⟨_, h, _⟩ := h; cases h) (fun w' h => by obtain ⟨_, h, _⟩ := h; cases h)
          rintro eF WF ⟨uF, heF, hrF, hbF⟩
          injection heF with heF
          subst heF
          have SF : Below W4.heap.size W4 WF := SP.trans (hbF.mono SP.size)
          have HWF := Lib.hid (HC1.out WF (HC4.out WF SF))
          have hz1 : w.heap.size ≤ WP.heap.size := (HB01.out.trans ((HC4.out WP SP).mono HB01.out.size)).size
          have HRF := Lib.hid (hrF.wider hz1 (Nat.le_refl _))
          refine ⟨SF, ?_⟩
          obtain ⟨auF, cuF, hsF⟩ := hrF.shape
          obtain ⟨nF, hnF⟩ : ∃ n, n = (famL ds.length (rsF ds) (csF ds2 0) (afZ p k fs gs)).length := ⟨_, rfl⟩
          rw [← hnF] at hsF
          subst hsF
          refine held_take (i := 13) (v := .slice auF nF cuF) (some 10) rfl rfl (by kernel_rfl) (by kernel_rfl) (by kernel_rfl) (fun _ _ _ h => h) (yieldsIf_assign (by kernel_rfl) rfl (by kernel_rfl)) SF ?_
          refine wpAnyH_done (by kernel_rfl) ?_ _
          simp only [Act.put, List.setIfInBounds_toArray, List.set_cons_zero, List.set_cons_succ]
          clear hcon hXY p0 p1 p2 p3 hWP hrF hbF
          go_wp2
          go_ret
          exact ⟨_, rfl, HRF.out, HWF.out.1.below⟩
      · obtain ⟨U8, hU8⟩ : ∃ W', W' = W4.drew.alloc (.cells #[.func (.func 122) #[.agg #[.int .i64 p, .slice ad2 ds2.length cap2, .slice am2 ms2.length capm2, .int .i64 0, .slice ag gs.length cg]] #[]] 121) := ⟨_, rfl⟩
        have hb8 : Below W4.drew.heap.size W4.drew U8 := by rw [hU8]; exact below_alloc1 _ _
        have hcB8 : U8.cell? ⟨W4.drew.heap.size, 0, none⟩ = some (.func (.func 122) #[.agg #[.int .i64 p, .slice ad2 ds2.length cap2, .slice am2 ms2.length capm2, .int .i64 0, .slice ag gs.length cg]] #[]) := by rw [hU8]; exact cell_new1 _ _ _
        have S8 : Below W4.heap.size W4 U8 := S0.trans (hb8.mono S0.size)
        refine op_mem (i := 9) (v := .slice (some ⟨W4.drew.heap.size, 0, none⟩) 1 1) (w' := U8) (some 28) rfl rfl rfl (by rw [hU8]; go_simp) ?_
        refine ⟨S8, ?_⟩
        refine held_one (i := 4) (by kernel_rfl) ?_
        obtain ⟨U9, hU9⟩ : ∃ W', W' = U8.alloc (.cells #[.func (.func 122) #[.agg #[.int .i64 p, .slice ad2 ds2.length cap2, .slice am2 ms2.length capm2, .int .i64 0, .slice af fs.length cf]] #[]] 121) := ⟨_, rfl⟩
        have hb9 : Below U8.heap.size U8 U9 := by rw [hU9]; exact below_alloc1 _ _
        have hcA9 : U9.cell? ⟨U8.heap.size, 0, none⟩ = some (.func (.func 122) #[.agg #[.int .i64 p, .slice ad2 ds2.length cap2, .slice am2 ms2.length capm2, .int .i64 0, .slice af fs.length cf]] #[]) := by rw [hU9]; exact cell_new1 _ _ _
        have S9 : Below W4.heap.size W4 U9 := S8.trans (hb9.mono S8.size)
        have hcB9 := later hb9 (Nat.le_refl _) hcB8
        refine op_mem (i := 4) (v := .slice (some ⟨U8.heap.size, 0, none⟩) 1 1) (w' := U9) (some 23) rfl rfl rfl (by rw [hU9]; go_simp) ?_
        refine ⟨S9, ?_⟩
        refine held_one (i := 5) (by kernel_rfl) ?_
        refine op_enter (i := 5) (some 24) (f := 128) (args := #[.int .i64 1, .slice (some ⟨U8.heap.size, 0, none⟩) 1 1]) rfl rfl rfl (by kernel_rfl) (along_any _ _ 1 1 U9) ?_ (fun c w' h => by cases h.1) (fun w' h => by cases h.1)
        rintro e10 U10 ⟨he10, hb10⟩
        injection he10 with he10
        subst he10
        have S10 : Below W4.heap.size W4 U10 := S9.trans (hb10.mono S9.size)
        have hcB10 := later hb10 (Nat.le_refl _) hcB9
        have hcA10 := later hb10 (Nat.le_refl _) hcA9
        refine ⟨S10, ?_⟩
        refine held_one (i := 10) (by kernel_rfl) ?_
        refine op_enter (i := 10) (some 29) (f := 128) (args := #[.int .i64 k, .slice (some ⟨W4.drew.heap.size, 0, none⟩) 1 1]) rfl rfl rfl (by kernel_rfl) (along_any _ _ 1 1 U10) ?_ (fun c w' h => by cases h.1) (fun w' h => by cases h.1)
        rintro e11 U11 ⟨he11, hb11⟩
        injection he11 with he11
        subst he11
        have S11 : Below W4.heap.size W4 U11 := S10.trans (hb11.mono S10.size)
        have hcB11 := later hb11 (Nat.le_refl _) hcB10
        have hcA11 := later hb11 (Nat.le_refl _) hcA10
        refine ⟨S11, ?_⟩
        obtain ⟨WP, hWP⟩ : ∃ W', W' = U11.alloc (.cells #[.int .i64 1, .slice (some ⟨U8.heap.size, 0, none⟩) 1 1, .int .i64 k, .slice (some ⟨W4.drew.heap.size, 0, none⟩) 1 1] 129) := ⟨_, rfl⟩
        have hbP : Below U11.heap.size U11 WP := by rw [hWP]; exact below_alloc1 _ _
        have SP : Below W4.heap.size W4 WP := S11.trans (hbP.mono S11.size)
        have p0 : WP.cell? ⟨U11.heap.size, 0, none⟩ = some (.int .i64 1) := by rw [hWP]; simp
        have p1 : WP.cell? ⟨U11.heap.size, 1, none⟩ = some (.slice (some ⟨U8.heap.size, 0, none⟩) 1 1) := by rw [hWP]; simp
        have p2 : WP.cell? ⟨U11.heap.size, 2, none⟩ = some (.int .i64 k) := by rw [hWP]; simp
        have p3 : WP.cell? ⟨U11.heap.size, 3, none⟩ = some (.slice (some ⟨W4.drew.heap.size, 0, none⟩) 1 1) := by rw [hWP]; simp
        have hXY := HC1.out WP (HC4.out WP SP)
        have hcon := paths2_any p k U11.heap.size U8.heap.size W4.drew.heap.size _ _ _ _ _ _ ds ms ds2 ms2 fs gs WP hXY.1.cx hXY.2.cx (HF1.out.below (HC4.out WP SP)) (HG1.out.below (HC4.out WP SP)) HCX.out HCY.out HOF.out HOG.out hk p0 p1 p2 p3 (later hbP (Nat.le_refl _) hcA11) (later hbP (Nat.le_refl _) hcB11)
        refine held_one (i := 11) (by kernel_rfl) ?_
        refine op_mem (i := 11) (v := .slice (some ⟨U11.heap.size, 0, none⟩) 2 2) (w' := WP) (some 30) rfl rfl rfl (by rw [hWP]; go_simp) ?_
        refine ⟨SP, ?_⟩
        refine held_enter (i := 12) (some 31) (f := 127) (args := #[.agg #[.int .i64 p, .slice ad ds.length cap, .slice am ms.length capm], .agg #[.int .i64 p, .slice ad2 ds2.length cap2, .slice am2 ms2.length capm2], .int .i64 0, .slice (some ⟨U11.heap.size, 0, none⟩) 2 2]) (by kernel_rfl) rfl rfl rfl (by kernel_rfl) hcon ?_ (fun c w' h => by obtain ⟨_, h, _⟩ := h; cases h) (fun w' h => by obtain ⟨_, h, _⟩ := h; cases h)
        rintro eF WF ⟨uF, heF, hrF, hbF⟩
        injection heF with heF
        subst heF
        have SF : Below W4.heap.size W4 WF := SP.trans (hbF.mono SP.size)
        have HWF := Lib.hid (HC1.out WF (HC4.out WF SF))
        have hz1 : w.heap.size ≤ WP.heap.size := (HB01.out.trans ((HC4.out WP SP).mono HB01.out.size)).size
        have HRF := Lib.hid (hrF.wider hz1 (Nat.le_refl _))
        refine ⟨SF, ?_⟩
        obtain ⟨auF, cuF, hsF⟩ := hrF.shape
        obtain ⟨nF, hnF⟩ : ∃ n, n = (famL ds.length (rsF ds) (csF ds2 0) (afZ p k fs gs)).length := ⟨_, rfl⟩
        rw [← hnF] at hsF
        subst hsF
        refine held_take (i := 13) (v := .slice auF nF cuF) (some 10) rfl rfl (by kernel_rfl) (by kernel_rfl) (by kernel_rfl) (fun _ _ _ h => h) (yieldsIf_assign (by kernel_rfl) rfl (by kernel_rfl)) SF ?_
        refine wpAnyH_done (by kernel_rfl) ?_ _
        simp only [Act.put, List.setIfInBounds_toArray, List.set_cons_zero, List.set_cons_succ]
        clear hcon hXY p0 p1 p2 p3 hWP hrF hbF
        go_wp2
        go_ret
        exact ⟨_, rfl, HRF.out, HWF.out.1.below⟩
end Go.Proofs.Ytpdkfidmmjlmnab
