/-
  The order of bars by contract: impl.compareBars.
-/
import Derived.Test.YtchijefibiaphaaBrk
import Derived.Test.YtchijefibiaphaaStx
namespace Go.Proofs.Ytchijefibiaphaa
open Go.RowKit Go.Sort

theorem Gr.drewN1 (w : World) : Gr w { w with drawn := w.drawn + 1 } := ⟨1, #[], by simp only [grow, Array.append_empty]; rfl⟩
theorem hloadB0 (w : World) {b : Nat} {x y z : Value} (c0 : w.cell? ⟨b, 0, none⟩ = some x) (c1 : w.cell? ⟨b, 1, none⟩ = some y) (c2 : w.cell? ⟨b, 2, none⟩ = some z) : (Instr.loadAt 53 (.pointer (some ⟨b, 0, none⟩))).run Try.prog w = .ok (.agg #[x, y, z]) w := by go_simp
set_option maxHeartbeats 3200000 in
set_option maxRecDepth 100000 in
theorem compareBarsLL_any (a b d a2 b2 d2 : Int) (h1 : d = -1) (h2 : d2 = -1) (w : World) : Calls Try.prog 76 #[bvl (a, b, d), bvl (a2, b2, d2)] w (GrR (.int .i64 (cmp3 (a, b, d) (a2, b2, d2))) w) := by
  have HK1 := Lib.hid (kindOf_any (a, b, d))
  have HK2 := Lib.hid (kindOf_any (a2, b2, d2))
  rw [kv_lasts h1] at HK1
  rw [kv_lasts h2] at HK2
  obtain ⟨e1, he1⟩ : ∃ e, e = bk (a, b, d) := ⟨_, rfl⟩
  obtain ⟨e2, he2⟩ : ∃ e, e = bk (a2, b2, d2) := ⟨_, rfl⟩
  have HO1 : Hid (∀ w, Calls Try.prog 202 #[bvl (a, b, d)] w (GrR (.int .i64 e1) w)) := Lib.hid (fun w => by rw [he1]; unfold bk; rw [if_pos h1]; exact deathOrderL_any _ w)
  have HO2 : Hid (∀ w, Calls Try.prog 202 #[bvl (a2, b2, d2)] w (GrR (.int .i64 e2) w)) := Lib.hid (fun w => by rw [he2]; unfold bk; rw [if_pos h2]; exact deathOrderL_any _ w)
  have HR : Hid (or3 (cmpZ a a2) (cmpZ b b2) (cmpZ e1 e2) = cmp3 (a, b, d) (a2, b2, d2)) := Lib.hid (by rw [he1, he2]; exact or3_cmp (a, b, d) (a2, b2, d2))
  clear h1 h2 he1 he2
  unfold bvl at *
  dsimp only at *
  obtain ⟨w1, hw1⟩ : ∃ w1 : World, w1 = (w.alloc (.cells #[.int .i64 a, .int .i64 b, .int .i64 d] 53)).alloc (.cells #[.int .i64 a2, .int .i64 b2, .int .i64 d2] 53) := ⟨_, rfl⟩
  have HG : Hid (Gr w w1) := Lib.hid (by rw [hw1]; exact (Gr.alloc _ _).trans (Gr.alloc _ _))
  have HA0 : Hid (w1.cell? ⟨w.heap.size, 0, none⟩ = some (.int .i64 a)) := Lib.hid (by rw [hw1]; simp)
  have HA1 : Hid (w1.cell? ⟨w.heap.size, 1, none⟩ = some (.int .i64 b)) := Lib.hid (by rw [hw1]; simp)
  have HA2 : Hid (w1.cell? ⟨w.heap.size, 2, none⟩ = some (.int .i64 d)) := Lib.hid (by rw [hw1]; simp)
  have HB0 : Hid (w1.cell? ⟨w.heap.size + 1, 0, none⟩ = some (.int .i64 a2)) := Lib.hid (by rw [hw1]; simp)
  have HB1 : Hid (w1.cell? ⟨w.heap.size + 1, 1, none⟩ = some (.int .i64 b2)) := Lib.hid (by rw [hw1]; simp)
  have HB2 : Hid (w1.cell? ⟨w.heap.size + 1, 2, none⟩ = some (.int .i64 d2)) := Lib.hid (by rw [hw1]; simp)
  go_enter Try.func76, Try.ntmps76
  go_upto_region 1 with fail
  rw [← hw1]
  clear hw1
  refine wp_region_held (S := fun W => Gr w1 W) (by kernel_rfl) ?_
  have S0 := Gr.drewN1 w1
  obtain ⟨wd, hwd⟩ : ∃ wd : World, wd = { w1 with drawn := w1.drawn + 1 } := ⟨_, rfl⟩
  rw [← hwd] at S0 ⊢
  clear hwd
  refine held_take (i := 0) (v := .pointer (some ⟨w.heap.size, 0, none⟩)) (some 5) rfl rfl (by kernel_rfl) (by kernel_rfl) (by kernel_rfl) (fun _ _ _ h => h) (yieldsIf_run (by kernel_rfl) (fun W _ => by kernel_rfl)) S0 ?_
  refine held_take (i := 1) (v := .int .i64 a) (some 6) rfl rfl (by kernel_rfl) (by kernel_rfl) (by kernel_rfl) (fun _ _ _ h => h) (yieldsIf_cell (by kernel_rfl) rfl (by kernel_rfl) (fun W h => hload W (later (Gr.below h) (Nat.le_refl _) HA0.out))) S0 ?_
  refine held_take (i := 2) (v := .pointer (some ⟨w.heap.size + 1, 0, none⟩)) (some 7) rfl rfl (by kernel_rfl) (by kernel_rfl) (by kernel_rfl) (fun _ _ _ h => h) (yieldsIf_run (by kernel_rfl) (fun W _ => by kernel_rfl)) S0 ?_
  refine held_take (i := 3) (v := .int .i64 a2) (some 8) rfl rfl (by kernel_rfl) (by kernel_rfl) (by kernel_rfl) (fun _ _ _ h => h) (yieldsIf_cell (by kernel_rfl) rfl (by kernel_rfl) (fun W h => hload W (later (Gr.below h) (Nat.le_refl _) HB0.out))) S0 ?_
  refine held_take (i := 5) (v := .pointer (some ⟨w.heap.size, 1, none⟩)) (some 10) rfl rfl (by kernel_rfl) (by kernel_rfl) (by kernel_rfl) (fun _ _ _ h => h) (yieldsIf_run (by kernel_rfl) (fun W _ => by kernel_rfl)) S0 ?_
  refine held_take (i := 6) (v := .int .i64 b) (some 11) rfl rfl (by kernel_rfl) (by kernel_rfl) (by kernel_rfl) (fun _ _ _ h => h) (yieldsIf_cell (by kernel_rfl) rfl (by kernel_rfl) (fun W h => hload W (later (Gr.below h) (Nat.le_refl _) HA1.out))) S0 ?_
  refine held_take (i := 7) (v := .pointer (some ⟨w.heap.size + 1, 1, none⟩)) (some 12) rfl rfl (by kernel_rfl) (by kernel_rfl) (by kernel_rfl) (fun _ _ _ h => h) (yieldsIf_run (by kernel_rfl) (fun W _ => by kernel_rfl)) S0 ?_
  refine held_take (i := 8) (v := .int .i64 b2) (some 13) rfl rfl (by kernel_rfl) (by kernel_rfl) (by kernel_rfl) (fun _ _ _ h => h) (yieldsIf_cell (by kernel_rfl) rfl (by kernel_rfl) (fun W h => hload W (later (Gr.below h) (Nat.le_refl _) HB1.out))) S0 ?_
  refine held_take (i := 10) (v := .agg #[.int .i64 a, .int .i64 b, .int .i64 d]) (some 15) rfl rfl (by kernel_rfl) (by kernel_rfl) (by kernel_rfl) (fun _ _ _ h => h) (yieldsIf_cell (by kernel_rfl) rfl (by kernel_rfl) (fun W h => hloadB0 W (later (Gr.below h) (Nat.le_refl _) HA0.out) (later (Gr.below h) (Nat.le_refl _) HA1.out) (later (Gr.below h) (Nat.le_refl _) HA2.out))) S0 ?_
  refine held_take (i := 13) (v := .agg #[.int .i64 a2, .int .i64 b2, .int .i64 d2]) (some 18) rfl rfl (by kernel_rfl) (by kernel_rfl) (by kernel_rfl) (fun _ _ _ h => h) (yieldsIf_cell (by kernel_rfl) rfl (by kernel_rfl) (fun W h => hloadB0 W (later (Gr.below h) (Nat.le_refl _) HB0.out) (later (Gr.below h) (Nat.le_refl _) HB1.out) (later (Gr.below h) (Nat.le_refl _) HB2.out))) S0 ?_
  refine held_enter (i := 4) (some 9) (f := 111) (args := #[.int .i64 a, .int .i64 a2]) (by kernel_rfl) rfl rfl rfl (by kernel_rfl) (compare_any a a2 _) ?_ (fun c w' h => by cases h.1) (fun w' h => by cases h.1)
  rintro v w' ⟨he, hw⟩
  injection he with he
  subst he hw
  refine ⟨S0, ?_⟩
  refine held_enter (i := 9) (some 14) (f := 111) (args := #[.int .i64 b, .int .i64 b2]) (by kernel_rfl) rfl rfl rfl (by kernel_rfl) (compare_any b b2 _) ?_ (fun c w' h => by cases h.1) (fun w' h => by cases h.1)
  rintro v w' ⟨he, hw⟩
  injection he with he
  subst he hw
  refine ⟨S0, ?_⟩
  refine held_enter (i := 11) (some 16) (f := 79) (args := #[.agg #[.int .i64 a, .int .i64 b, .int .i64 d]]) (by kernel_rfl) rfl rfl rfl (by kernel_rfl) (HK1.out _) ?_ (fun c w' h => by cases h.1) (fun w' h => by cases h.1)
  rintro v w2k ⟨he, hg⟩
  injection he with he
  subst he
  have S1 := S0.trans hg
  clear hg
  refine ⟨S1, ?_⟩
  refine held_enter (i := 12) (some 17) (f := 202) (args := #[.agg #[.int .i64 a, .int .i64 b, .int .i64 d]]) (by kernel_rfl) rfl rfl rfl (by kernel_rfl) (HO1.out _) ?_ (fun c w' h => by cases h.1) (fun w' h => by cases h.1)
  rintro v w3k ⟨he, hg⟩
  injection he with he
  subst he
  have S2 := S1.trans hg
  clear hg
  refine ⟨S2, ?_⟩
  refine held_enter (i := 14) (some 19) (f := 79) (args := #[.agg #[.int .i64 a2, .int .i64 b2, .int .i64 d2]]) (by kernel_rfl) rfl rfl rfl (by kernel_rfl) (HK2.out _) ?_ (fun c w' h => by cases h.1) (fun w' h => by cases h.1)
  rintro v w4k ⟨he, hg⟩
  injection he with he
  subst he
  have S3 := S2.trans hg
  clear hg
  refine ⟨S3, ?_⟩
  refine held_enter (i := 15) (some 20) (f := 202) (args := #[.agg #[.int .i64 a2, .int .i64 b2, .int .i64 d2]]) (by kernel_rfl) rfl rfl rfl (by kernel_rfl) (HO2.out _) ?_ (fun c w' h => by cases h.1) (fun w' h => by cases h.1)
  rintro v w5k ⟨he, hg⟩
  injection he with he
  subst he
  have S4 := S3.trans hg
  clear hg
  refine ⟨S4, ?_⟩
  refine held_enter (i := 16) (some 21) (f := 111) (args := #[.int .i64 e1, .int .i64 e2]) (by kernel_rfl) rfl rfl rfl (by kernel_rfl) (compare_any e1 e2 _) ?_ (fun c w' h => by cases h.1) (fun w' h => by cases h.1)
  rintro v w' ⟨he, hw⟩
  injection he with he
  subst he hw
  refine ⟨S4, ?_⟩
  obtain ⟨wn, hwn⟩ : ∃ wn : World, wn = w5k.alloc (.cells #[.int .i64 (cmpZ a a2), .int .i64 (cmpZ b b2), .int .i64 (cmpZ e1 e2)] 3) := ⟨_, rfl⟩
  have Sn : Gr w1 wn := S4.trans (by rw [hwn]; exact Gr.alloc _ _)
  have n0 : wn.cell? ⟨w5k.heap.size, 0, none⟩ = some (.int .i64 (cmpZ a a2)) := by rw [hwn]; simp
  have n1 : wn.cell? ⟨w5k.heap.size, 1, none⟩ = some (.int .i64 (cmpZ b b2)) := by rw [hwn]; simp
  have n2 : wn.cell? ⟨w5k.heap.size, 2, none⟩ = some (.int .i64 (cmpZ e1 e2)) := by rw [hwn]; simp
  refine held_mem (i := 17) (v := .slice (some ⟨w5k.heap.size, 0, none⟩) 3 3) (w' := wn) (some 22) (by kernel_rfl) rfl rfl rfl (by rw [hwn]; go_simp) Sn ?_
  simp only [Act.put, List.setIfInBounds_toArray, List.set_cons_zero, List.set_cons_succ]
  refine held_enter (i := 18) (some 23) (f := 110) (args := #[.slice (some ⟨w5k.heap.size, 0, none⟩) 3 3]) (by kernel_rfl) rfl rfl rfl (by kernel_rfl) (or3_any _ _ _ w5k.heap.size wn n0 n1 n2) ?_ (fun c w' h => by cases h.1) (fun w' h => by cases h.1)
  rintro v w' ⟨he, hw⟩
  injection he with he
  subst he hw
  refine ⟨Sn, ?_⟩
  refine held_take (i := 19) (v := .int .i64 (or3 (cmpZ a a2) (cmpZ b b2) (cmpZ e1 e2))) (some 4) rfl rfl (by kernel_rfl) (by kernel_rfl) (by kernel_rfl) (fun _ _ _ h => h) (yieldsIf_run (by kernel_rfl) (fun W _ => by kernel_rfl)) Sn ?_
  refine wpAnyH_done (by kernel_rfl) ?_ _
  simp only [Act.put, List.setIfInBounds_toArray, List.set_cons_zero, List.set_cons_succ]
  clear n0 n1 n2 hwn
  go_wp2
  go_ret
  exact ⟨congrArg (fun z => Ending.returned (.int .i64 z)) HR.out, HG.out.trans Sn⟩
set_option maxHeartbeats 3200000 in
set_option maxRecDepth 100000 in
theorem compareBarsLE_any (a b d a2 b2 d2 : Int) (h1 : d = -1) (h2 : ¬ d2 = -1) (w : World) : Calls Try.prog 76 #[bvl (a, b, d), bvl (a2, b2, d2)] w (GrR (.int .i64 (cmp3 (a, b, d) (a2, b2, d2))) w) := by
  have HK1 := Lib.hid (kindOf_any (a, b, d))
  have HK2 := Lib.hid (kindOf_any (a2, b2, d2))
  rw [kv_lasts h1] at HK1
  rw [kv_ends h2] at HK2
  obtain ⟨e1, he1⟩ : ∃ e, e = bk (a, b, d) := ⟨_, rfl⟩
  obtain ⟨e2, he2⟩ : ∃ e, e = bk (a2, b2, d2) := ⟨_, rfl⟩
  have HO1 : Hid (∀ w, Calls Try.prog 202 #[bvl (a, b, d)] w (GrR (.int .i64 e1) w)) := Lib.hid (fun w => by rw [he1]; unfold bk; rw [if_pos h1]; exact deathOrderL_any _ w)
  have HO2 : Hid (∀ w, Calls Try.prog 208 #[bvl (a2, b2, d2)] w (GrR (.int .i64 e2) w)) := Lib.hid (fun w => by rw [he2]; unfold bk; rw [if_neg h2]; exact deathOrderE_any _ w)
  have HR : Hid (or3 (cmpZ a a2) (cmpZ b b2) (cmpZ e1 e2) = cmp3 (a, b, d) (a2, b2, d2)) := Lib.hid (by rw [he1, he2]; exact or3_cmp (a, b, d) (a2, b2, d2))
  clear h1 h2 he1 he2
  unfold bvl at *
  dsimp only at *
  obtain ⟨w1, hw1⟩ : ∃ w1 : World, w1 = (w.alloc (.cells #[.int .i64 a, .int .i64 b, .int .i64 d] 53)).alloc (.cells #[.int .i64 a2, .int .i64 b2, .int .i64 d2] 53) := ⟨_, rfl⟩
  have HG : Hid (Gr w w1) := Lib.hid (by rw [hw1]; exact (Gr.alloc _ _).trans (Gr.alloc _ _))
  have HA0 : Hid (w1.cell? ⟨w.heap.size, 0, none⟩ = some (.int .i64 a)) := Lib.hid (by rw [hw1]; simp)
  have HA1 : Hid (w1.cell? ⟨w.heap.size, 1, none⟩ = some (.int .i64 b)) := Lib.hid (by rw [hw1]; simp)
  have HA2 : Hid (w1.cell? ⟨w.heap.size, 2, none⟩ = some (.int .i64 d)) := Lib.hid (by rw [hw1]; simp)
  have HB0 : Hid (w1.cell? ⟨w.heap.size + 1, 0, none⟩ = some (.int .i64 a2)) := Lib.hid (by rw [hw1]; simp)
  have HB1 : Hid (w1.cell? ⟨w.heap.size + 1, 1, none⟩ = some (.int .i64 b2)) := Lib.hid (by rw [hw1]; simp)
  have HB2 : Hid (w1.cell? ⟨w.heap.size + 1, 2, none⟩ = some (.int .i64 d2)) := Lib.hid (by rw [hw1]; simp)
  go_enter Try.func76, Try.ntmps76
  go_upto_region 1 with fail
  rw [← hw1]
  clear hw1
  refine wp_region_held (S := fun W => Gr w1 W) (by kernel_rfl) ?_
  have S0 := Gr.drewN1 w1
  obtain ⟨wd, hwd⟩ : ∃ wd : World, wd = { w1 with drawn := w1.drawn + 1 } := ⟨_, rfl⟩
  rw [← hwd] at S0 ⊢
  clear hwd
  refine held_take (i := 0) (v := .pointer (some ⟨w.heap.size, 0, none⟩)) (some 5) rfl rfl (by kernel_rfl) (by kernel_rfl) (by kernel_rfl) (fun _ _ _ h => h) (yieldsIf_run (by kernel_rfl) (fun W _ => by kernel_rfl)) S0 ?_
  refine held_take (i := 1) (v := .int .i64 a) (some 6) rfl rfl (by kernel_rfl) (by kernel_rfl) (by kernel_rfl) (fun _ _ _ h => h) (yieldsIf_cell (by kernel_rfl) rfl (by kernel_rfl) (fun W h => hload W (later (Gr.below h) (Nat.le_refl _) HA0.out))) S0 ?_
  refine held_take (i := 2) (v := .pointer (some ⟨w.heap.size + 1, 0, none⟩)) (some 7) rfl rfl (by kernel_rfl) (by kernel_rfl) (by kernel_rfl) (fun _ _ _ h => h) (yieldsIf_run (by kernel_rfl) (fun W _ => by kernel_rfl)) S0 ?_
  refine held_take (i := 3) (v := .int .i64 a2) (some 8) rfl rfl (by kernel_rfl) (by kernel_rfl) (by kernel_rfl) (fun _ _ _ h => h) (yieldsIf_cell (by kernel_rfl) rfl (by kernel_rfl) (fun W h => hload W (later (Gr.below h) (Nat.le_refl _) HB0.out))) S0 ?_
  refine held_take (i := 5) (v := .pointer (some ⟨w.heap.size, 1, none⟩)) (some 10) rfl rfl (by kernel_rfl) (by kernel_rfl) (by kernel_rfl) (fun _ _ _ h => h) (yieldsIf_run (by kernel_rfl) (fun W _ => by kernel_rfl)) S0 ?_
  refine held_take (i := 6) (v := .int .i64 b) (some 11) rfl rfl (by kernel_rfl) (by kernel_rfl) (by kernel_rfl) (fun _ _ _ h => h) (yieldsIf_cell (by kernel_rfl) rfl (by kernel_rfl) (fun W h => hload W (later (Gr.below h) (Nat.le_refl _) HA1.out))) S0 ?_
  refine held_take (i := 7) (v := .pointer (some ⟨w.heap.size + 1, 1, none⟩)) (some 12) rfl rfl (by kernel_rfl) (by kernel_rfl) (by kernel_rfl) (fun _ _ _ h => h) (yieldsIf_run (by kernel_rfl) (fun W _ => by kernel_rfl)) S0 ?_
  refine held_take (i := 8) (v := .int .i64 b2) (some 13) rfl rfl (by kernel_rfl) (by kernel_rfl) (by kernel_rfl) (fun _ _ _ h => h) (yieldsIf_cell (by kernel_rfl) rfl (by kernel_rfl) (fun W h => hload W (later (Gr.below h) (Nat.le_refl _) HB1.out))) S0 ?_
  refine held_take (i := 10) (v := .agg #[.int .i64 a, .int .i64 b, .int .i64 d]) (some 15) rfl rfl (by kernel_rfl) (by kernel_rfl) (by kernel_rfl) (fun _ _ _ h => h) (yieldsIf_cell (by kernel_rfl) rfl (by kernel_rfl) (fun W h => hloadB0 W (later (Gr.below h) (Nat.le_refl _) HA0.out) (later (Gr.below h) (Nat.le_refl _) HA1.out) (later (Gr.below h) (Nat.le_refl _) HA2.out))) S0 ?_
  refine held_take (i := 13) (v := .agg #[.int .i64 a2, .int .i64 b2, .int .i64 d2]) (some 18) rfl rfl (by kernel_rfl) (by kernel_rfl) (by kernel_rfl) (fun _ _ _ h => h) (yieldsIf_cell (by kernel_rfl) rfl (by kernel_rfl) (fun W h => hloadB0 W (later (Gr.below h) (Nat.le_refl _) HB0.out) (later (Gr.below h) (Nat.le_refl _) HB1.out) (later (Gr.below h) (Nat.le_refl _) HB2.out))) S0 ?_
  refine held_enter (i := 4) (some 9) (f := 111) (args := #[.int .i64 a, .int .i64 a2]) (by kernel_rfl) rfl rfl rfl (by kernel_rfl) (compare_any a a2 _) ?_ (fun c w' h => by cases h.1) (fun w' h => by cases h.1)
  rintro v w' ⟨he, hw⟩
  injection he with he
  subst he hw
  refine ⟨S0, ?_⟩
  refine held_enter (i := 9) (some 14) (f := 111) (args := #[.int .i64 b, .int .i64 b2]) (by kernel_rfl) rfl rfl rfl (by kernel_rfl) (compare_any b b2 _) ?_ (fun c w' h => by cases h.1) (fun w' h => by cases h.1)
  rintro v w' ⟨he, hw⟩
  injection he with he
  subst he hw
  refine ⟨S0, ?_⟩
  refine held_enter (i := 11) (some 16) (f := 79) (args := #[.agg #[.int .i64 a, .int .i64 b, .int .i64 d]]) (by kernel_rfl) rfl rfl rfl (by kernel_rfl) (HK1.out _) ?_ (fun c w' h => by cases h.1) (fun w' h => by cases h.1)
  rintro v w2k ⟨he, hg⟩
  injection he with he
  subst he
  have S1 := S0.trans hg
  clear hg
  refine ⟨S1, ?_⟩
  refine held_enter (i := 12) (some 17) (f := 202) (args := #[.agg #[.int .i64 a, .int .i64 b, .int .i64 d]]) (by kernel_rfl) rfl rfl rfl (by kernel_rfl) (HO1.out _) ?_ (fun c w' h => by cases h.1) (fun w' h => by cases h.1)
  rintro v w3k ⟨he, hg⟩
  injection he with he
  subst he
  have S2 := S1.trans hg
  clear hg
  refine ⟨S2, ?_⟩
  refine held_enter (i := 14) (some 19) (f := 79) (args := #[.agg #[.int .i64 a2, .int .i64 b2, .int .i64 d2]]) (by kernel_rfl) rfl rfl rfl (by kernel_rfl) (HK2.out _) ?_ (fun c w' h => by cases h.1) (fun w' h => by cases h.1)
  rintro v w4k ⟨he, hg⟩
  injection he with he
  subst he
  have S3 := S2.trans hg
  clear hg
  refine ⟨S3, ?_⟩
  refine held_enter (i := 15) (some 20) (f := 208) (args := #[.agg #[.int .i64 a2, .int .i64 b2, .int .i64 d2]]) (by kernel_rfl) rfl rfl rfl (by kernel_rfl) (HO2.out _) ?_ (fun c w' h => by cases h.1) (fun w' h => by cases h.1)
  rintro v w5k ⟨he, hg⟩
  injection he with he
  subst he
  have S4 := S3.trans hg
  clear hg
  refine ⟨S4, ?_⟩
  refine held_enter (i := 16) (some 21) (f := 111) (args := #[.int .i64 e1, .int .i64 e2]) (by kernel_rfl) rfl rfl rfl (by kernel_rfl) (compare_any e1 e2 _) ?_ (fun c w' h => by cases h.1) (fun w' h => by cases h.1)
  rintro v w' ⟨he, hw⟩
  injection he with he
  subst he hw
  refine ⟨S4, ?_⟩
  obtain ⟨wn, hwn⟩ : ∃ wn : World, wn = w5k.alloc (.cells #[.int .i64 (cmpZ a a2), .int .i64 (cmpZ b b2), .int .i64 (cmpZ e1 e2)] 3) := ⟨_, rfl⟩
  have Sn : Gr w1 wn := S4.trans (by rw [hwn]; exact Gr.alloc _ _)
  have n0 : wn.cell? ⟨w5k.heap.size, 0, none⟩ = some (.int .i64 (cmpZ a a2)) := by rw [hwn]; simp
  have n1 : wn.cell? ⟨w5k.heap.size, 1, none⟩ = some (.int .i64 (cmpZ b b2)) := by rw [hwn]; simp
  have n2 : wn.cell? ⟨w5k.heap.size, 2, none⟩ = some (.int .i64 (cmpZ e1 e2)) := by rw [hwn]; simp
  refine held_mem (i := 17) (v := .slice (some ⟨w5k.heap.size, 0, none⟩) 3 3) (w' := wn) (some 22) (by kernel_rfl) rfl rfl rfl (by rw [hwn]; go_simp) Sn ?_
  simp only [Act.put, List.setIfInBounds_toArray, List.set_cons_zero, List.set_cons_succ]
  refine held_enter (i := 18) (some 23) (f := 110) (args := #[.slice (some ⟨w5k.heap.size, 0, none⟩) 3 3]) (by kernel_rfl) rfl rfl rfl (by kernel_rfl) (or3_any _ _ _ w5k.heap.size wn n0 n1 n2) ?_ (fun c w' h => by cases h.1) (fun w' h => by cases h.1)
  rintro v w' ⟨he, hw⟩
  injection he with he
  subst he hw
  refine ⟨Sn, ?_⟩
  refine held_take (i := 19) (v := .int .i64 (or3 (cmpZ a a2) (cmpZ b b2) (cmpZ e1 e2))) (some 4) rfl rfl (by kernel_rfl) (by kernel_rfl) (by kernel_rfl) (fun _ _ _ h => h) (yieldsIf_run (by kernel_rfl) (fun W _ => by kernel_rfl)) Sn ?_
  refine wpAnyH_done (by kernel_rfl) ?_ _
  simp only [Act.put, List.setIfInBounds_toArray, List.set_cons_zero, List.set_cons_succ]
  clear n0 n1 n2 hwn
  go_wp2
  go_ret
  exact ⟨congrArg (fun z => Ending.returned (.int .i64 z)) HR.out, HG.out.trans Sn⟩
set_option maxHeartbeats 3200000 in
set_option maxRecDepth 100000 in
theorem compareBarsEL_any (a b d a2 b2 d2 : Int) (h1 : ¬ d = -1) (h2 : d2 = -1) (w : World) : Calls Try.prog 76 #[bvl (a, b, d), bvl (a2, b2, d2)] w (GrR (.int .i64 (cmp3 (a, b, d) (a2, b2, d2))) w) := by
  have HK1 := Lib.hid (kindOf_any (a, b, d))
  have HK2 := Lib.hid (kindOf_any (a2, b2, d2))
  rw [kv_ends h1] at HK1
  rw [kv_lasts h2] at HK2
  obtain ⟨e1, he1⟩ : ∃ e, e = bk (a, b, d) := ⟨_, rfl⟩
  obtain ⟨e2, he2⟩ : ∃ e, e = bk (a2, b2, d2) := ⟨_, rfl⟩
  have HO1 : Hid (∀ w, Calls Try.prog 208 #[bvl (a, b, d)] w (GrR (.int .i64 e1) w)) := Lib.hid (fun w => by rw [he1]; unfold bk; rw [if_neg h1]; exact deathOrderE_any _ w)
  have HO2 : Hid (∀ w, Calls Try.prog 202 #[bvl (a2, b2, d2)] w (GrR (.int .i64 e2) w)) := Lib.hid (fun w => by rw [he2]; unfold bk; rw [if_pos h2]; exact deathOrderL_any _ w)
  have HR : Hid (or3 (cmpZ a a2) (cmpZ b b2) (cmpZ e1 e2) = cmp3 (a, b, d) (a2, b2, d2)) := Lib.hid (by rw [he1, he2]; exact or3_cmp (a, b, d) (a2, b2, d2))
  clear h1 h2 he1 he2
  unfold bvl at *
  dsimp only at *
  obtain ⟨w1, hw1⟩ : ∃ w1 : World, w1 = (w.alloc (.cells #[.int .i64 a, .int .i64 b, .int .i64 d] 53)).alloc (.cells #[.int .i64 a2, .int .i64 b2, .int .i64 d2] 53) := ⟨_, rfl⟩
  have HG : Hid (Gr w w1) := Lib.hid (by rw [hw1]; exact (Gr.alloc _ _).trans (Gr.alloc _ _))
  have HA0 : Hid (w1.cell? ⟨w.heap.size, 0, none⟩ = some (.int .i64 a)) := Lib.hid (by rw [hw1]; simp)
  have HA1 : Hid (w1.cell? ⟨w.heap.size, 1, none⟩ = some (.int .i64 b)) := Lib.hid (by rw [hw1]; simp)
  have HA2 : Hid (w1.cell? ⟨w.heap.size, 2, none⟩ = some (.int .i64 d)) := Lib.hid (by rw [hw1]; simp)
  have HB0 : Hid (w1.cell? ⟨w.heap.size + 1, 0, none⟩ = some (.int .i64 a2)) := Lib.hid (by rw [hw1]; simp)
  have HB1 : Hid (w1.cell? ⟨w.heap.size + 1, 1, none⟩ = some (.int .i64 b2)) := Lib.hid (by rw [hw1]; simp)
  have HB2 : Hid (w1.cell? ⟨w.heap.size + 1, 2, none⟩ = some (.int .i64 d2)) := Lib.hid (by rw [hw1]; simp)
  go_enter Try.func76, Try.ntmps76
  go_upto_region 1 with fail
  rw [← hw1]
  clear hw1
  refine wp_region_held (S := fun W => Gr w1 W) (by kernel_rfl) ?_
  have S0 := Gr.drewN1 w1
  obtain ⟨wd, hwd⟩ : ∃ wd : World, wd = { w1 with drawn := w1.drawn + 1 } := ⟨_, rfl⟩
  rw [← hwd] at S0 ⊢
  clear hwd
  refine held_take (i := 0) (v := .pointer (some ⟨w.heap.size, 0, none⟩)) (some 5) rfl rfl (by kernel_rfl) (by kernel_rfl) (by kernel_rfl) (fun _ _ _ h => h) (yieldsIf_run (by kernel_rfl) (fun W _ => by kernel_rfl)) S0 ?_
  refine held_take (i := 1) (v := .int .i64 a) (some 6) rfl rfl (by kernel_rfl) (by kernel_rfl) (by kernel_rfl) (fun _ _ _ h => h) (yieldsIf_cell (by kernel_rfl) rfl (by kernel_rfl) (fun W h => hload W (later (Gr.below h) (Nat.le_refl _) HA0.out))) S0 ?_
  refine held_take (i := 2) (v := .pointer (some ⟨w.heap.size + 1, 0, none⟩)) (some 7) rfl rfl (by kernel_rfl) (by kernel_rfl) (by kernel_rfl) (fun _ _ _ h => h) (yieldsIf_run (by kernel_rfl) (fun W _ => by kernel_rfl)) S0 ?_
  refine held_take (i := 3) (v := .int .i64 a2) (some 8) rfl rfl (by kernel_rfl) (by kernel_rfl) (by kernel_rfl) (fun _ _ _ h => h) (yieldsIf_cell (by kernel_rfl) rfl (by kernel_rfl) (fun W h => hload W (later (Gr.below h) (Nat.le_refl _) HB0.out))) S0 ?_
  refine held_take (i := 5) (v := .pointer (some ⟨w.heap.size, 1, none⟩)) (some 10) rfl rfl (by kernel_rfl) (by kernel_rfl) (by kernel_rfl) (fun _ _ _ h => h) (yieldsIf_run (by kernel_rfl) (fun W _ => by kernel_rfl)) S0 ?_
  refine held_take (i := 6) (v := .int .i64 b) (some 11) rfl rfl (by kernel_rfl) (by kernel_rfl) (by kernel_rfl) (fun _ _ _ h => h) (yieldsIf_cell (by kernel_rfl) rfl (by kernel_rfl) (fun W h => hload W (later (Gr.below h) (Nat.le_refl _) HA1.out))) S0 ?_
  refine held_take (i := 7) (v := .pointer (some ⟨w.heap.size + 1, 1, none⟩)) (some 12) rfl rfl (by kernel_rfl) (by kernel_rfl) (by kernel_rfl) (fun _ _ _ h => h) (yieldsIf_run (by kernel_rfl) (fun W _ => by kernel_rfl)) S0 ?_
  refine held_take (i := 8) (v := .int .i64 b2) (some 13) rfl rfl (by kernel_rfl) (by kernel_rfl) (by kernel_rfl) (fun _ _ _ h => h) (yieldsIf_cell (by kernel_rfl) rfl (by kernel_rfl) (fun W h => hload W (later (Gr.below h) (Nat.le_refl _) HB1.out))) S0 ?_
  refine held_take (i := 10) (v := .agg #[.int .i64 a, .int .i64 b, .int .i64 d]) (some 15) rfl rfl (by kernel_rfl) (by kernel_rfl) (by kernel_rfl) (fun _ _ _ h => h) (yieldsIf_cell (by kernel_rfl) rfl (by kernel_rfl) (fun W h => hloadB0 W (later (Gr.below h) (Nat.le_refl _) HA0.out) (later (Gr.below h) (Nat.le_refl _) HA1.out) (later (Gr.below h) (Nat.le_refl _) HA2.out))) S0 ?_
  refine held_take (i := 13) (v := .agg #[.int .i64 a2, .int .i64 b2, .int .i64 d2]) (some 18) rfl rfl (by kernel_rfl) (by kernel_rfl) (by kernel_rfl) (fun _ _ _ h => h) (yieldsIf_cell (by kernel_rfl) rfl (by kernel_rfl) (fun W h => hloadB0 W (later (Gr.below h) (Nat.le_refl _) HB0.out) (later (Gr.below h) (Nat.le_refl _) HB1.out) (later (Gr.below h) (Nat.le_refl _) HB2.out))) S0 ?_
  refine held_enter (i := 4) (some 9) (f := 111) (args := #[.int .i64 a, .int .i64 a2]) (by kernel_rfl) rfl rfl rfl (by kernel_rfl) (compare_any a a2 _) ?_ (fun c w' h => by cases h.1) (fun w' h => by cases h.1)
  rintro v w' ⟨he, hw⟩
  injection he with he
  subst he hw
  refine ⟨S0, ?_⟩
  refine held_enter (i := 9) (some 14) (f := 111) (args := #[.int .i64 b, .int .i64 b2]) (by kernel_rfl) rfl rfl rfl (by kernel_rfl) (compare_any b b2 _) ?_ (fun c w' h => by cases h.1) (fun w' h => by cases h.1)
  rintro v w' ⟨he, hw⟩
  injection he with he
  subst he hw
  refine ⟨S0, ?_⟩
  refine held_enter (i := 11) (some 16) (f := 79) (args := #[.agg #[.int .i64 a, .int .i64 b, .int .i64 d]]) (by kernel_rfl) rfl rfl rfl (by kernel_rfl) (HK1.out _) ?_ (fun c w' h => by cases h.1) (fun w' h => by cases h.1)
  rintro v w2k ⟨he, hg⟩
  injection he with he
  subst he
  have S1 := S0.trans hg
  clear hg
  refine ⟨S1, ?_⟩
  refine held_enter (i := 12) (some 17) (f := 208) (args := #[.agg #[.int .i64 a, .int .i64 b, .int .i64 d]]) (by kernel_rfl) rfl rfl rfl (by kernel_rfl) (HO1.out _) ?_ (fun c w' h => by cases h.1) (fun w' h => by cases h.1)
  rintro v w3k ⟨he, hg⟩
  injection he with he
  subst he
  have S2 := S1.trans hg
  clear hg
  refine ⟨S2, ?_⟩
  refine held_enter (i := 14) (some 19) (f := 79) (args := #[.agg #[.int .i64 a2, .int .i64 b2, .int .i64 d2]]) (by kernel_rfl) rfl rfl rfl (by kernel_rfl) (HK2.out _) ?_ (fun c w' h => by cases h.1) (fun w' h => by cases h.1)
  rintro v w4k ⟨he, hg⟩
  injection he with he
  subst he
  have S3 := S2.trans hg
  clear hg
  refine ⟨S3, ?_⟩
  refine held_enter (i := 15) (some 20) (f := 202) (args := #[.agg #[.int .i64 a2, .int .i64 b2, .int .i64 d2]]) (by kernel_rfl) rfl rfl rfl (by kernel_rfl) (HO2.out _) ?_ (fun c w' h => by cases h.1) (fun w' h => by cases h.1)
  rintro v w5k ⟨he, hg⟩
  injection he with he
  subst he
  have S4 := S3.trans hg
  clear hg
  refine ⟨S4, ?_⟩
  refine held_enter (i := 16) (some 21) (f := 111) (args := #[.int .i64 e1, .int .i64 e2]) (by kernel_rfl) rfl rfl rfl (by kernel_rfl) (compare_any e1 e2 _) ?_ (fun c w' h => by cases h.1) (fun w' h => by cases h.1)
  rintro v w' ⟨he, hw⟩
  injection he with he
  subst he hw
  refine ⟨S4, ?_⟩
  obtain ⟨wn, hwn⟩ : ∃ wn : World, wn = w5k.alloc (.cells #[.int .i64 (cmpZ a a2), .int .i64 (cmpZ b b2), .int .i64 (cmpZ e1 e2)] 3) := ⟨_, rfl⟩
  have Sn : Gr w1 wn := S4.trans (by rw [hwn]; exact Gr.alloc _ _)
  have n0 : wn.cell? ⟨w5k.heap.size, 0, none⟩ = some (.int .i64 (cmpZ a a2)) := by rw [hwn]; simp
  have n1 : wn.cell? ⟨w5k.heap.size, 1, none⟩ = some (.int .i64 (cmpZ b b2)) := by rw [hwn]; simp
  have n2 : wn.cell? ⟨w5k.heap.size, 2, none⟩ = some (.int .i64 (cmpZ e1 e2)) := by rw [hwn]; simp
  refine held_mem (i := 17) (v := .slice (some ⟨w5k.heap.size, 0, none⟩) 3 3) (w' := wn) (some 22) (by kernel_rfl) rfl rfl rfl (by rw [hwn]; go_simp) Sn ?_
  simp only [Act.put, List.setIfInBounds_toArray, List.set_cons_zero, List.set_cons_succ]
  refine held_enter (i := 18) (some 23) (f := 110) (args := #[.slice (some ⟨w5k.heap.size, 0, none⟩) 3 3]) (by kernel_rfl) rfl rfl rfl (by kernel_rfl) (or3_any _ _ _ w5k.heap.size wn n0 n1 n2) ?_ (fun c w' h => by cases h.1) (fun w' h => by cases h.1)
  rintro v w' ⟨he, hw⟩
  injection he with he
  subst he hw
  refine ⟨Sn, ?_⟩
  refine held_take (i := 19) (v := .int .i64 (or3 (cmpZ a a2) (cmpZ b b2) (cmpZ e1 e2))) (some 4) rfl rfl (by kernel_rfl) (by kernel_rfl) (by kernel_rfl) (fun _ _ _ h => h) (yieldsIf_run (by kernel_rfl) (fun W _ => by kernel_rfl)) Sn ?_
  refine wpAnyH_done (by kernel_rfl) ?_ _
  simp only [Act.put, List.setIfInBounds_toArray, List.set_cons_zero, List.set_cons_succ]
  clear n0 n1 n2 hwn
  go_wp2
  go_ret
  exact ⟨congrArg (fun z => Ending.returned (.int .i64 z)) HR.out, HG.out.trans Sn⟩
set_option maxHeartbeats 3200000 in
set_option maxRecDepth 100000 in
theorem compareBarsEE_any (a b d a2 b2 d2 : Int) (h1 : ¬ d = -1) (h2 : ¬ d2 = -1) (w : World) : Calls Try.prog 76 #[bvl (a, b, d), bvl (a2, b2, d2)] w (GrR (.int .i64 (cmp3 (a, b, d) (a2, b2, d2))) w) := by
  have HK1 := Lib.hid (kindOf_any (a, b, d))
  have HK2 := Lib.hid (kindOf_any (a2, b2, d2))
  rw [kv_ends h1] at HK1
  rw [kv_ends h2] at HK2
  obtain ⟨e1, he1⟩ : ∃ e, e = bk (a, b, d) := ⟨_, rfl⟩
  obtain ⟨e2, he2⟩ : ∃ e, e = bk (a2, b2, d2) := ⟨_, rfl⟩
  have HO1 : Hid (∀ w, Calls Try.prog 208 #[bvl (a, b, d)] w (GrR (.int .i64 e1) w)) := Lib.hid (fun w => by rw [he1]; unfold bk; rw [if_neg h1]; exact deathOrderE_any _ w)
  have HO2 : Hid (∀ w, Calls Try.prog 208 #[bvl (a2, b2, d2)] w (GrR (.int .i64 e2) w)) := Lib.hid (fun w => by rw [he2]; unfold bk; rw [if_neg h2]; exact deathOrderE_any _ w)
  have HR : Hid (or3 (cmpZ a a2) (cmpZ b b2) (cmpZ e1 e2) = cmp3 (a, b, d) (a2, b2, d2)) := Lib.hid (by rw [he1, he2]; exact or3_cmp (a, b, d) (a2, b2, d2))
  clear h1 h2 he1 he2
  unfold bvl at *
  dsimp only at *
  obtain ⟨w1, hw1⟩ : ∃ w1 : World, w1 = (w.alloc (.cells #[.int .i64 a, .int .i64 b, .int .i64 d] 53)).alloc (.cells #[.int .i64 a2, .int .i64 b2, .int .i64 d2] 53) := ⟨_, rfl⟩
  have HG : Hid (Gr w w1) := Lib.hid (by rw [hw1]; exact (Gr.alloc _ _).trans (Gr.alloc _ _))
  have HA0 : Hid (w1.cell? ⟨w.heap.size, 0, none⟩ = some (.int .i64 a)) := Lib.hid (by rw [hw1]; simp)
  have HA1 : Hid (w1.cell? ⟨w.heap.size, 1, none⟩ = some (.int .i64 b)) := Lib.hid (by rw [hw1]; simp)
  have HA2 : Hid (w1.cell? ⟨w.heap.size, 2, none⟩ = some (.int .i64 d)) := Lib.hid (by rw [hw1]; simp)
  have HB0 : Hid (w1.cell? ⟨w.heap.size + 1, 0, none⟩ = some (.int .i64 a2)) := Lib.hid (by rw [hw1]; simp)
  have HB1 : Hid (w1.cell? ⟨w.heap.size + 1, 1, none⟩ = some (.int .i64 b2)) := Lib.hid (by rw [hw1]; simp)
  have HB2 : Hid (w1.cell? ⟨w.heap.size + 1, 2, none⟩ = some (.int .i64 d2)) := Lib.hid (by rw [hw1]; simp)
  go_enter Try.func76, Try.ntmps76
  go_upto_region 1 with fail
  rw [← hw1]
  clear hw1
  refine wp_region_held (S := fun W => Gr w1 W) (by kernel_rfl) ?_
  have S0 := Gr.drewN1 w1
  obtain ⟨wd, hwd⟩ : ∃ wd : World, wd = { w1 with drawn := w1.drawn + 1 } := ⟨_, rfl⟩
  rw [← hwd] at S0 ⊢
  clear hwd
  refine held_take (i := 0) (v := .pointer (some ⟨w.heap.size, 0, none⟩)) (some 5) rfl rfl (by kernel_rfl) (by kernel_rfl) (by kernel_rfl) (fun _ _ _ h => h) (yieldsIf_run (by kernel_rfl) (fun W _ => by kernel_rfl)) S0 ?_
  refine held_take (i := 1) (v := .int .i64 a) (some 6) rfl rfl (by kernel_rfl) (by kernel_rfl) (by kernel_rfl) (fun _ _ _ h => h) (yieldsIf_cell (by kernel_rfl) rfl (by kernel_rfl) (fun W h => hload W (later (Gr.below h) (Nat.le_refl _) HA0.out))) S0 ?_
  refine held_take (i := 2) (v := .pointer (some ⟨w.heap.size + 1, 0, none⟩)) (some 7) rfl rfl (by kernel_rfl) (by kernel_rfl) (by kernel_rfl) (fun _ _ _ h => h) (yieldsIf_run (by kernel_rfl) (fun W _ => by kernel_rfl)) S0 ?_
  refine held_take (i := 3) (v := .int .i64 a2) (some 8) rfl rfl (by kernel_rfl) (by kernel_rfl) (by kernel_rfl) (fun _ _ _ h => h) (yieldsIf_cell (by kernel_rfl) rfl (by kernel_rfl) (fun W h => hload W (later (Gr.below h) (Nat.le_refl _) HB0.out))) S0 ?_
  refine held_take (i := 5) (v := .pointer (some ⟨w.heap.size, 1, none⟩)) (some 10) rfl rfl (by kernel_rfl) (by kernel_rfl) (by kernel_rfl) (fun _ _ _ h => h) (yieldsIf_run (by kernel_rfl) (fun W _ => by kernel_rfl)) S0 ?_
  refine held_take (i := 6) (v := .int .i64 b) (some 11) rfl rfl (by kernel_rfl) (by kernel_rfl) (by kernel_rfl) (fun _ _ _ h => h) (yieldsIf_cell (by kernel_rfl) rfl (by kernel_rfl) (fun W h => hload W (later (Gr.below h) (Nat.le_refl _) HA1.out))) S0 ?_
  refine held_take (i := 7) (v := .pointer (some ⟨w.heap.size + 1, 1, none⟩)) (some 12) rfl rfl (by kernel_rfl) (by kernel_rfl) (by kernel_rfl) (fun _ _ _ h => h) (yieldsIf_run (by kernel_rfl) (fun W _ => by kernel_rfl)) S0 ?_
  refine held_take (i := 8) (v := .int .i64 b2) (some 13) rfl rfl (by kernel_rfl) (by kernel_rfl) (by kernel_rfl) (fun _ _ _ h => h) (yieldsIf_cell (by kernel_rfl) rfl (by kernel_rfl) (fun W h => hload W (later (Gr.below h) (Nat.le_refl _) HB1.out))) S0 ?_
  refine held_take (i := 10) (v := .agg #[.int .i64 a, .int .i64 b, .int .i64 d]) (some 15) rfl rfl (by kernel_rfl) (by kernel_rfl) (by kernel_rfl) (fun _ _ _ h => h) (yieldsIf_cell (by kernel_rfl) rfl (by kernel_rfl) (fun W h => hloadB0 W (later (Gr.below h) (Nat.le_refl _) HA0.out) (later (Gr.below h) (Nat.le_refl _) HA1.out) (later (Gr.below h) (Nat.le_refl _) HA2.out))) S0 ?_
  refine held_take (i := 13) (v := .agg #[.int .i64 a2, .int .i64 b2, .int .i64 d2]) (some 18) rfl rfl (by kernel_rfl) (by kernel_rfl) (by kernel_rfl) (fun _ _ _ h => h) (yieldsIf_cell (by kernel_rfl) rfl (by kernel_rfl) (fun W h => hloadB0 W (later (Gr.below h) (Nat.le_refl _) HB0.out) (later (Gr.below h) (Nat.le_refl _) HB1.out) (later (Gr.below h) (Nat.le_refl _) HB2.out))) S0 ?_
  refine held_enter (i := 4) (some 9) (f := 111) (args := #[.int .i64 a, .int .i64 a2]) (by kernel_rfl) rfl rfl rfl (by kernel_rfl) (compare_any a a2 _) ?_ (fun c w' h => by cases h.1) (fun w' h => by cases h.1)
  rintro v w' ⟨he, hw⟩
  injection he with he
  subst he hw
  refine ⟨S0, ?_⟩
  refine held_enter (i := 9) (some 14) (f := 111) (args := #[.int .i64 b, .int .i64 b2]) (by kernel_rfl) rfl rfl rfl (by kernel_rfl) (compare_any b b2 _) ?_ (fun c w' h => by cases h.1) (fun w' h => by cases h.1)
  rintro v w' ⟨he, hw⟩
  injection he with he
  subst he hw
  refine ⟨S0, ?_⟩
  refine held_enter (i := 11) (some 16) (f := 79) (args := #[.agg #[.int .i64 a, .int .i64 b, .int .i64 d]]) (by kernel_rfl) rfl rfl rfl (by kernel_rfl) (HK1.out _) ?_ (fun c w' h => by cases h.1) (fun w' h => by cases h.1)
  rintro v w2k ⟨he, hg⟩
  injection he with he
  subst he
  have S1 := S0.trans hg
  clear hg
  refine ⟨S1, ?_⟩
  refine held_enter (i := 12) (some 17) (f := 208) (args := #[.agg #[.int .i64 a, .int .i64 b, .int .i64 d]]) (by kernel_rfl) rfl rfl rfl (by kernel_rfl) (HO1.out _) ?_ (fun c w' h => by cases h.1) (fun w' h => by cases h.1)
  rintro v w3k ⟨he, hg⟩
  injection he with he
  subst he
  have S2 := S1.trans hg
  clear hg
  refine ⟨S2, ?_⟩
  refine held_enter (i := 14) (some 19) (f := 79) (args := #[.agg #[.int .i64 a2, .int .i64 b2, .int .i64 d2]]) (by kernel_rfl) rfl rfl rfl (by kernel_rfl) (HK2.out _) ?_ (fun c w' h => by cases h.1) (fun w' h => by cases h.1)
  rintro v w4k ⟨he, hg⟩
  injection he with he
  subst he
  have S3 := S2.trans hg
  clear hg
  refine ⟨S3, ?_⟩
  refine held_enter (i := 15) (some 20) (f := 208) (args := #[.agg #[.int .i64 a2, .int .i64 b2, .int .i64 d2]]) (by kernel_rfl) rfl rfl rfl (by kernel_rfl) (HO2.out _) ?_ (fun c w' h => by cases h.1) (fun w' h => by cases h.1)
  rintro v w5k ⟨he, hg⟩
  injection he with he
  subst he
  have S4 := S3.trans hg
  clear hg
  refine ⟨S4, ?_⟩
  refine held_enter (i := 16) (some 21) (f := 111) (args := #[.int .i64 e1, .int .i64 e2]) (by kernel_rfl) rfl rfl rfl (by kernel_rfl) (compare_any e1 e2 _) ?_ (fun c w' h => by cases h.1) (fun w' h => by cases h.1)
  rintro v w' ⟨he, hw⟩
  injection he with he
  subst he hw
  refine ⟨S4, ?_⟩
  obtain ⟨wn, hwn⟩ : ∃ wn : World, wn = w5k.alloc (.cells #[.int .i64 (cmpZ a a2), .int .i64 (cmpZ b b2), .int .i64 (cmpZ e1 e2)] 3) := ⟨_, rfl⟩
  have Sn : Gr w1 wn := S4.trans (by rw [hwn]; exact Gr.alloc _ _)
  have n0 : wn.cell? ⟨w5k.heap.size, 0, none⟩ = some (.int .i64 (cmpZ a a2)) := by rw [hwn]; simp
  have n1 : wn.cell? ⟨w5k.heap.size, 1, none⟩ = some (.int .i64 (cmpZ b b2)) := by rw [hwn]; simp
  have n2 : wn.cell? ⟨w5k.heap.size, 2, none⟩ = some (.int .i64 (cmpZ e1 e2)) := by rw [hwn]; simp
  refine held_mem (i := 17) (v := .slice (some ⟨w5k.heap.size, 0, none⟩) 3 3) (w' := wn) (some 22) (by kernel_rfl) rfl rfl rfl (by rw [hwn]; go_simp) Sn ?_
  simp only [Act.put, List.setIfInBounds_toArray, List.set_cons_zero, List.set_cons_succ]
  refine held_enter (i := 18) (some 23) (f := 110) (args := #[.slice (some ⟨w5k.heap.size, 0, none⟩) 3 3]) (by kernel_rfl) rfl rfl rfl (by kernel_rfl) (or3_any _ _ _ w5k.heap.size wn n0 n1 n2) ?_ (fun c w' h => by cases h.1) (fun w' h => by cases h.1)
  rintro v w' ⟨he, hw⟩
  injection he with he
  subst he hw
  refine ⟨Sn, ?_⟩
  refine held_take (i := 19) (v := .int .i64 (or3 (cmpZ a a2) (cmpZ b b2) (cmpZ e1 e2))) (some 4) rfl rfl (by kernel_rfl) (by kernel_rfl) (by kernel_rfl) (fun _ _ _ h => h) (yieldsIf_run (by kernel_rfl) (fun W _ => by kernel_rfl)) Sn ?_
  refine wpAnyH_done (by kernel_rfl) ?_ _
  simp only [Act.put, List.setIfInBounds_toArray, List.set_cons_zero, List.set_cons_succ]
  clear n0 n1 n2 hwn
  go_wp2
  go_ret
  exact ⟨congrArg (fun z => Ending.returned (.int .i64 z)) HR.out, HG.out.trans Sn⟩
theorem compareBars_any (x y : B3) (w : World) : Calls Try.prog 76 #[bvl x, bvl y] w (GrR (.int .i64 (cmp3 x y)) w) := by
  obtain ⟨a, b, d⟩ := x
  obtain ⟨a2, b2, d2⟩ := y
  by_cases h1 : d = -1
  · by_cases h2 : d2 = -1
    · exact compareBarsLL_any a b d a2 b2 d2 h1 h2 w
    · exact compareBarsLE_any a b d a2 b2 d2 h1 h2 w
  · by_cases h2 : d2 = -1
    · exact compareBarsEL_any a b d a2 b2 d2 h1 h2 w
    · exact compareBarsEE_any a b d a2 b2 d2 h1 h2 w
end Go.Proofs.Ytchijefibiaphaa
