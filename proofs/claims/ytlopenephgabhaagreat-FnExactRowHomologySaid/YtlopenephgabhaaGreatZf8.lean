/-
  Texts that ProofRhl needs, part 8.
-/
import Derived.Test.YtlopenephgabhaaGreatZf7
import Derived.Great.Walk
import Derived.Lib.AppendZerosOnto
import Derived.Deep.RegionWith
import Derived.Deep.RegionHeld3
import Derived.BigRegion
import Derived.BigQuiet
import Derived.Deep.QuietTactic
namespace Go.Proofs.YtlopenephgabhaaGreat
open Go.RowKit

theorem infoDb (a b c d : Value) : (Tryz.prog.info? 29).map (·.size) = some (#[a, b, c, d] : Array Value).size := by kernel_rfl
/-- What emptyDouble answers: three lists of blocks of their own. -/
def EdR (p : Int) (n : Nat) (w : World) (e : Ending) (w' : World) : Prop := ∃ D A V : Nat, e = .returned (.agg #[.int .i64 p, .slice (some ⟨D, 0, none⟩) n n, .slice (some ⟨A, 0, none⟩) n n, .slice (some ⟨V, 0, none⟩) n n]) ∧ (w.heap.size < D ∧ w.heap.size < A ∧ w.heap.size < V) ∧ (D ≠ A ∧ D ≠ V ∧ A ≠ V) ∧
  Rz w' D 47 (madeCells #[.slice none 0 0] n) ∧ Rz w' A 51 (madeCells #[.slice none 0 0] n) ∧ Rz w' V 51 (madeCells #[.slice none 0 0] n) ∧ Below w.heap.size w w'
set_option maxRecDepth 100000 in
set_option maxHeartbeats 6400000 in
theorem emptyDouble_any (p : Int) (n : Nat) (w : World) (hn : n ≤ 1048576) : Calls Tryz.prog 71 #[.int .i64 p, .int .i64 (n : Int)] w (EdR p n w) := by
  have hres : Tryz.f71.results = #[.cell 4 29] := by kernel_rfl
  have HRES := Lib.hid hres
  have hmkD := run_make_row' (P := Tryz.prog) 22 47 (.slice none 0 0) 24 Tryz.underlying22 Tryz.infoS rfl .i64 .i64 n (by omega) (by omega)
  have hmkL := run_make_row' (P := Tryz.prog) 23 51 (.slice none 0 0) 24 Tryz.underlying23 Tryz.infoSSS rfl .i64 .i64 n (by omega) (by omega)
  obtain ⟨wi, hwi⟩ : ∃ wi, wi = w.alloc (.cells #[.int .i64 0, .slice none 0 0, .slice none 0 0, .slice none 0 0] 29) := ⟨_, rfl⟩
  obtain ⟨w1, hw1⟩ : ∃ w1, w1 = wi.drew := ⟨_, rfl⟩
  have hs1 : w1.heap.size = w.heap.size + 1 := by rw [hw1]; show wi.heap.size = _; rw [hwi]; simp
  have hb1 : Below w.heap.size w w1 := by rw [hw1, hwi]; exact (below_alloc1 _ _).drew
  have hR1 : Rz w1 w.heap.size 29 #[.int .i64 0, .slice none 0 0, .slice none 0 0, .slice none 0 0] := by
    have h0 : Rz wi w.heap.size 29 #[.int .i64 0, .slice none 0 0, .slice none 0 0, .slice none 0 0] := by rw [hwi]; exact Rz.new _ _ _
    rw [hw1]
    exact h0.next (Below.refl _ _).drew
  clear hres
  go_enter Tryz.func71, Tryz.ntmps71
  go_upto_region 1 with fail
  rw [← hwi]
  refine wp_region_held (S := fun _ => True) (by kernel_rfl) ?_
  change wpAnyH _ _ _ _ _ _ _ _ wi.drew
  rw [← hw1]
  clear hwi hw1
  have S0 : (fun _ : World => True) w1 := trivial
  refine held_take (i := 0) (v := (.int .i64 p)) (some 5) rfl rfl (by kernel_rfl) (by kernel_rfl) (by kernel_rfl) (fun _ _ _ h => h) (yieldsIf_move (by kernel_rfl) rfl (by kernel_rfl)) S0 ?_
  refine held_take (i := 1) (v := (.int .i64 (n : Int))) (some 6) rfl rfl (by kernel_rfl) (by kernel_rfl) (by kernel_rfl) (fun _ _ _ h => h) (yieldsIf_move (by kernel_rfl) rfl (by kernel_rfl)) S0 ?_
  refine held_take (i := 3) (v := (.int .i64 (n : Int))) (some 8) rfl rfl (by kernel_rfl) (by kernel_rfl) (by kernel_rfl) (fun _ _ _ h => h) (yieldsIf_move (by kernel_rfl) rfl (by kernel_rfl)) S0 ?_
  refine held_take (i := 5) (v := (.int .i64 (n : Int))) (some 10) rfl rfl (by kernel_rfl) (by kernel_rfl) (by kernel_rfl) (fun _ _ _ h => h) (yieldsIf_move (by kernel_rfl) rfl (by kernel_rfl)) S0 ?_
  refine held_three (i := 2) (j := 4) (l := 6) (by kernel_rfl) ?_ ?_ ?_
  · obtain ⟨W1, hW1⟩ : ∃ W', W' = w1.alloc (.cells (madeCells #[.slice none 0 0] n) 47) := ⟨_, rfl⟩
    have hq1 : Below w1.heap.size w1 W1 := by rw [hW1]; exact below_alloc1 _ _
    have hy1 : W1.heap.size = w1.heap.size + 1 := by rw [hW1]; simp
    have hD1 : Rz W1 w1.heap.size 47 (madeCells #[.slice none 0 0] n) := by rw [hW1]; exact Rz.new _ _ _
    have hx1 : Below w.heap.size w W1 := hb1.trans (hq1.mono (by omega))
    have hR1 := hR1.next hq1
    refine op_make (i := 2) (v := .slice (some ⟨w1.heap.size, 0, none⟩) n n) (w' := W1) (x := .int .i64 (n : Int)) (y := .int .i64 (n : Int)) (some 7) 22 (.tmp 6) (.tmp 6) rfl rfl rfl rfl (by kernel_rfl) (by kernel_rfl) (by rw [hW1]; exact hmkD _) ?_
    refine ⟨trivial, ?_⟩
    refine held_two (i := 4) (j := 6) (by kernel_rfl) ?_ ?_
    · obtain ⟨W2, hW2⟩ : ∃ W', W' = W1.alloc (.cells (madeCells #[.slice none 0 0] n) 51) := ⟨_, rfl⟩
      have hq2 : Below W1.heap.size W1 W2 := by rw [hW2]; exact below_alloc1 _ _
      have hy2 : W2.heap.size = W1.heap.size + 1 := by rw [hW2]; simp
      have hA2 : Rz W2 W1.heap.size 51 (madeCells #[.slice none 0 0] n) := by rw [hW2]; exact Rz.new _ _ _
      have hx2 : Below w.heap.size w W2 := hx1.trans (hq2.mono (by omega))
      have hR2 := hR1.next hq2
      have hD2 := hD1.next hq2
      refine op_make (i := 4) (v := .slice (some ⟨W1.heap.size, 0, none⟩) n n) (w' := W2) (x := .int .i64 (n : Int)) (y := .int .i64 (n : Int)) (some 9) 23 (.tmp 8) (.tmp 8) rfl rfl rfl rfl (by kernel_rfl) (by kernel_rfl) (by rw [hW2]; exact hmkL _) ?_
      refine ⟨trivial, ?_⟩
      refine held_one (i := 6) (by kernel_rfl) ?_
      · obtain ⟨W3, hW3⟩ : ∃ W', W' = W2.alloc (.cells (madeCells #[.slice none 0 0] n) 51) := ⟨_, rfl⟩
        have hq3 : Below W2.heap.size W2 W3 := by rw [hW3]; exact below_alloc1 _ _
        have hy3 : W3.heap.size = W2.heap.size + 1 := by rw [hW3]; simp
        have hV3 : Rz W3 W2.heap.size 51 (madeCells #[.slice none 0 0] n) := by rw [hW3]; exact Rz.new _ _ _
        have hx3 : Below w.heap.size w W3 := hx2.trans (hq3.mono (by omega))
        have hR3 := hR2.next hq3
        have hD3 := hD2.next hq3
        have hA3 := hA2.next hq3
        refine op_make (i := 6) (v := .slice (some ⟨W2.heap.size, 0, none⟩) n n) (w' := W3) (x := .int .i64 (n : Int)) (y := .int .i64 (n : Int)) (some 11) 23 (.tmp 10) (.tmp 10) rfl rfl rfl rfl (by kernel_rfl) (by kernel_rfl) (by rw [hW3]; exact hmkL _) ?_
        refine ⟨trivial, ?_⟩
        refine held_take (i := 7) (v := (.agg #[.int .i64 p, .slice (some ⟨w1.heap.size, 0, none⟩) n n, .slice (some ⟨W1.heap.size, 0, none⟩) n n, .slice (some ⟨W2.heap.size, 0, none⟩) n n])) (some 12) rfl rfl (by kernel_rfl) (by kernel_rfl) (by kernel_rfl) (fun _ _ _ h => h) (yieldsIf_run (by kernel_rfl) (fun W _ => by kernel_rfl)) trivial ?_
        have S9 : Below (w.heap.size + 1) w1 (W3.setRow w.heap.size #[.int .i64 p, .slice (some ⟨w1.heap.size, 0, none⟩) n n, .slice (some ⟨W1.heap.size, 0, none⟩) n n, .slice (some ⟨W2.heap.size, 0, none⟩) n n]) ∨ True := .inr trivial
        refine held_one (i := 8) (by kernel_rfl) ?_
        refine op_row (i := 8) rfl rfl rfl 29 (.tmp 4) (.tmp 12) rfl w.heap.size #[.int .i64 p, .slice (some ⟨w1.heap.size, 0, none⟩) n n, .slice (some ⟨W1.heap.size, 0, none⟩) n n, .slice (some ⟨W2.heap.size, 0, none⟩) n n] (by kernel_rfl) (by kernel_rfl) 29 _ hR3 (infoDb _ _ _ _) (by kernel_rfl) (by kernel_rfl) ?_
        refine ⟨trivial, ?_⟩
        refine wpAnyH_done (by kernel_rfl) ?_ _
        simp only [Act.put, List.setIfInBounds_toArray, List.set_cons_zero, List.set_cons_succ]
        obtain ⟨WF, hWF⟩ : ∃ WF, WF = (W3.setRow w.heap.size #[.int .i64 p, .slice (some ⟨w1.heap.size, 0, none⟩) n n, .slice (some ⟨W1.heap.size, 0, none⟩) n n, .slice (some ⟨W2.heap.size, 0, none⟩) n n]) := ⟨_, rfl⟩
        have hRF : Rz WF w.heap.size 29 #[.int .i64 p, .slice (some ⟨w1.heap.size, 0, none⟩) n n, .slice (some ⟨W1.heap.size, 0, none⟩) n n, .slice (some ⟨W2.heap.size, 0, none⟩) n n] := by rw [hWF]; exact Rz.set hR3 _
        have HBF : Hid (Below w.heap.size w WF) := Lib.hid (by rw [hWF]; exact below_setRow hx3 (Nat.le_refl _) _)
        have HDF : Hid (Rz WF (w1.heap.size) 47 (madeCells #[.slice none 0 0] n)) := Lib.hid (by rw [hWF]; exact Rz.off hD3 (by omega) _)
        have HAF : Hid (Rz WF (W1.heap.size) 51 (madeCells #[.slice none 0 0] n)) := Lib.hid (by rw [hWF]; exact Rz.off hA3 (by omega) _)
        have HVF : Hid (Rz WF (W2.heap.size) 51 (madeCells #[.slice none 0 0] n)) := Lib.hid (by rw [hWF]; exact Rz.off hV3 (by omega) _)
        have HNE : Hid ((w.heap.size < w1.heap.size ∧ w.heap.size < W1.heap.size ∧ w.heap.size < W2.heap.size) ∧ w1.heap.size ≠ W1.heap.size ∧ w1.heap.size ≠ W2.heap.size ∧ W1.heap.size ≠ W2.heap.size) := Lib.hid (by omega)
        have f0 := hRF.cell (i := 0) (v := _) rfl
        have f1 := hRF.cell (i := 1) (v := _) rfl
        have f2 := hRF.cell (i := 2) (v := _) rfl
        have f3 := hRF.cell (i := 3) (v := _) rfl
        rw [← hWF]
        clear hWF hRF
        go_wp2
        refine bodyPost_ret (v := .agg #[.int .i64 p, .slice (some ⟨w1.heap.size, 0, none⟩) n n, .slice (some ⟨W1.heap.size, 0, none⟩) n n, .slice (some ⟨W2.heap.size, 0, none⟩) n n]) ?_ rfl ⟨_, _, _, rfl, HNE.out.1, HNE.out.2, HDF.out, HAF.out, HVF.out, HBF.out⟩
        simp only [results, HRES.out]
        go_simp
    · obtain ⟨W4, hW4⟩ : ∃ W', W' = W1.alloc (.cells (madeCells #[.slice none 0 0] n) 51) := ⟨_, rfl⟩
      have hq4 : Below W1.heap.size W1 W4 := by rw [hW4]; exact below_alloc1 _ _
      have hy4 : W4.heap.size = W1.heap.size + 1 := by rw [hW4]; simp
      have hV4 : Rz W4 W1.heap.size 51 (madeCells #[.slice none 0 0] n) := by rw [hW4]; exact Rz.new _ _ _
      have hx4 : Below w.heap.size w W4 := hx1.trans (hq4.mono (by omega))
      have hR4 := hR1.next hq4
      have hD4 := hD1.next hq4
      refine op_make (i := 6) (v := .slice (some ⟨W1.heap.size, 0, none⟩) n n) (w' := W4) (x := .int .i64 (n : Int)) (y := .int .i64 (n : Int)) (some 11) 23 (.tmp 10) (.tmp 10) rfl rfl rfl rfl (by kernel_rfl) (by kernel_rfl) (by rw [hW4]; exact hmkL _) ?_
      refine ⟨trivial, ?_⟩
      refine held_one (i := 4) (by kernel_rfl) ?_
      · obtain ⟨W5, hW5⟩ : ∃ W', W' = W4.alloc (.cells (madeCells #[.slice none 0 0] n) 51) := ⟨_, rfl⟩
        have hq5 : Below W4.heap.size W4 W5 := by rw [hW5]; exact below_alloc1 _ _
        have hy5 : W5.heap.size = W4.heap.size + 1 := by rw [hW5]; simp
        have hA5 : Rz W5 W4.heap.size 51 (madeCells #[.slice none 0 0] n) := by rw [hW5]; exact Rz.new _ _ _
        have hx5 : Below w.heap.size w W5 := hx4.trans (hq5.mono (by omega))
        have hR5 := hR4.next hq5
        have hD5 := hD4.next hq5
        have hV5 := hV4.next hq5
        refine op_make (i := 4) (v := .slice (some ⟨W4.heap.size, 0, none⟩) n n) (w' := W5) (x := .int .i64 (n : Int)) (y := .int .i64 (n : Int)) (some 9) 23 (.tmp 8) (.tmp 8) rfl rfl rfl rfl (by kernel_rfl) (by kernel_rfl) (by rw [hW5]; exact hmkL _) ?_
        refine ⟨trivial, ?_⟩
        refine held_take (i := 7) (v := (.agg #[.int .i64 p, .slice (some ⟨w1.heap.size, 0, none⟩) n n, .slice (some ⟨W4.heap.size, 0, none⟩) n n, .slice (some ⟨W1.heap.size, 0, none⟩) n n])) (some 12) rfl rfl (by kernel_rfl) (by kernel_rfl) (by kernel_rfl) (fun _ _ _ h => h) (yieldsIf_run (by kernel_rfl) (fun W _ => by kernel_rfl)) trivial ?_
        have S9 : Below (w.heap.size + 1) w1 (W5.setRow w.heap.size #[.int .i64 p, .slice (some ⟨w1.heap.size, 0, none⟩) n n, .slice (some ⟨W4.heap.size, 0, none⟩) n n, .slice (some ⟨W1.heap.size, 0, none⟩) n n]) ∨ True := .inr trivial
        refine held_one (i := 8) (by kernel_rfl) ?_
        refine op_row (i := 8) rfl rfl rfl 29 (.tmp 4) (.tmp 12) rfl w.heap.size #[.int .i64 p, .slice (some ⟨w1.heap.size, 0, none⟩) n n, .slice (some ⟨W4.heap.size, 0, none⟩) n n, .slice (some ⟨W1.heap.size, 0, none⟩) n n] (by kernel_rfl) (by kernel_rfl) 29 _ hR5 (infoDb _ _ _ _) (by kernel_rfl) (by kernel_rfl) ?_
        refine ⟨trivial, ?_⟩
        refine wpAnyH_done (by kernel_rfl) ?_ _
        simp only [Act.put, List.setIfInBounds_toArray, List.set_cons_zero, List.set_cons_succ]
        obtain ⟨WF, hWF⟩ : ∃ WF, WF = (W5.setRow w.heap.size #[.int .i64 p, .slice (some ⟨w1.heap.size, 0, none⟩) n n, .slice (some ⟨W4.heap.size, 0, none⟩) n n, .slice (some ⟨W1.heap.size, 0, none⟩) n n]) := ⟨_, rfl⟩
        have hRF : Rz WF w.heap.size 29 #[.int .i64 p, .slice (some ⟨w1.heap.size, 0, none⟩) n n, .slice (some ⟨W4.heap.size, 0, none⟩) n n, .slice (some ⟨W1.heap.size, 0, none⟩) n n] := by rw [hWF]; exact Rz.set hR5 _
        have HBF : Hid (Below w.heap.size w WF) := Lib.hid (by rw [hWF]; exact below_setRow hx5 (Nat.le_refl _) _)
        have HDF : Hid (Rz WF (w1.heap.size) 47 (madeCells #[.slice none 0 0] n)) := Lib.hid (by rw [hWF]; exact Rz.off hD5 (by omega) _)
        have HAF : Hid (Rz WF (W4.heap.size) 51 (madeCells #[.slice none 0 0] n)) := Lib.hid (by rw [hWF]; exact Rz.off hA5 (by omega) _)
        have HVF : Hid (Rz WF (W1.heap.size) 51 (madeCells #[.slice none 0 0] n)) := Lib.hid (by rw [hWF]; exact Rz.off hV5 (by omega) _)
        have HNE : Hid ((w.heap.size < w1.heap.size ∧ w.heap.size < W4.heap.size ∧ w.heap.size < W1.heap.size) ∧ w1.heap.size ≠ W4.heap.size ∧ w1.heap.size ≠ W1.heap.size ∧ W4.heap.size ≠ W1.heap.size) := Lib.hid (by omega)
        have f0 := hRF.cell (i := 0) (v := _) rfl
        have f1 := hRF.cell (i := 1) (v := _) rfl
        have f2 := hRF.cell (i := 2) (v := _) rfl
        have f3 := hRF.cell (i := 3) (v := _) rfl
        rw [← hWF]
        clear hWF hRF
        go_wp2
        refine bodyPost_ret (v := .agg #[.int .i64 p, .slice (some ⟨w1.heap.size, 0, none⟩) n n, .slice (some ⟨W4.heap.size, 0, none⟩) n n, .slice (some ⟨W1.heap.size, 0, none⟩) n n]) ?_ rfl ⟨_, _, _, rfl, HNE.out.1, HNE.out.2, HDF.out, HAF.out, HVF.out, HBF.out⟩
        simp only [results, HRES.out]
        go_simp
  · obtain ⟨W6, hW6⟩ : ∃ W', W' = w1.alloc (.cells (madeCells #[.slice none 0 0] n) 51) := ⟨_, rfl⟩
    have hq6 : Below w1.heap.size w1 W6 := by rw [hW6]; exact below_alloc1 _ _
    have hy6 : W6.heap.size = w1.heap.size + 1 := by rw [hW6]; simp
    have hA6 : Rz W6 w1.heap.size 51 (madeCells #[.slice none 0 0] n) := by rw [hW6]; exact Rz.new _ _ _
    have hx6 : Below w.heap.size w W6 := hb1.trans (hq6.mono (by omega))
    have hR6 := hR1.next hq6
    refine op_make (i := 4) (v := .slice (some ⟨w1.heap.size, 0, none⟩) n n) (w' := W6) (x := .int .i64 (n : Int)) (y := .int .i64 (n : Int)) (some 9) 23 (.tmp 8) (.tmp 8) rfl rfl rfl rfl (by kernel_rfl) (by kernel_rfl) (by rw [hW6]; exact hmkL _) ?_
    refine ⟨trivial, ?_⟩
    refine held_two (i := 2) (j := 6) (by kernel_rfl) ?_ ?_
    · obtain ⟨W7, hW7⟩ : ∃ W', W' = W6.alloc (.cells (madeCells #[.slice none 0 0] n) 47) := ⟨_, rfl⟩
      have hq7 : Below W6.heap.size W6 W7 := by rw [hW7]; exact below_alloc1 _ _
      have hy7 : W7.heap.size = W6.heap.size + 1 := by rw [hW7]; simp
      have hD7 : Rz W7 W6.heap.size 47 (madeCells #[.slice none 0 0] n) := by rw [hW7]; exact Rz.new _ _ _
      have hx7 : Below w.heap.size w W7 := hx6.trans (hq7.mono (by omega))
      have hR7 := hR6.next hq7
      have hA7 := hA6.next hq7
      refine op_make (i := 2) (v := .slice (some ⟨W6.heap.size, 0, none⟩) n n) (w' := W7) (x := .int .i64 (n : Int)) (y := .int .i64 (n : Int)) (some 7) 22 (.tmp 6) (.tmp 6) rfl rfl rfl rfl (by kernel_rfl) (by kernel_rfl) (by rw [hW7]; exact hmkD _) ?_
      refine ⟨trivial, ?_⟩
      refine held_one (i := 6) (by kernel_rfl) ?_
      · obtain ⟨W8, hW8⟩ : ∃ W', W' = W7.alloc (.cells (madeCells #[.slice none 0 0] n) 51) := ⟨_, rfl⟩
        have hq8 : Below W7.heap.size W7 W8 := by rw [hW8]; exact below_alloc1 _ _
        have hy8 : W8.heap.size = W7.heap.size + 1 := by rw [hW8]; simp
        have hV8 : Rz W8 W7.heap.size 51 (madeCells #[.slice none 0 0] n) := by rw [hW8]; exact Rz.new _ _ _
        have hx8 : Below w.heap.size w W8 := hx7.trans (hq8.mono (by omega))
        have hR8 := hR7.next hq8
        have hA8 := hA7.next hq8
        have hD8 := hD7.next hq8
        refine op_make (i := 6) (v := .slice (some ⟨W7.heap.size, 0, none⟩) n n) (w' := W8) (x := .int .i64 (n : Int)) (y := .int .i64 (n : Int)) (some 11) 23 (.tmp 10) (.tmp 10) rfl rfl rfl rfl (by kernel_rfl) (by kernel_rfl) (by rw [hW8]; exact hmkL _) ?_
        refine ⟨trivial, ?_⟩
        refine held_take (i := 7) (v := (.agg #[.int .i64 p, .slice (some ⟨W6.heap.size, 0, none⟩) n n, .slice (some ⟨w1.heap.size, 0, none⟩) n n, .slice (some ⟨W7.heap.size, 0, none⟩) n n])) (some 12) rfl rfl (by kernel_rfl) (by kernel_rfl) (by kernel_rfl) (fun _ _ _ h => h) (yieldsIf_run (by kernel_rfl) (fun W _ => by kernel_rfl)) trivial ?_
        have S9 : Below (w.heap.size + 1) w1 (W8.setRow w.heap.size #[.int .i64 p, .slice (some ⟨W6.heap.size, 0, none⟩) n n, .slice (some ⟨w1.heap.size, 0, none⟩) n n, .slice (some ⟨W7.heap.size, 0, none⟩) n n]) ∨ True := .inr trivial
        refine held_one (i := 8) (by kernel_rfl) ?_
        refine op_row (i := 8) rfl rfl rfl 29 (.tmp 4) (.tmp 12) rfl w.heap.size #[.int .i64 p, .slice (some ⟨W6.heap.size, 0, none⟩) n n, .slice (some ⟨w1.heap.size, 0, none⟩) n n, .slice (some ⟨W7.heap.size, 0, none⟩) n n] (by kernel_rfl) (by kernel_rfl) 29 _ hR8 (infoDb _ _ _ _) (by kernel_rfl) (by kernel_rfl) ?_
        refine ⟨trivial, ?_⟩
        refine wpAnyH_done (by kernel_rfl) ?_ _
        simp only [Act.put, List.setIfInBounds_toArray, List.set_cons_zero, List.set_cons_succ]
        obtain ⟨WF, hWF⟩ : ∃ WF, WF = (W8.setRow w.heap.size #[.int .i64 p, .slice (some ⟨W6.heap.size, 0, none⟩) n n, .slice (some ⟨w1.heap.size, 0, none⟩) n n, .slice (some ⟨W7.heap.size, 0, none⟩) n n]) := ⟨_, rfl⟩
        have hRF : Rz WF w.heap.size 29 #[.int .i64 p, .slice (some ⟨W6.heap.size, 0, none⟩) n n, .slice (some ⟨w1.heap.size, 0, none⟩) n n, .slice (some ⟨W7.heap.size, 0, none⟩) n n] := by rw [hWF]; exact Rz.set hR8 _
        have HBF : Hid (Below w.heap.size w WF) := Lib.hid (by rw [hWF]; exact below_setRow hx8 (Nat.le_refl _) _)
        have HDF : Hid (Rz WF (W6.heap.size) 47 (madeCells #[.slice none 0 0] n)) := Lib.hid (by rw [hWF]; exact Rz.off hD8 (by omega) _)
        have HAF : Hid (Rz WF (w1.heap.size) 51 (madeCells #[.slice none 0 0] n)) := Lib.hid (by rw [hWF]; exact Rz.off hA8 (by omega) _)
        have HVF : Hid (Rz WF (W7.heap.size) 51 (madeCells #[.slice none 0 0] n)) := Lib.hid (by rw [hWF]; exact Rz.off hV8 (by omega) _)
        have HNE : Hid ((w.heap.size < W6.heap.size ∧ w.heap.size < w1.heap.size ∧ w.heap.size < W7.heap.size) ∧ W6.heap.size ≠ w1.heap.size ∧ W6.heap.size ≠ W7.heap.size ∧ w1.heap.size ≠ W7.heap.size) := Lib.hid (by omega)
        have f0 := hRF.cell (i := 0) (v := _) rfl
        have f1 := hRF.cell (i := 1) (v := _) rfl
        have f2 := hRF.cell (i := 2) (v := _) rfl
        have f3 := hRF.cell (i := 3) (v := _) rfl
        rw [← hWF]
        clear hWF hRF
        go_wp2
        refine bodyPost_ret (v := .agg #[.int .i64 p, .slice (some ⟨W6.heap.size, 0, none⟩) n n, .slice (some ⟨w1.heap.size, 0, none⟩) n n, .slice (some ⟨W7.heap.size, 0, none⟩) n n]) ?_ rfl ⟨_, _, _, rfl, HNE.out.1, HNE.out.2, HDF.out, HAF.out, HVF.out, HBF.out⟩
        simp only [results, HRES.out]
        go_simp
    · obtain ⟨W9, hW9⟩ : ∃ W', W' = W6.alloc (.cells (madeCells #[.slice none 0 0] n) 51) := ⟨_, rfl⟩
      have hq9 : Below W6.heap.size W6 W9 := by rw [hW9]; exact below_alloc1 _ _
      have hy9 : W9.heap.size = W6.heap.size + 1 := by rw [hW9]; simp
      have hV9 : Rz W9 W6.heap.size 51 (madeCells #[.slice none 0 0] n) := by rw [hW9]; exact Rz.new _ _ _
      have hx9 : Below w.heap.size w W9 := hx6.trans (hq9.mono (by omega))
      have hR9 := hR6.next hq9
      have hA9 := hA6.next hq9
      refine op_make (i := 6) (v := .slice (some ⟨W6.heap.size, 0, none⟩) n n) (w' := W9) (x := .int .i64 (n : Int)) (y := .int .i64 (n : Int)) (some 11) 23 (.tmp 10) (.tmp 10) rfl rfl rfl rfl (by kernel_rfl) (by kernel_rfl) (by rw [hW9]; exact hmkL _) ?_
      refine ⟨trivial, ?_⟩
      refine held_one (i := 2) (by kernel_rfl) ?_
      · obtain ⟨W10, hW10⟩ : ∃ W', W' = W9.alloc (.cells (madeCells #[.slice none 0 0] n) 47) := ⟨_, rfl⟩
        have hq10 : Below W9.heap.size W9 W10 := by rw [hW10]; exact below_alloc1 _ _
        have hy10 : W10.heap.size = W9.heap.size + 1 := by rw [hW10]; simp
        have hD10 : Rz W10 W9.heap.size 47 (madeCells #[.slice none 0 0] n) := by rw [hW10]; exact Rz.new _ _ _
        have hx10 : Below w.heap.size w W10 := hx9.trans (hq10.mono (by omega))
        have hR10 := hR9.next hq10
        have hA10 := hA9.next hq10
        have hV10 := hV9.next hq10
        refine op_make (i := 2) (v := .slice (some ⟨W9.heap.size, 0, none⟩) n n) (w' := W10) (x := .int .i64 (n : Int)) (y := .int .i64 (n : Int)) (some 7) 22 (.tmp 6) (.tmp 6) rfl rfl rfl rfl (by kernel_rfl) (by kernel_rfl) (by rw [hW10]; exact hmkD _) ?_
        refine ⟨trivial, ?_⟩
        refine held_take (i := 7) (v := (.agg #[.int .i64 p, .slice (some ⟨W9.heap.size, 0, none⟩) n n, .slice (some ⟨w1.heap.size, 0, none⟩) n n, .slice (some ⟨W6.heap.size, 0, none⟩) n n])) (some 12) rfl rfl (by kernel_rfl) (by kernel_rfl) (by kernel_rfl) (fun _ _ _ h => h) (yieldsIf_run (by kernel_rfl) (fun W _ => by kernel_rfl)) trivial ?_
        have S9 : Below (w.heap.size + 1) w1 (W10.setRow w.heap.size #[.int .i64 p, .slice (some ⟨W9.heap.size, 0, none⟩) n n, .slice (some ⟨w1.heap.size, 0, none⟩) n n, .slice (some ⟨W6.heap.size, 0, none⟩) n n]) ∨ True := .inr trivial
        refine held_one (i := 8) (by kernel_rfl) ?_
        refine op_row (i := 8) rfl rfl rfl 29 (.tmp 4) (.tmp 12) rfl w.heap.size #[.int .i64 p, .slice (some ⟨W9.heap.size, 0, none⟩) n n, .slice (some ⟨w1.heap.size, 0, none⟩) n n, .slice (some ⟨W6.heap.size, 0, none⟩) n n] (by kernel_rfl) (by kernel_rfl) 29 _ hR10 (infoDb _ _ _ _) (by kernel_rfl) (by kernel_rfl) ?_
        refine ⟨trivial, ?_⟩
        refine wpAnyH_done (by kernel_rfl) ?_ _
        simp only [Act.put, List.setIfInBounds_toArray, List.set_cons_zero, List.set_cons_succ]
        obtain ⟨WF, hWF⟩ : ∃ WF, WF = (W10.setRow w.heap.size #[.int .i64 p, .slice (some ⟨W9.heap.size, 0, none⟩) n n, .slice (some ⟨w1.heap.size, 0, none⟩) n n, .slice (some ⟨W6.heap.size, 0, none⟩) n n]) := ⟨_, rfl⟩
        have hRF : Rz WF w.heap.size 29 #[.int .i64 p, .slice (some ⟨W9.heap.size, 0, none⟩) n n, .slice (some ⟨w1.heap.size, 0, none⟩) n n, .slice (some ⟨W6.heap.size, 0, none⟩) n n] := by rw [hWF]; exact Rz.set hR10 _
        have HBF : Hid (Below w.heap.size w WF) := Lib.hid (by rw [hWF]; exact below_setRow hx10 (Nat.le_refl _) _)
        have HDF : Hid (Rz WF (W9.heap.size) 47 (madeCells #[.slice none 0 0] n)) := Lib.hid (by rw [hWF]; exact Rz.off hD10 (by omega) _)
        have HAF : Hid (Rz WF (w1.heap.size) 51 (madeCells #[.slice none 0 0] n)) := Lib.hid (by rw [hWF]; exact Rz.off hA10 (by omega) _)
        have HVF : Hid (Rz WF (W6.heap.size) 51 (madeCells #[.slice none 0 0] n)) := Lib.hid (by rw [hWF]; exact Rz.off hV10 (by omega) _)
        have HNE : Hid ((w.heap.size < W9.heap.size ∧ w.heap.size < w1.heap.size ∧ w.heap.size < W6.heap.size) ∧ W9.heap.size ≠ w1.heap.size ∧ W9.heap.size ≠ W6.heap.size ∧ w1.heap.size ≠ W6.heap.size) := Lib.hid (by omega)
        have f0 := hRF.cell (i := 0) (v := _) rfl
        have f1 := hRF.cell (i := 1) (v := _) rfl
        have f2 := hRF.cell (i := 2) (v := _) rfl
        have f3 := hRF.cell (i := 3) (v := _) rfl
        rw [← hWF]
        clear hWF hRF
        go_wp2
        refine bodyPost_ret (v := .agg #[.int .i64 p, .slice (some ⟨W9.heap.size, 0, none⟩) n n, .slice (some ⟨w1.heap.size, 0, none⟩) n n, .slice (some ⟨W6.heap.size, 0, none⟩) n n]) ?_ rfl ⟨_, _, _, rfl, HNE.out.1, HNE.out.2, HDF.out, HAF.out, HVF.out, HBF.out⟩
        simp only [results, HRES.out]
        go_simp
  · obtain ⟨W11, hW11⟩ : ∃ W', W' = w1.alloc (.cells (madeCells #[.slice none 0 0] n) 51) := ⟨_, rfl⟩
    have hq11 : Below w1.heap.size w1 W11 := by rw [hW11]; exact below_alloc1 _ _
    have hy11 : W11.heap.size = w1.heap.size + 1 := by rw [hW11]; simp
    have hV11 : Rz W11 w1.heap.size 51 (madeCells #[.slice none 0 0] n) := by rw [hW11]; exact Rz.new _ _ _
    have hx11 : Below w.heap.size w W11 := hb1.trans (hq11.mono (by omega))
    have hR11 := hR1.next hq11
    refine op_make (i := 6) (v := .slice (some ⟨w1.heap.size, 0, none⟩) n n) (w' := W11) (x := .int .i64 (n : Int)) (y := .int .i64 (n : Int)) (some 11) 23 (.tmp 10) (.tmp 10) rfl rfl rfl rfl (by kernel_rfl) (by kernel_rfl) (by rw [hW11]; exact hmkL _) ?_
    refine ⟨trivial, ?_⟩
    refine held_two (i := 2) (j := 4) (by kernel_rfl) ?_ ?_
    · obtain ⟨W12, hW12⟩ : ∃ W', W' = W11.alloc (.cells (madeCells #[.slice none 0 0] n) 47) := ⟨_, rfl⟩
      have hq12 : Below W11.heap.size W11 W12 := by rw [hW12]; exact below_alloc1 _ _
      have hy12 : W12.heap.size = W11.heap.size + 1 := by rw [hW12]; simp
      have hD12 : Rz W12 W11.heap.size 47 (madeCells #[.slice none 0 0] n) := by rw [hW12]; exact Rz.new _ _ _
      have hx12 : Below w.heap.size w W12 := hx11.trans (hq12.mono (by omega))
      have hR12 := hR11.next hq12
      have hV12 := hV11.next hq12
      refine op_make (i := 2) (v := .slice (some ⟨W11.heap.size, 0, none⟩) n n) (w' := W12) (x := .int .i64 (n : Int)) (y := .int .i64 (n : Int)) (some 7) 22 (.tmp 6) (.tmp 6) rfl rfl rfl rfl (by kernel_rfl) (by kernel_rfl) (by rw [hW12]; exact hmkD _) ?_
      refine ⟨trivial, ?_⟩
      refine held_one (i := 4) (by kernel_rfl) ?_
      · obtain ⟨W13, hW13⟩ : ∃ W', W' = W12.alloc (.cells (madeCells #[.slice none 0 0] n) 51) := ⟨_, rfl⟩
        have hq13 : Below W12.heap.size W12 W13 := by rw [hW13]; exact below_alloc1 _ _
        have hy13 : W13.heap.size = W12.heap.size + 1 := by rw [hW13]; simp
        have hA13 : Rz W13 W12.heap.size 51 (madeCells #[.slice none 0 0] n) := by rw [hW13]; exact Rz.new _ _ _
        have hx13 : Below w.heap.size w W13 := hx12.trans (hq13.mono (by omega))
        have hR13 := hR12.next hq13
        have hV13 := hV12.next hq13
        have hD13 := hD12.next hq13
        refine op_make (i := 4) (v := .slice (some ⟨W12.heap.size, 0, none⟩) n n) (w' := W13) (x := .int .i64 (n : Int)) (y := .int .i64 (n : Int)) (some 9) 23 (.tmp 8) (.tmp 8) rfl rfl rfl rfl (by kernel_rfl) (by kernel_rfl) (by rw [hW13]; exact hmkL _) ?_
        refine ⟨trivial, ?_⟩
        refine held_take (i := 7) (v := (.agg #[.int .i64 p, .slice (some ⟨W11.heap.size, 0, none⟩) n n, .slice (some ⟨W12.heap.size, 0, none⟩) n n, .slice (some ⟨w1.heap.size, 0, none⟩) n n])) (some 12) rfl rfl (by kernel_rfl) (by kernel_rfl) (by kernel_rfl) (fun _ _ _ h => h) (yieldsIf_run (by kernel_rfl) (fun W _ => by kernel_rfl)) trivial ?_
        have S9 : Below (w.heap.size + 1) w1 (W13.setRow w.heap.size #[.int .i64 p, .slice (some ⟨W11.heap.size, 0, none⟩) n n, .slice (some ⟨W12.heap.size, 0, none⟩) n n, .slice (some ⟨w1.heap.size, 0, none⟩) n n]) ∨ True := .inr trivial
        refine held_one (i := 8) (by kernel_rfl) ?_
        refine op_row (i := 8) rfl rfl rfl 29 (.tmp 4) (.tmp 12) rfl w.heap.size #[.int .i64 p, .slice (some ⟨W11.heap.size, 0, none⟩) n n, .slice (some ⟨W12.heap.size, 0, none⟩) n n, .slice (some ⟨w1.heap.size, 0, none⟩) n n] (by kernel_rfl) (by kernel_rfl) 29 _ hR13 (infoDb _ _ _ _) (by kernel_rfl) (by kernel_rfl) ?_
        refine ⟨trivial, ?_⟩
        refine wpAnyH_done (by kernel_rfl) ?_ _
        simp only [Act.put, List.setIfInBounds_toArray, List.set_cons_zero, List.set_cons_succ]
        obtain ⟨WF, hWF⟩ : ∃ WF, WF = (W13.setRow w.heap.size #[.int .i64 p, .slice (some ⟨W11.heap.size, 0, none⟩) n n, .slice (some ⟨W12.heap.size, 0, none⟩) n n, .slice (some ⟨w1.heap.size, 0, none⟩) n n]) := ⟨_, rfl⟩
        have hRF : Rz WF w.heap.size 29 #[.int .i64 p, .slice (some ⟨W11.heap.size, 0, none⟩) n n, .slice (some ⟨W12.heap.size, 0, none⟩) n n, .slice (some ⟨w1.heap.size, 0, none⟩) n n] := by rw [hWF]; exact Rz.set hR13 _
        have HBF : Hid (Below w.heap.size w WF) := Lib.hid (by rw [hWF]; exact below_setRow hx13 (Nat.le_refl _) _)
        have HDF : Hid (Rz WF (W11.heap.size) 47 (madeCells #[.slice none 0 0] n)) := Lib.hid (by rw [hWF]; exact Rz.off hD13 (by omega) _)
        have HAF : Hid (Rz WF (W12.heap.size) 51 (madeCells #[.slice none 0 0] n)) := Lib.hid (by rw [hWF]; exact Rz.off hA13 (by omega) _)
        have HVF : Hid (Rz WF (w1.heap.size) 51 (madeCells #[.slice none 0 0] n)) := Lib.hid (by rw [hWF]; exact Rz.off hV13 (by omega) _)
        have HNE : Hid ((w.heap.size < W11.heap.size ∧ w.heap.size < W12.heap.size ∧ w.heap.size < w1.heap.size) ∧ W11.heap.size ≠ W12.heap.size ∧ W11.heap.size ≠ w1.heap.size ∧ W12.heap.size ≠ w1.heap.size) := Lib.hid (by omega)
        have f0 := hRF.cell (i := 0) (v := _) rfl
        have f1 := hRF.cell (i := 1) (v := _) rfl
        have f2 := hRF.cell (i := 2) (v := _) rfl
        have f3 := hRF.cell (i := 3) (v := _) rfl
        rw [← hWF]
        clear hWF hRF
        go_wp2
        refine bodyPost_ret (v := .agg #[.int .i64 p, .slice (some ⟨W11.heap.size, 0, none⟩) n n, .slice (some ⟨W12.heap.size, 0, none⟩) n n, .slice (some ⟨w1.heap.size, 0, none⟩) n n]) ?_ rfl ⟨_, _, _, rfl, HNE.out.1, HNE.out.2, HDF.out, HAF.out, HVF.out, HBF.out⟩
        simp only [results, HRES.out]
        go_simp
    · obtain ⟨W14, hW14⟩ : ∃ W', W' = W11.alloc (.cells (madeCells #[.slice none 0 0] n) 51) := ⟨_, rfl⟩
      have hq14 : Below W11.heap.size W11 W14 := by rw [hW14]; exact below_alloc1 _ _
      have hy14 : W14.heap.size = W11.heap.size + 1 := by rw [hW14]; simp
      have hA14 : Rz W14 W11.heap.size 51 (madeCells #[.slice none 0 0] n) := by rw [hW14]; exact Rz.new _ _ _
      have hx14 : Below w.heap.size w W14 := hx11.trans (hq14.mono (by omega))
      have hR14 := hR11.next hq14
      have hV14 := hV11.next hq14
      refine op_make (i := 4) (v := .slice (some ⟨W11.heap.size, 0, none⟩) n n) (w' := W14) (x := .int .i64 (n : Int)) (y := .int .i64 (n : Int)) (some 9) 23 (.tmp 8) (.tmp 8) rfl rfl rfl rfl (by kernel_rfl) (by kernel_rfl) (by rw [hW14]; exact hmkL _) ?_
      refine ⟨trivial, ?_⟩
      refine held_one (i := 2) (by kernel_rfl) ?_
      · obtain ⟨W15, hW15⟩ : ∃ W', W' = W14.alloc (.cells (madeCells #[.slice none 0 0] n) 47) := ⟨_, rfl⟩
        have hq15 : Below W14.heap.size W14 W15 := by rw [hW15]; exact below_alloc1 _ _
        have hy15 : W15.heap.size = W14.heap.size + 1 := by rw [hW15]; simp
        have hD15 : Rz W15 W14.heap.size 47 (madeCells #[.slice none 0 0] n) := by rw [hW15]; exact Rz.new _ _ _
        have hx15 : Below w.heap.size w W15 := hx14.trans (hq15.mono (by omega))
        have hR15 := hR14.next hq15
        have hV15 := hV14.next hq15
        have hA15 := hA14.next hq15
        refine op_make (i := 2) (v := .slice (some ⟨W14.heap.size, 0, none⟩) n n) (w' := W15) (x := .int .i64 (n : Int)) (y := .int .i64 (n : Int)) (some 7) 22 (.tmp 6) (.tmp 6) rfl rfl rfl rfl (by kernel_rfl) (by kernel_rfl) (by rw [hW15]; exact hmkD _) ?_
        refine ⟨trivial, ?_⟩
        refine held_take (i := 7) (v := (.agg #[.int .i64 p, .slice (some ⟨W14.heap.size, 0, none⟩) n n, .slice (some ⟨W11.heap.size, 0, none⟩) n n, .slice (some ⟨w1.heap.size, 0, none⟩) n n])) (some 12) rfl rfl (by kernel_rfl) (by kernel_rfl) (by kernel_rfl) (fun _ _ _ h => h) (yieldsIf_run (by kernel_rfl) (fun W _ => by kernel_rfl)) trivial ?_
        have S9 : Below (w.heap.size + 1) w1 (W15.setRow w.heap.size #[.int .i64 p, .slice (some ⟨W14.heap.size, 0, none⟩) n n, .slice (some ⟨W11.heap.size, 0, none⟩) n n, .slice (some ⟨w1.heap.size, 0, none⟩) n n]) ∨ True := .inr trivial
        refine held_one (i := 8) (by kernel_rfl) ?_
        refine op_row (i := 8) rfl rfl rfl 29 (.tmp 4) (.tmp 12) rfl w.heap.size #[.int .i64 p, .slice (some ⟨W14.heap.size, 0, none⟩) n n, .slice (some ⟨W11.heap.size, 0, none⟩) n n, .slice (some ⟨w1.heap.size, 0, none⟩) n n] (by kernel_rfl) (by kernel_rfl) 29 _ hR15 (infoDb _ _ _ _) (by kernel_rfl) (by kernel_rfl) ?_
        refine ⟨trivial, ?_⟩
        refine wpAnyH_done (by kernel_rfl) ?_ _
        simp only [Act.put, List.setIfInBounds_toArray, List.set_cons_zero, List.set_cons_succ]
        obtain ⟨WF, hWF⟩ : ∃ WF, WF = (W15.setRow w.heap.size #[.int .i64 p, .slice (some ⟨W14.heap.size, 0, none⟩) n n, .slice (some ⟨W11.heap.size, 0, none⟩) n n, .slice (some ⟨w1.heap.size, 0, none⟩) n n]) := ⟨_, rfl⟩
        have hRF : Rz WF w.heap.size 29 #[.int .i64 p, .slice (some ⟨W14.heap.size, 0, none⟩) n n, .slice (some ⟨W11.heap.size, 0, none⟩) n n, .slice (some ⟨w1.heap.size, 0, none⟩) n n] := by rw [hWF]; exact Rz.set hR15 _
        have HBF : Hid (Below w.heap.size w WF) := Lib.hid (by rw [hWF]; exact below_setRow hx15 (Nat.le_refl _) _)
        have HDF : Hid (Rz WF (W14.heap.size) 47 (madeCells #[.slice none 0 0] n)) := Lib.hid (by rw [hWF]; exact Rz.off hD15 (by omega) _)
        have HAF : Hid (Rz WF (W11.heap.size) 51 (madeCells #[.slice none 0 0] n)) := Lib.hid (by rw [hWF]; exact Rz.off hA15 (by omega) _)
        have HVF : Hid (Rz WF (w1.heap.size) 51 (madeCells #[.slice none 0 0] n)) := Lib.hid (by rw [hWF]; exact Rz.off hV15 (by omega) _)
        have HNE : Hid ((w.heap.size < W14.heap.size ∧ w.heap.size < W11.heap.size ∧ w.heap.size < w1.heap.size) ∧ W14.heap.size ≠ W11.heap.size ∧ W14.heap.size ≠ w1.heap.size ∧ W11.heap.size ≠ w1.heap.size) := Lib.hid (by omega)
        have f0 := hRF.cell (i := 0) (v := _) rfl
        have f1 := hRF.cell (i := 1) (v := _) rfl
        have f2 := hRF.cell (i := 2) (v := _) rfl
        have f3 := hRF.cell (i := 3) (v := _) rfl
        rw [← hWF]
        clear hWF hRF
        go_wp2
        refine bodyPost_ret (v := .agg #[.int .i64 p, .slice (some ⟨W14.heap.size, 0, none⟩) n n, .slice (some ⟨W11.heap.size, 0, none⟩) n n, .slice (some ⟨w1.heap.size, 0, none⟩) n n]) ?_ rfl ⟨_, _, _, rfl, HNE.out.1, HNE.out.2, HDF.out, HAF.out, HVF.out, HBF.out⟩
        simp only [results, HRES.out]
        go_simp

theorem made_row {lo : Nat} {w : World} {g n : Nat} {e : TypeId} (h : Rz w g e (madeCells #[.slice none 0 0] n)) (hb : lo ≤ g) (hn : n ≤ maxLen) : w.ownsRow lo e 1 (.slice (some ⟨g, 0, none⟩) n n) n (List.replicate n (.slice none 0 0)) := by
  have hl : (madeCells #[(.slice none 0 0 : Value)] n).toList = List.replicate n (.slice none 0 0) := List.ext_getElem (by simp [size_madeCells]) (fun i h1 h2 => by simp [madeCells, Nat.mod_one])
  refine ⟨by simp, .inr ⟨g, n, _, rfl, hb, h, Nat.le_refl _, hn, by simp [size_madeCells], ?_⟩⟩
  rw [hl, Nat.mul_one, List.take_replicate, Nat.min_self]
/-- The tags of a made double complex. -/
def tg0 (D A V : Nat) (b : Nat) : Nat := if b = D then 1 else if b = A then 2 else if b = V then 3 else 0
theorem fl_made {base n D A V : Nat} {w : World} (hb : base ≤ D ∧ base ≤ A ∧ base ≤ V) (hne : D ≠ A ∧ D ≠ V ∧ A ≠ V) (hD : Rz w D 47 (madeCells #[.slice none 0 0] n)) (hA : Rz w A 51 (madeCells #[.slice none 0 0] n)) (hV : Rz w V 51 (madeCells #[.slice none 0 0] n)) (hn : n ≤ maxLen) :
    Fl (tg0 D A V) base w D A V n (List.replicate n (.slice none 0 0)) (List.replicate n (.slice none 0 0)) (List.replicate n (.slice none 0 0)) (List.replicate n []) (List.replicate n []) (List.replicate n []) := by
  refine ⟨⟨made_row hD hb.1 hn, fun g hg => ?_⟩, ⟨made_row hA hb.2.1 hn, fun g hg => ?_⟩, ⟨made_row hV hb.2.2 hn, fun g hg => ?_⟩, by simp, by simp, by simp, fun i h1 h2 => ?_, fun i h1 h2 => ?_, fun i h1 h2 => ?_, fun b hbb => ?_⟩
  · have e : D = g := by simpa [Value.ownBlock] using hg
    rw [← e]
    exact if_pos rfl
  · have e : A = g := by simpa [Value.ownBlock] using hg
    rw [← e]
    unfold tg0
    rw [if_neg (fun h => hne.1 h.symm), if_pos rfl]
  · have e : V = g := by simpa [Value.ownBlock] using hg
    rw [← e]
    unfold tg0
    rw [if_neg (fun h => hne.2.1 h.symm), if_neg (fun h => hne.2.2 h.symm), if_pos rfl]
  · rw [List.getElem_replicate, List.getElem_replicate]
    exact TI.nil _ _ _ _
  · rw [List.getElem_replicate, List.getElem_replicate]
    exact TTabs.nil _ _ _ _ _
  · rw [List.getElem_replicate, List.getElem_replicate]
    exact TTabs.nil _ _ _ _ _
  · unfold tg0
    rw [if_neg (by omega), if_neg (by omega), if_neg (by omega)]
end Go.Proofs.YtlopenephgabhaaGreat


namespace Go.Proofs.YtlopenephgabhaaGreat
open Go.RowKit

section
variable {ops : Array Oper} {Q : Exit → Act → World → Prop} {n : Nat}
theorem lastQ_storeL {on : Oper} {a : Act} {w : World} (hn : ops[n]? = some on) (hg : on.guard = none) (_ : on.dst = none) (x y : Operand) (ho : on.op = .store 51 x y)
    (b o : Nat) (ad : Option Addr) (l c : Nat) (u : Value) (hx : a.eval x = .pointer (some ⟨b, o, none⟩)) (hy : a.eval y = .slice ad l c) (hc : w.cell? ⟨b, o, none⟩ = some u) (hf : w.frozen? ⟨b, o, none⟩ = false)
    (h : Q .normal a (w.setCell ⟨b, o, none⟩ (.slice ad l c))) : lastQ Tryz.prog ops n Q .normal a w :=
  lastQ_of hn hg (by
    unfold Oper.wp execOp
    simp only [ho, hx, hy]
    go_simp
    exact h)
end
set_option maxRecDepth 100000 in
set_option maxHeartbeats 6400000 in
theorem addCell_any (p : Int) (L0 : Nat → Nat) (base D A V n G i : Nat) (dim : Int) (ua uv : Value) (dvs avs vvs : List Value) (d2 : List (List Int)) (a2 v2 : List (List (List (List Int)))) (ta tv : List (List Int)) (X0 : World) (hF : Fl L0 base X0 D A V n dvs avs vvs d2 a2 v2) (hn : n ≤ 20) (hi20 : i < n)
    (hGB : X0.heap[G]? = some (.cells #[.int .i64 p, .slice (some ⟨D, 0, none⟩) n n, .slice (some ⟨A, 0, none⟩) n n, .slice (some ⟨V, 0, none⟩) n n] 29 (0, 0))) (hGL : L0 G = 0) (hia : i < a2.length) (hiv : i < v2.length) (hid : i < d2.length)
    (hta : TTab L0 (100 + 200 * i + a2[i].length) base X0 ua ta) (htv : TTab L0 (200 + 200 * i + v2[i].length) base X0 uv tv) (hd50 : (d2[i]).length ≤ 1000) (ha50 : (a2[i]).length ≤ 1000) (hv50 : (v2[i]).length ≤ 1000) :
    Calls Tryz.prog 74 #[.pointer (some ⟨G, 0, none⟩), .int .i64 (i : Int), .int .i64 dim, ua, uv] X0 fun e W' => e = .returned (.tuple #[]) ∧ ∃ (L' : Nat → Nat) (dvs' avs' vvs' : List Value), Fl L' base W' D A V n dvs' avs' vvs' (d2.set i (d2[i] ++ [dim])) (a2.set i (a2[i] ++ [ta])) (v2.set i (v2[i] ++ [tv])) ∧ Frm L0 L' X0 W' := by
  have hres : Tryz.f74.results = #[] := by kernel_rfl
  have HRES := Lib.hid hres
  have him : i < n := hi20
  obtain ⟨xa, ya, rfl⟩ := Sl.shape hta.l2
  obtain ⟨xv, yv, rfl⟩ := Sl.shape htv.l2
  obtain ⟨na, hna⟩ : ∃ q, q = ta.length := ⟨_, rfl⟩
  obtain ⟨nv, hnv⟩ : ∃ q, q = tv.length := ⟨_, rfl⟩
  rw [← hna] at hta ⊢
  rw [← hnv] at htv ⊢
  clear hna hnv
  have HF0 := Lib.hid hF
  have HTA0 := Lib.hid hta
  have HTV0 := Lib.hid htv
  have HGB0 := Lib.hid hGB
  have HGL0 := Lib.hid hGL
  have HGC0 : Hid (X0.cell? ⟨G, 1, none⟩ = some (.slice (some ⟨D, 0, none⟩) n n) ∧ X0.cell? ⟨G, 2, none⟩ = some (.slice (some ⟨A, 0, none⟩) n n) ∧ X0.cell? ⟨G, 3, none⟩ = some (.slice (some ⟨V, 0, none⟩) n n)) := Lib.hid ⟨by simp [World.cell?, hGB], by simp [World.cell?, hGB], by simp [World.cell?, hGB]⟩
  clear hF hta htv hGB hGL hres
  go_enter Tryz.func74, Tryz.ntmps74
  have hi0 : i < dvs.length := by have := HF0.out.lens; omega
  have hrow0 := HF0.out.dr i hi0 hid
  obtain ⟨hcl0, hfz0, hLB0, _⟩ := HF0.out.d0.at' hi0
  obtain ⟨aw0, cw0, hsh0⟩ := Sl.shape hrow0.1.l1
  obtain ⟨nw0, hnw0⟩ : ∃ q, q = (d2[i]).length := ⟨_, rfl⟩
  rw [← hnw0] at hsh0
  clear hnw0
  rw [hsh0] at hrow0 hcl0
  clear hsh0
  have HGO0 : Hid (∀ X, X0.grownBy X (Value.slice aw0 nw0 cw0).ownBlock → X.cell? ⟨G, 1, none⟩ = some (.slice (some ⟨D, 0, none⟩) n n) ∧ X.cell? ⟨D, i, none⟩ = some (.slice aw0 nw0 cw0) ∧ X.frozen? ⟨D, i, none⟩ = false) := Lib.hid (fun X hg => by
    have hnB : some D ≠ (Value.slice aw0 nw0 cw0).ownBlock := fun e => by have := hrow0.2 D e.symm; omega
    have hnG : some G ≠ (Value.slice aw0 nw0 cw0).ownBlock := fun e => by have := hrow0.2 G e.symm; have := HGL0.out; omega
    have hlB := (X0.block_lt_of_cell? ⟨D, i, none⟩ hcl0)
    exact ⟨hg.cell HGC0.out.1 hnG, hg.cell hcl0 hnB, (World.frozen?_of_block (hg.block D hlB hnB)).trans hfz0⟩)
  have HROW0 := Lib.hid hrow0
  clear hcl0 hfz0
  go_upto_region 0 with fail
  refine wp_region_last (fun X => X0.grownBy X (Value.slice aw0 nw0 cw0).ownBlock) 16 (by kernel_rfl) rfl (by kernel_rfl) ?_
  have S0 : X0.grownBy X0.drew (Value.slice aw0 nw0 cw0).ownBlock := ⟨rfl, rfl, rfl, Nat.le_refl _, fun _ _ _ => rfl⟩
  have hbd : Below X0.heap.size X0 X0.drew := (Below.refl _ _).drew
  change wpAnyH _ _ _ _ _ _ _ _ X0.drew
  obtain ⟨wd, hwd⟩ : ∃ wd, wd = X0.drew := ⟨_, rfl⟩
  rw [← hwd] at S0 hbd ⊢
  clear hwd
  refine held_take (i := 0) (v := (.pointer (some ⟨G, 0, none⟩))) (some 10) rfl rfl (by kernel_rfl) (by kernel_rfl) (by kernel_rfl) (fun _ _ _ h => h) (yieldsIf_move (by kernel_rfl) rfl (by kernel_rfl)) S0 ?_
  refine held_take (i := 1) (v := (.pointer (some ⟨G, 0, none⟩))) (some 11) rfl rfl (by kernel_rfl) (by kernel_rfl) (by kernel_rfl) (fun _ _ _ h => h) (yieldsIf_run (by kernel_rfl) (fun W _ => by kernel_rfl)) S0 ?_
  refine held_take (i := 2) (v := (.pointer (some ⟨G, 1, none⟩))) (some 12) rfl rfl (by kernel_rfl) (by kernel_rfl) (by kernel_rfl) (fun _ _ _ h => h) (yieldsIf_run (by kernel_rfl) (fun W _ => by kernel_rfl)) S0 ?_
  refine held_take (i := 3) (v := (.slice (some ⟨D, 0, none⟩) n n)) (some 13) rfl rfl (by kernel_rfl) (by kernel_rfl) (by kernel_rfl) (fun _ _ _ h => h) (yieldsIf_cell (by kernel_rfl) rfl (by kernel_rfl) (fun W h => hload2s W (HGO0.out W h).1)) S0 ?_
  refine held_take (i := 4) (v := (.int .i64 (i : Int))) (some 14) rfl rfl (by kernel_rfl) (by kernel_rfl) (by kernel_rfl) (fun _ _ _ h => h) (yieldsIf_move (by kernel_rfl) rfl (by kernel_rfl)) S0 ?_
  refine held_take (i := 5) (v := (.pointer (some ⟨G, 0, none⟩))) (some 15) rfl rfl (by kernel_rfl) (by kernel_rfl) (by kernel_rfl) (fun _ _ _ h => h) (yieldsIf_move (by kernel_rfl) rfl (by kernel_rfl)) S0 ?_
  refine held_take (i := 6) (v := (.pointer (some ⟨G, 0, none⟩))) (some 16) rfl rfl (by kernel_rfl) (by kernel_rfl) (by kernel_rfl) (fun _ _ _ h => h) (yieldsIf_run (by kernel_rfl) (fun W _ => by kernel_rfl)) S0 ?_
  refine held_take (i := 7) (v := (.pointer (some ⟨G, 1, none⟩))) (some 17) rfl rfl (by kernel_rfl) (by kernel_rfl) (by kernel_rfl) (fun _ _ _ h => h) (yieldsIf_run (by kernel_rfl) (fun W _ => by kernel_rfl)) S0 ?_
  refine held_take (i := 8) (v := (.slice (some ⟨D, 0, none⟩) n n)) (some 18) rfl rfl (by kernel_rfl) (by kernel_rfl) (by kernel_rfl) (fun _ _ _ h => h) (yieldsIf_cell (by kernel_rfl) rfl (by kernel_rfl) (fun W h => hload2s W (HGO0.out W h).1)) S0 ?_
  refine held_take (i := 9) (v := (.int .i64 (i : Int))) (some 19) rfl rfl (by kernel_rfl) (by kernel_rfl) (by kernel_rfl) (fun _ _ _ h => h) (yieldsIf_move (by kernel_rfl) rfl (by kernel_rfl)) S0 ?_
  refine held_take (i := 10) (v := (.pointer (some ⟨D, 0 + i, none⟩))) (some 20) rfl rfl (by kernel_rfl) (by kernel_rfl) (by kernel_rfl) (fun _ _ _ h => h) (yieldsIf_index (by kernel_rfl) rfl (by kernel_rfl) (by kernel_rfl) (hidx2s D 0 n him)) S0 ?_
  refine held_take (i := 11) (v := (.slice aw0 nw0 cw0)) (some 21) rfl rfl (by kernel_rfl) (by kernel_rfl) (by kernel_rfl) (fun _ _ _ h => h) (yieldsIf_cell (by kernel_rfl) rfl (by kernel_rfl) (fun W h => hload1s (b := D) (o := 0 + i) W (by rw [Nat.zero_add]; exact (HGO0.out W h).2.1))) S0 ?_
  refine held_take (i := 12) (v := (.int .i64 dim)) (some 22) rfl rfl (by kernel_rfl) (by kernel_rfl) (by kernel_rfl) (fun _ _ _ h => h) (yieldsIf_move (by kernel_rfl) rfl (by kernel_rfl)) S0 ?_
  obtain ⟨w7, hw7⟩ : ∃ w7, w7 = wd.alloc (.cells #[.int .i64 dim] 2) := ⟨_, rfl⟩
  have hb7 : Below X0.heap.size X0 w7 := hbd.trans ((by rw [hw7]; exact below_alloc1 _ _ : Below wd.heap.size wd w7).mono hbd.size)
  have hc7 : w7.cell? ⟨wd.heap.size, 0, none⟩ = some (.int .i64 dim) := by rw [hw7]; exact cell_alloc1 _ _ _
  have S7 : X0.grownBy w7 (Value.slice aw0 nw0 cw0).ownBlock := ⟨hb7.os, hb7.tape, hb7.output, hb7.size, fun k hk _ => hb7.block k hk⟩
  refine held_mem (i := 13) (v := .slice (some ⟨wd.heap.size, 0, none⟩) 1 1) (w' := w7) (some 23) (by kernel_rfl) rfl rfl rfl (by rw [hw7]; go_simp) S7 ?_
  have st7 : Stp1 L0 L0 0 X0 w7 := Stp1.of_below hb7 (fun _ _ => rfl) 0
  have hbs7 : base ≤ w7.heap.size := by have := HF0.out.base_le; have := hb7.size; omega
  obtain ⟨g9, c9, W9, hrun, hgr9, hg9, hL9⟩ := (HROW0.out.kept st7 (by omega)).append wd.heap.size dim hc7 hd50 hbs7
  obtain ⟨L1, hLd⟩ : ∃ M : Nat → Nat, M = fun b => if b < w7.heap.size then L0 b else (4 + 3 * i) := ⟨_, rfl⟩
  have hLo : ∀ b, b < w7.heap.size → L1 b = L0 b := fun b hb => by rw [hLd]; exact if_pos hb
  have hLn : ∀ b, w7.heap.size ≤ b → L1 b = (4 + 3 * i) := fun b hb => by rw [hLd]; exact if_neg (by omega)
  clear hLd
  have hr9 := hL9 L1 hLo hLn
  have S9 : X0.grownBy W9 (Value.slice aw0 nw0 cw0).ownBlock := ⟨hgr9.os.trans S7.os, hgr9.tape.trans S7.tape, hgr9.output.trans S7.output, Nat.le_trans S7.size hgr9.size, fun k hk hne => (hgr9.block k (Nat.lt_of_lt_of_le hk S7.size) hne).trans (S7.block k hk hne)⟩
  have st9 : Stp1 L0 L1 (4 + 3 * i) X0 W9 := ⟨⟨_, S9, fun q e _ => .inl (HROW0.out.2 q e)⟩, fun b hb => hLo b (Nat.lt_of_lt_of_le hb hb7.size)⟩
  refine held_app (i := 14) (v := .slice (some ⟨g9, 0, none⟩) ((d2[i]).length + 1) c9) (w' := W9) (x := .slice aw0 nw0 cw0) (y := .slice (some ⟨wd.heap.size, 0, none⟩) 1 1) (some 24) #[47, 47] (.tmp 21) (.tmp 23) (by kernel_rfl) rfl rfl rfl rfl (by kernel_rfl) (by kernel_rfl) (fun _ => hrun) S9 ?_
  refine held_take (i := 15) (v := (.pointer (some ⟨D, 0 + i, none⟩))) (some 25) rfl rfl (by kernel_rfl) (by kernel_rfl) (by kernel_rfl) (fun _ _ _ h => h) (yieldsIf_index (by kernel_rfl) rfl (by kernel_rfl) (by kernel_rfl) (hidx2s D 0 n him)) S9 ?_
  refine held_none (i := 16) (v := .bool false) rfl rfl (by kernel_rfl) (by kernel_rfl) (by kernel_rfl) (fun _ _ _ h => h) (yieldsIf_move (by kernel_rfl) rfl (by kernel_rfl)) S9 ?_
  refine wpAnyH_done (by kernel_rfl) (lastQ_storeN rfl (by kernel_rfl) (by kernel_rfl) (.tmp 25) (.tmp 24) (by kernel_rfl) D (0 + i) (some ⟨g9, 0, none⟩) ((d2[i]).length + 1) c9 (.slice aw0 nw0 cw0) (by kernel_rfl) (by kernel_rfl) (by rw [Nat.zero_add]; exact (HGO0.out W9 S9).2.1) (by rw [Nat.zero_add]; exact (HGO0.out W9 S9).2.2) ?_) _
  simp only [Act.put, List.setIfInBounds_toArray, List.set_cons_zero, List.set_cons_succ]
  rw [Nat.zero_add]
  have hfl := HF0.out.growD hi20 hn st9 hr9
  have hk9 : (4 + 3 * i) ≠ 0 := by omega
  have hLB9 : L1 D = 1 := by rw [st9.old D (by have := (HF0.out.d0.1.lt D rfl).2; exact this)]; exact hLB0
  have hfr1 : Frm L0 L1 X0 W9 := Frm.grow (HROW0.out.tr) hk9 S9 (fun b hb => hLo b (Nat.lt_of_lt_of_le hb hb7.size))
  have hfr2 : Frm L1 L1 W9 (W9.setCell ⟨D, i, none⟩ (.slice (some ⟨g9, 0, none⟩) ((d2[i]).length + 1) c9)) := Frm.of_set hLB9 (by omega) _ _
  have s2 : Stp1 L1 L1 1 W9 (W9.setCell ⟨D, i, none⟩ (.slice (some ⟨g9, 0, none⟩) ((d2[i]).length + 1) c9)) := Stp1.of_set hLB9 _ _ _
  have HTA1 : Hid (TTab L1 (100 + 200 * i + a2[i].length) base (W9.setCell ⟨D, i, none⟩ (.slice (some ⟨g9, 0, none⟩) ((d2[i]).length + 1) c9)) (.slice xa na ya) ta) := Lib.hid ((HTA0.out.kept st9 (by omega)).kept s2 (by omega))
  have HTV1 : Hid (TTab L1 (200 + 200 * i + v2[i].length) base (W9.setCell ⟨D, i, none⟩ (.slice (some ⟨g9, 0, none⟩) ((d2[i]).length + 1) c9)) (.slice xv nv yv) tv) := Lib.hid ((HTV0.out.kept st9 (by omega)).kept s2 (by omega))
  have hfrm := hfr1.trans hfr2
  have HGB1 : Hid ((W9.setCell ⟨D, i, none⟩ (.slice (some ⟨g9, 0, none⟩) ((d2[i]).length + 1) c9)).heap[G]? = some (.cells #[.int .i64 p, .slice (some ⟨D, 0, none⟩) n n, .slice (some ⟨A, 0, none⟩) n n, .slice (some ⟨V, 0, none⟩) n n] 29 (0, 0))) := Lib.hid ((hfrm.blk G (Array.getElem?_eq_some_iff.1 HGB0.out).1 HGL0.out).trans HGB0.out)
  have HGL1 : Hid (L1 G = 0) := Lib.hid ((hfrm.old G (Array.getElem?_eq_some_iff.1 HGB0.out).1).trans HGL0.out)
  have HFR1 := Lib.hid (hfrm)
  have HF1 := Lib.hid hfl
  obtain ⟨X1, hX⟩ : ∃ X, X = W9.setCell ⟨D, i, none⟩ (.slice (some ⟨g9, 0, none⟩) ((d2[i]).length + 1) c9) := ⟨_, rfl⟩
  rw [← hX] at HGB1 HFR1 HF1 HTV1 HTA1 ⊢
  have HGC1 : Hid (X1.cell? ⟨G, 1, none⟩ = some (.slice (some ⟨D, 0, none⟩) n n) ∧ X1.cell? ⟨G, 2, none⟩ = some (.slice (some ⟨A, 0, none⟩) n n) ∧ X1.cell? ⟨G, 3, none⟩ = some (.slice (some ⟨V, 0, none⟩) n n)) := Lib.hid ⟨by simp [World.cell?, HGB1.out], by simp [World.cell?, HGB1.out], by simp [World.cell?, HGB1.out]⟩
  clear hX hfl hfrm hfr1 hfr2 s2 st9 S0 S7 S9 hbd hb7 hc7 st7 hrun hgr9 hL9 hLo hLn hr9 hLB9 hLB0 hrow0 hw7 hg9 hbs7 hk9
  have hi1 : i < avs.length := by have := HF1.out.lens; omega
  have hrow1 := HF1.out.ar i hi1 hia
  obtain ⟨hcl1, hfz1, hLB1, _⟩ := HF1.out.a0.at' hi1
  obtain ⟨aw1, nw1, cw1, hsh1, _⟩ := hrow1.cap
  rw [hsh1] at hrow1 hcl1
  clear hsh1
  have hown1 : ∀ g, (Value.slice aw1 nw1 cw1).ownBlock = some g → L1 g = (5 + 3 * i) := by obtain ⟨_, ho, _⟩ := hrow1; exact ho.2
  have HGO1 : Hid (∀ X, X1.grownBy X (Value.slice aw1 nw1 cw1).ownBlock → X.cell? ⟨G, 2, none⟩ = some (.slice (some ⟨A, 0, none⟩) n n) ∧ X.cell? ⟨A, i, none⟩ = some (.slice aw1 nw1 cw1) ∧ X.frozen? ⟨A, i, none⟩ = false) := Lib.hid (fun X hg => by
    have hnB : some A ≠ (Value.slice aw1 nw1 cw1).ownBlock := fun e => by have := hown1 A e.symm; omega
    have hnG : some G ≠ (Value.slice aw1 nw1 cw1).ownBlock := fun e => by have := hown1 G e.symm; have := HGL1.out; omega
    have hlB := (X1.block_lt_of_cell? ⟨A, i, none⟩ hcl1)
    exact ⟨hg.cell HGC1.out.2.1 hnG, hg.cell hcl1 hnB, (World.frozen?_of_block (hg.block A hlB hnB)).trans hfz1⟩)
  have HROW1 := Lib.hid hrow1
  clear hcl1 hfz1
  go_upto_region 1 with fail
  refine wp_region_last (fun X => X1.grownBy X (Value.slice aw1 nw1 cw1).ownBlock) 16 (by kernel_rfl) rfl (by kernel_rfl) ?_
  have S0 : X1.grownBy X1.drew (Value.slice aw1 nw1 cw1).ownBlock := ⟨rfl, rfl, rfl, Nat.le_refl _, fun _ _ _ => rfl⟩
  have hbd : Below X1.heap.size X1 X1.drew := (Below.refl _ _).drew
  change wpAnyH _ _ _ _ _ _ _ _ X1.drew
  obtain ⟨wd, hwd⟩ : ∃ wd, wd = X1.drew := ⟨_, rfl⟩
  rw [← hwd] at S0 hbd ⊢
  clear hwd
  refine held_take (i := 0) (v := (.pointer (some ⟨G, 0, none⟩))) (some 26) rfl rfl (by kernel_rfl) (by kernel_rfl) (by kernel_rfl) (fun _ _ _ h => h) (yieldsIf_move (by kernel_rfl) rfl (by kernel_rfl)) S0 ?_
  refine held_take (i := 1) (v := (.pointer (some ⟨G, 0, none⟩))) (some 27) rfl rfl (by kernel_rfl) (by kernel_rfl) (by kernel_rfl) (fun _ _ _ h => h) (yieldsIf_run (by kernel_rfl) (fun W _ => by kernel_rfl)) S0 ?_
  refine held_take (i := 2) (v := (.pointer (some ⟨G, 2, none⟩))) (some 28) rfl rfl (by kernel_rfl) (by kernel_rfl) (by kernel_rfl) (fun _ _ _ h => h) (yieldsIf_run (by kernel_rfl) (fun W _ => by kernel_rfl)) S0 ?_
  refine held_take (i := 3) (v := (.slice (some ⟨A, 0, none⟩) n n)) (some 29) rfl rfl (by kernel_rfl) (by kernel_rfl) (by kernel_rfl) (fun _ _ _ h => h) (yieldsIf_cell (by kernel_rfl) rfl (by kernel_rfl) (fun W h => hload4 W (HGO1.out W h).1)) S0 ?_
  refine held_take (i := 4) (v := (.int .i64 (i : Int))) (some 30) rfl rfl (by kernel_rfl) (by kernel_rfl) (by kernel_rfl) (fun _ _ _ h => h) (yieldsIf_move (by kernel_rfl) rfl (by kernel_rfl)) S0 ?_
  refine held_take (i := 5) (v := (.pointer (some ⟨G, 0, none⟩))) (some 31) rfl rfl (by kernel_rfl) (by kernel_rfl) (by kernel_rfl) (fun _ _ _ h => h) (yieldsIf_move (by kernel_rfl) rfl (by kernel_rfl)) S0 ?_
  refine held_take (i := 6) (v := (.pointer (some ⟨G, 0, none⟩))) (some 32) rfl rfl (by kernel_rfl) (by kernel_rfl) (by kernel_rfl) (fun _ _ _ h => h) (yieldsIf_run (by kernel_rfl) (fun W _ => by kernel_rfl)) S0 ?_
  refine held_take (i := 7) (v := (.pointer (some ⟨G, 2, none⟩))) (some 33) rfl rfl (by kernel_rfl) (by kernel_rfl) (by kernel_rfl) (fun _ _ _ h => h) (yieldsIf_run (by kernel_rfl) (fun W _ => by kernel_rfl)) S0 ?_
  refine held_take (i := 8) (v := (.slice (some ⟨A, 0, none⟩) n n)) (some 34) rfl rfl (by kernel_rfl) (by kernel_rfl) (by kernel_rfl) (fun _ _ _ h => h) (yieldsIf_cell (by kernel_rfl) rfl (by kernel_rfl) (fun W h => hload4 W (HGO1.out W h).1)) S0 ?_
  refine held_take (i := 9) (v := (.int .i64 (i : Int))) (some 35) rfl rfl (by kernel_rfl) (by kernel_rfl) (by kernel_rfl) (fun _ _ _ h => h) (yieldsIf_move (by kernel_rfl) rfl (by kernel_rfl)) S0 ?_
  refine held_take (i := 10) (v := (.pointer (some ⟨A, 0 + i, none⟩))) (some 36) rfl rfl (by kernel_rfl) (by kernel_rfl) (by kernel_rfl) (fun _ _ _ h => h) (yieldsIf_index (by kernel_rfl) rfl (by kernel_rfl) (by kernel_rfl) (hidx4 (cap := n) rfl him)) S0 ?_
  refine held_take (i := 11) (v := (.slice aw1 nw1 cw1)) (some 37) rfl rfl (by kernel_rfl) (by kernel_rfl) (by kernel_rfl) (fun _ _ _ h => h) (yieldsIf_cell (by kernel_rfl) rfl (by kernel_rfl) (fun W h => hload3s (b := A) (o := 0 + i) W (by rw [Nat.zero_add]; exact (HGO1.out W h).2.1))) S0 ?_
  refine held_take (i := 12) (v := (.slice xa na ya)) (some 38) rfl rfl (by kernel_rfl) (by kernel_rfl) (by kernel_rfl) (fun _ _ _ h => h) (yieldsIf_move (by kernel_rfl) rfl (by kernel_rfl)) S0 ?_
  obtain ⟨w7, hw7⟩ : ∃ w7, w7 = wd.alloc (.cells #[.slice xa na ya] 22) := ⟨_, rfl⟩
  have hb7 : Below X1.heap.size X1 w7 := hbd.trans ((by rw [hw7]; exact below_alloc1 _ _ : Below wd.heap.size wd w7).mono hbd.size)
  have hc7 : w7.cell? ⟨wd.heap.size, 0, none⟩ = some (.slice xa na ya) := by rw [hw7]; exact cell_alloc1 _ _ _
  have S7 : X1.grownBy w7 (Value.slice aw1 nw1 cw1).ownBlock := ⟨hb7.os, hb7.tape, hb7.output, hb7.size, fun k hk _ => hb7.block k hk⟩
  refine held_mem (i := 13) (v := .slice (some ⟨wd.heap.size, 0, none⟩) 1 1) (w' := w7) (some 39) (by kernel_rfl) rfl rfl rfl (by rw [hw7]; go_simp) S7 ?_
  have st7 : Stp1 L1 L1 0 X1 w7 := Stp1.of_below hb7 (fun _ _ => rfl) 0
  have hbs7 : base ≤ w7.heap.size := by have := HF1.out.base_le; have := hb7.size; omega
  obtain ⟨g9, c9, W9, hrun, hgr9, hg9, hL9⟩ := (HROW1.out.kept st7 (by omega) (fun x _ => by show 100 + 200 * i + x ≠ 0; omega)).append (fun x _ => by show 100 + 200 * i + x ≠ (5 + 3 * i); omega) (HTA1.out.kept st7 (by omega)) wd.heap.size hc7 ha50 hbs7
  obtain ⟨L2, hLd⟩ : ∃ M : Nat → Nat, M = fun b => if b < w7.heap.size then L1 b else (5 + 3 * i) := ⟨_, rfl⟩
  have hLo : ∀ b, b < w7.heap.size → L2 b = L1 b := fun b hb => by rw [hLd]; exact if_pos hb
  have hLn : ∀ b, w7.heap.size ≤ b → L2 b = (5 + 3 * i) := fun b hb => by rw [hLd]; exact if_neg (by omega)
  clear hLd
  have hr9 := hL9 L2 hLo hLn
  have S9 : X1.grownBy W9 (Value.slice aw1 nw1 cw1).ownBlock := ⟨hgr9.os.trans S7.os, hgr9.tape.trans S7.tape, hgr9.output.trans S7.output, Nat.le_trans S7.size hgr9.size, fun k hk hne => (hgr9.block k (Nat.lt_of_lt_of_le hk S7.size) hne).trans (S7.block k hk hne)⟩
  have st9 : Stp1 L1 L2 (5 + 3 * i) X1 W9 := ⟨⟨_, S9, fun q e _ => .inl (hown1 q e)⟩, fun b hb => hLo b (Nat.lt_of_lt_of_le hb hb7.size)⟩
  refine held_app (i := 14) (v := .slice (some ⟨g9, 0, none⟩) ((a2[i]).length + 1) c9) (w' := W9) (x := .slice aw1 nw1 cw1) (y := .slice (some ⟨wd.heap.size, 0, none⟩) 1 1) (some 40) #[51, 51] (.tmp 37) (.tmp 39) (by kernel_rfl) rfl rfl rfl rfl (by kernel_rfl) (by kernel_rfl) (fun _ => hrun) S9 ?_
  refine held_take (i := 15) (v := (.pointer (some ⟨A, 0 + i, none⟩))) (some 41) rfl rfl (by kernel_rfl) (by kernel_rfl) (by kernel_rfl) (fun _ _ _ h => h) (yieldsIf_index (by kernel_rfl) rfl (by kernel_rfl) (by kernel_rfl) (hidx4 (cap := n) rfl him)) S9 ?_
  refine held_none (i := 16) (v := .bool false) rfl rfl (by kernel_rfl) (by kernel_rfl) (by kernel_rfl) (fun _ _ _ h => h) (yieldsIf_move (by kernel_rfl) rfl (by kernel_rfl)) S9 ?_
  refine wpAnyH_done (by kernel_rfl) (lastQ_storeL rfl (by kernel_rfl) (by kernel_rfl) (.tmp 41) (.tmp 40) (by kernel_rfl) A (0 + i) (some ⟨g9, 0, none⟩) ((a2[i]).length + 1) c9 (.slice aw1 nw1 cw1) (by kernel_rfl) (by kernel_rfl) (by rw [Nat.zero_add]; exact (HGO1.out W9 S9).2.1) (by rw [Nat.zero_add]; exact (HGO1.out W9 S9).2.2) ?_) _
  simp only [Act.put, List.setIfInBounds_toArray, List.set_cons_zero, List.set_cons_succ]
  rw [Nat.zero_add]
  have hfl := HF1.out.growA hi20 hn st9 hr9
  have hk9 : (5 + 3 * i) ≠ 0 := by omega
  have hLB9 : L2 A = 2 := by rw [st9.old A (by have := (HF1.out.a0.1.lt A rfl).2; exact this)]; exact hLB1
  have hfr1 : Frm L1 L2 X1 W9 := Frm.grow (HROW1.out.choose_spec.1) hk9 S9 (fun b hb => hLo b (Nat.lt_of_lt_of_le hb hb7.size))
  have hfr2 : Frm L2 L2 W9 (W9.setCell ⟨A, i, none⟩ (.slice (some ⟨g9, 0, none⟩) ((a2[i]).length + 1) c9)) := Frm.of_set hLB9 (by omega) _ _
  have s2 : Stp1 L2 L2 2 W9 (W9.setCell ⟨A, i, none⟩ (.slice (some ⟨g9, 0, none⟩) ((a2[i]).length + 1) c9)) := Stp1.of_set hLB9 _ _ _
  have HTV2 : Hid (TTab L2 (200 + 200 * i + v2[i].length) base (W9.setCell ⟨A, i, none⟩ (.slice (some ⟨g9, 0, none⟩) ((a2[i]).length + 1) c9)) (.slice xv nv yv) tv) := Lib.hid ((HTV1.out.kept st9 (by omega)).kept s2 (by omega))
  have hfrm := hfr1.trans hfr2
  have HGB2 : Hid ((W9.setCell ⟨A, i, none⟩ (.slice (some ⟨g9, 0, none⟩) ((a2[i]).length + 1) c9)).heap[G]? = some (.cells #[.int .i64 p, .slice (some ⟨D, 0, none⟩) n n, .slice (some ⟨A, 0, none⟩) n n, .slice (some ⟨V, 0, none⟩) n n] 29 (0, 0))) := Lib.hid ((hfrm.blk G (Array.getElem?_eq_some_iff.1 HGB1.out).1 HGL1.out).trans HGB1.out)
  have HGL2 : Hid (L2 G = 0) := Lib.hid ((hfrm.old G (Array.getElem?_eq_some_iff.1 HGB1.out).1).trans HGL1.out)
  have HFR2 := Lib.hid (HFR1.out.trans hfrm)
  have HF2 := Lib.hid hfl
  obtain ⟨X2, hX⟩ : ∃ X, X = W9.setCell ⟨A, i, none⟩ (.slice (some ⟨g9, 0, none⟩) ((a2[i]).length + 1) c9) := ⟨_, rfl⟩
  rw [← hX] at HGB2 HFR2 HF2 HTV2 ⊢
  have HGC2 : Hid (X2.cell? ⟨G, 1, none⟩ = some (.slice (some ⟨D, 0, none⟩) n n) ∧ X2.cell? ⟨G, 2, none⟩ = some (.slice (some ⟨A, 0, none⟩) n n) ∧ X2.cell? ⟨G, 3, none⟩ = some (.slice (some ⟨V, 0, none⟩) n n)) := Lib.hid ⟨by simp [World.cell?, HGB2.out], by simp [World.cell?, HGB2.out], by simp [World.cell?, HGB2.out]⟩
  clear hX hfl hfrm hfr1 hfr2 s2 st9 S0 S7 S9 hbd hb7 hc7 st7 hrun hgr9 hL9 hLo hLn hr9 hLB9 hLB1 hrow1 hw7 hg9 hbs7 hk9 hown1
  have hi2 : i < vvs.length := by have := HF2.out.lens; omega
  have hrow2 := HF2.out.vr i hi2 hiv
  obtain ⟨hcl2, hfz2, hLB2, _⟩ := HF2.out.v0.at' hi2
  obtain ⟨aw2, nw2, cw2, hsh2, _⟩ := hrow2.cap
  rw [hsh2] at hrow2 hcl2
  clear hsh2
  have hown2 : ∀ g, (Value.slice aw2 nw2 cw2).ownBlock = some g → L2 g = (6 + 3 * i) := by obtain ⟨_, ho, _⟩ := hrow2; exact ho.2
  have HGO2 : Hid (∀ X, X2.grownBy X (Value.slice aw2 nw2 cw2).ownBlock → X.cell? ⟨G, 3, none⟩ = some (.slice (some ⟨V, 0, none⟩) n n) ∧ X.cell? ⟨V, i, none⟩ = some (.slice aw2 nw2 cw2) ∧ X.frozen? ⟨V, i, none⟩ = false) := Lib.hid (fun X hg => by
    have hnB : some V ≠ (Value.slice aw2 nw2 cw2).ownBlock := fun e => by have := hown2 V e.symm; omega
    have hnG : some G ≠ (Value.slice aw2 nw2 cw2).ownBlock := fun e => by have := hown2 G e.symm; have := HGL2.out; omega
    have hlB := (X2.block_lt_of_cell? ⟨V, i, none⟩ hcl2)
    exact ⟨hg.cell HGC2.out.2.2 hnG, hg.cell hcl2 hnB, (World.frozen?_of_block (hg.block V hlB hnB)).trans hfz2⟩)
  have HROW2 := Lib.hid hrow2
  clear hcl2 hfz2
  go_upto_region 2 with fail
  refine wp_region_last (fun X => X2.grownBy X (Value.slice aw2 nw2 cw2).ownBlock) 16 (by kernel_rfl) rfl (by kernel_rfl) ?_
  have S0 : X2.grownBy X2.drew (Value.slice aw2 nw2 cw2).ownBlock := ⟨rfl, rfl, rfl, Nat.le_refl _, fun _ _ _ => rfl⟩
  have hbd : Below X2.heap.size X2 X2.drew := (Below.refl _ _).drew
  change wpAnyH _ _ _ _ _ _ _ _ X2.drew
  obtain ⟨wd, hwd⟩ : ∃ wd, wd = X2.drew := ⟨_, rfl⟩
  rw [← hwd] at S0 hbd ⊢
  clear hwd
  refine held_take (i := 0) (v := (.pointer (some ⟨G, 0, none⟩))) (some 42) rfl rfl (by kernel_rfl) (by kernel_rfl) (by kernel_rfl) (fun _ _ _ h => h) (yieldsIf_move (by kernel_rfl) rfl (by kernel_rfl)) S0 ?_
  refine held_take (i := 1) (v := (.pointer (some ⟨G, 0, none⟩))) (some 43) rfl rfl (by kernel_rfl) (by kernel_rfl) (by kernel_rfl) (fun _ _ _ h => h) (yieldsIf_run (by kernel_rfl) (fun W _ => by kernel_rfl)) S0 ?_
  refine held_take (i := 2) (v := (.pointer (some ⟨G, 3, none⟩))) (some 44) rfl rfl (by kernel_rfl) (by kernel_rfl) (by kernel_rfl) (fun _ _ _ h => h) (yieldsIf_run (by kernel_rfl) (fun W _ => by kernel_rfl)) S0 ?_
  refine held_take (i := 3) (v := (.slice (some ⟨V, 0, none⟩) n n)) (some 45) rfl rfl (by kernel_rfl) (by kernel_rfl) (by kernel_rfl) (fun _ _ _ h => h) (yieldsIf_cell (by kernel_rfl) rfl (by kernel_rfl) (fun W h => hload4 W (HGO2.out W h).1)) S0 ?_
  refine held_take (i := 4) (v := (.int .i64 (i : Int))) (some 46) rfl rfl (by kernel_rfl) (by kernel_rfl) (by kernel_rfl) (fun _ _ _ h => h) (yieldsIf_move (by kernel_rfl) rfl (by kernel_rfl)) S0 ?_
  refine held_take (i := 5) (v := (.pointer (some ⟨G, 0, none⟩))) (some 47) rfl rfl (by kernel_rfl) (by kernel_rfl) (by kernel_rfl) (fun _ _ _ h => h) (yieldsIf_move (by kernel_rfl) rfl (by kernel_rfl)) S0 ?_
  refine held_take (i := 6) (v := (.pointer (some ⟨G, 0, none⟩))) (some 48) rfl rfl (by kernel_rfl) (by kernel_rfl) (by kernel_rfl) (fun _ _ _ h => h) (yieldsIf_run (by kernel_rfl) (fun W _ => by kernel_rfl)) S0 ?_
  refine held_take (i := 7) (v := (.pointer (some ⟨G, 3, none⟩))) (some 49) rfl rfl (by kernel_rfl) (by kernel_rfl) (by kernel_rfl) (fun _ _ _ h => h) (yieldsIf_run (by kernel_rfl) (fun W _ => by kernel_rfl)) S0 ?_
  refine held_take (i := 8) (v := (.slice (some ⟨V, 0, none⟩) n n)) (some 50) rfl rfl (by kernel_rfl) (by kernel_rfl) (by kernel_rfl) (fun _ _ _ h => h) (yieldsIf_cell (by kernel_rfl) rfl (by kernel_rfl) (fun W h => hload4 W (HGO2.out W h).1)) S0 ?_
  refine held_take (i := 9) (v := (.int .i64 (i : Int))) (some 51) rfl rfl (by kernel_rfl) (by kernel_rfl) (by kernel_rfl) (fun _ _ _ h => h) (yieldsIf_move (by kernel_rfl) rfl (by kernel_rfl)) S0 ?_
  refine held_take (i := 10) (v := (.pointer (some ⟨V, 0 + i, none⟩))) (some 52) rfl rfl (by kernel_rfl) (by kernel_rfl) (by kernel_rfl) (fun _ _ _ h => h) (yieldsIf_index (by kernel_rfl) rfl (by kernel_rfl) (by kernel_rfl) (hidx4 (cap := n) rfl him)) S0 ?_
  refine held_take (i := 11) (v := (.slice aw2 nw2 cw2)) (some 53) rfl rfl (by kernel_rfl) (by kernel_rfl) (by kernel_rfl) (fun _ _ _ h => h) (yieldsIf_cell (by kernel_rfl) rfl (by kernel_rfl) (fun W h => hload3s (b := V) (o := 0 + i) W (by rw [Nat.zero_add]; exact (HGO2.out W h).2.1))) S0 ?_
  refine held_take (i := 12) (v := (.slice xv nv yv)) (some 54) rfl rfl (by kernel_rfl) (by kernel_rfl) (by kernel_rfl) (fun _ _ _ h => h) (yieldsIf_move (by kernel_rfl) rfl (by kernel_rfl)) S0 ?_
  obtain ⟨w7, hw7⟩ : ∃ w7, w7 = wd.alloc (.cells #[.slice xv nv yv] 22) := ⟨_, rfl⟩
  have hb7 : Below X2.heap.size X2 w7 := hbd.trans ((by rw [hw7]; exact below_alloc1 _ _ : Below wd.heap.size wd w7).mono hbd.size)
  have hc7 : w7.cell? ⟨wd.heap.size, 0, none⟩ = some (.slice xv nv yv) := by rw [hw7]; exact cell_alloc1 _ _ _
  have S7 : X2.grownBy w7 (Value.slice aw2 nw2 cw2).ownBlock := ⟨hb7.os, hb7.tape, hb7.output, hb7.size, fun k hk _ => hb7.block k hk⟩
  refine held_mem (i := 13) (v := .slice (some ⟨wd.heap.size, 0, none⟩) 1 1) (w' := w7) (some 55) (by kernel_rfl) rfl rfl rfl (by rw [hw7]; go_simp) S7 ?_
  have st7 : Stp1 L2 L2 0 X2 w7 := Stp1.of_below hb7 (fun _ _ => rfl) 0
  have hbs7 : base ≤ w7.heap.size := by have := HF2.out.base_le; have := hb7.size; omega
  obtain ⟨g9, c9, W9, hrun, hgr9, hg9, hL9⟩ := (HROW2.out.kept st7 (by omega) (fun x _ => by show 200 + 200 * i + x ≠ 0; omega)).append (fun x _ => by show 200 + 200 * i + x ≠ (6 + 3 * i); omega) (HTV2.out.kept st7 (by omega)) wd.heap.size hc7 hv50 hbs7
  obtain ⟨L3, hLd⟩ : ∃ M : Nat → Nat, M = fun b => if b < w7.heap.size then L2 b else (6 + 3 * i) := ⟨_, rfl⟩
  have hLo : ∀ b, b < w7.heap.size → L3 b = L2 b := fun b hb => by rw [hLd]; exact if_pos hb
  have hLn : ∀ b, w7.heap.size ≤ b → L3 b = (6 + 3 * i) := fun b hb => by rw [hLd]; exact if_neg (by omega)
  clear hLd
  have hr9 := hL9 L3 hLo hLn
  have S9 : X2.grownBy W9 (Value.slice aw2 nw2 cw2).ownBlock := ⟨hgr9.os.trans S7.os, hgr9.tape.trans S7.tape, hgr9.output.trans S7.output, Nat.le_trans S7.size hgr9.size, fun k hk hne => (hgr9.block k (Nat.lt_of_lt_of_le hk S7.size) hne).trans (S7.block k hk hne)⟩
  have st9 : Stp1 L2 L3 (6 + 3 * i) X2 W9 := ⟨⟨_, S9, fun q e _ => .inl (hown2 q e)⟩, fun b hb => hLo b (Nat.lt_of_lt_of_le hb hb7.size)⟩
  refine held_app (i := 14) (v := .slice (some ⟨g9, 0, none⟩) ((v2[i]).length + 1) c9) (w' := W9) (x := .slice aw2 nw2 cw2) (y := .slice (some ⟨wd.heap.size, 0, none⟩) 1 1) (some 56) #[51, 51] (.tmp 53) (.tmp 55) (by kernel_rfl) rfl rfl rfl rfl (by kernel_rfl) (by kernel_rfl) (fun _ => hrun) S9 ?_
  refine held_take (i := 15) (v := (.pointer (some ⟨V, 0 + i, none⟩))) (some 57) rfl rfl (by kernel_rfl) (by kernel_rfl) (by kernel_rfl) (fun _ _ _ h => h) (yieldsIf_index (by kernel_rfl) rfl (by kernel_rfl) (by kernel_rfl) (hidx4 (cap := n) rfl him)) S9 ?_
  refine held_none (i := 16) (v := .bool false) rfl rfl (by kernel_rfl) (by kernel_rfl) (by kernel_rfl) (fun _ _ _ h => h) (yieldsIf_move (by kernel_rfl) rfl (by kernel_rfl)) S9 ?_
  refine wpAnyH_done (by kernel_rfl) (lastQ_storeL rfl (by kernel_rfl) (by kernel_rfl) (.tmp 57) (.tmp 56) (by kernel_rfl) V (0 + i) (some ⟨g9, 0, none⟩) ((v2[i]).length + 1) c9 (.slice aw2 nw2 cw2) (by kernel_rfl) (by kernel_rfl) (by rw [Nat.zero_add]; exact (HGO2.out W9 S9).2.1) (by rw [Nat.zero_add]; exact (HGO2.out W9 S9).2.2) ?_) _
  simp only [Act.put, List.setIfInBounds_toArray, List.set_cons_zero, List.set_cons_succ]
  rw [Nat.zero_add]
  have hfl := HF2.out.growV hi20 hn st9 hr9
  have hk9 : (6 + 3 * i) ≠ 0 := by omega
  have hLB9 : L3 V = 3 := by rw [st9.old V (by have := (HF2.out.v0.1.lt V rfl).2; exact this)]; exact hLB2
  have hfr1 : Frm L2 L3 X2 W9 := Frm.grow (HROW2.out.choose_spec.1) hk9 S9 (fun b hb => hLo b (Nat.lt_of_lt_of_le hb hb7.size))
  have hfr2 : Frm L3 L3 W9 (W9.setCell ⟨V, i, none⟩ (.slice (some ⟨g9, 0, none⟩) ((v2[i]).length + 1) c9)) := Frm.of_set hLB9 (by omega) _ _
  have s2 : Stp1 L3 L3 3 W9 (W9.setCell ⟨V, i, none⟩ (.slice (some ⟨g9, 0, none⟩) ((v2[i]).length + 1) c9)) := Stp1.of_set hLB9 _ _ _
  have hfrm := hfr1.trans hfr2
  have HGB3 : Hid ((W9.setCell ⟨V, i, none⟩ (.slice (some ⟨g9, 0, none⟩) ((v2[i]).length + 1) c9)).heap[G]? = some (.cells #[.int .i64 p, .slice (some ⟨D, 0, none⟩) n n, .slice (some ⟨A, 0, none⟩) n n, .slice (some ⟨V, 0, none⟩) n n] 29 (0, 0))) := Lib.hid ((hfrm.blk G (Array.getElem?_eq_some_iff.1 HGB2.out).1 HGL2.out).trans HGB2.out)
  have HGL3 : Hid (L3 G = 0) := Lib.hid ((hfrm.old G (Array.getElem?_eq_some_iff.1 HGB2.out).1).trans HGL2.out)
  have HFR3 := Lib.hid (HFR2.out.trans hfrm)
  have HF3 := Lib.hid hfl
  obtain ⟨X3, hX⟩ : ∃ X, X = W9.setCell ⟨V, i, none⟩ (.slice (some ⟨g9, 0, none⟩) ((v2[i]).length + 1) c9) := ⟨_, rfl⟩
  rw [← hX] at HGB3 HFR3 HF3 ⊢
  have HGC3 : Hid (X3.cell? ⟨G, 1, none⟩ = some (.slice (some ⟨D, 0, none⟩) n n) ∧ X3.cell? ⟨G, 2, none⟩ = some (.slice (some ⟨A, 0, none⟩) n n) ∧ X3.cell? ⟨G, 3, none⟩ = some (.slice (some ⟨V, 0, none⟩) n n)) := Lib.hid ⟨by simp [World.cell?, HGB3.out], by simp [World.cell?, HGB3.out], by simp [World.cell?, HGB3.out]⟩
  clear hX hfl hfrm hfr1 hfr2 s2 st9 S0 S7 S9 hbd hb7 hc7 st7 hrun hgr9 hL9 hLo hLn hr9 hLB9 hLB2 hrow2 hw7 hg9 hbs7 hk9 hown2
  go_wp2
  exact Go.Great.bodyPost_end0 HRES.out rfl ⟨rfl, L3, _, _, _, HF3.out, HFR3.out⟩
end Go.Proofs.YtlopenephgabhaaGreat


namespace Go.Proofs.YtlopenephgabhaaGreat
open Go.RowKit Go.Shelf
attribute [local go_sem] Oper.semAt_some

theorem results_db {fn : Func} {t : Tmp} (h : fn.results = #[.cell t 29]) (tmps : Array Value) (B : Nat) (x0 x1 x2 x3 : Value) (W : World) (ht : tmps.getD t undef = .pointer (some ⟨B, 0, none⟩)) (c0 : W.cell? ⟨B, 0, none⟩ = some x0) (c1 : W.cell? ⟨B, 1, none⟩ = some x1) (c2 : W.cell? ⟨B, 2, none⟩ = some x2) (c3 : W.cell? ⟨B, 3, none⟩ = some x3) :
    (results fn tmps).run Tryz.prog W = .ok (.agg #[x0, x1, x2, x3]) W := by
  simp only [Array.getD_eq_getD_getElem?] at ht
  simp [results, h, ht, go_sem, c0, c1, c2, c3]
def cpre {ds : List (List Int)} (pre : List (CellIn ds)) : List (Nat × Nat) := pre.map (fun c => c.1)
theorem cpre_len {ds : List (List Int)} (pre : List (CellIn ds)) : (cpre pre).length = pre.length := by simp [cpre]
/-- The made double complex, in its box. -/
structure Mid (p : Int) (n : Nat) (w1 W : World) (G D A V : Nat) : Prop where
  below : Below w1.heap.size w1 W
  box : Rz W G 29 #[.int .i64 p, .slice (some ⟨D, 0, none⟩) n n, .slice (some ⟨A, 0, none⟩) n n, .slice (some ⟨V, 0, none⟩) n n]
  d : Rz W D 47 (madeCells #[.slice none 0 0] n)
  a : Rz W A 51 (madeCells #[.slice none 0 0] n)
  v : Rz W V 51 (madeCells #[.slice none 0 0] n)
  ne : D ≠ A ∧ D ≠ V ∧ A ≠ V
  lo : w1.heap.size ≤ G ∧ w1.heap.size ≤ D ∧ w1.heap.size ≤ A ∧ w1.heap.size ≤ V
  gn : G ≠ D ∧ G ≠ A ∧ G ≠ V
def Zd4 : Array Value := #[.int .i64 0, .slice none 0 0, .slice none 0 0, .slice none 0 0]
theorem grown_setRow (W : World) (g : Nat) (c : Array Value) : W.grownBy (W.setRow g c) (some g) := by
  have hb : Below 0 W (W.setRow g c) := below_setRow (Below.refl _ _) (Nat.zero_le _) _
  exact ⟨hb.os, hb.tape, hb.output, hb.size, fun q _ hne => setRow_other _ _ _ _ (fun e => hne (by rw [e]))⟩
/-- What transposedDouble answers. -/
def TrR (p : Int) (ds : List (List Int)) (ac dn : List (List (List (List Int)))) (w : World) (e : Ending) (w' : World) : Prop :=
  ∃ (base D A V n : Nat) (L : Nat → Nat) (dvs avs vvs : List Value), e = .returned (.agg #[.int .i64 p, .slice (some ⟨D, 0, none⟩) n n, .slice (some ⟨A, 0, none⟩) n n, .slice (some ⟨V, 0, none⟩) n n]) ∧ n = (ds.getD 0 []).length ∧ w.heap.size ≤ base ∧
    Fl L base w' D A V n dvs avs vvs (colF n (cellsTo ds ds.length) (cdI ds)) (colF n (cellsTo ds ds.length) (tbl dn)) (colF n (cellsTo ds ds.length) (tbl ac)) ∧ Below w.heap.size w w'
set_option maxRecDepth 100000 in
set_option maxHeartbeats 12800000 in
theorem transposedDouble_any (p : Int) (dv av vv : Value) (ds : List (List Int)) (ac dn : List (List (List (List Int)))) (w : World) (h : Dx 0 w dv av vv ds ac dn) (hdb : IsDb p ds ac dn) :
    Calls Tryz.prog 48 #[.agg #[.int .i64 p, dv, av, vv]] w (TrR p ds ac dn w) := by
  have hres : Tryz.f48.results = #[.cell 2 29] := by kernel_rfl
  have HRES := Lib.hid hres
  clear hres
  have HX := Lib.hid h
  have HDB := Lib.hid hdb
  have HOK := Lib.hid hdb.cel
  have hp0 : 0 < p := by have := hdb.prime.lo1; omega
  have hp1 : p ≤ 1048576 := by have := hdb.prime.hi; omega
  have hpl := hdb.prime.lo1
  have hl0 := hdb.cel.len0
  have hl4 := hdb.cel.len1
  have hq0 := hdb.cel.h0
  have hq4 := hdb.cel.h1
  obtain ⟨n, hn⟩ : ∃ n, n = (ds.getD 0 []).length := ⟨_, rfl⟩
  rw [← hn] at hq0 hq4
  have HN := Lib.hid hn
  clear hn hdb
  have hx0 := (DBx.start (p := p) 29 h).next ((Below.refl _ _).alloc (Nat.le_refl _) (.cells #[.int .i64 0, .slice none 0 0, .slice none 0 0, .slice none 0 0] 29))
  clear h
  obtain ⟨w1, hw1⟩ : ∃ w1, w1 = (w.alloc (.cells #[.int .i64 p, dv, av, vv] 29)).alloc (.cells #[.int .i64 0, .slice none 0 0, .slice none 0 0, .slice none 0 0] 29) := ⟨_, rfl⟩
  have hs1 : w1.heap.size = w.heap.size + 2 := by rw [hw1]; simp
  have HR0 : Hid (Rz w1 (w.heap.size + 1) 29 #[.int .i64 0, .slice none 0 0, .slice none 0 0, .slice none 0 0]) := Lib.hid (by rw [hw1]; have := Rz.new (w.alloc (.cells #[.int .i64 p, dv, av, vv] 29)) 29 #[.int .i64 0, .slice none 0 0, .slice none 0 0, .slice none 0 0]; rwa [World.size_alloc] at this)
  rw [← hw1] at hx0
  have HX1 := Lib.hid hx0
  have c0 := hx0.c0
  have c1 := hx0.c1
  have c2 := hx0.c2
  have c3 := hx0.c3
  clear hx0
  have HNX : Hid (∀ W, Below w1.heap.size w1 W → DBx w W w.heap.size p dv av vv ds ac dn ∧ Rz W (w.heap.size + 1) 29 #[.int .i64 0, .slice none 0 0, .slice none 0 0, .slice none 0 0]) := Lib.hid (fun W hb => ⟨HX1.out.next hb, HR0.out.next hb⟩)
  have HHE : Hid (∀ W, Below w1.heap.size w1 W → Calls Tryz.prog 72 #[.agg #[.int .i64 p, dv, av, vv]] W fun e w' => e = .returned (.int .i64 (n : Int)) ∧ Below W.heap.size W w') := Lib.hid (fun W hb => by rw [HN.out]; exact heightOf_any p dv av vv ds W (HNX.out W hb).1.dx.dims hl0)
  refine (callsIn_wide (n := 8)).1 ?_
  refine callsIn_of_wp_marks Tryz.func48 rfl trivial ?_
  simp only [Tryz.ntmps48, List.size_toArray, List.length_cons, List.length_nil, Nat.reduceAdd, Nat.reduceSub, Array.replicate_succ, Array.replicate_zero, List.push_toArray, List.append_toArray, List.nil_append, List.cons_append]
  refine wpIn_calm ?_
  refine wpIn_wide.2 ?_
  go_upto_region 1 with fail
  rw [← hw1]
  clear hw1 c0 c1 c2 c3
  go_cut [3] from 7 to 11 (fun s wx => ∃ G D A V : Nat, s = .pointer (some ⟨G, 0, none⟩) ∧ Hid (Mid p n w1 wx G D A V))
  case first =>
    go_upto_region 1 with fail
    refine wp_region_held (S := fun W => Below w1.heap.size w1 W) (by kernel_rfl) ?_
    have S0 : Below w1.heap.size w1 w1.drew := (Below.refl _ _).drew
    change wpAnyH _ _ _ _ _ _ _ _ w1.drew
    obtain ⟨wd, hwd⟩ : ∃ wd, wd = w1.drew := ⟨_, rfl⟩
    rw [← hwd] at S0 ⊢
    clear hwd
    refine held_take (i := 0) (v := (.pointer (some ⟨w.heap.size, 0, none⟩))) (some 7) rfl rfl (by kernel_rfl) (by kernel_rfl) (by kernel_rfl) (fun _ _ _ h => h) (yieldsIf_run (by kernel_rfl) (fun W _ => by kernel_rfl)) S0 ?_
    refine held_take (i := 1) (v := (.int .i64 p)) (some 8) rfl rfl (by kernel_rfl) (by kernel_rfl) (by kernel_rfl) (fun _ _ _ h => h) (yieldsIf_cell (by kernel_rfl) rfl (by kernel_rfl) (fun W h => hloadIn W (HNX.out W h).1.c0)) S0 ?_
    refine held_take (i := 2) (v := (.agg #[.int .i64 p, dv, av, vv])) (some 9) rfl rfl (by kernel_rfl) (by kernel_rfl) (by kernel_rfl) (fun _ _ _ h => h) (yieldsIf_cell (by kernel_rfl) rfl (by kernel_rfl) (fun W h => hloadDb W (HNX.out W h).1)) S0 ?_
    refine held_two (i := 3) (j := 5) (by kernel_rfl) ?_ ?_
    · refine op_enter (i := 3) (some 10) (f := 72) (args := #[.agg #[.int .i64 p, dv, av, vv]]) rfl rfl rfl (by kernel_rfl) (HHE.out _ S0) ?_ (fun c w' h => by cases h.1) (fun w' h => by cases h.1)
      rintro e1 W1 ⟨he, hb1⟩
      injection he with he
      subst he
      have S1 : Below w1.heap.size w1 W1 := S0.trans (hb1.mono S0.size)
      refine ⟨S1, ?_⟩
      refine held_two (i := 4) (j := 5) (by kernel_rfl) ?_ ?_
      · refine op_enter (i := 4) (some 11) (f := 71) (args := #[.int .i64 p, .int .i64 (n : Int)]) rfl rfl rfl (by kernel_rfl) (emptyDouble_any p n _ (by omega)) ?_ (fun c w' h => by obtain ⟨_, _, _, h, _⟩ := h; cases h) (fun w' h => by obtain ⟨_, _, _, h, _⟩ := h; cases h)
        rintro e2 W2 ⟨D2, A2, V2, he, hge2, hne2, hD2, hA2, hV2, hb2⟩
        injection he with he
        subst he
        have hss2 := S1.size
        have S2 : Below w1.heap.size w1 W2 := S1.trans (hb2.mono S1.size)
        refine ⟨S2, ?_⟩
        refine held_one (i := 5) (by kernel_rfl) ?_
        · obtain ⟨W3, hW3⟩ : ∃ W', W' = W2.alloc (.cells #[.int .i64 0, .slice none 0 0, .slice none 0 0, .slice none 0 0] 29) := ⟨_, rfl⟩
          have hb3 : Below W2.heap.size W2 W3 := by rw [hW3]; exact below_alloc1 _ _
          have hG3 : Rz W3 W2.heap.size 29 #[.int .i64 0, .slice none 0 0, .slice none 0 0, .slice none 0 0] := by rw [hW3]; exact Rz.new _ _ _
          have hsg3 := S2.size
          have S3 : Below w1.heap.size w1 W3 := S2.trans (hb3.mono S2.size)
          have hD3 := hD2.next hb3
          have hA3 := hA2.next hb3
          have hV3 := hV2.next hb3
          refine op_mem (i := 5) (v := .pointer (some ⟨W2.heap.size, 0, none⟩)) (w' := W3) (some 3) rfl rfl rfl (by rw [hW3]; go_simp) ?_
          refine ⟨S3, ?_⟩
          refine held_one (i := 6) (by kernel_rfl) ?_
          refine op_row (i := 6) rfl rfl rfl 29 (.tmp 3) (.tmp 11) rfl (W2.heap.size) #[.int .i64 p, .slice (some ⟨D2, 0, none⟩) n n, .slice (some ⟨A2, 0, none⟩) n n, .slice (some ⟨V2, 0, none⟩) n n] (by kernel_rfl) (by kernel_rfl) 29 _ hG3 (infoDb _ _ _ _) (by kernel_rfl) (by kernel_rfl) ?_
          have S9 : Below w1.heap.size w1 (W3.setRow (W2.heap.size) #[.int .i64 p, .slice (some ⟨D2, 0, none⟩) n n, .slice (some ⟨A2, 0, none⟩) n n, .slice (some ⟨V2, 0, none⟩) n n]) := below_setRow S3 (by omega) _
          refine ⟨S9, ?_⟩
          refine wpAnyH_done (by kernel_rfl) ?_ _
          simp only [Act.put, List.setIfInBounds_toArray, List.set_cons_zero, List.set_cons_succ]
          have hgl := hG3.lt
          have hGne : W2.heap.size ≠ D2 ∧ W2.heap.size ≠ A2 ∧ W2.heap.size ≠ V2 := ⟨fun e => by have h1 := hG3; have h2 := hD3; rw [e] at h1; unfold Rz at h1 h2; rw [h1] at h2; injection h2 with h2; injection h2 with _ h2; revert h2; decide, fun e => by have h1 := hG3; have h2 := hA3; rw [e] at h1; unfold Rz at h1 h2; rw [h1] at h2; injection h2 with h2; injection h2 with _ h2; revert h2; decide, fun e => by have h1 := hG3; have h2 := hV3; rw [e] at h1; unfold Rz at h1 h2; rw [h1] at h2; injection h2 with h2; injection h2 with _ h2; revert h2; decide⟩
          obtain ⟨WF, hWF⟩ : ∃ WF, WF = W3.setRow (W2.heap.size) #[.int .i64 p, .slice (some ⟨D2, 0, none⟩) n n, .slice (some ⟨A2, 0, none⟩) n n, .slice (some ⟨V2, 0, none⟩) n n] := ⟨_, rfl⟩
          rw [← hWF] at S9 ⊢
          have hmid : Mid p n w1 WF (W2.heap.size) D2 A2 V2 := ⟨S9, by rw [hWF]; exact Rz.set hG3 _, by rw [hWF]; exact Rz.off hD3 (fun e => hGne.1 e.symm) _, by rw [hWF]; exact Rz.off hA3 (fun e => hGne.2.1 e.symm) _, by rw [hWF]; exact Rz.off hV3 (fun e => hGne.2.2 e.symm) _, hne2, by omega, hGne⟩
          clear hWF
          go_wp2
          go_meet
          exact ⟨_, _, _, _, rfl, Lib.hid hmid⟩
      · obtain ⟨W4, hW4⟩ : ∃ W', W' = W1.alloc (.cells #[.int .i64 0, .slice none 0 0, .slice none 0 0, .slice none 0 0] 29) := ⟨_, rfl⟩
        have hb4 : Below W1.heap.size W1 W4 := by rw [hW4]; exact below_alloc1 _ _
        have hG4 : Rz W4 W1.heap.size 29 #[.int .i64 0, .slice none 0 0, .slice none 0 0, .slice none 0 0] := by rw [hW4]; exact Rz.new _ _ _
        have hsg4 := S1.size
        have S4 : Below w1.heap.size w1 W4 := S1.trans (hb4.mono S1.size)
        refine op_mem (i := 5) (v := .pointer (some ⟨W1.heap.size, 0, none⟩)) (w' := W4) (some 3) rfl rfl rfl (by rw [hW4]; go_simp) ?_
        refine ⟨S4, ?_⟩
        refine held_one (i := 4) (by kernel_rfl) ?_
        · refine op_enter (i := 4) (some 11) (f := 71) (args := #[.int .i64 p, .int .i64 (n : Int)]) rfl rfl rfl (by kernel_rfl) (emptyDouble_any p n _ (by omega)) ?_ (fun c w' h => by obtain ⟨_, _, _, h, _⟩ := h; cases h) (fun w' h => by obtain ⟨_, _, _, h, _⟩ := h; cases h)
          rintro e5 W5 ⟨D5, A5, V5, he, hge5, hne5, hD5, hA5, hV5, hb5⟩
          injection he with he
          subst he
          have hss5 := S4.size
          have S5 : Below w1.heap.size w1 W5 := S4.trans (hb5.mono S4.size)
          have hG5 := hG4.next hb5
          refine ⟨S5, ?_⟩
          refine held_one (i := 6) (by kernel_rfl) ?_
          refine op_row (i := 6) rfl rfl rfl 29 (.tmp 3) (.tmp 11) rfl (W1.heap.size) #[.int .i64 p, .slice (some ⟨D5, 0, none⟩) n n, .slice (some ⟨A5, 0, none⟩) n n, .slice (some ⟨V5, 0, none⟩) n n] (by kernel_rfl) (by kernel_rfl) 29 _ hG5 (infoDb _ _ _ _) (by kernel_rfl) (by kernel_rfl) ?_
          have S9 : Below w1.heap.size w1 (W5.setRow (W1.heap.size) #[.int .i64 p, .slice (some ⟨D5, 0, none⟩) n n, .slice (some ⟨A5, 0, none⟩) n n, .slice (some ⟨V5, 0, none⟩) n n]) := below_setRow S5 (by omega) _
          refine ⟨S9, ?_⟩
          refine wpAnyH_done (by kernel_rfl) ?_ _
          simp only [Act.put, List.setIfInBounds_toArray, List.set_cons_zero, List.set_cons_succ]
          have hgl := hG5.lt
          have hGne : W1.heap.size ≠ D5 ∧ W1.heap.size ≠ A5 ∧ W1.heap.size ≠ V5 := ⟨fun e => by have h1 := hG5; have h2 := hD5; rw [e] at h1; unfold Rz at h1 h2; rw [h1] at h2; injection h2 with h2; injection h2 with _ h2; revert h2; decide, fun e => by have h1 := hG5; have h2 := hA5; rw [e] at h1; unfold Rz at h1 h2; rw [h1] at h2; injection h2 with h2; injection h2 with _ h2; revert h2; decide, fun e => by have h1 := hG5; have h2 := hV5; rw [e] at h1; unfold Rz at h1 h2; rw [h1] at h2; injection h2 with h2; injection h2 with _ h2; revert h2; decide⟩
          obtain ⟨WF, hWF⟩ : ∃ WF, WF = W5.setRow (W1.heap.size) #[.int .i64 p, .slice (some ⟨D5, 0, none⟩) n n, .slice (some ⟨A5, 0, none⟩) n n, .slice (some ⟨V5, 0, none⟩) n n] := ⟨_, rfl⟩
          rw [← hWF] at S9 ⊢
          have hmid : Mid p n w1 WF (W1.heap.size) D5 A5 V5 := ⟨S9, by rw [hWF]; exact Rz.set hG5 _, by rw [hWF]; exact Rz.off hD5 (fun e => hGne.1 e.symm) _, by rw [hWF]; exact Rz.off hA5 (fun e => hGne.2.1 e.symm) _, by rw [hWF]; exact Rz.off hV5 (fun e => hGne.2.2 e.symm) _, hne5, by omega, hGne⟩
          clear hWF
          go_wp2
          go_meet
          exact ⟨_, _, _, _, rfl, Lib.hid hmid⟩
    · obtain ⟨W6, hW6⟩ : ∃ W', W' = wd.alloc (.cells #[.int .i64 0, .slice none 0 0, .slice none 0 0, .slice none 0 0] 29) := ⟨_, rfl⟩
      have hb6 : Below wd.heap.size wd W6 := by rw [hW6]; exact below_alloc1 _ _
      have hG6 : Rz W6 wd.heap.size 29 #[.int .i64 0, .slice none 0 0, .slice none 0 0, .slice none 0 0] := by rw [hW6]; exact Rz.new _ _ _
      have hsg6 := S0.size
      have S6 : Below w1.heap.size w1 W6 := S0.trans (hb6.mono S0.size)
      refine op_mem (i := 5) (v := .pointer (some ⟨wd.heap.size, 0, none⟩)) (w' := W6) (some 3) rfl rfl rfl (by rw [hW6]; go_simp) ?_
      refine ⟨S6, ?_⟩
      refine held_one (i := 3) (by kernel_rfl) ?_
      · refine op_enter (i := 3) (some 10) (f := 72) (args := #[.agg #[.int .i64 p, dv, av, vv]]) rfl rfl rfl (by kernel_rfl) (HHE.out _ S6) ?_ (fun c w' h => by cases h.1) (fun w' h => by cases h.1)
        rintro e7 W7 ⟨he, hb7⟩
        injection he with he
        subst he
        have S7 : Below w1.heap.size w1 W7 := S6.trans (hb7.mono S6.size)
        have hG7 := hG6.next hb7
        refine ⟨S7, ?_⟩
        refine held_one (i := 4) (by kernel_rfl) ?_
        · refine op_enter (i := 4) (some 11) (f := 71) (args := #[.int .i64 p, .int .i64 (n : Int)]) rfl rfl rfl (by kernel_rfl) (emptyDouble_any p n _ (by omega)) ?_ (fun c w' h => by obtain ⟨_, _, _, h, _⟩ := h; cases h) (fun w' h => by obtain ⟨_, _, _, h, _⟩ := h; cases h)
          rintro e8 W8 ⟨D8, A8, V8, he, hge8, hne8, hD8, hA8, hV8, hb8⟩
          injection he with he
          subst he
          have hss8 := S7.size
          have S8 : Below w1.heap.size w1 W8 := S7.trans (hb8.mono S7.size)
          have hG8 := hG7.next hb8
          refine ⟨S8, ?_⟩
          refine held_one (i := 6) (by kernel_rfl) ?_
          refine op_row (i := 6) rfl rfl rfl 29 (.tmp 3) (.tmp 11) rfl (wd.heap.size) #[.int .i64 p, .slice (some ⟨D8, 0, none⟩) n n, .slice (some ⟨A8, 0, none⟩) n n, .slice (some ⟨V8, 0, none⟩) n n] (by kernel_rfl) (by kernel_rfl) 29 _ hG8 (infoDb _ _ _ _) (by kernel_rfl) (by kernel_rfl) ?_
          have S9 : Below w1.heap.size w1 (W8.setRow (wd.heap.size) #[.int .i64 p, .slice (some ⟨D8, 0, none⟩) n n, .slice (some ⟨A8, 0, none⟩) n n, .slice (some ⟨V8, 0, none⟩) n n]) := below_setRow S8 (by omega) _
          refine ⟨S9, ?_⟩
          refine wpAnyH_done (by kernel_rfl) ?_ _
          simp only [Act.put, List.setIfInBounds_toArray, List.set_cons_zero, List.set_cons_succ]
          have hgl := hG8.lt
          have hGne : wd.heap.size ≠ D8 ∧ wd.heap.size ≠ A8 ∧ wd.heap.size ≠ V8 := ⟨fun e => by have h1 := hG8; have h2 := hD8; rw [e] at h1; unfold Rz at h1 h2; rw [h1] at h2; injection h2 with h2; injection h2 with _ h2; revert h2; decide, fun e => by have h1 := hG8; have h2 := hA8; rw [e] at h1; unfold Rz at h1 h2; rw [h1] at h2; injection h2 with h2; injection h2 with _ h2; revert h2; decide, fun e => by have h1 := hG8; have h2 := hV8; rw [e] at h1; unfold Rz at h1 h2; rw [h1] at h2; injection h2 with h2; injection h2 with _ h2; revert h2; decide⟩
          obtain ⟨WF, hWF⟩ : ∃ WF, WF = W8.setRow (wd.heap.size) #[.int .i64 p, .slice (some ⟨D8, 0, none⟩) n n, .slice (some ⟨A8, 0, none⟩) n n, .slice (some ⟨V8, 0, none⟩) n n] := ⟨_, rfl⟩
          rw [← hWF] at S9 ⊢
          have hmid : Mid p n w1 WF (wd.heap.size) D8 A8 V8 := ⟨S9, by rw [hWF]; exact Rz.set hG8 _, by rw [hWF]; exact Rz.off hD8 (fun e => hGne.1 e.symm) _, by rw [hWF]; exact Rz.off hA8 (fun e => hGne.2.1 e.symm) _, by rw [hWF]; exact Rz.off hV8 (fun e => hGne.2.2 e.symm) _, hne8, by omega, hGne⟩
          clear hWF
          go_wp2
          go_meet
          exact ⟨_, _, _, _, rfl, Lib.hid hmid⟩
  case rest =>
    obtain ⟨G, D, A0, V, rfl, HMID⟩ := hcut
    obtain ⟨wx, hwx⟩ : ∃ wx : World, wx = wc := ⟨_, rfl⟩
    subst hwx
    have hnx := HNX.out wx HMID.out.below
    have c0 := hnx.1.c0
    have c1 := hnx.1.c1
    have c2 := hnx.1.c2
    have c3 := hnx.1.c3
    clear hnx
    go_wp2_with fail
    refine (cellsOf_any p dv av vv _).mono ?_
    rintro e w2 ⟨rfl, rfl⟩
    dsimp only
    go_wp2
    clear c0 c1 c2 c3
    have hB0 : Below wx.heap.size wx (wx.alloc (.cells #[.int .i64 p, dv, av, vv] 29)) := (Below.refl _ _).alloc (Nat.le_refl _) _
    have hd0 : (wx.alloc (.cells #[.int .i64 p, dv, av, vv] 29)).cell? ⟨wx.heap.size, 1, none⟩ = some dv := new_c1 wx p dv av vv
    have hs0 : (wx.alloc (.cells #[.int .i64 p, dv, av, vv] 29)).heap.size = wx.heap.size + 1 := by simp
    obtain ⟨W0, hW0⟩ : ∃ W0, W0 = wx.alloc (.cells #[.int .i64 p, dv, av, vv] 29) := ⟨_, rfl⟩
    rw [← hW0] at hB0 hd0 hs0 ⊢
    clear hW0
    have hdb := HMID.out.below.size
    have hlo := HMID.out.lo
    have hgl := HMID.out.box.lt
    have hBw1 : Below w1.heap.size w1 W0 := HMID.out.below.trans (hB0.mono hdb)
    have hBw : Below w.heap.size w W0 := HX1.out.below.trans (hBw1.mono (by omega))
    have hst := cells_stops Fence.wide 7 trivial rfl (by decide) wx.heap.size dv ds (by omega) (fun r hr => by have := (HOK.out.col r hr).1; have := HOK.out.h1; omega) w W0 (by omega) hd0 HX.out.dims hBw
    have hfl0 : Fl (tg0 D A0 V) w1.heap.size W0 D A0 V n (List.replicate n (.slice none 0 0)) (List.replicate n (.slice none 0 0)) (List.replicate n (.slice none 0 0)) (colF n [] (cdI ds)) (colF n [] (tbl dn)) (colF n [] (tbl ac)) := by
      rw [colF_nil, colF_nil, colF_nil]
      exact (fl_made ⟨hlo.2.1, hlo.2.2.1, hlo.2.2.2⟩ HMID.out.ne HMID.out.d HMID.out.a HMID.out.v (by unfold maxLen; omega)).kept (Stp1.of_below hB0 (fun _ _ => rfl) 0)
    have hg0 : tg0 D A0 V G = 0 := by
      unfold tg0
      rw [if_neg HMID.out.gn.1, if_neg HMID.out.gn.2.1, if_neg HMID.out.gn.2.2]
    have hgb0 : W0.heap[G]? = some (.cells #[.int .i64 p, .slice (some ⟨D, 0, none⟩) n n, .slice (some ⟨A0, 0, none⟩) n n, .slice (some ⟨V, 0, none⟩) n n] 29 (0, 0)) := (hB0.block G hgl).trans HMID.out.box
    have HS0 := Lib.hid hs0
    have hgn := HMID.out.lo.1
    clear HMID hB0 hd0 hs0
    refine (wpIn_wide (n := 8)).1 ?_
    refine wpIn_rangeFunc_cell rfl (by decide : 1 ≤ 8) (gf := 93) (lb := #[.pointer (some ⟨wx.heap.size, 0, none⟩)]) rfl trivial (enters_of Tryz.func93 (by kernel_rfl) rfl)
      hst belowK_t (belowK_b (by have := HS0.out; omega)) (Below.refl _ _) (fun _ => rfl)
      (fun (pre : List (CellIn ds)) W => (∃ (L : Nat → Nat) (dvs avs vvs : List Value), Fl L w1.heap.size W D A0 V n dvs avs vvs (colF n (cpre pre) (cdI ds)) (colF n (cpre pre) (tbl dn)) (colF n (cpre pre) (tbl ac)) ∧ L G = 0 ∧ W.heap[G]? = some (.cells #[.int .i64 p, .slice (some ⟨D, 0, none⟩) n n, .slice (some ⟨A0, 0, none⟩) n n, .slice (some ⟨V, 0, none⟩) n n] 29 (0, 0))) ∧ Below w1.heap.size w1 W) (fun _ _ _ => False)
      (OwnFrom.and (fun (s : List (CellIn ds)) X Y row ⟨L, dvs, avs, vvs, h1, h2, h3⟩ hg hr => ⟨L, dvs, avs, vvs, h1.kept ⟨⟨row, hg, fun r e _ => .inr (hr r e).2⟩, fun _ _ => rfl⟩, h2, (hg.block G (Array.getElem?_eq_some_iff.1 h3).1 (fun e => by obtain ⟨_, ho, hc⟩ := (hr G e.symm).2; rw [h3] at ho; cases ho; cases hc)).trans h3⟩) (ownFrom_below (Nat.le_refl _) (by have := HS0.out; omega))) (fun _ _ _ _ _ h _ _ => h)
      ⟨⟨_, _, _, _, hfl0, hg0, hgb0⟩, hBw1⟩ (fun x => #[.int .i64 (x.1.1 : Int), .int .i64 (x.1.2 : Int)]) 4 63 w1.heap.size
      ?assign ?body ?done ?stop
    case assign =>
      rintro l pre x A K ⟨⟨L, dvs, avs, vvs, hf, hl, hgb⟩, hb⟩ hKK
      simp only [cellV] at hKK ⊢
      have hsz := hb.size
      gi_wp2
      have hba := below_alloc1 A (.cells #[.int .i64 (x.1.1 : Int), .int .i64 (x.1.2 : Int)] 63)
      have hk := hKK A.heap.size _ hsz (World.alloc_heap_new A _) ((KeepsOthers.alloc _ _).from _) ((Below.refl _ A).alloc (by omega) _) ⟨⟨L, dvs, avs, vvs, hf.kept (Stp1.of_below ((Below.refl _ A).alloc (Nat.le_refl _) _) (fun _ _ => rfl) 0), hl, (((Below.refl _ A).alloc (Nat.le_refl _) _).block _ (Array.getElem?_eq_some_iff.1 hgb).1).trans hgb⟩, hb.trans (((Below.refl _ A).alloc (Nat.le_refl _) _).mono hsz)⟩
      simp at hk
      refine Eq.mp ?_ hk
      congr 1
      all_goals (try congr 1)
    case body =>
      rintro l pre x Bx A hl ⟨r, hr⟩ ⟨⟨L, dvs, avs, vvs, hf, hlg, hgb⟩, hb⟩ hBx hX hlt
      obtain ⟨⟨i, j⟩, hxm⟩ := x
      dsimp only at hX
      have hmf := mem_cells.1 hxm
      dsimp only at hmf
      have hxi := hmf.1
      have hcol : (ds.getD i []).length = n := by rw [HN.out]; exact cl_height HOK.out hxi
      have hjn : j < n := by rw [← hcol]; exact hmf.2
      have hsz := hb.size
      have HNA : Hid (∀ X, Below A.heap.size A X → DBx w X w.heap.size p dv av vv ds ac dn) := Lib.hid (fun X hx => (HNX.out X (hb.trans (hx.mono hsz))).1)
      have x0 : A.cell? ⟨Bx, 0, none⟩ = some (.int .i64 (i : Int)) := by simp [World.cell?, hX]
      have x1 : A.cell? ⟨Bx, 1, none⟩ = some (.int .i64 (j : Int)) := by simp [World.cell?, hX]
      have HX0 : Hid (∀ X, Below A.heap.size A X → X.cell? ⟨Bx, 0, none⟩ = some (.int .i64 (i : Int)) ∧ X.cell? ⟨Bx, 1, none⟩ = some (.int .i64 (j : Int))) := Lib.hid (fun X hb => ⟨later hb (Nat.le_refl _) x0, later hb (Nat.le_refl _) x1⟩)
      have hf2 := hf.retag hX (by decide)
      have hlg2 : retag L Bx G = 0 := by
        unfold retag
        by_cases e : G = Bx
        · rw [if_pos e]
        · rw [if_neg e]; exact hlg
      have hlb2 : retag L Bx Bx = 0 := if_pos rfl
      obtain ⟨L, hL⟩ : ∃ M, M = retag L Bx := ⟨_, rfl⟩
      rw [← hL] at hf2 hlg2 hlb2
      have HFA := Lib.hid hf2
      have HLG := Lib.hid hlg2
      have HLB := Lib.hid hlb2
      have HGB := Lib.hid hgb
      have HBA := Lib.hid hb
      have HXA := Lib.hid hX
      have hcd := cdim_cast HOK.out hxm
      have hdl4 : dcl ds (i : Int) ((j : Int) - 1) ≤ 4 := by
        by_cases e : j = 0
        · rw [show dcl ds (i : Int) ((j : Int) - 1) = 0 from if_pos (.inr (by omega))]; omega
        · obtain ⟨q, rfl⟩ : ∃ q, j = q + 1 := ⟨j - 1, by omega⟩
          have h5 := cdim_cast HOK.out (cell_low hxm)
          have h6 := h5.1
          simp only at h6
          rw [show (((q + 1 : Nat) : Int) - 1) = (q : Int) by omega, ← h6]
          have := h5.2
          omega
      have hdl3 : dcl ds ((i : Int) - 1) (j : Int) ≤ 4 := by
        by_cases e : i = 0
        · rw [show dcl ds ((i : Int) - 1) (j : Int) = 0 from if_pos (.inl (by omega))]; omega
        · obtain ⟨q, rfl⟩ : ∃ q, i = q + 1 := ⟨i - 1, by omega⟩
          have h5 := cdim_cast HOK.out (cell_left HOK.out hxm)
          have h6 := h5.1
          simp only at h6
          rw [show (((q + 1 : Nat) : Int) - 1) = (q : Int) by omega, ← h6]
          have := h5.2
          omega
      have hcd1 := hcd.1
      have hcd2 := hcd.2
      simp only at hcd1
      have HPL : Hid ((cpre pre).length ≤ 16) := Lib.hid (by have h3 := cells_le HOK.out; rw [cpre_len]; omega)
      have hia4 : i < dn.length := by rw [HDB.out.tbs.ld]; exact hxi
      have hja4 : j < (dn[i]).length := by have h1 := HDB.out.tbs.cd i hxi; rw [getD_of_lt _ hia4] at h1; omega
      obtain ⟨ba4, oa4, ca4, b24, o24, k24, ut4, hva4, hA14, hA24, hTl4⟩ := l4_at (HNA.out A (Below.refl _ _)).dx.down hia4 hja4
      have hTt4 : (dn[i])[j] = tbl dn (i, j) := by unfold tbl; dsimp only; rw [getD_of_lt _ hia4, getD_of_lt _ hja4]
      rw [hTt4] at hTl4
      obtain ⟨n14, hn14⟩ : ∃ k, k = dn.length := ⟨_, rfl⟩
      obtain ⟨n24, hn24⟩ : ∃ k, k = (dn[i]).length := ⟨_, rfl⟩
      rw [← hn14] at hva4
      rw [← hn24] at hA14
      have hi14 : i < n14 := by omega
      have hj24 : j < n24 := by omega
      have HA14 := Lib.hid hA14
      have HA24 := Lib.hid hA24
      have HTL4 := Lib.hid hTl4
      have HTO4 : Hid (TabOk p (dcl ds i j) (dcl ds (i : Int) ((j : Int) - 1)) (tbl dn (i, j))) := Lib.hid ((HDB.out.tbs.tab (i, j) hxm).2)
      obtain ⟨ta4, tc4, hut4⟩ := Sl.shape hTl4
      subst hut4
      obtain ⟨nt4, hnt4⟩ : ∃ k, k = (tbl dn (i, j)).length := ⟨_, rfl⟩
      rw [← hnt4] at HA24 HTL4
      have HNT4 := Lib.hid hnt4
      have HVA4 := Lib.hid hva4
      clear hn14 hn24 hA14 hA24 hTl4 hTt4 hia4 hja4 hnt4 hva4
      have hia5 : i < ac.length := by rw [HDB.out.tbs.la]; exact hxi
      have hja5 : j < (ac[i]).length := by have h1 := HDB.out.tbs.ca i hxi; rw [getD_of_lt _ hia5] at h1; omega
      obtain ⟨ba5, oa5, ca5, b25, o25, k25, ut5, hva5, hA15, hA25, hTl5⟩ := l4_at (HNA.out A (Below.refl _ _)).dx.across hia5 hja5
      have hTt5 : (ac[i])[j] = tbl ac (i, j) := by unfold tbl; dsimp only; rw [getD_of_lt _ hia5, getD_of_lt _ hja5]
      rw [hTt5] at hTl5
      obtain ⟨n15, hn15⟩ : ∃ k, k = ac.length := ⟨_, rfl⟩
      obtain ⟨n25, hn25⟩ : ∃ k, k = (ac[i]).length := ⟨_, rfl⟩
      rw [← hn15] at hva5
      rw [← hn25] at hA15
      have hi15 : i < n15 := by omega
      have hj25 : j < n25 := by omega
      have HA15 := Lib.hid hA15
      have HA25 := Lib.hid hA25
      have HTL5 := Lib.hid hTl5
      have HTO5 : Hid (TabOk p (dcl ds i j) (dcl ds ((i : Int) - 1) (j : Int)) (tbl ac (i, j))) := Lib.hid ((HDB.out.tbs.tab (i, j) hxm).1)
      obtain ⟨ta5, tc5, hut5⟩ := Sl.shape hTl5
      subst hut5
      obtain ⟨nt5, hnt5⟩ : ∃ k, k = (tbl ac (i, j)).length := ⟨_, rfl⟩
      rw [← hnt5] at HA25 HTL5
      have HNT5 := Lib.hid hnt5
      have HVA5 := Lib.hid hva5
      clear hn15 hn25 hA15 hA25 hTl5 hTt5 hia5 hja5 hnt5 hva5
      clear hf hlg hgb hb hX hf2 hlg2 hlb2 hL x0 x1 hr
      have HB4 : Hid (Below A.heap.size A A) := Lib.hid (Below.refl _ _)
      gi_wp2_with fail
      refine wpIn_region_held (S := fun X => Below A.heap.size A X) (by kernel_rfl) (by kernel_rfl) (fun ⟨_, _, h⟩ => h) ?_
      have S0 : Below A.heap.size A A.drew := HB4.out.drew
      change wpAnyH _ _ _ _ _ _ _ _ A.drew
      obtain ⟨wd, hwd⟩ : ∃ wd, wd = A.drew := ⟨_, rfl⟩
      have hsd : wd.heap.size = A.heap.size := by rw [hwd]; rfl
      have hbd4 : Below A.heap.size A wd := by rw [hwd]; exact (Below.refl _ _).drew
      rw [← hwd] at S0 ⊢
      clear hwd
      refine held_take (i := 0) (v := (.pointer (some ⟨w.heap.size, 0, none⟩))) (some 15) rfl rfl (by kernel_rfl) (by kernel_rfl) (by kernel_rfl) (fun _ _ _ h => h) (yieldsIf_run (by kernel_rfl) (fun W _ => by kernel_rfl)) S0 ?_
      refine held_take (i := 1) (v := (.int .i64 p)) (some 16) rfl rfl (by kernel_rfl) (by kernel_rfl) (by kernel_rfl) (fun _ _ _ h => h) (yieldsIf_cell (by kernel_rfl) rfl (by kernel_rfl) (fun W h => hloadIn W (HNA.out W h).c0)) S0 ?_
      refine held_take (i := 2) (v := (.pointer (some ⟨w.heap.size, 3, none⟩))) (some 17) rfl rfl (by kernel_rfl) (by kernel_rfl) (by kernel_rfl) (fun _ _ _ h => h) (yieldsIf_run (by kernel_rfl) (fun W _ => by kernel_rfl)) S0 ?_
      refine held_take (i := 3) (v := (.slice (some ⟨ba4, oa4, none⟩) n14 ca4)) (some 18) rfl rfl (by kernel_rfl) (by kernel_rfl) (by kernel_rfl) (fun _ _ _ h => h) (yieldsIf_cell (by kernel_rfl) rfl (by kernel_rfl) (fun W h => hload4 W (by rw [← HVA4.out]; exact (HNA.out W h).c3))) S0 ?_
      refine held_take (i := 4) (v := (.pointer (some ⟨Bx, 0, none⟩))) (some 19) rfl rfl (by kernel_rfl) (by kernel_rfl) (by kernel_rfl) (fun _ _ _ h => h) (yieldsIf_run (by kernel_rfl) (fun W _ => by kernel_rfl)) S0 ?_
      refine held_take (i := 5) (v := (.int .i64 (i : Int))) (some 20) rfl rfl (by kernel_rfl) (by kernel_rfl) (by kernel_rfl) (fun _ _ _ h => h) (yieldsIf_cell (by kernel_rfl) rfl (by kernel_rfl) (fun W h => hloadIn W (HX0.out W h).1)) S0 ?_
      refine held_take (i := 6) (v := (.pointer (some ⟨ba4, oa4 + i, none⟩))) (some 21) rfl rfl (by kernel_rfl) (by kernel_rfl) (by kernel_rfl) (fun _ _ _ h => h) (yieldsIf_index (by kernel_rfl) rfl (by kernel_rfl) (by kernel_rfl) (hidx4 (cap := ca4) rfl hi14)) S0 ?_
      refine held_take (i := 7) (v := (.slice (some ⟨b24, o24, none⟩) n24 k24)) (some 22) rfl rfl (by kernel_rfl) (by kernel_rfl) (by kernel_rfl) (fun _ _ _ h => h) (yieldsIf_cell (by kernel_rfl) rfl (by kernel_rfl) (fun W h => hload3s W (later h (Nat.le_refl _) HA14.out))) S0 ?_
      refine held_take (i := 8) (v := (.pointer (some ⟨Bx, 1, none⟩))) (some 23) rfl rfl (by kernel_rfl) (by kernel_rfl) (by kernel_rfl) (fun _ _ _ h => h) (yieldsIf_run (by kernel_rfl) (fun W _ => by kernel_rfl)) S0 ?_
      refine held_take (i := 9) (v := (.int .i64 (j : Int))) (some 24) rfl rfl (by kernel_rfl) (by kernel_rfl) (by kernel_rfl) (fun _ _ _ h => h) (yieldsIf_cell (by kernel_rfl) rfl (by kernel_rfl) (fun W h => hloadIn W (HX0.out W h).2)) S0 ?_
      refine held_take (i := 10) (v := (.pointer (some ⟨b24, o24 + j, none⟩))) (some 25) rfl rfl (by kernel_rfl) (by kernel_rfl) (by kernel_rfl) (fun _ _ _ h => h) (yieldsIf_index (by kernel_rfl) rfl (by kernel_rfl) (by kernel_rfl) (hidx3 b24 o24 k24 hj24)) S0 ?_
      refine held_take (i := 11) (v := (.slice ta4 nt4 tc4)) (some 26) rfl rfl (by kernel_rfl) (by kernel_rfl) (by kernel_rfl) (fun _ _ _ h => h) (yieldsIf_cell (by kernel_rfl) rfl (by kernel_rfl) (fun W h => hload2s W (later h (Nat.le_refl _) HA24.out))) S0 ?_
      have HSC4 := Lib.hid (scaledTable_any p 1 (dcl ds (i : Int) ((j : Int) - 1)).toNat (.slice ta4 nt4 tc4) (tbl dn (i, j)) wd hp0 hp1 ⟨by omega, by omega⟩ (HTL4.out.below S0) (by have := HTO4.out.1; omega) (by omega) (fun y hy => ⟨by have := (HTO4.out.2 y hy).1; omega, (HTO4.out.2 y hy).2⟩))
      refine held_enter (i := 12) (some 27) (f := 73) (args := #[.int .i64 p, .int .i64 1, .slice ta4 nt4 tc4]) (by kernel_rfl) rfl rfl rfl (by kernel_rfl) HSC4.out ?_ (fun c w' h => by cases h.1) (fun w' h => by cases h.1)
      rintro ee Z4 ⟨he, hm4⟩
      injection he with he
      subst he
      have S1 : Below A.heap.size A Z4 := S0.trans (hm4.below.mono S0.size)
      refine ⟨S1, ?_⟩
      refine held_take (i := 13) (v := (.slice (some ⟨wd.heap.size, 0, none⟩) (tbl dn (i, j)).length (tbl dn (i, j)).length)) (some 5) rfl rfl (by kernel_rfl) (by kernel_rfl) (by kernel_rfl) (fun _ _ _ h => h) (yieldsIf_assign (by kernel_rfl) rfl (by kernel_rfl)) S1 ?_
      refine wpAnyH_done (by kernel_rfl) ?_ _
      simp only [Act.put, List.setIfInBounds_toArray, List.set_cons_zero, List.set_cons_succ]
      have hbz4 : Below A.heap.size A Z4 := hbd4.trans (hm4.below.mono (by omega))
      have HM4 := Lib.hid hm4
      have HB5 := Lib.hid S1
      have HBZ4 := Lib.hid hbz4
      have HSD4 := Lib.hid hsd
      obtain ⟨wd4, hwd4⟩ : ∃ q, q = wd := ⟨_, rfl⟩
      rw [← hwd4] at HM4 HSD4 ⊢
      clear S0 S1 HSC4 hm4 hbz4 hbd4 hsd hwd4
      gi_wp2_with fail
      refine wpIn_region_held (S := fun X => Below A.heap.size A X) (by kernel_rfl) (by kernel_rfl) (fun ⟨_, _, h⟩ => h) ?_
      have S0 : Below A.heap.size A Z4.drew := HB5.out.drew
      change wpAnyH _ _ _ _ _ _ _ _ Z4.drew
      obtain ⟨wd, hwd⟩ : ∃ wd, wd = Z4.drew := ⟨_, rfl⟩
      have hsd : wd.heap.size = Z4.heap.size := by rw [hwd]; rfl
      have hbd5 : Below Z4.heap.size Z4 wd := by rw [hwd]; exact (Below.refl _ _).drew
      rw [← hwd] at S0 ⊢
      clear hwd
      refine held_take (i := 0) (v := (.pointer (some ⟨w.heap.size, 0, none⟩))) (some 28) rfl rfl (by kernel_rfl) (by kernel_rfl) (by kernel_rfl) (fun _ _ _ h => h) (yieldsIf_run (by kernel_rfl) (fun W _ => by kernel_rfl)) S0 ?_
      refine held_take (i := 1) (v := (.int .i64 p)) (some 29) rfl rfl (by kernel_rfl) (by kernel_rfl) (by kernel_rfl) (fun _ _ _ h => h) (yieldsIf_cell (by kernel_rfl) rfl (by kernel_rfl) (fun W h => hloadIn W (HNA.out W h).c0)) S0 ?_
      refine held_take (i := 2) (v := (.pointer (some ⟨w.heap.size, 2, none⟩))) (some 30) rfl rfl (by kernel_rfl) (by kernel_rfl) (by kernel_rfl) (fun _ _ _ h => h) (yieldsIf_run (by kernel_rfl) (fun W _ => by kernel_rfl)) S0 ?_
      refine held_take (i := 3) (v := (.slice (some ⟨ba5, oa5, none⟩) n15 ca5)) (some 31) rfl rfl (by kernel_rfl) (by kernel_rfl) (by kernel_rfl) (fun _ _ _ h => h) (yieldsIf_cell (by kernel_rfl) rfl (by kernel_rfl) (fun W h => hload4 W (by rw [← HVA5.out]; exact (HNA.out W h).c2))) S0 ?_
      refine held_take (i := 4) (v := (.pointer (some ⟨Bx, 0, none⟩))) (some 32) rfl rfl (by kernel_rfl) (by kernel_rfl) (by kernel_rfl) (fun _ _ _ h => h) (yieldsIf_run (by kernel_rfl) (fun W _ => by kernel_rfl)) S0 ?_
      refine held_take (i := 5) (v := (.int .i64 (i : Int))) (some 33) rfl rfl (by kernel_rfl) (by kernel_rfl) (by kernel_rfl) (fun _ _ _ h => h) (yieldsIf_cell (by kernel_rfl) rfl (by kernel_rfl) (fun W h => hloadIn W (HX0.out W h).1)) S0 ?_
      refine held_take (i := 6) (v := (.pointer (some ⟨ba5, oa5 + i, none⟩))) (some 34) rfl rfl (by kernel_rfl) (by kernel_rfl) (by kernel_rfl) (fun _ _ _ h => h) (yieldsIf_index (by kernel_rfl) rfl (by kernel_rfl) (by kernel_rfl) (hidx4 (cap := ca5) rfl hi15)) S0 ?_
      refine held_take (i := 7) (v := (.slice (some ⟨b25, o25, none⟩) n25 k25)) (some 35) rfl rfl (by kernel_rfl) (by kernel_rfl) (by kernel_rfl) (fun _ _ _ h => h) (yieldsIf_cell (by kernel_rfl) rfl (by kernel_rfl) (fun W h => hload3s W (later h (Nat.le_refl _) HA15.out))) S0 ?_
      refine held_take (i := 8) (v := (.pointer (some ⟨Bx, 1, none⟩))) (some 36) rfl rfl (by kernel_rfl) (by kernel_rfl) (by kernel_rfl) (fun _ _ _ h => h) (yieldsIf_run (by kernel_rfl) (fun W _ => by kernel_rfl)) S0 ?_
      refine held_take (i := 9) (v := (.int .i64 (j : Int))) (some 37) rfl rfl (by kernel_rfl) (by kernel_rfl) (by kernel_rfl) (fun _ _ _ h => h) (yieldsIf_cell (by kernel_rfl) rfl (by kernel_rfl) (fun W h => hloadIn W (HX0.out W h).2)) S0 ?_
      refine held_take (i := 10) (v := (.pointer (some ⟨b25, o25 + j, none⟩))) (some 38) rfl rfl (by kernel_rfl) (by kernel_rfl) (by kernel_rfl) (fun _ _ _ h => h) (yieldsIf_index (by kernel_rfl) rfl (by kernel_rfl) (by kernel_rfl) (hidx3 b25 o25 k25 hj25)) S0 ?_
      refine held_take (i := 11) (v := (.slice ta5 nt5 tc5)) (some 39) rfl rfl (by kernel_rfl) (by kernel_rfl) (by kernel_rfl) (fun _ _ _ h => h) (yieldsIf_cell (by kernel_rfl) rfl (by kernel_rfl) (fun W h => hload2s W (later h (Nat.le_refl _) HA25.out))) S0 ?_
      have HSC5 := Lib.hid (scaledTable_any p 1 (dcl ds ((i : Int) - 1) (j : Int)).toNat (.slice ta5 nt5 tc5) (tbl ac (i, j)) wd hp0 hp1 ⟨by omega, by omega⟩ (HTL5.out.below S0) (by have := HTO5.out.1; omega) (by omega) (fun y hy => ⟨by have := (HTO5.out.2 y hy).1; omega, (HTO5.out.2 y hy).2⟩))
      refine held_enter (i := 12) (some 40) (f := 73) (args := #[.int .i64 p, .int .i64 1, .slice ta5 nt5 tc5]) (by kernel_rfl) rfl rfl rfl (by kernel_rfl) HSC5.out ?_ (fun c w' h => by cases h.1) (fun w' h => by cases h.1)
      rintro ee Z5 ⟨he, hm5⟩
      injection he with he
      subst he
      have S1 : Below A.heap.size A Z5 := S0.trans (hm5.below.mono S0.size)
      refine ⟨S1, ?_⟩
      refine held_take (i := 13) (v := (.slice (some ⟨wd.heap.size, 0, none⟩) (tbl ac (i, j)).length (tbl ac (i, j)).length)) (some 6) rfl rfl (by kernel_rfl) (by kernel_rfl) (by kernel_rfl) (fun _ _ _ h => h) (yieldsIf_assign (by kernel_rfl) rfl (by kernel_rfl)) S1 ?_
      refine wpAnyH_done (by kernel_rfl) ?_ _
      simp only [Act.put, List.setIfInBounds_toArray, List.set_cons_zero, List.set_cons_succ]
      have hbz5 : Below Z4.heap.size Z4 Z5 := hbd5.trans (hm5.below.mono (by omega))
      have HM5 := Lib.hid hm5
      have HB6 := Lib.hid S1
      have HBZ5 := Lib.hid hbz5
      have HSD5 := Lib.hid hsd
      obtain ⟨wd5, hwd5⟩ : ∃ q, q = wd := ⟨_, rfl⟩
      rw [← hwd5] at HM5 HSD5 ⊢
      clear S0 S1 HSC5 hm5 hbz5 hbd5 hsd hwd5
      gi_wp2_with fail
      obtain ⟨d2, hd2⟩ : ∃ q, q = colF n (cpre pre) (cdI ds) := ⟨_, rfl⟩
      obtain ⟨a2, ha2⟩ : ∃ q, q = colF n (cpre pre) (tbl dn) := ⟨_, rfl⟩
      obtain ⟨v2, hv2⟩ : ∃ q, q = colF n (cpre pre) (tbl ac) := ⟨_, rfl⟩
      rw [← hd2, ← ha2, ← hv2] at HFA
      have hjd : j < d2.length := by rw [hd2, colF_len]; exact hjn
      have hja : j < a2.length := by rw [ha2, colF_len]; exact hjn
      have hjv : j < v2.length := by rw [hv2, colF_len]; exact hjn
      have hld : (d2[j]).length ≤ 16 := by subst hd2; exact Nat.le_trans (colF_short hjd) HPL.out
      have hla : (a2[j]).length ≤ 16 := by subst ha2; exact Nat.le_trans (colF_short hja) HPL.out
      have hlv : (v2[j]).length ≤ 16 := by subst hv2; exact Nat.le_trans (colF_short hjv) HPL.out
      have HSN : Hid (d2.set j (d2[j] ++ [cdI ds (i, j)]) = colF n (cpre (pre ++ ([⟨(i, j), hxm⟩] : List (CellIn ds)))) (cdI ds) ∧ a2.set j (a2[j] ++ [tbl dn (i, j)]) = colF n (cpre (pre ++ ([⟨(i, j), hxm⟩] : List (CellIn ds)))) (tbl dn) ∧ v2.set j (v2[j] ++ [tbl ac (i, j)]) = colF n (cpre (pre ++ ([⟨(i, j), hxm⟩] : List (CellIn ds)))) (tbl ac)) := Lib.hid (by
        subst hd2 ha2 hv2
        have e9 : cpre (pre ++ ([⟨(i, j), hxm⟩] : List (CellIn ds))) = cpre pre ++ [(i, j)] := by unfold cpre; rw [List.map_append]; rfl
        rw [e9]
        exact ⟨colF_snoc hjd, colF_snoc hja, colF_snoc hjv⟩)
      clear hd2 ha2 hv2
      have hs4 : A.heap.size ≤ Z4.heap.size := HBZ4.out.size
      have hs5 : Z4.heap.size ≤ Z5.heap.size := HBZ5.out.size
      obtain ⟨L1, hL1⟩ : ∃ M : Nat → Nat, M = fun b => if b < A.heap.size then L b else 100 + 200 * j + (a2[j]).length := ⟨_, rfl⟩
      obtain ⟨L2, hL2⟩ : ∃ M : Nat → Nat, M = fun b => if b < Z4.heap.size then L1 b else 200 + 200 * j + (v2[j]).length := ⟨_, rfl⟩
      obtain ⟨L3, hL3⟩ : ∃ M : Nat → Nat, M = fun b => if b < Z5.heap.size then L2 b else 0 := ⟨_, rfl⟩
      have o1 : ∀ b, b < A.heap.size → L1 b = L b := fun b hb => by rw [hL1]; exact if_pos hb
      have n1 : ∀ b, A.heap.size ≤ b → L1 b = 100 + 200 * j + (a2[j]).length := fun b hb => by rw [hL1]; exact if_neg (by omega)
      have o2 : ∀ b, b < Z4.heap.size → L2 b = L1 b := fun b hb => by rw [hL2]; exact if_pos hb
      have n2 : ∀ b, Z4.heap.size ≤ b → L2 b = 200 + 200 * j + (v2[j]).length := fun b hb => by rw [hL2]; exact if_neg (by omega)
      have o3 : ∀ b, b < Z5.heap.size → L3 b = L2 b := fun b hb => by rw [hL3]; exact if_pos hb
      clear hL1 hL2 hL3
      have o13 : ∀ b, b < A.heap.size → L3 b = L b := fun b hb => ((o3 b (by omega)).trans (o2 b (by omega))).trans (o1 b hb)
      have t4 : TTab L1 (100 + 200 * j + (a2[j]).length) w1.heap.size Z4 (.slice (some ⟨wd4.heap.size, 0, none⟩) (tbl dn (i, j)).length (tbl dn (i, j)).length) (tbl dn (i, j)) := by
        have h0 := TTab.of_mat (L := L1) (s := 100 + 200 * j + (a2[j]).length) (base := w1.heap.size) HM4.out (by rw [HSD4.out]; exact hsz) (by have := HTO4.out.1; omega) (by omega) (fun b hb => n1 b (by have := HSD4.out; omega))
        rwa [sc_tab HTO4.out] at h0
      have t5 : TTab L2 (200 + 200 * j + (v2[j]).length) w1.heap.size Z5 (.slice (some ⟨wd5.heap.size, 0, none⟩) (tbl ac (i, j)).length (tbl ac (i, j)).length) (tbl ac (i, j)) := by
        have h0 := TTab.of_mat (L := L2) (s := 200 + 200 * j + (v2[j]).length) (base := w1.heap.size) HM5.out (by rw [HSD5.out]; omega) (by have := HTO5.out.1; omega) (by omega) (fun b hb => n2 b (by have := HSD5.out; omega))
        rwa [sc_tab HTO5.out] at h0
      have HT4 : Hid (∀ X, Below Z5.heap.size Z5 X → TTab L3 (100 + 200 * j + (a2[j]).length) w1.heap.size X (.slice (some ⟨wd4.heap.size, 0, none⟩) (tbl dn (i, j)).length (tbl dn (i, j)).length) (tbl dn (i, j))) := Lib.hid (fun X hx => ((t4.kept (Stp1.of_below HBZ5.out o2 0) (by omega)).kept (Stp1.of_below hx o3 0) (by omega)))
      have HT5 : Hid (∀ X, Below Z5.heap.size Z5 X → TTab L3 (200 + 200 * j + (v2[j]).length) w1.heap.size X (.slice (some ⟨wd5.heap.size, 0, none⟩) (tbl ac (i, j)).length (tbl ac (i, j)).length) (tbl ac (i, j))) := Lib.hid (fun X hx => t5.kept (Stp1.of_below hx o3 0) (by omega))
      have HBT : Hid (∀ X, Below Z5.heap.size Z5 X → Below A.heap.size A X) := Lib.hid (fun X hx => HB6.out.trans (hx.mono (by omega)))
      have HFT : Hid (∀ X, Below Z5.heap.size Z5 X → Fl L3 w1.heap.size X D A0 V n dvs avs vvs d2 a2 v2) := Lib.hid (fun X hx => HFA.out.kept (Stp1.of_below (HBT.out X hx) o13 0))
      have hGlt := (Array.getElem?_eq_some_iff.1 HGB.out).1
      have hBlt := (Array.getElem?_eq_some_iff.1 HXA.out).1
      have HLG3 : Hid (L3 G = 0) := Lib.hid ((o13 G hGlt).trans HLG.out)
      have HLB3 : Hid (L3 Bx = 0) := Lib.hid ((o13 Bx hBlt).trans HLB.out)
      have HLO3 : Hid (∀ b, b < w1.heap.size → L3 b = 0) := Lib.hid (fun b hb => (HFT.out Z5 (Below.refl _ _)).lo b hb)
      have HC6 : Hid (∀ X : World, X.heap[Bx]? = A.heap[Bx]? → X.cell? ⟨Bx, 0, none⟩ = some (.int .i64 (i : Int)) ∧ X.cell? ⟨Bx, 1, none⟩ = some (.int .i64 (j : Int))) := Lib.hid (fun X hx => by rw [HXA.out] at hx; exact ⟨by simp [World.cell?, hx], by simp [World.cell?, hx]⟩)
      have HDC : Hid (∀ X, Below w1.heap.size w1 X → Calls Tryz.prog 75 #[.agg #[.int .i64 p, dv, av, vv], .agg #[.int .i64 (i : Int), .int .i64 (j : Int)]] X fun e w' => e = .returned (.int .i64 (cdI ds (i, j))) ∧ Below X.heap.size X w') := Lib.hid (fun X hx => by
        have h0 := dimOfCell_any p i j _ av vv ds X (HNX.out X hx).1.dx.dims ⟨by omega, fun r hr => by have := (HOK.out.col r hr).1; have := HOK.out.h1; show r.length ≤ _; omega⟩ (by omega) (by omega) (by omega) (fun _ => by simp only [Int.toNat_natCast]; exact Int.ofNat_lt.2 hmf.2)
        rwa [dcl_nat] at h0)
      clear t4 t5 o1 o2 o3 n1 n2 o13 hcol hcd hcd1 hcd2 hdl3 hdl4
      refine wpIn_region_held (S := fun X => A.heap.size ≤ X.heap.size ∧ Below w1.heap.size w1 X ∧ X.heap[Bx]? = A.heap[Bx]?) (by kernel_rfl) (by kernel_rfl) (fun ⟨_, _, h⟩ => h) ?_
      have hbd : Below Z5.heap.size Z5 Z5.drew := (Below.refl _ _).drew
      change wpAnyH _ _ _ _ _ _ _ _ Z5.drew
      obtain ⟨wd, hwd⟩ : ∃ wd, wd = Z5.drew := ⟨_, rfl⟩
      rw [← hwd] at hbd ⊢
      clear hwd
      have HST : Hid (∀ X, Below Z5.heap.size Z5 X → A.heap.size ≤ X.heap.size ∧ Below w1.heap.size w1 X ∧ X.heap[Bx]? = A.heap[Bx]?) := Lib.hid (fun X hx => ⟨(HBT.out X hx).size, HBA.out.trans ((HBT.out X hx).mono hsz), (HBT.out X hx).block Bx hBlt⟩)
      have S0 := HST.out wd hbd
      refine held_take (i := 0) (v := (.pointer (some ⟨Bx, 1, none⟩))) (some 41) rfl rfl (by kernel_rfl) (by kernel_rfl) (by kernel_rfl) (fun _ _ _ h => h) (yieldsIf_run (by kernel_rfl) (fun W _ => by kernel_rfl)) S0 ?_
      refine held_take (i := 1) (v := (.int .i64 (j : Int))) (some 42) rfl rfl (by kernel_rfl) (by kernel_rfl) (by kernel_rfl) (fun _ _ _ h => h) (yieldsIf_cell (by kernel_rfl) rfl (by kernel_rfl) (fun W h => hloadIn W (HC6.out W h.2.2).2)) S0 ?_
      refine held_take (i := 2) (v := (.agg #[.int .i64 p, dv, av, vv])) (some 43) rfl rfl (by kernel_rfl) (by kernel_rfl) (by kernel_rfl) (fun _ _ _ h => h) (yieldsIf_cell (by kernel_rfl) rfl (by kernel_rfl) (fun W h => hloadDb W (HNX.out W h.2.1).1)) S0 ?_
      refine held_take (i := 3) (v := (.agg #[.int .i64 (i : Int), .int .i64 (j : Int)])) (some 44) rfl rfl (by kernel_rfl) (by kernel_rfl) (by kernel_rfl) (fun _ _ _ h => h) (yieldsIf_cell (by kernel_rfl) rfl (by kernel_rfl) (fun W h => hloadCe W (HC6.out W h.2.2).1 (HC6.out W h.2.2).2)) S0 ?_
      refine held_take (i := 5) (v := (.slice (some ⟨wd4.heap.size, 0, none⟩) (tbl dn (i, j)).length (tbl dn (i, j)).length)) (some 46) rfl rfl (by kernel_rfl) (by kernel_rfl) (by kernel_rfl) (fun _ _ _ h => h) (yieldsIf_move (by kernel_rfl) rfl (by kernel_rfl)) S0 ?_
      refine held_take (i := 6) (v := (.slice (some ⟨wd5.heap.size, 0, none⟩) (tbl ac (i, j)).length (tbl ac (i, j)).length)) (some 47) rfl rfl (by kernel_rfl) (by kernel_rfl) (by kernel_rfl) (fun _ _ _ h => h) (yieldsIf_move (by kernel_rfl) rfl (by kernel_rfl)) S0 ?_
      refine held_enter (i := 4) (some 45) (f := 75) (args := #[.agg #[.int .i64 p, dv, av, vv], .agg #[.int .i64 (i : Int), .int .i64 (j : Int)]]) (by kernel_rfl) rfl rfl rfl (by kernel_rfl) (HDC.out wd S0.2.1) ?_ (fun c w' h => by cases h.1) (fun w' h => by cases h.1)
      rintro e6 Z6 ⟨he, hb6⟩
      injection he with he
      subst he
      have hbz6 : Below Z5.heap.size Z5 Z6 := hbd.trans (hb6.mono hbd.size)
      have S1 := HST.out Z6 hbz6
      refine ⟨S1, ?_⟩
      have HADC := Lib.hid (addCell_any p L3 w1.heap.size D A0 V n G j (cdI ds (i, j)) (.slice (some ⟨wd4.heap.size, 0, none⟩) (tbl dn (i, j)).length (tbl dn (i, j)).length) (.slice (some ⟨wd5.heap.size, 0, none⟩) (tbl ac (i, j)).length (tbl ac (i, j)).length) dvs avs vvs d2 a2 v2 (tbl dn (i, j)) (tbl ac (i, j)) Z6 (HFT.out Z6 hbz6) (by omega) hjn (((HBT.out Z6 hbz6).block G hGlt).trans HGB.out) HLG3.out hja hjv hjd (HT4.out Z6 hbz6) (HT5.out Z6 hbz6) (by omega) (by omega) (by omega))
      refine held_enter (i := 7) (some 48) (f := 74) (args := #[.pointer (some ⟨G, 0, none⟩), .int .i64 (j : Int), .int .i64 (cdI ds (i, j)), .slice (some ⟨wd4.heap.size, 0, none⟩) (tbl dn (i, j)).length (tbl dn (i, j)).length, .slice (some ⟨wd5.heap.size, 0, none⟩) (tbl ac (i, j)).length (tbl ac (i, j)).length]) (by kernel_rfl) rfl rfl rfl (by kernel_rfl) HADC.out ?_ (fun c w' h => by cases h.1) (fun w' h => by cases h.1)
      rintro e9 X9 ⟨he, L9, dvs9, avs9, vvs9, hfl, hfrm⟩
      injection he with he
      subst he
      have hAZ := HBT.out Z6 hbz6
      have hAs := hAZ.size
      have hB9 : Below w1.heap.size w1 X9 := hfrm.below S1.2.1 (Nat.le_refl _) HLO3.out
      have hBx9 : X9.heap[Bx]? = A.heap[Bx]? := (hfrm.blk Bx (by omega) HLB3.out).trans S1.2.2
      refine ⟨⟨Nat.le_trans S1.1 hfrm.size, hB9, hBx9⟩, ?_⟩
      refine wpAnyH_done (by kernel_rfl) ?_ _
      simp only [Act.put, List.setIfInBounds_toArray, List.set_cons_zero, List.set_cons_succ]
      have hG9 : X9.heap[G]? = some (.cells #[.int .i64 p, .slice (some ⟨D, 0, none⟩) n n, .slice (some ⟨A0, 0, none⟩) n n, .slice (some ⟨V, 0, none⟩) n n] 29 (0, 0)) := ((hfrm.blk G (by omega) HLG3.out).trans (hAZ.block G hGlt)).trans HGB.out
      have hLG9 : L9 G = 0 := (hfrm.old G (by omega)).trans HLG3.out
      have hkeep : KeepsFrom W0.heap.size A X9 := (keepsFrom_below hAZ).trans (hfrm.ko.from _)
      have hF1 : Below w.heap.size A X9 := (hfrm.below (w := A) (hAZ.mono hsz) hsz HLO3.out).mono (by omega)
      rw [HSN.out.1, HSN.out.2.1, HSN.out.2.2] at hfl
      have HEND := Lib.hid (And.intro hkeep (And.intro hF1 (And.intro (⟨L9, dvs9, avs9, vvs9, hfl, hLG9, hG9⟩ : ∃ (L : Nat → Nat) (dvs avs vvs : List Value), Fl L w1.heap.size X9 D A0 V n dvs avs vvs (colF n (cpre (pre ++ ([⟨(i, j), hxm⟩] : List (CellIn ds)))) (cdI ds)) (colF n (cpre (pre ++ ([⟨(i, j), hxm⟩] : List (CellIn ds)))) (tbl dn)) (colF n (cpre (pre ++ ([⟨(i, j), hxm⟩] : List (CellIn ds)))) (tbl ac)) ∧ L G = 0 ∧ X9.heap[G]? = some (.cells #[.int .i64 p, .slice (some ⟨D, 0, none⟩) n n, .slice (some ⟨A0, 0, none⟩) n n, .slice (some ⟨V, 0, none⟩) n n] 29 (0, 0))) hB9)))
      clear hkeep hF1 hfl hLG9 hG9 hB9 hBx9 hfrm S0 S1 hbd hb6 hbz6 HADC
      exact HEND.out
    case done =>
      rintro Dd zs A hD hS ⟨⟨L, dvs, avs, vvs, hf, hlg, hgb⟩, hb⟩ hKD
      have hcp : cpre zs = cellsTo ds ds.length := hS
      rw [hcp] at hf
      have HFA := Lib.hid hf
      have HKD := Lib.hid hKD
      have HBA := Lib.hid hb
      have g0 : A.cell? ⟨G, 0, none⟩ = some (.int .i64 p) := by simp [World.cell?, hgb]
      have g1 : A.cell? ⟨G, 1, none⟩ = some (.slice (some ⟨D, 0, none⟩) n n) := by simp [World.cell?, hgb]
      have g2 : A.cell? ⟨G, 2, none⟩ = some (.slice (some ⟨A0, 0, none⟩) n n) := by simp [World.cell?, hgb]
      have g3 : A.cell? ⟨G, 3, none⟩ = some (.slice (some ⟨V, 0, none⟩) n n) := by simp [World.cell?, hgb]
      have hRz := (HNX.out A hb).2
      have hDl : Dd < A.heap.size := (Array.getElem?_eq_some_iff.1 hKD).1
      have hDn : Dd ≠ w.heap.size + 1 := fun e => by have h1 : A.heap[w.heap.size + 1]? = _ := hRz; rw [← e, hKD] at h1; cases h1
      have HZ : Hid (A.heap[w.heap.size + 1]? = some (.cells Zd4 29 (0, 0))) := Lib.hid hRz
      obtain ⟨WF, hWF⟩ : ∃ WF, WF = A.setRow (w.heap.size + 1) #[.int .i64 p, .slice (some ⟨D, 0, none⟩) n n, .slice (some ⟨A0, 0, none⟩) n n, .slice (some ⟨V, 0, none⟩) n n] := ⟨_, rfl⟩
      have hrF : Rz WF (w.heap.size + 1) 29 #[.int .i64 p, .slice (some ⟨D, 0, none⟩) n n, .slice (some ⟨A0, 0, none⟩) n n, .slice (some ⟨V, 0, none⟩) n n] := by rw [hWF]; exact Rz.set HZ.out _
      have hgF : A.grownBy WF (some (w.heap.size + 1)) := by rw [hWF]; exact grown_setRow _ _ _
      have hkF : WF.heap[Dd]? = some (.deferred (some [])) := (hgF.block Dd hDl (fun e => by cases e; exact hDn rfl)).trans hKD
      have HKF := Lib.hid hkF
      have hpo : ∀ i, i ≠ Dd → (WF.putObj Dd (.deferred none)).heap[i]? = WF.heap[i]? := fun i hi => World.putObj_heap_other (by omega)
      have hcpo : ∀ o, (WF.putObj Dd (.deferred none)).cell? ⟨w.heap.size + 1, o, none⟩ = WF.cell? ⟨w.heap.size + 1, o, none⟩ := fun o => World.cell?_of_block (hpo (w.heap.size + 1) (fun e => hDn e.symm))
      have HG0 := Lib.hid ((hcpo 0).trans (hrF.cell (i := 0) (v := _) rfl))
      have HG1 := Lib.hid ((hcpo 1).trans (hrF.cell (i := 1) (v := _) rfl))
      have HG2 := Lib.hid ((hcpo 2).trans (hrF.cell (i := 2) (v := _) rfl))
      have HG3 := Lib.hid ((hcpo 3).trans (hrF.cell (i := 3) (v := _) rfl))
      have hst1 : Stp1 L L 0 A WF := ⟨⟨_, hgF, fun r e _ => by cases e; exact .inl (hf.lo _ (by omega))⟩, fun _ _ => rfl⟩
      have hst2 : Stp1 L L 0 WF (WF.putObj Dd (.deferred none)) := ⟨⟨_, grownBy_putObj' WF Dd (.deferred none), fun r e _ => by cases e; exact .inr ⟨_, hkF, rfl⟩⟩, fun _ _ => rfl⟩
      have HFF := Lib.hid ((hf.kept hst1).kept hst2)
      have HBF : Hid (Below w.heap.size w WF) := Lib.hid (by rw [hWF]; exact below_setRow (HX1.out.below.trans (hb.mono (by omega))) (Nat.le_succ _) _)
      have HWF := Lib.hid hWF
      clear hWF hrF hgF hkF hpo hcpo hst1 hst2 hRz hf hb hS hcp hKD hgb hlg
      go_wp2_with (with_reducible refine wpList_store_row rfl 29 (.tmp 2) (.tmp 49) rfl (w.heap.size + 1) #[.int .i64 p, .slice (some ⟨D, 0, none⟩) n n, .slice (some ⟨A0, 0, none⟩) n n, .slice (some ⟨V, 0, none⟩) n n] rfl rfl 29 Zd4 HZ.out (infoDb _ _ _ _) rfl (by kernel_rfl) ?_)
      rw [← HWF.out]
      go_wp2
      refine ⟨by simp, .inl ⟨_, _, rfl, run_takeDeferred HKF.out, ?_⟩⟩
      refine ⟨_, results_db HRES.out _ (w.heap.size + 1) _ _ _ _ _ rfl HG0.out HG1.out HG2.out HG3.out, w1.heap.size, D, A0, V, n, L, dvs, avs, vvs, rfl, HN.out, by omega, HFF.out, HBF.out.trans (belowK_b (w := w) (Nat.le_refl _) _ Dd _ _ (by have := HS0.out; omega) HKF.out rfl rfl)⟩
    case stop =>
      rintro D c pre A hD _ hf hKD
      exact hf.elim
end Go.Proofs.YtlopenephgabhaaGreat


namespace Go.Proofs.YtlopenephgabhaaGreat
open Go.RowKit

def rowp {α : Type} (g : Nat × Nat → α) (j i : Nat) : List α := (List.range i).map fun a => g (a, j)
theorem rowp_succ {α : Type} (g : Nat × Nat → α) (j i : Nat) : rowp g j (i + 1) = rowp g j i ++ [g (i, j)] := by unfold rowp; rw [List.range_succ, List.map_append]; rfl
def rowG {α : Type} (ds : List (List Int)) (g : Nat × Nat → α) (j : Nat) : List α := (List.range ds.length).map fun i => g (i, j)
theorem rowp_all {α : Type} (ds : List (List Int)) (g : Nat × Nat → α) (j : Nat) : rowp g j ds.length = rowG ds g j := rfl
theorem range_snoc {α : Type} (f : Nat → α) (j : Nat) : (List.range (j + 1)).map f = (List.range j).map f ++ [f j] := by rw [List.range_succ, List.map_append]; rfl
theorem rowp_len {α : Type} (g : Nat × Nat → α) (j i : Nat) : (rowp g j i).length = i := by simp [rowp]
theorem FlM.retag {L L' : Nat → Nat} {base : Nat} {W : World} {g j1 j2 j3 : Nat} {p : Int} {vD vA vV : Value} {d2 : List (List Int)} {a2 v2 : List (List (List (List Int)))} (h : FlM L base W g p j1 j2 j3 vD vA vV d2 a2 v2) (ho : ∀ b, base ≤ b → L' b = L b) (hg : L' g = L g) : FlM L' base W g p j1 j2 j3 vD vA vV d2 a2 v2 := by
  have ht : ∀ {k e u n xs}, TR L k base e W u n xs → TR L' k base e W u n xs := fun {k e u n xs} h => ⟨h.1, fun q hq => by rw [ho q (h.1.lt q hq).1]; exact h.2 q hq⟩
  have hi : ∀ {k u xs}, TI L k base W u xs → TI L' k base W u xs := fun {k u xs} h => ⟨h.1, fun q hq => by rw [ho q (h.1.lt q hq).1]; exact h.2 q hq⟩
  have hb : ∀ {s u t}, TTab L s base W u t → TTab L' s base W u t := fun {s u t} h => by
    obtain ⟨vs, hq, h1, h2⟩ := h
    exact ⟨vs, hq, fun q hq2 => by rw [ho q (hq.own.lt q hq2).1]; exact h1 q hq2, fun i a q hq2 => by rw [ho q ((hq.rows i a (by have := hq.len; omega)).lt q hq2).1]; exact h2 i a q hq2⟩
  have hs : ∀ {k τ u ts}, TTabs L k τ base W u ts → TTabs L' k τ base W u ts := fun {k τ u ts} h => by
    obtain ⟨vs, h1, h2⟩ := h
    exact ⟨vs, ht h1, fun i a b => hb (h2 i a b)⟩
  obtain ⟨s1, t1, l1, r1⟩ := h.o1
  obtain ⟨s2, t2, l2, r2⟩ := h.o2
  obtain ⟨s3, t3, l3, r3⟩ := h.o3
  exact ⟨⟨s1, ht t1, l1, fun q a b => hi (r1 q a b)⟩, ⟨s2, ht t2, l2, fun q a b => hs (r2 q a b)⟩, ⟨s3, ht t3, l3, fun q a b => hs (r3 q a b)⟩, h.box, hg.trans h.zero, h.lo⟩

set_option maxHeartbeats 25600000 in
set_option maxRecDepth 100000 in
theorem l03Flip_any (p : Int) (dv av vv : Value) (ds : List (List Int)) (ac dn : List (List (List (List Int)))) (w : World) (h : Dx 0 w dv av vv ds ac dn) (hdb : IsDb p ds ac dn) :
    Calls Tryz.prog 21 #[.agg #[.int .i64 p, dv, av, vv]] w fun e w' => ∃ vD vA vV, e = .returned (.agg #[.int .i64 p, vD, vA, vV]) ∧ Dx 0 w' vD vA vV ((List.range (ds.getD 0 []).length).map (rowG ds (cdI ds))) ((List.range (ds.getD 0 []).length).map (rowG ds (tbl dn))) ((List.range (ds.getD 0 []).length).map (rowG ds (tbl ac))) ∧ Below w.heap.size w w' := by
  have hres : Tryz.f21.results = #[.cell 2 29] := by kernel_rfl
  have HRES := Lib.hid hres
  have HDB := Lib.hid hdb
  have HOK := Lib.hid hdb.cel
  have hm4 := hdb.cel.len1
  have hm1 := hdb.cel.len0
  have hq1 := hdb.cel.h0
  have hq4 := hdb.cel.h1
  have HX := Lib.hid h
  rcases h.dims with ⟨hx, _⟩ | ⟨bb, o, cd, rfl, _, hpos, hcl⟩
  · subst hx; simp at hm1
  obtain ⟨u0, hu0, hr0⟩ := hcl 0 hpos
  rw [Nat.add_zero] at hu0
  obtain ⟨a0, z0, rfl⟩ := Sl.shape hr0
  rw [← getD_of_lt [] hpos] at hu0
  clear hcl hr0 h hres
  obtain ⟨ad2, cd2, rfl⟩ := Sl.shape HX.out.across
  obtain ⟨ad3, cd3, rfl⟩ := Sl.shape HX.out.down
  obtain ⟨m, hm⟩ : ∃ m, m = ds.length := ⟨_, rfl⟩
  rw [hdb.tbs.la, hdb.tbs.ld, ← hm] at HX ⊢
  obtain ⟨hh, hhh⟩ : ∃ q, q = (ds.getD 0 []).length := ⟨_, rfl⟩
  rw [← hm] at hm4 hm1 hpos
  rw [← hhh] at hq1 hq4 hu0
  clear hdb
  obtain ⟨wa, hwa⟩ : ∃ wa, wa = w.alloc (.cells #[.int .i64 p, .slice (some ⟨bb, o, none⟩) m cd, .slice ad2 m cd2, .slice ad3 m cd3] 29) := ⟨_, rfl⟩
  obtain ⟨wi, hwi⟩ : ∃ wi, wi = wa.alloc (.cells #[.int .i64 0, .slice none 0 0, .slice none 0 0, .slice none 0 0] 29) := ⟨_, rfl⟩
  obtain ⟨w1, hw1⟩ : ∃ w1, w1 = wi.drew := ⟨_, rfl⟩
  have hsa : wa.heap.size = w.heap.size + 1 := by rw [hwa]; simp
  have hs1 : w.heap.size + 2 ≤ w1.heap.size := by rw [hw1]; show _ ≤ wi.heap.size; rw [hwi]; simp [hsa]
  have hba : Below wa.heap.size wa w1 := by rw [hw1, hwi]; exact (below_alloc1 _ _).drew
  have hxa : DBx w wa w.heap.size p (.slice (some ⟨bb, o, none⟩) m cd) (.slice ad2 m cd2) (.slice ad3 m cd3) ds ac dn := by rw [hwa]; exact DBx.start 29 HX.out
  have HX1 := Lib.hid (hxa.next hba)
  have hu1 := later HX1.out.below (Nat.le_refl _) hu0
  have HU1 := Lib.hid hu1
  have HR0 : Hid (Rz w1 (w.heap.size + 1) 29 Zd4) := Lib.hid (by have h0 : Rz wi (w.heap.size + 1) 29 Zd4 := (by rw [hwi, ← hsa]; exact Rz.new _ _ _); rw [hw1]; exact h0.next (Below.refl _ _).drew)
  have HM := Lib.hid hm
  have HQ := Lib.hid hhh
  have HNX : Hid (∀ W, Below w1.heap.size w1 W → DBx w W w.heap.size p (.slice (some ⟨bb, o, none⟩) m cd) (.slice ad2 m cd2) (.slice ad3 m cd3) ds ac dn ∧ W.cell? ⟨bb, o, none⟩ = some (.slice a0 hh z0) ∧ Rz W (w.heap.size + 1) 29 Zd4) := Lib.hid (fun W hb => ⟨HX1.out.next hb, later hb (Nat.le_refl _) HU1.out, HR0.out.next hb⟩)
  have HW0 : Hid (∀ W, Below w1.heap.size w1 W → Below w.heap.size w W) := Lib.hid (fun W hb => (HNX.out W hb).1.below)
  have c0 := HX1.out.c0
  clear hm hhh hxa hba hu0
  go_enter Tryz.func21, Tryz.ntmps21
  go_upto_region 1 with fail
  rw [← hwa, ← hwi]
  refine wp_region_held (S := fun W => Below w1.heap.size w1 W) (by kernel_rfl) ?_
  change wpAnyH _ _ _ _ _ _ _ _ wi.drew
  rw [← hw1]
  have S0 : Below w1.heap.size w1 w1 := Below.refl _ _
  refine held_take (i := 0) (v := .pointer (some ⟨w.heap.size, 1, none⟩)) (some 11) rfl rfl (by kernel_rfl) (by kernel_rfl) (by kernel_rfl) (fun _ _ _ h => h) (yieldsIf_run (by kernel_rfl) (fun W _ => by kernel_rfl)) S0 ?_
  refine held_take (i := 1) (v := (.slice (some ⟨bb, o, none⟩) m cd)) (some 12) rfl rfl (by kernel_rfl) (by kernel_rfl) (by kernel_rfl) (fun _ _ _ h => h) (yieldsIf_cell (by kernel_rfl) rfl (by kernel_rfl) (fun W h => hload2s W (HNX.out W h).1.c1)) S0 ?_
  refine held_take (i := 2) (v := (.int .i64 (m : Int))) (some 13) rfl rfl (by kernel_rfl) (by kernel_rfl) (by kernel_rfl) (fun _ _ _ h => h) (yieldsIf_run (by kernel_rfl) (fun W _ => by kernel_rfl)) S0 ?_
  refine held_take (i := 3) (v := .pointer (some ⟨w.heap.size, 1, none⟩)) (some 14) rfl rfl (by kernel_rfl) (by kernel_rfl) (by kernel_rfl) (fun _ _ _ h => h) (yieldsIf_run (by kernel_rfl) (fun W _ => by kernel_rfl)) S0 ?_
  refine held_take (i := 4) (v := (.slice (some ⟨bb, o, none⟩) m cd)) (some 15) rfl rfl (by kernel_rfl) (by kernel_rfl) (by kernel_rfl) (fun _ _ _ h => h) (yieldsIf_cell (by kernel_rfl) rfl (by kernel_rfl) (fun W h => hload2s W (HNX.out W h).1.c1)) S0 ?_
  refine held_take (i := 5) (v := .pointer (some ⟨bb, o + 0, none⟩)) (some 16) rfl rfl (by kernel_rfl) (by kernel_rfl) (by kernel_rfl) (fun _ _ _ h => h) (yieldsIf_index (by kernel_rfl) rfl (by kernel_rfl) (by kernel_rfl) (hidxS bb o cd (k := 0) hpos)) S0 ?_
  refine held_take (i := 6) (v := (.slice a0 hh z0)) (some 17) rfl rfl (by kernel_rfl) (by kernel_rfl) (by kernel_rfl) (fun _ _ _ h => h) (yieldsIf_cell (by kernel_rfl) rfl (by kernel_rfl) (fun W h => hload1s W (HNX.out W h).2.1)) S0 ?_
  refine held_take (i := 7) (v := (.int .i64 (hh : Int))) (some 18) rfl rfl (by kernel_rfl) (by kernel_rfl) (by kernel_rfl) (fun _ _ _ h => h) (yieldsIf_run (by kernel_rfl) (fun W _ => by kernel_rfl)) S0 ?_
  refine held_take (i := 8) (v := (.int .i64 (m : Int))) (some 3) rfl rfl (by kernel_rfl) (by kernel_rfl) (by kernel_rfl) (fun _ _ _ h => h) (yieldsIf_assign (by kernel_rfl) rfl (by kernel_rfl)) S0 ?_
  refine held_take (i := 9) (v := (.int .i64 (hh : Int))) (some 4) rfl rfl (by kernel_rfl) (by kernel_rfl) (by kernel_rfl) (fun _ _ _ h => h) (yieldsIf_assign (by kernel_rfl) rfl (by kernel_rfl)) S0 ?_
  refine wpAnyH_done (by kernel_rfl) ?_ _
  simp only [Act.put, List.setIfInBounds_toArray, List.set_cons_zero, List.set_cons_succ]
  clear S0 hwa hwi hw1 hsa
  obtain ⟨wp, hwp⟩ : ∃ wp, wp = w1.alloc (.cells #[] 47) := ⟨_, rfl⟩
  obtain ⟨wq, hwq⟩ : ∃ wq, wq = wp.alloc (.cells #[] 51) := ⟨_, rfl⟩
  obtain ⟨wr3, hwr3⟩ : ∃ wr, wr = wq.alloc (.cells #[] 51) := ⟨_, rfl⟩
  have hsp : wp.heap.size = w1.heap.size + 1 := by rw [hwp]; simp
  have hsq : wq.heap.size = w1.heap.size + 1 + 1 := by rw [hwq]; simp [hsp]
  have hsr : wr3.heap.size = w1.heap.size + 1 + 1 + 1 := by rw [hwr3]; simp [hsq]
  obtain ⟨wo, hwo⟩ : ∃ wo, wo = wr3.alloc (.cells #[.int .i64 p, .slice (some ⟨w1.heap.size, 0, none⟩) 0 0, .slice (some ⟨w1.heap.size + 1, 0, none⟩) 0 0, .slice (some ⟨w1.heap.size + 1 + 1, 0, none⟩) 0 0] 29) := ⟨_, rfl⟩
  have b1 : Below w1.heap.size w1 wp := by rw [hwp]; exact below_alloc1 _ _
  have b2 : Below wp.heap.size wp wq := by rw [hwq]; exact below_alloc1 _ _
  have b3 : Below wq.heap.size wq wr3 := by rw [hwr3]; exact below_alloc1 _ _
  have b4 : Below wr3.heap.size wr3 wo := by rw [hwo]; exact below_alloc1 _ _
  obtain ⟨g, hg⟩ : ∃ g, g = w1.heap.size + 1 + 1 + 1 := ⟨_, rfl⟩
  have HB0 : Hid (Below w1.heap.size w1 wo) := Lib.hid (((b1.trans (b2.mono (by omega))).trans (b3.mono (by omega))).trans (b4.mono (by omega)))
  have HS0 : Hid (∃ L, FlM L w1.heap.size wo g p 0 0 0 (.slice (some ⟨w1.heap.size, 0, none⟩) 0 0) (.slice (some ⟨w1.heap.size + 1, 0, none⟩) 0 0) (.slice (some ⟨w1.heap.size + 1 + 1, 0, none⟩) 0 0) [] [] []) := Lib.hid (by
    have o1 : wp.ownsRow w1.heap.size 47 1 (.slice (some ⟨w1.heap.size, 0, none⟩) 0 0) 0 [] := by rw [hwp]; exact World.ownsRow_made (base := w1.heap.size) (e := 47) (size := 1) w1 #[] 0 (Nat.le_refl _) (by unfold maxLen; omega) (by simp)
    have o2 : wq.ownsRow w1.heap.size 51 1 (.slice (some ⟨w1.heap.size + 1, 0, none⟩) 0 0) 0 [] := by rw [hwq, ← hsp]; exact World.ownsRow_made (base := w1.heap.size) (e := 51) (size := 1) wp #[] 0 (by omega) (by unfold maxLen; omega) (by simp)
    have o3 : wr3.ownsRow w1.heap.size 51 1 (.slice (some ⟨w1.heap.size + 1 + 1, 0, none⟩) 0 0) 0 [] := by rw [hwr3, ← hsq]; exact World.ownsRow_made (base := w1.heap.size) (e := 51) (size := 1) wq #[] 0 (by omega) (by unfold maxLen; omega) (by simp)
    have hbx := heap_alloc_new wr3 (.cells #[.int .i64 p, .slice (some ⟨w1.heap.size, 0, none⟩) 0 0, .slice (some ⟨w1.heap.size + 1, 0, none⟩) 0 0, .slice (some ⟨w1.heap.size + 1 + 1, 0, none⟩) 0 0] 29)
    rw [← hwo, hsr, ← hg] at hbx
    exact ⟨tg0 w1.heap.size (w1.heap.size + 1) (w1.heap.size + 1 + 1), ⟨[], ⟨owns_below (owns_below (owns_below o1 b2) b3) b4, fun q hq => by have e : w1.heap.size = q := (by simpa [Value.ownBlock] using hq); rw [← e]; exact if_pos rfl⟩, rfl, fun q h1 => absurd h1 (Nat.not_lt_zero _)⟩,
      ⟨[], ⟨owns_below (owns_below o2 b3) b4, fun q hq => by have e : w1.heap.size + 1 = q := (by simpa [Value.ownBlock] using hq); rw [← e]; unfold tg0; rw [if_neg (by omega), if_pos rfl]⟩, rfl, fun q h1 => absurd h1 (Nat.not_lt_zero _)⟩,
      ⟨[], ⟨owns_below o3 b4, fun q hq => by have e : w1.heap.size + 1 + 1 = q := (by simpa [Value.ownBlock] using hq); rw [← e]; unfold tg0; rw [if_neg (by omega), if_neg (by omega), if_pos rfl]⟩, rfl, fun q h1 => absurd h1 (Nat.not_lt_zero _)⟩, hbx, by unfold tg0; rw [if_neg (by omega), if_neg (by omega), if_neg (by omega)], by omega⟩)
  have hgw : w1.heap.size ≤ g := by omega
  go_upto_region 3 with fail
  rw [← hwp, ← hwq, ← hwr3, ← hwo]
  rw [← hg]
  clear hwp hwq hwr3 hwo hsp hsq hsr b1 b2 b3 b4 hg c0
  go_wp2
  go_loopw [6, 7, 8, 9, 10] (fun i _ _ _ _ wr => ∃ (j : Nat) (vD vA vV : Value), j ≤ hh ∧ i = .int .i64 j ∧ Hid (∃ L, FlM L w1.heap.size wr g p j j j vD vA vV ((List.range j).map (rowG ds (cdI ds))) ((List.range j).map (rowG ds (tbl dn))) ((List.range j).map (rowG ds (tbl ac)))) ∧ Hid (Below w1.heap.size w1 wr)) (fun i _ _ _ _ _ => hh - (intOf i).toNat)
  case atStart => exact ⟨0, _, _, _, Nat.zero_le _, rfl, HS0, HB0⟩
  case round =>
    clear HS0 HB0
    obtain ⟨j, vD, vA, vV, hj, rfl, HS, HBX⟩ := hrel
    obtain ⟨wx, hwx⟩ : ∃ wx : World, wx = wr := ⟨_, rfl⟩
    subst hwx
    by_cases hlt : j < hh
    · have hlti : (j : Int) < (hh : Int) := by omega
      obtain ⟨wy, hwy⟩ : ∃ wy, wy = wx.alloc (.cells #[] 2) := ⟨_, rfl⟩
      obtain ⟨wz, hwz⟩ : ∃ wz, wz = wy.alloc (.cells #[] 22) := ⟨_, rfl⟩
      obtain ⟨wk, hwk⟩ : ∃ wk, wk = wz.alloc (.cells #[] 22) := ⟨_, rfl⟩
      have hsy : wy.heap.size = wx.heap.size + 1 := by rw [hwy]; simp
      have hsz : wz.heap.size = wx.heap.size + 1 + 1 := by rw [hwz]; simp [hsy]
      have b1 : Below wx.heap.size wx wy := by rw [hwy]; exact below_alloc1 _ _
      have b2 : Below wy.heap.size wy wz := by rw [hwz]; exact below_alloc1 _ _
      have b3 : Below wz.heap.size wz wk := by rw [hwk]; exact below_alloc1 _ _
      have b13 : Below wx.heap.size wx wk := (b1.trans (b2.mono (by omega))).trans (b3.mono (by omega))
      have hsx := HBX.out.size
      have HBK : Hid (Below w1.heap.size w1 wk) := Lib.hid (HBX.out.trans (b13.mono hsx))
      have HSK : Hid (∃ L, FlM L w1.heap.size wk g p j j j vD vA vV ((List.range j).map (rowG ds (cdI ds))) ((List.range j).map (rowG ds (tbl dn))) ((List.range j).map (rowG ds (tbl ac))) ∧ TI L (10 + j) w1.heap.size wk (.slice (some ⟨wx.heap.size, 0, none⟩) 0 0) (rowp (cdI ds) j 0) ∧ TTabs L (20 + j) (fun _ => 40) w1.heap.size wk (.slice (some ⟨wx.heap.size + 1, 0, none⟩) 0 0) (rowp (tbl dn) j 0) ∧ TTabs L (30 + j) (fun _ => 40) w1.heap.size wk (.slice (some ⟨wx.heap.size + 1 + 1, 0, none⟩) 0 0) (rowp (tbl ac) j 0)) := Lib.hid (by
        obtain ⟨L, hf⟩ := HS.out
        have o1 : Gb w1.heap.size wy (.slice (some ⟨wx.heap.size, 0, none⟩) 0 0) [] := by rw [hwy]; exact Gb.new wx hsx
        have o2 : wz.ownsRow w1.heap.size 22 1 (.slice (some ⟨wx.heap.size + 1, 0, none⟩) 0 0) 0 [] := by rw [hwz, ← hsy]; exact World.ownsRow_made (base := w1.heap.size) (e := 22) (size := 1) wy #[] 0 (by omega) (by unfold maxLen; omega) (by simp)
        have o3 : wk.ownsRow w1.heap.size 22 1 (.slice (some ⟨wx.heap.size + 1 + 1, 0, none⟩) 0 0) 0 [] := by rw [hwk, ← hsz]; exact World.ownsRow_made (base := w1.heap.size) (e := 22) (size := 1) wz #[] 0 (by omega) (by unfold maxLen; omega) (by simp)
        obtain ⟨M, hM⟩ : ∃ M : Nat → Nat, M = fun b => if b < wx.heap.size then L b else if b = wx.heap.size then 10 + j else if b = wx.heap.size + 1 then 20 + j else 30 + j := ⟨_, rfl⟩
        refine ⟨M, hf.below b13 (fun b hb => by rw [hM]; exact if_pos hb) (by omega), ⟨(o1.below b2).below b3, fun q hq => ?_⟩, ⟨[], ⟨owns_below o2 b3, fun q hq => ?_⟩, fun q h1 => absurd h1 (Nat.not_lt_zero _)⟩, ⟨[], ⟨o3, fun q hq => ?_⟩, fun q h1 => absurd h1 (Nat.not_lt_zero _)⟩⟩
        · have e : wx.heap.size = q := by simpa [Value.ownBlock] using hq
          rw [← e, hM]
          dsimp only
          rw [if_neg (by omega), if_pos rfl]
        · have e : wx.heap.size + 1 = q := by simpa [Value.ownBlock] using hq
          rw [← e, hM]
          dsimp only
          rw [if_neg (by omega), if_neg (by omega), if_pos rfl]
        · have e : wx.heap.size + 1 + 1 = q := by simpa [Value.ownBlock] using hq
          rw [← e, hM]
          dsimp only
          rw [if_neg (by omega), if_neg (by omega), if_neg (by omega)])
      go_upto_region 7 with fail
      rw [← hwy, ← hwz, ← hwk]
      clear hwy hwz hwk hsy hsz b1 b2 b3 b13 HS
      go_wp2
      go_loopw [7, 8, 9, 10] (fun ud ua uv i wr => ∃ (i' : Nat) (vd va vv2 : Value), vd = ud ∧ va = ua ∧ vv2 = uv ∧ i' ≤ m ∧ i = .int .i64 i' ∧ Hid (∃ L, FlM L w1.heap.size wr g p j j j vD vA vV ((List.range j).map (rowG ds (cdI ds))) ((List.range j).map (rowG ds (tbl dn))) ((List.range j).map (rowG ds (tbl ac))) ∧ TI L (10 + j) w1.heap.size wr vd (rowp (cdI ds) j i') ∧ TTabs L (20 + j) (fun _ => 40) w1.heap.size wr va (rowp (tbl dn) j i') ∧ TTabs L (30 + j) (fun _ => 40) w1.heap.size wr vv2 (rowp (tbl ac) j i')) ∧ Hid (Below w1.heap.size w1 wr)) (fun _ _ _ i _ => m - (intOf i).toNat)
      case atStart => exact ⟨0, _, _, _, rfl, rfl, rfl, Nat.zero_le _, rfl, HSK, HBK⟩
      case round =>
        clear HSK HBK
        obtain ⟨i, vd, va, vv2, rfl, rfl, rfl, hi, rfl, HSI, HB1⟩ := hrel
        obtain ⟨X1, hX1⟩ : ∃ wx : World, wx = wr := ⟨_, rfl⟩
        subst hX1
        by_cases hlti2 : i < m
        · have hlt2 : (i : Int) < (m : Int) := by omega
          have hi0 : (0 : Int) ≤ (i : Int) := by omega
          have hj0 : (0 : Int) ≤ (j : Int) := by omega
          have hil : i < ds.length := by rw [← HM.out]; exact hlti2
          have hcolg : (ds.getD i []).length = hh := by rw [HQ.out]; exact cl_height HOK.out hil
          have hmem : (i, j) ∈ cellsTo ds ds.length := mem_cells.2 ⟨hil, by show j < (ds.getD i []).length; omega⟩
          have hcol : (ds[i]).length = hh := by rw [← getD_of_lt [] hil]; exact hcolg
          have hia : i < ac.length := by rw [HDB.out.tbs.la]; exact hil
          have hid : i < dn.length := by rw [HDB.out.tbs.ld]; exact hil
          have hja : j < (ac[i]).length := by have h1 := HDB.out.tbs.ca i hil; rw [getD_of_lt _ hia] at h1; omega
          have hjd : j < (dn[i]).length := by have h1 := HDB.out.tbs.cd i hil; rw [getD_of_lt _ hid] at h1; omega
          have hcd4 := (cdim_cast HOK.out hmem).2
          have hcd1 := (cdim_cast HOK.out hmem).1
          have hdl4 : dcl ds (i : Int) ((j : Int) - 1) ≤ 4 := by
            by_cases e : j = 0
            · rw [show dcl ds (i : Int) ((j : Int) - 1) = 0 from if_pos (.inr (by omega))]; omega
            · obtain ⟨q, rfl⟩ : ∃ q, j = q + 1 := ⟨j - 1, by omega⟩
              have h5 := cdim_cast HOK.out (cell_low hmem)
              have h6 := h5.1
              simp only at h6
              rw [show (((q + 1 : Nat) : Int) - 1) = (q : Int) by omega, ← h6]
              have := h5.2
              omega
          have hdl3 : dcl ds ((i : Int) - 1) (j : Int) ≤ 4 := by
            by_cases e : i = 0
            · rw [show dcl ds ((i : Int) - 1) (j : Int) = 0 from if_pos (.inl (by omega))]; omega
            · obtain ⟨q, rfl⟩ : ∃ q, i = q + 1 := ⟨i - 1, by omega⟩
              have h5 := cdim_cast HOK.out (cell_left HOK.out hmem)
              have h6 := h5.1
              simp only at h6
              rw [show (((q + 1 : Nat) : Int) - 1) = (q : Int) by omega, ← h6]
              have := h5.2
              omega
          simp only at hcd1
          have hX := HNX.out _ HB1.out
          have c1 := hX.1.c1
          obtain ⟨bb', o', cd', b3, o3, k3, hdv, hD1, hD2⟩ := l2_at hX.1.dx.dims hil (show j < (ds[i]).length by omega)
          injection hdv with e1 e2 e3
          injection e1 with e1
          injection e1 with e1 e4 _
          subst e1 e3 e4
          clear e2
          rw [hcol] at hD1
          obtain ⟨z, hz⟩ : ∃ z, z = (ds[i])[j] := ⟨_, rfl⟩
          have hzc : z = cdI ds (i, j) := by rw [hz]; unfold cdI; rw [getD_of_lt _ hil, getD_of_lt _ (show j < (ds[i]).length by omega)]
          rw [← hz] at hD2
          have HZC := Lib.hid hzc
          clear hz hX hzc
          obtain ⟨L1, f1, f2, f3, f4⟩ := HSI.out
          obtain ⟨V1, hV⟩ : ∃ W', W' = X1.alloc (.cells #[.int .i64 z] 2) := ⟨_, rfl⟩
          have hbv : Below X1.heap.size X1 V1 := by rw [hV]; exact below_alloc1 _ _
          have hcv : V1.cell? ⟨X1.heap.size, 0, none⟩ = some (.int .i64 z) := by rw [hV]; exact cell_alloc1 _ _ _
          have sv : Stp1 L1 L1 50 X1 V1 := Stp1.of_below hbv (fun _ _ => rfl) 50
          have hxs : w1.heap.size ≤ X1.heap.size := HB1.out.size
          have q1 := f1.below hbv (fun _ _ => rfl) (by omega)
          have q2 := f2.kept sv (by omega)
          have q3 := f3.kept sv (by omega) (fun _ _ => by show 40 ≠ 50; omega)
          have q4 := f4.kept sv (by omega) (fun _ _ => by show 40 ≠ 50; omega)
          have hbw : w1.heap.size ≤ V1.heap.size := by have := hbv.size; omega
          obtain ⟨g9, c9, W9, hrun, hgr, hg9, hL9⟩ := q2.append X1.heap.size z hcv (by rw [rowp_len]; omega) hbw
          obtain ⟨L2, hLd⟩ : ∃ M : Nat → Nat, M = fun b => if b < V1.heap.size then L1 b else 10 + j := ⟨_, rfl⟩
          have lo : ∀ b, b < V1.heap.size → L2 b = L1 b := fun b hb => by rw [hLd]; exact if_pos hb
          have ln : ∀ b, V1.heap.size ≤ b → L2 b = 10 + j := fun b hb => by rw [hLd]; exact if_neg (by omega)
          have sw : Stp1 L1 L2 (10 + j) V1 W9 := ⟨⟨_, hgr, fun q e _ => .inl (q2.2 q e)⟩, lo⟩
          have HB2 : Hid (Below w1.heap.size w1 W9) := Lib.hid ((HB1.out.trans (hbv.mono hxs)).grown hgr hbw (fun q hq => (q2.1.lt q hq).1))
          have hr9 := hL9 L2 lo ln
          rw [HZC.out, show (rowp (cdI ds) j i ++ [cdI ds (i, j)]) = rowp (cdI ds) j (i + 1) from (rowp_succ (cdI ds) j i).symm] at hr9
          have HS2 := Lib.hid (And.intro (q1.kept sw ⟨by omega, by omega, by omega, by omega, by omega, fun q hq => by omega, fun q hq => by omega, fun q hq => by omega⟩) (And.intro hr9 (And.intro (q3.kept sw (by omega) (fun _ _ => by show 40 ≠ 10 + j; omega)) (q4.kept sw (by omega) (fun _ _ => by show 40 ≠ 10 + j; omega)))))
          have HRUN := Lib.hid hrun
          have HVD := Lib.hid hV
          rw [HVD.out] at HRUN
          clear hbv hcv sv f1 f2 f3 f4 q1 q2 q3 q4 hrun hgr hg9 hL9 hLd lo ln sw hr9 hV hbw
          go_upto_region 11 with (at_builtin; refine Lib.wpList_append_run _ rfl _ _ _ _ rfl _ _ rfl rfl _ _ HRUN.out ?_)
          obtain ⟨X2, hXn⟩ : ∃ W, W = W9 := ⟨_, rfl⟩
          rw [← hXn] at HB2 HS2 ⊢
          clear hXn HRUN HVD c1 hD1 hD2
          have hX2 := HNX.out _ HB2.out
          have c0 := hX2.1.c0
          have c1 := hX2.1.c1
          have c2 := hX2.1.c2
          have c3 := hX2.1.c3
          obtain ⟨ba, oa, ca, b2, o2, k2, ut, hva, hA1, hA2, hTl⟩ := l4_at hX2.1.dx.down hid hjd
          injection hva with e1 e2 e3
          subst e1 e3
          clear e2
          have hTt : (dn[i])[j] = tbl dn (i, j) := by unfold tbl; dsimp only; rw [getD_of_lt _ hid, getD_of_lt _ hjd]
          rw [hTt] at hTl
          obtain ⟨n2, hn2⟩ : ∃ k, k = (dn[i]).length := ⟨_, rfl⟩
          rw [← hn2] at hA1
          have hj2 : (j : Int) < (n2 : Int) := by omega
          have HTB2 : Hid (∀ c, c = (i, j) → TabOk p (dcl ds c.1 c.2) (dcl ds c.1 ((c.2 : Int) - 1)) (tbl dn c)) := Lib.hid (fun c hc => by subst hc; exact (HDB.out.tbs.tab (i, j) hmem).2)
          have htl := (HTB2.out (i, j) rfl).1
          have hrl := (HTB2.out (i, j) rfl).2
          simp only at htl hrl
          have HROW := Lib.hid (l01Rows_q ut (tbl dn (i, j)) X2 hTl (by omega) (fun x hx => by have := (hrl x hx).1; omega))
          obtain ⟨ta, tc, hut⟩ := Sl.shape hTl
          subst hut
          obtain ⟨nt, hnt⟩ : ∃ k, k = (tbl dn (i, j)).length := ⟨_, rfl⟩
          rw [← hnt] at hA2 HROW
          clear hTl hTt hn2 hnt htl hrl hX2
          go_wp2_with fail
          refine HROW.out.mono ?_
          rintro ee Y2 ⟨u, rfl, hgq, hby⟩
          clear c0 c1 c2 c3 hA1 hA2 HROW
          obtain ⟨xa, xc, hux⟩ := Sl.shape hgq.l2
          obtain ⟨nx, hnx⟩ : ∃ k, k = (tbl dn (i, j)).length := ⟨_, rfl⟩
          rw [← hnx] at hux
          subst hux
          clear hnx
          obtain ⟨M2, hM⟩ : ∃ M : Nat → Nat, M = fun b => if b < X2.heap.size then L2 b else 40 := ⟨_, rfl⟩
          have mo : ∀ b, b < X2.heap.size → M2 b = L2 b := fun b hb => by rw [hM]; exact if_pos hb
          have mn : ∀ b, X2.heap.size ≤ b → M2 b = 40 := fun b hb => by rw [hM]; exact if_neg (by omega)
          clear hM
          have hxs : w1.heap.size ≤ X2.heap.size := HB2.out.size
          have ht0 : TTab M2 40 w1.heap.size Y2 (.slice xa nx xc) (tbl dn (i, j)) := TTab.of_gq hgq hxs mn
          obtain ⟨V2, hV⟩ : ∃ W', W' = Y2.alloc (.cells #[.slice xa nx xc] 22) := ⟨_, rfl⟩
          have hbv : Below Y2.heap.size Y2 V2 := by rw [hV]; exact below_alloc1 _ _
          have hcv : V2.cell? ⟨Y2.heap.size, 0, none⟩ = some (.slice xa nx xc) := by rw [hV]; exact cell_alloc1 _ _ _
          have hbxv : Below X2.heap.size X2 V2 := hby.trans (hbv.mono hby.size)
          have sv : Stp1 L2 M2 50 X2 V2 := Stp1.of_below hbxv mo 50
          have htv : TTab M2 40 w1.heap.size V2 (.slice xa nx xc) (tbl dn (i, j)) := ht0.kept (Stp1.of_below hbv (fun _ _ => rfl) 50) (by omega)
          obtain ⟨f1, f2, f3, f4⟩ := HS2.out
          have q1 := f1.below hbxv mo (by omega)
          have q2 := f2.kept sv (by omega)
          have q3 := f3.kept sv (by omega) (fun _ _ => by show 40 ≠ 50; omega)
          have q4 := f4.kept sv (by omega) (fun _ _ => by show 40 ≠ 50; omega)
          have hbw : w1.heap.size ≤ V2.heap.size := by have := hbxv.size; omega
          obtain ⟨g9, c9, W9, hrun, hgr, hg9, hL9⟩ := (q3).append (fun _ _ => by show 40 ≠ 20 + j; omega) (show TTab M2 ((fun _ : Nat => 40) (rowp (tbl dn) j i).length) w1.heap.size V2 (.slice xa nx xc) (tbl dn (i, j)) from htv) Y2.heap.size hcv (by rw [rowp_len]; omega) hbw
          obtain ⟨L3, hLd⟩ : ∃ M : Nat → Nat, M = fun b => if b < V2.heap.size then M2 b else (20 + j) := ⟨_, rfl⟩
          have lo : ∀ b, b < V2.heap.size → L3 b = M2 b := fun b hb => by rw [hLd]; exact if_pos hb
          have ln : ∀ b, V2.heap.size ≤ b → L3 b = (20 + j) := fun b hb => by rw [hLd]; exact if_neg (by omega)
          clear hLd
          have hown : ∀ q, Value.ownBlock va = some q → M2 q = (20 + j) ∧ w1.heap.size ≤ q := fun q hq => by obtain ⟨vs, ho, _⟩ := q3; exact ⟨ho.2 q hq, (ho.1.lt q hq).1⟩
          have sw : Stp1 M2 L3 (20 + j) V2 W9 := ⟨⟨_, hgr, fun q e _ => .inl (hown q e).1⟩, lo⟩
          have HB3 : Hid (Below w1.heap.size w1 W9) := Lib.hid ((HB2.out.trans (hbxv.mono hxs)).grown hgr hbw (fun q hq => (hown q hq).2))
          have hr9 := hL9 L3 lo ln
          rw [show (rowp (tbl dn) j i ++ [tbl dn (i, j)]) = rowp (tbl dn) j (i + 1) from (rowp_succ (tbl dn) j i).symm] at hr9
          have hk1 := q1.kept sw ⟨by omega, by omega, by omega, by omega, by omega, fun q hq => by omega, fun q hq => by omega, fun q hq => by omega⟩
          have hk2 := q2.kept sw (by omega)
          have hk4 := q4.kept sw (by omega) (fun _ _ => by show 40 ≠ 20 + j; omega)
          have HS3 := Lib.hid (And.intro hk1 (And.intro hk2 (And.intro hr9 hk4)))
          have HRUN := Lib.hid hrun
          have HVD := Lib.hid hV
          clear hgq hby mo mn ht0 hbv hcv hbxv sv htv f1 f2 f3 f4 q1 q2 q3 q4 hrun hgr hg9 hL9 lo ln hown sw hr9 hk1 hk2 hk4 hV hbw
          rw [HVD.out] at HRUN
          go_upto_region 12 with (at_builtin; refine Lib.wpList_append_run _ rfl _ _ _ _ rfl _ _ rfl rfl _ _ HRUN.out ?_)
          obtain ⟨X3, hXn⟩ : ∃ W, W = W9 := ⟨_, rfl⟩
          rw [← hXn] at HB3 HS3 ⊢
          clear hXn HRUN HVD
          have hX3 := HNX.out _ HB3.out
          have c0 := hX3.1.c0
          have c1 := hX3.1.c1
          have c2 := hX3.1.c2
          have c3 := hX3.1.c3
          obtain ⟨ba, oa, ca, b2, o2, k2, ut, hva, hA1, hA2, hTl⟩ := l4_at hX3.1.dx.across hia hja
          injection hva with e1 e2 e3
          subst e1 e3
          clear e2
          have hTt : (ac[i])[j] = tbl ac (i, j) := by unfold tbl; dsimp only; rw [getD_of_lt _ hia, getD_of_lt _ hja]
          rw [hTt] at hTl
          obtain ⟨n2, hn2⟩ : ∃ k, k = (ac[i]).length := ⟨_, rfl⟩
          rw [← hn2] at hA1
          have hj2 : (j : Int) < (n2 : Int) := by omega
          have HTB3 : Hid (∀ c, c = (i, j) → TabOk p (dcl ds c.1 c.2) (dcl ds ((c.1 : Int) - 1) c.2) (tbl ac c)) := Lib.hid (fun c hc => by subst hc; exact (HDB.out.tbs.tab (i, j) hmem).1)
          have htl := (HTB3.out (i, j) rfl).1
          have hrl := (HTB3.out (i, j) rfl).2
          simp only at htl hrl
          have HROW := Lib.hid (l01Rows_q ut (tbl ac (i, j)) X3 hTl (by omega) (fun x hx => by have := (hrl x hx).1; omega))
          obtain ⟨ta, tc, hut⟩ := Sl.shape hTl
          subst hut
          obtain ⟨nt, hnt⟩ : ∃ k, k = (tbl ac (i, j)).length := ⟨_, rfl⟩
          rw [← hnt] at hA2 HROW
          clear hTl hTt hn2 hnt htl hrl hX3
          go_wp2_with fail
          refine HROW.out.mono ?_
          rintro ee Y3 ⟨u, rfl, hgq, hby⟩
          clear c0 c1 c2 c3 hA1 hA2 HROW
          obtain ⟨xa, xc, hux⟩ := Sl.shape hgq.l2
          obtain ⟨nx, hnx⟩ : ∃ k, k = (tbl ac (i, j)).length := ⟨_, rfl⟩
          rw [← hnx] at hux
          subst hux
          clear hnx
          obtain ⟨M3, hM⟩ : ∃ M : Nat → Nat, M = fun b => if b < X3.heap.size then L3 b else 40 := ⟨_, rfl⟩
          have mo : ∀ b, b < X3.heap.size → M3 b = L3 b := fun b hb => by rw [hM]; exact if_pos hb
          have mn : ∀ b, X3.heap.size ≤ b → M3 b = 40 := fun b hb => by rw [hM]; exact if_neg (by omega)
          clear hM
          have hxs : w1.heap.size ≤ X3.heap.size := HB3.out.size
          have ht0 : TTab M3 40 w1.heap.size Y3 (.slice xa nx xc) (tbl ac (i, j)) := TTab.of_gq hgq hxs mn
          obtain ⟨V3, hV⟩ : ∃ W', W' = Y3.alloc (.cells #[.slice xa nx xc] 22) := ⟨_, rfl⟩
          have hbv : Below Y3.heap.size Y3 V3 := by rw [hV]; exact below_alloc1 _ _
          have hcv : V3.cell? ⟨Y3.heap.size, 0, none⟩ = some (.slice xa nx xc) := by rw [hV]; exact cell_alloc1 _ _ _
          have hbxv : Below X3.heap.size X3 V3 := hby.trans (hbv.mono hby.size)
          have sv : Stp1 L3 M3 50 X3 V3 := Stp1.of_below hbxv mo 50
          have htv : TTab M3 40 w1.heap.size V3 (.slice xa nx xc) (tbl ac (i, j)) := ht0.kept (Stp1.of_below hbv (fun _ _ => rfl) 50) (by omega)
          obtain ⟨f1, f2, f3, f4⟩ := HS3.out
          have q1 := f1.below hbxv mo (by omega)
          have q2 := f2.kept sv (by omega)
          have q3 := f3.kept sv (by omega) (fun _ _ => by show 40 ≠ 50; omega)
          have q4 := f4.kept sv (by omega) (fun _ _ => by show 40 ≠ 50; omega)
          have hbw : w1.heap.size ≤ V3.heap.size := by have := hbxv.size; omega
          obtain ⟨g9, c9, W9, hrun, hgr, hg9, hL9⟩ := (q4).append (fun _ _ => by show 40 ≠ 30 + j; omega) (show TTab M3 ((fun _ : Nat => 40) (rowp (tbl ac) j i).length) w1.heap.size V3 (.slice xa nx xc) (tbl ac (i, j)) from htv) Y3.heap.size hcv (by rw [rowp_len]; omega) hbw
          obtain ⟨L4, hLd⟩ : ∃ M : Nat → Nat, M = fun b => if b < V3.heap.size then M3 b else (30 + j) := ⟨_, rfl⟩
          have lo : ∀ b, b < V3.heap.size → L4 b = M3 b := fun b hb => by rw [hLd]; exact if_pos hb
          have ln : ∀ b, V3.heap.size ≤ b → L4 b = (30 + j) := fun b hb => by rw [hLd]; exact if_neg (by omega)
          clear hLd
          have hown : ∀ q, Value.ownBlock vv2 = some q → M3 q = (30 + j) ∧ w1.heap.size ≤ q := fun q hq => by obtain ⟨vs, ho, _⟩ := q4; exact ⟨ho.2 q hq, (ho.1.lt q hq).1⟩
          have sw : Stp1 M3 L4 (30 + j) V3 W9 := ⟨⟨_, hgr, fun q e _ => .inl (hown q e).1⟩, lo⟩
          have HB4 : Hid (Below w1.heap.size w1 W9) := Lib.hid ((HB3.out.trans (hbxv.mono hxs)).grown hgr hbw (fun q hq => (hown q hq).2))
          have hr9 := hL9 L4 lo ln
          rw [show (rowp (tbl ac) j i ++ [tbl ac (i, j)]) = rowp (tbl ac) j (i + 1) from (rowp_succ (tbl ac) j i).symm] at hr9
          have hk1 := q1.kept sw ⟨by omega, by omega, by omega, by omega, by omega, fun q hq => by omega, fun q hq => by omega, fun q hq => by omega⟩
          have hk2 := q2.kept sw (by omega)
          have hk3 := q3.kept sw (by omega) (fun _ _ => by show 40 ≠ 30 + j; omega)
          have HS4 := Lib.hid (And.intro hk1 (And.intro hk2 (And.intro hk3 hr9)))
          have HRUN := Lib.hid hrun
          have HVD := Lib.hid hV
          clear hgq hby mo mn ht0 hbv hcv hbxv sv htv f1 f2 f3 f4 q1 q2 q3 q4 hrun hgr hg9 hL9 lo ln hown sw hr9 hk1 hk2 hk3 hV hbw
          rw [HVD.out] at HRUN
          go_wp2_with (at_builtin; refine Lib.wpList_append_run _ rfl _ _ _ _ rfl _ _ rfl rfl _ _ HRUN.out ?_)
          have HS4X : Hid (∃ L, FlM L w1.heap.size W9 g p j j j vD vA vV ((List.range j).map (rowG ds (cdI ds))) ((List.range j).map (rowG ds (tbl dn))) ((List.range j).map (rowG ds (tbl ac))) ∧ TI L (10 + j) w1.heap.size W9 _ (rowp (cdI ds) j (i + 1)) ∧ TTabs L (20 + j) (fun _ => 40) w1.heap.size W9 _ (rowp (tbl dn) j (i + 1)) ∧ TTabs L (30 + j) (fun _ => 40) w1.heap.size W9 _ (rowp (tbl ac) j (i + 1))) := Lib.hid ⟨L4, HS4.out⟩
          go_roundw
          case rel => first | exact ⟨i + 1, _, _, _, rfl, rfl, rfl, by omega, by go_num, HS4X, HB4⟩ | ((repeat apply Exists.intro); exact ⟨⟨i + 1, _, _, _, rfl, rfl, rfl, by omega, by go_num, HS4X, HB4⟩, rfl⟩)
          case measure => simp [intOf]; omega
        · obtain rfl : i = m := by omega
          have hge : ¬ (i : Int) < (i : Int) := by omega
          obtain ⟨T1, f1, f2, f3, f4⟩ := HSI.out
          have HP1 := Lib.hid (And.intro f1 (And.intro f2 (And.intro f3 f4)))
          obtain ⟨xd, yd, hsd⟩ := Sl.shape f2.1.l1
          obtain ⟨xa, na, ya, hsa, _⟩ := f3.cap
          obtain ⟨xv, nv, yv, hsv, _⟩ := f4.cap
          obtain ⟨nd, hnd⟩ : ∃ q, q = (rowp (cdI ds) j i).length := ⟨_, rfl⟩
          rw [← hnd] at hsd
          clear f1 f2 f3 f4 HSI hnd
          subst hsd hsa hsv
          obtain ⟨P1, hP1⟩ : ∃ W, W = X1 := ⟨_, rfl⟩
          rw [← hP1] at HB1 HP1 ⊢
          have HBP1 := HB1
          clear hP1 HB1
          go_upto_region 13 with fail
          obtain ⟨E1, hE⟩ : ∃ W', W' = P1.alloc (.cells #[.slice xd nd yd] 47) := ⟨_, rfl⟩
          have hbe : Below P1.heap.size P1 E1 := by rw [hE]; exact below_alloc1 _ _
          have hce : E1.cell? ⟨P1.heap.size, 0, none⟩ = some (.slice xd nd yd) := by rw [hE]; exact cell_alloc1 _ _ _
          have se : Stp1 T1 T1 50 P1 E1 := Stp1.of_below hbe (fun _ _ => rfl) 50
          obtain ⟨p1, p2, p3, p4⟩ := HP1.out
          have e1 := p1.below hbe (fun _ _ => rfl) (by omega)
          have e2 := p2.kept se (by omega)
          have e3 := p3.kept se (by omega) (fun _ _ => by show 40 ≠ 50; omega)
          have e4 := p4.kept se (by omega) (fun _ _ => by show 40 ≠ 50; omega)
          obtain ⟨g1, k1, F1, T2, hrun, hpsh, hlo9, hfl⟩ := e1.pushD e2 P1.heap.size hce (by omega)
          obtain ⟨h1, h2, h3, h4, h5⟩ := hpsh
          have HBP2 : Hid (Below w1.heap.size w1 (F1.setCell ⟨g, 1, none⟩ (.slice (some ⟨g1, 0, none⟩) (j + 1) k1))) := Lib.hid (((HBP1.out.trans (hbe.mono HBP1.out.size)).grown h1 (HBP1.out.trans (hbe.mono HBP1.out.size)).size hlo9).setCell (by show w1.heap.size ≤ g; exact hgw) _)
          have HP2 := Lib.hid (And.intro hfl (And.intro ((e2.kept h2 (by omega)).kept h3 (by omega)) (And.intro ((e3.kept h2 (by omega) (fun _ _ => by show 40 ≠ 1; omega)).kept h3 (by omega) (fun _ _ => by show 40 ≠ 0; omega)) ((e4.kept h2 (by omega) (fun _ _ => by show 40 ≠ 1; omega)).kept h3 (by omega) (fun _ _ => by show 40 ≠ 0; omega)))))
          have gb : P1.cell? ⟨g, 1, none⟩ = some vD := by simp [World.cell?, p1.box]
          have HRUN := Lib.hid hrun
          have HED := Lib.hid hE
          rw [HED.out] at HRUN
          clear hbe hce se p1 p2 p3 p4 e1 e2 e3 e4 hrun h1 h2 h3 hfl hE hlo9
          go_upto_region 14 with (at_builtin; refine Lib.wpList_append_run _ rfl _ _ _ _ rfl _ _ rfl rfl _ _ HRUN.out ?_)
          obtain ⟨P2, hPn⟩ : ∃ W, W = F1.setCell ⟨g, 1, none⟩ (.slice (some ⟨g1, 0, none⟩) (j + 1) k1) := ⟨_, rfl⟩
          rw [← hPn] at HBP2 HP2 ⊢
          clear hPn HRUN HED h4 h5 gb
          obtain ⟨E2, hE⟩ : ∃ W', W' = P2.alloc (.cells #[.slice xa na ya] 51) := ⟨_, rfl⟩
          have hbe : Below P2.heap.size P2 E2 := by rw [hE]; exact below_alloc1 _ _
          have hce : E2.cell? ⟨P2.heap.size, 0, none⟩ = some (.slice xa na ya) := by rw [hE]; exact cell_alloc1 _ _ _
          have se : Stp1 T2 T2 50 P2 E2 := Stp1.of_below hbe (fun _ _ => rfl) 50
          obtain ⟨p1, p2, p3, p4⟩ := HP2.out
          have e1 := p1.below hbe (fun _ _ => rfl) (by omega)
          have e2 := p2.kept se (by omega)
          have e3 := p3.kept se (by omega) (fun _ _ => by show 40 ≠ 50; omega)
          have e4 := p4.kept se (by omega) (fun _ _ => by show 40 ≠ 50; omega)
          obtain ⟨g2, k2, F2, T3, hrun, hpsh, hlo9, hfl⟩ := e1.pushA e3 P2.heap.size hce (by omega)
          obtain ⟨h1, h2, h3, h4, h5⟩ := hpsh
          have HBP3 : Hid (Below w1.heap.size w1 (F2.setCell ⟨g, 2, none⟩ (.slice (some ⟨g2, 0, none⟩) (j + 1) k2))) := Lib.hid (((HBP2.out.trans (hbe.mono HBP2.out.size)).grown h1 (HBP2.out.trans (hbe.mono HBP2.out.size)).size hlo9).setCell (by show w1.heap.size ≤ g; exact hgw) _)
          have HP3 := Lib.hid (And.intro hfl (And.intro ((e2.kept h2 (by omega)).kept h3 (by omega)) (And.intro ((e3.kept h2 (by omega) (fun _ _ => by show 40 ≠ 2; omega)).kept h3 (by omega) (fun _ _ => by show 40 ≠ 0; omega)) ((e4.kept h2 (by omega) (fun _ _ => by show 40 ≠ 2; omega)).kept h3 (by omega) (fun _ _ => by show 40 ≠ 0; omega)))))
          have gb : P2.cell? ⟨g, 2, none⟩ = some vA := by simp [World.cell?, p1.box]
          have HRUN := Lib.hid hrun
          have HED := Lib.hid hE
          rw [HED.out] at HRUN
          clear hbe hce se p1 p2 p3 p4 e1 e2 e3 e4 hrun h1 h2 h3 hfl hE hlo9
          go_upto_region 15 with (at_builtin; refine Lib.wpList_append_run _ rfl _ _ _ _ rfl _ _ rfl rfl _ _ HRUN.out ?_)
          obtain ⟨P3, hPn⟩ : ∃ W, W = F2.setCell ⟨g, 2, none⟩ (.slice (some ⟨g2, 0, none⟩) (j + 1) k2) := ⟨_, rfl⟩
          rw [← hPn] at HBP3 HP3 ⊢
          clear hPn HRUN HED h4 h5 gb
          obtain ⟨E3, hE⟩ : ∃ W', W' = P3.alloc (.cells #[.slice xv nv yv] 51) := ⟨_, rfl⟩
          have hbe : Below P3.heap.size P3 E3 := by rw [hE]; exact below_alloc1 _ _
          have hce : E3.cell? ⟨P3.heap.size, 0, none⟩ = some (.slice xv nv yv) := by rw [hE]; exact cell_alloc1 _ _ _
          have se : Stp1 T3 T3 50 P3 E3 := Stp1.of_below hbe (fun _ _ => rfl) 50
          obtain ⟨p1, p2, p3, p4⟩ := HP3.out
          have e1 := p1.below hbe (fun _ _ => rfl) (by omega)
          have e2 := p2.kept se (by omega)
          have e3 := p3.kept se (by omega) (fun _ _ => by show 40 ≠ 50; omega)
          have e4 := p4.kept se (by omega) (fun _ _ => by show 40 ≠ 50; omega)
          obtain ⟨g3, k3, F3, T4, hrun, hpsh, hlo9, hfl⟩ := e1.pushV e4 P3.heap.size hce (by omega)
          obtain ⟨h1, h2, h3, h4, h5⟩ := hpsh
          have HBP4 : Hid (Below w1.heap.size w1 (F3.setCell ⟨g, 3, none⟩ (.slice (some ⟨g3, 0, none⟩) (j + 1) k3))) := Lib.hid (((HBP3.out.trans (hbe.mono HBP3.out.size)).grown h1 (HBP3.out.trans (hbe.mono HBP3.out.size)).size hlo9).setCell (by show w1.heap.size ≤ g; exact hgw) _)
          have HP4 := Lib.hid (And.intro hfl (And.intro ((e2.kept h2 (by omega)).kept h3 (by omega)) (And.intro ((e3.kept h2 (by omega) (fun _ _ => by show 40 ≠ 3; omega)).kept h3 (by omega) (fun _ _ => by show 40 ≠ 0; omega)) ((e4.kept h2 (by omega) (fun _ _ => by show 40 ≠ 3; omega)).kept h3 (by omega) (fun _ _ => by show 40 ≠ 0; omega)))))
          have gb : P3.cell? ⟨g, 3, none⟩ = some vV := by simp [World.cell?, p1.box]
          have HRUN := Lib.hid hrun
          have HED := Lib.hid hE
          rw [HED.out] at HRUN
          clear hbe hce se p1 p2 p3 p4 e1 e2 e3 e4 hrun h1 h2 h3 hfl hE hlo9
          go_wp2_with (at_builtin; refine Lib.wpList_append_run _ rfl _ _ _ _ rfl _ _ rfl rfl _ _ HRUN.out ?_)
          obtain ⟨P4, hPn⟩ : ∃ W, W = F3.setCell ⟨g, 3, none⟩ (.slice (some ⟨g3, 0, none⟩) (j + 1) k3) := ⟨_, rfl⟩
          have HPN := Lib.hid hPn
          rw [← hPn] at HBP4 HP4
          clear hPn HRUN HED gb
          rw [← HPN.out]
          go_roundw
          case rel =>
            have HEQ : Hid (∃ L, FlM L w1.heap.size P4 g p (j + 1) (j + 1) (j + 1) (.slice (some ⟨g1, 0, none⟩) (j + 1) k1) (.slice (some ⟨g2, 0, none⟩) (j + 1) k2) (.slice (some ⟨g3, 0, none⟩) (j + 1) k3) ((List.range (j + 1)).map (rowG ds (cdI ds))) ((List.range (j + 1)).map (rowG ds (tbl dn))) ((List.range (j + 1)).map (rowG ds (tbl ac)))) := Lib.hid ⟨T4, by
              have h0 := HP4.out.1
              rw [HM.out, rowp_all, rowp_all, rowp_all] at h0
              rw [range_snoc, range_snoc, range_snoc]
              exact h0⟩
            exact ⟨j + 1, by omega, by omega, _, _, _, HEQ⟩
          case measure => simp [intOf]; omega
    · obtain rfl : j = hh := by omega
      have hge : ¬ (j : Int) < (j : Int) := by omega
      obtain ⟨L, hf⟩ := HS.out
      obtain ⟨xd, nd, yd, hsd⟩ : ∃ a n c, vD = .slice a n c := by obtain ⟨vs, ho, _⟩ := hf.o1; rcases ho.1.2 with ⟨h0, _⟩ | ⟨g', c', cur, hu, _⟩; exact ⟨_, _, _, h0⟩; exact ⟨_, _, _, hu⟩
      obtain ⟨xa, na, ya, hsa⟩ : ∃ a n c, vA = .slice a n c := by obtain ⟨vs, ho, _⟩ := hf.o2; rcases ho.1.2 with ⟨h0, _⟩ | ⟨g', c', cur, hu, _⟩; exact ⟨_, _, _, h0⟩; exact ⟨_, _, _, hu⟩
      obtain ⟨xv, nv, yv, hsv⟩ : ∃ a n c, vV = .slice a n c := by obtain ⟨vs, ho, _⟩ := hf.o3; rcases ho.1.2 with ⟨h0, _⟩ | ⟨g', c', cur, hu, _⟩; exact ⟨_, _, _, h0⟩; exact ⟨_, _, _, hu⟩
      subst hsd hsa hsv
      have hbx := hf.box
      have g0 : wx.cell? ⟨g, 0, none⟩ = some (.int .i64 p) := by simp [World.cell?, hbx]
      have g1 : wx.cell? ⟨g, 1, none⟩ = some (.slice xd nd yd) := by simp [World.cell?, hbx]
      have g2 : wx.cell? ⟨g, 2, none⟩ = some (.slice xa na ya) := by simp [World.cell?, hbx]
      have g3 : wx.cell? ⟨g, 3, none⟩ = some (.slice xv nv yv) := by simp [World.cell?, hbx]
      have HZ : Hid (wx.heap[w.heap.size + 1]? = some (.cells Zd4 29 (0, 0))) := Lib.hid (HNX.out _ HBX.out).2.2
      obtain ⟨L', hL'⟩ : ∃ M, M = retag L (w.heap.size + 1) := ⟨_, rfl⟩
      have hne : w.heap.size + 1 ≠ g := by omega
      obtain ⟨WF, hWF⟩ : ∃ WF, WF = wx.setRow (w.heap.size + 1) #[.int .i64 p, .slice xd nd yd, .slice xa na ya, .slice xv nv yv] := ⟨_, rfl⟩
      have hrF : Rz WF (w.heap.size + 1) 29 #[.int .i64 p, .slice xd nd yd, .slice xa na ya, .slice xv nv yv] := by rw [hWF]; exact Rz.set HZ.out _
      have hgF : wx.grownBy WF (some (w.heap.size + 1)) := by rw [hWF]; exact grown_setRow _ _ _
      have HDXF : Hid (Dx 0 WF (.slice xd nd yd) (.slice xa na ya) (.slice xv nv yv) ((List.range j).map (rowG ds (cdI ds))) ((List.range j).map (rowG ds (tbl dn))) ((List.range j).map (rowG ds (tbl ac)))) := Lib.hid (by
        have st : Stp1 (fun b => if b = w.heap.size + 1 then 50 else L b) (fun b => if b = w.heap.size + 1 then 50 else L b) 50 wx WF := ⟨⟨_, hgF, fun q e _ => by cases e; exact .inl (if_pos rfl)⟩, fun _ _ => rfl⟩
        have hf2 : FlM (fun b => if b = w.heap.size + 1 then 50 else L b) w1.heap.size wx g p j j j (.slice xd nd yd) (.slice xa na ya) (.slice xv nv yv) ((List.range j).map (rowG ds (cdI ds))) ((List.range j).map (rowG ds (tbl dn))) ((List.range j).map (rowG ds (tbl ac))) := hf.retag (fun b hb => if_neg (by omega)) (if_neg (by omega))
        exact (hf2.kept st ⟨by omega, by omega, by omega, by omega, by omega, fun q hq => by omega, fun q hq => by omega, fun q hq => by omega⟩).dx)
      have HBF : Hid (Below w.heap.size w WF) := Lib.hid (by rw [hWF]; exact below_setRow (HW0.out _ HBX.out) (Nat.le_succ _) _)
      have k0 := hrF.cell (i := 0) (v := _) rfl
      have k1 := hrF.cell (i := 1) (v := _) rfl
      have k2 := hrF.cell (i := 2) (v := _) rfl
      have k3 := hrF.cell (i := 3) (v := _) rfl
      have HWF := Lib.hid hWF
      clear hWF hrF hgF hf hbx hL' HS
      go_wp2_with (with_reducible refine wpList_store_row rfl 29 (.tmp 2) (.tmp 91) rfl (w.heap.size + 1) #[.int .i64 p, .slice xd nd yd, .slice xa na ya, .slice xv nv yv] rfl rfl 29 Zd4 HZ.out (infoDb _ _ _ _) rfl (by kernel_rfl) ?_)
      rw [← HWF.out]
      go_wp2
      refine bodyPost_ret (v := .agg #[.int .i64 p, .slice xd nd yd, .slice xa na ya, .slice xv nv yv]) (results_db HRES.out _ (w.heap.size + 1) _ _ _ _ _ rfl k0 k1 k2 k3) rfl ⟨_, _, _, rfl, by first | (rw [← HQ.out]; exact HDXF.out) | (rw [show (ds[0]?.getD []).length = j from by rw [← List.getD_eq_getElem?_getD]; exact HQ.out.symm]; exact HDXF.out), HBF.out⟩
end Go.Proofs.YtlopenephgabhaaGreat


namespace Go.Proofs.YtlopenephgabhaaGreat
open Go.RowKit

def rowH {α : Type} (ds : List (List Int)) (g : Nat × Nat → α) (j : Nat) : List α := (List.range ds.length).map fun i => g (i, j)
/-- What is told by the cells, the columns turned to rows. -/
def flG {α : Type} (ds : List (List Int)) (g : Nat × Nat → α) : List (List α) := (List.range (ds.getD 0 []).length).map (rowH ds g)
theorem colF_flG {α : Type} {ds : List (List Int)} (hok : DclOk ds) (g : Nat × Nat → α) : colF (ds.getD 0 []).length (cellsTo ds ds.length) g = flG ds g := colF_all hok g
section
variable {α : Type} {p : Int} {ds : List (List Int)} {ac dn : List (List (List (List Int)))} {g : Nat × Nat → α} {i j : Nat}
theorem flG_len : (flG ds g).length = (ds.getD 0 []).length := by simp [flG]
theorem flG_row (h : j < (ds.getD 0 []).length) : (flG ds g).getD j [] = rowH ds g j := by
  rw [getD_of_lt _ (by rw [flG_len]; exact h)]
  simp [flG]
theorem rowH_len : (rowH ds g j).length = ds.length := by simp [rowH]
theorem rowH_at (h : i < ds.length) (d : α) : (rowH ds g j).getD i d = g (i, j) := by
  rw [getD_of_lt _ (by rw [rowH_len]; exact h)]
  simp [rowH]
theorem flG_at (hj : j < (ds.getD 0 []).length) (hi : i < ds.length) (d : α) : ((flG ds g).getD j []).getD i d = g (i, j) := by rw [flG_row hj, rowH_at hi]
theorem flD_dcl (hj : j < (ds.getD 0 []).length) (hi : i < ds.length) : dcl (flG ds (cdI ds)) (j : Int) (i : Int) = dcl ds (i : Int) (j : Int) := by
  rw [dcl_nat, dcl_nat, flG_at hj hi]
  rfl
theorem flD_left (hj : j < (ds.getD 0 []).length) (hi : i < ds.length) : dcl (flG ds (cdI ds)) ((j : Int) - 1) (i : Int) = dcl ds (i : Int) ((j : Int) - 1) := by
  by_cases e : j = 0
  · subst e
    rw [show dcl (flG ds (cdI ds)) (((0 : Nat) : Int) - 1) (i : Int) = 0 from if_pos (.inl (by omega)), show dcl ds (i : Int) (((0 : Nat) : Int) - 1) = 0 from if_pos (.inr (by omega))]
  · obtain ⟨q, rfl⟩ : ∃ q, j = q + 1 := ⟨j - 1, by omega⟩
    rw [show (((q + 1 : Nat) : Int) - 1) = (q : Int) by omega]
    exact flD_dcl (by omega) hi
theorem flD_low (hj : j < (ds.getD 0 []).length) (hi : i < ds.length) : dcl (flG ds (cdI ds)) (j : Int) ((i : Int) - 1) = dcl ds ((i : Int) - 1) (j : Int) := by
  by_cases e : i = 0
  · subst e
    rw [show dcl (flG ds (cdI ds)) (j : Int) (((0 : Nat) : Int) - 1) = 0 from if_pos (.inr (by omega)), show dcl ds (((0 : Nat) : Int) - 1) (j : Int) = 0 from if_pos (.inl (by omega))]
  · obtain ⟨q, rfl⟩ : ∃ q, i = q + 1 := ⟨i - 1, by omega⟩
    rw [show (((q + 1 : Nat) : Int) - 1) = (q : Int) by omega]
    exact flD_dcl hj (by omega)
theorem fl_cdim (hj : j < (ds.getD 0 []).length) (hi : i < ds.length) : cdim (flG ds (cdI ds)) (j, i) = cdim ds (i, j) := by
  show ((((flG ds (cdI ds)).getD j []).getD i 0)).toNat = ((ds.getD i []).getD j 0).toNat
  rw [flG_at hj hi]
  rfl
theorem fl_tbl {x : List (List (List (List Int)))} (hj : j < (ds.getD 0 []).length) (hi : i < ds.length) : tbl (flG ds (tbl x)) (j, i) = tbl x (i, j) := flG_at hj hi []
theorem fl_dcl (hok : DclOk ds) : DclOk (flG ds (cdI ds)) := by
  have h0 := hok.h0
  have h1 := hok.h1
  have l0 := hok.len0
  have l1 := hok.len1
  have hr0 : ((flG ds (cdI ds)).getD 0 []).length = ds.length := by rw [flG_row (by omega), rowH_len]
  refine ⟨by rw [flG_len]; exact h0, by rw [flG_len]; exact h1, by rw [hr0]; exact l0, by rw [hr0]; exact l1, fun r hr => ?_⟩
  obtain ⟨j, hj, rfl⟩ := List.getElem_of_mem hr
  have hj2 : j < (ds.getD 0 []).length := by rw [← flG_len (ds := ds) (g := cdI ds)]; exact hj
  have e : (flG ds (cdI ds))[j] = rowH ds (cdI ds) j := by rw [← getD_of_lt [] hj]; exact flG_row hj2
  rw [e, hr0]
  refine ⟨rowH_len, fun x hx => ?_⟩
  obtain ⟨i, hi, rfl⟩ := List.getElem_of_mem hx
  have hi2 : i < ds.length := by rw [← rowH_len (ds := ds) (g := cdI ds) (j := j)]; exact hi
  rw [← getD_of_lt 0 hi, rowH_at hi2]
  have hcol : (ds.getD i []).length = (ds.getD 0 []).length := cl_height hok hi2
  unfold cdI
  rw [getD_of_lt _ (show j < (ds.getD i []).length by omega)]
  refine (hok.col (ds.getD i []) ?_).2 _ (List.getElem_mem _)
  rw [getD_of_lt _ hi2]
  exact List.getElem_mem hi2
theorem fl_cell (hok : DclOk ds) {c : Nat × Nat} (h : c ∈ cellsTo (flG ds (cdI ds)) (flG ds (cdI ds)).length) : c.1 < (ds.getD 0 []).length ∧ c.2 < ds.length ∧ (c.2, c.1) ∈ cellsTo ds ds.length := by
  obtain ⟨h1, h2⟩ := mem_cells.1 h
  rw [flG_len] at h1
  rw [flG_row h1, rowH_len] at h2
  exact ⟨h1, h2, mem_cells.2 ⟨h2, by show c.1 < (ds.getD c.2 []).length; rw [show (ds.getD c.2 []).length = (ds.getD 0 []).length from cl_height hok h2]; exact h1⟩⟩
theorem fl_tbs (hok : DclOk ds) (ht : TbsOk p ds ac dn) : TbsOk p (flG ds (cdI ds)) (flG ds (tbl dn)) (flG ds (tbl ac)) := by
  refine ⟨by rw [flG_len, flG_len], by rw [flG_len, flG_len], fun j hj => ?_, fun j hj => ?_, fun c hc => ?_⟩
  · rw [flG_len] at hj
    rw [flG_row hj, flG_row hj, rowH_len, rowH_len]
  · rw [flG_len] at hj
    rw [flG_row hj, flG_row hj, rowH_len, rowH_len]
  · obtain ⟨j, i⟩ := c
    obtain ⟨h1, h2, h3⟩ := fl_cell hok hc
    have hd := ht.tab (i, j) h3
    unfold DTab at hd ⊢
    simp only at hd h1 h2 ⊢
    rw [flD_dcl h1 h2, flD_left h1 h2, flD_low h1 h2, flG_at h1 h2, flG_at h1 h2]
    exact ⟨hd.2, hd.1⟩
theorem fl_cnd (hok : DclOk ds) (h : CndOk p ds ac dn) : CndOk p (flG ds (cdI ds)) (flG ds (tbl dn)) (flG ds (tbl ac)) := by
  refine ⟨fun j i r t hc hr htt => ?_, fun j i r t hc hr htt => ?_, fun j i r t hc hr htt => ?_⟩
  · obtain ⟨h1, h2, h3⟩ := fl_cell hok hc
    simp only at h1 h2 h3
    rw [fl_cdim h1 h2] at hr
    rw [fl_cdim (by omega) h2] at htt
    rw [fl_tbl h1 h2, fl_tbl (by omega) h2, fl_cdim (by omega) h2]
    exact h.dd i j r t h3 hr htt
  · obtain ⟨h1, h2, h3⟩ := fl_cell hok hc
    simp only at h1 h2 h3
    rw [fl_cdim h1 h2] at hr
    rw [fl_cdim h1 (by omega)] at htt
    rw [fl_tbl h1 h2, fl_tbl h1 (by omega), fl_cdim h1 (by omega)]
    exact h.aa i j r t h3 hr htt
  · obtain ⟨h1, h2, h3⟩ := fl_cell hok hc
    simp only at h1 h2 h3
    rw [fl_cdim h1 h2] at hr
    rw [fl_cdim (by omega) (by omega)] at htt
    rw [fl_tbl h1 h2, fl_tbl (by omega) h2, fl_cdim (by omega) h2, fl_tbl h1 h2, fl_tbl h1 (by omega), fl_cdim h1 (by omega), Int.add_comm]
    exact h.ad i j r t h3 hr htt
theorem fl_db (h : IsDb p ds ac dn) : IsDb p (flG ds (cdI ds)) (flG ds (tbl dn)) (flG ds (tbl ac)) := ⟨h.prime, fl_dcl h.cel, fl_tbs h.cel h.tbs, fl_cnd h.cel h.cnd⟩
end
end Go.Proofs.YtlopenephgabhaaGreat


namespace Go.Proofs.YtlopenephgabhaaGreat
open Go.RowKit

/-- The table of the row homology numbers. -/
def RhOk (p : Int) (ds : List (List Int)) (ac _ : List (List (List (List Int)))) (t : List (List Int)) : Prop := ∃ s, TcOk p (flG ds (cdI ds)) (flG ds (tbl ac)) s ∧ t = flipT ds.length s
theorem RhOk.unique {p : Int} {ds : List (List Int)} {ac dn : List (List (List (List Int)))} {a b : List (List Int)} (hp : 1 < p) (h : RhOk p ds ac dn a) (k : RhOk p ds ac dn b) : a = b := by
  obtain ⟨s, hs, rfl⟩ := h
  obtain ⟨t, ht, rfl⟩ := k
  rw [hs.unique hp ht]
theorem RhOk.bd {p : Int} {ds : List (List Int)} {ac dn : List (List (List (List Int)))} {t : List (List Int)} (hok : DclOk ds) (h : RhOk p ds ac dn t) : Bd2 1048576 t := by
  obtain ⟨s, hs, rfl⟩ := h
  have h1 := hok.len1
  have h2 := hok.h1
  have h3 := hs.1
  rw [flG_len] at h3
  refine ⟨by simp [flipT, tableOf]; omega, fun x hx => ?_⟩
  simp only [flipT, tableOf, List.mem_map] at hx
  obtain ⟨j, _, rfl⟩ := hx
  show List.length _ ≤ _
  simp
  omega
set_option maxHeartbeats 6400000 in
set_option maxRecDepth 100000 in
theorem numbersOfRows_any (p : Int) (dv av vv : Value) (ds : List (List Int)) (ac dn : List (List (List (List Int)))) (w : World) (h : Dx 0 w dv av vv ds ac dn) (hbd : Bd2 1048576 ds) (hba : Bd4 1048576 ac) (hbv : Bd4 1048576 dn) :
    Calls Tryz.prog 24 #[.agg #[.int .i64 p, dv, av, vv], .bool true, .func (.func 25) #[] #[]] w (AnsW Rw2 (RhOk p ds ac dn) [] (chCode p ds ac dn) w) := by
  obtain ⟨w1, hw1⟩ : ∃ w1, w1 = w.alloc (.cells #[.int .i64 p, dv, av, vv] 29) := ⟨_, rfl⟩
  have HX1 : Hid (DBx w w1 w.heap.size p dv av vv ds ac dn) := Lib.hid (by rw [hw1]; exact DBx.start 29 h)
  have HID := Lib.hid (isDouble_any p dv av vv ds ac dn w1 HX1.out.dx hbd hba hbv)
  have c0 := HX1.out.c0
  have c1 := HX1.out.c1
  have c2 := HX1.out.c2
  have c3 := HX1.out.c3
  obtain ⟨cc, hcc⟩ : ∃ cc, cc = chCode p ds ac dn := ⟨_, rfl⟩
  have HCC := Lib.hid hcc
  rw [← hcc]
  clear h hbd hba hbv hcc
  go_enter Tryz.func24, Tryz.ntmps24
  go_upto_region 1 with fail
  rw [← hw1]
  clear hw1
  go_wp2_with fail
  refine HID.out.mono ?_
  rintro e w2 ⟨bb, rfl, hb2, hbb⟩
  have HX2 := Lib.hid (HX1.out.next hb2)
  have HBB := Lib.hid hbb
  clear hb2 hbb c0 c1 c2 c3 HID
  cases bb with
  | false =>
    have hno : ¬ IsDb p ds ac dn := fun h => by have := HBB.out.2 h; cases this
    obtain rfl : cc = 1 := HCC.out.trans (chCode_1 hno)
    clear hno
    go_wp2
    go_ret2
    exact ⟨.slice none 0 0, [], 1, rfl, Rw2.nil _ _ _, HX2.out.below, RsOut.of_no (by decide)⟩
  | true =>
    have HDB : Hid (IsDb p ds ac dn) := Lib.hid (HBB.out.1 rfl)
    obtain rfl : cc = 0 := HCC.out.trans (chCode_0 HDB.out)
    have HN2 : Hid (∀ W, Below w2.heap.size w2 W → DBx w W w.heap.size p dv av vv ds ac dn) := Lib.hid (fun W hb => HX2.out.next hb)
    clear HBB
    go_upto_region 4 with fail
    refine wp_region_held (S := fun W => Below w2.heap.size w2 W) (by kernel_rfl) ?_
    have S0 : Below w2.heap.size w2 w2.drew := (Below.refl _ _).drew
    change wpAnyH _ _ _ _ _ _ _ _ w2.drew
    obtain ⟨wd, hwd⟩ : ∃ wd, wd = w2.drew := ⟨_, rfl⟩
    rw [← hwd] at S0 ⊢
    clear hwd
    refine held_take (i := 0) (v := (.agg #[.int .i64 p, dv, av, vv])) (some 12) rfl rfl (by kernel_rfl) (by kernel_rfl) (by kernel_rfl) (fun _ _ _ h => h) (yieldsIf_cell (by kernel_rfl) rfl (by kernel_rfl) (fun W h => hloadDb W (HN2.out W h))) S0 ?_
    refine held_take (i := 2) (v := (.func (.func 25) #[] #[])) (some 14) rfl rfl (by kernel_rfl) (by kernel_rfl) (by kernel_rfl) (fun _ _ _ h => h) (yieldsIf_move (by kernel_rfl) rfl (by kernel_rfl)) S0 ?_
    refine held_take (i := 4) (v := (.agg #[.int .i64 p, dv, av, vv])) (some 16) rfl rfl (by kernel_rfl) (by kernel_rfl) (by kernel_rfl) (fun _ _ _ h => h) (yieldsIf_cell (by kernel_rfl) rfl (by kernel_rfl) (fun W h => hloadDb W (HN2.out W h))) S0 ?_
    refine held_enter (i := 1) (some 13) (f := 48) (args := #[.agg #[.int .i64 p, dv, av, vv]]) (by kernel_rfl) rfl rfl rfl (by kernel_rfl) (transposedDouble_any p dv av vv ds ac dn wd (HN2.out wd S0).dx HDB.out) ?_ (fun c w' h => by obtain ⟨_, _, _, _, _, _, _, _, _, h, _⟩ := h; cases h) (fun w' h => by obtain ⟨_, _, _, _, _, _, _, _, _, h, _⟩ := h; cases h)
    rintro e3 W3 ⟨base, D, A, V, n, L, dvs, avs, vvs, he3, hn, hbs, hfl, hb3⟩
    injection he3 with he3
    subst he3
    have S1 : Below w2.heap.size w2 W3 := S0.trans (hb3.mono S0.size)
    have hdx := hfl.dx
    rw [hn, colF_flG HDB.out.cel, colF_flG HDB.out.cel, colF_flG HDB.out.cel, ← hn] at hdx
    refine ⟨S1, ?_⟩
    have HTC := Lib.hid (tableOfCells_any p _ _ _ _ _ _ W3 hdx.1 hdx.2 (fl_db HDB.out))
    refine held_enter (i := 3) (some 15) (f := 47) (args := #[.agg #[.int .i64 p, .slice (some ⟨D, 0, none⟩) n n, .slice (some ⟨A, 0, none⟩) n n, .slice (some ⟨V, 0, none⟩) n n], .func (.func 25) #[] #[]]) (by kernel_rfl) rfl rfl rfl (by kernel_rfl) (HTC.out) ?_ (fun c w' h => by obtain ⟨_, _, h, _⟩ := h; cases h) (fun w' h => by obtain ⟨_, _, h, _⟩ := h; cases h)
    rintro e4 W4 ⟨u4, s, he4, hrw, hb4, htc⟩
    injection he4 with he4
    subst he4
    have S2 : Below w2.heap.size w2 W4 := S1.trans (hb4.mono S1.size)
    refine ⟨S2, ?_⟩
    refine held_enter (i := 5) (some 17) (f := 49) (args := #[.agg #[.int .i64 p, dv, av, vv]]) (by kernel_rfl) rfl rfl rfl (by kernel_rfl) (widthOf_any p dv av vv ds W4 (HN2.out W4 S2).dx.dims) ?_ (fun c w' h => by cases h.1) (fun w' h => by cases h.1)
    rintro e5 W5 ⟨he5, hb5⟩
    injection he5 with he5
    subst he5
    have S3 : Below w2.heap.size w2 W5 := S2.trans (hb5.mono S2.size)
    refine ⟨S3, ?_⟩
    have hl2 : L2 0 W5 e4 s := (hrw.1.l2.lower (Nat.zero_le _)).below hb5
    have hsl := htc.1
    rw [flG_len] at hsl
    have hrows : ∀ x ∈ s, x.length = ds.length := fun x hx => by
      obtain ⟨k, hk, rfl⟩ := List.getElem_of_mem hx
      have h1 := (htc.2 k (by rw [← htc.1]; exact hk)).1
      rw [getD_of_lt _ hk, flG_row (by rw [← hsl]; exact hk), rowH_len] at h1
      exact h1
    have hq4 := HDB.out.cel.h1
    have hd4 := HDB.out.cel.len1
    refine held_enter (i := 6) (some 18) (f := 46) (args := #[e4, .int .i64 (ds.length : Int)]) (by kernel_rfl) rfl rfl rfl (by kernel_rfl) (transposedTable_any ds.length e4 s W5 hl2 (by omega) (by omega) hrows) ?_ (fun c w' h => by cases h.1) (fun w' h => by cases h.1)
    rintro e6 W6 ⟨he6, hm6⟩
    injection he6 with he6
    subst he6
    have S4 : Below w2.heap.size w2 W6 := S3.trans (hm6.below.mono S3.size)
    refine ⟨S4, ?_⟩
    refine held_take (i := 7) (v := (.slice (some ⟨W5.heap.size, 0, none⟩) ds.length ds.length)) (some 6) rfl rfl (by kernel_rfl) (by kernel_rfl) (by kernel_rfl) (fun _ _ _ h => h) (yieldsIf_assign (by kernel_rfl) rfl (by kernel_rfl)) S4 ?_
    refine held_take (i := 8) (v := (.int .i64 0)) (some 7) rfl rfl (by kernel_rfl) (by kernel_rfl) (by kernel_rfl) (fun _ _ _ h => h) (yieldsIf_assign (by kernel_rfl) rfl (by kernel_rfl)) S4 ?_
    refine wpAnyH_done (by kernel_rfl) ?_ _
    simp only [Act.put, List.setIfInBounds_toArray, List.set_cons_zero, List.set_cons_succ]
    have HRW6 : Hid (Rw2 w2.heap.size W6.heap.size W6 (.slice (some ⟨W5.heap.size, 0, none⟩) ds.length ds.length) (flipT ds.length s)) := Lib.hid (Tb.rw2h (g := W5.heap.size) ⟨hm6.top, hm6.rows, by have := hm6.size; omega⟩ S3.size (by have := hm6.size; omega) (by omega) (by omega))
    have HTO := Lib.hid htc
    have HS4 := Lib.hid S4
    clear S0 S1 S2 S3 S4 hrw hb3 hb4 hb5 hm6 hl2 hsl hrows htc hfl hdx hq4 hd4 HTC
    have hsz := HX2.out.below.size
    go_wp2
    go_ret2
    exact ⟨_, flipT ds.length s, 0, rfl, HRW6.out.wider hsz (Nat.le_refl _), HX2.out.below.trans (HS4.out.mono hsz), RsOut.of_yes rfl ⟨s, HTO.out, rfl⟩⟩

set_option maxHeartbeats 3200000 in
set_option maxRecDepth 100000 in
theorem rowHomology_any (p : Int) (dv av vv : Value) (ds : List (List Int)) (ac dn : List (List (List (List Int)))) (w : World) (h : Dx 0 w dv av vv ds ac dn) (hbd : Bd2 1048576 ds) (hba : Bd4 1048576 ac) (hbv : Bd4 1048576 dn) :
    Calls Tryz.prog 8 #[.agg #[.int .i64 p, dv, av, vv]] w (AnsW Rw2 (RhOk p ds ac dn) [] (chCode p ds ac dn) w) := by
  obtain ⟨w1, hw1⟩ : ∃ w1, w1 = w.alloc (.cells #[.int .i64 p, dv, av, vv] 29) := ⟨_, rfl⟩
  have HX1 : Hid (DBx w w1 w.heap.size p dv av vv ds ac dn) := Lib.hid (by rw [hw1]; exact DBx.start 29 h)
  have HNC := Lib.hid (numbersOfRows_any p dv av vv ds ac dn w1 HX1.out.dx hbd hba hbv)
  have c0 := HX1.out.c0
  have c1 := HX1.out.c1
  have c2 := HX1.out.c2
  have c3 := HX1.out.c3
  clear h hbd hba hbv
  go_enter Tryz.func8, Tryz.ntmps8
  go_upto_region 1 with fail
  rw [← hw1]
  clear hw1
  go_wp2_with fail
  refine HNC.out.mono ?_
  rintro e w2 ⟨u, t, c, rfl, hrw, hb2, hrs⟩
  have HRW := Lib.hid hrw
  have HB2 := Lib.hid hb2
  have HRS := Lib.hid hrs
  have hsz := HX1.out.below.size
  clear c0 c1 c2 c3 hrw hb2 hrs HNC
  go_wp2
  go_ret2
  exact ⟨u, t, c, rfl, HRW.out.wider hsz (Nat.le_refl _), HX1.out.below.trans (HB2.out.mono hsz), HRS.out⟩

set_option maxHeartbeats 3200000 in
set_option maxRecDepth 100000 in
theorem spRowHomology_any (p : Int) (dv av vv : Value) (ds : List (List Int)) (ac dn : List (List (List (List Int)))) (w : World) (h : Dx 0 w dv av vv ds ac dn) (hbd : Bd2 1048576 ds) (hba : Bd4 1048576 ac) (hbv : Bd4 1048576 dn) :
    Calls Tryz.prog 6 #[.agg #[.int .i64 p, dv, av, vv]] w (AnsS (L2 0) (RhOk p ds ac dn) [] (chCode p ds ac dn) w) := by
  obtain ⟨w1, hw1⟩ : ∃ w1, w1 = w.alloc (.cells #[.int .i64 p, dv, av, vv] 29) := ⟨_, rfl⟩
  have HX1 : Hid (DBx w w1 w.heap.size p dv av vv ds ac dn) := Lib.hid (by rw [hw1]; exact DBx.start 29 h)
  have HID := Lib.hid (l03Is_any p dv av vv ds ac dn w1 HX1.out.dx hbd hba hbv)
  have c0 := HX1.out.c0
  have c1 := HX1.out.c1
  have c2 := HX1.out.c2
  have c3 := HX1.out.c3
  obtain ⟨cc, hcc⟩ : ∃ cc, cc = chCode p ds ac dn := ⟨_, rfl⟩
  have HCC := Lib.hid hcc
  rw [← hcc]
  clear h hbd hba hbv hcc
  go_enter Tryz.func6, Tryz.ntmps6
  go_upto_region 1 with fail
  rw [← hw1]
  clear hw1
  go_wp2_with fail
  refine HID.out.mono ?_
  rintro e w2 ⟨bb, rfl, hb2, hbb⟩
  have HX2 := Lib.hid (HX1.out.next hb2)
  have HBB := Lib.hid hbb
  clear hb2 hbb c0 c1 c2 c3 HID
  cases bb with
  | false =>
    have hno : ¬ IsDb p ds ac dn := fun h => by have := HBB.out.2 h; cases this
    obtain rfl : cc = 1 := HCC.out.trans (chCode_1 hno)
    clear hno
    go_wp2
    go_ret2
    exact ⟨.slice none 0 0, [], 1, rfl, Or.inl ⟨rfl, _, _, rfl⟩, HX2.out.below, RsOut.of_no (by decide)⟩
  | true =>
    have HDB : Hid (IsDb p ds ac dn) := Lib.hid (HBB.out.1 rfl)
    obtain rfl : cc = 0 := HCC.out.trans (chCode_0 HDB.out)
    have c0 := HX2.out.c0
    have c1 := HX2.out.c1
    have c2 := HX2.out.c2
    have c3 := HX2.out.c3
    clear HBB
    go_wp2_with fail
    refine (l03Flip_any p dv av vv ds ac dn w2 HX2.out.dx HDB.out).mono ?_
    rintro e w3 ⟨vD, vA, vV, rfl, hdx, hb3⟩
    have HDX : Hid (Dx 0 w3 vD vA vV (flG ds (cdI ds)) (flG ds (tbl dn)) (flG ds (tbl ac))) := Lib.hid hdx
    have HB3 := Lib.hid hb3
    clear c0 c1 c2 c3 hdx hb3
    go_wp2_with fail
    refine (l03Numbers_any p vD vA vV _ _ _ w3 HDX.out (fl_db HDB.out)).mono ?_
    rintro e w4 ⟨u4, s, rfl, hl4, hb4, htc⟩
    have HL4 := Lib.hid hl4
    have HB4 := Lib.hid hb4
    have HTC := Lib.hid htc
    have hsl := htc.1
    rw [flG_len] at hsl
    have HTU := Lib.hid (l03Turned_any u4 s ds.length w4 hl4 (by have := HDB.out.cel.h0; omega) (by have := HDB.out.cel.h1; omega) (by have := HDB.out.cel.len1; omega) (fun x hx => by
      obtain ⟨k, hk, rfl⟩ := List.getElem_of_mem hx
      have h1 := (HTC.out.2 k (by rw [← HTC.out.1]; exact hk)).1
      rw [getD_of_lt _ hk, flG_row (by rw [← hsl]; exact hk), rowH_len] at h1
      exact h1))
    obtain ⟨xa, xc, hsu⟩ := Sl.shape hl4
    obtain ⟨ns, hns⟩ : ∃ k, k = s.length := ⟨_, rfl⟩
    rw [← hns] at hsu
    subst hsu
    clear hl4 hb4 htc hsl hns
    go_wp2_with fail
    refine HTU.out.mono ?_
    rintro e w5 ⟨u5, rfl, hl5, hb5⟩
    have HL5 := Lib.hid hl5
    have HB5 := Lib.hid hb5
    have hs2 := HX2.out.below.size
    have hs3 := HB3.out.size
    have hs4 := HB4.out.size
    clear hl5 hb5 HTU
    go_wp2
    go_ret2
    exact ⟨u5, flipT ds.length s, 0, rfl, HL5.out, ((HX2.out.below.trans (HB3.out.mono hs2)).trans (HB4.out.mono (by omega))).trans (HB5.out.mono (by omega)), RsOut.of_yes rfl ⟨s, HTC.out, rfl⟩⟩
end Go.Proofs.YtlopenephgabhaaGreat


namespace Go.Proofs.YtlopenephgabhaaGreat
open Go.RowKit
theorem rowHomologyK_any (p : Int) (dv av vv : Value) (ds : List (List Int)) (ac dn : List (List (List (List Int)))) (w : World) (h : Dc 0 w dv av vv ds ac dn) (hb : DcB 1048576 ds ac dn) :
    Calls Tryz.prog 8 #[.agg #[.int .i64 p, dv, av, vv]] w (AnsW Rw2 (RhOk p ds ac dn) [] (chCode p ds ac dn) w) := rowHomology_any p dv av vv ds ac dn w ⟨h.fd, h.fa, h.fv.l4⟩ hb.bd hb.ba hb.bv
theorem spRowHomologyK_any (p : Int) (dv av vv : Value) (ds : List (List Int)) (ac dn : List (List (List (List Int)))) (w : World) (h : Dc 0 w dv av vv ds ac dn) (hb : DcB 1048576 ds ac dn) :
    Calls Tryz.prog 6 #[.agg #[.int .i64 p, dv, av, vv]] w (AnsS (L2 0) (RhOk p ds ac dn) [] (chCode p ds ac dn) w) := spRowHomology_any p dv av vv ds ac dn w ⟨h.fd, h.fa, h.fv.l4⟩ hb.bd hb.ba hb.bv
theorem rhCode_zero {p : Int} {ds : List (List Int)} {ac dn : List (List (List (List Int)))} (h : chCode p ds ac dn = 0) : IsDb p ds ac dn := by
  by_cases hc : IsDb p ds ac dn
  · exact hc
  · rw [chCode_1 hc] at h; cases h
end Go.Proofs.YtlopenephgabhaaGreat


namespace Go.Proofs.YtlopenephgabhaaGreat
open Go.RowKit

set_option maxHeartbeats 12800000 in
set_option maxRecDepth 100000 in
theorem lawRhl_any (p0 : Int) (dv0 av0 vv0 : Value) (dl0 : List (List Int)) (al0 : List (List (List (List Int)))) (vl0 : List (List (List (List Int)))) (w : World) (h0 : Dc 0 w dv0 av0 vv0 dl0 al0 vl0) (hml0 : DcB 9223372036854775807 dl0 al0 vl0) :
    Calls Tryz.prog 3 #[.agg #[.int .i64 p0, dv0, av0, vv0]] w (BR (.bool true) w) := by
  obtain ⟨W0, hW0⟩ : ∃ W0, W0 = (w.alloc (.cells #[.int .i64 p0, dv0, av0, vv0] 25)) := ⟨_, rfl⟩
  have HS0 : Hid (W0.heap.size = w.heap.size + 1) := Lib.hid (by rw [hW0]; simp)
  have HZ0 : Hid (Below w.heap.size w W0) := Lib.hid (by rw [hW0]; exact below_alloc1 _ _)
  have HK0 : Hid (BxDc w W0 (w.heap.size) p0 dv0 av0 vv0 dl0 al0 vl0) := Lib.hid (by rw [hW0]; exact BxDc.start _ h0)
  have HN0 : Hid (∀ W, Below (w.heap.size + 1) W0 W → BxDc w W (w.heap.size) p0 dv0 av0 vv0 dl0 al0 vl0) := Lib.hid (fun W hb => HK0.out.next (by rw [HS0.out]; exact hb))
  have HNW : Hid (∀ W, Below (w.heap.size + 1) W0 W → Below w.heap.size w W) := Lib.hid (fun W hb => HZ0.out.trans (hb.mono (by omega)))
  have HB : Hid (Below (w.heap.size + 1) W0 W0) := Lib.hid (Below.refl _ _)
  have hs0 : w.heap.size + 1 ≤ W0.heap.size := by have := HS0.out; omega
  have HML0 := Lib.hid hml0
  clear h0 hml0 HK0
  go_enter Tryz.func3, Tryz.ntmps3
  go_upto_region 1 with fail
  rw [← hW0]
  clear hW0
  have c00 := (HN0.out _ HB.out).c0
  have c01 := (HN0.out _ HB.out).c1
  have c02 := (HN0.out _ HB.out).c2
  have c03 := (HN0.out _ HB.out).c3
  go_wp2_with fail
  refine (sztDoublec_any p0 dv0 av0 vv0 dl0 al0 vl0 1048576 _ (HN0.out _ HB.out).cx (by omega) (by omega) HML0.out).mono ?_
  rintro ee wz0 ⟨sz0, rfl, hb, hpost⟩
  have hsz0 : W0.heap.size ≤ wz0.heap.size := hb.size
  have HB' := Lib.hid (HB.out.trans (hb.mono (by omega)))
  clear c00 c01 c02 c03
  clear hb HB
  have HB := HB'
  clear HB'
  rcases hpost with rfl | ⟨hp00, hp01, hpm0⟩
  · go_wp2
    go_ret
    exact ⟨rfl, HNW.out _ HB.out⟩
  have HMS0 := Lib.hid hpm0
  clear hpm0
  have c00 := (HN0.out _ HB.out).c0
  have c01 := (HN0.out _ HB.out).c1
  have c02 := (HN0.out _ HB.out).c2
  have c03 := (HN0.out _ HB.out).c3
  have HQd : Hid (Below wz0.heap.size wz0 wz0) := Lib.hid (Below.refl _ _)
  go_wp2_with fail
  refine (toDoublec_any p0 dv0 av0 vv0 dl0 al0 vl0 _ (HN0.out _ HB.out).cx HMS0.out.b).mono ?_
  rintro ee wS0 ⟨xdv0_S, xav0_S, xvv0_S, rfl, hc, hb⟩
  have hsS0 : wz0.heap.size ≤ wS0.heap.size := hb.size
  have HBS0 := Lib.hid (HB.out.trans (hb.mono (by omega)))
  have HQ0 := Lib.hid (HQd.out.trans (hb.mono (by omega)))
  have HXS00 := Lib.hid (hc.zero)
  clear hb hc
  clear c00 c01 c02 c03
  go_wp2_with fail
  refine (spRowHomologyK_any p0 xdv0_S xav0_S xvv0_S dl0 al0 vl0 _ (HXS00.out) HMS0.out.b).mono ?_
  rintro ee wSr ⟨uS, oS, kS, rfl, hrS, hb, hoS⟩
  have hsSr : wS0.heap.size ≤ wSr.heap.size := hb.size
  have HBSr := Lib.hid (HBS0.out.trans (hb.mono (by omega)))
  have HQr := Lib.hid (HQ0.out.trans (hb.mono (by omega)))
  have HRS := Lib.hid hrS
  have HOS := Lib.hid hoS
  clear hb hoS hrS
  have hb := HQr.out
  clear HQd HQr HQ0 HXS00 HBS0 HBSr
  have HB' := Lib.hid (HB.out.trans (hb.mono (by omega)))
  clear hb HB
  have HB := HB'
  clear HB'
  have HBD : Hid (Bd2 1048576 oS) := Lib.hid (HOS.out.all (Q := Bd2 1048576) ⟨by simp, by simp⟩ (fun h0 a ha => ha.bd (rhCode_zero h0).cel))
  have HK : Hid (Below wSr.heap.size wSr wSr) := Lib.hid (Below.refl _ _)
  have c00 := (HN0.out _ HB.out).c0
  have c01 := (HN0.out _ HB.out).c1
  have c02 := (HN0.out _ HB.out).c2
  have c03 := (HN0.out _ HB.out).c3
  go_wp2_with fail
  refine (toDoublecw_any p0 dv0 av0 vv0 dl0 al0 vl0 _ (HN0.out _ HB.out).cx HMS0.out.b).mono ?_
  rintro ee wc0 ⟨ydv0, yav0, yvv0, rfl, hc, hb⟩
  have hsc0 : wSr.heap.size ≤ wc0.heap.size := hb.size
  clear c00 c01 c02 c03
  have HB' := Lib.hid (HB.out.trans (hb.mono (by omega)))
  have HK' := Lib.hid (HK.out.trans (hb.mono (by omega)))
  clear hb HB HK
  have HB := HB'
  have HK := HK'
  clear HB' HK'
  have HC0 := Lib.hid hc
  obtain ⟨⟨ya0d, yc0d, rfl⟩, ⟨ya0a, yc0a, rfl⟩, ⟨ya0v, yc0v, rfl⟩⟩ := hc.cx.shapes
  clear hc
  obtain ⟨wb0, hwb⟩ : ∃ wb0, wb0 = wc0.alloc (.cells #[.int .i64 p0, .slice ya0d dl0.length yc0d, .slice ya0a al0.length yc0a, .slice ya0v vl0.length yc0v] 29) := ⟨_, rfl⟩
  have hb : Below wc0.heap.size wc0 wb0 := by rw [hwb]; exact below_alloc1 _ _
  have hsb0 : wc0.heap.size + 1 = wb0.heap.size := by rw [hwb]; simp
  have hsB0 : wc0.heap.size ≤ wb0.heap.size := by omega
  have HY0 : Hid (BqDc wb0 wc0.heap.size p0 (.slice ya0d dl0.length yc0d) (.slice ya0a al0.length yc0a) (.slice ya0v vl0.length yc0v) dl0 al0 vl0) := Lib.hid (by rw [hwb]; exact (BxDc.start _ HC0.out.cx.zero).bq)
  have HB' := Lib.hid (HB.out.trans (hb.mono (by omega)))
  have HK' := Lib.hid (HK.out.trans (hb.mono (by omega)))
  have HC0' := Lib.hid (HC0.out.same (Same.of_below hb (by omega)))
  clear hb HB HK HC0
  have HB := HB'
  have HK := HK'
  have HC0 := HC0'
  clear HB' HK' HC0'
  go_upto_region 7 with fail
  rw [← hwb]
  clear hwb
  have d00 := HY0.out.c0
  have d01 := HY0.out.c1
  have d02 := HY0.out.c2
  have d03 := HY0.out.c3
  go_wp2_with fail
  refine (rowHomologyK_any p0 _ _ _ dl0 al0 vl0 _ (HC0.out.cx.zero) HMS0.out.b).mono ?_
  rintro ee w7 ⟨u7, o7, k7, rfl, hw7, hb, hout7⟩
  obtain ⟨rfl, rfl⟩ := RsOut.unique (fun h0 _ _ ha hb => ha.unique (by have := (rhCode_zero h0).prime.lo1; omega) hb) HOS.out hout7
  have hs7 : wb0.heap.size ≤ w7.heap.size := hb.size
  clear d00 d01 d02 d03
  have HB' := Lib.hid (HB.out.trans (hb.mono (by omega)))
  have HK' := Lib.hid (HK.out.trans (hb.mono (by omega)))
  have HC0' := Lib.hid (HC0.out.same (Same.of_below hb (by omega)))
  have HY0' := Lib.hid (HY0.out.next hb)
  clear hb HB HK HC0 HY0
  have HB := HB'
  have HK := HK'
  have HC0 := HC0'
  have HY0 := HY0'
  clear HB' HK' HC0' HY0'
  have HG := Lib.hid hw7
  clear hw7 hout7
  have hcode : (kS != kS) = false := by simp
  obtain ⟨aG, cG, eG⟩ := HG.out.shape
  obtain ⟨aS, cS, eS⟩ := Sl.shape HRS.out
  subst eG eS
  go_wp2_with fail
  refine (eq2_true _ _ oS _ HG.out.l (HRS.out.below HK.out) HBD.out).mono ?_
  rintro ee we1 ⟨rfl, hb⟩
  have hse1 : w7.heap.size ≤ we1.heap.size := hb.size
  have HB' := Lib.hid (HB.out.trans (hb.mono (by omega)))
  have HK' := Lib.hid (HK.out.trans (hb.mono (by omega)))
  have HC0' := Lib.hid (HC0.out.same (Same.of_below hb (by omega)))
  have HY0' := Lib.hid (HY0.out.next hb)
  have HG' := Lib.hid (HG.out.same (Same.of_below hb (by omega)))
  clear hb HB HK HC0 HY0 HG
  have HB := HB'
  have HK := HK'
  have HC0 := HC0'
  have HY0 := HY0'
  have HG := HG'
  clear HB' HK' HC0' HY0' HG'
  have c00 := (HN0.out _ HB.out).c0
  have c01 := (HN0.out _ HB.out).c1
  have c02 := (HN0.out _ HB.out).c2
  have c03 := (HN0.out _ HB.out).c3
  have d00 := HY0.out.c0
  have d01 := HY0.out.c1
  have d02 := HY0.out.c2
  have d03 := HY0.out.c3
  have HCX := Lib.hid (((HN0.out _ HB.out).cx).drew)
  have HCC := Lib.hid ((HY0.out.cx).drew)
  go_wp2_with fail
  go_region_held3 (fun w' => w'.cell? ⟨w.heap.size, 0, none⟩ = some (.int .i64 p0) ∧ w'.cell? ⟨w.heap.size, 1, none⟩ = some (dv0) ∧ w'.cell? ⟨w.heap.size, 2, none⟩ = some (av0) ∧ w'.cell? ⟨w.heap.size, 3, none⟩ = some (vv0) ∧ w'.cell? ⟨wc0.heap.size, 0, none⟩ = some (.int .i64 p0) ∧ w'.cell? ⟨wc0.heap.size, 1, none⟩ = some (.slice ya0d dl0.length yc0d) ∧ w'.cell? ⟨wc0.heap.size, 2, none⟩ = some (.slice ya0a al0.length yc0a) ∧ w'.cell? ⟨wc0.heap.size, 3, none⟩ = some (.slice ya0v vl0.length yc0v))
    (first | exact ⟨c00, c01, c02, c03, d00, d01, d02, d03⟩ | exact HS9.out | exact HSA.out | go_keep)
    (first
      | (go_at_call 7; refine (toDoublec_any p0 dv0 av0 vv0 dl0 al0 vl0 _ HCX.out HMS0.out.b).mono ?_; rintro ee w9 ⟨zdv09, zav09, zvv09, rfl, hcx9, hb9⟩; have HS9 := Lib.hid (And.intro (later hb9 (Nat.le_refl _) c00) (And.intro (later hb9 (Nat.le_refl _) c01) (And.intro (later hb9 (Nat.le_refl _) c02) (And.intro (later hb9 (Nat.le_refl _) c03) (And.intro (later hb9 (Nat.le_refl _) d00) (And.intro (later hb9 (Nat.le_refl _) d01) (And.intro (later hb9 (Nat.le_refl _) d02) (later hb9 (Nat.le_refl _) d03)))))))); have HX9 := Lib.hid (And.intro hcx9 (And.intro (HCC.out.below hb9) (Below.trans ((Below.refl we1.heap.size we1).drew) hb9))); clear hcx9 hb9)
      | (go_at_call 10; refine (eqDoublec_true p0 _ _ _ zdv09 zav09 zvv09 dl0 al0 vl0 _ HX9.out.2.1 HX9.out.1.zero HMS0.out.b).mono ?_; rintro ee wA0 ⟨rfl, hbA⟩; have HSA := Lib.hid (And.intro (later hbA (Nat.le_refl _) (HS9.out.1)) (And.intro (later hbA (Nat.le_refl _) (HS9.out.2.1)) (And.intro (later hbA (Nat.le_refl _) (HS9.out.2.2.1)) (And.intro (later hbA (Nat.le_refl _) (HS9.out.2.2.2.1)) (And.intro (later hbA (Nat.le_refl _) (HS9.out.2.2.2.2.1)) (And.intro (later hbA (Nat.le_refl _) (HS9.out.2.2.2.2.2.1)) (And.intro (later hbA (Nat.le_refl _) (HS9.out.2.2.2.2.2.2.1)) (later hbA (Nat.le_refl _) (HS9.out.2.2.2.2.2.2.2))))))))); have HXA := Lib.hid (Below.trans HX9.out.2.2 (hbA.mono HX9.out.2.2.size)); clear hbA))
  have hsa0 : we1.heap.size ≤ wA0.heap.size := HXA.out.size
  have hb := HXA.out
  clear c00 c01 c02 c03
  clear d00 d01 d02 d03
  clear HXA HSA HS9 HX9 HCX HCC
  have HB' := Lib.hid (HB.out.trans (hb.mono (by omega)))
  have HK' := Lib.hid (HK.out.trans (hb.mono (by omega)))
  have HC0' := Lib.hid (HC0.out.same (Same.of_below hb (by omega)))
  have HY0' := Lib.hid (HY0.out.next hb)
  have HG' := Lib.hid (HG.out.same (Same.of_below hb (by omega)))
  clear hb HB HK HC0 HY0 HG
  have HB := HB'
  have HK := HK'
  have HC0 := HC0'
  have HY0 := HY0'
  have HG := HG'
  clear HB' HK' HC0' HY0' HG'
  have d00 := HY0.out.c0
  have d01 := HY0.out.c1
  have d02 := HY0.out.c2
  have d03 := HY0.out.c3
  go_wp2_with fail
  refine (markDoublecK_any 1 p0 _ _ _ dl0 al0 vl0 _ HC0.out (by omega) HMS0.out (by omega) (by omega)).mono ?_
  rintro ee wD0 ⟨r0, wM, rfl, hr00, hr01, hb, hoM, htM⟩
  have hsM0 : wA0.heap.size ≤ wM.heap.size := hb.size
  have hsD0 : wD0.heap.size = wM.heap.size := hoM.size
  have hsE0 : wA0.heap.size ≤ wD0.heap.size := by omega
  clear d00 d01 d02 d03
  have HB' := Lib.hid ((HB.out.trans (hb.mono (by omega))).trans (hoM.below (by omega)))
  have HK' := Lib.hid ((HK.out.trans (hb.mono (by omega))).trans (hoM.below (by omega)))
  have HG' := Lib.hid (HG.out.same ((Same.of_below hb (by omega)).trans (hoM.same (by omega))))
  clear hoM htM hb HC0 HY0 HB HK HG
  have HB := HB'
  have HK := HK'
  have HG := HG'
  clear HB' HK' HG'
  have hneg0 : ¬ r0 < 0 := by omega
  go_wp2_with fail
  refine (eq2_true _ _ oS _ HG.out.l (HRS.out.below HK.out) HBD.out).mono ?_
  rintro ee we2 ⟨rfl, hb⟩
  have hse2 : wD0.heap.size ≤ we2.heap.size := hb.size
  have HB' := Lib.hid (HB.out.trans (hb.mono (by omega)))
  have HK' := Lib.hid (HK.out.trans (hb.mono (by omega)))
  have HG' := Lib.hid (HG.out.same (Same.of_below hb (by omega)))
  clear hb HB HK HG
  have HB := HB'
  have HK := HK'
  have HG := HG'
  clear HB' HK' HG'
  go_wp2_with fail
  refine (markR2_any HG.out).mono ?_
  rintro ee wG ⟨mm, rfl, hm0, hm1, hoG, hmk⟩
  have hsG : we2.heap.size ≤ wG.heap.size := Nat.le_of_eq hoG.size.symm
  have HB' := Lib.hid (HB.out.trans (hoG.below (by omega)))
  have HK' := Lib.hid (HK.out.trans (hoG.below (by omega)))
  have HG' := Lib.hid hmk
  clear hoG hmk HB HK HG
  have HB := HB'
  have HK := HK'
  have HG := HG'
  clear HB' HK' HG'
  have hneg : ¬ mm < 0 := by omega
  have hsum : (mm != mm) = false := by simp
  go_wp2_with fail
  refine (heldR2_any HG.out).mono ?_
  rintro ee w' ⟨rfl, rfl⟩
  have c00 := (HN0.out _ HB.out).c0
  have c01 := (HN0.out _ HB.out).c1
  have c02 := (HN0.out _ HB.out).c2
  have c03 := (HN0.out _ HB.out).c3
  have HQd : Hid (Below wG.heap.size wG wG) := Lib.hid (Below.refl _ _)
  go_wp2_with fail
  refine (toDoublec_any p0 dv0 av0 vv0 dl0 al0 vl0 _ (HN0.out _ HB.out).cx HMS0.out.b).mono ?_
  rintro ee wJ0 ⟨xdv0_J, xav0_J, xvv0_J, rfl, hc, hb⟩
  have hsJ0 : wG.heap.size ≤ wJ0.heap.size := hb.size
  have HBJ0 := Lib.hid (HB.out.trans (hb.mono (by omega)))
  have HQ0 := Lib.hid (HQd.out.trans (hb.mono (by omega)))
  have HXJ00 := Lib.hid (hc.zero)
  clear hb hc
  clear c00 c01 c02 c03
  go_wp2_with fail
  refine (rowHomologyK_any p0 xdv0_J xav0_J xvv0_J dl0 al0 vl0 _ (HXJ00.out) HMS0.out.b).mono ?_
  rintro ee wJr ⟨uJ, oJ, kJ, rfl, hrJ, hb, hoJ⟩
  have hsJr : wJ0.heap.size ≤ wJr.heap.size := hb.size
  have HBJr := Lib.hid (HBJ0.out.trans (hb.mono (by omega)))
  have HQr := Lib.hid (HQ0.out.trans (hb.mono (by omega)))
  have HRJ := Lib.hid hrJ
  have HOJ := Lib.hid hoJ
  clear hb hoJ hrJ
  have hb := HQr.out
  clear HQd HQr HQ0 HXJ00 HBJ0 HBJr
  have HB' := Lib.hid (HB.out.trans (hb.mono (by omega)))
  have HK' := Lib.hid (HK.out.trans (hb.mono (by omega)))
  have HG' := Lib.hid (HG.out.same (Same.of_below hb (by omega)))
  clear hb HB HK HG
  have HB := HB'
  have HK := HK'
  have HG := HG'
  clear HB' HK' HG'
  obtain ⟨rfl, rfl⟩ := RsOut.unique (fun h0 _ _ ha hb => ha.unique (by have := (rhCode_zero h0).prime.lo1; omega) hb) HOS.out HOJ.out
  clear HOJ
  have HRJ' := Lib.hid HRJ.out.l
  clear HRJ
  have HRJ := HRJ'
  clear HRJ'
  go_wp2_with fail
  refine (eq2_true _ _ oS _ HRJ.out (HRS.out.below HK.out) HBD.out).mono ?_
  rintro ee wK ⟨rfl, hb⟩
  have hsK : wJr.heap.size ≤ wK.heap.size := hb.size
  clear HRJ
  have HB' := Lib.hid (HB.out.trans (hb.mono (by omega)))
  have HK' := Lib.hid (HK.out.trans (hb.mono (by omega)))
  have HG' := Lib.hid (HG.out.same (Same.of_below hb (by omega)))
  clear hb HB HK HG
  have HB := HB'
  have HK := HK'
  have HG := HG'
  clear HB' HK' HG'
  go_wp2_with fail
  refine (heldR2_any HG.out).mono ?_
  rintro ee w' ⟨rfl, rfl⟩
  go_wp2
  go_ret
  exact ⟨rfl, HNW.out _ HB.out⟩
end Go.Proofs.YtlopenephgabhaaGreat

