/-
  Texts that ProofCof needs, part 5.
-/
import Derived.Test.YtbadjfnelpfhcaaZc4
import Derived.Deep.Cut
import Derived.Deep.CutRange
import Derived.StillTailTactics
import Derived.RegionTactic
import Derived.Deep.Strs
namespace Go.Proofs.Ytbadjfnelpfhcaa
open Go.RowKit Go.Shelf
attribute [local go_sem] Oper.semAt_some calm_normal calm_ret

set_option maxHeartbeats 12800000 in
set_option maxRecDepth 100000 in
theorem totalComplex_any (p : Int) (hp : IsP p) (dv av vv : Value) (ds : List (List Int)) (ac dn : List (List (List (List Int)))) (w : World) (h : Dx 0 w dv av vv ds ac dn) (hok : DclOk ds) (ht : TbsOk p ds ac dn) :
    Calls Try.prog 62 #[.agg #[.int .i64 p, dv, av, vv]] w fun e w' => ∃ u, e = .returned u ∧ RwC w.heap.size w'.heap.size w' u (p, tD ds, tM ds ac dn) ∧ Below w.heap.size w w' := by
  have hres : Try.f62.results = #[.cell 2 40] := by kernel_rfl
  have HRES := Lib.hid hres
  clear hres
  have HP := Lib.hid hp
  have HOK := Lib.hid hok
  have HT := Lib.hid ht
  have HX := Lib.hid h
  have hl0 := hok.len0
  have hl4 := hok.len1
  have hq0 := hok.h0
  have hq4 := hok.h1
  obtain ⟨m, hm⟩ : ∃ m, m = ds.length := ⟨_, rfl⟩
  obtain ⟨q, hq⟩ : ∃ q, q = (ds.getD 0 []).length := ⟨_, rfl⟩
  obtain ⟨t, htt⟩ : ∃ t, t = ttop ds := ⟨_, rfl⟩
  have htm : t + 2 = m + q := by rw [htt, hm, hq]; unfold ttop; omega
  rw [← hm] at hl0 hl4
  rw [← hq] at hq0 hq4
  have HM := Lib.hid hm
  have HQ := Lib.hid hq
  have HTT := Lib.hid htt
  clear hm hq htt hp hok ht
  have hx0 := (DBx.start (p := p) 28 h).next ((Below.refl _ _).alloc (Nat.le_refl _) (.cells #[.int .i64 0, .slice none 0 0, .slice none 0 0] 40))
  clear h
  obtain ⟨w1, hw1⟩ : ∃ w1, w1 = (w.alloc (.cells #[.int .i64 p, dv, av, vv] 28)).alloc (.cells #[.int .i64 0, .slice none 0 0, .slice none 0 0] 40) := ⟨_, rfl⟩
  have hs1 : w1.heap.size = w.heap.size + 2 := by rw [hw1]; simp
  have HR0 : Hid (Rz w1 (w.heap.size + 1) 40 #[.int .i64 0, .slice none 0 0, .slice none 0 0]) := Lib.hid (by rw [hw1]; have := Rz.new (w.alloc (.cells #[.int .i64 p, dv, av, vv] 28)) 40 #[.int .i64 0, .slice none 0 0, .slice none 0 0]; rwa [World.size_alloc] at this)
  rw [← hw1] at hx0
  have HX1 := Lib.hid hx0
  have c0 := hx0.c0
  have c1 := hx0.c1
  have c2 := hx0.c2
  have c3 := hx0.c3
  clear hx0
  have HNX : Hid (∀ W, Below w1.heap.size w1 W → DBx w W w.heap.size p dv av vv ds ac dn ∧ Rz W (w.heap.size + 1) 40 #[.int .i64 0, .slice none 0 0, .slice none 0 0]) := Lib.hid (fun W hb => ⟨HX1.out.next hb, HR0.out.next hb⟩)
  have HWI : Hid (∀ W, Below w1.heap.size w1 W → Calls Try.prog 74 #[.agg #[.int .i64 p, dv, av, vv]] W fun e w' => e = .returned (.int .i64 (m : Int)) ∧ Below w1.heap.size w1 w') := Lib.hid (fun W hb => by rw [HM.out]; exact (widthOf_any p dv av vv ds W (HX.out.dims.below (HX1.out.below.trans (hb.mono HX1.out.below.size)))).mono fun _ _ hh => ⟨hh.1, hb.trans (hh.2.mono hb.size)⟩)
  have HHE : Hid (∀ W, Below w1.heap.size w1 W → Calls Try.prog 124 #[.agg #[.int .i64 p, dv, av, vv]] W fun e w' => e = .returned (.int .i64 (q : Int)) ∧ Below w1.heap.size w1 w') := Lib.hid (fun W hb => by rw [HQ.out]; exact (heightOf_any p dv av vv ds W (HX.out.dims.below (HX1.out.below.trans (hb.mono HX1.out.below.size))) HOK.out.len0).mono fun _ _ hh => ⟨hh.1, hb.trans (hh.2.mono hb.size)⟩)
  refine (callsIn_wide (n := 8)).1 ?_
  refine callsIn_of_wp_marks Try.func62 rfl trivial ?_
  simp only [Try.ntmps62, List.size_toArray, List.length_cons, List.length_nil, Nat.reduceAdd, Nat.reduceSub, Array.replicate_succ, Array.replicate_zero, List.push_toArray, List.append_toArray, List.nil_append, List.cons_append]
  refine wpIn_calm ?_
  refine wpIn_wide.2 ?_
  go_upto_region 1 with fail
  rw [← hw1]
  clear hw1 c0 c1 c2 c3
  refine wp_region_held (S := fun W => Below w1.heap.size w1 W) (by kernel_rfl) ?_
  have S0 : Below w1.heap.size w1 w1.drew := (Below.refl _ _).drew
  change wpAnyH _ _ _ _ _ _ _ _ w1.drew
  obtain ⟨wd, hwd⟩ : ∃ wd, wd = w1.drew := ⟨_, rfl⟩
  rw [← hwd] at S0 ⊢
  clear hwd
  refine held_take (i := 0) (v := .agg #[.int .i64 p, dv, av, vv]) (some 7) rfl rfl (by kernel_rfl) (by kernel_rfl) (by kernel_rfl) (fun _ _ _ h => h) (yieldsIf_cell (by kernel_rfl) rfl (by kernel_rfl) (fun W h => hloadDb W (HNX.out W h).1)) S0 ?_
  refine held_take (i := 2) (v := .agg #[.int .i64 p, dv, av, vv]) (some 9) rfl rfl (by kernel_rfl) (by kernel_rfl) (by kernel_rfl) (fun _ _ _ h => h) (yieldsIf_cell (by kernel_rfl) rfl (by kernel_rfl) (fun W h => hloadDb W (HNX.out W h).1)) S0 ?_
  refine held_enter (i := 1) (some 8) (f := 74) (args := #[.agg #[.int .i64 p, dv, av, vv]]) (by kernel_rfl) rfl rfl rfl (by kernel_rfl) (HWI.out _ S0) ?_ (fun c w' h => by cases h.1) (fun w' h => by cases h.1)
  rintro e3 W3 ⟨he3, S1⟩
  injection he3 with he3
  subst he3
  refine ⟨S1, ?_⟩
  refine held_enter (i := 3) (some 10) (f := 124) (args := #[.agg #[.int .i64 p, dv, av, vv]]) (by kernel_rfl) rfl rfl rfl (by kernel_rfl) (HHE.out _ S1) ?_ (fun c w' h => by cases h.1) (fun w' h => by cases h.1)
  rintro e4 W4 ⟨he4, S2⟩
  injection he4 with he4
  subst he4
  refine ⟨S2, ?_⟩
  refine held_take (i := 4) (v := .int .i64 ((m : Int) + (q : Int))) (some 11) rfl rfl (by kernel_rfl) (by kernel_rfl) (by kernel_rfl) (fun _ _ _ h => h) (yieldsIf_bin (by kernel_rfl) rfl (by kernel_rfl) (by kernel_rfl) (fun _ => rfl) (haddA (IntWalk.i64_in _ (by omega)))) S2 ?_
  refine held_take (i := 5) (v := .int .i64 (t : Int)) (some 12) rfl rfl (by kernel_rfl) (by kernel_rfl) (by kernel_rfl) (fun _ _ _ h => h) (yieldsIf_bin (by kernel_rfl) rfl (by kernel_rfl) (by kernel_rfl) (fun _ => rfl) (hsubA (by rw [show (m : Int) + (q : Int) - 2 = (t : Int) by omega]; exact IntWalk.i64_in _ (by omega)))) S2 ?_
  refine held_take (i := 6) (v := .int .i64 (t : Int)) (some 3) rfl rfl (by kernel_rfl) (by kernel_rfl) (by kernel_rfl) (fun _ _ _ h => h) (yieldsIf_assign (by kernel_rfl) rfl (by kernel_rfl)) S2 ?_
  refine wpAnyH_done (by kernel_rfl) ?_ _
  simp only [Act.put, List.setIfInBounds_toArray, List.set_cons_zero, List.set_cons_succ]
  have HBB := Lib.hid S2
  have hsB := S2.size
  clear S0 S1 S2
  obtain ⟨wB, hwB⟩ : ∃ wB : World, wB = W4 := ⟨_, rfl⟩
  rw [← hwB] at HBB hsB ⊢
  clear hwB
  obtain ⟨n, hn⟩ : ∃ n, n = t + 1 := ⟨_, rfl⟩
  have HN := Lib.hid hn
  have ht6 : t ≤ 6 := by omega
  have hn7 : n ≤ 7 := by omega
  have hwn : IntKind.i64.wrap ((t : Int) + 1) = (n : Int) := by rw [show (t : Int) + 1 = (n : Int) by omega]; exact IntWalk.i64_in _ (by omega)
  have hmk := run_make_row' (P := Try.prog) 37 2 (.int .i64 0) 8 Try.underlying37 Try.infoI rfl .i64 .i64 n (by omega) (by omega)
  have hmk2 := run_make_row' (P := Try.prog) 38 22 (.slice none 0 0) 24 Try.underlying38 Try.infoSS rfl .i64 .i64 t (by omega) (by omega)
  have HNB : Hid (∀ W, Below wB.heap.size wB W → DBx w W w.heap.size p dv av vv ds ac dn ∧ Rz W (w.heap.size + 1) 40 #[.int .i64 0, .slice none 0 0, .slice none 0 0]) := Lib.hid (fun W hb => HNX.out _ (HBB.out.trans (hb.mono hsB)))
  clear hn
  go_upto_region 2 with fail
  go_cut [4] from 13 to 20 (fun s wx => ∃ g bd bm, s = .pointer (some ⟨g, 0, none⟩) ∧ Hid (Du wB wx g bd bm n t p (fun _ => .int .i64 0) (fun _ => .slice none 0 0)))
  case first =>
    go_wp2
    refine wp_region_held (S := fun W => Below (wB.heap.size) wB W) (by kernel_rfl) ?_
    have S0 : Below (wB.heap.size) wB wB.drew := (Below.refl _ _).drew
    have hsd : wB.heap.size ≤ wB.drew.heap.size := Nat.le_refl _
    have hB0 : wB.heap.size ≤ wB.heap.size := by first | exact Nat.le_refl _ | omega
    change wpAnyH _ _ _ _ _ _ _ _ wB.drew
    obtain ⟨wd, hwd⟩ : ∃ wd, wd = wB.drew := ⟨_, rfl⟩
    rw [← hwd] at S0 hsd ⊢
    clear hwd
    refine held_take (i := 0) (v := .pointer (some ⟨w.heap.size, 0, none⟩)) (some 13) rfl rfl (by kernel_rfl) (by kernel_rfl) (by kernel_rfl) (fun _ _ _ h => h) (yieldsIf_run (by kernel_rfl) (fun W _ => by kernel_rfl)) S0 ?_
    refine held_take (i := 1) (v := .int .i64 p) (some 14) rfl rfl (by kernel_rfl) (by kernel_rfl) (by kernel_rfl) (fun _ _ _ h => h) (yieldsIf_cell (by kernel_rfl) rfl (by kernel_rfl) (fun W h => hloadIn W ((HNB.out W h).1.c0))) S0 ?_
    refine held_take (i := 2) (v := .int .i64 (t : Int)) (some 15) rfl rfl (by kernel_rfl) (by kernel_rfl) (by kernel_rfl) (fun _ _ _ h => h) (yieldsIf_move (by kernel_rfl) rfl (by kernel_rfl)) S0 ?_
    refine held_take (i := 3) (v := .int .i64 (n : Int)) (some 16) rfl rfl (by kernel_rfl) (by kernel_rfl) (by kernel_rfl) (fun _ _ _ h => h) (yieldsIf_bin (by kernel_rfl) rfl (by kernel_rfl) (by kernel_rfl) (fun _ => rfl) (haddA hwn)) S0 ?_
    refine held_take (i := 5) (v := .int .i64 (t : Int)) (some 18) rfl rfl (by kernel_rfl) (by kernel_rfl) (by kernel_rfl) (fun _ _ _ h => h) (yieldsIf_move (by kernel_rfl) rfl (by kernel_rfl)) S0 ?_
    refine held_three (i := 4) (j := 6) (l := 8) (by kernel_rfl) ?_ ?_ ?_
    · obtain ⟨W1, hW1⟩ : ∃ W', W' = wd.alloc (.cells (madeCells #[.int .i64 0] n) 2) := ⟨_, rfl⟩
      have hb1 : Below wd.heap.size wd W1 := by rw [hW1]; exact below_alloc1 _ _
      have hz1 : W1.heap.size = wd.heap.size + 1 := by rw [hW1]; simp
      have S1 : Below (wB.heap.size) wB W1 := S0.trans (hb1.mono (by omega))
      have hD1 : W1.rowIs wd.heap.size 2 n (fun _ => .int .i64 0) := by rw [hW1]; exact World.rowIs_made wd _ _ _
      refine op_make (i := 4) (v := .slice (some ⟨wd.heap.size, 0, none⟩) n n) (w' := W1) (x := .int .i64 (n : Int)) (y := .int .i64 (n : Int)) (some 17) 37 (.tmp 16) (.tmp 16) rfl rfl rfl rfl (by kernel_rfl) (by kernel_rfl) (by rw [hW1]; exact hmk _) ?_
      refine ⟨S1, ?_⟩
      refine held_two (i := 6) (j := 8) (by kernel_rfl) ?_ ?_
      · obtain ⟨W2, hW2⟩ : ∃ W', W' = W1.alloc (.cells (madeCells #[.slice none 0 0] t) 22) := ⟨_, rfl⟩
        have hb2 : Below W1.heap.size W1 W2 := by rw [hW2]; exact below_alloc1 _ _
        have hz2 : W2.heap.size = W1.heap.size + 1 := by rw [hW2]; simp
        have S2 : Below (wB.heap.size) wB W2 := S1.trans (hb2.mono (by omega))
        have hD2 := hD1.of_block (hb2.block _ hD1.lt)
        have hM2 : W2.rowIs W1.heap.size 22 t (fun _ => .slice none 0 0) := by rw [hW2]; exact World.rowIs_made W1 _ _ _
        refine op_make (i := 6) (v := .slice (some ⟨W1.heap.size, 0, none⟩) t t) (w' := W2) (x := .int .i64 (t : Int)) (y := .int .i64 (t : Int)) (some 19) 38 (.tmp 18) (.tmp 18) rfl rfl rfl rfl (by kernel_rfl) (by kernel_rfl) (by rw [hW2]; exact hmk2 _) ?_
        refine ⟨S2, ?_⟩
        refine held_take (i := 7) (v := .agg #[.int .i64 p, .slice (some ⟨wd.heap.size, 0, none⟩) n n, .slice (some ⟨W1.heap.size, 0, none⟩) t t]) (some 20) rfl rfl (by kernel_rfl) (by kernel_rfl) (by kernel_rfl) (fun _ _ _ h => h) (yieldsIf_run (by kernel_rfl) (fun W _ => by kernel_rfl)) S2 ?_
        refine held_one (i := 8) (by kernel_rfl) ?_
        · obtain ⟨W3, hW3⟩ : ∃ W', W' = W2.alloc (.cells #[.int .i64 0, .slice none 0 0, .slice none 0 0] 40) := ⟨_, rfl⟩
          have hb3 : Below W2.heap.size W2 W3 := by rw [hW3]; exact below_alloc1 _ _
          have hz3 : W3.heap.size = W2.heap.size + 1 := by rw [hW3]; simp
          have S3 : Below (wB.heap.size) wB W3 := S2.trans (hb3.mono (by omega))
          have hD3 := hD2.of_block (hb3.block _ hD2.lt)
          have hM3 := hM2.of_block (hb3.block _ hM2.lt)
          have hR3 : Rz W3 W2.heap.size 40 #[.int .i64 0, .slice none 0 0, .slice none 0 0] := by rw [hW3]; exact Rz.new _ _ _
          refine op_mem (i := 8) (v := .pointer (some ⟨W2.heap.size, 0, none⟩)) (w' := W3) (some 4) rfl rfl rfl (by rw [hW3]; go_simp) ?_
          refine ⟨S3, ?_⟩
          have S9 : Below (wB.heap.size) wB (W3.setRow (W2.heap.size) #[.int .i64 p, .slice (some ⟨wd.heap.size, 0, none⟩) n n, .slice (some ⟨W1.heap.size, 0, none⟩) t t]) := below_setRow S3 (by omega) _
          refine held_one (i := 9) (by kernel_rfl) ?_
          refine op_row (i := 9) rfl rfl rfl 40 (.tmp 4) (.tmp 20) rfl (W2.heap.size) #[.int .i64 p, .slice (some ⟨wd.heap.size, 0, none⟩) n n, .slice (some ⟨W1.heap.size, 0, none⟩) t t] (by kernel_rfl) (by kernel_rfl) 40 _ hR3 (infoCo _ _ _) (by kernel_rfl) (by kernel_rfl) ?_
          refine ⟨S9, ?_⟩
          refine wpAnyH_done (by kernel_rfl) ?_ _
          simp only [Act.put, List.setIfInBounds_toArray, List.set_cons_zero, List.set_cons_succ]
          obtain ⟨WF, hWF⟩ : ∃ WF, WF = (W3.setRow (W2.heap.size) #[.int .i64 p, .slice (some ⟨wd.heap.size, 0, none⟩) n n, .slice (some ⟨W1.heap.size, 0, none⟩) t t]) := ⟨_, rfl⟩
          have hbF : Below (wB.heap.size) wB WF := by rw [hWF]; exact S9
          have hRF : Rz WF (W2.heap.size) 40 #[.int .i64 p, .slice (some ⟨wd.heap.size, 0, none⟩) n n, .slice (some ⟨W1.heap.size, 0, none⟩) t t] := by rw [hWF]; exact hR3.set _
          have hDF : WF.rowIs (wd.heap.size) 2 n (fun _ => .int .i64 0) := by rw [hWF]; exact hD3.of_block (setRow_other _ _ _ _ (by omega))
          have hMF : WF.rowIs (W1.heap.size) 22 t (fun _ => .slice none 0 0) := by rw [hWF]; exact hM3.of_block (setRow_other _ _ _ _ (by omega))
          have hG : (wB.heap.size ≤ W2.heap.size ∧ wB.heap.size ≤ wd.heap.size ∧ wB.heap.size ≤ W1.heap.size) ∧ W2.heap.size ≠ wd.heap.size ∧ W2.heap.size ≠ W1.heap.size ∧ wd.heap.size ≠ W1.heap.size := by omega
          rw [← hWF]
          clear hWF S9
          go_wp2
          go_meet
          exact ⟨_, _, _, rfl, Lib.hid ⟨hbF, hG.1, hG.2, rowIs3 hRF, hDF, hMF⟩⟩
      · obtain ⟨W4, hW4⟩ : ∃ W', W' = W1.alloc (.cells #[.int .i64 0, .slice none 0 0, .slice none 0 0] 40) := ⟨_, rfl⟩
        have hb4 : Below W1.heap.size W1 W4 := by rw [hW4]; exact below_alloc1 _ _
        have hz4 : W4.heap.size = W1.heap.size + 1 := by rw [hW4]; simp
        have S4 : Below (wB.heap.size) wB W4 := S1.trans (hb4.mono (by omega))
        have hD4 := hD1.of_block (hb4.block _ hD1.lt)
        have hR4 : Rz W4 W1.heap.size 40 #[.int .i64 0, .slice none 0 0, .slice none 0 0] := by rw [hW4]; exact Rz.new _ _ _
        refine op_mem (i := 8) (v := .pointer (some ⟨W1.heap.size, 0, none⟩)) (w' := W4) (some 4) rfl rfl rfl (by rw [hW4]; go_simp) ?_
        refine ⟨S4, ?_⟩
        refine held_one (i := 6) (by kernel_rfl) ?_
        · obtain ⟨W5, hW5⟩ : ∃ W', W' = W4.alloc (.cells (madeCells #[.slice none 0 0] t) 22) := ⟨_, rfl⟩
          have hb5 : Below W4.heap.size W4 W5 := by rw [hW5]; exact below_alloc1 _ _
          have hz5 : W5.heap.size = W4.heap.size + 1 := by rw [hW5]; simp
          have S5 : Below (wB.heap.size) wB W5 := S4.trans (hb5.mono (by omega))
          have hD5 := hD4.of_block (hb5.block _ hD4.lt)
          have hR5 := hR4.next hb5
          have hM5 : W5.rowIs W4.heap.size 22 t (fun _ => .slice none 0 0) := by rw [hW5]; exact World.rowIs_made W4 _ _ _
          refine op_make (i := 6) (v := .slice (some ⟨W4.heap.size, 0, none⟩) t t) (w' := W5) (x := .int .i64 (t : Int)) (y := .int .i64 (t : Int)) (some 19) 38 (.tmp 18) (.tmp 18) rfl rfl rfl rfl (by kernel_rfl) (by kernel_rfl) (by rw [hW5]; exact hmk2 _) ?_
          refine ⟨S5, ?_⟩
          refine held_take (i := 7) (v := .agg #[.int .i64 p, .slice (some ⟨wd.heap.size, 0, none⟩) n n, .slice (some ⟨W4.heap.size, 0, none⟩) t t]) (some 20) rfl rfl (by kernel_rfl) (by kernel_rfl) (by kernel_rfl) (fun _ _ _ h => h) (yieldsIf_run (by kernel_rfl) (fun W _ => by kernel_rfl)) S5 ?_
          have S9 : Below (wB.heap.size) wB (W5.setRow (W1.heap.size) #[.int .i64 p, .slice (some ⟨wd.heap.size, 0, none⟩) n n, .slice (some ⟨W4.heap.size, 0, none⟩) t t]) := below_setRow S5 (by omega) _
          refine held_one (i := 9) (by kernel_rfl) ?_
          refine op_row (i := 9) rfl rfl rfl 40 (.tmp 4) (.tmp 20) rfl (W1.heap.size) #[.int .i64 p, .slice (some ⟨wd.heap.size, 0, none⟩) n n, .slice (some ⟨W4.heap.size, 0, none⟩) t t] (by kernel_rfl) (by kernel_rfl) 40 _ hR5 (infoCo _ _ _) (by kernel_rfl) (by kernel_rfl) ?_
          refine ⟨S9, ?_⟩
          refine wpAnyH_done (by kernel_rfl) ?_ _
          simp only [Act.put, List.setIfInBounds_toArray, List.set_cons_zero, List.set_cons_succ]
          obtain ⟨WF, hWF⟩ : ∃ WF, WF = (W5.setRow (W1.heap.size) #[.int .i64 p, .slice (some ⟨wd.heap.size, 0, none⟩) n n, .slice (some ⟨W4.heap.size, 0, none⟩) t t]) := ⟨_, rfl⟩
          have hbF : Below (wB.heap.size) wB WF := by rw [hWF]; exact S9
          have hRF : Rz WF (W1.heap.size) 40 #[.int .i64 p, .slice (some ⟨wd.heap.size, 0, none⟩) n n, .slice (some ⟨W4.heap.size, 0, none⟩) t t] := by rw [hWF]; exact hR5.set _
          have hDF : WF.rowIs (wd.heap.size) 2 n (fun _ => .int .i64 0) := by rw [hWF]; exact hD5.of_block (setRow_other _ _ _ _ (by omega))
          have hMF : WF.rowIs (W4.heap.size) 22 t (fun _ => .slice none 0 0) := by rw [hWF]; exact hM5.of_block (setRow_other _ _ _ _ (by omega))
          have hG : (wB.heap.size ≤ W1.heap.size ∧ wB.heap.size ≤ wd.heap.size ∧ wB.heap.size ≤ W4.heap.size) ∧ W1.heap.size ≠ wd.heap.size ∧ W1.heap.size ≠ W4.heap.size ∧ wd.heap.size ≠ W4.heap.size := by omega
          rw [← hWF]
          clear hWF S9
          go_wp2
          go_meet
          exact ⟨_, _, _, rfl, Lib.hid ⟨hbF, hG.1, hG.2, rowIs3 hRF, hDF, hMF⟩⟩
    · obtain ⟨W6, hW6⟩ : ∃ W', W' = wd.alloc (.cells (madeCells #[.slice none 0 0] t) 22) := ⟨_, rfl⟩
      have hb6 : Below wd.heap.size wd W6 := by rw [hW6]; exact below_alloc1 _ _
      have hz6 : W6.heap.size = wd.heap.size + 1 := by rw [hW6]; simp
      have S6 : Below (wB.heap.size) wB W6 := S0.trans (hb6.mono (by omega))
      have hM6 : W6.rowIs wd.heap.size 22 t (fun _ => .slice none 0 0) := by rw [hW6]; exact World.rowIs_made wd _ _ _
      refine op_make (i := 6) (v := .slice (some ⟨wd.heap.size, 0, none⟩) t t) (w' := W6) (x := .int .i64 (t : Int)) (y := .int .i64 (t : Int)) (some 19) 38 (.tmp 18) (.tmp 18) rfl rfl rfl rfl (by kernel_rfl) (by kernel_rfl) (by rw [hW6]; exact hmk2 _) ?_
      refine ⟨S6, ?_⟩
      refine held_two (i := 4) (j := 8) (by kernel_rfl) ?_ ?_
      · obtain ⟨W7, hW7⟩ : ∃ W', W' = W6.alloc (.cells (madeCells #[.int .i64 0] n) 2) := ⟨_, rfl⟩
        have hb7 : Below W6.heap.size W6 W7 := by rw [hW7]; exact below_alloc1 _ _
        have hz7 : W7.heap.size = W6.heap.size + 1 := by rw [hW7]; simp
        have S7 : Below (wB.heap.size) wB W7 := S6.trans (hb7.mono (by omega))
        have hM7 := hM6.of_block (hb7.block _ hM6.lt)
        have hD7 : W7.rowIs W6.heap.size 2 n (fun _ => .int .i64 0) := by rw [hW7]; exact World.rowIs_made W6 _ _ _
        refine op_make (i := 4) (v := .slice (some ⟨W6.heap.size, 0, none⟩) n n) (w' := W7) (x := .int .i64 (n : Int)) (y := .int .i64 (n : Int)) (some 17) 37 (.tmp 16) (.tmp 16) rfl rfl rfl rfl (by kernel_rfl) (by kernel_rfl) (by rw [hW7]; exact hmk _) ?_
        refine ⟨S7, ?_⟩
        refine held_take (i := 7) (v := .agg #[.int .i64 p, .slice (some ⟨W6.heap.size, 0, none⟩) n n, .slice (some ⟨wd.heap.size, 0, none⟩) t t]) (some 20) rfl rfl (by kernel_rfl) (by kernel_rfl) (by kernel_rfl) (fun _ _ _ h => h) (yieldsIf_run (by kernel_rfl) (fun W _ => by kernel_rfl)) S7 ?_
        refine held_one (i := 8) (by kernel_rfl) ?_
        · obtain ⟨W8, hW8⟩ : ∃ W', W' = W7.alloc (.cells #[.int .i64 0, .slice none 0 0, .slice none 0 0] 40) := ⟨_, rfl⟩
          have hb8 : Below W7.heap.size W7 W8 := by rw [hW8]; exact below_alloc1 _ _
          have hz8 : W8.heap.size = W7.heap.size + 1 := by rw [hW8]; simp
          have S8 : Below (wB.heap.size) wB W8 := S7.trans (hb8.mono (by omega))
          have hM8 := hM7.of_block (hb8.block _ hM7.lt)
          have hD8 := hD7.of_block (hb8.block _ hD7.lt)
          have hR8 : Rz W8 W7.heap.size 40 #[.int .i64 0, .slice none 0 0, .slice none 0 0] := by rw [hW8]; exact Rz.new _ _ _
          refine op_mem (i := 8) (v := .pointer (some ⟨W7.heap.size, 0, none⟩)) (w' := W8) (some 4) rfl rfl rfl (by rw [hW8]; go_simp) ?_
          refine ⟨S8, ?_⟩
          have S9 : Below (wB.heap.size) wB (W8.setRow (W7.heap.size) #[.int .i64 p, .slice (some ⟨W6.heap.size, 0, none⟩) n n, .slice (some ⟨wd.heap.size, 0, none⟩) t t]) := below_setRow S8 (by omega) _
          refine held_one (i := 9) (by kernel_rfl) ?_
          refine op_row (i := 9) rfl rfl rfl 40 (.tmp 4) (.tmp 20) rfl (W7.heap.size) #[.int .i64 p, .slice (some ⟨W6.heap.size, 0, none⟩) n n, .slice (some ⟨wd.heap.size, 0, none⟩) t t] (by kernel_rfl) (by kernel_rfl) 40 _ hR8 (infoCo _ _ _) (by kernel_rfl) (by kernel_rfl) ?_
          refine ⟨S9, ?_⟩
          refine wpAnyH_done (by kernel_rfl) ?_ _
          simp only [Act.put, List.setIfInBounds_toArray, List.set_cons_zero, List.set_cons_succ]
          obtain ⟨WF, hWF⟩ : ∃ WF, WF = (W8.setRow (W7.heap.size) #[.int .i64 p, .slice (some ⟨W6.heap.size, 0, none⟩) n n, .slice (some ⟨wd.heap.size, 0, none⟩) t t]) := ⟨_, rfl⟩
          have hbF : Below (wB.heap.size) wB WF := by rw [hWF]; exact S9
          have hRF : Rz WF (W7.heap.size) 40 #[.int .i64 p, .slice (some ⟨W6.heap.size, 0, none⟩) n n, .slice (some ⟨wd.heap.size, 0, none⟩) t t] := by rw [hWF]; exact hR8.set _
          have hDF : WF.rowIs (W6.heap.size) 2 n (fun _ => .int .i64 0) := by rw [hWF]; exact hD8.of_block (setRow_other _ _ _ _ (by omega))
          have hMF : WF.rowIs (wd.heap.size) 22 t (fun _ => .slice none 0 0) := by rw [hWF]; exact hM8.of_block (setRow_other _ _ _ _ (by omega))
          have hG : (wB.heap.size ≤ W7.heap.size ∧ wB.heap.size ≤ W6.heap.size ∧ wB.heap.size ≤ wd.heap.size) ∧ W7.heap.size ≠ W6.heap.size ∧ W7.heap.size ≠ wd.heap.size ∧ W6.heap.size ≠ wd.heap.size := by omega
          rw [← hWF]
          clear hWF S9
          go_wp2
          go_meet
          exact ⟨_, _, _, rfl, Lib.hid ⟨hbF, hG.1, hG.2, rowIs3 hRF, hDF, hMF⟩⟩
      · obtain ⟨W9, hW9⟩ : ∃ W', W' = W6.alloc (.cells #[.int .i64 0, .slice none 0 0, .slice none 0 0] 40) := ⟨_, rfl⟩
        have hb9 : Below W6.heap.size W6 W9 := by rw [hW9]; exact below_alloc1 _ _
        have hz9 : W9.heap.size = W6.heap.size + 1 := by rw [hW9]; simp
        have S9 : Below (wB.heap.size) wB W9 := S6.trans (hb9.mono (by omega))
        have hM9 := hM6.of_block (hb9.block _ hM6.lt)
        have hR9 : Rz W9 W6.heap.size 40 #[.int .i64 0, .slice none 0 0, .slice none 0 0] := by rw [hW9]; exact Rz.new _ _ _
        refine op_mem (i := 8) (v := .pointer (some ⟨W6.heap.size, 0, none⟩)) (w' := W9) (some 4) rfl rfl rfl (by rw [hW9]; go_simp) ?_
        refine ⟨S9, ?_⟩
        refine held_one (i := 4) (by kernel_rfl) ?_
        · obtain ⟨W10, hW10⟩ : ∃ W', W' = W9.alloc (.cells (madeCells #[.int .i64 0] n) 2) := ⟨_, rfl⟩
          have hb10 : Below W9.heap.size W9 W10 := by rw [hW10]; exact below_alloc1 _ _
          have hz10 : W10.heap.size = W9.heap.size + 1 := by rw [hW10]; simp
          have S10 : Below (wB.heap.size) wB W10 := S9.trans (hb10.mono (by omega))
          have hM10 := hM9.of_block (hb10.block _ hM9.lt)
          have hR10 := hR9.next hb10
          have hD10 : W10.rowIs W9.heap.size 2 n (fun _ => .int .i64 0) := by rw [hW10]; exact World.rowIs_made W9 _ _ _
          refine op_make (i := 4) (v := .slice (some ⟨W9.heap.size, 0, none⟩) n n) (w' := W10) (x := .int .i64 (n : Int)) (y := .int .i64 (n : Int)) (some 17) 37 (.tmp 16) (.tmp 16) rfl rfl rfl rfl (by kernel_rfl) (by kernel_rfl) (by rw [hW10]; exact hmk _) ?_
          refine ⟨S10, ?_⟩
          refine held_take (i := 7) (v := .agg #[.int .i64 p, .slice (some ⟨W9.heap.size, 0, none⟩) n n, .slice (some ⟨wd.heap.size, 0, none⟩) t t]) (some 20) rfl rfl (by kernel_rfl) (by kernel_rfl) (by kernel_rfl) (fun _ _ _ h => h) (yieldsIf_run (by kernel_rfl) (fun W _ => by kernel_rfl)) S10 ?_
          have S9 : Below (wB.heap.size) wB (W10.setRow (W6.heap.size) #[.int .i64 p, .slice (some ⟨W9.heap.size, 0, none⟩) n n, .slice (some ⟨wd.heap.size, 0, none⟩) t t]) := below_setRow S10 (by omega) _
          refine held_one (i := 9) (by kernel_rfl) ?_
          refine op_row (i := 9) rfl rfl rfl 40 (.tmp 4) (.tmp 20) rfl (W6.heap.size) #[.int .i64 p, .slice (some ⟨W9.heap.size, 0, none⟩) n n, .slice (some ⟨wd.heap.size, 0, none⟩) t t] (by kernel_rfl) (by kernel_rfl) 40 _ hR10 (infoCo _ _ _) (by kernel_rfl) (by kernel_rfl) ?_
          refine ⟨S9, ?_⟩
          refine wpAnyH_done (by kernel_rfl) ?_ _
          simp only [Act.put, List.setIfInBounds_toArray, List.set_cons_zero, List.set_cons_succ]
          obtain ⟨WF, hWF⟩ : ∃ WF, WF = (W10.setRow (W6.heap.size) #[.int .i64 p, .slice (some ⟨W9.heap.size, 0, none⟩) n n, .slice (some ⟨wd.heap.size, 0, none⟩) t t]) := ⟨_, rfl⟩
          have hbF : Below (wB.heap.size) wB WF := by rw [hWF]; exact S9
          have hRF : Rz WF (W6.heap.size) 40 #[.int .i64 p, .slice (some ⟨W9.heap.size, 0, none⟩) n n, .slice (some ⟨wd.heap.size, 0, none⟩) t t] := by rw [hWF]; exact hR10.set _
          have hDF : WF.rowIs (W9.heap.size) 2 n (fun _ => .int .i64 0) := by rw [hWF]; exact hD10.of_block (setRow_other _ _ _ _ (by omega))
          have hMF : WF.rowIs (wd.heap.size) 22 t (fun _ => .slice none 0 0) := by rw [hWF]; exact hM10.of_block (setRow_other _ _ _ _ (by omega))
          have hG : (wB.heap.size ≤ W6.heap.size ∧ wB.heap.size ≤ W9.heap.size ∧ wB.heap.size ≤ wd.heap.size) ∧ W6.heap.size ≠ W9.heap.size ∧ W6.heap.size ≠ wd.heap.size ∧ W9.heap.size ≠ wd.heap.size := by omega
          rw [← hWF]
          clear hWF S9
          go_wp2
          go_meet
          exact ⟨_, _, _, rfl, Lib.hid ⟨hbF, hG.1, hG.2, rowIs3 hRF, hDF, hMF⟩⟩
    · obtain ⟨W11, hW11⟩ : ∃ W', W' = wd.alloc (.cells #[.int .i64 0, .slice none 0 0, .slice none 0 0] 40) := ⟨_, rfl⟩
      have hb11 : Below wd.heap.size wd W11 := by rw [hW11]; exact below_alloc1 _ _
      have hz11 : W11.heap.size = wd.heap.size + 1 := by rw [hW11]; simp
      have S11 : Below (wB.heap.size) wB W11 := S0.trans (hb11.mono (by omega))
      have hR11 : Rz W11 wd.heap.size 40 #[.int .i64 0, .slice none 0 0, .slice none 0 0] := by rw [hW11]; exact Rz.new _ _ _
      refine op_mem (i := 8) (v := .pointer (some ⟨wd.heap.size, 0, none⟩)) (w' := W11) (some 4) rfl rfl rfl (by rw [hW11]; go_simp) ?_
      refine ⟨S11, ?_⟩
      refine held_two (i := 4) (j := 6) (by kernel_rfl) ?_ ?_
      · obtain ⟨W12, hW12⟩ : ∃ W', W' = W11.alloc (.cells (madeCells #[.int .i64 0] n) 2) := ⟨_, rfl⟩
        have hb12 : Below W11.heap.size W11 W12 := by rw [hW12]; exact below_alloc1 _ _
        have hz12 : W12.heap.size = W11.heap.size + 1 := by rw [hW12]; simp
        have S12 : Below (wB.heap.size) wB W12 := S11.trans (hb12.mono (by omega))
        have hR12 := hR11.next hb12
        have hD12 : W12.rowIs W11.heap.size 2 n (fun _ => .int .i64 0) := by rw [hW12]; exact World.rowIs_made W11 _ _ _
        refine op_make (i := 4) (v := .slice (some ⟨W11.heap.size, 0, none⟩) n n) (w' := W12) (x := .int .i64 (n : Int)) (y := .int .i64 (n : Int)) (some 17) 37 (.tmp 16) (.tmp 16) rfl rfl rfl rfl (by kernel_rfl) (by kernel_rfl) (by rw [hW12]; exact hmk _) ?_
        refine ⟨S12, ?_⟩
        refine held_one (i := 6) (by kernel_rfl) ?_
        · obtain ⟨W13, hW13⟩ : ∃ W', W' = W12.alloc (.cells (madeCells #[.slice none 0 0] t) 22) := ⟨_, rfl⟩
          have hb13 : Below W12.heap.size W12 W13 := by rw [hW13]; exact below_alloc1 _ _
          have hz13 : W13.heap.size = W12.heap.size + 1 := by rw [hW13]; simp
          have S13 : Below (wB.heap.size) wB W13 := S12.trans (hb13.mono (by omega))
          have hR13 := hR12.next hb13
          have hD13 := hD12.of_block (hb13.block _ hD12.lt)
          have hM13 : W13.rowIs W12.heap.size 22 t (fun _ => .slice none 0 0) := by rw [hW13]; exact World.rowIs_made W12 _ _ _
          refine op_make (i := 6) (v := .slice (some ⟨W12.heap.size, 0, none⟩) t t) (w' := W13) (x := .int .i64 (t : Int)) (y := .int .i64 (t : Int)) (some 19) 38 (.tmp 18) (.tmp 18) rfl rfl rfl rfl (by kernel_rfl) (by kernel_rfl) (by rw [hW13]; exact hmk2 _) ?_
          refine ⟨S13, ?_⟩
          refine held_take (i := 7) (v := .agg #[.int .i64 p, .slice (some ⟨W11.heap.size, 0, none⟩) n n, .slice (some ⟨W12.heap.size, 0, none⟩) t t]) (some 20) rfl rfl (by kernel_rfl) (by kernel_rfl) (by kernel_rfl) (fun _ _ _ h => h) (yieldsIf_run (by kernel_rfl) (fun W _ => by kernel_rfl)) S13 ?_
          have S9 : Below (wB.heap.size) wB (W13.setRow (wd.heap.size) #[.int .i64 p, .slice (some ⟨W11.heap.size, 0, none⟩) n n, .slice (some ⟨W12.heap.size, 0, none⟩) t t]) := below_setRow S13 (by omega) _
          refine held_one (i := 9) (by kernel_rfl) ?_
          refine op_row (i := 9) rfl rfl rfl 40 (.tmp 4) (.tmp 20) rfl (wd.heap.size) #[.int .i64 p, .slice (some ⟨W11.heap.size, 0, none⟩) n n, .slice (some ⟨W12.heap.size, 0, none⟩) t t] (by kernel_rfl) (by kernel_rfl) 40 _ hR13 (infoCo _ _ _) (by kernel_rfl) (by kernel_rfl) ?_
          refine ⟨S9, ?_⟩
          refine wpAnyH_done (by kernel_rfl) ?_ _
          simp only [Act.put, List.setIfInBounds_toArray, List.set_cons_zero, List.set_cons_succ]
          obtain ⟨WF, hWF⟩ : ∃ WF, WF = (W13.setRow (wd.heap.size) #[.int .i64 p, .slice (some ⟨W11.heap.size, 0, none⟩) n n, .slice (some ⟨W12.heap.size, 0, none⟩) t t]) := ⟨_, rfl⟩
          have hbF : Below (wB.heap.size) wB WF := by rw [hWF]; exact S9
          have hRF : Rz WF (wd.heap.size) 40 #[.int .i64 p, .slice (some ⟨W11.heap.size, 0, none⟩) n n, .slice (some ⟨W12.heap.size, 0, none⟩) t t] := by rw [hWF]; exact hR13.set _
          have hDF : WF.rowIs (W11.heap.size) 2 n (fun _ => .int .i64 0) := by rw [hWF]; exact hD13.of_block (setRow_other _ _ _ _ (by omega))
          have hMF : WF.rowIs (W12.heap.size) 22 t (fun _ => .slice none 0 0) := by rw [hWF]; exact hM13.of_block (setRow_other _ _ _ _ (by omega))
          have hG : (wB.heap.size ≤ wd.heap.size ∧ wB.heap.size ≤ W11.heap.size ∧ wB.heap.size ≤ W12.heap.size) ∧ wd.heap.size ≠ W11.heap.size ∧ wd.heap.size ≠ W12.heap.size ∧ W11.heap.size ≠ W12.heap.size := by omega
          rw [← hWF]
          clear hWF S9
          go_wp2
          go_meet
          exact ⟨_, _, _, rfl, Lib.hid ⟨hbF, hG.1, hG.2, rowIs3 hRF, hDF, hMF⟩⟩
      · obtain ⟨W14, hW14⟩ : ∃ W', W' = W11.alloc (.cells (madeCells #[.slice none 0 0] t) 22) := ⟨_, rfl⟩
        have hb14 : Below W11.heap.size W11 W14 := by rw [hW14]; exact below_alloc1 _ _
        have hz14 : W14.heap.size = W11.heap.size + 1 := by rw [hW14]; simp
        have S14 : Below (wB.heap.size) wB W14 := S11.trans (hb14.mono (by omega))
        have hR14 := hR11.next hb14
        have hM14 : W14.rowIs W11.heap.size 22 t (fun _ => .slice none 0 0) := by rw [hW14]; exact World.rowIs_made W11 _ _ _
        refine op_make (i := 6) (v := .slice (some ⟨W11.heap.size, 0, none⟩) t t) (w' := W14) (x := .int .i64 (t : Int)) (y := .int .i64 (t : Int)) (some 19) 38 (.tmp 18) (.tmp 18) rfl rfl rfl rfl (by kernel_rfl) (by kernel_rfl) (by rw [hW14]; exact hmk2 _) ?_
        refine ⟨S14, ?_⟩
        refine held_one (i := 4) (by kernel_rfl) ?_
        · obtain ⟨W15, hW15⟩ : ∃ W', W' = W14.alloc (.cells (madeCells #[.int .i64 0] n) 2) := ⟨_, rfl⟩
          have hb15 : Below W14.heap.size W14 W15 := by rw [hW15]; exact below_alloc1 _ _
          have hz15 : W15.heap.size = W14.heap.size + 1 := by rw [hW15]; simp
          have S15 : Below (wB.heap.size) wB W15 := S14.trans (hb15.mono (by omega))
          have hR15 := hR14.next hb15
          have hM15 := hM14.of_block (hb15.block _ hM14.lt)
          have hD15 : W15.rowIs W14.heap.size 2 n (fun _ => .int .i64 0) := by rw [hW15]; exact World.rowIs_made W14 _ _ _
          refine op_make (i := 4) (v := .slice (some ⟨W14.heap.size, 0, none⟩) n n) (w' := W15) (x := .int .i64 (n : Int)) (y := .int .i64 (n : Int)) (some 17) 37 (.tmp 16) (.tmp 16) rfl rfl rfl rfl (by kernel_rfl) (by kernel_rfl) (by rw [hW15]; exact hmk _) ?_
          refine ⟨S15, ?_⟩
          refine held_take (i := 7) (v := .agg #[.int .i64 p, .slice (some ⟨W14.heap.size, 0, none⟩) n n, .slice (some ⟨W11.heap.size, 0, none⟩) t t]) (some 20) rfl rfl (by kernel_rfl) (by kernel_rfl) (by kernel_rfl) (fun _ _ _ h => h) (yieldsIf_run (by kernel_rfl) (fun W _ => by kernel_rfl)) S15 ?_
          have S9 : Below (wB.heap.size) wB (W15.setRow (wd.heap.size) #[.int .i64 p, .slice (some ⟨W14.heap.size, 0, none⟩) n n, .slice (some ⟨W11.heap.size, 0, none⟩) t t]) := below_setRow S15 (by omega) _
          refine held_one (i := 9) (by kernel_rfl) ?_
          refine op_row (i := 9) rfl rfl rfl 40 (.tmp 4) (.tmp 20) rfl (wd.heap.size) #[.int .i64 p, .slice (some ⟨W14.heap.size, 0, none⟩) n n, .slice (some ⟨W11.heap.size, 0, none⟩) t t] (by kernel_rfl) (by kernel_rfl) 40 _ hR15 (infoCo _ _ _) (by kernel_rfl) (by kernel_rfl) ?_
          refine ⟨S9, ?_⟩
          refine wpAnyH_done (by kernel_rfl) ?_ _
          simp only [Act.put, List.setIfInBounds_toArray, List.set_cons_zero, List.set_cons_succ]
          obtain ⟨WF, hWF⟩ : ∃ WF, WF = (W15.setRow (wd.heap.size) #[.int .i64 p, .slice (some ⟨W14.heap.size, 0, none⟩) n n, .slice (some ⟨W11.heap.size, 0, none⟩) t t]) := ⟨_, rfl⟩
          have hbF : Below (wB.heap.size) wB WF := by rw [hWF]; exact S9
          have hRF : Rz WF (wd.heap.size) 40 #[.int .i64 p, .slice (some ⟨W14.heap.size, 0, none⟩) n n, .slice (some ⟨W11.heap.size, 0, none⟩) t t] := by rw [hWF]; exact hR15.set _
          have hDF : WF.rowIs (W14.heap.size) 2 n (fun _ => .int .i64 0) := by rw [hWF]; exact hD15.of_block (setRow_other _ _ _ _ (by omega))
          have hMF : WF.rowIs (W11.heap.size) 22 t (fun _ => .slice none 0 0) := by rw [hWF]; exact hM15.of_block (setRow_other _ _ _ _ (by omega))
          have hG : (wB.heap.size ≤ wd.heap.size ∧ wB.heap.size ≤ W14.heap.size ∧ wB.heap.size ≤ W11.heap.size) ∧ wd.heap.size ≠ W14.heap.size ∧ wd.heap.size ≠ W11.heap.size ∧ W14.heap.size ≠ W11.heap.size := by omega
          rw [← hWF]
          clear hWF S9
          go_wp2
          go_meet
          exact ⟨_, _, _, rfl, Lib.hid ⟨hbF, hG.1, hG.2, rowIs3 hRF, hDF, hMF⟩⟩
  case rest =>
    obtain ⟨g, bd, bm, rfl, HDU⟩ := hcut
    clear hmk hmk2
    obtain ⟨wx, hwx⟩ : ∃ wx : World, wx = wc := ⟨_, rfl⟩
    subst hwx
    have hnx := HNB.out wx HDU.out.below
    have c0 := hnx.1.c0
    have c1 := hnx.1.c1
    have c2 := hnx.1.c2
    have c3 := hnx.1.c3
    have hxl := hnx.1.lt
    clear hnx
    go_wp2_with fail
    refine (cellsOf_any p dv av vv _).mono ?_
    rintro e w2 ⟨rfl, rfl⟩
    dsimp only
    go_wp2
    clear c0 c1 c2 c3
    have hB0 : Below wx.heap.size wx (wx.alloc (.cells #[.int .i64 p, dv, av, vv] 28)) := (Below.refl _ _).alloc (Nat.le_refl _) _
    have hd0 : (wx.alloc (.cells #[.int .i64 p, dv, av, vv] 28)).cell? ⟨wx.heap.size, 1, none⟩ = some dv := new_c1 wx p dv av vv
    have hs0 : (wx.alloc (.cells #[.int .i64 p, dv, av, vv] 28)).heap.size = wx.heap.size + 1 := by simp
    obtain ⟨W0, hW0⟩ : ∃ W0, W0 = wx.alloc (.cells #[.int .i64 p, dv, av, vv] 28) := ⟨_, rfl⟩
    rw [← hW0] at hB0 hd0 hs0 ⊢
    clear hW0
    have hdb := HDU.out.below.size
    have hgl := HDU.out.box.lt
    have hbdl := HDU.out.dims.lt
    have hbml := HDU.out.maps.lt
    have hBw : Below w.heap.size w W0 := (HX1.out.below.trans (HBB.out.mono HX1.out.below.size)).trans ((HDU.out.below.trans (hB0.mono hdb)).mono (by have := HX1.out.below.size; omega))
    have hst := cells_stops Fence.wide 7 trivial rfl (by decide) wx.heap.size dv ds (by have := HM.out; omega) (fun r hr => by have := (HOK.out.col r hr).1; have := HOK.out.h1; omega) w W0 (by omega) hd0 HX.out.dims hBw
    have HD0 : Hid (Du wB W0 g bd bm n t p (fun s => .int .i64 ((tdl ds [] s : Nat) : Int)) (fun _ => .slice none 0 0)) := Lib.hid ((HDU.out.next hB0).congr (fun j _ => by simp [tdl]))
    have HS0 := Lib.hid hs0
    have HBW := Lib.hid hBw
    have hwb1 := HX1.out.below.size
    have hlo := HDU.out.lo
    have hne := HDU.out.ne
    have hsw : wx.heap.size < W0.heap.size := by omega
    clear HDU hB0 hd0 hs0 hBw
    refine (wpIn_wide (n := 8)).1 ?_
    refine wpIn_rangeFunc_cell rfl (by decide : 1 ≤ 8) (gf := 130) (lb := #[.pointer (some ⟨wx.heap.size, 0, none⟩)]) rfl trivial (enters_of Try.func130 (by kernel_rfl) rfl)
      hst belowK_t (belowK_b (by omega)) (Below.refl _ _) (fun _ => rfl)
      (fun pre W => Du wB W g bd bm n t p (fun s => .int .i64 ((tdl ds (pre.map (·.1)) s : Nat) : Int)) (fun _ => .slice none 0 0)) (fun _ _ _ => False)
      (du_own (fun (pre : List (CellIn ds)) => (fun s => .int .i64 ((tdl ds (pre.map (·.1)) s : Nat) : Int))) _ (by omega) (by omega) (by omega) (by omega)) (fun _ _ _ _ _ h _ _ => h)
      HD0.out (fun x => #[.int .i64 (x.1.1 : Int), .int .i64 (x.1.2 : Int)]) 5 83 wB.heap.size
      ?assign ?body ?done ?stop
    case assign =>
      rintro l pre x A K hI hKK
      simp only [cellV] at hKK ⊢
      have hsz := hI.below.size
      gi_wp2
      have hk := hKK A.heap.size _ hsz (World.alloc_heap_new A _) ((KeepsOthers.alloc _ _).from _) ((Below.refl _ A).alloc (by omega) _) (hI.next ((Below.refl _ _).alloc (Nat.le_refl _) _))
      simp at hk
      refine Eq.mp ?_ hk
      congr 1
      all_goals (try congr 1)
    case body =>
      rintro l pre x Bx A hl ⟨r, hr⟩ hI hBx hX hlt
      obtain ⟨⟨i, j⟩, hxm⟩ := x
      dsimp only at hX
      have hmf := mem_cells.1 hxm
      dsimp only at hmf
      have hcol : (ds.getD i []).length = q := by rw [getD_of_lt _ hmf.1, (HOK.out.col _ (List.getElem_mem hmf.1)).1]; exact HQ.out.symm
      have hmm : ds.length = m := HM.out.symm
      obtain ⟨s, hs⟩ : ∃ s, s = i + j := ⟨_, rfl⟩
      have hst : s < n := by have := HN.out; omega
      have hi4 : i ≤ 4 := by omega
      have hj4 : j ≤ 4 := by omega
      obtain ⟨d, hd⟩ : ∃ d, d = cdim ds (i, j) := ⟨_, rfl⟩
      have hcd := cdim_cast HOK.out hxm
      rw [← hd] at hcd
      have hd4 := hcd.2
      obtain ⟨z, hz⟩ : ∃ z, z = tdl ds (pre.map (·.1)) s := ⟨_, rfl⟩
      have hz64 : z ≤ 64 := by rw [hz]; have h1 := tdl_le HOK.out pre s; have h2 := cells_le HOK.out; omega
      have HIA := Lib.hid hI
      have hsz := hI.below.size
      have HNA : Hid (∀ X, Below A.heap.size A X → DBx w X w.heap.size p dv av vv ds ac dn) := Lib.hid (fun X hb => (HNB.out X (HIA.out.below.trans (hb.mono hsz))).1)
      have HG1 : Hid (∀ X, Below A.heap.size A X → X.cell? ⟨g, 1, none⟩ = some (.slice (some ⟨bd, 0, none⟩) n n)) := Lib.hid (fun X hb => later hb (Nat.le_refl _) (HIA.out.box.cell (i := 1) (by omega)))
      have HDZ : Hid (∀ X, Below A.heap.size A X → X.cell? ⟨bd, 0 + s, none⟩ = some (.int .i64 (z : Int))) := Lib.hid (fun X hb => by rw [Nat.zero_add, hz]; exact later hb (Nat.le_refl _) (HIA.out.dims.cell hst))
      have x0 : A.cell? ⟨Bx, 0, none⟩ = some (.int .i64 (i : Int)) := by simp [World.cell?, hX]
      have x1 : A.cell? ⟨Bx, 1, none⟩ = some (.int .i64 (j : Int)) := by simp [World.cell?, hX]
      have HX0 : Hid (∀ X, Below A.heap.size A X → X.cell? ⟨Bx, 0, none⟩ = some (.int .i64 (i : Int)) ∧ X.cell? ⟨Bx, 1, none⟩ = some (.int .i64 (j : Int))) := Lib.hid (fun X hb => ⟨later hb (Nat.le_refl _) x0, later hb (Nat.le_refl _) x1⟩)
      have HDC : Hid (∀ X, Below A.heap.size A X → Calls Try.prog 65 #[.agg #[.int .i64 p, dv, av, vv], .agg #[.int .i64 (i : Int), .int .i64 (j : Int)]] X fun e w' => e = .returned (.int .i64 (d : Int)) ∧ Below A.heap.size A w') := Lib.hid (fun X hb => by
        rw [hcd.1]
        exact (dimOfCell_any p i j _ _ _ ds X (HNA.out X hb).dx.dims ⟨by omega, fun r hr => by have := (HOK.out.col r hr).1; have := HOK.out.h1; show r.length ≤ _; omega⟩ (by omega) (by omega) (by omega) (fun _ => by simp only [Int.toNat_natCast]; exact Int.ofNat_lt.2 hmf.2)).mono fun _ _ hh => ⟨hh.1, hb.trans (hh.2.mono hb.size)⟩)
      have HFIN : Hid (∀ X, Below A.heap.size A X → KeepsFrom W0.heap.size A (X.setCell ⟨bd, 0 + s, none⟩ (.int .i64 ((z : Int) + (d : Int)))) ∧ Below w.heap.size A (X.setCell ⟨bd, 0 + s, none⟩ (.int .i64 ((z : Int) + (d : Int)))) ∧ Du wB (X.setCell ⟨bd, 0 + s, none⟩ (.int .i64 ((z : Int) + (d : Int)))) g bd bm n t p (fun s => .int .i64 ((tdl ds ((pre ++ ([⟨(i, j), hxm⟩] : List (CellIn ds))).map (·.1)) s : Nat) : Int)) (fun _ => .slice none 0 0)) := Lib.hid (fun X hb => by
        rw [Nat.zero_add]
        refine ⟨(keepsFrom_below hb).trans ((KeepsOthers.setCell _ _ _).from _), (hb.mono (by omega)).setCell (p := ⟨bd, s, none⟩) (by show _ ≤ bd; omega) _, ((HIA.out.next hb).setD s _).congr (fun a ha => ?_)⟩
        have e : (pre ++ ([⟨(i, j), hxm⟩] : List (CellIn ds))).map (·.1) = pre.map (·.1) ++ [(i, j)] := by rw [List.map_append]; rfl
        rw [e, tdl_snoc, ← hd]
        by_cases ea : a = s
        · subst ea; rw [if_pos rfl, if_pos (by simp [onD, hs]), hz]; simp
        · rw [if_neg ea, if_neg (by simp [onD]; omega), Nat.add_zero])
      have hwij : IntKind.i64.wrap ((i : Int) + (j : Int)) = (s : Int) := by rw [show (i : Int) + (j : Int) = (s : Int) by omega]; exact IntWalk.i64_in _ (by omega)
      clear hI hX hr x0 x1 hd hcd hz hs hmf hcol hmm hlt hBx
      gi_wp2_with fail
      refine wpIn_region_last (fun X => Below A.heap.size A X) 14 (by kernel_rfl) (by kernel_rfl) (fun ⟨_, _, h⟩ => h) rfl (by kernel_rfl) ?_
      have S0 : Below A.heap.size A A.drew := (Below.refl _ _).drew
      change wpAnyH _ _ _ _ _ _ _ _ A.drew
      generalize A.drew = wd at *
      refine held_take (i := 0) (v := .pointer (some ⟨g, 1, none⟩)) (some 24) rfl rfl (by kernel_rfl) (by kernel_rfl) (by kernel_rfl) (fun _ _ _ h => h) (yieldsIf_run (by kernel_rfl) (fun W _ => by kernel_rfl)) S0 ?_
      refine held_take (i := 1) (v := .slice (some ⟨bd, 0, none⟩) n n) (some 25) rfl rfl (by kernel_rfl) (by kernel_rfl) (by kernel_rfl) (fun _ _ _ h => h) (yieldsIf_cell (by kernel_rfl) rfl (by kernel_rfl) (fun W h => hloadD W (HG1.out W h))) S0 ?_
      refine held_take (i := 2) (v := .pointer (some ⟨Bx, 0, none⟩)) (some 26) rfl rfl (by kernel_rfl) (by kernel_rfl) (by kernel_rfl) (fun _ _ _ h => h) (yieldsIf_run (by kernel_rfl) (fun W _ => by kernel_rfl)) S0 ?_
      refine held_take (i := 3) (v := .int .i64 (i : Int)) (some 27) rfl rfl (by kernel_rfl) (by kernel_rfl) (by kernel_rfl) (fun _ _ _ h => h) (yieldsIf_cell (by kernel_rfl) rfl (by kernel_rfl) (fun W h => hloadIn W (HX0.out W h).1)) S0 ?_
      refine held_take (i := 4) (v := .pointer (some ⟨Bx, 1, none⟩)) (some 28) rfl rfl (by kernel_rfl) (by kernel_rfl) (by kernel_rfl) (fun _ _ _ h => h) (yieldsIf_run (by kernel_rfl) (fun W _ => by kernel_rfl)) S0 ?_
      refine held_take (i := 5) (v := .int .i64 (j : Int)) (some 29) rfl rfl (by kernel_rfl) (by kernel_rfl) (by kernel_rfl) (fun _ _ _ h => h) (yieldsIf_cell (by kernel_rfl) rfl (by kernel_rfl) (fun W h => hloadIn W (HX0.out W h).2)) S0 ?_
      refine held_take (i := 6) (v := .int .i64 (s : Int)) (some 30) rfl rfl (by kernel_rfl) (by kernel_rfl) (by kernel_rfl) (fun _ _ _ h => h) (yieldsIf_bin (by kernel_rfl) rfl (by kernel_rfl) (by kernel_rfl) (fun _ => rfl) (haddA hwij)) S0 ?_
      refine held_take (i := 7) (v := .pointer (some ⟨bd, 0 + s, none⟩)) (some 31) rfl rfl (by kernel_rfl) (by kernel_rfl) (by kernel_rfl) (fun _ _ _ h => h) (yieldsIf_index (by kernel_rfl) rfl (by kernel_rfl) (by kernel_rfl) (hidxI bd 0 n hst)) S0 ?_
      refine held_take (i := 8) (v := .int .i64 (z : Int)) (some 32) rfl rfl (by kernel_rfl) (by kernel_rfl) (by kernel_rfl) (fun _ _ _ h => h) (yieldsIf_cell (by kernel_rfl) rfl (by kernel_rfl) (fun W h => hloadIn W (HDZ.out W h))) S0 ?_
      refine held_take (i := 9) (v := .agg #[.int .i64 p, dv, av, vv]) (some 33) rfl rfl (by kernel_rfl) (by kernel_rfl) (by kernel_rfl) (fun _ _ _ h => h) (yieldsIf_cell (by kernel_rfl) rfl (by kernel_rfl) (fun W h => hloadDb W (HNA.out W h))) S0 ?_
      refine held_take (i := 10) (v := .agg #[.int .i64 (i : Int), .int .i64 (j : Int)]) (some 34) rfl rfl (by kernel_rfl) (by kernel_rfl) (by kernel_rfl) (fun _ _ _ h => h) (yieldsIf_cell (by kernel_rfl) rfl (by kernel_rfl) (fun W h => hloadCe W (HX0.out W h).1 (HX0.out W h).2)) S0 ?_
      refine held_enter (i := 11) (some 35) (f := 65) (args := #[.agg #[.int .i64 p, dv, av, vv], .agg #[.int .i64 (i : Int), .int .i64 (j : Int)]]) (by kernel_rfl) rfl rfl rfl (by kernel_rfl) (HDC.out _ S0) ?_ (fun c w' h => by cases h.1) (fun w' h => by cases h.1)
      rintro e3 W3 ⟨he3, S1⟩
      injection he3 with he3
      subst he3
      refine ⟨S1, ?_⟩
      refine held_take (i := 12) (v := .int .i64 ((z : Int) + (d : Int))) (some 36) rfl rfl (by kernel_rfl) (by kernel_rfl) (by kernel_rfl) (fun _ _ _ h => h) (yieldsIf_bin (by kernel_rfl) rfl (by kernel_rfl) (by kernel_rfl) (fun _ => rfl) (haddA (IntWalk.i64_in _ (by omega)))) S1 ?_
      refine held_take (i := 13) (v := .pointer (some ⟨bd, 0 + s, none⟩)) (some 37) rfl rfl (by kernel_rfl) (by kernel_rfl) (by kernel_rfl) (fun _ _ _ h => h) (yieldsIf_index (by kernel_rfl) rfl (by kernel_rfl) (by kernel_rfl) (hidxI bd 0 n hst)) S1 ?_
      refine held_none (i := 14) (v := .bool false) rfl rfl (by kernel_rfl) (by kernel_rfl) (by kernel_rfl) (fun _ _ _ h => h) (yieldsIf_move (by kernel_rfl) rfl (by kernel_rfl)) S1 ?_
      have hac := HDZ.out _ S1
      have hfz : W3.frozen? ⟨bd, 0 + s, none⟩ = false := (HIA.out.next S1).dims.frozen _
      have HFI := HFIN.out _ S1
      refine wpAnyH_done (by kernel_rfl) (lastQ_storeJ rfl (by kernel_rfl) (by kernel_rfl) (.tmp 37) (.tmp 36) (by kernel_rfl) bd (0 + s) ((z : Int) + (d : Int)) _ (by kernel_rfl) (by kernel_rfl) hac hfz ?_) _
      exact HFI
    case done =>
      rintro D zs A hD hS hI hKD
      have HDU2 : Hid (Du wB A g bd bm n t p (fun j => .int .i64 ((tdim ds j : Nat) : Int)) (fun _ => .slice none 0 0)) := Lib.hid (hI.congr (fun j _ => by rw [hS]; rfl))
      have HKD := Lib.hid hKD
      have hDl : D < A.heap.size := (Array.getElem?_eq_some_iff.1 hKD).1
      have hDg : D ≠ g := by omega
      have hDd : D ≠ bd := by omega
      have hDm : D ≠ bm := by omega
      have HBO := Lib.hid HDU2.out.below
      have HBX := Lib.hid HDU2.out.box
      have HBD := Lib.hid HDU2.out.dims
      have hml := HDU2.out.maps.lt
      have HF0 : Hid (Fill3 A bm t 0 (fun _ => .slice none 0 0) (fun _ => A.heap.size) (tM ds ac dn)) := Lib.hid ⟨HDU2.out.maps, hml, fun _ h => absurd h (Nat.not_lt_zero _), Nat.le_refl _, fun _ _ h => absurd h (Nat.not_lt_zero _)⟩
      have hso := HBO.out.size
      clear hI hS hKD HDU2
      go_wp2
      go_loopw [6, 39] (fun _ i wr => ∃ (k : Nat) (f : Nat → Value) (b : Nat → Nat), k ≤ t ∧ i = .int .i64 (k : Int) ∧ Hid (Below wB.heap.size wB wr) ∧ Hid (wr.rowIs g 40 3 (box3 p (.slice (some ⟨bd, 0, none⟩) n n) (.slice (some ⟨bm, 0, none⟩) t t))) ∧ Hid (wr.rowIs bd 2 n (fun j => .int .i64 ((tdim ds j : Nat) : Int))) ∧ Hid (Fill3 wr bm t k f b (tM ds ac dn)) ∧ Hid (A.heap.size ≤ wr.heap.size ∧ A.heap.size ≤ b 0) ∧ Hid (wr.heap[D]? = some (.deferred (some [])))) (fun _ i _ => t - (intOf i).toNat)
      case atStart => exact ⟨0, _, _, Nat.zero_le _, rfl, HBO, HBX, HBD, HF0, Lib.hid ⟨Nat.le_refl _, Nat.le_refl _⟩, HKD⟩
      case round =>
        clear HBO HBX HBD HF0 HKD
        obtain ⟨k, f, b, hk, rfl, HB, HBX, HBD, HF, HLE, HKD⟩ := hrel
        obtain ⟨wy, hwy⟩ : ∃ wy : World, wy = wr := ⟨_, rfl⟩
        subst hwy
        by_cases hlk : k < t
        · have hkt : (k : Int) < (t : Int) := by omega
          have htk : k < ttop ds := by rw [← HTT.out]; exact hlk
          obtain ⟨r, hr⟩ : ∃ r, r = tdim ds (k + 1) := ⟨_, rfl⟩
          obtain ⟨c, hc⟩ : ∃ c, c = tdim ds k := ⟨_, rfl⟩
          have hr64 : r ≤ 64 := by rw [hr]; exact tdim_le HOK.out _
          have hc64 : c ≤ 64 := by rw [hc]; exact tdim_le HOK.out _
          have HTA := Lib.hid (ttab_ok HP.out HOK.out HT.out k)
          have HNY : Hid (∀ X, Below wy.heap.size wy X → DBx w X w.heap.size p dv av vv ds ac dn) := Lib.hid (fun X hb => (HNB.out X (HB.out.trans (hb.mono HB.out.size))).1)
          have HG2 : Hid (∀ X, Below wy.heap.size wy X → X.cell? ⟨g, 1, none⟩ = some (.slice (some ⟨bd, 0, none⟩) n n) ∧ X.cell? ⟨g, 2, none⟩ = some (.slice (some ⟨bm, 0, none⟩) t t)) := Lib.hid (fun X hb => ⟨later hb (Nat.le_refl _) (HBX.out.cell (i := 1) (by omega)), later hb (Nat.le_refl _) (HBX.out.cell (i := 2) (by omega))⟩)
          have HD1 : Hid (∀ X, Below wy.heap.size wy X → X.cell? ⟨bd, 0 + (k + 1), none⟩ = some (.int .i64 (r : Int)) ∧ X.cell? ⟨bd, 0 + k, none⟩ = some (.int .i64 (c : Int))) := Lib.hid (fun X hb => by
            rw [Nat.zero_add, Nat.zero_add, hr, hc]
            exact ⟨later hb (Nat.le_refl _) (HBD.out.cell (by have := HN.out; omega)), later hb (Nat.le_refl _) (HBD.out.cell (by have := HN.out; omega))⟩)
          have HNUM : Hid (∀ X, Below wy.heap.size wy X → Calls Try.prog 129 #[.agg #[.int .i64 p, dv, av, vv], .int .i64 ((k + 1 : Nat) : Int)] X fun e w' => ∃ v, e = .returned v ∧ Gb X.heap.size w' v (ttab ds ac dn k).flatten ∧ Below X.heap.size X w') := Lib.hid (fun X hb => by rw [ttab_flat]; exact totalNumbers_any p HP.out dv av vv ds ac dn k (by omega) X (HNY.out X hb).dx HOK.out HT.out)
          have hw1k : IntKind.i64.wrap ((k : Int) + 1) = ((k + 1 : Nat) : Int) := by rw [show (k : Int) + 1 = ((k + 1 : Nat) : Int) by omega]; exact IntWalk.i64_in _ (by omega)
          have hk1n : k + 1 < n := by have := HN.out; omega
          have hk0n : k < n := by omega
          have hlen : (ttab ds ac dn k).length = r := by have := HTA.out.1; omega
          have hcolm : ∀ x ∈ ttab ds ac dn k, x.length = c := fun x hx => by have := (HTA.out.2 x hx).1; omega
          have HLEN := Lib.hid hlen
          have HCOL := Lib.hid hcolm
          clear hr hc hlen hcolm
          go_upto_region 9 with fail
          refine wp_region_last (fun W => Below wy.heap.size wy W) 20 (by kernel_rfl) rfl (by kernel_rfl) ?_
          have S0 : Below wy.heap.size wy wy.drew := (Below.refl _ _).drew
          change wpAnyH _ _ _ _ _ _ _ _ wy.drew
          obtain ⟨wd, hwd⟩ : ∃ wd, wd = wy.drew := ⟨_, rfl⟩
          rw [← hwd] at S0 ⊢
          clear hwd
          refine held_take (i := 0) (v := .pointer (some ⟨g, 2, none⟩)) (some 42) rfl rfl (by kernel_rfl) (by kernel_rfl) (by kernel_rfl) (fun _ _ _ h => h) (yieldsIf_run (by kernel_rfl) (fun W _ => by kernel_rfl)) S0 ?_
          refine held_take (i := 1) (v := .slice (some ⟨bm, 0, none⟩) t t) (some 43) rfl rfl (by kernel_rfl) (by kernel_rfl) (by kernel_rfl) (fun _ _ _ h => h) (yieldsIf_cell (by kernel_rfl) rfl (by kernel_rfl) (fun W h => hloadM W (HG2.out W h).2)) S0 ?_
          refine held_take (i := 2) (v := .int .i64 (k : Int)) (some 44) rfl rfl (by kernel_rfl) (by kernel_rfl) (by kernel_rfl) (fun _ _ _ h => h) (yieldsIf_move (by kernel_rfl) rfl (by kernel_rfl)) S0 ?_
          refine held_take (i := 3) (v := .agg #[.int .i64 p, dv, av, vv]) (some 45) rfl rfl (by kernel_rfl) (by kernel_rfl) (by kernel_rfl) (fun _ _ _ h => h) (yieldsIf_cell (by kernel_rfl) rfl (by kernel_rfl) (fun W h => hloadDb W (HNY.out W h))) S0 ?_
          refine held_take (i := 4) (v := .int .i64 (k : Int)) (some 46) rfl rfl (by kernel_rfl) (by kernel_rfl) (by kernel_rfl) (fun _ _ _ h => h) (yieldsIf_move (by kernel_rfl) rfl (by kernel_rfl)) S0 ?_
          refine held_take (i := 5) (v := .int .i64 ((k + 1 : Nat) : Int)) (some 47) rfl rfl (by kernel_rfl) (by kernel_rfl) (by kernel_rfl) (fun _ _ _ h => h) (yieldsIf_bin (by kernel_rfl) rfl (by kernel_rfl) (by kernel_rfl) (fun _ => rfl) (haddA hw1k)) S0 ?_
          refine held_take (i := 7) (v := .pointer (some ⟨g, 1, none⟩)) (some 49) rfl rfl (by kernel_rfl) (by kernel_rfl) (by kernel_rfl) (fun _ _ _ h => h) (yieldsIf_run (by kernel_rfl) (fun W _ => by kernel_rfl)) S0 ?_
          refine held_take (i := 8) (v := .slice (some ⟨bd, 0, none⟩) n n) (some 50) rfl rfl (by kernel_rfl) (by kernel_rfl) (by kernel_rfl) (fun _ _ _ h => h) (yieldsIf_cell (by kernel_rfl) rfl (by kernel_rfl) (fun W h => hloadD W (HG2.out W h).1)) S0 ?_
          refine held_take (i := 9) (v := .int .i64 (k : Int)) (some 51) rfl rfl (by kernel_rfl) (by kernel_rfl) (by kernel_rfl) (fun _ _ _ h => h) (yieldsIf_move (by kernel_rfl) rfl (by kernel_rfl)) S0 ?_
          refine held_take (i := 10) (v := .int .i64 ((k + 1 : Nat) : Int)) (some 52) rfl rfl (by kernel_rfl) (by kernel_rfl) (by kernel_rfl) (fun _ _ _ h => h) (yieldsIf_bin (by kernel_rfl) rfl (by kernel_rfl) (by kernel_rfl) (fun _ => rfl) (haddA hw1k)) S0 ?_
          refine held_take (i := 11) (v := .pointer (some ⟨bd, 0 + (k + 1), none⟩)) (some 53) rfl rfl (by kernel_rfl) (by kernel_rfl) (by kernel_rfl) (fun _ _ _ h => h) (yieldsIf_index (by kernel_rfl) rfl (by kernel_rfl) (by kernel_rfl) (hidxI bd 0 n hk1n)) S0 ?_
          refine held_take (i := 12) (v := .int .i64 (r : Int)) (some 54) rfl rfl (by kernel_rfl) (by kernel_rfl) (by kernel_rfl) (fun _ _ _ h => h) (yieldsIf_cell (by kernel_rfl) rfl (by kernel_rfl) (fun W h => hloadIn W (HD1.out W h).1)) S0 ?_
          refine held_take (i := 13) (v := .pointer (some ⟨g, 1, none⟩)) (some 55) rfl rfl (by kernel_rfl) (by kernel_rfl) (by kernel_rfl) (fun _ _ _ h => h) (yieldsIf_run (by kernel_rfl) (fun W _ => by kernel_rfl)) S0 ?_
          refine held_take (i := 14) (v := .slice (some ⟨bd, 0, none⟩) n n) (some 56) rfl rfl (by kernel_rfl) (by kernel_rfl) (by kernel_rfl) (fun _ _ _ h => h) (yieldsIf_cell (by kernel_rfl) rfl (by kernel_rfl) (fun W h => hloadD W (HG2.out W h).1)) S0 ?_
          refine held_take (i := 15) (v := .int .i64 (k : Int)) (some 57) rfl rfl (by kernel_rfl) (by kernel_rfl) (by kernel_rfl) (fun _ _ _ h => h) (yieldsIf_move (by kernel_rfl) rfl (by kernel_rfl)) S0 ?_
          refine held_take (i := 16) (v := .pointer (some ⟨bd, 0 + k, none⟩)) (some 58) rfl rfl (by kernel_rfl) (by kernel_rfl) (by kernel_rfl) (fun _ _ _ h => h) (yieldsIf_index (by kernel_rfl) rfl (by kernel_rfl) (by kernel_rfl) (hidxI bd 0 n hk0n)) S0 ?_
          refine held_take (i := 17) (v := .int .i64 (c : Int)) (some 59) rfl rfl (by kernel_rfl) (by kernel_rfl) (by kernel_rfl) (fun _ _ _ h => h) (yieldsIf_cell (by kernel_rfl) rfl (by kernel_rfl) (fun W h => hloadIn W (HD1.out W h).2)) S0 ?_
          refine held_enter (i := 6) (some 48) (f := 129) (args := #[.agg #[.int .i64 p, dv, av, vv], .int .i64 ((k + 1 : Nat) : Int)]) (by kernel_rfl) rfl rfl rfl (by kernel_rfl) (HNUM.out _ S0) ?_ (fun c w' h => by obtain ⟨_, h, _⟩ := h; cases h) (fun w' h => by obtain ⟨_, h, _⟩ := h; cases h)
          rintro e4 W4 ⟨u4, he4, hg4, hb4⟩
          injection he4 with he4
          subst he4
          have S1 : Below wy.heap.size wy W4 := S0.trans (hb4.mono S0.size)
          refine ⟨S1, ?_⟩
          obtain ⟨a4, c4, hv4⟩ := Sl.shape hg4.l1
          obtain ⟨m4, hm4⟩ : ∃ m4, m4 = (ttab ds ac dn k).flatten.length := ⟨_, rfl⟩
          rw [← hm4] at hv4
          subst hv4
          have hmrc : m4 = r * c := by rw [hm4, flat_len HCOL.out, HLEN.out]
          have hcap : m4 ≤ c4 := by
            rcases hg4.2 with ⟨hx, _⟩ | ⟨_, _, _, hx, _, _, h1, _⟩
            · injection hx with _ h2 h3; omega
            · injection hx with _ h2 h3; omega
          have HCU : Hid (Calls Try.prog 128 #[.slice a4 m4 c4, .int .i64 (r : Int), .int .i64 (c : Int)] W4 fun e w' => e = .returned (.slice (some ⟨W4.heap.size, 0, none⟩) r r) ∧ CuTo W4 w' a4 c r r) := Lib.hid (cutRows_at a4 m4 c4 r c W4 (by omega) (by omega) hmrc hcap)
          refine held_enter (i := 18) (some 60) (f := 128) (args := #[.slice a4 m4 c4, .int .i64 (r : Int), .int .i64 (c : Int)]) (by kernel_rfl) rfl rfl rfl (by kernel_rfl) (HCU.out) ?_ (fun c w' h => by cases h.1) (fun w' h => by cases h.1)
          rintro e5 W5 ⟨he5, hcu⟩
          injection he5 with he5
          subst he5
          have hb5 : Below wd.heap.size wd W5 := hb4.trans (hcu.below.mono hb4.size)
          have S2 : Below wy.heap.size wy W5 := S0.trans (hb5.mono S0.size)
          refine ⟨S2, ?_⟩
          refine held_take (i := 19) (v := .pointer (some ⟨bm, 0 + k, none⟩)) (some 61) rfl rfl (by kernel_rfl) (by kernel_rfl) (by kernel_rfl) (fun _ _ _ h => h) (yieldsIf_index (by kernel_rfl) rfl (by kernel_rfl) (by kernel_rfl) (hidx3 bm 0 t hlk)) S2 ?_
          have hrw := hcu.rw2 (lo := wd.heap.size) (by omega) (by omega) hg4 (by rw [flat_len HCOL.out, HLEN.out]) hb4.size
          rw [show cutL (ttab ds ac dn k).flatten r c = ttab ds ac dn k by rw [← HLEN.out]; exact cut_flat HCOL.out] at hrw
          have HFP := Lib.hid (HF.out.below S0)
          have hst := HFP.out.step hb5 (show k < (tM ds ac dn).length by rw [tM_len]; exact htk) (by simp only [tM, List.getElem_map, List.getElem_range]; exact hrw)
          have hr4 := HFP.out.row.of_block (hb5.block _ HFP.out.row.lt)
          have q1 : W5.cell? ⟨bm, 0 + k, none⟩ = some (f k) := by rw [Nat.zero_add]; exact hr4.cell hlk
          have q2 : W5.frozen? ⟨bm, 0 + k, none⟩ = false := hr4.frozen _
          have HBN : Hid (Below wB.heap.size wB (W5.setCell ⟨bm, k, none⟩ (.slice (some ⟨W4.heap.size, 0, none⟩) r r))) := Lib.hid ((HB.out.trans (S2.mono HB.out.size)).setCell (p := ⟨bm, k, none⟩) (by show wB.heap.size ≤ bm; exact hlo.2.2) _)
          have HXN : Hid ((W5.setCell ⟨bm, k, none⟩ (.slice (some ⟨W4.heap.size, 0, none⟩) r r)).rowIs g 40 3 (box3 p (.slice (some ⟨bd, 0, none⟩) n n) (.slice (some ⟨bm, 0, none⟩) t t))) := Lib.hid ((HBX.out.of_block (S2.block _ HBX.out.lt)).setOther hne.2.1 _)
          have HDN : Hid ((W5.setCell ⟨bm, k, none⟩ (.slice (some ⟨W4.heap.size, 0, none⟩) r r)).rowIs bd 2 n (fun j => .int .i64 ((tdim ds j : Nat) : Int))) := Lib.hid ((HBD.out.of_block (S2.block _ HBD.out.lt)).setOther hne.2.2 _)
          have HKN : Hid ((W5.setCell ⟨bm, k, none⟩ (.slice (some ⟨W4.heap.size, 0, none⟩) r r)).heap[D]? = some (.deferred (some []))) := Lib.hid ((Below.heap_setCell W5 ⟨bm, k, none⟩ _ D (by show D ≠ bm; exact hDm)).trans ((S2.block D (by have := HLE.out.1; omega)).trans HKD.out))
          have hleP : wy.heap.size ≤ wd.heap.size := S0.size
          have hleQ : wy.heap.size ≤ W5.heap.size := S2.size
          have HLN : Hid (A.heap.size ≤ (W5.setCell ⟨bm, k, none⟩ (.slice (some ⟨W4.heap.size, 0, none⟩) r r)).heap.size ∧ A.heap.size ≤ (fun q => if q < k then b q else if q = k then wd.heap.size else W5.heap.size) 0) := Lib.hid (by
            have h0 := HLE.out
            refine ⟨by simp; omega, ?_⟩
            by_cases e : 0 < k
            · simp only [if_pos e]; exact h0.2
            · simp only [if_neg e, if_pos (show 0 = k by omega)]; omega)
          have HST := Lib.hid hst
          refine held_none (i := 20) (v := .bool false) rfl rfl (by kernel_rfl) (by kernel_rfl) (by kernel_rfl) (fun _ _ _ h => h) (yieldsIf_move (by kernel_rfl) rfl (by kernel_rfl)) S2 ?_
          refine wpAnyH_done (by kernel_rfl) (lastQ_of rfl (by kernel_rfl) ?_) _
          simp only [Act.put, List.setIfInBounds_toArray, List.set_cons_zero, List.set_cons_succ]
          rw [Nat.zero_add] at q1 q2
          go_simp
          obtain ⟨wn, hwn'⟩ : ∃ wn, wn = (W5.setCell ⟨bm, k, none⟩ (.slice (some ⟨W4.heap.size, 0, none⟩) r r)) := ⟨_, rfl⟩
          rw [← hwn'] at HST HBN HXN HDN HLN HKN ⊢
          clear hwn' q1 q2 hr4 hst hrw HFP hb4 hb5 hcu hg4 S0 S1 S2 HNUM HCU HB HBX HBD HF hm4 hmrc hcap hw1k
          go_wp2
          go_roundw
          case rel => exact ⟨k + 1, _, _, by omega, by go_num, HBN, HXN, HDN, HST, HLN, HKN⟩
          case measure => simp [intOf]; omega
        · have hkt : ¬ (k : Int) < (t : Int) := by omega
          have HF3 : Hid (Fill3 wy bm t t f b (tM ds ac dn)) := Lib.hid (by have h0 := HF.out; rwa [show k = t by omega] at h0)
          have x0' : wy.cell? ⟨g, 0, none⟩ = some (.int .i64 p) := HBX.out.cell (i := 0) (by omega)
          have x1' : wy.cell? ⟨g, 1, none⟩ = some (.slice (some ⟨bd, 0, none⟩) n n) := HBX.out.cell (i := 1) (by omega)
          have x2' : wy.cell? ⟨g, 2, none⟩ = some (.slice (some ⟨bm, 0, none⟩) t t) := HBX.out.cell (i := 2) (by omega)
          have HNF := Lib.hid (HNB.out _ HB.out)
          clear HF
          have HR1 : ∃ x0 x1 x2, wy.heap[w.heap.size + 1]? = some (.cells #[x0, x1, x2] 40) := ⟨_, _, _, HNF.out.2⟩
          obtain ⟨x0, x1, x2, hr⟩ := HR1
          have r0 : wy.rowIs (w.heap.size + 1) 40 3 (sel3 x0 x1 x2) := rowIs3 hr
          have q0 : wy.cell? ⟨w.heap.size + 1, 0, none⟩ = some x0 := r0.cell (i := 0) (by omega)
          have z0 : wy.frozen? ⟨w.heap.size + 1, 0, none⟩ = false := r0.frozen 0
          have r1 := r0.set 0 (.int .i64 p)
          have q1 : (wy.setCell ⟨w.heap.size + 1, 0, none⟩ (.int .i64 p)).cell? ⟨w.heap.size + 1, 1, none⟩ = some x1 := r1.cell (i := 1) (by omega)
          have z1 : (wy.setCell ⟨w.heap.size + 1, 0, none⟩ (.int .i64 p)).frozen? ⟨w.heap.size + 1, 1, none⟩ = false := r1.frozen 1
          have r2 := r1.set 1 (.slice (some ⟨bd, 0, none⟩) n n)
          have q2 : ((wy.setCell ⟨w.heap.size + 1, 0, none⟩ (.int .i64 p)).setCell ⟨w.heap.size + 1, 1, none⟩ (.slice (some ⟨bd, 0, none⟩) n n)).cell? ⟨w.heap.size + 1, 2, none⟩ = some x2 := r2.cell (i := 2) (by omega)
          have z2 : ((wy.setCell ⟨w.heap.size + 1, 0, none⟩ (.int .i64 p)).setCell ⟨w.heap.size + 1, 1, none⟩ (.slice (some ⟨bd, 0, none⟩) n n)).frozen? ⟨w.heap.size + 1, 2, none⟩ = false := r2.frozen 2
          have r3 := r2.set 2 (.slice (some ⟨bm, 0, none⟩) t t)
          obtain ⟨WF, hWF⟩ : ∃ W : World, W = (((wy.setCell ⟨w.heap.size + 1, 0, none⟩ (.int .i64 p)).setCell ⟨w.heap.size + 1, 1, none⟩ (.slice (some ⟨bd, 0, none⟩) n n)).setCell ⟨w.heap.size + 1, 2, none⟩ (.slice (some ⟨bm, 0, none⟩) t t)) := ⟨_, rfl⟩
          have hbWF : ∀ B (w0 : World), B ≤ w.heap.size + 1 → Below B w0 wy → Below B w0 WF := fun B w0 hl hb => by rw [hWF]; exact (((hb.setCell (by show B ≤ w.heap.size + 1; exact hl) _).setCell (by show B ≤ w.heap.size + 1; exact hl) _).setCell (by show B ≤ w.heap.size + 1; exact hl) _)
          have hsWF : ∀ lo hi, w.heap.size + 1 < lo ∨ hi ≤ w.heap.size + 1 → Same lo hi wy WF := fun lo hi hl => by rw [hWF]; exact (((Same.set _ hl).trans (Same.set _ hl)).trans (Same.set _ hl))
          have hzWF : WF.heap.size = wy.heap.size := by rw [hWF]; simp
          rw [← hWF] at r3
          have f0 : WF.cell? ⟨w.heap.size + 1, 0, none⟩ = some (.int .i64 p) := r3.cell (i := 0) (by omega)
          have f1 : WF.cell? ⟨w.heap.size + 1, 1, none⟩ = some (.slice (some ⟨bd, 0, none⟩) n n) := r3.cell (i := 1) (by omega)
          have f2 : WF.cell? ⟨w.heap.size + 1, 2, none⟩ = some (.slice (some ⟨bm, 0, none⟩) t t) := r3.cell (i := 2) (by omega)
          have HWWF := Lib.hid hWF
          clear hr r0 r1 r2 r3 hWF
          have hkF : WF.heap[D]? = some (.deferred (some [])) := (hsWF D (D + 1) (by omega) D (Nat.le_refl _) (Nat.lt_succ_self _)).trans HKD.out
          have hbF : ∀ i, i ≠ w.heap.size + 1 → WF.heap[i]? = wy.heap[i]? := fun i hi => hsWF i (i + 1) (by omega) i (Nat.le_refl _) (Nat.lt_succ_self _)
          have HKF := Lib.hid hkF
          have hple : w.heap.size + 1 < wB.heap.size := by omega
          have hD0 : D < b 0 := by have := HLE.out.2; omega
          have HFF : Hid (Fill3 (WF.putObj D (.deferred none)) bm t t f b (tM ds ac dn)) := Lib.hid (by
            refine fill3_put ⟨HF3.out.row.of_block (hbF bm (by omega)), HF3.out.lo, HF3.out.inc, by rw [hzWF]; exact HF3.out.hi, fun a ha hk => (HF3.out.at' a ha hk).same (hsWF _ _ (.inl ?_))⟩ hD0 hDm _
            have hi0 : ∀ e, e ≤ t → b 0 ≤ b e := by
              intro e
              induction e with
              | zero => intro _; exact Nat.le_refl _
              | succ e ih => intro he; exact Nat.le_trans (ih (by omega)) (HF3.out.inc e (by omega))
            have := hi0 a (by omega)
            omega)
          have hpo : ∀ i, i ≠ D → (WF.putObj D (.deferred none)).heap[i]? = WF.heap[i]? := fun i hi => World.putObj_heap_other (by omega)
          have HDF : Hid ((WF.putObj D (.deferred none)).rowIs bd 2 n (fun j => .int .i64 ((tD ds).getD j 0))) := Lib.hid ((((HBD.out.of_block (hbF bd (by omega))).of_block (hpo bd (by omega)))).congr (fun j hj => by rw [tD_at (by rw [← HTT.out]; have := HN.out; omega)]))
          have HRC := Lib.hid (gen_rc (lo := w.heap.size) (by rw [tM_len]; exact HTT.out) (by rw [tD_len, ← HTT.out]; exact HN.out) (by omega) (by omega) HDF.out HFF.out (by have := hlo.2.1; omega) (by have := hlo.2.2; omega) (by have := HLE.out.2; omega))
          have HBF : Hid (Below w.heap.size w WF) := Lib.hid (hbWF w.heap.size w (by omega) ((HX1.out.below.trans (HBB.out.mono hwb1)).trans (HB.out.mono (by omega))))
          have hcp : ∀ o, (WF.putObj D (.deferred none)).cell? ⟨w.heap.size + 1, o, none⟩ = WF.cell? ⟨w.heap.size + 1, o, none⟩ := fun o => World.cell?_of_block (hpo (w.heap.size + 1) (by omega))
          have g0 := (hcp 0).trans f0
          have g1 := (hcp 1).trans f1
          have g2 := (hcp 2).trans f2
          have HG0 := Lib.hid g0
          have HG1 := Lib.hid g1
          have HG2 := Lib.hid g2
          have HTL : Hid (n = (tD ds).length ∧ t = (tM ds ac dn).length) := Lib.hid ⟨by rw [tD_len, ← HTT.out]; exact HN.out, by rw [tM_len]; exact HTT.out⟩
          clear hbF hkF hpo hcp g0 g1 g2 HF3 HBX HBD
          go_wp2
          rw [← HWWF.out]
          refine ⟨by simp, .inl ⟨_, _, rfl, run_takeDeferred HKF.out, ?_⟩⟩
          refine ⟨_, results_cx HRES.out _ (w.heap.size + 1) _ _ _ _ rfl HG0.out HG1.out HG2.out, _, rfl, ⟨some ⟨bd, 0, none⟩, n, some ⟨bm, 0, none⟩, t, by simp only [← HTL.out.1, ← HTL.out.2], by simp only [← HTL.out.1, ← HTL.out.2]; exact HRC.out⟩, HBF.out.trans (belowK_b (w := w) (Nat.le_refl _) _ D _ _ (by omega) HKF.out rfl rfl)⟩
    case stop =>
      rintro D c pre A hD _ hf hKD
      exact hf.elim
end Go.Proofs.Ytbadjfnelpfhcaa


namespace Go.Proofs.Ytbadjfnelpfhcaa
open Go.RowKit

/-- The sizes of what is told as a complex. -/
structure SzBk (ds : List Int) (ms : List (List (List Int))) : Prop where
  len0 : 1 ≤ ds.length
  len1 : ds.length ≤ 7
  mlen : ms.length + 1 = ds.length
  dims : ∀ d ∈ ds, 0 ≤ d ∧ d ≤ 32
  tabs : ∀ k, k < ms.length → ((ms.getD k []).length : Int) = ds.getD (k + 1) 0 ∧ ∀ x ∈ ms.getD k [], (x.length : Int) = ds.getD k 0
theorem SzBk.dim {ds : List Int} {ms : List (List (List Int))} (h : SzBk ds ms) (k : Nat) : 0 ≤ ds.getD k 0 ∧ ds.getD k 0 ≤ 32 := by
  by_cases hk : k < ds.length
  · rw [getD_of_lt _ hk]; exact h.dims _ (List.getElem_mem _)
  · simp [List.getD, show ds.length ≤ k by omega]
def SqB (ap : Nat → List Int → List (List Int) → List Int) (ds : List Int) (ms : List (List (List Int))) : Prop :=
  ∀ q, q + 1 < ms.length → ∀ r ∈ ms.getD (q + 1) [], ∀ x ∈ ap (ds.getD q 0).toNat r (ms.getD q []), x = 0
/-- A list in new memory. -/
def LRb (l : List Int) (w : World) (e : Ending) (w' : World) : Prop := ∃ u, e = .returned u ∧ L1 w.heap.size w' u l ∧ Below w.heap.size w w'

set_option maxHeartbeats 3200000 in
set_option maxRecDepth 100000 in
theorem squaresB_any (p : Int) (ap : Nat → List Int → List (List Int) → List Int) (Ok : Nat → List Int → List (List Int) → Prop) (hlen' : ∀ c v t, Ok c v t → (ap c v t).length = c)
    (hcall : ∀ (c : Nat) (va vt : Value) (v : List Int) (t : List (List Int)) (w : World), Ok c v t → L1 0 w va v → L2 0 w vt t → v.length ≤ 1048576 → c ≤ 1048576 → Calls Try.prog 126 #[.int .i64 p, va, vt, .int .i64 c] w (LRb (ap c v t) w))
    (dv mv : Value) (ds : List Int) (ms : List (List (List Int))) (w : World) (h : Cx 0 w dv mv ds ms) (ok : SzBk ds ms) (hok : ∀ q, q + 1 < ms.length → ∀ r ∈ ms.getD (q + 1) [], Ok (ds.getD q 0).toNat r (ms.getD q [])) :
    Calls Try.prog 61 #[.agg #[.int .i64 p, dv, mv]] w (BB (SqB ap ds ms) w) := by
  have HCALL := Lib.hid hcall
  have HLEN' := Lib.hid hlen'
  have HOK' := Lib.hid hok
  clear hcall hlen' hok
  have hlen0 := ok.len1
  have hmlen := Lib.hid ok.mlen
  have hml : ms.length ≤ 6 := by have := ok.mlen; have := ok.len1; omega
  have OK := Lib.hid ok
  clear ok
  have hb0 : Below w.heap.size w (w.alloc (.cells #[.int .i64 p, dv, mv] 40)) := (Below.refl _ _).alloc (Nat.le_refl _) _
  have HB0 := Lib.hid hb0
  clear hb0
  refine Sl.cases h.maps (fun ad cap hx hv' => ?_) (fun bm om capm hv' _ hpos hcl => ?_)
  · subst hx hv'
    clear h
    go_enter Try.func61, Try.ntmps61
    go_wp2
    refine wp_loop_rounds 1 ?_
    rw [rounds_succ]
    go_wp2
    go_ret
    exact bb_true HB0.out (fun q hq => absurd hq (by simp))
  · subst hv'
    refine Sl.cases h.dims (fun ad cap hx hv' => absurd hmlen.out (by subst hx; simp)) (fun bd od capd hv' _ hposd hcld => ?_)
    subst hv'
    have HC := Lib.hid hcl
    have HD := Lib.hid hcld
    clear h hcl hcld
    go_enter Try.func61, Try.ntmps61
    go_wp2
    go_loopw [3, 5, 6, 20] (fun i _ _ _ wr => ∃ (q : Nat), q ≤ ms.length ∧ i = .int .i64 ((q : Int) + 1) ∧ Below (w.heap.size + 1) (w.alloc (.cells #[.int .i64 p, .slice (some ⟨bd, od, none⟩) ds.length capd, .slice (some ⟨bm, om, none⟩) ms.length capm] 40)) wr ∧
      Hid (∀ q2, q2 < q → q2 + 1 < ms.length → ∀ r ∈ ms.getD (q2 + 1) [], ∀ x ∈ ap (ds.getD q2 0).toNat r (ms.getD q2 []), x = 0)) (fun i _ _ _ _ => ms.length - (intOf i - 1).toNat)
    case atStart => exact ⟨0, Nat.zero_le _, rfl, Below.refl _ _, Lib.hid (fun _ h => absurd h (Nat.not_lt_zero _))⟩
    case round =>
      obtain ⟨q, hq, rfl, hbel, HSQ⟩ := hrel
      have HBEL := Lib.hid hbel
      clear hbel
      have hbw : Below w.heap.size w wr := HB0.out.trans (HBEL.out.mono (Nat.le_succ _))
      have HBW := Lib.hid hbw
      clear hbw
      have c0 : wr.cell? ⟨w.heap.size, 0, none⟩ = some (.int .i64 p) := later HBEL.out (by simp) (by simp)
      have c1 : wr.cell? ⟨w.heap.size, 1, none⟩ = some (.slice (some ⟨bd, od, none⟩) ds.length capd) := later HBEL.out (by simp) (by simp)
      have c2 : wr.cell? ⟨w.heap.size, 2, none⟩ = some (.slice (some ⟨bm, om, none⟩) ms.length capm) := later HBEL.out (by simp) (by simp)
      by_cases hlt : q + 1 < ms.length
      · obtain ⟨u1, hu1, hr1⟩ := HC.out (q + 1) hlt
        obtain ⟨u0, hu0, hr0⟩ := HC.out q (by omega)
        obtain ⟨ud, hud, hrd⟩ := HD.out q (by have := hmlen.out; omega)
        have hu1' : wr.cell? ⟨bm, om + (q + 1), none⟩ = some u1 := later HBW.out (Nat.le_refl _) hu1
        have hu0' : wr.cell? ⟨bm, om + q, none⟩ = some u0 := later HBW.out (Nat.le_refl _) hu0
        have hud' : wr.cell? ⟨bd, od + q, none⟩ = some ud := later HBW.out (Nat.le_refl _) hud
        have hdim := OK.out.dim q
        have hql : q < ds.length := by have := hmlen.out; omega
        obtain ⟨c, hc⟩ := Int.eq_ofNat_of_zero_le hdim.1
        have hc8 : c ≤ 32 := by omega
        have hud2 : wr.cell? ⟨bd, od + q, none⟩ = some (.int .i64 (c : Int)) := by rw [hud', hrd, ← getD_of_lt 0 hql, hc]
        have HCC : Hid ((ds.getD q 0).toNat = c) := Lib.hid (by omega)
        have htab := OK.out.tabs (q + 1) hlt
        rw [getD_of_lt _ hlt] at htab
        have htl : (ms[q + 1]).length ≤ 32 := by have := htab.1; have := OK.out.dim (q + 1 + 1); omega
        have hrl : ∀ r ∈ ms[q + 1], r.length ≤ 32 := fun r hr => by have := htab.2 r hr; have := OK.out.dim (q + 1); omega
        have HRL := Lib.hid hrl
        have HR1 := Lib.hid hr1
        have HR0 := Lib.hid hr0
        have HNEXT : Hid ((∀ r ∈ ms[q + 1], ∀ x ∈ ap c r (ms.getD q []), x = 0) → ∀ q2, q2 < q + 1 → q2 + 1 < ms.length → ∀ r ∈ ms.getD (q2 + 1) [], ∀ x ∈ ap (ds.getD q2 0).toNat r (ms.getD q2 []), x = 0) := Lib.hid (fun hall q2 hq2 hlt2 => by
          by_cases e : q2 = q
          · subst e
            rw [HCC.out, getD_of_lt _ hlt]
            exact hall
          · exact HSQ.out q2 (by omega) hlt2)
        obtain ⟨t1, ht1⟩ : ∃ t1, t1 = ms[q + 1] := ⟨_, rfl⟩
        have HT1 := Lib.hid ht1
        rw [← ht1] at htl
        have HR1' : Hid (L2 0 w u1 t1) := Lib.hid (by rw [ht1]; exact HR1.out)
        have HNEXT' : Hid ((∀ j (hj : j < t1.length), ∀ x ∈ ap c t1[j] (ms.getD q []), x = 0) → ∀ q2, q2 < q + 1 → q2 + 1 < ms.length → ∀ r ∈ ms.getD (q2 + 1) [], ∀ x ∈ ap (ds.getD q2 0).toNat r (ms.getD q2 []), x = 0) := Lib.hid (fun hall => HNEXT.out (fun r hr => by
          rw [← ht1] at hr
          obtain ⟨j, hj, rfl⟩ := List.getElem_of_mem hr
          exact hall j hj))
        have HAP : Hid (∀ j (hj : j < t1.length), Ok c t1[j] (ms.getD q [])) := Lib.hid (fun j hj => by
          have := HOK'.out q hlt t1[j] (by rw [getD_of_lt _ hlt, ← ht1]; exact List.getElem_mem _)
          rwa [HCC.out] at this)
        have HNOT : Hid (∀ j (hj : j < t1.length), ¬ (∀ x ∈ ap c t1[j] (ms.getD q []), x = 0) → ¬ SqB ap ds ms) := Lib.hid (fun j hj hne hs => hne (by
          have := hs q hlt t1[j] (by rw [getD_of_lt _ hlt, ← ht1]; exact List.getElem_mem _)
          rwa [HCC.out] at this))
        have HRLL : Hid (∀ j (hj : j < t1.length), (t1[j]).length ≤ 1048576) := Lib.hid (fun j hj => by have := HRL.out t1[j] (by rw [← ht1]; exact List.getElem_mem _); omega)
        have HR0' : Hid (L2 0 w u0 (ms.getD q [])) := Lib.hid (by rw [getD_of_lt _ (by omega)]; exact HR0.out)
        obtain ⟨t0, ht0⟩ : ∃ t0, t0 = ms.getD q [] := ⟨_, rfl⟩
        rw [← ht0] at HNEXT' HAP HNOT HR0'
        have HU0 := Lib.hid hu0
        have HUD : Hid (w.cell? ⟨bd, od + q, none⟩ = some (.int .i64 (c : Int))) := Lib.hid (by rw [hud, hrd, ← getD_of_lt 0 hql, hc])
        clear hu1 hu0 hud hr1 hr0 hrd hud' hdim hc htab hrl ht1 HR1 HR0 HNEXT HRL ht0 HCC
        refine Sl.cases HR1'.out (fun ad1 cap1 hx1 hv1 => ?_) (fun b1 o1 cap1 hv1 _ hpos1 hcl1 => ?_)
        · subst hv1
          have HX1 := Lib.hid hx1
          clear hx1
          go_wp2
          refine wp_loop_rounds 1 ?_
          rw [rounds_succ]
          go_wp2
          go_roundw
          case rel => exact ⟨q + 1, by omega, by go_num, HBEL.out, Lib.hid (HNEXT'.out (fun j hj => absurd hj (by rw [HX1.out]; simp)))⟩
          case measure => simp [intOf]; omega
        · subst hv1
          have HC1 := Lib.hid hcl1
          clear hcl1
          have hdec : decide ((q : Int) + 1 < (ms.length : Int)) = true := by simp; omega
          obtain ⟨wo, hwo⟩ : ∃ wo : World, wo = wr := ⟨_, rfl⟩
          have HWO := Lib.hid hwo
          clear hwo
          go_wp2
          go_loopw [5, 6, 20] (fun _ _ i wr => ∃ (j : Nat), j ≤ t1.length ∧ i = .int .i64 j ∧ Below (w.heap.size + 1) (w.alloc (.cells #[.int .i64 p, .slice (some ⟨bd, od, none⟩) ds.length capd, .slice (some ⟨bm, om, none⟩) ms.length capm] 40)) wr ∧
            Hid (∀ j2 (hj : j2 < t1.length), j2 < j → ∀ x ∈ ap c t1[j2] t0, x = 0)) (fun _ _ i _ => t1.length - (intOf i).toNat)
          case atStart => exact ⟨0, Nat.zero_le _, rfl, HBEL.out, Lib.hid (fun _ _ h => absurd h (Nat.not_lt_zero _))⟩
          case round =>
            clear c0 c1 c2 hu1' hu0' hud2
            obtain ⟨j, hj, rfl, hbel2, HJ⟩ := hrel
            have HBEL2 := Lib.hid hbel2
            clear hbel2
            have HBW2 := Lib.hid (HB0.out.trans (HBEL2.out.mono (Nat.le_succ _)))
            have c0 : wr.cell? ⟨w.heap.size, 0, none⟩ = some (.int .i64 p) := later HBEL2.out (by simp) (by simp)
            have c1 : wr.cell? ⟨w.heap.size, 1, none⟩ = some (.slice (some ⟨bd, od, none⟩) ds.length capd) := later HBEL2.out (by simp) (by simp)
            have c2 : wr.cell? ⟨w.heap.size, 2, none⟩ = some (.slice (some ⟨bm, om, none⟩) ms.length capm) := later HBEL2.out (by simp) (by simp)
            by_cases hltj : j < t1.length
            · obtain ⟨u2, hu2, hr2⟩ := HC1.out j hltj
              have hu2' : wr.cell? ⟨b1, o1 + j, none⟩ = some u2 := later HBW2.out (Nat.le_refl _) hu2
              have hu0' : wr.cell? ⟨bm, om + q, none⟩ = some u0 := later HBW2.out (Nat.le_refl _) HU0.out
              have hud2 : wr.cell? ⟨bd, od + q, none⟩ = some (.int .i64 (c : Int)) := later HBW2.out (Nat.le_refl _) HUD.out
              have HR2 := Lib.hid hr2
              clear hu2 hr2
              have hql' : q < ms.length := by omega
              go_wp2
              have hw1 : IntKind.i64.wrap ((q : Int) + 1 - 1) = (q : Int) := by rw [show (q : Int) + 1 - 1 = q by omega]; exact IntWalk.i64_in _ (by omega)
              have hw2 : IntKind.i64.wrap (q : Int) = (q : Int) := IntWalk.i64_in _ (by omega)
              have hq0 : (0 : Int) ≤ (q : Int) := by omega
              have hq1 : (q : Int) < (ms.length : Int) := by omega
              have hq2 : (q : Int) < (ds.length : Int) := by omega
              go_still_tail 15, (by kernel_rfl)
              change wpList _ _ _ _ _ wr.drew
              clear hw1 hw2 hq0 hq1 hq2
              have HBD := Lib.hid (HBW2.out.drew)
              have hall := HAP.out j hltj
              have hlen : (ap c t1[j] t0).length ≤ 40 := by rw [HLEN'.out _ _ _ hall]; omega
              have HALLJ := Lib.hid hall
              have HLEN := Lib.hid hlen
              clear hall hlen
              go_wp2_with fail
              refine (HCALL.out c u2 u0 t1[j] t0 _ HALLJ.out (HR2.out.below HBD.out) (HR0'.out.below HBD.out) (HRLL.out j hltj) (by omega)).mono ?_
              rintro e w1 ⟨u, rfl, hru, hb1⟩
              have HRU := Lib.hid hru
              have HB1 := Lib.hid (HBEL2.out.drew.trans (hb1.mono (by have := HBEL2.out.size; simp at this; simp; omega)))
              clear hru hb1
              go_wp2_with fail
              refine (vectorOf_any u (ap c t1[j] t0) _ (HRU.out.lower (Nat.zero_le _)) HLEN.out).mono ?_
              rintro e w2 ⟨rfl, hb2⟩
              have HB2 := Lib.hid (HB1.out.trans (hb2.mono (by have := HB1.out.size; simp at this; omega)))
              have HB2W := Lib.hid (HB0.out.trans (HB2.out.mono (Nat.le_succ _)))
              clear hb2
              have hneq := neq_zero HLEN.out
              by_cases hz : ∀ x ∈ ap c t1[j] t0, x = 0
              · rw [decide_eq_true hz] at hneq
                have HZ := Lib.hid hz
                clear hz
                go_wp2
                go_roundw
                case rel => exact ⟨j + 1, by omega, by go_num, HB2.out, Lib.hid (fun j2 hj2 hlt2 => by
                  by_cases e : j2 = j
                  · subst e; exact HZ.out
                  · exact HJ.out j2 hj2 (by omega))⟩
                case measure => simp [intOf]; omega
              · rw [decide_eq_false hz] at hneq
                have HZ := Lib.hid hz
                clear hz
                go_wp2
                go_ret
                exact bb_false HB2W.out (HNOT.out j hltj HZ.out)
            · go_wp2
              go_roundw
              case rel => exact ⟨q + 1, by omega, by go_num, HBEL2.out, Lib.hid (HNEXT'.out (fun j2 hj2 => HJ.out j2 hj2 (by omega)))⟩
              case measure => simp [intOf]; omega
      · go_wp2
        go_ret
        exact bb_true HBW.out (fun q2 hq2 => HSQ.out q2 (by omega) hq2)
end Go.Proofs.Ytbadjfnelpfhcaa


namespace Go.Proofs.Ytbadjfnelpfhcaa
open Go.RowKit

set_option maxRecDepth 100000 in
set_option maxHeartbeats 4000000 in
theorem hasCells_any (p : Int) (dv av vv : Value) (ds : List (List Int)) (ac dn : List (List (List (List Int)))) (w : World) (h : Dx 0 w dv av vv ds ac dn) (hd : Bd2 1048576 ds) :
    Calls Try.prog 59 #[.agg #[.int .i64 p, dv, av, vv]] w (BB (IsP p ∧ DclOk ds) w) := by
  have HD := Lib.hid hd
  have hm0 : ds.length ≤ 1048576 := hd.1
  clear hd
  have hx0 := DBx.start (p := p) 28 h
  obtain ⟨ad, cd, rfl⟩ := Sl.shape h.dims
  clear h
  obtain ⟨m, hm⟩ : ∃ m, m = ds.length := ⟨_, rfl⟩
  have HM := Lib.hid hm
  rw [← hm] at hx0 hm0 ⊢
  clear hm
  obtain ⟨w1, hw1⟩ : ∃ w1, w1 = w.alloc (.cells #[.int .i64 p, .slice ad m cd, av, vv] 28) := ⟨_, rfl⟩
  rw [← hw1] at hx0
  have HX1 := Lib.hid hx0
  have c0 := hx0.c0
  have c1 := hx0.c1
  have c2 := hx0.c2
  have c3 := hx0.c3
  clear hx0
  by_cases hp : IsP p
  · have HP := Lib.hid hp
    have hp0 := hp.lo
    have hp1 := hp.hi
    clear hp
    go_enter Try.func59, Try.ntmps59
    go_upto_region 1 with fail
    rw [← hw1]
    clear hw1
    go_wp2_with fail
    refine (prime_yes HP.out _).mono ?_
    rintro e w' ⟨rfl, rfl⟩
    go_wp2_with fail
    refine (widthOf_any p _ _ _ ds _ HX1.out.dx.dims).mono ?_
    rintro e w2 ⟨rfl, hb2⟩
    rw [← HM.out]
    have HX2 := Lib.hid (HX1.out.next hb2)
    clear HX1 hb2 c0 c1 c2 c3
    have c0 := HX2.out.c0
    have c1 := HX2.out.c1
    have c2 := HX2.out.c2
    have c3 := HX2.out.c3
    by_cases hw : 1 ≤ m ∧ m ≤ 4
    · go_wp2_with fail
      refine (in_yes (by omega) _).mono ?_
      rintro e w' ⟨rfl, rfl⟩
      go_wp2_with fail
      refine (heightOf_any p _ _ _ ds _ HX2.out.dx.dims (by rw [← HM.out]; exact hw.1)).mono ?_
      rintro e w3 ⟨rfl, hb3⟩
      have HX3 := Lib.hid (HX2.out.next hb3)
      clear HX2 hb3 c0 c1 c2 c3
      have hq8 : (ds.getD 0 []).length ≤ 1048576 := by
        rw [getD_of_lt _ (by rw [← HM.out]; exact hw.1)]
        exact HD.out.2 _ (List.getElem_mem _)
      obtain ⟨q, hq⟩ : ∃ q, q = (ds.getD 0 []).length := ⟨_, rfl⟩
      have HQ := Lib.hid hq
      rw [← hq] at hq8 ⊢
      clear hq
      have c0 := HX3.out.c0
      have c1 := HX3.out.c1
      have c2 := HX3.out.c2
      have c3 := HX3.out.c3
      by_cases hh : 1 ≤ q ∧ q ≤ 4
      · go_wp2_with fail
        refine (in_yes (by omega) _).mono ?_
        rintro e w' ⟨rfl, rfl⟩
        go_wp2
        clear c0 c1 c2 c3
        go_loopw [26] (fun i wr => ∃ (k : Nat), k ≤ m ∧ i = .int .i64 k ∧ Hid (DBx w wr w.heap.size p (.slice ad m cd) av vv ds ac dn) ∧ Hid (∀ j (h1 : j < ds.length), j < k → (ds[j]).length = q ∧ AllIn 0 4 ds[j])) (fun i _ => m - (intOf i).toNat)
        case atStart => exact ⟨0, Nat.zero_le _, rfl, HX3, Lib.hid (fun _ _ h => absurd h (Nat.not_lt_zero _))⟩
        case round =>
          obtain ⟨k, hk, rfl, HX4, HC⟩ := hrel
          have c0 := HX4.out.c0
          have c1 := HX4.out.c1
          have c2 := HX4.out.c2
          have c3 := HX4.out.c3
          by_cases hlt : k < m
          · have hlt' : k < ds.length := by rw [← HM.out]; exact hlt
            have hL := HX4.out.dx.dims
            rcases hL with ⟨hx, _⟩ | ⟨b, o, c2', hv, _, _, hcl⟩
            · exact absurd (hx ▸ hlt') (Nat.not_lt_zero _)
            injection hv with e1 e2 e3
            subst e1 e3
            obtain ⟨ur, hur, hrr⟩ := hcl k hlt'
            have HRR := Lib.hid hrr
            have hy8 : (ds[k]).length ≤ 1048576 := HD.out.2 _ (List.getElem_mem hlt')
            obtain ⟨ys, hy⟩ : ∃ ys, ys = ds[k] := ⟨_, rfl⟩
            have HY := Lib.hid hy
            rw [← hy] at hy8
            have HRR' : Hid (L1 0 wr ur ys) := Lib.hid (by rw [hy]; exact hrr)
            clear hrr hcl e2 hy HRR
            obtain ⟨ar, cr, rfl⟩ := Sl.shape HRR'.out
            have HSTEP : Hid ((ys.length = q ∧ AllIn 0 4 ys) → ∀ j (h1 : j < ds.length), j < k + 1 → (ds[j]).length = q ∧ AllIn 0 4 ds[j]) := Lib.hid (fun hy2 j h1 h2 => by
              by_cases e : j = k
              · subst e; rw [← HY.out]; exact hy2
              · exact HC.out j h1 (by omega))
            have HNO : Hid (¬ (ys.length = q ∧ AllIn 0 4 ys) → ¬ (IsP p ∧ DclOk ds)) := Lib.hid (fun hn hok => hn (by rw [HY.out, HQ.out]; exact hok.2.col _ (List.getElem_mem hlt')))
            clear HY HC
            go_wp2_with fail
            refine (heightOf_any p _ _ _ ds _ HX4.out.dx.dims (by rw [← HM.out]; exact hw.1)).mono ?_
            rintro e w5 ⟨rfl, hb5⟩
            rw [← HQ.out]
            have HX5 := Lib.hid (HX4.out.next hb5)
            have HRR5 : Hid (L1 0 w5 _ ys) := Lib.hid (HRR'.out.below hb5)
            clear HX4 hb5 HRR' c0 c1 c2 c3 hur
            by_cases hlq : ys.length = q
            · rw [hlq] at HRR5 ⊢
              have hq1 : ((q : Int) != (q : Int)) = false := by simp
              go_wp2
              clear hq1
              go_loopw [37] (fun i wr2 => ∃ (t : Nat), t ≤ q ∧ i = .int .i64 t ∧ wr2 = w5 ∧ Hid (∀ j (h1 : j < ys.length), j < t → 0 ≤ ys[j] ∧ ys[j] ≤ 4)) (fun i _ => q - (intOf i).toNat)
              case atStart => exact ⟨0, Nat.zero_le _, rfl, rfl, Lib.hid (fun _ _ h => absurd h (Nat.not_lt_zero _))⟩
              case round =>
                obtain ⟨t, ht, rfl, rfl, HT⟩ := hrel
                by_cases hlt2 : t < q
                · have hlt2' : t < ys.length := by rw [hlq]; exact hlt2
                  rcases HRR5.out with ⟨hx, _⟩ | ⟨b2, o2, c3', hv2, _, _, hcl2⟩
                  · exact absurd (hx ▸ hlt2') (Nat.not_lt_zero _)
                  injection hv2 with e1 e2 e3
                  subst e1 e3
                  obtain ⟨un, hun, hui⟩ := hcl2 t hlt2'
                  have hui' : un = .int .i64 (ys[t]) := hui
                  subst hui'
                  obtain ⟨z, hz⟩ : ∃ z, z = ys[t] := ⟨_, rfl⟩
                  rw [← hz] at hun
                  clear hui hcl2 e2
                  have HZ := Lib.hid hz
                  clear hz
                  by_cases hzi : 0 ≤ z ∧ z ≤ 4
                  · go_wp2_with fail
                    refine (in_yes hzi _).mono ?_
                    rintro e w' ⟨rfl, rfl⟩
                    go_wp2
                    go_roundw
                    case rel => exact ⟨t + 1, by omega, by go_num, by simp, Lib.hid (fun j h1 h2 => by
                      by_cases e : j = t
                      · subst e; rw [← HZ.out]; exact hzi
                      · exact HT.out j h1 (by omega))⟩
                    case measure => simp [intOf]; omega
                  · go_wp2_with fail
                    refine (in_no hzi _).mono ?_
                    rintro e w' ⟨rfl, rfl⟩
                    go_wp2
                    go_ret
                    exact bb_false HX5.out.below (HNO.out (fun h => hzi (by rw [HZ.out]; exact h.2 _ (List.getElem_mem hlt2'))))
                · obtain rfl : t = q := by omega
                  go_wp2
                  go_roundw
                  case rel => exact ⟨k + 1, by omega, by go_num, HX5, Lib.hid (HSTEP.out ⟨hlq, all_of_lt (fun j hj => HT.out j hj (by omega))⟩)⟩
                  case measure => simp [intOf]; omega
            · have hq1 : ((ys.length : Int) != (q : Int)) = true := by have hz : (ys.length : Int) ≠ (q : Int) := (by omega); simp [hz]
              go_wp2
              go_ret
              exact bb_false HX5.out.below (HNO.out (fun h => hlq h.1))
          · obtain rfl : k = m := by omega
            have HOK : Hid (IsP p ∧ DclOk ds) := Lib.hid ⟨HP.out, ⟨by rw [← HM.out]; exact hw.1, by rw [← HM.out]; exact hw.2, by rw [← HQ.out]; exact hh.1, by rw [← HQ.out]; exact hh.2, by
              rw [← HQ.out]
              exact all_of_lt (fun j hj => HC.out j hj (by rw [HM.out]; exact hj))⟩⟩
            clear HC
            go_wp2
            go_ret
            exact bb_true HX4.out.below HOK.out
      · go_wp2_with fail
        refine (in_no (by omega) _).mono ?_
        rintro e w' ⟨rfl, rfl⟩
        go_wp2
        go_ret
        exact bb_false HX3.out.below (fun hok => hh (by rw [HQ.out]; exact ⟨hok.2.h0, hok.2.h1⟩))
    · go_wp2_with fail
      refine (in_no (by omega) _).mono ?_
      rintro e w' ⟨rfl, rfl⟩
      go_wp2
      go_ret
      exact bb_false HX2.out.below (fun hok => hw (by rw [HM.out]; exact ⟨hok.2.len0, hok.2.len1⟩))
  · have HP := Lib.hid hp
    clear hp
    go_enter Try.func59, Try.ntmps59
    go_upto_region 1 with fail
    rw [← hw1]
    clear hw1
    go_wp2_with fail
    refine (prime_no HP.out _).mono ?_
    rintro e w' ⟨rfl, rfl⟩
    go_wp2
    go_ret
    exact bb_false HX1.out.below (fun h => HP.out h.1)
end Go.Proofs.Ytbadjfnelpfhcaa


namespace Go.Proofs.Ytbadjfnelpfhcaa
open Go.RowKit

/-- What a double complex is. -/
structure IsDb (p : Int) (ds : List (List Int)) (ac dn : List (List (List (List Int)))) : Prop where
  prime : IsP p
  cel : DclOk ds
  tbs : TbsOk p ds ac dn
  cnd : CndOk p ds ac dn

theorem one_le {α : Type} (a : α) : ∀ l : List α, l.Nodup → (∀ x ∈ l, x = a) → l.length ≤ 1
  | [], _, _ => by simp
  | [_], _, _ => by simp
  | x :: y :: l, hn, h => by
    have h1 := h x (by simp)
    have h2 := h y (by simp)
    have := (List.nodup_cons.1 hn).1
    exact absurd (by rw [h1, h2]; simp) this
theorem dgn_four {ds : List (List Int)} (hok : DclOk ds) (n : Nat) : (dgn ds n).length ≤ 4 := by
  have h : ∀ m, m ≤ ds.length → ((cellsTo ds m).filter (onD n)).length ≤ m := by
    intro m
    induction m with
    | zero => intro _; simp [cellsTo]
    | succ m ih =>
      intro hm
      rw [cellsTo_succ, List.filter_append, List.length_append]
      have h1 := ih (by omega)
      have h2 := one_le (m, n - m) ((rowCells ds m).filter (onD n)) (by
        have h0 := cells_nodup ds (m + 1)
        rw [cellsTo_succ] at h0
        exact ((List.nodup_append.1 h0).2.1).filter _) (fun x hx => by
        obtain ⟨hx1, hx2⟩ := List.mem_filter.1 hx
        unfold rowCells at hx1
        obtain ⟨j, _, rfl⟩ := List.mem_map.1 hx1
        simp [onD] at hx2
        ext
        · rfl
        · show j = n - m; omega)
      omega
  have h3 := h ds.length (Nat.le_refl _)
  have := hok.len1
  exact Nat.le_trans h3 this
theorem tdim_16 {ds : List (List Int)} (hok : DclOk ds) (s : Nat) : tdim ds s ≤ 16 := by
  have h := sum_le4 (cdim ds) (dgn ds s) (fun c hc => (cdim_cast hok (mem_cells.2 (mem_dgn.1 hc).1)).2)
  have h2 := dgn_four hok s
  unfold tdim
  omega
theorem tot_sz {p : Int} {ds : List (List Int)} {ac dn : List (List (List (List Int)))} (hp : IsP p) (hok : DclOk ds) (ht : TbsOk p ds ac dn) : SzBk (tD ds) (tM ds ac dn) := by
  have h1 := hok.len0
  have h2 := hok.len1
  have h3 := hok.h0
  have h4 := hok.h1
  refine ⟨by rw [tD_len]; omega, by rw [tD_len]; unfold ttop; omega, by rw [tD_len, tM_len], fun d hd => ?_, fun k hk => ?_⟩
  · obtain ⟨s, _, rfl⟩ := List.mem_map.1 hd
    have := tdim_16 hok s
    omega
  · rw [tM_len] at hk
    rw [tM_at hk, tD_at (by omega), tD_at (by omega)]
    have := ttab_ok hp hok ht k
    exact ⟨this.1, fun x hx => (this.2 x hx).1⟩
theorem cell_top {ds : List (List Int)} (hok : DclOk ds) {c : Nat × Nat} {n : Nat} (h : c ∈ dgn ds n) : n ≤ ttop ds := by
  obtain ⟨⟨h1, h2⟩, h3⟩ := mem_dgn.1 h
  rw [getD_of_lt _ h1, (hok.col _ (List.getElem_mem h1)).1] at h2
  have := hok.h0
  unfold ttop
  omega
theorem tot_sq {p : Int} {ds : List (List Int)} {ac dn : List (List (List (List Int)))} (hp : IsP p) (hok : DclOk ds) (ht : TbsOk p ds ac dn) : SqB (apT p) (tD ds) (tM ds ac dn) ↔ CndOk p ds ac dn := by
  rw [← square_iff hp hok ht]
  have e : ∀ q, q < ttop ds + 1 → ((tD ds).getD q 0).toNat = tdim ds q := fun q hq => by rw [tD_at hq]; simp
  constructor
  · intro h q f r hf hr
    have hq := cell_top hok hf
    have := h q (by rw [tM_len]; omega) (trow ds ac dn (q + 1) f r) (by
      rw [tM_at (by omega)]
      unfold ttab
      exact List.mem_flatMap.2 ⟨f, hf, List.mem_map.2 ⟨r, List.mem_range.2 hr, rfl⟩⟩)
    rwa [e q (by omega), tM_at (by omega)] at this
  · intro h q hq x hx
    rw [tM_len] at hq
    rw [tM_at (by omega)] at hx
    obtain ⟨f, r, hf, hr, rfl⟩ := ttab_mem hx
    rw [e q (by omega), tM_at (by omega)]
    exact h q f r hf hr
theorem tot_apo {p : Int} {ds : List (List Int)} {ac dn : List (List (List (List Int)))} (hp : IsP p) (hok : DclOk ds) (ht : TbsOk p ds ac dn) : ∀ q, q + 1 < (tM ds ac dn).length → ∀ r ∈ (tM ds ac dn).getD (q + 1) [], ApOk p ((tD ds).getD q 0).toNat r ((tM ds ac dn).getD q []) := by
  intro q hq x hx
  rw [tM_len] at hq
  rw [tM_at (by omega)] at hx
  obtain ⟨f, r, hf, hr, rfl⟩ := ttab_mem hx
  rw [tM_at (by omega), tD_at (by omega), Int.toNat_natCast]
  exact tot_ap hp hok ht (mem_cells.2 (mem_dgn.1 hf).1) hr q
theorem RwC.cx {lo hi : Nat} {W : World} {u : Value} {p : Int} {ds : List Int} {ms : List (List (List Int))} (h : RwC lo hi W u (p, ds, ms)) : ∃ ad cd am cm, u = .agg #[.int .i64 p, .slice ad ds.length cd, .slice am ms.length cm] ∧ Cx 0 W (.slice ad ds.length cd) (.slice am ms.length cm) ds ms := by
  obtain ⟨ad, cd, am, cm, rfl, h1, _⟩ := h
  exact ⟨ad, cd, am, cm, rfl, h1.1.l1.lower (Nat.zero_le _), h1.2.l3.lower (Nat.zero_le _)⟩

set_option maxRecDepth 100000 in
set_option maxHeartbeats 4000000 in
theorem isDouble_any (p : Int) (dv av vv : Value) (ds : List (List Int)) (ac dn : List (List (List (List Int)))) (w : World) (h : Dx 0 w dv av vv ds ac dn) (hbd : Bd2 1048576 ds) (hba : Bd4 1048576 ac) (hbv : Bd4 1048576 dn) :
    Calls Try.prog 17 #[.agg #[.int .i64 p, dv, av, vv]] w (BB (IsDb p ds ac dn) w) := by
  have HX0 := Lib.hid (DBx.start (p := p) 28 h)
  have HBD := Lib.hid hbd
  have HBA := Lib.hid hba
  have HBV := Lib.hid hbv
  clear h hbd hba hbv
  go_enter Try.func17, Try.ntmps17
  go_wp2_with fail
  refine (hasCells_any p dv av vv ds ac dn _ HX0.out.dx HBD.out).mono ?_
  rintro e w' ⟨b1, rfl, hb1, hbb1⟩
  have HX1 := Lib.hid (HX0.out.next hb1)
  have HBB := Lib.hid hbb1
  clear hb1 hbb1 HX0
  have c0 := HX1.out.c0
  have c1 := HX1.out.c1
  have c2 := HX1.out.c2
  have c3 := HX1.out.c3
  cases b1
  · go_wp2
    go_ret
    exact ⟨false, rfl, HX1.out.below, ⟨fun h => (by cases h), fun h => absurd (HBB.out.2 ⟨h.prime, h.cel⟩) (by simp)⟩⟩
  · have HPC := Lib.hid (HBB.out.1 (by simp))
    clear HBB
    go_wp2_with fail
    refine (hasTables_any p dv av vv ds ac dn _ HX1.out.dx HPC.out.1 HPC.out.2 HBA.out HBV.out).mono ?_
    rintro e w' ⟨b2, rfl, hb2, hbb2⟩
    have HX2 := Lib.hid (HX1.out.next hb2)
    have HBB2 := Lib.hid hbb2
    clear hb2 hbb2 HX1 c0 c1 c2 c3
    have c0 := HX2.out.c0
    have c1 := HX2.out.c1
    have c2 := HX2.out.c2
    have c3 := HX2.out.c3
    cases b2
    · go_wp2
      go_ret
      exact ⟨false, rfl, HX2.out.below, ⟨fun h => (by cases h), fun h => absurd (HBB2.out.2 h.tbs) (by simp)⟩⟩
    · have HTB := Lib.hid (HBB2.out.1 (by simp))
      clear HBB2
      go_wp2_with fail
      refine (totalComplex_any p HPC.out.1 dv av vv ds ac dn _ HX2.out.dx HPC.out.2 HTB.out).mono ?_
      rintro e w' ⟨u, rfl, hrc, hb3⟩
      obtain ⟨ad, cd, am, cm, rfl, hcx⟩ := hrc.cx
      have HX3 := Lib.hid (HX2.out.next hb3)
      have HSQ : Hid (∀ W, Cx 0 W (.slice ad (tD ds).length cd) (.slice am (tM ds ac dn).length cm) (tD ds) (tM ds ac dn) → Calls Try.prog 61 #[.agg #[.int .i64 p, .slice ad (tD ds).length cd, .slice am (tM ds ac dn).length cm]] W (BB (SqB (apT p) (tD ds) (tM ds ac dn)) W)) := Lib.hid (fun W hc =>
        squaresB_any p (apT p) (ApOk p) (fun c v t ok => apT_length ok) (fun c va vt v t w ok ha hv hvl hc => applyTable_any p c va vt v t w ok ha hv hvl hc) _ _ _ _ W hc (tot_sz HPC.out.1 HPC.out.2 HTB.out) (tot_apo HPC.out.1 HPC.out.2 HTB.out))
      have HCX := Lib.hid hcx
      obtain ⟨l1, hl1⟩ : ∃ l, l = (tD ds).length := ⟨_, rfl⟩
      obtain ⟨l2, hl2⟩ : ∃ l, l = (tM ds ac dn).length := ⟨_, rfl⟩
      rw [← hl1, ← hl2] at HSQ HCX ⊢
      clear hcx hrc hb3 hl1 hl2 c0 c1 c2 c3 HX2
      go_wp2_with fail
      refine (HSQ.out _ HCX.out).mono ?_
      rintro e w' ⟨b3, rfl, hb4, hbb3⟩
      have HX4 := Lib.hid (HX3.out.next hb4)
      have HBB3 := Lib.hid hbb3
      clear hb4 hbb3 HX3
      go_wp2
      go_ret
      exact ⟨b3, rfl, HX4.out.below, HBB3.out.trans ((tot_sq HPC.out.1 HPC.out.2 HTB.out).trans ⟨fun h => ⟨HPC.out.1, HPC.out.2, HTB.out, h⟩, fun h => h.cnd⟩)⟩
end Go.Proofs.Ytbadjfnelpfhcaa


namespace Go.Proofs.Ytbadjfnelpfhcaa
open Go.RowKit

/-- The sizes of what is told as a complex. -/
structure SzOk (ds : List Int) (ms : List (List (List Int))) : Prop where
  len0 : 1 ≤ ds.length
  len1 : ds.length ≤ 6
  mlen : ms.length + 1 = ds.length
  dims : ∀ d ∈ ds, 0 ≤ d ∧ d ≤ 8
  tabs : ∀ k, k < ms.length → ((ms.getD k []).length : Int) = ds.getD (k + 1) 0 ∧ ∀ x ∈ ms.getD k [], (x.length : Int) = ds.getD k 0
theorem SzOk.dim {ds : List Int} {ms : List (List (List Int))} (h : SzOk ds ms) (k : Nat) : 0 ≤ ds.getD k 0 ∧ ds.getD k 0 ≤ 8 := by
  by_cases hk : k < ds.length
  · rw [getD_of_lt _ hk]; exact h.dims _ (List.getElem_mem _)
  · simp [List.getD, show ds.length ≤ k by omega]
end Go.Proofs.Ytbadjfnelpfhcaa


namespace Go.Proofs.Ytbadjfnelpfhcaa
open Go.RowKit

/-- While a table is being made row by row: k rows are there. -/
structure Sc (w w' : World) (r c k : Nat) (Z : Nat → Nat → Int) : Prop where
  below : Below w.heap.size w w'
  size : w'.heap.size = w.heap.size + 1 + k
  top : w'.rowIs w.heap.size 37 r (fun j => if j < k then .slice (some ⟨w.heap.size + 1 + j, 0, none⟩) c c else .slice none 0 0)
  rows : ∀ j, j < k → w'.rowIs (w.heap.size + 1 + j) 2 c (fun i => .int .i64 (Z j i))
theorem Sc.start (w : World) (r c : Nat) (Z : Nat → Nat → Int) : Sc w (w.alloc (.cells (madeCells #[.slice none 0 0] r) 37)) r c 0 Z :=
  ⟨(Below.refl _ _).alloc (Nat.le_refl _) _, by simp, (World.rowIs_made w _ r _).congr (fun j _ => by simp), fun j hj => absurd hj (Nat.not_lt_zero _)⟩
theorem Sc.congr {w w' : World} {r c k : Nat} {Z Z' : Nat → Nat → Int} (h : Sc w w' r c k Z) (e : ∀ j, j < k → ∀ i, i < c → Z j i = Z' j i) : Sc w w' r c k Z' :=
  ⟨h.below, h.size, h.top, fun j hj => (h.rows j hj).congr (fun i hi => by rw [e j hj i hi])⟩
theorem Sc.drew {w w' : World} {r c k : Nat} {Z : Nat → Nat → Int} (h : Sc w w' r c k Z) : Sc w w'.drew r c k Z := ⟨h.below.drew, h.size, h.top.drew, fun j hj => (h.rows j hj).drew⟩
theorem Sc.step {w w' : World} {r c k : Nat} {Z : Nat → Nat → Int} (h : Sc w w' r c k Z) : Sc w ((w'.alloc (.cells (madeCells #[.int .i64 0] c) 2)).setCell ⟨w.heap.size, k, none⟩ (.slice (some ⟨w'.heap.size, 0, none⟩) c c)) r c (k + 1) (fun j i => if j < k then Z j i else 0) := by
  have hnew := World.rowIs_made w' (.int .i64 0) c 2
  have hs := h.size
  refine ⟨(h.below.alloc (by omega) _).setCell (Nat.le_refl _) _, by simp [h.size]; omega, ((h.top.alloc _).set k _).congr (fun j _ => ?_), fun j hj => ?_⟩
  · by_cases e : j = k
    · subst e
      rw [if_pos rfl, if_pos (Nat.lt_succ_self _), hs]
    · rw [if_neg e]
      by_cases h2 : j < k
      · rw [if_pos h2, if_pos (by omega)]
      · rw [if_neg h2, if_neg (by omega)]
  · by_cases e : j = k
    · subst e
      rw [← hs]
      exact (hnew.setOther (by show w'.heap.size ≠ w.heap.size; omega) _).congr (fun i _ => by simp)
    · exact (((h.rows j (by omega)).alloc _).setOther (by show w.heap.size + 1 + j ≠ w.heap.size; omega) _).congr (fun i _ => by rw [if_pos (show j < k by omega)])
theorem Sc.put {w w' : World} {r c k : Nat} {Z : Nat → Nat → Int} (h : Sc w w' r c k Z) {j i : Nat} (hj : j < k) (x : Int) :
    Sc w (w'.setCell ⟨w.heap.size + 1 + j, i, none⟩ (.int .i64 x)) r c k (fun j2 i2 => if j2 = j ∧ i2 = i then x else Z j2 i2) := by
  refine ⟨h.below.setCell (by show w.heap.size ≤ w.heap.size + 1 + j; omega) _, by simp [h.size], h.top.setOther (by show w.heap.size ≠ w.heap.size + 1 + j; omega) _, fun j2 hj2 => ?_⟩
  by_cases e : j2 = j
  · subst e
    exact ((h.rows j2 hj2).set i _).congr (fun i2 _ => by by_cases e2 : i2 = i <;> simp [e2])
  · exact ((h.rows j2 hj2).setOther (by show w.heap.size + 1 + j2 ≠ w.heap.size + 1 + j; omega) _).congr (fun i2 _ => by simp [e])
theorem Sc.done {w w' : World} {r c : Nat} {Z : Nat → Nat → Int} (h : Sc w w' r c r Z) : Mat w w' r c Z :=
  ⟨h.below, h.size, h.top.congr (fun j hj => by rw [if_pos hj]), h.rows⟩

def scZ (p x : Int) (t : List (List Int)) (j i : Nat) : Int := x * (t.getD j []).getD i 0 % p

theorem mulB {x z : Int} (h0 : -1048576 ≤ x) (h1 : x ≤ 1048576) (h2 : -1048576 ≤ z) (h3 : z ≤ 1048576) : -1099511627776 ≤ x * z ∧ x * z ≤ 1099511627776 := by
  have h : (x * z).natAbs ≤ 1048576 * 1048576 := by
    rw [Int.natAbs_mul]
    exact Nat.mul_le_mul (by omega) (by omega)
  omega
theorem tmod_up (m p : Int) (hp : 0 < p) : (m.tmod p + p).tmod p = m % p := by
  have h1 := Int.lt_tmod_of_pos m hp
  rw [Int.tmod_eq_emod_of_nonneg (by omega)]
  have h2 := Int.tmod_add_mul_tdiv m p
  have e : m.tmod p + p = m + p * (1 - m.tdiv p) := by rw [Int.mul_sub]; omega
  rw [e, Int.add_mul_emod_self_left]

set_option maxHeartbeats 1600000 in
set_option maxRecDepth 100000 in
theorem scaledTableW_any (p x : Int) (c : Nat) (vt : Value) (t : List (List Int)) (w : World) (hp0 : 0 < p) (hp1 : p ≤ 1048576) (hx : -1048576 ≤ x ∧ x ≤ 1048576) (ht : L2 0 w vt t) (hr : t.length ≤ 1048576) (hc : c ≤ 1048576) (hrow : ∀ y ∈ t, y.length = c ∧ ∀ z ∈ y, -1048576 ≤ z ∧ z ≤ 1048576) :
    Calls Try.prog 132 #[.int .i64 p, .int .i64 x, vt] w (MatR t.length c (scZ p x t) w) := by
  have hmk := run_make_row' (P := Try.prog) 22 37 (.slice none 0 0) 24 Try.underlying22 Try.infoS rfl .i64 .i64 t.length (by omega) (by omega)
  have hmk2 := run_make_row' (P := Try.prog) 37 2 (.int .i64 0) 8 Try.underlying37 Try.infoI rfl .i64 .i64 c (by omega) (by omega)
  obtain ⟨at', ct, rfl⟩ := Sl.shape ht
  have HT : Hid (∀ W, Below w.heap.size w W → L2 0 W (.slice at' t.length ct) t) := Lib.hid (fun W h => ht.below h)
  have HROW := Lib.hid hrow
  clear ht hrow
  go_enter Try.func132, Try.ntmps132
  go_wp2
  clear hmk
  go_loopw [8, 9, 10, 11, 17, 30] (fun _ _ _ _ i _ wr => ∃ (k : Nat), k ≤ t.length ∧ i = .int .i64 k ∧ Hid (Sc w wr t.length c k (scZ p x t))) (fun _ _ _ _ i _ _ => t.length - (intOf i).toNat)
  case atStart => exact ⟨0, Nat.zero_le _, rfl, Lib.hid (Sc.start _ _ _ _)⟩
  case round =>
    obtain ⟨k, hk, rfl, HS⟩ := hrel
    obtain ⟨wx, hwx⟩ : ∃ wx : World, wx = wr := ⟨_, rfl⟩
    subst hwx
    by_cases hlt : k < t.length
    · have hkl : (k : Int) < (t.length : Int) := by omega
      refine Sl.cases (HT.out _ (Below.refl _ _)) (fun _ _ hx _ => absurd hlt (by simp [hx])) (fun bt ot ct2 hvt _ _ hcl => ?_)
      injection hvt with e1 e2 e3
      clear e2
      subst e1 e3
      obtain ⟨ur, hur0, hrr⟩ := hcl k hlt
      have hur : wx.cell? ⟨bt, ot + k, none⟩ = some ur := later HS.out.below (Nat.le_refl _) hur0
      obtain ⟨y, hy⟩ : ∃ y, y = t[k] := ⟨_, rfl⟩
      rw [← hy] at hrr
      obtain ⟨ar, cr, hus⟩ := Sl.shape hrr
      have hyr := HROW.out y (by rw [hy]; exact List.getElem_mem hlt)
      rw [hyr.1] at hus
      subst hus
      have HY : Hid (t.getD k [] = y) := Lib.hid (by rw [getD_of_lt _ hlt, hy])
      have HYR := Lib.hid hyr
      have HRL : Hid (∀ W, Below w.heap.size w W → L1 0 W (.slice ar c cr) y) := Lib.hid (fun W hW => hrr.below hW)
      have h0 : ∀ o, (wx.alloc o).cell? ⟨w.heap.size, k, none⟩ = some (.slice none 0 0) := fun o => by rw [(HS.out.top.alloc o).cell hlt, if_neg (Nat.lt_irrefl _)]
      have hf : ∀ o, (wx.alloc o).frozen? ⟨w.heap.size, k, none⟩ = false := fun o => (HS.out.top.alloc o).frozen k
      have hsz := HS.out.size
      have hst := HS.out.step
      rw [hsz] at hst
      have HS1 := Lib.hid hst
      clear hcl hrr hyr hy HS hur0 hst
      go_wp2
      clear h0 hf hur
      go_loopw [10, 11, 30] (fun _ _ i wr => ∃ (q : Nat), q ≤ c ∧ i = .int .i64 q ∧ Hid (Sc w wr t.length c (k + 1) (fun j i => if j < k then scZ p x t j i else if i < q then scZ p x t k i else 0))) (fun _ _ i _ => c - (intOf i).toNat)
      case atStart => exact ⟨0, Nat.zero_le _, rfl, Lib.hid (HS1.out.congr (fun j _ i _ => by by_cases e : j < k <;> simp [e]))⟩
      case round =>
        clear HS1
        obtain ⟨q, hq, rfl, HQ⟩ := hrel
        obtain ⟨wy, hwy⟩ : ∃ wy : World, wy = wr := ⟨_, rfl⟩
        subst hwy
        by_cases hlq : q < c
        · have hql : (q : Int) < (c : Int) := by omega
          have hqy : q < y.length := by rw [HYR.out.1]; exact hlq
          obtain ⟨z, hz⟩ : ∃ z, z = y.getD q 0 := ⟨_, rfl⟩
          have hzb := HYR.out.2 z (by rw [hz, getD_of_lt _ hqy]; exact List.getElem_mem hqy)
          refine Sl.cases (HRL.out _ HQ.out.below) (fun _ _ hx _ => absurd hqy (by simp [hx])) (fun br orr cr2 hvr _ _ hcr => ?_)
          injection hvr with e1 e2 e3
          clear e2
          subst e1 e3
          obtain ⟨uz, huz, hrz⟩ := hcr q hqy
          have hnum : wy.cell? ⟨br, orr + q, none⟩ = some (.int .i64 z) := by rw [huz, hrz, hz, getD_of_lt _ hqy]
          have htop : wy.cell? ⟨w.heap.size, k, none⟩ = some (.slice (some ⟨w.heap.size + 1 + k, 0, none⟩) c c) := by rw [HQ.out.top.cell hlt, if_pos (Nat.lt_succ_self _)]
          have hrk := HQ.out.rows k (Nat.lt_succ_self _)
          have hold := hrk.cell hlq
          have hfz := hrk.frozen q
          obtain ⟨hm0, hmb⟩ := mulB hx.1 hx.2 hzb.1 hzb.2
          have hmul : IntKind.i64.wrap (x * z) = x * z := IntWalk.i64_in _ (by omega)
          have hr1 := Int.lt_tmod_of_pos (x * z) hp0
          have hr2 := Int.tmod_lt_of_pos (x * z) hp0
          have hr3 := tmod_up (x * z) p hp0
          obtain ⟨rr, hrr2⟩ : ∃ rr, rr = (x * z).tmod p := ⟨_, rfl⟩
          have hrem : (x * z).tmod p = rr := hrr2.symm
          rw [hrem] at hr1 hr2 hr3
          have HRR := Lib.hid hrr2
          clear hrr2
          have hwr0 : IntKind.i64.wrap rr = rr := IntWalk.i64_in _ (by omega)
          have hadd : IntKind.i64.wrap (rr + p) = rr + p := IntWalk.i64_in _ (by omega)
          have hm1 := Int.emod_nonneg (x * z) (show p ≠ 0 by omega)
          have hm2 := Int.emod_lt_of_pos (x * z) hp0
          have hwr : IntKind.i64.wrap (x * z % p) = x * z % p := IntWalk.i64_in _ (by omega)
          have hpz : (p == 0) = false := by simp; omega
          have hpz2 : ¬ p = 0 := by omega
          have hpm : (p == -1) = false := by simp; omega
          have HS2 : Hid (Sc w (wy.setCell ⟨w.heap.size + 1 + k, q, none⟩ (.int .i64 (x * z % p))) t.length c (k + 1) (fun j i => if j < k then scZ p x t j i else if i < q + 1 then scZ p x t k i else 0)) := Lib.hid ((HQ.out.put (j := k) (i := q) (Nat.lt_succ_self _) (x * z % p)).congr (fun j hj i hi => by
            by_cases e : j = k
            · subst e
              by_cases e2 : i = q
              · subst e2
                have e5 : scZ p x t j i = x * z % p := by unfold scZ; rw [HY.out, hz]
                simp [e5]
              · have e3 : (i < q + 1) ↔ (i < q) := by omega
                simp [e2, e3]
            · have e4 : j < k := by omega
              simp [e, e4]))
          clear huz hrz hcr hrk hz
          go_wp2
          go_region
          all_goals go_wp2
          all_goals go_roundw
          case rel => exact ⟨q + 1, by omega, by go_num, Lib.hid HS2.out.drew⟩
          case measure => simp [intOf]; omega
        · have hqn : ¬ (q : Int) < (c : Int) := by omega
          obtain rfl : q = c := by omega
          have HK1 : Hid (Sc w wy t.length q (k + 1) (scZ p x t)) := Lib.hid (HQ.out.congr (fun j hj i hi => by
            by_cases e : j < k
            · simp [e]
            · have e2 : j = k := by omega
              subst e2
              simp [hi]))
          go_wp2
          go_roundw
          case rel => first | exact ⟨k + 1, by omega, by go_num, HK1⟩ | ((repeat apply Exists.intro); exact ⟨⟨k + 1, by omega, by go_num, HK1⟩, rfl⟩)
          case measure => simp [intOf]; omega
    · have hkn : ¬ (k : Int) < (t.length : Int) := by omega
      obtain rfl : k = t.length := by omega
      go_wp2
      go_ret
      exact ⟨rfl, HS.out.done⟩
end Go.Proofs.Ytbadjfnelpfhcaa


namespace Go.Proofs.Ytbadjfnelpfhcaa
open Go.RowKit

/-- The differential of a vector of the degree n. -/
def difOf (p : Int) (ds : List Int) (ms : List (List (List Int))) (n : Int) (vs : List Int) : List Int := if n = 0 then [] else apT p (ds.getD (n.toNat - 1) 0).toNat vs (ms.getD (n.toNat - 1) [])
def InDeg (ds : List Int) (n : Int) : Prop := 0 ≤ n ∧ n ≤ (ds.length : Int) - 1
/-- What DifferentialOf answers: a list and a code. -/
structure DifOut (p : Int) (ds : List Int) (ms : List (List (List Int))) (n : Int) (vs out : List Int) (c : Int) : Prop where
  bad : ¬ IsCx p ds ms → out = [] ∧ c = 1
  far : IsCx p ds ms → ¬ InDeg ds n → out = [] ∧ c = 2
  row : IsCx p ds ms → InDeg ds n → ¬ RowOk p (ds.getD n.toNat 0) vs → out = [] ∧ c = 2
  good : IsCx p ds ms → InDeg ds n → RowOk p (ds.getD n.toNat 0) vs → out = difOf p ds ms n vs ∧ c = 0
theorem DifOut.unique {p : Int} {ds : List Int} {ms : List (List (List Int))} {n : Int} {vs o1 o2 : List Int} {c1 c2 : Int} (h1 : DifOut p ds ms n vs o1 c1) (h2 : DifOut p ds ms n vs o2 c2) : o1 = o2 ∧ c1 = c2 := by
  by_cases a : IsCx p ds ms
  · by_cases b : InDeg ds n
    · by_cases c : RowOk p (ds.getD n.toNat 0) vs
      · have x := h1.good a b c
        have y := h2.good a b c
        exact ⟨x.1.trans y.1.symm, x.2.trans y.2.symm⟩
      · have x := h1.row a b c
        have y := h2.row a b c
        exact ⟨x.1.trans y.1.symm, x.2.trans y.2.symm⟩
    · have x := h1.far a b
      have y := h2.far a b
      exact ⟨x.1.trans y.1.symm, x.2.trans y.2.symm⟩
  · have x := h1.bad a
    have y := h2.bad a
    exact ⟨x.1.trans y.1.symm, x.2.trans y.2.symm⟩
end Go.Proofs.Ytbadjfnelpfhcaa


namespace Go.Proofs.Ytbadjfnelpfhcaa
open Go.RowKit

/-- copy of a row that reads as x into a row that a call has made, from place q on. -/
theorem copy_row {w : World} {g c : Nat} {Z : Nat → Int} (h : w.rowIs g 2 c (fun j => .int .i64 (Z j))) {q : Nat} (dl dc : Nat) (sa : Option Addr) (sc : Nat) (x : List Int) (hx : L1 0 w (.slice sa x.length sc) x) (hq : q + x.length ≤ c) (hd : x.length ≤ dl) :
    ∃ W, (∀ ty, (Builtin.copy_ #[37, 37] ty #[.slice (some ⟨g, q, none⟩) dl dc, .slice sa x.length sc]).run Try.prog w = .ok (goInt x.length) W) ∧ W.heap.size = w.heap.size ∧ (∀ b, b ≠ g → W.heap[b]? = w.heap[b]?) ∧ (∀ B (w0 : World), B ≤ g → Below B w0 w → Below B w0 W) ∧
      W.rowIs g 2 c (fun j => .int .i64 (if q ≤ j ∧ j < q + x.length then x.getD (j - q) 0 else Z j)) := by
  rcases hx with ⟨rfl, ad, cap, hv⟩ | ⟨b, o, cap, hv, _, hpos, hcl⟩
  · refine ⟨w, fun ty => ?_, rfl, fun _ _ => rfl, fun _ _ _ hb => hb, h.congr (fun j _ => by rw [if_neg (by rintro ⟨h1, h2⟩; simp at h2; omega)])⟩
    clear hv
    obtain ⟨i, hi, _⟩ := info_parts Try.infoI
    cases sa with
    | none => simp [Builtin.copy_, run_underlying Try.underlying37, Builtin.lenOf, Builtin.firstCells, sizeOf, typeInfo, hi, storeCells]
    | some a => simp [Builtin.copy_, run_underlying Try.underlying37, Builtin.lenOf, Builtin.firstCells, sizeOf, typeInfo, hi, storeCells, loadCells, loadCellsFrom]
  · injection hv with e1 e2 e3
    subst e1 e3
    obtain ⟨cur, hcur, hcs, hget⟩ := h
    have hlen : (x.map (Value.int .i64)).length = x.length := List.length_map ..
    refine ⟨w.setRow g (cur.toList.take q ++ x.map (Value.int .i64) ++ cur.toList.drop (q + x.length)).toArray, fun ty => ?_, by simp, fun b hb => setRow_other _ _ _ _ hb, fun B w0 hl hb => below_setRow hb hl _, ?_⟩
    · have hh := run_copy_row (P := Try.prog) w 37 37 ty 2 g q dl dc ⟨b, o, none⟩ x.length sc cur 2 (x.map (Value.int .i64)) Try.underlying37 Try.infoI1 hcur
        (by rw [hlen]; simp only [Nat.min_def]; split <;> omega) (fun k u hk => by
        have hk' : k < x.length := by rw [← hlen]; exact (List.getElem?_eq_some_iff.1 hk).1
        obtain ⟨u2, hu2, hr2⟩ := hcl k hk'
        rw [Addr.add_mid, hu2, hr2]
        simp [hk'] at hk
        rw [← hk]) (by rw [hlen]; omega) (fun u hu => by
        obtain ⟨y, _, rfl⟩ := List.mem_map.1 hu
        rfl)
      rw [hlen] at hh
      exact hh
    · have hcl2 : cur.toList.length = c := by simpa using hcs
      refine ⟨_, setRow_heap _ _ _ _ _ _ hcur, by simp [hcs]; omega, fun i hi => ?_⟩
      show _ = some (Value.int .i64 (if q ≤ i ∧ i < q + x.length then x.getD (i - q) 0 else Z i))
      have hgi : cur[i]? = some (Value.int .i64 (Z i)) := hget i hi
      rw [List.getElem?_toArray, List.append_assoc]
      by_cases h1 : i < q
      · rw [List.getElem?_append_left (by rw [List.length_take]; omega), List.getElem?_take_of_lt h1, if_neg (by omega)]
        rw [← Array.getElem?_toList] at hgi
        exact hgi
      · rw [List.getElem?_append_right (by rw [List.length_take]; omega), List.length_take, Nat.min_eq_left (by omega)]
        by_cases h2 : i < q + x.length
        · rw [List.getElem?_append_left (by rw [hlen]; omega), if_pos ⟨by omega, h2⟩]
          have h3 : i - q < x.length := by omega
          simp [h3, List.getD]
        · rw [List.getElem?_append_right (by rw [hlen]; omega), hlen, if_neg (by omega), List.getElem?_drop, show q + x.length + (i - q - x.length) = i by omega]
          rw [← Array.getElem?_toList] at hgi
          exact hgi

open Classical in
/-- The code of a shift. -/
noncomputable def shCode (p k : Int) (ds : List Int) (ms : List (List (List Int))) : Int :=
  if ¬ IsCx p ds ms then 1 else if ¬ (0 ≤ k ∧ k ≤ 5) then 2 else if 5 < (ds.length : Int) - 1 + k then 3 else 0
structure ShOk (p k : Int) (ds : List Int) (ms : List (List (List Int))) : Prop where
  c : IsCx p ds ms
  r : 0 ≤ k ∧ k ≤ 5
  fit : (ds.length : Int) - 1 + k ≤ 5
theorem ShOk.code {p k : Int} {ds : List Int} {ms : List (List (List Int))} (h : ShOk p k ds ms) : shCode p k ds ms = 0 := by
  unfold shCode
  rw [if_neg (fun x => x h.c), if_neg (fun x => x h.r), if_neg (by have := h.fit; omega)]
end Go.Proofs.Ytbadjfnelpfhcaa


namespace Go.Proofs.Ytbadjfnelpfhcaa
open Go.RowKit

/-- A complex as it lies behind the call that made it: its dimensions, its tables' heads, its tables. -/
structure CuAt (w w' : World) (n m : Nat) (D : Nat → Value) (r c : Nat → Nat) (Z : Nat → Nat → Nat → Int) (bd bm : Nat) : Prop where
  below : Below w.heap.size w w'
  lo : w.heap.size ≤ bd ∧ w.heap.size ≤ bm ∧ bd ≠ bm
  dims : w'.rowIs bd 2 n D
  tabs : ∃ (lo : Nat) (bs : Nat → Nat), bd < lo ∧ bm < lo ∧ w'.rowIs bm 22 m (duM bs r m) ∧ Ts lo w' bs r c Z m
theorem CuAt.set {w w' : World} {n m : Nat} {D : Nat → Value} {r c : Nat → Nat} {Z : Nat → Nat → Nat → Int} {bd bm : Nat} (h : CuAt w w' n m D r c Z bd bm) {a : Addr} (h0 : w.heap.size ≤ a.block) (h1 : a.block < bd) (h2 : a.block < bm) (v : Value) : CuAt w (w'.setCell a v) n m D r c Z bd bm := by
  obtain ⟨lo, bs, a1, a2, a3, a4⟩ := h.tabs
  exact ⟨h.below.setCell h0 _, h.lo, h.dims.setOther (by omega) _, lo, bs, a1, a2, a3.setOther (by omega) _, a4.set (by omega) _⟩
theorem CuAt.rc {w W : World} {n m : Nat} {D : Nat → Value} {r c : Nat → Nat} {Z : Nat → Nat → Nat → Int} {bd bm : Nat} {xs : List Int} {ts : List (List (List Int))} (h : CuAt w W n m D r c Z bd bm) (hd : n ≤ 1048576) (hml : m ≤ 1048576) (hxl : xs.length = n) (hD : ∀ i (hi : i < xs.length), D i = .int .i64 xs[i]) (htl : ts.length = m) (hts : ∀ j (hj : j < ts.length), ts[j] = tableOf (r j) (c j) (Z j)) (h8 : ∀ j, r j ≤ 1048576) (hc : ∀ j, c j ≤ 1048576) :
    RcW w.heap.size W.heap.size W (.slice (some ⟨bd, 0, none⟩) n n) (.slice (some ⟨bm, 0, none⟩) m m) xs ts := by
  obtain ⟨hb, ⟨l1, l2, l3⟩, hdim, lo, bs, t1, t2, t3, t4⟩ := h
  have hlt := t3.lt
  have hfill : Fill3 W bm m m (duM bs r m) (fun j => if j < m then bs j else W.heap.size) ts := by
    refine ⟨t3, ?_, fun j hj => ?_, ?_, fun j hj hjk => ?_⟩
    · by_cases e : 0 < m
      · simp only [if_pos e]
        have := t4.lo' 0 e
        omega
      · simp only [if_neg e]
        exact hlt
    · simp only [if_pos hj]
      by_cases e : j + 1 < m
      · simp only [if_pos e]
        have := t4.inc j (j + 1) (by omega) e
        omega
      · simp only [if_neg e]
        have := t4.hi j hj
        omega
    · simp only [if_neg (Nat.lt_irrefl _)]
      exact Nat.le_refl _
    · rw [hts]
      simp only [duM, if_pos hjk]
      refine Tb.rw2h (g := bs j) ⟨(t4.at' j hjk).top, (t4.at' j hjk).rows, t4.hi j hjk⟩ (Nat.le_refl _) ?_ (h8 j) (hc j)
      by_cases e : j + 1 < m
      · simp only [if_pos e]
        exact t4.inc j (j + 1) (by omega) e
      · simp only [if_neg e]
        exact t4.hi j hjk
  obtain ⟨q3, J, s3, n3, d3, z3⟩ := hfill.parts htl.symm hml
  obtain ⟨q1, I, s1, n1, b1, z1⟩ := row_rc (xs := xs) hdim hxl hD hd l1
  refine ⟨⟨q1, q3.wider l2 (Nat.le_refl _)⟩, I, J, s1, s3.wider l2 (Nat.le_refl _), n1, n3.wider ?_ (Nat.le_refl _), d3, fun x hx y hy => Or.inl ?_, z1, z3⟩
  · by_cases e : 0 < m
    · simp only [if_pos e]
      have := t4.lo' 0 e
      omega
    · simp only [if_neg e]
      omega
  · have h1 := b1 x hx
    have h2 := (n3 y hy).1
    have h3 := hdim.lt
    rw [h1]
    by_cases e : 0 < m
    · simp only [if_pos e] at h2
      have := t4.lo' 0 e
      omega
    · simp only [if_neg e] at h2
      omega

def cpD (ds : List Int) : Nat → Value := fun j => .int .i64 (ds.getD j 0)
def cpR (ms : List (List (List Int))) (j : Nat) : Nat := (ms.getD j []).length
def cpC (ds : List Int) (j : Nat) : Nat := (ds.getD j 0).toNat
def cpZ (p : Int) (ms : List (List (List Int))) (j : Nat) : Nat → Nat → Int := scZ p 1 (ms.getD j [])
def CpW (p : Int) (ds : List Int) (ms : List (List (List Int))) (w : World) (e : Ending) (w' : World) : Prop :=
  ∃ bd bm, e = .returned (.agg #[.int .i64 p, .slice (some ⟨bd, 0, none⟩) ds.length ds.length, .slice (some ⟨bm, 0, none⟩) ms.length ms.length]) ∧ CuAt w w' ds.length ms.length (cpD ds) (cpR ms) (cpC ds) (cpZ p ms) bd bm

set_option maxHeartbeats 3200000 in
set_option maxRecDepth 100000 in
theorem copyC_any (p : Int) (dv mv : Value) (ds : List Int) (ms : List (List (List Int))) (w : World) (h : Cx 0 w dv mv ds ms) (hsz : SzOk ds ms) (hp0 : 0 < p) (hp1 : p ≤ 1048576) (hnum : ∀ t ∈ ms, ∀ r ∈ t, ∀ z ∈ r, -1048576 ≤ z ∧ z ≤ 1048576) :
    Calls Try.prog 75 #[.agg #[.int .i64 p, dv, mv]] w (CpW p ds ms w) := by
  obtain ⟨ad, cap, rfl⟩ := Sl.shape h.dims
  obtain ⟨am, capm, rfl⟩ := Sl.shape h.maps
  have hml := hsz.mlen
  have hl6 := hsz.len1
  have HCX := Lib.hid hsz
  have HNUM := Lib.hid hnum
  have HX0 := Lib.hid ((Bx.start (p := p) 40 h).next ((Below.refl _ _).alloc (Nat.le_refl _) (.cells #[.int .i64 0, .slice none 0 0, .slice none 0 0] 40)))
  have hres : Try.f75.results = #[.cell 2 40] := by kernel_rfl
  have HRES := Lib.hid hres
  have hmk := run_make_row' (P := Try.prog) 37 2 (.int .i64 0) 8 Try.underlying37 Try.infoI rfl .i64 .i64 ds.length (by omega) (by omega)
  have hmk2 := run_make_row' (P := Try.prog) 38 22 (.slice none 0 0) 24 Try.underlying38 Try.infoSS rfl .i64 .i64 ms.length (by omega) (by omega)
  obtain ⟨w2, hw2⟩ : ∃ w2, w2 = ((w.alloc (.cells #[.int .i64 p, .slice ad ds.length cap, .slice am ms.length capm] 40)).alloc (.cells #[.int .i64 0, .slice none 0 0, .slice none 0 0] 40)) := ⟨_, rfl⟩
  have HX2 : Hid (Bx w w2 w.heap.size p (.slice ad ds.length cap) (.slice am ms.length capm) ds ms) := Lib.hid (by rw [hw2]; exact HX0.out)
  have hsz2 : w.heap.size + 2 ≤ w2.heap.size := by rw [hw2]; simp
  have HR0 : Hid (∃ x y z, w2.heap[w.heap.size + 1]? = some (.cells #[x, y, z] 40)) := Lib.hid ⟨_, _, _, by rw [hw2]; have := heap_alloc_new (w.alloc (.cells #[.int .i64 p, .slice ad ds.length cap, .slice am ms.length capm] 40)) (.cells #[.int .i64 0, .slice none 0 0, .slice none 0 0] 40); simpa using this⟩
  clear hres h hsz hnum HX0
  have c0 := HX2.out.c0
  have c1 := HX2.out.c1
  have c2 := HX2.out.c2
  have hlt0 : w.heap.size < w2.heap.size := by omega
  have hlt1 : w.heap.size < w2.heap.size + 1 := by omega
  have hlt2 : w.heap.size < w2.heap.size + 2 := by omega
  have hlt3 : w.heap.size < w2.heap.size + 1 + 1 := by omega
  have hlt4 : w.heap.size ≤ w2.heap.size := by omega
  go_enter Try.func75, Try.ntmps75
  go_upto_region 1 with fail
  rw [← hw2]
  clear hw2
  go_cut [3] from 6 to 16 (fun s wx => ∃ g bd bm, s = .pointer (some ⟨g, 0, none⟩) ∧ Hid (Du w2 wx g bd bm ds.length ms.length p (fun _ => .int .i64 0) (fun _ => .slice none 0 0)))
  case first =>
    go_region
    all_goals go_wp2
    all_goals go_meet
    all_goals refine ⟨_, ?_, ?_, rfl, Lib.hid ⟨below3 _ _ _ _, ?_, ?_, ?_, ?_, ?_⟩⟩
    all_goals first
      | exact box1 _ _ _ _ _ _ _ | exact box2 _ _ _ _ _ _ _ | exact box3' _ _ _ _ _ _ _
      | exact made1 _ _ _ _ _ _ | exact made2 _ _ _ _ _ _ | exact made3 _ _ _ _ _ _ | skip
    all_goals omega
  case rest =>
    obtain ⟨g, bd, bm, rfl, HDU⟩ := hcut
    clear hmk hmk2 c0 c1 c2
    obtain ⟨wx, hwx⟩ : ∃ wx : World, wx = wc := ⟨_, rfl⟩
    subst hwx
    have HX3 := Lib.hid (HX2.out.next HDU.out.below)
    have c1 := HX3.out.c1
    have g1 : wx.cell? ⟨g, 1, none⟩ = some (.slice (some ⟨bd, 0, none⟩) ds.length ds.length) := HDU.out.box.cell (i := 1) (by omega)
    obtain ⟨wN, hrun, hszN, hoth, hbl, hrow⟩ := copy_row (Z := fun _ => 0) HDU.out.dims (q := 0) ds.length ds.length ad cap ds HX3.out.cx.dims (by omega) (by omega)
    have HDC : Hid (Du w2 wN g bd bm ds.length ms.length p (cpD ds) (fun _ => .slice none 0 0)) := Lib.hid ⟨hbl _ _ HDU.out.lo.2.1 HDU.out.below, HDU.out.lo, HDU.out.ne, HDU.out.box.of_block (hoth _ HDU.out.ne.1), hrow.congr (fun j hj => by
      unfold cpD
      rw [if_pos (by omega), Nat.sub_zero]), HDU.out.maps.of_block (hoth _ (Ne.symm HDU.out.ne.2.2))⟩
    clear hszN hoth hbl hrow HX3
    have HX3 := Lib.hid (HX2.out.next HDC.out.below)
    have c2 := HX3.out.c2
    go_wp2
    clear c2 hrun c1 g1 HDU
    obtain ⟨wo, hwo⟩ : ∃ wo : World, wo = wN := ⟨_, rfl⟩
    subst hwo
    go_loopw [4, 5, 25] (fun _ _ i wr => ∃ (k : Nat) (bs : Nat → Nat), k ≤ ms.length ∧ i = .int .i64 k ∧ Hid (Du w2 wr g bd bm ds.length ms.length p (cpD ds) (duM bs (cpR ms) k)) ∧ Hid (Ts wo.heap.size wr bs (cpR ms) (cpC ds) (cpZ p ms) k) ∧ Hid (wo.heap.size ≤ wr.heap.size)) (fun _ _ i _ => ms.length - (intOf i).toNat)
    case atStart => exact ⟨0, fun _ => 0, Nat.zero_le _, rfl, Lib.hid (HDC.out.congrM (fun j _ => by simp [duM])), Lib.hid ⟨fun j h => absurd h (Nat.not_lt_zero _), fun j h => absurd h (Nat.not_lt_zero _), fun j h => absurd h (Nat.not_lt_zero _), fun i j _ h => absurd h (Nat.not_lt_zero _)⟩, Lib.hid (Nat.le_refl _)⟩
    case round =>
      obtain ⟨k2, bs, hk2, rfl, HD, HTS, HLE⟩ := hrel
      clear HX3
      by_cases hlt2 : k2 < ms.length
      · have HX3 := Lib.hid (HX2.out.next HD.out.below)
        have c0 := HX3.out.c0
        have g2 : wr.cell? ⟨g, 2, none⟩ = some (.slice (some ⟨bm, 0, none⟩) ms.length ms.length) := HD.out.box.cell (i := 2) (by omega)
        refine Sl.cases HX3.out.cx.maps (fun _ _ hx _ => absurd hlt2 (by simp [hx])) (fun by' oy capy hvy _ hposy hcly => ?_)
        injection hvy with e1 _ e3
        subst e1 e3
        have hlo := HD.out.lo
        have n1 : bm ≠ w.heap.size := by omega
        have ng : bm ≠ g := Ne.symm HD.out.ne.2.1
        clear hlo
        obtain ⟨ut, hut, hrt⟩ := hcly k2 hlt2
        obtain ⟨cq, hcqe⟩ : ∃ cq, cq = cpC ds k2 := ⟨_, rfl⟩
        have hcq8 : cq ≤ 8 := by rw [hcqe]; unfold cpC; have := HCX.out.dim k2; omega
        have t1 := HCX.out.tabs k2 hlt2
        have hd8 := HCX.out.dim (k2 + 1)
        have hd7 := HCX.out.dim k2
        obtain ⟨t, ht⟩ : ∃ t, t = ms[k2] := ⟨_, rfl⟩
        rw [getD_of_lt _ hlt2, ← ht] at t1
        have HT : Hid (L2 0 wr ut t) := Lib.hid (by rw [ht]; exact hrt)
        have HTR : Hid (∀ y ∈ t, y.length = cq ∧ ∀ z ∈ y, -1048576 ≤ z ∧ z ≤ 1048576) := Lib.hid (fun y hy => ⟨by
          have a1 := t1.2 y hy
          rw [hcqe]
          unfold cpC
          omega, HNUM.out t (by rw [ht]; exact List.getElem_mem _) y hy⟩)
        have htl : t.length ≤ 1048576 := by omega
        have HTL := Lib.hid htl
        have HCQ : Hid (cq ≤ 1048576) := Lib.hid (by omega)
        have hmc := HD.out.maps.cell hlt2
        have hmf := HD.out.maps.frozen k2
        have HR1 : Hid (cpR ms k2 = t.length) := Lib.hid (by unfold cpR; rw [getD_of_lt _ hlt2, ht])
        have HR2 : Hid (cpC ds k2 = cq) := Lib.hid hcqe.symm
        have HR3 : Hid (cpZ p ms k2 = scZ p 1 t) := Lib.hid (by unfold cpZ; rw [getD_of_lt _ hlt2, ht])
        obtain ⟨tn, htn⟩ : ∃ tn, tn = t.length := ⟨_, rfl⟩
        have HTN := Lib.hid htn
        have HPP : Hid (0 < p ∧ p ≤ 1048576) := Lib.hid ⟨hp0, hp1⟩
        have HSC : Hid (∀ W, Below wr.heap.size wr W → Calls Try.prog 132 #[.int .i64 p, .int .i64 1, ut] W (MatR tn cq (scZ p 1 t) W)) := Lib.hid (fun W hW => by rw [HTN.out]; exact scaledTableW_any p 1 cq ut t W HPP.out.1 HPP.out.2 ⟨by omega, by omega⟩ (HT.out.below hW) HTL.out HCQ.out HTR.out)
        clear hcly hrt hcqe t1 hd8 hd7 ht hposy htl htn hcq8
        go_wp2
        go_region_held3 (fun w' => w'.cell? ⟨w.heap.size, 0, none⟩ = some (.int .i64 p) ∧ w'.cell? ⟨g, 2, none⟩ = some (.slice (some ⟨bm, 0, none⟩) ms.length ms.length))
          (first | exact ⟨c0, g2⟩ | exact ⟨later hm4.below (Nat.le_refl _) c0, later hm4.below (Nat.le_refl _) g2⟩ | exact ⟨far n1 (later hm4.below (Nat.le_refl _) c0), far ng (later hm4.below (Nat.le_refl _) g2)⟩)
          (first | (go_at_call 132; refine (HSC.out _ (Below.refl _ _).drew).mono ?_; rintro e w4 ⟨rfl, hm4⟩; have hmc4 : w4.cell? ⟨bm, k2, none⟩ = some (duM bs (cpR ms) k2 k2) := (hm4.below.cell (p := ⟨bm, k2, none⟩) HD.out.maps.lt).trans hmc; have hmf4 : w4.frozen? ⟨bm, k2, none⟩ = false := (hm4.below.frozen (p := ⟨bm, k2, none⟩) HD.out.maps.lt).trans hmf))
        have HM4 : Hid (Mat wr.drew w4 (cpR ms k2) (cpC ds k2) (cpZ p ms k2)) := Lib.hid (by rw [HR1.out, HR2.out, HR3.out, ← HTN.out]; exact hm4)
        have HS1 : Hid (Du w2 (w4.setCell ⟨bm, k2, none⟩ (.slice (some ⟨wr.drew.heap.size, 0, none⟩) tn tn)) g bd bm ds.length ms.length p (cpD ds) (duM (fun j => if j = k2 then wr.drew.heap.size else bs j) (cpR ms) (k2 + 1))) := Lib.hid (by
          have h := ((HD.out.drew.next HM4.out.below).setM k2 (.slice (some ⟨wr.drew.heap.size, 0, none⟩) (cpR ms k2) (cpR ms k2))).congrM (fun j _ => duM_step bs (cpR ms) k2 wr.drew.heap.size j)
          rw [HR1.out, ← HTN.out] at h
          exact h)
        have HS2 : Hid (Ts wo.heap.size (w4.setCell ⟨bm, k2, none⟩ (.slice (some ⟨wr.drew.heap.size, 0, none⟩) tn tn)) (fun j => if j = k2 then wr.drew.heap.size else bs j) (cpR ms) (cpC ds) (cpZ p ms) (k2 + 1)) := Lib.hid (HTS.out.drew.step HM4.out HLE.out HDC.out.maps.lt _)
        have HS3 : Hid (wo.heap.size ≤ (w4.setCell ⟨bm, k2, none⟩ (.slice (some ⟨wr.drew.heap.size, 0, none⟩) tn tn)).heap.size) := Lib.hid (by
          have a1 := HLE.out
          have a2 : wr.heap.size ≤ w4.heap.size := HM4.out.below.size
          simp
          omega)
        clear hm4 hmc hmf c0 g2 hut n1 ng
        go_wp2
        go_roundw
        case rel => exact ⟨k2 + 1, _, by omega, by go_num, HS1, HS2, HS3⟩
        case measure => simp [intOf]; omega
      · have g0 : wr.cell? ⟨g, 0, none⟩ = some (.int .i64 p) := HD.out.box.cell (i := 0) (by omega)
        have g1 : wr.cell? ⟨g, 1, none⟩ = some (.slice (some ⟨bd, 0, none⟩) ds.length ds.length) := HD.out.box.cell (i := 1) (by omega)
        have g2 : wr.cell? ⟨g, 2, none⟩ = some (.slice (some ⟨bm, 0, none⟩) ms.length ms.length) := HD.out.box.cell (i := 2) (by omega)
        obtain ⟨x, y, z, hr⟩ := HR0.out
        have hrow : wr.rowIs (w.heap.size + 1) 40 3 (sel3 x y z) := rowIs3 (by rw [HD.out.below.block (w.heap.size + 1) (by omega)]; exact hr)
        have q0 : wr.cell? ⟨w.heap.size + 1, 0, none⟩ = some x := hrow.cell (i := 0) (by omega)
        have z0 : wr.frozen? ⟨w.heap.size + 1, 0, none⟩ = false := hrow.frozen 0
        have r1 := hrow.set 0 (.int .i64 p)
        have q1 : (wr.setCell ⟨w.heap.size + 1, 0, none⟩ (.int .i64 p)).cell? ⟨w.heap.size + 1, 1, none⟩ = some y := r1.cell (i := 1) (by omega)
        have z1 : (wr.setCell ⟨w.heap.size + 1, 0, none⟩ (.int .i64 p)).frozen? ⟨w.heap.size + 1, 1, none⟩ = false := r1.frozen 1
        have r2 := r1.set 1 (.slice (some ⟨bd, 0, none⟩) ds.length ds.length)
        have q2 : ((wr.setCell ⟨w.heap.size + 1, 0, none⟩ (.int .i64 p)).setCell ⟨w.heap.size + 1, 1, none⟩ (.slice (some ⟨bd, 0, none⟩) ds.length ds.length)).cell? ⟨w.heap.size + 1, 2, none⟩ = some z := r2.cell (i := 2) (by omega)
        have z2 : ((wr.setCell ⟨w.heap.size + 1, 0, none⟩ (.int .i64 p)).setCell ⟨w.heap.size + 1, 1, none⟩ (.slice (some ⟨bd, 0, none⟩) ds.length ds.length)).frozen? ⟨w.heap.size + 1, 2, none⟩ = false := r2.frozen 2
        have r3 := r2.set 2 (.slice (some ⟨bm, 0, none⟩) ms.length ms.length)
        obtain ⟨WF, hWF⟩ : ∃ W : World, W = ((wr.setCell ⟨w.heap.size + 1, 0, none⟩ (.int .i64 p)).setCell ⟨w.heap.size + 1, 1, none⟩ (.slice (some ⟨bd, 0, none⟩) ds.length ds.length)).setCell ⟨w.heap.size + 1, 2, none⟩ (.slice (some ⟨bm, 0, none⟩) ms.length ms.length) := ⟨_, rfl⟩
        rw [← hWF] at r3
        have f0 : WF.cell? ⟨w.heap.size + 1, 0, none⟩ = some (.int .i64 p) := r3.cell (i := 0) (by omega)
        have f1 : WF.cell? ⟨w.heap.size + 1, 1, none⟩ = some (.slice (some ⟨bd, 0, none⟩) ds.length ds.length) := r3.cell (i := 1) (by omega)
        have f2 : WF.cell? ⟨w.heap.size + 1, 2, none⟩ = some (.slice (some ⟨bm, 0, none⟩) ms.length ms.length) := r3.cell (i := 2) (by omega)
        have HWF := Lib.hid hWF
        have HAT : Hid (CuAt w WF ds.length ms.length (cpD ds) (cpR ms) (cpC ds) (cpZ p ms) bd bm) := Lib.hid (by
          have hk2e : k2 = ms.length := by omega
          have hlo := HD.out.lo
          have b0 : CuAt w wr ds.length ms.length (cpD ds) (cpR ms) (cpC ds) (cpZ p ms) bd bm := ⟨HX2.out.below.trans (HD.out.below.mono hlt4), ⟨by omega, by omega, HD.out.ne.2.2⟩, HD.out.dims, wo.heap.size, bs, HDC.out.dims.lt, HDC.out.maps.lt, by have h := HD.out.maps; rw [hk2e] at h; exact h, by have h := HTS.out; rw [hk2e] at h; exact h⟩
          rw [hWF]
          exact ((b0.set (a := ⟨w.heap.size + 1, 0, none⟩) (Nat.le_succ _) (by show w.heap.size + 1 < bd; omega) (by show w.heap.size + 1 < bm; omega) _).set (a := ⟨w.heap.size + 1, 1, none⟩) (Nat.le_succ _) (by show w.heap.size + 1 < bd; omega) (by show w.heap.size + 1 < bm; omega) _).set (a := ⟨w.heap.size + 1, 2, none⟩) (Nat.le_succ _) (by show w.heap.size + 1 < bd; omega) (by show w.heap.size + 1 < bm; omega) _)
        clear hr hrow r1 r2 r3 hWF
        go_wp2
        rw [← HWF.out]
        refine bodyPost_ret (v := .agg #[.int .i64 p, .slice (some ⟨bd, 0, none⟩) ds.length ds.length, .slice (some ⟨bm, 0, none⟩) ms.length ms.length]) ?_ rfl ?_
        · simp only [results, HRES.out]
          go_simp
        · exact ⟨bd, bm, rfl, HAT.out⟩
end Go.Proofs.Ytbadjfnelpfhcaa


namespace Go.Proofs.Ytbadjfnelpfhcaa
open Go.RowKit

def clD (ds : List (List Int)) (i : Nat) : List Int := ds.getD i []
def clM (dn : List (List (List (List Int)))) (i : Nat) : List (List (List Int)) := (dn.getD i []).drop 1
def clO (p : Int) (ds : List (List Int)) (dn : List (List (List (List Int)))) (i : Int) : Co := (p, clD ds i.toNat, clM dn i.toNat)
open Classical in
noncomputable def clCode (p : Int) (ds : List (List Int)) (ac dn : List (List (List (List Int)))) (i : Int) : Int := if IsDb p ds ac dn then (if 0 ≤ i ∧ i < ds.length then 0 else 2) else 1
theorem clCode_1 {p : Int} {ds : List (List Int)} {ac dn : List (List (List (List Int)))} {i : Int} (h : ¬ IsDb p ds ac dn) : clCode p ds ac dn i = 1 := if_neg h
theorem clCode_2 {p : Int} {ds : List (List Int)} {ac dn : List (List (List (List Int)))} {i : Int} (h : IsDb p ds ac dn) (hi : ¬ (0 ≤ i ∧ i < ds.length)) : clCode p ds ac dn i = 2 := by unfold clCode; rw [if_pos h, if_neg hi]
theorem clCode_0 {p : Int} {ds : List (List Int)} {ac dn : List (List (List (List Int)))} {i : Int} (h : IsDb p ds ac dn) (hi : 0 ≤ i ∧ i < ds.length) : clCode p ds ac dn i = 0 := by unfold clCode; rw [if_pos h, if_pos hi]
theorem clCode_zero {p : Int} {ds : List (List Int)} {ac dn : List (List (List (List Int)))} {i : Int} (h : clCode p ds ac dn i = 0) : IsDb p ds ac dn ∧ 0 ≤ i ∧ i < ds.length := by
  by_cases hc : IsDb p ds ac dn
  · by_cases hp : 0 ≤ i ∧ i < ds.length
    · exact ⟨hc, hp⟩
    · rw [clCode_2 hc hp] at h; cases h
  · rw [clCode_1 hc] at h; cases h
theorem clM_at (dn : List (List (List (List Int)))) (i k : Nat) : (clM dn i).getD k [] = (dn.getD i []).getD (k + 1) [] := by
  simp [clM, List.getD_eq_getElem?_getD]

section
variable {p : Int} {ds : List (List Int)} {ac dn : List (List (List (List Int)))} {i : Nat}
theorem cl_len (hok : DclOk ds) (hi : i < ds.length) : 1 ≤ (clD ds i).length ∧ (clD ds i).length ≤ 4 := by
  have h1 := (hok.col _ (List.getElem_mem hi)).1
  have h2 := hok.h0
  have h3 := hok.h1
  unfold clD
  rw [getD_of_lt _ hi]
  omega
theorem cl_mlen (hok : DclOk ds) (ht : TbsOk p ds ac dn) (hi : i < ds.length) : (clM dn i).length + 1 = (clD ds i).length := by
  have h1 := cl_len hok hi
  have h2 := ht.cd i hi
  unfold clM
  unfold clD at h1 ⊢
  rw [List.length_drop]
  omega
theorem cl_tabk (hok : DclOk ds) (ht : TbsOk p ds ac dn) (hi : i < ds.length) {k : Nat} (hk : k < (clM dn i).length) : TabOk p ((clD ds i).getD (k + 1) 0) ((clD ds i).getD k 0) ((clM dn i).getD k []) := by
  have hl := cl_mlen hok ht hi
  have h := (ht.tab (i, k + 1) (mem_cells.2 ⟨hi, by show k + 1 < (clD ds i).length; omega⟩)).2
  rw [clM_at]
  have e : (((k + 1 : Nat) : Int)) - 1 = ((k : Nat) : Int) := by omega
  simp only [e, dcl_nat] at h
  exact h
theorem cl_sz (hok : DclOk ds) (ht : TbsOk p ds ac dn) (hi : i < ds.length) : SzOk (clD ds i) (clM dn i) := by
  have hl := cl_len hok hi
  refine ⟨hl.1, by omega, cl_mlen hok ht hi, fun d hd => ?_, fun k hk => ?_⟩
  · have h1 := (hok.col _ (List.getElem_mem hi)).2 d (by unfold clD at hd; rwa [getD_of_lt _ hi] at hd)
    omega
  · have h1 := cl_tabk hok ht hi hk
    exact ⟨h1.1, fun x hx => (h1.2 x hx).1⟩
theorem cl_num (hp : IsP p) (hok : DclOk ds) (ht : TbsOk p ds ac dn) (hi : i < ds.length) : ∀ t ∈ clM dn i, ∀ r ∈ t, ∀ z ∈ r, -1048576 ≤ z ∧ z ≤ 1048576 := by
  intro t htm r hr z hz
  obtain ⟨k, hk, rfl⟩ := List.getElem_of_mem htm
  have h1 := cl_tabk hok ht hi hk
  rw [getD_of_lt _ hk] at h1
  have h2 := (h1.2 r hr).2 z hz
  have h3 := hp.hi
  omega
theorem cl_tab (hok : DclOk ds) (ht : TbsOk p ds ac dn) (hi : i < ds.length) {j : Nat} (hj : j < (clM dn i).length) : (clM dn i)[j] = tableOf (cpR (clM dn i) j) (cpC (clD ds i) j) (cpZ p (clM dn i) j) := by
  have ht := cl_tabk hok ht hi hj
  rw [getD_of_lt _ hj] at ht
  refine List.ext_getElem (by simp [tableOf, cpR, hj]) fun a h1 h2 => ?_
  have hra := ht.2 _ (List.getElem_mem h1)
  simp only [tableOf, List.getElem_map, List.getElem_range]
  refine List.ext_getElem (by simp only [List.length_map, List.length_range, cpC]; have := hra.1; omega) fun b h3 h4 => ?_
  have hz := hra.2 _ (List.getElem_mem h3)
  simp only [List.getElem_map, List.getElem_range, cpZ, scZ]
  rw [getD_of_lt _ hj, getD_of_lt _ h1, getD_of_lt _ h3, Int.one_mul, Int.emod_eq_of_lt hz.1 (by omega)]
theorem cl_bd (hok : DclOk ds) (ht : TbsOk p ds ac dn) (hi : i < ds.length) : CoB (p, clD ds i, clM dn i) := by
  have hs := cl_sz hok ht hi
  refine ⟨by show (clD ds i).length ≤ _; have := hs.len1; omega, by show (clM dn i).length ≤ _; have := hs.len1; have := hs.mlen; omega, fun t htm => ?_⟩
  obtain ⟨k, hk, rfl⟩ := List.getElem_of_mem (show t ∈ clM dn i from htm)
  have h1 := hs.tabs k hk
  have d0 := hs.dim k
  have d1 := hs.dim (k + 1)
  rw [getD_of_lt _ hk] at h1
  refine ⟨by have := h1.1; omega, fun r hr => ?_⟩
  have := h1.2 r hr
  show r.length ≤ _
  omega
end
theorem Sl.drop1 {α : Type} {lo : Nat} {R : World → Value → α → Prop} {w : World} {b o n : Nat} {xs : List α} (hn : n = xs.length) (hlo : lo ≤ b) (h : ∀ k (hk : k < xs.length), ∃ u, w.cell? ⟨b, o + k, none⟩ = some u ∧ R w u xs[k]) (o1 : Nat) (ho : n - 1 = 0 ∨ o1 = o + 1) (c1 : Nat) : Sl lo R w (.slice (some ⟨b, o1, none⟩) (n - 1) c1) (xs.drop 1) := by
  by_cases h0 : n - 1 = 0
  · exact .inl ⟨List.eq_nil_of_length_eq_zero (by rw [List.length_drop]; omega), _, _, by rw [h0]⟩
  · have e : o1 = o + 1 := by omega
    subst e
    refine .inr ⟨b, o + 1, c1, by rw [List.length_drop, hn], hlo, by rw [List.length_drop]; omega, fun k hk => ?_⟩
    rw [List.length_drop] at hk
    obtain ⟨u, h1, h2⟩ := h (k + 1) (by omega)
    exact ⟨u, by rw [Nat.add_assoc, Nat.add_comm 1 k]; exact h1, by rw [List.getElem_drop]; simpa [Nat.add_comm] using h2⟩
def dpO (o cap : Nat) : Nat := if cap = 1 then o else o + 1
theorem drop_run (b o n cap : Nat) (h : 1 ≤ n) (W : World) : (Instr.sliceAt 38 (.slice (some ⟨b, o, none⟩) n cap) (some (.int .i64 1)) none none).run Try.prog W = .ok (.slice (some ⟨b, dpO o cap, none⟩) (n - 1) (cap - 1)) W := by
  have hU : Try.prog.underlying 38 = some (.slice (Try.prog.elem 38)) := by kernel_rfl
  have hz : (sizeOf (Try.prog.elem 38)).run Try.prog W = .ok 1 W := by kernel_rfl
  rw [run_sliceAt_slice _ _ _ _ _ _ hU, run_slice_l _ _ _ _ _ hU _ _ (by decide) (by omega), hz]
  show Result.ok (sliced (some ⟨b, o, none⟩) 1 n cap 1) W = _
  unfold sliced dpO
  by_cases e : cap = 1
  · rw [if_pos e, if_pos e]
  · rw [if_neg e, if_neg e]
    rfl
section
variable {P : Program} {ops : Array Oper} {S : World → Prop}
theorem yieldsIf_sliceC {o : Oper} {a : Act} {x y : Operand} {v u i : Value} {t : TypeId} (hg : o.guard = none) (ho : o.op = .slice t x (some y) none none) (hx : a.eval x = u) (hy : a.eval y = i) (hrun : ∀ w, (Instr.sliceAt t u (some i) none none).run P w = .ok v w) : YieldsIf P ops S o v a :=
  Or.inl ⟨by unfold Region.wanted; rw [hg], fun w _ => by
    unfold execOp
    simp only [ho, hx, hy, Option.map, Sem.run_bind, hrun w, Result.andThen_ok]
    rfl⟩
end
theorem hidx2s (b o : Nat) {k n : Nat} (cap : Nat) (hk : k < n) (w : World) : (Instr.indexAt 22 (.slice (some ⟨b, o, none⟩) n cap) (.int .i64 k)).run Try.prog w = .ok (.pointer (some ⟨b, o + k, none⟩)) w := by
  have h2 : (0 : Int) ≤ (k : Int) := by omega
  have h3 : (k : Int) < (n : Int) := by omega
  go_simp
theorem hload1s (w : World) {b o : Nat} {x : Value} (h : w.cell? ⟨b, o, none⟩ = some x) : (Instr.loadAt 37 (.pointer (some ⟨b, o, none⟩))).run Try.prog w = .ok x w := by go_simp

set_option maxRecDepth 100000 in
set_option maxHeartbeats 3200000 in
theorem columnComplex_any (p : Int) (i : Nat) (dv av vv : Value) (ds : List (List Int)) (ac dn : List (List (List (List Int)))) (w : World) (h : Dx 0 w dv av vv ds ac dn) (hc : L5 0 w vv dn) (hi : i < ds.length) (hid : i < dn.length) (hn : 1 ≤ (dn.getD i []).length) :
    Calls Try.prog 76 #[.agg #[.int .i64 p, dv, av, vv], .int .i64 (i : Int)] w fun e w' => ∃ a1 c1 a2 c2, e = .returned (.agg #[.int .i64 p, .slice a1 (clD ds i).length c1, .slice a2 (clM dn i).length c2]) ∧ Below w.heap.size w w' ∧ Cx 0 w' (.slice a1 (clD ds i).length c1) (.slice a2 (clM dn i).length c2) (clD ds i) (clM dn i) := by
  have hres : Try.f76.results = #[.cell 4 40] := by kernel_rfl
  have HRES := Lib.hid hres
  have hx0 := (DBx.start (p := p) 28 h).next (w' := (w.alloc (.cells #[.int .i64 p, dv, av, vv] 28)).alloc (.cells #[.int .i64 0, .slice none 0 0, .slice none 0 0] 40)) ((Below.refl _ _).alloc (Nat.le_refl _) _)
  rcases h.dims with ⟨hx, _⟩ | ⟨b, o, c2', hdv, _, _, hcl⟩
  · exact absurd (hx ▸ hi) (Nat.not_lt_zero _)
  rcases hc with ⟨hx, _⟩ | ⟨bd, od, cd', hvv, _, _, hcld⟩
  · exact absurd (hx ▸ hid) (Nat.not_lt_zero _)
  obtain ⟨ur, hur, hrr⟩ := hcl i hi
  obtain ⟨ud, hud, hrd, hcap⟩ := hcld i hid
  obtain ⟨a1, c1, rfl⟩ := Sl.shape hrr
  rw [getD_of_lt _ hid] at hn
  rcases hrd with ⟨hx, _⟩ | ⟨b3, o3, c3, hud3, _, _, hcl3⟩
  · rw [hx] at hn; exact absurd hn (by decide)
  subst hud3
  have hbw : Below w.heap.size w ((w.alloc (.cells #[.int .i64 p, dv, av, vv] 28)).alloc (.cells #[.int .i64 0, .slice none 0 0, .slice none 0 0] 40)) := hx0.below
  have hcx : Cx 0 w (.slice a1 (clD ds i).length c1) (.slice (some ⟨b3, dpO o3 c3, none⟩) (clM dn i).length (c3 - 1)) (clD ds i) (clM dn i) := by
    refine ⟨by unfold clD; rw [getD_of_lt _ hi]; exact hrr, ?_⟩
    unfold clM
    rw [getD_of_lt _ hid, List.length_drop]
    refine Sl.drop1 (b := b3) (o := o3) rfl (Nat.zero_le _) hcl3 (dpO o3 c3) ?_ _
    obtain ⟨a', n', c', e, hle⟩ := hcap
    injection e with e1 e2 e3
    unfold dpO
    by_cases e : c3 = 1
    · left; omega
    · right; rw [if_neg e]
  have HCX := Lib.hid hcx
  have hlm : (clM dn i).length = (dn[i]).length - 1 := by unfold clM; rw [getD_of_lt _ hid, List.length_drop]
  have hld : (clD ds i).length = (ds[i]).length := by unfold clD; rw [getD_of_lt _ hi]
  rw [hlm, hld]
  have HLM := Lib.hid hlm
  have HLD := Lib.hid hld
  obtain ⟨q, hq⟩ : ∃ q, q = (ds[i]).length := ⟨_, rfl⟩
  obtain ⟨qd, hqd⟩ : ∃ q, q = (dn[i]).length := ⟨_, rfl⟩
  obtain ⟨m, hm⟩ : ∃ m, m = ds.length := ⟨_, rfl⟩
  obtain ⟨md, hmd⟩ : ∃ m, m = dn.length := ⟨_, rfl⟩
  rw [← hq] at hur HLD ⊢
  rw [← hqd] at hud hn HLM ⊢
  rw [← hm] at hi hdv
  rw [← hmd] at hid hvv
  subst hdv
  subst hvv
  obtain ⟨W0, hW0⟩ : ∃ W0, W0 = (w.alloc (.cells #[.int .i64 p, .slice (some ⟨b, o, none⟩) m c2', av, .slice (some ⟨bd, od, none⟩) md cd'] 28)).alloc (.cells #[.int .i64 0, .slice none 0 0, .slice none 0 0] 40) := ⟨_, rfl⟩
  have hz0 : W0.heap.size = w.heap.size + 2 := by rw [hW0]; simp
  have hr0 : W0.heap[w.heap.size + 1]? = some (.cells #[.int .i64 0, .slice none 0 0, .slice none 0 0] 40) := by rw [hW0]; have := heap_alloc_new (w.alloc (.cells #[.int .i64 p, .slice (some ⟨b, o, none⟩) m c2', av, .slice (some ⟨bd, od, none⟩) md cd'] 28)) (.cells #[.int .i64 0, .slice none 0 0, .slice none 0 0] 40); simpa using this
  rw [← hW0] at hx0 hbw
  have HX0 := Lib.hid hx0
  have HBW := Lib.hid hbw
  have HNX : Hid (∀ X, Below W0.heap.size W0 X → X.cell? ⟨w.heap.size, 0, none⟩ = some (.int .i64 p) ∧ X.cell? ⟨w.heap.size, 1, none⟩ = some (.slice (some ⟨b, o, none⟩) m c2') ∧ X.cell? ⟨w.heap.size, 3, none⟩ = some (.slice (some ⟨bd, od, none⟩) md cd')) := Lib.hid (fun X hb => let h := HX0.out.next hb; ⟨h.c0, h.c1, h.c3⟩)
  have HUR : Hid (∀ X, Below W0.heap.size W0 X → X.cell? ⟨b, o + i, none⟩ = some (.slice a1 q c1) ∧ X.cell? ⟨bd, od + i, none⟩ = some (.slice (some ⟨b3, o3, none⟩) qd c3)) := Lib.hid (fun X hb => ⟨later (HBW.out.trans (hb.mono HBW.out.size)) (Nat.le_refl _) hur, later (HBW.out.trans (hb.mono HBW.out.size)) (Nat.le_refl _) hud⟩)
  have HR0 := Lib.hid hr0
  clear hx0 hbw hcx hcl hcld hcl3 hrr hcap h hur hud hr0 hq hqd hm hmd hlm hld hres
  go_enter Try.func76, Try.ntmps76
  go_upto_region 1 with fail
  rw [← hW0]
  clear hW0
  refine wp_region_last (fun X => Below W0.heap.size W0 X) 14 (by kernel_rfl) rfl (by kernel_rfl) ?_
  have S0 : Below W0.heap.size W0 W0.drew := (Below.refl _ _).drew
  change wpAnyH _ _ _ _ _ _ _ _ W0.drew
  obtain ⟨wd, hwd⟩ : ∃ wd, wd = W0.drew := ⟨_, rfl⟩
  rw [← hwd] at S0 ⊢
  have HRD : Hid (wd.heap[w.heap.size + 1]? = some (.cells #[.int .i64 0, .slice none 0 0, .slice none 0 0] 40)) := Lib.hid ((S0.block _ (by omega)).trans HR0.out)
  clear hwd
  refine held_take (i := 0) (v := .pointer (some ⟨w.heap.size, 0, none⟩)) (some 5) rfl rfl (by kernel_rfl) (by kernel_rfl) (by kernel_rfl) (fun _ _ _ h => h) (yieldsIf_run (by kernel_rfl) (fun W _ => by kernel_rfl)) S0 ?_
  refine held_take (i := 1) (v := .int .i64 p) (some 6) rfl rfl (by kernel_rfl) (by kernel_rfl) (by kernel_rfl) (fun _ _ _ h => h) (yieldsIf_cell (by kernel_rfl) rfl (by kernel_rfl) (fun W h => hloadIn W (HNX.out W h).1)) S0 ?_
  refine held_take (i := 2) (v := .pointer (some ⟨w.heap.size, 1, none⟩)) (some 7) rfl rfl (by kernel_rfl) (by kernel_rfl) (by kernel_rfl) (fun _ _ _ h => h) (yieldsIf_run (by kernel_rfl) (fun W _ => by kernel_rfl)) S0 ?_
  refine held_take (i := 3) (v := .slice (some ⟨b, o, none⟩) m c2') (some 8) rfl rfl (by kernel_rfl) (by kernel_rfl) (by kernel_rfl) (fun _ _ _ h => h) (yieldsIf_cell (by kernel_rfl) rfl (by kernel_rfl) (fun W h => hload2s W (HNX.out W h).2.1)) S0 ?_
  refine held_take (i := 4) (v := .int .i64 (i : Int)) (some 9) rfl rfl (by kernel_rfl) (by kernel_rfl) (by kernel_rfl) (fun _ _ _ h => h) (yieldsIf_move (by kernel_rfl) rfl (by kernel_rfl)) S0 ?_
  refine held_take (i := 5) (v := .pointer (some ⟨b, o + i, none⟩)) (some 10) rfl rfl (by kernel_rfl) (by kernel_rfl) (by kernel_rfl) (fun _ _ _ h => h) (yieldsIf_index (by kernel_rfl) rfl (by kernel_rfl) (by kernel_rfl) (hidx2s b o c2' hi)) S0 ?_
  refine held_take (i := 6) (v := .slice a1 q c1) (some 11) rfl rfl (by kernel_rfl) (by kernel_rfl) (by kernel_rfl) (fun _ _ _ h => h) (yieldsIf_cell (by kernel_rfl) rfl (by kernel_rfl) (fun W h => hload1s W (HUR.out W h).1)) S0 ?_
  refine held_take (i := 7) (v := .pointer (some ⟨w.heap.size, 3, none⟩)) (some 12) rfl rfl (by kernel_rfl) (by kernel_rfl) (by kernel_rfl) (fun _ _ _ h => h) (yieldsIf_run (by kernel_rfl) (fun W _ => by kernel_rfl)) S0 ?_
  refine held_take (i := 8) (v := .slice (some ⟨bd, od, none⟩) md cd') (some 13) rfl rfl (by kernel_rfl) (by kernel_rfl) (by kernel_rfl) (fun _ _ _ h => h) (yieldsIf_cell (by kernel_rfl) rfl (by kernel_rfl) (fun W h => hload4 W (HNX.out W h).2.2)) S0 ?_
  refine held_take (i := 9) (v := .int .i64 (i : Int)) (some 14) rfl rfl (by kernel_rfl) (by kernel_rfl) (by kernel_rfl) (fun _ _ _ h => h) (yieldsIf_move (by kernel_rfl) rfl (by kernel_rfl)) S0 ?_
  refine held_take (i := 10) (v := .pointer (some ⟨bd, od + i, none⟩)) (some 15) rfl rfl (by kernel_rfl) (by kernel_rfl) (by kernel_rfl) (fun _ _ _ h => h) (yieldsIf_index (by kernel_rfl) rfl (by kernel_rfl) (by kernel_rfl) (hidx4 (cap := cd') rfl hid)) S0 ?_
  refine held_take (i := 11) (v := .slice (some ⟨b3, o3, none⟩) qd c3) (some 16) rfl rfl (by kernel_rfl) (by kernel_rfl) (by kernel_rfl) (fun _ _ _ h => h) (yieldsIf_cell (by kernel_rfl) rfl (by kernel_rfl) (fun W h => hload3s W (HUR.out W h).2)) S0 ?_
  refine held_take (i := 12) (v := .slice (some ⟨b3, dpO o3 c3, none⟩) (qd - 1) (c3 - 1)) (some 17) rfl rfl (by kernel_rfl) (by kernel_rfl) (by kernel_rfl) (fun _ _ _ h => h) (yieldsIf_sliceC (by kernel_rfl) rfl (by kernel_rfl) (by kernel_rfl) (fun W => drop_run b3 o3 qd c3 hn W)) S0 ?_
  refine held_take (i := 13) (v := .agg #[.int .i64 p, .slice a1 q c1, .slice (some ⟨b3, dpO o3 c3, none⟩) (qd - 1) (c3 - 1)]) (some 18) rfl rfl (by kernel_rfl) (by kernel_rfl) (by kernel_rfl) (fun _ _ _ h => h) (yieldsIf_run (by kernel_rfl) (fun W _ => by kernel_rfl)) S0 ?_
  refine held_none (i := 14) (v := .bool false) rfl rfl (by kernel_rfl) (by kernel_rfl) (by kernel_rfl) (fun _ _ _ h => h) (yieldsIf_move (by kernel_rfl) rfl (by kernel_rfl)) S0 ?_
  refine wpAnyH_done (by kernel_rfl) (lastQ_of rfl (by kernel_rfl) ?_) _
  simp only [Act.put, List.setIfInBounds_toArray, List.set_cons_zero, List.set_cons_succ]
  have r0 := rowIs3 HRD.out
  have q0 : wd.cell? ⟨w.heap.size + 1, 0, none⟩ = some (.int .i64 0) := r0.cell (i := 0) (by omega)
  have z0 : wd.frozen? ⟨w.heap.size + 1, 0, none⟩ = false := r0.frozen 0
  have r1 := r0.set 0 (.int .i64 p)
  have q1 : (wd.setCell ⟨w.heap.size + 1, 0, none⟩ (.int .i64 p)).cell? ⟨w.heap.size + 1, 1, none⟩ = some (.slice none 0 0) := r1.cell (i := 1) (by omega)
  have z1 : (wd.setCell ⟨w.heap.size + 1, 0, none⟩ (.int .i64 p)).frozen? ⟨w.heap.size + 1, 1, none⟩ = false := r1.frozen 1
  have r2 := r1.set 1 (.slice a1 q c1)
  have q2 : ((wd.setCell ⟨w.heap.size + 1, 0, none⟩ (.int .i64 p)).setCell ⟨w.heap.size + 1, 1, none⟩ (.slice a1 q c1)).cell? ⟨w.heap.size + 1, 2, none⟩ = some (.slice none 0 0) := r2.cell (i := 2) (by omega)
  have z2 : ((wd.setCell ⟨w.heap.size + 1, 0, none⟩ (.int .i64 p)).setCell ⟨w.heap.size + 1, 1, none⟩ (.slice a1 q c1)).frozen? ⟨w.heap.size + 1, 2, none⟩ = false := r2.frozen 2
  have r3 := r2.set 2 (.slice (some ⟨b3, dpO o3 c3, none⟩) (qd - 1) (c3 - 1))
  obtain ⟨WF, hWF⟩ : ∃ W : World, W = (((wd.setCell ⟨w.heap.size + 1, 0, none⟩ (.int .i64 p)).setCell ⟨w.heap.size + 1, 1, none⟩ (.slice a1 q c1)).setCell ⟨w.heap.size + 1, 2, none⟩ (.slice (some ⟨b3, dpO o3 c3, none⟩) (qd - 1) (c3 - 1))) := ⟨_, rfl⟩
  have HB : Hid (Below w.heap.size w WF) := Lib.hid (by
    rw [hWF]
    exact (((HBW.out.trans (S0.mono HBW.out.size)).setCell (by show w.heap.size ≤ w.heap.size + 1; omega) _).setCell (by show w.heap.size ≤ w.heap.size + 1; omega) _).setCell (by show w.heap.size ≤ w.heap.size + 1; omega) _)
  rw [← hWF] at r3
  have f0 : WF.cell? ⟨w.heap.size + 1, 0, none⟩ = some (.int .i64 p) := r3.cell (i := 0) (by omega)
  have f1 : WF.cell? ⟨w.heap.size + 1, 1, none⟩ = some (.slice a1 q c1) := r3.cell (i := 1) (by omega)
  have f2 : WF.cell? ⟨w.heap.size + 1, 2, none⟩ = some (.slice (some ⟨b3, dpO o3 c3, none⟩) (qd - 1) (c3 - 1)) := r3.cell (i := 2) (by omega)
  have HWF := Lib.hid hWF
  clear r0 r1 r2 r3 hWF S0
  go_simp
  rw [← HWF.out]
  go_wp2
  refine bodyPost_ret (v := .agg #[.int .i64 p, .slice a1 q c1, .slice (some ⟨b3, dpO o3 c3, none⟩) (qd - 1) (c3 - 1)]) ?_ rfl ?_
  · simp only [results, HRES.out]
    go_simp
  · have hcx := HCX.out.below HB.out
    rw [HLM.out, HLD.out] at hcx
    exact ⟨_, _, _, _, rfl, HB.out, hcx⟩
end Go.Proofs.Ytbadjfnelpfhcaa


namespace Go.Proofs.Ytbadjfnelpfhcaa
open Go.RowKit

theorem cpR_8c {ds : List Int} {ms : List (List (List Int))} (h : SzOk ds ms) (j : Nat) : cpR ms j ≤ 1048576 := by
  unfold cpR
  by_cases hj : j < ms.length
  · have := (h.tabs j hj).1
    have := h.dim (j + 1)
    omega
  · rw [List.getD_eq_getElem?_getD, List.getElem?_eq_none (by omega)]
    simp
theorem cpC_8c {ds : List Int} {ms : List (List (List Int))} (h : SzOk ds ms) (j : Nat) : cpC ds j ≤ 1048576 := by
  unfold cpC
  have := h.dim j
  omega

set_option maxHeartbeats 3200000 in
set_option maxRecDepth 100000 in
theorem columnOf_any (p i : Int) (dv av vv : Value) (ds : List (List Int)) (ac dn : List (List (List (List Int)))) (w : World) (h : Dx 0 w dv av vv ds ac dn) (hc : L5 0 w vv dn) (hbd : Bd2 1048576 ds) (hba : Bd4 1048576 ac) (hbv : Bd4 1048576 dn) :
    Calls Try.prog 26 #[.agg #[.int .i64 p, dv, av, vv], .int .i64 i] w (AnsW RwC (fun o => o = clO p ds dn i) (0, [], []) (clCode p ds ac dn i) w) := by
  have hres : Try.f26.results = #[.cell 4 40, .tmp 5] := by kernel_rfl
  have HRES := Lib.hid hres
  obtain ⟨w1, hw1⟩ : ∃ w1, w1 = (w.alloc (.cells #[.int .i64 p, dv, av, vv] 28)).alloc (.cells #[.int .i64 0, .slice none 0 0, .slice none 0 0] 40) := ⟨_, rfl⟩
  have HX1 : Hid (DBx w w1 w.heap.size p dv av vv ds ac dn) := Lib.hid (by rw [hw1]; exact (DBx.start 28 h).next (below_alloc1 _ _))
  have HL5 := Lib.hid (hc.below HX1.out.below)
  have HS1 : Hid (w.heap.size + 1 < w1.heap.size) := Lib.hid (by rw [hw1]; simp)
  have HR0 : Hid (∃ x y z, w1.heap[w.heap.size + 1]? = some (.cells #[x, y, z] 40)) := Lib.hid ⟨_, _, _, by rw [hw1]; have := heap_alloc_new (w.alloc (.cells #[.int .i64 p, dv, av, vv] 28)) (.cells #[.int .i64 0, .slice none 0 0, .slice none 0 0] 40); simpa using this⟩
  have HID := Lib.hid (isDouble_any p dv av vv ds ac dn w1 HX1.out.dx hbd hba hbv)
  have c0 := HX1.out.c0
  have c1 := HX1.out.c1
  have c2 := HX1.out.c2
  have c3 := HX1.out.c3
  have hbl : ds.length ≤ 1048576 := hbd.1
  obtain ⟨cc, hcc⟩ : ∃ cc, cc = clCode p ds ac dn i := ⟨_, rfl⟩
  have HCC := Lib.hid hcc
  rw [← hcc]
  clear hres h hc hbd hba hbv hcc
  go_enter Try.func26, Try.ntmps26
  go_upto_region 1 with fail
  rw [← hw1]
  clear hw1
  go_wp2_with fail
  refine HID.out.mono ?_
  rintro e w2 ⟨bb, rfl, hb2, hbb⟩
  have HX2 := Lib.hid (HX1.out.next hb2)
  have HL52 := Lib.hid (HL5.out.below hb2)
  have HBB := Lib.hid hbb
  have HS2 : Hid (w.heap.size + 1 < w2.heap.size) := Lib.hid (by have := HS1.out; have := hb2.size; omega)
  have HR2 : Hid (∃ x y z, w2.heap[w.heap.size + 1]? = some (.cells #[x, y, z] 40)) := Lib.hid (by obtain ⟨x, y, z, hh⟩ := HR0.out; exact ⟨x, y, z, by rw [hb2.block (w.heap.size + 1) HS1.out]; exact hh⟩)
  clear hb2 hbb c0 c1 c2 c3 HID HR0 HX1 HL5
  cases bb with
  | false =>
    have hno : ¬ IsDb p ds ac dn := fun h => by have := HBB.out.2 h; cases this
    obtain rfl : cc = 1 := HCC.out.trans (clCode_1 hno)
    clear hno
    obtain ⟨x, y, z, hr⟩ := HR2.out
    have hrow : w2.rowIs (w.heap.size + 1) 40 3 (sel3 x y z) := rowIs3 hr
    have q0 : w2.cell? ⟨w.heap.size + 1, 0, none⟩ = some x := hrow.cell (i := 0) (by omega)
    have z0 : w2.frozen? ⟨w.heap.size + 1, 0, none⟩ = false := hrow.frozen 0
    have r1 := hrow.set 0 (.int .i64 0)
    have q1 : (w2.setCell ⟨w.heap.size + 1, 0, none⟩ (.int .i64 0)).cell? ⟨w.heap.size + 1, 1, none⟩ = some y := r1.cell (i := 1) (by omega)
    have z1 : (w2.setCell ⟨w.heap.size + 1, 0, none⟩ (.int .i64 0)).frozen? ⟨w.heap.size + 1, 1, none⟩ = false := r1.frozen 1
    have r2 := r1.set 1 (.slice none 0 0)
    have q2 : ((w2.setCell ⟨w.heap.size + 1, 0, none⟩ (.int .i64 0)).setCell ⟨w.heap.size + 1, 1, none⟩ (.slice none 0 0)).cell? ⟨w.heap.size + 1, 2, none⟩ = some z := r2.cell (i := 2) (by omega)
    have z2 : ((w2.setCell ⟨w.heap.size + 1, 0, none⟩ (.int .i64 0)).setCell ⟨w.heap.size + 1, 1, none⟩ (.slice none 0 0)).frozen? ⟨w.heap.size + 1, 2, none⟩ = false := r2.frozen 2
    have r3 := r2.set 2 (.slice none 0 0)
    obtain ⟨WF, hWF⟩ : ∃ W : World, W = (((w2.setCell ⟨w.heap.size + 1, 0, none⟩ (.int .i64 0)).setCell ⟨w.heap.size + 1, 1, none⟩ (.slice none 0 0)).setCell ⟨w.heap.size + 1, 2, none⟩ (.slice none 0 0)) := ⟨_, rfl⟩
    have hsF : WF.heap.size = w2.heap.size := by rw [hWF]; simp
    have hkF : ∀ lo hi, w.heap.size + 1 < lo → Same lo hi w2 WF := fun lo hi hl => by rw [hWF]; exact ((Same.set _ (Or.inl hl)).trans (Same.set _ (Or.inl hl))).trans (Same.set _ (Or.inl hl))
    have HB : Hid (Below w.heap.size w WF) := Lib.hid (by
      rw [hWF]
      exact (((HX2.out.below).setCell (by show w.heap.size ≤ w.heap.size + 1; omega) _).setCell (by show w.heap.size ≤ w.heap.size + 1; omega) _).setCell (by show w.heap.size ≤ w.heap.size + 1; omega) _)
    rw [← hWF] at r3
    have f0 : WF.cell? ⟨w.heap.size + 1, 0, none⟩ = some (.int .i64 0) := r3.cell (i := 0) (by omega)
    have f1 : WF.cell? ⟨w.heap.size + 1, 1, none⟩ = some (.slice none 0 0) := r3.cell (i := 1) (by omega)
    have f2 : WF.cell? ⟨w.heap.size + 1, 2, none⟩ = some (.slice none 0 0) := r3.cell (i := 2) (by omega)
    have HWF := Lib.hid hWF
    clear hr hrow r1 r2 r3 hWF
    go_wp2
    rw [← HWF.out]
    refine bodyPost_ret (v := .tuple #[.agg #[.int .i64 0, .slice none 0 0, .slice none 0 0], .int .i64 1]) ?_ rfl ?_
    · simp only [results, HRES.out]
      go_simp
    · exact ⟨_, (0, [], []), 1, rfl, RwC.nil _ _ _, HB.out, RsOut.of_no (by decide)⟩
  | true =>
    have HDB : Hid (IsDb p ds ac dn) := Lib.hid (HBB.out.1 rfl)
    have HOK := Lib.hid HDB.out.cel
    have hl4 := HOK.out.len1
    have c0 := HX2.out.c0
    have c1 := HX2.out.c1
    have c2 := HX2.out.c2
    have c3 := HX2.out.c3
    clear HBB
    go_wp2_with fail
    refine (widthOf_any p dv av vv ds w2 HX2.out.dx.dims).mono ?_
    rintro e w3 ⟨rfl, hb3⟩
    have HX3 := Lib.hid (HX2.out.next hb3)
    have HL53 := Lib.hid (HL52.out.below hb3)
    have HS3 : Hid (w.heap.size + 1 < w3.heap.size) := Lib.hid (by have := HS2.out; have := hb3.size; omega)
    have HR3 : Hid (∃ x y z, w3.heap[w.heap.size + 1]? = some (.cells #[x, y, z] 40)) := Lib.hid (by obtain ⟨x, y, z, hh⟩ := HR2.out; exact ⟨x, y, z, by rw [hb3.block (w.heap.size + 1) HS2.out]; exact hh⟩)
    clear hb3 c0 c1 c2 c3 HX2 HR2 HL52
    obtain ⟨m, hm⟩ : ∃ m, m = ds.length := ⟨_, rfl⟩
    have HM := Lib.hid hm
    rw [← hm] at hl4 ⊢
    clear hm hbl
    go_wp2_with fail
    refine (in_any i 0 ((m : Int) - 1) _).mono ?_
    rintro e w' ⟨rfl, rfl⟩
    by_cases hin : 0 ≤ i ∧ i ≤ (m : Int) - 1
    · rw [decide_eq_true hin]
      obtain rfl : cc = 0 := HCC.out.trans (clCode_0 HDB.out (by have := HM.out; omega))
      obtain ⟨k, rfl⟩ := Int.eq_ofNat_of_zero_le hin.1
      have hkm : k < m := by omega
      have hkd : k < ds.length := by have := HM.out; omega
      have HKD := Lib.hid hkd
      have HCL := Lib.hid (cl_len HOK.out hkd)
      have HTB := Lib.hid HDB.out.tbs
      have hkn : k < dn.length := by have := HTB.out.ld; omega
      have hn1 : 1 ≤ (dn.getD k []).length := by have := HTB.out.cd k hkd; have := HCL.out.1; unfold clD at this; omega
      have HCO := Lib.hid (columnComplex_any p k dv av vv ds ac dn w3 HX3.out.dx HL53.out hkd hkn hn1)
      have hp0 := HDB.out.prime.lo
      have hp1 := HDB.out.prime.hi
      have c0 := HX3.out.c0
      have c1 := HX3.out.c1
      have c2 := HX3.out.c2
      have c3 := HX3.out.c3
      clear hin hkd hkn hn1
      go_wp2_with fail
      refine HCO.out.mono ?_
      rintro e w4 ⟨a1, c1', a2, c2', rfl, hb4, hcx4⟩
      have HCX4 := Lib.hid hcx4
      have HB4 := Lib.hid hb4
      clear hb4 hcx4 c0 c1 c2 c3 HCO
      have HSZ := Lib.hid (cl_sz HOK.out HTB.out HKD.out)
      go_wp2_with fail
      refine (copyC_any p _ _ (clD ds k) (clM dn k) _ HCX4.out HSZ.out (by omega) (by omega) (cl_num HDB.out.prime HOK.out HTB.out HKD.out)).mono ?_
      rintro e w5 ⟨bd, bm, rfl, hat⟩
      have HRW : Hid (RcW w4.heap.size w5.heap.size w5 (.slice (some ⟨bd, 0, none⟩) (clD ds k).length (clD ds k).length) (.slice (some ⟨bm, 0, none⟩) (clM dn k).length (clM dn k).length) (clD ds k) (clM dn k)) := Lib.hid (hat.rc (by have := HSZ.out.len1; omega) (by have := HSZ.out.len1; have := HSZ.out.mlen; omega) rfl (fun i hi => by unfold cpD; rw [getD_of_lt _ hi]) rfl (fun j hj => cl_tab HOK.out HTB.out HKD.out hj) (cpR_8c HSZ.out) (cpC_8c HSZ.out))
      have HB5 : Hid (Below w3.heap.size w3 w5) := Lib.hid (HB4.out.trans (hat.below.mono HB4.out.size))
      have HS4 : Hid (w.heap.size + 1 < w4.heap.size) := Lib.hid (by have := HS3.out; have := HB4.out.size; omega)
      have HR5 : Hid (∃ x y z, w5.heap[w.heap.size + 1]? = some (.cells #[x, y, z] 40)) := Lib.hid (by obtain ⟨x, y, z, hh⟩ := HR3.out; exact ⟨x, y, z, by rw [HB5.out.block (w.heap.size + 1) HS3.out]; exact hh⟩)
      clear hat
      obtain ⟨ql, hql⟩ : ∃ q, q = (clD ds k).length := ⟨_, rfl⟩
      obtain ⟨qm, hqm⟩ : ∃ q, q = (clM dn k).length := ⟨_, rfl⟩
      have HQL := Lib.hid hql
      have HQM := Lib.hid hqm
      rw [← hql, ← hqm] at HRW ⊢
      clear hql hqm
      obtain ⟨x, y, z, hr⟩ := HR5.out
      have hrow : w5.rowIs (w.heap.size + 1) 40 3 (sel3 x y z) := rowIs3 hr
      have q0 : w5.cell? ⟨w.heap.size + 1, 0, none⟩ = some x := hrow.cell (i := 0) (by omega)
      have z0 : w5.frozen? ⟨w.heap.size + 1, 0, none⟩ = false := hrow.frozen 0
      have r1 := hrow.set 0 (.int .i64 p)
      have q1 : (w5.setCell ⟨w.heap.size + 1, 0, none⟩ (.int .i64 p)).cell? ⟨w.heap.size + 1, 1, none⟩ = some y := r1.cell (i := 1) (by omega)
      have z1 : (w5.setCell ⟨w.heap.size + 1, 0, none⟩ (.int .i64 p)).frozen? ⟨w.heap.size + 1, 1, none⟩ = false := r1.frozen 1
      have r2 := r1.set 1 (.slice (some ⟨bd, 0, none⟩) ql ql)
      have q2 : ((w5.setCell ⟨w.heap.size + 1, 0, none⟩ (.int .i64 p)).setCell ⟨w.heap.size + 1, 1, none⟩ (.slice (some ⟨bd, 0, none⟩) ql ql)).cell? ⟨w.heap.size + 1, 2, none⟩ = some z := r2.cell (i := 2) (by omega)
      have z2 : ((w5.setCell ⟨w.heap.size + 1, 0, none⟩ (.int .i64 p)).setCell ⟨w.heap.size + 1, 1, none⟩ (.slice (some ⟨bd, 0, none⟩) ql ql)).frozen? ⟨w.heap.size + 1, 2, none⟩ = false := r2.frozen 2
      have r3 := r2.set 2 (.slice (some ⟨bm, 0, none⟩) qm qm)
      obtain ⟨WF, hWF⟩ : ∃ W : World, W = (((w5.setCell ⟨w.heap.size + 1, 0, none⟩ (.int .i64 p)).setCell ⟨w.heap.size + 1, 1, none⟩ (.slice (some ⟨bd, 0, none⟩) ql ql)).setCell ⟨w.heap.size + 1, 2, none⟩ (.slice (some ⟨bm, 0, none⟩) qm qm)) := ⟨_, rfl⟩
      have hsF : WF.heap.size = w5.heap.size := by rw [hWF]; simp
      have hkF : ∀ lo hi, w.heap.size + 1 < lo → Same lo hi w5 WF := fun lo hi hl => by rw [hWF]; exact ((Same.set _ (Or.inl hl)).trans (Same.set _ (Or.inl hl))).trans (Same.set _ (Or.inl hl))
      have HB : Hid (Below w.heap.size w WF) := Lib.hid (by
        rw [hWF]
        exact (((HX3.out.below.trans (HB5.out.mono HX3.out.below.size)).setCell (by show w.heap.size ≤ w.heap.size + 1; omega) _).setCell (by show w.heap.size ≤ w.heap.size + 1; omega) _).setCell (by show w.heap.size ≤ w.heap.size + 1; omega) _)
      rw [← hWF] at r3
      have f0 : WF.cell? ⟨w.heap.size + 1, 0, none⟩ = some (.int .i64 p) := r3.cell (i := 0) (by omega)
      have f1 : WF.cell? ⟨w.heap.size + 1, 1, none⟩ = some (.slice (some ⟨bd, 0, none⟩) ql ql) := r3.cell (i := 1) (by omega)
      have f2 : WF.cell? ⟨w.heap.size + 1, 2, none⟩ = some (.slice (some ⟨bm, 0, none⟩) qm qm) := r3.cell (i := 2) (by omega)
      have HWF := Lib.hid hWF
      clear hr hrow r1 r2 r3 hWF
      go_wp2
      rw [← HWF.out]
      refine bodyPost_ret (v := .tuple #[.agg #[.int .i64 p, .slice (some ⟨bd, 0, none⟩) ql ql, .slice (some ⟨bm, 0, none⟩) qm qm], .int .i64 0]) ?_ rfl ?_
      · simp only [results, HRES.out]
        go_simp
      · refine ⟨_, clO p ds dn (k : Int), 0, rfl, ⟨some ⟨bd, 0, none⟩, ql, some ⟨bm, 0, none⟩, qm, ?_, ?_⟩, HB.out, RsOut.of_yes rfl rfl⟩
        · show _ = Value.agg #[.int .i64 p, .slice (some ⟨bd, 0, none⟩) (clD ds k).length ql, .slice (some ⟨bm, 0, none⟩) (clM dn k).length qm]
          rw [← HQL.out, ← HQM.out]
        · show RcW w.heap.size WF.heap.size WF (.slice (some ⟨bd, 0, none⟩) (clD ds k).length ql) (.slice (some ⟨bm, 0, none⟩) (clM dn k).length qm) (clD ds k) (clM dn k)
          rw [← HQL.out, ← HQM.out]
          have h4 := HS4.out
          exact (HRW.out.same (hkF _ _ h4)).wider (by omega) (by omega)
    · rw [decide_eq_false hin]
      obtain rfl : cc = 2 := HCC.out.trans (clCode_2 HDB.out (by have := HM.out; omega))
      obtain ⟨x, y, z, hr⟩ := HR3.out
      have hrow : w3.rowIs (w.heap.size + 1) 40 3 (sel3 x y z) := rowIs3 hr
      have q0 : w3.cell? ⟨w.heap.size + 1, 0, none⟩ = some x := hrow.cell (i := 0) (by omega)
      have z0 : w3.frozen? ⟨w.heap.size + 1, 0, none⟩ = false := hrow.frozen 0
      have r1 := hrow.set 0 (.int .i64 0)
      have q1 : (w3.setCell ⟨w.heap.size + 1, 0, none⟩ (.int .i64 0)).cell? ⟨w.heap.size + 1, 1, none⟩ = some y := r1.cell (i := 1) (by omega)
      have z1 : (w3.setCell ⟨w.heap.size + 1, 0, none⟩ (.int .i64 0)).frozen? ⟨w.heap.size + 1, 1, none⟩ = false := r1.frozen 1
      have r2 := r1.set 1 (.slice none 0 0)
      have q2 : ((w3.setCell ⟨w.heap.size + 1, 0, none⟩ (.int .i64 0)).setCell ⟨w.heap.size + 1, 1, none⟩ (.slice none 0 0)).cell? ⟨w.heap.size + 1, 2, none⟩ = some z := r2.cell (i := 2) (by omega)
      have z2 : ((w3.setCell ⟨w.heap.size + 1, 0, none⟩ (.int .i64 0)).setCell ⟨w.heap.size + 1, 1, none⟩ (.slice none 0 0)).frozen? ⟨w.heap.size + 1, 2, none⟩ = false := r2.frozen 2
      have r3 := r2.set 2 (.slice none 0 0)
      obtain ⟨WF, hWF⟩ : ∃ W : World, W = (((w3.setCell ⟨w.heap.size + 1, 0, none⟩ (.int .i64 0)).setCell ⟨w.heap.size + 1, 1, none⟩ (.slice none 0 0)).setCell ⟨w.heap.size + 1, 2, none⟩ (.slice none 0 0)) := ⟨_, rfl⟩
      have hsF : WF.heap.size = w3.heap.size := by rw [hWF]; simp
      have hkF : ∀ lo hi, w.heap.size + 1 < lo → Same lo hi w3 WF := fun lo hi hl => by rw [hWF]; exact ((Same.set _ (Or.inl hl)).trans (Same.set _ (Or.inl hl))).trans (Same.set _ (Or.inl hl))
      have HB : Hid (Below w.heap.size w WF) := Lib.hid (by
        rw [hWF]
        exact (((HX3.out.below).setCell (by show w.heap.size ≤ w.heap.size + 1; omega) _).setCell (by show w.heap.size ≤ w.heap.size + 1; omega) _).setCell (by show w.heap.size ≤ w.heap.size + 1; omega) _)
      rw [← hWF] at r3
      have f0 : WF.cell? ⟨w.heap.size + 1, 0, none⟩ = some (.int .i64 0) := r3.cell (i := 0) (by omega)
      have f1 : WF.cell? ⟨w.heap.size + 1, 1, none⟩ = some (.slice none 0 0) := r3.cell (i := 1) (by omega)
      have f2 : WF.cell? ⟨w.heap.size + 1, 2, none⟩ = some (.slice none 0 0) := r3.cell (i := 2) (by omega)
      have HWF := Lib.hid hWF
      clear hr hrow r1 r2 r3 hWF
      go_wp2
      rw [← HWF.out]
      refine bodyPost_ret (v := .tuple #[.agg #[.int .i64 0, .slice none 0 0, .slice none 0 0], .int .i64 2]) ?_ rfl ?_
      · simp only [results, HRES.out]
        go_simp
      · exact ⟨_, (0, [], []), 2, rfl, RwC.nil _ _ _, HB.out, RsOut.of_no (by decide)⟩
end Go.Proofs.Ytbadjfnelpfhcaa


namespace Go.Proofs.Ytbadjfnelpfhcaa
open Go.ChangeShapes Go.WideShapes Go.ChangeAt Go.RowKit Go.Deep

structure Wh (lo : Nat) (w : World) (dv mv : Value) (dl : List Int) (ml : List (List (List Int))) : Prop where
  fd : L1 lo w dv dl
  fm : L3 lo w mv ml
theorem Wh.below {lo : Nat} {w w' : World} {dv mv : Value} {dl : List Int} {ml : List (List (List Int))} (h : Wh lo w dv mv dl ml) (hb : Below w.heap.size w w') : Wh lo w' dv mv dl ml := ⟨h.fd.below hb, h.fm.below hb⟩
theorem Wh.lower {lo lo' : Nat} (hl : lo' ≤ lo) {w : World} {dv mv : Value} {dl : List Int} {ml : List (List (List Int))} (h : Wh lo w dv mv dl ml) : Wh lo' w dv mv dl ml := ⟨h.fd.lower hl, h.fm.lower hl⟩
theorem Wh.zero {lo : Nat} {w : World} {dv mv : Value} {dl : List Int} {ml : List (List (List Int))} (h : Wh lo w dv mv dl ml) : Wh 0 w dv mv dl ml := h.lower (Nat.zero_le _)
theorem Wh.drew {lo : Nat} {w : World} {dv mv : Value} {dl : List Int} {ml : List (List (List Int))} (h : Wh lo w dv mv dl ml) : Wh lo w.drew dv mv dl ml := h.below (Below.refl _ _).drew
theorem Wh.shapes {lo : Nat} {w : World} {dv mv : Value} {dl : List Int} {ml : List (List (List Int))} (h : Wh lo w dv mv dl ml) : (∃ a c, dv = .slice a dl.length c) ∧ (∃ a c, mv = .slice a ml.length c) := ⟨Sl.shape h.fd, Sl.shape h.fm⟩
structure WhW (lo hi : Nat) (w : World) (dv mv : Value) (dl : List Int) (ml : List (List (List Int))) : Prop where
  fd : W1 lo hi w dv dl
  fm : W3 lo hi w mv ml
theorem WhW.same {lo hi : Nat} {w w' : World} {dv mv : Value} {dl : List Int} {ml : List (List (List Int))} (h : WhW lo hi w dv mv dl ml) (s : Same lo hi w w') : WhW lo hi w' dv mv dl ml := ⟨h.fd.same s, h.fm.same s⟩
theorem WhW.cx {lo hi : Nat} {w : World} {dv mv : Value} {dl : List Int} {ml : List (List (List Int))} (h : WhW lo hi w dv mv dl ml) : Wh lo w dv mv dl ml := ⟨h.fd.l1, h.fm.l3⟩
/-- The box of one, in whatever later world. -/
structure BxWh (w wr : World) (b : Nat)  (dv mv : Value) (dl : List Int) (ml : List (List (List Int))) : Prop where
  below : Below w.heap.size w wr
  c0 : wr.cell? ⟨b, 0, none⟩ = some (dv)
  c1 : wr.cell? ⟨b, 1, none⟩ = some (mv)
  lt : b < wr.heap.size
  cx : Wh 0 wr dv mv dl ml
theorem BxWh.next {w wr w' : World} {b : Nat}  {dv mv : Value} {dl : List Int} {ml : List (List (List Int))} (h : BxWh w wr b  dv mv dl ml) (hb : Below wr.heap.size wr w') : BxWh w w' b  dv mv dl ml :=
  ⟨h.below.trans (hb.mono h.below.size), later hb (Nat.le_refl _) h.c0, later hb (Nat.le_refl _) h.c1, Nat.lt_of_lt_of_le h.lt hb.size, h.cx.below hb⟩
theorem BxWh.start {w : World}  {dv mv : Value} {dl : List Int} {ml : List (List (List Int))} (t : TypeId) (h : Wh 0 w dv mv dl ml) : BxWh w (w.alloc (.cells #[dv, mv] t)) w.heap.size  dv mv dl ml :=
  ⟨(Below.refl _ _).alloc (Nat.le_refl _) _, by simp, by simp, by simp, h.below ((Below.refl _ _).alloc (Nat.le_refl _) _)⟩
structure BqWh (wr : World) (b : Nat)  (dv mv : Value) (dl : List Int) (ml : List (List (List Int))) : Prop where
  c0 : wr.cell? ⟨b, 0, none⟩ = some (dv)
  c1 : wr.cell? ⟨b, 1, none⟩ = some (mv)
  lt : b < wr.heap.size
  cx : Wh 0 wr dv mv dl ml
theorem BxWh.bq {w wr : World} {b : Nat}  {dv mv : Value} {dl : List Int} {ml : List (List (List Int))} (h : BxWh w wr b  dv mv dl ml) : BqWh wr b  dv mv dl ml := ⟨h.c0, h.c1, h.lt, h.cx⟩
theorem BqWh.next {wr w' : World} {b : Nat}  {dv mv : Value} {dl : List Int} {ml : List (List (List Int))} (h : BqWh wr b  dv mv dl ml) (hb : Below wr.heap.size wr w') : BqWh w' b  dv mv dl ml :=
  ⟨later hb (Nat.le_refl _) h.c0, later hb (Nat.le_refl _) h.c1, Nat.lt_of_lt_of_le h.lt hb.size, h.cx.below hb⟩
theorem BqWh.only {wr w' : World} {b lo hi : Nat}  {dv mv : Value} {dl : List Int} {ml : List (List (List Int))} (h : BqWh wr b  dv mv dl ml) (ho : Only lo hi wr w') (hc : Wh 0 w' dv mv dl ml) (hb : b < lo ∨ hi ≤ b) : BqWh w' b  dv mv dl ml :=
  ⟨(ho.cell hb).trans h.c0, (ho.cell hb).trans h.c1, by have := ho.size; have := h.lt; omega, hc⟩
structure WhT (lo hi : Nat) (w : World) (dv mv : Value) (dl : List Int) (ml : List (List (List Int))) : Prop where
  fd : T1 lo hi w dv dl
  fm : T3 lo hi w mv ml
theorem WhW.t {lo hi : Nat} {w : World} {dv mv : Value} {dl : List Int} {ml : List (List (List Int))} (h : WhW lo hi w dv mv dl ml) : WhT lo hi w dv mv dl ml := ⟨h.fd.t1, h.fm.t3⟩

section
variable {H : Type} {enc : TypeId × Value → H} {P : Program} {w : World} {base : Nat} {held : Bool} {spare : Nat → Bool}
end
end Go.Proofs.Ytbadjfnelpfhcaa


namespace Go.Proofs.Ytbadjfnelpfhcaa
open Go.RowKit
/-- Numbers, dimensions and tables. -/
abbrev WhO := List Int × List (List (List Int))
structure PtWh (lo hi : Nat) (W : World) (dv mv : Value) (Id Im : List Iv) : Prop where
  sd : S1 lo hi W dv Id
  nd : Nums lo hi W Id
  dd : Disj Id
  zd : ivSize Id ≤ 1048576
  sm : S3 lo hi W mv Im
  nm : Nums lo hi W Im
  dm : Disj Im
  zm : ivSize Im ≤ 1152921504606846976
  adm : ∀ x ∈ Id, ∀ y ∈ Im, Apart x y
theorem PtWh.same {lo hi : Nat} {W W' : World} {dv mv : Value} {Id Im : List Iv} (h : PtWh lo hi W dv mv Id Im) (s : Same lo hi W W') : PtWh lo hi W' dv mv Id Im :=
  ⟨h.sd, h.nd.same s, h.dd, h.zd, h.sm.same s, h.nm.same s, h.dm, h.zm, h.adm⟩
theorem PtWh.wider {lo hi lo' hi' : Nat} {W : World} {dv mv : Value} {Id Im : List Iv} (h : PtWh lo hi W dv mv Id Im) (h1 : lo' ≤ lo) (h2 : hi ≤ hi') : PtWh lo' hi' W dv mv Id Im :=
  ⟨h.sd.wider h1 h2, h.nd.wider h1 h2, h.dd, h.zd, h.sm.wider h1 h2, h.nm.wider h1 h2, h.dm, h.zm, h.adm⟩
def RcWh (lo hi : Nat) (W : World) (dv mv : Value) (dl : List Int) (ml : List (List (List Int))) : Prop := WhW lo hi W dv mv dl ml ∧ ∃ Id Im, PtWh lo hi W dv mv Id Im
theorem RcWh.same {lo hi : Nat} {W W' : World} {dv mv : Value} {dl : List Int} {ml : List (List (List Int))} (h : RcWh lo hi W dv mv dl ml) (s : Same lo hi W W') : RcWh lo hi W' dv mv dl ml := by
  obtain ⟨h0, Id, Im, h1⟩ := h
  exact ⟨h0.same s, Id, Im, h1.same s⟩
theorem RcWh.wider {lo hi lo' hi' : Nat} {W : World} {dv mv : Value} {dl : List Int} {ml : List (List (List Int))} (h : RcWh lo hi W dv mv dl ml) (h1 : lo' ≤ lo) (h2 : hi ≤ hi') : RcWh lo' hi' W dv mv dl ml := by
  obtain ⟨h0, Id, Im, h3⟩ := h
  exact ⟨⟨h0.fd.wider h1 h2, h0.fm.wider h1 h2⟩, Id, Im, h3.wider h1 h2⟩
theorem RcWh.cx {lo hi : Nat} {W : World} {dv mv : Value} {dl : List Int} {ml : List (List (List Int))} (h : RcWh lo hi W dv mv dl ml) : Wh 0 W dv mv dl ml := h.1.cx.lower (Nat.zero_le _)
/-- Parts one behind the other. -/
theorem RcWh.of {lo hi b0 b1 b2 : Nat} {W : World} {dv mv : Value} {dl : List Int} {ml : List (List (List Int))} (hqd : Rw1 b0 b1 W dv dl) (hqm : Rw3 b1 b2 W mv ml) (hl : lo ≤ b0) (l0 : b0 ≤ b1) (l1 : b1 ≤ b2) (hh : b2 ≤ hi) : RcWh lo hi W dv mv dl ml := by
  obtain ⟨wd, Id, sd, nd, dd, zd⟩ := hqd
  obtain ⟨wm, Im, sm, nm, dm, zm⟩ := hqm
  refine ⟨⟨wd.wider (by omega) (by omega), wm.wider (by omega) (by omega)⟩, Id, Im, ⟨sd.wider (by omega) (by omega), nd.wider (by omega) (by omega), dd, zd, sm.wider (by omega) (by omega), nm.wider (by omega) (by omega), dm, zm, ?_⟩⟩
  · intro x hx y hy
    exact Or.inl (by have := (nd x hx).2.1; have := (nm y hy).1; omega)
def RwWh (lo hi : Nat) (W : World) (u : Value) (o : WhO) : Prop := ∃ ad cd am cm, u = .agg #[.slice ad o.1.length cd, .slice am o.2.length cm] ∧ RcWh lo hi W (.slice ad o.1.length cd) (.slice am o.2.length cm) o.1 o.2
def GwWh (base : Nat) (W : World) (u : Value) (o : WhO) : Prop := ∃ ad cd am cm, u = .agg #[.slice ad o.1.length cd, .slice am o.2.length cm] ∧ Gb base W (.slice ad o.1.length cd) o.1 ∧ Gt base W (.slice am o.2.length cm) o.2
theorem RwWh.nil (lo hi : Nat) (W : World) : RwWh lo hi W (.agg #[.slice none 0 0, .slice none 0 0]) ([], []) :=
  ⟨none, 0, none, 0, rfl, ⟨Or.inl ⟨rfl, _, _, rfl⟩, Or.inl ⟨rfl, _, _, rfl⟩⟩, [], [], ⟨Or.inl ⟨rfl, _, _, rfl⟩, fun _ h => absurd h (by simp), List.Pairwise.nil, by simp [ivSize], ⟨none, 0, 0, fun _ => .slice none 0 0, fun _ => [], rfl, by omega, rfl, fun _ h => absurd h (Nat.not_lt_zero _), fun h => absurd h (Nat.lt_irrefl _)⟩, fun _ h => absurd h (by simp), List.Pairwise.nil, by simp [ivSize], fun _ h => absurd h (by simp)⟩⟩
theorem Gb.nilv (base : Nat) (w : World) : Gb base w (.slice none 0 0) [] := ⟨rfl, Or.inl ⟨rfl, rfl⟩⟩
theorem Gs.nilv (base : Nat) (w : World) : Gs base w (.slice none 0 0) [] := ⟨[], ⟨rfl, Or.inl ⟨rfl, rfl⟩⟩, fun _ h => absurd h (Nat.not_lt_zero _)⟩
theorem Gt.nilv (base : Nat) (w : World) : Gt base w (.slice none 0 0) [] := ⟨[], ⟨rfl, Or.inl ⟨rfl, rfl⟩⟩, fun _ h => absurd h (Nat.not_lt_zero _)⟩
theorem GwWh.nil (base : Nat) (W : World) : GwWh base W (.agg #[.slice none 0 0, .slice none 0 0]) ([], []) := ⟨none, 0, none, 0, rfl, Gb.nilv _ _, Gt.nilv _ _⟩
structure HcWh' (lo hi : Nat) (W : World) (dv mv : Value) (m : Int) (Id Im : List Iv) : Prop where
  sd : S1 lo hi W dv Id
  mmd : Marked W Id (1)
  rd : ∀ x ∈ Id, lo ≤ x.1 ∧ x.1 < hi
  zd : ivSize Id ≤ 1048576
  sm : S3 lo hi W mv Im
  mmm : Marked W Im (1 + (ivSize Id : Int))
  rm : ∀ x ∈ Im, lo ≤ x.1 ∧ x.1 < hi
  zm : ivSize Im ≤ 1152921504606846976
  me : m = 1 + (ivSize Id : Int) + (ivSize Im : Int)
def HcWh (lo hi : Nat) (W : World) (dv mv : Value) (m : Int) : Prop := ∃ Id Im, HcWh' lo hi W dv mv m Id Im
theorem HcWh.same {lo hi : Nat} {W W' : World} {dv mv : Value} {m : Int} (h : HcWh lo hi W dv mv m) (s : Same lo hi W W') : HcWh lo hi W' dv mv m := by
  obtain ⟨Id, Im, h⟩ := h
  exact ⟨Id, Im, h.sd, h.mmd.same h.rd s, h.rd, h.zd, h.sm.same s, h.mmm.same h.rm s, h.rm, h.zm, h.me⟩
/-- The cells of a box alone. -/
structure BcWh (wr : World) (b : Nat)  (dv mv : Value) : Prop where
  c0 : wr.cell? ⟨b, 0, none⟩ = some (dv)
  c1 : wr.cell? ⟨b, 1, none⟩ = some (mv)
  lt : b < wr.heap.size
theorem BcWh.start (w : World)  (dv mv : Value) (t : TypeId) : BcWh (w.alloc (.cells #[dv, mv] t)) w.heap.size  dv mv := ⟨by simp, by simp, by simp⟩
theorem BcWh.next {wr w' : World} {b : Nat}  {dv mv : Value} (h : BcWh wr b  dv mv) (hb : Below wr.heap.size wr w') : BcWh w' b  dv mv :=
  ⟨later hb (Nat.le_refl _) h.c0, later hb (Nat.le_refl _) h.c1, Nat.lt_of_lt_of_le h.lt hb.size⟩
theorem BcWh.only {wr w' : World} {b lo hi : Nat}  {dv mv : Value} (h : BcWh wr b  dv mv) (ho : Only lo hi wr w') (hb : b < lo ∨ hi ≤ b) : BcWh w' b  dv mv :=
  ⟨(ho.cell hb).trans h.c0, (ho.cell hb).trans h.c1, by have := ho.size; have := h.lt; omega⟩
theorem BcWh.bq {wr : World} {b : Nat}  {dv mv : Value} {dl : List Int} {ml : List (List (List Int))} (h : BcWh wr b  dv mv) (hc : Wh 0 wr dv mv dl ml) : BqWh wr b  dv mv dl ml := ⟨h.c0, h.c1, h.lt, hc⟩
theorem BcWh.row (W : World) (b : Nat)  (dv mv : Value) {c0 : Array Value} {t : TypeId} (h : W.heap[b]? = some (.cells c0 t (0, 0))) : BcWh (W.setRow b #[dv, mv]) b  dv mv := by
  have h0 := setRow_heap W b c0 #[dv, mv] t _ h
  have hlt : b < W.heap.size := (Array.getElem?_eq_some_iff.1 h).1
  exact ⟨by simp [World.cell?, h0], by simp [World.cell?, h0], by simpa using hlt⟩
end Go.Proofs.Ytbadjfnelpfhcaa


namespace Go.Proofs.Ytbadjfnelpfhcaa
open Go.RowKit

/-- A value's own block is not this one. -/
def OffB (b : Option Nat) (u : Value) : Prop := ∀ g, u.ownBlock = some g → b ≠ some g
theorem owns_lt {w : World} {base : Nat} {e : TypeId} {size n : Nat} {u : Value} {xs : List Value} (h : w.ownsRow base e size u n xs) {g : Nat} (hg : u.ownBlock = some g) : g < w.heap.size := by
  rcases h.2 with ⟨rfl, _⟩ | ⟨g2, cap, cur, rfl, _, hh, _⟩
  · simp [Value.ownBlock] at hg
  · simp [Value.ownBlock] at hg
    subst hg
    exact (Array.getElem?_eq_some_iff.1 hh).1
/-- A table whose rows lie off a block. -/
def Gr (b : Option Nat) (w : World) (u : Value) (t : List (List Int)) : Prop := ∃ vs, w.ownsRow 0 37 1 u t.length vs ∧ ∀ k (h1 : k < vs.length) (h2 : k < t.length), G1 w vs[k] t[k] ∧ OffB b vs[k]
def Gto (b : Option Nat) (base : Nat) (w : World) (u : Value) (ts : List (List (List Int))) : Prop := ∃ vs, w.ownsRow base 22 1 u ts.length vs ∧ ∀ k (h1 : k < vs.length) (h2 : k < ts.length), Gr b w vs[k] ts[k]
theorem Gr.gs {b : Option Nat} {w : World} {u : Value} {t : List (List Int)} (h : Gr b w u t) : Gs 0 w u t := by
  obtain ⟨vs, ho, hr⟩ := h
  exact ⟨vs, ho, fun k h1 h2 => (hr k h1 h2).1⟩
theorem Gto.gt {b : Option Nat} {base : Nat} {w : World} {u : Value} {ts : List (List (List Int))} (h : Gto b base w u ts) : Gt base w u ts := by
  obtain ⟨vs, ho, hr⟩ := h
  exact ⟨vs, ho, fun k h1 h2 => (hr k h1 h2).gs⟩
theorem Gr.below {b : Option Nat} {w w' : World} {u : Value} {t : List (List Int)} (h : Gr b w u t) (hb : Below w.heap.size w w') : Gr b w' u t := by
  obtain ⟨vs, ho, hr⟩ := h
  exact ⟨vs, owns_below ho hb, fun k h1 h2 => ⟨(hr k h1 h2).1.below hb, (hr k h1 h2).2⟩⟩
theorem Gto.below {b : Option Nat} {base : Nat} {w w' : World} {u : Value} {ts : List (List (List Int))} (h : Gto b base w u ts) (hb : Below w.heap.size w w') : Gto b base w' u ts := by
  obtain ⟨vs, ho, hr⟩ := h
  exact ⟨vs, owns_below ho hb, fun k h1 h2 => (hr k h1 h2).below hb⟩
theorem Gto.nil {b : Option Nat} {base : Nat} {w : World} {u : Value} (h : Gt base w u []) : Gto b base w u [] := by
  obtain ⟨vs, ho, _⟩ := h
  exact ⟨vs, ho, fun k _ h2 => absurd h2 (Nat.not_lt_zero _)⟩
/-- A table of a call made behind a block lies off it. -/
theorem Gr.of {b : Nat} {w : World} {u : Value} {t : List (List Int)} {vs : List Value} (ho : w.ownsRow 0 37 1 u t.length vs) (hr : ∀ k (h1 : k < vs.length) (h2 : k < t.length), Gb (b + 1) w vs[k] t[k]) : Gr (some b) w u t :=
  ⟨vs, ho, fun k h1 h2 => ⟨(hr k h1 h2).g1, fun g hg e => by
    have := ((hr k h1 h2).lt g hg).1
    injection e with e
    omega⟩⟩
theorem Gr.move {b b' : Option Nat} {w : World} {u : Value} {t : List (List Int)} (h : Gr b w u t) (hx : ∀ g, b' = some g → b = some g ∨ w.heap.size ≤ g) : Gr b' w u t := by
  obtain ⟨vs, ho, hr⟩ := h
  refine ⟨vs, ho, fun k h1 h2 => ⟨(hr k h1 h2).1, fun g hg e => ?_⟩⟩
  rcases hx g e with h3 | h3
  · exact (hr k h1 h2).2 g hg h3
  · have := owns_lt (hr k h1 h2).1 hg
    omega
theorem Gto.move {b b' : Option Nat} {base : Nat} {w : World} {u : Value} {ts : List (List (List Int))} (h : Gto b base w u ts) (hx : ∀ g, b' = some g → b = some g ∨ w.heap.size ≤ g) : Gto b' base w u ts := by
  obtain ⟨vs, ho, hr⟩ := h
  exact ⟨vs, ho, fun k h1 h2 => (hr k h1 h2).move hx⟩
theorem Gr.grown {b : Option Nat} {w w3 : World} {base n : Nat} {u v : Value} {t : List (List Int)} {vs : List Value} (h : Gr b w u t) (ho : w.ownsRow base 22 1 v n vs) (hg : w.grownBy w3 v.ownBlock) : Gr b w3 u t := by
  obtain ⟨us, hu, hr⟩ := h
  exact ⟨us, owns_grown hu ho (by decide) hg, fun k h1 h2 => ⟨owns_grown (hr k h1 h2).1 ho (by decide) hg, (hr k h1 h2).2⟩⟩
theorem Gto.push {b : Option Nat} {base : Nat} {w w3 : World} {v v' row : Value} {ts : List (List (List Int))} {vs : List Value} {x : List (List Int)} (ho : w.ownsRow base 22 1 v ts.length vs) (hr : ∀ k (h1 : k < vs.length) (h2 : k < ts.length), Gr b w vs[k] ts[k]) (hx : Gr b w row x)
    (ho3 : w3.ownsRow base 22 1 v' (ts.length + 1) (vs ++ [row])) (hg : w.grownBy w3 v.ownBlock) : Gto b base w3 v' (ts ++ [x]) := by
  have hvl : vs.length = ts.length := by have := ho.1; omega
  refine ⟨vs ++ [row], by simpa using ho3, fun k h1 h2 => ?_⟩
  by_cases e : k < vs.length
  · rw [List.getElem_append_left e, List.getElem_append_left (by omega)]
    exact (hr k e (by omega)).grown ho hg
  · have e2 : k = vs.length := by simp at h1; omega
    subst e2
    rw [List.getElem_append_right (Nat.le_refl _), List.getElem_append_right (by omega)]
    simp only [Nat.sub_self, hvl, List.getElem_cons_zero]
    exact hx.grown ho hg
theorem Gr.off {b : Option Nat} {w : World} {g k : Nat} {t : TypeId} {f : Nat → Value} {u : Value} {xs : List (List Int)} (h : Gr b w u xs) (hr : w.rowIs g t k f) (ht : t ≠ 2 ∧ t ≠ 37) (i : Nat) (x : Value) : Gr b (w.setCell ⟨g, i, none⟩ x) u xs := by
  obtain ⟨vs, ho, h1⟩ := h
  exact ⟨vs, owns_off ho hr ht.2 i x, fun k a c => ⟨(h1 k a c).1.off hr ht.1 i x, (h1 k a c).2⟩⟩
theorem Gto.off {b : Option Nat} {base : Nat} {w : World} {g k : Nat} {t : TypeId} {f : Nat → Value} {u : Value} {xs : List (List (List Int))} (h : Gto b base w u xs) (hr : w.rowIs g t k f) (ht : t ≠ 2 ∧ t ≠ 37 ∧ t ≠ 22) (i : Nat) (x : Value) : Gto b base (w.setCell ⟨g, i, none⟩ x) u xs := by
  obtain ⟨vs, ho, h1⟩ := h
  exact ⟨vs, owns_off ho hr ht.2.2 i x, fun k a c => (h1 k a c).off hr ⟨ht.1, ht.2.1⟩ i x⟩

/-- A complex that the model gathers, dimensions and tables in turn: its box at block g, its two lists. -/
structure Sdo (w1 wr : World) (g : Nat) (p : Int) (v vm : Value) (xs : List Int) (ts : List (List (List Int))) : Prop where
  below : Below w1.heap.size w1 wr
  lo : w1.heap.size ≤ g
  box : wr.rowIs g 40 3 (sel3 (.int .i64 p) v vm)
  dims : Gb w1.heap.size wr v xs
  maps : Gto v.ownBlock w1.heap.size wr vm ts
theorem Sdo.start {w1 wr : World} {g : Nat} {p : Int} {v vm : Value} {xs : List Int} (h : Sd w1 wr g p v vm xs []) : Sdo w1 wr g p v vm xs [] := ⟨h.below, h.lo, h.box, h.dims, Gto.nil h.maps⟩
theorem Sdo.sd {w1 wr : World} {g : Nat} {p : Int} {v vm : Value} {xs : List Int} {ts : List (List (List Int))} (h : Sdo w1 wr g p v vm xs ts) : Sd w1 wr g p v vm xs ts := ⟨h.below, h.lo, h.box, h.dims, h.maps.gt⟩
theorem Sdo.next {w1 wr wa : World} {g : Nat} {p : Int} {v vm : Value} {xs : List Int} {ts : List (List (List Int))} (h : Sdo w1 wr g p v vm xs ts) (hb : Below wr.heap.size wr wa) : Sdo w1 wa g p v vm xs ts :=
  ⟨h.below.trans (hb.mono h.below.size), h.lo, h.box.of_block (hb.block _ h.box.lt), h.dims.below hb, h.maps.below hb⟩
theorem Sdo.stepM {w1 wa w' : World} {g : Nat} {p : Int} {v vm v' : Value} {xs : List Int} {ts ts' : List (List (List Int))} (h : Sdo w1 wa g p v vm xs ts) (hg : wa.grownBy w' vm.ownBlock) (hn : Gto v.ownBlock w1.heap.size w' v' ts') : Sdo w1 (w'.setCell ⟨g, 2, none⟩ v') g p v v' xs ts' := by
  obtain ⟨vs, ho, _⟩ := h.maps
  have hr := row_grown h.box ho coT.2.2 hg
  have hb := h.below.grown hg h.below.size (fun g hg => (h.sd.maps.lt g hg).1)
  have hd : Gb w1.heap.size w' v xs := owns_grown h.dims ho (by decide) hg
  refine ⟨hb.setCell h.lo _, h.lo, (hr.set 2 v').congr (fun j hj => ?_), hd.off hr coT.1 _ _, hn.off hr coT _ _⟩
  match j, hj with
  | 0, _ => rfl
  | 1, _ => rfl
  | 2, _ => rfl

section
variable {o : Oper} {a : Act} {w : World} {K : Act → World → Prop} {Q : Exit → Act → World → Prop}
end
end Go.Proofs.Ytbadjfnelpfhcaa


namespace Go.Proofs.Ytbadjfnelpfhcaa
open Go.RowKit

/-- A table that the call gathers, its rows off a block. -/
def Grb (b : Option Nat) (base : Nat) (w : World) (u : Value) (t : List (List Int)) : Prop := ∃ vs, w.ownsRow base 37 1 u t.length vs ∧ ∀ k (h1 : k < vs.length) (h2 : k < t.length), G1 w vs[k] t[k] ∧ OffB b vs[k]
theorem Grb.gs {b : Option Nat} {base : Nat} {w : World} {u : Value} {t : List (List Int)} (h : Grb b base w u t) : Gs base w u t := by
  obtain ⟨vs, ho, hr⟩ := h
  exact ⟨vs, ho, fun k h1 h2 => (hr k h1 h2).1⟩
theorem Grb.below {b : Option Nat} {base : Nat} {w w' : World} {u : Value} {t : List (List Int)} (h : Grb b base w u t) (hb : Below w.heap.size w w') : Grb b base w' u t := by
  obtain ⟨vs, ho, hr⟩ := h
  exact ⟨vs, owns_below ho hb, fun k h1 h2 => ⟨(hr k h1 h2).1.below hb, (hr k h1 h2).2⟩⟩
theorem Grb.start {b : Option Nat} {base : Nat} {w : World} {u : Value} (h : Gs base w u []) : Grb b base w u [] := by
  obtain ⟨vs, ho, _⟩ := h
  exact ⟨vs, ho, fun k _ h2 => absurd h2 (Nat.not_lt_zero _)⟩
theorem Grb.push {b : Option Nat} {base : Nat} {w w3 : World} {v v' row : Value} {t : List (List Int)} {vs : List Value} {x : List Int} (ho : w.ownsRow base 37 1 v t.length vs) (hr : ∀ k (h1 : k < vs.length) (h2 : k < t.length), G1 w vs[k] t[k] ∧ OffB b vs[k]) (hx : G1 w row x) (hb : OffB b row)
    (ho3 : w3.ownsRow base 37 1 v' (t.length + 1) (vs ++ [row])) (hg : w.grownBy w3 v.ownBlock) : Grb b base w3 v' (t ++ [x]) := by
  have hvl : vs.length = t.length := by have := ho.1; omega
  have keep : ∀ u xs, G1 w u xs → G1 w3 u xs := fun u xs h => owns_grown h ho (by decide) hg
  refine ⟨vs ++ [row], by simpa using ho3, fun k h1 h2 => ?_⟩
  by_cases e : k < vs.length
  · rw [List.getElem_append_left e, List.getElem_append_left (by omega)]
    exact ⟨keep _ _ (hr k e (by omega)).1, (hr k e (by omega)).2⟩
  · have e2 : k = vs.length := by simp at h1; omega
    subst e2
    rw [List.getElem_append_right (Nat.le_refl _), List.getElem_append_right (by omega)]
    simp only [Nat.sub_self, hvl, List.getElem_cons_zero]
    exact ⟨keep _ _ hx, hb⟩
section
variable {o : Oper} {a : Act} {w : World} {K : Act → World → Prop} {Q : Exit → Act → World → Prop}
end
section
variable {ops : Array Oper} {rest : List Oper} {o : Oper} {a : Act} {w : World} {Q : Exit → Act → World → Prop}
end
end Go.Proofs.Ytbadjfnelpfhcaa


namespace Go.Proofs.Ytbadjfnelpfhcaa
open Go.RowKit

/-- A table of one number. -/
structure LnT (w : World) (lo : Nat) (u : Value) (a b : Nat) (z : Int) : Prop where
  val : u = .slice (some ⟨a, 0, none⟩) 1 1
  lo1 : lo ≤ a
  lo2 : lo ≤ b
  top : w.rowIs a 37 1 (fun _ => .slice (some ⟨b, 0, none⟩) 1 1)
  row : w.rowIs b 2 1 (fun _ => .int .i64 z)
theorem LnT.next {w w' : World} {lo : Nat} {u : Value} {a b : Nat} {z : Int} (h : LnT w lo u a b z) (hb : Below w.heap.size w w') : LnT w' lo u a b z :=
  ⟨h.val, h.lo1, h.lo2, h.top.of_block (hb.block _ h.top.lt), h.row.of_block (hb.block _ h.row.lt)⟩
theorem owns_len {w : World} {base n : Nat} {e : TypeId} {v : Value} {xs : List Value} (h : w.ownsRow base e 1 v n xs) : xs.length = n := by rw [h.1]; omega
section
variable {ops : Array Oper} {rest : List Oper} {o : Oper} {a : Act} {w : World} {Q : Exit → Act → World → Prop}
end
end Go.Proofs.Ytbadjfnelpfhcaa


namespace Go.Proofs.Ytbadjfnelpfhcaa
open Go.RowKit

/-- A row put in another's place, in a table that the call gathers. -/
theorem Gs.put {base g n cap : Nat} {w : World} {t : List (List Int)} (h : Gs base w (.slice (some ⟨g, 0, none⟩) n cap) t) {k : Nat} (hk : k < t.length) {u : Value} {x : List Int} (hu : G1 w u x) :
    Gs base (w.setCell ⟨g, k, none⟩ u) (.slice (some ⟨g, 0, none⟩) n cap) (t.set k x) ∧ w.frozen? ⟨g, k, none⟩ = false ∧ (∃ v0, w.cell? ⟨g, k, none⟩ = some v0) ∧ base ≤ g := by
  obtain ⟨vs, ⟨hl, h2⟩, hr⟩ := h
  rcases h2 with ⟨h0, _⟩ | ⟨g', c', cur, hv, hlo, hh, hnc, hcm, hcs, htk⟩
  · cases h0
  · injection hv with e1 e2 e3
    injection e1 with e1
    injection e1 with e1
    subst e1 e2 e3
    have hrow : w.rowIs g 37 cur.size (fun i => cur.getD i undef) := ⟨cur, hh, rfl, fun i hi => by simp [hi]⟩
    have hvl : vs.length = t.length := by omega
    have hkc : k < cur.size := by omega
    refine ⟨⟨vs.set k u, ⟨by simpa using hl, Or.inr ⟨g, cap, cur.setIfInBounds k u, by simp, hlo, block_setCell' hh _, by simpa using hnc, hcm, by simpa using hcs, ?_⟩⟩, fun i h1 h2 => ?_⟩, by simp [World.frozen?, hh], ⟨_, hrow.cell hkc⟩, hlo⟩
    · simp only [List.length_set, Nat.mul_one] at htk ⊢
      rw [Array.toList_setIfInBounds, List.take_set, htk]
    · rw [List.getElem_set, List.getElem_set]
      by_cases e : k = i
      · rw [if_pos e, if_pos e]
        exact hu.off hrow (by decide) _ _
      · rw [if_neg e, if_neg e]
        exact (hr i (by simpa using h1) (by simpa using h2)).off hrow (by decide) _ _
end Go.Proofs.Ytbadjfnelpfhcaa


namespace Go.Proofs.Ytbadjfnelpfhcaa
open Go.RowKit

/-- The rests of a list modulo a reduced one. -/
structure RestsOf (p : Int) (n : Nat) (B C tt : List Lin.V) : Prop where
  rest : ∀ i (h : i < tt.length) (h2 : i < C.length), Lin.Rest p B C[i] B.length tt[i]
  wd : ∀ u ∈ tt, Lin.Wd n u
theorem RestsOf.nil (p : Int) (n : Nat) (B C : List Lin.V) : RestsOf p n B C [] := ⟨fun i h => absurd h (Nat.not_lt_zero _), by simp⟩
theorem RestsOf.push {p : Int} {n : Nat} {B C tt : List Lin.V} (h : RestsOf p n B C tt) {r : Lin.V} (hk : tt.length < C.length) (hr : Lin.Rest p B C[tt.length] B.length r) (hw : Lin.Wd n r) : RestsOf p n B C (tt ++ [r]) := by
  refine ⟨fun i h1 h2 => ?_, fun u hu => ?_⟩
  · by_cases e : i < tt.length
    · rw [List.getElem_append_left e]
      exact h.rest i e h2
    · have e2 : i = tt.length := by simp at h1; omega
      subst e2
      rw [List.getElem_append_right (Nat.le_refl _)]
      simpa using hr
  · rcases List.mem_append.1 hu with h1 | h1
    · exact h.wd u h1
    · rw [List.mem_singleton.1 h1]; exact hw
/-- A table that is being gathered: the empty literal yet, or rows of its own. -/
def GsE (base g : Nat) (w : World) (v : Value) (tb : List (List Int)) : Prop := (tb = [] ∧ v = .slice (some ⟨g, 0, none⟩) 0 0) ∨ Gs base w v tb
theorem GsE.below {base g : Nat} {w w' : World} {v : Value} {tb : List (List Int)} (h : GsE base g w v tb) (hb : Below w.heap.size w w') : GsE base g w' v tb := h.imp id (fun h => h.below hb)
theorem GsE.l2 {base g : Nat} {w : World} {v : Value} {tb : List (List Int)} (h : GsE base g w v tb) : L2 0 w v tb := by
  rcases h with ⟨rfl, rfl⟩ | h
  · exact Or.inl ⟨rfl, _, _, rfl⟩
  · exact h.l2
section
variable {md : Region.Mode} {ops : Array Oper} {Q : Exit → Act → World → Prop} {S : World → Prop}
end

end Go.Proofs.Ytbadjfnelpfhcaa


namespace Go.Proofs.Ytbadjfnelpfhcaa
open Go.RowKit

theorem Gb.put {base g n cap : Nat} {w : World} {xs : List Int} (h : Gb base w (.slice (some ⟨g, 0, none⟩) n cap) xs) {k : Nat} (_hk : k < xs.length) (x : Int) :
    Gb base (w.setCell ⟨g, k, none⟩ (.int .i64 x)) (.slice (some ⟨g, 0, none⟩) n cap) (xs.set k x) ∧ w.frozen? ⟨g, k, none⟩ = false ∧ base ≤ g := by
  obtain ⟨hl, h2⟩ := h
  rcases h2 with ⟨h0, _⟩ | ⟨g', c', cur, hv, hlo, hh, hnc, hcm, hcs, htk⟩
  · cases h0
  · injection hv with e1 e2 e3
    injection e1 with e1
    injection e1 with e1
    subst e1 e2 e3
    refine ⟨⟨by simp, Or.inr ⟨g, cap, cur.setIfInBounds k (.int .i64 x), by simp, hlo, block_setCell' hh _, by simpa using hnc, hcm, by simpa using hcs, ?_⟩⟩, by simp [World.frozen?, hh], hlo⟩
    simp only [List.length_set, Nat.mul_one] at htk ⊢
    rw [Array.toList_setIfInBounds, List.take_set, htk, List.map_set]
theorem Gb.cell {base g n cap : Nat} {w : World} {v : Lin.V} (h : Gb base w (.slice (some ⟨g, 0, none⟩) n cap) (toL n v)) {k : Nat} (hk : k < n) : w.cell? ⟨g, k, none⟩ = some (.int .i64 (v k)) := by
  obtain ⟨b, o, c, hv, hc⟩ := l1_toL h.l1 (show 0 < n by omega)
  injection hv with e1 _ _
  injection e1 with e1
  injection e1 with e1 e2
  subst e1 e2
  have := hc k hk
  rwa [Nat.zero_add] at this
theorem Gb.block {base n cap : Nat} {w : World} {xs : List Int} {ad : Option Addr} (h : Gb base w (.slice ad n cap) xs) (hx : 0 < xs.length) : ∃ g, ad = some ⟨g, 0, none⟩ ∧ base ≤ g := by
  obtain ⟨hl, h2⟩ := h
  rcases h2 with ⟨_, h0⟩ | ⟨g', c', cur, hv, hlo, _⟩
  · omega
  · injection hv with e1 _ _
    exact ⟨g', e1, hlo⟩

theorem add_zero {p : Int} {r t : Lin.V} (h : Lin.Md p r) : Lin.add p r (-0) t = r := funext fun i => by
  unfold Lin.add
  rw [Int.neg_zero, Int.zero_mul, Int.add_zero]
  exact Lin.md_mod (h i).1 (h i).2
section
variable {P : Program} {md : Region.Mode} {ops : Array Oper} {n : Nat} {Q : Exit → Act → World → Prop}
end

end Go.Proofs.Ytbadjfnelpfhcaa


namespace Go.Proofs.Ytbadjfnelpfhcaa
open Go.RowKit

/-- A table in blocks of the call's own, its rows' slices vs apart from each other. -/
structure Gqv (lo : Nat) (w : World) (u : Value) (vs : List Value) (t : List (List Int)) : Prop where
  own : w.ownsRow lo 37 1 u t.length vs
  rows : ∀ k (h1 : k < vs.length) (h2 : k < t.length), Gb lo w vs[k] t[k]
  ap : ∀ i j (hi : i < vs.length) (hj : j < vs.length), i ≠ j → ∀ g, vs[i].ownBlock = some g → vs[j].ownBlock ≠ some g
def Gq (lo : Nat) (w : World) (u : Value) (t : List (List Int)) : Prop := ∃ vs, Gqv lo w u vs t
theorem Gqv.len {lo : Nat} {w : World} {u : Value} {vs : List Value} {t : List (List Int)} (h : Gqv lo w u vs t) : vs.length = t.length := owns_len h.own
theorem Gqv.below {lo : Nat} {w w' : World} {u : Value} {vs : List Value} {t : List (List Int)} (h : Gqv lo w u vs t) (hb : Below w.heap.size w w') : Gqv lo w' u vs t := ⟨owns_below h.own hb, fun k h1 h2 => (h.rows k h1 h2).below hb, h.ap⟩
theorem Gqv.gs {lo : Nat} {w : World} {u : Value} {vs : List Value} {t : List (List Int)} (h : Gqv lo w u vs t) : Gs lo w u t := ⟨vs, h.own, fun k h1 h2 => (h.rows k h1 h2).g1⟩
theorem Gq.gs {lo : Nat} {w : World} {u : Value} {t : List (List Int)} (h : Gq lo w u t) : Gs lo w u t := by obtain ⟨vs, h⟩ := h; exact h.gs
theorem Gq.l2 {lo : Nat} {w : World} {u : Value} {t : List (List Int)} (h : Gq lo w u t) : L2 0 w u t := h.gs.l2
theorem Gq.below {lo : Nat} {w w' : World} {u : Value} {t : List (List Int)} (h : Gq lo w u t) (hb : Below w.heap.size w w') : Gq lo w' u t := by obtain ⟨vs, h⟩ := h; exact ⟨vs, h.below hb⟩
theorem Gq.nil {lo : Nat} {w : World} {u : Value} (h : Gs lo w u []) : Gq lo w u [] := by
  obtain ⟨vs, ho, hr⟩ := h
  have hl := owns_len ho
  exact ⟨vs, ho, fun k _ h2 => absurd h2 (Nat.not_lt_zero _), fun i j hi => absurd hi (by rw [hl]; simp)⟩
theorem Gqv.push {lo : Nat} {w w' : World} {u u' row : Value} {vs : List Value} {t : List (List Int)} {y : List Int} (h : Gqv lo w u vs t) (hn : w'.ownsRow lo 37 1 u' (t.length + 1) (vs ++ [row])) (hg : w.grownBy w' u.ownBlock) (hr : Gb lo w row y)
    (hap : ∀ i (hi : i < vs.length) g, vs[i].ownBlock = some g → row.ownBlock ≠ some g) : Gqv lo w' u' (vs ++ [row]) (t ++ [y]) := by
  have hl := h.len
  have hrow : ∀ {v : Value} {x : List Int}, Gb lo w v x → Gb lo w' v x := fun hx => owns_grown hx h.own (by decide) hg
  refine ⟨by simpa using hn, fun k h1 h2 => ?_, fun i j hi hj hij g e => ?_⟩
  · by_cases e : k < t.length
    · rw [List.getElem_append_left (by omega), List.getElem_append_left e]
      exact hrow (h.rows k (by omega) e)
    · have e2 : k = t.length := by simp at h2; omega
      subst e2
      rw [List.getElem_append_right (by omega), List.getElem_append_right (by omega)]
      simp only [hl, Nat.sub_self, List.getElem_singleton]
      exact hrow hr
  · by_cases e1 : i < vs.length
    · rw [List.getElem_append_left e1] at e
      by_cases e2 : j < vs.length
      · rw [List.getElem_append_left e2]
        exact h.ap i j e1 e2 hij g e
      · have e3 : j = vs.length := by simp at hj; omega
        subst e3
        rw [List.getElem_append_right (Nat.le_refl _)]
        simp only [Nat.sub_self, List.getElem_singleton]
        exact hap i e1 g e
    · have e3 : i = vs.length := by simp at hi; omega
      subst e3
      rw [List.getElem_append_right (Nat.le_refl _)] at e
      simp only [Nat.sub_self, List.getElem_singleton] at e
      have e2 : j < vs.length := by simp at hj; omega
      rw [List.getElem_append_left e2]
      exact fun h2 => hap j e2 g h2 e
/-- A number put into a row. -/
theorem Gqv.put {lo : Nat} {w : World} {u : Value} {vs : List Value} {t : List (List Int)} (h : Gqv lo w u vs t) {i : Nat} (hi : i < t.length) {g n c : Nat} (hv : vs[i]'(by rw [h.len]; exact hi) = .slice (some ⟨g, 0, none⟩) n c) {q : Nat} (hq : q < (t[i]).length) (x : Int) :
    Gqv lo (w.setCell ⟨g, q, none⟩ (.int .i64 x)) u vs (t.set i ((t[i]).set q x)) ∧ w.frozen? ⟨g, q, none⟩ = false ∧ lo ≤ g := by
  have hl := h.len
  have hrow := h.rows i (by omega) hi
  rw [hv] at hrow
  obtain ⟨hp, hf, hlo⟩ := hrow.put hq x
  have hob : (Value.slice (some ⟨g, 0, none⟩) n c).ownBlock = some g := rfl
  have hrr : ∃ k f, w.rowIs g 2 k f := by
    rcases hrow.2 with ⟨h0, _⟩ | ⟨g', c', cur, hv2, _, hh, _⟩
    · cases h0
    · injection hv2 with e1
      injection e1 with e1
      injection e1 with e1
      subst e1
      exact ⟨cur.size, fun i => cur.getD i undef, cur, hh, rfl, fun i hi => by simp [hi]⟩
  obtain ⟨k0, f0, hrr⟩ := hrr
  refine ⟨⟨by rw [List.length_set]; exact owns_off h.own hrr (by decide) _ _, fun k h1 h2 => ?_, h.ap⟩, hf, hlo⟩
  rw [List.getElem_set]
  by_cases e : i = k
  · subst e
    rw [if_pos rfl]
    rw [hv]
    exact hp
  · rw [if_neg e]
    have hk : k < t.length := by simpa using h2
    exact ownsRow_setCell_other (h.rows k h1 hk) (fun e2 => h.ap k i h1 (by omega) (Ne.symm e) g e2 (by rw [hv]; rfl)) _
def GqR (t : List (List Int)) (w : World) (e : Ending) (w' : World) : Prop := ∃ u, e = .returned u ∧ Gq w.heap.size w' u t ∧ Below w.heap.size w w'
section
variable {ops : Array Oper} {rest : List Oper} {o : Oper} {a : Act} {w : World} {Q : Exit → Act → World → Prop}
/-- append of one row, its own row of rows. -/
theorem wpList_appendLr (hgd : o.guard = none) (dst : Option Tmp) (hdst : o.dst = dst) (s x : Operand) (ho : o.op = .call { callee := .builtin .append, args := #[s, x], argTypes := #[22, 22] }) (base : Nat) (v : Value) (n : Nat) (vs : List Value) (hs : a.eval s = v) (hown : w.ownsRow base 37 1 v n vs)
    (b : Nat) (hx : a.eval x = .slice (some ⟨b, 0, none⟩) 1 1) (ar : Option Addr) (nr cr : Nat) (hc : w.cell? ⟨b, 0, none⟩ = some (.slice ar nr cr)) (hl : n ≤ 2097151) (hb : base ≤ w.heap.size)
    (h : ∀ g cap w', w'.ownsRow base 37 1 (.slice (some ⟨g, 0, none⟩) (n + 1) cap) (n + 1) (vs ++ [.slice ar nr cr]) → w.grownBy w' v.ownBlock → wpList Try.prog ops Q rest (a.put dst (.slice (some ⟨g, 0, none⟩) (n + 1) cap)) w') : wpList Try.prog ops Q (o :: rest) a w := by
  obtain ⟨i, hi, hz, hs1, hb1⟩ := info_parts Try.infoS
  subst hdst
  refine wpList_append_lies w hgd s x 22 ho base 37 i _ 1 24 Try.underlying22 hi hz hs1 hb1 rfl (by decide) v n vs hs hown ⟨b, 0, none⟩ 1 1 [.slice ar nr cr] hx rfl ?_ ?_ (by omega) (by unfold maxLen; omega) (by omega) hb _ rfl (fun g cap w' h1 h2 _ _ => h g cap w' h1 h2)
  · intro j u hj
    match j, hj with
    | 0, hj =>
      simp at hj
      subst hj
      exact hc
  · intro u hu
    simp at hu
    subst hu
    rfl
end

set_option maxHeartbeats 1600000 in
set_option maxRecDepth 100000 in
theorem l01Rows_q (vt : Value) (t : List (List Int)) (w : World) (ht : L2 0 w vt t) (hr : t.length ≤ 1048576) (hl : ∀ x ∈ t, x.length ≤ 1048576) :
    Calls Try.prog 72 #[vt] w (GqR t w) := by
  obtain ⟨at', ct, rfl⟩ := Sl.shape ht
  have HT := Lib.hid ht
  have HL := Lib.hid hl
  have HT0 : Hid (Gq w.heap.size (w.alloc (.cells #[] 37)) (.slice (some ⟨w.heap.size, 0, none⟩) 0 0) []) := Lib.hid (Gq.nil (Gs.new (base := w.heap.size) w (Nat.le_refl _)))
  clear ht hl
  go_enter Try.func72, Try.ntmps72
  go_wp2
  go_loopw [3, 4] (fun ov i wr => ∃ (k : Nat), k ≤ t.length ∧ i = .int .i64 k ∧ Hid (Below w.heap.size w wr) ∧ Hid (Gq w.heap.size wr ov (t.take k))) (fun _ i _ => t.length - (intOf i).toNat)
  case atStart => exact ⟨0, Nat.zero_le _, rfl, Lib.hid (below_alloc1 _ _), Lib.hid (by rw [List.take_zero]; exact HT0.out)⟩
  case round =>
    clear HT0
    obtain ⟨k, hk, rfl, HB, HG⟩ := hrel
    obtain ⟨wx, hwx⟩ : ∃ wx : World, wx = wr := ⟨_, rfl⟩
    subst hwx
    have hgl : (t.take k).length = k := by rw [List.length_take]; omega
    obtain ⟨ao, co, hov⟩ := Sl.shape HG.out.l2
    rw [hgl] at hov
    subst hov
    have HGN := Lib.hid hgl
    clear hgl
    have hsx : w.heap.size ≤ wx.heap.size := HB.out.size
    by_cases hlt : k < t.length
    · have hkl : (k : Int) < (t.length : Int) := by omega
      refine Sl.cases HT.out (fun _ _ hx _ => absurd hlt (by simp [hx])) (fun bt ot ct2 hvt _ _ hcl => ?_)
      injection hvt with e1 e2 e3
      clear e2
      subst e1 e3
      obtain ⟨ur, hur0, hrr⟩ := hcl k hlt
      have hur : wx.cell? ⟨bt, ot + k, none⟩ = some ur := later HB.out (Nat.le_refl _) hur0
      obtain ⟨y, hy⟩ : ∃ y, y = t[k] := ⟨_, rfl⟩
      rw [← hy] at hrr
      have hyl := HL.out y (by rw [hy]; exact List.getElem_mem hlt)
      have HTK : Hid (t.take (k + 1) = t.take k ++ [y]) := Lib.hid (by rw [List.take_succ_eq_append_getElem hlt, hy])
      obtain ⟨n, hn⟩ : ∃ n, n = y.length := ⟨_, rfl⟩
      obtain ⟨ar, cr, hus⟩ := Sl.shape hrr
      have HOW := Lib.hid (l01Own_any ur y wx (hrr.below HB.out) hyl)
      subst hus
      rw [← hn] at hur HOW
      have HN := Lib.hid hn
      clear hcl hrr hur0 hyl hn hy
      go_wp2_with fail
      refine HOW.out.mono ?_
      rintro e w2 ⟨u2, rfl, hg2, hb2⟩
      obtain ⟨a2, n2, hv2⟩ := Sl.shape hg2.l1
      rw [← HN.out] at hv2
      subst hv2
      have hs2 : wx.heap.size ≤ w2.heap.size := hb2.size
      have hba : Below w2.heap.size w2 (w2.alloc (.cells #[.slice a2 n n2] 37)) := below_alloc1 _ _
      have HGU := Lib.hid ((hg2.below hba).mono hsx)
      have HGO : Hid (∀ g, (Value.slice a2 n n2).ownBlock = some g → wx.heap.size ≤ g) := Lib.hid (fun g hg => (hg2.lt g hg).1)
      obtain ⟨vs, hvs⟩ := HG.out
      have HVS := Lib.hid ((hvs.below hb2).below hba)
      have HVL : Hid (∀ i (h : i < vs.length) g, vs[i].ownBlock = some g → g < wx.heap.size) := Lib.hid (fun i h g hg => ((hvs.rows i h (by have := hvs.len; omega)).lt g hg).2)
      have HVO := Lib.hid HVS.out.own
      rw [HGN.out] at HVO
      clear hvs
      have HBZ := Lib.hid ((HB.out.trans (hb2.mono hsx)).trans (hba.mono (by omega)))
      have hcell := cell_alloc1 w2 (.slice a2 n n2) 37
      clear hb2 hg2 hba hur HOW
      go_wp2_with (at_builtin; refine wpList_appendLr rfl (some 19) rfl (.tmp 12) (.tmp 18) rfl w.heap.size _ k vs rfl HVO.out w2.heap.size rfl a2 n n2 hcell ?c1 ?c2 ?_)
      case c1 => omega
      case c2 => first | (simp; omega) | omega
      intro g7 c7 W7 hg7 hgr7
      have HS7 : Hid (Gq w.heap.size W7 (.slice (some ⟨g7, 0, none⟩) (k + 1) c7) (t.take (k + 1))) := Lib.hid (by rw [HTK.out]; exact ⟨_, HVS.out.push (by rw [HGN.out]; exact hg7) hgr7 HGU.out (fun i h g hg hg2 => by have := HVL.out i h g hg; have := HGO.out g hg2; omega)⟩)
      have HB7 : Hid (Below w.heap.size w W7) := Lib.hid (HBZ.out.grown hgr7 (by simp; omega) (fun g hg => (HVS.out.own.lt g hg).1))
      clear hg7 hgr7 hcell
      go_wp2
      go_roundw
      case rel => first | exact ⟨k + 1, by omega, by go_num, HB7, HS7⟩ | ((repeat apply Exists.intro); exact ⟨⟨k + 1, by omega, by go_num, HB7, HS7⟩, rfl⟩)
      case measure => simp [intOf]; omega
    · have hkn : ¬ (k : Int) < (t.length : Int) := by omega
      have HKE : Hid (k = t.length) := Lib.hid (by omega)
      go_wp2
      go_ret
      exact ⟨_, rfl, by have := HG.out; rwa [HKE.out, List.take_length, ← HKE.out] at this, HB.out⟩
end Go.Proofs.Ytbadjfnelpfhcaa


namespace Go.Proofs.Ytbadjfnelpfhcaa
open Go.RowKit

/-- Another row's number was put: the table stands. -/
theorem Gqv.off {lo : Nat} {w : World} {u : Value} {vs : List Value} {t : List (List Int)} (h : Gqv lo w u vs t) {g k : Nat} {f : Nat → Value} (hrr : w.rowIs g 2 k f) (hne : ∀ i (hi : i < vs.length), vs[i].ownBlock ≠ some g) (q : Nat) (x : Value) :
    Gqv lo (w.setCell ⟨g, q, none⟩ x) u vs t :=
  ⟨owns_off h.own hrr (by decide) _ _, fun k h1 h2 => ownsRow_setCell_other (h.rows k h1 h2) (hne k h1) _, h.ap⟩
theorem Gb.isRow {lo g n c : Nat} {w : World} {xs : List Int} (h : Gb lo w (.slice (some ⟨g, 0, none⟩) n c) xs) : ∃ k f, w.rowIs g 2 k f := by
  rcases h.2 with ⟨h0, _⟩ | ⟨g', c', cur, hv2, _, hh, _⟩
  · cases h0
  · injection hv2 with e1
    injection e1 with e1
    injection e1 with e1
    subst e1
    exact ⟨cur.size, fun i => cur.getD i undef, cur, hh, rfl, fun i hi => by simp [hi]⟩
/-- n tables T, their values U, their rows' slices V. -/
structure Gtq (lo : Nat) (w : World) (u : Value) (n : Nat) (U : Nat → Value) (V : Nat → List Value) (T : Nat → List (List Int)) : Prop where
  own : w.ownsRow lo 22 1 u n ((List.range n).map U)
  tabs : ∀ k, k < n → Gqv lo w (U k) (V k) (T k)
  ap : ∀ k l, k < n → l < n → k ≠ l → ∀ i (hi : i < (V k).length) j (hj : j < (V l).length) g, (V k)[i].ownBlock = some g → (V l)[j].ownBlock ≠ some g
theorem Gtq.below {lo : Nat} {w w' : World} {u : Value} {n : Nat} {U : Nat → Value} {V : Nat → List Value} {T : Nat → List (List Int)} (h : Gtq lo w u n U V T) (hb : Below w.heap.size w w') : Gtq lo w' u n U V T :=
  ⟨owns_below h.own hb, fun k hk => (h.tabs k hk).below hb, h.ap⟩
theorem Gtq.gt {lo : Nat} {w : World} {u : Value} {n : Nat} {U : Nat → Value} {V : Nat → List Value} {T : Nat → List (List Int)} (h : Gtq lo w u n U V T) : Gt lo w u ((List.range n).map T) := by
  refine ⟨_, by simpa using h.own, fun k h1 h2 => ?_⟩
  have hk : k < n := by simpa using h2
  simp only [List.getElem_map, List.getElem_range]
  exact ((h.tabs k hk).gs).mono (Nat.zero_le _)
theorem Gtq.put {lo : Nat} {w : World} {u : Value} {n : Nat} {U : Nat → Value} {V : Nat → List Value} {T : Nat → List (List Int)} (h : Gtq lo w u n U V T) {k i : Nat} (hk : k < n) (hi : i < (T k).length) {g m c : Nat} (hv : (V k)[i]'(by rw [(h.tabs k hk).len]; exact hi) = .slice (some ⟨g, 0, none⟩) m c) {q : Nat} (hq : q < ((T k)[i]).length) (x : Int) :
    Gtq lo (w.setCell ⟨g, q, none⟩ (.int .i64 x)) u n U V (fun l => if l = k then (T k).set i (((T k)[i]).set q x) else T l) ∧ w.frozen? ⟨g, q, none⟩ = false ∧ lo ≤ g := by
  have ht := h.tabs k hk
  obtain ⟨hp, hf, hlo⟩ := ht.put hi hv hq x
  have hrow := ht.rows i (by rw [ht.len]; exact hi) hi
  rw [hv] at hrow
  obtain ⟨k0, f0, hrr⟩ := hrow.isRow
  refine ⟨⟨owns_off h.own hrr (by decide) _ _, fun l hl => ?_, h.ap⟩, hf, hlo⟩
  by_cases e : l = k
  · subst e
    rw [if_pos rfl]
    exact hp
  · rw [if_neg e]
    refine (h.tabs l hl).off hrr (fun j hj => ?_) _ _
    exact h.ap k l hk hl (Ne.symm e) i (by rw [ht.len]; exact hi) j hj g (by rw [hv]; rfl)
end Go.Proofs.Ytbadjfnelpfhcaa


namespace Go.Proofs.Ytbadjfnelpfhcaa
open Go.RowKit

theorem hloadSS (w : World) {b o : Nat} {x : Value} (h : w.cell? ⟨b, o, none⟩ = some x) : (Instr.loadAt 22 (.pointer (some ⟨b, o, none⟩))).run Try.prog w = .ok x w := by go_simp
theorem hloadSSS (w : World) {b o : Nat} {x : Value} (h : w.cell? ⟨b, o, none⟩ = some x) : (Instr.loadAt 38 (.pointer (some ⟨b, o, none⟩))).run Try.prog w = .ok x w := by go_simp
end Go.Proofs.Ytbadjfnelpfhcaa


namespace Go.Proofs.Ytbadjfnelpfhcaa
open Go.RowKit

theorem Gqv.grownT {lo lo2 : Nat} {w w' : World} {u u2 : Value} {vs xs : List Value} {t : List (List Int)} {n : Nat} (h : Gqv lo w u vs t) (ho : w.ownsRow lo2 22 1 u2 n xs) (hg : w.grownBy w' u2.ownBlock) : Gqv lo w' u vs t :=
  ⟨owns_grown h.own ho (by decide) hg, fun k h1 h2 => owns_grown (h.rows k h1 h2) ho (by decide) hg, h.ap⟩
theorem Gqv.mono {lo lo' : Nat} (hl : lo' ≤ lo) {w : World} {u : Value} {vs : List Value} {t : List (List Int)} (h : Gqv lo w u vs t) : Gqv lo' w u vs t :=
  ⟨owns_mono h.own hl, fun k h1 h2 => owns_mono (h.rows k h1 h2) hl, h.ap⟩
theorem Gqv.lt {lo : Nat} {w : World} {u : Value} {vs : List Value} {t : List (List Int)} (h : Gqv lo w u vs t) {k : Nat} (hk : k < vs.length) {g : Nat} (hg : vs[k].ownBlock = some g) : lo ≤ g ∧ g < w.heap.size := (h.rows k hk (by rw [← h.len]; exact hk)).lt g hg
theorem Gtq.push {lo : Nat} {w w' : World} {u u' x : Value} {n : Nat} {U : Nat → Value} {V : Nat → List Value} {T : Nat → List (List Int)} {vs : List Value} {t : List (List Int)} (h : Gtq lo w u n U V T)
    (hn : w'.ownsRow lo 22 1 u' (n + 1) ((List.range n).map U ++ [x])) (hg : w.grownBy w' u.ownBlock) (hr : Gqv lo w x vs t)
    (hap : ∀ k, k < n → ∀ i (hi : i < (V k).length) j (hj : j < vs.length) g, (V k)[i].ownBlock = some g → vs[j].ownBlock ≠ some g) :
    Gtq lo w' u' (n + 1) (fun k => if k = n then x else U k) (fun k => if k = n then vs else V k) (fun k => if k = n then t else T k) := by
  refine ⟨?_, fun k hk => ?_, fun k l hk hl hkl => ?_⟩
  · have e : (List.range (n + 1)).map (fun k => if k = n then x else U k) = (List.range n).map U ++ [x] := by
      rw [List.range_succ, List.map_append]
      congr 1
      · exact List.map_congr_left fun k hk => by rw [if_neg (by have := List.mem_range.1 hk; omega)]
      · simp
    rw [e]
    exact hn
  · by_cases e : k = n
    · simp only [e, if_true]
      exact hr.grownT h.own hg
    · simp only [e, if_false]
      exact (h.tabs k (by omega)).grownT h.own hg
  · have key : ∀ A B : List Value, A = (if k = n then vs else V k) → B = (if l = n then vs else V l) → ∀ i (hi : i < A.length) j (hj : j < B.length) g, A[i].ownBlock = some g → B[j].ownBlock ≠ some g := by
      intro A B hA hB
      by_cases e1 : k = n
      · rw [if_pos e1] at hA
        rw [if_neg (by omega)] at hB
        subst hA hB
        exact fun i hi j hj g e2 e3 => hap l (by omega) j hj i hi g e3 e2
      · rw [if_neg e1] at hA
        subst hA
        by_cases e2 : l = n
        · rw [if_pos e2] at hB
          subst hB
          exact fun i hi j hj g e3 => hap k (by omega) i hi j hj g e3
        · rw [if_neg e2] at hB
          subst hB
          exact h.ap k l (by omega) (by omega) hkl
    exact key _ _ rfl rfl
end Go.Proofs.Ytbadjfnelpfhcaa


namespace Go.Proofs.Ytbadjfnelpfhcaa
open Go.RowKit

section
variable {lo : Nat} {w w' : World} {u v vm : Value} {vs : List Value} {t : List (List Int)} {ds : List Int} {n : Nat} {U : Nat → Value} {V : Nat → List Value} {T : Nat → List (List Int)}
theorem Gqv.offC (h : Gqv lo w u vs t) {g k : Nat} {f : Nat → Value} (hr : w.rowIs g 40 k f) (i : Nat) (x : Value) : Gqv lo (w.setCell ⟨g, i, none⟩ x) u vs t :=
  ⟨owns_off h.own hr coT.2.1 _ _, fun k h1 h2 => (h.rows k h1 h2).off hr coT.1 _ _, h.ap⟩
theorem Gtq.offC (h : Gtq lo w u n U V T) {g k : Nat} {f : Nat → Value} (hr : w.rowIs g 40 k f) (i : Nat) (x : Value) : Gtq lo (w.setCell ⟨g, i, none⟩ x) u n U V T :=
  ⟨owns_off h.own hr coT.2.2 _ _, fun k hk => (h.tabs k hk).offC hr _ _, h.ap⟩
theorem Gtq.lower {lo' : Nat} (h : Gtq lo w u n U V T) (hl : lo' ≤ lo) : Gtq lo' w u n U V T := ⟨owns_mono h.own hl, fun k hk => (h.tabs k hk).mono hl, h.ap⟩
theorem Gtq.shape (h : Gtq lo w u n U V T) : ∃ ad cap, u = .slice ad n cap := by
  rcases h.own.2 with ⟨hs, h0⟩ | ⟨g, cap, cur, hs, _⟩
  · exact ⟨none, 0, by rw [hs, h0]⟩
  · exact ⟨_, cap, hs⟩
/-- A copy's dimensions and tables. -/
structure Cyq (lo : Nat) (w : World) (v vm : Value) (ds : List Int) (n : Nat) (U : Nat → Value) (V : Nat → List Value) (T : Nat → List (List Int)) : Prop where
  dims : Gb lo w v ds
  maps : Gtq lo w vm n U V T
  dap : ∀ k, k < n → ∀ i (hi : i < (V k).length) g, (V k)[i].ownBlock = some g → v.ownBlock ≠ some g
theorem Cyq.below (h : Cyq lo w v vm ds n U V T) (hb : Below w.heap.size w w') : Cyq lo w' v vm ds n U V T := ⟨h.dims.below hb, h.maps.below hb, h.dap⟩
theorem Cyq.offC (h : Cyq lo w v vm ds n U V T) {g k : Nat} {f : Nat → Value} (hr : w.rowIs g 40 k f) (i : Nat) (x : Value) : Cyq lo (w.setCell ⟨g, i, none⟩ x) v vm ds n U V T :=
  ⟨h.dims.off hr coT.1 _ _, h.maps.offC hr _ _, h.dap⟩
theorem Cyq.lower {lo' : Nat} (h : Cyq lo w v vm ds n U V T) (hl : lo' ≤ lo) : Cyq lo' w v vm ds n U V T := ⟨h.dims.mono hl, h.maps.lower hl, h.dap⟩
end
/-- The box of a copy while it is gathered. -/
structure Sq (w1 wr : World) (g : Nat) (p : Int) (v vm : Value) (ds : List Int) (n : Nat) (U : Nat → Value) (V : Nat → List Value) (T : Nat → List (List Int)) : Prop where
  below : Below w1.heap.size w1 wr
  lo : w1.heap.size ≤ g
  box : wr.rowIs g 40 3 (sel3 (.int .i64 p) v vm)
  cy : Cyq w1.heap.size wr v vm ds n U V T
section
variable {w1 wr wa w' : World} {g n n' : Nat} {p : Int} {v vm v' : Value} {ds : List Int} {U U' : Nat → Value} {V V' : Nat → List Value} {T T' : Nat → List (List Int)}
theorem Sq.next (h : Sq w1 wr g p v vm ds n U V T) (hb : Below wr.heap.size wr w') : Sq w1 w' g p v vm ds n U V T :=
  ⟨h.below.trans (hb.mono h.below.size), h.lo, h.box.of_block (hb.block _ h.box.lt), h.cy.below hb⟩
theorem Sq.stepM (h : Sq w1 wa g p v vm ds n U V T) (hg : wa.grownBy w' vm.ownBlock) (hn : Gtq w1.heap.size w' v' n' U' V' T') (hd : ∀ k, k < n' → ∀ i (hi : i < (V' k).length) g, (V' k)[i].ownBlock = some g → v.ownBlock ≠ some g) : Sq w1 (w'.setCell ⟨g, 2, none⟩ v') g p v v' ds n' U' V' T' := by
  have hr := row_grown h.box h.cy.maps.own coT.2.2 hg
  have hb := h.below.grown hg h.below.size (fun g hg => (h.cy.maps.own.lt g hg).1)
  have hdm : Gb w1.heap.size w' v ds := owns_grown h.cy.dims h.cy.maps.own (by decide) hg
  refine ⟨hb.setCell h.lo _, h.lo, (hr.set 2 v').congr (fun j hj => ?_), ⟨hdm.off hr coT.1 _ _, hn.offC hr _ _, hd⟩⟩
  match j, hj with
  | 0, _ => rfl
  | 1, _ => rfl
  | 2, _ => rfl
end
theorem gtq_nil {base b : Nat} {W : World} (h : Rz W b 22 #[]) (hb : base ≤ b) (U : Nat → Value) (V : Nat → List Value) (T : Nat → List (List Int)) : Gtq base W (.slice (some ⟨b, 0, none⟩) 0 0) 0 U V T :=
  ⟨⟨rfl, Or.inr ⟨b, 0, #[], rfl, hb, h, by simp, by unfold maxLen; omega, by simp, by simp⟩⟩, fun k h1 => absurd h1 (Nat.not_lt_zero _), fun k _ h1 => absurd h1 (Nat.not_lt_zero _)⟩
theorem gb_offRowC {lo g : Nat} {W : World} {u : Value} {xs : List Int} (h : Gb lo W u xs) {old : Array Value} (hr : Rz W g 40 old) (cs : Array Value) : Gb lo (W.setRow g cs) u xs := by
  refine ⟨h.1, ?_⟩
  rcases h.2 with h2 | ⟨g2, cap, cur, hu, hb, hh, r⟩
  · exact Or.inl h2
  · refine Or.inr ⟨g2, cap, cur, hu, hb, ?_, r⟩
    rw [setRow_other W g g2 cs (by
      intro e
      subst e
      have hr' : W.heap[g2]? = some (.cells old 40 (0, 0)) := hr
      rw [hr'] at hh
      simp at hh)]
    exact hh
end Go.Proofs.Ytbadjfnelpfhcaa


namespace Go.Proofs.Ytbadjfnelpfhcaa
open Go.RowKit

/-- The dimension of a cell, 0 beyond all cells. -/
def dco (ds : List (List Int)) (i j : Int) : Int := if 0 ≤ i ∧ i < ds.length ∧ 0 ≤ j ∧ j < (ds.getD 0 []).length then (ds.getD i.toNat []).getD j.toNat 0 else 0

set_option maxRecDepth 100000 in
set_option maxHeartbeats 4000000 in
theorem l03Dim_any (p i j : Int) (dv av vv : Value) (ds : List (List Int)) (w : World) (h : L2 0 w dv ds) (hok : DclOk ds) (hi : -1000 ≤ i ∧ i ≤ 1000) (hj : -1000 ≤ j ∧ j ≤ 1000) :
    Calls Try.prog 121 #[.agg #[.int .i64 p, dv, av, vv], .int .i64 i, .int .i64 j] w fun e w' => e = .returned (.int .i64 (dco ds i j)) ∧ Below w.heap.size w w' := by
  have HOK := Lib.hid hok
  have hm4 := hok.len1
  have hm1 := hok.len0
  have hq1 := hok.h0
  have hq4 := hok.h1
  clear hok
  rcases h with ⟨hx, _⟩ | ⟨bb, o, cd, rfl, _, hpos, hc⟩
  · subst hx; simp at hm1
  obtain ⟨u0, hu0, hr0⟩ := hc 0 hpos
  rw [Nat.add_zero] at hu0
  obtain ⟨a0, z0, rfl⟩ := Sl.shape hr0
  rw [← getD_of_lt [] hpos] at hu0
  have HC := Lib.hid hc
  clear hc hr0
  obtain ⟨m, hm⟩ : ∃ m, m = ds.length := ⟨_, rfl⟩
  obtain ⟨q, hq⟩ : ∃ q, q = (ds.getD 0 []).length := ⟨_, rfl⟩
  have HM := Lib.hid hm
  have HQ := Lib.hid hq
  rw [← hm] at hm4 hm1 hpos ⊢
  rw [← hq] at hq1 hq4 hu0
  clear hm hq
  have hB : Below w.heap.size w (w.alloc (.cells #[.int .i64 p, .slice (some ⟨bb, o, none⟩) m cd, av, vv] 28)) := (Below.refl _ _).alloc (Nat.le_refl _) _
  have hu0' := later hB (Nat.le_refl _) hu0
  have HBL := Lib.hid hB
  clear hu0
  by_cases h1 : 0 ≤ i ∧ i ≤ (m : Int) - 1
  · have HI1 : Hid (∀ W, Calls Try.prog 70 #[.int .i64 i, .int .i64 0, .int .i64 ((m : Int) - 1)] W (QW (.bool true) W)) := Lib.hid (fun W => spin_yes h1 W)
    by_cases h2 : 0 ≤ j ∧ j ≤ (q : Int) - 1
    · have HI2 : Hid (∀ W, Calls Try.prog 70 #[.int .i64 j, .int .i64 0, .int .i64 ((q : Int) - 1)] W (QW (.bool true) W)) := Lib.hid (fun W => spin_yes h2 W)
      have HV : Hid (dco ds i j = (ds.getD i.toNat []).getD j.toNat 0) := Lib.hid (if_pos ⟨h1.1, by have := HM.out; omega, h2.1, by have := HQ.out; omega⟩)
      rw [HV.out]
      obtain ⟨a, rfl⟩ := Int.eq_ofNat_of_zero_le h1.1
      obtain ⟨b, rfl⟩ := Int.eq_ofNat_of_zero_le h2.1
      simp only [Int.toNat_natCast]
      have ha : a < ds.length := by have := HM.out; omega
      have ham : a < m := by omega
      obtain ⟨u, hu, hr⟩ := HC.out a ha
      have hcol : (ds[a]).length = q := by rw [HQ.out]; exact (HOK.out.col _ (List.getElem_mem ha)).1
      have hb' : b < (ds[a]).length := by omega
      rw [getD_of_lt _ ha]
      rcases hr with ⟨hx, _⟩ | ⟨b2, o2, cd2, rfl, _, hpos2, hc2⟩
      · rw [hx] at hb'; simp at hb'
      obtain ⟨u2, hu2, hr2⟩ := hc2 b hb'
      have hr2' : u2 = .int .i64 ((ds[a])[b]) := hr2
      subst hr2'
      rw [getD_of_lt _ hb']
      obtain ⟨z, hz⟩ : ∃ z, z = (ds[a])[b] := ⟨_, rfl⟩
      rw [← hz] at hu2 ⊢
      rw [hcol] at hu
      have hbq : b < q := by omega
      have hu' := later HBL.out (Nat.le_refl _) hu
      have hu2' := later HBL.out (Nat.le_refl _) hu2
      clear hz hc2 hr2 hpos2 hcol ha hb' hu hu2 hi hj hB
      go_enter Try.func121, Try.ntmps121
      go_wp2_with fail
      refine (HI1.out _).mono ?_
      rintro e w' ⟨rfl, rfl⟩
      go_wp2_with fail
      refine (HI2.out _).mono ?_
      rintro e w' ⟨rfl, rfl⟩
      clear h1 h2
      go_wp2
      go_ret
      exact ⟨rfl, HBL.out⟩
    · have HI2 : Hid (∀ W, Calls Try.prog 70 #[.int .i64 j, .int .i64 0, .int .i64 ((q : Int) - 1)] W (QW (.bool false) W)) := Lib.hid (fun W => spin_no h2 W)
      have HV : Hid (dco ds i j = 0) := Lib.hid (if_neg (fun h => h2 ⟨h.2.2.1, by have := HQ.out; omega⟩))
      rw [HV.out]
      clear hi hj hB
      go_enter Try.func121, Try.ntmps121
      go_wp2_with fail
      refine (HI1.out _).mono ?_
      rintro e w' ⟨rfl, rfl⟩
      go_wp2_with fail
      refine (HI2.out _).mono ?_
      rintro e w' ⟨rfl, rfl⟩
      go_wp2
      go_ret
      exact ⟨rfl, HBL.out⟩
  · have HI1 : Hid (∀ W, Calls Try.prog 70 #[.int .i64 i, .int .i64 0, .int .i64 ((m : Int) - 1)] W (QW (.bool false) W)) := Lib.hid (fun W => spin_no h1 W)
    have HV : Hid (dco ds i j = 0) := Lib.hid (if_neg (fun h => h1 ⟨h.1, by have := HM.out; omega⟩))
    rw [HV.out]
    clear hi hj hB
    go_enter Try.func121, Try.ntmps121
    go_wp2_with fail
    refine (HI1.out _).mono ?_
    rintro e w' ⟨rfl, rfl⟩
    go_wp2
    go_ret
    exact ⟨rfl, HBL.out⟩
end Go.Proofs.Ytbadjfnelpfhcaa

