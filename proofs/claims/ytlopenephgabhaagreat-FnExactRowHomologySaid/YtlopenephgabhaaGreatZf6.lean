/-
  Texts that ProofRhl needs, part 6.
-/
import Derived.Test.YtlopenephgabhaaGreatZf5
import Derived.Deep.Cut
import Derived.Deep.CutRange
import Derived.StillTailTactics
import Derived.RegionTactic
import Derived.Deep.Strs
namespace Go.Proofs.YtlopenephgabhaaGreat
open Go.RowKit Go.Shelf
attribute [local go_sem] Oper.semAt_some calm_normal calm_ret

set_option maxHeartbeats 12800000 in
set_option maxRecDepth 100000 in
theorem totalComplex_any (p : Int) (hp : IsP p) (dv av vv : Value) (ds : List (List Int)) (ac dn : List (List (List (List Int)))) (w : World) (h : Dx 0 w dv av vv ds ac dn) (hok : DclOk ds) (ht : TbsOk p ds ac dn) :
    Calls Tryz.prog 68 #[.agg #[.int .i64 p, dv, av, vv]] w fun e w' => ∃ u, e = .returned u ∧ RwC w.heap.size w'.heap.size w' u (p, tD ds, tM ds ac dn) ∧ Below w.heap.size w w' := by
  have hres : Tryz.f68.results = #[.cell 2 66] := by kernel_rfl
  have HRES := Lib.hid hres
  clear hres
  have HP := Lib.hid hp
  have HOK := Lib.hid hok
  have HT := Lib.hid ht
  have HX := Lib.hid h
  have hl0 := hok.len0
  have hl4 := hok.len1
  have hq0 := hok.h0
  have hq4 := hok.h1
  obtain ⟨m, hm⟩ : ∃ m, m = ds.length := ⟨_, rfl⟩
  obtain ⟨q, hq⟩ : ∃ q, q = (ds.getD 0 []).length := ⟨_, rfl⟩
  obtain ⟨t, htt⟩ : ∃ t, t = ttop ds := ⟨_, rfl⟩
  have htm : t + 2 = m + q := by rw [htt, hm, hq]; unfold ttop; omega
  rw [← hm] at hl0 hl4
  rw [← hq] at hq0 hq4
  have HM := Lib.hid hm
  have HQ := Lib.hid hq
  have HTT := Lib.hid htt
  clear hm hq htt hp hok ht
  have hx0 := (DBx.start (p := p) 29 h).next ((Below.refl _ _).alloc (Nat.le_refl _) (.cells #[.int .i64 0, .slice none 0 0, .slice none 0 0] 66))
  clear h
  obtain ⟨w1, hw1⟩ : ∃ w1, w1 = (w.alloc (.cells #[.int .i64 p, dv, av, vv] 29)).alloc (.cells #[.int .i64 0, .slice none 0 0, .slice none 0 0] 66) := ⟨_, rfl⟩
  have hs1 : w1.heap.size = w.heap.size + 2 := by rw [hw1]; simp
  have HR0 : Hid (Rz w1 (w.heap.size + 1) 66 #[.int .i64 0, .slice none 0 0, .slice none 0 0]) := Lib.hid (by rw [hw1]; have := Rz.new (w.alloc (.cells #[.int .i64 p, dv, av, vv] 29)) 66 #[.int .i64 0, .slice none 0 0, .slice none 0 0]; rwa [World.size_alloc] at this)
  rw [← hw1] at hx0
  have HX1 := Lib.hid hx0
  have c0 := hx0.c0
  have c1 := hx0.c1
  have c2 := hx0.c2
  have c3 := hx0.c3
  clear hx0
  have HNX : Hid (∀ W, Below w1.heap.size w1 W → DBx w W w.heap.size p dv av vv ds ac dn ∧ Rz W (w.heap.size + 1) 66 #[.int .i64 0, .slice none 0 0, .slice none 0 0]) := Lib.hid (fun W hb => ⟨HX1.out.next hb, HR0.out.next hb⟩)
  have HWI : Hid (∀ W, Below w1.heap.size w1 W → Calls Tryz.prog 49 #[.agg #[.int .i64 p, dv, av, vv]] W fun e w' => e = .returned (.int .i64 (m : Int)) ∧ Below w1.heap.size w1 w') := Lib.hid (fun W hb => by rw [HM.out]; exact (widthOf_any p dv av vv ds W (HX.out.dims.below (HX1.out.below.trans (hb.mono HX1.out.below.size)))).mono fun _ _ hh => ⟨hh.1, hb.trans (hh.2.mono hb.size)⟩)
  have HHE : Hid (∀ W, Below w1.heap.size w1 W → Calls Tryz.prog 72 #[.agg #[.int .i64 p, dv, av, vv]] W fun e w' => e = .returned (.int .i64 (q : Int)) ∧ Below w1.heap.size w1 w') := Lib.hid (fun W hb => by rw [HQ.out]; exact (heightOf_any p dv av vv ds W (HX.out.dims.below (HX1.out.below.trans (hb.mono HX1.out.below.size))) HOK.out.len0).mono fun _ _ hh => ⟨hh.1, hb.trans (hh.2.mono hb.size)⟩)
  refine (callsIn_wide (n := 8)).1 ?_
  refine callsIn_of_wp_marks Tryz.func68 rfl trivial ?_
  simp only [Tryz.ntmps68, List.size_toArray, List.length_cons, List.length_nil, Nat.reduceAdd, Nat.reduceSub, Array.replicate_succ, Array.replicate_zero, List.push_toArray, List.append_toArray, List.nil_append, List.cons_append]
  refine wpIn_calm ?_
  refine wpIn_wide.2 ?_
  go_upto_region 1 with fail
  rw [← hw1]
  clear hw1 c0 c1 c2 c3
  refine wp_region_held (S := fun W => Below w1.heap.size w1 W) (by kernel_rfl) ?_
  have S0 : Below w1.heap.size w1 w1.drew := (Below.refl _ _).drew
  change wpAnyH _ _ _ _ _ _ _ _ w1.drew
  obtain ⟨wd, hwd⟩ : ∃ wd, wd = w1.drew := ⟨_, rfl⟩
  rw [← hwd] at S0 ⊢
  clear hwd
  refine held_take (i := 0) (v := .agg #[.int .i64 p, dv, av, vv]) (some 7) rfl rfl (by kernel_rfl) (by kernel_rfl) (by kernel_rfl) (fun _ _ _ h => h) (yieldsIf_cell (by kernel_rfl) rfl (by kernel_rfl) (fun W h => hloadDb W (HNX.out W h).1)) S0 ?_
  refine held_take (i := 2) (v := .agg #[.int .i64 p, dv, av, vv]) (some 9) rfl rfl (by kernel_rfl) (by kernel_rfl) (by kernel_rfl) (fun _ _ _ h => h) (yieldsIf_cell (by kernel_rfl) rfl (by kernel_rfl) (fun W h => hloadDb W (HNX.out W h).1)) S0 ?_
  refine held_enter (i := 1) (some 8) (f := 49) (args := #[.agg #[.int .i64 p, dv, av, vv]]) (by kernel_rfl) rfl rfl rfl (by kernel_rfl) (HWI.out _ S0) ?_ (fun c w' h => by cases h.1) (fun w' h => by cases h.1)
  rintro e3 W3 ⟨he3, S1⟩
  injection he3 with he3
  subst he3
  refine ⟨S1, ?_⟩
  refine held_enter (i := 3) (some 10) (f := 72) (args := #[.agg #[.int .i64 p, dv, av, vv]]) (by kernel_rfl) rfl rfl rfl (by kernel_rfl) (HHE.out _ S1) ?_ (fun c w' h => by cases h.1) (fun w' h => by cases h.1)
  rintro e4 W4 ⟨he4, S2⟩
  injection he4 with he4
  subst he4
  refine ⟨S2, ?_⟩
  refine held_take (i := 4) (v := .int .i64 ((m : Int) + (q : Int))) (some 11) rfl rfl (by kernel_rfl) (by kernel_rfl) (by kernel_rfl) (fun _ _ _ h => h) (yieldsIf_bin (by kernel_rfl) rfl (by kernel_rfl) (by kernel_rfl) (fun _ => rfl) (haddA (IntWalk.i64_in _ (by omega)))) S2 ?_
  refine held_take (i := 5) (v := .int .i64 (t : Int)) (some 12) rfl rfl (by kernel_rfl) (by kernel_rfl) (by kernel_rfl) (fun _ _ _ h => h) (yieldsIf_bin (by kernel_rfl) rfl (by kernel_rfl) (by kernel_rfl) (fun _ => rfl) (hsubA (by rw [show (m : Int) + (q : Int) - 2 = (t : Int) by omega]; exact IntWalk.i64_in _ (by omega)))) S2 ?_
  refine held_take (i := 6) (v := .int .i64 (t : Int)) (some 3) rfl rfl (by kernel_rfl) (by kernel_rfl) (by kernel_rfl) (fun _ _ _ h => h) (yieldsIf_assign (by kernel_rfl) rfl (by kernel_rfl)) S2 ?_
  refine wpAnyH_done (by kernel_rfl) ?_ _
  simp only [Act.put, List.setIfInBounds_toArray, List.set_cons_zero, List.set_cons_succ]
  have HBB := Lib.hid S2
  have hsB := S2.size
  clear S0 S1 S2
  obtain ⟨wB, hwB⟩ : ∃ wB : World, wB = W4 := ⟨_, rfl⟩
  rw [← hwB] at HBB hsB ⊢
  clear hwB
  obtain ⟨n, hn⟩ : ∃ n, n = t + 1 := ⟨_, rfl⟩
  have HN := Lib.hid hn
  have ht6 : t ≤ 6 := by omega
  have hn7 : n ≤ 7 := by omega
  have hwn : IntKind.i64.wrap ((t : Int) + 1) = (n : Int) := by rw [show (t : Int) + 1 = (n : Int) by omega]; exact IntWalk.i64_in _ (by omega)
  have hmk := run_make_row' (P := Tryz.prog) 47 2 (.int .i64 0) 8 Tryz.underlying47 Tryz.infoI rfl .i64 .i64 n (by omega) (by omega)
  have hmk2 := run_make_row' (P := Tryz.prog) 51 22 (.slice none 0 0) 24 Tryz.underlying51 Tryz.infoSS rfl .i64 .i64 t (by omega) (by omega)
  have HNB : Hid (∀ W, Below wB.heap.size wB W → DBx w W w.heap.size p dv av vv ds ac dn ∧ Rz W (w.heap.size + 1) 66 #[.int .i64 0, .slice none 0 0, .slice none 0 0]) := Lib.hid (fun W hb => HNX.out _ (HBB.out.trans (hb.mono hsB)))
  clear hn
  go_upto_region 2 with fail
  go_cut [4] from 13 to 20 (fun s wx => ∃ g bd bm, s = .pointer (some ⟨g, 0, none⟩) ∧ Hid (Du wB wx g bd bm n t p (fun _ => .int .i64 0) (fun _ => .slice none 0 0)))
  case first =>
    go_wp2
    refine wp_region_held (S := fun W => Below (wB.heap.size) wB W) (by kernel_rfl) ?_
    have S0 : Below (wB.heap.size) wB wB.drew := (Below.refl _ _).drew
    have hsd : wB.heap.size ≤ wB.drew.heap.size := Nat.le_refl _
    have hB0 : wB.heap.size ≤ wB.heap.size := by first | exact Nat.le_refl _ | omega
    change wpAnyH _ _ _ _ _ _ _ _ wB.drew
    obtain ⟨wd, hwd⟩ : ∃ wd, wd = wB.drew := ⟨_, rfl⟩
    rw [← hwd] at S0 hsd ⊢
    clear hwd
    refine held_take (i := 0) (v := .pointer (some ⟨w.heap.size, 0, none⟩)) (some 13) rfl rfl (by kernel_rfl) (by kernel_rfl) (by kernel_rfl) (fun _ _ _ h => h) (yieldsIf_run (by kernel_rfl) (fun W _ => by kernel_rfl)) S0 ?_
    refine held_take (i := 1) (v := .int .i64 p) (some 14) rfl rfl (by kernel_rfl) (by kernel_rfl) (by kernel_rfl) (fun _ _ _ h => h) (yieldsIf_cell (by kernel_rfl) rfl (by kernel_rfl) (fun W h => hloadIn W ((HNB.out W h).1.c0))) S0 ?_
    refine held_take (i := 2) (v := .int .i64 (t : Int)) (some 15) rfl rfl (by kernel_rfl) (by kernel_rfl) (by kernel_rfl) (fun _ _ _ h => h) (yieldsIf_move (by kernel_rfl) rfl (by kernel_rfl)) S0 ?_
    refine held_take (i := 3) (v := .int .i64 (n : Int)) (some 16) rfl rfl (by kernel_rfl) (by kernel_rfl) (by kernel_rfl) (fun _ _ _ h => h) (yieldsIf_bin (by kernel_rfl) rfl (by kernel_rfl) (by kernel_rfl) (fun _ => rfl) (haddA hwn)) S0 ?_
    refine held_take (i := 5) (v := .int .i64 (t : Int)) (some 18) rfl rfl (by kernel_rfl) (by kernel_rfl) (by kernel_rfl) (fun _ _ _ h => h) (yieldsIf_move (by kernel_rfl) rfl (by kernel_rfl)) S0 ?_
    refine held_three (i := 4) (j := 6) (l := 8) (by kernel_rfl) ?_ ?_ ?_
    · obtain ⟨W1, hW1⟩ : ∃ W', W' = wd.alloc (.cells (madeCells #[.int .i64 0] n) 2) := ⟨_, rfl⟩
      have hb1 : Below wd.heap.size wd W1 := by rw [hW1]; exact below_alloc1 _ _
      have hz1 : W1.heap.size = wd.heap.size + 1 := by rw [hW1]; simp
      have S1 : Below (wB.heap.size) wB W1 := S0.trans (hb1.mono (by omega))
      have hD1 : W1.rowIs wd.heap.size 2 n (fun _ => .int .i64 0) := by rw [hW1]; exact World.rowIs_made wd _ _ _
      refine op_make (i := 4) (v := .slice (some ⟨wd.heap.size, 0, none⟩) n n) (w' := W1) (x := .int .i64 (n : Int)) (y := .int .i64 (n : Int)) (some 17) 47 (.tmp 16) (.tmp 16) rfl rfl rfl rfl (by kernel_rfl) (by kernel_rfl) (by rw [hW1]; exact hmk _) ?_
      refine ⟨S1, ?_⟩
      refine held_two (i := 6) (j := 8) (by kernel_rfl) ?_ ?_
      · obtain ⟨W2, hW2⟩ : ∃ W', W' = W1.alloc (.cells (madeCells #[.slice none 0 0] t) 22) := ⟨_, rfl⟩
        have hb2 : Below W1.heap.size W1 W2 := by rw [hW2]; exact below_alloc1 _ _
        have hz2 : W2.heap.size = W1.heap.size + 1 := by rw [hW2]; simp
        have S2 : Below (wB.heap.size) wB W2 := S1.trans (hb2.mono (by omega))
        have hD2 := hD1.of_block (hb2.block _ hD1.lt)
        have hM2 : W2.rowIs W1.heap.size 22 t (fun _ => .slice none 0 0) := by rw [hW2]; exact World.rowIs_made W1 _ _ _
        refine op_make (i := 6) (v := .slice (some ⟨W1.heap.size, 0, none⟩) t t) (w' := W2) (x := .int .i64 (t : Int)) (y := .int .i64 (t : Int)) (some 19) 51 (.tmp 18) (.tmp 18) rfl rfl rfl rfl (by kernel_rfl) (by kernel_rfl) (by rw [hW2]; exact hmk2 _) ?_
        refine ⟨S2, ?_⟩
        refine held_take (i := 7) (v := .agg #[.int .i64 p, .slice (some ⟨wd.heap.size, 0, none⟩) n n, .slice (some ⟨W1.heap.size, 0, none⟩) t t]) (some 20) rfl rfl (by kernel_rfl) (by kernel_rfl) (by kernel_rfl) (fun _ _ _ h => h) (yieldsIf_run (by kernel_rfl) (fun W _ => by kernel_rfl)) S2 ?_
        refine held_one (i := 8) (by kernel_rfl) ?_
        · obtain ⟨W3, hW3⟩ : ∃ W', W' = W2.alloc (.cells #[.int .i64 0, .slice none 0 0, .slice none 0 0] 66) := ⟨_, rfl⟩
          have hb3 : Below W2.heap.size W2 W3 := by rw [hW3]; exact below_alloc1 _ _
          have hz3 : W3.heap.size = W2.heap.size + 1 := by rw [hW3]; simp
          have S3 : Below (wB.heap.size) wB W3 := S2.trans (hb3.mono (by omega))
          have hD3 := hD2.of_block (hb3.block _ hD2.lt)
          have hM3 := hM2.of_block (hb3.block _ hM2.lt)
          have hR3 : Rz W3 W2.heap.size 66 #[.int .i64 0, .slice none 0 0, .slice none 0 0] := by rw [hW3]; exact Rz.new _ _ _
          refine op_mem (i := 8) (v := .pointer (some ⟨W2.heap.size, 0, none⟩)) (w' := W3) (some 4) rfl rfl rfl (by rw [hW3]; go_simp) ?_
          refine ⟨S3, ?_⟩
          have S9 : Below (wB.heap.size) wB (W3.setRow (W2.heap.size) #[.int .i64 p, .slice (some ⟨wd.heap.size, 0, none⟩) n n, .slice (some ⟨W1.heap.size, 0, none⟩) t t]) := below_setRow S3 (by omega) _
          refine held_one (i := 9) (by kernel_rfl) ?_
          refine op_row (i := 9) rfl rfl rfl 66 (.tmp 4) (.tmp 20) rfl (W2.heap.size) #[.int .i64 p, .slice (some ⟨wd.heap.size, 0, none⟩) n n, .slice (some ⟨W1.heap.size, 0, none⟩) t t] (by kernel_rfl) (by kernel_rfl) 66 _ hR3 (infoCo _ _ _) (by kernel_rfl) (by kernel_rfl) ?_
          refine ⟨S9, ?_⟩
          refine wpAnyH_done (by kernel_rfl) ?_ _
          simp only [Act.put, List.setIfInBounds_toArray, List.set_cons_zero, List.set_cons_succ]
          obtain ⟨WF, hWF⟩ : ∃ WF, WF = (W3.setRow (W2.heap.size) #[.int .i64 p, .slice (some ⟨wd.heap.size, 0, none⟩) n n, .slice (some ⟨W1.heap.size, 0, none⟩) t t]) := ⟨_, rfl⟩
          have hbF : Below (wB.heap.size) wB WF := by rw [hWF]; exact S9
          have hRF : Rz WF (W2.heap.size) 66 #[.int .i64 p, .slice (some ⟨wd.heap.size, 0, none⟩) n n, .slice (some ⟨W1.heap.size, 0, none⟩) t t] := by rw [hWF]; exact hR3.set _
          have hDF : WF.rowIs (wd.heap.size) 2 n (fun _ => .int .i64 0) := by rw [hWF]; exact hD3.of_block (setRow_other _ _ _ _ (by omega))
          have hMF : WF.rowIs (W1.heap.size) 22 t (fun _ => .slice none 0 0) := by rw [hWF]; exact hM3.of_block (setRow_other _ _ _ _ (by omega))
          have hG : (wB.heap.size ≤ W2.heap.size ∧ wB.heap.size ≤ wd.heap.size ∧ wB.heap.size ≤ W1.heap.size) ∧ W2.heap.size ≠ wd.heap.size ∧ W2.heap.size ≠ W1.heap.size ∧ wd.heap.size ≠ W1.heap.size := by omega
          rw [← hWF]
          clear hWF S9
          go_wp2
          go_meet
          exact ⟨_, _, _, rfl, Lib.hid ⟨hbF, hG.1, hG.2, rowIs3 hRF, hDF, hMF⟩⟩
      · obtain ⟨W4, hW4⟩ : ∃ W', W' = W1.alloc (.cells #[.int .i64 0, .slice none 0 0, .slice none 0 0] 66) := ⟨_, rfl⟩
        have hb4 : Below W1.heap.size W1 W4 := by rw [hW4]; exact below_alloc1 _ _
        have hz4 : W4.heap.size = W1.heap.size + 1 := by rw [hW4]; simp
        have S4 : Below (wB.heap.size) wB W4 := S1.trans (hb4.mono (by omega))
        have hD4 := hD1.of_block (hb4.block _ hD1.lt)
        have hR4 : Rz W4 W1.heap.size 66 #[.int .i64 0, .slice none 0 0, .slice none 0 0] := by rw [hW4]; exact Rz.new _ _ _
        refine op_mem (i := 8) (v := .pointer (some ⟨W1.heap.size, 0, none⟩)) (w' := W4) (some 4) rfl rfl rfl (by rw [hW4]; go_simp) ?_
        refine ⟨S4, ?_⟩
        refine held_one (i := 6) (by kernel_rfl) ?_
        · obtain ⟨W5, hW5⟩ : ∃ W', W' = W4.alloc (.cells (madeCells #[.slice none 0 0] t) 22) := ⟨_, rfl⟩
          have hb5 : Below W4.heap.size W4 W5 := by rw [hW5]; exact below_alloc1 _ _
          have hz5 : W5.heap.size = W4.heap.size + 1 := by rw [hW5]; simp
          have S5 : Below (wB.heap.size) wB W5 := S4.trans (hb5.mono (by omega))
          have hD5 := hD4.of_block (hb5.block _ hD4.lt)
          have hR5 := hR4.next hb5
          have hM5 : W5.rowIs W4.heap.size 22 t (fun _ => .slice none 0 0) := by rw [hW5]; exact World.rowIs_made W4 _ _ _
          refine op_make (i := 6) (v := .slice (some ⟨W4.heap.size, 0, none⟩) t t) (w' := W5) (x := .int .i64 (t : Int)) (y := .int .i64 (t : Int)) (some 19) 51 (.tmp 18) (.tmp 18) rfl rfl rfl rfl (by kernel_rfl) (by kernel_rfl) (by rw [hW5]; exact hmk2 _) ?_
          refine ⟨S5, ?_⟩
          refine held_take (i := 7) (v := .agg #[.int .i64 p, .slice (some ⟨wd.heap.size, 0, none⟩) n n, .slice (some ⟨W4.heap.size, 0, none⟩) t t]) (some 20) rfl rfl (by kernel_rfl) (by kernel_rfl) (by kernel_rfl) (fun _ _ _ h => h) (yieldsIf_run (by kernel_rfl) (fun W _ => by kernel_rfl)) S5 ?_
          have S9 : Below (wB.heap.size) wB (W5.setRow (W1.heap.size) #[.int .i64 p, .slice (some ⟨wd.heap.size, 0, none⟩) n n, .slice (some ⟨W4.heap.size, 0, none⟩) t t]) := below_setRow S5 (by omega) _
          refine held_one (i := 9) (by kernel_rfl) ?_
          refine op_row (i := 9) rfl rfl rfl 66 (.tmp 4) (.tmp 20) rfl (W1.heap.size) #[.int .i64 p, .slice (some ⟨wd.heap.size, 0, none⟩) n n, .slice (some ⟨W4.heap.size, 0, none⟩) t t] (by kernel_rfl) (by kernel_rfl) 66 _ hR5 (infoCo _ _ _) (by kernel_rfl) (by kernel_rfl) ?_
          refine ⟨S9, ?_⟩
          refine wpAnyH_done (by kernel_rfl) ?_ _
          simp only [Act.put, List.setIfInBounds_toArray, List.set_cons_zero, List.set_cons_succ]
          obtain ⟨WF, hWF⟩ : ∃ WF, WF = (W5.setRow (W1.heap.size) #[.int .i64 p, .slice (some ⟨wd.heap.size, 0, none⟩) n n, .slice (some ⟨W4.heap.size, 0, none⟩) t t]) := ⟨_, rfl⟩
          have hbF : Below (wB.heap.size) wB WF := by rw [hWF]; exact S9
          have hRF : Rz WF (W1.heap.size) 66 #[.int .i64 p, .slice (some ⟨wd.heap.size, 0, none⟩) n n, .slice (some ⟨W4.heap.size, 0, none⟩) t t] := by rw [hWF]; exact hR5.set _
          have hDF : WF.rowIs (wd.heap.size) 2 n (fun _ => .int .i64 0) := by rw [hWF]; exact hD5.of_block (setRow_other _ _ _ _ (by omega))
          have hMF : WF.rowIs (W4.heap.size) 22 t (fun _ => .slice none 0 0) := by rw [hWF]; exact hM5.of_block (setRow_other _ _ _ _ (by omega))
          have hG : (wB.heap.size ≤ W1.heap.size ∧ wB.heap.size ≤ wd.heap.size ∧ wB.heap.size ≤ W4.heap.size) ∧ W1.heap.size ≠ wd.heap.size ∧ W1.heap.size ≠ W4.heap.size ∧ wd.heap.size ≠ W4.heap.size := by omega
          rw [← hWF]
          clear hWF S9
          go_wp2
          go_meet
          exact ⟨_, _, _, rfl, Lib.hid ⟨hbF, hG.1, hG.2, rowIs3 hRF, hDF, hMF⟩⟩
    · obtain ⟨W6, hW6⟩ : ∃ W', W' = wd.alloc (.cells (madeCells #[.slice none 0 0] t) 22) := ⟨_, rfl⟩
      have hb6 : Below wd.heap.size wd W6 := by rw [hW6]; exact below_alloc1 _ _
      have hz6 : W6.heap.size = wd.heap.size + 1 := by rw [hW6]; simp
      have S6 : Below (wB.heap.size) wB W6 := S0.trans (hb6.mono (by omega))
      have hM6 : W6.rowIs wd.heap.size 22 t (fun _ => .slice none 0 0) := by rw [hW6]; exact World.rowIs_made wd _ _ _
      refine op_make (i := 6) (v := .slice (some ⟨wd.heap.size, 0, none⟩) t t) (w' := W6) (x := .int .i64 (t : Int)) (y := .int .i64 (t : Int)) (some 19) 51 (.tmp 18) (.tmp 18) rfl rfl rfl rfl (by kernel_rfl) (by kernel_rfl) (by rw [hW6]; exact hmk2 _) ?_
      refine ⟨S6, ?_⟩
      refine held_two (i := 4) (j := 8) (by kernel_rfl) ?_ ?_
      · obtain ⟨W7, hW7⟩ : ∃ W', W' = W6.alloc (.cells (madeCells #[.int .i64 0] n) 2) := ⟨_, rfl⟩
        have hb7 : Below W6.heap.size W6 W7 := by rw [hW7]; exact below_alloc1 _ _
        have hz7 : W7.heap.size = W6.heap.size + 1 := by rw [hW7]; simp
        have S7 : Below (wB.heap.size) wB W7 := S6.trans (hb7.mono (by omega))
        have hM7 := hM6.of_block (hb7.block _ hM6.lt)
        have hD7 : W7.rowIs W6.heap.size 2 n (fun _ => .int .i64 0) := by rw [hW7]; exact World.rowIs_made W6 _ _ _
        refine op_make (i := 4) (v := .slice (some ⟨W6.heap.size, 0, none⟩) n n) (w' := W7) (x := .int .i64 (n : Int)) (y := .int .i64 (n : Int)) (some 17) 47 (.tmp 16) (.tmp 16) rfl rfl rfl rfl (by kernel_rfl) (by kernel_rfl) (by rw [hW7]; exact hmk _) ?_
        refine ⟨S7, ?_⟩
        refine held_take (i := 7) (v := .agg #[.int .i64 p, .slice (some ⟨W6.heap.size, 0, none⟩) n n, .slice (some ⟨wd.heap.size, 0, none⟩) t t]) (some 20) rfl rfl (by kernel_rfl) (by kernel_rfl) (by kernel_rfl) (fun _ _ _ h => h) (yieldsIf_run (by kernel_rfl) (fun W _ => by kernel_rfl)) S7 ?_
        refine held_one (i := 8) (by kernel_rfl) ?_
        · obtain ⟨W8, hW8⟩ : ∃ W', W' = W7.alloc (.cells #[.int .i64 0, .slice none 0 0, .slice none 0 0] 66) := ⟨_, rfl⟩
          have hb8 : Below W7.heap.size W7 W8 := by rw [hW8]; exact below_alloc1 _ _
          have hz8 : W8.heap.size = W7.heap.size + 1 := by rw [hW8]; simp
          have S8 : Below (wB.heap.size) wB W8 := S7.trans (hb8.mono (by omega))
          have hM8 := hM7.of_block (hb8.block _ hM7.lt)
          have hD8 := hD7.of_block (hb8.block _ hD7.lt)
          have hR8 : Rz W8 W7.heap.size 66 #[.int .i64 0, .slice none 0 0, .slice none 0 0] := by rw [hW8]; exact Rz.new _ _ _
          refine op_mem (i := 8) (v := .pointer (some ⟨W7.heap.size, 0, none⟩)) (w' := W8) (some 4) rfl rfl rfl (by rw [hW8]; go_simp) ?_
          refine ⟨S8, ?_⟩
          have S9 : Below (wB.heap.size) wB (W8.setRow (W7.heap.size) #[.int .i64 p, .slice (some ⟨W6.heap.size, 0, none⟩) n n, .slice (some ⟨wd.heap.size, 0, none⟩) t t]) := below_setRow S8 (by omega) _
          refine held_one (i := 9) (by kernel_rfl) ?_
          refine op_row (i := 9) rfl rfl rfl 66 (.tmp 4) (.tmp 20) rfl (W7.heap.size) #[.int .i64 p, .slice (some ⟨W6.heap.size, 0, none⟩) n n, .slice (some ⟨wd.heap.size, 0, none⟩) t t] (by kernel_rfl) (by kernel_rfl) 66 _ hR8 (infoCo _ _ _) (by kernel_rfl) (by kernel_rfl) ?_
          refine ⟨S9, ?_⟩
          refine wpAnyH_done (by kernel_rfl) ?_ _
          simp only [Act.put, List.setIfInBounds_toArray, List.set_cons_zero, List.set_cons_succ]
          obtain ⟨WF, hWF⟩ : ∃ WF, WF = (W8.setRow (W7.heap.size) #[.int .i64 p, .slice (some ⟨W6.heap.size, 0, none⟩) n n, .slice (some ⟨wd.heap.size, 0, none⟩) t t]) := ⟨_, rfl⟩
          have hbF : Below (wB.heap.size) wB WF := by rw [hWF]; exact S9
          have hRF : Rz WF (W7.heap.size) 66 #[.int .i64 p, .slice (some ⟨W6.heap.size, 0, none⟩) n n, .slice (some ⟨wd.heap.size, 0, none⟩) t t] := by rw [hWF]; exact hR8.set _
          have hDF : WF.rowIs (W6.heap.size) 2 n (fun _ => .int .i64 0) := by rw [hWF]; exact hD8.of_block (setRow_other _ _ _ _ (by omega))
          have hMF : WF.rowIs (wd.heap.size) 22 t (fun _ => .slice none 0 0) := by rw [hWF]; exact hM8.of_block (setRow_other _ _ _ _ (by omega))
          have hG : (wB.heap.size ≤ W7.heap.size ∧ wB.heap.size ≤ W6.heap.size ∧ wB.heap.size ≤ wd.heap.size) ∧ W7.heap.size ≠ W6.heap.size ∧ W7.heap.size ≠ wd.heap.size ∧ W6.heap.size ≠ wd.heap.size := by omega
          rw [← hWF]
          clear hWF S9
          go_wp2
          go_meet
          exact ⟨_, _, _, rfl, Lib.hid ⟨hbF, hG.1, hG.2, rowIs3 hRF, hDF, hMF⟩⟩
      · obtain ⟨W9, hW9⟩ : ∃ W', W' = W6.alloc (.cells #[.int .i64 0, .slice none 0 0, .slice none 0 0] 66) := ⟨_, rfl⟩
        have hb9 : Below W6.heap.size W6 W9 := by rw [hW9]; exact below_alloc1 _ _
        have hz9 : W9.heap.size = W6.heap.size + 1 := by rw [hW9]; simp
        have S9 : Below (wB.heap.size) wB W9 := S6.trans (hb9.mono (by omega))
        have hM9 := hM6.of_block (hb9.block _ hM6.lt)
        have hR9 : Rz W9 W6.heap.size 66 #[.int .i64 0, .slice none 0 0, .slice none 0 0] := by rw [hW9]; exact Rz.new _ _ _
        refine op_mem (i := 8) (v := .pointer (some ⟨W6.heap.size, 0, none⟩)) (w' := W9) (some 4) rfl rfl rfl (by rw [hW9]; go_simp) ?_
        refine ⟨S9, ?_⟩
        refine held_one (i := 4) (by kernel_rfl) ?_
        · obtain ⟨W10, hW10⟩ : ∃ W', W' = W9.alloc (.cells (madeCells #[.int .i64 0] n) 2) := ⟨_, rfl⟩
          have hb10 : Below W9.heap.size W9 W10 := by rw [hW10]; exact below_alloc1 _ _
          have hz10 : W10.heap.size = W9.heap.size + 1 := by rw [hW10]; simp
          have S10 : Below (wB.heap.size) wB W10 := S9.trans (hb10.mono (by omega))
          have hM10 := hM9.of_block (hb10.block _ hM9.lt)
          have hR10 := hR9.next hb10
          have hD10 : W10.rowIs W9.heap.size 2 n (fun _ => .int .i64 0) := by rw [hW10]; exact World.rowIs_made W9 _ _ _
          refine op_make (i := 4) (v := .slice (some ⟨W9.heap.size, 0, none⟩) n n) (w' := W10) (x := .int .i64 (n : Int)) (y := .int .i64 (n : Int)) (some 17) 47 (.tmp 16) (.tmp 16) rfl rfl rfl rfl (by kernel_rfl) (by kernel_rfl) (by rw [hW10]; exact hmk _) ?_
          refine ⟨S10, ?_⟩
          refine held_take (i := 7) (v := .agg #[.int .i64 p, .slice (some ⟨W9.heap.size, 0, none⟩) n n, .slice (some ⟨wd.heap.size, 0, none⟩) t t]) (some 20) rfl rfl (by kernel_rfl) (by kernel_rfl) (by kernel_rfl) (fun _ _ _ h => h) (yieldsIf_run (by kernel_rfl) (fun W _ => by kernel_rfl)) S10 ?_
          have S9 : Below (wB.heap.size) wB (W10.setRow (W6.heap.size) #[.int .i64 p, .slice (some ⟨W9.heap.size, 0, none⟩) n n, .slice (some ⟨wd.heap.size, 0, none⟩) t t]) := below_setRow S10 (by omega) _
          refine held_one (i := 9) (by kernel_rfl) ?_
          refine op_row (i := 9) rfl rfl rfl 66 (.tmp 4) (.tmp 20) rfl (W6.heap.size) #[.int .i64 p, .slice (some ⟨W9.heap.size, 0, none⟩) n n, .slice (some ⟨wd.heap.size, 0, none⟩) t t] (by kernel_rfl) (by kernel_rfl) 66 _ hR10 (infoCo _ _ _) (by kernel_rfl) (by kernel_rfl) ?_
          refine ⟨S9, ?_⟩
          refine wpAnyH_done (by kernel_rfl) ?_ _
          simp only [Act.put, List.setIfInBounds_toArray, List.set_cons_zero, List.set_cons_succ]
          obtain ⟨WF, hWF⟩ : ∃ WF, WF = (W10.setRow (W6.heap.size) #[.int .i64 p, .slice (some ⟨W9.heap.size, 0, none⟩) n n, .slice (some ⟨wd.heap.size, 0, none⟩) t t]) := ⟨_, rfl⟩
          have hbF : Below (wB.heap.size) wB WF := by rw [hWF]; exact S9
          have hRF : Rz WF (W6.heap.size) 66 #[.int .i64 p, .slice (some ⟨W9.heap.size, 0, none⟩) n n, .slice (some ⟨wd.heap.size, 0, none⟩) t t] := by rw [hWF]; exact hR10.set _
          have hDF : WF.rowIs (W9.heap.size) 2 n (fun _ => .int .i64 0) := by rw [hWF]; exact hD10.of_block (setRow_other _ _ _ _ (by omega))
          have hMF : WF.rowIs (wd.heap.size) 22 t (fun _ => .slice none 0 0) := by rw [hWF]; exact hM10.of_block (setRow_other _ _ _ _ (by omega))
          have hG : (wB.heap.size ≤ W6.heap.size ∧ wB.heap.size ≤ W9.heap.size ∧ wB.heap.size ≤ wd.heap.size) ∧ W6.heap.size ≠ W9.heap.size ∧ W6.heap.size ≠ wd.heap.size ∧ W9.heap.size ≠ wd.heap.size := by omega
          rw [← hWF]
          clear hWF S9
          go_wp2
          go_meet
          exact ⟨_, _, _, rfl, Lib.hid ⟨hbF, hG.1, hG.2, rowIs3 hRF, hDF, hMF⟩⟩
    · obtain ⟨W11, hW11⟩ : ∃ W', W' = wd.alloc (.cells #[.int .i64 0, .slice none 0 0, .slice none 0 0] 66) := ⟨_, rfl⟩
      have hb11 : Below wd.heap.size wd W11 := by rw [hW11]; exact below_alloc1 _ _
      have hz11 : W11.heap.size = wd.heap.size + 1 := by rw [hW11]; simp
      have S11 : Below (wB.heap.size) wB W11 := S0.trans (hb11.mono (by omega))
      have hR11 : Rz W11 wd.heap.size 66 #[.int .i64 0, .slice none 0 0, .slice none 0 0] := by rw [hW11]; exact Rz.new _ _ _
      refine op_mem (i := 8) (v := .pointer (some ⟨wd.heap.size, 0, none⟩)) (w' := W11) (some 4) rfl rfl rfl (by rw [hW11]; go_simp) ?_
      refine ⟨S11, ?_⟩
      refine held_two (i := 4) (j := 6) (by kernel_rfl) ?_ ?_
      · obtain ⟨W12, hW12⟩ : ∃ W', W' = W11.alloc (.cells (madeCells #[.int .i64 0] n) 2) := ⟨_, rfl⟩
        have hb12 : Below W11.heap.size W11 W12 := by rw [hW12]; exact below_alloc1 _ _
        have hz12 : W12.heap.size = W11.heap.size + 1 := by rw [hW12]; simp
        have S12 : Below (wB.heap.size) wB W12 := S11.trans (hb12.mono (by omega))
        have hR12 := hR11.next hb12
        have hD12 : W12.rowIs W11.heap.size 2 n (fun _ => .int .i64 0) := by rw [hW12]; exact World.rowIs_made W11 _ _ _
        refine op_make (i := 4) (v := .slice (some ⟨W11.heap.size, 0, none⟩) n n) (w' := W12) (x := .int .i64 (n : Int)) (y := .int .i64 (n : Int)) (some 17) 47 (.tmp 16) (.tmp 16) rfl rfl rfl rfl (by kernel_rfl) (by kernel_rfl) (by rw [hW12]; exact hmk _) ?_
        refine ⟨S12, ?_⟩
        refine held_one (i := 6) (by kernel_rfl) ?_
        · obtain ⟨W13, hW13⟩ : ∃ W', W' = W12.alloc (.cells (madeCells #[.slice none 0 0] t) 22) := ⟨_, rfl⟩
          have hb13 : Below W12.heap.size W12 W13 := by rw [hW13]; exact below_alloc1 _ _
          have hz13 : W13.heap.size = W12.heap.size + 1 := by rw [hW13]; simp
          have S13 : Below (wB.heap.size) wB W13 := S12.trans (hb13.mono (by omega))
          have hR13 := hR12.next hb13
          have hD13 := hD12.of_block (hb13.block _ hD12.lt)
          have hM13 : W13.rowIs W12.heap.size 22 t (fun _ => .slice none 0 0) := by rw [hW13]; exact World.rowIs_made W12 _ _ _
          refine op_make (i := 6) (v := .slice (some ⟨W12.heap.size, 0, none⟩) t t) (w' := W13) (x := .int .i64 (t : Int)) (y := .int .i64 (t : Int)) (some 19) 51 (.tmp 18) (.tmp 18) rfl rfl rfl rfl (by kernel_rfl) (by kernel_rfl) (by rw [hW13]; exact hmk2 _) ?_
          refine ⟨S13, ?_⟩
          refine held_take (i := 7) (v := .agg #[.int .i64 p, .slice (some ⟨W11.heap.size, 0, none⟩) n n, .slice (some ⟨W12.heap.size, 0, none⟩) t t]) (some 20) rfl rfl (by kernel_rfl) (by kernel_rfl) (by kernel_rfl) (fun _ _ _ h => h) (yieldsIf_run (by kernel_rfl) (fun W _ => by kernel_rfl)) S13 ?_
          have S9 : Below (wB.heap.size) wB (W13.setRow (wd.heap.size) #[.int .i64 p, .slice (some ⟨W11.heap.size, 0, none⟩) n n, .slice (some ⟨W12.heap.size, 0, none⟩) t t]) := below_setRow S13 (by omega) _
          refine held_one (i := 9) (by kernel_rfl) ?_
          refine op_row (i := 9) rfl rfl rfl 66 (.tmp 4) (.tmp 20) rfl (wd.heap.size) #[.int .i64 p, .slice (some ⟨W11.heap.size, 0, none⟩) n n, .slice (some ⟨W12.heap.size, 0, none⟩) t t] (by kernel_rfl) (by kernel_rfl) 66 _ hR13 (infoCo _ _ _) (by kernel_rfl) (by kernel_rfl) ?_
          refine ⟨S9, ?_⟩
          refine wpAnyH_done (by kernel_rfl) ?_ _
          simp only [Act.put, List.setIfInBounds_toArray, List.set_cons_zero, List.set_cons_succ]
          obtain ⟨WF, hWF⟩ : ∃ WF, WF = (W13.setRow (wd.heap.size) #[.int .i64 p, .slice (some ⟨W11.heap.size, 0, none⟩) n n, .slice (some ⟨W12.heap.size, 0, none⟩) t t]) := ⟨_, rfl⟩
          have hbF : Below (wB.heap.size) wB WF := by rw [hWF]; exact S9
          have hRF : Rz WF (wd.heap.size) 66 #[.int .i64 p, .slice (some ⟨W11.heap.size, 0, none⟩) n n, .slice (some ⟨W12.heap.size, 0, none⟩) t t] := by rw [hWF]; exact hR13.set _
          have hDF : WF.rowIs (W11.heap.size) 2 n (fun _ => .int .i64 0) := by rw [hWF]; exact hD13.of_block (setRow_other _ _ _ _ (by omega))
          have hMF : WF.rowIs (W12.heap.size) 22 t (fun _ => .slice none 0 0) := by rw [hWF]; exact hM13.of_block (setRow_other _ _ _ _ (by omega))
          have hG : (wB.heap.size ≤ wd.heap.size ∧ wB.heap.size ≤ W11.heap.size ∧ wB.heap.size ≤ W12.heap.size) ∧ wd.heap.size ≠ W11.heap.size ∧ wd.heap.size ≠ W12.heap.size ∧ W11.heap.size ≠ W12.heap.size := by omega
          rw [← hWF]
          clear hWF S9
          go_wp2
          go_meet
          exact ⟨_, _, _, rfl, Lib.hid ⟨hbF, hG.1, hG.2, rowIs3 hRF, hDF, hMF⟩⟩
      · obtain ⟨W14, hW14⟩ : ∃ W', W' = W11.alloc (.cells (madeCells #[.slice none 0 0] t) 22) := ⟨_, rfl⟩
        have hb14 : Below W11.heap.size W11 W14 := by rw [hW14]; exact below_alloc1 _ _
        have hz14 : W14.heap.size = W11.heap.size + 1 := by rw [hW14]; simp
        have S14 : Below (wB.heap.size) wB W14 := S11.trans (hb14.mono (by omega))
        have hR14 := hR11.next hb14
        have hM14 : W14.rowIs W11.heap.size 22 t (fun _ => .slice none 0 0) := by rw [hW14]; exact World.rowIs_made W11 _ _ _
        refine op_make (i := 6) (v := .slice (some ⟨W11.heap.size, 0, none⟩) t t) (w' := W14) (x := .int .i64 (t : Int)) (y := .int .i64 (t : Int)) (some 19) 51 (.tmp 18) (.tmp 18) rfl rfl rfl rfl (by kernel_rfl) (by kernel_rfl) (by rw [hW14]; exact hmk2 _) ?_
        refine ⟨S14, ?_⟩
        refine held_one (i := 4) (by kernel_rfl) ?_
        · obtain ⟨W15, hW15⟩ : ∃ W', W' = W14.alloc (.cells (madeCells #[.int .i64 0] n) 2) := ⟨_, rfl⟩
          have hb15 : Below W14.heap.size W14 W15 := by rw [hW15]; exact below_alloc1 _ _
          have hz15 : W15.heap.size = W14.heap.size + 1 := by rw [hW15]; simp
          have S15 : Below (wB.heap.size) wB W15 := S14.trans (hb15.mono (by omega))
          have hR15 := hR14.next hb15
          have hM15 := hM14.of_block (hb15.block _ hM14.lt)
          have hD15 : W15.rowIs W14.heap.size 2 n (fun _ => .int .i64 0) := by rw [hW15]; exact World.rowIs_made W14 _ _ _
          refine op_make (i := 4) (v := .slice (some ⟨W14.heap.size, 0, none⟩) n n) (w' := W15) (x := .int .i64 (n : Int)) (y := .int .i64 (n : Int)) (some 17) 47 (.tmp 16) (.tmp 16) rfl rfl rfl rfl (by kernel_rfl) (by kernel_rfl) (by rw [hW15]; exact hmk _) ?_
          refine ⟨S15, ?_⟩
          refine held_take (i := 7) (v := .agg #[.int .i64 p, .slice (some ⟨W14.heap.size, 0, none⟩) n n, .slice (some ⟨W11.heap.size, 0, none⟩) t t]) (some 20) rfl rfl (by kernel_rfl) (by kernel_rfl) (by kernel_rfl) (fun _ _ _ h => h) (yieldsIf_run (by kernel_rfl) (fun W _ => by kernel_rfl)) S15 ?_
          have S9 : Below (wB.heap.size) wB (W15.setRow (wd.heap.size) #[.int .i64 p, .slice (some ⟨W14.heap.size, 0, none⟩) n n, .slice (some ⟨W11.heap.size, 0, none⟩) t t]) := below_setRow S15 (by omega) _
          refine held_one (i := 9) (by kernel_rfl) ?_
          refine op_row (i := 9) rfl rfl rfl 66 (.tmp 4) (.tmp 20) rfl (wd.heap.size) #[.int .i64 p, .slice (some ⟨W14.heap.size, 0, none⟩) n n, .slice (some ⟨W11.heap.size, 0, none⟩) t t] (by kernel_rfl) (by kernel_rfl) 66 _ hR15 (infoCo _ _ _) (by kernel_rfl) (by kernel_rfl) ?_
          refine ⟨S9, ?_⟩
          refine wpAnyH_done (by kernel_rfl) ?_ _
          simp only [Act.put, List.setIfInBounds_toArray, List.set_cons_zero, List.set_cons_succ]
          obtain ⟨WF, hWF⟩ : ∃ WF, WF = (W15.setRow (wd.heap.size) #[.int .i64 p, .slice (some ⟨W14.heap.size, 0, none⟩) n n, .slice (some ⟨W11.heap.size, 0, none⟩) t t]) := ⟨_, rfl⟩
          have hbF : Below (wB.heap.size) wB WF := by rw [hWF]; exact S9
          have hRF : Rz WF (wd.heap.size) 66 #[.int .i64 p, .slice (some ⟨W14.heap.size, 0, none⟩) n n, .slice (some ⟨W11.heap.size, 0, none⟩) t t] := by rw [hWF]; exact hR15.set _
          have hDF : WF.rowIs (W14.heap.size) 2 n (fun _ => .int .i64 0) := by rw [hWF]; exact hD15.of_block (setRow_other _ _ _ _ (by omega))
          have hMF : WF.rowIs (W11.heap.size) 22 t (fun _ => .slice none 0 0) := by rw [hWF]; exact hM15.of_block (setRow_other _ _ _ _ (by omega))
          have hG : (wB.heap.size ≤ wd.heap.size ∧ wB.heap.size ≤ W14.heap.size ∧ wB.heap.size ≤ W11.heap.size) ∧ wd.heap.size ≠ W14.heap.size ∧ wd.heap.size ≠ W11.heap.size ∧ W14.heap.size ≠ W11.heap.size := by omega
          rw [← hWF]
          clear hWF S9
          go_wp2
          go_meet
          exact ⟨_, _, _, rfl, Lib.hid ⟨hbF, hG.1, hG.2, rowIs3 hRF, hDF, hMF⟩⟩
  case rest =>
    obtain ⟨g, bd, bm, rfl, HDU⟩ := hcut
    clear hmk hmk2
    obtain ⟨wx, hwx⟩ : ∃ wx : World, wx = wc := ⟨_, rfl⟩
    subst hwx
    have hnx := HNB.out wx HDU.out.below
    have c0 := hnx.1.c0
    have c1 := hnx.1.c1
    have c2 := hnx.1.c2
    have c3 := hnx.1.c3
    have hxl := hnx.1.lt
    clear hnx
    go_wp2_with fail
    refine (cellsOf_any p dv av vv _).mono ?_
    rintro e w2 ⟨rfl, rfl⟩
    dsimp only
    go_wp2
    clear c0 c1 c2 c3
    have hB0 : Below wx.heap.size wx (wx.alloc (.cells #[.int .i64 p, dv, av, vv] 29)) := (Below.refl _ _).alloc (Nat.le_refl _) _
    have hd0 : (wx.alloc (.cells #[.int .i64 p, dv, av, vv] 29)).cell? ⟨wx.heap.size, 1, none⟩ = some dv := new_c1 wx p dv av vv
    have hs0 : (wx.alloc (.cells #[.int .i64 p, dv, av, vv] 29)).heap.size = wx.heap.size + 1 := by simp
    obtain ⟨W0, hW0⟩ : ∃ W0, W0 = wx.alloc (.cells #[.int .i64 p, dv, av, vv] 29) := ⟨_, rfl⟩
    rw [← hW0] at hB0 hd0 hs0 ⊢
    clear hW0
    have hdb := HDU.out.below.size
    have hgl := HDU.out.box.lt
    have hbdl := HDU.out.dims.lt
    have hbml := HDU.out.maps.lt
    have hBw : Below w.heap.size w W0 := (HX1.out.below.trans (HBB.out.mono HX1.out.below.size)).trans ((HDU.out.below.trans (hB0.mono hdb)).mono (by have := HX1.out.below.size; omega))
    have hst := cells_stops Fence.wide 7 trivial rfl (by decide) wx.heap.size dv ds (by have := HM.out; omega) (fun r hr => by have := (HOK.out.col r hr).1; have := HOK.out.h1; omega) w W0 (by omega) hd0 HX.out.dims hBw
    have HD0 : Hid (Du wB W0 g bd bm n t p (fun s => .int .i64 ((tdl ds [] s : Nat) : Int)) (fun _ => .slice none 0 0)) := Lib.hid ((HDU.out.next hB0).congr (fun j _ => by simp [tdl]))
    have HS0 := Lib.hid hs0
    have HBW := Lib.hid hBw
    have hwb1 := HX1.out.below.size
    have hlo := HDU.out.lo
    have hne := HDU.out.ne
    have hsw : wx.heap.size < W0.heap.size := by omega
    clear HDU hB0 hd0 hs0 hBw
    refine (wpIn_wide (n := 8)).1 ?_
    refine wpIn_rangeFunc_cell rfl (by decide : 1 ≤ 8) (gf := 93) (lb := #[.pointer (some ⟨wx.heap.size, 0, none⟩)]) rfl trivial (enters_of Tryz.func93 (by kernel_rfl) rfl)
      hst belowK_t (belowK_b (by omega)) (Below.refl _ _) (fun _ => rfl)
      (fun pre W => Du wB W g bd bm n t p (fun s => .int .i64 ((tdl ds (pre.map (·.1)) s : Nat) : Int)) (fun _ => .slice none 0 0)) (fun _ _ _ => False)
      (du_own (fun (pre : List (CellIn ds)) => (fun s => .int .i64 ((tdl ds (pre.map (·.1)) s : Nat) : Int))) _ (by omega) (by omega) (by omega) (by omega)) (fun _ _ _ _ _ h _ _ => h)
      HD0.out (fun x => #[.int .i64 (x.1.1 : Int), .int .i64 (x.1.2 : Int)]) 5 63 wB.heap.size
      ?assign ?body ?done ?stop
    case assign =>
      rintro l pre x A K hI hKK
      simp only [cellV] at hKK ⊢
      have hsz := hI.below.size
      gi_wp2
      have hk := hKK A.heap.size _ hsz (World.alloc_heap_new A _) ((KeepsOthers.alloc _ _).from _) ((Below.refl _ A).alloc (by omega) _) (hI.next ((Below.refl _ _).alloc (Nat.le_refl _) _))
      simp at hk
      refine Eq.mp ?_ hk
      congr 1
      all_goals (try congr 1)
    case body =>
      rintro l pre x Bx A hl ⟨r, hr⟩ hI hBx hX hlt
      obtain ⟨⟨i, j⟩, hxm⟩ := x
      dsimp only at hX
      have hmf := mem_cells.1 hxm
      dsimp only at hmf
      have hcol : (ds.getD i []).length = q := by rw [getD_of_lt _ hmf.1, (HOK.out.col _ (List.getElem_mem hmf.1)).1]; exact HQ.out.symm
      have hmm : ds.length = m := HM.out.symm
      obtain ⟨s, hs⟩ : ∃ s, s = i + j := ⟨_, rfl⟩
      have hst : s < n := by have := HN.out; omega
      have hi4 : i ≤ 4 := by omega
      have hj4 : j ≤ 4 := by omega
      obtain ⟨d, hd⟩ : ∃ d, d = cdim ds (i, j) := ⟨_, rfl⟩
      have hcd := cdim_cast HOK.out hxm
      rw [← hd] at hcd
      have hd4 := hcd.2
      obtain ⟨z, hz⟩ : ∃ z, z = tdl ds (pre.map (·.1)) s := ⟨_, rfl⟩
      have hz64 : z ≤ 64 := by rw [hz]; have h1 := tdl_le HOK.out pre s; have h2 := cells_le HOK.out; omega
      have HIA := Lib.hid hI
      have hsz := hI.below.size
      have HNA : Hid (∀ X, Below A.heap.size A X → DBx w X w.heap.size p dv av vv ds ac dn) := Lib.hid (fun X hb => (HNB.out X (HIA.out.below.trans (hb.mono hsz))).1)
      have HG1 : Hid (∀ X, Below A.heap.size A X → X.cell? ⟨g, 1, none⟩ = some (.slice (some ⟨bd, 0, none⟩) n n)) := Lib.hid (fun X hb => later hb (Nat.le_refl _) (HIA.out.box.cell (i := 1) (by omega)))
      have HDZ : Hid (∀ X, Below A.heap.size A X → X.cell? ⟨bd, 0 + s, none⟩ = some (.int .i64 (z : Int))) := Lib.hid (fun X hb => by rw [Nat.zero_add, hz]; exact later hb (Nat.le_refl _) (HIA.out.dims.cell hst))
      have x0 : A.cell? ⟨Bx, 0, none⟩ = some (.int .i64 (i : Int)) := by simp [World.cell?, hX]
      have x1 : A.cell? ⟨Bx, 1, none⟩ = some (.int .i64 (j : Int)) := by simp [World.cell?, hX]
      have HX0 : Hid (∀ X, Below A.heap.size A X → X.cell? ⟨Bx, 0, none⟩ = some (.int .i64 (i : Int)) ∧ X.cell? ⟨Bx, 1, none⟩ = some (.int .i64 (j : Int))) := Lib.hid (fun X hb => ⟨later hb (Nat.le_refl _) x0, later hb (Nat.le_refl _) x1⟩)
      have HDC : Hid (∀ X, Below A.heap.size A X → Calls Tryz.prog 75 #[.agg #[.int .i64 p, dv, av, vv], .agg #[.int .i64 (i : Int), .int .i64 (j : Int)]] X fun e w' => e = .returned (.int .i64 (d : Int)) ∧ Below A.heap.size A w') := Lib.hid (fun X hb => by
        rw [hcd.1]
        exact (dimOfCell_any p i j _ _ _ ds X (HNA.out X hb).dx.dims ⟨by omega, fun r hr => by have := (HOK.out.col r hr).1; have := HOK.out.h1; show r.length ≤ _; omega⟩ (by omega) (by omega) (by omega) (fun _ => by simp only [Int.toNat_natCast]; exact Int.ofNat_lt.2 hmf.2)).mono fun _ _ hh => ⟨hh.1, hb.trans (hh.2.mono hb.size)⟩)
      have HFIN : Hid (∀ X, Below A.heap.size A X → KeepsFrom W0.heap.size A (X.setCell ⟨bd, 0 + s, none⟩ (.int .i64 ((z : Int) + (d : Int)))) ∧ Below w.heap.size A (X.setCell ⟨bd, 0 + s, none⟩ (.int .i64 ((z : Int) + (d : Int)))) ∧ Du wB (X.setCell ⟨bd, 0 + s, none⟩ (.int .i64 ((z : Int) + (d : Int)))) g bd bm n t p (fun s => .int .i64 ((tdl ds ((pre ++ ([⟨(i, j), hxm⟩] : List (CellIn ds))).map (·.1)) s : Nat) : Int)) (fun _ => .slice none 0 0)) := Lib.hid (fun X hb => by
        rw [Nat.zero_add]
        refine ⟨(keepsFrom_below hb).trans ((KeepsOthers.setCell _ _ _).from _), (hb.mono (by omega)).setCell (p := ⟨bd, s, none⟩) (by show _ ≤ bd; omega) _, ((HIA.out.next hb).setD s _).congr (fun a ha => ?_)⟩
        have e : (pre ++ ([⟨(i, j), hxm⟩] : List (CellIn ds))).map (·.1) = pre.map (·.1) ++ [(i, j)] := by rw [List.map_append]; rfl
        rw [e, tdl_snoc, ← hd]
        by_cases ea : a = s
        · subst ea; rw [if_pos rfl, if_pos (by simp [onD, hs]), hz]; simp
        · rw [if_neg ea, if_neg (by simp [onD]; omega), Nat.add_zero])
      have hwij : IntKind.i64.wrap ((i : Int) + (j : Int)) = (s : Int) := by rw [show (i : Int) + (j : Int) = (s : Int) by omega]; exact IntWalk.i64_in _ (by omega)
      clear hI hX hr x0 x1 hd hcd hz hs hmf hcol hmm hlt hBx
      gi_wp2_with fail
      refine wpIn_region_last (fun X => Below A.heap.size A X) 14 (by kernel_rfl) (by kernel_rfl) (fun ⟨_, _, h⟩ => h) rfl (by kernel_rfl) ?_
      have S0 : Below A.heap.size A A.drew := (Below.refl _ _).drew
      change wpAnyH _ _ _ _ _ _ _ _ A.drew
      generalize A.drew = wd at *
      refine held_take (i := 0) (v := .pointer (some ⟨g, 1, none⟩)) (some 24) rfl rfl (by kernel_rfl) (by kernel_rfl) (by kernel_rfl) (fun _ _ _ h => h) (yieldsIf_run (by kernel_rfl) (fun W _ => by kernel_rfl)) S0 ?_
      refine held_take (i := 1) (v := .slice (some ⟨bd, 0, none⟩) n n) (some 25) rfl rfl (by kernel_rfl) (by kernel_rfl) (by kernel_rfl) (fun _ _ _ h => h) (yieldsIf_cell (by kernel_rfl) rfl (by kernel_rfl) (fun W h => hloadD W (HG1.out W h))) S0 ?_
      refine held_take (i := 2) (v := .pointer (some ⟨Bx, 0, none⟩)) (some 26) rfl rfl (by kernel_rfl) (by kernel_rfl) (by kernel_rfl) (fun _ _ _ h => h) (yieldsIf_run (by kernel_rfl) (fun W _ => by kernel_rfl)) S0 ?_
      refine held_take (i := 3) (v := .int .i64 (i : Int)) (some 27) rfl rfl (by kernel_rfl) (by kernel_rfl) (by kernel_rfl) (fun _ _ _ h => h) (yieldsIf_cell (by kernel_rfl) rfl (by kernel_rfl) (fun W h => hloadIn W (HX0.out W h).1)) S0 ?_
      refine held_take (i := 4) (v := .pointer (some ⟨Bx, 1, none⟩)) (some 28) rfl rfl (by kernel_rfl) (by kernel_rfl) (by kernel_rfl) (fun _ _ _ h => h) (yieldsIf_run (by kernel_rfl) (fun W _ => by kernel_rfl)) S0 ?_
      refine held_take (i := 5) (v := .int .i64 (j : Int)) (some 29) rfl rfl (by kernel_rfl) (by kernel_rfl) (by kernel_rfl) (fun _ _ _ h => h) (yieldsIf_cell (by kernel_rfl) rfl (by kernel_rfl) (fun W h => hloadIn W (HX0.out W h).2)) S0 ?_
      refine held_take (i := 6) (v := .int .i64 (s : Int)) (some 30) rfl rfl (by kernel_rfl) (by kernel_rfl) (by kernel_rfl) (fun _ _ _ h => h) (yieldsIf_bin (by kernel_rfl) rfl (by kernel_rfl) (by kernel_rfl) (fun _ => rfl) (haddA hwij)) S0 ?_
      refine held_take (i := 7) (v := .pointer (some ⟨bd, 0 + s, none⟩)) (some 31) rfl rfl (by kernel_rfl) (by kernel_rfl) (by kernel_rfl) (fun _ _ _ h => h) (yieldsIf_index (by kernel_rfl) rfl (by kernel_rfl) (by kernel_rfl) (hidxI bd 0 n hst)) S0 ?_
      refine held_take (i := 8) (v := .int .i64 (z : Int)) (some 32) rfl rfl (by kernel_rfl) (by kernel_rfl) (by kernel_rfl) (fun _ _ _ h => h) (yieldsIf_cell (by kernel_rfl) rfl (by kernel_rfl) (fun W h => hloadIn W (HDZ.out W h))) S0 ?_
      refine held_take (i := 9) (v := .agg #[.int .i64 p, dv, av, vv]) (some 33) rfl rfl (by kernel_rfl) (by kernel_rfl) (by kernel_rfl) (fun _ _ _ h => h) (yieldsIf_cell (by kernel_rfl) rfl (by kernel_rfl) (fun W h => hloadDb W (HNA.out W h))) S0 ?_
      refine held_take (i := 10) (v := .agg #[.int .i64 (i : Int), .int .i64 (j : Int)]) (some 34) rfl rfl (by kernel_rfl) (by kernel_rfl) (by kernel_rfl) (fun _ _ _ h => h) (yieldsIf_cell (by kernel_rfl) rfl (by kernel_rfl) (fun W h => hloadCe W (HX0.out W h).1 (HX0.out W h).2)) S0 ?_
      refine held_enter (i := 11) (some 35) (f := 75) (args := #[.agg #[.int .i64 p, dv, av, vv], .agg #[.int .i64 (i : Int), .int .i64 (j : Int)]]) (by kernel_rfl) rfl rfl rfl (by kernel_rfl) (HDC.out _ S0) ?_ (fun c w' h => by cases h.1) (fun w' h => by cases h.1)
      rintro e3 W3 ⟨he3, S1⟩
      injection he3 with he3
      subst he3
      refine ⟨S1, ?_⟩
      refine held_take (i := 12) (v := .int .i64 ((z : Int) + (d : Int))) (some 36) rfl rfl (by kernel_rfl) (by kernel_rfl) (by kernel_rfl) (fun _ _ _ h => h) (yieldsIf_bin (by kernel_rfl) rfl (by kernel_rfl) (by kernel_rfl) (fun _ => rfl) (haddA (IntWalk.i64_in _ (by omega)))) S1 ?_
      refine held_take (i := 13) (v := .pointer (some ⟨bd, 0 + s, none⟩)) (some 37) rfl rfl (by kernel_rfl) (by kernel_rfl) (by kernel_rfl) (fun _ _ _ h => h) (yieldsIf_index (by kernel_rfl) rfl (by kernel_rfl) (by kernel_rfl) (hidxI bd 0 n hst)) S1 ?_
      refine held_none (i := 14) (v := .bool false) rfl rfl (by kernel_rfl) (by kernel_rfl) (by kernel_rfl) (fun _ _ _ h => h) (yieldsIf_move (by kernel_rfl) rfl (by kernel_rfl)) S1 ?_
      have hac := HDZ.out _ S1
      have hfz : W3.frozen? ⟨bd, 0 + s, none⟩ = false := (HIA.out.next S1).dims.frozen _
      have HFI := HFIN.out _ S1
      refine wpAnyH_done (by kernel_rfl) (lastQ_storeJ rfl (by kernel_rfl) (by kernel_rfl) (.tmp 37) (.tmp 36) (by kernel_rfl) bd (0 + s) ((z : Int) + (d : Int)) _ (by kernel_rfl) (by kernel_rfl) hac hfz ?_) _
      exact HFI
    case done =>
      rintro D zs A hD hS hI hKD
      have HDU2 : Hid (Du wB A g bd bm n t p (fun j => .int .i64 ((tdim ds j : Nat) : Int)) (fun _ => .slice none 0 0)) := Lib.hid (hI.congr (fun j _ => by rw [hS]; rfl))
      have HKD := Lib.hid hKD
      have hDl : D < A.heap.size := (Array.getElem?_eq_some_iff.1 hKD).1
      have hDg : D ≠ g := by omega
      have hDd : D ≠ bd := by omega
      have hDm : D ≠ bm := by omega
      have HBO := Lib.hid HDU2.out.below
      have HBX := Lib.hid HDU2.out.box
      have HBD := Lib.hid HDU2.out.dims
      have hml := HDU2.out.maps.lt
      have HF0 : Hid (Fill3 A bm t 0 (fun _ => .slice none 0 0) (fun _ => A.heap.size) (tM ds ac dn)) := Lib.hid ⟨HDU2.out.maps, hml, fun _ h => absurd h (Nat.not_lt_zero _), Nat.le_refl _, fun _ _ h => absurd h (Nat.not_lt_zero _)⟩
      have hso := HBO.out.size
      clear hI hS hKD HDU2
      go_wp2
      go_loopw [6, 39] (fun _ i wr => ∃ (k : Nat) (f : Nat → Value) (b : Nat → Nat), k ≤ t ∧ i = .int .i64 (k : Int) ∧ Hid (Below wB.heap.size wB wr) ∧ Hid (wr.rowIs g 66 3 (box3 p (.slice (some ⟨bd, 0, none⟩) n n) (.slice (some ⟨bm, 0, none⟩) t t))) ∧ Hid (wr.rowIs bd 2 n (fun j => .int .i64 ((tdim ds j : Nat) : Int))) ∧ Hid (Fill3 wr bm t k f b (tM ds ac dn)) ∧ Hid (A.heap.size ≤ wr.heap.size ∧ A.heap.size ≤ b 0) ∧ Hid (wr.heap[D]? = some (.deferred (some [])))) (fun _ i _ => t - (intOf i).toNat)
      case atStart => exact ⟨0, _, _, Nat.zero_le _, rfl, HBO, HBX, HBD, HF0, Lib.hid ⟨Nat.le_refl _, Nat.le_refl _⟩, HKD⟩
      case round =>
        clear HBO HBX HBD HF0 HKD
        obtain ⟨k, f, b, hk, rfl, HB, HBX, HBD, HF, HLE, HKD⟩ := hrel
        obtain ⟨wy, hwy⟩ : ∃ wy : World, wy = wr := ⟨_, rfl⟩
        subst hwy
        by_cases hlk : k < t
        · have hkt : (k : Int) < (t : Int) := by omega
          have htk : k < ttop ds := by rw [← HTT.out]; exact hlk
          obtain ⟨r, hr⟩ : ∃ r, r = tdim ds (k + 1) := ⟨_, rfl⟩
          obtain ⟨c, hc⟩ : ∃ c, c = tdim ds k := ⟨_, rfl⟩
          have hr64 : r ≤ 64 := by rw [hr]; exact tdim_le HOK.out _
          have hc64 : c ≤ 64 := by rw [hc]; exact tdim_le HOK.out _
          have HTA := Lib.hid (ttab_ok HP.out HOK.out HT.out k)
          have HNY : Hid (∀ X, Below wy.heap.size wy X → DBx w X w.heap.size p dv av vv ds ac dn) := Lib.hid (fun X hb => (HNB.out X (HB.out.trans (hb.mono HB.out.size))).1)
          have HG2 : Hid (∀ X, Below wy.heap.size wy X → X.cell? ⟨g, 1, none⟩ = some (.slice (some ⟨bd, 0, none⟩) n n) ∧ X.cell? ⟨g, 2, none⟩ = some (.slice (some ⟨bm, 0, none⟩) t t)) := Lib.hid (fun X hb => ⟨later hb (Nat.le_refl _) (HBX.out.cell (i := 1) (by omega)), later hb (Nat.le_refl _) (HBX.out.cell (i := 2) (by omega))⟩)
          have HD1 : Hid (∀ X, Below wy.heap.size wy X → X.cell? ⟨bd, 0 + (k + 1), none⟩ = some (.int .i64 (r : Int)) ∧ X.cell? ⟨bd, 0 + k, none⟩ = some (.int .i64 (c : Int))) := Lib.hid (fun X hb => by
            rw [Nat.zero_add, Nat.zero_add, hr, hc]
            exact ⟨later hb (Nat.le_refl _) (HBD.out.cell (by have := HN.out; omega)), later hb (Nat.le_refl _) (HBD.out.cell (by have := HN.out; omega))⟩)
          have HNUM : Hid (∀ X, Below wy.heap.size wy X → Calls Tryz.prog 92 #[.agg #[.int .i64 p, dv, av, vv], .int .i64 ((k + 1 : Nat) : Int)] X fun e w' => ∃ v, e = .returned v ∧ Gb X.heap.size w' v (ttab ds ac dn k).flatten ∧ Below X.heap.size X w') := Lib.hid (fun X hb => by rw [ttab_flat]; exact totalNumbers_any p HP.out dv av vv ds ac dn k (by omega) X (HNY.out X hb).dx HOK.out HT.out)
          have hw1k : IntKind.i64.wrap ((k : Int) + 1) = ((k + 1 : Nat) : Int) := by rw [show (k : Int) + 1 = ((k + 1 : Nat) : Int) by omega]; exact IntWalk.i64_in _ (by omega)
          have hk1n : k + 1 < n := by have := HN.out; omega
          have hk0n : k < n := by omega
          have hlen : (ttab ds ac dn k).length = r := by have := HTA.out.1; omega
          have hcolm : ∀ x ∈ ttab ds ac dn k, x.length = c := fun x hx => by have := (HTA.out.2 x hx).1; omega
          have HLEN := Lib.hid hlen
          have HCOL := Lib.hid hcolm
          clear hr hc hlen hcolm
          go_upto_region 9 with fail
          refine wp_region_last (fun W => Below wy.heap.size wy W) 20 (by kernel_rfl) rfl (by kernel_rfl) ?_
          have S0 : Below wy.heap.size wy wy.drew := (Below.refl _ _).drew
          change wpAnyH _ _ _ _ _ _ _ _ wy.drew
          obtain ⟨wd, hwd⟩ : ∃ wd, wd = wy.drew := ⟨_, rfl⟩
          rw [← hwd] at S0 ⊢
          clear hwd
          refine held_take (i := 0) (v := .pointer (some ⟨g, 2, none⟩)) (some 42) rfl rfl (by kernel_rfl) (by kernel_rfl) (by kernel_rfl) (fun _ _ _ h => h) (yieldsIf_run (by kernel_rfl) (fun W _ => by kernel_rfl)) S0 ?_
          refine held_take (i := 1) (v := .slice (some ⟨bm, 0, none⟩) t t) (some 43) rfl rfl (by kernel_rfl) (by kernel_rfl) (by kernel_rfl) (fun _ _ _ h => h) (yieldsIf_cell (by kernel_rfl) rfl (by kernel_rfl) (fun W h => hloadM W (HG2.out W h).2)) S0 ?_
          refine held_take (i := 2) (v := .int .i64 (k : Int)) (some 44) rfl rfl (by kernel_rfl) (by kernel_rfl) (by kernel_rfl) (fun _ _ _ h => h) (yieldsIf_move (by kernel_rfl) rfl (by kernel_rfl)) S0 ?_
          refine held_take (i := 3) (v := .agg #[.int .i64 p, dv, av, vv]) (some 45) rfl rfl (by kernel_rfl) (by kernel_rfl) (by kernel_rfl) (fun _ _ _ h => h) (yieldsIf_cell (by kernel_rfl) rfl (by kernel_rfl) (fun W h => hloadDb W (HNY.out W h))) S0 ?_
          refine held_take (i := 4) (v := .int .i64 (k : Int)) (some 46) rfl rfl (by kernel_rfl) (by kernel_rfl) (by kernel_rfl) (fun _ _ _ h => h) (yieldsIf_move (by kernel_rfl) rfl (by kernel_rfl)) S0 ?_
          refine held_take (i := 5) (v := .int .i64 ((k + 1 : Nat) : Int)) (some 47) rfl rfl (by kernel_rfl) (by kernel_rfl) (by kernel_rfl) (fun _ _ _ h => h) (yieldsIf_bin (by kernel_rfl) rfl (by kernel_rfl) (by kernel_rfl) (fun _ => rfl) (haddA hw1k)) S0 ?_
          refine held_take (i := 7) (v := .pointer (some ⟨g, 1, none⟩)) (some 49) rfl rfl (by kernel_rfl) (by kernel_rfl) (by kernel_rfl) (fun _ _ _ h => h) (yieldsIf_run (by kernel_rfl) (fun W _ => by kernel_rfl)) S0 ?_
          refine held_take (i := 8) (v := .slice (some ⟨bd, 0, none⟩) n n) (some 50) rfl rfl (by kernel_rfl) (by kernel_rfl) (by kernel_rfl) (fun _ _ _ h => h) (yieldsIf_cell (by kernel_rfl) rfl (by kernel_rfl) (fun W h => hloadD W (HG2.out W h).1)) S0 ?_
          refine held_take (i := 9) (v := .int .i64 (k : Int)) (some 51) rfl rfl (by kernel_rfl) (by kernel_rfl) (by kernel_rfl) (fun _ _ _ h => h) (yieldsIf_move (by kernel_rfl) rfl (by kernel_rfl)) S0 ?_
          refine held_take (i := 10) (v := .int .i64 ((k + 1 : Nat) : Int)) (some 52) rfl rfl (by kernel_rfl) (by kernel_rfl) (by kernel_rfl) (fun _ _ _ h => h) (yieldsIf_bin (by kernel_rfl) rfl (by kernel_rfl) (by kernel_rfl) (fun _ => rfl) (haddA hw1k)) S0 ?_
          refine held_take (i := 11) (v := .pointer (some ⟨bd, 0 + (k + 1), none⟩)) (some 53) rfl rfl (by kernel_rfl) (by kernel_rfl) (by kernel_rfl) (fun _ _ _ h => h) (yieldsIf_index (by kernel_rfl) rfl (by kernel_rfl) (by kernel_rfl) (hidxI bd 0 n hk1n)) S0 ?_
          refine held_take (i := 12) (v := .int .i64 (r : Int)) (some 54) rfl rfl (by kernel_rfl) (by kernel_rfl) (by kernel_rfl) (fun _ _ _ h => h) (yieldsIf_cell (by kernel_rfl) rfl (by kernel_rfl) (fun W h => hloadIn W (HD1.out W h).1)) S0 ?_
          refine held_take (i := 13) (v := .pointer (some ⟨g, 1, none⟩)) (some 55) rfl rfl (by kernel_rfl) (by kernel_rfl) (by kernel_rfl) (fun _ _ _ h => h) (yieldsIf_run (by kernel_rfl) (fun W _ => by kernel_rfl)) S0 ?_
          refine held_take (i := 14) (v := .slice (some ⟨bd, 0, none⟩) n n) (some 56) rfl rfl (by kernel_rfl) (by kernel_rfl) (by kernel_rfl) (fun _ _ _ h => h) (yieldsIf_cell (by kernel_rfl) rfl (by kernel_rfl) (fun W h => hloadD W (HG2.out W h).1)) S0 ?_
          refine held_take (i := 15) (v := .int .i64 (k : Int)) (some 57) rfl rfl (by kernel_rfl) (by kernel_rfl) (by kernel_rfl) (fun _ _ _ h => h) (yieldsIf_move (by kernel_rfl) rfl (by kernel_rfl)) S0 ?_
          refine held_take (i := 16) (v := .pointer (some ⟨bd, 0 + k, none⟩)) (some 58) rfl rfl (by kernel_rfl) (by kernel_rfl) (by kernel_rfl) (fun _ _ _ h => h) (yieldsIf_index (by kernel_rfl) rfl (by kernel_rfl) (by kernel_rfl) (hidxI bd 0 n hk0n)) S0 ?_
          refine held_take (i := 17) (v := .int .i64 (c : Int)) (some 59) rfl rfl (by kernel_rfl) (by kernel_rfl) (by kernel_rfl) (fun _ _ _ h => h) (yieldsIf_cell (by kernel_rfl) rfl (by kernel_rfl) (fun W h => hloadIn W (HD1.out W h).2)) S0 ?_
          refine held_enter (i := 6) (some 48) (f := 92) (args := #[.agg #[.int .i64 p, dv, av, vv], .int .i64 ((k + 1 : Nat) : Int)]) (by kernel_rfl) rfl rfl rfl (by kernel_rfl) (HNUM.out _ S0) ?_ (fun c w' h => by obtain ⟨_, h, _⟩ := h; cases h) (fun w' h => by obtain ⟨_, h, _⟩ := h; cases h)
          rintro e4 W4 ⟨u4, he4, hg4, hb4⟩
          injection he4 with he4
          subst he4
          have S1 : Below wy.heap.size wy W4 := S0.trans (hb4.mono S0.size)
          refine ⟨S1, ?_⟩
          obtain ⟨a4, c4, hv4⟩ := Sl.shape hg4.l1
          obtain ⟨m4, hm4⟩ : ∃ m4, m4 = (ttab ds ac dn k).flatten.length := ⟨_, rfl⟩
          rw [← hm4] at hv4
          subst hv4
          have hmrc : m4 = r * c := by rw [hm4, flat_len HCOL.out, HLEN.out]
          have hcap : m4 ≤ c4 := by
            rcases hg4.2 with ⟨hx, _⟩ | ⟨_, _, _, hx, _, _, h1, _⟩
            · injection hx with _ h2 h3; omega
            · injection hx with _ h2 h3; omega
          have HCU : Hid (Calls Tryz.prog 91 #[.slice a4 m4 c4, .int .i64 (r : Int), .int .i64 (c : Int)] W4 fun e w' => e = .returned (.slice (some ⟨W4.heap.size, 0, none⟩) r r) ∧ CuTo W4 w' a4 c r r) := Lib.hid (cutRows_at a4 m4 c4 r c W4 (by omega) (by omega) hmrc hcap)
          refine held_enter (i := 18) (some 60) (f := 91) (args := #[.slice a4 m4 c4, .int .i64 (r : Int), .int .i64 (c : Int)]) (by kernel_rfl) rfl rfl rfl (by kernel_rfl) (HCU.out) ?_ (fun c w' h => by cases h.1) (fun w' h => by cases h.1)
          rintro e5 W5 ⟨he5, hcu⟩
          injection he5 with he5
          subst he5
          have hb5 : Below wd.heap.size wd W5 := hb4.trans (hcu.below.mono hb4.size)
          have S2 : Below wy.heap.size wy W5 := S0.trans (hb5.mono S0.size)
          refine ⟨S2, ?_⟩
          refine held_take (i := 19) (v := .pointer (some ⟨bm, 0 + k, none⟩)) (some 61) rfl rfl (by kernel_rfl) (by kernel_rfl) (by kernel_rfl) (fun _ _ _ h => h) (yieldsIf_index (by kernel_rfl) rfl (by kernel_rfl) (by kernel_rfl) (hidx3 bm 0 t hlk)) S2 ?_
          have hrw := hcu.rw2 (lo := wd.heap.size) (by omega) (by omega) hg4 (by rw [flat_len HCOL.out, HLEN.out]) hb4.size
          rw [show cutL (ttab ds ac dn k).flatten r c = ttab ds ac dn k by rw [← HLEN.out]; exact cut_flat HCOL.out] at hrw
          have HFP := Lib.hid (HF.out.below S0)
          have hst := HFP.out.step hb5 (show k < (tM ds ac dn).length by rw [tM_len]; exact htk) (by simp only [tM, List.getElem_map, List.getElem_range]; exact hrw)
          have hr4 := HFP.out.row.of_block (hb5.block _ HFP.out.row.lt)
          have q1 : W5.cell? ⟨bm, 0 + k, none⟩ = some (f k) := by rw [Nat.zero_add]; exact hr4.cell hlk
          have q2 : W5.frozen? ⟨bm, 0 + k, none⟩ = false := hr4.frozen _
          have HBN : Hid (Below wB.heap.size wB (W5.setCell ⟨bm, k, none⟩ (.slice (some ⟨W4.heap.size, 0, none⟩) r r))) := Lib.hid ((HB.out.trans (S2.mono HB.out.size)).setCell (p := ⟨bm, k, none⟩) (by show wB.heap.size ≤ bm; exact hlo.2.2) _)
          have HXN : Hid ((W5.setCell ⟨bm, k, none⟩ (.slice (some ⟨W4.heap.size, 0, none⟩) r r)).rowIs g 66 3 (box3 p (.slice (some ⟨bd, 0, none⟩) n n) (.slice (some ⟨bm, 0, none⟩) t t))) := Lib.hid ((HBX.out.of_block (S2.block _ HBX.out.lt)).setOther hne.2.1 _)
          have HDN : Hid ((W5.setCell ⟨bm, k, none⟩ (.slice (some ⟨W4.heap.size, 0, none⟩) r r)).rowIs bd 2 n (fun j => .int .i64 ((tdim ds j : Nat) : Int))) := Lib.hid ((HBD.out.of_block (S2.block _ HBD.out.lt)).setOther hne.2.2 _)
          have HKN : Hid ((W5.setCell ⟨bm, k, none⟩ (.slice (some ⟨W4.heap.size, 0, none⟩) r r)).heap[D]? = some (.deferred (some []))) := Lib.hid ((Below.heap_setCell W5 ⟨bm, k, none⟩ _ D (by show D ≠ bm; exact hDm)).trans ((S2.block D (by have := HLE.out.1; omega)).trans HKD.out))
          have hleP : wy.heap.size ≤ wd.heap.size := S0.size
          have hleQ : wy.heap.size ≤ W5.heap.size := S2.size
          have HLN : Hid (A.heap.size ≤ (W5.setCell ⟨bm, k, none⟩ (.slice (some ⟨W4.heap.size, 0, none⟩) r r)).heap.size ∧ A.heap.size ≤ (fun q => if q < k then b q else if q = k then wd.heap.size else W5.heap.size) 0) := Lib.hid (by
            have h0 := HLE.out
            refine ⟨by simp; omega, ?_⟩
            by_cases e : 0 < k
            · simp only [if_pos e]; exact h0.2
            · simp only [if_neg e, if_pos (show 0 = k by omega)]; omega)
          have HST := Lib.hid hst
          refine held_none (i := 20) (v := .bool false) rfl rfl (by kernel_rfl) (by kernel_rfl) (by kernel_rfl) (fun _ _ _ h => h) (yieldsIf_move (by kernel_rfl) rfl (by kernel_rfl)) S2 ?_
          refine wpAnyH_done (by kernel_rfl) (lastQ_of rfl (by kernel_rfl) ?_) _
          simp only [Act.put, List.setIfInBounds_toArray, List.set_cons_zero, List.set_cons_succ]
          rw [Nat.zero_add] at q1 q2
          go_simp
          obtain ⟨wn, hwn'⟩ : ∃ wn, wn = (W5.setCell ⟨bm, k, none⟩ (.slice (some ⟨W4.heap.size, 0, none⟩) r r)) := ⟨_, rfl⟩
          rw [← hwn'] at HST HBN HXN HDN HLN HKN ⊢
          clear hwn' q1 q2 hr4 hst hrw HFP hb4 hb5 hcu hg4 S0 S1 S2 HNUM HCU HB HBX HBD HF hm4 hmrc hcap hw1k
          go_wp2
          go_roundw
          case rel => exact ⟨k + 1, _, _, by omega, by go_num, HBN, HXN, HDN, HST, HLN, HKN⟩
          case measure => simp [intOf]; omega
        · have hkt : ¬ (k : Int) < (t : Int) := by omega
          have HF3 : Hid (Fill3 wy bm t t f b (tM ds ac dn)) := Lib.hid (by have h0 := HF.out; rwa [show k = t by omega] at h0)
          have x0' : wy.cell? ⟨g, 0, none⟩ = some (.int .i64 p) := HBX.out.cell (i := 0) (by omega)
          have x1' : wy.cell? ⟨g, 1, none⟩ = some (.slice (some ⟨bd, 0, none⟩) n n) := HBX.out.cell (i := 1) (by omega)
          have x2' : wy.cell? ⟨g, 2, none⟩ = some (.slice (some ⟨bm, 0, none⟩) t t) := HBX.out.cell (i := 2) (by omega)
          have HNF := Lib.hid (HNB.out _ HB.out)
          clear HF
          have HR1 : ∃ x0 x1 x2, wy.heap[w.heap.size + 1]? = some (.cells #[x0, x1, x2] 66) := ⟨_, _, _, HNF.out.2⟩
          obtain ⟨x0, x1, x2, hr⟩ := HR1
          have r0 : wy.rowIs (w.heap.size + 1) 66 3 (sel3 x0 x1 x2) := rowIs3 hr
          have q0 : wy.cell? ⟨w.heap.size + 1, 0, none⟩ = some x0 := r0.cell (i := 0) (by omega)
          have z0 : wy.frozen? ⟨w.heap.size + 1, 0, none⟩ = false := r0.frozen 0
          have r1 := r0.set 0 (.int .i64 p)
          have q1 : (wy.setCell ⟨w.heap.size + 1, 0, none⟩ (.int .i64 p)).cell? ⟨w.heap.size + 1, 1, none⟩ = some x1 := r1.cell (i := 1) (by omega)
          have z1 : (wy.setCell ⟨w.heap.size + 1, 0, none⟩ (.int .i64 p)).frozen? ⟨w.heap.size + 1, 1, none⟩ = false := r1.frozen 1
          have r2 := r1.set 1 (.slice (some ⟨bd, 0, none⟩) n n)
          have q2 : ((wy.setCell ⟨w.heap.size + 1, 0, none⟩ (.int .i64 p)).setCell ⟨w.heap.size + 1, 1, none⟩ (.slice (some ⟨bd, 0, none⟩) n n)).cell? ⟨w.heap.size + 1, 2, none⟩ = some x2 := r2.cell (i := 2) (by omega)
          have z2 : ((wy.setCell ⟨w.heap.size + 1, 0, none⟩ (.int .i64 p)).setCell ⟨w.heap.size + 1, 1, none⟩ (.slice (some ⟨bd, 0, none⟩) n n)).frozen? ⟨w.heap.size + 1, 2, none⟩ = false := r2.frozen 2
          have r3 := r2.set 2 (.slice (some ⟨bm, 0, none⟩) t t)
          obtain ⟨WF, hWF⟩ : ∃ W : World, W = (((wy.setCell ⟨w.heap.size + 1, 0, none⟩ (.int .i64 p)).setCell ⟨w.heap.size + 1, 1, none⟩ (.slice (some ⟨bd, 0, none⟩) n n)).setCell ⟨w.heap.size + 1, 2, none⟩ (.slice (some ⟨bm, 0, none⟩) t t)) := ⟨_, rfl⟩
          have hbWF : ∀ B (w0 : World), B ≤ w.heap.size + 1 → Below B w0 wy → Below B w0 WF := fun B w0 hl hb => by rw [hWF]; exact (((hb.setCell (by show B ≤ w.heap.size + 1; exact hl) _).setCell (by show B ≤ w.heap.size + 1; exact hl) _).setCell (by show B ≤ w.heap.size + 1; exact hl) _)
          have hsWF : ∀ lo hi, w.heap.size + 1 < lo ∨ hi ≤ w.heap.size + 1 → Same lo hi wy WF := fun lo hi hl => by rw [hWF]; exact (((Same.set _ hl).trans (Same.set _ hl)).trans (Same.set _ hl))
          have hzWF : WF.heap.size = wy.heap.size := by rw [hWF]; simp
          rw [← hWF] at r3
          have f0 : WF.cell? ⟨w.heap.size + 1, 0, none⟩ = some (.int .i64 p) := r3.cell (i := 0) (by omega)
          have f1 : WF.cell? ⟨w.heap.size + 1, 1, none⟩ = some (.slice (some ⟨bd, 0, none⟩) n n) := r3.cell (i := 1) (by omega)
          have f2 : WF.cell? ⟨w.heap.size + 1, 2, none⟩ = some (.slice (some ⟨bm, 0, none⟩) t t) := r3.cell (i := 2) (by omega)
          have HWWF := Lib.hid hWF
          clear hr r0 r1 r2 r3 hWF
          have hkF : WF.heap[D]? = some (.deferred (some [])) := (hsWF D (D + 1) (by omega) D (Nat.le_refl _) (Nat.lt_succ_self _)).trans HKD.out
          have hbF : ∀ i, i ≠ w.heap.size + 1 → WF.heap[i]? = wy.heap[i]? := fun i hi => hsWF i (i + 1) (by omega) i (Nat.le_refl _) (Nat.lt_succ_self _)
          have HKF := Lib.hid hkF
          have hple : w.heap.size + 1 < wB.heap.size := by omega
          have hD0 : D < b 0 := by have := HLE.out.2; omega
          have HFF : Hid (Fill3 (WF.putObj D (.deferred none)) bm t t f b (tM ds ac dn)) := Lib.hid (by
            refine fill3_put ⟨HF3.out.row.of_block (hbF bm (by omega)), HF3.out.lo, HF3.out.inc, by rw [hzWF]; exact HF3.out.hi, fun a ha hk => (HF3.out.at' a ha hk).same (hsWF _ _ (.inl ?_))⟩ hD0 hDm _
            have hi0 : ∀ e, e ≤ t → b 0 ≤ b e := by
              intro e
              induction e with
              | zero => intro _; exact Nat.le_refl _
              | succ e ih => intro he; exact Nat.le_trans (ih (by omega)) (HF3.out.inc e (by omega))
            have := hi0 a (by omega)
            omega)
          have hpo : ∀ i, i ≠ D → (WF.putObj D (.deferred none)).heap[i]? = WF.heap[i]? := fun i hi => World.putObj_heap_other (by omega)
          have HDF : Hid ((WF.putObj D (.deferred none)).rowIs bd 2 n (fun j => .int .i64 ((tD ds).getD j 0))) := Lib.hid ((((HBD.out.of_block (hbF bd (by omega))).of_block (hpo bd (by omega)))).congr (fun j hj => by rw [tD_at (by rw [← HTT.out]; have := HN.out; omega)]))
          have HRC := Lib.hid (gen_rc (lo := w.heap.size) (by rw [tM_len]; exact HTT.out) (by rw [tD_len, ← HTT.out]; exact HN.out) (by omega) (by omega) HDF.out HFF.out (by have := hlo.2.1; omega) (by have := hlo.2.2; omega) (by have := HLE.out.2; omega))
          have HBF : Hid (Below w.heap.size w WF) := Lib.hid (hbWF w.heap.size w (by omega) ((HX1.out.below.trans (HBB.out.mono hwb1)).trans (HB.out.mono (by omega))))
          have hcp : ∀ o, (WF.putObj D (.deferred none)).cell? ⟨w.heap.size + 1, o, none⟩ = WF.cell? ⟨w.heap.size + 1, o, none⟩ := fun o => World.cell?_of_block (hpo (w.heap.size + 1) (by omega))
          have g0 := (hcp 0).trans f0
          have g1 := (hcp 1).trans f1
          have g2 := (hcp 2).trans f2
          have HG0 := Lib.hid g0
          have HG1 := Lib.hid g1
          have HG2 := Lib.hid g2
          have HTL : Hid (n = (tD ds).length ∧ t = (tM ds ac dn).length) := Lib.hid ⟨by rw [tD_len, ← HTT.out]; exact HN.out, by rw [tM_len]; exact HTT.out⟩
          clear hbF hkF hpo hcp g0 g1 g2 HF3 HBX HBD
          go_wp2
          rw [← HWWF.out]
          refine ⟨by simp, .inl ⟨_, _, rfl, run_takeDeferred HKF.out, ?_⟩⟩
          refine ⟨_, results_cx HRES.out _ (w.heap.size + 1) _ _ _ _ rfl HG0.out HG1.out HG2.out, _, rfl, ⟨some ⟨bd, 0, none⟩, n, some ⟨bm, 0, none⟩, t, by simp only [← HTL.out.1, ← HTL.out.2], by simp only [← HTL.out.1, ← HTL.out.2]; exact HRC.out⟩, HBF.out.trans (belowK_b (w := w) (Nat.le_refl _) _ D _ _ (by omega) HKF.out rfl rfl)⟩
    case stop =>
      rintro D c pre A hD _ hf hKD
      exact hf.elim
end Go.Proofs.YtlopenephgabhaaGreat


namespace Go.Proofs.YtlopenephgabhaaGreat
open Go.RowKit

/-- The sizes of what is told as a complex. -/
structure SzBk (ds : List Int) (ms : List (List (List Int))) : Prop where
  len0 : 1 ≤ ds.length
  len1 : ds.length ≤ 7
  mlen : ms.length + 1 = ds.length
  dims : ∀ d ∈ ds, 0 ≤ d ∧ d ≤ 32
  tabs : ∀ k, k < ms.length → ((ms.getD k []).length : Int) = ds.getD (k + 1) 0 ∧ ∀ x ∈ ms.getD k [], (x.length : Int) = ds.getD k 0
theorem SzBk.dim {ds : List Int} {ms : List (List (List Int))} (h : SzBk ds ms) (k : Nat) : 0 ≤ ds.getD k 0 ∧ ds.getD k 0 ≤ 32 := by
  by_cases hk : k < ds.length
  · rw [getD_of_lt _ hk]; exact h.dims _ (List.getElem_mem _)
  · simp [List.getD, show ds.length ≤ k by omega]
def SqB (ap : Nat → List Int → List (List Int) → List Int) (ds : List Int) (ms : List (List (List Int))) : Prop :=
  ∀ q, q + 1 < ms.length → ∀ r ∈ ms.getD (q + 1) [], ∀ x ∈ ap (ds.getD q 0).toNat r (ms.getD q []), x = 0
/-- A list in new memory. -/
def LRb (l : List Int) (w : World) (e : Ending) (w' : World) : Prop := ∃ u, e = .returned u ∧ L1 w.heap.size w' u l ∧ Below w.heap.size w w'

set_option maxHeartbeats 3200000 in
set_option maxRecDepth 100000 in
theorem squaresB_any (p : Int) (ap : Nat → List Int → List (List Int) → List Int) (Ok : Nat → List Int → List (List Int) → Prop) (hlen' : ∀ c v t, Ok c v t → (ap c v t).length = c)
    (hcall : ∀ (c : Nat) (va vt : Value) (v : List Int) (t : List (List Int)) (w : World), Ok c v t → L1 0 w va v → L2 0 w vt t → v.length ≤ 1048576 → c ≤ 1048576 → Calls Tryz.prog 79 #[.int .i64 p, va, vt, .int .i64 c] w (LRb (ap c v t) w))
    (dv mv : Value) (ds : List Int) (ms : List (List (List Int))) (w : World) (h : Cx 0 w dv mv ds ms) (ok : SzBk ds ms) (hok : ∀ q, q + 1 < ms.length → ∀ r ∈ ms.getD (q + 1) [], Ok (ds.getD q 0).toNat r (ms.getD q [])) :
    Calls Tryz.prog 67 #[.agg #[.int .i64 p, dv, mv]] w (BB (SqB ap ds ms) w) := by
  have HCALL := Lib.hid hcall
  have HLEN' := Lib.hid hlen'
  have HOK' := Lib.hid hok
  clear hcall hlen' hok
  have hlen0 := ok.len1
  have hmlen := Lib.hid ok.mlen
  have hml : ms.length ≤ 6 := by have := ok.mlen; have := ok.len1; omega
  have OK := Lib.hid ok
  clear ok
  have hb0 : Below w.heap.size w (w.alloc (.cells #[.int .i64 p, dv, mv] 66)) := (Below.refl _ _).alloc (Nat.le_refl _) _
  have HB0 := Lib.hid hb0
  clear hb0
  refine Sl.cases h.maps (fun ad cap hx hv' => ?_) (fun bm om capm hv' _ hpos hcl => ?_)
  · subst hx hv'
    clear h
    go_enter Tryz.func67, Tryz.ntmps67
    go_wp2
    refine wp_loop_rounds 1 ?_
    rw [rounds_succ]
    go_wp2
    go_ret
    exact bb_true HB0.out (fun q hq => absurd hq (by simp))
  · subst hv'
    refine Sl.cases h.dims (fun ad cap hx hv' => absurd hmlen.out (by subst hx; simp)) (fun bd od capd hv' _ hposd hcld => ?_)
    subst hv'
    have HC := Lib.hid hcl
    have HD := Lib.hid hcld
    clear h hcl hcld
    go_enter Tryz.func67, Tryz.ntmps67
    go_wp2
    go_loopw [3, 5, 6, 20] (fun i _ _ _ wr => ∃ (q : Nat), q ≤ ms.length ∧ i = .int .i64 ((q : Int) + 1) ∧ Below (w.heap.size + 1) (w.alloc (.cells #[.int .i64 p, .slice (some ⟨bd, od, none⟩) ds.length capd, .slice (some ⟨bm, om, none⟩) ms.length capm] 66)) wr ∧
      Hid (∀ q2, q2 < q → q2 + 1 < ms.length → ∀ r ∈ ms.getD (q2 + 1) [], ∀ x ∈ ap (ds.getD q2 0).toNat r (ms.getD q2 []), x = 0)) (fun i _ _ _ _ => ms.length - (intOf i - 1).toNat)
    case atStart => exact ⟨0, Nat.zero_le _, rfl, Below.refl _ _, Lib.hid (fun _ h => absurd h (Nat.not_lt_zero _))⟩
    case round =>
      obtain ⟨q, hq, rfl, hbel, HSQ⟩ := hrel
      have HBEL := Lib.hid hbel
      clear hbel
      have hbw : Below w.heap.size w wr := HB0.out.trans (HBEL.out.mono (Nat.le_succ _))
      have HBW := Lib.hid hbw
      clear hbw
      have c0 : wr.cell? ⟨w.heap.size, 0, none⟩ = some (.int .i64 p) := later HBEL.out (by simp) (by simp)
      have c1 : wr.cell? ⟨w.heap.size, 1, none⟩ = some (.slice (some ⟨bd, od, none⟩) ds.length capd) := later HBEL.out (by simp) (by simp)
      have c2 : wr.cell? ⟨w.heap.size, 2, none⟩ = some (.slice (some ⟨bm, om, none⟩) ms.length capm) := later HBEL.out (by simp) (by simp)
      by_cases hlt : q + 1 < ms.length
      · obtain ⟨u1, hu1, hr1⟩ := HC.out (q + 1) hlt
        obtain ⟨u0, hu0, hr0⟩ := HC.out q (by omega)
        obtain ⟨ud, hud, hrd⟩ := HD.out q (by have := hmlen.out; omega)
        have hu1' : wr.cell? ⟨bm, om + (q + 1), none⟩ = some u1 := later HBW.out (Nat.le_refl _) hu1
        have hu0' : wr.cell? ⟨bm, om + q, none⟩ = some u0 := later HBW.out (Nat.le_refl _) hu0
        have hud' : wr.cell? ⟨bd, od + q, none⟩ = some ud := later HBW.out (Nat.le_refl _) hud
        have hdim := OK.out.dim q
        have hql : q < ds.length := by have := hmlen.out; omega
        obtain ⟨c, hc⟩ := Int.eq_ofNat_of_zero_le hdim.1
        have hc8 : c ≤ 32 := by omega
        have hud2 : wr.cell? ⟨bd, od + q, none⟩ = some (.int .i64 (c : Int)) := by rw [hud', hrd, ← getD_of_lt 0 hql, hc]
        have HCC : Hid ((ds.getD q 0).toNat = c) := Lib.hid (by omega)
        have htab := OK.out.tabs (q + 1) hlt
        rw [getD_of_lt _ hlt] at htab
        have htl : (ms[q + 1]).length ≤ 32 := by have := htab.1; have := OK.out.dim (q + 1 + 1); omega
        have hrl : ∀ r ∈ ms[q + 1], r.length ≤ 32 := fun r hr => by have := htab.2 r hr; have := OK.out.dim (q + 1); omega
        have HRL := Lib.hid hrl
        have HR1 := Lib.hid hr1
        have HR0 := Lib.hid hr0
        have HNEXT : Hid ((∀ r ∈ ms[q + 1], ∀ x ∈ ap c r (ms.getD q []), x = 0) → ∀ q2, q2 < q + 1 → q2 + 1 < ms.length → ∀ r ∈ ms.getD (q2 + 1) [], ∀ x ∈ ap (ds.getD q2 0).toNat r (ms.getD q2 []), x = 0) := Lib.hid (fun hall q2 hq2 hlt2 => by
          by_cases e : q2 = q
          · subst e
            rw [HCC.out, getD_of_lt _ hlt]
            exact hall
          · exact HSQ.out q2 (by omega) hlt2)
        obtain ⟨t1, ht1⟩ : ∃ t1, t1 = ms[q + 1] := ⟨_, rfl⟩
        have HT1 := Lib.hid ht1
        rw [← ht1] at htl
        have HR1' : Hid (L2 0 w u1 t1) := Lib.hid (by rw [ht1]; exact HR1.out)
        have HNEXT' : Hid ((∀ j (hj : j < t1.length), ∀ x ∈ ap c t1[j] (ms.getD q []), x = 0) → ∀ q2, q2 < q + 1 → q2 + 1 < ms.length → ∀ r ∈ ms.getD (q2 + 1) [], ∀ x ∈ ap (ds.getD q2 0).toNat r (ms.getD q2 []), x = 0) := Lib.hid (fun hall => HNEXT.out (fun r hr => by
          rw [← ht1] at hr
          obtain ⟨j, hj, rfl⟩ := List.getElem_of_mem hr
          exact hall j hj))
        have HAP : Hid (∀ j (hj : j < t1.length), Ok c t1[j] (ms.getD q [])) := Lib.hid (fun j hj => by
          have := HOK'.out q hlt t1[j] (by rw [getD_of_lt _ hlt, ← ht1]; exact List.getElem_mem _)
          rwa [HCC.out] at this)
        have HNOT : Hid (∀ j (hj : j < t1.length), ¬ (∀ x ∈ ap c t1[j] (ms.getD q []), x = 0) → ¬ SqB ap ds ms) := Lib.hid (fun j hj hne hs => hne (by
          have := hs q hlt t1[j] (by rw [getD_of_lt _ hlt, ← ht1]; exact List.getElem_mem _)
          rwa [HCC.out] at this))
        have HRLL : Hid (∀ j (hj : j < t1.length), (t1[j]).length ≤ 1048576) := Lib.hid (fun j hj => by have := HRL.out t1[j] (by rw [← ht1]; exact List.getElem_mem _); omega)
        have HR0' : Hid (L2 0 w u0 (ms.getD q [])) := Lib.hid (by rw [getD_of_lt _ (by omega)]; exact HR0.out)
        obtain ⟨t0, ht0⟩ : ∃ t0, t0 = ms.getD q [] := ⟨_, rfl⟩
        rw [← ht0] at HNEXT' HAP HNOT HR0'
        have HU0 := Lib.hid hu0
        have HUD : Hid (w.cell? ⟨bd, od + q, none⟩ = some (.int .i64 (c : Int))) := Lib.hid (by rw [hud, hrd, ← getD_of_lt 0 hql, hc])
        clear hu1 hu0 hud hr1 hr0 hrd hud' hdim hc htab hrl ht1 HR1 HR0 HNEXT HRL ht0 HCC
        refine Sl.cases HR1'.out (fun ad1 cap1 hx1 hv1 => ?_) (fun b1 o1 cap1 hv1 _ hpos1 hcl1 => ?_)
        · subst hv1
          have HX1 := Lib.hid hx1
          clear hx1
          go_wp2
          refine wp_loop_rounds 1 ?_
          rw [rounds_succ]
          go_wp2
          go_roundw
          case rel => exact ⟨q + 1, by omega, by go_num, HBEL.out, Lib.hid (HNEXT'.out (fun j hj => absurd hj (by rw [HX1.out]; simp)))⟩
          case measure => simp [intOf]; omega
        · subst hv1
          have HC1 := Lib.hid hcl1
          clear hcl1
          have hdec : decide ((q : Int) + 1 < (ms.length : Int)) = true := by simp; omega
          obtain ⟨wo, hwo⟩ : ∃ wo : World, wo = wr := ⟨_, rfl⟩
          have HWO := Lib.hid hwo
          clear hwo
          go_wp2
          go_loopw [5, 6, 20] (fun _ _ i wr => ∃ (j : Nat), j ≤ t1.length ∧ i = .int .i64 j ∧ Below (w.heap.size + 1) (w.alloc (.cells #[.int .i64 p, .slice (some ⟨bd, od, none⟩) ds.length capd, .slice (some ⟨bm, om, none⟩) ms.length capm] 66)) wr ∧
            Hid (∀ j2 (hj : j2 < t1.length), j2 < j → ∀ x ∈ ap c t1[j2] t0, x = 0)) (fun _ _ i _ => t1.length - (intOf i).toNat)
          case atStart => exact ⟨0, Nat.zero_le _, rfl, HBEL.out, Lib.hid (fun _ _ h => absurd h (Nat.not_lt_zero _))⟩
          case round =>
            clear c0 c1 c2 hu1' hu0' hud2
            obtain ⟨j, hj, rfl, hbel2, HJ⟩ := hrel
            have HBEL2 := Lib.hid hbel2
            clear hbel2
            have HBW2 := Lib.hid (HB0.out.trans (HBEL2.out.mono (Nat.le_succ _)))
            have c0 : wr.cell? ⟨w.heap.size, 0, none⟩ = some (.int .i64 p) := later HBEL2.out (by simp) (by simp)
            have c1 : wr.cell? ⟨w.heap.size, 1, none⟩ = some (.slice (some ⟨bd, od, none⟩) ds.length capd) := later HBEL2.out (by simp) (by simp)
            have c2 : wr.cell? ⟨w.heap.size, 2, none⟩ = some (.slice (some ⟨bm, om, none⟩) ms.length capm) := later HBEL2.out (by simp) (by simp)
            by_cases hltj : j < t1.length
            · obtain ⟨u2, hu2, hr2⟩ := HC1.out j hltj
              have hu2' : wr.cell? ⟨b1, o1 + j, none⟩ = some u2 := later HBW2.out (Nat.le_refl _) hu2
              have hu0' : wr.cell? ⟨bm, om + q, none⟩ = some u0 := later HBW2.out (Nat.le_refl _) HU0.out
              have hud2 : wr.cell? ⟨bd, od + q, none⟩ = some (.int .i64 (c : Int)) := later HBW2.out (Nat.le_refl _) HUD.out
              have HR2 := Lib.hid hr2
              clear hu2 hr2
              have hql' : q < ms.length := by omega
              go_wp2
              have hw1 : IntKind.i64.wrap ((q : Int) + 1 - 1) = (q : Int) := by rw [show (q : Int) + 1 - 1 = q by omega]; exact IntWalk.i64_in _ (by omega)
              have hw2 : IntKind.i64.wrap (q : Int) = (q : Int) := IntWalk.i64_in _ (by omega)
              have hq0 : (0 : Int) ≤ (q : Int) := by omega
              have hq1 : (q : Int) < (ms.length : Int) := by omega
              have hq2 : (q : Int) < (ds.length : Int) := by omega
              go_still_tail 15, (by kernel_rfl)
              change wpList _ _ _ _ _ wr.drew
              clear hw1 hw2 hq0 hq1 hq2
              have HBD := Lib.hid (HBW2.out.drew)
              have hall := HAP.out j hltj
              have hlen : (ap c t1[j] t0).length ≤ 40 := by rw [HLEN'.out _ _ _ hall]; omega
              have HALLJ := Lib.hid hall
              have HLEN := Lib.hid hlen
              clear hall hlen
              go_wp2_with fail
              refine (HCALL.out c u2 u0 t1[j] t0 _ HALLJ.out (HR2.out.below HBD.out) (HR0'.out.below HBD.out) (HRLL.out j hltj) (by omega)).mono ?_
              rintro e w1 ⟨u, rfl, hru, hb1⟩
              have HRU := Lib.hid hru
              have HB1 := Lib.hid (HBEL2.out.drew.trans (hb1.mono (by have := HBEL2.out.size; simp at this; simp; omega)))
              clear hru hb1
              go_wp2_with fail
              refine (vectorOf_any u (ap c t1[j] t0) _ (HRU.out.lower (Nat.zero_le _)) HLEN.out).mono ?_
              rintro e w2 ⟨rfl, hb2⟩
              have HB2 := Lib.hid (HB1.out.trans (hb2.mono (by have := HB1.out.size; simp at this; omega)))
              have HB2W := Lib.hid (HB0.out.trans (HB2.out.mono (Nat.le_succ _)))
              clear hb2
              have hneq := neq_zero HLEN.out
              by_cases hz : ∀ x ∈ ap c t1[j] t0, x = 0
              · rw [decide_eq_true hz] at hneq
                have HZ := Lib.hid hz
                clear hz
                go_wp2
                go_roundw
                case rel => exact ⟨j + 1, by omega, by go_num, HB2.out, Lib.hid (fun j2 hj2 hlt2 => by
                  by_cases e : j2 = j
                  · subst e; exact HZ.out
                  · exact HJ.out j2 hj2 (by omega))⟩
                case measure => simp [intOf]; omega
              · rw [decide_eq_false hz] at hneq
                have HZ := Lib.hid hz
                clear hz
                go_wp2
                go_ret
                exact bb_false HB2W.out (HNOT.out j hltj HZ.out)
            · go_wp2
              go_roundw
              case rel => exact ⟨q + 1, by omega, by go_num, HBEL2.out, Lib.hid (HNEXT'.out (fun j2 hj2 => HJ.out j2 hj2 (by omega)))⟩
              case measure => simp [intOf]; omega
      · go_wp2
        go_ret
        exact bb_true HBW.out (fun q2 hq2 => HSQ.out q2 (by omega) hq2)
end Go.Proofs.YtlopenephgabhaaGreat


namespace Go.Proofs.YtlopenephgabhaaGreat
open Go.RowKit

set_option maxRecDepth 100000 in
set_option maxHeartbeats 4000000 in
theorem hasCells_any (p : Int) (dv av vv : Value) (ds : List (List Int)) (ac dn : List (List (List (List Int)))) (w : World) (h : Dx 0 w dv av vv ds ac dn) (hd : Bd2 1048576 ds) :
    Calls Tryz.prog 65 #[.agg #[.int .i64 p, dv, av, vv]] w (BB (IsP p ∧ DclOk ds) w) := by
  have HD := Lib.hid hd
  have hm0 : ds.length ≤ 1048576 := hd.1
  clear hd
  have hx0 := DBx.start (p := p) 29 h
  obtain ⟨ad, cd, rfl⟩ := Sl.shape h.dims
  clear h
  obtain ⟨m, hm⟩ : ∃ m, m = ds.length := ⟨_, rfl⟩
  have HM := Lib.hid hm
  rw [← hm] at hx0 hm0 ⊢
  clear hm
  obtain ⟨w1, hw1⟩ : ∃ w1, w1 = w.alloc (.cells #[.int .i64 p, .slice ad m cd, av, vv] 29) := ⟨_, rfl⟩
  rw [← hw1] at hx0
  have HX1 := Lib.hid hx0
  have c0 := hx0.c0
  have c1 := hx0.c1
  have c2 := hx0.c2
  have c3 := hx0.c3
  clear hx0
  by_cases hp : IsP p
  · have HP := Lib.hid hp
    have hp0 := hp.lo
    have hp1 := hp.hi
    clear hp
    go_enter Tryz.func65, Tryz.ntmps65
    go_upto_region 1 with fail
    rw [← hw1]
    clear hw1
    go_wp2_with fail
    refine (prime_yes HP.out _).mono ?_
    rintro e w' ⟨rfl, rfl⟩
    go_wp2_with fail
    refine (widthOf_any p _ _ _ ds _ HX1.out.dx.dims).mono ?_
    rintro e w2 ⟨rfl, hb2⟩
    rw [← HM.out]
    have HX2 := Lib.hid (HX1.out.next hb2)
    clear HX1 hb2 c0 c1 c2 c3
    have c0 := HX2.out.c0
    have c1 := HX2.out.c1
    have c2 := HX2.out.c2
    have c3 := HX2.out.c3
    by_cases hw : 1 ≤ m ∧ m ≤ 4
    · go_wp2_with fail
      refine (in_yes (by omega) _).mono ?_
      rintro e w' ⟨rfl, rfl⟩
      go_wp2_with fail
      refine (heightOf_any p _ _ _ ds _ HX2.out.dx.dims (by rw [← HM.out]; exact hw.1)).mono ?_
      rintro e w3 ⟨rfl, hb3⟩
      have HX3 := Lib.hid (HX2.out.next hb3)
      clear HX2 hb3 c0 c1 c2 c3
      have hq8 : (ds.getD 0 []).length ≤ 1048576 := by
        rw [getD_of_lt _ (by rw [← HM.out]; exact hw.1)]
        exact HD.out.2 _ (List.getElem_mem _)
      obtain ⟨q, hq⟩ : ∃ q, q = (ds.getD 0 []).length := ⟨_, rfl⟩
      have HQ := Lib.hid hq
      rw [← hq] at hq8 ⊢
      clear hq
      have c0 := HX3.out.c0
      have c1 := HX3.out.c1
      have c2 := HX3.out.c2
      have c3 := HX3.out.c3
      by_cases hh : 1 ≤ q ∧ q ≤ 4
      · go_wp2_with fail
        refine (in_yes (by omega) _).mono ?_
        rintro e w' ⟨rfl, rfl⟩
        go_wp2
        clear c0 c1 c2 c3
        go_loopw [26] (fun i wr => ∃ (k : Nat), k ≤ m ∧ i = .int .i64 k ∧ Hid (DBx w wr w.heap.size p (.slice ad m cd) av vv ds ac dn) ∧ Hid (∀ j (h1 : j < ds.length), j < k → (ds[j]).length = q ∧ AllIn 0 4 ds[j])) (fun i _ => m - (intOf i).toNat)
        case atStart => exact ⟨0, Nat.zero_le _, rfl, HX3, Lib.hid (fun _ _ h => absurd h (Nat.not_lt_zero _))⟩
        case round =>
          obtain ⟨k, hk, rfl, HX4, HC⟩ := hrel
          have c0 := HX4.out.c0
          have c1 := HX4.out.c1
          have c2 := HX4.out.c2
          have c3 := HX4.out.c3
          by_cases hlt : k < m
          · have hlt' : k < ds.length := by rw [← HM.out]; exact hlt
            have hL := HX4.out.dx.dims
            rcases hL with ⟨hx, _⟩ | ⟨b, o, c2', hv, _, _, hcl⟩
            · exact absurd (hx ▸ hlt') (Nat.not_lt_zero _)
            injection hv with e1 e2 e3
            subst e1 e3
            obtain ⟨ur, hur, hrr⟩ := hcl k hlt'
            have HRR := Lib.hid hrr
            have hy8 : (ds[k]).length ≤ 1048576 := HD.out.2 _ (List.getElem_mem hlt')
            obtain ⟨ys, hy⟩ : ∃ ys, ys = ds[k] := ⟨_, rfl⟩
            have HY := Lib.hid hy
            rw [← hy] at hy8
            have HRR' : Hid (L1 0 wr ur ys) := Lib.hid (by rw [hy]; exact hrr)
            clear hrr hcl e2 hy HRR
            obtain ⟨ar, cr, rfl⟩ := Sl.shape HRR'.out
            have HSTEP : Hid ((ys.length = q ∧ AllIn 0 4 ys) → ∀ j (h1 : j < ds.length), j < k + 1 → (ds[j]).length = q ∧ AllIn 0 4 ds[j]) := Lib.hid (fun hy2 j h1 h2 => by
              by_cases e : j = k
              · subst e; rw [← HY.out]; exact hy2
              · exact HC.out j h1 (by omega))
            have HNO : Hid (¬ (ys.length = q ∧ AllIn 0 4 ys) → ¬ (IsP p ∧ DclOk ds)) := Lib.hid (fun hn hok => hn (by rw [HY.out, HQ.out]; exact hok.2.col _ (List.getElem_mem hlt')))
            clear HY HC
            go_wp2_with fail
            refine (heightOf_any p _ _ _ ds _ HX4.out.dx.dims (by rw [← HM.out]; exact hw.1)).mono ?_
            rintro e w5 ⟨rfl, hb5⟩
            rw [← HQ.out]
            have HX5 := Lib.hid (HX4.out.next hb5)
            have HRR5 : Hid (L1 0 w5 _ ys) := Lib.hid (HRR'.out.below hb5)
            clear HX4 hb5 HRR' c0 c1 c2 c3 hur
            by_cases hlq : ys.length = q
            · rw [hlq] at HRR5 ⊢
              have hq1 : ((q : Int) != (q : Int)) = false := by simp
              go_wp2
              clear hq1
              go_loopw [37] (fun i wr2 => ∃ (t : Nat), t ≤ q ∧ i = .int .i64 t ∧ wr2 = w5 ∧ Hid (∀ j (h1 : j < ys.length), j < t → 0 ≤ ys[j] ∧ ys[j] ≤ 4)) (fun i _ => q - (intOf i).toNat)
              case atStart => exact ⟨0, Nat.zero_le _, rfl, rfl, Lib.hid (fun _ _ h => absurd h (Nat.not_lt_zero _))⟩
              case round =>
                obtain ⟨t, ht, rfl, rfl, HT⟩ := hrel
                by_cases hlt2 : t < q
                · have hlt2' : t < ys.length := by rw [hlq]; exact hlt2
                  rcases HRR5.out with ⟨hx, _⟩ | ⟨b2, o2, c3', hv2, _, _, hcl2⟩
                  · exact absurd (hx ▸ hlt2') (Nat.not_lt_zero _)
                  injection hv2 with e1 e2 e3
                  subst e1 e3
                  obtain ⟨un, hun, hui⟩ := hcl2 t hlt2'
                  have hui' : un = .int .i64 (ys[t]) := hui
                  subst hui'
                  obtain ⟨z, hz⟩ : ∃ z, z = ys[t] := ⟨_, rfl⟩
                  rw [← hz] at hun
                  clear hui hcl2 e2
                  have HZ := Lib.hid hz
                  clear hz
                  by_cases hzi : 0 ≤ z ∧ z ≤ 4
                  · go_wp2_with fail
                    refine (in_yes hzi _).mono ?_
                    rintro e w' ⟨rfl, rfl⟩
                    go_wp2
                    go_roundw
                    case rel => exact ⟨t + 1, by omega, by go_num, by simp, Lib.hid (fun j h1 h2 => by
                      by_cases e : j = t
                      · subst e; rw [← HZ.out]; exact hzi
                      · exact HT.out j h1 (by omega))⟩
                    case measure => simp [intOf]; omega
                  · go_wp2_with fail
                    refine (in_no hzi _).mono ?_
                    rintro e w' ⟨rfl, rfl⟩
                    go_wp2
                    go_ret
                    exact bb_false HX5.out.below (HNO.out (fun h => hzi (by rw [HZ.out]; exact h.2 _ (List.getElem_mem hlt2'))))
                · obtain rfl : t = q := by omega
                  go_wp2
                  go_roundw
                  case rel => exact ⟨k + 1, by omega, by go_num, HX5, Lib.hid (HSTEP.out ⟨hlq, all_of_lt (fun j hj => HT.out j hj (by omega))⟩)⟩
                  case measure => simp [intOf]; omega
            · have hq1 : ((ys.length : Int) != (q : Int)) = true := by have hz : (ys.length : Int) ≠ (q : Int) := (by omega); simp [hz]
              go_wp2
              go_ret
              exact bb_false HX5.out.below (HNO.out (fun h => hlq h.1))
          · obtain rfl : k = m := by omega
            have HOK : Hid (IsP p ∧ DclOk ds) := Lib.hid ⟨HP.out, ⟨by rw [← HM.out]; exact hw.1, by rw [← HM.out]; exact hw.2, by rw [← HQ.out]; exact hh.1, by rw [← HQ.out]; exact hh.2, by
              rw [← HQ.out]
              exact all_of_lt (fun j hj => HC.out j hj (by rw [HM.out]; exact hj))⟩⟩
            clear HC
            go_wp2
            go_ret
            exact bb_true HX4.out.below HOK.out
      · go_wp2_with fail
        refine (in_no (by omega) _).mono ?_
        rintro e w' ⟨rfl, rfl⟩
        go_wp2
        go_ret
        exact bb_false HX3.out.below (fun hok => hh (by rw [HQ.out]; exact ⟨hok.2.h0, hok.2.h1⟩))
    · go_wp2_with fail
      refine (in_no (by omega) _).mono ?_
      rintro e w' ⟨rfl, rfl⟩
      go_wp2
      go_ret
      exact bb_false HX2.out.below (fun hok => hw (by rw [HM.out]; exact ⟨hok.2.len0, hok.2.len1⟩))
  · have HP := Lib.hid hp
    clear hp
    go_enter Tryz.func65, Tryz.ntmps65
    go_upto_region 1 with fail
    rw [← hw1]
    clear hw1
    go_wp2_with fail
    refine (prime_no HP.out _).mono ?_
    rintro e w' ⟨rfl, rfl⟩
    go_wp2
    go_ret
    exact bb_false HX1.out.below (fun h => HP.out h.1)
end Go.Proofs.YtlopenephgabhaaGreat


namespace Go.Proofs.YtlopenephgabhaaGreat
open Go.RowKit

/-- What a double complex is. -/
structure IsDb (p : Int) (ds : List (List Int)) (ac dn : List (List (List (List Int)))) : Prop where
  prime : IsP p
  cel : DclOk ds
  tbs : TbsOk p ds ac dn
  cnd : CndOk p ds ac dn

theorem one_le {α : Type} (a : α) : ∀ l : List α, l.Nodup → (∀ x ∈ l, x = a) → l.length ≤ 1
  | [], _, _ => by simp
  | [_], _, _ => by simp
  | x :: y :: l, hn, h => by
    have h1 := h x (by simp)
    have h2 := h y (by simp)
    have := (List.nodup_cons.1 hn).1
    exact absurd (by rw [h1, h2]; simp) this
theorem dgn_four {ds : List (List Int)} (hok : DclOk ds) (n : Nat) : (dgn ds n).length ≤ 4 := by
  have h : ∀ m, m ≤ ds.length → ((cellsTo ds m).filter (onD n)).length ≤ m := by
    intro m
    induction m with
    | zero => intro _; simp [cellsTo]
    | succ m ih =>
      intro hm
      rw [cellsTo_succ, List.filter_append, List.length_append]
      have h1 := ih (by omega)
      have h2 := one_le (m, n - m) ((rowCells ds m).filter (onD n)) (by
        have h0 := cells_nodup ds (m + 1)
        rw [cellsTo_succ] at h0
        exact ((List.nodup_append.1 h0).2.1).filter _) (fun x hx => by
        obtain ⟨hx1, hx2⟩ := List.mem_filter.1 hx
        unfold rowCells at hx1
        obtain ⟨j, _, rfl⟩ := List.mem_map.1 hx1
        simp [onD] at hx2
        ext
        · rfl
        · show j = n - m; omega)
      omega
  have h3 := h ds.length (Nat.le_refl _)
  have := hok.len1
  exact Nat.le_trans h3 this
theorem tdim_16 {ds : List (List Int)} (hok : DclOk ds) (s : Nat) : tdim ds s ≤ 16 := by
  have h := sum_le4 (cdim ds) (dgn ds s) (fun c hc => (cdim_cast hok (mem_cells.2 (mem_dgn.1 hc).1)).2)
  have h2 := dgn_four hok s
  unfold tdim
  omega
theorem tot_sz {p : Int} {ds : List (List Int)} {ac dn : List (List (List (List Int)))} (hp : IsP p) (hok : DclOk ds) (ht : TbsOk p ds ac dn) : SzBk (tD ds) (tM ds ac dn) := by
  have h1 := hok.len0
  have h2 := hok.len1
  have h3 := hok.h0
  have h4 := hok.h1
  refine ⟨by rw [tD_len]; omega, by rw [tD_len]; unfold ttop; omega, by rw [tD_len, tM_len], fun d hd => ?_, fun k hk => ?_⟩
  · obtain ⟨s, _, rfl⟩ := List.mem_map.1 hd
    have := tdim_16 hok s
    omega
  · rw [tM_len] at hk
    rw [tM_at hk, tD_at (by omega), tD_at (by omega)]
    have := ttab_ok hp hok ht k
    exact ⟨this.1, fun x hx => (this.2 x hx).1⟩
theorem cell_top {ds : List (List Int)} (hok : DclOk ds) {c : Nat × Nat} {n : Nat} (h : c ∈ dgn ds n) : n ≤ ttop ds := by
  obtain ⟨⟨h1, h2⟩, h3⟩ := mem_dgn.1 h
  rw [getD_of_lt _ h1, (hok.col _ (List.getElem_mem h1)).1] at h2
  have := hok.h0
  unfold ttop
  omega
theorem tot_sq {p : Int} {ds : List (List Int)} {ac dn : List (List (List (List Int)))} (hp : IsP p) (hok : DclOk ds) (ht : TbsOk p ds ac dn) : SqB (apT p) (tD ds) (tM ds ac dn) ↔ CndOk p ds ac dn := by
  rw [← square_iff hp hok ht]
  have e : ∀ q, q < ttop ds + 1 → ((tD ds).getD q 0).toNat = tdim ds q := fun q hq => by rw [tD_at hq]; simp
  constructor
  · intro h q f r hf hr
    have hq := cell_top hok hf
    have := h q (by rw [tM_len]; omega) (trow ds ac dn (q + 1) f r) (by
      rw [tM_at (by omega)]
      unfold ttab
      exact List.mem_flatMap.2 ⟨f, hf, List.mem_map.2 ⟨r, List.mem_range.2 hr, rfl⟩⟩)
    rwa [e q (by omega), tM_at (by omega)] at this
  · intro h q hq x hx
    rw [tM_len] at hq
    rw [tM_at (by omega)] at hx
    obtain ⟨f, r, hf, hr, rfl⟩ := ttab_mem hx
    rw [e q (by omega), tM_at (by omega)]
    exact h q f r hf hr
theorem tot_apo {p : Int} {ds : List (List Int)} {ac dn : List (List (List (List Int)))} (hp : IsP p) (hok : DclOk ds) (ht : TbsOk p ds ac dn) : ∀ q, q + 1 < (tM ds ac dn).length → ∀ r ∈ (tM ds ac dn).getD (q + 1) [], ApOk p ((tD ds).getD q 0).toNat r ((tM ds ac dn).getD q []) := by
  intro q hq x hx
  rw [tM_len] at hq
  rw [tM_at (by omega)] at hx
  obtain ⟨f, r, hf, hr, rfl⟩ := ttab_mem hx
  rw [tM_at (by omega), tD_at (by omega), Int.toNat_natCast]
  exact tot_ap hp hok ht (mem_cells.2 (mem_dgn.1 hf).1) hr q
theorem RwC.cx {lo hi : Nat} {W : World} {u : Value} {p : Int} {ds : List Int} {ms : List (List (List Int))} (h : RwC lo hi W u (p, ds, ms)) : ∃ ad cd am cm, u = .agg #[.int .i64 p, .slice ad ds.length cd, .slice am ms.length cm] ∧ Cx 0 W (.slice ad ds.length cd) (.slice am ms.length cm) ds ms := by
  obtain ⟨ad, cd, am, cm, rfl, h1, _⟩ := h
  exact ⟨ad, cd, am, cm, rfl, h1.1.l1.lower (Nat.zero_le _), h1.2.l3.lower (Nat.zero_le _)⟩

set_option maxRecDepth 100000 in
set_option maxHeartbeats 4000000 in
theorem isDouble_any (p : Int) (dv av vv : Value) (ds : List (List Int)) (ac dn : List (List (List (List Int)))) (w : World) (h : Dx 0 w dv av vv ds ac dn) (hbd : Bd2 1048576 ds) (hba : Bd4 1048576 ac) (hbv : Bd4 1048576 dn) :
    Calls Tryz.prog 45 #[.agg #[.int .i64 p, dv, av, vv]] w (BB (IsDb p ds ac dn) w) := by
  have HX0 := Lib.hid (DBx.start (p := p) 29 h)
  have HBD := Lib.hid hbd
  have HBA := Lib.hid hba
  have HBV := Lib.hid hbv
  clear h hbd hba hbv
  go_enter Tryz.func45, Tryz.ntmps45
  go_wp2_with fail
  refine (hasCells_any p dv av vv ds ac dn _ HX0.out.dx HBD.out).mono ?_
  rintro e w' ⟨b1, rfl, hb1, hbb1⟩
  have HX1 := Lib.hid (HX0.out.next hb1)
  have HBB := Lib.hid hbb1
  clear hb1 hbb1 HX0
  have c0 := HX1.out.c0
  have c1 := HX1.out.c1
  have c2 := HX1.out.c2
  have c3 := HX1.out.c3
  cases b1
  · go_wp2
    go_ret
    exact ⟨false, rfl, HX1.out.below, ⟨fun h => (by cases h), fun h => absurd (HBB.out.2 ⟨h.prime, h.cel⟩) (by simp)⟩⟩
  · have HPC := Lib.hid (HBB.out.1 (by simp))
    clear HBB
    go_wp2_with fail
    refine (hasTables_any p dv av vv ds ac dn _ HX1.out.dx HPC.out.1 HPC.out.2 HBA.out HBV.out).mono ?_
    rintro e w' ⟨b2, rfl, hb2, hbb2⟩
    have HX2 := Lib.hid (HX1.out.next hb2)
    have HBB2 := Lib.hid hbb2
    clear hb2 hbb2 HX1 c0 c1 c2 c3
    have c0 := HX2.out.c0
    have c1 := HX2.out.c1
    have c2 := HX2.out.c2
    have c3 := HX2.out.c3
    cases b2
    · go_wp2
      go_ret
      exact ⟨false, rfl, HX2.out.below, ⟨fun h => (by cases h), fun h => absurd (HBB2.out.2 h.tbs) (by simp)⟩⟩
    · have HTB := Lib.hid (HBB2.out.1 (by simp))
      clear HBB2
      go_wp2_with fail
      refine (totalComplex_any p HPC.out.1 dv av vv ds ac dn _ HX2.out.dx HPC.out.2 HTB.out).mono ?_
      rintro e w' ⟨u, rfl, hrc, hb3⟩
      obtain ⟨ad, cd, am, cm, rfl, hcx⟩ := hrc.cx
      have HX3 := Lib.hid (HX2.out.next hb3)
      have HSQ : Hid (∀ W, Cx 0 W (.slice ad (tD ds).length cd) (.slice am (tM ds ac dn).length cm) (tD ds) (tM ds ac dn) → Calls Tryz.prog 67 #[.agg #[.int .i64 p, .slice ad (tD ds).length cd, .slice am (tM ds ac dn).length cm]] W (BB (SqB (apT p) (tD ds) (tM ds ac dn)) W)) := Lib.hid (fun W hc =>
        squaresB_any p (apT p) (ApOk p) (fun c v t ok => apT_length ok) (fun c va vt v t w ok ha hv hvl hc => applyTable_any p c va vt v t w ok ha hv hvl hc) _ _ _ _ W hc (tot_sz HPC.out.1 HPC.out.2 HTB.out) (tot_apo HPC.out.1 HPC.out.2 HTB.out))
      have HCX := Lib.hid hcx
      obtain ⟨l1, hl1⟩ : ∃ l, l = (tD ds).length := ⟨_, rfl⟩
      obtain ⟨l2, hl2⟩ : ∃ l, l = (tM ds ac dn).length := ⟨_, rfl⟩
      rw [← hl1, ← hl2] at HSQ HCX ⊢
      clear hcx hrc hb3 hl1 hl2 c0 c1 c2 c3 HX2
      go_wp2_with fail
      refine (HSQ.out _ HCX.out).mono ?_
      rintro e w' ⟨b3, rfl, hb4, hbb3⟩
      have HX4 := Lib.hid (HX3.out.next hb4)
      have HBB3 := Lib.hid hbb3
      clear hb4 hbb3 HX3
      go_wp2
      go_ret
      exact ⟨b3, rfl, HX4.out.below, HBB3.out.trans ((tot_sq HPC.out.1 HPC.out.2 HTB.out).trans ⟨fun h => ⟨HPC.out.1, HPC.out.2, HTB.out, h⟩, fun h => h.cnd⟩)⟩
end Go.Proofs.YtlopenephgabhaaGreat


namespace Go.Proofs.YtlopenephgabhaaGreat
open Go.RowKit

theorem l4_at {w : World} {av : Value} {ac : List (List (List (List Int)))} {i j : Nat} (h : L4 0 w av ac) (hi : i < ac.length) (hj : j < (ac[i]).length) :
    ∃ ba oa ca b2 o2 c2 u, av = .slice (some ⟨ba, oa, none⟩) ac.length ca ∧ w.cell? ⟨ba, oa + i, none⟩ = some (.slice (some ⟨b2, o2, none⟩) (ac[i]).length c2) ∧ w.cell? ⟨b2, o2 + j, none⟩ = some u ∧ L2 0 w u (ac[i])[j] := by
  rcases h with ⟨hx, _⟩ | ⟨ba, oa, ca, rfl, _, _, hcl⟩
  · exact absurd (hx ▸ hi) (Nat.not_lt_zero _)
  obtain ⟨u1, hu1, hr1⟩ := hcl i hi
  rcases hr1 with ⟨hx, _⟩ | ⟨b2, o2, c2, rfl, _, _, hcl2⟩
  · rw [hx] at hj; exact absurd hj (Nat.not_lt_zero _)
  obtain ⟨u2, hu2, hr2⟩ := hcl2 j hj
  exact ⟨ba, oa, ca, b2, o2, c2, u2, rfl, hu1, hu2, hr2⟩

set_option maxRecDepth 100000 in
set_option maxHeartbeats 4000000 in
theorem l03Step_out (b : Bool) (p i j : Int) (dv av vv va : Value) (ds : List (List Int)) (ac dn : List (List (List (List Int)))) (c : Nat) (w : World) (h : Dx 0 w dv av vv ds ac dn) (hok : DclOk ds) (hi : -1 ≤ i ∧ i ≤ 4) (hj : -1 ≤ j ∧ j ≤ 4)
    (hno : ¬ (0 ≤ i ∧ i < ds.length ∧ 0 ≤ j ∧ j < (ds.getD 0 []).length)) (hc : (if b = true then dco ds (i - 1) j else dco ds i (j - 1)) = (c : Int)) (hc4 : c ≤ 4) :
    Calls Tryz.prog 58 #[.agg #[.int .i64 p, dv, av, vv], .int .i64 i, .int .i64 j, va, .bool b] w fun e w' => ∃ u, e = .returned u ∧ L1 0 w' u (List.replicate c 0) ∧ Below w.heap.size w w' := by
  have hcel := hok
  have HOK := Lib.hid hok
  have hm4 := hok.len1
  have hm1 := hok.len0
  have hq1 := hok.h0
  have hq4 := hok.h1
  clear hok hcel
  have HX := Lib.hid h
  rcases h.dims with ⟨hx, _⟩ | ⟨bb, o, cd, rfl, _, hpos, hcl⟩
  · subst hx; simp at hm1
  obtain ⟨u0, hu0, hr0⟩ := hcl 0 hpos
  rw [Nat.add_zero] at hu0
  obtain ⟨a0, z0, rfl⟩ := Sl.shape hr0
  rw [← getD_of_lt [] hpos] at hu0
  clear hcl hr0 h
  obtain ⟨m, hm⟩ : ∃ m, m = ds.length := ⟨_, rfl⟩
  obtain ⟨q, hq⟩ : ∃ q, q = (ds.getD 0 []).length := ⟨_, rfl⟩
  have hx0 := DBx.start (p := p) 29 HX.out
  rw [← hm] at hm4 hm1 hpos hx0 ⊢
  rw [← hq] at hq1 hq4 hu0
  have hB : Below w.heap.size w (w.alloc (.cells #[.int .i64 p, .slice (some ⟨bb, o, none⟩) m cd, av, vv] 29)) := (Below.refl _ _).alloc (Nat.le_refl _) _
  have hu1 := later hB (Nat.le_refl _) hu0
  clear hB hu0
  obtain ⟨w1, hw1⟩ : ∃ w1, w1 = w.alloc (.cells #[.int .i64 p, .slice (some ⟨bb, o, none⟩) m cd, av, vv] 29) := ⟨_, rfl⟩
  rw [← hw1] at hx0 hu1
  have HM := Lib.hid hm
  have HQ := Lib.hid hq
  have HX1 := Lib.hid hx0
  have HU1 := Lib.hid hu1
  have HNX : Hid (∀ W, Below w1.heap.size w1 W → DBx w W w.heap.size p (.slice (some ⟨bb, o, none⟩) m cd) av vv ds ac dn ∧ W.cell? ⟨bb, o, none⟩ = some (.slice a0 q z0)) := Lib.hid (fun W hb => ⟨HX1.out.next hb, later hb (Nat.le_refl _) HU1.out⟩)
  have HDIM : Hid (∀ W, Below w1.heap.size w1 W → ∀ a e : Int, -1000 ≤ a ∧ a ≤ 1000 → -1000 ≤ e ∧ e ≤ 1000 → Calls Tryz.prog 37 #[.agg #[.int .i64 p, .slice (some ⟨bb, o, none⟩) m cd, av, vv], .int .i64 a, .int .i64 e] W fun r w' => r = .returned (.int .i64 (dco ds a e)) ∧ Below w1.heap.size w1 w') := Lib.hid (fun W hb a e ha he => by
    have h0 := (HNX.out W hb).1.dx.dims
    rw [HM.out] at h0 ⊢
    exact (l03Dim_any p a e _ av vv ds W h0 HOK.out ha he).mono fun _ _ hh => ⟨hh.1, hb.trans (hh.2.mono hb.size)⟩)
  have c0 := hx0.c0
  have c1 := hx0.c1
  have c2 := hx0.c2
  have c3 := hx0.c3
  have wj : IntKind.i64.wrap (j - 1) = j - 1 := IntWalk.i64_in _ (by omega)
  have wi : IntKind.i64.wrap (i - 1) = i - 1 := IntWalk.i64_in _ (by omega)
  have wm : IntKind.i64.wrap ((m : Int) - 1) = (m : Int) - 1 := IntWalk.i64_in _ (by omega)
  have wq : IntKind.i64.wrap ((q : Int) - 1) = (q : Int) - 1 := IntWalk.i64_in _ (by omega)
  clear hm hq hx0 hu1
  cases b
  · have hce : dco ds i (j - 1) = (c : Int) := by simpa using hc
    have hmk := run_make_row' (P := Tryz.prog) 47 2 (.int .i64 0) 8 Tryz.underlying47 Tryz.infoI rfl .i64 .i64 c (by omega) (by omega)
    have HEND : Hid (∀ W, Below w1.heap.size w1 W → ∃ u, Ending.returned (Value.slice (some ⟨W.heap.size, 0, none⟩) c c) = .returned u ∧ L1 0 (W.alloc (.cells (madeCells #[.int .i64 0] c) 2)) u (List.replicate c 0) ∧ Below w.heap.size w (W.alloc (.cells (madeCells #[.int .i64 0] c) 2))) := Lib.hid (fun W hb => ⟨_, rfl, l1_zeros _ _, (HX1.out.below.trans (hb.mono HX1.out.below.size)).alloc (by have := HX1.out.below.size; have := hb.size; omega) _⟩)
    go_enter Tryz.func58, Tryz.ntmps58
    go_wp2_with fail
    rw [← hw1]
    refine (HDIM.out w1 (Below.refl _ _) i (j - 1) (by omega) (by omega)).mono ?_
    rintro r W1 ⟨rfl, hb1⟩
    obtain ⟨W2, hW2⟩ : ∃ W2, W2 = W1 := ⟨_, rfl⟩
    rw [← hW2] at hb1 ⊢
    clear c0 c1 c2 c3 hW2 hw1
    have hb2 := hb1
    clear hb1
    have HB2 := Lib.hid hb2
    have hnx2 := HNX.out W2 hb2
    have c0 := hnx2.1.c0
    have c1 := hnx2.1.c1
    have c2 := hnx2.1.c2
    have c3 := hnx2.1.c3
    have hu2 := hnx2.2
    clear hb2 hnx2
    rw [hce]
    clear hce
    by_cases h1 : 0 ≤ i ∧ i ≤ (m : Int) - 1
    · have h2 : ¬ (0 ≤ j ∧ j ≤ (q : Int) - 1) := fun h => hno ⟨h1.1, by have := HM.out; omega, h.1, by have := HQ.out; omega⟩
      have I1 : Hid (∀ W, Calls Tryz.prog 35 #[.int .i64 i, .int .i64 0, .int .i64 ((m : Int) - 1)] W (QW (.bool true) W)) := Lib.hid (fun W => spin_yes h1 W)
      have I2 : Hid (∀ W, Calls Tryz.prog 35 #[.int .i64 j, .int .i64 0, .int .i64 ((q : Int) - 1)] W (QW (.bool false) W)) := Lib.hid (fun W => spin_no h2 W)
      clear h1 h2
      go_wp2_with fail
      refine (I1.out _).mono ?_
      rintro e w' ⟨rfl, rfl⟩
      go_wp2_with fail
      refine (I2.out _).mono ?_
      rintro e w' ⟨rfl, rfl⟩
      go_wp2
      go_ret
      exact HEND.out _ HB2.out
    · have I1 : Hid (∀ W, Calls Tryz.prog 35 #[.int .i64 i, .int .i64 0, .int .i64 ((m : Int) - 1)] W (QW (.bool false) W)) := Lib.hid (fun W => spin_no h1 W)
      clear h1
      go_wp2_with fail
      refine (I1.out _).mono ?_
      rintro e w' ⟨rfl, rfl⟩
      go_wp2
      go_ret
      exact HEND.out _ HB2.out
  · have hce : dco ds (i - 1) j = (c : Int) := by simpa using hc
    have hmk := run_make_row' (P := Tryz.prog) 47 2 (.int .i64 0) 8 Tryz.underlying47 Tryz.infoI rfl .i64 .i64 c (by omega) (by omega)
    have HEND : Hid (∀ W, Below w1.heap.size w1 W → ∃ u, Ending.returned (Value.slice (some ⟨W.heap.size, 0, none⟩) c c) = .returned u ∧ L1 0 (W.alloc (.cells (madeCells #[.int .i64 0] c) 2)) u (List.replicate c 0) ∧ Below w.heap.size w (W.alloc (.cells (madeCells #[.int .i64 0] c) 2))) := Lib.hid (fun W hb => ⟨_, rfl, l1_zeros _ _, (HX1.out.below.trans (hb.mono HX1.out.below.size)).alloc (by have := HX1.out.below.size; have := hb.size; omega) _⟩)
    go_enter Tryz.func58, Tryz.ntmps58
    go_wp2_with fail
    rw [← hw1]
    refine (HDIM.out w1 (Below.refl _ _) i (j - 1) (by omega) (by omega)).mono ?_
    rintro r W1 ⟨rfl, hb1⟩
    clear c0 c1 c2 c3 hw1
    have HB1 := Lib.hid hb1
    have hnx1 := HNX.out W1 hb1
    have c0 := hnx1.1.c0
    have c1 := hnx1.1.c1
    have c2 := hnx1.1.c2
    have c3 := hnx1.1.c3
    have hu1 := hnx1.2
    clear hb1 hnx1
    go_wp2_with fail
    refine (HDIM.out W1 HB1.out (i - 1) j (by omega) (by omega)).mono ?_
    rintro r W2 ⟨rfl, hb2⟩
    clear c0 c1 c2 c3 hu1
    have HB2 := Lib.hid hb2
    have hnx2 := HNX.out W2 hb2
    have c0 := hnx2.1.c0
    have c1 := hnx2.1.c1
    have c2 := hnx2.1.c2
    have c3 := hnx2.1.c3
    have hu2 := hnx2.2
    clear hb2 hnx2
    rw [hce]
    clear hce
    by_cases h1 : 0 ≤ i ∧ i ≤ (m : Int) - 1
    · have h2 : ¬ (0 ≤ j ∧ j ≤ (q : Int) - 1) := fun h => hno ⟨h1.1, by have := HM.out; omega, h.1, by have := HQ.out; omega⟩
      have I1 : Hid (∀ W, Calls Tryz.prog 35 #[.int .i64 i, .int .i64 0, .int .i64 ((m : Int) - 1)] W (QW (.bool true) W)) := Lib.hid (fun W => spin_yes h1 W)
      have I2 : Hid (∀ W, Calls Tryz.prog 35 #[.int .i64 j, .int .i64 0, .int .i64 ((q : Int) - 1)] W (QW (.bool false) W)) := Lib.hid (fun W => spin_no h2 W)
      clear h1 h2
      go_wp2_with fail
      refine (I1.out _).mono ?_
      rintro e w' ⟨rfl, rfl⟩
      go_wp2_with fail
      refine (I2.out _).mono ?_
      rintro e w' ⟨rfl, rfl⟩
      go_wp2
      go_ret
      exact HEND.out _ HB2.out
    · have I1 : Hid (∀ W, Calls Tryz.prog 35 #[.int .i64 i, .int .i64 0, .int .i64 ((m : Int) - 1)] W (QW (.bool false) W)) := Lib.hid (fun W => spin_no h1 W)
      clear h1
      go_wp2_with fail
      refine (I1.out _).mono ?_
      rintro e w' ⟨rfl, rfl⟩
      go_wp2
      go_ret
      exact HEND.out _ HB2.out

set_option maxRecDepth 100000 in
set_option maxHeartbeats 4000000 in
theorem l03Step_in (b : Bool) (p i j : Int) (dv av vv va : Value) (ds : List (List Int)) (ac dn : List (List (List (List Int)))) (c : Nat) (v : List Int) (w : World) (h : Dx 0 w dv av vv ds ac dn) (hok : DclOk ds) (htb : TbsOk p ds ac dn) (hv : L1 0 w va v) (hv40 : v.length ≤ 40)
    (hin : 0 ≤ i ∧ i < ds.length ∧ 0 ≤ j ∧ j < (ds.getD 0 []).length) (hc : (if b = true then dco ds (i - 1) j else dco ds i (j - 1)) = (c : Int)) (hc4 : c ≤ 4) (hap : ApOk p c v (tbl (if b = true then ac else dn) (i.toNat, j.toNat))) :
    Calls Tryz.prog 58 #[.agg #[.int .i64 p, dv, av, vv], .int .i64 i, .int .i64 j, va, .bool b] w fun e w' => ∃ u, e = .returned u ∧ L1 0 w' u (apT p c v (tbl (if b = true then ac else dn) (i.toNat, j.toNat))) ∧ Below w.heap.size w w' := by
  have HAP := Lib.hid hap
  have HV1 := Lib.hid hv
  have HTB := Lib.hid htb
  have hi4 : i ≤ 4 := by have := hok.len1; omega
  have hj4 : j ≤ 4 := by have := hok.h1; omega
  obtain ⟨av0, vc0, hvs⟩ := Sl.shape hv
  obtain ⟨vn, hvn⟩ : ∃ n, n = v.length := ⟨_, rfl⟩
  rw [← hvn] at hvs
  clear hap hv htb hvn
  have hcel := hok
  have HOK := Lib.hid hok
  have hm4 := hok.len1
  have hm1 := hok.len0
  have hq1 := hok.h0
  have hq4 := hok.h1
  clear hok hcel
  have HX := Lib.hid h
  rcases h.dims with ⟨hx, _⟩ | ⟨bb, o, cd, rfl, _, hpos, hcl⟩
  · subst hx; simp at hm1
  obtain ⟨u0, hu0, hr0⟩ := hcl 0 hpos
  rw [Nat.add_zero] at hu0
  obtain ⟨a0, z0, rfl⟩ := Sl.shape hr0
  rw [← getD_of_lt [] hpos] at hu0
  clear hcl hr0 h
  obtain ⟨m, hm⟩ : ∃ m, m = ds.length := ⟨_, rfl⟩
  obtain ⟨q, hq⟩ : ∃ q, q = (ds.getD 0 []).length := ⟨_, rfl⟩
  have hx0 := DBx.start (p := p) 29 HX.out
  rw [← hm] at hm4 hm1 hpos hx0 ⊢
  rw [← hq] at hq1 hq4 hu0
  have hB : Below w.heap.size w (w.alloc (.cells #[.int .i64 p, .slice (some ⟨bb, o, none⟩) m cd, av, vv] 29)) := (Below.refl _ _).alloc (Nat.le_refl _) _
  have hu1 := later hB (Nat.le_refl _) hu0
  clear hB hu0
  obtain ⟨w1, hw1⟩ : ∃ w1, w1 = w.alloc (.cells #[.int .i64 p, .slice (some ⟨bb, o, none⟩) m cd, av, vv] 29) := ⟨_, rfl⟩
  rw [← hw1] at hx0 hu1
  have HM := Lib.hid hm
  have HQ := Lib.hid hq
  have HX1 := Lib.hid hx0
  have HU1 := Lib.hid hu1
  have HNX : Hid (∀ W, Below w1.heap.size w1 W → DBx w W w.heap.size p (.slice (some ⟨bb, o, none⟩) m cd) av vv ds ac dn ∧ W.cell? ⟨bb, o, none⟩ = some (.slice a0 q z0)) := Lib.hid (fun W hb => ⟨HX1.out.next hb, later hb (Nat.le_refl _) HU1.out⟩)
  have HDIM : Hid (∀ W, Below w1.heap.size w1 W → ∀ a e : Int, -1000 ≤ a ∧ a ≤ 1000 → -1000 ≤ e ∧ e ≤ 1000 → Calls Tryz.prog 37 #[.agg #[.int .i64 p, .slice (some ⟨bb, o, none⟩) m cd, av, vv], .int .i64 a, .int .i64 e] W fun r w' => r = .returned (.int .i64 (dco ds a e)) ∧ Below w1.heap.size w1 w') := Lib.hid (fun W hb a e ha he => by
    have h0 := (HNX.out W hb).1.dx.dims
    rw [HM.out] at h0 ⊢
    exact (l03Dim_any p a e _ av vv ds W h0 HOK.out ha he).mono fun _ _ hh => ⟨hh.1, hb.trans (hh.2.mono hb.size)⟩)
  have c0 := hx0.c0
  have c1 := hx0.c1
  have c2 := hx0.c2
  have c3 := hx0.c3
  have wj : IntKind.i64.wrap (j - 1) = j - 1 := IntWalk.i64_in _ (by omega)
  have wi : IntKind.i64.wrap (i - 1) = i - 1 := IntWalk.i64_in _ (by omega)
  have wm : IntKind.i64.wrap ((m : Int) - 1) = (m : Int) - 1 := IntWalk.i64_in _ (by omega)
  have wq : IntKind.i64.wrap ((q : Int) - 1) = (q : Int) - 1 := IntWalk.i64_in _ (by omega)
  clear hm hq hx0 hu1
  cases b
  · simp only [Bool.false_eq_true, if_false]
    subst hvs
    have hce : dco ds i (j - 1) = (c : Int) := by simpa using hc
    obtain ⟨i, rfl⟩ : ∃ a : Nat, i = (a : Int) := ⟨i.toNat, by omega⟩
    obtain ⟨j, rfl⟩ : ∃ a : Nat, j = (a : Int) := ⟨j.toNat, by omega⟩
    have himn : i < m := by have := HM.out; omega
    have hjqn : j < q := by have := HQ.out; omega
    have hia : i < dn.length := by rw [HTB.out.ld, ← HM.out]; exact himn
    have hja : j < (dn[i]).length := by have h1 := HTB.out.cd i (by rw [← HM.out]; exact himn); rw [getD_of_lt _ hia, getD_of_lt _ (show i < ds.length by rw [← HM.out]; exact himn), (HOK.out.col _ (List.getElem_mem _)).1, ← HQ.out] at h1; omega
    obtain ⟨ba, oa, ca, b2, o2, k2, ut, hva, hA1, hA2, hTl⟩ := l4_at HX1.out.dx.down hia hja
    subst hva
    have hTt : (dn[i])[j] = tbl dn (i, j) := by unfold tbl; dsimp only; rw [getD_of_lt _ hia, getD_of_lt _ hja]
    rw [hTt] at hTl
    obtain ⟨n1, hn1⟩ : ∃ n, n = dn.length := ⟨_, rfl⟩
    obtain ⟨n2, hn2⟩ : ∃ n, n = (dn[i]).length := ⟨_, rfl⟩
    rw [← hn1] at HX1 HNX HDIM c3 hw1 ⊢
    rw [← hn2] at hA1
    have hi1 : i < n1 := by omega
    have hj2 : j < n2 := by omega
    have HA1 := Lib.hid hA1
    have HA2 := Lib.hid hA2
    have HTL := Lib.hid hTl
    clear hn1 hn2 hA1 hA2 hTl hTt hia hja
    obtain ⟨ta, tc, hut⟩ := Sl.shape HTL.out
    obtain ⟨n3, hn3⟩ : ∃ n, n = (tbl dn (i, j)).length := ⟨_, rfl⟩
    rw [← hn3] at hut
    subst hut
    clear hn3
    have HAP2 : Hid (ApOk p c v (tbl dn (i, j))) := Lib.hid (by simpa using HAP.out)
    have hi0 : (0 : Int) ≤ (i : Int) := by omega
    have hj0 : (0 : Int) ≤ (j : Int) := by omega
    go_enter Tryz.func58, Tryz.ntmps58
    go_wp2_with fail
    rw [← hw1]
    refine (HDIM.out w1 (Below.refl _ _) i (j - 1) (by omega) (by omega)).mono ?_
    rintro r W1 ⟨rfl, hb1⟩
    obtain ⟨W2, hW2⟩ : ∃ W2, W2 = W1 := ⟨_, rfl⟩
    rw [← hW2] at hb1 ⊢
    clear c0 c1 c2 c3 hW2 hw1
    have hb2 := hb1
    clear hb1
    have HB2 := Lib.hid hb2
    have hnx2 := HNX.out W2 hb2
    have c0 := hnx2.1.c0
    have c1 := hnx2.1.c1
    have c2 := hnx2.1.c2
    have c3 := hnx2.1.c3
    have hu2 := hnx2.2
    clear hb2 hnx2
    rw [hce]
    clear hce
    have I1 : Hid (∀ W, Calls Tryz.prog 35 #[.int .i64 (i : Int), .int .i64 0, .int .i64 ((m : Int) - 1)] W (QW (.bool true) W)) := Lib.hid (fun W => spin_yes ⟨by omega, by omega⟩ W)
    have I2 : Hid (∀ W, Calls Tryz.prog 35 #[.int .i64 (j : Int), .int .i64 0, .int .i64 ((q : Int) - 1)] W (QW (.bool true) W)) := Lib.hid (fun W => spin_yes ⟨by omega, by omega⟩ W)
    go_wp2_with fail
    refine (I1.out _).mono ?_
    rintro e w' ⟨rfl, rfl⟩
    go_wp2_with fail
    refine (I2.out _).mono ?_
    rintro e w' ⟨rfl, rfl⟩
    go_upto_region 8 with fail
    refine wp_region_held (S := fun W => Below w1.heap.size w1 W) (by kernel_rfl) ?_
    have S0 : Below w1.heap.size w1 W2.drew := HB2.out.drew
    change wpAnyH _ _ _ _ _ _ _ _ W2.drew
    obtain ⟨wd, hwd⟩ : ∃ wd, wd = W2.drew := ⟨_, rfl⟩
    rw [← hwd] at S0 ⊢
    clear hwd
    refine held_take (i := 0) (v := .pointer (some ⟨w.heap.size, 0, none⟩)) (some 57) rfl rfl (by kernel_rfl) (by kernel_rfl) (by kernel_rfl) (fun _ _ _ h => h) (yieldsIf_run (by kernel_rfl) (fun W _ => by kernel_rfl)) S0 ?_
    refine held_take (i := 1) (v := .int .i64 p) (some 58) rfl rfl (by kernel_rfl) (by kernel_rfl) (by kernel_rfl) (fun _ _ _ h => h) (yieldsIf_cell (by kernel_rfl) rfl (by kernel_rfl) (fun W h => hloadIn W (HNX.out W h).1.c0)) S0 ?_
    refine held_take (i := 2) (v := .pointer (some ⟨w.heap.size, 3, none⟩)) (some 59) rfl rfl (by kernel_rfl) (by kernel_rfl) (by kernel_rfl) (fun _ _ _ h => h) (yieldsIf_run (by kernel_rfl) (fun W _ => by kernel_rfl)) S0 ?_
    refine held_take (i := 3) (v := .slice (some ⟨ba, oa, none⟩) n1 ca) (some 60) rfl rfl (by kernel_rfl) (by kernel_rfl) (by kernel_rfl) (fun _ _ _ h => h) (yieldsIf_cell (by kernel_rfl) rfl (by kernel_rfl) (fun W h => hload4 W (HNX.out W h).1.c3)) S0 ?_
    refine held_take (i := 4) (v := .int .i64 (i : Int)) (some 61) rfl rfl (by kernel_rfl) (by kernel_rfl) (by kernel_rfl) (fun _ _ _ h => h) (yieldsIf_move (by kernel_rfl) rfl (by kernel_rfl)) S0 ?_
    refine held_take (i := 5) (v := .pointer (some ⟨ba, oa + i, none⟩)) (some 62) rfl rfl (by kernel_rfl) (by kernel_rfl) (by kernel_rfl) (fun _ _ _ h => h) (yieldsIf_index (by kernel_rfl) rfl (by kernel_rfl) (by kernel_rfl) (hidx4 (cap := ca) rfl hi1)) S0 ?_
    refine held_take (i := 6) (v := .slice (some ⟨b2, o2, none⟩) n2 k2) (some 63) rfl rfl (by kernel_rfl) (by kernel_rfl) (by kernel_rfl) (fun _ _ _ h => h) (yieldsIf_cell (by kernel_rfl) rfl (by kernel_rfl) (fun W h => hload3s W (later h (Nat.le_refl _) HA1.out))) S0 ?_
    refine held_take (i := 7) (v := .int .i64 (j : Int)) (some 64) rfl rfl (by kernel_rfl) (by kernel_rfl) (by kernel_rfl) (fun _ _ _ h => h) (yieldsIf_move (by kernel_rfl) rfl (by kernel_rfl)) S0 ?_
    refine held_take (i := 8) (v := .pointer (some ⟨b2, o2 + j, none⟩)) (some 65) rfl rfl (by kernel_rfl) (by kernel_rfl) (by kernel_rfl) (fun _ _ _ h => h) (yieldsIf_index (by kernel_rfl) rfl (by kernel_rfl) (by kernel_rfl) (hidx3 b2 o2 k2 hj2)) S0 ?_
    refine held_take (i := 9) (v := .slice ta n3 tc) (some 66) rfl rfl (by kernel_rfl) (by kernel_rfl) (by kernel_rfl) (fun _ _ _ h => h) (yieldsIf_cell (by kernel_rfl) rfl (by kernel_rfl) (fun W h => hload2s W (later h (Nat.le_refl _) HA2.out))) S0 ?_
    refine held_take (i := 10) (v := .slice av0 vn vc0) (some 67) rfl rfl (by kernel_rfl) (by kernel_rfl) (by kernel_rfl) (fun _ _ _ h => h) (yieldsIf_move (by kernel_rfl) rfl (by kernel_rfl)) S0 ?_
    refine held_take (i := 11) (v := .int .i64 (c : Int)) (some 68) rfl rfl (by kernel_rfl) (by kernel_rfl) (by kernel_rfl) (fun _ _ _ h => h) (yieldsIf_move (by kernel_rfl) rfl (by kernel_rfl)) S0 ?_
    have HAPP : Hid (∀ W, Below w1.heap.size w1 W → Calls Tryz.prog 85 #[.int .i64 p, .slice ta n3 tc, .slice av0 vn vc0, .int .i64 (c : Int)] W (ApR p c v (tbl dn (i, j)) W)) := Lib.hid (fun W hb => l01Apply_any p c _ _ v _ W HAP2.out (HV1.out.below (HX1.out.below.trans (hb.mono HX1.out.below.size))) (HTL.out.below hb) (by omega) (by omega))
    refine held_enter (i := 12) (some 69) (f := 85) (args := #[.int .i64 p, .slice ta n3 tc, .slice av0 vn vc0, .int .i64 (c : Int)]) (by kernel_rfl) rfl rfl rfl (by kernel_rfl) (HAPP.out _ S0) ?_ (fun c w' h => by obtain ⟨_, h, _⟩ := h; cases h) (fun w' h => by obtain ⟨_, h, _⟩ := h; cases h)
    rintro e3 W3 ⟨u3, he3, hl3, hb3⟩
    injection he3 with he3
    subst he3
    have S1 : Below w1.heap.size w1 W3 := S0.trans (hb3.mono S0.size)
    refine ⟨S1, ?_⟩
    obtain ⟨a3, k3, hu3'⟩ := Sl.shape hl3
    obtain ⟨n4, hn4⟩ : ∃ n, n = (apT p c v (tbl dn (i, j))).length := ⟨_, rfl⟩
    rw [← hn4] at hu3'
    subst hu3'
    clear hn4
    refine held_take (i := 13) (v := .slice a3 n4 k3) (some 10) rfl rfl (by kernel_rfl) (by kernel_rfl) (by kernel_rfl) (fun _ _ _ h => h) (yieldsIf_assign (by kernel_rfl) rfl (by kernel_rfl)) S1 ?_
    refine wpAnyH_done (by kernel_rfl) ?_ _
    simp only [Act.put, List.setIfInBounds_toArray, List.set_cons_zero, List.set_cons_succ]
    have HL3 : Hid (L1 0 W3 (.slice a3 n4 k3) (apT p c v (tbl dn (i, j)))) := Lib.hid (hl3.lower (Nat.zero_le _))
    have HS1 := Lib.hid S1
    clear S0 S1 hl3 hb3
    go_wp2
    go_ret
    exact ⟨_, rfl, HL3.out, HX1.out.below.trans (HS1.out.mono HX1.out.below.size)⟩
  · simp only [if_true]
    subst hvs
    have hce : dco ds (i - 1) j = (c : Int) := by simpa using hc
    obtain ⟨i, rfl⟩ : ∃ a : Nat, i = (a : Int) := ⟨i.toNat, by omega⟩
    obtain ⟨j, rfl⟩ : ∃ a : Nat, j = (a : Int) := ⟨j.toNat, by omega⟩
    have himn : i < m := by have := HM.out; omega
    have hjqn : j < q := by have := HQ.out; omega
    have hia : i < ac.length := by rw [HTB.out.la, ← HM.out]; exact himn
    have hja : j < (ac[i]).length := by have h1 := HTB.out.ca i (by rw [← HM.out]; exact himn); rw [getD_of_lt _ hia, getD_of_lt _ (show i < ds.length by rw [← HM.out]; exact himn), (HOK.out.col _ (List.getElem_mem _)).1, ← HQ.out] at h1; omega
    obtain ⟨ba, oa, ca, b2, o2, k2, ut, hva, hA1, hA2, hTl⟩ := l4_at HX1.out.dx.across hia hja
    subst hva
    have hTt : (ac[i])[j] = tbl ac (i, j) := by unfold tbl; dsimp only; rw [getD_of_lt _ hia, getD_of_lt _ hja]
    rw [hTt] at hTl
    obtain ⟨n1, hn1⟩ : ∃ n, n = ac.length := ⟨_, rfl⟩
    obtain ⟨n2, hn2⟩ : ∃ n, n = (ac[i]).length := ⟨_, rfl⟩
    rw [← hn1] at HX1 HNX HDIM c2 hw1 ⊢
    rw [← hn2] at hA1
    have hi1 : i < n1 := by omega
    have hj2 : j < n2 := by omega
    have HA1 := Lib.hid hA1
    have HA2 := Lib.hid hA2
    have HTL := Lib.hid hTl
    clear hn1 hn2 hA1 hA2 hTl hTt hia hja
    obtain ⟨ta, tc, hut⟩ := Sl.shape HTL.out
    obtain ⟨n3, hn3⟩ : ∃ n, n = (tbl ac (i, j)).length := ⟨_, rfl⟩
    rw [← hn3] at hut
    subst hut
    clear hn3
    have HAP2 : Hid (ApOk p c v (tbl ac (i, j))) := Lib.hid (by simpa using HAP.out)
    have hi0 : (0 : Int) ≤ (i : Int) := by omega
    have hj0 : (0 : Int) ≤ (j : Int) := by omega
    go_enter Tryz.func58, Tryz.ntmps58
    go_wp2_with fail
    rw [← hw1]
    refine (HDIM.out w1 (Below.refl _ _) i (j - 1) (by omega) (by omega)).mono ?_
    rintro r W1 ⟨rfl, hb1⟩
    clear c0 c1 c2 c3 hw1
    have HB1 := Lib.hid hb1
    have hnx1 := HNX.out W1 hb1
    have c0 := hnx1.1.c0
    have c1 := hnx1.1.c1
    have c2 := hnx1.1.c2
    have c3 := hnx1.1.c3
    have hu1 := hnx1.2
    clear hb1 hnx1
    go_wp2_with fail
    refine (HDIM.out W1 HB1.out (i - 1) j (by omega) (by omega)).mono ?_
    rintro r W2 ⟨rfl, hb2⟩
    clear c0 c1 c2 c3 hu1
    have HB2 := Lib.hid hb2
    have hnx2 := HNX.out W2 hb2
    have c0 := hnx2.1.c0
    have c1 := hnx2.1.c1
    have c2 := hnx2.1.c2
    have c3 := hnx2.1.c3
    have hu2 := hnx2.2
    clear hb2 hnx2
    rw [hce]
    clear hce
    have I1 : Hid (∀ W, Calls Tryz.prog 35 #[.int .i64 (i : Int), .int .i64 0, .int .i64 ((m : Int) - 1)] W (QW (.bool true) W)) := Lib.hid (fun W => spin_yes ⟨by omega, by omega⟩ W)
    have I2 : Hid (∀ W, Calls Tryz.prog 35 #[.int .i64 (j : Int), .int .i64 0, .int .i64 ((q : Int) - 1)] W (QW (.bool true) W)) := Lib.hid (fun W => spin_yes ⟨by omega, by omega⟩ W)
    go_wp2_with fail
    refine (I1.out _).mono ?_
    rintro e w' ⟨rfl, rfl⟩
    go_wp2_with fail
    refine (I2.out _).mono ?_
    rintro e w' ⟨rfl, rfl⟩
    go_upto_region 7 with fail
    refine wp_region_held (S := fun W => Below w1.heap.size w1 W) (by kernel_rfl) ?_
    have S0 : Below w1.heap.size w1 W2.drew := HB2.out.drew
    change wpAnyH _ _ _ _ _ _ _ _ W2.drew
    obtain ⟨wd, hwd⟩ : ∃ wd, wd = W2.drew := ⟨_, rfl⟩
    rw [← hwd] at S0 ⊢
    clear hwd
    refine held_take (i := 0) (v := .pointer (some ⟨w.heap.size, 0, none⟩)) (some 44) rfl rfl (by kernel_rfl) (by kernel_rfl) (by kernel_rfl) (fun _ _ _ h => h) (yieldsIf_run (by kernel_rfl) (fun W _ => by kernel_rfl)) S0 ?_
    refine held_take (i := 1) (v := .int .i64 p) (some 45) rfl rfl (by kernel_rfl) (by kernel_rfl) (by kernel_rfl) (fun _ _ _ h => h) (yieldsIf_cell (by kernel_rfl) rfl (by kernel_rfl) (fun W h => hloadIn W (HNX.out W h).1.c0)) S0 ?_
    refine held_take (i := 2) (v := .pointer (some ⟨w.heap.size, 2, none⟩)) (some 46) rfl rfl (by kernel_rfl) (by kernel_rfl) (by kernel_rfl) (fun _ _ _ h => h) (yieldsIf_run (by kernel_rfl) (fun W _ => by kernel_rfl)) S0 ?_
    refine held_take (i := 3) (v := .slice (some ⟨ba, oa, none⟩) n1 ca) (some 47) rfl rfl (by kernel_rfl) (by kernel_rfl) (by kernel_rfl) (fun _ _ _ h => h) (yieldsIf_cell (by kernel_rfl) rfl (by kernel_rfl) (fun W h => hload4 W (HNX.out W h).1.c2)) S0 ?_
    refine held_take (i := 4) (v := .int .i64 (i : Int)) (some 48) rfl rfl (by kernel_rfl) (by kernel_rfl) (by kernel_rfl) (fun _ _ _ h => h) (yieldsIf_move (by kernel_rfl) rfl (by kernel_rfl)) S0 ?_
    refine held_take (i := 5) (v := .pointer (some ⟨ba, oa + i, none⟩)) (some 49) rfl rfl (by kernel_rfl) (by kernel_rfl) (by kernel_rfl) (fun _ _ _ h => h) (yieldsIf_index (by kernel_rfl) rfl (by kernel_rfl) (by kernel_rfl) (hidx4 (cap := ca) rfl hi1)) S0 ?_
    refine held_take (i := 6) (v := .slice (some ⟨b2, o2, none⟩) n2 k2) (some 50) rfl rfl (by kernel_rfl) (by kernel_rfl) (by kernel_rfl) (fun _ _ _ h => h) (yieldsIf_cell (by kernel_rfl) rfl (by kernel_rfl) (fun W h => hload3s W (later h (Nat.le_refl _) HA1.out))) S0 ?_
    refine held_take (i := 7) (v := .int .i64 (j : Int)) (some 51) rfl rfl (by kernel_rfl) (by kernel_rfl) (by kernel_rfl) (fun _ _ _ h => h) (yieldsIf_move (by kernel_rfl) rfl (by kernel_rfl)) S0 ?_
    refine held_take (i := 8) (v := .pointer (some ⟨b2, o2 + j, none⟩)) (some 52) rfl rfl (by kernel_rfl) (by kernel_rfl) (by kernel_rfl) (fun _ _ _ h => h) (yieldsIf_index (by kernel_rfl) rfl (by kernel_rfl) (by kernel_rfl) (hidx3 b2 o2 k2 hj2)) S0 ?_
    refine held_take (i := 9) (v := .slice ta n3 tc) (some 53) rfl rfl (by kernel_rfl) (by kernel_rfl) (by kernel_rfl) (fun _ _ _ h => h) (yieldsIf_cell (by kernel_rfl) rfl (by kernel_rfl) (fun W h => hload2s W (later h (Nat.le_refl _) HA2.out))) S0 ?_
    refine held_take (i := 10) (v := .slice av0 vn vc0) (some 54) rfl rfl (by kernel_rfl) (by kernel_rfl) (by kernel_rfl) (fun _ _ _ h => h) (yieldsIf_move (by kernel_rfl) rfl (by kernel_rfl)) S0 ?_
    refine held_take (i := 11) (v := .int .i64 (c : Int)) (some 55) rfl rfl (by kernel_rfl) (by kernel_rfl) (by kernel_rfl) (fun _ _ _ h => h) (yieldsIf_move (by kernel_rfl) rfl (by kernel_rfl)) S0 ?_
    have HAPP : Hid (∀ W, Below w1.heap.size w1 W → Calls Tryz.prog 85 #[.int .i64 p, .slice ta n3 tc, .slice av0 vn vc0, .int .i64 (c : Int)] W (ApR p c v (tbl ac (i, j)) W)) := Lib.hid (fun W hb => l01Apply_any p c _ _ v _ W HAP2.out (HV1.out.below (HX1.out.below.trans (hb.mono HX1.out.below.size))) (HTL.out.below hb) (by omega) (by omega))
    refine held_enter (i := 12) (some 56) (f := 85) (args := #[.int .i64 p, .slice ta n3 tc, .slice av0 vn vc0, .int .i64 (c : Int)]) (by kernel_rfl) rfl rfl rfl (by kernel_rfl) (HAPP.out _ S0) ?_ (fun c w' h => by obtain ⟨_, h, _⟩ := h; cases h) (fun w' h => by obtain ⟨_, h, _⟩ := h; cases h)
    rintro e3 W3 ⟨u3, he3, hl3, hb3⟩
    injection he3 with he3
    subst he3
    have S1 : Below w1.heap.size w1 W3 := S0.trans (hb3.mono S0.size)
    refine ⟨S1, ?_⟩
    obtain ⟨a3, k3, hu3'⟩ := Sl.shape hl3
    obtain ⟨n4, hn4⟩ : ∃ n, n = (apT p c v (tbl ac (i, j))).length := ⟨_, rfl⟩
    rw [← hn4] at hu3'
    subst hu3'
    clear hn4
    refine held_take (i := 13) (v := .slice a3 n4 k3) (some 10) rfl rfl (by kernel_rfl) (by kernel_rfl) (by kernel_rfl) (fun _ _ _ h => h) (yieldsIf_assign (by kernel_rfl) rfl (by kernel_rfl)) S1 ?_
    refine wpAnyH_done (by kernel_rfl) ?_ _
    simp only [Act.put, List.setIfInBounds_toArray, List.set_cons_zero, List.set_cons_succ]
    have HL3 : Hid (L1 0 W3 (.slice a3 n4 k3) (apT p c v (tbl ac (i, j)))) := Lib.hid (hl3.lower (Nat.zero_le _))
    have HS1 := Lib.hid S1
    clear S0 S1 hl3 hb3
    go_wp2
    go_ret
    exact ⟨_, rfl, HL3.out, HX1.out.below.trans (HS1.out.mono HX1.out.below.size)⟩
end Go.Proofs.YtlopenephgabhaaGreat


namespace Go.Proofs.YtlopenephgabhaaGreat
open Go.RowKit

theorem less_bd1 {p k a b : Int} (hp : IsP p) (hb : 0 ≤ b ∧ b < p) (hk : -1 ≤ k ∧ k < p) : -42 ≤ k * b ∧ k * b ≤ 42 ∧ (a - k * b) % p = (a + -k * b) % p := by
  refine ⟨?_, ?_, by rw [Int.neg_mul, Int.sub_eq_add_neg]⟩
  · by_cases h : 0 ≤ k
    · have := (less_bd (a := a) hp hb ⟨h, hk.2⟩).1
      omega
    · obtain rfl : k = -1 := by omega
      have := hp.hi
      omega
  · by_cases h : 0 ≤ k
    · exact (less_bd (a := a) hp hb ⟨h, hk.2⟩).2.1
    · obtain rfl : k = -1 := by omega
      omega

set_option maxHeartbeats 3200000 in
set_option maxRecDepth 100000 in
theorem l01Less1_any (p k : Int) (n : Nat) (va vb : Value) (u t : Lin.V) (w : World) (hp : IsP p) (ha : L1 0 w va (toL n u)) (hb : L1 0 w vb (toL n t)) (hu : Lin.Md p u) (ht : Lin.Md p t) (hk : -1 ≤ k ∧ k < p) (hn : n ≤ 1048576) :
    Calls Tryz.prog 59 #[.int .i64 p, va, vb, .int .i64 k] w (GbR (toL n (Lin.add p u (-k) t)) w) := by
  have HP := Lib.hid hp
  have hp7 := hp.hi7
  have hp1 := hp.lo1
  have HA := Lib.hid ha
  have HB := Lib.hid hb
  have HU := Lib.hid hu
  have HT := Lib.hid ht
  obtain ⟨y, hy⟩ : ∃ y, y = Lin.add p u (-k) t := ⟨_, rfl⟩
  have HY := Lib.hid hy
  rw [← hy]
  obtain ⟨i1, hj, hy0, hy1, hy2⟩ := info_parts Tryz.infoI
  have HOWN := Lib.hid (World.ownsRow_made (base := w.heap.size) (e := 2) (size := 1) w #[] 0 (Nat.le_refl _) (by unfold maxLen; omega) (by simp))
  obtain ⟨ada, capa, hva⟩ := Sl.shape ha
  obtain ⟨adb, capb, hvb⟩ := Sl.shape hb
  rw [toL_length] at hva hvb
  subst hva hvb
  clear hp ha hb hu ht hy
  go_enter Tryz.func59, Tryz.ntmps59
  go_wp2
  go_loopw [9, 10] (fun o i wr => ∃ (q : Nat), q ≤ n ∧ i = .int .i64 q ∧ Hid (Below w.heap.size w wr) ∧ Hid (wr.ownsRow w.heap.size 2 1 o q ((toL q y).map (Value.int .i64)))) (fun _ i _ => n - (intOf i).toNat)
  case atStart => exact ⟨0, Nat.zero_le _, rfl, Lib.hid ((Below.refl _ _).alloc (Nat.le_refl _) _), Lib.hid (by simpa [toL] using HOWN.out)⟩
  case round =>
    clear HOWN
    obtain ⟨q, hq, rfl, HBE, HO⟩ := hrel
    by_cases hlt : q < n
    · refine Sl.cases HA.out (fun _ _ hx _ => absurd hlt (by have := congrArg List.length hx; rw [toL_length] at this; simp at this; omega)) (fun ba oa ca hva _ _ hca => ?_)
      refine Sl.cases HB.out (fun _ _ hx _ => absurd hlt (by have := congrArg List.length hx; rw [toL_length] at this; simp at this; omega)) (fun bb ob cb hvb _ _ hcb => ?_)
      rw [toL_length] at hva hvb
      obtain ⟨rfl, rfl⟩ : ada = some ⟨ba, oa, none⟩ ∧ capa = ca := by simpa using hva
      obtain ⟨rfl, rfl⟩ : adb = some ⟨bb, ob, none⟩ ∧ capb = cb := by simpa using hvb
      obtain ⟨ua, hua, hra⟩ := hca q (by rw [toL_length]; exact hlt)
      obtain ⟨ub, hub, hrb⟩ := hcb q (by rw [toL_length]; exact hlt)
      rw [toL_get] at hra hrb
      obtain ⟨a, haa⟩ : ∃ a, a = u q := ⟨_, rfl⟩
      obtain ⟨b, hbb⟩ : ∃ b, b = t q := ⟨_, rfl⟩
      have hab := HU.out q
      have hbb2 := HT.out q
      rw [← haa] at hra hab
      rw [← hbb] at hrb hbb2
      have h1 : wr.cell? ⟨ba, oa + q, none⟩ = some (.int .i64 a) := by rw [later HBE.out (Nat.le_refl _) hua, hra]
      have h2 : wr.cell? ⟨bb, ob + q, none⟩ = some (.int .i64 b) := by rw [later HBE.out (Nat.le_refl _) hub, hrb]
      obtain ⟨m0, m1, m2⟩ := less_bd1 (a := a) HP.out hbb2 hk
      have HM2 : Hid ((a - k * b) % p = y q) := Lib.hid (by rw [m2, HY.out, haa, hbb]; rfl)
      have hmod := fun W => l01Mod_any p (a - k * b) W HP.out
      rw [HM2.out] at hmod
      have HMOD := Lib.hid hmod
      have hsz : w.heap.size ≤ wr.heap.size := HBE.out.size
      have hca1 : ∀ W, Below w.heap.size w W → W.cell? ⟨ba, oa + q, none⟩ = some (.int .i64 a) := fun W h => by rw [later h (Nat.le_refl _) hua, hra]
      have hcb1 : ∀ W, Below w.heap.size w W → W.cell? ⟨bb, ob + q, none⟩ = some (.int .i64 b) := fun W h => by rw [later h (Nat.le_refl _) hub, hrb]
      have hmul : ∀ w, (binOp .mul 2 (.int .i64 k) (.int .i64 b)).run Tryz.prog w = .ok (.int .i64 (k * b)) w := fun w => hmulI (by omega) (by omega) w
      have hsub : ∀ w, (binOp .sub 2 (.int .i64 a) (.int .i64 (k * b))).run Tryz.prog w = .ok (.int .i64 (a - k * b)) w := fun w => hsubI (by omega) (by omega) w
      clear h1 h2
      clear hra hrb hca hcb hva hvb m2 haa hbb hmod
      go_wp2
      refine wp_region_held (S := fun W => Below w.heap.size w W) (by kernel_rfl) ?_
      have S0 : Below w.heap.size w wr.drew := HBE.out.drew
      refine held_take (i := 0) (v := u9) (some 18) rfl rfl (by kernel_rfl) (by kernel_rfl) (by kernel_rfl) (fun _ _ _ h => h) (yieldsIf_move (by kernel_rfl) rfl (by kernel_rfl)) S0 ?_
      refine held_take (i := 1) (v := .int .i64 p) (some 19) rfl rfl (by kernel_rfl) (by kernel_rfl) (by kernel_rfl) (fun _ _ _ h => h) (yieldsIf_move (by kernel_rfl) rfl (by kernel_rfl)) S0 ?_
      refine held_take (i := 2) (v := .slice (some ⟨ba, oa, none⟩) n capa) (some 20) rfl rfl (by kernel_rfl) (by kernel_rfl) (by kernel_rfl) (fun _ _ _ h => h) (yieldsIf_move (by kernel_rfl) rfl (by kernel_rfl)) S0 ?_
      refine held_take (i := 3) (v := .int .i64 (q : Int)) (some 21) rfl rfl (by kernel_rfl) (by kernel_rfl) (by kernel_rfl) (fun _ _ _ h => h) (yieldsIf_move (by kernel_rfl) rfl (by kernel_rfl)) S0 ?_
      refine held_take (i := 4) (v := .pointer (some ⟨ba, oa + q, none⟩)) (some 22) rfl rfl (by kernel_rfl) (by kernel_rfl) (by kernel_rfl) (fun _ _ _ h => h) (yieldsIf_index (by kernel_rfl) rfl (by kernel_rfl) (by kernel_rfl) (hidxI ba oa capa hlt)) S0 ?_
      refine held_take (i := 5) (v := .int .i64 a) (some 23) rfl rfl (by kernel_rfl) (by kernel_rfl) (by kernel_rfl) (fun _ _ _ h => h) (yieldsIf_cell (by kernel_rfl) rfl (by kernel_rfl) (fun W h => hload W (hca1 W h))) S0 ?_
      refine held_take (i := 6) (v := .int .i64 k) (some 24) rfl rfl (by kernel_rfl) (by kernel_rfl) (by kernel_rfl) (fun _ _ _ h => h) (yieldsIf_move (by kernel_rfl) rfl (by kernel_rfl)) S0 ?_
      refine held_take (i := 7) (v := .slice (some ⟨bb, ob, none⟩) n capb) (some 25) rfl rfl (by kernel_rfl) (by kernel_rfl) (by kernel_rfl) (fun _ _ _ h => h) (yieldsIf_move (by kernel_rfl) rfl (by kernel_rfl)) S0 ?_
      refine held_take (i := 8) (v := .int .i64 (q : Int)) (some 26) rfl rfl (by kernel_rfl) (by kernel_rfl) (by kernel_rfl) (fun _ _ _ h => h) (yieldsIf_move (by kernel_rfl) rfl (by kernel_rfl)) S0 ?_
      refine held_take (i := 9) (v := .pointer (some ⟨bb, ob + q, none⟩)) (some 27) rfl rfl (by kernel_rfl) (by kernel_rfl) (by kernel_rfl) (fun _ _ _ h => h) (yieldsIf_index (by kernel_rfl) rfl (by kernel_rfl) (by kernel_rfl) (hidxI bb ob capb hlt)) S0 ?_
      refine held_take (i := 10) (v := .int .i64 b) (some 28) rfl rfl (by kernel_rfl) (by kernel_rfl) (by kernel_rfl) (fun _ _ _ h => h) (yieldsIf_cell (by kernel_rfl) rfl (by kernel_rfl) (fun W h => hload W (hcb1 W h))) S0 ?_
      refine held_take (i := 11) (v := .int .i64 (k * b)) (some 29) rfl rfl (by kernel_rfl) (by kernel_rfl) (by kernel_rfl) (fun _ _ _ h => h) (yieldsIf_bin (by kernel_rfl) rfl (by kernel_rfl) (by kernel_rfl) (fun _ => rfl) hmul) S0 ?_
      refine held_take (i := 12) (v := .int .i64 (a - k * b)) (some 30) rfl rfl (by kernel_rfl) (by kernel_rfl) (by kernel_rfl) (fun _ _ _ h => h) (yieldsIf_bin (by kernel_rfl) rfl (by kernel_rfl) (by kernel_rfl) (fun _ => rfl) hsub) S0 ?_
      refine held_enter (i := 13) (some 31) (f := 86) (args := #[.int .i64 p, .int .i64 (a - k * b)]) (by kernel_rfl) rfl rfl rfl (by kernel_rfl) (HMOD.out _) ?_ (fun c w' h => by cases h.1) (fun w' h => by cases h.1)
      rintro e4 W4 ⟨he4, rfl⟩
      injection he4 with he4
      subst he4
      refine ⟨S0, ?_⟩
      have S1 : Below w.heap.size w (wr.drew.alloc (.cells #[.int .i64 (y q)] 2)) := S0.alloc hsz _
      have HOX := Lib.hid (HO.out.alloc (.cells #[.int .i64 (y q)] 2))
      refine held_buildI (i := 14) (some 32) (by kernel_rfl) rfl rfl rfl (.tmp 31) (y q) rfl (by kernel_rfl) ⟨S1, ?_⟩
      refine held_appendI (i := 15) (some 33) (by kernel_rfl) rfl rfl rfl (.tmp 18) (.tmp 32) rfl w.heap.size u9 q _ (by kernel_rfl) HOX.out wr.heap.size (y q) (by kernel_rfl) (cell_alloc1 wr.drew _ _) (by omega) (by simp; omega) ?_
      intro v' w3 hown hgrow
      have S2 : Below w.heap.size w w3 := S1.grown hgrow (by simp; omega) (fun g hg => ((HOX.out.lt) g hg).1)
      have HB3 := Lib.hid S2
      have HO3 : Hid (w3.ownsRow w.heap.size 2 1 v' (q + 1) ((toL (q + 1) y).map (Value.int .i64))) := Lib.hid (by rw [toL_succ, List.map_append]; exact hown)
      refine ⟨S2, ?_⟩
      refine held_take (i := 16) (v := v') (some 9) rfl rfl (by kernel_rfl) (by kernel_rfl) (by kernel_rfl) (fun _ _ _ h => h) (yieldsIf_assign (by kernel_rfl) rfl (by kernel_rfl)) S2 ?_
      refine wpAnyH_done (by kernel_rfl) ?_ _
      simp only [Act.put, List.setIfInBounds_toArray, List.set_cons_zero, List.set_cons_succ]
      clear S0 S1 S2 hown hgrow hca1 hcb1 hmul hsub HOX HO HBE
      go_wp2
      go_roundw
      case rel => exact ⟨q + 1, by omega, by go_num, HB3, HO3⟩
      case measure => simp [intOf]; omega
    · have hqq : Hid (q = n) := Lib.hid (by omega)
      go_wp2
      go_ret
      refine ⟨_, rfl, ?_, HBE.out⟩
      have := HO.out
      rw [hqq.out] at this
      unfold Gb
      rw [toL_length]
      exact this
end Go.Proofs.YtlopenephgabhaaGreat


namespace Go.Proofs.YtlopenephgabhaaGreat
open Go.RowKit

def inD (ds : List (List Int)) (i j : Int) : Prop := 0 ≤ i ∧ i < ds.length ∧ 0 ≤ j ∧ j < (ds.getD 0 []).length
instance (ds : List (List Int)) (i j : Int) : Decidable (inD ds i j) := by unfold inD; exact inferInstance
def wid (ds : List (List Int)) (b : Bool) (i j : Int) : Nat := (if b = true then dco ds (i - 1) j else dco ds i (j - 1)).toNat
/-- A step of the model. -/
def stp (p : Int) (ds : List (List Int)) (ac dn : List (List (List (List Int)))) (i j : Int) (v : List Int) (b : Bool) : List Int :=
  if inD ds i j then apT p (wid ds b i j) v (tbl (if b = true then ac else dn) (i.toNat, j.toNat)) else List.replicate (wid ds b i j) 0
theorem dco_bd {ds : List (List Int)} (hok : DclOk ds) (i j : Int) : 0 ≤ dco ds i j ∧ dco ds i j ≤ 4 := by
  unfold dco
  split
  · rename_i h
    have h1 : i.toNat < ds.length := by omega
    rw [getD_of_lt _ h1]
    have hc := hok.col _ (List.getElem_mem h1)
    have h2 : j.toNat < (ds[i.toNat]).length := by omega
    rw [getD_of_lt _ h2]
    exact hc.2 _ (List.getElem_mem h2)
  · omega
theorem dco_cell {ds : List (List Int)} (hok : DclOk ds) {c : Nat × Nat} (h : c ∈ cellsTo ds ds.length) : dco ds c.1 c.2 = (cdim ds c : Nat) := by
  obtain ⟨h1, h2⟩ := mem_cells.1 h
  rw [(cdim_cast hok h).1, dcl_nat]
  unfold dco
  rw [getD_of_lt _ h1, (hok.col _ (List.getElem_mem h1)).1] at h2
  rw [if_pos (by omega)]
  simp
theorem wid_cast {ds : List (List Int)} (hok : DclOk ds) (b : Bool) (i j : Int) : (if b = true then dco ds (i - 1) j else dco ds i (j - 1)) = ((wid ds b i j : Nat) : Int) ∧ wid ds b i j ≤ 4 := by
  unfold wid
  have h1 := dco_bd hok (i - 1) j
  have h2 := dco_bd hok i (j - 1)
  cases b
  · simp only [Bool.false_eq_true, if_false]; omega
  · simp only [if_true]; omega
/-- Where a step may be taken. -/
def StOk (p : Int) (ds : List (List Int)) (ac dn : List (List (List (List Int)))) (i j : Int) (v : List Int) (b : Bool) : Prop := inD ds i j → ApOk p (wid ds b i j) v (tbl (if b = true then ac else dn) (i.toNat, j.toNat))
theorem stp_ok {p : Int} {ds : List (List Int)} {ac dn : List (List (List (List Int)))} {i j : Int} {v : List Int} {b : Bool} (hp : IsP p) (h : StOk p ds ac dn i j v b) : RowOk p (wid ds b i j) (stp p ds ac dn i j v b) := by
  have hp0 := hp.lo
  unfold stp
  split
  · rename_i hi
    have ok := h hi
    refine ⟨by rw [apT_length ok], fun x hx => ?_⟩
    obtain ⟨k, hk, rfl⟩ := List.getElem_of_mem hx
    have := apTo_mod ok (Nat.le_refl v.length) k
    rw [show apTo p (wid ds b i j) v (tbl (if b = true then ac else dn) (i.toNat, j.toNat)) v.length = apT p (wid ds b i j) v (tbl (if b = true then ac else dn) (i.toNat, j.toNat)) from rfl, getD_of_lt _ hk] at this
    exact this
  · refine ⟨by simp, fun x hx => ?_⟩
    rw [List.eq_of_mem_replicate hx]
    omega
theorem l03Step_any (b : Bool) (p i j : Int) (dv av vv va : Value) (ds : List (List Int)) (ac dn : List (List (List (List Int)))) (v : List Int) (w : World) (h : Dx 0 w dv av vv ds ac dn) (hok : DclOk ds) (htb : TbsOk p ds ac dn) (hv : L1 0 w va v) (hv40 : v.length ≤ 40) (hi : -1 ≤ i ∧ i ≤ 4) (hj : -1 ≤ j ∧ j ≤ 4) (hst : StOk p ds ac dn i j v b) :
    Calls Tryz.prog 58 #[.agg #[.int .i64 p, dv, av, vv], .int .i64 i, .int .i64 j, va, .bool b] w fun e w' => ∃ u, e = .returned u ∧ L1 0 w' u (stp p ds ac dn i j v b) ∧ Below w.heap.size w w' := by
  have hw := wid_cast hok b i j
  by_cases hin : inD ds i j
  · rw [show stp p ds ac dn i j v b = apT p (wid ds b i j) v (tbl (if b = true then ac else dn) (i.toNat, j.toNat)) from if_pos hin]
    exact l03Step_in b p i j dv av vv va ds ac dn (wid ds b i j) v w h hok htb hv hv40 hin hw.1 hw.2 (hst hin)
  · rw [show stp p ds ac dn i j v b = List.replicate (wid ds b i j) 0 from if_neg hin]
    exact l03Step_out b p i j dv av vv va ds ac dn (wid ds b i j) w h hok hi hj hin hw.1 hw.2

theorem leadOf_nn : ∀ {xs : List Int}, ¬ (∀ x ∈ xs, x = 0) → 0 ≤ leadOf xs
  | [], h => absurd (fun x hx => absurd hx (by simp)) h
  | x :: xs, h => by
    by_cases h0 : x = 0
    · have h2 : ¬ ∀ y ∈ xs, y = 0 := fun h3 => h (fun y hy => by
        rcases List.mem_cons.1 hy with rfl | hy
        · exact h0
        · exact h3 y hy)
      have := leadOf_nn h2
      simp only [leadOf, h0, if_true]
      rw [if_neg (by omega)]
      omega
    · simp [leadOf, h0]
theorem leadOf_null {xs : List Int} (h : ∀ x ∈ xs, x = 0) : leadOf xs = -1 := leadOf_zero (fun _ hj => h _ (List.getElem_mem hj))

/-- What the model asks of a basis vector. -/
structure SqRow (p : Int) (ds : List (List Int)) (ac dn : List (List (List (List Int)))) (c : Nat × Nat) (r : Nat) : Prop where
  a : ∀ x ∈ stp p ds ac dn ((c.1 : Int) - 1) c.2 ((tbl ac c).getD r []) true, x = 0
  d : ∀ x ∈ stp p ds ac dn c.1 ((c.2 : Int) - 1) ((tbl dn c).getD r []) false, x = 0
  b : ∀ x ∈ toL (wid ds false ((c.1 : Int) - 1) c.2) (Lin.add p (ofL (stp p ds ac dn ((c.1 : Int) - 1) c.2 ((tbl ac c).getD r []) false)) (-(-1)) (ofL (stp p ds ac dn c.1 ((c.2 : Int) - 1) ((tbl dn c).getD r []) true))), x = 0
def SqCell (p : Int) (ds : List (List Int)) (ac dn : List (List (List (List Int)))) (c : Nat × Nat) : Prop := ∀ r, r < cdim ds c → SqRow p ds ac dn c r

section
variable {p : Int} {ds : List (List Int)} {ac dn : List (List (List (List Int)))}
theorem row_len (hok : DclOk ds) (ht : TbsOk p ds ac dn) {c : Nat × Nat} (hc : c ∈ cellsTo ds ds.length) {r : Nat} (hr : r < cdim ds c) :
    RowOk p (dcl ds ((c.1 : Int) - 1) c.2) ((tbl ac c).getD r []) ∧ RowOk p (dcl ds c.1 ((c.2 : Int) - 1)) ((tbl dn c).getD r []) ∧ (tbl ac c).length = cdim ds c ∧ (tbl dn c).length = cdim ds c := by
  obtain ⟨ta, td⟩ := ht.tab c hc
  have h1 := (cdim_cast hok hc).1
  have la := ta.1
  have ld := td.1
  have la' : (tbl ac c).length = cdim ds c := by unfold tbl; omega
  have ld' : (tbl dn c).length = cdim ds c := by unfold tbl; omega
  refine ⟨?_, ?_, la', ld'⟩
  · rw [getD_of_lt _ (by omega)]; exact ta.2 _ (List.getElem_mem _)
  · rw [getD_of_lt _ (by omega)]; exact td.2 _ (List.getElem_mem _)
theorem dco_dcl (hok : DclOk ds) {c : Nat × Nat} (hc : c ∈ cellsTo ds ds.length) : dco ds ((c.1 : Int) - 1) c.2 = dcl ds ((c.1 : Int) - 1) c.2 ∧ dco ds c.1 ((c.2 : Int) - 1) = dcl ds c.1 ((c.2 : Int) - 1) := by
  obtain ⟨i, j⟩ := c
  dsimp only
  constructor
  · cases i with
    | zero => unfold dco dcl; rw [if_neg (by omega), if_pos (by omega)]
    | succ i =>
      have h := cell_left hok hc
      rw [show (((i + 1 : Nat) : Int) - 1) = (i : Int) by omega, dco_cell hok (c := (i, j)) h, (cdim_cast hok h).1]
  · cases j with
    | zero => unfold dco dcl; rw [if_neg (by omega), if_pos (by omega)]
    | succ j =>
      have h := cell_low hc
      rw [show (((j + 1 : Nat) : Int) - 1) = (j : Int) by omega, dco_cell hok (c := (i, j)) h, (cdim_cast hok h).1]
/-- The four steps may be taken. -/
theorem st_left (hp : IsP p) (hok : DclOk ds) (ht : TbsOk p ds ac dn) {c : Nat × Nat} (hc : c ∈ cellsTo ds ds.length) {r : Nat} (hr : r < cdim ds c) (b : Bool) : StOk p ds ac dn ((c.1 : Int) - 1) c.2 ((tbl ac c).getD r []) b := by
  intro hin
  obtain ⟨i, j⟩ := c
  dsimp only at hin hc hr ⊢
  cases i with
  | zero => exact absurd hin.1 (by omega)
  | succ i =>
    have hl := cell_left hok hc
    have e : (((i + 1 : Nat) : Int) - 1) = (i : Int) := by omega
    obtain ⟨r1, _, _, _⟩ := row_len hok ht hc hr
    dsimp only at r1
    rw [e] at r1 ⊢
    obtain ⟨ta, td⟩ := ht.tab _ hl
    have hcd := dco_dcl hok hl
    dsimp only at ta td hcd
    have hw := wid_cast hok b (i : Int) (j : Int)
    rw [Int.toNat_natCast, Int.toNat_natCast]
    cases b
    · simp only [Bool.false_eq_true, if_false] at hw ⊢
      exact ⟨hp, by have h1 := r1.1; have h2 : ((tbl dn (i, j)).length : Int) = dcl ds i j := td.1; omega, r1.2, fun x hx => by rw [← hw.1, hcd.2]; exact td.2 x hx⟩
    · simp only [if_true] at hw ⊢
      exact ⟨hp, by have h1 := r1.1; have h2 : ((tbl ac (i, j)).length : Int) = dcl ds i j := ta.1; omega, r1.2, fun x hx => by rw [← hw.1, hcd.1]; exact ta.2 x hx⟩
theorem st_low (hp : IsP p) (hok : DclOk ds) (ht : TbsOk p ds ac dn) {c : Nat × Nat} (hc : c ∈ cellsTo ds ds.length) {r : Nat} (hr : r < cdim ds c) (b : Bool) : StOk p ds ac dn c.1 ((c.2 : Int) - 1) ((tbl dn c).getD r []) b := by
  intro hin
  obtain ⟨i, j⟩ := c
  dsimp only at hin hc hr ⊢
  cases j with
  | zero => exact absurd hin.2.2.1 (by omega)
  | succ j =>
    have hl := cell_low hc
    have e : (((j + 1 : Nat) : Int) - 1) = (j : Int) := by omega
    obtain ⟨_, r1, _, _⟩ := row_len hok ht hc hr
    dsimp only at r1
    rw [e] at r1 ⊢
    obtain ⟨ta, td⟩ := ht.tab _ hl
    have hcd := dco_dcl hok hl
    dsimp only at ta td hcd
    have hw := wid_cast hok b (i : Int) (j : Int)
    rw [Int.toNat_natCast, Int.toNat_natCast]
    cases b
    · simp only [Bool.false_eq_true, if_false] at hw ⊢
      exact ⟨hp, by have h1 := r1.1; have h2 : ((tbl dn (i, j)).length : Int) = dcl ds i j := td.1; omega, r1.2, fun x hx => by rw [← hw.1, hcd.2]; exact td.2 x hx⟩
    · simp only [if_true] at hw ⊢
      exact ⟨hp, by have h1 := r1.1; have h2 : ((tbl ac (i, j)).length : Int) = dcl ds i j := ta.1; omega, r1.2, fun x hx => by rw [← hw.1, hcd.1]; exact ta.2 x hx⟩
theorem null_all {xs : List Int} {n : Nat} (h : xs.length = n) : (∀ x ∈ xs, x = 0) ↔ ∀ t, t < n → xs.getD t 0 = 0 := by
  constructor
  · intro hz t ht
    rw [getD_of_lt _ (by omega)]
    exact hz _ (List.getElem_mem _)
  · intro hz x hx
    obtain ⟨t, ht, rfl⟩ := List.getElem_of_mem hx
    have := hz t (by omega)
    rwa [getD_of_lt _ ht] at this
theorem inD_cell (hok : DclOk ds) {c : Nat × Nat} (hc : c ∈ cellsTo ds ds.length) : inD ds c.1 c.2 := by
  obtain ⟨h1, h2⟩ := mem_cells.1 hc
  rw [getD_of_lt _ h1, (hok.col _ (List.getElem_mem h1)).1] at h2
  unfold inD
  omega
theorem wid_t (hok : DclOk ds) {i j : Nat} (h : (i, j) ∈ cellsTo ds ds.length) (a b : Int) : (a - 1 = i → b = j → wid ds true a b = cdim ds (i, j)) ∧ (a = i → b - 1 = j → wid ds false a b = cdim ds (i, j)) := by
  have := dco_cell hok h
  dsimp only at this
  constructor
  · rintro e1 rfl
    unfold wid
    simp only [if_true]
    rw [e1, this]; simp
  · rintro rfl e1
    unfold wid
    simp only [Bool.false_eq_true, if_false]
    rw [e1, this]; simp
theorem wid_0 (a b : Int) : (a - 1 < 0 → wid ds true a b = 0) ∧ (b - 1 < 0 → wid ds false a b = 0) ∧ (a < 0 → wid ds false a b = 0) ∧ (b < 0 → wid ds true a b = 0) := by
  refine ⟨fun h => ?_, fun h => ?_, fun h => ?_, fun h => ?_⟩ <;> unfold wid dco <;> simp <;> omega

/-- **What the model asks is what the total asks.** -/
theorem sq_iff (hp : IsP p) (hok : DclOk ds) (ht : TbsOk p ds ac dn) : (∀ c ∈ cellsTo ds ds.length, SqCell p ds ac dn c) ↔ CndOk p ds ac dn := by
  -- one row
  have hA : ∀ (a j r : Nat) (b : Bool), (a + 1, j) ∈ cellsTo ds ds.length → r < cdim ds (a + 1, j) → ((tbl ac (a + 1, j)).getD r []).length = cdim ds (a, j) := fun a j r b hc hr => by
    have h1 := (row_len hok ht hc hr).1.1
    have h2 := (cdim_cast hok (cell_left hok hc)).1
    dsimp only at h1 h2
    rw [show (((a + 1 : Nat) : Int) - 1) = (a : Int) by omega] at h1
    omega
  have hD : ∀ (i b r : Nat), (i, b + 1) ∈ cellsTo ds ds.length → r < cdim ds (i, b + 1) → ((tbl dn (i, b + 1)).getD r []).length = cdim ds (i, b) := fun i b r hc hr => by
    have h1 := (row_len hok ht hc hr).2.1.1
    have h2 := (cdim_cast hok (cell_low hc)).1
    dsimp only at h1 h2
    rw [show (((b + 1 : Nat) : Int) - 1) = (b : Int) by omega] at h1
    omega
  have sL : ∀ (a j r : Nat) (b : Bool), (a + 1, j) ∈ cellsTo ds ds.length → r < cdim ds (a + 1, j) → stp p ds ac dn (((a + 1 : Nat) : Int) - 1) j ((tbl ac (a + 1, j)).getD r []) b = apT p (wid ds b a j) ((tbl ac (a + 1, j)).getD r []) (tbl (if b = true then ac else dn) (a, j)) ∧ ApOk p (wid ds b a j) ((tbl ac (a + 1, j)).getD r []) (tbl (if b = true then ac else dn) (a, j)) := fun a j r b hc hr => by
    have hin := inD_cell hok (cell_left hok hc)
    have hst := st_left hp hok ht hc hr b
    dsimp only at hin hst
    rw [show (((a + 1 : Nat) : Int) - 1) = (a : Int) by omega] at hst ⊢
    have hs := hst hin
    unfold stp
    rw [if_pos hin]
    rw [Int.toNat_natCast, Int.toNat_natCast] at hs ⊢
    exact ⟨rfl, hs⟩
  have sD : ∀ (i c r : Nat) (b : Bool), (i, c + 1) ∈ cellsTo ds ds.length → r < cdim ds (i, c + 1) → stp p ds ac dn i (((c + 1 : Nat) : Int) - 1) ((tbl dn (i, c + 1)).getD r []) b = apT p (wid ds b i c) ((tbl dn (i, c + 1)).getD r []) (tbl (if b = true then ac else dn) (i, c)) ∧ ApOk p (wid ds b i c) ((tbl dn (i, c + 1)).getD r []) (tbl (if b = true then ac else dn) (i, c)) := fun i c r b hc hr => by
    have hin := inD_cell hok (cell_low hc)
    have hst := st_low hp hok ht hc hr b
    dsimp only at hin hst
    rw [show (((c + 1 : Nat) : Int) - 1) = (c : Int) by omega] at hst ⊢
    have hs := hst hin
    unfold stp
    rw [if_pos hin]
    rw [Int.toNat_natCast, Int.toNat_natCast] at hs ⊢
    exact ⟨rfl, hs⟩
  have hzero : ∀ {xs : List Int} {n : Int}, RowOk p n xs → n = 0 → ∀ x ∈ xs, x = 0 := fun {xs n} h h0 x hx => by
    have := h.1
    rw [h0] at this
    have : xs = [] := List.eq_nil_of_length_eq_zero (by omega)
    rw [this] at hx
    exact absurd hx (by simp)
  have hB : ∀ (a b r : Nat), (a + 1, b + 1) ∈ cellsTo ds ds.length → r < cdim ds (a + 1, b + 1) →
      ((∀ x ∈ toL (wid ds false (((a + 1 : Nat) : Int) - 1) ((b + 1 : Nat) : Int)) (Lin.add p (ofL (stp p ds ac dn (((a + 1 : Nat) : Int) - 1) ((b + 1 : Nat) : Int) ((tbl ac (a + 1, b + 1)).getD r []) false)) (-(-1)) (ofL (stp p ds ac dn ((a + 1 : Nat) : Int) (((b + 1 : Nat) : Int) - 1) ((tbl dn (a + 1, b + 1)).getD r []) true))), x = 0) ↔
       ∀ t, t < cdim ds (a, b) → (mts ((tbl ac (a + 1, b + 1)).getD r []) (tbl dn (a, b + 1)) (cdim ds (a, b + 1)) t + mts ((tbl dn (a + 1, b + 1)).getD r []) (tbl ac (a + 1, b)) (cdim ds (a + 1, b)) t) % p = 0) := fun a b r hc hr => by
    have hca := cell_left hok hc
    have hcb := cell_low hc
    have hcab := cell_low hca
    obtain ⟨e1, k1⟩ := sL a (b + 1) r false hc hr
    obtain ⟨e2, k2⟩ := sD (a + 1) b r true hc hr
    have w1 : wid ds false (a : Int) ((b + 1 : Nat) : Int) = cdim ds (a, b) := (wid_t hok hcab _ _).2 rfl (by omega)
    have w2 : wid ds true ((a + 1 : Nat) : Int) (b : Int) = cdim ds (a, b) := (wid_t hok hcab _ _).1 (by omega) rfl
    rw [e1, e2, show (((a + 1 : Nat) : Int) - 1) = (a : Int) by omega, w1, w2]
    rw [w1] at k1
    rw [w2] at k2
    simp only [Bool.false_eq_true, if_false, if_true] at k1 k2 ⊢
    have l1 := hA a (b + 1) r false hc hr
    have l2 := hD (a + 1) b r hc hr
    rw [null_all (n := cdim ds (a, b)) (by simp [toL])]
    have hval : ∀ t, t < cdim ds (a, b) → (toL (cdim ds (a, b)) (Lin.add p (ofL (apT p (cdim ds (a, b)) ((tbl ac (a + 1, b + 1)).getD r []) (tbl dn (a, b + 1)))) (-(-1)) (ofL (apT p (cdim ds (a, b)) ((tbl dn (a + 1, b + 1)).getD r []) (tbl ac (a + 1, b)))))).getD t 0 =
        (mts ((tbl ac (a + 1, b + 1)).getD r []) (tbl dn (a, b + 1)) (cdim ds (a, b + 1)) t + mts ((tbl dn (a + 1, b + 1)).getD r []) (tbl ac (a + 1, b)) (cdim ds (a + 1, b)) t) % p := fun t ht' => by
      have h1 := apT_mts k1 ht'
      have h2 := apT_mts k2 ht'
      rw [l1] at h1
      rw [l2] at h2
      rw [getD_of_lt _ (by simpa [toL] using ht')]
      simp only [toL, List.getElem_map, List.getElem_range, Lin.add, ofL]
      rw [h1, h2]
      simp only [Int.neg_neg, Int.one_mul]
      rw [Int.add_emod, Int.emod_emod, Int.emod_emod, ← Int.add_emod]
    constructor
    · intro h t ht'
      rw [← hval t ht']; exact h t ht'
    · intro h t ht'
      rw [hval t ht']; exact h t ht'
  constructor
  · intro h
    refine ⟨fun a j r t hc hr ht' => ?_, fun i b r t hc hr ht' => ?_, fun a b r t hc hr ht' => ?_⟩
    · have h1 := (h _ hc r hr).a
      dsimp only at h1
      obtain ⟨e, k⟩ := sL (a + 1) j r true hc hr
      rw [e, (wid_t hok (cell_left hok (cell_left hok hc)) _ _).1 (by omega) rfl] at h1
      rw [(wid_t hok (cell_left hok (cell_left hok hc)) _ _).1 (by omega) rfl] at k
      have h2 := (apT_null k).1 h1 t ht'
      rwa [hA (a + 1) j r true hc hr] at h2
    · have h1 := (h _ hc r hr).d
      dsimp only at h1
      obtain ⟨e, k⟩ := sD i (b + 1) r false hc hr
      rw [e, (wid_t hok (cell_low (cell_low hc)) _ _).2 rfl (by omega)] at h1
      rw [(wid_t hok (cell_low (cell_low hc)) _ _).2 rfl (by omega)] at k
      have h2 := (apT_null k).1 h1 t ht'
      rwa [hD i (b + 1) r hc hr] at h2
    · exact (hB a b r hc hr).1 (h _ hc r hr).b t ht'
  · intro h c hc r hr
    obtain ⟨i, j⟩ := c
    refine ⟨?_, ?_, ?_⟩
    · dsimp only
      cases i with
      | zero => exact hzero (stp_ok hp (st_left hp hok ht hc hr true)) (by have := (wid_0 (ds := ds) (((0 : Nat) : Int) - 1) (j : Int)).1 (by omega); omega)
      | succ i =>
        cases i with
        | zero => exact hzero (stp_ok hp (st_left hp hok ht hc hr true)) (by have := (wid_0 (ds := ds) (((0 + 1 : Nat) : Int) - 1) (j : Int)).1 (by omega); omega)
        | succ a =>
          obtain ⟨e, k⟩ := sL (a + 1) j r true hc hr
          rw [e, (wid_t hok (cell_left hok (cell_left hok hc)) _ _).1 (by omega) rfl]
          rw [(wid_t hok (cell_left hok (cell_left hok hc)) _ _).1 (by omega) rfl] at k
          refine (apT_null k).2 (fun t ht' => ?_)
          rw [hA (a + 1) j r true hc hr]
          exact h.aa a j r t hc hr ht'
    · dsimp only
      cases j with
      | zero => exact hzero (stp_ok hp (st_low hp hok ht hc hr false)) (by have := (wid_0 (ds := ds) (i : Int) (((0 : Nat) : Int) - 1)).2.1 (by omega); omega)
      | succ j =>
        cases j with
        | zero => exact hzero (stp_ok hp (st_low hp hok ht hc hr false)) (by have := (wid_0 (ds := ds) (i : Int) (((0 + 1 : Nat) : Int) - 1)).2.1 (by omega); omega)
        | succ b =>
          obtain ⟨e, k⟩ := sD i (b + 1) r false hc hr
          rw [e, (wid_t hok (cell_low (cell_low hc)) _ _).2 rfl (by omega)]
          rw [(wid_t hok (cell_low (cell_low hc)) _ _).2 rfl (by omega)] at k
          refine (apT_null k).2 (fun t ht' => ?_)
          rw [hD i (b + 1) r hc hr]
          exact h.dd i b r t hc hr ht'
    · dsimp only
      cases i with
      | zero =>
        rw [(wid_0 (ds := ds) (((0 : Nat) : Int) - 1) (j : Int)).2.2.1 (by omega)]
        simp [toL]
      | succ a =>
        cases j with
        | zero =>
          rw [(wid_0 (ds := ds) (((a + 1 : Nat) : Int) - 1) ((0 : Nat) : Int)).2.1 (by omega)]
          simp [toL]
        | succ b => exact (hB a b r hc hr).2 (fun t ht' => h.ad a b r t hc hr ht')
end
end Go.Proofs.YtlopenephgabhaaGreat


namespace Go.Proofs.YtlopenephgabhaaGreat
open Go.RowKit

/-- The sizes of what is told as a complex. -/
structure SzOk (ds : List Int) (ms : List (List (List Int))) : Prop where
  len0 : 1 ≤ ds.length
  len1 : ds.length ≤ 6
  mlen : ms.length + 1 = ds.length
  dims : ∀ d ∈ ds, 0 ≤ d ∧ d ≤ 8
  tabs : ∀ k, k < ms.length → ((ms.getD k []).length : Int) = ds.getD (k + 1) 0 ∧ ∀ x ∈ ms.getD k [], (x.length : Int) = ds.getD k 0
end Go.Proofs.YtlopenephgabhaaGreat


namespace Go.Proofs.YtlopenephgabhaaGreat
open Go.RowKit

/-- While a table is being made row by row: k rows are there. -/
structure Sc (w w' : World) (r c k : Nat) (Z : Nat → Nat → Int) : Prop where
  below : Below w.heap.size w w'
  size : w'.heap.size = w.heap.size + 1 + k
  top : w'.rowIs w.heap.size 47 r (fun j => if j < k then .slice (some ⟨w.heap.size + 1 + j, 0, none⟩) c c else .slice none 0 0)
  rows : ∀ j, j < k → w'.rowIs (w.heap.size + 1 + j) 2 c (fun i => .int .i64 (Z j i))
theorem Sc.start (w : World) (r c : Nat) (Z : Nat → Nat → Int) : Sc w (w.alloc (.cells (madeCells #[.slice none 0 0] r) 47)) r c 0 Z :=
  ⟨(Below.refl _ _).alloc (Nat.le_refl _) _, by simp, (World.rowIs_made w _ r _).congr (fun j _ => by simp), fun j hj => absurd hj (Nat.not_lt_zero _)⟩
theorem Sc.congr {w w' : World} {r c k : Nat} {Z Z' : Nat → Nat → Int} (h : Sc w w' r c k Z) (e : ∀ j, j < k → ∀ i, i < c → Z j i = Z' j i) : Sc w w' r c k Z' :=
  ⟨h.below, h.size, h.top, fun j hj => (h.rows j hj).congr (fun i hi => by rw [e j hj i hi])⟩
theorem Sc.drew {w w' : World} {r c k : Nat} {Z : Nat → Nat → Int} (h : Sc w w' r c k Z) : Sc w w'.drew r c k Z := ⟨h.below.drew, h.size, h.top.drew, fun j hj => (h.rows j hj).drew⟩
theorem Sc.step {w w' : World} {r c k : Nat} {Z : Nat → Nat → Int} (h : Sc w w' r c k Z) : Sc w ((w'.alloc (.cells (madeCells #[.int .i64 0] c) 2)).setCell ⟨w.heap.size, k, none⟩ (.slice (some ⟨w'.heap.size, 0, none⟩) c c)) r c (k + 1) (fun j i => if j < k then Z j i else 0) := by
  have hnew := World.rowIs_made w' (.int .i64 0) c 2
  have hs := h.size
  refine ⟨(h.below.alloc (by omega) _).setCell (Nat.le_refl _) _, by simp [h.size]; omega, ((h.top.alloc _).set k _).congr (fun j _ => ?_), fun j hj => ?_⟩
  · by_cases e : j = k
    · subst e
      rw [if_pos rfl, if_pos (Nat.lt_succ_self _), hs]
    · rw [if_neg e]
      by_cases h2 : j < k
      · rw [if_pos h2, if_pos (by omega)]
      · rw [if_neg h2, if_neg (by omega)]
  · by_cases e : j = k
    · subst e
      rw [← hs]
      exact (hnew.setOther (by show w'.heap.size ≠ w.heap.size; omega) _).congr (fun i _ => by simp)
    · exact (((h.rows j (by omega)).alloc _).setOther (by show w.heap.size + 1 + j ≠ w.heap.size; omega) _).congr (fun i _ => by rw [if_pos (show j < k by omega)])
theorem Sc.put {w w' : World} {r c k : Nat} {Z : Nat → Nat → Int} (h : Sc w w' r c k Z) {j i : Nat} (hj : j < k) (x : Int) :
    Sc w (w'.setCell ⟨w.heap.size + 1 + j, i, none⟩ (.int .i64 x)) r c k (fun j2 i2 => if j2 = j ∧ i2 = i then x else Z j2 i2) := by
  refine ⟨h.below.setCell (by show w.heap.size ≤ w.heap.size + 1 + j; omega) _, by simp [h.size], h.top.setOther (by show w.heap.size ≠ w.heap.size + 1 + j; omega) _, fun j2 hj2 => ?_⟩
  by_cases e : j2 = j
  · subst e
    exact ((h.rows j2 hj2).set i _).congr (fun i2 _ => by by_cases e2 : i2 = i <;> simp [e2])
  · exact ((h.rows j2 hj2).setOther (by show w.heap.size + 1 + j2 ≠ w.heap.size + 1 + j; omega) _).congr (fun i2 _ => by simp [e])
theorem Sc.done {w w' : World} {r c : Nat} {Z : Nat → Nat → Int} (h : Sc w w' r c r Z) : Mat w w' r c Z :=
  ⟨h.below, h.size, h.top.congr (fun j hj => by rw [if_pos hj]), h.rows⟩

def scZ (p x : Int) (t : List (List Int)) (j i : Nat) : Int := x * (t.getD j []).getD i 0 % p

theorem mulB {x z : Int} (h0 : -1048576 ≤ x) (h1 : x ≤ 1048576) (h2 : -1048576 ≤ z) (h3 : z ≤ 1048576) : -1099511627776 ≤ x * z ∧ x * z ≤ 1099511627776 := by
  have h : (x * z).natAbs ≤ 1048576 * 1048576 := by
    rw [Int.natAbs_mul]
    exact Nat.mul_le_mul (by omega) (by omega)
  omega
theorem tmod_up (m p : Int) (hp : 0 < p) : (m.tmod p + p).tmod p = m % p := by
  have h1 := Int.lt_tmod_of_pos m hp
  rw [Int.tmod_eq_emod_of_nonneg (by omega)]
  have h2 := Int.tmod_add_mul_tdiv m p
  have e : m.tmod p + p = m + p * (1 - m.tdiv p) := by rw [Int.mul_sub]; omega
  rw [e, Int.add_mul_emod_self_left]

set_option maxHeartbeats 1600000 in
set_option maxRecDepth 100000 in
theorem scaledTableW_any (p x : Int) (c : Nat) (vt : Value) (t : List (List Int)) (w : World) (hp0 : 0 < p) (hp1 : p ≤ 1048576) (hx : -1048576 ≤ x ∧ x ≤ 1048576) (ht : L2 0 w vt t) (hr : t.length ≤ 1048576) (hc : c ≤ 1048576) (hrow : ∀ y ∈ t, y.length = c ∧ ∀ z ∈ y, -1048576 ≤ z ∧ z ≤ 1048576) :
    Calls Tryz.prog 73 #[.int .i64 p, .int .i64 x, vt] w (MatR t.length c (scZ p x t) w) := by
  have hmk := run_make_row' (P := Tryz.prog) 22 47 (.slice none 0 0) 24 Tryz.underlying22 Tryz.infoS rfl .i64 .i64 t.length (by omega) (by omega)
  have hmk2 := run_make_row' (P := Tryz.prog) 47 2 (.int .i64 0) 8 Tryz.underlying47 Tryz.infoI rfl .i64 .i64 c (by omega) (by omega)
  obtain ⟨at', ct, rfl⟩ := Sl.shape ht
  have HT : Hid (∀ W, Below w.heap.size w W → L2 0 W (.slice at' t.length ct) t) := Lib.hid (fun W h => ht.below h)
  have HROW := Lib.hid hrow
  clear ht hrow
  go_enter Tryz.func73, Tryz.ntmps73
  go_wp2
  clear hmk
  go_loopw [8, 9, 10, 11, 17, 30] (fun _ _ _ _ i _ wr => ∃ (k : Nat), k ≤ t.length ∧ i = .int .i64 k ∧ Hid (Sc w wr t.length c k (scZ p x t))) (fun _ _ _ _ i _ _ => t.length - (intOf i).toNat)
  case atStart => exact ⟨0, Nat.zero_le _, rfl, Lib.hid (Sc.start _ _ _ _)⟩
  case round =>
    obtain ⟨k, hk, rfl, HS⟩ := hrel
    obtain ⟨wx, hwx⟩ : ∃ wx : World, wx = wr := ⟨_, rfl⟩
    subst hwx
    by_cases hlt : k < t.length
    · have hkl : (k : Int) < (t.length : Int) := by omega
      refine Sl.cases (HT.out _ (Below.refl _ _)) (fun _ _ hx _ => absurd hlt (by simp [hx])) (fun bt ot ct2 hvt _ _ hcl => ?_)
      injection hvt with e1 e2 e3
      clear e2
      subst e1 e3
      obtain ⟨ur, hur0, hrr⟩ := hcl k hlt
      have hur : wx.cell? ⟨bt, ot + k, none⟩ = some ur := later HS.out.below (Nat.le_refl _) hur0
      obtain ⟨y, hy⟩ : ∃ y, y = t[k] := ⟨_, rfl⟩
      rw [← hy] at hrr
      obtain ⟨ar, cr, hus⟩ := Sl.shape hrr
      have hyr := HROW.out y (by rw [hy]; exact List.getElem_mem hlt)
      rw [hyr.1] at hus
      subst hus
      have HY : Hid (t.getD k [] = y) := Lib.hid (by rw [getD_of_lt _ hlt, hy])
      have HYR := Lib.hid hyr
      have HRL : Hid (∀ W, Below w.heap.size w W → L1 0 W (.slice ar c cr) y) := Lib.hid (fun W hW => hrr.below hW)
      have h0 : ∀ o, (wx.alloc o).cell? ⟨w.heap.size, k, none⟩ = some (.slice none 0 0) := fun o => by rw [(HS.out.top.alloc o).cell hlt, if_neg (Nat.lt_irrefl _)]
      have hf : ∀ o, (wx.alloc o).frozen? ⟨w.heap.size, k, none⟩ = false := fun o => (HS.out.top.alloc o).frozen k
      have hsz := HS.out.size
      have hst := HS.out.step
      rw [hsz] at hst
      have HS1 := Lib.hid hst
      clear hcl hrr hyr hy HS hur0 hst
      go_wp2
      clear h0 hf hur
      go_loopw [10, 11, 30] (fun _ _ i wr => ∃ (q : Nat), q ≤ c ∧ i = .int .i64 q ∧ Hid (Sc w wr t.length c (k + 1) (fun j i => if j < k then scZ p x t j i else if i < q then scZ p x t k i else 0))) (fun _ _ i _ => c - (intOf i).toNat)
      case atStart => exact ⟨0, Nat.zero_le _, rfl, Lib.hid (HS1.out.congr (fun j _ i _ => by by_cases e : j < k <;> simp [e]))⟩
      case round =>
        clear HS1
        obtain ⟨q, hq, rfl, HQ⟩ := hrel
        obtain ⟨wy, hwy⟩ : ∃ wy : World, wy = wr := ⟨_, rfl⟩
        subst hwy
        by_cases hlq : q < c
        · have hql : (q : Int) < (c : Int) := by omega
          have hqy : q < y.length := by rw [HYR.out.1]; exact hlq
          obtain ⟨z, hz⟩ : ∃ z, z = y.getD q 0 := ⟨_, rfl⟩
          have hzb := HYR.out.2 z (by rw [hz, getD_of_lt _ hqy]; exact List.getElem_mem hqy)
          refine Sl.cases (HRL.out _ HQ.out.below) (fun _ _ hx _ => absurd hqy (by simp [hx])) (fun br orr cr2 hvr _ _ hcr => ?_)
          injection hvr with e1 e2 e3
          clear e2
          subst e1 e3
          obtain ⟨uz, huz, hrz⟩ := hcr q hqy
          have hnum : wy.cell? ⟨br, orr + q, none⟩ = some (.int .i64 z) := by rw [huz, hrz, hz, getD_of_lt _ hqy]
          have htop : wy.cell? ⟨w.heap.size, k, none⟩ = some (.slice (some ⟨w.heap.size + 1 + k, 0, none⟩) c c) := by rw [HQ.out.top.cell hlt, if_pos (Nat.lt_succ_self _)]
          have hrk := HQ.out.rows k (Nat.lt_succ_self _)
          have hold := hrk.cell hlq
          have hfz := hrk.frozen q
          obtain ⟨hm0, hmb⟩ := mulB hx.1 hx.2 hzb.1 hzb.2
          have hmul : IntKind.i64.wrap (x * z) = x * z := IntWalk.i64_in _ (by omega)
          have hr1 := Int.lt_tmod_of_pos (x * z) hp0
          have hr2 := Int.tmod_lt_of_pos (x * z) hp0
          have hr3 := tmod_up (x * z) p hp0
          obtain ⟨rr, hrr2⟩ : ∃ rr, rr = (x * z).tmod p := ⟨_, rfl⟩
          have hrem : (x * z).tmod p = rr := hrr2.symm
          rw [hrem] at hr1 hr2 hr3
          have HRR := Lib.hid hrr2
          clear hrr2
          have hwr0 : IntKind.i64.wrap rr = rr := IntWalk.i64_in _ (by omega)
          have hadd : IntKind.i64.wrap (rr + p) = rr + p := IntWalk.i64_in _ (by omega)
          have hm1 := Int.emod_nonneg (x * z) (show p ≠ 0 by omega)
          have hm2 := Int.emod_lt_of_pos (x * z) hp0
          have hwr : IntKind.i64.wrap (x * z % p) = x * z % p := IntWalk.i64_in _ (by omega)
          have hpz : (p == 0) = false := by simp; omega
          have hpz2 : ¬ p = 0 := by omega
          have hpm : (p == -1) = false := by simp; omega
          have HS2 : Hid (Sc w (wy.setCell ⟨w.heap.size + 1 + k, q, none⟩ (.int .i64 (x * z % p))) t.length c (k + 1) (fun j i => if j < k then scZ p x t j i else if i < q + 1 then scZ p x t k i else 0)) := Lib.hid ((HQ.out.put (j := k) (i := q) (Nat.lt_succ_self _) (x * z % p)).congr (fun j hj i hi => by
            by_cases e : j = k
            · subst e
              by_cases e2 : i = q
              · subst e2
                have e5 : scZ p x t j i = x * z % p := by unfold scZ; rw [HY.out, hz]
                simp [e5]
              · have e3 : (i < q + 1) ↔ (i < q) := by omega
                simp [e2, e3]
            · have e4 : j < k := by omega
              simp [e, e4]))
          clear huz hrz hcr hrk hz
          go_wp2
          go_region
          all_goals go_wp2
          all_goals go_roundw
          case rel => exact ⟨q + 1, by omega, by go_num, Lib.hid HS2.out.drew⟩
          case measure => simp [intOf]; omega
        · have hqn : ¬ (q : Int) < (c : Int) := by omega
          obtain rfl : q = c := by omega
          have HK1 : Hid (Sc w wy t.length q (k + 1) (scZ p x t)) := Lib.hid (HQ.out.congr (fun j hj i hi => by
            by_cases e : j < k
            · simp [e]
            · have e2 : j = k := by omega
              subst e2
              simp [hi]))
          go_wp2
          go_roundw
          case rel => first | exact ⟨k + 1, by omega, by go_num, HK1⟩ | ((repeat apply Exists.intro); exact ⟨⟨k + 1, by omega, by go_num, HK1⟩, rfl⟩)
          case measure => simp [intOf]; omega
    · have hkn : ¬ (k : Int) < (t.length : Int) := by omega
      obtain rfl : k = t.length := by omega
      go_wp2
      go_ret
      exact ⟨rfl, HS.out.done⟩
theorem scaledTable_any (p x : Int) (c : Nat) (vt : Value) (t : List (List Int)) (w : World) (hp0 : 0 < p) (hp1 : p ≤ 1048576) (hx : 0 ≤ x ∧ x ≤ p - 1) (ht : L2 0 w vt t) (hr : t.length ≤ 1048576) (hc : c ≤ 1048576) (hrow : ∀ y ∈ t, y.length = c ∧ ∀ z ∈ y, 0 ≤ z ∧ z ≤ p - 1) :
    Calls Tryz.prog 73 #[.int .i64 p, .int .i64 x, vt] w (MatR t.length c (scZ p x t) w) :=
  scaledTableW_any p x c vt t w hp0 hp1 ⟨by omega, by omega⟩ ht hr hc (fun y hy => ⟨(hrow y hy).1, fun z hz => by have := (hrow y hy).2 z hz; omega⟩)
end Go.Proofs.YtlopenephgabhaaGreat


namespace Go.Proofs.YtlopenephgabhaaGreat
open Go.RowKit

def clD (ds : List (List Int)) (i : Nat) : List Int := ds.getD i []
def clM (dn : List (List (List (List Int)))) (i : Nat) : List (List (List Int)) := (dn.getD i []).drop 1
theorem clM_at (dn : List (List (List (List Int)))) (i k : Nat) : (clM dn i).getD k [] = (dn.getD i []).getD (k + 1) [] := by
  simp [clM, List.getD_eq_getElem?_getD]

section
variable {p : Int} {ds : List (List Int)} {ac dn : List (List (List (List Int)))} {i : Nat}
theorem cl_len (hok : DclOk ds) (hi : i < ds.length) : 1 ≤ (clD ds i).length ∧ (clD ds i).length ≤ 4 := by
  have h1 := (hok.col _ (List.getElem_mem hi)).1
  have h2 := hok.h0
  have h3 := hok.h1
  unfold clD
  rw [getD_of_lt _ hi]
  omega
theorem cl_mlen (hok : DclOk ds) (ht : TbsOk p ds ac dn) (hi : i < ds.length) : (clM dn i).length + 1 = (clD ds i).length := by
  have h1 := cl_len hok hi
  have h2 := ht.cd i hi
  unfold clM
  unfold clD at h1 ⊢
  rw [List.length_drop]
  omega
theorem cl_tabk (hok : DclOk ds) (ht : TbsOk p ds ac dn) (hi : i < ds.length) {k : Nat} (hk : k < (clM dn i).length) : TabOk p ((clD ds i).getD (k + 1) 0) ((clD ds i).getD k 0) ((clM dn i).getD k []) := by
  have hl := cl_mlen hok ht hi
  have h := (ht.tab (i, k + 1) (mem_cells.2 ⟨hi, by show k + 1 < (clD ds i).length; omega⟩)).2
  rw [clM_at]
  have e : (((k + 1 : Nat) : Int)) - 1 = ((k : Nat) : Int) := by omega
  simp only [e, dcl_nat] at h
  exact h
theorem cl_sz (hok : DclOk ds) (ht : TbsOk p ds ac dn) (hi : i < ds.length) : SzOk (clD ds i) (clM dn i) := by
  have hl := cl_len hok hi
  refine ⟨hl.1, by omega, cl_mlen hok ht hi, fun d hd => ?_, fun k hk => ?_⟩
  · have h1 := (hok.col _ (List.getElem_mem hi)).2 d (by unfold clD at hd; rwa [getD_of_lt _ hi] at hd)
    omega
  · have h1 := cl_tabk hok ht hi hk
    exact ⟨h1.1, fun x hx => (h1.2 x hx).1⟩
end
theorem Sl.drop1 {α : Type} {lo : Nat} {R : World → Value → α → Prop} {w : World} {b o n : Nat} {xs : List α} (hn : n = xs.length) (hlo : lo ≤ b) (h : ∀ k (hk : k < xs.length), ∃ u, w.cell? ⟨b, o + k, none⟩ = some u ∧ R w u xs[k]) (o1 : Nat) (ho : n - 1 = 0 ∨ o1 = o + 1) (c1 : Nat) : Sl lo R w (.slice (some ⟨b, o1, none⟩) (n - 1) c1) (xs.drop 1) := by
  by_cases h0 : n - 1 = 0
  · exact .inl ⟨List.eq_nil_of_length_eq_zero (by rw [List.length_drop]; omega), _, _, by rw [h0]⟩
  · have e : o1 = o + 1 := by omega
    subst e
    refine .inr ⟨b, o + 1, c1, by rw [List.length_drop, hn], hlo, by rw [List.length_drop]; omega, fun k hk => ?_⟩
    rw [List.length_drop] at hk
    obtain ⟨u, h1, h2⟩ := h (k + 1) (by omega)
    exact ⟨u, by rw [Nat.add_assoc, Nat.add_comm 1 k]; exact h1, by rw [List.getElem_drop]; simpa [Nat.add_comm] using h2⟩
def dpO (o cap : Nat) : Nat := if cap = 1 then o else o + 1
theorem drop_run (b o n cap : Nat) (h : 1 ≤ n) (W : World) : (Instr.sliceAt 51 (.slice (some ⟨b, o, none⟩) n cap) (some (.int .i64 1)) none none).run Tryz.prog W = .ok (.slice (some ⟨b, dpO o cap, none⟩) (n - 1) (cap - 1)) W := by
  have hU : Tryz.prog.underlying 51 = some (.slice (Tryz.prog.elem 51)) := by kernel_rfl
  have hz : (sizeOf (Tryz.prog.elem 51)).run Tryz.prog W = .ok 1 W := by kernel_rfl
  rw [run_sliceAt_slice _ _ _ _ _ _ hU, run_slice_l _ _ _ _ _ hU _ _ (by decide) (by omega), hz]
  show Result.ok (sliced (some ⟨b, o, none⟩) 1 n cap 1) W = _
  unfold sliced dpO
  by_cases e : cap = 1
  · rw [if_pos e, if_pos e]
  · rw [if_neg e, if_neg e]
    rfl
section
variable {P : Program} {ops : Array Oper} {S : World → Prop}
theorem yieldsIf_sliceC {o : Oper} {a : Act} {x y : Operand} {v u i : Value} {t : TypeId} (hg : o.guard = none) (ho : o.op = .slice t x (some y) none none) (hx : a.eval x = u) (hy : a.eval y = i) (hrun : ∀ w, (Instr.sliceAt t u (some i) none none).run P w = .ok v w) : YieldsIf P ops S o v a :=
  Or.inl ⟨by unfold Region.wanted; rw [hg], fun w _ => by
    unfold execOp
    simp only [ho, hx, hy, Option.map, Sem.run_bind, hrun w, Result.andThen_ok]
    rfl⟩
end
theorem hidx2s (b o : Nat) {k n : Nat} (cap : Nat) (hk : k < n) (w : World) : (Instr.indexAt 22 (.slice (some ⟨b, o, none⟩) n cap) (.int .i64 k)).run Tryz.prog w = .ok (.pointer (some ⟨b, o + k, none⟩)) w := by
  have h2 : (0 : Int) ≤ (k : Int) := by omega
  have h3 : (k : Int) < (n : Int) := by omega
  go_simp
theorem hload1s (w : World) {b o : Nat} {x : Value} (h : w.cell? ⟨b, o, none⟩ = some x) : (Instr.loadAt 47 (.pointer (some ⟨b, o, none⟩))).run Tryz.prog w = .ok x w := by go_simp

set_option maxRecDepth 100000 in
set_option maxHeartbeats 3200000 in
theorem columnComplex_any (p : Int) (i : Nat) (dv av vv : Value) (ds : List (List Int)) (ac dn : List (List (List (List Int)))) (w : World) (h : Dx 0 w dv av vv ds ac dn) (hc : L5 0 w vv dn) (hi : i < ds.length) (hid : i < dn.length) (hn : 1 ≤ (dn.getD i []).length) :
    Calls Tryz.prog 51 #[.agg #[.int .i64 p, dv, av, vv], .int .i64 (i : Int)] w fun e w' => ∃ a1 c1 a2 c2, e = .returned (.agg #[.int .i64 p, .slice a1 (clD ds i).length c1, .slice a2 (clM dn i).length c2]) ∧ Below w.heap.size w w' ∧ Cx 0 w' (.slice a1 (clD ds i).length c1) (.slice a2 (clM dn i).length c2) (clD ds i) (clM dn i) := by
  have hres : Tryz.f51.results = #[.cell 4 66] := by kernel_rfl
  have HRES := Lib.hid hres
  have hx0 := (DBx.start (p := p) 29 h).next (w' := (w.alloc (.cells #[.int .i64 p, dv, av, vv] 29)).alloc (.cells #[.int .i64 0, .slice none 0 0, .slice none 0 0] 66)) ((Below.refl _ _).alloc (Nat.le_refl _) _)
  rcases h.dims with ⟨hx, _⟩ | ⟨b, o, c2', hdv, _, _, hcl⟩
  · exact absurd (hx ▸ hi) (Nat.not_lt_zero _)
  rcases hc with ⟨hx, _⟩ | ⟨bd, od, cd', hvv, _, _, hcld⟩
  · exact absurd (hx ▸ hid) (Nat.not_lt_zero _)
  obtain ⟨ur, hur, hrr⟩ := hcl i hi
  obtain ⟨ud, hud, hrd, hcap⟩ := hcld i hid
  obtain ⟨a1, c1, rfl⟩ := Sl.shape hrr
  rw [getD_of_lt _ hid] at hn
  rcases hrd with ⟨hx, _⟩ | ⟨b3, o3, c3, hud3, _, _, hcl3⟩
  · rw [hx] at hn; exact absurd hn (by decide)
  subst hud3
  have hbw : Below w.heap.size w ((w.alloc (.cells #[.int .i64 p, dv, av, vv] 29)).alloc (.cells #[.int .i64 0, .slice none 0 0, .slice none 0 0] 66)) := hx0.below
  have hcx : Cx 0 w (.slice a1 (clD ds i).length c1) (.slice (some ⟨b3, dpO o3 c3, none⟩) (clM dn i).length (c3 - 1)) (clD ds i) (clM dn i) := by
    refine ⟨by unfold clD; rw [getD_of_lt _ hi]; exact hrr, ?_⟩
    unfold clM
    rw [getD_of_lt _ hid, List.length_drop]
    refine Sl.drop1 (b := b3) (o := o3) rfl (Nat.zero_le _) hcl3 (dpO o3 c3) ?_ _
    obtain ⟨a', n', c', e, hle⟩ := hcap
    injection e with e1 e2 e3
    unfold dpO
    by_cases e : c3 = 1
    · left; omega
    · right; rw [if_neg e]
  have HCX := Lib.hid hcx
  have hlm : (clM dn i).length = (dn[i]).length - 1 := by unfold clM; rw [getD_of_lt _ hid, List.length_drop]
  have hld : (clD ds i).length = (ds[i]).length := by unfold clD; rw [getD_of_lt _ hi]
  rw [hlm, hld]
  have HLM := Lib.hid hlm
  have HLD := Lib.hid hld
  obtain ⟨q, hq⟩ : ∃ q, q = (ds[i]).length := ⟨_, rfl⟩
  obtain ⟨qd, hqd⟩ : ∃ q, q = (dn[i]).length := ⟨_, rfl⟩
  obtain ⟨m, hm⟩ : ∃ m, m = ds.length := ⟨_, rfl⟩
  obtain ⟨md, hmd⟩ : ∃ m, m = dn.length := ⟨_, rfl⟩
  rw [← hq] at hur HLD ⊢
  rw [← hqd] at hud hn HLM ⊢
  rw [← hm] at hi hdv
  rw [← hmd] at hid hvv
  subst hdv
  subst hvv
  obtain ⟨W0, hW0⟩ : ∃ W0, W0 = (w.alloc (.cells #[.int .i64 p, .slice (some ⟨b, o, none⟩) m c2', av, .slice (some ⟨bd, od, none⟩) md cd'] 29)).alloc (.cells #[.int .i64 0, .slice none 0 0, .slice none 0 0] 66) := ⟨_, rfl⟩
  have hz0 : W0.heap.size = w.heap.size + 2 := by rw [hW0]; simp
  have hr0 : W0.heap[w.heap.size + 1]? = some (.cells #[.int .i64 0, .slice none 0 0, .slice none 0 0] 66) := by rw [hW0]; have := heap_alloc_new (w.alloc (.cells #[.int .i64 p, .slice (some ⟨b, o, none⟩) m c2', av, .slice (some ⟨bd, od, none⟩) md cd'] 29)) (.cells #[.int .i64 0, .slice none 0 0, .slice none 0 0] 66); simpa using this
  rw [← hW0] at hx0 hbw
  have HX0 := Lib.hid hx0
  have HBW := Lib.hid hbw
  have HNX : Hid (∀ X, Below W0.heap.size W0 X → X.cell? ⟨w.heap.size, 0, none⟩ = some (.int .i64 p) ∧ X.cell? ⟨w.heap.size, 1, none⟩ = some (.slice (some ⟨b, o, none⟩) m c2') ∧ X.cell? ⟨w.heap.size, 3, none⟩ = some (.slice (some ⟨bd, od, none⟩) md cd')) := Lib.hid (fun X hb => let h := HX0.out.next hb; ⟨h.c0, h.c1, h.c3⟩)
  have HUR : Hid (∀ X, Below W0.heap.size W0 X → X.cell? ⟨b, o + i, none⟩ = some (.slice a1 q c1) ∧ X.cell? ⟨bd, od + i, none⟩ = some (.slice (some ⟨b3, o3, none⟩) qd c3)) := Lib.hid (fun X hb => ⟨later (HBW.out.trans (hb.mono HBW.out.size)) (Nat.le_refl _) hur, later (HBW.out.trans (hb.mono HBW.out.size)) (Nat.le_refl _) hud⟩)
  have HR0 := Lib.hid hr0
  clear hx0 hbw hcx hcl hcld hcl3 hrr hcap h hur hud hr0 hq hqd hm hmd hlm hld hres
  go_enter Tryz.func51, Tryz.ntmps51
  go_upto_region 1 with fail
  rw [← hW0]
  clear hW0
  refine wp_region_last (fun X => Below W0.heap.size W0 X) 14 (by kernel_rfl) rfl (by kernel_rfl) ?_
  have S0 : Below W0.heap.size W0 W0.drew := (Below.refl _ _).drew
  change wpAnyH _ _ _ _ _ _ _ _ W0.drew
  obtain ⟨wd, hwd⟩ : ∃ wd, wd = W0.drew := ⟨_, rfl⟩
  rw [← hwd] at S0 ⊢
  have HRD : Hid (wd.heap[w.heap.size + 1]? = some (.cells #[.int .i64 0, .slice none 0 0, .slice none 0 0] 66)) := Lib.hid ((S0.block _ (by omega)).trans HR0.out)
  clear hwd
  refine held_take (i := 0) (v := .pointer (some ⟨w.heap.size, 0, none⟩)) (some 5) rfl rfl (by kernel_rfl) (by kernel_rfl) (by kernel_rfl) (fun _ _ _ h => h) (yieldsIf_run (by kernel_rfl) (fun W _ => by kernel_rfl)) S0 ?_
  refine held_take (i := 1) (v := .int .i64 p) (some 6) rfl rfl (by kernel_rfl) (by kernel_rfl) (by kernel_rfl) (fun _ _ _ h => h) (yieldsIf_cell (by kernel_rfl) rfl (by kernel_rfl) (fun W h => hloadIn W (HNX.out W h).1)) S0 ?_
  refine held_take (i := 2) (v := .pointer (some ⟨w.heap.size, 1, none⟩)) (some 7) rfl rfl (by kernel_rfl) (by kernel_rfl) (by kernel_rfl) (fun _ _ _ h => h) (yieldsIf_run (by kernel_rfl) (fun W _ => by kernel_rfl)) S0 ?_
  refine held_take (i := 3) (v := .slice (some ⟨b, o, none⟩) m c2') (some 8) rfl rfl (by kernel_rfl) (by kernel_rfl) (by kernel_rfl) (fun _ _ _ h => h) (yieldsIf_cell (by kernel_rfl) rfl (by kernel_rfl) (fun W h => hload2s W (HNX.out W h).2.1)) S0 ?_
  refine held_take (i := 4) (v := .int .i64 (i : Int)) (some 9) rfl rfl (by kernel_rfl) (by kernel_rfl) (by kernel_rfl) (fun _ _ _ h => h) (yieldsIf_move (by kernel_rfl) rfl (by kernel_rfl)) S0 ?_
  refine held_take (i := 5) (v := .pointer (some ⟨b, o + i, none⟩)) (some 10) rfl rfl (by kernel_rfl) (by kernel_rfl) (by kernel_rfl) (fun _ _ _ h => h) (yieldsIf_index (by kernel_rfl) rfl (by kernel_rfl) (by kernel_rfl) (hidx2s b o c2' hi)) S0 ?_
  refine held_take (i := 6) (v := .slice a1 q c1) (some 11) rfl rfl (by kernel_rfl) (by kernel_rfl) (by kernel_rfl) (fun _ _ _ h => h) (yieldsIf_cell (by kernel_rfl) rfl (by kernel_rfl) (fun W h => hload1s W (HUR.out W h).1)) S0 ?_
  refine held_take (i := 7) (v := .pointer (some ⟨w.heap.size, 3, none⟩)) (some 12) rfl rfl (by kernel_rfl) (by kernel_rfl) (by kernel_rfl) (fun _ _ _ h => h) (yieldsIf_run (by kernel_rfl) (fun W _ => by kernel_rfl)) S0 ?_
  refine held_take (i := 8) (v := .slice (some ⟨bd, od, none⟩) md cd') (some 13) rfl rfl (by kernel_rfl) (by kernel_rfl) (by kernel_rfl) (fun _ _ _ h => h) (yieldsIf_cell (by kernel_rfl) rfl (by kernel_rfl) (fun W h => hload4 W (HNX.out W h).2.2)) S0 ?_
  refine held_take (i := 9) (v := .int .i64 (i : Int)) (some 14) rfl rfl (by kernel_rfl) (by kernel_rfl) (by kernel_rfl) (fun _ _ _ h => h) (yieldsIf_move (by kernel_rfl) rfl (by kernel_rfl)) S0 ?_
  refine held_take (i := 10) (v := .pointer (some ⟨bd, od + i, none⟩)) (some 15) rfl rfl (by kernel_rfl) (by kernel_rfl) (by kernel_rfl) (fun _ _ _ h => h) (yieldsIf_index (by kernel_rfl) rfl (by kernel_rfl) (by kernel_rfl) (hidx4 (cap := cd') rfl hid)) S0 ?_
  refine held_take (i := 11) (v := .slice (some ⟨b3, o3, none⟩) qd c3) (some 16) rfl rfl (by kernel_rfl) (by kernel_rfl) (by kernel_rfl) (fun _ _ _ h => h) (yieldsIf_cell (by kernel_rfl) rfl (by kernel_rfl) (fun W h => hload3s W (HUR.out W h).2)) S0 ?_
  refine held_take (i := 12) (v := .slice (some ⟨b3, dpO o3 c3, none⟩) (qd - 1) (c3 - 1)) (some 17) rfl rfl (by kernel_rfl) (by kernel_rfl) (by kernel_rfl) (fun _ _ _ h => h) (yieldsIf_sliceC (by kernel_rfl) rfl (by kernel_rfl) (by kernel_rfl) (fun W => drop_run b3 o3 qd c3 hn W)) S0 ?_
  refine held_take (i := 13) (v := .agg #[.int .i64 p, .slice a1 q c1, .slice (some ⟨b3, dpO o3 c3, none⟩) (qd - 1) (c3 - 1)]) (some 18) rfl rfl (by kernel_rfl) (by kernel_rfl) (by kernel_rfl) (fun _ _ _ h => h) (yieldsIf_run (by kernel_rfl) (fun W _ => by kernel_rfl)) S0 ?_
  refine held_none (i := 14) (v := .bool false) rfl rfl (by kernel_rfl) (by kernel_rfl) (by kernel_rfl) (fun _ _ _ h => h) (yieldsIf_move (by kernel_rfl) rfl (by kernel_rfl)) S0 ?_
  refine wpAnyH_done (by kernel_rfl) (lastQ_of rfl (by kernel_rfl) ?_) _
  simp only [Act.put, List.setIfInBounds_toArray, List.set_cons_zero, List.set_cons_succ]
  have r0 := rowIs3 HRD.out
  have q0 : wd.cell? ⟨w.heap.size + 1, 0, none⟩ = some (.int .i64 0) := r0.cell (i := 0) (by omega)
  have z0 : wd.frozen? ⟨w.heap.size + 1, 0, none⟩ = false := r0.frozen 0
  have r1 := r0.set 0 (.int .i64 p)
  have q1 : (wd.setCell ⟨w.heap.size + 1, 0, none⟩ (.int .i64 p)).cell? ⟨w.heap.size + 1, 1, none⟩ = some (.slice none 0 0) := r1.cell (i := 1) (by omega)
  have z1 : (wd.setCell ⟨w.heap.size + 1, 0, none⟩ (.int .i64 p)).frozen? ⟨w.heap.size + 1, 1, none⟩ = false := r1.frozen 1
  have r2 := r1.set 1 (.slice a1 q c1)
  have q2 : ((wd.setCell ⟨w.heap.size + 1, 0, none⟩ (.int .i64 p)).setCell ⟨w.heap.size + 1, 1, none⟩ (.slice a1 q c1)).cell? ⟨w.heap.size + 1, 2, none⟩ = some (.slice none 0 0) := r2.cell (i := 2) (by omega)
  have z2 : ((wd.setCell ⟨w.heap.size + 1, 0, none⟩ (.int .i64 p)).setCell ⟨w.heap.size + 1, 1, none⟩ (.slice a1 q c1)).frozen? ⟨w.heap.size + 1, 2, none⟩ = false := r2.frozen 2
  have r3 := r2.set 2 (.slice (some ⟨b3, dpO o3 c3, none⟩) (qd - 1) (c3 - 1))
  obtain ⟨WF, hWF⟩ : ∃ W : World, W = (((wd.setCell ⟨w.heap.size + 1, 0, none⟩ (.int .i64 p)).setCell ⟨w.heap.size + 1, 1, none⟩ (.slice a1 q c1)).setCell ⟨w.heap.size + 1, 2, none⟩ (.slice (some ⟨b3, dpO o3 c3, none⟩) (qd - 1) (c3 - 1))) := ⟨_, rfl⟩
  have HB : Hid (Below w.heap.size w WF) := Lib.hid (by
    rw [hWF]
    exact (((HBW.out.trans (S0.mono HBW.out.size)).setCell (by show w.heap.size ≤ w.heap.size + 1; omega) _).setCell (by show w.heap.size ≤ w.heap.size + 1; omega) _).setCell (by show w.heap.size ≤ w.heap.size + 1; omega) _)
  rw [← hWF] at r3
  have f0 : WF.cell? ⟨w.heap.size + 1, 0, none⟩ = some (.int .i64 p) := r3.cell (i := 0) (by omega)
  have f1 : WF.cell? ⟨w.heap.size + 1, 1, none⟩ = some (.slice a1 q c1) := r3.cell (i := 1) (by omega)
  have f2 : WF.cell? ⟨w.heap.size + 1, 2, none⟩ = some (.slice (some ⟨b3, dpO o3 c3, none⟩) (qd - 1) (c3 - 1)) := r3.cell (i := 2) (by omega)
  have HWF := Lib.hid hWF
  clear r0 r1 r2 r3 hWF S0
  go_simp
  rw [← HWF.out]
  go_wp2
  refine bodyPost_ret (v := .agg #[.int .i64 p, .slice a1 q c1, .slice (some ⟨b3, dpO o3 c3, none⟩) (qd - 1) (c3 - 1)]) ?_ rfl ?_
  · simp only [results, HRES.out]
    go_simp
  · have hcx := HCX.out.below HB.out
    rw [HLM.out, HLD.out] at hcx
    exact ⟨_, _, _, _, rfl, HB.out, hcx⟩
end Go.Proofs.YtlopenephgabhaaGreat


namespace Go.Proofs.YtlopenephgabhaaGreat
open Go.RowKit

/-- The homology number of a degree. -/
def HNum (p : Int) (ds : List Int) (ms : List (List (List Int))) (q : Nat) (x : Int) : Prop :=
  ∃ R1 R2, SpF p (dimN ds (q : Int)) (CycS p (dimN ds (q : Int)) (cycM ds q) (cycT ds ms q)) R1 ∧ SpF p (dimN ds (q : Int)) (Lin.Sp p ((tabN ms q).map ofL)) R2 ∧ x = (R1.length : Int) - (R2.length : Int)
theorem SpF.unique {p : Int} {n : Nat} {S : Lin.V → Prop} {R R' : List Lin.V} (hp : 1 < p) (h : SpF p n S R) (k : SpF p n S R') : R = R' := Lin.Red.unique hp h.1 k.1 (fun v => (h.2.2 v).trans (k.2.2 v).symm)
theorem HNum.unique {p : Int} {ds : List Int} {ms : List (List (List Int))} {q : Nat} {x y : Int} (hp : 1 < p) (h : HNum p ds ms q x) (k : HNum p ds ms q y) : x = y := by
  obtain ⟨A, B, a, b, rfl⟩ := h
  obtain ⟨C, D, c, d, rfl⟩ := k
  rw [a.unique hp c, b.unique hp d]
def NumR (p : Int) (ds : List Int) (ms : List (List (List Int))) (q : Nat) (w : World) (e : Ending) (w' : World) : Prop := ∃ x : Int, e = .returned (.int .i64 x) ∧ Below w.heap.size w w' ∧ HNum p ds ms q x

set_option maxHeartbeats 1600000 in
set_option maxRecDepth 100000 in
theorem homologyNumber_any (p : Int) (q : Nat) (dv mv : Value) (ds : List Int) (ms : List (List (List Int))) (w : World) (h : Cx 0 w dv mv ds ms) (hcx : IsCx p ds ms) (hq : q < ds.length) :
    Calls Tryz.prog 50 #[.agg #[.int .i64 p, dv, mv], .int .i64 q] w (NumR p ds ms q w) := by
  have HX0 := Lib.hid (Bx.start (p := p) 66 h)
  obtain ⟨ad, cap, rfl⟩ := Sl.shape h.dims
  obtain ⟨am, capm, rfl⟩ := Sl.shape h.maps
  have HCX := Lib.hid hcx
  have hd8 := (dimN_le8 hcx q).1
  have c0 := HX0.out.c0
  have c1 := HX0.out.c1
  have c2 := HX0.out.c2
  clear h hcx
  go_enter Tryz.func50, Tryz.ntmps50
  go_wp2
  go_region_held3 (fun w' => w'.cell? ⟨w.heap.size, 0, none⟩ = some (.int .i64 p) ∧ w'.cell? ⟨w.heap.size, 1, none⟩ = some (.slice ad ds.length cap) ∧ w'.cell? ⟨w.heap.size, 2, none⟩ = some (.slice am ms.length capm) ∧ Hid (Bx w w' w.heap.size p (.slice ad ds.length cap) (.slice am ms.length capm) ds ms))
    (first | exact ⟨HX0.out.c0, HX0.out.c1, HX0.out.c2, HX0⟩ | exact ⟨HX0.out.c0, HX0.out.c1, HX0.out.c2, Lib.hid (HX0.out.next (Below.refl _ _).drew)⟩ | exact ⟨HX3.out.c0, HX3.out.c1, HX3.out.c2, HX3⟩ | exact ⟨HX4.out.c0, HX4.out.c1, HX4.out.c2, HX4⟩ | go_keep)
    (first
      | (go_at_call 54; refine (cycleSpace_any p q _ _ ds ms _ ?_ HCX.out hq).mono ?_; (exact (HX0.out.next (Below.refl _ _).drew).cx); rintro e w3 ⟨s3, R1, rfl, hb3, ho3, hr3⟩; obtain ⟨a3, c3, rfl⟩ := ho3.shape; have HX3 := Lib.hid ((HX0.out.next (Below.refl _ _).drew).next hb3); have HR3 := Lib.hid hr3; have hl3 := hr3.short; clear ho3 hb3 hr3)
      | (go_at_call 56; refine (boundarySpace_any p q _ _ ds ms _ HX3.out.cx HCX.out).mono ?_; rintro e w4 ⟨s4, R2, rfl, hb4, ho4, hr4⟩; obtain ⟨a4, c4, rfl⟩ := ho4.shape; have HX4 := Lib.hid (HX3.out.next hb4); have HR4 := Lib.hid hr4; have hl4 := hr4.short; clear ho4 hb4 hr4))
  go_wp2
  go_ret
  refine ⟨(R1.length : Int) - (R2.length : Int), ret_int ?_, HX4.out.below, R1, R2, HR3.out, HR4.out, rfl⟩
  first | rfl | exact IntWalk.i64_in _ (by omega)

end Go.Proofs.YtlopenephgabhaaGreat


namespace Go.Proofs.YtlopenephgabhaaGreat
open Go.RowKit

section
variable {p : Int} {ds : List (List Int)} {ac dn : List (List (List (List Int)))} {i : Nat}
theorem cl_pre (h : IsDb p ds ac dn) (hi : i < ds.length) : PreOk p (clD ds i) (clM dn i) := by
  have hs := cl_sz h.cel h.tbs hi
  exact ⟨h.prime, hs.len0, hs.len1, hs.mlen, hs.dims, fun k hk => cl_tabk h.cel h.tbs hi hk⟩
theorem cl_cx (h : IsDb p ds ac dn) (hi : i < ds.length) : IsCx p (clD ds i) (clM dn i) := by
  have hpre := cl_pre h hi
  refine ⟨hpre, fun q hq r hr => (apT_null (hpre.ap hq hr)).2 (fun t ht => ?_)⟩
  obtain ⟨s, hs, rfl⟩ := List.getElem_of_mem hr
  have hl := cl_mlen h.cel h.tbs hi
  have hc : (i, q + 2) ∈ cellsTo ds ds.length := mem_cells.2 ⟨hi, by show q + 2 < (clD ds i).length; omega⟩
  have htab := cl_tabk h.cel h.tbs hi hq
  have hrow := htab.2 _ (List.getElem_mem hs)
  have hd := h.cnd.dd i q s t hc (by show s < ((clD ds i).getD (q + 2) 0).toNat; have := htab.1; have e : q + 1 + 1 = q + 2 := rfl; rw [e] at this; omega) ht
  have e1 : tbl dn (i, q + 2) = (clM dn i).getD (q + 1) [] := (clM_at dn i (q + 1)).symm
  have e2 : tbl dn (i, q + 1) = (clM dn i).getD q [] := (clM_at dn i q).symm
  have e3 : cdim ds (i, q + 1) = (((clM dn i).getD (q + 1) [])[s]).length := by show ((clD ds i).getD (q + 1) 0).toNat = _; have := hrow.1; omega
  rw [e1, e2, e3, getD_of_lt _ hs] at hd
  exact hd
end

set_option maxRecDepth 100000 in
set_option maxHeartbeats 3200000 in
theorem columnNumber_any (p : Int) (i j : Nat) (dv av vv : Value) (ds : List (List Int)) (ac dn : List (List (List (List Int)))) (w : World) (h : Dx 0 w dv av vv ds ac dn) (hc : L5 0 w vv dn) (hdb : IsDb p ds ac dn) (hi : i < ds.length) (hj : j < (clD ds i).length) :
    Calls Tryz.prog 25 #[.agg #[.int .i64 p, dv, av, vv], .agg #[.int .i64 (i : Int), .int .i64 (j : Int)]] w (NumR p (clD ds i) (clM dn i) j w) := by
  obtain ⟨W0, hW0⟩ : ∃ W0, W0 = (w.alloc (.cells #[.int .i64 p, dv, av, vv] 29)).alloc (.cells #[.int .i64 (i : Int), .int .i64 (j : Int)] 63) := ⟨_, rfl⟩
  have HX : Hid (DBx w W0 w.heap.size p dv av vv ds ac dn) := Lib.hid (by rw [hW0]; exact (DBx.start 29 h).next (below_alloc1 _ _))
  have HL := Lib.hid (hc.below HX.out.below)
  have x0 : W0.cell? ⟨w.heap.size + 1, 0, none⟩ = some (.int .i64 (i : Int)) := by rw [hW0]; simp
  have x1 : W0.cell? ⟨w.heap.size + 1, 1, none⟩ = some (.int .i64 (j : Int)) := by rw [hW0]; simp
  have HNX : Hid (∀ X, Below W0.heap.size W0 X → DBx w X w.heap.size p dv av vv ds ac dn ∧ L5 0 X vv dn ∧ X.cell? ⟨w.heap.size + 1, 0, none⟩ = some (.int .i64 (i : Int)) ∧ X.cell? ⟨w.heap.size + 1, 1, none⟩ = some (.int .i64 (j : Int))) := Lib.hid (fun X hb => ⟨HX.out.next hb, HL.out.below hb, later hb (Nat.le_refl _) x0, later hb (Nat.le_refl _) x1⟩)
  have HDB := Lib.hid hdb
  have hkn : i < dn.length := by have := hdb.tbs.ld; omega
  have hn1 : 1 ≤ (dn.getD i []).length := by have h1 := hdb.tbs.cd i hi; have h2 := (cl_len hdb.cel hi).1; unfold clD at h2; omega
  clear h hc hdb x0 x1
  go_enter Tryz.func25, Tryz.ntmps25
  go_upto_region 1 with fail
  rw [← hW0]
  clear hW0
  refine wp_region_last (fun X => Below W0.heap.size W0 X) 7 (by kernel_rfl) rfl (by kernel_rfl) ?_
  have S0 : Below W0.heap.size W0 W0.drew := (Below.refl _ _).drew
  change wpAnyH _ _ _ _ _ _ _ _ W0.drew
  obtain ⟨wd, hwd⟩ : ∃ wd, wd = W0.drew := ⟨_, rfl⟩
  rw [← hwd] at S0 ⊢
  clear hwd
  refine held_take (i := 0) (v := .agg #[.int .i64 p, dv, av, vv]) (some 5) rfl rfl (by kernel_rfl) (by kernel_rfl) (by kernel_rfl) (fun _ _ _ h => h) (yieldsIf_cell (by kernel_rfl) rfl (by kernel_rfl) (fun W h => hloadDb W (HNX.out W h).1)) S0 ?_
  refine held_take (i := 1) (v := .pointer (some ⟨w.heap.size + 1, 0, none⟩)) (some 6) rfl rfl (by kernel_rfl) (by kernel_rfl) (by kernel_rfl) (fun _ _ _ h => h) (yieldsIf_run (by kernel_rfl) (fun W _ => by kernel_rfl)) S0 ?_
  refine held_take (i := 2) (v := .int .i64 (i : Int)) (some 7) rfl rfl (by kernel_rfl) (by kernel_rfl) (by kernel_rfl) (fun _ _ _ h => h) (yieldsIf_cell (by kernel_rfl) rfl (by kernel_rfl) (fun W h => hloadIn W (HNX.out W h).2.2.1)) S0 ?_
  refine held_take (i := 4) (v := .pointer (some ⟨w.heap.size + 1, 1, none⟩)) (some 9) rfl rfl (by kernel_rfl) (by kernel_rfl) (by kernel_rfl) (fun _ _ _ h => h) (yieldsIf_run (by kernel_rfl) (fun W _ => by kernel_rfl)) S0 ?_
  refine held_take (i := 5) (v := .int .i64 (j : Int)) (some 10) rfl rfl (by kernel_rfl) (by kernel_rfl) (by kernel_rfl) (fun _ _ _ h => h) (yieldsIf_cell (by kernel_rfl) rfl (by kernel_rfl) (fun W h => hloadIn W (HNX.out W h).2.2.2)) S0 ?_
  refine held_enter (i := 3) (some 8) (f := 51) (args := #[.agg #[.int .i64 p, dv, av, vv], .int .i64 (i : Int)]) (by kernel_rfl) rfl rfl rfl (by kernel_rfl) (columnComplex_any p i dv av vv ds ac dn wd (HNX.out wd S0).1.dx (HNX.out wd S0).2.1 hi hkn hn1) ?_ (fun c w' h => by obtain ⟨_, _, _, _, h, _⟩ := h; cases h) (fun w' h => by obtain ⟨_, _, _, _, h, _⟩ := h; cases h)
  rintro e3 W3 ⟨a1, c1, a2, c2, he3, hb3, hcx3⟩
  injection he3 with he3
  subst he3
  have S1 : Below W0.heap.size W0 W3 := S0.trans (hb3.mono S0.size)
  refine ⟨S1, ?_⟩
  refine held_enter (i := 6) (some 11) (f := 50) (args := #[.agg #[.int .i64 p, .slice a1 (clD ds i).length c1, .slice a2 (clM dn i).length c2], .int .i64 (j : Int)]) (by kernel_rfl) rfl rfl rfl (by kernel_rfl) (homologyNumber_any p j _ _ (clD ds i) (clM dn i) W3 hcx3 (cl_cx HDB.out hi) hj) ?_ (fun c w' h => by obtain ⟨_, h, _⟩ := h; cases h) (fun w' h => by obtain ⟨_, h, _⟩ := h; cases h)
  rintro e4 W4 ⟨x, he4, hb4, hx⟩
  injection he4 with he4
  subst he4
  have S2 : Below W0.heap.size W0 W4 := S1.trans (hb4.mono S1.size)
  refine ⟨S2, ?_⟩
  refine held_none (i := 7) (v := .bool false) rfl rfl (by kernel_rfl) (by kernel_rfl) (by kernel_rfl) (fun _ _ _ h => h) (yieldsIf_move (by kernel_rfl) rfl (by kernel_rfl)) S2 ?_
  refine wpAnyH_done (by kernel_rfl) (lastQ_of rfl (by kernel_rfl) ?_) _
  simp only [Act.put, List.setIfInBounds_toArray, List.set_cons_zero, List.set_cons_succ]
  have HBF := Lib.hid (HX.out.below.trans (S2.mono HX.out.below.size))
  have HNU := Lib.hid hx
  clear S0 S1 S2 hb3 hb4 hx hcx3
  go_simp
  go_wp2
  go_ret
  exact ⟨x, rfl, HBF.out, HNU.out⟩
end Go.Proofs.YtlopenephgabhaaGreat


namespace Go.Proofs.YtlopenephgabhaaGreat
open Go.RowKit

theorem cl_ker0 {p : Int} (hp : 1 < p) (m : Nat) (t : List (List Int)) : SpF p 0 (CycS p 0 m t) [] := by
  refine ⟨Lin.Red.nil p, by simp, fun v => ⟨fun h => ?_, fun h => ?_⟩⟩
  · cases h with
    | zero => exact ⟨fun i => ⟨Int.le_refl _, by show (0 : Int) < p; omega⟩, fun _ _ => rfl, fun j _ => by simp [Lin.dot]⟩
    | step c h1 h2 => exact absurd h2 (by simp)
  · have e : v = Lin.zv := funext fun i => h.2.1 i (Nat.zero_le _)
    rw [e]
    exact .zero
theorem l2_at {w : World} {dv : Value} {ds : List (List Int)} {i j : Nat} (h : L2 0 w dv ds) (hi : i < ds.length) (hj : j < (ds[i]).length) :
    ∃ bb o cd b2 o2 c2, dv = .slice (some ⟨bb, o, none⟩) ds.length cd ∧ w.cell? ⟨bb, o + i, none⟩ = some (.slice (some ⟨b2, o2, none⟩) (ds[i]).length c2) ∧ w.cell? ⟨b2, o2 + j, none⟩ = some (.int .i64 (ds[i])[j]) := by
  rcases h with ⟨hx, _⟩ | ⟨bb, o, cd, rfl, _, _, hcl⟩
  · exact absurd (hx ▸ hi) (Nat.not_lt_zero _)
  obtain ⟨u1, hu1, hr1⟩ := hcl i hi
  rcases hr1 with ⟨hx, _⟩ | ⟨b2, o2, c2, rfl, _, _, hcl2⟩
  · rw [hx] at hj; exact absurd hj (Nat.not_lt_zero _)
  obtain ⟨u2, hu2, hr2⟩ := hcl2 j hj
  have e : u2 = .int .i64 (ds[i])[j] := hr2
  subst e
  exact ⟨bb, o, cd, b2, o2, c2, rfl, hu1, hu2⟩
section
variable {p : Int} {ds : List (List Int)} {ac dn : List (List (List (List Int)))} {i j : Nat}
theorem cl_cell (_ : DclOk ds) (hi : i < ds.length) (hj : j < (clD ds i).length) : (i, j) ∈ cellsTo ds ds.length := mem_cells.2 ⟨hi, hj⟩
theorem cl_dimN : dimN (clD ds i) (j : Int) = cdim ds (i, j) := by unfold dimN; rw [Int.toNat_natCast]; rfl
theorem cl_height (hok : DclOk ds) (hi : i < ds.length) : (clD ds i).length = (ds.getD 0 []).length := by
  unfold clD
  rw [getD_of_lt _ hi]
  exact (hok.col _ (List.getElem_mem hi)).1
theorem cl_dco (hok : DclOk ds) (hi : i < ds.length) (hj : j < (clD ds i).length) : dco ds i j = (cdim ds (i, j) : Nat) := dco_cell hok (c := (i, j)) (mem_cells.2 ⟨hi, hj⟩)
theorem cl_cycT (h : IsDb p ds ac dn) (hi : i < ds.length) (hj : j < (clD ds i).length) : cycT (clD ds i) (clM dn i) j = tbl dn (i, j) := by
  unfold cycT mapZ
  by_cases h0 : 1 ≤ (j : Int) ∧ (j : Int) ≤ ((clD ds i).length : Int) - 1
  · rw [if_pos h0, Int.toNat_natCast, clM_at]
    show (dn.getD i []).getD (j - 1 + 1) [] = (dn.getD i []).getD j []
    rw [show j - 1 + 1 = j by omega]
  · rw [if_neg h0]
    obtain rfl : j = 0 := by omega
    have ht := (h.tbs.tab (i, 0) (mem_cells.2 ⟨hi, hj⟩)).2
    have e2 : dcl ds ((i : Nat) : Int) (((0 : Nat) : Int) - 1) = 0 := if_pos (Or.inr (by omega))
    have hlen : ((tbl dn (i, 0)).length : Int) = (ds.getD i []).getD 0 0 := by
      have h1 := ht.1
      simp only [dcl_nat] at h1
      exact h1
    have e3 : (dimZ (clD ds i) ((0 : Nat) : Int)).toNat = ((ds.getD i []).getD 0 0).toNat := by
      unfold dimZ
      rw [if_pos (by omega)]
      rfl
    rw [e3]
    refine (List.eq_replicate_iff.2 ⟨by omega, fun x hx => ?_⟩).symm
    have hx2 : (x.length : Int) = 0 := (ht.2 x hx).1.trans e2
    exact List.eq_nil_of_length_eq_zero (by omega)
theorem cl_bndT : tabN (clM dn i) j = tbl dn (i, j + 1) := clM_at dn i j
theorem tbl_len (h : TbsOk p ds ac dn) (hc : (i, j) ∈ cellsTo ds ds.length) : ((tbl dn (i, j)).length : Int) = (ds.getD i []).getD j 0 := by
  have h1 := (h.tab (i, j) hc).2.1
  simp only [dcl_nat] at h1
  exact h1
end

set_option maxRecDepth 100000 in
set_option maxHeartbeats 3200000 in
theorem l03Cycles_out (p i j : Int) (dv av vv : Value) (ds : List (List Int)) (ac dn : List (List (List (List Int)))) (w : World) (h : Dx 0 w dv av vv ds ac dn) (hok : DclOk ds) (hi : -1 ≤ i ∧ i ≤ 4) (hj : -1 ≤ j ∧ j ≤ 4) (hz : dco ds i (j) = 0) :
    Calls Tryz.prog 40 #[.agg #[.int .i64 p, dv, av, vv], .int .i64 i, .int .i64 j] w fun e w' => ∃ u, e = .returned u ∧ Gs w.heap.size w' u [] ∧ Below w.heap.size w w' := by
  obtain ⟨w1, hw1⟩ : ∃ w1, w1 = w.alloc (.cells #[.int .i64 p, dv, av, vv] 29) := ⟨_, rfl⟩
  have HX1 : Hid (DBx w w1 w.heap.size p dv av vv ds ac dn) := Lib.hid (by rw [hw1]; exact DBx.start 29 h)
  have HDM := Lib.hid (l03Dim_any p i (j) dv av vv ds w1 HX1.out.dx.dims hok (by omega) (by omega))
  rw [hz] at HDM
  have c0 := HX1.out.c0
  have c1 := HX1.out.c1
  have c2 := HX1.out.c2
  have c3 := HX1.out.c3
  have hwj : IntKind.i64.wrap (j + 1) = j + 1 := IntWalk.i64_in _ (by omega)
  clear h hok hz
  go_enter Tryz.func40, Tryz.ntmps40
  go_wp2_with fail
  rw [← hw1]
  clear hw1
  refine HDM.out.mono ?_
  rintro e w2 ⟨rfl, hb2⟩
  have HX2 := Lib.hid (HX1.out.next hb2)
  clear hb2 c0 c1 c2 c3 HDM
  have HG : Hid (Gs w.heap.size (w2.alloc (.cells #[] 47)) (.slice (some ⟨w2.heap.size, 0, none⟩) 0 0) []) := Lib.hid (Gs.new w2 HX2.out.below.size)
  go_wp2
  go_ret
  exact ⟨_, rfl, HG.out, (HX2.out.below).alloc HX2.out.below.size _⟩

set_option maxRecDepth 100000 in
set_option maxHeartbeats 3200000 in
theorem l03Bounds_out (p i j : Int) (dv av vv : Value) (ds : List (List Int)) (ac dn : List (List (List (List Int)))) (w : World) (h : Dx 0 w dv av vv ds ac dn) (hok : DclOk ds) (hi : -1 ≤ i ∧ i ≤ 4) (hj : -1 ≤ j ∧ j ≤ 4) (hz : dco ds i (j + 1) = 0) :
    Calls Tryz.prog 41 #[.agg #[.int .i64 p, dv, av, vv], .int .i64 i, .int .i64 j] w fun e w' => ∃ u, e = .returned u ∧ Gs w.heap.size w' u [] ∧ Below w.heap.size w w' := by
  obtain ⟨w1, hw1⟩ : ∃ w1, w1 = w.alloc (.cells #[.int .i64 p, dv, av, vv] 29) := ⟨_, rfl⟩
  have HX1 : Hid (DBx w w1 w.heap.size p dv av vv ds ac dn) := Lib.hid (by rw [hw1]; exact DBx.start 29 h)
  have HDM := Lib.hid (l03Dim_any p i (j + 1) dv av vv ds w1 HX1.out.dx.dims hok (by omega) (by omega))
  rw [hz] at HDM
  have c0 := HX1.out.c0
  have c1 := HX1.out.c1
  have c2 := HX1.out.c2
  have c3 := HX1.out.c3
  have hwj : IntKind.i64.wrap (j + 1) = j + 1 := IntWalk.i64_in _ (by omega)
  clear h hok hz
  go_enter Tryz.func41, Tryz.ntmps41
  go_wp2_with fail
  rw [← hw1]
  clear hw1
  refine HDM.out.mono ?_
  rintro e w2 ⟨rfl, hb2⟩
  have HX2 := Lib.hid (HX1.out.next hb2)
  clear hb2 c0 c1 c2 c3 HDM
  have HG : Hid (Gs w.heap.size (w2.alloc (.cells #[] 47)) (.slice (some ⟨w2.heap.size, 0, none⟩) 0 0) []) := Lib.hid (Gs.new w2 HX2.out.below.size)
  go_wp2
  go_ret
  exact ⟨_, rfl, HG.out, (HX2.out.below).alloc HX2.out.below.size _⟩

set_option maxRecDepth 100000 in
set_option maxHeartbeats 6400000 in
theorem l03Cycles_any (p : Int) (i j : Nat) (dv av vv : Value) (ds : List (List Int)) (ac dn : List (List (List (List Int)))) (w : World) (h : Dx 0 w dv av vv ds ac dn) (hdb : IsDb p ds ac dn) (hi : i < ds.length) (hj : j < (clD ds i).length) :
    Calls Tryz.prog 40 #[.agg #[.int .i64 p, dv, av, vv], .int .i64 (i : Int), .int .i64 (j : Int)] w (KerR p (dimN (clD ds i) (j : Int)) (cycM (clD ds i) j) (cycT (clD ds i) (clM dn i) j) w) := by
  obtain ⟨w1, hw1⟩ : ∃ w1, w1 = w.alloc (.cells #[.int .i64 p, dv, av, vv] 29) := ⟨_, rfl⟩
  have HX1 : Hid (DBx w w1 w.heap.size p dv av vv ds ac dn) := Lib.hid (by rw [hw1]; exact DBx.start 29 h)
  have HDB := Lib.hid hdb
  have HCX := Lib.hid (cl_cx hdb hi)
  have hi4 : i < 4 := by have := hdb.cel.len1; omega
  have hj4 : j < 4 := by have := (cl_len hdb.cel hi).2; omega
  by_cases hz : dco ds i (j : Int) = 0
  · have e0 : dimN (clD ds i) (j : Int) = 0 := by have h1 := cl_dco hdb.cel hi hj; rw [hz] at h1; rw [cl_dimN]; omega
    refine (l03Cycles_out p i j dv av vv ds ac dn w h hdb.cel (by omega) (by omega) hz).mono ?_
    rintro e w' ⟨u, rfl, hg, hb⟩
    exact ⟨u, [], rfl, hg, hb, by rw [e0]; exact cl_ker0 hdb.prime.lo1 _ _⟩
  have HNX : Hid (∀ W, Below w1.heap.size w1 W → DBx w W w.heap.size p dv av vv ds ac dn) := Lib.hid (fun W hb => HX1.out.next hb)
  have HDIM : Hid (Calls Tryz.prog 37 #[.agg #[.int .i64 p, dv, av, vv], .int .i64 (i : Int), .int .i64 (j : Int)] w1 fun e w' => e = .returned (.int .i64 (dco ds i (j : Int))) ∧ Below w1.heap.size w1 w') := Lib.hid (l03Dim_any p i (j : Int) dv av vv ds w1 HX1.out.dx.dims hdb.cel (by omega) (by omega))
  have HZN := Lib.hid hz
  clear h hdb
  have hia : i < dn.length := by rw [HDB.out.tbs.ld]; exact hi
  have hja : j < (dn[i]).length := by have h1 := HDB.out.tbs.cd i hi; have h2 : j < (clD ds i).length := (by first | exact hk | exact hj); rw [getD_of_lt _ hia] at h1; unfold clD at h2; omega
  obtain ⟨ba, oa, ca, b2, o2, k2, ut, hva, hA1, hA2, hTl⟩ := l4_at HX1.out.dx.down hia hja
  subst hva
  have hTt : (dn[i])[j] = tbl dn (i, j) := by unfold tbl; dsimp only; rw [getD_of_lt _ hia, getD_of_lt _ hja]
  rw [hTt] at hTl
  obtain ⟨n1, hn1⟩ : ∃ n, n = dn.length := ⟨_, rfl⟩
  obtain ⟨n2, hn2⟩ : ∃ n, n = (dn[i]).length := ⟨_, rfl⟩
  rw [← hn1] at HX1 HNX HDIM hw1 ⊢
  rw [← hn2] at hA1
  have hi1 : i < n1 := by omega
  have hj2 : j < n2 := by omega
  have HA1 := Lib.hid hA1
  have HA2 := Lib.hid hA2
  have HTL := Lib.hid hTl
  clear hn1 hn2 hA1 hA2 hTl hTt hia hja
  obtain ⟨ta, tc, hut⟩ := Sl.shape HTL.out
  obtain ⟨n3, hn3⟩ : ∃ n, n = (tbl dn (i, j)).length := ⟨_, rfl⟩
  rw [← hn3] at hut
  subst hut
  clear hn3
  have hjd : j < (ds[i]).length := by have h1 := hj; unfold clD at h1; rwa [getD_of_lt _ hi] at h1
  obtain ⟨bb, o, cd, b3, o3, k3, hdv, hD1, hD2⟩ := l2_at HX1.out.dx.dims hi hjd
  subst hdv
  have HDE : Hid ((ds[i])[j] = ((dimN (clD ds i) (j : Int) : Nat) : Int)) := Lib.hid (by rw [← (dimN_le8 HCX.out j).2]; unfold clD; rw [getD_of_lt _ hi, getD_of_lt _ hjd])
  rw [HDE.out] at hD2
  obtain ⟨m1, hm1⟩ : ∃ n, n = ds.length := ⟨_, rfl⟩
  obtain ⟨m2, hm2⟩ : ∃ n, n = (ds[i]).length := ⟨_, rfl⟩
  rw [← hm1] at HX1 HNX HDIM hw1 ⊢
  rw [← hm2] at hD1
  have hi3 : i < m1 := by omega
  have hj3 : j < m2 := by omega
  have HD1 := Lib.hid hD1
  have HD2 := Lib.hid hD2
  clear HDE hD1 hD2 hm1 hm2 hjd
  obtain ⟨dz, hdz⟩ : ∃ z, z = dco ds i (j : Int) := ⟨_, rfl⟩
  rw [← hdz] at HDIM HZN
  clear hdz
  have hne : (dz == 0) = false := by have := HZN.out; simp [this]
  have c0 := HX1.out.c0
  have c1 := HX1.out.c1
  have c2 := HX1.out.c2
  have c3 := HX1.out.c3
  go_enter Tryz.func40, Tryz.ntmps40
  go_wp2_with fail
  rw [← hw1]
  clear hw1
  refine HDIM.out.mono ?_
  rintro r W2 ⟨rfl, hb2⟩
  have HB2 := Lib.hid hb2
  clear hb2 c0 c1 c2 c3
  go_upto_region 3 with fail
  refine wp_region_held (S := fun W => Below w1.heap.size w1 W) (by kernel_rfl) ?_
  have S0 : Below w1.heap.size w1 W2.drew := HB2.out.drew
  change wpAnyH _ _ _ _ _ _ _ _ W2.drew
  obtain ⟨wd, hwd⟩ : ∃ wd, wd = W2.drew := ⟨_, rfl⟩
  rw [← hwd] at S0 ⊢
  clear hwd
  refine held_take (i := 0) (v := .pointer (some ⟨w.heap.size, 0, none⟩)) (some 13) rfl rfl (by kernel_rfl) (by kernel_rfl) (by kernel_rfl) (fun _ _ _ h => h) (yieldsIf_run (by kernel_rfl) (fun W _ => by kernel_rfl)) S0 ?_
  refine held_take (i := 1) (v := (.int .i64 p)) (some 14) rfl rfl (by kernel_rfl) (by kernel_rfl) (by kernel_rfl) (fun _ _ _ h => h) (yieldsIf_cell (by kernel_rfl) rfl (by kernel_rfl) (fun W h => hloadIn W (HNX.out W h).c0)) S0 ?_
  refine held_take (i := 2) (v := .pointer (some ⟨w.heap.size, 1, none⟩)) (some 15) rfl rfl (by kernel_rfl) (by kernel_rfl) (by kernel_rfl) (fun _ _ _ h => h) (yieldsIf_run (by kernel_rfl) (fun W _ => by kernel_rfl)) S0 ?_
  refine held_take (i := 3) (v := (.slice (some ⟨bb, o, none⟩) m1 cd)) (some 16) rfl rfl (by kernel_rfl) (by kernel_rfl) (by kernel_rfl) (fun _ _ _ h => h) (yieldsIf_cell (by kernel_rfl) rfl (by kernel_rfl) (fun W h => hload2s W (HNX.out W h).c1)) S0 ?_
  refine held_take (i := 4) (v := (.int .i64 (i : Int))) (some 17) rfl rfl (by kernel_rfl) (by kernel_rfl) (by kernel_rfl) (fun _ _ _ h => h) (yieldsIf_move (by kernel_rfl) rfl (by kernel_rfl)) S0 ?_
  refine held_take (i := 5) (v := .pointer (some ⟨bb, o + i, none⟩)) (some 18) rfl rfl (by kernel_rfl) (by kernel_rfl) (by kernel_rfl) (fun _ _ _ h => h) (yieldsIf_index (by kernel_rfl) rfl (by kernel_rfl) (by kernel_rfl) (hidxS bb o cd hi3)) S0 ?_
  refine held_take (i := 6) (v := (.slice (some ⟨b3, o3, none⟩) m2 k3)) (some 19) rfl rfl (by kernel_rfl) (by kernel_rfl) (by kernel_rfl) (fun _ _ _ h => h) (yieldsIf_cell (by kernel_rfl) rfl (by kernel_rfl) (fun W h => hload1s W (later h (Nat.le_refl _) HD1.out))) S0 ?_
  refine held_take (i := 7) (v := (.int .i64 (j : Int))) (some 20) rfl rfl (by kernel_rfl) (by kernel_rfl) (by kernel_rfl) (fun _ _ _ h => h) (yieldsIf_move (by kernel_rfl) rfl (by kernel_rfl)) S0 ?_
  refine held_take (i := 8) (v := .pointer (some ⟨b3, o3 + j, none⟩)) (some 21) rfl rfl (by kernel_rfl) (by kernel_rfl) (by kernel_rfl) (fun _ _ _ h => h) (yieldsIf_index (by kernel_rfl) rfl (by kernel_rfl) (by kernel_rfl) (hidxI b3 o3 k3 hj3)) S0 ?_
  refine held_take (i := 9) (v := (.int .i64 ((dimN (clD ds i) (j : Int) : Nat) : Int))) (some 22) rfl rfl (by kernel_rfl) (by kernel_rfl) (by kernel_rfl) (fun _ _ _ h => h) (yieldsIf_cell (by kernel_rfl) rfl (by kernel_rfl) (fun W h => hloadIn W (later h (Nat.le_refl _) HD2.out))) S0 ?_
  refine held_take (i := 10) (v := .pointer (some ⟨w.heap.size, 3, none⟩)) (some 23) rfl rfl (by kernel_rfl) (by kernel_rfl) (by kernel_rfl) (fun _ _ _ h => h) (yieldsIf_run (by kernel_rfl) (fun W _ => by kernel_rfl)) S0 ?_
  refine held_take (i := 11) (v := (.slice (some ⟨ba, oa, none⟩) n1 ca)) (some 24) rfl rfl (by kernel_rfl) (by kernel_rfl) (by kernel_rfl) (fun _ _ _ h => h) (yieldsIf_cell (by kernel_rfl) rfl (by kernel_rfl) (fun W h => hload4 W (HNX.out W h).c3)) S0 ?_
  refine held_take (i := 12) (v := (.int .i64 (i : Int))) (some 25) rfl rfl (by kernel_rfl) (by kernel_rfl) (by kernel_rfl) (fun _ _ _ h => h) (yieldsIf_move (by kernel_rfl) rfl (by kernel_rfl)) S0 ?_
  refine held_take (i := 13) (v := .pointer (some ⟨ba, oa + i, none⟩)) (some 26) rfl rfl (by kernel_rfl) (by kernel_rfl) (by kernel_rfl) (fun _ _ _ h => h) (yieldsIf_index (by kernel_rfl) rfl (by kernel_rfl) (by kernel_rfl) (hidx4 (cap := ca) rfl hi1)) S0 ?_
  refine held_take (i := 14) (v := (.slice (some ⟨b2, o2, none⟩) n2 k2)) (some 27) rfl rfl (by kernel_rfl) (by kernel_rfl) (by kernel_rfl) (fun _ _ _ h => h) (yieldsIf_cell (by kernel_rfl) rfl (by kernel_rfl) (fun W h => hload3s W (later h (Nat.le_refl _) HA1.out))) S0 ?_
  refine held_take (i := 15) (v := (.int .i64 (j : Int))) (some 28) rfl rfl (by kernel_rfl) (by kernel_rfl) (by kernel_rfl) (fun _ _ _ h => h) (yieldsIf_move (by kernel_rfl) rfl (by kernel_rfl)) S0 ?_
  refine held_take (i := 16) (v := .pointer (some ⟨b2, o2 + (j), none⟩)) (some 29) rfl rfl (by kernel_rfl) (by kernel_rfl) (by kernel_rfl) (fun _ _ _ h => h) (yieldsIf_index (by kernel_rfl) rfl (by kernel_rfl) (by kernel_rfl) (hidx3 b2 o2 k2 hj2)) S0 ?_
  refine held_take (i := 17) (v := (.slice ta n3 tc)) (some 30) rfl rfl (by kernel_rfl) (by kernel_rfl) (by kernel_rfl) (fun _ _ _ h => h) (yieldsIf_cell (by kernel_rfl) rfl (by kernel_rfl) (fun W h => hload2s W (later h (Nat.le_refl _) HA2.out))) S0 ?_
  refine held_enter (i := 18) (some 31) (f := 61) (args := #[.int .i64 p, .int .i64 ((dimN (clD ds i) (j : Int) : Nat) : Int), .slice ta n3 tc]) (by kernel_rfl) rfl rfl rfl (by kernel_rfl) ((by have hok := cyc_ok HCX.out (show j < (clD ds i).length from hj); have h8 := (dimN_le8 HCX.out j).1; exact l01Kernel_any p (dimN (clD ds i) (j : Int)) (cycM (clD ds i) j) _ (cycT (clD ds i) (clM dn i) j) wd HCX.out.1.prime (by rw [cl_cycT HDB.out hi hj]; exact HTL.out.below S0) hok.1 hok.2.1 (by omega) (by have := hok.2.2; omega))) ?_ (fun c w' h => by obtain ⟨_, _, h, _⟩ := h; cases h) (fun w' h => by obtain ⟨_, _, h, _⟩ := h; cases h)
  rintro e3 W3 ⟨u3, R, he3, hg3, hb3, hr3⟩
  injection he3 with he3
  subst he3
  have S1 : Below w1.heap.size w1 W3 := S0.trans (hb3.mono S0.size)
  have HG3 : Hid (Gs w.heap.size W3 e3 (R.map (toL (dimN (clD ds i) (j : Int))))) := Lib.hid (hg3.mono (by have := HX1.out.below.size; have := S0.size; omega))
  have HR3 := Lib.hid hr3
  clear hg3 hb3 hr3
  refine ⟨S1, ?_⟩
  refine held_take (i := 19) (v := e3) (some 6) rfl rfl (by kernel_rfl) (by kernel_rfl) (by kernel_rfl) (fun _ _ _ h => h) (yieldsIf_assign (by kernel_rfl) rfl (by kernel_rfl)) S1 ?_
  refine wpAnyH_done (by kernel_rfl) ?_ _
  simp only [Act.put, List.setIfInBounds_toArray, List.set_cons_zero, List.set_cons_succ]
  have HS1 := Lib.hid S1
  clear S0 S1
  go_wp2
  go_ret
  exact ⟨e3, R, rfl, HG3.out, HX1.out.below.trans (HS1.out.mono HX1.out.below.size), HR3.out⟩

set_option maxRecDepth 100000 in
set_option maxHeartbeats 6400000 in
theorem l03Bounds_any (p : Int) (i j : Nat) (dv av vv : Value) (ds : List (List Int)) (ac dn : List (List (List (List Int)))) (w : World) (h : Dx 0 w dv av vv ds ac dn) (hdb : IsDb p ds ac dn) (hi : i < ds.length) (hj : j < (clD ds i).length) :
    Calls Tryz.prog 41 #[.agg #[.int .i64 p, dv, av, vv], .int .i64 (i : Int), .int .i64 (j : Int)] w (EchR p (dimN (clD ds i) (j : Int)) ((tabN (clM dn i) j).map ofL) w) := by
  obtain ⟨w1, hw1⟩ : ∃ w1, w1 = w.alloc (.cells #[.int .i64 p, dv, av, vv] 29) := ⟨_, rfl⟩
  have HX1 : Hid (DBx w w1 w.heap.size p dv av vv ds ac dn) := Lib.hid (by rw [hw1]; exact DBx.start 29 h)
  have HDB := Lib.hid hdb
  have HCX := Lib.hid (cl_cx hdb hi)
  have hi4 : i < 4 := by have := hdb.cel.len1; omega
  have hj4 : j < 4 := by have := (cl_len hdb.cel hi).2; omega
  by_cases hz : dco ds i ((j : Int) + 1) = 0
  · have e0 : tabN (clM dn i) j = [] := by
      rw [cl_bndT]
      by_cases hk : j + 1 < (clD ds i).length
      · have h1 := tbl_len hdb.tbs (cl_cell hdb.cel hi hk)
        have h2 := cl_dco hdb.cel hi hk
        rw [show (((j + 1 : Nat)) : Int) = (j : Int) + 1 by omega, hz] at h2
        have h3 := cl_dimN (ds := ds) (i := i) (j := j + 1)
        have h4 := (dimN_le8 HCX.out (j + 1)).2
        rw [h3] at h4
        unfold clD at h4
        rw [h4] at h1
        exact List.eq_nil_of_length_eq_zero (by omega)
      · unfold tbl
        have := hdb.tbs.cd i hi
        unfold clD at hk
        simp [List.getD_eq_getElem?_getD, show (dn[i]?.getD []).length ≤ j + 1 by rw [← List.getD_eq_getElem?_getD]; omega]
    refine (l03Bounds_out p i j dv av vv ds ac dn w h hdb.cel (by omega) (by omega) hz).mono ?_
    rintro e w' ⟨u, rfl, hg, hb⟩
    exact ⟨u, [], rfl, hg, hb, by rw [e0]; exact RedN.nil p _, Nat.zero_le _⟩
  have hk : j + 1 < (clD ds i).length := by
    by_cases hk : j + 1 < (clD ds i).length
    · exact hk
    · exact absurd (if_neg (fun h => hk (by have := cl_height hdb.cel hi; have := h.2.2.2; omega))) hz
  have HNX : Hid (∀ W, Below w1.heap.size w1 W → DBx w W w.heap.size p dv av vv ds ac dn) := Lib.hid (fun W hb => HX1.out.next hb)
  have HDIM : Hid (Calls Tryz.prog 37 #[.agg #[.int .i64 p, dv, av, vv], .int .i64 (i : Int), .int .i64 ((j : Int) + 1)] w1 fun e w' => e = .returned (.int .i64 (dco ds i ((j : Int) + 1))) ∧ Below w1.heap.size w1 w') := Lib.hid (l03Dim_any p i ((j : Int) + 1) dv av vv ds w1 HX1.out.dx.dims hdb.cel (by omega) (by omega))
  have HZN := Lib.hid hz
  clear h hdb
  have hia : i < dn.length := by rw [HDB.out.tbs.ld]; exact hi
  have hja : j + 1 < (dn[i]).length := by have h1 := HDB.out.tbs.cd i hi; have h2 : j + 1 < (clD ds i).length := (by first | exact hk | exact hj); rw [getD_of_lt _ hia] at h1; unfold clD at h2; omega
  obtain ⟨ba, oa, ca, b2, o2, k2, ut, hva, hA1, hA2, hTl⟩ := l4_at HX1.out.dx.down hia hja
  subst hva
  have hTt : (dn[i])[j + 1] = tbl dn (i, j + 1) := by unfold tbl; dsimp only; rw [getD_of_lt _ hia, getD_of_lt _ hja]
  rw [hTt] at hTl
  obtain ⟨n1, hn1⟩ : ∃ n, n = dn.length := ⟨_, rfl⟩
  obtain ⟨n2, hn2⟩ : ∃ n, n = (dn[i]).length := ⟨_, rfl⟩
  rw [← hn1] at HX1 HNX HDIM hw1 ⊢
  rw [← hn2] at hA1
  have hi1 : i < n1 := by omega
  have hj2 : j + 1 < n2 := by omega
  have HA1 := Lib.hid hA1
  have HA2 := Lib.hid hA2
  have HTL := Lib.hid hTl
  clear hn1 hn2 hA1 hA2 hTl hTt hia hja
  obtain ⟨ta, tc, hut⟩ := Sl.shape HTL.out
  obtain ⟨n3, hn3⟩ : ∃ n, n = (tbl dn (i, j + 1)).length := ⟨_, rfl⟩
  rw [← hn3] at hut
  subst hut
  clear hn3
  obtain ⟨dz, hdz⟩ : ∃ z, z = dco ds i ((j : Int) + 1) := ⟨_, rfl⟩
  rw [← hdz] at HDIM HZN
  clear hdz
  have hne : (dz == 0) = false := by have := HZN.out; simp [this]
  have hwj : IntKind.i64.wrap ((j : Int) + 1) = (j : Int) + 1 := IntWalk.i64_in _ (by omega)
  have HJ1 : Hid (∀ W, (binOp .add 2 (.int .i64 (j : Int)) (.int .i64 1)).run Tryz.prog W = .ok (.int .i64 ((j + 1 : Nat) : Int)) W) := Lib.hid (fun W => by rw [Int.natCast_succ]; exact haddA hwj W)
  have c0 := HX1.out.c0
  have c1 := HX1.out.c1
  have c2 := HX1.out.c2
  have c3 := HX1.out.c3
  go_enter Tryz.func41, Tryz.ntmps41
  go_wp2_with fail
  rw [← hw1]
  clear hw1
  refine HDIM.out.mono ?_
  rintro r W2 ⟨rfl, hb2⟩
  have HB2 := Lib.hid hb2
  clear hb2 c0 c1 c2 c3
  go_upto_region 3 with fail
  refine wp_region_held (S := fun W => Below w1.heap.size w1 W) (by kernel_rfl) ?_
  have S0 : Below w1.heap.size w1 W2.drew := HB2.out.drew
  change wpAnyH _ _ _ _ _ _ _ _ W2.drew
  obtain ⟨wd, hwd⟩ : ∃ wd, wd = W2.drew := ⟨_, rfl⟩
  rw [← hwd] at S0 ⊢
  clear hwd
  refine held_take (i := 0) (v := .pointer (some ⟨w.heap.size, 0, none⟩)) (some 14) rfl rfl (by kernel_rfl) (by kernel_rfl) (by kernel_rfl) (fun _ _ _ h => h) (yieldsIf_run (by kernel_rfl) (fun W _ => by kernel_rfl)) S0 ?_
  refine held_take (i := 1) (v := (.int .i64 p)) (some 15) rfl rfl (by kernel_rfl) (by kernel_rfl) (by kernel_rfl) (fun _ _ _ h => h) (yieldsIf_cell (by kernel_rfl) rfl (by kernel_rfl) (fun W h => hloadIn W (HNX.out W h).c0)) S0 ?_
  refine held_take (i := 2) (v := .pointer (some ⟨w.heap.size, 3, none⟩)) (some 16) rfl rfl (by kernel_rfl) (by kernel_rfl) (by kernel_rfl) (fun _ _ _ h => h) (yieldsIf_run (by kernel_rfl) (fun W _ => by kernel_rfl)) S0 ?_
  refine held_take (i := 3) (v := (.slice (some ⟨ba, oa, none⟩) n1 ca)) (some 17) rfl rfl (by kernel_rfl) (by kernel_rfl) (by kernel_rfl) (fun _ _ _ h => h) (yieldsIf_cell (by kernel_rfl) rfl (by kernel_rfl) (fun W h => hload4 W (HNX.out W h).c3)) S0 ?_
  refine held_take (i := 4) (v := (.int .i64 (i : Int))) (some 18) rfl rfl (by kernel_rfl) (by kernel_rfl) (by kernel_rfl) (fun _ _ _ h => h) (yieldsIf_move (by kernel_rfl) rfl (by kernel_rfl)) S0 ?_
  refine held_take (i := 5) (v := .pointer (some ⟨ba, oa + i, none⟩)) (some 19) rfl rfl (by kernel_rfl) (by kernel_rfl) (by kernel_rfl) (fun _ _ _ h => h) (yieldsIf_index (by kernel_rfl) rfl (by kernel_rfl) (by kernel_rfl) (hidx4 (cap := ca) rfl hi1)) S0 ?_
  refine held_take (i := 6) (v := (.slice (some ⟨b2, o2, none⟩) n2 k2)) (some 20) rfl rfl (by kernel_rfl) (by kernel_rfl) (by kernel_rfl) (fun _ _ _ h => h) (yieldsIf_cell (by kernel_rfl) rfl (by kernel_rfl) (fun W h => hload3s W (later h (Nat.le_refl _) HA1.out))) S0 ?_
  refine held_take (i := 7) (v := (.int .i64 (j : Int))) (some 21) rfl rfl (by kernel_rfl) (by kernel_rfl) (by kernel_rfl) (fun _ _ _ h => h) (yieldsIf_move (by kernel_rfl) rfl (by kernel_rfl)) S0 ?_
  refine held_take (i := 8) (v := (.int .i64 ((j + 1 : Nat) : Int))) (some 22) rfl rfl (by kernel_rfl) (by kernel_rfl) (by kernel_rfl) (fun _ _ _ h => h) (yieldsIf_bin (by kernel_rfl) rfl (by kernel_rfl) (by kernel_rfl) (fun _ => rfl) HJ1.out) S0 ?_
  refine held_take (i := 9) (v := .pointer (some ⟨b2, o2 + (j + 1), none⟩)) (some 23) rfl rfl (by kernel_rfl) (by kernel_rfl) (by kernel_rfl) (fun _ _ _ h => h) (yieldsIf_index (by kernel_rfl) rfl (by kernel_rfl) (by kernel_rfl) (hidx3 b2 o2 k2 hj2)) S0 ?_
  refine held_take (i := 10) (v := (.slice ta n3 tc)) (some 24) rfl rfl (by kernel_rfl) (by kernel_rfl) (by kernel_rfl) (fun _ _ _ h => h) (yieldsIf_cell (by kernel_rfl) rfl (by kernel_rfl) (fun W h => hload2s W (later h (Nat.le_refl _) HA2.out))) S0 ?_
  refine held_enter (i := 11) (some 25) (f := 63) (args := #[.int .i64 p, .slice ta n3 tc]) (by kernel_rfl) rfl rfl rfl (by kernel_rfl) ((by have hlen := tabN_len HCX.out j; have hrow := tabN_ok HCX.out j; have h8 := (dimN_le8 HCX.out j).1; have hrl : ∀ r ∈ tabN (clM dn i) j, r.length = dimN (clD ds i) (j : Int) := fun r hr => (cx_row HCX.out (hrow r hr)).1; exact l01Echelon_any p (dimN (clD ds i) (j : Int)) _ ((tabN (clM dn i) j).map ofL) wd HCX.out.1.prime (by rw [rows_toL' hrl, cl_bndT]; exact HTL.out.below S0) (vecs_md (by have := HCX.out.1.prime.lo1; omega) hrow) (vecs_wd hrl) (by omega) (by rw [List.length_map]; omega))) ?_ (fun c w' h => by obtain ⟨_, _, h, _⟩ := h; cases h) (fun w' h => by obtain ⟨_, _, h, _⟩ := h; cases h)
  rintro e3 W3 ⟨u3, R, he3, hg3, hb3, hr3, hl3⟩
  injection he3 with he3
  subst he3
  have S1 : Below w1.heap.size w1 W3 := S0.trans (hb3.mono S0.size)
  have HG3 : Hid (Gs w.heap.size W3 e3 (R.map (toL (dimN (clD ds i) (j : Int))))) := Lib.hid (hg3.mono (by have := HX1.out.below.size; have := S0.size; omega))
  have HR3 := Lib.hid (And.intro hr3 hl3)
  clear hg3 hb3 hr3 hl3
  refine ⟨S1, ?_⟩
  refine held_take (i := 12) (v := e3) (some 6) rfl rfl (by kernel_rfl) (by kernel_rfl) (by kernel_rfl) (fun _ _ _ h => h) (yieldsIf_assign (by kernel_rfl) rfl (by kernel_rfl)) S1 ?_
  refine wpAnyH_done (by kernel_rfl) ?_ _
  simp only [Act.put, List.setIfInBounds_toArray, List.set_cons_zero, List.set_cons_succ]
  have HS1 := Lib.hid S1
  clear S0 S1
  go_wp2
  go_ret
  exact ⟨e3, R, rfl, HG3.out, HX1.out.below.trans (HS1.out.mono HX1.out.below.size), HR3.out.1, HR3.out.2⟩
end Go.Proofs.YtlopenephgabhaaGreat


namespace Go.Proofs.YtlopenephgabhaaGreat
open Go.RowKit

/-- A value's own block is not this one. -/
def OffB (b : Option Nat) (u : Value) : Prop := ∀ g, u.ownBlock = some g → b ≠ some g
theorem owns_grown_off {w w' : World} {base : Nat} {e : TypeId} {size n : Nat} {u : Value} {xs : List Value} {b : Option Nat} (h : w.ownsRow base e size u n xs) (ho : OffB b u) (hg : w.grownBy w' b) : w'.ownsRow base e size u n xs := by
  refine ⟨h.1, ?_⟩
  rcases h.2 with h2 | ⟨g, cap, cur, hu, hb, hh, r⟩
  · exact Or.inl h2
  · refine Or.inr ⟨g, cap, cur, hu, hb, ?_, r⟩
    rw [hg.block g (Array.getElem?_eq_some_iff.1 hh).1]
    · exact hh
    · exact fun e2 => ho g (by rw [hu]; rfl) e2.symm
theorem owns_lt {w : World} {base : Nat} {e : TypeId} {size n : Nat} {u : Value} {xs : List Value} (h : w.ownsRow base e size u n xs) {g : Nat} (hg : u.ownBlock = some g) : g < w.heap.size := by
  rcases h.2 with ⟨rfl, _⟩ | ⟨g2, cap, cur, rfl, _, hh, _⟩
  · simp [Value.ownBlock] at hg
  · simp [Value.ownBlock] at hg
    subst hg
    exact (Array.getElem?_eq_some_iff.1 hh).1
section
variable {o : Oper} {a : Act} {w : World} {K : Act → World → Prop} {Q : Exit → Act → World → Prop}
/-- As wp_appendB1, telling where the new block lies. -/
theorem wp_appendB1l (dst : Option Tmp) (hdst : o.dst = dst) (s x : Operand) (ho : o.op = .call { callee := .builtin .append, args := #[s, x], argTypes := #[47, 47] }) (base : Nat) (v : Value) (xs : List Int) (hs : a.eval s = v) (hown : Gb base w v xs)
    (b : Nat) (hx : a.eval x = .slice (some ⟨b, 0, none⟩) 1 1) (z : Int) (hc : w.cell? ⟨b, 0, none⟩ = some (.int .i64 z)) (hl : xs.length ≤ 2097151) (hb : base ≤ w.heap.size)
    (h : ∀ g cap w', Gb base w' (.slice (some ⟨g, 0, none⟩) (xs.length + 1) cap) (xs ++ [z]) → w.grownBy w' v.ownBlock → (v.ownBlock = some g ∨ g = w.heap.size) → K (a.put dst (.slice (some ⟨g, 0, none⟩) (xs.length + 1) cap)) w') : o.wp Tryz.prog a w K Q := by
  obtain ⟨i, hi, hz, hs1, hb1⟩ := info_parts Tryz.infoI
  subst hdst
  refine wp_append_lies w s x 47 ho base 2 i _ 1 8 Tryz.underlying47 hi hz hs1 hb1 rfl (by decide) v xs.length (xs.map (Value.int .i64)) hs hown ⟨b, 0, none⟩ 1 1 [.int .i64 z] hx rfl ?_ ?_ (by omega) (by unfold maxLen; omega) (by omega) hb _ rfl (fun g cap w' h1 h2 h3 _ => h g cap w' (by simpa [Gb] using h1) h2 h3)
  · intro j u hj
    match j, hj with
    | 0, hj =>
      simp at hj
      subst hj
      exact hc
  · intro u hu
    simp at hu
    subst hu
    rfl
end
end Go.Proofs.YtlopenephgabhaaGreat


namespace Go.Proofs.YtlopenephgabhaaGreat
open Go.RowKit

section
variable {o : Oper} {a : Act} {w : World} {K : Act → World → Prop} {Q : Exit → Act → World → Prop}
end
section
variable {ops : Array Oper} {rest : List Oper} {o : Oper} {a : Act} {w : World} {Q : Exit → Act → World → Prop}
theorem wpList_appendB1l (hgd : o.guard = none) (dst : Option Tmp) (hdst : o.dst = dst) (s x : Operand) (ho : o.op = .call { callee := .builtin .append, args := #[s, x], argTypes := #[47, 47] }) (base : Nat) (v : Value) (xs : List Int) (hs : a.eval s = v) (hown : Gb base w v xs)
    (b : Nat) (hx : a.eval x = .slice (some ⟨b, 0, none⟩) 1 1) (z : Int) (hc : w.cell? ⟨b, 0, none⟩ = some (.int .i64 z)) (hl : xs.length ≤ 2097151) (hb : base ≤ w.heap.size)
    (h : ∀ g cap w', Gb base w' (.slice (some ⟨g, 0, none⟩) (xs.length + 1) cap) (xs ++ [z]) → w.grownBy w' v.ownBlock → (v.ownBlock = some g ∨ g = w.heap.size) → wpList Tryz.prog ops Q rest (a.put dst (.slice (some ⟨g, 0, none⟩) (xs.length + 1) cap)) w') : wpList Tryz.prog ops Q (o :: rest) a w :=
  wpList_plain hgd fun _ hK => wp_appendB1l dst hdst s x ho base v xs hs hown b hx z hc hl hb fun g cap w' h1 h2 h3 => by subst hdst; exact hK _ _ (h g cap w' h1 h2 h3)
end
end Go.Proofs.YtlopenephgabhaaGreat


namespace Go.Proofs.YtlopenephgabhaaGreat
open Go.RowKit

theorem owns_len {w : World} {base n : Nat} {e : TypeId} {v : Value} {xs : List Value} (h : w.ownsRow base e 1 v n xs) : xs.length = n := by rw [h.1]; omega
section
variable {ops : Array Oper} {rest : List Oper} {o : Oper} {a : Act} {w : World} {Q : Exit → Act → World → Prop}
end
end Go.Proofs.YtlopenephgabhaaGreat


namespace Go.Proofs.YtlopenephgabhaaGreat
open Go.RowKit

theorem add_zero {p : Int} {r t : Lin.V} (h : Lin.Md p r) : Lin.add p r (-0) t = r := funext fun i => by
  unfold Lin.add
  rw [Int.neg_zero, Int.zero_mul, Int.add_zero]
  exact Lin.md_mod (h i).1 (h i).2
section
variable {P : Program} {md : Region.Mode} {ops : Array Oper} {n : Nat} {Q : Exit → Act → World → Prop}
end

end Go.Proofs.YtlopenephgabhaaGreat

