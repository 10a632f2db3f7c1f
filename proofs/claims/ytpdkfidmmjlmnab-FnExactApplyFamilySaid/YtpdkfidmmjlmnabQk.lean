/-
  impl.isVector by contract.
-/
import Derived.Test.YtpdkfidmmjlmnabApg
import Derived.Test.YtpdkfidmmjlmnabHld
import Derived.Test.YtpdkfidmmjlmnabTdm
namespace Go.Proofs.Ytpdkfidmmjlmnab
open Go.RowKit

section
variable {P : Program} {md : Region.Mode} {ops : Array Oper} {Q : Exit → Act → World → Prop} {S : World → Prop}
theorem yieldsIf_indexG {o : Oper} {a : Act} {x y : Operand} {v u i : Value} {t : TypeId} (hw : Region.wanted o (yielded ops a.tmps) = true) (ho : o.op = .indexAddr t x y) (hx : a.eval x = u) (hy : a.eval y = i) (hrun : ∀ w, (Instr.indexAt t u i).run P w = .ok v w) : YieldsIf P ops S o v a :=
  Or.inl ⟨hw, fun w _ => by
    unfold execOp
    simp only [ho, hx, hy, Sem.run_bind, hrun w, Result.andThen_ok]
    rfl⟩
end
/-- A vector of the degree n. -/
def VecOk (p : Int) (ds : List Int) (n : Int) (vs : List Int) : Prop := (0 ≤ n ∧ n ≤ (ds.length : Int) - 1) ∧ RowOk p (dimZ ds n) vs

set_option maxHeartbeats 1600000 in
set_option maxRecDepth 100000 in
theorem isVector_any (p n : Int) (dv mv vv : Value) (ds : List Int) (ms : List (List (List Int))) (vs : List Int) (w : World) (h : Cx 0 w dv mv ds ms) (hv : L1 0 w vv vs) (hp : IsP p) (hd : ds.length ≤ 1048576) (hm : vs.length ≤ 1048576) :
    Calls Try.prog 121 #[.agg #[.int .i64 p, dv, mv], .int .i64 n, vv] w (BB (VecOk p ds n vs) w) := by
  obtain ⟨ad, cap, rfl⟩ := Sl.shape h.dims
  obtain ⟨am, capm, rfl⟩ := Sl.shape h.maps
  obtain ⟨av, cv, rfl⟩ := Sl.shape hv
  have hx0 := Bx.start (p := p) 31 h
  obtain ⟨w1, hw1⟩ : ∃ w1, w1 = w.alloc (.cells #[.int .i64 p, .slice ad ds.length cap, .slice am ms.length capm] 31) := ⟨_, rfl⟩
  have hb1 : Below w.heap.size w w1 := by rw [hw1]; exact below_alloc1 _ _
  have hv1 := hv.below hb1
  rw [← hw1] at hx0
  have HX1 := Lib.hid hx0
  have c0 := hx0.c0
  have c1 := hx0.c1
  have c2 := hx0.c2
  have HV1 := Lib.hid hv1
  have HP := Lib.hid hp
  have HTOP := Lib.hid (fun W => topOf_any p (.slice ad ds.length cap) (.slice am ms.length capm) ds.length ad cap W rfl hd)
  have HDD : Hid (Below w1.heap.size w1 w1.drew) := Lib.hid (Below.refl _ _).drew
  clear hx0 h hv hv1 hb1 hp
  by_cases hr : 0 ≤ n ∧ n ≤ (ds.length : Int) - 1
  · have HR := Lib.hid hr
    have HIN := Lib.hid (fun W => in_yes HR.out W)
    obtain ⟨k, rfl⟩ := Int.eq_ofNat_of_zero_le hr.1
    have hkd : k < ds.length := by omega
    refine Sl.cases HX1.out.cx.dims (fun _ _ hx _ => absurd hkd (by simp [hx])) (fun bd od capd hvd _ _ hcl => ?_)
    injection hvd with e1 e2 e3
    clear e2
    subst e1 e3
    obtain ⟨u, hu, hru⟩ := hcl k hkd
    obtain ⟨d, hde⟩ : ∃ d, d = dimZ ds (k : Int) := ⟨_, rfl⟩
    have hdz : ds[k] = d := by rw [hde, dimZ_in rfl hkd]
    rw [hru, hdz] at hu
    have HDE := Lib.hid hde
    have HROW : Hid (∀ W, Below w1.heap.size w1 W → Calls Try.prog 179 #[.int .i64 p, .slice av vs.length cv, .int .i64 d] W (BW (RowOk p d vs) W)) := Lib.hid (fun W h => isRow_any p d _ vs W HP.out (HV1.out.below h) hm)
    clear hcl hru hde hdz hr
    go_enter Try.func121, Try.ntmps121
    go_upto_region 1 with fail
    rw [← hw1]
    clear hw1
    refine wp_region_held_drew (S := fun W => Hid (Below w1.heap.size w1 W)) (by kernel_rfl) HDD (fun _ => ?_)
    refine held_take (i := 0) (v := .int .i64 (k : Int)) (some 7) rfl rfl (by kernel_rfl) (by kernel_rfl) (by kernel_rfl) (fun _ _ _ h => h) (yieldsIf_move (by kernel_rfl) rfl (by kernel_rfl)) HDD ?_
    refine held_take (i := 1) (v := (.agg #[.int .i64 p, .slice (some ⟨bd, od, none⟩) ds.length cap, .slice am ms.length capm])) (some 8) rfl rfl (by kernel_rfl) (by kernel_rfl) (by kernel_rfl) (fun _ _ _ h => h) (yieldsIf_cell (by kernel_rfl) rfl (by kernel_rfl) (fun W h => hloadC0 W (later h.out (Nat.le_refl _) c0) (later h.out (Nat.le_refl _) c1) (later h.out (Nat.le_refl _) c2))) HDD ?_
    refine held_enter (i := 2) (some 9) (f := 157) (args := #[(.agg #[.int .i64 p, .slice (some ⟨bd, od, none⟩) ds.length cap, .slice am ms.length capm])]) (by kernel_rfl) rfl rfl rfl (by kernel_rfl) (HTOP.out _) ?_ (fun c w' h => by cases h.1) (fun w' h => by cases h.1)
    rintro e4 w4 ⟨he4, hb4⟩
    injection he4 with he4
    subst he4
    have HB4 : Hid (Below w1.heap.size w1 w4) := Lib.hid (HDD.out.trans hb4)
    clear hb4
    refine ⟨HB4, ?_⟩
    refine held_enter (i := 3) (some 10) (f := 130) (args := #[.int .i64 (k : Int), .int .i64 0, .int .i64 ((ds.length : Int) - 1)]) (by kernel_rfl) rfl rfl rfl (by kernel_rfl) (HIN.out _) ?_ (fun c w' h => by cases h.1) (fun w' h => by cases h.1)
    rintro e5 w5 ⟨he5, hw5⟩
    injection he5 with he5
    subst he5 hw5
    refine ⟨HB4, ?_⟩
    refine held_take (i := 4) (v := .bool true) (some 11) rfl rfl (by kernel_rfl) (by kernel_rfl) (by kernel_rfl) (fun _ _ _ h => h) (yieldsIf_move (by kernel_rfl) rfl (by kernel_rfl)) HB4 ?_
    refine held_take (i := 5) (v := .pointer (some ⟨w.heap.size, 0, none⟩)) (some 12) rfl rfl (by kernel_rfl) (by kernel_rfl) (by kernel_rfl) (fun _ _ _ h => h) (yieldsIf_runG (by kernel_rfl) (fun W _ => by kernel_rfl)) HB4 ?_
    refine held_take (i := 6) (v := .int .i64 p) (some 13) rfl rfl (by kernel_rfl) (by kernel_rfl) (by kernel_rfl) (fun _ _ _ h => h) (yieldsIf_cellG (by kernel_rfl) rfl (by kernel_rfl) (fun W h => hload W (later h.out (Nat.le_refl _) c0))) HB4 ?_
    refine held_take (i := 7) (v := .slice av vs.length cv) (some 14) rfl rfl (by kernel_rfl) (by kernel_rfl) (by kernel_rfl) (fun _ _ _ h => h) (yieldsIf_runG (by kernel_rfl) (fun W _ => by kernel_rfl)) HB4 ?_
    refine held_take (i := 8) (v := .pointer (some ⟨w.heap.size, 1, none⟩)) (some 15) rfl rfl (by kernel_rfl) (by kernel_rfl) (by kernel_rfl) (fun _ _ _ h => h) (yieldsIf_runG (by kernel_rfl) (fun W _ => by kernel_rfl)) HB4 ?_
    refine held_take (i := 9) (v := .slice (some ⟨bd, od, none⟩) ds.length cap) (some 16) rfl rfl (by kernel_rfl) (by kernel_rfl) (by kernel_rfl) (fun _ _ _ h => h) (yieldsIf_cellG (by kernel_rfl) rfl (by kernel_rfl) (fun W h => hloadD0 W (later h.out (Nat.le_refl _) c1))) HB4 ?_
    refine held_take (i := 10) (v := .int .i64 (k : Int)) (some 17) rfl rfl (by kernel_rfl) (by kernel_rfl) (by kernel_rfl) (fun _ _ _ h => h) (yieldsIf_runG (by kernel_rfl) (fun W _ => by kernel_rfl)) HB4 ?_
    refine held_take (i := 11) (v := .pointer (some ⟨bd, od + k, none⟩)) (some 18) rfl rfl (by kernel_rfl) (by kernel_rfl) (by kernel_rfl) (fun _ _ _ h => h) (yieldsIf_indexG (by kernel_rfl) rfl (by kernel_rfl) (by kernel_rfl) (hidxI bd od cap hkd)) HB4 ?_
    refine held_take (i := 12) (v := .int .i64 d) (some 19) rfl rfl (by kernel_rfl) (by kernel_rfl) (by kernel_rfl) (fun _ _ _ h => h) (yieldsIf_cellG (by kernel_rfl) rfl (by kernel_rfl) (fun W h => hload W (later h.out (Nat.le_refl _) hu))) HB4 ?_
    refine held_enterG (i := 13) (some 20) (f := 179) (args := #[.int .i64 p, .slice av vs.length cv, .int .i64 d]) (by kernel_rfl) rfl (by kernel_rfl) rfl (by kernel_rfl) (HROW.out _ HB4.out) ?_ (fun c w' h => by obtain ⟨_, h, _⟩ := h; cases h) (fun w' h => by obtain ⟨_, h, _⟩ := h; cases h)
    rintro e6 w6 ⟨bb, he6, hw6, hbb⟩
    injection he6 with he6
    subst he6 hw6
    have HBB := Lib.hid hbb
    clear hbb
    refine ⟨HB4, ?_⟩
    refine held_take (i := 14) (v := .bool bb) (some 21) rfl rfl (by kernel_rfl) (by kernel_rfl) (by kernel_rfl) (fun _ _ _ h => h) (yieldsIf_run0 (by kernel_rfl) (fun W _ => by kernel_rfl)) HB4 ?_
    refine held_take (i := 15) (v := .bool bb) (some 6) rfl rfl (by kernel_rfl) (by kernel_rfl) (by kernel_rfl) (fun _ _ _ h => h) (yieldsIf_assign (by kernel_rfl) rfl (by kernel_rfl)) HB4 ?_
    refine wpAnyH_done (by kernel_rfl) ?_ _
    simp only [Act.put, List.setIfInBounds_toArray, List.set_cons_zero, List.set_cons_succ]
    have HX4 := Lib.hid (HX1.out.next HB4.out)
    clear c0 c1 c2 hu HTOP HIN HDD HROW
    go_wp2
    go_ret
    exact ⟨bb, rfl, HX4.out.below, ⟨fun h => ⟨HR.out, by rw [← HDE.out]; exact HBB.out.1 h⟩, fun h => HBB.out.2 (by have := h.2; rwa [← HDE.out] at this)⟩⟩
  · have HR := Lib.hid hr
    have HIN := Lib.hid (fun W => in_no HR.out W)
    clear hr
    go_enter Try.func121, Try.ntmps121
    go_upto_region 1 with fail
    rw [← hw1]
    clear hw1
    refine wp_region_held_drew (S := fun W => Hid (Below w1.heap.size w1 W)) (by kernel_rfl) HDD (fun _ => ?_)
    refine held_take (i := 0) (v := .int .i64 n) (some 7) rfl rfl (by kernel_rfl) (by kernel_rfl) (by kernel_rfl) (fun _ _ _ h => h) (yieldsIf_move (by kernel_rfl) rfl (by kernel_rfl)) HDD ?_
    refine held_take (i := 1) (v := (.agg #[.int .i64 p, .slice ad ds.length cap, .slice am ms.length capm])) (some 8) rfl rfl (by kernel_rfl) (by kernel_rfl) (by kernel_rfl) (fun _ _ _ h => h) (yieldsIf_cell (by kernel_rfl) rfl (by kernel_rfl) (fun W h => hloadC0 W (later h.out (Nat.le_refl _) c0) (later h.out (Nat.le_refl _) c1) (later h.out (Nat.le_refl _) c2))) HDD ?_
    refine held_enter (i := 2) (some 9) (f := 157) (args := #[(.agg #[.int .i64 p, .slice ad ds.length cap, .slice am ms.length capm])]) (by kernel_rfl) rfl rfl rfl (by kernel_rfl) (HTOP.out _) ?_ (fun c w' h => by cases h.1) (fun w' h => by cases h.1)
    rintro e4 w4 ⟨he4, hb4⟩
    injection he4 with he4
    subst he4
    have HB4 : Hid (Below w1.heap.size w1 w4) := Lib.hid (HDD.out.trans hb4)
    clear hb4
    refine ⟨HB4, ?_⟩
    refine held_enter (i := 3) (some 10) (f := 130) (args := #[.int .i64 n, .int .i64 0, .int .i64 ((ds.length : Int) - 1)]) (by kernel_rfl) rfl rfl rfl (by kernel_rfl) (HIN.out _) ?_ (fun c w' h => by cases h.1) (fun w' h => by cases h.1)
    rintro e5 w5 ⟨he5, hw5⟩
    injection he5 with he5
    subst he5 hw5
    refine ⟨HB4, ?_⟩
    refine held_take (i := 4) (v := .bool false) (some 11) rfl rfl (by kernel_rfl) (by kernel_rfl) (by kernel_rfl) (fun _ _ _ h => h) (yieldsIf_move (by kernel_rfl) rfl (by kernel_rfl)) HB4 ?_
    refine held_skip0 (i := 5) (some 12) rfl rfl (by kernel_rfl) (by kernel_rfl) (by kernel_rfl) (fun _ _ _ h => h) (by kernel_rfl) HB4 ?_
    refine held_skip0 (i := 6) (some 13) rfl rfl (by kernel_rfl) (by kernel_rfl) (by kernel_rfl) (fun _ _ _ h => h) (by kernel_rfl) HB4 ?_
    refine held_skip0 (i := 7) (some 14) rfl rfl (by kernel_rfl) (by kernel_rfl) (by kernel_rfl) (fun _ _ _ h => h) (by kernel_rfl) HB4 ?_
    refine held_skip0 (i := 8) (some 15) rfl rfl (by kernel_rfl) (by kernel_rfl) (by kernel_rfl) (fun _ _ _ h => h) (by kernel_rfl) HB4 ?_
    refine held_skip0 (i := 9) (some 16) rfl rfl (by kernel_rfl) (by kernel_rfl) (by kernel_rfl) (fun _ _ _ h => h) (by kernel_rfl) HB4 ?_
    refine held_skip0 (i := 10) (some 17) rfl rfl (by kernel_rfl) (by kernel_rfl) (by kernel_rfl) (fun _ _ _ h => h) (by kernel_rfl) HB4 ?_
    refine held_skip0 (i := 11) (some 18) rfl rfl (by kernel_rfl) (by kernel_rfl) (by kernel_rfl) (fun _ _ _ h => h) (by kernel_rfl) HB4 ?_
    refine held_skip0 (i := 12) (some 19) rfl rfl (by kernel_rfl) (by kernel_rfl) (by kernel_rfl) (fun _ _ _ h => h) (by kernel_rfl) HB4 ?_
    refine held_skip0 (i := 13) (some 20) rfl rfl (by kernel_rfl) (by kernel_rfl) (by kernel_rfl) (fun _ _ _ h => h) (by kernel_rfl) HB4 ?_
    refine held_take (i := 14) (v := .bool false) (some 21) rfl rfl (by kernel_rfl) (by kernel_rfl) (by kernel_rfl) (fun _ _ _ h => h) (yieldsIf_run0 (by kernel_rfl) (fun W _ => by kernel_rfl)) HB4 ?_
    refine held_take (i := 15) (v := .bool false) (some 6) rfl rfl (by kernel_rfl) (by kernel_rfl) (by kernel_rfl) (fun _ _ _ h => h) (yieldsIf_assign (by kernel_rfl) rfl (by kernel_rfl)) HB4 ?_
    refine wpAnyH_done (by kernel_rfl) ?_ _
    simp only [Act.put, List.setIfInBounds_toArray, List.set_cons_zero, List.set_cons_succ]
    have HX4 := Lib.hid (HX1.out.next HB4.out)
    clear c0 c1 c2 HTOP HIN HDD
    go_wp2
    go_ret
    exact bb_false HX4.out.below (fun h => HR.out h.1)
end Go.Proofs.Ytpdkfidmmjlmnab
