/-
  impl.isVector by contract.
  impl.PairVectors by contract.
  spec.PairVectors by contract.
-/
import Derived.Test.YtiokagnolbddlaaAdp
import Derived.Test.YtiokagnolbddlaaTdm
import Derived.Test.YtiokagnolbddlaaPlq
import Derived.Test.YtiokagnolbddlaaApf
namespace Go.Proofs.Ytiokagnolbddlaa
open Go.RowKit

section
variable {P : Program} {md : Region.Mode} {ops : Array Oper} {Q : Exit → Act → World → Prop} {S : World → Prop}
theorem yieldsIf_indexG {o : Oper} {a : Act} {x y : Operand} {v u i : Value} {t : TypeId} (hw : Region.wanted o (yielded ops a.tmps) = true) (ho : o.op = .indexAddr t x y) (hx : a.eval x = u) (hy : a.eval y = i) (hrun : ∀ w, (Instr.indexAt t u i).run P w = .ok v w) : YieldsIf P ops S o v a :=
  Or.inl ⟨hw, fun w _ => by
    unfold execOp
    simp only [ho, hx, hy, Sem.run_bind, hrun w, Result.andThen_ok]
    rfl⟩
end
/-- A vector of the degree n. -/
def VecOk (p : Int) (ds : List Int) (n : Int) (vs : List Int) : Prop := (0 ≤ n ∧ n ≤ (ds.length : Int) - 1) ∧ RowOk p (dimZ ds n) vs

set_option maxHeartbeats 1600000 in
set_option maxRecDepth 100000 in
theorem isVector_any (p n : Int) (dv mv vv : Value) (ds : List Int) (ms : List (List (List Int))) (vs : List Int) (w : World) (h : Cx 0 w dv mv ds ms) (hv : L1 0 w vv vs) (hp : IsP p) (hd : ds.length ≤ 1048576) (hm : vs.length ≤ 1048576) :
    Calls Try.prog 106 #[.agg #[.int .i64 p, dv, mv], .int .i64 n, vv] w (BB (VecOk p ds n vs) w) := by
  obtain ⟨ad, cap, rfl⟩ := Sl.shape h.dims
  obtain ⟨am, capm, rfl⟩ := Sl.shape h.maps
  obtain ⟨av, cv, rfl⟩ := Sl.shape hv
  have hx0 := Bx.start (p := p) 38 h
  obtain ⟨w1, hw1⟩ : ∃ w1, w1 = w.alloc (.cells #[.int .i64 p, .slice ad ds.length cap, .slice am ms.length capm] 38) := ⟨_, rfl⟩
  have hb1 : Below w.heap.size w w1 := by rw [hw1]; exact below_alloc1 _ _
  have hv1 := hv.below hb1
  rw [← hw1] at hx0
  have HX1 := Lib.hid hx0
  have c0 := hx0.c0
  have c1 := hx0.c1
  have c2 := hx0.c2
  have HV1 := Lib.hid hv1
  have HP := Lib.hid hp
  have HTOP := Lib.hid (fun W => topOf_any p (.slice ad ds.length cap) (.slice am ms.length capm) ds.length ad cap W rfl hd)
  have HDD : Hid (Below w1.heap.size w1 w1.drew) := Lib.hid (Below.refl _ _).drew
  clear hx0 h hv hv1 hb1 hp
  by_cases hr : 0 ≤ n ∧ n ≤ (ds.length : Int) - 1
  · have HR := Lib.hid hr
    have HIN := Lib.hid (fun W => in_yes HR.out W)
    obtain ⟨k, rfl⟩ := Int.eq_ofNat_of_zero_le hr.1
    have hkd : k < ds.length := by omega
    refine Sl.cases HX1.out.cx.dims (fun _ _ hx _ => absurd hkd (by simp [hx])) (fun bd od capd hvd _ _ hcl => ?_)
    injection hvd with e1 e2 e3
    clear e2
    subst e1 e3
    obtain ⟨u, hu, hru⟩ := hcl k hkd
    obtain ⟨d, hde⟩ : ∃ d, d = dimZ ds (k : Int) := ⟨_, rfl⟩
    have hdz : ds[k] = d := by rw [hde, dimZ_in rfl hkd]
    rw [hru, hdz] at hu
    have HDE := Lib.hid hde
    have HROW : Hid (∀ W, Below w1.heap.size w1 W → Calls Try.prog 151 #[.int .i64 p, .slice av vs.length cv, .int .i64 d] W (BW (RowOk p d vs) W)) := Lib.hid (fun W h => isRow_any p d _ vs W HP.out (HV1.out.below h) hm)
    clear hcl hru hde hdz hr
    go_enter Try.func106, Try.ntmps106
    go_upto_region 1 with fail
    rw [← hw1]
    clear hw1
    refine wp_region_held_drew (S := fun W => Hid (Below w1.heap.size w1 W)) (by kernel_rfl) HDD (fun _ => ?_)
    refine held_take (i := 0) (v := .int .i64 (k : Int)) (some 7) rfl rfl (by kernel_rfl) (by kernel_rfl) (by kernel_rfl) (fun _ _ _ h => h) (yieldsIf_move (by kernel_rfl) rfl (by kernel_rfl)) HDD ?_
    refine held_take (i := 1) (v := (.agg #[.int .i64 p, .slice (some ⟨bd, od, none⟩) ds.length cap, .slice am ms.length capm])) (some 8) rfl rfl (by kernel_rfl) (by kernel_rfl) (by kernel_rfl) (fun _ _ _ h => h) (yieldsIf_cell (by kernel_rfl) rfl (by kernel_rfl) (fun W h => hloadC0 W (later h.out (Nat.le_refl _) c0) (later h.out (Nat.le_refl _) c1) (later h.out (Nat.le_refl _) c2))) HDD ?_
    refine held_enter (i := 2) (some 9) (f := 131) (args := #[(.agg #[.int .i64 p, .slice (some ⟨bd, od, none⟩) ds.length cap, .slice am ms.length capm])]) (by kernel_rfl) rfl rfl rfl (by kernel_rfl) (HTOP.out _) ?_ (fun c w' h => by cases h.1) (fun w' h => by cases h.1)
    rintro e4 w4 ⟨he4, hb4⟩
    injection he4 with he4
    subst he4
    have HB4 : Hid (Below w1.heap.size w1 w4) := Lib.hid (HDD.out.trans hb4)
    clear hb4
    refine ⟨HB4, ?_⟩
    refine held_enter (i := 3) (some 10) (f := 67) (args := #[.int .i64 (k : Int), .int .i64 0, .int .i64 ((ds.length : Int) - 1)]) (by kernel_rfl) rfl rfl rfl (by kernel_rfl) (HIN.out _) ?_ (fun c w' h => by cases h.1) (fun w' h => by cases h.1)
    rintro e5 w5 ⟨he5, hw5⟩
    injection he5 with he5
    subst he5 hw5
    refine ⟨HB4, ?_⟩
    refine held_take (i := 4) (v := .bool true) (some 11) rfl rfl (by kernel_rfl) (by kernel_rfl) (by kernel_rfl) (fun _ _ _ h => h) (yieldsIf_move (by kernel_rfl) rfl (by kernel_rfl)) HB4 ?_
    refine held_take (i := 5) (v := .pointer (some ⟨w.heap.size, 0, none⟩)) (some 12) rfl rfl (by kernel_rfl) (by kernel_rfl) (by kernel_rfl) (fun _ _ _ h => h) (yieldsIf_runG (by kernel_rfl) (fun W _ => by kernel_rfl)) HB4 ?_
    refine held_take (i := 6) (v := .int .i64 p) (some 13) rfl rfl (by kernel_rfl) (by kernel_rfl) (by kernel_rfl) (fun _ _ _ h => h) (yieldsIf_cellG (by kernel_rfl) rfl (by kernel_rfl) (fun W h => hload W (later h.out (Nat.le_refl _) c0))) HB4 ?_
    refine held_take (i := 7) (v := .slice av vs.length cv) (some 14) rfl rfl (by kernel_rfl) (by kernel_rfl) (by kernel_rfl) (fun _ _ _ h => h) (yieldsIf_runG (by kernel_rfl) (fun W _ => by kernel_rfl)) HB4 ?_
    refine held_take (i := 8) (v := .pointer (some ⟨w.heap.size, 1, none⟩)) (some 15) rfl rfl (by kernel_rfl) (by kernel_rfl) (by kernel_rfl) (fun _ _ _ h => h) (yieldsIf_runG (by kernel_rfl) (fun W _ => by kernel_rfl)) HB4 ?_
    refine held_take (i := 9) (v := .slice (some ⟨bd, od, none⟩) ds.length cap) (some 16) rfl rfl (by kernel_rfl) (by kernel_rfl) (by kernel_rfl) (fun _ _ _ h => h) (yieldsIf_cellG (by kernel_rfl) rfl (by kernel_rfl) (fun W h => hloadD0 W (later h.out (Nat.le_refl _) c1))) HB4 ?_
    refine held_take (i := 10) (v := .int .i64 (k : Int)) (some 17) rfl rfl (by kernel_rfl) (by kernel_rfl) (by kernel_rfl) (fun _ _ _ h => h) (yieldsIf_runG (by kernel_rfl) (fun W _ => by kernel_rfl)) HB4 ?_
    refine held_take (i := 11) (v := .pointer (some ⟨bd, od + k, none⟩)) (some 18) rfl rfl (by kernel_rfl) (by kernel_rfl) (by kernel_rfl) (fun _ _ _ h => h) (yieldsIf_indexG (by kernel_rfl) rfl (by kernel_rfl) (by kernel_rfl) (hidxI bd od cap hkd)) HB4 ?_
    refine held_take (i := 12) (v := .int .i64 d) (some 19) rfl rfl (by kernel_rfl) (by kernel_rfl) (by kernel_rfl) (fun _ _ _ h => h) (yieldsIf_cellG (by kernel_rfl) rfl (by kernel_rfl) (fun W h => hload W (later h.out (Nat.le_refl _) hu))) HB4 ?_
    refine held_enterG (i := 13) (some 20) (f := 151) (args := #[.int .i64 p, .slice av vs.length cv, .int .i64 d]) (by kernel_rfl) rfl (by kernel_rfl) rfl (by kernel_rfl) (HROW.out _ HB4.out) ?_ (fun c w' h => by obtain ⟨_, h, _⟩ := h; cases h) (fun w' h => by obtain ⟨_, h, _⟩ := h; cases h)
    rintro e6 w6 ⟨bb, he6, hw6, hbb⟩
    injection he6 with he6
    subst he6 hw6
    have HBB := Lib.hid hbb
    clear hbb
    refine ⟨HB4, ?_⟩
    refine held_take (i := 14) (v := .bool bb) (some 21) rfl rfl (by kernel_rfl) (by kernel_rfl) (by kernel_rfl) (fun _ _ _ h => h) (yieldsIf_run0 (by kernel_rfl) (fun W _ => by kernel_rfl)) HB4 ?_
    refine held_take (i := 15) (v := .bool bb) (some 6) rfl rfl (by kernel_rfl) (by kernel_rfl) (by kernel_rfl) (fun _ _ _ h => h) (yieldsIf_assign (by kernel_rfl) rfl (by kernel_rfl)) HB4 ?_
    refine wpAnyH_done (by kernel_rfl) ?_ _
    simp only [Act.put, List.setIfInBounds_toArray, List.set_cons_zero, List.set_cons_succ]
    have HX4 := Lib.hid (HX1.out.next HB4.out)
    clear c0 c1 c2 hu HTOP HIN HDD HROW
    go_wp2
    go_ret
    exact ⟨bb, rfl, HX4.out.below, ⟨fun h => ⟨HR.out, by rw [← HDE.out]; exact HBB.out.1 h⟩, fun h => HBB.out.2 (by have := h.2; rwa [← HDE.out] at this)⟩⟩
  · have HR := Lib.hid hr
    have HIN := Lib.hid (fun W => in_no HR.out W)
    clear hr
    go_enter Try.func106, Try.ntmps106
    go_upto_region 1 with fail
    rw [← hw1]
    clear hw1
    refine wp_region_held_drew (S := fun W => Hid (Below w1.heap.size w1 W)) (by kernel_rfl) HDD (fun _ => ?_)
    refine held_take (i := 0) (v := .int .i64 n) (some 7) rfl rfl (by kernel_rfl) (by kernel_rfl) (by kernel_rfl) (fun _ _ _ h => h) (yieldsIf_move (by kernel_rfl) rfl (by kernel_rfl)) HDD ?_
    refine held_take (i := 1) (v := (.agg #[.int .i64 p, .slice ad ds.length cap, .slice am ms.length capm])) (some 8) rfl rfl (by kernel_rfl) (by kernel_rfl) (by kernel_rfl) (fun _ _ _ h => h) (yieldsIf_cell (by kernel_rfl) rfl (by kernel_rfl) (fun W h => hloadC0 W (later h.out (Nat.le_refl _) c0) (later h.out (Nat.le_refl _) c1) (later h.out (Nat.le_refl _) c2))) HDD ?_
    refine held_enter (i := 2) (some 9) (f := 131) (args := #[(.agg #[.int .i64 p, .slice ad ds.length cap, .slice am ms.length capm])]) (by kernel_rfl) rfl rfl rfl (by kernel_rfl) (HTOP.out _) ?_ (fun c w' h => by cases h.1) (fun w' h => by cases h.1)
    rintro e4 w4 ⟨he4, hb4⟩
    injection he4 with he4
    subst he4
    have HB4 : Hid (Below w1.heap.size w1 w4) := Lib.hid (HDD.out.trans hb4)
    clear hb4
    refine ⟨HB4, ?_⟩
    refine held_enter (i := 3) (some 10) (f := 67) (args := #[.int .i64 n, .int .i64 0, .int .i64 ((ds.length : Int) - 1)]) (by kernel_rfl) rfl rfl rfl (by kernel_rfl) (HIN.out _) ?_ (fun c w' h => by cases h.1) (fun w' h => by cases h.1)
    rintro e5 w5 ⟨he5, hw5⟩
    injection he5 with he5
    subst he5 hw5
    refine ⟨HB4, ?_⟩
    refine held_take (i := 4) (v := .bool false) (some 11) rfl rfl (by kernel_rfl) (by kernel_rfl) (by kernel_rfl) (fun _ _ _ h => h) (yieldsIf_move (by kernel_rfl) rfl (by kernel_rfl)) HB4 ?_
    refine held_skip0 (i := 5) (some 12) rfl rfl (by kernel_rfl) (by kernel_rfl) (by kernel_rfl) (fun _ _ _ h => h) (by kernel_rfl) HB4 ?_
    refine held_skip0 (i := 6) (some 13) rfl rfl (by kernel_rfl) (by kernel_rfl) (by kernel_rfl) (fun _ _ _ h => h) (by kernel_rfl) HB4 ?_
    refine held_skip0 (i := 7) (some 14) rfl rfl (by kernel_rfl) (by kernel_rfl) (by kernel_rfl) (fun _ _ _ h => h) (by kernel_rfl) HB4 ?_
    refine held_skip0 (i := 8) (some 15) rfl rfl (by kernel_rfl) (by kernel_rfl) (by kernel_rfl) (fun _ _ _ h => h) (by kernel_rfl) HB4 ?_
    refine held_skip0 (i := 9) (some 16) rfl rfl (by kernel_rfl) (by kernel_rfl) (by kernel_rfl) (fun _ _ _ h => h) (by kernel_rfl) HB4 ?_
    refine held_skip0 (i := 10) (some 17) rfl rfl (by kernel_rfl) (by kernel_rfl) (by kernel_rfl) (fun _ _ _ h => h) (by kernel_rfl) HB4 ?_
    refine held_skip0 (i := 11) (some 18) rfl rfl (by kernel_rfl) (by kernel_rfl) (by kernel_rfl) (fun _ _ _ h => h) (by kernel_rfl) HB4 ?_
    refine held_skip0 (i := 12) (some 19) rfl rfl (by kernel_rfl) (by kernel_rfl) (by kernel_rfl) (fun _ _ _ h => h) (by kernel_rfl) HB4 ?_
    refine held_skip0 (i := 13) (some 20) rfl rfl (by kernel_rfl) (by kernel_rfl) (by kernel_rfl) (fun _ _ _ h => h) (by kernel_rfl) HB4 ?_
    refine held_take (i := 14) (v := .bool false) (some 21) rfl rfl (by kernel_rfl) (by kernel_rfl) (by kernel_rfl) (fun _ _ _ h => h) (yieldsIf_run0 (by kernel_rfl) (fun W _ => by kernel_rfl)) HB4 ?_
    refine held_take (i := 15) (v := .bool false) (some 6) rfl rfl (by kernel_rfl) (by kernel_rfl) (by kernel_rfl) (fun _ _ _ h => h) (yieldsIf_assign (by kernel_rfl) rfl (by kernel_rfl)) HB4 ?_
    refine wpAnyH_done (by kernel_rfl) ?_ _
    simp only [Act.put, List.setIfInBounds_toArray, List.set_cons_zero, List.set_cons_succ]
    have HX4 := Lib.hid (HX1.out.next HB4.out)
    clear c0 c1 c2 HTOP HIN HDD
    go_wp2
    go_ret
    exact bb_false HX4.out.below (fun h => HR.out h.1)
end Go.Proofs.Ytiokagnolbddlaa

namespace Go.Proofs.Ytiokagnolbddlaa
open Go.RowKit

open Classical in
/-- The code of PairVectors. -/
noncomputable def pvCode (p p2 : Int) (ds : List Int) (ms : List (List (List Int))) (ds2 : List Int) (ms2 : List (List (List Int))) (i : Int) (us : List Int) (j : Int) (vs : List Int) : Int :=
  if prCode p p2 ds ms ds2 ms2 = 0 then (if VecOk p ds i us ∧ VecOk p2 ds2 j vs then 0 else 2) else prCode p p2 ds ms ds2 ms2
section
variable {p p2 : Int} {ds : List Int} {ms : List (List (List Int))} {ds2 : List Int} {ms2 : List (List (List Int))} {i : Int} {us : List Int} {j : Int} {vs : List Int}
theorem pvCode_pr (h : prCode p p2 ds ms ds2 ms2 ≠ 0) : pvCode p p2 ds ms ds2 ms2 i us j vs = prCode p p2 ds ms ds2 ms2 := if_neg h
theorem pvCode_two (h : prCode p p2 ds ms ds2 ms2 = 0) (hn : ¬ (VecOk p ds i us ∧ VecOk p2 ds2 j vs)) : pvCode p p2 ds ms ds2 ms2 i us j vs = 2 := by
  unfold pvCode
  rw [if_pos h, if_neg hn]
theorem pvCode_ok (h : prCode p p2 ds ms ds2 ms2 = 0) (hn : VecOk p ds i us ∧ VecOk p2 ds2 j vs) : pvCode p p2 ds ms ds2 ms2 i us j vs = 0 := by
  unfold pvCode
  rw [if_pos h, if_pos hn]
theorem pvCode_zero (h : pvCode p p2 ds ms ds2 ms2 i us j vs = 0) : prCode p p2 ds ms ds2 ms2 = 0 ∧ VecOk p ds i us ∧ VecOk p2 ds2 j vs := by
  unfold pvCode at h
  by_cases h0 : prCode p p2 ds ms ds2 ms2 = 0
  · rw [if_pos h0] at h
    by_cases h1 : VecOk p ds i us ∧ VecOk p2 ds2 j vs
    · exact ⟨h0, h1⟩
    · rw [if_neg h1] at h
      cases h
  · rw [if_neg h0] at h
    exact absurd h h0
end
/-- The pair vector. -/
def pvL (p : Int) (ds ds2 us vs : List Int) (i j : Int) : List Int := (List.range (plS ds ds2 (i + j) ds.length)).map (adpZ p 1 (plS ds ds2 (i + j) i.toNat) us vs (fun _ => 0) us.length 0)
theorem plS_mono (ds ds2 : List Int) (n : Int) {k m : Nat} (h : k ≤ m) : plS ds ds2 n k ≤ plS ds ds2 n m := by
  induction m with
  | zero => rw [Nat.le_zero.1 h]; exact Nat.le_refl _
  | succ m ih =>
    by_cases e : k = m + 1
    · rw [e]; exact Nat.le_refl _
    · rw [plS]
      have := ih (by omega)
      omega
theorem pv_len {ds : List Int} {us : List Int} {i : Nat} (hi : i < ds.length) (hu : (us.length : Int) = dimZ ds (i : Int)) : (ds.getD i 0).toNat = us.length := by
  rw [dimZ_in rfl hi] at hu
  rw [List.getD_eq_getElem?_getD, List.getElem?_eq_getElem hi]
  simp only [Option.getD_some]
  omega
theorem pv_fit {ds ds2 us vs : List Int} {i j : Nat} (hi : i < ds.length) (hu : (us.length : Int) = dimZ ds (i : Int)) (hv : (vs.length : Int) = dimZ ds2 (j : Int)) : plS ds ds2 ((i : Int) + (j : Int)) i + us.length * vs.length ≤ plS ds ds2 ((i : Int) + (j : Int)) ds.length := by
  have h := plS_mono ds ds2 ((i : Int) + (j : Int)) (show i + 1 ≤ ds.length by omega)
  rw [plS, show (i : Int) + (j : Int) - (i : Int) = (j : Int) by omega, pv_len hi hu, ← hv] at h
  simpa using h
theorem pv_place {ds ds2 us vs : List Int} {i j a b : Nat} (hi : i < ds.length) (hu : (us.length : Int) = dimZ ds (i : Int)) (hv : (vs.length : Int) = dimZ ds2 (j : Int)) (ha : a < us.length) (hb : b < vs.length) :
    plc (tsA (bsL ds ds.length) (bsL ds2 ds2.length) (bsL ds ds.length).length) (((i : Int), (a : Int)), ((j : Int), (b : Int))) = plS ds ds2 ((i : Int) + (j : Int)) i + a * vs.length + b := by
  rw [plc_at hi (by rw [pv_len hi hu]; exact ha) (by omega), show (dimZ ds2 (j : Int)).toNat = vs.length by omega]
  omega
theorem pv_mem {ds ds2 us vs : List Int} {i j a b : Nat} (hi : i < ds.length) (hj : j < ds2.length) (hu : (us.length : Int) = dimZ ds (i : Int)) (hv : (vs.length : Int) = dimZ ds2 (j : Int)) (ha : a < us.length) (hb : b < vs.length) :
    ((((i : Int), (a : Int)), ((j : Int), (b : Int))) : PV) ∈ tsA (bsL ds ds.length) (bsL ds2 ds2.length) (bsL ds ds.length).length := pl_mem.2 ⟨by omega, by omega, by omega, by omega⟩
theorem pv_n (ds ds2 : List Int) (n : Int) : (prF (tsA (bsL ds ds.length) (bsL ds2 ds2.length) (bsL ds ds.length).length) n).length = plS ds ds2 n ds.length := by rw [prF_blk, plS_flat]

set_option maxHeartbeats 3200000 in
set_option maxRecDepth 100000 in
theorem pairVectors_any (p p2 i j : Int) (dv mv dv2 mv2 uv vv : Value) (ds : List Int) (ms : List (List (List Int))) (ds2 : List Int) (ms2 : List (List (List Int))) (us vs : List Int) (w : World) (h : Cx 0 w dv mv ds ms) (h2 : Cx 0 w dv2 mv2 ds2 ms2) (hu : L1 0 w uv us) (hv : L1 0 w vv vs) (hd : ds.length ≤ 1048576) (hm : Bd3 1048576 ms) (hd2 : ds2.length ≤ 1048576) (hm2 : Bd3 1048576 ms2) (hul : us.length ≤ 1048576) (hvl : vs.length ≤ 1048576) :
    Calls Try.prog 46 #[.agg #[.int .i64 p, dv, mv], .agg #[.int .i64 p2, dv2, mv2], .int .i64 i, uv, .int .i64 j, vv] w (AnsW Rw1 (fun o => o = pvL p ds ds2 us vs i j) [] (pvCode p p2 ds ms ds2 ms2 i us j vs) w) := by
  obtain ⟨au, cu, rfl⟩ := Sl.shape hu
  obtain ⟨av, cv, rfl⟩ := Sl.shape hv
  have HU := Lib.hid hu
  have HV := Lib.hid hv
  clear hu hv
  obtain ⟨ad, cap, rfl⟩ := Sl.shape h.dims
  obtain ⟨am, capm, rfl⟩ := Sl.shape h.maps
  obtain ⟨ad2, cap2, rfl⟩ := Sl.shape h2.dims
  obtain ⟨am2, capm2, rfl⟩ := Sl.shape h2.maps
  obtain ⟨k1, k2⟩ := bx_two (p := p) (p2 := p2) 38 h h2
  have HX0 := Lib.hid k1
  have HY0 := Lib.hid k2
  have HM := Lib.hid hm
  have HM2 := Lib.hid hm2
  obtain ⟨w1, hw1⟩ : ∃ w1, w1 = ((w.alloc (.cells #[.int .i64 p, .slice ad ds.length cap, .slice am ms.length capm] 38)).alloc (.cells #[.int .i64 p2, .slice ad2 ds2.length cap2, .slice am2 ms2.length capm2] 38)) := ⟨_, rfl⟩
  rw [← hw1] at HX0 HY0
  have c0 := HX0.out.c0
  have c1 := HX0.out.c1
  have c2 := HX0.out.c2
  have d0 := HY0.out.c0
  have d1 := HY0.out.c1
  have d2 := HY0.out.c2
  obtain ⟨w2, hw2⟩ : ∃ w2, w2 = w1.alloc (.cells #[.int .i64 p, .slice ad ds.length cap, .slice am ms.length capm, .int .i64 p2, .slice ad2 ds2.length cap2, .slice am2 ms2.length capm2] 38) := ⟨_, rfl⟩
  have hr2 : Row2 w2 w1.heap.size p p2 (.slice ad ds.length cap) (.slice am ms.length capm) (.slice ad2 ds2.length cap2) (.slice am2 ms2.length capm2) := by
    rw [hw2]
    exact ⟨by simp, by simp, by simp, by simp, by simp, by simp⟩
  have hb2 : Below w1.heap.size w1 w2 := by rw [hw2]; exact below_alloc1 _ _
  have HX2 := Lib.hid (HX0.out.next hb2)
  have HY2 := Lib.hid (HY0.out.next hb2)
  have HCK := Lib.hid (checkPrimes2_any p p2 w1.heap.size _ _ _ _ ds ms ds2 ms2 w2 hr2 HX2.out.cx HY2.out.cx hd hm hd2 hm2)
  clear hr2 hb2
  obtain ⟨ec, hec⟩ : ∃ ec, ec = prCode p p2 ds ms ds2 ms2 := ⟨_, rfl⟩
  rw [← hec] at HCK
  have HEC := Lib.hid hec
  clear h h2 hm hm2 k1 k2 hec
  go_enter Try.func46, Try.ntmps46
  go_upto_region 1 with fail
  rw [← hw1]
  clear hw1
  go_wp2_with fail
  rw [← hw2]
  clear hw2
  refine HCK.out.mono ?_
  rintro ee w3 ⟨rfl, hb3⟩
  have HX3 := Lib.hid (HX2.out.next hb3)
  have HY3 := Lib.hid (HY2.out.next hb3)
  clear hb3 c0 c1 c2 d0 d1 d2 HX0 HY0 HX2 HY2 HCK
  have HN3 : Hid (∀ W, Below w3.heap.size w3 W → Bx w W w.heap.size p (.slice ad ds.length cap) (.slice am ms.length capm) ds ms ∧ Bx w W (w.heap.size + 1) p2 (.slice ad2 ds2.length cap2) (.slice am2 ms2.length capm2) ds2 ms2) := Lib.hid (fun W hb => ⟨HX3.out.next hb, HY3.out.next hb⟩)
  have hs3 := HX3.out.below.size
  by_cases h0 : ec = 0
  · subst h0
    have HE := Lib.hid (prCode_zero HEC.out.symm)
    have c0 := (HN3.out _ (Below.refl _ _)).1.c0
    have c1 := (HN3.out _ (Below.refl _ _)).1.c1
    have c2 := (HN3.out _ (Below.refl _ _)).1.c2
    have d0 := (HN3.out _ (Below.refl _ _)).2.c0
    have d1 := (HN3.out _ (Below.refl _ _)).2.c1
    have d2 := (HN3.out _ (Below.refl _ _)).2.c2
    have HU3 := Lib.hid (HU.out.below HX3.out.below)
    have HV3 := Lib.hid (HV.out.below HX3.out.below)
    go_wp2_with fail
    refine (isVector_any p i _ _ _ ds ms us w3 HX3.out.cx HU3.out HE.out.x.1.prime hd hul).mono ?_
    rintro ee w4 ⟨b1, rfl, hb4, hb1⟩
    have HX4 := Lib.hid (HX3.out.next hb4)
    have HY4 := Lib.hid (HY3.out.next hb4)
    have HV4 := Lib.hid (HV3.out.below hb4)
    have HU4 := Lib.hid (HU3.out.below hb4)
    have HB1 := Lib.hid hb1
    clear c0 c1 c2 d0 d1 d2
    clear hb4 hb1
    cases b1
    · have HNV : Hid (¬ (VecOk p ds i us ∧ VecOk p2 ds2 j vs)) := Lib.hid (fun hh => by have := HB1.out.2 hh.1; cases this)
      go_wp2
      go_ret2
      have hcode : pvCode p p2 ds ms ds2 ms2 i us j vs = 2 := pvCode_two HEC.out.symm HNV.out
      refine ⟨_, [], 2, rfl, Rw1.nil _ _ _, HX4.out.below, ?_⟩
      rw [hcode]
      exact RsOut.of_no (by decide)
    · have HK1 : Hid (VecOk p ds i us) := Lib.hid (HB1.out.1 rfl)
      have d0 := HY4.out.c0
      have d1 := HY4.out.c1
      have d2 := HY4.out.c2
      go_wp2_with fail
      refine (isVector_any p2 j _ _ _ ds2 ms2 vs w4 HY4.out.cx HV4.out HE.out.y.1.prime hd2 hvl).mono ?_
      rintro ee w5 ⟨b2, rfl, hb5, hb2⟩
      have HX5 := Lib.hid (HX4.out.next hb5)
      have HY5 := Lib.hid (HY4.out.next hb5)
      have HV5 := Lib.hid (HV4.out.below hb5)
      have HU5 := Lib.hid (HU4.out.below hb5)
      have HB2 := Lib.hid hb2
      clear d0 d1 d2 hb5 hb2
      cases b2
      · have HNV : Hid (¬ (VecOk p ds i us ∧ VecOk p2 ds2 j vs)) := Lib.hid (fun hh => by have := HB2.out.2 hh.2; cases this)
        go_wp2
        go_ret2
        have hcode : pvCode p p2 ds ms ds2 ms2 i us j vs = 2 := pvCode_two HEC.out.symm HNV.out
        refine ⟨_, [], 2, rfl, Rw1.nil _ _ _, HX5.out.below, ?_⟩
        rw [hcode]
        exact RsOut.of_no (by decide)
      · have HK2 : Hid (VecOk p2 ds2 j vs) := Lib.hid (HB2.out.1 rfl)
        have c0 := HX5.out.c0
        have c1 := HX5.out.c1
        have c2 := HX5.out.c2
        have d0 := HY5.out.c0
        have d1 := HY5.out.c1
        have d2 := HY5.out.c2
        go_wp2_with fail
        refine (tensorOf_any p p2 _ _ _ _ ds ms ds2 ms2 w5 HX5.out.cx HY5.out.cx HE.out.x HE.out.y).mono ?_
        rintro ee w6 ⟨G, mb, N, base, n, f, rfl, hN, hG, hmb, hprs, hpl, hb6⟩
        have HX6 := Lib.hid (HX5.out.next hb6)
        have HV6 := Lib.hid (HV5.out.below hb6)
        have HU6 := Lib.hid (HU5.out.below hb6)
        obtain ⟨i, rfl⟩ := Int.eq_ofNat_of_zero_le HK1.out.1.1
        obtain ⟨j, rfl⟩ := Int.eq_ofNat_of_zero_le HK2.out.1.1
        have hi : i < ds.length := by have := HK1.out.1.2; omega
        have hj : j < ds2.length := by have := HK2.out.1.2; omega
        have hlu := HK1.out.2.1
        have hlv := HK2.out.2.1
        have hwn : IntKind.i64.wrap ((i : Int) + (j : Int)) = ((i + j : Nat) : Int) := by rw [show (i : Int) + (j : Int) = ((i + j : Nat) : Int) by simp]; exact IntWalk.i64_in _ (by omega)
        have hnN : i + j < N := by omega
        obtain ⟨apr, cpr, hfn⟩ := hprs.shape hnN
        obtain ⟨m, hm⟩ : ∃ m, m = plS ds ds2 (((i : Nat) : Int) + ((j : Nat) : Int)) ds.length := ⟨_, rfl⟩
        have hfn : f (i + j) = .slice apr m cpr := by rw [hfn, pv_n, hm]; simp
        have k6 : w6.cell? ⟨G, i + j, none⟩ = some (.slice apr m cpr) := by rw [← hfn]; exact hprs.row.cell hnN
        have hmm : m ≤ 1048576 := by rw [hm]; exact Nat.le_trans (plS_bd HE.out.x HE.out.y _ _) (by have := HE.out.x.1.len1; omega)
        have HPL := Lib.hid hpl
        have HB6 := Lib.hid hb6
        have HGE := Lib.hid hprs.row.lt
        have HM2 := Lib.hid hm
        clear hprs hpl hb6 hfn hm
        clear c0 c1 c2 d0 d1 d2
        go_upto_region 7 with fail
        obtain ⟨w7, hw7⟩ : ∃ w7, w7 = w6.alloc (.cells #[.int .i64 p, .slice ad ds.length cap, .slice am ms.length capm, .int .i64 p2, .slice ad2 ds2.length cap2, .slice am2 ms2.length capm2, .slice (some ⟨G, 0, none⟩) N N, .map (some mb)] 118) := ⟨_, rfl⟩
        have hb7 : Below w6.heap.size w6 w7 := by rw [hw7]; exact below_alloc1 _ _
        have hs7 : w7.heap.size = w6.heap.size + 1 := by rw [hw7]; simp
        have hz7 : Rz w7 w6.heap.size 118 #[.int .i64 p, .slice ad ds.length cap, .slice am ms.length capm, .int .i64 p2, .slice ad2 ds2.length cap2, .slice am2 ms2.length capm2, .slice (some ⟨G, 0, none⟩) N N, .map (some mb)] := by rw [hw7]; exact Rz.new _ _ _
        rw [← hw7]
        clear hw7
        have t0 := hz7.cell (i := 0) rfl
        have t1 := hz7.cell (i := 1) rfl
        have t2 := hz7.cell (i := 2) rfl
        have t3 := hz7.cell (i := 3) rfl
        have t4 := hz7.cell (i := 4) rfl
        have t5 := hz7.cell (i := 5) rfl
        have t6 := hz7.cell (i := 6) rfl
        have t7 := hz7.cell (i := 7) rfl
        have k7 := later hb7 (Nat.le_refl _) k6
        have HZ7 := Lib.hid hz7
        have hmk := run_make_row' (P := Try.prog) 22 2 (.int .i64 0) 8 Try.underlying22 Try.infoI rfl .i64 .i64 m (by omega) (by omega)
        clear k6 hz7
        go_wp2_with fail
        refine (dim_any p p2 _ _ _ _ G N (i + j) mb m cpr apr _ k7 hnN).mono ?_
        rintro ee w8 ⟨rfl, hb8⟩
        have hz8 := HZ7.out.next hb8
        have hs8 := hb8.size
        clear t0 t1 t2 t3 t4 t5 t6 t7 k7 HZ7 hwn
        go_upto_region 8 with fail
        obtain ⟨w9, hw9⟩ : ∃ w9, w9 = w8.alloc (.cells (madeCells #[.int .i64 0] m) 2) := ⟨_, rfl⟩
        rw [← hw9]
        have hb9 : Below w8.heap.size w8 w9 := by rw [hw9]; exact below_alloc1 _ _
        have hs9 : w9.heap.size = w8.heap.size + 1 := by rw [hw9]; simp
        have HROW : Hid (w9.rowIs w8.heap.size 2 m (fun _ => .int .i64 0)) := Lib.hid (by rw [hw9]; exact World.rowIs_made w8 (.int .i64 0) m 2)
        have hz9 := hz8.next hb9
        have HB9 : Hid (Below w6.heap.size w6 w9) := Lib.hid ((hb7.trans (hb8.mono (by omega))).trans (hb9.mono (by omega)))
        have HT : Hid (∀ W, But w8.heap.size w9 W → Below w6.heap.size w6 W) := Lib.hid (fun W h => HB9.out.trans (h.below (by omega) (by omega)))
        clear hw9 hmk hb7 hb8 hb9 hz8
        have t0 := hz9.cell (i := 0) rfl
        have t1 := hz9.cell (i := 1) rfl
        have t2 := hz9.cell (i := 2) rfl
        have t3 := hz9.cell (i := 3) rfl
        have t4 := hz9.cell (i := 4) rfl
        have t5 := hz9.cell (i := 5) rfl
        have t6 := hz9.cell (i := 6) rfl
        have t7 := hz9.cell (i := 7) rfl
        clear hz9
        go_wp2_with fail
        refine (addPair_any p p2 1 (i : Int) (j : Int) _ _ _ _ _ _ _ (plS ds ds2 ((i : Int) + (j : Int)) i) w8.heap.size m mb n (fun _ => 0) us vs _ w9 HE.out.x.1.prime (by omega) HROW.out (fun W h => HPL.out.below (HT.out W h)) (fun W h => HU6.out.below (HT.out W h)) (fun W h => HV6.out.below (HT.out W h)) HK1.out.2.2 (by rw [HE.out.prime]; exact HK2.out.2.2) (fun k _ => by have := HE.out.x.1.prime.lo; omega) (fun a b ha hb => ⟨?_, pv_mem hi hj hlu hlv ha hb, pv_place hi hlu hlv ha hb⟩) (by rw [HM2.out]; exact pv_fit hi hlu hlv) hul hvl).mono ?_
        · exact ⟨WalkArith.wf_i64 (by simp only []; omega), WalkArith.wf_i64 (by simp only []; omega), WalkArith.wf_i64 (by simp only []; omega), WalkArith.wf_i64 (by simp only []; omega)⟩
        rintro ee wA ⟨rfl, hbut, hrow⟩
        have HR := Lib.hid hrow
        have HBA := Lib.hid (HX6.out.next (HT.out wA hbut)).below
        clear hbut hrow t0 t1 t2 t3 t4 t5 t6 t7
        go_wp2
        go_ret2
        refine ⟨_, pvL p ds ds2 us vs (i : Int) (j : Int), 0, rfl, w1_rw1 ?_ (by unfold pvL; rw [List.length_map, List.length_range, ← HM2.out]; omega), HBA.out, RsOut.of_yes (pvCode_ok HEC.out.symm ⟨HK1.out, HK2.out⟩) rfl⟩
        exact (row_rc (xs := pvL p ds ds2 us vs (i : Int) (j : Int)) (lo := w.heap.size) HR.out (by unfold pvL; rw [List.length_map, List.length_range, HM2.out]) (fun q hq => by unfold pvL; simp) hmm (by have := HX6.out.below.size; omega)).1
  · have hne2 : (ec != 0) = true := by simp [h0]
    have hne3 : (ec == 0) = false := by simp [h0]
    have HNE := Lib.hid h0
    clear h0
    go_wp2
    go_ret2
    refine ⟨_, [], ec, rfl, Rw1.nil _ _ _, HX3.out.below, ?_⟩
    rw [show pvCode p p2 ds ms ds2 ms2 i us j vs = ec from by rw [HEC.out]; exact pvCode_pr (by rw [← HEC.out]; exact HNE.out)]
    exact RsOut.of_no HNE.out
end Go.Proofs.Ytiokagnolbddlaa

namespace Go.Proofs.Ytiokagnolbddlaa
open Go.RowKit

theorem td_pl {ds ds2 : List Int} (h : ∀ n, 0 ≤ dimZ ds n ∧ dimZ ds n ≤ 8) (h2 : ∀ n, 0 ≤ dimZ ds2 n ∧ dimZ ds2 n ≤ 8) (n : Nat) : ∀ k : Nat, k ≤ ds.length → tdS ds ds2 n k = (plS ds ds2 (n : Int) k : Int) := by
  intro k
  induction k with
  | zero => intro _; rfl
  | succ k ih =>
    intro hk
    have e : (ds.getD k 0).toNat = (dimZ ds (k : Int)).toNat := by rw [dimZ_in rfl (show k < ds.length by omega), getD_of_lt _ (by omega)]
    rw [tdS, plS, ih (by omega), e]
    have h1 := h (k : Int)
    have h3 := h2 ((n : Int) - (k : Int))
    rw [Int.natCast_add, Int.natCast_mul, Int.toNat_of_nonneg h1.1, Int.toNat_of_nonneg h3.1]

set_option maxHeartbeats 6400000 in
set_option maxRecDepth 100000 in
theorem spPairVectors_any (p p2 i j : Int) (dv mv dv2 mv2 uv vv : Value) (ds : List Int) (ms : List (List (List Int))) (ds2 : List Int) (ms2 : List (List (List Int))) (us vs : List Int) (w : World) (h : Cx 0 w dv mv ds ms) (h2 : Cx 0 w dv2 mv2 ds2 ms2) (hu : L1 0 w uv us) (hv : L1 0 w vv vs) (hd : ds.length ≤ 1048576) (hm : Bd3 1048576 ms) (hd2 : ds2.length ≤ 1048576) (hm2 : Bd3 1048576 ms2) (hul : us.length ≤ 1048576) (hvl : vs.length ≤ 1048576) :
    Calls Try.prog 43 #[.agg #[.int .i64 p, dv, mv], .agg #[.int .i64 p2, dv2, mv2], .int .i64 i, uv, .int .i64 j, vv] w (AnsS (L1 0) (fun o => o = pvL p ds ds2 us vs i j) [] (pvCode p p2 ds ms ds2 ms2 i us j vs) w) := by
  obtain ⟨au, cu, rfl⟩ := Sl.shape hu
  obtain ⟨av, cv, rfl⟩ := Sl.shape hv
  have HU := Lib.hid hu
  have HV := Lib.hid hv
  clear hu hv
  obtain ⟨ad, cap, rfl⟩ := Sl.shape h.dims
  obtain ⟨am, capm, rfl⟩ := Sl.shape h.maps
  obtain ⟨ad2, cap2, rfl⟩ := Sl.shape h2.dims
  obtain ⟨am2, capm2, rfl⟩ := Sl.shape h2.maps
  obtain ⟨k1, k2⟩ := bx_two (p := p) (p2 := p2) 38 h h2
  have HX0 := Lib.hid k1
  have HY0 := Lib.hid k2
  have HM := Lib.hid hm
  have HM2 := Lib.hid hm2
  obtain ⟨w1, hw1⟩ : ∃ w1, w1 = ((w.alloc (.cells #[.int .i64 p, .slice ad ds.length cap, .slice am ms.length capm] 38)).alloc (.cells #[.int .i64 p2, .slice ad2 ds2.length cap2, .slice am2 ms2.length capm2] 38)) := ⟨_, rfl⟩
  rw [← hw1] at HX0 HY0
  have c0 := HX0.out.c0
  have c1 := HX0.out.c1
  have c2 := HX0.out.c2
  have d0 := HY0.out.c0
  have d1 := HY0.out.c1
  have d2 := HY0.out.c2
  have HX2 := Lib.hid HX0.out
  have HY2 := Lib.hid HY0.out
  have HCK := Lib.hid (l06Two_any p p2 _ _ _ _ ds ms ds2 ms2 w1 HX0.out.cx HY0.out.cx hd hm hd2 hm2)
  obtain ⟨ec, hec⟩ : ∃ ec, ec = prCode p p2 ds ms ds2 ms2 := ⟨_, rfl⟩
  rw [← hec] at HCK
  have HEC := Lib.hid hec
  clear h h2 hm hm2 k1 k2 hec
  go_enter Try.func43, Try.ntmps43
  go_upto_region 1 with fail
  rw [← hw1]
  clear hw1
  go_wp2_with fail
  refine HCK.out.mono ?_
  rintro ee w3 ⟨rfl, hb3⟩
  have HX3 := Lib.hid (HX2.out.next hb3)
  have HY3 := Lib.hid (HY2.out.next hb3)
  clear hb3 c0 c1 c2 d0 d1 d2 HX0 HY0 HX2 HY2 HCK
  have HN3 : Hid (∀ W, Below w3.heap.size w3 W → Bx w W w.heap.size p (.slice ad ds.length cap) (.slice am ms.length capm) ds ms ∧ Bx w W (w.heap.size + 1) p2 (.slice ad2 ds2.length cap2) (.slice am2 ms2.length capm2) ds2 ms2) := Lib.hid (fun W hb => ⟨HX3.out.next hb, HY3.out.next hb⟩)
  have hs3 := HX3.out.below.size
  by_cases h0 : ec = 0
  · subst h0
    have HE := Lib.hid (prCode_zero HEC.out.symm)
    have hl6 := HE.out.x.1.len1
    have hl7 := HE.out.y.1.len1
    have hwk1 : IntKind.i64.wrap ((ds.length : Int) - 1) = (ds.length : Int) - 1 := IntWalk.i64_in _ (by omega)
    have hwk2 : IntKind.i64.wrap ((ds2.length : Int) - 1) = (ds2.length : Int) - 1 := IntWalk.i64_in _ (by omega)
    have HU3 := Lib.hid (HU.out.below HX3.out.below)
    have HV3 := Lib.hid (HV.out.below HX3.out.below)
    have c0 := (HN3.out _ (Below.refl _ _)).1.c0
    have c1 := (HN3.out _ (Below.refl _ _)).1.c1
    have c2 := (HN3.out _ (Below.refl _ _)).1.c2
    have d0 := (HN3.out _ (Below.refl _ _)).2.c0
    have d1 := (HN3.out _ (Below.refl _ _)).2.c1
    have d2 := (HN3.out _ (Below.refl _ _)).2.c2
    by_cases hi : 0 ≤ i ∧ i ≤ (ds.length : Int) - 1
    · have HI := Lib.hid hi
      clear hi
      go_wp2_with fail
      refine (spin_yes HI.out _).mono ?_
      rintro ee w' ⟨rfl, rfl⟩
      by_cases hj : 0 ≤ j ∧ j ≤ (ds2.length : Int) - 1
      · have HJ := Lib.hid hj
        clear hj
        go_wp2_with fail
        refine (spin_yes HJ.out _).mono ?_
        rintro ee w' ⟨rfl, rfl⟩
        go_wp2_with fail
        refine (l04Vector_any p i _ _ _ ds ms us _ HX3.out.cx HU3.out HE.out.x hul).mono ?_
        rintro ee w4 ⟨b1, rfl, hb4, hb1⟩
        have HX4 := Lib.hid (HX3.out.next hb4)
        have HY4 := Lib.hid (HY3.out.next hb4)
        have HV4 := Lib.hid (HV3.out.below hb4)
        have HU4 := Lib.hid (HU3.out.below hb4)
        have HB1 := Lib.hid hb1
        clear c0 c1 c2 d0 d1 d2
        clear hb4 hb1
        cases b1
        · have HNV : Hid (¬ (VecOk p ds i us ∧ VecOk p2 ds2 j vs)) := Lib.hid (fun hh => by have := HB1.out.2 hh.1.2; cases this)
          have hcode : pvCode p p2 ds ms ds2 ms2 i us j vs = 2 := pvCode_two HEC.out.symm HNV.out
          go_wp2
          go_ret2
          refine ⟨_, [], 2, rfl, Or.inl ⟨rfl, _, _, rfl⟩, HX4.out.below, ?_⟩
          rw [hcode]
          exact RsOut.of_no (by decide)
        · have HK1 : Hid (VecOk p ds i us) := Lib.hid ⟨HI.out, HB1.out.1 rfl⟩
          have c0 := HX4.out.c0
          have c1 := HX4.out.c1
          have c2 := HX4.out.c2
          have d0 := HY4.out.c0
          have d1 := HY4.out.c1
          have d2 := HY4.out.c2
          go_wp2_with fail
          refine (l04Vector_any p2 j _ _ _ ds2 ms2 vs _ HY4.out.cx HV4.out HE.out.y hvl).mono ?_
          rintro ee w5 ⟨b2, rfl, hb5, hb2⟩
          have HX5 := Lib.hid (HX4.out.next hb5)
          have HY5 := Lib.hid (HY4.out.next hb5)
          have HV5 := Lib.hid (HV4.out.below hb5)
          have HU5 := Lib.hid (HU4.out.below hb5)
          have HB2 := Lib.hid hb2
          clear c0 c1 c2 d0 d1 d2
          clear hb5 hb2
          cases b2
          · have HNV : Hid (¬ (VecOk p ds i us ∧ VecOk p2 ds2 j vs)) := Lib.hid (fun hh => by have := HB2.out.2 hh.2.2; cases this)
            have hcode : pvCode p p2 ds ms ds2 ms2 i us j vs = 2 := pvCode_two HEC.out.symm HNV.out
            go_wp2
            go_ret2
            refine ⟨_, [], 2, rfl, Or.inl ⟨rfl, _, _, rfl⟩, HX5.out.below, ?_⟩
            rw [hcode]
            exact RsOut.of_no (by decide)
          · have HK2 : Hid (VecOk p2 ds2 j vs) := Lib.hid ⟨HJ.out, HB2.out.1 rfl⟩
            have c0 := HX5.out.c0
            have c1 := HX5.out.c1
            have c2 := HX5.out.c2
            have d0 := HY5.out.c0
            have d1 := HY5.out.c1
            have d2 := HY5.out.c2
            go_wp2_with fail
            refine (l06Dims_any p p2 _ _ _ _ ds ms ds2 ms2 w5 HX5.out.cx HY5.out.cx HE.out.x HE.out.y).mono ?_
            rintro ee w6 ⟨ud, rfl, hgb, hb6⟩
            have HX6 := Lib.hid (HX5.out.next hb6)
            have HY6 := Lib.hid (HY5.out.next hb6)
            have HV6 := Lib.hid (HV5.out.below hb6)
            have HU6 := Lib.hid (HU5.out.below hb6)
            obtain ⟨i, rfl⟩ := Int.eq_ofNat_of_zero_le HK1.out.1.1
            obtain ⟨j, rfl⟩ := Int.eq_ofNat_of_zero_le HK2.out.1.1
            have hi : i < ds.length := by have := HK1.out.1.2; omega
            have hj : j < ds2.length := by have := HK2.out.1.2; omega
            have hlu := HK1.out.2.1
            have hlv := HK2.out.2.1
            have hu8 := dimZ_b HE.out.x (i : Int)
            have hv8 := dimZ_b HE.out.y (j : Int)
            have hwn : IntKind.i64.wrap ((i : Int) + (j : Int)) = ((i + j : Nat) : Int) := by rw [show (i : Int) + (j : Int) = ((i + j : Nat) : Int) by simp]; exact IntWalk.i64_in _ (by omega)
            obtain ⟨m, hm⟩ : ∃ m, m = plS ds ds2 ((i : Int) + (j : Int)) ds.length := ⟨_, rfl⟩
            obtain ⟨N, hN⟩ : ∃ N, N = (tdD ds ds2).length := ⟨_, rfl⟩
            have hnN : i + j < (tdD ds ds2).length := by rw [tdD_length]; unfold tdL; omega
            obtain ⟨aq, cq, rfl⟩ := Sl.shape hgb.l1
            refine Sl.cases hgb.l1 (fun _ _ hx _ => absurd hnN (by simp [hx])) (fun bd od capd hvd _ _ hcl => ?_)
            injection hvd with e1 e2 e3
            clear e2
            subst e1 e3
            obtain ⟨u, hu, hru⟩ := hcl (i + j) hnN
            have hval : (tdD ds ds2)[i + j] = (m : Int) := by
              have h1 : (tdD ds ds2)[i + j] = tdN ds ds2 (i + j) := by simp [tdD]
              rw [h1, ← tdS_full, td_pl (fun n => dimZ_b HE.out.x n) (fun n => dimZ_b HE.out.y n) (i + j) ds.length (Nat.le_refl _), hm]
              simp
            have k6 : w6.cell? ⟨bd, od + (i + j), none⟩ = some (.int .i64 (m : Int)) := by rw [hu, hru, hval]
            have hmm : m ≤ 1048576 := by rw [hm]; exact Nat.le_trans (plS_bd HE.out.x HE.out.y _ _) (by omega)
            rw [← hN] at hnN ⊢
            clear hN
            have hnN2 : ((i + j : Nat) : Int) < (N : Int) := by omega
            have hmk := run_make_row' (P := Try.prog) 22 2 (.int .i64 0) 8 Try.underlying22 Try.infoI rfl .i64 .i64 m (by omega) (by omega)
            have HFIT : Hid (plS ds ds2 ((i : Int) + (j : Int)) i + us.length * vs.length ≤ m) := Lib.hid (by rw [hm]; exact pv_fit hi hlu hlv)
            have HMD := Lib.hid hm
            clear hgb hb6 hcl hu hru hval hm c0 c1 c2 d0 d1 d2
            go_upto_region 9 with fail
            obtain ⟨w7, hw7⟩ : ∃ w7, w7 = w6.alloc (.cells (madeCells #[.int .i64 0] m) 2) := ⟨_, rfl⟩
            rw [← hw7]
            have hb7 : Below w6.heap.size w6 w7 := by rw [hw7]; exact below_alloc1 _ _
            obtain ⟨g, hg⟩ : ∃ g, g = w6.heap.size := ⟨_, rfl⟩
            have hs7 : w7.heap.size = g + 1 := by rw [hw7, hg]; simp
            have HROW0 : Hid (w7.rowIs g 2 m (fun _ => .int .i64 0)) := Lib.hid (by rw [hw7, hg]; exact World.rowIs_made w6 (.int .i64 0) m 2)
            have HT : Hid (∀ W, But g w7 W → Below w6.heap.size w6 W) := Lib.hid (fun W h => hb7.trans (h.below (by omega) (by omega)))
            have HXB : Hid (∀ W, But g w7 W → Bx w W w.heap.size p (.slice ad ds.length cap) (.slice am ms.length capm) ds ms ∧ Bx w W (w.heap.size + 1) p2 (.slice ad2 ds2.length cap2) (.slice am2 ms2.length capm2) ds2 ms2) := Lib.hid (fun W h => ⟨HX6.out.next (HT.out W h), HY6.out.next (HT.out W h)⟩)
            have HUB : Hid (∀ W, But g w7 W → L1 0 W (.slice au us.length cu) us ∧ L1 0 W (.slice av vs.length cv) vs) := Lib.hid (fun W h => ⟨HU6.out.below (HT.out W h), HV6.out.below (HT.out W h)⟩)
            obtain ⟨S0, hS0⟩ : ∃ S0, S0 = plS ds ds2 ((i : Int) + (j : Int)) i := ⟨_, rfl⟩
            rw [← hS0] at HFIT
            have HSD := Lib.hid hS0
            have hp2 := HE.out.x.1.prime.lo
            have hp7 := HE.out.x.1.prime.hi
            have HUN : Hid (∀ x ∈ us, 0 ≤ x ∧ x ≤ p - 1) := Lib.hid HK1.out.2.2
            have HVN : Hid (∀ x ∈ vs, 0 ≤ x ∧ x ≤ p - 1) := Lib.hid (by rw [HE.out.prime]; exact HK2.out.2.2)
            have hgs : w.heap.size ≤ g := by rw [hg]; exact HX6.out.below.size
            rw [← hg]
            clear hw7 hb7 hmk k6 hwn hnN hnN2 hS0 hg HU3 HU4 HU5 HV3 HV4 HV5 HX3 HX4 HX5 HY3 HY4 HY5 HN3
            go_wp2
            go_loopw [16, 17] (fun x _ wr => ∃ a : Nat, a ≤ us.length ∧ x = .int .i64 (a : Int) ∧ Hid (But g w7 wr) ∧ Hid (wr.rowIs g 2 m (fun k => .int .i64 (adpZ p 1 S0 us vs (fun _ => 0) a 0 k)))) (fun x _ _ => us.length - (intOf x).toNat)
            case atStart => exact ⟨0, Nat.zero_le _, rfl, Lib.hid (But.refl _ _), Lib.hid (HROW0.out.congr (fun k _ => by rw [adpZ_zero]))⟩
            case round =>
              clear HROW0
              obtain ⟨a, ha, rfl, HB, HROW⟩ := hrel
              obtain ⟨wx, hwx⟩ : ∃ wx : World, wx = wr := ⟨_, rfl⟩
              subst hwx
              by_cases hlt : a < us.length
              · have hai : (a : Int) < (us.length : Int) := by omega
                refine Sl.cases (HUB.out _ HB.out).1 (fun _ _ hx _ => absurd hlt (by simp [hx])) (fun bu ou cu2 hvu _ _ hcl => ?_)
                injection hvu with k1 k2 k3
                clear k2
                subst k1 k3
                have HUC : Hid (∀ W, But g w7 W → W.cell? ⟨bu, ou + a, none⟩ = some (.int .i64 us[a])) := Lib.hid (fun W h => by
                  refine Sl.cases (HUB.out _ h).1 (fun _ _ hx _ => absurd hlt (by simp [hx])) (fun b2 o2 c2 hv2 _ _ hc2 => ?_)
                  injection hv2 with k1 _ _
                  injection k1 with k1
                  injection k1 with k1 k2 _
                  subst k1 k2
                  obtain ⟨u, hu, hru⟩ := hc2 a hlt
                  rw [hu, hru])
                obtain ⟨x, hx⟩ : ∃ x, x = us[a] := ⟨_, rfl⟩
                rw [← hx] at HUC
                have hxb := HUN.out _ (List.getElem_mem hlt)
                rw [← hx] at hxb
                have HX : Hid (us.getD a 0 = x) := Lib.hid (by rw [getD_of_lt _ hlt, hx])
                clear hcl hx
                go_wp2
                go_loopw [17] (fun y wr => ∃ b : Nat, b ≤ vs.length ∧ y = .int .i64 (b : Int) ∧ Hid (But g w7 wr) ∧ Hid (wr.rowIs g 2 m (fun k => .int .i64 (adpZ p 1 S0 us vs (fun _ => 0) a b k)))) (fun y _ => vs.length - (intOf y).toNat)
                case atStart => exact ⟨0, Nat.zero_le _, rfl, HB, HROW⟩
                case round =>
                  clear HB HROW
                  obtain ⟨b, hb, rfl, HB, HROW⟩ := hrel
                  obtain ⟨wy, hwy⟩ : ∃ wy : World, wy = wr := ⟨_, rfl⟩
                  subst hwy
                  by_cases hltb : b < vs.length
                  · have hbi : (b : Int) < (vs.length : Int) := by omega
                    refine Sl.cases (HUB.out _ HB.out).2 (fun _ _ hx _ => absurd hltb (by simp [hx])) (fun bv ov cv2 hvv _ _ hcl => ?_)
                    injection hvv with k1 k2 k3
                    clear k2
                    subst k1 k3
                    have HVC : Hid (∀ W, But g w7 W → W.cell? ⟨bv, ov + b, none⟩ = some (.int .i64 vs[b])) := Lib.hid (fun W h => by
                      refine Sl.cases (HUB.out _ h).2 (fun _ _ hx _ => absurd hltb (by simp [hx])) (fun b2 o2 c2 hv2 _ _ hc2 => ?_)
                      injection hv2 with k1 _ _
                      injection k1 with k1
                      injection k1 with k1 k2 _
                      subst k1 k2
                      obtain ⟨u, hu, hru⟩ := hc2 b hltb
                      rw [hu, hru])
                    obtain ⟨y, hy⟩ : ∃ y, y = vs[b] := ⟨_, rfl⟩
                    rw [← hy] at HVC
                    have hyb := HVN.out _ (List.getElem_mem hltb)
                    rw [← hy] at hyb
                    have HY : Hid (vs.getD b 0 = y) := Lib.hid (by rw [getD_of_lt _ hltb, hy])
                    clear hcl hy
                    obtain ⟨pl, hple⟩ : ∃ pl, pl = S0 + a * vs.length + b := ⟨_, rfl⟩
                    have hab : a * vs.length + vs.length ≤ us.length * vs.length := by
                      have := Nat.mul_le_mul_right vs.length (show a + 1 ≤ us.length from hlt)
                      rwa [Nat.succ_mul] at this
                    have hpn : pl < m := by have := HFIT.out; omega
                    have HPE := Lib.hid hple
                    have HPC : Hid (plS ds ds2 ((i : Int) + (j : Int)) i + (a * (dimZ ds2 (j : Int)).toNat + b) = pl) := Lib.hid (by rw [← HSD.out, show (dimZ ds2 (j : Int)).toNat = vs.length by omega, hple]; omega)
                    have HCALL : Hid (∀ W, But g w7 W → Calls Try.prog 104 #[.agg #[.int .i64 p, .slice ad ds.length cap, .slice am ms.length capm], .agg #[.int .i64 p2, .slice ad2 ds2.length cap2, .slice am2 ms2.length capm2], .int .i64 (i : Int), .int .i64 (a : Int), .int .i64 (j : Int), .int .i64 (b : Int)] W (BR (.int .i64 (pl : Int)) W)) := Lib.hid (fun W h => by
                      have := l06Place_any p p2 i a j b _ _ _ _ ds ms ds2 ms2 W (HXB.out _ h).1.cx (HXB.out _ h).2.cx HE.out.x HE.out.y hi (by omega) (by omega) (by omega)
                      rwa [HPC.out] at this)
                    obtain ⟨hx0, hx1⟩ := hxb
                    obtain ⟨hy0, hy1⟩ := hyb
                    have m2 : 0 ≤ x * y := Int.mul_nonneg hx0 hy0
                    have m3 : x * y ≤ 36 := Int.le_trans (Int.mul_le_mul (show x ≤ 6 by omega) (show y ≤ 6 by omega) hy0 (by omega)) (by omega)
                    have HST2 : Hid (∀ W : World, W.rowIs g 2 m (fun k => .int .i64 (adpZ p 1 S0 us vs (fun _ => 0) a b k)) → (W.setCell ⟨g, 0 + pl, none⟩ (.int .i64 ((x * y) % p))).rowIs g 2 m (fun k => .int .i64 (adpZ p 1 S0 us vs (fun _ => 0) a (b + 1) k))) := Lib.hid (fun W h => by
                      rw [Nat.zero_add]
                      refine (h.set pl _).congr (fun k _ => ?_)
                      rw [← adpZ_step p 1 S0 us vs (fun _ => 0) hltb k, HX.out, HY.out, Int.zero_add, Int.one_mul]
                      by_cases e : k = pl
                      · rw [if_pos e, if_pos (e.trans HPE.out)]
                      · rw [if_neg e, if_neg (fun e2 => e (e2.trans HPE.out.symm))])
                    have HACC : Hid (∀ W : World, W.rowIs g 2 m (fun k => .int .i64 (adpZ p 1 S0 us vs (fun _ => 0) a b k)) → W.cell? ⟨g, 0 + pl, none⟩ = some (.int .i64 0)) := Lib.hid (fun W h => by have h2 := h.cell hpn; rw [Nat.zero_add, h2, HPE.out, adpZ_at])
                    clear hple hab
                    go_upto_region 15 with fail
                    have S0' : Hid (But g w7 wy.drew ∧ wy.drew.rowIs g 2 m (fun k => .int .i64 (adpZ p 1 S0 us vs (fun _ => 0) a b k))) := Lib.hid ⟨HB.out.drew, HROW.out.drew⟩
                    refine wp_region_last (fun W => Hid (But g w7 W ∧ W.rowIs g 2 m (fun k => .int .i64 (adpZ p 1 S0 us vs (fun _ => 0) a b k)))) 21 (by kernel_rfl) rfl (by kernel_rfl) ?_
                    refine held_take (i := 0) (v := .slice (some ⟨g, 0, none⟩) m m) (some 81) rfl rfl (by kernel_rfl) (by kernel_rfl) (by kernel_rfl) (fun _ _ _ h => h) (yieldsIf_move (by kernel_rfl) rfl (by kernel_rfl)) S0' ?_
                    refine held_take (i := 1) (v := .agg #[.int .i64 p, .slice ad ds.length cap, .slice am ms.length capm]) (some 82) rfl rfl (by kernel_rfl) (by kernel_rfl) (by kernel_rfl) (fun _ _ _ h => h) (yieldsIf_cell (by kernel_rfl) rfl (by kernel_rfl) (fun W h => hload3x (HXB.out W h.out.1).1)) S0' ?_
                    refine held_take (i := 2) (v := .agg #[.int .i64 p2, .slice ad2 ds2.length cap2, .slice am2 ms2.length capm2]) (some 83) rfl rfl (by kernel_rfl) (by kernel_rfl) (by kernel_rfl) (fun _ _ _ h => h) (yieldsIf_cell (by kernel_rfl) rfl (by kernel_rfl) (fun W h => hload3x (HXB.out W h.out.1).2)) S0' ?_
                    refine held_take (i := 3) (v := .int .i64 (i : Int)) (some 84) rfl rfl (by kernel_rfl) (by kernel_rfl) (by kernel_rfl) (fun _ _ _ h => h) (yieldsIf_move (by kernel_rfl) rfl (by kernel_rfl)) S0' ?_
                    refine held_take (i := 4) (v := .int .i64 (a : Int)) (some 85) rfl rfl (by kernel_rfl) (by kernel_rfl) (by kernel_rfl) (fun _ _ _ h => h) (yieldsIf_move (by kernel_rfl) rfl (by kernel_rfl)) S0' ?_
                    refine held_take (i := 5) (v := .int .i64 (j : Int)) (some 86) rfl rfl (by kernel_rfl) (by kernel_rfl) (by kernel_rfl) (fun _ _ _ h => h) (yieldsIf_move (by kernel_rfl) rfl (by kernel_rfl)) S0' ?_
                    refine held_take (i := 6) (v := .int .i64 (b : Int)) (some 87) rfl rfl (by kernel_rfl) (by kernel_rfl) (by kernel_rfl) (fun _ _ _ h => h) (yieldsIf_move (by kernel_rfl) rfl (by kernel_rfl)) S0' ?_
                    refine held_take (i := 8) (v := .slice (some ⟨bu, ou, none⟩) us.length cu) (some 89) rfl rfl (by kernel_rfl) (by kernel_rfl) (by kernel_rfl) (fun _ _ _ h => h) (yieldsIf_move (by kernel_rfl) rfl (by kernel_rfl)) S0' ?_
                    refine held_take (i := 9) (v := .int .i64 (a : Int)) (some 90) rfl rfl (by kernel_rfl) (by kernel_rfl) (by kernel_rfl) (fun _ _ _ h => h) (yieldsIf_move (by kernel_rfl) rfl (by kernel_rfl)) S0' ?_
                    refine held_take (i := 10) (v := .pointer (some ⟨bu, ou + a, none⟩)) (some 91) rfl rfl (by kernel_rfl) (by kernel_rfl) (by kernel_rfl) (fun _ _ _ h => h) (yieldsIf_index (by kernel_rfl) rfl (by kernel_rfl) (by kernel_rfl) (hidxI bu ou cu hlt)) S0' ?_
                    refine held_take (i := 11) (v := .int .i64 x) (some 92) rfl rfl (by kernel_rfl) (by kernel_rfl) (by kernel_rfl) (fun _ _ _ h => h) (yieldsIf_cell (by kernel_rfl) rfl (by kernel_rfl) (fun W h => hload W (HUC.out _ h.out.1))) S0' ?_
                    refine held_take (i := 12) (v := .slice (some ⟨bv, ov, none⟩) vs.length cv) (some 93) rfl rfl (by kernel_rfl) (by kernel_rfl) (by kernel_rfl) (fun _ _ _ h => h) (yieldsIf_move (by kernel_rfl) rfl (by kernel_rfl)) S0' ?_
                    refine held_take (i := 13) (v := .int .i64 (b : Int)) (some 94) rfl rfl (by kernel_rfl) (by kernel_rfl) (by kernel_rfl) (fun _ _ _ h => h) (yieldsIf_move (by kernel_rfl) rfl (by kernel_rfl)) S0' ?_
                    refine held_take (i := 14) (v := .pointer (some ⟨bv, ov + b, none⟩)) (some 95) rfl rfl (by kernel_rfl) (by kernel_rfl) (by kernel_rfl) (fun _ _ _ h => h) (yieldsIf_index (by kernel_rfl) rfl (by kernel_rfl) (by kernel_rfl) (hidxI bv ov cv hltb)) S0' ?_
                    refine held_take (i := 15) (v := .int .i64 y) (some 96) rfl rfl (by kernel_rfl) (by kernel_rfl) (by kernel_rfl) (fun _ _ _ h => h) (yieldsIf_cell (by kernel_rfl) rfl (by kernel_rfl) (fun W h => hload W (HVC.out _ h.out.1))) S0' ?_
                    refine held_take (i := 16) (v := .int .i64 (x * y)) (some 97) rfl rfl (by kernel_rfl) (by kernel_rfl) (by kernel_rfl) (fun _ _ _ h => h) (yieldsIf_bin (by kernel_rfl) rfl (by kernel_rfl) (by kernel_rfl) (fun _ => rfl) (hmulA (IntWalk.i64_in _ (by omega)))) S0' ?_
                    refine held_take (i := 17) (v := .pointer (some ⟨w.heap.size, 0, none⟩)) (some 98) rfl rfl (by kernel_rfl) (by kernel_rfl) (by kernel_rfl) (fun _ _ _ h => h) (yieldsIf_run (by kernel_rfl) (fun W _ => by kernel_rfl)) S0' ?_
                    refine held_take (i := 18) (v := .int .i64 p) (some 99) rfl rfl (by kernel_rfl) (by kernel_rfl) (by kernel_rfl) (fun _ _ _ h => h) (yieldsIf_cell (by kernel_rfl) rfl (by kernel_rfl) (fun W h => hload W (HXB.out W h.out.1).1.c0)) S0' ?_
                    refine held_take (i := 19) (v := .int .i64 ((x * y) % p)) (some 100) rfl rfl (by kernel_rfl) (by kernel_rfl) (by kernel_rfl) (fun _ _ _ h => h) (yieldsIf_bin (by kernel_rfl) rfl (by kernel_rfl) (by kernel_rfl) (fun _ => rfl) (hremI (by omega) (by omega) (by omega))) S0' ?_
                    refine held_enter (i := 7) (some 88) (f := 104) (args := #[.agg #[.int .i64 p, .slice ad ds.length cap, .slice am ms.length capm], .agg #[.int .i64 p2, .slice ad2 ds2.length cap2, .slice am2 ms2.length capm2], .int .i64 (i : Int), .int .i64 (a : Int), .int .i64 (j : Int), .int .i64 (b : Int)]) (by kernel_rfl) rfl rfl rfl (by kernel_rfl) (HCALL.out _ S0'.out.1) ?_ (fun c w' h => by cases h.1) (fun w' h => by cases h.1)
                    rintro e8 w8 ⟨he8, hb8⟩
                    injection he8 with he8
                    subst he8
                    have S1 : Hid (But g w7 w8 ∧ w8.rowIs g 2 m (fun k => .int .i64 (adpZ p 1 S0 us vs (fun _ => 0) a b k))) := Lib.hid ⟨S0'.out.1.trans (But.of_below hb8), rowIs_below S0'.out.2 hb8⟩
                    refine ⟨S1, ?_⟩
                    refine held_take (i := 20) (v := .pointer (some ⟨g, 0 + pl, none⟩)) (some 101) rfl rfl (by kernel_rfl) (by kernel_rfl) (by kernel_rfl) (fun _ _ _ h => h) (yieldsIf_index (by kernel_rfl) rfl (by kernel_rfl) (by kernel_rfl) (hidxI g 0 m hpn)) S1 ?_
                    refine held_none (i := 21) (v := .bool false) rfl rfl (by kernel_rfl) (by kernel_rfl) (by kernel_rfl) (fun _ _ _ h => h) (yieldsIf_move (by kernel_rfl) rfl (by kernel_rfl)) S1 ?_
                    have hac2 : w8.cell? ⟨g, 0 + pl, none⟩ = some (.int .i64 0) := HACC.out _ S1.out.2
                    have hfz2 : w8.frozen? ⟨g, 0 + pl, none⟩ = false := S1.out.2.frozen _
                    have hBN := S1.out.1.trans (But.set w8 (0 + pl) (.int .i64 ((x * y) % p)) (b := g))
                    have HRN := Lib.hid (HST2.out _ S1.out.2)
                    refine wpAnyH_done (by kernel_rfl) (lastQ_storeI rfl (by kernel_rfl) (by kernel_rfl) (.tmp 101) (.tmp 100) (by kernel_rfl) g (0 + pl) ((x * y) % p) _ (by kernel_rfl) (by kernel_rfl) hac2 hfz2 ?_) _
                    simp only [Act.put, List.setIfInBounds_toArray, List.set_cons_zero, List.set_cons_succ]
                    obtain ⟨WN, hWN⟩ : ∃ WN, WN = w8.setCell ⟨g, 0 + pl, none⟩ (.int .i64 ((x * y) % p)) := ⟨_, rfl⟩
                    rw [← hWN] at hBN HRN ⊢
                    have HBN := Lib.hid hBN
                    clear hBN S0' S1 hWN hac2 hfz2 hb8
                    go_wp2
                    go_roundw
                    case rel => exact ⟨b + 1, by omega, by go_num, HBN, HRN⟩
                    case measure => simp [intOf]; omega
                  · have hbi : ¬ (b : Int) < (vs.length : Int) := by omega
                    have hbe : b = vs.length := by omega
                    have HR2 : Hid (wy.rowIs g 2 m (fun k => .int .i64 (adpZ p 1 S0 us vs (fun _ => 0) (a + 1) 0 k))) := Lib.hid (HROW.out.congr (fun k _ => by rw [hbe, adpZ_next]))
                    clear hbe
                    go_wp2
                    go_roundw
                    case rel => exact ⟨a + 1, by omega, by go_num, HB, HR2⟩
                    case measure => simp [intOf]; omega
              · have hai : ¬ (a : Int) < (us.length : Int) := by omega
                have hae : a = us.length := by omega
                have HBF := Lib.hid (HXB.out _ HB.out).1.below
                have HRF : Hid (wx.rowIs g 2 m (fun k => .int .i64 (adpZ p 1 S0 us vs (fun _ => 0) us.length 0 k))) := Lib.hid (by have := HROW.out; rwa [hae] at this)
                clear hae
                go_wp2
                go_ret2
                refine ⟨_, pvL p ds ds2 us vs (i : Int) (j : Int), 0, rfl, ?_, HBF.out, RsOut.of_yes (pvCode_ok HEC.out.symm ⟨HK1.out, HK2.out⟩) rfl⟩
                exact (row_rc (xs := pvL p ds ds2 us vs (i : Int) (j : Int)) (lo := 0) HRF.out (by unfold pvL; rw [List.length_map, List.length_range, HMD.out]) (fun q hq => by unfold pvL; simp [HSD.out]) hmm (Nat.zero_le _)).1.l1
      · have HJ := Lib.hid hj
        clear hj
        go_wp2_with fail
        refine (spin_no HJ.out _).mono ?_
        rintro ee w' ⟨rfl, rfl⟩
        have hcode : pvCode p p2 ds ms ds2 ms2 i us j vs = 2 := pvCode_two HEC.out.symm (fun hh => HJ.out hh.2.1)
        go_wp2
        go_ret2
        refine ⟨_, [], 2, rfl, Or.inl ⟨rfl, _, _, rfl⟩, HX3.out.below, ?_⟩
        rw [hcode]
        exact RsOut.of_no (by decide)
    · have HI := Lib.hid hi
      clear hi
      go_wp2_with fail
      refine (spin_no HI.out _).mono ?_
      rintro ee w' ⟨rfl, rfl⟩
      have hcode : pvCode p p2 ds ms ds2 ms2 i us j vs = 2 := pvCode_two HEC.out.symm (fun hh => HI.out hh.1.1)
      go_wp2
      go_ret2
      refine ⟨_, [], 2, rfl, Or.inl ⟨rfl, _, _, rfl⟩, HX3.out.below, ?_⟩
      rw [hcode]
      exact RsOut.of_no (by decide)
  · have hne2 : (ec != 0) = true := by simp [h0]
    have hne3 : (ec == 0) = false := by simp [h0]
    have HNE := Lib.hid h0
    clear h0
    go_wp2
    go_ret2
    refine ⟨_, [], ec, rfl, Or.inl ⟨rfl, _, _, rfl⟩, HX3.out.below, ?_⟩
    rw [show pvCode p p2 ds ms ds2 ms2 i us j vs = ec from by rw [HEC.out]; exact pvCode_pr (by rw [← HEC.out]; exact HNE.out)]
    exact RsOut.of_no HNE.out

theorem pvL_bd {p p2 : Int} {ds : List Int} {ms : List (List (List Int))} {ds2 : List Int} {ms2 : List (List (List Int))} {i : Int} {us : List Int} {j : Int} {vs : List Int} (h : pvCode p p2 ds ms ds2 ms2 i us j vs = 0) : (pvL p ds ds2 us vs i j).length ≤ 1048576 := by
  have hE := prCode_zero (pvCode_zero h).1
  have h1 := plS_bd hE.x hE.y (i + j) ds.length
  have h2 := hE.x.1.len1
  unfold pvL
  rw [List.length_map, List.length_range]
  omega
end Go.Proofs.Ytiokagnolbddlaa
