/-
  DifferentialOf of both sides by contracts.
-/
import Derived.Test.YtpdkfidmmjlmnaaQk
import Derived.Test.YtpdkfidmmjlmnaaApw
import Derived.Test.YtpdkfidmmjlmnaaVecS
import Derived.Test.YtpdkfidmmjlmnaaQf
import Derived.Test.YtpdkfidmmjlmnaaRw
import Derived.StillTailTactics
namespace Go.Proofs.Ytpdkfidmmjlmnaa
open Go.RowKit

theorem dif_ap {p : Int} {ds : List Int} {ms : List (List (List Int))} {vs : List Int} {q : Nat} (hcx : IsCx p ds ms) (hq : q < ds.length) (hrow : RowOk p (ds.getD q 0) vs) :
    ∃ c : Nat, dimZ ds ((q : Int) - 1) = (c : Int) ∧ c ≤ 8 ∧ ApOk p c vs (mapZ ds ms (q : Int)) ∧ apT p c vs (mapZ ds ms (q : Int)) = difOf p ds ms (q : Int) vs := by
  by_cases h0 : q = 0
  · subst h0
    have hd : dimZ ds (((0 : Nat) : Int) - 1) = ((0 : Nat) : Int) := if_neg (by omega)
    have hd0 : dimZ ds ((0 : Nat) : Int) = ds.getD 0 0 := if_pos (by omega)
    have hm : mapZ ds ms ((0 : Nat) : Int) = List.replicate (ds.getD 0 0).toNat [] := by rw [mapZ, if_neg (by omega), hd0]
    have hok : ApOk p 0 vs (mapZ ds ms ((0 : Nat) : Int)) := by
      rw [hm]
      refine ⟨hcx.1.prime, ?_, hrow.2, fun r hr => ?_⟩
      · have := hrow.1
        rw [List.length_replicate]
        omega
      · obtain rfl := List.eq_of_mem_replicate hr
        exact ⟨by simp, by simp⟩
    refine ⟨0, hd, by omega, hok, ?_⟩
    rw [difOf, if_pos (by omega)]
    exact List.eq_nil_of_length_eq_zero (apT_length hok)
  · have hml := hcx.1.mlen
    have hqm : q - 1 < ms.length := by omega
    have hdim := hcx.1.dim (q - 1)
    have hd : dimZ ds ((q : Int) - 1) = ds.getD (q - 1) 0 := by rw [dimZ, if_pos (by omega), show ((q : Int) - 1).toNat = q - 1 by omega]
    have hm : mapZ ds ms (q : Int) = ms.getD (q - 1) [] := by rw [mapZ, if_pos (by omega), Int.toNat_natCast]
    obtain ⟨c, hc⟩ := Int.eq_ofNat_of_zero_le hdim.1
    have hok : ApOk p c vs (mapZ ds ms (q : Int)) := by
      rw [hm]
      have t1 := hcx.1.tabs (q - 1) hqm
      rw [show q - 1 + 1 = q by omega] at t1
      refine ⟨hcx.1.prime, ?_, hrow.2, fun r2 hr2 => ⟨?_, (t1.2 r2 hr2).2⟩⟩
      · have a1 := hrow.1
        have a2 := t1.1
        omega
      · have a1 := (t1.2 r2 hr2).1
        omega
    refine ⟨c, by rw [hd, hc], by omega, hok, ?_⟩
    rw [difOf, if_neg (by omega), Int.toNat_natCast, hm, hc]
    rfl


open Classical in
/-- The code of DifferentialOf. -/
noncomputable def dofCode (p n : Int) (ds : List Int) (ms : List (List (List Int))) (vs : List Int) : Int := if IsCx p ds ms then (if VecOk p ds n vs then 0 else 2) else 1
section
variable {p n : Int} {ds : List Int} {ms : List (List (List Int))} {vs : List Int}
theorem dof_bad (h : ¬ IsCx p ds ms) : dofCode p n ds ms vs = 1 := if_neg h
theorem dof_row (h : IsCx p ds ms) (k : ¬ VecOk p ds n vs) : dofCode p n ds ms vs = 2 := by unfold dofCode; rw [if_pos h, if_neg k]
theorem dof_ok (h : IsCx p ds ms) (k : VecOk p ds n vs) : dofCode p n ds ms vs = 0 := by unfold dofCode; rw [if_pos h, if_pos k]
theorem dof_zero (h : dofCode p n ds ms vs = 0) : IsCx p ds ms ∧ VecOk p ds n vs := by
  by_cases a : IsCx p ds ms
  · by_cases b : VecOk p ds n vs
    · exact ⟨a, b⟩
    · rw [dof_row a b] at h; exact absurd h (by decide)
  · rw [dof_bad a] at h; exact absurd h (by decide)
theorem dimZ_getD {q : Nat} (h : q < ds.length) : dimZ ds (q : Int) = ds.getD q 0 := by rw [dimZ_in rfl h, getD_of_lt 0 h]
theorem dof_len (h : dofCode p n ds ms vs = 0) : (difOf p ds ms n vs).length ≤ 1048576 := by
  obtain ⟨hcx, hr, hrow⟩ := dof_zero h
  obtain ⟨q, rfl⟩ := Int.eq_ofNat_of_zero_le hr.1
  have hq : q < ds.length := by omega
  obtain ⟨c, _, h8, hok, he⟩ := dif_ap hcx hq (by rw [← dimZ_getD hq]; exact hrow)
  rw [← he, apT_length' hok]
  omega
end

set_option maxHeartbeats 3200000 in
set_option maxRecDepth 100000 in
theorem differentialOf_any (p n : Int) (dv mv va : Value) (ds : List Int) (ms : List (List (List Int))) (vs : List Int) (w : World) (h : Cx 0 w dv mv ds ms) (hv : L1 0 w va vs) (hd : ds.length ≤ 1048576) (hm : Bd3 1048576 ms) (hvl : vs.length ≤ 1048576) :
    Calls Try.prog 30 #[.agg #[.int .i64 p, dv, mv], .int .i64 n, va] w (AnsW Rw1 (fun o => o = difOf p ds ms n vs) [] (dofCode p n ds ms vs) w) := by
  have HX0 := Lib.hid (Bx.start (p := p) 28 h)
  have HV := Lib.hid hv
  have HM := Lib.hid hm
  obtain ⟨ad, cap, rfl⟩ := Sl.shape h.dims
  obtain ⟨am, capm, rfl⟩ := Sl.shape h.maps
  obtain ⟨av, cv, rfl⟩ := Sl.shape hv
  clear h hv hm
  go_enter Try.func30, Try.ntmps30
  go_wp2_with fail
  refine (isComplex_any p _ _ ds ms _ HX0.out.cx hd HM.out).mono ?_
  rintro e w1 ⟨bb, rfl, hb1, hbb⟩
  have HX1 := Lib.hid (HX0.out.next hb1)
  have HBB := Lib.hid hbb
  clear hb1 hbb
  have c0 := HX1.out.c0
  have c1 := HX1.out.c1
  have c2 := HX1.out.c2
  cases bb with
  | false =>
    have HN : Hid (¬ IsCx p ds ms) := Lib.hid (fun hh => absurd (HBB.out.2 hh) (by simp))
    go_wp2
    go_ret2
    exact ⟨_, [], 1, rfl, Rw1.nil _ _ _, HX1.out.below, by rw [dof_bad HN.out]; exact RsOut.of_no (by decide)⟩
  | true =>
    have HCX : Hid (IsCx p ds ms) := Lib.hid (HBB.out.1 (by simp))
    go_wp2_with fail
    refine (isVector_any p n _ _ _ ds ms vs _ HX1.out.cx (HV.out.below HX1.out.below) HCX.out.1.prime hd hvl).mono ?_
    rintro e w2 ⟨b2, rfl, hb2, hbb⟩
    have HX2 := Lib.hid (HX1.out.next hb2)
    have HB2 := Lib.hid hbb
    clear hb2 hbb c0 c1 c2
    cases b2 with
    | false =>
      have HN : Hid (¬ VecOk p ds n vs) := Lib.hid (fun hh => absurd (HB2.out.2 hh) (by simp))
      go_wp2
      go_ret2
      exact ⟨_, [], 2, rfl, Rw1.nil _ _ _, HX2.out.below, by rw [dof_row HCX.out HN.out]; exact RsOut.of_no (by decide)⟩
    | true =>
      have HVO : Hid (VecOk p ds n vs) := Lib.hid (HB2.out.1 (by simp))
      have hr := HVO.out.1
      obtain ⟨q, rfl⟩ := Int.eq_ofNat_of_zero_le hr.1
      have hq : q < ds.length := by omega
      have hml := HCX.out.1.mlen
      have hl6 := HCX.out.1.len1
      have HROW : Hid (RowOk p (ds.getD q 0) vs) := Lib.hid (by rw [← dimZ_getD hq]; exact HVO.out.2)
      have HML := Lib.hid hml
      clear hr hml
      by_cases hq0 : q = 0
      · have HQ0 := Lib.hid hq0
        have hqe : ((q : Int) == 0) = true := by simp; omega
        clear hq0
        go_wp2
        go_ret2
        exact ⟨_, [], 0, rfl, Rw1.nil _ _ _, HX2.out.below, RsOut.of_yes (dof_ok HCX.out HVO.out) (by rw [difOf, if_pos (by have := HQ0.out; omega)])⟩
      · have hq1 : 1 ≤ q := by omega
        have hqe : ((q : Int) == 0) = false := by simp; omega
        clear hq0
        have c0 := HX2.out.c0
        have c1 := HX2.out.c1
        have c2 := HX2.out.c2
        have hqm : q - 1 < ms.length := by have := HML.out; omega
        refine Sl.cases HX2.out.cx.maps (fun _ _ hx _ => absurd hqm (by simp [hx])) (fun bm om capm2 hvm _ hposm hclm => ?_)
        injection hvm with e1 _ e3
        subst e1 e3
        refine Sl.cases HX2.out.cx.dims (fun _ _ hx _ => absurd hq (by simp [hx])) (fun bd od capd hvd _ hposd hcld => ?_)
        injection hvd with e1 _ e3
        subst e1 e3
        obtain ⟨um, hum, hrm⟩ := hclm (q - 1) hqm
        obtain ⟨ud, hud, hrd⟩ := Sl.at HX2.out.cx.dims (show q - 1 < ds.length by omega)
        have hdim := HCX.out.1.dim (q - 1)
        obtain ⟨c, hc⟩ := Int.eq_ofNat_of_zero_le hdim.1
        have hc8 : c ≤ 8 := by omega
        have hud2 : w2.cell? ⟨bd, od + (q - 1), none⟩ = some (.int .i64 (c : Int)) := by rw [hud, hrd, ← getD_of_lt 0 (show q - 1 < ds.length by omega), hc]
        have HCN : Hid ((ds.getD (q - 1) 0).toNat = c) := Lib.hid (by rw [hc]; rfl)
        have HRM := Lib.hid hrm
        have HAP : Hid (ApOk p c vs ms[q - 1]) := Lib.hid (by
          have t1 := HCX.out.1.tabs (q - 1) hqm
          rw [show q - 1 + 1 = q by omega, getD_of_lt _ hqm] at t1
          refine ⟨HCX.out.1.prime, ?_, HROW.out.2, fun r2 hr2 => ⟨?_, (t1.2 r2 hr2).2⟩⟩
          · have a1 := HROW.out.1
            have a2 := t1.1
            omega
          · have a1 := (t1.2 r2 hr2).1
            omega)
        have eq0 : Hid (((q : Int)).toNat = q) := Lib.hid (Int.toNat_natCast q)
        obtain ⟨au, cu, eu⟩ := Sl.shape HRM.out
        subst eu
        clear hud hrd hrm hclm hdim hc hcld
        have hw1 : IntKind.i64.wrap ((q : Int) - 1) = (q : Int) - 1 := IntWalk.i64_in _ (by omega)
        have hq3 : (0 : Int) ≤ (q : Int) - 1 := by omega
        have hq4 : (q : Int) - 1 < (ds.length : Int) := by omega
        have hq5 : ((q : Int) - 1).toNat = q - 1 := by omega
        have hq6 : (q : Int) - 1 < (ms.length : Int) := by omega
        have hq11 : (1 : Int) ≤ (q : Int) := by omega
        have hq12 : (q : Int) ≤ (ms.length : Int) := by omega
        have hq13 : (q : Int) ≤ (ds.length : Int) := by omega
        have hq14 : (0 : Int) < (q : Int) := by omega
        go_wp2
        go_still_tail 15, (by kernel_rfl)
        change wpList _ _ _ _ _ w2.drew
        clear hw1 hq3 hq4 hq5 hq6 hq11 hq12 hq13 hq14
        go_wp2_with fail
        refine (applyTablew_any p c _ _ vs ms[q - 1] _ HAP.out ((HV.out.below HX2.out.below).below (Below.refl _ _).drew) (HRM.out.below (Below.refl _ _).drew) hvl (by omega)).mono ?_
        rintro e w3 ⟨u, rfl, hwu, hb3⟩
        have HW := Lib.hid hwu
        have HB3 := Lib.hid (HX2.out.below.trans ((Below.refl w2.heap.size w2).drew.trans hb3 |>.mono HX2.out.below.size))
        have hlo : Hid (w.heap.size ≤ w2.drew.heap.size) := Lib.hid HX2.out.below.size
        have HAL := Lib.hid (apT_length' HAP.out)
        clear hwu hb3
        go_wp2
        go_ret2
        exact ⟨_, _, 0, rfl, w1_rw1 (HW.out.wider hlo.out (Nat.le_refl _)) (by rw [HAL.out]; omega), HB3.out, RsOut.of_yes (dof_ok HCX.out HVO.out) (by rw [difOf, if_neg (by omega), eq0.out, HCN.out, getD_of_lt _ hqm])⟩

def DifL (p : Int) (ds : List Int) (ms : List (List (List Int))) (n : Int) (vs : List Int) (w : World) (e : Ending) (w' : World) : Prop :=
  ∃ (u : Value) (out : List Int) (c : Int), e = .returned (.tuple #[u, .int .i64 c]) ∧ L1 0 w' u out ∧ Below w.heap.size w w' ∧ DifOut p ds ms n vs out c

set_option maxHeartbeats 6400000 in
set_option maxRecDepth 100000 in
theorem difSpec_any (p n : Int) (dv mv va : Value) (ds : List Int) (ms : List (List (List Int))) (vs : List Int) (w : World) (h : Cx 0 w dv mv ds ms) (hv : L1 0 w va vs) (hd : ds.length ≤ 1048576) (hm : Bd3 1048576 ms) (hvl : vs.length ≤ 1048576) :
    Calls Try.prog 28 #[.agg #[.int .i64 p, dv, mv], .int .i64 n, va] w (DifL p ds ms n vs w) := by
  have HX0 := Lib.hid (Bx.start (p := p) 28 h)
  have HCK := Lib.hid (l01Code_any p n dv mv ds ms _ HX0.out.cx hd hm)
  have HV := Lib.hid hv
  by_cases hcx : IsCx p ds ms
  · by_cases hr : InDeg ds n
    · obtain ⟨q, rfl⟩ : ∃ q : Nat, n = (q : Int) := ⟨n.toNat, by have := hr.1; omega⟩
      have hq : q < ds.length := by have := hr.2; omega
      have hl6 := hcx.1.len1
      obtain ⟨ad, cap, rfl⟩ := Sl.shape h.dims
      have HCX := Lib.hid hcx
      have HR := Lib.hid hr
      obtain ⟨dq, hdq⟩ : ∃ d, d = ds.getD q 0 := ⟨_, rfl⟩
      have HDQ := Lib.hid hdq
      have eq0 : ((q : Int)).toNat = q := Int.toNat_natCast q
      have HEQ := Lib.hid eq0
      refine Sl.cases HX0.out.cx.dims (fun _ _ hx _ => absurd hq (by simp [hx])) (fun bd od capd hvd _ _ _ => ?_)
      injection hvd with e1 _ e3
      subst e1 e3
      have HDIF : Hid (RowOk p dq vs → ∃ c : Nat, dimZ ds ((q : Int) - 1) = (c : Int) ∧ c ≤ 8 ∧ ApOk p c vs (mapZ ds ms (q : Int)) ∧ apT p c vs (mapZ ds ms (q : Int)) = difOf p ds ms (q : Int) vs) := Lib.hid (fun hrow => dif_ap hcx hq (by rw [← hdq]; exact hrow))
      clear h hv hm hcx hr hdq eq0
      go_enter Try.func28, Try.ntmps28
      go_wp2_with fail
      refine HCK.out.mono ?_
      rintro e w1 ⟨c, rfl, hb1, hc⟩
      obtain rfl : c = 0 := hc.2.2 HCX.out HR.out
      have HX1 := Lib.hid (HX0.out.next hb1)
      clear hb1 hc
      have c0 := HX1.out.c0
      have c1 := HX1.out.c1
      have c2 := HX1.out.c2
      obtain ⟨ud, hud, hrd⟩ := Sl.at HX1.out.cx.dims hq
      have hud2 : w1.cell? ⟨bd, od + q, none⟩ = some (.int .i64 dq) := by rw [hud, hrd, ← getD_of_lt 0 hq, ← HDQ.out]
      clear hud hrd
      have hq3 : (q : Int) < (ds.length : Int) := by omega
      have hq4 : (0 : Int) ≤ (q : Int) := by omega
      go_wp2
      go_still_tail 8, (by kernel_rfl)
      change wpList _ _ _ _ _ w1.drew
      clear hud2 hq3 hq4 c0 c1 c2
      go_wp2_with fail
      refine (l01Vector_any p dq va vs _ HCX.out.1.prime ((HV.out.below HX1.out.below).below (Below.refl _ _).drew) hvl).mono ?_
      rintro e w2 ⟨bb, rfl, hb2, hbb⟩
      have HBB := Lib.hid hbb
      have HX2 := Lib.hid (HX1.out.next ((Below.refl w1.heap.size w1).drew.trans hb2))
      clear hbb hb2
      cases bb with
      | false =>
        go_wp2
        go_ret2
        exact ⟨_, [], 2, rfl, (w1_nil 0 0 w2).l1, HX2.out.below, fun hh => absurd HCX.out hh, fun _ hh => absurd HR.out hh, fun _ _ _ => ⟨rfl, rfl⟩, fun _ _ hh => absurd (HBB.out.2 (by rw [HDQ.out]; rw [HEQ.out] at hh; exact hh)) (by simp)⟩
      | true =>
        have hrow : RowOk p dq vs := HBB.out.1 (by simp)
        obtain ⟨c, hc1, hc8, hc3, hc4⟩ := HDIF.out hrow
        have HROW := Lib.hid hrow
        have HC1 := Lib.hid hc1
        have HC3 := Lib.hid hc3
        have HC4 := Lib.hid hc4
        clear hrow hc1 hc3 hc4
        have hw1 : IntKind.i64.wrap ((q : Int) - 1) = (q : Int) - 1 := IntWalk.i64_in _ (by omega)
        go_wp2
        go_region_held3 (fun w' => w'.cell? ⟨w.heap.size, 0, none⟩ = some (.int .i64 p) ∧ w'.cell? ⟨w.heap.size, 1, none⟩ = some (.slice (some ⟨bd, od, none⟩) ds.length cap) ∧ w'.cell? ⟨w.heap.size, 2, none⟩ = some mv ∧ Hid (Bx w w' w.heap.size p (.slice (some ⟨bd, od, none⟩) ds.length cap) mv ds ms))
          (first | exact ⟨HX2.out.c0, HX2.out.c1, HX2.out.c2, HX2⟩ | exact ⟨HX2.out.c0, HX2.out.c1, HX2.out.c2, Lib.hid (HX2.out.next (Below.refl _ _).drew)⟩ | exact ⟨HX3.out.c0, HX3.out.c1, HX3.out.c2, HX3⟩ | exact ⟨HX4.out.c0, HX4.out.c1, HX4.out.c2, HX4⟩ | exact ⟨HX5.out.c0, HX5.out.c1, HX5.out.c2, HX5⟩ | go_keep)
          (first
            | (go_at_call 90; refine (l01Map_any p (q : Int) _ _ ds ms _ ?_ HCX.out).mono ?_; (exact (HX2.out.next (Below.refl _ _).drew).cx); rintro e w3 ⟨v3, rfl, hl3, hb3⟩; have HX3 := Lib.hid ((HX2.out.next (Below.refl _ _).drew).next hb3); have HL3 := Lib.hid hl3; clear hl3 hb3)
            | (go_at_call 91; refine (l01Dim_any p ((q : Int) - 1) _ _ ds ms _ HX3.out.cx (by omega)).mono ?_; rw [HC1.out]; rintro e w4 ⟨rfl, hb4⟩; have HX4 := Lib.hid (HX3.out.next hb4); have HL4 := Lib.hid (HL3.out.below hb4); clear hb4)
            | (go_at_call 89; refine (l01Apply_any p c va v3 vs (mapZ ds ms (q : Int)) _ HC3.out (HV.out.below HX4.out.below) HL4.out hvl (by omega)).mono ?_; rintro e w5 ⟨v5, rfl, hl5, hb5⟩; have HX5 := Lib.hid (HX4.out.next hb5); have HL5 := Lib.hid hl5; clear hl5 hb5))
        go_wp2
        go_ret2
        exact ⟨v5, _, 0, rfl, HL5.out.lower (Nat.zero_le _), HX5.out.below, fun hh => absurd HCX.out hh, fun _ hh => absurd HR.out hh, fun _ _ hh => absurd (by rw [HEQ.out, ← HDQ.out]; exact HROW.out) hh, fun _ _ _ => ⟨HC4.out, rfl⟩⟩
    · have HCX := Lib.hid hcx
      have HR := Lib.hid hr
      clear h hv hm hcx hr
      go_enter Try.func28, Try.ntmps28
      go_wp2_with fail
      refine HCK.out.mono ?_
      rintro e w1 ⟨c, rfl, hb1, hc⟩
      obtain rfl : c = 2 := hc.2.1 HCX.out HR.out
      have HX1 := Lib.hid (HX0.out.next hb1)
      clear hb1 hc
      go_wp2
      go_ret2
      exact ⟨_, [], 2, rfl, (w1_nil 0 0 _).l1, HX1.out.below, fun hh => absurd HCX.out hh, fun _ _ => ⟨rfl, rfl⟩, fun _ hh => absurd hh HR.out, fun _ hh => absurd hh HR.out⟩
  · have HCX := Lib.hid hcx
    clear h hv hm hcx
    go_enter Try.func28, Try.ntmps28
    go_wp2_with fail
    refine HCK.out.mono ?_
    rintro e w1 ⟨c, rfl, hb1, hc⟩
    obtain rfl : c = 1 := hc.1 HCX.out
    have HX1 := Lib.hid (HX0.out.next hb1)
    clear hb1 hc
    go_wp2
    go_ret2
    exact ⟨_, [], 1, rfl, (w1_nil 0 0 _).l1, HX1.out.below, fun _ => ⟨rfl, rfl⟩, fun hh => absurd hh HCX.out, fun hh => absurd hh HCX.out, fun hh => absurd hh HCX.out⟩

theorem dof_deg (n : Int) (ds : List Int) (vs : List Int) (p : Int) : VecOk p ds n vs ↔ InDeg ds n ∧ RowOk p (ds.getD n.toNat 0) vs := by
  refine ⟨fun h => ⟨h.1, ?_⟩, fun h => ⟨h.1, ?_⟩⟩
  · obtain ⟨q, rfl⟩ := Int.eq_ofNat_of_zero_le h.1.1
    have hq : q < ds.length := by have := h.1.2; omega
    rw [Int.toNat_natCast, ← dimZ_getD hq]; exact h.2
  · obtain ⟨q, rfl⟩ := Int.eq_ofNat_of_zero_le h.1.1
    have hq : q < ds.length := by have := h.1.2; omega
    have h2 := h.2
    rw [Int.toNat_natCast] at h2
    rw [dimZ_getD hq]; exact h2
theorem spDifferentialOf_any (p n : Int) (dv mv va : Value) (ds : List Int) (ms : List (List (List Int))) (vs : List Int) (w : World) (h : Cx 0 w dv mv ds ms) (hv : L1 0 w va vs) (hd : ds.length ≤ 1048576) (hm : Bd3 1048576 ms) (hvl : vs.length ≤ 1048576) :
    Calls Try.prog 28 #[.agg #[.int .i64 p, dv, mv], .int .i64 n, va] w (AnsS (L1 0) (fun o => o = difOf p ds ms n vs) [] (dofCode p n ds ms vs) w) := by
  refine (difSpec_any p n dv mv va ds ms vs w h hv hd hm hvl).mono ?_
  rintro e w' ⟨u, out, c, rfl, hl, hb, hout⟩
  refine ⟨u, out, c, rfl, hl, hb, ?_⟩
  by_cases a : IsCx p ds ms
  · by_cases b : VecOk p ds n vs
    · have b' := (dof_deg n ds vs p).1 b
      obtain ⟨rfl, rfl⟩ := hout.good a b'.1 b'.2
      exact RsOut.of_yes (dof_ok a b) rfl
    · have hz : out = [] ∧ c = 2 := by
        by_cases d : InDeg ds n
        · exact hout.row a d (fun h => b ((dof_deg n ds vs p).2 ⟨d, h⟩))
        · exact hout.far a d
      obtain ⟨rfl, rfl⟩ := hz
      rw [dof_row a b]; exact RsOut.of_no (by decide)
  · obtain ⟨rfl, rfl⟩ := hout.bad a
    rw [dof_bad a]; exact RsOut.of_no (by decide)

end Go.Proofs.Ytpdkfidmmjlmnaa
