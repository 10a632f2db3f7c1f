/-
  impl.bottomSpace and impl.pageSpace below the degree 0, by their contracts.
-/
import Derived.Test.YtpdkfidmmjlmnabPdm
namespace Go.Proofs.Ytpdkfidmmjlmnab
open Go.RowKit

set_option maxHeartbeats 3200000 in
set_option maxRecDepth 100000 in
theorem bottomSpace_neg (p : Int) (r q : Int) (dv mv lv : Value) (ds : List Int) (ms : List (List (List Int))) (ls : List (List Int)) (w : World) (h : Fi 0 w dv mv lv ds ms ls) (hf : IsFil p ds ms ls) (hr : -20 ≤ r ∧ r ≤ 20) (hq : -20 ≤ q ∧ q ≤ 20) :
    Calls Try.prog 97 #[.agg #[.int .i64 p, dv, mv, lv], .int .i64 r, .int .i64 (-1), .int .i64 q] w (VsR (fun M => M = []) w) := by
  have HX0 := Lib.hid (Fx.start (p := p) 33 h)
  have HCX := Lib.hid hf.1
  have hp1 := hf.1.1.prime.lo1
  have hd8 : dimN ds 0 ≤ 8 := by simpa using (dimN_le8 hf.1 0).1
  have hl6 := hf.1.1.len1
  have hl1 : 0 < ds.length := by have := hf.1.1.len0; omega
  obtain ⟨rm, hrm⟩ : ∃ rm, rm = r - 1 := ⟨_, rfl⟩
  obtain ⟨qm, hqm⟩ : ∃ qm, qm = q - 1 := ⟨_, rfl⟩
  obtain ⟨qr, hqr⟩ : ∃ qr, qr = q + r := ⟨_, rfl⟩
  obtain ⟨qs, hqs⟩ : ∃ qs, qs = qr - 1 := ⟨_, rfl⟩
  have hw1 : IntKind.i64.wrap (r - 1) = rm := by rw [hrm]; exact IntWalk.i64_in _ (by omega)
  have hw2 : IntKind.i64.wrap (q - 1) = qm := by rw [hqm]; exact IntWalk.i64_in _ (by omega)
  have hw3 : IntKind.i64.wrap (q + r) = qr := by rw [hqr]; exact IntWalk.i64_in _ (by omega)
  have hw4 : IntKind.i64.wrap (qr - 1) = qs := by rw [hqs]; exact IntWalk.i64_in _ (by omega)
  have hw5 : IntKind.i64.wrap ((-1 : Int) + 1) = 0 := by kernel_rfl
  have HZ : Hid (∀ W, Fi 0 W dv mv lv ds ms ls → Calls Try.prog 95 #[.agg #[.int .i64 p, dv, mv, lv], .int .i64 rm, .int .i64 (-1), .int .i64 qm] W (VsR (fun R => R = []) W)) := Lib.hid (fun W hW => approximateSpace_out p (-1) rm qm dv mv lv ds ms ls W hW (by omega) (by omega))
  have HU : Hid (∀ W, Fi 0 W dv mv lv ds ms ls → Calls Try.prog 95 #[.agg #[.int .i64 p, dv, mv, lv], .int .i64 rm, .int .i64 0, .int .i64 qs] W (VsR (SpF p (dimN ds 0) (ZcD p ds ms ls 0 qs (qs - rm))) W)) := Lib.hid (fun W hW => by
    have := approximateSpace_any p 0 rm qs dv mv lv ds ms ls W hW hf hl1 (by omega) (by omega)
    simpa using this)
  have HD : Hid (∀ W sl (R : List Lin.V), Fi 0 W dv mv lv ds ms ls → Vs 0 W sl R → R.length ≤ 8 → Calls Try.prog 161 #[.agg #[.int .i64 p, dv, mv], .int .i64 0, sl] W (VsR (fun M => M = List.replicate R.length Lin.zv) W)) := Lib.hid (fun W sl R hW hV hR => differentialsOf_0 p sl R dv mv ds ms W hW.cx hV (by omega))
  have c0 := HX0.out.c0
  have c1 := HX0.out.c1
  have c2 := HX0.out.c2
  have c3 := HX0.out.c3
  clear h hf hrm hqm hqr hqs
  go_enter Try.func97, Try.ntmps97
  go_wp2_with fail
  refine (HZ.out _ HX0.out.fi).mono ?_
  rintro e w1 ⟨s1, A, rfl, hb1, ho1, rfl⟩
  have HX1 := Lib.hid (HX0.out.next hb1)
  have HV1 := Lib.hid (ho1.vs.lower (Nat.zero_le _))
  clear hb1 ho1 HZ c0 c1 c2 c3
  go_wp2
  have HX1D := Lib.hid (HX1.out.next (Below.refl _ _).drew)
  have HV1D := Lib.hid (HV1.out.below (Below.refl _ _).drew)
  go_region_held3 (fun w' => w'.cell? ⟨w.heap.size, 0, none⟩ = some (.int .i64 p) ∧ w'.cell? ⟨w.heap.size, 1, none⟩ = some dv ∧ w'.cell? ⟨w.heap.size, 2, none⟩ = some mv ∧ w'.cell? ⟨w.heap.size, 3, none⟩ = some lv ∧ Hid (Fx w w' w.heap.size p dv mv lv ds ms ls))
    (first | exact Fx.all HX1 | exact Fx.all HX1D | exact Fx.all HX4 | exact Fx.all HX5 | go_keep)
    (first
      | (go_at_call 95; refine (HU.out _ HX1D.out.fi).mono ?_; rintro e w4 ⟨s4, R, rfl, hb4, ho4, hr4⟩; have HX4 := Lib.hid (HX1D.out.next hb4); have hrl := hr4.short; have HO4 := Lib.hid (And.intro (ho4.vs.lower (Nat.zero_le _)) (HV1D.out.below hb4)); clear ho4 hb4 hr4)
      | (go_at_call 161; refine (HD.out _ s4 R HX4.out.fi HO4.out.1 (by omega)).mono ?_; rintro e w5 ⟨s5, M, rfl, hb5, ho5, rfl⟩; have HX5 := Lib.hid (HX4.out.next hb5); have HO5 := Lib.hid (And.intro (ho5.vs.lower (Nat.zero_le _)) (HO4.out.2.below hb5)); clear ho5 hb5))
  have c0 := HX5.out.c0
  have c1 := HX5.out.c1
  have c2 := HX5.out.c2
  have c3 := HX5.out.c3
  have HMM : Hid (∀ u ∈ ([] : List Lin.V) ++ List.replicate R.length Lin.zv, Lin.Md p u) := Lib.hid (fun u hu => by
    have hu' : u ∈ List.replicate R.length Lin.zv := by simpa only [List.nil_append] using hu
    rw [(List.mem_replicate.1 hu').2]; exact Lin.zv_md (by omega))
  have HMW : Hid (∀ u ∈ ([] : List Lin.V) ++ List.replicate R.length Lin.zv, Lin.Wd 40 u) := Lib.hid (fun u hu => by
    have hu' : u ∈ List.replicate R.length Lin.zv := by simpa only [List.nil_append] using hu
    rw [(List.mem_replicate.1 hu').2]; exact Lin.zv_wd 40)
  have HSS := Lib.hid (sumSpace_any p s1 s5 [] (List.replicate R.length Lin.zv) w5 HCX.out.1.prime HO5.out.2 HO5.out.1 HMM.out HMW.out (by rw [List.length_append, List.length_replicate]; simp; omega))
  go_wp2_with fail
  refine HSS.out.mono ?_
  rintro e w6 ⟨s6, E, rfl, hb6, ho6, hr6, _⟩
  have HB6 := Lib.hid (HX5.out.next hb6).below
  have HO6 := Lib.hid ho6
  have HR6 := Lib.hid hr6
  have hs5 : w.heap.size ≤ w5.heap.size := HX5.out.below.size
  clear hb6 ho6 hr6 HSS c0 c1 c2 c3
  go_wp2
  go_ret
  have HE : E = [] := red_zeros HR6.out.red (by have := HR6.out.eqv; simpa using this)
  exact ⟨s6, E, rfl, HB6.out, ⟨HO6.out.1, HO6.out.2.imp id (fun ⟨g, cap, cur, h1, h2, h3⟩ => ⟨g, cap, cur, h1, Nat.le_trans hs5 h2, h3⟩)⟩, HE⟩

set_option maxHeartbeats 3200000 in
set_option maxRecDepth 100000 in
theorem pageSpace_neg (p : Int) (r q : Int) (dv mv lv : Value) (ds : List Int) (ms : List (List (List Int))) (ls : List (List Int)) (w : World) (h : Fi 0 w dv mv lv ds ms ls) (hf : IsFil p ds ms ls) (hr : -20 ≤ r ∧ r ≤ 20) (hq : -20 ≤ q ∧ q ≤ 20) :
    Calls Try.prog 105 #[.agg #[.int .i64 p, dv, mv, lv], .int .i64 r, .int .i64 (-1), .int .i64 q] w (VsR (fun M => M = []) w) := by
  have HX0 := Lib.hid (Fx.start (p := p) 33 h)
  have HA : Hid (∀ W, Hid (Fx w W w.heap.size p dv mv lv ds ms ls) → Calls Try.prog 95 #[.agg #[.int .i64 p, dv, mv, lv], .int .i64 r, .int .i64 (-1), .int .i64 q] W (VsR (fun M => M = []) W)) := Lib.hid (fun W hW => approximateSpace_out p (-1) r q dv mv lv ds ms ls W hW.out.fi (by have := hf.1.1.len1; omega) (by omega))
  have HB : Hid (∀ W, Hid (Fx w W w.heap.size p dv mv lv ds ms ls) → Calls Try.prog 97 #[.agg #[.int .i64 p, dv, mv, lv], .int .i64 r, .int .i64 (-1), .int .i64 q] W (VsR (fun M => M = []) W)) := Lib.hid (fun W hW => bottomSpace_neg p r q dv mv lv ds ms ls W hW.out.fi hf hr hq)
  have HCX := Lib.hid hf.1
  have hp1 := hf.1.1.prime.lo1
  have c0 := HX0.out.c0
  have c1 := HX0.out.c1
  have c2 := HX0.out.c2
  have c3 := HX0.out.c3
  have HXD := Lib.hid (HX0.out.next (Below.refl _ _).drew)
  clear h hf
  go_enter Try.func105, Try.ntmps105
  go_wp2
  go_region_held3 (fun w' => w'.cell? ⟨w.heap.size, 0, none⟩ = some (.int .i64 p) ∧ w'.cell? ⟨w.heap.size, 1, none⟩ = some dv ∧ w'.cell? ⟨w.heap.size, 2, none⟩ = some mv ∧ w'.cell? ⟨w.heap.size, 3, none⟩ = some lv ∧ Hid (Fx w w' w.heap.size p dv mv lv ds ms ls))
    (first | exact Fx.all HX0 | exact Fx.all HXD | exact Fx.all HX4 | exact Fx.all HX5 | exact Fx.all HX6 | go_keep)
    (first
      | (go_at_call 95; refine (HA.out _ ?_).mono ?_; (first | assumption | exact HXD); rintro e w4 ⟨s4, C, rfl, hb4, ho4, rfl⟩; have HX4 := Lib.hid (HXD.out.next hb4); have HO4 := Lib.hid (ho4.vs.lower (Nat.zero_le _)); clear ho4 hb4 HA)
      | (go_at_call 97; refine (HB.out _ HX4).mono ?_; rintro e w5 ⟨s5, B, rfl, hb5, ho5, rfl⟩; have HX5 := Lib.hid (HX4.out.next hb5); have HO5 := Lib.hid (And.intro (ho5.vs.lower (Nat.zero_le _)) (HO4.out.below hb5)); clear ho5 hb5 HB HO4)
      | (go_at_call 166; refine (spaceOfRests_any p 0 s4 s5 [] [] _ HCX.out.1.prime (by omega) HO5.out.2 HO5.out.1 (by simp) (by simp) (Lin.Red.nil p) (by simp) (by simp) (by simp)).mono ?_; rintro e w6 ⟨s6, R, rfl, hb6, ho6, hr6⟩; have HX6 := Lib.hid (HX5.out.next hb6); have HO6 := Lib.hid (And.intro ho6 HX5.out.below.size); have HR6 := Lib.hid hr6; clear ho6 hb6 hr6 HO5))
  go_wp2
  go_ret
  obtain ⟨tt, h1, h2, h3⟩ := HR6.out
  have ht : tt = [] := List.eq_nil_of_length_eq_zero (by simpa using h2)
  subst ht
  have HE : R = [] := red_zeros (n := 0) h3.red (by simpa using h3.eqv)
  exact ⟨s6, R, rfl, HX6.out.below, ⟨HO6.out.1.1, HO6.out.1.2.imp id (fun ⟨g, cap, cur, h1, h2, h3⟩ => ⟨g, cap, cur, h1, Nat.le_trans HO6.out.2 h2, h3⟩)⟩, HE⟩
end Go.Proofs.Ytpdkfidmmjlmnab
