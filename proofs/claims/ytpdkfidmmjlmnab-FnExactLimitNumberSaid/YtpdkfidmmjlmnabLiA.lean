/-
  Limit numbers: impl.limitDimension, limitNumber, LimitNumber by their contracts.
-/
import Derived.Test.YtpdkfidmmjlmnabLim
namespace Go.Proofs.Ytpdkfidmmjlmnab
open Go.RowKit

set_option maxHeartbeats 3200000 in
set_option maxRecDepth 100000 in
theorem limitDimension_any (p : Int) (k : Nat) (q : Int) (dv mv lv : Value) (ds : List Int) (ms : List (List (List Int))) (ls : List (List Int)) (w : World) (h : Fi 0 w dv mv lv ds ms ls) (hf : IsFil p ds ms ls) (hk : k < ds.length) (hq : -10 ≤ q ∧ q ≤ 10) :
    Calls Try.prog 178 #[.agg #[.int .i64 p, dv, mv, lv], .int .i64 k, .int .i64 q] w (IntR (LDim p ds ms ls k q) w) := by
  have HX0 := Lib.hid (Fx.start (p := p) 33 h)
  have HCX := Lib.hid hf.1
  have hp1 := hf.1.1.prime.lo1
  have hd8 := (dimN_le8 hf.1 k).1
  obtain ⟨q1, hq1⟩ : ∃ q1, q1 = q + 1 := ⟨_, rfl⟩
  have hwq : IntKind.i64.wrap (q + 1) = q1 := by rw [hq1]; exact IntWalk.i64_in _ (by omega)
  have HZ : Hid (∀ W, Fi 0 W dv mv lv ds ms ls → Calls Try.prog 95 #[.agg #[.int .i64 p, dv, mv, lv], .int .i64 q1, .int .i64 (k : Int), .int .i64 q] W (VsR (SpF p (dimN ds (k : Int)) (ZcD p ds ms ls k q (-1))) W)) := Lib.hid (fun W hW => by
    have := approximateSpace_any p k q1 q dv mv lv ds ms ls W hW hf hk (by omega) (by omega)
    rwa [Int.toNat_natCast, show q - q1 = -1 by omega] at this)
  have c0 := HX0.out.c0
  have c1 := HX0.out.c1
  have c2 := HX0.out.c2
  have c3 := HX0.out.c3
  clear h hf hq1
  go_enter Try.func178, Try.ntmps178
  go_wp2_with fail
  refine (HZ.out _ HX0.out.fi).mono ?_
  rintro e w1 ⟨s1, Z, rfl, hb1, ho1, hz1⟩
  have HX1 := Lib.hid (HX0.out.next hb1)
  have HV1 := Lib.hid (ho1.vs.lower (Nat.zero_le _))
  have HZ1 := Lib.hid hz1
  have hzl := hz1.short
  clear hb1 ho1 hz1 HZ c0 c1 c2 c3
  go_wp2
  have HX1D := Lib.hid (HX1.out.next (Below.refl _ _).drew)
  have HV1D := Lib.hid (HV1.out.below (Below.refl _ _).drew)
  go_region_held3 (fun w' => w'.cell? ⟨w.heap.size, 0, none⟩ = some (.int .i64 p) ∧ w'.cell? ⟨w.heap.size, 1, none⟩ = some dv ∧ w'.cell? ⟨w.heap.size, 2, none⟩ = some mv ∧ w'.cell? ⟨w.heap.size, 3, none⟩ = some lv ∧ Hid (Fx w w' w.heap.size p dv mv lv ds ms ls))
    (first | exact Fx.all HX1 | exact Fx.all HX1D | exact Fx.all HX4 | exact Fx.all HX5 | go_keep)
    (first
      | (go_at_call 202; refine (boundarySpace_any p k dv mv ds ms _ HX1D.out.fi.cx HCX.out).mono ?_; rintro e w4 ⟨s4, B, rfl, hb4, ho4, hr4⟩; have HX4 := Lib.hid (HX1D.out.next hb4); have HR4 := Lib.hid hr4; have hl4 := hr4.short; have HO4 := Lib.hid (And.intro (ho4.vs.lower (Nat.zero_le _)) (HV1D.out.below hb4)); clear ho4 hb4 hr4)
      | (go_at_call 162; refine (sumSpace_any p s1 s4 Z B _ HCX.out.1.prime HO4.out.2 HO4.out.1 ?hm ?hw ?hl).mono ?_; (case hm => exact fun u hu => (List.mem_append.1 hu).elim (HZ1.out.1.md u) (HR4.out.1.md u)); (case hw => exact fun u hu => wd_wider ((List.mem_append.1 hu).elim (HZ1.out.2.1 u) (HR4.out.2.1 u)) (by omega)); (case hl => rw [List.length_append]; omega); rintro e w5 ⟨s5, E, rfl, hb5, ho5, hr5, hl5⟩; obtain ⟨a5, c5, rfl⟩ := ho5.shape; have HX5 := Lib.hid (HX4.out.next hb5); have HR5 := Lib.hid hr5; clear ho5 hb5 hr5 hl5))
  go_wp2
  go_ret
  exact ⟨(E.length : Int), rfl, HX5.out.below, E, limD_of hp1 HZ1.out HR4.out HR5.out.red HR5.out.eqv, rfl⟩

set_option maxHeartbeats 3200000 in
set_option maxRecDepth 100000 in
theorem limitNumber_any (p : Int) (k : Nat) (q : Int) (dv mv lv : Value) (ds : List Int) (ms : List (List (List Int))) (ls : List (List Int)) (w : World) (h : Fi 0 w dv mv lv ds ms ls) (hf : IsFil p ds ms ls) (hk : k < ds.length) (hq : 0 ≤ q ∧ q ≤ 5) :
    Calls Try.prog 114 #[.agg #[.int .i64 p, dv, mv, lv], .int .i64 k, .int .i64 q] w (IntR (LimNum p ds ms ls k q) w) := by
  have HX0 := Lib.hid (Fx.start (p := p) 33 h)
  obtain ⟨qm, hqm⟩ : ∃ qm, qm = q - 1 := ⟨_, rfl⟩
  have hwq : IntKind.i64.wrap (q - 1) = qm := by rw [hqm]; exact IntWalk.i64_in _ (by omega)
  have HA : Hid (∀ W, Hid (Fx w W w.heap.size p dv mv lv ds ms ls) → Calls Try.prog 178 #[.agg #[.int .i64 p, dv, mv, lv], .int .i64 (k : Int), .int .i64 q] W (IntR (LDim p ds ms ls k q) W)) := Lib.hid (fun W hW => limitDimension_any p k q dv mv lv ds ms ls W hW.out.fi hf hk (by omega))
  have HB : Hid (∀ W, Hid (Fx w W w.heap.size p dv mv lv ds ms ls) → Calls Try.prog 178 #[.agg #[.int .i64 p, dv, mv, lv], .int .i64 (k : Int), .int .i64 qm] W (IntR (LDim p ds ms ls k (q - 1)) W)) := Lib.hid (fun W hW => by rw [hqm]; exact limitDimension_any p k (q - 1) dv mv lv ds ms ls W hW.out.fi hf hk (by omega))
  have HCX := Lib.hid hf.1
  have c0 := HX0.out.c0
  have c1 := HX0.out.c1
  have c2 := HX0.out.c2
  have c3 := HX0.out.c3
  have HXD := Lib.hid (HX0.out.next (Below.refl _ _).drew)
  clear h hf hqm
  go_enter Try.func114, Try.ntmps114
  go_wp2
  go_region_held3 (fun w' => w'.cell? ⟨w.heap.size, 0, none⟩ = some (.int .i64 p) ∧ w'.cell? ⟨w.heap.size, 1, none⟩ = some dv ∧ w'.cell? ⟨w.heap.size, 2, none⟩ = some mv ∧ w'.cell? ⟨w.heap.size, 3, none⟩ = some lv ∧ Hid (Fx w w' w.heap.size p dv mv lv ds ms ls))
    (first | exact Fx.all HX0 | exact Fx.all HXD | exact Fx.all HX4 | exact Fx.all HX5 | go_keep)
    (first
      | (go_at_call 178; refine (HA.out _ ?_).mono ?_; (first | assumption | exact HXD); rintro e w4 ⟨x4, rfl, hb4, hx4⟩; have HX4 := Lib.hid (HXD.out.next hb4); have HR4 := Lib.hid hx4; obtain ⟨hx40, hx41⟩ := hx4.bd HCX.out; clear hb4 hx4 HA)
      | (go_at_call 178; refine (HB.out _ HX4).mono ?_; rintro e w5 ⟨x5, rfl, hb5, hx5⟩; have HX5 := Lib.hid (HX4.out.next hb5); have HR5 := Lib.hid hx5; obtain ⟨hx50, hx51⟩ := hx5.bd HCX.out; clear hb5 hx5))
  go_wp2
  go_ret
  exact ⟨x4 - x5, ret_int (by first | rfl | exact IntWalk.i64_in _ (by omega)), HX5.out.below, x4, x5, HR4.out, HR5.out, rfl⟩

set_option maxHeartbeats 1600000 in
set_option maxRecDepth 100000 in
theorem limitNumberOf_any (p n q : Int) (dv mv lv : Value) (ds : List Int) (ms : List (List (List Int))) (ls : List (List Int)) (w : World) (h : Fi 0 w dv mv lv ds ms ls) (hd : ds.length ≤ 1048576) (hm : Bd3 1048576 ms) (hl : Bd2 1048576 ls) :
    Calls Try.prog 45 #[.agg #[.int .i64 p, dv, mv, lv], .int .i64 n, .int .i64 q] w (NumW (fun x => LimNum p ds ms ls n.toNat q x) (celCode p ds ms ls 0 n q) w) := by
  have HX0 := Lib.hid (Fx.start (p := p) 33 h)
  have HCK := Lib.hid (checkCell_any p 0 n q dv mv lv ds ms ls _ HX0.out.fi hd hm hl)
  have c0 := HX0.out.c0
  have c1 := HX0.out.c1
  have c2 := HX0.out.c2
  have c3 := HX0.out.c3
  obtain ⟨kc, hkc⟩ : ∃ kc, kc = celCode p ds ms ls 0 n q := ⟨_, rfl⟩
  rw [← hkc] at HCK ⊢
  have HKE := Lib.hid hkc
  clear h hm hl hkc
  go_enter Try.func45, Try.ntmps45
  go_wp2_with fail
  refine HCK.out.mono ?_
  rintro e w1 ⟨rfl, hb1⟩
  have HX1 := Lib.hid (HX0.out.next hb1)
  clear hb1 c0 c1 c2 c3 HCK
  have c0 := HX1.out.c0
  have c1 := HX1.out.c1
  have c2 := HX1.out.c2
  have c3 := HX1.out.c3
  by_cases hk : kc = 0
  · subst hk
    obtain ⟨hfil, hcr, hr, hcq⟩ := celCode_zero HKE.out.symm
    obtain ⟨k, rfl⟩ : ∃ k : Nat, n = (k : Int) := ⟨n.toNat, by have := hr.1; omega⟩
    have hkd : k < ds.length := by have := hr.2; omega
    have HB := Lib.hid (limitNumber_any p k q dv mv lv ds ms ls _ HX1.out.fi hfil hkd hcq)
    clear hfil hcr hr hcq hkd
    go_wp2_with fail
    refine HB.out.mono ?_
    rintro e w2 ⟨x, rfl, hb2, hx⟩
    have HX2 := Lib.hid (HX1.out.next hb2)
    have HN := Lib.hid hx
    clear hb2 hx HB
    go_wp2
    go_ret2
    exact ⟨x, 0, rfl, HX2.out.below, NOut.of_ok (by rw [Int.toNat_natCast]; exact HN.out)⟩
  · have hne2 : (kc != 0) = true := by simp [hk]
    have hne3 : (kc == 0) = false := by simp [hk]
    have HK := Lib.hid hk
    clear hk
    go_wp2
    go_ret2
    exact ⟨0, kc, rfl, HX1.out.below, NOut.of_no HK.out⟩

end Go.Proofs.Ytpdkfidmmjlmnab
