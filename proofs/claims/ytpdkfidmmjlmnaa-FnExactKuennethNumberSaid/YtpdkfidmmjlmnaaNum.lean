/-
  Homology numbers and exactness: both sides by their contracts.
-/
import Derived.Test.YtpdkfidmmjlmnaaP4
namespace Go.Proofs.Ytpdkfidmmjlmnaa
open Go.RowKit

/-- The homology number of a degree. -/
def HNum (p : Int) (ds : List Int) (ms : List (List (List Int))) (q : Nat) (x : Int) : Prop :=
  ∃ R1 R2, SpF p (dimN ds (q : Int)) (CycS p (dimN ds (q : Int)) (cycM ds q) (cycT ds ms q)) R1 ∧ SpF p (dimN ds (q : Int)) (Lin.Sp p ((tabN ms q).map ofL)) R2 ∧ x = (R1.length : Int) - (R2.length : Int)
theorem SpF.unique {p : Int} {n : Nat} {S : Lin.V → Prop} {R R' : List Lin.V} (hp : 1 < p) (h : SpF p n S R) (k : SpF p n S R') : R = R' := Lin.Red.unique hp h.1 k.1 (fun v => (h.2.2 v).trans (k.2.2 v).symm)
theorem HNum.unique {p : Int} {ds : List Int} {ms : List (List (List Int))} {q : Nat} {x y : Int} (hp : 1 < p) (h : HNum p ds ms q x) (k : HNum p ds ms q y) : x = y := by
  obtain ⟨A, B, a, b, rfl⟩ := h
  obtain ⟨C, D, c, d, rfl⟩ := k
  rw [a.unique hp c, b.unique hp d]
theorem HNum.bd {p : Int} {ds : List Int} {ms : List (List (List Int))} {q : Nat} {x : Int} (hcx : IsCx p ds ms) (h : HNum p ds ms q x) : -8 ≤ x ∧ x ≤ 8 := by
  obtain ⟨A, B, a, b, rfl⟩ := h
  have := a.short
  have := b.short
  have := (dimN_le8 hcx q).1
  omega
def NumR (p : Int) (ds : List Int) (ms : List (List (List Int))) (q : Nat) (w : World) (e : Ending) (w' : World) : Prop := ∃ x : Int, e = .returned (.int .i64 x) ∧ Below w.heap.size w w' ∧ HNum p ds ms q x

set_option maxHeartbeats 1600000 in
set_option maxRecDepth 100000 in
theorem homologyNumber_any (p : Int) (q : Nat) (dv mv : Value) (ds : List Int) (ms : List (List (List Int))) (w : World) (h : Cx 0 w dv mv ds ms) (hcx : IsCx p ds ms) (hq : q < ds.length) :
    Calls Try.prog 104 #[.agg #[.int .i64 p, dv, mv], .int .i64 q] w (NumR p ds ms q w) := by
  have HX0 := Lib.hid (Bx.start (p := p) 28 h)
  obtain ⟨ad, cap, rfl⟩ := Sl.shape h.dims
  obtain ⟨am, capm, rfl⟩ := Sl.shape h.maps
  have HCX := Lib.hid hcx
  have hd8 := (dimN_le8 hcx q).1
  have c0 := HX0.out.c0
  have c1 := HX0.out.c1
  have c2 := HX0.out.c2
  clear h hcx
  go_enter Try.func104, Try.ntmps104
  go_wp2
  go_region_held3 (fun w' => w'.cell? ⟨w.heap.size, 0, none⟩ = some (.int .i64 p) ∧ w'.cell? ⟨w.heap.size, 1, none⟩ = some (.slice ad ds.length cap) ∧ w'.cell? ⟨w.heap.size, 2, none⟩ = some (.slice am ms.length capm) ∧ Hid (Bx w w' w.heap.size p (.slice ad ds.length cap) (.slice am ms.length capm) ds ms))
    (first | exact ⟨HX0.out.c0, HX0.out.c1, HX0.out.c2, HX0⟩ | exact ⟨HX0.out.c0, HX0.out.c1, HX0.out.c2, Lib.hid (HX0.out.next (Below.refl _ _).drew)⟩ | exact ⟨HX3.out.c0, HX3.out.c1, HX3.out.c2, HX3⟩ | exact ⟨HX4.out.c0, HX4.out.c1, HX4.out.c2, HX4⟩ | go_keep)
    (first
      | (go_at_call 96; refine (cycleSpace_any p q _ _ ds ms _ ?_ HCX.out hq).mono ?_; (exact (HX0.out.next (Below.refl _ _).drew).cx); rintro e w3 ⟨s3, R1, rfl, hb3, ho3, hr3⟩; obtain ⟨a3, c3, rfl⟩ := ho3.shape; have HX3 := Lib.hid ((HX0.out.next (Below.refl _ _).drew).next hb3); have HR3 := Lib.hid hr3; have hl3 := hr3.short; clear ho3 hb3 hr3)
      | (go_at_call 98; refine (boundarySpace_any p q _ _ ds ms _ HX3.out.cx HCX.out).mono ?_; rintro e w4 ⟨s4, R2, rfl, hb4, ho4, hr4⟩; obtain ⟨a4, c4, rfl⟩ := ho4.shape; have HX4 := Lib.hid (HX3.out.next hb4); have HR4 := Lib.hid hr4; have hl4 := hr4.short; clear ho4 hb4 hr4))
  go_wp2
  go_ret
  refine ⟨(R1.length : Int) - (R2.length : Int), ret_int ?_, HX4.out.below, R1, R2, HR3.out, HR4.out, rfl⟩
  first | rfl | exact IntWalk.i64_in _ (by omega)

set_option maxHeartbeats 1600000 in
set_option maxRecDepth 100000 in
theorem l01Homology_any (p : Int) (q : Nat) (dv mv : Value) (ds : List Int) (ms : List (List (List Int))) (w : World) (h : Cx 0 w dv mv ds ms) (hcx : IsCx p ds ms) (hq : q < ds.length) :
    Calls Try.prog 102 #[.agg #[.int .i64 p, dv, mv], .int .i64 q] w (NumR p ds ms q w) := by
  have HX0 := Lib.hid (Bx.start (p := p) 28 h)
  obtain ⟨ad, cap, rfl⟩ := Sl.shape h.dims
  obtain ⟨am, capm, rfl⟩ := Sl.shape h.maps
  have HCX := Lib.hid hcx
  have hd8 := (dimN_le8 hcx q).1
  have c0 := HX0.out.c0
  have c1 := HX0.out.c1
  have c2 := HX0.out.c2
  clear h hcx
  go_enter Try.func102, Try.ntmps102
  go_wp2
  go_region_held3 (fun w' => w'.cell? ⟨w.heap.size, 0, none⟩ = some (.int .i64 p) ∧ w'.cell? ⟨w.heap.size, 1, none⟩ = some (.slice ad ds.length cap) ∧ w'.cell? ⟨w.heap.size, 2, none⟩ = some (.slice am ms.length capm) ∧ Hid (Bx w w' w.heap.size p (.slice ad ds.length cap) (.slice am ms.length capm) ds ms))
    (first | exact ⟨HX0.out.c0, HX0.out.c1, HX0.out.c2, HX0⟩ | exact ⟨HX0.out.c0, HX0.out.c1, HX0.out.c2, Lib.hid (HX0.out.next (Below.refl _ _).drew)⟩ | exact ⟨HX3.out.c0, HX3.out.c1, HX3.out.c2, HX3⟩ | exact ⟨HX4.out.c0, HX4.out.c1, HX4.out.c2, HX4⟩ | go_keep)
    (first
      | (go_at_call 94; refine (l01Cycles_any p q _ _ ds ms _ ?_ HCX.out hq).mono ?_; (exact (HX0.out.next (Below.refl _ _).drew).cx); rintro e w3 ⟨s3, R1, rfl, ho3, hb3, hr3⟩; obtain ⟨a3, c3, hv3⟩ := Sl.shape ho3.l2; rw [List.length_map] at hv3; subst hv3; have HX3 := Lib.hid ((HX0.out.next (Below.refl _ _).drew).next hb3); have HR3 := Lib.hid hr3; have hl3 := hr3.short; clear ho3 hb3 hr3)
      | (go_at_call 97; refine (l01Bounds_any p q _ _ ds ms _ HX3.out.cx HCX.out hq).mono ?_; rintro e w4 ⟨s4, R2, rfl, ho4, hb4, hr4, _⟩; obtain ⟨a4, c4, hv4⟩ := Sl.shape ho4.l2; rw [List.length_map] at hv4; subst hv4; have HX4 := Lib.hid (HX3.out.next hb4); have HR4 := Lib.hid hr4; have hl4 := red_length hr4.red hr4.wd; clear ho4 hb4 hr4))
  go_wp2
  go_ret
  refine ⟨(R1.length : Int) - (R2.length : Int), ret_int ?_, HX4.out.below, R1, R2, HR3.out, ⟨HR4.out.red, HR4.out.wd, HR4.out.eqv⟩, rfl⟩
  first | rfl | exact IntWalk.i64_in _ (by omega)

/-- What IsExactAt answers. -/
structure ExOut (p : Int) (ds : List Int) (ms : List (List (List Int))) (n : Int) (b : Bool) (c : Int) : Prop where
  code : c = cxCode p ds ms n
  bad : c ≠ 0 → b = false
  good : c = 0 → ∃ x, HNum p ds ms n.toNat x ∧ (b = true ↔ x = 0)
theorem ExOut.unique {p : Int} {ds : List Int} {ms : List (List (List Int))} {n : Int} {b1 b2 : Bool} {c1 c2 : Int} (h : ExOut p ds ms n b1 c1) (k : ExOut p ds ms n b2 c2) : b1 = b2 ∧ c1 = c2 := by
  have e : c1 = c2 := h.code.trans k.code.symm
  refine ⟨?_, e⟩
  by_cases h0 : c1 = 0
  · obtain ⟨x, hx, hb⟩ := h.good h0
    obtain ⟨y, hy, hd⟩ := k.good (by rw [← e]; exact h0)
    have hp := (cxCode_zero (h.code.symm.trans h0)).1.1.prime.lo1
    have := hx.unique hp hy
    subst this
    exact Bool.eq_iff_iff.2 (hb.trans hd.symm)
  · rw [h.bad h0, k.bad (by rw [← e]; exact h0)]
def ExR (p : Int) (ds : List Int) (ms : List (List (List Int))) (n : Int) (w : World) (e : Ending) (w' : World) : Prop :=
  ∃ (b : Bool) (c : Int), e = .returned (.tuple #[.bool b, .int .i64 c]) ∧ Below w.heap.size w w' ∧ ExOut p ds ms n b c

set_option maxHeartbeats 1600000 in
theorem isExactAt_any (p n : Int) (dv mv : Value) (ds : List Int) (ms : List (List (List Int))) (w : World) (h : Cx 0 w dv mv ds ms) (hd : ds.length ≤ 1048576) (hm : Bd3 1048576 ms) :
    Calls Try.prog 47 #[.agg #[.int .i64 p, dv, mv], .int .i64 n] w (ExR p ds ms n w) := by
  have HX0 := Lib.hid (Bx.start (p := p) 28 h)
  have HCK := Lib.hid (checkDegree_any p n dv mv ds ms _ HX0.out.cx hd hm)
  obtain ⟨ad, cap, rfl⟩ := Sl.shape h.dims
  obtain ⟨am, capm, rfl⟩ := Sl.shape h.maps
  have c0 := HX0.out.c0
  have c1 := HX0.out.c1
  have c2 := HX0.out.c2
  clear h hm
  go_enter Try.func47, Try.ntmps47
  go_wp2_with fail
  refine HCK.out.mono ?_
  rintro e w1 ⟨k, rfl, hb1, hc1⟩
  have HC1 := Lib.hid (cxCode_of hc1)
  have HX1 := Lib.hid (HX0.out.next hb1)
  clear hb1 hc1 c0 c1 c2 HCK
  have c0 := HX1.out.c0
  have c1 := HX1.out.c1
  have c2 := HX1.out.c2
  by_cases hk : k = 0
  · subst hk
    obtain ⟨hcx, hr⟩ := cxCode_zero HC1.out.symm
    obtain ⟨q, rfl⟩ : ∃ q : Nat, n = (q : Int) := ⟨n.toNat, by have := hr.1; omega⟩
    have HB := Lib.hid (homologyNumber_any p q _ _ ds ms _ HX1.out.cx hcx (by have := hr.2; omega))
    clear hcx hr
    go_wp2_with fail
    refine HB.out.mono ?_
    rintro e w2 ⟨x, rfl, hb2, hx⟩
    have HX2 := Lib.hid (HX1.out.next hb2)
    have HN := Lib.hid hx
    clear hb2 hx HB
    by_cases hx0 : x = 0
    · have hq : (x == 0) = true := by simp [hx0]
      have HX0' := Lib.hid hx0
      clear hx0
      go_wp2
      go_ret2
      refine ⟨true, 0, by first | rfl | simp [hq], HX2.out.below, HC1.out, fun h => absurd rfl h, fun _ => ⟨x, by rw [Int.toNat_natCast]; exact HN.out, by simp [HX0'.out]⟩⟩
    · have hq : (x == 0) = false := by simp [hx0]
      have HX0' := Lib.hid hx0
      clear hx0
      go_wp2
      go_ret2
      refine ⟨false, 0, by first | rfl | simp [hq], HX2.out.below, HC1.out, fun h => absurd rfl h, fun _ => ⟨x, by rw [Int.toNat_natCast]; exact HN.out, by simp [HX0'.out]⟩⟩
  · have hne2 : (k != 0) = true := by simp [hk]
    have hne3 : (k == 0) = false := by simp [hk]
    have HK := Lib.hid hk
    clear hk
    go_wp2
    go_ret2
    exact ⟨false, k, rfl, HX1.out.below, HC1.out, fun _ => rfl, fun h => absurd h HK.out⟩

set_option maxHeartbeats 1600000 in
theorem spIsExactAt_any (p n : Int) (dv mv : Value) (ds : List Int) (ms : List (List (List Int))) (w : World) (h : Cx 0 w dv mv ds ms) (hd : ds.length ≤ 1048576) (hm : Bd3 1048576 ms) :
    Calls Try.prog 46 #[.agg #[.int .i64 p, dv, mv], .int .i64 n] w (ExR p ds ms n w) := by
  have HX0 := Lib.hid (Bx.start (p := p) 28 h)
  have HCK := Lib.hid (l01Code_any p n dv mv ds ms _ HX0.out.cx hd hm)
  obtain ⟨ad, cap, rfl⟩ := Sl.shape h.dims
  obtain ⟨am, capm, rfl⟩ := Sl.shape h.maps
  have c0 := HX0.out.c0
  have c1 := HX0.out.c1
  have c2 := HX0.out.c2
  clear h hm
  go_enter Try.func46, Try.ntmps46
  go_wp2_with fail
  refine HCK.out.mono ?_
  rintro e w1 ⟨k, rfl, hb1, hc1⟩
  have HC1 := Lib.hid (cxCode_of hc1)
  have HX1 := Lib.hid (HX0.out.next hb1)
  clear hb1 hc1 c0 c1 c2 HCK
  have c0 := HX1.out.c0
  have c1 := HX1.out.c1
  have c2 := HX1.out.c2
  by_cases hk : k = 0
  · subst hk
    obtain ⟨hcx, hr⟩ := cxCode_zero HC1.out.symm
    obtain ⟨q, rfl⟩ : ∃ q : Nat, n = (q : Int) := ⟨n.toNat, by have := hr.1; omega⟩
    have HB := Lib.hid (l01Homology_any p q _ _ ds ms _ HX1.out.cx hcx (by have := hr.2; omega))
    clear hcx hr
    go_wp2_with fail
    refine HB.out.mono ?_
    rintro e w2 ⟨x, rfl, hb2, hx⟩
    have HX2 := Lib.hid (HX1.out.next hb2)
    have HN := Lib.hid hx
    clear hb2 hx HB
    by_cases hx0 : x = 0
    · have hq : (x == 0) = true := by simp [hx0]
      have HX0' := Lib.hid hx0
      clear hx0
      go_wp2
      go_ret2
      refine ⟨true, 0, by first | rfl | simp [hq], HX2.out.below, HC1.out, fun h => absurd rfl h, fun _ => ⟨x, by rw [Int.toNat_natCast]; exact HN.out, by simp [HX0'.out]⟩⟩
    · have hq : (x == 0) = false := by simp [hx0]
      have HX0' := Lib.hid hx0
      clear hx0
      go_wp2
      go_ret2
      refine ⟨false, 0, by first | rfl | simp [hq], HX2.out.below, HC1.out, fun h => absurd rfl h, fun _ => ⟨x, by rw [Int.toNat_natCast]; exact HN.out, by simp [HX0'.out]⟩⟩
  · have hne2 : (k != 0) = true := by simp [hk]
    have hne3 : (k == 0) = false := by simp [hk]
    have HK := Lib.hid hk
    clear hk
    go_wp2
    go_ret2
    exact ⟨false, k, rfl, HX1.out.below, HC1.out, fun _ => rfl, fun h => absurd h HK.out⟩

end Go.Proofs.Ytpdkfidmmjlmnaa
