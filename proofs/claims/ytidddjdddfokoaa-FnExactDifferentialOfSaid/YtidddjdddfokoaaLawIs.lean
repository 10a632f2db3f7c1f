/-
  laws.FnExactIsComplex by its walk: whatever complex comes in, the law answers true, and what was there is as it was.
-/
import Derived.Test.YtidddjdddfokoaaSpIs
import Derived.Test.YtidddjdddfokoaaSz
import Derived.Deep.RegionWith
namespace Go.Proofs.Ytidddjdddfokoaa
open Go.RowKit

theorem below_alloc1 (w : World) (A : Obj) : Below w.heap.size w (w.alloc A) := (Below.refl _ _).alloc (Nat.le_refl _) _
theorem cx_drew {lo : Nat} {w : World} {dv mv : Value} {ds : List Int} {ms : List (List (List Int))} (h : Cx lo w dv mv ds ms) : Cx lo w.drew dv mv ds ms := h.below (Below.refl _ _).drew
theorem Cx.zero {lo : Nat} {w : World} {dv mv : Value} {ds : List Int} {ms : List (List (List Int))} (h : Cx lo w dv mv ds ms) : Cx 0 w dv mv ds ms := h.lower (Nat.zero_le _)
theorem Cx.shapes {lo : Nat} {w : World} {dv mv : Value} {ds : List Int} {ms : List (List (List Int))} (h : Cx lo w dv mv ds ms) : (∃ a c, dv = .slice a ds.length c) ∧ ∃ a c, mv = .slice a ms.length c := ⟨Sl.shape h.dims, Sl.shape h.maps⟩

set_option maxHeartbeats 3200000 in
theorem lawIs_any (p : Int) (dv mv : Value) (ds : List Int) (ms : List (List (List Int))) (w : World) (h : Cx 0 w dv mv ds ms) (hdl : ds.length ≤ 9223372036854775807) (hml : Bd3 9223372036854775807 ms) :
    Calls Try.prog 5 #[.agg #[.int .i64 p, dv, mv]] w (BR (.bool true) w) := by
  have HML := Lib.hid hml
  have hb0 := below_alloc1 w (.cells #[.int .i64 p, dv, mv] 54)
  have HX0 := Lib.hid (Bx.start (p := p) 54 h)
  have HB0 := Lib.hid hb0
  clear hml hb0 h
  go_enter Try.func5, Try.ntmps5
  go_wp2_with fail
  refine (szComplex_any p dv mv ds ms 1048576 _ HX0.out.cx.dims HX0.out.cx.maps (by omega) (by omega) hdl HML.out).mono ?_
  rintro e w1 ⟨r, rfl, hb1, hpost⟩
  have HX1 := Lib.hid (HX0.out.next hb1)
  clear hb1 HX0 HB0
  have c0 := HX1.out.c0
  have c1 := HX1.out.c1
  have c2 := HX1.out.c2
  rcases hpost with rfl | ⟨hp0, hp1, hp2, hp3⟩
  · go_wp2
    go_ret
    exact ⟨rfl, HX1.out.below⟩
  · have hds : ds.length ≤ 1048576 := hp2
    have HMS := Lib.hid hp3
    clear hp2 hp3
    go_wp2_with fail
    refine (toComplex_any p dv mv ds ms _ HX1.out.cx hds HMS.out).mono ?_
    rintro e w2 ⟨dv2, mv2, rfl, hcx2, hb2⟩
    have HX2 := Lib.hid (HX1.out.next hb2)
    have HC2 := Lib.hid hcx2
    clear hcx2 hb2 c0 c1 c2 HX1
    go_wp2_with fail
    refine (spIsComplex_any p dv2 mv2 ds ms _ HC2.out.zero hds HMS.out).mono ?_
    rintro e w3 ⟨b0, rfl, hb3, hbb0⟩
    have HX3 := Lib.hid (HX2.out.next hb3)
    have HBB0 := Lib.hid hbb0
    clear hb3 hbb0 HX2 HC2
    have c0 := HX3.out.c0
    have c1 := HX3.out.c1
    have c2 := HX3.out.c2
    go_wp2_with fail
    refine (toComplex_any p dv mv ds ms _ HX3.out.cx hds HMS.out).mono ?_
    rintro e w4 ⟨dv4, mv4, rfl, hcx4, hb4⟩
    have HX4 := Lib.hid (HX3.out.next hb4)
    have hsh := hcx4.shapes
    have HC4 := Lib.hid hcx4
    clear hcx4 hb4 c0 c1 c2 HX3
    obtain ⟨⟨a4, k4, rfl⟩, ⟨a5, k5, rfl⟩⟩ := hsh
    have c0 := HX4.out.c0
    have c1 := HX4.out.c1
    have c2 := HX4.out.c2
    have hz4 := HX4.out.lt
    go_wp2_with fail
    have hbA := below_alloc1 w4 (.cells #[.int .i64 p, .slice a4 ds.length k4, .slice a5 ms.length k5] 27)
    have HXA := Lib.hid (HX4.out.next hbA)
    have HXC := Lib.hid (Bx.start (p := p) 27 HC4.out.zero)
    clear hbA c0 c1 c2 hz4 HX4 HC4
    refine (isComplex_any p _ _ ds ms _ HXC.out.cx hds HMS.out).mono ?_
    rintro e w6 ⟨b1, rfl, hb6, hbb1⟩
    have hbeq : b1 = b0 := Bool.eq_iff_iff.2 (hbb1.trans HBB0.out.symm)
    have HXA6 := Lib.hid (HXA.out.next hb6)
    have HXC6 := Lib.hid (HXC.out.next hb6)
    clear hb6 hbb1 HXA HXC HBB0
    subst hbeq
    have c0 := HXA6.out.c0
    have c1 := HXA6.out.c1
    have c2 := HXA6.out.c2
    have d0 := HXC6.out.c0
    have d1 := HXC6.out.c1
    have d2 := HXC6.out.c2
    have hq1 : (b1 != b1) = false := by simp
    have HCX := Lib.hid (cx_drew HXA6.out.cx)
    have HCC := Lib.hid (cx_drew HXC6.out.cx)
    go_wp2_with fail
    go_region_with (first
      | (go_at_call 50; refine (toComplex_any p dv mv ds ms _ HCX.out hds HMS.out).mono ?_; rintro e w7 ⟨dv7, mv7, rfl, hcx7, hb7⟩; have e0 := later hb7 (Nat.le_refl _) d0; have e1 := later hb7 (Nat.le_refl _) d1; have e2 := later hb7 (Nat.le_refl _) d2; have HX7 := Lib.hid (And.intro hcx7 (And.intro (HCC.out.below hb7) (Below.trans (HXA6.out.below.drew) (hb7.mono HXA6.out.below.drew.size)))); clear hcx7 hb7)
      | (go_at_call 52; refine (eqComplex_true p _ _ dv7 mv7 ds ms _ HX7.out.2.1 HX7.out.1.zero hds HMS.out).mono ?_; rintro e w8 ⟨rfl, hb8⟩; have HX8 := Lib.hid (Below.trans HX7.out.2.2 (hb8.mono HX7.out.2.2.size)); clear hb8))
    all_goals
      go_wp2
      go_ret
      exact ⟨rfl, HX8.out⟩
end Go.Proofs.Ytidddjdddfokoaa
