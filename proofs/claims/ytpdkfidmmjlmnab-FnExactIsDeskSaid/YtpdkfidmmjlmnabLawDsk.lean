/-
  laws.FnExactIsDesk by its walk: whatever desk comes in, the law answers true, and what was there is as it was.
-/
import Derived.Test.YtpdkfidmmjlmnabDsk
import Derived.Deep.RegionWith
namespace Go.Proofs.Ytpdkfidmmjlmnab
open Go.RowKit

set_option maxHeartbeats 3200000 in
theorem lawDesk_any (p : Int) (dv mv lv : Value) (q : Int) (ev nv : Value) (ds : List Int) (ms : List (List (List Int))) (ls : List (List Int)) (es : List Int) (ns : List (List (List Int))) (w : World) (h : Dk 0 w dv mv lv ev nv ds ms ls es ns) (hB : DkB 9223372036854775807 ds ms ls es ns) :
    Calls Try.prog 20 #[.agg #[.int .i64 p, dv, mv, lv, .int .i64 q, ev, nv]] w (BR (.bool true) w) := by
  have HB0 := Lib.hid hB
  have HX0 := Lib.hid (Dx.start (p := p) (q := q) 84 h)
  clear hB h
  go_enter Try.func20, Try.ntmps20
  go_wp2_with fail
  refine (szDesk_any p dv mv lv q ev nv ds ms ls es ns 1048576 _ HX0.out.dk (by omega) (by omega) HB0.out).mono ?_
  rintro e w1 ⟨r, rfl, hb1, hpost⟩
  have HX1 := Lib.hid (HX0.out.next hb1)
  clear hb1 HX0
  have c0 := HX1.out.c0
  have c1 := HX1.out.c1
  have c2 := HX1.out.c2
  have c3 := HX1.out.c3
  have c4 := HX1.out.c4
  have c5 := HX1.out.c5
  have c6 := HX1.out.c6
  rcases hpost with rfl | ⟨hp0, hp1, hp2⟩
  · go_wp2
    go_ret
    exact ⟨rfl, HX1.out.below⟩
  · have HB := Lib.hid hp2
    clear hp2
    go_wp2_with fail
    refine (toDesk_any p dv mv lv q ev nv ds ms ls es ns _ HX1.out.dk HB.out).mono ?_
    rintro e w2 ⟨dv2, mv2, lv2, ev2, nv2, rfl, hf2, hb2⟩
    have HX2 := Lib.hid (HX1.out.next hb2)
    have HF2 := Lib.hid hf2
    clear hf2 hb2 c0 c1 c2 c3 c4 c5 c6 HX1
    go_wp2_with fail
    refine (spIsDesk_any p dv2 mv2 lv2 q ev2 nv2 ds ms ls es ns _ HF2.out.zero HB.out).mono ?_
    rintro e w3 ⟨b0, rfl, hb3, hbb0⟩
    have HX3 := Lib.hid (HX2.out.next hb3)
    have HBB0 := Lib.hid hbb0
    clear hb3 hbb0 HX2 HF2
    have c0 := HX3.out.c0
    have c1 := HX3.out.c1
    have c2 := HX3.out.c2
    have c3 := HX3.out.c3
    have c4 := HX3.out.c4
    have c5 := HX3.out.c5
    have c6 := HX3.out.c6
    go_wp2_with fail
    refine (toDesk_any p dv mv lv q ev nv ds ms ls es ns _ HX3.out.dk HB.out).mono ?_
    rintro e w4 ⟨dv4, mv4, lv4, ev4, nv4, rfl, hf4, hb4⟩
    have HX4 := Lib.hid (HX3.out.next hb4)
    have hsh := hf4.shapes
    have HF4 := Lib.hid hf4
    clear hf4 hb4 c0 c1 c2 c3 c4 c5 c6 HX3
    obtain ⟨⟨a4, k4, rfl⟩, ⟨a5, k5, rfl⟩, ⟨a6, k6, rfl⟩, ⟨a7, k7, rfl⟩, ⟨a8, k8, rfl⟩⟩ := hsh
    have c0 := HX4.out.c0
    have c1 := HX4.out.c1
    have c2 := HX4.out.c2
    have c3 := HX4.out.c3
    have c4 := HX4.out.c4
    have c5 := HX4.out.c5
    have c6 := HX4.out.c6
    have hz4 := HX4.out.lt
    go_wp2_with fail
    have hbA := below_alloc1 w4 (.cells #[.int .i64 p, .slice a4 ds.length k4, .slice a5 ms.length k5, .slice a6 ls.length k6, .int .i64 q, .slice a7 es.length k7, .slice a8 ns.length k8] 88)
    have HXA := Lib.hid (HX4.out.next hbA)
    have HXC := Lib.hid (Dx.start (p := p) (q := q) 88 HF4.out.zero)
    clear hbA c0 c1 c2 c3 c4 c5 c6 hz4 HX4 HF4
    refine (isDesk_any p _ _ _ q _ _ ds ms ls es ns _ HXC.out.dk HB.out).mono ?_
    rintro e w6 ⟨b1, rfl, hb6, hbb1⟩
    have hbeq : b1 = b0 := Bool.eq_iff_iff.2 (hbb1.trans HBB0.out.symm)
    have HXA6 := Lib.hid (HXA.out.next hb6)
    have HXC6 := Lib.hid (HXC.out.next hb6)
    clear hb6 hbb1 HXA HXC HBB0
    subst hbeq
    have c0 := HXA6.out.c0
    have c1 := HXA6.out.c1
    have c2 := HXA6.out.c2
    have c3 := HXA6.out.c3
    have c4 := HXA6.out.c4
    have c5 := HXA6.out.c5
    have c6 := HXA6.out.c6
    have d0 := HXC6.out.c0
    have d1 := HXC6.out.c1
    have d2 := HXC6.out.c2
    have d3 := HXC6.out.c3
    have d4 := HXC6.out.c4
    have d5 := HXC6.out.c5
    have d6 := HXC6.out.c6
    have hq1 : (b1 != b1) = false := by simp
    have HCX := Lib.hid (Dk.drew HXA6.out.dk)
    have HCC := Lib.hid (Dk.drew HXC6.out.dk)
    go_wp2_with fail
    go_region_with (first
      | (go_at_call 83; refine (toDesk_any p dv mv lv q ev nv ds ms ls es ns _ HCX.out HB.out).mono ?_; rintro e w7 ⟨dv7, mv7, lv7, ev7, nv7, rfl, hf7, hb7⟩; have e0 := later hb7 (Nat.le_refl _) d0; have e1 := later hb7 (Nat.le_refl _) d1; have e2 := later hb7 (Nat.le_refl _) d2; have e3 := later hb7 (Nat.le_refl _) d3; have e4 := later hb7 (Nat.le_refl _) d4; have e5 := later hb7 (Nat.le_refl _) d5; have e6 := later hb7 (Nat.le_refl _) d6; have HX7 := Lib.hid (And.intro hf7 (And.intro (HCC.out.below hb7) (Below.trans (HXA6.out.below.drew) (hb7.mono HXA6.out.below.drew.size)))); clear hf7 hb7)
      | (go_at_call 85; refine (eqDesk_true p _ _ _ q _ _ dv7 mv7 lv7 ev7 nv7 ds ms ls es ns _ HX7.out.2.1 HX7.out.1.zero HB.out).mono ?_; rintro e w8 ⟨rfl, hb8⟩; have HX8 := Lib.hid (Below.trans HX7.out.2.2 (hb8.mono HX7.out.2.2.size)); clear hb8))
    all_goals
      go_wp2
      go_ret
      exact ⟨rfl, HX8.out⟩
end Go.Proofs.Ytpdkfidmmjlmnab
