/-
  laws.FnExactIsExactAt by its walk.
-/
import Derived.Test.YtpdkfidmmjlmnaaNum
import Derived.Test.YtpdkfidmmjlmnaaQg
import Derived.Deep.RegionWith
namespace Go.Proofs.Ytpdkfidmmjlmnaa
open Go.RowKit

set_option maxHeartbeats 12800000 in
set_option maxRecDepth 100000 in
theorem lawEx_any (p n : Int) (dv mv : Value) (ds : List Int) (ms : List (List (List Int))) (w : World) (h : Cx 0 w dv mv ds ms) (hdl : ds.length ≤ 9223372036854775807) (hml : Bd3 9223372036854775807 ms) :
    Calls Try.prog 9 #[.agg #[.int .i64 p, dv, mv], .int .i64 n] w (BR (.bool true) w) := by
  have HML := Lib.hid hml
  obtain ⟨W0, hW0⟩ : ∃ W0, W0 = w.alloc (.cells #[.int .i64 p, dv, mv] 25) := ⟨_, rfl⟩
  have HNX : Hid (∀ W, Below (w.heap.size + 1) W0 W → Bx w W w.heap.size p dv mv ds ms) := Lib.hid (fun W hb => bx_of _ h W (by rw [← hW0]; exact hb))
  have HB0 : Hid (Below (w.heap.size + 1) W0 W0) := Lib.hid (Below.refl _ _)
  have HS0 : Hid (W0.heap.size = w.heap.size + 1) := Lib.hid (by rw [hW0]; simp)
  have HX0 := Lib.hid (HNX.out _ HB0.out)
  clear hml h
  go_enter Try.func9, Try.ntmps9
  go_wp2_with fail
  rw [← hW0]
  clear hW0
  refine (szComplex_any p dv mv ds ms 1048576 _ HX0.out.cx.dims HX0.out.cx.maps (by omega) (by omega) hdl HML.out).mono ?_
  rintro e w1 ⟨r, rfl, hb1, hpost⟩
  have HB1 := Lib.hid (HB0.out.trans (hb1.mono (Nat.le_of_eq HS0.out.symm)))
  have HX1 := Lib.hid (HNX.out _ HB1.out)
  clear hb1
  have c0 := HX1.out.c0
  have c1 := HX1.out.c1
  have c2 := HX1.out.c2
  rcases hpost with rfl | ⟨hp0, hp1, hp2, hp3⟩
  · go_wp2
    go_ret
    exact ⟨rfl, HX1.out.below⟩
  · have hds : ds.length ≤ 1048576 := hp2
    have HMS := Lib.hid hp3
    clear hp2 hp3
    go_wp2_with fail
    refine (toComplex_any p dv mv ds ms _ HX1.out.cx hds HMS.out).mono ?_
    rintro e w2 ⟨dv2, mv2, rfl, hcx2, hb2⟩
    have hs1 : w.heap.size + 1 ≤ w1.heap.size := by have := HB1.out.size; rw [HS0.out] at this; exact this
    have HB2 := Lib.hid (HB1.out.trans (hb2.mono hs1))
    have HC2 := Lib.hid hcx2.zero
    have hs2 : w1.heap.size ≤ w2.heap.size := hb2.size
    clear hb2 hcx2 c0 c1 c2
    go_wp2_with fail
    refine (spIsExactAt_any p n dv2 mv2 ds ms _ HC2.out hds HMS.out).mono ?_
    rintro e w4 ⟨o0, k0, rfl, hb4, hout0⟩
    have HB4 := Lib.hid (HB2.out.trans (hb4.mono (by omega)))
    have HX4 := Lib.hid (HNX.out _ HB4.out)
    have HO0 := Lib.hid hout0
    have hs4 : w2.heap.size ≤ w4.heap.size := hb4.size
    clear hb4 hout0 HC2 HB1 HB2 HX1
    have c0 := HX4.out.c0
    have c1 := HX4.out.c1
    have c2 := HX4.out.c2
    go_wp2_with fail
    refine (toComplexw_any p dv mv ds ms _ HX4.out.cx hds HMS.out).mono ?_
    rintro e w5 ⟨dv5, mv5, rfl, hcw5, hb5⟩
    have HB5 := Lib.hid (HB4.out.trans (hb5.mono (by omega)))
    have hsh := hcw5.cx.shapes
    have HC5 := Lib.hid hcw5
    have hs5 : w4.heap.size ≤ w5.heap.size := hb5.size
    clear hb5 hcw5 c0 c1 c2 HX4
    obtain ⟨⟨a5, l5, rfl⟩, ⟨a6, l6, rfl⟩⟩ := hsh
    go_wp2_with fail
    obtain ⟨w5b, hw5b⟩ : ∃ w5b, w5b = (w5.alloc (.cells #[.int .i64 p, .slice a5 ds.length l5, .slice a6 ms.length l6] 28)) := ⟨_, rfl⟩
    have hbk : Below w5.heap.size w5 w5b := by rw [hw5b]; exact below_alloc1 _ _
    have hs5b : w5b.heap.size = w5.heap.size + 1 := by rw [hw5b]; simp
    have HB6 := Lib.hid (HB5.out.trans (hbk.mono (by omega)))
    have HY6 : Hid (Bx w5 w5b w5.heap.size p (.slice a5 ds.length l5) (.slice a6 ms.length l6) ds ms) := Lib.hid (by rw [hw5b]; exact Bx.start _ HC5.out.cx.zero)
    have HC6 := Lib.hid (HC5.out.same (Same.of_below hbk (Nat.le_refl _)))
    rw [← hw5b]
    have HS5b := Lib.hid hs5b
    have hs5c : w5.heap.size + 1 ≤ w5b.heap.size := by omega
    clear hw5b hbk HB5 HC5 hs5b
    refine (isExactAt_any p n _ _ ds ms _ HC6.out.cx.zero hds HMS.out).mono ?_
    rintro e w7 ⟨o7, k7, rfl, hb7, hout7⟩
    obtain ⟨rfl, rfl⟩ := ExOut.unique HO0.out hout7
    have hs7 : w5b.heap.size ≤ w7.heap.size := hb7.size
    have HB7 := Lib.hid (HB6.out.trans (hb7.mono (by omega)))
    have HX8 := Lib.hid (HNX.out _ HB7.out)
    have HY8 := Lib.hid (HY6.out.next hb7)
    clear hb7 hout7 HB6 HY6 HC6
    have hcode : (k0 != k0) = false := by simp
    have hbool : (o0 != o0) = false := by simp
    obtain ⟨w8, hw8⟩ : ∃ w8 : World, w8 = w7 := ⟨_, rfl⟩
    subst hw8
    have c0 := HX8.out.c0
    have c1 := HX8.out.c1
    have c2 := HX8.out.c2
    have d0 := HY8.out.c0
    have d1 := HY8.out.c1
    have d2 := HY8.out.c2
    have HCX := Lib.hid (cx_drew HX8.out.cx)
    have HCC := Lib.hid (cx_drew HY8.out.cx)
    go_wp2_with fail
    go_region_held3 (fun w' => w'.cell? ⟨w.heap.size, 0, none⟩ = some (.int .i64 p) ∧ w'.cell? ⟨w.heap.size, 1, none⟩ = some dv ∧ w'.cell? ⟨w.heap.size, 2, none⟩ = some mv ∧ w'.cell? ⟨w5.heap.size, 0, none⟩ = some (.int .i64 p) ∧ w'.cell? ⟨w5.heap.size, 1, none⟩ = some (.slice a5 ds.length l5) ∧ w'.cell? ⟨w5.heap.size, 2, none⟩ = some (.slice a6 ms.length l6))
      (first | exact ⟨c0, c1, c2, d0, d1, d2⟩ | exact HS9.out | exact HSA.out | go_keep)
      (first
        | (go_at_call 25; refine (toComplex_any p dv mv ds ms _ HCX.out hds HMS.out).mono ?_; rintro e w9 ⟨dv9, mv9, rfl, hcx9, hb9⟩; have HS9 := Lib.hid (And.intro (later hb9 (Nat.le_refl _) c0) (And.intro (later hb9 (Nat.le_refl _) c1) (And.intro (later hb9 (Nat.le_refl _) c2) (And.intro (later hb9 (Nat.le_refl _) d0) (And.intro (later hb9 (Nat.le_refl _) d1) (later hb9 (Nat.le_refl _) d2)))))); have HX9 := Lib.hid (And.intro hcx9 (And.intro (HCC.out.below hb9) (Below.trans ((Below.refl w8.heap.size w8).drew) hb9))); clear hcx9 hb9)
        | (go_at_call 27; refine (eqComplex_true p _ _ dv9 mv9 ds ms _ HX9.out.2.1 HX9.out.1.zero hds HMS.out).mono ?_; rintro e wA ⟨rfl, hbA⟩; have HSA := Lib.hid (And.intro (later hbA (Nat.le_refl _) HS9.out.1) (And.intro (later hbA (Nat.le_refl _) HS9.out.2.1) (And.intro (later hbA (Nat.le_refl _) HS9.out.2.2.1) (And.intro (later hbA (Nat.le_refl _) HS9.out.2.2.2.1) (And.intro (later hbA (Nat.le_refl _) HS9.out.2.2.2.2.1) (later hbA (Nat.le_refl _) HS9.out.2.2.2.2.2)))))); have HXA := Lib.hid (Below.trans HX9.out.2.2 (hbA.mono HX9.out.2.2.size)); clear hbA))
    have HBC := Lib.hid (HB7.out.trans (HXA.out.mono (by omega)))
    clear c0 c1 c2 d0 d1 d2 HXA HSA HS9 HX9 HCX HCC HX8 HY8
    go_wp2
    go_ret
    exact ⟨rfl, (HNX.out _ HBC.out).below⟩
end Go.Proofs.Ytpdkfidmmjlmnaa
