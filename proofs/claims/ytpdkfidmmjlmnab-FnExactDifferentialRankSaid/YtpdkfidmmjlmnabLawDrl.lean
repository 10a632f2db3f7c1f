/-
  laws.FnExactDifferentialRank by its walk.
-/
import Derived.Test.YtpdkfidmmjlmnabDrw
import Derived.Test.YtpdkfidmmjlmnabDrs
import Derived.Test.YtpdkfidmmjlmnabQg
import Derived.Deep.RegionWith
namespace Go.Proofs.Ytpdkfidmmjlmnab
open Go.RowKit

set_option maxHeartbeats 12800000 in
set_option maxRecDepth 100000 in
theorem lawDrl_any (p r n q : Int) (dv mv lv : Value) (ds : List Int) (ms : List (List (List Int))) (ls : List (List Int)) (w : World) (h : Fi 0 w dv mv lv ds ms ls) (hdl : ds.length ≤ 9223372036854775807) (hml : Bd3 9223372036854775807 ms) (hll : Bd2 9223372036854775807 ls) :
    Calls Try.prog 10 #[.agg #[.int .i64 p, dv, mv, lv], .int .i64 r, .int .i64 n, .int .i64 q] w (BR (.bool true) w) := by
  have HML := Lib.hid hml
  have HLL := Lib.hid hll
  obtain ⟨W0, hW0⟩ : ∃ W0, W0 = w.alloc (.cells #[.int .i64 p, dv, mv, lv] 28) := ⟨_, rfl⟩
  have HNX : Hid (∀ W, Below (w.heap.size + 1) W0 W → Fx w W w.heap.size p dv mv lv ds ms ls) := Lib.hid (fun W hb => fx_of _ h W (by rw [← hW0]; exact hb))
  have HB0 : Hid (Below (w.heap.size + 1) W0 W0) := Lib.hid (Below.refl _ _)
  have HS0 : Hid (W0.heap.size = w.heap.size + 1) := Lib.hid (by rw [hW0]; simp)
  have HX0 := Lib.hid (HNX.out _ HB0.out)
  clear hml hll h
  go_enter Try.func10, Try.ntmps10
  go_wp2_with fail
  rw [← hW0]
  clear hW0
  refine (szFiltered_any p dv mv lv ds ms ls 1048576 _ HX0.out.fi (by omega) (by omega) hdl HML.out HLL.out).mono ?_
  rintro e w1 ⟨sz, rfl, hb1, hpost⟩
  have HB1 := Lib.hid (HB0.out.trans (hb1.mono (Nat.le_of_eq HS0.out.symm)))
  have HX1 := Lib.hid (HNX.out _ HB1.out)
  clear hb1
  have c0 := HX1.out.c0
  have c1 := HX1.out.c1
  have c2 := HX1.out.c2
  have c3 := HX1.out.c3
  rcases hpost with rfl | ⟨hp0, hp1, hp2, hp3, hp4⟩
  · go_wp2
    go_ret
    exact ⟨rfl, HX1.out.below⟩
  · have hds : ds.length ≤ 1048576 := hp2
    have HMS := Lib.hid hp3
    have HLS := Lib.hid hp4
    clear hp2 hp3 hp4
    go_wp2_with fail
    refine (toFiltered_any p dv mv lv ds ms ls _ HX1.out.fi hds HMS.out HLS.out).mono ?_
    rintro e w2 ⟨dv2, mv2, lv2, rfl, hcx2, hb2⟩
    have hs1 : w.heap.size + 1 ≤ w1.heap.size := by have := HB1.out.size; rw [HS0.out] at this; exact this
    have HB2 := Lib.hid (HB1.out.trans (hb2.mono hs1))
    have HC2 := Lib.hid hcx2.zero
    have hs2 : w1.heap.size ≤ w2.heap.size := hb2.size
    clear hb2 hcx2 c0 c1 c2 c3
    go_wp2_with fail
    refine (spDifferentialRankOf_any p r n q dv2 mv2 lv2 ds ms ls _ HC2.out hds HMS.out HLS.out).mono ?_
    rintro e w4 ⟨o0, k0, rfl, hb4, hout0⟩
    have HB4 := Lib.hid (HB2.out.trans (hb4.mono (by omega)))
    have HX4 := Lib.hid (HNX.out _ HB4.out)
    have HO0 := Lib.hid hout0
    have hs4 : w2.heap.size ≤ w4.heap.size := hb4.size
    clear hb4 hout0 HC2 HB1 HB2 HX1
    have c0 := HX4.out.c0
    have c1 := HX4.out.c1
    have c2 := HX4.out.c2
    have c3 := HX4.out.c3
    go_wp2_with fail
    refine (toFilteredw_any p dv mv lv ds ms ls _ HX4.out.fi hds HMS.out HLS.out).mono ?_
    rintro e w5 ⟨dv5, mv5, lv5, rfl, hcw5, hb5⟩
    have HB5 := Lib.hid (HB4.out.trans (hb5.mono (by omega)))
    have hsh := hcw5.fi.shapes
    have HC5 := Lib.hid hcw5
    have hs5 : w4.heap.size ≤ w5.heap.size := hb5.size
    clear hb5 hcw5 c0 c1 c2 c3 HX4
    obtain ⟨⟨a5, l5, rfl⟩, ⟨a6, l6, rfl⟩, ⟨a7, l7, rfl⟩⟩ := hsh
    go_wp2_with fail
    obtain ⟨w5b, hw5b⟩ : ∃ w5b, w5b = (w5.alloc (.cells #[.int .i64 p, .slice a5 ds.length l5, .slice a6 ms.length l6, .slice a7 ls.length l7] 33)) := ⟨_, rfl⟩
    have hbk : Below w5.heap.size w5 w5b := by rw [hw5b]; exact below_alloc1 _ _
    have hs5b : w5b.heap.size = w5.heap.size + 1 := by rw [hw5b]; simp
    have HB6 := Lib.hid (HB5.out.trans (hbk.mono (by omega)))
    have HY6 : Hid (Fx w5 w5b w5.heap.size p (.slice a5 ds.length l5) (.slice a6 ms.length l6) (.slice a7 ls.length l7) ds ms ls) := Lib.hid (by rw [hw5b]; exact Fx.start _ HC5.out.fi.zero)
    have HC6 := Lib.hid (HC5.out.same (Same.of_below hbk (Nat.le_refl _)))
    rw [← hw5b]
    have HS5b := Lib.hid hs5b
    have hs5c : w5.heap.size + 1 ≤ w5b.heap.size := by omega
    clear hw5b hbk HB5 HC5 hs5b
    refine (differentialRankOf_any p r n q _ _ _ ds ms ls _ HC6.out.fi.zero hds HMS.out HLS.out).mono ?_
    rintro e w7 ⟨o7, k7, rfl, hb7, hout7⟩
    obtain ⟨rfl, rfl⟩ := NOut.unique (fun h a b => RkNum.unique (celCode_zero h).1.1.1.prime.lo1) HO0.out hout7
    have hs7 : w5b.heap.size ≤ w7.heap.size := hb7.size
    have HB8 := Lib.hid (HB6.out.trans (hb7.mono (by omega)))
    have HX8 := Lib.hid (HNX.out _ HB8.out)
    have HY8 := Lib.hid (HY6.out.next hb7)
    clear hb7 hout7 HB6 HY6 HC6
    have hcode : (k0 != k0) = false := by simp
    have hnum : (o0 != o0) = false := by simp
    obtain ⟨w8, hw8⟩ : ∃ w8 : World, w8 = w7 := ⟨_, rfl⟩
    subst hw8
    have c0 := HX8.out.c0
    have c1 := HX8.out.c1
    have c2 := HX8.out.c2
    have c3 := HX8.out.c3
    have d0 := HY8.out.c0
    have d1 := HY8.out.c1
    have d2 := HY8.out.c2
    have d3 := HY8.out.c3
    have HCX := Lib.hid (Fi.drew HX8.out.fi)
    have HCC := Lib.hid (Fi.drew HY8.out.fi)
    go_wp2_with fail
    go_region_held3 (fun w' => w'.cell? ⟨w.heap.size, 0, none⟩ = some (.int .i64 p) ∧ w'.cell? ⟨w.heap.size, 1, none⟩ = some dv ∧ w'.cell? ⟨w.heap.size, 2, none⟩ = some mv ∧ w'.cell? ⟨w.heap.size, 3, none⟩ = some lv ∧ w'.cell? ⟨w5.heap.size, 0, none⟩ = some (.int .i64 p) ∧ w'.cell? ⟨w5.heap.size, 1, none⟩ = some (.slice a5 ds.length l5) ∧ w'.cell? ⟨w5.heap.size, 2, none⟩ = some (.slice a6 ms.length l6) ∧ w'.cell? ⟨w5.heap.size, 3, none⟩ = some (.slice a7 ls.length l7))
      (first | exact ⟨c0, c1, c2, c3, d0, d1, d2, d3⟩ | exact HS9.out | exact HSA.out | go_keep)
      (first
        | (go_at_call 23; refine (toFiltered_any p dv mv lv ds ms ls _ HCX.out hds HMS.out HLS.out).mono ?_; rintro e w9 ⟨dv9, mv9, lv9, rfl, hcx9, hb9⟩; have HS9 := Lib.hid (And.intro (later hb9 (Nat.le_refl _) c0) (And.intro (later hb9 (Nat.le_refl _) c1) (And.intro (later hb9 (Nat.le_refl _) c2) (And.intro (later hb9 (Nat.le_refl _) c3) (And.intro (later hb9 (Nat.le_refl _) d0) (And.intro (later hb9 (Nat.le_refl _) d1) (And.intro (later hb9 (Nat.le_refl _) d2) (later hb9 (Nat.le_refl _) d3)))))))); have HX9 := Lib.hid (And.intro hcx9 (And.intro (HCC.out.below hb9) (Below.trans ((Below.refl w8.heap.size w8).drew) hb9))); clear hcx9 hb9)
        | (go_at_call 25; refine (eqFiltered_true p _ _ _ dv9 mv9 lv9 ds ms ls _ HX9.out.2.1 HX9.out.1.zero hds HMS.out HLS.out).mono ?_; rintro e wA ⟨rfl, hbA⟩; have HSA := Lib.hid (And.intro (later hbA (Nat.le_refl _) HS9.out.1) (And.intro (later hbA (Nat.le_refl _) HS9.out.2.1) (And.intro (later hbA (Nat.le_refl _) HS9.out.2.2.1) (And.intro (later hbA (Nat.le_refl _) HS9.out.2.2.2.1) (And.intro (later hbA (Nat.le_refl _) HS9.out.2.2.2.2.1) (And.intro (later hbA (Nat.le_refl _) HS9.out.2.2.2.2.2.1) (And.intro (later hbA (Nat.le_refl _) HS9.out.2.2.2.2.2.2.1) (later hbA (Nat.le_refl _) HS9.out.2.2.2.2.2.2.2)))))))); have HXA := Lib.hid (Below.trans HX9.out.2.2 (hbA.mono HX9.out.2.2.size)); clear hbA))
    have HBC := Lib.hid (HB8.out.trans (HXA.out.mono (by omega)))
    clear c0 c1 c2 c3 d0 d1 d2 d3 HXA HSA HS9 HX9 HCX HCC HB8 HX8 HY8
    go_wp2
    go_ret
    exact ⟨rfl, (HNX.out _ HBC.out).below⟩
end Go.Proofs.Ytpdkfidmmjlmnab
