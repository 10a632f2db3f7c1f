/-
  laws.FnExactDifferentialOf by its walk.
-/
import Derived.Test.YtidddjdddfokoaaDifS
import Derived.Deep.RegionWith
namespace Go.Proofs.Ytidddjdddfokoaa
open Go.RowKit

theorem bx_of {w : World} {p : Int} {dv mv : Value} {ds : List Int} {ms : List (List (List Int))} (t : TypeId) (h : Cx 0 w dv mv ds ms) (W : World) (hb : Below (w.heap.size + 1) (w.alloc (.cells #[.int .i64 p, dv, mv] t)) W) : Bx w W w.heap.size p dv mv ds ms :=
  (Bx.start t h).next (by simpa using hb)
theorem upFrom_same (k : Int) (n : Nat) : (upFrom k n).length = n := upFrom_length k n
theorem qr_below {v : Value} {w : World} {e : Ending} {w' : World} (h : QR v w e w') : e = .returned v ∧ Below w.heap.size w w' := by
  obtain ⟨h1, m, h2⟩ := h
  exact ⟨h1, by rw [h2]; exact drewN_below w m⟩
/-- Two equal lists compare as equal. -/
theorem eq1_true (va vb : Value) (xs : List Int) (w : World) (ha : L1 0 w va xs) (hb : L1 0 w vb xs) (hm : xs.length ≤ 1048576) : Calls Try.prog 56 #[va, vb] w (BR (.bool true) w) := by
  have h := eq1_any va vb xs xs w ha hb hm hm
  rw [decide_eq_true rfl] at h
  exact h.mono fun _ _ hh => qr_below hh
theorem difOut_short {p : Int} {ds : List Int} {ms : List (List (List Int))} {n : Int} {vs out : List Int} {c : Int} (h : DifOut p ds ms n vs out c) (hn : InDeg ds n ∨ ¬ InDeg ds n) : out.length ≤ 1048576 := by
  by_cases a : IsCx p ds ms
  · rcases hn with b | b
    · by_cases r : RowOk p (ds.getD n.toNat 0) vs
      · rw [(h.good a b r).1]
        obtain ⟨q, rfl⟩ : ∃ q : Nat, n = (q : Int) := ⟨n.toNat, by have := b.1; omega⟩
        have hq : q < ds.length := by have := b.2; omega
        obtain ⟨c2, _, hc8, hok, he⟩ := dif_ap a hq (by rw [Int.toNat_natCast] at r; exact r)
        rw [← he, apT_length hok]
        omega
      · rw [(h.row a b r).1]
        simp
    · rw [(h.far a b).1]
      simp
  · rw [(h.bad a).1]
    simp

set_option maxHeartbeats 12800000 in
set_option maxRecDepth 100000 in
theorem lawDif_any (p n : Int) (dv mv va : Value) (ds : List Int) (ms : List (List (List Int))) (vs : List Int) (w : World) (h : Cx 0 w dv mv ds ms) (hv : L1 0 w va vs) (hdl : ds.length ≤ 9223372036854775807) (hml : Bd3 9223372036854775807 ms) (hvm : vs.length ≤ 9223372036854775807) :
    Calls Try.prog 6 #[.agg #[.int .i64 p, dv, mv], .int .i64 n, va] w (BR (.bool true) w) := by
  have HML := Lib.hid hml
  have HV := Lib.hid hv
  obtain ⟨W0, hW0⟩ : ∃ W0, W0 = w.alloc (.cells #[.int .i64 p, dv, mv] 54) := ⟨_, rfl⟩
  have HNX : Hid (∀ W, Below (w.heap.size + 1) W0 W → Bx w W w.heap.size p dv mv ds ms) := Lib.hid (fun W hb => bx_of _ h W (by rw [← hW0]; exact hb))
  have HB0 : Hid (Below (w.heap.size + 1) W0 W0) := Lib.hid (Below.refl _ _)
  have HS0 : Hid (W0.heap.size = w.heap.size + 1) := Lib.hid (by rw [hW0]; simp)
  have HX0 := Lib.hid (HNX.out _ HB0.out)
  obtain ⟨av, capv, hva⟩ := Sl.shape hv
  clear hml h hv
  by_cases hvl : vs.length ≤ 1048576
  · subst hva
    go_enter Try.func6, Try.ntmps6
    go_wp2_with fail
    rw [← hW0]
    clear hW0
    refine (szComplex_any p dv mv ds ms 1048576 _ HX0.out.cx.dims HX0.out.cx.maps (by omega) (by omega) hdl HML.out).mono ?_
    rintro e w1 ⟨r, rfl, hb1, hpost⟩
    have HB1 := Lib.hid (HB0.out.trans (hb1.mono (Nat.le_of_eq HS0.out.symm)))
    have HX1 := Lib.hid (HNX.out _ HB1.out)
    clear hb1
    have c0 := HX1.out.c0
    have c1 := HX1.out.c1
    have c2 := HX1.out.c2
    rcases hpost with rfl | ⟨hp0, hp1, hp2, hp3⟩
    · go_wp2
      go_ret
      exact ⟨rfl, HX1.out.below⟩
    · have hds : ds.length ≤ 1048576 := hp2
      have HMS := Lib.hid hp3
      clear hp2 hp3
      go_wp2_with fail
      refine (toComplex_any p dv mv ds ms _ HX1.out.cx hds HMS.out).mono ?_
      rintro e w2 ⟨dv2, mv2, rfl, hcx2, hb2⟩
      have hs1 : w.heap.size + 1 ≤ w1.heap.size := by have := HB1.out.size; rw [HS0.out] at this; exact this
      have HB2 := Lib.hid (HB1.out.trans (hb2.mono hs1))
      have HX2 := Lib.hid (HNX.out _ HB2.out)
      have HC2 := Lib.hid hcx2.zero
      have hs2 : w1.heap.size ≤ w2.heap.size := hb2.size
      clear hb2 hcx2 c0 c1 c2
      go_wp2_with fail
      refine (to1_any _ vs _ (HV.out.below HX2.out.below) hvl).mono ?_
      rintro e w3 ⟨v3, rfl, hl3, hb3⟩
      have HB3 := Lib.hid (HB2.out.trans (hb3.mono (by omega)))
      have HL3 := Lib.hid (hl3.lower (Nat.zero_le _))
      have HC3 := Lib.hid (HC2.out.below hb3)
      have hs3 : w2.heap.size ≤ w3.heap.size := hb3.size
      clear hb3 hl3 HC2
      go_wp2_with fail
      refine (difSpec_any p n dv2 mv2 v3 ds ms vs _ HC3.out HL3.out hds HMS.out hvl).mono ?_
      rintro e w4 ⟨u0, o0, k0, rfl, hl4, hb4, hout0⟩
      have HB4 := Lib.hid (HB3.out.trans (hb4.mono (by omega)))
      have HX4 := Lib.hid (HNX.out _ HB4.out)
      have HL4 := Lib.hid hl4
      have HO0 := Lib.hid hout0
      have hs4 : w3.heap.size ≤ w4.heap.size := hb4.size
      have hol : o0.length ≤ 1048576 := difOut_short hout0 (Classical.em _)
      clear hb4 hl4 hout0 HC3 HL3 HB1 HB2 HB3 HX1 HX2
      have c0 := HX4.out.c0
      have c1 := HX4.out.c1
      have c2 := HX4.out.c2
      go_wp2_with fail
      refine (toComplexw_any p dv mv ds ms _ HX4.out.cx hds HMS.out).mono ?_
      rintro e w5 ⟨dv5, mv5, rfl, hcw5, hb5⟩
      have HB5 := Lib.hid (HB4.out.trans (hb5.mono (by omega)))
      have HK5 := Lib.hid hb5
      have hsh := hcw5.cx.shapes
      have HC5 := Lib.hid hcw5
      have hs5 : w4.heap.size ≤ w5.heap.size := hb5.size
      clear hb5 hcw5 c0 c1 c2 HX4
      obtain ⟨⟨a5, l5, rfl⟩, ⟨a6, l6, rfl⟩⟩ := hsh
      have HX5 := Lib.hid (HNX.out _ HB5.out)
      go_wp2_with fail
      obtain ⟨w5b, hw5b⟩ : ∃ w5b, w5b = (w5.alloc (.cells #[.int .i64 p, .slice a5 ds.length l5, .slice a6 ms.length l6] 27)) := ⟨_, rfl⟩
      have hbk : Below w5.heap.size w5 w5b := by rw [hw5b]; exact below_alloc1 _ _
      have hs5b : w5b.heap.size = w5.heap.size + 1 := by rw [hw5b]; simp
      have HB5b := Lib.hid (HB5.out.trans (hbk.mono (by omega)))
      have HK5b := Lib.hid (HK5.out.trans (hbk.mono (by omega)))
      have HX5b := Lib.hid (HNX.out _ HB5b.out)
      have HY5 : Hid (Bx w5 w5b w5.heap.size p (.slice a5 ds.length l5) (.slice a6 ms.length l6) ds ms) := Lib.hid (by rw [hw5b]; exact Bx.start _ HC5.out.cx.zero)
      have HC5b := Lib.hid (HC5.out.same (Same.of_below hbk (Nat.le_refl _)))
      rw [← hw5b]
      have HS5b := Lib.hid hs5b
      clear hw5b hbk HB5 HK5 HX5 HC5
      refine (to1w_any _ vs _ (HV.out.below HX5b.out.below) hvl).mono ?_
      rintro e w6 ⟨v6, rfl, hw6, hb6⟩
      have hs5c : w5.heap.size + 1 ≤ w5b.heap.size := by rw [HS5b.out]; exact Nat.le_refl _
      have hs6 : w5b.heap.size ≤ w6.heap.size := hb6.size
      clear hs5b
      have HB6 := Lib.hid (HB5b.out.trans (hb6.mono (by omega)))
      have HK6 := Lib.hid (HK5b.out.trans (hb6.mono (by omega)))
      have HX6 := Lib.hid (HNX.out _ HB6.out)
      have HY6 := Lib.hid (HY5.out.next hb6)
      have HC6 := Lib.hid (HC5b.out.same (Same.of_below hb6 (by omega)))
      have HV6 := Lib.hid hw6
      clear hb6 hw6 HB5b HK5b HX5b HY5 HC5b
      have d0 := HY6.out.c0
      have d1 := HY6.out.c1
      have d2 := HY6.out.c2
      go_wp2_with fail
      refine (difImpl_any p n _ _ v6 ds ms vs _ HC6.out.cx.zero (HV6.out.l1.lower (Nat.zero_le _)) hds HMS.out hvl).mono ?_
      rintro e w7 ⟨u7, o7, k7, rfl, hw7, hb7, hout7⟩
      obtain ⟨rfl, rfl⟩ := DifOut.unique HO0.out hout7
      have hs7 : w6.heap.size ≤ w7.heap.size := hb7.size
      have HB7 := Lib.hid (HB6.out.trans (hb7.mono (by omega)))
      have HK7 := Lib.hid (HK6.out.trans (hb7.mono (by omega)))
      have HY7 := Lib.hid (HY6.out.next hb7)
      have HC7 := Lib.hid (HC6.out.same (Same.of_below hb7 (by omega)))
      have HV7 := Lib.hid (HV6.out.same (Same.of_below hb7 (Nat.le_refl _)))
      have HG7 := Lib.hid hw7
      clear hb7 hw7 hout7 HB6 HK6 HX6 HY6 HC6 HV6 d0 d1 d2
      have hcode : (k0 != k0) = false := by simp
      go_wp2_with fail
      refine (eq1_true u7 u0 o0 _ (HG7.out.l1.lower (Nat.zero_le _)) (HL4.out.below HK7.out) hol).mono ?_
      rintro e w8 ⟨rfl, hb8⟩
      have hs8 : w7.heap.size ≤ w8.heap.size := hb8.size
      have HB8 := Lib.hid (HB7.out.trans (hb8.mono (by omega)))
      have HK8 := Lib.hid (HK7.out.trans (hb8.mono (by omega)))
      have HX8 := Lib.hid (HNX.out _ HB8.out)
      have HY8 := Lib.hid (HY7.out.next hb8)
      have HC8 := Lib.hid (HC7.out.same (Same.of_below hb8 (by omega)))
      have HV8 := Lib.hid (HV7.out.same (Same.of_below hb8 (by omega)))
      have HG8 := Lib.hid (HG7.out.same (Same.of_below hb8 (Nat.le_refl _)))
      clear hb8 HB7 HK7 HY7 HC7 HV7 HG7
      have c0 := HX8.out.c0
      have c1 := HX8.out.c1
      have c2 := HX8.out.c2
      have d0 := HY8.out.c0
      have d1 := HY8.out.c1
      have d2 := HY8.out.c2
      have HCX := Lib.hid (cx_drew HX8.out.cx)
      have HCC := Lib.hid (cx_drew HY8.out.cx)
      go_wp2_with fail
      go_region_held3 (fun w' => w'.cell? ⟨w.heap.size, 0, none⟩ = some (.int .i64 p) ∧ w'.cell? ⟨w.heap.size, 1, none⟩ = some dv ∧ w'.cell? ⟨w.heap.size, 2, none⟩ = some mv ∧ w'.cell? ⟨w5.heap.size, 0, none⟩ = some (.int .i64 p) ∧ w'.cell? ⟨w5.heap.size, 1, none⟩ = some (.slice a5 ds.length l5) ∧ w'.cell? ⟨w5.heap.size, 2, none⟩ = some (.slice a6 ms.length l6))
        (first | exact ⟨c0, c1, c2, d0, d1, d2⟩ | exact HS9.out | exact HSA.out | go_keep)
        (first
          | (go_at_call 50; refine (toComplex_any p dv mv ds ms _ HCX.out hds HMS.out).mono ?_; rintro e w9 ⟨dv9, mv9, rfl, hcx9, hb9⟩; have HS9 := Lib.hid (And.intro (later hb9 (Nat.le_refl _) c0) (And.intro (later hb9 (Nat.le_refl _) c1) (And.intro (later hb9 (Nat.le_refl _) c2) (And.intro (later hb9 (Nat.le_refl _) d0) (And.intro (later hb9 (Nat.le_refl _) d1) (later hb9 (Nat.le_refl _) d2)))))); have HX9 := Lib.hid (And.intro hcx9 (And.intro (HCC.out.below hb9) (Below.trans ((Below.refl w8.heap.size w8).drew) hb9))); clear hcx9 hb9)
          | (go_at_call 52; refine (eqComplex_true p _ _ dv9 mv9 ds ms _ HX9.out.2.1 HX9.out.1.zero hds HMS.out).mono ?_; rintro e wA ⟨rfl, hbA⟩; have HSA := Lib.hid (And.intro (later hbA (Nat.le_refl _) HS9.out.1) (And.intro (later hbA (Nat.le_refl _) HS9.out.2.1) (And.intro (later hbA (Nat.le_refl _) HS9.out.2.2.1) (And.intro (later hbA (Nat.le_refl _) HS9.out.2.2.2.1) (And.intro (later hbA (Nat.le_refl _) HS9.out.2.2.2.2.1) (later hbA (Nat.le_refl _) HS9.out.2.2.2.2.2)))))); have HXA := Lib.hid (Below.trans HX9.out.2.2 (hbA.mono HX9.out.2.2.size)); clear hbA))
      have hsA : w8.heap.size ≤ wA.heap.size := HXA.out.size
      have HBA := Lib.hid (HB8.out.trans (HXA.out.mono (by omega)))
      have HKA := Lib.hid (HK8.out.trans (HXA.out.mono (by omega)))
      have HXA2 := Lib.hid (HNX.out _ HBA.out)
      have HYA := Lib.hid (HY8.out.next HXA.out)
      have HCA := Lib.hid (HC8.out.same (Same.of_below HXA.out (by omega)))
      have HVA := Lib.hid (HV8.out.same (Same.of_below HXA.out (by omega)))
      have HGA := Lib.hid (HG8.out.same (Same.of_below HXA.out (by omega)))
      clear c0 c1 c2 d0 d1 d2 HXA HSA HS9 HX9 HCX HCC HB8 HK8 HX8 HY8 HC8 HV8 HG8
      go_wp2_with fail
      refine (to1_any _ vs _ (HV.out.below HXA2.out.below) hvl).mono ?_
      rintro e wB ⟨vB, rfl, hlB, hbB⟩
      have hsB : wA.heap.size ≤ wB.heap.size := hbB.size
      have HBB := Lib.hid (HBA.out.trans (hbB.mono (by omega)))
      have HKB := Lib.hid (HKA.out.trans (hbB.mono (by omega)))
      have HYB := Lib.hid (HYA.out.next hbB)
      have HCB := Lib.hid (HCA.out.same (Same.of_below hbB (by omega)))
      have HVB := Lib.hid (HVA.out.same (Same.of_below hbB (by omega)))
      have HGB := Lib.hid (HGA.out.same (Same.of_below hbB (by omega)))
      have HLB := Lib.hid (hlB.lower (Nat.zero_le _))
      clear hbB hlB HBA HKA HXA2 HYA HCA HVA HGA
      go_wp2_with fail
      refine (eq1_true v6 vB vs _ (HVB.out.l1.lower (Nat.zero_le _)) HLB.out hvl).mono ?_
      rintro e wC ⟨rfl, hbC⟩
      have hsC : wB.heap.size ≤ wC.heap.size := hbC.size
      have HBC := Lib.hid (HBB.out.trans (hbC.mono (by omega)))
      have HKC := Lib.hid (HKB.out.trans (hbC.mono (by omega)))
      have HYC := Lib.hid (HYB.out.next hbC)
      have HCC := Lib.hid (HCB.out.same (Same.of_below hbC (by omega)))
      have HVC := Lib.hid (HVB.out.same (Same.of_below hbC (by omega)))
      have HGC := Lib.hid (HGB.out.same (Same.of_below hbC (by omega)))
      clear hbC HBB HKB HYB HCB HVB HGB HLB
      have d0 := HYC.out.c0
      have d1 := HYC.out.c1
      have d2 := HYC.out.c2
      go_wp2_with fail
      refine (markComplex_any p _ _ ds ms _ HCC.out (by omega) hds HMS.out).mono ?_
      rintro e wD ⟨r2, wM, rfl, hr0, hr1, hbM, hoM, htM⟩
      have hsM : wC.heap.size ≤ wM.heap.size := hbM.size
      have hsD : wD.heap.size = wM.heap.size := hoM.size
      have hsD' : wM.heap.size ≤ wD.heap.size := by omega
      have HSD := Lib.hid hsD
      have HBD := Lib.hid ((HBC.out.trans (hbM.mono (by omega))).trans (hoM.below (by omega)))
      have HKD := Lib.hid ((HKC.out.trans (hbM.mono (by omega))).trans (hoM.below (Nat.le_refl _)))
      have HVD := Lib.hid (HVC.out.same ((Same.of_below hbM (by omega)).trans (hoM.same (Or.inr (by omega)))))
      have HGD := Lib.hid (HGC.out.same ((Same.of_below hbM (by omega)).trans (hoM.same (Or.inr (by omega)))))
      clear hsD hbM hoM htM d0 d1 d2 HBC HKC HYC HCC HVC HGC
      go_wp2_with fail
      refine (mark1_any v6 vs r2 _ HVD.out.t1 hvl (by omega) (by omega)).mono ?_
      rintro e wE ⟨rfl, hoE, htE, hwE⟩
      have hsE : wD.heap.size ≤ wE.heap.size := Nat.le_of_eq hoE.size.symm
      have HBE := Lib.hid (HBD.out.trans (hoE.below (by omega)))
      have HKE := Lib.hid (HKD.out.trans (hoE.below (by omega)))
      have HGE := Lib.hid (HGD.out.same (hoE.same (Or.inr (Nat.le_refl _))))
      clear hoE htE hwE HBD HKD HVD HGD
      go_wp2_with fail
      refine (eq1_true u7 u0 o0 _ (HGE.out.l1.lower (Nat.zero_le _)) (HL4.out.below HKE.out) hol).mono ?_
      rintro e wF ⟨rfl, hbF⟩
      have hsF : wE.heap.size ≤ wF.heap.size := hbF.size
      have HBF := Lib.hid (HBE.out.trans (hbF.mono (by omega)))
      have HKF := Lib.hid (HKE.out.trans (hbF.mono (by omega)))
      have HGF := Lib.hid (HGE.out.same (Same.of_below hbF (by omega)))
      clear hbF HBE HKE HGE
      go_wp2_with fail
      refine (mark1_any u7 o0 1 _ HGF.out.t1 hol (by omega) (by omega)).mono ?_
      rintro e wG ⟨rfl, hoG, htG, hwG⟩
      have hsG : wF.heap.size ≤ wG.heap.size := Nat.le_of_eq hoG.size.symm
      have HBG := Lib.hid (HBF.out.trans (hoG.below (by omega)))
      have HKG := Lib.hid (HKF.out.trans (hoG.below (by omega)))
      have HGG := Lib.hid hwG
      have HXG := Lib.hid (HNX.out _ HBG.out)
      clear hoG htG hwG HBF HKF HGF
      go_wp2_with fail
      refine (held1_any u7 o0.length 1 _ HGG.out.l1 hol (by omega) (by omega)).mono ?_
      rintro e w' ⟨rfl, rfl⟩
      have hsum : (((1 : Int) + (o0.length : Int)) != ((1 : Int) + (o0.length : Int))) = false := by simp
      have c0 := HXG.out.c0
      have c1 := HXG.out.c1
      have c2 := HXG.out.c2
      go_wp2_with fail
      refine (toComplex_any p dv mv ds ms _ HXG.out.cx hds HMS.out).mono ?_
      rintro e wH ⟨dvH, mvH, rfl, hcxH, hbH⟩
      have hsH : wG.heap.size ≤ wH.heap.size := hbH.size
      have HBH := Lib.hid (HBG.out.trans (hbH.mono (by omega)))
      have HKH := Lib.hid (HKG.out.trans (hbH.mono (by omega)))
      have HXH := Lib.hid (HNX.out _ HBH.out)
      have HGH := Lib.hid (HGG.out.same (Same.of_below hbH (by omega)))
      have HCH := Lib.hid hcxH.zero
      clear hbH hcxH HBG HKG HXG HGG c0 c1 c2
      go_wp2_with fail
      refine (to1_any _ vs _ (HV.out.below HXH.out.below) hvl).mono ?_
      rintro e wI ⟨vI, rfl, hlI, hbI⟩
      have hsI : wH.heap.size ≤ wI.heap.size := hbI.size
      have HBI := Lib.hid (HBH.out.trans (hbI.mono (by omega)))
      have HKI := Lib.hid (HKH.out.trans (hbI.mono (by omega)))
      have HGI := Lib.hid (HGH.out.same (Same.of_below hbI (by omega)))
      have HCI := Lib.hid (HCH.out.below hbI)
      have HLI := Lib.hid (hlI.lower (Nat.zero_le _))
      clear hbI hlI HBH HKH HXH HGH HCH
      go_wp2_with fail
      refine (difImpl_any p n _ _ vI ds ms vs _ HCI.out HLI.out hds HMS.out hvl).mono ?_
      rintro e wJ ⟨uJ, oJ, kJ, rfl, hwJ, hbJ, houtJ⟩
      obtain ⟨rfl, rfl⟩ := DifOut.unique HO0.out houtJ
      have hsJ : wI.heap.size ≤ wJ.heap.size := hbJ.size
      have HBJ := Lib.hid (HBI.out.trans (hbJ.mono (by omega)))
      have HKJ := Lib.hid (HKI.out.trans (hbJ.mono (by omega)))
      have HGJ := Lib.hid (HGI.out.same (Same.of_below hbJ (by omega)))
      have HJJ := Lib.hid (hwJ.l1.lower (Nat.zero_le _))
      clear hbJ hwJ houtJ HBI HKI HGI HCI HLI
      go_wp2_with fail
      refine (eq1_true uJ u0 o0 _ HJJ.out (HL4.out.below HKJ.out) hol).mono ?_
      rintro e wK ⟨rfl, hbK⟩
      have HBK := Lib.hid (HBJ.out.trans (hbK.mono (by omega)))
      have HGK := Lib.hid (HGJ.out.same (Same.of_below hbK (by omega)))
      clear hbK HBJ HKJ HGJ HJJ
      go_wp2_with fail
      refine (held1_any u7 o0.length 1 _ HGK.out.l1 hol (by omega) (by omega)).mono ?_
      rintro e w' ⟨rfl, rfl⟩
      go_wp2
      go_ret
      exact ⟨rfl, (HNX.out _ HBK.out).below⟩
  · subst hva
    go_enter Try.func6, Try.ntmps6
    go_wp2
    go_ret
    exact ⟨rfl, by rw [← hW0]; exact HX0.out.below⟩
end Go.Proofs.Ytidddjdddfokoaa
