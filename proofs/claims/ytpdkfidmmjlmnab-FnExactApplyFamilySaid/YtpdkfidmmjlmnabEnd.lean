/-
  impl.dimAt; complexes between which families lead: impl.checkPrimes on two complexes, spec.l04Two, spec.l06Two, by their contracts.
-/
import Derived.Test.YtpdkfidmmjlmnabQc
import Derived.Test.YtpdkfidmmjlmnabQf
import Derived.Deep.QuietTactic
import Derived.BigQuiet
namespace Go.Proofs.Ytpdkfidmmjlmnab
open Go.RowKit

set_option maxHeartbeats 800000 in
theorem dimAt_any (p n : Int) (dv mv : Value) (ds : List Int) (ms : List (List (List Int))) (w : World) (h : Cx 0 w dv mv ds ms) (hd : ds.length ≤ 1048576) :
    Calls Try.prog 181 #[.agg #[.int .i64 p, dv, mv], .int .i64 n] w (BR (.int .i64 (dimZ ds n)) w) := by
  have HX0 := Lib.hid (Bx.start (p := p) 31 h)
  obtain ⟨ad, cap, hdv⟩ := Sl.shape h.dims
  clear h
  by_cases hr : 0 ≤ n ∧ n ≤ (ds.length : Int) - 1
  · have hdz : dimZ ds n = ds.getD n.toNat 0 := if_pos hr
    rw [hdz]
    clear hdz
    obtain ⟨q, rfl⟩ : ∃ q : Nat, n = (q : Int) := ⟨n.toNat, by omega⟩
    have hq : q < ds.length := by omega
    have HR := Lib.hid hr
    clear hr
    refine Sl.cases HX0.out.cx.dims (fun _ _ hx _ => absurd hq (by simp [hx])) (fun bd od capd hv _ hposd hcld => ?_)
    obtain ⟨u, hu, hru⟩ := hcld q hq
    subst hv
    injection hdv with e1 e2 e3
    clear e2
    subst e1 e3
    obtain ⟨x, hx⟩ : ∃ x, x = ds[q] := ⟨_, rfl⟩
    rw [hru, ← hx] at hu
    have HX : Hid (ds.getD (q : Int).toNat 0 = x) := Lib.hid (by rw [hx, Int.toNat_natCast, getD_of_lt _ hq])
    have HTOP := fun W => topOf_any p (.slice (some ⟨bd, od, none⟩) ds.length capd) mv ds.length (some ⟨bd, od, none⟩) capd W rfl hd
    have c0 := HX0.out.c0
    have c1 := HX0.out.c1
    have c2 := HX0.out.c2
    clear hx hru hcld hposd
    go_enter Try.func181, Try.ntmps181
    go_wp2_with fail
    refine (HTOP _).mono ?_
    rintro e w1 ⟨rfl, hb1⟩
    have HX1 := Lib.hid (HX0.out.next hb1)
    have hu1 := later hb1 (Nat.le_refl _) hu
    clear hb1 c0 c1 c2 hu HX0
    have c1 := HX1.out.c1
    go_wp2_with fail
    refine (in_yes HR.out _).mono ?_
    rintro e w' ⟨rfl, rfl⟩
    go_wp2
    go_ret
    exact ⟨ret_int HX.out.symm, HX1.out.below⟩
  · have hdz : dimZ ds n = 0 := if_neg hr
    rw [hdz]
    clear hdz
    subst hdv
    have HR := Lib.hid hr
    have HTOP := fun W => topOf_any p (.slice ad ds.length cap) mv ds.length ad cap W rfl hd
    have c0 := HX0.out.c0
    have c1 := HX0.out.c1
    have c2 := HX0.out.c2
    clear hr
    go_enter Try.func181, Try.ntmps181
    go_wp2_with fail
    refine (HTOP _).mono ?_
    rintro e w1 ⟨rfl, hb1⟩
    have HX1 := Lib.hid (HX0.out.next hb1)
    clear hb1 c0 c1 c2 HX0
    go_wp2_with fail
    refine (in_no HR.out _).mono ?_
    rintro e w' ⟨rfl, rfl⟩
    go_wp2
    go_ret
    exact ⟨rfl, HX1.out.below⟩

theorem dimZ_b {p : Int} {ds : List Int} {ms : List (List (List Int))} (h : IsCx p ds ms) (n : Int) : 0 ≤ dimZ ds n ∧ dimZ ds n ≤ 8 := by
  unfold dimZ
  by_cases hr : 0 ≤ n ∧ n ≤ (ds.length : Int) - 1
  · rw [if_pos hr]
    exact h.1.dim _
  · rw [if_neg hr]
    omega
open Classical in
/-- The code of two complexes. -/
noncomputable def endCode (p p2 : Int) (ds : List Int) (ms : List (List (List Int))) (ds2 : List Int) (ms2 : List (List (List Int))) : Int :=
  if ¬ (IsCx p ds ms ∧ IsCx p2 ds2 ms2) then 1 else if p = p2 ∧ ds.length = ds2.length then 0 else 2
structure EndOk (p p2 : Int) (ds : List Int) (ms : List (List (List Int))) (ds2 : List Int) (ms2 : List (List (List Int))) : Prop where
  x : IsCx p ds ms
  y : IsCx p2 ds2 ms2
  prime : p = p2
  len : ds.length = ds2.length
theorem endCode_zero {p p2 : Int} {ds : List Int} {ms : List (List (List Int))} {ds2 : List Int} {ms2 : List (List (List Int))} (h : endCode p p2 ds ms ds2 ms2 = 0) : EndOk p p2 ds ms ds2 ms2 := by
  unfold endCode at h
  by_cases h1 : IsCx p ds ms ∧ IsCx p2 ds2 ms2
  · rw [if_neg (fun k => k h1)] at h
    by_cases h2 : p = p2 ∧ ds.length = ds2.length
    · exact ⟨h1.1, h1.2, h2.1, h2.2⟩
    · rw [if_neg h2] at h
      cases h
  · rw [if_pos h1] at h
    cases h
theorem EndOk.code {p p2 : Int} {ds : List Int} {ms : List (List (List Int))} {ds2 : List Int} {ms2 : List (List (List Int))} (h : EndOk p p2 ds ms ds2 ms2) : endCode p p2 ds ms ds2 ms2 = 0 := by
  unfold endCode
  rw [if_neg (fun k => k ⟨h.x, h.y⟩), if_pos ⟨h.prime, h.len⟩]
theorem endCode_le {p p2 : Int} {ds : List Int} {ms : List (List (List Int))} {ds2 : List Int} {ms2 : List (List (List Int))} : endCode p p2 ds ms ds2 ms2 = 0 ∨ endCode p p2 ds ms ds2 ms2 = 1 ∨ endCode p p2 ds ms ds2 ms2 = 2 := by
  unfold endCode
  by_cases h1 : IsCx p ds ms ∧ IsCx p2 ds2 ms2
  · rw [if_neg (fun k => k h1)]
    by_cases h2 : p = p2 ∧ ds.length = ds2.length
    · rw [if_pos h2]; exact Or.inl rfl
    · rw [if_neg h2]; exact Or.inr (Or.inr rfl)
  · rw [if_pos h1]; exact Or.inr (Or.inl rfl)
theorem bb_no {P : Prop} {b : Bool} (h : b = true ↔ P) (hp : ¬ P) : b = false := by
  cases b with
  | false => rfl
  | true => exact absurd (h.1 rfl) hp

/-- Two boxes of two complexes. -/
theorem bx_two {w : World} {p p2 : Int} {dv mv dv2 mv2 : Value} {ds : List Int} {ms : List (List (List Int))} {ds2 : List Int} {ms2 : List (List (List Int))} (t : TypeId) (h : Cx 0 w dv mv ds ms) (h2 : Cx 0 w dv2 mv2 ds2 ms2) :
    Bx w ((w.alloc (.cells #[.int .i64 p, dv, mv] t)).alloc (.cells #[.int .i64 p2, dv2, mv2] t)) w.heap.size p dv mv ds ms ∧ Bx w ((w.alloc (.cells #[.int .i64 p, dv, mv] t)).alloc (.cells #[.int .i64 p2, dv2, mv2] t)) (w.heap.size + 1) p2 dv2 mv2 ds2 ms2 := by
  have b1 : Below w.heap.size w (w.alloc (.cells #[.int .i64 p, dv, mv] t)) := below_alloc1 _ _
  refine ⟨(Bx.start t h).next (below_alloc1 _ _), ?_⟩
  have := Bx.start (p := p2) t (h2.below b1)
  have hs : (w.alloc (.cells #[.int .i64 p, dv, mv] t)).heap.size = w.heap.size + 1 := by simp
  rw [hs] at this
  exact ⟨b1.trans (this.below.mono (by omega)), this.c0, this.c1, this.c2, this.lt, this.cx⟩

set_option maxHeartbeats 1600000 in
set_option maxRecDepth 100000 in
theorem l04Two_any (p p2 : Int) (dv mv dv2 mv2 : Value) (ds : List Int) (ms : List (List (List Int))) (ds2 : List Int) (ms2 : List (List (List Int))) (w : World) (h : Cx 0 w dv mv ds ms) (h2 : Cx 0 w dv2 mv2 ds2 ms2) (hd : ds.length ≤ 1048576) (hm : Bd3 1048576 ms) (hd2 : ds2.length ≤ 1048576) (hm2 : Bd3 1048576 ms2) :
    Calls Try.prog 123 #[.agg #[.int .i64 p, dv, mv], .agg #[.int .i64 p2, dv2, mv2]] w (BR (.int .i64 (endCode p p2 ds ms ds2 ms2)) w) := by
  obtain ⟨ad, cap, rfl⟩ := Sl.shape h.dims
  obtain ⟨am, capm, rfl⟩ := Sl.shape h.maps
  obtain ⟨ad2, cap2, rfl⟩ := Sl.shape h2.dims
  obtain ⟨am2, capm2, rfl⟩ := Sl.shape h2.maps
  obtain ⟨k1, k2⟩ := bx_two (p := p) (p2 := p2) 31 h h2
  have HX0 := Lib.hid k1
  have HY0 := Lib.hid k2
  have HM := Lib.hid hm
  have HM2 := Lib.hid hm2
  have c0 := k1.c0
  have c1 := k1.c1
  have c2 := k1.c2
  have d0 := k2.c0
  have d1 := k2.c1
  have d2 := k2.c2
  clear h h2 hm hm2 k1 k2
  by_cases hx : IsCx p ds ms
  · have HC := Lib.hid hx
    clear hx
    go_enter Try.func123, Try.ntmps123
    go_wp2_with fail
    refine (l01Is_any p _ _ ds ms _ HX0.out.cx hd HM.out).mono ?_
    rintro e w1 ⟨bb, rfl, hb1, hbb⟩
    obtain rfl : bb = true := hbb.2 HC.out
    have HX1 := Lib.hid (HX0.out.next hb1)
    have HY1 := Lib.hid (HY0.out.next hb1)
    clear hb1 hbb c0 c1 c2 d0 d1 d2 HX0 HY0
    have d0 := HY1.out.c0
    have d1 := HY1.out.c1
    have d2 := HY1.out.c2
    by_cases hy : IsCx p2 ds2 ms2
    · have HC2 := Lib.hid hy
      clear hy
      go_wp2_with fail
      refine (l01Is_any p2 _ _ ds2 ms2 _ HY1.out.cx hd2 HM2.out).mono ?_
      rintro e w2 ⟨bb, rfl, hb2, hbb⟩
      obtain rfl : bb = true := hbb.2 HC2.out
      have HX2 := Lib.hid (HX1.out.next hb2)
      have HY2 := Lib.hid (HY1.out.next hb2)
      clear hb2 hbb d0 d1 d2 HX1 HY1
      have c0 := HX2.out.c0
      have c1 := HX2.out.c1
      have d0 := HY2.out.c0
      have d1 := HY2.out.c1
      by_cases hpp : p = p2
      · have HP := Lib.hid hpp
        have hp1 : (p != p2) = false := by simp [hpp]
        clear hpp
        by_cases hll : ds.length = ds2.length
        · have HL := Lib.hid hll
          have hl1 : (((ds.length : Nat) : Int) != ((ds2.length : Nat) : Int)) = false := by simp [hll]
          clear hll
          go_wp2
          go_ret
          exact ⟨ret_int (EndOk.code ⟨HC.out, HC2.out, HP.out, HL.out⟩).symm, HX2.out.below⟩
        · have HL := Lib.hid hll
          have hl1 : (((ds.length : Nat) : Int) != ((ds2.length : Nat) : Int)) = true := by
            have : ¬ ((ds.length : Int) = (ds2.length : Int)) := by omega
            simpa using this
          clear hll
          go_wp2
          go_ret
          refine ⟨ret_int ?_, HX2.out.below⟩
          unfold endCode
          rw [if_neg (fun k => k ⟨HC.out, HC2.out⟩), if_neg (fun k => HL.out k.2)]
      · have HP := Lib.hid hpp
        have hp1 : (p != p2) = true := by simp [hpp]
        clear hpp
        go_wp2
        go_ret
        refine ⟨ret_int ?_, HX2.out.below⟩
        unfold endCode
        rw [if_neg (fun k => k ⟨HC.out, HC2.out⟩), if_neg (fun k => HP.out k.1)]
    · have HC2 := Lib.hid hy
      clear hy
      go_wp2_with fail
      refine (l01Is_any p2 _ _ ds2 ms2 _ HY1.out.cx hd2 HM2.out).mono ?_
      rintro e w2 ⟨bb, rfl, hb2, hbb⟩
      obtain rfl : bb = false := bb_no hbb HC2.out
      have HX2 := Lib.hid (HX1.out.next hb2)
      clear hb2 hbb d0 d1 d2 HX1 HY1
      go_wp2
      go_ret
      refine ⟨ret_int ?_, HX2.out.below⟩
      unfold endCode
      rw [if_pos (fun k => HC2.out k.2)]
  · have HC := Lib.hid hx
    clear hx
    go_enter Try.func123, Try.ntmps123
    go_wp2_with fail
    refine (l01Is_any p _ _ ds ms _ HX0.out.cx hd HM.out).mono ?_
    rintro e w1 ⟨bb, rfl, hb1, hbb⟩
    obtain rfl : bb = false := bb_no hbb HC.out
    have HX1 := Lib.hid (HX0.out.next hb1)
    clear hb1 hbb c0 c1 c2 d0 d1 d2 HX0 HY0
    go_wp2
    go_ret
    refine ⟨ret_int ?_, HX1.out.below⟩
    unfold endCode
    rw [if_pos (fun k => HC.out k.1)]

/-- The cells of two complexes in a row. -/
structure Row2 (w : World) (b : Nat) (p p2 : Int) (dv mv dv2 mv2 : Value) : Prop where
  c0 : w.cell? ⟨b, 0, none⟩ = some (.int .i64 p)
  c1 : w.cell? ⟨b, 1, none⟩ = some dv
  c2 : w.cell? ⟨b, 2, none⟩ = some mv
  d0 : w.cell? ⟨b, 3, none⟩ = some (.int .i64 p2)
  d1 : w.cell? ⟨b, 4, none⟩ = some dv2
  d2 : w.cell? ⟨b, 5, none⟩ = some mv2
theorem Row2.next {w w' : World} {b : Nat} {p p2 : Int} {dv mv dv2 mv2 : Value} (h : Row2 w b p p2 dv mv dv2 mv2) (hb : Below w.heap.size w w') : Row2 w' b p p2 dv mv dv2 mv2 :=
  ⟨later hb (Nat.le_refl _) h.c0, later hb (Nat.le_refl _) h.c1, later hb (Nat.le_refl _) h.c2, later hb (Nat.le_refl _) h.d0, later hb (Nat.le_refl _) h.d1, later hb (Nat.le_refl _) h.d2⟩

open Classical in
/-- The code of two complexes with the same prime. -/
noncomputable def prCode (p p2 : Int) (ds : List Int) (ms : List (List (List Int))) (ds2 : List Int) (ms2 : List (List (List Int))) : Int :=
  if ¬ (IsCx p ds ms ∧ IsCx p2 ds2 ms2) then 1 else if p = p2 then 0 else 2
structure PrOk (p p2 : Int) (ds : List Int) (ms : List (List (List Int))) (ds2 : List Int) (ms2 : List (List (List Int))) : Prop where
  x : IsCx p ds ms
  y : IsCx p2 ds2 ms2
  prime : p = p2
theorem prCode_zero {p p2 : Int} {ds : List Int} {ms : List (List (List Int))} {ds2 : List Int} {ms2 : List (List (List Int))} (h : prCode p p2 ds ms ds2 ms2 = 0) : PrOk p p2 ds ms ds2 ms2 := by
  unfold prCode at h
  by_cases h1 : IsCx p ds ms ∧ IsCx p2 ds2 ms2
  · rw [if_neg (fun k => k h1)] at h
    by_cases h2 : p = p2
    · exact ⟨h1.1, h1.2, h2⟩
    · rw [if_neg h2] at h
      cases h
  · rw [if_pos h1] at h
    cases h
theorem PrOk.code {p p2 : Int} {ds : List Int} {ms : List (List (List Int))} {ds2 : List Int} {ms2 : List (List (List Int))} (h : PrOk p p2 ds ms ds2 ms2) : prCode p p2 ds ms ds2 ms2 = 0 := by
  unfold prCode
  rw [if_neg (fun k => k ⟨h.x, h.y⟩), if_pos h.prime]
theorem prCode_le {p p2 : Int} {ds : List Int} {ms : List (List (List Int))} {ds2 : List Int} {ms2 : List (List (List Int))} : prCode p p2 ds ms ds2 ms2 = 0 ∨ prCode p p2 ds ms ds2 ms2 = 1 ∨ prCode p p2 ds ms ds2 ms2 = 2 := by
  unfold prCode
  by_cases h1 : IsCx p ds ms ∧ IsCx p2 ds2 ms2
  · rw [if_neg (fun k => k h1)]
    by_cases h2 : p = p2
    · rw [if_pos h2]; exact Or.inl rfl
    · rw [if_neg h2]; exact Or.inr (Or.inr rfl)
  · rw [if_pos h1]; exact Or.inr (Or.inl rfl)

set_option maxHeartbeats 3200000 in
set_option maxRecDepth 100000 in
theorem checkPrimes2_any (p p2 : Int) (b : Nat) (dv mv dv2 mv2 : Value) (ds : List Int) (ms : List (List (List Int))) (ds2 : List Int) (ms2 : List (List (List Int))) (w : World) (hr : Row2 w b p p2 dv mv dv2 mv2) (h : Cx 0 w dv mv ds ms) (h2 : Cx 0 w dv2 mv2 ds2 ms2) (hd : ds.length ≤ 1048576) (hm : Bd3 1048576 ms) (hd2 : ds2.length ≤ 1048576) (hm2 : Bd3 1048576 ms2) :
    Calls Try.prog 182 #[.slice (some ⟨b, 0, none⟩) 2 2] w (BR (.int .i64 (prCode p p2 ds ms ds2 ms2)) w) := by
  obtain ⟨ad, cap, rfl⟩ := Sl.shape h.dims
  obtain ⟨am, capm, rfl⟩ := Sl.shape h.maps
  obtain ⟨ad2, cap2, rfl⟩ := Sl.shape h2.dims
  obtain ⟨am2, capm2, rfl⟩ := Sl.shape h2.maps
  have HROW := Lib.hid hr
  have H1 := Lib.hid h
  have H2 := Lib.hid h2
  have HM := Lib.hid hm
  have HM2 := Lib.hid hm2
  have c0 := hr.c0
  have c1 := hr.c1
  have c2 := hr.c2
  have d0 := hr.d0
  have d1 := hr.d1
  have d2 := hr.d2
  clear h h2 hm hm2 hr
  by_cases hx : IsCx p ds ms
  · have HC := Lib.hid hx
    clear hx
    go_enter Try.func182, Try.ntmps182
    go_wp2
    refine wp_loop_rounds 3 ?_
    rw [rounds_succ]
    go_wp2_with fail
    refine (isComplex_any p _ _ ds ms _ (H1.out.below (below_alloc1 _ _)) hd HM.out).mono ?_
    rintro e w1 ⟨bb, rfl, hb1, hbb⟩
    obtain rfl : bb = true := hbb.2 HC.out
    have HB1 : Hid (Below w.heap.size w w1) := Lib.hid ((below_alloc1 _ _).trans (hb1.mono (by simp)))
    have HR1 := Lib.hid (HROW.out.next HB1.out)
    clear hb1 hbb c0 c1 c2 d0 d1 d2
    have d0 := HR1.out.d0
    have d1 := HR1.out.d1
    have d2 := HR1.out.d2
    by_cases hy : IsCx p2 ds2 ms2
    · have HC2 := Lib.hid hy
      clear hy
      go_wp2
      rw [rounds_succ]
      go_wp2_with fail
      refine (isComplex_any p2 _ _ ds2 ms2 _ ((H2.out.below HB1.out).below (below_alloc1 _ _)) hd2 HM2.out).mono ?_
      rintro e w2 ⟨bb, rfl, hb2, hbb⟩
      obtain rfl : bb = true := hbb.2 HC2.out
      have HB2 : Hid (Below w.heap.size w w2) := Lib.hid (HB1.out.trans (((below_alloc1 w1 _).trans (hb2.mono (by simp))).mono HB1.out.size))
      have HR2 := Lib.hid (HROW.out.next HB2.out)
      have hs2 : w.heap.size ≤ w2.heap.size := HB2.out.size
      have hbl : b < w.heap.size := cell_lt HROW.out.c0
      have hbn : b ≠ w2.heap.size := by omega
      clear hb2 hbb d0 d1 d2 HR1
      have c0 := HR2.out.c0
      have c1 := HR2.out.c1
      have c2 := HR2.out.c2
      have d0 := HR2.out.d0
      have d1 := HR2.out.d1
      have d2 := HR2.out.d2
      have hp0 : (p != p) = false := by simp
      go_wp2
      rw [rounds_succ]
      go_wp2
      refine wp_loop_rounds 3 ?_
      rw [rounds_succ]
      go_wp2
      obtain ⟨w3, hw3⟩ : ∃ w3, w3 = w2.alloc (.cells #[.int .i64 p, .slice ad ds.length cap, .slice am ms.length capm] 31) := ⟨_, rfl⟩
      have hb3 : Below w2.heap.size w2 w3 := by rw [hw3]; exact below_alloc1 _ _
      have e0 : w3.cell? ⟨w2.heap.size, 0, none⟩ = some (.int .i64 p) := by rw [hw3]; simp
      have HR3 := Lib.hid (HR2.out.next hb3)
      have HB3 := Lib.hid (HB2.out.trans (hb3.mono hs2))
      rw [← hw3]
      clear hw3 hb3 c0 c1 c2 d0 d1 d2 hbn hbl
      have c0 := HR3.out.c0
      go_quiet (fail)
      go_wp2
      rw [rounds_succ]
      have HB4 := Lib.hid (HB3.out.trans ((drewN_below w3 nq).mono HB3.out.size))
      have HR4 := Lib.hid (HR3.out.next (drewN_below w3 nq))
      generalize w3.drewN nq = w4 at *
      clear c0 e0 hs2 HR3 HB3
      have d0 := HR4.out.d0
      have d1 := HR4.out.d1
      have d2 := HR4.out.d2
      obtain ⟨w5, hw5⟩ : ∃ w5, w5 = w4.alloc (.cells #[.int .i64 p2, .slice ad2 ds2.length cap2, .slice am2 ms2.length capm2] 31) := ⟨_, rfl⟩
      have hb5 : Below w4.heap.size w4 w5 := by rw [hw5]; exact below_alloc1 _ _
      have e0 : w5.cell? ⟨w4.heap.size, 0, none⟩ = some (.int .i64 p2) := by rw [hw5]; simp
      have HR5 := Lib.hid (HR4.out.next hb5)
      have HB5 := Lib.hid (HB4.out.trans (hb5.mono HB4.out.size))
      clear hb5
      go_wp2
      rw [← hw5]
      clear hw5 d0 d1 d2
      have c0 := HR5.out.c0
      by_cases hpp : p = p2
      · have HP := Lib.hid hpp
        have hp1 : (p2 != p) = false := by simp [hpp]
        clear hpp
        go_quiet (fail)
        go_wp2
        rw [rounds_succ]
        go_wp2
        go_ret
        refine ⟨ret_int (PrOk.code ⟨HC.out, HC2.out, HP.out⟩).symm, ?_⟩
        exact HB5.out.trans ((drewN_below w5 nq).mono HB5.out.size)
      · have HP := Lib.hid hpp
        have hp1 : (p2 != p) = true := by
          have : ¬ (p2 = p) := fun e => hpp e.symm
          simpa using this
        clear hpp
        go_quiet (fail)
        go_wp2
        go_ret
        refine ⟨ret_int ?_, ?_⟩
        · unfold prCode
          rw [if_neg (fun k => k ⟨HC.out, HC2.out⟩), if_neg (fun k => HP.out k)]
        · exact HB5.out.trans ((drewN_below w5 nq).mono HB5.out.size)
    · have HC2 := Lib.hid hy
      clear hy
      go_wp2
      rw [rounds_succ]
      go_wp2_with fail
      refine (isComplex_any p2 _ _ ds2 ms2 _ ((H2.out.below HB1.out).below (below_alloc1 _ _)) hd2 HM2.out).mono ?_
      rintro e w2 ⟨bb, rfl, hb2, hbb⟩
      obtain rfl : bb = false := bb_no hbb HC2.out
      have HB2 : Hid (Below w.heap.size w w2) := Lib.hid (HB1.out.trans (((below_alloc1 w1 _).trans (hb2.mono (by simp))).mono HB1.out.size))
      clear hb2 hbb d0 d1 d2 HR1
      go_wp2
      go_ret
      refine ⟨ret_int ?_, HB2.out⟩
      unfold prCode
      rw [if_pos (fun k => HC2.out k.2)]
  · have HC := Lib.hid hx
    clear hx
    go_enter Try.func182, Try.ntmps182
    go_wp2
    refine wp_loop_rounds 3 ?_
    rw [rounds_succ]
    go_wp2_with fail
    refine (isComplex_any p _ _ ds ms _ (H1.out.below (below_alloc1 _ _)) hd HM.out).mono ?_
    rintro e w1 ⟨bb, rfl, hb1, hbb⟩
    obtain rfl : bb = false := bb_no hbb HC.out
    have HB1 : Hid (Below w.heap.size w w1) := Lib.hid ((below_alloc1 _ _).trans (hb1.mono (by simp)))
    clear hb1 hbb c0 c1 c2 d0 d1 d2
    go_wp2
    go_ret
    refine ⟨ret_int ?_, HB1.out⟩
    unfold prCode
    rw [if_pos (fun k => HC.out k.1)]

/-- The cells of a box of a complex, whatever stood there when it was made. -/
structure Bq (wr : World) (b : Nat) (p : Int) (dv mv : Value) (ds : List Int) (ms : List (List (List Int))) : Prop where
  c0 : wr.cell? ⟨b, 0, none⟩ = some (.int .i64 p)
  c1 : wr.cell? ⟨b, 1, none⟩ = some dv
  c2 : wr.cell? ⟨b, 2, none⟩ = some mv
  lt : b < wr.heap.size
  cx : Cx 0 wr dv mv ds ms
theorem Bx.bq {w wr : World} {b : Nat} {p : Int} {dv mv : Value} {ds : List Int} {ms : List (List (List Int))} (h : Bx w wr b p dv mv ds ms) : Bq wr b p dv mv ds ms := ⟨h.c0, h.c1, h.c2, h.lt, h.cx⟩
theorem Bq.next {wr w' : World} {b : Nat} {p : Int} {dv mv : Value} {ds : List Int} {ms : List (List (List Int))} (h : Bq wr b p dv mv ds ms) (hb : Below wr.heap.size wr w') : Bq w' b p dv mv ds ms :=
  ⟨later hb (Nat.le_refl _) h.c0, later hb (Nat.le_refl _) h.c1, later hb (Nat.le_refl _) h.c2, Nat.lt_of_lt_of_le h.lt hb.size, h.cx.below hb⟩
theorem Bq.only {wr w' : World} {b lo hi : Nat} {p : Int} {dv mv : Value} {ds : List Int} {ms : List (List (List Int))} (h : Bq wr b p dv mv ds ms) (ho : Only lo hi wr w') (hc : Cx 0 w' dv mv ds ms) (hb : b < lo ∨ hi ≤ b) : Bq w' b p dv mv ds ms :=
  ⟨(ho.cell hb).trans h.c0, (ho.cell hb).trans h.c1, (ho.cell hb).trans h.c2, by have := ho.size; have := h.lt; omega, hc⟩
theorem bx_three {w : World} {p p2 p3 : Int} {dv mv dv2 mv2 dv3 mv3 : Value} {ds : List Int} {ms : List (List (List Int))} {ds2 : List Int} {ms2 : List (List (List Int))} {ds3 : List Int} {ms3 : List (List (List Int))} (t : TypeId) (h : Cx 0 w dv mv ds ms) (h2 : Cx 0 w dv2 mv2 ds2 ms2) (h3 : Cx 0 w dv3 mv3 ds3 ms3) :
    Bx w (((w.alloc (.cells #[.int .i64 p, dv, mv] t)).alloc (.cells #[.int .i64 p2, dv2, mv2] t)).alloc (.cells #[.int .i64 p3, dv3, mv3] t)) w.heap.size p dv mv ds ms ∧
    Bx w (((w.alloc (.cells #[.int .i64 p, dv, mv] t)).alloc (.cells #[.int .i64 p2, dv2, mv2] t)).alloc (.cells #[.int .i64 p3, dv3, mv3] t)) (w.heap.size + 1) p2 dv2 mv2 ds2 ms2 ∧
    Bx w (((w.alloc (.cells #[.int .i64 p, dv, mv] t)).alloc (.cells #[.int .i64 p2, dv2, mv2] t)).alloc (.cells #[.int .i64 p3, dv3, mv3] t)) (w.heap.size + 2) p3 dv3 mv3 ds3 ms3 := by
  obtain ⟨a, b⟩ := bx_two (p := p) (p2 := p2) t h h2
  have b1 : Below w.heap.size w ((w.alloc (.cells #[.int .i64 p, dv, mv] t)).alloc (.cells #[.int .i64 p2, dv2, mv2] t)) := b.below
  refine ⟨a.next (below_alloc1 _ _), b.next (below_alloc1 _ _), ?_⟩
  have := Bx.start (p := p3) t (h3.below b1)
  have hs : ((w.alloc (.cells #[.int .i64 p, dv, mv] t)).alloc (.cells #[.int .i64 p2, dv2, mv2] t)).heap.size = w.heap.size + 2 := by simp
  rw [hs] at this
  exact ⟨b1.trans (this.below.mono (by omega)), this.c0, this.c1, this.c2, this.lt, this.cx⟩
end Go.Proofs.Ytpdkfidmmjlmnab
