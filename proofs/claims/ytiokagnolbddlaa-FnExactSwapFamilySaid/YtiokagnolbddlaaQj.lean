/-
  slices.Max, exceedsLimits and tensorExceeds by contract.
  impl.unitElement by contract.
  The image of a pair under the swap, by contract.
  A table by the images of pairs, by contract.
  A family by the images of pairs, by contract.
  impl.SwapFamily by contract.
  The swap in plain mathematics: the pairs of a degree in their order, and the sums of dimensions.
  spec.SwapFamily by contract.
-/
import Derived.Test.YtiokagnolbddlaaTdm
import Derived.Test.YtiokagnolbddlaaAdp
import Derived.Test.YtiokagnolbddlaaSca
import Derived.Test.YtiokagnolbddlaaPlq
import Derived.Test.YtiokagnolbddlaaTb
import Derived.Test.YtiokagnolbddlaaFmt
import Derived.Test.YtiokagnolbddlaaQk
namespace Go.Proofs.Ytiokagnolbddlaa
open Go.RowKit

def MaxR (xs : List Int) (w : World) (e : Ending) (w' : World) : Prop := ∃ m : Int, e = .returned (.int .i64 m) ∧ Below w.heap.size w w' ∧ ∀ B : Int, B < m ↔ ∃ j, j < xs.length ∧ B < xs.getD j 0
theorem max_step {xs : List Int} {k : Nat} {m : Int} (h : ∀ B : Int, B < m ↔ ∃ j, j < k ∧ B < xs.getD j 0) (B : Int) : B < max m (xs.getD k 0) ↔ ∃ j, j < k + 1 ∧ B < xs.getD j 0 := by
  constructor
  · intro hb
    by_cases hm : B < m
    · obtain ⟨j, hj, hx⟩ := (h B).1 hm
      exact ⟨j, by omega, hx⟩
    · exact ⟨k, by omega, by omega⟩
  · rintro ⟨j, hj, hx⟩
    by_cases e : j = k
    · subst e
      omega
    · have := (h B).2 ⟨j, by omega, hx⟩
      omega

set_option maxHeartbeats 1600000 in
set_option maxRecDepth 100000 in
theorem slicesMax_any (vv : Value) (xs : List Int) (w : World) (hv : L1 0 w vv xs) (hne : 0 < xs.length) (hl : xs.length ≤ 1048576) : Calls Try.prog 170 #[vv] w (MaxR xs w) := by
  have HV := Lib.hid (fun W (h : Below w.heap.size w W) => hv.below h)
  refine Sl.cases hv (fun _ _ hx _ => absurd hne (by simp [hx])) (fun bd od cap hvd _ _ hcl => ?_)
  subst hvd
  have HC : Hid (∀ W, Below w.heap.size w W → ∀ j (h : j < xs.length), W.cell? ⟨bd, od + j, none⟩ = some (.int .i64 (xs.getD j 0))) := Lib.hid (fun W hb j hj => by
    refine Sl.cases (HV.out W hb) (fun _ _ hx _ => absurd hne (by simp [hx])) (fun b2 o2 c2 hv2 _ _ hc2 => ?_)
    injection hv2 with k1 _ _
    injection k1 with k1
    injection k1 with k1 k2 _
    subst k1 k2
    obtain ⟨u, hu, hru⟩ := hc2 j hj
    rw [hu, hru, getD_of_lt _ hj])
  have c0 := HC.out w (Below.refl _ _) 0 hne
  rw [Nat.add_zero] at c0
  have hne2 : ¬ (xs.length : Int) < 1 := by omega
  have hne3 : (0 : Int) < (xs.length : Int) := by omega
  have HST : Hid (∀ B : Int, B < xs.getD 0 0 ↔ ∃ j, j < 1 ∧ B < xs.getD j 0) := Lib.hid (fun B => ⟨fun h => ⟨0, by omega, h⟩, fun ⟨j, hj, h⟩ => by rwa [show j = 0 by omega] at h⟩)
  obtain ⟨x0, hx0⟩ : ∃ x, x = xs.getD 0 0 := ⟨_, rfl⟩
  rw [← hx0] at c0
  have HX0 := Lib.hid hx0
  clear hx0
  clear hv hcl HV
  go_enter Try.func170, Try.ntmps170
  go_wp2
  clear c0
  go_loopw [3, 4] (fun s i wr => ∃ (k : Nat) (m : Int), k ≤ xs.length ∧ i = .int .i64 (k : Int) ∧ s = .int .i64 m ∧ Hid (Below w.heap.size w wr) ∧ Hid (∀ B : Int, B < m ↔ ∃ j, j < k ∧ B < xs.getD j 0)) (fun _ i _ => xs.length - (intOf i).toNat)
  case atStart => exact ⟨1, x0, hne, by go_num, rfl, Lib.hid (Below.refl _ _), by rw [HX0.out]; exact HST⟩
  case round =>
    clear HST
    obtain ⟨k, m, hk, rfl, rfl, HB, HM⟩ := hrel
    by_cases hlt : k < xs.length
    · have hki : (k : Int) < (xs.length : Int) := by omega
      have ck := HC.out _ HB.out k hlt
      obtain ⟨x, hx⟩ : ∃ x, x = xs.getD k 0 := ⟨_, rfl⟩
      rw [← hx] at ck
      have HN : Hid (∀ B : Int, B < max m x ↔ ∃ j, j < k + 1 ∧ B < xs.getD j 0) := Lib.hid (by rw [hx]; exact max_step HM.out)
      clear hx
      go_wp2
      go_roundw
      case rel => exact ⟨k + 1, max m x, by omega, by go_num, rfl, HB, HN⟩
      case measure => simp [intOf]; omega
    · have hki : ¬ (k : Int) < (xs.length : Int) := by omega
      have hke : k = xs.length := by omega
      go_wp2
      go_ret
      exact ⟨m, rfl, HB.out, by rw [← hke]; exact HM.out⟩

/-- Beyond the limits of a complex. -/
def Exc (ds : List Int) : Prop := 6 < ds.length ∨ ∃ j, j < ds.length ∧ 8 < ds.getD j 0

set_option maxHeartbeats 1600000 in
set_option maxRecDepth 100000 in
theorem exceedsLimits_any (p : Int) (dv mv : Value) (ds : List Int) (w : World) (h : L1 0 w dv ds) (hne : 0 < ds.length) (hl : ds.length ≤ 1048576) : Calls Try.prog 154 #[.agg #[.int .i64 p, dv, mv]] w (BB (Exc ds) w) := by
  obtain ⟨ad, cap, rfl⟩ := Sl.shape h
  obtain ⟨w1, hw1⟩ : ∃ w1, w1 = w.alloc (.cells #[.int .i64 p, .slice ad ds.length cap, mv] 38) := ⟨_, rfl⟩
  have hb1 : Below w.heap.size w w1 := by rw [hw1]; exact below_alloc1 _ _
  have c0 : w1.cell? ⟨w.heap.size, 0, none⟩ = some (.int .i64 p) := by rw [hw1]; simp
  have c1 : w1.cell? ⟨w.heap.size, 1, none⟩ = some (.slice ad ds.length cap) := by rw [hw1]; simp
  have c2 : w1.cell? ⟨w.heap.size, 2, none⟩ = some mv := by rw [hw1]; simp
  have HL := Lib.hid (h.below hb1)
  have HB1 := Lib.hid hb1
  have HC1 : Hid (∀ W, Below w1.heap.size w1 W → W.cell? ⟨w.heap.size, 1, none⟩ = some (.slice ad ds.length cap)) := Lib.hid (fun W h => later h (by rw [hw1]; simp) c1)
  clear h hb1
  go_enter Try.func154, Try.ntmps154
  go_upto_region 1 with fail
  rw [← hw1]
  clear hw1
  go_wp2_with fail
  refine (topOf_any p _ _ ds.length ad cap w1 rfl hl).mono ?_
  rintro ee w2 ⟨rfl, hb2⟩
  have HL2 := Lib.hid (HL.out.below hb2)
  have HB2 := Lib.hid (HB1.out.trans (hb2.mono HB1.out.size))
  have c1' := HC1.out w2 hb2
  clear c0 c1 c2
  by_cases h6 : 6 < ds.length
  · have hg : (5 : Int) < (ds.length : Int) - 1 := by omega
    clear hb2
    go_wp2
    go_ret
    exact bb_true HB2.out (Or.inl h6)
  · have hg : ¬ (5 : Int) < (ds.length : Int) - 1 := by omega
    clear hb2
    go_wp2_with fail
    refine (slicesMax_any _ ds w2 HL2.out hne hl).mono ?_
    rintro ee w3 ⟨m, rfl, hb3, hm⟩
    have HB3 := Lib.hid (HB2.out.trans (hb3.mono HB2.out.size))
    have HM := Lib.hid (hm 8)
    clear hb3 hm c1'
    by_cases h8 : 8 < m
    · have h8' := Lib.hid h8
      go_wp2
      go_ret
      exact bb_true HB3.out (Or.inr (HM.out.1 h8'.out))
    · have h8' := Lib.hid h8
      go_wp2
      go_ret
      refine ⟨decide ((5 : Int) < (ds.length : Int) - 1) || decide ((8 : Int) < m), rfl, HB3.out, ?_⟩
      have e1 : decide ((5 : Int) < (ds.length : Int) - 1) = false := decide_eq_false (by omega)
      have e2 : decide ((8 : Int) < m) = false := decide_eq_false (by omega)
      rw [e1, e2]
      refine ⟨fun hh => (by cases hh), ?_⟩
      rintro (hh | hh)
      · exact absurd hh (by omega)
      · exact absurd (HM.out.2 hh) (by omega)

set_option maxHeartbeats 1600000 in
set_option maxRecDepth 100000 in
theorem tensorExceeds_any (p p2 : Int) (dv mv dv2 mv2 : Value) (ds : List Int) (ms : List (List (List Int))) (ds2 : List Int) (ms2 : List (List (List Int))) (w : World) (h : Cx 0 w dv mv ds ms) (h2 : Cx 0 w dv2 mv2 ds2 ms2) (hc : IsCx p ds ms) (hc2 : IsCx p2 ds2 ms2) : Calls Try.prog 112 #[.agg #[.int .i64 p, dv, mv], .agg #[.int .i64 p2, dv2, mv2]] w (BB (Exc (tdD ds ds2)) w) := by
  obtain ⟨ad, cap, rfl⟩ := Sl.shape h.dims
  obtain ⟨am, capm, rfl⟩ := Sl.shape h.maps
  obtain ⟨ad2, cap2, rfl⟩ := Sl.shape h2.dims
  obtain ⟨am2, capm2, rfl⟩ := Sl.shape h2.maps
  obtain ⟨k1, k2⟩ := bx_two (p := p) (p2 := p2) 38 h h2
  have HX0 := Lib.hid k1
  have HY0 := Lib.hid k2
  have HC := Lib.hid hc
  have HC2 := Lib.hid hc2
  have hl6 := hc.1.len1
  have hl60 := hc.1.len0
  have hl70 := hc2.1.len0
  have hl7 := hc2.1.len1
  obtain ⟨w1, hw1⟩ : ∃ w1, w1 = ((w.alloc (.cells #[.int .i64 p, .slice ad ds.length cap, .slice am ms.length capm] 38)).alloc (.cells #[.int .i64 p2, .slice ad2 ds2.length cap2, .slice am2 ms2.length capm2] 38)) := ⟨_, rfl⟩
  rw [← hw1] at HX0 HY0
  have c0 := HX0.out.c0
  have c1 := HX0.out.c1
  have c2 := HX0.out.c2
  have d0 := HY0.out.c0
  have d1 := HY0.out.c1
  have d2 := HY0.out.c2
  clear h h2 k1 k2 hc hc2
  go_enter Try.func112, Try.ntmps112
  go_upto_region 1 with fail
  rw [← hw1]
  clear hw1
  go_wp2_with fail
  refine (tensorDims_any p p2 _ _ _ _ ds ms ds2 ms2 w1 HX0.out.cx HY0.out.cx HC.out HC2.out).mono ?_
  rintro ee w2 ⟨u, rfl, hrw, hb2⟩
  obtain ⟨au, cu, rfl⟩ := hrw.shape
  have HR := Lib.hid hrw.l
  have HB := Lib.hid (HX0.out.next hb2).below
  clear hrw hb2 c0 c1 c2 d0 d1 d2
  go_wp2_with fail
  refine (exceedsLimits_any 0 _ _ (tdD ds ds2) w2 HR.out (by rw [tdD_length]; unfold tdL; omega) (by rw [tdD_length]; unfold tdL; omega)).mono ?_
  rintro ee w3 ⟨b, rfl, hb3, hbb⟩
  have HB3 := Lib.hid (HB.out.trans (hb3.mono HB.out.size))
  have HBB := Lib.hid hbb
  clear hb3 hbb
  go_wp2
  go_ret
  exact ⟨b, rfl, HB3.out, HBB.out⟩
end Go.Proofs.Ytiokagnolbddlaa

namespace Go.Proofs.Ytiokagnolbddlaa
open Go.RowKit

/-- The basis vector a of the degree k, with n numbers in a row of its own. -/
def UelR (k a n : Nat) (w : World) (e : Ending) (w' : World) : Prop := ∃ g, e = .returned (.agg #[.int .i64 (k : Int), .slice (some ⟨g, 0, none⟩) n n]) ∧ w.heap.size ≤ g ∧ Below w.heap.size w w' ∧ w'.rowIs g 2 n (fun q => .int .i64 (if q = a then 1 else 0))

set_option maxHeartbeats 1600000 in
set_option maxRecDepth 100000 in
theorem unitElement_any (p : Int) (k a n : Nat) (dv mv : Value) (ds : List Int) (w : World) (h : L1 0 w dv ds) (hk : k < ds.length) (hn : ds.getD k 0 = (n : Int)) (ha : a < n) (hn8 : n ≤ 1048576) :
    Calls Try.prog 174 #[.agg #[.int .i64 p, dv, mv], .agg #[.int .i64 (k : Int), .int .i64 (a : Int)]] w (UelR k a n w) := by
  have hres : Try.f174.results = #[.cell 4 123] := by kernel_rfl
  have HRES := Lib.hid hres
  obtain ⟨wa, hwa⟩ : ∃ wa, wa = w.alloc (.cells #[.int .i64 p, dv, mv] 38) := ⟨_, rfl⟩
  have hba : Below w.heap.size w wa := by rw [hwa]; exact below_alloc1 _ _
  have hsa : wa.heap.size = w.heap.size + 1 := by rw [hwa]; simp
  obtain ⟨wb, hwb⟩ : ∃ wb, wb = wa.alloc (.cells #[.int .i64 (k : Int), .int .i64 (a : Int)] 164) := ⟨_, rfl⟩
  have hbb : Below wa.heap.size wa wb := by rw [hwb]; exact below_alloc1 _ _
  have hsb : wb.heap.size = w.heap.size + 2 := by rw [hwb]; simp [hsa]
  obtain ⟨w1, hw1⟩ : ∃ w1, w1 = wb.alloc (.cells #[.int .i64 0, .slice none 0 0] 123) := ⟨_, rfl⟩
  have hb1 : Below wb.heap.size wb w1 := by rw [hw1]; exact below_alloc1 _ _
  have hs1 : w1.heap.size = w.heap.size + 3 := by rw [hw1]; simp [hsb]
  have hw1b : w1 = ((w.alloc (.cells #[.int .i64 p, dv, mv] 38)).alloc (.cells #[.int .i64 (k : Int), .int .i64 (a : Int)] 164)).alloc (.cells #[.int .i64 0, .slice none 0 0] 123) := by rw [hw1, hwb, hwa]
  have hbab : Below wa.heap.size wa w1 := hbb.trans (hb1.mono (by omega))
  have hb01 : Below w.heap.size w w1 := hba.trans (hbab.mono (by omega))
  have x1 : w1.cell? ⟨w.heap.size, 1, none⟩ = some dv := later hbab (Nat.le_refl _) (by rw [hwa]; simp)
  have b0 : w1.cell? ⟨w.heap.size + 1, 0, none⟩ = some (.int .i64 (k : Int)) := later hb1 (Nat.le_refl _) (by rw [hwb, ← hsa]; simp)
  have b1 : w1.cell? ⟨w.heap.size + 1, 1, none⟩ = some (.int .i64 (a : Int)) := later hb1 (Nat.le_refl _) (by rw [hwb, ← hsa]; simp)
  have hr1 : Rz w1 (w.heap.size + 2) 123 #[.int .i64 0, .slice none 0 0] := by rw [hw1, ← hsb]; exact Rz.new _ _ _
  refine Sl.cases (h.below hb01) (fun _ _ hx _ => absurd hk (by simp [hx])) (fun bd od cap hvd _ _ hcl => ?_)
  subst hvd
  obtain ⟨u, hu, hru⟩ := hcl k hk
  have hxk : w1.cell? ⟨bd, od + k, none⟩ = some (.int .i64 (n : Int)) := by rw [hu, hru, ← hn, getD_of_lt _ hk]
  have hki : (k : Int) < (ds.length : Int) := by omega
  have hmk := run_make_row' (P := Try.prog) 22 2 (.int .i64 0) 8 Try.underlying22 Try.infoI rfl .i64 .i64 n (by omega) (by omega)
  have HB1 := Lib.hid hb01
  have HR1 := Lib.hid hr1
  have HS1 := Lib.hid hs1
  clear hw1 hwb hwa hba hbb hb1 hbab hb01 hsa hsb hr1 h hcl hu hru hres hs1
  go_enter Try.func174, Try.ntmps174
  go_upto_region 1 with fail
  rw [← hw1b]
  clear hw1b
  go_upto_region 2 with fail
  obtain ⟨w2, hw2⟩ : ∃ w2, w2 = w1.alloc (.cells (madeCells #[.int .i64 0] n) 2) := ⟨_, rfl⟩
  have hb2 : Below w1.heap.size w1 w2 := by rw [hw2]; exact below_alloc1 _ _
  have hrow : w2.rowIs w1.heap.size 2 n (fun _ => .int .i64 0) := by rw [hw2]; exact World.rowIs_made w1 (.int .i64 0) n 2
  rw [← hw2]
  clear hw2
  have y0 := later hb2 (Nat.le_refl _) b0
  have y1 := later hb2 (Nat.le_refl _) b1
  have hr2 := HR1.out.next hb2
  have HB2 := Lib.hid (HB1.out.trans (hb2.mono HB1.out.size))
  have ra : w2.cell? ⟨w1.heap.size, a, none⟩ = some (.int .i64 0) := hrow.cell ha
  have rf : w2.frozen? ⟨w1.heap.size, a, none⟩ = false := hrow.frozen _
  have hai : (a : Int) < (n : Int) := by omega
  have HROW2 := Lib.hid (hrow.set a (.int .i64 1))
  clear x1 b0 b1 hxk hmk hb2 hrow HR1
  go_upto_region 3 with fail
  obtain ⟨w3, hw3⟩ : ∃ w3, w3 = w2.setCell ⟨w1.heap.size, a, none⟩ (.int .i64 1) := ⟨_, rfl⟩
  rw [← hw3] at HROW2 ⊢
  have hb3 : Below w1.heap.size w2 w3 := by rw [hw3]; exact (Below.refl w1.heap.size w2).setCell (by show w1.heap.size ≤ w1.heap.size; exact Nat.le_refl _) _
  have z0 : w3.cell? ⟨w.heap.size + 1, 0, none⟩ = some (.int .i64 (k : Int)) := by rw [hw3, World.cell?_setCell_other _ _ _ _ (by intro e; injection e with e; have := HS1.out; omega)]; exact y0
  have hr3 : Rz w3 (w.heap.size + 2) 123 #[.int .i64 0, .slice none 0 0] := (hb3.block _ (by have := HS1.out; omega)).trans hr2
  have q0 : w3.cell? ⟨w.heap.size + 1 + 1, 0, none⟩ = some (.int .i64 0) := hr3.cell (i := 0) rfl
  have q1 : w3.cell? ⟨w.heap.size + 1 + 1, 1, none⟩ = some (.slice none 0 0) := hr3.cell (i := 1) rfl
  have f0 : w3.frozen? ⟨w.heap.size + 1 + 1, 0, none⟩ = false := rz_frozen hr3 0
  have f1 : w3.frozen? ⟨w.heap.size + 1 + 1, 1, none⟩ = false := rz_frozen hr3 1
  have HR3 := Lib.hid hr3
  have HB3 : Hid (Below w.heap.size w w3) := Lib.hid (by rw [hw3]; exact HB2.out.setCell (by show w.heap.size ≤ w1.heap.size; have := HS1.out; omega) _)
  clear hw3 y0 y1 ra rf hr2 hr3 hb3 HB2
  go_wp2
  obtain ⟨W6, h6⟩ : ∃ W6, W6 = (w3.setCell ⟨w.heap.size + 1 + 1, 0, none⟩ (.int .i64 (k : Int))).setCell ⟨w.heap.size + 1 + 1, 1, none⟩ (.slice (some ⟨w1.heap.size, 0, none⟩) n n) := ⟨_, rfl⟩
  have e0 : W6.cell? ⟨w.heap.size + 1 + 1, 0, none⟩ = some (.int .i64 (k : Int)) := by
    rw [h6, World.cell?_setCell_other _ _ _ _ (by simp)]
    exact World.cell?_setCell_same _ _ _ q0
  have e1 : W6.cell? ⟨w.heap.size + 1 + 1, 1, none⟩ = some (.slice (some ⟨w1.heap.size, 0, none⟩) n n) := by
    rw [h6]
    exact World.cell?_setCell_same _ _ _ (by rw [World.cell?_setCell_other _ _ _ _ (by simp)]; exact q1)
  have HB6 : Hid (Below w.heap.size w W6) := Lib.hid (by rw [h6]; exact (HB3.out.setCell (by show w.heap.size ≤ w.heap.size + 1 + 1; omega) _).setCell (by show w.heap.size ≤ w.heap.size + 1 + 1; omega) _)
  have hne : w1.heap.size ≠ w.heap.size + 1 + 1 := by have := HS1.out; omega
  have HR6 : Hid (W6.rowIs w1.heap.size 2 n (fun q => .int .i64 (if q = a then 1 else 0))) := Lib.hid (by
    rw [h6]
    refine ((HROW2.out.setOther hne _).setOther hne _).congr (fun q _ => ?_)
    by_cases e : q = a
    · rw [if_pos e, if_pos e]
    · rw [if_neg e, if_neg e])
  rw [← h6]
  clear h6 q0 q1 f0 f1 z0
  refine bodyPost_ret (v := .agg #[.int .i64 (k : Int), .slice (some ⟨w1.heap.size, 0, none⟩) n n]) ?_ rfl ⟨w1.heap.size, rfl, by have := HS1.out; omega, HB6.out, HR6.out⟩
  simp only [results, HRES.out]
  go_simp
end Go.Proofs.Ytiokagnolbddlaa

namespace Go.Proofs.Ytiokagnolbddlaa
open Go.RowKit

theorem hload2E (w : World) {b : Nat} {x y : Value} (c0 : w.cell? ⟨b, 0, none⟩ = some x) (c1 : w.cell? ⟨b, 1, none⟩ = some y) : (Instr.loadAt 123 (.pointer (some ⟨b, 0, none⟩))).run Try.prog w = .ok (.agg #[x, y]) w := by go_simp

set_option maxHeartbeats 3200000 in
set_option maxRecDepth 100000 in
theorem swap1_any (p p2 f : Int) (i j : Nat) (dv mv dv2 mv2 pv' uv vv : Value) (bs bx S0 g N mb nm : Nat) (us vs : List Int) (S : List PV) (w : World) (hp : IsP p2) (hpp : IsP p) (hf : 0 ≤ f ∧ f ≤ 6) (hfd : f = if ((i * j : Nat) : Int) % 2 = 0 then 1 else p - 1) (hib : i * j ≤ 1000)
    (hts : Rz w bs 118 #[.int .i64 p2, dv2, mv2, .int .i64 p, dv, mv, pv', .map (some mb)]) (hx0 : w.cell? ⟨bx, 0, none⟩ = some (.int .i64 p)) (hbsg : bs ≠ g) (hbxg : bx ≠ g)
    (hr : w.rowIs g 2 N (fun _ => .int .i64 0)) (hmap : ∀ W, But g w W → Pl W mb nm S) (hou : ∀ W, But g w W → L1 0 W uv us) (hov : ∀ W, But g w W → L1 0 W vv vs)
    (hun : ∀ x ∈ us, 0 ≤ x ∧ x ≤ p2 - 1) (hvn : ∀ x ∈ vs, 0 ≤ x ∧ x ≤ p2 - 1)
    (hpl : ∀ b a : Nat, b < vs.length → a < us.length → Wf4 (((j : Int), (b : Int)), ((i : Int), (a : Int))) ∧ (((j : Int), (b : Int)), ((i : Int), (a : Int))) ∈ S ∧ plc S (((j : Int), (b : Int)), ((i : Int), (a : Int))) = S0 + b * us.length + a)
    (hN : S0 + vs.length * us.length ≤ N) (hul : us.length ≤ 1048576) (hvl : vs.length ≤ 1048576) :
    Calls Try.prog 116 #[.slice (some ⟨g, 0, none⟩) N N, .agg #[.int .i64 (i : Int), uv], .agg #[.int .i64 (j : Int), vv], .pointer (some ⟨bs, 0, none⟩), .pointer (some ⟨bx, 0, none⟩)] w (AddR g N (adpZ p2 f S0 vs us (fun _ => 0) vs.length 0) w) := by
  have hgl : g < w.heap.size := hr.lt
  obtain ⟨wa, hwa⟩ : ∃ wa, wa = w.alloc (.cells #[.int .i64 (i : Int), uv] 123) := ⟨_, rfl⟩
  have hba : Below w.heap.size w wa := by rw [hwa]; exact below_alloc1 _ _
  have hsa : wa.heap.size = w.heap.size + 1 := by rw [hwa]; simp
  obtain ⟨w1, hw1⟩ : ∃ w1, w1 = wa.alloc (.cells #[.int .i64 (j : Int), vv] 123) := ⟨_, rfl⟩
  have hb1 : Below wa.heap.size wa w1 := by rw [hw1]; exact below_alloc1 _ _
  have hw1b : w1 = (w.alloc (.cells #[.int .i64 (i : Int), uv] 123)).alloc (.cells #[.int .i64 (j : Int), vv] 123) := by rw [hw1, hwa]
  have hb01 : Below w.heap.size w w1 := hba.trans (hb1.mono (by omega))
  have u0 : w1.cell? ⟨w.heap.size, 0, none⟩ = some (.int .i64 (i : Int)) := later hb1 (Nat.le_refl _) (by rw [hwa]; simp)
  have u1 : w1.cell? ⟨w.heap.size, 1, none⟩ = some uv := later hb1 (Nat.le_refl _) (by rw [hwa]; simp)
  have v0 : w1.cell? ⟨w.heap.size + 1, 0, none⟩ = some (.int .i64 (j : Int)) := by rw [hw1, ← hsa]; simp
  have v1 : w1.cell? ⟨w.heap.size + 1, 1, none⟩ = some vv := by rw [hw1, ← hsa]; simp
  have ht1 := hts.next hb01
  have x1 : w1.cell? ⟨bx, 0, none⟩ = some (.int .i64 p) := later hb01 (Nat.le_refl _) hx0
  have hs1 : w1.heap.size = w.heap.size + 2 := by rw [hw1]; simp [hsa]
  have hbxl : bx < w.heap.size := cell_lt hx0
  have HCE : Hid (∀ W, But g w1 W → W.cell? ⟨w.heap.size, 0, none⟩ = some (.int .i64 (i : Int)) ∧ W.cell? ⟨w.heap.size, 1, none⟩ = some uv ∧ W.cell? ⟨w.heap.size + 1, 0, none⟩ = some (.int .i64 (j : Int)) ∧ W.cell? ⟨w.heap.size + 1, 1, none⟩ = some vv ∧ W.cell? ⟨bx, 0, none⟩ = some (.int .i64 p) ∧ Rz W bs 118 #[.int .i64 p2, dv2, mv2, .int .i64 p, dv, mv, pv', .map (some mb)]) := Lib.hid (fun W h => ⟨(h.cell (by omega) (by omega)).trans u0, (h.cell (by omega) (by omega)).trans u1, (h.cell (by omega) (by omega)).trans v0, (h.cell (by omega) (by omega)).trans v1, (h.cell (by omega) hbxg).trans x1, (h.block bs ht1.lt hbsg).trans ht1⟩)
  have hij : (i : Int) * (j : Int) = ((i * j : Nat) : Int) := by simp
  have hm1 : IntKind.i64.wrap ((i : Int) * (j : Int)) = ((i * j : Nat) : Int) := by rw [hij]; exact IntWalk.i64_in _ (by omega)
  have HSG : Hid (∀ W, Calls Try.prog 117 #[.int .i64 p, .int .i64 ((i * j : Nat) : Int)] W (QW (.int .i64 f) W)) := Lib.hid (fun W => by rw [hfd]; exact signNumber_any p ((i * j : Nat) : Int) W (by have := hpp.lo; omega) (by have := hpp.hi; omega) (by omega))
  have HAP : Hid (∀ W, Below w1.heap.size w1 W → Calls Try.prog 109 #[.agg #[.int .i64 p2, dv2, mv2, .int .i64 p, dv, mv, pv', .map (some mb)], .slice (some ⟨g, 0, none⟩) N N, .int .i64 f, .agg #[.int .i64 (j : Int), vv], .agg #[.int .i64 (i : Int), uv]] W (AddR g N (adpZ p2 f S0 vs us (fun _ => 0) vs.length 0) W)) := Lib.hid (fun W hW => by
    have hBW : But g w W := But.of_below (hb01.trans (hW.mono hb01.size))
    exact addPair_any p2 p f (j : Int) (i : Int) dv2 mv2 dv mv pv' vv uv S0 g N mb nm (fun _ => 0) vs us S W hp hf (hr.of_block ((hb01.trans (hW.mono hb01.size)).block _ hgl)) (fun W2 h2 => hmap W2 (hBW.trans h2)) (fun W2 h2 => hov W2 (hBW.trans h2)) (fun W2 h2 => hou W2 (hBW.trans h2)) hvn hun (fun k _ => by have := hp.lo; omega) hpl hN hvl hul)
  have HB01 := Lib.hid hb01
  have HRES : Hid (Try.f116.results = #[]) := Lib.hid (by kernel_rfl)
  clear hwa hw1 hba hb1 hsa hb01 ht1 hmap hou hov hpl hr hts hx0 hij hun hvn hN hs1 u0 u1 v0 v1 x1 hbxl
  go_enter Try.func116, Try.ntmps116
  go_upto_region 1 with fail
  rw [← hw1b]
  clear hw1b
  refine wp_region_held (S := fun W => Hid (But g w1 W)) (by kernel_rfl) ?_
  have S0 : Hid (But g w1 w1.drew) := Lib.hid (But.refl _ _).drew
  refine held_take (i := 0) (v := .agg #[.int .i64 p2, dv2, mv2, .int .i64 p, dv, mv, pv', .map (some mb)]) (some 8) rfl rfl (by kernel_rfl) (by kernel_rfl) (by kernel_rfl) (fun _ _ _ h => h) (yieldsIf_cell (by kernel_rfl) rfl (by kernel_rfl) (fun W h => hload8T W (HCE.out W h.out).2.2.2.2.2)) S0 ?_
  refine held_take (i := 1) (v := .slice (some ⟨g, 0, none⟩) N N) (some 9) rfl rfl (by kernel_rfl) (by kernel_rfl) (by kernel_rfl) (fun _ _ _ h => h) (yieldsIf_move (by kernel_rfl) rfl (by kernel_rfl)) S0 ?_
  refine held_take (i := 2) (v := .pointer (some ⟨bx, 0, none⟩)) (some 10) rfl rfl (by kernel_rfl) (by kernel_rfl) (by kernel_rfl) (fun _ _ _ h => h) (yieldsIf_run (by kernel_rfl) (fun W _ => by kernel_rfl)) S0 ?_
  refine held_take (i := 3) (v := .int .i64 p) (some 11) rfl rfl (by kernel_rfl) (by kernel_rfl) (by kernel_rfl) (fun _ _ _ h => h) (yieldsIf_cell (by kernel_rfl) rfl (by kernel_rfl) (fun W h => hload W ((HCE.out W h.out).2.2.2.2.1))) S0 ?_
  refine held_take (i := 4) (v := .pointer (some ⟨w.heap.size, 0, none⟩)) (some 12) rfl rfl (by kernel_rfl) (by kernel_rfl) (by kernel_rfl) (fun _ _ _ h => h) (yieldsIf_run (by kernel_rfl) (fun W _ => by kernel_rfl)) S0 ?_
  refine held_take (i := 5) (v := .int .i64 (i : Int)) (some 13) rfl rfl (by kernel_rfl) (by kernel_rfl) (by kernel_rfl) (fun _ _ _ h => h) (yieldsIf_cell (by kernel_rfl) rfl (by kernel_rfl) (fun W h => hload W ((HCE.out W h.out).1))) S0 ?_
  refine held_take (i := 6) (v := .pointer (some ⟨w.heap.size + 1, 0, none⟩)) (some 14) rfl rfl (by kernel_rfl) (by kernel_rfl) (by kernel_rfl) (fun _ _ _ h => h) (yieldsIf_run (by kernel_rfl) (fun W _ => by kernel_rfl)) S0 ?_
  refine held_take (i := 7) (v := .int .i64 (j : Int)) (some 15) rfl rfl (by kernel_rfl) (by kernel_rfl) (by kernel_rfl) (fun _ _ _ h => h) (yieldsIf_cell (by kernel_rfl) rfl (by kernel_rfl) (fun W h => hload W ((HCE.out W h.out).2.2.1))) S0 ?_
  refine held_take (i := 8) (v := .int .i64 ((i * j : Nat) : Int)) (some 16) rfl rfl (by kernel_rfl) (by kernel_rfl) (by kernel_rfl) (fun _ _ _ h => h) (yieldsIf_bin (by kernel_rfl) rfl (by kernel_rfl) (by kernel_rfl) (fun _ => rfl) (hmulA hm1)) S0 ?_
  refine held_take (i := 10) (v := .agg #[.int .i64 (j : Int), vv]) (some 18) rfl rfl (by kernel_rfl) (by kernel_rfl) (by kernel_rfl) (fun _ _ _ h => h) (yieldsIf_cell (by kernel_rfl) rfl (by kernel_rfl) (fun W h => hload2E W ((HCE.out W h.out).2.2.1) ((HCE.out W h.out).2.2.2.1))) S0 ?_
  refine held_take (i := 11) (v := .agg #[.int .i64 (i : Int), uv]) (some 19) rfl rfl (by kernel_rfl) (by kernel_rfl) (by kernel_rfl) (fun _ _ _ h => h) (yieldsIf_cell (by kernel_rfl) rfl (by kernel_rfl) (fun W h => hload2E W ((HCE.out W h.out).1) ((HCE.out W h.out).2.1))) S0 ?_
  refine held_enter (i := 9) (some 17) (f := 117) (args := #[.int .i64 p, .int .i64 ((i * j : Nat) : Int)]) (by kernel_rfl) rfl rfl rfl (by kernel_rfl) (HSG.out _) ?_ (fun c w' h => by cases h.1) (fun w' h => by cases h.1)
  rintro e4 w4 ⟨he4, hw4⟩
  injection he4 with he4
  subst he4 hw4
  refine ⟨S0, ?_⟩
  refine held_enter (i := 12) (some 20) (f := 109) (args := #[.agg #[.int .i64 p2, dv2, mv2, .int .i64 p, dv, mv, pv', .map (some mb)], .slice (some ⟨g, 0, none⟩) N N, .int .i64 f, .agg #[.int .i64 (j : Int), vv], .agg #[.int .i64 (i : Int), uv]]) (by kernel_rfl) rfl rfl rfl (by kernel_rfl) (HAP.out _ (Below.refl _ _).drew) ?_ (fun c w' h => by cases h.1) (fun w' h => by cases h.1)
  rintro e5 w5 ⟨he5, hbut, hrow⟩
  injection he5 with he5
  subst he5
  have HBF : Hid (But g w w5) := Lib.hid ((But.of_below HB01.out).trans (S0.out.trans hbut))
  have HRF := Lib.hid hrow
  refine ⟨Lib.hid (S0.out.trans hbut), ?_⟩
  clear hbut hrow
  refine wpAnyH_done (by kernel_rfl) ?_ _
  simp only [Act.put, List.setIfInBounds_toArray, List.set_cons_zero, List.set_cons_succ]
  clear S0
  go_wp2
  refine bodyPost_ret (v := .tuple #[]) ?_ rfl ⟨rfl, HBF.out, HRF.out⟩
  simp only [results, HRES.out]
  go_simp
end Go.Proofs.Ytiokagnolbddlaa

namespace Go.Proofs.Ytiokagnolbddlaa
open Go.RowKit

theorem pcs_at {L : List PV} : ∀ {k : Nat} (h : k < L.length), (pcs L)[k * 4]? = some (.int .i64 L[k].1.1) ∧ (pcs L)[k * 4 + 1]? = some (.int .i64 L[k].1.2) ∧ (pcs L)[k * 4 + 2]? = some (.int .i64 L[k].2.1) ∧ (pcs L)[k * 4 + 3]? = some (.int .i64 L[k].2.2) := by
  induction L with
  | nil => intro k h; simp at h
  | cons v L ih =>
    intro k h
    cases k with
    | zero => simp [pcs]
    | succ k =>
      have := ih (k := k) (by simpa using h)
      have e : pcs (v :: L) = .int .i64 v.1.1 :: .int .i64 v.1.2 :: .int .i64 v.2.1 :: .int .i64 v.2.2 :: pcs L := by simp [pcs]
      rw [e, show (k + 1) * 4 = k * 4 + 1 + 1 + 1 + 1 by omega, show k * 4 + 1 + 1 + 1 + 1 + 1 = (k * 4 + 1) + 1 + 1 + 1 + 1 by omega, show k * 4 + 1 + 1 + 1 + 1 + 2 = (k * 4 + 2) + 1 + 1 + 1 + 1 by omega, show k * 4 + 1 + 1 + 1 + 1 + 3 = (k * 4 + 3) + 1 + 1 + 1 + 1 by omega]
      simp only [List.getElem?_cons_succ, List.getElem_cons_succ]
      exact this
theorem pr_at {base : Nat} {w : World} {s : Value} {L : List PV} (h : w.ownsRow base 166 4 s L.length (pcs L)) {k : Nat} (hk : k < L.length) : ∃ g cap, s = .slice (some ⟨g, 0, none⟩) L.length cap ∧ g < w.heap.size ∧ w.cell? ⟨g, k * 4, none⟩ = some (.int .i64 L[k].1.1) ∧ w.cell? ⟨g, k * 4 + 1, none⟩ = some (.int .i64 L[k].1.2) ∧ w.cell? ⟨g, k * 4 + 2, none⟩ = some (.int .i64 L[k].2.1) ∧ w.cell? ⟨g, k * 4 + 3, none⟩ = some (.int .i64 L[k].2.2) := by
  rcases h.2 with ⟨_, h0⟩ | ⟨g, cap, cur, hs, hg, hb, hn, _, hcur, ht⟩
  · omega
  · have hlt : g < w.heap.size := (Array.getElem?_eq_some_iff.1 hb).1
    have h1 := pcs_at hk
    rw [← ht, List.getElem?_take, if_pos (by omega), List.getElem?_take, if_pos (by omega), List.getElem?_take, if_pos (by omega), List.getElem?_take, if_pos (by omega)] at h1
    refine ⟨g, cap, hs, hlt, ?_, ?_, ?_, ?_⟩
    · rw [cell_of_row _ _ _ _ _ _ hb, ← h1.1]; simp
    · rw [cell_of_row _ _ _ _ _ _ hb, ← h1.2.1]; simp
    · rw [cell_of_row _ _ _ _ _ _ hb, ← h1.2.2.1]; simp
    · rw [cell_of_row _ _ _ _ _ _ hb, ← h1.2.2.2]; simp
theorem hload3o (w : World) {b : Nat} {x y z : Value} (c0 : w.cell? ⟨b, 3, none⟩ = some x) (c1 : w.cell? ⟨b, 4, none⟩ = some y) (c2 : w.cell? ⟨b, 5, none⟩ = some z) : (Instr.loadAt 38 (.pointer (some ⟨b, 3, none⟩))).run Try.prog w = .ok (.agg #[x, y, z]) w := by go_simp
theorem hload2Bo (w : World) {b : Nat} {x y : Value} (c0 : w.cell? ⟨b, 2, none⟩ = some x) (c1 : w.cell? ⟨b, 3, none⟩ = some y) : (Instr.loadAt 164 (.pointer (some ⟨b, 2, none⟩))).run Try.prog w = .ok (.agg #[x, y]) w := by go_simp
/-- A row of a table anew. -/
theorem Tb.row' {W W' : World} {g r c : Nat} {Z : Nat → Nat → Int} (h : Tb W g r c Z) {j : Nat} {y : Nat → Int} (hb : But (g + 1 + j) W W') (hr : W'.rowIs (g + 1 + j) 2 c (fun i => .int .i64 (y i))) : Tb W' g r c (fun j2 i => if j2 = j then y i else Z j2 i) := by
  refine ⟨h.top.of_block (hb.block _ h.top.lt (by omega)), fun j2 hj2 => ?_, Nat.le_trans h.lt hb.size⟩
  by_cases e : j2 = j
  · subst e
    exact hr.congr (fun i _ => by simp)
  · exact ((h.rows j2 hj2).of_block (hb.block _ (h.rows j2 hj2).lt (by omega))).congr (fun i _ => by simp [e])
/-- What tableBy answers. -/
def TbyR (m c : Nat) (Z : Nat → Nat → Int) (w : World) (e : Ending) (w' : World) : Prop := ∃ g, e = .returned (.slice (some ⟨g, 0, none⟩) m m) ∧ w.heap.size ≤ g ∧ Tb w' g m c Z ∧ Below w.heap.size w w'

set_option maxHeartbeats 3200000 in
set_option maxRecDepth 100000 in
theorem tableBy_any (p p2 : Int) (n c m G N base mb : Nat) (dv mv dv2 mv2 c1 c2 : Value) (ds ds2 : List Int) (f : Nat → Value) (Zr : Nat → Nat → Int) (w : World) (h : L1 0 w dv ds) (h2 : L1 0 w dv2 ds2) (hd : ∀ n, 0 ≤ dimZ ds n ∧ dimZ ds n ≤ 8) (hd2 : ∀ n, 0 ≤ dimZ ds2 n ∧ dimZ ds2 n ≤ 8)
    (hprs : Prs w base G N f (tsA (bsL ds ds.length) (bsL ds2 ds2.length) (bsL ds ds.length).length)) (hn : n < N) (hm : m = (prF (tsA (bsL ds ds.length) (bsL ds2 ds2.length) (bsL ds ds.length).length) (n : Int)).length) (hm8 : m ≤ 1048576) (hc : c ≤ 1048576)
    (himg : ∀ (W : World) (k i a j b ri rj gi gj g : Nat), Below w.heap.size w W → k < m → (prF (tsA (bsL ds ds.length) (bsL ds2 ds2.length) (bsL ds ds.length).length) (n : Int))[k]? = some (((i : Int), (a : Int)), ((j : Int), (b : Int))) → i < ds.length → j < ds2.length → ds.getD i 0 = (ri : Int) → ds2.getD j 0 = (rj : Int) → a < ri → b < rj →
      W.rowIs gi 2 ri (fun q => .int .i64 (if q = a then 1 else 0)) → W.rowIs gj 2 rj (fun q => .int .i64 (if q = b then 1 else 0)) → W.rowIs g 2 c (fun _ => .int .i64 0) → w.heap.size ≤ g → gi ≠ g → gj ≠ g →
      Calls Try.prog 116 #[.slice (some ⟨g, 0, none⟩) c c, .agg #[.int .i64 (i : Int), .slice (some ⟨gi, 0, none⟩) ri ri], .agg #[.int .i64 (j : Int), .slice (some ⟨gj, 0, none⟩) rj rj], c1, c2] W (AddR g c (Zr k) W)) :
    Calls Try.prog 157 #[.agg #[.int .i64 p, dv, mv, .int .i64 p2, dv2, mv2, .slice (some ⟨G, 0, none⟩) N N, .map (some mb)], .int .i64 (n : Int), .int .i64 (c : Int), .func (.func 116) #[] #[c1, c2]] w (TbyR m c Zr w) := by
  obtain ⟨ad, cap, rfl⟩ := Sl.shape h
  obtain ⟨ad2, cap2, rfl⟩ := Sl.shape h2
  obtain ⟨w1, hw1⟩ : ∃ w1, w1 = w.alloc (.cells #[.int .i64 p, .slice ad ds.length cap, mv, .int .i64 p2, .slice ad2 ds2.length cap2, mv2, .slice (some ⟨G, 0, none⟩) N N, .map (some mb)] 118) := ⟨_, rfl⟩
  have hb1 : Below w.heap.size w w1 := by rw [hw1]; exact below_alloc1 _ _
  have hs1 : w1.heap.size = w.heap.size + 1 := by rw [hw1]; simp
  have hz1 : Rz w1 w.heap.size 118 #[.int .i64 p, .slice ad ds.length cap, mv, .int .i64 p2, .slice ad2 ds2.length cap2, mv2, .slice (some ⟨G, 0, none⟩) N N, .map (some mb)] := by rw [hw1]; exact Rz.new _ _ _
  obtain ⟨apr, cpr, hfn⟩ := hprs.shape hn
  rw [← hm] at hfn
  have k1 : w1.cell? ⟨G, n, none⟩ = some (.slice apr m cpr) := later hb1 (Nat.le_refl _) (by rw [← hfn]; exact hprs.row.cell hn)
  have hni : (n : Int) < (N : Int) := by omega
  have hown := hprs.own n hn
  rw [hfn] at hown
  have HOWN : Hid (∀ W, Below w.heap.size w W → W.ownsRow base 166 4 (.slice apr m cpr) (prF (tsA (bsL ds ds.length) (bsL ds2 ds2.length) (bsL ds ds.length).length) (n : Int)).length (pcs (prF (tsA (bsL ds ds.length) (bsL ds2 ds2.length) (bsL ds ds.length).length) (n : Int)))) := Lib.hid (fun W hb => owns_below hown hb)
  have HDS : Hid (∀ W, Below w.heap.size w W → L1 0 W (.slice ad ds.length cap) ds) := Lib.hid (fun W hb => h.below hb)
  have HDS2 : Hid (∀ W, Below w.heap.size w W → L1 0 W (.slice ad2 ds2.length cap2) ds2) := Lib.hid (fun W hb => h2.below hb)
  have HT : Hid (∀ W, Below w1.heap.size w1 W → Below w.heap.size w W) := Lib.hid (fun W hb => hb1.trans (hb.mono (by omega)))
  have HZ : Hid (∀ W, Below w1.heap.size w1 W → Rz W w.heap.size 118 #[.int .i64 p, .slice ad ds.length cap, mv, .int .i64 p2, .slice ad2 ds2.length cap2, mv2, .slice (some ⟨G, 0, none⟩) N N, .map (some mb)]) := Lib.hid (fun W hb => hz1.next hb)
  have HK : Hid (∀ W, Below w1.heap.size w1 W → W.cell? ⟨G, n, none⟩ = some (.slice apr m cpr)) := Lib.hid (fun W hb => later hb (Nat.le_refl _) k1)
  have HIMG := Lib.hid himg
  have HMD := Lib.hid hm
  have HS1 := Lib.hid hs1
  have t0 := hz1.cell (i := 0) rfl
  have t1 := hz1.cell (i := 1) rfl
  have t2 := hz1.cell (i := 2) rfl
  have t3 := hz1.cell (i := 3) rfl
  have t4 := hz1.cell (i := 4) rfl
  have t5 := hz1.cell (i := 5) rfl
  have t6 := hz1.cell (i := 6) rfl
  have t7 := hz1.cell (i := 7) rfl
  clear h h2 hb1 hz1 hfn hown hprs himg hm hs1
  go_enter Try.func157, Try.ntmps157
  go_upto_region 1 with fail
  rw [← hw1]
  clear hw1
  go_wp2_with fail
  refine (dim_any p p2 _ _ _ _ G N n mb m cpr apr _ k1 hn).mono ?_
  rintro ee w2 ⟨rfl, hb2⟩
  go_wp2_with fail
  refine (zeroTable_any m c _ hm8 hc).mono ?_
  rintro ee w3 ⟨rfl, hmat⟩
  have htb := hmat.tb
  have hb23 := hmat.below
  have hs2 := hb2.size
  have HB3 : Hid (Below w1.heap.size w1 w3) := Lib.hid (hb2.trans (hb23.mono hs2))
  obtain ⟨gT, hgT⟩ : ∃ g, g = w2.heap.size := ⟨_, rfl⟩
  rw [← hgT] at htb ⊢
  have HGT : Hid (w1.heap.size ≤ gT) := Lib.hid (by rw [hgT]; exact hs2)
  have HTB := Lib.hid htb
  clear hmat htb hb2 hb23 hs2 k1 hgT t0 t1 t2 t3 t4 t5 t6 t7
  have hz3 := HZ.out _ HB3.out
  have t6 := hz3.cell (i := 6) rfl
  have k3 := HK.out _ HB3.out
  go_wp2
  clear t6 k3 hz3
  go_loopw [10, 11, 23] (fun _ _ x wr => ∃ k : Nat, k ≤ m ∧ x = .int .i64 (k : Int) ∧ Hid (Below w1.heap.size w1 wr) ∧ Hid (Tb wr gT m c (fun j q => if j < k then Zr j q else 0))) (fun _ _ x _ => m - (intOf x).toNat)
  case atStart => exact ⟨0, Nat.zero_le _, rfl, HB3, Lib.hid (HTB.out.congr (fun j _ q _ => by rw [if_neg (Nat.not_lt_zero _)]))⟩
  case round =>
    clear HB3 HTB
    obtain ⟨k, hk, rfl, HB, HTB⟩ := hrel
    obtain ⟨wx, hwx⟩ : ∃ wx : World, wx = wr := ⟨_, rfl⟩
    subst hwx
    by_cases hlt : k < m
    · have hki : (k : Int) < (m : Int) := by omega
      have hkl : k < (prF (tsA (bsL ds ds.length) (bsL ds2 ds2.length) (bsL ds ds.length).length) (n : Int)).length := by rw [← HMD.out]; exact hlt
      obtain ⟨⟨⟨qi, qa⟩, ⟨qj, qb⟩⟩, hq⟩ : ∃ q, (prF (tsA (bsL ds ds.length) (bsL ds2 ds2.length) (bsL ds ds.length).length) (n : Int))[k] = q := ⟨_, rfl⟩
      obtain ⟨gp, cp, hsp, hgp, p0, p1, p2', p3⟩ := pr_at (HOWN.out _ (HT.out _ HB.out)) hkl
      rw [← HMD.out] at hsp
      injection hsp with e1 e2 e3
      clear e2
      subst e1 e3
      rw [hq] at p0 p1 p2' p3
      have hmem : (((qi, qa), (qj, qb)) : PV) ∈ (tsA (bsL ds ds.length) (bsL ds2 ds2.length) (bsL ds ds.length).length) := (prF_mem.1 (by rw [← hq]; exact List.getElem_mem hkl)).1
      obtain ⟨⟨a1, a2⟩, ⟨a3, a4⟩, ⟨a5, a6⟩, a7, a8⟩ := pl_mem.1 hmem
      obtain ⟨i, rfl⟩ : ∃ i : Nat, qi = (i : Int) := ⟨qi.toNat, by omega⟩
      obtain ⟨a, rfl⟩ : ∃ i : Nat, qa = (i : Int) := ⟨qa.toNat, by omega⟩
      obtain ⟨j, rfl⟩ : ∃ i : Nat, qj = (i : Int) := ⟨qj.toNat, by omega⟩
      obtain ⟨b, rfl⟩ : ∃ i : Nat, qb = (i : Int) := ⟨qb.toNat, by omega⟩
      have hi : i < ds.length := by omega
      have hj : j < ds2.length := by omega
      have hdi := hd (i : Int)
      have hdj := hd2 (j : Int)
      obtain ⟨ri, hri⟩ : ∃ r : Nat, dimZ ds (i : Int) = (r : Int) := ⟨(dimZ ds (i : Int)).toNat, by omega⟩
      obtain ⟨rj, hrj⟩ : ∃ r : Nat, dimZ ds2 (j : Int) = (r : Int) := ⟨(dimZ ds2 (j : Int)).toNat, by omega⟩
      have hgi : ds.getD i 0 = (ri : Int) := by rw [← hri, dimZ_in rfl hi, getD_of_lt _ hi]
      have hgj : ds2.getD j 0 = (rj : Int) := by rw [← hrj, dimZ_in rfl hj, getD_of_lt _ hj]
      have hr8 : ri ≤ 8 := by omega
      have hr9 : rj ≤ 8 := by omega
      have hai : a < ri := by omega
      have hbj : b < rj := by omega
      have hqk : (prF (tsA (bsL ds ds.length) (bsL ds2 ds2.length) (bsL ds ds.length).length) (n : Int))[k]? = some (((i : Int), (a : Int)), ((j : Int), (b : Int))) := by rw [List.getElem?_eq_getElem hkl, hq]
      have HQK := Lib.hid hqk
      clear hmem a1 a2 a3 a4 a5 a6 a7 a8 hq hqk hkl hri hrj hdi hdj
      have hz := HZ.out _ HB.out
      go_upto_region 5 with fail
      obtain ⟨w5, hw5⟩ : ∃ w5, w5 = wx.alloc (.cells #[.int .i64 (i : Int), .int .i64 (a : Int), .int .i64 (j : Int), .int .i64 (b : Int)] 166) := ⟨_, rfl⟩
      have hb5 : Below wx.heap.size wx w5 := by rw [hw5]; exact below_alloc1 _ _
      have hz5 : Rz w5 wx.heap.size 166 #[.int .i64 (i : Int), .int .i64 (a : Int), .int .i64 (j : Int), .int .i64 (b : Int)] := by rw [hw5]; exact Rz.new _ _ _
      rw [← hw5]
      clear hw5
      obtain ⟨gr, hgr⟩ : ∃ g, g = gT + 1 + k := ⟨_, rfl⟩
      have hTl := HTB.out.lt
      have hsx := HB.out.size
      have hs5 := hb5.size
      have hg1 := HGT.out
      have hg2 := HS1.out
      have HTB5 := Lib.hid (HTB.out.below hb5)
      have HB5 : Hid (∀ W, But gr w5 W → Below w1.heap.size w1 W) := Lib.hid (fun W hW => (HB.out.trans (hb5.mono hsx)).trans (hW.below (by omega) (by omega)))
      have HP5 : Hid (∀ W, But gr w5 W → Rz W wx.heap.size 166 #[.int .i64 (i : Int), .int .i64 (a : Int), .int .i64 (j : Int), .int .i64 (b : Int)]) := Lib.hid (fun W hW => (hW.block _ hz5.lt (by omega)).trans hz5)
      have HH5 : Hid (∀ W, But gr w5 W → W.cell? ⟨gT, 0 + k, none⟩ = some (.slice (some ⟨gr, 0, none⟩) c c)) := Lib.hid (fun W hW => by rw [Nat.zero_add, hgr]; rw [hgr] at hW; exact (hW.cell (by omega) (by omega)).trans (HTB5.out.top.cell hlt))
      have HROW5 : Hid (w5.rowIs gr 2 c (fun _ => .int .i64 0)) := Lib.hid (by rw [hgr]; exact (HTB5.out.rows k hlt).congr (fun q _ => by rw [if_neg (Nat.lt_irrefl _)]))
      have HGR : Hid (w.heap.size ≤ gr ∧ gr < w5.heap.size) := Lib.hid (by omega)
      have HGE := Lib.hid hgr
      clear hb5 hz5 hz hTl hs5 hg1 hg2 hgr p0 p1 p2' p3 hgp
      refine wp_region_held (S := fun W => Hid (But gr w5 W)) (by kernel_rfl) ?_
      have S0 : Hid (But gr w5 w5.drew) := Lib.hid (But.refl _ _).drew
      refine held_take (i := 0) (v := .func (.func 116) #[] #[c1, c2]) (some 28) rfl rfl (by kernel_rfl) (by kernel_rfl) (by kernel_rfl) (fun _ _ _ h => h) (yieldsIf_move (by kernel_rfl) rfl (by kernel_rfl)) S0 ?_
      refine held_take (i := 1) (v := .slice (some ⟨gT, 0, none⟩) m m) (some 29) rfl rfl (by kernel_rfl) (by kernel_rfl) (by kernel_rfl) (fun _ _ _ h => h) (yieldsIf_move (by kernel_rfl) rfl (by kernel_rfl)) S0 ?_
      refine held_take (i := 2) (v := .int .i64 (k : Int)) (some 30) rfl rfl (by kernel_rfl) (by kernel_rfl) (by kernel_rfl) (fun _ _ _ h => h) (yieldsIf_move (by kernel_rfl) rfl (by kernel_rfl)) S0 ?_
      refine held_take (i := 3) (v := .pointer (some ⟨gT, 0 + k, none⟩)) (some 31) rfl rfl (by kernel_rfl) (by kernel_rfl) (by kernel_rfl) (fun _ _ _ h => h) (yieldsIf_index (by kernel_rfl) rfl (by kernel_rfl) (by kernel_rfl) (hidxS gT 0 m hlt)) S0 ?_
      refine held_take (i := 4) (v := .slice (some ⟨gr, 0, none⟩) c c) (some 32) rfl rfl (by kernel_rfl) (by kernel_rfl) (by kernel_rfl) (fun _ _ _ h => h) (yieldsIf_cell (by kernel_rfl) rfl (by kernel_rfl) (fun W h => hloadS W (HH5.out W h.out))) S0 ?_
      refine held_take (i := 5) (v := .pointer (some ⟨w.heap.size, 0, none⟩)) (some 33) rfl rfl (by kernel_rfl) (by kernel_rfl) (by kernel_rfl) (fun _ _ _ h => h) (yieldsIf_run (by kernel_rfl) (fun W _ => by kernel_rfl)) S0 ?_
      refine held_take (i := 6) (v := .agg #[.int .i64 p, .slice ad ds.length cap, mv]) (some 34) rfl rfl (by kernel_rfl) (by kernel_rfl) (by kernel_rfl) (fun _ _ _ h => h) (yieldsIf_cell (by kernel_rfl) rfl (by kernel_rfl) (fun W h => hload3 W ((HZ.out _ (HB5.out W h.out)).cell (i := 0) rfl) ((HZ.out _ (HB5.out W h.out)).cell (i := 1) rfl) ((HZ.out _ (HB5.out W h.out)).cell (i := 2) rfl))) S0 ?_
      refine held_take (i := 7) (v := .pointer (some ⟨wx.heap.size, 0, none⟩)) (some 35) rfl rfl (by kernel_rfl) (by kernel_rfl) (by kernel_rfl) (fun _ _ _ h => h) (yieldsIf_run (by kernel_rfl) (fun W _ => by kernel_rfl)) S0 ?_
      refine held_take (i := 8) (v := .agg #[.int .i64 (i : Int), .int .i64 (a : Int)]) (some 36) rfl rfl (by kernel_rfl) (by kernel_rfl) (by kernel_rfl) (fun _ _ _ h => h) (yieldsIf_cell (by kernel_rfl) rfl (by kernel_rfl) (fun W h => hload2B W ((HP5.out W h.out).cell (i := 0) rfl) ((HP5.out W h.out).cell (i := 1) rfl))) S0 ?_
      refine held_take (i := 10) (v := .pointer (some ⟨w.heap.size, 3, none⟩)) (some 38) rfl rfl (by kernel_rfl) (by kernel_rfl) (by kernel_rfl) (fun _ _ _ h => h) (yieldsIf_run (by kernel_rfl) (fun W _ => by kernel_rfl)) S0 ?_
      refine held_take (i := 11) (v := .agg #[.int .i64 p2, .slice ad2 ds2.length cap2, mv2]) (some 39) rfl rfl (by kernel_rfl) (by kernel_rfl) (by kernel_rfl) (fun _ _ _ h => h) (yieldsIf_cell (by kernel_rfl) rfl (by kernel_rfl) (fun W h => hload3o W ((HZ.out _ (HB5.out W h.out)).cell (i := 3) rfl) ((HZ.out _ (HB5.out W h.out)).cell (i := 4) rfl) ((HZ.out _ (HB5.out W h.out)).cell (i := 5) rfl))) S0 ?_
      refine held_take (i := 12) (v := .pointer (some ⟨wx.heap.size, 2, none⟩)) (some 40) rfl rfl (by kernel_rfl) (by kernel_rfl) (by kernel_rfl) (fun _ _ _ h => h) (yieldsIf_run (by kernel_rfl) (fun W _ => by kernel_rfl)) S0 ?_
      refine held_take (i := 13) (v := .agg #[.int .i64 (j : Int), .int .i64 (b : Int)]) (some 41) rfl rfl (by kernel_rfl) (by kernel_rfl) (by kernel_rfl) (fun _ _ _ h => h) (yieldsIf_cell (by kernel_rfl) rfl (by kernel_rfl) (fun W h => hload2Bo W ((HP5.out W h.out).cell (i := 2) rfl) ((HP5.out W h.out).cell (i := 3) rfl))) S0 ?_
      refine held_enter (i := 9) (some 37) (f := 174) (args := #[.agg #[.int .i64 p, .slice ad ds.length cap, mv], .agg #[.int .i64 (i : Int), .int .i64 (a : Int)]]) (by kernel_rfl) rfl rfl rfl (by kernel_rfl) (unitElement_any p i a ri _ _ ds _ (HDS.out _ (HT.out _ (HB5.out _ S0.out))) hi hgi hai (by omega)) ?_ (fun c w' h => by obtain ⟨_, h, _⟩ := h; cases h) (fun w' h => by obtain ⟨_, h, _⟩ := h; cases h)
      rintro e6 w6 ⟨gi, he6, hgi6, hb6, hu6⟩
      injection he6 with he6
      subst he6
      have S1 : Hid (But gr w5 w6) := Lib.hid (S0.out.trans (But.of_below hb6))
      have HU6 := Lib.hid hu6
      have hgi1 : gr < gi := by have h1 := HGR.out; have h2 := S0.out.size; have h3 : w5.drew.heap.size ≤ gi := hgi6; omega
      refine ⟨S1, ?_⟩
      refine held_enter (i := 14) (some 42) (f := 174) (args := #[.agg #[.int .i64 p2, .slice ad2 ds2.length cap2, mv2], .agg #[.int .i64 (j : Int), .int .i64 (b : Int)]]) (by kernel_rfl) rfl rfl rfl (by kernel_rfl) (unitElement_any p2 j b rj _ _ ds2 _ (HDS2.out _ (HT.out _ (HB5.out _ S1.out))) hj hgj hbj (by omega)) ?_ (fun c w' h => by obtain ⟨_, h, _⟩ := h; cases h) (fun w' h => by obtain ⟨_, h, _⟩ := h; cases h)
      rintro e7 w7 ⟨gj, he7, hgj7, hb7, hu7⟩
      injection he7 with he7
      subst he7
      have S2 : Hid (But gr w5 w7) := Lib.hid (S1.out.trans (But.of_below hb7))
      have HU7 := Lib.hid hu7
      have HU67 := Lib.hid (HU6.out.of_block (hb7.block _ HU6.out.lt))
      have hgj1 : gr < gj := by have := HGR.out; have := S1.out.size; omega
      refine ⟨S2, ?_⟩
      have HRW7 : Hid (w7.rowIs gr 2 c (fun _ => .int .i64 0)) := Lib.hid (HROW5.out.of_block ((hb7.block _ (by have := HGR.out; have := S1.out.size; omega)).trans ((hb6.block _ (by show gr < w5.drew.heap.size; have := HGR.out; have := S0.out.size; omega)).trans rfl)))
      refine held_enter (i := 15) (some 43) (f := 116) (args := #[.slice (some ⟨gr, 0, none⟩) c c, .agg #[.int .i64 (i : Int), .slice (some ⟨gi, 0, none⟩) ri ri], .agg #[.int .i64 (j : Int), .slice (some ⟨gj, 0, none⟩) rj rj], c1, c2]) (by kernel_rfl) rfl rfl rfl (by kernel_rfl) (HIMG.out w7 k i a j b ri rj gi gj gr (HT.out _ (HB5.out _ S2.out)) hlt HQK.out hi hj hgi hgj hai hbj HU67.out HU7.out HRW7.out HGR.out.1 (by omega) (by omega)) ?_ (fun c w' h => by cases h.1) (fun w' h => by cases h.1)
      rintro e8 w8 ⟨he8, hbut, hrow⟩
      injection he8 with he8
      subst he8
      have S3 : Hid (But gr w5 w8) := Lib.hid (S2.out.trans hbut)
      refine ⟨S3, ?_⟩
      have HB8 : Hid (Below w1.heap.size w1 w8) := Lib.hid (HB5.out _ S3.out)
      have HT8 : Hid (Tb w8 gT m c (fun j q => if j < k + 1 then Zr j q else 0)) := Lib.hid ((HTB5.out.row' (j := k) (by rw [← HGE.out]; exact S3.out) (by rw [← HGE.out]; exact hrow)).congr (fun j2 _ q _ => by
        by_cases e : j2 = k
        · rw [if_pos e, if_pos (by omega), e]
        · rw [if_neg e]
          by_cases e2 : j2 < k
          · rw [if_pos e2, if_pos (by omega)]
          · rw [if_neg e2, if_neg (by omega)]))
      refine wpAnyH_done (by kernel_rfl) ?_ _
      simp only [Act.put, List.setIfInBounds_toArray, List.set_cons_zero, List.set_cons_succ]
      clear S0 S1 S2 S3 hb6 hb7 hu6 hu7 hbut hrow HB HTB hgi6 hgj7
      go_wp2
      go_roundw
      case rel => exact ⟨k + 1, by omega, by go_num, HB8, HT8⟩
      case measure => simp [intOf]; omega
    · have hki : ¬ (k : Int) < (m : Int) := by omega
      have hke : k = m := by omega
      have HTF : Hid (Tb wx gT m c Zr) := Lib.hid (HTB.out.congr (fun j hj q _ => by rw [if_pos (by omega)]))
      have HBF := Lib.hid (HT.out _ HB.out)
      clear hke
      go_wp2
      go_ret
      exact ⟨gT, rfl, by have := HGT.out; have := HS1.out; omega, HTF.out, HBF.out⟩
end Go.Proofs.Ytiokagnolbddlaa

namespace Go.Proofs.Ytiokagnolbddlaa
open Go.RowKit

theorem FamT.step' {W w1 : World} {G m k r c g : Nat} {f : Nat → Value} {gs rs cs : Nat → Nat} {Z : Nat → Nat → Nat → Int} (h : FamT W G m k f gs rs cs Z) (hb : Below W.heap.size W w1) (hg : W.heap.size ≤ g) (hr : r = rs k) (hc : c = cs k) (hm : Tb w1 g r c (Z k)) :
    FamT (w1.setCell ⟨G, k, none⟩ (.slice (some ⟨g, 0, none⟩) r r)) G m (k + 1) (fun j => if j = k then .slice (some ⟨g, 0, none⟩) r r else f j) (fun j => if j = k then g else gs j) rs cs Z := by
  subst hr hc
  have hlt := h.row.lt
  refine ⟨(h.row.of_block (hb.block _ hlt)).set k _, fun j hj => ?_, fun j hj => ?_, fun j hj => ?_, fun j hj => ?_⟩
  · by_cases e : j = k
    · subst e; simp
    · simp only [if_neg e]; exact h.val j (by omega)
  · by_cases e : j = k
    · simp only [if_pos e]; omega
    · simp only [if_neg e]; exact h.lo j (by omega)
  · have hjk : ¬ j = k := by omega
    simp only [if_neg hjk]
    by_cases e : j + 1 = k
    · simp only [if_pos e]; have := (h.tb j (by omega)).lt; omega
    · simp only [if_neg e]; exact h.inc j (by omega)
  · by_cases e : j = k
    · subst e
      simp only [if_true]
      exact hm.out (Or.inl (by show G < g; omega)) _
    · simp only [if_neg e]
      exact ((h.tb j (by omega)).below hb).out (Or.inl (h.lo j (by omega))) _
theorem hstoreT (w : World) {b o : Nat} {u : Value} (ad : Option Addr) (n c : Nat) (hc : w.cell? ⟨b, o, none⟩ = some u) (hf : w.frozen? ⟨b, o, none⟩ = false) : (Instr.storeAt 44 (.pointer (some ⟨b, o, none⟩)) (.slice ad n c)).run Try.prog w = .ok () (w.setCell ⟨b, o, none⟩ (.slice ad n c)) := by go_simp
section
variable {P : Program} {md : Region.Mode} {ops : Array Oper} {n : Nat} {Q : Exit → Act → World → Prop}
theorem lastQ_storeT {on : Oper} {a : Act} {w : World} (hn : ops[n]? = some on) (hg : on.guard = none) (hd : on.dst = none) (x y : Operand) (ho : on.op = .store 44 x y)
    (b o : Nat) (ad : Option Addr) (l c : Nat) (u : Value) (hx : a.eval x = .pointer (some ⟨b, o, none⟩)) (hy : a.eval y = .slice ad l c) (hc : w.cell? ⟨b, o, none⟩ = some u) (hf : w.frozen? ⟨b, o, none⟩ = false)
    (h : Q .normal a (w.setCell ⟨b, o, none⟩ (.slice ad l c))) : lastQ Try.prog ops n Q .normal a w :=
  lastQ_of hn hg (by
    have e : a.put on.dst undef = a := by rw [hd]; rfl
    rw [← e] at h
    unfold Oper.wp execOp
    simp only [ho, hx, hy, Sem.run_bind, Sem.run_pure, hstoreT w ad l c hc hf, Result.andThen_ok]
    exact h)
end

set_option maxHeartbeats 3200000 in
set_option maxRecDepth 100000 in
theorem familyTo_any (p p2 q q2 : Int) (G N base mb G2 N2 base2 mb2 : Nat) (dv mv dv2 mv2 ev nv ev2 nv2 c1 c2 : Value) (ds ds2 : List Int) (f f2 : Nat → Value) (S2 : List PV) (Zr : Nat → Nat → Nat → Int) (w : World) (h : L1 0 w dv ds) (h2 : L1 0 w dv2 ds2) (hd : ∀ n, 0 ≤ dimZ ds n ∧ dimZ ds n ≤ 8) (hd2 : ∀ n, 0 ≤ dimZ ds2 n ∧ dimZ ds2 n ≤ 8)
    (hprs : Prs w base G N f (tsA (bsL ds ds.length) (bsL ds2 ds2.length) (bsL ds ds.length).length)) (hprs2 : Prs w base2 G2 N2 f2 S2) (hNN : N ≤ N2) (hN : N ≤ 1048576) (hrs : ∀ n, n < N → (prF (tsA (bsL ds ds.length) (bsL ds2 ds2.length) (bsL ds ds.length).length) ((n : Nat) : Int)).length ≤ 1048576) (hcs : ∀ n, n < N → (prF S2 ((n : Nat) : Int)).length ≤ 1048576)
    (himg : ∀ (n : Nat), n < N → ∀ (W : World) (k i a j b ri rj gi gj g : Nat), Below w.heap.size w W → k < (prF (tsA (bsL ds ds.length) (bsL ds2 ds2.length) (bsL ds ds.length).length) (n : Int)).length → (prF (tsA (bsL ds ds.length) (bsL ds2 ds2.length) (bsL ds ds.length).length) (n : Int))[k]? = some (((i : Int), (a : Int)), ((j : Int), (b : Int))) → i < ds.length → j < ds2.length → ds.getD i 0 = (ri : Int) → ds2.getD j 0 = (rj : Int) → a < ri → b < rj →
      W.rowIs gi 2 ri (fun q => .int .i64 (if q = a then 1 else 0)) → W.rowIs gj 2 rj (fun q => .int .i64 (if q = b then 1 else 0)) → W.rowIs g 2 (prF S2 (n : Int)).length (fun _ => .int .i64 0) → w.heap.size ≤ g → gi ≠ g → gj ≠ g →
      Calls Try.prog 116 #[.slice (some ⟨g, 0, none⟩) (prF S2 (n : Int)).length (prF S2 (n : Int)).length, .agg #[.int .i64 (i : Int), .slice (some ⟨gi, 0, none⟩) ri ri], .agg #[.int .i64 (j : Int), .slice (some ⟨gj, 0, none⟩) rj rj], c1, c2] W (AddR g (prF S2 (n : Int)).length (Zr n k) W)) :
    Calls Try.prog 115 #[.agg #[.int .i64 p, dv, mv, .int .i64 p2, dv2, mv2, .slice (some ⟨G, 0, none⟩) N N, .map (some mb)], .agg #[.int .i64 q, ev, nv, .int .i64 q2, ev2, nv2, .slice (some ⟨G2, 0, none⟩) N2 N2, .map (some mb2)], .func (.func 116) #[] #[c1, c2]] w (FamTR N (fun n => (prF (tsA (bsL ds ds.length) (bsL ds2 ds2.length) (bsL ds ds.length).length) ((n : Nat) : Int)).length) (fun n => (prF S2 ((n : Nat) : Int)).length) Zr w) := by
  obtain ⟨wa, hwa⟩ : ∃ wa, wa = w.alloc (.cells #[.int .i64 p, dv, mv, .int .i64 p2, dv2, mv2, .slice (some ⟨G, 0, none⟩) N N, .map (some mb)] 118) := ⟨_, rfl⟩
  have hba : Below w.heap.size w wa := by rw [hwa]; exact below_alloc1 _ _
  have hsa : wa.heap.size = w.heap.size + 1 := by rw [hwa]; simp
  have hza : Rz wa w.heap.size 118 #[.int .i64 p, dv, mv, .int .i64 p2, dv2, mv2, .slice (some ⟨G, 0, none⟩) N N, .map (some mb)] := by rw [hwa]; exact Rz.new _ _ _
  obtain ⟨w1, hw1⟩ : ∃ w1, w1 = wa.alloc (.cells #[.int .i64 q, ev, nv, .int .i64 q2, ev2, nv2, .slice (some ⟨G2, 0, none⟩) N2 N2, .map (some mb2)] 118) := ⟨_, rfl⟩
  have hb1 : Below wa.heap.size wa w1 := by rw [hw1]; exact below_alloc1 _ _
  have hs1 : w1.heap.size = w.heap.size + 2 := by rw [hw1]; simp [hsa]
  have hz2 : Rz w1 (w.heap.size + 1) 118 #[.int .i64 q, ev, nv, .int .i64 q2, ev2, nv2, .slice (some ⟨G2, 0, none⟩) N2 N2, .map (some mb2)] := by rw [hw1, ← hsa]; exact Rz.new _ _ _
  have hz1 := hza.next hb1
  have hw1b : w1 = (w.alloc (.cells #[.int .i64 p, dv, mv, .int .i64 p2, dv2, mv2, .slice (some ⟨G, 0, none⟩) N N, .map (some mb)] 118)).alloc (.cells #[.int .i64 q, ev, nv, .int .i64 q2, ev2, nv2, .slice (some ⟨G2, 0, none⟩) N2 N2, .map (some mb2)] 118) := by rw [hw1, hwa]
  have hb01 : Below w.heap.size w w1 := hba.trans (hb1.mono (by omega))
  have HT : Hid (∀ W, Below w1.heap.size w1 W → Below w.heap.size w W) := Lib.hid (fun W hb => hb01.trans (hb.mono (by omega)))
  have HZ : Hid (∀ W, Below w1.heap.size w1 W → Rz W w.heap.size 118 #[.int .i64 p, dv, mv, .int .i64 p2, dv2, mv2, .slice (some ⟨G, 0, none⟩) N N, .map (some mb)] ∧ Rz W (w.heap.size + 1) 118 #[.int .i64 q, ev, nv, .int .i64 q2, ev2, nv2, .slice (some ⟨G2, 0, none⟩) N2 N2, .map (some mb2)]) := Lib.hid (fun W hb => ⟨hz1.next hb, hz2.next hb⟩)
  have HH := Lib.hid h
  have HH2 := Lib.hid h2
  have HPR := Lib.hid hprs
  have HPR2 := Lib.hid hprs2
  have HIMG := Lib.hid himg
  have HS1 := Lib.hid hs1
  have hmk := run_make_row' (P := Try.prog) 23 44 (.slice none 0 0) 24 Try.underlying23 Try.infoSS rfl .i64 .i64 N (by omega) (by omega)
  have t6 := hz1.cell (i := 6) rfl
  clear hwa hw1 hba hb1 hza hsa hz1 hz2 hb01 h h2 hprs hprs2 himg hs1
  go_enter Try.func115, Try.ntmps115
  go_upto_region 1 with fail
  rw [← hw1b]
  clear hw1b
  go_wp2
  clear hmk t6
  go_loopw [8, 15] (fun _ i wr => ∃ (k : Nat) (f0 : Nat → Value) (gs : Nat → Nat), k ≤ N ∧ i = .int .i64 (k : Int) ∧ Hid (Below w1.heap.size w1 wr) ∧ Hid (FamT wr w1.heap.size N k f0 gs (fun n => (prF (tsA (bsL ds ds.length) (bsL ds2 ds2.length) (bsL ds ds.length).length) ((n : Nat) : Int)).length) (fun n => (prF S2 ((n : Nat) : Int)).length) Zr)) (fun _ i _ => N - (intOf i).toNat)
  case atStart => exact ⟨0, _, fun _ => 0, Nat.zero_le _, rfl, Lib.hid (below_alloc1 _ _), Lib.hid (FamT.start (World.rowIs_made w1 _ _ _))⟩
  case round =>
    obtain ⟨k, f0, gs, hk, rfl, HB, HF⟩ := hrel
    obtain ⟨wx, hwx⟩ : ∃ wx : World, wx = wr := ⟨_, rfl⟩
    subst hwx
    by_cases hlt : k < N
    · have hki : (k : Int) < (N : Int) := by omega
      have hk2 : k < N2 := by omega
      obtain ⟨apr, cpr, hfn⟩ := HPR2.out.shape hk2
      obtain ⟨c, hc⟩ : ∃ c, c = (prF S2 (k : Int)).length := ⟨_, rfl⟩
      rw [← hc] at hfn
      have HCD := Lib.hid hc
      have hc8 : c ≤ 1048576 := by rw [hc]; exact hcs k hlt
      obtain ⟨m, hm⟩ : ∃ m, m = (prF (tsA (bsL ds ds.length) (bsL ds2 ds2.length) (bsL ds ds.length).length) (k : Int)).length := ⟨_, rfl⟩
      have HMD := Lib.hid hm
      have hm8 : m ≤ 1048576 := by rw [hm]; exact hrs k hlt
      have HK2 : Hid (∀ W, Below w1.heap.size w1 W → W.cell? ⟨G2, k, none⟩ = some (.slice apr c cpr)) := Lib.hid (fun W hb => by rw [← hfn]; exact later (HT.out W hb) (Nat.le_refl _) (HPR2.out.row.cell hk2))
      have HPX : Hid (∀ W, Below w1.heap.size w1 W → Prs W base G N f (tsA (bsL ds ds.length) (bsL ds2 ds2.length) (bsL ds ds.length).length)) := Lib.hid (fun W hb => HPR.out.below (HT.out W hb))
      clear hfn hc hm
      go_upto_region 5 with fail
      refine wp_region_last (fun W => Hid (Below wx.heap.size wx W)) 10 (by kernel_rfl) rfl (by kernel_rfl) ?_
      have S0 : Hid (Below wx.heap.size wx wx.drew) := Lib.hid (Below.refl _ _).drew
      have HB1 : Hid (∀ W, Below wx.heap.size wx W → Below w1.heap.size w1 W) := Lib.hid (fun W hb => HB.out.trans (hb.mono HB.out.size))
      refine held_take (i := 0) (v := .slice (some ⟨w1.heap.size, 0, none⟩) N N) (some 18) rfl rfl (by kernel_rfl) (by kernel_rfl) (by kernel_rfl) (fun _ _ _ h => h) (yieldsIf_move (by kernel_rfl) rfl (by kernel_rfl)) S0 ?_
      refine held_take (i := 1) (v := .int .i64 (k : Int)) (some 19) rfl rfl (by kernel_rfl) (by kernel_rfl) (by kernel_rfl) (fun _ _ _ h => h) (yieldsIf_move (by kernel_rfl) rfl (by kernel_rfl)) S0 ?_
      refine held_take (i := 2) (v := .agg #[.int .i64 p, dv, mv, .int .i64 p2, dv2, mv2, .slice (some ⟨G, 0, none⟩) N N, .map (some mb)]) (some 20) rfl rfl (by kernel_rfl) (by kernel_rfl) (by kernel_rfl) (fun _ _ _ h => h) (yieldsIf_cell (by kernel_rfl) rfl (by kernel_rfl) (fun W h => hload8T W (HZ.out _ (HB1.out W h.out)).1)) S0 ?_
      refine held_take (i := 3) (v := .int .i64 (k : Int)) (some 21) rfl rfl (by kernel_rfl) (by kernel_rfl) (by kernel_rfl) (fun _ _ _ h => h) (yieldsIf_move (by kernel_rfl) rfl (by kernel_rfl)) S0 ?_
      refine held_take (i := 4) (v := .agg #[.int .i64 q, ev, nv, .int .i64 q2, ev2, nv2, .slice (some ⟨G2, 0, none⟩) N2 N2, .map (some mb2)]) (some 22) rfl rfl (by kernel_rfl) (by kernel_rfl) (by kernel_rfl) (fun _ _ _ h => h) (yieldsIf_cell (by kernel_rfl) rfl (by kernel_rfl) (fun W h => hload8T W (HZ.out _ (HB1.out W h.out)).2)) S0 ?_
      refine held_take (i := 5) (v := .int .i64 (k : Int)) (some 23) rfl rfl (by kernel_rfl) (by kernel_rfl) (by kernel_rfl) (fun _ _ _ h => h) (yieldsIf_move (by kernel_rfl) rfl (by kernel_rfl)) S0 ?_
      refine held_take (i := 7) (v := .func (.func 116) #[] #[c1, c2]) (some 25) rfl rfl (by kernel_rfl) (by kernel_rfl) (by kernel_rfl) (fun _ _ _ h => h) (yieldsIf_move (by kernel_rfl) rfl (by kernel_rfl)) S0 ?_
      refine held_enter (i := 6) (some 24) (f := 108) (args := #[.agg #[.int .i64 q, ev, nv, .int .i64 q2, ev2, nv2, .slice (some ⟨G2, 0, none⟩) N2 N2, .map (some mb2)], .int .i64 (k : Int)]) (by kernel_rfl) rfl rfl rfl (by kernel_rfl) (dim_any q q2 _ _ _ _ G2 N2 k mb2 c cpr apr _ (HK2.out _ (HB1.out _ S0.out)) hk2) ?_ (fun c w' h => by cases h.1) (fun w' h => by cases h.1)
      rintro e6 w6 ⟨he6, hb6⟩
      injection he6 with he6
      subst he6
      have S1 : Hid (Below wx.heap.size wx w6) := Lib.hid (S0.out.trans (hb6.mono S0.out.size))
      refine ⟨S1, ?_⟩
      refine held_enter (i := 8) (some 26) (f := 157) (args := #[.agg #[.int .i64 p, dv, mv, .int .i64 p2, dv2, mv2, .slice (some ⟨G, 0, none⟩) N N, .map (some mb)], .int .i64 (k : Int), .int .i64 (c : Int), .func (.func 116) #[] #[c1, c2]]) (by kernel_rfl) rfl rfl rfl (by kernel_rfl) (tableBy_any p p2 k c m G N base mb dv mv dv2 mv2 c1 c2 ds ds2 f (Zr k) w6 (HH.out.below (HT.out _ (HB1.out _ S1.out))) (HH2.out.below (HT.out _ (HB1.out _ S1.out))) hd hd2 (HPX.out _ (HB1.out _ S1.out)) hlt HMD.out hm8 hc8 (fun W k2 i a j b ri rj gi gj g hW hk3 => by rw [HMD.out] at hk3; have hcc : c = (prF S2 (k : Int)).length := HCD.out; subst hcc; intro x1 x2 x3 x4 x5 x6 x7 x8 x9 x10 x11 x12 x13; exact HIMG.out k hlt W k2 i a j b ri rj gi gj g ((HT.out _ (HB1.out _ S1.out)).trans (hW.mono (HT.out _ (HB1.out _ S1.out)).size)) hk3 x1 x2 x3 x4 x5 x6 x7 x8 x9 x10 (Nat.le_trans (HT.out _ (HB1.out _ S1.out)).size x11) x12 x13)) ?_ (fun c w' h => by obtain ⟨_, h, _⟩ := h; cases h) (fun w' h => by obtain ⟨_, h, _⟩ := h; cases h)
      rintro e7 w7 ⟨gT, he7, hgT, htb, hb7⟩
      injection he7 with he7
      subst he7
      have S2 : Hid (Below wx.heap.size wx w7) := Lib.hid (S1.out.trans (hb7.mono S1.out.size))
      refine ⟨S2, ?_⟩
      refine held_take (i := 9) (v := .pointer (some ⟨w1.heap.size, 0 + k, none⟩)) (some 27) rfl rfl (by kernel_rfl) (by kernel_rfl) (by kernel_rfl) (fun _ _ _ h => h) (yieldsIf_index (by kernel_rfl) rfl (by kernel_rfl) (by kernel_rfl) (hidxU w1.heap.size 0 N hlt)) S2 ?_
      refine held_none (i := 10) (v := .bool false) rfl rfl (by kernel_rfl) (by kernel_rfl) (by kernel_rfl) (fun _ _ _ h => h) (yieldsIf_move (by kernel_rfl) rfl (by kernel_rfl)) S2 ?_
      have hgx : wx.heap.size ≤ gT := Nat.le_trans S1.out.size hgT
      have hlr := HF.out.row.lt
      have hac : w7.cell? ⟨w1.heap.size, 0 + k, none⟩ = some (f0 k) := by rw [Nat.zero_add]; exact later S2.out (Nat.le_refl _) (HF.out.row.cell hlt)
      have hfz : w7.frozen? ⟨w1.heap.size, 0 + k, none⟩ = false := (HF.out.row.of_block (S2.out.block _ hlr)).frozen _
      have HS3 := Lib.hid (HF.out.step' (r := m) (c := c) (g := gT) S2.out hgx HMD.out HCD.out htb)
      have HB4 : Hid (Below w1.heap.size w1 (w7.setCell ⟨w1.heap.size, k, none⟩ (.slice (some ⟨gT, 0, none⟩) m m))) := Lib.hid ((HB1.out _ S2.out).setCell (Nat.le_refl _) _)
      refine wpAnyH_done (by kernel_rfl) (lastQ_storeT rfl (by kernel_rfl) (by kernel_rfl) (.tmp 27) (.tmp 26) (by kernel_rfl) w1.heap.size (0 + k) (some ⟨gT, 0, none⟩) m m _ (by kernel_rfl) (by kernel_rfl) hac hfz ?_) _
      rw [Nat.zero_add]
      simp only [Act.put, List.setIfInBounds_toArray, List.set_cons_zero, List.set_cons_succ]
      clear S0 S1 S2 hb6 hb7 htb hac hfz hgT hgx hlr HF HB
      go_wp2
      go_roundw
      case rel => exact ⟨k + 1, _, _, by omega, by go_num, HB4, HS3⟩
      case measure => simp [intOf]; omega
    · have hki : ¬ (k : Int) < (N : Int) := by omega
      have HKE : Hid (k = N) := Lib.hid (by omega)
      go_wp2
      go_ret
      have hf := HF.out
      rw [HKE.out] at hf
      exact ⟨w1.heap.size, f0, gs, rfl, by have := HS1.out; omega, hf, HT.out _ HB.out⟩
end Go.Proofs.Ytiokagnolbddlaa

namespace Go.Proofs.Ytiokagnolbddlaa
open Go.RowKit

open Classical in
/-- The code of SwapFamily. -/
noncomputable def swCode (p p2 : Int) (ds : List Int) (ms : List (List (List Int))) (ds2 : List Int) (ms2 : List (List (List Int))) : Int :=
  if prCode p p2 ds ms ds2 ms2 = 0 then (if Exc (tdD ds ds2) then 3 else 0) else prCode p p2 ds ms ds2 ms2
section
variable {p p2 : Int} {ds : List Int} {ms : List (List (List Int))} {ds2 : List Int} {ms2 : List (List (List Int))}
theorem swCode_pr (h : prCode p p2 ds ms ds2 ms2 ≠ 0) : swCode p p2 ds ms ds2 ms2 = prCode p p2 ds ms ds2 ms2 := if_neg h
theorem swCode_three (h : prCode p p2 ds ms ds2 ms2 = 0) (hn : Exc (tdD ds ds2)) : swCode p p2 ds ms ds2 ms2 = 3 := by
  unfold swCode
  rw [if_pos h, if_pos hn]
theorem swCode_ok (h : prCode p p2 ds ms ds2 ms2 = 0) (hn : ¬ Exc (tdD ds ds2)) : swCode p p2 ds ms ds2 ms2 = 0 := by
  unfold swCode
  rw [if_pos h, if_neg hn]
theorem swCode_zero (h : swCode p p2 ds ms ds2 ms2 = 0) : prCode p p2 ds ms ds2 ms2 = 0 ∧ ¬ Exc (tdD ds ds2) := by
  unfold swCode at h
  by_cases h0 : prCode p p2 ds ms ds2 ms2 = 0
  · rw [if_pos h0] at h
    by_cases h1 : Exc (tdD ds ds2)
    · rw [if_pos h1] at h
      cases h
    · exact ⟨h0, h1⟩
  · rw [if_neg h0] at h
    exact absurd h h0
end
/-- The sign of a swap. -/
def swV (p : Int) (i j : Nat) : Int := if ((i * j : Nat) : Int) % 2 = 0 then 1 else p - 1
/-- The swap's table of the degree n: its number in the row k and the column c. -/
def swZ (p : Int) (ds ds2 : List Int) (n k c : Nat) : Int :=
  match (prF (tsA (bsL ds ds.length) (bsL ds2 ds2.length) (bsL ds ds.length).length) (n : Int))[k]? with
  | some q => if c = plc (tsA (bsL ds2 ds2.length) (bsL ds ds.length) (bsL ds2 ds2.length).length) (q.2, q.1) then swV p q.1.1.toNat q.2.1.toNat else 0
  | none => 0
def swF (p : Int) (ds ds2 : List Int) : List (List (List Int)) := famL (tdL ds ds2) (fun n => (prF (tsA (bsL ds ds.length) (bsL ds2 ds2.length) (bsL ds ds.length).length) ((n : Nat) : Int)).length) (fun n => (prF (tsA (bsL ds2 ds2.length) (bsL ds ds.length) (bsL ds2 ds2.length).length) ((n : Nat) : Int)).length) (swZ p ds ds2)
/-- A basis vector as a list. -/
def unL (n a : Nat) : List Int := (List.range n).map fun q => if q = a then 1 else 0
theorem unL_length (n a : Nat) : (unL n a).length = n := by simp [unL]
theorem unL_bd {n a : Nat} {p : Int} (hp : 2 ≤ p) : ∀ x ∈ unL n a, 0 ≤ x ∧ x ≤ p - 1 := by
  intro x hx
  obtain ⟨q, _, rfl⟩ := List.mem_map.1 hx
  split <;> omega
theorem unL_getD {n a k : Nat} (hk : k < n) : (unL n a).getD k 0 = if k = a then 1 else 0 := by
  rw [getD_of_lt _ (by rw [unL_length]; exact hk)]
  simp [unL]
theorem unL_l1 {W : World} {g n a : Nat} (h : W.rowIs g 2 n (fun q => .int .i64 (if q = a then 1 else 0))) (hn : n ≤ 1048576) : L1 0 W (.slice (some ⟨g, 0, none⟩) n n) (unL n a) :=
  (row_rc (xs := unL n a) (lo := 0) h (unL_length n a) (fun i hi => by simp [unL]) hn (Nat.zero_le _)).1.l1
theorem adp_unit {p f : Int} {S0 rj ri b a : Nat} (hf0 : 0 ≤ f) (hf : f < p) (hb : b < rj) (ha : a < ri) (c : Nat) : adpZ p f S0 (unL rj b) (unL ri a) (fun _ => 0) (unL rj b).length 0 c = if c = S0 + b * ri + a then f else 0 := by
  unfold adpZ
  rw [unL_length, unL_length]
  have hle : b * ri + ri ≤ rj * ri := by
    have := Nat.mul_le_mul_right ri (show b + 1 ≤ rj from hb)
    rwa [Nat.succ_mul] at this
  by_cases h : S0 ≤ c ∧ c < S0 + rj * ri + 0
  · rw [if_pos h]
    obtain ⟨d, rfl⟩ := Nat.exists_eq_add_of_le h.1
    have hd : d < rj * ri := by omega
    rw [show S0 + d - S0 = d by omega]
    have h1 : d / ri < rj := Nat.div_lt_of_lt_mul (by rwa [Nat.mul_comm] at hd)
    have h2 : d % ri < ri := Nat.mod_lt _ (by omega)
    rw [unL_getD h1, unL_getD h2]
    have h3 : d = ri * (d / ri) + d % ri := (Nat.div_add_mod d ri).symm
    by_cases e : d = b * ri + a
    · have e1 : d / ri = b := by rw [e, Nat.add_comm, Nat.add_mul_div_right _ _ (by omega), Nat.div_eq_of_lt ha, Nat.zero_add]
      have e2 : d % ri = a := by rw [e, Nat.add_comm, Nat.add_mul_mod_self_right, Nat.mod_eq_of_lt ha]
      rw [if_pos e1, if_pos e2, if_pos (by omega), Int.mul_one, Int.mul_one, Int.zero_add]
      exact Int.emod_eq_of_lt hf0 hf
    · rw [if_neg (show ¬ S0 + d = S0 + b * ri + a by omega)]
      by_cases e1 : d / ri = b
      · have e2 : ¬ d % ri = a := fun e2 => e (by rw [e1, e2, Nat.mul_comm] at h3; exact h3)
        rw [if_neg e2]
        simp
      · rw [if_neg e1]
        simp
  · rw [if_neg h, if_neg (by omega)]

set_option maxHeartbeats 6400000 in
set_option maxRecDepth 100000 in
theorem swapFamily_any (p p2 : Int) (dv mv dv2 mv2 : Value) (ds : List Int) (ms : List (List (List Int))) (ds2 : List Int) (ms2 : List (List (List Int))) (w : World) (h : Cx 0 w dv mv ds ms) (h2 : Cx 0 w dv2 mv2 ds2 ms2) (hd : ds.length ≤ 1048576) (hm : Bd3 1048576 ms) (hd2 : ds2.length ≤ 1048576) (hm2 : Bd3 1048576 ms2) :
    Calls Try.prog 53 #[.agg #[.int .i64 p, dv, mv], .agg #[.int .i64 p2, dv2, mv2]] w (AnsW Rw3 (fun o => o = swF p ds ds2) [] (swCode p p2 ds ms ds2 ms2) w) := by
  obtain ⟨ad, cap, rfl⟩ := Sl.shape h.dims
  obtain ⟨am, capm, rfl⟩ := Sl.shape h.maps
  obtain ⟨ad2, cap2, rfl⟩ := Sl.shape h2.dims
  obtain ⟨am2, capm2, rfl⟩ := Sl.shape h2.maps
  obtain ⟨k1, k2⟩ := bx_two (p := p) (p2 := p2) 38 h h2
  have HX0 := Lib.hid k1
  have HY0 := Lib.hid k2
  have HM := Lib.hid hm
  have HM2 := Lib.hid hm2
  obtain ⟨w1, hw1⟩ : ∃ w1, w1 = ((w.alloc (.cells #[.int .i64 p, .slice ad ds.length cap, .slice am ms.length capm] 38)).alloc (.cells #[.int .i64 p2, .slice ad2 ds2.length cap2, .slice am2 ms2.length capm2] 38)) := ⟨_, rfl⟩
  rw [← hw1] at HX0 HY0
  have c0 := HX0.out.c0
  have c1 := HX0.out.c1
  have c2 := HX0.out.c2
  have d0 := HY0.out.c0
  have d1 := HY0.out.c1
  have d2 := HY0.out.c2
  obtain ⟨w2, hw2⟩ : ∃ w2, w2 = w1.alloc (.cells #[.int .i64 p, .slice ad ds.length cap, .slice am ms.length capm, .int .i64 p2, .slice ad2 ds2.length cap2, .slice am2 ms2.length capm2] 38) := ⟨_, rfl⟩
  have hr2 : Row2 w2 w1.heap.size p p2 (.slice ad ds.length cap) (.slice am ms.length capm) (.slice ad2 ds2.length cap2) (.slice am2 ms2.length capm2) := by
    rw [hw2]
    exact ⟨by simp, by simp, by simp, by simp, by simp, by simp⟩
  have hb2 : Below w1.heap.size w1 w2 := by rw [hw2]; exact below_alloc1 _ _
  have HX2 := Lib.hid (HX0.out.next hb2)
  have HY2 := Lib.hid (HY0.out.next hb2)
  have HCK := Lib.hid (checkPrimes2_any p p2 w1.heap.size _ _ _ _ ds ms ds2 ms2 w2 hr2 HX2.out.cx HY2.out.cx hd hm hd2 hm2)
  clear hr2 hb2
  obtain ⟨ec, hec⟩ : ∃ ec, ec = prCode p p2 ds ms ds2 ms2 := ⟨_, rfl⟩
  rw [← hec] at HCK
  have HEC := Lib.hid hec
  clear h h2 hm hm2 k1 k2 hec
  go_enter Try.func53, Try.ntmps53
  go_upto_region 1 with fail
  rw [← hw1]
  clear hw1
  go_wp2_with fail
  rw [← hw2]
  clear hw2
  refine HCK.out.mono ?_
  rintro ee w3 ⟨rfl, hb3⟩
  have HX3 := Lib.hid (HX2.out.next hb3)
  have HY3 := Lib.hid (HY2.out.next hb3)
  clear hb3 c0 c1 c2 d0 d1 d2 HX0 HY0 HX2 HY2 HCK
  have HN3 : Hid (∀ W, Below w3.heap.size w3 W → Bx w W w.heap.size p (.slice ad ds.length cap) (.slice am ms.length capm) ds ms ∧ Bx w W (w.heap.size + 1) p2 (.slice ad2 ds2.length cap2) (.slice am2 ms2.length capm2) ds2 ms2) := Lib.hid (fun W hb => ⟨HX3.out.next hb, HY3.out.next hb⟩)
  have hs3 := HX3.out.below.size
  by_cases h0 : ec = 0
  · subst h0
    have HE := Lib.hid (prCode_zero HEC.out.symm)
    have c0 := (HN3.out _ (Below.refl _ _)).1.c0
    have c1 := (HN3.out _ (Below.refl _ _)).1.c1
    have c2 := (HN3.out _ (Below.refl _ _)).1.c2
    have d0 := (HN3.out _ (Below.refl _ _)).2.c0
    have d1 := (HN3.out _ (Below.refl _ _)).2.c1
    have d2 := (HN3.out _ (Below.refl _ _)).2.c2
    go_wp2_with fail
    refine (tensorExceeds_any p p2 _ _ _ _ ds ms ds2 ms2 w3 HX3.out.cx HY3.out.cx HE.out.x HE.out.y).mono ?_
    rintro ee w4 ⟨b1, rfl, hb4, hb1⟩
    have HX4 := Lib.hid (HX3.out.next hb4)
    have HY4 := Lib.hid (HY3.out.next hb4)
    have HB1 := Lib.hid hb1
    clear c0 c1 c2 d0 d1 d2
    clear hb4 hb1
    cases b1
    · have HNE : Hid (¬ Exc (tdD ds ds2)) := Lib.hid (fun hh => by have := HB1.out.2 hh; cases this)
      have c0 := HX4.out.c0
      have c1 := HX4.out.c1
      have c2 := HX4.out.c2
      have d0 := HY4.out.c0
      have d1 := HY4.out.c1
      have d2 := HY4.out.c2
      go_wp2_with fail
      refine (tensorOf_any p2 p _ _ _ _ ds2 ms2 ds ms w4 HY4.out.cx HX4.out.cx HE.out.y HE.out.x).mono ?_
      rintro ee w5 ⟨G2, mb2, N2, base2, nm2, f2, rfl, hN2, hG2, hmb2, hprs2, hpl2, hb5⟩
      have HX5 := Lib.hid (HX4.out.next hb5)
      have HY5 := Lib.hid (HY4.out.next hb5)
      have HPR2 := Lib.hid hprs2
      have HPL2 := Lib.hid hpl2
      clear hprs2 hpl2 hb5 c0 c1 c2 d0 d1 d2
      go_upto_region 7 with fail
      obtain ⟨w6, hw6⟩ : ∃ w6, w6 = w5.alloc (.cells #[.int .i64 p2, .slice ad2 ds2.length cap2, .slice am2 ms2.length capm2, .int .i64 p, .slice ad ds.length cap, .slice am ms.length capm, .slice (some ⟨G2, 0, none⟩) N2 N2, .map (some mb2)] 118) := ⟨_, rfl⟩
      have hb6 : Below w5.heap.size w5 w6 := by rw [hw6]; exact below_alloc1 _ _
      have hz6 : Rz w6 w5.heap.size 118 #[.int .i64 p2, .slice ad2 ds2.length cap2, .slice am2 ms2.length capm2, .int .i64 p, .slice ad ds.length cap, .slice am ms.length capm, .slice (some ⟨G2, 0, none⟩) N2 N2, .map (some mb2)] := by rw [hw6]; exact Rz.new _ _ _
      rw [← hw6]
      clear hw6
      have HX6 := Lib.hid (HX5.out.next hb6)
      have HY6 := Lib.hid (HY5.out.next hb6)
      have HZ6 := Lib.hid hz6
      have HB6 := Lib.hid hb6
      have HN6 : Hid (∀ W, Below w6.heap.size w6 W → Bx w W w.heap.size p (.slice ad ds.length cap) (.slice am ms.length capm) ds ms ∧ Bx w W (w.heap.size + 1) p2 (.slice ad2 ds2.length cap2) (.slice am2 ms2.length capm2) ds2 ms2) := Lib.hid (fun W hb => ⟨HX6.out.next hb, HY6.out.next hb⟩)
      clear hb6 hz6
      refine wp_region_held (S := fun W => Hid (Below w6.heap.size w6 W)) (by kernel_rfl) ?_
      have S0 : Hid (Below w6.heap.size w6 w6.drew) := Lib.hid (Below.refl _ _).drew
      refine held_take (i := 0) (v := .agg #[.int .i64 p, .slice ad ds.length cap, .slice am ms.length capm]) (some 21) rfl rfl (by kernel_rfl) (by kernel_rfl) (by kernel_rfl) (fun _ _ _ h => h) (yieldsIf_cell (by kernel_rfl) rfl (by kernel_rfl) (fun W h => hload3x (HN6.out W h.out).1)) S0 ?_
      refine held_take (i := 1) (v := .agg #[.int .i64 p2, .slice ad2 ds2.length cap2, .slice am2 ms2.length capm2]) (some 22) rfl rfl (by kernel_rfl) (by kernel_rfl) (by kernel_rfl) (fun _ _ _ h => h) (yieldsIf_cell (by kernel_rfl) rfl (by kernel_rfl) (fun W h => hload3x (HN6.out W h.out).2)) S0 ?_
      refine held_take (i := 3) (v := .agg #[.int .i64 p2, .slice ad2 ds2.length cap2, .slice am2 ms2.length capm2, .int .i64 p, .slice ad ds.length cap, .slice am ms.length capm, .slice (some ⟨G2, 0, none⟩) N2 N2, .map (some mb2)]) (some 24) rfl rfl (by kernel_rfl) (by kernel_rfl) (by kernel_rfl) (fun _ _ _ h => h) (yieldsIf_cell (by kernel_rfl) rfl (by kernel_rfl) (fun W h => hload8T W (HZ6.out.next h.out))) S0 ?_
      refine held_take (i := 4) (v := .func (.func 116) #[] #[.pointer (some ⟨w5.heap.size, 0, none⟩), .pointer (some ⟨w.heap.size, 0, none⟩)]) (some 25) rfl rfl (by kernel_rfl) (by kernel_rfl) (by kernel_rfl) (fun _ _ _ h => h) (yieldsIf_run (by kernel_rfl) (fun W _ => by kernel_rfl)) S0 ?_
      refine held_enter (i := 2) (some 23) (f := 107) (args := #[.agg #[.int .i64 p, .slice ad ds.length cap, .slice am ms.length capm], .agg #[.int .i64 p2, .slice ad2 ds2.length cap2, .slice am2 ms2.length capm2]]) (by kernel_rfl) rfl rfl rfl (by kernel_rfl) (tensorOf_any p p2 _ _ _ _ ds ms ds2 ms2 _ (HN6.out _ S0.out).1.cx (HN6.out _ S0.out).2.cx HE.out.x HE.out.y) ?_ (fun c w' h => by obtain ⟨_, _, _, _, _, _, h, _⟩ := h; cases h) (fun w' h => by obtain ⟨_, _, _, _, _, _, h, _⟩ := h; cases h)
      rintro e7 w7 ⟨G, mb, N, base, nm, f, he7, hN, hG, hmb, hprs, hpl, hb7⟩
      injection he7 with he7
      subst he7
      have S1 : Hid (Below w6.heap.size w6 w7) := Lib.hid (S0.out.trans (hb7.mono S0.out.size))
      refine ⟨S1, ?_⟩
      have HNE2 : Hid (N = N2) := Lib.hid (by omega)
      have hl1 := HE.out.x.1.len1
      have hl2 := HE.out.y.1.len1
      have HFT := Lib.hid (familyTo_any p p2 p2 p G N base mb G2 N2 base2 mb2 (.slice ad ds.length cap) (.slice am ms.length capm) (.slice ad2 ds2.length cap2) (.slice am2 ms2.length capm2) (.slice ad2 ds2.length cap2) (.slice am2 ms2.length capm2) (.slice ad ds.length cap) (.slice am ms.length capm) (.pointer (some ⟨w5.heap.size, 0, none⟩)) (.pointer (some ⟨w.heap.size, 0, none⟩)) ds ds2 f f2 (tsA (bsL ds2 ds2.length) (bsL ds ds.length) (bsL ds2 ds2.length).length) (swZ p ds ds2) w7 (HN6.out _ S1.out).1.cx.dims (HN6.out _ S1.out).2.cx.dims (fun n => dimZ_b HE.out.x n) (fun n => dimZ_b HE.out.y n) hprs (HPR2.out.below (HB6.out.trans (S1.out.mono HB6.out.size))) (by omega) (by omega) (fun n _ => by rw [pv_n]; exact Nat.le_trans (plS_bd HE.out.x HE.out.y _ _) (by omega)) (fun n _ => by rw [pv_n]; exact Nat.le_trans (plS_bd HE.out.y HE.out.x _ _) (by omega)) (by
        intro n hn W k i a j b ri rj gi gj g hW hk hq hi hj hri hrj ha hb hui huj hrow hg hgi hgj
        have hWX := HN6.out _ (S1.out.trans (hW.mono S1.out.size))
        have hW5 : Below w5.heap.size w5 W := (HB6.out.trans (S1.out.mono HB6.out.size)).trans (hW.mono (HB6.out.trans (S1.out.mono HB6.out.size)).size)
        have hg5 : w6.heap.size ≤ g := Nat.le_trans S1.out.size hg
        have h56 := HB6.out.size
        have hxs := HX5.out.lt
        have hz5l := HZ6.out.lt
        have hg1 : w5.heap.size ≠ g := by omega
        have hdi : dimZ ds (i : Int) = (ri : Int) := by rw [dimZ_in rfl hi, ← hri, getD_of_lt _ hi]
        have hdj : dimZ ds2 (j : Int) = (rj : Int) := by rw [dimZ_in rfl hj, ← hrj, getD_of_lt _ hj]
        have hbi := dimZ_b HE.out.x (i : Int)
        have hbj := dimZ_b HE.out.y (j : Int)
        have hmem : (((i : Int), (a : Int)), ((j : Int), (b : Int))) ∈ prF (tsA (bsL ds ds.length) (bsL ds2 ds2.length) (bsL ds ds.length).length) (n : Int) := List.mem_of_getElem? hq
        have hdg : (i : Int) + (j : Int) = (n : Int) := (prF_mem.1 hmem).2
        have hpp := HE.out.prime
        have hlo := HE.out.x.1.prime.lo
        have hhi := HE.out.x.1.prime.hi
        have hf : 0 ≤ swV p i j ∧ swV p i j ≤ 6 := by unfold swV; split <;> omega
        have hf2 : swV p i j < p2 := by unfold swV; split <;> omega
        have hij : i * j ≤ 6 * 6 := Nat.mul_le_mul (by omega) (by omega)
        have hwl := hrow.lt
        have hUL : ∀ W2, But g W W2 → L1 0 W2 (.slice (some ⟨gi, 0, none⟩) ri ri) (unL ri a) := fun W2 h2 => unL_l1 (hui.of_block (h2.block _ hui.lt hgi)) (by omega)
        have hVL : ∀ W2, But g W W2 → L1 0 W2 (.slice (some ⟨gj, 0, none⟩) rj rj) (unL rj b) := fun W2 h2 => unL_l1 (huj.of_block (h2.block _ huj.lt hgj)) (by omega)
        have hfit : plS ds2 ds ((j : Int) + (i : Int)) j + (unL rj b).length * (unL ri a).length ≤ (prF (tsA (bsL ds2 ds2.length) (bsL ds ds.length) (bsL ds2 ds2.length).length) (n : Int)).length := by rw [pv_n, ← hdg, Int.add_comm (i : Int) (j : Int)]; exact pv_fit hj (by rw [unL_length, hdj]) (by rw [unL_length, hdi])
        have hpls : ∀ b2 a2 : Nat, b2 < (unL rj b).length → a2 < (unL ri a).length → Wf4 (((j : Int), (b2 : Int)), ((i : Int), (a2 : Int))) ∧ (((j : Int), (b2 : Int)), ((i : Int), (a2 : Int))) ∈ (tsA (bsL ds2 ds2.length) (bsL ds ds.length) (bsL ds2 ds2.length).length) ∧ plc (tsA (bsL ds2 ds2.length) (bsL ds ds.length) (bsL ds2 ds2.length).length) (((j : Int), (b2 : Int)), ((i : Int), (a2 : Int))) = plS ds2 ds ((j : Int) + (i : Int)) j + b2 * (unL ri a).length + a2 := fun b2 a2 h1 h2 => ⟨⟨WalkArith.wf_i64 (by simp only []; omega), WalkArith.wf_i64 (by simp only []; rw [unL_length] at h1; omega), WalkArith.wf_i64 (by simp only []; omega), WalkArith.wf_i64 (by simp only []; rw [unL_length] at h2; omega)⟩, pv_mem hj hi (by rw [unL_length, hdj]) (by rw [unL_length, hdi]) h1 h2, pv_place hj (by rw [unL_length, hdj]) (by rw [unL_length, hdi]) h1 h2⟩
        have hmain := swap1_any p p2 (swV p i j) i j (.slice ad ds.length cap) (.slice am ms.length capm) (.slice ad2 ds2.length cap2) (.slice am2 ms2.length capm2) (.slice (some ⟨G2, 0, none⟩) N2 N2) (.slice (some ⟨gi, 0, none⟩) ri ri) (.slice (some ⟨gj, 0, none⟩) rj rj) w5.heap.size w.heap.size (plS ds2 ds ((j : Int) + (i : Int)) j) g (prF (tsA (bsL ds2 ds2.length) (bsL ds ds.length) (bsL ds2 ds2.length).length) (n : Int)).length mb2 nm2 (unL ri a) (unL rj b) (tsA (bsL ds2 ds2.length) (bsL ds ds.length) (bsL ds2 ds2.length).length) W HE.out.y.1.prime HE.out.x.1.prime hf rfl (by omega) (HZ6.out.next (S1.out.trans (hW.mono S1.out.size))) hWX.1.c0 hg1 (by omega) hrow (fun W2 h2 => HPL2.out.below (hW5.trans (h2.below (by omega) (by omega)))) hUL hVL (unL_bd (by omega)) (unL_bd (by omega)) hpls hfit (by rw [unL_length]; omega) (by rw [unL_length]; omega)
        skip
        have hfun : adpZ p2 (swV p i j) (plS ds2 ds ((j : Int) + (i : Int)) j) (unL rj b) (unL ri a) (fun _ => 0) (unL rj b).length 0 = swZ p ds ds2 n k := by
          funext c
          rw [adp_unit hf.1 hf2 hb ha]
          unfold swZ
          rw [hq]
          simp only [Int.toNat_natCast]
          have e1 := (hpls b a (by rw [unL_length]; exact hb) (by rw [unL_length]; exact ha)).2.2
          rw [unL_length] at e1
          rw [e1]
        rw [hfun] at hmain
        exact hmain))
      refine held_enter (i := 5) (some 26) (f := 115) (args := #[.agg #[.int .i64 p, .slice ad ds.length cap, .slice am ms.length capm, .int .i64 p2, .slice ad2 ds2.length cap2, .slice am2 ms2.length capm2, .slice (some ⟨G, 0, none⟩) N N, .map (some mb)], .agg #[.int .i64 p2, .slice ad2 ds2.length cap2, .slice am2 ms2.length capm2, .int .i64 p, .slice ad ds.length cap, .slice am ms.length capm, .slice (some ⟨G2, 0, none⟩) N2 N2, .map (some mb2)], .func (.func 116) #[] #[.pointer (some ⟨w5.heap.size, 0, none⟩), .pointer (some ⟨w.heap.size, 0, none⟩)]]) (by kernel_rfl) rfl rfl rfl (by kernel_rfl) HFT.out ?_ (fun c w' h => by obtain ⟨_, _, _, h, _⟩ := h; cases h) (fun w' h => by obtain ⟨_, _, _, h, _⟩ := h; cases h)
      rintro e8 w8 ⟨Gf, f8, gs8, he8, hGf, hfam, hb8⟩
      injection he8 with he8
      subst he8
      have S2 : Hid (Below w6.heap.size w6 w8) := Lib.hid (S1.out.trans (hb8.mono S1.out.size))
      refine ⟨S2, ?_⟩
      have hwG : w.heap.size ≤ Gf := Nat.le_trans (Nat.le_trans HX6.out.below.size S1.out.size) hGf
      have HRW := Lib.hid (hfam.rw3 hwG (by omega) (fun n hn => ⟨by rw [pv_n]; exact Nat.le_trans (plS_bd HE.out.x HE.out.y _ _) (by omega), by rw [pv_n]; exact Nat.le_trans (plS_bd HE.out.y HE.out.x _ _) (by omega)⟩))
      have HBF := Lib.hid (HN6.out _ S2.out).1.below
      refine held_take (i := 6) (v := .slice (some ⟨Gf, 0, none⟩) N N) (some 4) rfl rfl (by kernel_rfl) (by kernel_rfl) (by kernel_rfl) (fun _ _ _ h => h) (yieldsIf_assign (by kernel_rfl) rfl (by kernel_rfl)) S2 ?_
      refine held_take (i := 7) (v := .int .i64 0) (some 5) rfl rfl (by kernel_rfl) (by kernel_rfl) (by kernel_rfl) (fun _ _ _ h => h) (yieldsIf_assign (by kernel_rfl) rfl (by kernel_rfl)) S2 ?_
      refine wpAnyH_done (by kernel_rfl) ?_ _
      simp only [Act.put, List.setIfInBounds_toArray, List.set_cons_zero, List.set_cons_succ]
      have HNL : Hid (N = tdL ds ds2) := Lib.hid (by unfold tdL; omega)
      clear S0 S1 S2 hprs hpl hb7 hb8 hfam HFT hG hmb hGf hG2 hmb2 hwG
      go_wp2
      go_ret2
      exact ⟨_, swF p ds ds2, 0, rfl, by unfold swF; rw [← HNL.out]; exact HRW.out, HBF.out, RsOut.of_yes (swCode_ok HEC.out.symm HNE.out) rfl⟩
    · have HNV : Hid (Exc (tdD ds ds2)) := Lib.hid (HB1.out.1 rfl)
      go_wp2
      go_ret2
      have hcode : swCode p p2 ds ms ds2 ms2 = 3 := swCode_three HEC.out.symm HNV.out
      refine ⟨_, [], 3, rfl, Rw3.nil _ _ _, HX4.out.below, ?_⟩
      rw [hcode]
      exact RsOut.of_no (by decide)
  · have hne2 : (ec != 0) = true := by simp [h0]
    have hne3 : (ec == 0) = false := by simp [h0]
    have HNE := Lib.hid h0
    clear h0
    go_wp2
    go_ret2
    refine ⟨_, [], ec, rfl, Rw3.nil _ _ _, HX3.out.below, ?_⟩
    rw [show swCode p p2 ds ms ds2 ms2 = ec from by rw [HEC.out]; exact swCode_pr (by rw [← HEC.out]; exact HNE.out)]
    exact RsOut.of_no HNE.out
end Go.Proofs.Ytiokagnolbddlaa

namespace Go.Proofs.Ytiokagnolbddlaa
open Go.RowKit

def sumZ (F : Nat → Int) : Nat → Int
  | 0 => 0
  | k + 1 => sumZ F k + F k
theorem sumZ_head (F : Nat → Int) (m : Nat) : sumZ F (m + 1) = F 0 + sumZ (fun k => F (k + 1)) m := by
  induction m with
  | zero => simp [sumZ]
  | succ m ih =>
    rw [sumZ, ih, sumZ]
    omega
theorem sumZ_congr {F G : Nat → Int} {m : Nat} (h : ∀ k, k < m → F k = G k) : sumZ F m = sumZ G m := by
  induction m with
  | zero => rfl
  | succ m ih => rw [sumZ, sumZ, ih (fun k hk => h k (by omega)), h m (by omega)]
theorem sumZ_rev (F : Nat → Int) (m : Nat) : sumZ (fun k => F (m - 1 - k)) m = sumZ F m := by
  induction m generalizing F with
  | zero => rfl
  | succ m ih =>
    rw [sumZ_head F m, sumZ]
    have h1 : sumZ (fun k => F (m + 1 - 1 - k)) m = sumZ (fun k => F (k + 1)) m := by
      rw [← ih (fun k => F (k + 1))]
      exact sumZ_congr (fun k hk => by show F (m + 1 - 1 - k) = F (m - 1 - k + 1); congr 1; omega)
    rw [h1, show m + 1 - 1 - m = 0 by omega]
    omega
theorem tdS_sum (ds ds2 : List Int) (n k : Nat) : tdS ds ds2 n k = sumZ (fun k => dimZ ds (k : Int) * dimZ ds2 ((n : Int) - (k : Int))) k := by
  induction k with
  | zero => rfl
  | succ k ih => rw [tdS, sumZ, ih]
theorem td_sym (ds ds2 : List Int) (n : Nat) : tdN ds ds2 n = tdN ds2 ds n := by
  unfold tdN
  rw [tdS_sum, tdS_sum, ← sumZ_rev]
  exact sumZ_congr (fun k hk => by
    show dimZ ds ((n + 1 - 1 - k : Nat) : Int) * dimZ ds2 ((n : Int) - ((n + 1 - 1 - k : Nat) : Int)) = dimZ ds2 (k : Int) * dimZ ds ((n : Int) - (k : Int))
    rw [show ((n + 1 - 1 - k : Nat) : Int) = (n : Int) - (k : Int) by omega, show (n : Int) - ((n : Int) - (k : Int)) = (k : Int) by omega, Int.mul_comm])
theorem dim_getD (ds : List Int) (i : Nat) : (ds.getD i 0).toNat = (dimZ ds (i : Int)).toNat := by
  by_cases h : i < ds.length
  · rw [dimZ_in rfl h, getD_of_lt _ h]
  · rw [dimZ_past (by omega), List.getD_eq_getElem?_getD, List.getElem?_eq_none (by omega)]
    rfl
theorem fm_past {α : Type} {F : Nat → List α} {a : Nat} (h : ∀ k, a ≤ k → F k = []) (d : Nat) : (List.range (a + d)).flatMap F = (List.range a).flatMap F := by
  induction d with
  | zero => rfl
  | succ d ih => rw [← Nat.add_assoc, List.range_succ, List.flatMap_append, ih, List.flatMap_cons, h (a + d) (by omega)]; simp
/-- The pairs of the degree n that stand ahead of the pair b of the row a of the degree i. -/
def pvP (ds ds2 : List Int) (n i a b : Nat) : List PV := (List.range i).flatMap (blkD ds ds2 (n : Int)) ++ ((List.range a).flatMap (fun (a2 : Nat) => blk ds2 (n : Int) ((i : Int), (a2 : Int))) ++ (List.range b).map (fun (c : Nat) => (((i : Int), (a : Int)), ((n : Int) - (i : Int), (c : Int)))))
theorem pvP_zero (ds ds2 : List Int) (n : Nat) : pvP ds ds2 n 0 0 0 = [] := by simp [pvP]
theorem pvP_b (ds ds2 : List Int) (n i a b : Nat) : pvP ds ds2 n i a (b + 1) = pvP ds ds2 n i a b ++ [(((i : Int), (a : Int)), ((n : Int) - (i : Int), (b : Int)))] := by
  unfold pvP
  rw [List.range_succ, List.map_append, List.map_cons, List.map_nil]
  simp only [List.append_assoc]
theorem pvP_a (ds ds2 : List Int) (n i a : Nat) : pvP ds ds2 n i a (dimZ ds2 ((n : Int) - (i : Int))).toNat = pvP ds ds2 n i (a + 1) 0 := by
  unfold pvP
  rw [List.range_succ (n := a), List.flatMap_append, List.flatMap_cons, List.flatMap_nil, List.append_nil, List.range_zero, List.map_nil, List.append_nil]
  rfl
theorem pvP_i (ds ds2 : List Int) (n i : Nat) : pvP ds ds2 n i (dimZ ds (i : Int)).toNat 0 = pvP ds ds2 n (i + 1) 0 0 := by
  unfold pvP
  rw [List.range_succ (n := i), List.flatMap_append, List.flatMap_cons, List.flatMap_nil, List.append_nil, List.range_zero, List.map_nil, List.append_nil, List.flatMap_nil, List.map_nil, List.append_nil, List.append_nil, ← dim_getD]
  rfl
theorem pvP_end (ds ds2 : List Int) (n : Nat) : pvP ds ds2 n (n + 1) 0 0 = prF (tsA (bsL ds ds.length) (bsL ds2 ds2.length) (bsL ds ds.length).length) (n : Int) := by
  have e : pvP ds ds2 n (n + 1) 0 0 = (List.range (n + 1)).flatMap (blkD ds ds2 (n : Int)) := by simp [pvP]
  rw [e, prF_blk]
  by_cases h : ds.length ≤ n + 1
  · obtain ⟨d, hd⟩ := Nat.exists_eq_add_of_le h
    rw [hd, fm_past (fun k hk => by
      unfold blkD
      rw [dim_getD, dimZ_past hk]
      rfl)]
  · obtain ⟨d, hd⟩ := Nat.exists_eq_add_of_le (show n + 1 ≤ ds.length by omega)
    rw [hd, fm_past (a := n + 1) (d := d) (fun k hk => by
      unfold blkD
      have hb : ∀ a : Nat, blk ds2 (n : Int) ((k : Int), (a : Int)) = [] := fun a => by
        unfold blk
        rw [dimZ_neg (ds := ds2) (n := (n : Int) - (k : Int)) (by omega)]
        rfl
      simp only [hb]
      induction (ds.getD k 0).toNat with
      | zero => rfl
      | succ m ih => rw [List.range_succ, List.flatMap_append, ih]; simp)]
theorem pvP_length (ds ds2 : List Int) (n i a b : Nat) : (pvP ds ds2 n i a b).length = plS ds ds2 (n : Int) i + (a * (dimZ ds2 ((n : Int) - (i : Int))).toNat + b) := by
  unfold pvP
  rw [List.length_append, List.length_append, plS_flat, flat_const (fun (a2 : Nat) => blk ds2 (n : Int) ((i : Int), (a2 : Int))) (dimZ ds2 ((n : Int) - (i : Int))).toNat (fun a2 => blk_length ds2 (n : Int) ((i : Int), (a2 : Int))), List.length_map, List.length_range]
/-- The row of a pair under the swap. -/
def swR (p : Int) (ds ds2 : List Int) (n : Nat) (q : PV) : List Int := (List.range (prF (tsA (bsL ds2 ds2.length) (bsL ds ds.length) (bsL ds2 ds2.length).length) (n : Int)).length).map fun c => if c = plc (tsA (bsL ds2 ds2.length) (bsL ds ds.length) (bsL ds2 ds2.length).length) (q.2, q.1) then swV p q.1.1.toNat q.2.1.toNat else 0
theorem swT_end (p : Int) (ds ds2 : List Int) (n : Nat) : (prF (tsA (bsL ds ds.length) (bsL ds2 ds2.length) (bsL ds ds.length).length) (n : Int)).map (swR p ds ds2 n) = tableOf (prF (tsA (bsL ds ds.length) (bsL ds2 ds2.length) (bsL ds ds.length).length) (n : Int)).length (prF (tsA (bsL ds2 ds2.length) (bsL ds ds.length) (bsL ds2 ds2.length).length) (n : Int)).length (swZ p ds ds2 n) := by
  refine List.ext_getElem (by simp [tableOf]) (fun k h1 h2 => ?_)
  have hk : k < (prF (tsA (bsL ds ds.length) (bsL ds2 ds2.length) (bsL ds ds.length).length) (n : Int)).length := by simpa using h1
  have e2 : (tableOf (prF (tsA (bsL ds ds.length) (bsL ds2 ds2.length) (bsL ds ds.length).length) (n : Int)).length (prF (tsA (bsL ds2 ds2.length) (bsL ds ds.length) (bsL ds2 ds2.length).length) (n : Int)).length (swZ p ds ds2 n))[k] = (List.range (prF (tsA (bsL ds2 ds2.length) (bsL ds ds.length) (bsL ds2 ds2.length).length) (n : Int)).length).map fun i => swZ p ds ds2 n k i := by simp [tableOf]
  rw [List.getElem_map, e2]
  unfold swR
  refine List.map_congr_left (fun c _ => ?_)
  unfold swZ
  rw [List.getElem?_eq_getElem hk]
def swRows (p : Int) (ds ds2 : List Int) (n i a b : Nat) : List (List Int) := (pvP ds ds2 n i a b).map (swR p ds ds2 n)
theorem swRows_b (p : Int) (ds ds2 : List Int) (n i a b : Nat) : swRows p ds ds2 n i a (b + 1) = swRows p ds ds2 n i a b ++ [swR p ds ds2 n (((i : Int), (a : Int)), ((n : Int) - (i : Int), (b : Int)))] := by
  unfold swRows
  rw [pvP_b, List.map_append, List.map_cons, List.map_nil]
theorem swRows_length (p : Int) (ds ds2 : List Int) (n i a b : Nat) : (swRows p ds ds2 n i a b).length = plS ds ds2 (n : Int) i + (a * (dimZ ds2 ((n : Int) - (i : Int))).toNat + b) := by
  unfold swRows
  rw [List.length_map, pvP_length]
/-- The first k tables. -/
def swK (p : Int) (ds ds2 : List Int) (k : Nat) : List (List (List Int)) := (List.range k).map fun n => swRows p ds ds2 n (n + 1) 0 0
theorem swK_succ (p : Int) (ds ds2 : List Int) (k : Nat) : swK p ds ds2 (k + 1) = swK p ds ds2 k ++ [swRows p ds ds2 k (k + 1) 0 0] := by
  unfold swK
  rw [List.range_succ, List.map_append, List.map_cons, List.map_nil]
theorem swK_length (p : Int) (ds ds2 : List Int) (k : Nat) : (swK p ds ds2 k).length = k := by simp [swK]
theorem swK_end (p : Int) (ds ds2 : List Int) : swK p ds ds2 (tdL ds ds2) = swF p ds ds2 := by
  unfold swK swF famL swRows
  refine List.map_congr_left (fun n _ => ?_)
  rw [pvP_end, swT_end]
end Go.Proofs.Ytiokagnolbddlaa

namespace Go.Proofs.Ytiokagnolbddlaa
open Go.RowKit

theorem sw_mod {p : Int} (hp : IsP p) (i j : Nat) : (1 - 2 * (((i * j : Nat) : Int) % 2)) % p = swV p i j := by
  unfold swV
  obtain ⟨m, hm⟩ : ∃ m : Int, m = ((i * j : Nat) : Int) := ⟨_, rfl⟩
  rw [← hm]
  have h2 : m % 2 = 0 ∨ m % 2 = 1 := by omega
  rcases hp with rfl | rfl | rfl | rfl <;> rcases h2 with h | h <;> rw [h] <;> simp
set_option maxHeartbeats 1600000 in
set_option maxRecDepth 100000 in
theorem l06Fits_any (vv : Value) (xs : List Int) (w : World) (hv : L1 0 w vv xs) (hl : xs.length ≤ 1048576) : Calls Try.prog 110 #[vv] w (BB (¬ Exc xs) w) := by
  obtain ⟨ad, cap, rfl⟩ := Sl.shape hv
  have HV := Lib.hid (fun W (h : Below w.heap.size w W) => hv.below h)
  have HC : Hid (∀ W, Below w.heap.size w W → ∀ j (h : j < xs.length), ∃ bd od, ad = some ⟨bd, od, none⟩ ∧ W.cell? ⟨bd, od + j, none⟩ = some (.int .i64 (xs.getD j 0))) := Lib.hid (fun W hb j hj => by
    refine Sl.cases (HV.out W hb) (fun _ _ hx _ => absurd hj (by simp [hx])) (fun b2 o2 c2 hv2 _ _ hc2 => ?_)
    injection hv2 with k1 _ _
    obtain ⟨u, hu, hru⟩ := hc2 j hj
    exact ⟨b2, o2, k1, by rw [hu, hru, getD_of_lt _ hj]⟩)
  clear hv HV
  go_enter Try.func110, Try.ntmps110
  go_wp2
  go_loopw [3] (fun x wr => ∃ k : Nat, k ≤ xs.length ∧ x = .int .i64 (k : Int) ∧ Hid (Below w.heap.size w wr) ∧ Hid (∀ j, j < k → xs.getD j 0 ≤ 8)) (fun x _ => xs.length - (intOf x).toNat)
  case atStart => exact ⟨0, Nat.zero_le _, rfl, Lib.hid (Below.refl _ _), Lib.hid (fun j hj => absurd hj (Nat.not_lt_zero _))⟩
  case round =>
    obtain ⟨k, hk, rfl, HB, HM⟩ := hrel
    by_cases hlt : k < xs.length
    · have hki : (k : Int) < (xs.length : Int) := by omega
      obtain ⟨bd, od, e1, ck⟩ := HC.out _ HB.out k hlt
      subst e1
      obtain ⟨x, hx⟩ : ∃ x, x = xs.getD k 0 := ⟨_, rfl⟩
      rw [← hx] at ck
      have HXD := Lib.hid hx
      clear hx
      by_cases h8 : 8 < x
      · have H8 := Lib.hid h8
        go_wp2
        go_ret
        exact bb_false HB.out (fun hh => hh (Or.inr ⟨k, hlt, by rw [← HXD.out]; exact H8.out⟩))
      · have H8 := Lib.hid h8
        have HM2 : Hid (∀ j, j < k + 1 → xs.getD j 0 ≤ 8) := Lib.hid (fun j hj => by
          by_cases e : j = k
          · rw [e, ← HXD.out]; omega
          · exact HM.out j (by omega))
        go_wp2
        go_roundw
        case rel => exact ⟨k + 1, by omega, by go_num, HB, HM2⟩
        case measure => simp [intOf]; omega
    · have hki : ¬ (k : Int) < (xs.length : Int) := by omega
      have HKE : Hid (k = xs.length) := Lib.hid (by omega)
      by_cases h6 : xs.length ≤ 6
      · have h6i : (xs.length : Int) ≤ 6 := by omega
        go_wp2
        go_ret
        refine bb_true HB.out ?_
        rintro (hh | ⟨j, hj, hh⟩)
        · omega
        · have := HM.out j (by rw [HKE.out]; exact hj)
          omega
      · have h6i : ¬ (xs.length : Int) ≤ 6 := by omega
        go_wp2
        go_ret
        exact bb_false HB.out (fun hh => hh (Or.inl (by omega)))

set_option maxHeartbeats 3200000 in
set_option maxRecDepth 100000 in
theorem spSwapFamily_any (p p2 : Int) (dv mv dv2 mv2 : Value) (ds : List Int) (ms : List (List (List Int))) (ds2 : List Int) (ms2 : List (List (List Int))) (w : World) (h : Cx 0 w dv mv ds ms) (h2 : Cx 0 w dv2 mv2 ds2 ms2) (hd : ds.length ≤ 1048576) (hm : Bd3 1048576 ms) (hd2 : ds2.length ≤ 1048576) (hm2 : Bd3 1048576 ms2) :
    Calls Try.prog 52 #[.agg #[.int .i64 p, dv, mv], .agg #[.int .i64 p2, dv2, mv2]] w (AnsS (L3 0) (fun o => o = swF p ds ds2) [] (swCode p p2 ds ms ds2 ms2) w) := by
  obtain ⟨ad, cap, rfl⟩ := Sl.shape h.dims
  obtain ⟨am, capm, rfl⟩ := Sl.shape h.maps
  obtain ⟨ad2, cap2, rfl⟩ := Sl.shape h2.dims
  obtain ⟨am2, capm2, rfl⟩ := Sl.shape h2.maps
  obtain ⟨k1, k2⟩ := bx_two (p := p) (p2 := p2) 38 h h2
  have HX0 := Lib.hid k1
  have HY0 := Lib.hid k2
  have HM := Lib.hid hm
  have HM2 := Lib.hid hm2
  obtain ⟨w1, hw1⟩ : ∃ w1, w1 = ((w.alloc (.cells #[.int .i64 p, .slice ad ds.length cap, .slice am ms.length capm] 38)).alloc (.cells #[.int .i64 p2, .slice ad2 ds2.length cap2, .slice am2 ms2.length capm2] 38)) := ⟨_, rfl⟩
  rw [← hw1] at HX0 HY0
  have c0 := HX0.out.c0
  have c1 := HX0.out.c1
  have c2 := HX0.out.c2
  have d0 := HY0.out.c0
  have d1 := HY0.out.c1
  have d2 := HY0.out.c2
  have HX2 := Lib.hid HX0.out
  have HY2 := Lib.hid HY0.out
  have HCK := Lib.hid (l06Two_any p p2 _ _ _ _ ds ms ds2 ms2 w1 HX0.out.cx HY0.out.cx hd hm hd2 hm2)
  obtain ⟨ec, hec⟩ : ∃ ec, ec = prCode p p2 ds ms ds2 ms2 := ⟨_, rfl⟩
  rw [← hec] at HCK
  have HEC := Lib.hid hec
  clear h h2 hm hm2 k1 k2 hec
  go_enter Try.func52, Try.ntmps52
  go_upto_region 1 with fail
  rw [← hw1]
  clear hw1
  go_wp2_with fail
  refine HCK.out.mono ?_
  rintro ee w3 ⟨rfl, hb3⟩
  have HX3 := Lib.hid (HX2.out.next hb3)
  have HY3 := Lib.hid (HY2.out.next hb3)
  clear hb3 c0 c1 c2 d0 d1 d2 HX0 HY0 HX2 HY2 HCK
  have HN3 : Hid (∀ W, Below w3.heap.size w3 W → Bx w W w.heap.size p (.slice ad ds.length cap) (.slice am ms.length capm) ds ms ∧ Bx w W (w.heap.size + 1) p2 (.slice ad2 ds2.length cap2) (.slice am2 ms2.length capm2) ds2 ms2) := Lib.hid (fun W hb => ⟨HX3.out.next hb, HY3.out.next hb⟩)
  have hs3 := HX3.out.below.size
  by_cases h0 : ec = 0
  · subst h0
    have HE := Lib.hid (prCode_zero HEC.out.symm)
    have hl6 := HE.out.x.1.len1
    have hl7 := HE.out.y.1.len1
    have hl60 := HE.out.x.1.len0
    have hl70 := HE.out.y.1.len0
    have c0 := (HN3.out _ (Below.refl _ _)).1.c0
    have c1 := (HN3.out _ (Below.refl _ _)).1.c1
    have c2 := (HN3.out _ (Below.refl _ _)).1.c2
    have d0 := (HN3.out _ (Below.refl _ _)).2.c0
    have d1 := (HN3.out _ (Below.refl _ _)).2.c1
    have d2 := (HN3.out _ (Below.refl _ _)).2.c2
    go_wp2_with fail
    refine (l06Dims_any p p2 _ _ _ _ ds ms ds2 ms2 w3 HX3.out.cx HY3.out.cx HE.out.x HE.out.y).mono ?_
    rintro ee w4 ⟨ud, rfl, hgb, hb4⟩
    have HX4 := Lib.hid (HX3.out.next hb4)
    have HY4 := Lib.hid (HY3.out.next hb4)
    obtain ⟨T, hT⟩ : ∃ T, T = tdL ds ds2 := ⟨_, rfl⟩
    obtain ⟨aq, cq, hud⟩ := Sl.shape hgb.l1
    rw [tdD_length, ← hT] at hud
    subst hud
    have HD4 := Lib.hid hgb.l1
    have HTL : Hid ((tdD ds ds2).length = T) := Lib.hid (by rw [tdD_length, hT])
    have hT20 : T ≤ 11 := by rw [hT]; unfold tdL; omega
    have HTD := Lib.hid hT
    clear hT
    clear c0 c1 c2 d0 d1 d2
    clear hgb hb4
    go_wp2_with fail
    refine (l06Fits_any _ (tdD ds ds2) _ HD4.out (by rw [HTL.out]; omega)).mono ?_
    rintro ee w5 ⟨b1, rfl, hb5, hb1⟩
    have HX5 := Lib.hid (HX4.out.next hb5)
    have HY5 := Lib.hid (HY4.out.next hb5)
    have HD5 := Lib.hid (HD4.out.below hb5)
    have HB1 := Lib.hid hb1
    clear hb5 hb1
    cases b1
    · have HNV : Hid (Exc (tdD ds ds2)) := Lib.hid (Classical.byContradiction (fun hh => by have := HB1.out.2 hh; cases this))
      go_wp2
      go_ret2
      have hcode : swCode p p2 ds ms ds2 ms2 = 3 := swCode_three HEC.out.symm HNV.out
      refine ⟨_, [], 3, rfl, Or.inl ⟨rfl, _, _, rfl⟩, HX5.out.below, ?_⟩
      rw [hcode]
      exact RsOut.of_no (by decide)
    · have HNE : Hid (¬ Exc (tdD ds ds2)) := Lib.hid (HB1.out.1 rfl)
      have HXY : Hid (∀ W, Below w5.heap.size w5 W → Bx w W w.heap.size p (.slice ad ds.length cap) (.slice am ms.length capm) ds ms ∧ Bx w W (w.heap.size + 1) p2 (.slice ad2 ds2.length cap2) (.slice am2 ms2.length capm2) ds2 ms2) := Lib.hid (fun W hb => ⟨HX5.out.next hb, HY5.out.next hb⟩)
      have HDD : Hid (∀ W, Below w5.heap.size w5 W → L1 0 W (.slice aq T cq) (tdD ds ds2)) := Lib.hid (fun W hb => HD5.out.below hb)
      have HTA : Hid (Gt w5.heap.size (w5.alloc (.cells #[] 44)) (.slice (some ⟨w5.heap.size, 0, none⟩) 0 0) []) := Lib.hid (Gt.new (base := w5.heap.size) w5 (Nat.le_refl _))
      go_wp2
      go_loopw [8, 9, 10, 11, 12, 13, 14] (fun ov x _ _ _ _ _ wr => ∃ n : Nat, n ≤ T ∧ x = .int .i64 (n : Int) ∧ Hid (Below w5.heap.size w5 wr) ∧ Hid (Gt w5.heap.size wr ov (swK p ds ds2 n))) (fun _ x _ _ _ _ _ _ => T - (intOf x).toNat)
      case atStart => exact ⟨0, Nat.zero_le _, rfl, Lib.hid (below_alloc1 _ _), Lib.hid (by simpa [swK] using HTA.out)⟩
      case round =>
        clear HTA
        obtain ⟨n, hn, rfl, HB, HG⟩ := hrel
        obtain ⟨wx, hwx⟩ : ∃ wx : World, wx = wr := ⟨_, rfl⟩
        subst hwx
        obtain ⟨ao, co, hov⟩ := Sl.shape HG.out.l3
        rw [swK_length] at hov
        subst hov
        have hsx : w5.heap.size ≤ wx.heap.size := HB.out.size
        by_cases hlt : n < T
        · have hki : (n : Int) < (T : Int) := by omega
          obtain ⟨N, hN⟩ : ∃ N, N = (prF (tsA (bsL ds2 ds2.length) (bsL ds ds.length) (bsL ds2 ds2.length).length) (n : Int)).length := ⟨_, rfl⟩
          have hNp : N = plS ds2 ds (n : Int) ds2.length := by rw [hN, pv_n]
          have hN8 : N ≤ 1048576 := by rw [hNp]; exact Nat.le_trans (plS_bd HE.out.y HE.out.x _ _) (by omega)
          have hnT : n < (tdD ds ds2).length := by rw [HTL.out]; exact hlt
          have hval : (tdD ds ds2)[n] = (N : Int) := by
            have h1 : (tdD ds ds2)[n] = tdN ds ds2 n := by simp [tdD]
            rw [h1, td_sym, ← tdS_full, td_pl (fun n => dimZ_b HE.out.y n) (fun n => dimZ_b HE.out.x n) n ds2.length (Nat.le_refl _), hNp]
          have HDN : Hid (∀ W, Below w5.heap.size w5 W → ∃ bd od, (some ⟨bd, od, none⟩ : Option Addr) = aq ∧ W.cell? ⟨bd, od + n, none⟩ = some (.int .i64 (N : Int))) := Lib.hid (fun W hb => by
            refine Sl.cases (HDD.out W hb) (fun _ _ hx _ => absurd hnT (by simp [hx])) (fun b2 o2 c2 hv2 _ _ hc2 => ?_)
            injection hv2 with k1 _ _
            obtain ⟨u, hu, hru⟩ := hc2 n hnT
            exact ⟨b2, o2, k1.symm, by rw [hu, hru, hval]⟩)
          obtain ⟨bd, od, hbd, _⟩ := HDN.out wx HB.out
          subst hbd
          have HDC : Hid (∀ W, Below w5.heap.size w5 W → W.cell? ⟨bd, od + n, none⟩ = some (.int .i64 (N : Int))) := Lib.hid (fun W hb => by
            obtain ⟨b2, o2, e, h⟩ := HDN.out W hb
            injection e with e
            injection e with e1 e2
            subst e1 e2
            exact h)
          have HND := Lib.hid hN
          clear hnT hval hNp hN HDN
          have HS0 := Lib.hid (Gs.new (base := wx.heap.size) wx (Nat.le_refl _))
          go_wp2
          go_loopw [10, 11, 12, 13, 14] (fun tv x _ _ _ wr => ∃ i : Nat, i ≤ n + 1 ∧ x = .int .i64 (i : Int) ∧ Hid (Below wx.heap.size wx wr) ∧ Hid (Gs wx.heap.size wr tv (swRows p ds ds2 n i 0 0))) (fun _ x _ _ _ _ => n + 1 - (intOf x).toNat)
          case atStart => exact ⟨0, Nat.zero_le _, rfl, Lib.hid (below_alloc1 _ _), Lib.hid (by simpa [swRows, pvP_zero] using HS0.out)⟩
          case round =>
            clear HS0
            obtain ⟨i, hi, rfl, HBI, HSI⟩ := hrel
            obtain ⟨wi, hwi⟩ : ∃ wi : World, wi = wr := ⟨_, rfl⟩
            subst hwi
            obtain ⟨at', ct, htv⟩ := Sl.shape HSI.out.l2
            subst htv
            have hsi : wx.heap.size ≤ wi.heap.size := HBI.out.size
            by_cases hin : i ≤ n
            · have hii : (i : Int) ≤ (n : Int) := by omega
              have hdi := dimZ_b HE.out.x (i : Int)
              obtain ⟨D, hD⟩ : ∃ D : Nat, dimZ ds (i : Int) = (D : Int) := ⟨(dimZ ds (i : Int)).toNat, by omega⟩
              have hD8 : D ≤ 8 := by omega
              have HDI := Lib.hid hD
              clear hdi hD
              have HDA : Hid (∀ W, Below w5.heap.size w5 W → Calls Try.prog 114 #[.agg #[.int .i64 p, .slice ad ds.length cap, .slice am ms.length capm], .int .i64 (i : Int)] W (BR (.int .i64 (D : Int)) W)) := Lib.hid (fun W h => by
                have := l01Dim_any p (i : Int) _ _ ds ms W (HXY.out W h).1.cx (by omega)
                rwa [HDI.out] at this)
              go_wp2
              go_loopw [10, 12, 13, 14] (fun tv x _ _ wr => ∃ a : Nat, a ≤ D ∧ x = .int .i64 (a : Int) ∧ Hid (Below wx.heap.size wx wr) ∧ Hid (Gs wx.heap.size wr tv (swRows p ds ds2 n i a 0))) (fun _ x _ _ _ => D - (intOf x).toNat)
              case atStart => exact ⟨0, Nat.zero_le _, rfl, HBI, HSI⟩
              case round =>
                clear HBI HSI
                obtain ⟨a, ha, rfl, HBA, HSA⟩ := hrel
                obtain ⟨wa, hwa⟩ : ∃ wa : World, wa = wr := ⟨_, rfl⟩
                subst hwa
                obtain ⟨at2, ct2, htv⟩ := Sl.shape HSA.out.l2
                subst htv
                have hsa : wx.heap.size ≤ wa.heap.size := HBA.out.size
                have HB5A := Lib.hid (HB.out.trans (HBA.out.mono hsx))
                have c0 := (HXY.out _ HB5A.out).1.c0
                have c1 := (HXY.out _ HB5A.out).1.c1
                have c2 := (HXY.out _ HB5A.out).1.c2
                have d0 := (HXY.out _ HB5A.out).2.c0
                have d1 := (HXY.out _ HB5A.out).2.c1
                have d2 := (HXY.out _ HB5A.out).2.c2
                go_wp2_with fail
                refine (HDA.out _ HB5A.out).mono ?_
                rintro ee wb ⟨rfl, hbb⟩
                have HBB := Lib.hid (HBA.out.trans (hbb.mono hsa))
                have HSB := Lib.hid (HSA.out.below hbb)
                clear hbb c0 c1 c2 d0 d1 d2
                by_cases hal : a < D
                · have hai : (a : Int) < (D : Int) := by omega
                  have hdj := dimZ_b HE.out.y ((n : Int) - (i : Int))
                  obtain ⟨E, hE⟩ : ∃ E : Nat, dimZ ds2 ((n : Int) - (i : Int)) = (E : Int) := ⟨(dimZ ds2 ((n : Int) - (i : Int))).toNat, by omega⟩
                  have hE8 : E ≤ 8 := by omega
                  have HEI := Lib.hid hE
                  clear hdj hE
                  have hwni : IntKind.i64.wrap ((n : Int) - (i : Int)) = (n : Int) - (i : Int) := IntWalk.i64_in _ (by omega)
                  have HDB : Hid (∀ W, Below w5.heap.size w5 W → Calls Try.prog 114 #[.agg #[.int .i64 p2, .slice ad2 ds2.length cap2, .slice am2 ms2.length capm2], .int .i64 ((n : Int) - (i : Int))] W (BR (.int .i64 (E : Int)) W)) := Lib.hid (fun W h => by
                    have := l01Dim_any p2 ((n : Int) - (i : Int)) _ _ ds2 ms2 W (HXY.out W h).2.cx (by omega)
                    rwa [HEI.out] at this)
                  go_wp2
                  go_loopw [10, 13, 14] (fun tv x _ wr => ∃ b : Nat, b ≤ E ∧ x = .int .i64 (b : Int) ∧ Hid (Below wx.heap.size wx wr) ∧ Hid (Gs wx.heap.size wr tv (swRows p ds ds2 n i a b))) (fun _ x _ _ => E - (intOf x).toNat)
                  case atStart => exact ⟨0, Nat.zero_le _, rfl, HBB, HSB⟩
                  case round =>
                    clear HBA HSA HBB HSB
                    obtain ⟨b, hb, rfl, HBC, HSC⟩ := hrel
                    obtain ⟨wc, hwc⟩ : ∃ wc : World, wc = wr := ⟨_, rfl⟩
                    subst hwc
                    obtain ⟨at3, ct3, htv⟩ := Sl.shape HSC.out.l2
                    subst htv
                    have hsc : wx.heap.size ≤ wc.heap.size := HBC.out.size
                    have HB5C := Lib.hid (HB.out.trans (HBC.out.mono hsx))
                    have c0 := (HXY.out _ HB5C.out).1.c0
                    have c1 := (HXY.out _ HB5C.out).1.c1
                    have c2 := (HXY.out _ HB5C.out).1.c2
                    have d0 := (HXY.out _ HB5C.out).2.c0
                    have d1 := (HXY.out _ HB5C.out).2.c1
                    have d2 := (HXY.out _ HB5C.out).2.c2
                    go_wp2_with fail
                    refine (HDB.out _ HB5C.out).mono ?_
                    rintro ee wd ⟨rfl, hbd⟩
                    have HBD := Lib.hid (HBC.out.trans (hbd.mono hsc))
                    have HSD := Lib.hid (HSC.out.below hbd)
                    clear hbd c0 c1 c2 d0 d1 d2
                    by_cases hbl : b < E
                    · have hbi : (b : Int) < (E : Int) := by omega
                      obtain ⟨j, hj⟩ := Nat.exists_eq_add_of_le hin
                      have hnj : (n : Int) - (i : Int) = (j : Int) := by omega
                      have hdx := HDI.out
                      have hdy := HEI.out
                      rw [hnj] at hdy
                      have hiL : i < ds.length := Classical.byContradiction (fun hh => by rw [dimZ_past (by omega)] at hdx; omega)
                      have hjL : j < ds2.length := Classical.byContradiction (fun hh => by rw [dimZ_past (by omega)] at hdy; omega)
                      have hwnj : IntKind.i64.wrap ((n : Int) - (i : Int)) = (j : Int) := by rw [hwni, hnj]
                      obtain ⟨pl, hpl⟩ : ∃ x, x = plS ds2 ds ((j : Int) + (i : Int)) j + (b * (dimZ ds (i : Int)).toNat + a) := ⟨_, rfl⟩
                      have hDt : (dimZ ds (i : Int)).toNat = D := by omega
                      have hfit := pv_fit (ds := ds2) (ds2 := ds) (us := unL E 0) (vs := unL D 0) (i := j) (j := i) hjL (by rw [unL_length, hdy]) (by rw [unL_length, hdx])
                      rw [unL_length, unL_length] at hfit
                      have hle : b * D + D ≤ E * D := by
                        have := Nat.mul_le_mul_right D (show b + 1 ≤ E from hbl)
                        rwa [Nat.succ_mul] at this
                      have hpN : pl < N := by rw [HND.out, pv_n, show (n : Int) = (j : Int) + (i : Int) by omega]; rw [hDt] at hpl; omega
                      have hplc := plc_at (ds := ds2) (ds2 := ds) (i := j) (a := b) (j := i) (b := a) hjL (by rw [dim_getD]; omega) (by omega)
                      rw [← hpl] at hplc
                      have hsv : (1 - 2 * (((i * j : Nat) : Int) % 2)) % p = swV p i j := sw_mod HE.out.x.1.prime _ _
                      have HCALL : Hid (∀ W, Below w5.heap.size w5 W → Calls Try.prog 104 #[.agg #[.int .i64 p2, .slice ad2 ds2.length cap2, .slice am2 ms2.length capm2], .agg #[.int .i64 p, .slice ad ds.length cap, .slice am ms.length capm], .int .i64 (j : Int), .int .i64 (b : Int), .int .i64 (i : Int), .int .i64 (a : Int)] W (BR (.int .i64 (pl : Int)) W)) := Lib.hid (fun W h => by
                        have := l06Place_any p2 p j b i a _ _ _ _ ds2 ms2 ds ms W (HXY.out _ h).2.cx (HXY.out _ h).1.cx HE.out.y HE.out.x hjL (by omega) (by omega) (by omega)
                        rwa [← hpl] at this)
                      have HMOD : Hid (∀ W, Calls Try.prog 80 #[.int .i64 p, .int .i64 (1 - 2 * (((i * j : Nat) : Int) % 2))] W (QW (.int .i64 (swV p i j)) W)) := Lib.hid (fun W => by have := l01Mod_any p (1 - 2 * (((i * j : Nat) : Int) % 2)) W HE.out.x.1.prime; rwa [hsv] at this)
                      have HROWL : Hid (swR p ds ds2 n (((i : Int), (a : Int)), ((n : Int) - (i : Int), (b : Int))) = (List.range N).map fun c => if c = pl then swV p i j else 0) := Lib.hid (by unfold swR; simp only []; rw [← HND.out, hnj, hplc]; simp only [Int.toNat_natCast])
                      have hij8 : i * j ≤ 6 * 6 := Nat.mul_le_mul (by omega) (by omega)
                      have hw1 : IntKind.i64.wrap ((i : Int) * (j : Int)) = ((i * j : Nat) : Int) := by rw [show (i : Int) * (j : Int) = ((i * j : Nat) : Int) by simp]; exact IntWalk.i64_in _ (by omega)
                      obtain ⟨mm, hmm⟩ : ∃ x, x = ((i * j : Nat) : Int) := ⟨_, rfl⟩
                      have hm0 : 0 ≤ mm ∧ mm ≤ 36 := by omega
                      rw [← hmm] at hw1 HMOD
                      have hw2 : IntKind.i64.wrap (2 * (mm % 2)) = 2 * (mm % 2) := IntWalk.i64_in _ (by omega)
                      have hw3 : IntKind.i64.wrap (1 - 2 * (mm % 2)) = 1 - 2 * (mm % 2) := IntWalk.i64_in _ (by omega)
                      have hsd : wx.heap.size ≤ wd.heap.size := HBD.out.size
                      have HB5D := Lib.hid (HB.out.trans (HBD.out.mono hsx))
                      have kc := HDC.out _ HB5D.out
                      have hmk := run_make_row' (P := Try.prog) 22 2 (.int .i64 0) 8 Try.underlying22 Try.infoI rfl .i64 .i64 N (by omega) (by omega)
                      clear hpl hfit hle hplc hsv hmm hdx hdy hj hij8
                      go_upto_region 22 with fail
                      obtain ⟨we, hwe⟩ : ∃ we, we = wd.alloc (.cells (madeCells #[.int .i64 0] N) 2) := ⟨_, rfl⟩
                      rw [← hwe]
                      have hbe : Below wd.heap.size wd we := by rw [hwe]; exact below_alloc1 _ _
                      have hse : we.heap.size = wd.heap.size + 1 := by rw [hwe]; simp
                      obtain ⟨g, hg⟩ : ∃ g, g = wd.heap.size := ⟨_, rfl⟩
                      have HRE : Hid (we.rowIs g 2 N (fun _ => .int .i64 0)) := Lib.hid (by rw [hwe, hg]; exact World.rowIs_made wd (.int .i64 0) N 2)
                      have HBE : Hid (Below wx.heap.size wx we) := Lib.hid (HBD.out.trans (hbe.mono hsd))
                      have HDW : Hid (∀ W, Below we.heap.size we W → Below wd.heap.size wd (W.setCell ⟨g, 0 + pl, none⟩ (.int .i64 (swV p i j)))) := Lib.hid (fun W h => (hbe.trans (h.mono hbe.size)).setCell (by show wd.heap.size ≤ g; omega) _)
                      have HGX : Hid (wx.heap.size ≤ g ∧ g < we.heap.size) := Lib.hid (by omega)
                      rw [← hg]
                      clear hwe hbe hse hg kc hmk
                      have S0 : Hid (Below we.heap.size we we.drew) := Lib.hid (Below.refl _ _).drew
                      have H5 : Hid (∀ W, Below we.heap.size we W → Below w5.heap.size w5 W) := Lib.hid (fun W h => HB.out.trans ((HBE.out.trans (h.mono HBE.out.size)).mono hsx))
                      refine wp_region_last (fun W => Hid (Below we.heap.size we W)) 22 (by kernel_rfl) rfl (by kernel_rfl) ?_
                      refine held_take (i := 0) (v := .slice (some ⟨g, 0, none⟩) N N) (some 61) rfl rfl (by kernel_rfl) (by kernel_rfl) (by kernel_rfl) (fun _ _ _ h => h) (yieldsIf_move (by kernel_rfl) rfl (by kernel_rfl)) S0 ?_
                      refine held_take (i := 1) (v := .agg #[.int .i64 p2, .slice ad2 ds2.length cap2, .slice am2 ms2.length capm2]) (some 62) rfl rfl (by kernel_rfl) (by kernel_rfl) (by kernel_rfl) (fun _ _ _ h => h) (yieldsIf_cell (by kernel_rfl) rfl (by kernel_rfl) (fun W h => hload3x (HXY.out W (H5.out W h.out)).2)) S0 ?_
                      refine held_take (i := 2) (v := .agg #[.int .i64 p, .slice ad ds.length cap, .slice am ms.length capm]) (some 63) rfl rfl (by kernel_rfl) (by kernel_rfl) (by kernel_rfl) (fun _ _ _ h => h) (yieldsIf_cell (by kernel_rfl) rfl (by kernel_rfl) (fun W h => hload3x (HXY.out W (H5.out W h.out)).1)) S0 ?_
                      refine held_take (i := 3) (v := .int .i64 (n : Int)) (some 64) rfl rfl (by kernel_rfl) (by kernel_rfl) (by kernel_rfl) (fun _ _ _ h => h) (yieldsIf_move (by kernel_rfl) rfl (by kernel_rfl)) S0 ?_
                      refine held_take (i := 4) (v := .int .i64 (i : Int)) (some 65) rfl rfl (by kernel_rfl) (by kernel_rfl) (by kernel_rfl) (fun _ _ _ h => h) (yieldsIf_move (by kernel_rfl) rfl (by kernel_rfl)) S0 ?_
                      refine held_take (i := 5) (v := .int .i64 (j : Int)) (some 66) rfl rfl (by kernel_rfl) (by kernel_rfl) (by kernel_rfl) (fun _ _ _ h => h) (yieldsIf_bin (by kernel_rfl) rfl (by kernel_rfl) (by kernel_rfl) (fun _ => rfl) (hsubA hwnj)) S0 ?_
                      refine held_take (i := 6) (v := .int .i64 (b : Int)) (some 67) rfl rfl (by kernel_rfl) (by kernel_rfl) (by kernel_rfl) (fun _ _ _ h => h) (yieldsIf_move (by kernel_rfl) rfl (by kernel_rfl)) S0 ?_
                      refine held_take (i := 7) (v := .int .i64 (i : Int)) (some 68) rfl rfl (by kernel_rfl) (by kernel_rfl) (by kernel_rfl) (fun _ _ _ h => h) (yieldsIf_move (by kernel_rfl) rfl (by kernel_rfl)) S0 ?_
                      refine held_take (i := 8) (v := .int .i64 (a : Int)) (some 69) rfl rfl (by kernel_rfl) (by kernel_rfl) (by kernel_rfl) (fun _ _ _ h => h) (yieldsIf_move (by kernel_rfl) rfl (by kernel_rfl)) S0 ?_
                      refine held_take (i := 10) (v := .pointer (some ⟨w.heap.size, 0, none⟩)) (some 71) rfl rfl (by kernel_rfl) (by kernel_rfl) (by kernel_rfl) (fun _ _ _ h => h) (yieldsIf_run (by kernel_rfl) (fun W _ => by kernel_rfl)) S0 ?_
                      refine held_take (i := 11) (v := .int .i64 p) (some 72) rfl rfl (by kernel_rfl) (by kernel_rfl) (by kernel_rfl) (fun _ _ _ h => h) (yieldsIf_cell (by kernel_rfl) rfl (by kernel_rfl) (fun W h => hload W (HXY.out W (H5.out W h.out)).1.c0)) S0 ?_
                      refine held_take (i := 12) (v := .int .i64 (i : Int)) (some 73) rfl rfl (by kernel_rfl) (by kernel_rfl) (by kernel_rfl) (fun _ _ _ h => h) (yieldsIf_move (by kernel_rfl) rfl (by kernel_rfl)) S0 ?_
                      refine held_take (i := 13) (v := .int .i64 (n : Int)) (some 74) rfl rfl (by kernel_rfl) (by kernel_rfl) (by kernel_rfl) (fun _ _ _ h => h) (yieldsIf_move (by kernel_rfl) rfl (by kernel_rfl)) S0 ?_
                      refine held_take (i := 14) (v := .int .i64 (i : Int)) (some 75) rfl rfl (by kernel_rfl) (by kernel_rfl) (by kernel_rfl) (fun _ _ _ h => h) (yieldsIf_move (by kernel_rfl) rfl (by kernel_rfl)) S0 ?_
                      refine held_take (i := 15) (v := .int .i64 (j : Int)) (some 76) rfl rfl (by kernel_rfl) (by kernel_rfl) (by kernel_rfl) (fun _ _ _ h => h) (yieldsIf_bin (by kernel_rfl) rfl (by kernel_rfl) (by kernel_rfl) (fun _ => rfl) (hsubA hwnj)) S0 ?_
                      refine held_take (i := 16) (v := .int .i64 mm) (some 77) rfl rfl (by kernel_rfl) (by kernel_rfl) (by kernel_rfl) (fun _ _ _ h => h) (yieldsIf_bin (by kernel_rfl) rfl (by kernel_rfl) (by kernel_rfl) (fun _ => rfl) (hmulA hw1)) S0 ?_
                      refine held_take (i := 17) (v := .int .i64 (mm % 2)) (some 78) rfl rfl (by kernel_rfl) (by kernel_rfl) (by kernel_rfl) (fun _ _ _ h => h) (yieldsIf_bin (by kernel_rfl) rfl (by kernel_rfl) (by kernel_rfl) (fun _ => rfl) (hremI hm0.1 (by omega) (by omega))) S0 ?_
                      refine held_take (i := 18) (v := .int .i64 (2 * (mm % 2))) (some 79) rfl rfl (by kernel_rfl) (by kernel_rfl) (by kernel_rfl) (fun _ _ _ h => h) (yieldsIf_bin (by kernel_rfl) rfl (by kernel_rfl) (by kernel_rfl) (fun _ => rfl) (hmulA hw2)) S0 ?_
                      refine held_take (i := 19) (v := .int .i64 (1 - 2 * (mm % 2))) (some 80) rfl rfl (by kernel_rfl) (by kernel_rfl) (by kernel_rfl) (fun _ _ _ h => h) (yieldsIf_bin (by kernel_rfl) rfl (by kernel_rfl) (by kernel_rfl) (fun _ => rfl) (hsubA hw3)) S0 ?_
                      refine held_enter (i := 9) (some 70) (f := 104) (args := #[.agg #[.int .i64 p2, .slice ad2 ds2.length cap2, .slice am2 ms2.length capm2], .agg #[.int .i64 p, .slice ad ds.length cap, .slice am ms.length capm], .int .i64 (j : Int), .int .i64 (b : Int), .int .i64 (i : Int), .int .i64 (a : Int)]) (by kernel_rfl) rfl rfl rfl (by kernel_rfl) (HCALL.out _ (H5.out _ S0.out)) ?_ (fun c w' h => by cases h.1) (fun w' h => by cases h.1)
                      rintro e6 w6 ⟨he6, hb6⟩
                      injection he6 with he6
                      subst he6
                      have S1 : Hid (Below we.heap.size we w6) := Lib.hid (S0.out.trans (hb6.mono S0.out.size))
                      refine ⟨S1, ?_⟩
                      refine held_enter (i := 20) (some 81) (f := 80) (args := #[.int .i64 p, .int .i64 (1 - 2 * (mm % 2))]) (by kernel_rfl) rfl rfl rfl (by kernel_rfl) (HMOD.out _) ?_ (fun c w' h => by cases h.1) (fun w' h => by cases h.1)
                      rintro e7 w7 ⟨he7, hw7⟩
                      injection he7 with he7
                      subst he7 hw7
                      refine ⟨S1, ?_⟩
                      refine held_take (i := 21) (v := .pointer (some ⟨g, 0 + pl, none⟩)) (some 82) rfl rfl (by kernel_rfl) (by kernel_rfl) (by kernel_rfl) (fun _ _ _ h => h) (yieldsIf_index (by kernel_rfl) rfl (by kernel_rfl) (by kernel_rfl) (hidxI g 0 N hpN)) S1 ?_
                      refine held_none (i := 22) (v := .bool false) rfl rfl (by kernel_rfl) (by kernel_rfl) (by kernel_rfl) (fun _ _ _ h => h) (yieldsIf_move (by kernel_rfl) rfl (by kernel_rfl)) S1 ?_
                      have hr6 := HRE.out.of_block (S1.out.block _ HGX.out.2)
                      have hac : w6.cell? ⟨g, 0 + pl, none⟩ = some (.int .i64 0) := by rw [Nat.zero_add]; exact hr6.cell hpN
                      have hfz : w6.frozen? ⟨g, 0 + pl, none⟩ = false := hr6.frozen _
                      have HRN : Hid ((w6.setCell ⟨g, 0 + pl, none⟩ (.int .i64 (swV p i j))).rowIs g 2 N (fun c => .int .i64 (if c = pl then swV p i j else 0))) := Lib.hid (by
                        rw [Nat.zero_add]
                        refine (hr6.set pl _).congr (fun c _ => ?_)
                        by_cases e : c = pl
                        · rw [if_pos e, if_pos e]
                        · rw [if_neg e, if_neg e])
                      have HBN : Hid (Below wx.heap.size wx (w6.setCell ⟨g, 0 + pl, none⟩ (.int .i64 (swV p i j)))) := Lib.hid ((HBE.out.trans (S1.out.mono HBE.out.size)).setCell (by show wx.heap.size ≤ g; exact HGX.out.1) _)
                      have HSN : Hid (Gs wx.heap.size (w6.setCell ⟨g, 0 + pl, none⟩ (.int .i64 (swV p i j))) (.slice at3 (swRows p ds ds2 n i a b).length ct3) (swRows p ds ds2 n i a b)) := Lib.hid (HSD.out.below (HDW.out _ S1.out))
                      refine wpAnyH_done (by kernel_rfl) (lastQ_storeI rfl (by kernel_rfl) (by kernel_rfl) (.tmp 82) (.tmp 81) (by kernel_rfl) g (0 + pl) (swV p i j) _ (by kernel_rfl) (by kernel_rfl) hac hfz ?_) _
                      simp only [Act.put, List.setIfInBounds_toArray, List.set_cons_zero, List.set_cons_succ]
                      obtain ⟨WN, hWN⟩ : ∃ WN, WN = w6.setCell ⟨g, 0 + pl, none⟩ (.int .i64 (swV p i j)) := ⟨_, rfl⟩
                      rw [← hWN] at HRN HBN HSN ⊢
                      clear hWN hac hfz hr6 S0 S1 hb6 hw1 hw2 hw3 hwnj hwni
                      have hsN : wx.heap.size ≤ WN.heap.size := HBN.out.size
                      obtain ⟨Lr, hLr⟩ : ∃ L, L = (swRows p ds ds2 n i a b).length := ⟨_, rfl⟩
                      rw [← hLr] at HSN ⊢
                      have hLr8 : Lr ≤ 1000 := by
                        have h1 := plS_bd HE.out.x HE.out.y (n : Int) i
                        have h2 : a * E ≤ 8 * 8 := Nat.mul_le_mul (by omega) (by omega)
                        have hEt : (dimZ ds2 ((n : Int) - (i : Int))).toNat = E := by have := HEI.out; omega
                        rw [hLr, swRows_length, hEt]
                        omega
                      have hba : Below WN.heap.size WN (WN.alloc (.cells #[.slice (some ⟨g, 0, none⟩) N N] 22)) := below_alloc1 _ _
                      have HSL := Lib.hid (HSN.out.below hba)
                      have HGU : Hid (G1 (WN.alloc (.cells #[.slice (some ⟨g, 0, none⟩) N N] 22)) (.slice (some ⟨g, 0, none⟩) N N) (swR p ds ds2 n (((i : Int), (a : Int)), ((n : Int) - (i : Int), (b : Int))))) := Lib.hid (by
                        rw [HROWL.out]
                        exact ((gb_row (base := 0) HRN.out (by simp) (fun q hq => by simp) (by unfold maxLen; omega) (Nat.zero_le _)).below hba).g1)
                      have HBZ := Lib.hid (HBN.out.trans (hba.mono hsN))
                      have hcell := cell_alloc1 WN (.slice (some ⟨g, 0, none⟩) N N) 22
                      have HLD := Lib.hid hLr
                      clear hba HSN hLr
                      go_wp2_with (at_builtin; refine wpList_appendG rfl (some 86) rfl (.tmp 83) (.tmp 85) rfl wx.heap.size _ (swRows p ds ds2 n i a b) rfl HSL.out WN.heap.size rfl (some ⟨g, 0, none⟩) N N hcell _ HGU.out ?c1 ?c2 ?_)
                      case c1 => rw [← HLD.out]; omega
                      case c2 => first | (simp; omega) | omega
                      intro v7 W7 hg7 hgr7
                      have HS7 : Hid (Gs wx.heap.size W7 v7 (swRows p ds ds2 n i a (b + 1))) := Lib.hid (by rw [swRows_b]; exact hg7)
                      have HB7 : Hid (Below wx.heap.size wx W7) := Lib.hid (HBZ.out.grown hgr7 (by simp; omega) (fun g hg => (HSL.out.lt g hg).1))
                      clear hg7 hgr7 hcell
                      go_wp2
                      go_roundw
                      case rel => exact ⟨b + 1, by omega, by go_num, HB7, HS7⟩
                      case measure => simp [intOf]; omega
                    · have hbi : ¬ (b : Int) < (E : Int) := by omega
                      have hbe : b = E := by omega
                      have HS2 : Hid (Gs wx.heap.size wd (.slice at3 (swRows p ds ds2 n i a b).length ct3) (swRows p ds ds2 n i (a + 1) 0)) := Lib.hid (by
                        have h := HSD.out
                        have e : swRows p ds ds2 n i a b = swRows p ds ds2 n i (a + 1) 0 := by unfold swRows; rw [← pvP_a, HEI.out, hbe]; rfl
                        rw [e] at h ⊢
                        exact h)
                      clear hbe
                      go_wp2
                      go_roundw
                      case rel => exact ⟨a + 1, by omega, by go_num, HBD, HS2⟩
                      case measure => simp [intOf]; omega
                · have hai : ¬ (a : Int) < (D : Int) := by omega
                  have hae : a = D := by omega
                  have HS2 : Hid (Gs wx.heap.size wb (.slice at2 (swRows p ds ds2 n i a 0).length ct2) (swRows p ds ds2 n (i + 1) 0 0)) := Lib.hid (by
                    have h := HSB.out
                    have e : swRows p ds ds2 n i a 0 = swRows p ds ds2 n (i + 1) 0 0 := by unfold swRows; rw [← pvP_i, HDI.out, hae]; rfl
                    rw [e] at h ⊢
                    exact h)
                  clear hae
                  go_wp2
                  go_roundw
                  case rel => exact ⟨i + 1, by omega, by go_num, HBB, HS2⟩
                  case measure => simp [intOf]; omega
            · have hii : ¬ (i : Int) ≤ (n : Int) := by omega
              have hie : i = n + 1 := by omega
              subst hie
              obtain ⟨Lr, hLr⟩ : ∃ L, L = (swRows p ds ds2 n (n + 1) 0 0).length := ⟨_, rfl⟩
              rw [← hLr] at HSI ⊢
              clear hLr
              have hba : Below wi.heap.size wi (wi.alloc (.cells #[.slice at' Lr ct] 44)) := below_alloc1 _ _
              have HGL := Lib.hid ((HG.out.below HBI.out).below hba)
              have HGU : Hid (Gs 0 (wi.alloc (.cells #[.slice at' Lr ct] 44)) (.slice at' Lr ct) (swRows p ds ds2 n (n + 1) 0 0)) := Lib.hid ((HSI.out.below hba).mono (Nat.zero_le _))
              have HBZ := Lib.hid ((HB.out.trans (HBI.out.mono hsx)).trans (hba.mono (Nat.le_trans hsx hsi)))
              have hcell := cell_alloc1 wi (.slice at' Lr ct) 44
              have hsw : w5.heap.size ≤ wi.heap.size := Nat.le_trans hsx hsi
              clear hba HSI
              go_wp2_with (at_builtin; refine wpList_appendT3 rfl (some 90) rfl (.tmp 87) (.tmp 89) rfl w5.heap.size _ (swK p ds ds2 n) rfl HGL.out wi.heap.size rfl at' Lr ct hcell _ HGU.out ?c1 ?c2 ?_)
              case c1 => rw [swK_length]; omega
              case c2 => first | (simp; omega) | omega
              intro v7 W7 hg7 hgr7
              have HG7 : Hid (Gt w5.heap.size W7 v7 (swK p ds ds2 (n + 1))) := Lib.hid (by rw [swK_succ]; exact hg7)
              have HB7 : Hid (Below w5.heap.size w5 W7) := Lib.hid (HBZ.out.grown hgr7 (by simp; omega) (fun g hg => (HGL.out.lt g hg).1))
              clear hg7 hgr7 hcell
              go_wp2
              go_roundw
              case rel => exact ⟨n + 1, by omega, by go_num, HB7, HG7⟩
              case measure => simp [intOf]; omega
        · have hki : ¬ (n : Int) < (T : Int) := by omega
          have HKE : Hid (n = T) := Lib.hid (by omega)
          have HBF := Lib.hid (HXY.out _ HB.out).1.below
          go_wp2
          go_ret2
          have hg := HG.out.l3
          refine ⟨_, swF p ds ds2, 0, rfl, ?_, HBF.out, RsOut.of_yes (swCode_ok HEC.out.symm HNE.out) rfl⟩
          rw [← swK_end, ← HTD.out, ← HKE.out]
          exact hg
  · have hne2 : (ec != 0) = true := by simp [h0]
    have hne3 : (ec == 0) = false := by simp [h0]
    have HNE := Lib.hid h0
    clear h0
    go_wp2
    go_ret2
    refine ⟨_, [], ec, rfl, Or.inl ⟨rfl, _, _, rfl⟩, HX3.out.below, ?_⟩
    rw [show swCode p p2 ds ms ds2 ms2 = ec from by rw [HEC.out]; exact swCode_pr (by rw [← HEC.out]; exact HNE.out)]
    exact RsOut.of_no HNE.out

theorem swF_bd {p p2 : Int} {ds : List Int} {ms : List (List (List Int))} {ds2 : List Int} {ms2 : List (List (List Int))} (h : swCode p p2 ds ms ds2 ms2 = 0) : Bd3 1048576 (swF p ds ds2) := by
  have hE := prCode_zero (swCode_zero h).1
  have h1 := hE.x.1.len1
  have h2 := hE.y.1.len1
  unfold swF
  refine ⟨by rw [famL_length]; unfold tdL; omega, fun t ht => ?_⟩
  obtain ⟨n, hn, rfl⟩ := List.mem_map.1 ht
  refine ⟨?_, fun r hr => ?_⟩
  · simp only [tableOf, List.length_map, List.length_range]
    rw [pv_n]
    exact Nat.le_trans (plS_bd hE.x hE.y _ _) (by omega)
  · simp only [tableOf] at hr
    obtain ⟨j, _, rfl⟩ := List.mem_map.1 hr
    simp only [Bd1, List.length_map, List.length_range]
    rw [pv_n]
    exact Nat.le_trans (plS_bd hE.y hE.x _ _) (by omega)
end Go.Proofs.Ytiokagnolbddlaa
