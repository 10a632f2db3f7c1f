/-
  Dimensions of tensor products, told by both sides.
-/
import Derived.Test.YtpdkfidmmjlmnaaP4
import Derived.Test.YtpdkfidmmjlmnaaRw
import Derived.Test.YtpdkfidmmjlmnaaApw
import Derived.Test.YtpdkfidmmjlmnaaStx
import Derived.Test.YtpdkfidmmjlmnaaVal
import Derived.Test.YtpdkfidmmjlmnaaRc
import Derived.Test.YtpdkfidmmjlmnaaHld
namespace Go.Proofs.Ytpdkfidmmjlmnaa
open Go.RowKit

/-- The sum of the first k products of a dimension of the one and one of the other. -/
def tdS (ds ds2 : List Int) (n : Nat) : Nat → Int
  | 0 => 0
  | k + 1 => tdS ds ds2 n k + dimZ ds (k : Int) * dimZ ds2 ((n : Int) - (k : Int))
def tdN (ds ds2 : List Int) (n : Nat) : Int := tdS ds ds2 n (n + 1)
def tdL (ds ds2 : List Int) : Nat := ds.length + ds2.length - 1
def tdD (ds ds2 : List Int) : List Int := (List.range (tdL ds ds2)).map (tdN ds ds2)
theorem tdD_length (ds ds2 : List Int) : (tdD ds ds2).length = tdL ds ds2 := by simp [tdD]
theorem tdS_past {ds ds2 : List Int} {n a : Nat} (h : ∀ k : Nat, a ≤ k → dimZ ds (k : Int) * dimZ ds2 ((n : Int) - (k : Int)) = 0) : ∀ d, tdS ds ds2 n (a + d) = tdS ds ds2 n a
  | 0 => rfl
  | d + 1 => by
    rw [← Nat.add_assoc, tdS, tdS_past h d, h (a + d) (by omega), Int.add_zero]
theorem dimZ_past {ds : List Int} {k : Nat} (h : ds.length ≤ k) : dimZ ds (k : Int) = 0 := by
  unfold dimZ
  rw [if_neg (by omega)]
theorem dimZ_neg {ds : List Int} {n : Int} (h : n < 0) : dimZ ds n = 0 := by
  unfold dimZ
  rw [if_neg (by omega)]
theorem dimZ_out {ds : List Int} {n : Int} (h : ¬ (0 ≤ n ∧ n ≤ (ds.length : Int) - 1)) : dimZ ds n = 0 := if_neg h
theorem dimZ_in {ds : List Int} {n : Int} {k : Nat} (e : n = (k : Int)) (h : k < ds.length) : dimZ ds n = ds[k] := by
  unfold dimZ
  rw [if_pos (by omega), e, Int.toNat_natCast, getD_of_lt _ h]
theorem tdS_full (ds ds2 : List Int) (n : Nat) : tdS ds ds2 n ds.length = tdN ds ds2 n := by
  unfold tdN
  by_cases h : ds.length ≤ n + 1
  · obtain ⟨d, hd⟩ := Nat.exists_eq_add_of_le h
    rw [hd, tdS_past (fun k hk => by rw [dimZ_past hk, Int.zero_mul])]
  · obtain ⟨d, hd⟩ := Nat.exists_eq_add_of_le (show n + 1 ≤ ds.length by omega)
    rw [hd, tdS_past (fun k hk => by rw [dimZ_neg (ds := ds2) (by omega), Int.mul_zero])]
theorem td_term {ds ds2 : List Int} (h : ∀ n, 0 ≤ dimZ ds n ∧ dimZ ds n ≤ 8) (h2 : ∀ n, 0 ≤ dimZ ds2 n ∧ dimZ ds2 n ≤ 8) (a b : Int) : 0 ≤ dimZ ds a * dimZ ds2 b ∧ dimZ ds a * dimZ ds2 b ≤ 64 :=
  ⟨Int.mul_nonneg (h a).1 (h2 b).1, by have := Int.mul_le_mul (h a).2 (h2 b).2 (h2 b).1 (by omega : (0 : Int) ≤ 8); omega⟩
theorem tdS_bd {ds ds2 : List Int} (h : ∀ n, 0 ≤ dimZ ds n ∧ dimZ ds n ≤ 8) (h2 : ∀ n, 0 ≤ dimZ ds2 n ∧ dimZ ds2 n ≤ 8) (n : Nat) : ∀ k : Nat, 0 ≤ tdS ds ds2 n k ∧ tdS ds ds2 n k ≤ 64 * k
  | 0 => by simp [tdS]
  | k + 1 => by
    have a := tdS_bd h h2 n k
    have b := td_term h h2 (k : Int) ((n : Int) - (k : Int))
    rw [tdS]
    omega

theorem tdMul_any {x y z : Int} (hz : z = x * y) (h0 : 0 ≤ z ∧ z ≤ 64) (w : World) : Calls Try.prog 171 #[.int .i64 x, .int .i64 y] w (QW (.int .i64 z) w) := by
  have hmul : IntKind.i64.wrap (x * y) = z := by rw [← hz]; exact IntWalk.i64_in _ (by omega)
  clear hz
  go_enter Try.func171, Try.ntmps171
  go_wp2
  go_ret
  exact ⟨rfl, rfl⟩

set_option maxHeartbeats 1600000 in
set_option maxRecDepth 100000 in
theorem sumDeg_any (n : Nat) (v v2 : Value) (ds ds2 : List Int) (w : World) (h : L1 0 w v ds) (h2 : L1 0 w v2 ds2) (hl : ds.length ≤ 100) (hl2 : ds2.length ≤ 100) (hn : n ≤ 200) (hb : ∀ n, 0 ≤ dimZ ds n ∧ dimZ ds n ≤ 8) (hb2 : ∀ n, 0 ≤ dimZ ds2 n ∧ dimZ ds2 n ≤ 8) :
    Calls Try.prog 170 #[v, v2, .int .i64 (n : Int), .func (.func 171) #[] #[]] w (QW (.int .i64 (tdN ds ds2 n)) w) := by
  rw [← tdS_full]
  obtain ⟨ad, cap, rfl⟩ := Sl.shape h
  obtain ⟨ad2, cap2, rfl⟩ := Sl.shape h2
  have H := Lib.hid h
  have H2 := Lib.hid h2
  have HB := Lib.hid hb
  have HB2 := Lib.hid hb2
  clear h h2 hb hb2
  go_enter Try.func170, Try.ntmps170
  go_wp2
  go_loop [9, 15] (fun s i => ∃ k : Nat, k ≤ ds.length ∧ i = .int .i64 k ∧ s = .int .i64 (tdS ds ds2 n k)) (fun _ i => ds.length - (intOf i).toNat)
  case atStart => exact ⟨0, Nat.zero_le _, rfl, rfl⟩
  case round =>
    obtain ⟨k, hk, rfl, rfl⟩ := hrel
    by_cases hlt : k < ds.length
    · have hkl : (k : Int) < (ds.length : Int) := by omega
      refine Sl.cases H.out (fun _ _ hx _ => absurd hlt (by simp [hx])) (fun bt ot ct2 hvt _ _ hcl => ?_)
      injection hvt with e1 e2 e3
      clear e2
      subst e1 e3
      obtain ⟨u, hu, hru⟩ := hcl k hlt
      obtain ⟨x, hx⟩ : ∃ x, x = ds[k] := ⟨_, rfl⟩
      have hux : w.cell? ⟨bt, ot + k, none⟩ = some (.int .i64 x) := by rw [hu, hru, ← hx]
      have HXD : Hid (dimZ ds (k : Int) = x) := Lib.hid (by rw [hx, dimZ_in rfl hlt])
      have hsb := tdS_bd HB.out HB2.out n k
      have hk1 : (k : Int) ≤ 100 := by omega
      have hsub : IntKind.i64.wrap ((n : Int) - (k : Int)) = (n : Int) - (k : Int) := IntWalk.i64_in _ (by omega)
      have hsl : IntKind.i64.wrap ((ds2.length : Int) - 1) = (ds2.length : Int) - 1 := IntWalk.i64_in _ (by omega)
      obtain ⟨s, hs⟩ : ∃ s, s = tdS ds ds2 n k := ⟨_, rfl⟩
      rw [← hs] at hsb ⊢
      have HS := Lib.hid hs
      clear hs hu hru hx hcl
      by_cases hj : 0 ≤ (n : Int) - (k : Int) ∧ (n : Int) - (k : Int) ≤ (ds2.length : Int) - 1
      · have HJ := Lib.hid hj
        have hj2 : n - k < ds2.length := by omega
        have hj3 : (n : Int) - (k : Int) = ((n - k : Nat) : Int) := by omega
        obtain ⟨y, hy⟩ : ∃ y, y = ds2[n - k] := ⟨_, rfl⟩
        refine Sl.cases H2.out (fun _ _ hx _ => absurd hj2 (by simp [hx])) (fun bt2 ot2 ct3 hvt _ _ hcl => ?_)
        injection hvt with e1 e2 e3
        clear e2
        subst e1 e3
        obtain ⟨u, hu, hru⟩ := hcl (n - k) hj2
        have huy : w.cell? ⟨bt2, ot2 + (n - k), none⟩ = some (.int .i64 y) := by rw [hu, hru, ← hy]
        have HYD : Hid (dimZ ds2 ((n : Int) - (k : Int)) = y) := Lib.hid (by rw [hy, dimZ_in hj3 hj2])
        obtain ⟨z, hz⟩ : ∃ z, z = x * y := ⟨_, rfl⟩
        have hzb : 0 ≤ z ∧ z ≤ 64 := by have := td_term HB.out HB2.out (k : Int) ((n : Int) - (k : Int)); rw [HXD.out, HYD.out, ← hz] at this; exact this
        have HZ := Lib.hid hz
        have HST : Hid (tdS ds ds2 n (k + 1) = s + z) := Lib.hid (by rw [tdS, HXD.out, HYD.out, ← HS.out, ← hz])
        have hi2 : (0 : Int) ≤ (n : Int) - (k : Int) := by omega
        have hi3 : (n : Int) - (k : Int) < (ds2.length : Int) := by omega
        have hi4 : ((n : Int) - (k : Int)).toNat = n - k := by omega
        clear hu hru hy hcl hz hj hj3
        go_wp2_with fail
        refine (in_yes HJ.out _).mono ?_
        rintro ee w' ⟨rfl, rfl⟩
        go_wp2_with fail
        refine (tdMul_any HZ.out hzb _).mono ?_
        rintro ee w' ⟨rfl, rfl⟩
        go_wp2
        go_round
        case rel => exact ⟨k + 1, by omega, by go_num, by rw [HST.out]⟩
        case measure => simp [intOf]; omega
      · have HJ := Lib.hid hj
        have HST : Hid (tdS ds ds2 n (k + 1) = s) := Lib.hid (by rw [tdS, dimZ_out hj, Int.mul_zero, Int.add_zero, HS.out])
        clear hj
        go_wp2_with fail
        refine (in_no HJ.out _).mono ?_
        rintro ee w' ⟨rfl, rfl⟩
        go_wp2
        go_round
        case rel => exact ⟨k + 1, by omega, by go_num, by rw [HST.out]⟩
        case measure => simp [intOf]; omega
    · have HK : Hid (k = ds.length) := Lib.hid (by omega)
      go_wp2
      go_ret
      exact ⟨ret_int (by rw [HK.out]), rfl⟩

/-- The dimensions of a product in memory of their own. -/
def TdR (ds ds2 : List Int) (w : World) (e : Ending) (w' : World) : Prop := ∃ u, e = .returned u ∧ Rw1 w.heap.size w'.heap.size w' u (tdD ds ds2) ∧ Below w.heap.size w w'

set_option maxHeartbeats 3200000 in
set_option maxRecDepth 100000 in
theorem tensorDims_any (p p2 : Int) (dv mv dv2 mv2 : Value) (ds : List Int) (ms : List (List (List Int))) (ds2 : List Int) (ms2 : List (List (List Int))) (w : World) (h : Cx 0 w dv mv ds ms) (h2 : Cx 0 w dv2 mv2 ds2 ms2) (hc : IsCx p ds ms) (hc2 : IsCx p2 ds2 ms2) :
    Calls Try.prog 130 #[.agg #[.int .i64 p, dv, mv], .agg #[.int .i64 p2, dv2, mv2]] w (TdR ds ds2 w) := by
  obtain ⟨ad, cap, rfl⟩ := Sl.shape h.dims
  obtain ⟨am, capm, rfl⟩ := Sl.shape h.maps
  obtain ⟨ad2, cap2, rfl⟩ := Sl.shape h2.dims
  obtain ⟨am2, capm2, rfl⟩ := Sl.shape h2.maps
  obtain ⟨w1, hw1⟩ : ∃ w1, w1 = (w.alloc (.cells #[.int .i64 p, .slice ad ds.length cap, .slice am ms.length capm] 28)).alloc (.cells #[.int .i64 p2, .slice ad2 ds2.length cap2, .slice am2 ms2.length capm2] 28) := ⟨_, rfl⟩
  have hs1 : w.heap.size + 2 = w1.heap.size := by rw [hw1]; simp
  have HX : Hid (Bx w w1 w.heap.size p (.slice ad ds.length cap) (.slice am ms.length capm) ds ms) := Lib.hid (by rw [hw1]; exact (bx_two 28 h h2).1)
  have HY : Hid (Bx w w1 (w.heap.size + 1) p2 (.slice ad2 ds2.length cap2) (.slice am2 ms2.length capm2) ds2 ms2) := Lib.hid (by rw [hw1]; exact (bx_two 28 h h2).2)
  have HN : Hid (∀ W, Below w1.heap.size w1 W → Bx w W w.heap.size p (.slice ad ds.length cap) (.slice am ms.length capm) ds ms ∧ Bx w W (w.heap.size + 1) p2 (.slice ad2 ds2.length cap2) (.slice am2 ms2.length capm2) ds2 ms2) := Lib.hid (fun W hb => ⟨HX.out.next hb, HY.out.next hb⟩)
  have hl1 := hc.1.len1
  have hl2 := hc2.1.len1
  have hl3 := hc.1.len0
  have hl4 := hc2.1.len0
  have HC := Lib.hid hc
  have HC2 := Lib.hid hc2
  obtain ⟨m, hm⟩ : ∃ m, m = tdL ds ds2 := ⟨_, rfl⟩
  have hme : m = ds.length + ds2.length - 1 := hm
  have HM := Lib.hid hm
  have hm11 : m ≤ 11 := by omega
  have hadd1 : ∀ w, (binOp .add 2 (.int .i64 ((ds.length : Int) - 1)) (.int .i64 ((ds2.length : Int) - 1))).run Try.prog w = .ok (.int .i64 ((m : Int) - 1)) w := haddA (by rw [show (ds.length : Int) - 1 + ((ds2.length : Int) - 1) = (m : Int) - 1 by omega]; exact IntWalk.i64_in _ (by omega))
  have hadd2 : ∀ w, (binOp .add 2 (.int .i64 ((m : Int) - 1)) (.int .i64 1)).run Try.prog w = .ok (.int .i64 (m : Int)) w := haddA (by rw [show (m : Int) - 1 + 1 = (m : Int) by omega]; exact IntWalk.i64_in _ (by omega))
  have hmk := run_make_row' (P := Try.prog) 22 2 (.int .i64 0) 8 Try.underlying22 Try.infoI rfl .i64 .i64 m (by omega) (by omega)
  clear h h2 hc hc2 hm hme HX HY
  go_enter Try.func130, Try.ntmps130
  go_wp2
  rw [← hw1]
  clear hw1
  refine wp_region_held (S := fun W => Below w1.heap.size w1 W) (by kernel_rfl) ?_
  have S0 : Below w1.heap.size w1 w1.drew := (Below.refl _ _).drew
  refine held_take (i := 0) (v := .agg #[.int .i64 p, .slice ad ds.length cap, .slice am ms.length capm]) (some 7) rfl rfl (by kernel_rfl) (by kernel_rfl) (by kernel_rfl) (fun _ _ _ h => h) (yieldsIf_cell (by kernel_rfl) rfl (by kernel_rfl) (fun W h => hload3x (HN.out W h).1)) S0 ?_
  refine held_take (i := 2) (v := .agg #[.int .i64 p2, .slice ad2 ds2.length cap2, .slice am2 ms2.length capm2]) (some 9) rfl rfl (by kernel_rfl) (by kernel_rfl) (by kernel_rfl) (fun _ _ _ h => h) (yieldsIf_cell (by kernel_rfl) rfl (by kernel_rfl) (fun W h => hload3x (HN.out W h).2)) S0 ?_
  refine held_enter (i := 1) (some 8) (f := 116) (args := #[.agg #[.int .i64 p, .slice ad ds.length cap, .slice am ms.length capm]]) (by kernel_rfl) rfl rfl rfl (by kernel_rfl) (topOf_any p _ _ ds.length ad cap _ rfl (by omega)) ?_ (fun c w' h => by cases h.1) (fun w' h => by cases h.1)
  rintro e4 W4 ⟨he4, hb4⟩
  injection he4 with he4
  subst he4
  have S1 : Below w1.heap.size w1 W4 := S0.trans (hb4.mono S0.size)
  refine ⟨S1, ?_⟩
  refine held_enter (i := 3) (some 10) (f := 116) (args := #[.agg #[.int .i64 p2, .slice ad2 ds2.length cap2, .slice am2 ms2.length capm2]]) (by kernel_rfl) rfl rfl rfl (by kernel_rfl) (topOf_any p2 _ _ ds2.length ad2 cap2 _ rfl (by omega)) ?_ (fun c w' h => by cases h.1) (fun w' h => by cases h.1)
  rintro e5 W5 ⟨he5, hb5⟩
  injection he5 with he5
  subst he5
  have S2 : Below w1.heap.size w1 W5 := S1.trans (hb5.mono S1.size)
  refine ⟨S2, ?_⟩
  refine held_take (i := 4) (v := .int .i64 ((m : Int) - 1)) (some 11) rfl rfl (by kernel_rfl) (by kernel_rfl) (by kernel_rfl) (fun _ _ _ h => h) (yieldsIf_bin (by kernel_rfl) rfl (by kernel_rfl) (by kernel_rfl) (fun _ => rfl) hadd1) S2 ?_
  refine held_take (i := 5) (v := .int .i64 (m : Int)) (some 12) rfl rfl (by kernel_rfl) (by kernel_rfl) (by kernel_rfl) (fun _ _ _ h => h) (yieldsIf_bin (by kernel_rfl) rfl (by kernel_rfl) (by kernel_rfl) (fun _ => rfl) hadd2) S2 ?_
  obtain ⟨we, hwe⟩ : ∃ we, we = W5.alloc (.cells (madeCells #[.int .i64 0] m) 2) := ⟨_, rfl⟩
  have hbe : Below W5.heap.size W5 we := by rw [hwe]; exact below_alloc1 _ _
  have S3 : Below w1.heap.size w1 we := S2.trans (hbe.mono S2.size)
  have HROW0 : Hid (we.rowIs W5.heap.size 2 m (fun _ => .int .i64 0)) := Lib.hid (by rw [hwe]; exact World.rowIs_made W5 (.int .i64 0) m 2)
  refine held_make (i := 6) (v := .slice (some ⟨W5.heap.size, 0, none⟩) m m) (w' := we) (x := .int .i64 (m : Int)) (y := .int .i64 (m : Int)) (some 13) 22 (.tmp 12) (.tmp 12) (by kernel_rfl) rfl rfl rfl rfl (by kernel_rfl) (by kernel_rfl) (by rw [hwe]; exact hmk W5) S3 ?_
  refine held_take (i := 7) (v := .slice (some ⟨W5.heap.size, 0, none⟩) m m) (some 5) rfl rfl (by kernel_rfl) (by kernel_rfl) (by kernel_rfl) (fun _ _ _ h => h) (yieldsIf_assign (by kernel_rfl) rfl (by kernel_rfl)) S3 ?_
  refine wpAnyH_done (by kernel_rfl) ?_ _
  simp only [Act.put, List.setIfInBounds_toArray, List.set_cons_zero, List.set_cons_succ]
  have HB0 := Lib.hid S3
  have HG : Hid (w1.heap.size ≤ W5.heap.size) := Lib.hid S2.size
  obtain ⟨g, hg⟩ : ∃ g, g = W5.heap.size := ⟨_, rfl⟩
  rw [← hg] at HROW0 HG ⊢
  clear S0 S1 S2 S3 hb4 hb5 hbe hwe hmk hg hadd1 hadd2
  go_wp2
  go_loopw [6, 16] (fun _ i wr => ∃ k : Nat, k ≤ m ∧ i = .int .i64 k ∧ Hid (Below w1.heap.size w1 wr) ∧ Hid (wr.rowIs g 2 m (fun j => .int .i64 (if j < k then tdN ds ds2 j else 0)))) (fun _ i _ => m - (intOf i).toNat)
  case atStart => exact ⟨0, Nat.zero_le _, rfl, HB0, Lib.hid (HROW0.out.congr (fun j _ => by simp))⟩
  case round =>
    clear HB0 HROW0
    obtain ⟨k, hk, rfl, HB, HROW⟩ := hrel
    obtain ⟨wx, hwx⟩ : ∃ wx : World, wx = wr := ⟨_, rfl⟩
    subst hwx
    by_cases hlt : k < m
    · have c1 := (HN.out _ HB.out).1.c1
      have d1 := (HN.out _ HB.out).2.c1
      have hcell := HROW.out.cell hlt
      have hfz := HROW.out.frozen k
      have hkm : (k : Int) < (m : Int) := by omega
      have HR2 : Hid ((wx.setCell ⟨g, k, none⟩ (.int .i64 (tdN ds ds2 k))).rowIs g 2 m (fun j => .int .i64 (if j < k + 1 then tdN ds ds2 j else 0))) := Lib.hid ((HROW.out.set k (.int .i64 (tdN ds ds2 k))).congr (fun j _ => by
        by_cases e : j = k
        · subst e; rw [if_pos rfl, if_pos (Nat.lt_succ_self _)]
        · rw [if_neg e]
          by_cases e2 : j < k
          · rw [if_pos e2, if_pos (by omega)]
          · rw [if_neg e2, if_neg (by omega)]))
      have HB2 : Hid (Below w1.heap.size w1 (wx.setCell ⟨g, k, none⟩ (.int .i64 (tdN ds ds2 k)))) := Lib.hid (HB.out.setCell HG.out _)
      go_wp2_with fail
      refine (sumDeg_any k _ _ ds ds2 _ (HN.out _ HB.out).1.cx.dims (HN.out _ HB.out).2.cx.dims (by omega) (by omega) (by omega) (dimZ_b HC.out) (dimZ_b HC2.out)).mono ?_
      rintro ee w' ⟨rfl, rfl⟩
      go_wp2
      go_roundw
      case rel => exact ⟨k + 1, by omega, by go_num, HB2, HR2⟩
      case measure => simp [intOf]; omega
    · have HK : Hid (k = m) := Lib.hid (by omega)
      have hgl := HROW.out.lt
      go_wp2
      go_ret
      have hbw := (HN.out _ HB.out).1.below
      refine ⟨_, rfl, w1_rw1 ?_ (by rw [tdD_length, ← HM.out]; omega), hbw⟩
      have hle : w.heap.size ≤ g := by have := HG.out; omega
      have hrow := HROW.out
      rw [HK.out] at hrow
      exact (row_rc (xs := tdD ds ds2) (lo := w.heap.size) hrow (by rw [tdD_length, HM.out]) (fun i hi => by
        have hi' : i < m := by rw [tdD_length, ← HM.out] at hi; exact hi
        simp [tdD, hi']) (by omega) hle).1


open Classical in
noncomputable def tdCode (p p2 : Int) (ds : List Int) (ms : List (List (List Int))) (ds2 : List Int) (ms2 : List (List (List Int))) : Int := prCode p p2 ds ms ds2 ms2
theorem tdD_bd {p p2 : Int} {ds : List Int} {ms : List (List (List Int))} {ds2 : List Int} {ms2 : List (List (List Int))} (h : PrOk p p2 ds ms ds2 ms2) : (tdD ds ds2).length ≤ 1048576 := by
  have := h.x.1.len1
  have := h.y.1.len1
  rw [tdD_length]
  unfold tdL
  omega

set_option maxHeartbeats 3200000 in
set_option maxRecDepth 100000 in
theorem tensorDimsOf_any (p p2 : Int) (dv mv dv2 mv2 : Value) (ds : List Int) (ms : List (List (List Int))) (ds2 : List Int) (ms2 : List (List (List Int))) (w : World) (h : Cx 0 w dv mv ds ms) (h2 : Cx 0 w dv2 mv2 ds2 ms2) (hd : ds.length ≤ 1048576) (hm : Bd3 1048576 ms) (hd2 : ds2.length ≤ 1048576) (hm2 : Bd3 1048576 ms2) :
    Calls Try.prog 64 #[.agg #[.int .i64 p, dv, mv], .agg #[.int .i64 p2, dv2, mv2]] w (AnsW Rw1 (fun o => o = tdD ds ds2) [] (prCode p p2 ds ms ds2 ms2) w) := by
  obtain ⟨ad, cap, rfl⟩ := Sl.shape h.dims
  obtain ⟨am, capm, rfl⟩ := Sl.shape h.maps
  obtain ⟨ad2, cap2, rfl⟩ := Sl.shape h2.dims
  obtain ⟨am2, capm2, rfl⟩ := Sl.shape h2.maps
  obtain ⟨k1, k2⟩ := bx_two (p := p) (p2 := p2) 28 h h2
  have HX0 := Lib.hid k1
  have HY0 := Lib.hid k2
  have HM := Lib.hid hm
  have HM2 := Lib.hid hm2
  obtain ⟨w1, hw1⟩ : ∃ w1, w1 = ((w.alloc (.cells #[.int .i64 p, .slice ad ds.length cap, .slice am ms.length capm] 28)).alloc (.cells #[.int .i64 p2, .slice ad2 ds2.length cap2, .slice am2 ms2.length capm2] 28)) := ⟨_, rfl⟩
  rw [← hw1] at HX0 HY0
  have c0 := HX0.out.c0
  have c1 := HX0.out.c1
  have c2 := HX0.out.c2
  have d0 := HY0.out.c0
  have d1 := HY0.out.c1
  have d2 := HY0.out.c2
  obtain ⟨w2, hw2⟩ : ∃ w2, w2 = w1.alloc (.cells #[.int .i64 p, .slice ad ds.length cap, .slice am ms.length capm, .int .i64 p2, .slice ad2 ds2.length cap2, .slice am2 ms2.length capm2] 28) := ⟨_, rfl⟩
  have hr2 : Row2 w2 w1.heap.size p p2 (.slice ad ds.length cap) (.slice am ms.length capm) (.slice ad2 ds2.length cap2) (.slice am2 ms2.length capm2) := by
    rw [hw2]
    exact ⟨by simp, by simp, by simp, by simp, by simp, by simp⟩
  have hb2 : Below w1.heap.size w1 w2 := by rw [hw2]; exact below_alloc1 _ _
  have HX2 := Lib.hid (HX0.out.next hb2)
  have HY2 := Lib.hid (HY0.out.next hb2)
  have HCK := Lib.hid (checkPrimes2_any p p2 w1.heap.size _ _ _ _ ds ms ds2 ms2 w2 hr2 HX2.out.cx HY2.out.cx hd hm hd2 hm2)
  clear hr2 hb2
  obtain ⟨ec, hec⟩ : ∃ ec, ec = prCode p p2 ds ms ds2 ms2 := ⟨_, rfl⟩
  rw [← hec] at HCK
  have HEC := Lib.hid hec
  clear h h2 hm hm2 k1 k2 hec
  go_enter Try.func64, Try.ntmps64
  go_upto_region 1 with fail
  rw [← hw1]
  clear hw1
  go_wp2_with fail
  rw [← hw2]
  clear hw2
  refine HCK.out.mono ?_
  rintro ee w3 ⟨rfl, hb3⟩
  have HX3 := Lib.hid (HX2.out.next hb3)
  have HY3 := Lib.hid (HY2.out.next hb3)
  clear hb3 c0 c1 c2 d0 d1 d2 HX0 HY0 HX2 HY2 HCK
  have HN3 : Hid (∀ W, Below w3.heap.size w3 W → Bx w W w.heap.size p (.slice ad ds.length cap) (.slice am ms.length capm) ds ms ∧ Bx w W (w.heap.size + 1) p2 (.slice ad2 ds2.length cap2) (.slice am2 ms2.length capm2) ds2 ms2) := Lib.hid (fun W hb => ⟨HX3.out.next hb, HY3.out.next hb⟩)
  have hs3 := HX3.out.below.size
  by_cases h0 : ec = 0
  · subst h0
    have HE := Lib.hid (prCode_zero HEC.out.symm)
    have c0 := (HN3.out _ (Below.refl _ _)).1.c0
    have c1 := (HN3.out _ (Below.refl _ _)).1.c1
    have c2 := (HN3.out _ (Below.refl _ _)).1.c2
    have d0 := (HN3.out _ (Below.refl _ _)).2.c0
    have d1 := (HN3.out _ (Below.refl _ _)).2.c1
    have d2 := (HN3.out _ (Below.refl _ _)).2.c2
    go_wp2_with fail
    refine (tensorDims_any p p2 _ _ _ _ ds ms ds2 ms2 w3 HX3.out.cx HY3.out.cx HE.out.x HE.out.y).mono ?_
    rintro ee w4 ⟨u, rfl, hrw, hb4⟩
    have HR := Lib.hid hrw
    have HB := Lib.hid (HX3.out.next hb4).below
    clear hrw hb4 c0 c1 c2 d0 d1 d2
    go_wp2
    go_ret2
    exact ⟨u, _, 0, rfl, HR.out.wider hs3 (Nat.le_refl _), HB.out, RsOut.of_yes HE.out.code rfl⟩
  · have hne2 : (ec != 0) = true := by simp [h0]
    have hne3 : (ec == 0) = false := by simp [h0]
    have HNE := Lib.hid h0
    clear h0
    go_wp2
    go_ret2
    refine ⟨_, [], ec, rfl, Rw1.nil _ _ _, HX3.out.below, ?_⟩
    rw [← HEC.out]
    exact RsOut.of_no HNE.out

/-- The dimensions as the model gathers them. -/
def TdG (ds ds2 : List Int) (w : World) (e : Ending) (w' : World) : Prop := ∃ u, e = .returned u ∧ Gb w.heap.size w' u (tdD ds ds2) ∧ Below w.heap.size w w'

set_option maxHeartbeats 6400000 in
set_option maxRecDepth 100000 in
theorem l06Dims_any (p p2 : Int) (dv mv dv2 mv2 : Value) (ds : List Int) (ms : List (List (List Int))) (ds2 : List Int) (ms2 : List (List (List Int))) (w : World) (h : Cx 0 w dv mv ds ms) (h2 : Cx 0 w dv2 mv2 ds2 ms2) (hc : IsCx p ds ms) (hc2 : IsCx p2 ds2 ms2) :
    Calls Try.prog 129 #[.agg #[.int .i64 p, dv, mv], .agg #[.int .i64 p2, dv2, mv2]] w (TdG ds ds2 w) := by
  obtain ⟨ad, cap, rfl⟩ := Sl.shape h.dims
  obtain ⟨am, capm, rfl⟩ := Sl.shape h.maps
  obtain ⟨ad2, cap2, rfl⟩ := Sl.shape h2.dims
  obtain ⟨am2, capm2, rfl⟩ := Sl.shape h2.maps
  obtain ⟨w1, hw1⟩ : ∃ w1, w1 = (w.alloc (.cells #[.int .i64 p, .slice ad ds.length cap, .slice am ms.length capm] 28)).alloc (.cells #[.int .i64 p2, .slice ad2 ds2.length cap2, .slice am2 ms2.length capm2] 28) := ⟨_, rfl⟩
  have hs1 : w.heap.size + 2 = w1.heap.size := by rw [hw1]; simp
  have HX : Hid (Bx w w1 w.heap.size p (.slice ad ds.length cap) (.slice am ms.length capm) ds ms) := Lib.hid (by rw [hw1]; exact (bx_two 28 h h2).1)
  have HY : Hid (Bx w w1 (w.heap.size + 1) p2 (.slice ad2 ds2.length cap2) (.slice am2 ms2.length capm2) ds2 ms2) := Lib.hid (by rw [hw1]; exact (bx_two 28 h h2).2)
  have HN : Hid (∀ W, Below w1.heap.size w1 W → Bx w W w.heap.size p (.slice ad ds.length cap) (.slice am ms.length capm) ds ms ∧ Bx w W (w.heap.size + 1) p2 (.slice ad2 ds2.length cap2) (.slice am2 ms2.length capm2) ds2 ms2) := Lib.hid (fun W hb => ⟨HX.out.next hb, HY.out.next hb⟩)
  have hl1 := hc.1.len1
  have hl2 := hc2.1.len1
  have hl3 := hc.1.len0
  have hl4 := hc2.1.len0
  have HC := Lib.hid hc
  have HC2 := Lib.hid hc2
  obtain ⟨m, hm⟩ : ∃ m, m = tdL ds ds2 := ⟨_, rfl⟩
  have hme : m = ds.length + ds2.length - 1 := hm
  have HM := Lib.hid hm
  have hm11 : m ≤ 11 := by omega
  have hadd1 : IntKind.i64.wrap ((ds.length : Int) + (ds2.length : Int)) = (ds.length : Int) + (ds2.length : Int) := IntWalk.i64_in _ (by omega)
  have hadd2 : (ds.length : Int) + (ds2.length : Int) - 1 = (m : Int) := by omega
  have hdn : ∀ n, 0 ≤ dimZ ds n ∧ dimZ ds n ≤ 8 := dimZ_b hc
  have hdn2 : ∀ n, 0 ≤ dimZ ds2 n ∧ dimZ ds2 n ≤ 8 := dimZ_b hc2
  have HDN := Lib.hid hdn
  have HDN2 := Lib.hid hdn2
  have HADD2 := Lib.hid hadd2
  have HOWN0 := Lib.hid (Gb.new (base := w1.heap.size) w1 (Nat.le_refl _))
  have HB0 := Lib.hid (below_alloc1 w1 (.cells #[] 2))
  have hs0 : w.heap.size ≤ w1.heap.size := by omega
  clear h h2 hc hc2 hm hme HX HY hdn hdn2 hadd2
  go_enter Try.func129, Try.ntmps129
  go_upto_region 1 with fail
  rw [← hw1]
  clear hw1
  go_wp2
  go_loopw [5, 6, 7, 8] (fun ov i _ _ wr => ∃ k : Nat, k ≤ m ∧ i = .int .i64 k ∧ Hid (Below w1.heap.size w1 wr) ∧ Hid (Gb w1.heap.size wr ov ((tdD ds ds2).take k))) (fun _ i _ _ _ => m - (intOf i).toNat)
  case atStart => exact ⟨0, Nat.zero_le _, rfl, HB0, Lib.hid (by simpa using HOWN0.out)⟩
  case round =>
    clear HB0 HOWN0
    obtain ⟨k, hk, rfl, HB, HO⟩ := hrel
    obtain ⟨wx, hwx⟩ : ∃ wx : World, wx = wr := ⟨_, rfl⟩
    subst hwx
    have c1 := (HN.out _ HB.out).1.c1
    have d1 := (HN.out _ HB.out).2.c1
    by_cases hlt : k < m
    · have hkm : (k : Int) < (ds.length : Int) + (ds2.length : Int) - 1 := by have := HADD2.out; omega
      go_wp2
      have HNX : Hid (∀ W, Below wx.heap.size wx W → Bx w W w.heap.size p (.slice ad ds.length cap) (.slice am ms.length capm) ds ms ∧ Bx w W (w.heap.size + 1) p2 (.slice ad2 ds2.length cap2) (.slice am2 ms2.length capm2) ds2 ms2) := Lib.hid (fun W hb => HN.out W (HB.out.trans (hb.mono HB.out.size)))
      clear c1 d1
      go_loopw [7, 8] (fun sv j wr => ∃ q : Nat, q ≤ k + 1 ∧ j = .int .i64 q ∧ sv = .int .i64 (tdS ds ds2 k q) ∧ Hid (Below wx.heap.size wx wr)) (fun _ j _ => k + 1 - (intOf j).toNat)
      case atStart => exact ⟨0, Nat.zero_le _, rfl, rfl, Lib.hid (Below.refl _ _)⟩
      case round =>
        obtain ⟨q, hq, rfl, rfl, HBI⟩ := hrel
        obtain ⟨wi, hwi⟩ : ∃ wi : World, wi = wr := ⟨_, rfl⟩
        subst hwi
        have hsb := tdS_bd HDN.out HDN2.out k q
        obtain ⟨s, hs⟩ : ∃ s, s = tdS ds ds2 k q := ⟨_, rfl⟩
        rw [← hs] at hsb ⊢
        have HS := Lib.hid hs
        clear hs
        by_cases hlq : q ≤ k
        · have hqk : (q : Int) ≤ (k : Int) := by omega
          have hsub : ∀ w, (binOp .sub 2 (.int .i64 (k : Int)) (.int .i64 (q : Int))).run Try.prog w = .ok (.int .i64 ((k : Int) - (q : Int))) w := hsubA (IntWalk.i64_in _ (by omega))
          obtain ⟨x, hx⟩ : ∃ x, x = dimZ ds (q : Int) := ⟨_, rfl⟩
          obtain ⟨y, hy⟩ : ∃ y, y = dimZ ds2 ((k : Int) - (q : Int)) := ⟨_, rfl⟩
          obtain ⟨z, hz⟩ : ∃ z, z = x * y := ⟨_, rfl⟩
          have hzb : 0 ≤ z ∧ z ≤ 64 := by have := td_term HDN.out HDN2.out (q : Int) ((k : Int) - (q : Int)); rw [← hx, ← hy, ← hz] at this; exact this
          have hmul : ∀ w, (binOp .mul 2 (.int .i64 x) (.int .i64 y)).run Try.prog w = .ok (.int .i64 z) w := hmulA (by rw [← hz]; exact IntWalk.i64_in _ (by omega))
          have hadd : ∀ w, (binOp .add 2 (.int .i64 s) (.int .i64 z)).run Try.prog w = .ok (.int .i64 (s + z)) w := haddA (IntWalk.i64_in _ (by omega))
          have HST : Hid (tdS ds ds2 k (q + 1) = s + z) := Lib.hid (by rw [tdS, ← HS.out, hz, hx, hy])
          have HK1 : Hid (∀ W, Below wx.heap.size wx W → Calls Try.prog 91 #[.agg #[.int .i64 p, .slice ad ds.length cap, .slice am ms.length capm], .int .i64 (q : Int)] W (BR (.int .i64 x) W)) := Lib.hid (fun W hb => by rw [hx]; exact l01Dim_any p (q : Int) _ _ ds ms W (HNX.out W hb).1.cx (by omega))
          have HK2 : Hid (∀ W, Below wx.heap.size wx W → Calls Try.prog 91 #[.agg #[.int .i64 p2, .slice ad2 ds2.length cap2, .slice am2 ms2.length capm2], .int .i64 ((k : Int) - (q : Int))] W (BR (.int .i64 y) W)) := Lib.hid (fun W hb => by rw [hy]; exact l01Dim_any p2 ((k : Int) - (q : Int)) _ _ ds2 ms2 W (HNX.out W hb).2.cx (by omega))
          clear hx hy hz
          go_wp2
          refine wp_region_held (S := fun W => Below wx.heap.size wx W) (by kernel_rfl) ?_
          have S0 : Below wx.heap.size wx wi.drew := HBI.out.drew
          refine held_take (i := 0) (v := .int .i64 s) (some 27) rfl rfl (by kernel_rfl) (by kernel_rfl) (by kernel_rfl) (fun _ _ _ h => h) (yieldsIf_move (by kernel_rfl) rfl (by kernel_rfl)) S0 ?_
          refine held_take (i := 1) (v := .agg #[.int .i64 p, .slice ad ds.length cap, .slice am ms.length capm]) (some 28) rfl rfl (by kernel_rfl) (by kernel_rfl) (by kernel_rfl) (fun _ _ _ h => h) (yieldsIf_cell (by kernel_rfl) rfl (by kernel_rfl) (fun W h => hload3x (HNX.out W h).1)) S0 ?_
          refine held_take (i := 2) (v := .int .i64 (q : Int)) (some 29) rfl rfl (by kernel_rfl) (by kernel_rfl) (by kernel_rfl) (fun _ _ _ h => h) (yieldsIf_move (by kernel_rfl) rfl (by kernel_rfl)) S0 ?_
          refine held_take (i := 4) (v := .agg #[.int .i64 p2, .slice ad2 ds2.length cap2, .slice am2 ms2.length capm2]) (some 31) rfl rfl (by kernel_rfl) (by kernel_rfl) (by kernel_rfl) (fun _ _ _ h => h) (yieldsIf_cell (by kernel_rfl) rfl (by kernel_rfl) (fun W h => hload3x (HNX.out W h).2)) S0 ?_
          refine held_take (i := 5) (v := .int .i64 (k : Int)) (some 32) rfl rfl (by kernel_rfl) (by kernel_rfl) (by kernel_rfl) (fun _ _ _ h => h) (yieldsIf_move (by kernel_rfl) rfl (by kernel_rfl)) S0 ?_
          refine held_take (i := 6) (v := .int .i64 (q : Int)) (some 33) rfl rfl (by kernel_rfl) (by kernel_rfl) (by kernel_rfl) (fun _ _ _ h => h) (yieldsIf_move (by kernel_rfl) rfl (by kernel_rfl)) S0 ?_
          refine held_take (i := 7) (v := .int .i64 ((k : Int) - (q : Int))) (some 34) rfl rfl (by kernel_rfl) (by kernel_rfl) (by kernel_rfl) (fun _ _ _ h => h) (yieldsIf_bin (by kernel_rfl) rfl (by kernel_rfl) (by kernel_rfl) (fun _ => rfl) hsub) S0 ?_
          refine held_enter (i := 3) (some 30) (f := 91) (args := #[.agg #[.int .i64 p, .slice ad ds.length cap, .slice am ms.length capm], .int .i64 (q : Int)]) (by kernel_rfl) rfl rfl rfl (by kernel_rfl) (HK1.out _ S0) ?_ (fun c w' h => by cases h.1) (fun w' h => by cases h.1)
          rintro e4 W4 ⟨he4, hb4⟩
          injection he4 with he4
          subst he4
          have S1 : Below wx.heap.size wx W4 := S0.trans (hb4.mono S0.size)
          refine ⟨S1, ?_⟩
          refine held_enter (i := 8) (some 35) (f := 91) (args := #[.agg #[.int .i64 p2, .slice ad2 ds2.length cap2, .slice am2 ms2.length capm2], .int .i64 ((k : Int) - (q : Int))]) (by kernel_rfl) rfl rfl rfl (by kernel_rfl) (HK2.out _ S1) ?_ (fun c w' h => by cases h.1) (fun w' h => by cases h.1)
          rintro e5 W5 ⟨he5, hb5⟩
          injection he5 with he5
          subst he5
          have S2 : Below wx.heap.size wx W5 := S1.trans (hb5.mono S1.size)
          refine ⟨S2, ?_⟩
          refine held_take (i := 9) (v := .int .i64 z) (some 36) rfl rfl (by kernel_rfl) (by kernel_rfl) (by kernel_rfl) (fun _ _ _ h => h) (yieldsIf_bin (by kernel_rfl) rfl (by kernel_rfl) (by kernel_rfl) (fun _ => rfl) hmul) S2 ?_
          refine held_take (i := 10) (v := .int .i64 (s + z)) (some 37) rfl rfl (by kernel_rfl) (by kernel_rfl) (by kernel_rfl) (fun _ _ _ h => h) (yieldsIf_bin (by kernel_rfl) rfl (by kernel_rfl) (by kernel_rfl) (fun _ => rfl) hadd) S2 ?_
          refine held_take (i := 11) (v := .int .i64 (s + z)) (some 7) rfl rfl (by kernel_rfl) (by kernel_rfl) (by kernel_rfl) (fun _ _ _ h => h) (yieldsIf_assign (by kernel_rfl) rfl (by kernel_rfl)) S2 ?_
          refine wpAnyH_done (by kernel_rfl) ?_ _
          simp only [Act.put, List.setIfInBounds_toArray, List.set_cons_zero, List.set_cons_succ]
          have HB2 := Lib.hid S2
          clear S0 S1 S2 hb4 hb5 hsub hmul hadd
          go_wp2
          go_roundw
          case rel => exact ⟨q + 1, by omega, by go_num, by rw [HST.out], HB2⟩
          case measure => simp [intOf]; omega
        · have HQ : Hid (s = tdN ds ds2 k) := Lib.hid (by rw [HS.out, show q = k + 1 by omega]; rfl)
          have hqk : ¬ (q : Int) ≤ (k : Int) := by omega
          have hsw : w1.heap.size ≤ wi.heap.size := Nat.le_trans HB.out.size HBI.out.size
          have HB3 := Lib.hid ((HB.out.trans (HBI.out.mono HB.out.size)).alloc hsw (.cells #[.int .i64 s] 2))
          have HO3 := Lib.hid ((HO.out.below HBI.out).below (below_alloc1 wi (.cells #[.int .i64 s] 2)))
          have HL1 : Hid (L1 0 (wi.alloc (.cells #[.int .i64 s] 2)) (.slice (some ⟨wi.heap.size, 0, none⟩) 1 1) [s]) := Lib.hid (Or.inr ⟨wi.heap.size, 0, 1, rfl, Nat.zero_le _, by simp, fun j hj => by
            have hj0 : j = 0 := by simpa using hj
            subst hj0
            exact ⟨_, cell_alloc1 wi _ _, rfl⟩⟩)
          have HTK : Hid ((tdD ds ds2).take k ++ [s] = (tdD ds ds2).take (k + 1)) := Lib.hid (by rw [List.take_succ_eq_append_getElem (by rw [tdD_length, ← HM.out]; exact hlt), HQ.out]; simp [tdD])
          have HTL : Hid (((tdD ds ds2).take k).length ≤ 20) := Lib.hid (by rw [List.length_take]; omega)
          go_wp2_with (at_builtin; refine wpList_appendN rfl (some 41) rfl (.tmp 38) (.tmp 40) rfl w1.heap.size _ _ ((tdD ds ds2).take k) [s] rfl rfl HO3.out HL1.out ?c1 ?c2 ?_)
          case c1 => omega
          case c2 => omega
          intro v4 W4 hg4 hgr4
          have HB4 := Lib.hid (HB3.out.grown hgr4 (by simp; omega) (fun g hg => ((World.ownsRow.lt HO3.out) g hg).1))
          rw [HTK.out] at hg4
          have HG4 := Lib.hid hg4
          clear hg4 hgr4
          go_wp2
          go_roundw
          case rel => exact ⟨k + 1, by omega, by go_num, HB4, HG4⟩
          case measure => simp [intOf]; omega
    · have HK : Hid (k = m) := Lib.hid (by omega)
      have hkm : ¬ (k : Int) < (ds.length : Int) + (ds2.length : Int) - 1 := by have := HADD2.out; omega
      go_wp2
      go_ret
      have ho := HO.out
      rw [HK.out, List.take_of_length_le (by rw [tdD_length, ← HM.out]; exact Nat.le_refl _)] at ho
      exact ⟨_, rfl, ho.mono hs0, (HN.out _ HB.out).1.below⟩


set_option maxHeartbeats 3200000 in
set_option maxRecDepth 100000 in
theorem spTensorDims_any (p p2 : Int) (dv mv dv2 mv2 : Value) (ds : List Int) (ms : List (List (List Int))) (ds2 : List Int) (ms2 : List (List (List Int))) (w : World) (h : Cx 0 w dv mv ds ms) (h2 : Cx 0 w dv2 mv2 ds2 ms2) (hd : ds.length ≤ 1048576) (hm : Bd3 1048576 ms) (hd2 : ds2.length ≤ 1048576) (hm2 : Bd3 1048576 ms2) :
    Calls Try.prog 63 #[.agg #[.int .i64 p, dv, mv], .agg #[.int .i64 p2, dv2, mv2]] w (AnsS (L1 0) (fun o => o = tdD ds ds2) [] (prCode p p2 ds ms ds2 ms2) w) := by
  obtain ⟨ad, cap, rfl⟩ := Sl.shape h.dims
  obtain ⟨am, capm, rfl⟩ := Sl.shape h.maps
  obtain ⟨ad2, cap2, rfl⟩ := Sl.shape h2.dims
  obtain ⟨am2, capm2, rfl⟩ := Sl.shape h2.maps
  obtain ⟨k1, k2⟩ := bx_two (p := p) (p2 := p2) 28 h h2
  have HX0 := Lib.hid k1
  have HY0 := Lib.hid k2
  have HM := Lib.hid hm
  have HM2 := Lib.hid hm2
  obtain ⟨w1, hw1⟩ : ∃ w1, w1 = ((w.alloc (.cells #[.int .i64 p, .slice ad ds.length cap, .slice am ms.length capm] 28)).alloc (.cells #[.int .i64 p2, .slice ad2 ds2.length cap2, .slice am2 ms2.length capm2] 28)) := ⟨_, rfl⟩
  rw [← hw1] at HX0 HY0
  have c0 := HX0.out.c0
  have c1 := HX0.out.c1
  have c2 := HX0.out.c2
  have d0 := HY0.out.c0
  have d1 := HY0.out.c1
  have d2 := HY0.out.c2
  have HX2 := Lib.hid HX0.out
  have HY2 := Lib.hid HY0.out
  have HCK := Lib.hid (l06Two_any p p2 _ _ _ _ ds ms ds2 ms2 w1 HX0.out.cx HY0.out.cx hd hm hd2 hm2)
  obtain ⟨ec, hec⟩ : ∃ ec, ec = prCode p p2 ds ms ds2 ms2 := ⟨_, rfl⟩
  rw [← hec] at HCK
  have HEC := Lib.hid hec
  clear h h2 hm hm2 k1 k2 hec
  go_enter Try.func63, Try.ntmps63
  go_upto_region 1 with fail
  rw [← hw1]
  clear hw1
  go_wp2_with fail
  refine HCK.out.mono ?_
  rintro ee w3 ⟨rfl, hb3⟩
  have HX3 := Lib.hid (HX2.out.next hb3)
  have HY3 := Lib.hid (HY2.out.next hb3)
  clear hb3 c0 c1 c2 d0 d1 d2 HX0 HY0 HX2 HY2 HCK
  have HN3 : Hid (∀ W, Below w3.heap.size w3 W → Bx w W w.heap.size p (.slice ad ds.length cap) (.slice am ms.length capm) ds ms ∧ Bx w W (w.heap.size + 1) p2 (.slice ad2 ds2.length cap2) (.slice am2 ms2.length capm2) ds2 ms2) := Lib.hid (fun W hb => ⟨HX3.out.next hb, HY3.out.next hb⟩)
  have hs3 := HX3.out.below.size
  by_cases h0 : ec = 0
  · subst h0
    have HE := Lib.hid (prCode_zero HEC.out.symm)
    have c0 := (HN3.out _ (Below.refl _ _)).1.c0
    have c1 := (HN3.out _ (Below.refl _ _)).1.c1
    have c2 := (HN3.out _ (Below.refl _ _)).1.c2
    have d0 := (HN3.out _ (Below.refl _ _)).2.c0
    have d1 := (HN3.out _ (Below.refl _ _)).2.c1
    have d2 := (HN3.out _ (Below.refl _ _)).2.c2
    go_wp2_with fail
    refine (l06Dims_any p p2 _ _ _ _ ds ms ds2 ms2 w3 HX3.out.cx HY3.out.cx HE.out.x HE.out.y).mono ?_
    rintro ee w4 ⟨u, rfl, hrw, hb4⟩
    have HR := Lib.hid hrw
    have HB := Lib.hid (HX3.out.next hb4).below
    clear hrw hb4 c0 c1 c2 d0 d1 d2
    go_wp2
    go_ret2
    exact ⟨u, _, 0, rfl, HR.out.l1, HB.out, RsOut.of_yes HE.out.code rfl⟩
  · have hne2 : (ec != 0) = true := by simp [h0]
    have hne3 : (ec == 0) = false := by simp [h0]
    have HNE := Lib.hid h0
    clear h0
    go_wp2
    go_ret2
    refine ⟨_, [], ec, rfl, Or.inl ⟨rfl, _, _, rfl⟩, HX3.out.below, ?_⟩
    rw [← HEC.out]
    exact RsOut.of_no HNE.out

end Go.Proofs.Ytpdkfidmmjlmnaa
