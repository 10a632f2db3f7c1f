/-
  Texts that ProofTpl needs, part 6.
-/
import Derived.Test.YthfcadgbipnemaaZt5
import Derived.Test.YthfcadgbipnemaaChecked
import Derived.Outline
import Derived.Deep.RegionHeld3
import Derived.Test.YthfcadgbipnemaaRows
import Derived.ProofKit
import Derived.OpenShut
import Derived.ChangeOld
import Derived.Deep.Slices
import Derived.Lib.SmallJoins
import Derived.KernelRfl
namespace Go.Proofs.Ythfcadgbipnemaa
open Go.RowKit

theorem gb_but {base g : Nat} {w W : World} {u : Value} {xs : List Int} (h : Gb base w u xs) (hg : g < base) (hb : But g w W) : Gb base W u xs := by
  refine ⟨h.1, ?_⟩
  rcases h.2 with h2 | ⟨g2, cap, cur, hu, hbb, hh, r⟩
  · exact Or.inl h2
  · exact Or.inr ⟨g2, cap, cur, hu, hbb, (hb.block g2 (Array.getElem?_eq_some_iff.1 hh).1 (by omega)).trans hh, r⟩
theorem tc_mod {p y : Int} (i : Nat) : y * (1 - 2 * ((i : Int) % 2)) % p = (if (i : Int) % 2 = 0 then 1 else p - 1) * y % p := by
  have h2 : (i : Int) % 2 = 0 ∨ (i : Int) % 2 = 1 := by omega
  rcases h2 with h | h
  · rw [if_pos h, h]
    congr 1
    omega
  · rw [if_neg (by omega), h]
    have e : (p - 1) * y = y * (1 - 2 * 1) + p * y := by
      rw [Int.sub_mul]
      omega
    rw [e, Int.add_mul_emod_self_left]
def RowR (N : Nat) (Z : Nat → Int) (w : World) (e : Ending) (w' : World) : Prop := ∃ g, e = .returned (.slice (some ⟨g, 0, none⟩) N N) ∧ w.heap.size ≤ g ∧ w'.rowIs g 2 N (fun c => .int .i64 (Z c)) ∧ Below w.heap.size w w'

set_option maxHeartbeats 6400000 in
set_option maxRecDepth 100000 in
theorem l06Row_any (p : Int) (i a j b ri rj n N : Nat) (dv mv dv2 mv2 : Value) (ds : List Int) (ms : List (List (List Int))) (ds2 : List Int) (ms2 : List (List (List Int))) (w : World) (h : Cx 0 w dv mv ds ms) (h2 : Cx 0 w dv2 mv2 ds2 ms2) (hcx : IsCx p ds ms) (hcy : IsCx p ds2 ms2)
    (hi : i < ds.length) (hj : j < ds2.length) (hri : ds.getD i 0 = (ri : Int)) (hrj : ds2.getD j 0 = (rj : Int)) (ha : a < ri) (hb : b < rj) (hn : i + j = n + 1) (hN : N = (tdN ds ds2 n).toNat) :
    Calls Try.prog 136 #[.agg #[.int .i64 p, dv, mv], .agg #[.int .i64 p, dv2, mv2], .int .i64 (i : Int), .int .i64 (a : Int), .int .i64 (j : Int), .int .i64 (b : Int), .int .i64 (N : Int)] w (RowR N (tcRow p ds ms ds2 ms2 i a j b) w) := by
  obtain ⟨ad, cap, rfl⟩ := Sl.shape h.dims
  obtain ⟨am, capm, rfl⟩ := Sl.shape h.maps
  obtain ⟨ad2, cap2, rfl⟩ := Sl.shape h2.dims
  obtain ⟨am2, capm2, rfl⟩ := Sl.shape h2.maps
  obtain ⟨k1, k2⟩ := bx_two (p := p) (p2 := p) 30 h h2
  obtain ⟨w1, hw1⟩ : ∃ w1, w1 = ((w.alloc (.cells #[.int .i64 p, .slice ad ds.length cap, .slice am ms.length capm] 30)).alloc (.cells #[.int .i64 p, .slice ad2 ds2.length cap2, .slice am2 ms2.length capm2] 30)) := ⟨_, rfl⟩
  rw [← hw1] at k1 k2
  have HN1 : Hid (∀ W, Below w1.heap.size w1 W → Bx w W w.heap.size p (.slice ad ds.length cap) (.slice am ms.length capm) ds ms ∧ Bx w W (w.heap.size + 1) p (.slice ad2 ds2.length cap2) (.slice am2 ms2.length capm2) ds2 ms2) := Lib.hid (fun W hb => ⟨k1.next hb, k2.next hb⟩)
  have hs1 := k1.below.size
  have hl6 := hcx.1.len1
  have hl7 := hcy.1.len1
  have hdi := hcx.1.dim i
  have hdj := hcy.1.dim j
  have hri8 : ri ≤ 8 := by omega
  have hrj8 : rj ≤ 8 := by omega
  have hDX : dimZ ds (i : Int) = (ri : Int) := by rw [dimZ_in rfl hi, ← hri, getD_of_lt _ hi]
  have hDY : dimZ ds2 (j : Int) = (rj : Int) := by rw [dimZ_in rfl hj, ← hrj, getD_of_lt _ hj]
  obtain ⟨xs, hxs⟩ : ∃ xs, xs = tcX ds ms i a := ⟨_, rfl⟩
  obtain ⟨ys, hys⟩ : ∃ ys, ys = tcX ds2 ms2 j b := ⟨_, rfl⟩
  have hxl := tcX_len hcx hi hri ha
  have hyl := tcX_len hcy hj hrj hb
  have hx8 := tcX_8 hcx hi hri ha
  have hy8 := tcX_8 hcy hj hrj hb
  have hxo := (tcX_ok hcx hi hri ha).2
  have hyo := (tcX_ok hcy hj hrj hb).2
  have hax := tc_apT hcx hi hri ha
  have hay := tc_apT hcy hj hrj hb
  have hzx := dimZ_b hcx ((i : Int) + (-1))
  have hzy := dimZ_b hcy ((j : Int) + (-1))
  rw [← hxs] at hxl hx8 hxo hax
  rw [← hys] at hyl hy8 hyo hay
  have hNp : N = plS ds ds2 (n : Int) ds.length := by rw [hN, td_n hcx hcy]; omega
  have hN8 : N ≤ 1048576 := by have h1 := plS_bd hcx hcy (n : Int) ds.length; omega
  have HFA : Hid (0 < xs.length → 1 ≤ i ∧ (plS ds ds2 (n : Int) (i - 1)) + xs.length * rj ≤ N ∧ (plS ds ds2 (n : Int) (i - 1)) + xs.length * rj = (plS ds ds2 (n : Int) i)) := Lib.hid (fun hpos => by
    have hi1 : 1 ≤ i := Nat.pos_of_ne_zero (fun e => by
      subst e
      rw [hxs, tcX_zero hcx hri ha] at hpos
      exact absurd hpos (by simp))
    obtain ⟨q, hq⟩ : ∃ q, i = q + 1 := ⟨i - 1, by omega⟩
    subst hq
    have e3 : ((q + 1 : Nat) : Int) + (-1) = (q : Int) := by omega
    rw [e3] at hxl hzx
    have hu : (xs.length : Int) = dimZ ds (q : Int) := by omega
    have hv : ((unL rj b).length : Int) = dimZ ds2 (j : Int) := by rw [unL_length, hDY]
    have h0 := pv_fit (show q < ds.length by omega) hu hv
    rw [unL_length, show (q : Int) + (j : Int) = (n : Int) by omega] at h0
    rw [Nat.add_sub_cancel]
    refine ⟨by omega, by rw [hNp]; exact h0, ?_⟩
    rw [plS, show (ds.getD q 0).toNat = xs.length by rw [dim_getD]; omega, show (n : Int) - (q : Int) = (j : Int) by omega, hDY, Int.toNat_natCast])
  have HFB : Hid (0 < ys.length → 1 ≤ j ∧ (plS ds ds2 (n : Int) i) + ri * ys.length ≤ N ∧ a * ys.length + ys.length ≤ ri * ys.length) := Lib.hid (fun hpos => by
    have hj1 : 1 ≤ j := Nat.pos_of_ne_zero (fun e => by
      subst e
      rw [hys, tcX_zero hcy hrj hb] at hpos
      exact absurd hpos (by simp))
    obtain ⟨q, hq⟩ : ∃ q, j = q + 1 := ⟨j - 1, by omega⟩
    subst hq
    have e3 : ((q + 1 : Nat) : Int) + (-1) = (q : Int) := by omega
    rw [e3] at hyl hzy
    have hu : ((unL ri a).length : Int) = dimZ ds (i : Int) := by rw [unL_length, hDX]
    have hv : (ys.length : Int) = dimZ ds2 (q : Int) := by omega
    have h0 := pv_fit hi hu hv
    rw [unL_length, show (i : Int) + (q : Int) = (n : Int) by omega] at h0
    have h1 := Nat.mul_le_mul_right ys.length (show a + 1 ≤ ri from ha)
    rw [Nat.succ_mul] at h1
    exact ⟨by omega, by rw [hNp]; exact h0, h1⟩)
  have HZP : Hid (∀ c, (plS ds ds2 (n : Int) i) ≤ c → (adpZ p 1 (plS ds ds2 (n : Int) (i - 1)) xs (unL rj b) (fun _ => 0) xs.length 0) c = 0) := Lib.hid (fun c hc => ad_past (by
    rw [unL_length]
    by_cases hpos : 0 < xs.length
    · have := (HFA.out hpos).2.2
      omega
    · rw [show xs.length = 0 by omega, Nat.zero_mul, Nat.add_zero]
      exact Nat.le_trans (plS_mono ds ds2 (n : Int) (by omega)) hc))
  have HEND : Hid (∀ c, (tcSec p (if (i : Int) % 2 = 0 then 1 else p - 1) ((plS ds ds2 (n : Int) i) + a * ys.length) ys (adpZ p 1 (plS ds ds2 (n : Int) (i - 1)) xs (unL rj b) (fun _ => 0) xs.length 0) ys.length) c = tcRow p ds ms ds2 ms2 i a j b c) := Lib.hid (fun c => by
    unfold tcRow
    rw [hri, hrj, Int.toNat_natCast, Int.toNat_natCast, ← hxs, ← hys, show (i : Int) + (-1) + (j : Int) = (n : Int) by omega, show (i : Int) + ((j : Int) + (-1)) = (n : Int) by omega]
    exact (tcSec_fin ha HZP.out c).symm)
  have HX := Lib.hid (And.intro hxo (And.intro hyo (And.intro hcx.1.prime.lo (And.intro hax (And.intro hay (And.intro hzx hzy))))))
  have HCX := Lib.hid hcx
  have HCY := Lib.hid hcy
  have HDX := Lib.hid hDX
  have HDY := Lib.hid hDY
  have HXL : Hid ((dimZ ds ((i : Int) + (-1))).toNat = xs.length ∧ (dimZ ds2 ((j : Int) + (-1))).toNat = ys.length) := Lib.hid ⟨hxl.symm, hyl.symm⟩
  have hmk := run_make_row' (P := Try.prog) 22 2 (.int .i64 0) 8 Try.underlying22 Try.infoI rfl .i64 .i64 N (by omega) (by omega)
  obtain ⟨wg, hwg⟩ : ∃ wg, wg = w1.alloc (.cells (madeCells #[.int .i64 0] N) 2) := ⟨_, rfl⟩
  have hbg : Below w1.heap.size w1 wg := by rw [hwg]; exact below_alloc1 _ _
  have hsg : wg.heap.size = w1.heap.size + 1 := by rw [hwg]; simp
  obtain ⟨g, hg⟩ : ∃ g, g = w1.heap.size := ⟨_, rfl⟩
  have HRG : Hid (wg.rowIs g 2 N (fun _ => .int .i64 0)) := Lib.hid (by rw [hwg, hg]; exact World.rowIs_made w1 (.int .i64 0) N 2)
  have HNG : Hid (∀ W, Below g wg W → Bx w W w.heap.size p (.slice ad ds.length cap) (.slice am ms.length capm) ds ms ∧ Bx w W (w.heap.size + 1) p (.slice ad2 ds2.length cap2) (.slice am2 ms2.length capm2) ds2 ms2) := Lib.hid (fun W hb => HN1.out W (hbg.trans (by rw [← hg]; exact hb)))
  have HGS : Hid (g + 1 = wg.heap.size ∧ w.heap.size ≤ g) := Lib.hid ⟨by omega, by omega⟩
  clear h h2 k1 k2 hcx hcy hxl hyl hxo hyo hax hay hzx hzy hNp hN hri hrj hdi hdj hxs hys hDX hDY
  go_enter Try.func136, Try.ntmps136
  go_upto_region 1 with fail
  rw [← hw1]
  clear hw1
  go_upto_region 2 with fail
  rw [← hwg, ← hg]
  clear hwg hbg hsg hmk hs1 hg
  have HBXx : Hid (∀ W, Below wg.heap.size wg W → Bx w W w.heap.size p (.slice ad ds.length cap) (.slice am ms.length capm) ds ms ∧ Bx w W (w.heap.size + 1) p (.slice ad2 ds2.length cap2) (.slice am2 ms2.length capm2) ds2 ms2) := Lib.hid (fun W hb => HNG.out W (hb.mono (by have := HGS.out; omega)))
  refine wp_region_held (S := fun W => Below wg.heap.size wg W) (by kernel_rfl) ?_
  have S0 : Below wg.heap.size wg wg.drew := (Below.refl _ _).drew
  refine held_take (i := 0) (v := .agg #[.int .i64 p, .slice ad ds.length cap, .slice am ms.length capm]) (some 22) rfl rfl (by kernel_rfl) (by kernel_rfl) (by kernel_rfl) (fun _ _ _ h => h) (yieldsIf_cell (by kernel_rfl) rfl (by kernel_rfl) (fun W h => hload3x (HBXx.out W h).1)) S0 ?_
  refine held_take (i := 1) (v := .int .i64 (i : Int)) (some 23) rfl rfl (by kernel_rfl) (by kernel_rfl) (by kernel_rfl) (fun _ _ _ h => h) (yieldsIf_move (by kernel_rfl) rfl (by kernel_rfl)) S0 ?_
  refine held_take (i := 2) (v := .agg #[.int .i64 p, .slice ad ds.length cap, .slice am ms.length capm]) (some 24) rfl rfl (by kernel_rfl) (by kernel_rfl) (by kernel_rfl) (fun _ _ _ h => h) (yieldsIf_cell (by kernel_rfl) rfl (by kernel_rfl) (fun W h => hload3x (HBXx.out W h).1)) S0 ?_
  refine held_take (i := 3) (v := .int .i64 (i : Int)) (some 25) rfl rfl (by kernel_rfl) (by kernel_rfl) (by kernel_rfl) (fun _ _ _ h => h) (yieldsIf_move (by kernel_rfl) rfl (by kernel_rfl)) S0 ?_
  refine held_take (i := 5) (v := .int .i64 (a : Int)) (some 27) rfl rfl (by kernel_rfl) (by kernel_rfl) (by kernel_rfl) (fun _ _ _ h => h) (yieldsIf_move (by kernel_rfl) rfl (by kernel_rfl)) S0 ?_
  refine held_enter (i := 4) (some 26) (f := 135) (args := #[.agg #[.int .i64 p, .slice ad ds.length cap, .slice am ms.length capm], .int .i64 (i : Int)]) (by kernel_rfl) rfl rfl rfl (by kernel_rfl) (l01Dim_any p (i : Int) _ _ ds ms _ (HBXx.out _ S0).1.cx (by omega)) ?_ (fun c w' h => by cases h.1) (fun w' h => by cases h.1)
  rintro ee W1 ⟨he, hb1⟩
  injection he with he
  subst he
  have S1 : Below wg.heap.size wg W1 := S0.trans (hb1.mono S0.size)
  refine ⟨S1, ?_⟩
  rw [HDX.out]
  refine held_enter (i := 6) (some 28) (f := 184) (args := #[.int .i64 (ri : Int), .int .i64 (a : Int)]) (by kernel_rfl) rfl rfl rfl (by kernel_rfl) (l04Unit_any ri a W1 (by omega) ha) ?_ (fun c w' h => by obtain ⟨_, h, _⟩ := h; cases h) (fun w' h => by obtain ⟨_, h, _⟩ := h; cases h)
  rintro ee W2 ⟨u2, he, hu2, hb2⟩
  injection he with he
  subst he
  obtain ⟨a2, c2, hv⟩ := Sl.shape hu2.l1
  subst hv
  have S2 : Below wg.heap.size wg W2 := S1.trans (hb2.mono S1.size)
  refine ⟨S2, ?_⟩
  refine held_enter (i := 7) (some 29) (f := 183) (args := #[.agg #[.int .i64 p, .slice ad ds.length cap, .slice am ms.length capm], .int .i64 (i : Int), .slice a2 (unitRow ri a).length c2]) (by kernel_rfl) rfl rfl rfl (by kernel_rfl) (l04D_any p i (dimZ ds ((i : Int) + (-1))).toNat _ _ _ ds ms (unL ri a) _ (HBXx.out _ S2).1.cx HCX.out hi (by have := HX.out.2.2.2.2.2.1; omega) hu2.l1 HX.out.2.2.2.1.1 (by rw [unL_length]; omega)) ?_ (fun c w' h => by obtain ⟨_, h, _⟩ := h; cases h) (fun w' h => by obtain ⟨_, h, _⟩ := h; cases h)
  rintro ee W3 ⟨u3, he, hu3, hb3⟩
  injection he with he
  subst he
  rw [HX.out.2.2.2.1.2] at hu3
  obtain ⟨a3, c3, hv⟩ := Sl.shape hu3.l1
  subst hv
  have S3 : Below wg.heap.size wg W3 := S2.trans (hb3.mono S2.size)
  refine ⟨S3, ?_⟩
  refine held_take (i := 8) (v := .slice a3 xs.length c3) (some 16) rfl rfl (by kernel_rfl) (by kernel_rfl) (by kernel_rfl) (fun _ _ _ h => h) (yieldsIf_assign (by kernel_rfl) rfl (by kernel_rfl)) S3 ?_
  refine wpAnyH_done (by kernel_rfl) ?_ _
  simp only [Act.put, List.setIfInBounds_toArray, List.set_cons_zero, List.set_cons_succ]
  have HLx : Hid (Gb wg.heap.size W3 (.slice a3 xs.length c3) xs) := Lib.hid (hu3.mono S2.size)
  have HS3x := Lib.hid S3
  clear S0 S1 S2 S3 hb1 hb2 hb3 hu2 hu3
  obtain ⟨wD, hwD⟩ : ∃ wD : World, wD = W3 := ⟨_, rfl⟩
  rw [← hwD] at HLx HS3x ⊢
  clear hwD W3 W2 W1
  have HRD : Hid (wD.rowIs g 2 N (fun c => .int .i64 ((adpZ p 1 (plS ds ds2 (n : Int) (i - 1)) xs (unL rj b) (fun _ => 0) 0 0) c))) := Lib.hid ((HRG.out.of_block (HS3x.out.block _ HRG.out.lt)).congr (fun c _ => by simp only [ad_first0]))
  have HBT : Hid (∀ W, But g wD W → (Bx w W w.heap.size p (.slice ad ds.length cap) (.slice am ms.length capm) ds ms ∧ Bx w W (w.heap.size + 1) p (.slice ad2 ds2.length cap2) (.slice am2 ms2.length capm2) ds2 ms2) ∧ L1 0 W (.slice a3 xs.length c3) xs) := Lib.hid (fun W hW => ⟨HNG.out W ((HS3x.out.mono (by have := HGS.out; omega)).trans (hW.below (by have := HS3x.out.size; have := HGS.out; omega) (Nat.le_refl _))), (gb_but HLx.out (by have := HGS.out; omega) hW).l1⟩)
  have hgD : g < wD.heap.size := HRD.out.lt
  have HGD := Lib.hid hgD
  clear hgD
  go_wp2
  go_loopw [17] (fun x wr => ∃ k : Nat, k ≤ xs.length ∧ x = .int .i64 (k : Int) ∧ Hid (But g wD wr) ∧ Hid (wr.rowIs g 2 N (fun c => .int .i64 ((adpZ p 1 (plS ds ds2 (n : Int) (i - 1)) xs (unL rj b) (fun _ => 0) k 0) c)))) (fun x _ => xs.length - (intOf x).toNat)
  case atStart => exact ⟨0, Nat.zero_le _, rfl, Lib.hid (But.refl _ _), HRD⟩
  case round =>
    clear HRD
    obtain ⟨k, hk, rfl, HB, HRW⟩ := hrel
    obtain ⟨wx, hwx⟩ : ∃ wx : World, wx = wr := ⟨_, rfl⟩
    subst hwx
    by_cases hlt : k < xs.length
    · have hki : (k : Int) < (xs.length : Int) := by omega
      have hL := (HBT.out wx HB.out).2
      refine Sl.cases hL (fun _ _ hx _ => absurd hlt (by simp [hx])) (fun bl ol cl hvl _ _ hcl => ?_)
      injection hvl with e1 e2 e3
      clear e2
      subst e1 e3
      obtain ⟨y, hy⟩ : ∃ y, y = xs[k] := ⟨_, rfl⟩
      obtain ⟨uu, hu, hru⟩ := hcl k hlt
      have hcy : wx.cell? ⟨bl, ol + k, none⟩ = some (.int .i64 y) := by rw [hu, hru, hy]
      have HYD : Hid (xs.getD k 0 = y) := Lib.hid (by rw [getD_of_lt _ hlt, hy])
      have HCL : Hid (∀ W, But g wx W → W.cell? ⟨bl, ol + k, none⟩ = some (.int .i64 y)) := Lib.hid (fun W hW => by
        have h1 := (HBT.out W (HB.out.trans hW)).2
        refine Sl.cases h1 (fun _ _ hx _ => absurd hlt (by simp [hx])) (fun b2 o2 c2 hv2 _ _ hc2 => ?_)
        injection hv2 with q1
        injection q1 with q1
        injection q1 with q1 q2
        subst q1 q2
        obtain ⟨u2, hu2, hr2⟩ := hc2 k hlt
        rw [hu2, hr2, hy])
      clear hL hu hru hcl hy
      by_cases hy0 : y = 0
      · have hq : (y != 0) = false := by simp [hy0]
        have HRN : Hid (wx.rowIs g 2 N (fun c => .int .i64 ((adpZ p 1 (plS ds ds2 (n : Int) (i - 1)) xs (unL rj b) (fun _ => 0) (k + 1) 0) c))) := Lib.hid (HRW.out.congr (fun c _ => by
          rw [ad_first hb hlt HX.out.1, HYD.out, hy0]
          by_cases e : c = (plS ds ds2 (n : Int) (i - 1)) + (k * rj + b)
          · rw [if_pos e, ad_past (by rw [unL_length]; omega)]
          · rw [if_neg e]))
        clear hy0
        go_wp2
        go_roundw
        case rel => exact ⟨k + 1, by omega, by go_num, HB, HRN⟩
        case measure => simp [intOf]; omega
      · have hq : (y != 0) = true := by simp [hy0]
        have hpos : 0 < xs.length := by omega
        obtain ⟨hi1, hfit, _⟩ := HFA.out hpos
        have hkr : k * rj + rj ≤ xs.length * rj := by have := Nat.mul_le_mul_right rj (show k + 1 ≤ xs.length from hlt); rwa [Nat.succ_mul] at this
        have hpN : ((plS ds ds2 (n : Int) (i - 1)) + (k * rj + b)) < N := by omega
        have hwi : IntKind.i64.wrap ((i : Int) - 1) = ((i - 1 : Nat) : Int) := by rw [show (i : Int) - 1 = ((i - 1 : Nat) : Int) by omega]; exact IntWalk.i64_in _ (by omega)
        have HPL : Hid (∀ W, But g wx W → Calls Try.prog 185 #[.agg #[.int .i64 p, .slice ad ds.length cap, .slice am ms.length capm], .agg #[.int .i64 p, .slice ad2 ds2.length cap2, .slice am2 ms2.length capm2], .int .i64 ((i - 1 : Nat) : Int), .int .i64 (k : Int), .int .i64 (j : Int), .int .i64 (b : Int)] W (BR (.int .i64 (((plS ds ds2 (n : Int) (i - 1)) + (k * rj + b)) : Nat)) W)) := Lib.hid (fun W hW => by
          have hbx := (HBT.out W (HB.out.trans hW)).1
          have := l06Place_any p p (i - 1) k j b _ _ _ _ ds ms ds2 ms2 W hbx.1.cx hbx.2.cx HCX.out HCY.out (by omega) (by omega) (by omega) (by omega)
          rwa [show ((i - 1 : Nat) : Int) + (j : Int) = (n : Int) by omega, HDY.out, Int.toNat_natCast] at this)
        obtain ⟨pl, hpl⟩ : ∃ pl, pl = ((plS ds ds2 (n : Int) (i - 1)) + (k * rj + b)) := ⟨_, rfl⟩
        rw [← hpl] at hpN HPL
        have HPLE := Lib.hid hpl
        have HKL := Lib.hid hlt
        clear hpl hfit hpos hkr hy0
        go_wp2
        clear hcy
        refine wp_region_last (fun W => Hid (But g wx W)) 14 (by kernel_rfl) rfl (by kernel_rfl) ?_
        have S0 : Hid (But g wx wx.drew) := Lib.hid (But.refl _ _).drew
        refine held_take (i := 0) (v := .slice (some ⟨g, 0, none⟩) N N) (some 41) rfl rfl (by kernel_rfl) (by kernel_rfl) (by kernel_rfl) (fun _ _ _ h => h) (yieldsIf_move (by kernel_rfl) rfl (by kernel_rfl)) S0 ?_
        refine held_take (i := 1) (v := .agg #[.int .i64 p, .slice ad ds.length cap, .slice am ms.length capm]) (some 42) rfl rfl (by kernel_rfl) (by kernel_rfl) (by kernel_rfl) (fun _ _ _ h => h) (yieldsIf_cell (by kernel_rfl) rfl (by kernel_rfl) (fun W h => hload3x (HBT.out W (HB.out.trans h.out)).1.1)) S0 ?_
        refine held_take (i := 2) (v := .agg #[.int .i64 p, .slice ad2 ds2.length cap2, .slice am2 ms2.length capm2]) (some 43) rfl rfl (by kernel_rfl) (by kernel_rfl) (by kernel_rfl) (fun _ _ _ h => h) (yieldsIf_cell (by kernel_rfl) rfl (by kernel_rfl) (fun W h => hload3x (HBT.out W (HB.out.trans h.out)).1.2)) S0 ?_
        refine held_take (i := 3) (v := .int .i64 (i : Int)) (some 44) rfl rfl (by kernel_rfl) (by kernel_rfl) (by kernel_rfl) (fun _ _ _ h => h) (yieldsIf_move (by kernel_rfl) rfl (by kernel_rfl)) S0 ?_
        refine held_take (i := 4) (v := .int .i64 ((i - 1 : Nat) : Int)) (some 45) rfl rfl (by kernel_rfl) (by kernel_rfl) (by kernel_rfl) (fun _ _ _ h => h) (yieldsIf_bin (by kernel_rfl) rfl (by kernel_rfl) (by kernel_rfl) (fun _ => rfl) (hsubA hwi)) S0 ?_
        refine held_take (i := 5) (v := .int .i64 (k : Int)) (some 46) rfl rfl (by kernel_rfl) (by kernel_rfl) (by kernel_rfl) (fun _ _ _ h => h) (yieldsIf_move (by kernel_rfl) rfl (by kernel_rfl)) S0 ?_
        refine held_take (i := 6) (v := .int .i64 (j : Int)) (some 47) rfl rfl (by kernel_rfl) (by kernel_rfl) (by kernel_rfl) (fun _ _ _ h => h) (yieldsIf_move (by kernel_rfl) rfl (by kernel_rfl)) S0 ?_
        refine held_take (i := 7) (v := .int .i64 (b : Int)) (some 48) rfl rfl (by kernel_rfl) (by kernel_rfl) (by kernel_rfl) (fun _ _ _ h => h) (yieldsIf_move (by kernel_rfl) rfl (by kernel_rfl)) S0 ?_
        refine held_take (i := 9) (v := .slice (some ⟨bl, ol, none⟩) xs.length c3) (some 50) rfl rfl (by kernel_rfl) (by kernel_rfl) (by kernel_rfl) (fun _ _ _ h => h) (yieldsIf_move (by kernel_rfl) rfl (by kernel_rfl)) S0 ?_
        refine held_take (i := 10) (v := .int .i64 (k : Int)) (some 51) rfl rfl (by kernel_rfl) (by kernel_rfl) (by kernel_rfl) (fun _ _ _ h => h) (yieldsIf_move (by kernel_rfl) rfl (by kernel_rfl)) S0 ?_
        refine held_take (i := 11) (v := .pointer (some ⟨bl, ol + k, none⟩)) (some 52) rfl rfl (by kernel_rfl) (by kernel_rfl) (by kernel_rfl) (fun _ _ _ h => h) (yieldsIf_index (by kernel_rfl) rfl (by kernel_rfl) (by kernel_rfl) (hidxI bl ol c3 HKL.out)) S0 ?_
        refine held_take (i := 12) (v := .int .i64 y) (some 53) rfl rfl (by kernel_rfl) (by kernel_rfl) (by kernel_rfl) (fun _ _ _ h => h) (yieldsIf_cell (by kernel_rfl) rfl (by kernel_rfl) (fun W h => hload W (HCL.out W h.out))) S0 ?_
        refine held_enter (i := 8) (some 49) (f := 185) (args := #[.agg #[.int .i64 p, .slice ad ds.length cap, .slice am ms.length capm], .agg #[.int .i64 p, .slice ad2 ds2.length cap2, .slice am2 ms2.length capm2], .int .i64 ((i - 1 : Nat) : Int), .int .i64 (k : Int), .int .i64 (j : Int), .int .i64 (b : Int)]) (by kernel_rfl) rfl rfl rfl (by kernel_rfl) (HPL.out _ S0.out) ?_ (fun c w' h => by cases h.1) (fun w' h => by cases h.1)
        rintro ee w6 ⟨he, hb6⟩
        injection he with he
        subst he
        have S1 : Hid (But g wx w6) := Lib.hid (S0.out.trans (But.of_below hb6))
        refine ⟨S1, ?_⟩
        refine held_take (i := 13) (v := .pointer (some ⟨g, 0 + pl, none⟩)) (some 54) rfl rfl (by kernel_rfl) (by kernel_rfl) (by kernel_rfl) (fun _ _ _ h => h) (yieldsIf_index (by kernel_rfl) rfl (by kernel_rfl) (by kernel_rfl) (hidxI g 0 N hpN)) S1 ?_
        refine held_none (i := 14) (v := .bool false) rfl rfl (by kernel_rfl) (by kernel_rfl) (by kernel_rfl) (fun _ _ _ h => h) (yieldsIf_move (by kernel_rfl) rfl (by kernel_rfl)) S1 ?_
        have hr6 := HRW.out.of_block ((hb6.block _ (show g < wx.drew.heap.size from HRW.out.lt)).trans rfl)
        have hac : w6.cell? ⟨g, 0 + pl, none⟩ = some (.int .i64 ((adpZ p 1 (plS ds ds2 (n : Int) (i - 1)) xs (unL rj b) (fun _ => 0) k 0) pl)) := by rw [Nat.zero_add]; exact hr6.cell hpN
        have hfz : w6.frozen? ⟨g, 0 + pl, none⟩ = false := hr6.frozen _
        have HRN : Hid ((w6.setCell ⟨g, 0 + pl, none⟩ (.int .i64 y)).rowIs g 2 N (fun c => .int .i64 ((adpZ p 1 (plS ds ds2 (n : Int) (i - 1)) xs (unL rj b) (fun _ => 0) (k + 1) 0) c))) := Lib.hid (by
          rw [Nat.zero_add]
          refine (hr6.set pl _).congr (fun c _ => ?_)
          rw [ad_first hb HKL.out HX.out.1, HYD.out, ← HPLE.out]
          by_cases e : c = pl
          · rw [if_pos e, if_pos e]
          · rw [if_neg e, if_neg e])
        have HBN : Hid (But g wD (w6.setCell ⟨g, 0 + pl, none⟩ (.int .i64 y))) := Lib.hid ((HB.out.trans S1.out).trans (But.set _ _ _))
        refine wpAnyH_done (by kernel_rfl) (lastQ_storeI rfl (by kernel_rfl) (by kernel_rfl) (.tmp 54) (.tmp 53) (by kernel_rfl) g (0 + pl) y _ (by kernel_rfl) (by kernel_rfl) hac hfz ?_) _
        simp only [Act.put, List.setIfInBounds_toArray, List.set_cons_zero, List.set_cons_succ]
        obtain ⟨WN, hWN⟩ : ∃ WN, WN = w6.setCell ⟨g, 0 + pl, none⟩ (.int .i64 y) := ⟨_, rfl⟩
        rw [← hWN] at HRN HBN ⊢
        clear hWN hac hfz hr6 S0 S1 hb6 hwi
        go_wp2
        go_roundw
        case rel => exact ⟨k + 1, by omega, by go_num, HBN, HRN⟩
        case measure => simp [intOf]; omega
    · have hki : ¬ (k : Int) < (xs.length : Int) := by omega
      have hke : k = xs.length := by omega
      subst hke
      have hL := (HBT.out wx HB.out).2
      have HBXy : Hid (∀ W, Below wx.heap.size wx W → Bx w W w.heap.size p (.slice ad ds.length cap) (.slice am ms.length capm) ds ms ∧ Bx w W (w.heap.size + 1) p (.slice ad2 ds2.length cap2) (.slice am2 ms2.length capm2) ds2 ms2) := Lib.hid (fun W hb => (HBT.out W (HB.out.trans (But.of_below hb))).1)
      have hgx : g < wx.heap.size := HRW.out.lt
      clear hL
      go_upto_region 8 with fail
      refine wp_region_held (S := fun W => Below wx.heap.size wx W) (by kernel_rfl) ?_
      have S0 : Below wx.heap.size wx wx.drew := (Below.refl _ _).drew
      refine held_take (i := 0) (v := .agg #[.int .i64 p, .slice ad2 ds2.length cap2, .slice am2 ms2.length capm2]) (some 55) rfl rfl (by kernel_rfl) (by kernel_rfl) (by kernel_rfl) (fun _ _ _ h => h) (yieldsIf_cell (by kernel_rfl) rfl (by kernel_rfl) (fun W h => hload3x (HBXy.out W h).2)) S0 ?_
      refine held_take (i := 1) (v := .int .i64 (j : Int)) (some 56) rfl rfl (by kernel_rfl) (by kernel_rfl) (by kernel_rfl) (fun _ _ _ h => h) (yieldsIf_move (by kernel_rfl) rfl (by kernel_rfl)) S0 ?_
      refine held_take (i := 2) (v := .agg #[.int .i64 p, .slice ad2 ds2.length cap2, .slice am2 ms2.length capm2]) (some 57) rfl rfl (by kernel_rfl) (by kernel_rfl) (by kernel_rfl) (fun _ _ _ h => h) (yieldsIf_cell (by kernel_rfl) rfl (by kernel_rfl) (fun W h => hload3x (HBXy.out W h).2)) S0 ?_
      refine held_take (i := 3) (v := .int .i64 (j : Int)) (some 58) rfl rfl (by kernel_rfl) (by kernel_rfl) (by kernel_rfl) (fun _ _ _ h => h) (yieldsIf_move (by kernel_rfl) rfl (by kernel_rfl)) S0 ?_
      refine held_take (i := 5) (v := .int .i64 (b : Int)) (some 60) rfl rfl (by kernel_rfl) (by kernel_rfl) (by kernel_rfl) (fun _ _ _ h => h) (yieldsIf_move (by kernel_rfl) rfl (by kernel_rfl)) S0 ?_
      refine held_enter (i := 4) (some 59) (f := 135) (args := #[.agg #[.int .i64 p, .slice ad2 ds2.length cap2, .slice am2 ms2.length capm2], .int .i64 (j : Int)]) (by kernel_rfl) rfl rfl rfl (by kernel_rfl) (l01Dim_any p (j : Int) _ _ ds2 ms2 _ (HBXy.out _ S0).2.cx (by omega)) ?_ (fun c w' h => by cases h.1) (fun w' h => by cases h.1)
      rintro ee W1 ⟨he, hb1⟩
      injection he with he
      subst he
      have S1 : Below wx.heap.size wx W1 := S0.trans (hb1.mono S0.size)
      refine ⟨S1, ?_⟩
      rw [HDY.out]
      refine held_enter (i := 6) (some 61) (f := 184) (args := #[.int .i64 (rj : Int), .int .i64 (b : Int)]) (by kernel_rfl) rfl rfl rfl (by kernel_rfl) (l04Unit_any rj b W1 (by omega) hb) ?_ (fun c w' h => by obtain ⟨_, h, _⟩ := h; cases h) (fun w' h => by obtain ⟨_, h, _⟩ := h; cases h)
      rintro ee W2 ⟨u2, he, hu2, hb2⟩
      injection he with he
      subst he
      obtain ⟨a2, c2, hv⟩ := Sl.shape hu2.l1
      subst hv
      have S2 : Below wx.heap.size wx W2 := S1.trans (hb2.mono S1.size)
      refine ⟨S2, ?_⟩
      refine held_enter (i := 7) (some 62) (f := 183) (args := #[.agg #[.int .i64 p, .slice ad2 ds2.length cap2, .slice am2 ms2.length capm2], .int .i64 (j : Int), .slice a2 (unitRow rj b).length c2]) (by kernel_rfl) rfl rfl rfl (by kernel_rfl) (l04D_any p j (dimZ ds2 ((j : Int) + (-1))).toNat _ _ _ ds2 ms2 (unL rj b) _ (HBXy.out _ S2).2.cx HCY.out hj (by have := HX.out.2.2.2.2.2.2; omega) hu2.l1 HX.out.2.2.2.2.1.1 (by rw [unL_length]; omega)) ?_ (fun c w' h => by obtain ⟨_, h, _⟩ := h; cases h) (fun w' h => by obtain ⟨_, h, _⟩ := h; cases h)
      rintro ee W3 ⟨u3, he, hu3, hb3⟩
      injection he with he
      subst he
      rw [HX.out.2.2.2.2.1.2] at hu3
      obtain ⟨a4, c4, hv⟩ := Sl.shape hu3.l1
      subst hv
      have S3 : Below wx.heap.size wx W3 := S2.trans (hb3.mono S2.size)
      refine ⟨S3, ?_⟩
      refine held_take (i := 8) (v := .slice a4 ys.length c4) (some 18) rfl rfl (by kernel_rfl) (by kernel_rfl) (by kernel_rfl) (fun _ _ _ h => h) (yieldsIf_assign (by kernel_rfl) rfl (by kernel_rfl)) S3 ?_
      refine wpAnyH_done (by kernel_rfl) ?_ _
      simp only [Act.put, List.setIfInBounds_toArray, List.set_cons_zero, List.set_cons_succ]
      have HLy : Hid (Gb wx.heap.size W3 (.slice a4 ys.length c4) ys) := Lib.hid (hu3.mono S2.size)
      have HS3y := Lib.hid S3
      clear S0 S1 S2 S3 hb1 hb2 hb3 hu2 hu3
      obtain ⟨wF, hwF⟩ : ∃ wF : World, wF = W3 := ⟨_, rfl⟩
      rw [← hwF] at HLy HS3y ⊢
      clear hwF W3 W2 W1
      have HRF : Hid (wF.rowIs g 2 N (fun c => .int .i64 ((tcSec p (if (i : Int) % 2 = 0 then 1 else p - 1) ((plS ds ds2 (n : Int) i) + a * ys.length) ys (adpZ p 1 (plS ds ds2 (n : Int) (i - 1)) xs (unL rj b) (fun _ => 0) xs.length 0) 0) c))) := Lib.hid ((HRW.out.of_block (HS3y.out.block _ hgx)).congr (fun c _ => by simp only [tcSec_zero]))
      have HBT2 : Hid (∀ W, But g wF W → (Bx w W w.heap.size p (.slice ad ds.length cap) (.slice am ms.length capm) ds ms ∧ Bx w W (w.heap.size + 1) p (.slice ad2 ds2.length cap2) (.slice am2 ms2.length capm2) ds2 ms2) ∧ L1 0 W (.slice a4 ys.length c4) ys) := Lib.hid (fun W hW => ⟨(HBT.out W ((HB.out.trans (But.of_below HS3y.out)).trans hW)).1, (gb_but HLy.out hgx hW).l1⟩)
      have HBD : Hid (But g wD wF) := Lib.hid (HB.out.trans (But.of_below HS3y.out))
      clear hgx HBT HB HRW
      have HBT := HBT2
      clear HBT2
      go_wp2
      go_loopw [19] (fun x wr => ∃ k : Nat, k ≤ ys.length ∧ x = .int .i64 (k : Int) ∧ Hid (But g wF wr) ∧ Hid (wr.rowIs g 2 N (fun c => .int .i64 ((tcSec p (if (i : Int) % 2 = 0 then 1 else p - 1) ((plS ds ds2 (n : Int) i) + a * ys.length) ys (adpZ p 1 (plS ds ds2 (n : Int) (i - 1)) xs (unL rj b) (fun _ => 0) xs.length 0) k) c)))) (fun x _ => ys.length - (intOf x).toNat)
      case atStart => exact ⟨0, Nat.zero_le _, rfl, Lib.hid (But.refl _ _), HRF⟩
      case round =>
        clear HRF
        obtain ⟨k, hk, rfl, HB, HRW⟩ := hrel
        obtain ⟨wx, hwx⟩ : ∃ wx : World, wx = wr := ⟨_, rfl⟩
        subst hwx
        by_cases hlt : k < ys.length
        · have hki : (k : Int) < (ys.length : Int) := by omega
          have hL := (HBT.out wx HB.out).2
          refine Sl.cases hL (fun _ _ hx _ => absurd hlt (by simp [hx])) (fun bl ol cl hvl _ _ hcl => ?_)
          injection hvl with e1 e2 e3
          clear e2
          subst e1 e3
          obtain ⟨y, hy⟩ : ∃ y, y = ys[k] := ⟨_, rfl⟩
          obtain ⟨uu, hu, hru⟩ := hcl k hlt
          have hcy : wx.cell? ⟨bl, ol + k, none⟩ = some (.int .i64 y) := by rw [hu, hru, hy]
          have HYD : Hid (ys.getD k 0 = y) := Lib.hid (by rw [getD_of_lt _ hlt, hy])
          have HCL : Hid (∀ W, But g wx W → W.cell? ⟨bl, ol + k, none⟩ = some (.int .i64 y)) := Lib.hid (fun W hW => by
            have h1 := (HBT.out W (HB.out.trans hW)).2
            refine Sl.cases h1 (fun _ _ hx _ => absurd hlt (by simp [hx])) (fun b2 o2 c2 hv2 _ _ hc2 => ?_)
            injection hv2 with q1
            injection q1 with q1
            injection q1 with q1 q2
            subst q1 q2
            obtain ⟨u2, hu2, hr2⟩ := hc2 k hlt
            rw [hu2, hr2, hy])
          clear hL hu hru hcl hy
          by_cases hy0 : y = 0
          · have hq : (y != 0) = false := by simp [hy0]
            have HRN : Hid (wx.rowIs g 2 N (fun c => .int .i64 ((tcSec p (if (i : Int) % 2 = 0 then 1 else p - 1) ((plS ds ds2 (n : Int) i) + a * ys.length) ys (adpZ p 1 (plS ds ds2 (n : Int) (i - 1)) xs (unL rj b) (fun _ => 0) xs.length 0) (k + 1)) c))) := Lib.hid (HRW.out.congr (fun c _ => by
              rw [tcSec_skip (fun c hc => HZP.out c (by omega)) (by rw [HYD.out]; exact hy0)]))
            clear hy0
            go_wp2
            go_roundw
            case rel => exact ⟨k + 1, by omega, by go_num, HB, HRN⟩
            case measure => simp [intOf]; omega
          · have hq : (y != 0) = true := by simp [hy0]
            have hpos : 0 < ys.length := by omega
            obtain ⟨hj1, hfit, har⟩ := HFB.out hpos
            have hpN : ((plS ds ds2 (n : Int) i) + (a * ys.length + k)) < N := by omega
            have hwj : IntKind.i64.wrap ((j : Int) - 1) = ((j - 1 : Nat) : Int) := by rw [show (j : Int) - 1 = ((j - 1 : Nat) : Int) by omega]; exact IntWalk.i64_in _ (by omega)
            have HPL : Hid (∀ W, But g wx W → Calls Try.prog 185 #[.agg #[.int .i64 p, .slice ad ds.length cap, .slice am ms.length capm], .agg #[.int .i64 p, .slice ad2 ds2.length cap2, .slice am2 ms2.length capm2], .int .i64 (i : Int), .int .i64 (a : Int), .int .i64 ((j - 1 : Nat) : Int), .int .i64 (k : Int)] W (BR (.int .i64 (((plS ds ds2 (n : Int) i) + (a * ys.length + k)) : Nat)) W)) := Lib.hid (fun W hW => by
              have hbx := (HBT.out W (HB.out.trans hW)).1
              have := l06Place_any p p i a (j - 1) k _ _ _ _ ds ms ds2 ms2 W hbx.1.cx hbx.2.cx HCX.out HCY.out hi (by omega) (by omega) (by omega)
              rwa [show (i : Int) + ((j - 1 : Nat) : Int) = (n : Int) by omega, show ((j - 1 : Nat) : Int) = (j : Int) + (-1) by omega, HXL.out.2, show (j : Int) + (-1) = ((j - 1 : Nat) : Int) by omega] at this)
            obtain ⟨pl, hpl⟩ : ∃ pl, pl = ((plS ds ds2 (n : Int) i) + (a * ys.length + k)) := ⟨_, rfl⟩
            rw [← hpl] at hpN HPL
            have HPLE := Lib.hid hpl
            have hyb : 0 ≤ y ∧ y ≤ p - 1 := by have := HX.out.2.1 _ (List.getElem_mem hlt); have h0 := HYD.out; rw [getD_of_lt _ hlt] at h0; rw [← h0]; exact this
            have hp7 := HCX.out.1.prime.hi
            have hy6 : 0 ≤ y ∧ y ≤ 6 := by omega
            have hi0 : (0 : Int) ≤ (i : Int) ∧ (i : Int) ≤ 6 := by omega
            have hw2 : IntKind.i64.wrap (2 * ((i : Int) % 2)) = 2 * ((i : Int) % 2) := IntWalk.i64_in _ (by omega)
            have hw3 : IntKind.i64.wrap (1 - 2 * ((i : Int) % 2)) = 1 - 2 * ((i : Int) % 2) := IntWalk.i64_in _ (by omega)
            have hw4 : IntKind.i64.wrap (y * (1 - 2 * ((i : Int) % 2))) = (y * (1 - 2 * ((i : Int) % 2))) := by
              have h5 : (i : Int) % 2 = 0 ∨ (i : Int) % 2 = 1 := by omega
              refine IntWalk.i64_in _ ?_
              rcases h5 with h5 | h5 <;> rw [h5] <;> omega
            have HMOD : Hid (∀ W, Calls Try.prog 186 #[.int .i64 p, .int .i64 (y * (1 - 2 * ((i : Int) % 2)))] W (QW (.int .i64 ((if (i : Int) % 2 = 0 then 1 else p - 1) * y % p)) W)) := Lib.hid (fun W => by have := l01Mod_any p (y * (1 - 2 * ((i : Int) % 2))) W HCX.out.1.prime; rwa [tc_mod] at this)
            obtain ⟨z, hz⟩ : ∃ z, z = (if (i : Int) % 2 = 0 then 1 else p - 1) * y % p := ⟨_, rfl⟩
            rw [← hz] at HMOD
            have HZ := Lib.hid hz
            have HKL := Lib.hid hlt
            clear hpl hfit hpos har hy0 hyb hz
            go_wp2
            clear hcy
            refine wp_region_last (fun W => Hid (But g wx W)) 22 (by kernel_rfl) rfl (by kernel_rfl) ?_
            have S0 : Hid (But g wx wx.drew) := Lib.hid (But.refl _ _).drew
            refine held_take (i := 0) (v := .slice (some ⟨g, 0, none⟩) N N) (some 74) rfl rfl (by kernel_rfl) (by kernel_rfl) (by kernel_rfl) (fun _ _ _ h => h) (yieldsIf_move (by kernel_rfl) rfl (by kernel_rfl)) S0 ?_
            refine held_take (i := 1) (v := .agg #[.int .i64 p, .slice ad ds.length cap, .slice am ms.length capm]) (some 75) rfl rfl (by kernel_rfl) (by kernel_rfl) (by kernel_rfl) (fun _ _ _ h => h) (yieldsIf_cell (by kernel_rfl) rfl (by kernel_rfl) (fun W h => hload3x (HBT.out W (HB.out.trans h.out)).1.1)) S0 ?_
            refine held_take (i := 2) (v := .agg #[.int .i64 p, .slice ad2 ds2.length cap2, .slice am2 ms2.length capm2]) (some 76) rfl rfl (by kernel_rfl) (by kernel_rfl) (by kernel_rfl) (fun _ _ _ h => h) (yieldsIf_cell (by kernel_rfl) rfl (by kernel_rfl) (fun W h => hload3x (HBT.out W (HB.out.trans h.out)).1.2)) S0 ?_
            refine held_take (i := 3) (v := .int .i64 (i : Int)) (some 77) rfl rfl (by kernel_rfl) (by kernel_rfl) (by kernel_rfl) (fun _ _ _ h => h) (yieldsIf_move (by kernel_rfl) rfl (by kernel_rfl)) S0 ?_
            refine held_take (i := 4) (v := .int .i64 (a : Int)) (some 78) rfl rfl (by kernel_rfl) (by kernel_rfl) (by kernel_rfl) (fun _ _ _ h => h) (yieldsIf_move (by kernel_rfl) rfl (by kernel_rfl)) S0 ?_
            refine held_take (i := 5) (v := .int .i64 (j : Int)) (some 79) rfl rfl (by kernel_rfl) (by kernel_rfl) (by kernel_rfl) (fun _ _ _ h => h) (yieldsIf_move (by kernel_rfl) rfl (by kernel_rfl)) S0 ?_
            refine held_take (i := 6) (v := .int .i64 ((j - 1 : Nat) : Int)) (some 80) rfl rfl (by kernel_rfl) (by kernel_rfl) (by kernel_rfl) (fun _ _ _ h => h) (yieldsIf_bin (by kernel_rfl) rfl (by kernel_rfl) (by kernel_rfl) (fun _ => rfl) (hsubA hwj)) S0 ?_
            refine held_take (i := 7) (v := .int .i64 (k : Int)) (some 81) rfl rfl (by kernel_rfl) (by kernel_rfl) (by kernel_rfl) (fun _ _ _ h => h) (yieldsIf_move (by kernel_rfl) rfl (by kernel_rfl)) S0 ?_
            refine held_take (i := 9) (v := .pointer (some ⟨w.heap.size, 0, none⟩)) (some 83) rfl rfl (by kernel_rfl) (by kernel_rfl) (by kernel_rfl) (fun _ _ _ h => h) (yieldsIf_run (by kernel_rfl) (fun W _ => by kernel_rfl)) S0 ?_
            refine held_take (i := 10) (v := .int .i64 p) (some 84) rfl rfl (by kernel_rfl) (by kernel_rfl) (by kernel_rfl) (fun _ _ _ h => h) (yieldsIf_cell (by kernel_rfl) rfl (by kernel_rfl) (fun W h => hload W (HBT.out W (HB.out.trans h.out)).1.1.c0)) S0 ?_
            refine held_take (i := 11) (v := .slice (some ⟨bl, ol, none⟩) ys.length c4) (some 85) rfl rfl (by kernel_rfl) (by kernel_rfl) (by kernel_rfl) (fun _ _ _ h => h) (yieldsIf_move (by kernel_rfl) rfl (by kernel_rfl)) S0 ?_
            refine held_take (i := 12) (v := .int .i64 (k : Int)) (some 86) rfl rfl (by kernel_rfl) (by kernel_rfl) (by kernel_rfl) (fun _ _ _ h => h) (yieldsIf_move (by kernel_rfl) rfl (by kernel_rfl)) S0 ?_
            refine held_take (i := 13) (v := .pointer (some ⟨bl, ol + k, none⟩)) (some 87) rfl rfl (by kernel_rfl) (by kernel_rfl) (by kernel_rfl) (fun _ _ _ h => h) (yieldsIf_index (by kernel_rfl) rfl (by kernel_rfl) (by kernel_rfl) (hidxI bl ol c4 HKL.out)) S0 ?_
            refine held_take (i := 14) (v := .int .i64 y) (some 88) rfl rfl (by kernel_rfl) (by kernel_rfl) (by kernel_rfl) (fun _ _ _ h => h) (yieldsIf_cell (by kernel_rfl) rfl (by kernel_rfl) (fun W h => hload W (HCL.out W h.out))) S0 ?_
            refine held_take (i := 15) (v := .int .i64 (i : Int)) (some 89) rfl rfl (by kernel_rfl) (by kernel_rfl) (by kernel_rfl) (fun _ _ _ h => h) (yieldsIf_move (by kernel_rfl) rfl (by kernel_rfl)) S0 ?_
            refine held_take (i := 16) (v := .int .i64 ((i : Int) % 2)) (some 90) rfl rfl (by kernel_rfl) (by kernel_rfl) (by kernel_rfl) (fun _ _ _ h => h) (yieldsIf_bin (by kernel_rfl) rfl (by kernel_rfl) (by kernel_rfl) (fun _ => rfl) (hremI hi0.1 (by omega) (by omega))) S0 ?_
            refine held_take (i := 17) (v := .int .i64 (2 * ((i : Int) % 2))) (some 91) rfl rfl (by kernel_rfl) (by kernel_rfl) (by kernel_rfl) (fun _ _ _ h => h) (yieldsIf_bin (by kernel_rfl) rfl (by kernel_rfl) (by kernel_rfl) (fun _ => rfl) (hmulA hw2)) S0 ?_
            refine held_take (i := 18) (v := .int .i64 (1 - 2 * ((i : Int) % 2))) (some 92) rfl rfl (by kernel_rfl) (by kernel_rfl) (by kernel_rfl) (fun _ _ _ h => h) (yieldsIf_bin (by kernel_rfl) rfl (by kernel_rfl) (by kernel_rfl) (fun _ => rfl) (hsubA hw3)) S0 ?_
            refine held_take (i := 19) (v := .int .i64 (y * (1 - 2 * ((i : Int) % 2)))) (some 93) rfl rfl (by kernel_rfl) (by kernel_rfl) (by kernel_rfl) (fun _ _ _ h => h) (yieldsIf_bin (by kernel_rfl) rfl (by kernel_rfl) (by kernel_rfl) (fun _ => rfl) (hmulA hw4)) S0 ?_
            refine held_enter (i := 8) (some 82) (f := 185) (args := #[.agg #[.int .i64 p, .slice ad ds.length cap, .slice am ms.length capm], .agg #[.int .i64 p, .slice ad2 ds2.length cap2, .slice am2 ms2.length capm2], .int .i64 (i : Int), .int .i64 (a : Int), .int .i64 ((j - 1 : Nat) : Int), .int .i64 (k : Int)]) (by kernel_rfl) rfl rfl rfl (by kernel_rfl) (HPL.out _ S0.out) ?_ (fun c w' h => by cases h.1) (fun w' h => by cases h.1)
            rintro ee w6 ⟨he, hb6⟩
            injection he with he
            subst he
            have S1 : Hid (But g wx w6) := Lib.hid (S0.out.trans (But.of_below hb6))
            refine ⟨S1, ?_⟩
            refine held_enter (i := 20) (some 94) (f := 186) (args := #[.int .i64 p, .int .i64 (y * (1 - 2 * ((i : Int) % 2)))]) (by kernel_rfl) rfl rfl rfl (by kernel_rfl) (HMOD.out _) ?_ (fun c w' h => by cases h.1) (fun w' h => by cases h.1)
            rintro ee w7 ⟨he, hw7⟩
            injection he with he
            subst he hw7
            refine ⟨S1, ?_⟩
            refine held_take (i := 21) (v := .pointer (some ⟨g, 0 + pl, none⟩)) (some 95) rfl rfl (by kernel_rfl) (by kernel_rfl) (by kernel_rfl) (fun _ _ _ h => h) (yieldsIf_index (by kernel_rfl) rfl (by kernel_rfl) (by kernel_rfl) (hidxI g 0 N hpN)) S1 ?_
            refine held_none (i := 22) (v := .bool false) rfl rfl (by kernel_rfl) (by kernel_rfl) (by kernel_rfl) (fun _ _ _ h => h) (yieldsIf_move (by kernel_rfl) rfl (by kernel_rfl)) S1 ?_
            have hr6 := HRW.out.of_block ((hb6.block _ (show g < wx.drew.heap.size from HRW.out.lt)).trans rfl)
            have hac : w6.cell? ⟨g, 0 + pl, none⟩ = some (.int .i64 ((tcSec p (if (i : Int) % 2 = 0 then 1 else p - 1) ((plS ds ds2 (n : Int) i) + a * ys.length) ys (adpZ p 1 (plS ds ds2 (n : Int) (i - 1)) xs (unL rj b) (fun _ => 0) xs.length 0) k) pl)) := by rw [Nat.zero_add]; exact hr6.cell hpN
            have hfz : w6.frozen? ⟨g, 0 + pl, none⟩ = false := hr6.frozen _
            have HRN : Hid ((w6.setCell ⟨g, 0 + pl, none⟩ (.int .i64 z)).rowIs g 2 N (fun c => .int .i64 ((tcSec p (if (i : Int) % 2 = 0 then 1 else p - 1) ((plS ds ds2 (n : Int) i) + a * ys.length) ys (adpZ p 1 (plS ds ds2 (n : Int) (i - 1)) xs (unL rj b) (fun _ => 0) xs.length 0) (k + 1)) c))) := Lib.hid (by
              rw [Nat.zero_add]
              refine (hr6.set pl _).congr (fun c _ => ?_)
              rw [tcSec_put, HYD.out, ← HZ.out, show (plS ds ds2 (n : Int) i) + a * ys.length + k = pl by rw [HPLE.out]; omega]
              by_cases e : c = pl
              · rw [if_pos e, if_pos e]
              · rw [if_neg e, if_neg e])
            have HBN : Hid (But g wF (w6.setCell ⟨g, 0 + pl, none⟩ (.int .i64 z))) := Lib.hid ((HB.out.trans S1.out).trans (But.set _ _ _))
            refine wpAnyH_done (by kernel_rfl) (lastQ_storeI rfl (by kernel_rfl) (by kernel_rfl) (.tmp 95) (.tmp 94) (by kernel_rfl) g (0 + pl) z _ (by kernel_rfl) (by kernel_rfl) hac hfz ?_) _
            simp only [Act.put, List.setIfInBounds_toArray, List.set_cons_zero, List.set_cons_succ]
            obtain ⟨WN, hWN⟩ : ∃ WN, WN = w6.setCell ⟨g, 0 + pl, none⟩ (.int .i64 z) := ⟨_, rfl⟩
            rw [← hWN] at HRN HBN ⊢
            clear hWN hac hfz hr6 S0 S1 hb6 hwj hw2 hw3 hw4
            go_wp2
            go_roundw
            case rel => exact ⟨k + 1, by omega, by go_num, HBN, HRN⟩
            case measure => simp [intOf]; omega
        · have hki : ¬ (k : Int) < (ys.length : Int) := by omega
          have hke : k = ys.length := by omega
          subst hke
          have HBF := Lib.hid (HBT.out wx HB.out).1.1.below
          have HRF : Hid (wx.rowIs g 2 N (fun c => .int .i64 (tcRow p ds ms ds2 ms2 i a j b c))) := Lib.hid (HRW.out.congr (fun c _ => by rw [HEND.out]))
          go_wp2
          go_ret
          exact ⟨g, rfl, HGS.out.2, HRF.out, HBF.out⟩
end Go.Proofs.Ythfcadgbipnemaa


namespace Go.Proofs.Ythfcadgbipnemaa
open Go.RowKit

/-- A row put in another's place, in a table that the call gathers. -/
theorem Gs.put {base g n cap : Nat} {w : World} {t : List (List Int)} (h : Gs base w (.slice (some ⟨g, 0, none⟩) n cap) t) {k : Nat} (hk : k < t.length) {u : Value} {x : List Int} (hu : G1 w u x) :
    Gs base (w.setCell ⟨g, k, none⟩ u) (.slice (some ⟨g, 0, none⟩) n cap) (t.set k x) ∧ w.frozen? ⟨g, k, none⟩ = false ∧ (∃ v0, w.cell? ⟨g, k, none⟩ = some v0) ∧ base ≤ g := by
  obtain ⟨vs, ⟨hl, h2⟩, hr⟩ := h
  rcases h2 with ⟨h0, _⟩ | ⟨g', c', cur, hv, hlo, hh, hnc, hcm, hcs, htk⟩
  · cases h0
  · injection hv with e1 e2 e3
    injection e1 with e1
    injection e1 with e1
    subst e1 e2 e3
    have hrow : w.rowIs g 22 cur.size (fun i => cur.getD i undef) := ⟨cur, hh, rfl, fun i hi => by simp [hi]⟩
    have hvl : vs.length = t.length := by omega
    have hkc : k < cur.size := by omega
    refine ⟨⟨vs.set k u, ⟨by simpa using hl, Or.inr ⟨g, cap, cur.setIfInBounds k u, by simp, hlo, block_setCell' hh _, by simpa using hnc, hcm, by simpa using hcs, ?_⟩⟩, fun i h1 h2 => ?_⟩, by simp [World.frozen?, hh], ⟨_, hrow.cell hkc⟩, hlo⟩
    · simp only [List.length_set, Nat.mul_one] at htk ⊢
      rw [Array.toList_setIfInBounds, List.take_set, htk]
    · rw [List.getElem_set, List.getElem_set]
      by_cases e : k = i
      · rw [if_pos e, if_pos e]
        exact hu.off hrow (by decide) _ _
      · rw [if_neg e, if_neg e]
        exact (hr i (by simpa using h1) (by simpa using h2)).off hrow (by decide) _ _
end Go.Proofs.Ythfcadgbipnemaa


namespace Go.Proofs.Ythfcadgbipnemaa
open Go.RowKit

/-- A value's own block is not this one. -/
def OffB (b : Option Nat) (u : Value) : Prop := ∀ g, u.ownBlock = some g → b ≠ some g
theorem owns_lt {w : World} {base : Nat} {e : TypeId} {size n : Nat} {u : Value} {xs : List Value} (h : w.ownsRow base e size u n xs) {g : Nat} (hg : u.ownBlock = some g) : g < w.heap.size := by
  rcases h.2 with ⟨rfl, _⟩ | ⟨g2, cap, cur, rfl, _, hh, _⟩
  · simp [Value.ownBlock] at hg
  · simp [Value.ownBlock] at hg
    subst hg
    exact (Array.getElem?_eq_some_iff.1 hh).1
/-- A table whose rows lie off a block. -/
def Gr (b : Option Nat) (w : World) (u : Value) (t : List (List Int)) : Prop := ∃ vs, w.ownsRow 0 22 1 u t.length vs ∧ ∀ k (h1 : k < vs.length) (h2 : k < t.length), G1 w vs[k] t[k] ∧ OffB b vs[k]
def Gto (b : Option Nat) (base : Nat) (w : World) (u : Value) (ts : List (List (List Int))) : Prop := ∃ vs, w.ownsRow base 27 1 u ts.length vs ∧ ∀ k (h1 : k < vs.length) (h2 : k < ts.length), Gr b w vs[k] ts[k]
theorem Gr.gs {b : Option Nat} {w : World} {u : Value} {t : List (List Int)} (h : Gr b w u t) : Gs 0 w u t := by
  obtain ⟨vs, ho, hr⟩ := h
  exact ⟨vs, ho, fun k h1 h2 => (hr k h1 h2).1⟩
theorem Gto.gt {b : Option Nat} {base : Nat} {w : World} {u : Value} {ts : List (List (List Int))} (h : Gto b base w u ts) : Gt base w u ts := by
  obtain ⟨vs, ho, hr⟩ := h
  exact ⟨vs, ho, fun k h1 h2 => (hr k h1 h2).gs⟩
theorem Gr.below {b : Option Nat} {w w' : World} {u : Value} {t : List (List Int)} (h : Gr b w u t) (hb : Below w.heap.size w w') : Gr b w' u t := by
  obtain ⟨vs, ho, hr⟩ := h
  exact ⟨vs, owns_below ho hb, fun k h1 h2 => ⟨(hr k h1 h2).1.below hb, (hr k h1 h2).2⟩⟩
theorem Gto.below {b : Option Nat} {base : Nat} {w w' : World} {u : Value} {ts : List (List (List Int))} (h : Gto b base w u ts) (hb : Below w.heap.size w w') : Gto b base w' u ts := by
  obtain ⟨vs, ho, hr⟩ := h
  exact ⟨vs, owns_below ho hb, fun k h1 h2 => (hr k h1 h2).below hb⟩
theorem Gto.nil {b : Option Nat} {base : Nat} {w : World} {u : Value} (h : Gt base w u []) : Gto b base w u [] := by
  obtain ⟨vs, ho, _⟩ := h
  exact ⟨vs, ho, fun k _ h2 => absurd h2 (Nat.not_lt_zero _)⟩
/-- A table of a call made behind a block lies off it. -/
theorem Gr.of {b : Nat} {w : World} {u : Value} {t : List (List Int)} {vs : List Value} (ho : w.ownsRow 0 22 1 u t.length vs) (hr : ∀ k (h1 : k < vs.length) (h2 : k < t.length), Gb (b + 1) w vs[k] t[k]) : Gr (some b) w u t :=
  ⟨vs, ho, fun k h1 h2 => ⟨(hr k h1 h2).g1, fun g hg e => by
    have := ((hr k h1 h2).lt g hg).1
    injection e with e
    omega⟩⟩
theorem Gr.move {b b' : Option Nat} {w : World} {u : Value} {t : List (List Int)} (h : Gr b w u t) (hx : ∀ g, b' = some g → b = some g ∨ w.heap.size ≤ g) : Gr b' w u t := by
  obtain ⟨vs, ho, hr⟩ := h
  refine ⟨vs, ho, fun k h1 h2 => ⟨(hr k h1 h2).1, fun g hg e => ?_⟩⟩
  rcases hx g e with h3 | h3
  · exact (hr k h1 h2).2 g hg h3
  · have := owns_lt (hr k h1 h2).1 hg
    omega
theorem Gto.move {b b' : Option Nat} {base : Nat} {w : World} {u : Value} {ts : List (List (List Int))} (h : Gto b base w u ts) (hx : ∀ g, b' = some g → b = some g ∨ w.heap.size ≤ g) : Gto b' base w u ts := by
  obtain ⟨vs, ho, hr⟩ := h
  exact ⟨vs, ho, fun k h1 h2 => (hr k h1 h2).move hx⟩
theorem Gr.grown {b : Option Nat} {w w3 : World} {base n : Nat} {u v : Value} {t : List (List Int)} {vs : List Value} (h : Gr b w u t) (ho : w.ownsRow base 27 1 v n vs) (hg : w.grownBy w3 v.ownBlock) : Gr b w3 u t := by
  obtain ⟨us, hu, hr⟩ := h
  exact ⟨us, owns_grown hu ho (by decide) hg, fun k h1 h2 => ⟨owns_grown (hr k h1 h2).1 ho (by decide) hg, (hr k h1 h2).2⟩⟩
theorem Gto.push {b : Option Nat} {base : Nat} {w w3 : World} {v v' row : Value} {ts : List (List (List Int))} {vs : List Value} {x : List (List Int)} (ho : w.ownsRow base 27 1 v ts.length vs) (hr : ∀ k (h1 : k < vs.length) (h2 : k < ts.length), Gr b w vs[k] ts[k]) (hx : Gr b w row x)
    (ho3 : w3.ownsRow base 27 1 v' (ts.length + 1) (vs ++ [row])) (hg : w.grownBy w3 v.ownBlock) : Gto b base w3 v' (ts ++ [x]) := by
  have hvl : vs.length = ts.length := by have := ho.1; omega
  refine ⟨vs ++ [row], by simpa using ho3, fun k h1 h2 => ?_⟩
  by_cases e : k < vs.length
  · rw [List.getElem_append_left e, List.getElem_append_left (by omega)]
    exact (hr k e (by omega)).grown ho hg
  · have e2 : k = vs.length := by simp at h1; omega
    subst e2
    rw [List.getElem_append_right (Nat.le_refl _), List.getElem_append_right (by omega)]
    simp only [Nat.sub_self, hvl, List.getElem_cons_zero]
    exact hx.grown ho hg
theorem Gr.off {b : Option Nat} {w : World} {g k : Nat} {t : TypeId} {f : Nat → Value} {u : Value} {xs : List (List Int)} (h : Gr b w u xs) (hr : w.rowIs g t k f) (ht : t ≠ 2 ∧ t ≠ 22) (i : Nat) (x : Value) : Gr b (w.setCell ⟨g, i, none⟩ x) u xs := by
  obtain ⟨vs, ho, h1⟩ := h
  exact ⟨vs, owns_off ho hr ht.2 i x, fun k a c => ⟨(h1 k a c).1.off hr ht.1 i x, (h1 k a c).2⟩⟩
theorem Gto.off {b : Option Nat} {base : Nat} {w : World} {g k : Nat} {t : TypeId} {f : Nat → Value} {u : Value} {xs : List (List (List Int))} (h : Gto b base w u xs) (hr : w.rowIs g t k f) (ht : t ≠ 2 ∧ t ≠ 22 ∧ t ≠ 27) (i : Nat) (x : Value) : Gto b base (w.setCell ⟨g, i, none⟩ x) u xs := by
  obtain ⟨vs, ho, h1⟩ := h
  exact ⟨vs, owns_off ho hr ht.2.2 i x, fun k a c => (h1 k a c).off hr ⟨ht.1, ht.2.1⟩ i x⟩

/-- A complex that the model gathers, dimensions and tables in turn: its box at block g, its two lists. -/
structure Sdo (w1 wr : World) (g : Nat) (p : Int) (v vm : Value) (xs : List Int) (ts : List (List (List Int))) : Prop where
  below : Below w1.heap.size w1 wr
  lo : w1.heap.size ≤ g
  box : wr.rowIs g 30 3 (sel3 (.int .i64 p) v vm)
  dims : Gb w1.heap.size wr v xs
  maps : Gto v.ownBlock w1.heap.size wr vm ts
theorem Sdo.start {w1 wr : World} {g : Nat} {p : Int} {v vm : Value} {xs : List Int} (h : Sd w1 wr g p v vm xs []) : Sdo w1 wr g p v vm xs [] := ⟨h.below, h.lo, h.box, h.dims, Gto.nil h.maps⟩
theorem Sdo.sd {w1 wr : World} {g : Nat} {p : Int} {v vm : Value} {xs : List Int} {ts : List (List (List Int))} (h : Sdo w1 wr g p v vm xs ts) : Sd w1 wr g p v vm xs ts := ⟨h.below, h.lo, h.box, h.dims, h.maps.gt⟩
theorem Sdo.next {w1 wr wa : World} {g : Nat} {p : Int} {v vm : Value} {xs : List Int} {ts : List (List (List Int))} (h : Sdo w1 wr g p v vm xs ts) (hb : Below wr.heap.size wr wa) : Sdo w1 wa g p v vm xs ts :=
  ⟨h.below.trans (hb.mono h.below.size), h.lo, h.box.of_block (hb.block _ h.box.lt), h.dims.below hb, h.maps.below hb⟩
theorem Sdo.stepM {w1 wa w' : World} {g : Nat} {p : Int} {v vm v' : Value} {xs : List Int} {ts ts' : List (List (List Int))} (h : Sdo w1 wa g p v vm xs ts) (hg : wa.grownBy w' vm.ownBlock) (hn : Gto v.ownBlock w1.heap.size w' v' ts') : Sdo w1 (w'.setCell ⟨g, 2, none⟩ v') g p v v' xs ts' := by
  obtain ⟨vs, ho, _⟩ := h.maps
  have hr := row_grown h.box ho coT.2.2 hg
  have hb := h.below.grown hg h.below.size (fun g hg => (h.sd.maps.lt g hg).1)
  have hd : Gb w1.heap.size w' v xs := owns_grown h.dims ho (by decide) hg
  refine ⟨hb.setCell h.lo _, h.lo, (hr.set 2 v').congr (fun j hj => ?_), hd.off hr coT.1 _ _, hn.off hr coT _ _⟩
  match j, hj with
  | 0, _ => rfl
  | 1, _ => rfl
  | 2, _ => rfl

section
variable {o : Oper} {a : Act} {w : World} {K : Act → World → Prop} {Q : Exit → Act → World → Prop}
end
end Go.Proofs.Ythfcadgbipnemaa


namespace Go.Proofs.Ythfcadgbipnemaa
open Go.RowKit

/-- A table that the call gathers, its rows off a block. -/
def Grb (b : Option Nat) (base : Nat) (w : World) (u : Value) (t : List (List Int)) : Prop := ∃ vs, w.ownsRow base 22 1 u t.length vs ∧ ∀ k (h1 : k < vs.length) (h2 : k < t.length), G1 w vs[k] t[k] ∧ OffB b vs[k]
theorem Grb.gs {b : Option Nat} {base : Nat} {w : World} {u : Value} {t : List (List Int)} (h : Grb b base w u t) : Gs base w u t := by
  obtain ⟨vs, ho, hr⟩ := h
  exact ⟨vs, ho, fun k h1 h2 => (hr k h1 h2).1⟩
theorem Grb.below {b : Option Nat} {base : Nat} {w w' : World} {u : Value} {t : List (List Int)} (h : Grb b base w u t) (hb : Below w.heap.size w w') : Grb b base w' u t := by
  obtain ⟨vs, ho, hr⟩ := h
  exact ⟨vs, owns_below ho hb, fun k h1 h2 => ⟨(hr k h1 h2).1.below hb, (hr k h1 h2).2⟩⟩
theorem Grb.start {b : Option Nat} {base : Nat} {w : World} {u : Value} (h : Gs base w u []) : Grb b base w u [] := by
  obtain ⟨vs, ho, _⟩ := h
  exact ⟨vs, ho, fun k _ h2 => absurd h2 (Nat.not_lt_zero _)⟩
theorem Grb.gr {b : Option Nat} {base : Nat} {w : World} {u : Value} {t : List (List Int)} (h : Grb b base w u t) : Gr b w u t := by
  have h0 := h.gs.mono (Nat.zero_le _)
  obtain ⟨vs, ho, hr⟩ := h
  refine ⟨vs, ⟨ho.1, ?_⟩, hr⟩
  rcases ho.2 with h2 | ⟨g, cap, cur, hu, _, r⟩
  · exact Or.inl h2
  · exact Or.inr ⟨g, cap, cur, hu, Nat.zero_le _, r⟩
theorem Grb.push {b : Option Nat} {base : Nat} {w w3 : World} {v v' row : Value} {t : List (List Int)} {vs : List Value} {x : List Int} (ho : w.ownsRow base 22 1 v t.length vs) (hr : ∀ k (h1 : k < vs.length) (h2 : k < t.length), G1 w vs[k] t[k] ∧ OffB b vs[k]) (hx : G1 w row x) (hb : OffB b row)
    (ho3 : w3.ownsRow base 22 1 v' (t.length + 1) (vs ++ [row])) (hg : w.grownBy w3 v.ownBlock) : Grb b base w3 v' (t ++ [x]) := by
  have hvl : vs.length = t.length := by have := ho.1; omega
  have keep : ∀ u xs, G1 w u xs → G1 w3 u xs := fun u xs h => owns_grown h ho (by decide) hg
  refine ⟨vs ++ [row], by simpa using ho3, fun k h1 h2 => ?_⟩
  by_cases e : k < vs.length
  · rw [List.getElem_append_left e, List.getElem_append_left (by omega)]
    exact ⟨keep _ _ (hr k e (by omega)).1, (hr k e (by omega)).2⟩
  · have e2 : k = vs.length := by simp at h1; omega
    subst e2
    rw [List.getElem_append_right (Nat.le_refl _), List.getElem_append_right (by omega)]
    simp only [Nat.sub_self, hvl, List.getElem_cons_zero]
    exact ⟨keep _ _ hx, hb⟩
section
variable {o : Oper} {a : Act} {w : World} {K : Act → World → Prop} {Q : Exit → Act → World → Prop}
theorem wp_appendS1o (dst : Option Tmp) (hdst : o.dst = dst) (s x : Operand) (ho : o.op = .call { callee := .builtin .append, args := #[s, x], argTypes := #[27, 27] }) (off : Option Nat) (base : Nat) (v : Value) (tb : List (List Int)) (hs : a.eval s = v) (hown : Grb off base w v tb)
    (b : Nat) (hx : a.eval x = .slice (some ⟨b, 0, none⟩) 1 1) (ar : Option Addr) (nr cr : Nat) (hc : w.cell? ⟨b, 0, none⟩ = some (.slice ar nr cr)) (y : List Int) (hy : G1 w (.slice ar nr cr) y) (hyo : OffB off (.slice ar nr cr)) (hl : tb.length ≤ 2097151) (hb : base ≤ w.heap.size)
    (h : ∀ g cap w', Grb off base w' (.slice (some ⟨g, 0, none⟩) (tb.length + 1) cap) (tb ++ [y]) → w.grownBy w' v.ownBlock → K (a.put dst (.slice (some ⟨g, 0, none⟩) (tb.length + 1) cap)) w') : o.wp Try.prog a w K Q := by
  obtain ⟨i, hi, hz, hs1, hb1⟩ := info_parts Try.infoS
  obtain ⟨vs, hvo, hvr⟩ := hown
  subst hdst
  refine wp_append_lies w s x 27 ho base 22 i _ 1 24 Try.underlying27 hi hz hs1 hb1 rfl (by decide) v tb.length vs hs hvo ⟨b, 0, none⟩ 1 1 [.slice ar nr cr] hx rfl ?_ ?_ (by omega) (by unfold maxLen; omega) (by omega) hb _ rfl (fun g cap w' h1 h2 _ _ => h g cap w' (Grb.push hvo hvr hy hyo h1 h2) h2)
  · intro j u hj
    match j, hj with
    | 0, hj =>
      simp at hj
      subst hj
      exact hc
  · intro u hu
    simp at hu
    subst hu
    rfl
end
section
variable {ops : Array Oper} {rest : List Oper} {o : Oper} {a : Act} {w : World} {Q : Exit → Act → World → Prop}
end
end Go.Proofs.Ythfcadgbipnemaa


namespace Go.Proofs.Ythfcadgbipnemaa
open Go.RowKit

section
variable {ops : Array Oper} {rest : List Oper} {o : Oper} {a : Act} {w : World} {Q : Exit → Act → World → Prop}
end
theorem Grb.put {b : Option Nat} {base g n cap : Nat} {w : World} {t : List (List Int)} (h : Grb b base w (.slice (some ⟨g, 0, none⟩) n cap) t) {k : Nat} (hk : k < t.length) {u : Value} {x : List Int} (hu : G1 w u x) (huo : OffB b u) :
    Grb b base (w.setCell ⟨g, k, none⟩ u) (.slice (some ⟨g, 0, none⟩) n cap) (t.set k x) ∧ w.frozen? ⟨g, k, none⟩ = false ∧ (∃ v0, w.cell? ⟨g, k, none⟩ = some v0) ∧ base ≤ g := by
  obtain ⟨vs, ⟨hl, h2⟩, hr⟩ := h
  rcases h2 with ⟨h0, _⟩ | ⟨g', c', cur, hv, hlo, hh, hnc, hcm, hcs, htk⟩
  · cases h0
  · injection hv with e1 e2 e3
    injection e1 with e1
    injection e1 with e1
    subst e1 e2 e3
    have hrow : w.rowIs g 22 cur.size (fun i => cur.getD i undef) := ⟨cur, hh, rfl, fun i hi => by simp [hi]⟩
    have hvl : vs.length = t.length := by omega
    have hkc : k < cur.size := by omega
    refine ⟨⟨vs.set k u, ⟨by simpa using hl, Or.inr ⟨g, cap, cur.setIfInBounds k u, by simp, hlo, block_setCell' hh _, by simpa using hnc, hcm, by simpa using hcs, ?_⟩⟩, fun i h1 h2 => ?_⟩, by simp [World.frozen?, hh], ⟨_, hrow.cell hkc⟩, hlo⟩
    · simp only [List.length_set, Nat.mul_one] at htk ⊢
      rw [Array.toList_setIfInBounds, List.take_set, htk]
    · rw [List.getElem_set, List.getElem_set]
      by_cases e : k = i
      · rw [if_pos e, if_pos e]
        exact ⟨hu.off hrow (by decide) _ _, huo⟩
      · rw [if_neg e, if_neg e]
        have h3 := hr i (by simpa using h1) (by simpa using h2)
        exact ⟨h3.1.off hrow (by decide) _ _, h3.2⟩
end Go.Proofs.Ythfcadgbipnemaa


namespace Go.Proofs.Ythfcadgbipnemaa
open Go.RowKit

section
variable (p : Int) (ds : List Int) (ms : List (List (List Int))) (ds2 : List Int) (ms2 : List (List (List Int)))
/-- The row of a pair. -/
def tcV (N : Nat) (q : PV) : List Int := (List.range N).map (tcRow p ds ms ds2 ms2 q.1.1.toNat q.1.2.toNat q.2.1.toNat q.2.2.toNat)
def tcRows (N n i a b : Nat) : List (List Int) := (pvP ds ds2 n i a b).map (tcV p ds ms ds2 ms2 N)
theorem tcRows_b (N n i a b : Nat) : tcRows p ds ms ds2 ms2 N n i a (b + 1) = tcRows p ds ms ds2 ms2 N n i a b ++ [tcV p ds ms ds2 ms2 N (((i : Int), (a : Int)), ((n : Int) - (i : Int), (b : Int)))] := by
  unfold tcRows
  rw [pvP_b, List.map_append, List.map_cons, List.map_nil]
theorem tcRows_length (N n i a b : Nat) : (tcRows p ds ms ds2 ms2 N n i a b).length = plS ds ds2 (n : Int) i + (a * (dimZ ds2 ((n : Int) - (i : Int))).toNat + b) := by
  unfold tcRows
  rw [List.length_map, pvP_length]
theorem tcRows_end (q : Nat) : tcRows p ds ms ds2 ms2 (tdN ds ds2 q).toNat (q + 1) (q + 1 + 1) 0 0 = tcT p ds ms ds2 ms2 q := by
  unfold tcRows tcT
  rw [pvP_end]
  refine List.ext_getElem (by simp only [tableOf, List.length_map, List.length_range]; rw [pv_n]) (fun k h1 h2 => ?_)
  have hk : k < (prF (tsA (bsL ds ds.length) (bsL ds2 ds2.length) (bsL ds ds.length).length) ((q + 1 : Nat) : Int)).length := by simpa using h1
  simp only [tableOf, List.getElem_map, List.getElem_range]
  unfold tcV
  refine List.map_congr_left fun c _ => ?_
  unfold tcZ
  rw [List.getElem?_eq_getElem hk]
theorem tcM_take {q : Nat} (h : q < tdL ds ds2 - 1) : (tcM p ds ms ds2 ms2).take (q + 1) = (tcM p ds ms ds2 ms2).take q ++ [tcT p ds ms ds2 ms2 q] := by
  rw [List.take_succ_eq_append_getElem (by rw [tcM_length]; exact h)]
  simp [tcM]
end
theorem gt_nil {base b : Nat} {W : World} (h : Rz W b 27 #[]) (hb : base ≤ b) : Gt base W (.slice (some ⟨b, 0, none⟩) 0 0) [] :=
  ⟨[], ⟨rfl, Or.inr ⟨b, 0, #[], rfl, hb, h, by simp, by unfold maxLen; omega, by simp, by simp⟩⟩, fun k h1 _ => absurd h1 (Nat.not_lt_zero _)⟩
theorem Gt.lower {base base' : Nat} {w : World} {u : Value} {ts : List (List (List Int))} (h : Gt base w u ts) (hb : base' ≤ base) : Gt base' w u ts := by
  obtain ⟨vs, h1, h2⟩ := h
  exact ⟨vs, owns_mono h1 hb, h2⟩
def TgR (p : Int) (ds : List Int) (ms : List (List (List Int))) (ds2 : List Int) (ms2 : List (List (List Int))) (w : World) (e : Ending) (w' : World) : Prop := ∃ u, e = .returned u ∧ GwC w.heap.size w' u (tcOut p ds ms ds2 ms2) ∧ Below w.heap.size w w'

set_option maxHeartbeats 12800000 in
set_option maxRecDepth 100000 in
theorem l06Tensor_any (p : Int) (dv mv dv2 mv2 : Value) (ds : List Int) (ms : List (List (List Int))) (ds2 : List Int) (ms2 : List (List (List Int))) (w : World) (h : Cx 0 w dv mv ds ms) (h2 : Cx 0 w dv2 mv2 ds2 ms2) (hcx : IsCx p ds ms) (hcy : IsCx p ds2 ms2) :
    Calls Try.prog 77 #[.agg #[.int .i64 p, dv, mv], .agg #[.int .i64 p, dv2, mv2]] w (TgR p ds ms ds2 ms2 w) := by
  have hres : Try.f77.results = #[.cell 4 30] := by kernel_rfl
  have HRES := Lib.hid hres
  obtain ⟨ad, cap, rfl⟩ := Sl.shape h.dims
  obtain ⟨am, capm, rfl⟩ := Sl.shape h.maps
  obtain ⟨ad2, cap2, rfl⟩ := Sl.shape h2.dims
  obtain ⟨am2, capm2, rfl⟩ := Sl.shape h2.maps
  obtain ⟨k1, k2⟩ := bx_two (p := p) (p2 := p) 30 h h2
  obtain ⟨wa, hwa⟩ : ∃ wa, wa = ((w.alloc (.cells #[.int .i64 p, .slice ad ds.length cap, .slice am ms.length capm] 30)).alloc (.cells #[.int .i64 p, .slice ad2 ds2.length cap2, .slice am2 ms2.length capm2] 30)) := ⟨_, rfl⟩
  rw [← hwa] at k1 k2
  obtain ⟨w1, hw1⟩ : ∃ w1, w1 = wa.alloc (.cells #[.int .i64 0, .slice none 0 0, .slice none 0 0] 30) := ⟨_, rfl⟩
  have hsa : wa.heap.size = w.heap.size + 2 := by rw [hwa]; simp
  have hs1 : w1.heap.size = w.heap.size + 3 := by rw [hw1]; simp [hsa]
  have hba : Below wa.heap.size wa w1 := by rw [hw1]; exact below_alloc1 _ _
  have HR1 : Hid (Rz w1 (w.heap.size + 2) 30 #[.int .i64 0, .slice none 0 0, .slice none 0 0]) := Lib.hid (by rw [hw1, ← hsa]; exact Rz.new _ _ _)
  have HN1 : Hid (∀ W, Below w1.heap.size w1 W → Bx w W w.heap.size p (.slice ad ds.length cap) (.slice am ms.length capm) ds ms ∧ Bx w W (w.heap.size + 1) p (.slice ad2 ds2.length cap2) (.slice am2 ms2.length capm2) ds2 ms2 ∧ Rz W (w.heap.size + 2) 30 #[.int .i64 0, .slice none 0 0, .slice none 0 0]) := Lib.hid (fun W hb => ⟨(k1.next hba).next hb, (k2.next hba).next hb, HR1.out.next hb⟩)
  have HCX := Lib.hid hcx
  have HCY := Lib.hid hcy
  have HS1 := Lib.hid hs1
  have hl6 := hcx.1.len1
  have hl60 := hcx.1.len0
  have hl7 := hcy.1.len1
  have hl70 := hcy.1.len0
  obtain ⟨nT, hnT⟩ : ∃ nT, nT = tdL ds ds2 := ⟨_, rfl⟩
  have hT11 : 1 ≤ nT ∧ nT ≤ 11 := by rw [hnT]; unfold tdL; omega
  have HTD := Lib.hid hnT
  clear h h2 hcx hcy hres k1 k2 hba hs1 hnT HR1
  go_enter Try.func77, Try.ntmps77
  go_upto_region 1 with fail
  rw [← hwa, ← hw1]
  clear hwa hw1 hsa
  go_cut [5] from 11 to 17 (fun s5 wz => ∃ (bo bm cq : Nat) (aq : Option Addr), s5 = .pointer (some ⟨bo, 0, none⟩) ∧ Hid (Sd w1 wz bo p (.slice aq nT cq) (.slice (some ⟨bm, 0, none⟩) 0 0) (tdD ds ds2) []))
  case first =>
    refine wp_region_held (S := fun W => Below (w1.heap.size) w1 W) (by kernel_rfl) ?_
    have S0 : Below (w1.heap.size) w1 w1.drew := (Below.refl _ _).drew
    have hB0 : w1.heap.size ≤ w1.heap.size := Nat.le_refl _
    have hsd : w1.heap.size ≤ w1.drew.heap.size := Nat.le_refl _
    have hbd : Below w1.heap.size w1 w1.drew := (Below.refl _ _).drew
    change wpAnyH _ _ _ _ _ _ _ _ w1.drew
    obtain ⟨wd, hwd⟩ : ∃ wd, wd = w1.drew := ⟨_, rfl⟩
    rw [← hwd] at S0 hsd hbd ⊢
    clear hwd
    refine held_take (i := 0) (v := .pointer (some ⟨w.heap.size, 0, none⟩)) (some 11) rfl rfl (by kernel_rfl) (by kernel_rfl) (by kernel_rfl) (fun _ _ _ h => h) (yieldsIf_run (by kernel_rfl) (fun W _ => by kernel_rfl)) S0 ?_
    refine held_take (i := 1) (v := .int .i64 p) (some 12) rfl rfl (by kernel_rfl) (by kernel_rfl) (by kernel_rfl) (fun _ _ _ h => h) (yieldsIf_cell (by kernel_rfl) rfl (by kernel_rfl) (fun W h => hload W ((HN1.out W h).1.c0))) S0 ?_
    refine held_take (i := 2) (v := .agg #[.int .i64 p, .slice ad ds.length cap, .slice am ms.length capm]) (some 13) rfl rfl (by kernel_rfl) (by kernel_rfl) (by kernel_rfl) (fun _ _ _ h => h) (yieldsIf_cell (by kernel_rfl) rfl (by kernel_rfl) (fun W h => hload3x (HN1.out W h).1)) S0 ?_
    refine held_take (i := 3) (v := .agg #[.int .i64 p, .slice ad2 ds2.length cap2, .slice am2 ms2.length capm2]) (some 14) rfl rfl (by kernel_rfl) (by kernel_rfl) (by kernel_rfl) (fun _ _ _ h => h) (yieldsIf_cell (by kernel_rfl) rfl (by kernel_rfl) (fun W h => hload3x (HN1.out W h).2.1)) S0 ?_
    refine held_three (i := 4) (j := 5) (l := 7) (by kernel_rfl) ?_ ?_ ?_
    · refine op_enter (i := 4) (some 15) (f := 76) (args := #[.agg #[.int .i64 p, .slice ad ds.length cap, .slice am ms.length capm], .agg #[.int .i64 p, .slice ad2 ds2.length cap2, .slice am2 ms2.length capm2]]) rfl rfl rfl (by kernel_rfl) (l06Dims_any p p _ _ _ _ ds ms ds2 ms2 wd (HN1.out wd S0).1.cx (HN1.out wd S0).2.1.cx HCX.out HCY.out) ?_ (fun c w' h => by obtain ⟨_, h, _⟩ := h; cases h) (fun w' h => by obtain ⟨_, h, _⟩ := h; cases h)
      rintro ee W1 ⟨u1, he, hu1, hb1⟩
      injection he with he
      subst he
      obtain ⟨a1, c1, hv⟩ := Sl.shape hu1.l1
      rw [tdD_length, ← HTD.out] at hv
      subst hv
      have S1 : Below (w1.heap.size) w1 W1 := S0.trans (hb1.mono (Nat.le_trans hB0 S0.size))
      have hud1 := hu1.mono (Nat.le_trans hB0 S0.size)
      refine ⟨S1, ?_⟩
      refine held_two (i := 5) (j := 7) (by kernel_rfl) ?_ ?_
      · obtain ⟨W2, hW2⟩ : ∃ W', W' = W1.alloc (.cells #[] 27) := ⟨_, rfl⟩
        have hb2 : Below W1.heap.size W1 W2 := by rw [hW2]; exact below_alloc1 _ _
        have hAm2 : Rz W2 W1.heap.size 27 #[] := by rw [hW2]; exact Rz.new _ _ _
        have S2 : Below (w1.heap.size) w1 W2 := S1.trans (hb2.mono (Nat.le_trans hB0 S1.size))
        have hGm : w1.heap.size ≤ W1.heap.size := Nat.le_trans hB0 S1.size
        have hue2 := hud1.below hb2
        refine op_mem (i := 5) (v := .slice (some ⟨W1.heap.size, 0, none⟩) 0 0) (w' := W2) (some 16) rfl rfl rfl (by rw [hW2]; go_simp) ?_
        refine ⟨S2, ?_⟩
        refine held_take (i := 6) (v := .agg #[.int .i64 p, .slice a1 nT c1, .slice (some ⟨W1.heap.size, 0, none⟩) 0 0]) (some 17) rfl rfl (by kernel_rfl) (by kernel_rfl) (by kernel_rfl) (fun _ _ _ h => h) (yieldsIf_run (by kernel_rfl) (fun W _ => by kernel_rfl)) S2 ?_
        refine held_one (i := 7) (by kernel_rfl) ?_
        · obtain ⟨W3, hW3⟩ : ∃ W', W' = W2.alloc (.cells #[.int .i64 0, .slice none 0 0, .slice none 0 0] 30) := ⟨_, rfl⟩
          have hb3 : Below W2.heap.size W2 W3 := by rw [hW3]; exact below_alloc1 _ _
          have hAg3 : Rz W3 W2.heap.size 30 #[.int .i64 0, .slice none 0 0, .slice none 0 0] := by rw [hW3]; exact Rz.new _ _ _
          have S3 : Below (w1.heap.size) w1 W3 := S2.trans (hb3.mono (Nat.le_trans hB0 S2.size))
          have hGg : w1.heap.size ≤ W2.heap.size := Nat.le_trans hB0 S2.size
          have hne : W1.heap.size ≠ W2.heap.size := Nat.ne_of_lt hAm2.lt
          have hAm3 := hAm2.next hb3
          have hue3 := hue2.below hb3
          refine op_mem (i := 7) (v := .pointer (some ⟨W2.heap.size, 0, none⟩)) (w' := W3) (some 5) rfl rfl rfl (by rw [hW3]; go_simp) ?_
          refine ⟨S3, ?_⟩
          have hdF := hue3.offRowC hAg3 coT.1 #[.int .i64 p, .slice a1 nT c1, .slice (some ⟨W1.heap.size, 0, none⟩) 0 0]
          have S4 : Below (w1.heap.size) w1 (W3.setRow (W2.heap.size) #[.int .i64 p, .slice a1 nT c1, .slice (some ⟨W1.heap.size, 0, none⟩) 0 0]) := below_setRow S3 hGg _
          refine held_one (i := 8) (by kernel_rfl) ?_
          refine op_row (i := 8) rfl rfl rfl 30 (.tmp 5) (.tmp 17) rfl (W2.heap.size) #[.int .i64 p, .slice a1 nT c1, .slice (some ⟨W1.heap.size, 0, none⟩) 0 0] (by kernel_rfl) (by kernel_rfl) 30 _ hAg3 (infoCo _ _ _) (by kernel_rfl) (by kernel_rfl) ?_
          refine ⟨S4, ?_⟩
          have hAm4 := hAm3.off (by first | exact hne | exact hne.symm) #[.int .i64 p, .slice a1 nT c1, .slice (some ⟨W1.heap.size, 0, none⟩) 0 0]
          have hAg4 := hAg3.set #[.int .i64 p, .slice a1 nT c1, .slice (some ⟨W1.heap.size, 0, none⟩) 0 0]
          refine wpAnyH_done (by kernel_rfl) ?_ _
          simp only [Act.put, List.setIfInBounds_toArray, List.set_cons_zero, List.set_cons_succ]
          go_wp2
          go_meet
          exact ⟨W2.heap.size, W1.heap.size, c1, a1, rfl, Lib.hid ⟨S4, hGg, rowIs3 hAg4, hdF, gt_nil hAm4 hGm⟩⟩
      · obtain ⟨W5, hW5⟩ : ∃ W', W' = W1.alloc (.cells #[.int .i64 0, .slice none 0 0, .slice none 0 0] 30) := ⟨_, rfl⟩
        have hb5 : Below W1.heap.size W1 W5 := by rw [hW5]; exact below_alloc1 _ _
        have hAg5 : Rz W5 W1.heap.size 30 #[.int .i64 0, .slice none 0 0, .slice none 0 0] := by rw [hW5]; exact Rz.new _ _ _
        have S5 : Below (w1.heap.size) w1 W5 := S1.trans (hb5.mono (Nat.le_trans hB0 S1.size))
        have hGg : w1.heap.size ≤ W1.heap.size := Nat.le_trans hB0 S1.size
        have hue5 := hud1.below hb5
        refine op_mem (i := 7) (v := .pointer (some ⟨W1.heap.size, 0, none⟩)) (w' := W5) (some 5) rfl rfl rfl (by rw [hW5]; go_simp) ?_
        refine ⟨S5, ?_⟩
        refine held_one (i := 5) (by kernel_rfl) ?_
        · obtain ⟨W6, hW6⟩ : ∃ W', W' = W5.alloc (.cells #[] 27) := ⟨_, rfl⟩
          have hb6 : Below W5.heap.size W5 W6 := by rw [hW6]; exact below_alloc1 _ _
          have hAm6 : Rz W6 W5.heap.size 27 #[] := by rw [hW6]; exact Rz.new _ _ _
          have S6 : Below (w1.heap.size) w1 W6 := S5.trans (hb6.mono (Nat.le_trans hB0 S5.size))
          have hGm : w1.heap.size ≤ W5.heap.size := Nat.le_trans hB0 S5.size
          have hne : W1.heap.size ≠ W5.heap.size := Nat.ne_of_lt hAg5.lt
          have hAg6 := hAg5.next hb6
          have hue6 := hue5.below hb6
          refine op_mem (i := 5) (v := .slice (some ⟨W5.heap.size, 0, none⟩) 0 0) (w' := W6) (some 16) rfl rfl rfl (by rw [hW6]; go_simp) ?_
          refine ⟨S6, ?_⟩
          refine held_take (i := 6) (v := .agg #[.int .i64 p, .slice a1 nT c1, .slice (some ⟨W5.heap.size, 0, none⟩) 0 0]) (some 17) rfl rfl (by kernel_rfl) (by kernel_rfl) (by kernel_rfl) (fun _ _ _ h => h) (yieldsIf_run (by kernel_rfl) (fun W _ => by kernel_rfl)) S6 ?_
          have hdF := hue6.offRowC hAg6 coT.1 #[.int .i64 p, .slice a1 nT c1, .slice (some ⟨W5.heap.size, 0, none⟩) 0 0]
          have S7 : Below (w1.heap.size) w1 (W6.setRow (W1.heap.size) #[.int .i64 p, .slice a1 nT c1, .slice (some ⟨W5.heap.size, 0, none⟩) 0 0]) := below_setRow S6 hGg _
          refine held_one (i := 8) (by kernel_rfl) ?_
          refine op_row (i := 8) rfl rfl rfl 30 (.tmp 5) (.tmp 17) rfl (W1.heap.size) #[.int .i64 p, .slice a1 nT c1, .slice (some ⟨W5.heap.size, 0, none⟩) 0 0] (by kernel_rfl) (by kernel_rfl) 30 _ hAg6 (infoCo _ _ _) (by kernel_rfl) (by kernel_rfl) ?_
          refine ⟨S7, ?_⟩
          have hAg7 := hAg6.set #[.int .i64 p, .slice a1 nT c1, .slice (some ⟨W5.heap.size, 0, none⟩) 0 0]
          have hAm7 := hAm6.off (by first | exact hne | exact hne.symm) #[.int .i64 p, .slice a1 nT c1, .slice (some ⟨W5.heap.size, 0, none⟩) 0 0]
          refine wpAnyH_done (by kernel_rfl) ?_ _
          simp only [Act.put, List.setIfInBounds_toArray, List.set_cons_zero, List.set_cons_succ]
          go_wp2
          go_meet
          exact ⟨W1.heap.size, W5.heap.size, c1, a1, rfl, Lib.hid ⟨S7, hGg, rowIs3 hAg7, hdF, gt_nil hAm7 hGm⟩⟩
    · obtain ⟨W8, hW8⟩ : ∃ W', W' = wd.alloc (.cells #[] 27) := ⟨_, rfl⟩
      have hb8 : Below wd.heap.size wd W8 := by rw [hW8]; exact below_alloc1 _ _
      have hAm8 : Rz W8 wd.heap.size 27 #[] := by rw [hW8]; exact Rz.new _ _ _
      have S8 : Below (w1.heap.size) w1 W8 := S0.trans (hb8.mono (Nat.le_trans hB0 S0.size))
      have hGm : w1.heap.size ≤ wd.heap.size := Nat.le_trans hB0 S0.size
      refine op_mem (i := 5) (v := .slice (some ⟨wd.heap.size, 0, none⟩) 0 0) (w' := W8) (some 16) rfl rfl rfl (by rw [hW8]; go_simp) ?_
      refine ⟨S8, ?_⟩
      refine held_two (i := 4) (j := 7) (by kernel_rfl) ?_ ?_
      · refine op_enter (i := 4) (some 15) (f := 76) (args := #[.agg #[.int .i64 p, .slice ad ds.length cap, .slice am ms.length capm], .agg #[.int .i64 p, .slice ad2 ds2.length cap2, .slice am2 ms2.length capm2]]) rfl rfl rfl (by kernel_rfl) (l06Dims_any p p _ _ _ _ ds ms ds2 ms2 W8 (HN1.out W8 S8).1.cx (HN1.out W8 S8).2.1.cx HCX.out HCY.out) ?_ (fun c w' h => by obtain ⟨_, h, _⟩ := h; cases h) (fun w' h => by obtain ⟨_, h, _⟩ := h; cases h)
        rintro ee W9 ⟨u9, he, hu9, hb9⟩
        injection he with he
        subst he
        obtain ⟨a9, c9, hv⟩ := Sl.shape hu9.l1
        rw [tdD_length, ← HTD.out] at hv
        subst hv
        have S9 : Below (w1.heap.size) w1 W9 := S8.trans (hb9.mono (Nat.le_trans hB0 S8.size))
        have hAm9 := hAm8.next hb9
        have hud9 := hu9.mono (Nat.le_trans hB0 S8.size)
        refine ⟨S9, ?_⟩
        refine held_take (i := 6) (v := .agg #[.int .i64 p, .slice a9 nT c9, .slice (some ⟨wd.heap.size, 0, none⟩) 0 0]) (some 17) rfl rfl (by kernel_rfl) (by kernel_rfl) (by kernel_rfl) (fun _ _ _ h => h) (yieldsIf_run (by kernel_rfl) (fun W _ => by kernel_rfl)) S9 ?_
        refine held_one (i := 7) (by kernel_rfl) ?_
        · obtain ⟨W10, hW10⟩ : ∃ W', W' = W9.alloc (.cells #[.int .i64 0, .slice none 0 0, .slice none 0 0] 30) := ⟨_, rfl⟩
          have hb10 : Below W9.heap.size W9 W10 := by rw [hW10]; exact below_alloc1 _ _
          have hAg10 : Rz W10 W9.heap.size 30 #[.int .i64 0, .slice none 0 0, .slice none 0 0] := by rw [hW10]; exact Rz.new _ _ _
          have S10 : Below (w1.heap.size) w1 W10 := S9.trans (hb10.mono (Nat.le_trans hB0 S9.size))
          have hGg : w1.heap.size ≤ W9.heap.size := Nat.le_trans hB0 S9.size
          have hne : wd.heap.size ≠ W9.heap.size := Nat.ne_of_lt hAm9.lt
          have hAm10 := hAm9.next hb10
          have hue10 := hud9.below hb10
          refine op_mem (i := 7) (v := .pointer (some ⟨W9.heap.size, 0, none⟩)) (w' := W10) (some 5) rfl rfl rfl (by rw [hW10]; go_simp) ?_
          refine ⟨S10, ?_⟩
          have hdF := hue10.offRowC hAg10 coT.1 #[.int .i64 p, .slice a9 nT c9, .slice (some ⟨wd.heap.size, 0, none⟩) 0 0]
          have S11 : Below (w1.heap.size) w1 (W10.setRow (W9.heap.size) #[.int .i64 p, .slice a9 nT c9, .slice (some ⟨wd.heap.size, 0, none⟩) 0 0]) := below_setRow S10 hGg _
          refine held_one (i := 8) (by kernel_rfl) ?_
          refine op_row (i := 8) rfl rfl rfl 30 (.tmp 5) (.tmp 17) rfl (W9.heap.size) #[.int .i64 p, .slice a9 nT c9, .slice (some ⟨wd.heap.size, 0, none⟩) 0 0] (by kernel_rfl) (by kernel_rfl) 30 _ hAg10 (infoCo _ _ _) (by kernel_rfl) (by kernel_rfl) ?_
          refine ⟨S11, ?_⟩
          have hAm11 := hAm10.off (by first | exact hne | exact hne.symm) #[.int .i64 p, .slice a9 nT c9, .slice (some ⟨wd.heap.size, 0, none⟩) 0 0]
          have hAg11 := hAg10.set #[.int .i64 p, .slice a9 nT c9, .slice (some ⟨wd.heap.size, 0, none⟩) 0 0]
          refine wpAnyH_done (by kernel_rfl) ?_ _
          simp only [Act.put, List.setIfInBounds_toArray, List.set_cons_zero, List.set_cons_succ]
          go_wp2
          go_meet
          exact ⟨W9.heap.size, wd.heap.size, c9, a9, rfl, Lib.hid ⟨S11, hGg, rowIs3 hAg11, hdF, gt_nil hAm11 hGm⟩⟩
      · obtain ⟨W12, hW12⟩ : ∃ W', W' = W8.alloc (.cells #[.int .i64 0, .slice none 0 0, .slice none 0 0] 30) := ⟨_, rfl⟩
        have hb12 : Below W8.heap.size W8 W12 := by rw [hW12]; exact below_alloc1 _ _
        have hAg12 : Rz W12 W8.heap.size 30 #[.int .i64 0, .slice none 0 0, .slice none 0 0] := by rw [hW12]; exact Rz.new _ _ _
        have S12 : Below (w1.heap.size) w1 W12 := S8.trans (hb12.mono (Nat.le_trans hB0 S8.size))
        have hGg : w1.heap.size ≤ W8.heap.size := Nat.le_trans hB0 S8.size
        have hne : wd.heap.size ≠ W8.heap.size := Nat.ne_of_lt hAm8.lt
        have hAm12 := hAm8.next hb12
        refine op_mem (i := 7) (v := .pointer (some ⟨W8.heap.size, 0, none⟩)) (w' := W12) (some 5) rfl rfl rfl (by rw [hW12]; go_simp) ?_
        refine ⟨S12, ?_⟩
        refine held_one (i := 4) (by kernel_rfl) ?_
        · refine op_enter (i := 4) (some 15) (f := 76) (args := #[.agg #[.int .i64 p, .slice ad ds.length cap, .slice am ms.length capm], .agg #[.int .i64 p, .slice ad2 ds2.length cap2, .slice am2 ms2.length capm2]]) rfl rfl rfl (by kernel_rfl) (l06Dims_any p p _ _ _ _ ds ms ds2 ms2 W12 (HN1.out W12 S12).1.cx (HN1.out W12 S12).2.1.cx HCX.out HCY.out) ?_ (fun c w' h => by obtain ⟨_, h, _⟩ := h; cases h) (fun w' h => by obtain ⟨_, h, _⟩ := h; cases h)
          rintro ee W13 ⟨u13, he, hu13, hb13⟩
          injection he with he
          subst he
          obtain ⟨a13, c13, hv⟩ := Sl.shape hu13.l1
          rw [tdD_length, ← HTD.out] at hv
          subst hv
          have S13 : Below (w1.heap.size) w1 W13 := S12.trans (hb13.mono (Nat.le_trans hB0 S12.size))
          have hAm13 := hAm12.next hb13
          have hAg13 := hAg12.next hb13
          have hud13 := hu13.mono (Nat.le_trans hB0 S12.size)
          refine ⟨S13, ?_⟩
          refine held_take (i := 6) (v := .agg #[.int .i64 p, .slice a13 nT c13, .slice (some ⟨wd.heap.size, 0, none⟩) 0 0]) (some 17) rfl rfl (by kernel_rfl) (by kernel_rfl) (by kernel_rfl) (fun _ _ _ h => h) (yieldsIf_run (by kernel_rfl) (fun W _ => by kernel_rfl)) S13 ?_
          have hdF := hud13.offRowC hAg13 coT.1 #[.int .i64 p, .slice a13 nT c13, .slice (some ⟨wd.heap.size, 0, none⟩) 0 0]
          have S14 : Below (w1.heap.size) w1 (W13.setRow (W8.heap.size) #[.int .i64 p, .slice a13 nT c13, .slice (some ⟨wd.heap.size, 0, none⟩) 0 0]) := below_setRow S13 hGg _
          refine held_one (i := 8) (by kernel_rfl) ?_
          refine op_row (i := 8) rfl rfl rfl 30 (.tmp 5) (.tmp 17) rfl (W8.heap.size) #[.int .i64 p, .slice a13 nT c13, .slice (some ⟨wd.heap.size, 0, none⟩) 0 0] (by kernel_rfl) (by kernel_rfl) 30 _ hAg13 (infoCo _ _ _) (by kernel_rfl) (by kernel_rfl) ?_
          refine ⟨S14, ?_⟩
          have hAm14 := hAm13.off (by first | exact hne | exact hne.symm) #[.int .i64 p, .slice a13 nT c13, .slice (some ⟨wd.heap.size, 0, none⟩) 0 0]
          have hAg14 := hAg13.set #[.int .i64 p, .slice a13 nT c13, .slice (some ⟨wd.heap.size, 0, none⟩) 0 0]
          refine wpAnyH_done (by kernel_rfl) ?_ _
          simp only [Act.put, List.setIfInBounds_toArray, List.set_cons_zero, List.set_cons_succ]
          go_wp2
          go_meet
          exact ⟨W8.heap.size, wd.heap.size, c13, a13, rfl, Lib.hid ⟨S14, hGg, rowIs3 hAg14, hdF, gt_nil hAm14 hGm⟩⟩
    · obtain ⟨W15, hW15⟩ : ∃ W', W' = wd.alloc (.cells #[.int .i64 0, .slice none 0 0, .slice none 0 0] 30) := ⟨_, rfl⟩
      have hb15 : Below wd.heap.size wd W15 := by rw [hW15]; exact below_alloc1 _ _
      have hAg15 : Rz W15 wd.heap.size 30 #[.int .i64 0, .slice none 0 0, .slice none 0 0] := by rw [hW15]; exact Rz.new _ _ _
      have S15 : Below (w1.heap.size) w1 W15 := S0.trans (hb15.mono (Nat.le_trans hB0 S0.size))
      have hGg : w1.heap.size ≤ wd.heap.size := Nat.le_trans hB0 S0.size
      refine op_mem (i := 7) (v := .pointer (some ⟨wd.heap.size, 0, none⟩)) (w' := W15) (some 5) rfl rfl rfl (by rw [hW15]; go_simp) ?_
      refine ⟨S15, ?_⟩
      refine held_two (i := 4) (j := 5) (by kernel_rfl) ?_ ?_
      · refine op_enter (i := 4) (some 15) (f := 76) (args := #[.agg #[.int .i64 p, .slice ad ds.length cap, .slice am ms.length capm], .agg #[.int .i64 p, .slice ad2 ds2.length cap2, .slice am2 ms2.length capm2]]) rfl rfl rfl (by kernel_rfl) (l06Dims_any p p _ _ _ _ ds ms ds2 ms2 W15 (HN1.out W15 S15).1.cx (HN1.out W15 S15).2.1.cx HCX.out HCY.out) ?_ (fun c w' h => by obtain ⟨_, h, _⟩ := h; cases h) (fun w' h => by obtain ⟨_, h, _⟩ := h; cases h)
        rintro ee W16 ⟨u16, he, hu16, hb16⟩
        injection he with he
        subst he
        obtain ⟨a16, c16, hv⟩ := Sl.shape hu16.l1
        rw [tdD_length, ← HTD.out] at hv
        subst hv
        have S16 : Below (w1.heap.size) w1 W16 := S15.trans (hb16.mono (Nat.le_trans hB0 S15.size))
        have hAg16 := hAg15.next hb16
        have hud16 := hu16.mono (Nat.le_trans hB0 S15.size)
        refine ⟨S16, ?_⟩
        refine held_one (i := 5) (by kernel_rfl) ?_
        · obtain ⟨W17, hW17⟩ : ∃ W', W' = W16.alloc (.cells #[] 27) := ⟨_, rfl⟩
          have hb17 : Below W16.heap.size W16 W17 := by rw [hW17]; exact below_alloc1 _ _
          have hAm17 : Rz W17 W16.heap.size 27 #[] := by rw [hW17]; exact Rz.new _ _ _
          have S17 : Below (w1.heap.size) w1 W17 := S16.trans (hb17.mono (Nat.le_trans hB0 S16.size))
          have hGm : w1.heap.size ≤ W16.heap.size := Nat.le_trans hB0 S16.size
          have hne : wd.heap.size ≠ W16.heap.size := Nat.ne_of_lt hAg16.lt
          have hAg17 := hAg16.next hb17
          have hue17 := hud16.below hb17
          refine op_mem (i := 5) (v := .slice (some ⟨W16.heap.size, 0, none⟩) 0 0) (w' := W17) (some 16) rfl rfl rfl (by rw [hW17]; go_simp) ?_
          refine ⟨S17, ?_⟩
          refine held_take (i := 6) (v := .agg #[.int .i64 p, .slice a16 nT c16, .slice (some ⟨W16.heap.size, 0, none⟩) 0 0]) (some 17) rfl rfl (by kernel_rfl) (by kernel_rfl) (by kernel_rfl) (fun _ _ _ h => h) (yieldsIf_run (by kernel_rfl) (fun W _ => by kernel_rfl)) S17 ?_
          have hdF := hue17.offRowC hAg17 coT.1 #[.int .i64 p, .slice a16 nT c16, .slice (some ⟨W16.heap.size, 0, none⟩) 0 0]
          have S18 : Below (w1.heap.size) w1 (W17.setRow (wd.heap.size) #[.int .i64 p, .slice a16 nT c16, .slice (some ⟨W16.heap.size, 0, none⟩) 0 0]) := below_setRow S17 hGg _
          refine held_one (i := 8) (by kernel_rfl) ?_
          refine op_row (i := 8) rfl rfl rfl 30 (.tmp 5) (.tmp 17) rfl (wd.heap.size) #[.int .i64 p, .slice a16 nT c16, .slice (some ⟨W16.heap.size, 0, none⟩) 0 0] (by kernel_rfl) (by kernel_rfl) 30 _ hAg17 (infoCo _ _ _) (by kernel_rfl) (by kernel_rfl) ?_
          refine ⟨S18, ?_⟩
          have hAg18 := hAg17.set #[.int .i64 p, .slice a16 nT c16, .slice (some ⟨W16.heap.size, 0, none⟩) 0 0]
          have hAm18 := hAm17.off (by first | exact hne | exact hne.symm) #[.int .i64 p, .slice a16 nT c16, .slice (some ⟨W16.heap.size, 0, none⟩) 0 0]
          refine wpAnyH_done (by kernel_rfl) ?_ _
          simp only [Act.put, List.setIfInBounds_toArray, List.set_cons_zero, List.set_cons_succ]
          go_wp2
          go_meet
          exact ⟨wd.heap.size, W16.heap.size, c16, a16, rfl, Lib.hid ⟨S18, hGg, rowIs3 hAg18, hdF, gt_nil hAm18 hGm⟩⟩
      · obtain ⟨W19, hW19⟩ : ∃ W', W' = W15.alloc (.cells #[] 27) := ⟨_, rfl⟩
        have hb19 : Below W15.heap.size W15 W19 := by rw [hW19]; exact below_alloc1 _ _
        have hAm19 : Rz W19 W15.heap.size 27 #[] := by rw [hW19]; exact Rz.new _ _ _
        have S19 : Below (w1.heap.size) w1 W19 := S15.trans (hb19.mono (Nat.le_trans hB0 S15.size))
        have hGm : w1.heap.size ≤ W15.heap.size := Nat.le_trans hB0 S15.size
        have hne : wd.heap.size ≠ W15.heap.size := Nat.ne_of_lt hAg15.lt
        have hAg19 := hAg15.next hb19
        refine op_mem (i := 5) (v := .slice (some ⟨W15.heap.size, 0, none⟩) 0 0) (w' := W19) (some 16) rfl rfl rfl (by rw [hW19]; go_simp) ?_
        refine ⟨S19, ?_⟩
        refine held_one (i := 4) (by kernel_rfl) ?_
        · refine op_enter (i := 4) (some 15) (f := 76) (args := #[.agg #[.int .i64 p, .slice ad ds.length cap, .slice am ms.length capm], .agg #[.int .i64 p, .slice ad2 ds2.length cap2, .slice am2 ms2.length capm2]]) rfl rfl rfl (by kernel_rfl) (l06Dims_any p p _ _ _ _ ds ms ds2 ms2 W19 (HN1.out W19 S19).1.cx (HN1.out W19 S19).2.1.cx HCX.out HCY.out) ?_ (fun c w' h => by obtain ⟨_, h, _⟩ := h; cases h) (fun w' h => by obtain ⟨_, h, _⟩ := h; cases h)
          rintro ee W20 ⟨u20, he, hu20, hb20⟩
          injection he with he
          subst he
          obtain ⟨a20, c20, hv⟩ := Sl.shape hu20.l1
          rw [tdD_length, ← HTD.out] at hv
          subst hv
          have S20 : Below (w1.heap.size) w1 W20 := S19.trans (hb20.mono (Nat.le_trans hB0 S19.size))
          have hAg20 := hAg19.next hb20
          have hAm20 := hAm19.next hb20
          have hud20 := hu20.mono (Nat.le_trans hB0 S19.size)
          refine ⟨S20, ?_⟩
          refine held_take (i := 6) (v := .agg #[.int .i64 p, .slice a20 nT c20, .slice (some ⟨W15.heap.size, 0, none⟩) 0 0]) (some 17) rfl rfl (by kernel_rfl) (by kernel_rfl) (by kernel_rfl) (fun _ _ _ h => h) (yieldsIf_run (by kernel_rfl) (fun W _ => by kernel_rfl)) S20 ?_
          have hdF := hud20.offRowC hAg20 coT.1 #[.int .i64 p, .slice a20 nT c20, .slice (some ⟨W15.heap.size, 0, none⟩) 0 0]
          have S21 : Below (w1.heap.size) w1 (W20.setRow (wd.heap.size) #[.int .i64 p, .slice a20 nT c20, .slice (some ⟨W15.heap.size, 0, none⟩) 0 0]) := below_setRow S20 hGg _
          refine held_one (i := 8) (by kernel_rfl) ?_
          refine op_row (i := 8) rfl rfl rfl 30 (.tmp 5) (.tmp 17) rfl (wd.heap.size) #[.int .i64 p, .slice a20 nT c20, .slice (some ⟨W15.heap.size, 0, none⟩) 0 0] (by kernel_rfl) (by kernel_rfl) 30 _ hAg20 (infoCo _ _ _) (by kernel_rfl) (by kernel_rfl) ?_
          refine ⟨S21, ?_⟩
          have hAg21 := hAg20.set #[.int .i64 p, .slice a20 nT c20, .slice (some ⟨W15.heap.size, 0, none⟩) 0 0]
          have hAm21 := hAm20.off (by first | exact hne | exact hne.symm) #[.int .i64 p, .slice a20 nT c20, .slice (some ⟨W15.heap.size, 0, none⟩) 0 0]
          refine wpAnyH_done (by kernel_rfl) ?_ _
          simp only [Act.put, List.setIfInBounds_toArray, List.set_cons_zero, List.set_cons_succ]
          go_wp2
          go_meet
          exact ⟨wd.heap.size, W15.heap.size, c20, a20, rfl, Lib.hid ⟨S21, hGg, rowIs3 hAg21, hdF, gt_nil hAm21 hGm⟩⟩
  case rest =>
    obtain ⟨bo, bm, cq, aq, rfl, HS0⟩ := hcut
    obtain ⟨wz, hwz⟩ : ∃ wz : World, wz = wc := ⟨_, rfl⟩
    subst hwz
    go_wp2
    go_loopw [6, 7, 8, 9, 10] (fun x _ _ _ _ wr => ∃ (n q : Nat) (am' : Option Addr) (cm : Nat), n ≤ nT ∧ x = .int .i64 (n : Int) ∧ Hid (n = q + 1) ∧ Hid (Sd w1 wr bo p (.slice aq nT cq) (.slice am' q cm) (tdD ds ds2) ((tcM p ds ms ds2 ms2).take q))) (fun x _ _ _ _ _ => nT - (intOf x).toNat)
    case atStart => exact ⟨1, 0, _, _, hT11.1, rfl, Lib.hid rfl, by simpa using HS0⟩
    case round =>
      clear HS0
      obtain ⟨n, q, am', cm, hn, rfl, HQ, HS⟩ := hrel
      obtain ⟨wx, hwx⟩ : ∃ wx : World, wx = wr := ⟨_, rfl⟩
      subst hwx
      have HSW : Hid (∀ W, Below wx.heap.size wx W → Sd w1 W bo p (.slice aq nT cq) (.slice am' q cm) (tdD ds ds2) ((tcM p ds ms ds2 ms2).take q)) := Lib.hid (fun W hb => HS.out.next hb)
      have HXY : Hid (∀ W, Below wx.heap.size wx W → Bx w W w.heap.size p (.slice ad ds.length cap) (.slice am ms.length capm) ds ms ∧ Bx w W (w.heap.size + 1) p (.slice ad2 ds2.length cap2) (.slice am2 ms2.length capm2) ds2 ms2 ∧ Rz W (w.heap.size + 2) 30 #[.int .i64 0, .slice none 0 0, .slice none 0 0]) := Lib.hid (fun W hb => HN1.out W (HSW.out W hb).below)
      have hsx := HS.out.below.size
      have g1 : wx.cell? ⟨bo, 1, none⟩ = some (.slice aq nT cq) := HS.out.box.cell (i := 1) (by omega)
      have hq10 : q ≤ 10 := by have := HQ.out; omega
      by_cases hlt : n < nT
      · have hki : (n : Int) < (nT : Int) := by omega
        obtain ⟨N, hN⟩ : ∃ N, N = (tdN ds ds2 q).toNat := ⟨_, rfl⟩
        have hNp : (N : Int) = tdN ds ds2 q := by have := td_n HCX.out HCY.out q; omega
        have hN8 : N ≤ 1048576 := by have h1 := td_n HCX.out HCY.out q; have h2 := plS_bd HCX.out HCY.out (q : Int) ds.length; omega
        have hqT : q < (tdD ds ds2).length := by rw [tdD_length, ← HTD.out]; have := HQ.out; omega
        have hLd := HS.out.dims.l1
        have hval : (tdD ds ds2)[q] = (N : Int) := by rw [hNp]; simp [tdD]
        have HDN : Hid (∀ W, Below wx.heap.size wx W → ∃ bd od, (some ⟨bd, od, none⟩ : Option Addr) = aq ∧ W.cell? ⟨bd, od + q, none⟩ = some (.int .i64 (N : Int))) := Lib.hid (fun W hb => by
          refine Sl.cases (HSW.out W hb).dims.l1 (fun _ _ hx _ => absurd hqT (by simp [hx])) (fun b2 o2 c2 hv2 _ _ hc2 => ?_)
          injection hv2 with k1 _ _
          obtain ⟨u, hu, hru⟩ := hc2 q hqT
          exact ⟨b2, o2, k1.symm, by rw [hu, hru, hval]⟩)
        obtain ⟨bd, od, hbd, hdum⟩ := HDN.out wx (Below.refl _ _)
        clear hdum hLd
        subst hbd
        have HDC : Hid (∀ W, Below wx.heap.size wx W → W.cell? ⟨bd, od + q, none⟩ = some (.int .i64 (N : Int))) := Lib.hid (fun W hb => by
          obtain ⟨b2, o2, e, h⟩ := HDN.out W hb
          injection e with e
          injection e with e1 e2
          subst e1 e2
          exact h)
        have HNE := Lib.hid hN
        have hqn : q < nT := by have := HQ.out; omega
        have HQN := Lib.hid hqn
        have hwq : IntKind.i64.wrap ((n : Int) - 1) = (q : Int) := by rw [show (n : Int) - 1 = (q : Int) by have := HQ.out; omega]; exact IntWalk.i64_in _ (by omega)
        have HWQ := Lib.hid hwq
        clear hqT hval hNp hN HDN hwq
        have HS0 : Hid (Grb none wx.heap.size (wx.alloc (.cells #[] 22)) (.slice (some ⟨wx.heap.size, 0, none⟩) 0 0) []) := Lib.hid (Grb.start (Gs.new (base := wx.heap.size) wx (Nat.le_refl _)))
        go_wp2
        clear g1
        go_loopw [7, 8, 9, 10] (fun tv x _ _ wr => ∃ i : Nat, i ≤ n + 1 ∧ x = .int .i64 (i : Int) ∧ Hid (Below wx.heap.size wx wr) ∧ Hid (Grb none wx.heap.size wr tv (tcRows p ds ms ds2 ms2 N n i 0 0))) (fun _ x _ _ _ => n + 1 - (intOf x).toNat)
        case atStart => exact ⟨0, Nat.zero_le _, rfl, Lib.hid (below_alloc1 _ _), by simpa [tcRows, pvP_zero] using HS0⟩
        case round =>
          clear HS0
          obtain ⟨i, hi, rfl, HBI, HSI⟩ := hrel
          obtain ⟨wi, hwi⟩ : ∃ wi : World, wi = wr := ⟨_, rfl⟩
          subst hwi
          obtain ⟨at', ct, htv⟩ := Sl.shape HSI.out.gs.l2
          subst htv
          have hsi : wx.heap.size ≤ wi.heap.size := HBI.out.size
          by_cases hin : i ≤ n
          · have hii : (i : Int) ≤ (n : Int) := by omega
            have hdi := dimZ_b HCX.out (i : Int)
            obtain ⟨D, hD⟩ : ∃ D : Nat, dimZ ds (i : Int) = (D : Int) := ⟨(dimZ ds (i : Int)).toNat, by omega⟩
            have hD8 : D ≤ 8 := by omega
            have HDI := Lib.hid hD
            clear hdi hD
            have HDA : Hid (∀ W, Below wx.heap.size wx W → Calls Try.prog 135 #[.agg #[.int .i64 p, .slice ad ds.length cap, .slice am ms.length capm], .int .i64 (i : Int)] W (BR (.int .i64 (D : Int)) W)) := Lib.hid (fun W h => by
              have := l01Dim_any p (i : Int) _ _ ds ms W (HXY.out W h).1.cx (by omega)
              rwa [HDI.out] at this)
            go_wp2
            go_loopw [7, 9, 10] (fun tv x _ wr => ∃ a : Nat, a ≤ D ∧ x = .int .i64 (a : Int) ∧ Hid (Below wx.heap.size wx wr) ∧ Hid (Grb none wx.heap.size wr tv (tcRows p ds ms ds2 ms2 N n i a 0))) (fun _ x _ _ => D - (intOf x).toNat)
            case atStart => exact ⟨0, Nat.zero_le _, rfl, HBI, HSI⟩
            case round =>
              clear HBI HSI
              obtain ⟨a, ha, rfl, HBA, HSA⟩ := hrel
              obtain ⟨wa, hwa⟩ : ∃ wa : World, wa = wr := ⟨_, rfl⟩
              subst hwa
              obtain ⟨at2, ct2, htv⟩ := Sl.shape HSA.out.gs.l2
              subst htv
              have hsa : wx.heap.size ≤ wa.heap.size := HBA.out.size
              have c0 := (HXY.out _ HBA.out).1.c0
              have c1 := (HXY.out _ HBA.out).1.c1
              have c2 := (HXY.out _ HBA.out).1.c2
              have d0 := (HXY.out _ HBA.out).2.1.c0
              have d1 := (HXY.out _ HBA.out).2.1.c1
              have d2 := (HXY.out _ HBA.out).2.1.c2
              go_wp2_with fail
              refine (HDA.out _ HBA.out).mono ?_
              rintro ee wb ⟨rfl, hbb⟩
              have HBB := Lib.hid (HBA.out.trans (hbb.mono hsa))
              have HSB := Lib.hid (HSA.out.below hbb)
              clear hbb c0 c1 c2 d0 d1 d2
              by_cases hal : a < D
              · have hai : (a : Int) < (D : Int) := by omega
                have hdj := dimZ_b HCY.out ((n : Int) - (i : Int))
                obtain ⟨E, hE⟩ : ∃ E : Nat, dimZ ds2 ((n : Int) - (i : Int)) = (E : Int) := ⟨(dimZ ds2 ((n : Int) - (i : Int))).toNat, by omega⟩
                have hE8 : E ≤ 8 := by omega
                have HEI := Lib.hid hE
                clear hdj hE
                have hwni : IntKind.i64.wrap ((n : Int) - (i : Int)) = (n : Int) - (i : Int) := IntWalk.i64_in _ (by omega)
                have HDB : Hid (∀ W, Below wx.heap.size wx W → Calls Try.prog 135 #[.agg #[.int .i64 p, .slice ad2 ds2.length cap2, .slice am2 ms2.length capm2], .int .i64 ((n : Int) - (i : Int))] W (BR (.int .i64 (E : Int)) W)) := Lib.hid (fun W h => by
                  have := l01Dim_any p ((n : Int) - (i : Int)) _ _ ds2 ms2 W (HXY.out W h).2.1.cx (by omega)
                  rwa [HEI.out] at this)
                go_wp2
                go_loopw [7, 10] (fun tv x wr => ∃ b : Nat, b ≤ E ∧ x = .int .i64 (b : Int) ∧ Hid (Below wx.heap.size wx wr) ∧ Hid (Grb none wx.heap.size wr tv (tcRows p ds ms ds2 ms2 N n i a b))) (fun _ x _ => E - (intOf x).toNat)
                case atStart => exact ⟨0, Nat.zero_le _, rfl, HBB, HSB⟩
                case round =>
                  clear HBA HSA HBB HSB
                  obtain ⟨b, hb, rfl, HBC, HSC⟩ := hrel
                  obtain ⟨wc, hwc⟩ : ∃ wc : World, wc = wr := ⟨_, rfl⟩
                  subst hwc
                  obtain ⟨at3, ct3, htv⟩ := Sl.shape HSC.out.gs.l2
                  subst htv
                  have hsc : wx.heap.size ≤ wc.heap.size := HBC.out.size
                  have c0 := (HXY.out _ HBC.out).1.c0
                  have c1 := (HXY.out _ HBC.out).1.c1
                  have c2 := (HXY.out _ HBC.out).1.c2
                  have d0 := (HXY.out _ HBC.out).2.1.c0
                  have d1 := (HXY.out _ HBC.out).2.1.c1
                  have d2 := (HXY.out _ HBC.out).2.1.c2
                  go_wp2_with fail
                  refine (HDB.out _ HBC.out).mono ?_
                  rintro ee wd ⟨rfl, hbd⟩
                  have HBD := Lib.hid (HBC.out.trans (hbd.mono hsc))
                  have HSD := Lib.hid (HSC.out.below hbd)
                  clear hbd c0 c1 c2 d0 d1 d2
                  by_cases hbl : b < E
                  · have hbi : (b : Int) < (E : Int) := by omega
                    obtain ⟨j, hj⟩ := Nat.exists_eq_add_of_le hin
                    have hnj : (n : Int) - (i : Int) = (j : Int) := by omega
                    have hdx := HDI.out
                    have hdy := HEI.out
                    rw [hnj] at hdy
                    have hiL : i < ds.length := Classical.byContradiction (fun hh => by rw [dimZ_past (by omega)] at hdx; omega)
                    have hjL : j < ds2.length := Classical.byContradiction (fun hh => by rw [dimZ_past (by omega)] at hdy; omega)
                    have hwnj : IntKind.i64.wrap ((n : Int) - (i : Int)) = (j : Int) := by rw [hwni, hnj]
                    have hri : ds.getD i 0 = (D : Int) := by rw [← hdx, dimZ_in rfl hiL, getD_of_lt _ hiL]
                    have hrj : ds2.getD j 0 = (E : Int) := by rw [← hdy, dimZ_in rfl hjL, getD_of_lt _ hjL]
                    have HCALL : Hid (∀ W, Below wx.heap.size wx W → Calls Try.prog 136 #[.agg #[.int .i64 p, .slice ad ds.length cap, .slice am ms.length capm], .agg #[.int .i64 p, .slice ad2 ds2.length cap2, .slice am2 ms2.length capm2], .int .i64 (i : Int), .int .i64 (a : Int), .int .i64 (j : Int), .int .i64 (b : Int), .int .i64 (N : Int)] W (RowR N (tcRow p ds ms ds2 ms2 i a j b) W)) := Lib.hid (fun W h => l06Row_any p i a j b D E q N _ _ _ _ ds ms ds2 ms2 W (HXY.out W h).1.cx (HXY.out W h).2.1.cx HCX.out HCY.out hiL hjL hri hrj hal hbl (by have := HQ.out; omega) HNE.out)
                    have HROWL : Hid ((tcV p ds ms ds2 ms2 N (((i : Int), (a : Int)), ((n : Int) - (i : Int), (b : Int)))) = (List.range N).map (tcRow p ds ms ds2 ms2 i a j b)) := Lib.hid (by unfold tcV; rw [hnj]; simp only [Int.toNat_natCast])
                    obtain ⟨Lr, hLr⟩ : ∃ L, L = (tcRows p ds ms ds2 ms2 N n i a b).length := ⟨_, rfl⟩
                    rw [← hLr] at HSD ⊢
                    have hLr8 : Lr ≤ 1000 := by
                      have h1 := plS_bd HCX.out HCY.out (n : Int) i
                      have h2 : a * E ≤ 8 * 8 := Nat.mul_le_mul (by omega) (by omega)
                      have hEt : (dimZ ds2 ((n : Int) - (i : Int))).toNat = E := by have := HEI.out; omega
                      rw [hLr, tcRows_length, hEt]
                      omega
                    have HLD := Lib.hid hLr
                    have HBDs := HBD.out.size
                    clear hdx hdy hj hri hrj hLr
                    go_wp2
                    refine wp_region_held (S := fun W => Hid (Below wx.heap.size wx W)) (by kernel_rfl) ?_
                    have S0 : Hid (Below wx.heap.size wx wd.drew) := Lib.hid HBD.out.drew
                    refine held_take (i := 0) (v := .slice at3 Lr ct3) (some 47) rfl rfl (by kernel_rfl) (by kernel_rfl) (by kernel_rfl) (fun _ _ _ h => h) (yieldsIf_move (by kernel_rfl) rfl (by kernel_rfl)) S0 ?_
                    refine held_take (i := 1) (v := .agg #[.int .i64 p, .slice ad ds.length cap, .slice am ms.length capm]) (some 48) rfl rfl (by kernel_rfl) (by kernel_rfl) (by kernel_rfl) (fun _ _ _ h => h) (yieldsIf_cell (by kernel_rfl) rfl (by kernel_rfl) (fun W h => hload3x (HXY.out W h.out).1)) S0 ?_
                    refine held_take (i := 2) (v := .agg #[.int .i64 p, .slice ad2 ds2.length cap2, .slice am2 ms2.length capm2]) (some 49) rfl rfl (by kernel_rfl) (by kernel_rfl) (by kernel_rfl) (fun _ _ _ h => h) (yieldsIf_cell (by kernel_rfl) rfl (by kernel_rfl) (fun W h => hload3x (HXY.out W h.out).2.1)) S0 ?_
                    refine held_take (i := 3) (v := .int .i64 (i : Int)) (some 50) rfl rfl (by kernel_rfl) (by kernel_rfl) (by kernel_rfl) (fun _ _ _ h => h) (yieldsIf_move (by kernel_rfl) rfl (by kernel_rfl)) S0 ?_
                    refine held_take (i := 4) (v := .int .i64 (a : Int)) (some 51) rfl rfl (by kernel_rfl) (by kernel_rfl) (by kernel_rfl) (fun _ _ _ h => h) (yieldsIf_move (by kernel_rfl) rfl (by kernel_rfl)) S0 ?_
                    refine held_take (i := 5) (v := .int .i64 (n : Int)) (some 52) rfl rfl (by kernel_rfl) (by kernel_rfl) (by kernel_rfl) (fun _ _ _ h => h) (yieldsIf_move (by kernel_rfl) rfl (by kernel_rfl)) S0 ?_
                    refine held_take (i := 6) (v := .int .i64 (i : Int)) (some 53) rfl rfl (by kernel_rfl) (by kernel_rfl) (by kernel_rfl) (fun _ _ _ h => h) (yieldsIf_move (by kernel_rfl) rfl (by kernel_rfl)) S0 ?_
                    refine held_take (i := 7) (v := .int .i64 (j : Int)) (some 54) rfl rfl (by kernel_rfl) (by kernel_rfl) (by kernel_rfl) (fun _ _ _ h => h) (yieldsIf_bin (by kernel_rfl) rfl (by kernel_rfl) (by kernel_rfl) (fun _ => rfl) (hsubA hwnj)) S0 ?_
                    refine held_take (i := 8) (v := .int .i64 (b : Int)) (some 55) rfl rfl (by kernel_rfl) (by kernel_rfl) (by kernel_rfl) (fun _ _ _ h => h) (yieldsIf_move (by kernel_rfl) rfl (by kernel_rfl)) S0 ?_
                    refine held_take (i := 9) (v := .pointer (some ⟨bo, 1, none⟩)) (some 56) rfl rfl (by kernel_rfl) (by kernel_rfl) (by kernel_rfl) (fun _ _ _ h => h) (yieldsIf_run (by kernel_rfl) (fun W _ => by kernel_rfl)) S0 ?_
                    refine held_take (i := 10) (v := .slice (some ⟨bd, od, none⟩) nT cq) (some 57) rfl rfl (by kernel_rfl) (by kernel_rfl) (by kernel_rfl) (fun _ _ _ h => h) (yieldsIf_cell (by kernel_rfl) rfl (by kernel_rfl) (fun W h => hloadS W ((HSW.out W h.out).box.cell (i := 1) (by omega)))) S0 ?_
                    refine held_take (i := 11) (v := .int .i64 (n : Int)) (some 58) rfl rfl (by kernel_rfl) (by kernel_rfl) (by kernel_rfl) (fun _ _ _ h => h) (yieldsIf_move (by kernel_rfl) rfl (by kernel_rfl)) S0 ?_
                    refine held_take (i := 12) (v := .int .i64 (q : Int)) (some 59) rfl rfl (by kernel_rfl) (by kernel_rfl) (by kernel_rfl) (fun _ _ _ h => h) (yieldsIf_bin (by kernel_rfl) rfl (by kernel_rfl) (by kernel_rfl) (fun _ => rfl) (hsubA HWQ.out)) S0 ?_
                    refine held_take (i := 13) (v := .pointer (some ⟨bd, od + q, none⟩)) (some 60) rfl rfl (by kernel_rfl) (by kernel_rfl) (by kernel_rfl) (fun _ _ _ h => h) (yieldsIf_index (by kernel_rfl) rfl (by kernel_rfl) (by kernel_rfl) (hidxI bd od cq HQN.out)) S0 ?_
                    refine held_take (i := 14) (v := .int .i64 (N : Int)) (some 61) rfl rfl (by kernel_rfl) (by kernel_rfl) (by kernel_rfl) (fun _ _ _ h => h) (yieldsIf_cell (by kernel_rfl) rfl (by kernel_rfl) (fun W h => hload W (HDC.out W h.out))) S0 ?_
                    refine held_enter (i := 15) (some 62) (f := 136) (args := #[.agg #[.int .i64 p, .slice ad ds.length cap, .slice am ms.length capm], .agg #[.int .i64 p, .slice ad2 ds2.length cap2, .slice am2 ms2.length capm2], .int .i64 (i : Int), .int .i64 (a : Int), .int .i64 (j : Int), .int .i64 (b : Int), .int .i64 (N : Int)]) (by kernel_rfl) rfl rfl rfl (by kernel_rfl) (HCALL.out _ S0.out) ?_ (fun c w' h => by obtain ⟨_, h, _⟩ := h; cases h) (fun w' h => by obtain ⟨_, h, _⟩ := h; cases h)
                    rintro ee w6 ⟨g6, he, hg6, hr6, hb6⟩
                    injection he with he
                    subst he
                    have S1 : Hid (Below wx.heap.size wx w6) := Lib.hid (S0.out.trans (hb6.mono S0.out.size))
                    refine ⟨S1, ?_⟩
                    obtain ⟨w7, hw7⟩ : ∃ w7, w7 = w6.alloc (.cells #[.slice (some ⟨g6, 0, none⟩) N N] 22) := ⟨_, rfl⟩
                    have hb7 : Below w6.heap.size w6 w7 := by rw [hw7]; exact below_alloc1 _ _
                    have hc7 : w7.cell? ⟨w6.heap.size, 0, none⟩ = some (.slice (some ⟨g6, 0, none⟩) N N) := by rw [hw7]; exact cell_alloc1 _ _ _
                    have S2 : Hid (Below wx.heap.size wx w7) := Lib.hid (S1.out.trans (hb7.mono S1.out.size))
                    refine held_mem (i := 16) (v := .slice (some ⟨w6.heap.size, 0, none⟩) 1 1) (w' := w7) (some 63) (by kernel_rfl) rfl rfl rfl (by rw [hw7]; go_simp) S2 ?_
                    simp only [Act.put, List.setIfInBounds_toArray, List.set_cons_zero, List.set_cons_succ]
                    have HG7 : Hid (G1 w7 (.slice (some ⟨g6, 0, none⟩) N N) (tcV p ds ms ds2 ms2 N (((i : Int), (a : Int)), ((n : Int) - (i : Int), (b : Int))))) := Lib.hid (by
                      rw [HROWL.out]
                      exact ((gb_row (base := 0) hr6 (by simp) (fun z hz => by simp) (by unfold maxLen; omega) (Nat.zero_le _)).below hb7).g1)
                    have HS7 := Lib.hid (((HSD.out.below (Below.refl _ _).drew).below hb6).below hb7)
                    refine held_call (i := 17) (by kernel_rfl) rfl rfl ?_
                    refine wp_appendS1o (some 64) rfl (.tmp 47) (.tmp 63) rfl none wx.heap.size (.slice at3 Lr ct3) (tcRows p ds ms ds2 ms2 N n i a b) (by kernel_rfl) HS7.out w6.heap.size (by kernel_rfl) (some ⟨g6, 0, none⟩) N N hc7 _ HG7.out (fun _ _ e => by cases e) (by rw [← HLD.out]; omega) S2.out.size ?_
                    rw [← HLD.out]
                    intro g8 c8 w8 hn8 hgw8
                    have S3 : Hid (Below wx.heap.size wx w8) := Lib.hid (S2.out.grown hgw8 S2.out.size (fun g hg => (HS7.out.gs.lt g hg).1))
                    have HN8 : Hid (Grb none wx.heap.size w8 (.slice (some ⟨g8, 0, none⟩) (Lr + 1) c8) (tcRows p ds ms ds2 ms2 N n i a (b + 1))) := Lib.hid (by rw [tcRows_b]; exact hn8)
                    clear hn8 hgw8
                    refine ⟨S3, ?_⟩
                    refine held_take (i := 18) (v := .slice (some ⟨g8, 0, none⟩) (Lr + 1) c8) (some 7) rfl rfl (by kernel_rfl) (by kernel_rfl) (by kernel_rfl) (fun _ _ _ h => h) (yieldsIf_assign (by kernel_rfl) rfl (by kernel_rfl)) S3 ?_
                    refine wpAnyH_done (by kernel_rfl) ?_ _
                    simp only [Act.put, List.setIfInBounds_toArray, List.set_cons_zero, List.set_cons_succ]
                    clear S0 S1 S2 hb6 hb7 hr6 hw7 hc7 hg6 HS7
                    go_wp2
                    go_roundw
                    case rel => first | exact ⟨b + 1, by omega, by go_num, S3, HN8⟩ | ((repeat apply Exists.intro); exact ⟨⟨b + 1, by omega, by go_num, S3, HN8⟩, rfl⟩)
                    case measure => simp [intOf]; omega
                  · have hbi : ¬ (b : Int) < (E : Int) := by omega
                    have hbe : b = E := by omega
                    have HS2 : Hid (Grb none wx.heap.size wd (.slice at3 (tcRows p ds ms ds2 ms2 N n i a b).length ct3) (tcRows p ds ms ds2 ms2 N n i (a + 1) 0)) := Lib.hid (by
                      have h := HSD.out
                      have e : tcRows p ds ms ds2 ms2 N n i a b = tcRows p ds ms ds2 ms2 N n i (a + 1) 0 := by unfold tcRows; rw [← pvP_a, HEI.out, hbe]; rfl
                      rw [e] at h ⊢
                      exact h)
                    clear hbe
                    go_wp2
                    go_roundw
                    case rel => exact ⟨a + 1, by omega, by go_num, HBD, HS2⟩
                    case measure => simp [intOf]; omega
              · have hai : ¬ (a : Int) < (D : Int) := by omega
                have hae : a = D := by omega
                have HS2 : Hid (Grb none wx.heap.size wb (.slice at2 (tcRows p ds ms ds2 ms2 N n i a 0).length ct2) (tcRows p ds ms ds2 ms2 N n (i + 1) 0 0)) := Lib.hid (by
                  have h := HSB.out
                  have e : tcRows p ds ms ds2 ms2 N n i a 0 = tcRows p ds ms ds2 ms2 N n (i + 1) 0 0 := by unfold tcRows; rw [← pvP_i, HDI.out, hae]; rfl
                  rw [e] at h ⊢
                  exact h)
                clear hae
                go_wp2
                go_roundw
                case rel => exact ⟨i + 1, by omega, by go_num, HBB, HS2⟩
                case measure => simp [intOf]; omega
          · have hii : ¬ (i : Int) ≤ (n : Int) := by omega
            have hie : i = n + 1 := by omega
            subst hie
            obtain ⟨Lr, hLr⟩ : ∃ L, L = (tcRows p ds ms ds2 ms2 N n (n + 1) 0 0).length := ⟨_, rfl⟩
            rw [← hLr] at HSI ⊢
            clear hLr
            have HTE : Hid (tcRows p ds ms ds2 ms2 N n (n + 1) 0 0 = tcT p ds ms ds2 ms2 q) := Lib.hid (by rw [HNE.out, HQ.out]; exact tcRows_end p ds ms ds2 ms2 q)
            obtain ⟨TQ, hTQ⟩ : ∃ TQ, TQ = (tcM p ds ms ds2 ms2).take q := ⟨_, rfl⟩
            have HQL : Hid (TQ.length = q) := Lib.hid (by rw [hTQ, List.length_take, tcM_length, ← HTD.out]; have := HQ.out; omega)
            have HXM : Hid ((tcM p ds ms ds2 ms2).take (q + 1) = TQ ++ [tcT p ds ms ds2 ms2 q]) := Lib.hid (by rw [hTQ]; exact tcM_take p ds ms ds2 ms2 (by rw [← HTD.out]; have := HQ.out; omega))
            have hba : Below wi.heap.size wi (wi.alloc (.cells #[.slice at' Lr ct] 27)) := below_alloc1 _ _
            have HSA := Lib.hid (HSW.out _ (HBI.out.trans (hba.mono hsi)))
            rw [← hTQ] at HSA
            have HGU : Hid (Gs 0 (wi.alloc (.cells #[.slice at' Lr ct] 27)) (.slice at' Lr ct) (tcT p ds ms ds2 ms2 q)) := Lib.hid (by have h0 := ((HSI.out.below hba).gs.mono (Nat.zero_le _)); rwa [HTE.out] at h0)
            have hcell := cell_alloc1 wi (.slice at' Lr ct) 27
            have g2 : wi.cell? ⟨bo, 2, none⟩ = some (.slice am' q cm) := (HSW.out _ HBI.out).box.cell (i := 2) (by omega)
            have HC6 : Hid (w1.heap.size ≤ (wi.alloc (.cells #[.slice at' Lr ct] 27)).heap.size) := Lib.hid HSA.out.below.size
            have HC5 : Hid (TQ.length ≤ 2097151) := Lib.hid (by rw [HQL.out]; omega)
            clear hba HSI hTQ
            go_wp2_with (at_builtin; refine wpList_appendT3 rfl (some 69) rfl (.tmp 66) (.tmp 68) rfl w1.heap.size (.slice am' q cm) TQ rfl HSA.out.maps wi.heap.size rfl at' Lr ct hcell _ HGU.out HC5.out HC6.out ?_)
            intro v8 w8 hn8 hgw8
            obtain ⟨a8, c8, hv8⟩ := Sl.shape hn8.l3
            rw [List.length_append, HQL.out] at hv8
            simp only [List.length_cons, List.length_nil] at hv8
            subst hv8
            have HSN : Hid (Sd w1 (w8.setCell ⟨bo, 2, none⟩ (.slice a8 (q + 1) c8)) bo p (.slice (some ⟨bd, od, none⟩) nT cq) (.slice a8 (q + 1) c8) (tdD ds ds2) ((tcM p ds ms ds2 ms2).take (q + 1))) := Lib.hid (by rw [HXM.out]; exact HSA.out.stepM hgw8 hn8)
            obtain ⟨vs8, ho8, _⟩ := HSA.out.maps
            have hrb := row_grown HSA.out.box ho8 coT.2.2 hgw8
            have z1 : w8.cell? ⟨bo, 2, none⟩ = some (.slice am' q cm) := hrb.cell (i := 2) (by omega)
            have z2 : w8.frozen? ⟨bo, 2, none⟩ = false := hrb.frozen 2
            have HQ3 : Hid (n + 1 = q + 1 + 1) := Lib.hid (by have := HQ.out; omega)
            clear hn8 hgw8 hrb hcell HSA ho8 HGU g2
            go_wp2
            go_roundw
            case rel => exact ⟨n + 1, q + 1, _, _, by omega, by go_num, HQ3, HSN⟩
            case measure => simp [intOf]; omega
      · have hki : ¬ (n : Int) < (nT : Int) := by omega
        have hqm : q = tdL ds ds2 - 1 := by rw [← HTD.out]; have := HQ.out; omega
        have HSF : Hid (Sd w1 wx bo p (.slice aq nT cq) (.slice am' q cm) (tdD ds ds2) ((tcM p ds ms ds2 ms2))) := Lib.hid (by have h0 := HS.out; rwa [List.take_of_length_le (by rw [tcM_length]; omega)] at h0)
        have HLQ : Hid ((tdD ds ds2).length = nT ∧ (tcM p ds ms ds2 ms2).length = q) := Lib.hid ⟨by rw [tdD_length, ← HTD.out], by rw [tcM_length, hqm]⟩
        have e0 : wx.cell? ⟨bo, 0, none⟩ = some (.int .i64 p) := HSF.out.box.cell (i := 0) (by omega)
        have e2 : wx.cell? ⟨bo, 2, none⟩ = some (.slice am' q cm) := HSF.out.box.cell (i := 2) (by omega)
        have HR3 := Lib.hid (HXY.out wx (Below.refl _ _)).2.2
        have HX3 := Lib.hid (HXY.out wx (Below.refl _ _)).1
        have hgl := HSF.out.lo
        have hs1' := HS1.out
        have r0 := rowIs3 HR3.out
        have D1 := HSF.out.dims.off r0 coT.1 0 (.int .i64 p)
        have M1 := HSF.out.maps.off r0 coT 0 (.int .i64 p)
        have r1 := r0.set 0 (.int .i64 p)
        have D2 := D1.off r1 coT.1 1 (.slice aq nT cq)
        have M2 := M1.off r1 coT 1 (.slice aq nT cq)
        have r2 := r1.set 1 (.slice aq nT cq)
        have D3 := D2.off r2 coT.1 2 (.slice am' q cm)
        have M3 := M2.off r2 coT 2 (.slice am' q cm)
        have HL3 := Lib.hid (And.intro (D3.mono (show w.heap.size ≤ w1.heap.size by omega)) (M3.lower (show w.heap.size ≤ w1.heap.size by omega)))
        clear r0 r1 r2 D1 D2 D3 M1 M2 M3 HS hqm
        have HR1 : ∃ x0 x1 x2, wx.heap[w.heap.size + 2]? = some (.cells #[x0, x1, x2] 30) := ⟨_, _, _, HR3.out⟩
        obtain ⟨x0, x1, x2, hr⟩ := HR1
        have r0 : wx.rowIs (w.heap.size + 2) 30 3 (sel3 x0 x1 x2) := rowIs3 hr
        have q0 : wx.cell? ⟨w.heap.size + 2, 0, none⟩ = some x0 := r0.cell (i := 0) (by omega)
        have z0 : wx.frozen? ⟨w.heap.size + 2, 0, none⟩ = false := r0.frozen 0
        have r1 := r0.set 0 (.int .i64 p)
        have q1 : (wx.setCell ⟨w.heap.size + 2, 0, none⟩ (.int .i64 p)).cell? ⟨w.heap.size + 2, 1, none⟩ = some x1 := r1.cell (i := 1) (by omega)
        have z1 : (wx.setCell ⟨w.heap.size + 2, 0, none⟩ (.int .i64 p)).frozen? ⟨w.heap.size + 2, 1, none⟩ = false := r1.frozen 1
        have r2 := r1.set 1 (.slice aq nT cq)
        have q2 : ((wx.setCell ⟨w.heap.size + 2, 0, none⟩ (.int .i64 p)).setCell ⟨w.heap.size + 2, 1, none⟩ (.slice aq nT cq)).cell? ⟨w.heap.size + 2, 2, none⟩ = some x2 := r2.cell (i := 2) (by omega)
        have z2 : ((wx.setCell ⟨w.heap.size + 2, 0, none⟩ (.int .i64 p)).setCell ⟨w.heap.size + 2, 1, none⟩ (.slice aq nT cq)).frozen? ⟨w.heap.size + 2, 2, none⟩ = false := r2.frozen 2
        have r3 := r2.set 2 (.slice am' q cm)
        obtain ⟨WF, hWF⟩ : ∃ W : World, W = (((wx.setCell ⟨w.heap.size + 2, 0, none⟩ (.int .i64 p)).setCell ⟨w.heap.size + 2, 1, none⟩ (.slice aq nT cq)).setCell ⟨w.heap.size + 2, 2, none⟩ (.slice am' q cm)) := ⟨_, rfl⟩
        have hbWF : ∀ B (w0 : World), B ≤ w.heap.size + 2 → Below B w0 wx → Below B w0 WF := fun B w0 hl hb => by rw [hWF]; exact (((hb.setCell (by show B ≤ w.heap.size + 2; exact hl) _).setCell (by show B ≤ w.heap.size + 2; exact hl) _).setCell (by show B ≤ w.heap.size + 2; exact hl) _)
        have hsWF : ∀ lo hi, w.heap.size + 2 < lo ∨ hi ≤ w.heap.size + 2 → Same lo hi wx WF := fun lo hi hl => by rw [hWF]; exact (((Same.set _ hl).trans (Same.set _ hl)).trans (Same.set _ hl))
        have hzWF : WF.heap.size = wx.heap.size := by rw [hWF]; simp
        rw [← hWF] at r3
        have f0 : WF.cell? ⟨w.heap.size + 2, 0, none⟩ = some (.int .i64 p) := r3.cell (i := 0) (by omega)
        have f1 : WF.cell? ⟨w.heap.size + 2, 1, none⟩ = some (.slice aq nT cq) := r3.cell (i := 1) (by omega)
        have f2 : WF.cell? ⟨w.heap.size + 2, 2, none⟩ = some (.slice am' q cm) := r3.cell (i := 2) (by omega)
        have HWWF := Lib.hid hWF
        clear hr r0 r1 r2 r3 hWF
        have HBF := Lib.hid (hbWF w.heap.size w (by omega) HX3.out.below)
        have HLF : Hid (Gb w.heap.size WF (.slice aq nT cq) (tdD ds ds2) ∧ Gt w.heap.size WF (.slice am' q cm) (tcM p ds ms ds2 ms2)) := Lib.hid (by rw [HWWF.out]; exact HL3.out)
        clear hbWF hsWF hzWF HL3 hs1' hgl
        go_wp2
        rw [← HWWF.out]
        refine bodyPost_ret (v := .agg #[.int .i64 p, .slice aq nT cq, .slice am' q cm]) ?_ rfl ?_
        · simp only [results, HRES.out]
          go_simp
        · refine ⟨_, rfl, ⟨aq, cq, am', cm, ?_, ?_, ?_⟩, HBF.out⟩
          · show _ = Value.agg #[.int .i64 p, .slice aq (tdD ds ds2).length cq, .slice am' (tcM p ds ms ds2 ms2).length cm]
            rw [HLQ.out.1, HLQ.out.2]
          · show Gb w.heap.size WF (.slice aq (tdD ds ds2).length cq) (tdD ds ds2)
            rw [HLQ.out.1]
            exact HLF.out.1
          · show Gt w.heap.size WF (.slice am' (tcM p ds ms ds2 ms2).length cm) (tcM p ds ms ds2 ms2)
            rw [HLQ.out.2]
            exact HLF.out.2
end Go.Proofs.Ythfcadgbipnemaa


namespace Go.Proofs.Ythfcadgbipnemaa
open Go.RowKit

theorem tc_bd {p p2 : Int} {ds : List Int} {ms : List (List (List Int))} {ds2 : List Int} {ms2 : List (List (List Int))} (h : swCode p p2 ds ms ds2 ms2 = 0) : CoB (tcOut p ds ms ds2 ms2) := by
  have hE := prCode_zero (swCode_zero h).1
  have h1 := hE.x.1.len1
  have h2 := hE.y.1.len1
  refine ⟨by show (tdD ds ds2).length ≤ _; rw [tdD_length]; unfold tdL; omega, by show (tcM p ds ms ds2 ms2).length ≤ _; rw [tcM_length]; unfold tdL; omega, fun t ht => ?_⟩
  obtain ⟨n, hn, rfl⟩ := List.mem_map.1 ht
  refine ⟨?_, fun r hr => ?_⟩
  · simp only [tcT, tableOf, List.length_map, List.length_range]
    exact Nat.le_trans (plS_bd hE.x hE.y _ _) (by omega)
  · simp only [tcT, tableOf] at hr
    obtain ⟨j, _, rfl⟩ := List.mem_map.1 hr
    simp only [Bd1, List.length_map, List.length_range]
    rw [td_n hE.x hE.y, Int.toNat_natCast]
    exact Nat.le_trans (plS_bd hE.x hE.y _ _) (by omega)

set_option maxHeartbeats 3200000 in
set_option maxRecDepth 100000 in
theorem tensorComplexes_any (p p2 : Int) (dv mv dv2 mv2 : Value) (ds : List Int) (ms : List (List (List Int))) (ds2 : List Int) (ms2 : List (List (List Int))) (w : World) (h : Cx 0 w dv mv ds ms) (h2 : Cx 0 w dv2 mv2 ds2 ms2) (hd : ds.length ≤ 1048576) (hm : Bd3 1048576 ms) (hd2 : ds2.length ≤ 1048576) (hm2 : Bd3 1048576 ms2) :
    Calls Try.prog 33 #[.agg #[.int .i64 p, dv, mv], .agg #[.int .i64 p2, dv2, mv2]] w (AnsW RwC (fun o => o = tcOut p ds ms ds2 ms2) (0, [], []) (swCode p p2 ds ms ds2 ms2) w) := by
  have hres : Try.f33.results = #[.cell 4 30, .tmp 5] := by kernel_rfl
  have HRES := Lib.hid hres
  obtain ⟨ad, cap, rfl⟩ := Sl.shape h.dims
  obtain ⟨am, capm, rfl⟩ := Sl.shape h.maps
  obtain ⟨ad2, cap2, rfl⟩ := Sl.shape h2.dims
  obtain ⟨am2, capm2, rfl⟩ := Sl.shape h2.maps
  obtain ⟨k1, k2⟩ := bx_two (p := p) (p2 := p2) 30 h h2
  obtain ⟨wa, hwa⟩ : ∃ wa, wa = ((w.alloc (.cells #[.int .i64 p, .slice ad ds.length cap, .slice am ms.length capm] 30)).alloc (.cells #[.int .i64 p2, .slice ad2 ds2.length cap2, .slice am2 ms2.length capm2] 30)) := ⟨_, rfl⟩
  rw [← hwa] at k1 k2
  obtain ⟨w1, hw1⟩ : ∃ w1, w1 = wa.alloc (.cells #[.int .i64 0, .slice none 0 0, .slice none 0 0] 30) := ⟨_, rfl⟩
  have hsa : wa.heap.size = w.heap.size + 2 := by rw [hwa]; simp
  have hs1 : w1.heap.size = w.heap.size + 3 := by rw [hw1]; simp [hsa]
  have hba : Below wa.heap.size wa w1 := by rw [hw1]; exact below_alloc1 _ _
  have HR1 : Hid (Rz w1 (w.heap.size + 2) 30 #[.int .i64 0, .slice none 0 0, .slice none 0 0]) := Lib.hid (by rw [hw1, ← hsa]; exact Rz.new _ _ _)
  have HX0 := Lib.hid (k1.next hba)
  have HY0 := Lib.hid (k2.next hba)
  have HS1 := Lib.hid hs1
  have c0 := HX0.out.c0
  have c1 := HX0.out.c1
  have c2 := HX0.out.c2
  have d0 := HY0.out.c0
  have d1 := HY0.out.c1
  have d2 := HY0.out.c2
  obtain ⟨w2, hw2⟩ : ∃ w2, w2 = w1.alloc (.cells #[.int .i64 p, .slice ad ds.length cap, .slice am ms.length capm, .int .i64 p2, .slice ad2 ds2.length cap2, .slice am2 ms2.length capm2] 30) := ⟨_, rfl⟩
  have hr2 : Row2 w2 w1.heap.size p p2 (.slice ad ds.length cap) (.slice am ms.length capm) (.slice ad2 ds2.length cap2) (.slice am2 ms2.length capm2) := by
    rw [hw2]
    exact ⟨by simp, by simp, by simp, by simp, by simp, by simp⟩
  have hb2 : Below w1.heap.size w1 w2 := by rw [hw2]; exact below_alloc1 _ _
  have HX2 := Lib.hid (HX0.out.next hb2)
  have HY2 := Lib.hid (HY0.out.next hb2)
  have HR2 := Lib.hid (HR1.out.next hb2)
  have HCK := Lib.hid (checkPrimes2_any p p2 w1.heap.size _ _ _ _ ds ms ds2 ms2 w2 hr2 HX2.out.cx HY2.out.cx hd hm hd2 hm2)
  have hs2 := hb2.size
  clear hr2 hb2
  obtain ⟨ec, hec⟩ : ∃ ec, ec = prCode p p2 ds ms ds2 ms2 := ⟨_, rfl⟩
  rw [← hec] at HCK
  have HEC := Lib.hid hec
  clear h h2 hm hm2 k1 k2 hec hba hres hs1
  go_enter Try.func33, Try.ntmps33
  go_upto_region 1 with fail
  rw [← hwa, ← hw1]
  clear hwa hw1 hsa
  go_wp2_with fail
  rw [← hw2]
  clear hw2
  refine HCK.out.mono ?_
  rintro ee w3 ⟨rfl, hb3⟩
  have HX3 := Lib.hid (HX2.out.next hb3)
  have HY3 := Lib.hid (HY2.out.next hb3)
  have HR3 := Lib.hid (HR2.out.next hb3)
  have hs3 : w.heap.size + 3 ≤ w3.heap.size := by have := hb3.size; have := HS1.out; omega
  clear hb3 c0 c1 c2 d0 d1 d2 HX0 HY0 HX2 HY2 HR2 HCK
  have HN3 : Hid (∀ W, Below w3.heap.size w3 W → Bx w W w.heap.size p (.slice ad ds.length cap) (.slice am ms.length capm) ds ms ∧ Bx w W (w.heap.size + 1) p2 (.slice ad2 ds2.length cap2) (.slice am2 ms2.length capm2) ds2 ms2 ∧ Rz W (w.heap.size + 2) 30 #[.int .i64 0, .slice none 0 0, .slice none 0 0]) := Lib.hid (fun W hb => ⟨HX3.out.next hb, HY3.out.next hb, HR3.out.next hb⟩)
  by_cases h0 : ec = 0
  · subst h0
    have HE := Lib.hid (prCode_zero HEC.out.symm)
    obtain rfl := HE.out.prime
    have c0 := (HN3.out _ (Below.refl _ _)).1.c0
    have c1 := (HN3.out _ (Below.refl _ _)).1.c1
    have c2 := (HN3.out _ (Below.refl _ _)).1.c2
    have d0 := (HN3.out _ (Below.refl _ _)).2.1.c0
    have d1 := (HN3.out _ (Below.refl _ _)).2.1.c1
    have d2 := (HN3.out _ (Below.refl _ _)).2.1.c2
    go_wp2_with fail
    refine (tensorExceeds_any p p _ _ _ _ ds ms ds2 ms2 w3 HX3.out.cx HY3.out.cx HE.out.x HE.out.y).mono ?_
    rintro ee w4 ⟨b1, rfl, hb4, hb1⟩
    have HB4 := Lib.hid hb4
    have HB1 := Lib.hid hb1
    clear c0 c1 c2 d0 d1 d2
    clear hb4 hb1
    cases b1
    · have HNE : Hid (¬ Exc (tdD ds ds2)) := Lib.hid (fun hh => by have := HB1.out.2 hh; cases this)
      have c0 := (HN3.out _ HB4.out).1.c0
      have c1 := (HN3.out _ HB4.out).1.c1
      have c2 := (HN3.out _ HB4.out).1.c2
      have d0 := (HN3.out _ HB4.out).2.1.c0
      have d1 := (HN3.out _ HB4.out).2.1.c1
      have d2 := (HN3.out _ HB4.out).2.1.c2
      go_wp2_with fail
      refine (tensorComplex_any p _ _ _ _ ds ms ds2 ms2 w4 (HN3.out _ HB4.out).1.cx (HN3.out _ HB4.out).2.1.cx HE.out.x HE.out.y).mono ?_
      rintro ee w5 ⟨u, rfl, hu, hb5⟩
      have HB5 := Lib.hid (HB4.out.trans (hb5.mono HB4.out.size))
      have hs4 := HB4.out.size
      obtain ⟨ag, cg, an, cn, rfl, hrc⟩ := hu
      have HU := Lib.hid hrc
      obtain ⟨xs, hxs⟩ : ∃ xs, xs = (tcOut p ds ms ds2 ms2).2.1 := ⟨_, rfl⟩
      obtain ⟨ts, hts⟩ : ∃ ts, ts = (tcOut p ds ms ds2 ms2).2.2 := ⟨_, rfl⟩
      obtain ⟨pp, hpp⟩ : ∃ pp, pp = (tcOut p ds ms ds2 ms2).1 := ⟨_, rfl⟩
      rw [← hxs, ← hts] at HU
      rw [← hxs, ← hts, ← hpp]
      have HEQ : Hid ((pp, xs, ts) = tcOut p ds ms ds2 ms2) := Lib.hid (by rw [hpp, hxs, hts])
      clear hxs hts hpp hrc hb5 c0 c1 c2 d0 d1 d2
      have HR1 : ∃ x0 x1 x2, w5.heap[w.heap.size + 2]? = some (.cells #[x0, x1, x2] 30) := ⟨_, _, _, (HN3.out _ HB5.out).2.2⟩
      obtain ⟨x0, x1, x2, hr⟩ := HR1
      have r0 : w5.rowIs (w.heap.size + 2) 30 3 (sel3 x0 x1 x2) := rowIs3 hr
      have q0 : w5.cell? ⟨w.heap.size + 2, 0, none⟩ = some x0 := r0.cell (i := 0) (by omega)
      have z0 : w5.frozen? ⟨w.heap.size + 2, 0, none⟩ = false := r0.frozen 0
      have r1 := r0.set 0 (.int .i64 pp)
      have q1 : (w5.setCell ⟨w.heap.size + 2, 0, none⟩ (.int .i64 pp)).cell? ⟨w.heap.size + 2, 1, none⟩ = some x1 := r1.cell (i := 1) (by omega)
      have z1 : (w5.setCell ⟨w.heap.size + 2, 0, none⟩ (.int .i64 pp)).frozen? ⟨w.heap.size + 2, 1, none⟩ = false := r1.frozen 1
      have r2 := r1.set 1 (.slice ag xs.length cg)
      have q2 : ((w5.setCell ⟨w.heap.size + 2, 0, none⟩ (.int .i64 pp)).setCell ⟨w.heap.size + 2, 1, none⟩ (.slice ag xs.length cg)).cell? ⟨w.heap.size + 2, 2, none⟩ = some x2 := r2.cell (i := 2) (by omega)
      have z2 : ((w5.setCell ⟨w.heap.size + 2, 0, none⟩ (.int .i64 pp)).setCell ⟨w.heap.size + 2, 1, none⟩ (.slice ag xs.length cg)).frozen? ⟨w.heap.size + 2, 2, none⟩ = false := r2.frozen 2
      have r3 := r2.set 2 (.slice an ts.length cn)
      obtain ⟨WF, hWF⟩ : ∃ W : World, W = (((w5.setCell ⟨w.heap.size + 2, 0, none⟩ (.int .i64 pp)).setCell ⟨w.heap.size + 2, 1, none⟩ (.slice ag xs.length cg)).setCell ⟨w.heap.size + 2, 2, none⟩ (.slice an ts.length cn)) := ⟨_, rfl⟩
      have hbWF : ∀ B (w0 : World), B ≤ w.heap.size + 2 → Below B w0 w5 → Below B w0 WF := fun B w0 hl hb => by rw [hWF]; exact (((hb.setCell (by show B ≤ w.heap.size + 2; exact hl) _).setCell (by show B ≤ w.heap.size + 2; exact hl) _).setCell (by show B ≤ w.heap.size + 2; exact hl) _)
      have hsWF : ∀ lo hi, w.heap.size + 2 < lo ∨ hi ≤ w.heap.size + 2 → Same lo hi w5 WF := fun lo hi hl => by rw [hWF]; exact (((Same.set _ hl).trans (Same.set _ hl)).trans (Same.set _ hl))
      have hzWF : WF.heap.size = w5.heap.size := by rw [hWF]; simp
      rw [← hWF] at r3
      have f0 : WF.cell? ⟨w.heap.size + 2, 0, none⟩ = some (.int .i64 pp) := r3.cell (i := 0) (by omega)
      have f1 : WF.cell? ⟨w.heap.size + 2, 1, none⟩ = some (.slice ag xs.length cg) := r3.cell (i := 1) (by omega)
      have f2 : WF.cell? ⟨w.heap.size + 2, 2, none⟩ = some (.slice an ts.length cn) := r3.cell (i := 2) (by omega)
      have HWWF := Lib.hid hWF
      clear hr r0 r1 r2 r3 hWF
      have HBF := Lib.hid (hbWF w.heap.size w (by omega) (HN3.out _ HB5.out).1.below)
      have HUF := Lib.hid ((HU.out.same (hsWF _ _ (Or.inl (by omega)))).wider (show w.heap.size ≤ w4.heap.size by omega) (Nat.le_of_eq hzWF.symm))
      clear hbWF hsWF hzWF
      go_wp2
      rw [← HWWF.out]
      refine bodyPost_ret (v := .tuple #[.agg #[.int .i64 pp, .slice ag xs.length cg, .slice an ts.length cn], .int .i64 0]) ?_ rfl ?_
      · simp only [results, HRES.out]
        go_simp
      · exact ⟨_, (pp, xs, ts), 0, rfl, ⟨ag, cg, an, cn, rfl, HUF.out⟩, HBF.out, RsOut.of_yes (swCode_ok HEC.out.symm HNE.out) HEQ.out⟩
    · have HNV : Hid (Exc (tdD ds ds2)) := Lib.hid (HB1.out.1 rfl)
      have HR1 : ∃ x0 x1 x2, w4.heap[w.heap.size + 2]? = some (.cells #[x0, x1, x2] 30) := ⟨_, _, _, (HN3.out _ HB4.out).2.2⟩
      obtain ⟨x0, x1, x2, hr⟩ := HR1
      have r0 : w4.rowIs (w.heap.size + 2) 30 3 (sel3 x0 x1 x2) := rowIs3 hr
      have q0 : w4.cell? ⟨w.heap.size + 2, 0, none⟩ = some x0 := r0.cell (i := 0) (by omega)
      have z0 : w4.frozen? ⟨w.heap.size + 2, 0, none⟩ = false := r0.frozen 0
      have r1 := r0.set 0 (.int .i64 0)
      have q1 : (w4.setCell ⟨w.heap.size + 2, 0, none⟩ (.int .i64 0)).cell? ⟨w.heap.size + 2, 1, none⟩ = some x1 := r1.cell (i := 1) (by omega)
      have z1 : (w4.setCell ⟨w.heap.size + 2, 0, none⟩ (.int .i64 0)).frozen? ⟨w.heap.size + 2, 1, none⟩ = false := r1.frozen 1
      have r2 := r1.set 1 (.slice none 0 0)
      have q2 : ((w4.setCell ⟨w.heap.size + 2, 0, none⟩ (.int .i64 0)).setCell ⟨w.heap.size + 2, 1, none⟩ (.slice none 0 0)).cell? ⟨w.heap.size + 2, 2, none⟩ = some x2 := r2.cell (i := 2) (by omega)
      have z2 : ((w4.setCell ⟨w.heap.size + 2, 0, none⟩ (.int .i64 0)).setCell ⟨w.heap.size + 2, 1, none⟩ (.slice none 0 0)).frozen? ⟨w.heap.size + 2, 2, none⟩ = false := r2.frozen 2
      have r3 := r2.set 2 (.slice none 0 0)
      obtain ⟨WF, hWF⟩ : ∃ W : World, W = (((w4.setCell ⟨w.heap.size + 2, 0, none⟩ (.int .i64 0)).setCell ⟨w.heap.size + 2, 1, none⟩ (.slice none 0 0)).setCell ⟨w.heap.size + 2, 2, none⟩ (.slice none 0 0)) := ⟨_, rfl⟩
      have hbWF : ∀ B (w0 : World), B ≤ w.heap.size + 2 → Below B w0 w4 → Below B w0 WF := fun B w0 hl hb => by rw [hWF]; exact (((hb.setCell (by show B ≤ w.heap.size + 2; exact hl) _).setCell (by show B ≤ w.heap.size + 2; exact hl) _).setCell (by show B ≤ w.heap.size + 2; exact hl) _)
      have hsWF : ∀ lo hi, w.heap.size + 2 < lo ∨ hi ≤ w.heap.size + 2 → Same lo hi w4 WF := fun lo hi hl => by rw [hWF]; exact (((Same.set _ hl).trans (Same.set _ hl)).trans (Same.set _ hl))
      have hzWF : WF.heap.size = w4.heap.size := by rw [hWF]; simp
      rw [← hWF] at r3
      have f0 : WF.cell? ⟨w.heap.size + 2, 0, none⟩ = some (.int .i64 0) := r3.cell (i := 0) (by omega)
      have f1 : WF.cell? ⟨w.heap.size + 2, 1, none⟩ = some (.slice none 0 0) := r3.cell (i := 1) (by omega)
      have f2 : WF.cell? ⟨w.heap.size + 2, 2, none⟩ = some (.slice none 0 0) := r3.cell (i := 2) (by omega)
      have HWWF := Lib.hid hWF
      clear hr r0 r1 r2 r3 hWF
      have HBF := Lib.hid (hbWF w.heap.size w (by omega) (HN3.out _ HB4.out).1.below)
      clear hsWF hbWF hzWF
      go_wp2
      rw [← HWWF.out]
      refine bodyPost_ret (v := .tuple #[.agg #[.int .i64 0, .slice none 0 0, .slice none 0 0], .int .i64 3]) ?_ rfl ?_
      · simp only [results, HRES.out]
        go_simp
      · refine ⟨_, (0, [], []), 3, rfl, RwC.nil _ _ _, HBF.out, ?_⟩
        rw [show swCode p p ds ms ds2 ms2 = 3 from swCode_three HEC.out.symm HNV.out]
        exact RsOut.of_no (by decide)
  · have hne2 : (ec != 0) = true := by simp [h0]
    have hne3 : (ec == 0) = false := by simp [h0]
    have HNE := Lib.hid h0
    clear h0
    have HR1 : ∃ x0 x1 x2, w3.heap[w.heap.size + 2]? = some (.cells #[x0, x1, x2] 30) := ⟨_, _, _, (HN3.out _ (Below.refl _ _)).2.2⟩
    obtain ⟨x0, x1, x2, hr⟩ := HR1
    have r0 : w3.rowIs (w.heap.size + 2) 30 3 (sel3 x0 x1 x2) := rowIs3 hr
    have q0 : w3.cell? ⟨w.heap.size + 2, 0, none⟩ = some x0 := r0.cell (i := 0) (by omega)
    have z0 : w3.frozen? ⟨w.heap.size + 2, 0, none⟩ = false := r0.frozen 0
    have r1 := r0.set 0 (.int .i64 0)
    have q1 : (w3.setCell ⟨w.heap.size + 2, 0, none⟩ (.int .i64 0)).cell? ⟨w.heap.size + 2, 1, none⟩ = some x1 := r1.cell (i := 1) (by omega)
    have z1 : (w3.setCell ⟨w.heap.size + 2, 0, none⟩ (.int .i64 0)).frozen? ⟨w.heap.size + 2, 1, none⟩ = false := r1.frozen 1
    have r2 := r1.set 1 (.slice none 0 0)
    have q2 : ((w3.setCell ⟨w.heap.size + 2, 0, none⟩ (.int .i64 0)).setCell ⟨w.heap.size + 2, 1, none⟩ (.slice none 0 0)).cell? ⟨w.heap.size + 2, 2, none⟩ = some x2 := r2.cell (i := 2) (by omega)
    have z2 : ((w3.setCell ⟨w.heap.size + 2, 0, none⟩ (.int .i64 0)).setCell ⟨w.heap.size + 2, 1, none⟩ (.slice none 0 0)).frozen? ⟨w.heap.size + 2, 2, none⟩ = false := r2.frozen 2
    have r3 := r2.set 2 (.slice none 0 0)
    obtain ⟨WF, hWF⟩ : ∃ W : World, W = (((w3.setCell ⟨w.heap.size + 2, 0, none⟩ (.int .i64 0)).setCell ⟨w.heap.size + 2, 1, none⟩ (.slice none 0 0)).setCell ⟨w.heap.size + 2, 2, none⟩ (.slice none 0 0)) := ⟨_, rfl⟩
    have hbWF : ∀ B (w0 : World), B ≤ w.heap.size + 2 → Below B w0 w3 → Below B w0 WF := fun B w0 hl hb => by rw [hWF]; exact (((hb.setCell (by show B ≤ w.heap.size + 2; exact hl) _).setCell (by show B ≤ w.heap.size + 2; exact hl) _).setCell (by show B ≤ w.heap.size + 2; exact hl) _)
    have hsWF : ∀ lo hi, w.heap.size + 2 < lo ∨ hi ≤ w.heap.size + 2 → Same lo hi w3 WF := fun lo hi hl => by rw [hWF]; exact (((Same.set _ hl).trans (Same.set _ hl)).trans (Same.set _ hl))
    have hzWF : WF.heap.size = w3.heap.size := by rw [hWF]; simp
    rw [← hWF] at r3
    have f0 : WF.cell? ⟨w.heap.size + 2, 0, none⟩ = some (.int .i64 0) := r3.cell (i := 0) (by omega)
    have f1 : WF.cell? ⟨w.heap.size + 2, 1, none⟩ = some (.slice none 0 0) := r3.cell (i := 1) (by omega)
    have f2 : WF.cell? ⟨w.heap.size + 2, 2, none⟩ = some (.slice none 0 0) := r3.cell (i := 2) (by omega)
    have HWWF := Lib.hid hWF
    clear hr r0 r1 r2 r3 hWF
    have HBF := Lib.hid (hbWF w.heap.size w (by omega) (HN3.out _ (Below.refl _ _)).1.below)
    clear hsWF hbWF hzWF
    go_wp2
    rw [← HWWF.out]
    refine bodyPost_ret (v := .tuple #[.agg #[.int .i64 0, .slice none 0 0, .slice none 0 0], .int .i64 ec]) ?_ rfl ?_
    · simp only [results, HRES.out]
      go_simp
    · refine ⟨_, (0, [], []), ec, rfl, RwC.nil _ _ _, HBF.out, ?_⟩
      rw [show swCode p p2 ds ms ds2 ms2 = ec from by rw [HEC.out]; exact swCode_pr (by rw [← HEC.out]; exact HNE.out)]
      exact RsOut.of_no HNE.out

set_option maxHeartbeats 3200000 in
set_option maxRecDepth 100000 in
theorem spTensorComplexes_any (p p2 : Int) (dv mv dv2 mv2 : Value) (ds : List Int) (ms : List (List (List Int))) (ds2 : List Int) (ms2 : List (List (List Int))) (w : World) (h : Cx 0 w dv mv ds ms) (h2 : Cx 0 w dv2 mv2 ds2 ms2) (hd : ds.length ≤ 1048576) (hm : Bd3 1048576 ms) (hd2 : ds2.length ≤ 1048576) (hm2 : Bd3 1048576 ms2) :
    Calls Try.prog 32 #[.agg #[.int .i64 p, dv, mv], .agg #[.int .i64 p2, dv2, mv2]] w (AnsS (GwC 0) (fun o => o = tcOut p ds ms ds2 ms2) (0, [], []) (swCode p p2 ds ms ds2 ms2) w) := by
  have hres : Try.f32.results = #[.cell 4 30, .tmp 5] := by kernel_rfl
  have HRES := Lib.hid hres
  obtain ⟨ad, cap, rfl⟩ := Sl.shape h.dims
  obtain ⟨am, capm, rfl⟩ := Sl.shape h.maps
  obtain ⟨ad2, cap2, rfl⟩ := Sl.shape h2.dims
  obtain ⟨am2, capm2, rfl⟩ := Sl.shape h2.maps
  obtain ⟨k1, k2⟩ := bx_two (p := p) (p2 := p2) 30 h h2
  obtain ⟨wa, hwa⟩ : ∃ wa, wa = ((w.alloc (.cells #[.int .i64 p, .slice ad ds.length cap, .slice am ms.length capm] 30)).alloc (.cells #[.int .i64 p2, .slice ad2 ds2.length cap2, .slice am2 ms2.length capm2] 30)) := ⟨_, rfl⟩
  rw [← hwa] at k1 k2
  obtain ⟨w1, hw1⟩ : ∃ w1, w1 = wa.alloc (.cells #[.int .i64 0, .slice none 0 0, .slice none 0 0] 30) := ⟨_, rfl⟩
  have hsa : wa.heap.size = w.heap.size + 2 := by rw [hwa]; simp
  have hs1 : w1.heap.size = w.heap.size + 3 := by rw [hw1]; simp [hsa]
  have hba : Below wa.heap.size wa w1 := by rw [hw1]; exact below_alloc1 _ _
  have HR1 : Hid (Rz w1 (w.heap.size + 2) 30 #[.int .i64 0, .slice none 0 0, .slice none 0 0]) := Lib.hid (by rw [hw1, ← hsa]; exact Rz.new _ _ _)
  have HX0 := Lib.hid (k1.next hba)
  have HY0 := Lib.hid (k2.next hba)
  have HS1 := Lib.hid hs1
  have c0 := HX0.out.c0
  have c1 := HX0.out.c1
  have c2 := HX0.out.c2
  have d0 := HY0.out.c0
  have d1 := HY0.out.c1
  have d2 := HY0.out.c2
  have HX2 := Lib.hid HX0.out
  have HY2 := Lib.hid HY0.out
  have HR2 := Lib.hid HR1.out
  have HCK := Lib.hid (l06Two_any p p2 _ _ _ _ ds ms ds2 ms2 w1 HX0.out.cx HY0.out.cx hd hm hd2 hm2)
  obtain ⟨ec, hec⟩ : ∃ ec, ec = prCode p p2 ds ms ds2 ms2 := ⟨_, rfl⟩
  rw [← hec] at HCK
  have HEC := Lib.hid hec
  clear h h2 hm hm2 k1 k2 hec hba hres hs1
  go_enter Try.func32, Try.ntmps32
  go_upto_region 1 with fail
  rw [← hwa, ← hw1]
  clear hwa hw1 hsa
  go_wp2_with fail
  refine HCK.out.mono ?_
  rintro ee w3 ⟨rfl, hb3⟩
  have HX3 := Lib.hid (HX2.out.next hb3)
  have HY3 := Lib.hid (HY2.out.next hb3)
  have HR3 := Lib.hid (HR2.out.next hb3)
  have hs3 : w.heap.size + 3 ≤ w3.heap.size := by have := hb3.size; have := HS1.out; omega
  clear hb3 c0 c1 c2 d0 d1 d2 HX0 HY0 HX2 HY2 HR2 HCK
  have HN3 : Hid (∀ W, Below w3.heap.size w3 W → Bx w W w.heap.size p (.slice ad ds.length cap) (.slice am ms.length capm) ds ms ∧ Bx w W (w.heap.size + 1) p2 (.slice ad2 ds2.length cap2) (.slice am2 ms2.length capm2) ds2 ms2 ∧ Rz W (w.heap.size + 2) 30 #[.int .i64 0, .slice none 0 0, .slice none 0 0]) := Lib.hid (fun W hb => ⟨HX3.out.next hb, HY3.out.next hb, HR3.out.next hb⟩)
  by_cases h0 : ec = 0
  · subst h0
    have HE := Lib.hid (prCode_zero HEC.out.symm)
    obtain rfl := HE.out.prime
    have c0 := (HN3.out _ (Below.refl _ _)).1.c0
    have c1 := (HN3.out _ (Below.refl _ _)).1.c1
    have c2 := (HN3.out _ (Below.refl _ _)).1.c2
    have d0 := (HN3.out _ (Below.refl _ _)).2.1.c0
    have d1 := (HN3.out _ (Below.refl _ _)).2.1.c1
    have d2 := (HN3.out _ (Below.refl _ _)).2.1.c2
    go_wp2_with fail
    refine (l06Dims_any p p _ _ _ _ ds ms ds2 ms2 w3 HX3.out.cx HY3.out.cx HE.out.x HE.out.y).mono ?_
    rintro ee w4 ⟨ud, rfl, hgb, hb4⟩
    obtain ⟨aq, cq, hud⟩ := Sl.shape hgb.l1
    rw [tdD_length] at hud
    subst hud
    have hLd := hgb.l1
    have hl6 := HE.out.x.1.len1
    have hl7 := HE.out.y.1.len1
    have htl : tdL ds ds2 ≤ 11 := by unfold tdL; omega
    clear hgb
    clear c0 c1 c2 d0 d1 d2
    go_wp2_with fail
    refine (l06Fits_any _ (tdD ds ds2) _ hLd (by rw [tdD_length]; omega)).mono ?_
    rintro ee w5 ⟨b1, rfl, hb5, hb1⟩
    have HB4 := Lib.hid (hb4.trans (hb5.mono hb4.size))
    have HB1 := Lib.hid hb1
    clear hb4 hb5 hb1 hLd
    cases b1
    · have HNV : Hid (Exc (tdD ds ds2)) := Lib.hid (Classical.byContradiction (fun hh => by have := HB1.out.2 hh; cases this))
      have HR1 : ∃ x0 x1 x2, w5.heap[w.heap.size + 2]? = some (.cells #[x0, x1, x2] 30) := ⟨_, _, _, (HN3.out _ HB4.out).2.2⟩
      obtain ⟨x0, x1, x2, hr⟩ := HR1
      have r0 : w5.rowIs (w.heap.size + 2) 30 3 (sel3 x0 x1 x2) := rowIs3 hr
      have q0 : w5.cell? ⟨w.heap.size + 2, 0, none⟩ = some x0 := r0.cell (i := 0) (by omega)
      have z0 : w5.frozen? ⟨w.heap.size + 2, 0, none⟩ = false := r0.frozen 0
      have r1 := r0.set 0 (.int .i64 0)
      have q1 : (w5.setCell ⟨w.heap.size + 2, 0, none⟩ (.int .i64 0)).cell? ⟨w.heap.size + 2, 1, none⟩ = some x1 := r1.cell (i := 1) (by omega)
      have z1 : (w5.setCell ⟨w.heap.size + 2, 0, none⟩ (.int .i64 0)).frozen? ⟨w.heap.size + 2, 1, none⟩ = false := r1.frozen 1
      have r2 := r1.set 1 (.slice none 0 0)
      have q2 : ((w5.setCell ⟨w.heap.size + 2, 0, none⟩ (.int .i64 0)).setCell ⟨w.heap.size + 2, 1, none⟩ (.slice none 0 0)).cell? ⟨w.heap.size + 2, 2, none⟩ = some x2 := r2.cell (i := 2) (by omega)
      have z2 : ((w5.setCell ⟨w.heap.size + 2, 0, none⟩ (.int .i64 0)).setCell ⟨w.heap.size + 2, 1, none⟩ (.slice none 0 0)).frozen? ⟨w.heap.size + 2, 2, none⟩ = false := r2.frozen 2
      have r3 := r2.set 2 (.slice none 0 0)
      obtain ⟨WF, hWF⟩ : ∃ W : World, W = (((w5.setCell ⟨w.heap.size + 2, 0, none⟩ (.int .i64 0)).setCell ⟨w.heap.size + 2, 1, none⟩ (.slice none 0 0)).setCell ⟨w.heap.size + 2, 2, none⟩ (.slice none 0 0)) := ⟨_, rfl⟩
      have hbWF : ∀ B (w0 : World), B ≤ w.heap.size + 2 → Below B w0 w5 → Below B w0 WF := fun B w0 hl hb => by rw [hWF]; exact (((hb.setCell (by show B ≤ w.heap.size + 2; exact hl) _).setCell (by show B ≤ w.heap.size + 2; exact hl) _).setCell (by show B ≤ w.heap.size + 2; exact hl) _)
      have hsWF : ∀ lo hi, w.heap.size + 2 < lo ∨ hi ≤ w.heap.size + 2 → Same lo hi w5 WF := fun lo hi hl => by rw [hWF]; exact (((Same.set _ hl).trans (Same.set _ hl)).trans (Same.set _ hl))
      have hzWF : WF.heap.size = w5.heap.size := by rw [hWF]; simp
      rw [← hWF] at r3
      have f0 : WF.cell? ⟨w.heap.size + 2, 0, none⟩ = some (.int .i64 0) := r3.cell (i := 0) (by omega)
      have f1 : WF.cell? ⟨w.heap.size + 2, 1, none⟩ = some (.slice none 0 0) := r3.cell (i := 1) (by omega)
      have f2 : WF.cell? ⟨w.heap.size + 2, 2, none⟩ = some (.slice none 0 0) := r3.cell (i := 2) (by omega)
      have HWWF := Lib.hid hWF
      clear hr r0 r1 r2 r3 hWF
      have HBF := Lib.hid (hbWF w.heap.size w (by omega) (HN3.out _ HB4.out).1.below)
      clear hsWF hbWF hzWF
      go_wp2
      rw [← HWWF.out]
      refine bodyPost_ret (v := .tuple #[.agg #[.int .i64 0, .slice none 0 0, .slice none 0 0], .int .i64 3]) ?_ rfl ?_
      · simp only [results, HRES.out]
        go_simp
      · refine ⟨_, (0, [], []), 3, rfl, GwC.nil _ _, HBF.out, ?_⟩
        rw [show swCode p p ds ms ds2 ms2 = 3 from swCode_three HEC.out.symm HNV.out]
        exact RsOut.of_no (by decide)
    · have HNE : Hid (¬ Exc (tdD ds ds2)) := Lib.hid (HB1.out.1 rfl)
      have c0 := (HN3.out _ HB4.out).1.c0
      have c1 := (HN3.out _ HB4.out).1.c1
      have c2 := (HN3.out _ HB4.out).1.c2
      have d0 := (HN3.out _ HB4.out).2.1.c0
      have d1 := (HN3.out _ HB4.out).2.1.c1
      have d2 := (HN3.out _ HB4.out).2.1.c2
      go_wp2_with fail
      refine (l06Tensor_any p _ _ _ _ ds ms ds2 ms2 w5 (HN3.out _ HB4.out).1.cx (HN3.out _ HB4.out).2.1.cx HE.out.x HE.out.y).mono ?_
      rintro ee w6 ⟨u, rfl, hu, hb6⟩
      have HB5 := Lib.hid (HB4.out.trans (hb6.mono HB4.out.size))
      have hs4 := HB4.out.size
      obtain ⟨ag, cg, an, cn, rfl, hrc⟩ := hu
      have HU := Lib.hid hrc
      obtain ⟨xs, hxs⟩ : ∃ xs, xs = (tcOut p ds ms ds2 ms2).2.1 := ⟨_, rfl⟩
      obtain ⟨ts, hts⟩ : ∃ ts, ts = (tcOut p ds ms ds2 ms2).2.2 := ⟨_, rfl⟩
      obtain ⟨pp, hpp⟩ : ∃ pp, pp = (tcOut p ds ms ds2 ms2).1 := ⟨_, rfl⟩
      rw [← hxs, ← hts] at HU
      rw [← hxs, ← hts, ← hpp]
      have HEQ : Hid ((pp, xs, ts) = tcOut p ds ms ds2 ms2) := Lib.hid (by rw [hpp, hxs, hts])
      clear hxs hts hpp hrc hb6 c0 c1 c2 d0 d1 d2
      have r0 := rowIs3 (HN3.out _ HB5.out).2.2
      have D1 := HU.out.1.off r0 coT.1 0 (.int .i64 pp)
      have M1 := HU.out.2.off r0 coT 0 (.int .i64 pp)
      have r1 := r0.set 0 (.int .i64 pp)
      have D2 := D1.off r1 coT.1 1 (.slice ag xs.length cg)
      have M2 := M1.off r1 coT 1 (.slice ag xs.length cg)
      have r2 := r1.set 1 (.slice ag xs.length cg)
      have D3 := D2.off r2 coT.1 2 (.slice an ts.length cn)
      have M3 := M2.off r2 coT 2 (.slice an ts.length cn)
      have HL3 := Lib.hid (And.intro (D3.mono (Nat.zero_le _)) (M3.lower (Nat.zero_le _)))
      clear r0 r1 r2 D1 D2 D3 M1 M2 M3
      have HR1 : ∃ x0 x1 x2, w6.heap[w.heap.size + 2]? = some (.cells #[x0, x1, x2] 30) := ⟨_, _, _, (HN3.out _ HB5.out).2.2⟩
      obtain ⟨x0, x1, x2, hr⟩ := HR1
      have r0 : w6.rowIs (w.heap.size + 2) 30 3 (sel3 x0 x1 x2) := rowIs3 hr
      have q0 : w6.cell? ⟨w.heap.size + 2, 0, none⟩ = some x0 := r0.cell (i := 0) (by omega)
      have z0 : w6.frozen? ⟨w.heap.size + 2, 0, none⟩ = false := r0.frozen 0
      have r1 := r0.set 0 (.int .i64 pp)
      have q1 : (w6.setCell ⟨w.heap.size + 2, 0, none⟩ (.int .i64 pp)).cell? ⟨w.heap.size + 2, 1, none⟩ = some x1 := r1.cell (i := 1) (by omega)
      have z1 : (w6.setCell ⟨w.heap.size + 2, 0, none⟩ (.int .i64 pp)).frozen? ⟨w.heap.size + 2, 1, none⟩ = false := r1.frozen 1
      have r2 := r1.set 1 (.slice ag xs.length cg)
      have q2 : ((w6.setCell ⟨w.heap.size + 2, 0, none⟩ (.int .i64 pp)).setCell ⟨w.heap.size + 2, 1, none⟩ (.slice ag xs.length cg)).cell? ⟨w.heap.size + 2, 2, none⟩ = some x2 := r2.cell (i := 2) (by omega)
      have z2 : ((w6.setCell ⟨w.heap.size + 2, 0, none⟩ (.int .i64 pp)).setCell ⟨w.heap.size + 2, 1, none⟩ (.slice ag xs.length cg)).frozen? ⟨w.heap.size + 2, 2, none⟩ = false := r2.frozen 2
      have r3 := r2.set 2 (.slice an ts.length cn)
      obtain ⟨WF, hWF⟩ : ∃ W : World, W = (((w6.setCell ⟨w.heap.size + 2, 0, none⟩ (.int .i64 pp)).setCell ⟨w.heap.size + 2, 1, none⟩ (.slice ag xs.length cg)).setCell ⟨w.heap.size + 2, 2, none⟩ (.slice an ts.length cn)) := ⟨_, rfl⟩
      have hbWF : ∀ B (w0 : World), B ≤ w.heap.size + 2 → Below B w0 w6 → Below B w0 WF := fun B w0 hl hb => by rw [hWF]; exact (((hb.setCell (by show B ≤ w.heap.size + 2; exact hl) _).setCell (by show B ≤ w.heap.size + 2; exact hl) _).setCell (by show B ≤ w.heap.size + 2; exact hl) _)
      have hsWF : ∀ lo hi, w.heap.size + 2 < lo ∨ hi ≤ w.heap.size + 2 → Same lo hi w6 WF := fun lo hi hl => by rw [hWF]; exact (((Same.set _ hl).trans (Same.set _ hl)).trans (Same.set _ hl))
      have hzWF : WF.heap.size = w6.heap.size := by rw [hWF]; simp
      rw [← hWF] at r3
      have f0 : WF.cell? ⟨w.heap.size + 2, 0, none⟩ = some (.int .i64 pp) := r3.cell (i := 0) (by omega)
      have f1 : WF.cell? ⟨w.heap.size + 2, 1, none⟩ = some (.slice ag xs.length cg) := r3.cell (i := 1) (by omega)
      have f2 : WF.cell? ⟨w.heap.size + 2, 2, none⟩ = some (.slice an ts.length cn) := r3.cell (i := 2) (by omega)
      have HWWF := Lib.hid hWF
      clear hr r0 r1 r2 r3 hWF
      have HBF := Lib.hid (hbWF w.heap.size w (by omega) (HN3.out _ HB5.out).1.below)
      have HLF : Hid (Gb 0 WF (.slice ag xs.length cg) xs ∧ Gt 0 WF (.slice an ts.length cn) ts) := Lib.hid (by rw [HWWF.out]; exact HL3.out)
      clear hbWF hsWF hzWF
      go_wp2
      rw [← HWWF.out]
      refine bodyPost_ret (v := .tuple #[.agg #[.int .i64 pp, .slice ag xs.length cg, .slice an ts.length cn], .int .i64 0]) ?_ rfl ?_
      · simp only [results, HRES.out]
        go_simp
      · exact ⟨_, (pp, xs, ts), 0, rfl, ⟨ag, cg, an, cn, rfl, HLF.out.1, HLF.out.2⟩, HBF.out, RsOut.of_yes (swCode_ok HEC.out.symm HNE.out) HEQ.out⟩
  · have hne2 : (ec != 0) = true := by simp [h0]
    have hne3 : (ec == 0) = false := by simp [h0]
    have HNE := Lib.hid h0
    clear h0
    have HR1 : ∃ x0 x1 x2, w3.heap[w.heap.size + 2]? = some (.cells #[x0, x1, x2] 30) := ⟨_, _, _, (HN3.out _ (Below.refl _ _)).2.2⟩
    obtain ⟨x0, x1, x2, hr⟩ := HR1
    have r0 : w3.rowIs (w.heap.size + 2) 30 3 (sel3 x0 x1 x2) := rowIs3 hr
    have q0 : w3.cell? ⟨w.heap.size + 2, 0, none⟩ = some x0 := r0.cell (i := 0) (by omega)
    have z0 : w3.frozen? ⟨w.heap.size + 2, 0, none⟩ = false := r0.frozen 0
    have r1 := r0.set 0 (.int .i64 0)
    have q1 : (w3.setCell ⟨w.heap.size + 2, 0, none⟩ (.int .i64 0)).cell? ⟨w.heap.size + 2, 1, none⟩ = some x1 := r1.cell (i := 1) (by omega)
    have z1 : (w3.setCell ⟨w.heap.size + 2, 0, none⟩ (.int .i64 0)).frozen? ⟨w.heap.size + 2, 1, none⟩ = false := r1.frozen 1
    have r2 := r1.set 1 (.slice none 0 0)
    have q2 : ((w3.setCell ⟨w.heap.size + 2, 0, none⟩ (.int .i64 0)).setCell ⟨w.heap.size + 2, 1, none⟩ (.slice none 0 0)).cell? ⟨w.heap.size + 2, 2, none⟩ = some x2 := r2.cell (i := 2) (by omega)
    have z2 : ((w3.setCell ⟨w.heap.size + 2, 0, none⟩ (.int .i64 0)).setCell ⟨w.heap.size + 2, 1, none⟩ (.slice none 0 0)).frozen? ⟨w.heap.size + 2, 2, none⟩ = false := r2.frozen 2
    have r3 := r2.set 2 (.slice none 0 0)
    obtain ⟨WF, hWF⟩ : ∃ W : World, W = (((w3.setCell ⟨w.heap.size + 2, 0, none⟩ (.int .i64 0)).setCell ⟨w.heap.size + 2, 1, none⟩ (.slice none 0 0)).setCell ⟨w.heap.size + 2, 2, none⟩ (.slice none 0 0)) := ⟨_, rfl⟩
    have hbWF : ∀ B (w0 : World), B ≤ w.heap.size + 2 → Below B w0 w3 → Below B w0 WF := fun B w0 hl hb => by rw [hWF]; exact (((hb.setCell (by show B ≤ w.heap.size + 2; exact hl) _).setCell (by show B ≤ w.heap.size + 2; exact hl) _).setCell (by show B ≤ w.heap.size + 2; exact hl) _)
    have hsWF : ∀ lo hi, w.heap.size + 2 < lo ∨ hi ≤ w.heap.size + 2 → Same lo hi w3 WF := fun lo hi hl => by rw [hWF]; exact (((Same.set _ hl).trans (Same.set _ hl)).trans (Same.set _ hl))
    have hzWF : WF.heap.size = w3.heap.size := by rw [hWF]; simp
    rw [← hWF] at r3
    have f0 : WF.cell? ⟨w.heap.size + 2, 0, none⟩ = some (.int .i64 0) := r3.cell (i := 0) (by omega)
    have f1 : WF.cell? ⟨w.heap.size + 2, 1, none⟩ = some (.slice none 0 0) := r3.cell (i := 1) (by omega)
    have f2 : WF.cell? ⟨w.heap.size + 2, 2, none⟩ = some (.slice none 0 0) := r3.cell (i := 2) (by omega)
    have HWWF := Lib.hid hWF
    clear hr r0 r1 r2 r3 hWF
    have HBF := Lib.hid (hbWF w.heap.size w (by omega) (HN3.out _ (Below.refl _ _)).1.below)
    clear hsWF hbWF hzWF
    go_wp2
    rw [← HWWF.out]
    refine bodyPost_ret (v := .tuple #[.agg #[.int .i64 0, .slice none 0 0, .slice none 0 0], .int .i64 ec]) ?_ rfl ?_
    · simp only [results, HRES.out]
      go_simp
    · refine ⟨_, (0, [], []), ec, rfl, GwC.nil _ _, HBF.out, ?_⟩
      rw [show swCode p p2 ds ms ds2 ms2 = ec from by rw [HEC.out]; exact swCode_pr (by rw [← HEC.out]; exact HNE.out)]
      exact RsOut.of_no HNE.out
end Go.Proofs.Ythfcadgbipnemaa


namespace Go.Proofs.Ythfcadgbipnemaa
open Go.RowKit

set_option maxHeartbeats 400000 in
theorem sz1_any {lo : Nat} (v : Value) (xs : List Int) (left : Int) (w : World) (h : L1 lo w v xs) (h0 : 0 ≤ left) (h1 : left ≤ 1048576) (hm : xs.length ≤ 9223372036854775807) :
    Calls Try.prog 65 #[v, .int .i64 left] w (SzR left (Bd1 1048576 xs) w) := by
  obtain ⟨ad, cap, rfl⟩ := Sl.shape h
  by_cases hlt : left - xs.length < 0
  · go_enter Try.func65, Try.ntmps65
    go_wp2
    go_ret
    exact ⟨_, rfl, rfl, Or.inl rfl⟩
  · go_enter Try.func65, Try.ntmps65
    go_wp2
    go_ret
    exact ⟨_, rfl, rfl, Or.inr ⟨by omega, by omega, by unfold Bd1; omega⟩⟩

set_option maxHeartbeats 400000 in
theorem sz2_any {lo : Nat} (v : Value) (xs : List (List Int)) (left : Int) (w : World) (h : L2 lo w v xs) (h0 : 0 ≤ left) (h1 : left ≤ 1048576) (hm : Bd2 9223372036854775807 xs) :
    Calls Try.prog 85 #[v, .int .i64 left] w (SzR left (Bd2 1048576 xs) w) := by
  have hm0 : xs.length ≤ 9223372036854775807 := hm.1
  refine Sl.cases h (fun ad cap hx hv => ?_) (fun b o cap hv _ hpos hc => ?_)
  · subst hx hv
    go_enter Try.func85, Try.ntmps85
    go_wp2
    refine wp_loop_rounds 1 ?_
    rw [rounds_succ]
    go_wp2
    go_ret
    exact ⟨_, rfl, rfl, Or.inr ⟨by omega, by omega, by simp [Bd2]⟩⟩
  · subst hv
    clear h
    by_cases hlt : left - xs.length < 0
    · go_enter Try.func85, Try.ntmps85
      go_wp2
      go_ret
      exact ⟨_, rfl, rfl, Or.inl rfl⟩
    · have HM := Lib.hid hm
      have HC := Lib.hid hc
      clear hm hc
      go_enter Try.func85, Try.ntmps85
      go_wp2
      go_loop [1, 5] (fun l i => ∃ (k : Nat) (r : Int), k ≤ xs.length ∧ i = .int .i64 k ∧ l = .int .i64 r ∧ 0 ≤ r ∧ r ≤ left ∧ Hid (∀ j (hj : j < xs.length), j < k → Bd1 1048576 xs[j])) (fun _ i => xs.length - (intOf i).toNat)
      case atStart => exact ⟨0, _, Nat.zero_le _, rfl, rfl, by omega, by omega, Lib.hid (fun _ _ h => absurd h (Nat.not_lt_zero _))⟩
      case round =>
        obtain ⟨k, r, hk, rfl, rfl, hr0, hr1, HD⟩ := hrel
        by_cases hlt2 : k < xs.length
        · obtain ⟨u, hu, hr⟩ := HC.out k hlt2
          have hmu : (xs[k]).length ≤ 9223372036854775807 := HM.out.2 _ (List.getElem_mem hlt2)
          go_wp2_with fail
          refine (sz1_any u xs[k] r _ hr hr0 (by omega) hmu).mono ?_
          rintro e w' ⟨r2, rfl, rfl, hpost⟩
          rcases hpost with rfl | ⟨hp0, hp1, hp2⟩
          · go_wp2
            go_ret
            exact ⟨_, rfl, rfl, Or.inl rfl⟩
          · go_wp2
            go_round
            case rel => exact ⟨k + 1, r2, by omega, by go_num, rfl, hp0, by omega, Lib.hid (fun j hj hjk => by
              by_cases e : j = k
              · subst e; exact hp2
              · exact HD.out j hj (by omega))⟩
            case measure => simp [intOf]; omega
        · go_wp2
          go_ret
          exact ⟨_, rfl, rfl, Or.inr ⟨hr0, hr1, by omega, fun x hx => by
            obtain ⟨j, hj, rfl⟩ := List.getElem_of_mem hx
            exact HD.out j hj (by omega)⟩⟩
set_option maxHeartbeats 400000 in
theorem sz3_any {lo : Nat} (v : Value) (xs : List (List (List Int))) (left : Int) (w : World) (h : L3 lo w v xs) (h0 : 0 ≤ left) (h1 : left ≤ 1048576) (hm : Bd3 9223372036854775807 xs) :
    Calls Try.prog 36 #[v, .int .i64 left] w (SzR left (Bd3 1048576 xs) w) := by
  have hm0 : xs.length ≤ 9223372036854775807 := hm.1
  refine Sl.cases h (fun ad cap hx hv => ?_) (fun b o cap hv _ hpos hc => ?_)
  · subst hx hv
    go_enter Try.func36, Try.ntmps36
    go_wp2
    refine wp_loop_rounds 1 ?_
    rw [rounds_succ]
    go_wp2
    go_ret
    exact ⟨_, rfl, rfl, Or.inr ⟨by omega, by omega, by simp [Bd3]⟩⟩
  · subst hv
    clear h
    by_cases hlt : left - xs.length < 0
    · go_enter Try.func36, Try.ntmps36
      go_wp2
      go_ret
      exact ⟨_, rfl, rfl, Or.inl rfl⟩
    · have HM := Lib.hid hm
      have HC := Lib.hid hc
      clear hm hc
      go_enter Try.func36, Try.ntmps36
      go_wp2
      go_loop [1, 5] (fun l i => ∃ (k : Nat) (r : Int), k ≤ xs.length ∧ i = .int .i64 k ∧ l = .int .i64 r ∧ 0 ≤ r ∧ r ≤ left ∧ Hid (∀ j (hj : j < xs.length), j < k → Bd2 1048576 xs[j])) (fun _ i => xs.length - (intOf i).toNat)
      case atStart => exact ⟨0, _, Nat.zero_le _, rfl, rfl, by omega, by omega, Lib.hid (fun _ _ h => absurd h (Nat.not_lt_zero _))⟩
      case round =>
        obtain ⟨k, r, hk, rfl, rfl, hr0, hr1, HD⟩ := hrel
        by_cases hlt2 : k < xs.length
        · obtain ⟨u, hu, hr⟩ := HC.out k hlt2
          have hmu : Bd2 9223372036854775807 xs[k] := HM.out.2 _ (List.getElem_mem hlt2)
          go_wp2_with fail
          refine (sz2_any u xs[k] r _ hr hr0 (by omega) hmu).mono ?_
          rintro e w' ⟨r2, rfl, rfl, hpost⟩
          rcases hpost with rfl | ⟨hp0, hp1, hp2⟩
          · go_wp2
            go_ret
            exact ⟨_, rfl, rfl, Or.inl rfl⟩
          · go_wp2
            go_round
            case rel => exact ⟨k + 1, r2, by omega, by go_num, rfl, hp0, by omega, Lib.hid (fun j hj hjk => by
              by_cases e : j = k
              · subst e; exact hp2
              · exact HD.out j hj (by omega))⟩
            case measure => simp [intOf]; omega
        · go_wp2
          go_ret
          exact ⟨_, rfl, rfl, Or.inr ⟨hr0, hr1, by omega, fun x hx => by
            obtain ⟨j, hj, rfl⟩ := List.getElem_of_mem hx
            exact HD.out j hj (by omega)⟩⟩

theorem L1.kept {lo : Nat} {w w' : World} {v : Value} {xs : List Int} (h : L1 lo w v xs) (hb : Below w.heap.size w w') : L1 lo w' v xs := h.below hb

set_option maxHeartbeats 400000 in
theorem szComplex_any (p : Int) (dv mv : Value) (ds : List Int) (ms : List (List (List Int))) (left : Int) (w : World) (hd : L1 0 w dv ds) (hm : L3 0 w mv ms) (h0 : 0 ≤ left) (h1 : left ≤ 1048576)
    (hdl : ds.length ≤ 9223372036854775807) (hml : Bd3 9223372036854775807 ms) :
    Calls Try.prog 15 #[.agg #[.int .i64 p, dv, mv], .int .i64 left] w (SzB left (Bd1 1048576 ds ∧ Bd3 1048576 ms) w) := by
  have HML := Lib.hid hml
  have HD := Lib.hid hd
  have HM := Lib.hid hm
  clear hml hd hm
  go_enter Try.func15, Try.ntmps15
  go_wp2_with fail
  have hb1 : Below w.heap.size w (w.alloc (.cells #[.int .i64 p, dv, mv] 25)) := (Below.refl _ _).alloc (Nat.le_refl _) _
  refine (sz1_any (lo := 0) dv ds left _ (HD.out.below hb1) h0 h1 hdl).mono ?_
  rintro e w' ⟨r, rfl, rfl, hpost⟩
  rcases hpost with rfl | ⟨hp0, hp1, hp2⟩
  · go_wp2
    go_ret
    exact ⟨_, rfl, hb1, Or.inl rfl⟩
  · go_wp2_with fail
    refine (sz3_any (lo := 0) mv ms r _ (HM.out.below hb1) hp0 (by omega) HML.out).mono ?_
    rintro e w' ⟨r2, rfl, rfl, hpost⟩
    rcases hpost with rfl | ⟨hq0, hq1, hq2⟩
    · go_wp2
      go_ret
      exact ⟨_, rfl, hb1, Or.inl rfl⟩
    · go_wp2
      go_ret
      exact ⟨_, rfl, hb1, Or.inr ⟨hq0, by omega, hp2, hq2⟩⟩
end Go.Proofs.Ythfcadgbipnemaa

namespace Go.Proofs.Ythfcadgbipnemaa
open Go.RowKit

structure Fi (lo : Nat) (w : World) (dv mv lv : Value) (ds : List Int) (ms : List (List (List Int))) (ls : List (List Int)) : Prop where
  cx : Cx lo w dv mv ds ms
  lv : L2 lo w lv ls
theorem Fi.below {lo : Nat} {w w' : World} {dv mv lv : Value} {ds : List Int} {ms : List (List (List Int))} {ls : List (List Int)} (h : Fi lo w dv mv lv ds ms ls) (hb : Below w.heap.size w w') : Fi lo w' dv mv lv ds ms ls := ⟨h.cx.below hb, h.lv.below hb⟩
theorem Fi.zero {lo : Nat} {w : World} {dv mv lv : Value} {ds : List Int} {ms : List (List (List Int))} {ls : List (List Int)} (h : Fi lo w dv mv lv ds ms ls) : Fi 0 w dv mv lv ds ms ls := ⟨h.cx.zero, h.lv.lower (Nat.zero_le _)⟩
theorem Fi.drew {lo : Nat} {w : World} {dv mv lv : Value} {ds : List Int} {ms : List (List (List Int))} {ls : List (List Int)} (h : Fi lo w dv mv lv ds ms ls) : Fi lo w.drew dv mv lv ds ms ls := h.below (Below.refl _ _).drew
theorem Fi.shapes {lo : Nat} {w : World} {dv mv lv : Value} {ds : List Int} {ms : List (List (List Int))} {ls : List (List Int)} (h : Fi lo w dv mv lv ds ms ls) : (∃ a c, dv = .slice a ds.length c) ∧ (∃ a c, mv = .slice a ms.length c) ∧ ∃ a c, lv = .slice a ls.length c := ⟨h.cx.shapes.1, h.cx.shapes.2, Sl.shape h.lv⟩

/-- What stands in the box of a filtered complex, in whatever later world. -/
structure Fx (w wr : World) (b : Nat) (p : Int) (dv mv lv : Value) (ds : List Int) (ms : List (List (List Int))) (ls : List (List Int)) : Prop where
  below : Below w.heap.size w wr
  c0 : wr.cell? ⟨b, 0, none⟩ = some (.int .i64 p)
  c1 : wr.cell? ⟨b, 1, none⟩ = some dv
  c2 : wr.cell? ⟨b, 2, none⟩ = some mv
  c3 : wr.cell? ⟨b, 3, none⟩ = some lv
  lt : b < wr.heap.size
  fi : Fi 0 wr dv mv lv ds ms ls
theorem Fx.next {w wr w' : World} {b : Nat} {p : Int} {dv mv lv : Value} {ds : List Int} {ms : List (List (List Int))} {ls : List (List Int)} (h : Fx w wr b p dv mv lv ds ms ls) (hb : Below wr.heap.size wr w') : Fx w w' b p dv mv lv ds ms ls :=
  ⟨h.below.trans (hb.mono h.below.size), later hb (Nat.le_refl _) h.c0, later hb (Nat.le_refl _) h.c1, later hb (Nat.le_refl _) h.c2, later hb (Nat.le_refl _) h.c3, Nat.lt_of_lt_of_le h.lt hb.size, h.fi.below hb⟩
theorem Fx.start {w : World} {p : Int} {dv mv lv : Value} {ds : List Int} {ms : List (List (List Int))} {ls : List (List Int)} (t : TypeId) (h : Fi 0 w dv mv lv ds ms ls) : Fx w (w.alloc (.cells #[.int .i64 p, dv, mv, lv] t)) w.heap.size p dv mv lv ds ms ls :=
  ⟨(Below.refl _ _).alloc (Nat.le_refl _) _, by simp, by simp, by simp, by simp, by simp, h.below ((Below.refl _ _).alloc (Nat.le_refl _) _)⟩

end Go.Proofs.Ythfcadgbipnemaa

namespace Go.Proofs.Ythfcadgbipnemaa
open Go.RowKit

end Go.Proofs.Ythfcadgbipnemaa

namespace Go.Proofs.Ythfcadgbipnemaa
open Go.RowKit

theorem Fx.all {w wr : World} {b : Nat} {p : Int} {dv mv lv : Value} {ds : List Int} {ms : List (List (List Int))} {ls : List (List Int)} (h : Hid (Fx w wr b p dv mv lv ds ms ls)) :
    wr.cell? ⟨b, 0, none⟩ = some (.int .i64 p) ∧ wr.cell? ⟨b, 1, none⟩ = some dv ∧ wr.cell? ⟨b, 2, none⟩ = some mv ∧ wr.cell? ⟨b, 3, none⟩ = some lv ∧ Hid (Fx w wr b p dv mv lv ds ms ls) := ⟨h.out.c0, h.out.c1, h.out.c2, h.out.c3, h⟩

end Go.Proofs.Ythfcadgbipnemaa

namespace Go.Proofs.Ythfcadgbipnemaa
open Go.RowKit

end Go.Proofs.Ythfcadgbipnemaa

namespace Go.Proofs.Ythfcadgbipnemaa
open Go.RowKit

theorem CxW.wider {lo hi lo' hi' : Nat} {w : World} {dv mv : Value} {ds : List Int} {ms : List (List (List Int))} (hl : lo' ≤ lo) (hh : hi ≤ hi') (h : CxW lo hi w dv mv ds ms) : CxW lo' hi' w dv mv ds ms := ⟨h.dims.wider hl hh, h.maps.wider hl hh⟩
structure FiW (lo hi : Nat) (w : World) (dv mv lv : Value) (ds : List Int) (ms : List (List (List Int))) (ls : List (List Int)) : Prop where
  cx : CxW lo hi w dv mv ds ms
  lv : W2 lo hi w lv ls
theorem FiW.same {lo hi : Nat} {w w' : World} {dv mv lv : Value} {ds : List Int} {ms : List (List (List Int))} {ls : List (List Int)} (h : FiW lo hi w dv mv lv ds ms ls) (hs : Same lo hi w w') : FiW lo hi w' dv mv lv ds ms ls := ⟨h.cx.same hs, h.lv.same hs⟩
theorem FiW.fi {lo hi : Nat} {w : World} {dv mv lv : Value} {ds : List Int} {ms : List (List (List Int))} {ls : List (List Int)} (h : FiW lo hi w dv mv lv ds ms ls) : Fi lo w dv mv lv ds ms ls := ⟨h.cx.cx, h.lv.l2⟩
theorem CxT.tame {lo hi : Nat} {w w' : World} {dv mv : Value} {ds : List Int} {ms : List (List (List Int))} (h : CxT lo hi w dv mv ds ms) (ht : Tame w w') : CxT lo hi w' dv mv ds ms := ⟨h.dims.tame ht, h.maps.tame ht⟩

end Go.Proofs.Ythfcadgbipnemaa


namespace Go.Proofs.Ythfcadgbipnemaa
open Go.ChangeShapes Go.WideShapes Go.ChangeAt Go.RowKit Go.Deep

theorem Try.own : ownKnob Try.prog.godebug = none := by kernel_rfl
theorem Try.laidOut : laidOutB Try.prog = true := by kernel_rfl
theorem Try.cellsI : Try.prog.cellsOf 2 = 1 := by kernel_rfl
theorem Try.cellsS : Try.prog.cellsOf 22 = 1 := by kernel_rfl
theorem Try.cellsSS : Try.prog.cellsOf 27 = 1 := by kernel_rfl
theorem Try.cellsC : Try.prog.cellsOf 25 = 3 := by kernel_rfl

section
variable {H : Type} {enc : TypeId × Value → H} {P : Program} {w : World} {base : Nat} {held : Bool}

theorem sl_of_trod {α : Type} [Inhabited α] {t e : TypeId} (ht : P.underlying t = some (.slice e)) (hc : P.cellsOf e = 1) {R : World → Value → α → Prop} {B : α → Prop}
    (hR : ∀ fuel v x, DataW.trod enc P w base (fun _ => true) held fuel e [v] = some x → ∃ a, R w v a ∧ B a) {fuel : Nat} {v : Value} {x : DataW H × List MemPlace}
    (h : DataW.trod enc P w base (fun _ => true) held fuel t [v] = some x) : ∃ xs : List α, Sl 0 R w v xs ∧ xs.length ≤ 9223372036854775807 ∧ ∀ a ∈ xs, B a := by
  rcases open_slice1 ht hc h with ⟨hcs, _⟩ | ⟨a, len, cap, m, n, V, D, Pl, hcs, _, hl, hm, hmm, _, hx⟩
  · obtain rfl : v = .slice none 0 0 := by simpa using hcs
    exact ⟨[], Or.inl ⟨rfl, _, _, rfl⟩, by simp, by simp⟩
  · obtain rfl : v = .slice (some a) len cap := by simpa using hcs
    simp only [if_true] at hmm
    have each : ∀ i, i < len → ∃ y : α, R w (V i) y ∧ B y := fun i hi => hR n _ _ (hx i (by omega)).2
    obtain ⟨f, hf⟩ := choose_lt each
    refine ⟨(List.range len).map f, ?_, by simpa [maxLen] using Nat.le_trans hl hm, fun y hy => ?_⟩
    · by_cases h0 : len = 0
      · subst h0
        exact Or.inl ⟨rfl, _, _, rfl⟩
      · obtain ⟨b, off, spot⟩ := a
        have hspot : spot = none := by simpa [Addr.add] using World.cell?_spot (hx 0 (by omega)).1
        subst hspot
        refine Or.inr ⟨b, off, cap, by simp, Nat.zero_le _, by simp; omega, fun k hk => ?_⟩
        have hk' : k < len := by simpa using hk
        refine ⟨V k, by rw [← Go.WideShapes.add_plain]; exact (hx k (by omega)).1, ?_⟩
        simp only [List.getElem_map, List.getElem_range]
        exact (hf k hk').1
    · obtain ⟨i, hi, rfl⟩ := List.mem_map.1 hy
      exact (hf i (by simpa using hi)).2
end

section
variable {H : Type} {enc : TypeId × Value → H} {w : World} {base : Nat} {held : Bool}
theorem l1_of_trod {fuel : Nat} {v : Value} {x : DataW H × List MemPlace} (h : DataW.trod enc Try.prog w base (fun _ => true) held fuel 22 [v] = some x) : ∃ xs, L1 0 w v xs ∧ Bd1 9223372036854775807 xs := by
  obtain ⟨xs, h1, h2, _⟩ := sl_of_trod (R := IsI) (B := fun _ => True) Try.underlying22 Try.cellsI (fun fuel v x hh => by
    obtain ⟨a, e0, _, _⟩ := DataW.trod_int Try.underlying2 hh
    exact ⟨a, by simpa [IsI] using e0, trivial⟩) h
  exact ⟨xs, h1, h2⟩
theorem l2_of_trod {fuel : Nat} {v : Value} {x : DataW H × List MemPlace} (h : DataW.trod enc Try.prog w base (fun _ => true) held fuel 27 [v] = some x) : ∃ xs, L2 0 w v xs ∧ Bd2 9223372036854775807 xs := by
  obtain ⟨xs, h1, h2, h3⟩ := sl_of_trod (R := L1 0) (B := Bd1 9223372036854775807) Try.underlying27 Try.cellsS (fun fuel v x hh => l1_of_trod hh) h
  exact ⟨xs, h1, h2, h3⟩
theorem l3_of_trod {fuel : Nat} {v : Value} {x : DataW H × List MemPlace} (h : DataW.trod enc Try.prog w base (fun _ => true) held fuel 23 [v] = some x) : ∃ xs, L3 0 w v xs ∧ Bd3 9223372036854775807 xs := by
  obtain ⟨xs, h1, h2, h3⟩ := sl_of_trod (R := L2 0) (B := Bd2 9223372036854775807) Try.underlying23 Try.cellsSS (fun fuel v x hh => l2_of_trod hh) h
  exact ⟨xs, h1, h2, h3⟩

set_option maxRecDepth 100000 in
theorem complex_of_trod {r : Reach} {b0 : Nat} {v : Value} {d : DataW H} {p : List MemPlace} (hv : Value.okWide Try.prog w r b0 25 v) (h : DataW.Trod enc Try.prog w base (fun _ => true) held 25 v d p) :
    ∃ (q : Int) (dv mv : Value) (ds : List Int) (ms : List (List (List Int))), v = .agg #[.int .i64 q, dv, mv] ∧ Cx 0 w dv mv ds ms ∧ ds.length ≤ 9223372036854775807 ∧ Bd3 9223372036854775807 ms := by
  obtain ⟨v0, v1, v2, y0, y1, y2, m, rfl, rfl, rfl, h0, h1, h2⟩ := Go.Joins.open_agg3 Try.underlying25 (by kernel_rfl) Try.cellsC hv h
  obtain ⟨q, e0, _, _⟩ := DataW.trod_int Try.underlying2 h0
  obtain ⟨ds, hd1, hd2⟩ := l1_of_trod h1
  obtain ⟨ms, hm1, hm2⟩ := l3_of_trod h2
  obtain rfl : v0 = .int .i64 q := by simpa using e0
  unfold Bd1 at hd2
  refine ⟨q, v1, v2, ds, ms, rfl, ⟨hd1, hm1⟩, ?_, ?_⟩
  · exact hd2
  · exact hm2
end
end Go.Proofs.Ythfcadgbipnemaa

namespace Go.Proofs.Ythfcadgbipnemaa

section
variable {P : Program} {rk : Nat → Nat}
theorem closureVia_le {B : Nat} (h : ∀ g, ∀ x ∈ ((P.funcs[g]?).elim [] P.leadsTo), rk x ≤ rk g) : ∀ (fuel : Nat) (todo seen : List FuncId), (∀ x ∈ todo, rk x ≤ B) → (∀ x ∈ seen, rk x ≤ B) → ∀ x ∈ P.closureVia fuel todo seen, rk x ≤ B := by
  intro fuel
  induction fuel with
  | zero => intro todo seen _ h2 x hx; exact h2 x (by simpa [Program.closureVia] using hx)
  | succ n ih =>
    intro todo seen h1 h2 x hx
    cases todo with
    | nil => exact h2 x (by simpa [Program.closureVia] using hx)
    | cons f todo =>
      rw [Program.closureVia] at hx
      have hf := h1 f (List.mem_cons_self ..)
      split at hx
      · exact ih todo seen (fun y hy => h1 y (List.mem_cons_of_mem _ hy)) h2 x hx
      · refine ih _ _ (fun y hy => ?_) (fun y hy => ?_) x hx
        · rcases List.mem_append.1 hy with hy | hy
          · exact Nat.le_trans (h f y hy) hf
          · exact h1 y (List.mem_cons_of_mem _ hy)
        · rcases List.mem_cons.1 hy with rfl | hy
          · exact hf
          · exact h2 y hy
theorem recurses_false (hlt : ∀ g, ∀ x ∈ ((P.funcs[g]?).elim [] P.leadsTo), rk x < rk g) {f : FuncId} (hu : P.unfollowed f = false) : P.recurses f = false := by
  unfold Program.recurses
  rw [hu, Bool.false_or, List.any_eq_false]
  intro g _
  rw [List.any_eq_true]
  rintro ⟨x, hx, hc⟩
  have h1 := closureVia_le (P := P) (rk := rk) (B := rk x) (fun g y hy => Nat.le_of_lt (hlt g y hy)) _ [x] [] (by simp) (by simp) g (by
    have := List.contains_iff_mem.1 hc
    exact this)
  have h2 := hlt g x hx
  omega
/-- The order told by a list. -/
def ranksOk (P : Program) (l : List Nat) : Bool := (List.range P.funcs.size).all fun g => ((P.funcs[g]?).elim [] P.leadsTo).all fun x => decide (l.getD x 0 < l.getD g 0)
theorem ranks_lt {l : List Nat} (h : ranksOk P l = true) : ∀ g, ∀ x ∈ ((P.funcs[g]?).elim [] P.leadsTo), l.getD x 0 < l.getD g 0 := by
  intro g x hx
  by_cases hg : g < P.funcs.size
  · have h1 := List.all_eq_true.1 h g (List.mem_range.2 hg)
    have h2 := List.all_eq_true.1 h1 x hx
    exact of_decide_eq_true h2
  · rw [Array.getElem?_eq_none (by omega)] at hx
    cases hx
end
def Try.ranks : List Nat := [0, 0, 1, 12, 6, 13, 7, 8, 7, 7, 8, 8, 12, 8, 8, 3, 7, 3, 11, 1, 3, 3, 1, 1, 3, 5, 2, 2, 2, 7, 12, 3, 6, 6, 6, 7, 2, 4, 2, 6, 4, 6, 7, 6, 0, 0, 0, 7, 0, 7, 7, 11, 4, 4, 4, 7, 4, 4, 4, 4, 5, 4, 7, 4, 4, 0, 3, 6, 10, 2, 4, 3, 6, 11, 3, 0, 2, 5, 5, 3, 4, 0, 0, 0, 1, 1, 3, 3, 1, 5, 1, 4, 6, 5, 5, 2, 6, 3, 6, 2, 0, 1, 10, 3, 2, 0, 2, 6, 0, 0, 1, 3, 4, 0, 1, 3, 6, 0, 1, 0, 3, 3, 5, 4, 2, 3, 6, 9, 0, 1, 0, 0, 0, 3, 2, 1, 4, 1, 2, 1, 2, 1, 3, 0, 2, 0, 1, 2, 0, 0, 0, 3, 0, 0, 1, 1, 1, 1, 0, 3, 3, 4, 1, 1, 2, 0, 0, 9, 5, 1, 3, 1, 4, 5, 0, 4, 1, 1, 6, 8, 6, 1, 2, 3, 0, 2, 0, 0, 1, 0, 0, 0, 1, 0, 0, 0, 0, 2, 0, 2, 0, 1, 0, 2, 0, 1, 0, 3, 0, 4, 5, 7, 1, 1, 1, 1, 0, 3, 1, 2, 6, 1, 0, 0, 2, 0, 0, 0, 0, 0, 0, 0, 0, 0, 0, 0, 0, 0, 0, 0, 0]
set_option maxRecDepth 100000 in
theorem Try.ranked : ranksOk Try.checked.prog Try.ranks = true := by kernel_rfl
theorem Try.recurses {f : FuncId} (hu : Try.checked.prog.unfollowed f = false) : Try.checked.prog.recurses f = false := recurses_false (ranks_lt Try.ranked) hu

/-! The program's head, a line of words: parted once. -/
def sp32 : Char := Char.ofNat 32
theorem ws_sp (r : List Char) : wordsSigns (sp32 :: r) = [] :: wordsSigns r := rfl
theorem ws_cons {c : Char} (h : c ≠ sp32) {r w : List Char} {ws : List (List Char)} (e : wordsSigns r = w :: ws) : wordsSigns (c :: r) = (c :: w) :: ws := by
  rw [wordsSigns.eq_def]
  split
  · rename_i h1; cases h1
  · rename_i h1; injection h1 with h1 _; exact absurd h1 h
  · rename_i h1; injection h1 with h1 h2; subst h1 h2; rw [e]
theorem ws_word (r : List Char) : ∀ w : List Char, (∀ c ∈ w, c ≠ sp32) → wordsSigns (w ++ sp32 :: r) = w :: wordsSigns r := by
  intro w
  induction w with
  | nil => intro _; exact ws_sp r
  | cons c w ih => intro h; exact ws_cons (h c (List.mem_cons_self ..)) (ih fun x hx => h x (List.mem_cons_of_mem _ hx))
theorem ws_last : ∀ w : List Char, (∀ c ∈ w, c ≠ sp32) → wordsSigns w = [w] := by
  intro w
  induction w with
  | nil => intro _; rfl
  | cons c w ih => intro h; exact ws_cons (h c (List.mem_cons_self ..)) (ih fun x hx => h x (List.mem_cons_of_mem _ hx))
def joinWords : List Char → List (List Char) → List Char
  | w, [] => w
  | w, v :: ws => w ++ sp32 :: joinWords v ws
theorem ws_join : ∀ (ws : List (List Char)) (w : List Char), (∀ v ∈ w :: ws, ∀ c ∈ v, c ≠ sp32) → wordsSigns (joinWords w ws) = w :: ws := by
  intro ws
  induction ws with
  | nil => intro w h; exact ws_last w (h w (List.mem_cons_self ..))
  | cons v ws ih => intro w h; rw [joinWords, ws_word _ _ (h w (List.mem_cons_self ..)), ih v (fun x hx => h x (List.mem_cons_of_mem _ hx))]
def Try.headWords : List (List Char) := ([[101, 101, 101, 49, 53, 101, 48, 100, 98, 50, 56, 50, 48, 55, 56, 54, 48, 50, 52, 51, 97, 97, 48, 53, 55, 57, 54, 101, 54, 98, 57, 100, 48, 102, 49, 54, 57, 102, 52, 100, 102, 99, 54, 57, 50, 55, 51, 101, 55, 49, 48, 99, 56, 101, 56, 53, 100, 50, 56, 101, 48, 51, 51, 57], [99, 117, 116], [97, 116], [108, 111, 111, 112, 46, 101, 120, 97, 109, 112, 108, 101, 47, 103, 48, 49, 50, 55, 51, 47, 108, 97, 119, 115, 46, 70, 110, 69, 120, 97, 99, 116, 72, 111, 108, 101, 115, 79, 102], [108, 111, 111, 112, 46, 101, 120, 97, 109, 112, 108, 101, 47, 103, 48, 49, 50, 55, 51, 47, 108, 97, 119, 115, 46, 70, 110, 69, 120, 97, 99, 116, 90, 101, 114, 111, 77, 97, 112, 115], [108, 111, 111, 112, 46, 101, 120, 97, 109, 112, 108, 101, 47, 103, 48, 49, 50, 55, 51, 47, 108, 97, 119, 115, 46, 70, 110, 69, 120, 97, 99, 116, 72, 111, 109, 111, 108, 111, 103, 121, 67, 111, 109, 112, 108, 101, 120], [108, 111, 111, 112, 46, 101, 120, 97, 109, 112, 108, 101, 47, 103, 48, 49, 50, 55, 51, 47, 108, 97, 119, 115, 46, 70, 110, 69, 120, 97, 99, 116, 84, 101, 110, 115, 111, 114, 67, 111, 109, 112, 108, 101, 120, 101, 115], [108, 111, 111, 112, 46, 101, 120, 97, 109, 112, 108, 101, 47, 103, 48, 49, 50, 55, 51, 47, 108, 97, 119, 115, 46, 70, 110, 69, 120, 97, 99, 116, 80, 111, 119, 101, 114, 67, 111, 109, 112, 108, 101, 120], [108, 111, 111, 112, 46, 101, 120, 97, 109, 112, 108, 101, 47, 103, 48, 49, 50, 55, 51, 47, 108, 97, 119, 115, 46, 70, 110, 69, 120, 97, 99, 116, 73, 115, 80, 101, 114, 116, 117, 114, 98, 97, 116, 105, 111, 110], [108, 111, 111, 112, 46, 101, 120, 97, 109, 112, 108, 101, 47, 103, 48, 49, 50, 55, 51, 47, 108, 97, 119, 115, 46, 70, 110, 69, 120, 97, 99, 116, 80, 101, 114, 116, 117, 114, 98, 101, 100, 67, 111, 109, 112, 108, 101, 120], [108, 111, 111, 112, 46, 101, 120, 97, 109, 112, 108, 101, 47, 103, 48, 49, 50, 55, 51, 47, 108, 97, 119, 115, 46, 70, 110, 69, 120, 97, 99, 116, 70, 114, 101, 101, 80, 108, 97, 99, 101, 115], [108, 111, 111, 112, 46, 101, 120, 97, 109, 112, 108, 101, 47, 103, 48, 49, 50, 55, 51, 47, 108, 97, 119, 115, 46, 70, 110, 69, 120, 97, 99, 116, 83, 112, 108, 105, 116, 86, 101, 99, 116, 111, 114], [108, 111, 111, 112, 46, 101, 120, 97, 109, 112, 108, 101, 47, 103, 48, 49, 50, 55, 51, 47, 108, 97, 119, 115, 46, 70, 110, 69, 120, 97, 99, 116, 72, 111, 109, 111, 108, 111, 103, 121, 78, 117, 109, 98, 101, 114, 115], [108, 111, 111, 112, 46, 101, 120, 97, 109, 112, 108, 101, 47, 103, 48, 49, 50, 55, 51, 47, 108, 97, 119, 115, 46, 70, 110, 69, 120, 97, 99, 116, 80, 97, 114, 116, 79, 102], [108, 111, 111, 112, 46, 101, 120, 97, 109, 112, 108, 101, 47, 103, 48, 49, 50, 55, 51, 47, 108, 97, 119, 115, 46, 70, 110, 69, 120, 97, 99, 116, 67, 111, 108, 117, 109, 110, 79, 102]] : List (List Nat)).map fun w => w.map Char.ofNat
def Try.headWord : List Char := ([104, 97, 114, 110, 101, 115, 115] : List Nat).map Char.ofNat
set_option maxRecDepth 100000 in
theorem Try.head_eq : Try.checked.prog.initOrder = String.ofList (joinWords Try.headWord Try.headWords) := by kernel_rfl
set_option maxRecDepth 100000 in
theorem Try.head_ok : ((Try.headWord :: Try.headWords).all fun w => w.all fun c => decide (c ≠ sp32)) = true := by kernel_rfl
theorem Try.head_words : wordsSigns Try.checked.prog.initOrder.toList = Try.headWord :: Try.headWords := by
  rw [Try.head_eq, String.toList_ofList, ws_join]
  intro v hv c hc
  exact of_decide_eq_true (List.all_eq_true.1 (List.all_eq_true.1 Try.head_ok v hv) c hc)
/-! For whatever program with such a head: so the kernel does not run this one's. -/
section
variable {Q : Program} (h : wordsSigns Q.initOrder.toList = Try.headWord :: Try.headWords)
include h
set_option maxRecDepth 100000 in
theorem Try.headLifts_of : Q.headLifts = [] := by
  unfold Program.headLifts
  rw [h]
  kernel_rfl
set_option maxRecDepth 100000 in
theorem Try.liftsFinal_of : Q.liftsFinal = false := by
  unfold Program.liftsFinal
  rw [h, Try.headLifts_of h]
  kernel_rfl
set_option maxRecDepth 100000 in
theorem Try.make_of : Q.make = some .cut := by
  unfold Program.make
  rw [h, Try.headLifts_of h]
  show _ = some Make.cut
  kernel_rfl
set_option maxRecDepth 100000 in
theorem Try.mayEnter_of (h1 : Q.laysLater = false) (h2 : Q.bearsReflect = false) (h3 : Q.doorRows = []) : Q.mayEnter = true := by
  unfold Program.mayEnter
  simp only [h, h1, h2, Program.doorFits, h3]
  show _ = true
  kernel_rfl
end
theorem Try.mayEnter : Try.checked.prog.mayEnter = true := Try.mayEnter_of Try.head_words (by kernel_rfl) (by kernel_rfl) (by kernel_rfl)
theorem Try.liftsFinal : Try.checked.prog.liftsFinal = false := Try.liftsFinal_of Try.head_words
theorem Try.make : Try.checked.prog.make = some .cut := Try.make_of Try.head_words
end Go.Proofs.Ythfcadgbipnemaa

namespace Go.Proofs.Ythfcadgbipnemaa
open Go.ChangeShapes Go.WideShapes Go.ChangeAt Go.RowKit Go.Deep

section
variable {H : Type} {enc : TypeId × Value → H} {w : World} {base : Nat} {held : Bool}
end
end Go.Proofs.Ythfcadgbipnemaa

