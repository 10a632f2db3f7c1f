/-
  tensor.addPair by contract: the pair vector of two elements, times a factor, is added to a row that is there.
-/
import Derived.Test.YtpdkfidmmjlmnaaPth
import Derived.Test.YtpdkfidmmjlmnaaTno
import Derived.Maps.OwnOps
import Derived.Maps.OwnSet
namespace Go.Proofs.Ytpdkfidmmjlmnaa
open Go.RowKit

/-- A row when a numbers of us are done, and of the next one b of vs. -/
def adpZ (p f : Int) (S0 : Nat) (us vs : List Int) (Z : Nat → Int) (a b k : Nat) : Int := if S0 ≤ k ∧ k < S0 + a * vs.length + b then (Z k + f * us.getD ((k - S0) / vs.length) 0 * vs.getD ((k - S0) % vs.length) 0) % p else Z k
theorem adpZ_zero (p f : Int) (S0 : Nat) (us vs : List Int) (Z : Nat → Int) (k : Nat) : adpZ p f S0 us vs Z 0 0 k = Z k := by
  unfold adpZ
  rw [if_neg (by rintro ⟨h1, h2⟩; rw [Nat.zero_mul] at h2; omega)]
theorem adpZ_next (p f : Int) (S0 : Nat) (us vs : List Int) (Z : Nat → Int) (a k : Nat) : adpZ p f S0 us vs Z a vs.length k = adpZ p f S0 us vs Z (a + 1) 0 k := by
  unfold adpZ
  rw [show S0 + (a + 1) * vs.length + 0 = S0 + a * vs.length + vs.length by rw [Nat.succ_mul]; omega]
theorem adpZ_at (p f : Int) (S0 : Nat) (us vs : List Int) (Z : Nat → Int) (a b : Nat) : adpZ p f S0 us vs Z a b (S0 + a * vs.length + b) = Z (S0 + a * vs.length + b) := by
  unfold adpZ
  rw [if_neg (by omega)]
theorem adpZ_step (p f : Int) (S0 : Nat) (us vs : List Int) (Z : Nat → Int) {a b : Nat} (hb : b < vs.length) (k : Nat) :
    (if k = S0 + a * vs.length + b then (Z k + f * us.getD a 0 * vs.getD b 0) % p else adpZ p f S0 us vs Z a b k) = adpZ p f S0 us vs Z a (b + 1) k := by
  by_cases e : k = S0 + a * vs.length + b
  · subst e
    rw [if_pos rfl]
    unfold adpZ
    have h1 : S0 + a * vs.length + b - S0 = b + a * vs.length := by omega
    have h2 : (b + a * vs.length) / vs.length = a := by rw [Nat.add_mul_div_right _ _ (by omega), Nat.div_eq_of_lt hb, Nat.zero_add]
    have h3 : (b + a * vs.length) % vs.length = b := by rw [Nat.add_mul_mod_self_right, Nat.mod_eq_of_lt hb]
    rw [if_pos (by omega), h1, h2, h3]
  · rw [if_neg e]
    unfold adpZ
    by_cases h : S0 ≤ k ∧ k < S0 + a * vs.length + b
    · rw [if_pos h, if_pos (by omega)]
    · rw [if_neg h, if_neg (by omega)]

set_option maxHeartbeats 3200000 in
set_option maxRecDepth 100000 in
theorem addPair_any (p p2 f di dj : Int) (dv mv dv2 mv2 pv' uv vv : Value) (S0 g N mb nm : Nat) (Z : Nat → Int) (us vs : List Int) (S : List PV) (w : World) (hp : IsP p) (hf : 0 ≤ f ∧ f ≤ 6)
    (hr : w.rowIs g 2 N (fun k => .int .i64 (Z k))) (hmap : ∀ W, But g w W → Pl W mb nm S) (hou : ∀ W, But g w W → L1 0 W uv us) (hov : ∀ W, But g w W → L1 0 W vv vs)
    (hun : ∀ x ∈ us, 0 ≤ x ∧ x ≤ p - 1) (hvn : ∀ x ∈ vs, 0 ≤ x ∧ x ≤ p - 1) (hZ : ∀ k, k < N → 0 ≤ Z k ∧ Z k ≤ p - 1)
    (hpl : ∀ a b : Nat, a < us.length → b < vs.length → Wf4 ((di, (a : Int)), (dj, (b : Int))) ∧ ((di, (a : Int)), (dj, (b : Int))) ∈ S ∧ plc S ((di, (a : Int)), (dj, (b : Int))) = S0 + a * vs.length + b)
    (hN : S0 + us.length * vs.length ≤ N) (hul : us.length ≤ 1048576) (hvl : vs.length ≤ 1048576) :
    Calls Try.prog 187 #[.agg #[.int .i64 p, dv, mv, .int .i64 p2, dv2, mv2, pv', .map (some mb)], .slice (some ⟨g, 0, none⟩) N N, .int .i64 f, .agg #[.int .i64 di, uv], .agg #[.int .i64 dj, vv]] w (AddR g N (adpZ p f S0 us vs Z us.length 0) w) := by
  obtain ⟨au, cu, rfl⟩ := Sl.shape (hou w (But.refl _ _))
  obtain ⟨av, cv, rfl⟩ := Sl.shape (hov w (But.refl _ _))
  have hgl : g < w.heap.size := hr.lt
  obtain ⟨w1, hw1⟩ : ∃ w1, w1 = (((w.alloc (.cells #[.int .i64 p, dv, mv, .int .i64 p2, dv2, mv2, pv', .map (some mb)] 110)).alloc (.cells #[.int .i64 di, .slice au us.length cu] 162)).alloc (.cells #[.int .i64 dj, .slice av vs.length cv] 162)) := ⟨_, rfl⟩
  have hb01 : Below w.heap.size w w1 := by rw [hw1]; exact (((Below.refl _ _).alloc (Nat.le_refl _) _).alloc (by simp) _).alloc (by simp; omega) _
  have hs1 : w1.heap.size = w.heap.size + 3 := by rw [hw1]; simp
  have hbt : But g w w1 := But.of_below hb01
  obtain ⟨wa, hwa⟩ : ∃ wa, wa = w.alloc (.cells #[.int .i64 p, dv, mv, .int .i64 p2, dv2, mv2, pv', .map (some mb)] 110) := ⟨_, rfl⟩
  obtain ⟨wb, hwb⟩ : ∃ wb, wb = wa.alloc (.cells #[.int .i64 di, .slice au us.length cu] 162) := ⟨_, rfl⟩
  have hsa : wa.heap.size = w.heap.size + 1 := by rw [hwa]; simp
  have hsb : wb.heap.size = w.heap.size + 2 := by rw [hwb]; simp [hsa]
  have hw1b : w1 = wb.alloc (.cells #[.int .i64 dj, .slice av vs.length cv] 162) := by rw [hw1, hwb, hwa]
  have bab : Below wa.heap.size wa wb := by rw [hwb]; exact below_alloc1 _ _
  have bb1 : Below wb.heap.size wb w1 := by rw [hw1b]; exact below_alloc1 _ _
  have ba1 : Below wa.heap.size wa w1 := bab.trans (bb1.mono (by omega))
  have a0 : w1.cell? ⟨w.heap.size, 0, none⟩ = some (.int .i64 p) := later ba1 (Nat.le_refl _) (by rw [hwa]; simp)
  have a7 : w1.cell? ⟨w.heap.size, 7, none⟩ = some (.map (some mb)) := later ba1 (Nat.le_refl _) (by rw [hwa]; simp)
  have e0 : w1.cell? ⟨w.heap.size + 1, 0, none⟩ = some (.int .i64 di) := later bb1 (Nat.le_refl _) (by rw [hwb, ← hsa]; simp)
  have e1 : w1.cell? ⟨w.heap.size + 1, 1, none⟩ = some (.slice au us.length cu) := later bb1 (Nat.le_refl _) (by rw [hwb, ← hsa]; simp)
  have h0 : w1.cell? ⟨w.heap.size + 2, 0, none⟩ = some (.int .i64 dj) := by rw [hw1b, ← hsb]; simp
  have h1 : w1.cell? ⟨w.heap.size + 2, 1, none⟩ = some (.slice av vs.length cv) := by rw [hw1b, ← hsb]; simp
  clear hw1b hwa hwb hsa hsb bab bb1 ba1
  have HBT := Lib.hid hbt
  have HOU : Hid (∀ W, But g w1 W → L1 0 W (.slice au us.length cu) us) := Lib.hid (fun W h => hou W (hbt.trans h))
  have HOV : Hid (∀ W, But g w1 W → L1 0 W (.slice av vs.length cv) vs) := Lib.hid (fun W h => hov W (hbt.trans h))
  have HMP : Hid (∀ W, But g w1 W → Pl W mb nm S) := Lib.hid (fun W h => hmap W (hbt.trans h))
  have HKE : Hid (∀ W, But g w1 W → W.cell? ⟨w.heap.size, 7, none⟩ = some (.map (some mb)) ∧ W.cell? ⟨w.heap.size + 1, 0, none⟩ = some (.int .i64 di) ∧ W.cell? ⟨w.heap.size + 1, 1, none⟩ = some (.slice au us.length cu) ∧ W.cell? ⟨w.heap.size + 2, 0, none⟩ = some (.int .i64 dj) ∧ W.cell? ⟨w.heap.size + 2, 1, none⟩ = some (.slice av vs.length cv)) := Lib.hid (fun W h =>
    ⟨(h.cell (by omega) (by omega)).trans a7, (h.cell (by omega) (by omega)).trans e0, (h.cell (by omega) (by omega)).trans e1, (h.cell (by omega) (by omega)).trans h0, (h.cell (by omega) (by omega)).trans h1⟩)
  have A0 : Hid (∀ W, But g w1 W → W.cell? ⟨w.heap.size, 0, none⟩ = some (.int .i64 p)) := Lib.hid (fun W h => (h.cell (by omega) (by omega)).trans a0)
  have HR1 : Hid (w1.rowIs g 2 N (fun k => .int .i64 (Z k))) := Lib.hid (hr.of_block (hb01.block _ hgl))
  have HUN := Lib.hid hun
  have HVN := Lib.hid hvn
  have HZB := Lib.hid hZ
  have HPL := Lib.hid hpl
  have HNN := Lib.hid hN
  have hp2 := hp.lo
  have hp7 := hp.hi
  obtain ⟨hf0, hf1⟩ := hf
  have HRES : Hid (Try.f187.results = #[]) := Lib.hid (by kernel_rfl)
  clear hr hmap hou hov hun hvn hZ hpl hN hp a0 a7 e0 e1 h0 h1 hbt
  go_enter Try.func187, Try.ntmps187
  go_upto_region 1 with fail
  rw [← hw1]
  clear hw1 hb01 hs1
  have e1 := (HKE.out _ (But.refl _ _)).2.2.1
  go_wp2
  clear e1
  go_loopw [10, 11, 12, 13, 14, 18, 26] (fun _ _ _ _ _ i _ wr => ∃ (a : Nat), a ≤ us.length ∧ i = .int .i64 a ∧ Hid (But g w1 wr) ∧ Hid (wr.rowIs g 2 N (fun k => .int .i64 (adpZ p f S0 us vs Z a 0 k)))) (fun _ _ _ _ _ i _ _ => us.length - (intOf i).toNat)
  case atStart => exact ⟨0, Nat.zero_le _, rfl, Lib.hid (But.refl _ _), Lib.hid (HR1.out.congr (fun k _ => by rw [adpZ_zero]))⟩
  case round =>
    obtain ⟨a, ha, rfl, HB, HROW⟩ := hrel
    obtain ⟨wx, hwx⟩ : ∃ wx : World, wx = wr := ⟨_, rfl⟩
    subst hwx
    by_cases hlt : a < us.length
    · have hai : (a : Int) < (us.length : Int) := by omega
      refine Sl.cases (HOU.out _ HB.out) (fun _ _ hx _ => absurd hlt (by simp [hx])) (fun bu ou cu2 hvu _ _ hcl => ?_)
      injection hvu with k1 k2 k3
      clear k2
      subst k1 k3
      obtain ⟨u, hu, hru⟩ := hcl a hlt
      obtain ⟨x, hx⟩ : ∃ x, x = us[a] := ⟨_, rfl⟩
      have hux : wx.cell? ⟨bu, ou + a, none⟩ = some (.int .i64 x) := by rw [hu, hru, hx]
      have hxb := HUN.out _ (List.getElem_mem hlt)
      rw [← hx] at hxb
      have HX : Hid (us.getD a 0 = x) := Lib.hid (by rw [getD_of_lt _ hlt, hx])
      have h1 := (HKE.out _ HB.out).2.2.2.2
      clear hcl hu hru hx
      go_wp2
      clear hux h1
      go_loopw [12, 13, 14, 26] (fun _ _ _ i wr => ∃ (b : Nat), b ≤ vs.length ∧ i = .int .i64 b ∧ Hid (But g w1 wr) ∧ Hid (wr.rowIs g 2 N (fun k => .int .i64 (adpZ p f S0 us vs Z a b k)))) (fun _ _ _ i _ => vs.length - (intOf i).toNat)
      case atStart => exact ⟨0, Nat.zero_le _, rfl, HB, HROW⟩
      case round =>
        clear HB HROW
        obtain ⟨b, hb, rfl, HB, HROW⟩ := hrel
        obtain ⟨wy, hwy⟩ : ∃ wy : World, wy = wr := ⟨_, rfl⟩
        subst hwy
        by_cases hltb : b < vs.length
        · have hbi : (b : Int) < (vs.length : Int) := by omega
          refine Sl.cases (HOV.out _ HB.out) (fun _ _ hx _ => absurd hltb (by simp [hx])) (fun bv ov cv2 hvv _ _ hcl => ?_)
          injection hvv with k1 k2 k3
          clear k2
          subst k1 k3
          obtain ⟨u, hu, hru⟩ := hcl b hltb
          obtain ⟨y, hy⟩ : ∃ y, y = vs[b] := ⟨_, rfl⟩
          have huy : wy.cell? ⟨bv, ov + b, none⟩ = some (.int .i64 y) := by rw [hu, hru, hy]
          have hyb := HVN.out _ (List.getElem_mem hltb)
          rw [← hy] at hyb
          have HY : Hid (vs.getD b 0 = y) := Lib.hid (by rw [getD_of_lt _ hltb, hy])
          obtain ⟨k7, k10, k11, k20, k21⟩ := HKE.out _ HB.out
          obtain ⟨hw4, hmem, hplc⟩ := HPL.out a b hlt hltb
          have hkey : keyOf Try.prog 115 (pv di a dj b) = some (keyV ((di, (a : Int)), (dj, (b : Int)))) := keyOf_pv hw4.a hw4.b hw4.c hw4.d
          have hz := zeroI' wy
          obtain ⟨D, hown, hD⟩ := HMP.out _ HB.out
          have hh := hD.yes _ hw4 hmem
          rw [hplc] at hh
          have HH := Lib.hid hh
          obtain ⟨pl, hple⟩ : ∃ pl, pl = S0 + a * vs.length + b := ⟨_, rfl⟩
          have hab : a * vs.length + vs.length ≤ us.length * vs.length := by
            have := Nat.mul_le_mul_right vs.length (show a + 1 ≤ us.length from hlt)
            rwa [Nat.succ_mul] at this
          have hpn : pl < N := by have := HNN.out; omega
          rw [← hple] at HH
          have HPE := Lib.hid hple
          clear hcl hu hru hy hw4 hmem hplc hD hh hple hab
          go_wp2_with (at_lookup; refine wpList_lookup_own_int wy rfl _ _ 108 rfl 115 2 .i64 Try.keyedPr Try.underlying108 Try.underlying2 hz mb nm D rfl hown (pv di a dj b) (keyV ((di, (a : Int)), (dj, (b : Int)))) rfl hkey ?_; intro c hat hwc)
          have hc : c = (pl : Int) := by have := HH.out (.lit (.int .i64 0)); rw [this] at hat; injection hat with e; injection e with _ e; exact e.symm
          subst hc
          clear hat hwc hown hkey hz huy k7 k10 k11 k20 k21 HH
          obtain ⟨z, hzv⟩ : ∃ z, z = Z pl := ⟨_, rfl⟩
          have hzb := HZB.out pl hpn
          rw [← hzv] at hzb
          obtain ⟨hz0, hz1⟩ := hzb
          obtain ⟨hx0, hx1⟩ := hxb
          obtain ⟨hy0, hy1⟩ := hyb
          have m0 : 0 ≤ f * x := Int.mul_nonneg hf0 hx0
          have m1 : f * x ≤ 36 := Int.le_trans (Int.mul_le_mul hf1 (show x ≤ 6 by omega) hx0 (by omega)) (by omega)
          have m2 : 0 ≤ f * x * y := Int.mul_nonneg m0 hy0
          have m3 : f * x * y ≤ 216 := Int.le_trans (Int.mul_le_mul m1 (show y ≤ 6 by omega) hy0 (by omega)) (by omega)
          have HACC : Hid (∀ W : World, W.rowIs g 2 N (fun k => .int .i64 (adpZ p f S0 us vs Z a b k)) → W.cell? ⟨g, 0 + pl, none⟩ = some (.int .i64 z)) := Lib.hid (fun W h => by have h2 := h.cell hpn; rw [Nat.zero_add, h2, HPE.out, adpZ_at, ← HPE.out, ← hzv])
          have HST2 : Hid (∀ W : World, W.rowIs g 2 N (fun k => .int .i64 (adpZ p f S0 us vs Z a b k)) → (W.setCell ⟨g, 0 + pl, none⟩ (.int .i64 ((z + f * x * y) % p))).rowIs g 2 N (fun k => .int .i64 (adpZ p f S0 us vs Z a (b + 1) k))) := Lib.hid (fun W h => by
            rw [Nat.zero_add]
            refine (h.set pl _).congr (fun k _ => ?_)
            rw [← adpZ_step p f S0 us vs Z hltb k, HX.out, HY.out]
            by_cases e : k = pl
            · rw [if_pos e, if_pos (e.trans HPE.out), e, ← hzv]
            · rw [if_neg e, if_neg (fun e2 => e (e2.trans HPE.out.symm))])
          clear hzv
          go_upto_region 8 with fail
          have S0' : Hid (But g w1 wy.drew ∧ wy.drew.rowIs g 2 N (fun k => .int .i64 (adpZ p f S0 us vs Z a b k))) := Lib.hid ⟨HB.out.drew, HROW.out.drew⟩
          refine wp_region_last (fun W => Hid (But g w1 W ∧ W.rowIs g 2 N (fun k => .int .i64 (adpZ p f S0 us vs Z a b k)))) 17 (by kernel_rfl) rfl (by kernel_rfl) ?_
          refine held_take (i := 0) (v := .slice (some ⟨g, 0, none⟩) N N) (some 43) rfl rfl (by kernel_rfl) (by kernel_rfl) (by kernel_rfl) (fun _ _ _ h => h) (yieldsIf_move (by kernel_rfl) rfl (by kernel_rfl)) S0' ?_
          refine held_take (i := 1) (v := .int .i64 (pl : Int)) (some 44) rfl rfl (by kernel_rfl) (by kernel_rfl) (by kernel_rfl) (fun _ _ _ h => h) (yieldsIf_move (by kernel_rfl) rfl (by kernel_rfl)) S0' ?_
          refine held_take (i := 2) (v := .slice (some ⟨g, 0, none⟩) N N) (some 45) rfl rfl (by kernel_rfl) (by kernel_rfl) (by kernel_rfl) (fun _ _ _ h => h) (yieldsIf_move (by kernel_rfl) rfl (by kernel_rfl)) S0' ?_
          refine held_take (i := 3) (v := .int .i64 (pl : Int)) (some 46) rfl rfl (by kernel_rfl) (by kernel_rfl) (by kernel_rfl) (fun _ _ _ h => h) (yieldsIf_move (by kernel_rfl) rfl (by kernel_rfl)) S0' ?_
          refine held_take (i := 4) (v := .pointer (some ⟨g, 0 + pl, none⟩)) (some 47) rfl rfl (by kernel_rfl) (by kernel_rfl) (by kernel_rfl) (fun _ _ _ h => h) (yieldsIf_index (by kernel_rfl) rfl (by kernel_rfl) (by kernel_rfl) (hidxI g 0 N hpn)) S0' ?_
          refine held_take (i := 5) (v := .int .i64 z) (some 48) rfl rfl (by kernel_rfl) (by kernel_rfl) (by kernel_rfl) (fun _ _ _ h => h) (yieldsIf_cell (by kernel_rfl) rfl (by kernel_rfl) (fun W h => hload W (HACC.out W h.out.2))) S0' ?_
          refine held_take (i := 6) (v := .int .i64 f) (some 49) rfl rfl (by kernel_rfl) (by kernel_rfl) (by kernel_rfl) (fun _ _ _ h => h) (yieldsIf_move (by kernel_rfl) rfl (by kernel_rfl)) S0' ?_
          refine held_take (i := 7) (v := .int .i64 x) (some 50) rfl rfl (by kernel_rfl) (by kernel_rfl) (by kernel_rfl) (fun _ _ _ h => h) (yieldsIf_move (by kernel_rfl) rfl (by kernel_rfl)) S0' ?_
          refine held_take (i := 8) (v := .int .i64 (f * x)) (some 51) rfl rfl (by kernel_rfl) (by kernel_rfl) (by kernel_rfl) (fun _ _ _ h => h) (yieldsIf_bin (by kernel_rfl) rfl (by kernel_rfl) (by kernel_rfl) (fun _ => rfl) (hmulA (IntWalk.i64_in _ (by omega)))) S0' ?_
          refine held_take (i := 9) (v := .int .i64 y) (some 52) rfl rfl (by kernel_rfl) (by kernel_rfl) (by kernel_rfl) (fun _ _ _ h => h) (yieldsIf_move (by kernel_rfl) rfl (by kernel_rfl)) S0' ?_
          refine held_take (i := 10) (v := .int .i64 (f * x * y)) (some 53) rfl rfl (by kernel_rfl) (by kernel_rfl) (by kernel_rfl) (fun _ _ _ h => h) (yieldsIf_bin (by kernel_rfl) rfl (by kernel_rfl) (by kernel_rfl) (fun _ => rfl) (hmulA (IntWalk.i64_in _ (by omega)))) S0' ?_
          refine held_take (i := 11) (v := .int .i64 (z + f * x * y)) (some 54) rfl rfl (by kernel_rfl) (by kernel_rfl) (by kernel_rfl) (fun _ _ _ h => h) (yieldsIf_bin (by kernel_rfl) rfl (by kernel_rfl) (by kernel_rfl) (fun _ => rfl) (haddA (IntWalk.i64_in _ (by omega)))) S0' ?_
          refine held_take (i := 12) (v := .pointer (some ⟨w.heap.size, 0, none⟩)) (some 55) rfl rfl (by kernel_rfl) (by kernel_rfl) (by kernel_rfl) (fun _ _ _ h => h) (yieldsIf_run (by kernel_rfl) (fun W _ => by kernel_rfl)) S0' ?_
          refine held_take (i := 13) (v := .pointer (some ⟨w.heap.size, 0, none⟩)) (some 56) rfl rfl (by kernel_rfl) (by kernel_rfl) (by kernel_rfl) (fun _ _ _ h => h) (yieldsIf_run (by kernel_rfl) (fun W _ => by kernel_rfl)) S0' ?_
          refine held_take (i := 14) (v := .int .i64 p) (some 57) rfl rfl (by kernel_rfl) (by kernel_rfl) (by kernel_rfl) (fun _ _ _ h => h) (yieldsIf_cell (by kernel_rfl) rfl (by kernel_rfl) (fun W h => hload W (A0.out _ h.out.1))) S0' ?_
          refine held_take (i := 15) (v := .int .i64 ((z + f * x * y) % p)) (some 58) rfl rfl (by kernel_rfl) (by kernel_rfl) (by kernel_rfl) (fun _ _ _ h => h) (yieldsIf_bin (by kernel_rfl) rfl (by kernel_rfl) (by kernel_rfl) (fun _ => rfl) (hremI (by omega) (by omega) (by omega))) S0' ?_
          refine held_take (i := 16) (v := .pointer (some ⟨g, 0 + pl, none⟩)) (some 59) rfl rfl (by kernel_rfl) (by kernel_rfl) (by kernel_rfl) (fun _ _ _ h => h) (yieldsIf_index (by kernel_rfl) rfl (by kernel_rfl) (by kernel_rfl) (hidxI g 0 N hpn)) S0' ?_
          refine held_none (i := 17) (v := .bool false) rfl rfl (by kernel_rfl) (by kernel_rfl) (by kernel_rfl) (fun _ _ _ h => h) (yieldsIf_move (by kernel_rfl) rfl (by kernel_rfl)) S0' ?_
          have hac2 : wy.drew.cell? ⟨g, 0 + pl, none⟩ = some (.int .i64 z) := HACC.out _ S0'.out.2
          have hfz2 : wy.drew.frozen? ⟨g, 0 + pl, none⟩ = false := S0'.out.2.frozen _
          have hBN := S0'.out.1.trans (But.set wy.drew (0 + pl) (.int .i64 ((z + f * x * y) % p)) (b := g))
          have HRN := Lib.hid (HST2.out _ S0'.out.2)
          refine wpAnyH_done (by kernel_rfl) (lastQ_storeI rfl (by kernel_rfl) (by kernel_rfl) (.tmp 59) (.tmp 58) (by kernel_rfl) g (0 + pl) ((z + f * x * y) % p) _ (by kernel_rfl) (by kernel_rfl) hac2 hfz2 ?_) _
          simp only [Act.put, List.setIfInBounds_toArray, List.set_cons_zero, List.set_cons_succ]
          obtain ⟨WN, hWN⟩ : ∃ WN, WN = wy.drew.setCell ⟨g, 0 + pl, none⟩ (.int .i64 ((z + f * x * y) % p)) := ⟨_, rfl⟩
          rw [← hWN] at hBN HRN ⊢
          have HBN := Lib.hid hBN
          clear hBN S0' hWN hac2 hfz2
          go_wp2
          go_roundw
          case rel => exact ⟨b + 1, by omega, by go_num, HBN, HRN⟩
          case measure => simp [intOf]; omega
        · have hbi : ¬ (b : Int) < (vs.length : Int) := by omega
          have hbe : b = vs.length := by omega
          have HR2 : Hid (wy.rowIs g 2 N (fun k => .int .i64 (adpZ p f S0 us vs Z (a + 1) 0 k))) := Lib.hid (HROW.out.congr (fun k _ => by rw [hbe, adpZ_next]))
          clear hbe
          go_wp2
          go_roundw
          case rel => exact ⟨a + 1, by omega, by go_num, HB, HR2⟩
          case measure => simp [intOf]; omega
    · have hai : ¬ (a : Int) < (us.length : Int) := by omega
      have hae : a = us.length := by omega
      have HBF : Hid (But g w wx) := Lib.hid (HBT.out.trans HB.out)
      have HRF : Hid (wx.rowIs g 2 N (fun k => .int .i64 (adpZ p f S0 us vs Z us.length 0 k))) := Lib.hid (by have := HROW.out; rwa [hae] at this)
      clear hae
      go_wp2
      refine bodyPost_ret (v := .tuple #[]) ?_ rfl ⟨rfl, HBF.out, HRF.out⟩
      simp only [results, HRES.out]
      go_simp
end Go.Proofs.Ytpdkfidmmjlmnaa
