/-
  Texts that ProofCol needs, part 5.
-/
import Derived.Test.YtpdkfidmmjlmnabDoorZi4
import Derived.Laws.EntriesVeiled
import Derived.Deep.Cut
import Derived.Deep.CutRange
import Derived.StillTailTactics
import Derived.BigQuiet
import Derived.Deep.QuietTactic
import Derived.BigRegion
import Derived.Defers
import Derived.Recover
import Derived.Test.YtpdkfidmmjlmnabDoorChecked
import Derived.Outline
import Derived.Deep.RegionHeld3
import Derived.Maps.AppendAt
namespace Go.Proofs.YtpdkfidmmjlmnabDoor
open Go.RowKit

/-- A table of a cone while rows of the family come in: a above, b behind it, k rows of f. -/
def cnZ (a : List (List Int)) (l : Nat) (b f : List (List Int)) (k : Nat) (j i : Nat) : Int :=
  if a.length ≤ j ∧ j < a.length + k ∧ i < l then (f.getD (j - a.length) []).getD i 0 else smZ a l b a.length b.length j i
theorem cnZ_0 (a : List (List Int)) (l : Nat) (b f : List (List Int)) : cnZ a l b f 0 = smZ a l b a.length b.length := by
  funext j i
  unfold cnZ
  rw [if_neg (by omega)]
def CtR (r c : Nat) (Z : Nat → Nat → Int) (w : World) (e : Ending) (w' : World) : Prop := ∃ wa : World, e = .returned (.slice (some ⟨wa.heap.size, 0, none⟩) r r) ∧ Below w.heap.size w wa ∧ Mat wa w' r c Z

set_option maxHeartbeats 6400000 in
set_option maxRecDepth 100000 in
theorem coneTable_any (p : Int) (k l r : Nat) (dv mv dv2 mv2 fv : Value) (ds : List Int) (ms : List (List (List Int))) (ds2 : List Int) (ms2 fs : List (List (List Int))) (w : World) (h : Cx 0 w dv mv ds ms) (h2 : Cx 0 w dv2 mv2 ds2 ms2) (hf : L3 0 w fv fs) (hcx : IsCx p ds ms) (hcy : IsCx p ds2 ms2) (hF : FamOk p ds ds2 0 fs) (hk : k < ds.length) (hk2 : k < ds2.length) (hl : dimZ ds2 (k : Int) = (l : Int)) (hr : dimZ ds ((k : Int) - 1) = (r : Int)) :
    Calls Tryd.prog 41 #[.agg #[.int .i64 p, dv, mv], .agg #[.int .i64 p, dv2, mv2], fv, .int .i64 (k : Int)] w (CtR ((tabN ms2 k).length + (cycT ds ms k).length) (l + r) (cnZ (tabN ms2 k) l (tableOf (cycT ds ms k).length r (scZ p (p - 1) (cycT ds ms k))) (fs.getD k []) (fs.getD k []).length) w) := by
  obtain ⟨ad, cap, rfl⟩ := Sl.shape h.dims
  obtain ⟨am, capm, rfl⟩ := Sl.shape h.maps
  obtain ⟨ad2, cap2, rfl⟩ := Sl.shape h2.dims
  obtain ⟨am2, capm2, rfl⟩ := Sl.shape h2.maps
  obtain ⟨af, cf, rfl⟩ := Sl.shape hf
  obtain ⟨k1, k2⟩ := bx_two (p := p) (p2 := p) 28 h h2
  have HX0 := Lib.hid k1
  have HY0 := Lib.hid k2
  have HCX := Lib.hid hcx
  have HCY := Lib.hid hcy
  have HFO := Lib.hid hF
  have hp7 : 2 ≤ p ∧ p ≤ 7 := ⟨hcx.1.prime.lo, hcx.1.prime.hi⟩
  have hl6 := hcx.1.len1
  have hm6 := hcy.1.len1
  obtain ⟨a, ha⟩ : ∃ a, a = tabN ms2 k := ⟨_, rfl⟩
  obtain ⟨t, ht⟩ : ∃ t, t = cycT ds ms k := ⟨_, rfl⟩
  obtain ⟨f, hff⟩ : ∃ f, f = fs.getD k [] := ⟨_, rfl⟩
  have ha8 : a.length ≤ 8 := by rw [ha]; exact tabN_len hcy k
  have hl8 : l ≤ 8 := by have := (dimZ_8 hcy (k : Int)).2; omega
  have hr8 : r ≤ 8 := by have := (dimZ_8 hcx ((k : Int) - 1)).2; omega
  have htab := cyc_tabP hcx.1 hk
  have hta : (t.length : Int) = ds.getD k 0 := by rw [ht]; exact htab.1
  have ht8 : t.length ≤ 8 := by have := (hcx.1.dim k).2; omega
  have HTR : Hid (∀ y ∈ t, y.length = r ∧ ∀ z ∈ y, 0 ≤ z ∧ z ≤ p - 1) := Lib.hid (fun y hy => by
    rw [ht] at hy
    have := htab.2 y hy
    rw [show (k : Int) + (-1) = (k : Int) - 1 by omega, hr] at this
    exact ⟨by have := this.1; omega, this.2⟩)
  have HAR : Hid (∀ y ∈ a, y.length = l) := Lib.hid (fun y hy => by
    rw [ha] at hy
    have := (tabN_ok hcy k y hy).1
    have e : dimZ ds2 (k : Int) = ds2.getD k 0 := by rw [dimZ_in rfl hk2, ← getD_of_lt 0 hk2]
    omega)
  have hkf : k < fs.length := by have := hF.1; omega
  have hft := hF.2 k hkf
  rw [Int.add_zero, hl, ← hff] at hft
  have hfl : f.length = t.length := by have := hft.1; omega
  have HFR : Hid (∀ y ∈ f, y.length = l) := Lib.hid (fun y hy => by have := (hft.2 y hy).1; omega)
  have HFL := Lib.hid hfl
  have HLZ := Lib.hid hl
  have HRZ := Lib.hid hr
  obtain ⟨w1, hw1⟩ : ∃ w1, w1 = ((w.alloc (.cells #[.int .i64 p, .slice ad ds.length cap, .slice am ms.length capm] 28)).alloc (.cells #[.int .i64 p, .slice ad2 ds2.length cap2, .slice am2 ms2.length capm2] 28)) := ⟨_, rfl⟩
  rw [← hw1] at HX0 HY0
  have HB01 := Lib.hid HX0.out.below
  have HF1 := Lib.hid (hf.below HB01.out)
  have HNX : Hid (∀ W, Below w1.heap.size w1 W → Bx w W w.heap.size p (.slice ad ds.length cap) (.slice am ms.length capm) ds ms ∧ Bx w W (w.heap.size + 1) p (.slice ad2 ds2.length cap2) (.slice am2 ms2.length capm2) ds2 ms2 ∧ L3 0 W (.slice af fs.length cf) fs) := Lib.hid (fun W hb => ⟨HX0.out.next hb, HY0.out.next hb, HF1.out.below hb⟩)
  have HMA := Lib.hid (mapAt_any p k _ _ ds2 ms2 w1 HY0.out.cx hcy)
  rw [← ha] at HMA ⊢
  rw [← ht, ← hff]
  have HTE := Lib.hid ht
  have HFE := Lib.hid hff
  have d0 := HY0.out.c0
  have d1 := HY0.out.c1
  have d2 := HY0.out.c2
  clear h h2 hf k1 k2 hcx hcy hF ha ht hff htab hft hl hr hfl
  go_enter Tryd.func41, Tryd.ntmps41
  go_upto_region 1 with fail
  rw [← hw1]
  clear hw1
  go_wp2_with fail
  refine HMA.out.mono ?_
  rintro e w2 ⟨u, rfl, hu, hb2⟩
  obtain ⟨aa, ca, rfl⟩ := Sl.shape hu
  have HU2 := Lib.hid hu
  have HB2 := Lib.hid hb2
  clear hu hb2 HMA d0 d1 d2
  have HNY : Hid (∀ W, Below w2.heap.size w2 W → Below w1.heap.size w1 W) := Lib.hid (fun W h => HB2.out.trans (h.mono HB2.out.size))
  go_upto_region 2 with fail
  refine wp_region_held (S := fun W => Below w2.heap.size w2 W) (by kernel_rfl) ?_
  have S0 : Below w2.heap.size w2 w2.drew := (Below.refl _ _).drew
  change wpAnyH _ _ _ _ _ _ _ _ w2.drew
  obtain ⟨wd, hwd⟩ : ∃ wd, wd = w2.drew := ⟨_, rfl⟩
  rw [← hwd] at S0 ⊢
  clear hwd
  refine held_take (i := 0) (v := .pointer (some ⟨w.heap.size, 0, none⟩)) (some 17) rfl rfl (by kernel_rfl) (by kernel_rfl) (by kernel_rfl) (fun _ _ _ h => h) (yieldsIf_run (by kernel_rfl) (fun W _ => by kernel_rfl)) S0 ?_
  refine held_take (i := 1) (v := .int .i64 p) (some 18) rfl rfl (by kernel_rfl) (by kernel_rfl) (by kernel_rfl) (fun _ _ _ h => h) (yieldsIf_cell (by kernel_rfl) rfl (by kernel_rfl) (fun W h => hload W (HNX.out W (HNY.out W h)).1.c0)) S0 ?_
  refine held_take (i := 2) (v := .pointer (some ⟨w.heap.size, 0, none⟩)) (some 19) rfl rfl (by kernel_rfl) (by kernel_rfl) (by kernel_rfl) (fun _ _ _ h => h) (yieldsIf_run (by kernel_rfl) (fun W _ => by kernel_rfl)) S0 ?_
  refine held_take (i := 3) (v := .int .i64 p) (some 20) rfl rfl (by kernel_rfl) (by kernel_rfl) (by kernel_rfl) (fun _ _ _ h => h) (yieldsIf_cell (by kernel_rfl) rfl (by kernel_rfl) (fun W h => hload W (HNX.out W (HNY.out W h)).1.c0)) S0 ?_
  refine held_take (i := 4) (v := .int .i64 (p - 1)) (some 21) rfl rfl (by kernel_rfl) (by kernel_rfl) (by kernel_rfl) (fun _ _ _ h => h) (yieldsIf_bin (by kernel_rfl) rfl (by kernel_rfl) (by kernel_rfl) (fun _ => rfl) (hsubI (by omega) (by omega))) S0 ?_
  refine held_take (i := 5) (v := .agg #[.int .i64 p, .slice ad ds.length cap, .slice am ms.length capm]) (some 22) rfl rfl (by kernel_rfl) (by kernel_rfl) (by kernel_rfl) (fun _ _ _ h => h) (yieldsIf_cell (by kernel_rfl) rfl (by kernel_rfl) (fun W h => hload3x (HNX.out W (HNY.out W h)).1)) S0 ?_
  refine held_take (i := 6) (v := .int .i64 (k : Int)) (some 23) rfl rfl (by kernel_rfl) (by kernel_rfl) (by kernel_rfl) (fun _ _ _ h => h) (yieldsIf_move (by kernel_rfl) rfl (by kernel_rfl)) S0 ?_
  refine held_enter (i := 7) (some 24) (f := 58) (args := #[.agg #[.int .i64 p, .slice ad ds.length cap, .slice am ms.length capm], .int .i64 (k : Int)]) (by kernel_rfl) rfl rfl rfl (by kernel_rfl) (differentialTable_any p k _ _ ds ms _ (HNX.out _ (HNY.out _ S0)).1.cx HCX.out hk) ?_ (fun c w' h => by obtain ⟨_, h, _⟩ := h; cases h) (fun w' h => by obtain ⟨_, h, _⟩ := h; cases h)
  rintro ee V1 ⟨u1, he, hg1, hb1⟩
  injection he with he
  subst he
  rw [← HTE.out] at hg1
  obtain ⟨a1, c1, hv1⟩ := Sl.shape hg1
  subst hv1
  have S1 : Below w2.heap.size w2 V1 := S0.trans (hb1.mono S0.size)
  refine ⟨S1, ?_⟩
  refine held_enter (i := 8) (some 25) (f := 57) (args := #[.int .i64 p, .int .i64 (p - 1), .slice a1 t.length c1]) (by kernel_rfl) rfl rfl rfl (by kernel_rfl) (scaledTable_any p (p - 1) r _ t V1 (by omega) (by omega) ⟨by omega, by omega⟩ hg1 (by omega) (by omega) HTR.out) ?_ (fun c w' h => by cases h.1) (fun w' h => by cases h.1)
  rintro ee V2 ⟨he, hm2⟩
  injection he with he
  subst he
  have S2 : Below w2.heap.size w2 V2 := S1.trans (hm2.below.mono S1.size)
  refine ⟨S2, ?_⟩
  refine held_take (i := 9) (v := .slice (some ⟨V1.heap.size, 0, none⟩) t.length t.length) (some 10) rfl rfl (by kernel_rfl) (by kernel_rfl) (by kernel_rfl) (fun _ _ _ h => h) (yieldsIf_assign (by kernel_rfl) rfl (by kernel_rfl)) S2 ?_
  refine wpAnyH_done (by kernel_rfl) ?_ _
  simp only [Act.put, List.setIfInBounds_toArray, List.set_cons_zero, List.set_cons_succ]
  obtain ⟨b, hb⟩ : ∃ b, b = tableOf t.length r (scZ p (p - 1) t) := ⟨_, rfl⟩
  have HBE := Lib.hid hb
  have HLB : Hid (L2 0 V2 (.slice (some ⟨V1.heap.size, 0, none⟩) t.length t.length) b) := Lib.hid (by rw [hb]; exact hm2.w2.l2.lower (Nat.zero_le _))
  have HBL : Hid (b.length = t.length) := Lib.hid (by rw [hb]; simp [tableOf])
  have HBR : Hid (∀ y ∈ b, y.length = r) := Lib.hid (fun y hy => by
    rw [hb] at hy
    obtain ⟨j, _, rfl⟩ := List.mem_map.1 hy
    simp)
  rw [← hb]
  obtain ⟨g1, hg1e⟩ : ∃ g, g = V1.heap.size := ⟨_, rfl⟩
  rw [← hg1e] at HLB ⊢
  obtain ⟨w3, hw3⟩ : ∃ w3 : World, w3 = V2 := ⟨_, rfl⟩
  rw [← hw3] at HLB S2 ⊢
  have HB3 := Lib.hid S2
  clear S0 S1 S2 hb1 hg1 hm2 hw3 hg1e hb
  have HNZ : Hid (∀ W, Below w3.heap.size w3 W → Below w1.heap.size w1 W) := Lib.hid (fun W h => HNY.out W (HB3.out.trans (h.mono HB3.out.size)))
  have hwk : IntKind.i64.wrap ((k : Int) - 1) = (k : Int) - 1 := IntWalk.i64_in _ (by omega)
  go_upto_region 3 with fail
  refine wp_region_held (S := fun W => Below w3.heap.size w3 W) (by kernel_rfl) ?_
  have S0 : Below w3.heap.size w3 w3.drew := (Below.refl _ _).drew
  change wpAnyH _ _ _ _ _ _ _ _ w3.drew
  obtain ⟨wd, hwd⟩ : ∃ wd, wd = w3.drew := ⟨_, rfl⟩
  rw [← hwd] at S0 ⊢
  clear hwd
  refine held_take (i := 0) (v := .slice aa a.length ca) (some 26) rfl rfl (by kernel_rfl) (by kernel_rfl) (by kernel_rfl) (fun _ _ _ h => h) (yieldsIf_move (by kernel_rfl) rfl (by kernel_rfl)) S0 ?_
  refine held_take (i := 1) (v := .agg #[.int .i64 p, .slice ad2 ds2.length cap2, .slice am2 ms2.length capm2]) (some 27) rfl rfl (by kernel_rfl) (by kernel_rfl) (by kernel_rfl) (fun _ _ _ h => h) (yieldsIf_cell (by kernel_rfl) rfl (by kernel_rfl) (fun W h => hload3x (HNX.out W (HNZ.out W h)).2.1)) S0 ?_
  refine held_take (i := 2) (v := .int .i64 (k : Int)) (some 28) rfl rfl (by kernel_rfl) (by kernel_rfl) (by kernel_rfl) (fun _ _ _ h => h) (yieldsIf_move (by kernel_rfl) rfl (by kernel_rfl)) S0 ?_
  refine held_take (i := 4) (v := .slice (some ⟨g1, 0, none⟩) t.length t.length) (some 30) rfl rfl (by kernel_rfl) (by kernel_rfl) (by kernel_rfl) (fun _ _ _ h => h) (yieldsIf_move (by kernel_rfl) rfl (by kernel_rfl)) S0 ?_
  refine held_take (i := 5) (v := .agg #[.int .i64 p, .slice ad ds.length cap, .slice am ms.length capm]) (some 31) rfl rfl (by kernel_rfl) (by kernel_rfl) (by kernel_rfl) (fun _ _ _ h => h) (yieldsIf_cell (by kernel_rfl) rfl (by kernel_rfl) (fun W h => hload3x (HNX.out W (HNZ.out W h)).1)) S0 ?_
  refine held_take (i := 6) (v := .int .i64 (k : Int)) (some 32) rfl rfl (by kernel_rfl) (by kernel_rfl) (by kernel_rfl) (fun _ _ _ h => h) (yieldsIf_move (by kernel_rfl) rfl (by kernel_rfl)) S0 ?_
  refine held_take (i := 7) (v := .int .i64 ((k : Int) - 1)) (some 33) rfl rfl (by kernel_rfl) (by kernel_rfl) (by kernel_rfl) (fun _ _ _ h => h) (yieldsIf_bin (by kernel_rfl) rfl (by kernel_rfl) (by kernel_rfl) (fun _ => rfl) (hsubA hwk)) S0 ?_
  refine held_enter (i := 3) (some 29) (f := 40) (args := #[.agg #[.int .i64 p, .slice ad2 ds2.length cap2, .slice am2 ms2.length capm2], .int .i64 (k : Int)]) (by kernel_rfl) rfl rfl rfl (by kernel_rfl) (dimAt_any p (k : Int) _ _ ds2 ms2 _ (HNX.out _ (HNZ.out _ S0)).2.1.cx (by omega)) ?_ (fun c w' h => by cases h.1) (fun w' h => by cases h.1)
  rintro ee V1 ⟨he, hb1⟩
  injection he with he
  subst he
  rw [HLZ.out]
  have S1 : Below w3.heap.size w3 V1 := S0.trans (hb1.mono S0.size)
  refine ⟨S1, ?_⟩
  refine held_enter (i := 8) (some 34) (f := 40) (args := #[.agg #[.int .i64 p, .slice ad ds.length cap, .slice am ms.length capm], .int .i64 ((k : Int) - 1)]) (by kernel_rfl) rfl rfl rfl (by kernel_rfl) (dimAt_any p ((k : Int) - 1) _ _ ds ms _ (HNX.out _ (HNZ.out _ S1)).1.cx (by omega)) ?_ (fun c w' h => by cases h.1) (fun w' h => by cases h.1)
  rintro ee V2 ⟨he, hb2⟩
  injection he with he
  subst he
  rw [HRZ.out]
  have S2 : Below w3.heap.size w3 V2 := S1.trans (hb2.mono S1.size)
  refine ⟨S2, ?_⟩
  have hsm := sumTable_any (.slice aa a.length ca) (.slice (some ⟨g1, 0, none⟩) t.length t.length) a b l r V2 ((HU2.out.below HB3.out).below S2) (HLB.out.below S2) (by omega) (by rw [HBL.out]; omega) (by omega) (by omega) HAR.out HBR.out
  rw [HBL.out] at hsm
  refine held_enter (i := 9) (some 35) (f := 59) (args := #[.slice aa a.length ca, .int .i64 (l : Int), .slice (some ⟨g1, 0, none⟩) t.length t.length, .int .i64 (r : Int)]) (by kernel_rfl) rfl rfl rfl (by kernel_rfl) (hsm) ?_ (fun c w' h => by cases h.1) (fun w' h => by cases h.1)
  rintro ee V3 ⟨he, hm3⟩
  injection he with he
  subst he
  have S3 : Below w3.heap.size w3 V3 := S2.trans (hm3.below.mono S2.size)
  refine ⟨S3, ?_⟩
  obtain ⟨R, hR⟩ : ∃ R, R = a.length + t.length := ⟨_, rfl⟩
  have HRE := Lib.hid hR
  rw [← hR] at hm3 ⊢
  refine held_take (i := 10) (v := .slice (some ⟨V2.heap.size, 0, none⟩) R R) (some 11) rfl rfl (by kernel_rfl) (by kernel_rfl) (by kernel_rfl) (fun _ _ _ h => h) (yieldsIf_assign (by kernel_rfl) rfl (by kernel_rfl)) S3 ?_
  refine wpAnyH_done (by kernel_rfl) ?_ _
  simp only [Act.put, List.setIfInBounds_toArray, List.set_cons_zero, List.set_cons_succ]
  have HBV : Hid (Below w.heap.size w V2) := Lib.hid ((HB01.out.trans ((HNZ.out _ S2).mono HB01.out.size)))
  have HM0 : Hid (Mat V2 V3 R (l + r) (cnZ a l b f 0)) := Lib.hid (by rw [cnZ_0, HBL.out]; exact hm3)
  have HS2 := Lib.hid (HNZ.out _ S2)
  clear S0 S1 S2 S3 hb1 hb2 hm3 hsm hR
  obtain ⟨c, hc⟩ : ∃ c, c = l + r := ⟨_, rfl⟩
  have HCE := Lib.hid hc
  rw [← hc] at HM0 ⊢
  clear hc
  refine Sl.cases (HNX.out V3 (HS2.out.trans (HM0.out.below.mono HS2.out.size))).2.2 (fun _ _ hx _ => absurd hkf (by simp [hx])) (fun bf of cf2 hvf _ _ hcf => ?_)
  injection hvf with e1 e2 e3
  clear e2
  subst e1 e3
  obtain ⟨uf, huf, hrf⟩ := (by
    have h9 := (HNX.out V2 HS2.out).2.2
    refine Sl.cases h9 (fun _ _ hx _ => absurd hkf (by simp [hx])) (fun b9 o9 c9 hv9 _ _ hc9 => ?_)
    injection hv9 with e1 e2 e3
    injection e1 with e1
    injection e1 with e1 e4
    subst e1 e4
    exact hc9 k hkf : ∃ u, V2.cell? ⟨bf, of + k, none⟩ = some u ∧ L2 0 V2 u fs[k])
  rw [← getD_of_lt [] hkf, ← HFE.out] at hrf
  obtain ⟨a9, c9, hv9⟩ := Sl.shape hrf
  subst hv9
  have HLF := Lib.hid hrf
  have HUF := Lib.hid huf
  clear hcf hrf huf
  have f1 : V3.cell? ⟨bf, of + k, none⟩ = some (.slice a9 f.length c9) := later HM0.out.below (Nat.le_refl _) HUF.out
  have hf8 : f.length ≤ 8 := by have := HFL.out; omega
  have hk0 : (0 : Int) ≤ (k : Int) := by omega
  have hk1 : (k : Int) < (fs.length : Int) := by omega
  go_wp2
  clear f1
  go_loopw [12, 13, 41] (fun _ _ i wr => ∃ (q : Nat), q ≤ f.length ∧ i = .int .i64 q ∧ Hid (Mat V2 wr R c (cnZ a l b f q))) (fun _ _ i _ => f.length - (intOf i).toNat)
  case atStart => exact ⟨0, Nat.zero_le _, rfl, HM0⟩
  case round =>
    clear HM0
    obtain ⟨q, hq, rfl, HM⟩ := hrel
    obtain ⟨wx, hwx⟩ : ∃ wx : World, wx = wr := ⟨_, rfl⟩
    subst hwx
    by_cases hlt : q < f.length
    · obtain ⟨m, hm⟩ : ∃ m, m = a.length + q := ⟨_, rfl⟩
      have hmR : m < R := by have := HRE.out; have := HFL.out; omega
      have hlR : (m : Int) < (R : Int) := by omega
      have hw3 : IntKind.i64.wrap ((a.length : Int) + (q : Int)) = (m : Int) := by rw [show (a.length : Int) + (q : Int) = (m : Int) by omega]; exact IntWalk.i64_in _ (by have := HFL.out; omega)
      refine Sl.cases (HLF.out.below HM.out.below) (fun _ _ hx _ => absurd hlt (by simp [hx])) (fun bk ok c2' hvv _ _ hcl => ?_)
      injection hvv with e1 e2 e3
      clear e2
      subst e1 e3
      obtain ⟨ur, hur, hrr⟩ := hcl q hlt
      obtain ⟨y, hy⟩ : ∃ y, y = f[q] := ⟨_, rfl⟩
      rw [← hy] at hrr
      have hyl : y.length = l := by rw [hy]; exact HFR.out _ (List.getElem_mem hlt)
      have hyg : f.getD q [] = y := by rw [getD_of_lt _ hlt, hy]
      obtain ⟨ar, cr, hus⟩ := Sl.shape hrr
      rw [hyl] at hus
      subst hus
      have htop := HM.out.top.cell hmR
      have hce := HCE.out
      obtain ⟨W, hrun, hsz, hmat⟩ := copy_into HM.out (q := 0) hmR c c ar cr y (by rw [hyl]; exact hrr) (by omega) (by omega)
      have HM2 : Hid (Mat V2 W R c (cnZ a l b f (q + 1))) := Lib.hid (hmat.congr (fun j hj i hi => by
        unfold cnZ
        by_cases e : j = m
        · subst e
          by_cases h2 : i < l
          · rw [if_pos ⟨rfl, by omega, by omega⟩, if_pos ⟨by omega, by omega, h2⟩, show j - a.length = q by omega, hyg, Nat.sub_zero]
          · rw [if_neg (by omega), if_neg (by omega), if_neg (by omega)]
        · rw [if_neg (by omega)]
          by_cases h3 : a.length ≤ j ∧ j < a.length + q ∧ i < l
          · rw [if_pos h3, if_pos (by omega)]
          · rw [if_neg h3, if_neg (by omega)]))
      have HRUN := Lib.hid (by rw [hyl] at hrun; exact hrun)
      have hlk : (q : Int) < (f.length : Int) := by omega
      clear hcl hrr hy hyg hmat hrun hsz HM hm hce hyl
      go_wp2
      rw [HRUN.out]
      go_wp2
      go_roundw
      case rel => exact ⟨q + 1, by omega, by go_num, HM2⟩
      case measure => simp [intOf]; omega
    · have hlk : ¬ (q : Int) < (f.length : Int) := by omega
      have HM3 : Hid (Mat V2 wx R c (cnZ a l b f f.length)) := Lib.hid (by have h0 := HM.out; rwa [show q = f.length by omega] at h0)
      clear HM
      go_wp2
      go_ret
      exact ⟨V2, by rw [← HRE.out]; rfl, HBV.out, by have h9 := HM3.out; rw [HRE.out, HCE.out, HBE.out] at h9; exact h9⟩
end Go.Proofs.YtpdkfidmmjlmnabDoor


namespace Go.Proofs.YtpdkfidmmjlmnabDoor
open Go.RowKit

def cnd (ds ds2 : List Int) (j : Nat) : Int := dimZ ds2 (j : Int) + dimZ ds ((j : Int) - 1)
def cnD (ds ds2 : List Int) : List Int := (List.range (ds.length + 1)).map (cnd ds ds2)
def cnTb (p : Int) (ds : List Int) (ms : List (List (List Int))) (ds2 : List Int) (ms2 fs : List (List (List Int))) (k : Nat) : List (List Int) :=
  tableOf ((tabN ms2 k).length + (cycT ds ms k).length) ((dimZ ds2 (k : Int)).toNat + (dimZ ds ((k : Int) - 1)).toNat) (cnZ (tabN ms2 k) (dimZ ds2 (k : Int)).toNat (tableOf (cycT ds ms k).length (dimZ ds ((k : Int) - 1)).toNat (scZ p (p - 1) (cycT ds ms k))) (fs.getD k []) (fs.getD k []).length)
def cnM (p : Int) (ds : List Int) (ms : List (List (List Int))) (ds2 : List Int) (ms2 fs : List (List (List Int))) : List (List (List Int)) := (List.range ds.length).map (cnTb p ds ms ds2 ms2 fs)
theorem cnD_length (ds ds2 : List Int) : (cnD ds ds2).length = ds.length + 1 := by simp [cnD]
theorem cnM_length (p : Int) (ds : List Int) (ms : List (List (List Int))) (ds2 : List Int) (ms2 fs : List (List (List Int))) : (cnM p ds ms ds2 ms2 fs).length = ds.length := by simp [cnM]
theorem cn_rc {w W : World} {p : Int} {ds : List Int} {ms : List (List (List Int))} {ds2 : List Int} {ms2 fs : List (List (List Int))} {bd bm n m : Nat} {f : Nat → Value} {b : Nat → Nat} (hm : m = ds.length) (hn : n = ds.length + 1) (hb : n ≤ 1048576) (hb2 : m ≤ 1048576)
    (hdim : W.rowIs bd 2 n (fun j => .int .i64 (cnd ds ds2 j))) (hfill : Fill3 W bm m m f b (cnM p ds ms ds2 ms2 fs)) (l1 : w.heap.size ≤ bd) (l2 : w.heap.size ≤ bm) (l3 : bd < b 0) :
    RcW w.heap.size W.heap.size W (.slice (some ⟨bd, 0, none⟩) n n) (.slice (some ⟨bm, 0, none⟩) m m) (cnD ds ds2) (cnM p ds ms ds2 ms2 fs) := by
  obtain ⟨q3, J, s3, n3, d3, z3⟩ := hfill.parts (by rw [cnM_length]; exact hm) hb2
  obtain ⟨q1, I, s1, n1, b1, z1⟩ := row_rc (xs := cnD ds ds2) hdim (by rw [cnD_length]; exact hn.symm) (fun i hi => by simp [cnD]) hb l1
  refine ⟨⟨q1, q3.wider l2 (Nat.le_refl _)⟩, I, J, s1, s3.wider l2 (Nat.le_refl _), n1, n3.wider ?_ (Nat.le_refl _), d3, fun x hx y hy => Or.inl ?_, z1, z3⟩
  · omega
  · have h1 := b1 x hx
    have h2 := (n3 y hy).1
    rw [h1]
    omega
/-- The answers of coneComplex. -/
def CnR (p : Int) (ds : List Int) (ms : List (List (List Int))) (ds2 : List Int) (ms2 fs : List (List (List Int))) (w : World) (e : Ending) (w' : World) : Prop := ∃ u, e = .returned u ∧ RwC w.heap.size w'.heap.size w' u (p, cnD ds ds2, cnM p ds ms ds2 ms2 fs) ∧ Below w.heap.size w w'
end Go.Proofs.YtpdkfidmmjlmnabDoor


namespace Go.Proofs.YtpdkfidmmjlmnabDoor
open Go.RowKit

set_option maxHeartbeats 12800000 in
set_option maxRecDepth 100000 in
theorem coneComplex_any (p : Int) (dv mv dv2 mv2 fv : Value) (ds : List Int) (ms : List (List (List Int))) (ds2 : List Int) (ms2 fs : List (List (List Int))) (w : World) (h : Cx 0 w dv mv ds ms) (h2 : Cx 0 w dv2 mv2 ds2 ms2) (hf : L3 0 w fv fs) (hcx : IsCx p ds ms) (hcy : IsCx p ds2 ms2) (hl : ds.length = ds2.length) (hF : FamOk p ds ds2 0 fs) :
    Calls Tryd.prog 22 #[.agg #[.int .i64 p, dv, mv], .agg #[.int .i64 p, dv2, mv2], fv] w (CnR p ds ms ds2 ms2 fs w) := by
  have hres : Tryd.f22.results = #[.cell 6 28] := by kernel_rfl
  have HRES := Lib.hid hres
  obtain ⟨ad, cap, rfl⟩ := Sl.shape h.dims
  obtain ⟨am, capm, rfl⟩ := Sl.shape h.maps
  obtain ⟨ad2, cap2, rfl⟩ := Sl.shape h2.dims
  obtain ⟨am2, capm2, rfl⟩ := Sl.shape h2.maps
  obtain ⟨af, cf, rfl⟩ := Sl.shape hf
  obtain ⟨k1, k2⟩ := bx_two (p := p) (p2 := p) 28 h h2
  obtain ⟨wa, hwa⟩ : ∃ wa, wa = ((w.alloc (.cells #[.int .i64 p, .slice ad ds.length cap, .slice am ms.length capm] 28)).alloc (.cells #[.int .i64 p, .slice ad2 ds2.length cap2, .slice am2 ms2.length capm2] 28)) := ⟨_, rfl⟩
  rw [← hwa] at k1 k2
  obtain ⟨w1, hw1⟩ : ∃ w1, w1 = wa.alloc (.cells #[.int .i64 0, .slice none 0 0, .slice none 0 0] 28) := ⟨_, rfl⟩
  have hsa : wa.heap.size = w.heap.size + 2 := by rw [hwa]; simp
  have hs1 : w.heap.size + 3 ≤ w1.heap.size := by rw [hw1]; simp [hsa]
  have hba : Below wa.heap.size wa w1 := by rw [hw1]; exact below_alloc1 _ _
  have HX := Lib.hid (k1.next hba)
  have HY := Lib.hid (k2.next hba)
  have HF1 := Lib.hid (hf.below HX.out.below)
  have HR0 : Hid (Rz w1 (w.heap.size + 2) 28 #[.int .i64 0, .slice none 0 0, .slice none 0 0]) := Lib.hid (by rw [hw1, ← hsa]; exact Rz.new _ _ _)
  have HNX : Hid (∀ W, Below w1.heap.size w1 W → Bx w W w.heap.size p (.slice ad ds.length cap) (.slice am ms.length capm) ds ms ∧ Bx w W (w.heap.size + 1) p (.slice ad2 ds2.length cap2) (.slice am2 ms2.length capm2) ds2 ms2 ∧ L3 0 W (.slice af fs.length cf) fs ∧ Rz W (w.heap.size + 2) 28 #[.int .i64 0, .slice none 0 0, .slice none 0 0]) := Lib.hid (fun W hb => ⟨HX.out.next hb, HY.out.next hb, HF1.out.below hb, HR0.out.next hb⟩)
  have HCX := Lib.hid hcx
  have HCY := Lib.hid hcy
  have HLL := Lib.hid hl
  have HFO := Lib.hid hF
  have hl6 := hcx.1.len1
  have hl0 := hcx.1.len0
  have c0 := HX.out.c0
  have c1 := HX.out.c1
  have c2 := HX.out.c2
  clear h h2 hf k1 k2 hba hcx hcy hl hF hres HX HY HF1 HR0
  go_enter Tryd.func22, Tryd.ntmps22
  go_upto_region 1 with fail
  rw [← hwa, ← hw1]
  clear hwa hw1 hsa
  obtain ⟨t, ht⟩ : ∃ t, t = ds.length := ⟨_, rfl⟩
  have HT := Lib.hid ht
  obtain ⟨n, hn⟩ : ∃ n, n = ds.length + 1 := ⟨_, rfl⟩
  have HN := Lib.hid hn
  have hnt : n = t + 1 := by omega
  have ht6 : t ≤ 6 := by omega
  have HNT := Lib.hid hnt
  have HTO : Hid (Calls Tryd.prog 39 #[.agg #[.int .i64 p, .slice ad ds.length cap, .slice am ms.length capm]] w1 (BR (.int .i64 ((t : Int) - 1)) w1)) := Lib.hid (by rw [ht]; exact topOf_any p _ _ ds.length ad cap _ rfl (by omega))
  have hwt : IntKind.i64.wrap ((t : Int) - 1 + 1) = (t : Int) := by rw [Int.sub_add_cancel]; exact IntWalk.i64_in _ (by omega)
  go_wp2_with fail
  refine HTO.out.mono ?_
  rintro ee wB ⟨rfl, hbB⟩
  have HBB := Lib.hid hbB
  have hsB : w1.heap.size ≤ wB.heap.size := hbB.size
  clear hbB c0 c1 c2
  have hwn : IntKind.i64.wrap ((t : Int) + 1) = (n : Int) := by rw [show (t : Int) + 1 = (n : Int) by omega]; exact IntWalk.i64_in _ (by omega)
  have hn7 : n ≤ 7 := by omega
  have hmk := run_make_row' (P := Tryd.prog) 22 2 (.int .i64 0) 8 Tryd.underlying22 Tryd.infoI rfl .i64 .i64 n (by omega) (by omega)
  have hmk2 := run_make_row' (P := Tryd.prog) 23 39 (.slice none 0 0) 24 Tryd.underlying23 Tryd.infoSS rfl .i64 .i64 t (by omega) (by omega)
  have HNB : Hid (∀ W, Below wB.heap.size wB W → Bx w W w.heap.size p (.slice ad ds.length cap) (.slice am ms.length capm) ds ms ∧ Bx w W (w.heap.size + 1) p (.slice ad2 ds2.length cap2) (.slice am2 ms2.length capm2) ds2 ms2 ∧ L3 0 W (.slice af fs.length cf) fs ∧ Rz W (w.heap.size + 2) 28 #[.int .i64 0, .slice none 0 0, .slice none 0 0]) := Lib.hid (fun W hb => HNX.out _ (HBB.out.trans (hb.mono hsB)))
  clear ht hn hnt HTO
  go_upto_region 2 with fail
  go_cut [8] from 14 to 21 (fun s wx => ∃ g bd bm, s = .pointer (some ⟨g, 0, none⟩) ∧ Hid (Du wB wx g bd bm n t p (fun _ => .int .i64 0) (fun _ => .slice none 0 0)))
  case first =>
    go_wp2
    refine wp_region_held (S := fun W => Below (wB.heap.size) wB W) (by kernel_rfl) ?_
    have S0 : Below (wB.heap.size) wB wB.drew := (Below.refl _ _).drew
    have hsd : wB.heap.size ≤ wB.drew.heap.size := Nat.le_refl _
    have hB0 : wB.heap.size ≤ wB.heap.size := by first | exact Nat.le_refl _ | omega
    change wpAnyH _ _ _ _ _ _ _ _ wB.drew
    obtain ⟨wd, hwd⟩ : ∃ wd, wd = wB.drew := ⟨_, rfl⟩
    rw [← hwd] at S0 hsd ⊢
    clear hwd
    refine held_take (i := 0) (v := .pointer (some ⟨w.heap.size, 0, none⟩)) (some 14) rfl rfl (by kernel_rfl) (by kernel_rfl) (by kernel_rfl) (fun _ _ _ h => h) (yieldsIf_run (by kernel_rfl) (fun W _ => by kernel_rfl)) S0 ?_
    refine held_take (i := 1) (v := .int .i64 p) (some 15) rfl rfl (by kernel_rfl) (by kernel_rfl) (by kernel_rfl) (fun _ _ _ h => h) (yieldsIf_cell (by kernel_rfl) rfl (by kernel_rfl) (fun W h => hload W ((HNB.out W h).1.c0))) S0 ?_
    refine held_take (i := 2) (v := .int .i64 (t : Int)) (some 16) rfl rfl (by kernel_rfl) (by kernel_rfl) (by kernel_rfl) (fun _ _ _ h => h) (yieldsIf_move (by kernel_rfl) rfl (by kernel_rfl)) S0 ?_
    refine held_take (i := 3) (v := .int .i64 (n : Int)) (some 17) rfl rfl (by kernel_rfl) (by kernel_rfl) (by kernel_rfl) (fun _ _ _ h => h) (yieldsIf_bin (by kernel_rfl) rfl (by kernel_rfl) (by kernel_rfl) (fun _ => rfl) (haddA hwn)) S0 ?_
    refine held_take (i := 5) (v := .int .i64 (t : Int)) (some 19) rfl rfl (by kernel_rfl) (by kernel_rfl) (by kernel_rfl) (fun _ _ _ h => h) (yieldsIf_move (by kernel_rfl) rfl (by kernel_rfl)) S0 ?_
    refine held_three (i := 4) (j := 6) (l := 8) (by kernel_rfl) ?_ ?_ ?_
    · obtain ⟨W1, hW1⟩ : ∃ W', W' = wd.alloc (.cells (madeCells #[.int .i64 0] n) 2) := ⟨_, rfl⟩
      have hb1 : Below wd.heap.size wd W1 := by rw [hW1]; exact below_alloc1 _ _
      have hz1 : W1.heap.size = wd.heap.size + 1 := by rw [hW1]; simp
      have S1 : Below (wB.heap.size) wB W1 := S0.trans (hb1.mono (by omega))
      have hD1 : W1.rowIs wd.heap.size 2 n (fun _ => .int .i64 0) := by rw [hW1]; exact World.rowIs_made wd _ _ _
      refine op_make (i := 4) (v := .slice (some ⟨wd.heap.size, 0, none⟩) n n) (w' := W1) (x := .int .i64 (n : Int)) (y := .int .i64 (n : Int)) (some 18) 22 (.tmp 17) (.tmp 17) rfl rfl rfl rfl (by kernel_rfl) (by kernel_rfl) (by rw [hW1]; exact hmk _) ?_
      refine ⟨S1, ?_⟩
      refine held_two (i := 6) (j := 8) (by kernel_rfl) ?_ ?_
      · obtain ⟨W2, hW2⟩ : ∃ W', W' = W1.alloc (.cells (madeCells #[.slice none 0 0] t) 39) := ⟨_, rfl⟩
        have hb2 : Below W1.heap.size W1 W2 := by rw [hW2]; exact below_alloc1 _ _
        have hz2 : W2.heap.size = W1.heap.size + 1 := by rw [hW2]; simp
        have S2 : Below (wB.heap.size) wB W2 := S1.trans (hb2.mono (by omega))
        have hD2 := hD1.of_block (hb2.block _ hD1.lt)
        have hM2 : W2.rowIs W1.heap.size 39 t (fun _ => .slice none 0 0) := by rw [hW2]; exact World.rowIs_made W1 _ _ _
        refine op_make (i := 6) (v := .slice (some ⟨W1.heap.size, 0, none⟩) t t) (w' := W2) (x := .int .i64 (t : Int)) (y := .int .i64 (t : Int)) (some 20) 23 (.tmp 19) (.tmp 19) rfl rfl rfl rfl (by kernel_rfl) (by kernel_rfl) (by rw [hW2]; exact hmk2 _) ?_
        refine ⟨S2, ?_⟩
        refine held_take (i := 7) (v := .agg #[.int .i64 p, .slice (some ⟨wd.heap.size, 0, none⟩) n n, .slice (some ⟨W1.heap.size, 0, none⟩) t t]) (some 21) rfl rfl (by kernel_rfl) (by kernel_rfl) (by kernel_rfl) (fun _ _ _ h => h) (yieldsIf_run (by kernel_rfl) (fun W _ => by kernel_rfl)) S2 ?_
        refine held_one (i := 8) (by kernel_rfl) ?_
        · obtain ⟨W3, hW3⟩ : ∃ W', W' = W2.alloc (.cells #[.int .i64 0, .slice none 0 0, .slice none 0 0] 28) := ⟨_, rfl⟩
          have hb3 : Below W2.heap.size W2 W3 := by rw [hW3]; exact below_alloc1 _ _
          have hz3 : W3.heap.size = W2.heap.size + 1 := by rw [hW3]; simp
          have S3 : Below (wB.heap.size) wB W3 := S2.trans (hb3.mono (by omega))
          have hD3 := hD2.of_block (hb3.block _ hD2.lt)
          have hM3 := hM2.of_block (hb3.block _ hM2.lt)
          have hR3 : Rz W3 W2.heap.size 28 #[.int .i64 0, .slice none 0 0, .slice none 0 0] := by rw [hW3]; exact Rz.new _ _ _
          refine op_mem (i := 8) (v := .pointer (some ⟨W2.heap.size, 0, none⟩)) (w' := W3) (some 8) rfl rfl rfl (by rw [hW3]; go_simp) ?_
          refine ⟨S3, ?_⟩
          have S9 : Below (wB.heap.size) wB (W3.setRow (W2.heap.size) #[.int .i64 p, .slice (some ⟨wd.heap.size, 0, none⟩) n n, .slice (some ⟨W1.heap.size, 0, none⟩) t t]) := below_setRow S3 (by omega) _
          refine held_one (i := 9) (by kernel_rfl) ?_
          refine op_row (i := 9) rfl rfl rfl 28 (.tmp 8) (.tmp 21) rfl (W2.heap.size) #[.int .i64 p, .slice (some ⟨wd.heap.size, 0, none⟩) n n, .slice (some ⟨W1.heap.size, 0, none⟩) t t] (by kernel_rfl) (by kernel_rfl) 28 _ hR3 (infoCo _ _ _) (by kernel_rfl) (by kernel_rfl) ?_
          refine ⟨S9, ?_⟩
          refine wpAnyH_done (by kernel_rfl) ?_ _
          simp only [Act.put, List.setIfInBounds_toArray, List.set_cons_zero, List.set_cons_succ]
          obtain ⟨WF, hWF⟩ : ∃ WF, WF = (W3.setRow (W2.heap.size) #[.int .i64 p, .slice (some ⟨wd.heap.size, 0, none⟩) n n, .slice (some ⟨W1.heap.size, 0, none⟩) t t]) := ⟨_, rfl⟩
          have hbF : Below (wB.heap.size) wB WF := by rw [hWF]; exact S9
          have hRF : Rz WF (W2.heap.size) 28 #[.int .i64 p, .slice (some ⟨wd.heap.size, 0, none⟩) n n, .slice (some ⟨W1.heap.size, 0, none⟩) t t] := by rw [hWF]; exact hR3.set _
          have hDF : WF.rowIs (wd.heap.size) 2 n (fun _ => .int .i64 0) := by rw [hWF]; exact hD3.of_block (setRow_other _ _ _ _ (by omega))
          have hMF : WF.rowIs (W1.heap.size) 39 t (fun _ => .slice none 0 0) := by rw [hWF]; exact hM3.of_block (setRow_other _ _ _ _ (by omega))
          have hG : (wB.heap.size ≤ W2.heap.size ∧ wB.heap.size ≤ wd.heap.size ∧ wB.heap.size ≤ W1.heap.size) ∧ W2.heap.size ≠ wd.heap.size ∧ W2.heap.size ≠ W1.heap.size ∧ wd.heap.size ≠ W1.heap.size := by omega
          rw [← hWF]
          clear hWF S9
          go_wp2
          go_meet
          exact ⟨_, _, _, rfl, Lib.hid ⟨hbF, hG.1, hG.2, rowIs3 hRF, hDF, hMF⟩⟩
      · obtain ⟨W4, hW4⟩ : ∃ W', W' = W1.alloc (.cells #[.int .i64 0, .slice none 0 0, .slice none 0 0] 28) := ⟨_, rfl⟩
        have hb4 : Below W1.heap.size W1 W4 := by rw [hW4]; exact below_alloc1 _ _
        have hz4 : W4.heap.size = W1.heap.size + 1 := by rw [hW4]; simp
        have S4 : Below (wB.heap.size) wB W4 := S1.trans (hb4.mono (by omega))
        have hD4 := hD1.of_block (hb4.block _ hD1.lt)
        have hR4 : Rz W4 W1.heap.size 28 #[.int .i64 0, .slice none 0 0, .slice none 0 0] := by rw [hW4]; exact Rz.new _ _ _
        refine op_mem (i := 8) (v := .pointer (some ⟨W1.heap.size, 0, none⟩)) (w' := W4) (some 8) rfl rfl rfl (by rw [hW4]; go_simp) ?_
        refine ⟨S4, ?_⟩
        refine held_one (i := 6) (by kernel_rfl) ?_
        · obtain ⟨W5, hW5⟩ : ∃ W', W' = W4.alloc (.cells (madeCells #[.slice none 0 0] t) 39) := ⟨_, rfl⟩
          have hb5 : Below W4.heap.size W4 W5 := by rw [hW5]; exact below_alloc1 _ _
          have hz5 : W5.heap.size = W4.heap.size + 1 := by rw [hW5]; simp
          have S5 : Below (wB.heap.size) wB W5 := S4.trans (hb5.mono (by omega))
          have hD5 := hD4.of_block (hb5.block _ hD4.lt)
          have hR5 := hR4.next hb5
          have hM5 : W5.rowIs W4.heap.size 39 t (fun _ => .slice none 0 0) := by rw [hW5]; exact World.rowIs_made W4 _ _ _
          refine op_make (i := 6) (v := .slice (some ⟨W4.heap.size, 0, none⟩) t t) (w' := W5) (x := .int .i64 (t : Int)) (y := .int .i64 (t : Int)) (some 20) 23 (.tmp 19) (.tmp 19) rfl rfl rfl rfl (by kernel_rfl) (by kernel_rfl) (by rw [hW5]; exact hmk2 _) ?_
          refine ⟨S5, ?_⟩
          refine held_take (i := 7) (v := .agg #[.int .i64 p, .slice (some ⟨wd.heap.size, 0, none⟩) n n, .slice (some ⟨W4.heap.size, 0, none⟩) t t]) (some 21) rfl rfl (by kernel_rfl) (by kernel_rfl) (by kernel_rfl) (fun _ _ _ h => h) (yieldsIf_run (by kernel_rfl) (fun W _ => by kernel_rfl)) S5 ?_
          have S9 : Below (wB.heap.size) wB (W5.setRow (W1.heap.size) #[.int .i64 p, .slice (some ⟨wd.heap.size, 0, none⟩) n n, .slice (some ⟨W4.heap.size, 0, none⟩) t t]) := below_setRow S5 (by omega) _
          refine held_one (i := 9) (by kernel_rfl) ?_
          refine op_row (i := 9) rfl rfl rfl 28 (.tmp 8) (.tmp 21) rfl (W1.heap.size) #[.int .i64 p, .slice (some ⟨wd.heap.size, 0, none⟩) n n, .slice (some ⟨W4.heap.size, 0, none⟩) t t] (by kernel_rfl) (by kernel_rfl) 28 _ hR5 (infoCo _ _ _) (by kernel_rfl) (by kernel_rfl) ?_
          refine ⟨S9, ?_⟩
          refine wpAnyH_done (by kernel_rfl) ?_ _
          simp only [Act.put, List.setIfInBounds_toArray, List.set_cons_zero, List.set_cons_succ]
          obtain ⟨WF, hWF⟩ : ∃ WF, WF = (W5.setRow (W1.heap.size) #[.int .i64 p, .slice (some ⟨wd.heap.size, 0, none⟩) n n, .slice (some ⟨W4.heap.size, 0, none⟩) t t]) := ⟨_, rfl⟩
          have hbF : Below (wB.heap.size) wB WF := by rw [hWF]; exact S9
          have hRF : Rz WF (W1.heap.size) 28 #[.int .i64 p, .slice (some ⟨wd.heap.size, 0, none⟩) n n, .slice (some ⟨W4.heap.size, 0, none⟩) t t] := by rw [hWF]; exact hR5.set _
          have hDF : WF.rowIs (wd.heap.size) 2 n (fun _ => .int .i64 0) := by rw [hWF]; exact hD5.of_block (setRow_other _ _ _ _ (by omega))
          have hMF : WF.rowIs (W4.heap.size) 39 t (fun _ => .slice none 0 0) := by rw [hWF]; exact hM5.of_block (setRow_other _ _ _ _ (by omega))
          have hG : (wB.heap.size ≤ W1.heap.size ∧ wB.heap.size ≤ wd.heap.size ∧ wB.heap.size ≤ W4.heap.size) ∧ W1.heap.size ≠ wd.heap.size ∧ W1.heap.size ≠ W4.heap.size ∧ wd.heap.size ≠ W4.heap.size := by omega
          rw [← hWF]
          clear hWF S9
          go_wp2
          go_meet
          exact ⟨_, _, _, rfl, Lib.hid ⟨hbF, hG.1, hG.2, rowIs3 hRF, hDF, hMF⟩⟩
    · obtain ⟨W6, hW6⟩ : ∃ W', W' = wd.alloc (.cells (madeCells #[.slice none 0 0] t) 39) := ⟨_, rfl⟩
      have hb6 : Below wd.heap.size wd W6 := by rw [hW6]; exact below_alloc1 _ _
      have hz6 : W6.heap.size = wd.heap.size + 1 := by rw [hW6]; simp
      have S6 : Below (wB.heap.size) wB W6 := S0.trans (hb6.mono (by omega))
      have hM6 : W6.rowIs wd.heap.size 39 t (fun _ => .slice none 0 0) := by rw [hW6]; exact World.rowIs_made wd _ _ _
      refine op_make (i := 6) (v := .slice (some ⟨wd.heap.size, 0, none⟩) t t) (w' := W6) (x := .int .i64 (t : Int)) (y := .int .i64 (t : Int)) (some 20) 23 (.tmp 19) (.tmp 19) rfl rfl rfl rfl (by kernel_rfl) (by kernel_rfl) (by rw [hW6]; exact hmk2 _) ?_
      refine ⟨S6, ?_⟩
      refine held_two (i := 4) (j := 8) (by kernel_rfl) ?_ ?_
      · obtain ⟨W7, hW7⟩ : ∃ W', W' = W6.alloc (.cells (madeCells #[.int .i64 0] n) 2) := ⟨_, rfl⟩
        have hb7 : Below W6.heap.size W6 W7 := by rw [hW7]; exact below_alloc1 _ _
        have hz7 : W7.heap.size = W6.heap.size + 1 := by rw [hW7]; simp
        have S7 : Below (wB.heap.size) wB W7 := S6.trans (hb7.mono (by omega))
        have hM7 := hM6.of_block (hb7.block _ hM6.lt)
        have hD7 : W7.rowIs W6.heap.size 2 n (fun _ => .int .i64 0) := by rw [hW7]; exact World.rowIs_made W6 _ _ _
        refine op_make (i := 4) (v := .slice (some ⟨W6.heap.size, 0, none⟩) n n) (w' := W7) (x := .int .i64 (n : Int)) (y := .int .i64 (n : Int)) (some 18) 22 (.tmp 17) (.tmp 17) rfl rfl rfl rfl (by kernel_rfl) (by kernel_rfl) (by rw [hW7]; exact hmk _) ?_
        refine ⟨S7, ?_⟩
        refine held_take (i := 7) (v := .agg #[.int .i64 p, .slice (some ⟨W6.heap.size, 0, none⟩) n n, .slice (some ⟨wd.heap.size, 0, none⟩) t t]) (some 21) rfl rfl (by kernel_rfl) (by kernel_rfl) (by kernel_rfl) (fun _ _ _ h => h) (yieldsIf_run (by kernel_rfl) (fun W _ => by kernel_rfl)) S7 ?_
        refine held_one (i := 8) (by kernel_rfl) ?_
        · obtain ⟨W8, hW8⟩ : ∃ W', W' = W7.alloc (.cells #[.int .i64 0, .slice none 0 0, .slice none 0 0] 28) := ⟨_, rfl⟩
          have hb8 : Below W7.heap.size W7 W8 := by rw [hW8]; exact below_alloc1 _ _
          have hz8 : W8.heap.size = W7.heap.size + 1 := by rw [hW8]; simp
          have S8 : Below (wB.heap.size) wB W8 := S7.trans (hb8.mono (by omega))
          have hM8 := hM7.of_block (hb8.block _ hM7.lt)
          have hD8 := hD7.of_block (hb8.block _ hD7.lt)
          have hR8 : Rz W8 W7.heap.size 28 #[.int .i64 0, .slice none 0 0, .slice none 0 0] := by rw [hW8]; exact Rz.new _ _ _
          refine op_mem (i := 8) (v := .pointer (some ⟨W7.heap.size, 0, none⟩)) (w' := W8) (some 8) rfl rfl rfl (by rw [hW8]; go_simp) ?_
          refine ⟨S8, ?_⟩
          have S9 : Below (wB.heap.size) wB (W8.setRow (W7.heap.size) #[.int .i64 p, .slice (some ⟨W6.heap.size, 0, none⟩) n n, .slice (some ⟨wd.heap.size, 0, none⟩) t t]) := below_setRow S8 (by omega) _
          refine held_one (i := 9) (by kernel_rfl) ?_
          refine op_row (i := 9) rfl rfl rfl 28 (.tmp 8) (.tmp 21) rfl (W7.heap.size) #[.int .i64 p, .slice (some ⟨W6.heap.size, 0, none⟩) n n, .slice (some ⟨wd.heap.size, 0, none⟩) t t] (by kernel_rfl) (by kernel_rfl) 28 _ hR8 (infoCo _ _ _) (by kernel_rfl) (by kernel_rfl) ?_
          refine ⟨S9, ?_⟩
          refine wpAnyH_done (by kernel_rfl) ?_ _
          simp only [Act.put, List.setIfInBounds_toArray, List.set_cons_zero, List.set_cons_succ]
          obtain ⟨WF, hWF⟩ : ∃ WF, WF = (W8.setRow (W7.heap.size) #[.int .i64 p, .slice (some ⟨W6.heap.size, 0, none⟩) n n, .slice (some ⟨wd.heap.size, 0, none⟩) t t]) := ⟨_, rfl⟩
          have hbF : Below (wB.heap.size) wB WF := by rw [hWF]; exact S9
          have hRF : Rz WF (W7.heap.size) 28 #[.int .i64 p, .slice (some ⟨W6.heap.size, 0, none⟩) n n, .slice (some ⟨wd.heap.size, 0, none⟩) t t] := by rw [hWF]; exact hR8.set _
          have hDF : WF.rowIs (W6.heap.size) 2 n (fun _ => .int .i64 0) := by rw [hWF]; exact hD8.of_block (setRow_other _ _ _ _ (by omega))
          have hMF : WF.rowIs (wd.heap.size) 39 t (fun _ => .slice none 0 0) := by rw [hWF]; exact hM8.of_block (setRow_other _ _ _ _ (by omega))
          have hG : (wB.heap.size ≤ W7.heap.size ∧ wB.heap.size ≤ W6.heap.size ∧ wB.heap.size ≤ wd.heap.size) ∧ W7.heap.size ≠ W6.heap.size ∧ W7.heap.size ≠ wd.heap.size ∧ W6.heap.size ≠ wd.heap.size := by omega
          rw [← hWF]
          clear hWF S9
          go_wp2
          go_meet
          exact ⟨_, _, _, rfl, Lib.hid ⟨hbF, hG.1, hG.2, rowIs3 hRF, hDF, hMF⟩⟩
      · obtain ⟨W9, hW9⟩ : ∃ W', W' = W6.alloc (.cells #[.int .i64 0, .slice none 0 0, .slice none 0 0] 28) := ⟨_, rfl⟩
        have hb9 : Below W6.heap.size W6 W9 := by rw [hW9]; exact below_alloc1 _ _
        have hz9 : W9.heap.size = W6.heap.size + 1 := by rw [hW9]; simp
        have S9 : Below (wB.heap.size) wB W9 := S6.trans (hb9.mono (by omega))
        have hM9 := hM6.of_block (hb9.block _ hM6.lt)
        have hR9 : Rz W9 W6.heap.size 28 #[.int .i64 0, .slice none 0 0, .slice none 0 0] := by rw [hW9]; exact Rz.new _ _ _
        refine op_mem (i := 8) (v := .pointer (some ⟨W6.heap.size, 0, none⟩)) (w' := W9) (some 8) rfl rfl rfl (by rw [hW9]; go_simp) ?_
        refine ⟨S9, ?_⟩
        refine held_one (i := 4) (by kernel_rfl) ?_
        · obtain ⟨W10, hW10⟩ : ∃ W', W' = W9.alloc (.cells (madeCells #[.int .i64 0] n) 2) := ⟨_, rfl⟩
          have hb10 : Below W9.heap.size W9 W10 := by rw [hW10]; exact below_alloc1 _ _
          have hz10 : W10.heap.size = W9.heap.size + 1 := by rw [hW10]; simp
          have S10 : Below (wB.heap.size) wB W10 := S9.trans (hb10.mono (by omega))
          have hM10 := hM9.of_block (hb10.block _ hM9.lt)
          have hR10 := hR9.next hb10
          have hD10 : W10.rowIs W9.heap.size 2 n (fun _ => .int .i64 0) := by rw [hW10]; exact World.rowIs_made W9 _ _ _
          refine op_make (i := 4) (v := .slice (some ⟨W9.heap.size, 0, none⟩) n n) (w' := W10) (x := .int .i64 (n : Int)) (y := .int .i64 (n : Int)) (some 18) 22 (.tmp 17) (.tmp 17) rfl rfl rfl rfl (by kernel_rfl) (by kernel_rfl) (by rw [hW10]; exact hmk _) ?_
          refine ⟨S10, ?_⟩
          refine held_take (i := 7) (v := .agg #[.int .i64 p, .slice (some ⟨W9.heap.size, 0, none⟩) n n, .slice (some ⟨wd.heap.size, 0, none⟩) t t]) (some 21) rfl rfl (by kernel_rfl) (by kernel_rfl) (by kernel_rfl) (fun _ _ _ h => h) (yieldsIf_run (by kernel_rfl) (fun W _ => by kernel_rfl)) S10 ?_
          have S9 : Below (wB.heap.size) wB (W10.setRow (W6.heap.size) #[.int .i64 p, .slice (some ⟨W9.heap.size, 0, none⟩) n n, .slice (some ⟨wd.heap.size, 0, none⟩) t t]) := below_setRow S10 (by omega) _
          refine held_one (i := 9) (by kernel_rfl) ?_
          refine op_row (i := 9) rfl rfl rfl 28 (.tmp 8) (.tmp 21) rfl (W6.heap.size) #[.int .i64 p, .slice (some ⟨W9.heap.size, 0, none⟩) n n, .slice (some ⟨wd.heap.size, 0, none⟩) t t] (by kernel_rfl) (by kernel_rfl) 28 _ hR10 (infoCo _ _ _) (by kernel_rfl) (by kernel_rfl) ?_
          refine ⟨S9, ?_⟩
          refine wpAnyH_done (by kernel_rfl) ?_ _
          simp only [Act.put, List.setIfInBounds_toArray, List.set_cons_zero, List.set_cons_succ]
          obtain ⟨WF, hWF⟩ : ∃ WF, WF = (W10.setRow (W6.heap.size) #[.int .i64 p, .slice (some ⟨W9.heap.size, 0, none⟩) n n, .slice (some ⟨wd.heap.size, 0, none⟩) t t]) := ⟨_, rfl⟩
          have hbF : Below (wB.heap.size) wB WF := by rw [hWF]; exact S9
          have hRF : Rz WF (W6.heap.size) 28 #[.int .i64 p, .slice (some ⟨W9.heap.size, 0, none⟩) n n, .slice (some ⟨wd.heap.size, 0, none⟩) t t] := by rw [hWF]; exact hR10.set _
          have hDF : WF.rowIs (W9.heap.size) 2 n (fun _ => .int .i64 0) := by rw [hWF]; exact hD10.of_block (setRow_other _ _ _ _ (by omega))
          have hMF : WF.rowIs (wd.heap.size) 39 t (fun _ => .slice none 0 0) := by rw [hWF]; exact hM10.of_block (setRow_other _ _ _ _ (by omega))
          have hG : (wB.heap.size ≤ W6.heap.size ∧ wB.heap.size ≤ W9.heap.size ∧ wB.heap.size ≤ wd.heap.size) ∧ W6.heap.size ≠ W9.heap.size ∧ W6.heap.size ≠ wd.heap.size ∧ W9.heap.size ≠ wd.heap.size := by omega
          rw [← hWF]
          clear hWF S9
          go_wp2
          go_meet
          exact ⟨_, _, _, rfl, Lib.hid ⟨hbF, hG.1, hG.2, rowIs3 hRF, hDF, hMF⟩⟩
    · obtain ⟨W11, hW11⟩ : ∃ W', W' = wd.alloc (.cells #[.int .i64 0, .slice none 0 0, .slice none 0 0] 28) := ⟨_, rfl⟩
      have hb11 : Below wd.heap.size wd W11 := by rw [hW11]; exact below_alloc1 _ _
      have hz11 : W11.heap.size = wd.heap.size + 1 := by rw [hW11]; simp
      have S11 : Below (wB.heap.size) wB W11 := S0.trans (hb11.mono (by omega))
      have hR11 : Rz W11 wd.heap.size 28 #[.int .i64 0, .slice none 0 0, .slice none 0 0] := by rw [hW11]; exact Rz.new _ _ _
      refine op_mem (i := 8) (v := .pointer (some ⟨wd.heap.size, 0, none⟩)) (w' := W11) (some 8) rfl rfl rfl (by rw [hW11]; go_simp) ?_
      refine ⟨S11, ?_⟩
      refine held_two (i := 4) (j := 6) (by kernel_rfl) ?_ ?_
      · obtain ⟨W12, hW12⟩ : ∃ W', W' = W11.alloc (.cells (madeCells #[.int .i64 0] n) 2) := ⟨_, rfl⟩
        have hb12 : Below W11.heap.size W11 W12 := by rw [hW12]; exact below_alloc1 _ _
        have hz12 : W12.heap.size = W11.heap.size + 1 := by rw [hW12]; simp
        have S12 : Below (wB.heap.size) wB W12 := S11.trans (hb12.mono (by omega))
        have hR12 := hR11.next hb12
        have hD12 : W12.rowIs W11.heap.size 2 n (fun _ => .int .i64 0) := by rw [hW12]; exact World.rowIs_made W11 _ _ _
        refine op_make (i := 4) (v := .slice (some ⟨W11.heap.size, 0, none⟩) n n) (w' := W12) (x := .int .i64 (n : Int)) (y := .int .i64 (n : Int)) (some 18) 22 (.tmp 17) (.tmp 17) rfl rfl rfl rfl (by kernel_rfl) (by kernel_rfl) (by rw [hW12]; exact hmk _) ?_
        refine ⟨S12, ?_⟩
        refine held_one (i := 6) (by kernel_rfl) ?_
        · obtain ⟨W13, hW13⟩ : ∃ W', W' = W12.alloc (.cells (madeCells #[.slice none 0 0] t) 39) := ⟨_, rfl⟩
          have hb13 : Below W12.heap.size W12 W13 := by rw [hW13]; exact below_alloc1 _ _
          have hz13 : W13.heap.size = W12.heap.size + 1 := by rw [hW13]; simp
          have S13 : Below (wB.heap.size) wB W13 := S12.trans (hb13.mono (by omega))
          have hR13 := hR12.next hb13
          have hD13 := hD12.of_block (hb13.block _ hD12.lt)
          have hM13 : W13.rowIs W12.heap.size 39 t (fun _ => .slice none 0 0) := by rw [hW13]; exact World.rowIs_made W12 _ _ _
          refine op_make (i := 6) (v := .slice (some ⟨W12.heap.size, 0, none⟩) t t) (w' := W13) (x := .int .i64 (t : Int)) (y := .int .i64 (t : Int)) (some 20) 23 (.tmp 19) (.tmp 19) rfl rfl rfl rfl (by kernel_rfl) (by kernel_rfl) (by rw [hW13]; exact hmk2 _) ?_
          refine ⟨S13, ?_⟩
          refine held_take (i := 7) (v := .agg #[.int .i64 p, .slice (some ⟨W11.heap.size, 0, none⟩) n n, .slice (some ⟨W12.heap.size, 0, none⟩) t t]) (some 21) rfl rfl (by kernel_rfl) (by kernel_rfl) (by kernel_rfl) (fun _ _ _ h => h) (yieldsIf_run (by kernel_rfl) (fun W _ => by kernel_rfl)) S13 ?_
          have S9 : Below (wB.heap.size) wB (W13.setRow (wd.heap.size) #[.int .i64 p, .slice (some ⟨W11.heap.size, 0, none⟩) n n, .slice (some ⟨W12.heap.size, 0, none⟩) t t]) := below_setRow S13 (by omega) _
          refine held_one (i := 9) (by kernel_rfl) ?_
          refine op_row (i := 9) rfl rfl rfl 28 (.tmp 8) (.tmp 21) rfl (wd.heap.size) #[.int .i64 p, .slice (some ⟨W11.heap.size, 0, none⟩) n n, .slice (some ⟨W12.heap.size, 0, none⟩) t t] (by kernel_rfl) (by kernel_rfl) 28 _ hR13 (infoCo _ _ _) (by kernel_rfl) (by kernel_rfl) ?_
          refine ⟨S9, ?_⟩
          refine wpAnyH_done (by kernel_rfl) ?_ _
          simp only [Act.put, List.setIfInBounds_toArray, List.set_cons_zero, List.set_cons_succ]
          obtain ⟨WF, hWF⟩ : ∃ WF, WF = (W13.setRow (wd.heap.size) #[.int .i64 p, .slice (some ⟨W11.heap.size, 0, none⟩) n n, .slice (some ⟨W12.heap.size, 0, none⟩) t t]) := ⟨_, rfl⟩
          have hbF : Below (wB.heap.size) wB WF := by rw [hWF]; exact S9
          have hRF : Rz WF (wd.heap.size) 28 #[.int .i64 p, .slice (some ⟨W11.heap.size, 0, none⟩) n n, .slice (some ⟨W12.heap.size, 0, none⟩) t t] := by rw [hWF]; exact hR13.set _
          have hDF : WF.rowIs (W11.heap.size) 2 n (fun _ => .int .i64 0) := by rw [hWF]; exact hD13.of_block (setRow_other _ _ _ _ (by omega))
          have hMF : WF.rowIs (W12.heap.size) 39 t (fun _ => .slice none 0 0) := by rw [hWF]; exact hM13.of_block (setRow_other _ _ _ _ (by omega))
          have hG : (wB.heap.size ≤ wd.heap.size ∧ wB.heap.size ≤ W11.heap.size ∧ wB.heap.size ≤ W12.heap.size) ∧ wd.heap.size ≠ W11.heap.size ∧ wd.heap.size ≠ W12.heap.size ∧ W11.heap.size ≠ W12.heap.size := by omega
          rw [← hWF]
          clear hWF S9
          go_wp2
          go_meet
          exact ⟨_, _, _, rfl, Lib.hid ⟨hbF, hG.1, hG.2, rowIs3 hRF, hDF, hMF⟩⟩
      · obtain ⟨W14, hW14⟩ : ∃ W', W' = W11.alloc (.cells (madeCells #[.slice none 0 0] t) 39) := ⟨_, rfl⟩
        have hb14 : Below W11.heap.size W11 W14 := by rw [hW14]; exact below_alloc1 _ _
        have hz14 : W14.heap.size = W11.heap.size + 1 := by rw [hW14]; simp
        have S14 : Below (wB.heap.size) wB W14 := S11.trans (hb14.mono (by omega))
        have hR14 := hR11.next hb14
        have hM14 : W14.rowIs W11.heap.size 39 t (fun _ => .slice none 0 0) := by rw [hW14]; exact World.rowIs_made W11 _ _ _
        refine op_make (i := 6) (v := .slice (some ⟨W11.heap.size, 0, none⟩) t t) (w' := W14) (x := .int .i64 (t : Int)) (y := .int .i64 (t : Int)) (some 20) 23 (.tmp 19) (.tmp 19) rfl rfl rfl rfl (by kernel_rfl) (by kernel_rfl) (by rw [hW14]; exact hmk2 _) ?_
        refine ⟨S14, ?_⟩
        refine held_one (i := 4) (by kernel_rfl) ?_
        · obtain ⟨W15, hW15⟩ : ∃ W', W' = W14.alloc (.cells (madeCells #[.int .i64 0] n) 2) := ⟨_, rfl⟩
          have hb15 : Below W14.heap.size W14 W15 := by rw [hW15]; exact below_alloc1 _ _
          have hz15 : W15.heap.size = W14.heap.size + 1 := by rw [hW15]; simp
          have S15 : Below (wB.heap.size) wB W15 := S14.trans (hb15.mono (by omega))
          have hR15 := hR14.next hb15
          have hM15 := hM14.of_block (hb15.block _ hM14.lt)
          have hD15 : W15.rowIs W14.heap.size 2 n (fun _ => .int .i64 0) := by rw [hW15]; exact World.rowIs_made W14 _ _ _
          refine op_make (i := 4) (v := .slice (some ⟨W14.heap.size, 0, none⟩) n n) (w' := W15) (x := .int .i64 (n : Int)) (y := .int .i64 (n : Int)) (some 18) 22 (.tmp 17) (.tmp 17) rfl rfl rfl rfl (by kernel_rfl) (by kernel_rfl) (by rw [hW15]; exact hmk _) ?_
          refine ⟨S15, ?_⟩
          refine held_take (i := 7) (v := .agg #[.int .i64 p, .slice (some ⟨W14.heap.size, 0, none⟩) n n, .slice (some ⟨W11.heap.size, 0, none⟩) t t]) (some 21) rfl rfl (by kernel_rfl) (by kernel_rfl) (by kernel_rfl) (fun _ _ _ h => h) (yieldsIf_run (by kernel_rfl) (fun W _ => by kernel_rfl)) S15 ?_
          have S9 : Below (wB.heap.size) wB (W15.setRow (wd.heap.size) #[.int .i64 p, .slice (some ⟨W14.heap.size, 0, none⟩) n n, .slice (some ⟨W11.heap.size, 0, none⟩) t t]) := below_setRow S15 (by omega) _
          refine held_one (i := 9) (by kernel_rfl) ?_
          refine op_row (i := 9) rfl rfl rfl 28 (.tmp 8) (.tmp 21) rfl (wd.heap.size) #[.int .i64 p, .slice (some ⟨W14.heap.size, 0, none⟩) n n, .slice (some ⟨W11.heap.size, 0, none⟩) t t] (by kernel_rfl) (by kernel_rfl) 28 _ hR15 (infoCo _ _ _) (by kernel_rfl) (by kernel_rfl) ?_
          refine ⟨S9, ?_⟩
          refine wpAnyH_done (by kernel_rfl) ?_ _
          simp only [Act.put, List.setIfInBounds_toArray, List.set_cons_zero, List.set_cons_succ]
          obtain ⟨WF, hWF⟩ : ∃ WF, WF = (W15.setRow (wd.heap.size) #[.int .i64 p, .slice (some ⟨W14.heap.size, 0, none⟩) n n, .slice (some ⟨W11.heap.size, 0, none⟩) t t]) := ⟨_, rfl⟩
          have hbF : Below (wB.heap.size) wB WF := by rw [hWF]; exact S9
          have hRF : Rz WF (wd.heap.size) 28 #[.int .i64 p, .slice (some ⟨W14.heap.size, 0, none⟩) n n, .slice (some ⟨W11.heap.size, 0, none⟩) t t] := by rw [hWF]; exact hR15.set _
          have hDF : WF.rowIs (W14.heap.size) 2 n (fun _ => .int .i64 0) := by rw [hWF]; exact hD15.of_block (setRow_other _ _ _ _ (by omega))
          have hMF : WF.rowIs (W11.heap.size) 39 t (fun _ => .slice none 0 0) := by rw [hWF]; exact hM15.of_block (setRow_other _ _ _ _ (by omega))
          have hG : (wB.heap.size ≤ wd.heap.size ∧ wB.heap.size ≤ W14.heap.size ∧ wB.heap.size ≤ W11.heap.size) ∧ wd.heap.size ≠ W14.heap.size ∧ wd.heap.size ≠ W11.heap.size ∧ W14.heap.size ≠ W11.heap.size := by omega
          rw [← hWF]
          clear hWF S9
          go_wp2
          go_meet
          exact ⟨_, _, _, rfl, Lib.hid ⟨hbF, hG.1, hG.2, rowIs3 hRF, hDF, hMF⟩⟩
  case rest =>
    obtain ⟨g, bd, bm, rfl, HDU⟩ := hcut
    clear hmk hmk2
    obtain ⟨wx, hwx⟩ : ∃ wx : World, wx = wc := ⟨_, rfl⟩
    subst hwx
    have HD0 : Hid (Du wB wx g bd bm n t p (fun j => .int .i64 (if j < 0 then cnd ds ds2 j else 0)) (fun _ => .slice none 0 0)) := Lib.hid (HDU.out.congr (fun j _ => by rw [if_neg (Nat.not_lt_zero _)]))
    clear HDU
    go_wp2
    go_loopw [24] (fun i wr => ∃ (k : Nat), k ≤ n ∧ i = .int .i64 k ∧ Hid (Du wB wr g bd bm n t p (fun j => .int .i64 (if j < k then cnd ds ds2 j else 0)) (fun _ => .slice none 0 0))) (fun i _ => n - (intOf i).toNat)
    case atStart => exact ⟨0, Nat.zero_le _, rfl, HD0⟩
    case round =>
      clear HD0
      obtain ⟨k, hk, rfl, HDU⟩ := hrel
      obtain ⟨wx, hwx⟩ : ∃ wx : World, wx = wr := ⟨_, rfl⟩
      subst hwx
      by_cases hlt : k < n
      · have hlt2 : (k : Int) < (t : Int) + 1 := by have := HNT.out; omega
        have hwk : IntKind.i64.wrap ((k : Int) - 1) = (k : Int) - 1 := IntWalk.i64_in _ (by omega)
        have HNW : Hid (∀ W, Below wx.heap.size wx W → Bx w W w.heap.size p (.slice ad ds.length cap) (.slice am ms.length capm) ds ms ∧ Bx w W (w.heap.size + 1) p (.slice ad2 ds2.length cap2) (.slice am2 ms2.length capm2) ds2 ms2 ∧ L3 0 W (.slice af fs.length cf) fs ∧ Rz W (w.heap.size + 2) 28 #[.int .i64 0, .slice none 0 0, .slice none 0 0] ∧ W.cell? ⟨g, 1, none⟩ = some (.slice (some ⟨bd, 0, none⟩) n n)) := Lib.hid (fun W hb => by
          have h0 := HNB.out W (HDU.out.below.trans (hb.mono HDU.out.below.size))
          exact ⟨h0.1, h0.2.1, h0.2.2.1, h0.2.2.2, later hb (Nat.le_refl _) (HDU.out.box.cell (i := 1) (by omega))⟩)
        have hy0 := dimZ_8 HCY.out (k : Int)
        have hx0 := dimZ_8 HCX.out ((k : Int) - 1)
        obtain ⟨x, hx⟩ : ∃ x, x = dimZ ds2 (k : Int) := ⟨_, rfl⟩
        obtain ⟨y, hy⟩ : ∃ y, y = dimZ ds ((k : Int) - 1) := ⟨_, rfl⟩
        have HXE : Hid (cnd ds ds2 k = x + y) := Lib.hid (by rw [hx, hy]; rfl)
        have hm6 := HCY.out.1.len1
        have HY1 : Hid (∀ W, Below wx.heap.size wx W → Calls Tryd.prog 40 #[.agg #[.int .i64 p, .slice ad2 ds2.length cap2, .slice am2 ms2.length capm2], .int .i64 (k : Int)] W (BR (.int .i64 x) W)) := Lib.hid (fun W hb => by rw [hx]; exact dimAt_any p (k : Int) _ _ ds2 ms2 W (HNW.out W hb).2.1.cx (by omega))
        have HX1 : Hid (∀ W, Below wx.heap.size wx W → Calls Tryd.prog 40 #[.agg #[.int .i64 p, .slice ad ds.length cap, .slice am ms.length capm], .int .i64 ((k : Int) - 1)] W (BR (.int .i64 y) W)) := Lib.hid (fun W hb => by rw [hy]; exact dimAt_any p ((k : Int) - 1) _ _ ds ms W (HNW.out W hb).1.cx (by omega))
        rw [← hx] at hy0
        rw [← hy] at hx0
        clear hx hy
        go_upto_region 6 with fail
        refine wp_region_last (fun W => Below wx.heap.size wx W) 12 (by kernel_rfl) rfl (by kernel_rfl) ?_
        have S0 : Below wx.heap.size wx wx.drew := (Below.refl _ _).drew
        change wpAnyH _ _ _ _ _ _ _ _ wx.drew
        obtain ⟨wd, hwd⟩ : ∃ wd, wd = wx.drew := ⟨_, rfl⟩
        rw [← hwd] at S0 ⊢
        clear hwd
        refine held_take (i := 0) (v := .pointer (some ⟨g, 1, none⟩)) (some 27) rfl rfl (by kernel_rfl) (by kernel_rfl) (by kernel_rfl) (fun _ _ _ h => h) (yieldsIf_run (by kernel_rfl) (fun W _ => by kernel_rfl)) S0 ?_
        refine held_take (i := 1) (v := .slice (some ⟨bd, 0, none⟩) n n) (some 28) rfl rfl (by kernel_rfl) (by kernel_rfl) (by kernel_rfl) (fun _ _ _ h => h) (yieldsIf_cell (by kernel_rfl) rfl (by kernel_rfl) (fun W h => hloadD W (HNW.out W h).2.2.2.2)) S0 ?_
        refine held_take (i := 2) (v := .int .i64 (k : Int)) (some 29) rfl rfl (by kernel_rfl) (by kernel_rfl) (by kernel_rfl) (fun _ _ _ h => h) (yieldsIf_move (by kernel_rfl) rfl (by kernel_rfl)) S0 ?_
        refine held_take (i := 3) (v := .agg #[.int .i64 p, .slice ad2 ds2.length cap2, .slice am2 ms2.length capm2]) (some 30) rfl rfl (by kernel_rfl) (by kernel_rfl) (by kernel_rfl) (fun _ _ _ h => h) (yieldsIf_cell (by kernel_rfl) rfl (by kernel_rfl) (fun W h => hload3x (HNW.out W h).2.1)) S0 ?_
        refine held_take (i := 4) (v := .int .i64 (k : Int)) (some 31) rfl rfl (by kernel_rfl) (by kernel_rfl) (by kernel_rfl) (fun _ _ _ h => h) (yieldsIf_move (by kernel_rfl) rfl (by kernel_rfl)) S0 ?_
        refine held_take (i := 6) (v := .agg #[.int .i64 p, .slice ad ds.length cap, .slice am ms.length capm]) (some 33) rfl rfl (by kernel_rfl) (by kernel_rfl) (by kernel_rfl) (fun _ _ _ h => h) (yieldsIf_cell (by kernel_rfl) rfl (by kernel_rfl) (fun W h => hload3x (HNW.out W h).1)) S0 ?_
        refine held_take (i := 7) (v := .int .i64 (k : Int)) (some 34) rfl rfl (by kernel_rfl) (by kernel_rfl) (by kernel_rfl) (fun _ _ _ h => h) (yieldsIf_move (by kernel_rfl) rfl (by kernel_rfl)) S0 ?_
        refine held_take (i := 8) (v := .int .i64 ((k : Int) - 1)) (some 35) rfl rfl (by kernel_rfl) (by kernel_rfl) (by kernel_rfl) (fun _ _ _ h => h) (yieldsIf_bin (by kernel_rfl) rfl (by kernel_rfl) (by kernel_rfl) (fun _ => rfl) (hsubA hwk)) S0 ?_
        refine held_enter (i := 5) (some 32) (f := 40) (args := #[.agg #[.int .i64 p, .slice ad2 ds2.length cap2, .slice am2 ms2.length capm2], .int .i64 (k : Int)]) (by kernel_rfl) rfl rfl rfl (by kernel_rfl) (HY1.out _ S0) ?_ (fun c w' h => by cases h.1) (fun w' h => by cases h.1)
        rintro e3 W3 ⟨he3, hb3⟩
        injection he3 with he3
        subst he3
        have S1 : Below wx.heap.size wx W3 := S0.trans (hb3.mono S0.size)
        refine ⟨S1, ?_⟩
        refine held_enter (i := 9) (some 36) (f := 40) (args := #[.agg #[.int .i64 p, .slice ad ds.length cap, .slice am ms.length capm], .int .i64 ((k : Int) - 1)]) (by kernel_rfl) rfl rfl rfl (by kernel_rfl) (HX1.out _ S1) ?_ (fun c w' h => by cases h.1) (fun w' h => by cases h.1)
        rintro e4 W4 ⟨he4, hb4⟩
        injection he4 with he4
        subst he4
        have S2 : Below wx.heap.size wx W4 := S1.trans (hb4.mono S1.size)
        refine ⟨S2, ?_⟩
        refine held_take (i := 10) (v := .int .i64 (x + y)) (some 37) rfl rfl (by kernel_rfl) (by kernel_rfl) (by kernel_rfl) (fun _ _ _ h => h) (yieldsIf_bin (by kernel_rfl) rfl (by kernel_rfl) (by kernel_rfl) (fun _ => rfl) (haddA (IntWalk.i64_in _ (by omega)))) S2 ?_
        refine held_take (i := 11) (v := .pointer (some ⟨bd, 0 + k, none⟩)) (some 38) rfl rfl (by kernel_rfl) (by kernel_rfl) (by kernel_rfl) (fun _ _ _ h => h) (yieldsIf_index (by kernel_rfl) rfl (by kernel_rfl) (by kernel_rfl) (hidxI bd 0 n hlt)) S2 ?_
        refine held_none (i := 12) (v := .bool false) rfl rfl (by kernel_rfl) (by kernel_rfl) (by kernel_rfl) (fun _ _ _ h => h) (yieldsIf_move (by kernel_rfl) rfl (by kernel_rfl)) S2 ?_
        have HD4 := Lib.hid (HDU.out.next S2)
        have hac : W4.cell? ⟨bd, 0 + k, none⟩ = some (.int .i64 (if k < k then cnd ds ds2 k else 0)) := by rw [Nat.zero_add]; exact HD4.out.dims.cell hlt
        have hfz : W4.frozen? ⟨bd, 0 + k, none⟩ = false := HD4.out.dims.frozen _
        have HDN : Hid (Du wB (W4.setCell ⟨bd, 0 + k, none⟩ (.int .i64 (x + y))) g bd bm n t p (fun j => .int .i64 (if j < k + 1 then cnd ds ds2 j else 0)) (fun _ => .slice none 0 0)) := Lib.hid (by
          rw [Nat.zero_add]
          refine (HD4.out.setD k _).congr (fun j _ => ?_)
          by_cases e : j = k
          · subst e; rw [if_pos rfl, if_pos (by omega), HXE.out]
          · rw [if_neg e]
            by_cases e2 : j < k
            · rw [if_pos e2, if_pos (by omega)]
            · rw [if_neg e2, if_neg (by omega)])
        refine wpAnyH_done (by kernel_rfl) (lastQ_storeI rfl (by kernel_rfl) (by kernel_rfl) (.tmp 38) (.tmp 37) (by kernel_rfl) bd (0 + k) (x + y) _ (by kernel_rfl) (by kernel_rfl) hac hfz ?_) _
        simp only [Act.put, List.setIfInBounds_toArray, List.set_cons_zero, List.set_cons_succ]
        obtain ⟨WN, hWN⟩ : ∃ WN, WN = W4.setCell ⟨bd, 0 + k, none⟩ (.int .i64 (x + y)) := ⟨_, rfl⟩
        rw [← hWN] at HDN ⊢
        clear hWN hac hfz S0 S1 S2 hb3 hb4 hwk HDU HD4 HNW HX1 HY1
        go_wp2
        go_roundw
        case rel => exact ⟨k + 1, by omega, by go_num, HDN⟩
        case measure => simp [intOf]; omega
      · have hlt2 : ¬ (k : Int) < (t : Int) + 1 := by have := HNT.out; omega
        have HD1 : Hid (Du wB wx g bd bm n t p (fun j => .int .i64 (cnd ds ds2 j)) (fun _ => .slice none 0 0)) := Lib.hid (HDU.out.congr (fun j hj => by rw [if_pos (by omega)]))
        clear HDU
        obtain ⟨wo, hwo⟩ : ∃ wo : World, wo = wx := ⟨_, rfl⟩
        subst hwo
        have HBX := Lib.hid HD1.out.box
        have HBD := Lib.hid HD1.out.dims
        have hlo := HD1.out.lo
        have hbdl := HD1.out.dims.lt
        have hbml := HD1.out.maps.lt
        have hg2 := HD1.out.ne.2.1
        have hbdm := HD1.out.ne.2.2
        have HLEN : Hid ((cnM p ds ms ds2 ms2 fs).length = t) := Lib.hid (by rw [cnM_length]; exact HT.out.symm)
        have HF0 : Hid (Fill3 wo bm t 0 (fun _ => .slice none 0 0) (fun _ => wo.heap.size) (cnM p ds ms ds2 ms2 fs)) := Lib.hid ⟨HD1.out.maps, hbml, fun _ h => absurd h (Nat.not_lt_zero _), Nat.le_refl _, fun _ _ h => absurd h (Nat.not_lt_zero _)⟩
        have HBO := Lib.hid HD1.out.below
        have hso := HBO.out.size
        clear HD1
        go_wp2
        go_loopw [41] (fun i wr => ∃ (k : Nat) (f : Nat → Value) (b : Nat → Nat), k ≤ t ∧ i = .int .i64 k ∧ Hid (Below wB.heap.size wB wr) ∧ Hid (wr.rowIs g 28 3 (box3 p (.slice (some ⟨bd, 0, none⟩) n n) (.slice (some ⟨bm, 0, none⟩) t t))) ∧ Hid (wr.rowIs bd 2 n (fun j => .int .i64 (cnd ds ds2 j))) ∧ Hid (Fill3 wr bm t k f b (cnM p ds ms ds2 ms2 fs)) ∧ Hid (wo.heap.size ≤ wr.heap.size ∧ wo.heap.size ≤ b 0)) (fun i _ => t - (intOf i).toNat)
        case atStart => exact ⟨0, _, _, Nat.zero_le _, rfl, HBO, HBX, HBD, HF0, Lib.hid ⟨Nat.le_refl _, Nat.le_refl _⟩⟩
        case round =>
          clear HBO HBX HBD HF0
          obtain ⟨j, f, b, hj, rfl, HB, HBX, HBD, HF, HLE⟩ := hrel
          obtain ⟨wx, hwx⟩ : ∃ wx : World, wx = wr := ⟨_, rfl⟩
          subst hwx
          by_cases hlj : j < t
          · have hjd : j < ds.length := by rw [← HT.out]; exact hlj
            have hjd2 : j < ds2.length := by rw [← HLL.out]; exact hjd
            obtain ⟨l, hl⟩ : ∃ l : Nat, l = (dimZ ds2 (j : Int)).toNat := ⟨_, rfl⟩
            obtain ⟨r, hr⟩ : ∃ r : Nat, r = (dimZ ds ((j : Int) - 1)).toNat := ⟨_, rfl⟩
            have hy0 := dimZ_8 HCY.out (j : Int)
            have hx0 := dimZ_8 HCX.out ((j : Int) - 1)
            have hle : dimZ ds2 (j : Int) = (l : Int) := by omega
            have hre : dimZ ds ((j : Int) - 1) = (r : Int) := by omega
            have hl8 : l ≤ 8 := by omega
            have hr8 : r ≤ 8 := by omega
            obtain ⟨RR, hRR⟩ : ∃ R, R = (tabN ms2 j).length + (cycT ds ms j).length := ⟨_, rfl⟩
            have hRR16 : RR ≤ 16 := by have h1 := tabN_len HCY.out j; have h2 := (cyc_tabP HCX.out.1 hjd).1; have h3 := HCX.out.1.dim j; omega
            obtain ⟨Z, hZ⟩ : ∃ Z, Z = cnZ (tabN ms2 j) l (tableOf (cycT ds ms j).length r (scZ p (p - 1) (cycT ds ms j))) (fs.getD j []) (fs.getD j []).length := ⟨_, rfl⟩
            have HSX : Hid (∀ h : j < (cnM p ds ms ds2 ms2 fs).length, (cnM p ds ms ds2 ms2 fs)[j] = tableOf RR (l + r) Z) := Lib.hid (fun h => by simp only [cnM, List.getElem_map, List.getElem_range, cnTb]; rw [hRR, hZ, hl, hr])
            have HNW : Hid (∀ W, Below wx.heap.size wx W → Bx w W w.heap.size p (.slice ad ds.length cap) (.slice am ms.length capm) ds ms ∧ Bx w W (w.heap.size + 1) p (.slice ad2 ds2.length cap2) (.slice am2 ms2.length capm2) ds2 ms2 ∧ L3 0 W (.slice af fs.length cf) fs ∧ Rz W (w.heap.size + 2) 28 #[.int .i64 0, .slice none 0 0, .slice none 0 0] ∧ W.cell? ⟨g, 2, none⟩ = some (.slice (some ⟨bm, 0, none⟩) t t)) := Lib.hid (fun W hb => by
              have h0 := HNB.out W (HB.out.trans (hb.mono HB.out.size))
              exact ⟨h0.1, h0.2.1, h0.2.2.1, h0.2.2.2, later hb (Nat.le_refl _) (HBX.out.cell (i := 2) (by omega))⟩)
            have HCT : Hid (∀ W, Below wx.heap.size wx W → Calls Tryd.prog 41 #[.agg #[.int .i64 p, .slice ad ds.length cap, .slice am ms.length capm], .agg #[.int .i64 p, .slice ad2 ds2.length cap2, .slice am2 ms2.length capm2], .slice af fs.length cf, .int .i64 (j : Int)] W (CtR RR (l + r) Z W)) := Lib.hid (fun W hb => by
              have h0 := HNW.out W hb
              rw [hRR, hZ]
              exact coneTable_any p j l r _ _ _ _ _ ds ms ds2 ms2 fs W h0.1.cx h0.2.1.cx h0.2.2.1 HCX.out HCY.out HFO.out hjd hjd2 hle hre)
            clear hl hr hRR hZ hy0 hx0 hle hre
            go_upto_region 11 with fail
            refine wp_region_last (fun W => Below wx.heap.size wx W) 9 (by kernel_rfl) rfl (by kernel_rfl) ?_
            have S0 : Below wx.heap.size wx wx.drew := (Below.refl _ _).drew
            change wpAnyH _ _ _ _ _ _ _ _ wx.drew
            obtain ⟨wd, hwd⟩ : ∃ wd, wd = wx.drew := ⟨_, rfl⟩
            rw [← hwd] at S0 ⊢
            clear hwd
            refine held_take (i := 0) (v := .pointer (some ⟨g, 2, none⟩)) (some 44) rfl rfl (by kernel_rfl) (by kernel_rfl) (by kernel_rfl) (fun _ _ _ h => h) (yieldsIf_run (by kernel_rfl) (fun W _ => by kernel_rfl)) S0 ?_
            refine held_take (i := 1) (v := .slice (some ⟨bm, 0, none⟩) t t) (some 45) rfl rfl (by kernel_rfl) (by kernel_rfl) (by kernel_rfl) (fun _ _ _ h => h) (yieldsIf_cell (by kernel_rfl) rfl (by kernel_rfl) (fun W h => hloadM W (HNW.out W h).2.2.2.2)) S0 ?_
            refine held_take (i := 2) (v := .int .i64 (j : Int)) (some 46) rfl rfl (by kernel_rfl) (by kernel_rfl) (by kernel_rfl) (fun _ _ _ h => h) (yieldsIf_move (by kernel_rfl) rfl (by kernel_rfl)) S0 ?_
            refine held_take (i := 3) (v := .agg #[.int .i64 p, .slice ad ds.length cap, .slice am ms.length capm]) (some 47) rfl rfl (by kernel_rfl) (by kernel_rfl) (by kernel_rfl) (fun _ _ _ h => h) (yieldsIf_cell (by kernel_rfl) rfl (by kernel_rfl) (fun W h => hload3x (HNW.out W h).1)) S0 ?_
            refine held_take (i := 4) (v := .agg #[.int .i64 p, .slice ad2 ds2.length cap2, .slice am2 ms2.length capm2]) (some 48) rfl rfl (by kernel_rfl) (by kernel_rfl) (by kernel_rfl) (fun _ _ _ h => h) (yieldsIf_cell (by kernel_rfl) rfl (by kernel_rfl) (fun W h => hload3x (HNW.out W h).2.1)) S0 ?_
            refine held_take (i := 5) (v := .slice af fs.length cf) (some 49) rfl rfl (by kernel_rfl) (by kernel_rfl) (by kernel_rfl) (fun _ _ _ h => h) (yieldsIf_move (by kernel_rfl) rfl (by kernel_rfl)) S0 ?_
            refine held_take (i := 6) (v := .int .i64 (j : Int)) (some 50) rfl rfl (by kernel_rfl) (by kernel_rfl) (by kernel_rfl) (fun _ _ _ h => h) (yieldsIf_move (by kernel_rfl) rfl (by kernel_rfl)) S0 ?_
            have hjt : (j : Int) < (t : Int) := by omega
            have hj0 : (0 : Int) ≤ (j : Int) := by omega
            refine held_enter (i := 7) (some 51) (f := 41) (args := #[.agg #[.int .i64 p, .slice ad ds.length cap, .slice am ms.length capm], .agg #[.int .i64 p, .slice ad2 ds2.length cap2, .slice am2 ms2.length capm2], .slice af fs.length cf, .int .i64 (j : Int)]) (by kernel_rfl) rfl rfl rfl (by kernel_rfl) (HCT.out _ S0) ?_ (fun c w' h => by obtain ⟨_, h, _⟩ := h; cases h) (fun w' h => by obtain ⟨_, h, _⟩ := h; cases h)
            rintro e4 W4 ⟨we, he4, hbe, hm⟩
            injection he4 with he4
            subst he4
            have hb4 : Below wd.heap.size wd W4 := hbe.trans (hm.below.mono hbe.size)
            have S1 : Below wx.heap.size wx W4 := S0.trans (hb4.mono S0.size)
            refine ⟨S1, ?_⟩
            refine held_take (i := 8) (v := .pointer (some ⟨bm, j, none⟩)) (some 52) rfl rfl (by kernel_rfl) (by kernel_rfl) (by kernel_rfl) (fun _ _ _ h => h) (yieldsIf_run (by kernel_rfl) (fun W _ => by go_simp)) S1 ?_
            have hrw := hm.rw2 (lo := wd.heap.size) hbe.size (by omega) (by omega)
            have HFP := Lib.hid (HF.out.below S0)
            have hst := HFP.out.step hb4 (show j < (cnM p ds ms ds2 ms2 fs).length by rw [HLEN.out]; exact hlj) (by rw [HSX.out]; exact hrw)
            have hr4 := HFP.out.row.of_block (hb4.block _ HFP.out.row.lt)
            have q1 : W4.cell? ⟨bm, j, none⟩ = some (f j) := hr4.cell hlj
            have q2 : W4.frozen? ⟨bm, j, none⟩ = false := hr4.frozen j
            have HBN : Hid (Below wB.heap.size wB (W4.setCell ⟨bm, j, none⟩ (.slice (some ⟨we.heap.size, 0, none⟩) RR RR))) := Lib.hid ((HB.out.trans (S1.mono HB.out.size)).setCell (p := ⟨bm, j, none⟩) (by show wB.heap.size ≤ bm; exact hlo.2.2) _)
            have HXN : Hid ((W4.setCell ⟨bm, j, none⟩ (.slice (some ⟨we.heap.size, 0, none⟩) RR RR)).rowIs g 28 3 (box3 p (.slice (some ⟨bd, 0, none⟩) n n) (.slice (some ⟨bm, 0, none⟩) t t))) := Lib.hid ((HBX.out.of_block (S1.block _ HBX.out.lt)).setOther hg2 _)
            have HDN : Hid ((W4.setCell ⟨bm, j, none⟩ (.slice (some ⟨we.heap.size, 0, none⟩) RR RR)).rowIs bd 2 n (fun j => .int .i64 (cnd ds ds2 j))) := Lib.hid ((HBD.out.of_block (S1.block _ HBD.out.lt)).setOther hbdm _)
            have hleP : wx.heap.size ≤ wd.heap.size := S0.size
            have hleQ : wx.heap.size ≤ W4.heap.size := S1.size
            refine held_none (i := 9) (v := .bool false) rfl rfl (by kernel_rfl) (by kernel_rfl) (by kernel_rfl) (fun _ _ _ h => h) (yieldsIf_move (by kernel_rfl) rfl (by kernel_rfl)) S1 ?_
            refine wpAnyH_done (by kernel_rfl) (lastQ_of rfl (by kernel_rfl) ?_) _
            simp only [Act.put, List.setIfInBounds_toArray, List.set_cons_zero, List.set_cons_succ]
            go_simp
            have HLN : Hid (wo.heap.size ≤ (W4.setCell ⟨bm, j, none⟩ (.slice (some ⟨we.heap.size, 0, none⟩) RR RR)).heap.size ∧ wo.heap.size ≤ (fun q => if q < j then b q else if q = j then wd.heap.size else W4.heap.size) 0) := Lib.hid (by
              have h0 := HLE.out
              refine ⟨by simp; omega, ?_⟩
              by_cases e : 0 < j
              · simp only [if_pos e]; exact h0.2
              · simp only [if_neg e, if_pos (show 0 = j by omega)]; omega)
            have HST := Lib.hid hst
            obtain ⟨wn, hwn'⟩ : ∃ wn, wn = (W4.setCell ⟨bm, j, none⟩ (.slice (some ⟨we.heap.size, 0, none⟩) RR RR)) := ⟨_, rfl⟩
            rw [← hwn'] at HST HBN HXN HDN HLN ⊢
            clear hwn' q1 q2 hr4 hst hrw HFP hb4 hbe hm S0 S1 HCT HNW HB HBX HBD HF
            go_wp2
            go_roundw
            case rel => exact ⟨j + 1, _, _, by omega, by go_num, HBN, HXN, HDN, HST, HLN⟩
            case measure => simp [intOf]; omega
          · have hlk : ¬ (j : Int) < (t : Int) := by omega
            have HF3 : Hid (Fill3 wx bm t t f b (cnM p ds ms ds2 ms2 fs)) := Lib.hid (by have h0 := HF.out; rwa [show j = t by omega] at h0)
            have HRC := Lib.hid (cn_rc (w := wB) HT.out HN.out (by omega) (by omega) HBD.out HF3.out hlo.2.1 hlo.2.2 (by have := HLE.out.2; omega))
            have x0' : wx.cell? ⟨g, 0, none⟩ = some (.int .i64 p) := HBX.out.cell (i := 0) (by omega)
            have x1' : wx.cell? ⟨g, 1, none⟩ = some (.slice (some ⟨bd, 0, none⟩) n n) := HBX.out.cell (i := 1) (by omega)
            have x2' : wx.cell? ⟨g, 2, none⟩ = some (.slice (some ⟨bm, 0, none⟩) t t) := HBX.out.cell (i := 2) (by omega)
            have HNF := Lib.hid (HNB.out _ HB.out)
            clear HF HF3
            have HR1 : ∃ x0 x1 x2, wx.heap[w.heap.size + 2]? = some (.cells #[x0, x1, x2] 28) := ⟨_, _, _, HNF.out.2.2.2⟩
            obtain ⟨x0, x1, x2, hr⟩ := HR1
            have r0 : wx.rowIs (w.heap.size + 2) 28 3 (sel3 x0 x1 x2) := rowIs3 hr
            have q0 : wx.cell? ⟨w.heap.size + 2, 0, none⟩ = some x0 := r0.cell (i := 0) (by omega)
            have z0 : wx.frozen? ⟨w.heap.size + 2, 0, none⟩ = false := r0.frozen 0
            have r1 := r0.set 0 (.int .i64 p)
            have q1 : (wx.setCell ⟨w.heap.size + 2, 0, none⟩ (.int .i64 p)).cell? ⟨w.heap.size + 2, 1, none⟩ = some x1 := r1.cell (i := 1) (by omega)
            have z1 : (wx.setCell ⟨w.heap.size + 2, 0, none⟩ (.int .i64 p)).frozen? ⟨w.heap.size + 2, 1, none⟩ = false := r1.frozen 1
            have r2 := r1.set 1 (.slice (some ⟨bd, 0, none⟩) n n)
            have q2 : ((wx.setCell ⟨w.heap.size + 2, 0, none⟩ (.int .i64 p)).setCell ⟨w.heap.size + 2, 1, none⟩ (.slice (some ⟨bd, 0, none⟩) n n)).cell? ⟨w.heap.size + 2, 2, none⟩ = some x2 := r2.cell (i := 2) (by omega)
            have z2 : ((wx.setCell ⟨w.heap.size + 2, 0, none⟩ (.int .i64 p)).setCell ⟨w.heap.size + 2, 1, none⟩ (.slice (some ⟨bd, 0, none⟩) n n)).frozen? ⟨w.heap.size + 2, 2, none⟩ = false := r2.frozen 2
            have r3 := r2.set 2 (.slice (some ⟨bm, 0, none⟩) t t)
            obtain ⟨WF, hWF⟩ : ∃ W : World, W = (((wx.setCell ⟨w.heap.size + 2, 0, none⟩ (.int .i64 p)).setCell ⟨w.heap.size + 2, 1, none⟩ (.slice (some ⟨bd, 0, none⟩) n n)).setCell ⟨w.heap.size + 2, 2, none⟩ (.slice (some ⟨bm, 0, none⟩) t t)) := ⟨_, rfl⟩
            have hbWF : ∀ B (w0 : World), B ≤ w.heap.size + 2 → Below B w0 wx → Below B w0 WF := fun B w0 hl hb => by rw [hWF]; exact (((hb.setCell (by show B ≤ w.heap.size + 2; exact hl) _).setCell (by show B ≤ w.heap.size + 2; exact hl) _).setCell (by show B ≤ w.heap.size + 2; exact hl) _)
            have hsWF : ∀ lo hi, w.heap.size + 2 < lo ∨ hi ≤ w.heap.size + 2 → Same lo hi wx WF := fun lo hi hl => by rw [hWF]; exact (((Same.set _ hl).trans (Same.set _ hl)).trans (Same.set _ hl))
            have hzWF : WF.heap.size = wx.heap.size := by rw [hWF]; simp
            rw [← hWF] at r3
            have f0 : WF.cell? ⟨w.heap.size + 2, 0, none⟩ = some (.int .i64 p) := r3.cell (i := 0) (by omega)
            have f1 : WF.cell? ⟨w.heap.size + 2, 1, none⟩ = some (.slice (some ⟨bd, 0, none⟩) n n) := r3.cell (i := 1) (by omega)
            have f2 : WF.cell? ⟨w.heap.size + 2, 2, none⟩ = some (.slice (some ⟨bm, 0, none⟩) t t) := r3.cell (i := 2) (by omega)
            have HWWF := Lib.hid hWF
            clear hr r0 r1 r2 r3 hWF
            have HRF := Lib.hid ((HRC.out.same (hsWF _ _ (Or.inl (by omega)))).wider (show w.heap.size ≤ wB.heap.size by omega) (Nat.le_of_eq hzWF.symm))
            have HBF := Lib.hid (hbWF w.heap.size w (by omega) HNF.out.1.below)
            clear hsWF hbWF hzWF HRC
            go_wp2
            rw [← HWWF.out]
            refine bodyPost_ret (v := .agg #[.int .i64 p, .slice (some ⟨bd, 0, none⟩) n n, .slice (some ⟨bm, 0, none⟩) t t]) ?_ rfl ?_
            · simp only [results, HRES.out]
              go_simp
            · exact ⟨_, rfl, ⟨some ⟨bd, 0, none⟩, n, some ⟨bm, 0, none⟩, t, by show _ = Value.agg #[.int .i64 p, .slice _ (cnD ds ds2).length n, .slice _ (cnM p ds ms ds2 ms2 fs).length t]; rw [cnD_length, cnM_length, ← HT.out, HNT.out], by show RcW _ _ _ (.slice _ (cnD ds ds2).length n) (.slice _ (cnM p ds ms ds2 ms2 fs).length t) (cnD ds ds2) (cnM p ds ms ds2 ms2 fs); rw [cnD_length, cnM_length, ← HT.out, ← HNT.out]; exact HRF.out⟩, HBF.out⟩
end Go.Proofs.YtpdkfidmmjlmnabDoor


namespace Go.Proofs.YtpdkfidmmjlmnabDoor
open Go.RowKit

def ZeroF (fs : List (List (List Int))) : Prop := ∀ n, n < fs.length → ∀ i, i < (fs.getD n []).length → ∀ x ∈ (fs.getD n []).getD i [], x = 0

set_option maxHeartbeats 3200000 in
set_option maxRecDepth 100000 in
theorem isZeroFamily_any (fv : Value) (fs : List (List (List Int))) (w : World) (hf : L3 0 w fv fs) (hm1 : fs.length ≤ 1048576) (hm2 : ∀ n, n < fs.length → (fs.getD n []).length ≤ 1048576) (hm3 : ∀ n, n < fs.length → ∀ i, i < (fs.getD n []).length → ((fs.getD n []).getD i []).length ≤ 40) :
    Calls Tryd.prog 67 #[fv] w (BB (ZeroF fs) w) := by
  obtain ⟨af, cf, rfl⟩ := Sl.shape hf
  have HF := Lib.hid hf
  have HM2 := Lib.hid hm2
  have HM3 := Lib.hid hm3
  have HB0 := Lib.hid (Below.refl w.heap.size w)
  clear hf hm2 hm3
  go_enter Tryd.func67, Tryd.ntmps67
  go_wp2
  go_loopw [9] (fun k wr => ∃ (n : Nat), n ≤ fs.length ∧ k = .int .i64 n ∧ Hid (Below w.heap.size w wr) ∧ Hid (∀ n2, n2 < n → n2 < fs.length → ∀ i, i < (fs.getD n2 []).length → ∀ x ∈ (fs.getD n2 []).getD i [], x = 0)) (fun k _ => fs.length - (intOf k).toNat)
  case atStart => exact ⟨0, Nat.zero_le _, rfl, HB0, Lib.hid (fun _ h => absurd h (Nat.not_lt_zero _))⟩
  case round =>
    obtain ⟨n, hn, rfl, HB, HZ⟩ := hrel
    obtain ⟨wx, hwx⟩ : ∃ wx : World, wx = wr := ⟨_, rfl⟩
    subst hwx
    by_cases hlt : n < fs.length
    · refine Sl.cases HF.out (fun _ _ hx _ => absurd hlt (by simp [hx])) (fun b o c hvd _ _ hcl => ?_)
      injection hvd with e1 e2 e3
      clear e2
      subst e1 e3
      obtain ⟨u, hu, hru⟩ := hcl n hlt
      rw [← getD_of_lt [] hlt] at hru
      obtain ⟨t, ht⟩ : ∃ t, t = fs.getD n [] := ⟨_, rfl⟩
      rw [← ht] at hru
      have HT := Lib.hid ht
      obtain ⟨au, cu, hus⟩ := Sl.shape hru
      obtain ⟨r, hr⟩ : ∃ r, r = t.length := ⟨_, rfl⟩
      rw [← hr] at hus
      subst hus
      have HR := Lib.hid hr
      have HRU := Lib.hid hru
      have hrm : r ≤ 1048576 := by rw [hr, ht]; exact HM2.out n hlt
      have hu' := later HB.out (Nat.le_refl _) hu
      clear hu hru hcl ht hr
      go_wp2
      clear hu'
      go_loopw [15] (fun k wr => ∃ (i : Nat), i ≤ r ∧ k = .int .i64 i ∧ Hid (Below w.heap.size w wr) ∧ Hid (∀ i2, i2 < i → ∀ x ∈ t.getD i2 [], x = 0)) (fun k _ => r - (intOf k).toNat)
      case atStart => exact ⟨0, Nat.zero_le _, rfl, HB, Lib.hid (fun _ h => absurd h (Nat.not_lt_zero _))⟩
      case round =>
        obtain ⟨i, hi, rfl, HB2, HI⟩ := hrel
        obtain ⟨wy, hwy⟩ : ∃ wy : World, wy = wr := ⟨_, rfl⟩
        subst hwy
        by_cases hlt2 : i < r
        · have hlt3 : i < t.length := by rw [← HR.out]; exact hlt2
          refine Sl.cases HRU.out (fun _ _ hx _ => absurd hlt3 (by simp [hx])) (fun b1 o1 c1 hvd _ _ hcl => ?_)
          injection hvd with e1 e2 e3
          clear e2
          subst e1 e3
          obtain ⟨u2, hu2, hr2⟩ := hcl i hlt3
          rw [← getD_of_lt [] hlt3] at hr2
          have hu2' := later HB2.out (Nat.le_refl _) hu2
          have HR2 := Lib.hid (hr2.below HB2.out)
          have HLEN : Hid ((t.getD i []).length ≤ 40) := Lib.hid (by rw [HT.out]; exact HM3.out n hlt i (by rw [← HT.out]; exact hlt3))
          obtain ⟨row, hrow⟩ : ∃ row, row = t.getD i [] := ⟨_, rfl⟩
          rw [← hrow] at HR2 HLEN
          have HROW := Lib.hid hrow
          clear hu2 hr2 hcl hlt3 hrow
          go_wp2_with fail
          refine (vectorOf_any u2 (row) _ HR2.out HLEN.out).mono ?_
          rintro e w2 ⟨rfl, hb2⟩
          have HB3 := Lib.hid (HB2.out.trans (hb2.mono HB2.out.size))
          clear hb2 hu2'
          have hneq := neq_zero HLEN.out
          by_cases hz : ∀ x ∈ row, x = 0
          · rw [decide_eq_true hz] at hneq
            have HZ2 := Lib.hid hz
            clear hz
            go_wp2
            go_roundw
            case rel => exact ⟨i + 1, by omega, by go_num, HB3, Lib.hid (fun i2 h2 => by
              by_cases e : i2 = i
              · subst e; rw [← HROW.out]; exact HZ2.out
              · exact HI.out i2 (by omega))⟩
            case measure => simp [intOf]; omega
          · rw [decide_eq_false hz] at hneq
            have HZ2 := Lib.hid hz
            clear hz
            go_wp2
            go_ret
            refine bb_false HB3.out (fun h => HZ2.out ?_)
            have := h n hlt i (by rw [← HT.out, ← HR.out]; exact hlt2)
            rwa [← HT.out, ← HROW.out] at this
        · go_wp2
          go_roundw
          case rel => exact ⟨n + 1, by omega, by go_num, HB2, Lib.hid (fun n2 h2 hl2 i2 hi2 => by
            by_cases e : n2 = n
            · subst e
              rw [← HT.out] at hi2 ⊢
              exact HI.out i2 (by have := HR.out; omega)
            · exact HZ.out n2 (by omega) hl2 i2 hi2)⟩
          case measure => simp [intOf]; omega
    · go_wp2
      go_ret
      exact bb_true HB.out (fun n2 h2 => HZ.out n2 (by omega) h2)
theorem famL_get {m : Nat} {rs cs : Nat → Nat} {Z : Nat → Nat → Nat → Int} {n : Nat} (hn : n < m) : (famL m rs cs Z).getD n [] = tableOf (rs n) (cs n) (Z n) := by
  rw [getD_of_lt _ (by rw [famL_length]; exact hn)]
  simp [famL]
theorem tableOf_len (r c : Nat) (Z : Nat → Nat → Int) : (tableOf r c Z).length = r := by simp [tableOf]
theorem tableOf_get {r c : Nat} {Z : Nat → Nat → Int} {i : Nat} (hi : i < r) : (tableOf r c Z).getD i [] = (List.range c).map (Z i) := by
  rw [getD_of_lt _ (by rw [tableOf_len]; exact hi)]
  simp [tableOf]
theorem zeroF_famL {m : Nat} {rs cs : Nat → Nat} {Z : Nat → Nat → Nat → Int} : ZeroF (famL m rs cs Z) ↔ ∀ n, n < m → ∀ i, i < rs n → ∀ q, q < cs n → Z n i q = 0 := by
  unfold ZeroF
  rw [famL_length]
  refine forall_congr' fun n => forall_congr' fun hn => ?_
  rw [famL_get hn, tableOf_len]
  refine forall_congr' fun i => forall_congr' fun hi => ?_
  rw [tableOf_get hi]
  constructor
  · intro h q hq
    exact h _ (List.mem_map.2 ⟨q, List.mem_range.2 hq, rfl⟩)
  · intro h x hx
    obtain ⟨q, hq, rfl⟩ := List.mem_map.1 hx
    exact h q (List.mem_range.1 hq)
end Go.Proofs.YtpdkfidmmjlmnabDoor


namespace Go.Proofs.YtpdkfidmmjlmnabDoor
open Go.RowKit

/-- Complexes side by side in a row at block b. -/
structure Cxs (w : World) (b n : Nat) (P : Nat → Int) (dv mv : Nat → Value) (ds : Nat → List Int) (ms : Nat → List (List (List Int))) : Prop where
  c0 : ∀ j, j < n → w.cell? ⟨b, j * 3, none⟩ = some (.int .i64 (P j))
  c1 : ∀ j, j < n → w.cell? ⟨b, j * 3 + 1, none⟩ = some (dv j)
  c2 : ∀ j, j < n → w.cell? ⟨b, j * 3 + 2, none⟩ = some (mv j)
  cx : ∀ j, j < n → Cx 0 w (dv j) (mv j) (ds j) (ms j)
  bd : ∀ j, j < n → (ds j).length ≤ 1048576 ∧ Bd3 1048576 (ms j)
theorem Cxs.next {w w' : World} {b n : Nat} {P : Nat → Int} {dv mv : Nat → Value} {ds : Nat → List Int} {ms : Nat → List (List (List Int))} (h : Cxs w b n P dv mv ds ms) (hb : Below w.heap.size w w') : Cxs w' b n P dv mv ds ms :=
  ⟨fun j hj => later hb (Nat.le_refl _) (h.c0 j hj), fun j hj => later hb (Nat.le_refl _) (h.c1 j hj), fun j hj => later hb (Nat.le_refl _) (h.c2 j hj), fun j hj => (h.cx j hj).below hb, h.bd⟩
open Classical in
/-- The code of complexes that are to have the same prime. -/
noncomputable def prCodeN (n : Nat) (P : Nat → Int) (ds : Nat → List Int) (ms : Nat → List (List (List Int))) : Int :=
  if ∀ j, j < n → IsCx (P j) (ds j) (ms j) then (if ∀ j, j < n → P j = P 0 then 0 else 2) else 1
open Classical in
/-- .. and the same number of degrees. -/
noncomputable def endCodeN (n : Nat) (P : Nat → Int) (ds : Nat → List Int) (ms : Nat → List (List (List Int))) : Int :=
  if prCodeN n P ds ms = 0 then (if ∀ j, j < n → (ds j).length = (ds 0).length then 0 else 2) else prCodeN n P ds ms
end Go.Proofs.YtpdkfidmmjlmnabDoor


namespace Go.Proofs.YtpdkfidmmjlmnabDoor
open Go.RowKit

def s3 {α : Type} (a b c : α) (j : Nat) : α := if j = 0 then a else if j = 1 then b else c
structure Ok3 (p p2 p3 : Int) (ds : List Int) (ms : List (List (List Int))) (ds2 : List Int) (ms2 : List (List (List Int))) (ds3 : List Int) (ms3 : List (List (List Int))) : Prop where
  xy : EndOk p p2 ds ms ds2 ms2
  yz : EndOk p2 p3 ds2 ms2 ds3 ms3
theorem Ok3.code {p p2 p3 : Int} {ds : List Int} {ms : List (List (List Int))} {ds2 : List Int} {ms2 : List (List (List Int))} {ds3 : List Int} {ms3 : List (List (List Int))} (h : Ok3 p p2 p3 ds ms ds2 ms2 ds3 ms3) : endCodeN 3 (s3 p p2 p3) (s3 ds ds2 ds3) (s3 ms ms2 ms3) = 0 := by
  have e1 := h.xy.prime
  have e2 := h.yz.prime
  have l1 := h.xy.len
  have l2 := h.yz.len
  have hp : prCodeN 3 (s3 p p2 p3) (s3 ds ds2 ds3) (s3 ms ms2 ms3) = 0 := by
    unfold prCodeN
    rw [if_pos, if_pos]
    · intro j hj
      match j, hj with
      | 0, _ => rfl
      | 1, _ => exact e1.symm
      | 2, _ => exact (e1.trans e2).symm
    · intro j hj
      match j, hj with
      | 0, _ => exact h.xy.x
      | 1, _ => exact h.xy.y
      | 2, _ => exact h.yz.y
  unfold endCodeN
  rw [if_pos hp, if_pos]
  intro j hj
  match j, hj with
  | 0, _ => rfl
  | 1, _ => exact l1.symm
  | 2, _ => exact (l1.trans l2).symm
end Go.Proofs.YtpdkfidmmjlmnabDoor


namespace Go.Proofs.YtpdkfidmmjlmnabDoor
open Go.RowKit

theorem hloadGr (W : World) {b : Nat} {x0 x1 x2 x3 x4 : Value} (h : Rz W b 74 #[x0, x1, x2, x3, x4]) : (Instr.loadAt 74 (.pointer (some ⟨b, 0, none⟩))).run Tryd.prog W = .ok (.agg #[x0, x1, x2, x3, x4]) W := by
  have c0 : W.cell? ⟨b, 0, none⟩ = some x0 := h.cell rfl
  have c1 : W.cell? ⟨b, 1, none⟩ = some x1 := h.cell rfl
  have c2 : W.cell? ⟨b, 2, none⟩ = some x2 := h.cell rfl
  have c3 : W.cell? ⟨b, 3, none⟩ = some x3 := h.cell rfl
  have c4 : W.cell? ⟨b, 4, none⟩ = some x4 := h.cell rfl
  go_simp

end Go.Proofs.YtpdkfidmmjlmnabDoor


namespace Go.Proofs.YtpdkfidmmjlmnabDoor
open Go.RowKit

theorem cell_new2 (W : World) (u v : Value) (t : TypeId) : (W.alloc (.cells #[u, v] t)).cell? ⟨W.heap.size, 0, none⟩ = some u := by simp
theorem cell_new2' (W : World) (u v : Value) (t : TypeId) : (W.alloc (.cells #[u, v] t)).cell? ⟨W.heap.size, 1, none⟩ = some v := by simp
end Go.Proofs.YtpdkfidmmjlmnabDoor


namespace Go.Proofs.YtpdkfidmmjlmnabDoor
open Go.RowKit

/-- It returns for a chain map, and panics for a family that is none. -/
def ReqR (p : Int) (ds : List Int) (ms : List (List (List Int))) (ds2 : List Int) (ms2 fs : List (List (List Int))) (u : TypeId) (pv : Value) (w : World) (e : Ending) (w' : World) : Prop :=
  Below w.heap.size w w' ∧ ((ChainOk p ds ms ds2 ms2 fs ∧ e = .returned (.tuple #[])) ∨ (¬ ChainOk p ds ms ds2 ms2 fs ∧ e = .panicked [{ v := .iface u pv, recovered := false }]))

set_option maxHeartbeats 6400000 in
set_option maxRecDepth 100000 in
theorem requireChainMap_any (p : Int) (ut : TypeId) (pv : Value) (dv mv dv2 mv2 fv : Value) (ds : List Int) (ms : List (List (List Int))) (ds2 : List Int) (ms2 fs : List (List (List Int))) (w : World) (h : Cx 0 w dv mv ds ms) (h2 : Cx 0 w dv2 mv2 ds2 ms2) (hf : L3 0 w fv fs) (hcx : IsCx p ds ms) (hcy : IsCx p ds2 ms2) (hl : ds.length = ds2.length) (hF : FamOk p ds ds2 0 fs) (hgl : w.cell? ⟨0, 0, none⟩ = some (.iface ut pv)) :
    Calls Tryd.prog 54 #[.agg #[.int .i64 p, dv, mv], .agg #[.int .i64 p, dv2, mv2], fv] w (ReqR p ds ms ds2 ms2 fs ut pv w) := by
  obtain ⟨ad, cap, rfl⟩ := Sl.shape h.dims
  obtain ⟨am, capm, rfl⟩ := Sl.shape h.maps
  obtain ⟨ad2, cap2, rfl⟩ := Sl.shape h2.dims
  obtain ⟨am2, capm2, rfl⟩ := Sl.shape h2.maps
  obtain ⟨af, cf, rfl⟩ := Sl.shape hf
  obtain ⟨k1, k2⟩ := bx_two (p := p) (p2 := p) 28 h h2
  have HX0 := Lib.hid k1
  have HY0 := Lib.hid k2
  have HCX := Lib.hid hcx
  have HCY := Lib.hid hcy
  have HLL := Lib.hid hl
  have HFO := Lib.hid hF
  obtain ⟨w1, hw1⟩ : ∃ w1, w1 = ((w.alloc (.cells #[.int .i64 p, .slice ad ds.length cap, .slice am ms.length capm] 28)).alloc (.cells #[.int .i64 p, .slice ad2 ds2.length cap2, .slice am2 ms2.length capm2] 28)) := ⟨_, rfl⟩
  rw [← hw1] at HX0 HY0
  have HB01 := Lib.hid HX0.out.below
  have HF1 := Lib.hid (hf.below HB01.out)
  have HGL1 := Lib.hid (later HB01.out (Nat.le_refl _) hgl)
  have hp7 : 2 ≤ p ∧ p ≤ 7 := ⟨hcx.1.prime.lo, hcx.1.prime.hi⟩
  obtain ⟨w2, hw2⟩ : ∃ w2, w2 = w1.alloc (.cells #[.int .i64 p, .slice ad2 ds2.length cap2, .slice am2 ms2.length capm2, .int .i64 0, .slice af fs.length cf] 74) := ⟨_, rfl⟩
  have HB12 : Hid (Below w1.heap.size w1 w2) := Lib.hid (by rw [hw2]; exact below_alloc1 _ _)
  have HG2 : Hid (Rz w2 w1.heap.size 74 #[.int .i64 p, .slice ad2 ds2.length cap2, .slice am2 ms2.length capm2, .int .i64 0, .slice af fs.length cf]) := Lib.hid (by rw [hw2]; exact Rz.new _ _ _)
  have HNX : Hid (∀ W, Below w2.heap.size w2 W → Bx w W w.heap.size p (.slice ad ds.length cap) (.slice am ms.length capm) ds ms ∧ Bx w W (w.heap.size + 1) p (.slice ad2 ds2.length cap2) (.slice am2 ms2.length capm2) ds2 ms2 ∧ Rz W w1.heap.size 74 #[.int .i64 p, .slice ad2 ds2.length cap2, .slice am2 ms2.length capm2, .int .i64 0, .slice af fs.length cf] ∧ L3 0 W (.slice af fs.length cf) fs ∧ W.cell? ⟨0, 0, none⟩ = some (.iface ut pv)) := Lib.hid (fun W hb => by
    have hb1 := HB12.out.trans (hb.mono HB12.out.size)
    exact ⟨HX0.out.next hb1, HY0.out.next hb1, HG2.out.next hb, HF1.out.below hb1, later hb1 (Nat.le_refl _) HGL1.out⟩)
  have d0 := HY0.out.c0
  have d1 := HY0.out.c1
  have d2 := HY0.out.c2
  clear h h2 hf k1 k2 hcx hcy hl hF hgl
  go_enter Tryd.func54, Tryd.ntmps54
  go_upto_region 1 with fail
  rw [← hw1]
  clear hw1
  go_upto_region 2 with fail
  rw [← hw2]
  clear hw2 d0 d1 d2
  refine wp_region_held (S := fun W => Below w2.heap.size w2 W) (by kernel_rfl) ?_
  have S0 : Below w2.heap.size w2 w2.drew := (Below.refl _ _).drew
  change wpAnyH _ _ _ _ _ _ _ _ w2.drew
  obtain ⟨wd, hwd⟩ : ∃ wd, wd = w2.drew := ⟨_, rfl⟩
  rw [← hwd] at S0 ⊢
  clear hwd
  refine held_take (i := 0) (v := .agg #[.int .i64 p, .slice ad ds.length cap, .slice am ms.length capm]) (some 11) rfl rfl (by kernel_rfl) (by kernel_rfl) (by kernel_rfl) (fun _ _ _ h => h) (yieldsIf_cell (by kernel_rfl) rfl (by kernel_rfl) (fun W h => hload3x (HNX.out W h).1)) S0 ?_
  refine held_take (i := 1) (v := .agg #[.int .i64 p, .slice ad2 ds2.length cap2, .slice am2 ms2.length capm2]) (some 12) rfl rfl (by kernel_rfl) (by kernel_rfl) (by kernel_rfl) (fun _ _ _ h => h) (yieldsIf_cell (by kernel_rfl) rfl (by kernel_rfl) (fun W h => hload3x (HNX.out W h).2.1)) S0 ?_
  refine held_take (i := 2) (v := .agg #[.int .i64 p, .slice ad ds.length cap, .slice am ms.length capm]) (some 13) rfl rfl (by kernel_rfl) (by kernel_rfl) (by kernel_rfl) (fun _ _ _ h => h) (yieldsIf_cell (by kernel_rfl) rfl (by kernel_rfl) (fun W h => hload3x (HNX.out W h).1)) S0 ?_
  refine held_take (i := 5) (v := .agg #[.int .i64 p, .slice ad2 ds2.length cap2, .slice am2 ms2.length capm2, .int .i64 0, .slice af fs.length cf]) (some 16) rfl rfl (by kernel_rfl) (by kernel_rfl) (by kernel_rfl) (fun _ _ _ h => h) (yieldsIf_cell (by kernel_rfl) rfl (by kernel_rfl) (fun W h => hloadGr W (HNX.out W h).2.2.1)) S0 ?_
  refine held_take (i := 6) (v := .func (.func 66) #[.agg #[.int .i64 p, .slice ad2 ds2.length cap2, .slice am2 ms2.length capm2, .int .i64 0, .slice af fs.length cf]] #[]) (some 17) rfl rfl (by kernel_rfl) (by kernel_rfl) (by kernel_rfl) (fun _ _ _ h => h) (yieldsIf_run (by kernel_rfl) (fun W _ => by kernel_rfl)) S0 ?_
  refine held_take (i := 9) (v := .pointer (some ⟨w.heap.size, 0, none⟩)) (some 20) rfl rfl (by kernel_rfl) (by kernel_rfl) (by kernel_rfl) (fun _ _ _ h => h) (yieldsIf_run (by kernel_rfl) (fun W _ => by kernel_rfl)) S0 ?_
  refine held_take (i := 10) (v := .int .i64 p) (some 21) rfl rfl (by kernel_rfl) (by kernel_rfl) (by kernel_rfl) (fun _ _ _ h => h) (yieldsIf_cell (by kernel_rfl) rfl (by kernel_rfl) (fun W h => hload W (HNX.out W h).1.c0)) S0 ?_
  refine held_take (i := 11) (v := .int .i64 (p - 1)) (some 22) rfl rfl (by kernel_rfl) (by kernel_rfl) (by kernel_rfl) (fun _ _ _ h => h) (yieldsIf_bin (by kernel_rfl) rfl (by kernel_rfl) (by kernel_rfl) (fun _ => rfl) (hsubA (IntWalk.i64_in _ (by omega)))) S0 ?_
  refine held_take (i := 12) (v := .agg #[.int .i64 p, .slice ad2 ds2.length cap2, .slice am2 ms2.length capm2, .int .i64 0, .slice af fs.length cf]) (some 23) rfl rfl (by kernel_rfl) (by kernel_rfl) (by kernel_rfl) (fun _ _ _ h => h) (yieldsIf_cell (by kernel_rfl) rfl (by kernel_rfl) (fun W h => hloadGr W (HNX.out W h).2.2.1)) S0 ?_
  refine held_take (i := 13) (v := .func (.func 66) #[.agg #[.int .i64 p, .slice ad2 ds2.length cap2, .slice am2 ms2.length capm2, .int .i64 0, .slice af fs.length cf]] #[]) (some 24) rfl rfl (by kernel_rfl) (by kernel_rfl) (by kernel_rfl) (fun _ _ _ h => h) (yieldsIf_run (by kernel_rfl) (fun W _ => by kernel_rfl)) S0 ?_
  refine held_take (i := 14) (v := .agg #[.int .i64 p, .slice ad2 ds2.length cap2, .slice am2 ms2.length capm2]) (some 25) rfl rfl (by kernel_rfl) (by kernel_rfl) (by kernel_rfl) (fun _ _ _ h => h) (yieldsIf_cell (by kernel_rfl) rfl (by kernel_rfl) (fun W h => hload3x (HNX.out W h).2.1)) S0 ?_
  refine held_enter (i := 3) (some 14) (f := 65) (args := #[.agg #[.int .i64 p, .slice ad ds.length cap, .slice am ms.length capm]]) (by kernel_rfl) rfl rfl rfl (by kernel_rfl) (differentialMap_any p _ _ ds ms wd (HNX.out wd S0).1.cx HCX.out) ?_ (fun c w' h => by obtain ⟨_, h, _⟩ := h; cases h) (fun w' h => by obtain ⟨_, h, _⟩ := h; cases h)
  rintro e1 V1 ⟨ux, he1, hA, hb1⟩
  injection he1 with he1
  subst he1
  obtain ⟨ua, ca, rfl⟩ := Sl.shape hA
  have S1 : Below w2.heap.size w2 V1 := S0.trans (hb1.mono S0.size)
  refine ⟨S1, ?_⟩
  refine held_take (i := 4) (v := .func (.func 66) #[.agg #[.int .i64 p, .slice ad ds.length cap, .slice am ms.length capm, .int .i64 (-1), .slice ua (dfL ds ms).length ca]] #[]) (some 15) rfl rfl (by kernel_rfl) (by kernel_rfl) (by kernel_rfl) (fun _ _ _ h => h) (yieldsIf_run (by kernel_rfl) (fun W _ => by kernel_rfl)) S1 ?_
  obtain ⟨V2, hV2⟩ : ∃ W', W' = V1.alloc (.cells #[.func (.func 66) #[.agg #[.int .i64 p, .slice ad ds.length cap, .slice am ms.length capm, .int .i64 (-1), .slice ua (dfL ds ms).length ca]] #[], .func (.func 66) #[.agg #[.int .i64 p, .slice ad2 ds2.length cap2, .slice am2 ms2.length capm2, .int .i64 0, .slice af fs.length cf]] #[]] 80) := ⟨_, rfl⟩
  have hb2 : Below V1.heap.size V1 V2 := by rw [hV2]; exact below_alloc1 _ _
  have S2 : Below w2.heap.size w2 V2 := S1.trans (hb2.mono S1.size)
  have hA_2 := hA.below hb2
  have a0 : V2.cell? ⟨V1.heap.size, 0, none⟩ = some (.func (.func 66) #[.agg #[.int .i64 p, .slice ad ds.length cap, .slice am ms.length capm, .int .i64 (-1), .slice ua (dfL ds ms).length ca]] #[]) := by rw [hV2]; exact cell_new2 _ _ _ _
  have a1 : V2.cell? ⟨V1.heap.size, 1, none⟩ = some (.func (.func 66) #[.agg #[.int .i64 p, .slice ad2 ds2.length cap2, .slice am2 ms2.length capm2, .int .i64 0, .slice af fs.length cf]] #[]) := by rw [hV2]; exact cell_new2' _ _ _ _
  refine held_mem (i := 7) (v := .slice (some ⟨V1.heap.size, 0, none⟩) 2 2) (w' := V2) (some 18) (by kernel_rfl) rfl rfl rfl (by rw [hV2]; go_simp) S2 ?_
  refine held_enter (i := 8) (some 19) (f := 64) (args := #[.int .i64 1, .slice (some ⟨V1.heap.size, 0, none⟩) 2 2]) (by kernel_rfl) rfl rfl rfl (by kernel_rfl) (along_any _ _ 2 2 V2) ?_ (fun c w' h => by cases h.1) (fun w' h => by cases h.1)
  rintro e3 V3 ⟨he3, hb3⟩
  injection he3 with he3
  subst he3
  have S3 : Below w2.heap.size w2 V3 := S2.trans (hb3.mono S2.size)
  have hA_3 := hA_2.below hb3
  have a0_3 := later hb3 (Nat.le_refl _) a0
  have a1_3 := later hb3 (Nat.le_refl _) a1
  refine ⟨S3, ?_⟩
  refine held_enter (i := 15) (some 26) (f := 65) (args := #[.agg #[.int .i64 p, .slice ad2 ds2.length cap2, .slice am2 ms2.length capm2]]) (by kernel_rfl) rfl rfl rfl (by kernel_rfl) (differentialMap_any p _ _ ds2 ms2 V3 (HNX.out V3 S3).2.1.cx HCY.out) ?_ (fun c w' h => by obtain ⟨_, h, _⟩ := h; cases h) (fun w' h => by obtain ⟨_, h, _⟩ := h; cases h)
  rintro e4 V4 ⟨uy, he4, hB, hb4⟩
  injection he4 with he4
  subst he4
  obtain ⟨ub, cb, rfl⟩ := Sl.shape hB
  have S4 : Below w2.heap.size w2 V4 := S3.trans (hb4.mono S3.size)
  have hA_4 := hA_3.below hb4
  have a0_4 := later hb4 (Nat.le_refl _) a0_3
  have a1_4 := later hb4 (Nat.le_refl _) a1_3
  refine ⟨S4, ?_⟩
  refine held_take (i := 16) (v := .func (.func 66) #[.agg #[.int .i64 p, .slice ad2 ds2.length cap2, .slice am2 ms2.length capm2, .int .i64 (-1), .slice ub (dfL ds2 ms2).length cb]] #[]) (some 27) rfl rfl (by kernel_rfl) (by kernel_rfl) (by kernel_rfl) (fun _ _ _ h => h) (yieldsIf_run (by kernel_rfl) (fun W _ => by kernel_rfl)) S4 ?_
  obtain ⟨V5, hV5⟩ : ∃ W', W' = V4.alloc (.cells #[.func (.func 66) #[.agg #[.int .i64 p, .slice ad2 ds2.length cap2, .slice am2 ms2.length capm2, .int .i64 0, .slice af fs.length cf]] #[], .func (.func 66) #[.agg #[.int .i64 p, .slice ad2 ds2.length cap2, .slice am2 ms2.length capm2, .int .i64 (-1), .slice ub (dfL ds2 ms2).length cb]] #[]] 80) := ⟨_, rfl⟩
  have hb5 : Below V4.heap.size V4 V5 := by rw [hV5]; exact below_alloc1 _ _
  have S5 : Below w2.heap.size w2 V5 := S4.trans (hb5.mono S4.size)
  have hA_5 := hA_4.below hb5
  have a0_5 := later hb5 (Nat.le_refl _) a0_4
  have a1_5 := later hb5 (Nat.le_refl _) a1_4
  have hB_5 := hB.below hb5
  have b0 : V5.cell? ⟨V4.heap.size, 0, none⟩ = some (.func (.func 66) #[.agg #[.int .i64 p, .slice ad2 ds2.length cap2, .slice am2 ms2.length capm2, .int .i64 0, .slice af fs.length cf]] #[]) := by rw [hV5]; exact cell_new2 _ _ _ _
  have b1 : V5.cell? ⟨V4.heap.size, 1, none⟩ = some (.func (.func 66) #[.agg #[.int .i64 p, .slice ad2 ds2.length cap2, .slice am2 ms2.length capm2, .int .i64 (-1), .slice ub (dfL ds2 ms2).length cb]] #[]) := by rw [hV5]; exact cell_new2' _ _ _ _
  refine held_mem (i := 17) (v := .slice (some ⟨V4.heap.size, 0, none⟩) 2 2) (w' := V5) (some 28) (by kernel_rfl) rfl rfl rfl (by rw [hV5]; go_simp) S5 ?_
  refine held_enter (i := 18) (some 29) (f := 64) (args := #[.int .i64 (p - 1), .slice (some ⟨V4.heap.size, 0, none⟩) 2 2]) (by kernel_rfl) rfl rfl rfl (by kernel_rfl) (along_any _ _ 2 2 V5) ?_ (fun c w' h => by cases h.1) (fun w' h => by cases h.1)
  rintro e6 V6 ⟨he6, hb6⟩
  injection he6 with he6
  subst he6
  have S6 : Below w2.heap.size w2 V6 := S5.trans (hb6.mono S5.size)
  have hA_6 := hA_5.below hb6
  have a0_6 := later hb6 (Nat.le_refl _) a0_5
  have a1_6 := later hb6 (Nat.le_refl _) a1_5
  have hB_6 := hB_5.below hb6
  have b0_6 := later hb6 (Nat.le_refl _) b0
  have b1_6 := later hb6 (Nat.le_refl _) b1
  refine ⟨S6, ?_⟩
  obtain ⟨V7, hV7⟩ : ∃ W', W' = V6.alloc (.cells #[.int .i64 1, .slice (some ⟨V1.heap.size, 0, none⟩) 2 2, .int .i64 (p - 1), .slice (some ⟨V4.heap.size, 0, none⟩) 2 2] 78) := ⟨_, rfl⟩
  have hb7 : Below V6.heap.size V6 V7 := by rw [hV7]; exact below_alloc1 _ _
  have S7 : Below w2.heap.size w2 V7 := S6.trans (hb7.mono S6.size)
  have hA_7 := hA_6.below hb7
  have a0_7 := later hb7 (Nat.le_refl _) a0_6
  have a1_7 := later hb7 (Nat.le_refl _) a1_6
  have hB_7 := hB_6.below hb7
  have b0_7 := later hb7 (Nat.le_refl _) b0_6
  have b1_7 := later hb7 (Nat.le_refl _) b1_6
  have p0 : V7.cell? ⟨V6.heap.size, 0, none⟩ = some (.int .i64 1) := by rw [hV7]; simp
  have p1 : V7.cell? ⟨V6.heap.size, 1, none⟩ = some (.slice (some ⟨V1.heap.size, 0, none⟩) 2 2) := by rw [hV7]; simp
  have p2 : V7.cell? ⟨V6.heap.size, 2, none⟩ = some (.int .i64 (p - 1)) := by rw [hV7]; simp
  have p3 : V7.cell? ⟨V6.heap.size, 3, none⟩ = some (.slice (some ⟨V4.heap.size, 0, none⟩) 2 2) := by rw [hV7]; simp
  refine held_mem (i := 19) (v := .slice (some ⟨V6.heap.size, 0, none⟩) 2 2) (w' := V7) (some 30) (by kernel_rfl) rfl rfl rfl (by rw [hV7]; go_simp) S7 ?_
  have hN := HNX.out V7 S7
  have hcon := chSum_any p (V6.heap.size) (V1.heap.size) (V4.heap.size) _ _ _ _ _ _ _ ds ms ds2 ms2 fs V7 hN.1.cx hN.2.1.cx hN.2.2.2.1 hA_7 hB_7 HCX.out HCY.out HLL.out HFO.out p0 p1 p2 p3 a0_7 a1_7 b0_7 b1_7
  refine held_enter (i := 20) (some 31) (f := 63) (args := #[.agg #[.int .i64 p, .slice ad ds.length cap, .slice am ms.length capm], .agg #[.int .i64 p, .slice ad2 ds2.length cap2, .slice am2 ms2.length capm2], .int .i64 (-1), .slice (some ⟨V6.heap.size, 0, none⟩) 2 2]) (by kernel_rfl) rfl rfl rfl (by kernel_rfl) (hcon) ?_ (fun c w' h => by obtain ⟨_, h, _⟩ := h; cases h) (fun w' h => by obtain ⟨_, h, _⟩ := h; cases h)
  rintro e8 V8 ⟨uF, he8, hrF, hb8⟩
  injection he8 with he8
  subst he8
  obtain ⟨auF, cuF, hsF⟩ := hrF.shape
  obtain ⟨nF, hnF⟩ : ∃ n, n = (famL ds.length (rsF ds) (csF ds2 (-1)) (chZ p ds ms ds2 ms2 fs)).length := ⟨_, rfl⟩
  rw [← hnF] at hsF
  subst hsF
  have S8 : Below w2.heap.size w2 V8 := S7.trans (hb8.mono S7.size)
  refine ⟨S8, ?_⟩
  refine held_take (i := 21) (v := .slice auF nF cuF) (some 7) rfl rfl (by kernel_rfl) (by kernel_rfl) (by kernel_rfl) (fun _ _ _ h => h) (yieldsIf_assign (by kernel_rfl) rfl (by kernel_rfl)) S8 ?_
  refine wpAnyH_done (by kernel_rfl) ?_ _
  simp only [Act.put, List.setIfInBounds_toArray, List.set_cons_zero, List.set_cons_succ]
  have HRF := Lib.hid hrF.l
  have HSF := Lib.hid S8
  obtain ⟨wz, hwz⟩ : ∃ wz : World, wz = V8 := ⟨_, rfl⟩
  rw [← hwz] at HRF HSF ⊢
  have HH := Lib.hid (HNX.out wz HSF.out)
  have hl6 := HCX.out.1.len1
  have HZC := Lib.hid (isZeroFamily_any (.slice auF nF cuF) _ wz HRF.out (by rw [famL_length]; omega) (fun n hn => by rw [famL_length] at hn; rw [famL_get hn, tableOf_len]; have := HCX.out.1.dim n; simp only [rsF]; omega) (fun n hn i hi => by rw [famL_length] at hn; rw [famL_get hn, tableOf_len] at hi; rw [famL_get hn, tableOf_get hi, List.length_map, List.length_range]; have := dimZ_8 HCY.out ((n : Int) + (-1)); simp only [csF]; omega))
  have HIF : Hid (ZeroF (famL ds.length (rsF ds) (csF ds2 (-1)) (chZ p ds ms ds2 ms2 fs)) ↔ ChainOk p ds ms ds2 ms2 fs) := Lib.hid (zeroF_famL.trans (chain_iff HCX.out.1 HCY.out.1 HLL.out HFO.out))
  clear hcon hN hrF hwz hnF hb1 hb2 hb3 hb4 hb5 hb6 hb7 hb8 S0 S1 S2 S3 S4 S5 S6 S7 S8 hV2 hV5 hV7
  go_wp2_with fail
  refine HZC.out.mono ?_
  rintro ee w9 ⟨bb, rfl, hb9, hbb⟩
  have HB9 := Lib.hid (HH.out.1.below.trans (hb9.mono HH.out.1.below.size))
  have HG9 := Lib.hid (later hb9 (Nat.le_refl _) HH.out.2.2.2.2)
  clear HZC hb9
  by_cases hc : ChainOk p ds ms ds2 ms2 fs
  · obtain rfl : bb = true := hbb.2 (HIF.out.2 hc)
    have HC := Lib.hid hc
    clear hbb hc
    go_wp2
    go_end0
    exact ⟨HB9.out, Or.inl ⟨HC.out, rfl⟩⟩
  · obtain rfl : bb = false := by
      cases bb with
      | false => rfl
      | true => exact absurd (HIF.out.1 (hbb.1 rfl)) hc
    have HC := Lib.hid hc
    have g0 := HG9.out
    clear hbb hc
    go_wp2
    exact ⟨rfl, HB9.out, Or.inr ⟨HC.out, rfl⟩⟩
end Go.Proofs.YtpdkfidmmjlmnabDoor


namespace Go.Proofs.YtpdkfidmmjlmnabDoor
open Go.RowKit

theorem hasserts (pv : Value) (W : World) : (Instr.typeAssert (.iface 99 pv) 20 66 true).run Tryd.prog W = .ok (.tuple #[.iface 99 pv, .bool true]) W := by kernel_rfl
theorem hassertn (W : World) : (Instr.typeAssert .nilIface 20 66 true).run Tryd.prog W = .ok (.tuple #[.nilIface, .bool false]) W := by kernel_rfl

set_option maxRecDepth 100000 in
theorem catch_yes (a : Addr) (x : Int) (pv : Value) (older : List PanicEntry) (w : World) (hc : w.cell? a = some (.int .i64 x)) (hz : w.frozen? a = false) :
    CallsD Tryd.prog 53 #[.pointer (some a)] (.panicking ({ v := .iface 99 pv, recovered := false } :: older)) w fun e u' w' =>
      e = .returned (.tuple #[]) ∧ u' = .panicking ({ v := .iface 99 pv, recovered := true } :: older) ∧ w' = w.setCell a (.int .i64 5) := by
  refine callsD_of_wpS Tryd.func53 rfl fun c₀ cs hu => ?_
  apply wpS_seq
  apply wpS_region
  simp [wpOpsS, go_sem, recoverD, hu, Tryd.ntmps53, Exit.thenS, hasserts]
  apply wpS_seq
  apply wpS_region
  simp [wpOpsS, go_sem, Exit.thenS, Array.replicate]
  refine wpS_cond (t := true) (by simp [Act.eval]) ?_
  simp only [if_true]
  apply wpS_region
  simp [wpOpsS, go_sem, hc, hz, bodyPostS, results, Tryd.results53]
theorem catch_no (a : Addr) (w : World) :
    CallsD Tryd.prog 53 #[.pointer (some a)] .returning w fun e u' w' => e = .returned (.tuple #[]) ∧ u' = .returning ∧ w' = w := by
  refine callsD_of_wpS Tryd.func53 rfl fun c₀ cs hu => ?_
  apply wpS_seq
  apply wpS_region
  simp [wpOpsS, go_sem, recoverD, hu, Tryd.ntmps53, Exit.thenS, hassertn]
  apply wpS_seq
  apply wpS_region
  simp [wpOpsS, go_sem, Exit.thenS, Array.replicate]
  refine wpS_cond (t := false) (by simp [Act.eval]) ?_
  simp only [Bool.false_eq_true, if_false]
  refine wpS_of_wp (wp_skip ?_)
  cases c₀
  simp_all [bodyPostS, results, Tryd.results53]

/-- Families in a row at block b. -/
def FamsAt (w : World) (b k : Nat) (F : Nat → List (List (List Int))) : Prop := ∀ j, j < k → ∃ v, w.cell? ⟨b, j, none⟩ = some v ∧ L3 0 w v (F j)
def StR (p : Int) (ds : List Int) (ms : List (List (List Int))) (ds2 : List Int) (ms2 : List (List (List Int))) (k : Nat) (F : Nat → List (List (List Int))) (w : World) (e : Ending) (w' : World) : Prop :=
  ∃ c : Int, e = .returned (.int .i64 c) ∧ Below w.heap.size w w' ∧ ((c = 0 ∧ ∀ j, j < k → ChainOk p ds ms ds2 ms2 (F j)) ∨ (c = 5 ∧ ¬ ∀ j, j < k → ChainOk p ds ms ds2 ms2 (F j)))

set_option maxHeartbeats 6400000 in
set_option maxRecDepth 100000 in
theorem checkState_any (p : Int) (k b : Nat) (F : Nat → List (List (List Int))) (pv : Value) (dv mv dv2 mv2 : Value) (ds : List Int) (ms : List (List (List Int))) (ds2 : List Int) (ms2 : List (List (List Int))) (w : World) (h : Cx 0 w dv mv ds ms) (h2 : Cx 0 w dv2 mv2 ds2 ms2) (hFs : FamsAt w b k F) (hk : k ≤ 100) (hcx : IsCx p ds ms) (hcy : IsCx p ds2 ms2) (hl : ds.length = ds2.length) (hF : ∀ j, j < k → FamOk p ds ds2 0 (F j)) (hgl : w.cell? ⟨0, 0, none⟩ = some (.iface 99 pv)) :
    Calls Tryd.prog 38 #[.agg #[.int .i64 p, dv, mv], .agg #[.int .i64 p, dv2, mv2], .slice (some ⟨b, 0, none⟩) k k] w (StR p ds ms ds2 ms2 k F w) := by
  have hmf : ∀ (fn : Fn) (first cap : Array Value) (w : World), (Instr.makeFunc fn first cap).run Tryd.prog w = .ok (.func fn first cap) w := fun _ _ _ _ => rfl
  obtain ⟨ad, cap, rfl⟩ := Sl.shape h.dims
  obtain ⟨am, capm, rfl⟩ := Sl.shape h.maps
  obtain ⟨ad2, cap2, rfl⟩ := Sl.shape h2.dims
  obtain ⟨am2, capm2, rfl⟩ := Sl.shape h2.maps
  obtain ⟨k1, k2⟩ := bx_two (p := p) (p2 := p) 28 h h2
  obtain ⟨wb, hwb⟩ : ∃ wb, wb = ((w.alloc (.cells #[.int .i64 p, .slice ad ds.length cap, .slice am ms.length capm] 28)).alloc (.cells #[.int .i64 p, .slice ad2 ds2.length cap2, .slice am2 ms2.length capm2] 28)) := ⟨_, rfl⟩
  rw [← hwb] at k1 k2
  have hsb : wb.heap.size = w.heap.size + 2 := by rw [hwb]; simp
  obtain ⟨w1, hw1⟩ : ∃ w1, w1 = wb.alloc (.cells #[.int .i64 0] 2) := ⟨_, rfl⟩
  have hb1 : Below wb.heap.size wb w1 := by rw [hw1]; exact below_alloc1 _ _
  have HX0 := Lib.hid (k1.next hb1)
  have HY0 := Lib.hid (k2.next hb1)
  have HZ0 : Hid (Rz w1 (w.heap.size + 2) 2 #[.int .i64 0]) := Lib.hid (by rw [hw1, ← hsb]; exact Rz.new _ _ _)
  have HB01 := Lib.hid HX0.out.below
  have HFS := Lib.hid hFs
  have HCX := Lib.hid hcx
  have HCY := Lib.hid hcy
  have HLL := Lib.hid hl
  have HFO := Lib.hid hF
  have HGL := Lib.hid hgl
  have HRES : Hid (Tryd.f38.results = #[.cell 6 2]) := Lib.hid (by kernel_rfl)
  have HNX : Hid (∀ W, Below w1.heap.size w1 W → Bx w W w.heap.size p (.slice ad ds.length cap) (.slice am ms.length capm) ds ms ∧ Bx w W (w.heap.size + 1) p (.slice ad2 ds2.length cap2) (.slice am2 ms2.length capm2) ds2 ms2 ∧ Rz W (w.heap.size + 2) 2 #[.int .i64 0] ∧ Below w.heap.size w W) := Lib.hid (fun W hb => ⟨HX0.out.next hb, HY0.out.next hb, HZ0.out.next hb, HB01.out.trans (hb.mono HB01.out.size)⟩)
  rw [hwb] at hw1
  clear h h2 hFs hcx hcy hl hF hgl k1 k2 hb1 hwb hsb
  go_enter_defers Tryd.func38, Tryd.ntmps38
  go_upto_region 1 with fail
  rw [← hw1]
  clear hw1
  go_wp2
  go_loopw [12] (fun i wr => ∃ (j : Nat), j ≤ k ∧ i = .int .i64 j ∧ Hid (Below w1.heap.size w1 wr) ∧ Hid (∀ j2, j2 < j → ChainOk p ds ms ds2 ms2 (F j2))) (fun i _ => k - (intOf i).toNat)
  case atStart => exact ⟨0, Nat.zero_le _, rfl, Lib.hid (Below.refl _ _), Lib.hid (fun _ h => absurd h (Nat.not_lt_zero _))⟩
  case round =>
    obtain ⟨j, hj, rfl, HB, HC⟩ := hrel
    obtain ⟨wx, hwx⟩ : ∃ wx : World, wx = wr := ⟨_, rfl⟩
    subst hwx
    have HH := Lib.hid (HNX.out wx HB.out)
    by_cases hlt : j < k
    · obtain ⟨v, hv, hl3⟩ := HFS.out j hlt
      have hbw := HH.out.2.2.2
      have hv' := later hbw (Nat.le_refl _) hv
      obtain ⟨af, cf, rfl⟩ := Sl.shape hl3
      have HRQ := Lib.hid (requireChainMap_any p 99 pv _ _ _ _ _ ds ms ds2 ms2 (F j) wx HH.out.1.cx HH.out.2.1.cx (hl3.below hbw) HCX.out HCY.out HLL.out (HFO.out j hlt) (later hbw (Nat.le_refl _) HGL.out))
      have c0 := HH.out.1.c0
      have c1 := HH.out.1.c1
      have c2 := HH.out.1.c2
      have d0 := HH.out.2.1.c0
      have d1 := HH.out.2.1.c1
      have d2 := HH.out.2.1.c2
      obtain ⟨fl, hfl⟩ : ∃ fl, fl = (F j).length := ⟨_, rfl⟩
      rw [← hfl] at hv' HRQ
      clear hv hl3 hbw hfl
      go_wp2_with fail
      refine HRQ.out.mono ?_
      rintro e w2 ⟨hb2, hh⟩
      have HB2 := Lib.hid (HB.out.trans (hb2.mono HB.out.size))
      clear HRQ hb2 c0 c1 c2 d0 d1 d2 hv'
      rcases hh with ⟨hc, rfl⟩ | ⟨hc, rfl⟩
      · have HC2 := Lib.hid hc
        clear hc
        go_wp2
        go_roundw
        case rel => exact ⟨j + 1, by omega, by go_num, HB2, Lib.hid (fun j2 h2 => by
          by_cases e : j2 = j
          · subst e; exact HC2.out
          · exact HC.out j2 (by omega))⟩
        case measure => simp [intOf]; omega
      · have HC2 := Lib.hid hc
        clear hc
        have HN2 := Lib.hid (HNX.out w2 HB2.out)
        have q0 : w2.cell? ⟨w.heap.size + 2, 0, none⟩ = some (.int .i64 0) := HN2.out.2.2.1.cell (i := 0) rfl
        have z0 := rz_frozen HN2.out.2.2.1 0
        go_wp2
        refine leaves_cons (f := 53) (args := #[.pointer (some ⟨w.heap.size + 1 + 1, 0, none⟩)]) (by simp) (by simp [go_sem]) ?_
        refine (catch_yes ⟨w.heap.size + 1 + 1, 0, none⟩ 0 pv [] w2 q0 z0).mono ?_
        rintro e u' w'' ⟨rfl, rfl, rfl⟩
        have q5 : (w2.setCell ⟨w.heap.size + 1 + 1, 0, none⟩ (.int .i64 5)).cell? ⟨w.heap.size + 1 + 1, 0, none⟩ = some (.int .i64 5) := World.cell?_setCell_same _ _ _ q0
        refine ⟨.int .i64 5, ?_, 5, rfl, HN2.out.2.2.2.setCell (by show w.heap.size ≤ w.heap.size + 1 + 1; omega) _, Or.inr ⟨rfl, fun hall => HC2.out (hall j hlt)⟩⟩
        simp only [results, HRES.out]
        go_simp
    · have HN2 := HH
      have q0 : wx.cell? ⟨w.heap.size + 2, 0, none⟩ = some (.int .i64 0) := HN2.out.2.2.1.cell (i := 0) rfl
      have z0 := rz_frozen HN2.out.2.2.1 0
      have q5 : (wx.setCell ⟨w.heap.size + 1 + 1, 0, none⟩ (.int .i64 0)).cell? ⟨w.heap.size + 1 + 1, 0, none⟩ = some (.int .i64 0) := World.cell?_setCell_same _ _ _ q0
      go_wp2
      refine leaves_cons (f := 53) (args := #[.pointer (some ⟨w.heap.size + 1 + 1, 0, none⟩)]) (by simp) (by simp [go_sem]) ?_
      refine (catch_no ⟨w.heap.size + 1 + 1, 0, none⟩ _).mono ?_
      rintro e u' w'' ⟨rfl, rfl, rfl⟩
      refine ⟨.int .i64 0, ?_, 0, rfl, HN2.out.2.2.2.setCell (by show w.heap.size ≤ w.heap.size + 1 + 1; omega) _, Or.inl ⟨rfl, fun j2 h2 => HC.out j2 (by omega)⟩⟩
      simp only [results, HRES.out]
      go_simp
end Go.Proofs.YtpdkfidmmjlmnabDoor


namespace Go.Proofs.YtpdkfidmmjlmnabDoor
open Go.RowKit

def ApB (p : Int) (c : Nat) (v : List Int) (t : List (List Int)) (w : World) (e : Ending) (w' : World) : Prop := ∃ u, e = .returned u ∧ Gb w.heap.size w' u (apT p c v t) ∧ Below w.heap.size w w'
theorem Ap.doneB {w wr : World} {p : Int} {c : Nat} {v : List Int} {t : List (List Int)} (hc : c ≤ 1048576) (ok : ApOk p c v t) (h : Ap w wr 2 p c v t v.length 0) : Gb w.heap.size wr (.slice (some ⟨w.heap.size, 0, none⟩) c c) (apT p c v t) := by
  have hl := apTo_length ok (Nat.le_refl _)
  have h1 : wr.rowIs w.heap.size 2 c (fun i => .int .i64 ((apT p c v t).getD i 0)) := h.row.congr (fun j _ => by simp [apCell, apT])
  have hlen : (apT p c v t).length = c := hl
  exact gb_row h1 hlen (fun i hi => by rw [getD_of_lt _ hi]) (by unfold maxLen; omega) (Nat.le_refl _)
set_option maxHeartbeats 3200000 in
theorem l01ApplyB_any (p : Int) (c : Nat) (va vt : Value) (v : List Int) (t : List (List Int)) (w : World) (ok : ApOk p c v t) (ha : L1 0 w va v) (ht : L2 0 w vt t) (hv : v.length ≤ 1048576) (hc : c ≤ 1048576) :
    Calls Tryd.prog 49 #[.int .i64 p, vt, va, .int .i64 c] w (ApB p c v t w) := by
  have hmk := run_make_row' (P := Tryd.prog) 22 2 (.int .i64 0) 8 Tryd.underlying22 Tryd.infoI rfl .i64 .i64 c (by omega) (by omega)
  have hp0 := ok.prime.lo
  have hp1 := ok.prime.hi
  have OK := Lib.hid ok
  clear ok
  refine Sl.cases ha (fun ad cap hx hv' => ?_) (fun b o cap hv' _ hpos hcl => ?_)
  · subst hx hv'
    clear ha ht
    go_enter Tryd.func49, Tryd.ntmps49
    go_wp2
    refine wp_loop_rounds 1 ?_
    rw [rounds_succ]
    go_wp2
    go_ret
    exact ⟨_, rfl, Ap.doneB (by omega) OK.out (Ap.start _ _ _ _ _ _), (Below.refl _ _).alloc (Nat.le_refl _) _⟩
  · refine Sl.cases ht (fun ad2 cap2 hx2 hv2 => absurd OK.out.len (by subst hx2; simp only [List.length_nil]; omega)) (fun b2 o2 cap2 hv2 _ hpos2 hcl2 => ?_)
    subst hv' hv2
    clear ha ht
    have hlen := OK.out.len
    have HC := Lib.hid hcl
    have HC2 := Lib.hid hcl2
    clear hcl hcl2
    go_enter Tryd.func49, Tryd.ntmps49
    go_wp2
    clear hmk
    go_loopw [10, 11] (fun i _ wr => ∃ (k : Nat), k ≤ v.length ∧ i = .int .i64 k ∧ Ap w wr 2 p c v t k 0) (fun i _ _ => v.length - (intOf i).toNat)
    case atStart => exact ⟨0, Nat.zero_le _, rfl, Ap.start _ _ _ _ _ _⟩
    case round =>
      obtain ⟨k, hk, rfl, HA⟩ := hrel
      by_cases hlt2 : k < v.length
      · have hlt3 : k < t.length := by omega
        obtain ⟨u, hu, hr⟩ := HC.out k hlt2
        obtain ⟨u2, hu2, hr2⟩ := HC2.out k hlt3
        have hnum := OK.out.num hlt2
        have hrow := OK.out.row hlt2
        rw [getD_of_lt _ hlt2] at hnum
        rw [getD_of_lt _ hlt3] at hrow
        obtain ⟨f, hf⟩ : ∃ f, f = v[k] := ⟨_, rfl⟩
        obtain ⟨ys, hy⟩ : ∃ ys, ys = t[k] := ⟨_, rfl⟩
        rw [← hf] at hnum
        rw [← hy] at hrow hr2
        obtain ⟨hf0, hf1⟩ := hnum
        have HU : Hid (w.cell? ⟨b, o + k, none⟩ = some (.int .i64 f)) := Lib.hid (by rw [hu, hr, hf])
        have HU2 := Lib.hid hu2
        have HF := Lib.hid hf
        have HY := Lib.hid hy
        have HROW := Lib.hid hrow
        have HR2 := Lib.hid hr2
        have HA' := Lib.hid HA
        clear hf hy hrow HA hu hr hu2 hr2
        obtain ⟨wo, hwo⟩ : ∃ wo : World, wo = wr := ⟨_, rfl⟩
        have HWO := Lib.hid hwo
        clear hwo
        go_wp2
        go_loopw [11] (fun i wr => ∃ (q : Nat), q ≤ c ∧ i = .int .i64 q ∧ Ap w wr 2 p c v t k q) (fun i _ => c - (intOf i).toNat)
        case atStart => exact ⟨0, Nat.zero_le _, rfl, HA'.out⟩
        case round =>
          obtain ⟨q, hq, rfl, HB⟩ := hrel
          by_cases hlt4 : q < c
          · have hl5 : q < ys.length := by have := HROW.out.1; omega
            refine Sl.cases HR2.out (fun ad3 cap3 hx3 hv3 => absurd hl5 (by subst hx3; simp)) (fun b3 o3 cap3 hv3 _ hpos3 hcl3 => ?_)
            obtain ⟨u3, hu3, hr3⟩ := hcl3 q hl5
            have hx := HROW.out.2 _ (List.getElem_mem hl5)
            obtain ⟨x, hxx⟩ : ∃ x, x = ys[q] := ⟨_, rfl⟩
            obtain ⟨a, haa⟩ : ∃ a, a = (apTo p c v t k).getD q 0 := ⟨_, rfl⟩
            have hab := apTo_mod OK.out (Nat.le_of_lt hlt2) q
            have hac := HB.cell hlt4
            have hfz := HB.row.frozen q
            rw [← haa] at hab hac
            rw [← hxx] at hx
            obtain ⟨hx0, hx1⟩ := hx
            obtain ⟨ha0, ha1⟩ := hab
            have hu' : wr.cell? ⟨b, o + k, none⟩ = some (.int .i64 f) := by rw [HB.below.cell (p := ⟨b, o + k, none⟩) (cell_lt HU.out)]; exact HU.out
            have hu2' : wr.cell? ⟨b2, o2 + k, none⟩ = some (.slice (some ⟨b3, o3, none⟩) ys.length cap3) := by rw [HB.below.cell (p := ⟨b2, o2 + k, none⟩) (cell_lt HU2.out)]; rw [HU2.out, hv3]
            have hu3' : wr.cell? ⟨b3, o3 + q, none⟩ = some (.int .i64 x) := by rw [HB.below.cell (p := ⟨b3, o3 + q, none⟩) (cell_lt hu3), hu3, hr3, hxx]
            have m0 : 0 ≤ f * x := Int.mul_nonneg hf0 hx0
            have m1 : f * x ≤ 36 := Int.le_trans (Int.mul_le_mul (show f ≤ 6 by omega) (show x ≤ 6 by omega) hx0 (by omega)) (by omega)
            have HS := Lib.hid (HB.step OK.out hlt2 hlt4 (x := (a + f * x) % p) (by rw [haa, HF.out, hxx, getD_of_lt _ hlt2, getD_of_lt _ hlt3, ← HY.out, getD_of_lt _ hl5]))
            clear HB hu3 hr3 haa hxx hv3 hcl3
            go_wp2
            go_region
            all_goals go_wp2
            all_goals go_roundw
            case rel => exact ⟨q + 1, by omega, by go_num, HS.out.drew⟩
            case measure => simp [intOf]; omega
          · have HB' := Lib.hid HB
            have hqc : Hid (q = c) := Lib.hid (by omega)
            clear HB
            go_wp2
            go_roundw
            case rel => exact ⟨k + 1, by omega, by go_num, Ap.next (by have := HB'.out; rwa [hqc.out] at this)⟩
            case measure => simp [intOf]; omega
      · have hkk : k = v.length := by omega
        subst hkk
        have HA' := Lib.hid HA
        clear HA
        go_wp2
        go_ret
        exact ⟨_, rfl, Ap.doneB (by omega) OK.out HA'.out, HA'.out.below⟩


set_option maxHeartbeats 1600000 in
set_option maxRecDepth 100000 in
theorem l04D_any (p : Int) (i c : Nat) (dv mv va : Value) (ds : List Int) (ms : List (List (List Int))) (vs : List Int) (w : World) (h : Cx 0 w dv mv ds ms) (hcx : IsCx p ds ms) (hi : i < ds.length) (hc : dimZ ds ((i : Int) + (-1)) = (c : Int)) (ha : L1 0 w va vs) (ok : ApOk p c vs (cycT ds ms i)) (hvl : vs.length ≤ 1048576) :
    Calls Tryd.prog 33 #[.agg #[.int .i64 p, dv, mv], .int .i64 (i : Int), va] w (GbR (apT p c vs (cycT ds ms i)) w) := by
  obtain ⟨ad, cap, rfl⟩ := Sl.shape h.dims
  obtain ⟨am, capm, rfl⟩ := Sl.shape h.maps
  obtain ⟨av, cv, rfl⟩ := Sl.shape ha
  have HX0 := Lib.hid (Bx.start (p := p) 28 h)
  have HCX := Lib.hid hcx
  have HOK := Lib.hid ok
  have hl6 := hcx.1.len1
  have hz := dimZ_b hcx ((i : Int) + (-1))
  have hc8 : c ≤ 8 := by omega
  obtain ⟨w1, hw1⟩ : ∃ w1 : World, w1 = w.alloc (.cells #[.int .i64 p, .slice ad ds.length cap, .slice am ms.length capm] 28) := ⟨_, rfl⟩
  rw [← hw1] at HX0
  have HA1 := Lib.hid (ha.below HX0.out.below)
  have HN1 : Hid (∀ W, Below w1.heap.size w1 W → Bx w W w.heap.size p (.slice ad ds.length cap) (.slice am ms.length capm) ds ms ∧ L1 0 W (.slice av vs.length cv) vs) := Lib.hid (fun W hb => ⟨HX0.out.next hb, HA1.out.below hb⟩)
  have hs1 := HX0.out.below.size
  have HDC := Lib.hid hc
  clear h hcx ha ok hz hc
  go_enter Tryd.func33, Tryd.ntmps33
  go_upto_region 1 with fail
  rw [← hw1]
  clear hw1
  by_cases h0 : i = 0
  · have hq : ((i : Int) == 0) = true := by simp [h0]
    have HE : Hid (apT p c vs (cycT ds ms i) = []) := Lib.hid (List.eq_nil_of_length_eq_zero (by have h1 := apT_length' HOK.out; have h2 := HDC.out; rw [dimZ_neg (by omega)] at h2; omega))
    clear h0
    go_wp2
    go_ret
    refine ⟨_, rfl, ?_, HX0.out.below.trans ((below_alloc1 _ _).mono hs1)⟩
    rw [HE.out]
    exact (Gb.new w1 (Nat.le_refl _)).mono hs1
  · have hq : ((i : Int) == 0) = false := by simp [h0]
    have hwk : IntKind.i64.wrap ((i : Int) - 1) = (i : Int) + (-1) := by rw [show (i : Int) - 1 = (i : Int) + (-1) by omega]; exact IntWalk.i64_in _ (by omega)
    clear h0
    go_wp2
    refine wp_region_held (S := fun W => Below w1.heap.size w1 W) (by kernel_rfl) ?_
    have S0 : Below w1.heap.size w1 w1.drew := (Below.refl _ _).drew
    refine held_take (i := 0) (v := .pointer (some ⟨w.heap.size, 0, none⟩)) (some 10) rfl rfl (by kernel_rfl) (by kernel_rfl) (by kernel_rfl) (fun _ _ _ h => h) (yieldsIf_run (by kernel_rfl) (fun W _ => by kernel_rfl)) S0 ?_
    refine held_take (i := 1) (v := .int .i64 p) (some 11) rfl rfl (by kernel_rfl) (by kernel_rfl) (by kernel_rfl) (fun _ _ _ h => h) (yieldsIf_cell (by kernel_rfl) rfl (by kernel_rfl) (fun W h => hload W ((HN1.out W h).1.c0))) S0 ?_
    refine held_take (i := 2) (v := .agg #[.int .i64 p, .slice ad ds.length cap, .slice am ms.length capm]) (some 12) rfl rfl (by kernel_rfl) (by kernel_rfl) (by kernel_rfl) (fun _ _ _ h => h) (yieldsIf_cell (by kernel_rfl) rfl (by kernel_rfl) (fun W h => hload3x (HN1.out W h).1)) S0 ?_
    refine held_take (i := 3) (v := .int .i64 (i : Int)) (some 13) rfl rfl (by kernel_rfl) (by kernel_rfl) (by kernel_rfl) (fun _ _ _ h => h) (yieldsIf_move (by kernel_rfl) rfl (by kernel_rfl)) S0 ?_
    refine held_take (i := 5) (v := .slice av vs.length cv) (some 15) rfl rfl (by kernel_rfl) (by kernel_rfl) (by kernel_rfl) (fun _ _ _ h => h) (yieldsIf_move (by kernel_rfl) rfl (by kernel_rfl)) S0 ?_
    refine held_take (i := 6) (v := .agg #[.int .i64 p, .slice ad ds.length cap, .slice am ms.length capm]) (some 16) rfl rfl (by kernel_rfl) (by kernel_rfl) (by kernel_rfl) (fun _ _ _ h => h) (yieldsIf_cell (by kernel_rfl) rfl (by kernel_rfl) (fun W h => hload3x (HN1.out W h).1)) S0 ?_
    refine held_take (i := 7) (v := .int .i64 (i : Int)) (some 17) rfl rfl (by kernel_rfl) (by kernel_rfl) (by kernel_rfl) (fun _ _ _ h => h) (yieldsIf_move (by kernel_rfl) rfl (by kernel_rfl)) S0 ?_
    refine held_take (i := 8) (v := .int .i64 ((i : Int) + (-1))) (some 18) rfl rfl (by kernel_rfl) (by kernel_rfl) (by kernel_rfl) (fun _ _ _ h => h) (yieldsIf_bin (by kernel_rfl) rfl (by kernel_rfl) (by kernel_rfl) (fun _ => rfl) (hsubA hwk)) S0 ?_
    refine held_enter (i := 4) (some 14) (f := 50) (args := #[.agg #[.int .i64 p, .slice ad ds.length cap, .slice am ms.length capm], .int .i64 (i : Int)]) (by kernel_rfl) rfl rfl rfl (by kernel_rfl) (l01Map_any p (i : Int) _ _ ds ms _ (HN1.out _ S0).1.cx HCX.out) ?_ (fun c w' h => by obtain ⟨_, h, _⟩ := h; cases h) (fun w' h => by obtain ⟨_, h, _⟩ := h; cases h)
    rintro ee w2 ⟨vt, he, hvt, hb2⟩
    injection he with he
    subst he
    have S1 : Below w1.heap.size w1 w2 := S0.trans (hb2.mono S0.size)
    obtain ⟨at', ct, hv⟩ := Sl.shape hvt
    subst hv
    refine ⟨S1, ?_⟩
    refine held_enter (i := 9) (some 19) (f := 32) (args := #[.agg #[.int .i64 p, .slice ad ds.length cap, .slice am ms.length capm], .int .i64 ((i : Int) + (-1))]) (by kernel_rfl) rfl rfl rfl (by kernel_rfl) (l01Dim_any p ((i : Int) + (-1)) _ _ ds ms _ (HN1.out _ S1).1.cx (by omega)) ?_ (fun c w' h => by cases h.1) (fun w' h => by cases h.1)
    rintro ee w3 ⟨he, hb3⟩
    injection he with he
    subst he
    have S2 : Below w1.heap.size w1 w3 := S1.trans (hb3.mono S1.size)
    refine ⟨S2, ?_⟩
    have hvt3 := hvt.below hb3
    have hmz : mapZ ds ms (i : Int) = cycT ds ms i := rfl
    rw [HDC.out]
    refine held_enter (i := 10) (some 20) (f := 49) (args := #[.int .i64 p, .slice at' (mapZ ds ms (i : Int)).length ct, .slice av vs.length cv, .int .i64 (c : Int)]) (by kernel_rfl) rfl rfl rfl (by kernel_rfl) (l01ApplyB_any p c _ _ vs (cycT ds ms i) _ HOK.out (HN1.out _ S2).2 hvt3 hvl (by omega)) ?_ (fun c w' h => by obtain ⟨_, h, _⟩ := h; cases h) (fun w' h => by obtain ⟨_, h, _⟩ := h; cases h)
    rintro ee w4 ⟨u4, he, hu, hb4⟩
    injection he with he
    subst he
    obtain ⟨a4, c4, hv⟩ := Sl.shape hu.l1
    subst hv
    have S3 : Below w1.heap.size w1 w4 := S2.trans (hb4.mono S2.size)
    have HU := Lib.hid (hu.mono (Nat.le_trans hs1 S2.size))
    have HBW := Lib.hid (HN1.out _ S3).1.below
    refine ⟨S3, ?_⟩
    refine held_take (i := 11) (v := .slice a4 (apT p c vs (cycT ds ms i)).length c4) (some 6) rfl rfl (by kernel_rfl) (by kernel_rfl) (by kernel_rfl) (fun _ _ _ h => h) (yieldsIf_assign (by kernel_rfl) rfl (by kernel_rfl)) S3 ?_
    refine wpAnyH_done (by kernel_rfl) ?_ _
    simp only [Act.put, List.setIfInBounds_toArray, List.set_cons_zero, List.set_cons_succ]
    clear S0 S1 S2 S3 hb2 hb3 hb4 hu hvt hvt3
    go_wp2
    go_ret
    exact ⟨_, rfl, HU.out, HBW.out⟩
end Go.Proofs.YtpdkfidmmjlmnabDoor


namespace Go.Proofs.YtpdkfidmmjlmnabDoor
open Go.RowKit

set_option maxHeartbeats 800000 in
theorem l04Same_any (va vb : Value) (xs ys : List Int) (w : World) (ha : L1 0 w va xs) (hb : L1 0 w vb ys) (hm : xs.length ≤ 1048576) (hn : ys.length ≤ 1048576) :
    Calls Tryd.prog 46 #[va, vb] w (QR (.bool (decide (xs = ys))) w) := by
  by_cases hl : ys.length = xs.length
  · refine Sl.cases ha (fun ad cap hx hv => ?_) (fun b o cap hv _ hpos hc => ?_)
    · subst hx hv
      obtain ⟨ad2, cap2, hv2⟩ := Sl.shape hb
      rw [hl] at hv2
      obtain rfl : ys = [] := List.eq_nil_of_length_eq_zero hl
      subst hv2
      clear ha hb hl
      go_enter Tryd.func46, Tryd.ntmps46
      go_wp2
      refine wp_loop_rounds 1 ?_
      rw [rounds_succ]
      go_wp2
      go_ret
      exact ⟨rfl, 0, rfl⟩
    · refine Sl.cases hb (fun ad cap hx hv => absurd hl (by subst hx; simp; omega)) (fun b2 o2 cap2 hv2 _ hpos2 hc2 => ?_)
      rw [hl] at hv2
      subst hv hv2
      clear ha hb
      have HL := Lib.hid hl
      have HC := Lib.hid hc
      have HC2 := Lib.hid hc2
      clear hl hc hc2
      go_enter Tryd.func46, Tryd.ntmps46
      go_wp2
      go_loopw [5] (fun i wr => ∃ (k m : Nat), k ≤ xs.length ∧ i = .int .i64 k ∧ wr = w.drewN m ∧ Hid (∀ j (h1 : j < xs.length) (h2 : j < ys.length), j < k → xs[j] = ys[j])) (fun i _ => xs.length - (intOf i).toNat)
      case atStart => exact ⟨0, 0, Nat.zero_le _, rfl, rfl, Lib.hid (fun _ _ _ h => absurd h (Nat.not_lt_zero _))⟩
      case round =>
        obtain ⟨k, m, hk, rfl, rfl, HD⟩ := hrel
        by_cases hlt2 : k < xs.length
        · have hlt3 : k < ys.length := by have := HL.out; omega
          obtain ⟨u, hu, hr⟩ := HC.out k hlt2
          obtain ⟨u2, hu2, hr2⟩ := HC2.out k hlt3
          obtain ⟨x, hx⟩ : ∃ x, x = xs[k] := ⟨_, rfl⟩
          obtain ⟨y, hy⟩ : ∃ y, y = ys[k] := ⟨_, rfl⟩
          rw [hr, ← hx] at hu
          rw [hr2, ← hy] at hu2
          have HX := Lib.hid hx
          have HY := Lib.hid hy
          clear hx hy hr hr2
          by_cases hxy : x = y
          · have HXY := Lib.hid hxy
            have hq : (x != y) = false := by simp [hxy]
            have hq2 : (x == y) = true := by simp [hxy]
            clear hxy
            go_wp2
            go_quiet (fail)
            go_wp2
            go_roundw
            case rel => exact ⟨k + 1, _, by omega, by go_num, rfl, Lib.hid (fun j h1 h2 hjk => by
              by_cases e : j = k
              · subst e; rw [← HX.out, ← HY.out, HXY.out]
              · exact HD.out j h1 h2 (by omega))⟩
            case measure => simp [intOf]; omega
          · have HXY := Lib.hid hxy
            have hq : (x != y) = true := by simp [hxy]
            have hq2 : (x == y) = false := by simp [hxy]
            clear hxy
            go_wp2
            go_quiet (fail)
            go_wp2
            go_ret
            refine ⟨ret_bool ?_, m + nq, by rw [World.drewN_drewN]⟩
            have hne : ¬ xs = ys := fun e => HXY.out (by rw [HX.out, HY.out]; subst e; rfl)
            simp [hne]
        · go_wp2
          go_ret
          refine ⟨ret_bool ?_, m, rfl⟩
          have := list_eq_take HL.out (by omega) HD.out
          simp [this]
  · obtain ⟨ad, cap, rfl⟩ := Sl.shape ha
    obtain ⟨ad2, cap2, rfl⟩ := Sl.shape hb
    clear ha hb
    have hq : ((xs.length : Int) != (ys.length : Int)) = true := by simp; omega
    have hq2 : ((xs.length : Int) == (ys.length : Int)) = false := by simp; omega
    have HL := Lib.hid hl
    clear hl
    go_enter Tryd.func46, Tryd.ntmps46
    go_wp2
    go_ret
    refine ⟨ret_bool ?_, 0, rfl⟩
    have hne : ¬ xs = ys := fun e => HL.out (by rw [e])
    simp [hne]
end Go.Proofs.YtpdkfidmmjlmnabDoor


namespace Go.Proofs.YtpdkfidmmjlmnabDoor
open Go.RowKit

theorem hloadSS (w : World) {b o : Nat} {x : Value} (h : w.cell? ⟨b, o, none⟩ = some x) : (Instr.loadAt 39 (.pointer (some ⟨b, o, none⟩))).run Tryd.prog w = .ok x w := by go_simp
theorem hloadSSS (w : World) {b o : Nat} {x : Value} (h : w.cell? ⟨b, o, none⟩ = some x) : (Instr.loadAt 23 (.pointer (some ⟨b, o, none⟩))).run Tryd.prog w = .ok x w := by go_simp
end Go.Proofs.YtpdkfidmmjlmnabDoor


namespace Go.Proofs.YtpdkfidmmjlmnabDoor
open Go.RowKit

theorem chain_zero {p : Int} {ds : List Int} {ms : List (List (List Int))} {ds2 : List Int} {ms2 fs : List (List (List Int))} (hcx : PreOk p ds ms) (hcy : PreOk p ds2 ms2) (hl : ds.length = ds2.length) (hF : FamOk p ds ds2 0 fs) {i : Nat} (hi : i < rsF ds 0) : chA p ds ms ds2 fs 0 i = chB p ds2 ms2 fs 0 i := by
  have h0 := hcx.len0
  have e : csF ds2 (-1) 0 = 0 := by simp only [csF]; rw [dimZ_neg (by omega)]; rfl
  have a := apT_length' (chA_ok hcx hcy hF (by omega) hi)
  have b := apT_length' (chB_ok hcx hcy hl hF (by omega) hi).1
  rw [e] at a b
  have a' : chA p ds ms ds2 fs 0 i = [] := List.eq_nil_of_length_eq_zero (by unfold chA; rw [e]; exact a)
  have b' : chB p ds2 ms2 fs 0 i = [] := List.eq_nil_of_length_eq_zero (by unfold chB; rw [e]; exact b)
  rw [a', b']
theorem hsubNc {a : Int} (h : 1 ≤ a ∧ a ≤ 100) : IntKind.i64.wrap (a - 1) = a - 1 := IntWalk.i64_in _ (by omega)

set_option maxHeartbeats 6400000 in
set_option maxRecDepth 100000 in
theorem l04Chain_any (p : Int) (dv mv dv2 mv2 fv : Value) (ds : List Int) (ms : List (List (List Int))) (ds2 : List Int) (ms2 fs : List (List (List Int))) (w : World) (h : Cx 0 w dv mv ds ms) (h2 : Cx 0 w dv2 mv2 ds2 ms2) (hf : L3 0 w fv fs) (hcx : IsCx p ds ms) (hcy : IsCx p ds2 ms2) (hl : ds.length = ds2.length) (hF : FamOk p ds ds2 0 fs) :
    Calls Tryd.prog 31 #[.agg #[.int .i64 p, dv, mv], .agg #[.int .i64 p, dv2, mv2], fv] w (BB (ChainOk p ds ms ds2 ms2 fs) w) := by
  obtain ⟨ad, cap, rfl⟩ := Sl.shape h.dims
  obtain ⟨am, capm, rfl⟩ := Sl.shape h.maps
  obtain ⟨ad2, cap2, rfl⟩ := Sl.shape h2.dims
  obtain ⟨am2, capm2, rfl⟩ := Sl.shape h2.maps
  obtain ⟨af, cf, rfl⟩ := Sl.shape hf
  obtain ⟨k1, k2⟩ := bx_two (p := p) (p2 := p) 28 h h2
  have HX0 := Lib.hid k1
  have HY0 := Lib.hid k2
  have HCX := Lib.hid hcx
  have HCY := Lib.hid hcy
  have HLL := Lib.hid hl
  have HFO := Lib.hid hF
  have HF := Lib.hid hf
  have hl6 := hcx.1.len1
  have hl1 := hcx.1.len0
  have HFL : Hid (fs.length = ds.length) := Lib.hid hF.1
  obtain ⟨w1, hw1⟩ : ∃ w1, w1 = ((w.alloc (.cells #[.int .i64 p, .slice ad ds.length cap, .slice am ms.length capm] 28)).alloc (.cells #[.int .i64 p, .slice ad2 ds2.length cap2, .slice am2 ms2.length capm2] 28)) := ⟨_, rfl⟩
  rw [← hw1] at HX0 HY0
  have HB01 := Lib.hid HX0.out.below
  have HNX : Hid (∀ W, Below w1.heap.size w1 W → Bx w W w.heap.size p (.slice ad ds.length cap) (.slice am ms.length capm) ds ms ∧ Bx w W (w.heap.size + 1) p (.slice ad2 ds2.length cap2) (.slice am2 ms2.length capm2) ds2 ms2 ∧ Below w.heap.size w W) := Lib.hid (fun W h => ⟨HX0.out.next h, HY0.out.next h, HB01.out.trans (h.mono HB01.out.size)⟩)
  refine Sl.cases h.dims (fun _ _ hx _ => absurd hl1 (by simp [hx])) (fun bd od capd hvd _ _ hcl => ?_)
  injection hvd with e1 e2 e3
  clear e2
  subst e1 e3
  have HDC : Hid (∀ W, Below w.heap.size w W → ∀ n, n < ds.length → W.cell? ⟨bd, od + n, none⟩ = some (.int .i64 (rsF ds n : Int))) := Lib.hid (fun W hb n hn => by
    obtain ⟨u, hu, hr⟩ := hcl n hn
    have := later hb (Nat.le_refl _) hu
    rw [this, hr, ← getD_of_lt 0 hn]
    have := HCX.out.1.dim n
    simp only [rsF]
    congr 2
    omega)
  clear h h2 hf k1 k2 hcx hcy hl hF hcl
  go_enter Tryd.func31, Tryd.ntmps31
  go_upto_region 1 with fail
  rw [← hw1]
  clear hw1
  go_wp2
  go_loopw [7] (fun k wr => ∃ (n : Nat), 1 ≤ n ∧ n ≤ ds.length ∧ k = .int .i64 n ∧ Hid (Below w1.heap.size w1 wr) ∧ Hid (∀ n2, n2 < n → ∀ i, i < rsF ds n2 → chA p ds ms ds2 fs n2 i = chB p ds2 ms2 fs n2 i)) (fun k _ => ds.length - (intOf k).toNat)
  case atStart => exact ⟨1, Nat.le_refl _, hl1, rfl, Lib.hid (Below.refl _ _), Lib.hid (fun n2 h2 i hi => by
    obtain rfl : n2 = 0 := by omega
    exact chain_zero HCX.out.1 HCY.out.1 HLL.out HFO.out hi)⟩
  case round =>
    obtain ⟨n, hn1, hn, rfl, HB, HC⟩ := hrel
    obtain ⟨wx, hwx⟩ : ∃ wx : World, wx = wr := ⟨_, rfl⟩
    subst hwx
    have HN := Lib.hid (HNX.out wx HB.out)
    have c1 := HN.out.1.c1
    by_cases hlt : n < ds.length
    · obtain ⟨r, hr⟩ : ∃ r, r = rsF ds n := ⟨_, rfl⟩
      have HR := Lib.hid hr
      have hr8 : r ≤ 8 := by have := HCX.out.1.dim n; rw [hr]; simp only [rsF]; omega
      clear hr
      go_wp2
      clear c1
      go_loopw [8] (fun k wr => ∃ (i : Nat), i ≤ r ∧ k = .int .i64 i ∧ Hid (Below w1.heap.size w1 wr) ∧ Hid (∀ i2, i2 < i → chA p ds ms ds2 fs n i2 = chB p ds2 ms2 fs n i2)) (fun k _ => r - (intOf k).toNat)
      case atStart => exact ⟨0, Nat.zero_le _, rfl, HB, Lib.hid (fun _ h => absurd h (Nat.not_lt_zero _))⟩
      case round =>
        obtain ⟨i, hi, rfl, HB2, HI⟩ := hrel
        obtain ⟨wy, hwy⟩ : ∃ wy : World, wy = wr := ⟨_, rfl⟩
        subst hwy
        have HN2 := Lib.hid (HNX.out wy HB2.out)
        have c1 := HN2.out.1.c1
        have hu : wy.cell? ⟨bd, od + n, none⟩ = some (.int .i64 (r : Int)) := by rw [HR.out]; exact HDC.out wy HN2.out.2.2 n hlt
        by_cases hlt2 : i < r
        · have HU := Lib.hid (l04Unit_any r i wy (by omega) hlt2)
          go_wp2_with fail
          refine HU.out.mono ?_
          rintro e w3 ⟨u9, rfl, hg9, hb9⟩
          have HB3 := Lib.hid (HB2.out.trans (hb9.mono HB2.out.size))
          have HN3 := Lib.hid (HNX.out w3 HB3.out)
          have HL9 : Hid (L1 0 w3 u9 (unitL r i)) := Lib.hid hg9.l1
          obtain ⟨a9, c9, hv9⟩ := Sl.shape hg9.l1
          rw [unitRow_length] at hv9
          subst hv9
          clear HU hg9 hb9 c1 hu
          have hlf : n < fs.length := by rw [HFL.out]; exact hlt
          refine Sl.cases HF.out (fun _ _ hx _ => absurd hlf (by simp [hx])) (fun bf of cf2 hvf _ _ hcf => ?_)
          injection hvf with e1 e2 e3
          clear e2
          subst e1 e3
          obtain ⟨ut, hut, hrt⟩ := hcf n hlf
          rw [← getD_of_lt [] hlf] at hrt
          obtain ⟨_, _, hit, hro⟩ := fam_row HFO.out hlt (by rw [← HR.out]; exact hlt2) (HCX.out.1.dim n).1 (HCY.out.1.dsOk.dimZ ((n : Int) + 0)).1
          obtain ⟨t, ht⟩ : ∃ t, t = fs.getD n [] := ⟨_, rfl⟩
          rw [← ht] at hrt hit hro
          have HT := Lib.hid ht
          obtain ⟨at', ct, hvt⟩ := Sl.shape hrt
          subst hvt
          refine Sl.cases hrt (fun _ _ hx _ => absurd hit (by simp [hx])) (fun bt ot ct2 hvt _ _ hct => ?_)
          injection hvt with e1 e2 e3
          clear e2
          subst e1 e3
          obtain ⟨uv, huv, hrv⟩ := hct i hit
          rw [← getD_of_lt [] hit] at hrv
          obtain ⟨row, hrow⟩ : ∃ row, row = t.getD i [] := ⟨_, rfl⟩
          rw [← hrow] at hrv hro
          have HROW := Lib.hid hrow
          obtain ⟨av, cv, hvv⟩ := Sl.shape hrv
          subst hvv
          have hrowl : row.length ≤ 1048576 := by have h1 := hro.1; have h2 := HCY.out.1.dsOk.dimZ ((n : Int) + 0); simp only [csF] at h1; omega
          have HLV := Lib.hid hrv
          have HCE : Hid (∀ W, Below w3.heap.size w3 W → W.cell? ⟨bf, of + n, none⟩ = some (.slice (some ⟨bt, ot, none⟩) t.length ct) ∧ W.cell? ⟨bt, ot + i, none⟩ = some (.slice av row.length cv)) := Lib.hid (fun W hb => by
            have h0 := HN3.out.2.2.trans (hb.mono HN3.out.2.2.size)
            exact ⟨later h0 (Nat.le_refl _) hut, later h0 (Nat.le_refl _) huv⟩)
          have HXY : Hid (∀ W, Below w3.heap.size w3 W → Bx w W w.heap.size p (.slice (some ⟨bd, od, none⟩) ds.length cap) (.slice am ms.length capm) ds ms ∧ Bx w W (w.heap.size + 1) p (.slice ad2 ds2.length cap2) (.slice am2 ms2.length capm2) ds2 ms2 ∧ Below w.heap.size w W ∧ L1 0 W (.slice a9 r c9) (unitL r i)) := Lib.hid (fun W hb => by
            have h0 := HNX.out W (HB3.out.trans (hb.mono HB3.out.size))
            exact ⟨h0.1, h0.2.1, h0.2.2, HL9.out.below hb⟩)
          have hir : i < rsF ds n := by rw [← HR.out]; exact hlt2
          have hfr := fam_row (dfL_fam HCX.out.1) hlt hir (HCX.out.1.dim n).1 (HCX.out.1.dsOk.dimZ ((n : Int) + (-1))).1
          have okd : ApOk p (csF ds (-1) n) (unitL r i) (cycT ds ms n) := by
            have := unit_apOk (i := i) HCX.out.1.prime (cn := csF ds (-1) n) rfl hfr.2.1
            rw [dfL_get hlt, ← HR.out] at this
            exact this
          have edr : apT p (csF ds (-1) n) (unitL r i) (cycT ds ms n) = ((dfL ds ms).getD n []).getD i [] := by
            have := unit_apT (i := i) (unit_apOk (i := i) HCX.out.1.prime (cn := csF ds (-1) n) rfl hfr.2.1) hir
            rw [← HR.out] at this
            rw [dfL_get hlt] at this ⊢
            exact this
          have hzx := HCX.out.1.dsOk.dimZ ((n : Int) + (-1))
          have hzy := HCY.out.1.dsOk.dimZ ((n : Int) + (-1))
          have oA := chA_ok HCX.out.1 HCY.out.1 HFO.out hlt hir
          have oB := (chB_ok HCX.out.1 HCY.out.1 HLL.out HFO.out hlt hir).1
          have epr : prevT fs n = fs.getD (n - 1) [] := if_neg (by omega)
          rw [epr] at oA
          have ecn : ((n - 1 : Nat) : Int) = (n : Int) - 1 := by omega
          have hDR : (((dfL ds ms).getD n []).getD i []).length ≤ 1048576 := by have h1 := hfr.2.2.2.1; simp only [csF] at h1; omega
          have HD1 : Hid (∀ W, Below w3.heap.size w3 W → Calls Tryd.prog 33 #[.agg #[.int .i64 p, .slice (some ⟨bd, od, none⟩) ds.length cap, .slice am ms.length capm], .int .i64 (n : Int), .slice a9 r c9] W (GbR (((dfL ds ms).getD n []).getD i []) W)) := Lib.hid (fun W hb => by
            have h0 := HXY.out W hb
            have := l04D_any p n (csF ds (-1) n) _ _ _ ds ms (unitL r i) W h0.1.cx HCX.out hlt (by simp only [csF]; omega) h0.2.2.2 okd (by rw [unitL_length]; omega)
            rwa [edr] at this)
          have HIM : Hid (∀ W u, Below w3.heap.size w3 W → L1 0 W u (((dfL ds ms).getD n []).getD i []) → Calls Tryd.prog 47 #[.agg #[.int .i64 p, .slice (some ⟨bd, od, none⟩) ds.length cap, .slice am ms.length capm], .agg #[.int .i64 p, .slice ad2 ds2.length cap2, .slice am2 ms2.length capm2], .slice (some ⟨bf, of, none⟩) fs.length cf, .int .i64 ((n : Int) - 1), .int .i64 0, u] W (ApG p (csF ds2 (-1) n) (((dfL ds ms).getD n []).getD i []) (fs.getD (n - 1) []) W)) := Lib.hid (fun W u hb hu => by
            have h0 := HXY.out W hb
            have := l04Image_any p p 0 (n - 1) (csF ds2 (-1) n) _ _ _ _ _ u ds ms ds2 ms2 fs _ W h0.1.cx h0.2.1.cx (HF.out.below h0.2.2.1) hu HCY.out (by omega) (by omega) (by omega) (by rw [ecn, show (n : Int) - 1 + 0 = (n : Int) + (-1) by omega]; simp only [csF]; omega) oA hDR
            rwa [ecn] at this)
          have HD2 : Hid (∀ W, Below w3.heap.size w3 W → Calls Tryd.prog 33 #[.agg #[.int .i64 p, .slice ad2 ds2.length cap2, .slice am2 ms2.length capm2], .int .i64 (n : Int), .slice av row.length cv] W (GbR (chB p ds2 ms2 fs n i) W)) := Lib.hid (fun W hb => by
            have h0 := HXY.out W hb
            have hn2 : n < ds2.length := by rw [← HLL.out]; exact hlt
            have o2 := oB
            rw [dfL_get hn2, ← HT.out, ← HROW.out] at o2
            have := l04D_any p n (csF ds2 (-1) n) _ _ _ ds2 ms2 row W h0.2.1.cx HCY.out hn2 (by simp only [csF]; omega) (HLV.out.below h0.2.2.1) o2 hrowl
            unfold chB
            rw [dfL_get hn2, ← HT.out, ← HROW.out]
            exact this)
          have ecA : chA p ds ms ds2 fs n i = apT p (csF ds2 (-1) n) (((dfL ds ms).getD n []).getD i []) (fs.getD (n - 1) []) := by unfold chA; rw [epr]
          have HAE := Lib.hid ecA
          have hLA : (chA p ds ms ds2 fs n i).length = csF ds2 (-1) n := by rw [ecA]; exact apT_length' oA
          have hLB : (chB p ds2 ms2 fs n i).length = csF ds2 (-1) n := apT_length' oB
          have HLAB : Hid ((chA p ds ms ds2 fs n i).length ≤ 1048576 ∧ (chB p ds2 ms2 fs n i).length ≤ 1048576) := Lib.hid (by rw [hLA, hLB]; simp only [csF]; omega)
          obtain ⟨drl, hdrl⟩ : ∃ k, k = (((dfL ds ms).getD n []).getD i []).length := ⟨_, rfl⟩
          have HDRL := Lib.hid hdrl
          clear hut hrt hcf hct huv hrv ht hrow hro hfr okd edr hzx hzy oA oB epr ecn hDR ecA hLA hLB hdrl hrowl
          go_upto_region 8 with fail
          refine wp_region_held (S := fun W => Below w3.heap.size w3 W) (by kernel_rfl) ?_
          have S0 : Below w3.heap.size w3 w3.drew := (Below.refl _ _).drew
          change wpAnyH _ _ _ _ _ _ _ _ w3.drew
          obtain ⟨wd, hwd⟩ : ∃ wd, wd = w3.drew := ⟨_, rfl⟩
          rw [← hwd] at S0 ⊢
          clear hwd
          refine held_take (i := 0) (v := .agg #[.int .i64 p, .slice (some ⟨bd, od, none⟩) ds.length cap, .slice am ms.length capm]) (some 33) rfl rfl (by kernel_rfl) (by kernel_rfl) (by kernel_rfl) (fun _ _ _ h => h) (yieldsIf_cell (by kernel_rfl) rfl (by kernel_rfl) (fun W h => hload3x (HXY.out W h).1)) S0 ?_
          refine held_take (i := 1) (v := .agg #[.int .i64 p, .slice ad2 ds2.length cap2, .slice am2 ms2.length capm2]) (some 34) rfl rfl (by kernel_rfl) (by kernel_rfl) (by kernel_rfl) (fun _ _ _ h => h) (yieldsIf_cell (by kernel_rfl) rfl (by kernel_rfl) (fun W h => hload3x (HXY.out W h).2.1)) S0 ?_
          refine held_take (i := 2) (v := .slice (some ⟨bf, of, none⟩) fs.length cf) (some 35) rfl rfl (by kernel_rfl) (by kernel_rfl) (by kernel_rfl) (fun _ _ _ h => h) (yieldsIf_move (by kernel_rfl) rfl (by kernel_rfl)) S0 ?_
          refine held_take (i := 3) (v := .int .i64 (n : Int)) (some 36) rfl rfl (by kernel_rfl) (by kernel_rfl) (by kernel_rfl) (fun _ _ _ h => h) (yieldsIf_move (by kernel_rfl) rfl (by kernel_rfl)) S0 ?_
          refine held_take (i := 4) (v := .int .i64 ((n : Int) - 1)) (some 37) rfl rfl (by kernel_rfl) (by kernel_rfl) (by kernel_rfl) (fun _ _ _ h => h) (yieldsIf_bin (by kernel_rfl) rfl (by kernel_rfl) (by kernel_rfl) (fun _ => rfl) (hsubA (hsubNc (by omega)))) S0 ?_
          refine held_take (i := 5) (v := .agg #[.int .i64 p, .slice (some ⟨bd, od, none⟩) ds.length cap, .slice am ms.length capm]) (some 38) rfl rfl (by kernel_rfl) (by kernel_rfl) (by kernel_rfl) (fun _ _ _ h => h) (yieldsIf_cell (by kernel_rfl) rfl (by kernel_rfl) (fun W h => hload3x (HXY.out W h).1)) S0 ?_
          refine held_take (i := 6) (v := .int .i64 (n : Int)) (some 39) rfl rfl (by kernel_rfl) (by kernel_rfl) (by kernel_rfl) (fun _ _ _ h => h) (yieldsIf_move (by kernel_rfl) rfl (by kernel_rfl)) S0 ?_
          refine held_take (i := 7) (v := .slice a9 r c9) (some 40) rfl rfl (by kernel_rfl) (by kernel_rfl) (by kernel_rfl) (fun _ _ _ h => h) (yieldsIf_move (by kernel_rfl) rfl (by kernel_rfl)) S0 ?_
          refine held_take (i := 10) (v := .agg #[.int .i64 p, .slice ad2 ds2.length cap2, .slice am2 ms2.length capm2]) (some 43) rfl rfl (by kernel_rfl) (by kernel_rfl) (by kernel_rfl) (fun _ _ _ h => h) (yieldsIf_cell (by kernel_rfl) rfl (by kernel_rfl) (fun W h => hload3x (HXY.out W h).2.1)) S0 ?_
          refine held_take (i := 11) (v := .int .i64 (n : Int)) (some 44) rfl rfl (by kernel_rfl) (by kernel_rfl) (by kernel_rfl) (fun _ _ _ h => h) (yieldsIf_move (by kernel_rfl) rfl (by kernel_rfl)) S0 ?_
          refine held_take (i := 12) (v := .slice (some ⟨bf, of, none⟩) fs.length cf) (some 45) rfl rfl (by kernel_rfl) (by kernel_rfl) (by kernel_rfl) (fun _ _ _ h => h) (yieldsIf_move (by kernel_rfl) rfl (by kernel_rfl)) S0 ?_
          refine held_take (i := 13) (v := .int .i64 (n : Int)) (some 46) rfl rfl (by kernel_rfl) (by kernel_rfl) (by kernel_rfl) (fun _ _ _ h => h) (yieldsIf_move (by kernel_rfl) rfl (by kernel_rfl)) S0 ?_
          refine held_take (i := 14) (v := .pointer (some ⟨bf, of + n, none⟩)) (some 47) rfl rfl (by kernel_rfl) (by kernel_rfl) (by kernel_rfl) (fun _ _ _ h => h) (yieldsIf_index (by kernel_rfl) rfl (by kernel_rfl) (by kernel_rfl) (hidxU bf of cf hlf)) S0 ?_
          refine held_take (i := 15) (v := .slice (some ⟨bt, ot, none⟩) t.length ct) (some 48) rfl rfl (by kernel_rfl) (by kernel_rfl) (by kernel_rfl) (fun _ _ _ h => h) (yieldsIf_cell (by kernel_rfl) rfl (by kernel_rfl) (fun W h => hloadSS W (HCE.out W h).1)) S0 ?_
          refine held_take (i := 16) (v := .int .i64 (i : Int)) (some 49) rfl rfl (by kernel_rfl) (by kernel_rfl) (by kernel_rfl) (fun _ _ _ h => h) (yieldsIf_move (by kernel_rfl) rfl (by kernel_rfl)) S0 ?_
          refine held_take (i := 17) (v := .pointer (some ⟨bt, ot + i, none⟩)) (some 50) rfl rfl (by kernel_rfl) (by kernel_rfl) (by kernel_rfl) (fun _ _ _ h => h) (yieldsIf_index (by kernel_rfl) rfl (by kernel_rfl) (by kernel_rfl) (hidxS bt ot ct hit)) S0 ?_
          refine held_take (i := 18) (v := .slice av row.length cv) (some 51) rfl rfl (by kernel_rfl) (by kernel_rfl) (by kernel_rfl) (fun _ _ _ h => h) (yieldsIf_cell (by kernel_rfl) rfl (by kernel_rfl) (fun W h => hloadS W (HCE.out W h).2)) S0 ?_
          refine held_enter (i := 8) (some 41) (f := 33) (args := #[.agg #[.int .i64 p, .slice (some ⟨bd, od, none⟩) ds.length cap, .slice am ms.length capm], .int .i64 (n : Int), .slice a9 r c9]) (by kernel_rfl) rfl rfl rfl (by kernel_rfl) (HD1.out _ S0) ?_ (fun c w' h => by obtain ⟨_, h, _⟩ := h; cases h) (fun w' h => by obtain ⟨_, h, _⟩ := h; cases h)
          rintro ee V1 ⟨u1, he, hg1, hb1⟩
          injection he with he
          subst he
          obtain ⟨a1, c1, hv1⟩ := Sl.shape hg1.l1
          rw [← HDRL.out] at hv1
          subst hv1
          have S1 : Below w3.heap.size w3 V1 := S0.trans (hb1.mono S0.size)
          refine ⟨S1, ?_⟩
          refine held_enter (i := 9) (some 42) (f := 47) (args := #[.agg #[.int .i64 p, .slice (some ⟨bd, od, none⟩) ds.length cap, .slice am ms.length capm], .agg #[.int .i64 p, .slice ad2 ds2.length cap2, .slice am2 ms2.length capm2], .slice (some ⟨bf, of, none⟩) fs.length cf, .int .i64 ((n : Int) - 1), .int .i64 0, .slice a1 drl c1]) (by kernel_rfl) rfl rfl rfl (by kernel_rfl) (HIM.out _ _ S1 hg1.l1) ?_ (fun c w' h => by obtain ⟨_, h, _⟩ := h; cases h) (fun w' h => by obtain ⟨_, h, _⟩ := h; cases h)
          rintro ee V2 ⟨u2, he, hg2, hb2⟩
          injection he with he
          subst he
          rw [← HAE.out] at hg2
          obtain ⟨a2, c2, hv2⟩ := Sl.shape hg2.l1
          have S2 : Below w3.heap.size w3 V2 := S1.trans (hb2.mono S1.size)
          obtain ⟨la, hla⟩ : ∃ k, k = (chA p ds ms ds2 fs n i).length := ⟨_, rfl⟩
          rw [← hla] at hv2
          subst hv2
          refine ⟨S2, ?_⟩
          refine held_enter (i := 19) (some 52) (f := 33) (args := #[.agg #[.int .i64 p, .slice ad2 ds2.length cap2, .slice am2 ms2.length capm2], .int .i64 (n : Int), .slice av row.length cv]) (by kernel_rfl) rfl rfl rfl (by kernel_rfl) (HD2.out _ S2) ?_ (fun c w' h => by obtain ⟨_, h, _⟩ := h; cases h) (fun w' h => by obtain ⟨_, h, _⟩ := h; cases h)
          rintro ee V3 ⟨u3, he, hg3, hb3⟩
          injection he with he
          subst he
          obtain ⟨a3, c3, hv3⟩ := Sl.shape hg3.l1
          have S3 : Below w3.heap.size w3 V3 := S2.trans (hb3.mono S2.size)
          obtain ⟨lb, hlb⟩ : ∃ k, k = (chB p ds2 ms2 fs n i).length := ⟨_, rfl⟩
          rw [← hlb] at hv3
          subst hv3
          refine ⟨S3, ?_⟩
          refine held_enter (i := 20) (some 53) (f := 46) (args := #[.slice a2 la c2, .slice a3 lb c3]) (by kernel_rfl) rfl rfl rfl (by kernel_rfl) (l04Same_any _ _ (chA p ds ms ds2 fs n i) (chB p ds2 ms2 fs n i) _ (hg2.l1.below hb3) hg3.l1 HLAB.out.1 HLAB.out.2) ?_ (fun c w' h => by cases h.1) (fun w' h => by cases h.1)
          rintro ee V4 ⟨he, q4, hq4⟩
          injection he with he
          subst he
          have hb4 : Below V3.heap.size V3 V4 := by rw [hq4]; exact drewN_below _ _
          have S4 : Below w3.heap.size w3 V4 := S3.trans (hb4.mono S3.size)
          refine ⟨S4, ?_⟩
          refine held_take (i := 21) (v := .bool (!decide (chA p ds ms ds2 fs n i = chB p ds2 ms2 fs n i))) (some 54) rfl rfl (by kernel_rfl) (by kernel_rfl) (by kernel_rfl) (fun _ _ _ h => h) (yieldsIf_run (by kernel_rfl) (fun W _ => by kernel_rfl)) S4 ?_
          refine wpAnyH_done (by kernel_rfl) ?_ _
          simp only [Act.put, List.setIfInBounds_toArray, List.set_cons_zero, List.set_cons_succ]
          have HB4 := Lib.hid (HB3.out.trans (S4.mono HB3.out.size))
          obtain ⟨wz, hwz⟩ : ∃ wz : World, wz = V4 := ⟨_, rfl⟩
          rw [← hwz] at HB4 ⊢
          have HN4 := Lib.hid (HNX.out wz HB4.out)
          clear S0 S1 S2 S3 S4 hb1 hb2 hb3 hb4 hg1 hg2 hg3 hq4 hwz hla hlb HCE HXY HD1 HIM HD2
          by_cases hch : chA p ds ms ds2 fs n i = chB p ds2 ms2 fs n i
          · rw [decide_eq_true hch]
            have HCH := Lib.hid hch
            clear hch
            simp only [Bool.not_true]
            go_wp2
            go_roundw
            case rel => exact ⟨i + 1, by omega, by go_num, HB4, Lib.hid (fun i2 h2 => by
              by_cases e : i2 = i
              · subst e; exact HCH.out
              · exact HI.out i2 (by omega))⟩
            case measure => simp [intOf]; omega
          · rw [decide_eq_false hch]
            have HCH := Lib.hid hch
            clear hch
            simp only [Bool.not_false]
            go_wp2
            go_ret
            exact bb_false HN4.out.2.2 (fun h => HCH.out (h n hlt i hir))
        · go_wp2
          go_roundw
          case rel => exact ⟨n + 1, by omega, by omega, by go_num, HB2, Lib.hid (fun n2 h2 i2 hi2 => by
            by_cases e : n2 = n
            · subst e
              exact HI.out i2 (by rw [← HR.out] at hi2; omega)
            · exact HC.out n2 (by omega) i2 hi2)⟩
          case measure => simp [intOf]; omega
    · go_wp2
      go_ret
      exact bb_true HN.out.2.2 (fun n2 h2 => HC.out n2 (by omega))
end Go.Proofs.YtpdkfidmmjlmnabDoor


namespace Go.Proofs.YtpdkfidmmjlmnabDoor
open Go.RowKit

theorem hidxQ (b o : Nat) {k n : Nat} (cap : Nat) (hk : k < n) (w : World) : (Instr.indexAt 47 (.slice (some ⟨b, o, none⟩) n cap) (.int .i64 k)).run Tryd.prog w = .ok (.pointer (some ⟨b, o + k, none⟩)) w := by
  have h2 : (0 : Int) ≤ (k : Int) := by omega
  have h3 : (k : Int) < (n : Int) := by omega
  go_simp
def AllCh (p : Int) (ds : List Int) (ms : List (List (List Int))) (ds2 : List Int) (ms2 : List (List (List Int))) (k : Nat) (F : Nat → List (List (List Int))) : Prop := ∀ j, j < k → ChainOk p ds ms ds2 ms2 (F j)
open Classical in
/-- The code of families that have to be chain maps, out of that of families. -/
noncomputable def mapCode (cd : Int) (all : Prop) : Int := if cd = 0 then (if all then 0 else 5) else cd
theorem mapCode_ok {cd : Int} {all : Prop} (h : cd = 0) (ha : all) : mapCode cd all = 0 := by unfold mapCode; rw [if_pos h, if_pos ha]
theorem mapCode_no {cd : Int} {all : Prop} (h : cd = 0) (ha : ¬ all) : mapCode cd all = 5 := by unfold mapCode; rw [if_pos h, if_neg ha]
theorem mapCode_ne {cd : Int} {all : Prop} (h : cd ≠ 0) : mapCode cd all = cd := by unfold mapCode; rw [if_neg h]
theorem mapCode_zero {cd : Int} {all : Prop} (h : mapCode cd all = 0) : cd = 0 ∧ all := by
  by_cases h0 : cd = 0
  · by_cases ha : all
    · exact ⟨h0, ha⟩
    · rw [mapCode_no h0 ha] at h; exact absurd h (by decide)
  · rw [mapCode_ne h0] at h; exact absurd h h0

set_option maxHeartbeats 3200000 in
set_option maxRecDepth 100000 in
theorem checkChainMaps_any {pv : Value} (p p2 cd : Int) (k b : Nat) (F : Nat → List (List (List Int))) (dv mv dv2 mv2 : Value) (ds : List Int) (ms : List (List (List Int))) (ds2 : List Int) (ms2 : List (List (List Int))) (w : World) (h : Cx 0 w dv mv ds ms) (h2 : Cx 0 w dv2 mv2 ds2 ms2) (hFs : FamsAt w b k F) (hk : k ≤ 100)
    (hcd : ∀ W, Below w.heap.size w W → Calls Tryd.prog 37 #[.agg #[.int .i64 p, dv, mv], .agg #[.int .i64 p2, dv2, mv2], .int .i64 0, .slice (some ⟨b, 0, none⟩) k k] W (BR (.int .i64 cd) W)) (hz : cd = 0 → EndOk p p2 ds ms ds2 ms2 ∧ ∀ j, j < k → FamOk p ds ds2 0 (F j)) (hgl : w.cell? ⟨0, 0, none⟩ = some (.iface 99 pv)) :
    Calls Tryd.prog 21 #[.agg #[.int .i64 p, dv, mv], .agg #[.int .i64 p2, dv2, mv2], .slice (some ⟨b, 0, none⟩) k k] w (BR (.int .i64 (mapCode cd (AllCh p ds ms ds2 ms2 k F))) w) := by
  obtain ⟨ad, cap, rfl⟩ := Sl.shape h.dims
  obtain ⟨am, capm, rfl⟩ := Sl.shape h.maps
  obtain ⟨ad2, cap2, rfl⟩ := Sl.shape h2.dims
  obtain ⟨am2, capm2, rfl⟩ := Sl.shape h2.maps
  obtain ⟨k1, k2⟩ := bx_two (p := p) (p2 := p2) 28 h h2
  have HX0 := Lib.hid k1
  have HY0 := Lib.hid k2
  obtain ⟨w1, hw1⟩ : ∃ w1, w1 = ((w.alloc (.cells #[.int .i64 p, .slice ad ds.length cap, .slice am ms.length capm] 28)).alloc (.cells #[.int .i64 p2, .slice ad2 ds2.length cap2, .slice am2 ms2.length capm2] 28)) := ⟨_, rfl⟩
  rw [← hw1] at HX0 HY0
  have hb01 : Below w.heap.size w w1 := HX0.out.below
  have HB01 := Lib.hid hb01
  have HCK := Lib.hid (hcd w1 hb01)
  have HFS : Hid (FamsAt w1 b k F) := Lib.hid (fun j hj => by
    obtain ⟨v, hv, hl⟩ := hFs j hj
    exact ⟨v, later hb01 (Nat.le_refl _) hv, hl.below hb01⟩)
  have HG := Lib.hid (later hb01 (Nat.le_refl _) hgl)
  have HZ := Lib.hid hz
  have c0 := HX0.out.c0
  have c1 := HX0.out.c1
  have c2 := HX0.out.c2
  have d0 := HY0.out.c0
  have d1 := HY0.out.c1
  have d2 := HY0.out.c2
  clear h h2 hFs hcd hz hgl k1 k2 hb01
  go_enter Tryd.func21, Tryd.ntmps21
  go_upto_region 1 with fail
  rw [← hw1]
  clear hw1
  go_wp2_with fail
  refine HCK.out.mono ?_
  rintro e w3 ⟨rfl, hb3⟩
  have HX3 := Lib.hid (HX0.out.next hb3)
  have HY3 := Lib.hid (HY0.out.next hb3)
  have HB3 := Lib.hid hb3
  clear hb3 c0 c1 c2 d0 d1 d2 HCK
  by_cases h0 : cd = 0
  · have HC0 := Lib.hid h0
    subst h0
    have hfz := HZ.out rfl
    have hpp := hfz.1.prime
    subst hpp
    have HST := Lib.hid (checkState_any p k b F pv _ _ _ _ ds ms ds2 ms2 w3 HX3.out.cx HY3.out.cx (fun j hj => by
      obtain ⟨v, hv, hl⟩ := HFS.out j hj
      exact ⟨v, later HB3.out (Nat.le_refl _) hv, hl.below HB3.out⟩) hk hfz.1.x hfz.1.y hfz.1.len hfz.2 (later HB3.out (Nat.le_refl _) HG.out))
    clear hfz
    have c0 := HX3.out.c0
    have c1 := HX3.out.c1
    have c2 := HX3.out.c2
    have d0 := HY3.out.c0
    have d1 := HY3.out.c1
    have d2 := HY3.out.c2
    go_wp2_with fail
    refine HST.out.mono ?_
    rintro e w5 ⟨c, rfl, hb5, hc⟩
    have HB5 := Lib.hid (HX3.out.below.trans (hb5.mono HX3.out.below.size))
    have HCC : Hid (mapCode 0 (AllCh p ds ms ds2 ms2 k F) = c) := Lib.hid (by
      rcases hc with ⟨rfl, ha⟩ | ⟨rfl, ha⟩
      · exact mapCode_ok rfl ha
      · exact mapCode_no rfl ha)
    clear HST c0 c1 c2 d0 d1 d2 hb5 hc
    go_wp2
    go_ret
    exact ⟨by rw [HCC.out]; rfl, HB5.out⟩
  · have hne2 : (cd != 0) = true := by simp [h0]
    have HMN := Lib.hid (mapCode_ne (all := AllCh p ds ms ds2 ms2 k F) h0)
    clear h0
    go_wp2
    go_ret
    exact ⟨by rw [HMN.out]; rfl, HX3.out.below⟩

set_option maxHeartbeats 3200000 in
set_option maxRecDepth 100000 in
theorem l04Maps_any (p p2 cd : Int) (k b : Nat) (F : Nat → List (List (List Int))) (dv mv dv2 mv2 : Value) (ds : List Int) (ms : List (List (List Int))) (ds2 : List Int) (ms2 : List (List (List Int))) (w : World) (h : Cx 0 w dv mv ds ms) (h2 : Cx 0 w dv2 mv2 ds2 ms2) (hFs : FamsAt w b k F) (hk : k ≤ 100)
    (hcd : ∀ W, Below w.heap.size w W → Calls Tryd.prog 30 #[.agg #[.int .i64 p, dv, mv], .agg #[.int .i64 p2, dv2, mv2], .slice (some ⟨b, 0, none⟩) k k] W (BR (.int .i64 cd) W)) (hz : cd = 0 → EndOk p p2 ds ms ds2 ms2 ∧ ∀ j, j < k → FamOk p ds ds2 0 (F j)) :
    Calls Tryd.prog 17 #[.agg #[.int .i64 p, dv, mv], .agg #[.int .i64 p2, dv2, mv2], .slice (some ⟨b, 0, none⟩) k k] w (BR (.int .i64 (mapCode cd (AllCh p ds ms ds2 ms2 k F))) w) := by
  obtain ⟨ad, cap, rfl⟩ := Sl.shape h.dims
  obtain ⟨am, capm, rfl⟩ := Sl.shape h.maps
  obtain ⟨ad2, cap2, rfl⟩ := Sl.shape h2.dims
  obtain ⟨am2, capm2, rfl⟩ := Sl.shape h2.maps
  obtain ⟨k1, k2⟩ := bx_two (p := p) (p2 := p2) 28 h h2
  have HX0 := Lib.hid k1
  have HY0 := Lib.hid k2
  obtain ⟨w1, hw1⟩ : ∃ w1, w1 = ((w.alloc (.cells #[.int .i64 p, .slice ad ds.length cap, .slice am ms.length capm] 28)).alloc (.cells #[.int .i64 p2, .slice ad2 ds2.length cap2, .slice am2 ms2.length capm2] 28)) := ⟨_, rfl⟩
  rw [← hw1] at HX0 HY0
  have hb01 : Below w.heap.size w w1 := HX0.out.below
  have HB01 := Lib.hid hb01
  have HCK := Lib.hid (hcd w1 hb01)
  have HFS : Hid (FamsAt w1 b k F) := Lib.hid (fun j hj => by
    obtain ⟨v, hv, hl⟩ := hFs j hj
    exact ⟨v, later hb01 (Nat.le_refl _) hv, hl.below hb01⟩)
  have HZ := Lib.hid hz
  have c0 := HX0.out.c0
  have c1 := HX0.out.c1
  have c2 := HX0.out.c2
  have d0 := HY0.out.c0
  have d1 := HY0.out.c1
  have d2 := HY0.out.c2
  clear h h2 hFs hcd hz k1 k2 hb01
  go_enter Tryd.func17, Tryd.ntmps17
  go_upto_region 1 with fail
  rw [← hw1]
  clear hw1
  go_wp2_with fail
  refine HCK.out.mono ?_
  rintro e w3 ⟨rfl, hb3⟩
  have HX3 := Lib.hid (HX0.out.next hb3)
  have HY3 := Lib.hid (HY0.out.next hb3)
  have HB3 := Lib.hid hb3
  clear hb3 c0 c1 c2 d0 d1 d2 HCK
  by_cases h0 : cd = 0
  · subst h0
    have hfz := HZ.out rfl
    have hpp := hfz.1.prime
    subst hpp
    have HE := Lib.hid hfz.1
    have HFO := Lib.hid hfz.2
    clear hfz
    have HNX : Hid (∀ W, Below w3.heap.size w3 W → Bx w W w.heap.size p (.slice ad ds.length cap) (.slice am ms.length capm) ds ms ∧ Bx w W (w.heap.size + 1) p (.slice ad2 ds2.length cap2) (.slice am2 ms2.length capm2) ds2 ms2 ∧ Below w1.heap.size w1 W) := Lib.hid (fun W hb => ⟨HX3.out.next hb, HY3.out.next hb, HB3.out.trans (hb.mono HB3.out.size)⟩)
    go_wp2
    go_loopw [8] (fun i wr => ∃ (j : Nat), j ≤ k ∧ i = .int .i64 j ∧ Hid (Below w3.heap.size w3 wr) ∧ Hid (∀ j2, j2 < j → ChainOk p ds ms ds2 ms2 (F j2))) (fun i _ => k - (intOf i).toNat)
    case atStart => exact ⟨0, Nat.zero_le _, rfl, Lib.hid (Below.refl _ _), Lib.hid (fun _ h => absurd h (Nat.not_lt_zero _))⟩
    case round =>
      obtain ⟨j, hj, rfl, HB, HC⟩ := hrel
      obtain ⟨wx, hwx⟩ : ∃ wx : World, wx = wr := ⟨_, rfl⟩
      subst hwx
      by_cases hlt : j < k
      · obtain ⟨v, hv, hl3⟩ := HFS.out j hlt
        obtain ⟨af, cf, hvs⟩ := Sl.shape hl3
        obtain ⟨fl, hfl⟩ : ∃ fl, fl = (F j).length := ⟨_, rfl⟩
        rw [← hfl] at hvs
        subst hvs
        have HNA : Hid (∀ W, Below wx.heap.size wx W → Below w3.heap.size w3 W) := Lib.hid (fun W h => HB.out.trans (h.mono HB.out.size))
        have HVC : Hid (∀ W, Below wx.heap.size wx W → W.cell? ⟨b, 0 + j, none⟩ = some (.slice af fl cf)) := Lib.hid (fun W h => by rw [Nat.zero_add]; exact later (HNX.out W (HNA.out W h)).2.2 (Nat.le_refl _) hv)
        have HLC : Hid (∀ W, Below wx.heap.size wx W → Calls Tryd.prog 31 #[.agg #[.int .i64 p, .slice ad ds.length cap, .slice am ms.length capm], .agg #[.int .i64 p, .slice ad2 ds2.length cap2, .slice am2 ms2.length capm2], .slice af fl cf] W (BB (ChainOk p ds ms ds2 ms2 (F j)) W)) := Lib.hid (fun W h => by
          have h0 := HNX.out W (HNA.out W h)
          exact l04Chain_any p _ _ _ _ _ ds ms ds2 ms2 (F j) W h0.1.cx h0.2.1.cx (hl3.below h0.2.2) HE.out.x HE.out.y HE.out.len (HFO.out j hlt))
        clear hv hl3 hfl
        go_upto_region 7 with fail
        refine wp_region_held (S := fun W => Below wx.heap.size wx W) (by kernel_rfl) ?_
        have S0 : Below wx.heap.size wx wx.drew := (Below.refl _ _).drew
        change wpAnyH _ _ _ _ _ _ _ _ wx.drew
        obtain ⟨wd, hwd⟩ : ∃ wd, wd = wx.drew := ⟨_, rfl⟩
        rw [← hwd] at S0 ⊢
        clear hwd
        refine held_take (i := 0) (v := .agg #[.int .i64 p, .slice ad ds.length cap, .slice am ms.length capm]) (some 22) rfl rfl (by kernel_rfl) (by kernel_rfl) (by kernel_rfl) (fun _ _ _ h => h) (yieldsIf_cell (by kernel_rfl) rfl (by kernel_rfl) (fun W h => hload3x (HNX.out W (HNA.out W h)).1)) S0 ?_
        refine held_take (i := 1) (v := .agg #[.int .i64 p, .slice ad2 ds2.length cap2, .slice am2 ms2.length capm2]) (some 23) rfl rfl (by kernel_rfl) (by kernel_rfl) (by kernel_rfl) (fun _ _ _ h => h) (yieldsIf_cell (by kernel_rfl) rfl (by kernel_rfl) (fun W h => hload3x (HNX.out W (HNA.out W h)).2.1)) S0 ?_
        refine held_take (i := 2) (v := .slice (some ⟨b, 0, none⟩) k k) (some 24) rfl rfl (by kernel_rfl) (by kernel_rfl) (by kernel_rfl) (fun _ _ _ h => h) (yieldsIf_move (by kernel_rfl) rfl (by kernel_rfl)) S0 ?_
        refine held_take (i := 3) (v := .int .i64 (j : Int)) (some 25) rfl rfl (by kernel_rfl) (by kernel_rfl) (by kernel_rfl) (fun _ _ _ h => h) (yieldsIf_move (by kernel_rfl) rfl (by kernel_rfl)) S0 ?_
        refine held_take (i := 4) (v := .pointer (some ⟨b, 0 + j, none⟩)) (some 26) rfl rfl (by kernel_rfl) (by kernel_rfl) (by kernel_rfl) (fun _ _ _ h => h) (yieldsIf_index (by kernel_rfl) rfl (by kernel_rfl) (by kernel_rfl) (hidxQ b 0 k hlt)) S0 ?_
        refine held_take (i := 5) (v := .slice af fl cf) (some 27) rfl rfl (by kernel_rfl) (by kernel_rfl) (by kernel_rfl) (fun _ _ _ h => h) (yieldsIf_cell (by kernel_rfl) rfl (by kernel_rfl) (fun W h => hloadSSS W (HVC.out W h))) S0 ?_
        refine held_enter (i := 6) (some 28) (f := 31) (args := #[.agg #[.int .i64 p, .slice ad ds.length cap, .slice am ms.length capm], .agg #[.int .i64 p, .slice ad2 ds2.length cap2, .slice am2 ms2.length capm2], .slice af fl cf]) (by kernel_rfl) rfl rfl rfl (by kernel_rfl) (HLC.out _ S0) ?_ (fun c w' h => by obtain ⟨_, h, _⟩ := h; cases h) (fun w' h => by obtain ⟨_, h, _⟩ := h; cases h)
        rintro ee V1 ⟨bb, he, hb1, hbb⟩
        injection he with he
        subst he
        have S1 : Below wx.heap.size wx V1 := S0.trans (hb1.mono S0.size)
        refine ⟨S1, ?_⟩
        refine held_take (i := 7) (v := .bool (!bb)) (some 29) rfl rfl (by kernel_rfl) (by kernel_rfl) (by kernel_rfl) (fun _ _ _ h => h) (yieldsIf_run (by kernel_rfl) (fun W _ => by kernel_rfl)) S1 ?_
        refine wpAnyH_done (by kernel_rfl) ?_ _
        simp only [Act.put, List.setIfInBounds_toArray, List.set_cons_zero, List.set_cons_succ]
        have HB1 := Lib.hid (HNA.out _ S1)
        have HN1 := Lib.hid (HNX.out _ HB1.out)
        clear S0 S1 hb1 HVC HLC HNA
        by_cases hch : ChainOk p ds ms ds2 ms2 (F j)
        · obtain rfl : bb = true := hbb.2 hch
          have HCH := Lib.hid hch
          clear hch hbb
          simp only [Bool.not_true]
          go_wp2
          go_roundw
          case rel => exact ⟨j + 1, by omega, by go_num, HB1, Lib.hid (fun j2 h2 => by
            by_cases e : j2 = j
            · subst e; exact HCH.out
            · exact HC.out j2 (by omega))⟩
          case measure => simp [intOf]; omega
        · obtain rfl : bb = false := by
            cases bb with
            | false => rfl
            | true => exact absurd (hbb.1 rfl) hch
          have HMC : Hid (mapCode 0 (AllCh p ds ms ds2 ms2 k F) = 5) := Lib.hid (mapCode_no rfl (fun h => hch (h j hlt)))
          clear hch hbb
          simp only [Bool.not_false]
          go_wp2
          go_ret
          exact ⟨by rw [HMC.out]; rfl, HN1.out.1.below⟩
      · have HMC : Hid (mapCode 0 (AllCh p ds ms ds2 ms2 k F) = 0) := Lib.hid (mapCode_ok rfl (fun j2 h2 => HC.out j2 (by omega)))
        have HN1 := Lib.hid (HNX.out _ HB.out)
        go_wp2
        go_ret
        exact ⟨by rw [HMC.out]; rfl, HN1.out.1.below⟩
  · have hne2 : (cd != 0) = true := by simp [h0]
    have HMN := Lib.hid (mapCode_ne (all := AllCh p ds ms ds2 ms2 k F) h0)
    clear h0
    go_wp2
    go_ret
    exact ⟨by rw [HMN.out]; rfl, HX3.out.below⟩
end Go.Proofs.YtpdkfidmmjlmnabDoor


namespace Go.Proofs.YtpdkfidmmjlmnabDoor
open Go.RowKit

/-- The answers of IsChainMap. -/
def ChS (p p2 : Int) (ds : List Int) (ms : List (List (List Int))) (ds2 : List Int) (ms2 fs : List (List (List Int))) (b : Bool) (c : Int) : Prop := c = famCode p p2 0 ds ms ds2 ms2 fs ∧ (b = true ↔ famCode p p2 0 ds ms ds2 ms2 fs = 0 ∧ ChainOk p ds ms ds2 ms2 fs)
theorem ChS.unique {p p2 : Int} {ds : List Int} {ms : List (List (List Int))} {ds2 : List Int} {ms2 fs : List (List (List Int))} {b b2 : Bool} {c c2 : Int} (h : ChS p p2 ds ms ds2 ms2 fs b c) (k : ChS p p2 ds ms ds2 ms2 fs b2 c2) : b = b2 ∧ c = c2 := by
  obtain ⟨h1, h2⟩ := h
  obtain ⟨k1, k2⟩ := k
  refine ⟨?_, h1.trans k1.symm⟩
  cases b <;> cases b2 <;> simp_all
theorem famsAt_one {w : World} {b : Nat} {v : Value} {fs : List (List (List Int))} (h : w.cell? ⟨b, 0, none⟩ = some v) (hl : L3 0 w v fs) : FamsAt w b 1 (fun _ => fs) := fun j hj => by
  obtain rfl : j = 0 := by omega
  exact ⟨v, h, hl⟩

end Go.Proofs.YtpdkfidmmjlmnabDoor


namespace Go.Proofs.YtpdkfidmmjlmnabDoor
open Go.RowKit

set_option maxHeartbeats 400000 in
theorem sz1_any {lo : Nat} (v : Value) (xs : List Int) (left : Int) (w : World) (h : L1 lo w v xs) (h0 : 0 ≤ left) (h1 : left ≤ 1048576) (hm : xs.length ≤ 9223372036854775807) :
    Calls Tryd.prog 15 #[v, .int .i64 left] w (SzR left (Bd1 1048576 xs) w) := by
  obtain ⟨ad, cap, rfl⟩ := Sl.shape h
  by_cases hlt : left - xs.length < 0
  · go_enter Tryd.func15, Tryd.ntmps15
    go_wp2
    go_ret
    exact ⟨_, rfl, rfl, Or.inl rfl⟩
  · go_enter Tryd.func15, Tryd.ntmps15
    go_wp2
    go_ret
    exact ⟨_, rfl, rfl, Or.inr ⟨by omega, by omega, by unfold Bd1; omega⟩⟩

set_option maxHeartbeats 400000 in
theorem sz2_any {lo : Nat} (v : Value) (xs : List (List Int)) (left : Int) (w : World) (h : L2 lo w v xs) (h0 : 0 ≤ left) (h1 : left ≤ 1048576) (hm : Bd2 9223372036854775807 xs) :
    Calls Tryd.prog 16 #[v, .int .i64 left] w (SzR left (Bd2 1048576 xs) w) := by
  have hm0 : xs.length ≤ 9223372036854775807 := hm.1
  refine Sl.cases h (fun ad cap hx hv => ?_) (fun b o cap hv _ hpos hc => ?_)
  · subst hx hv
    go_enter Tryd.func16, Tryd.ntmps16
    go_wp2
    refine wp_loop_rounds 1 ?_
    rw [rounds_succ]
    go_wp2
    go_ret
    exact ⟨_, rfl, rfl, Or.inr ⟨by omega, by omega, by simp [Bd2]⟩⟩
  · subst hv
    clear h
    by_cases hlt : left - xs.length < 0
    · go_enter Tryd.func16, Tryd.ntmps16
      go_wp2
      go_ret
      exact ⟨_, rfl, rfl, Or.inl rfl⟩
    · have HM := Lib.hid hm
      have HC := Lib.hid hc
      clear hm hc
      go_enter Tryd.func16, Tryd.ntmps16
      go_wp2
      go_loop [1, 5] (fun l i => ∃ (k : Nat) (r : Int), k ≤ xs.length ∧ i = .int .i64 k ∧ l = .int .i64 r ∧ 0 ≤ r ∧ r ≤ left ∧ Hid (∀ j (hj : j < xs.length), j < k → Bd1 1048576 xs[j])) (fun _ i => xs.length - (intOf i).toNat)
      case atStart => exact ⟨0, _, Nat.zero_le _, rfl, rfl, by omega, by omega, Lib.hid (fun _ _ h => absurd h (Nat.not_lt_zero _))⟩
      case round =>
        obtain ⟨k, r, hk, rfl, rfl, hr0, hr1, HD⟩ := hrel
        by_cases hlt2 : k < xs.length
        · obtain ⟨u, hu, hr⟩ := HC.out k hlt2
          have hmu : (xs[k]).length ≤ 9223372036854775807 := HM.out.2 _ (List.getElem_mem hlt2)
          go_wp2_with fail
          refine (sz1_any u xs[k] r _ hr hr0 (by omega) hmu).mono ?_
          rintro e w' ⟨r2, rfl, rfl, hpost⟩
          rcases hpost with rfl | ⟨hp0, hp1, hp2⟩
          · go_wp2
            go_ret
            exact ⟨_, rfl, rfl, Or.inl rfl⟩
          · go_wp2
            go_round
            case rel => exact ⟨k + 1, r2, by omega, by go_num, rfl, hp0, by omega, Lib.hid (fun j hj hjk => by
              by_cases e : j = k
              · subst e; exact hp2
              · exact HD.out j hj (by omega))⟩
            case measure => simp [intOf]; omega
        · go_wp2
          go_ret
          exact ⟨_, rfl, rfl, Or.inr ⟨hr0, hr1, by omega, fun x hx => by
            obtain ⟨j, hj, rfl⟩ := List.getElem_of_mem hx
            exact HD.out j hj (by omega)⟩⟩
set_option maxHeartbeats 400000 in
theorem sz3_any {lo : Nat} (v : Value) (xs : List (List (List Int))) (left : Int) (w : World) (h : L3 lo w v xs) (h0 : 0 ≤ left) (h1 : left ≤ 1048576) (hm : Bd3 9223372036854775807 xs) :
    Calls Tryd.prog 5 #[v, .int .i64 left] w (SzR left (Bd3 1048576 xs) w) := by
  have hm0 : xs.length ≤ 9223372036854775807 := hm.1
  refine Sl.cases h (fun ad cap hx hv => ?_) (fun b o cap hv _ hpos hc => ?_)
  · subst hx hv
    go_enter Tryd.func5, Tryd.ntmps5
    go_wp2
    refine wp_loop_rounds 1 ?_
    rw [rounds_succ]
    go_wp2
    go_ret
    exact ⟨_, rfl, rfl, Or.inr ⟨by omega, by omega, by simp [Bd3]⟩⟩
  · subst hv
    clear h
    by_cases hlt : left - xs.length < 0
    · go_enter Tryd.func5, Tryd.ntmps5
      go_wp2
      go_ret
      exact ⟨_, rfl, rfl, Or.inl rfl⟩
    · have HM := Lib.hid hm
      have HC := Lib.hid hc
      clear hm hc
      go_enter Tryd.func5, Tryd.ntmps5
      go_wp2
      go_loop [1, 5] (fun l i => ∃ (k : Nat) (r : Int), k ≤ xs.length ∧ i = .int .i64 k ∧ l = .int .i64 r ∧ 0 ≤ r ∧ r ≤ left ∧ Hid (∀ j (hj : j < xs.length), j < k → Bd2 1048576 xs[j])) (fun _ i => xs.length - (intOf i).toNat)
      case atStart => exact ⟨0, _, Nat.zero_le _, rfl, rfl, by omega, by omega, Lib.hid (fun _ _ h => absurd h (Nat.not_lt_zero _))⟩
      case round =>
        obtain ⟨k, r, hk, rfl, rfl, hr0, hr1, HD⟩ := hrel
        by_cases hlt2 : k < xs.length
        · obtain ⟨u, hu, hr⟩ := HC.out k hlt2
          have hmu : Bd2 9223372036854775807 xs[k] := HM.out.2 _ (List.getElem_mem hlt2)
          go_wp2_with fail
          refine (sz2_any u xs[k] r _ hr hr0 (by omega) hmu).mono ?_
          rintro e w' ⟨r2, rfl, rfl, hpost⟩
          rcases hpost with rfl | ⟨hp0, hp1, hp2⟩
          · go_wp2
            go_ret
            exact ⟨_, rfl, rfl, Or.inl rfl⟩
          · go_wp2
            go_round
            case rel => exact ⟨k + 1, r2, by omega, by go_num, rfl, hp0, by omega, Lib.hid (fun j hj hjk => by
              by_cases e : j = k
              · subst e; exact hp2
              · exact HD.out j hj (by omega))⟩
            case measure => simp [intOf]; omega
        · go_wp2
          go_ret
          exact ⟨_, rfl, rfl, Or.inr ⟨hr0, hr1, by omega, fun x hx => by
            obtain ⟨j, hj, rfl⟩ := List.getElem_of_mem hx
            exact HD.out j hj (by omega)⟩⟩

set_option maxHeartbeats 400000 in
theorem szComplex_any (p : Int) (dv mv : Value) (ds : List Int) (ms : List (List (List Int))) (left : Int) (w : World) (hd : L1 0 w dv ds) (hm : L3 0 w mv ms) (h0 : 0 ≤ left) (h1 : left ≤ 1048576)
    (hdl : ds.length ≤ 9223372036854775807) (hml : Bd3 9223372036854775807 ms) :
    Calls Tryd.prog 4 #[.agg #[.int .i64 p, dv, mv], .int .i64 left] w (SzB left (Bd1 1048576 ds ∧ Bd3 1048576 ms) w) := by
  have HML := Lib.hid hml
  have HD := Lib.hid hd
  have HM := Lib.hid hm
  clear hml hd hm
  go_enter Tryd.func4, Tryd.ntmps4
  go_wp2_with fail
  have hb1 : Below w.heap.size w (w.alloc (.cells #[.int .i64 p, dv, mv] 25)) := (Below.refl _ _).alloc (Nat.le_refl _) _
  refine (sz1_any (lo := 0) dv ds left _ (HD.out.below hb1) h0 h1 hdl).mono ?_
  rintro e w' ⟨r, rfl, rfl, hpost⟩
  rcases hpost with rfl | ⟨hp0, hp1, hp2⟩
  · go_wp2
    go_ret
    exact ⟨_, rfl, hb1, Or.inl rfl⟩
  · go_wp2_with fail
    refine (sz3_any (lo := 0) mv ms r _ (HM.out.below hb1) hp0 (by omega) HML.out).mono ?_
    rintro e w' ⟨r2, rfl, rfl, hpost⟩
    rcases hpost with rfl | ⟨hq0, hq1, hq2⟩
    · go_wp2
      go_ret
      exact ⟨_, rfl, hb1, Or.inl rfl⟩
    · go_wp2
      go_ret
      exact ⟨_, rfl, hb1, Or.inr ⟨hq0, by omega, hp2, hq2⟩⟩
end Go.Proofs.YtpdkfidmmjlmnabDoor

namespace Go.Proofs.YtpdkfidmmjlmnabDoor
open Go.RowKit

structure Fi (lo : Nat) (w : World) (dv mv lv : Value) (ds : List Int) (ms : List (List (List Int))) (ls : List (List Int)) : Prop where
  cx : Cx lo w dv mv ds ms
  lv : L2 lo w lv ls
theorem Fi.below {lo : Nat} {w w' : World} {dv mv lv : Value} {ds : List Int} {ms : List (List (List Int))} {ls : List (List Int)} (h : Fi lo w dv mv lv ds ms ls) (hb : Below w.heap.size w w') : Fi lo w' dv mv lv ds ms ls := ⟨h.cx.below hb, h.lv.below hb⟩
theorem Fi.zero {lo : Nat} {w : World} {dv mv lv : Value} {ds : List Int} {ms : List (List (List Int))} {ls : List (List Int)} (h : Fi lo w dv mv lv ds ms ls) : Fi 0 w dv mv lv ds ms ls := ⟨h.cx.zero, h.lv.lower (Nat.zero_le _)⟩
theorem Fi.drew {lo : Nat} {w : World} {dv mv lv : Value} {ds : List Int} {ms : List (List (List Int))} {ls : List (List Int)} (h : Fi lo w dv mv lv ds ms ls) : Fi lo w.drew dv mv lv ds ms ls := h.below (Below.refl _ _).drew
theorem Fi.shapes {lo : Nat} {w : World} {dv mv lv : Value} {ds : List Int} {ms : List (List (List Int))} {ls : List (List Int)} (h : Fi lo w dv mv lv ds ms ls) : (∃ a c, dv = .slice a ds.length c) ∧ (∃ a c, mv = .slice a ms.length c) ∧ ∃ a c, lv = .slice a ls.length c := ⟨h.cx.shapes.1, h.cx.shapes.2, Sl.shape h.lv⟩

/-- What stands in the box of a filtered complex, in whatever later world. -/
structure Fx (w wr : World) (b : Nat) (p : Int) (dv mv lv : Value) (ds : List Int) (ms : List (List (List Int))) (ls : List (List Int)) : Prop where
  below : Below w.heap.size w wr
  c0 : wr.cell? ⟨b, 0, none⟩ = some (.int .i64 p)
  c1 : wr.cell? ⟨b, 1, none⟩ = some dv
  c2 : wr.cell? ⟨b, 2, none⟩ = some mv
  c3 : wr.cell? ⟨b, 3, none⟩ = some lv
  lt : b < wr.heap.size
  fi : Fi 0 wr dv mv lv ds ms ls
theorem Fx.next {w wr w' : World} {b : Nat} {p : Int} {dv mv lv : Value} {ds : List Int} {ms : List (List (List Int))} {ls : List (List Int)} (h : Fx w wr b p dv mv lv ds ms ls) (hb : Below wr.heap.size wr w') : Fx w w' b p dv mv lv ds ms ls :=
  ⟨h.below.trans (hb.mono h.below.size), later hb (Nat.le_refl _) h.c0, later hb (Nat.le_refl _) h.c1, later hb (Nat.le_refl _) h.c2, later hb (Nat.le_refl _) h.c3, Nat.lt_of_lt_of_le h.lt hb.size, h.fi.below hb⟩
theorem Fx.start {w : World} {p : Int} {dv mv lv : Value} {ds : List Int} {ms : List (List (List Int))} {ls : List (List Int)} (t : TypeId) (h : Fi 0 w dv mv lv ds ms ls) : Fx w (w.alloc (.cells #[.int .i64 p, dv, mv, lv] t)) w.heap.size p dv mv lv ds ms ls :=
  ⟨(Below.refl _ _).alloc (Nat.le_refl _) _, by simp, by simp, by simp, by simp, by simp, h.below ((Below.refl _ _).alloc (Nat.le_refl _) _)⟩

end Go.Proofs.YtpdkfidmmjlmnabDoor

namespace Go.Proofs.YtpdkfidmmjlmnabDoor
open Go.RowKit

end Go.Proofs.YtpdkfidmmjlmnabDoor

namespace Go.Proofs.YtpdkfidmmjlmnabDoor
open Go.RowKit

theorem Fx.all {w wr : World} {b : Nat} {p : Int} {dv mv lv : Value} {ds : List Int} {ms : List (List (List Int))} {ls : List (List Int)} (h : Hid (Fx w wr b p dv mv lv ds ms ls)) :
    wr.cell? ⟨b, 0, none⟩ = some (.int .i64 p) ∧ wr.cell? ⟨b, 1, none⟩ = some dv ∧ wr.cell? ⟨b, 2, none⟩ = some mv ∧ wr.cell? ⟨b, 3, none⟩ = some lv ∧ Hid (Fx w wr b p dv mv lv ds ms ls) := ⟨h.out.c0, h.out.c1, h.out.c2, h.out.c3, h⟩

end Go.Proofs.YtpdkfidmmjlmnabDoor

namespace Go.Proofs.YtpdkfidmmjlmnabDoor
open Go.RowKit

end Go.Proofs.YtpdkfidmmjlmnabDoor


namespace Go.Proofs.YtpdkfidmmjlmnabDoor
open Go.RowKit

/-- Approximate cycles: no numbers at levels above q, and a differential without numbers at levels above q0. -/
structure ZcS (p : Int) (d m : Nat) (t : List (List Int)) (l l0 : List Int) (q q0 : Int) (v : Lin.V) : Prop where
  md : Lin.Md p v
  wd : Lin.Wd d v
  up : ∀ i, i < d → q < l.getD i 0 → v i = 0
  dn : ∀ j, j < m → q0 < l0.getD j 0 → Lin.dot d (Lin.col (fun i => ofL (t.getD i [])) j) v % p = 0

theorem ZcS.zv {p : Int} (hp : 0 < p) (d m : Nat) (t : List (List Int)) (l l0 : List Int) (q q0 : Int) : ZcS p d m t l l0 q q0 Lin.zv :=
  ⟨Lin.zv_md hp, Lin.zv_wd d, fun _ _ _ => rfl, fun j _ _ => by rw [Lin.dot_nil (fun i _ => by simp [Lin.zv])]; rfl⟩
theorem ZcS.add {p : Int} (hp : 0 < p) {d m : Nat} {t : List (List Int)} {l l0 : List Int} {q q0 : Int} {v w : Lin.V} (hv : ZcS p d m t l l0 q q0 v) (c : Int) (hw : ZcS p d m t l l0 q q0 w) : ZcS p d m t l l0 q q0 (Lin.add p v c w) := by
  refine ⟨Lin.add_md hp _ _ _, Lin.add_wd c hv.wd hw.wd, fun i hi h => ?_, fun j hj h => ?_⟩
  · simp [Lin.add, hv.up i hi h, hw.up i hi h]
  · rw [Lin.dot_add]
    have h1 := hv.dn j hj h
    have h2 := hw.dn j hj h
    generalize Lin.dot d (Lin.col (fun i => ofL (t.getD i [])) j) v = a at *
    generalize Lin.dot d (Lin.col (fun i => ofL (t.getD i [])) j) w = b at *
    obtain ⟨x, hx⟩ : ∃ x, a = p * x := Int.dvd_of_emod_eq_zero h1
    obtain ⟨y, hy⟩ : ∃ y, b = p * y := Int.dvd_of_emod_eq_zero h2
    rw [hx, hy, Lin.cg (b := 0) (x + c * y) (by grind)]
    rfl
theorem ZcS.sp {p : Int} (hp : 0 < p) {d m : Nat} {t : List (List Int)} {l l0 : List Int} {q q0 : Int} {O : List Lin.V} (h : ∀ u ∈ O, ZcS p d m t l l0 q q0 u) {v : Lin.V} (hv : Lin.Sp p O v) : ZcS p d m t l l0 q q0 v := by
  induction hv with
  | zero => exact ZcS.zv hp _ _ _ _ _ _ _
  | step c _ hw ih => exact ih.add hp c (h _ hw)

/-! ### The conditions of the program. -/
/-! ### What a test keeps of the places. -/
/-- Approximate cycles of a degree, by the levels. -/
def ZcD (p : Int) (ds : List Int) (ms : List (List (List Int))) (ls : List (List Int)) (n : Nat) (q q0 : Int) : Lin.V → Prop := ZcS p (dimN ds (n : Int)) (cycM ds n) (cycT ds ms n) (ls.getD n []) (ls.getD (n - 1) []) q q0
end Go.Proofs.YtpdkfidmmjlmnabDoor

namespace Go.Proofs.YtpdkfidmmjlmnabDoor
open Go.RowKit

end Go.Proofs.YtpdkfidmmjlmnabDoor

namespace Go.Proofs.YtpdkfidmmjlmnabDoor
open Go.RowKit

end Go.Proofs.YtpdkfidmmjlmnabDoor

namespace Go.Proofs.YtpdkfidmmjlmnabDoor
open Go.RowKit

end Go.Proofs.YtpdkfidmmjlmnabDoor

namespace Go.Proofs.YtpdkfidmmjlmnabDoor
open Go.RowKit

end Go.Proofs.YtpdkfidmmjlmnabDoor

namespace Go.Proofs.YtpdkfidmmjlmnabDoor
open Go.RowKit

end Go.Proofs.YtpdkfidmmjlmnabDoor

namespace Go.Proofs.YtpdkfidmmjlmnabDoor
open Go.RowKit

end Go.Proofs.YtpdkfidmmjlmnabDoor

namespace Go.Proofs.YtpdkfidmmjlmnabDoor
open Go.RowKit

end Go.Proofs.YtpdkfidmmjlmnabDoor


namespace Go.Proofs.YtpdkfidmmjlmnabDoor
open Go.RowKit

section
variable {md : Region.Mode} {ops : Array Oper} {Q : Exit → Act → World → Prop} {S : World → Prop}
end
/-- Cycles of levels of at most q together with all boundaries. -/
def LimD (p : Int) (ds : List Int) (ms : List (List (List Int))) (ls : List (List Int)) (k : Nat) (q : Int) (v : Lin.V) : Prop :=
  ∃ Z B, SpF p (dimN ds (k : Int)) (ZcD p ds ms ls k q (-1)) Z ∧ SpF p (dimN ds (k : Int)) (Lin.Sp p ((tabN ms k).map ofL)) B ∧ Lin.Sp p (Z ++ B) v
def LDim (p : Int) (ds : List Int) (ms : List (List (List Int))) (ls : List (List Int)) (k : Nat) (q x : Int) : Prop := ∃ E, SpF p (dimN ds (k : Int)) (LimD p ds ms ls k q) E ∧ x = (E.length : Int)
theorem SpF.unique' {p : Int} {n : Nat} {S : Lin.V → Prop} {R R' : List Lin.V} (hp : 1 < p) (h : SpF p n S R) (k : SpF p n S R') : R = R' := Lin.Red.unique hp h.1 k.1 (fun v => (h.2.2 v).trans (k.2.2 v).symm)
theorem LDim.unique {p : Int} {ds : List Int} {ms : List (List (List Int))} {ls : List (List Int)} {k : Nat} {q x y : Int} (hp : 1 < p) (h : LDim p ds ms ls k q x) (h' : LDim p ds ms ls k q y) : x = y := by
  obtain ⟨A, a, rfl⟩ := h
  obtain ⟨B, b, rfl⟩ := h'
  rw [a.unique' hp b]
theorem LDim.bd {p : Int} {ds : List Int} {ms : List (List (List Int))} {ls : List (List Int)} {k : Nat} {q x : Int} (hcx : IsCx p ds ms) (h : LDim p ds ms ls k q x) : 0 ≤ x ∧ x ≤ 8 := by
  obtain ⟨A, a, rfl⟩ := h
  have := a.short
  have := (dimN_le8 hcx k).1
  omega
/-- The limit number. -/
def LimNum (p : Int) (ds : List Int) (ms : List (List (List Int))) (ls : List (List Int)) (k : Nat) (q x : Int) : Prop := ∃ a b, LDim p ds ms ls k q a ∧ LDim p ds ms ls k (q - 1) b ∧ x = a - b
theorem LimNum.unique {p : Int} {ds : List Int} {ms : List (List (List Int))} {ls : List (List Int)} {k : Nat} {q x y : Int} (hp : 1 < p) (h : LimNum p ds ms ls k q x) (h' : LimNum p ds ms ls k q y) : x = y := by
  obtain ⟨a, b, ha, hb, rfl⟩ := h
  obtain ⟨c, d, hc, hd, rfl⟩ := h'
  rw [ha.unique hp hc, hb.unique hp hd]
/-- A number and a code. -/
structure NOut (P : Int → Prop) (c0 x c : Int) : Prop where
  code : c = c0
  bad : c0 ≠ 0 → x = 0
  good : c0 = 0 → P x
theorem NOut.unique {P : Int → Prop} {c0 x c y d : Int} (hu : c0 = 0 → ∀ a b, P a → P b → a = b) (h : NOut P c0 x c) (k : NOut P c0 y d) : x = y ∧ c = d := by
  refine ⟨?_, h.code.trans k.code.symm⟩
  by_cases h0 : c0 = 0
  · exact hu h0 _ _ (h.good h0) (k.good h0)
  · rw [h.bad h0, k.bad h0]
theorem NOut.of_no {P : Int → Prop} {c : Int} (h : c ≠ 0) : NOut P c 0 c := ⟨rfl, fun _ => rfl, fun h0 => absurd h0 h⟩
end Go.Proofs.YtpdkfidmmjlmnabDoor


namespace Go.Proofs.YtpdkfidmmjlmnabDoor
open Go.RowKit

/-- The differential of a vector, by the table. -/
def dimg (p : Int) (d : Nat) (t : List (List Int)) (u : Lin.V) : Lin.V := img p d (rowsV (t.map ofL)) u
section
variable {P : Program} {ops : Array Oper} {S : World → Prop}
end

end Go.Proofs.YtpdkfidmmjlmnabDoor


namespace Go.Proofs.YtpdkfidmmjlmnabDoor
open Go.RowKit

/-- The homology number of a degree. -/
def HNum (p : Int) (ds : List Int) (ms : List (List (List Int))) (q : Nat) (x : Int) : Prop :=
  ∃ R1 R2, SpF p (dimN ds (q : Int)) (CycS p (dimN ds (q : Int)) (cycM ds q) (cycT ds ms q)) R1 ∧ SpF p (dimN ds (q : Int)) (Lin.Sp p ((tabN ms q).map ofL)) R2 ∧ x = (R1.length : Int) - (R2.length : Int)
theorem SpF.unique {p : Int} {n : Nat} {S : Lin.V → Prop} {R R' : List Lin.V} (hp : 1 < p) (h : SpF p n S R) (k : SpF p n S R') : R = R' := Lin.Red.unique hp h.1 k.1 (fun v => (h.2.2 v).trans (k.2.2 v).symm)
theorem HNum.unique {p : Int} {ds : List Int} {ms : List (List (List Int))} {q : Nat} {x y : Int} (hp : 1 < p) (h : HNum p ds ms q x) (k : HNum p ds ms q y) : x = y := by
  obtain ⟨A, B, a, b, rfl⟩ := h
  obtain ⟨C, D, c, d, rfl⟩ := k
  rw [a.unique hp c, b.unique hp d]
theorem HNum.bd {p : Int} {ds : List Int} {ms : List (List (List Int))} {q : Nat} {x : Int} (hcx : IsCx p ds ms) (h : HNum p ds ms q x) : -8 ≤ x ∧ x ≤ 8 := by
  obtain ⟨A, B, a, b, rfl⟩ := h
  have := a.short
  have := b.short
  have := (dimN_le8 hcx q).1
  omega
/-- What IsExactAt answers. -/
structure ExOut (p : Int) (ds : List Int) (ms : List (List (List Int))) (n : Int) (b : Bool) (c : Int) : Prop where
  code : c = cxCode p ds ms n
  bad : c ≠ 0 → b = false
  good : c = 0 → ∃ x, HNum p ds ms n.toNat x ∧ (b = true ↔ x = 0)
theorem ExOut.unique {p : Int} {ds : List Int} {ms : List (List (List Int))} {n : Int} {b1 b2 : Bool} {c1 c2 : Int} (h : ExOut p ds ms n b1 c1) (k : ExOut p ds ms n b2 c2) : b1 = b2 ∧ c1 = c2 := by
  have e : c1 = c2 := h.code.trans k.code.symm
  refine ⟨?_, e⟩
  by_cases h0 : c1 = 0
  · obtain ⟨x, hx, hb⟩ := h.good h0
    obtain ⟨y, hy, hd⟩ := k.good (by rw [← e]; exact h0)
    have hp := (cxCode_zero (h.code.symm.trans h0)).1.1.prime.lo1
    have := hx.unique hp hy
    subst this
    exact Bool.eq_iff_iff.2 (hb.trans hd.symm)
  · rw [h.bad h0, k.bad (by rw [← e]; exact h0)]
end Go.Proofs.YtpdkfidmmjlmnabDoor


namespace Go.Proofs.YtpdkfidmmjlmnabDoor
open Go.RowKit

section
variable {p : Int} {ds ds2 : List Int} {ms ms2 fs : List (List (List Int))}
/-- The images of vectors of the degree n. -/
def fImg (p : Int) (ds : List Int) (fs : List (List (List Int))) (n : Nat) (A : List Lin.V) : List Lin.V := A.map (dimg p (dimN ds (n : Int)) (fs.getD n []))
/-- The rank that a family induces. -/
def RkInd (p : Int) (ds : List Int) (ms : List (List (List Int))) (ds2 : List Int) (ms2 fs : List (List (List Int))) (n : Nat) (x : Int) : Prop :=
  ∃ A B E, SpF p (dimN ds (n : Int)) (CycS p (dimN ds (n : Int)) (cycM ds n) (cycT ds ms n)) A ∧ SpF p (dimN ds2 (n : Int)) (Lin.Sp p ((tabN ms2 n).map ofL)) B ∧ SpF p (dimN ds2 (n : Int)) (Lin.Sp p (fImg p ds fs n A ++ B)) E ∧ x = (E.length : Int) - (B.length : Int)
theorem RkInd.unique {n : Nat} {x y : Int} (hp : 1 < p) (h : RkInd p ds ms ds2 ms2 fs n x) (k : RkInd p ds ms ds2 ms2 fs n y) : x = y := by
  obtain ⟨A, B, E, a, b, e, rfl⟩ := h
  obtain ⟨A', B', E', a', b', e', rfl⟩ := k
  obtain rfl := a.unique hp a'
  obtain rfl := b.unique hp b'
  rw [e.unique hp e']
end
end Go.Proofs.YtpdkfidmmjlmnabDoor


namespace Go.Proofs.YtpdkfidmmjlmnabDoor
open Go.RowKit
theorem Same.setRow {lo hi g : Nat} {w : World} (x : Array Value) (h : g < lo ∨ hi ≤ g) : Same lo hi w (w.setRow g x) := fun b hl hb => setRow_other w g b x (by omega)
end Go.Proofs.YtpdkfidmmjlmnabDoor


namespace Go.Proofs.YtpdkfidmmjlmnabDoor
open Go.RowKit

/-- Approximate cycles of the degree above, none beyond the degrees. -/
def UpP (p : Int) (ds : List Int) (ms : List (List (List Int))) (ls : List (List Int)) (k : Nat) (q q0 : Int) (R : List Lin.V) : Prop := (k < ds.length → SpF p (dimN ds (k : Int)) (ZcD p ds ms ls k q q0) R) ∧ (¬ k < ds.length → R = [])
theorem UpP.unique {p : Int} {ds : List Int} {ms : List (List (List Int))} {ls : List (List Int)} {k : Nat} {q q0 : Int} {R R' : List Lin.V} (hp : 1 < p) (h : UpP p ds ms ls k q q0 R) (h' : UpP p ds ms ls k q q0 R') : R = R' := by
  by_cases hk : k < ds.length
  · exact (h.1 hk).unique' hp (h'.1 hk)
  · rw [h.2 hk, h'.2 hk]
theorem UpP.short {p : Int} {ds : List Int} {ms : List (List (List Int))} {ls : List (List Int)} (hcx : IsCx p ds ms) {k : Nat} {q q0 : Int} {R : List Lin.V} (h : UpP p ds ms ls k q q0 R) : R.length ≤ 8 := by
  by_cases hk : k < ds.length
  · have := (h.1 hk).short
    have := (dimN_le8 hcx k).1
    omega
  · rw [h.2 hk]; simp
end Go.Proofs.YtpdkfidmmjlmnabDoor


namespace Go.Proofs.YtpdkfidmmjlmnabDoor
open Go.RowKit

section
variable {md : Region.Mode} {ops : Array Oper} {Q : Exit → Act → World → Prop} {S : World → Prop}
end

/-- Gathered rows of a table behind one another. -/
structure CatA (base : Nat) (w : World) (v : Value) (tb : List (List Int)) (xs : List Value) : Prop where
  own : w.ownsRow base 22 1 v tb.length xs
  len : xs.length = tb.length
  rows : ∀ k (h1 : k < xs.length) (h2 : k < tb.length), G1 w xs[k] tb[k]
theorem CatA.below {base : Nat} {w w' : World} {v : Value} {tb : List (List Int)} {xs : List Value} (h : CatA base w v tb xs) (hb : Below w.heap.size w w') : CatA base w' v tb xs := ⟨owns_below h.own hb, h.len, fun k h1 h2 => (h.rows k h1 h2).below hb⟩
theorem CatA.gs {base : Nat} {w : World} {v : Value} {tb : List (List Int)} {xs : List Value} (h : CatA base w v tb xs) : Gs base w v tb := ⟨xs, h.own, h.rows⟩
theorem CatA.start (w : World) (base : Nat) (hb : base ≤ w.heap.size) : CatA base (w.alloc (.cells #[] 22)) (.slice (some ⟨w.heap.size, 0, none⟩) 0 0) [] [] :=
  ⟨by simpa using World.ownsRow_made (base := base) (e := 22) (size := 1) w #[] 0 hb (by unfold maxLen; omega) (by simp), rfl, fun k h1 _ => absurd h1 (Nat.not_lt_zero _)⟩
/-- behind the append of a gathered table. -/
theorem CatA.add {base : Nat} {w w' : World} {v v' : Value} {ta tb : List (List Int)} {xs ys : List Value} (h : CatA base w v ta xs) (hb : ∀ k (h1 : k < ys.length) (h2 : k < tb.length), G1 w ys[k] tb[k]) (hl : ys.length = tb.length)
    (ho : w'.ownsRow base 22 1 v' (ta.length + tb.length) (xs ++ ys)) (hg : w.grownBy w' v.ownBlock) : CatA base w' v' (ta ++ tb) (xs ++ ys) := by
  have h1 := h.len
  refine ⟨by rw [List.length_append]; exact ho, by simp; omega, fun k hk hk2 => ?_⟩
  by_cases e : k < xs.length
  · rw [List.getElem_append_left e, List.getElem_append_left (by omega)]
    exact owns_grown (h.rows k e (by omega)) h.own (by decide) hg
  · rw [List.getElem_append_right (by omega), List.getElem_append_right (by omega)]
    have h3 : k - xs.length < ys.length := by rw [List.length_append] at hk; omega
    have : G1 w' ys[k - xs.length] (tb[k - xs.length]'(by omega)) := owns_grown (hb (k - xs.length) h3 (by omega)) h.own (by decide) hg
    simpa [h1] using this
end Go.Proofs.YtpdkfidmmjlmnabDoor


namespace Go.Proofs.YtpdkfidmmjlmnabDoor
open Go.RowKit

/-- The code of InducedRank. -/
noncomputable def irCode (p p2 n : Int) (ds : List Int) (ms : List (List (List Int))) (ds2 : List Int) (ms2 fs : List (List (List Int))) : Int :=
  if famCode p p2 0 ds ms ds2 ms2 fs = 0 then (if 0 ≤ n ∧ n ≤ (ds.length : Int) - 1 then mapCode 0 (ChainOk p ds ms ds2 ms2 fs) else 2) else famCode p p2 0 ds ms ds2 ms2 fs
section
variable {p p2 n : Int} {ds : List Int} {ms : List (List (List Int))} {ds2 : List Int} {ms2 fs : List (List (List Int))}
theorem irCode_ne (h : famCode p p2 0 ds ms ds2 ms2 fs ≠ 0) : irCode p p2 n ds ms ds2 ms2 fs = famCode p p2 0 ds ms ds2 ms2 fs := by unfold irCode; rw [if_neg h]
theorem irCode_zero (h : irCode p p2 n ds ms ds2 ms2 fs = 0) : famCode p p2 0 ds ms ds2 ms2 fs = 0 := by
  by_cases h0 : famCode p p2 0 ds ms ds2 ms2 fs = 0
  · exact h0
  · rw [irCode_ne h0] at h; exact absurd h h0
/-- The answers of InducedRank. -/
def IrO (p p2 n : Int) (ds : List Int) (ms : List (List (List Int))) (ds2 : List Int) (ms2 fs : List (List (List Int))) (a c : Int) : Prop :=
  c = irCode p p2 n ds ms ds2 ms2 fs ∧ (c ≠ 0 → a = 0) ∧ (c = 0 → RkInd p ds ms ds2 ms2 fs n.toNat a)
theorem IrO.unique {a a2 c c2 : Int} (h : IrO p p2 n ds ms ds2 ms2 fs a c) (k : IrO p p2 n ds ms ds2 ms2 fs a2 c2) : a = a2 ∧ c = c2 := by
  have e : c = c2 := h.1.trans k.1.symm
  refine ⟨?_, e⟩
  by_cases h0 : c = 0
  · have hp := (famCode_zero (irCode_zero (h.1.symm.trans h0))).1.x.1.prime.lo1
    exact (h.2.2 h0).unique hp (k.2.2 (e.symm.trans h0))
  · rw [h.2.1 h0, k.2.1 (fun hh => h0 (e.trans hh))]
end

end Go.Proofs.YtpdkfidmmjlmnabDoor


namespace Go.Proofs.YtpdkfidmmjlmnabDoor
open Go.RowKit

section
variable {p p2 : Int} {ds : List Int} {ms : List (List (List Int))} {ds2 : List Int} {ms2 fs : List (List (List Int))}
/-- In the degree n a family's rank is both homology numbers. -/
def QuAt (p : Int) (ds : List Int) (ms : List (List (List Int))) (ds2 : List Int) (ms2 fs : List (List (List Int))) (n : Nat) : Prop := ∃ r, RkInd p ds ms ds2 ms2 fs n r ∧ HNum p ds ms n r ∧ HNum p ds2 ms2 n r
/-- The answers of IsQuasi. -/
def QuS (p p2 : Int) (ds : List Int) (ms : List (List (List Int))) (ds2 : List Int) (ms2 fs : List (List (List Int))) (b : Bool) (c : Int) : Prop := c = mapCode (famCode p p2 0 ds ms ds2 ms2 fs) (AllCh p ds ms ds2 ms2 1 (fun _ => fs)) ∧ (b = true ↔ mapCode (famCode p p2 0 ds ms ds2 ms2 fs) (AllCh p ds ms ds2 ms2 1 (fun _ => fs)) = 0 ∧ ∀ n, n < ds.length → QuAt p ds ms ds2 ms2 fs n)
theorem QuS.unique {b b2 : Bool} {c c2 : Int} (h : QuS p p2 ds ms ds2 ms2 fs b c) (k : QuS p p2 ds ms ds2 ms2 fs b2 c2) : b = b2 ∧ c = c2 := by
  obtain ⟨h1, h2⟩ := h
  obtain ⟨k1, k2⟩ := k
  refine ⟨?_, h1.trans k1.symm⟩
  exact Bool.eq_iff_iff.2 (h2.trans k2.symm)
end

end Go.Proofs.YtpdkfidmmjlmnabDoor


namespace Go.Proofs.YtpdkfidmmjlmnabDoor
open Go.RowKit

def MaxR (xs : List Int) (w : World) (e : Ending) (w' : World) : Prop := ∃ m : Int, e = .returned (.int .i64 m) ∧ Below w.heap.size w w' ∧ ∀ B : Int, B < m ↔ ∃ j, j < xs.length ∧ B < xs.getD j 0
theorem max_step {xs : List Int} {k : Nat} {m : Int} (h : ∀ B : Int, B < m ↔ ∃ j, j < k ∧ B < xs.getD j 0) (B : Int) : B < max m (xs.getD k 0) ↔ ∃ j, j < k + 1 ∧ B < xs.getD j 0 := by
  constructor
  · intro hb
    by_cases hm : B < m
    · obtain ⟨j, hj, hx⟩ := (h B).1 hm
      exact ⟨j, by omega, hx⟩
    · exact ⟨k, by omega, by omega⟩
  · rintro ⟨j, hj, hx⟩
    by_cases e : j = k
    · subst e
      omega
    · have := (h B).2 ⟨j, by omega, hx⟩
      omega

set_option maxHeartbeats 1600000 in
set_option maxRecDepth 100000 in
theorem slicesMax_any (vv : Value) (xs : List Int) (w : World) (hv : L1 0 w vv xs) (hne : 0 < xs.length) (hl : xs.length ≤ 1048576) : Calls Tryd.prog 42 #[vv] w (MaxR xs w) := by
  have HV := Lib.hid (fun W (h : Below w.heap.size w W) => hv.below h)
  refine Sl.cases hv (fun _ _ hx _ => absurd hne (by simp [hx])) (fun bd od cap hvd _ _ hcl => ?_)
  subst hvd
  have HC : Hid (∀ W, Below w.heap.size w W → ∀ j (h : j < xs.length), W.cell? ⟨bd, od + j, none⟩ = some (.int .i64 (xs.getD j 0))) := Lib.hid (fun W hb j hj => by
    refine Sl.cases (HV.out W hb) (fun _ _ hx _ => absurd hne (by simp [hx])) (fun b2 o2 c2 hv2 _ _ hc2 => ?_)
    injection hv2 with k1 _ _
    injection k1 with k1
    injection k1 with k1 k2 _
    subst k1 k2
    obtain ⟨u, hu, hru⟩ := hc2 j hj
    rw [hu, hru, getD_of_lt _ hj])
  have c0 := HC.out w (Below.refl _ _) 0 hne
  rw [Nat.add_zero] at c0
  have hne2 : ¬ (xs.length : Int) < 1 := by omega
  have hne3 : (0 : Int) < (xs.length : Int) := by omega
  have HST : Hid (∀ B : Int, B < xs.getD 0 0 ↔ ∃ j, j < 1 ∧ B < xs.getD j 0) := Lib.hid (fun B => ⟨fun h => ⟨0, by omega, h⟩, fun ⟨j, hj, h⟩ => by rwa [show j = 0 by omega] at h⟩)
  obtain ⟨x0, hx0⟩ : ∃ x, x = xs.getD 0 0 := ⟨_, rfl⟩
  rw [← hx0] at c0
  have HX0 := Lib.hid hx0
  clear hx0
  clear hv hcl HV
  go_enter Tryd.func42, Tryd.ntmps42
  go_wp2
  clear c0
  go_loopw [3, 4] (fun s i wr => ∃ (k : Nat) (m : Int), k ≤ xs.length ∧ i = .int .i64 (k : Int) ∧ s = .int .i64 m ∧ Hid (Below w.heap.size w wr) ∧ Hid (∀ B : Int, B < m ↔ ∃ j, j < k ∧ B < xs.getD j 0)) (fun _ i _ => xs.length - (intOf i).toNat)
  case atStart => exact ⟨1, x0, hne, by go_num, rfl, Lib.hid (Below.refl _ _), by rw [HX0.out]; exact HST⟩
  case round =>
    clear HST
    obtain ⟨k, m, hk, rfl, rfl, HB, HM⟩ := hrel
    by_cases hlt : k < xs.length
    · have hki : (k : Int) < (xs.length : Int) := by omega
      have ck := HC.out _ HB.out k hlt
      obtain ⟨x, hx⟩ : ∃ x, x = xs.getD k 0 := ⟨_, rfl⟩
      rw [← hx] at ck
      have HN : Hid (∀ B : Int, B < max m x ↔ ∃ j, j < k + 1 ∧ B < xs.getD j 0) := Lib.hid (by rw [hx]; exact max_step HM.out)
      clear hx
      go_wp2
      go_roundw
      case rel => exact ⟨k + 1, max m x, by omega, by go_num, rfl, HB, HN⟩
      case measure => simp [intOf]; omega
    · have hki : ¬ (k : Int) < (xs.length : Int) := by omega
      have hke : k = xs.length := by omega
      go_wp2
      go_ret
      exact ⟨m, rfl, HB.out, by rw [← hke]; exact HM.out⟩

/-- Beyond the limits of a complex. -/
def Exc (ds : List Int) : Prop := 6 < ds.length ∨ ∃ j, j < ds.length ∧ 8 < ds.getD j 0

set_option maxHeartbeats 1600000 in
set_option maxRecDepth 100000 in
theorem exceedsLimits_any (p : Int) (dv mv : Value) (ds : List Int) (w : World) (h : L1 0 w dv ds) (hne : 0 < ds.length) (hl : ds.length ≤ 1048576) : Calls Tryd.prog 23 #[.agg #[.int .i64 p, dv, mv]] w (BB (Exc ds) w) := by
  obtain ⟨ad, cap, rfl⟩ := Sl.shape h
  obtain ⟨w1, hw1⟩ : ∃ w1, w1 = w.alloc (.cells #[.int .i64 p, .slice ad ds.length cap, mv] 28) := ⟨_, rfl⟩
  have hb1 : Below w.heap.size w w1 := by rw [hw1]; exact below_alloc1 _ _
  have c0 : w1.cell? ⟨w.heap.size, 0, none⟩ = some (.int .i64 p) := by rw [hw1]; simp
  have c1 : w1.cell? ⟨w.heap.size, 1, none⟩ = some (.slice ad ds.length cap) := by rw [hw1]; simp
  have c2 : w1.cell? ⟨w.heap.size, 2, none⟩ = some mv := by rw [hw1]; simp
  have HL := Lib.hid (h.below hb1)
  have HB1 := Lib.hid hb1
  have HC1 : Hid (∀ W, Below w1.heap.size w1 W → W.cell? ⟨w.heap.size, 1, none⟩ = some (.slice ad ds.length cap)) := Lib.hid (fun W h => later h (by rw [hw1]; simp) c1)
  clear h hb1
  go_enter Tryd.func23, Tryd.ntmps23
  go_upto_region 1 with fail
  rw [← hw1]
  clear hw1
  go_wp2_with fail
  refine (topOf_any p _ _ ds.length ad cap w1 rfl hl).mono ?_
  rintro ee w2 ⟨rfl, hb2⟩
  have HL2 := Lib.hid (HL.out.below hb2)
  have HB2 := Lib.hid (HB1.out.trans (hb2.mono HB1.out.size))
  have c1' := HC1.out w2 hb2
  clear c0 c1 c2
  by_cases h6 : 6 < ds.length
  · have hg : (5 : Int) < (ds.length : Int) - 1 := by omega
    clear hb2
    go_wp2
    go_ret
    exact bb_true HB2.out (Or.inl h6)
  · have hg : ¬ (5 : Int) < (ds.length : Int) - 1 := by omega
    clear hb2
    go_wp2_with fail
    refine (slicesMax_any _ ds w2 HL2.out hne hl).mono ?_
    rintro ee w3 ⟨m, rfl, hb3, hm⟩
    have HB3 := Lib.hid (HB2.out.trans (hb3.mono HB2.out.size))
    have HM := Lib.hid (hm 8)
    clear hb3 hm c1'
    by_cases h8 : 8 < m
    · have h8' := Lib.hid h8
      go_wp2
      go_ret
      exact bb_true HB3.out (Or.inr (HM.out.1 h8'.out))
    · have h8' := Lib.hid h8
      go_wp2
      go_ret
      refine ⟨decide ((5 : Int) < (ds.length : Int) - 1) || decide ((8 : Int) < m), rfl, HB3.out, ?_⟩
      have e1 : decide ((5 : Int) < (ds.length : Int) - 1) = false := decide_eq_false (by omega)
      have e2 : decide ((8 : Int) < m) = false := decide_eq_false (by omega)
      rw [e1, e2]
      refine ⟨fun hh => (by cases hh), ?_⟩
      rintro (hh | hh)
      · exact absurd hh (by omega)
      · exact absurd (HM.out.2 hh) (by omega)

end Go.Proofs.YtpdkfidmmjlmnabDoor


namespace Go.Proofs.YtpdkfidmmjlmnabDoor
open Go.RowKit

open Classical in
/-- The code of ConeOf. -/
noncomputable def ceCode (p p2 : Int) (ds : List Int) (ms : List (List (List Int))) (ds2 : List Int) (ms2 fs : List (List (List Int))) : Int := if mapCode (famCode p p2 0 ds ms ds2 ms2 fs) (AllCh p ds ms ds2 ms2 1 (fun _ => fs)) = 0 then (if Exc (cnD ds ds2) then 3 else 0) else mapCode (famCode p p2 0 ds ms ds2 ms2 fs) (AllCh p ds ms ds2 ms2 1 (fun _ => fs))
section
variable {p p2 : Int} {ds : List Int} {ms : List (List (List Int))} {ds2 : List Int} {ms2 fs : List (List (List Int))}
theorem ceCode_ne (h : mapCode (famCode p p2 0 ds ms ds2 ms2 fs) (AllCh p ds ms ds2 ms2 1 (fun _ => fs)) ≠ 0) : ceCode p p2 ds ms ds2 ms2 fs = mapCode (famCode p p2 0 ds ms ds2 ms2 fs) (AllCh p ds ms ds2 ms2 1 (fun _ => fs)) := by unfold ceCode; rw [if_neg h]
theorem ceCode_exc (h : mapCode (famCode p p2 0 ds ms ds2 ms2 fs) (AllCh p ds ms ds2 ms2 1 (fun _ => fs)) = 0) (he : Exc (cnD ds ds2)) : ceCode p p2 ds ms ds2 ms2 fs = 3 := by unfold ceCode; rw [if_pos h, if_pos he]
theorem ceCode_ok (h : mapCode (famCode p p2 0 ds ms ds2 ms2 fs) (AllCh p ds ms ds2 ms2 1 (fun _ => fs)) = 0) (he : ¬ Exc (cnD ds ds2)) : ceCode p p2 ds ms ds2 ms2 fs = 0 := by unfold ceCode; rw [if_pos h, if_neg he]
theorem ceCode_zero (h : ceCode p p2 ds ms ds2 ms2 fs = 0) : mapCode (famCode p p2 0 ds ms ds2 ms2 fs) (AllCh p ds ms ds2 ms2 1 (fun _ => fs)) = 0 ∧ ¬ Exc (cnD ds ds2) := by
  by_cases h0 : mapCode (famCode p p2 0 ds ms ds2 ms2 fs) (AllCh p ds ms ds2 ms2 1 (fun _ => fs)) = 0
  · by_cases he : Exc (cnD ds ds2)
    · rw [ceCode_exc h0 he] at h; exact absurd h (by decide)
    · exact ⟨h0, he⟩
  · rw [ceCode_ne h0] at h; exact absurd h h0
end
def coneOut (p : Int) (ds : List Int) (ms : List (List (List Int))) (ds2 : List Int) (ms2 fs : List (List (List Int))) : Co := (p, cnD ds ds2, cnM p ds ms ds2 ms2 fs)

set_option maxHeartbeats 6400000 in
set_option maxRecDepth 100000 in
theorem coneOf_any {pv : Value} (p p2 : Int) (dv mv dv2 mv2 fv : Value) (ds : List Int) (ms : List (List (List Int))) (ds2 : List Int) (ms2 fs : List (List (List Int))) (w : World) (h : Cx 0 w dv mv ds ms) (h2 : Cx 0 w dv2 mv2 ds2 ms2) (hf : L3 0 w fv fs) (hd : ds.length ≤ 1048576) (hm : Bd3 1048576 ms) (hd2 : ds2.length ≤ 1048576) (hm2 : Bd3 1048576 ms2) (hmf : Bd3 1048576 fs) (hgl : w.cell? ⟨0, 0, none⟩ = some (.iface 99 pv)) :
    Calls Tryd.prog 9 #[.agg #[.int .i64 p, dv, mv], .agg #[.int .i64 p2, dv2, mv2], fv] w (AnsW RwC (fun o => o = coneOut p ds ms ds2 ms2 fs) (0, [], []) (ceCode p p2 ds ms ds2 ms2 fs) w) := by
  have hres : Tryd.f9.results = #[.cell 6 28, .tmp 7] := by kernel_rfl
  have HRES := Lib.hid hres
  obtain ⟨ad, cap, rfl⟩ := Sl.shape h.dims
  obtain ⟨am, capm, rfl⟩ := Sl.shape h.maps
  obtain ⟨ad2, cap2, rfl⟩ := Sl.shape h2.dims
  obtain ⟨am2, capm2, rfl⟩ := Sl.shape h2.maps
  obtain ⟨af, cf, rfl⟩ := Sl.shape hf
  obtain ⟨k1, k2⟩ := bx_two (p := p) (p2 := p2) 28 h h2
  obtain ⟨wa, hwa⟩ : ∃ wa, wa = ((w.alloc (.cells #[.int .i64 p, .slice ad ds.length cap, .slice am ms.length capm] 28)).alloc (.cells #[.int .i64 p2, .slice ad2 ds2.length cap2, .slice am2 ms2.length capm2] 28)) := ⟨_, rfl⟩
  rw [← hwa] at k1 k2
  obtain ⟨w1, hw1⟩ : ∃ w1, w1 = wa.alloc (.cells #[.int .i64 0, .slice none 0 0, .slice none 0 0] 28) := ⟨_, rfl⟩
  have hsa : wa.heap.size = w.heap.size + 2 := by rw [hwa]; simp
  have hs1 : w.heap.size + 3 ≤ w1.heap.size := by rw [hw1]; simp [hsa]
  have hba : Below wa.heap.size wa w1 := by rw [hw1]; exact below_alloc1 _ _
  have HX := Lib.hid (k1.next hba)
  have HY := Lib.hid (k2.next hba)
  have HF1 := Lib.hid (hf.below HX.out.below)
  have HG1 := Lib.hid (later HX.out.below (Nat.le_refl _) hgl)
  have HR0 : Hid (Rz w1 (w.heap.size + 2) 28 #[.int .i64 0, .slice none 0 0, .slice none 0 0]) := Lib.hid (by rw [hw1, ← hsa]; exact Rz.new _ _ _)
  have HNX : Hid (∀ W, Below w1.heap.size w1 W → Bx w W w.heap.size p (.slice ad ds.length cap) (.slice am ms.length capm) ds ms ∧ Bx w W (w.heap.size + 1) p2 (.slice ad2 ds2.length cap2) (.slice am2 ms2.length capm2) ds2 ms2 ∧ L3 0 W (.slice af fs.length cf) fs ∧ W.cell? ⟨0, 0, none⟩ = some (.iface 99 pv) ∧ Rz W (w.heap.size + 2) 28 #[.int .i64 0, .slice none 0 0, .slice none 0 0]) := Lib.hid (fun W hb => ⟨HX.out.next hb, HY.out.next hb, HF1.out.below hb, later hb (Nat.le_refl _) HG1.out, HR0.out.next hb⟩)
  have c0 := HX.out.c0
  have c1 := HX.out.c1
  have c2 := HX.out.c2
  have d0 := HY.out.c0
  have d1 := HY.out.c1
  have d2 := HY.out.c2
  obtain ⟨w2, hw2⟩ : ∃ w2, w2 = w1.alloc (.cells #[.slice af fs.length cf] 23) := ⟨_, rfl⟩
  have hr2 : w2.cell? ⟨w1.heap.size, 0, none⟩ = some (.slice af fs.length cf) := by rw [hw2]; simp
  have hb2 : Below w1.heap.size w1 w2 := by rw [hw2]; exact below_alloc1 _ _
  have HB2 := Lib.hid hb2
  have hN2 := HNX.out _ hb2
  have HCK := Lib.hid (checkChainMaps_any (pv := pv) p p2 (famCode p p2 0 ds ms ds2 ms2 fs) 1 w1.heap.size (fun _ => fs) _ _ _ _ ds ms ds2 ms2 w2 hN2.1.cx hN2.2.1.cx (famsAt_one hr2 hN2.2.2.1) (by omega) (fun W hb => by
    have hN := HNX.out _ (HB2.out.trans (hb.mono HB2.out.size))
    exact checkFamilies1_any p p2 0 w1.heap.size _ _ _ _ _ ds ms ds2 ms2 fs W hN.1.cx hN.2.1.cx hN.2.2.1 (later hb (Nat.le_refl _) hr2) ⟨by omega, by omega⟩ hd hm hd2 hm2 hmf) (fun h0 => ⟨(famCode_zero h0).1, fun _ _ => (famCode_zero h0).2⟩) hN2.2.2.2.1)
  obtain ⟨ec, hec⟩ : ∃ ec, ec = mapCode (famCode p p2 0 ds ms ds2 ms2 fs) (AllCh p ds ms ds2 ms2 1 (fun _ => fs)) := ⟨_, rfl⟩
  rw [← hec] at HCK
  have HEC := Lib.hid hec
  clear h h2 hf hm hm2 hmf hgl k1 k2 hr2 hb2 hec hN2 hba hres HX HY HF1 HG1 HR0
  go_enter Tryd.func9, Tryd.ntmps9
  go_upto_region 1 with fail
  rw [← hwa, ← hw1]
  clear hwa hw1 hsa
  go_wp2_with fail
  rw [← hw2]
  clear hw2
  refine HCK.out.mono ?_
  rintro e w3 ⟨rfl, hb3⟩
  have HB3 := Lib.hid (HB2.out.trans (hb3.mono HB2.out.size))
  have HN3 := Lib.hid (HNX.out _ HB3.out)
  clear hb3 c0 c1 c2 d0 d1 d2 HCK HB2
  by_cases h0 : ec = 0
  · subst h0
    have hfz := famCode_zero (mapCode_zero HEC.out.symm).1
    have hpp := hfz.1.prime
    subst hpp
    have HE := Lib.hid hfz.1
    have HFO := Lib.hid hfz.2
    have hl6 := hfz.1.x.1.len1
    clear hfz
    have c0 := HN3.out.1.c0
    have c1 := HN3.out.1.c1
    have c2 := HN3.out.1.c2
    have d0 := HN3.out.2.1.c0
    have d1 := HN3.out.2.1.c1
    have d2 := HN3.out.2.1.c2
    have HCC := Lib.hid (coneComplex_any p _ _ _ _ _ ds ms ds2 ms2 fs w3 HN3.out.1.cx HN3.out.2.1.cx HN3.out.2.2.1 HE.out.x HE.out.y HE.out.len HFO.out)
    obtain ⟨D, hD⟩ : ∃ D, D = cnD ds ds2 := ⟨_, rfl⟩
    obtain ⟨M, hM⟩ : ∃ M, M = cnM p ds ms ds2 ms2 fs := ⟨_, rfl⟩
    have HDE := Lib.hid hD
    have HME := Lib.hid hM
    have hdl : D.length = ds.length + 1 := by rw [hD]; exact cnD_length _ _
    have hD0 : 0 < D.length := by omega
    have hD9 : D.length ≤ 1048576 := by omega
    clear hD hM hdl
    go_wp2_with fail
    refine HCC.out.mono ?_
    rintro e w7 ⟨u, rfl, hrw, hb7⟩
    rw [← HDE.out, ← HME.out] at hrw
    obtain ⟨aD, cD, aM, cM, hu, hrc⟩ := hrw
    have hu : u = .agg #[.int .i64 p, .slice aD D.length cD, .slice aM M.length cM] := hu
    subst hu
    have HRC : Hid (RcW w3.heap.size w7.heap.size w7 (.slice aD D.length cD) (.slice aM M.length cM) D M) := Lib.hid hrc
    have HB7 := Lib.hid (HB3.out.trans (hb7.mono HB3.out.size))
    have hs3 : w1.heap.size ≤ w3.heap.size := HB3.out.size
    have hs7 : w3.heap.size ≤ w7.heap.size := hb7.size
    clear hrc hb7 HCC c0 c1 c2 d0 d1 d2
    obtain ⟨w8, hw8⟩ : ∃ w8, w8 = w7.alloc (.cells #[.int .i64 p, .slice aD D.length cD, .slice aM M.length cM] 28) := ⟨_, rfl⟩
    have hb8 : Below w7.heap.size w7 w8 := by rw [hw8]; exact below_alloc1 _ _
    have HB8 := Lib.hid (HB7.out.trans (hb8.mono HB7.out.size))
    have hs8 : w7.heap.size ≤ w8.heap.size := hb8.size
    have HRC8 : Hid (RcW w3.heap.size w7.heap.size w8 (.slice aD D.length cD) (.slice aM M.length cM) D M) := Lib.hid (HRC.out.same (Same.of_below hb8 (by omega)))
    have g0 : w8.cell? ⟨w7.heap.size, 0, none⟩ = some (.int .i64 p) := by rw [hw8]; simp
    have g1 : w8.cell? ⟨w7.heap.size, 1, none⟩ = some (.slice aD D.length cD) := by rw [hw8]; simp
    have g2 : w8.cell? ⟨w7.heap.size, 2, none⟩ = some (.slice aM M.length cM) := by rw [hw8]; simp
    have HEX := Lib.hid (exceedsLimits_any p _ (.slice aM M.length cM) D w8 HRC8.out.cx.dims hD0 hD9)
    have HCL : Hid (∀ W, Below w8.heap.size w8 W → W.cell? ⟨w7.heap.size, 0, none⟩ = some (.int .i64 p) ∧ W.cell? ⟨w7.heap.size, 1, none⟩ = some (.slice aD D.length cD) ∧ W.cell? ⟨w7.heap.size, 2, none⟩ = some (.slice aM M.length cM)) := Lib.hid (fun W hb => ⟨later hb (Nat.le_refl _) g0, later hb (Nat.le_refl _) g1, later hb (Nat.le_refl _) g2⟩)
    go_upto_region 5 with fail
    rw [← hw8]
    clear hw8 hb8
    go_wp2_with fail
    refine HEX.out.mono ?_
    rintro e w9 ⟨bb, rfl, hb9, hbb⟩
    have HB9 := Lib.hid (HB8.out.trans (hb9.mono HB8.out.size))
    have hs9 : w8.heap.size ≤ w9.heap.size := hb9.size
    have HRC9 : Hid (RcW w3.heap.size w7.heap.size w9 (.slice aD D.length cD) (.slice aM M.length cM) D M) := Lib.hid (HRC8.out.same (Same.of_below hb9 (by omega)))
    have HCL9 := Lib.hid (HCL.out _ hb9)
    have HNF := Lib.hid (HNX.out _ HB9.out)
    have HBBH := Lib.hid hbb
    clear hb9 hbb g0 g1 g2 HEX HRC HRC8 HCL
    cases bb with
    | true =>
      have HCODE : Hid (ceCode p p ds ms ds2 ms2 fs = 3) := Lib.hid (ceCode_exc HEC.out.symm (by rw [← HDE.out]; exact HBBH.out.1 rfl))
      have HCNE : Hid ((3 : Int) ≠ 0) := Lib.hid (by decide)
      have HR1 : ∃ x0 x1 x2, w9.heap[w.heap.size + 2]? = some (.cells #[x0, x1, x2] 28) := ⟨_, _, _, HNF.out.2.2.2.2⟩
      obtain ⟨x0, x1, x2, hr⟩ := HR1
      have r0 : w9.rowIs (w.heap.size + 2) 28 3 (sel3 x0 x1 x2) := rowIs3 hr
      have q0 : w9.cell? ⟨w.heap.size + 2, 0, none⟩ = some x0 := r0.cell (i := 0) (by omega)
      have z0 : w9.frozen? ⟨w.heap.size + 2, 0, none⟩ = false := r0.frozen 0
      have r1 := r0.set 0 (.int .i64 0)
      have q1 : (w9.setCell ⟨w.heap.size + 2, 0, none⟩ (.int .i64 0)).cell? ⟨w.heap.size + 2, 1, none⟩ = some x1 := r1.cell (i := 1) (by omega)
      have z1 : (w9.setCell ⟨w.heap.size + 2, 0, none⟩ (.int .i64 0)).frozen? ⟨w.heap.size + 2, 1, none⟩ = false := r1.frozen 1
      have r2 := r1.set 1 (.slice none 0 0)
      have q2 : ((w9.setCell ⟨w.heap.size + 2, 0, none⟩ (.int .i64 0)).setCell ⟨w.heap.size + 2, 1, none⟩ (.slice none 0 0)).cell? ⟨w.heap.size + 2, 2, none⟩ = some x2 := r2.cell (i := 2) (by omega)
      have z2 : ((w9.setCell ⟨w.heap.size + 2, 0, none⟩ (.int .i64 0)).setCell ⟨w.heap.size + 2, 1, none⟩ (.slice none 0 0)).frozen? ⟨w.heap.size + 2, 2, none⟩ = false := r2.frozen 2
      have r3 := r2.set 2 (.slice none 0 0)
      obtain ⟨WF, hWF⟩ : ∃ W : World, W = (((w9.setCell ⟨w.heap.size + 2, 0, none⟩ (.int .i64 0)).setCell ⟨w.heap.size + 2, 1, none⟩ (.slice none 0 0)).setCell ⟨w.heap.size + 2, 2, none⟩ (.slice none 0 0)) := ⟨_, rfl⟩
      have hbWF : ∀ B (w0 : World), B ≤ w.heap.size + 2 → Below B w0 w9 → Below B w0 WF := fun B w0 hl hb => by rw [hWF]; exact (((hb.setCell (by show B ≤ w.heap.size + 2; exact hl) _).setCell (by show B ≤ w.heap.size + 2; exact hl) _).setCell (by show B ≤ w.heap.size + 2; exact hl) _)
      have hsWF : ∀ lo hi, w.heap.size + 2 < lo ∨ hi ≤ w.heap.size + 2 → Same lo hi w9 WF := fun lo hi hl => by rw [hWF]; exact (((Same.set _ hl).trans (Same.set _ hl)).trans (Same.set _ hl))
      have hzWF : WF.heap.size = w9.heap.size := by rw [hWF]; simp
      rw [← hWF] at r3
      have f0 : WF.cell? ⟨w.heap.size + 2, 0, none⟩ = some (.int .i64 0) := r3.cell (i := 0) (by omega)
      have f1 : WF.cell? ⟨w.heap.size + 2, 1, none⟩ = some (.slice none 0 0) := r3.cell (i := 1) (by omega)
      have f2 : WF.cell? ⟨w.heap.size + 2, 2, none⟩ = some (.slice none 0 0) := r3.cell (i := 2) (by omega)
      have HWWF := Lib.hid hWF
      clear hr r0 r1 r2 r3 hWF
      have HBF := Lib.hid (hbWF w.heap.size w (by omega) HNF.out.1.below)
      clear hsWF hbWF hzWF
      go_wp2
      rw [← HWWF.out]
      refine bodyPost_ret (v := .tuple #[.agg #[.int .i64 0, .slice none 0 0, .slice none 0 0], .int .i64 3]) ?_ rfl ?_
      · simp only [results, HRES.out]
        go_simp
      · exact ⟨_, (0, [], []), 3, rfl, RwC.nil _ _ _, HBF.out, by rw [HCODE.out]; exact RsOut.of_no HCNE.out⟩
    | false =>
      have HCODE : Hid (ceCode p p ds ms ds2 ms2 fs = 0) := Lib.hid (ceCode_ok HEC.out.symm (fun he => by rw [← HDE.out] at he; exact absurd (HBBH.out.2 he) (by decide)))
      have g0 := HCL9.out.1
      have g1 := HCL9.out.2.1
      have g2 := HCL9.out.2.2
      have HR1 : ∃ x0 x1 x2, w9.heap[w.heap.size + 2]? = some (.cells #[x0, x1, x2] 28) := ⟨_, _, _, HNF.out.2.2.2.2⟩
      obtain ⟨x0, x1, x2, hr⟩ := HR1
      have r0 : w9.rowIs (w.heap.size + 2) 28 3 (sel3 x0 x1 x2) := rowIs3 hr
      have q0 : w9.cell? ⟨w.heap.size + 2, 0, none⟩ = some x0 := r0.cell (i := 0) (by omega)
      have z0 : w9.frozen? ⟨w.heap.size + 2, 0, none⟩ = false := r0.frozen 0
      have r1 := r0.set 0 (.int .i64 p)
      have q1 : (w9.setCell ⟨w.heap.size + 2, 0, none⟩ (.int .i64 p)).cell? ⟨w.heap.size + 2, 1, none⟩ = some x1 := r1.cell (i := 1) (by omega)
      have z1 : (w9.setCell ⟨w.heap.size + 2, 0, none⟩ (.int .i64 p)).frozen? ⟨w.heap.size + 2, 1, none⟩ = false := r1.frozen 1
      have r2 := r1.set 1 (.slice aD D.length cD)
      have q2 : ((w9.setCell ⟨w.heap.size + 2, 0, none⟩ (.int .i64 p)).setCell ⟨w.heap.size + 2, 1, none⟩ (.slice aD D.length cD)).cell? ⟨w.heap.size + 2, 2, none⟩ = some x2 := r2.cell (i := 2) (by omega)
      have z2 : ((w9.setCell ⟨w.heap.size + 2, 0, none⟩ (.int .i64 p)).setCell ⟨w.heap.size + 2, 1, none⟩ (.slice aD D.length cD)).frozen? ⟨w.heap.size + 2, 2, none⟩ = false := r2.frozen 2
      have r3 := r2.set 2 (.slice aM M.length cM)
      obtain ⟨WF, hWF⟩ : ∃ W : World, W = (((w9.setCell ⟨w.heap.size + 2, 0, none⟩ (.int .i64 p)).setCell ⟨w.heap.size + 2, 1, none⟩ (.slice aD D.length cD)).setCell ⟨w.heap.size + 2, 2, none⟩ (.slice aM M.length cM)) := ⟨_, rfl⟩
      have hbWF : ∀ B (w0 : World), B ≤ w.heap.size + 2 → Below B w0 w9 → Below B w0 WF := fun B w0 hl hb => by rw [hWF]; exact (((hb.setCell (by show B ≤ w.heap.size + 2; exact hl) _).setCell (by show B ≤ w.heap.size + 2; exact hl) _).setCell (by show B ≤ w.heap.size + 2; exact hl) _)
      have hsWF : ∀ lo hi, w.heap.size + 2 < lo ∨ hi ≤ w.heap.size + 2 → Same lo hi w9 WF := fun lo hi hl => by rw [hWF]; exact (((Same.set _ hl).trans (Same.set _ hl)).trans (Same.set _ hl))
      have hzWF : WF.heap.size = w9.heap.size := by rw [hWF]; simp
      rw [← hWF] at r3
      have f0 : WF.cell? ⟨w.heap.size + 2, 0, none⟩ = some (.int .i64 p) := r3.cell (i := 0) (by omega)
      have f1 : WF.cell? ⟨w.heap.size + 2, 1, none⟩ = some (.slice aD D.length cD) := r3.cell (i := 1) (by omega)
      have f2 : WF.cell? ⟨w.heap.size + 2, 2, none⟩ = some (.slice aM M.length cM) := r3.cell (i := 2) (by omega)
      have HWWF := Lib.hid hWF
      clear hr r0 r1 r2 r3 hWF
      have HRF := Lib.hid ((HRC9.out.same (hsWF _ _ (Or.inl (by omega)))).wider (show w.heap.size ≤ w3.heap.size by omega) (show w7.heap.size ≤ WF.heap.size by omega))
      have HBF := Lib.hid (hbWF w.heap.size w (by omega) HNF.out.1.below)
      clear hsWF hbWF hzWF HRC9
      go_wp2
      rw [← HWWF.out]
      refine bodyPost_ret (v := .tuple #[.agg #[.int .i64 p, .slice aD D.length cD, .slice aM M.length cM], .int .i64 0]) ?_ rfl ?_
      · simp only [results, HRES.out]
        go_simp
      · exact ⟨_, (p, D, M), 0, rfl, ⟨aD, cD, aM, cM, rfl, HRF.out⟩, HBF.out, RsOut.of_yes HCODE.out (by rw [HDE.out, HME.out]; rfl)⟩
  · have HCODE : Hid (ceCode p p2 ds ms ds2 ms2 fs = ec) := Lib.hid ((ceCode_ne (by rw [← HEC.out]; exact h0)).trans HEC.out.symm)
    have HCNE := Lib.hid h0
    have hne2 : (ec != 0) = true := by simp [h0]
    have hne3 : (ec == 0) = false := by simp [h0]
    have hs3 : w1.heap.size ≤ w3.heap.size := HB3.out.size
    clear h0
    have HR1 : ∃ x0 x1 x2, w3.heap[w.heap.size + 2]? = some (.cells #[x0, x1, x2] 28) := ⟨_, _, _, HN3.out.2.2.2.2⟩
    obtain ⟨x0, x1, x2, hr⟩ := HR1
    have r0 : w3.rowIs (w.heap.size + 2) 28 3 (sel3 x0 x1 x2) := rowIs3 hr
    have q0 : w3.cell? ⟨w.heap.size + 2, 0, none⟩ = some x0 := r0.cell (i := 0) (by omega)
    have z0 : w3.frozen? ⟨w.heap.size + 2, 0, none⟩ = false := r0.frozen 0
    have r1 := r0.set 0 (.int .i64 0)
    have q1 : (w3.setCell ⟨w.heap.size + 2, 0, none⟩ (.int .i64 0)).cell? ⟨w.heap.size + 2, 1, none⟩ = some x1 := r1.cell (i := 1) (by omega)
    have z1 : (w3.setCell ⟨w.heap.size + 2, 0, none⟩ (.int .i64 0)).frozen? ⟨w.heap.size + 2, 1, none⟩ = false := r1.frozen 1
    have r2 := r1.set 1 (.slice none 0 0)
    have q2 : ((w3.setCell ⟨w.heap.size + 2, 0, none⟩ (.int .i64 0)).setCell ⟨w.heap.size + 2, 1, none⟩ (.slice none 0 0)).cell? ⟨w.heap.size + 2, 2, none⟩ = some x2 := r2.cell (i := 2) (by omega)
    have z2 : ((w3.setCell ⟨w.heap.size + 2, 0, none⟩ (.int .i64 0)).setCell ⟨w.heap.size + 2, 1, none⟩ (.slice none 0 0)).frozen? ⟨w.heap.size + 2, 2, none⟩ = false := r2.frozen 2
    have r3 := r2.set 2 (.slice none 0 0)
    obtain ⟨WF, hWF⟩ : ∃ W : World, W = (((w3.setCell ⟨w.heap.size + 2, 0, none⟩ (.int .i64 0)).setCell ⟨w.heap.size + 2, 1, none⟩ (.slice none 0 0)).setCell ⟨w.heap.size + 2, 2, none⟩ (.slice none 0 0)) := ⟨_, rfl⟩
    have hbWF : ∀ B (w0 : World), B ≤ w.heap.size + 2 → Below B w0 w3 → Below B w0 WF := fun B w0 hl hb => by rw [hWF]; exact (((hb.setCell (by show B ≤ w.heap.size + 2; exact hl) _).setCell (by show B ≤ w.heap.size + 2; exact hl) _).setCell (by show B ≤ w.heap.size + 2; exact hl) _)
    have hsWF : ∀ lo hi, w.heap.size + 2 < lo ∨ hi ≤ w.heap.size + 2 → Same lo hi w3 WF := fun lo hi hl => by rw [hWF]; exact (((Same.set _ hl).trans (Same.set _ hl)).trans (Same.set _ hl))
    have hzWF : WF.heap.size = w3.heap.size := by rw [hWF]; simp
    rw [← hWF] at r3
    have f0 : WF.cell? ⟨w.heap.size + 2, 0, none⟩ = some (.int .i64 0) := r3.cell (i := 0) (by omega)
    have f1 : WF.cell? ⟨w.heap.size + 2, 1, none⟩ = some (.slice none 0 0) := r3.cell (i := 1) (by omega)
    have f2 : WF.cell? ⟨w.heap.size + 2, 2, none⟩ = some (.slice none 0 0) := r3.cell (i := 2) (by omega)
    have HWWF := Lib.hid hWF
    clear hr r0 r1 r2 r3 hWF
    have HBF := Lib.hid (hbWF w.heap.size w (by omega) HN3.out.1.below)
    clear hsWF hbWF hzWF
    go_wp2
    rw [← HWWF.out]
    refine bodyPost_ret (v := .tuple #[.agg #[.int .i64 0, .slice none 0 0, .slice none 0 0], .int .i64 ec]) ?_ rfl ?_
    · simp only [results, HRES.out]
      go_simp
    · exact ⟨_, (0, [], []), ec, rfl, RwC.nil _ _ _, HBF.out, by rw [HCODE.out]; exact RsOut.of_no HCNE.out⟩
end Go.Proofs.YtpdkfidmmjlmnabDoor


namespace Go.Proofs.YtpdkfidmmjlmnabDoor
open Go.RowKit

section
variable {p : Int} {a t f : List (List Int)} {l r : Nat}
/-- A row of the target's differential, zeros behind it. -/
def cnA (a : List (List Int)) (r i : Nat) : List Int := a.getD i [] ++ List.replicate r 0
/-- A row of the family, the source's differential behind it, with the other sign. -/
def cnB (p : Int) (t f : List (List Int)) (r i : Nat) : List Int := f.getD i [] ++ (List.range r).map fun q => -((t.getD i []).getD q 0) % p
def cnL (p : Int) (a t f : List (List Int)) (r : Nat) : List (List Int) := (List.range a.length).map (cnA a r) ++ (List.range t.length).map (cnB p t f r)
theorem cnL_length (p : Int) (a t f : List (List Int)) (r : Nat) : (cnL p a t f r).length = a.length + t.length := by simp [cnL]
theorem sc_neg (p : Int) (t : List (List Int)) (i q : Nat) : scZ p (p - 1) t i q = -((t.getD i []).getD q 0) % p := by
  unfold scZ
  obtain ⟨v, hv⟩ : ∃ v, v = (t.getD i []).getD q 0 := ⟨_, rfl⟩
  rw [← hv]
  have e : (p - 1) * v = -v + p * v := by rw [Int.sub_mul]; omega
  rw [e, Int.add_mul_emod_self_left]
theorem cn_tab (ha : ∀ x ∈ a, x.length = l) (hf : ∀ x ∈ f, x.length = l) (hfl : f.length = t.length) :
    tableOf (a.length + t.length) (l + r) (cnZ a l (tableOf t.length r (scZ p (p - 1) t)) f f.length) = cnL p a t f r := by
  have hbl : (tableOf t.length r (scZ p (p - 1) t)).length = t.length := by simp [tableOf]
  refine List.ext_getElem (by rw [cnL_length]; simp [tableOf]) fun j h1 h2 => ?_
  have hj : j < a.length + t.length := by simpa [tableOf] using h1
  simp only [tableOf, List.getElem_map, List.getElem_range, cnL]
  by_cases h : j < a.length
  · rw [List.getElem_append_left (by simpa using h), List.getElem_map, List.getElem_range]
    have hl : (a.getD j []).length = l := by rw [getD_of_lt _ h]; exact ha _ (List.getElem_mem h)
    refine List.ext_getElem (by rw [List.length_map, List.length_range, cnA, List.length_append, hl, List.length_replicate]) fun i h3 h4 => ?_
    simp only [List.getElem_map, List.getElem_range, cnZ, cnA]
    rw [if_neg (by omega)]
    simp only [smZ, if_pos h]
    by_cases hi : i < l
    · rw [if_pos ⟨h, hi⟩, List.getElem_append_left (by omega), getD_of_lt 0 (by omega)]
    · rw [if_neg (fun hh => hi hh.2), List.getElem_append_right (by omega), List.getElem_replicate]
  · have hk : j - a.length < t.length := by omega
    rw [List.getElem_append_right (by simpa using Nat.le_of_not_lt h)]
    simp only [List.length_map, List.length_range, List.getElem_map, List.getElem_range]
    have hl : (f.getD (j - a.length) []).length = l := by rw [getD_of_lt _ (by omega)]; exact hf _ (List.getElem_mem (by omega))
    refine List.ext_getElem (by rw [List.length_map, List.length_range, cnB, List.length_append, hl, List.length_map, List.length_range]) fun i h3 h4 => ?_
    have hi2 : i < l + r := by simpa using h3
    simp only [List.getElem_map, List.getElem_range, cnZ, cnB]
    by_cases hi : i < l
    · rw [if_pos ⟨by omega, by omega, hi⟩, List.getElem_append_left (by omega), getD_of_lt 0 (by omega)]
    · rw [if_neg (by omega)]
      simp only [smZ, if_neg h]
      rw [if_pos ⟨by simp; omega, by omega⟩, List.getElem_append_right (by omega)]
      simp only [List.getElem_map, List.getElem_range, hl]
      rw [← sc_neg]
      have e1 : ((List.range t.length).map fun j => (List.range r).map fun i => scZ p (p - 1) t j i).getD (j - a.length) [] = (List.range r).map fun i => scZ p (p - 1) t (j - a.length) i := by
        rw [getD_of_lt _ (by simpa using hk)]
        simp
      rw [e1, getD_of_lt 0 (by simp; omega)]
      simp
theorem cnL_take_a {i : Nat} (h : i < a.length) : (cnL p a t f r).take (i + 1) = (cnL p a t f r).take i ++ [cnA a r i] := by
  rw [List.take_succ_eq_append_getElem (by rw [cnL_length]; omega)]
  simp only [cnL]
  rw [List.getElem_append_left (by simpa using h)]
  simp
theorem cnL_take_b {i : Nat} (h : i < t.length) : (cnL p a t f r).take (a.length + i + 1) = (cnL p a t f r).take (a.length + i) ++ [cnB p t f r i] := by
  rw [List.take_succ_eq_append_getElem (by rw [cnL_length]; omega)]
  simp only [cnL]
  rw [List.getElem_append_right (by simp)]
  simp
end
end Go.Proofs.YtpdkfidmmjlmnabDoor


namespace Go.Proofs.YtpdkfidmmjlmnabDoor
open Go.RowKit
theorem owns_offRowC {w : World} {base n g : Nat} {e t : TypeId} {u : Value} {xs : List Value} {cs : Array Value} {fr : Nat × Nat} (ho : w.ownsRow base e 1 u n xs) (hg : w.heap[g]? = some (.cells cs t fr)) (h : t ≠ e) (x : Array Value) : (w.setRow g x).ownsRow base e 1 u n xs := by
  refine ⟨ho.1, ?_⟩
  rcases ho.2 with h2 | ⟨g2, cap, cur, hu, hb, hh, r⟩
  · exact Or.inl h2
  · refine Or.inr ⟨g2, cap, cur, hu, hb, ?_, r⟩
    rw [setRow_other w g g2 x (fun e2 => by
      subst e2
      rw [hg] at hh
      simp at hh
      exact h hh.2.1)]
    exact hh
theorem Gb.offRowC {base g : Nat} {w : World} {u : Value} {xs : List Int} {t : TypeId} {cs : Array Value} (h : Gb base w u xs) (hg : Rz w g t cs) (ht : t ≠ 2) (x : Array Value) : Gb base (w.setRow g x) u xs := owns_offRowC h hg ht x
theorem Gs.offRowC {base g : Nat} {w : World} {u : Value} {xs : List (List Int)} {t : TypeId} {cs : Array Value} (h : Gs base w u xs) (hg : Rz w g t cs) (ht : t ≠ 2 ∧ t ≠ 22) (x : Array Value) : Gs base (w.setRow g x) u xs := by
  obtain ⟨vs, ho, h1⟩ := h
  exact ⟨vs, owns_offRowC ho hg ht.2 x, fun k a b => owns_offRowC (h1 k a b) hg ht.1 x⟩
theorem Gt.offRowC {base g : Nat} {w : World} {u : Value} {ts : List (List (List Int))} {t : TypeId} {cs : Array Value} (h : Gt base w u ts) (hg : Rz w g t cs) (ht : t ≠ 2 ∧ t ≠ 22 ∧ t ≠ 39) (x : Array Value) : Gt base (w.setRow g x) u ts := by
  obtain ⟨vs, ho, h1⟩ := h
  exact ⟨vs, owns_offRowC ho hg ht.2.2 x, fun k a b => (h1 k a b).offRowC hg ⟨ht.1, ht.2.1⟩ x⟩
/-- A complex as the model's answer. -/
def GwC (base : Nat) (W : World) (u : Value) (o : Co) : Prop := ∃ ad cd am cm, u = .agg #[.int .i64 o.1, .slice ad o.2.1.length cd, .slice am o.2.2.length cm] ∧ Gb base W (.slice ad o.2.1.length cd) o.2.1 ∧ Gt base W (.slice am o.2.2.length cm) o.2.2
theorem GwC.nil (base : Nat) (W : World) : GwC base W (.agg #[.int .i64 0, .slice none 0 0, .slice none 0 0]) (0, [], []) := ⟨none, 0, none, 0, rfl, ⟨rfl, Or.inl ⟨rfl, rfl⟩⟩, ⟨[], ⟨rfl, Or.inl ⟨rfl, rfl⟩⟩, fun _ h => absurd h (Nat.not_lt_zero _)⟩⟩
end Go.Proofs.YtpdkfidmmjlmnabDoor


namespace Go.Proofs.YtpdkfidmmjlmnabDoor
open Go.RowKit

def axT (ms ms2 : List (List (List Int))) : Nat := if ms.length < ms2.length then ms2.length else ms.length
def axd (ds ds2 : List Int) (n : Nat) : Int := ds.getD n 0 + ds2.getD n 0
theorem dimZ_nat (ds : List Int) (n : Nat) : dimZ ds (n : Int) = ds.getD n 0 := by
  unfold dimZ
  by_cases h : 0 ≤ (n : Int) ∧ (n : Int) ≤ (ds.length : Int) - 1
  · rw [if_pos h, Int.toNat_natCast]
  · rw [if_neg h, List.getD_eq_getElem?_getD, List.getElem?_eq_none (by omega)]
    rfl
open Classical in
/-- The code of a sum of complexes. -/
noncomputable def axCode (p : Int) (ds : List Int) (ms : List (List (List Int))) (p2 : Int) (ds2 : List Int) (ms2 : List (List (List Int))) : Int :=
  if ¬ (IsCx p ds ms ∧ IsCx p2 ds2 ms2) then 1 else if p ≠ p2 then 2 else if ∃ n, n < axT ms ms2 + 1 ∧ 8 < axd ds ds2 n then 3 else 0
structure AxOk (p : Int) (ds : List Int) (ms : List (List (List Int))) (p2 : Int) (ds2 : List Int) (ms2 : List (List (List Int))) : Prop where
  c : IsCx p ds ms
  c2 : IsCx p2 ds2 ms2
  prime : p = p2
  fit : ∀ n, n < axT ms ms2 + 1 → axd ds ds2 n ≤ 8
theorem AxOk.code {p : Int} {ds : List Int} {ms : List (List (List Int))} {p2 : Int} {ds2 : List Int} {ms2 : List (List (List Int))} (h : AxOk p ds ms p2 ds2 ms2) : axCode p ds ms p2 ds2 ms2 = 0 := by
  unfold axCode
  rw [if_neg (fun k => k ⟨h.c, h.c2⟩), if_neg (fun k => k h.prime), if_neg (fun ⟨n, hn, hh⟩ => by have := h.fit n hn; omega)]
end Go.Proofs.YtpdkfidmmjlmnabDoor

