/-
  Families of tables between two complexes: impl.isFamily, impl.checkFamilies on one family, by their contracts.
-/
import Derived.Test.YtpdkfidmmjlmnabEnd
import Derived.Test.YtpdkfidmmjlmnabEnb
import Derived.Deep.RegionHeld3
import Derived.BigRegion
import Derived.Deep.Cut
import Derived.Deep.CutRange
namespace Go.Proofs.Ytpdkfidmmjlmnab
open Go.RowKit

/-- Tables are a family of the shift s. -/
def FamOk (p : Int) (ds ds2 : List Int) (s : Int) (fs : List (List (List Int))) : Prop := fs.length = ds.length ∧ ∀ n, n < fs.length → TabOk p (ds.getD n 0) (dimZ ds2 ((n : Int) + s)) (fs.getD n [])

set_option maxHeartbeats 3200000 in
set_option maxRecDepth 100000 in
theorem isFamily_any (p p2 s : Int) (dv mv dv2 mv2 fv : Value) (ds : List Int) (ms : List (List (List Int))) (ds2 : List Int) (ms2 : List (List (List Int))) (fs : List (List (List Int))) (w : World) (h : Cx 0 w dv mv ds ms) (h2 : Cx 0 w dv2 mv2 ds2 ms2) (hf : L3 0 w fv fs) (hcx : IsCx p ds ms) (hcy : IsCx p2 ds2 ms2) (hs : -1 ≤ s ∧ s ≤ 1) (hm : Bd3 1048576 fs) :
    Calls Try.prog 126 #[.agg #[.int .i64 p, dv, mv], .agg #[.int .i64 p2, dv2, mv2], .int .i64 s, fv] w (BB (FamOk p ds ds2 s fs) w) := by
  obtain ⟨ad, cap, rfl⟩ := Sl.shape h.dims
  obtain ⟨am, capm, rfl⟩ := Sl.shape h.maps
  obtain ⟨ad2, cap2, rfl⟩ := Sl.shape h2.dims
  obtain ⟨am2, capm2, rfl⟩ := Sl.shape h2.maps
  obtain ⟨af, cf, rfl⟩ := Sl.shape hf
  obtain ⟨k1, k2⟩ := bx_two (p := p) (p2 := p2) 31 h h2
  have HX0 := Lib.hid k1
  have HY0 := Lib.hid k2
  obtain ⟨w1, hw1⟩ : ∃ w1, w1 = ((w.alloc (.cells #[.int .i64 p, .slice ad ds.length cap, .slice am ms.length capm] 31)).alloc (.cells #[.int .i64 p2, .slice ad2 ds2.length cap2, .slice am2 ms2.length capm2] 31)) := ⟨_, rfl⟩
  rw [← hw1] at HX0 HY0
  have hb01 : Below w.heap.size w w1 := HX0.out.below
  have HF0 := Lib.hid (hf.below hb01)
  have HNX : Hid (∀ W, Below w1.heap.size w1 W → Bx w W w.heap.size p (.slice ad ds.length cap) (.slice am ms.length capm) ds ms) := Lib.hid (fun W h => HX0.out.next h)
  have HNY : Hid (∀ W, Below w1.heap.size w1 W → Bx w W (w.heap.size + 1) p2 (.slice ad2 ds2.length cap2) (.slice am2 ms2.length capm2) ds2 ms2) := Lib.hid (fun W h => HY0.out.next h)
  have HCX := Lib.hid hcx
  have HCY := Lib.hid hcy
  have HM := Lib.hid hm
  have hl6 := hcx.1.len1
  have hl7 := hcy.1.len1
  have hml : fs.length ≤ 1048576 := hm.1
  obtain ⟨hs0, hs1⟩ := hs
  have c1 := HX0.out.c1
  clear h h2 hf k1 k2 hcx hcy hm hb01
  go_enter Try.func126, Try.ntmps126
  go_upto_region 1 with fail
  rw [← hw1]
  clear hw1
  by_cases hll : fs.length = ds.length
  · have HLL := Lib.hid hll
    have hl1 : (((fs.length : Nat) : Int) != ((ds.length : Nat) : Int)) = false := by simp [hll]
    have hfd : fs.length ≤ 6 := by omega
    clear hll
    go_wp2
    clear c1 hl1
    go_loopw [19] (fun i wr => ∃ (k : Nat), k ≤ fs.length ∧ i = .int .i64 k ∧ Hid (Below w1.heap.size w1 wr) ∧ Hid (∀ j, j < k → TabOk p (ds.getD j 0) (dimZ ds2 ((j : Int) + s)) (fs.getD j []))) (fun i _ => fs.length - (intOf i).toNat)
    case atStart => exact ⟨0, Nat.zero_le _, rfl, Lib.hid (Below.refl _ _), Lib.hid (fun j hj => absurd hj (Nat.not_lt_zero _))⟩
    case round =>
      obtain ⟨k, hk, rfl, HB, HD⟩ := hrel
      obtain ⟨wx, hwx⟩ : ∃ wx : World, wx = wr := ⟨_, rfl⟩
      subst hwx
      by_cases hlt : k < fs.length
      · have hkd : k < ds.length := by have := HLL.out; omega
        have hX := HNX.out _ HB.out
        have hY := HNY.out _ HB.out
        have hdim := HCX.out.1.dim k
        obtain ⟨c, hc⟩ := Int.eq_ofNat_of_zero_le hdim.1
        have hz := dimZ_b HCY.out ((k : Int) + s)
        obtain ⟨c2, hc2⟩ := Int.eq_ofNat_of_zero_le hz.1
        refine Sl.cases hX.cx.dims (fun _ _ hx _ => absurd hkd (by simp [hx])) (fun bd od capd hvd _ _ hcl => ?_)
        injection hvd with e1 e2 e3
        clear e2
        subst e1 e3
        obtain ⟨u, hu, hru⟩ := hcl k hkd
        have hu2 : wx.cell? ⟨bd, od + k, none⟩ = some (.int .i64 (c : Int)) := by rw [hu, hru, ← hc, getD_of_lt _ hkd]
        refine Sl.cases (HF0.out.below HB.out) (fun _ _ hx _ => absurd hlt (by simp [hx])) (fun bf of cf2 hvf _ _ hcf => ?_)
        injection hvf with e1 e2 e3
        clear e2
        subst e1 e3
        obtain ⟨ut, hut, hrt⟩ := hcf k hlt
        obtain ⟨t, ht⟩ : ∃ t, t = fs[k] := ⟨_, rfl⟩
        rw [← ht] at hrt
        have HTE : Hid (fs.getD k [] = t) := Lib.hid (by rw [getD_of_lt _ hlt, ht])
        have HTM : Hid (Bd2 1048576 t) := Lib.hid (by rw [ht]; exact HM.out.2 _ (List.getElem_mem hlt))
        have HRT := Lib.hid hrt
        have HDA : Hid (∀ W, Below wx.heap.size wx W → Calls Try.prog 181 #[.agg #[.int .i64 p2, .slice ad2 ds2.length cap2, .slice am2 ms2.length capm2], .int .i64 ((k : Int) + s)] W (BR (.int .i64 (c2 : Int)) W)) := Lib.hid (fun W h => by
          have := dimAt_any p2 ((k : Int) + s) _ _ ds2 ms2 W (hY.next h).cx (by omega)
          rwa [hc2] at this)
        have HTC : Hid (dimZ ds2 ((k : Int) + s) = (c2 : Int)) := Lib.hid hc2
        have HDC : Hid (ds.getD k 0 = (c : Int)) := Lib.hid hc
        have c0 := hX.c0
        have c1 := hX.c1
        have d0 := hY.c0
        have d1 := hY.c1
        have d2 := hY.c2
        have HSP : Hid (∀ W, Below wx.heap.size wx W → W.cell? ⟨w.heap.size, 0, none⟩ = some (.int .i64 p) ∧ W.cell? ⟨w.heap.size, 1, none⟩ = some (.slice (some ⟨bd, od, none⟩) ds.length cap) ∧ W.cell? ⟨bd, od + k, none⟩ = some (.int .i64 (c : Int)) ∧ W.cell? ⟨w.heap.size + 1, 0, none⟩ = some (.int .i64 p2) ∧ W.cell? ⟨w.heap.size + 1, 1, none⟩ = some (.slice ad2 ds2.length cap2) ∧ W.cell? ⟨w.heap.size + 1, 2, none⟩ = some (.slice am2 ms2.length capm2) ∧ Hid (Below wx.heap.size wx W)) := Lib.hid (fun W h => ⟨later h (Nat.le_refl _) c0, later h (Nat.le_refl _) c1, later h (Nat.le_refl _) hu2, later h (Nat.le_refl _) d0, later h (Nat.le_refl _) d1, later h (Nat.le_refl _) d2, Lib.hid h⟩)
        have HDD : Hid (Below wx.heap.size wx wx.drew) := Lib.hid (Below.refl _ _).drew
        have hwk : IntKind.i64.wrap ((k : Int) + s) = (k : Int) + s := IntWalk.i64_in _ (by omega)
        have hk0 : (0 : Int) ≤ (k : Int) := by omega
        have hk1 : (k : Int) < (ds.length : Int) := by omega
        by_cases hT : TabOk p (c : Int) (c2 : Int) t
        · have HTB : Hid (∀ W, Below wx.heap.size wx W → Calls Try.prog 135 #[.int .i64 p, ut, .int .i64 (c : Int), .int .i64 (c2 : Int)] W (QW (.bool true) W)) := Lib.hid (fun W h => bw_yes (isTable_any p c c2 ut t W HCX.out.1.prime (HRT.out.below h) HTM.out) hT)
          have HT := Lib.hid hT
          clear hu hru hcl hX hY hdim hc hz hc2 hcf ht hrt hT
          go_wp2
          go_region_held3 (fun w' => w'.cell? ⟨w.heap.size, 0, none⟩ = some (.int .i64 p) ∧ w'.cell? ⟨w.heap.size, 1, none⟩ = some (.slice (some ⟨bd, od, none⟩) ds.length cap) ∧ w'.cell? ⟨bd, od + k, none⟩ = some (.int .i64 (c : Int)) ∧ w'.cell? ⟨w.heap.size + 1, 0, none⟩ = some (.int .i64 p2) ∧ w'.cell? ⟨w.heap.size + 1, 1, none⟩ = some (.slice ad2 ds2.length cap2) ∧ w'.cell? ⟨w.heap.size + 1, 2, none⟩ = some (.slice am2 ms2.length capm2) ∧ Hid (Below wx.heap.size wx w'))
            (first | exact HSP.out _ (Below.refl _ _) | exact HSP.out _ HDD.out | exact HSP.out _ HB4.out | go_keep)
            (first
              | (go_at_call 181; (with_reducible refine (HDA.out _ HDD.out).mono ?_); rintro e w4 ⟨rfl, hb4⟩; have HB4 : Hid (Below wx.heap.size wx w4) := Lib.hid (HDD.out.trans hb4); clear hb4)
              | (go_at_call 135; (with_reducible refine (HTB.out _ HB4.out).mono ?_); rintro e w5 ⟨rfl, rfl⟩))
          have HB5 := Lib.hid (HB.out.trans (HB4.out.mono HB.out.size))
          have HD5 : Hid (∀ j, j < k + 1 → TabOk p (ds.getD j 0) (dimZ ds2 ((j : Int) + s)) (fs.getD j [])) := Lib.hid (fun j hj => by
            by_cases e : j = k
            · subst e; rw [HDC.out, HTC.out, HTE.out]; exact HT.out
            · exact HD.out j (by omega))
          clear hwk hk0 hk1 c0 c1 d0 d1 d2 hu2 HSP HDA HTB hut HD
          go_wp2
          go_roundw
          case rel => exact ⟨k + 1, by omega, by go_num, HB5, HD5⟩
          case measure => simp [intOf]; omega
        · have HTB : Hid (∀ W, Below wx.heap.size wx W → Calls Try.prog 135 #[.int .i64 p, ut, .int .i64 (c : Int), .int .i64 (c2 : Int)] W (QW (.bool false) W)) := Lib.hid (fun W h => bw_no (isTable_any p c c2 ut t W HCX.out.1.prime (HRT.out.below h) HTM.out) hT)
          have HT := Lib.hid hT
          clear hu hru hcl hX hY hdim hc hz hc2 hcf ht hrt hT
          go_wp2
          go_region_held3 (fun w' => w'.cell? ⟨w.heap.size, 0, none⟩ = some (.int .i64 p) ∧ w'.cell? ⟨w.heap.size, 1, none⟩ = some (.slice (some ⟨bd, od, none⟩) ds.length cap) ∧ w'.cell? ⟨bd, od + k, none⟩ = some (.int .i64 (c : Int)) ∧ w'.cell? ⟨w.heap.size + 1, 0, none⟩ = some (.int .i64 p2) ∧ w'.cell? ⟨w.heap.size + 1, 1, none⟩ = some (.slice ad2 ds2.length cap2) ∧ w'.cell? ⟨w.heap.size + 1, 2, none⟩ = some (.slice am2 ms2.length capm2) ∧ Hid (Below wx.heap.size wx w'))
            (first | exact HSP.out _ (Below.refl _ _) | exact HSP.out _ HDD.out | exact HSP.out _ HB4.out | go_keep)
            (first
              | (go_at_call 181; (with_reducible refine (HDA.out _ HDD.out).mono ?_); rintro e w4 ⟨rfl, hb4⟩; have HB4 : Hid (Below wx.heap.size wx w4) := Lib.hid (HDD.out.trans hb4); clear hb4)
              | (go_at_call 135; (with_reducible refine (HTB.out _ HB4.out).mono ?_); rintro e w5 ⟨rfl, rfl⟩))
          have HB5 := Lib.hid (HNX.out _ (HB.out.trans (HB4.out.mono HB.out.size))).below
          clear hwk hk0 hk1 c0 c1 d0 d1 d2 hu2 HSP HDA HTB hut HD
          go_wp2
          go_ret
          exact bb_false HB5.out (fun hh => HT.out (by have := hh.2 k hlt; rwa [HDC.out, HTC.out, HTE.out] at this))
      · have HXX := Lib.hid (HNX.out _ HB.out).below
        go_wp2
        go_ret
        exact bb_true HXX.out ⟨HLL.out, fun n hn => HD.out n (by omega)⟩
  · have HLL := Lib.hid hll
    have hl1 : (((fs.length : Nat) : Int) != ((ds.length : Nat) : Int)) = true := by
      have : ¬ ((fs.length : Int) = (ds.length : Int)) := by omega
      simpa using this
    clear hll
    go_wp2
    go_ret
    exact bb_false HX0.out.below (fun hh => HLL.out hh.1)

open Classical in
/-- The code of two complexes and one family of the shift s. -/
noncomputable def famCode (p p2 s : Int) (ds : List Int) (ms : List (List (List Int))) (ds2 : List Int) (ms2 : List (List (List Int))) (fs : List (List (List Int))) : Int :=
  if endCode p p2 ds ms ds2 ms2 = 0 then (if FamOk p ds ds2 s fs then 0 else 2) else endCode p p2 ds ms ds2 ms2
theorem famCode_zero {p p2 s : Int} {ds : List Int} {ms : List (List (List Int))} {ds2 : List Int} {ms2 : List (List (List Int))} {fs : List (List (List Int))} (h : famCode p p2 s ds ms ds2 ms2 fs = 0) : EndOk p p2 ds ms ds2 ms2 ∧ FamOk p ds ds2 s fs := by
  unfold famCode at h
  by_cases h0 : endCode p p2 ds ms ds2 ms2 = 0
  · rw [if_pos h0] at h
    by_cases h1 : FamOk p ds ds2 s fs
    · exact ⟨endCode_zero h0, h1⟩
    · rw [if_neg h1] at h
      cases h
  · rw [if_neg h0] at h
    exact absurd h h0

set_option maxHeartbeats 3200000 in
set_option maxRecDepth 100000 in
theorem checkFamilies1_any (p p2 s : Int) (b : Nat) (dv mv dv2 mv2 fv : Value) (ds : List Int) (ms : List (List (List Int))) (ds2 : List Int) (ms2 : List (List (List Int))) (fs : List (List (List Int))) (w : World) (h : Cx 0 w dv mv ds ms) (h2 : Cx 0 w dv2 mv2 ds2 ms2) (hf : L3 0 w fv fs) (hr : w.cell? ⟨b, 0, none⟩ = some fv) (hs : -1 ≤ s ∧ s ≤ 1) (hd : ds.length ≤ 1048576) (hm : Bd3 1048576 ms) (hd2 : ds2.length ≤ 1048576) (hm2 : Bd3 1048576 ms2) (hmf : Bd3 1048576 fs) :
    Calls Try.prog 120 #[.agg #[.int .i64 p, dv, mv], .agg #[.int .i64 p2, dv2, mv2], .int .i64 s, .slice (some ⟨b, 0, none⟩) 1 1] w (BR (.int .i64 (famCode p p2 s ds ms ds2 ms2 fs)) w) := by
  obtain ⟨ad, cap, rfl⟩ := Sl.shape h.dims
  obtain ⟨am, capm, rfl⟩ := Sl.shape h.maps
  obtain ⟨ad2, cap2, rfl⟩ := Sl.shape h2.dims
  obtain ⟨am2, capm2, rfl⟩ := Sl.shape h2.maps
  obtain ⟨af, cf, rfl⟩ := Sl.shape hf
  obtain ⟨k1, k2⟩ := bx_two (p := p) (p2 := p2) 31 h h2
  have HX0 := Lib.hid k1
  have HY0 := Lib.hid k2
  obtain ⟨w1, hw1⟩ : ∃ w1, w1 = ((w.alloc (.cells #[.int .i64 p, .slice ad ds.length cap, .slice am ms.length capm] 31)).alloc (.cells #[.int .i64 p2, .slice ad2 ds2.length cap2, .slice am2 ms2.length capm2] 31)) := ⟨_, rfl⟩
  rw [← hw1] at HX0 HY0
  have hb01 : Below w.heap.size w w1 := HX0.out.below
  have HF0 := Lib.hid (hf.below hb01)
  have HNX : Hid (∀ W, Below w1.heap.size w1 W → Bx w W w.heap.size p (.slice ad ds.length cap) (.slice am ms.length capm) ds ms) := Lib.hid (fun W h => HX0.out.next h)
  have HNY : Hid (∀ W, Below w1.heap.size w1 W → Bx w W (w.heap.size + 1) p2 (.slice ad2 ds2.length cap2) (.slice am2 ms2.length capm2) ds2 ms2) := Lib.hid (fun W h => HY0.out.next h)
  have HMF := Lib.hid hmf
  have HS := Lib.hid hs
  have HR1 := Lib.hid (later hb01 (Nat.le_refl _) hr)
  have c0 := HX0.out.c0
  have c1 := HX0.out.c1
  have c2 := HX0.out.c2
  have d0 := HY0.out.c0
  have d1 := HY0.out.c1
  have d2 := HY0.out.c2
  obtain ⟨w2, hw2⟩ : ∃ w2, w2 = w1.alloc (.cells #[.int .i64 p, .slice ad ds.length cap, .slice am ms.length capm, .int .i64 p2, .slice ad2 ds2.length cap2, .slice am2 ms2.length capm2] 31) := ⟨_, rfl⟩
  have hr2 : Row2 w2 w1.heap.size p p2 (.slice ad ds.length cap) (.slice am ms.length capm) (.slice ad2 ds2.length cap2) (.slice am2 ms2.length capm2) := by
    rw [hw2]
    exact ⟨by simp, by simp, by simp, by simp, by simp, by simp⟩
  have hb2 : Below w1.heap.size w1 w2 := by rw [hw2]; exact below_alloc1 _ _
  have HB2 := Lib.hid hb2
  have HCK := Lib.hid (checkEnds2_any p p2 w1.heap.size _ _ _ _ ds ms ds2 ms2 w2 hr2 (HNX.out _ hb2).cx (HNY.out _ hb2).cx hd hm hd2 hm2)
  obtain ⟨ec, hec⟩ : ∃ ec, ec = endCode p p2 ds ms ds2 ms2 := ⟨_, rfl⟩
  rw [← hec] at HCK
  have HEC := Lib.hid hec
  clear h h2 hf hm hm2 hmf k1 k2 hr hr2 hb2 hb01 hec hs
  go_enter Try.func120, Try.ntmps120
  go_upto_region 1 with fail
  rw [← hw1]
  clear hw1
  go_wp2_with fail
  rw [← hw2]
  clear hw2
  refine HCK.out.mono ?_
  rintro e w3 ⟨rfl, hb3⟩
  have HB3 := Lib.hid (HB2.out.trans (hb3.mono HB2.out.size))
  have HX3 := Lib.hid (HNX.out _ HB3.out)
  have HY3 := Lib.hid (HNY.out _ HB3.out)
  clear hb3 c0 c1 c2 d0 d1 d2 HX0 HY0 HCK HB2
  by_cases h0 : ec = 0
  · subst h0
    have hE := endCode_zero HEC.out.symm
    have hIF := isFamily_any p p2 s _ _ _ _ _ ds ms ds2 ms2 fs w3 HX3.out.cx HY3.out.cx (HF0.out.below HB3.out) hE.x hE.y HS.out HMF.out
    have HIF := Lib.hid hIF
    have c0 := HX3.out.c0
    have c1 := HX3.out.c1
    have c2 := HX3.out.c2
    have d0 := HY3.out.c0
    have d1 := HY3.out.c1
    have d2 := HY3.out.c2
    have hr3 := later HB3.out (Nat.le_refl _) HR1.out
    clear hE hIF
    go_wp2
    refine wp_loop_rounds 2 ?_
    rw [rounds_succ]
    go_wp2_with fail
    refine HIF.out.mono ?_
    rintro e w4 ⟨bb, rfl, hb4, hbb⟩
    have HB4 := Lib.hid (HX3.out.next hb4).below
    clear hb4 c0 c1 c2 d0 d1 d2 hr3 HIF
    by_cases hT : FamOk p ds ds2 s fs
    · obtain rfl : bb = true := hbb.2 hT
      have HT := Lib.hid hT
      clear hT hbb
      go_wp2
      rw [rounds_succ]
      go_wp2
      go_ret
      exact ⟨ret_int (by unfold famCode; rw [if_pos HEC.out.symm, if_pos HT.out]), HB4.out⟩
    · obtain rfl : bb = false := bb_no hbb hT
      have HT := Lib.hid hT
      clear hT hbb
      go_wp2
      go_ret
      exact ⟨ret_int (by unfold famCode; rw [if_pos HEC.out.symm, if_neg HT.out]), HB4.out⟩
  · have hne2 : (ec != 0) = true := by simp [h0]
    have hne3 : (ec == 0) = false := by simp [h0]
    have HNE := Lib.hid h0
    clear h0
    go_wp2
    go_ret
    exact ⟨ret_int (by unfold famCode; rw [← HEC.out, if_neg HNE.out]), HX3.out.below⟩
end Go.Proofs.Ytpdkfidmmjlmnab
