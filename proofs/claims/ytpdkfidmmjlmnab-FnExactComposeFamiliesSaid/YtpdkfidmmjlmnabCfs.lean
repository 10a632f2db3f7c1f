/-
  spec.ComposeFamilies by contract.
-/
import Derived.Test.YtpdkfidmmjlmnabCfm
import Derived.Test.YtpdkfidmmjlmnabAfs
import Derived.Test.YtpdkfidmmjlmnabFaS
import Derived.Test.YtpdkfidmmjlmnabApf
import Derived.Test.YtpdkfidmmjlmnabAff
namespace Go.Proofs.Ytpdkfidmmjlmnab
open Go.RowKit

theorem cf_of {p p2 p3 c : Int} {ds : List Int} {ms : List (List (List Int))} {ds2 : List Int} {ms2 : List (List (List Int))} {ds3 : List Int} {ms3 fs gs : List (List (List Int))} (h : endCodeN 3 (s3 p p2 p3) (s3 ds ds2 ds3) (s3 ms ms2 ms3) = c) (hc : c ≠ 0) : cfCode p p2 p3 ds ms ds2 ms2 ds3 ms3 fs gs = c := by
  unfold cfCode
  rw [if_neg (by rw [h]; exact hc), h]
section
variable {o : Oper} {a : Act} {w : World} {K : Act → World → Prop} {Q : Exit → Act → World → Prop}
theorem wp_appendGs (dst : Option Tmp) (hdst : o.dst = dst) (s x : Operand) (ho : o.op = .call { callee := .builtin .append, args := #[s, x], argTypes := #[26, 26] }) (base : Nat) (v : Value) (tb : List (List Int)) (hs : a.eval s = v) (hown : Gs base w v tb)
    (b : Nat) (hx : a.eval x = .slice (some ⟨b, 0, none⟩) 1 1) (ar : Option Addr) (nr cr : Nat) (hc : w.cell? ⟨b, 0, none⟩ = some (.slice ar nr cr)) (y : List Int) (hy : G1 w (.slice ar nr cr) y) (hl : tb.length ≤ 2097151) (hb : base ≤ w.heap.size)
    (h : ∀ g cap w', Gs base w' (.slice (some ⟨g, 0, none⟩) (tb.length + 1) cap) (tb ++ [y]) → w.grownBy w' v.ownBlock → K (a.put dst (.slice (some ⟨g, 0, none⟩) (tb.length + 1) cap)) w') : o.wp Try.prog a w K Q := by
  obtain ⟨i, hi, hz, hs1, hb1⟩ := info_parts Try.infoS
  obtain ⟨vs, hvo, hvr⟩ := hown
  subst hdst
  refine wp_append_lies w s x 26 ho base 22 i _ 1 24 Try.underlying26 hi hz hs1 hb1 rfl (by decide) v tb.length vs hs hvo ⟨b, 0, none⟩ 1 1 [.slice ar nr cr] hx rfl ?_ ?_ (by omega) (by unfold maxLen; omega) (by omega) hb _ rfl (fun g cap w' h1 h2 _ _ => h g cap w' (Gs.push hvo hvr hy h1 h2) h2)
  · intro j u hj
    match j, hj with
    | 0, hj =>
      simp at hj
      subst hj
      exact hc
  · intro u hu
    simp at hu
    subst hu
    rfl
end
set_option maxHeartbeats 6400000 in
set_option maxRecDepth 100000 in
theorem spComposeFamilies_any (p p2 p3 : Int) (dv mv dv2 mv2 dv3 mv3 fv gv : Value) (ds : List Int) (ms : List (List (List Int))) (ds2 : List Int) (ms2 : List (List (List Int))) (ds3 : List Int) (ms3 : List (List (List Int))) (fs gs : List (List (List Int))) (w : World) (h : Cx 0 w dv mv ds ms) (h2 : Cx 0 w dv2 mv2 ds2 ms2) (h3 : Cx 0 w dv3 mv3 ds3 ms3) (hf : L3 0 w fv fs) (hg : L3 0 w gv gs) (hd : ds.length ≤ 1048576) (hm : Bd3 1048576 ms) (hd2 : ds2.length ≤ 1048576) (hm2 : Bd3 1048576 ms2) (hd3 : ds3.length ≤ 1048576) (hm3 : Bd3 1048576 ms3) (hmf : Bd3 1048576 fs) (hmg : Bd3 1048576 gs) :
    Calls Try.prog 60 #[.agg #[.int .i64 p, dv, mv], .agg #[.int .i64 p2, dv2, mv2], .agg #[.int .i64 p3, dv3, mv3], fv, gv] w (AnsS (L3 0) (CfFam p ds ds3 fs gs) [] (cfCode p p2 p3 ds ms ds2 ms2 ds3 ms3 fs gs) w) := by
  obtain ⟨ad, cap, rfl⟩ := Sl.shape h.dims
  obtain ⟨am, capm, rfl⟩ := Sl.shape h.maps
  obtain ⟨ad2, cap2, rfl⟩ := Sl.shape h2.dims
  obtain ⟨am2, capm2, rfl⟩ := Sl.shape h2.maps
  obtain ⟨ad3, cap3, rfl⟩ := Sl.shape h3.dims
  obtain ⟨am3, capm3, rfl⟩ := Sl.shape h3.maps
  obtain ⟨af, cf, rfl⟩ := Sl.shape hf
  obtain ⟨ag, cg, rfl⟩ := Sl.shape hg
  obtain ⟨k1, k2, k3⟩ := bx_three (p := p) (p2 := p2) (p3 := p3) 31 h h2 h3
  have HX0 := Lib.hid k1
  have HY0 := Lib.hid k2
  have HZ0 := Lib.hid k3
  obtain ⟨w1, hw1⟩ : ∃ w1, w1 = (((w.alloc (.cells #[.int .i64 p, .slice ad ds.length cap, .slice am ms.length capm] 31)).alloc (.cells #[.int .i64 p2, .slice ad2 ds2.length cap2, .slice am2 ms2.length capm2] 31)).alloc (.cells #[.int .i64 p3, .slice ad3 ds3.length cap3, .slice am3 ms3.length capm3] 31)) := ⟨_, rfl⟩
  rw [← hw1] at HX0 HY0 HZ0
  have hb01 : Below w.heap.size w w1 := HX0.out.below
  have HF0 := Lib.hid (hf.below hb01)
  have HG0 := Lib.hid (hg.below hb01)
  have HN : Hid (∀ W, Below w1.heap.size w1 W → (Bx w W w.heap.size p (.slice ad ds.length cap) (.slice am ms.length capm) ds ms ∧ Bx w W (w.heap.size + 1) p2 (.slice ad2 ds2.length cap2) (.slice am2 ms2.length capm2) ds2 ms2 ∧ Bx w W (w.heap.size + 2) p3 (.slice ad3 ds3.length cap3) (.slice am3 ms3.length capm3) ds3 ms3) ∧ L3 0 W (.slice af fs.length cf) fs ∧ L3 0 W (.slice ag gs.length cg) gs) := Lib.hid (fun W h => ⟨⟨HX0.out.next h, HY0.out.next h, HZ0.out.next h⟩, HF0.out.below h, HG0.out.below h⟩)
  have HMF := Lib.hid hmf
  have HMG := Lib.hid hmg
  have HE1 := Lib.hid (l04Two_any p p2 _ _ _ _ ds ms ds2 ms2 w1.drew (((HN.out _ (Below.refl _ _)).1.1.cx).below (Below.refl _ _).drew) (((HN.out _ (Below.refl _ _)).1.2.1.cx).below (Below.refl _ _).drew) hd hm hd2 hm2)
  have HE2 : Hid (∀ W, Below w1.heap.size w1 W → Calls Try.prog 123 #[.agg #[.int .i64 p2, .slice ad2 ds2.length cap2, .slice am2 ms2.length capm2], .agg #[.int .i64 p3, .slice ad3 ds3.length cap3, .slice am3 ms3.length capm3]] W (BR (.int .i64 (endCode p2 p3 ds2 ms2 ds3 ms3)) W)) := Lib.hid (fun W hb => l04Two_any p2 p3 _ _ _ _ ds2 ms2 ds3 ms3 W (HN.out _ hb).1.2.1.cx (HN.out _ hb).1.2.2.cx hd2 hm2 hd3 hm3)
  have HO1 := Lib.hid (endCode_le (p := p) (p2 := p2) (ds := ds) (ms := ms) (ds2 := ds2) (ms2 := ms2))
  have HO2 := Lib.hid (endCode_le (p := p2) (p2 := p3) (ds := ds2) (ms := ms2) (ds2 := ds3) (ms2 := ms3))
  obtain ⟨o1, ho1⟩ : ∃ o, o = endCode p p2 ds ms ds2 ms2 := ⟨_, rfl⟩
  obtain ⟨o2, ho2⟩ : ∃ o, o = endCode p2 p3 ds2 ms2 ds3 ms3 := ⟨_, rfl⟩
  rw [← ho1] at HE1 HO1
  rw [← ho2] at HE2 HO2
  have H1 := Lib.hid ho1
  have H2 := Lib.hid ho2
  clear h h2 h3 hf hg hm hm2 hm3 hmf hmg k1 k2 k3 hb01 ho1 ho2
  go_enter Try.func60, Try.ntmps60
  go_upto_region 1 with fail
  rw [← hw1]
  clear hw1
  refine wp_region_held (S := fun W => Below w1.heap.size w1 W) (by kernel_rfl) ?_
  have S0 : Below w1.heap.size w1 w1.drew := (Below.refl _ _).drew
  refine held_take (i := 0) (v := .agg #[.int .i64 p, .slice ad ds.length cap, .slice am ms.length capm]) (some 18) rfl rfl (by kernel_rfl) (by kernel_rfl) (by kernel_rfl) (fun _ _ _ h => h) (yieldsIf_cell (by kernel_rfl) rfl (by kernel_rfl) (fun W h => hload3x (HN.out W h).1.1)) S0 ?_
  refine held_take (i := 1) (v := .agg #[.int .i64 p2, .slice ad2 ds2.length cap2, .slice am2 ms2.length capm2]) (some 19) rfl rfl (by kernel_rfl) (by kernel_rfl) (by kernel_rfl) (fun _ _ _ h => h) (yieldsIf_cell (by kernel_rfl) rfl (by kernel_rfl) (fun W h => hload3x (HN.out W h).1.2.1)) S0 ?_
  refine held_take (i := 3) (v := .agg #[.int .i64 p2, .slice ad2 ds2.length cap2, .slice am2 ms2.length capm2]) (some 21) rfl rfl (by kernel_rfl) (by kernel_rfl) (by kernel_rfl) (fun _ _ _ h => h) (yieldsIf_cell (by kernel_rfl) rfl (by kernel_rfl) (fun W h => hload3x (HN.out W h).1.2.1)) S0 ?_
  refine held_take (i := 4) (v := .agg #[.int .i64 p3, .slice ad3 ds3.length cap3, .slice am3 ms3.length capm3]) (some 22) rfl rfl (by kernel_rfl) (by kernel_rfl) (by kernel_rfl) (fun _ _ _ h => h) (yieldsIf_cell (by kernel_rfl) rfl (by kernel_rfl) (fun W h => hload3x (HN.out W h).1.2.2)) S0 ?_
  refine held_enter (i := 2) (some 20) (f := 123) (args := #[.agg #[.int .i64 p, .slice ad ds.length cap, .slice am ms.length capm], .agg #[.int .i64 p2, .slice ad2 ds2.length cap2, .slice am2 ms2.length capm2]]) (by kernel_rfl) rfl rfl rfl (by kernel_rfl) HE1.out ?_ (fun c w' h => by cases h.1) (fun w' h => by cases h.1)
  rintro eq U1 ⟨heq, hb1⟩
  injection heq with heq
  subst heq
  have S1 : Below w1.heap.size w1 U1 := S0.trans (hb1.mono S0.size)
  refine ⟨S1, ?_⟩
  refine held_enter (i := 5) (some 23) (f := 123) (args := #[.agg #[.int .i64 p2, .slice ad2 ds2.length cap2, .slice am2 ms2.length capm2], .agg #[.int .i64 p3, .slice ad3 ds3.length cap3, .slice am3 ms3.length capm3]]) (by kernel_rfl) rfl rfl rfl (by kernel_rfl) (HE2.out _ S1) ?_ (fun c w' h => by cases h.1) (fun w' h => by cases h.1)
  rintro eq w3 ⟨heq, hb2⟩
  injection heq with heq
  subst heq
  have S2 : Below w1.heap.size w1 w3 := S1.trans (hb2.mono S1.size)
  refine ⟨S2, ?_⟩
  refine held_take (i := 6) (v := .int .i64 o1) (some 12) rfl rfl (by kernel_rfl) (by kernel_rfl) (by kernel_rfl) (fun _ _ _ h => h) (yieldsIf_assign (by kernel_rfl) rfl (by kernel_rfl)) S2 ?_
  refine held_take (i := 7) (v := .int .i64 o2) (some 13) rfl rfl (by kernel_rfl) (by kernel_rfl) (by kernel_rfl) (fun _ _ _ h => h) (yieldsIf_assign (by kernel_rfl) rfl (by kernel_rfl)) S2 ?_
  refine wpAnyH_done (by kernel_rfl) ?_ _
  simp only [Act.put, List.setIfInBounds_toArray, List.set_cons_zero, List.set_cons_succ]
  have HB3 := Lib.hid S2
  have HH3 := Lib.hid (HN.out _ HB3.out)
  clear S0 S1 S2 hb1 hb2 HE1 HE2 HX0 HY0 HZ0
  rcases HO1.out with e1 | e1 | e1
  · rcases HO2.out with e2 | e2 | e2
    · subst e1
      subst e2
      have hO : Ok3 p p2 p3 ds ms ds2 ms2 ds3 ms3 := ⟨endCode_zero H1.out.symm, endCode_zero H2.out.symm⟩
      have HEC := Lib.hid hO.code
      have hpp := hO.xy.prime
      subst hpp
      have hpp := hO.yz.prime
      subst hpp
      have HCX := Lib.hid hO.xy.x
      have HCY := Lib.hid hO.xy.y
      have HCZ := Lib.hid hO.yz.y
      have hll := Lib.hid hO.xy.len
      have hl6 := hO.xy.x.1.len1
      have HFM := Lib.hid (l04Family_any p p 0 _ _ _ _ _ ds ms ds2 ms2 fs w3 HH3.out.1.1.cx HH3.out.1.2.1.cx HH3.out.2.1 hO.xy.x hO.xy.y (by omega) HMF.out)
      clear hO
      have c0 := (HH3.out).1.1.c0
      have c1 := (HH3.out).1.1.c1
      have c2 := (HH3.out).1.1.c2
      have d0 := (HH3.out).1.2.1.c0
      have d1 := (HH3.out).1.2.1.c1
      have d2 := (HH3.out).1.2.1.c2
      have e0 := (HH3.out).1.2.2.c0
      have e1 := (HH3.out).1.2.2.c1
      have e2 := (HH3.out).1.2.2.c2
      by_cases hof : FamOk p ds ds2 0 fs
      · have HOF := Lib.hid hof
        go_wp2_with fail
        refine HFM.out.mono ?_
        rintro e w4 ⟨bb, rfl, hb, hbb⟩
        obtain rfl : bb = true := hbb.2 hof
        have HB4 := Lib.hid (HB3.out.trans (hb.mono HB3.out.size))
        clear c0 c1 c2 d0 d1 d2 e0 e1 e2 hb hbb hof HFM
        have HH4 := Lib.hid (HN.out _ HB4.out)
        have HGM := Lib.hid (l04Family_any p p 0 _ _ _ _ _ ds2 ms2 ds3 ms3 gs w4 HH4.out.1.2.1.cx HH4.out.1.2.2.cx HH4.out.2.2 HCY.out HCZ.out (by omega) HMG.out)
        have c0 := (HH4.out).1.1.c0
        have c1 := (HH4.out).1.1.c1
        have c2 := (HH4.out).1.1.c2
        have d0 := (HH4.out).1.2.1.c0
        have d1 := (HH4.out).1.2.1.c1
        have d2 := (HH4.out).1.2.1.c2
        have e0 := (HH4.out).1.2.2.c0
        have e1 := (HH4.out).1.2.2.c1
        have e2 := (HH4.out).1.2.2.c2
        by_cases hog : FamOk p ds2 ds3 0 gs
        · have HOG := Lib.hid hog
          have HC0 : Hid (cfCode p p p ds ms ds2 ms2 ds3 ms3 fs gs = 0) := Lib.hid (by unfold cfCode; rw [if_pos HEC.out, if_pos ⟨HOF.out, hog⟩])
          go_wp2_with fail
          refine HGM.out.mono ?_
          rintro e w5 ⟨bb, rfl, hb, hbb⟩
          obtain rfl : bb = true := hbb.2 hog
          have HB5 := Lib.hid (HB4.out.trans (hb.mono HB4.out.size))
          clear c0 c1 c2 d0 d1 d2 e0 e1 e2 hb hbb hog HGM
          have HFL : Hid (fs.length = ds.length) := Lib.hid HOF.out.1
          have H6 := Lib.hid (fam_fs6 HCX.out HCY.out HOF.out)
          have HT0 := Lib.hid (Gt.new (base := w5.heap.size) w5 (Nat.le_refl _))
          have h15 : w1.heap.size ≤ w5.heap.size := HB5.out.size
          go_wp2
          go_loopw [14, 15, 16, 17] (fun ov i _ _ wr => ∃ (n : Nat) (ao : Option Addr) (co : Nat), n ≤ fs.length ∧ ov = .slice ao n co ∧ i = .int .i64 n ∧ Hid (Below w5.heap.size w5 wr) ∧ Hid (Gt w5.heap.size wr ov (famL n (rsF ds) (csF ds3 0) (cfZ p ds3 fs gs)))) (fun _ i _ _ _ => fs.length - (intOf i).toNat)
          case atStart => exact ⟨0, _, _, Nat.zero_le _, rfl, rfl, Lib.hid (below_alloc1 _ _), Lib.hid (by simpa [famL] using HT0.out)⟩
          case round =>
            clear HT0
            obtain ⟨n, ao, co, hn, rfl, rfl, HB, HGT⟩ := hrel
            obtain ⟨wx, hwx⟩ : ∃ wx : World, wx = wr := ⟨_, rfl⟩
            subst hwx
            have h5x : w5.heap.size ≤ wx.heap.size := HB.out.size
            have h1x : w1.heap.size ≤ wx.heap.size := Nat.le_trans h15 h5x
            have HB1X : Hid (Below w1.heap.size w1 wx) := Lib.hid (HB5.out.trans (HB.out.mono h15))
            by_cases hltm : n < fs.length
            · have hltd : n < ds.length := by have := HFL.out; omega
              obtain ⟨bf, of, cf', at', ct, e1, F1, F1L⟩ := H6.out.tab (HN.out _ (Below.refl _ _)).2.1 hltd
              obtain ⟨e2, e4, e3⟩ := slice_some e1
              clear e4
              subst e2 e3
              have F1H := Lib.hid F1L
              obtain ⟨r, hr⟩ : ∃ r, r = rsF ds n := ⟨_, rfl⟩
              have HR := Lib.hid hr
              have hr8 : r ≤ 8 := by rw [hr]; simp only [rsF]; have := HCX.out.1.dim n; omega
              rw [← hr] at F1 F1H
              have F1c := Lib.hid F1
              have f1 := later HB1X.out (Nat.le_refl _) F1
              have HS0 := Lib.hid (Gs.new (base := wx.heap.size) wx (Nat.le_refl _))
              clear e1 F1L F1 hr
              go_wp2
              clear f1
              go_loopw [16, 17] (fun tv i wr => ∃ (j : Nat) (a2 : Option Addr) (c2 : Nat), j ≤ r ∧ tv = .slice a2 j c2 ∧ i = .int .i64 j ∧ Hid (Below wx.heap.size wx wr) ∧ Hid (Gs wx.heap.size wr tv (tableOf (j) (csF ds3 0 n) (cfZ p ds3 fs gs n)))) (fun _ i _ => r - (intOf i).toNat)
              case atStart => exact ⟨0, _, _, Nat.zero_le _, rfl, rfl, Lib.hid (below_alloc1 _ _), Lib.hid (by simpa [tableOf] using HS0.out)⟩
              case round =>
                clear HS0
                obtain ⟨i, a2, c2, hi, rfl, rfl, HBY, HGS⟩ := hrel
                obtain ⟨wy, hwy'⟩ : ∃ wy : World, wy = wr := ⟨_, rfl⟩
                subst hwy'
                have hxy : wx.heap.size ≤ wy.heap.size := HBY.out.size
                have HB5Y : Hid (Below w5.heap.size w5 wy) := Lib.hid (HB.out.trans (HBY.out.mono HB.out.size))
                have HBW : Hid (Below w1.heap.size w1 wy) := Lib.hid (HB5.out.trans (HB5Y.out.mono h15))
                have f1 := later HBW.out (Nat.le_refl _) F1c.out
                have HQL : Hid ((tableOf (i) (csF ds3 0 n) (cfZ p ds3 fs gs n)).length = i) := Lib.hid (by simp [tableOf])
                by_cases hlti : i < r
                · obtain ⟨bt, ot, ct', ar, cr, e1, F2, F2L⟩ := H6.out.row hltd F1H.out (by rw [← HR.out]; exact hlti)
                  rw [← HR.out] at e1
                  obtain ⟨e2, _, e3⟩ := slice_some e1
                  subst e2 e3
                  obtain ⟨c, hc⟩ : ∃ c, c = csF ds2 0 n := ⟨_, rfl⟩
                  rw [← hc] at F2 F2L
                  have F2H := Lib.hid F2L
                  have F2c := Lib.hid F2
                  have hap := cf_ap HCX.out HCY.out HCZ.out hll.out HOF.out HOG.out hltd (by rw [← HR.out]; exact hlti)
                  have HAP := Lib.hid hap.1
                  have hvl := (fam_vec HCX.out HCY.out HOF.out hltd (by rw [← HR.out]; exact hlti)).1
                  have hc8 : c ≤ 8 := by rw [hc]; simp only [csF]; have := dimZ_8 HCY.out ((n : Int) + 0); omega
                  have HIM : Hid (∀ W, Below w1.heap.size w1 W → Calls Try.prog 119 #[.agg #[.int .i64 p, .slice ad2 ds2.length cap2, .slice am2 ms2.length capm2], .agg #[.int .i64 p, .slice ad3 ds3.length cap3, .slice am3 ms3.length capm3], .slice ag gs.length cg, .int .i64 (n : Int), .int .i64 0, .slice ar c cr] W (ApG p (csF ds3 0 n) ((fs.getD n []).getD i []) (gs.getD n []) W)) := Lib.hid (fun W hb => l04Image_any p p 0 n (csF ds3 0 n) _ _ _ _ _ _ ds2 ms2 ds3 ms3 gs ((fs.getD n []).getD i []) W (HN.out _ hb).1.2.1.cx (HN.out _ hb).1.2.2.cx (HN.out _ hb).2.2 (F2H.out.below hb) HCZ.out hap.2.1 (by omega) (by omega) (by rw [Int.add_zero]; exact hap.2.2) hap.1 (by rw [hvl, ← hc]; omega))
                  have HTE : Hid (tableOf (i + 1) (csF ds3 0 n) (cfZ p ds3 fs gs n) = tableOf (i) (csF ds3 0 n) (cfZ p ds3 fs gs n) ++ [apT p (csF ds3 0 n) ((fs.getD n []).getD i []) (gs.getD n [])]) := Lib.hid (by
                    have e : tableOf (i + 1) (csF ds3 0 n) (cfZ p ds3 fs gs n) = tableOf i (csF ds3 0 n) (cfZ p ds3 fs gs n) ++ [(List.range (csF ds3 0 n)).map (cfZ p ds3 fs gs n i)] := by simp [tableOf, List.range_succ]
                    rw [e]
                    congr 2
                    have hl := apT_length' hap.1
                    refine List.ext_getElem (by rw [List.length_map, List.length_range, hl]) fun q h1 h2 => ?_
                    simp only [List.getElem_map, List.getElem_range, cfZ]
                    exact getD_of_lt 0 h2)
                  clear e1 F2 F2L hap hvl hc
                  go_upto_region 14 with fail
                  have f1 := F1c.out
                  have f2 := F2c.out
                  have S0 : Below w1.heap.size w1 wy.drew := HBW.out.drew
                  refine wp_region_held (S := fun W => Below w1.heap.size w1 W) (by kernel_rfl) ?_
                  refine held_take (i := 0) (v := .slice a2 i c2) (some 69) rfl rfl (by kernel_rfl) (by kernel_rfl) (by kernel_rfl) (fun _ _ _ h => h) (yieldsIf_move (by kernel_rfl) rfl (by kernel_rfl)) S0 ?_
                  refine held_take (i := 1) (v := .agg #[.int .i64 p, .slice ad2 ds2.length cap2, .slice am2 ms2.length capm2]) (some 70) rfl rfl (by kernel_rfl) (by kernel_rfl) (by kernel_rfl) (fun _ _ _ h => h) (yieldsIf_cell (by kernel_rfl) rfl (by kernel_rfl) (fun W h => hload3x (HN.out W h).1.2.1)) S0 ?_
                  refine held_take (i := 2) (v := .agg #[.int .i64 p, .slice ad3 ds3.length cap3, .slice am3 ms3.length capm3]) (some 71) rfl rfl (by kernel_rfl) (by kernel_rfl) (by kernel_rfl) (fun _ _ _ h => h) (yieldsIf_cell (by kernel_rfl) rfl (by kernel_rfl) (fun W h => hload3x (HN.out W h).1.2.2)) S0 ?_
                  refine held_take (i := 3) (v := .slice ag gs.length cg) (some 72) rfl rfl (by kernel_rfl) (by kernel_rfl) (by kernel_rfl) (fun _ _ _ h => h) (yieldsIf_move (by kernel_rfl) rfl (by kernel_rfl)) S0 ?_
                  refine held_take (i := 4) (v := .int .i64 (n : Int)) (some 73) rfl rfl (by kernel_rfl) (by kernel_rfl) (by kernel_rfl) (fun _ _ _ h => h) (yieldsIf_move (by kernel_rfl) rfl (by kernel_rfl)) S0 ?_
                  refine held_take (i := 5) (v := .slice (some ⟨bf, of, none⟩) fs.length cf) (some 74) rfl rfl (by kernel_rfl) (by kernel_rfl) (by kernel_rfl) (fun _ _ _ h => h) (yieldsIf_move (by kernel_rfl) rfl (by kernel_rfl)) S0 ?_
                  refine held_take (i := 6) (v := .int .i64 (n : Int)) (some 75) rfl rfl (by kernel_rfl) (by kernel_rfl) (by kernel_rfl) (fun _ _ _ h => h) (yieldsIf_move (by kernel_rfl) rfl (by kernel_rfl)) S0 ?_
                  refine held_take (i := 7) (v := .pointer (some ⟨bf, of + n, none⟩)) (some 76) rfl rfl (by kernel_rfl) (by kernel_rfl) (by kernel_rfl) (fun _ _ _ h => h) (yieldsIf_index (by kernel_rfl) rfl (by kernel_rfl) (by kernel_rfl) (hidxU bf of cf hltm)) S0 ?_
                  refine held_take (i := 8) (v := .slice (some ⟨bt, ot, none⟩) r ct) (some 77) rfl rfl (by kernel_rfl) (by kernel_rfl) (by kernel_rfl) (fun _ _ _ h => h) (yieldsIf_cell (by kernel_rfl) rfl (by kernel_rfl) (fun W h => hloadSS W (later h (Nat.le_refl _) f1))) S0 ?_
                  refine held_take (i := 9) (v := .int .i64 (i : Int)) (some 78) rfl rfl (by kernel_rfl) (by kernel_rfl) (by kernel_rfl) (fun _ _ _ h => h) (yieldsIf_move (by kernel_rfl) rfl (by kernel_rfl)) S0 ?_
                  refine held_take (i := 10) (v := .pointer (some ⟨bt, ot + i, none⟩)) (some 79) rfl rfl (by kernel_rfl) (by kernel_rfl) (by kernel_rfl) (fun _ _ _ h => h) (yieldsIf_index (by kernel_rfl) rfl (by kernel_rfl) (by kernel_rfl) (hidxS bt ot ct hlti)) S0 ?_
                  refine held_take (i := 11) (v := .slice ar c cr) (some 80) rfl rfl (by kernel_rfl) (by kernel_rfl) (by kernel_rfl) (fun _ _ _ h => h) (yieldsIf_cell (by kernel_rfl) rfl (by kernel_rfl) (fun W h => hloadS W (later h (Nat.le_refl _) f2))) S0 ?_
                  refine held_enter (i := 12) (some 81) (f := 119) (args := #[.agg #[.int .i64 p, .slice ad2 ds2.length cap2, .slice am2 ms2.length capm2], .agg #[.int .i64 p, .slice ad3 ds3.length cap3, .slice am3 ms3.length capm3], .slice ag gs.length cg, .int .i64 (n : Int), .int .i64 0, .slice ar c cr]) (by kernel_rfl) rfl rfl rfl (by kernel_rfl) (HIM.out _ S0) ?_ (fun c w' h => by obtain ⟨_, h, _⟩ := h; cases h) (fun w' h => by obtain ⟨_, h, _⟩ := h; cases h)
                  rintro eq U1 ⟨u1, heq, hg1, hb1⟩
                  injection heq with heq
                  subst heq
                  have S1 : Below w1.heap.size w1 U1 := S0.trans (hb1.mono S0.size)
                  refine ⟨S1, ?_⟩
                  obtain ⟨au, cu, hus⟩ := Sl.shape hg1.l1
                  obtain ⟨lu, hlu⟩ : ∃ l, l = (apT p (csF ds3 0 n) ((fs.getD n []).getD i []) (gs.getD n [])).length := ⟨_, rfl⟩
                  rw [← hlu] at hus
                  subst hus
                  obtain ⟨we, hwe⟩ : ∃ we, we = U1.alloc (.cells #[.slice au lu cu] 22) := ⟨_, rfl⟩
                  have hbe : Below U1.heap.size U1 we := by rw [hwe]; exact below_alloc1 _ _
                  have hve : we.cell? ⟨U1.heap.size, 0, none⟩ = some (.slice au lu cu) := by rw [hwe]; exact cell_alloc1 _ _ _
                  have S2 : Below w1.heap.size w1 we := S1.trans (hbe.mono S1.size)
                  refine held_mem (i := 13) (v := .slice (some ⟨U1.heap.size, 0, none⟩) 1 1) (w' := we) (some 82) (by kernel_rfl) rfl rfl rfl (by rw [hwe]; go_simp) S2 ?_
                  simp only [Act.put, List.setIfInBounds_toArray, List.set_cons_zero, List.set_cons_succ]
                  have HSE := Lib.hid (((HGS.out.below (Below.refl wy.heap.size wy).drew).below hb1).below hbe)
                  have HGE := Lib.hid (hg1.below hbe)
                  have hsz2 : wx.heap.size ≤ we.heap.size := Nat.le_trans HBY.out.size (Nat.le_trans hb1.size hbe.size)
                  refine held_call (i := 14) (by kernel_rfl) rfl rfl ?_
                  refine wp_appendGs (some 83) rfl (.tmp 69) (.tmp 82) rfl wx.heap.size (.slice a2 i c2) (tableOf (i) (csF ds3 0 n) (cfZ p ds3 fs gs n)) (by kernel_rfl) HSE.out U1.heap.size (by kernel_rfl) au lu cu hve _ HGE.out (by rw [HQL.out]; omega) hsz2 ?_
                  rw [HQL.out]
                  intro g9 c9 w9 hn9 hgw
                  have hbw := (Below.refl wx.heap.size we).grown hgw hsz2 (fun g hg => (HSE.out.lt g hg).1)
                  have S3 : Below w1.heap.size w1 w9 := S2.trans (hbw.mono h1x)
                  refine ⟨S3, ?_⟩
                  refine held_take (i := 15) (v := .slice (some ⟨g9, 0, none⟩) (i + 1) c9) (some 16) rfl rfl (by kernel_rfl) (by kernel_rfl) (by kernel_rfl) (fun _ _ _ h => h) (yieldsIf_assign (by kernel_rfl) rfl (by kernel_rfl)) S3 ?_
                  refine wpAnyH_done (by kernel_rfl) ?_ _
                  simp only [Act.put, List.setIfInBounds_toArray, List.set_cons_zero, List.set_cons_succ]
                  have HS9 : Hid (Gs wx.heap.size w9 (.slice (some ⟨g9, 0, none⟩) (i + 1) c9) (tableOf (i + 1) (csF ds3 0 n) (cfZ p ds3 fs gs n))) := Lib.hid (by rw [HTE.out]; exact hn9)
                  have HB9 : Hid (Below wx.heap.size wx w9) := Lib.hid ((HBY.out.trans ((Below.refl wy.heap.size wy).drew.mono HBY.out.size)).trans (((hb1.mono HBY.out.size).trans (hbe.mono (Nat.le_trans HBY.out.size hb1.size))).trans hbw))
                  clear hn9 hgw hbw S0 S1 S2 S3 hve hbe hwe f1 f2 hsz2 hg1 hb1 hlu
                  go_wp2
                  go_roundw
                  case rel => first | exact ⟨i + 1, _, _, by omega, rfl, by go_num, HB9, HS9⟩ | ((repeat apply Exists.intro); exact ⟨⟨i + 1, _, _, by omega, rfl, by go_num, HB9, HS9⟩, rfl⟩)
                  case measure => simp [intOf]; omega
                · have hir : Hid (i = r) := Lib.hid (by omega)
                  have HTB : Hid (Gs wx.heap.size wy (.slice a2 i c2) (tableOf (rsF ds n) (csF ds3 0 n) (cfZ p ds3 fs gs n))) := Lib.hid (by have := HGS.out; rw [← HR.out]; rw [hir.out] at this ⊢; exact this)
                  have hba : Below wy.heap.size wy (wy.alloc (.cells #[.slice a2 i c2] 26)) := below_alloc1 _ _
                  have HGL := Lib.hid ((HGT.out.below HBY.out).below hba)
                  have HGU : Hid (Gs 0 (wy.alloc (.cells #[.slice a2 i c2] 26)) (.slice a2 i c2) (tableOf (rsF ds n) (csF ds3 0 n) (cfZ p ds3 fs gs n))) := Lib.hid ((HTB.out.below hba).mono (Nat.zero_le _))
                  have HBZ := Lib.hid (HB5Y.out.trans (hba.mono HB5Y.out.size))
                  have hcell := cell_alloc1 wy (.slice a2 i c2) 26
                  have HGN : Hid ((famL n (rsF ds) (csF ds3 0) (cfZ p ds3 fs gs)).length = n) := Lib.hid (famL_length _ _ _ _)
                  have hszv : w5.heap.size ≤ (wy.alloc (.cells #[.slice a2 i c2] 26)).heap.size := HBZ.out.size
                  clear hba HGS HTB
                  go_wp2_with (at_builtin; refine wpList_appendT3 rfl (some 87) rfl (.tmp 84) (.tmp 86) rfl w5.heap.size _ (famL n (rsF ds) (csF ds3 0) (cfZ p ds3 fs gs)) rfl HGL.out wy.heap.size rfl a2 i c2 hcell _ HGU.out ?c1 ?c2 ?_)
                  case c1 => rw [HGN.out]; omega
                  case c2 => first | exact hszv | (simp; omega) | omega
                  intro v7 W7 hg7 hgr7
                  have HG7 : Hid (Gt w5.heap.size W7 v7 (famL (n + 1) (rsF ds) (csF ds3 0) (cfZ p ds3 fs gs))) := Lib.hid (by rw [famL_succ]; exact hg7)
                  have HB7 : Hid (Below w5.heap.size w5 W7) := Lib.hid (HBZ.out.grown hgr7 hszv (fun g hg => (HGL.out.lt g hg).1))
                  obtain ⟨a7, c7, hs7⟩ := Sl.shape HG7.out.l3
                  rw [famL_length] at hs7
                  subst hs7
                  clear hg7 hgr7 hcell f1 hszv
                  go_wp2
                  go_roundw
                  case rel => first | exact ⟨n + 1, _, _, by omega, rfl, by go_num, HB7, HG7⟩ | ((repeat apply Exists.intro); exact ⟨⟨n + 1, _, _, by omega, rfl, by go_num, HB7, HG7⟩, rfl⟩)
                  case measure => simp [intOf]; omega
            · have HKE : Hid (n = ds.length) := Lib.hid (by have := HFL.out; omega)
              have HXX := Lib.hid (HN.out _ HB1X.out)
              have HRF : Hid (L3 0 wx (.slice ao n co) (famL ds.length (rsF ds) (csF ds3 0) (cfZ p ds3 fs gs))) := Lib.hid (by have := HGT.out.l3; rw [HKE.out] at this ⊢; exact this)
              go_wp2
              go_ret2
              exact ⟨_, _, 0, rfl, HRF.out, HXX.out.1.1.below, RsOut.of_yes HC0.out rfl⟩
        · have HC0 : Hid (cfCode p p p ds ms ds2 ms2 ds3 ms3 fs gs = 2) := Lib.hid (by unfold cfCode; rw [if_pos HEC.out, if_neg (fun hh => hog hh.2)])
          go_wp2_with fail
          refine HGM.out.mono ?_
          rintro e w5 ⟨bb, rfl, hb, hbb⟩
          obtain rfl : bb = false := bb_no hbb hog
          have HB5 := Lib.hid (HB4.out.trans (hb.mono HB4.out.size))
          clear c0 c1 c2 d0 d1 d2 e0 e1 e2 hb hbb hog HGM
          have HH5 := Lib.hid (HN.out _ HB5.out)
          go_wp2
          go_ret2
          refine ⟨_, [], 2, rfl, Or.inl ⟨rfl, _, _, rfl⟩, HH5.out.1.1.below, ?_⟩
          rw [HC0.out]
          exact RsOut.of_no (by decide)
      · have HC0 : Hid (cfCode p p p ds ms ds2 ms2 ds3 ms3 fs gs = 2) := Lib.hid (by unfold cfCode; rw [if_pos HEC.out, if_neg (fun hh => hof hh.1)])
        go_wp2_with fail
        refine HFM.out.mono ?_
        rintro e w4 ⟨bb, rfl, hb, hbb⟩
        obtain rfl : bb = false := bb_no hbb hof
        have HB4 := Lib.hid (HB3.out.trans (hb.mono HB3.out.size))
        clear c0 c1 c2 d0 d1 d2 e0 e1 e2 hb hbb hof HFM
        have HH4 := Lib.hid (HN.out _ HB4.out)
        go_wp2
        go_ret2
        refine ⟨_, [], 2, rfl, Or.inl ⟨rfl, _, _, rfl⟩, HH4.out.1.1.below, ?_⟩
        rw [HC0.out]
        exact RsOut.of_no (by decide)
    · subst e1
      subst e2
      have HC0 : Hid (cfCode p p2 p3 ds ms ds2 ms2 ds3 ms3 fs gs = 1) := Lib.hid (cf_of (code3_no (fun hh => endCode_one.1 H2.out.symm ⟨hh.2.1, hh.2.2⟩)) (by decide))
      go_wp2
      go_ret2
      refine ⟨_, [], 1, rfl, Or.inl ⟨rfl, _, _, rfl⟩, HH3.out.1.1.below, ?_⟩
      rw [HC0.out]
      exact RsOut.of_no (by decide)
    · subst e1
      subst e2
      have hc1 : IsCx p ds ms ∧ IsCx p2 ds2 ms2 := Classical.byContradiction (fun hh => by have := endCode_one.2 hh; rw [← H1.out] at this; cases this)
      have hc2 : IsCx p2 ds2 ms2 ∧ IsCx p3 ds3 ms3 := Classical.byContradiction (fun hh => by have := endCode_one.2 hh; rw [← H2.out] at this; cases this)
      have HC0 : Hid (cfCode p p2 p3 ds ms ds2 ms2 ds3 ms3 fs gs = 2) := Lib.hid (cf_of (code3_two ⟨hc1.1, hc1.2, hc2.2⟩ (fun hh => by have := hh.yz.code; rw [← H2.out] at this; cases this)) (by decide))
      clear hc1 hc2
      go_wp2
      go_ret2
      refine ⟨_, [], 2, rfl, Or.inl ⟨rfl, _, _, rfl⟩, HH3.out.1.1.below, ?_⟩
      rw [HC0.out]
      exact RsOut.of_no (by decide)
  · rcases HO2.out with e2 | e2 | e2
    · subst e1
      subst e2
      have HC0 : Hid (cfCode p p2 p3 ds ms ds2 ms2 ds3 ms3 fs gs = 1) := Lib.hid (cf_of (code3_no (fun hh => endCode_one.1 H1.out.symm ⟨hh.1, hh.2.1⟩)) (by decide))
      go_wp2
      go_ret2
      refine ⟨_, [], 1, rfl, Or.inl ⟨rfl, _, _, rfl⟩, HH3.out.1.1.below, ?_⟩
      rw [HC0.out]
      exact RsOut.of_no (by decide)
    · subst e1
      subst e2
      have HC0 : Hid (cfCode p p2 p3 ds ms ds2 ms2 ds3 ms3 fs gs = 1) := Lib.hid (cf_of (code3_no (fun hh => endCode_one.1 H1.out.symm ⟨hh.1, hh.2.1⟩)) (by decide))
      go_wp2
      go_ret2
      refine ⟨_, [], 1, rfl, Or.inl ⟨rfl, _, _, rfl⟩, HH3.out.1.1.below, ?_⟩
      rw [HC0.out]
      exact RsOut.of_no (by decide)
    · subst e1
      subst e2
      have HC0 : Hid (cfCode p p2 p3 ds ms ds2 ms2 ds3 ms3 fs gs = 1) := Lib.hid (cf_of (code3_no (fun hh => endCode_one.1 H1.out.symm ⟨hh.1, hh.2.1⟩)) (by decide))
      go_wp2
      go_ret2
      refine ⟨_, [], 1, rfl, Or.inl ⟨rfl, _, _, rfl⟩, HH3.out.1.1.below, ?_⟩
      rw [HC0.out]
      exact RsOut.of_no (by decide)
  · rcases HO2.out with e2 | e2 | e2
    · subst e1
      subst e2
      have hc1 : IsCx p ds ms ∧ IsCx p2 ds2 ms2 := Classical.byContradiction (fun hh => by have := endCode_one.2 hh; rw [← H1.out] at this; cases this)
      have hc2 : IsCx p2 ds2 ms2 ∧ IsCx p3 ds3 ms3 := Classical.byContradiction (fun hh => by have := endCode_one.2 hh; rw [← H2.out] at this; cases this)
      have HC0 : Hid (cfCode p p2 p3 ds ms ds2 ms2 ds3 ms3 fs gs = 2) := Lib.hid (cf_of (code3_two ⟨hc1.1, hc1.2, hc2.2⟩ (fun hh => by have := hh.xy.code; rw [← H1.out] at this; cases this)) (by decide))
      clear hc1 hc2
      go_wp2
      go_ret2
      refine ⟨_, [], 2, rfl, Or.inl ⟨rfl, _, _, rfl⟩, HH3.out.1.1.below, ?_⟩
      rw [HC0.out]
      exact RsOut.of_no (by decide)
    · subst e1
      subst e2
      have HC0 : Hid (cfCode p p2 p3 ds ms ds2 ms2 ds3 ms3 fs gs = 1) := Lib.hid (cf_of (code3_no (fun hh => endCode_one.1 H2.out.symm ⟨hh.2.1, hh.2.2⟩)) (by decide))
      go_wp2
      go_ret2
      refine ⟨_, [], 1, rfl, Or.inl ⟨rfl, _, _, rfl⟩, HH3.out.1.1.below, ?_⟩
      rw [HC0.out]
      exact RsOut.of_no (by decide)
    · subst e1
      subst e2
      have hc1 : IsCx p ds ms ∧ IsCx p2 ds2 ms2 := Classical.byContradiction (fun hh => by have := endCode_one.2 hh; rw [← H1.out] at this; cases this)
      have hc2 : IsCx p2 ds2 ms2 ∧ IsCx p3 ds3 ms3 := Classical.byContradiction (fun hh => by have := endCode_one.2 hh; rw [← H2.out] at this; cases this)
      have HC0 : Hid (cfCode p p2 p3 ds ms ds2 ms2 ds3 ms3 fs gs = 2) := Lib.hid (cf_of (code3_two ⟨hc1.1, hc1.2, hc2.2⟩ (fun hh => by have := hh.xy.code; rw [← H1.out] at this; cases this)) (by decide))
      clear hc1 hc2
      go_wp2
      go_ret2
      refine ⟨_, [], 2, rfl, Or.inl ⟨rfl, _, _, rfl⟩, HH3.out.1.1.below, ?_⟩
      rw [HC0.out]
      exact RsOut.of_no (by decide)
end Go.Proofs.Ytpdkfidmmjlmnab
