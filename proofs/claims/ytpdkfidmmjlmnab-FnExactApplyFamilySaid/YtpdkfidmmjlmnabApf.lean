/-
  ApplyFamily of both sides by contracts.
-/
import Derived.Test.YtpdkfidmmjlmnabApw
import Derived.Test.YtpdkfidmmjlmnabFaS
import Derived.StillTailTactics
namespace Go.Proofs.Ytpdkfidmmjlmnab
open Go.RowKit

theorem fam_ap {p s : Int} {ds ds2 : List Int} {fs : List (List (List Int))} {vs : List Int} {n c2 : Nat} (hp : IsP p) (hF : FamOk p ds ds2 s fs) (hn : n < ds.length) (hv : RowOk p (ds.getD n 0) vs) (hc2 : dimZ ds2 ((n : Int) + s) = (c2 : Int)) : ApOk p c2 vs (fs.getD n []) ∧ n < fs.length := by
  have hnf : n < fs.length := by rw [hF.1]; exact hn
  have ht := hF.2 n hnf
  rw [hc2] at ht
  refine ⟨⟨hp, ?_, hv.2, ht.2⟩, hnf⟩
  have h1 := ht.1
  have h2 := hv.1
  omega

set_option maxHeartbeats 1600000 in
set_option maxRecDepth 100000 in
theorem l04Code1_any (p p2 : Int) (b : Nat) (dv mv dv2 mv2 fv : Value) (ds : List Int) (ms : List (List (List Int))) (ds2 : List Int) (ms2 : List (List (List Int))) (fs : List (List (List Int))) (w : World) (h : Cx 0 w dv mv ds ms) (h2 : Cx 0 w dv2 mv2 ds2 ms2) (hf : L3 0 w fv fs) (hr : w.cell? ⟨b, 0, none⟩ = some fv) (hd : ds.length ≤ 1048576) (hm : Bd3 1048576 ms) (hd2 : ds2.length ≤ 1048576) (hm2 : Bd3 1048576 ms2) (hmf : Bd3 1048576 fs) :
    Calls Try.prog 116 #[.agg #[.int .i64 p, dv, mv], .agg #[.int .i64 p2, dv2, mv2], .slice (some ⟨b, 0, none⟩) 1 1] w (BR (.int .i64 (famCode p p2 0 ds ms ds2 ms2 fs)) w) := by
  obtain ⟨ad, cap, rfl⟩ := Sl.shape h.dims
  obtain ⟨am, capm, rfl⟩ := Sl.shape h.maps
  obtain ⟨ad2, cap2, rfl⟩ := Sl.shape h2.dims
  obtain ⟨am2, capm2, rfl⟩ := Sl.shape h2.maps
  obtain ⟨af, cf, rfl⟩ := Sl.shape hf
  obtain ⟨k1, k2⟩ := bx_two (p := p) (p2 := p2) 31 h h2
  have HX0 := Lib.hid k1
  have HY0 := Lib.hid k2
  obtain ⟨w1, hw1⟩ : ∃ w1, w1 = ((w.alloc (.cells #[.int .i64 p, .slice ad ds.length cap, .slice am ms.length capm] 31)).alloc (.cells #[.int .i64 p2, .slice ad2 ds2.length cap2, .slice am2 ms2.length capm2] 31)) := ⟨_, rfl⟩
  rw [← hw1] at HX0 HY0
  have hb01 : Below w.heap.size w w1 := HX0.out.below
  have HF0 := Lib.hid (hf.below hb01)
  have HNX : Hid (∀ W, Below w1.heap.size w1 W → Bx w W w.heap.size p (.slice ad ds.length cap) (.slice am ms.length capm) ds ms) := Lib.hid (fun W h => HX0.out.next h)
  have HNY : Hid (∀ W, Below w1.heap.size w1 W → Bx w W (w.heap.size + 1) p2 (.slice ad2 ds2.length cap2) (.slice am2 ms2.length capm2) ds2 ms2) := Lib.hid (fun W h => HY0.out.next h)
  have HMF := Lib.hid hmf
  have HR1 := Lib.hid (later hb01 (Nat.le_refl _) hr)
  have c0 := HX0.out.c0
  have c1 := HX0.out.c1
  have c2 := HX0.out.c2
  have d0 := HY0.out.c0
  have d1 := HY0.out.c1
  have d2 := HY0.out.c2
  have HCK := Lib.hid (l04Two_any p p2 _ _ _ _ ds ms ds2 ms2 w1 HX0.out.cx HY0.out.cx hd hm hd2 hm2)
  obtain ⟨ec, hec⟩ : ∃ ec, ec = endCode p p2 ds ms ds2 ms2 := ⟨_, rfl⟩
  rw [← hec] at HCK
  have HEC := Lib.hid hec
  clear h h2 hf hm hm2 hmf k1 k2 hr hb01 hec
  go_enter Try.func116, Try.ntmps116
  go_upto_region 1 with fail
  rw [← hw1]
  clear hw1
  go_wp2_with fail
  refine HCK.out.mono ?_
  rintro e w3 ⟨rfl, hb3⟩
  have HB3 := Lib.hid hb3
  have HX3 := Lib.hid (HNX.out _ HB3.out)
  have HY3 := Lib.hid (HNY.out _ HB3.out)
  clear hb3 c0 c1 c2 d0 d1 d2 HX0 HY0 HCK
  by_cases h0 : ec = 0
  · subst h0
    have hE := endCode_zero HEC.out.symm
    have HE := Lib.hid hE
    have c0 := HX3.out.c0
    have c1 := HX3.out.c1
    have c2 := HX3.out.c2
    have d0 := HY3.out.c0
    have d1 := HY3.out.c1
    have d2 := HY3.out.c2
    have hr3 := later HB3.out (Nat.le_refl _) HR1.out
    have HSP : Hid (∀ W, Below w3.heap.size w3 W → W.cell? ⟨b, 0, none⟩ = some (.slice af fs.length cf) ∧ W.cell? ⟨w.heap.size, 0, none⟩ = some (.int .i64 p) ∧ W.cell? ⟨w.heap.size, 1, none⟩ = some (.slice ad ds.length cap) ∧ W.cell? ⟨w.heap.size, 2, none⟩ = some (.slice am ms.length capm) ∧ W.cell? ⟨w.heap.size + 1, 0, none⟩ = some (.int .i64 p2) ∧ W.cell? ⟨w.heap.size + 1, 1, none⟩ = some (.slice ad2 ds2.length cap2) ∧ W.cell? ⟨w.heap.size + 1, 2, none⟩ = some (.slice am2 ms2.length capm2)) := Lib.hid (fun W h => ⟨later h (Nat.le_refl _) hr3, later h (Nat.le_refl _) c0, later h (Nat.le_refl _) c1, later h (Nat.le_refl _) c2, later h (Nat.le_refl _) d0, later h (Nat.le_refl _) d1, later h (Nat.le_refl _) d2⟩)
    have HDD : Hid (Below w3.heap.size w3 w3.drew) := Lib.hid (Below.refl _ _).drew
    have HIF : Hid (∀ W, Below w3.heap.size w3 W → Calls Try.prog 124 #[.agg #[.int .i64 p, .slice ad ds.length cap, .slice am ms.length capm], .agg #[.int .i64 p2, .slice ad2 ds2.length cap2, .slice am2 ms2.length capm2], .slice af fs.length cf, .int .i64 0] W (BB (FamOk p ds ds2 0 fs) W)) := Lib.hid (fun W h => l04Family_any p p2 0 _ _ _ _ _ ds ms ds2 ms2 fs W (HX3.out.next h).cx (HY3.out.next h).cx (HF0.out.below (HB3.out.trans (h.mono HB3.out.size))) HE.out.x HE.out.y ⟨by omega, by omega⟩ HMF.out)
    clear hE
    go_wp2
    refine wp_loop_rounds 2 ?_
    rw [rounds_succ]
    go_wp2
    go_region_held3 (fun W => W.cell? ⟨b, 0, none⟩ = some (.slice af fs.length cf) ∧ W.cell? ⟨w.heap.size, 0, none⟩ = some (.int .i64 p) ∧ W.cell? ⟨w.heap.size, 1, none⟩ = some (.slice ad ds.length cap) ∧ W.cell? ⟨w.heap.size, 2, none⟩ = some (.slice am ms.length capm) ∧ W.cell? ⟨w.heap.size + 1, 0, none⟩ = some (.int .i64 p2) ∧ W.cell? ⟨w.heap.size + 1, 1, none⟩ = some (.slice ad2 ds2.length cap2) ∧ W.cell? ⟨w.heap.size + 1, 2, none⟩ = some (.slice am2 ms2.length capm2))
      (first | exact HSP.out _ (Below.refl _ _) | exact HSP.out _ HDD.out | exact HSP.out _ HB4.out | go_keep)
      ((go_at_call 124; (with_reducible refine (HIF.out _ HDD.out).mono ?_); rintro e w4 ⟨bb, rfl, hb4, hbb⟩; have HB4 : Hid (Below w3.heap.size w3 w4) := Lib.hid (HDD.out.trans hb4); have HBB := Lib.hid hbb; clear hb4 hbb))
    have HBZ := Lib.hid (HX3.out.next HB4.out).below
    clear c0 c1 c2 d0 d1 d2 hr3 HIF HSP HB4
    have hbb := HBB.out
    by_cases hT : FamOk p ds ds2 0 fs
    · obtain rfl : bb = true := hbb.2 hT
      have HT := Lib.hid hT
      clear hT hbb
      go_wp2
      rw [rounds_succ]
      go_wp2
      go_ret
      exact ⟨ret_int (by unfold famCode; rw [if_pos HEC.out.symm, if_pos HT.out]), HBZ.out⟩
    · obtain rfl : bb = false := bb_no hbb hT
      have HT := Lib.hid hT
      clear hT hbb
      go_wp2
      go_ret
      exact ⟨ret_int (by unfold famCode; rw [if_pos HEC.out.symm, if_neg HT.out]), HBZ.out⟩
  · have hne2 : (ec != 0) = true := by simp [h0]
    have hne3 : (ec == 0) = false := by simp [h0]
    have HNE := Lib.hid h0
    clear h0
    go_wp2
    go_ret
    exact ⟨ret_int (by unfold famCode; rw [← HEC.out, if_neg HNE.out]), HX3.out.below⟩

set_option maxHeartbeats 1600000 in
set_option maxRecDepth 100000 in
theorem l04Vector_any (p n : Int) (dv mv vv : Value) (ds : List Int) (ms : List (List (List Int))) (vs : List Int) (w : World) (h : Cx 0 w dv mv ds ms) (hv : L1 0 w vv vs) (hcx : IsCx p ds ms) (hm : vs.length ≤ 1048576) :
    Calls Try.prog 118 #[.agg #[.int .i64 p, dv, mv], .int .i64 n, vv] w (BB (RowOk p (dimZ ds n) vs) w) := by
  obtain ⟨ad, cap, rfl⟩ := Sl.shape h.dims
  obtain ⟨am, capm, rfl⟩ := Sl.shape h.maps
  obtain ⟨av, cv, rfl⟩ := Sl.shape hv
  have HX0 := Lib.hid (Bx.start (p := p) 31 h)
  obtain ⟨w1, hw1⟩ : ∃ w1, w1 = w.alloc (.cells #[.int .i64 p, .slice ad ds.length cap, .slice am ms.length capm] 31) := ⟨_, rfl⟩
  rw [← hw1] at HX0
  have HV0 := Lib.hid (hv.below HX0.out.below)
  have HCX := Lib.hid hcx
  have hl6 := hcx.1.len1
  have hp1 := hcx.1.prime.lo1
  have hp7 := hcx.1.prime.hi7
  have HDA := Lib.hid (l01Dim_any p n _ _ ds ms w1 HX0.out.cx (by omega))
  obtain ⟨c, hc⟩ := Int.eq_ofNat_of_zero_le (dimZ_b hcx n).1
  have hc8 : c ≤ 8 := by have := (dimZ_b hcx n).2; omega
  rw [hc] at HDA ⊢
  have c0 := HX0.out.c0
  have c1 := HX0.out.c1
  have c2 := HX0.out.c2
  clear h hv hcx hc
  go_enter Try.func118, Try.ntmps118
  go_upto_region 1 with fail
  rw [← hw1]
  clear hw1
  go_wp2_with fail
  refine HDA.out.mono ?_
  rintro e w2 ⟨rfl, hb2⟩
  have HX2 := Lib.hid (HX0.out.next hb2)
  have HV2 := Lib.hid (HV0.out.below hb2)
  clear hb2 c0 c1 c2 HX0 HV0 HDA
  by_cases hl : vs.length = c
  · have HL := Lib.hid hl
    have hq1 : (((vs.length : Nat) : Int) != ((c : Nat) : Int)) = false := by simp [hl]
    clear hl
    go_wp2
    clear hq1
    go_loopw [7] (fun z wr => ∃ (q : Nat), q ≤ vs.length ∧ z = .int .i64 q ∧ Hid (Below w2.heap.size w2 wr) ∧ Hid (∀ q2 (h : q2 < vs.length), q2 < q → 0 ≤ vs[q2] ∧ vs[q2] ≤ p - 1)) (fun z _ => vs.length - (intOf z).toNat)
    case atStart => exact ⟨0, Nat.zero_le _, rfl, Lib.hid (Below.refl _ _), Lib.hid (fun _ _ hj => absurd hj (Nat.not_lt_zero _))⟩
    case round =>
      obtain ⟨q, hq, rfl, HB, HV⟩ := hrel
      obtain ⟨wz, hwz⟩ : ∃ wz : World, wz = wr := ⟨_, rfl⟩
      subst hwz
      by_cases hlq : q < vs.length
      · refine Sl.cases (HV2.out.below HB.out) (fun _ _ hx _ => absurd hlq (by simp [hx])) (fun bn on cn hvn _ _ hcn => ?_)
        injection hvn with e1 e2 e3
        clear e2
        subst e1 e3
        obtain ⟨un, hun, hrn⟩ := hcn q hlq
        obtain ⟨x, hx⟩ : ∃ x, x = vs[q] := ⟨_, rfl⟩
        rw [hrn, ← hx] at hun
        have HXE := Lib.hid hx
        have c0 := (HX2.out.next HB.out).c0
        have HSP : Hid (∀ W, Below wz.heap.size wz W → W.cell? ⟨bn, on + q, none⟩ = some (.int .i64 x) ∧ W.cell? ⟨w.heap.size, 0, none⟩ = some (.int .i64 p)) := Lib.hid (fun W h => ⟨later h (Nat.le_refl _) hun, later h (Nat.le_refl _) c0⟩)
        have HDD : Hid (Below wz.heap.size wz wz.drew) := Lib.hid (Below.refl _ _).drew
        have hwp : IntKind.i64.wrap (p - 1) = p - 1 := IntWalk.i64_in _ (by omega)
        have hq0 : (0 : Int) ≤ (q : Int) := by omega
        have hq2 : (q : Int) < (vs.length : Int) := by omega
        clear hcn hrn hx
        by_cases hxp : 0 ≤ x ∧ x ≤ p - 1
        · have HIN : Hid (∀ W, Calls Try.prog 117 #[.int .i64 x, .int .i64 0, .int .i64 (p - 1)] W (QW (.bool true) W)) := Lib.hid (fun W => spin_yes hxp W)
          have HXP := Lib.hid hxp
          clear hxp
          go_wp2
          go_region_held3 (fun W => W.cell? ⟨bn, on + q, none⟩ = some (.int .i64 x) ∧ W.cell? ⟨w.heap.size, 0, none⟩ = some (.int .i64 p))
            (first | exact HSP.out _ (Below.refl _ _) | exact HSP.out _ HDD.out | go_keep)
            ((go_at_call 117; (with_reducible refine (HIN.out _).mono ?_); rintro e w5 ⟨rfl, rfl⟩))
          have HB6 := Lib.hid (HB.out.trans (HDD.out.mono HB.out.size))
          have HV6 : Hid (∀ q2 (h : q2 < vs.length), q2 < q + 1 → 0 ≤ vs[q2] ∧ vs[q2] ≤ p - 1) := Lib.hid (fun q2 h hj => by
            by_cases e : q2 = q
            · subst e; rw [← HXE.out]; exact HXP.out
            · exact HV.out q2 h (by omega))
          clear hwp hq0 hq2 c0 hun HSP HIN HDD HV HB
          go_wp2
          go_roundw
          case rel => exact ⟨q + 1, by omega, by go_num, HB6, HV6⟩
          case measure => simp [intOf]; omega
        · have HIN : Hid (∀ W, Calls Try.prog 117 #[.int .i64 x, .int .i64 0, .int .i64 (p - 1)] W (QW (.bool false) W)) := Lib.hid (fun W => spin_no hxp W)
          have HXP := Lib.hid hxp
          clear hxp
          go_wp2
          go_region_held3 (fun W => W.cell? ⟨bn, on + q, none⟩ = some (.int .i64 x) ∧ W.cell? ⟨w.heap.size, 0, none⟩ = some (.int .i64 p))
            (first | exact HSP.out _ (Below.refl _ _) | exact HSP.out _ HDD.out | go_keep)
            ((go_at_call 117; (with_reducible refine (HIN.out _).mono ?_); rintro e w5 ⟨rfl, rfl⟩))
          have HB6 := Lib.hid (HX2.out.next (HB.out.trans (HDD.out.mono HB.out.size))).below
          clear hwp hq0 hq2 c0 hun HSP HIN HDD HV HB
          go_wp2
          go_ret
          exact bb_false HB6.out (fun hh => HXP.out (by rw [HXE.out]; exact hh.2 _ (List.getElem_mem hlq)))
      · have HB6 := Lib.hid (HX2.out.next HB.out).below
        go_wp2
        go_ret
        exact bb_true HB6.out ⟨by rw [HL.out], all_of_lt (fun z hz => HV.out z hz (by omega))⟩
  · have HL := Lib.hid hl
    have hq1 : (((vs.length : Nat) : Int) != ((c : Nat) : Int)) = true := by
      have : ¬ ((vs.length : Int) = (c : Int)) := by omega
      simpa using this
    clear hl
    go_wp2
    go_ret
    exact bb_false HX2.out.below (fun hh => HL.out (by have := hh.1; omega))

set_option maxHeartbeats 1600000 in
set_option maxRecDepth 100000 in
theorem l04Image_any (p p2 s : Int) (n c2 : Nat) (dv mv dv2 mv2 fv vv : Value) (ds : List Int) (ms : List (List (List Int))) (ds2 : List Int) (ms2 : List (List (List Int))) (fs : List (List (List Int))) (vs : List Int) (w : World) (h : Cx 0 w dv mv ds ms) (h2 : Cx 0 w dv2 mv2 ds2 ms2) (hf : L3 0 w fv fs) (hv : L1 0 w vv vs) (hcy : IsCx p2 ds2 ms2) (hn : n < fs.length) (hnb : n ≤ 100) (hs : -1 ≤ s ∧ s ≤ 1) (hc2 : dimZ ds2 ((n : Int) + s) = (c2 : Int)) (ok : ApOk p c2 vs (fs.getD n [])) (hmv : vs.length ≤ 1048576) :
    Calls Try.prog 119 #[.agg #[.int .i64 p, dv, mv], .agg #[.int .i64 p2, dv2, mv2], fv, .int .i64 (n : Int), .int .i64 s, vv] w (ApG p c2 vs (fs.getD n []) w) := by
  obtain ⟨ad, cap, rfl⟩ := Sl.shape h.dims
  obtain ⟨am, capm, rfl⟩ := Sl.shape h.maps
  obtain ⟨ad2, cap2, rfl⟩ := Sl.shape h2.dims
  obtain ⟨am2, capm2, rfl⟩ := Sl.shape h2.maps
  obtain ⟨af, cf, rfl⟩ := Sl.shape hf
  obtain ⟨av, cv, rfl⟩ := Sl.shape hv
  obtain ⟨k1, k2⟩ := bx_two (p := p) (p2 := p2) 31 h h2
  have HX0 := Lib.hid k1
  have HY0 := Lib.hid k2
  obtain ⟨w1, hw1⟩ : ∃ w1, w1 = ((w.alloc (.cells #[.int .i64 p, .slice ad ds.length cap, .slice am ms.length capm] 31)).alloc (.cells #[.int .i64 p2, .slice ad2 ds2.length cap2, .slice am2 ms2.length capm2] 31)) := ⟨_, rfl⟩
  rw [← hw1] at HX0 HY0
  have hb01 : Below w.heap.size w w1 := HX0.out.below
  have HF0 := Lib.hid (hf.below hb01)
  have HNX : Hid (∀ W, Below w1.heap.size w1 W → Bx w W w.heap.size p (.slice ad ds.length cap) (.slice am ms.length capm) ds ms) := Lib.hid (fun W h => HX0.out.next h)
  have HNY : Hid (∀ W, Below w1.heap.size w1 W → Bx w W (w.heap.size + 1) p2 (.slice ad2 ds2.length cap2) (.slice am2 ms2.length capm2) ds2 ms2) := Lib.hid (fun W h => HY0.out.next h)
  have HV0 := Lib.hid (hv.below hb01)
  have HCY := Lib.hid hcy
  have HOK := Lib.hid ok
  have hl7 := hcy.1.len1
  have hc28 : c2 ≤ 8 := by have := dimZ_b hcy ((n : Int) + s); omega
  obtain ⟨hs0, hs1⟩ := hs
  refine Sl.cases HF0.out (fun _ _ hx _ => absurd hn (by simp [hx])) (fun bf of cf2 hvf _ _ hcf => ?_)
  injection hvf with e1 e2 e3
  clear e2
  subst e1 e3
  obtain ⟨ut, hut, hrt⟩ := hcf n hn
  rw [← getD_of_lt [] hn] at hrt
  have HRT := Lib.hid hrt
  have HDA : Hid (∀ W, Below w1.heap.size w1 W → Calls Try.prog 152 #[.agg #[.int .i64 p2, .slice ad2 ds2.length cap2, .slice am2 ms2.length capm2], .int .i64 ((n : Int) + s)] W (BR (.int .i64 (c2 : Int)) W)) := Lib.hid (fun W h => by
    have := l01Dim_any p2 ((n : Int) + s) _ _ ds2 ms2 W (HNY.out W h).cx (by omega)
    rwa [hc2] at this)
  have c0 := HX0.out.c0
  have d0 := HY0.out.c0
  have d1 := HY0.out.c1
  have d2 := HY0.out.c2
  have HSP : Hid (∀ W, Below w1.heap.size w1 W → W.cell? ⟨bf, of + n, none⟩ = some ut ∧ W.cell? ⟨w.heap.size, 0, none⟩ = some (.int .i64 p) ∧ W.cell? ⟨w.heap.size + 1, 0, none⟩ = some (.int .i64 p2) ∧ W.cell? ⟨w.heap.size + 1, 1, none⟩ = some (.slice ad2 ds2.length cap2) ∧ W.cell? ⟨w.heap.size + 1, 2, none⟩ = some (.slice am2 ms2.length capm2) ∧ Hid (Below w1.heap.size w1 W)) := Lib.hid (fun W h => ⟨later h (Nat.le_refl _) hut, later h (Nat.le_refl _) c0, later h (Nat.le_refl _) d0, later h (Nat.le_refl _) d1, later h (Nat.le_refl _) d2, Lib.hid h⟩)
  have HDD : Hid (Below w1.heap.size w1 w1.drew) := Lib.hid (Below.refl _ _).drew
  have HAP : Hid (∀ W, Below w1.heap.size w1 W → Calls Try.prog 167 #[.int .i64 p, ut, .slice av vs.length cv, .int .i64 (c2 : Int)] W (ApG p c2 vs (fs.getD n []) W)) := Lib.hid (fun W h => l01ApplyG_any p c2 _ _ vs _ W HOK.out (HV0.out.below h) (HRT.out.below h) hmv (by omega))
  have hwk : IntKind.i64.wrap ((n : Int) + s) = (n : Int) + s := IntWalk.i64_in _ (by omega)
  have hi0 : (0 : Int) ≤ (n : Int) := by omega
  have hi1 : (n : Int) < (fs.length : Int) := by omega
  clear h h2 hf hv hcy hc2 ok hcf hrt k1 k2 hb01 HX0 HY0
  go_enter Try.func119, Try.ntmps119
  go_upto_region 1 with fail
  rw [← hw1]
  clear hw1
  go_region_held3 (fun W => W.cell? ⟨bf, of + n, none⟩ = some ut ∧ W.cell? ⟨w.heap.size, 0, none⟩ = some (.int .i64 p) ∧ W.cell? ⟨w.heap.size + 1, 0, none⟩ = some (.int .i64 p2) ∧ W.cell? ⟨w.heap.size + 1, 1, none⟩ = some (.slice ad2 ds2.length cap2) ∧ W.cell? ⟨w.heap.size + 1, 2, none⟩ = some (.slice am2 ms2.length capm2) ∧ Hid (Below w1.heap.size w1 W))
    (first | exact HSP.out _ (Below.refl _ _) | exact HSP.out _ HDD.out | exact HSP.out _ HB4.out | exact HSP.out _ HB5.out | go_keep)
    (first
      | (go_at_call 152; (with_reducible refine (HDA.out _ HDD.out).mono ?_); rintro e w4 ⟨rfl, hb4⟩; have HB4 : Hid (Below w1.heap.size w1 w4) := Lib.hid (HDD.out.trans hb4); clear hb4)
      | (go_at_call 167; (with_reducible refine (HAP.out _ HB4.out).mono ?_); rintro e w5 ⟨u5, rfl, hg5, hb5⟩; have HB5 : Hid (Below w1.heap.size w1 w5) := Lib.hid (HB4.out.trans (hb5.mono HB4.out.size)); have HG5 := Lib.hid hg5; clear hg5 hb5))
  have HBZ := Lib.hid (HNX.out _ HB5.out).below
  clear hwk hi0 hi1 c0 d0 d1 d2 HSP HDA HAP
  go_wp2
  go_ret
  exact ⟨u5, rfl, HG5.out, HBZ.out⟩
end Go.Proofs.Ytpdkfidmmjlmnab
