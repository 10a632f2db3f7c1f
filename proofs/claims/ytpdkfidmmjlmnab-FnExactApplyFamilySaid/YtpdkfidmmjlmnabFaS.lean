/-
  Families in the model: spec.l04Family, l04Code on one family, l04Vector, l04Image, by their contracts.
-/
import Derived.Test.YtpdkfidmmjlmnabFam
import Derived.Test.YtpdkfidmmjlmnabMeet
namespace Go.Proofs.Ytpdkfidmmjlmnab
open Go.RowKit

set_option maxHeartbeats 6400000 in
set_option maxRecDepth 100000 in
theorem l04Family_any (p p2 s : Int) (dv mv dv2 mv2 fv : Value) (ds : List Int) (ms : List (List (List Int))) (ds2 : List Int) (ms2 : List (List (List Int))) (fs : List (List (List Int))) (w : World) (h : Cx 0 w dv mv ds ms) (h2 : Cx 0 w dv2 mv2 ds2 ms2) (hf : L3 0 w fv fs) (hcx : IsCx p ds ms) (hcy : IsCx p2 ds2 ms2) (hs : -1 ≤ s ∧ s ≤ 1) (hm : Bd3 1048576 fs) :
    Calls Try.prog 124 #[.agg #[.int .i64 p, dv, mv], .agg #[.int .i64 p2, dv2, mv2], fv, .int .i64 s] w (BB (FamOk p ds ds2 s fs) w) := by
  obtain ⟨ad, cap, rfl⟩ := Sl.shape h.dims
  obtain ⟨am, capm, rfl⟩ := Sl.shape h.maps
  obtain ⟨ad2, cap2, rfl⟩ := Sl.shape h2.dims
  obtain ⟨am2, capm2, rfl⟩ := Sl.shape h2.maps
  obtain ⟨af, cf, rfl⟩ := Sl.shape hf
  obtain ⟨k1, k2⟩ := bx_two (p := p) (p2 := p2) 31 h h2
  have HX0 := Lib.hid k1
  have HY0 := Lib.hid k2
  obtain ⟨w1, hw1⟩ : ∃ w1, w1 = ((w.alloc (.cells #[.int .i64 p, .slice ad ds.length cap, .slice am ms.length capm] 31)).alloc (.cells #[.int .i64 p2, .slice ad2 ds2.length cap2, .slice am2 ms2.length capm2] 31)) := ⟨_, rfl⟩
  rw [← hw1] at HX0 HY0
  have hb01 : Below w.heap.size w w1 := HX0.out.below
  have HF0 := Lib.hid (hf.below hb01)
  have HNX : Hid (∀ W, Below w1.heap.size w1 W → Bx w W w.heap.size p (.slice ad ds.length cap) (.slice am ms.length capm) ds ms) := Lib.hid (fun W h => HX0.out.next h)
  have HNY : Hid (∀ W, Below w1.heap.size w1 W → Bx w W (w.heap.size + 1) p2 (.slice ad2 ds2.length cap2) (.slice am2 ms2.length capm2) ds2 ms2) := Lib.hid (fun W h => HY0.out.next h)
  have HCX := Lib.hid hcx
  have HCY := Lib.hid hcy
  have HM := Lib.hid hm
  have hl6 := hcx.1.len1
  have hl7 := hcy.1.len1
  have hp1 := hcx.1.prime.lo1
  have hp7 := hcx.1.prime.hi7
  have hml : fs.length ≤ 1048576 := hm.1
  obtain ⟨hs0, hs1⟩ := hs
  have c1 := HX0.out.c1
  clear h h2 hf k1 k2 hcx hcy hm hb01
  go_enter Try.func124, Try.ntmps124
  go_upto_region 1 with fail
  rw [← hw1]
  clear hw1
  by_cases hll : fs.length = ds.length
  · have HLL := Lib.hid hll
    have hl1 : (((fs.length : Nat) : Int) != ((ds.length : Nat) : Int)) = false := by simp [hll]
    have hfd : fs.length ≤ 6 := by omega
    clear hll
    go_wp2
    clear c1 hl1
    go_loopw [9, 10, 11] (fun i _ _ wr => ∃ (k : Nat), k ≤ fs.length ∧ i = .int .i64 k ∧ Hid (Below w1.heap.size w1 wr) ∧ Hid (∀ j, j < k → TabOk p (ds.getD j 0) (dimZ ds2 ((j : Int) + s)) (fs.getD j []))) (fun i _ _ _ => fs.length - (intOf i).toNat)
    case atStart => exact ⟨0, Nat.zero_le _, rfl, Lib.hid (Below.refl _ _), Lib.hid (fun j hj => absurd hj (Nat.not_lt_zero _))⟩
    case round =>
      obtain ⟨k, hk, rfl, HB, HD⟩ := hrel
      obtain ⟨wx, hwx⟩ : ∃ wx : World, wx = wr := ⟨_, rfl⟩
      subst hwx
      by_cases hlt : k < fs.length
      · have hkd : k < ds.length := by have := HLL.out; omega
        have hX := HNX.out _ HB.out
        have hdim := HCX.out.1.dim k
        obtain ⟨c, hc⟩ := Int.eq_ofNat_of_zero_le hdim.1
        have hc8 : c ≤ 8 := by omega
        have hz := dimZ_b HCY.out ((k : Int) + s)
        obtain ⟨c2, hc2⟩ := Int.eq_ofNat_of_zero_le hz.1
        have hc28 : c2 ≤ 8 := by omega
        refine Sl.cases hX.cx.dims (fun _ _ hx _ => absurd hkd (by simp [hx])) (fun bd od capd hvd _ _ hcl => ?_)
        injection hvd with e1 e2 e3
        clear e2
        subst e1 e3
        obtain ⟨u, hu, hru⟩ := hcl k hkd
        have hu2 : wx.cell? ⟨bd, od + k, none⟩ = some (.int .i64 (c : Int)) := by rw [hu, hru, ← hc, getD_of_lt _ hkd]
        refine Sl.cases HF0.out (fun _ _ hx _ => absurd hlt (by simp [hx])) (fun bf of cf2 hvf _ _ hcf => ?_)
        injection hvf with e1 e2 e3
        clear e2
        subst e1 e3
        obtain ⟨ut, hut, hrt⟩ := hcf k hlt
        obtain ⟨t, ht⟩ : ∃ t, t = fs[k] := ⟨_, rfl⟩
        rw [← ht] at hrt
        obtain ⟨att, ct, hus⟩ := Sl.shape hrt
        subst hus
        have HTE : Hid (fs.getD k [] = t) := Lib.hid (by rw [getD_of_lt _ hlt, ht])
        have HTM : Hid (Bd2 1048576 t) := Lib.hid (by rw [ht]; exact HM.out.2 _ (List.getElem_mem hlt))
        have htl : t.length ≤ 1048576 := HTM.out.1
        have HRT := Lib.hid hrt
        have HUT : Hid (∀ W, Below w1.heap.size w1 W → W.cell? ⟨bf, of + k, none⟩ = some (.slice att t.length ct)) := Lib.hid (fun W h => later h (Nat.le_refl _) hut)
        have HTC : Hid (dimZ ds2 ((k : Int) + s) = (c2 : Int)) := Lib.hid hc2
        have HDC : Hid (ds.getD k 0 = (c : Int)) := Lib.hid hc
        have c1 := hX.c1
        have hut2 := HUT.out _ HB.out
        have hk0 : (0 : Int) ≤ (k : Int) := by omega
        have hk1 : (k : Int) < (ds.length : Int) := by omega
        have hk2 : (k : Int) < (fs.length : Int) := by omega
        clear hu hru hcl hX hdim hc hz hc2 hcf ht hrt hut
        by_cases hrl : t.length = c
        · have HRL := Lib.hid hrl
          have hq1 : (((t.length : Nat) : Int) != ((c : Nat) : Int)) = false := by simp [hrl]
          clear hrl
          go_wp2
          go_quiet (fail)
          have HB4 := Lib.hid (HB.out.trans ((drewN_below wx nq).mono HB.out.size))
          generalize wx.drewN nq = w4 at *
          clear c1 hut2 hu2 hq1 HB
          go_wp2
          go_loopw [10, 11] (fun i _ wr => ∃ (j : Nat), j ≤ t.length ∧ i = .int .i64 j ∧ Hid (Below w1.heap.size w1 wr) ∧ Hid (∀ q (h : q < t.length), q < j → RowOk p (c2 : Int) t[q])) (fun i _ _ => t.length - (intOf i).toNat)
          case atStart => exact ⟨0, Nat.zero_le _, rfl, HB4, Lib.hid (fun _ _ hj => absurd hj (Nat.not_lt_zero _))⟩
          case round =>
            clear HB4
            obtain ⟨i, hi, rfl, HBY, HQ⟩ := hrel
            obtain ⟨wy, hwy⟩ : ∃ wy : World, wy = wr := ⟨_, rfl⟩
            subst hwy
            have hut3 := HUT.out _ HBY.out
            by_cases hli : i < t.length
            · have hY := HNY.out _ HBY.out
              refine Sl.cases HRT.out (fun _ _ hx _ => absurd hli (by simp [hx])) (fun bt ot ct2 hvt _ _ hct => ?_)
              injection hvt with e1 e2 e3
              clear e2
              subst e1 e3
              obtain ⟨ur, hur, hrr⟩ := hct i hli
              obtain ⟨r, hr⟩ : ∃ r, r = t[i] := ⟨_, rfl⟩
              rw [← hr] at hrr
              obtain ⟨ar, cr, hus⟩ := Sl.shape hrr
              subst hus
              have HRE := Lib.hid hr
              have hrlen : r.length ≤ 1048576 := by rw [hr]; exact HTM.out.2 _ (List.getElem_mem hli)
              have HRR := Lib.hid hrr
              have HUR : Hid (∀ W, Below w1.heap.size w1 W → W.cell? ⟨bt, ot + i, none⟩ = some (.slice ar r.length cr)) := Lib.hid (fun W h => later h (Nat.le_refl _) hur)
              have hur2 := HUR.out _ HBY.out
              have HDA : Hid (∀ W, Below wy.heap.size wy W → Calls Try.prog 152 #[.agg #[.int .i64 p2, .slice ad2 ds2.length cap2, .slice am2 ms2.length capm2], .int .i64 ((k : Int) + s)] W (BR (.int .i64 (c2 : Int)) W)) := Lib.hid (fun W h => by
                have := l01Dim_any p2 ((k : Int) + s) _ _ ds2 ms2 W (hY.next h).cx (by omega)
                rwa [HTC.out] at this)
              have d0 := hY.c0
              have d1 := hY.c1
              have d2 := hY.c2
              have HSP : Hid (∀ W, Below wy.heap.size wy W → W.cell? ⟨bf, of + k, none⟩ = some (.slice (some ⟨bt, ot, none⟩) t.length ct) ∧ W.cell? ⟨bt, ot + i, none⟩ = some (.slice ar r.length cr) ∧ W.cell? ⟨w.heap.size + 1, 0, none⟩ = some (.int .i64 p2) ∧ W.cell? ⟨w.heap.size + 1, 1, none⟩ = some (.slice ad2 ds2.length cap2) ∧ W.cell? ⟨w.heap.size + 1, 2, none⟩ = some (.slice am2 ms2.length capm2) ∧ Hid (Below wy.heap.size wy W)) := Lib.hid (fun W h => ⟨later h (Nat.le_refl _) hut3, later h (Nat.le_refl _) hur2, later h (Nat.le_refl _) d0, later h (Nat.le_refl _) d1, later h (Nat.le_refl _) d2, Lib.hid h⟩)
              have HDD : Hid (Below wy.heap.size wy wy.drew) := Lib.hid (Below.refl _ _).drew
              have hwk : IntKind.i64.wrap ((k : Int) + s) = (k : Int) + s := IntWalk.i64_in _ (by omega)
              have hi0 : (0 : Int) ≤ (i : Int) := by omega
              have hi1 : (i : Int) < (t.length : Int) := by omega
              clear hct hY hr hrr hur
              by_cases hrc : r.length = c2
              · have HRC := Lib.hid hrc
                have hq1 : (((r.length : Nat) : Int) != ((c2 : Nat) : Int)) = false := by simp [hrc]
                clear hrc
                go_wp2
                go_region_held3 (fun w' => w'.cell? ⟨bf, of + k, none⟩ = some (.slice (some ⟨bt, ot, none⟩) t.length ct) ∧ w'.cell? ⟨bt, ot + i, none⟩ = some (.slice ar r.length cr) ∧ w'.cell? ⟨w.heap.size + 1, 0, none⟩ = some (.int .i64 p2) ∧ w'.cell? ⟨w.heap.size + 1, 1, none⟩ = some (.slice ad2 ds2.length cap2) ∧ w'.cell? ⟨w.heap.size + 1, 2, none⟩ = some (.slice am2 ms2.length capm2) ∧ Hid (Below wy.heap.size wy w'))
                  (first | exact HSP.out _ (Below.refl _ _) | exact HSP.out _ HDD.out | exact HSP.out _ HB4.out | go_keep)
                  (first
                    | (go_at_call 152; (with_reducible refine (HDA.out _ HDD.out).mono ?_); rintro e w4 ⟨rfl, hb4⟩; have HB4 : Hid (Below wy.heap.size wy w4) := Lib.hid (HDD.out.trans hb4); clear hb4))
                have HB5 := Lib.hid (HBY.out.trans (HB4.out.mono HBY.out.size))
                clear hwk d0 d1 d2 HSP HDA hut3 hq1 hur2 HDD HBY HB4
                go_wp2
                go_loopw [11] (fun z wr => ∃ (q : Nat), q ≤ r.length ∧ z = .int .i64 q ∧ Hid (Below w1.heap.size w1 wr) ∧ Hid (∀ q2 (h : q2 < r.length), q2 < q → 0 ≤ r[q2] ∧ r[q2] ≤ p - 1)) (fun z _ => r.length - (intOf z).toNat)
                case atStart => exact ⟨0, Nat.zero_le _, rfl, HB5, Lib.hid (fun _ _ hj => absurd hj (Nat.not_lt_zero _))⟩
                case round =>
                  clear HB5
                  obtain ⟨q, hq, rfl, HBZ, HV⟩ := hrel
                  obtain ⟨wz, hwz⟩ : ∃ wz : World, wz = wr := ⟨_, rfl⟩
                  subst hwz
                  have hut3 := HUT.out _ HBZ.out
                  have hur3 := HUR.out _ HBZ.out
                  by_cases hlq : q < r.length
                  · refine Sl.cases HRR.out (fun _ _ hx _ => absurd hlq (by simp [hx])) (fun bn on cn hvn _ _ hcn => ?_)
                    injection hvn with e1 e2 e3
                    clear e2
                    subst e1 e3
                    obtain ⟨un, hun, hrn⟩ := hcn q hlq
                    obtain ⟨x, hx⟩ : ∃ x, x = r[q] := ⟨_, rfl⟩
                    rw [hrn, ← hx] at hun
                    have hun2 := later HBZ.out (Nat.le_refl _) hun
                    have HXE := Lib.hid hx
                    have c0 := (HNX.out _ HBZ.out).c0
                    have HSP : Hid (∀ W, Below wz.heap.size wz W → W.cell? ⟨bf, of + k, none⟩ = some (.slice (some ⟨bt, ot, none⟩) t.length ct) ∧ W.cell? ⟨bt, ot + i, none⟩ = some (.slice (some ⟨bn, on, none⟩) r.length cr) ∧ W.cell? ⟨bn, on + q, none⟩ = some (.int .i64 x) ∧ W.cell? ⟨w.heap.size, 0, none⟩ = some (.int .i64 p) ∧ Hid (Below wz.heap.size wz W)) := Lib.hid (fun W h => ⟨later h (Nat.le_refl _) hut3, later h (Nat.le_refl _) hur3, later h (Nat.le_refl _) hun2, later h (Nat.le_refl _) c0, Lib.hid h⟩)
                    have HDD : Hid (Below wz.heap.size wz wz.drew) := Lib.hid (Below.refl _ _).drew
                    have hwp : IntKind.i64.wrap (p - 1) = p - 1 := IntWalk.i64_in _ (by omega)
                    have hq0 : (0 : Int) ≤ (q : Int) := by omega
                    have hq2 : (q : Int) < (r.length : Int) := by omega
                    clear hcn hun hrn hx
                    by_cases hxp : 0 ≤ x ∧ x ≤ p - 1
                    · have HIN : Hid (∀ W, Calls Try.prog 117 #[.int .i64 x, .int .i64 0, .int .i64 (p - 1)] W (QW (.bool true) W)) := Lib.hid (fun W => spin_yes hxp W)
                      have HXP := Lib.hid hxp
                      clear hxp
                      go_wp2
                      go_region_held3 (fun w' => w'.cell? ⟨bf, of + k, none⟩ = some (.slice (some ⟨bt, ot, none⟩) t.length ct) ∧ w'.cell? ⟨bt, ot + i, none⟩ = some (.slice (some ⟨bn, on, none⟩) r.length cr) ∧ w'.cell? ⟨bn, on + q, none⟩ = some (.int .i64 x) ∧ w'.cell? ⟨w.heap.size, 0, none⟩ = some (.int .i64 p) ∧ Hid (Below wz.heap.size wz w'))
                        (first | exact HSP.out _ (Below.refl _ _) | exact HSP.out _ HDD.out | go_keep)
                        ((go_at_call 117; (with_reducible refine (HIN.out _).mono ?_); rintro e w5 ⟨rfl, rfl⟩))
                      have HB6 := Lib.hid (HBZ.out.trans (HDD.out.mono HBZ.out.size))
                      have HV6 : Hid (∀ q2 (h : q2 < r.length), q2 < q + 1 → 0 ≤ r[q2] ∧ r[q2] ≤ p - 1) := Lib.hid (fun q2 h hj => by
                        by_cases e : q2 = q
                        · subst e; rw [← HXE.out]; exact HXP.out
                        · exact HV.out q2 h (by omega))
                      clear hwp hq0 hq2 c0 hun2 hur3 hut3 HSP HIN HDD HV HBZ
                      go_wp2
                      go_roundw
                      case rel => exact ⟨q + 1, by omega, by go_num, HB6, HV6⟩
                      case measure => simp [intOf]; omega
                    · have HIN : Hid (∀ W, Calls Try.prog 117 #[.int .i64 x, .int .i64 0, .int .i64 (p - 1)] W (QW (.bool false) W)) := Lib.hid (fun W => spin_no hxp W)
                      have HXP := Lib.hid hxp
                      clear hxp
                      go_wp2
                      go_region_held3 (fun w' => w'.cell? ⟨bf, of + k, none⟩ = some (.slice (some ⟨bt, ot, none⟩) t.length ct) ∧ w'.cell? ⟨bt, ot + i, none⟩ = some (.slice (some ⟨bn, on, none⟩) r.length cr) ∧ w'.cell? ⟨bn, on + q, none⟩ = some (.int .i64 x) ∧ w'.cell? ⟨w.heap.size, 0, none⟩ = some (.int .i64 p) ∧ Hid (Below wz.heap.size wz w'))
                        (first | exact HSP.out _ (Below.refl _ _) | exact HSP.out _ HDD.out | go_keep)
                        ((go_at_call 117; (with_reducible refine (HIN.out _).mono ?_); rintro e w5 ⟨rfl, rfl⟩))
                      have HB6 := Lib.hid (HNX.out _ (HBZ.out.trans (HDD.out.mono HBZ.out.size))).below
                      clear hwp hq0 hq2 c0 hun2 hur3 hut3 HSP HIN HDD HV HBZ
                      go_wp2
                      go_ret
                      exact bb_false HB6.out (fun hh => HXP.out (by
                        have h1 := hh.2 k hlt
                        rw [HTE.out] at h1
                        have h2 := (h1.2 _ (List.getElem_mem hli)).2
                        rw [← HRE.out] at h2
                        rw [HXE.out]
                        exact h2 _ (List.getElem_mem hlq)))
                  · have HB6 := Lib.hid HBZ.out
                    have HQ6 : Hid (∀ q2 (h : q2 < t.length), q2 < i + 1 → RowOk p (c2 : Int) t[q2]) := Lib.hid (fun q2 h hj => by
                      by_cases e : q2 = i
                      · subst e
                        rw [← HRE.out]
                        exact ⟨by rw [HRC.out], all_of_lt (fun z hz => HV.out z hz (by omega))⟩
                      · exact HQ.out q2 h (by omega))
                    clear HBZ HV HQ
                    go_wp2
                    go_roundw
                    case rel => exact ⟨i + 1, by omega, by go_num, HB6, HQ6⟩
                    case measure => simp [intOf]; omega
              · have HRC := Lib.hid hrc
                have hq1 : (((r.length : Nat) : Int) != ((c2 : Nat) : Int)) = true := by
                  have : ¬ ((r.length : Int) = (c2 : Int)) := by omega
                  simpa using this
                clear hrc
                go_wp2
                go_region_held3 (fun w' => w'.cell? ⟨bf, of + k, none⟩ = some (.slice (some ⟨bt, ot, none⟩) t.length ct) ∧ w'.cell? ⟨bt, ot + i, none⟩ = some (.slice ar r.length cr) ∧ w'.cell? ⟨w.heap.size + 1, 0, none⟩ = some (.int .i64 p2) ∧ w'.cell? ⟨w.heap.size + 1, 1, none⟩ = some (.slice ad2 ds2.length cap2) ∧ w'.cell? ⟨w.heap.size + 1, 2, none⟩ = some (.slice am2 ms2.length capm2) ∧ Hid (Below wy.heap.size wy w'))
                  (first | exact HSP.out _ (Below.refl _ _) | exact HSP.out _ HDD.out | exact HSP.out _ HB4.out | go_keep)
                  (first
                    | (go_at_call 152; (with_reducible refine (HDA.out _ HDD.out).mono ?_); rintro e w4 ⟨rfl, hb4⟩; have HB4 : Hid (Below wy.heap.size wy w4) := Lib.hid (HDD.out.trans hb4); clear hb4))
                have HB5 := Lib.hid (HNX.out _ (HBY.out.trans (HB4.out.mono HBY.out.size))).below
                clear hwk d0 d1 d2 HSP HDA hut3 hur2 HDD HBY HB4
                go_wp2
                go_ret
                exact bb_false HB5.out (fun hh => HRC.out (by
                  have h1 := hh.2 k hlt
                  rw [HTE.out, HTC.out] at h1
                  have h2 := (h1.2 _ (List.getElem_mem hli)).1
                  rw [← HRE.out] at h2
                  omega))
            · have HD5 : Hid (∀ j, j < k + 1 → TabOk p (ds.getD j 0) (dimZ ds2 ((j : Int) + s)) (fs.getD j [])) := Lib.hid (fun j hj => by
                by_cases e : j = k
                · subst e
                  rw [HDC.out, HTC.out, HTE.out]
                  exact ⟨by rw [HRL.out], all_of_lt (fun z hz => HQ.out z hz (by omega))⟩
                · exact HD.out j (by omega))
              clear HQ HD
              go_wp2
              go_roundw
              case rel => exact ⟨k + 1, by omega, by go_num, HBY, HD5⟩
              case measure => simp [intOf]; omega
        · have HRL := Lib.hid hrl
          have hq1 : (((t.length : Nat) : Int) != ((c : Nat) : Int)) = true := by
            have : ¬ ((t.length : Int) = (c : Int)) := by omega
            simpa using this
          clear hrl
          go_wp2
          go_quiet (fail)
          have HB4 := Lib.hid (HNX.out _ (HB.out.trans ((drewN_below wx nq).mono HB.out.size))).below
          generalize wx.drewN nq = w4 at *
          clear c1 hut2 hu2
          go_wp2
          go_ret
          exact bb_false HB4.out (fun hh => HRL.out (by
            have h1 := (hh.2 k hlt).1
            rw [HTE.out, HDC.out] at h1
            omega))
      · have HXX := Lib.hid (HNX.out _ HB.out).below
        go_wp2
        go_ret
        exact bb_true HXX.out ⟨HLL.out, fun n hn => HD.out n (by omega)⟩
  · have HLL := Lib.hid hll
    have hl1 : (((fs.length : Nat) : Int) != ((ds.length : Nat) : Int)) = true := by
      have : ¬ ((fs.length : Int) = (ds.length : Int)) := by omega
      simpa using this
    clear hll
    go_wp2
    go_ret
    exact bb_false HX0.out.below (fun hh => HLL.out hh.1)
end Go.Proofs.Ytpdkfidmmjlmnab
