/-
  ApplyFamily of both sides by contracts.
-/
import Derived.Test.YtiokagnolbddlaaApw
import Derived.Test.YtiokagnolbddlaaFaS
import Derived.StillTailTactics
namespace Go.Proofs.Ytiokagnolbddlaa
open Go.RowKit

theorem fam_ap {p s : Int} {ds ds2 : List Int} {fs : List (List (List Int))} {vs : List Int} {n c2 : Nat} (hp : IsP p) (hF : FamOk p ds ds2 s fs) (hn : n < ds.length) (hv : RowOk p (ds.getD n 0) vs) (hc2 : dimZ ds2 ((n : Int) + s) = (c2 : Int)) : ApOk p c2 vs (fs.getD n []) ∧ n < fs.length := by
  have hnf : n < fs.length := by rw [hF.1]; exact hn
  have ht := hF.2 n hnf
  rw [hc2] at ht
  refine ⟨⟨hp, ?_, hv.2, ht.2⟩, hnf⟩
  have h1 := ht.1
  have h2 := hv.1
  omega

set_option maxHeartbeats 1600000 in
set_option maxRecDepth 100000 in
theorem l04Vector_any (p n : Int) (dv mv vv : Value) (ds : List Int) (ms : List (List (List Int))) (vs : List Int) (w : World) (h : Cx 0 w dv mv ds ms) (hv : L1 0 w vv vs) (hcx : IsCx p ds ms) (hm : vs.length ≤ 1048576) :
    Calls Try.prog 102 #[.agg #[.int .i64 p, dv, mv], .int .i64 n, vv] w (BB (RowOk p (dimZ ds n) vs) w) := by
  obtain ⟨ad, cap, rfl⟩ := Sl.shape h.dims
  obtain ⟨am, capm, rfl⟩ := Sl.shape h.maps
  obtain ⟨av, cv, rfl⟩ := Sl.shape hv
  have HX0 := Lib.hid (Bx.start (p := p) 38 h)
  obtain ⟨w1, hw1⟩ : ∃ w1, w1 = w.alloc (.cells #[.int .i64 p, .slice ad ds.length cap, .slice am ms.length capm] 38) := ⟨_, rfl⟩
  rw [← hw1] at HX0
  have HV0 := Lib.hid (hv.below HX0.out.below)
  have HCX := Lib.hid hcx
  have hl6 := hcx.1.len1
  have hp1 := hcx.1.prime.lo1
  have hp7 := hcx.1.prime.hi7
  have HDA := Lib.hid (l01Dim_any p n _ _ ds ms w1 HX0.out.cx (by omega))
  obtain ⟨c, hc⟩ := Int.eq_ofNat_of_zero_le (dimZ_b hcx n).1
  have hc8 : c ≤ 8 := by have := (dimZ_b hcx n).2; omega
  rw [hc] at HDA ⊢
  have c0 := HX0.out.c0
  have c1 := HX0.out.c1
  have c2 := HX0.out.c2
  clear h hv hcx hc
  go_enter Try.func102, Try.ntmps102
  go_upto_region 1 with fail
  rw [← hw1]
  clear hw1
  go_wp2_with fail
  refine HDA.out.mono ?_
  rintro e w2 ⟨rfl, hb2⟩
  have HX2 := Lib.hid (HX0.out.next hb2)
  have HV2 := Lib.hid (HV0.out.below hb2)
  clear hb2 c0 c1 c2 HX0 HV0 HDA
  by_cases hl : vs.length = c
  · have HL := Lib.hid hl
    have hq1 : (((vs.length : Nat) : Int) != ((c : Nat) : Int)) = false := by simp [hl]
    clear hl
    go_wp2
    clear hq1
    go_loopw [7] (fun z wr => ∃ (q : Nat), q ≤ vs.length ∧ z = .int .i64 q ∧ Hid (Below w2.heap.size w2 wr) ∧ Hid (∀ q2 (h : q2 < vs.length), q2 < q → 0 ≤ vs[q2] ∧ vs[q2] ≤ p - 1)) (fun z _ => vs.length - (intOf z).toNat)
    case atStart => exact ⟨0, Nat.zero_le _, rfl, Lib.hid (Below.refl _ _), Lib.hid (fun _ _ hj => absurd hj (Nat.not_lt_zero _))⟩
    case round =>
      obtain ⟨q, hq, rfl, HB, HV⟩ := hrel
      obtain ⟨wz, hwz⟩ : ∃ wz : World, wz = wr := ⟨_, rfl⟩
      subst hwz
      by_cases hlq : q < vs.length
      · refine Sl.cases (HV2.out.below HB.out) (fun _ _ hx _ => absurd hlq (by simp [hx])) (fun bn on cn hvn _ _ hcn => ?_)
        injection hvn with e1 e2 e3
        clear e2
        subst e1 e3
        obtain ⟨un, hun, hrn⟩ := hcn q hlq
        obtain ⟨x, hx⟩ : ∃ x, x = vs[q] := ⟨_, rfl⟩
        rw [hrn, ← hx] at hun
        have HXE := Lib.hid hx
        have c0 := (HX2.out.next HB.out).c0
        have HSP : Hid (∀ W, Below wz.heap.size wz W → W.cell? ⟨bn, on + q, none⟩ = some (.int .i64 x) ∧ W.cell? ⟨w.heap.size, 0, none⟩ = some (.int .i64 p)) := Lib.hid (fun W h => ⟨later h (Nat.le_refl _) hun, later h (Nat.le_refl _) c0⟩)
        have HDD : Hid (Below wz.heap.size wz wz.drew) := Lib.hid (Below.refl _ _).drew
        have hwp : IntKind.i64.wrap (p - 1) = p - 1 := IntWalk.i64_in _ (by omega)
        have hq0 : (0 : Int) ≤ (q : Int) := by omega
        have hq2 : (q : Int) < (vs.length : Int) := by omega
        clear hcn hrn hx
        by_cases hxp : 0 ≤ x ∧ x ≤ p - 1
        · have HIN : Hid (∀ W, Calls Try.prog 66 #[.int .i64 x, .int .i64 0, .int .i64 (p - 1)] W (QW (.bool true) W)) := Lib.hid (fun W => spin_yes hxp W)
          have HXP := Lib.hid hxp
          clear hxp
          go_wp2
          go_region_held3 (fun W => W.cell? ⟨bn, on + q, none⟩ = some (.int .i64 x) ∧ W.cell? ⟨w.heap.size, 0, none⟩ = some (.int .i64 p))
            (first | exact HSP.out _ (Below.refl _ _) | exact HSP.out _ HDD.out | go_keep)
            ((go_at_call 66; (with_reducible refine (HIN.out _).mono ?_); rintro e w5 ⟨rfl, rfl⟩))
          have HB6 := Lib.hid (HB.out.trans (HDD.out.mono HB.out.size))
          have HV6 : Hid (∀ q2 (h : q2 < vs.length), q2 < q + 1 → 0 ≤ vs[q2] ∧ vs[q2] ≤ p - 1) := Lib.hid (fun q2 h hj => by
            by_cases e : q2 = q
            · subst e; rw [← HXE.out]; exact HXP.out
            · exact HV.out q2 h (by omega))
          clear hwp hq0 hq2 c0 hun HSP HIN HDD HV HB
          go_wp2
          go_roundw
          case rel => exact ⟨q + 1, by omega, by go_num, HB6, HV6⟩
          case measure => simp [intOf]; omega
        · have HIN : Hid (∀ W, Calls Try.prog 66 #[.int .i64 x, .int .i64 0, .int .i64 (p - 1)] W (QW (.bool false) W)) := Lib.hid (fun W => spin_no hxp W)
          have HXP := Lib.hid hxp
          clear hxp
          go_wp2
          go_region_held3 (fun W => W.cell? ⟨bn, on + q, none⟩ = some (.int .i64 x) ∧ W.cell? ⟨w.heap.size, 0, none⟩ = some (.int .i64 p))
            (first | exact HSP.out _ (Below.refl _ _) | exact HSP.out _ HDD.out | go_keep)
            ((go_at_call 66; (with_reducible refine (HIN.out _).mono ?_); rintro e w5 ⟨rfl, rfl⟩))
          have HB6 := Lib.hid (HX2.out.next (HB.out.trans (HDD.out.mono HB.out.size))).below
          clear hwp hq0 hq2 c0 hun HSP HIN HDD HV HB
          go_wp2
          go_ret
          exact bb_false HB6.out (fun hh => HXP.out (by rw [HXE.out]; exact hh.2 _ (List.getElem_mem hlq)))
      · have HB6 := Lib.hid (HX2.out.next HB.out).below
        go_wp2
        go_ret
        exact bb_true HB6.out ⟨by rw [HL.out], all_of_lt (fun z hz => HV.out z hz (by omega))⟩
  · have HL := Lib.hid hl
    have hq1 : (((vs.length : Nat) : Int) != ((c : Nat) : Int)) = true := by
      have : ¬ ((vs.length : Int) = (c : Int)) := by omega
      simpa using this
    clear hl
    go_wp2
    go_ret
    exact bb_false HX2.out.below (fun hh => HL.out (by have := hh.1; omega))

end Go.Proofs.Ytiokagnolbddlaa
