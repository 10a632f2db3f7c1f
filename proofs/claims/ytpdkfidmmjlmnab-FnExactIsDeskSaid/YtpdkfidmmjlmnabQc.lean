/-
  impl.squaresToZero by its contract: whether all differentials of differentials are 0, of tables of the right sizes.
  impl.hasSizes, impl.IsComplex by their contracts.
  spec.l01Is, spec.IsComplex by their contracts.
-/
import Derived.Test.YtpdkfidmmjlmnabQb
import Derived.StillTailTactics
import Derived.Deep.Cut
import Derived.Deep.CutRange
namespace Go.Proofs.Ytpdkfidmmjlmnab
open Go.RowKit

/-- Differentials of differentials are 0. -/
def SqOk (p : Int) (ds : List Int) (ms : List (List (List Int))) : Prop :=
  ∀ q, q + 1 < ms.length → ∀ r ∈ ms.getD (q + 1) [], ∀ x ∈ apT p (ds.getD q 0).toNat r (ms.getD q []), x = 0
/-- All that a complex is asked besides. -/
structure PreOk (p : Int) (ds : List Int) (ms : List (List (List Int))) : Prop where
  prime : IsP p
  len0 : 1 ≤ ds.length
  len1 : ds.length ≤ 6
  mlen : ms.length + 1 = ds.length
  dims : ∀ d ∈ ds, 0 ≤ d ∧ d ≤ 8
  tabs : ∀ k, k < ms.length → TabOk p (ds.getD (k + 1) 0) (ds.getD k 0) (ms.getD k [])

theorem PreOk.dim {p : Int} {ds : List Int} {ms : List (List (List Int))} (h : PreOk p ds ms) (k : Nat) : 0 ≤ ds.getD k 0 ∧ ds.getD k 0 ≤ 8 := by
  by_cases hk : k < ds.length
  · rw [getD_of_lt _ hk]; exact h.dims _ (List.getElem_mem _)
  · simp [List.getD, show ds.length ≤ k by omega]
theorem PreOk.ap {p : Int} {ds : List Int} {ms : List (List (List Int))} (h : PreOk p ds ms) {q : Nat} (hq : q + 1 < ms.length) {r : List Int} (hr : r ∈ ms.getD (q + 1) []) : ApOk p (ds.getD q 0).toNat r (ms.getD q []) := by
  have h1 := h.tabs (q + 1) hq
  have h0 := h.tabs q (by omega)
  have hd := h.dim q
  refine ⟨h.prime, ?_, (h1.2 r hr).2, fun r2 hr2 => ⟨?_, (h0.2 r2 hr2).2⟩⟩
  · have e1 := (h1.2 r hr).1
    have e2 := h0.1
    omega
  · have e1 := (h0.2 r2 hr2).1
    omega
theorem apT_length {p : Int} {c : Nat} {v : List Int} {t : List (List Int)} (h : ApOk p c v t) : (apT p c v t).length = c := apTo_length h (Nat.le_refl _)

/-- A call that says whether P, and leaves what was there. -/
def BB (P : Prop) (w : World) (e : Ending) (w' : World) : Prop := ∃ b : Bool, e = .returned (.bool b) ∧ Below w.heap.size w w' ∧ (b = true ↔ P)
theorem bb_true {P : Prop} {w w' : World} (hb : Below w.heap.size w w') (h : P) : BB P w (.returned (.bool true)) w' := ⟨true, rfl, hb, by simp [h]⟩
theorem bb_false {P : Prop} {w w' : World} (hb : Below w.heap.size w w') (h : ¬ P) : BB P w (.returned (.bool false)) w' := ⟨false, rfl, hb, by simp [h]⟩

theorem neq_zero {v : List Int} (hv : v.length ≤ 40) (w : World) : (binOp .neq 161 (.agg (ints (pad v))) (.agg #[.int .i64 0, .int .i64 0, .int .i64 0, .int .i64 0, .int .i64 0, .int .i64 0, .int .i64 0, .int .i64 0, .int .i64 0, .int .i64 0, .int .i64 0, .int .i64 0, .int .i64 0, .int .i64 0, .int .i64 0, .int .i64 0, .int .i64 0, .int .i64 0, .int .i64 0, .int .i64 0, .int .i64 0, .int .i64 0, .int .i64 0, .int .i64 0, .int .i64 0, .int .i64 0, .int .i64 0, .int .i64 0, .int .i64 0, .int .i64 0, .int .i64 0, .int .i64 0, .int .i64 0, .int .i64 0, .int .i64 0, .int .i64 0, .int .i64 0, .int .i64 0, .int .i64 0, .int .i64 0])).run Try.prog w = .ok (.bool (!decide (∀ x ∈ v, x = 0))) w := by
  have h := run_neq_ints (P := Try.prog) w (pad v) (List.replicate 40 0) Try.underlyingV Try.underlying2 Try.infoI1 (pad_length hv) (by simp)
  rw [show (#[.int .i64 0, .int .i64 0, .int .i64 0, .int .i64 0, .int .i64 0, .int .i64 0, .int .i64 0, .int .i64 0, .int .i64 0, .int .i64 0, .int .i64 0, .int .i64 0, .int .i64 0, .int .i64 0, .int .i64 0, .int .i64 0, .int .i64 0, .int .i64 0, .int .i64 0, .int .i64 0, .int .i64 0, .int .i64 0, .int .i64 0, .int .i64 0, .int .i64 0, .int .i64 0, .int .i64 0, .int .i64 0, .int .i64 0, .int .i64 0, .int .i64 0, .int .i64 0, .int .i64 0, .int .i64 0, .int .i64 0, .int .i64 0, .int .i64 0, .int .i64 0, .int .i64 0, .int .i64 0] : Array Value) = ints (List.replicate 40 0) from by kernel_rfl, h]
  have e := pad_zero hv
  by_cases hh : ∀ x ∈ v, x = 0
  · rw [decide_eq_true hh, decide_eq_true (e.2 hh)]
  · rw [decide_eq_false hh, decide_eq_false (fun h2 => hh (e.1 h2))]

/-- A cell of what was there, read in a later world. -/
theorem later {w w' : World} {b o : Nat} {u : Value} {B : Nat} (hb : Below B w w') (hB : w.heap.size ≤ B) (h : w.cell? ⟨b, o, none⟩ = some u) : w'.cell? ⟨b, o, none⟩ = some u := by
  rw [hb.cell (p := ⟨b, o, none⟩) (Nat.lt_of_lt_of_le (cell_lt h) hB), h]

theorem mem_getD {α : Type} {xss : List (List α)} {q j : Nat} (h : q < xss.length) (h2 : j < (xss[q]).length) : (xss[q])[j] ∈ xss.getD q [] := by
  rw [getD_of_lt _ h]; exact List.getElem_mem _

set_option maxHeartbeats 3200000 in
set_option maxRecDepth 100000 in
theorem squares_any (p : Int) (dv mv : Value) (ds : List Int) (ms : List (List (List Int))) (w : World) (h : Cx 0 w dv mv ds ms) (ok : PreOk p ds ms) :
    Calls Try.prog 151 #[.agg #[.int .i64 p, dv, mv]] w (BB (SqOk p ds ms) w) := by
  have hlen0 := ok.len1
  have hmlen := Lib.hid ok.mlen
  have hml : ms.length ≤ 5 := by have := ok.mlen; have := ok.len1; omega
  have OK := Lib.hid ok
  clear ok
  have hb0 : Below w.heap.size w (w.alloc (.cells #[.int .i64 p, dv, mv] 31)) := (Below.refl _ _).alloc (Nat.le_refl _) _
  have HB0 := Lib.hid hb0
  clear hb0
  refine Sl.cases h.maps (fun ad cap hx hv' => ?_) (fun bm om capm hv' _ hpos hcl => ?_)
  · subst hx hv'
    clear h
    go_enter Try.func151, Try.ntmps151
    go_wp2
    refine wp_loop_rounds 1 ?_
    rw [rounds_succ]
    go_wp2
    go_ret
    exact bb_true HB0.out (fun q hq => absurd hq (by simp))
  · subst hv'
    refine Sl.cases h.dims (fun ad cap hx hv' => absurd hmlen.out (by subst hx; simp)) (fun bd od capd hv' _ hposd hcld => ?_)
    subst hv'
    have HC := Lib.hid hcl
    have HD := Lib.hid hcld
    clear h hcl hcld
    go_enter Try.func151, Try.ntmps151
    go_wp2
    go_loopw [3, 5, 6, 20] (fun i _ _ _ wr => ∃ (q : Nat), q ≤ ms.length ∧ i = .int .i64 ((q : Int) + 1) ∧ Below (w.heap.size + 1) (w.alloc (.cells #[.int .i64 p, .slice (some ⟨bd, od, none⟩) ds.length capd, .slice (some ⟨bm, om, none⟩) ms.length capm] 31)) wr ∧
      Hid (∀ q2, q2 < q → q2 + 1 < ms.length → ∀ r ∈ ms.getD (q2 + 1) [], ∀ x ∈ apT p (ds.getD q2 0).toNat r (ms.getD q2 []), x = 0)) (fun i _ _ _ _ => ms.length - (intOf i - 1).toNat)
    case atStart => exact ⟨0, Nat.zero_le _, rfl, Below.refl _ _, Lib.hid (fun _ h => absurd h (Nat.not_lt_zero _))⟩
    case round =>
      obtain ⟨q, hq, rfl, hbel, HSQ⟩ := hrel
      have HBEL := Lib.hid hbel
      clear hbel
      have hbw : Below w.heap.size w wr := HB0.out.trans (HBEL.out.mono (Nat.le_succ _))
      have HBW := Lib.hid hbw
      clear hbw
      have c0 : wr.cell? ⟨w.heap.size, 0, none⟩ = some (.int .i64 p) := later HBEL.out (by simp) (by simp)
      have c1 : wr.cell? ⟨w.heap.size, 1, none⟩ = some (.slice (some ⟨bd, od, none⟩) ds.length capd) := later HBEL.out (by simp) (by simp)
      have c2 : wr.cell? ⟨w.heap.size, 2, none⟩ = some (.slice (some ⟨bm, om, none⟩) ms.length capm) := later HBEL.out (by simp) (by simp)
      by_cases hlt : q + 1 < ms.length
      · obtain ⟨u1, hu1, hr1⟩ := HC.out (q + 1) hlt
        obtain ⟨u0, hu0, hr0⟩ := HC.out q (by omega)
        obtain ⟨ud, hud, hrd⟩ := HD.out q (by have := hmlen.out; omega)
        have hu1' : wr.cell? ⟨bm, om + (q + 1), none⟩ = some u1 := later HBW.out (Nat.le_refl _) hu1
        have hu0' : wr.cell? ⟨bm, om + q, none⟩ = some u0 := later HBW.out (Nat.le_refl _) hu0
        have hud' : wr.cell? ⟨bd, od + q, none⟩ = some ud := later HBW.out (Nat.le_refl _) hud
        have hdim := OK.out.dim q
        have hql : q < ds.length := by have := hmlen.out; omega
        obtain ⟨c, hc⟩ := Int.eq_ofNat_of_zero_le hdim.1
        have hc8 : c ≤ 8 := by omega
        have hud2 : wr.cell? ⟨bd, od + q, none⟩ = some (.int .i64 (c : Int)) := by rw [hud', hrd, ← getD_of_lt 0 hql, hc]
        have HCC : Hid ((ds.getD q 0).toNat = c) := Lib.hid (by omega)
        have htab := OK.out.tabs (q + 1) hlt
        rw [getD_of_lt _ hlt] at htab
        have htl : (ms[q + 1]).length ≤ 8 := by have := htab.1; have := OK.out.dim (q + 1 + 1); omega
        have hrl : ∀ r ∈ ms[q + 1], r.length ≤ 8 := fun r hr => by have := (htab.2 r hr).1; have := OK.out.dim (q + 1); omega
        have HRL := Lib.hid hrl
        have HR1 := Lib.hid hr1
        have HR0 := Lib.hid hr0
        have HNEXT : Hid ((∀ r ∈ ms[q + 1], ∀ x ∈ apT p c r (ms.getD q []), x = 0) → ∀ q2, q2 < q + 1 → q2 + 1 < ms.length → ∀ r ∈ ms.getD (q2 + 1) [], ∀ x ∈ apT p (ds.getD q2 0).toNat r (ms.getD q2 []), x = 0) := Lib.hid (fun hall q2 hq2 hlt2 => by
          by_cases e : q2 = q
          · subst e
            rw [HCC.out, getD_of_lt _ hlt]
            exact hall
          · exact HSQ.out q2 (by omega) hlt2)
        obtain ⟨t1, ht1⟩ : ∃ t1, t1 = ms[q + 1] := ⟨_, rfl⟩
        have HT1 := Lib.hid ht1
        rw [← ht1] at htl
        have HR1' : Hid (L2 0 w u1 t1) := Lib.hid (by rw [ht1]; exact HR1.out)
        have HNEXT' : Hid ((∀ j (hj : j < t1.length), ∀ x ∈ apT p c t1[j] (ms.getD q []), x = 0) → ∀ q2, q2 < q + 1 → q2 + 1 < ms.length → ∀ r ∈ ms.getD (q2 + 1) [], ∀ x ∈ apT p (ds.getD q2 0).toNat r (ms.getD q2 []), x = 0) := Lib.hid (fun hall => HNEXT.out (fun r hr => by
          rw [← ht1] at hr
          obtain ⟨j, hj, rfl⟩ := List.getElem_of_mem hr
          exact hall j hj))
        have HAP : Hid (∀ j (hj : j < t1.length), ApOk p c t1[j] (ms.getD q [])) := Lib.hid (fun j hj => by
          have := OK.out.ap hlt (r := t1[j]) (by rw [getD_of_lt _ hlt, ← ht1]; exact List.getElem_mem _)
          rwa [HCC.out] at this)
        have HNOT : Hid (∀ j (hj : j < t1.length), ¬ (∀ x ∈ apT p c t1[j] (ms.getD q []), x = 0) → ¬ SqOk p ds ms) := Lib.hid (fun j hj hne hs => hne (by
          have := hs q hlt t1[j] (by rw [getD_of_lt _ hlt, ← ht1]; exact List.getElem_mem _)
          rwa [HCC.out] at this))
        have HRLL : Hid (∀ j (hj : j < t1.length), (t1[j]).length ≤ 1048576) := Lib.hid (fun j hj => by have := HRL.out t1[j] (by rw [← ht1]; exact List.getElem_mem _); omega)
        have HR0' : Hid (L2 0 w u0 (ms.getD q [])) := Lib.hid (by rw [getD_of_lt _ (by omega)]; exact HR0.out)
        obtain ⟨t0, ht0⟩ : ∃ t0, t0 = ms.getD q [] := ⟨_, rfl⟩
        rw [← ht0] at HNEXT' HAP HNOT HR0'
        have HU0 := Lib.hid hu0
        have HUD : Hid (w.cell? ⟨bd, od + q, none⟩ = some (.int .i64 (c : Int))) := Lib.hid (by rw [hud, hrd, ← getD_of_lt 0 hql, hc])
        clear hu1 hu0 hud hr1 hr0 hrd hud' hdim hc htab hrl ht1 HR1 HR0 HNEXT HRL ht0 HCC
        refine Sl.cases HR1'.out (fun ad1 cap1 hx1 hv1 => ?_) (fun b1 o1 cap1 hv1 _ hpos1 hcl1 => ?_)
        · subst hv1
          have HX1 := Lib.hid hx1
          clear hx1
          go_wp2
          refine wp_loop_rounds 1 ?_
          rw [rounds_succ]
          go_wp2
          go_roundw
          case rel => exact ⟨q + 1, by omega, by go_num, HBEL.out, Lib.hid (HNEXT'.out (fun j hj => absurd hj (by rw [HX1.out]; simp)))⟩
          case measure => simp [intOf]; omega
        · subst hv1
          have HC1 := Lib.hid hcl1
          clear hcl1
          have hdec : decide ((q : Int) + 1 < (ms.length : Int)) = true := by simp; omega
          obtain ⟨wo, hwo⟩ : ∃ wo : World, wo = wr := ⟨_, rfl⟩
          have HWO := Lib.hid hwo
          clear hwo
          go_wp2
          go_loopw [5, 6, 20] (fun _ _ i wr => ∃ (j : Nat), j ≤ t1.length ∧ i = .int .i64 j ∧ Below (w.heap.size + 1) (w.alloc (.cells #[.int .i64 p, .slice (some ⟨bd, od, none⟩) ds.length capd, .slice (some ⟨bm, om, none⟩) ms.length capm] 31)) wr ∧
            Hid (∀ j2 (hj : j2 < t1.length), j2 < j → ∀ x ∈ apT p c t1[j2] t0, x = 0)) (fun _ _ i _ => t1.length - (intOf i).toNat)
          case atStart => exact ⟨0, Nat.zero_le _, rfl, HBEL.out, Lib.hid (fun _ _ h => absurd h (Nat.not_lt_zero _))⟩
          case round =>
            clear c0 c1 c2 hu1' hu0' hud2
            obtain ⟨j, hj, rfl, hbel2, HJ⟩ := hrel
            have HBEL2 := Lib.hid hbel2
            clear hbel2
            have HBW2 := Lib.hid (HB0.out.trans (HBEL2.out.mono (Nat.le_succ _)))
            have c0 : wr.cell? ⟨w.heap.size, 0, none⟩ = some (.int .i64 p) := later HBEL2.out (by simp) (by simp)
            have c1 : wr.cell? ⟨w.heap.size, 1, none⟩ = some (.slice (some ⟨bd, od, none⟩) ds.length capd) := later HBEL2.out (by simp) (by simp)
            have c2 : wr.cell? ⟨w.heap.size, 2, none⟩ = some (.slice (some ⟨bm, om, none⟩) ms.length capm) := later HBEL2.out (by simp) (by simp)
            by_cases hltj : j < t1.length
            · obtain ⟨u2, hu2, hr2⟩ := HC1.out j hltj
              have hu2' : wr.cell? ⟨b1, o1 + j, none⟩ = some u2 := later HBW2.out (Nat.le_refl _) hu2
              have hu0' : wr.cell? ⟨bm, om + q, none⟩ = some u0 := later HBW2.out (Nat.le_refl _) HU0.out
              have hud2 : wr.cell? ⟨bd, od + q, none⟩ = some (.int .i64 (c : Int)) := later HBW2.out (Nat.le_refl _) HUD.out
              have HR2 := Lib.hid hr2
              clear hu2 hr2
              have hql' : q < ms.length := by omega
              go_wp2
              have hw1 : IntKind.i64.wrap ((q : Int) + 1 - 1) = (q : Int) := by rw [show (q : Int) + 1 - 1 = q by omega]; exact IntWalk.i64_in _ (by omega)
              have hw2 : IntKind.i64.wrap (q : Int) = (q : Int) := IntWalk.i64_in _ (by omega)
              have hq0 : (0 : Int) ≤ (q : Int) := by omega
              have hq1 : (q : Int) < (ms.length : Int) := by omega
              have hq2 : (q : Int) < (ds.length : Int) := by omega
              go_still_tail 15, (by kernel_rfl)
              change wpList _ _ _ _ _ wr.drew
              clear hw1 hw2 hq0 hq1 hq2
              have HBD := Lib.hid (HBW2.out.drew)
              have hall := HAP.out j hltj
              have hlen : (apT p c t1[j] t0).length ≤ 40 := by rw [apT_length hall]; omega
              have HALLJ := Lib.hid hall
              have HLEN := Lib.hid hlen
              clear hall hlen
              go_wp2_with fail
              refine (applyTable_any p c u2 u0 t1[j] t0 _ HALLJ.out (HR2.out.below HBD.out) (HR0'.out.below HBD.out) (HRLL.out j hltj) (by omega)).mono ?_
              rintro e w1 ⟨u, rfl, hru, hb1⟩
              have HRU := Lib.hid hru
              have HB1 := Lib.hid (HBEL2.out.drew.trans (hb1.mono (by have := HBEL2.out.size; simp at this; simp; omega)))
              clear hru hb1
              go_wp2_with fail
              refine (vectorOf_any u (apT p c t1[j] t0) _ (HRU.out.lower (Nat.zero_le _)) HLEN.out).mono ?_
              rintro e w2 ⟨rfl, hb2⟩
              have HB2 := Lib.hid (HB1.out.trans (hb2.mono (by have := HB1.out.size; simp at this; omega)))
              have HB2W := Lib.hid (HB0.out.trans (HB2.out.mono (Nat.le_succ _)))
              clear hb2
              have hneq := neq_zero HLEN.out
              by_cases hz : ∀ x ∈ apT p c t1[j] t0, x = 0
              · rw [decide_eq_true hz] at hneq
                have HZ := Lib.hid hz
                clear hz
                go_wp2
                go_roundw
                case rel => exact ⟨j + 1, by omega, by go_num, HB2.out, Lib.hid (fun j2 hj2 hlt2 => by
                  by_cases e : j2 = j
                  · subst e; exact HZ.out
                  · exact HJ.out j2 hj2 (by omega))⟩
                case measure => simp [intOf]; omega
              · rw [decide_eq_false hz] at hneq
                have HZ := Lib.hid hz
                clear hz
                go_wp2
                go_ret
                exact bb_false HB2W.out (HNOT.out j hltj HZ.out)
            · go_wp2
              go_roundw
              case rel => exact ⟨q + 1, by omega, by go_num, HBEL2.out, Lib.hid (HNEXT'.out (fun j2 hj2 => HJ.out j2 hj2 (by omega)))⟩
              case measure => simp [intOf]; omega
      · go_wp2
        go_ret
        exact bb_true HBW.out (fun q2 hq2 => HSQ.out q2 (by omega) hq2)
end Go.Proofs.Ytpdkfidmmjlmnab

namespace Go.Proofs.Ytpdkfidmmjlmnab
open Go.RowKit

def IsCx (p : Int) (ds : List Int) (ms : List (List (List Int))) : Prop := PreOk p ds ms ∧ SqOk p ds ms

theorem bw_yes {f : FuncId} {args : Array Value} {w : World} {P : Prop} (h : Calls Try.prog f args w (BW P w)) (hp : P) : Calls Try.prog f args w (QW (.bool true) w) :=
  h.mono fun _ _ ⟨b, he, hw, hb⟩ => ⟨by rw [he, hb.2 hp], hw⟩
theorem bw_no {f : FuncId} {args : Array Value} {w : World} {P : Prop} (h : Calls Try.prog f args w (BW P w)) (hp : ¬ P) : Calls Try.prog f args w (QW (.bool false) w) :=
  h.mono fun _ _ ⟨b, he, hw, hb⟩ => ⟨by
    have : b = false := by cases b with | false => rfl | true => exact absurd (hb.1 rfl) hp
    rw [he, this], hw⟩
theorem qw_quiet {f : FuncId} {args : Array Value} {w : World} {n : Nat} {v : Value} (h : Calls Try.prog f args (w.drewN n) (QW v (w.drewN n))) : Calls Try.prog f args (w.drewN n) fun e w'' => e = .returned v ∧ ∃ m, w'' = w.drewN m :=
  h.mono fun _ _ ⟨he, hw⟩ => ⟨he, n, hw.symm⟩

theorem topOf_any (p : Int) (dv mv : Value) (n : Nat) (ad : Option Addr) (cap : Nat) (w : World) (hd : dv = .slice ad n cap) (hn : n ≤ 1048576) :
    Calls Try.prog 157 #[.agg #[.int .i64 p, dv, mv]] w (BR (.int .i64 ((n : Int) - 1)) w) := by
  subst hd
  have hb0 : Below w.heap.size w (w.alloc (.cells #[.int .i64 p, .slice ad n cap, mv] 31)) := (Below.refl _ _).alloc (Nat.le_refl _) _
  have HB0 := Lib.hid hb0
  clear hb0
  go_enter Try.func157, Try.ntmps157
  go_wp2
  go_ret
  exact ⟨rfl, HB0.out⟩

/-- What stands in the boxes of a call over a complex, in whatever later world. -/
structure Bx (w wr : World) (b : Nat) (p : Int) (dv mv : Value) (ds : List Int) (ms : List (List (List Int))) : Prop where
  below : Below w.heap.size w wr
  c0 : wr.cell? ⟨b, 0, none⟩ = some (.int .i64 p)
  c1 : wr.cell? ⟨b, 1, none⟩ = some dv
  c2 : wr.cell? ⟨b, 2, none⟩ = some mv
  lt : b < wr.heap.size
  cx : Cx 0 wr dv mv ds ms
theorem Bx.next {w wr w' : World} {b : Nat} {p : Int} {dv mv : Value} {ds : List Int} {ms : List (List (List Int))} (h : Bx w wr b p dv mv ds ms) (hb : Below wr.heap.size wr w') : Bx w w' b p dv mv ds ms :=
  ⟨h.below.trans (hb.mono h.below.size), later hb (Nat.le_refl _) h.c0, later hb (Nat.le_refl _) h.c1, later hb (Nat.le_refl _) h.c2, Nat.lt_of_lt_of_le h.lt hb.size, h.cx.below hb⟩
theorem Bx.start {w : World} {p : Int} {dv mv : Value} {ds : List Int} {ms : List (List (List Int))} (t : TypeId) (h : Cx 0 w dv mv ds ms) : Bx w (w.alloc (.cells #[.int .i64 p, dv, mv] t)) w.heap.size p dv mv ds ms :=
  ⟨(Below.refl _ _).alloc (Nat.le_refl _) _, by simp, by simp, by simp, by simp, h.below ((Below.refl _ _).alloc (Nat.le_refl _) _)⟩

/-- The sizes that hasSizes asks. -/
structure SizesOk (g lo hi : Int) (ds : List Int) (ms : List (List (List Int))) : Prop where
  len0 : 1 ≤ ds.length
  len1 : ds.length ≤ 6
  mlen : ms.length + 1 = ds.length
  dims : AllIn 0 g ds
  tabs : ∀ k, k < ms.length → TabIn lo hi (ds.getD (k + 1) 0) (ds.getD k 0) (ms.getD k [])
theorem pre_sizes {p : Int} {ds : List Int} {ms : List (List (List Int))} (hp : IsP p) (h : SizesOk 8 0 (p - 1) ds ms) : PreOk p ds ms := ⟨hp, h.len0, h.len1, h.mlen, h.dims, h.tabs⟩
theorem sizes_pre {p : Int} {ds : List Int} {ms : List (List (List Int))} (h : PreOk p ds ms) : SizesOk 8 0 (p - 1) ds ms := ⟨h.len0, h.len1, h.mlen, h.dims, h.tabs⟩

theorem hloadC0 (w : World) {b : Nat} {p : Int} {dv mv : Value} (c0 : w.cell? ⟨b, 0, none⟩ = some (.int .i64 p)) (c1 : w.cell? ⟨b, 1, none⟩ = some dv) (c2 : w.cell? ⟨b, 2, none⟩ = some mv) : (Instr.loadAt 31 (.pointer (some ⟨b, 0, none⟩))).run Try.prog w = .ok (.agg #[.int .i64 p, dv, mv]) w := by go_simp
theorem hloadM0 (w : World) {b o : Nat} {x : Value} (h : w.cell? ⟨b, o, none⟩ = some x) : (Instr.loadAt 23 (.pointer (some ⟨b, o, none⟩))).run Try.prog w = .ok x w := by go_simp
theorem hloadD0 (w : World) {b o : Nat} {x : Value} (h : w.cell? ⟨b, o, none⟩ = some x) : (Instr.loadAt 22 (.pointer (some ⟨b, o, none⟩))).run Try.prog w = .ok x w := by go_simp
theorem hneqI0 {a b : Int} {c : Bool} (h : (a != b) = c) (w : World) : (binOp .neq 2 (.int .i64 a) (.int .i64 b)).run Try.prog w = .ok (.bool c) w := by subst h; go_simp
section
variable {P : Program} {md : Region.Mode} {ops : Array Oper} {Q : Exit → Act → World → Prop} {S : World → Prop}
theorem yieldsIf_run0 {o : Oper} {a : Act} {v : Value} (hg : o.guard = none) (hrun : ∀ w, S w → (execOp a.eval o).run P w = .ok (.value v) w) : YieldsIf P ops S o v a :=
  Or.inl ⟨by unfold Region.wanted; rw [hg], hrun⟩
theorem yieldsIf_binG {o : Oper} {a : Act} {x y : Operand} {v u i : Value} {b : BinOp} {t t' : TypeId} (hw : Region.wanted o (yielded ops a.tmps) = true) (ho : o.op = .binOp b t x y t') (hx : a.eval x = u) (hy : a.eval y = i) (hge : ∀ w, (eqGuard b t x y u i).run P w = .ok () w) (hrun : ∀ w, (binOp b t u i).run P w = .ok v w) : YieldsIf P ops S o v a :=
  Or.inl ⟨hw, fun w _ => by
    unfold execOp
    simp only [ho, hx, hy, Sem.run_bind, hge w, hrun w, Result.andThen_ok]
    rfl⟩
end

set_option maxHeartbeats 3200000 in
set_option maxRecDepth 100000 in
theorem hasSizes_any (p g lo hi : Int) (dv mv : Value) (ds : List Int) (ms : List (List (List Int))) (w : World) (h : Cx 0 w dv mv ds ms) (hd : ds.length ≤ 1048576) (hm : Bd3 1048576 ms) :
    Calls Try.prog 150 #[.agg #[.int .i64 p, dv, mv], .int .i64 g, .int .i64 lo, .int .i64 hi] w (BB (SizesOk g lo hi ds ms) w) := by
  have hml : ms.length ≤ 1048576 := hm.1
  have HM := Lib.hid hm
  clear hm
  obtain ⟨ad, cap, rfl⟩ := Sl.shape h.dims
  obtain ⟨am, capm, rfl⟩ := Sl.shape h.maps
  have hx0 := Bx.start (p := p) 31 h
  clear h
  obtain ⟨w1, hw1⟩ : ∃ w1, w1 = w.alloc (.cells #[.int .i64 p, .slice ad ds.length cap, .slice am ms.length capm] 31) := ⟨_, rfl⟩
  rw [← hw1] at hx0
  have HX1 := Lib.hid hx0
  have c0 := hx0.c0
  have c1 := hx0.c1
  have c2 := hx0.c2
  clear hx0
  have HTOP := Lib.hid (fun W => topOf_any p (.slice ad ds.length cap) (.slice am ms.length capm) ds.length ad cap W rfl hd)
  have HDIM : Hid (∀ W, Below w1.heap.size w1 W → Calls Try.prog 194 #[.slice ad ds.length cap, .int .i64 0, .int .i64 g] W (BW (AllIn 0 g ds) W)) := Lib.hid (fun W h => areWithin_any 0 g _ ds W (HX1.out.cx.below h).dims hd)
  have HDD : Hid (Below w1.heap.size w1 w1.drew) := Lib.hid (Below.refl _ _).drew
  by_cases hr : 0 ≤ (ds.length : Int) - 1 ∧ (ds.length : Int) - 1 ≤ 5
  · have HR := Lib.hid hr
    have HIN := Lib.hid (fun W => in_yes (n := (ds.length : Int) - 1) (lo := 0) (hi := 5) HR.out W)
    by_cases hl : (ms.length : Int) = (ds.length : Int) - 1
    · have HNEQ : Hid (∀ W, (binOp .neq 2 (.int .i64 ms.length) (.int .i64 ((ds.length : Int) - 1))).run Try.prog W = .ok (.bool false) W) := Lib.hid (fun W => hneqI0 (by simp [hl]) W)
      have HL := Lib.hid hl
      clear hl hr
      go_enter Try.func150, Try.ntmps150
      go_upto_region 1 with fail
      rw [← hw1]
      clear hw1
      refine wp_region_held_drew (S := fun W => Hid (Below w1.heap.size w1 W)) (by kernel_rfl) HDD (fun _ => ?_)
      refine held_take (i := 0) (v := (.agg #[.int .i64 p, .slice ad ds.length cap, .slice am ms.length capm])) (some 11) rfl rfl (by kernel_rfl) (by kernel_rfl) (by kernel_rfl) (fun _ _ _ h => h) (yieldsIf_cell (by kernel_rfl) rfl (by kernel_rfl) (fun W h => hloadC0 W (later h.out (Nat.le_refl _) c0) (later h.out (Nat.le_refl _) c1) (later h.out (Nat.le_refl _) c2))) HDD ?_
      refine held_enter (i := 1) (some 12) (f := 157) (args := #[(.agg #[.int .i64 p, .slice ad ds.length cap, .slice am ms.length capm])]) (by kernel_rfl) rfl rfl rfl (by kernel_rfl) (HTOP.out _) ?_ (fun c w' h => by cases h.1) (fun w' h => by cases h.1)
      rintro e4 w4 ⟨he4, hb4⟩
      injection he4 with he4
      subst he4
      have HB4 : Hid (Below w1.heap.size w1 w4) := Lib.hid (HDD.out.trans hb4)
      clear hb4
      refine ⟨HB4, ?_⟩
      refine held_enter (i := 2) (some 13) (f := 130) (args := #[.int .i64 ((ds.length : Int) - 1), .int .i64 0, .int .i64 5]) (by kernel_rfl) rfl rfl rfl (by kernel_rfl) (HIN.out _) ?_ (fun c w' h => by cases h.1) (fun w' h => by cases h.1)
      rintro e5 w5 ⟨he5, hw5⟩
      injection he5 with he5
      subst he5 hw5
      refine ⟨HB4, ?_⟩
      refine held_take (i := 3) (v := .bool false) (some 14) rfl rfl (by kernel_rfl) (by kernel_rfl) (by kernel_rfl) (fun _ _ _ h => h) (yieldsIf_run0 (by kernel_rfl) (fun W _ => by kernel_rfl)) HB4 ?_
      refine held_take (i := 4) (v := .bool false) (some 15) rfl rfl (by kernel_rfl) (by kernel_rfl) (by kernel_rfl) (fun _ _ _ h => h) (yieldsIf_move (by kernel_rfl) rfl (by kernel_rfl)) HB4 ?_
      refine held_take (i := 5) (v := .pointer (some ⟨w.heap.size, 2, none⟩)) (some 16) rfl rfl (by kernel_rfl) (by kernel_rfl) (by kernel_rfl) (fun _ _ _ h => h) (yieldsIf_runG (by kernel_rfl) (fun W _ => by kernel_rfl)) HB4 ?_
      refine held_take (i := 6) (v := .slice am ms.length capm) (some 17) rfl rfl (by kernel_rfl) (by kernel_rfl) (by kernel_rfl) (fun _ _ _ h => h) (yieldsIf_cellG (by kernel_rfl) rfl (by kernel_rfl) (fun W h => hloadM0 W (later h.out (Nat.le_refl _) c2))) HB4 ?_
      refine held_take (i := 7) (v := .int .i64 ms.length) (some 18) rfl rfl (by kernel_rfl) (by kernel_rfl) (by kernel_rfl) (fun _ _ _ h => h) (yieldsIf_runG (by kernel_rfl) (fun W _ => by kernel_rfl)) HB4 ?_
      refine held_take (i := 8) (v := (.agg #[.int .i64 p, .slice ad ds.length cap, .slice am ms.length capm])) (some 19) rfl rfl (by kernel_rfl) (by kernel_rfl) (by kernel_rfl) (fun _ _ _ h => h) (yieldsIf_cellG (by kernel_rfl) rfl (by kernel_rfl) (fun W h => hloadC0 W (later h.out (Nat.le_refl _) c0) (later h.out (Nat.le_refl _) c1) (later h.out (Nat.le_refl _) c2))) HB4 ?_
      refine held_enterG (i := 9) (some 20) (f := 157) (args := #[(.agg #[.int .i64 p, .slice ad ds.length cap, .slice am ms.length capm])]) (by kernel_rfl) rfl (by kernel_rfl) rfl (by kernel_rfl) (HTOP.out _) ?_ (fun c w' h => by cases h.1) (fun w' h => by cases h.1)
      rintro e5 w5 ⟨he5, hb5⟩
      injection he5 with he5
      subst he5
      have HB5 : Hid (Below w1.heap.size w1 w5) := Lib.hid (HB4.out.trans (hb5.mono HB4.out.size))
      clear hb5
      refine ⟨HB5, ?_⟩
      refine held_take (i := 10) (v := .bool false) (some 21) rfl rfl (by kernel_rfl) (by kernel_rfl) (by kernel_rfl) (fun _ _ _ h => h) (yieldsIf_binG (by kernel_rfl) rfl (by kernel_rfl) (by kernel_rfl) (fun _ => by kernel_rfl) (fun W => HNEQ.out W)) HB5 ?_
      refine held_take (i := 11) (v := .bool false) (some 22) rfl rfl (by kernel_rfl) (by kernel_rfl) (by kernel_rfl) (fun _ _ _ h => h) (yieldsIf_run0 (by kernel_rfl) (fun W _ => by kernel_rfl)) HB5 ?_
      refine held_take (i := 12) (v := .bool false) (some 23) rfl rfl (by kernel_rfl) (by kernel_rfl) (by kernel_rfl) (fun _ _ _ h => h) (yieldsIf_move (by kernel_rfl) rfl (by kernel_rfl)) HB5 ?_
      refine held_take (i := 13) (v := .pointer (some ⟨w.heap.size, 1, none⟩)) (some 24) rfl rfl (by kernel_rfl) (by kernel_rfl) (by kernel_rfl) (fun _ _ _ h => h) (yieldsIf_runG (by kernel_rfl) (fun W _ => by kernel_rfl)) HB5 ?_
      refine held_take (i := 14) (v := .slice ad ds.length cap) (some 25) rfl rfl (by kernel_rfl) (by kernel_rfl) (by kernel_rfl) (fun _ _ _ h => h) (yieldsIf_cellG (by kernel_rfl) rfl (by kernel_rfl) (fun W h => hloadD0 W (later h.out (Nat.le_refl _) c1))) HB5 ?_
      refine held_take (i := 15) (v := .int .i64 g) (some 26) rfl rfl (by kernel_rfl) (by kernel_rfl) (by kernel_rfl) (fun _ _ _ h => h) (yieldsIf_runG (by kernel_rfl) (fun W _ => by kernel_rfl)) HB5 ?_
      refine held_enterG (i := 16) (some 27) (f := 194) (args := #[.slice ad ds.length cap, .int .i64 0, .int .i64 g]) (by kernel_rfl) rfl (by kernel_rfl) rfl (by kernel_rfl) (HDIM.out _ HB5.out) ?_ (fun c w' h => by obtain ⟨_, h, _⟩ := h; cases h) (fun w' h => by obtain ⟨_, h, _⟩ := h; cases h)
      rintro e6 w6 ⟨bb, he6, hw6, hbb⟩
      injection he6 with he6
      subst he6 hw6
      have HBB := Lib.hid hbb
      clear hbb
      refine ⟨HB5, ?_⟩
      refine held_take (i := 17) (v := .bool (!bb)) (some 28) rfl rfl (by kernel_rfl) (by kernel_rfl) (by kernel_rfl) (fun _ _ _ h => h) (yieldsIf_runG (by kernel_rfl) (fun W _ => by kernel_rfl)) HB5 ?_
      refine held_take (i := 18) (v := .bool (!bb)) (some 29) rfl rfl (by kernel_rfl) (by kernel_rfl) (by kernel_rfl) (fun _ _ _ h => h) (yieldsIf_run0 (by kernel_rfl) (fun W _ => by kernel_rfl)) HB5 ?_
      refine wpAnyH_done (by kernel_rfl) ?_ _
      simp only [Act.put, List.setIfInBounds_toArray, List.set_cons_zero, List.set_cons_succ]
      have HX5 := Lib.hid (HX1.out.next HB5.out)
      clear c0 c1 c2 HTOP HDIM HDD HNEQ HIN HB4
      cases bb with
      | false =>
        have HBF : Hid (¬ AllIn 0 g ds) := Lib.hid (fun h => absurd (HBB.out.2 h) (by simp))
        clear HBB
        go_wp2
        go_ret
        exact bb_false HX5.out.below (fun h => HBF.out h.dims)
      | true =>
        have HDIMS : Hid (AllIn 0 g ds) := Lib.hid (HBB.out.1 (by simp))
        have c2 := HX5.out.c2
        clear HBB
        simp only [Bool.not_true]
        go_wp2
        clear c2
        go_loopw [9, 10, 33] (fun _ _ i wr => ∃ (k m : Nat), k ≤ ms.length ∧ i = .int .i64 k ∧ wr = w5.drewN m ∧ Hid (∀ j, j < ms.length → j < k → TabIn lo hi (ds.getD (j + 1) 0) (ds.getD j 0) (ms.getD j []))) (fun _ _ i _ => ms.length - (intOf i).toNat)
        case atStart => exact ⟨0, 0, Nat.zero_le _, rfl, rfl, Lib.hid (fun _ _ h => absurd h (Nat.not_lt_zero _))⟩
        case round =>
          obtain ⟨k, m, hk, rfl, hw, HD⟩ := hrel
          have HXR : Hid (Bx w wr w.heap.size p (.slice ad ds.length cap) (.slice am ms.length capm) ds ms) := Lib.hid (by rw [hw]; exact HX5.out.next (drewN_below _ m))
          have HW := Lib.hid hw
          clear hw
          have c0 := HXR.out.c0
          have c1 := HXR.out.c1
          have c2 := HXR.out.c2
          by_cases hlt : k < ms.length
          · refine Sl.cases HXR.out.cx.dims (fun _ _ hx _ => absurd HR.out (by simp [hx])) (fun bd od capd hv _ hposd hcld => ?_)
            injection hv with e1 _ e3
            subst e1 e3
            refine Sl.cases HXR.out.cx.maps (fun _ _ hx _ => absurd hlt (by simp [hx])) (fun bm om capm2 hv _ hposm hclm => ?_)
            injection hv with e1 _ e3
            subst e1 e3
            have hd1 : k + 1 < ds.length := by have := HL.out; omega
            obtain ⟨u, hu, hr⟩ := hclm k hlt
            obtain ⟨v0, hv0, hr0⟩ := hcld k (by omega)
            obtain ⟨v1, hv1, hr1⟩ := hcld (k + 1) hd1
            rw [hr0] at hv0
            rw [hr1] at hv1
            obtain ⟨d0, hd0⟩ : ∃ d, d = ds[k] := ⟨_, rfl⟩
            obtain ⟨d1, hd1'⟩ : ∃ d, d = ds[k + 1] := ⟨_, rfl⟩
            rw [← hd0] at hv0
            rw [← hd1'] at hv1
            have HE := Lib.hid (fun (m2 : Nat) => isTableWithin_any lo hi d1 d0 u ms[k] (wr.drewN m2) (hr.below (drewN_below wr m2)) (HM.out.2 _ (List.getElem_mem hlt)))
            have HT : Hid (TabIn lo hi (ds.getD (k + 1) 0) (ds.getD k 0) (ms.getD k []) ↔ TabIn lo hi d1 d0 ms[k]) := Lib.hid (by rw [getD_of_lt _ hd1, getD_of_lt _ (by omega : k < ds.length), getD_of_lt _ hlt, hd0, hd1'])
            clear hr hr0 hr1 hcld hclm hd0 hd1'
            have hw1 : IntKind.i64.wrap ((k : Int) + 1) = (k : Int) + 1 := IntWalk.i64_in _ (by omega)
            have hq3 : (0 : Int) ≤ (k : Int) + 1 := by omega
            have hq4 : (k : Int) + 1 < (ds.length : Int) := by omega
            have hq5 : ((k : Int) + 1).toNat = k + 1 := by omega
            have hq6 : (k : Int) < (ds.length : Int) := by omega
            by_cases ht : TabIn lo hi d1 d0 ms[k]
            · have HEY : Hid (∀ m2, Calls Try.prog 191 #[u, .int .i64 d1, .int .i64 d0, .int .i64 lo, .int .i64 hi] (wr.drewN m2) (QW (.bool true) (wr.drewN m2))) := Lib.hid (fun m2 => bw_yes (HE.out m2) ht)
              have HTY := Lib.hid ht
              clear ht HE
              go_wp2
              go_quiet ((go_at_call 191; exact qw_quiet (HEY.out _)))
              clear hw1 hq3 hq4 hq5 hq6
              go_wp2
              go_roundw
              case rel => exact ⟨k + 1, m + nq, by omega, by go_num, by rw [HW.out, World.drewN_drewN], Lib.hid (fun j h1 hjk => by
                by_cases e : j = k
                · subst e; exact HT.out.2 HTY.out
                · exact HD.out j h1 (by omega))⟩
              case measure => simp [intOf]; omega
            · have HEY : Hid (∀ m2, Calls Try.prog 191 #[u, .int .i64 d1, .int .i64 d0, .int .i64 lo, .int .i64 hi] (wr.drewN m2) (QW (.bool false) (wr.drewN m2))) := Lib.hid (fun m2 => bw_no (HE.out m2) ht)
              have HTY := Lib.hid ht
              clear ht HE
              go_wp2
              go_quiet ((go_at_call 191; exact qw_quiet (HEY.out _)))
              clear hw1 hq3 hq4 hq5 hq6
              go_wp2
              go_ret
              exact bb_false (HXR.out.next (drewN_below _ nq)).below (fun h => HTY.out (HT.out.1 (h.tabs k hlt)))
          · go_wp2
            go_ret
            exact bb_true HXR.out.below ⟨by have := HR.out; omega, by have := HR.out; omega, by have := HL.out; omega, HDIMS.out, fun j hj => HD.out j hj (by omega)⟩
    · have HNEQ : Hid (∀ W, (binOp .neq 2 (.int .i64 ms.length) (.int .i64 ((ds.length : Int) - 1))).run Try.prog W = .ok (.bool true) W) := Lib.hid (fun W => hneqI0 (by simp [hl]) W)
      have HL := Lib.hid hl
      clear hl hr
      go_enter Try.func150, Try.ntmps150
      go_upto_region 1 with fail
      rw [← hw1]
      clear hw1
      refine wp_region_held_drew (S := fun W => Hid (Below w1.heap.size w1 W)) (by kernel_rfl) HDD (fun _ => ?_)
      refine held_take (i := 0) (v := (.agg #[.int .i64 p, .slice ad ds.length cap, .slice am ms.length capm])) (some 11) rfl rfl (by kernel_rfl) (by kernel_rfl) (by kernel_rfl) (fun _ _ _ h => h) (yieldsIf_cell (by kernel_rfl) rfl (by kernel_rfl) (fun W h => hloadC0 W (later h.out (Nat.le_refl _) c0) (later h.out (Nat.le_refl _) c1) (later h.out (Nat.le_refl _) c2))) HDD ?_
      refine held_enter (i := 1) (some 12) (f := 157) (args := #[(.agg #[.int .i64 p, .slice ad ds.length cap, .slice am ms.length capm])]) (by kernel_rfl) rfl rfl rfl (by kernel_rfl) (HTOP.out _) ?_ (fun c w' h => by cases h.1) (fun w' h => by cases h.1)
      rintro e4 w4 ⟨he4, hb4⟩
      injection he4 with he4
      subst he4
      have HB4 : Hid (Below w1.heap.size w1 w4) := Lib.hid (HDD.out.trans hb4)
      clear hb4
      refine ⟨HB4, ?_⟩
      refine held_enter (i := 2) (some 13) (f := 130) (args := #[.int .i64 ((ds.length : Int) - 1), .int .i64 0, .int .i64 5]) (by kernel_rfl) rfl rfl rfl (by kernel_rfl) (HIN.out _) ?_ (fun c w' h => by cases h.1) (fun w' h => by cases h.1)
      rintro e5 w5 ⟨he5, hw5⟩
      injection he5 with he5
      subst he5 hw5
      refine ⟨HB4, ?_⟩
      refine held_take (i := 3) (v := .bool false) (some 14) rfl rfl (by kernel_rfl) (by kernel_rfl) (by kernel_rfl) (fun _ _ _ h => h) (yieldsIf_run0 (by kernel_rfl) (fun W _ => by kernel_rfl)) HB4 ?_
      refine held_take (i := 4) (v := .bool false) (some 15) rfl rfl (by kernel_rfl) (by kernel_rfl) (by kernel_rfl) (fun _ _ _ h => h) (yieldsIf_move (by kernel_rfl) rfl (by kernel_rfl)) HB4 ?_
      refine held_take (i := 5) (v := .pointer (some ⟨w.heap.size, 2, none⟩)) (some 16) rfl rfl (by kernel_rfl) (by kernel_rfl) (by kernel_rfl) (fun _ _ _ h => h) (yieldsIf_runG (by kernel_rfl) (fun W _ => by kernel_rfl)) HB4 ?_
      refine held_take (i := 6) (v := .slice am ms.length capm) (some 17) rfl rfl (by kernel_rfl) (by kernel_rfl) (by kernel_rfl) (fun _ _ _ h => h) (yieldsIf_cellG (by kernel_rfl) rfl (by kernel_rfl) (fun W h => hloadM0 W (later h.out (Nat.le_refl _) c2))) HB4 ?_
      refine held_take (i := 7) (v := .int .i64 ms.length) (some 18) rfl rfl (by kernel_rfl) (by kernel_rfl) (by kernel_rfl) (fun _ _ _ h => h) (yieldsIf_runG (by kernel_rfl) (fun W _ => by kernel_rfl)) HB4 ?_
      refine held_take (i := 8) (v := (.agg #[.int .i64 p, .slice ad ds.length cap, .slice am ms.length capm])) (some 19) rfl rfl (by kernel_rfl) (by kernel_rfl) (by kernel_rfl) (fun _ _ _ h => h) (yieldsIf_cellG (by kernel_rfl) rfl (by kernel_rfl) (fun W h => hloadC0 W (later h.out (Nat.le_refl _) c0) (later h.out (Nat.le_refl _) c1) (later h.out (Nat.le_refl _) c2))) HB4 ?_
      refine held_enterG (i := 9) (some 20) (f := 157) (args := #[(.agg #[.int .i64 p, .slice ad ds.length cap, .slice am ms.length capm])]) (by kernel_rfl) rfl (by kernel_rfl) rfl (by kernel_rfl) (HTOP.out _) ?_ (fun c w' h => by cases h.1) (fun w' h => by cases h.1)
      rintro e5 w5 ⟨he5, hb5⟩
      injection he5 with he5
      subst he5
      have HB5 : Hid (Below w1.heap.size w1 w5) := Lib.hid (HB4.out.trans (hb5.mono HB4.out.size))
      clear hb5
      refine ⟨HB5, ?_⟩
      refine held_take (i := 10) (v := .bool true) (some 21) rfl rfl (by kernel_rfl) (by kernel_rfl) (by kernel_rfl) (fun _ _ _ h => h) (yieldsIf_binG (by kernel_rfl) rfl (by kernel_rfl) (by kernel_rfl) (fun _ => by kernel_rfl) (fun W => HNEQ.out W)) HB5 ?_
      refine held_take (i := 11) (v := .bool true) (some 22) rfl rfl (by kernel_rfl) (by kernel_rfl) (by kernel_rfl) (fun _ _ _ h => h) (yieldsIf_run0 (by kernel_rfl) (fun W _ => by kernel_rfl)) HB5 ?_
      refine held_take (i := 12) (v := .bool true) (some 23) rfl rfl (by kernel_rfl) (by kernel_rfl) (by kernel_rfl) (fun _ _ _ h => h) (yieldsIf_move (by kernel_rfl) rfl (by kernel_rfl)) HB5 ?_
      refine held_skip0 (i := 13) (some 24) rfl rfl (by kernel_rfl) (by kernel_rfl) (by kernel_rfl) (fun _ _ _ h => h) (by kernel_rfl) HB5 ?_
      refine held_skip0 (i := 14) (some 25) rfl rfl (by kernel_rfl) (by kernel_rfl) (by kernel_rfl) (fun _ _ _ h => h) (by kernel_rfl) HB5 ?_
      refine held_skip0 (i := 15) (some 26) rfl rfl (by kernel_rfl) (by kernel_rfl) (by kernel_rfl) (fun _ _ _ h => h) (by kernel_rfl) HB5 ?_
      refine held_skip0 (i := 16) (some 27) rfl rfl (by kernel_rfl) (by kernel_rfl) (by kernel_rfl) (fun _ _ _ h => h) (by kernel_rfl) HB5 ?_
      refine held_skip0 (i := 17) (some 28) rfl rfl (by kernel_rfl) (by kernel_rfl) (by kernel_rfl) (fun _ _ _ h => h) (by kernel_rfl) HB5 ?_
      refine held_take (i := 18) (v := .bool true) (some 29) rfl rfl (by kernel_rfl) (by kernel_rfl) (by kernel_rfl) (fun _ _ _ h => h) (yieldsIf_run0 (by kernel_rfl) (fun W _ => by kernel_rfl)) HB5 ?_
      refine wpAnyH_done (by kernel_rfl) ?_ _
      simp only [Act.put, List.setIfInBounds_toArray, List.set_cons_zero, List.set_cons_succ]
      have HX5 := Lib.hid (HX1.out.next HB5.out)
      clear c0 c1 c2 HTOP HDIM HDD HNEQ HIN HB4
      go_wp2
      go_ret
      exact bb_false HX5.out.below (fun h => HL.out (by have := h.mlen; omega))
  · have HR := Lib.hid hr
    have HIN := Lib.hid (fun W => in_no (n := (ds.length : Int) - 1) (lo := 0) (hi := 5) HR.out W)
    clear hr
    go_enter Try.func150, Try.ntmps150
    go_upto_region 1 with fail
    rw [← hw1]
    clear hw1
    refine wp_region_held_drew (S := fun W => Hid (Below w1.heap.size w1 W)) (by kernel_rfl) HDD (fun _ => ?_)
    refine held_take (i := 0) (v := (.agg #[.int .i64 p, .slice ad ds.length cap, .slice am ms.length capm])) (some 11) rfl rfl (by kernel_rfl) (by kernel_rfl) (by kernel_rfl) (fun _ _ _ h => h) (yieldsIf_cell (by kernel_rfl) rfl (by kernel_rfl) (fun W h => hloadC0 W (later h.out (Nat.le_refl _) c0) (later h.out (Nat.le_refl _) c1) (later h.out (Nat.le_refl _) c2))) HDD ?_
    refine held_enter (i := 1) (some 12) (f := 157) (args := #[(.agg #[.int .i64 p, .slice ad ds.length cap, .slice am ms.length capm])]) (by kernel_rfl) rfl rfl rfl (by kernel_rfl) (HTOP.out _) ?_ (fun c w' h => by cases h.1) (fun w' h => by cases h.1)
    rintro e4 w4 ⟨he4, hb4⟩
    injection he4 with he4
    subst he4
    have HB4 : Hid (Below w1.heap.size w1 w4) := Lib.hid (HDD.out.trans hb4)
    clear hb4
    refine ⟨HB4, ?_⟩
    refine held_enter (i := 2) (some 13) (f := 130) (args := #[.int .i64 ((ds.length : Int) - 1), .int .i64 0, .int .i64 5]) (by kernel_rfl) rfl rfl rfl (by kernel_rfl) (HIN.out _) ?_ (fun c w' h => by cases h.1) (fun w' h => by cases h.1)
    rintro e5 w5 ⟨he5, hw5⟩
    injection he5 with he5
    subst he5 hw5
    refine ⟨HB4, ?_⟩
    refine held_take (i := 3) (v := .bool true) (some 14) rfl rfl (by kernel_rfl) (by kernel_rfl) (by kernel_rfl) (fun _ _ _ h => h) (yieldsIf_run0 (by kernel_rfl) (fun W _ => by kernel_rfl)) HB4 ?_
    refine held_take (i := 4) (v := .bool true) (some 15) rfl rfl (by kernel_rfl) (by kernel_rfl) (by kernel_rfl) (fun _ _ _ h => h) (yieldsIf_move (by kernel_rfl) rfl (by kernel_rfl)) HB4 ?_
    refine held_skip0 (i := 5) (some 16) rfl rfl (by kernel_rfl) (by kernel_rfl) (by kernel_rfl) (fun _ _ _ h => h) (by kernel_rfl) HB4 ?_
    refine held_skip0 (i := 6) (some 17) rfl rfl (by kernel_rfl) (by kernel_rfl) (by kernel_rfl) (fun _ _ _ h => h) (by kernel_rfl) HB4 ?_
    refine held_skip0 (i := 7) (some 18) rfl rfl (by kernel_rfl) (by kernel_rfl) (by kernel_rfl) (fun _ _ _ h => h) (by kernel_rfl) HB4 ?_
    refine held_skip0 (i := 8) (some 19) rfl rfl (by kernel_rfl) (by kernel_rfl) (by kernel_rfl) (fun _ _ _ h => h) (by kernel_rfl) HB4 ?_
    refine held_skip0 (i := 9) (some 20) rfl rfl (by kernel_rfl) (by kernel_rfl) (by kernel_rfl) (fun _ _ _ h => h) (by kernel_rfl) HB4 ?_
    refine held_skip0 (i := 10) (some 21) rfl rfl (by kernel_rfl) (by kernel_rfl) (by kernel_rfl) (fun _ _ _ h => h) (by kernel_rfl) HB4 ?_
    refine held_take (i := 11) (v := .bool true) (some 22) rfl rfl (by kernel_rfl) (by kernel_rfl) (by kernel_rfl) (fun _ _ _ h => h) (yieldsIf_run0 (by kernel_rfl) (fun W _ => by kernel_rfl)) HB4 ?_
    refine held_take (i := 12) (v := .bool true) (some 23) rfl rfl (by kernel_rfl) (by kernel_rfl) (by kernel_rfl) (fun _ _ _ h => h) (yieldsIf_move (by kernel_rfl) rfl (by kernel_rfl)) HB4 ?_
    refine held_skip0 (i := 13) (some 24) rfl rfl (by kernel_rfl) (by kernel_rfl) (by kernel_rfl) (fun _ _ _ h => h) (by kernel_rfl) HB4 ?_
    refine held_skip0 (i := 14) (some 25) rfl rfl (by kernel_rfl) (by kernel_rfl) (by kernel_rfl) (fun _ _ _ h => h) (by kernel_rfl) HB4 ?_
    refine held_skip0 (i := 15) (some 26) rfl rfl (by kernel_rfl) (by kernel_rfl) (by kernel_rfl) (fun _ _ _ h => h) (by kernel_rfl) HB4 ?_
    refine held_skip0 (i := 16) (some 27) rfl rfl (by kernel_rfl) (by kernel_rfl) (by kernel_rfl) (fun _ _ _ h => h) (by kernel_rfl) HB4 ?_
    refine held_skip0 (i := 17) (some 28) rfl rfl (by kernel_rfl) (by kernel_rfl) (by kernel_rfl) (fun _ _ _ h => h) (by kernel_rfl) HB4 ?_
    refine held_take (i := 18) (v := .bool true) (some 29) rfl rfl (by kernel_rfl) (by kernel_rfl) (by kernel_rfl) (fun _ _ _ h => h) (yieldsIf_run0 (by kernel_rfl) (fun W _ => by kernel_rfl)) HB4 ?_
    refine wpAnyH_done (by kernel_rfl) ?_ _
    simp only [Act.put, List.setIfInBounds_toArray, List.set_cons_zero, List.set_cons_succ]
    have HX5 := Lib.hid (HX1.out.next HB4.out)
    clear c0 c1 c2 HTOP HDIM HDD HIN
    go_wp2
    go_ret
    exact bb_false HX5.out.below (fun h => HR.out (by have := h.len0; have := h.len1; omega))

set_option maxHeartbeats 3200000 in
set_option maxRecDepth 100000 in
theorem isComplex_any (p : Int) (dv mv : Value) (ds : List Int) (ms : List (List (List Int))) (w : World) (h : Cx 0 w dv mv ds ms) (hd : ds.length ≤ 1048576) (hm : Bd3 1048576 ms) :
    Calls Try.prog 89 #[.agg #[.int .i64 p, dv, mv]] w (BB (IsCx p ds ms) w) := by
  have HM := Lib.hid hm
  have HD := Lib.hid hd
  clear hm hd
  obtain ⟨ad, cap, rfl⟩ := Sl.shape h.dims
  obtain ⟨am, capm, rfl⟩ := Sl.shape h.maps
  have hx0 := Bx.start (p := p) 31 h
  clear h
  obtain ⟨w1, hw1⟩ : ∃ w1, w1 = w.alloc (.cells #[.int .i64 p, .slice ad ds.length cap, .slice am ms.length capm] 31) := ⟨_, rfl⟩
  rw [← hw1] at hx0
  have HX1 := Lib.hid hx0
  have c0 := hx0.c0
  have c1 := hx0.c1
  have c2 := hx0.c2
  clear hx0
  by_cases hp : IsP p
  · have HP := Lib.hid hp
    have hp0 := hp.lo
    have hp1 := hp.hi
    clear hp
    go_enter Try.func89, Try.ntmps89
    go_upto_region 1 with fail
    rw [← hw1]
    clear hw1
    go_wp2_with fail
    refine (prime_yes HP.out _).mono ?_
    rintro e w' ⟨rfl, rfl⟩
    go_wp2_with fail
    refine (hasSizes_any p 8 0 (p - 1) _ _ ds ms _ HX1.out.cx HD.out HM.out).mono ?_
    rintro e w2 ⟨bb, rfl, hb2, hbb⟩
    have HX2 := Lib.hid (HX1.out.next hb2)
    have HBB := Lib.hid hbb
    clear hbb hb2 c0 c1 c2
    cases bb with
    | true =>
      have HPRE : Hid (PreOk p ds ms) := Lib.hid (pre_sizes HP.out (HBB.out.1 (by simp)))
      have c0 := HX2.out.c0
      have c1 := HX2.out.c1
      have c2 := HX2.out.c2
      clear HBB
      go_wp2_with fail
      refine (squares_any p _ _ ds ms _ HX2.out.cx HPRE.out).mono ?_
      rintro e w3 ⟨bb, rfl, hb3, hbb⟩
      have HBB := Lib.hid hbb
      have HB3 := Lib.hid (HX2.out.next hb3).below
      clear hbb hb3
      go_wp2
      go_ret
      exact ⟨bb, rfl, HB3.out, ⟨fun h => ⟨HPRE.out, HBB.out.1 h⟩, fun h => HBB.out.2 h.2⟩⟩
    | false =>
      have HNO : Hid (¬ IsCx p ds ms) := Lib.hid (fun h => absurd (HBB.out.2 (sizes_pre h.1)) (by simp))
      clear HBB
      go_wp2
      go_ret
      exact bb_false HX2.out.below HNO.out
  · have HP := Lib.hid hp
    clear hp
    go_enter Try.func89, Try.ntmps89
    go_upto_region 1 with fail
    rw [← hw1]
    clear hw1
    go_wp2_with fail
    refine (prime_no HP.out _).mono ?_
    rintro e w' ⟨rfl, rfl⟩
    go_wp2
    go_ret
    exact bb_false HX1.out.below (fun h => HP.out h.1.prime)
end Go.Proofs.Ytpdkfidmmjlmnab

namespace Go.Proofs.Ytpdkfidmmjlmnab
open Go.RowKit

theorem IsCx.tab {p : Int} {ds : List Int} {ms : List (List (List Int))} (h : IsCx p ds ms) {k : Nat} (hk : k < ms.length) : TabOk p (ds.getD (k + 1) 0) (ds.getD k 0) (ms.getD k []) := h.1.tabs k hk

theorem leadOf_neg {xs : List Int} (h : ∀ x ∈ xs, x = 0) : leadOf xs = -1 := leadOf_zero (fun _ hj => h _ (List.getElem_mem hj))
theorem leadOf_pos {xs : List Int} (h : ¬ ∀ x ∈ xs, x = 0) : 0 ≤ leadOf xs := by
  induction xs with
  | nil => exact absurd (by simp) h
  | cons x xs ih =>
    by_cases h0 : x = 0
    · have h2 : ¬ ∀ y ∈ xs, y = 0 := fun hh => h (fun y hy => by
        rcases List.mem_cons.1 hy with e | e
        · rw [e]; exact h0
        · exact hh y e)
      have := ih h2
      simp only [leadOf, h0, if_true]
      rw [if_neg (by omega)]
      omega
    · simp [leadOf, h0]
theorem leadOf_le (xs : List Int) : -1 ≤ leadOf xs ∧ leadOf xs < xs.length := by
  induction xs with
  | nil => simp [leadOf]
  | cons x xs ih =>
    simp only [leadOf, List.length_cons]
    split
    · split
      · constructor <;> omega
      · constructor <;> omega
    · constructor <;> omega

theorem Sl.at {α : Type} {lo : Nat} {R : World → Value → α → Prop} {w : World} {b o n cap : Nat} {xs : List α} (h : Sl lo R w (.slice (some ⟨b, o, none⟩) n cap) xs) {k : Nat} (hk : k < xs.length) :
    ∃ u, w.cell? ⟨b, o + k, none⟩ = some u ∧ R w u xs[k] := by
  refine Sl.cases h (fun _ _ hx _ => absurd hk (by simp [hx])) (fun b2 o2 cap2 hv _ _ hc => ?_)
  injection hv with e1 _ _
  injection e1 with e1
  injection e1 with e1 e2
  subst e1 e2
  exact hc k hk

/-- A table in front of another one: what spec and program compute of a row of it. -/
theorem pre_ap {p : Int} {ds : List Int} {ms : List (List (List Int))} {k : Nat} (hp : IsP p) (hd : ∀ d ∈ ds, 0 ≤ d ∧ d ≤ 8) (hk : 1 ≤ k) (hkd : k < ds.length) (h1 : TabOk p (ds.getD (k + 1) 0) (ds.getD k 0) (ms.getD k []))
    (h0 : TabOk p (ds.getD k 0) (ds.getD (k - 1) 0) (ms.getD (k - 1) [])) {r : List Int} (hr : r ∈ ms.getD k []) : ApOk p (ds.getD (k - 1) 0).toNat r (ms.getD (k - 1) []) := by
  have hdim : 0 ≤ ds.getD (k - 1) 0 := by rw [getD_of_lt _ (by omega)]; exact (hd _ (List.getElem_mem _)).1
  refine ⟨hp, ?_, (h1.2 r hr).2, fun r2 hr2 => ⟨?_, (h0.2 r2 hr2).2⟩⟩
  · have e1 := (h1.2 r hr).1
    have e2 := h0.1
    omega
  · have e1 := (h0.2 r2 hr2).1
    omega

set_option maxHeartbeats 3200000 in
set_option maxRecDepth 100000 in
theorem l01Is_no (p : Int) (dv mv : Value) (ds : List Int) (ms : List (List (List Int))) (w : World) (h : Cx 0 w dv mv ds ms) (hd : ds.length ≤ 1048576) (hm : Bd3 1048576 ms)
    (hno : ¬ IsP p ∨ ds.length < 1 ∨ 6 < ds.length ∨ ms.length + 1 ≠ ds.length) :
    Calls Try.prog 149 #[.agg #[.int .i64 p, dv, mv]] w (BB (IsCx p ds ms) w) := by
  have hml : ms.length ≤ 1048576 := hm.1
  have hfalse : ¬ IsCx p ds ms := fun hh => by
    have := hh.1.prime
    have := hh.1.len0
    have := hh.1.len1
    have := hh.1.mlen
    rcases hno with h1 | h1 | h1 | h1
    · exact h1 hh.1.prime
    · omega
    · omega
    · omega
  have HF := Lib.hid hfalse
  clear hfalse
  obtain ⟨ad, cap, rfl⟩ := Sl.shape h.dims
  obtain ⟨am, capm, rfl⟩ := Sl.shape h.maps
  have HB := Lib.hid (Bx.start (p := p) 31 h).below
  clear h hm
  by_cases hp : IsP p
  · have HP := Lib.hid hp
    by_cases h1 : ds.length < 1
    · clear hno hp
      go_enter Try.func149, Try.ntmps149
      go_wp2_with fail
      refine (spprime_yes HP.out _).mono ?_
      rintro e w' ⟨rfl, rfl⟩
      go_wp2
      go_ret
      exact bb_false HB.out HF.out
    · by_cases h6 : 6 < ds.length
      · clear hno hp
        go_enter Try.func149, Try.ntmps149
        go_wp2_with fail
        refine (spprime_yes HP.out _).mono ?_
        rintro e w' ⟨rfl, rfl⟩
        go_wp2
        go_ret
        exact bb_false HB.out HF.out
      · have hl : ¬ (ms.length : Int) = (ds.length : Int) - 1 := by
          rcases hno with h2 | h2 | h2 | h2
          · exact absurd hp h2
          · omega
          · omega
          · omega
        have hq1 : ((ms.length : Int) != (ds.length : Int) - 1) = true := by simp [hl]
        have hq2 : ((ms.length : Int) == (ds.length : Int) - 1) = false := by simp [hl]
        clear hno hl hp
        go_enter Try.func149, Try.ntmps149
        go_wp2_with fail
        refine (spprime_yes HP.out _).mono ?_
        rintro e w' ⟨rfl, rfl⟩
        go_wp2
        go_ret
        exact bb_false HB.out HF.out
  · have HP := Lib.hid hp
    clear hp hno
    go_enter Try.func149, Try.ntmps149
    go_wp2_with fail
    refine (spprime_no HP.out _).mono ?_
    rintro e w' ⟨rfl, rfl⟩
    go_wp2
    go_ret
    exact bb_false HB.out HF.out

set_option maxHeartbeats 6400000 in
set_option maxRecDepth 100000 in
theorem l01Is_yes (p : Int) (dv mv : Value) (ds : List Int) (ms : List (List (List Int))) (w : World) (h : Cx 0 w dv mv ds ms) (hm : Bd3 1048576 ms)
    (hp : IsP p) (hl1 : 1 ≤ ds.length) (hl6 : ds.length ≤ 6) (hl : ms.length + 1 = ds.length) :
    Calls Try.prog 149 #[.agg #[.int .i64 p, dv, mv]] w (BB (IsCx p ds ms) w) := by
  have hml : ms.length ≤ 1048576 := hm.1
  have HM := Lib.hid hm
  obtain ⟨ad, cap, rfl⟩ := Sl.shape h.dims
  obtain ⟨am, capm, rfl⟩ := Sl.shape h.maps
  have HX0 := Lib.hid (Bx.start (p := p) 31 h)
  have HP := Lib.hid hp
  have hq1 : ((ms.length : Int) != (ds.length : Int) - 1) = false := by simp; omega
  have hq2 : ((ms.length : Int) == (ds.length : Int) - 1) = true := by simp; omega
  have hdq1 : decide ((ds.length : Int) < 1) = false := by simp; omega
  have hdq2 : decide ((6 : Int) < (ds.length : Int)) = false := by simp; omega
  have HL := Lib.hid hl
  clear h hm hp hl
  go_enter Try.func149, Try.ntmps149
  go_wp2_with fail
  refine (spprime_yes HP.out _).mono ?_
  rintro e w' ⟨rfl, rfl⟩
  go_wp2
  obtain ⟨w1, hw1⟩ : ∃ w1, w1 = w.alloc (.cells #[.int .i64 p, .slice ad ds.length cap, .slice am ms.length capm] 31) := ⟨_, rfl⟩
  rw [← hw1]
  rw [← hw1] at HX0
  have c0 := HX0.out.c0
  have c1 := HX0.out.c1
  have c2 := HX0.out.c2
  clear hw1
  go_loop [3] (fun i => ∃ (k : Nat), k ≤ ds.length ∧ i = .int .i64 k ∧ Hid (∀ j (h1 : j < ds.length), j < k → 0 ≤ ds[j] ∧ ds[j] ≤ 8)) (fun i => ds.length - (intOf i).toNat)
  case atStart => exact ⟨0, Nat.zero_le _, rfl, Lib.hid (fun _ _ h => absurd h (Nat.not_lt_zero _))⟩
  case round =>
    obtain ⟨k, hk, rfl, HD⟩ := hrel
    by_cases hlt : k < ds.length
    · refine Sl.cases HX0.out.cx.dims (fun _ _ hx _ => absurd hlt (by simp [hx])) (fun bd od capd hv _ hposd hcld => ?_)
      injection hv with e1 _ e3
      subst e1 e3
      obtain ⟨u, hu, hr⟩ := hcld k hlt
      obtain ⟨x, hx⟩ : ∃ x, x = ds[k] := ⟨_, rfl⟩
      rw [hr, ← hx] at hu
      have HX := Lib.hid hx
      clear hx hr hcld
      by_cases hxy : 0 ≤ x ∧ x ≤ 8
      · have HXY := Lib.hid hxy
        clear hxy
        go_wp2_with fail
        refine (spin_yes HXY.out _).mono ?_
        rintro e w' ⟨rfl, rfl⟩
        go_wp2
        go_round
        case rel => exact ⟨k + 1, by omega, by go_num, Lib.hid (fun j h1 hjk => by
          by_cases e : j = k
          · subst e; rw [← HX.out]; exact HXY.out
          · exact HD.out j h1 (by omega))⟩
        case measure => simp [intOf]; omega
      · have HXY := Lib.hid hxy
        clear hxy
        go_wp2_with fail
        refine (spin_no HXY.out _).mono ?_
        rintro e w' ⟨rfl, rfl⟩
        go_wp2
        go_ret
        exact bb_false HX0.out.below (fun h => HXY.out (by rw [HX.out]; exact h.1.dims _ (List.getElem_mem hlt)))
    · have HDIMS : Hid (∀ d ∈ ds, 0 ≤ d ∧ d ≤ 8) := Lib.hid (all_of_lt (fun j hj => HD.out j hj (by omega)))
      clear HD
      go_wp2
      clear c0 c1 c2
      go_loopw [4, 5] (fun i _ wr => ∃ (k : Nat), k ≤ ms.length ∧ i = .int .i64 k ∧ Hid (Bx w wr w.heap.size p (.slice ad ds.length cap) (.slice am ms.length capm) ds ms) ∧ Hid (∀ j, j < ms.length → j < k → TabOk p (ds.getD (j + 1) 0) (ds.getD j 0) (ms.getD j [])) ∧
        Hid (∀ q, q + 1 < k → ∀ r ∈ ms.getD (q + 1) [], ∀ x ∈ apT p (ds.getD q 0).toNat r (ms.getD q []), x = 0)) (fun i _ _ => ms.length - (intOf i).toNat)
      case atStart => exact ⟨0, Nat.zero_le _, rfl, HX0, Lib.hid (fun _ _ h => absurd h (Nat.not_lt_zero _)), Lib.hid (fun _ h => absurd h (Nat.not_lt_zero _))⟩
      case round =>
        obtain ⟨k, hk, rfl, HXR, HD, HS⟩ := hrel
        have c0 := HXR.out.c0
        have c1 := HXR.out.c1
        have c2 := HXR.out.c2
        by_cases hlt : k < ms.length
        · refine Sl.cases HXR.out.cx.dims (fun _ _ hx _ => absurd hl1 (by simp [hx])) (fun bd od capd hv _ hposd hcld => ?_)
          injection hv with e1 _ e3
          subst e1 e3
          refine Sl.cases HXR.out.cx.maps (fun _ _ hx _ => absurd hlt (by simp [hx])) (fun bm om capm2 hv _ hposm hclm => ?_)
          injection hv with e1 _ e3
          subst e1 e3
          have hd1 : k + 1 < ds.length := by have := HL.out; omega
          obtain ⟨u, hu, hr⟩ := hclm k hlt
          obtain ⟨v0, hv0, hr0⟩ := hcld k (by omega)
          obtain ⟨v1, hv1, hr1⟩ := hcld (k + 1) hd1
          rw [hr0] at hv0
          rw [hr1] at hv1
          obtain ⟨d0, hd0⟩ : ∃ d, d = ds[k] := ⟨_, rfl⟩
          obtain ⟨d1, hd1'⟩ : ∃ d, d = ds[k + 1] := ⟨_, rfl⟩
          rw [← hd0] at hv0
          rw [← hd1'] at hv1
          have HE := Lib.hid (fun (m2 : Nat) => l01Table_any p d1 d0 u ms[k] (wr.drewN m2) HP.out (hr.below (drewN_below wr m2)) (HM.out.2 _ (List.getElem_mem hlt)))
          have HT : Hid (TabOk p (ds.getD (k + 1) 0) (ds.getD k 0) (ms.getD k []) ↔ TabOk p d1 d0 ms[k]) := Lib.hid (by rw [getD_of_lt _ hd1, getD_of_lt _ (by omega : k < ds.length), getD_of_lt _ hlt, hd0, hd1'])
          have HR := Lib.hid hr
          clear hr hr0 hr1 hcld hclm hd0 hd1'
          have hw1 : IntKind.i64.wrap ((k : Int) + 1) = (k : Int) + 1 := IntWalk.i64_in _ (by omega)
          have hq3 : (0 : Int) ≤ (k : Int) + 1 := by omega
          have hq4 : (k : Int) + 1 < (ds.length : Int) := by omega
          have hq5 : ((k : Int) + 1).toNat = k + 1 := by omega
          have hq6 : (k : Int) < (ds.length : Int) := by omega
          have hdec1 : decide ((k : Int) < (ms.length : Int)) = true := by simp; omega
          by_cases ht : TabOk p d1 d0 ms[k]
          · have HEY : Hid (∀ m2, Calls Try.prog 187 #[.int .i64 p, u, .int .i64 d1, .int .i64 d0] (wr.drewN m2) (QW (.bool true) (wr.drewN m2))) := Lib.hid (fun m2 => bw_yes (HE.out m2) ht)
            have HTY := Lib.hid ht
            clear ht HE
            go_wp2
            go_quiet ((go_at_call 187; exact qw_quiet (HEY.out _)))
            clear hw1 hq3 hq4 hq5 hq6
            go_wp2
            have HXO := Lib.hid (HXR.out.next (drewN_below _ nq))
            have HRO := Lib.hid (HR.out.below (drewN_below _ nq))
            have hv0' : (wr.drewN nq).cell? ⟨bm, om + k, none⟩ = some u := hu
            clear c0 c1 c2 hu hv0 hv1 HXR HR
            generalize wr.drewN nq = wo at *
            have HU := Lib.hid hv0'
            clear hv0'
            have HNX : Hid ((1 ≤ k → ∀ r ∈ ms.getD k [], ∀ x ∈ apT p (ds.getD (k - 1) 0).toNat r (ms.getD (k - 1) []), x = 0) → (∀ j, j < ms.length → j < k + 1 → TabOk p (ds.getD (j + 1) 0) (ds.getD j 0) (ms.getD j [])) ∧
                ∀ q, q + 1 < k + 1 → ∀ r ∈ ms.getD (q + 1) [], ∀ x ∈ apT p (ds.getD q 0).toNat r (ms.getD q []), x = 0) := Lib.hid (fun hz => ⟨fun j h1 hjk => by
              by_cases e : j = k
              · subst e; exact HT.out.2 HTY.out
              · exact HD.out j h1 (by omega), fun q hqk => by
              by_cases e : q + 1 = k
              · subst e; exact hz (by omega)
              · exact HS.out q (by omega)⟩)
            by_cases hk0 : 1 ≤ k
            · obtain ⟨t1, ht1⟩ : ∃ t, t = ms[k] := ⟨_, rfl⟩
              obtain ⟨t0, ht0⟩ : ∃ t, t = ms.getD (k - 1) [] := ⟨_, rfl⟩
              have HRO' : Hid (L2 0 wo u t1) := Lib.hid (by rw [ht1]; exact HRO.out)
              have hdim : 0 ≤ ds.getD (k - 1) 0 ∧ ds.getD (k - 1) 0 ≤ 8 := by rw [getD_of_lt _ (by omega)]; exact HDIMS.out _ (List.getElem_mem _)
              obtain ⟨c, hc⟩ := Int.eq_ofNat_of_zero_le hdim.1
              have hc8 : c ≤ 8 := by omega
              have HC : Hid (ds.getD (k - 1) 0 = (c : Int)) := Lib.hid hc
              have HCN : Hid ((ds.getD (k - 1) 0).toNat = c) := Lib.hid (by rw [hc]; rfl)
              have HAP : Hid (∀ j (hj : j < t1.length), ApOk p c t1[j] t0) := Lib.hid (fun j hj => by
                have h1 : TabOk p (ds.getD (k + 1) 0) (ds.getD k 0) (ms.getD k []) := HT.out.2 HTY.out
                have h0 := HD.out (k - 1) (by omega) (by omega)
                rw [show k - 1 + 1 = k by omega] at h0
                have := pre_ap HP.out HDIMS.out hk0 (by omega) h1 h0 (r := t1[j]) (by rw [getD_of_lt _ hlt, ← ht1]; exact List.getElem_mem _)
                rwa [HCN.out, ← ht0] at this)
              have HNX2 : Hid ((∀ j (hj : j < t1.length), ∀ x ∈ apT p c t1[j] t0, x = 0) → (∀ j, j < ms.length → j < k + 1 → TabOk p (ds.getD (j + 1) 0) (ds.getD j 0) (ms.getD j [])) ∧
                ∀ q, q + 1 < k + 1 → ∀ r ∈ ms.getD (q + 1) [], ∀ x ∈ apT p (ds.getD q 0).toNat r (ms.getD q []), x = 0) := Lib.hid (fun hall => HNX.out (fun _ r hr => by
                rw [getD_of_lt _ hlt, ← ht1] at hr
                obtain ⟨j, hj, rfl⟩ := List.getElem_of_mem hr
                rw [HCN.out, ← ht0]
                exact hall j hj))
              have HNOT : Hid (∀ j (hj : j < t1.length), ¬ (∀ x ∈ apT p c t1[j] t0, x = 0) → ¬ IsCx p ds ms) := Lib.hid (fun j hj hne hs => hne (by
                have := hs.2 (k - 1) (by omega) t1[j] (by rw [show k - 1 + 1 = k by omega, getD_of_lt _ hlt, ← ht1]; exact List.getElem_mem _)
                rwa [HCN.out, ← ht0] at this))
              have HRL : Hid (∀ j (hj : j < t1.length), (t1[j]).length ≤ 1048576) := Lib.hid (fun j hj => (HM.out.2 _ (List.getElem_mem hlt)).2 _ (by rw [← ht1]; exact List.getElem_mem _))
              have htl : t1.length ≤ 1048576 := by rw [ht1]; exact (HM.out.2 _ (List.getElem_mem hlt)).1
              have hk1 : k - 1 < ms.length := by omega
              have hk2 : k - 1 < ds.length := by omega
              obtain ⟨u0, hu0, hr0⟩ := Sl.at HXO.out.cx.maps hk1
              obtain ⟨ud, hud, hrd⟩ := Sl.at HXO.out.cx.dims hk2
              have HU0 := Lib.hid hu0
              have HUD : Hid (wo.cell? ⟨bd, od + (k - 1), none⟩ = some (.int .i64 (c : Int))) := Lib.hid (by rw [hud, hrd, ← getD_of_lt 0 hk2, hc])
              have HR0 : Hid (L2 0 wo u0 t0) := Lib.hid (by rw [ht0, getD_of_lt _ hk1]; exact hr0)
              clear ht1 ht0 hdim hc hu0 hr0 hud hrd HNX HRO HT HTY HD HS HCN HC
              refine Sl.cases HRO'.out (fun ad1 cap1 hx1 hv1 => ?_) (fun b1 o1 cap1 hv1 _ hpos1 hcl1 => ?_)
              · subst hv1
                have c0 := HXO.out.c0
                have c1 := HXO.out.c1
                have c2 := HXO.out.c2
                have hu := HU.out
                have HX1 := Lib.hid hx1
                clear hx1
                refine wp_loop_rounds 1 ?_
                rw [rounds_succ]
                go_wp2
                go_roundw
                case rel =>
                  have hh := HNX2.out (fun j hj => absurd hj (by rw [HX1.out]; simp))
                  exact ⟨k + 1, by omega, by go_num, HXO, Lib.hid hh.1, Lib.hid hh.2⟩
                case measure => simp [intOf]; omega
              · subst hv1
                have HC1 := Lib.hid hcl1
                clear hcl1
                go_loopw [5] (fun i wr => ∃ (j : Nat), j ≤ t1.length ∧ i = .int .i64 j ∧ Hid (Below wo.heap.size wo wr) ∧ Hid (∀ j2 (hj : j2 < t1.length), j2 < j → ∀ x ∈ apT p c t1[j2] t0, x = 0)) (fun i _ => t1.length - (intOf i).toNat)
                case atStart => exact ⟨0, Nat.zero_le _, rfl, Lib.hid (Below.refl _ _), Lib.hid (fun _ _ h => absurd h (Nat.not_lt_zero _))⟩
                case round =>
                  obtain ⟨j, hj, rfl, HBO, HJ⟩ := hrel
                  have HXI := Lib.hid (HXO.out.next HBO.out)
                  have c0 := HXI.out.c0
                  have c1 := HXI.out.c1
                  have c2 := HXI.out.c2
                  have hu := later HBO.out (Nat.le_refl _) HU.out
                  have hdec2 : decide (0 < (k : Int)) = true := by simp; omega
                  by_cases hltj : j < t1.length
                  · obtain ⟨u2, hu2, hr2⟩ := HC1.out j hltj
                    have hu2' := later HBO.out (Nat.le_refl _) hu2
                    have hu0 := later HBO.out (Nat.le_refl _) HU0.out
                    have hud := later HBO.out (Nat.le_refl _) HUD.out
                    have HR2 := Lib.hid (hr2.below HBO.out)
                    have HR0' := Lib.hid (HR0.out.below HBO.out)
                    clear hu2 hr2
                    have hw1 : IntKind.i64.wrap ((k : Int) - 1) = (k : Int) - 1 := IntWalk.i64_in _ (by omega)
                    have hq3 : (0 : Int) ≤ (k : Int) - 1 := by omega
                    have hq4 : (k : Int) - 1 < (ds.length : Int) := by omega
                    have hq5 : ((k : Int) - 1).toNat = k - 1 := by omega
                    have hq6 : (k : Int) - 1 < (ms.length : Int) := by omega
                    have hq7 : (k : Int) < (ms.length : Int) := by omega
                    have hq8 : (0 : Int) ≤ (k : Int) := by omega
                    have hq9 : (j : Int) < (t1.length : Int) := by omega
                    have hq10 : (0 : Int) ≤ (j : Int) := by omega
                    have hq11 : (1 : Int) ≤ (k : Int) := by omega
                    have hq12 : (k : Int) ≤ (ms.length : Int) := by omega
                    have hq13 : (k : Int) ≤ (ds.length : Int) := by omega
                    have hq14 : (0 : Int) < (k : Int) := by omega
                    go_wp2
                    go_still_tail 22, (by kernel_rfl)
                    change wpList _ _ _ _ _ wr.drew
                    clear hw1 hq3 hq4 hq5 hq6 hq7 hq8 hq9 hq10 hq11 hq12 hq13 hq14
                    have hall := HAP.out j hltj
                    have hlen : (apT p c t1[j] t0).length ≤ 1048576 := by rw [apT_length hall]; omega
                    have HALLJ := Lib.hid hall
                    have HLEN := Lib.hid hlen
                    clear hall hlen
                    go_wp2_with fail
                    refine (l01Apply_any p c u2 u0 t1[j] t0 _ HALLJ.out ((HR2.out.below (Below.refl _ _).drew)) (HR0'.out.below (Below.refl _ _).drew) (HRL.out j hltj) (by omega)).mono ?_
                    rintro e w2 ⟨u3, rfl, hru, hb2⟩
                    have HRU := Lib.hid hru
                    have HB2 := Lib.hid (HBO.out.drew.trans (hb2.mono (by have := HBO.out.size; simpa using this)))
                    clear hru hb2
                    go_wp2_with fail
                    have hlead := l01Lead_any u3 (apT p c t1[j] t0) w2 (HRU.out.lower (Nat.zero_le _)) HLEN.out
                    by_cases hz : ∀ x ∈ apT p c t1[j] t0, x = 0
                    · rw [leadOf_neg hz] at hlead
                      have HZ := Lib.hid hz
                      clear hz
                      refine hlead.mono ?_
                      clear hlead
                      rintro e w' ⟨rfl, rfl⟩
                      go_wp2
                      go_roundw
                      case rel => exact ⟨j + 1, by omega, by go_num, HB2, Lib.hid (fun j2 hj2 hlt2 => by
                        by_cases e : j2 = j
                        · subst e; exact HZ.out
                        · exact HJ.out j2 hj2 (by omega))⟩
                      case measure => simp [intOf]; omega
                    · obtain ⟨r, hr0, hr⟩ : ∃ r, 0 ≤ r ∧ leadOf (apT p c t1[j] t0) = r := ⟨_, leadOf_pos hz, rfl⟩
                      rw [hr] at hlead
                      have HZ := Lib.hid hz
                      clear hz hr
                      refine hlead.mono ?_
                      clear hlead
                      rintro e w' ⟨rfl, rfl⟩
                      go_wp2
                      go_ret
                      exact bb_false (HXO.out.next HB2.out).below (HNOT.out j hltj HZ.out)
                  · go_wp2
                    go_roundw
                    case rel =>
                      have hh := HNX2.out (fun j2 hj2 => HJ.out j2 hj2 (by omega))
                      exact ⟨k + 1, by omega, by go_num, HXI, Lib.hid hh.1, Lib.hid hh.2⟩
                    case measure => simp [intOf]; omega
            · have HNX' : Hid _ := Lib.hid (HNX.out (fun h => absurd h hk0))
              obtain ⟨a1, cap1, rfl⟩ := Sl.shape HRO.out
              have c0 := HXO.out.c0
              have c1 := HXO.out.c1
              have c2 := HXO.out.c2
              have hu := HU.out
              have htl : (ms[k]).length ≤ 1048576 := (HM.out.2 _ (List.getElem_mem hlt)).1
              obtain ⟨n1, hn1⟩ : ∃ n, n = (ms[k]).length := ⟨_, rfl⟩
              rw [← hn1] at hu htl
              have HN1 := Lib.hid hn1
              clear hn1
              have hdec2 : decide (0 < (k : Int)) = false := by simp; omega
              refine wp_loop_rounds 1 ?_
              rw [rounds_succ]
              by_cases hn0 : 0 < n1
              all_goals
                go_wp2
                go_roundw
                case rel => exact ⟨k + 1, by omega, by go_num, HXO, Lib.hid HNX'.out.1, Lib.hid HNX'.out.2⟩
                case measure => simp [intOf]; omega
          · have HEY : Hid (∀ m2, Calls Try.prog 187 #[.int .i64 p, u, .int .i64 d1, .int .i64 d0] (wr.drewN m2) (QW (.bool false) (wr.drewN m2))) := Lib.hid (fun m2 => bw_no (HE.out m2) ht)
            have HTY := Lib.hid ht
            clear ht HE
            go_wp2
            go_quiet ((go_at_call 187; exact qw_quiet (HEY.out _)))
            clear hw1 hq3 hq4 hq5 hq6
            go_wp2
            go_ret
            exact bb_false (HXR.out.next (drewN_below _ nq)).below (fun h => HTY.out (HT.out.1 (h.1.tabs k hlt)))
        · go_wp2
          go_ret
          exact bb_true HXR.out.below ⟨⟨HP.out, hl1, hl6, HL.out, HDIMS.out, fun j hj => HD.out j hj (by omega)⟩, fun q hq => HS.out q (by omega)⟩

theorem l01Is_any (p : Int) (dv mv : Value) (ds : List Int) (ms : List (List (List Int))) (w : World) (h : Cx 0 w dv mv ds ms) (hd : ds.length ≤ 1048576) (hm : Bd3 1048576 ms) :
    Calls Try.prog 149 #[.agg #[.int .i64 p, dv, mv]] w (BB (IsCx p ds ms) w) := by
  by_cases h1 : IsP p
  · by_cases h2 : 1 ≤ ds.length ∧ ds.length ≤ 6 ∧ ms.length + 1 = ds.length
    · exact l01Is_yes p dv mv ds ms w h hm h1 h2.1 h2.2.1 h2.2.2
    · exact l01Is_no p dv mv ds ms w h hd hm (Or.inr (by omega))
  · exact l01Is_no p dv mv ds ms w h hd hm (Or.inl h1)

theorem below_alloc1 (w : World) (A : Obj) : Below w.heap.size w (w.alloc A) := (Below.refl _ _).alloc (Nat.le_refl _) _
theorem cx_drew {lo : Nat} {w : World} {dv mv : Value} {ds : List Int} {ms : List (List (List Int))} (h : Cx lo w dv mv ds ms) : Cx lo w.drew dv mv ds ms := h.below (Below.refl _ _).drew
theorem Cx.zero {lo : Nat} {w : World} {dv mv : Value} {ds : List Int} {ms : List (List (List Int))} (h : Cx lo w dv mv ds ms) : Cx 0 w dv mv ds ms := h.lower (Nat.zero_le _)
theorem Cx.shapes {lo : Nat} {w : World} {dv mv : Value} {ds : List Int} {ms : List (List (List Int))} (h : Cx lo w dv mv ds ms) : (∃ a c, dv = .slice a ds.length c) ∧ ∃ a c, mv = .slice a ms.length c := ⟨Sl.shape h.dims, Sl.shape h.maps⟩
theorem bx_of {w : World} {p : Int} {dv mv : Value} {ds : List Int} {ms : List (List (List Int))} (t : TypeId) (h : Cx 0 w dv mv ds ms) (W : World) (hb : Below (w.heap.size + 1) (w.alloc (.cells #[.int .i64 p, dv, mv] t)) W) : Bx w W w.heap.size p dv mv ds ms :=
  (Bx.start t h).next (by simpa using hb)
theorem qr_below {v : Value} {w : World} {e : Ending} {w' : World} (h : QR v w e w') : e = .returned v ∧ Below w.heap.size w w' := by
  obtain ⟨h1, m, h2⟩ := h
  exact ⟨h1, by rw [h2]; exact drewN_below w m⟩
/-- Two equal lists compare as equal. -/
theorem eq1_true (va vb : Value) (xs : List Int) (w : World) (ha : L1 0 w va xs) (hb : L1 0 w vb xs) (hm : xs.length ≤ 1048576) : Calls Try.prog 53 #[va, vb] w (BR (.bool true) w) := by
  have h := eq1_any va vb xs xs w ha hb hm hm
  rw [decide_eq_true rfl] at h
  exact h.mono fun _ _ hh => qr_below hh
end Go.Proofs.Ytpdkfidmmjlmnab
