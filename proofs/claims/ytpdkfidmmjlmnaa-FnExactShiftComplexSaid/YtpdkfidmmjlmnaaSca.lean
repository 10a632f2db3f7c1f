/-
  impl.scaledTable by its contract.
-/
import Derived.Test.YtpdkfidmmjlmnaaRw
import Derived.Test.YtpdkfidmmjlmnaaQe
import Derived.RegionTactic
namespace Go.Proofs.Ytpdkfidmmjlmnaa
open Go.RowKit

/-- While a table is being made row by row: k rows are there. -/
structure Sc (w w' : World) (r c k : Nat) (Z : Nat → Nat → Int) : Prop where
  below : Below w.heap.size w w'
  size : w'.heap.size = w.heap.size + 1 + k
  top : w'.rowIs w.heap.size 22 r (fun j => if j < k then .slice (some ⟨w.heap.size + 1 + j, 0, none⟩) c c else .slice none 0 0)
  rows : ∀ j, j < k → w'.rowIs (w.heap.size + 1 + j) 2 c (fun i => .int .i64 (Z j i))
theorem Sc.start (w : World) (r c : Nat) (Z : Nat → Nat → Int) : Sc w (w.alloc (.cells (madeCells #[.slice none 0 0] r) 22)) r c 0 Z :=
  ⟨(Below.refl _ _).alloc (Nat.le_refl _) _, by simp, (World.rowIs_made w _ r _).congr (fun j _ => by simp), fun j hj => absurd hj (Nat.not_lt_zero _)⟩
theorem Sc.congr {w w' : World} {r c k : Nat} {Z Z' : Nat → Nat → Int} (h : Sc w w' r c k Z) (e : ∀ j, j < k → ∀ i, i < c → Z j i = Z' j i) : Sc w w' r c k Z' :=
  ⟨h.below, h.size, h.top, fun j hj => (h.rows j hj).congr (fun i hi => by rw [e j hj i hi])⟩
theorem Sc.drew {w w' : World} {r c k : Nat} {Z : Nat → Nat → Int} (h : Sc w w' r c k Z) : Sc w w'.drew r c k Z := ⟨h.below.drew, h.size, h.top.drew, fun j hj => (h.rows j hj).drew⟩
theorem Sc.step {w w' : World} {r c k : Nat} {Z : Nat → Nat → Int} (h : Sc w w' r c k Z) : Sc w ((w'.alloc (.cells (madeCells #[.int .i64 0] c) 2)).setCell ⟨w.heap.size, k, none⟩ (.slice (some ⟨w'.heap.size, 0, none⟩) c c)) r c (k + 1) (fun j i => if j < k then Z j i else 0) := by
  have hnew := World.rowIs_made w' (.int .i64 0) c 2
  have hs := h.size
  refine ⟨(h.below.alloc (by omega) _).setCell (Nat.le_refl _) _, by simp [h.size]; omega, ((h.top.alloc _).set k _).congr (fun j _ => ?_), fun j hj => ?_⟩
  · by_cases e : j = k
    · subst e
      rw [if_pos rfl, if_pos (Nat.lt_succ_self _), hs]
    · rw [if_neg e]
      by_cases h2 : j < k
      · rw [if_pos h2, if_pos (by omega)]
      · rw [if_neg h2, if_neg (by omega)]
  · by_cases e : j = k
    · subst e
      rw [← hs]
      exact (hnew.setOther (by show w'.heap.size ≠ w.heap.size; omega) _).congr (fun i _ => by simp)
    · exact (((h.rows j (by omega)).alloc _).setOther (by show w.heap.size + 1 + j ≠ w.heap.size; omega) _).congr (fun i _ => by rw [if_pos (show j < k by omega)])
theorem Sc.put {w w' : World} {r c k : Nat} {Z : Nat → Nat → Int} (h : Sc w w' r c k Z) {j i : Nat} (hj : j < k) (x : Int) :
    Sc w (w'.setCell ⟨w.heap.size + 1 + j, i, none⟩ (.int .i64 x)) r c k (fun j2 i2 => if j2 = j ∧ i2 = i then x else Z j2 i2) := by
  refine ⟨h.below.setCell (by show w.heap.size ≤ w.heap.size + 1 + j; omega) _, by simp [h.size], h.top.setOther (by show w.heap.size ≠ w.heap.size + 1 + j; omega) _, fun j2 hj2 => ?_⟩
  by_cases e : j2 = j
  · subst e
    exact ((h.rows j2 hj2).set i _).congr (fun i2 _ => by by_cases e2 : i2 = i <;> simp [e2])
  · exact ((h.rows j2 hj2).setOther (by show w.heap.size + 1 + j2 ≠ w.heap.size + 1 + j; omega) _).congr (fun i2 _ => by simp [e])
theorem Sc.done {w w' : World} {r c : Nat} {Z : Nat → Nat → Int} (h : Sc w w' r c r Z) : Mat w w' r c Z :=
  ⟨h.below, h.size, h.top.congr (fun j hj => by rw [if_pos hj]), h.rows⟩

def scZ (p x : Int) (t : List (List Int)) (j i : Nat) : Int := x * (t.getD j []).getD i 0 % p

theorem mulB {x z : Int} (h0 : -1048576 ≤ x) (h1 : x ≤ 1048576) (h2 : -1048576 ≤ z) (h3 : z ≤ 1048576) : -1099511627776 ≤ x * z ∧ x * z ≤ 1099511627776 := by
  have h : (x * z).natAbs ≤ 1048576 * 1048576 := by
    rw [Int.natAbs_mul]
    exact Nat.mul_le_mul (by omega) (by omega)
  omega
theorem tmod_up (m p : Int) (hp : 0 < p) : (m.tmod p + p).tmod p = m % p := by
  have h1 := Int.lt_tmod_of_pos m hp
  rw [Int.tmod_eq_emod_of_nonneg (by omega)]
  have h2 := Int.tmod_add_mul_tdiv m p
  have e : m.tmod p + p = m + p * (1 - m.tdiv p) := by rw [Int.mul_sub]; omega
  rw [e, Int.add_mul_emod_self_left]

set_option maxHeartbeats 1600000 in
set_option maxRecDepth 100000 in
theorem scaledTableW_any (p x : Int) (c : Nat) (vt : Value) (t : List (List Int)) (w : World) (hp0 : 0 < p) (hp1 : p ≤ 1048576) (hx : -1048576 ≤ x ∧ x ≤ 1048576) (ht : L2 0 w vt t) (hr : t.length ≤ 1048576) (hc : c ≤ 1048576) (hrow : ∀ y ∈ t, y.length = c ∧ ∀ z ∈ y, -1048576 ≤ z ∧ z ≤ 1048576) :
    Calls Try.prog 124 #[.int .i64 p, .int .i64 x, vt] w (MatR t.length c (scZ p x t) w) := by
  have hmk := run_make_row' (P := Try.prog) 41 22 (.slice none 0 0) 24 Try.underlying41 Try.infoS rfl .i64 .i64 t.length (by omega) (by omega)
  have hmk2 := run_make_row' (P := Try.prog) 22 2 (.int .i64 0) 8 Try.underlying22 Try.infoI rfl .i64 .i64 c (by omega) (by omega)
  obtain ⟨at', ct, rfl⟩ := Sl.shape ht
  have HT : Hid (∀ W, Below w.heap.size w W → L2 0 W (.slice at' t.length ct) t) := Lib.hid (fun W h => ht.below h)
  have HROW := Lib.hid hrow
  clear ht hrow
  go_enter Try.func124, Try.ntmps124
  go_wp2
  clear hmk
  go_loopw [8, 9, 10, 11, 17, 30] (fun _ _ _ _ i _ wr => ∃ (k : Nat), k ≤ t.length ∧ i = .int .i64 k ∧ Hid (Sc w wr t.length c k (scZ p x t))) (fun _ _ _ _ i _ _ => t.length - (intOf i).toNat)
  case atStart => exact ⟨0, Nat.zero_le _, rfl, Lib.hid (Sc.start _ _ _ _)⟩
  case round =>
    obtain ⟨k, hk, rfl, HS⟩ := hrel
    obtain ⟨wx, hwx⟩ : ∃ wx : World, wx = wr := ⟨_, rfl⟩
    subst hwx
    by_cases hlt : k < t.length
    · have hkl : (k : Int) < (t.length : Int) := by omega
      refine Sl.cases (HT.out _ (Below.refl _ _)) (fun _ _ hx _ => absurd hlt (by simp [hx])) (fun bt ot ct2 hvt _ _ hcl => ?_)
      injection hvt with e1 e2 e3
      clear e2
      subst e1 e3
      obtain ⟨ur, hur0, hrr⟩ := hcl k hlt
      have hur : wx.cell? ⟨bt, ot + k, none⟩ = some ur := later HS.out.below (Nat.le_refl _) hur0
      obtain ⟨y, hy⟩ : ∃ y, y = t[k] := ⟨_, rfl⟩
      rw [← hy] at hrr
      obtain ⟨ar, cr, hus⟩ := Sl.shape hrr
      have hyr := HROW.out y (by rw [hy]; exact List.getElem_mem hlt)
      rw [hyr.1] at hus
      subst hus
      have HY : Hid (t.getD k [] = y) := Lib.hid (by rw [getD_of_lt _ hlt, hy])
      have HYR := Lib.hid hyr
      have HRL : Hid (∀ W, Below w.heap.size w W → L1 0 W (.slice ar c cr) y) := Lib.hid (fun W hW => hrr.below hW)
      have h0 : ∀ o, (wx.alloc o).cell? ⟨w.heap.size, k, none⟩ = some (.slice none 0 0) := fun o => by rw [(HS.out.top.alloc o).cell hlt, if_neg (Nat.lt_irrefl _)]
      have hf : ∀ o, (wx.alloc o).frozen? ⟨w.heap.size, k, none⟩ = false := fun o => (HS.out.top.alloc o).frozen k
      have hsz := HS.out.size
      have hst := HS.out.step
      rw [hsz] at hst
      have HS1 := Lib.hid hst
      clear hcl hrr hyr hy HS hur0 hst
      go_wp2
      clear h0 hf hur
      go_loopw [10, 11, 30] (fun _ _ i wr => ∃ (q : Nat), q ≤ c ∧ i = .int .i64 q ∧ Hid (Sc w wr t.length c (k + 1) (fun j i => if j < k then scZ p x t j i else if i < q then scZ p x t k i else 0))) (fun _ _ i _ => c - (intOf i).toNat)
      case atStart => exact ⟨0, Nat.zero_le _, rfl, Lib.hid (HS1.out.congr (fun j _ i _ => by by_cases e : j < k <;> simp [e]))⟩
      case round =>
        clear HS1
        obtain ⟨q, hq, rfl, HQ⟩ := hrel
        obtain ⟨wy, hwy⟩ : ∃ wy : World, wy = wr := ⟨_, rfl⟩
        subst hwy
        by_cases hlq : q < c
        · have hql : (q : Int) < (c : Int) := by omega
          have hqy : q < y.length := by rw [HYR.out.1]; exact hlq
          obtain ⟨z, hz⟩ : ∃ z, z = y.getD q 0 := ⟨_, rfl⟩
          have hzb := HYR.out.2 z (by rw [hz, getD_of_lt _ hqy]; exact List.getElem_mem hqy)
          refine Sl.cases (HRL.out _ HQ.out.below) (fun _ _ hx _ => absurd hqy (by simp [hx])) (fun br orr cr2 hvr _ _ hcr => ?_)
          injection hvr with e1 e2 e3
          clear e2
          subst e1 e3
          obtain ⟨uz, huz, hrz⟩ := hcr q hqy
          have hnum : wy.cell? ⟨br, orr + q, none⟩ = some (.int .i64 z) := by rw [huz, hrz, hz, getD_of_lt _ hqy]
          have htop : wy.cell? ⟨w.heap.size, k, none⟩ = some (.slice (some ⟨w.heap.size + 1 + k, 0, none⟩) c c) := by rw [HQ.out.top.cell hlt, if_pos (Nat.lt_succ_self _)]
          have hrk := HQ.out.rows k (Nat.lt_succ_self _)
          have hold := hrk.cell hlq
          have hfz := hrk.frozen q
          obtain ⟨hm0, hmb⟩ := mulB hx.1 hx.2 hzb.1 hzb.2
          have hmul : IntKind.i64.wrap (x * z) = x * z := IntWalk.i64_in _ (by omega)
          have hr1 := Int.lt_tmod_of_pos (x * z) hp0
          have hr2 := Int.tmod_lt_of_pos (x * z) hp0
          have hr3 := tmod_up (x * z) p hp0
          obtain ⟨rr, hrr2⟩ : ∃ rr, rr = (x * z).tmod p := ⟨_, rfl⟩
          have hrem : (x * z).tmod p = rr := hrr2.symm
          rw [hrem] at hr1 hr2 hr3
          have HRR := Lib.hid hrr2
          clear hrr2
          have hwr0 : IntKind.i64.wrap rr = rr := IntWalk.i64_in _ (by omega)
          have hadd : IntKind.i64.wrap (rr + p) = rr + p := IntWalk.i64_in _ (by omega)
          have hm1 := Int.emod_nonneg (x * z) (show p ≠ 0 by omega)
          have hm2 := Int.emod_lt_of_pos (x * z) hp0
          have hwr : IntKind.i64.wrap (x * z % p) = x * z % p := IntWalk.i64_in _ (by omega)
          have hpz : (p == 0) = false := by simp; omega
          have hpz2 : ¬ p = 0 := by omega
          have hpm : (p == -1) = false := by simp; omega
          have HS2 : Hid (Sc w (wy.setCell ⟨w.heap.size + 1 + k, q, none⟩ (.int .i64 (x * z % p))) t.length c (k + 1) (fun j i => if j < k then scZ p x t j i else if i < q + 1 then scZ p x t k i else 0)) := Lib.hid ((HQ.out.put (j := k) (i := q) (Nat.lt_succ_self _) (x * z % p)).congr (fun j hj i hi => by
            by_cases e : j = k
            · subst e
              by_cases e2 : i = q
              · subst e2
                have e5 : scZ p x t j i = x * z % p := by unfold scZ; rw [HY.out, hz]
                simp [e5]
              · have e3 : (i < q + 1) ↔ (i < q) := by omega
                simp [e2, e3]
            · have e4 : j < k := by omega
              simp [e, e4]))
          clear huz hrz hcr hrk hz
          go_wp2
          go_region
          all_goals go_wp2
          all_goals go_roundw
          case rel => exact ⟨q + 1, by omega, by go_num, Lib.hid HS2.out.drew⟩
          case measure => simp [intOf]; omega
        · have hqn : ¬ (q : Int) < (c : Int) := by omega
          obtain rfl : q = c := by omega
          have HK1 : Hid (Sc w wy t.length q (k + 1) (scZ p x t)) := Lib.hid (HQ.out.congr (fun j hj i hi => by
            by_cases e : j < k
            · simp [e]
            · have e2 : j = k := by omega
              subst e2
              simp [hi]))
          go_wp2
          go_roundw
          case rel => first | exact ⟨k + 1, by omega, by go_num, HK1⟩ | ((repeat apply Exists.intro); exact ⟨⟨k + 1, by omega, by go_num, HK1⟩, rfl⟩)
          case measure => simp [intOf]; omega
    · have hkn : ¬ (k : Int) < (t.length : Int) := by omega
      obtain rfl : k = t.length := by omega
      go_wp2
      go_ret
      exact ⟨rfl, HS.out.done⟩
theorem scaledTable_any (p x : Int) (c : Nat) (vt : Value) (t : List (List Int)) (w : World) (hp0 : 0 < p) (hp1 : p ≤ 1048576) (hx : 0 ≤ x ∧ x ≤ p - 1) (ht : L2 0 w vt t) (hr : t.length ≤ 1048576) (hc : c ≤ 1048576) (hrow : ∀ y ∈ t, y.length = c ∧ ∀ z ∈ y, 0 ≤ z ∧ z ≤ p - 1) :
    Calls Try.prog 124 #[.int .i64 p, .int .i64 x, vt] w (MatR t.length c (scZ p x t) w) :=
  scaledTableW_any p x c vt t w hp0 hp1 ⟨by omega, by omega⟩ ht hr hc (fun y hy => ⟨(hrow y hy).1, fun z hz => by have := (hrow y hy).2 z hz; omega⟩)
theorem signNumber_any (p k : Int) (w : World) (hp0 : 0 ≤ p) (hp1 : p ≤ 1048576) (hk : 0 ≤ k ∧ k ≤ 1048576) : Calls Try.prog 125 #[.int .i64 p, .int .i64 k] w (QW (.int .i64 (if k % 2 = 0 then 1 else p - 1)) w) := by
  have h1 : k.tmod 2 = k % 2 := Int.tmod_eq_emod_of_nonneg hk.1
  have h2 : IntKind.i64.wrap (p - 1) = p - 1 := IntWalk.i64_in _ (by omega)
  have h3 : IntKind.i64.wrap (k % 2) = k % 2 := IntWalk.i64_in _ (by omega)
  by_cases h0 : k % 2 = 0
  · have h4 : (k % 2 == 0) = true := by simp [h0]
    go_enter Try.func125, Try.ntmps125
    go_wp2
    go_ret
    exact ⟨rfl, rfl⟩
  · have h4 : (k % 2 == 0) = false := by simp [h0]
    go_enter Try.func125, Try.ntmps125
    go_wp2
    go_ret
    exact ⟨rfl, rfl⟩
end Go.Proofs.Ytpdkfidmmjlmnaa
