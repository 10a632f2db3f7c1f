/-
  What AddComplexes of the model meets: tables told by the world ahead of the call; a box of three cells filled.
-/
import Derived.Test.YtpdkfidmmjlmnaaAxm
import Derived.Test.YtpdkfidmmjlmnaaSdp
import Derived.Test.YtpdkfidmmjlmnaaHld
namespace Go.Proofs.Ytpdkfidmmjlmnaa
open Go.RowKit
theorem ax_rows {p : Int} {ds : List Int} {ms : List (List (List Int))} (h : IsCx p ds ms) (q : Nat) : ds.getD (q + 1) 0 = ((tabN ms q).length : Int) := by
  have h1 := h.1.mlen
  have h2 := h.1.dim (q + 1)
  unfold tabN
  by_cases hk : q < ms.length
  · have ht := h.tab hk
    have := ht.1
    omega
  · rw [List.getD_eq_getElem?_getD, List.getD_eq_getElem?_getD, List.getElem?_eq_none (by omega), List.getElem?_eq_none (by omega)]
    rfl
theorem Gb.off3 {base g : Nat} {w : World} {u : Value} {xs : List Int} {t : TypeId} {x0 x1 x2 : Value} (h : Gb base w u xs) (hr : w.heap[g]? = some (.cells #[x0, x1, x2] t)) (ht : t ≠ 2) (v0 v1 v2 : Value) : Gb base (((w.setCell ⟨g, 0, none⟩ v0).setCell ⟨g, 1, none⟩ v1).setCell ⟨g, 2, none⟩ v2) u xs := by
  have r0 := rowIs3 hr
  have r1 := r0.set 0 v0
  have r2 := r1.set 1 v1
  exact ((h.off r0 ht 0 v0).off r1 ht 1 v1).off r2 ht 2 v2
theorem Gt.off3 {base g : Nat} {w : World} {u : Value} {ts : List (List (List Int))} {t : TypeId} {x0 x1 x2 : Value} (h : Gt base w u ts) (hr : w.heap[g]? = some (.cells #[x0, x1, x2] t)) (ht : t ≠ 2 ∧ t ≠ 22 ∧ t ≠ 41) (v0 v1 v2 : Value) : Gt base (((w.setCell ⟨g, 0, none⟩ v0).setCell ⟨g, 1, none⟩ v1).setCell ⟨g, 2, none⟩ v2) u ts := by
  have r0 := rowIs3 hr
  have r1 := r0.set 0 v0
  have r2 := r1.set 1 v1
  exact ((h.off r0 ht 0 v0).off r1 ht 1 v1).off r2 ht 2 v2
theorem Gt.zero {base : Nat} {w : World} {u : Value} {ts : List (List (List Int))} (h : Gt base w u ts) : Gt 0 w u ts := by
  obtain ⟨vs, ho, hr⟩ := h
  refine ⟨vs, ⟨ho.1, ?_⟩, hr⟩
  rcases ho.2 with h2 | ⟨g, cap, cur, hu, _, r⟩
  · exact Or.inl h2
  · exact Or.inr ⟨g, cap, cur, hu, Nat.zero_le _, r⟩
theorem ax_mapZ {p : Int} {ds : List Int} {ms : List (List (List Int))} (h : IsCx p ds ms) (q : Nat) : mapZ ds ms ((q + 1 : Nat) : Int) = tabN ms q := by
  have h1 := h.1.mlen
  unfold mapZ tabN
  by_cases hk : 1 ≤ ((q + 1 : Nat) : Int) ∧ ((q + 1 : Nat) : Int) ≤ (ds.length : Int) - 1
  · rw [if_pos hk, Int.toNat_natCast, Nat.add_sub_cancel]
  · rw [if_neg hk, dimZ_nat, List.getD_eq_getElem?_getD, List.getD_eq_getElem?_getD, List.getElem?_eq_none (by omega), List.getElem?_eq_none (by omega)]
    rfl

def L2O (xs : List (List Int)) (w0 w : World) (e : Ending) (w' : World) : Prop := ∃ v, e = .returned v ∧ L2 0 w0 v xs ∧ Below w.heap.size w w'
set_option maxHeartbeats 1600000 in
set_option maxRecDepth 100000 in
/-- The table of a degree above 0, as it lay in an elder world. -/
theorem l01Map_old (p : Int) (q : Nat) (dv mv : Value) (ds : List Int) (ms : List (List (List Int))) (w0 w : World) (h0 : Cx 0 w0 dv mv ds ms) (hb0 : Below w0.heap.size w0 w) (hcx : IsCx p ds ms) :
    Calls Try.prog 90 #[.agg #[.int .i64 p, dv, mv], .int .i64 ((q : Int) + 1)] w (L2O (tabN ms q) w0 w) := by
  have hl6 := hcx.1.len1
  have hl := hcx.1.mlen
  have h : Cx 0 w dv mv ds ms := ⟨h0.dims.below hb0, h0.maps.below hb0⟩
  by_cases hq : q < ms.length
  · have HX0 := Lib.hid (Bx.start (p := p) 28 h)
    have hr : 1 ≤ (q : Int) + 1 ∧ (q : Int) + 1 ≤ (ds.length : Int) - 1 := by omega
    have HR := Lib.hid hr
    obtain ⟨ad, cap, rfl⟩ := Sl.shape h.dims
    refine Sl.cases h0.maps (fun _ _ hx _ => absurd hq (by simp [hx])) (fun bm om capm hv _ hposm hclm => ?_)
    obtain ⟨u, hu, hru⟩ := hclm q hq
    subst hv
    have hu2 := later HX0.out.below (Nat.le_refl _) (later hb0 (Nat.le_refl _) hu)
    have HRU : Hid (L2 0 w0 u (tabN ms q)) := Lib.hid (by unfold tabN; rw [getD_of_lt _ hq]; exact hru)
    have hqb : q < 1048576 := by omega
    have hd : ds.length ≤ 1048576 := by omega
    clear hu hru hclm hl hr h hb0 h0 hcx hl6
    go_enter Try.func90, Try.ntmps90
    go_wp2_with fail
    refine (spin_yes HR.out _).mono ?_
    rintro e w' ⟨rfl, rfl⟩
    go_wp2
    go_ret
    exact ⟨_, rfl, HRU.out, HX0.out.below⟩
  · have ht : tabN ms q = [] := by
      unfold tabN
      rw [List.getD_eq_getElem?_getD, List.getElem?_eq_none (by omega)]
      rfl
    have h1 := l01Map_any p ((q : Int) + 1) dv mv ds ms w h hcx
    rw [show mapZ ds ms ((q : Int) + 1) = tabN ms q from ax_mapZ hcx q] at h1
    refine h1.mono ?_
    rintro e w' ⟨v, rfl, hv, hb⟩
    obtain ⟨a, c, rfl⟩ := Sl.shape hv
    rw [ht]
    exact ⟨_, rfl, Or.inl ⟨rfl, a, c, rfl⟩, hb⟩
end Go.Proofs.Ytpdkfidmmjlmnaa
