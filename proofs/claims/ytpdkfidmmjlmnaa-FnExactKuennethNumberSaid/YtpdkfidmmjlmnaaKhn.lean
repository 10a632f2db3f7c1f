/-
  Plain mathematics: a homology number is the length of the homology list.
-/
import Derived.Test.YtpdkfidmmjlmnaaNum
import Derived.Test.YtpdkfidmmjlmnaaDrm
namespace Go.Proofs.Ytpdkfidmmjlmnaa
open Go.RowKit

theorem row_zero {p : Int} {ds : List Int} {ms : List (List (List Int))} (h : IsCx p ds ms) {k : Nat} (hk : k + 1 < ds.length) {r : List Int} (hr : r ∈ cycT ds ms (k + 1)) : dimg p (dimN ds (k : Int)) (cycT ds ms k) (ofL r) = Lin.zv := by
  have hp := h.1.prime.lo1
  have hok := cyc_ok h (q := k) (by omega)
  have hok1 := cyc_ok h hk
  cases k with
  | zero => exact funext fun i => dimg_wd (c := 0) hok.1 (by simpa [cycM] using hok.2.1) _ i (Nat.zero_le _)
  | succ j =>
    have hml := h.1.mlen
    have e1 := cycT_succ h (k := j) (by omega)
    have e2 := cycT_succ h hk
    have ec : cycM ds (j + 1) = dimN ds (j : Int) := by simp [cycM]
    have ec2 : cycM ds (j + 1 + 1) = dimN ds ((j + 1 : Nat) : Int) := by simp [cycM]
    rw [ec] at hok
    rw [ec2] at hok1
    have hrow := hok1.2.1 r hr
    have hrl : r.length = dimN ds ((j + 1 : Nat) : Int) := by have := hrow.1; omega
    have hap := (dimg_apT (u := ofL r) h.1.prime hok.1 hok.2.1 (ofL_md (by omega) hrow)).2
    rw [toL_ofL hrl] at hap
    have hz := h.2 j (by omega) r (by rw [e2] at hr; exact hr)
    have e3 : (ds.getD j 0).toNat = dimN ds (j : Int) := by simp [dimN]
    have e4 : ms.getD j [] = cycT ds ms (j + 1) := e1.symm
    rw [e3, e4, hap] at hz
    refine funext fun i => ?_
    by_cases hi : i < dimN ds (j : Int)
    · exact hz _ (List.mem_map.2 ⟨i, List.mem_range.2 hi, rfl⟩)
    · exact dimg_wd hok.1 hok.2.1 _ i (by omega)
theorem CycS.zv' {p : Int} (hp : 0 < p) (n m : Nat) (t : List (List Int)) : CycS p n m t Lin.zv := ⟨Lin.zv_md hp, Lin.zv_wd n, fun j _ => by rw [Lin.dot_nil (fun i _ => by simp [Lin.zv])]; rfl⟩
theorem CycS.step' {p : Int} (hp : 0 < p) {n m : Nat} {t : List (List Int)} {v w : Lin.V} (hv : CycS p n m t v) (c : Int) (hw : CycS p n m t w) : CycS p n m t (Lin.add p v c w) := by
  refine ⟨Lin.add_md hp _ _ _, Lin.add_wd c hv.2.1 hw.2.1, fun j hj => ?_⟩
  rw [Lin.dot_add]
  have h1 := hv.2.2 j hj
  have h2 := hw.2.2 j hj
  generalize Lin.dot n (Lin.col (fun i => ofL (t.getD i [])) j) v = a at *
  generalize Lin.dot n (Lin.col (fun i => ofL (t.getD i [])) j) w = b at *
  obtain ⟨x, hx⟩ : ∃ x, a = p * x := Int.dvd_of_emod_eq_zero h1
  obtain ⟨y, hy⟩ : ∃ y, b = p * y := Int.dvd_of_emod_eq_zero h2
  rw [hx, hy, Lin.cg (b := 0) (x + c * y) (by grind)]
  rfl
/-- Boundaries are cycles. -/
theorem bnd_cyc {p : Int} {ds : List Int} {ms : List (List (List Int))} (h : IsCx p ds ms) {q : Nat} (hq : q < ds.length) {v : Lin.V} (hv : Lin.Sp p ((tabN ms q).map ofL) v) : CycS p (dimN ds (q : Int)) (cycM ds q) (cycT ds ms q) v := by
  have hp := h.1.prime.lo1
  induction hv with
  | zero => exact CycS.zv' (by omega) _ _ _
  | step c _ hw ih =>
    refine ih.step' (by omega) c ?_
    obtain ⟨r, hr, rfl⟩ := List.mem_map.1 hw
    have hml := h.1.mlen
    by_cases hk : q + 1 < ds.length
    · have e := cycT_succ h hk
      rw [← e] at hr
      have hok1 := cyc_ok h hk
      have ec : cycM ds (q + 1) = dimN ds (q : Int) := by simp [cycM]
      rw [ec] at hok1
      have hrow := hok1.2.1 r hr
      refine ⟨ofL_md (by omega) hrow, ofL_wd (by have := hrow.1; omega), fun j hj => ?_⟩
      have h0 := congrFun (row_zero h hk hr) j
      rw [← rowsV_ofL]
      exact h0
    · have : tabN ms q = [] := by
        unfold tabN
        rw [List.getD_eq_getElem?_getD, List.getElem?_eq_none (by omega)]
        rfl
      rw [this] at hr
      cases hr
theorem hom_len {p : Int} {ds : List Int} {ms : List (List (List Int))} (h : IsCx p ds ms) {q : Nat} (hq : q < ds.length) {R : List Lin.V} (hR : SpF p (dimN ds (q : Int)) (HomS p ds ms q) R) : HNum p ds ms q (R.length : Int) := by
  have hp := h.1.prime.lo1
  have hp0 : 0 < p := by omega
  obtain ⟨C, B, hC, hB, _, _⟩ := (hR.2.2 Lin.zv).1 .zero
  have hBC : ∀ v, Lin.Sp p B v → Lin.Sp p C v := fun v hv => (hC.2.2 v).2 (bnd_cyc h hq ((hB.2.2 v).1 hv))
  have hCB : ∀ v, Lin.Sp p (C ++ B) v ↔ Lin.Sp p C v := fun v => ⟨Lin.Sp.trans hp0 (fun x hx => by
    rcases List.mem_append.1 hx with hx | hx
    · exact Lin.Sp.mem hx (hC.1.md x hx)
    · exact hBC x (Lin.Sp.mem hx (hB.1.md x hx))), Lin.Sp.mono (fun x hx => List.mem_append_left _ hx)⟩
  have e := Lin.dim_add hp hB.1 hC.1 hR.1 hBC (fun v => by
    rw [hR.2.2 v, ← hCB v]
    constructor
    · rintro ⟨C', B', hC', hB', hv⟩
      obtain rfl : C' = C := hC'.unique hp hC
      obtain rfl : B' = B := hB'.unique hp hB
      exact hv
    · exact fun hv => ⟨C, B, hC, hB, hv⟩)
  exact ⟨C, B, hC, hB, by rw [e]; omega⟩
end Go.Proofs.Ytpdkfidmmjlmnaa
