/-
  Plain mathematics: the rank of a page differential's table is the dimension of the bottom and the images together, less the bottom's.
-/
import Derived.Test.YtpdkfidmmjlmnabLdm
import Derived.Test.YtpdkfidmmjlmnabPdm
namespace Go.Proofs.Ytpdkfidmmjlmnab
open Go.RowKit

theorem isP_inv {p : Int} (hp : IsP p) : ∀ a, 0 < a → a < p → ∃ i, i * a % p = 1 := fun a h0 h1 => by
  have h : (p = 2 ∨ p = 3 ∨ p = 5 ∨ p = 7) := hp
  have hc : a = 1 ∨ a = 2 ∨ a = 3 ∨ a = 4 ∨ a = 5 ∨ a = 6 := by omega
  rcases h with rfl | rfl | rfl | rfl <;> rcases hc with rfl | rfl | rfl | rfl | rfl | rfl <;>
    first | (exfalso; omega) | exact ⟨1, by decide⟩ | exact ⟨2, by decide⟩ | exact ⟨3, by decide⟩ | exact ⟨4, by decide⟩ | exact ⟨5, by decide⟩ | exact ⟨6, by decide⟩
theorem rowsV_ofL (t : List (List Int)) : rowsV (t.map ofL) = fun i => ofL (t.getD i []) := funext fun i => by
  by_cases h : i < t.length
  · simp [rowsV, List.getD, h]
  · have h' : t.length ≤ i := by omega
    simp only [rowsV, List.getD, List.getElem?_map, List.getElem?_eq_none h', Option.map_none, Option.getD_none]
    exact funext fun j => by simp [ofL, Lin.zv]
theorem dimg_add (p : Int) (d : Nat) (t : List (List Int)) (x : Lin.V) (c : Int) (y : Lin.V) : dimg p d t (Lin.add p x c y) = Lin.add p (dimg p d t x) c (dimg p d t y) := img_add p d _ x y c
theorem dimg_zv (p : Int) (d : Nat) (t : List (List Int)) : dimg p d t Lin.zv = Lin.zv := img_zv p d _
theorem dimg_sp {p : Int} {d : Nat} {t : List (List Int)} {L : List Lin.V} {v : Lin.V} (h : Lin.Sp p L v) : Lin.Sp p (L.map (dimg p d t)) (dimg p d t v) := by
  induction h with
  | zero => rw [dimg_zv]; exact .zero
  | step c _ hw ih => rw [dimg_add]; exact .step c ih (List.mem_map.2 ⟨_, hw, rfl⟩)
theorem dimg_none {p : Int} (hp : 0 < p) {d : Nat} {t : List (List Int)} {L : List Lin.V} (h0 : ∀ u ∈ L, dimg p d t u = Lin.zv) {v : Lin.V} (h : Lin.Sp p L v) : dimg p d t v = Lin.zv := by
  induction h with
  | zero => exact dimg_zv p d t
  | step c _ hw ih => rw [dimg_add, ih, h0 _ hw]; exact Lin.add_zv (Lin.zv_md hp) c
/-- A differential of a differential is 0. -/
theorem dimg_dimg {p : Int} {ds : List Int} {ms : List (List (List Int))} (h : IsCx p ds ms) {k : Nat} (hk : k + 1 < ds.length) (u : Lin.V) : dimg p (dimN ds (k : Int)) (cycT ds ms k) (dimg p (dimN ds ((k + 1 : Nat) : Int)) (cycT ds ms (k + 1)) u) = Lin.zv := by
  have hp := h.1.prime.lo1
  have hok := cyc_ok h (q := k) (by omega)
  have hok1 := cyc_ok h hk
  cases k with
  | zero => exact funext fun i => dimg_wd (c := 0) hok.1 (by simpa [cycM] using hok.2.1) _ i (Nat.zero_le _)
  | succ j =>
    have hml := h.1.mlen
    have e1 := cycT_succ h (k := j) (by omega)
    have e2 := cycT_succ h hk
    have ec : cycM ds (j + 1) = dimN ds (j : Int) := by simp [cycM]
    have ec2 : cycM ds (j + 1 + 1) = dimN ds ((j + 1 : Nat) : Int) := by simp [cycM]
    rw [ec] at hok
    rw [ec2] at hok1
    refine dimg_none (by omega) (L := (cycT ds ms (j + 1 + 1)).map ofL) (fun x hx => ?_) (img_sp u fun i hi => rowsV_mem (by rw [List.length_map, hok1.1]; exact hi))
    obtain ⟨r, hr, rfl⟩ := List.mem_map.1 hx
    have hrow := hok1.2.1 r hr
    have hrl : r.length = dimN ds ((j + 1 : Nat) : Int) := by have := hrow.1; omega
    have hap := (dimg_apT (u := ofL r) h.1.prime hok.1 hok.2.1 (ofL_md (by omega) hrow)).2
    rw [toL_ofL hrl] at hap
    have hz := h.2 j (by omega) r (by rw [e2] at hr; exact hr)
    have e3 : (ds.getD j 0).toNat = dimN ds (j : Int) := by simp [dimN]
    have e4 : ms.getD j [] = cycT ds ms (j + 1) := e1.symm
    rw [e3, e4, hap] at hz
    refine funext fun i => ?_
    by_cases hi : i < dimN ds (j : Int)
    · exact hz _ (List.mem_map.2 ⟨i, List.mem_range.2 hi, rfl⟩)
    · exact dimg_wd hok.1 hok.2.1 _ i (by omega)
/-- A differential of an approximate cycle is an approximate cycle below, of every depth. -/
theorem zc_down {p : Int} {ds : List Int} {ms : List (List (List Int))} {ls : List (List Int)} (h : IsCx p ds ms) {k : Nat} (hk : k + 1 < ds.length) {q q0 t : Int} {u : Lin.V} (hu : ZcD p ds ms ls (k + 1) q q0 u) : ZcD p ds ms ls k q0 t (dimg p (dimN ds ((k + 1 : Nat) : Int)) (cycT ds ms (k + 1)) u) := by
  have hp := h.1.prime.lo1
  have hok := cyc_ok h hk
  have ec : cycM ds (k + 1) = dimN ds (k : Int) := by simp [cycM]
  rw [ec] at hok
  have hdd := dimg_dimg h hk u
  refine ⟨dimg_md (by omega) _ _ _, dimg_wd hok.1 hok.2.1 _, fun i hi hl => ?_, fun j _ _ => ?_⟩
  · have := hu.dn i (by rw [ec]; exact hi) hl
    rw [← rowsV_ofL] at this
    exact this
  · have := congrFun hdd j
    rw [← rowsV_ofL]
    exact this
theorem bot_zc {p : Int} {ds : List Int} {ms : List (List (List Int))} {ls : List (List Int)} (h : IsCx p ds ms) {k : Nat} {r q : Int} {v : Lin.V} (hv : BotS p ds ms ls k r q v) : ZcD p ds ms ls k q (q - r) v := by
  have hp := h.1.prime.lo1
  obtain ⟨A, R, hA, hR, hs⟩ := hv
  refine ZcS.sp (by omega) (fun u hu => ?_) hs
  rcases List.mem_append.1 hu with hu | hu
  · have := (hA.2.2 u).1 (Lin.Sp.mem hu (hA.1.md u hu))
    exact ⟨this.md, this.wd, fun i hi hl => this.up i hi (by omega), this.dn⟩
  · obtain ⟨y, hy, rfl⟩ := List.mem_map.1 hu
    by_cases hk : k + 1 < ds.length
    · have hR1 := hR.1 hk
      exact zc_down h hk ((hR1.2.2 y).1 (Lin.Sp.mem hy (hR1.1.md y hy)))
    · rw [hR.2 hk] at hy
      cases hy
/-- A differential of the bottom lies in the bottom below. -/
theorem bot_down {p : Int} {ds : List Int} {ms : List (List (List Int))} {ls : List (List Int)} (h : IsCx p ds ms) {k : Nat} (hk : k + 1 < ds.length) {r q : Int} {B : List Lin.V} (hB : SpF p (dimN ds (k : Int)) (BotS p ds ms ls k r (q - r)) B) {v : Lin.V} (hv : BotS p ds ms ls (k + 1) r q v) : Lin.Sp p B (dimg p (dimN ds ((k + 1 : Nat) : Int)) (cycT ds ms (k + 1)) v) := by
  have hp := h.1.prime.lo1
  have hp0 : 0 < p := by omega
  obtain ⟨A, R, hA, hR, hs⟩ := hv
  obtain ⟨A', R', hA', hR', _⟩ := (hB.2.2 Lin.zv).1 .zero
  refine Lin.Sp.trans hp0 (fun w hw => ?_) (dimg_sp hs)
  obtain ⟨u, hu, rfl⟩ := List.mem_map.1 hw
  rcases List.mem_append.1 hu with hu | hu
  · have h1 := (hA.2.2 u).1 (Lin.Sp.mem hu (hA.1.md u hu))
    have h2 := hR'.1 hk
    rw [show q - r + r - 1 = q - 1 by omega] at h2
    refine (hB.2.2 _).2 ⟨A', R', hA', hR', Lin.Sp.mono (fun x hx => List.mem_append_right _ hx) (dimg_sp ((h2.2.2 u).2 h1))⟩
  · obtain ⟨y, hy, rfl⟩ := List.mem_map.1 hu
    by_cases hk2 : k + 1 + 1 < ds.length
    · rw [dimg_dimg h hk2 y]
      exact .zero
    · rw [hR.2 hk2] at hy
      cases hy

/-- The rank of a page differential. -/
def RkNum (p : Int) (ds : List Int) (ms : List (List (List Int))) (ls : List (List Int)) (k : Nat) (r q x : Int) : Prop :=
  ((k = 0 ∨ q < r) ∧ x = 0) ∨
  (¬ (k = 0 ∨ q < r) ∧ ∃ B Z E, SpF p (dimN ds ((k - 1 : Nat) : Int)) (BotS p ds ms ls (k - 1) r (q - r)) B ∧ SpF p (dimN ds (k : Int)) (ZcD p ds ms ls k q (q - r)) Z ∧ Lin.Red p E ∧ Lin.Eqv p E (B ++ dimgs p ds ms k Z) ∧ x = (E.length : Int) - (B.length : Int))
theorem RkNum.unique {p : Int} {ds : List Int} {ms : List (List (List Int))} {ls : List (List Int)} {k : Nat} {r q x y : Int} (hp : 1 < p) (h : RkNum p ds ms ls k r q x) (h' : RkNum p ds ms ls k r q y) : x = y := by
  rcases h with ⟨h0, rfl⟩ | ⟨h0, B, Z, E, hB, hZ, hE, he, rfl⟩
  · rcases h' with ⟨_, rfl⟩ | ⟨h1, _⟩
    · rfl
    · exact absurd h0 h1
  · rcases h' with ⟨h1, _⟩ | ⟨_, B', Z', E', hB', hZ', hE', he', rfl⟩
    · exact absurd h1 h0
    · obtain rfl : B = B' := hB.unique' hp hB'
      obtain rfl : Z = Z' := hZ.unique' hp hZ'
      rw [hE.unique hp hE' (fun v => (he v).trans (he' v).symm)]
theorem ofL_leadRow (W : List Lin.V) (v : Lin.V) : ofL (leadRow W v) = Lin.crd W v := funext fun k => by
  by_cases h : k < W.length
  · simp [ofL, leadRow, Lin.crd, List.getD, h]
  · simp [ofL, leadRow, Lin.crd, List.getD, h]
theorem rk_of {p : Int} {ds : List Int} {ms : List (List (List Int))} {ls : List (List Int)} (hf : IsFil p ds ms ls) {k : Nat} (hk : k < ds.length) {r q : Int} {out : List (List Int)} {R : List Lin.V} (h : PdT p ds ms ls k r q out) (hR : Lin.Red p R) (hRe : Lin.Eqv p R (out.map ofL)) : RkNum p ds ms ls k r q (R.length : Int) := by
  have hcx := hf.1
  have hp := hcx.1.prime.lo1
  have hp0 : 0 < p := by omega
  obtain ⟨P, hP, ⟨h0, rfl⟩ | ⟨h0, B, W, rs, hB, hW, hrs, rfl⟩⟩ := h
  · refine Or.inl ⟨h0, ?_⟩
    have e : (P.map fun _ => ([] : List Int)).map ofL = List.replicate P.length Lin.zv := by
      rw [List.map_map]
      have : (ofL ∘ fun (_ : Lin.V) => ([] : List Int)) = fun _ => Lin.zv := funext fun _ => funext fun j => by simp [ofL, Lin.zv]
      rw [this, List.map_const']
    rw [e] at hRe
    rw [red_zeros hR hRe]
    rfl
  · refine Or.inr ⟨h0, ?_⟩
    obtain ⟨j, rfl⟩ : ∃ j, k = j + 1 := ⟨k - 1, by omega⟩
    have ej : j + 1 - 1 = j := rfl
    rw [ej] at hB hW ⊢
    obtain ⟨Z, Bk, hZ, hBk, _, _⟩ := (hP.2.2 Lin.zv).1 .zero
    obtain ⟨C, B', hC, hB', _, _⟩ := (hW.2.2 Lin.zv).1 .zero
    obtain rfl : B' = B := hB'.unique' hp hB
    obtain ⟨D, hD⟩ : ∃ D, D = dimg p (dimN ds ((j + 1 : Nat) : Int)) (cycT ds ms (j + 1)) := ⟨_, rfl⟩
    have eM : ∀ L, dimgs p ds ms (j + 1) L = L.map D := fun L => by rw [hD]; rfl
    have hDsp : ∀ {L : List Lin.V} {v : Lin.V}, Lin.Sp p L v → Lin.Sp p (L.map D) (D v) := fun {L v} hv => by rw [hD]; exact dimg_sp hv
    have hDmd : ∀ v, Lin.Md p (D v) := fun v => by rw [hD]; exact dimg_md hp0 _ _ _
    have hDb : ∀ v, BotS p ds ms ls (j + 1) r q v → Lin.Sp p B' (D v) := fun v hv => by rw [hD]; exact bot_down hcx hk hB hv
    have hDz : ∀ v, ZcD p ds ms ls (j + 1) q (q - r) v → ZcD p ds ms ls j (q - r) (q - r - r) (D v) := fun v hv => by rw [hD]; exact zc_down hcx hk hv
    rw [eM] at hrs
    -- the page's vectors are approximate cycles
    have hPz : ∀ u ∈ P, ZcD p ds ms ls (j + 1) q (q - r) u ∧ Lin.Sp p (Z ++ Bk) u := fun u hu => by
      obtain ⟨Z', Bk', hZ', hBk', hs, _⟩ := (hP.2.2 u).1 (Lin.Sp.mem hu (hP.1.md u hu))
      obtain rfl : Z' = Z := hZ'.unique' hp hZ
      obtain rfl : Bk' = Bk := hBk'.unique' hp hBk
      refine ⟨ZcS.sp hp0 (fun x hx => ?_) hs, hs⟩
      rcases List.mem_append.1 hx with hx | hx
      · exact (hZ.2.2 x).1 (Lin.Sp.mem hx (hZ.1.md x hx))
      · exact bot_zc hcx ((hBk.2.2 x).1 (Lin.Sp.mem hx (hBk.1.md x hx)))
    have hrsW : ∀ v ∈ rs, Lin.Sp p W v := fun v hv => by
      obtain ⟨i, hi, rfl⟩ := List.getElem_of_mem hv
      have hiM : i < (P.map D).length := by rw [← hrs.len]; exact hi
      have hiP : i < P.length := by simpa using hiM
      have hre := (hrs.at' i hiM hi).rest
      refine (hW.2.2 _).2 ⟨C, B', hC, hB, Lin.Sp.trans hp0 (fun x hx => ?_) hre.to, fun w hw => hre.off w (by rw [List.take_length]; exact hw)⟩
      rcases List.mem_cons.1 hx with rfl | hx
      · rw [List.getElem_map]
        refine Lin.Sp.mono (fun x hx => List.mem_append_left _ hx) ((hC.2.2 _).2 ?_)
        exact hDz _ (hPz _ (List.getElem_mem hiP)).1
      · exact Lin.Sp.mem (List.mem_append_right _ hx) (hB.1.md x hx)
    have hrsm : ∀ v ∈ rs, Lin.Md p v := fun v hv => (hrsW v hv).md hp0
    obtain ⟨A, hA, hAe⟩ := Lin.red_ex hp (isP_inv hcx.1.prime) rs hrsm
    have hZm : ∀ v ∈ B' ++ Z.map D, Lin.Md p v := fun v hv => by
      rcases List.mem_append.1 hv with hv | hv
      · exact hB.1.md v hv
      · obtain ⟨y, _, rfl⟩ := List.mem_map.1 hv
        exact hDmd y
    obtain ⟨E, hE, hEe⟩ := Lin.red_ex hp (isP_inv hcx.1.prime) (B' ++ Z.map D) hZm
    have hcr : (rs.map (leadRow W)).map ofL = rs.map (Lin.crd W) := by
      rw [List.map_map]
      exact List.map_congr_left fun v _ => ofL_leadRow W v
    rw [hcr] at hRe
    have e1 : R.length = A.length := Lin.dim_crd hp0 hW.1 hrsW hA hAe hR hRe
    have hMB : Lin.Eqv p (P.map D ++ B') (B' ++ Z.map D) := Lin.Eqv.of hp0 (fun w hw => by
      rcases List.mem_append.1 hw with hw | hw
      · obtain ⟨u, hu, rfl⟩ := List.mem_map.1 hw
        refine Lin.Sp.trans hp0 (fun x hx => ?_) (hDsp (hPz u hu).2)
        obtain ⟨y, hy, rfl⟩ := List.mem_map.1 hx
        rcases List.mem_append.1 hy with hy | hy
        · exact Lin.Sp.mem (List.mem_append_right _ (List.mem_map.2 ⟨y, hy, rfl⟩)) (hDmd y)
        · exact Lin.Sp.mono (fun x hx => List.mem_append_left _ hx) (hDb y ((hBk.2.2 y).1 (Lin.Sp.mem hy (hBk.1.md y hy))))
      · exact Lin.Sp.mem (List.mem_append_left _ hw) (hB.1.md w hw)) (fun w hw => by
      rcases List.mem_append.1 hw with hw | hw
      · exact Lin.Sp.mem (List.mem_append_right _ hw) (hB.1.md w hw)
      · obtain ⟨z, hz, rfl⟩ := List.mem_map.1 hw
        obtain ⟨y, hy⟩ := Lin.rest_ex hp0 hBk.1 (hZ.1.md z hz) Bk.length (Nat.le_refl _)
        have hyP : Lin.Sp p P y := (hP.2.2 y).2 ⟨Z, Bk, hZ, hBk, Lin.Sp.trans hp0 (fun x hx => by
          rcases List.mem_cons.1 hx with rfl | hx
          · exact Lin.Sp.mem (List.mem_append_left _ hz) (hZ.1.md _ hz)
          · exact Lin.Sp.mem (List.mem_append_right _ hx) (hBk.1.md x hx)) hy.to, fun w hw => hy.off w (by rw [List.take_length]; exact hw)⟩
        refine Lin.Sp.trans hp0 (fun x hx => ?_) (hDsp hy.of)
        obtain ⟨u, hu, rfl⟩ := List.mem_map.1 hx
        rcases List.mem_cons.1 hu with rfl | hu
        · exact Lin.Sp.mono (fun x hx => List.mem_append_left _ hx) (hDsp hyP)
        · exact Lin.Sp.mono (fun x hx => List.mem_append_right _ hx) (hDb u ((hBk.2.2 u).1 (Lin.Sp.mem hu (hBk.1.md u hu)))))
    have hro : RestsOf p (dimN ds (j : Int)) B' (P.map D) rs := ⟨fun i h1 h2 => (hrs.at' i h2 h1).rest, fun u hu => Lin.Sp.wd hW.2.1 (hrsW u hu)⟩
    have e2 : E.length = B'.length + A.length := Lin.dim_add hp hB.1 hE hA (fun v hv => (hEe v).2 (Lin.Sp.mono (fun x hx => List.mem_append_left _ hx) hv)) (fun v => by
      rw [hAe v, rests_sp hp hB.1 hro hrs.len v, hMB v, hEe v])
    exact ⟨B', Z, E, hB, hZ, hE, by rw [eM]; exact hEe, by rw [e1, e2]; omega⟩
end Go.Proofs.Ytpdkfidmmjlmnab
