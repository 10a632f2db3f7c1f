/-
  Approximate cycles in plain mathematics: by what they annihilate, and by the kernel of the kept rows, widened.
  Approximate cycles: impl.unitVector and approximateSpace by their contracts.
  Approximate cycles: impl.approximateSpace by its contract, beyond the degrees and in the degree 0.
  Approximate cycles: impl.approximateSpace by its contract, in the degrees above 0.
  The model's helpers for approximate cycles: spec.l02Kept and l02Wide by their contracts.
  The model widens vectors: spec.l02Wide by its contract.
  The model's approximate cycles: spec.l02Cycles by its contract.
  ApproximateCycles of both sides by their contracts.
-/
import Derived.Test.YtpdkfidmmjlmnaaP4
import Derived.Test.YtpdkfidmmjlmnaaQg
import Derived.Maps.AppendAt
namespace Go.Proofs.Ytpdkfidmmjlmnaa
open Go.RowKit

/-- Approximate cycles: no numbers at levels above q, and a differential without numbers at levels above q0. -/
structure ZcS (p : Int) (d m : Nat) (t : List (List Int)) (l l0 : List Int) (q q0 : Int) (v : Lin.V) : Prop where
  md : Lin.Md p v
  wd : Lin.Wd d v
  up : ∀ i, i < d → q < l.getD i 0 → v i = 0
  dn : ∀ j, j < m → q0 < l0.getD j 0 → Lin.dot d (Lin.col (fun i => ofL (t.getD i [])) j) v % p = 0

theorem ZcS.zv {p : Int} (hp : 0 < p) (d m : Nat) (t : List (List Int)) (l l0 : List Int) (q q0 : Int) : ZcS p d m t l l0 q q0 Lin.zv :=
  ⟨Lin.zv_md hp, Lin.zv_wd d, fun _ _ _ => rfl, fun j _ _ => by rw [Lin.dot_nil (fun i _ => by simp [Lin.zv])]; rfl⟩
theorem ZcS.add {p : Int} (hp : 0 < p) {d m : Nat} {t : List (List Int)} {l l0 : List Int} {q q0 : Int} {v w : Lin.V} (hv : ZcS p d m t l l0 q q0 v) (c : Int) (hw : ZcS p d m t l l0 q q0 w) : ZcS p d m t l l0 q q0 (Lin.add p v c w) := by
  refine ⟨Lin.add_md hp _ _ _, Lin.add_wd c hv.wd hw.wd, fun i hi h => ?_, fun j hj h => ?_⟩
  · simp [Lin.add, hv.up i hi h, hw.up i hi h]
  · rw [Lin.dot_add]
    have h1 := hv.dn j hj h
    have h2 := hw.dn j hj h
    generalize Lin.dot d (Lin.col (fun i => ofL (t.getD i [])) j) v = a at *
    generalize Lin.dot d (Lin.col (fun i => ofL (t.getD i [])) j) w = b at *
    obtain ⟨x, hx⟩ : ∃ x, a = p * x := Int.dvd_of_emod_eq_zero h1
    obtain ⟨y, hy⟩ : ∃ y, b = p * y := Int.dvd_of_emod_eq_zero h2
    rw [hx, hy, Lin.cg (b := 0) (x + c * y) (by grind)]
    rfl
theorem ZcS.sp {p : Int} (hp : 0 < p) {d m : Nat} {t : List (List Int)} {l l0 : List Int} {q q0 : Int} {O : List Lin.V} (h : ∀ u ∈ O, ZcS p d m t l l0 q q0 u) {v : Lin.V} (hv : Lin.Sp p O v) : ZcS p d m t l l0 q q0 v := by
  induction hv with
  | zero => exact ZcS.zv hp _ _ _ _ _ _ _
  | step c _ hw ih => exact ih.add hp c (h _ hw)

/-! ### The conditions of the program. -/
def upC (l : List Int) (q : Int) (k : Nat) : List Lin.V := ((List.range k).filter fun i => decide (q < l.getD i 0)).map unitV
def dnC (cs : List Lin.V) (l0 : List Int) (q0 : Int) (k : Nat) : List Lin.V := ((List.range k).filter fun j => decide (q0 < l0.getD j 0)).map fun j => cs.getD j Lin.zv
theorem filter_yes {P : Nat → Bool} {k : Nat} (h : P k = true) : (List.range (k + 1)).filter P = (List.range k).filter P ++ [k] := by
  rw [List.range_succ, List.filter_append, List.filter_cons_of_pos h, List.filter_nil]
theorem filter_no {P : Nat → Bool} {k : Nat} (h : ¬ P k = true) : (List.range (k + 1)).filter P = (List.range k).filter P := by
  rw [List.range_succ, List.filter_append, List.filter_cons_of_neg h, List.filter_nil, List.append_nil]
theorem upC_yes {l : List Int} {q : Int} {k : Nat} (h : q < l.getD k 0) : upC l q (k + 1) = upC l q k ++ [unitV k] := by
  unfold upC
  rw [filter_yes (decide_eq_true h), List.map_append]
  rfl
theorem upC_no {l : List Int} {q : Int} {k : Nat} (h : ¬ q < l.getD k 0) : upC l q (k + 1) = upC l q k := by
  unfold upC
  rw [filter_no (fun hh => h (of_decide_eq_true hh))]
theorem dnC_yes {cs : List Lin.V} {l0 : List Int} {q0 : Int} {k : Nat} (h : q0 < l0.getD k 0) : dnC cs l0 q0 (k + 1) = dnC cs l0 q0 k ++ [cs.getD k Lin.zv] := by
  unfold dnC
  rw [filter_yes (decide_eq_true h), List.map_append]
  rfl
theorem dnC_no {cs : List Lin.V} {l0 : List Int} {q0 : Int} {k : Nat} (h : ¬ q0 < l0.getD k 0) : dnC cs l0 q0 (k + 1) = dnC cs l0 q0 k := by
  unfold dnC
  rw [filter_no (fun hh => h (of_decide_eq_true hh))]
theorem upC_length (l : List Int) (q : Int) (k : Nat) : (upC l q k).length ≤ k := by
  have := List.length_filter_le (fun i => decide (q < l.getD i 0)) (List.range k)
  simpa [upC] using this
theorem dnC_length (cs : List Lin.V) (l0 : List Int) (q0 : Int) (k : Nat) : (dnC cs l0 q0 k).length ≤ k := by
  have := List.length_filter_le (fun i => decide (q0 < l0.getD i 0)) (List.range k)
  simpa [dnC] using this
theorem unitV_md {p : Int} (hp : 1 < p) (k : Nat) : Lin.Md p (unitV k) := fun i => by
  unfold unitV
  by_cases h : i = k
  · rw [if_pos h]; omega
  · rw [if_neg h]; omega
theorem unitV_wd {n k : Nat} (h : k < n) : Lin.Wd n (unitV k) := fun i hi => by
  unfold unitV
  rw [if_neg (by omega)]
theorem upC_md {p : Int} (hp : 1 < p) {l : List Int} {q : Int} {k : Nat} : ∀ u ∈ upC l q k, Lin.Md p u := fun u hu => by
  obtain ⟨i, _, rfl⟩ := List.mem_map.1 hu
  exact unitV_md hp i
theorem upC_wd {l : List Int} {q : Int} {k n : Nat} (h : k ≤ n) : ∀ u ∈ upC l q k, Lin.Wd n u := fun u hu => by
  obtain ⟨i, hi, rfl⟩ := List.mem_map.1 hu
  have := List.mem_range.1 (List.mem_filter.1 hi).1
  exact unitV_wd (by omega)
theorem dnC_mem {cs : List Lin.V} {l0 : List Int} {q0 : Int} {k : Nat} (h : k ≤ cs.length) : ∀ u ∈ dnC cs l0 q0 k, u ∈ cs := fun u hu => by
  obtain ⟨i, hi, rfl⟩ := List.mem_map.1 hu
  have := List.mem_range.1 (List.mem_filter.1 hi).1
  rw [getD_of_lt _ (by omega)]
  exact List.getElem_mem _
/-- What annihilates the conditions. -/
theorem zc_ker {p : Int} {d m : Nat} {t : List (List Int)} {l l0 : List Int} {q q0 : Int} (htl : t.length = d) (v : Lin.V) :
    Lin.Ker p d (upC l q d ++ dnC ((flipT m t).map ofL) l0 q0 m) v ↔ ZcS p d m t l l0 q q0 v := by
  have hu : ∀ i, i < d → Lin.dot d (unitV i) v = v i := fun i hi => by
    rw [Lin.dot_one hi (fun j _ hne => by simp [unitV, hne])]
    simp [unitV]
  have hfl : (flipT m t).length = m := by simp [flipT, tableOf]
  have hcol : ∀ j, j < m → Lin.dot d (((flipT m t).map ofL).getD j Lin.zv) v = Lin.dot d (Lin.col (fun i => ofL (t.getD i [])) j) v := fun j hj => Lin.dot_congr (fun i hi => by
    have e : ((flipT m t).map ofL).getD j Lin.zv = ofL ((List.range t.length).map fun i => (t.getD i []).getD j 0) := by
      rw [getD_of_lt _ (by rw [List.length_map, hfl]; exact hj), List.getElem_map]
      congr 1
      simp [flipT, tableOf]
    rw [e]
    have : ofL ((List.range t.length).map fun i => (t.getD i []).getD j 0) i = (t.getD i []).getD j 0 := by
      rw [ofL_at (by simp; omega)]
      simp
    rw [this]
    rfl)
  constructor
  · intro h
    refine ⟨h.md, h.wd, fun i hi hq => ?_, fun j hj hq => ?_⟩
    · have := h.ann (unitV i) (List.mem_append_left _ (List.mem_map.2 ⟨i, List.mem_filter.2 ⟨List.mem_range.2 hi, by simpa using hq⟩, rfl⟩))
      rw [hu i hi, Lin.md_mod (h.md i).1 (h.md i).2] at this
      exact this
    · rw [← hcol j hj]
      exact h.ann _ (List.mem_append_right _ (List.mem_map.2 ⟨j, List.mem_filter.2 ⟨List.mem_range.2 hj, by simpa using hq⟩, rfl⟩))
  · intro h
    refine ⟨h.md, h.wd, fun r hr => ?_⟩
    rcases List.mem_append.1 hr with hr | hr
    · obtain ⟨i, hi, rfl⟩ := List.mem_map.1 hr
      obtain ⟨hi1, hi2⟩ := List.mem_filter.1 hi
      have hi3 := List.mem_range.1 hi1
      rw [hu i hi3, h.up i hi3 (by simpa using hi2)]
      rfl
    · obtain ⟨j, hj, rfl⟩ := List.mem_map.1 hr
      obtain ⟨hj1, hj2⟩ := List.mem_filter.1 hj
      have hj3 := List.mem_range.1 hj1
      rw [hcol j hj3]
      exact h.dn j hj3 (by simpa using hj2)

/-! ### What a test keeps of the places. -/
theorem getD_end {α : Type} (L : List α) (x d : α) : (L ++ [x]).getD L.length d = x := by simp [List.getD]
theorem getD_app {α : Type} {L M : List α} {k : Nat} (d : α) (h : k < L.length) : (L ++ M).getD k d = L.getD k d := by simp [List.getD, List.getElem?_append_left h]
def kept (P : Nat → Bool) (d : Nat) : List Nat := (List.range d).filter P
def cnt (P : Nat → Bool) (i : Nat) : Nat := (kept P i).length
theorem kept_yes {P : Nat → Bool} {d : Nat} (h : P d = true) : kept P (d + 1) = kept P d ++ [d] := by simp [kept, List.range_succ, List.filter_append, h]
theorem kept_no {P : Nat → Bool} {d : Nat} (h : ¬ P d = true) : kept P (d + 1) = kept P d := by simp [kept, List.range_succ, List.filter_append, h]
theorem kept_length (P : Nat → Bool) (d : Nat) : (kept P d).length ≤ d := by
  have := List.length_filter_le P (List.range d)
  simpa [kept] using this
theorem kept_mem {P : Nat → Bool} {d i : Nat} : i ∈ kept P d ↔ i < d ∧ P i = true := by simp [kept]
/-- The place that is kept stands where it is counted. -/
theorem kept_at {P : Nat → Bool} {i : Nat} (hP : P i = true) : ∀ {d : Nat}, i < d → cnt P i < (kept P d).length ∧ (kept P d).getD (cnt P i) 0 = i := by
  intro d
  induction d with
  | zero => intro h; exact absurd h (Nat.not_lt_zero _)
  | succ d ih =>
    intro h
    by_cases e : i = d
    · subst e
      rw [kept_yes hP]
      exact ⟨by simp [cnt], getD_end _ _ _⟩
    · obtain ⟨h1, h2⟩ := ih (by omega)
      by_cases hd : P d = true
      · rw [kept_yes hd]
        exact ⟨by simp; omega, by rw [getD_app _ h1]; exact h2⟩
      · rw [kept_no hd]
        exact ⟨h1, h2⟩
theorem kept_get {P : Nat → Bool} {d k : Nat} (h : k < (kept P d).length) : (kept P d).getD k 0 < d ∧ P ((kept P d).getD k 0) = true ∧ cnt P ((kept P d).getD k 0) = k := by
  induction d with
  | zero => simp [kept] at h
  | succ d ih =>
    by_cases hd : P d = true
    · rw [kept_yes hd] at h ⊢
      by_cases e : k < (kept P d).length
      · obtain ⟨h1, h2, h3⟩ := ih e
        have e2 : (kept P d ++ [d]).getD k 0 = (kept P d).getD k 0 := by rw [getD_of_lt _ (by simp; omega), List.getElem_append_left e, getD_of_lt _ e]
        rw [e2]
        exact ⟨by omega, h2, h3⟩
      · have e1 : k = (kept P d).length := by simp at h; omega
        have e2 : (kept P d ++ [d]).getD k 0 = d := by
          subst e1
          rw [getD_of_lt _ (by simp), List.getElem_append_right (Nat.le_refl _)]
          simp
        rw [e2]
        exact ⟨by omega, hd, e1.symm⟩
    · rw [kept_no hd] at h ⊢
      obtain ⟨h1, h2, h3⟩ := ih h
      exact ⟨by omega, h2, h3⟩

/-- Numbers for the kept places as a vector of all; the first k of them. -/
def wideV (P : Nat → Bool) (d : Nat) (v : Lin.V) : Lin.V := fun i => if i < d ∧ P i = true then v (cnt P i) else 0
def wideTo (P : Nat → Bool) (d : Nat) (v : Lin.V) (k : Nat) : Lin.V := fun i => if (i < d ∧ P i = true) ∧ cnt P i < k then v (cnt P i) else 0
theorem wideTo_zero (P : Nat → Bool) (d : Nat) (v : Lin.V) : wideTo P d v 0 = Lin.zv := by
  funext i
  simp [wideTo, Lin.zv]
theorem wideTo_succ {P : Nat → Bool} {d : Nat} {v : Lin.V} {k : Nat} (h : k < (kept P d).length) : wideTo P d v (k + 1) = fun i => if i = (kept P d).getD k 0 then v k else wideTo P d v k i := by
  funext i
  obtain ⟨h1, h2, h3⟩ := kept_get h
  by_cases e : i = (kept P d).getD k 0
  · rw [if_pos e, e]
    simp only [wideTo]
    rw [if_pos ⟨⟨h1, h2⟩, by omega⟩, h3]
  · rw [if_neg e]
    simp only [wideTo]
    by_cases hi : i < d ∧ P i = true
    · have hc : cnt P i ≠ k := fun hh => e (by rw [← hh]; exact (kept_at hi.2 hi.1).2.symm)
      by_cases hk : cnt P i < k
      · rw [if_pos ⟨hi, by omega⟩, if_pos ⟨hi, hk⟩]
      · rw [if_neg (by omega), if_neg (by omega)]
    · rw [if_neg (fun hh => hi hh.1), if_neg (fun hh => hi hh.1)]
theorem wideTo_done (P : Nat → Bool) (d : Nat) (v : Lin.V) : wideTo P d v (kept P d).length = wideV P d v := by
  funext i
  simp only [wideTo, wideV]
  by_cases hi : i < d ∧ P i = true
  · rw [if_pos hi, if_pos ⟨hi, (kept_at hi.2 hi.1).1⟩]
  · rw [if_neg (fun hh => hi hh.1), if_neg hi]
theorem wideV_md {p : Int} (hp : 0 < p) {P : Nat → Bool} {d : Nat} {v : Lin.V} (h : Lin.Md p v) : Lin.Md p (wideV P d v) := fun i => by
  simp only [wideV]
  by_cases hi : i < d ∧ P i = true
  · rw [if_pos hi]; exact h _
  · rw [if_neg hi]; omega
theorem wideV_wd (P : Nat → Bool) (d : Nat) (v : Lin.V) : Lin.Wd d (wideV P d v) := fun i hi => by
  simp only [wideV]
  rw [if_neg (by omega)]
theorem wideV_zv (P : Nat → Bool) (d : Nat) : wideV P d Lin.zv = Lin.zv := by
  funext i
  simp only [wideV, Lin.zv]
  split <;> rfl
theorem wideV_add (p : Int) (P : Nat → Bool) (d : Nat) (v : Lin.V) (c : Int) (w : Lin.V) : wideV P d (Lin.add p v c w) = Lin.add p (wideV P d v) c (wideV P d w) := by
  funext i
  simp only [wideV, Lin.add]
  by_cases hi : i < d ∧ P i = true
  · simp only [if_pos hi]
  · simp only [if_neg hi]
    simp
theorem wide_dot (P : Nat → Bool) (u v : Lin.V) : ∀ d, Lin.dot d u (wideV P d v) = Lin.dot (kept P d).length (fun k => u ((kept P d).getD k 0)) v
  | 0 => by simp [kept, Lin.dot]
  | d + 1 => by
    have ih := wide_dot P u v d
    have h1 : Lin.dot d u (wideV P (d + 1) v) = Lin.dot d u (wideV P d v) := Lin.dot_congr (fun i hi => by
      simp only [wideV]
      by_cases hP : P i = true
      · rw [if_pos ⟨by omega, hP⟩, if_pos ⟨hi, hP⟩]
      · rw [if_neg (fun hh => hP hh.2), if_neg (fun hh => hP hh.2)])
    by_cases hd : P d = true
    · rw [kept_yes hd, List.length_append]
      show Lin.dot d u (wideV P (d + 1) v) + u d * wideV P (d + 1) v d = Lin.dot (kept P d).length _ v + u _ * v _
      rw [h1, ih]
      congr 1
      · refine Lin.dot_congr (fun i hi => ?_)
        rw [getD_of_lt _ hi, getD_of_lt _ (by simp; omega), List.getElem_append_left hi]
      · have e1 : (kept P d ++ [d]).getD (kept P d).length 0 = d := by
          rw [getD_of_lt _ (by simp), List.getElem_append_right (Nat.le_refl _)]
          simp
        rw [e1]
        simp only [wideV]
        rw [if_pos ⟨by omega, hd⟩]
        rfl
    · rw [kept_no hd]
      show Lin.dot d u (wideV P (d + 1) v) + u d * wideV P (d + 1) v d = _
      rw [h1, ih]
      simp only [wideV]
      rw [if_neg (fun hh => hd hh.2)]
      omega

/-- The rows of the kept places, their numbers at the places of js. -/
def keptRows (t : List (List Int)) (K js : List Nat) : List (List Int) := K.map fun i => js.map fun j => (t.getD i []).getD j 0
theorem keptRows_col {t : List (List Int)} {K js : List Nat} {a : Nat} (ha : a < js.length) {k : Nat} (hk : k < K.length) :
    Lin.col (fun i => ofL ((keptRows t K js).getD i [])) a k = Lin.col (fun i => ofL (t.getD i [])) (js.getD a 0) (K.getD k 0) := by
  simp only [Lin.col]
  have e : (keptRows t K js).getD k [] = js.map fun j => (t.getD (K.getD k 0) []).getD j 0 := by
    rw [getD_of_lt _ (by simp [keptRows]; exact hk)]
    simp only [keptRows, List.getElem_map]
    rw [getD_of_lt _ hk]
  rw [e, ofL_at (by simp; exact ha), List.getElem_map, getD_of_lt _ ha]
  rfl
def lowB (l : List Int) (q : Int) (i : Nat) : Bool := decide (l.getD i 0 ≤ q)
def highB (l : List Int) (q : Int) (i : Nat) : Bool := decide (q < l.getD i 0)

/-- What the model widens spans the approximate cycles. -/
theorem zc_wide {p : Int} (hp : 0 < p) {d m : Nat} {t : List (List Int)} {l l0 : List Int} {q q0 : Int} {R : List Lin.V}
    (hR : SpF p (kept (lowB l q) d).length (CycS p (kept (lowB l q) d).length (kept (highB l0 q0) m).length (keptRows t (kept (lowB l q) d) (kept (highB l0 q0) m))) R) (x : Lin.V) :
    Lin.Sp p (R.map (wideV (lowB l q) d)) x ↔ ZcS p d m t l l0 q q0 x := by
  have hdot : ∀ a, a < (kept (highB l0 q0) m).length → ∀ y, Lin.dot (kept (lowB l q) d).length (Lin.col (fun i => ofL ((keptRows t (kept (lowB l q) d) (kept (highB l0 q0) m)).getD i [])) a) y = Lin.dot d (Lin.col (fun i => ofL (t.getD i [])) ((kept (highB l0 q0) m).getD a 0)) (wideV (lowB l q) d y) := fun a ha y => by
    rw [wide_dot]
    exact Lin.dot_congr (fun k hk => by rw [keptRows_col ha hk])
  have one : ∀ y, CycS p (kept (lowB l q) d).length (kept (highB l0 q0) m).length (keptRows t (kept (lowB l q) d) (kept (highB l0 q0) m)) y → ZcS p d m t l l0 q q0 (wideV (lowB l q) d y) := fun y hy => by
    refine ⟨wideV_md hp hy.1, wideV_wd _ _ _, fun i hi hq => ?_, fun j hj hq => ?_⟩
    · simp only [wideV]
      rw [if_neg (fun hh => by have h2 : l.getD i 0 ≤ q := of_decide_eq_true hh.2; omega)]
    · have hb : highB l0 q0 j = true := by simpa [highB] using hq
      obtain ⟨h1, h2⟩ := kept_at hb hj
      have := hy.2.2 _ h1
      rw [hdot _ h1, h2] at this
      exact this
  constructor
  · refine ZcS.sp hp (fun u hu => ?_)
    obtain ⟨y, hy, rfl⟩ := List.mem_map.1 hu
    exact one y ((hR.2.2 y).1 (Lin.Sp.mem hy (hR.1.md y hy)))
  · intro hx
    obtain ⟨y, hy⟩ : ∃ y : Lin.V, y = fun k => if k < (kept (lowB l q) d).length then x ((kept (lowB l q) d).getD k 0) else 0 := ⟨_, rfl⟩
    have hyx : wideV (lowB l q) d y = x := by
      funext i
      simp only [wideV]
      by_cases hi : i < d ∧ lowB l q i = true
      · obtain ⟨h1, h2⟩ := kept_at hi.2 hi.1
        rw [if_pos hi, hy]
        simp only [if_pos h1]
        rw [h2]
      · rw [if_neg hi]
        by_cases hd : i < d
        · refine (hx.up i hd ?_).symm
          have : ¬ l.getD i 0 ≤ q := fun h => hi ⟨hd, by simpa [lowB] using h⟩
          omega
        · exact (hx.wd i (by omega)).symm
    have hyc : CycS p (kept (lowB l q) d).length (kept (highB l0 q0) m).length (keptRows t (kept (lowB l q) d) (kept (highB l0 q0) m)) y := by
      refine ⟨fun i => ?_, fun i hi => ?_, fun a ha => ?_⟩
      · rw [hy]
        by_cases h : i < (kept (lowB l q) d).length
        · simp only [if_pos h]; exact hx.md _
        · simp only [if_neg h]; omega
      · rw [hy]
        simp only [if_neg (show ¬ i < (kept (lowB l q) d).length by omega)]
      · rw [hdot a ha y, hyx]
        obtain ⟨h1, h2, _⟩ := kept_get ha
        exact hx.dn _ h1 (by simpa [highB] using h2)
    have hys := (hR.2.2 y).2 hyc
    have key : ∀ {z : Lin.V}, Lin.Sp p R z → Lin.Sp p (R.map (wideV (lowB l q) d)) (wideV (lowB l q) d z) := by
      intro z hz
      induction hz with
      | zero => rw [wideV_zv]; exact .zero
      | step c _ hw ih => rw [wideV_add]; exact .step c ih (List.mem_map.2 ⟨_, hw, rfl⟩)
    have := key hys
    rwa [hyx] at this

/-- Approximate cycles of a degree, by the levels. -/
def ZcD (p : Int) (ds : List Int) (ms : List (List (List Int))) (ls : List (List Int)) (n : Nat) (q q0 : Int) : Lin.V → Prop := ZcS p (dimN ds (n : Int)) (cycM ds n) (cycT ds ms n) (ls.getD n []) (ls.getD (n - 1) []) q q0
/-- All that a walk on a degree asks. -/
theorem zcD_congr {p : Int} {d m : Nat} {t : List (List Int)} {l l0 : List Int} {q q0 q1 : Int} (h : ∀ j, j < m → (q0 < l0.getD j 0 ↔ q1 < l0.getD j 0)) (v : Lin.V) : ZcS p d m t l l0 q q0 v ↔ ZcS p d m t l l0 q q1 v :=
  ⟨fun k => ⟨k.md, k.wd, k.up, fun j hj hq => k.dn j hj ((h j hj).2 hq)⟩, fun k => ⟨k.md, k.wd, k.up, fun j hj hq => k.dn j hj ((h j hj).1 hq)⟩⟩
end Go.Proofs.Ytpdkfidmmjlmnaa

namespace Go.Proofs.Ytpdkfidmmjlmnaa
open Go.RowKit

end Go.Proofs.Ytpdkfidmmjlmnaa

namespace Go.Proofs.Ytpdkfidmmjlmnaa
open Go.RowKit

theorem wpList_appendVat {ops : Array Oper} {rest : List Oper} {o : Oper} {a : Act} {w : World} {Q : Exit → Act → World → Prop} (hg : o.guard = none) (dst : Option Tmp) (hdst : o.dst = dst) (s x : Operand) (ho : o.op = .call { callee := .builtin .append, args := #[s, x], argTypes := #[86, 86] })
    (base : Nat) (sv : Value) (L : List Lin.V) (hs : a.eval s = sv) (hown : Ow base w sv L) (b : Nat) (c : Nat) (v : Lin.V) (hx : a.eval x = .slice (some ⟨b, 0, none⟩) 1 c) (hv : At w b 0 v) (hl : L.length ≤ 1048576) (hbase : base ≤ w.heap.size)
    (h : ∀ s' w', Ow base w' s' (L ++ [v]) → w.grownBy w' sv.ownBlock → (s'.ownBlock = sv.ownBlock ∨ s'.ownBlock = some w.heap.size) → wpList Try.prog ops Q rest (a.put dst s') w') : wpList Try.prog ops Q (o :: rest) a w := by
  obtain ⟨i0, hi, hz0, hz1, hz2⟩ := info_parts Try.infoVz
  subst hdst
  refine wpList_append_own_at w hg s x 86 ho base 134 i0 (.agg zl.toArray) 40 320 Try.underlyingSV hi hz0 hz1 hz2 (by simp [Value.cells, zl_length]) (by omega) sv L.length (cellsOf L) hs hown ⟨b, 0, none⟩ 1 c (vl v) hx (by rw [vl_length])
    (fun j u hu => by rw [Addr.add_mid]; exact hv j u hu) (vl_one v) (by unfold maxLen; omega) (by omega) hbase (fun s' w' h1 h2 _ h4 => h s' w' ?_ h2 h4)
  unfold Ow
  rw [cellsOf_append, cellsOf_one, List.length_append]
  exact h1
theorem hsubN {k n : Nat} (h : k + 1 = n) (hn : n ≤ 100) (w : World) : (binOp .sub 2 (.int .i64 (n : Int)) (.int .i64 1)).run Try.prog w = .ok (.int .i64 (k : Int)) w := by
  have h1 := hsubI (a := (n : Int)) (b := 1) (by omega) (by omega) w
  rwa [show (n : Int) - 1 = (k : Int) by omega] at h1

end Go.Proofs.Ytpdkfidmmjlmnaa

namespace Go.Proofs.Ytpdkfidmmjlmnaa
open Go.RowKit

end Go.Proofs.Ytpdkfidmmjlmnaa

namespace Go.Proofs.Ytpdkfidmmjlmnaa
open Go.RowKit

def keptI (P : Nat → Bool) (d : Nat) : List Int := (kept P d).map fun (i : Nat) => (i : Int)
theorem keptI_yes {P : Nat → Bool} {d : Nat} (h : P d = true) : keptI P (d + 1) = keptI P d ++ [(d : Int)] := by simp [keptI, kept_yes h]
theorem keptI_no {P : Nat → Bool} {d : Nat} (h : ¬ P d = true) : keptI P (d + 1) = keptI P d := by simp [keptI, kept_no h]
theorem keptI_length (P : Nat → Bool) (d : Nat) : (keptI P d).length = (kept P d).length := by simp [keptI]
theorem one_l1 (w : World) (x : Int) : L1 0 (w.alloc (.cells #[.int .i64 x] 2)) (.slice (some ⟨w.heap.size, 0, none⟩) 1 1) [x] := Or.inr ⟨w.heap.size, 0, 1, rfl, Nat.zero_le _, by simp, fun j hj => by
  have hj0 : j = 0 := by simpa using hj
  subst hj0
  exact ⟨_, cell_alloc1 w _ _, rfl⟩⟩

end Go.Proofs.Ytpdkfidmmjlmnaa

namespace Go.Proofs.Ytpdkfidmmjlmnaa
open Go.RowKit

def GsR (t : List (List Int)) (w : World) (e : Ending) (w' : World) : Prop := ∃ u, e = .returned u ∧ Gs w.heap.size w' u t ∧ Below w.heap.size w w'
theorem keptI_get {P : Nat → Bool} {d k : Nat} (h : k < (keptI P d).length) : (keptI P d)[k] = ((kept P d).getD k 0 : Nat) := by
  have h2 : k < (kept P d).length := by rw [← keptI_length]; exact h
  simp [keptI, List.getD, h2]
theorem g1_row {W : World} {g n : Nat} {f : Nat → Value} {v : Lin.V} (h : W.rowIs g 2 n f) (hf : ∀ i, i < n → f i = .int .i64 (v i)) (hn : n ≤ maxLen) : G1 W (.slice (some ⟨g, 0, none⟩) n n) (toL n v) := by
  obtain ⟨cs, hb, hsz, hcs⟩ := h
  refine ⟨by simp, Or.inr ⟨g, n, cs, by simp [toL_length], Nat.zero_le _, hb, by rw [toL_length]; exact Nat.le_refl _, hn, by simp [hsz], ?_⟩⟩
  refine List.ext_getElem (by simp [toL_length, hsz]) fun i h1 h2 => ?_
  have hi : i < n := by simpa [toL_length] using h2
  simp only [List.getElem_take, List.getElem_map, toL_get]
  have := hcs i hi
  rw [hf i hi] at this
  obtain ⟨_, h3⟩ := Array.getElem?_eq_some_iff.1 this
  simpa using h3

end Go.Proofs.Ytpdkfidmmjlmnaa

namespace Go.Proofs.Ytpdkfidmmjlmnaa
open Go.RowKit

/-- A reduced list of a space, gathered. -/
def SpG (p : Int) (d : Nat) (S : Lin.V → Prop) (w : World) (e : Ending) (w' : World) : Prop := ∃ (u : Value) (R : List Lin.V), e = .returned u ∧ Gs w.heap.size w' u (R.map (toL d)) ∧ Below w.heap.size w w' ∧ SpF p d S R

def rowJ (r : List Int) (js : List Nat) : List Int := js.map fun j => r.getD j 0
theorem rowJ_yes {P : Nat → Bool} {r : List Int} {k : Nat} (h : P k = true) : rowJ r (kept P (k + 1)) = rowJ r (kept P k) ++ [r.getD k 0] := by simp [rowJ, kept_yes h]
theorem rowJ_no {P : Nat → Bool} {r : List Int} {k : Nat} (h : ¬ P k = true) : rowJ r (kept P (k + 1)) = rowJ r (kept P k) := by simp [rowJ, kept_no h]
theorem rowJ_length (r : List Int) (js : List Nat) : (rowJ r js).length = js.length := by simp [rowJ]
theorem keptRows_take {t : List (List Int)} {K js : List Nat} {k : Nat} (h : k < K.length) : keptRows t (K.take (k + 1)) js = keptRows t (K.take k) js ++ [rowJ (t.getD (K.getD k 0) []) js] := by
  unfold keptRows
  rw [List.take_succ_eq_append_getElem h, List.map_append, getD_of_lt _ h]
  rfl
theorem rowJ_ok {p : Int} (hp : 0 < p) {m : Nat} {r : List Int} (h : RowOk p (m : Int) r) {js : List Nat} : RowOk p (js.length : Int) (rowJ r js) := by
  refine ⟨by rw [rowJ_length], fun x hx => ?_⟩
  obtain ⟨j, _, rfl⟩ := List.mem_map.1 hx
  by_cases hj : j < r.length
  · rw [getD_of_lt _ hj]
    exact h.2 _ (List.getElem_mem hj)
  · simp [List.getD, show r.length ≤ j by omega]
    omega

end Go.Proofs.Ytpdkfidmmjlmnaa

namespace Go.Proofs.Ytpdkfidmmjlmnaa
open Go.RowKit

end Go.Proofs.Ytpdkfidmmjlmnaa
