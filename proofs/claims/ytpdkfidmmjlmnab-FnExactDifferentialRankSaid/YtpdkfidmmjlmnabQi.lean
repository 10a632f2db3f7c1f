/-
  Approximate cycles in plain mathematics: by what they annihilate, and by the kernel of the kept rows, widened.
  Approximate cycles: impl.unitVector and approximateSpace by their contracts.
  Approximate cycles: impl.approximateSpace by its contract, beyond the degrees and in the degree 0.
  Approximate cycles: impl.approximateSpace by its contract, in the degrees above 0.
  The model's helpers for approximate cycles: spec.l02Kept and l02Wide by their contracts.
  The model widens vectors: spec.l02Wide by its contract.
  The model's approximate cycles: spec.l02Cycles by its contract.
  ApproximateCycles of both sides by their contracts.
-/
import Derived.Test.YtpdkfidmmjlmnabP4
import Derived.Test.YtpdkfidmmjlmnabQg
import Derived.Maps.AppendAt
namespace Go.Proofs.Ytpdkfidmmjlmnab
open Go.RowKit

/-- Approximate cycles: no numbers at levels above q, and a differential without numbers at levels above q0. -/
structure ZcS (p : Int) (d m : Nat) (t : List (List Int)) (l l0 : List Int) (q q0 : Int) (v : Lin.V) : Prop where
  md : Lin.Md p v
  wd : Lin.Wd d v
  up : ∀ i, i < d → q < l.getD i 0 → v i = 0
  dn : ∀ j, j < m → q0 < l0.getD j 0 → Lin.dot d (Lin.col (fun i => ofL (t.getD i [])) j) v % p = 0

theorem ZcS.zv {p : Int} (hp : 0 < p) (d m : Nat) (t : List (List Int)) (l l0 : List Int) (q q0 : Int) : ZcS p d m t l l0 q q0 Lin.zv :=
  ⟨Lin.zv_md hp, Lin.zv_wd d, fun _ _ _ => rfl, fun j _ _ => by rw [Lin.dot_nil (fun i _ => by simp [Lin.zv])]; rfl⟩
theorem ZcS.add {p : Int} (hp : 0 < p) {d m : Nat} {t : List (List Int)} {l l0 : List Int} {q q0 : Int} {v w : Lin.V} (hv : ZcS p d m t l l0 q q0 v) (c : Int) (hw : ZcS p d m t l l0 q q0 w) : ZcS p d m t l l0 q q0 (Lin.add p v c w) := by
  refine ⟨Lin.add_md hp _ _ _, Lin.add_wd c hv.wd hw.wd, fun i hi h => ?_, fun j hj h => ?_⟩
  · simp [Lin.add, hv.up i hi h, hw.up i hi h]
  · rw [Lin.dot_add]
    have h1 := hv.dn j hj h
    have h2 := hw.dn j hj h
    generalize Lin.dot d (Lin.col (fun i => ofL (t.getD i [])) j) v = a at *
    generalize Lin.dot d (Lin.col (fun i => ofL (t.getD i [])) j) w = b at *
    obtain ⟨x, hx⟩ : ∃ x, a = p * x := Int.dvd_of_emod_eq_zero h1
    obtain ⟨y, hy⟩ : ∃ y, b = p * y := Int.dvd_of_emod_eq_zero h2
    rw [hx, hy, Lin.cg (b := 0) (x + c * y) (by grind)]
    rfl
theorem ZcS.sp {p : Int} (hp : 0 < p) {d m : Nat} {t : List (List Int)} {l l0 : List Int} {q q0 : Int} {O : List Lin.V} (h : ∀ u ∈ O, ZcS p d m t l l0 q q0 u) {v : Lin.V} (hv : Lin.Sp p O v) : ZcS p d m t l l0 q q0 v := by
  induction hv with
  | zero => exact ZcS.zv hp _ _ _ _ _ _ _
  | step c _ hw ih => exact ih.add hp c (h _ hw)

/-! ### The conditions of the program. -/
def upC (l : List Int) (q : Int) (k : Nat) : List Lin.V := ((List.range k).filter fun i => decide (q < l.getD i 0)).map unitV
def dnC (cs : List Lin.V) (l0 : List Int) (q0 : Int) (k : Nat) : List Lin.V := ((List.range k).filter fun j => decide (q0 < l0.getD j 0)).map fun j => cs.getD j Lin.zv
theorem filter_yes {P : Nat → Bool} {k : Nat} (h : P k = true) : (List.range (k + 1)).filter P = (List.range k).filter P ++ [k] := by
  rw [List.range_succ, List.filter_append, List.filter_cons_of_pos h, List.filter_nil]
theorem filter_no {P : Nat → Bool} {k : Nat} (h : ¬ P k = true) : (List.range (k + 1)).filter P = (List.range k).filter P := by
  rw [List.range_succ, List.filter_append, List.filter_cons_of_neg h, List.filter_nil, List.append_nil]
theorem upC_yes {l : List Int} {q : Int} {k : Nat} (h : q < l.getD k 0) : upC l q (k + 1) = upC l q k ++ [unitV k] := by
  unfold upC
  rw [filter_yes (decide_eq_true h), List.map_append]
  rfl
theorem upC_no {l : List Int} {q : Int} {k : Nat} (h : ¬ q < l.getD k 0) : upC l q (k + 1) = upC l q k := by
  unfold upC
  rw [filter_no (fun hh => h (of_decide_eq_true hh))]
theorem dnC_yes {cs : List Lin.V} {l0 : List Int} {q0 : Int} {k : Nat} (h : q0 < l0.getD k 0) : dnC cs l0 q0 (k + 1) = dnC cs l0 q0 k ++ [cs.getD k Lin.zv] := by
  unfold dnC
  rw [filter_yes (decide_eq_true h), List.map_append]
  rfl
theorem dnC_no {cs : List Lin.V} {l0 : List Int} {q0 : Int} {k : Nat} (h : ¬ q0 < l0.getD k 0) : dnC cs l0 q0 (k + 1) = dnC cs l0 q0 k := by
  unfold dnC
  rw [filter_no (fun hh => h (of_decide_eq_true hh))]
theorem upC_length (l : List Int) (q : Int) (k : Nat) : (upC l q k).length ≤ k := by
  have := List.length_filter_le (fun i => decide (q < l.getD i 0)) (List.range k)
  simpa [upC] using this
theorem dnC_length (cs : List Lin.V) (l0 : List Int) (q0 : Int) (k : Nat) : (dnC cs l0 q0 k).length ≤ k := by
  have := List.length_filter_le (fun i => decide (q0 < l0.getD i 0)) (List.range k)
  simpa [dnC] using this
theorem unitV_md {p : Int} (hp : 1 < p) (k : Nat) : Lin.Md p (unitV k) := fun i => by
  unfold unitV
  by_cases h : i = k
  · rw [if_pos h]; omega
  · rw [if_neg h]; omega
theorem unitV_wd {n k : Nat} (h : k < n) : Lin.Wd n (unitV k) := fun i hi => by
  unfold unitV
  rw [if_neg (by omega)]
theorem upC_md {p : Int} (hp : 1 < p) {l : List Int} {q : Int} {k : Nat} : ∀ u ∈ upC l q k, Lin.Md p u := fun u hu => by
  obtain ⟨i, _, rfl⟩ := List.mem_map.1 hu
  exact unitV_md hp i
theorem upC_wd {l : List Int} {q : Int} {k n : Nat} (h : k ≤ n) : ∀ u ∈ upC l q k, Lin.Wd n u := fun u hu => by
  obtain ⟨i, hi, rfl⟩ := List.mem_map.1 hu
  have := List.mem_range.1 (List.mem_filter.1 hi).1
  exact unitV_wd (by omega)
theorem dnC_mem {cs : List Lin.V} {l0 : List Int} {q0 : Int} {k : Nat} (h : k ≤ cs.length) : ∀ u ∈ dnC cs l0 q0 k, u ∈ cs := fun u hu => by
  obtain ⟨i, hi, rfl⟩ := List.mem_map.1 hu
  have := List.mem_range.1 (List.mem_filter.1 hi).1
  rw [getD_of_lt _ (by omega)]
  exact List.getElem_mem _
/-- What annihilates the conditions. -/
theorem zc_ker {p : Int} {d m : Nat} {t : List (List Int)} {l l0 : List Int} {q q0 : Int} (htl : t.length = d) (v : Lin.V) :
    Lin.Ker p d (upC l q d ++ dnC ((flipT m t).map ofL) l0 q0 m) v ↔ ZcS p d m t l l0 q q0 v := by
  have hu : ∀ i, i < d → Lin.dot d (unitV i) v = v i := fun i hi => by
    rw [Lin.dot_one hi (fun j _ hne => by simp [unitV, hne])]
    simp [unitV]
  have hfl : (flipT m t).length = m := by simp [flipT, tableOf]
  have hcol : ∀ j, j < m → Lin.dot d (((flipT m t).map ofL).getD j Lin.zv) v = Lin.dot d (Lin.col (fun i => ofL (t.getD i [])) j) v := fun j hj => Lin.dot_congr (fun i hi => by
    have e : ((flipT m t).map ofL).getD j Lin.zv = ofL ((List.range t.length).map fun i => (t.getD i []).getD j 0) := by
      rw [getD_of_lt _ (by rw [List.length_map, hfl]; exact hj), List.getElem_map]
      congr 1
      simp [flipT, tableOf]
    rw [e]
    have : ofL ((List.range t.length).map fun i => (t.getD i []).getD j 0) i = (t.getD i []).getD j 0 := by
      rw [ofL_at (by simp; omega)]
      simp
    rw [this]
    rfl)
  constructor
  · intro h
    refine ⟨h.md, h.wd, fun i hi hq => ?_, fun j hj hq => ?_⟩
    · have := h.ann (unitV i) (List.mem_append_left _ (List.mem_map.2 ⟨i, List.mem_filter.2 ⟨List.mem_range.2 hi, by simpa using hq⟩, rfl⟩))
      rw [hu i hi, Lin.md_mod (h.md i).1 (h.md i).2] at this
      exact this
    · rw [← hcol j hj]
      exact h.ann _ (List.mem_append_right _ (List.mem_map.2 ⟨j, List.mem_filter.2 ⟨List.mem_range.2 hj, by simpa using hq⟩, rfl⟩))
  · intro h
    refine ⟨h.md, h.wd, fun r hr => ?_⟩
    rcases List.mem_append.1 hr with hr | hr
    · obtain ⟨i, hi, rfl⟩ := List.mem_map.1 hr
      obtain ⟨hi1, hi2⟩ := List.mem_filter.1 hi
      have hi3 := List.mem_range.1 hi1
      rw [hu i hi3, h.up i hi3 (by simpa using hi2)]
      rfl
    · obtain ⟨j, hj, rfl⟩ := List.mem_map.1 hr
      obtain ⟨hj1, hj2⟩ := List.mem_filter.1 hj
      have hj3 := List.mem_range.1 hj1
      rw [hcol j hj3]
      exact h.dn j hj3 (by simpa using hj2)

/-! ### What a test keeps of the places. -/
theorem getD_end {α : Type} (L : List α) (x d : α) : (L ++ [x]).getD L.length d = x := by simp [List.getD]
theorem getD_app {α : Type} {L M : List α} {k : Nat} (d : α) (h : k < L.length) : (L ++ M).getD k d = L.getD k d := by simp [List.getD, List.getElem?_append_left h]
def kept (P : Nat → Bool) (d : Nat) : List Nat := (List.range d).filter P
def cnt (P : Nat → Bool) (i : Nat) : Nat := (kept P i).length
theorem kept_yes {P : Nat → Bool} {d : Nat} (h : P d = true) : kept P (d + 1) = kept P d ++ [d] := by simp [kept, List.range_succ, List.filter_append, h]
theorem kept_no {P : Nat → Bool} {d : Nat} (h : ¬ P d = true) : kept P (d + 1) = kept P d := by simp [kept, List.range_succ, List.filter_append, h]
theorem kept_length (P : Nat → Bool) (d : Nat) : (kept P d).length ≤ d := by
  have := List.length_filter_le P (List.range d)
  simpa [kept] using this
theorem kept_mem {P : Nat → Bool} {d i : Nat} : i ∈ kept P d ↔ i < d ∧ P i = true := by simp [kept]
/-- The place that is kept stands where it is counted. -/
theorem kept_at {P : Nat → Bool} {i : Nat} (hP : P i = true) : ∀ {d : Nat}, i < d → cnt P i < (kept P d).length ∧ (kept P d).getD (cnt P i) 0 = i := by
  intro d
  induction d with
  | zero => intro h; exact absurd h (Nat.not_lt_zero _)
  | succ d ih =>
    intro h
    by_cases e : i = d
    · subst e
      rw [kept_yes hP]
      exact ⟨by simp [cnt], getD_end _ _ _⟩
    · obtain ⟨h1, h2⟩ := ih (by omega)
      by_cases hd : P d = true
      · rw [kept_yes hd]
        exact ⟨by simp; omega, by rw [getD_app _ h1]; exact h2⟩
      · rw [kept_no hd]
        exact ⟨h1, h2⟩
theorem kept_get {P : Nat → Bool} {d k : Nat} (h : k < (kept P d).length) : (kept P d).getD k 0 < d ∧ P ((kept P d).getD k 0) = true ∧ cnt P ((kept P d).getD k 0) = k := by
  induction d with
  | zero => simp [kept] at h
  | succ d ih =>
    by_cases hd : P d = true
    · rw [kept_yes hd] at h ⊢
      by_cases e : k < (kept P d).length
      · obtain ⟨h1, h2, h3⟩ := ih e
        have e2 : (kept P d ++ [d]).getD k 0 = (kept P d).getD k 0 := by rw [getD_of_lt _ (by simp; omega), List.getElem_append_left e, getD_of_lt _ e]
        rw [e2]
        exact ⟨by omega, h2, h3⟩
      · have e1 : k = (kept P d).length := by simp at h; omega
        have e2 : (kept P d ++ [d]).getD k 0 = d := by
          subst e1
          rw [getD_of_lt _ (by simp), List.getElem_append_right (Nat.le_refl _)]
          simp
        rw [e2]
        exact ⟨by omega, hd, e1.symm⟩
    · rw [kept_no hd] at h ⊢
      obtain ⟨h1, h2, h3⟩ := ih h
      exact ⟨by omega, h2, h3⟩

/-- Numbers for the kept places as a vector of all; the first k of them. -/
def wideV (P : Nat → Bool) (d : Nat) (v : Lin.V) : Lin.V := fun i => if i < d ∧ P i = true then v (cnt P i) else 0
def wideTo (P : Nat → Bool) (d : Nat) (v : Lin.V) (k : Nat) : Lin.V := fun i => if (i < d ∧ P i = true) ∧ cnt P i < k then v (cnt P i) else 0
theorem wideTo_zero (P : Nat → Bool) (d : Nat) (v : Lin.V) : wideTo P d v 0 = Lin.zv := by
  funext i
  simp [wideTo, Lin.zv]
theorem wideTo_succ {P : Nat → Bool} {d : Nat} {v : Lin.V} {k : Nat} (h : k < (kept P d).length) : wideTo P d v (k + 1) = fun i => if i = (kept P d).getD k 0 then v k else wideTo P d v k i := by
  funext i
  obtain ⟨h1, h2, h3⟩ := kept_get h
  by_cases e : i = (kept P d).getD k 0
  · rw [if_pos e, e]
    simp only [wideTo]
    rw [if_pos ⟨⟨h1, h2⟩, by omega⟩, h3]
  · rw [if_neg e]
    simp only [wideTo]
    by_cases hi : i < d ∧ P i = true
    · have hc : cnt P i ≠ k := fun hh => e (by rw [← hh]; exact (kept_at hi.2 hi.1).2.symm)
      by_cases hk : cnt P i < k
      · rw [if_pos ⟨hi, by omega⟩, if_pos ⟨hi, hk⟩]
      · rw [if_neg (by omega), if_neg (by omega)]
    · rw [if_neg (fun hh => hi hh.1), if_neg (fun hh => hi hh.1)]
theorem wideTo_done (P : Nat → Bool) (d : Nat) (v : Lin.V) : wideTo P d v (kept P d).length = wideV P d v := by
  funext i
  simp only [wideTo, wideV]
  by_cases hi : i < d ∧ P i = true
  · rw [if_pos hi, if_pos ⟨hi, (kept_at hi.2 hi.1).1⟩]
  · rw [if_neg (fun hh => hi hh.1), if_neg hi]
theorem wideV_md {p : Int} (hp : 0 < p) {P : Nat → Bool} {d : Nat} {v : Lin.V} (h : Lin.Md p v) : Lin.Md p (wideV P d v) := fun i => by
  simp only [wideV]
  by_cases hi : i < d ∧ P i = true
  · rw [if_pos hi]; exact h _
  · rw [if_neg hi]; omega
theorem wideV_wd (P : Nat → Bool) (d : Nat) (v : Lin.V) : Lin.Wd d (wideV P d v) := fun i hi => by
  simp only [wideV]
  rw [if_neg (by omega)]
theorem wideV_zv (P : Nat → Bool) (d : Nat) : wideV P d Lin.zv = Lin.zv := by
  funext i
  simp only [wideV, Lin.zv]
  split <;> rfl
theorem wideV_add (p : Int) (P : Nat → Bool) (d : Nat) (v : Lin.V) (c : Int) (w : Lin.V) : wideV P d (Lin.add p v c w) = Lin.add p (wideV P d v) c (wideV P d w) := by
  funext i
  simp only [wideV, Lin.add]
  by_cases hi : i < d ∧ P i = true
  · simp only [if_pos hi]
  · simp only [if_neg hi]
    simp
theorem wide_dot (P : Nat → Bool) (u v : Lin.V) : ∀ d, Lin.dot d u (wideV P d v) = Lin.dot (kept P d).length (fun k => u ((kept P d).getD k 0)) v
  | 0 => by simp [kept, Lin.dot]
  | d + 1 => by
    have ih := wide_dot P u v d
    have h1 : Lin.dot d u (wideV P (d + 1) v) = Lin.dot d u (wideV P d v) := Lin.dot_congr (fun i hi => by
      simp only [wideV]
      by_cases hP : P i = true
      · rw [if_pos ⟨by omega, hP⟩, if_pos ⟨hi, hP⟩]
      · rw [if_neg (fun hh => hP hh.2), if_neg (fun hh => hP hh.2)])
    by_cases hd : P d = true
    · rw [kept_yes hd, List.length_append]
      show Lin.dot d u (wideV P (d + 1) v) + u d * wideV P (d + 1) v d = Lin.dot (kept P d).length _ v + u _ * v _
      rw [h1, ih]
      congr 1
      · refine Lin.dot_congr (fun i hi => ?_)
        rw [getD_of_lt _ hi, getD_of_lt _ (by simp; omega), List.getElem_append_left hi]
      · have e1 : (kept P d ++ [d]).getD (kept P d).length 0 = d := by
          rw [getD_of_lt _ (by simp), List.getElem_append_right (Nat.le_refl _)]
          simp
        rw [e1]
        simp only [wideV]
        rw [if_pos ⟨by omega, hd⟩]
        rfl
    · rw [kept_no hd]
      show Lin.dot d u (wideV P (d + 1) v) + u d * wideV P (d + 1) v d = _
      rw [h1, ih]
      simp only [wideV]
      rw [if_neg (fun hh => hd hh.2)]
      omega

/-- The rows of the kept places, their numbers at the places of js. -/
def keptRows (t : List (List Int)) (K js : List Nat) : List (List Int) := K.map fun i => js.map fun j => (t.getD i []).getD j 0
theorem keptRows_col {t : List (List Int)} {K js : List Nat} {a : Nat} (ha : a < js.length) {k : Nat} (hk : k < K.length) :
    Lin.col (fun i => ofL ((keptRows t K js).getD i [])) a k = Lin.col (fun i => ofL (t.getD i [])) (js.getD a 0) (K.getD k 0) := by
  simp only [Lin.col]
  have e : (keptRows t K js).getD k [] = js.map fun j => (t.getD (K.getD k 0) []).getD j 0 := by
    rw [getD_of_lt _ (by simp [keptRows]; exact hk)]
    simp only [keptRows, List.getElem_map]
    rw [getD_of_lt _ hk]
  rw [e, ofL_at (by simp; exact ha), List.getElem_map, getD_of_lt _ ha]
  rfl
def lowB (l : List Int) (q : Int) (i : Nat) : Bool := decide (l.getD i 0 ≤ q)
def highB (l : List Int) (q : Int) (i : Nat) : Bool := decide (q < l.getD i 0)

/-- What the model widens spans the approximate cycles. -/
theorem zc_wide {p : Int} (hp : 0 < p) {d m : Nat} {t : List (List Int)} {l l0 : List Int} {q q0 : Int} {R : List Lin.V}
    (hR : SpF p (kept (lowB l q) d).length (CycS p (kept (lowB l q) d).length (kept (highB l0 q0) m).length (keptRows t (kept (lowB l q) d) (kept (highB l0 q0) m))) R) (x : Lin.V) :
    Lin.Sp p (R.map (wideV (lowB l q) d)) x ↔ ZcS p d m t l l0 q q0 x := by
  have hdot : ∀ a, a < (kept (highB l0 q0) m).length → ∀ y, Lin.dot (kept (lowB l q) d).length (Lin.col (fun i => ofL ((keptRows t (kept (lowB l q) d) (kept (highB l0 q0) m)).getD i [])) a) y = Lin.dot d (Lin.col (fun i => ofL (t.getD i [])) ((kept (highB l0 q0) m).getD a 0)) (wideV (lowB l q) d y) := fun a ha y => by
    rw [wide_dot]
    exact Lin.dot_congr (fun k hk => by rw [keptRows_col ha hk])
  have one : ∀ y, CycS p (kept (lowB l q) d).length (kept (highB l0 q0) m).length (keptRows t (kept (lowB l q) d) (kept (highB l0 q0) m)) y → ZcS p d m t l l0 q q0 (wideV (lowB l q) d y) := fun y hy => by
    refine ⟨wideV_md hp hy.1, wideV_wd _ _ _, fun i hi hq => ?_, fun j hj hq => ?_⟩
    · simp only [wideV]
      rw [if_neg (fun hh => by have h2 : l.getD i 0 ≤ q := of_decide_eq_true hh.2; omega)]
    · have hb : highB l0 q0 j = true := by simpa [highB] using hq
      obtain ⟨h1, h2⟩ := kept_at hb hj
      have := hy.2.2 _ h1
      rw [hdot _ h1, h2] at this
      exact this
  constructor
  · refine ZcS.sp hp (fun u hu => ?_)
    obtain ⟨y, hy, rfl⟩ := List.mem_map.1 hu
    exact one y ((hR.2.2 y).1 (Lin.Sp.mem hy (hR.1.md y hy)))
  · intro hx
    obtain ⟨y, hy⟩ : ∃ y : Lin.V, y = fun k => if k < (kept (lowB l q) d).length then x ((kept (lowB l q) d).getD k 0) else 0 := ⟨_, rfl⟩
    have hyx : wideV (lowB l q) d y = x := by
      funext i
      simp only [wideV]
      by_cases hi : i < d ∧ lowB l q i = true
      · obtain ⟨h1, h2⟩ := kept_at hi.2 hi.1
        rw [if_pos hi, hy]
        simp only [if_pos h1]
        rw [h2]
      · rw [if_neg hi]
        by_cases hd : i < d
        · refine (hx.up i hd ?_).symm
          have : ¬ l.getD i 0 ≤ q := fun h => hi ⟨hd, by simpa [lowB] using h⟩
          omega
        · exact (hx.wd i (by omega)).symm
    have hyc : CycS p (kept (lowB l q) d).length (kept (highB l0 q0) m).length (keptRows t (kept (lowB l q) d) (kept (highB l0 q0) m)) y := by
      refine ⟨fun i => ?_, fun i hi => ?_, fun a ha => ?_⟩
      · rw [hy]
        by_cases h : i < (kept (lowB l q) d).length
        · simp only [if_pos h]; exact hx.md _
        · simp only [if_neg h]; omega
      · rw [hy]
        simp only [if_neg (show ¬ i < (kept (lowB l q) d).length by omega)]
      · rw [hdot a ha y, hyx]
        obtain ⟨h1, h2, _⟩ := kept_get ha
        exact hx.dn _ h1 (by simpa [highB] using h2)
    have hys := (hR.2.2 y).2 hyc
    have key : ∀ {z : Lin.V}, Lin.Sp p R z → Lin.Sp p (R.map (wideV (lowB l q) d)) (wideV (lowB l q) d z) := by
      intro z hz
      induction hz with
      | zero => rw [wideV_zv]; exact .zero
      | step c _ hw ih => rw [wideV_add]; exact .step c ih (List.mem_map.2 ⟨_, hw, rfl⟩)
    have := key hys
    rwa [hyx] at this

/-- Approximate cycles of a degree, by the levels. -/
def ZcD (p : Int) (ds : List Int) (ms : List (List (List Int))) (ls : List (List Int)) (n : Nat) (q q0 : Int) : Lin.V → Prop := ZcS p (dimN ds (n : Int)) (cycM ds n) (cycT ds ms n) (ls.getD n []) (ls.getD (n - 1) []) q q0
/-- All that a walk on a degree asks. -/
theorem zcD_congr {p : Int} {d m : Nat} {t : List (List Int)} {l l0 : List Int} {q q0 q1 : Int} (h : ∀ j, j < m → (q0 < l0.getD j 0 ↔ q1 < l0.getD j 0)) (v : Lin.V) : ZcS p d m t l l0 q q0 v ↔ ZcS p d m t l l0 q q1 v :=
  ⟨fun k => ⟨k.md, k.wd, k.up, fun j hj hq => k.dn j hj ((h j hj).2 hq)⟩, fun k => ⟨k.md, k.wd, k.up, fun j hj hq => k.dn j hj ((h j hj).1 hq)⟩⟩
end Go.Proofs.Ytpdkfidmmjlmnab

namespace Go.Proofs.Ytpdkfidmmjlmnab
open Go.RowKit

set_option maxHeartbeats 1600000 in
set_option maxRecDepth 100000 in
theorem unitVector_any (k : Nat) (w : World) (hk : k < 40) : Calls Try.prog 158 #[.int .i64 k] w (BR (vv (unitV k)) w) := by
  have hres : Try.f158.results = #[.cell 2 161] := by kernel_rfl
  have HRES := Lib.hid hres
  have HIZ := Lib.hid (Try.infoVl Lin.zv)
  have HIS : Hid ((Try.prog.info? 161).map (·.size) = some (vl Lin.zv).toArray.size) := Lib.hid (by have := HIZ.out; simpa using this)
  have HIU := Lib.hid (Try.infoVl (unitV k))
  have HI3 : Hid ((Try.prog.info? 161).map (·.size) = some (vl (unitV k)).toArray.size) := Lib.hid (by have := HIU.out; simpa using this)
  clear hres
  go_enter Try.func158, Try.ntmps158
  go_upto_region 2 with (first | (with_reducible refine wpList_allocV rfl (some 2) rfl rfl ?_; intro W1 hn1; have HN1 := Lib.hid hn1; clear hn1) | (with_reducible refine wpList_buildZ rfl (some 4) rfl rfl ?_) | (with_reducible refine wpList_allocV rfl (some 3) rfl rfl ?_; intro W2 hn2; have HN2 := Lib.hid hn2; have HT2 : Hid (W2.there W1.heap.size 0 (vl Lin.zv).toArray.size) := (Lib.hid (by have := hn2.there; simpa [vl_length] using this)); clear hn2) | (with_reducible refine wpList_store_mid rfl 161 (.tmp 3) (.tmp 4) rfl W1.heap.size 0 (vl Lin.zv).toArray rfl rfl HT2.out HIS.out (vl_all _) ?_))
  have hs1 : W1.heap.size = w.heap.size + 1 := HN1.out.size
  refine forget_wp (fun W => Hid (At W W1.heap.size 0 Lin.zv ∧ W.there W1.heap.size 0 40 ∧ W.there w.heap.size 0 40 ∧ Below w.heap.size w W)) (Lib.hid ?_) ?_
  · have hp2 := HN2.out.put Lin.zv
    exact ⟨hp2.2.1, World.there_setCells HN2.out.there _ _ _, World.there_setCells (there_below HN1.out.there HN2.out.below (by omega)) _ _ _, HN1.out.below.trans (hp2.1.mono (by omega))⟩
  intro W3 HS3
  rw [hs1]
  rw [hs1] at HS3
  clear HN2 HT2 HN1 hs1
  have hc3 := HS3.out.1.cell hk
  rw [Nat.zero_add] at hc3
  have hf3 := (HS3.out.2.1 k hk).2
  rw [Nat.zero_add] at hf3
  have hiv := hindexV (w.heap.size + 1) hk
  have hat4 := HS3.out.1.set hk 1
  rw [Nat.zero_add] at hat4
  have e1 : (fun i => if i = k then 1 else Lin.zv i) = unitV k := by
    funext i
    simp [unitV, Lin.zv]
  rw [e1] at hat4
  have HN4 : Hid (Below w.heap.size w (W3.setCell ⟨w.heap.size + 1, k, none⟩ (.int .i64 1)) ∧ At (W3.setCell ⟨w.heap.size + 1, k, none⟩ (.int .i64 1)) (w.heap.size + 1) 0 (unitV k) ∧ (W3.setCell ⟨w.heap.size + 1, k, none⟩ (.int .i64 1)).there w.heap.size 0 (vl (unitV k)).toArray.size) := Lib.hid ⟨HS3.out.2.2.2.setCell (by show w.heap.size ≤ w.heap.size + 1; omega) _, hat4, by have := there_set HS3.out.2.2.1 (⟨w.heap.size + 1, k, none⟩) (.int .i64 1); simpa [vl_length] using this⟩
  clear hat4 e1 HS3
  go_wp2_with (first | (with_reducible refine wpList_load_mid rfl 161 (.tmp 3) rfl (w.heap.size + 1) 0 rfl (vl (unitV k)) _ HN4.out.2.1.range Try.underlyingV rfl HIU.out ?_) | (with_reducible refine wpList_store_mid rfl 161 (.tmp 2) (.tmp 7) rfl w.heap.size 0 (vl (unitV k)).toArray rfl rfl HN4.out.2.2 HI3.out (vl_all _) ?_))
  exact bodyPost_ret (v := vv (unitV k)) (results_cell_at HRES.out _ _ w.heap.size (unitV k) _ rfl (at_setCells _ _ _ _ (by have := HN4.out.2.2; simpa [vl_length] using this)) Try.underlyingV rfl HIU.out) rfl ⟨rfl, below_setCells _ (Nat.le_refl _) _ _ _ HN4.out.1⟩
end Go.Proofs.Ytpdkfidmmjlmnab

namespace Go.Proofs.Ytpdkfidmmjlmnab
open Go.RowKit

theorem wpList_appendVat {ops : Array Oper} {rest : List Oper} {o : Oper} {a : Act} {w : World} {Q : Exit → Act → World → Prop} (hg : o.guard = none) (dst : Option Tmp) (hdst : o.dst = dst) (s x : Operand) (ho : o.op = .call { callee := .builtin .append, args := #[s, x], argTypes := #[108, 108] })
    (base : Nat) (sv : Value) (L : List Lin.V) (hs : a.eval s = sv) (hown : Ow base w sv L) (b : Nat) (c : Nat) (v : Lin.V) (hx : a.eval x = .slice (some ⟨b, 0, none⟩) 1 c) (hv : At w b 0 v) (hl : L.length ≤ 1048576) (hbase : base ≤ w.heap.size)
    (h : ∀ s' w', Ow base w' s' (L ++ [v]) → w.grownBy w' sv.ownBlock → (s'.ownBlock = sv.ownBlock ∨ s'.ownBlock = some w.heap.size) → wpList Try.prog ops Q rest (a.put dst s') w') : wpList Try.prog ops Q (o :: rest) a w := by
  obtain ⟨i0, hi, hz0, hz1, hz2⟩ := info_parts Try.infoVz
  subst hdst
  refine wpList_append_own_at w hg s x 108 ho base 161 i0 (.agg zl.toArray) 40 320 Try.underlyingSV hi hz0 hz1 hz2 (by simp [Value.cells, zl_length]) (by omega) sv L.length (cellsOf L) hs hown ⟨b, 0, none⟩ 1 c (vl v) hx (by rw [vl_length])
    (fun j u hu => by rw [Addr.add_mid]; exact hv j u hu) (vl_one v) (by unfold maxLen; omega) (by omega) hbase (fun s' w' h1 h2 _ h4 => h s' w' ?_ h2 h4)
  unfold Ow
  rw [cellsOf_append, cellsOf_one, List.length_append]
  exact h1
theorem hsubN {k n : Nat} (h : k + 1 = n) (hn : n ≤ 100) (w : World) : (binOp .sub 2 (.int .i64 (n : Int)) (.int .i64 1)).run Try.prog w = .ok (.int .i64 (k : Int)) w := by
  have h1 := hsubI (a := (n : Int)) (b := 1) (by omega) (by omega) w
  rwa [show (n : Int) - 1 = (k : Int) by omega] at h1

set_option maxHeartbeats 1600000 in
set_option maxRecDepth 100000 in
theorem approximateSpace_out (p n r q : Int) (dv mv lv : Value) (ds : List Int) (ms : List (List (List Int))) (ls : List (List Int)) (w : World) (h : Fi 0 w dv mv lv ds ms ls) (hd : ds.length ≤ 1048576) (hn : ¬ (0 ≤ n ∧ n ≤ (ds.length : Int) - 1)) :
    Calls Try.prog 95 #[.agg #[.int .i64 p, dv, mv, lv], .int .i64 r, .int .i64 n, .int .i64 q] w (VsR (fun R => R = []) w) := by
  have HX0 := Lib.hid (Fx.start (p := p) 33 h)
  obtain ⟨⟨ad, cap, hdv⟩, ⟨am, capm, hmv⟩, ⟨al, capl, hlv⟩⟩ := h.shapes
  subst hdv hmv hlv
  have HN := Lib.hid hn
  have c0 := HX0.out.c0
  have c1 := HX0.out.c1
  have c2 := HX0.out.c2
  have c3 := HX0.out.c3
  clear h hn
  go_enter Try.func95, Try.ntmps95
  go_wp2_with fail
  refine (topOf_any p _ _ ds.length _ cap _ rfl (by omega)).mono ?_
  rintro e w1 ⟨rfl, hb1⟩
  have HX1 := Lib.hid (HX0.out.next hb1)
  clear hb1 c0 c1 c2 c3
  have c3 := HX1.out.c3
  go_wp2_with fail
  refine (in_no HN.out _).mono ?_
  rintro e w' ⟨rfl, rfl⟩
  go_wp2
  go_ret
  exact ⟨_, [], rfl, HX1.out.below, Ow.nil _ _, rfl⟩

set_option maxHeartbeats 12800000 in
set_option maxRecDepth 100000 in
theorem approximateSpace_0 (p : Int) (n : Nat) (r q : Int) (dv mv lv : Value) (ds : List Int) (ms : List (List (List Int))) (ls : List (List Int)) (w : World) (h : Fi 0 w dv mv lv ds ms ls) (hf : IsFil p ds ms ls) (hn : n < ds.length) (hn00 : n = 0) :
    Calls Try.prog 95 #[.agg #[.int .i64 p, dv, mv, lv], .int .i64 r, .int .i64 n, .int .i64 q] w (VsR (SpF p (dimN ds (n : Int)) (ZcD p ds ms ls n q (q - r))) w) := by
  have HX0 := Lib.hid (Fx.start (p := p) 33 h)
  have HCX := Lib.hid hf.1
  have hp1 := hf.1.1.prime.lo1
  have hl6 := hf.1.1.len1
  have hml := hf.1.1.mlen
  have hlsd := hf.2.len
  have hnl : n < ls.length := by omega
  obtain ⟨⟨ad, cap, hdv⟩, ⟨am, capm, hmv⟩, ⟨al, capl, hlv⟩⟩ := h.shapes
  subst hdv hmv hlv
  refine Sl.cases HX0.out.fi.cx.dims (fun _ _ hx _ => absurd hn (by simp [hx])) (fun bd od capd hvd _ _ _ => ?_)
  injection hvd with e1 _ e3
  subst e1 e3
  refine Sl.cases HX0.out.fi.lv (fun _ _ hx _ => absurd hnl (by simp [hx])) (fun bl ol capl2 hvl _ _ _ => ?_)
  injection hvl with e1 _ e3
  subst e1 e3
  obtain ⟨d, hd⟩ : ∃ d, d = dimN ds (n : Int) := ⟨_, rfl⟩
  have hd8 : d ≤ 8 := by rw [hd]; exact (dimN_le8 hf.1 n).1
  have hlok := hf.2.lvs n hnl
  obtain ⟨l, hl⟩ : ∃ l, l = ls.getD n [] := ⟨_, rfl⟩
  rw [← hl] at hlok
  have hld : l.length = d := by have := hlok.1; have := (dimN_le8 hf.1 n).2; omega
  have HDE := Lib.hid hd
  have HLE := Lib.hid hl
  have hr2 : (0 : Int) ≤ (n : Int) ∧ (n : Int) ≤ (ds.length : Int) - 1 := by omega
  have HR2 := Lib.hid hr2
  have hgt : ¬ ((0 : Int) < (n : Int)) := by omega
  have HZD : Hid (∀ v, Lin.Ker p d (upC l q d) v ↔ ZcD p ds ms ls n q (q - r) v) := Lib.hid (fun v => by
    have h0 := zc_ker (p := p) (m := 0) (l := l) (l0 := ls.getD (n - 1) []) (q := q) (q0 := q - r) (t := cycT ds ms n) (d := d) (by rw [hd]; exact (cyc_ok hf.1 hn).1) v
    have e1 : dnC ((flipT 0 (cycT ds ms n)).map ofL) (ls.getD (n - 1) []) (q - r) 0 = [] := by simp [dnC]
    rw [e1, List.append_nil] at h0
    have e2 : cycM ds n = 0 := by rw [hn00]; rfl
    rw [h0, ZcD, e2, ← hd, ← hl])
  have c0 := HX0.out.c0
  have c1 := HX0.out.c1
  have c2 := HX0.out.c2
  have c3 := HX0.out.c3
  clear h hf hlok hd hl hr2 hn00 hlsd hml
  go_enter Try.func95, Try.ntmps95
  go_wp2_with fail
  refine (topOf_any p _ _ ds.length _ cap _ rfl (by omega)).mono ?_
  rintro e w1 ⟨rfl, hb1⟩
  have HX1 := Lib.hid (HX0.out.next hb1)
  clear hb1 c0 c1 c2 c3
  have c3 := HX1.out.c3
  have HNX : Hid (∀ W, Below w1.heap.size w1 W → Fx w W w.heap.size p (.slice (some ⟨bd, od, none⟩) ds.length cap) (.slice am ms.length capm) (.slice (some ⟨bl, ol, none⟩) ls.length capl) ds ms ls) := Lib.hid (fun W h => HX1.out.next h)
  have HDQ : Hid (∀ W, Below w1.heap.size w1 W → W.cell? ⟨bd, od + n, none⟩ = some (.int .i64 (d : Int))) := Lib.hid (fun W h => by
    obtain ⟨ud, hud, hrd⟩ := Sl.at (HNX.out W h).fi.cx.dims hn
    rw [hud, hrd, ← getD_of_lt 0 hn, (dimN_le8 HCX.out n).2, HDE.out])
  obtain ⟨ul, hul, hrl⟩ := Sl.at HX1.out.fi.lv hnl
  have hrl2 : L1 0 w1 ul l := by rw [HLE.out, getD_of_lt _ hnl]; exact hrl
  obtain ⟨al, cl, hus⟩ := Sl.shape hrl2
  rw [hld] at hus
  subst hus
  have HRL := Lib.hid hrl2
  have hnl2 : (n : Int) < (ls.length : Int) := by omega
  have hn0 : (0 : Int) ≤ (n : Int) := by omega
  have hnt : ((n : Int)).toNat = n := by omega
  clear hrl hrl2 HX0
  go_wp2_with fail
  refine (in_yes HR2.out _).mono ?_
  rintro e w' ⟨rfl, rfl⟩
  go_wp2
  go_loopw [9, 10, 11, 27] (fun cv _ _ i wr => ∃ (k : Nat), k ≤ d ∧ i = .int .i64 k ∧ Hid (Below w1.heap.size w1 wr) ∧ Hid (Ow w1.heap.size wr cv (upC l q k))) (fun _ _ _ i _ => d - (intOf i).toNat)
  case atStart => exact ⟨0, Nat.zero_le _, rfl, Lib.hid (Below.refl _ _), Lib.hid (Ow.nil _ _)⟩
  case round =>
    clear hul c3
    obtain ⟨k, hk, rfl, HB, HO⟩ := hrel
    obtain ⟨wx, hwx⟩ : ∃ wx : World, wx = wr := ⟨_, rfl⟩
    subst hwx
    have hsx : w1.heap.size ≤ wx.heap.size := HB.out.size
    obtain ⟨ado, capo, hcv⟩ := HO.out.shape
    have hcl := upC_length l q k
    subst hcv
    by_cases hlt : k < d
    · have hkl : k < l.length := by omega
      refine Sl.cases (HRL.out.below HB.out) (fun _ _ hx _ => absurd hkl (by simp [hx])) (fun b o c2 hvv _ _ hc => ?_)
      injection hvv with e1 e2 e3
      subst e1 e3
      obtain ⟨u, hu, hr⟩ := hc k hkl
      obtain ⟨x, hx⟩ : ∃ x, x = l[k] := ⟨_, rfl⟩
      have HXE : Hid (l.getD k 0 = x) := Lib.hid (by rw [getD_of_lt _ hkl, hx])
      have hu2 : wx.cell? ⟨b, o + k, none⟩ = some (.int .i64 x) := by rw [hu, hr, hx]
      clear hc hu hr hx e2
      by_cases hqx : q < x
      · have hdq : decide (q < x) = true := by simp [hqx]
        have HSL : Hid (upC l q (k + 1) = upC l q k ++ [unitV k]) := Lib.hid (upC_yes (by rw [HXE.out]; exact hqx))
        have HUV := Lib.hid (unitVector_any k wx (by omega))
        clear hqx
        go_wp2_with fail
        refine HUV.out.mono ?_
        rintro e W3 ⟨rfl, hb3⟩
        have HO3 := Lib.hid (HO.out.below hb3)
        have HB3 := Lib.hid (HB.out.trans (hb3.mono hsx))
        have hs3 : w1.heap.size ≤ W3.heap.size := HB3.out.size
        have hSl : (upC l q k).length ≤ 1048576 := by omega
        have HI2V := Lib.hid (Try.infoVl (unitV k))
        unfold vv
        clear hb3 HUV hu2
        go_wp2_with (first | (with_reducible refine wpList_oneV rfl (some 38) rfl (.tmp 37) rfl (unitV k) rfl ?_; intro W7 hn7; have HN7 := Lib.hid hn7; have HZ7 : Hid (w1.heap.size ≤ W7.heap.size) := (Lib.hid (by have := hn7.size; omega)); have HO7 := Lib.hid (HO3.out.below hn7.below); clear hn7) | (at_builtin; with_reducible refine wpList_appendV rfl (some 39) rfl (.tmp 35) (.tmp 38) rfl w1.heap.size (.slice ado (upC l q k).length capo) (upC l q k) rfl HO7.out W3.heap.size 1 (unitV k) rfl HN7.out.at' hSl HZ7.out ?_; intro s8 W8 ho8 hg8; have HO8 := Lib.hid ho8; have HG8 := Lib.hid hg8; clear ho8 hg8))
        have HB7 := Lib.hid (HB3.out.trans (HN7.out.below.mono hs3))
        have HB8 : Hid (Below w1.heap.size w1 W8) := Lib.hid (HB7.out.grown HG8.out (by have := HB7.out.size; omega) (fun g hg => ((HO7.out.lt) g hg).1))
        go_roundw
        case rel => exact ⟨k + 1, by omega, by go_num, HB8, by rw [HSL.out]; exact HO8⟩
        case measure => simp [intOf]; omega
      · have hdq : decide (q < x) = false := by simp; omega
        have HSL : Hid (upC l q (k + 1) = upC l q k) := Lib.hid (upC_no (by rw [HXE.out]; exact hqx))
        clear hqx
        go_wp2
        go_roundw
        case rel => exact ⟨k + 1, by omega, by go_num, HB, by rw [HSL.out]; exact HO⟩
        case measure => simp [intOf]; omega
    · have hkk : d = k := by omega
      clear hlt hk
      subst hkk
      go_wp2_with fail
      obtain ⟨cv, hcv⟩ : ∃ cv, cv = Value.slice ado (upC l q d).length capo := ⟨_, rfl⟩
      rw [← hcv] at HO ⊢
      have hsz := hsx
      obtain ⟨WZ, hWZ⟩ : ∃ WZ : World, WZ = wx := ⟨_, rfl⟩
      subst hWZ
      have HOV := Lib.hid (HO.out.vs.lower (Nat.zero_le _))
      have hlen : (upC l q d).length ≤ 1048575 := by omega
      have hbz := HB.out
      clear hcv
      refine wp_region_held (S := fun W => Below w1.heap.size w1 W) (by kernel_rfl) ?_
      have S3 : Below w1.heap.size w1 WZ.drew := hbz.drew
      refine held_take (i := 0) (v := .pointer (some ⟨w.heap.size, 0, none⟩)) (some 84) rfl rfl (by kernel_rfl) (by kernel_rfl) (by kernel_rfl) (fun _ _ _ h => h) (yieldsIf_run (by kernel_rfl) (fun W _ => by kernel_rfl)) S3 ?_
      refine held_take (i := 1) (v := .pointer (some ⟨w.heap.size, 0, none⟩)) (some 85) rfl rfl (by kernel_rfl) (by kernel_rfl) (by kernel_rfl) (fun _ _ _ h => h) (yieldsIf_run (by kernel_rfl) (fun W _ => by kernel_rfl)) S3 ?_
      refine held_take (i := 2) (v := .int .i64 p) (some 86) rfl rfl (by kernel_rfl) (by kernel_rfl) (by kernel_rfl) (fun _ _ _ h => h) (yieldsIf_cell (by kernel_rfl) rfl (by kernel_rfl) (fun W h => hload W ((HNX.out W h).c0))) S3 ?_
      refine held_take (i := 3) (v := .pointer (some ⟨w.heap.size, 0, none⟩)) (some 87) rfl rfl (by kernel_rfl) (by kernel_rfl) (by kernel_rfl) (fun _ _ _ h => h) (yieldsIf_run (by kernel_rfl) (fun W _ => by kernel_rfl)) S3 ?_
      refine held_take (i := 4) (v := .pointer (some ⟨w.heap.size, 1, none⟩)) (some 88) rfl rfl (by kernel_rfl) (by kernel_rfl) (by kernel_rfl) (fun _ _ _ h => h) (yieldsIf_run (by kernel_rfl) (fun W _ => by kernel_rfl)) S3 ?_
      refine held_take (i := 5) (v := .slice (some ⟨bd, od, none⟩) ds.length cap) (some 89) rfl rfl (by kernel_rfl) (by kernel_rfl) (by kernel_rfl) (fun _ _ _ h => h) (yieldsIf_cell (by kernel_rfl) rfl (by kernel_rfl) (fun W h => hloadS W ((HNX.out W h).c1))) S3 ?_
      refine held_take (i := 6) (v := .int .i64 (n : Int)) (some 90) rfl rfl (by kernel_rfl) (by kernel_rfl) (by kernel_rfl) (fun _ _ _ h => h) (yieldsIf_move (by kernel_rfl) rfl (by kernel_rfl)) S3 ?_
      refine held_take (i := 7) (v := .pointer (some ⟨bd, od + n, none⟩)) (some 91) rfl rfl (by kernel_rfl) (by kernel_rfl) (by kernel_rfl) (fun _ _ _ h => h) (yieldsIf_index (by kernel_rfl) rfl (by kernel_rfl) (by kernel_rfl) (hidxI bd od cap hn)) S3 ?_
      refine held_take (i := 8) (v := .int .i64 (d : Int)) (some 92) rfl rfl (by kernel_rfl) (by kernel_rfl) (by kernel_rfl) (fun _ _ _ h => h) (yieldsIf_cell (by kernel_rfl) rfl (by kernel_rfl) (fun W h => hload W (HDQ.out W h))) S3 ?_
      refine held_take (i := 9) (v := cv) (some 93) rfl rfl (by kernel_rfl) (by kernel_rfl) (by kernel_rfl) (fun _ _ _ h => h) (yieldsIf_move (by kernel_rfl) rfl (by kernel_rfl)) S3 ?_
      refine held_enter (i := 10) (some 94) (f := 160) (args := #[.int .i64 p, .int .i64 (d : Int), cv]) (by kernel_rfl) rfl rfl rfl (by kernel_rfl) (annihilator_any p d _ (upC l q d) _ HCX.out.1.prime (HOV.out.below (Below.refl _ _).drew) (upC_md hp1) (upC_wd (Nat.le_refl d)) (by omega) hlen) ?_ (fun c w' h => by obtain ⟨_, _, h, _⟩ := h; cases h) (fun w' h => by obtain ⟨_, _, h, _⟩ := h; cases h)
      rintro e6 W6 ⟨s6, R, he6, hb6, ho6, hsp⟩
      injection he6 with he6
      subst he6
      have S4 : Below w1.heap.size w1 W6 := S3.trans (hb6.mono S3.size)
      have hs5 : w.heap.size ≤ WZ.heap.size := Nat.le_trans HX1.out.below.size hsz
      have HO6 := Lib.hid ho6
      have HSP := Lib.hid hsp
      have HB6 := Lib.hid (HNX.out _ S4).below
      refine ⟨S4, ?_⟩
      refine held_take (i := 11) (v := e6) (some 8) rfl rfl (by kernel_rfl) (by kernel_rfl) (by kernel_rfl) (fun _ _ _ h => h) (yieldsIf_assign (by kernel_rfl) rfl (by kernel_rfl)) S4 ?_
      refine wpAnyH_done (by kernel_rfl) ?_ _
      simp only [Act.put, List.setIfInBounds_toArray, List.set_cons_zero, List.set_cons_succ]
      clear S3 S4 hb6 ho6 hsp
      go_wp2
      go_ret
      refine ⟨_, R, rfl, HB6.out, ⟨HO6.out.1, HO6.out.2.imp id (fun ⟨g, cap, cur, h1, h2, h3⟩ => ⟨g, cap, cur, h1, Nat.le_trans hs5 h2, h3⟩)⟩, ?_⟩
      rw [← HDE.out]
      exact HSP.out.congr HZD.out
end Go.Proofs.Ytpdkfidmmjlmnab

namespace Go.Proofs.Ytpdkfidmmjlmnab
open Go.RowKit

set_option maxHeartbeats 12800000 in
set_option maxRecDepth 100000 in
theorem approximateSpace_s (p : Int) (n : Nat) (r q : Int) (dv mv lv : Value) (ds : List Int) (ms : List (List (List Int))) (ls : List (List Int)) (w : World) (h : Fi 0 w dv mv lv ds ms ls) (hf : IsFil p ds ms ls) (hn : n < ds.length) (hn00 : 0 < n) (hr : -100 ≤ r ∧ r ≤ 100) (hq : -100 ≤ q ∧ q ≤ 100) :
    Calls Try.prog 95 #[.agg #[.int .i64 p, dv, mv, lv], .int .i64 r, .int .i64 n, .int .i64 q] w (VsR (SpF p (dimN ds (n : Int)) (ZcD p ds ms ls n q (q - r))) w) := by
  have HX0 := Lib.hid (Fx.start (p := p) 33 h)
  have HCX := Lib.hid hf.1
  have hp1 := hf.1.1.prime.lo1
  have hl6 := hf.1.1.len1
  have hml := hf.1.1.mlen
  have hlsd := hf.2.len
  have hnl : n < ls.length := by omega
  obtain ⟨⟨ad, cap, hdv⟩, ⟨am, capm, hmv⟩, ⟨al, capl, hlv⟩⟩ := h.shapes
  subst hdv hmv hlv
  refine Sl.cases HX0.out.fi.cx.dims (fun _ _ hx _ => absurd hn (by simp [hx])) (fun bd od capd hvd _ _ _ => ?_)
  injection hvd with e1 _ e3
  subst e1 e3
  refine Sl.cases HX0.out.fi.lv (fun _ _ hx _ => absurd hnl (by simp [hx])) (fun bl ol capl2 hvl _ _ _ => ?_)
  injection hvl with e1 _ e3
  subst e1 e3
  obtain ⟨d, hd⟩ : ∃ d, d = dimN ds (n : Int) := ⟨_, rfl⟩
  have hd8 : d ≤ 8 := by rw [hd]; exact (dimN_le8 hf.1 n).1
  have hlok := hf.2.lvs n hnl
  obtain ⟨l, hl⟩ : ∃ l, l = ls.getD n [] := ⟨_, rfl⟩
  rw [← hl] at hlok
  have hld : l.length = d := by have := hlok.1; have := (dimN_le8 hf.1 n).2; omega
  have HDE := Lib.hid hd
  have HLE := Lib.hid hl
  obtain ⟨k0, hk0⟩ : ∃ k0, k0 + 1 = n := ⟨n - 1, by omega⟩
  have hkm : k0 < ms.length := by omega
  have hkd : k0 < ds.length := by omega
  have hkl0 : k0 < ls.length := by omega
  obtain ⟨m, hm⟩ : ∃ m, m = dimN ds (k0 : Int) := ⟨_, rfl⟩
  have hm8 : m ≤ 8 := by rw [hm]; exact (dimN_le8 hf.1 k0).1
  have hlok0 := hf.2.lvs k0 hkl0
  obtain ⟨l0, hl0⟩ : ∃ l0, l0 = ls.getD k0 [] := ⟨_, rfl⟩
  rw [← hl0] at hlok0
  have hld0 : l0.length = m := by have := hlok0.1; have := (dimN_le8 hf.1 k0).2; omega
  have HME := Lib.hid hm
  have HL0E := Lib.hid hl0
  obtain ⟨t, ht⟩ : ∃ t, t = tabN ms k0 := ⟨_, rfl⟩
  have HTE : Hid (cycT ds ms n = t) := Lib.hid (by rw [ht, ← hk0]; exact cycT_succ hf.1 (by omega))
  have HCM : Hid (cycM ds n = m) := Lib.hid (by rw [hm, ← hk0]; simp [cycM])
  have HTL : Hid (t.length = d) := Lib.hid (by rw [← HTE.out, HDE.out]; exact (cyc_ok hf.1 hn).1)
  have HTR : Hid (∀ r ∈ t, RowOk p (m : Int) r) := Lib.hid (by rw [← HTE.out, ← HCM.out]; exact (cyc_ok hf.1 hn).2.1)
  have HTT := Lib.hid ht
  have HFR := Lib.hid (flip_row HTR.out)
  have hfl : (flipT m t).length = m := by simp [flipT, tableOf]
  obtain ⟨q0, hq0⟩ : ∃ q0, q0 = q - r := ⟨_, rfl⟩
  obtain ⟨cs, hcs⟩ : ∃ cs, cs = (flipT m t).map ofL := ⟨_, rfl⟩
  have hcsl : cs.length = m := by rw [hcs, List.length_map, hfl]
  have HCSM : Hid (∀ u ∈ cs, Lin.Md p u) := Lib.hid (by rw [hcs]; exact vecs_md (by omega) HFR.out)
  have HCSW : Hid (∀ u ∈ cs, Lin.Wd d u) := Lib.hid (by rw [hcs]; exact vecs_wd (n := d) (fun r hr => by have := (HFR.out r hr).1; have := HTL.out; omega))
  have HCSE := Lib.hid hcs
  have hwq : IntKind.i64.wrap (q - r) = q0 := by rw [hq0]; exact IntWalk.i64_in _ (by omega)
  have hwn : IntKind.i64.wrap ((n : Int) - 1) = (k0 : Int) := by rw [show (n : Int) - 1 = (k0 : Int) by omega]; exact IntWalk.i64_in _ (by omega)
  have hgt : (0 : Int) < (n : Int) := by omega
  have HZD : Hid (∀ v, Lin.Ker p d (upC l q d ++ dnC cs l0 q0 m) v ↔ ZcD p ds ms ls n q (q - r) v) := Lib.hid (fun v => by
    rw [hcs, zc_ker HTL.out v, ZcD, HCM.out, HTE.out, ← hd, ← hl, show n - 1 = k0 by omega, ← hl0, hq0])
  refine Sl.cases HX0.out.fi.cx.maps (fun _ _ hx _ => absurd hkm (by simp [hx])) (fun bm om capm2 hvm _ _ _ => ?_)
  injection hvm with e1 _ e3
  subst e1 e3
  have hr2 : (0 : Int) ≤ (n : Int) ∧ (n : Int) ≤ (ds.length : Int) - 1 := by omega
  have HR2 := Lib.hid hr2
  have c0 := HX0.out.c0
  have c1 := HX0.out.c1
  have c2 := HX0.out.c2
  have c3 := HX0.out.c3
  have HK0 := Lib.hid hk0
  clear h hf hlok hlok0 hd hl hm hl0 ht hr2 hk0 hcs hq0 hlsd hml
  go_enter Try.func95, Try.ntmps95
  go_wp2_with fail
  refine (topOf_any p _ _ ds.length _ cap _ rfl (by omega)).mono ?_
  rintro e w1 ⟨rfl, hb1⟩
  have HX1 := Lib.hid (HX0.out.next hb1)
  clear hb1 c0 c1 c2 c3
  have c3 := HX1.out.c3
  have HNX : Hid (∀ W, Below w1.heap.size w1 W → Fx w W w.heap.size p (.slice (some ⟨bd, od, none⟩) ds.length cap) (.slice (some ⟨bm, om, none⟩) ms.length capm) (.slice (some ⟨bl, ol, none⟩) ls.length capl) ds ms ls) := Lib.hid (fun W h => HX1.out.next h)
  have HDQ : Hid (∀ W, Below w1.heap.size w1 W → W.cell? ⟨bd, od + n, none⟩ = some (.int .i64 (d : Int))) := Lib.hid (fun W h => by
    obtain ⟨ud, hud, hrd⟩ := Sl.at (HNX.out W h).fi.cx.dims hn
    rw [hud, hrd, ← getD_of_lt 0 hn, (dimN_le8 HCX.out n).2, HDE.out])
  obtain ⟨ul, hul, hrl⟩ := Sl.at HX1.out.fi.lv hnl
  have hrl2 : L1 0 w1 ul l := by rw [HLE.out, getD_of_lt _ hnl]; exact hrl
  obtain ⟨al, cl, hus⟩ := Sl.shape hrl2
  rw [hld] at hus
  subst hus
  have HRL := Lib.hid hrl2
  have hnl2 : (n : Int) < (ls.length : Int) := by omega
  have hn0 : (0 : Int) ≤ (n : Int) := by omega
  have hnt : ((n : Int)).toNat = n := by omega
  clear hrl hrl2 HX0
  have HTB : Hid (∃ um, L2 0 w1 um t ∧ ∀ W, Below w1.heap.size w1 W → W.cell? ⟨bm, om + k0, none⟩ = some um) := Lib.hid (by
    obtain ⟨um, hum, hrm⟩ := Sl.at HX1.out.fi.cx.maps hkm
    exact ⟨um, by rw [HTT.out]; unfold tabN; rw [getD_of_lt _ hkm]; exact hrm, fun W h => later h (Nat.le_refl _) hum⟩)
  have HDK : Hid (∀ W, Below w1.heap.size w1 W → W.cell? ⟨bd, od + k0, none⟩ = some (.int .i64 (m : Int))) := Lib.hid (fun W h => by
    obtain ⟨ud, hud, hrd⟩ := Sl.at (HNX.out W h).fi.cx.dims hkd
    rw [hud, hrd, ← getD_of_lt 0 hkd, (dimN_le8 HCX.out k0).2, HME.out])
  have HLK : Hid (∃ a0 c0, L1 0 w1 (.slice a0 m c0) l0 ∧ ∀ W, Below w1.heap.size w1 W → W.cell? ⟨bl, ol + k0, none⟩ = some (.slice a0 m c0)) := Lib.hid (by
    obtain ⟨ul, hul, hrl⟩ := Sl.at HX1.out.fi.lv hkl0
    have hrl2 : L1 0 w1 ul l0 := by rw [HL0E.out, getD_of_lt _ hkl0]; exact hrl
    obtain ⟨a0, c0, hus⟩ := Sl.shape hrl2
    rw [hld0] at hus
    exact ⟨a0, c0, by rw [← hus]; exact hrl2, fun W h => by rw [← hus]; exact later h (Nat.le_refl _) hul⟩)
  go_wp2_with fail
  refine (in_yes HR2.out _).mono ?_
  rintro e w' ⟨rfl, rfl⟩
  go_wp2
  go_loopw [9, 10, 11, 27] (fun cv _ _ i wr => ∃ (k : Nat), k ≤ d ∧ i = .int .i64 k ∧ Hid (Below w1.heap.size w1 wr) ∧ Hid (Ow w1.heap.size wr cv (upC l q k))) (fun _ _ _ i _ => d - (intOf i).toNat)
  case atStart => exact ⟨0, Nat.zero_le _, rfl, Lib.hid (Below.refl _ _), Lib.hid (Ow.nil _ _)⟩
  case round =>
    clear hul c3
    obtain ⟨k, hk, rfl, HB, HO⟩ := hrel
    obtain ⟨wx, hwx⟩ : ∃ wx : World, wx = wr := ⟨_, rfl⟩
    subst hwx
    have hsx : w1.heap.size ≤ wx.heap.size := HB.out.size
    obtain ⟨ado, capo, hcv⟩ := HO.out.shape
    have hcl := upC_length l q k
    subst hcv
    by_cases hlt : k < d
    · have hkl : k < l.length := by omega
      refine Sl.cases (HRL.out.below HB.out) (fun _ _ hx _ => absurd hkl (by simp [hx])) (fun b o c2 hvv _ _ hc => ?_)
      injection hvv with e1 e2 e3
      subst e1 e3
      obtain ⟨u, hu, hr⟩ := hc k hkl
      obtain ⟨x, hx⟩ : ∃ x, x = l[k] := ⟨_, rfl⟩
      have HXE : Hid (l.getD k 0 = x) := Lib.hid (by rw [getD_of_lt _ hkl, hx])
      have hu2 : wx.cell? ⟨b, o + k, none⟩ = some (.int .i64 x) := by rw [hu, hr, hx]
      clear hc hu hr hx e2
      by_cases hqx : q < x
      · have hdq : decide (q < x) = true := by simp [hqx]
        have HSL : Hid (upC l q (k + 1) = upC l q k ++ [unitV k]) := Lib.hid (upC_yes (by rw [HXE.out]; exact hqx))
        have HUV := Lib.hid (unitVector_any k wx (by omega))
        clear hqx
        go_wp2_with fail
        refine HUV.out.mono ?_
        rintro e W3 ⟨rfl, hb3⟩
        have HO3 := Lib.hid (HO.out.below hb3)
        have HB3 := Lib.hid (HB.out.trans (hb3.mono hsx))
        have hs3 : w1.heap.size ≤ W3.heap.size := HB3.out.size
        have hSl : (upC l q k).length ≤ 1048576 := by omega
        have HI2V := Lib.hid (Try.infoVl (unitV k))
        unfold vv
        clear hb3 HUV hu2
        go_wp2_with (first | (with_reducible refine wpList_oneV rfl (some 38) rfl (.tmp 37) rfl (unitV k) rfl ?_; intro W7 hn7; have HN7 := Lib.hid hn7; have HZ7 : Hid (w1.heap.size ≤ W7.heap.size) := (Lib.hid (by have := hn7.size; omega)); have HO7 := Lib.hid (HO3.out.below hn7.below); clear hn7) | (at_builtin; with_reducible refine wpList_appendV rfl (some 39) rfl (.tmp 35) (.tmp 38) rfl w1.heap.size (.slice ado (upC l q k).length capo) (upC l q k) rfl HO7.out W3.heap.size 1 (unitV k) rfl HN7.out.at' hSl HZ7.out ?_; intro s8 W8 ho8 hg8; have HO8 := Lib.hid ho8; have HG8 := Lib.hid hg8; clear ho8 hg8))
        have HB7 := Lib.hid (HB3.out.trans (HN7.out.below.mono hs3))
        have HB8 : Hid (Below w1.heap.size w1 W8) := Lib.hid (HB7.out.grown HG8.out (by have := HB7.out.size; omega) (fun g hg => ((HO7.out.lt) g hg).1))
        go_roundw
        case rel => exact ⟨k + 1, by omega, by go_num, HB8, by rw [HSL.out]; exact HO8⟩
        case measure => simp [intOf]; omega
      · have hdq : decide (q < x) = false := by simp; omega
        have HSL : Hid (upC l q (k + 1) = upC l q k) := Lib.hid (upC_no (by rw [HXE.out]; exact hqx))
        clear hqx
        go_wp2
        go_roundw
        case rel => exact ⟨k + 1, by omega, by go_num, HB, by rw [HSL.out]; exact HO⟩
        case measure => simp [intOf]; omega
    · have hkk : d = k := by omega
      clear hlt hk
      subst hkk
      go_wp2
      obtain ⟨cv, hcv⟩ : ∃ cv, cv = Value.slice ado (upC l q d).length capo := ⟨_, rfl⟩
      rw [← hcv] at HO ⊢
      obtain ⟨um, HRM, HTB2⟩ := HTB.out
      have hsub := fun w => hsubN (k := k0) (n := n) HK0.out (by omega) w
      have hbx := HB.out
      refine wp_region_held (S := fun W => Below w1.heap.size w1 W) (by kernel_rfl) ?_
      have S0 : Below w1.heap.size w1 wx.drew := hbx.drew
      refine held_take (i := 0) (v := .pointer (some ⟨w.heap.size, 0, none⟩)) (some 43) rfl rfl (by kernel_rfl) (by kernel_rfl) (by kernel_rfl) (fun _ _ _ h => h) (yieldsIf_run (by kernel_rfl) (fun W _ => by kernel_rfl)) S0 ?_
      refine held_take (i := 1) (v := .pointer (some ⟨w.heap.size, 2, none⟩)) (some 44) rfl rfl (by kernel_rfl) (by kernel_rfl) (by kernel_rfl) (fun _ _ _ h => h) (yieldsIf_run (by kernel_rfl) (fun W _ => by kernel_rfl)) S0 ?_
      refine held_take (i := 2) (v := .slice (some ⟨bm, om, none⟩) ms.length capm) (some 45) rfl rfl (by kernel_rfl) (by kernel_rfl) (by kernel_rfl) (fun _ _ _ h => h) (yieldsIf_cell (by kernel_rfl) rfl (by kernel_rfl) (fun W h => hloadU W ((HNX.out W h).c2))) S0 ?_
      refine held_take (i := 3) (v := .int .i64 (n : Int)) (some 46) rfl rfl (by kernel_rfl) (by kernel_rfl) (by kernel_rfl) (fun _ _ _ h => h) (yieldsIf_move (by kernel_rfl) rfl (by kernel_rfl)) S0 ?_
      refine held_take (i := 4) (v := .int .i64 (k0 : Int)) (some 47) rfl rfl (by kernel_rfl) (by kernel_rfl) (by kernel_rfl) (fun _ _ _ h => h) (yieldsIf_bin (by kernel_rfl) rfl (by kernel_rfl) (by kernel_rfl) (fun _ => rfl) hsub) S0 ?_
      refine held_take (i := 5) (v := .pointer (some ⟨bm, om + k0, none⟩)) (some 48) rfl rfl (by kernel_rfl) (by kernel_rfl) (by kernel_rfl) (fun _ _ _ h => h) (yieldsIf_index (by kernel_rfl) rfl (by kernel_rfl) (by kernel_rfl) (hidxU bm om capm hkm)) S0 ?_
      refine held_take (i := 6) (v := um) (some 49) rfl rfl (by kernel_rfl) (by kernel_rfl) (by kernel_rfl) (fun _ _ _ h => h) (yieldsIf_cell (by kernel_rfl) rfl (by kernel_rfl) (fun W h => hloadT W (HTB2 W h))) S0 ?_
      refine held_take (i := 7) (v := .pointer (some ⟨w.heap.size, 0, none⟩)) (some 50) rfl rfl (by kernel_rfl) (by kernel_rfl) (by kernel_rfl) (fun _ _ _ h => h) (yieldsIf_run (by kernel_rfl) (fun W _ => by kernel_rfl)) S0 ?_
      refine held_take (i := 8) (v := .pointer (some ⟨w.heap.size, 1, none⟩)) (some 51) rfl rfl (by kernel_rfl) (by kernel_rfl) (by kernel_rfl) (fun _ _ _ h => h) (yieldsIf_run (by kernel_rfl) (fun W _ => by kernel_rfl)) S0 ?_
      refine held_take (i := 9) (v := .slice (some ⟨bd, od, none⟩) ds.length cap) (some 52) rfl rfl (by kernel_rfl) (by kernel_rfl) (by kernel_rfl) (fun _ _ _ h => h) (yieldsIf_cell (by kernel_rfl) rfl (by kernel_rfl) (fun W h => hloadS W ((HNX.out W h).c1))) S0 ?_
      refine held_take (i := 10) (v := .int .i64 (n : Int)) (some 53) rfl rfl (by kernel_rfl) (by kernel_rfl) (by kernel_rfl) (fun _ _ _ h => h) (yieldsIf_move (by kernel_rfl) rfl (by kernel_rfl)) S0 ?_
      refine held_take (i := 11) (v := .int .i64 (k0 : Int)) (some 54) rfl rfl (by kernel_rfl) (by kernel_rfl) (by kernel_rfl) (fun _ _ _ h => h) (yieldsIf_bin (by kernel_rfl) rfl (by kernel_rfl) (by kernel_rfl) (fun _ => rfl) hsub) S0 ?_
      refine held_take (i := 12) (v := .pointer (some ⟨bd, od + k0, none⟩)) (some 55) rfl rfl (by kernel_rfl) (by kernel_rfl) (by kernel_rfl) (fun _ _ _ h => h) (yieldsIf_index (by kernel_rfl) rfl (by kernel_rfl) (by kernel_rfl) (hidxI bd od cap hkd)) S0 ?_
      refine held_take (i := 13) (v := .int .i64 (m : Int)) (some 56) rfl rfl (by kernel_rfl) (by kernel_rfl) (by kernel_rfl) (fun _ _ _ h => h) (yieldsIf_cell (by kernel_rfl) rfl (by kernel_rfl) (fun W h => hload W (HDK.out W h))) S0 ?_
      refine held_enter (i := 14) (some 57) (f := 159) (args := #[um, .int .i64 (m : Int)]) (by kernel_rfl) rfl rfl rfl (by kernel_rfl) (transposedTable_any m um t wx.drew (HRM.below S0) (by have := HTL.out; omega) (by omega) (fun r hr => by have := (HTR.out r hr).1; omega)) ?_ (fun c w' h => by cases h.1) (fun w' h => by cases h.1)
      rintro e4 W4 ⟨he4, hm4⟩
      injection he4 with he4
      subst he4
      have S1 : Below w1.heap.size w1 W4 := S0.trans (hm4.below.mono S0.size)
      have HT4 : Hid (L2 0 W4 (.slice (some ⟨wx.drew.heap.size, 0, none⟩) m m) (flipT m t)) := Lib.hid (hm4.w2.l2.lower (Nat.zero_le _))
      have hb34 : Below wx.heap.size wx W4 := (Below.refl wx.heap.size wx).drew.trans hm4.below
      refine ⟨S1, ?_⟩
      refine held_enter (i := 15) (some 58) (f := 111) (args := #[.slice (some ⟨wx.drew.heap.size, 0, none⟩) m m]) (by kernel_rfl) rfl rfl rfl (by kernel_rfl) (vectorsOf_any _ (flipT m t) W4 HT4.out (by omega) (fun r hr => by have := (HFR.out r hr).1; have := HTL.out; omega)) ?_ (fun c w' h => by obtain ⟨_, _, h, _⟩ := h; cases h) (fun w' h => by obtain ⟨_, _, h, _⟩ := h; cases h)
      rintro e5 W5 ⟨s5, M, he5, hb5, ho5, rfl⟩
      injection he5 with he5
      subst he5
      rw [← HCSE.out] at ho5
      have S2 : Below w1.heap.size w1 W5 := S1.trans (hb5.mono S1.size)
      have HC5 := Lib.hid ho5
      have HGL : Hid (∀ g, e5.ownBlock = some g → wx.heap.size ≤ g ∧ g < W5.heap.size) := Lib.hid (fun g hg => by have h1 := ho5.lt g hg; have h2 := hb34.size; omega)
      have HCL : Hid (∀ g, cv.ownBlock = some g → g < wx.heap.size) := Lib.hid (fun g hg => (HO.out.lt g hg).2)
      have HSW := Lib.hid S2
      have HO5 := Lib.hid (HO.out.below (hb34.trans (hb5.mono hb34.size)))
      refine ⟨S2, ?_⟩
      refine held_take (i := 16) (v := e5) (some 12) rfl rfl (by kernel_rfl) (by kernel_rfl) (by kernel_rfl) (fun _ _ _ h => h) (yieldsIf_assign (by kernel_rfl) rfl (by kernel_rfl)) S2 ?_
      refine wpAnyH_done (by kernel_rfl) ?_ _
      simp only [Act.put, List.setIfInBounds_toArray, List.set_cons_zero, List.set_cons_succ]
      obtain ⟨ac, cc, he5⟩ := HC5.out.shape
      rw [hcsl] at he5
      subst he5
      subst hcv
      have HC6 : Hid (Ow w1.heap.size W5 (.slice ac m cc) cs) := Lib.hid ⟨HC5.out.1, HC5.out.2.imp id (fun ⟨g, cap, cur, h1, h2, h3⟩ => ⟨g, cap, cur, h1, Nat.le_trans S1.size h2, h3⟩)⟩
      clear S0 S1 S2 hm4 hb5 ho5 hb34 hsub
      obtain ⟨a0, c00, HRL0, HLK2⟩ := HLK.out
      have hul0 := HLK2 _ HSW.out
      have c3 := (HNX.out _ HSW.out).c3
      have hk00 : (0 : Int) ≤ (k0 : Int) := by omega
      have hk01 : (k0 : Int) < (ls.length : Int) := by omega
      have hk02 : ((k0 : Int)).toNat = k0 := by omega
      have hsz5 : w1.heap.size ≤ W5.heap.size := HSW.out.size
      have HNE : Hid (∀ g, (Value.slice ac m cc).ownBlock = some g → (Value.slice ado (upC l q d).length capo).ownBlock ≠ some g) := Lib.hid (fun g hg h => by have h1 := HGL.out g hg; have h2 := HCL.out g h; omega)
      clear HC5 HCL
      clear hbx
      go_wp2
      go_loopw [9, 13, 14, 66] (fun cv _ _ i wr => ∃ (k : Nat), k ≤ m ∧ i = .int .i64 k ∧ Hid (Below w1.heap.size w1 wr ∧ W5.heap.size ≤ wr.heap.size) ∧ Hid (Ow w1.heap.size wr (.slice ac m cc) cs) ∧ Hid (∀ g, (Value.slice ac m cc).ownBlock = some g → cv.ownBlock ≠ some g) ∧ Hid (Ow w1.heap.size wr cv (upC l q d ++ dnC cs l0 q0 k))) (fun _ _ _ i _ => m - (intOf i).toNat)
      case atStart => exact ⟨0, Nat.zero_le _, rfl, Lib.hid ⟨HSW.out, Nat.le_refl _⟩, HC6, HNE, by rw [show dnC cs l0 q0 0 = [] by simp [dnC], List.append_nil]; exact HO5⟩
      case round =>
        clear hul0 c3 HO5 HO HB HC6 HNE
        obtain ⟨k, hk, rfl, HB, HC6, HNE, HO⟩ := hrel
        obtain ⟨wy, hwy⟩ : ∃ wy : World, wy = wr := ⟨_, rfl⟩
        subst hwy
        have hsy : W5.heap.size ≤ wy.heap.size := HB.out.2
        obtain ⟨ado2, capo2, hcv⟩ := HO.out.shape
        have hcl2 := dnC_length cs l0 q0 k
        have hcl3 : (upC l q d ++ dnC cs l0 q0 k).length = (upC l q d).length + (dnC cs l0 q0 k).length := List.length_append
        obtain ⟨cn, hcn⟩ : ∃ cn, cn = (upC l q d ++ dnC cs l0 q0 k).length := ⟨_, rfl⟩
        rw [← hcn] at hcl3
        have hcn16 : cn ≤ 16 := by omega
        rw [← hcn] at hcv
        subst hcv
        have HCN := Lib.hid hcn
        clear hcn hcl2 hcl3
        by_cases hlt : k < m
        · have hkl : k < l0.length := by omega
          have hkc : k < cs.length := by omega
          refine Sl.cases (HRL0.below HB.out.1) (fun _ _ hx _ => absurd hkl (by simp [hx])) (fun b o c2 hvv _ _ hc => ?_)
          injection hvv with e1 e2 e3
          subst e1 e3
          obtain ⟨u, hu, hr⟩ := hc k hkl
          obtain ⟨x, hx⟩ : ∃ x, x = l0[k] := ⟨_, rfl⟩
          have HXE : Hid (l0.getD k 0 = x) := Lib.hid (by rw [getD_of_lt _ hkl, hx])
          have hu2 : wy.cell? ⟨b, o + k, none⟩ = some (.int .i64 x) := by rw [hu, hr, hx]
          clear hc hu hr hx e2
          by_cases hqx : q0 < x
          · have hdq : decide (q0 < x) = true := by simp [hqx]
            refine Vs.cases (HC6.out.vs) (fun _ _ hx _ => absurd hkc (by simp [hx])) (fun b2 o2 c22 hvv2 _ _ hc2 => ?_)
            injection hvv2 with e1 e2 e3
            subst e1 e3
            obtain ⟨g, hg⟩ : ∃ g, g = cs[k] := ⟨_, rfl⟩
            have HVA : Hid (At wy b2 (o2 + k * 40) g) := Lib.hid (by rw [hg]; exact hc2 k hkc)
            have HSL : Hid (dnC cs l0 q0 (k + 1) = dnC cs l0 q0 k ++ [g]) := Lib.hid (by rw [dnC_yes (by rw [HXE.out]; exact hqx), getD_of_lt _ hkc, hg])
            have hqk1 : (k : Int) < (m : Int) := by omega
            have HI2V := Lib.hid (Try.infoVl g)
            have hSl : (upC l q d ++ dnC cs l0 q0 k).length ≤ 1048576 := by have := HCN.out; omega
            have hs3 : w1.heap.size ≤ wy.heap.size := by omega
            clear hqx hc2 hg e2
            go_wp2_with (first | (with_reducible refine wpList_load_mid rfl 161 (.tmp 79) rfl b2 (o2 + k * 40) rfl (vl g) _ HVA.out.range Try.underlyingV rfl HI2V.out ?_) | (with_reducible refine wpList_oneV rfl (some 81) rfl (.tmp 80) rfl g rfl ?_; intro W7 hn7; have HN7 := Lib.hid hn7; have HZ7 : Hid (w1.heap.size ≤ W7.heap.size) := (Lib.hid (by have := hn7.size; omega)); have HO7 := Lib.hid (HO.out.below hn7.below); clear hn7) | (at_builtin; with_reducible refine wpList_appendVat rfl (some 82) rfl (.tmp 76) (.tmp 81) rfl w1.heap.size (.slice ado2 cn capo2) (upC l q d ++ dnC cs l0 q0 k) rfl HO7.out wy.heap.size 1 g rfl HN7.out.at' hSl HZ7.out ?_; intro s8 W8 ho8 hg8 hat8; have HO8 := Lib.hid ho8; have HG8 := Lib.hid hg8; have HAT8 := Lib.hid hat8; clear ho8 hg8 hat8))
            have HB7 := Lib.hid (HB.out.1.trans (HN7.out.below.mono hs3))
            have hs7 : W5.heap.size ≤ W7.heap.size := by have := HN7.out.size; omega
            have HB8 : Hid (Below w1.heap.size w1 W8 ∧ W5.heap.size ≤ W8.heap.size) := Lib.hid ⟨HB7.out.grown HG8.out (by have := HB7.out.size; omega) (fun g hg => ((HO7.out.lt) g hg).1), by have := HG8.out.size; omega⟩
            have HC8 : Hid (Ow w1.heap.size W8 (.slice (some ⟨b2, o2, none⟩) m cc) cs) := Lib.hid ((HC6.out.below HN7.out.below).grown HG8.out (by
              cases hw : (Value.slice (some ⟨b2, o2, none⟩) m cc).ownBlock with
              | none => exact Or.inl rfl
              | some g => exact Or.inr (fun e => HNE.out g hw e.symm)))
            have HNE8 : Hid (∀ g, (Value.slice (some ⟨b2, o2, none⟩) m cc).ownBlock = some g → s8.ownBlock ≠ some g) := Lib.hid (fun g hg h => by
              rcases HAT8.out with e | e
              · rw [e] at h; exact HNE.out g hg h
              · rw [e] at h; injection h with h; have := (HGL.out g hg).2; omega)
            have HREL : Hid (Ow w1.heap.size W8 s8 (upC l q d ++ dnC cs l0 q0 (k + 1))) := Lib.hid (by rw [HSL.out, ← List.append_assoc]; exact HO8.out)
            go_roundw
            case rel => first | exact ⟨k + 1, by omega, by go_num, HB8, HC8, HNE8, HREL⟩ | ((repeat apply Exists.intro); exact ⟨⟨k + 1, by omega, by go_num, HB8, HC8, HNE8, HREL⟩, rfl⟩)
            case measure => simp [intOf]; omega
          · have hdq : decide (q0 < x) = false := by simp; omega
            have HSL : Hid (dnC cs l0 q0 (k + 1) = dnC cs l0 q0 k) := Lib.hid (dnC_no (by rw [HXE.out]; exact hqx))
            clear hqx
            go_wp2
            go_roundw
            case rel => exact ⟨k + 1, by omega, by go_num, HB, HC6, HNE, by rw [HSL.out]; exact HO⟩
            case measure => simp [intOf]; omega
        · have hkk : m = k := by omega
          clear hlt hk
          subst hkk
          go_wp2_with fail
          obtain ⟨cv, hcv⟩ : ∃ cv, cv = Value.slice ado2 cn capo2 := ⟨_, rfl⟩
          rw [← hcv] at HO ⊢
          have hsz : w1.heap.size ≤ wy.heap.size := by omega
          obtain ⟨WZ, hWZ⟩ : ∃ WZ : World, WZ = wy := ⟨_, rfl⟩
          subst hWZ
          have HOV := Lib.hid (HO.out.vs.lower (Nat.zero_le _))
          have hlen : (upC l q d ++ dnC cs l0 q0 m).length ≤ 1048575 := by have := HCN.out; omega
          have hbz := HB.out.1
          have HCM2 : Hid (∀ u ∈ upC l q d ++ dnC cs l0 q0 m, Lin.Md p u) := Lib.hid (fun u hu => by
            rcases List.mem_append.1 hu with h | h
            · exact upC_md hp1 u h
            · exact HCSM.out u (dnC_mem (by omega) u h))
          have HCW2 : Hid (∀ u ∈ upC l q d ++ dnC cs l0 q0 m, Lin.Wd d u) := Lib.hid (fun u hu => by
            rcases List.mem_append.1 hu with h | h
            · exact upC_wd (Nat.le_refl d) u h
            · exact HCSW.out u (dnC_mem (by omega) u h))
          clear hcv
          refine wp_region_held (S := fun W => Below w1.heap.size w1 W) (by kernel_rfl) ?_
          have S3 : Below w1.heap.size w1 WZ.drew := hbz.drew
          refine held_take (i := 0) (v := .pointer (some ⟨w.heap.size, 0, none⟩)) (some 84) rfl rfl (by kernel_rfl) (by kernel_rfl) (by kernel_rfl) (fun _ _ _ h => h) (yieldsIf_run (by kernel_rfl) (fun W _ => by kernel_rfl)) S3 ?_
          refine held_take (i := 1) (v := .pointer (some ⟨w.heap.size, 0, none⟩)) (some 85) rfl rfl (by kernel_rfl) (by kernel_rfl) (by kernel_rfl) (fun _ _ _ h => h) (yieldsIf_run (by kernel_rfl) (fun W _ => by kernel_rfl)) S3 ?_
          refine held_take (i := 2) (v := .int .i64 p) (some 86) rfl rfl (by kernel_rfl) (by kernel_rfl) (by kernel_rfl) (fun _ _ _ h => h) (yieldsIf_cell (by kernel_rfl) rfl (by kernel_rfl) (fun W h => hload W ((HNX.out W h).c0))) S3 ?_
          refine held_take (i := 3) (v := .pointer (some ⟨w.heap.size, 0, none⟩)) (some 87) rfl rfl (by kernel_rfl) (by kernel_rfl) (by kernel_rfl) (fun _ _ _ h => h) (yieldsIf_run (by kernel_rfl) (fun W _ => by kernel_rfl)) S3 ?_
          refine held_take (i := 4) (v := .pointer (some ⟨w.heap.size, 1, none⟩)) (some 88) rfl rfl (by kernel_rfl) (by kernel_rfl) (by kernel_rfl) (fun _ _ _ h => h) (yieldsIf_run (by kernel_rfl) (fun W _ => by kernel_rfl)) S3 ?_
          refine held_take (i := 5) (v := .slice (some ⟨bd, od, none⟩) ds.length cap) (some 89) rfl rfl (by kernel_rfl) (by kernel_rfl) (by kernel_rfl) (fun _ _ _ h => h) (yieldsIf_cell (by kernel_rfl) rfl (by kernel_rfl) (fun W h => hloadS W ((HNX.out W h).c1))) S3 ?_
          refine held_take (i := 6) (v := .int .i64 (n : Int)) (some 90) rfl rfl (by kernel_rfl) (by kernel_rfl) (by kernel_rfl) (fun _ _ _ h => h) (yieldsIf_move (by kernel_rfl) rfl (by kernel_rfl)) S3 ?_
          refine held_take (i := 7) (v := .pointer (some ⟨bd, od + n, none⟩)) (some 91) rfl rfl (by kernel_rfl) (by kernel_rfl) (by kernel_rfl) (fun _ _ _ h => h) (yieldsIf_index (by kernel_rfl) rfl (by kernel_rfl) (by kernel_rfl) (hidxI bd od cap hn)) S3 ?_
          refine held_take (i := 8) (v := .int .i64 (d : Int)) (some 92) rfl rfl (by kernel_rfl) (by kernel_rfl) (by kernel_rfl) (fun _ _ _ h => h) (yieldsIf_cell (by kernel_rfl) rfl (by kernel_rfl) (fun W h => hload W (HDQ.out W h))) S3 ?_
          refine held_take (i := 9) (v := cv) (some 93) rfl rfl (by kernel_rfl) (by kernel_rfl) (by kernel_rfl) (fun _ _ _ h => h) (yieldsIf_move (by kernel_rfl) rfl (by kernel_rfl)) S3 ?_
          refine held_enter (i := 10) (some 94) (f := 160) (args := #[.int .i64 p, .int .i64 (d : Int), cv]) (by kernel_rfl) rfl rfl rfl (by kernel_rfl) (annihilator_any p d _ (upC l q d ++ dnC cs l0 q0 m) _ HCX.out.1.prime (HOV.out.below (Below.refl _ _).drew) HCM2.out HCW2.out (by omega) hlen) ?_ (fun c w' h => by obtain ⟨_, _, h, _⟩ := h; cases h) (fun w' h => by obtain ⟨_, _, h, _⟩ := h; cases h)
          rintro e6 W6 ⟨s6, R, he6, hb6, ho6, hsp⟩
          injection he6 with he6
          subst he6
          have S4 : Below w1.heap.size w1 W6 := S3.trans (hb6.mono S3.size)
          have hs5 : w.heap.size ≤ WZ.heap.size := Nat.le_trans HX1.out.below.size hsz
          have HO6 := Lib.hid ho6
          have HSP := Lib.hid hsp
          have HB6 := Lib.hid (HNX.out _ S4).below
          refine ⟨S4, ?_⟩
          refine held_take (i := 11) (v := e6) (some 8) rfl rfl (by kernel_rfl) (by kernel_rfl) (by kernel_rfl) (fun _ _ _ h => h) (yieldsIf_assign (by kernel_rfl) rfl (by kernel_rfl)) S4 ?_
          refine wpAnyH_done (by kernel_rfl) ?_ _
          simp only [Act.put, List.setIfInBounds_toArray, List.set_cons_zero, List.set_cons_succ]
          clear S3 S4 hb6 ho6 hsp
          go_wp2
          go_ret
          refine ⟨_, R, rfl, HB6.out, ⟨HO6.out.1, HO6.out.2.imp id (fun ⟨g, cap, cur, h1, h2, h3⟩ => ⟨g, cap, cur, h1, Nat.le_trans hs5 h2, h3⟩)⟩, ?_⟩
          rw [← HDE.out]
          exact HSP.out.congr HZD.out
end Go.Proofs.Ytpdkfidmmjlmnab

namespace Go.Proofs.Ytpdkfidmmjlmnab
open Go.RowKit

def keptI (P : Nat → Bool) (d : Nat) : List Int := (kept P d).map fun (i : Nat) => (i : Int)
theorem keptI_yes {P : Nat → Bool} {d : Nat} (h : P d = true) : keptI P (d + 1) = keptI P d ++ [(d : Int)] := by simp [keptI, kept_yes h]
theorem keptI_no {P : Nat → Bool} {d : Nat} (h : ¬ P d = true) : keptI P (d + 1) = keptI P d := by simp [keptI, kept_no h]
theorem keptI_length (P : Nat → Bool) (d : Nat) : (keptI P d).length = (kept P d).length := by simp [keptI]
theorem one_l1 (w : World) (x : Int) : L1 0 (w.alloc (.cells #[.int .i64 x] 2)) (.slice (some ⟨w.heap.size, 0, none⟩) 1 1) [x] := Or.inr ⟨w.heap.size, 0, 1, rfl, Nat.zero_le _, by simp, fun j hj => by
  have hj0 : j = 0 := by simpa using hj
  subst hj0
  exact ⟨_, cell_alloc1 w _ _, rfl⟩⟩

set_option maxHeartbeats 3200000 in
set_option maxRecDepth 100000 in
theorem l02Kept_any (p : Int) (n : Nat) (q : Int) (dv mv lv : Value) (ds : List Int) (ms : List (List (List Int))) (ls : List (List Int)) (w : World) (h : Fi 0 w dv mv lv ds ms ls) (hf : IsFil p ds ms ls) (hn : n < ds.length) :
    Calls Try.prog 142 #[.agg #[.int .i64 p, dv, mv, lv], .int .i64 n, .int .i64 q] w (GbR (keptI (lowB (ls.getD n []) q) (dimN ds (n : Int))) w) := by
  have HX0 := Lib.hid (Fx.start (p := p) 33 h)
  have hl6 := hf.1.1.len1
  have hlsd := hf.2.len
  have hnl : n < ls.length := by omega
  obtain ⟨w1, hw1⟩ : ∃ w1, w1 = w.alloc (.cells #[.int .i64 p, dv, mv, lv] 33) := ⟨_, rfl⟩
  rw [← hw1] at HX0
  have hs01 : w1.heap.size = w.heap.size + 1 := by rw [hw1]; simp
  obtain ⟨d, hd⟩ : ∃ d, d = dimN ds (n : Int) := ⟨_, rfl⟩
  have hd8 : d ≤ 8 := by rw [hd]; exact (dimN_le8 hf.1 n).1
  have hlok := hf.2.lvs n hnl
  obtain ⟨l, hl⟩ : ∃ l, l = ls.getD n [] := ⟨_, rfl⟩
  have HDZ : Hid (dimZ ds (n : Int) = (d : Int)) := Lib.hid (by
    unfold dimZ
    rw [if_pos (by omega), Int.toNat_natCast, hd]
    exact (dimN_le8 hf.1 n).2)
  have hld : l.length = d := by rw [hl]; have := hlok.1; have := (dimN_le8 hf.1 n).2; omega
  rw [← hd, ← hl]
  have HLD := Lib.hid hld
  have HLE := Lib.hid hl
  have HS01 := Lib.hid hs01
  have HOWN0 := Lib.hid (World.ownsRow_made (base := w1.heap.size) (e := 2) (size := 1) w1 #[] 0 (Nat.le_refl _) (by unfold maxLen; omega) (by simp))
  clear h hf hlok hd hl hld hlsd hs01
  go_enter Try.func142, Try.ntmps142
  go_wp2
  rw [← hw1]
  clear hw1
  go_loopw [7, 8] (fun ov i wr => ∃ (k : Nat), k ≤ d ∧ i = .int .i64 k ∧ Hid (Below w1.heap.size w1 wr) ∧ Hid (Gb w1.heap.size wr ov (keptI (lowB l q) k))) (fun _ i _ => d - (intOf i).toNat)
  case atStart => exact ⟨0, Nat.zero_le _, rfl, Lib.hid ((Below.refl _ _).alloc (Nat.le_refl _) _), Lib.hid (by have h := HOWN0.out; rw [HS01.out] at h ⊢; simpa [Gb, keptI, kept] using h)⟩
  case round =>
    clear HOWN0
    obtain ⟨k, hk, rfl, HB, HO⟩ := hrel
    obtain ⟨wx, hwx⟩ : ∃ wx : World, wx = wr := ⟨_, rfl⟩
    subst hwx
    have hsx : w1.heap.size ≤ wx.heap.size := HB.out.size
    have HX := Lib.hid (HX0.out.next HB.out)
    have c0 := HX.out.c0
    have c1 := HX.out.c1
    have c2 := HX.out.c2
    have c3 := HX.out.c3
    have HDI := Lib.hid (l01Dim_any p (n : Int) dv mv ds ms wx HX.out.fi.cx (by omega))
    rw [HDZ.out] at HDI
    have hcl : (keptI (lowB l q) k).length ≤ k := by rw [keptI_length]; exact kept_length _ _
    by_cases hlt : k < d
    · go_wp2_with fail
      refine HDI.out.mono ?_
      rintro e w2 ⟨rfl, hb2⟩
      have HX2 := Lib.hid (HX.out.next hb2)
      have HB2 := Lib.hid (HB.out.trans (hb2.mono hsx))
      have HO2 := Lib.hid (HO.out.below hb2)
      clear hb2 c0 c1 c2 c3 HDI
      have c0 := HX2.out.c0
      have c1 := HX2.out.c1
      have c2 := HX2.out.c2
      have c3 := HX2.out.c3
      have HLV := Lib.hid (l02Level_any p dv mv lv ls n k w2 HX2.out.fi.lv hnl (by rw [← HLE.out, HLD.out]; exact hlt))
      rw [← HLE.out] at HLV
      obtain ⟨x, hx⟩ : ∃ x, x = l.getD k 0 := ⟨_, rfl⟩
      rw [← hx] at HLV
      have hs2 : w1.heap.size ≤ w2.heap.size := HB2.out.size
      by_cases hqx : x ≤ q
      · have hdq : decide (x ≤ q) = true := by simp [hqx]
        have HSL : Hid (keptI (lowB l q) (k + 1) = keptI (lowB l q) k ++ [(k : Int)]) := Lib.hid (keptI_yes (by rw [lowB, ← hx]; exact hdq))
        clear hqx hx
        go_wp2_with fail
        refine HLV.out.mono ?_
        rintro e w3 ⟨rfl, hb3⟩
        have hs3 : w1.heap.size ≤ w3.heap.size := by have := hb3.size; omega
        have HB3 := Lib.hid ((HB2.out.trans (hb3.mono hs2)).alloc hs3 (.cells #[.int .i64 (k : Int)] 2))
        have hba : Below w3.heap.size w3 (w3.alloc (.cells #[.int .i64 (k : Int)] 2)) := below_alloc1 _ _
        have HO3 := Lib.hid ((HO2.out.below hb3).below hba)
        have HL1 := Lib.hid (one_l1 w3 (k : Int))
        clear hb3 hba HLV c0 c1 c2 c3
        go_wp2_with (at_builtin; refine wpList_appendN rfl (some 27) rfl (.tmp 24) (.tmp 26) rfl w1.heap.size _ _ (keptI (lowB l q) k) [(k : Int)] rfl rfl HO3.out HL1.out ?c1 ?c2 ?_)
        case c1 => simp; omega
        case c2 => simp; omega
        intro v4 W4 hg4 hgr4
        have HB4 := Lib.hid (HB3.out.grown hgr4 (by simp; omega) (fun g hg => ((World.ownsRow.lt HO3.out) g hg).1))
        have HG4 : Hid (Gb w1.heap.size W4 v4 (keptI (lowB l q) (k + 1))) := Lib.hid (by rw [HSL.out]; exact hg4)
        clear hg4 hgr4
        go_wp2
        go_roundw
        case rel => exact ⟨k + 1, by omega, by go_num, HB4, HG4⟩
        case measure => simp [intOf]; omega
      · have hdq : decide (x ≤ q) = false := by simp; omega
        have HSL : Hid (keptI (lowB l q) (k + 1) = keptI (lowB l q) k) := Lib.hid (keptI_no (by rw [lowB, ← hx, hdq]; simp))
        clear hqx hx
        go_wp2_with fail
        refine HLV.out.mono ?_
        rintro e w3 ⟨rfl, hb3⟩
        have HB3 := Lib.hid (HB2.out.trans (hb3.mono hs2))
        have HO3 : Hid (Gb w1.heap.size w3 u7 (keptI (lowB l q) (k + 1))) := Lib.hid (by rw [HSL.out]; exact HO2.out.below hb3)
        clear hb3 HLV c0 c1 c2 c3
        go_wp2
        go_roundw
        case rel => exact ⟨k + 1, by omega, by go_num, HB3, HO3⟩
        case measure => simp [intOf]; omega
    · have hkk : d = k := by omega
      clear hlt hk
      subst hkk
      go_wp2_with fail
      refine HDI.out.mono ?_
      rintro e w2 ⟨rfl, hb2⟩
      have HB2 := Lib.hid (HX.out.next hb2).below
      have HO2 := Lib.hid (HO.out.below hb2)
      clear hb2 c0 c1 c2 c3 HDI
      go_wp2
      go_ret
      exact ⟨_, rfl, HO2.out.mono (by have := HS01.out; omega), HB2.out⟩
end Go.Proofs.Ytpdkfidmmjlmnab

namespace Go.Proofs.Ytpdkfidmmjlmnab
open Go.RowKit

def GsR (t : List (List Int)) (w : World) (e : Ending) (w' : World) : Prop := ∃ u, e = .returned u ∧ Gs w.heap.size w' u t ∧ Below w.heap.size w w'
theorem keptI_get {P : Nat → Bool} {d k : Nat} (h : k < (keptI P d).length) : (keptI P d)[k] = ((kept P d).getD k 0 : Nat) := by
  have h2 : k < (kept P d).length := by rw [← keptI_length]; exact h
  simp [keptI, List.getD, h2]
theorem g1_row {W : World} {g n : Nat} {f : Nat → Value} {v : Lin.V} (h : W.rowIs g 2 n f) (hf : ∀ i, i < n → f i = .int .i64 (v i)) (hn : n ≤ maxLen) : G1 W (.slice (some ⟨g, 0, none⟩) n n) (toL n v) := by
  obtain ⟨cs, hb, hsz, hcs⟩ := h
  refine ⟨by simp, Or.inr ⟨g, n, cs, by simp [toL_length], Nat.zero_le _, hb, by rw [toL_length]; exact Nat.le_refl _, hn, by simp [hsz], ?_⟩⟩
  refine List.ext_getElem (by simp [toL_length, hsz]) fun i h1 h2 => ?_
  have hi : i < n := by simpa [toL_length] using h2
  simp only [List.getElem_take, List.getElem_map, toL_get]
  have := hcs i hi
  rw [hf i hi] at this
  obtain ⟨_, h3⟩ := Array.getElem?_eq_some_iff.1 this
  simpa using h3

set_option maxHeartbeats 6400000 in
set_option maxRecDepth 100000 in
theorem l02Wide_any (P : Nat → Bool) (d : Nat) (vl vk : Value) (R : List Lin.V) (w : World) (hl : L2 0 w vl (R.map (toL (kept P d).length))) (hk : L1 0 w vk (keptI P d)) (hd : d ≤ 8) (hR : R.length ≤ 8) :
    Calls Try.prog 154 #[vl, vk, .int .i64 d] w (GsR ((R.map (wideV P d)).map (toL d)) w) := by
  have HL := Lib.hid hl
  have HK := Lib.hid hk
  obtain ⟨m, hm⟩ : ∃ m, m = (kept P d).length := ⟨_, rfl⟩
  have hmd : m ≤ d := by rw [hm]; exact kept_length _ _
  have HM := Lib.hid hm
  obtain ⟨al, cl, hvl⟩ := Sl.shape hl
  rw [List.length_map] at hvl
  obtain ⟨ak, ck, hvk⟩ := Sl.shape hk
  rw [keptI_length, ← hm] at hvk
  subst hvl hvk
  have hmk := run_make_row' (P := Try.prog) 22 2 (.int .i64 0) 8 Try.underlying22 Try.infoI rfl .i64 .i64 d (by omega) (by omega)
  have HOWN0 := Lib.hid (World.ownsRow_made (base := w.heap.size) (e := 22) (size := 1) w #[] 0 (Nat.le_refl _) (by unfold maxLen; omega) (by simp))
  clear hl hk hm
  go_enter Try.func154, Try.ntmps154
  go_wp2
  go_loopw [7, 8, 9, 10] (fun ov i _ _ wr => ∃ (k : Nat), k ≤ R.length ∧ i = .int .i64 k ∧ Hid (Below w.heap.size w wr) ∧ Hid (Gs w.heap.size wr ov (((R.take k).map (wideV P d)).map (toL d)))) (fun _ i _ _ _ => R.length - (intOf i).toNat)
  case atStart => exact ⟨0, Nat.zero_le _, rfl, Lib.hid ((Below.refl _ _).alloc (Nat.le_refl _) _), Lib.hid ⟨[], by simpa using HOWN0.out, fun k h1 _ => absurd h1 (Nat.not_lt_zero _)⟩⟩
  case round =>
    clear HOWN0
    obtain ⟨k, hk, rfl, HB, HG⟩ := hrel
    obtain ⟨wx, hwx⟩ : ∃ wx : World, wx = wr := ⟨_, rfl⟩
    subst hwx
    have hsx : w.heap.size ≤ wx.heap.size := HB.out.size
    have hgl : (((R.take k).map (wideV P d)).map (toL d)).length = k := by simp; omega
    obtain ⟨ao, co, hov⟩ := Sl.shape HG.out.l2
    rw [hgl] at hov
    subst hov
    have HGN := Lib.hid hgl
    clear hgl
    by_cases hlt : k < R.length
    · have hkl : k < (R.map (toL (kept P d).length)).length := by rw [List.length_map]; exact hlt
      refine Sl.cases HL.out (fun _ _ hx _ => absurd hkl (by simp [hx])) (fun b o c2 hvv _ _ hc => ?_)
      injection hvv with e1 e2 e3
      clear e2
      subst e1 e3
      obtain ⟨ur, hur, hrr0⟩ := hc k hkl
      obtain ⟨v, hv⟩ : ∃ v, v = R[k] := ⟨_, rfl⟩
      rw [List.getElem_map] at hrr0
      have hrr : L1 0 w ur (toL m v) := by rw [HM.out, hv]; exact hrr0
      clear hrr0
      have HTK : Hid (((R.take (k + 1)).map (wideV P d)).map (toL d) = ((R.take k).map (wideV P d)).map (toL d) ++ [toL d (wideV P d v)]) := Lib.hid (by rw [List.take_succ_eq_append_getElem hlt, List.map_append, List.map_append, hv]; rfl)
      obtain ⟨ar, cr, hus⟩ := Sl.shape hrr
      rw [toL_length] at hus
      subst hus
      have HRR := Lib.hid hrr
      have HUR : Hid (∀ W, Below w.heap.size w W → W.cell? ⟨b, o + k, none⟩ = some (.slice ar m cr)) := Lib.hid (fun W h => later h (Nat.le_refl _) hur)
      have hq1 : (k : Int) < (R.length : Int) := by omega
      have hq2 : (0 : Int) ≤ (k : Int) := by omega
      have HROW0 := Lib.hid (World.rowIs_made wx (.int .i64 0) d 2)
      have HB0 := Lib.hid (below_alloc1 wx (.cells (madeCells #[.int .i64 0] d) 2))
      obtain ⟨wz, hwz⟩ : ∃ wz, wz = wx.alloc (.cells (madeCells #[.int .i64 0] d) 2) := ⟨_, rfl⟩
      rw [← hwz] at HROW0 HB0
      clear hc hur hrr hv hkl
      go_wp2
      rw [← hwz]
      clear hwz
      go_loopw [10] (fun i wr => ∃ (j : Nat), j ≤ m ∧ i = .int .i64 j ∧ Hid (Below wx.heap.size wx wr) ∧ Hid (wr.rowIs wx.heap.size 2 d (fun i => .int .i64 (wideTo P d v j i)))) (fun i _ => m - (intOf i).toNat)
      case atStart => exact ⟨0, Nat.zero_le _, rfl, HB0, Lib.hid (HROW0.out.congr (fun i _ => by rw [wideTo_zero]; rfl))⟩
      case round =>
        clear HROW0 HB0
        obtain ⟨j, hj, rfl, HBY, HROW⟩ := hrel
        obtain ⟨wy, hwy⟩ : ∃ wy : World, wy = wr := ⟨_, rfl⟩
        subst hwy
        have hgy : wx.heap.size < wy.heap.size := HROW.out.lt
        by_cases hltj : j < m
        · have hkj : j < (keptI P d).length := by rw [keptI_length, ← HM.out]; exact hltj
          have hkj2 : j < (kept P d).length := by rw [← HM.out]; exact hltj
          refine Sl.cases HK.out (fun _ _ hx _ => absurd hkj (by simp [hx])) (fun bk ok ck2 hvk _ _ hck => ?_)
          injection hvk with e1 e2 e3
          clear e2
          subst e1 e3
          obtain ⟨uk, huk, hrk⟩ := hck j hkj
          rw [keptI_get hkj] at hrk
          obtain ⟨hx1, hx2, hx3⟩ := kept_get hkj2
          obtain ⟨x, hx⟩ : ∃ x, x = (kept P d).getD j 0 := ⟨_, rfl⟩
          rw [← hx] at hrk hx1
          have HXE := Lib.hid hx
          have hjr : j < (toL m v).length := by rw [toL_length]; exact hltj
          refine Sl.cases HRR.out (fun _ _ hx _ => absurd hjr (by simp [hx])) (fun br or cr2 hvr _ _ hcr => ?_)
          injection hvr with e1 e2 e3
          clear e2
          subst e1 e3
          obtain ⟨uv, huv, hrv⟩ := hcr j hjr
          rw [toL_get] at hrv
          obtain ⟨y, hy⟩ : ∃ y, y = v j := ⟨_, rfl⟩
          have hBW : ∀ W, Below wx.heap.size wx W → Below w.heap.size w W := fun W h => HB.out.trans (h.mono hsx)
          have HCK : Hid (∀ W, Below wx.heap.size wx W → W.cell? ⟨bk, ok + j, none⟩ = some (.int .i64 (x : Int))) := Lib.hid (fun W h => by rw [later (hBW W h) (Nat.le_refl _) huk, hrk])
          have HCR : Hid (∀ W, Below wx.heap.size wx W → W.cell? ⟨br, or + j, none⟩ = some (.int .i64 y)) := Lib.hid (fun W h => by rw [later (hBW W h) (Nat.le_refl _) huv, hrv, hy])
          have HCL : Hid (∀ W, Below wx.heap.size wx W → W.cell? ⟨b, o + k, none⟩ = some (.slice (some ⟨br, or, none⟩) m cr)) := Lib.hid (fun W h => HUR.out W (hBW W h))
          have hcell := HROW.out.cell hx1
          have hfz := HROW.out.frozen x
          have HROW2 : Hid ((wy.drew.setCell ⟨wx.heap.size, x, none⟩ (.int .i64 y)).rowIs wx.heap.size 2 d (fun i => .int .i64 (wideTo P d v (j + 1) i))) := Lib.hid ((((rowIs_below HROW.out (Below.refl _ _).drew).set x (.int .i64 y))).congr (fun i _ => by
            rw [wideTo_succ hkj2, ← HXE.out, ← hy]
            by_cases e : i = x
            · simp [e]
            · simp [e]))
          have HBY2 : Hid (Below wx.heap.size wx (wy.drew.setCell ⟨wx.heap.size, x, none⟩ (.int .i64 y))) := Lib.hid ((HBY.out.trans ((Below.refl wy.heap.size wy).drew.mono HBY.out.size)).setCell (Nat.le_refl _) _)
          clear huk hrk hck hcr huv hrv hx hy hx2 hx3 hBW
          go_wp2
          refine wp_region_held (S := fun W => Below wx.heap.size wx W) (by kernel_rfl) ?_
          have S0 : Below wx.heap.size wx wy.drew := HBY.out.trans ((Below.refl wy.heap.size wy).drew.mono HBY.out.size)
          have hcellD : wy.drew.cell? ⟨wx.heap.size, x, none⟩ = some (.int .i64 (wideTo P d v j x)) := hcell
          have hfzD : wy.drew.frozen? ⟨wx.heap.size, x, none⟩ = false := hfz
          clear hcell hfz HROW HBY
          change wpAnyH _ _ _ _ _ _ _ _ wy.drew
          generalize wy.drew = wd at *
          refine held_take (i := 0) (v := .slice (some ⟨wx.heap.size, 0, none⟩) d d) (some 26) rfl rfl (by kernel_rfl) (by kernel_rfl) (by kernel_rfl) (fun _ _ _ h => h) (yieldsIf_move (by kernel_rfl) rfl (by kernel_rfl)) S0 ?_
          refine held_take (i := 1) (v := .slice (some ⟨bk, ok, none⟩) m ck) (some 27) rfl rfl (by kernel_rfl) (by kernel_rfl) (by kernel_rfl) (fun _ _ _ h => h) (yieldsIf_move (by kernel_rfl) rfl (by kernel_rfl)) S0 ?_
          refine held_take (i := 2) (v := .int .i64 (j : Int)) (some 28) rfl rfl (by kernel_rfl) (by kernel_rfl) (by kernel_rfl) (fun _ _ _ h => h) (yieldsIf_move (by kernel_rfl) rfl (by kernel_rfl)) S0 ?_
          refine held_take (i := 3) (v := .pointer (some ⟨bk, ok + j, none⟩)) (some 29) rfl rfl (by kernel_rfl) (by kernel_rfl) (by kernel_rfl) (fun _ _ _ h => h) (yieldsIf_index (by kernel_rfl) rfl (by kernel_rfl) (by kernel_rfl) (hidxI bk ok ck hltj)) S0 ?_
          refine held_take (i := 4) (v := .int .i64 (x : Int)) (some 30) rfl rfl (by kernel_rfl) (by kernel_rfl) (by kernel_rfl) (fun _ _ _ h => h) (yieldsIf_cell (by kernel_rfl) rfl (by kernel_rfl) (fun W h => hload W (HCK.out W h))) S0 ?_
          refine held_take (i := 5) (v := .slice (some ⟨b, o, none⟩) R.length cl) (some 31) rfl rfl (by kernel_rfl) (by kernel_rfl) (by kernel_rfl) (fun _ _ _ h => h) (yieldsIf_move (by kernel_rfl) rfl (by kernel_rfl)) S0 ?_
          refine held_take (i := 6) (v := .int .i64 (k : Int)) (some 32) rfl rfl (by kernel_rfl) (by kernel_rfl) (by kernel_rfl) (fun _ _ _ h => h) (yieldsIf_move (by kernel_rfl) rfl (by kernel_rfl)) S0 ?_
          refine held_take (i := 7) (v := .pointer (some ⟨b, o + k, none⟩)) (some 33) rfl rfl (by kernel_rfl) (by kernel_rfl) (by kernel_rfl) (fun _ _ _ h => h) (yieldsIf_index (by kernel_rfl) rfl (by kernel_rfl) (by kernel_rfl) (hidxS b o cl hlt)) S0 ?_
          refine held_take (i := 8) (v := .slice (some ⟨br, or, none⟩) m cr) (some 34) rfl rfl (by kernel_rfl) (by kernel_rfl) (by kernel_rfl) (fun _ _ _ h => h) (yieldsIf_cell (by kernel_rfl) rfl (by kernel_rfl) (fun W h => hloadS W (HCL.out W h))) S0 ?_
          refine held_take (i := 9) (v := .int .i64 (j : Int)) (some 35) rfl rfl (by kernel_rfl) (by kernel_rfl) (by kernel_rfl) (fun _ _ _ h => h) (yieldsIf_move (by kernel_rfl) rfl (by kernel_rfl)) S0 ?_
          refine held_take (i := 10) (v := .pointer (some ⟨br, or + j, none⟩)) (some 36) rfl rfl (by kernel_rfl) (by kernel_rfl) (by kernel_rfl) (fun _ _ _ h => h) (yieldsIf_index (by kernel_rfl) rfl (by kernel_rfl) (by kernel_rfl) (hidxI br or cr hltj)) S0 ?_
          refine held_take (i := 11) (v := .int .i64 y) (some 37) rfl rfl (by kernel_rfl) (by kernel_rfl) (by kernel_rfl) (fun _ _ _ h => h) (yieldsIf_cell (by kernel_rfl) rfl (by kernel_rfl) (fun W h => hload W (HCR.out W h))) S0 ?_
          refine held_take (i := 12) (v := .pointer (some ⟨wx.heap.size, x, none⟩)) (some 38) rfl rfl (by kernel_rfl) (by kernel_rfl) (by kernel_rfl) (fun _ _ _ h => h) (yieldsIf_index (by kernel_rfl) rfl (by kernel_rfl) (by kernel_rfl) (fun w => by have := hidxI wx.heap.size 0 d hx1 w; rwa [Nat.zero_add] at this)) S0 ?_
          refine held_storeI (i := 13) (by kernel_rfl) rfl rfl rfl (.tmp 38) (.tmp 37) rfl wx.heap.size x y _ (by kernel_rfl) (by kernel_rfl) hcellD hfzD ⟨HBY2.out, ?_⟩
          refine wpAnyH_done (by kernel_rfl) ?_ _
          simp only [Act.put, List.setIfInBounds_toArray, List.set_cons_zero, List.set_cons_succ]
          clear S0 hcellD hfzD
          obtain ⟨wq, hwq⟩ : ∃ wq, wq = wd.setCell ⟨wx.heap.size, x, none⟩ (.int .i64 y) := ⟨_, rfl⟩
          rw [← hwq] at HROW2 HBY2 ⊢
          clear hwq
          go_wp2
          go_roundw
          case rel => exact ⟨j + 1, by omega, by go_num, HBY2, HROW2⟩
          case measure => simp [intOf]; omega
        · have hjj : Hid (j = m) := Lib.hid (by omega)
          have HG1 : Hid (G1 wy (.slice (some ⟨wx.heap.size, 0, none⟩) d d) (toL d (wideV P d v))) := Lib.hid (g1_row HROW.out (fun i _ => by rw [← wideTo_done, ← HM.out, hjj.out]) (by unfold maxLen; omega))
          have HGL := Lib.hid (HG.out.below HBY.out)
          have hba : Below wy.heap.size wy (wy.alloc (.cells #[.slice (some ⟨wx.heap.size, 0, none⟩) d d] 22)) := below_alloc1 _ _
          have HGL6 := Lib.hid (HGL.out.below hba)
          have HG6 := Lib.hid (HG1.out.below hba)
          have hcell6 := cell_alloc1 wy (.slice (some ⟨wx.heap.size, 0, none⟩) d d) 22
          have hsy : w.heap.size ≤ wy.heap.size := by omega
          have HB6 := Lib.hid ((HB.out.trans (HBY.out.mono hsx)).trans (hba.mono hsy))
          clear hba HG
          go_wp2_with (at_builtin; refine wpList_appendG rfl (some 42) rfl (.tmp 39) (.tmp 41) rfl w.heap.size _ (((R.take k).map (wideV P d)).map (toL d)) rfl HGL6.out wy.heap.size rfl (some ⟨wx.heap.size, 0, none⟩) d d hcell6 _ HG6.out ?c1 ?c2 ?_)
          case c1 => rw [HGN.out]; omega
          case c2 => simp; omega
          intro v7 W7 hg7 hgr7
          have HG7 : Hid (Gs w.heap.size W7 v7 (((R.take (k + 1)).map (wideV P d)).map (toL d))) := Lib.hid (by rw [HTK.out]; exact hg7)
          have HB7 : Hid (Below w.heap.size w W7) := Lib.hid (HB6.out.grown hgr7 (by simp; omega) (fun g hg => (HGL6.out.lt g hg).1))
          clear hg7 hgr7 hcell6
          go_wp2
          go_roundw
          case rel => exact ⟨k + 1, by omega, by go_num, HB7, HG7⟩
          case measure => simp [intOf]; omega
    · have hkk : Hid (R.take k = R) := Lib.hid (List.take_of_length_le (by omega))
      go_wp2
      go_ret
      exact ⟨_, rfl, by have := HG.out; rwa [hkk.out] at this, HB.out⟩
end Go.Proofs.Ytpdkfidmmjlmnab

namespace Go.Proofs.Ytpdkfidmmjlmnab
open Go.RowKit

/-- A reduced list of a space, gathered. -/
def SpG (p : Int) (d : Nat) (S : Lin.V → Prop) (w : World) (e : Ending) (w' : World) : Prop := ∃ (u : Value) (R : List Lin.V), e = .returned u ∧ Gs w.heap.size w' u (R.map (toL d)) ∧ Below w.heap.size w w' ∧ SpF p d S R

def rowJ (r : List Int) (js : List Nat) : List Int := js.map fun j => r.getD j 0
theorem rowJ_yes {P : Nat → Bool} {r : List Int} {k : Nat} (h : P k = true) : rowJ r (kept P (k + 1)) = rowJ r (kept P k) ++ [r.getD k 0] := by simp [rowJ, kept_yes h]
theorem rowJ_no {P : Nat → Bool} {r : List Int} {k : Nat} (h : ¬ P k = true) : rowJ r (kept P (k + 1)) = rowJ r (kept P k) := by simp [rowJ, kept_no h]
theorem rowJ_length (r : List Int) (js : List Nat) : (rowJ r js).length = js.length := by simp [rowJ]
theorem keptRows_take {t : List (List Int)} {K js : List Nat} {k : Nat} (h : k < K.length) : keptRows t (K.take (k + 1)) js = keptRows t (K.take k) js ++ [rowJ (t.getD (K.getD k 0) []) js] := by
  unfold keptRows
  rw [List.take_succ_eq_append_getElem h, List.map_append, getD_of_lt _ h]
  rfl
theorem rowJ_ok {p : Int} (hp : 0 < p) {m : Nat} {r : List Int} (h : RowOk p (m : Int) r) {js : List Nat} : RowOk p (js.length : Int) (rowJ r js) := by
  refine ⟨by rw [rowJ_length], fun x hx => ?_⟩
  obtain ⟨j, _, rfl⟩ := List.mem_map.1 hx
  by_cases hj : j < r.length
  · rw [getD_of_lt _ hj]
    exact h.2 _ (List.getElem_mem hj)
  · simp [List.getD, show r.length ≤ j by omega]
    omega

set_option maxHeartbeats 12800000 in
set_option maxRecDepth 100000 in
theorem l02Cycles_any (p : Int) (n : Nat) (r q : Int) (dv mv lv : Value) (ds : List Int) (ms : List (List (List Int))) (ls : List (List Int)) (w : World) (h : Fi 0 w dv mv lv ds ms ls) (hf : IsFil p ds ms ls) (hn : n < ds.length) (hr : -100 ≤ r ∧ r ≤ 100) (hq : -100 ≤ q ∧ q ≤ 100) :
    Calls Try.prog 93 #[.agg #[.int .i64 p, dv, mv, lv], .int .i64 r, .int .i64 n, .int .i64 q] w (SpG p (dimN ds (n : Int)) (ZcD p ds ms ls n q (q - r)) w) := by
  have HX0 := Lib.hid (Fx.start (p := p) 33 h)
  have HF := Lib.hid hf
  have hp1 := hf.1.1.prime.lo1
  have hl6 := hf.1.1.len1
  have hlsd := hf.2.len
  have hnl : n < ls.length := by omega
  obtain ⟨w1, hw1⟩ : ∃ w1, w1 = w.alloc (.cells #[.int .i64 p, dv, mv, lv] 33) := ⟨_, rfl⟩
  rw [← hw1] at HX0
  have HNX : Hid (∀ W, Below w1.heap.size w1 W → Fx w W w.heap.size p dv mv lv ds ms ls) := Lib.hid (fun W h => HX0.out.next h)
  obtain ⟨d, hd⟩ : ∃ d, d = dimN ds (n : Int) := ⟨_, rfl⟩
  have hd8 : d ≤ 8 := by rw [hd]; exact (dimN_le8 hf.1 n).1
  have hlok := hf.2.lvs n hnl
  obtain ⟨l, hl⟩ : ∃ l, l = ls.getD n [] := ⟨_, rfl⟩
  have HDZ : Hid (dimZ ds (n : Int) = (d : Int)) := Lib.hid (by
    unfold dimZ
    rw [if_pos (by omega), Int.toNat_natCast, hd]
    exact (dimN_le8 hf.1 n).2)
  obtain ⟨t, ht⟩ : ∃ t, t = cycT ds ms n := ⟨_, rfl⟩
  have HMZ : Hid (mapZ ds ms (n : Int) = t) := Lib.hid (by rw [ht]; rfl)
  obtain ⟨m, hm⟩ : ∃ m, m = cycM ds n := ⟨_, rfl⟩
  have hok := cyc_ok hf.1 hn
  rw [← ht, ← hm, ← hd] at hok
  have hm8 : m ≤ 8 := hok.2.2
  obtain ⟨l0, hl0⟩ : ∃ l0, l0 = ls.getD (n - 1) [] := ⟨_, rfl⟩
  obtain ⟨q0, hq0⟩ : ∃ q0, q0 = q - r := ⟨_, rfl⟩
  have hwq : IntKind.i64.wrap (q - r) = q0 := by rw [hq0]; exact IntWalk.i64_in _ (by omega)
  have hwn : IntKind.i64.wrap ((n : Int) - 1) = (n : Int) - 1 := IntWalk.i64_in _ (by omega)
  have HZD : Hid (ZcD p ds ms ls n q (q - r) = ZcS p d m t l l0 q q0) := Lib.hid (by rw [ZcD, hd, hm, ht, hl, hl0, hq0])
  obtain ⟨K, hK⟩ : ∃ K, K = kept (lowB l q) d := ⟨_, rfl⟩
  obtain ⟨js, hjs⟩ : ∃ js, js = kept (highB l0 q0) m := ⟨_, rfl⟩
  have hKl : K.length ≤ d := by rw [hK]; exact kept_length _ _
  have hjl : js.length ≤ m := by rw [hjs]; exact kept_length _ _
  obtain ⟨kn, hkn⟩ : ∃ kn, kn = K.length := ⟨_, rfl⟩
  have hkn8 : kn ≤ 8 := by omega
  have HKN := Lib.hid hkn
  have HKE := Lib.hid hK
  have HJE := Lib.hid hjs
  have HOK := Lib.hid hok
  have htl := hok.1
  have HLE := Lib.hid hl
  have HL0E := Lib.hid hl0
  have HME := Lib.hid hm
  have HKI : Hid ((keptI (lowB l q) d).length = kn) := Lib.hid (by rw [keptI_length, hkn, hK])
  rw [HZD.out, ← hd]
  have HDE := Lib.hid hd
  obtain ⟨tn, htn⟩ : ∃ tn, tn = t.length := ⟨_, rfl⟩
  have HTN : Hid (tn = t.length ∧ tn = d) := Lib.hid ⟨htn, by rw [htn, htl]⟩
  have HTD : Hid (tn = d) := Lib.hid (by rw [htn, htl])
  clear h hf hlok hlsd hok hl ht hm hl0 hK hjs hKl hq0 hkn htl hd htn
  go_enter Try.func93, Try.ntmps93
  go_wp2
  rw [← hw1]
  clear hw1
  have HXA0 := Lib.hid (HX0.out.next (Below.refl _ _).drew)
  have HB0 : Hid (Below w1.heap.size w1 w1.drew) := Lib.hid (Below.refl _ _).drew
  go_region_held3 (fun w' => w'.cell? ⟨w.heap.size, 0, none⟩ = some (.int .i64 p) ∧ w'.cell? ⟨w.heap.size, 1, none⟩ = some dv ∧ w'.cell? ⟨w.heap.size, 2, none⟩ = some mv ∧ w'.cell? ⟨w.heap.size, 3, none⟩ = some lv ∧ Hid (Below w1.heap.size w1 w'))
    (first | exact ⟨HX0.out.c0, HX0.out.c1, HX0.out.c2, HX0.out.c3, Lib.hid (Below.refl _ _)⟩ | exact ⟨HXA0.out.c0, HXA0.out.c1, HXA0.out.c2, HXA0.out.c3, HB0⟩ | exact ⟨HX3.out.c0, HX3.out.c1, HX3.out.c2, HX3.out.c3, HB3⟩ | exact ⟨HX4.out.c0, HX4.out.c1, HX4.out.c2, HX4.out.c3, HB4⟩ | go_keep)
    (first
      | (go_at_call 152; refine (l01Dim_any p (n : Int) dv mv ds ms _ ?_ (by omega)).mono ?_; (exact HXA0.out.fi.cx); rw [HDZ.out]; rintro e w3 ⟨rfl, hb3⟩; have HB3 := Lib.hid (HB0.out.trans (hb3.mono HB0.out.size)); have HX3 := Lib.hid (HNX.out _ HB3.out); clear hb3)
      | (go_at_call 142; refine (l02Kept_any p n q dv mv lv ds ms ls _ HX3.out.fi HF.out hn).mono ?_; rw [← HLE.out, ← HDE.out]; rintro e w4 ⟨u4, rfl, hg4, hb4⟩; have HB4 := Lib.hid (HB3.out.trans (hb4.mono HB3.out.size)); have HX4 := Lib.hid (HNX.out _ HB4.out); have HK4 := Lib.hid hg4; clear hg4 hb4))
  obtain ⟨ak, ck, hvk⟩ := Sl.shape HK4.out.l1
  rw [HKI.out] at hvk
  subst hvk
  have c0 := HX4.out.c0
  have c1 := HX4.out.c1
  have c2 := HX4.out.c2
  have c3 := HX4.out.c3
  have HMAP := Lib.hid (l01Map_any p (n : Int) dv mv ds ms w4 HX4.out.fi.cx HF.out.1)
  rw [HMZ.out] at HMAP
  go_wp2_with fail
  refine HMAP.out.mono ?_
  rintro e w5 ⟨v5, rfl, hl5, hb5⟩
  have HB5 := Lib.hid (HB4.out.trans (hb5.mono HB4.out.size))
  have HK5 := Lib.hid (HK4.out.l1.below hb5)
  have HL5 := Lib.hid hl5
  obtain ⟨at5, ct5, hv5⟩ := Sl.shape hl5
  rw [← HTN.out.1] at hv5
  subst hv5
  have hs5 : w1.heap.size ≤ w5.heap.size := HB5.out.size
  have HOWN0 := Lib.hid (World.ownsRow_made (base := w5.heap.size) (e := 22) (size := 1) w5 #[] 0 (Nat.le_refl _) (by unfold maxLen; omega) (by simp))
  clear hb5 hl5 c0 c1 c2 c3 HMAP HK4 HB4 HX4 HX3 HB3 HB0 HXA0 HX0
  go_wp2
  go_loopw [13, 14, 15, 16] (fun ov i _ _ wr => ∃ (k : Nat), k ≤ kn ∧ i = .int .i64 k ∧ Hid (Below w5.heap.size w5 wr) ∧ Hid (Gs w5.heap.size wr ov (keptRows t (K.take k) js))) (fun _ i _ _ _ => kn - (intOf i).toNat)
  case atStart => exact ⟨0, Nat.zero_le _, rfl, Lib.hid ((Below.refl _ _).alloc (Nat.le_refl _) _), Lib.hid ⟨[], by simpa [keptRows] using HOWN0.out, fun k h1 _ => absurd h1 (Nat.not_lt_zero _)⟩⟩
  case round =>
    clear HOWN0
    obtain ⟨k, hk, rfl, HB, HG⟩ := hrel
    obtain ⟨wx, hwx⟩ : ∃ wx : World, wx = wr := ⟨_, rfl⟩
    subst hwx
    have hsx : w5.heap.size ≤ wx.heap.size := HB.out.size
    have HGN : Hid ((keptRows t (K.take k) js).length = k) := Lib.hid (by simp [keptRows]; have := HKN.out; omega)
    obtain ⟨ao, co, hov⟩ := Sl.shape HG.out.l2
    rw [HGN.out] at hov
    subst hov
    by_cases hlt : k < kn
    · have hkI : k < (keptI (lowB l q) d).length := by rw [HKI.out]; exact hlt
      have hkK : k < (kept (lowB l q) d).length := by rw [← HKE.out, ← HKN.out]; exact hlt
      refine Sl.cases HK5.out (fun _ _ hx _ => absurd hkI (by simp [hx])) (fun bk ok ck2 hvk _ _ hck => ?_)
      injection hvk with e1 e2 e3
      clear e2
      subst e1 e3
      obtain ⟨uk, huk, hrk⟩ := hck k hkI
      rw [keptI_get hkI] at hrk
      obtain ⟨hx1, _, _⟩ := kept_get hkK
      obtain ⟨x, hx⟩ : ∃ x, x = (kept (lowB l q) d).getD k 0 := ⟨_, rfl⟩
      rw [← hx] at hrk hx1
      have hxt : x < t.length := by rw [← HTN.out.1, HTN.out.2]; exact hx1
      have hxn : x < tn := by have := HTD.out; omega
      obtain ⟨rr, hrr⟩ : ∃ rr, rr = t.getD x [] := ⟨_, rfl⟩
      have HRR := Lib.hid hrr
      have HRM : Hid (rr.length = m) := Lib.hid (by rw [hrr, getD_of_lt _ hxt]; have := (HOK.out.2.1 _ (List.getElem_mem hxt)).1; omega)
      refine Sl.cases HL5.out (fun _ _ hx _ => absurd hxt (by simp [hx])) (fun bt ot ct2 hvt _ _ hct => ?_)
      injection hvt with e1 e2 e3
      clear e2
      subst e1 e3
      obtain ⟨ut, hut, hrt⟩ := hct x hxt
      rw [← getD_of_lt [] hxt, ← hrr] at hrt
      obtain ⟨ar, cr, hus⟩ := Sl.shape hrt
      rw [HRM.out] at hus
      subst hus
      have HRT := Lib.hid hrt
      have HUK : Hid (∀ W, Below w5.heap.size w5 W → W.cell? ⟨bk, ok + k, none⟩ = some (.int .i64 (x : Int))) := Lib.hid (fun W h => by rw [later h (Nat.le_refl _) huk, hrk])
      have HUT : Hid (∀ W, Below w5.heap.size w5 W → W.cell? ⟨bt, ot + x, none⟩ = some (.slice ar m cr)) := Lib.hid (fun W h => later h (Nat.le_refl _) hut)
      have HTK : Hid (keptRows t (K.take (k + 1)) js = keptRows t (K.take k) js ++ [rowJ rr js]) := Lib.hid (by
        rw [keptRows_take (by rw [← HKN.out]; exact hlt), HKE.out, ← hx, ← hrr])
      clear hck huk hrk hx hrr hct hut hrt hkI hkK
      have hkq1 : (k : Int) < (kn : Int) := by omega
      have hkq2 : (0 : Int) ≤ (k : Int) := by omega
      have hxq1 : (x : Int) < (tn : Int) := by omega
      have hxq2 : (0 : Int) ≤ (x : Int) := by omega
      have HOWN1 := Lib.hid (World.ownsRow_made (base := wx.heap.size) (e := 2) (size := 1) wx #[] 0 (Nat.le_refl _) (by unfold maxLen; omega) (by simp))
      go_wp2
      go_loopw [15, 16] (fun ov i wr => ∃ (j : Nat), j ≤ m ∧ i = .int .i64 j ∧ Hid (Below wx.heap.size wx wr) ∧ Hid (Gb wx.heap.size wr ov (rowJ rr (kept (highB l0 q0) j)))) (fun _ i _ => m - (intOf i).toNat)
      case atStart => exact ⟨0, Nat.zero_le _, rfl, Lib.hid ((Below.refl _ _).alloc (Nat.le_refl _) _), Lib.hid (by simpa [Gb, rowJ, kept] using HOWN1.out)⟩
      case round =>
        clear HOWN1
        obtain ⟨j, hj, rfl, HBY, HO⟩ := hrel
        obtain ⟨wy, hwy⟩ : ∃ wy : World, wy = wr := ⟨_, rfl⟩
        subst hwy
        have hsy : wx.heap.size ≤ wy.heap.size := HBY.out.size
        have HB5Y := Lib.hid (HB.out.trans (HBY.out.mono hsx))
        have HX := Lib.hid (HNX.out _ (HB5.out.trans (HB5Y.out.mono hs5)))
        have c0 := HX.out.c0
        have c1 := HX.out.c1
        have c2 := HX.out.c2
        have c3 := HX.out.c3
        have hrl : (rowJ rr (kept (highB l0 q0) j)).length ≤ j := by rw [rowJ_length]; exact kept_length _ _
        by_cases hltj : j < m
        · have hn0 : 0 < n := by
            refine Nat.pos_of_ne_zero (fun e => ?_)
            have := HME.out
            rw [e] at this
            simp [cycM] at this
            omega
          have hgt : (0 : Int) < (n : Int) := by omega
          obtain ⟨k0, hk0⟩ : ∃ k0, k0 + 1 = n := ⟨n - 1, by omega⟩
          have hk0n : (n : Int) - 1 = (k0 : Int) := by omega
          have HDZ0 : Hid (dimZ ds (k0 : Int) = (m : Int)) := Lib.hid (by
            unfold dimZ
            rw [if_pos (by omega), Int.toNat_natCast, HME.out, ← hk0]
            simp only [cycM, Nat.add_sub_cancel]
            rw [if_neg (by omega)]
            exact (dimN_le8 HF.out.1 k0).2)
          have hkl0 : k0 < ls.length := by omega
          have HL0 : Hid (ls.getD k0 [] = l0) := Lib.hid (by rw [HL0E.out, show n - 1 = k0 by omega])
          have hl0l : j < (ls.getD k0 []).length := by
            have h1 := (HF.out.2.lvs k0 hkl0).1
            have h2 := (dimN_le8 HF.out.1 k0).2
            have h3 := HME.out
            rw [← hk0] at h3
            simp only [cycM, Nat.add_sub_cancel] at h3
            rw [if_neg (by omega)] at h3
            omega
          have HDI := Lib.hid (l01Dim_any p (k0 : Int) dv mv ds ms wy HX.out.fi.cx (by omega))
          rw [HDZ0.out] at HDI
          have hwn2 : IntKind.i64.wrap ((n : Int) - 1) = (k0 : Int) := by rw [hwn, hk0n]
          have HK0 := Lib.hid hk0
          clear hk0 hk0n
          clear hwn
          have hjq : (j : Int) < (m : Int) := by omega
          go_wp2_with fail
          refine HDI.out.mono ?_
          rintro e w6 ⟨rfl, hb6⟩
          have HX6 := Lib.hid (HX.out.next hb6)
          have HBY6 := Lib.hid (HBY.out.trans (hb6.mono hsy))
          have HO6 := Lib.hid (HO.out.below hb6)
          have hs6 : wx.heap.size ≤ w6.heap.size := HBY6.out.size
          have HLV := Lib.hid (l02Level_any p dv mv lv ls k0 j w6 HX6.out.fi.lv hkl0 hl0l)
          rw [HL0.out] at HLV
          obtain ⟨y, hy⟩ : ∃ y, y = l0.getD j 0 := ⟨_, rfl⟩
          rw [← hy] at HLV
          clear hb6 c0 c1 c2 c3 HDI HO hl0l
          have c0 := HX6.out.c0
          have c1 := HX6.out.c1
          have c2 := HX6.out.c2
          have c3 := HX6.out.c3
          by_cases hqx : q0 < y
          · have hdq : decide (q0 < y) = true := by simp [hqx]
            obtain ⟨z, hz⟩ : ∃ z, z = rr.getD j 0 := ⟨_, rfl⟩
            have HSL : Hid (rowJ rr (kept (highB l0 q0) (j + 1)) = rowJ rr (kept (highB l0 q0) j) ++ [z]) := Lib.hid (by rw [rowJ_yes (by rw [highB, ← hy]; exact hdq), hz])
            have hjr : j < rr.length := by rw [HRM.out]; exact hltj
            refine Sl.cases HRT.out (fun _ _ hx _ => absurd hjr (by simp [hx])) (fun br or cr2 hvr _ _ hcr => ?_)
            injection hvr with e1 e2 e3
            clear e2
            subst e1 e3
            obtain ⟨uz, huz, hrz⟩ := hcr j hjr
            rw [← getD_of_lt 0 hjr, ← hz] at hrz
            have HUZ : Hid (∀ W, Below w5.heap.size w5 W → W.cell? ⟨br, or + j, none⟩ = some (.int .i64 z)) := Lib.hid (fun W h => by rw [later h (Nat.le_refl _) huz, hrz])
            clear hqx hy hz hcr huz hrz
            go_wp2_with fail
            refine HLV.out.mono ?_
            rintro e w7 ⟨rfl, hb7⟩
            have HBY7 := Lib.hid (HBY6.out.trans (hb7.mono hs6))
            have HB57 := Lib.hid (HB.out.trans (HBY7.out.mono hsx))
            have hs7 : wx.heap.size ≤ w7.heap.size := HBY7.out.size
            have hct := HUT.out _ HB57.out
            have hck := HUK.out _ HB57.out
            have hcz := HUZ.out _ HB57.out
            have HB8 := Lib.hid (HBY7.out.alloc hs7 (.cells #[.int .i64 z] 2))
            have hba : Below w7.heap.size w7 (w7.alloc (.cells #[.int .i64 z] 2)) := below_alloc1 _ _
            have HO8 := Lib.hid ((HO6.out.below hb7).below hba)
            have HL1 := Lib.hid (one_l1 w7 z)
            clear hb7 hba HLV c0 c1 c2 c3
            go_wp2_with (at_builtin; refine wpList_appendN rfl (some 74) rfl (.tmp 62) (.tmp 73) rfl wx.heap.size _ _ (rowJ rr (kept (highB l0 q0) j)) [z] rfl rfl HO8.out HL1.out ?c1 ?c2 ?_)
            case c1 => simp; omega
            case c2 => simp; omega
            intro v9 W9 hg9 hgr9
            have HB9 := Lib.hid (HB8.out.grown hgr9 (by simp; omega) (fun g hg => ((World.ownsRow.lt HO8.out) g hg).1))
            have HG9 : Hid (Gb wx.heap.size W9 v9 (rowJ rr (kept (highB l0 q0) (j + 1)))) := Lib.hid (by rw [HSL.out]; exact hg9)
            clear hg9 hgr9 hct hck hcz
            go_wp2
            go_roundw
            case rel => exact ⟨j + 1, by omega, by go_num, HB9, HG9⟩
            case measure => simp [intOf]; omega
          · have hdq : decide (q0 < y) = false := by simp; omega
            have HSL : Hid (rowJ rr (kept (highB l0 q0) (j + 1)) = rowJ rr (kept (highB l0 q0) j)) := Lib.hid (rowJ_no (by rw [highB, ← hy, hdq]; simp))
            clear hqx hy
            go_wp2_with fail
            refine HLV.out.mono ?_
            rintro e w7 ⟨rfl, hb7⟩
            have HBY7 := Lib.hid (HBY6.out.trans (hb7.mono hs6))
            have HO7 := Lib.hid (HO6.out.below hb7)
            rw [← HSL.out] at HO7
            clear hb7 HLV c0 c1 c2 c3 HO6
            go_wp2
            go_roundw
            case rel => exact ⟨j + 1, by omega, by go_num, HBY7, HO7⟩
            case measure => simp [intOf]; omega
        · have hjj : m = j := by omega
          clear hltj hj
          subst hjj
          have HROWJ : Hid (rowJ rr (kept (highB l0 q0) m) = rowJ rr js) := Lib.hid (by rw [HJE.out])
          rw [HROWJ.out] at HO
          obtain ⟨a9, c9, hv9⟩ := Sl.shape HO.out.l1
          rw [rowJ_length] at hv9
          obtain ⟨jn, hjn⟩ : ∃ jn, jn = js.length := ⟨_, rfl⟩
          rw [← hjn] at hv9
          subst hv9
          have HJN := Lib.hid hjn
          clear hjn hrl
          by_cases hn0 : n = 0
          · have hgt : ¬ ((0 : Int) < (n : Int)) := by omega
            clear hn0
            have HG1 : Hid (G1 wy (.slice a9 jn c9) (rowJ rr js)) := Lib.hid HO.out.g1
            have HB5Z := Lib.hid (HB.out.trans (HBY.out.mono hsx))
            have hba : Below wy.heap.size wy (wy.alloc (.cells #[.slice a9 jn c9] 22)) := below_alloc1 _ _
            have HGL6 := Lib.hid ((HG.out.below HBY.out).below hba)
            have HG6 := Lib.hid (HG1.out.below hba)
            have hcell6 := cell_alloc1 wy (.slice a9 jn c9) 22
            have hsz : w5.heap.size ≤ wy.heap.size := HB5Z.out.size
            have HB6 := Lib.hid (HB5Z.out.trans (hba.mono hsz))
            clear hba
            go_wp2_with (at_builtin; refine wpList_appendG rfl (some 78) rfl (.tmp 75) (.tmp 77) rfl w5.heap.size _ (keptRows t (K.take k) js) rfl HGL6.out wy.heap.size rfl a9 jn c9 hcell6 _ HG6.out ?c1 ?c2 ?_)
            case c1 => rw [HGN.out]; omega
            case c2 => first | (simp; omega) | omega
            intro v7 W7 hg7 hgr7
            have HG7 : Hid (Gs w5.heap.size W7 v7 (keptRows t (K.take (k + 1)) js)) := Lib.hid (by rw [HTK.out]; exact hg7)
            have HB7 : Hid (Below w5.heap.size w5 W7) := Lib.hid (HB6.out.grown hgr7 (by simp; omega) (fun g hg => (HGL6.out.lt g hg).1))
            clear hg7 hgr7 hcell6
            go_wp2
            go_roundw
            case rel => first | exact ⟨k + 1, by omega, by go_num, HB7, HG7⟩ | ((repeat apply Exists.intro); exact ⟨⟨k + 1, by omega, by go_num, HB7, HG7⟩, rfl⟩)
            case measure => simp [intOf]; omega
          · have hgt : (0 : Int) < (n : Int) := by omega
            obtain ⟨k0, hk0⟩ : ∃ k0, k0 + 1 = n := ⟨n - 1, by omega⟩
            have hk0n : (n : Int) - 1 = (k0 : Int) := by omega
            have HDZ0 : Hid (dimZ ds (k0 : Int) = (m : Int)) := Lib.hid (by
              unfold dimZ
              rw [if_pos (by omega), Int.toNat_natCast, HME.out, ← hk0]
              simp only [cycM, Nat.add_sub_cancel]
              rw [if_neg (by omega)]
              exact (dimN_le8 HF.out.1 k0).2)
            have HDI := Lib.hid (l01Dim_any p (k0 : Int) dv mv ds ms wy HX.out.fi.cx (by omega))
            rw [HDZ0.out] at HDI
            have hwn2 : IntKind.i64.wrap ((n : Int) - 1) = (k0 : Int) := by rw [hwn, hk0n]
            clear hk0 hk0n hwn
            go_wp2_with fail
            refine HDI.out.mono ?_
            rintro e w6 ⟨rfl, hb6⟩
            have HBY6 := Lib.hid (HBY.out.trans (hb6.mono hsy))
            have HG1 : Hid (G1 w6 (.slice a9 jn c9) (rowJ rr js)) := Lib.hid (HO.out.g1.below hb6)
            clear hb6 HDI c0 c1 c2 c3
            have HB5Z := Lib.hid (HB.out.trans (HBY6.out.mono hsx))
            have hba : Below w6.heap.size w6 (w6.alloc (.cells #[.slice a9 jn c9] 22)) := below_alloc1 _ _
            have HGL6 := Lib.hid ((HG.out.below HBY6.out).below hba)
            have HG6 := Lib.hid (HG1.out.below hba)
            have hcell6 := cell_alloc1 w6 (.slice a9 jn c9) 22
            have hsz : w5.heap.size ≤ w6.heap.size := HB5Z.out.size
            have HB6 := Lib.hid (HB5Z.out.trans (hba.mono hsz))
            clear hba
            go_wp2_with (at_builtin; refine wpList_appendG rfl (some 78) rfl (.tmp 75) (.tmp 77) rfl w5.heap.size _ (keptRows t (K.take k) js) rfl HGL6.out w6.heap.size rfl a9 jn c9 hcell6 _ HG6.out ?c1 ?c2 ?_)
            case c1 => rw [HGN.out]; omega
            case c2 => first | (simp; omega) | omega
            intro v7 W7 hg7 hgr7
            have HG7 : Hid (Gs w5.heap.size W7 v7 (keptRows t (K.take (k + 1)) js)) := Lib.hid (by rw [HTK.out]; exact hg7)
            have HB7 : Hid (Below w5.heap.size w5 W7) := Lib.hid (HB6.out.grown hgr7 (by simp; omega) (fun g hg => (HGL6.out.lt g hg).1))
            clear hg7 hgr7 hcell6
            go_wp2
            go_roundw
            case rel => first | exact ⟨k + 1, by omega, by go_num, HB7, HG7⟩ | ((repeat apply Exists.intro); exact ⟨⟨k + 1, by omega, by go_num, HB7, HG7⟩, rfl⟩)
            case measure => simp [intOf]; omega
    · have hkk : kn = k := by omega
      clear hlt hk
      subst hkk
      have HKALL : Hid (keptRows t (K.take kn) js = keptRows t K js) := Lib.hid (by rw [List.take_of_length_le (by have := HKN.out; omega)])
      rw [HKALL.out] at HG
      have HROWS : Hid (∀ r ∈ keptRows t K js, RowOk p (js.length : Int) r) := Lib.hid (fun r hr => by
        obtain ⟨i, hi, rfl⟩ := List.mem_map.1 hr
        have hi2 : i < d := by
          rw [HKE.out] at hi
          exact (kept_mem.1 hi).1
        have hi3 : i < t.length := by rw [← HTN.out.1, HTN.out.2]; exact hi2
        rw [getD_of_lt _ hi3]
        exact rowJ_ok (by omega) (HOK.out.2.1 _ (List.getElem_mem hi3)))
      have HKER := Lib.hid (l01Kernel_any p kn js.length (.slice ao kn co) (keptRows t K js) wx HF.out.1.1.prime HG.out.l2 (by simp [keptRows]; exact HKN.out.symm) HROWS.out (by omega) (by omega))
      go_wp2_with fail
      refine HKER.out.mono ?_
      rintro e w6 ⟨u6, R, rfl, hg6, hb6, hsp6⟩
      have HSP : Hid (SpF p (kept (lowB l q) d).length (CycS p (kept (lowB l q) d).length (kept (highB l0 q0) m).length (keptRows t (kept (lowB l q) d) (kept (highB l0 q0) m))) R) := Lib.hid (by rw [← HKE.out, ← HJE.out, ← HKN.out]; exact hsp6)
      have hRl : R.length ≤ 8 := by have := hsp6.short; omega
      have HG6 : Hid (L2 0 w6 u6 (R.map (toL (kept (lowB l q) d).length))) := Lib.hid (by rw [← HKE.out, ← HKN.out]; exact hg6.l2)
      have HB6 := Lib.hid (HB.out.trans (hb6.mono hsx))
      have HK6 := Lib.hid (HK5.out.below HB6.out)
      have hs6 : w5.heap.size ≤ w6.heap.size := HB6.out.size
      clear hg6 hb6 hsp6 HKER HG
      have HWI := Lib.hid (l02Wide_any (lowB l q) d u6 (.slice ak kn ck) R w6 HG6.out HK6.out hd8 hRl)
      go_wp2_with fail
      refine HWI.out.mono ?_
      rintro e w7 ⟨u7, rfl, hg7, hb7⟩
      have HG7 := Lib.hid hg7.l2
      have HB7 := Lib.hid (HB6.out.trans (hb7.mono hs6))
      have hs7 : w5.heap.size ≤ w7.heap.size := HB7.out.size
      clear hg7 hb7 HWI
      have HWM : Hid (∀ u ∈ R.map (wideV (lowB l q) d), Lin.Md p u) := Lib.hid (fun u hu => by
        obtain ⟨y, hy, rfl⟩ := List.mem_map.1 hu
        exact wideV_md (by omega) (HSP.out.1.md y hy))
      have HWW : Hid (∀ u ∈ R.map (wideV (lowB l q) d), Lin.Wd d u) := Lib.hid (fun u hu => by
        obtain ⟨y, hy, rfl⟩ := List.mem_map.1 hu
        exact wideV_wd _ _ _)
      have HEC := Lib.hid (l01Echelon_any p d u7 (R.map (wideV (lowB l q) d)) w7 HF.out.1.1.prime HG7.out HWM.out HWW.out (by omega) (by rw [List.length_map]; omega))
      go_wp2_with fail
      refine HEC.out.mono ?_
      rintro e w8 ⟨u8, E, rfl, hg8, hb8, hr8, _⟩
      have HG8 := Lib.hid (hg8.mono (show w.heap.size ≤ w7.heap.size by have := (HNX.out _ HB5.out).below.size; omega))
      have HB8 := Lib.hid (HNX.out _ (HB5.out.trans ((HB7.out.trans (hb8.mono hs7)).mono hs5))).below
      have HR8 := Lib.hid hr8
      clear hg8 hb8 hr8 HEC
      go_wp2
      go_ret
      exact ⟨u8, E, rfl, HG8.out, HB8.out, HR8.out.red, HR8.out.wd, fun v => (HR8.out.eqv v).trans (zc_wide (by omega) HSP.out v)⟩
end Go.Proofs.Ytpdkfidmmjlmnab

namespace Go.Proofs.Ytpdkfidmmjlmnab
open Go.RowKit

theorem hloadF (w : World) {b : Nat} {p : Int} {dv mv lv : Value} (c0 : w.cell? ⟨b, 0, none⟩ = some (.int .i64 p)) (c1 : w.cell? ⟨b, 1, none⟩ = some dv) (c2 : w.cell? ⟨b, 2, none⟩ = some mv) (c3 : w.cell? ⟨b, 3, none⟩ = some lv) : (Instr.loadAt 33 (.pointer (some ⟨b, 0, none⟩))).run Try.prog w = .ok (.agg #[.int .i64 p, dv, mv, lv]) w := by go_simp
theorem approximateSpace_any (p : Int) (k : Nat) (r q : Int) (dv mv lv : Value) (ds : List Int) (ms : List (List (List Int))) (ls : List (List Int)) (w : World) (h : Fi 0 w dv mv lv ds ms ls) (hf : IsFil p ds ms ls) (hn : k < ds.length) (hr : -100 ≤ r ∧ r ≤ 100) (hq : -100 ≤ q ∧ q ≤ 100) :
    Calls Try.prog 95 #[.agg #[.int .i64 p, dv, mv, lv], .int .i64 r, .int .i64 (k : Int), .int .i64 q] w (VsR (SpF p (dimN ds (k : Int)) (ZcD p ds ms ls (k : Int).toNat q (q - r))) w) := by
  by_cases h0 : k = 0
  · exact approximateSpace_0 p k r q dv mv lv ds ms ls w h hf hn h0
  · exact approximateSpace_s p k r q dv mv lv ds ms ls w h hf hn (by omega) hr hq

set_option maxHeartbeats 3200000 in
set_option maxRecDepth 100000 in
theorem pageSpaceAt_approximateSpace (p r n q : Int) (S : Lin.V → Prop) (dv mv lv : Value) (ds : List Int) (ms : List (List (List Int))) (ls : List (List Int)) (w : World) (h : Fi 0 w dv mv lv ds ms ls) (hd : ds.length ≤ 1048576) (hm : Bd3 1048576 ms) (hl : Bd2 1048576 ls)
    (hf : celCode p ds ms ls r n q = 0 → ∀ W, Fi 0 W dv mv lv ds ms ls → Calls Try.prog 95 #[.agg #[.int .i64 p, dv, mv, lv], .int .i64 r, .int .i64 n, .int .i64 q] W (VsR (SpF p (dimN ds n) S) W)) :
    Calls Try.prog 94 #[.agg #[.int .i64 p, dv, mv, lv], .int .i64 r, .int .i64 n, .int .i64 q, .func (.func 95) #[] #[]] w (SpW p (dimN ds n) S (celCode p ds ms ls r n q) w) := by
  have HX0 := Lib.hid (Fx.start (p := p) 33 h)
  have HCK := Lib.hid (checkCell_any p r n q dv mv lv ds ms ls _ HX0.out.fi hd hm hl)
  have HF := Lib.hid hf
  obtain ⟨ad, cap, hdv⟩ := Sl.shape h.cx.dims
  have c0 := HX0.out.c0
  have c1 := HX0.out.c1
  have c2 := HX0.out.c2
  have c3 := HX0.out.c3
  clear h hm hl hf
  by_cases hcode : celCode p ds ms ls r n q = 0
  · obtain ⟨hfil, _, hr, _⟩ := celCode_zero hcode
    obtain ⟨k, rfl⟩ : ∃ k : Nat, n = (k : Int) := ⟨n.toNat, by have := hr.1; omega⟩
    have hk : k < ds.length := by have := hr.2; omega
    have HCODE := Lib.hid hcode
    refine Sl.cases HX0.out.fi.cx.dims (fun _ _ hx _ => absurd hk (by simp [hx])) (fun bd od capd hvd _ _ _ => ?_)
    subst hvd
    have hdim := hfil.1.1.dim k
    obtain ⟨c, hc⟩ := Int.eq_ofNat_of_zero_le hdim.1
    have hc8 : c ≤ 8 := by omega
    have HDN : Hid (dimN ds (k : Int) = c) := Lib.hid (by unfold dimN; rw [Int.toNat_natCast, hc]; rfl)
    have HC := Lib.hid hc
    rw [hcode] at HCK
    clear hfil hr hcode hdv hdim hc
    go_enter Try.func94, Try.ntmps94
    go_wp2_with fail
    refine HCK.out.mono ?_
    rintro e w1 ⟨rfl, hb1⟩
    have HX1 := Lib.hid (HX0.out.next hb1)
    clear hb1 HCK HX0 c0 c1 c2 c3
    go_wp2
    have HNX : Hid (∀ W, Below w1.heap.size w1 W → Fx w W w.heap.size p (.slice (some ⟨bd, od, none⟩) ds.length capd) mv lv ds ms ls) := Lib.hid (fun W h => HX1.out.next h)
    have HDQ : Hid (∀ W, Below w1.heap.size w1 W → W.cell? ⟨bd, od + k, none⟩ = some (.int .i64 (c : Int))) := Lib.hid (fun W h => by
      obtain ⟨ud, hud, hrd⟩ := Sl.at (HNX.out W h).fi.cx.dims hk
      rw [hud, hrd, ← getD_of_lt 0 hk, HC.out])
    refine wp_region_held (S := fun W => Below w1.heap.size w1 W) (by kernel_rfl) ?_
    have S0 : Below w1.heap.size w1 w1.drew := (Below.refl _ _).drew
    refine held_take (i := 0) (v := .func (.func 95) #[] #[]) (some 21) rfl rfl (by kernel_rfl) (by kernel_rfl) (by kernel_rfl) (fun _ _ _ h => h) (yieldsIf_move (by kernel_rfl) rfl (by kernel_rfl)) S0 ?_
    refine held_take (i := 1) (v := .agg #[.int .i64 p, .slice (some ⟨bd, od, none⟩) ds.length capd, mv, lv]) (some 22) rfl rfl (by kernel_rfl) (by kernel_rfl) (by kernel_rfl) (fun _ _ _ h => h) (yieldsIf_cell (by kernel_rfl) rfl (by kernel_rfl) (fun W h => hloadF W (HNX.out W h).c0 (HNX.out W h).c1 (HNX.out W h).c2 (HNX.out W h).c3)) S0 ?_
    refine held_take (i := 2) (v := .int .i64 r) (some 23) rfl rfl (by kernel_rfl) (by kernel_rfl) (by kernel_rfl) (fun _ _ _ h => h) (yieldsIf_move (by kernel_rfl) rfl (by kernel_rfl)) S0 ?_
    refine held_take (i := 3) (v := .int .i64 (k : Int)) (some 24) rfl rfl (by kernel_rfl) (by kernel_rfl) (by kernel_rfl) (fun _ _ _ h => h) (yieldsIf_move (by kernel_rfl) rfl (by kernel_rfl)) S0 ?_
    refine held_take (i := 4) (v := .int .i64 q) (some 25) rfl rfl (by kernel_rfl) (by kernel_rfl) (by kernel_rfl) (fun _ _ _ h => h) (yieldsIf_move (by kernel_rfl) rfl (by kernel_rfl)) S0 ?_
    refine held_take (i := 6) (v := .pointer (some ⟨w.heap.size, 0, none⟩)) (some 27) rfl rfl (by kernel_rfl) (by kernel_rfl) (by kernel_rfl) (fun _ _ _ h => h) (yieldsIf_run (by kernel_rfl) (fun W _ => by kernel_rfl)) S0 ?_
    refine held_take (i := 7) (v := .pointer (some ⟨w.heap.size, 1, none⟩)) (some 28) rfl rfl (by kernel_rfl) (by kernel_rfl) (by kernel_rfl) (fun _ _ _ h => h) (yieldsIf_run (by kernel_rfl) (fun W _ => by kernel_rfl)) S0 ?_
    refine held_take (i := 8) (v := .slice (some ⟨bd, od, none⟩) ds.length capd) (some 29) rfl rfl (by kernel_rfl) (by kernel_rfl) (by kernel_rfl) (fun _ _ _ h => h) (yieldsIf_cell (by kernel_rfl) rfl (by kernel_rfl) (fun W h => hloadS W (HNX.out W h).c1)) S0 ?_
    refine held_take (i := 9) (v := .int .i64 (k : Int)) (some 30) rfl rfl (by kernel_rfl) (by kernel_rfl) (by kernel_rfl) (fun _ _ _ h => h) (yieldsIf_move (by kernel_rfl) rfl (by kernel_rfl)) S0 ?_
    refine held_take (i := 10) (v := .pointer (some ⟨bd, od + k, none⟩)) (some 31) rfl rfl (by kernel_rfl) (by kernel_rfl) (by kernel_rfl) (fun _ _ _ h => h) (yieldsIf_index (by kernel_rfl) rfl (by kernel_rfl) (by kernel_rfl) (hidxI bd od capd hk)) S0 ?_
    refine held_take (i := 11) (v := .int .i64 (c : Int)) (some 32) rfl rfl (by kernel_rfl) (by kernel_rfl) (by kernel_rfl) (fun _ _ _ h => h) (yieldsIf_cell (by kernel_rfl) rfl (by kernel_rfl) (fun W h => hload W (HDQ.out W h))) S0 ?_
    refine held_enter (i := 5) (some 26) (f := 95) (args := #[.agg #[.int .i64 p, .slice (some ⟨bd, od, none⟩) ds.length capd, mv, lv], .int .i64 r, .int .i64 (k : Int), .int .i64 q]) (by kernel_rfl) rfl rfl rfl (by kernel_rfl) (HF.out HCODE.out _ (HNX.out _ S0).fi) ?_ (fun c w' h => by obtain ⟨_, _, h, _⟩ := h; cases h) (fun w' h => by obtain ⟨_, _, h, _⟩ := h; cases h)
    rintro e4 W4 ⟨s4, R, he4, hb4, ho4, hsp⟩
    injection he4 with he4
    subst he4
    have S1 : Below w1.heap.size w1 W4 := S0.trans hb4
    have HO4 := Lib.hid (ho4.vs.lower (Nat.zero_le _))
    have HSP := Lib.hid hsp
    have hshort := hsp.short
    rw [HDN.out] at hshort
    refine ⟨S1, ?_⟩
    clear hb4 ho4 hsp
    refine held_enter (i := 12) (some 33) (f := 156) (args := #[e4, .int .i64 (c : Int)]) (by kernel_rfl) rfl rfl rfl (by kernel_rfl) (rowsOf_any c e4 R W4 HO4.out (by omega) (by omega)) ?_ (fun c w' h => by obtain ⟨_, h, _⟩ := h; cases h) (fun w' h => by obtain ⟨_, h, _⟩ := h; cases h)
    rintro e5 W5 ⟨u5, he5, ht5, hb5⟩
    injection he5 with he5
    subst he5
    have S2 : Below w1.heap.size w1 W5 := S1.trans (hb5.mono S1.size)
    have HT5 := Lib.hid ht5
    have hs4 : w1.heap.size ≤ W4.heap.size := S1.size
    have HB5 := Lib.hid (HNX.out _ S2).below
    have hs1 : w.heap.size ≤ w1.heap.size := HX1.out.below.size
    refine ⟨S2, ?_⟩
    refine held_take (i := 13) (v := e5) (some 10) rfl rfl (by kernel_rfl) (by kernel_rfl) (by kernel_rfl) (fun _ _ _ h => h) (yieldsIf_assign (by kernel_rfl) rfl (by kernel_rfl)) S2 ?_
    refine held_take (i := 14) (v := .int .i64 0) (some 11) rfl rfl (by kernel_rfl) (by kernel_rfl) (by kernel_rfl) (fun _ _ _ h => h) (yieldsIf_assign (by kernel_rfl) rfl (by kernel_rfl)) S2 ?_
    refine wpAnyH_done (by kernel_rfl) ?_ _
    simp only [Act.put, List.setIfInBounds_toArray, List.set_cons_zero, List.set_cons_succ]
    clear S0 S1 S2 ht5 hb5
    go_wp2
    go_ret2
    refine ⟨e5, R.map (toL c), 0, rfl, HT5.out.wider (by omega), HB5.out, ?_⟩
    rw [HCODE.out]
    have hh := HSP.out
    rw [HDN.out] at hh ⊢
    exact ⟨fun _ => ⟨R, hh.1, hh.2.1, hh.2.2, rfl⟩, fun hh => absurd rfl hh, rfl⟩
  · have HNC := Lib.hid hcode
    subst hdv
    obtain ⟨k, hk⟩ : ∃ k, k = celCode p ds ms ls r n q := ⟨_, rfl⟩
    rw [← hk] at HCK
    have hne : ¬ k = 0 := by rw [hk]; exact hcode
    have HKE := Lib.hid hk
    have hne2 : (k != 0) = true := by simp [hne]
    have hne3 : (k == 0) = false := by simp [hne]
    clear hcode HF hk hne
    go_enter Try.func94, Try.ntmps94
    go_wp2_with fail
    refine HCK.out.mono ?_
    rintro e w1 ⟨rfl, hb1⟩
    have HX1 := Lib.hid (HX0.out.next hb1)
    clear hb1 HCK HX0
    go_wp2
    go_ret2
    refine ⟨_, [], k, rfl, TW.nil _ _ _, HX1.out.below, ?_⟩
    rw [HKE.out]
    exact SpOut.of_no HNC.out

set_option maxHeartbeats 1600000 in
theorem approximateCycles_any (p r n q : Int) (dv mv lv : Value) (ds : List Int) (ms : List (List (List Int))) (ls : List (List Int)) (w : World) (h : Fi 0 w dv mv lv ds ms ls) (hd : ds.length ≤ 1048576) (hm : Bd3 1048576 ms) (hl : Bd2 1048576 ls) :
    Calls Try.prog 27 #[.agg #[.int .i64 p, dv, mv, lv], .int .i64 r, .int .i64 n, .int .i64 q] w (SpW p (dimN ds n) (ZcD p ds ms ls n.toNat q (q - r)) (celCode p ds ms ls r n q) w) := by
  have HX0 := Lib.hid (Fx.start (p := p) 33 h)
  have HSA := Lib.hid (pageSpaceAt_approximateSpace p r n q (ZcD p ds ms ls n.toNat q (q - r)) dv mv lv ds ms ls _ HX0.out.fi hd hm hl (fun hc W hW => by
    obtain ⟨hfil, hcr, hr, hcq⟩ := celCode_zero hc
    obtain ⟨k, rfl⟩ : ∃ k : Nat, n = (k : Int) := ⟨n.toNat, by have := hr.1; omega⟩
    exact approximateSpace_any p k r q dv mv lv ds ms ls W hW hfil (by have := hr.2; omega) (by omega) (by omega)))
  have c0 := HX0.out.c0
  have c1 := HX0.out.c1
  have c2 := HX0.out.c2
  have c3 := HX0.out.c3
  clear h hm hl
  go_enter Try.func27, Try.ntmps27
  go_wp2_with fail
  refine HSA.out.mono ?_
  rintro e w1 ⟨u, out, c, rfl, ht, hb, ho⟩
  have HT := Lib.hid ht
  have HB := Lib.hid (HX0.out.next hb).below
  have HO := Lib.hid ho
  clear ht hb ho HSA
  have hs0 := HX0.out.below.size
  go_wp2
  go_ret2
  exact ⟨u, out, c, rfl, HT.out.wider hs0, HB.out, HO.out⟩

set_option maxHeartbeats 1600000 in
theorem spApproximateCycles_any (p r n q : Int) (dv mv lv : Value) (ds : List Int) (ms : List (List (List Int))) (ls : List (List Int)) (w : World) (h : Fi 0 w dv mv lv ds ms ls) (hd : ds.length ≤ 1048576) (hm : Bd3 1048576 ms) (hl : Bd2 1048576 ls) :
    Calls Try.prog 26 #[.agg #[.int .i64 p, dv, mv, lv], .int .i64 r, .int .i64 n, .int .i64 q] w (SpS p (dimN ds n) (ZcD p ds ms ls n.toNat q (q - r)) (celCode p ds ms ls r n q) w) := by
  have HX0 := Lib.hid (Fx.start (p := p) 33 h)
  have HCK := Lib.hid (l02Code_any p r n q dv mv lv ds ms ls _ HX0.out.fi hd hm hl)
  have c0 := HX0.out.c0
  have c1 := HX0.out.c1
  have c2 := HX0.out.c2
  have c3 := HX0.out.c3
  obtain ⟨k, hk⟩ : ∃ k, k = celCode p ds ms ls r n q := ⟨_, rfl⟩
  rw [← hk] at HCK ⊢
  have HKE := Lib.hid hk
  clear h hm hl hk
  go_enter Try.func26, Try.ntmps26
  go_wp2_with fail
  refine HCK.out.mono ?_
  rintro e w1 ⟨rfl, hb1⟩
  have HX1 := Lib.hid (HX0.out.next hb1)
  clear hb1 c0 c1 c2 c3 HCK
  have c0 := HX1.out.c0
  have c1 := HX1.out.c1
  have c2 := HX1.out.c2
  have c3 := HX1.out.c3
  by_cases hk : k = 0
  · subst hk
    obtain ⟨hfil, hcr, hr, hcq⟩ := celCode_zero HKE.out.symm
    obtain ⟨k, rfl⟩ : ∃ k : Nat, n = (k : Int) := ⟨n.toNat, by have := hr.1; omega⟩
    have HB := Lib.hid (l02Cycles_any p k r q dv mv lv ds ms ls _ HX1.out.fi hfil (by have := hr.2; omega) (by omega) (by omega))
    clear hfil hr hcr hcq
    go_wp2_with fail
    refine HB.out.mono ?_
    rintro e w2 ⟨u2, R, rfl, hg2, hb2, hr2⟩
    have HG2 := Lib.hid hg2.l2
    have HX2 := Lib.hid (HX1.out.next hb2)
    have HR2 := Lib.hid hr2
    clear hg2 hb2 hr2 HB
    go_wp2
    go_ret2
    exact ⟨u2, R.map (toL (dimN ds (k : Int))), 0, rfl, HG2.out, HX2.out.below, fun _ => ⟨R, HR2.out.1, HR2.out.2.1, HR2.out.2.2, rfl⟩, fun hh => absurd rfl hh, rfl⟩
  · have hne2 : (k != 0) = true := by simp [hk]
    have hne3 : (k == 0) = false := by simp [hk]
    have HK := Lib.hid hk
    clear hk
    go_wp2
    go_ret2
    exact ⟨_, [], k, rfl, nil2 _, HX1.out.below, SpOut.of_no HK.out⟩
end Go.Proofs.Ytpdkfidmmjlmnab
