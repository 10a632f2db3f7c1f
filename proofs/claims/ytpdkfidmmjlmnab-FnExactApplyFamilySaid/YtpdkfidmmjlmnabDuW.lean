/-
  DualComplex of the program: its answer in memory of its own.
-/
import Derived.Test.YtpdkfidmmjlmnabRc
import Derived.Test.YtpdkfidmmjlmnabDual
import Derived.Test.YtpdkfidmmjlmnabEnd
namespace Go.Proofs.Ytpdkfidmmjlmnab
open Go.RowKit
/-- The dual's dimensions and tables. -/
def dualD (ds : List Int) : List Int := (List.range ds.length).map fun j => ds.getD (ds.length - 1 - j) 0
def dualM (ds : List Int) (ms : List (List (List Int))) : List (List (List Int)) := (List.range ms.length).map fun j => tableOf (duR ds ms.length j) (duC ms j) (duZ ms j)
theorem dualD_length (ds : List Int) : (dualD ds).length = ds.length := by simp [dualD]
theorem dualM_length (ds : List Int) (ms : List (List (List Int))) : (dualM ds ms).length = ms.length := by simp [dualM]
theorem dualM_at {ds : List Int} {ms : List (List (List Int))} {j : Nat} (h : j < (dualM ds ms).length) : (dualM ds ms)[j] = tableOf (duR ds ms.length j) (duC ms j) (duZ ms j) := by simp [dualM]
theorem duR_8 {p : Int} {ds : List Int} {ms : List (List (List Int))} (h : IsCx p ds ms) (j : Nat) : duR ds ms.length j ≤ 8 := by
  have := (h.1.dim (ms.length - 1 - j)).2
  unfold duR
  omega
theorem duC_bd {ms : List (List (List Int))} (h : Bd3 1048576 ms) (j : Nat) : duC ms j ≤ 1048576 := by
  unfold duC
  by_cases e : ms.length - 1 - j < ms.length
  · rw [getD_of_lt _ e]
    exact (h.2 _ (List.getElem_mem e)).1
  · rw [List.getD_eq_getElem?_getD, List.getElem?_eq_none (by omega)]
    simp
theorem DuAt.rc {w W : World} {p : Int} {ds : List Int} {ms : List (List (List Int))} {bd bm : Nat} (h : DuAt w W ds ms bd bm) (hd : ds.length ≤ 1048576) (hm : Bd3 1048576 ms) (hcx : IsCx p ds ms) :
    RcW w.heap.size W.heap.size W (.slice (some ⟨bd, 0, none⟩) ds.length ds.length) (.slice (some ⟨bm, 0, none⟩) ms.length ms.length) (dualD ds) (dualM ds ms) := by
  obtain ⟨hb, ⟨l1, l2, l3⟩, hdim, lo, bs, t1, t2, t3, t4⟩ := h
  have hml := hm.1
  have hlt := t3.lt
  have hfill : Fill3 W bm ms.length ms.length (duM bs (duR ds ms.length) ms.length) (fun j => if j < ms.length then bs j else W.heap.size) (dualM ds ms) := by
    refine ⟨t3, ?_, fun j hj => ?_, ?_, fun j hj hjk => ?_⟩
    · by_cases e : 0 < ms.length
      · simp only [if_pos e]
        have := t4.lo' 0 e
        omega
      · simp only [if_neg e]
        exact hlt
    · simp only [if_pos hj]
      by_cases e : j + 1 < ms.length
      · simp only [if_pos e]
        have := t4.inc j (j + 1) (by omega) e
        omega
      · simp only [if_neg e]
        have := t4.hi j hj
        omega
    · simp only [if_neg (Nat.lt_irrefl _)]
      exact Nat.le_refl _
    · rw [dualM_at]
      simp only [duM, if_pos hjk]
      refine Tb.rw2h (g := bs j) ⟨(t4.at' j hjk).top, (t4.at' j hjk).rows, t4.hi j hjk⟩ (Nat.le_refl _) ?_ (Nat.le_trans (duR_8 hcx j) (by omega)) (duC_bd hm j)
      by_cases e : j + 1 < ms.length
      · simp only [if_pos e]
        exact t4.inc j (j + 1) (by omega) e
      · simp only [if_neg e]
        exact t4.hi j hjk
  obtain ⟨q3, J, s3, n3, d3, z3⟩ := hfill.parts (dualM_length ds ms).symm hml
  obtain ⟨q1, I, s1, n1, b1, z1⟩ := row_rc (xs := dualD ds) hdim (dualD_length ds) (fun i hi => by
    have hi' : i < ds.length := by rw [dualD_length] at hi; exact hi
    simp [duD, dualD, hi']) hd l1
  refine ⟨⟨q1, q3.wider l2 (Nat.le_refl _)⟩, I, J, s1, s3.wider l2 (Nat.le_refl _), n1, n3.wider ?_ (Nat.le_refl _), d3, fun x hx y hy => Or.inl ?_, z1, z3⟩
  · by_cases e : 0 < ms.length
    · simp only [if_pos e]
      have := t4.lo' 0 e
      omega
    · simp only [if_neg e]
      omega
  · have h1 := b1 x hx
    have h2 := (n3 y hy).1
    have h3 := hdim.lt
    rw [h1]
    by_cases e : 0 < ms.length
    · simp only [if_pos e] at h2
      have := t4.lo' 0 e
      omega
    · simp only [if_neg e] at h2
      omega
open Classical in
/-- The code of a function of a complex alone. -/
noncomputable def coCode (p : Int) (ds : List Int) (ms : List (List (List Int))) : Int := if IsCx p ds ms then 0 else 1
theorem coCode_zero {p : Int} {ds : List Int} {ms : List (List (List Int))} (h : coCode p ds ms = 0) : IsCx p ds ms := by
  unfold coCode at h
  by_cases hc : IsCx p ds ms
  · exact hc
  · rw [if_neg hc] at h
    cases h
theorem dual_bd {p : Int} {ds : List Int} {ms : List (List (List Int))} (h : IsCx p ds ms) : CoB (p, dualD ds, dualM ds ms) := by
  have h1 := h.1.len1
  have h2 := h.1.mlen
  have hR := duR_8 h
  have hC : ∀ j, duC ms j ≤ 8 := fun j => by
    unfold duC
    by_cases e : ms.length - 1 - j < ms.length
    · have a1 := (h.1.tabs _ e).1
      have a2 := h.1.dim (ms.length - 1 - j + 1)
      omega
    · rw [List.getD_eq_getElem?_getD, List.getElem?_eq_none (by omega)]
      simp
  refine ⟨by show (dualD ds).length ≤ _; rw [dualD_length]; omega, by show (dualM ds ms).length ≤ _; rw [dualM_length]; omega, fun t ht => ?_⟩
  obtain ⟨j, hj, rfl⟩ := List.mem_map.1 (show t ∈ dualM ds ms from ht)
  have := hR j
  have := hC j
  refine ⟨by simp [tableOf]; omega, fun r hr => ?_⟩
  obtain ⟨i, hi, rfl⟩ := List.mem_map.1 (show r ∈ tableOf _ _ _ from hr)
  show List.length _ ≤ _
  rw [List.length_map, List.length_range]
  omega
def DualIs (p : Int) (ds : List Int) (ms : List (List (List Int))) (o : Co) : Prop := o = (p, dualD ds, dualM ds ms)

end Go.Proofs.Ytpdkfidmmjlmnab
