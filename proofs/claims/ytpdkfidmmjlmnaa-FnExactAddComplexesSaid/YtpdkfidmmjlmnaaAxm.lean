/-
  Sums of complexes: what they are, and how one lies in memory.
-/
import Derived.Test.YtpdkfidmmjlmnaaSmt
import Derived.Test.YtpdkfidmmjlmnaaDuW
import Derived.Test.YtpdkfidmmjlmnaaP4
namespace Go.Proofs.Ytpdkfidmmjlmnaa
open Go.RowKit

def axT (ms ms2 : List (List (List Int))) : Nat := if ms.length < ms2.length then ms2.length else ms.length
def axd (ds ds2 : List Int) (n : Nat) : Int := ds.getD n 0 + ds2.getD n 0
def axt (ds : List Int) (ms : List (List (List Int))) (ds2 : List Int) (ms2 : List (List (List Int))) (k : Nat) : List (List Int) := sumT (tabN ms k) (ds.getD k 0).toNat (tabN ms2 k) (ds2.getD k 0).toNat
def axD (ds : List Int) (ms : List (List (List Int))) (ds2 : List Int) (ms2 : List (List (List Int))) : List Int := (List.range (axT ms ms2 + 1)).map (axd ds ds2)
def axM (ds : List Int) (ms : List (List (List Int))) (ds2 : List Int) (ms2 : List (List (List Int))) : List (List (List Int)) := (List.range (axT ms ms2)).map (axt ds ms ds2 ms2)
theorem axD_length (ds : List Int) (ms : List (List (List Int))) (ds2 : List Int) (ms2 : List (List (List Int))) : (axD ds ms ds2 ms2).length = axT ms ms2 + 1 := by simp [axD]
theorem axM_length (ds : List Int) (ms : List (List (List Int))) (ds2 : List Int) (ms2 : List (List (List Int))) : (axM ds ms ds2 ms2).length = axT ms ms2 := by simp [axM]
theorem dimZ_nat (ds : List Int) (n : Nat) : dimZ ds (n : Int) = ds.getD n 0 := by
  unfold dimZ
  by_cases h : 0 ≤ (n : Int) ∧ (n : Int) ≤ (ds.length : Int) - 1
  · rw [if_pos h, Int.toNat_natCast]
  · rw [if_neg h, List.getD_eq_getElem?_getD, List.getElem?_eq_none (by omega)]
    rfl
theorem ax_tab {p : Int} {ds : List Int} {ms : List (List (List Int))} (h : IsCx p ds ms) (k : Nat) : (tabN ms k).length ≤ 8 ∧ ∀ x ∈ tabN ms k, x.length = (ds.getD k 0).toNat := by
  unfold tabN
  by_cases hk : k < ms.length
  · have ht := h.tab hk
    have h1 := h.1.dim (k + 1)
    have h2 := h.1.dim k
    refine ⟨by have := ht.1; omega, fun x hx => ?_⟩
    have := (ht.2 x hx).1
    omega
  · rw [List.getD_eq_getElem?_getD, List.getElem?_eq_none (by omega)]
    exact ⟨by simp, fun x hx => by simp at hx⟩
open Classical in
/-- The code of a sum of complexes. -/
noncomputable def axCode (p : Int) (ds : List Int) (ms : List (List (List Int))) (p2 : Int) (ds2 : List Int) (ms2 : List (List (List Int))) : Int :=
  if ¬ (IsCx p ds ms ∧ IsCx p2 ds2 ms2) then 1 else if p ≠ p2 then 2 else if ∃ n, n < axT ms ms2 + 1 ∧ 8 < axd ds ds2 n then 3 else 0
structure AxOk (p : Int) (ds : List Int) (ms : List (List (List Int))) (p2 : Int) (ds2 : List Int) (ms2 : List (List (List Int))) : Prop where
  c : IsCx p ds ms
  c2 : IsCx p2 ds2 ms2
  prime : p = p2
  fit : ∀ n, n < axT ms ms2 + 1 → axd ds ds2 n ≤ 8
theorem axCode_zero {p : Int} {ds : List Int} {ms : List (List (List Int))} {p2 : Int} {ds2 : List Int} {ms2 : List (List (List Int))} (h : axCode p ds ms p2 ds2 ms2 = 0) : AxOk p ds ms p2 ds2 ms2 := by
  unfold axCode at h
  by_cases h1 : IsCx p ds ms ∧ IsCx p2 ds2 ms2
  · rw [if_neg (fun k => k h1)] at h
    by_cases h2 : p = p2
    · rw [if_neg (fun k => k h2)] at h
      by_cases h3 : ∃ n, n < axT ms ms2 + 1 ∧ 8 < axd ds ds2 n
      · rw [if_pos h3] at h; cases h
      · exact ⟨h1.1, h1.2, h2, fun n hn => Int.not_lt.1 (fun hh => h3 ⟨n, hn, hh⟩)⟩
    · rw [if_pos h2] at h; cases h
  · rw [if_pos h1] at h; cases h
theorem AxOk.code {p : Int} {ds : List Int} {ms : List (List (List Int))} {p2 : Int} {ds2 : List Int} {ms2 : List (List (List Int))} (h : AxOk p ds ms p2 ds2 ms2) : axCode p ds ms p2 ds2 ms2 = 0 := by
  unfold axCode
  rw [if_neg (fun k => k ⟨h.c, h.c2⟩), if_neg (fun k => k h.prime), if_neg (fun ⟨n, hn, hh⟩ => by have := h.fit n hn; omega)]
def axOut (p : Int) (ds : List Int) (ms : List (List (List Int))) (_p2 : Int) (ds2 : List Int) (ms2 : List (List (List Int))) : Co := (p, axD ds ms ds2 ms2, axM ds ms ds2 ms2)
theorem ax_bd {p : Int} {ds : List Int} {ms : List (List (List Int))} {p2 : Int} {ds2 : List Int} {ms2 : List (List (List Int))} (h : AxOk p ds ms p2 ds2 ms2) : CoB (axOut p ds ms p2 ds2 ms2) := by
  have h1 := h.c.1.len1
  have h2 := h.c.1.mlen
  have h3 := h.c2.1.len1
  have h4 := h.c2.1.mlen
  have hT : axT ms ms2 ≤ 8 := by unfold axT; split <;> omega
  refine ⟨by show (axD ds ms ds2 ms2).length ≤ _; rw [axD_length]; omega, by show (axM ds ms ds2 ms2).length ≤ _; rw [axM_length]; omega, fun t ht => ?_⟩
  obtain ⟨k, hk, rfl⟩ := List.mem_map.1 (show t ∈ axM ds ms ds2 ms2 from ht)
  have a1 := ax_tab h.c k
  have a2 := ax_tab h.c2 k
  have a3 := h.c.1.dim k
  have a4 := h.c2.1.dim k
  refine ⟨by unfold axt; rw [sumT_length]; omega, fun x hx => ?_⟩
  show x.length ≤ _
  have hx' : x ∈ sumT (tabN ms k) (ds.getD k 0).toNat (tabN ms2 k) (ds2.getD k 0).toNat := hx
  unfold sumT at hx'
  rcases List.mem_append.1 hx' with hh | hh
  · obtain ⟨y, hy, rfl⟩ := List.mem_map.1 hh
    have := a1.2 y hy
    simp only [List.length_append, List.length_replicate]
    omega
  · obtain ⟨y, hy, rfl⟩ := List.mem_map.1 hh
    have := a2.2 y hy
    simp only [List.length_append, List.length_replicate]
    omega
/-- The list of dimensions, k of them laid. -/
def axF (ds ds2 : List Int) (k : Nat) : Nat → Value := fun j => .int .i64 (if j < k then axd ds ds2 j else 0)
theorem axF_step (ds ds2 : List Int) (k : Nat) {x : Int} (hx : x = axd ds ds2 k) : ∀ j, (if j = k then Value.int .i64 x else axF ds ds2 k j) = axF ds ds2 (k + 1) j := by
  intro j
  by_cases e : j = k
  · subst e
    rw [if_pos rfl, axF, if_pos (Nat.lt_succ_self _), hx]
  · rw [if_neg e]
    simp only [axF]
    by_cases h2 : j < k
    · rw [if_pos h2, if_pos (by omega)]
    · rw [if_neg h2, if_neg (by omega)]
theorem ax_rc {w W : World} {ds : List Int} {ms : List (List (List Int))} {ds2 : List Int} {ms2 : List (List (List Int))} {bd bm n m : Nat} {f : Nat → Value} {b : Nat → Nat} (hm : m = axT ms ms2) (hn : n = m + 1) (hb : n ≤ 1048576)
    (hdim : W.rowIs bd 2 n (axF ds ds2 n)) (hfill : Fill3 W bm m m f b (axM ds ms ds2 ms2)) (l1 : w.heap.size ≤ bd) (l2 : w.heap.size ≤ bm) (l3 : bd < b 0) :
    RcW w.heap.size W.heap.size W (.slice (some ⟨bd, 0, none⟩) n n) (.slice (some ⟨bm, 0, none⟩) m m) (axD ds ms ds2 ms2) (axM ds ms ds2 ms2) := by
  obtain ⟨q3, J, s3, n3, d3, z3⟩ := hfill.parts (by rw [axM_length]; exact hm) (by omega)
  obtain ⟨q1, I, s1, n1, b1, z1⟩ := row_rc (xs := axD ds ms ds2 ms2) hdim (by rw [axD_length]; omega) (fun i hi => by
    have hi' : i < n := by rw [axD_length] at hi; omega
    simp [axF, axD, hi']) hb l1
  refine ⟨⟨q1, q3.wider l2 (Nat.le_refl _)⟩, I, J, s1, s3.wider l2 (Nat.le_refl _), n1, n3.wider ?_ (Nat.le_refl _), d3, fun x hx y hy => Or.inl ?_, z1, z3⟩
  · omega
  · have h1 := b1 x hx
    have h2 := (n3 y hy).1
    rw [h1]
    omega
theorem ax_max (ms ms2 : List (List (List Int))) {n n2 : Nat} (h : n = ms.length + 1) (h2 : n2 = ms2.length + 1) : max ((n : Int) - 1) ((n2 : Int) - 1) = (axT ms ms2 : Int) := by
  unfold axT
  by_cases e : ms.length < ms2.length
  · rw [if_pos e]
    omega
  · rw [if_neg e]
    omega
end Go.Proofs.Ytpdkfidmmjlmnaa
