/-
  Dimensions of tensor products, told by both sides.
-/
import Derived.Test.YtpdkfidmmjlmnabP4
import Derived.Test.YtpdkfidmmjlmnabRw
import Derived.Test.YtpdkfidmmjlmnabApw
import Derived.Test.YtpdkfidmmjlmnabStx
import Derived.Test.YtpdkfidmmjlmnabVal
import Derived.Test.YtpdkfidmmjlmnabRc
import Derived.Test.YtpdkfidmmjlmnabHld
namespace Go.Proofs.Ytpdkfidmmjlmnab
open Go.RowKit

/-- The sum of the first k products of a dimension of the one and one of the other. -/
def tdS (ds ds2 : List Int) (n : Nat) : Nat → Int
  | 0 => 0
  | k + 1 => tdS ds ds2 n k + dimZ ds (k : Int) * dimZ ds2 ((n : Int) - (k : Int))
def tdN (ds ds2 : List Int) (n : Nat) : Int := tdS ds ds2 n (n + 1)
def tdL (ds ds2 : List Int) : Nat := ds.length + ds2.length - 1
def tdD (ds ds2 : List Int) : List Int := (List.range (tdL ds ds2)).map (tdN ds ds2)
theorem tdD_length (ds ds2 : List Int) : (tdD ds ds2).length = tdL ds ds2 := by simp [tdD]
theorem tdS_past {ds ds2 : List Int} {n a : Nat} (h : ∀ k : Nat, a ≤ k → dimZ ds (k : Int) * dimZ ds2 ((n : Int) - (k : Int)) = 0) : ∀ d, tdS ds ds2 n (a + d) = tdS ds ds2 n a
  | 0 => rfl
  | d + 1 => by
    rw [← Nat.add_assoc, tdS, tdS_past h d, h (a + d) (by omega), Int.add_zero]
theorem dimZ_past {ds : List Int} {k : Nat} (h : ds.length ≤ k) : dimZ ds (k : Int) = 0 := by
  unfold dimZ
  rw [if_neg (by omega)]
theorem dimZ_neg {ds : List Int} {n : Int} (h : n < 0) : dimZ ds n = 0 := by
  unfold dimZ
  rw [if_neg (by omega)]
theorem dimZ_out {ds : List Int} {n : Int} (h : ¬ (0 ≤ n ∧ n ≤ (ds.length : Int) - 1)) : dimZ ds n = 0 := if_neg h
theorem dimZ_in {ds : List Int} {n : Int} {k : Nat} (e : n = (k : Int)) (h : k < ds.length) : dimZ ds n = ds[k] := by
  unfold dimZ
  rw [if_pos (by omega), e, Int.toNat_natCast, getD_of_lt _ h]
theorem tdS_full (ds ds2 : List Int) (n : Nat) : tdS ds ds2 n ds.length = tdN ds ds2 n := by
  unfold tdN
  by_cases h : ds.length ≤ n + 1
  · obtain ⟨d, hd⟩ := Nat.exists_eq_add_of_le h
    rw [hd, tdS_past (fun k hk => by rw [dimZ_past hk, Int.zero_mul])]
  · obtain ⟨d, hd⟩ := Nat.exists_eq_add_of_le (show n + 1 ≤ ds.length by omega)
    rw [hd, tdS_past (fun k hk => by rw [dimZ_neg (ds := ds2) (by omega), Int.mul_zero])]
theorem td_term {ds ds2 : List Int} (h : ∀ n, 0 ≤ dimZ ds n ∧ dimZ ds n ≤ 8) (h2 : ∀ n, 0 ≤ dimZ ds2 n ∧ dimZ ds2 n ≤ 8) (a b : Int) : 0 ≤ dimZ ds a * dimZ ds2 b ∧ dimZ ds a * dimZ ds2 b ≤ 64 :=
  ⟨Int.mul_nonneg (h a).1 (h2 b).1, by have := Int.mul_le_mul (h a).2 (h2 b).2 (h2 b).1 (by omega : (0 : Int) ≤ 8); omega⟩
theorem tdS_bd {ds ds2 : List Int} (h : ∀ n, 0 ≤ dimZ ds n ∧ dimZ ds n ≤ 8) (h2 : ∀ n, 0 ≤ dimZ ds2 n ∧ dimZ ds2 n ≤ 8) (n : Nat) : ∀ k : Nat, 0 ≤ tdS ds ds2 n k ∧ tdS ds ds2 n k ≤ 64 * k
  | 0 => by simp [tdS]
  | k + 1 => by
    have a := tdS_bd h h2 n k
    have b := td_term h h2 (k : Int) ((n : Int) - (k : Int))
    rw [tdS]
    omega

/-- The dimensions of a product in memory of their own. -/
def TdR (ds ds2 : List Int) (w : World) (e : Ending) (w' : World) : Prop := ∃ u, e = .returned u ∧ Rw1 w.heap.size w'.heap.size w' u (tdD ds ds2) ∧ Below w.heap.size w w'

open Classical in
noncomputable def tdCode (p p2 : Int) (ds : List Int) (ms : List (List (List Int))) (ds2 : List Int) (ms2 : List (List (List Int))) : Int := prCode p p2 ds ms ds2 ms2
theorem tdD_bd {p p2 : Int} {ds : List Int} {ms : List (List (List Int))} {ds2 : List Int} {ms2 : List (List (List Int))} (h : PrOk p p2 ds ms ds2 ms2) : (tdD ds ds2).length ≤ 1048576 := by
  have := h.x.1.len1
  have := h.y.1.len1
  rw [tdD_length]
  unfold tdL
  omega

/-- The dimensions as the model gathers them. -/
def TdG (ds ds2 : List Int) (w : World) (e : Ending) (w' : World) : Prop := ∃ u, e = .returned u ∧ Gb w.heap.size w' u (tdD ds ds2) ∧ Below w.heap.size w w'

end Go.Proofs.Ytpdkfidmmjlmnab
