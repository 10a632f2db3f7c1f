/-
  impl.checkEnds on two complexes by its contract (on top of checkPrimes, since ba45f756).
-/
import Derived.Test.YthfcadgbipnemaaEnd
namespace Go.Proofs.Ythfcadgbipnemaa
open Go.RowKit

theorem endCode_of_pr {p p2 : Int} {ds : List Int} {ms : List (List (List Int))} {ds2 : List Int} {ms2 : List (List (List Int))} (h : prCode p p2 ds ms ds2 ms2 ≠ 0) : endCode p p2 ds ms ds2 ms2 = prCode p p2 ds ms ds2 ms2 := by
  unfold prCode at h ⊢
  unfold endCode
  by_cases h1 : IsCx p ds ms ∧ IsCx p2 ds2 ms2
  · have h1' : ¬ ¬ (IsCx p ds ms ∧ IsCx p2 ds2 ms2) := fun k => k h1
    simp only [if_neg h1'] at h ⊢
    by_cases h2 : p = p2
    · exact absurd (if_pos h2) h
    · rw [if_neg (fun k => h2 k.1), if_neg h2]
  · rw [if_pos h1, if_pos h1]

end Go.Proofs.Ythfcadgbipnemaa
