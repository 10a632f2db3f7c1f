/-
  Families of tables between two complexes: impl.isFamily, impl.checkFamilies on one family, by their contracts.
-/
import Derived.Test.YtpdkfidmmjlmnaaEnd
import Derived.Test.YtpdkfidmmjlmnaaEnb
import Derived.Deep.RegionHeld3
import Derived.BigRegion
import Derived.Deep.Cut
import Derived.Deep.CutRange
namespace Go.Proofs.Ytpdkfidmmjlmnaa
open Go.RowKit

/-- Tables are a family of the shift s. -/
def FamOk (p : Int) (ds ds2 : List Int) (s : Int) (fs : List (List (List Int))) : Prop := fs.length = ds.length ∧ ∀ n, n < fs.length → TabOk p (ds.getD n 0) (dimZ ds2 ((n : Int) + s)) (fs.getD n [])

open Classical in
/-- The code of two complexes and one family of the shift s. -/
noncomputable def famCode (p p2 s : Int) (ds : List Int) (ms : List (List (List Int))) (ds2 : List Int) (ms2 : List (List (List Int))) (fs : List (List (List Int))) : Int :=
  if endCode p p2 ds ms ds2 ms2 = 0 then (if FamOk p ds ds2 s fs then 0 else 2) else endCode p p2 ds ms ds2 ms2
theorem famCode_zero {p p2 s : Int} {ds : List Int} {ms : List (List (List Int))} {ds2 : List Int} {ms2 : List (List (List Int))} {fs : List (List (List Int))} (h : famCode p p2 s ds ms ds2 ms2 fs = 0) : EndOk p p2 ds ms ds2 ms2 ∧ FamOk p ds ds2 s fs := by
  unfold famCode at h
  by_cases h0 : endCode p p2 ds ms ds2 ms2 = 0
  · rw [if_pos h0] at h
    by_cases h1 : FamOk p ds ds2 s fs
    · exact ⟨endCode_zero h0, h1⟩
    · rw [if_neg h1] at h
      cases h
  · rw [if_neg h0] at h
    exact absurd h h0

end Go.Proofs.Ytpdkfidmmjlmnaa
