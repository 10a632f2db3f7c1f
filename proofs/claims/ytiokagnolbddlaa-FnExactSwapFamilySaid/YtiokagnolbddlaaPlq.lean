/-
  spec.PlaceOfPair by contract.
-/
import Derived.Test.YtiokagnolbddlaaPls
import Derived.Test.YtiokagnolbddlaaPlp
import Derived.Test.YtiokagnolbddlaaTdm
namespace Go.Proofs.Ytiokagnolbddlaa
open Go.RowKit

theorem pl_mem {ds ds2 : List Int} {i a j b : Int} : (((i, a), (j, b)) : PV) ∈ tsA (bsL ds ds.length) (bsL ds2 ds2.length) (bsL ds ds.length).length ↔ (0 ≤ i ∧ i ≤ (ds.length : Int) - 1) ∧ (0 ≤ a ∧ a ≤ dimZ ds i - 1) ∧ (0 ≤ j ∧ j ≤ (ds2.length : Int) - 1) ∧ (0 ≤ b ∧ b ≤ dimZ ds2 j - 1) := by
  rw [tsA_mem]
  simp only [bsL_iff]
  have e1 : 0 ≤ i ∧ i < (ds.length : Int) → dimZ ds i = ds.getD i.toNat 0 := fun h => by unfold dimZ; rw [if_pos ⟨h.1, by omega⟩]
  have e2 : 0 ≤ j ∧ j < (ds2.length : Int) → dimZ ds2 j = ds2.getD j.toNat 0 := fun h => by unfold dimZ; rw [if_pos ⟨h.1, by omega⟩]
  constructor
  · rintro ⟨⟨h1, h2, h3, h4⟩, h5, h6, h7, h8⟩
    rw [e1 ⟨h1, h2⟩, e2 ⟨h5, h6⟩]
    omega
  · rintro ⟨⟨h1, h2⟩, ⟨h3, h4⟩, ⟨h5, h6⟩, h7, h8⟩
    rw [e1 ⟨h1, by omega⟩] at h4
    rw [e2 ⟨h5, by omega⟩] at h8
    omega

end Go.Proofs.Ytiokagnolbddlaa
