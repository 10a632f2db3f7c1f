/-
  impl.PlaceOfPair by contract.
-/
import Derived.Test.YtiokagnolbddlaaTno
import Derived.Test.YtiokagnolbddlaaEnd
import Derived.Maps.OwnOps
import Derived.Maps.OwnSet
namespace Go.Proofs.Ytiokagnolbddlaa
open Go.RowKit

/-- What PlaceOfPair answers for the pair q. -/
structure PlO (p p2 : Int) (ds : List Int) (ms : List (List (List Int))) (ds2 : List Int) (ms2 : List (List (List Int))) (q : PV) (x c : Int) : Prop where
  good : prCode p p2 ds ms ds2 ms2 = 0 → q ∈ tsA (bsL ds ds.length) (bsL ds2 ds2.length) (bsL ds ds.length).length → x = (plc (tsA (bsL ds ds.length) (bsL ds2 ds2.length) (bsL ds ds.length).length) q : Int) ∧ c = 0
  range : prCode p p2 ds ms ds2 ms2 = 0 → q ∉ tsA (bsL ds ds.length) (bsL ds2 ds2.length) (bsL ds ds.length).length → x = 0 ∧ c = 2
  bad : prCode p p2 ds ms ds2 ms2 ≠ 0 → x = 0 ∧ c = prCode p p2 ds ms ds2 ms2
theorem PlO.unique {p p2 : Int} {ds : List Int} {ms : List (List (List Int))} {ds2 : List Int} {ms2 : List (List (List Int))} {q : PV} {x c y d : Int} (h : PlO p p2 ds ms ds2 ms2 q x c) (k : PlO p p2 ds ms ds2 ms2 q y d) : x = y ∧ c = d := by
  by_cases h0 : prCode p p2 ds ms ds2 ms2 = 0
  · by_cases hq : q ∈ tsA (bsL ds ds.length) (bsL ds2 ds2.length) (bsL ds ds.length).length
    · obtain ⟨a, b⟩ := h.good h0 hq
      obtain ⟨a', b'⟩ := k.good h0 hq
      exact ⟨a.trans a'.symm, b.trans b'.symm⟩
    · obtain ⟨a, b⟩ := h.range h0 hq
      obtain ⟨a', b'⟩ := k.range h0 hq
      exact ⟨a.trans a'.symm, b.trans b'.symm⟩
  · obtain ⟨a, b⟩ := h.bad h0
    obtain ⟨a', b'⟩ := k.bad h0
    exact ⟨a.trans a'.symm, b.trans b'.symm⟩

end Go.Proofs.Ytiokagnolbddlaa
