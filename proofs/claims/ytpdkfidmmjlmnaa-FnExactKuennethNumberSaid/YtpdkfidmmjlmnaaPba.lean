/-
  PageBasis: the program's side by its contract.
-/
import Derived.Test.YtpdkfidmmjlmnaaBos
import Derived.Test.YtpdkfidmmjlmnaaHom
namespace Go.Proofs.Ytpdkfidmmjlmnaa
open Go.RowKit

/-- The space that a page's basis spans. -/
def PgS (p : Int) (ds : List Int) (ms : List (List (List Int))) (ls : List (List Int)) (k : Nat) (r q : Int) (v : Lin.V) : Prop :=
  ∃ C B, SpF p (dimN ds (k : Int)) (ZcD p ds ms ls k q (q - r)) C ∧ SpF p (dimN ds (k : Int)) (BotS p ds ms ls k r q) B ∧ Lin.Sp p (C ++ B) v ∧ ∀ w ∈ B, v (Lin.ld w) = 0
theorem pgS_of {p : Int} (hp : 1 < p) {ds : List Int} {ms : List (List (List Int))} {ls : List (List Int)} {k : Nat} {r q : Int} {C B tt R : List Lin.V} (hC : SpF p (dimN ds (k : Int)) (ZcD p ds ms ls k q (q - r)) C) (hB : SpF p (dimN ds (k : Int)) (BotS p ds ms ls k r q) B)
    (hT : RestsOf p (dimN ds (k : Int)) B C tt) (hl : tt.length = C.length) (hR : Lin.Red p R) (he : Lin.Eqv p R tt) : SpF p (dimN ds (k : Int)) (PgS p ds ms ls k r q) R := by
  refine ⟨hR, fun u hu => Lin.Sp.wd hT.wd ((he u).1 (Lin.Sp.mem hu (hR.md u hu))), fun v => ?_⟩
  rw [he v, rests_sp hp hB.1 hT hl v]
  constructor
  · exact fun h => ⟨C, B, hC, hB, h⟩
  · rintro ⟨C', B', hC', hB', h⟩
    have e1 : C = C' := hC.unique' hp hC'
    have e2 : B = B' := hB.unique' hp hB'
    subst e1 e2
    exact h

end Go.Proofs.Ytpdkfidmmjlmnaa
