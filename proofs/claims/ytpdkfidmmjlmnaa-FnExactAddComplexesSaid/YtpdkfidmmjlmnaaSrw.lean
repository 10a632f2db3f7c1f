/-
  A store of a whole row outside a span.
-/
import Derived.Test.YtpdkfidmmjlmnaaStx
namespace Go.Proofs.Ytpdkfidmmjlmnaa
open Go.RowKit
theorem Same.setRow {lo hi g : Nat} {w : World} (x : Array Value) (h : g < lo ∨ hi ≤ g) : Same lo hi w (w.setRow g x) := fun b hl hb => setRow_other w g b x (by omega)
end Go.Proofs.Ytpdkfidmmjlmnaa
