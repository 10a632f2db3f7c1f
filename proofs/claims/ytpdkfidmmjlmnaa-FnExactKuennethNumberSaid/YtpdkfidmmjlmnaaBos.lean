/-
  The bottom in the model: spec.l02Bottom by its contract; BottomOf of both sides, page numbers of both sides.
-/
import Derived.Test.YtpdkfidmmjlmnaaBim
namespace Go.Proofs.Ytpdkfidmmjlmnaa
open Go.RowKit

theorem haddI {a b : Int} (h0 : -1000 ≤ a + b) (h1 : a + b ≤ 1000) (w : World) : (binOp .add 2 (.int .i64 a) (.int .i64 b)).run Try.prog w = .ok (.int .i64 (a + b)) w := by
  have hw : IntKind.i64.wrap (a + b) = a + b := IntWalk.i64_in _ (by omega)
  go_simp

end Go.Proofs.Ytpdkfidmmjlmnaa
