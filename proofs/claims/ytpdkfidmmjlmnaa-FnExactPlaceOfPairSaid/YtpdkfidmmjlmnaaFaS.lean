/-
  Families in the model: spec.l04Family, l04Code on one family, l04Vector, l04Image, by their contracts.
-/
import Derived.Test.YtpdkfidmmjlmnaaFam
import Derived.Test.YtpdkfidmmjlmnaaMeet
namespace Go.Proofs.Ytpdkfidmmjlmnaa
open Go.RowKit

end Go.Proofs.Ytpdkfidmmjlmnaa
