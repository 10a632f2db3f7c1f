/-
  spec.l02Basis and PageBasis of the model by contracts.
-/
import Derived.Test.YtaaficdlckcgkaaLes
import Derived.Test.YtaaficdlckcgkaaPba
namespace Go.Proofs.Ytaaficdlckcgkaa
open Go.RowKit

end Go.Proofs.Ytaaficdlckcgkaa
