/-
  Families in the model: spec.l04Family, l04Code on one family, l04Vector, l04Image, by their contracts.
-/
import Derived.Test.YtiokagnolbddlaaFam
import Derived.Test.YtiokagnolbddlaaMeet
namespace Go.Proofs.Ytiokagnolbddlaa
open Go.RowKit

end Go.Proofs.Ytiokagnolbddlaa
