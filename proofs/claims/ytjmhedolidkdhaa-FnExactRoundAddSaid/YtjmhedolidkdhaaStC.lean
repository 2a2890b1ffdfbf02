/-
  Contracts of StampLess and HybridLess, of the model and of the program; the program's order of function values. No condition.
-/
import Derived.Test.YtjmhedolidkdhaaStB
namespace Go.Proofs.Ytjmhedolidkdhaa
open Go.RowKit

end Go.Proofs.Ytjmhedolidkdhaa
