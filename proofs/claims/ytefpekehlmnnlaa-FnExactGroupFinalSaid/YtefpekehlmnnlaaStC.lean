/-
  Contracts of StampLess and HybridLess, of the model and of the program; the program's order of function values. No condition.
-/
import Derived.Test.YtefpekehlmnnlaaStB
namespace Go.Proofs.Ytefpekehlmnnlaa
open Go.RowKit

end Go.Proofs.Ytefpekehlmnnlaa
