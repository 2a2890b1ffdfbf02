/-
  Contracts of the model's functions of sets that make lists: l1Union, spec.GroupsCommon, spec.GroupsUnion. No condition but lengths below 2^40.
-/
import Derived.Test.YtbnmeedmeikepaaSpecB
namespace Go.Proofs.Ytbnmeedmeikepaa
open Go.RowKit

end Go.Proofs.Ytbnmeedmeikepaa
