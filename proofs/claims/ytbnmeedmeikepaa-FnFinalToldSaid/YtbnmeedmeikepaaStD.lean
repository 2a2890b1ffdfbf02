/-
  Contracts of l2Hybrid, HybridTick and HybridMerge, of the model and of the program. No condition.
-/
import Derived.Test.YtbnmeedmeikepaaStC
namespace Go.Proofs.Ytbnmeedmeikepaa
open Go.RowKit

theorem ret_two {a b c d : Int} {p q : Bool} (h1 : a = c) (h2 : b = d) (h3 : p = q) : Ending.returned (.tuple #[two a b, .bool p]) = .returned (.tuple #[two c d, .bool q]) := by rw [h1, h2, h3]

end Go.Proofs.Ytbnmeedmeikepaa
