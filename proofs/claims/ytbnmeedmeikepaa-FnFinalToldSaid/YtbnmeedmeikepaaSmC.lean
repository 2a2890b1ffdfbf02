/-
  Contracts of StampMax, of the model and of the program: the greatest of 1 to 12 valid stamps, else nothing. No condition but lengths below 2^40.
-/
import Derived.Test.YtbnmeedmeikepaaSmB
namespace Go.Proofs.Ytbnmeedmeikepaa
open Go.RowKit

abbrev MaxPost (zs : List St) (w : World) : Ending → World → Prop := fun e w' => e = .returned (.tuple #[two (maxR zs).1 (maxR zs).2, .bool (maxOk zs)]) ∧ Below w.heap.size w w'

/-- the first place at which the function holds, or none -/
def IdxPost (m : St) (zs : List St) (w : World) (e : Ending) (w' : World) : Prop :=
  Below w.heap.size w w' ∧ ((∃ (k : Nat) (x : St), e = .returned (.int .i64 k) ∧ zs[k]? = some x ∧ ltS m x = true ∧ ∀ (j : Nat) (y : St), j < k → zs[j]? = some y → ltS m y = false) ∨
    (e = .returned (.int .i64 (-1)) ∧ ∀ (j : Nat) (y : St), zs[j]? = some y → ltS m y = false))

end Go.Proofs.Ytbnmeedmeikepaa
