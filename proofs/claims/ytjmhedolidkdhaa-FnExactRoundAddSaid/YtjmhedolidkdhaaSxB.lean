/-
  The walks of the exact laws of StampLess and HybridLess. No condition.
-/
import Derived.Test.YtjmhedolidkdhaaSxA
import Derived.Test.YtjmhedolidkdhaaAt2
import Derived.Deep.RegionHeld3
namespace Go.Proofs.Ytjmhedolidkdhaa
open Go.RowKit

theorem At2.four {w : World} {b c : Nat} {T U : TypeId} {x y z u : Int} (h : At2 w b T x y) (k : At2 w c U z u) :
    w.cell? ⟨b, 0, none⟩ = some (.int .i64 x) ∧ w.cell? ⟨b, 1, none⟩ = some (.int .i64 y) ∧ w.cell? ⟨c, 0, none⟩ = some (.int .i64 z) ∧ w.cell? ⟨c, 1, none⟩ = some (.int .i64 u) := ⟨h.c0, h.c1, k.c0, k.c1⟩

end Go.Proofs.Ytjmhedolidkdhaa
