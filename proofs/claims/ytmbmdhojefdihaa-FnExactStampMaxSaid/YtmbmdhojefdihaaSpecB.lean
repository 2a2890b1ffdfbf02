/-
  Contracts of readers whose tests draw their order: sameInts, eqIntS, spec.GroupsValid. No condition but lengths below 2^40.
-/
import Derived.Test.YtmbmdhojefdihaaSpecA
namespace Go.Proofs.Ytmbmdhojefdihaa
open Go.RowKit

/-- are two lists of ints equal? -/
def sameB (xs ys : List Int) : Bool := decide (xs = ys)

theorem sameB_len {xs ys : List Int} (h : xs.length ≠ ys.length) : sameB xs ys = false := by
  simp only [sameB, decide_eq_false_iff_not]; intro e; exact h (by rw [e])

theorem sameB_miss {xs ys : List Int} {k : Nat} (h : xs.getD k 0 ≠ ys.getD k 0) : sameB xs ys = false := by
  simp only [sameB, decide_eq_false_iff_not]; intro e; exact h (by rw [e])

theorem sameB_all {xs ys : List Int} (hl : xs.length = ys.length) (h : ∀ i, i < xs.length → xs.getD i 0 = ys.getD i 0) : sameB xs ys = true := by
  simp only [sameB, decide_eq_true_eq]
  apply List.ext_getElem hl
  intro i h1 h2
  have := h i h1
  simpa [h1, h2] using this

end Go.Proofs.Ytmbmdhojefdihaa
