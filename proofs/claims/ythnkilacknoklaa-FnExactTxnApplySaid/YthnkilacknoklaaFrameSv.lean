/-
  What the frames of laws over transactions need: the reading of such an argument, opened.
-/
import Derived.Test.YthnkilacknoklaaSvB
import Derived.Deep.Slices
import Derived.Lib.SmallJoins
import Derived.ProofKit
import Derived.OpenShut
import Derived.ChangeSlices
import Derived.Deep.SlicePairs
namespace Go.Proofs.Ythnkilacknoklaa
open Go.RowKit Go.Deep Go.ChangeShapes Go.WideShapes Go.Joins
set_option linter.unusedSimpArgs false
set_option linter.unusedVariables false

theorem open_gsT {H : Type} {enc : TypeId × Value → H} {w : World} {base : Nat} {spare : Nat → Bool} {held : Bool} {fuel : Nat} {v : Value} {x : DataW H × List MemPlace} (h : DataW.trod enc Try.prog w base spare held fuel 22 [v] = some x) :
    ∃ A n c zs, v = .slice A n c ∧ RdI w w.heap.size A n zs ∧ n ≤ maxLen := by
  rcases open_ints Try.underlying22 Try.underlying3 (by kernel_rfl) h with ⟨hcs, _⟩ | ⟨a, len, cap, zs, hcs, _, hl, hm, hz, _, hcell, hwz⟩
  · injection hcs with hcs
    exact ⟨none, 0, 0, [], hcs, Reads.none_, by decide⟩
  · injection hcs with hcs
    have hlm : len ≤ zs.length := by rw [hz]; split <;> omega
    refine ⟨some a, len, cap, zs.take len, hcs, ⟨by simp [ints]; omega, fun hn => ⟨a, rfl, ?_, fun j u hu => ?_⟩⟩, by omega⟩
    · have := World.block_lt_of_cell? w _ (hcell 0 (by omega))
      rwa [block_of_add] at this
    · have hj : j < len := by
        have := (List.getElem?_eq_some_iff.1 hu).1
        simp [ints] at this; omega
      rw [hcell j (by omega), ← hu]
      have : j < zs.length := by omega
      simp [ints, hj, this]

theorem open_putsT {H : Type} {enc : TypeId × Value → H} {w : World} {base : Nat} {spare : Nat → Bool} {held : Bool} {fuel : Nat} {v : Value} {y : DataW H × List MemPlace} (h : DataW.trod enc Try.prog w base spare held fuel 26 [v] = some y) :
    ∃ A n c zs, v = .slice A n c ∧ RdPA w A n zs ∧ n ≤ maxLen := by
  rcases open_slice_pairs Try.underlying26 Try.underlying92 (by kernel_rfl) rfl rfl (by kernel_rfl) (by kernel_rfl) h with ⟨hcs, _⟩ | ⟨x, l, c, m, n, V0, V1, D0, D1, P0, P1, hcs, _, hl, hm, hmm, _, hi⟩
  · injection hcs with hcs
    exact ⟨none, 0, 0, [], hcs, ⟨rfl, fun h => absurd h (by omega)⟩, by decide⟩
  · injection hcs with hcs
    have hlm : l ≤ m := by rw [hmm]; split <;> omega
    obtain ⟨zs, hz⟩ := RdPA.of_pairs (w := w) (x := x) (n := l) (fun i hin => by
      obtain ⟨e0, e1, t0, t1⟩ := hi i (by omega)
      obtain ⟨n0, f0, _, _⟩ := DataW.trod_int Try.underlying3 t0
      obtain ⟨n1, f1, _, _⟩ := DataW.trod_int Try.underlying3 t1
      simp at f0 f1
      exact ⟨n0, n1, by rw [e0, f0], by rw [e1, f1]⟩)
    exact ⟨some x, l, c, zs, hcs, hz, by omega⟩
end Go.Proofs.Ythnkilacknoklaa
