/-
  What the frames of laws over a slice of slices of ints need: the reading of such an argument, opened.
-/
import Derived.Test.YthnkilacknoklaaLl
import Derived.Deep.Matrix
import Derived.ProofKit
import Derived.OpenShut
namespace Go.Proofs.Ythnkilacknoklaa
open Go.RowKit

/-- a slice of slices of ints that came in -/
def RowsIs (w : World) (a : Option Addr) (len : Nat) (zss : List (List Int)) : Prop :=
  RdL w w.heap.size a len zss ∧ len ≤ maxLen ∧ ∀ i, i < len → (zss.getD i []).length ≤ maxLen

theorem RowsIs.none_ (w : World) : RowsIs w none 0 [] := ⟨⟨rfl, fun i hi => absurd hi (by omega)⟩, by decide, fun i hi => absurd hi (by omega)⟩

theorem RowsIs.some_ {w : World} {a : Addr} {len cap : Nat} {A : Nat → Option Addr} {L C : Nat → Nat} {Z : Nat → List Int} (hl : len ≤ cap) (hm : cap ≤ maxLen)
    (h : ∀ r, r < cap → w.cell? (a.add r) = some (.slice (A r) (L r) (C r)) ∧ L r ≤ C r ∧ C r ≤ maxLen ∧ (Z r).length = C r ∧ (∀ n ∈ Z r, (Lit.int .i64 n).wf = true) ∧ (A r = none → C r = 0) ∧
        ∀ a', A r = some a' → (0 : Nat) ≤ a'.block ∧ ∀ c, c < C r → w.cell? (a'.add c) = some (.int .i64 ((Z r).getD c 0))) :
    RowsIs w (some a) len ((List.range len).map fun r => (Z r).take (L r)) := by
  have get : ∀ i, i < len → ((List.range len).map fun r => (Z r).take (L r)).getD i [] = (Z i).take (L i) := by
    intro i hi; simp [hi]
  have lens : ∀ i, i < len → ((Z i).take (L i)).length = L i := by
    intro i hi
    obtain ⟨_, h1, _, h2, _⟩ := h i (by omega)
    rw [List.length_take]; omega
  refine ⟨⟨by simp, fun i hi => ?_⟩, by omega, fun i hi => ?_⟩
  · obtain ⟨hc, h1, h2, h3, h4, h5, h6⟩ := h i (by omega)
    have hb : a.block < w.heap.size := by have := World.block_lt_of_cell? w _ hc; rwa [block_of_add] at this
    refine ⟨a, A i, C i, rfl, hb, ?_, ?_⟩
    · rw [get i hi, lens i hi]; exact hc
    · rw [get i hi, lens i hi]
      refine ⟨by simpa [ints] using lens i hi, fun hn => ?_⟩
      cases hA : A i with
      | none => have := h5 hA; omega
      | some a' =>
        obtain ⟨_, hcc⟩ := h6 a' hA
        refine ⟨a', rfl, ?_, fun j u hu => ?_⟩
        · have := World.block_lt_of_cell? w _ (hcc 0 (by omega))
          rwa [block_of_add] at this
        · have hj : j < L i := by
            have := (List.getElem?_eq_some_iff.1 hu).1
            rw [ints, List.length_map, lens i hi] at this; exact this
          have hjz : j < (Z i).length := by omega
          rw [hcc j (by omega), ← hu]
          simp [ints, hj, hjz]
  · obtain ⟨_, h1, h2, _⟩ := h i (by omega)
    rw [get i hi, lens i hi]; omega

end Go.Proofs.Ythnkilacknoklaa
