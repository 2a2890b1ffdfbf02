/-
  The walks of the exact laws of GroupsValid, GroupsCommon, GroupsUnion: the law returns true and writes nothing that was there. No condition.
-/
import Derived.Test.YtbnmeedmeikepaaOwn
import Derived.Test.YtbnmeedmeikepaaImplA
namespace Go.Proofs.Ytbnmeedmeikepaa
open Go.RowKit

/-- what the frame tells of a slice of ints that came in -/
def RowIs (k : IntKind) (w : World) (a : Option Addr) (len cap : Nat) (zs : List Int) : Prop :=
  (a = none ∧ len = 0 ∧ cap = 0 ∧ zs = []) ∨
  ∃ x, a = some x ∧ len ≤ cap ∧ cap ≤ maxLen ∧ zs.length = cap ∧ (∀ i, i < zs.length → w.cell? (x.add i) = some (.int k (zs.getD i 0))) ∧ ∀ n ∈ zs, (Lit.int k n).wf = true

theorem RowIs.rd {w : World} {a : Option Addr} {len cap : Nat} {zs : List Int} (h : RowIs .i64 w a len cap zs) : RdI w w.heap.size a len (zs.take len) ∧ len ≤ maxLen := by
  rcases h with ⟨rfl, rfl, rfl, rfl⟩ | ⟨x, rfl, hl, hm, hz, hc, _⟩
  · exact ⟨Reads.none_, by decide⟩
  · have h1 : (zs.take len).length = len := by rw [List.length_take]; omega
    refine ⟨⟨by simpa [ints] using h1, fun hn => ⟨x, rfl, ?_, fun j u hu => ?_⟩⟩, by omega⟩
    · have := World.block_lt_of_cell? w (x.add 0) (hc 0 (by omega))
      rwa [block_of_add] at this
    · have hj : j < len := by
        have := (List.getElem?_eq_some_iff.1 hu).1
        rw [ints, List.length_map, h1] at this; exact this
      rw [hc j (by omega), ← hu]
      have h2 : j < zs.length := by omega
      simp [ints, hj, h2]

end Go.Proofs.Ytbnmeedmeikepaa
