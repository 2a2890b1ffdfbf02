/-
  What the frames of laws over credits need: the reading of such an argument, opened.
-/
import Derived.Test.YtgeihcbiahnnaaaCxA
import Derived.Deep.Slices
import Derived.Lib.SmallJoins
import Derived.ProofKit
import Derived.OpenShut
import Derived.ChangeSlices
namespace Go.Proofs.Ytgeihcbiahnnaaa
open Go.RowKit Go.Deep Go.ChangeShapes Go.WideShapes Go.Joins
set_option linter.unusedSimpArgs false
set_option linter.unusedVariables false

theorem open_fs {H : Type} {enc : TypeId × Value → H} {w : World} {base : Nat} {spare : Nat → Bool} {held : Bool} {fuel : Nat} {v : Value} {x : DataW H × List MemPlace} (h : DataW.trod enc Try.prog w base spare held fuel 22 [v] = some x) :
    ∃ A n c zs, v = .slice A n c ∧ RdI w w.heap.size A n zs ∧ n ≤ maxLen := by
  rcases open_ints Try.underlying22 Try.underlying3 (by kernel_rfl) h with ⟨hcs, _⟩ | ⟨a, len, cap, zs, hcs, _, hl, hm, hz, _, hcell, hwz⟩
  · injection hcs with hcs
    exact ⟨none, 0, 0, [], hcs, Reads.none_, by decide⟩
  · injection hcs with hcs
    have hlm : len ≤ zs.length := by rw [hz]; split <;> omega
    refine ⟨some a, len, cap, zs.take len, hcs, ⟨by simp [ints]; omega, fun hn => ⟨a, rfl, ?_, fun j u hu => ?_⟩⟩, by omega⟩
    · have := World.block_lt_of_cell? w _ (hcell 0 (by omega))
      rwa [block_of_add] at this
    · have hj : j < len := by
        have := (List.getElem?_eq_some_iff.1 hu).1
        simp [ints] at this; omega
      rw [hcell j (by omega), ← hu]
      have : j < zs.length := by omega
      simp [ints, hj, this]

theorem cells_intC : Try.prog.cellsOf 3 = 1 := by kernel_rfl

theorem cells_intsC : Try.prog.cellsOf 22 = 1 := by kernel_rfl

theorem cells_holdC : Try.prog.cellsOf 75 = 2 := by kernel_rfl

theorem open_holds {H : Type} {enc : TypeId × Value → H} {w : World} {base : Nat} {spare : Nat → Bool} {held : Bool} {fuel : Nat} {v : Value} {x : DataW H × List MemPlace} (h : DataW.trod enc Try.prog w base spare held fuel 34 [v] = some x) :
    ∃ A n c hs, v = .slice A n c ∧ RdHX w A n hs ∧ n ≤ maxLen ∧ ∀ y ∈ hs, y.1.length ≤ maxLen := by
  rcases open_slice Try.underlying34 h with ⟨hcs, _⟩ | ⟨a, len, cap, m, n, D, Pl, hcs, _, hl, hm, hmm, _, hi⟩
  · injection hcs with hcs
    exact ⟨none, 0, 0, [], hcs, ⟨rfl, fun h => absurd h (by omega)⟩, by decide, fun y hy => by cases hy⟩
  · injection hcs with hcs
    have hlm : len ≤ m := by rw [hmm]; split <;> omega
    have each : ∀ i, i < len → ∃ e : Ho, (∃ Ai ci, w.cell? (a.add (i * 2)) = some (.slice Ai e.1.length ci) ∧ w.cell? (a.add (i * 2 + 1)) = some (.int .i64 e.2) ∧ RdI w w.heap.size Ai e.1.length e.1) ∧ e.1.length ≤ maxLen := by
      intro i hil
      obtain ⟨cs', h1, h2⟩ := hi i (by omega)
      rw [cells_holdC] at h1
      obtain ⟨_, hlen, hcell⟩ := World.cells?_some h1
      obtain ⟨xs, k, hk, hxy, _, hxl, hf⟩ := DataW.trod_struct Try.underlying75 h2
      match xs, hxl, cs', hlen with
      | [y0, y1], _, [v0, v1], _ =>
        have g0 := hf 0 _ rfl
        have g1 := hf 1 _ rfl
        simp only [cells_intC, cells_intsC, List.drop_succ_cons, List.drop_zero, List.take_succ_cons, List.take_zero, List.getElem?_cons_zero, List.getElem?_cons_succ] at g0 g1
        obtain ⟨A, q, cc, zs, e0, hr, hq⟩ := open_fs g0
        obtain ⟨m1, f1, _, _⟩ := DataW.trod_int Try.underlying3 g1
        injection f1 with f1
        have c0 := hcell 0 (by omega)
        have c1 := hcell 1 (by omega)
        rw [add_add] at c0 c1
        have hz : zs.length = q := hr.len
        subst hz
        refine ⟨(zs, m1), ⟨A, cc, ?_, ?_, hr⟩, hq⟩
        · simpa [e0] using c0
        · simpa [f1] using c1
    obtain ⟨q, hq⟩ := choose_lt each
    refine ⟨some a, len, cap, (List.range len).map q, hcs, ⟨by simp, fun hn => ⟨a, rfl, ?_, fun j y hy => ?_⟩⟩, by omega, fun y hy => ?_⟩
    · obtain ⟨⟨Ai, ci, h0, _⟩, _⟩ := hq 0 hn
      have := World.block_lt_of_cell? w _ h0
      rwa [block_of_add] at this
    · have hj : j < len := by
        have := (List.getElem?_eq_some_iff.1 hy).1
        simpa using this
      rw [List.getElem?_map, List.getElem?_range hj] at hy
      simp only [Option.map_some, Option.some.injEq] at hy
      subst hy
      exact (hq j hj).1
    · rw [List.mem_map] at hy
      obtain ⟨j, hj, rfl⟩ := hy
      exact (hq j (List.mem_range.1 hj)).2
end Go.Proofs.Ytgeihcbiahnnaaa
