/-
  What the frames of laws over a system need: the reading of such an argument, opened.
-/
import Derived.Test.YtbgkinaoelicnaaFrameG
import Derived.Test.YtbgkinaoelicnaaRcB
namespace Go.Proofs.Ytbgkinaoelicnaa
open Go.RowKit Go.Deep Go.ChangeShapes Go.WideShapes Go.Joins
set_option linter.unusedSimpArgs false
set_option linter.unusedVariables false

theorem cells_ents : Try.prog.cellsOf 30 = 1 := by kernel_rfl

theorem cells_grp : Try.prog.cellsOf 32 = 4 := by kernel_rfl

instance : Inhabited Ge := ⟨ge0⟩

theorem open_groups {H : Type} {enc : TypeId × Value → H} {w : World} {base : Nat} {spare : Nat → Bool} {held : Bool} {fuel : Nat} {v : Value} {x : DataW H × List MemPlace} (h : DataW.trod enc Try.prog w base spare held fuel 22 [v] = some x) :
    ∃ A n c gs, v = .slice A n c ∧ RdGX w A n gs ∧ n ≤ maxLen := by
  rcases open_slice Try.underlying22 h with ⟨hcs, _⟩ | ⟨a, len, cap, m, n, D, Pl, hcs, _, hl, hm, hmm, _, hi⟩
  · injection hcs with hcs
    exact ⟨none, 0, 0, [], hcs, ⟨rfl, (fun h => absurd h (by omega)), (fun g hg => by cases hg)⟩, by decide⟩
  · injection hcs with hcs
    have hlm : len ≤ m := by rw [hmm]; split <;> omega
    have each : ∀ i, i < len → ∃ g : Ge, (w.cell? (a.add (i * 4)) = some (.int .i64 g.id) ∧ w.cell? (a.add (i * 4 + 1)) = some (.int .i64 g.ck) ∧ w.cell? (a.add (i * 4 + 2)) = some (.slice g.A1 g.n1 g.c1) ∧ w.cell? (a.add (i * 4 + 3)) = some (.slice g.A2 g.n2 g.c2)) ∧
        RdX w g.A1 g.n1 g.P ∧ RdX w g.A2 g.n2 g.D ∧ g.n1 ≤ 9223372036854775807 ∧ g.n2 ≤ 9223372036854775807 := by
      intro i hil
      obtain ⟨cs', h1, h2⟩ := hi i (by omega)
      rw [cells_grp] at h1
      obtain ⟨_, hlen, hcell⟩ := World.cells?_some h1
      obtain ⟨xs, k, hk, hxy, _, hxl, hf⟩ := DataW.trod_struct Try.underlying32 h2
      match xs, hxl, cs', hlen with
      | [y0, y1, y2, y3], _, [v0, v1, v2, v3], _ =>
        have g0 := hf 0 _ rfl
        have g1 := hf 1 _ rfl
        have g2 := hf 2 _ rfl
        have g3 := hf 3 _ rfl
        simp only [cells_int, cells_ents, List.drop_succ_cons, List.drop_zero, List.take_succ_cons, List.take_zero, List.getElem?_cons_zero, List.getElem?_cons_succ] at g0 g1 g2 g3
        obtain ⟨m0, f0, _, _⟩ := DataW.trod_int Try.underlying3 g0
        obtain ⟨m1, f1, _, _⟩ := DataW.trod_int Try.underlying3 g1
        obtain ⟨A1, n1, c1, P, f2, r1, u1⟩ := open_entries g2
        obtain ⟨A2, n2, c2, Q, f3, r2, u2⟩ := open_entries g3
        injection f0 with f0
        injection f1 with f1
        unfold maxLen at u1 u2
        have e0 := hcell 0 (by omega)
        have e1 := hcell 1 (by omega)
        have e2 := hcell 2 (by omega)
        have e3 := hcell 3 (by omega)
        rw [add_add] at e0 e1 e2 e3
        refine ⟨⟨m0, m1, A1, n1, c1, A2, n2, c2, P, Q⟩, ⟨?_, ?_, ?_, ?_⟩, r1, r2, by omega, by omega⟩
        · simpa [f0] using e0
        · simpa [f1] using e1
        · simpa [f2] using e2
        · simpa [f3] using e3
    obtain ⟨q, hq⟩ := choose_lt each
    refine ⟨some a, len, cap, (List.range len).map q, hcs, ⟨by simp, (fun hn => ⟨a, rfl, ?_, fun j y hy => ?_⟩), fun g hg => ?_⟩, by omega⟩
    · have := World.block_lt_of_cell? w _ (hq 0 hn).1.1
      rwa [block_of_add] at this
    · have hj : j < len := by
        have := (List.getElem?_eq_some_iff.1 hy).1
        simpa using this
      rw [List.getElem?_map, List.getElem?_range hj] at hy
      simp only [Option.map_some, Option.some.injEq] at hy
      subst hy
      exact (hq j hj).1
    · obtain ⟨j, hj, rfl⟩ := List.mem_map.1 hg
      exact (hq j (List.mem_range.1 hj)).2
end Go.Proofs.Ytbgkinaoelicnaa
